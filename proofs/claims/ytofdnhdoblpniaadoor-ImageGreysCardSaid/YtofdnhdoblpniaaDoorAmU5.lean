import Derived.Test.YtofdnhdoblpniaaDoorAmU4
set_option linter.unusedSimpArgs false
set_option linter.unusedVariables false
set_option maxHeartbeats 4000000
set_option maxRecDepth 100000
namespace Go.Am
open Go

theorem wm {a b : Nat} (h : a * b < 9223372036854775808) : IntKind.i64.wrap ((a : Int) * (b : Int)) = ((a * b : Nat) : Int) := by rw [← Int.natCast_mul]; exact w64 (by omega)
theorem wa {a b : Nat} (h : a + b < 9223372036854775808) : IntKind.i64.wrap ((a : Int) + (b : Int)) = ((a + b : Nat) : Int) := by rw [← Int.natCast_add]; exact w64 (by omega)
theorem wa1 {a : Nat} (h : a < 9223372036854775807) : IntKind.i64.wrap ((a : Int) + 1) = ((a + 1 : Nat) : Int) := by rw [w64 (by omega)]; omega
theorem wu8 (b : UInt8) : IntKind.i64.wrap ((b.toNat : Nat) : Int) = (b.toNat : Nat) := w64 (by have := b.toNat_lt; omega)
theorem idx_lt {x y w h : Nat} (hx : x < w) (hy : y < h) : y * w + x < w * h := by
  have : (y + 1) * w ≤ h * w := Nat.mul_le_mul_right _ hy
  rw [Nat.mul_comm w h]
  rw [Nat.add_mul] at this
  omega

/-- What has been filled in of n zeros. -/
def filled (f : Nat → UInt8) (k n : Nat) : List UInt8 := (List.range n).map fun i => if i < k then f i else 0
theorem filled_length (f : Nat → UInt8) (k n : Nat) : (filled f k n).length = n := by simp [filled]
theorem filled_zero (f : Nat → UInt8) (n : Nat) : filled f 0 n = List.replicate n 0 := by
  apply List.ext_getElem <;> simp [filled]
theorem filled_all (f : Nat → UInt8) (n : Nat) : filled f n n = (List.range n).map f := by
  apply List.ext_getElem
  · simp [filled]
  · intro i h1 h2
    simp [filled] at h1 ⊢
    intro h; omega
theorem filled_succ (f : Nat → UInt8) {k n : Nat} : (filled f k n).set k (f k) = filled f (k + 1) n := by
  apply List.ext_getElem
  · simp [filled]
  · intro i h1 h2
    simp only [filled, List.getElem_set, List.getElem_map, List.getElem_range]
    by_cases hik : k = i
    · subst hik; simp
    · have : i < k + 1 ↔ i < k := by omega
      simp [hik, this]
theorem filled_skip {f : Nat → UInt8} {k n : Nat} (h0 : f k = 0) : filled f (k + 1) n = filled f k n := by
  rw [← filled_succ f, h0]
  apply List.ext_getElem
  · simp
  · intro i h1 h2
    rw [List.getElem_set]
    split
    · rename_i e; subst e; simp [filled]
    · rfl

instance K_refFits {w h : Int} {H : AHeap} : PureCon ext prog 89 [.int .i64 w, .int .i64 h] H 1 (.bool (sideB w && sideB h)) := ⟨by
  refine con_of (show prog 89 = some c89 from rfl) rfl rfl fun n hn => ?_
  unfold sideB
  cases h1 : decide (w ≥ 0)
  · skip
    repeat (first
      | (refine WpO.do (WpX.ld rfl rfl ?_); try simp only [nrm, Nat.reduceEqDiff, reduceIte, Nat.reduceAdd, h1])
      | (refine WpO.do (WpX.ldN rfl rfl rfl ?_); try simp only [nrm, Nat.reduceEqDiff, reduceIte, Nat.reduceAdd, h1])
      | (refine WpO.do (WpX.lenP (by (try simp only [nrm, Nat.reduceEqDiff, reduceIte, Nat.reduceAdd, h1]); rfl) ?_); try simp only [nrm, Nat.reduceEqDiff, reduceIte, Nat.reduceAdd, h1])
      | (refine WpO.now rfl rfl ?_; try simp only [nrm, Nat.reduceEqDiff, reduceIte, Nat.reduceAdd, h1])
      | (refine WpO.do' (WpX.st rfl (by (try simp only [nrm, Nat.reduceEqDiff, reduceIte, Nat.reduceAdd, h1]); rfl) rfl rfl rfl (by repeat (first | rfl | refine allOne_cons ?_)) rfl ?_); try simp only [nrm, Nat.reduceEqDiff, reduceIte, Nat.reduceAdd, h1])
      | (refine WpO.do (WpX.pcall hn rfl (by simp only [nrm, Nat.reduceEqDiff, reduceIte, Nat.reduceAdd, h1, List.map]; rfl) rfl fun _ _ => ?_); try simp only [nrm, Nat.reduceEqDiff, reduceIte, Nat.reduceAdd, h1])
      | (refine WpO.do (WpX.idxP (by (try simp only [nrm, Nat.reduceEqDiff, reduceIte, Nat.reduceAdd, h1]); rfl) rfl ?_ ?_); (focus omega); try simp only [nrm, Nat.reduceEqDiff, reduceIte, Nat.reduceAdd, h1])
      | (refine WpO.do (WpX.ldB rfl ?_ ?_); (focus omega); try simp only [nrm, Nat.reduceEqDiff, reduceIte, Nat.reduceAdd, h1])
      | (refine WpO.do (WpX.ldI rfl ?_ ?_); (focus omega); try simp only [nrm, Nat.reduceEqDiff, reduceIte, Nat.reduceAdd, h1])
      | (refine WpO.do (WpX.build (by repeat (first | refine aFill1 (by (try simp only [nrm, Nat.reduceEqDiff, reduceIte, Nat.reduceAdd, h1]); rfl) rfl ?_ | rfl)) ?_); try simp only [nrm, Nat.reduceEqDiff, reduceIte, Nat.reduceAdd, h1])
      | (refine WpO.guard rfl (fun _ => ?_) (fun h => absurd rfl h))
      | (refine WpO.guard rfl (fun h => absurd h (by decide)) (fun _ => ?_); try simp only [nrm, Nat.reduceEqDiff, reduceIte, Nat.reduceAdd, h1])
      | refine WpO.nil ?_
      | refine Wp.seq ?_
      | refine Wp.region ?_
      | refine Wp.dquiet rfl rfl ?_
      | refine Wp.cond (b := true) rfl ?_
      | refine Wp.cond (b := false) rfl ?_
      | refine Wp.skip ?_
      | refine Wp.ret ?_
      | refine Wp.block ?_
      | refine Wp.exit ?_
      | dsimp only [cond_true, cond_false])
    exact ⟨trivial, _, rfl, rfl, Ext0.ext⟩
  cases h2 : decide (w ≤ 640)
  · skip
    repeat (first
      | (refine WpO.do (WpX.ld rfl rfl ?_); try simp only [nrm, Nat.reduceEqDiff, reduceIte, Nat.reduceAdd, h1, h2])
      | (refine WpO.do (WpX.ldN rfl rfl rfl ?_); try simp only [nrm, Nat.reduceEqDiff, reduceIte, Nat.reduceAdd, h1, h2])
      | (refine WpO.do (WpX.lenP (by (try simp only [nrm, Nat.reduceEqDiff, reduceIte, Nat.reduceAdd, h1, h2]); rfl) ?_); try simp only [nrm, Nat.reduceEqDiff, reduceIte, Nat.reduceAdd, h1, h2])
      | (refine WpO.now rfl rfl ?_; try simp only [nrm, Nat.reduceEqDiff, reduceIte, Nat.reduceAdd, h1, h2])
      | (refine WpO.do' (WpX.st rfl (by (try simp only [nrm, Nat.reduceEqDiff, reduceIte, Nat.reduceAdd, h1, h2]); rfl) rfl rfl rfl (by repeat (first | rfl | refine allOne_cons ?_)) rfl ?_); try simp only [nrm, Nat.reduceEqDiff, reduceIte, Nat.reduceAdd, h1, h2])
      | (refine WpO.do (WpX.pcall hn rfl (by simp only [nrm, Nat.reduceEqDiff, reduceIte, Nat.reduceAdd, h1, h2, List.map]; rfl) rfl fun _ _ => ?_); try simp only [nrm, Nat.reduceEqDiff, reduceIte, Nat.reduceAdd, h1, h2])
      | (refine WpO.do (WpX.idxP (by (try simp only [nrm, Nat.reduceEqDiff, reduceIte, Nat.reduceAdd, h1, h2]); rfl) rfl ?_ ?_); (focus omega); try simp only [nrm, Nat.reduceEqDiff, reduceIte, Nat.reduceAdd, h1, h2])
      | (refine WpO.do (WpX.ldB rfl ?_ ?_); (focus omega); try simp only [nrm, Nat.reduceEqDiff, reduceIte, Nat.reduceAdd, h1, h2])
      | (refine WpO.do (WpX.ldI rfl ?_ ?_); (focus omega); try simp only [nrm, Nat.reduceEqDiff, reduceIte, Nat.reduceAdd, h1, h2])
      | (refine WpO.do (WpX.build (by repeat (first | refine aFill1 (by (try simp only [nrm, Nat.reduceEqDiff, reduceIte, Nat.reduceAdd, h1, h2]); rfl) rfl ?_ | rfl)) ?_); try simp only [nrm, Nat.reduceEqDiff, reduceIte, Nat.reduceAdd, h1, h2])
      | (refine WpO.guard rfl (fun _ => ?_) (fun h => absurd rfl h))
      | (refine WpO.guard rfl (fun h => absurd h (by decide)) (fun _ => ?_); try simp only [nrm, Nat.reduceEqDiff, reduceIte, Nat.reduceAdd, h1, h2])
      | refine WpO.nil ?_
      | refine Wp.seq ?_
      | refine Wp.region ?_
      | refine Wp.dquiet rfl rfl ?_
      | refine Wp.cond (b := true) rfl ?_
      | refine Wp.cond (b := false) rfl ?_
      | refine Wp.skip ?_
      | refine Wp.ret ?_
      | refine Wp.block ?_
      | refine Wp.exit ?_
      | dsimp only [cond_true, cond_false])
    exact ⟨trivial, _, rfl, rfl, Ext0.ext⟩
  cases h3 : decide (h ≥ 0)
  · skip
    repeat (first
      | (refine WpO.do (WpX.ld rfl rfl ?_); try simp only [nrm, Nat.reduceEqDiff, reduceIte, Nat.reduceAdd, h1, h2, h3])
      | (refine WpO.do (WpX.ldN rfl rfl rfl ?_); try simp only [nrm, Nat.reduceEqDiff, reduceIte, Nat.reduceAdd, h1, h2, h3])
      | (refine WpO.do (WpX.lenP (by (try simp only [nrm, Nat.reduceEqDiff, reduceIte, Nat.reduceAdd, h1, h2, h3]); rfl) ?_); try simp only [nrm, Nat.reduceEqDiff, reduceIte, Nat.reduceAdd, h1, h2, h3])
      | (refine WpO.now rfl rfl ?_; try simp only [nrm, Nat.reduceEqDiff, reduceIte, Nat.reduceAdd, h1, h2, h3])
      | (refine WpO.do' (WpX.st rfl (by (try simp only [nrm, Nat.reduceEqDiff, reduceIte, Nat.reduceAdd, h1, h2, h3]); rfl) rfl rfl rfl (by repeat (first | rfl | refine allOne_cons ?_)) rfl ?_); try simp only [nrm, Nat.reduceEqDiff, reduceIte, Nat.reduceAdd, h1, h2, h3])
      | (refine WpO.do (WpX.pcall hn rfl (by simp only [nrm, Nat.reduceEqDiff, reduceIte, Nat.reduceAdd, h1, h2, h3, List.map]; rfl) rfl fun _ _ => ?_); try simp only [nrm, Nat.reduceEqDiff, reduceIte, Nat.reduceAdd, h1, h2, h3])
      | (refine WpO.do (WpX.idxP (by (try simp only [nrm, Nat.reduceEqDiff, reduceIte, Nat.reduceAdd, h1, h2, h3]); rfl) rfl ?_ ?_); (focus omega); try simp only [nrm, Nat.reduceEqDiff, reduceIte, Nat.reduceAdd, h1, h2, h3])
      | (refine WpO.do (WpX.ldB rfl ?_ ?_); (focus omega); try simp only [nrm, Nat.reduceEqDiff, reduceIte, Nat.reduceAdd, h1, h2, h3])
      | (refine WpO.do (WpX.ldI rfl ?_ ?_); (focus omega); try simp only [nrm, Nat.reduceEqDiff, reduceIte, Nat.reduceAdd, h1, h2, h3])
      | (refine WpO.do (WpX.build (by repeat (first | refine aFill1 (by (try simp only [nrm, Nat.reduceEqDiff, reduceIte, Nat.reduceAdd, h1, h2, h3]); rfl) rfl ?_ | rfl)) ?_); try simp only [nrm, Nat.reduceEqDiff, reduceIte, Nat.reduceAdd, h1, h2, h3])
      | (refine WpO.guard rfl (fun _ => ?_) (fun h => absurd rfl h))
      | (refine WpO.guard rfl (fun h => absurd h (by decide)) (fun _ => ?_); try simp only [nrm, Nat.reduceEqDiff, reduceIte, Nat.reduceAdd, h1, h2, h3])
      | refine WpO.nil ?_
      | refine Wp.seq ?_
      | refine Wp.region ?_
      | refine Wp.dquiet rfl rfl ?_
      | refine Wp.cond (b := true) rfl ?_
      | refine Wp.cond (b := false) rfl ?_
      | refine Wp.skip ?_
      | refine Wp.ret ?_
      | refine Wp.block ?_
      | refine Wp.exit ?_
      | dsimp only [cond_true, cond_false])
    exact ⟨trivial, _, rfl, rfl, Ext0.ext⟩
  cases h4 : decide (h ≤ 640)
  · skip
    repeat (first
      | (refine WpO.do (WpX.ld rfl rfl ?_); try simp only [nrm, Nat.reduceEqDiff, reduceIte, Nat.reduceAdd, h1, h2, h3, h4])
      | (refine WpO.do (WpX.ldN rfl rfl rfl ?_); try simp only [nrm, Nat.reduceEqDiff, reduceIte, Nat.reduceAdd, h1, h2, h3, h4])
      | (refine WpO.do (WpX.lenP (by (try simp only [nrm, Nat.reduceEqDiff, reduceIte, Nat.reduceAdd, h1, h2, h3, h4]); rfl) ?_); try simp only [nrm, Nat.reduceEqDiff, reduceIte, Nat.reduceAdd, h1, h2, h3, h4])
      | (refine WpO.now rfl rfl ?_; try simp only [nrm, Nat.reduceEqDiff, reduceIte, Nat.reduceAdd, h1, h2, h3, h4])
      | (refine WpO.do' (WpX.st rfl (by (try simp only [nrm, Nat.reduceEqDiff, reduceIte, Nat.reduceAdd, h1, h2, h3, h4]); rfl) rfl rfl rfl (by repeat (first | rfl | refine allOne_cons ?_)) rfl ?_); try simp only [nrm, Nat.reduceEqDiff, reduceIte, Nat.reduceAdd, h1, h2, h3, h4])
      | (refine WpO.do (WpX.pcall hn rfl (by simp only [nrm, Nat.reduceEqDiff, reduceIte, Nat.reduceAdd, h1, h2, h3, h4, List.map]; rfl) rfl fun _ _ => ?_); try simp only [nrm, Nat.reduceEqDiff, reduceIte, Nat.reduceAdd, h1, h2, h3, h4])
      | (refine WpO.do (WpX.idxP (by (try simp only [nrm, Nat.reduceEqDiff, reduceIte, Nat.reduceAdd, h1, h2, h3, h4]); rfl) rfl ?_ ?_); (focus omega); try simp only [nrm, Nat.reduceEqDiff, reduceIte, Nat.reduceAdd, h1, h2, h3, h4])
      | (refine WpO.do (WpX.ldB rfl ?_ ?_); (focus omega); try simp only [nrm, Nat.reduceEqDiff, reduceIte, Nat.reduceAdd, h1, h2, h3, h4])
      | (refine WpO.do (WpX.ldI rfl ?_ ?_); (focus omega); try simp only [nrm, Nat.reduceEqDiff, reduceIte, Nat.reduceAdd, h1, h2, h3, h4])
      | (refine WpO.do (WpX.build (by repeat (first | refine aFill1 (by (try simp only [nrm, Nat.reduceEqDiff, reduceIte, Nat.reduceAdd, h1, h2, h3, h4]); rfl) rfl ?_ | rfl)) ?_); try simp only [nrm, Nat.reduceEqDiff, reduceIte, Nat.reduceAdd, h1, h2, h3, h4])
      | (refine WpO.guard rfl (fun _ => ?_) (fun h => absurd rfl h))
      | (refine WpO.guard rfl (fun h => absurd h (by decide)) (fun _ => ?_); try simp only [nrm, Nat.reduceEqDiff, reduceIte, Nat.reduceAdd, h1, h2, h3, h4])
      | refine WpO.nil ?_
      | refine Wp.seq ?_
      | refine Wp.region ?_
      | refine Wp.dquiet rfl rfl ?_
      | refine Wp.cond (b := true) rfl ?_
      | refine Wp.cond (b := false) rfl ?_
      | refine Wp.skip ?_
      | refine Wp.ret ?_
      | refine Wp.block ?_
      | refine Wp.exit ?_
      | dsimp only [cond_true, cond_false])
    exact ⟨trivial, _, rfl, rfl, Ext0.ext⟩
  · skip
    repeat (first
      | (refine WpO.do (WpX.ld rfl rfl ?_); try simp only [nrm, Nat.reduceEqDiff, reduceIte, Nat.reduceAdd, h1, h2, h3, h4])
      | (refine WpO.do (WpX.ldN rfl rfl rfl ?_); try simp only [nrm, Nat.reduceEqDiff, reduceIte, Nat.reduceAdd, h1, h2, h3, h4])
      | (refine WpO.do (WpX.lenP (by (try simp only [nrm, Nat.reduceEqDiff, reduceIte, Nat.reduceAdd, h1, h2, h3, h4]); rfl) ?_); try simp only [nrm, Nat.reduceEqDiff, reduceIte, Nat.reduceAdd, h1, h2, h3, h4])
      | (refine WpO.now rfl rfl ?_; try simp only [nrm, Nat.reduceEqDiff, reduceIte, Nat.reduceAdd, h1, h2, h3, h4])
      | (refine WpO.do' (WpX.st rfl (by (try simp only [nrm, Nat.reduceEqDiff, reduceIte, Nat.reduceAdd, h1, h2, h3, h4]); rfl) rfl rfl rfl (by repeat (first | rfl | refine allOne_cons ?_)) rfl ?_); try simp only [nrm, Nat.reduceEqDiff, reduceIte, Nat.reduceAdd, h1, h2, h3, h4])
      | (refine WpO.do (WpX.pcall hn rfl (by simp only [nrm, Nat.reduceEqDiff, reduceIte, Nat.reduceAdd, h1, h2, h3, h4, List.map]; rfl) rfl fun _ _ => ?_); try simp only [nrm, Nat.reduceEqDiff, reduceIte, Nat.reduceAdd, h1, h2, h3, h4])
      | (refine WpO.do (WpX.idxP (by (try simp only [nrm, Nat.reduceEqDiff, reduceIte, Nat.reduceAdd, h1, h2, h3, h4]); rfl) rfl ?_ ?_); (focus omega); try simp only [nrm, Nat.reduceEqDiff, reduceIte, Nat.reduceAdd, h1, h2, h3, h4])
      | (refine WpO.do (WpX.ldB rfl ?_ ?_); (focus omega); try simp only [nrm, Nat.reduceEqDiff, reduceIte, Nat.reduceAdd, h1, h2, h3, h4])
      | (refine WpO.do (WpX.ldI rfl ?_ ?_); (focus omega); try simp only [nrm, Nat.reduceEqDiff, reduceIte, Nat.reduceAdd, h1, h2, h3, h4])
      | (refine WpO.do (WpX.build (by repeat (first | refine aFill1 (by (try simp only [nrm, Nat.reduceEqDiff, reduceIte, Nat.reduceAdd, h1, h2, h3, h4]); rfl) rfl ?_ | rfl)) ?_); try simp only [nrm, Nat.reduceEqDiff, reduceIte, Nat.reduceAdd, h1, h2, h3, h4])
      | (refine WpO.guard rfl (fun _ => ?_) (fun h => absurd rfl h))
      | (refine WpO.guard rfl (fun h => absurd h (by decide)) (fun _ => ?_); try simp only [nrm, Nat.reduceEqDiff, reduceIte, Nat.reduceAdd, h1, h2, h3, h4])
      | refine WpO.nil ?_
      | refine Wp.seq ?_
      | refine Wp.region ?_
      | refine Wp.dquiet rfl rfl ?_
      | refine Wp.cond (b := true) rfl ?_
      | refine Wp.cond (b := false) rfl ?_
      | refine Wp.skip ?_
      | refine Wp.ret ?_
      | refine Wp.block ?_
      | refine Wp.exit ?_
      | dsimp only [cond_true, cond_false])
    exact ⟨trivial, _, rfl, rfl, Ext0.ext⟩⟩

instance K_refCheckGrey {a b : Int} {p : AVal} {H : AHeap} {sz k : Nat} {cs : List AVal} [hp : SliceAt H p sz k cs] : PureCon ext prog 26 [.agg [.int .i64 a, .int .i64 b, p]] H 3 (.int .i64 (sizeErr (sizedB a b k))) := ⟨by
  refine con_of (show prog 26 = some c26 from rfl) rfl rfl fun n hn => ?_
  unfold sizedB
  cases h1 : (sideB a && sideB b)
  · skip
    repeat (first
      | (refine WpO.do (WpX.ld rfl rfl ?_); try simp only [nrm, Nat.reduceEqDiff, reduceIte, Nat.reduceAdd, h1])
      | (refine WpO.do (WpX.ldN rfl rfl rfl ?_); try simp only [nrm, Nat.reduceEqDiff, reduceIte, Nat.reduceAdd, h1])
      | (refine WpO.do (WpX.lenP (by (try simp only [nrm, Nat.reduceEqDiff, reduceIte, Nat.reduceAdd, h1]); rfl) ?_); try simp only [nrm, Nat.reduceEqDiff, reduceIte, Nat.reduceAdd, h1])
      | (refine WpO.now rfl rfl ?_; try simp only [nrm, Nat.reduceEqDiff, reduceIte, Nat.reduceAdd, h1])
      | (refine WpO.do' (WpX.st rfl (by (try simp only [nrm, Nat.reduceEqDiff, reduceIte, Nat.reduceAdd, h1]); rfl) rfl rfl rfl (by repeat (first | rfl | refine allOne_cons ?_)) rfl ?_); try simp only [nrm, Nat.reduceEqDiff, reduceIte, Nat.reduceAdd, h1])
      | (refine WpO.do (WpX.pcall hn rfl (by simp only [nrm, Nat.reduceEqDiff, reduceIte, Nat.reduceAdd, h1, List.map]; rfl) rfl fun _ _ => ?_); try simp only [nrm, Nat.reduceEqDiff, reduceIte, Nat.reduceAdd, h1])
      | (refine WpO.do (WpX.idxP (by (try simp only [nrm, Nat.reduceEqDiff, reduceIte, Nat.reduceAdd, h1]); rfl) rfl ?_ ?_); (focus omega); try simp only [nrm, Nat.reduceEqDiff, reduceIte, Nat.reduceAdd, h1])
      | (refine WpO.do (WpX.ldB rfl ?_ ?_); (focus omega); try simp only [nrm, Nat.reduceEqDiff, reduceIte, Nat.reduceAdd, h1])
      | (refine WpO.do (WpX.ldI rfl ?_ ?_); (focus omega); try simp only [nrm, Nat.reduceEqDiff, reduceIte, Nat.reduceAdd, h1])
      | (refine WpO.do (WpX.build (by repeat (first | refine aFill1 (by (try simp only [nrm, Nat.reduceEqDiff, reduceIte, Nat.reduceAdd, h1]); rfl) rfl ?_ | rfl)) ?_); try simp only [nrm, Nat.reduceEqDiff, reduceIte, Nat.reduceAdd, h1])
      | (refine WpO.guard rfl (fun _ => ?_) (fun h => absurd rfl h))
      | (refine WpO.guard rfl (fun h => absurd h (by decide)) (fun _ => ?_); try simp only [nrm, Nat.reduceEqDiff, reduceIte, Nat.reduceAdd, h1])
      | refine WpO.nil ?_
      | refine Wp.seq ?_
      | refine Wp.region ?_
      | refine Wp.dquiet rfl rfl ?_
      | refine Wp.cond (b := true) rfl ?_
      | refine Wp.cond (b := false) rfl ?_
      | refine Wp.skip ?_
      | refine Wp.ret ?_
      | refine Wp.block ?_
      | refine Wp.exit ?_
      | dsimp only [cond_true, cond_false])
    exact ⟨trivial, _, rfl, rfl, Ext0.ext⟩
  cases h2 : ((k : Int) == IntKind.i64.wrap (a * b))
  · skip
    repeat (first
      | (refine WpO.do (WpX.ld rfl rfl ?_); try simp only [nrm, Nat.reduceEqDiff, reduceIte, Nat.reduceAdd, h1, h2, bne])
      | (refine WpO.do (WpX.ldN rfl rfl rfl ?_); try simp only [nrm, Nat.reduceEqDiff, reduceIte, Nat.reduceAdd, h1, h2, bne])
      | (refine WpO.do (WpX.lenP (by (try simp only [nrm, Nat.reduceEqDiff, reduceIte, Nat.reduceAdd, h1, h2, bne]); rfl) ?_); try simp only [nrm, Nat.reduceEqDiff, reduceIte, Nat.reduceAdd, h1, h2, bne])
      | (refine WpO.now rfl rfl ?_; try simp only [nrm, Nat.reduceEqDiff, reduceIte, Nat.reduceAdd, h1, h2, bne])
      | (refine WpO.do' (WpX.st rfl (by (try simp only [nrm, Nat.reduceEqDiff, reduceIte, Nat.reduceAdd, h1, h2, bne]); rfl) rfl rfl rfl (by repeat (first | rfl | refine allOne_cons ?_)) rfl ?_); try simp only [nrm, Nat.reduceEqDiff, reduceIte, Nat.reduceAdd, h1, h2, bne])
      | (refine WpO.do (WpX.pcall hn rfl (by simp only [nrm, Nat.reduceEqDiff, reduceIte, Nat.reduceAdd, h1, h2, bne, List.map]; rfl) rfl fun _ _ => ?_); try simp only [nrm, Nat.reduceEqDiff, reduceIte, Nat.reduceAdd, h1, h2, bne])
      | (refine WpO.do (WpX.idxP (by (try simp only [nrm, Nat.reduceEqDiff, reduceIte, Nat.reduceAdd, h1, h2, bne]); rfl) rfl ?_ ?_); (focus omega); try simp only [nrm, Nat.reduceEqDiff, reduceIte, Nat.reduceAdd, h1, h2, bne])
      | (refine WpO.do (WpX.ldB rfl ?_ ?_); (focus omega); try simp only [nrm, Nat.reduceEqDiff, reduceIte, Nat.reduceAdd, h1, h2, bne])
      | (refine WpO.do (WpX.ldI rfl ?_ ?_); (focus omega); try simp only [nrm, Nat.reduceEqDiff, reduceIte, Nat.reduceAdd, h1, h2, bne])
      | (refine WpO.do (WpX.build (by repeat (first | refine aFill1 (by (try simp only [nrm, Nat.reduceEqDiff, reduceIte, Nat.reduceAdd, h1, h2, bne]); rfl) rfl ?_ | rfl)) ?_); try simp only [nrm, Nat.reduceEqDiff, reduceIte, Nat.reduceAdd, h1, h2, bne])
      | (refine WpO.guard rfl (fun _ => ?_) (fun h => absurd rfl h))
      | (refine WpO.guard rfl (fun h => absurd h (by decide)) (fun _ => ?_); try simp only [nrm, Nat.reduceEqDiff, reduceIte, Nat.reduceAdd, h1, h2, bne])
      | refine WpO.nil ?_
      | refine Wp.seq ?_
      | refine Wp.region ?_
      | refine Wp.dquiet rfl rfl ?_
      | refine Wp.cond (b := true) rfl ?_
      | refine Wp.cond (b := false) rfl ?_
      | refine Wp.skip ?_
      | refine Wp.ret ?_
      | refine Wp.block ?_
      | refine Wp.exit ?_
      | dsimp only [cond_true, cond_false])
    exact ⟨trivial, _, rfl, rfl, Ext0.ext⟩
  · skip
    repeat (first
      | (refine WpO.do (WpX.ld rfl rfl ?_); try simp only [nrm, Nat.reduceEqDiff, reduceIte, Nat.reduceAdd, h1, h2, bne])
      | (refine WpO.do (WpX.ldN rfl rfl rfl ?_); try simp only [nrm, Nat.reduceEqDiff, reduceIte, Nat.reduceAdd, h1, h2, bne])
      | (refine WpO.do (WpX.lenP (by (try simp only [nrm, Nat.reduceEqDiff, reduceIte, Nat.reduceAdd, h1, h2, bne]); rfl) ?_); try simp only [nrm, Nat.reduceEqDiff, reduceIte, Nat.reduceAdd, h1, h2, bne])
      | (refine WpO.now rfl rfl ?_; try simp only [nrm, Nat.reduceEqDiff, reduceIte, Nat.reduceAdd, h1, h2, bne])
      | (refine WpO.do' (WpX.st rfl (by (try simp only [nrm, Nat.reduceEqDiff, reduceIte, Nat.reduceAdd, h1, h2, bne]); rfl) rfl rfl rfl (by repeat (first | rfl | refine allOne_cons ?_)) rfl ?_); try simp only [nrm, Nat.reduceEqDiff, reduceIte, Nat.reduceAdd, h1, h2, bne])
      | (refine WpO.do (WpX.pcall hn rfl (by simp only [nrm, Nat.reduceEqDiff, reduceIte, Nat.reduceAdd, h1, h2, bne, List.map]; rfl) rfl fun _ _ => ?_); try simp only [nrm, Nat.reduceEqDiff, reduceIte, Nat.reduceAdd, h1, h2, bne])
      | (refine WpO.do (WpX.idxP (by (try simp only [nrm, Nat.reduceEqDiff, reduceIte, Nat.reduceAdd, h1, h2, bne]); rfl) rfl ?_ ?_); (focus omega); try simp only [nrm, Nat.reduceEqDiff, reduceIte, Nat.reduceAdd, h1, h2, bne])
      | (refine WpO.do (WpX.ldB rfl ?_ ?_); (focus omega); try simp only [nrm, Nat.reduceEqDiff, reduceIte, Nat.reduceAdd, h1, h2, bne])
      | (refine WpO.do (WpX.ldI rfl ?_ ?_); (focus omega); try simp only [nrm, Nat.reduceEqDiff, reduceIte, Nat.reduceAdd, h1, h2, bne])
      | (refine WpO.do (WpX.build (by repeat (first | refine aFill1 (by (try simp only [nrm, Nat.reduceEqDiff, reduceIte, Nat.reduceAdd, h1, h2, bne]); rfl) rfl ?_ | rfl)) ?_); try simp only [nrm, Nat.reduceEqDiff, reduceIte, Nat.reduceAdd, h1, h2, bne])
      | (refine WpO.guard rfl (fun _ => ?_) (fun h => absurd rfl h))
      | (refine WpO.guard rfl (fun h => absurd h (by decide)) (fun _ => ?_); try simp only [nrm, Nat.reduceEqDiff, reduceIte, Nat.reduceAdd, h1, h2, bne])
      | refine WpO.nil ?_
      | refine Wp.seq ?_
      | refine Wp.region ?_
      | refine Wp.dquiet rfl rfl ?_
      | refine Wp.cond (b := true) rfl ?_
      | refine Wp.cond (b := false) rfl ?_
      | refine Wp.skip ?_
      | refine Wp.ret ?_
      | refine Wp.block ?_
      | refine Wp.exit ?_
      | dsimp only [cond_true, cond_false])
    exact ⟨trivial, _, rfl, rfl, Ext0.ext⟩⟩

theorem K_refNew {w h : Nat} {H : AHeap} (hw : w ≤ 640) (hh : h ≤ 640) : Con ext prog 1 97 [.int .i64 w, .int .i64 h] H fun v H' => NewInk H H' v ⟨w, h, List.replicate (w * h) 0⟩ := by
  refine con_of (show prog 97 = some c97 from rfl) rfl rfl fun n hn => ?_
  have hm : w * h ≤ 640 * 640 := Nat.mul_le_mul hw hh
  have hc : IntKind.i64.wrap ((w : Int) * (h : Int)) = ((w * h : Nat) : Int) := wm (by omega)
  repeat (first
    | (refine WpO.do (WpX.ld rfl rfl ?_); try simp only [nrm, Nat.reduceEqDiff, reduceIte, Nat.reduceAdd, hc])
    | (refine WpO.do (WpX.ldN rfl rfl rfl ?_); try simp only [nrm, Nat.reduceEqDiff, reduceIte, Nat.reduceAdd, hc])
    | (refine WpO.do (WpX.lenP (by (try simp only [nrm, Nat.reduceEqDiff, reduceIte, Nat.reduceAdd, hc]); rfl) ?_); try simp only [nrm, Nat.reduceEqDiff, reduceIte, Nat.reduceAdd, hc])
    | (refine WpO.now rfl rfl ?_; try simp only [nrm, Nat.reduceEqDiff, reduceIte, Nat.reduceAdd, hc])
    | (refine WpO.do' (WpX.st rfl (by (try simp only [nrm, Nat.reduceEqDiff, reduceIte, Nat.reduceAdd, hc]); rfl) rfl rfl rfl (by repeat (first | rfl | refine allOne_cons ?_)) rfl ?_); try simp only [nrm, Nat.reduceEqDiff, reduceIte, Nat.reduceAdd, hc])
    | (refine WpO.do (WpX.pcall hn rfl (by simp only [nrm, Nat.reduceEqDiff, reduceIte, Nat.reduceAdd, hc, List.map]; rfl) rfl fun _ _ => ?_); try simp only [nrm, Nat.reduceEqDiff, reduceIte, Nat.reduceAdd, hc])
    | (refine WpO.do (WpX.idxP (by (try simp only [nrm, Nat.reduceEqDiff, reduceIte, Nat.reduceAdd, hc]); rfl) rfl ?_ ?_); (focus omega); try simp only [nrm, Nat.reduceEqDiff, reduceIte, Nat.reduceAdd, hc])
    | (refine WpO.do (WpX.ldB rfl ?_ ?_); (focus omega); try simp only [nrm, Nat.reduceEqDiff, reduceIte, Nat.reduceAdd, hc])
    | (refine WpO.do (WpX.ldI rfl ?_ ?_); (focus omega); try simp only [nrm, Nat.reduceEqDiff, reduceIte, Nat.reduceAdd, hc])
    | (refine WpO.do (WpX.build (by repeat (first | refine aFill1 (by (try simp only [nrm, Nat.reduceEqDiff, reduceIte, Nat.reduceAdd, hc]); rfl) rfl ?_ | rfl)) ?_); try simp only [nrm, Nat.reduceEqDiff, reduceIte, Nat.reduceAdd, hc])
    | (refine WpO.guard rfl (fun _ => ?_) (fun h => absurd rfl h))
    | (refine WpO.guard rfl (fun h => absurd h (by decide)) (fun _ => ?_); try simp only [nrm, Nat.reduceEqDiff, reduceIte, Nat.reduceAdd, hc])
    | refine WpO.nil ?_
    | refine Wp.seq ?_
    | refine Wp.region ?_
    | refine Wp.dquiet rfl rfl ?_
    | refine Wp.cond (b := true) rfl ?_
    | refine Wp.cond (b := false) rfl ?_
    | refine Wp.skip ?_
    | refine Wp.ret ?_
    | refine Wp.block ?_
    | refine Wp.exit ?_
    | dsimp only [cond_true, cond_false])
  refine WpO.do (WpX.mkB rfl rfl rfl (by omega) fun p H1 e1 hb hf hw' hx => ?_); try simp only [nrm, Nat.reduceEqDiff, reduceIte, Nat.reduceAdd, hc]
  haveI := hb.one
  repeat (first
    | (refine WpO.do (WpX.ld rfl rfl ?_); try simp only [nrm, Nat.reduceEqDiff, reduceIte, Nat.reduceAdd])
    | (refine WpO.do (WpX.ldN rfl rfl rfl ?_); try simp only [nrm, Nat.reduceEqDiff, reduceIte, Nat.reduceAdd])
    | (refine WpO.do (WpX.lenP (by (try simp only [nrm, Nat.reduceEqDiff, reduceIte, Nat.reduceAdd]); rfl) ?_); try simp only [nrm, Nat.reduceEqDiff, reduceIte, Nat.reduceAdd])
    | (refine WpO.now rfl rfl ?_; try simp only [nrm, Nat.reduceEqDiff, reduceIte, Nat.reduceAdd])
    | (refine WpO.do' (WpX.st rfl (by (try simp only [nrm, Nat.reduceEqDiff, reduceIte, Nat.reduceAdd]); rfl) rfl rfl rfl (by repeat (first | rfl | refine allOne_cons ?_)) rfl ?_); try simp only [nrm, Nat.reduceEqDiff, reduceIte, Nat.reduceAdd])
    | (refine WpO.do (WpX.pcall hn rfl (by simp only [nrm, Nat.reduceEqDiff, reduceIte, Nat.reduceAdd, List.map]; rfl) rfl fun _ _ => ?_); try simp only [nrm, Nat.reduceEqDiff, reduceIte, Nat.reduceAdd])
    | (refine WpO.do (WpX.idxP (by (try simp only [nrm, Nat.reduceEqDiff, reduceIte, Nat.reduceAdd]); rfl) rfl ?_ ?_); (focus omega); try simp only [nrm, Nat.reduceEqDiff, reduceIte, Nat.reduceAdd])
    | (refine WpO.do (WpX.ldB rfl ?_ ?_); (focus omega); try simp only [nrm, Nat.reduceEqDiff, reduceIte, Nat.reduceAdd])
    | (refine WpO.do (WpX.ldI rfl ?_ ?_); (focus omega); try simp only [nrm, Nat.reduceEqDiff, reduceIte, Nat.reduceAdd])
    | (refine WpO.do (WpX.build (by repeat (first | refine aFill1 (by (try simp only [nrm, Nat.reduceEqDiff, reduceIte, Nat.reduceAdd]); rfl) rfl ?_ | rfl)) ?_); try simp only [nrm, Nat.reduceEqDiff, reduceIte, Nat.reduceAdd])
    | (refine WpO.guard rfl (fun _ => ?_) (fun h => absurd rfl h))
    | (refine WpO.guard rfl (fun h => absurd h (by decide)) (fun _ => ?_); try simp only [nrm, Nat.reduceEqDiff, reduceIte, Nat.reduceAdd])
    | refine WpO.nil ?_
    | refine Wp.seq ?_
    | refine Wp.region ?_
    | refine Wp.dquiet rfl rfl ?_
    | refine Wp.cond (b := true) rfl ?_
    | refine Wp.cond (b := false) rfl ?_
    | refine Wp.skip ?_
    | refine Wp.ret ?_
    | refine Wp.block ?_
    | refine Wp.exit ?_
    | dsimp only [cond_true, cond_false])
  refine ⟨trivial, _, (by first | rfl | exact getAllC rfl rfl rfl rfl | exact getAllT rfl (getAllC rfl rfl rfl rfl) | exact getAllC rfl rfl rfl (getAllC rfl rfl rfl rfl) | exact getAllC1 rfl rfl rfl), ?_⟩
  exact ⟨p, rfl, inferInstance, hf.weak, inferInstance, Ext0.ext⟩

/-- A pixel is set. -/
theorem K_refSet {x y w : Nat} {h : Int} {p : AVal} {H : AHeap} {l : List UInt8} [hp : BytesI H p l] [hw : WrS H p] (hi : y * w + x < l.length) (hl : l.length < 2 ^ 40) : Con ext prog 1 98 [.agg [.int .i64 w, .int .i64 h, p], .int .i64 x, .int .i64 y] H fun v H' => BytesI H' p (l.set (y * w + x) 1) ∧ WrS H' p ∧ ExtP H H' p := by
  refine con_of (show prog 98 = some c98 from rfl) rfl rfl fun n hn => ?_
  haveI := hp.one
  have h1 : IntKind.i64.wrap ((y : Int) * (w : Int)) = ((y * w : Nat) : Int) := wm (by omega)
  have h2 : IntKind.i64.wrap (((y * w : Nat) : Int) + (x : Int)) = ((y * w + x : Nat) : Int) := wa (by omega)
  repeat (first
    | (refine WpO.do (WpX.ld rfl rfl ?_); try simp only [nrm, Nat.reduceEqDiff, reduceIte, Nat.reduceAdd, h1, h2])
    | (refine WpO.do (WpX.ldN rfl rfl rfl ?_); try simp only [nrm, Nat.reduceEqDiff, reduceIte, Nat.reduceAdd, h1, h2])
    | (refine WpO.do (WpX.lenP (by (try simp only [nrm, Nat.reduceEqDiff, reduceIte, Nat.reduceAdd, h1, h2]); rfl) ?_); try simp only [nrm, Nat.reduceEqDiff, reduceIte, Nat.reduceAdd, h1, h2])
    | (refine WpO.now rfl rfl ?_; try simp only [nrm, Nat.reduceEqDiff, reduceIte, Nat.reduceAdd, h1, h2])
    | (refine WpO.do' (WpX.st rfl (by (try simp only [nrm, Nat.reduceEqDiff, reduceIte, Nat.reduceAdd, h1, h2]); rfl) rfl rfl rfl (by repeat (first | rfl | refine allOne_cons ?_)) rfl ?_); try simp only [nrm, Nat.reduceEqDiff, reduceIte, Nat.reduceAdd, h1, h2])
    | (refine WpO.do (WpX.pcall hn rfl (by simp only [nrm, Nat.reduceEqDiff, reduceIte, Nat.reduceAdd, h1, h2, List.map]; rfl) rfl fun _ _ => ?_); try simp only [nrm, Nat.reduceEqDiff, reduceIte, Nat.reduceAdd, h1, h2])
    | (refine WpO.do (WpX.idxP (by (try simp only [nrm, Nat.reduceEqDiff, reduceIte, Nat.reduceAdd, h1, h2]); rfl) rfl ?_ ?_); (focus omega); try simp only [nrm, Nat.reduceEqDiff, reduceIte, Nat.reduceAdd, h1, h2])
    | (refine WpO.do (WpX.ldB rfl ?_ ?_); (focus omega); try simp only [nrm, Nat.reduceEqDiff, reduceIte, Nat.reduceAdd, h1, h2])
    | (refine WpO.do (WpX.ldI rfl ?_ ?_); (focus omega); try simp only [nrm, Nat.reduceEqDiff, reduceIte, Nat.reduceAdd, h1, h2])
    | (refine WpO.do (WpX.build (by repeat (first | refine aFill1 (by (try simp only [nrm, Nat.reduceEqDiff, reduceIte, Nat.reduceAdd, h1, h2]); rfl) rfl ?_ | rfl)) ?_); try simp only [nrm, Nat.reduceEqDiff, reduceIte, Nat.reduceAdd, h1, h2])
    | (refine WpO.guard rfl (fun _ => ?_) (fun h => absurd rfl h))
    | (refine WpO.guard rfl (fun h => absurd h (by decide)) (fun _ => ?_); try simp only [nrm, Nat.reduceEqDiff, reduceIte, Nat.reduceAdd, h1, h2])
    | refine WpO.nil ?_
    | refine Wp.seq ?_
    | refine Wp.region ?_
    | refine Wp.dquiet rfl rfl ?_
    | refine Wp.cond (b := true) rfl ?_
    | refine Wp.cond (b := false) rfl ?_
    | refine Wp.skip ?_
    | refine Wp.ret ?_
    | refine Wp.block ?_
    | refine Wp.exit ?_
    | dsimp only [cond_true, cond_false])
  refine WpO.do' (WpX.stB 1 rfl rfl rfl hi fun H4 hb4 hw4 hx4 => ?_)
  repeat (first
    | (refine WpO.do (WpX.ld rfl rfl ?_); try simp only [nrm, Nat.reduceEqDiff, reduceIte, Nat.reduceAdd])
    | (refine WpO.do (WpX.ldN rfl rfl rfl ?_); try simp only [nrm, Nat.reduceEqDiff, reduceIte, Nat.reduceAdd])
    | (refine WpO.do (WpX.lenP (by (try simp only [nrm, Nat.reduceEqDiff, reduceIte, Nat.reduceAdd]); rfl) ?_); try simp only [nrm, Nat.reduceEqDiff, reduceIte, Nat.reduceAdd])
    | (refine WpO.now rfl rfl ?_; try simp only [nrm, Nat.reduceEqDiff, reduceIte, Nat.reduceAdd])
    | (refine WpO.do' (WpX.st rfl (by (try simp only [nrm, Nat.reduceEqDiff, reduceIte, Nat.reduceAdd]); rfl) rfl rfl rfl (by repeat (first | rfl | refine allOne_cons ?_)) rfl ?_); try simp only [nrm, Nat.reduceEqDiff, reduceIte, Nat.reduceAdd])
    | (refine WpO.do (WpX.pcall hn rfl (by simp only [nrm, Nat.reduceEqDiff, reduceIte, Nat.reduceAdd, List.map]; rfl) rfl fun _ _ => ?_); try simp only [nrm, Nat.reduceEqDiff, reduceIte, Nat.reduceAdd])
    | (refine WpO.do (WpX.idxP (by (try simp only [nrm, Nat.reduceEqDiff, reduceIte, Nat.reduceAdd]); rfl) rfl ?_ ?_); (focus omega); try simp only [nrm, Nat.reduceEqDiff, reduceIte, Nat.reduceAdd])
    | (refine WpO.do (WpX.ldB rfl ?_ ?_); (focus omega); try simp only [nrm, Nat.reduceEqDiff, reduceIte, Nat.reduceAdd])
    | (refine WpO.do (WpX.ldI rfl ?_ ?_); (focus omega); try simp only [nrm, Nat.reduceEqDiff, reduceIte, Nat.reduceAdd])
    | (refine WpO.do (WpX.build (by repeat (first | refine aFill1 (by (try simp only [nrm, Nat.reduceEqDiff, reduceIte, Nat.reduceAdd]); rfl) rfl ?_ | rfl)) ?_); try simp only [nrm, Nat.reduceEqDiff, reduceIte, Nat.reduceAdd])
    | (refine WpO.guard rfl (fun _ => ?_) (fun h => absurd rfl h))
    | (refine WpO.guard rfl (fun h => absurd h (by decide)) (fun _ => ?_); try simp only [nrm, Nat.reduceEqDiff, reduceIte, Nat.reduceAdd])
    | refine WpO.nil ?_
    | refine Wp.seq ?_
    | refine Wp.region ?_
    | refine Wp.dquiet rfl rfl ?_
    | refine Wp.cond (b := true) rfl ?_
    | refine Wp.cond (b := false) rfl ?_
    | refine Wp.skip ?_
    | refine Wp.ret ?_
    | refine Wp.block ?_
    | refine Wp.exit ?_
    | dsimp only [cond_true, cond_false])
  exact ⟨trivial, _, rfl, hb4, hw4, (inferInstance : ExtP0 H H4 p).ext⟩
end Go.Am
