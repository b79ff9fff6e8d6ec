import Derived.Test.YtofdnhdoblpniaaDoorAmU5
set_option linter.unusedSimpArgs false
set_option linter.unusedVariables false
set_option maxHeartbeats 4000000
set_option maxRecDepth 100000
namespace Go.Am
open Go

theorem map_range_get {f : UInt8 → UInt8} {l : List UInt8} : (List.range l.length).map (fun i => f (l.getD i 0)) = l.map f := by
  apply List.ext_getElem
  · simp
  · intro i h1 h2
    simp at h1
    simp [h1]
theorem thrSpec_ok {w h : Int} {l : List UInt8} {level : Int} (hs : sizedB w h l.length = true) (h1 : ¬ level < 0) (h2 : ¬ level > 256) : thrSpec ⟨w, h, l⟩ level = (⟨w, h, l.map (thrB level)⟩, 0) := by simp [thrSpec, Img.sized, hs, h1, h2]

theorem K_refThreshold {w h level : Int} {p : AVal} {H : AHeap} {l : List UInt8} [hp : BytesI H p l] : Con ext prog 4 36 [.agg [.int .i64 w, .int .i64 h, p], .int .i64 level] H fun v H' => InkRes H H' v (thrSpec ⟨w, h, l⟩ level) := by
  refine con_of (show prog 36 = some c36 from rfl) rfl rfl fun n hn => ?_
  haveI := hp.one
  cases hs : sizedB w h l.length
  · have e1 : thrSpec ⟨w, h, l⟩ level = (.zero, 2) := by simp [thrSpec, Img.sized, hs]
    rw [e1]
    repeat (first
      | (refine WpO.do (WpX.ld rfl rfl ?_); try simp only [nrm, Nat.reduceEqDiff, reduceIte, Nat.reduceAdd, hs, sizeErr])
      | (refine WpO.do (WpX.ldN rfl rfl rfl ?_); try simp only [nrm, Nat.reduceEqDiff, reduceIte, Nat.reduceAdd, hs, sizeErr])
      | (refine WpO.do (WpX.lenP (by (try simp only [nrm, Nat.reduceEqDiff, reduceIte, Nat.reduceAdd, hs, sizeErr]); rfl) ?_); try simp only [nrm, Nat.reduceEqDiff, reduceIte, Nat.reduceAdd, hs, sizeErr])
      | (refine WpO.now rfl rfl ?_; try simp only [nrm, Nat.reduceEqDiff, reduceIte, Nat.reduceAdd, hs, sizeErr])
      | (refine WpO.do' (WpX.st rfl (by (try simp only [nrm, Nat.reduceEqDiff, reduceIte, Nat.reduceAdd, hs, sizeErr]); rfl) rfl rfl rfl (by repeat (first | rfl | refine allOne_cons ?_)) rfl ?_); try simp only [nrm, Nat.reduceEqDiff, reduceIte, Nat.reduceAdd, hs, sizeErr])
      | (refine WpO.do (WpX.pcall hn rfl (by simp only [nrm, Nat.reduceEqDiff, reduceIte, Nat.reduceAdd, hs, sizeErr, List.map]; rfl) rfl fun _ _ => ?_); try simp only [nrm, Nat.reduceEqDiff, reduceIte, Nat.reduceAdd, hs, sizeErr])
      | (refine WpO.do (WpX.idxP (by (try simp only [nrm, Nat.reduceEqDiff, reduceIte, Nat.reduceAdd, hs, sizeErr]); rfl) rfl ?_ ?_); (focus omega); try simp only [nrm, Nat.reduceEqDiff, reduceIte, Nat.reduceAdd, hs, sizeErr])
      | (refine WpO.do (WpX.ldB rfl ?_ ?_); (focus omega); try simp only [nrm, Nat.reduceEqDiff, reduceIte, Nat.reduceAdd, hs, sizeErr])
      | (refine WpO.do (WpX.ldI rfl ?_ ?_); (focus omega); try simp only [nrm, Nat.reduceEqDiff, reduceIte, Nat.reduceAdd, hs, sizeErr])
      | (refine WpO.do (WpX.build (by repeat (first | refine aFill1 (by (try simp only [nrm, Nat.reduceEqDiff, reduceIte, Nat.reduceAdd, hs, sizeErr]); rfl) rfl ?_ | rfl)) ?_); try simp only [nrm, Nat.reduceEqDiff, reduceIte, Nat.reduceAdd, hs, sizeErr])
      | (refine WpO.guard rfl (fun _ => ?_) (fun h => absurd rfl h))
      | (refine WpO.guard rfl (fun h => absurd h (by decide)) (fun _ => ?_); try simp only [nrm, Nat.reduceEqDiff, reduceIte, Nat.reduceAdd, hs, sizeErr])
      | refine WpO.nil ?_
      | refine Wp.seq ?_
      | refine Wp.region ?_
      | refine Wp.dquiet rfl rfl ?_
      | refine Wp.cond (b := true) rfl ?_
      | refine Wp.cond (b := false) rfl ?_
      | refine Wp.skip ?_
      | refine Wp.ret ?_
      | refine Wp.block ?_
      | refine Wp.exit ?_
      | dsimp only [cond_true, cond_false])
    refine ⟨trivial, _, (by first | rfl | exact getAllC rfl rfl rfl rfl | exact getAllT rfl (getAllC rfl rfl rfl rfl) | exact getAllC rfl rfl rfl (getAllC rfl rfl rfl rfl) | exact getAllC1 rfl rfl rfl), ?_⟩
    exact ⟨_, rfl, newZero⟩
  obtain ⟨a, b, rfl, rfl, ha, hb, hl⟩ := sized_nat hs
  by_cases h1 : level < 0
  · have e1 : thrSpec ⟨a, b, l⟩ level = (.zero, 1) := by simp [thrSpec, Img.sized, hs, h1]
    rw [e1]
    have h1 := decide_eq_true h1
    repeat (first
      | (refine WpO.do (WpX.ld rfl rfl ?_); try simp only [nrm, Nat.reduceEqDiff, reduceIte, Nat.reduceAdd, hs, sizeErr, h1])
      | (refine WpO.do (WpX.ldN rfl rfl rfl ?_); try simp only [nrm, Nat.reduceEqDiff, reduceIte, Nat.reduceAdd, hs, sizeErr, h1])
      | (refine WpO.do (WpX.lenP (by (try simp only [nrm, Nat.reduceEqDiff, reduceIte, Nat.reduceAdd, hs, sizeErr, h1]); rfl) ?_); try simp only [nrm, Nat.reduceEqDiff, reduceIte, Nat.reduceAdd, hs, sizeErr, h1])
      | (refine WpO.now rfl rfl ?_; try simp only [nrm, Nat.reduceEqDiff, reduceIte, Nat.reduceAdd, hs, sizeErr, h1])
      | (refine WpO.do' (WpX.st rfl (by (try simp only [nrm, Nat.reduceEqDiff, reduceIte, Nat.reduceAdd, hs, sizeErr, h1]); rfl) rfl rfl rfl (by repeat (first | rfl | refine allOne_cons ?_)) rfl ?_); try simp only [nrm, Nat.reduceEqDiff, reduceIte, Nat.reduceAdd, hs, sizeErr, h1])
      | (refine WpO.do (WpX.pcall hn rfl (by simp only [nrm, Nat.reduceEqDiff, reduceIte, Nat.reduceAdd, hs, sizeErr, h1, List.map]; rfl) rfl fun _ _ => ?_); try simp only [nrm, Nat.reduceEqDiff, reduceIte, Nat.reduceAdd, hs, sizeErr, h1])
      | (refine WpO.do (WpX.idxP (by (try simp only [nrm, Nat.reduceEqDiff, reduceIte, Nat.reduceAdd, hs, sizeErr, h1]); rfl) rfl ?_ ?_); (focus omega); try simp only [nrm, Nat.reduceEqDiff, reduceIte, Nat.reduceAdd, hs, sizeErr, h1])
      | (refine WpO.do (WpX.ldB rfl ?_ ?_); (focus omega); try simp only [nrm, Nat.reduceEqDiff, reduceIte, Nat.reduceAdd, hs, sizeErr, h1])
      | (refine WpO.do (WpX.ldI rfl ?_ ?_); (focus omega); try simp only [nrm, Nat.reduceEqDiff, reduceIte, Nat.reduceAdd, hs, sizeErr, h1])
      | (refine WpO.do (WpX.build (by repeat (first | refine aFill1 (by (try simp only [nrm, Nat.reduceEqDiff, reduceIte, Nat.reduceAdd, hs, sizeErr, h1]); rfl) rfl ?_ | rfl)) ?_); try simp only [nrm, Nat.reduceEqDiff, reduceIte, Nat.reduceAdd, hs, sizeErr, h1])
      | (refine WpO.guard rfl (fun _ => ?_) (fun h => absurd rfl h))
      | (refine WpO.guard rfl (fun h => absurd h (by decide)) (fun _ => ?_); try simp only [nrm, Nat.reduceEqDiff, reduceIte, Nat.reduceAdd, hs, sizeErr, h1])
      | refine WpO.nil ?_
      | refine Wp.seq ?_
      | refine Wp.region ?_
      | refine Wp.dquiet rfl rfl ?_
      | refine Wp.cond (b := true) rfl ?_
      | refine Wp.cond (b := false) rfl ?_
      | refine Wp.skip ?_
      | refine Wp.ret ?_
      | refine Wp.block ?_
      | refine Wp.exit ?_
      | dsimp only [cond_true, cond_false])
    refine ⟨trivial, _, (by first | rfl | exact getAllC rfl rfl rfl rfl | exact getAllT rfl (getAllC rfl rfl rfl rfl) | exact getAllC rfl rfl rfl (getAllC rfl rfl rfl rfl) | exact getAllC1 rfl rfl rfl), ?_⟩
    exact ⟨_, rfl, newZero⟩
  by_cases h2 : level > 256
  · have e1 : thrSpec ⟨a, b, l⟩ level = (.zero, 1) := by simp [thrSpec, Img.sized, hs, h2]
    rw [e1]
    have h1 := decide_eq_false h1
    have h2 := decide_eq_true h2
    repeat (first
      | (refine WpO.do (WpX.ld rfl rfl ?_); try simp only [nrm, Nat.reduceEqDiff, reduceIte, Nat.reduceAdd, hs, sizeErr, h1, h2])
      | (refine WpO.do (WpX.ldN rfl rfl rfl ?_); try simp only [nrm, Nat.reduceEqDiff, reduceIte, Nat.reduceAdd, hs, sizeErr, h1, h2])
      | (refine WpO.do (WpX.lenP (by (try simp only [nrm, Nat.reduceEqDiff, reduceIte, Nat.reduceAdd, hs, sizeErr, h1, h2]); rfl) ?_); try simp only [nrm, Nat.reduceEqDiff, reduceIte, Nat.reduceAdd, hs, sizeErr, h1, h2])
      | (refine WpO.now rfl rfl ?_; try simp only [nrm, Nat.reduceEqDiff, reduceIte, Nat.reduceAdd, hs, sizeErr, h1, h2])
      | (refine WpO.do' (WpX.st rfl (by (try simp only [nrm, Nat.reduceEqDiff, reduceIte, Nat.reduceAdd, hs, sizeErr, h1, h2]); rfl) rfl rfl rfl (by repeat (first | rfl | refine allOne_cons ?_)) rfl ?_); try simp only [nrm, Nat.reduceEqDiff, reduceIte, Nat.reduceAdd, hs, sizeErr, h1, h2])
      | (refine WpO.do (WpX.pcall hn rfl (by simp only [nrm, Nat.reduceEqDiff, reduceIte, Nat.reduceAdd, hs, sizeErr, h1, h2, List.map]; rfl) rfl fun _ _ => ?_); try simp only [nrm, Nat.reduceEqDiff, reduceIte, Nat.reduceAdd, hs, sizeErr, h1, h2])
      | (refine WpO.do (WpX.idxP (by (try simp only [nrm, Nat.reduceEqDiff, reduceIte, Nat.reduceAdd, hs, sizeErr, h1, h2]); rfl) rfl ?_ ?_); (focus omega); try simp only [nrm, Nat.reduceEqDiff, reduceIte, Nat.reduceAdd, hs, sizeErr, h1, h2])
      | (refine WpO.do (WpX.ldB rfl ?_ ?_); (focus omega); try simp only [nrm, Nat.reduceEqDiff, reduceIte, Nat.reduceAdd, hs, sizeErr, h1, h2])
      | (refine WpO.do (WpX.ldI rfl ?_ ?_); (focus omega); try simp only [nrm, Nat.reduceEqDiff, reduceIte, Nat.reduceAdd, hs, sizeErr, h1, h2])
      | (refine WpO.do (WpX.build (by repeat (first | refine aFill1 (by (try simp only [nrm, Nat.reduceEqDiff, reduceIte, Nat.reduceAdd, hs, sizeErr, h1, h2]); rfl) rfl ?_ | rfl)) ?_); try simp only [nrm, Nat.reduceEqDiff, reduceIte, Nat.reduceAdd, hs, sizeErr, h1, h2])
      | (refine WpO.guard rfl (fun _ => ?_) (fun h => absurd rfl h))
      | (refine WpO.guard rfl (fun h => absurd h (by decide)) (fun _ => ?_); try simp only [nrm, Nat.reduceEqDiff, reduceIte, Nat.reduceAdd, hs, sizeErr, h1, h2])
      | refine WpO.nil ?_
      | refine Wp.seq ?_
      | refine Wp.region ?_
      | refine Wp.dquiet rfl rfl ?_
      | refine Wp.cond (b := true) rfl ?_
      | refine Wp.cond (b := false) rfl ?_
      | refine Wp.skip ?_
      | refine Wp.ret ?_
      | refine Wp.block ?_
      | refine Wp.exit ?_
      | dsimp only [cond_true, cond_false])
    refine ⟨trivial, _, (by first | rfl | exact getAllC rfl rfl rfl rfl | exact getAllT rfl (getAllC rfl rfl rfl rfl) | exact getAllC rfl rfl rfl (getAllC rfl rfl rfl rfl) | exact getAllC1 rfl rfl rfl), ?_⟩
    exact ⟨_, rfl, newZero⟩
  rw [thrSpec_ok hs h1 h2]
  have h1 := decide_eq_false h1
  have h2 := decide_eq_false h2
  have hm : a * b ≤ 640 * 640 := Nat.mul_le_mul ha hb
  repeat (first
    | (refine WpO.do (WpX.ld rfl rfl ?_); try simp only [nrm, Nat.reduceEqDiff, reduceIte, Nat.reduceAdd, hs, sizeErr, h1, h2])
    | (refine WpO.do (WpX.ldN rfl rfl rfl ?_); try simp only [nrm, Nat.reduceEqDiff, reduceIte, Nat.reduceAdd, hs, sizeErr, h1, h2])
    | (refine WpO.do (WpX.lenP (by (try simp only [nrm, Nat.reduceEqDiff, reduceIte, Nat.reduceAdd, hs, sizeErr, h1, h2]); rfl) ?_); try simp only [nrm, Nat.reduceEqDiff, reduceIte, Nat.reduceAdd, hs, sizeErr, h1, h2])
    | (refine WpO.now rfl rfl ?_; try simp only [nrm, Nat.reduceEqDiff, reduceIte, Nat.reduceAdd, hs, sizeErr, h1, h2])
    | (refine WpO.do' (WpX.st rfl (by (try simp only [nrm, Nat.reduceEqDiff, reduceIte, Nat.reduceAdd, hs, sizeErr, h1, h2]); rfl) rfl rfl rfl (by repeat (first | rfl | refine allOne_cons ?_)) rfl ?_); try simp only [nrm, Nat.reduceEqDiff, reduceIte, Nat.reduceAdd, hs, sizeErr, h1, h2])
    | (refine WpO.do (WpX.pcall hn rfl (by simp only [nrm, Nat.reduceEqDiff, reduceIte, Nat.reduceAdd, hs, sizeErr, h1, h2, List.map]; rfl) rfl fun _ _ => ?_); try simp only [nrm, Nat.reduceEqDiff, reduceIte, Nat.reduceAdd, hs, sizeErr, h1, h2])
    | (refine WpO.do (WpX.idxP (by (try simp only [nrm, Nat.reduceEqDiff, reduceIte, Nat.reduceAdd, hs, sizeErr, h1, h2]); rfl) rfl ?_ ?_); (focus omega); try simp only [nrm, Nat.reduceEqDiff, reduceIte, Nat.reduceAdd, hs, sizeErr, h1, h2])
    | (refine WpO.do (WpX.ldB rfl ?_ ?_); (focus omega); try simp only [nrm, Nat.reduceEqDiff, reduceIte, Nat.reduceAdd, hs, sizeErr, h1, h2])
    | (refine WpO.do (WpX.ldI rfl ?_ ?_); (focus omega); try simp only [nrm, Nat.reduceEqDiff, reduceIte, Nat.reduceAdd, hs, sizeErr, h1, h2])
    | (refine WpO.do (WpX.build (by repeat (first | refine aFill1 (by (try simp only [nrm, Nat.reduceEqDiff, reduceIte, Nat.reduceAdd, hs, sizeErr, h1, h2]); rfl) rfl ?_ | rfl)) ?_); try simp only [nrm, Nat.reduceEqDiff, reduceIte, Nat.reduceAdd, hs, sizeErr, h1, h2])
    | (refine WpO.guard rfl (fun _ => ?_) (fun h => absurd rfl h))
    | (refine WpO.guard rfl (fun h => absurd h (by decide)) (fun _ => ?_); try simp only [nrm, Nat.reduceEqDiff, reduceIte, Nat.reduceAdd, hs, sizeErr, h1, h2])
    | refine WpO.nil ?_
    | refine Wp.seq ?_
    | refine Wp.region ?_
    | refine Wp.dquiet rfl rfl ?_
    | refine Wp.cond (b := true) rfl ?_
    | refine Wp.cond (b := false) rfl ?_
    | refine Wp.skip ?_
    | refine Wp.ret ?_
    | refine Wp.block ?_
    | refine Wp.exit ?_
    | dsimp only [cond_true, cond_false])
  refine WpO.do (WpX.conD hn rfl rfl (by simp only [nrm, Nat.reduceEqDiff, reduceIte, Nat.reduceAdd, List.map] <;> rfl) (K_refNew (w := a) (h := b) (by omega) (by omega)) fun v H1 ⟨q, e2, hq, hf, hw, hx⟩ => ?_)
  subst e2
  haveI : ExtI _ H1 := ⟨hx⟩
  haveI := hq.one
  have hq : BytesI H1 q (List.replicate (a * b) 0) := hq
  repeat (first
    | (refine WpO.do (WpX.ld rfl rfl ?_); try simp only [nrm, Nat.reduceEqDiff, reduceIte, Nat.reduceAdd])
    | (refine WpO.do (WpX.ldN rfl rfl rfl ?_); try simp only [nrm, Nat.reduceEqDiff, reduceIte, Nat.reduceAdd])
    | (refine WpO.do (WpX.lenP (by (try simp only [nrm, Nat.reduceEqDiff, reduceIte, Nat.reduceAdd]); rfl) ?_); try simp only [nrm, Nat.reduceEqDiff, reduceIte, Nat.reduceAdd])
    | (refine WpO.now rfl rfl ?_; try simp only [nrm, Nat.reduceEqDiff, reduceIte, Nat.reduceAdd])
    | (refine WpO.do' (WpX.st rfl (by (try simp only [nrm, Nat.reduceEqDiff, reduceIte, Nat.reduceAdd]); rfl) rfl rfl rfl (by repeat (first | rfl | refine allOne_cons ?_)) rfl ?_); try simp only [nrm, Nat.reduceEqDiff, reduceIte, Nat.reduceAdd])
    | (refine WpO.do (WpX.pcall hn rfl (by simp only [nrm, Nat.reduceEqDiff, reduceIte, Nat.reduceAdd, List.map]; rfl) rfl fun _ _ => ?_); try simp only [nrm, Nat.reduceEqDiff, reduceIte, Nat.reduceAdd])
    | (refine WpO.do (WpX.idxP (by (try simp only [nrm, Nat.reduceEqDiff, reduceIte, Nat.reduceAdd]); rfl) rfl ?_ ?_); (focus omega); try simp only [nrm, Nat.reduceEqDiff, reduceIte, Nat.reduceAdd])
    | (refine WpO.do (WpX.ldB rfl ?_ ?_); (focus omega); try simp only [nrm, Nat.reduceEqDiff, reduceIte, Nat.reduceAdd])
    | (refine WpO.do (WpX.ldI rfl ?_ ?_); (focus omega); try simp only [nrm, Nat.reduceEqDiff, reduceIte, Nat.reduceAdd])
    | (refine WpO.do (WpX.build (by repeat (first | refine aFill1 (by (try simp only [nrm, Nat.reduceEqDiff, reduceIte, Nat.reduceAdd]); rfl) rfl ?_ | rfl)) ?_); try simp only [nrm, Nat.reduceEqDiff, reduceIte, Nat.reduceAdd])
    | (refine WpO.guard rfl (fun _ => ?_) (fun h => absurd rfl h))
    | (refine WpO.guard rfl (fun h => absurd h (by decide)) (fun _ => ?_); try simp only [nrm, Nat.reduceEqDiff, reduceIte, Nat.reduceAdd])
    | refine WpO.nil ?_
    | refine Wp.seq ?_
    | refine Wp.region ?_
    | refine Wp.dquiet rfl rfl ?_
    | refine Wp.cond (b := true) rfl ?_
    | refine Wp.cond (b := false) rfl ?_
    | refine Wp.skip ?_
    | refine Wp.ret ?_
    | refine Wp.block ?_
    | refine Wp.exit ?_
    | dsimp only [cond_true, cond_false])
  refine Wp.loopS [8, 9, 28, 29, 30, 31, 32, 33, 34, 35, 36, 37, 38, 39, 40, 41, 42, 43, 44, 45, 46, 47, 48, 49, 50, 51, 52, 53, 54, 55, 56] (fun y : Nat => [(8, .int .i64 y)]) (fun H3 y H2 => y ≤ b ∧ BytesI H2 q (filled (fun i => thrB level (l.getD i 0)) (y * a) (a * b)) ∧ WrS H2 q ∧ ExtP0 H3 H2 q) (fun y => b - y) 0 rfl (fun _ => rfl) ⟨rfl, trivial⟩ ⟨Nat.zero_le _, by rw [Nat.zero_mul, filled_zero]; infer_instance, inferInstance, inferInstance⟩ (by unfold fuel0 at hn; omega) ?_
  rintro y g H2 ⟨hy, hb2, hw2, ⟨hx2⟩⟩
  simp only [nrm, Nat.reduceEqDiff, reduceIte, Nat.reduceAdd]
  cases hc : decide ((y : Int) < (b : Int))
  · have hyb : y = b := by have := of_decide_eq_false hc; omega
    subst hyb
    rw [Nat.mul_comm y a, filled_all] at hb2
    repeat (first
      | (refine WpO.do (WpX.ld rfl rfl ?_); try simp only [nrm, Nat.reduceEqDiff, reduceIte, Nat.reduceAdd, hc])
      | (refine WpO.do (WpX.ldN rfl rfl rfl ?_); try simp only [nrm, Nat.reduceEqDiff, reduceIte, Nat.reduceAdd, hc])
      | (refine WpO.do (WpX.lenP (by (try simp only [nrm, Nat.reduceEqDiff, reduceIte, Nat.reduceAdd, hc]); rfl) ?_); try simp only [nrm, Nat.reduceEqDiff, reduceIte, Nat.reduceAdd, hc])
      | (refine WpO.now rfl rfl ?_; try simp only [nrm, Nat.reduceEqDiff, reduceIte, Nat.reduceAdd, hc])
      | (refine WpO.do' (WpX.st rfl (by (try simp only [nrm, Nat.reduceEqDiff, reduceIte, Nat.reduceAdd, hc]); rfl) rfl rfl rfl (by repeat (first | rfl | refine allOne_cons ?_)) rfl ?_); try simp only [nrm, Nat.reduceEqDiff, reduceIte, Nat.reduceAdd, hc])
      | (refine WpO.do (WpX.pcall hn rfl (by simp only [nrm, Nat.reduceEqDiff, reduceIte, Nat.reduceAdd, hc, List.map]; rfl) rfl fun _ _ => ?_); try simp only [nrm, Nat.reduceEqDiff, reduceIte, Nat.reduceAdd, hc])
      | (refine WpO.do (WpX.idxP (by (try simp only [nrm, Nat.reduceEqDiff, reduceIte, Nat.reduceAdd, hc]); rfl) rfl ?_ ?_); (focus omega); try simp only [nrm, Nat.reduceEqDiff, reduceIte, Nat.reduceAdd, hc])
      | (refine WpO.do (WpX.ldB rfl ?_ ?_); (focus omega); try simp only [nrm, Nat.reduceEqDiff, reduceIte, Nat.reduceAdd, hc])
      | (refine WpO.do (WpX.ldI rfl ?_ ?_); (focus omega); try simp only [nrm, Nat.reduceEqDiff, reduceIte, Nat.reduceAdd, hc])
      | (refine WpO.do (WpX.build (by repeat (first | refine aFill1 (by (try simp only [nrm, Nat.reduceEqDiff, reduceIte, Nat.reduceAdd, hc]); rfl) rfl ?_ | rfl)) ?_); try simp only [nrm, Nat.reduceEqDiff, reduceIte, Nat.reduceAdd, hc])
      | (refine WpO.guard rfl (fun _ => ?_) (fun h => absurd rfl h))
      | (refine WpO.guard rfl (fun h => absurd h (by decide)) (fun _ => ?_); try simp only [nrm, Nat.reduceEqDiff, reduceIte, Nat.reduceAdd, hc])
      | refine WpO.nil ?_
      | refine Wp.seq ?_
      | refine Wp.region ?_
      | refine Wp.dquiet rfl rfl ?_
      | refine Wp.cond (b := true) rfl ?_
      | refine Wp.cond (b := false) rfl ?_
      | refine Wp.skip ?_
      | refine Wp.ret ?_
      | refine Wp.block ?_
      | refine Wp.exit ?_
      | dsimp only [cond_true, cond_false])
    refine ⟨trivial, _, (by first | rfl | exact getAllC rfl rfl rfl rfl | exact getAllT rfl (getAllC rfl rfl rfl rfl) | exact getAllC rfl rfl rfl (getAllC rfl rfl rfl rfl) | exact getAllC1 rfl rfl rfl), ?_⟩
    refine ⟨_, rfl, q, rfl, ?_, hf.weak, inferInstance, Ext0.ext⟩
    rw [show l.map (thrB level) = (List.range (a * y)).map (fun i => thrB level (l.getD i 0)) by rw [← hl, map_range_get]]
    infer_instance
  · have hyb : y < b := by have := of_decide_eq_true hc; omega
    repeat (first
      | (refine WpO.do (WpX.ld rfl rfl ?_); try simp only [nrm, Nat.reduceEqDiff, reduceIte, Nat.reduceAdd, hc])
      | (refine WpO.do (WpX.ldN rfl rfl rfl ?_); try simp only [nrm, Nat.reduceEqDiff, reduceIte, Nat.reduceAdd, hc])
      | (refine WpO.do (WpX.lenP (by (try simp only [nrm, Nat.reduceEqDiff, reduceIte, Nat.reduceAdd, hc]); rfl) ?_); try simp only [nrm, Nat.reduceEqDiff, reduceIte, Nat.reduceAdd, hc])
      | (refine WpO.now rfl rfl ?_; try simp only [nrm, Nat.reduceEqDiff, reduceIte, Nat.reduceAdd, hc])
      | (refine WpO.do' (WpX.st rfl (by (try simp only [nrm, Nat.reduceEqDiff, reduceIte, Nat.reduceAdd, hc]); rfl) rfl rfl rfl (by repeat (first | rfl | refine allOne_cons ?_)) rfl ?_); try simp only [nrm, Nat.reduceEqDiff, reduceIte, Nat.reduceAdd, hc])
      | (refine WpO.do (WpX.pcall hn rfl (by simp only [nrm, Nat.reduceEqDiff, reduceIte, Nat.reduceAdd, hc, List.map]; rfl) rfl fun _ _ => ?_); try simp only [nrm, Nat.reduceEqDiff, reduceIte, Nat.reduceAdd, hc])
      | (refine WpO.do (WpX.idxP (by (try simp only [nrm, Nat.reduceEqDiff, reduceIte, Nat.reduceAdd, hc]); rfl) rfl ?_ ?_); (focus omega); try simp only [nrm, Nat.reduceEqDiff, reduceIte, Nat.reduceAdd, hc])
      | (refine WpO.do (WpX.ldB rfl ?_ ?_); (focus omega); try simp only [nrm, Nat.reduceEqDiff, reduceIte, Nat.reduceAdd, hc])
      | (refine WpO.do (WpX.ldI rfl ?_ ?_); (focus omega); try simp only [nrm, Nat.reduceEqDiff, reduceIte, Nat.reduceAdd, hc])
      | (refine WpO.do (WpX.build (by repeat (first | refine aFill1 (by (try simp only [nrm, Nat.reduceEqDiff, reduceIte, Nat.reduceAdd, hc]); rfl) rfl ?_ | rfl)) ?_); try simp only [nrm, Nat.reduceEqDiff, reduceIte, Nat.reduceAdd, hc])
      | (refine WpO.guard rfl (fun _ => ?_) (fun h => absurd rfl h))
      | (refine WpO.guard rfl (fun h => absurd h (by decide)) (fun _ => ?_); try simp only [nrm, Nat.reduceEqDiff, reduceIte, Nat.reduceAdd, hc])
      | refine WpO.nil ?_
      | refine Wp.seq ?_
      | refine Wp.region ?_
      | refine Wp.dquiet rfl rfl ?_
      | refine Wp.cond (b := true) rfl ?_
      | refine Wp.cond (b := false) rfl ?_
      | refine Wp.skip ?_
      | refine Wp.ret ?_
      | refine Wp.block ?_
      | refine Wp.exit ?_
      | dsimp only [cond_true, cond_false])
    refine Wp.loopS [9, 34, 35, 36, 37, 38, 39, 40, 41, 42, 43, 44, 45, 46, 47, 48, 49, 50, 51, 52, 53, 54, 55, 56] (fun x : Nat => [(9, .int .i64 x)]) (fun H3 x H4 => x ≤ a ∧ BytesI H4 q (filled (fun i => thrB level (l.getD i 0)) (y * a + x) (a * b)) ∧ WrS H4 q ∧ ExtP0 H3 H4 q) (fun x => a - x) 0 rfl (fun _ => rfl) ⟨rfl, trivial⟩ ⟨Nat.zero_le _, inferInstance, inferInstance, inferInstance⟩ (by unfold fuel0 at hn; omega) ?_
    rintro x g2 H4 ⟨hx0, hb4, hw4, ⟨hx4⟩⟩
    simp only [nrm, Nat.reduceEqDiff, reduceIte, Nat.reduceAdd]
    cases hc2 : decide ((x : Int) < (a : Int))
    · have hxa : x = a := by have := of_decide_eq_false hc2; omega
      subst hxa
      have hw1 := wa1 (a := y) (by omega)
      repeat (first
        | (refine WpO.do (WpX.ld rfl rfl ?_); try simp only [nrm, Nat.reduceEqDiff, reduceIte, Nat.reduceAdd, hc2])
        | (refine WpO.do (WpX.ldN rfl rfl rfl ?_); try simp only [nrm, Nat.reduceEqDiff, reduceIte, Nat.reduceAdd, hc2])
        | (refine WpO.do (WpX.lenP (by (try simp only [nrm, Nat.reduceEqDiff, reduceIte, Nat.reduceAdd, hc2]); rfl) ?_); try simp only [nrm, Nat.reduceEqDiff, reduceIte, Nat.reduceAdd, hc2])
        | (refine WpO.now rfl rfl ?_; try simp only [nrm, Nat.reduceEqDiff, reduceIte, Nat.reduceAdd, hc2])
        | (refine WpO.do' (WpX.st rfl (by (try simp only [nrm, Nat.reduceEqDiff, reduceIte, Nat.reduceAdd, hc2]); rfl) rfl rfl rfl (by repeat (first | rfl | refine allOne_cons ?_)) rfl ?_); try simp only [nrm, Nat.reduceEqDiff, reduceIte, Nat.reduceAdd, hc2])
        | (refine WpO.do (WpX.pcall hn rfl (by simp only [nrm, Nat.reduceEqDiff, reduceIte, Nat.reduceAdd, hc2, List.map]; rfl) rfl fun _ _ => ?_); try simp only [nrm, Nat.reduceEqDiff, reduceIte, Nat.reduceAdd, hc2])
        | (refine WpO.do (WpX.idxP (by (try simp only [nrm, Nat.reduceEqDiff, reduceIte, Nat.reduceAdd, hc2]); rfl) rfl ?_ ?_); (focus omega); try simp only [nrm, Nat.reduceEqDiff, reduceIte, Nat.reduceAdd, hc2])
        | (refine WpO.do (WpX.ldB rfl ?_ ?_); (focus omega); try simp only [nrm, Nat.reduceEqDiff, reduceIte, Nat.reduceAdd, hc2])
        | (refine WpO.do (WpX.ldI rfl ?_ ?_); (focus omega); try simp only [nrm, Nat.reduceEqDiff, reduceIte, Nat.reduceAdd, hc2])
        | (refine WpO.do (WpX.build (by repeat (first | refine aFill1 (by (try simp only [nrm, Nat.reduceEqDiff, reduceIte, Nat.reduceAdd, hc2]); rfl) rfl ?_ | rfl)) ?_); try simp only [nrm, Nat.reduceEqDiff, reduceIte, Nat.reduceAdd, hc2])
        | (refine WpO.guard rfl (fun _ => ?_) (fun h => absurd rfl h))
        | (refine WpO.guard rfl (fun h => absurd h (by decide)) (fun _ => ?_); try simp only [nrm, Nat.reduceEqDiff, reduceIte, Nat.reduceAdd, hc2])
        | refine WpO.nil ?_
        | refine Wp.seq ?_
        | refine Wp.region ?_
        | refine Wp.dquiet rfl rfl ?_
        | refine Wp.cond (b := true) rfl ?_
        | refine Wp.cond (b := false) rfl ?_
        | refine Wp.skip ?_
        | refine Wp.ret ?_
        | refine Wp.block ?_
        | refine Wp.exit ?_
        | dsimp only [cond_true, cond_false])
      refine ⟨y + 1, by omega, ⟨by simp only [nrm, Nat.reduceEqDiff, reduceIte, Nat.reduceAdd]; rw [hw1], trivial⟩, hyb, by rw [Nat.add_mul, Nat.one_mul]; infer_instance, inferInstance, inferInstance⟩
    · have hxa : x < a := by have := of_decide_eq_true hc2; omega
      have hlt := idx_lt hxa hyb
      have hil : y * a + x < l.length := by omega
      have h3 : IntKind.i64.wrap ((y : Int) * (a : Int)) = ((y * a : Nat) : Int) := wm (by omega)
      have h4 : IntKind.i64.wrap (((y * a : Nat) : Int) + (x : Int)) = ((y * a + x : Nat) : Int) := wa (by omega)
      have hcv := wu8 l[y * a + x]
      have hw1 := wa1 (a := x) (by omega)
      have hgd : l.getD (y * a + x) 0 = l[y * a + x] := by simp [hil]
      have hfl := filled_length (fun i => thrB level (l.getD i 0)) (y * a + x) (a * b)
      cases ht : decide (((l[y * a + x].toNat : Nat) : Int) < level)
      · skip
        repeat (first
          | (refine WpO.do (WpX.ld rfl rfl ?_); try simp only [nrm, Nat.reduceEqDiff, reduceIte, Nat.reduceAdd, hc2, h3, h4, hcv, ht])
          | (refine WpO.do (WpX.ldN rfl rfl rfl ?_); try simp only [nrm, Nat.reduceEqDiff, reduceIte, Nat.reduceAdd, hc2, h3, h4, hcv, ht])
          | (refine WpO.do (WpX.lenP (by (try simp only [nrm, Nat.reduceEqDiff, reduceIte, Nat.reduceAdd, hc2, h3, h4, hcv, ht]); rfl) ?_); try simp only [nrm, Nat.reduceEqDiff, reduceIte, Nat.reduceAdd, hc2, h3, h4, hcv, ht])
          | (refine WpO.now rfl rfl ?_; try simp only [nrm, Nat.reduceEqDiff, reduceIte, Nat.reduceAdd, hc2, h3, h4, hcv, ht])
          | (refine WpO.do' (WpX.st rfl (by (try simp only [nrm, Nat.reduceEqDiff, reduceIte, Nat.reduceAdd, hc2, h3, h4, hcv, ht]); rfl) rfl rfl rfl (by repeat (first | rfl | refine allOne_cons ?_)) rfl ?_); try simp only [nrm, Nat.reduceEqDiff, reduceIte, Nat.reduceAdd, hc2, h3, h4, hcv, ht])
          | (refine WpO.do (WpX.pcall hn rfl (by simp only [nrm, Nat.reduceEqDiff, reduceIte, Nat.reduceAdd, hc2, h3, h4, hcv, ht, List.map]; rfl) rfl fun _ _ => ?_); try simp only [nrm, Nat.reduceEqDiff, reduceIte, Nat.reduceAdd, hc2, h3, h4, hcv, ht])
          | (refine WpO.do (WpX.idxP (by (try simp only [nrm, Nat.reduceEqDiff, reduceIte, Nat.reduceAdd, hc2, h3, h4, hcv, ht]); rfl) rfl ?_ ?_); (focus omega); try simp only [nrm, Nat.reduceEqDiff, reduceIte, Nat.reduceAdd, hc2, h3, h4, hcv, ht])
          | (refine WpO.do (WpX.ldB rfl ?_ ?_); (focus omega); try simp only [nrm, Nat.reduceEqDiff, reduceIte, Nat.reduceAdd, hc2, h3, h4, hcv, ht])
          | (refine WpO.do (WpX.ldI rfl ?_ ?_); (focus omega); try simp only [nrm, Nat.reduceEqDiff, reduceIte, Nat.reduceAdd, hc2, h3, h4, hcv, ht])
          | (refine WpO.do (WpX.build (by repeat (first | refine aFill1 (by (try simp only [nrm, Nat.reduceEqDiff, reduceIte, Nat.reduceAdd, hc2, h3, h4, hcv, ht]); rfl) rfl ?_ | rfl)) ?_); try simp only [nrm, Nat.reduceEqDiff, reduceIte, Nat.reduceAdd, hc2, h3, h4, hcv, ht])
          | (refine WpO.guard rfl (fun _ => ?_) (fun h => absurd rfl h))
          | (refine WpO.guard rfl (fun h => absurd h (by decide)) (fun _ => ?_); try simp only [nrm, Nat.reduceEqDiff, reduceIte, Nat.reduceAdd, hc2, h3, h4, hcv, ht])
          | refine WpO.nil ?_
          | refine Wp.seq ?_
          | refine Wp.region ?_
          | refine Wp.dquiet rfl rfl ?_
          | refine Wp.cond (b := true) rfl ?_
          | refine Wp.cond (b := false) rfl ?_
          | refine Wp.skip ?_
          | refine Wp.ret ?_
          | refine Wp.block ?_
          | refine Wp.exit ?_
          | dsimp only [cond_true, cond_false])
        have h0 : thrB level (l.getD (y * a + x) 0) = 0 := by rw [hgd]; exact if_neg (of_decide_eq_false ht)
        refine ⟨x + 1, by omega, ⟨by simp only [nrm, Nat.reduceEqDiff, reduceIte, Nat.reduceAdd]; rw [hw1], trivial⟩, hxa, by rw [show y * a + (x + 1) = y * a + x + 1 by omega, filled_skip h0]; infer_instance, inferInstance, inferInstance⟩
      · skip
        repeat (first
          | (refine WpO.do (WpX.ld rfl rfl ?_); try simp only [nrm, Nat.reduceEqDiff, reduceIte, Nat.reduceAdd, hc2, h3, h4, hcv, ht])
          | (refine WpO.do (WpX.ldN rfl rfl rfl ?_); try simp only [nrm, Nat.reduceEqDiff, reduceIte, Nat.reduceAdd, hc2, h3, h4, hcv, ht])
          | (refine WpO.do (WpX.lenP (by (try simp only [nrm, Nat.reduceEqDiff, reduceIte, Nat.reduceAdd, hc2, h3, h4, hcv, ht]); rfl) ?_); try simp only [nrm, Nat.reduceEqDiff, reduceIte, Nat.reduceAdd, hc2, h3, h4, hcv, ht])
          | (refine WpO.now rfl rfl ?_; try simp only [nrm, Nat.reduceEqDiff, reduceIte, Nat.reduceAdd, hc2, h3, h4, hcv, ht])
          | (refine WpO.do' (WpX.st rfl (by (try simp only [nrm, Nat.reduceEqDiff, reduceIte, Nat.reduceAdd, hc2, h3, h4, hcv, ht]); rfl) rfl rfl rfl (by repeat (first | rfl | refine allOne_cons ?_)) rfl ?_); try simp only [nrm, Nat.reduceEqDiff, reduceIte, Nat.reduceAdd, hc2, h3, h4, hcv, ht])
          | (refine WpO.do (WpX.pcall hn rfl (by simp only [nrm, Nat.reduceEqDiff, reduceIte, Nat.reduceAdd, hc2, h3, h4, hcv, ht, List.map]; rfl) rfl fun _ _ => ?_); try simp only [nrm, Nat.reduceEqDiff, reduceIte, Nat.reduceAdd, hc2, h3, h4, hcv, ht])
          | (refine WpO.do (WpX.idxP (by (try simp only [nrm, Nat.reduceEqDiff, reduceIte, Nat.reduceAdd, hc2, h3, h4, hcv, ht]); rfl) rfl ?_ ?_); (focus omega); try simp only [nrm, Nat.reduceEqDiff, reduceIte, Nat.reduceAdd, hc2, h3, h4, hcv, ht])
          | (refine WpO.do (WpX.ldB rfl ?_ ?_); (focus omega); try simp only [nrm, Nat.reduceEqDiff, reduceIte, Nat.reduceAdd, hc2, h3, h4, hcv, ht])
          | (refine WpO.do (WpX.ldI rfl ?_ ?_); (focus omega); try simp only [nrm, Nat.reduceEqDiff, reduceIte, Nat.reduceAdd, hc2, h3, h4, hcv, ht])
          | (refine WpO.do (WpX.build (by repeat (first | refine aFill1 (by (try simp only [nrm, Nat.reduceEqDiff, reduceIte, Nat.reduceAdd, hc2, h3, h4, hcv, ht]); rfl) rfl ?_ | rfl)) ?_); try simp only [nrm, Nat.reduceEqDiff, reduceIte, Nat.reduceAdd, hc2, h3, h4, hcv, ht])
          | (refine WpO.guard rfl (fun _ => ?_) (fun h => absurd rfl h))
          | (refine WpO.guard rfl (fun h => absurd h (by decide)) (fun _ => ?_); try simp only [nrm, Nat.reduceEqDiff, reduceIte, Nat.reduceAdd, hc2, h3, h4, hcv, ht])
          | refine WpO.nil ?_
          | refine Wp.seq ?_
          | refine Wp.region ?_
          | refine Wp.dquiet rfl rfl ?_
          | refine Wp.cond (b := true) rfl ?_
          | refine Wp.cond (b := false) rfl ?_
          | refine Wp.skip ?_
          | refine Wp.ret ?_
          | refine Wp.block ?_
          | refine Wp.exit ?_
          | dsimp only [cond_true, cond_false])
        refine WpO.do (WpX.conD hn rfl rfl (by simp only [nrm, Nat.reduceEqDiff, reduceIte, Nat.reduceAdd, List.map] <;> rfl) (K_refSet (y := y) (x := x) (by rw [hfl]; exact hlt) (by rw [hfl]; omega)) fun v H5 h5 => ?_)
        obtain ⟨hb5, hw5, hx5⟩ := h5
        repeat (first
          | (refine WpO.do (WpX.ld rfl rfl ?_); try simp only [nrm, Nat.reduceEqDiff, reduceIte, Nat.reduceAdd])
          | (refine WpO.do (WpX.ldN rfl rfl rfl ?_); try simp only [nrm, Nat.reduceEqDiff, reduceIte, Nat.reduceAdd])
          | (refine WpO.do (WpX.lenP (by (try simp only [nrm, Nat.reduceEqDiff, reduceIte, Nat.reduceAdd]); rfl) ?_); try simp only [nrm, Nat.reduceEqDiff, reduceIte, Nat.reduceAdd])
          | (refine WpO.now rfl rfl ?_; try simp only [nrm, Nat.reduceEqDiff, reduceIte, Nat.reduceAdd])
          | (refine WpO.do' (WpX.st rfl (by (try simp only [nrm, Nat.reduceEqDiff, reduceIte, Nat.reduceAdd]); rfl) rfl rfl rfl (by repeat (first | rfl | refine allOne_cons ?_)) rfl ?_); try simp only [nrm, Nat.reduceEqDiff, reduceIte, Nat.reduceAdd])
          | (refine WpO.do (WpX.pcall hn rfl (by simp only [nrm, Nat.reduceEqDiff, reduceIte, Nat.reduceAdd, List.map]; rfl) rfl fun _ _ => ?_); try simp only [nrm, Nat.reduceEqDiff, reduceIte, Nat.reduceAdd])
          | (refine WpO.do (WpX.idxP (by (try simp only [nrm, Nat.reduceEqDiff, reduceIte, Nat.reduceAdd]); rfl) rfl ?_ ?_); (focus omega); try simp only [nrm, Nat.reduceEqDiff, reduceIte, Nat.reduceAdd])
          | (refine WpO.do (WpX.ldB rfl ?_ ?_); (focus omega); try simp only [nrm, Nat.reduceEqDiff, reduceIte, Nat.reduceAdd])
          | (refine WpO.do (WpX.ldI rfl ?_ ?_); (focus omega); try simp only [nrm, Nat.reduceEqDiff, reduceIte, Nat.reduceAdd])
          | (refine WpO.do (WpX.build (by repeat (first | refine aFill1 (by (try simp only [nrm, Nat.reduceEqDiff, reduceIte, Nat.reduceAdd]); rfl) rfl ?_ | rfl)) ?_); try simp only [nrm, Nat.reduceEqDiff, reduceIte, Nat.reduceAdd])
          | (refine WpO.guard rfl (fun _ => ?_) (fun h => absurd rfl h))
          | (refine WpO.guard rfl (fun h => absurd h (by decide)) (fun _ => ?_); try simp only [nrm, Nat.reduceEqDiff, reduceIte, Nat.reduceAdd])
          | refine WpO.nil ?_
          | refine Wp.seq ?_
          | refine Wp.region ?_
          | refine Wp.dquiet rfl rfl ?_
          | refine Wp.cond (b := true) rfl ?_
          | refine Wp.cond (b := false) rfl ?_
          | refine Wp.skip ?_
          | refine Wp.ret ?_
          | refine Wp.block ?_
          | refine Wp.exit ?_
          | dsimp only [cond_true, cond_false])
        have h0 : thrB level (l.getD (y * a + x) 0) = 1 := by rw [hgd]; exact if_pos (of_decide_eq_true ht)
        refine ⟨x + 1, by omega, ⟨by simp only [nrm, Nat.reduceEqDiff, reduceIte, Nat.reduceAdd]; rw [hw1], trivial⟩, hxa, by rw [show y * a + (x + 1) = y * a + x + 1 by omega, ← filled_succ, h0]; infer_instance, inferInstance, inferInstance⟩
end Go.Am
