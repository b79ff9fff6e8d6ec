/-
  ImageBasics returns true for every two images and every two numbers, and leaves the images as they were. No condition.
-/
import Derived.Test.YtmgeaaipjkjmjaaDoorAmBE
set_option linter.unusedSimpArgs false
set_option linter.unusedVariables false
set_option maxHeartbeats 4000000
set_option maxRecDepth 100000
set_option synthInstance.maxHeartbeats 4000000
set_option synthInstance.maxSize 100000
namespace Go.Am
open Go
attribute [local irreducible] Wp WpO WpX WpE

def newSpec (x y : Int) : Img × Int := bif sideB x && sideB y then (⟨x, y, List.replicate (x.toNat * y.toNat) 0⟩, 0) else (.zero, 2)
theorem K_New' {w h : Int} {H : AHeap} : Con ext prog 3 21 [.int .i64 w, .int .i64 h] H fun v H' => InkRes H H' v (newSpec w h) := K_New
theorem newSpec_err (x y : Int) : (newSpec x y).2 = sizeErr (sideB x && sideB y) := by
 unfold newSpec
 cases (sideB x && sideB y) <;> rfl
theorem notSpec_err (g : Img) : (notSpec g).2 = g.err := by
 unfold notSpec
 cases h : (g.err == 0)
 ·rfl
 ·have : g.err = 0 := by simpa using h
  rw [this]; rfl
theorem side_nat {x : Int} (h : sideB x = true) : ∃ a : Nat, x = a ∧ a ≤ 640 := by
 simp only [sideB, Bool.and_eq_true, decide_eq_true_eq] at h
 exact ⟨x.toNat, by omega, by omega⟩
theorem newShort {x y : Int} (h : (sideB x && sideB y) = true) : (List.replicate (x.toNat * y.toNat) (0 : UInt8)).length ≤ 999999 := by
 simp only [Bool.and_eq_true] at h
 obtain ⟨a, rfl, ha⟩ := side_nat h.1
 obtain ⟨b, rfl, hb⟩ := side_nat h.2
 have hm : a * b ≤ 640 * 640 := Nat.mul_le_mul ha hb
 rw [List.length_replicate, Int.toNat_natCast, Int.toNat_natCast]; omega
theorem newFacts {x y : Int} (h : (sideB x && sideB y) = true) : ((((List.replicate (x.toNat * y.toNat) (0 : UInt8)).length : Nat) : Int) == IntKind.i64.wrap (x * y)) = true ∧ decide (idxB (List.replicate (x.toNat * y.toNat) 0) 1 ≥ 0) = false := by
 constructor
 ·simp only [Bool.and_eq_true] at h
  obtain ⟨a, rfl, ha⟩ := side_nat h.1
  obtain ⟨b, rfl, hb⟩ := side_nat h.2
  have hm : a * b ≤ 640 * 640 := Nat.mul_le_mul ha hb
  rw [wm (by omega)]
  simp
 ·rw [idxB_none]
  ·rfl
  ·intro j hj e
   rw [List.getElem?_replicate] at e
   split at e <;> simp at e
theorem comb_fits {op : UInt8 → UInt8 → UInt8} {g h : Img} (e : ((combSpec op g h).2 == 0) = true) : sizedB (combSpec op g h).1.w (combSpec op g h).1.h (combSpec op g h).1.px.length = true := by
 unfold combSpec at e ⊢
 cases h0 : (g.err == 0)
 ·rw [h0] at e; simp only [cond_false] at e; rw [h0] at e; cases e
 cases h1 : (h.err == 0)
 ·rw [h0, h1] at e; simp only [cond_false, cond_true] at e; rw [h1] at e; cases e
 cases h2 : (g.w == h.w && g.h == h.h)
 ·rw [h0, h1, h2] at e; cases e
 ·simp only [cond_true]
  simp only [Bool.and_eq_true, beq_iff_eq] at h2
  have s1 := (Img.ok h0).1
  have s2 := (Img.ok h1).1
  unfold Img.sized at s1 s2
  obtain ⟨a, b, e1, e2, _, _, e3⟩ := sized_nat s1
  obtain ⟨a', b', e4, e5, _, _, e6⟩ := sized_nat s2
  have : (List.zipWith op g.px h.px).length = g.px.length := by
   rw [List.length_zipWith]
   have h3 : a = a' := by have := h2.1; omega
   have h4 : b = b' := by have := h2.2; omega
   subst h3 h4
   omega
  rw [this]; exact s1

instance {H : AHeap} {r : Nat} {a b c d e f : AVal} {rw : Bool} {ty : TypeId} [h : HasRow H r [a, b, c, d, e, f] rw ty] : SliceAt H (.slice r 0 2 (some 2) 3) 3 2 [a, b, c, d, e, f] := ⟨Or.inr ⟨r, 0, some 2, _, rw, ty, rfl, h.lt, h.get, by simp, rfl, Nat.le_refl _⟩⟩
instance {H : AHeap} {r : Nat} {a b c : AVal} {rw : Bool} {ty : TypeId} [h : HasRow H r [a, b, c] rw ty] : SliceAt H (.slice r 0 1 (some 1) 3) 3 1 [a, b, c] := ⟨Or.inr ⟨r, 0, some 1, _, rw, ty, rfl, h.lt, h.get, by simp, rfl, Nat.le_refl _⟩⟩

theorem K_ImageBasics {w h w' h' x y : Int} {p q : AVal} {H : AHeap} {l m : List UInt8} [hp : BytesI H p l] [hq : BytesI H q m] [ht : Tabs H] : Con ext prog 9 3 [.agg [.int .i64 w, .int .i64 h, p], .agg [.int .i64 w', .int .i64 h', q], .int .i64 x, .int .i64 y] H fun v H' => v = .bool true ∧ Ext H H' := by
 refine con_of (show prog 3 = some c3 from rfl) rfl rfl fun n hn => ?_
 haveI := hp.one
 haveI := hq.one
 cases hfew : (!(decide (((l.length : Nat) : Int) > 4000) || decide (((m.length : Nat) : Int) > 4000)))
 ·skip
  try simp only [↓nrmL, nrmZ, Nat.reduceEqDiff, ↓reduceIte, Nat.reduceAdd, Int.reduceBEq, Int.reduceBNe, hfew, Bool.not_false]
  refine sq ?_
  refine rg fun KF hKF => ?_
  refine Fo.boxA rfl ?_
  refine Fo.boxA rfl ?_
  refine mB rfl ?_
  refine WpO.nil (hKF _ _ ?_)
  refine sq ?_
  refine sq ?_
  refine rg fun KF hKF => ?_
  refine Fo.ldN rfl rfl (by simp only [↓nrmL, nrmZ, Nat.reduceEqDiff, ↓reduceIte, Nat.reduceAdd, Int.reduceBEq, Int.reduceBNe, hfew, Bool.not_false]; rfl) ?_
  refine Fo.ldN rfl rfl (by simp only [↓nrmL, nrmZ, Nat.reduceEqDiff, ↓reduceIte, Nat.reduceAdd, Int.reduceBEq, Int.reduceBNe, hfew, Bool.not_false]; rfl) ?_
  refine Fo.bslice rfl (by simp only [↓nrmL, nrmZ, Nat.reduceEqDiff, ↓reduceIte, Nat.reduceAdd, Int.reduceBEq, Int.reduceBNe, hfew, Bool.not_false]; rfl) ?_
  refine Fo.pcall (v' := ?_) hn rfl (by simp only [↓nrmL, nrmZ, Nat.reduceEqDiff, ↓reduceIte, Nat.reduceAdd, Int.reduceBEq, Int.reduceBNe, hfew, Bool.not_false, List.map]; rfl) rfl ?hv fun _ _ => ?_; case hv => (simp only [↓nrmL, nrmZ, Nat.reduceEqDiff, ↓reduceIte, Nat.reduceAdd, Int.reduceBEq, Int.reduceBNe, hfew, Bool.not_false]; rfl)
  refine Fo.now rfl rfl (by simp only [↓nrmL, nrmZ, Nat.reduceEqDiff, ↓reduceIte, Nat.reduceAdd, Int.reduceBEq, Int.reduceBNe, hfew, Bool.not_false]; rfl) ?_
  refine WpO.nil (hKF _ _ ?_)
  refine Wp.cond (b := true) rfl ?_
  refine sq ?_
  refine rg fun KF hKF => ?_
  refine Fo.pcall (v' := ?_) hn rfl (by simp only [↓nrmL, nrmZ, Nat.reduceEqDiff, ↓reduceIte, Nat.reduceAdd, Int.reduceBEq, Int.reduceBNe, hfew, Bool.not_false, List.map]; rfl) rfl ?hv fun _ _ => ?_; case hv => rfl
  refine mB rfl ?_
  refine WpO.nil (hKF _ _ ?_)
  refine Wp.ret ?_
  dsimp only [cond_true, cond_false]
  refine ⟨trivial, _, (by first | rfl | exact getAllC rfl rfl rfl rfl | exact getAllT rfl (getAllC rfl rfl rfl rfl) | exact getAllC rfl rfl rfl (getAllC rfl rfl rfl rfl) | exact getAllC1 rfl rfl rfl), ?_⟩
  exact ⟨rfl, Ext0.ext⟩
 have hlm : l.length ≤ 4000 ∧ m.length ≤ 4000 := by
  simp only [Bool.not_eq_true', Bool.or_eq_false_iff, decide_eq_false_iff_not] at hfew
  omega
 haveI : Short l := ⟨by omega⟩
 haveI : Short m := ⟨by omega⟩
 try simp only [↓nrmL, nrmZ, Nat.reduceEqDiff, ↓reduceIte, Nat.reduceAdd, Int.reduceBEq, Int.reduceBNe, hfew, Bool.not_true]
 refine sq ?_
 refine rg fun KF hKF => ?_
 refine Fo.boxA rfl ?_
 refine Fo.boxA rfl ?_
 refine mB rfl ?_
 refine WpO.nil (hKF _ _ ?_)
 refine sq ?_
 refine sq ?_
 refine rg fun KF hKF => ?_
 refine Fo.ldN rfl rfl (by simp only [↓nrmL, nrmZ, Nat.reduceEqDiff, ↓reduceIte, Nat.reduceAdd, Int.reduceBEq, Int.reduceBNe, hfew, Bool.not_true]; rfl) ?_
 refine Fo.ldN rfl rfl (by simp only [↓nrmL, nrmZ, Nat.reduceEqDiff, ↓reduceIte, Nat.reduceAdd, Int.reduceBEq, Int.reduceBNe, hfew, Bool.not_true]; rfl) ?_
 refine Fo.bslice rfl (by simp only [↓nrmL, nrmZ, Nat.reduceEqDiff, ↓reduceIte, Nat.reduceAdd, Int.reduceBEq, Int.reduceBNe, hfew, Bool.not_true]; rfl) ?_
 refine Fo.pcall (v' := ?_) hn rfl (by simp only [↓nrmL, nrmZ, Nat.reduceEqDiff, ↓reduceIte, Nat.reduceAdd, Int.reduceBEq, Int.reduceBNe, hfew, Bool.not_true, List.map]; rfl) rfl ?hv fun _ _ => ?_; case hv => (simp only [↓nrmL, nrmZ, Nat.reduceEqDiff, ↓reduceIte, Nat.reduceAdd, Int.reduceBEq, Int.reduceBNe, hfew, Bool.not_true]; rfl)
 refine Fo.now rfl rfl (by simp only [↓nrmL, nrmZ, Nat.reduceEqDiff, ↓reduceIte, Nat.reduceAdd, Int.reduceBEq, Int.reduceBNe, hfew, Bool.not_true]; rfl) ?_
 refine WpO.nil (hKF _ _ ?_)
 refine Wp.cond (b := false) rfl ?_
 refine Wp.skip ?_
 refine sq ?_
 refine Fr.dregionE [.row [.int .i64 0, .int .i64 0, .nslice] true (2 * 24), .row [.int .i64 0, .int .i64 0, .nslice] true (2 * 24)] ?_ fun KF hKF => ?_
 ·skip
  refine oracle_pre rfl rfl rfl (exec_ldN rfl rfl rfl) ?_; (try simp only [↓nrmL, nrmZ, Nat.reduceEqDiff, ↓reduceIte, Nat.reduceAdd, Int.reduceBEq, Int.reduceBNe])
  refine oracle_not rfl rfl ?_; (try simp only [↓nrmL, nrmZ, Nat.reduceEqDiff, ↓reduceIte, Nat.reduceAdd, Int.reduceBEq, Int.reduceBNe])
  refine oracle_pre rfl rfl rfl (exec_ldN rfl rfl rfl) ?_; (try simp only [↓nrmL, nrmZ, Nat.reduceEqDiff, ↓reduceIte, Nat.reduceAdd, Int.reduceBEq, Int.reduceBNe])
  refine oracle_not rfl rfl ?_; (try simp only [↓nrmL, nrmZ, Nat.reduceEqDiff, ↓reduceIte, Nat.reduceAdd, Int.reduceBEq, Int.reduceBNe])
  refine oracle_made rfl rfl rfl ?_; (try simp only [↓nrmL, nrmZ, Nat.reduceEqDiff, ↓reduceIte, Nat.reduceAdd, Int.reduceBEq, Int.reduceBNe])
  refine oracle_made rfl rfl rfl ?_; (try simp only [↓nrmL, nrmZ, Nat.reduceEqDiff, ↓reduceIte, Nat.reduceAdd, Int.reduceBEq, Int.reduceBNe])
  exact oracle_none _ _ _ _ rfl
 simp only [pushAll]
 refine Fe.read rfl (exec_ldN rfl rfl (by simp only [↓nrmL, nrmZ, Nat.reduceEqDiff, ↓reduceIte, Nat.reduceAdd, Int.reduceBEq, Int.reduceBNe]; rfl)) rfl (by repeat (first | exact trivial | refine ⟨(by first | exact Or.inl (by dsimp only; decide) | exact Or.inr (exec_ld rfl rfl) | exact Or.inr (exec_ldN rfl rfl rfl) | exact Or.inr (exec_ldB rfl (by omega)) | exact Or.inr (exec_ldI rfl (by omega)) | exact Or.inr ghost_of), ?_⟩)) ?_
 refine Fe.con rfl hn rfl rfl (by simp only [↓nrmL, nrmZ, Nat.reduceEqDiff, ↓reduceIte, Nat.reduceAdd, Int.reduceBEq, Int.reduceBNe, List.map] <;> rfl) (K_CopyInk (l := l) (by omega)) fun v H1 h5 => ?_
 obtain ⟨a, e1, ha, hfa, hwa, hxa⟩ := h5
 subst e1
 have ha : BytesI H1 a l := ha
 haveI : ExtI _ H1 := ⟨hxa⟩
 haveI := ha.one
 refine ⟨(by repeat (first | exact trivial | refine ⟨(by first | exact Or.inl (by dsimp only; decide) | exact Or.inr (readOk_of (exec_ld rfl rfl)) | exact Or.inr (readOk_of (exec_ldN rfl rfl rfl)) | exact Or.inr (readOk_of (exec_ldB rfl (by omega))) | exact Or.inr (readOk_of (exec_ldI rfl (by omega))) | exact Or.inr (made_of rfl)), ?_⟩)), ?_⟩
 refine Fe.read rfl (exec_ldN rfl rfl (by simp only [↓nrmL, nrmZ, Nat.reduceEqDiff, ↓reduceIte, Nat.reduceAdd, Int.reduceBEq, Int.reduceBNe]; rfl)) rfl (by repeat (first | exact trivial | refine ⟨(by first | exact Or.inl (by dsimp only; decide) | exact Or.inr (exec_ld rfl rfl) | exact Or.inr (exec_ldN rfl rfl rfl) | exact Or.inr (exec_ldB rfl (by omega)) | exact Or.inr (exec_ldI rfl (by omega)) | exact Or.inr ghost_of), ?_⟩)) ?_
 refine Fe.con rfl hn rfl rfl (by simp only [↓nrmL, nrmZ, Nat.reduceEqDiff, ↓reduceIte, Nat.reduceAdd, Int.reduceBEq, Int.reduceBNe, List.map] <;> rfl) (K_CopyInk (l := m) (by omega)) fun v H2 h5 => ?_
 obtain ⟨b, e1, hb, hfb, hwb, hxb⟩ := h5
 subst e1
 have hb : BytesI H2 b m := hb
 haveI : ExtI _ H2 := ⟨hxb⟩
 haveI := hb.one
 refine ⟨(by repeat (first | exact trivial | refine ⟨(by first | exact Or.inl (by dsimp only; decide) | exact Or.inr (readOk_of (exec_ld rfl rfl)) | exact Or.inr (readOk_of (exec_ldN rfl rfl rfl)) | exact Or.inr (readOk_of (exec_ldB rfl (by omega))) | exact Or.inr (readOk_of (exec_ldI rfl (by omega))) | exact Or.inr (made_of rfl)), ?_⟩)), ?_⟩
 refine Fe.made rfl rfl ghost_of (by repeat (first | exact trivial | refine ⟨(by first | exact Or.inl (by dsimp only; decide) | exact Or.inr (exec_ld rfl rfl) | exact Or.inr (exec_ldN rfl rfl rfl) | exact Or.inr (exec_ldB rfl (by omega)) | exact Or.inr (exec_ldI rfl (by omega)) | exact Or.inr ghost_of), ?_⟩)) rfl ?_
 change WpE _ _ (AHeap.n (AHeap.push _ (.row [.int .i64 0, .int .i64 0, .nslice] true (2 * 24)))) _ _ _ _ _ _ _
 refine Fe.made rfl rfl ghost_of (by repeat (first | exact trivial | refine ⟨(by first | exact Or.inl (by dsimp only; decide) | exact Or.inr (exec_ld rfl rfl) | exact Or.inr (exec_ldN rfl rfl rfl) | exact Or.inr (exec_ldB rfl (by omega)) | exact Or.inr (exec_ldI rfl (by omega)) | exact Or.inr ghost_of), ?_⟩)) rfl ?_
 refine Fe.effect0 rfl (exec_st rfl (by (try simp only [↓nrmL, nrmZ, Nat.reduceEqDiff, ↓reduceIte, Nat.reduceAdd, Int.reduceBEq, Int.reduceBNe]); rfl) rfl rfl rfl (by repeat (first | rfl | refine allOne_cons ?_)) (by (try simp only [↓nrmL, nrmZ, Nat.reduceEqDiff, ↓reduceIte, Nat.reduceAdd, Int.reduceBEq, Int.reduceBNe]); rfl)) (by repeat (first | exact trivial | refine ⟨(by first | exact Or.inl (by dsimp only; decide) | exact Or.inr (readOk_of (exec_ld rfl rfl)) | exact Or.inr (readOk_of (exec_ldN rfl rfl rfl)) | exact Or.inr (readOk_of (exec_ldB rfl (by omega))) | exact Or.inr (readOk_of (exec_ldI rfl (by omega))) | exact Or.inr (made_of rfl)), ?_⟩)) ?_
 refine Fe.effect0 rfl (exec_st rfl (by (try simp only [↓nrmL, nrmZ, Nat.reduceEqDiff, ↓reduceIte, Nat.reduceAdd, Int.reduceBEq, Int.reduceBNe]); rfl) rfl rfl rfl (by repeat (first | rfl | refine allOne_cons ?_)) (by (try simp only [↓nrmL, nrmZ, Nat.reduceEqDiff, ↓reduceIte, Nat.reduceAdd, Int.reduceBEq, Int.reduceBNe]); rfl)) (by repeat (first | exact trivial | refine ⟨(by first | exact Or.inl (by dsimp only; decide) | exact Or.inr (readOk_of (exec_ld rfl rfl)) | exact Or.inr (readOk_of (exec_ldN rfl rfl rfl)) | exact Or.inr (readOk_of (exec_ldB rfl (by omega))) | exact Or.inr (readOk_of (exec_ldI rfl (by omega))) | exact Or.inr (made_of rfl)), ?_⟩)) ?_
 refine WpE.nil (hKF _ _ ?_)
 refine sq ?_
 refine rg fun KF hKF => ?_
 refine Fo.ldN rfl rfl (by simp only [↓nrmL, nrmZ, Nat.reduceEqDiff, ↓reduceIte, Nat.reduceAdd, Int.reduceBEq, Int.reduceBNe]; rfl) ?_
 refine Fo.pcall (v' := ?_) hn rfl (by simp only [↓nrmL, nrmZ, Nat.reduceEqDiff, ↓reduceIte, Nat.reduceAdd, Int.reduceBEq, Int.reduceBNe, List.map]; rfl) rfl ?hv fun _ _ => ?_; case hv => rfl
 refine mI rfl ?_
 refine WpO.nil (hKF _ _ ?_)
 refine sq ?_
 refine rg fun KF hKF => ?_
 refine Fo.ldN rfl rfl (by simp only [↓nrmL, nrmZ, Nat.reduceEqDiff, ↓reduceIte, Nat.reduceAdd, Int.reduceBEq, Int.reduceBNe]; rfl) ?_
 refine Fo.pcall (v' := ?_) hn rfl (by simp only [↓nrmL, nrmZ, Nat.reduceEqDiff, ↓reduceIte, Nat.reduceAdd, Int.reduceBEq, Int.reduceBNe, List.map]; rfl) rfl ?hv fun _ _ => ?_; case hv => rfl
 refine mT rfl ?_
 refine Fo.extr rfl rfl ?_
 refine Fo.extr rfl rfl ?_
 refine mI rfl ?_
 refine mI rfl ?_
 refine WpO.nil (hKF _ _ ?_)
 refine sq ?_
 refine rg fun KF hKF => ?_
 refine Fo.ldN rfl rfl (by simp only [↓nrmL, nrmZ, Nat.reduceEqDiff, ↓reduceIte, Nat.reduceAdd, Int.reduceBEq, Int.reduceBNe]; rfl) ?_
 dsimp only [cond_true, cond_false]
 refine WpO.do (WpX.conD hn rfl rfl (by simp only [↓nrmL, nrmZ, Nat.reduceEqDiff, ↓reduceIte, Nat.reduceAdd, Int.reduceBEq, Int.reduceBNe, List.map] <;> rfl) (K_Not (l := l)) fun v H3 h5 => ?_)
 obtain ⟨u, e1, c, e2, hc, hfc, hwc, hxc⟩ := h5
 subst e1 e2
 haveI : ExtI _ H3 := ⟨hxc⟩
 haveI := hc.one
 refine mT rfl ?_
 refine Fo.extr rfl rfl ?_
 refine Fo.extr rfl rfl ?_
 refine Fo.new ?_
 refine Fo.st rfl (rfl : _ = AVal.agg _) rfl rfl rfl (by repeat (first | rfl | refine allOne_cons ?_)) (by simp only [↓nrmL, nrmZ, Nat.reduceEqDiff, ↓reduceIte, Nat.reduceAdd, Int.reduceBEq, Int.reduceBNe]; rfl) ?_
 refine mI rfl ?_
 refine WpO.nil (hKF _ _ ?_)
 refine sq ?_
 refine rg fun KF hKF => ?_
 refine Fo.ldN rfl rfl (by simp only [↓nrmL, nrmZ, Nat.reduceEqDiff, ↓reduceIte, Nat.reduceAdd, Int.reduceBEq, Int.reduceBNe]; rfl) ?_
 refine Fo.ldN rfl rfl (by simp only [↓nrmL, nrmZ, Nat.reduceEqDiff, ↓reduceIte, Nat.reduceAdd, Int.reduceBEq, Int.reduceBNe]; rfl) ?_
 refine Fo.pcall (v' := ?_) hn rfl (by simp only [↓nrmL, nrmZ, Nat.reduceEqDiff, ↓reduceIte, Nat.reduceAdd, Int.reduceBEq, Int.reduceBNe, List.map]; rfl) rfl ?hv fun _ _ => ?_; case hv => rfl
 refine mT rfl ?_
 refine Fo.extr rfl rfl ?_
 refine Fo.extr rfl rfl ?_
 refine mI rfl ?_
 refine mI rfl ?_
 refine WpO.nil (hKF _ _ ?_)
 refine sq ?_
 refine rg fun KF hKF => ?_
 refine mI rfl ?_
 refine mI rfl ?_
 refine WpO.do (WpX.conD hn rfl rfl (by simp only [↓nrmL, nrmZ, Nat.reduceEqDiff, ↓reduceIte, Nat.reduceAdd, Int.reduceBEq, Int.reduceBNe, List.map] <;> rfl) (K_New' (w := x) (h := y)) fun v H4 h5 => ?_)
 obtain ⟨u, e1, d, e2, hd, hfd, hwd, hxd⟩ := h5
 subst e1 e2
 haveI : ExtI _ H4 := ⟨hxd⟩
 haveI := hd.one
 refine mT rfl ?_
 refine Fo.extr rfl rfl ?_
 refine Fo.extr rfl rfl ?_
 refine Fo.new ?_
 refine Fo.st rfl (rfl : _ = AVal.agg _) rfl rfl rfl (by repeat (first | rfl | refine allOne_cons ?_)) (by simp only [↓nrmL, nrmZ, Nat.reduceEqDiff, ↓reduceIte, Nat.reduceAdd, Int.reduceBEq, Int.reduceBNe]; rfl) ?_
 refine mI rfl ?_
 refine WpO.nil (hKF _ _ ?_)
 refine sq ?_
 refine rg fun KF hKF => ?_
 refine Fo.ldN rfl rfl (by simp only [↓nrmL, nrmZ, Nat.reduceEqDiff, ↓reduceIte, Nat.reduceAdd, Int.reduceBEq, Int.reduceBNe]; rfl) ?_
 refine Fo.ldN rfl rfl (by simp only [↓nrmL, nrmZ, Nat.reduceEqDiff, ↓reduceIte, Nat.reduceAdd, Int.reduceBEq, Int.reduceBNe]; rfl) ?_
 refine WpO.do (WpX.conD hn rfl rfl (by simp only [↓nrmL, nrmZ, Nat.reduceEqDiff, ↓reduceIte, Nat.reduceAdd, Int.reduceBEq, Int.reduceBNe, List.map] <;> rfl) (K_refPair3 (l := l) (m := m)) fun v H5 h5 => ?_)
 obtain ⟨u, e1, f, e2, hf, hff, hwf, hxf⟩ := h5
 subst e1 e2
 haveI : ExtI _ H5 := ⟨hxf⟩
 haveI := hf.one
 have hrf := comb_fits (op := fun a b => a ^^^ b) (g := ⟨w, h, l⟩) (h := ⟨w', h', m⟩)
 refine mT rfl ?_
 refine Fo.extr rfl rfl ?_
 refine Fo.extr rfl rfl ?_
 refine Fo.new ?_
 refine Fo.st rfl (rfl : _ = AVal.agg _) rfl rfl rfl (by repeat (first | rfl | refine allOne_cons ?_)) (by simp only [↓nrmL, nrmZ, Nat.reduceEqDiff, ↓reduceIte, Nat.reduceAdd, Int.reduceBEq, Int.reduceBNe]; rfl) ?_
 refine mI rfl ?_
 refine WpO.nil (hKF _ _ ?_)
 refine sq ?_
 refine sq ?_
 generalize combSpec (fun a b => a ^^^ b) ⟨w, h, l⟩ ⟨w', h', m⟩ = r at *
 have hsame : decide ((⟨w, h, l⟩ : Img) = ⟨w, h, l⟩) = true := decide_eq_true rfl
 have hz1 : (Img.zero.px.length : Int) = 0 := rfl
 have hz2 : IntKind.i64.wrap ((0 : Int) + 0) = 0 := rfl
 have hz3 : Img.zero.w = 0 ∧ Img.zero.h = 0 := ⟨rfl, rfl⟩
 refine Fr.dregion0 rfl fun KF hKF => ?_
 try simp only [↓nrmL, nrmZ, Nat.reduceEqDiff, ↓reduceIte, Nat.reduceAdd, Int.reduceBEq, Int.reduceBNe, notSpec_err, newSpec_err, bne_self_eq_false]
 refine Fe.read rfl (exec_ldN rfl rfl (by simp only [↓nrmL, nrmZ, Nat.reduceEqDiff, ↓reduceIte, Nat.reduceAdd, Int.reduceBEq, Int.reduceBNe, notSpec_err, newSpec_err, bne_self_eq_false]; rfl)) rfl (by repeat (first | exact trivial | refine ⟨(by first | exact Or.inl (by dsimp only; decide) | exact Or.inr (exec_ld rfl rfl) | exact Or.inr (exec_ldN rfl rfl rfl) | exact Or.inr (exec_ldB rfl (by omega)) | exact Or.inr (exec_ldI rfl (by omega)) | exact Or.inr ghost_of), ?_⟩)) ?_
 refine Fe.pcall (v' := ?_) rfl hn rfl (by simp only [↓nrmL, nrmZ, Nat.reduceEqDiff, ↓reduceIte, Nat.reduceAdd, Int.reduceBEq, Int.reduceBNe, notSpec_err, newSpec_err, bne_self_eq_false, List.map]; rfl) rfl ?hv fun _ _ => ⟨(by repeat (first | exact trivial | refine ⟨(by first | exact Or.inl (by dsimp only; decide) | exact Or.inr (readOk_of (exec_ld rfl rfl)) | exact Or.inr (readOk_of (exec_ldN rfl rfl rfl)) | exact Or.inr (readOk_of (exec_ldB rfl (by omega))) | exact Or.inr (readOk_of (exec_ldI rfl (by omega))) | exact Or.inr (made_of rfl)), ?_⟩)), ?_⟩; case hv => rfl
 refine Fe.pure rfl rfl (by simp only [↓nrmL, nrmZ, Nat.reduceEqDiff, ↓reduceIte, Nat.reduceAdd, Int.reduceBEq, Int.reduceBNe, notSpec_err, newSpec_err, bne_self_eq_false]; rfl) ?_
 refine Fe.pure rfl rfl (by simp only [↓nrmL, nrmZ, Nat.reduceEqDiff, ↓reduceIte, Nat.reduceAdd, Int.reduceBEq, Int.reduceBNe, notSpec_err, newSpec_err, bne_self_eq_false]; rfl) ?_
 refine Fe.pure rfl rfl (by simp only [↓nrmL, nrmZ, Nat.reduceEqDiff, ↓reduceIte, Nat.reduceAdd, Int.reduceBEq, Int.reduceBNe, notSpec_err, newSpec_err, bne_self_eq_false]; rfl) ?_
 refine Fe.pure rfl rfl (by simp only [↓nrmL, nrmZ, Nat.reduceEqDiff, ↓reduceIte, Nat.reduceAdd, Int.reduceBEq, Int.reduceBNe, notSpec_err, newSpec_err, bne_self_eq_false]; rfl) ?_
 refine Fe.pure rfl rfl (by simp only [↓nrmL, nrmZ, Nat.reduceEqDiff, ↓reduceIte, Nat.reduceAdd, Int.reduceBEq, Int.reduceBNe, notSpec_err, newSpec_err, bne_self_eq_false]; rfl) ?_
 refine Fe.pure rfl rfl (by simp only [↓nrmL, nrmZ, Nat.reduceEqDiff, ↓reduceIte, Nat.reduceAdd, Int.reduceBEq, Int.reduceBNe, notSpec_err, newSpec_err, bne_self_eq_false]; rfl) ?_
 refine Fe.pure rfl rfl (by simp only [↓nrmL, nrmZ, Nat.reduceEqDiff, ↓reduceIte, Nat.reduceAdd, Int.reduceBEq, Int.reduceBNe, notSpec_err, newSpec_err, bne_self_eq_false]; rfl) ?_
 refine Fe.pure rfl rfl (by simp only [↓nrmL, nrmZ, Nat.reduceEqDiff, ↓reduceIte, Nat.reduceAdd, Int.reduceBEq, Int.reduceBNe, notSpec_err, newSpec_err, bne_self_eq_false]; rfl) ?_
 refine Fe.pure rfl rfl (by simp only [↓nrmL, nrmZ, Nat.reduceEqDiff, ↓reduceIte, Nat.reduceAdd, Int.reduceBEq, Int.reduceBNe, notSpec_err, newSpec_err, bne_self_eq_false]; rfl) ?_
 refine Fe.pure rfl rfl (by simp only [↓nrmL, nrmZ, Nat.reduceEqDiff, ↓reduceIte, Nat.reduceAdd, Int.reduceBEq, Int.reduceBNe, notSpec_err, newSpec_err, bne_self_eq_false]; rfl) ?_
 refine Fe.pure rfl rfl (by simp only [↓nrmL, nrmZ, Nat.reduceEqDiff, ↓reduceIte, Nat.reduceAdd, Int.reduceBEq, Int.reduceBNe, notSpec_err, newSpec_err, bne_self_eq_false]; rfl) ?_
 refine Fe.pure rfl rfl (by simp only [↓nrmL, nrmZ, Nat.reduceEqDiff, ↓reduceIte, Nat.reduceAdd, Int.reduceBEq, Int.reduceBNe, notSpec_err, newSpec_err, bne_self_eq_false]; rfl) ?_
 refine Fe.pure rfl rfl (by simp only [↓nrmL, nrmZ, Nat.reduceEqDiff, ↓reduceIte, Nat.reduceAdd, Int.reduceBEq, Int.reduceBNe, notSpec_err, newSpec_err, bne_self_eq_false]; rfl) ?_
 refine Fe.pure rfl rfl (by simp only [↓nrmL, nrmZ, Nat.reduceEqDiff, ↓reduceIte, Nat.reduceAdd, Int.reduceBEq, Int.reduceBNe, notSpec_err, newSpec_err, bne_self_eq_false]; rfl) ?_
 refine Fe.pure rfl rfl (by simp only [↓nrmL, nrmZ, Nat.reduceEqDiff, ↓reduceIte, Nat.reduceAdd, Int.reduceBEq, Int.reduceBNe, notSpec_err, newSpec_err, bne_self_eq_false]; rfl) ?_
 refine Fe.pure rfl rfl (by simp only [↓nrmL, nrmZ, Nat.reduceEqDiff, ↓reduceIte, Nat.reduceAdd, Int.reduceBEq, Int.reduceBNe, notSpec_err, newSpec_err, bne_self_eq_false]; rfl) ?_
 refine Fe.pure rfl rfl (by simp only [↓nrmL, nrmZ, Nat.reduceEqDiff, ↓reduceIte, Nat.reduceAdd, Int.reduceBEq, Int.reduceBNe, notSpec_err, newSpec_err, bne_self_eq_false]; rfl) ?_
 refine Fe.pure rfl rfl (by simp only [↓nrmL, nrmZ, Nat.reduceEqDiff, ↓reduceIte, Nat.reduceAdd, Int.reduceBEq, Int.reduceBNe, notSpec_err, newSpec_err, bne_self_eq_false]; rfl) ?_
 refine Fe.pure rfl rfl (by simp only [↓nrmL, nrmZ, Nat.reduceEqDiff, ↓reduceIte, Nat.reduceAdd, Int.reduceBEq, Int.reduceBNe, notSpec_err, newSpec_err, bne_self_eq_false]; rfl) ?_
 refine Fe.pure rfl rfl (by simp only [↓nrmL, nrmZ, Nat.reduceEqDiff, ↓reduceIte, Nat.reduceAdd, Int.reduceBEq, Int.reduceBNe, notSpec_err, newSpec_err, bne_self_eq_false]; rfl) ?_
 refine Fe.pure rfl rfl (by simp only [↓nrmL, nrmZ, Nat.reduceEqDiff, ↓reduceIte, Nat.reduceAdd, Int.reduceBEq, Int.reduceBNe, notSpec_err, newSpec_err, bne_self_eq_false]; rfl) ?_
 refine Fe.pcall (v' := ?_) rfl hn rfl (by simp only [↓nrmL, nrmZ, Nat.reduceEqDiff, ↓reduceIte, Nat.reduceAdd, Int.reduceBEq, Int.reduceBNe, notSpec_err, newSpec_err, bne_self_eq_false, List.map]; rfl) rfl ?hv fun _ _ => ⟨(by repeat (first | exact trivial | refine ⟨(by first | exact Or.inl (by dsimp only; decide) | exact Or.inr (readOk_of (exec_ld rfl rfl)) | exact Or.inr (readOk_of (exec_ldN rfl rfl rfl)) | exact Or.inr (readOk_of (exec_ldB rfl (by omega))) | exact Or.inr (readOk_of (exec_ldI rfl (by omega))) | exact Or.inr (made_of rfl)), ?_⟩)), ?_⟩; case hv => rfl
 refine Fe.pure rfl rfl (by simp only [↓nrmL, nrmZ, Nat.reduceEqDiff, ↓reduceIte, Nat.reduceAdd, Int.reduceBEq, Int.reduceBNe, notSpec_err, newSpec_err, bne_self_eq_false]; rfl) ?_
 refine Fe.pure rfl rfl (by simp only [↓nrmL, nrmZ, Nat.reduceEqDiff, ↓reduceIte, Nat.reduceAdd, Int.reduceBEq, Int.reduceBNe, notSpec_err, newSpec_err, bne_self_eq_false]; rfl) ?_
 refine Fe.pure rfl rfl (by simp only [↓nrmL, nrmZ, Nat.reduceEqDiff, ↓reduceIte, Nat.reduceAdd, Int.reduceBEq, Int.reduceBNe, notSpec_err, newSpec_err, bne_self_eq_false]; rfl) ?_
 refine Fe.read rfl (exec_ldN rfl rfl (by simp only [↓nrmL, nrmZ, Nat.reduceEqDiff, ↓reduceIte, Nat.reduceAdd, Int.reduceBEq, Int.reduceBNe, notSpec_err, newSpec_err, bne_self_eq_false]; rfl)) rfl (by repeat (first | exact trivial | refine ⟨(by first | exact Or.inl (by dsimp only; decide) | exact Or.inr (exec_ld rfl rfl) | exact Or.inr (exec_ldN rfl rfl rfl) | exact Or.inr (exec_ldB rfl (by omega)) | exact Or.inr (exec_ldI rfl (by omega)) | exact Or.inr ghost_of), ?_⟩)) ?_
 refine Fe.pcall (v' := ?_) rfl hn rfl (by simp only [↓nrmL, nrmZ, Nat.reduceEqDiff, ↓reduceIte, Nat.reduceAdd, Int.reduceBEq, Int.reduceBNe, notSpec_err, newSpec_err, bne_self_eq_false, List.map]; rfl) rfl ?hv fun _ _ => ⟨(by repeat (first | exact trivial | refine ⟨(by first | exact Or.inl (by dsimp only; decide) | exact Or.inr (readOk_of (exec_ld rfl rfl)) | exact Or.inr (readOk_of (exec_ldN rfl rfl rfl)) | exact Or.inr (readOk_of (exec_ldB rfl (by omega))) | exact Or.inr (readOk_of (exec_ldI rfl (by omega))) | exact Or.inr (made_of rfl)), ?_⟩)), ?_⟩; case hv => rfl
 refine Fe.read rfl (exec_ldN rfl rfl (by simp only [↓nrmL, nrmZ, Nat.reduceEqDiff, ↓reduceIte, Nat.reduceAdd, Int.reduceBEq, Int.reduceBNe, notSpec_err, newSpec_err, bne_self_eq_false]; rfl)) rfl (by repeat (first | exact trivial | refine ⟨(by first | exact Or.inl (by dsimp only; decide) | exact Or.inr (exec_ld rfl rfl) | exact Or.inr (exec_ldN rfl rfl rfl) | exact Or.inr (exec_ldB rfl (by omega)) | exact Or.inr (exec_ldI rfl (by omega)) | exact Or.inr ghost_of), ?_⟩)) ?_
 refine Fe.pcall (v' := ?_) rfl hn rfl (by simp only [↓nrmL, nrmZ, Nat.reduceEqDiff, ↓reduceIte, Nat.reduceAdd, Int.reduceBEq, Int.reduceBNe, notSpec_err, newSpec_err, bne_self_eq_false, List.map]; rfl) rfl ?hv fun _ _ => ⟨(by repeat (first | exact trivial | refine ⟨(by first | exact Or.inl (by dsimp only; decide) | exact Or.inr (readOk_of (exec_ld rfl rfl)) | exact Or.inr (readOk_of (exec_ldN rfl rfl rfl)) | exact Or.inr (readOk_of (exec_ldB rfl (by omega))) | exact Or.inr (readOk_of (exec_ldI rfl (by omega))) | exact Or.inr (made_of rfl)), ?_⟩)), ?_⟩; case hv => rfl
 refine Fe.pure rfl rfl (by simp only [↓nrmL, nrmZ, Nat.reduceEqDiff, ↓reduceIte, Nat.reduceAdd, Int.reduceBEq, Int.reduceBNe, notSpec_err, newSpec_err, bne_self_eq_false]; rfl) ?_
 refine Fe.pure rfl rfl (by simp only [↓nrmL, nrmZ, Nat.reduceEqDiff, ↓reduceIte, Nat.reduceAdd, Int.reduceBEq, Int.reduceBNe, notSpec_err, newSpec_err, bne_self_eq_false]; rfl) ?_
 refine WpE.nil (hKF _ _ ?_)
 refine Wp.cond (b := false) rfl ?_
 refine Wp.skip ?_
 refine sq ?_
 refine sq ?_
 cases h0 : (Img.err ⟨w, h, l⟩ == 0)
 ·have e1 : notSpec ⟨w, h, l⟩ = (.zero, Img.err ⟨w, h, l⟩) := by simp [notSpec, h0]
  simp only [e1] at *
  refine Fr.dregion0 rfl fun KF hKF => ?_
  try simp only [↓nrmL, nrmZ, Nat.reduceEqDiff, ↓reduceIte, Nat.reduceAdd, Int.reduceBEq, Int.reduceBNe, h0, bne, cond_false, Bool.not_true, Bool.not_false, beq_self_eq_true, Bool.and_false, hz1]
  refine Fe.pure rfl rfl (by simp only [↓nrmL, nrmZ, Nat.reduceEqDiff, ↓reduceIte, Nat.reduceAdd, Int.reduceBEq, Int.reduceBNe, h0, bne, cond_false, Bool.not_true, Bool.not_false, beq_self_eq_true, Bool.and_false, hz1]; rfl) ?_
  refine Fe.pure rfl rfl (by simp only [↓nrmL, nrmZ, Nat.reduceEqDiff, ↓reduceIte, Nat.reduceAdd, Int.reduceBEq, Int.reduceBNe, h0, bne, cond_false, Bool.not_true, Bool.not_false, beq_self_eq_true, Bool.and_false, hz1]; rfl) ?_
  refine Fe.pure rfl rfl (by simp only [↓nrmL, nrmZ, Nat.reduceEqDiff, ↓reduceIte, Nat.reduceAdd, Int.reduceBEq, Int.reduceBNe, h0, bne, cond_false, Bool.not_true, Bool.not_false, beq_self_eq_true, Bool.and_false, hz1]; rfl) ?_
  refine Fe.skip rfl ?_
  refine Fe.skip rfl ?_
  refine Fe.skip rfl ?_
  refine Fe.skip rfl ?_
  refine Fe.skip rfl ?_
  refine Fe.skip rfl ?_
  refine Fe.skip rfl ?_
  refine Fe.skip rfl ?_
  refine Fe.skip rfl ?_
  refine Fe.skip rfl ?_
  refine Fe.skip rfl ?_
  refine Fe.skip rfl ?_
  refine Fe.skip rfl ?_
  refine Fe.skip rfl ?_
  refine Fe.skip rfl ?_
  refine Fe.skip rfl ?_
  refine Fe.skip rfl ?_
  refine Fe.skip rfl ?_
  refine Fe.skip rfl ?_
  refine Fe.skip rfl ?_
  refine Fe.skip rfl ?_
  refine Fe.skip rfl ?_
  refine Fe.pure rfl rfl (by simp only [↓nrmL, nrmZ, Nat.reduceEqDiff, ↓reduceIte, Nat.reduceAdd, Int.reduceBEq, Int.reduceBNe, h0, bne, cond_false, Bool.not_true, Bool.not_false, beq_self_eq_true, Bool.and_false, hz1]; rfl) ?_
  refine Fe.pure rfl rfl (by simp only [↓nrmL, nrmZ, Nat.reduceEqDiff, ↓reduceIte, Nat.reduceAdd, Int.reduceBEq, Int.reduceBNe, h0, bne, cond_false, Bool.not_true, Bool.not_false, beq_self_eq_true, Bool.and_false, hz1]; rfl) ?_
  refine Fe.pure rfl rfl (by simp only [↓nrmL, nrmZ, Nat.reduceEqDiff, ↓reduceIte, Nat.reduceAdd, Int.reduceBEq, Int.reduceBNe, h0, bne, cond_false, Bool.not_true, Bool.not_false, beq_self_eq_true, Bool.and_false, hz1]; rfl) ?_
  refine Fe.pure rfl rfl (by simp only [↓nrmL, nrmZ, Nat.reduceEqDiff, ↓reduceIte, Nat.reduceAdd, Int.reduceBEq, Int.reduceBNe, h0, bne, cond_false, Bool.not_true, Bool.not_false, beq_self_eq_true, Bool.and_false, hz1]; rfl) ?_
  refine Fe.pure rfl rfl (by simp only [↓nrmL, nrmZ, Nat.reduceEqDiff, ↓reduceIte, Nat.reduceAdd, Int.reduceBEq, Int.reduceBNe, h0, bne, cond_false, Bool.not_true, Bool.not_false, beq_self_eq_true, Bool.and_false, hz1]; rfl) ?_
  refine Fe.pure rfl rfl (by simp only [↓nrmL, nrmZ, Nat.reduceEqDiff, ↓reduceIte, Nat.reduceAdd, Int.reduceBEq, Int.reduceBNe, h0, bne, cond_false, Bool.not_true, Bool.not_false, beq_self_eq_true, Bool.and_false, hz1]; rfl) ?_
  refine Fe.pure rfl rfl (by simp only [↓nrmL, nrmZ, Nat.reduceEqDiff, ↓reduceIte, Nat.reduceAdd, Int.reduceBEq, Int.reduceBNe, h0, bne, cond_false, Bool.not_true, Bool.not_false, beq_self_eq_true, Bool.and_false, hz1]; rfl) ?_
  refine Fe.pure rfl rfl (by simp only [↓nrmL, nrmZ, Nat.reduceEqDiff, ↓reduceIte, Nat.reduceAdd, Int.reduceBEq, Int.reduceBNe, h0, bne, cond_false, Bool.not_true, Bool.not_false, beq_self_eq_true, Bool.and_false, hz1]; rfl) ?_
  refine Fe.pure rfl rfl (by simp only [↓nrmL, nrmZ, Nat.reduceEqDiff, ↓reduceIte, Nat.reduceAdd, Int.reduceBEq, Int.reduceBNe, h0, bne, cond_false, Bool.not_true, Bool.not_false, beq_self_eq_true, Bool.and_false, hz1]; rfl) ?_
  refine Fe.read rfl (exec_ld rfl rfl) rfl (by repeat (first | exact trivial | refine ⟨(by first | exact Or.inl (by dsimp only; decide) | exact Or.inr (exec_ld rfl rfl) | exact Or.inr (exec_ldN rfl rfl rfl) | exact Or.inr (exec_ldB rfl (by omega)) | exact Or.inr (exec_ldI rfl (by omega)) | exact Or.inr ghost_of), ?_⟩)) ?_
  refine Fe.pure rfl (exec_lenP (by (try simp only [↓nrmL, nrmZ, Nat.reduceEqDiff, ↓reduceIte, Nat.reduceAdd, Int.reduceBEq, Int.reduceBNe, h0, bne, cond_false, Bool.not_true, Bool.not_false, beq_self_eq_true, Bool.and_false, hz1]); rfl)) (by simp only [↓nrmL, nrmZ, Nat.reduceEqDiff, ↓reduceIte, Nat.reduceAdd, Int.reduceBEq, Int.reduceBNe, h0, bne, cond_false, Bool.not_true, Bool.not_false, beq_self_eq_true, Bool.and_false, hz1]; rfl) ?_
  refine Fe.pure rfl rfl (by simp only [↓nrmL, nrmZ, Nat.reduceEqDiff, ↓reduceIte, Nat.reduceAdd, Int.reduceBEq, Int.reduceBNe, h0, bne, cond_false, Bool.not_true, Bool.not_false, beq_self_eq_true, Bool.and_false, hz1]; rfl) ?_
  refine Fe.pure rfl rfl (by simp only [↓nrmL, nrmZ, Nat.reduceEqDiff, ↓reduceIte, Nat.reduceAdd, Int.reduceBEq, Int.reduceBNe, h0, bne, cond_false, Bool.not_true, Bool.not_false, beq_self_eq_true, Bool.and_false, hz1]; rfl) ?_
  refine Fe.pure rfl rfl (by simp only [↓nrmL, nrmZ, Nat.reduceEqDiff, ↓reduceIte, Nat.reduceAdd, Int.reduceBEq, Int.reduceBNe, h0, bne, cond_false, Bool.not_true, Bool.not_false, beq_self_eq_true, Bool.and_false, hz1]; rfl) ?_
  refine Fe.read rfl (exec_ldN rfl rfl (by simp only [↓nrmL, nrmZ, Nat.reduceEqDiff, ↓reduceIte, Nat.reduceAdd, Int.reduceBEq, Int.reduceBNe, h0, bne, cond_false, Bool.not_true, Bool.not_false, beq_self_eq_true, Bool.and_false, hz1]; rfl)) rfl (by repeat (first | exact trivial | refine ⟨(by first | exact Or.inl (by dsimp only; decide) | exact Or.inr (exec_ld rfl rfl) | exact Or.inr (exec_ldN rfl rfl rfl) | exact Or.inr (exec_ldB rfl (by omega)) | exact Or.inr (exec_ldI rfl (by omega)) | exact Or.inr ghost_of), ?_⟩)) ?_
  refine Fe.pure rfl rfl (by simp only [↓nrmL, nrmZ, Nat.reduceEqDiff, ↓reduceIte, Nat.reduceAdd, Int.reduceBEq, Int.reduceBNe, h0, bne, cond_false, Bool.not_true, Bool.not_false, beq_self_eq_true, Bool.and_false, hz1]; rfl) ?_
  refine Fe.pure rfl rfl (by simp only [↓nrmL, nrmZ, Nat.reduceEqDiff, ↓reduceIte, Nat.reduceAdd, Int.reduceBEq, Int.reduceBNe, h0, bne, cond_false, Bool.not_true, Bool.not_false, beq_self_eq_true, Bool.and_false, hz1]; rfl) ?_
  refine Fe.pcall (v' := ?_) rfl hn rfl (by simp only [↓nrmL, nrmZ, Nat.reduceEqDiff, ↓reduceIte, Nat.reduceAdd, Int.reduceBEq, Int.reduceBNe, h0, bne, cond_false, Bool.not_true, Bool.not_false, beq_self_eq_true, Bool.and_false, hz1, List.map]; rfl) rfl ?hv fun _ _ => ⟨(by repeat (first | exact trivial | refine ⟨(by first | exact Or.inl (by dsimp only; decide) | exact Or.inr (readOk_of (exec_ld rfl rfl)) | exact Or.inr (readOk_of (exec_ldN rfl rfl rfl)) | exact Or.inr (readOk_of (exec_ldB rfl (by omega))) | exact Or.inr (readOk_of (exec_ldI rfl (by omega))) | exact Or.inr (made_of rfl)), ?_⟩)), ?_⟩; case hv => (simp only [↓nrmL, nrmZ, Nat.reduceEqDiff, ↓reduceIte, Nat.reduceAdd, Int.reduceBEq, Int.reduceBNe, h0, bne, cond_false, Bool.not_true, Bool.not_false, beq_self_eq_true, Bool.and_false, hz1]; rfl)
  refine Fe.pure rfl rfl (by simp only [↓nrmL, nrmZ, Nat.reduceEqDiff, ↓reduceIte, Nat.reduceAdd, Int.reduceBEq, Int.reduceBNe, h0, bne, cond_false, Bool.not_true, Bool.not_false, beq_self_eq_true, Bool.and_false, hz1]; rfl) ?_
  refine Fe.pure rfl rfl (by simp only [↓nrmL, nrmZ, Nat.reduceEqDiff, ↓reduceIte, Nat.reduceAdd, Int.reduceBEq, Int.reduceBNe, h0, bne, cond_false, Bool.not_true, Bool.not_false, beq_self_eq_true, Bool.and_false, hz1]; rfl) ?_
  refine Fe.pure rfl rfl (by simp only [↓nrmL, nrmZ, Nat.reduceEqDiff, ↓reduceIte, Nat.reduceAdd, Int.reduceBEq, Int.reduceBNe, h0, bne, cond_false, Bool.not_true, Bool.not_false, beq_self_eq_true, Bool.and_false, hz1]; rfl) ?_
  refine WpE.nil (hKF _ _ ?_)
  refine Wp.cond (b := false) rfl ?_
  refine Wp.skip ?_
  refine sq ?_
  refine sq ?_
  refine rg fun KF hKF => ?_
  refine mI rfl ?_
  refine Fo.bin rfl rfl rfl rfl ?_
  refine mB rfl ?_
  cases hk : (sideB x && sideB y)
  ·have ek : newSpec x y = (.zero, 2) := by unfold newSpec; rw [hk]; rfl
   simp only [ek] at *
   cases hr : (r.2 == 0)
   ·skip
    try simp only [↓nrmL, nrmZ, Nat.reduceEqDiff, ↓reduceIte, Nat.reduceAdd, Int.reduceBEq, Int.reduceBNe, hr, hk, bne, bne_self_eq_false, cond_false, Bool.not_true, Bool.not_false, hz1, hz2, hz3, hsame]
    refine Fo.no rfl rfl ?_
    refine Fo.no rfl rfl ?_
    refine Fo.no rfl rfl ?_
    refine Fo.no rfl rfl ?_
    refine fB rfl rfl ?_
    refine mB rfl ?_
    refine Fo.yes rfl rfl ?_
    refine mI rfl ?_
    refine Fo.yes rfl rfl ?_
    refine Fo.bin rfl rfl rfl (by simp only [↓nrmL, nrmZ, Nat.reduceEqDiff, ↓reduceIte, Nat.reduceAdd, Int.reduceBEq, Int.reduceBNe, hr, hk, bne, bne_self_eq_false, cond_false, Bool.not_true, Bool.not_false, hz1, hz2, hz3, hsame]; rfl) ?_
    refine Fo.yes rfl rfl ?_
    refine mB rfl ?_
    refine Fo.yes rfl rfl ?_
    refine mI rfl ?_
    refine Fo.yes rfl rfl ?_
    refine Fo.bin rfl rfl rfl (by simp only [↓nrmL, nrmZ, Nat.reduceEqDiff, ↓reduceIte, Nat.reduceAdd, Int.reduceBEq, Int.reduceBNe, hr, hk, bne, bne_self_eq_false, cond_false, Bool.not_true, Bool.not_false, hz1, hz2, hz3, hsame]; rfl) ?_
    refine Fo.yes rfl rfl ?_
    refine tB rfl rfl ?_
    refine fB rfl rfl ?_
    refine mB rfl ?_
    refine Fo.yes rfl rfl ?_
    refine mI rfl ?_
    refine Fo.yes rfl rfl ?_
    refine Fo.bin rfl rfl rfl rfl ?_
    refine Fo.yes rfl rfl ?_
    refine mB rfl ?_
    refine Fo.no rfl rfl ?_
    refine Fo.no rfl rfl ?_
    refine Fo.no rfl rfl ?_
    refine Fo.no rfl rfl ?_
    refine Fo.no rfl rfl ?_
    refine Fo.noU rfl ?_
    refine Fo.noU rfl ?_
    refine Fo.noU rfl ?_
    refine Fo.noU rfl ?_
    refine Fo.no rfl rfl ?_
    refine Fo.no rfl rfl ?_
    refine Fo.noU rfl ?_
    refine Fo.noU rfl ?_
    refine Fo.noU rfl ?_
    refine Fo.noU rfl ?_
    refine Fo.noU rfl ?_
    refine Fo.noU rfl ?_
    refine Fo.noU rfl ?_
    refine Fo.no rfl rfl ?_
    refine Fo.no rfl rfl ?_
    refine Fo.noU rfl ?_
    refine Fo.noU rfl ?_
    refine Fo.noU rfl ?_
    refine Fo.no rfl rfl ?_
    refine Fo.yes rfl rfl ?_
    refine fB rfl rfl ?_
    refine fB rfl rfl ?_
    refine mB rfl ?_
    refine Fo.yes rfl rfl ?_
    refine mI rfl ?_
    refine Fo.yes rfl rfl ?_
    refine Fo.bin rfl rfl rfl (by simp only [↓nrmL, nrmZ, Nat.reduceEqDiff, ↓reduceIte, Nat.reduceAdd, Int.reduceBEq, Int.reduceBNe, hr, hk, bne, bne_self_eq_false, cond_false, Bool.not_true, Bool.not_false, hz1, hz2, hz3, hsame]; rfl) ?_
    refine Fo.yes rfl rfl ?_
    refine mB rfl ?_
    refine Fo.yes rfl rfl ?_
    refine Fo.fa rfl ?_
    refine Fo.yes rfl rfl ?_
    refine Fo.ld rfl rfl ?_
    refine Fo.yes rfl rfl ?_
    refine Fo.len (v := ?_) (by simp only [↓nrmL, nrmK, Nat.reduceEqDiff, ↓reduceIte]; rfl) ?hv ?_; case hv => (simp only [↓nrmL, nrmZ, Nat.reduceEqDiff, ↓reduceIte, Nat.reduceAdd, Int.reduceBEq, Int.reduceBNe, hr, hk, bne, bne_self_eq_false, cond_false, Bool.not_true, Bool.not_false, hz1, hz2, hz3, hsame]; rfl)
    refine Fo.yes rfl rfl ?_
    refine Fo.fa rfl ?_
    refine Fo.yes rfl rfl ?_
    refine Fo.ld rfl rfl ?_
    refine Fo.yes rfl rfl ?_
    refine Fo.bin rfl rfl rfl (by simp only [↓nrmL, nrmZ, Nat.reduceEqDiff, ↓reduceIte, Nat.reduceAdd, Int.reduceBEq, Int.reduceBNe, hr, hk, bne, bne_self_eq_false, cond_false, Bool.not_true, Bool.not_false, hz1, hz2, hz3, hsame]; rfl) ?_
    refine Fo.yes rfl rfl ?_
    refine Fo.fa rfl ?_
    refine Fo.yes rfl rfl ?_
    refine Fo.ld rfl rfl ?_
    refine Fo.yes rfl rfl ?_
    refine Fo.bin rfl rfl rfl (by simp only [↓nrmL, nrmZ, Nat.reduceEqDiff, ↓reduceIte, Nat.reduceAdd, Int.reduceBEq, Int.reduceBNe, hr, hk, bne, bne_self_eq_false, cond_false, Bool.not_true, Bool.not_false, hz1, hz2, hz3, hsame]; rfl) ?_
    refine Fo.yes rfl rfl ?_
    refine Fo.bin rfl rfl rfl (by simp only [↓nrmL, nrmZ, Nat.reduceEqDiff, ↓reduceIte, Nat.reduceAdd, Int.reduceBEq, Int.reduceBNe, hr, hk, bne, bne_self_eq_false, cond_false, Bool.not_true, Bool.not_false, hz1, hz2, hz3, hsame]; rfl) ?_
    refine Fo.yes rfl rfl ?_
    refine tB rfl rfl ?_
    refine fB rfl rfl ?_
    refine WpO.nil (hKF _ _ ?_)
    refine Wp.cond (b := false) rfl ?_
    refine Wp.skip ?_
    refine sq ?_
    refine rg fun KF hKF => ?_
    refine Fo.ldN rfl rfl (by simp only [↓nrmL, nrmZ, Nat.reduceEqDiff, ↓reduceIte, Nat.reduceAdd, Int.reduceBEq, Int.reduceBNe, hr, hk, bne, bne_self_eq_false, cond_false, Bool.not_true, Bool.not_false, hz1, hz2, hz3, hsame]; rfl) ?_
    refine Fo.ldN rfl rfl (by simp only [↓nrmL, nrmZ, Nat.reduceEqDiff, ↓reduceIte, Nat.reduceAdd, Int.reduceBEq, Int.reduceBNe, hr, hk, bne, bne_self_eq_false, cond_false, Bool.not_true, Bool.not_false, hz1, hz2, hz3, hsame]; rfl) ?_
    refine Fo.pcall (v' := ?_) hn rfl (by simp only [↓nrmL, nrmZ, Nat.reduceEqDiff, ↓reduceIte, Nat.reduceAdd, Int.reduceBEq, Int.reduceBNe, hr, hk, bne, bne_self_eq_false, cond_false, Bool.not_true, Bool.not_false, hz1, hz2, hz3, hsame, List.map]; rfl) rfl ?hv fun _ _ => ?_; case hv => (simp only [↓nrmL, nrmZ, Nat.reduceEqDiff, ↓reduceIte, Nat.reduceAdd, Int.reduceBEq, Int.reduceBNe, hr, hk, bne, bne_self_eq_false, cond_false, Bool.not_true, Bool.not_false, hz1, hz2, hz3, hsame]; rfl)
    refine mB rfl ?_
    refine Fo.yes rfl rfl ?_
    refine Fo.ldN rfl rfl (by simp only [↓nrmL, nrmZ, Nat.reduceEqDiff, ↓reduceIte, Nat.reduceAdd, Int.reduceBEq, Int.reduceBNe, hr, hk, bne, bne_self_eq_false, cond_false, Bool.not_true, Bool.not_false, hz1, hz2, hz3, hsame]; rfl) ?_
    refine Fo.yes rfl rfl ?_
    refine Fo.ldN rfl rfl (by simp only [↓nrmL, nrmZ, Nat.reduceEqDiff, ↓reduceIte, Nat.reduceAdd, Int.reduceBEq, Int.reduceBNe, hr, hk, bne, bne_self_eq_false, cond_false, Bool.not_true, Bool.not_false, hz1, hz2, hz3, hsame]; rfl) ?_
    refine Fo.yes rfl rfl ?_
    refine Fo.pcall (v' := ?_) hn rfl (by simp only [↓nrmL, nrmZ, Nat.reduceEqDiff, ↓reduceIte, Nat.reduceAdd, Int.reduceBEq, Int.reduceBNe, hr, hk, bne, bne_self_eq_false, cond_false, Bool.not_true, Bool.not_false, hz1, hz2, hz3, hsame, List.map]; rfl) rfl ?hv fun _ _ => ?_; case hv => (simp only [↓nrmL, nrmZ, Nat.reduceEqDiff, ↓reduceIte, Nat.reduceAdd, Int.reduceBEq, Int.reduceBNe, hr, hk, bne, bne_self_eq_false, cond_false, Bool.not_true, Bool.not_false, hz1, hz2, hz3, hsame]; rfl)
    refine tB rfl rfl ?_
    refine mB rfl ?_
    refine Fo.yes rfl rfl ?_
    refine Fo.pcall (v' := ?_) hn rfl (by simp only [↓nrmL, nrmZ, Nat.reduceEqDiff, ↓reduceIte, Nat.reduceAdd, Int.reduceBEq, Int.reduceBNe, hr, hk, bne, bne_self_eq_false, cond_false, Bool.not_true, Bool.not_false, hz1, hz2, hz3, hsame, List.map]; rfl) rfl ?hv fun _ _ => ?_; case hv => rfl
    refine tB rfl rfl ?_
    refine mB rfl ?_
    refine WpO.nil (hKF _ _ ?_)
    refine Wp.ret ?_
    dsimp only [cond_true, cond_false]
    refine ⟨trivial, _, (by first | rfl | exact getAllC rfl rfl rfl rfl | exact getAllT rfl (getAllC rfl rfl rfl rfl) | exact getAllC rfl rfl rfl (getAllC rfl rfl rfl rfl) | exact getAllC1 rfl rfl rfl), ?_⟩
    exact ⟨rfl, Ext0.ext⟩
   ·haveI : Fits r.1.w r.1.h r.1.px := ⟨hrf hr⟩
    try simp only [↓nrmL, nrmZ, Nat.reduceEqDiff, ↓reduceIte, Nat.reduceAdd, Int.reduceBEq, Int.reduceBNe, hr, hk, bne, bne_self_eq_false, cond_true, Bool.not_true, Bool.not_false, hz1, hz2, hz3, hsame, beq_self_eq_true]
    refine Fo.yes rfl rfl ?_
    refine mI rfl ?_
    refine Fo.yes rfl rfl ?_
    refine Fo.ldN rfl rfl (by simp only [↓nrmL, nrmZ, Nat.reduceEqDiff, ↓reduceIte, Nat.reduceAdd, Int.reduceBEq, Int.reduceBNe, hr, hk, bne, bne_self_eq_false, cond_true, Bool.not_true, Bool.not_false, hz1, hz2, hz3, hsame, beq_self_eq_true]; rfl) ?_
    refine Fo.yes rfl rfl ?_
    refine Fo.pcall (v' := ?_) hn rfl (by simp only [↓nrmL, nrmZ, Nat.reduceEqDiff, ↓reduceIte, Nat.reduceAdd, Int.reduceBEq, Int.reduceBNe, hr, hk, bne, bne_self_eq_false, cond_true, Bool.not_true, Bool.not_false, hz1, hz2, hz3, hsame, beq_self_eq_true, List.map]; rfl) rfl ?hv fun _ _ => ?_; case hv => rfl
    refine Fo.yes rfl rfl ?_
    refine Fo.bin rfl rfl rfl (by simp only [↓nrmL, nrmZ, Nat.reduceEqDiff, ↓reduceIte, Nat.reduceAdd, Int.reduceBEq, Int.reduceBNe, hr, hk, bne, bne_self_eq_false, cond_true, Bool.not_true, Bool.not_false, hz1, hz2, hz3, hsame, beq_self_eq_true]; rfl) ?_
    refine tB rfl rfl ?_
    refine mB rfl ?_
    refine Fo.yes rfl rfl ?_
    refine mI rfl ?_
    refine Fo.yes rfl rfl ?_
    refine Fo.bin rfl rfl rfl (by simp only [↓nrmL, nrmZ, Nat.reduceEqDiff, ↓reduceIte, Nat.reduceAdd, Int.reduceBEq, Int.reduceBNe, hr, hk, bne, bne_self_eq_false, cond_true, Bool.not_true, Bool.not_false, hz1, hz2, hz3, hsame, beq_self_eq_true]; rfl) ?_
    refine Fo.yes rfl rfl ?_
    refine mB rfl ?_
    refine Fo.no rfl rfl ?_
    refine Fo.no rfl rfl ?_
    refine Fo.yes rfl rfl ?_
    refine fB rfl rfl ?_
    refine fB rfl rfl ?_
    refine mB rfl ?_
    refine Fo.yes rfl rfl ?_
    refine mI rfl ?_
    refine Fo.yes rfl rfl ?_
    refine Fo.bin rfl rfl rfl rfl ?_
    refine Fo.yes rfl rfl ?_
    refine mB rfl ?_
    refine Fo.no rfl rfl ?_
    refine Fo.no rfl rfl ?_
    refine Fo.no rfl rfl ?_
    refine Fo.no rfl rfl ?_
    refine Fo.no rfl rfl ?_
    refine Fo.noU rfl ?_
    refine Fo.noU rfl ?_
    refine Fo.noU rfl ?_
    refine Fo.noU rfl ?_
    refine Fo.no rfl rfl ?_
    refine Fo.no rfl rfl ?_
    refine Fo.noU rfl ?_
    refine Fo.noU rfl ?_
    refine Fo.noU rfl ?_
    refine Fo.noU rfl ?_
    refine Fo.noU rfl ?_
    refine Fo.noU rfl ?_
    refine Fo.noU rfl ?_
    refine Fo.no rfl rfl ?_
    refine Fo.no rfl rfl ?_
    refine Fo.noU rfl ?_
    refine Fo.noU rfl ?_
    refine Fo.noU rfl ?_
    refine Fo.no rfl rfl ?_
    refine Fo.yes rfl rfl ?_
    refine fB rfl rfl ?_
    refine fB rfl rfl ?_
    refine mB rfl ?_
    refine Fo.yes rfl rfl ?_
    refine mI rfl ?_
    refine Fo.yes rfl rfl ?_
    refine Fo.bin rfl rfl rfl (by simp only [↓nrmL, nrmZ, Nat.reduceEqDiff, ↓reduceIte, Nat.reduceAdd, Int.reduceBEq, Int.reduceBNe, hr, hk, bne, bne_self_eq_false, cond_true, Bool.not_true, Bool.not_false, hz1, hz2, hz3, hsame, beq_self_eq_true]; rfl) ?_
    refine Fo.yes rfl rfl ?_
    refine mB rfl ?_
    refine Fo.yes rfl rfl ?_
    refine Fo.fa rfl ?_
    refine Fo.yes rfl rfl ?_
    refine Fo.ld rfl rfl ?_
    refine Fo.yes rfl rfl ?_
    refine Fo.len (v := ?_) (by simp only [↓nrmL, nrmK, Nat.reduceEqDiff, ↓reduceIte]; rfl) ?hv ?_; case hv => (simp only [↓nrmL, nrmZ, Nat.reduceEqDiff, ↓reduceIte, Nat.reduceAdd, Int.reduceBEq, Int.reduceBNe, hr, hk, bne, bne_self_eq_false, cond_true, Bool.not_true, Bool.not_false, hz1, hz2, hz3, hsame, beq_self_eq_true]; rfl)
    refine Fo.yes rfl rfl ?_
    refine Fo.fa rfl ?_
    refine Fo.yes rfl rfl ?_
    refine Fo.ld rfl rfl ?_
    refine Fo.yes rfl rfl ?_
    refine Fo.bin rfl rfl rfl (by simp only [↓nrmL, nrmZ, Nat.reduceEqDiff, ↓reduceIte, Nat.reduceAdd, Int.reduceBEq, Int.reduceBNe, hr, hk, bne, bne_self_eq_false, cond_true, Bool.not_true, Bool.not_false, hz1, hz2, hz3, hsame, beq_self_eq_true]; rfl) ?_
    refine Fo.yes rfl rfl ?_
    refine Fo.fa rfl ?_
    refine Fo.yes rfl rfl ?_
    refine Fo.ld rfl rfl ?_
    refine Fo.yes rfl rfl ?_
    refine Fo.bin rfl rfl rfl (by simp only [↓nrmL, nrmZ, Nat.reduceEqDiff, ↓reduceIte, Nat.reduceAdd, Int.reduceBEq, Int.reduceBNe, hr, hk, bne, bne_self_eq_false, cond_true, Bool.not_true, Bool.not_false, hz1, hz2, hz3, hsame, beq_self_eq_true]; rfl) ?_
    refine Fo.yes rfl rfl ?_
    refine Fo.bin rfl rfl rfl (by simp only [↓nrmL, nrmZ, Nat.reduceEqDiff, ↓reduceIte, Nat.reduceAdd, Int.reduceBEq, Int.reduceBNe, hr, hk, bne, bne_self_eq_false, cond_true, Bool.not_true, Bool.not_false, hz1, hz2, hz3, hsame, beq_self_eq_true]; rfl) ?_
    refine Fo.yes rfl rfl ?_
    refine tB rfl rfl ?_
    refine fB rfl rfl ?_
    refine WpO.nil (hKF _ _ ?_)
    refine Wp.cond (b := false) rfl ?_
    refine Wp.skip ?_
    refine sq ?_
    refine rg fun KF hKF => ?_
    refine Fo.ldN rfl rfl (by simp only [↓nrmL, nrmZ, Nat.reduceEqDiff, ↓reduceIte, Nat.reduceAdd, Int.reduceBEq, Int.reduceBNe, hr, hk, bne, bne_self_eq_false, cond_true, Bool.not_true, Bool.not_false, hz1, hz2, hz3, hsame, beq_self_eq_true]; rfl) ?_
    refine Fo.ldN rfl rfl (by simp only [↓nrmL, nrmZ, Nat.reduceEqDiff, ↓reduceIte, Nat.reduceAdd, Int.reduceBEq, Int.reduceBNe, hr, hk, bne, bne_self_eq_false, cond_true, Bool.not_true, Bool.not_false, hz1, hz2, hz3, hsame, beq_self_eq_true]; rfl) ?_
    refine Fo.pcall (v' := ?_) hn rfl (by simp only [↓nrmL, nrmZ, Nat.reduceEqDiff, ↓reduceIte, Nat.reduceAdd, Int.reduceBEq, Int.reduceBNe, hr, hk, bne, bne_self_eq_false, cond_true, Bool.not_true, Bool.not_false, hz1, hz2, hz3, hsame, beq_self_eq_true, List.map]; rfl) rfl ?hv fun _ _ => ?_; case hv => (simp only [↓nrmL, nrmZ, Nat.reduceEqDiff, ↓reduceIte, Nat.reduceAdd, Int.reduceBEq, Int.reduceBNe, hr, hk, bne, bne_self_eq_false, cond_true, Bool.not_true, Bool.not_false, hz1, hz2, hz3, hsame, beq_self_eq_true]; rfl)
    refine mB rfl ?_
    refine Fo.yes rfl rfl ?_
    refine Fo.ldN rfl rfl (by simp only [↓nrmL, nrmZ, Nat.reduceEqDiff, ↓reduceIte, Nat.reduceAdd, Int.reduceBEq, Int.reduceBNe, hr, hk, bne, bne_self_eq_false, cond_true, Bool.not_true, Bool.not_false, hz1, hz2, hz3, hsame, beq_self_eq_true]; rfl) ?_
    refine Fo.yes rfl rfl ?_
    refine Fo.ldN rfl rfl (by simp only [↓nrmL, nrmZ, Nat.reduceEqDiff, ↓reduceIte, Nat.reduceAdd, Int.reduceBEq, Int.reduceBNe, hr, hk, bne, bne_self_eq_false, cond_true, Bool.not_true, Bool.not_false, hz1, hz2, hz3, hsame, beq_self_eq_true]; rfl) ?_
    refine Fo.yes rfl rfl ?_
    refine Fo.pcall (v' := ?_) hn rfl (by simp only [↓nrmL, nrmZ, Nat.reduceEqDiff, ↓reduceIte, Nat.reduceAdd, Int.reduceBEq, Int.reduceBNe, hr, hk, bne, bne_self_eq_false, cond_true, Bool.not_true, Bool.not_false, hz1, hz2, hz3, hsame, beq_self_eq_true, List.map]; rfl) rfl ?hv fun _ _ => ?_; case hv => (simp only [↓nrmL, nrmZ, Nat.reduceEqDiff, ↓reduceIte, Nat.reduceAdd, Int.reduceBEq, Int.reduceBNe, hr, hk, bne, bne_self_eq_false, cond_true, Bool.not_true, Bool.not_false, hz1, hz2, hz3, hsame, beq_self_eq_true]; rfl)
    refine tB rfl rfl ?_
    refine mB rfl ?_
    refine Fo.yes rfl rfl ?_
    refine Fo.pcall (v' := ?_) hn rfl (by simp only [↓nrmL, nrmZ, Nat.reduceEqDiff, ↓reduceIte, Nat.reduceAdd, Int.reduceBEq, Int.reduceBNe, hr, hk, bne, bne_self_eq_false, cond_true, Bool.not_true, Bool.not_false, hz1, hz2, hz3, hsame, beq_self_eq_true, List.map]; rfl) rfl ?hv fun _ _ => ?_; case hv => rfl
    refine tB rfl rfl ?_
    refine mB rfl ?_
    refine WpO.nil (hKF _ _ ?_)
    refine Wp.ret ?_
    dsimp only [cond_true, cond_false]
    refine ⟨trivial, _, (by first | rfl | exact getAllC rfl rfl rfl rfl | exact getAllT rfl (getAllC rfl rfl rfl rfl) | exact getAllC rfl rfl rfl (getAllC rfl rfl rfl rfl) | exact getAllC1 rfl rfl rfl), ?_⟩
    exact ⟨rfl, Ext0.ext⟩
  ·have ek : newSpec x y = (⟨x, y, List.replicate (x.toNat * y.toNat) 0⟩, 0) := by unfold newSpec; rw [hk]; rfl
   simp only [ek] at *
   obtain ⟨hxy, hcon⟩ := newFacts hk
   haveI : Short (List.replicate (x.toNat * y.toNat) (0 : UInt8)) := ⟨newShort hk⟩
   cases hr : (r.2 == 0)
   ·skip
    try simp only [↓nrmL, nrmZ, Nat.reduceEqDiff, ↓reduceIte, Nat.reduceAdd, Int.reduceBEq, Int.reduceBNe, hr, hk, bne, bne_self_eq_false, cond_false, Bool.not_true, Bool.not_false, hxy, hcon, hsame, beq_self_eq_true]
    refine Fo.no rfl rfl ?_
    refine Fo.no rfl rfl ?_
    refine Fo.no rfl rfl ?_
    refine Fo.no rfl rfl ?_
    refine fB rfl rfl ?_
    refine mB rfl ?_
    refine Fo.yes rfl rfl ?_
    refine mI rfl ?_
    refine Fo.yes rfl rfl ?_
    refine Fo.bin rfl rfl rfl (by simp only [↓nrmL, nrmZ, Nat.reduceEqDiff, ↓reduceIte, Nat.reduceAdd, Int.reduceBEq, Int.reduceBNe, hr, hk, bne, bne_self_eq_false, cond_false, Bool.not_true, Bool.not_false, hxy, hcon, hsame, beq_self_eq_true]; rfl) ?_
    refine Fo.yes rfl rfl ?_
    refine mB rfl ?_
    refine Fo.yes rfl rfl ?_
    refine mI rfl ?_
    refine Fo.yes rfl rfl ?_
    refine Fo.bin rfl rfl rfl (by simp only [↓nrmL, nrmZ, Nat.reduceEqDiff, ↓reduceIte, Nat.reduceAdd, Int.reduceBEq, Int.reduceBNe, hr, hk, bne, bne_self_eq_false, cond_false, Bool.not_true, Bool.not_false, hxy, hcon, hsame, beq_self_eq_true]; rfl) ?_
    refine Fo.yes rfl rfl ?_
    refine tB rfl rfl ?_
    refine fB rfl rfl ?_
    refine mB rfl ?_
    refine Fo.yes rfl rfl ?_
    refine mI rfl ?_
    refine Fo.yes rfl rfl ?_
    refine Fo.bin rfl rfl rfl rfl ?_
    refine Fo.yes rfl rfl ?_
    refine mB rfl ?_
    refine Fo.yes rfl rfl ?_
    refine Fo.fa rfl ?_
    refine Fo.yes rfl rfl ?_
    refine Fo.ld rfl rfl ?_
    refine Fo.yes rfl rfl ?_
    refine mI rfl ?_
    refine Fo.yes rfl rfl ?_
    refine Fo.bin rfl rfl rfl (by simp only [↓nrmL, nrmZ, Nat.reduceEqDiff, ↓reduceIte, Nat.reduceAdd, Int.reduceBEq, Int.reduceBNe, hr, hk, bne, bne_self_eq_false, cond_false, Bool.not_true, Bool.not_false, hxy, hcon, hsame, beq_self_eq_true]; rfl) ?_
    refine Fo.yes rfl rfl ?_
    refine mB rfl ?_
    refine Fo.yes rfl rfl ?_
    refine Fo.fa rfl ?_
    refine Fo.yes rfl rfl ?_
    refine Fo.ld rfl rfl ?_
    refine Fo.yes rfl rfl ?_
    refine mI rfl ?_
    refine Fo.yes rfl rfl ?_
    refine Fo.bin rfl rfl rfl (by simp only [↓nrmL, nrmZ, Nat.reduceEqDiff, ↓reduceIte, Nat.reduceAdd, Int.reduceBEq, Int.reduceBNe, hr, hk, bne, bne_self_eq_false, cond_false, Bool.not_true, Bool.not_false, hxy, hcon, hsame, beq_self_eq_true]; rfl) ?_
    refine Fo.yes rfl rfl ?_
    refine fB rfl rfl ?_
    refine Fo.yes rfl rfl ?_
    refine mB rfl ?_
    refine Fo.yes rfl rfl ?_
    refine Fo.fa rfl ?_
    refine Fo.yes rfl rfl ?_
    refine Fo.ld rfl rfl ?_
    refine Fo.yes rfl rfl ?_
    refine Fo.len (v := ?_) (by simp only [↓nrmL, nrmK, Nat.reduceEqDiff, ↓reduceIte]; rfl) ?hv ?_; case hv => rfl
    refine Fo.yes rfl rfl ?_
    refine mI rfl ?_
    refine Fo.yes rfl rfl ?_
    refine mI rfl ?_
    refine Fo.yes rfl rfl ?_
    refine Fo.bin rfl rfl rfl rfl ?_
    refine Fo.yes rfl rfl ?_
    refine Fo.bin rfl rfl rfl (by simp only [↓nrmL, nrmZ, Nat.reduceEqDiff, ↓reduceIte, Nat.reduceAdd, Int.reduceBEq, Int.reduceBNe, hr, hk, bne, bne_self_eq_false, cond_false, Bool.not_true, Bool.not_false, hxy, hcon, hsame, beq_self_eq_true]; rfl) ?_
    refine Fo.yes rfl rfl ?_
    refine fB rfl rfl ?_
    refine Fo.yes rfl rfl ?_
    refine mB rfl ?_
    refine Fo.yes rfl rfl ?_
    refine Fo.fa rfl ?_
    refine Fo.yes rfl rfl ?_
    refine Fo.ld rfl rfl ?_
    refine Fo.yes rfl rfl ?_
    refine Fo.pcall (v' := ?_) hn rfl (by simp only [↓nrmL, nrmZ, Nat.reduceEqDiff, ↓reduceIte, Nat.reduceAdd, Int.reduceBEq, Int.reduceBNe, hr, hk, bne, bne_self_eq_false, cond_false, Bool.not_true, Bool.not_false, hxy, hcon, hsame, beq_self_eq_true, List.map]; rfl) rfl ?hv fun _ _ => ?_; case hv => (simp only [↓nrmL, nrmZ, Nat.reduceEqDiff, ↓reduceIte, Nat.reduceAdd, Int.reduceBEq, Int.reduceBNe, hr, hk, bne, bne_self_eq_false, cond_false, Bool.not_true, Bool.not_false, hxy, hcon, hsame, beq_self_eq_true]; rfl)
    refine Fo.yes rfl rfl ?_
    refine fB rfl rfl ?_
    refine Fo.yes rfl rfl ?_
    refine tB rfl rfl ?_
    refine fB rfl rfl ?_
    refine mB rfl ?_
    refine Fo.yes rfl rfl ?_
    refine mI rfl ?_
    refine Fo.yes rfl rfl ?_
    refine Fo.bin rfl rfl rfl (by simp only [↓nrmL, nrmZ, Nat.reduceEqDiff, ↓reduceIte, Nat.reduceAdd, Int.reduceBEq, Int.reduceBNe, hr, hk, bne, bne_self_eq_false, cond_false, Bool.not_true, Bool.not_false, hxy, hcon, hsame, beq_self_eq_true]; rfl) ?_
    refine Fo.yes rfl rfl ?_
    refine mB rfl ?_
    refine Fo.no rfl rfl ?_
    refine Fo.no rfl rfl ?_
    refine Fo.no rfl rfl ?_
    refine Fo.no rfl rfl ?_
    refine Fo.no rfl rfl ?_
    refine Fo.no rfl rfl ?_
    refine Fo.no rfl rfl ?_
    refine Fo.no rfl rfl ?_
    refine Fo.no rfl rfl ?_
    refine Fo.no rfl rfl ?_
    refine Fo.yes rfl rfl ?_
    refine fB rfl rfl ?_
    refine fB rfl rfl ?_
    refine WpO.nil (hKF _ _ ?_)
    refine Wp.cond (b := false) rfl ?_
    refine Wp.skip ?_
    refine sq ?_
    refine rg fun KF hKF => ?_
    refine Fo.ldN rfl rfl (by simp only [↓nrmL, nrmZ, Nat.reduceEqDiff, ↓reduceIte, Nat.reduceAdd, Int.reduceBEq, Int.reduceBNe, hr, hk, bne, bne_self_eq_false, cond_false, Bool.not_true, Bool.not_false, hxy, hcon, hsame, beq_self_eq_true]; rfl) ?_
    refine Fo.ldN rfl rfl (by simp only [↓nrmL, nrmZ, Nat.reduceEqDiff, ↓reduceIte, Nat.reduceAdd, Int.reduceBEq, Int.reduceBNe, hr, hk, bne, bne_self_eq_false, cond_false, Bool.not_true, Bool.not_false, hxy, hcon, hsame, beq_self_eq_true]; rfl) ?_
    refine Fo.pcall (v' := ?_) hn rfl (by simp only [↓nrmL, nrmZ, Nat.reduceEqDiff, ↓reduceIte, Nat.reduceAdd, Int.reduceBEq, Int.reduceBNe, hr, hk, bne, bne_self_eq_false, cond_false, Bool.not_true, Bool.not_false, hxy, hcon, hsame, beq_self_eq_true, List.map]; rfl) rfl ?hv fun _ _ => ?_; case hv => (simp only [↓nrmL, nrmZ, Nat.reduceEqDiff, ↓reduceIte, Nat.reduceAdd, Int.reduceBEq, Int.reduceBNe, hr, hk, bne, bne_self_eq_false, cond_false, Bool.not_true, Bool.not_false, hxy, hcon, hsame, beq_self_eq_true]; rfl)
    refine mB rfl ?_
    refine Fo.yes rfl rfl ?_
    refine Fo.ldN rfl rfl (by simp only [↓nrmL, nrmZ, Nat.reduceEqDiff, ↓reduceIte, Nat.reduceAdd, Int.reduceBEq, Int.reduceBNe, hr, hk, bne, bne_self_eq_false, cond_false, Bool.not_true, Bool.not_false, hxy, hcon, hsame, beq_self_eq_true]; rfl) ?_
    refine Fo.yes rfl rfl ?_
    refine Fo.ldN rfl rfl (by simp only [↓nrmL, nrmZ, Nat.reduceEqDiff, ↓reduceIte, Nat.reduceAdd, Int.reduceBEq, Int.reduceBNe, hr, hk, bne, bne_self_eq_false, cond_false, Bool.not_true, Bool.not_false, hxy, hcon, hsame, beq_self_eq_true]; rfl) ?_
    refine Fo.yes rfl rfl ?_
    refine Fo.pcall (v' := ?_) hn rfl (by simp only [↓nrmL, nrmZ, Nat.reduceEqDiff, ↓reduceIte, Nat.reduceAdd, Int.reduceBEq, Int.reduceBNe, hr, hk, bne, bne_self_eq_false, cond_false, Bool.not_true, Bool.not_false, hxy, hcon, hsame, beq_self_eq_true, List.map]; rfl) rfl ?hv fun _ _ => ?_; case hv => (simp only [↓nrmL, nrmZ, Nat.reduceEqDiff, ↓reduceIte, Nat.reduceAdd, Int.reduceBEq, Int.reduceBNe, hr, hk, bne, bne_self_eq_false, cond_false, Bool.not_true, Bool.not_false, hxy, hcon, hsame, beq_self_eq_true]; rfl)
    refine tB rfl rfl ?_
    refine mB rfl ?_
    refine Fo.yes rfl rfl ?_
    refine Fo.pcall (v' := ?_) hn rfl (by simp only [↓nrmL, nrmZ, Nat.reduceEqDiff, ↓reduceIte, Nat.reduceAdd, Int.reduceBEq, Int.reduceBNe, hr, hk, bne, bne_self_eq_false, cond_false, Bool.not_true, Bool.not_false, hxy, hcon, hsame, beq_self_eq_true, List.map]; rfl) rfl ?hv fun _ _ => ?_; case hv => rfl
    refine tB rfl rfl ?_
    refine mB rfl ?_
    refine WpO.nil (hKF _ _ ?_)
    refine Wp.ret ?_
    dsimp only [cond_true, cond_false]
    refine ⟨trivial, _, (by first | rfl | exact getAllC rfl rfl rfl rfl | exact getAllT rfl (getAllC rfl rfl rfl rfl) | exact getAllC rfl rfl rfl (getAllC rfl rfl rfl rfl) | exact getAllC1 rfl rfl rfl), ?_⟩
    exact ⟨rfl, Ext0.ext⟩
   ·haveI : Fits r.1.w r.1.h r.1.px := ⟨hrf hr⟩
    try simp only [↓nrmL, nrmZ, Nat.reduceEqDiff, ↓reduceIte, Nat.reduceAdd, Int.reduceBEq, Int.reduceBNe, hr, hk, bne, bne_self_eq_false, cond_true, Bool.not_true, Bool.not_false, hxy, hcon, hsame, beq_self_eq_true]
    refine Fo.yes rfl rfl ?_
    refine mI rfl ?_
    refine Fo.yes rfl rfl ?_
    refine Fo.ldN rfl rfl (by simp only [↓nrmL, nrmZ, Nat.reduceEqDiff, ↓reduceIte, Nat.reduceAdd, Int.reduceBEq, Int.reduceBNe, hr, hk, bne, bne_self_eq_false, cond_true, Bool.not_true, Bool.not_false, hxy, hcon, hsame, beq_self_eq_true]; rfl) ?_
    refine Fo.yes rfl rfl ?_
    refine Fo.pcall (v' := ?_) hn rfl (by simp only [↓nrmL, nrmZ, Nat.reduceEqDiff, ↓reduceIte, Nat.reduceAdd, Int.reduceBEq, Int.reduceBNe, hr, hk, bne, bne_self_eq_false, cond_true, Bool.not_true, Bool.not_false, hxy, hcon, hsame, beq_self_eq_true, List.map]; rfl) rfl ?hv fun _ _ => ?_; case hv => rfl
    refine Fo.yes rfl rfl ?_
    refine Fo.bin rfl rfl rfl (by simp only [↓nrmL, nrmZ, Nat.reduceEqDiff, ↓reduceIte, Nat.reduceAdd, Int.reduceBEq, Int.reduceBNe, hr, hk, bne, bne_self_eq_false, cond_true, Bool.not_true, Bool.not_false, hxy, hcon, hsame, beq_self_eq_true]; rfl) ?_
    refine tB rfl rfl ?_
    refine mB rfl ?_
    refine Fo.yes rfl rfl ?_
    refine mI rfl ?_
    refine Fo.yes rfl rfl ?_
    refine Fo.bin rfl rfl rfl (by simp only [↓nrmL, nrmZ, Nat.reduceEqDiff, ↓reduceIte, Nat.reduceAdd, Int.reduceBEq, Int.reduceBNe, hr, hk, bne, bne_self_eq_false, cond_true, Bool.not_true, Bool.not_false, hxy, hcon, hsame, beq_self_eq_true]; rfl) ?_
    refine Fo.yes rfl rfl ?_
    refine mB rfl ?_
    refine Fo.no rfl rfl ?_
    refine Fo.no rfl rfl ?_
    refine Fo.yes rfl rfl ?_
    refine fB rfl rfl ?_
    refine fB rfl rfl ?_
    refine mB rfl ?_
    refine Fo.yes rfl rfl ?_
    refine mI rfl ?_
    refine Fo.yes rfl rfl ?_
    refine Fo.bin rfl rfl rfl rfl ?_
    refine Fo.yes rfl rfl ?_
    refine mB rfl ?_
    refine Fo.yes rfl rfl ?_
    refine Fo.fa rfl ?_
    refine Fo.yes rfl rfl ?_
    refine Fo.ld rfl rfl ?_
    refine Fo.yes rfl rfl ?_
    refine mI rfl ?_
    refine Fo.yes rfl rfl ?_
    refine Fo.bin rfl rfl rfl (by simp only [↓nrmL, nrmZ, Nat.reduceEqDiff, ↓reduceIte, Nat.reduceAdd, Int.reduceBEq, Int.reduceBNe, hr, hk, bne, bne_self_eq_false, cond_true, Bool.not_true, Bool.not_false, hxy, hcon, hsame, beq_self_eq_true]; rfl) ?_
    refine Fo.yes rfl rfl ?_
    refine mB rfl ?_
    refine Fo.yes rfl rfl ?_
    refine Fo.fa rfl ?_
    refine Fo.yes rfl rfl ?_
    refine Fo.ld rfl rfl ?_
    refine Fo.yes rfl rfl ?_
    refine mI rfl ?_
    refine Fo.yes rfl rfl ?_
    refine Fo.bin rfl rfl rfl (by simp only [↓nrmL, nrmZ, Nat.reduceEqDiff, ↓reduceIte, Nat.reduceAdd, Int.reduceBEq, Int.reduceBNe, hr, hk, bne, bne_self_eq_false, cond_true, Bool.not_true, Bool.not_false, hxy, hcon, hsame, beq_self_eq_true]; rfl) ?_
    refine Fo.yes rfl rfl ?_
    refine fB rfl rfl ?_
    refine Fo.yes rfl rfl ?_
    refine mB rfl ?_
    refine Fo.yes rfl rfl ?_
    refine Fo.fa rfl ?_
    refine Fo.yes rfl rfl ?_
    refine Fo.ld rfl rfl ?_
    refine Fo.yes rfl rfl ?_
    refine Fo.len (v := ?_) (by simp only [↓nrmL, nrmK, Nat.reduceEqDiff, ↓reduceIte]; rfl) ?hv ?_; case hv => rfl
    refine Fo.yes rfl rfl ?_
    refine mI rfl ?_
    refine Fo.yes rfl rfl ?_
    refine mI rfl ?_
    refine Fo.yes rfl rfl ?_
    refine Fo.bin rfl rfl rfl rfl ?_
    refine Fo.yes rfl rfl ?_
    refine Fo.bin rfl rfl rfl (by simp only [↓nrmL, nrmZ, Nat.reduceEqDiff, ↓reduceIte, Nat.reduceAdd, Int.reduceBEq, Int.reduceBNe, hr, hk, bne, bne_self_eq_false, cond_true, Bool.not_true, Bool.not_false, hxy, hcon, hsame, beq_self_eq_true]; rfl) ?_
    refine Fo.yes rfl rfl ?_
    refine fB rfl rfl ?_
    refine Fo.yes rfl rfl ?_
    refine mB rfl ?_
    refine Fo.yes rfl rfl ?_
    refine Fo.fa rfl ?_
    refine Fo.yes rfl rfl ?_
    refine Fo.ld rfl rfl ?_
    refine Fo.yes rfl rfl ?_
    refine Fo.pcall (v' := ?_) hn rfl (by simp only [↓nrmL, nrmZ, Nat.reduceEqDiff, ↓reduceIte, Nat.reduceAdd, Int.reduceBEq, Int.reduceBNe, hr, hk, bne, bne_self_eq_false, cond_true, Bool.not_true, Bool.not_false, hxy, hcon, hsame, beq_self_eq_true, List.map]; rfl) rfl ?hv fun _ _ => ?_; case hv => (simp only [↓nrmL, nrmZ, Nat.reduceEqDiff, ↓reduceIte, Nat.reduceAdd, Int.reduceBEq, Int.reduceBNe, hr, hk, bne, bne_self_eq_false, cond_true, Bool.not_true, Bool.not_false, hxy, hcon, hsame, beq_self_eq_true]; rfl)
    refine Fo.yes rfl rfl ?_
    refine fB rfl rfl ?_
    refine Fo.yes rfl rfl ?_
    refine tB rfl rfl ?_
    refine fB rfl rfl ?_
    refine mB rfl ?_
    refine Fo.yes rfl rfl ?_
    refine mI rfl ?_
    refine Fo.yes rfl rfl ?_
    refine Fo.bin rfl rfl rfl (by simp only [↓nrmL, nrmZ, Nat.reduceEqDiff, ↓reduceIte, Nat.reduceAdd, Int.reduceBEq, Int.reduceBNe, hr, hk, bne, bne_self_eq_false, cond_true, Bool.not_true, Bool.not_false, hxy, hcon, hsame, beq_self_eq_true]; rfl) ?_
    refine Fo.yes rfl rfl ?_
    refine mB rfl ?_
    refine Fo.no rfl rfl ?_
    refine Fo.no rfl rfl ?_
    refine Fo.no rfl rfl ?_
    refine Fo.no rfl rfl ?_
    refine Fo.no rfl rfl ?_
    refine Fo.no rfl rfl ?_
    refine Fo.no rfl rfl ?_
    refine Fo.no rfl rfl ?_
    refine Fo.no rfl rfl ?_
    refine Fo.no rfl rfl ?_
    refine Fo.yes rfl rfl ?_
    refine fB rfl rfl ?_
    refine fB rfl rfl ?_
    refine WpO.nil (hKF _ _ ?_)
    refine Wp.cond (b := false) rfl ?_
    refine Wp.skip ?_
    refine sq ?_
    refine rg fun KF hKF => ?_
    refine Fo.ldN rfl rfl (by simp only [↓nrmL, nrmZ, Nat.reduceEqDiff, ↓reduceIte, Nat.reduceAdd, Int.reduceBEq, Int.reduceBNe, hr, hk, bne, bne_self_eq_false, cond_true, Bool.not_true, Bool.not_false, hxy, hcon, hsame, beq_self_eq_true]; rfl) ?_
    refine Fo.ldN rfl rfl (by simp only [↓nrmL, nrmZ, Nat.reduceEqDiff, ↓reduceIte, Nat.reduceAdd, Int.reduceBEq, Int.reduceBNe, hr, hk, bne, bne_self_eq_false, cond_true, Bool.not_true, Bool.not_false, hxy, hcon, hsame, beq_self_eq_true]; rfl) ?_
    refine Fo.pcall (v' := ?_) hn rfl (by simp only [↓nrmL, nrmZ, Nat.reduceEqDiff, ↓reduceIte, Nat.reduceAdd, Int.reduceBEq, Int.reduceBNe, hr, hk, bne, bne_self_eq_false, cond_true, Bool.not_true, Bool.not_false, hxy, hcon, hsame, beq_self_eq_true, List.map]; rfl) rfl ?hv fun _ _ => ?_; case hv => (simp only [↓nrmL, nrmZ, Nat.reduceEqDiff, ↓reduceIte, Nat.reduceAdd, Int.reduceBEq, Int.reduceBNe, hr, hk, bne, bne_self_eq_false, cond_true, Bool.not_true, Bool.not_false, hxy, hcon, hsame, beq_self_eq_true]; rfl)
    refine mB rfl ?_
    refine Fo.yes rfl rfl ?_
    refine Fo.ldN rfl rfl (by simp only [↓nrmL, nrmZ, Nat.reduceEqDiff, ↓reduceIte, Nat.reduceAdd, Int.reduceBEq, Int.reduceBNe, hr, hk, bne, bne_self_eq_false, cond_true, Bool.not_true, Bool.not_false, hxy, hcon, hsame, beq_self_eq_true]; rfl) ?_
    refine Fo.yes rfl rfl ?_
    refine Fo.ldN rfl rfl (by simp only [↓nrmL, nrmZ, Nat.reduceEqDiff, ↓reduceIte, Nat.reduceAdd, Int.reduceBEq, Int.reduceBNe, hr, hk, bne, bne_self_eq_false, cond_true, Bool.not_true, Bool.not_false, hxy, hcon, hsame, beq_self_eq_true]; rfl) ?_
    refine Fo.yes rfl rfl ?_
    refine Fo.pcall (v' := ?_) hn rfl (by simp only [↓nrmL, nrmZ, Nat.reduceEqDiff, ↓reduceIte, Nat.reduceAdd, Int.reduceBEq, Int.reduceBNe, hr, hk, bne, bne_self_eq_false, cond_true, Bool.not_true, Bool.not_false, hxy, hcon, hsame, beq_self_eq_true, List.map]; rfl) rfl ?hv fun _ _ => ?_; case hv => (simp only [↓nrmL, nrmZ, Nat.reduceEqDiff, ↓reduceIte, Nat.reduceAdd, Int.reduceBEq, Int.reduceBNe, hr, hk, bne, bne_self_eq_false, cond_true, Bool.not_true, Bool.not_false, hxy, hcon, hsame, beq_self_eq_true]; rfl)
    refine tB rfl rfl ?_
    refine mB rfl ?_
    refine Fo.yes rfl rfl ?_
    refine Fo.pcall (v' := ?_) hn rfl (by simp only [↓nrmL, nrmZ, Nat.reduceEqDiff, ↓reduceIte, Nat.reduceAdd, Int.reduceBEq, Int.reduceBNe, hr, hk, bne, bne_self_eq_false, cond_true, Bool.not_true, Bool.not_false, hxy, hcon, hsame, beq_self_eq_true, List.map]; rfl) rfl ?hv fun _ _ => ?_; case hv => rfl
    refine tB rfl rfl ?_
    refine mB rfl ?_
    refine WpO.nil (hKF _ _ ?_)
    refine Wp.ret ?_
    dsimp only [cond_true, cond_false]
    refine ⟨trivial, _, (by first | rfl | exact getAllC rfl rfl rfl rfl | exact getAllT rfl (getAllC rfl rfl rfl rfl) | exact getAllC rfl rfl rfl (getAllC rfl rfl rfl rfl) | exact getAllC1 rfl rfl rfl), ?_⟩
    exact ⟨rfl, Ext0.ext⟩
 ·have e1 : notSpec ⟨w, h, l⟩ = (⟨w, h, l.map (· ^^^ 1)⟩, 0) := by simp [notSpec, h0]
  simp only [e1] at *
  have hok := Img.ok h0
  haveI : Fits w h l := ⟨hok.1⟩
  haveI : Short (l.map (· ^^^ 1)) := ⟨by rw [List.length_map]; omega⟩
  refine Fr.dregion0 rfl fun KF hKF => ?_
  try simp only [↓nrmL, nrmZ, Nat.reduceEqDiff, ↓reduceIte, Nat.reduceAdd, Int.reduceBEq, Int.reduceBNe, h0, bne, cond_true, Bool.not_true, Bool.not_false, beq_self_eq_true]
  refine Fe.pure rfl rfl (by simp only [↓nrmL, nrmZ, Nat.reduceEqDiff, ↓reduceIte, Nat.reduceAdd, Int.reduceBEq, Int.reduceBNe, h0, bne, cond_true, Bool.not_true, Bool.not_false, beq_self_eq_true]; rfl) ?_
  refine Fe.pure rfl rfl (by simp only [↓nrmL, nrmZ, Nat.reduceEqDiff, ↓reduceIte, Nat.reduceAdd, Int.reduceBEq, Int.reduceBNe, h0, bne, cond_true, Bool.not_true, Bool.not_false, beq_self_eq_true]; rfl) ?_
  refine Fe.pure rfl rfl (by simp only [↓nrmL, nrmZ, Nat.reduceEqDiff, ↓reduceIte, Nat.reduceAdd, Int.reduceBEq, Int.reduceBNe, h0, bne, cond_true, Bool.not_true, Bool.not_false, beq_self_eq_true]; rfl) ?_
  refine Fe.pure rfl rfl (by simp only [↓nrmL, nrmZ, Nat.reduceEqDiff, ↓reduceIte, Nat.reduceAdd, Int.reduceBEq, Int.reduceBNe, h0, bne, cond_true, Bool.not_true, Bool.not_false, beq_self_eq_true]; rfl) ?_
  refine Fe.read rfl (exec_ldN rfl rfl (by simp only [↓nrmL, nrmZ, Nat.reduceEqDiff, ↓reduceIte, Nat.reduceAdd, Int.reduceBEq, Int.reduceBNe, h0, bne, cond_true, Bool.not_true, Bool.not_false, beq_self_eq_true]; rfl)) rfl (by repeat (first | exact trivial | refine ⟨(by first | exact Or.inl (by dsimp only; decide) | exact Or.inr (exec_ld rfl rfl) | exact Or.inr (exec_ldN rfl rfl rfl) | exact Or.inr (exec_ldB rfl (by omega)) | exact Or.inr (exec_ldI rfl (by omega)) | exact Or.inr ghost_of), ?_⟩)) ?_
  refine Fe.pcall (v' := ?_) rfl hn rfl (by simp only [↓nrmL, nrmZ, Nat.reduceEqDiff, ↓reduceIte, Nat.reduceAdd, Int.reduceBEq, Int.reduceBNe, h0, bne, cond_true, Bool.not_true, Bool.not_false, beq_self_eq_true, List.map]; rfl) rfl ?hv fun _ _ => ⟨(by repeat (first | exact trivial | refine ⟨(by first | exact Or.inl (by dsimp only; decide) | exact Or.inr (readOk_of (exec_ld rfl rfl)) | exact Or.inr (readOk_of (exec_ldN rfl rfl rfl)) | exact Or.inr (readOk_of (exec_ldB rfl (by omega))) | exact Or.inr (readOk_of (exec_ldI rfl (by omega))) | exact Or.inr (made_of rfl)), ?_⟩)), ?_⟩; case hv => rfl
  refine Fe.pure rfl rfl (by simp only [↓nrmL, nrmZ, Nat.reduceEqDiff, ↓reduceIte, Nat.reduceAdd, Int.reduceBEq, Int.reduceBNe, h0, bne, cond_true, Bool.not_true, Bool.not_false, beq_self_eq_true]; rfl) ?_
  refine Fe.pure rfl rfl (by simp only [↓nrmL, nrmZ, Nat.reduceEqDiff, ↓reduceIte, Nat.reduceAdd, Int.reduceBEq, Int.reduceBNe, h0, bne, cond_true, Bool.not_true, Bool.not_false, beq_self_eq_true]; rfl) ?_
  refine Fe.read rfl (exec_ldN rfl rfl (by simp only [↓nrmL, nrmZ, Nat.reduceEqDiff, ↓reduceIte, Nat.reduceAdd, Int.reduceBEq, Int.reduceBNe, h0, bne, cond_true, Bool.not_true, Bool.not_false, beq_self_eq_true]; rfl)) rfl (by repeat (first | exact trivial | refine ⟨(by first | exact Or.inl (by dsimp only; decide) | exact Or.inr (exec_ld rfl rfl) | exact Or.inr (exec_ldN rfl rfl rfl) | exact Or.inr (exec_ldB rfl (by omega)) | exact Or.inr (exec_ldI rfl (by omega)) | exact Or.inr ghost_of), ?_⟩)) ?_
  refine Fe.read rfl (exec_ldN rfl rfl (by simp only [↓nrmL, nrmZ, Nat.reduceEqDiff, ↓reduceIte, Nat.reduceAdd, Int.reduceBEq, Int.reduceBNe, h0, bne, cond_true, Bool.not_true, Bool.not_false, beq_self_eq_true]; rfl)) rfl (by repeat (first | exact trivial | refine ⟨(by first | exact Or.inl (by dsimp only; decide) | exact Or.inr (exec_ld rfl rfl) | exact Or.inr (exec_ldN rfl rfl rfl) | exact Or.inr (exec_ldB rfl (by omega)) | exact Or.inr (exec_ldI rfl (by omega)) | exact Or.inr ghost_of), ?_⟩)) ?_
  refine Fe.con rfl hn rfl rfl (by simp only [↓nrmL, nrmZ, Nat.reduceEqDiff, ↓reduceIte, Nat.reduceAdd, Int.reduceBEq, Int.reduceBNe, List.map] <;> rfl) (K_refNot (l := l) hok.2) fun v H6 h5 => ?_
  obtain ⟨o, e3, ho, hfo, hwo, hxo⟩ := h5
  subst e3
  have ho : BytesI H6 o (l.map (· ^^^ 1)) := ho
  haveI : ExtI _ H6 := ⟨hxo⟩
  haveI := ho.one
  refine ⟨(by repeat (first | exact trivial | refine ⟨(by first | exact Or.inl (by dsimp only; decide) | exact Or.inr (readOk_of (exec_ld rfl rfl)) | exact Or.inr (readOk_of (exec_ldN rfl rfl rfl)) | exact Or.inr (readOk_of (exec_ldB rfl (by omega))) | exact Or.inr (readOk_of (exec_ldI rfl (by omega))) | exact Or.inr (made_of rfl)), ?_⟩)), ?_⟩
  have hsame2 : decide ((⟨w, h, l.map (· ^^^ 1)⟩ : Img) = ⟨w, h, l.map (· ^^^ 1)⟩) = true := decide_eq_true rfl
  have hsz : sizedB w h l.length = true := hok.1
  try simp only [↓nrmL, nrmZ, Nat.reduceEqDiff, ↓reduceIte, Nat.reduceAdd, Int.reduceBEq, Int.reduceBNe, h0, bne, cond_true, Bool.not_true, Bool.not_false, beq_self_eq_true, hsame2, hsz, Bool.true_and, Bool.and_true]
  refine Fe.pcall (v' := ?_) rfl hn rfl (by simp only [↓nrmL, nrmZ, Nat.reduceEqDiff, ↓reduceIte, Nat.reduceAdd, Int.reduceBEq, Int.reduceBNe, h0, bne, cond_true, Bool.not_true, Bool.not_false, beq_self_eq_true, hsame2, hsz, Bool.true_and, Bool.and_true, List.map]; rfl) rfl ?hv fun _ _ => ⟨(by repeat (first | exact trivial | refine ⟨(by first | exact Or.inl (by dsimp only; decide) | exact Or.inr (readOk_of (exec_ld rfl rfl)) | exact Or.inr (readOk_of (exec_ldN rfl rfl rfl)) | exact Or.inr (readOk_of (exec_ldB rfl (by omega))) | exact Or.inr (readOk_of (exec_ldI rfl (by omega))) | exact Or.inr (made_of rfl)), ?_⟩)), ?_⟩; case hv => (simp only [↓nrmL, nrmZ, Nat.reduceEqDiff, ↓reduceIte, Nat.reduceAdd, Int.reduceBEq, Int.reduceBNe, h0, bne, cond_true, Bool.not_true, Bool.not_false, beq_self_eq_true, hsame2, hsz, Bool.true_and, Bool.and_true]; rfl)
  refine Fe.pure rfl rfl rfl ?_
  refine Fe.pure rfl rfl (by simp only [↓nrmL, nrmZ, Nat.reduceEqDiff, ↓reduceIte, Nat.reduceAdd, Int.reduceBEq, Int.reduceBNe, h0, bne, cond_true, Bool.not_true, Bool.not_false, beq_self_eq_true, hsame2, hsz, Bool.true_and, Bool.and_true]; rfl) ?_
  refine Fe.pure rfl rfl (by simp only [↓nrmL, nrmZ, Nat.reduceEqDiff, ↓reduceIte, Nat.reduceAdd, Int.reduceBEq, Int.reduceBNe, h0, bne, cond_true, Bool.not_true, Bool.not_false, beq_self_eq_true, hsame2, hsz, Bool.true_and, Bool.and_true]; rfl) ?_
  refine Fe.read rfl (exec_ldN rfl rfl (by simp only [↓nrmL, nrmZ, Nat.reduceEqDiff, ↓reduceIte, Nat.reduceAdd, Int.reduceBEq, Int.reduceBNe, h0, bne, cond_true, Bool.not_true, Bool.not_false, beq_self_eq_true, hsame2, hsz, Bool.true_and, Bool.and_true]; rfl)) rfl (by repeat (first | exact trivial | refine ⟨(by first | exact Or.inl (by dsimp only; decide) | exact Or.inr (exec_ld rfl rfl) | exact Or.inr (exec_ldN rfl rfl rfl) | exact Or.inr (exec_ldB rfl (by omega)) | exact Or.inr (exec_ldI rfl (by omega)) | exact Or.inr ghost_of), ?_⟩)) ?_
  refine Fe.pure rfl rfl (by simp only [↓nrmL, nrmZ, Nat.reduceEqDiff, ↓reduceIte, Nat.reduceAdd, Int.reduceBEq, Int.reduceBNe, h0, bne, cond_true, Bool.not_true, Bool.not_false, beq_self_eq_true, hsame2, hsz, Bool.true_and, Bool.and_true]; rfl) ?_
  refine Fe.pure rfl rfl (by simp only [↓nrmL, nrmZ, Nat.reduceEqDiff, ↓reduceIte, Nat.reduceAdd, Int.reduceBEq, Int.reduceBNe, h0, bne, cond_true, Bool.not_true, Bool.not_false, beq_self_eq_true, hsame2, hsz, Bool.true_and, Bool.and_true]; rfl) ?_
  refine Fe.pcall (v' := ?_) rfl hn rfl (by simp only [↓nrmL, nrmZ, Nat.reduceEqDiff, ↓reduceIte, Nat.reduceAdd, Int.reduceBEq, Int.reduceBNe, h0, bne, cond_true, Bool.not_true, Bool.not_false, beq_self_eq_true, hsame2, hsz, Bool.true_and, Bool.and_true, List.map]; rfl) rfl ?hv fun _ _ => ⟨(by repeat (first | exact trivial | refine ⟨(by first | exact Or.inl (by dsimp only; decide) | exact Or.inr (readOk_of (exec_ld rfl rfl)) | exact Or.inr (readOk_of (exec_ldN rfl rfl rfl)) | exact Or.inr (readOk_of (exec_ldB rfl (by omega))) | exact Or.inr (readOk_of (exec_ldI rfl (by omega))) | exact Or.inr (made_of rfl)), ?_⟩)), ?_⟩; case hv => (simp only [↓nrmL, nrmZ, Nat.reduceEqDiff, ↓reduceIte, Nat.reduceAdd, Int.reduceBEq, Int.reduceBNe, h0, bne, cond_true, Bool.not_true, Bool.not_false, beq_self_eq_true, hsame2, hsz, Bool.true_and, Bool.and_true]; rfl)
  refine Fe.read rfl (exec_ldN rfl rfl (by simp only [↓nrmL, nrmZ, Nat.reduceEqDiff, ↓reduceIte, Nat.reduceAdd, Int.reduceBEq, Int.reduceBNe, h0, bne, cond_true, Bool.not_true, Bool.not_false, beq_self_eq_true, hsame2, hsz, Bool.true_and, Bool.and_true]; rfl)) rfl (by repeat (first | exact trivial | refine ⟨(by first | exact Or.inl (by dsimp only; decide) | exact Or.inr (exec_ld rfl rfl) | exact Or.inr (exec_ldN rfl rfl rfl) | exact Or.inr (exec_ldB rfl (by omega)) | exact Or.inr (exec_ldI rfl (by omega)) | exact Or.inr ghost_of), ?_⟩)) ?_
  refine Fe.pure rfl rfl (by simp only [↓nrmL, nrmZ, Nat.reduceEqDiff, ↓reduceIte, Nat.reduceAdd, Int.reduceBEq, Int.reduceBNe, h0, bne, cond_true, Bool.not_true, Bool.not_false, beq_self_eq_true, hsame2, hsz, Bool.true_and, Bool.and_true]; rfl) ?_
  refine Fe.pure rfl rfl (by simp only [↓nrmL, nrmZ, Nat.reduceEqDiff, ↓reduceIte, Nat.reduceAdd, Int.reduceBEq, Int.reduceBNe, h0, bne, cond_true, Bool.not_true, Bool.not_false, beq_self_eq_true, hsame2, hsz, Bool.true_and, Bool.and_true]; rfl) ?_
  refine Fe.pcall (v' := ?_) rfl hn rfl (by simp only [↓nrmL, nrmZ, Nat.reduceEqDiff, ↓reduceIte, Nat.reduceAdd, Int.reduceBEq, Int.reduceBNe, h0, bne, cond_true, Bool.not_true, Bool.not_false, beq_self_eq_true, hsame2, hsz, Bool.true_and, Bool.and_true, List.map]; rfl) rfl ?hv fun _ _ => ⟨(by repeat (first | exact trivial | refine ⟨(by first | exact Or.inl (by dsimp only; decide) | exact Or.inr (readOk_of (exec_ld rfl rfl)) | exact Or.inr (readOk_of (exec_ldN rfl rfl rfl)) | exact Or.inr (readOk_of (exec_ldB rfl (by omega))) | exact Or.inr (readOk_of (exec_ldI rfl (by omega))) | exact Or.inr (made_of rfl)), ?_⟩)), ?_⟩; case hv => rfl
  refine Fe.pure rfl rfl (by simp only [↓nrmL, nrmZ, Nat.reduceEqDiff, ↓reduceIte, Nat.reduceAdd, Int.reduceBEq, Int.reduceBNe, h0, bne, cond_true, Bool.not_true, Bool.not_false, beq_self_eq_true, hsame2, hsz, Bool.true_and, Bool.and_true]; rfl) ?_
  refine Fe.pure rfl rfl (by simp only [↓nrmL, nrmZ, Nat.reduceEqDiff, ↓reduceIte, Nat.reduceAdd, Int.reduceBEq, Int.reduceBNe, h0, bne, cond_true, Bool.not_true, Bool.not_false, beq_self_eq_true, hsame2, hsz, Bool.true_and, Bool.and_true]; rfl) ?_
  refine Fe.pure rfl rfl (by simp only [↓nrmL, nrmZ, Nat.reduceEqDiff, ↓reduceIte, Nat.reduceAdd, Int.reduceBEq, Int.reduceBNe, h0, bne, cond_true, Bool.not_true, Bool.not_false, beq_self_eq_true, hsame2, hsz, Bool.true_and, Bool.and_true]; rfl) ?_
  refine Fe.pure rfl rfl (by simp only [↓nrmL, nrmZ, Nat.reduceEqDiff, ↓reduceIte, Nat.reduceAdd, Int.reduceBEq, Int.reduceBNe, h0, bne, cond_true, Bool.not_true, Bool.not_false, beq_self_eq_true, hsame2, hsz, Bool.true_and, Bool.and_true]; rfl) ?_
  refine Fe.pure rfl rfl (by simp only [↓nrmL, nrmZ, Nat.reduceEqDiff, ↓reduceIte, Nat.reduceAdd, Int.reduceBEq, Int.reduceBNe, h0, bne, cond_true, Bool.not_true, Bool.not_false, beq_self_eq_true, hsame2, hsz, Bool.true_and, Bool.and_true]; rfl) ?_
  refine Fe.pure rfl rfl (by simp only [↓nrmL, nrmZ, Nat.reduceEqDiff, ↓reduceIte, Nat.reduceAdd, Int.reduceBEq, Int.reduceBNe, h0, bne, cond_true, Bool.not_true, Bool.not_false, beq_self_eq_true, hsame2, hsz, Bool.true_and, Bool.and_true]; rfl) ?_
  refine Fe.pure rfl rfl (by simp only [↓nrmL, nrmZ, Nat.reduceEqDiff, ↓reduceIte, Nat.reduceAdd, Int.reduceBEq, Int.reduceBNe, h0, bne, cond_true, Bool.not_true, Bool.not_false, beq_self_eq_true, hsame2, hsz, Bool.true_and, Bool.and_true]; rfl) ?_
  refine Fe.skip rfl ?_
  refine Fe.skip rfl ?_
  refine Fe.skip rfl ?_
  refine Fe.skip rfl ?_
  refine Fe.skip rfl ?_
  refine Fe.skip rfl ?_
  refine Fe.skip rfl ?_
  refine Fe.skip rfl ?_
  refine Fe.skip rfl ?_
  refine Fe.skip rfl ?_
  refine Fe.skip rfl ?_
  refine Fe.skip rfl ?_
  refine Fe.skip rfl ?_
  refine Fe.skip rfl ?_
  refine Fe.pure rfl rfl (by simp only [↓nrmL, nrmZ, Nat.reduceEqDiff, ↓reduceIte, Nat.reduceAdd, Int.reduceBEq, Int.reduceBNe, h0, bne, cond_true, Bool.not_true, Bool.not_false, beq_self_eq_true, hsame2, hsz, Bool.true_and, Bool.and_true]; rfl) ?_
  refine Fe.pure rfl rfl (by simp only [↓nrmL, nrmZ, Nat.reduceEqDiff, ↓reduceIte, Nat.reduceAdd, Int.reduceBEq, Int.reduceBNe, h0, bne, cond_true, Bool.not_true, Bool.not_false, beq_self_eq_true, hsame2, hsz, Bool.true_and, Bool.and_true]; rfl) ?_
  refine WpE.nil (hKF _ _ ?_)
  refine Wp.cond (b := false) rfl ?_
  refine Wp.skip ?_
  refine sq ?_
  refine sq ?_
  refine rg fun KF hKF => ?_
  refine mI rfl ?_
  refine Fo.bin rfl rfl rfl rfl ?_
  refine mB rfl ?_
  cases hk : (sideB x && sideB y)
  ·have ek : newSpec x y = (.zero, 2) := by unfold newSpec; rw [hk]; rfl
   simp only [ek] at *
   cases hr : (r.2 == 0)
   ·skip
    try simp only [↓nrmL, nrmZ, Nat.reduceEqDiff, ↓reduceIte, Nat.reduceAdd, Int.reduceBEq, Int.reduceBNe, hr, hk, bne, bne_self_eq_false, cond_false, Bool.not_true, Bool.not_false, hz1, hz2, hz3, hsame]
    refine Fo.no rfl rfl ?_
    refine Fo.no rfl rfl ?_
    refine Fo.no rfl rfl ?_
    refine Fo.no rfl rfl ?_
    refine fB rfl rfl ?_
    refine mB rfl ?_
    refine Fo.yes rfl rfl ?_
    refine mI rfl ?_
    refine Fo.yes rfl rfl ?_
    refine Fo.bin rfl rfl rfl (by simp only [↓nrmL, nrmZ, Nat.reduceEqDiff, ↓reduceIte, Nat.reduceAdd, Int.reduceBEq, Int.reduceBNe, hr, hk, bne, bne_self_eq_false, cond_false, Bool.not_true, Bool.not_false, hz1, hz2, hz3, hsame]; rfl) ?_
    refine Fo.yes rfl rfl ?_
    refine mB rfl ?_
    refine Fo.yes rfl rfl ?_
    refine mI rfl ?_
    refine Fo.yes rfl rfl ?_
    refine Fo.bin rfl rfl rfl (by simp only [↓nrmL, nrmZ, Nat.reduceEqDiff, ↓reduceIte, Nat.reduceAdd, Int.reduceBEq, Int.reduceBNe, hr, hk, bne, bne_self_eq_false, cond_false, Bool.not_true, Bool.not_false, hz1, hz2, hz3, hsame]; rfl) ?_
    refine Fo.yes rfl rfl ?_
    refine tB rfl rfl ?_
    refine fB rfl rfl ?_
    refine mB rfl ?_
    refine Fo.yes rfl rfl ?_
    refine mI rfl ?_
    refine Fo.yes rfl rfl ?_
    refine Fo.bin rfl rfl rfl rfl ?_
    refine Fo.yes rfl rfl ?_
    refine mB rfl ?_
    refine Fo.no rfl rfl ?_
    refine Fo.no rfl rfl ?_
    refine Fo.no rfl rfl ?_
    refine Fo.no rfl rfl ?_
    refine Fo.no rfl rfl ?_
    refine Fo.noU rfl ?_
    refine Fo.noU rfl ?_
    refine Fo.noU rfl ?_
    refine Fo.noU rfl ?_
    refine Fo.no rfl rfl ?_
    refine Fo.no rfl rfl ?_
    refine Fo.noU rfl ?_
    refine Fo.noU rfl ?_
    refine Fo.noU rfl ?_
    refine Fo.noU rfl ?_
    refine Fo.noU rfl ?_
    refine Fo.noU rfl ?_
    refine Fo.noU rfl ?_
    refine Fo.no rfl rfl ?_
    refine Fo.no rfl rfl ?_
    refine Fo.noU rfl ?_
    refine Fo.noU rfl ?_
    refine Fo.noU rfl ?_
    refine Fo.no rfl rfl ?_
    refine Fo.yes rfl rfl ?_
    refine fB rfl rfl ?_
    refine fB rfl rfl ?_
    refine mB rfl ?_
    refine Fo.yes rfl rfl ?_
    refine mI rfl ?_
    refine Fo.yes rfl rfl ?_
    refine Fo.bin rfl rfl rfl (by simp only [↓nrmL, nrmZ, Nat.reduceEqDiff, ↓reduceIte, Nat.reduceAdd, Int.reduceBEq, Int.reduceBNe, hr, hk, bne, bne_self_eq_false, cond_false, Bool.not_true, Bool.not_false, hz1, hz2, hz3, hsame]; rfl) ?_
    refine Fo.yes rfl rfl ?_
    refine mB rfl ?_
    refine Fo.yes rfl rfl ?_
    refine Fo.fa rfl ?_
    refine Fo.yes rfl rfl ?_
    refine Fo.ld rfl rfl ?_
    refine Fo.yes rfl rfl ?_
    refine Fo.len (v := ?_) (by simp only [↓nrmL, nrmK, Nat.reduceEqDiff, ↓reduceIte]; rfl) ?hv ?_; case hv => (simp only [↓nrmL, nrmZ, Nat.reduceEqDiff, ↓reduceIte, Nat.reduceAdd, Int.reduceBEq, Int.reduceBNe, hr, hk, bne, bne_self_eq_false, cond_false, Bool.not_true, Bool.not_false, hz1, hz2, hz3, hsame]; rfl)
    refine Fo.yes rfl rfl ?_
    refine Fo.fa rfl ?_
    refine Fo.yes rfl rfl ?_
    refine Fo.ld rfl rfl ?_
    refine Fo.yes rfl rfl ?_
    refine Fo.bin rfl rfl rfl (by simp only [↓nrmL, nrmZ, Nat.reduceEqDiff, ↓reduceIte, Nat.reduceAdd, Int.reduceBEq, Int.reduceBNe, hr, hk, bne, bne_self_eq_false, cond_false, Bool.not_true, Bool.not_false, hz1, hz2, hz3, hsame]; rfl) ?_
    refine Fo.yes rfl rfl ?_
    refine Fo.fa rfl ?_
    refine Fo.yes rfl rfl ?_
    refine Fo.ld rfl rfl ?_
    refine Fo.yes rfl rfl ?_
    refine Fo.bin rfl rfl rfl (by simp only [↓nrmL, nrmZ, Nat.reduceEqDiff, ↓reduceIte, Nat.reduceAdd, Int.reduceBEq, Int.reduceBNe, hr, hk, bne, bne_self_eq_false, cond_false, Bool.not_true, Bool.not_false, hz1, hz2, hz3, hsame]; rfl) ?_
    refine Fo.yes rfl rfl ?_
    refine Fo.bin rfl rfl rfl (by simp only [↓nrmL, nrmZ, Nat.reduceEqDiff, ↓reduceIte, Nat.reduceAdd, Int.reduceBEq, Int.reduceBNe, hr, hk, bne, bne_self_eq_false, cond_false, Bool.not_true, Bool.not_false, hz1, hz2, hz3, hsame]; rfl) ?_
    refine Fo.yes rfl rfl ?_
    refine tB rfl rfl ?_
    refine fB rfl rfl ?_
    refine WpO.nil (hKF _ _ ?_)
    refine Wp.cond (b := false) rfl ?_
    refine Wp.skip ?_
    refine sq ?_
    refine rg fun KF hKF => ?_
    refine Fo.ldN rfl rfl (by simp only [↓nrmL, nrmZ, Nat.reduceEqDiff, ↓reduceIte, Nat.reduceAdd, Int.reduceBEq, Int.reduceBNe, hr, hk, bne, bne_self_eq_false, cond_false, Bool.not_true, Bool.not_false, hz1, hz2, hz3, hsame]; rfl) ?_
    refine Fo.ldN rfl rfl (by simp only [↓nrmL, nrmZ, Nat.reduceEqDiff, ↓reduceIte, Nat.reduceAdd, Int.reduceBEq, Int.reduceBNe, hr, hk, bne, bne_self_eq_false, cond_false, Bool.not_true, Bool.not_false, hz1, hz2, hz3, hsame]; rfl) ?_
    refine Fo.pcall (v' := ?_) hn rfl (by simp only [↓nrmL, nrmZ, Nat.reduceEqDiff, ↓reduceIte, Nat.reduceAdd, Int.reduceBEq, Int.reduceBNe, hr, hk, bne, bne_self_eq_false, cond_false, Bool.not_true, Bool.not_false, hz1, hz2, hz3, hsame, List.map]; rfl) rfl ?hv fun _ _ => ?_; case hv => (simp only [↓nrmL, nrmZ, Nat.reduceEqDiff, ↓reduceIte, Nat.reduceAdd, Int.reduceBEq, Int.reduceBNe, hr, hk, bne, bne_self_eq_false, cond_false, Bool.not_true, Bool.not_false, hz1, hz2, hz3, hsame]; rfl)
    refine mB rfl ?_
    refine Fo.yes rfl rfl ?_
    refine Fo.ldN rfl rfl (by simp only [↓nrmL, nrmZ, Nat.reduceEqDiff, ↓reduceIte, Nat.reduceAdd, Int.reduceBEq, Int.reduceBNe, hr, hk, bne, bne_self_eq_false, cond_false, Bool.not_true, Bool.not_false, hz1, hz2, hz3, hsame]; rfl) ?_
    refine Fo.yes rfl rfl ?_
    refine Fo.ldN rfl rfl (by simp only [↓nrmL, nrmZ, Nat.reduceEqDiff, ↓reduceIte, Nat.reduceAdd, Int.reduceBEq, Int.reduceBNe, hr, hk, bne, bne_self_eq_false, cond_false, Bool.not_true, Bool.not_false, hz1, hz2, hz3, hsame]; rfl) ?_
    refine Fo.yes rfl rfl ?_
    refine Fo.pcall (v' := ?_) hn rfl (by simp only [↓nrmL, nrmZ, Nat.reduceEqDiff, ↓reduceIte, Nat.reduceAdd, Int.reduceBEq, Int.reduceBNe, hr, hk, bne, bne_self_eq_false, cond_false, Bool.not_true, Bool.not_false, hz1, hz2, hz3, hsame, List.map]; rfl) rfl ?hv fun _ _ => ?_; case hv => (simp only [↓nrmL, nrmZ, Nat.reduceEqDiff, ↓reduceIte, Nat.reduceAdd, Int.reduceBEq, Int.reduceBNe, hr, hk, bne, bne_self_eq_false, cond_false, Bool.not_true, Bool.not_false, hz1, hz2, hz3, hsame]; rfl)
    refine tB rfl rfl ?_
    refine mB rfl ?_
    refine Fo.yes rfl rfl ?_
    refine Fo.pcall (v' := ?_) hn rfl (by simp only [↓nrmL, nrmZ, Nat.reduceEqDiff, ↓reduceIte, Nat.reduceAdd, Int.reduceBEq, Int.reduceBNe, hr, hk, bne, bne_self_eq_false, cond_false, Bool.not_true, Bool.not_false, hz1, hz2, hz3, hsame, List.map]; rfl) rfl ?hv fun _ _ => ?_; case hv => rfl
    refine tB rfl rfl ?_
    refine mB rfl ?_
    refine WpO.nil (hKF _ _ ?_)
    refine Wp.ret ?_
    dsimp only [cond_true, cond_false]
    refine ⟨trivial, _, (by first | rfl | exact getAllC rfl rfl rfl rfl | exact getAllT rfl (getAllC rfl rfl rfl rfl) | exact getAllC rfl rfl rfl (getAllC rfl rfl rfl rfl) | exact getAllC1 rfl rfl rfl), ?_⟩
    exact ⟨rfl, Ext0.ext⟩
   ·haveI : Fits r.1.w r.1.h r.1.px := ⟨hrf hr⟩
    try simp only [↓nrmL, nrmZ, Nat.reduceEqDiff, ↓reduceIte, Nat.reduceAdd, Int.reduceBEq, Int.reduceBNe, hr, hk, bne, bne_self_eq_false, cond_true, Bool.not_true, Bool.not_false, hz1, hz2, hz3, hsame, beq_self_eq_true]
    refine Fo.yes rfl rfl ?_
    refine mI rfl ?_
    refine Fo.yes rfl rfl ?_
    refine Fo.ldN rfl rfl (by simp only [↓nrmL, nrmZ, Nat.reduceEqDiff, ↓reduceIte, Nat.reduceAdd, Int.reduceBEq, Int.reduceBNe, hr, hk, bne, bne_self_eq_false, cond_true, Bool.not_true, Bool.not_false, hz1, hz2, hz3, hsame, beq_self_eq_true]; rfl) ?_
    refine Fo.yes rfl rfl ?_
    refine Fo.pcall (v' := ?_) hn rfl (by simp only [↓nrmL, nrmZ, Nat.reduceEqDiff, ↓reduceIte, Nat.reduceAdd, Int.reduceBEq, Int.reduceBNe, hr, hk, bne, bne_self_eq_false, cond_true, Bool.not_true, Bool.not_false, hz1, hz2, hz3, hsame, beq_self_eq_true, List.map]; rfl) rfl ?hv fun _ _ => ?_; case hv => rfl
    refine Fo.yes rfl rfl ?_
    refine Fo.bin rfl rfl rfl (by simp only [↓nrmL, nrmZ, Nat.reduceEqDiff, ↓reduceIte, Nat.reduceAdd, Int.reduceBEq, Int.reduceBNe, hr, hk, bne, bne_self_eq_false, cond_true, Bool.not_true, Bool.not_false, hz1, hz2, hz3, hsame, beq_self_eq_true]; rfl) ?_
    refine tB rfl rfl ?_
    refine mB rfl ?_
    refine Fo.yes rfl rfl ?_
    refine mI rfl ?_
    refine Fo.yes rfl rfl ?_
    refine Fo.bin rfl rfl rfl (by simp only [↓nrmL, nrmZ, Nat.reduceEqDiff, ↓reduceIte, Nat.reduceAdd, Int.reduceBEq, Int.reduceBNe, hr, hk, bne, bne_self_eq_false, cond_true, Bool.not_true, Bool.not_false, hz1, hz2, hz3, hsame, beq_self_eq_true]; rfl) ?_
    refine Fo.yes rfl rfl ?_
    refine mB rfl ?_
    refine Fo.no rfl rfl ?_
    refine Fo.no rfl rfl ?_
    refine Fo.yes rfl rfl ?_
    refine fB rfl rfl ?_
    refine fB rfl rfl ?_
    refine mB rfl ?_
    refine Fo.yes rfl rfl ?_
    refine mI rfl ?_
    refine Fo.yes rfl rfl ?_
    refine Fo.bin rfl rfl rfl rfl ?_
    refine Fo.yes rfl rfl ?_
    refine mB rfl ?_
    refine Fo.no rfl rfl ?_
    refine Fo.no rfl rfl ?_
    refine Fo.no rfl rfl ?_
    refine Fo.no rfl rfl ?_
    refine Fo.no rfl rfl ?_
    refine Fo.noU rfl ?_
    refine Fo.noU rfl ?_
    refine Fo.noU rfl ?_
    refine Fo.noU rfl ?_
    refine Fo.no rfl rfl ?_
    refine Fo.no rfl rfl ?_
    refine Fo.noU rfl ?_
    refine Fo.noU rfl ?_
    refine Fo.noU rfl ?_
    refine Fo.noU rfl ?_
    refine Fo.noU rfl ?_
    refine Fo.noU rfl ?_
    refine Fo.noU rfl ?_
    refine Fo.no rfl rfl ?_
    refine Fo.no rfl rfl ?_
    refine Fo.noU rfl ?_
    refine Fo.noU rfl ?_
    refine Fo.noU rfl ?_
    refine Fo.no rfl rfl ?_
    refine Fo.yes rfl rfl ?_
    refine fB rfl rfl ?_
    refine fB rfl rfl ?_
    refine mB rfl ?_
    refine Fo.yes rfl rfl ?_
    refine mI rfl ?_
    refine Fo.yes rfl rfl ?_
    refine Fo.bin rfl rfl rfl (by simp only [↓nrmL, nrmZ, Nat.reduceEqDiff, ↓reduceIte, Nat.reduceAdd, Int.reduceBEq, Int.reduceBNe, hr, hk, bne, bne_self_eq_false, cond_true, Bool.not_true, Bool.not_false, hz1, hz2, hz3, hsame, beq_self_eq_true]; rfl) ?_
    refine Fo.yes rfl rfl ?_
    refine mB rfl ?_
    refine Fo.yes rfl rfl ?_
    refine Fo.fa rfl ?_
    refine Fo.yes rfl rfl ?_
    refine Fo.ld rfl rfl ?_
    refine Fo.yes rfl rfl ?_
    refine Fo.len (v := ?_) (by simp only [↓nrmL, nrmK, Nat.reduceEqDiff, ↓reduceIte]; rfl) ?hv ?_; case hv => (simp only [↓nrmL, nrmZ, Nat.reduceEqDiff, ↓reduceIte, Nat.reduceAdd, Int.reduceBEq, Int.reduceBNe, hr, hk, bne, bne_self_eq_false, cond_true, Bool.not_true, Bool.not_false, hz1, hz2, hz3, hsame, beq_self_eq_true]; rfl)
    refine Fo.yes rfl rfl ?_
    refine Fo.fa rfl ?_
    refine Fo.yes rfl rfl ?_
    refine Fo.ld rfl rfl ?_
    refine Fo.yes rfl rfl ?_
    refine Fo.bin rfl rfl rfl (by simp only [↓nrmL, nrmZ, Nat.reduceEqDiff, ↓reduceIte, Nat.reduceAdd, Int.reduceBEq, Int.reduceBNe, hr, hk, bne, bne_self_eq_false, cond_true, Bool.not_true, Bool.not_false, hz1, hz2, hz3, hsame, beq_self_eq_true]; rfl) ?_
    refine Fo.yes rfl rfl ?_
    refine Fo.fa rfl ?_
    refine Fo.yes rfl rfl ?_
    refine Fo.ld rfl rfl ?_
    refine Fo.yes rfl rfl ?_
    refine Fo.bin rfl rfl rfl (by simp only [↓nrmL, nrmZ, Nat.reduceEqDiff, ↓reduceIte, Nat.reduceAdd, Int.reduceBEq, Int.reduceBNe, hr, hk, bne, bne_self_eq_false, cond_true, Bool.not_true, Bool.not_false, hz1, hz2, hz3, hsame, beq_self_eq_true]; rfl) ?_
    refine Fo.yes rfl rfl ?_
    refine Fo.bin rfl rfl rfl (by simp only [↓nrmL, nrmZ, Nat.reduceEqDiff, ↓reduceIte, Nat.reduceAdd, Int.reduceBEq, Int.reduceBNe, hr, hk, bne, bne_self_eq_false, cond_true, Bool.not_true, Bool.not_false, hz1, hz2, hz3, hsame, beq_self_eq_true]; rfl) ?_
    refine Fo.yes rfl rfl ?_
    refine tB rfl rfl ?_
    refine fB rfl rfl ?_
    refine WpO.nil (hKF _ _ ?_)
    refine Wp.cond (b := false) rfl ?_
    refine Wp.skip ?_
    refine sq ?_
    refine rg fun KF hKF => ?_
    refine Fo.ldN rfl rfl (by simp only [↓nrmL, nrmZ, Nat.reduceEqDiff, ↓reduceIte, Nat.reduceAdd, Int.reduceBEq, Int.reduceBNe, hr, hk, bne, bne_self_eq_false, cond_true, Bool.not_true, Bool.not_false, hz1, hz2, hz3, hsame, beq_self_eq_true]; rfl) ?_
    refine Fo.ldN rfl rfl (by simp only [↓nrmL, nrmZ, Nat.reduceEqDiff, ↓reduceIte, Nat.reduceAdd, Int.reduceBEq, Int.reduceBNe, hr, hk, bne, bne_self_eq_false, cond_true, Bool.not_true, Bool.not_false, hz1, hz2, hz3, hsame, beq_self_eq_true]; rfl) ?_
    refine Fo.pcall (v' := ?_) hn rfl (by simp only [↓nrmL, nrmZ, Nat.reduceEqDiff, ↓reduceIte, Nat.reduceAdd, Int.reduceBEq, Int.reduceBNe, hr, hk, bne, bne_self_eq_false, cond_true, Bool.not_true, Bool.not_false, hz1, hz2, hz3, hsame, beq_self_eq_true, List.map]; rfl) rfl ?hv fun _ _ => ?_; case hv => (simp only [↓nrmL, nrmZ, Nat.reduceEqDiff, ↓reduceIte, Nat.reduceAdd, Int.reduceBEq, Int.reduceBNe, hr, hk, bne, bne_self_eq_false, cond_true, Bool.not_true, Bool.not_false, hz1, hz2, hz3, hsame, beq_self_eq_true]; rfl)
    refine mB rfl ?_
    refine Fo.yes rfl rfl ?_
    refine Fo.ldN rfl rfl (by simp only [↓nrmL, nrmZ, Nat.reduceEqDiff, ↓reduceIte, Nat.reduceAdd, Int.reduceBEq, Int.reduceBNe, hr, hk, bne, bne_self_eq_false, cond_true, Bool.not_true, Bool.not_false, hz1, hz2, hz3, hsame, beq_self_eq_true]; rfl) ?_
    refine Fo.yes rfl rfl ?_
    refine Fo.ldN rfl rfl (by simp only [↓nrmL, nrmZ, Nat.reduceEqDiff, ↓reduceIte, Nat.reduceAdd, Int.reduceBEq, Int.reduceBNe, hr, hk, bne, bne_self_eq_false, cond_true, Bool.not_true, Bool.not_false, hz1, hz2, hz3, hsame, beq_self_eq_true]; rfl) ?_
    refine Fo.yes rfl rfl ?_
    refine Fo.pcall (v' := ?_) hn rfl (by simp only [↓nrmL, nrmZ, Nat.reduceEqDiff, ↓reduceIte, Nat.reduceAdd, Int.reduceBEq, Int.reduceBNe, hr, hk, bne, bne_self_eq_false, cond_true, Bool.not_true, Bool.not_false, hz1, hz2, hz3, hsame, beq_self_eq_true, List.map]; rfl) rfl ?hv fun _ _ => ?_; case hv => (simp only [↓nrmL, nrmZ, Nat.reduceEqDiff, ↓reduceIte, Nat.reduceAdd, Int.reduceBEq, Int.reduceBNe, hr, hk, bne, bne_self_eq_false, cond_true, Bool.not_true, Bool.not_false, hz1, hz2, hz3, hsame, beq_self_eq_true]; rfl)
    refine tB rfl rfl ?_
    refine mB rfl ?_
    refine Fo.yes rfl rfl ?_
    refine Fo.pcall (v' := ?_) hn rfl (by simp only [↓nrmL, nrmZ, Nat.reduceEqDiff, ↓reduceIte, Nat.reduceAdd, Int.reduceBEq, Int.reduceBNe, hr, hk, bne, bne_self_eq_false, cond_true, Bool.not_true, Bool.not_false, hz1, hz2, hz3, hsame, beq_self_eq_true, List.map]; rfl) rfl ?hv fun _ _ => ?_; case hv => rfl
    refine tB rfl rfl ?_
    refine mB rfl ?_
    refine WpO.nil (hKF _ _ ?_)
    refine Wp.ret ?_
    dsimp only [cond_true, cond_false]
    refine ⟨trivial, _, (by first | rfl | exact getAllC rfl rfl rfl rfl | exact getAllT rfl (getAllC rfl rfl rfl rfl) | exact getAllC rfl rfl rfl (getAllC rfl rfl rfl rfl) | exact getAllC1 rfl rfl rfl), ?_⟩
    exact ⟨rfl, Ext0.ext⟩
  ·have ek : newSpec x y = (⟨x, y, List.replicate (x.toNat * y.toNat) 0⟩, 0) := by unfold newSpec; rw [hk]; rfl
   simp only [ek] at *
   obtain ⟨hxy, hcon⟩ := newFacts hk
   haveI : Short (List.replicate (x.toNat * y.toNat) (0 : UInt8)) := ⟨newShort hk⟩
   cases hr : (r.2 == 0)
   ·skip
    try simp only [↓nrmL, nrmZ, Nat.reduceEqDiff, ↓reduceIte, Nat.reduceAdd, Int.reduceBEq, Int.reduceBNe, hr, hk, bne, bne_self_eq_false, cond_false, Bool.not_true, Bool.not_false, hxy, hcon, hsame, beq_self_eq_true]
    refine Fo.no rfl rfl ?_
    refine Fo.no rfl rfl ?_
    refine Fo.no rfl rfl ?_
    refine Fo.no rfl rfl ?_
    refine fB rfl rfl ?_
    refine mB rfl ?_
    refine Fo.yes rfl rfl ?_
    refine mI rfl ?_
    refine Fo.yes rfl rfl ?_
    refine Fo.bin rfl rfl rfl (by simp only [↓nrmL, nrmZ, Nat.reduceEqDiff, ↓reduceIte, Nat.reduceAdd, Int.reduceBEq, Int.reduceBNe, hr, hk, bne, bne_self_eq_false, cond_false, Bool.not_true, Bool.not_false, hxy, hcon, hsame, beq_self_eq_true]; rfl) ?_
    refine Fo.yes rfl rfl ?_
    refine mB rfl ?_
    refine Fo.yes rfl rfl ?_
    refine mI rfl ?_
    refine Fo.yes rfl rfl ?_
    refine Fo.bin rfl rfl rfl (by simp only [↓nrmL, nrmZ, Nat.reduceEqDiff, ↓reduceIte, Nat.reduceAdd, Int.reduceBEq, Int.reduceBNe, hr, hk, bne, bne_self_eq_false, cond_false, Bool.not_true, Bool.not_false, hxy, hcon, hsame, beq_self_eq_true]; rfl) ?_
    refine Fo.yes rfl rfl ?_
    refine tB rfl rfl ?_
    refine fB rfl rfl ?_
    refine mB rfl ?_
    refine Fo.yes rfl rfl ?_
    refine mI rfl ?_
    refine Fo.yes rfl rfl ?_
    refine Fo.bin rfl rfl rfl rfl ?_
    refine Fo.yes rfl rfl ?_
    refine mB rfl ?_
    refine Fo.yes rfl rfl ?_
    refine Fo.fa rfl ?_
    refine Fo.yes rfl rfl ?_
    refine Fo.ld rfl rfl ?_
    refine Fo.yes rfl rfl ?_
    refine mI rfl ?_
    refine Fo.yes rfl rfl ?_
    refine Fo.bin rfl rfl rfl (by simp only [↓nrmL, nrmZ, Nat.reduceEqDiff, ↓reduceIte, Nat.reduceAdd, Int.reduceBEq, Int.reduceBNe, hr, hk, bne, bne_self_eq_false, cond_false, Bool.not_true, Bool.not_false, hxy, hcon, hsame, beq_self_eq_true]; rfl) ?_
    refine Fo.yes rfl rfl ?_
    refine mB rfl ?_
    refine Fo.yes rfl rfl ?_
    refine Fo.fa rfl ?_
    refine Fo.yes rfl rfl ?_
    refine Fo.ld rfl rfl ?_
    refine Fo.yes rfl rfl ?_
    refine mI rfl ?_
    refine Fo.yes rfl rfl ?_
    refine Fo.bin rfl rfl rfl (by simp only [↓nrmL, nrmZ, Nat.reduceEqDiff, ↓reduceIte, Nat.reduceAdd, Int.reduceBEq, Int.reduceBNe, hr, hk, bne, bne_self_eq_false, cond_false, Bool.not_true, Bool.not_false, hxy, hcon, hsame, beq_self_eq_true]; rfl) ?_
    refine Fo.yes rfl rfl ?_
    refine fB rfl rfl ?_
    refine Fo.yes rfl rfl ?_
    refine mB rfl ?_
    refine Fo.yes rfl rfl ?_
    refine Fo.fa rfl ?_
    refine Fo.yes rfl rfl ?_
    refine Fo.ld rfl rfl ?_
    refine Fo.yes rfl rfl ?_
    refine Fo.len (v := ?_) (by simp only [↓nrmL, nrmK, Nat.reduceEqDiff, ↓reduceIte]; rfl) ?hv ?_; case hv => rfl
    refine Fo.yes rfl rfl ?_
    refine mI rfl ?_
    refine Fo.yes rfl rfl ?_
    refine mI rfl ?_
    refine Fo.yes rfl rfl ?_
    refine Fo.bin rfl rfl rfl rfl ?_
    refine Fo.yes rfl rfl ?_
    refine Fo.bin rfl rfl rfl (by simp only [↓nrmL, nrmZ, Nat.reduceEqDiff, ↓reduceIte, Nat.reduceAdd, Int.reduceBEq, Int.reduceBNe, hr, hk, bne, bne_self_eq_false, cond_false, Bool.not_true, Bool.not_false, hxy, hcon, hsame, beq_self_eq_true]; rfl) ?_
    refine Fo.yes rfl rfl ?_
    refine fB rfl rfl ?_
    refine Fo.yes rfl rfl ?_
    refine mB rfl ?_
    refine Fo.yes rfl rfl ?_
    refine Fo.fa rfl ?_
    refine Fo.yes rfl rfl ?_
    refine Fo.ld rfl rfl ?_
    refine Fo.yes rfl rfl ?_
    refine Fo.pcall (v' := ?_) hn rfl (by simp only [↓nrmL, nrmZ, Nat.reduceEqDiff, ↓reduceIte, Nat.reduceAdd, Int.reduceBEq, Int.reduceBNe, hr, hk, bne, bne_self_eq_false, cond_false, Bool.not_true, Bool.not_false, hxy, hcon, hsame, beq_self_eq_true, List.map]; rfl) rfl ?hv fun _ _ => ?_; case hv => (simp only [↓nrmL, nrmZ, Nat.reduceEqDiff, ↓reduceIte, Nat.reduceAdd, Int.reduceBEq, Int.reduceBNe, hr, hk, bne, bne_self_eq_false, cond_false, Bool.not_true, Bool.not_false, hxy, hcon, hsame, beq_self_eq_true]; rfl)
    refine Fo.yes rfl rfl ?_
    refine fB rfl rfl ?_
    refine Fo.yes rfl rfl ?_
    refine tB rfl rfl ?_
    refine fB rfl rfl ?_
    refine mB rfl ?_
    refine Fo.yes rfl rfl ?_
    refine mI rfl ?_
    refine Fo.yes rfl rfl ?_
    refine Fo.bin rfl rfl rfl (by simp only [↓nrmL, nrmZ, Nat.reduceEqDiff, ↓reduceIte, Nat.reduceAdd, Int.reduceBEq, Int.reduceBNe, hr, hk, bne, bne_self_eq_false, cond_false, Bool.not_true, Bool.not_false, hxy, hcon, hsame, beq_self_eq_true]; rfl) ?_
    refine Fo.yes rfl rfl ?_
    refine mB rfl ?_
    refine Fo.no rfl rfl ?_
    refine Fo.no rfl rfl ?_
    refine Fo.no rfl rfl ?_
    refine Fo.no rfl rfl ?_
    refine Fo.no rfl rfl ?_
    refine Fo.no rfl rfl ?_
    refine Fo.no rfl rfl ?_
    refine Fo.no rfl rfl ?_
    refine Fo.no rfl rfl ?_
    refine Fo.no rfl rfl ?_
    refine Fo.yes rfl rfl ?_
    refine fB rfl rfl ?_
    refine fB rfl rfl ?_
    refine WpO.nil (hKF _ _ ?_)
    refine Wp.cond (b := false) rfl ?_
    refine Wp.skip ?_
    refine sq ?_
    refine rg fun KF hKF => ?_
    refine Fo.ldN rfl rfl (by simp only [↓nrmL, nrmZ, Nat.reduceEqDiff, ↓reduceIte, Nat.reduceAdd, Int.reduceBEq, Int.reduceBNe, hr, hk, bne, bne_self_eq_false, cond_false, Bool.not_true, Bool.not_false, hxy, hcon, hsame, beq_self_eq_true]; rfl) ?_
    refine Fo.ldN rfl rfl (by simp only [↓nrmL, nrmZ, Nat.reduceEqDiff, ↓reduceIte, Nat.reduceAdd, Int.reduceBEq, Int.reduceBNe, hr, hk, bne, bne_self_eq_false, cond_false, Bool.not_true, Bool.not_false, hxy, hcon, hsame, beq_self_eq_true]; rfl) ?_
    refine Fo.pcall (v' := ?_) hn rfl (by simp only [↓nrmL, nrmZ, Nat.reduceEqDiff, ↓reduceIte, Nat.reduceAdd, Int.reduceBEq, Int.reduceBNe, hr, hk, bne, bne_self_eq_false, cond_false, Bool.not_true, Bool.not_false, hxy, hcon, hsame, beq_self_eq_true, List.map]; rfl) rfl ?hv fun _ _ => ?_; case hv => (simp only [↓nrmL, nrmZ, Nat.reduceEqDiff, ↓reduceIte, Nat.reduceAdd, Int.reduceBEq, Int.reduceBNe, hr, hk, bne, bne_self_eq_false, cond_false, Bool.not_true, Bool.not_false, hxy, hcon, hsame, beq_self_eq_true]; rfl)
    refine mB rfl ?_
    refine Fo.yes rfl rfl ?_
    refine Fo.ldN rfl rfl (by simp only [↓nrmL, nrmZ, Nat.reduceEqDiff, ↓reduceIte, Nat.reduceAdd, Int.reduceBEq, Int.reduceBNe, hr, hk, bne, bne_self_eq_false, cond_false, Bool.not_true, Bool.not_false, hxy, hcon, hsame, beq_self_eq_true]; rfl) ?_
    refine Fo.yes rfl rfl ?_
    refine Fo.ldN rfl rfl (by simp only [↓nrmL, nrmZ, Nat.reduceEqDiff, ↓reduceIte, Nat.reduceAdd, Int.reduceBEq, Int.reduceBNe, hr, hk, bne, bne_self_eq_false, cond_false, Bool.not_true, Bool.not_false, hxy, hcon, hsame, beq_self_eq_true]; rfl) ?_
    refine Fo.yes rfl rfl ?_
    refine Fo.pcall (v' := ?_) hn rfl (by simp only [↓nrmL, nrmZ, Nat.reduceEqDiff, ↓reduceIte, Nat.reduceAdd, Int.reduceBEq, Int.reduceBNe, hr, hk, bne, bne_self_eq_false, cond_false, Bool.not_true, Bool.not_false, hxy, hcon, hsame, beq_self_eq_true, List.map]; rfl) rfl ?hv fun _ _ => ?_; case hv => (simp only [↓nrmL, nrmZ, Nat.reduceEqDiff, ↓reduceIte, Nat.reduceAdd, Int.reduceBEq, Int.reduceBNe, hr, hk, bne, bne_self_eq_false, cond_false, Bool.not_true, Bool.not_false, hxy, hcon, hsame, beq_self_eq_true]; rfl)
    refine tB rfl rfl ?_
    refine mB rfl ?_
    refine Fo.yes rfl rfl ?_
    refine Fo.pcall (v' := ?_) hn rfl (by simp only [↓nrmL, nrmZ, Nat.reduceEqDiff, ↓reduceIte, Nat.reduceAdd, Int.reduceBEq, Int.reduceBNe, hr, hk, bne, bne_self_eq_false, cond_false, Bool.not_true, Bool.not_false, hxy, hcon, hsame, beq_self_eq_true, List.map]; rfl) rfl ?hv fun _ _ => ?_; case hv => rfl
    refine tB rfl rfl ?_
    refine mB rfl ?_
    refine WpO.nil (hKF _ _ ?_)
    refine Wp.ret ?_
    dsimp only [cond_true, cond_false]
    refine ⟨trivial, _, (by first | rfl | exact getAllC rfl rfl rfl rfl | exact getAllT rfl (getAllC rfl rfl rfl rfl) | exact getAllC rfl rfl rfl (getAllC rfl rfl rfl rfl) | exact getAllC1 rfl rfl rfl), ?_⟩
    exact ⟨rfl, Ext0.ext⟩
   ·haveI : Fits r.1.w r.1.h r.1.px := ⟨hrf hr⟩
    try simp only [↓nrmL, nrmZ, Nat.reduceEqDiff, ↓reduceIte, Nat.reduceAdd, Int.reduceBEq, Int.reduceBNe, hr, hk, bne, bne_self_eq_false, cond_true, Bool.not_true, Bool.not_false, hxy, hcon, hsame, beq_self_eq_true]
    refine Fo.yes rfl rfl ?_
    refine mI rfl ?_
    refine Fo.yes rfl rfl ?_
    refine Fo.ldN rfl rfl (by simp only [↓nrmL, nrmZ, Nat.reduceEqDiff, ↓reduceIte, Nat.reduceAdd, Int.reduceBEq, Int.reduceBNe, hr, hk, bne, bne_self_eq_false, cond_true, Bool.not_true, Bool.not_false, hxy, hcon, hsame, beq_self_eq_true]; rfl) ?_
    refine Fo.yes rfl rfl ?_
    refine Fo.pcall (v' := ?_) hn rfl (by simp only [↓nrmL, nrmZ, Nat.reduceEqDiff, ↓reduceIte, Nat.reduceAdd, Int.reduceBEq, Int.reduceBNe, hr, hk, bne, bne_self_eq_false, cond_true, Bool.not_true, Bool.not_false, hxy, hcon, hsame, beq_self_eq_true, List.map]; rfl) rfl ?hv fun _ _ => ?_; case hv => rfl
    refine Fo.yes rfl rfl ?_
    refine Fo.bin rfl rfl rfl (by simp only [↓nrmL, nrmZ, Nat.reduceEqDiff, ↓reduceIte, Nat.reduceAdd, Int.reduceBEq, Int.reduceBNe, hr, hk, bne, bne_self_eq_false, cond_true, Bool.not_true, Bool.not_false, hxy, hcon, hsame, beq_self_eq_true]; rfl) ?_
    refine tB rfl rfl ?_
    refine mB rfl ?_
    refine Fo.yes rfl rfl ?_
    refine mI rfl ?_
    refine Fo.yes rfl rfl ?_
    refine Fo.bin rfl rfl rfl (by simp only [↓nrmL, nrmZ, Nat.reduceEqDiff, ↓reduceIte, Nat.reduceAdd, Int.reduceBEq, Int.reduceBNe, hr, hk, bne, bne_self_eq_false, cond_true, Bool.not_true, Bool.not_false, hxy, hcon, hsame, beq_self_eq_true]; rfl) ?_
    refine Fo.yes rfl rfl ?_
    refine mB rfl ?_
    refine Fo.no rfl rfl ?_
    refine Fo.no rfl rfl ?_
    refine Fo.yes rfl rfl ?_
    refine fB rfl rfl ?_
    refine fB rfl rfl ?_
    refine mB rfl ?_
    refine Fo.yes rfl rfl ?_
    refine mI rfl ?_
    refine Fo.yes rfl rfl ?_
    refine Fo.bin rfl rfl rfl rfl ?_
    refine Fo.yes rfl rfl ?_
    refine mB rfl ?_
    refine Fo.yes rfl rfl ?_
    refine Fo.fa rfl ?_
    refine Fo.yes rfl rfl ?_
    refine Fo.ld rfl rfl ?_
    refine Fo.yes rfl rfl ?_
    refine mI rfl ?_
    refine Fo.yes rfl rfl ?_
    refine Fo.bin rfl rfl rfl (by simp only [↓nrmL, nrmZ, Nat.reduceEqDiff, ↓reduceIte, Nat.reduceAdd, Int.reduceBEq, Int.reduceBNe, hr, hk, bne, bne_self_eq_false, cond_true, Bool.not_true, Bool.not_false, hxy, hcon, hsame, beq_self_eq_true]; rfl) ?_
    refine Fo.yes rfl rfl ?_
    refine mB rfl ?_
    refine Fo.yes rfl rfl ?_
    refine Fo.fa rfl ?_
    refine Fo.yes rfl rfl ?_
    refine Fo.ld rfl rfl ?_
    refine Fo.yes rfl rfl ?_
    refine mI rfl ?_
    refine Fo.yes rfl rfl ?_
    refine Fo.bin rfl rfl rfl (by simp only [↓nrmL, nrmZ, Nat.reduceEqDiff, ↓reduceIte, Nat.reduceAdd, Int.reduceBEq, Int.reduceBNe, hr, hk, bne, bne_self_eq_false, cond_true, Bool.not_true, Bool.not_false, hxy, hcon, hsame, beq_self_eq_true]; rfl) ?_
    refine Fo.yes rfl rfl ?_
    refine fB rfl rfl ?_
    refine Fo.yes rfl rfl ?_
    refine mB rfl ?_
    refine Fo.yes rfl rfl ?_
    refine Fo.fa rfl ?_
    refine Fo.yes rfl rfl ?_
    refine Fo.ld rfl rfl ?_
    refine Fo.yes rfl rfl ?_
    refine Fo.len (v := ?_) (by simp only [↓nrmL, nrmK, Nat.reduceEqDiff, ↓reduceIte]; rfl) ?hv ?_; case hv => rfl
    refine Fo.yes rfl rfl ?_
    refine mI rfl ?_
    refine Fo.yes rfl rfl ?_
    refine mI rfl ?_
    refine Fo.yes rfl rfl ?_
    refine Fo.bin rfl rfl rfl rfl ?_
    refine Fo.yes rfl rfl ?_
    refine Fo.bin rfl rfl rfl (by simp only [↓nrmL, nrmZ, Nat.reduceEqDiff, ↓reduceIte, Nat.reduceAdd, Int.reduceBEq, Int.reduceBNe, hr, hk, bne, bne_self_eq_false, cond_true, Bool.not_true, Bool.not_false, hxy, hcon, hsame, beq_self_eq_true]; rfl) ?_
    refine Fo.yes rfl rfl ?_
    refine fB rfl rfl ?_
    refine Fo.yes rfl rfl ?_
    refine mB rfl ?_
    refine Fo.yes rfl rfl ?_
    refine Fo.fa rfl ?_
    refine Fo.yes rfl rfl ?_
    refine Fo.ld rfl rfl ?_
    refine Fo.yes rfl rfl ?_
    refine Fo.pcall (v' := ?_) hn rfl (by simp only [↓nrmL, nrmZ, Nat.reduceEqDiff, ↓reduceIte, Nat.reduceAdd, Int.reduceBEq, Int.reduceBNe, hr, hk, bne, bne_self_eq_false, cond_true, Bool.not_true, Bool.not_false, hxy, hcon, hsame, beq_self_eq_true, List.map]; rfl) rfl ?hv fun _ _ => ?_; case hv => (simp only [↓nrmL, nrmZ, Nat.reduceEqDiff, ↓reduceIte, Nat.reduceAdd, Int.reduceBEq, Int.reduceBNe, hr, hk, bne, bne_self_eq_false, cond_true, Bool.not_true, Bool.not_false, hxy, hcon, hsame, beq_self_eq_true]; rfl)
    refine Fo.yes rfl rfl ?_
    refine fB rfl rfl ?_
    refine Fo.yes rfl rfl ?_
    refine tB rfl rfl ?_
    refine fB rfl rfl ?_
    refine mB rfl ?_
    refine Fo.yes rfl rfl ?_
    refine mI rfl ?_
    refine Fo.yes rfl rfl ?_
    refine Fo.bin rfl rfl rfl (by simp only [↓nrmL, nrmZ, Nat.reduceEqDiff, ↓reduceIte, Nat.reduceAdd, Int.reduceBEq, Int.reduceBNe, hr, hk, bne, bne_self_eq_false, cond_true, Bool.not_true, Bool.not_false, hxy, hcon, hsame, beq_self_eq_true]; rfl) ?_
    refine Fo.yes rfl rfl ?_
    refine mB rfl ?_
    refine Fo.no rfl rfl ?_
    refine Fo.no rfl rfl ?_
    refine Fo.no rfl rfl ?_
    refine Fo.no rfl rfl ?_
    refine Fo.no rfl rfl ?_
    refine Fo.no rfl rfl ?_
    refine Fo.no rfl rfl ?_
    refine Fo.no rfl rfl ?_
    refine Fo.no rfl rfl ?_
    refine Fo.no rfl rfl ?_
    refine Fo.yes rfl rfl ?_
    refine fB rfl rfl ?_
    refine fB rfl rfl ?_
    refine WpO.nil (hKF _ _ ?_)
    refine Wp.cond (b := false) rfl ?_
    refine Wp.skip ?_
    refine sq ?_
    refine rg fun KF hKF => ?_
    refine Fo.ldN rfl rfl (by simp only [↓nrmL, nrmZ, Nat.reduceEqDiff, ↓reduceIte, Nat.reduceAdd, Int.reduceBEq, Int.reduceBNe, hr, hk, bne, bne_self_eq_false, cond_true, Bool.not_true, Bool.not_false, hxy, hcon, hsame, beq_self_eq_true]; rfl) ?_
    refine Fo.ldN rfl rfl (by simp only [↓nrmL, nrmZ, Nat.reduceEqDiff, ↓reduceIte, Nat.reduceAdd, Int.reduceBEq, Int.reduceBNe, hr, hk, bne, bne_self_eq_false, cond_true, Bool.not_true, Bool.not_false, hxy, hcon, hsame, beq_self_eq_true]; rfl) ?_
    refine Fo.pcall (v' := ?_) hn rfl (by simp only [↓nrmL, nrmZ, Nat.reduceEqDiff, ↓reduceIte, Nat.reduceAdd, Int.reduceBEq, Int.reduceBNe, hr, hk, bne, bne_self_eq_false, cond_true, Bool.not_true, Bool.not_false, hxy, hcon, hsame, beq_self_eq_true, List.map]; rfl) rfl ?hv fun _ _ => ?_; case hv => (simp only [↓nrmL, nrmZ, Nat.reduceEqDiff, ↓reduceIte, Nat.reduceAdd, Int.reduceBEq, Int.reduceBNe, hr, hk, bne, bne_self_eq_false, cond_true, Bool.not_true, Bool.not_false, hxy, hcon, hsame, beq_self_eq_true]; rfl)
    refine mB rfl ?_
    refine Fo.yes rfl rfl ?_
    refine Fo.ldN rfl rfl (by simp only [↓nrmL, nrmZ, Nat.reduceEqDiff, ↓reduceIte, Nat.reduceAdd, Int.reduceBEq, Int.reduceBNe, hr, hk, bne, bne_self_eq_false, cond_true, Bool.not_true, Bool.not_false, hxy, hcon, hsame, beq_self_eq_true]; rfl) ?_
    refine Fo.yes rfl rfl ?_
    refine Fo.ldN rfl rfl (by simp only [↓nrmL, nrmZ, Nat.reduceEqDiff, ↓reduceIte, Nat.reduceAdd, Int.reduceBEq, Int.reduceBNe, hr, hk, bne, bne_self_eq_false, cond_true, Bool.not_true, Bool.not_false, hxy, hcon, hsame, beq_self_eq_true]; rfl) ?_
    refine Fo.yes rfl rfl ?_
    refine Fo.pcall (v' := ?_) hn rfl (by simp only [↓nrmL, nrmZ, Nat.reduceEqDiff, ↓reduceIte, Nat.reduceAdd, Int.reduceBEq, Int.reduceBNe, hr, hk, bne, bne_self_eq_false, cond_true, Bool.not_true, Bool.not_false, hxy, hcon, hsame, beq_self_eq_true, List.map]; rfl) rfl ?hv fun _ _ => ?_; case hv => (simp only [↓nrmL, nrmZ, Nat.reduceEqDiff, ↓reduceIte, Nat.reduceAdd, Int.reduceBEq, Int.reduceBNe, hr, hk, bne, bne_self_eq_false, cond_true, Bool.not_true, Bool.not_false, hxy, hcon, hsame, beq_self_eq_true]; rfl)
    refine tB rfl rfl ?_
    refine mB rfl ?_
    refine Fo.yes rfl rfl ?_
    refine Fo.pcall (v' := ?_) hn rfl (by simp only [↓nrmL, nrmZ, Nat.reduceEqDiff, ↓reduceIte, Nat.reduceAdd, Int.reduceBEq, Int.reduceBNe, hr, hk, bne, bne_self_eq_false, cond_true, Bool.not_true, Bool.not_false, hxy, hcon, hsame, beq_self_eq_true, List.map]; rfl) rfl ?hv fun _ _ => ?_; case hv => rfl
    refine tB rfl rfl ?_
    refine mB rfl ?_
    refine WpO.nil (hKF _ _ ?_)
    refine Wp.ret ?_
    dsimp only [cond_true, cond_false]
    refine ⟨trivial, _, (by first | rfl | exact getAllC rfl rfl rfl rfl | exact getAllT rfl (getAllC rfl rfl rfl rfl) | exact getAllC rfl rfl rfl (getAllC rfl rfl rfl rfl) | exact getAllC1 rfl rfl rfl), ?_⟩
    exact ⟨rfl, Ext0.ext⟩
end Go.Am

set_option linter.unusedSimpArgs false
set_option linter.unusedVariables false
set_option maxRecDepth 100000
set_option maxHeartbeats 4000000
namespace Go.Proofs.YtmgeaaipjkjmjaaDoor.ImageBasics
open Go.ChangeShapes Go.WideShapes Go.ChangeAt Go.RowKit Go.Am Go.Proofs.YtmgeaaipjkjmjaaDoor.Laid

theorem con (H : AHeap) (avs : List AVal) (ht : tablesIn aroundT H = true) (h : ArgS Tryd.prog H 3 [24, 24, 3, 3] avs) : Con ext prog 9 3 avs H fun v H' => v = .bool true ∧ Ext H H' := by
  obtain ⟨a0, r0, rfl, h0, a1, r1, rfl, h1, a2, r2, rfl, h2, a3, r3, rfl, h3, rfl⟩ := h
  obtain ⟨w0, hh0, p0, l0, rfl, k0, _⟩ := shape_img (ti := 3) (ts := 22) (tb := 5) Tryd.underlying24 (by kernel_rfl) Tryd.underlying3 Tryd.underlying22 Tryd.underlying5 (by kernel_rfl) h0
  obtain ⟨w1, hh1, p1, l1, rfl, k1, _⟩ := shape_img (ti := 3) (ts := 22) (tb := 5) Tryd.underlying24 (by kernel_rfl) Tryd.underlying3 Tryd.underlying22 Tryd.underlying5 (by kernel_rfl) h1
  obtain ⟨i2, rfl, _⟩ := shape_int Tryd.underlying3 h2
  obtain ⟨i3, rfl, _⟩ := shape_int Tryd.underlying3 h3
  have e0 : argV Tryd.prog 24 [.int .i64 w0, .int .i64 hh0, p0] = .agg [.int .i64 w0, .int .i64 hh0, p0] := by simp only [argV, show aggTy Tryd.prog 24 = true by kernel_rfl, cond_true]
  have e1 : argV Tryd.prog 24 [.int .i64 w1, .int .i64 hh1, p1] = .agg [.int .i64 w1, .int .i64 hh1, p1] := by simp only [argV, show aggTy Tryd.prog 24 = true by kernel_rfl, cond_true]
  have e2 : argV Tryd.prog 3 [.int .i64 i2] = .int .i64 i2 := by simp only [argV, show aggTy Tryd.prog 3 = false by kernel_rfl, cond_false, List.headD_cons]
  have e3 : argV Tryd.prog 3 [.int .i64 i3] = .int .i64 i3 := by simp only [argV, show aggTy Tryd.prog 3 = false by kernel_rfl, cond_false, List.headD_cons]
  haveI : Tabs H := ⟨ht⟩
  rw [e0, e1, e2, e3]
  exact K_ImageBasics

theorem contract (H : Type) (enc : TypeId × Value → H) (W : World) (base : Nat) (args : Array Value) (ds gs : List (DataW H)) (before : List MemPlace)
    (hval : ∀ (j : Nat) t v, Tryd.f3.params[j]? = some t → args[j]? = some v → Value.okWide Tryd.prog W .any base t v)
    (hW : DataW.Whole enc Tryd.prog Tryd.f3.params.toList Rows.imageBasicsSpec.vars false W args.toList ds gs before) (hL : laidMetH Tryd.prog Rows.imageBasicsRow.laid W) :
    Calls Tryd.prog 3 args W fun e W' => ∃ v, e = .returned v ∧ Rows.imageBasicsSpec.post enc Tryd.prog Tryd.f3 false true false false W args v W' := by
  have hW' := hW
  obtain ⟨p, q, hA, _⟩ := hW'
  rw [Tryd.params3] at hA
  obtain ⟨v0, vs0, d0, ds0, p0, q0, _, rfl, _, _, r0⟩ := trodAll_cons hA
  obtain ⟨v1, vs1, d1, ds1, p1, q1, _, rfl, _, _, r1⟩ := trodAll_cons r0
  obtain ⟨v2, vs2, d2, ds2, p2, q2, _, rfl, _, _, r2⟩ := trodAll_cons r1
  obtain ⟨v3, vs3, d3, ds3, p3, q3, _, rfl, _, _, r3⟩ := trodAll_cons r2
  obtain ⟨_, rfl, _⟩ := trodAll_nil r3
  exact law_calls (tb := 4) (n := 3) (d := 9) (tabs := aroundT) mixed progOk Tryd.func3 rfl (by decide +kernel) laidOut rowed full (by kernel_rfl) rfl (by kernel_rfl) Tryd.underlying4 (by kernel_rfl) (by kernel_rfl)
    (fun H avs ht h => con H avs ht (by rw [Tryd.params3] at h; exact h)) H enc W base args _ gs before rfl hval hW (around_cells hL)

theorem laid_met (os : Os) : laidMet Tryd.prog Rows.imageBasicsRow.laid ((laidWorld os).forCall (fun _ _ => 0) ⟨#[], #[.agg #[.int .i64 0, .int .i64 0, .slice none 0 0], .agg #[.int .i64 0, .int .i64 0, .slice none 0 0], .int .i64 0, .int .i64 0], []⟩).memory :=
  laidMet_of_run' 8 (by kernel_rfl) (by kernel_rfl)
theorem reads (os : Os) {H : Type} (enc : TypeId × Value → H) : ∃ places, DataW.whole enc Tryd.prog ((laidWorld os).forCall (fun _ _ => 0) ⟨#[], #[.agg #[.int .i64 0, .int .i64 0, .slice none 0 0], .agg #[.int .i64 0, .int .i64 0, .slice none 0 0], .int .i64 0, .int .i64 0], []⟩).memory Tryd.f3.params.toList Rows.imageBasicsSpec.vars false #[Value.agg #[.int .i64 0, .int .i64 0, .slice none 0 0], .agg #[.int .i64 0, .int .i64 0, .slice none 0 0], .int .i64 0, .int .i64 0].toList 8 = some ([.agg [.lit (.int .i64 0), .lit (.int .i64 0), .nil], .agg [.lit (.int .i64 0), .lit (.int .i64 0), .nil], .lit (.int .i64 0), .lit (.int .i64 0)], [], places) :=
  ⟨[], by kernel_rfl⟩

theorem lifted (os : Os) (started : os.Started) (H : Type) (enc : TypeId × Value → H) (F : Stop.Interp) :
    ReturnsInHanded {} Tryd.checked os 3 .any ((OpenSpec.ofChange Rows.imageBasicsSpec).preRow enc Tryd.prog Tryd.f3 Rows.imageBasicsRow.domain false Rows.imageBasicsRow.laid) (((OpenSpec.ofChange Rows.imageBasicsSpec).at F).post enc Tryd.prog Tryd.f3 false true false false) := by
  obtain ⟨places, hx⟩ := reads os enc
  refine returnsInHanded_of_row (C := Tryd.checked) (s := OpenSpec.ofChange Rows.imageBasicsSpec) own started (by kernel_rfl) Tryd.func3
    (witness_row_at (enc := enc) (C := Tryd.checked) false (laidWorld os) #[.agg #[.int .i64 0, .int .i64 0, .slice none 0 0], .agg #[.int .i64 0, .int .i64 0, .slice none 0 0], .int .i64 0, .int .i64 0] rfl (by kernel_rfl) (by kernel_rfl) (by kernel_rfl)
      (OpenSpec.preRow_of_cond 8 hx (by kernel_rfl) (fun k hk => by cases hk) (by kernel_rfl) (laid_met os))) ?_
  intro W base args ds gs before hval hW _ _ _ hL _ _
  exact contract H enc W base args ds gs before hval hW hL

theorem said : Rows.ImageBasicsSaid :=
  OpenClaim.holds_of_cond 3 Tryd.f3 rfl rfl rfl rfl rfl rfl rfl ⟨rfl, rfl, rfl, rfl, rfl⟩ rfl rfl rfl rfl rfl (by kernel_rfl) Tryd.func3 (by kernel_rfl)
    (of_decide_eq_true (by kernel_rfl)) (by unfold Func.isWrapper; first | (rw [if_pos (by decide +kernel)]; kernel_rfl) | (rw [if_neg (by decide +kernel)]; exact ⟨rfl, rfl⟩))
    (fun os started H enc _ F => by rw [OpenClaim.pre_eq_preRow]; exact lifted os started H enc F)

theorem plain (f : FuncId) (fn : Func) (hf : Tryd.pinned.checked.prog.funcNamed "custos/custoslaw01.ImageBasics" = some f) (hfn : Tryd.pinned.checked.prog.funcs[f]? = some fn) :
    false = Tryd.pinned.checked.prog.looks [] ∧ ∀ (j : Nat) t, fn.params[j]? = some t → Tryd.pinned.checked.prog.wantsStandIn t = false := by
  obtain rfl : f = 3 := Option.some.inj ((show Tryd.prog.funcNamed "custos/custoslaw01.ImageBasics" = some 3 by kernel_rfl).symm.trans hf) |>.symm
  obtain rfl : fn = Tryd.f3 := (Option.some.inj (Tryd.func3.symm.trans hfn)).symm
  refine ⟨by kernel_rfl, fun j t ht => ?_⟩
  have h := List.all_eq_true.1 (show (Tryd.f3.params.toList.all fun t => !(Tryd.prog.wantsStandIn t)) = true by kernel_rfl) t (by simpa using Array.mem_of_getElem? ht)
  have h2 : Tryd.prog.wantsStandIn t = false := by simpa using h
  exact h2

/-- The card. -/
theorem card : Rows.ImageBasicsCardSaid :=
  Claim7.holds_tied_plain_at .later [] _ _ _ _ said (fun _ h => by cases h) (by kernel_rfl) (fun _ h => by cases h) imageBasics_row_tie rfl ⟨rfl, rfl⟩ (by kernel_rfl) rfl plain (by kernel_rfl)
end Go.Proofs.YtmgeaaipjkjmjaaDoor.ImageBasics
