import Derived.Test.YtmgeaaipjkjmjaaDoorAmBD
set_option linter.unusedSimpArgs false
set_option linter.unusedVariables false
set_option maxHeartbeats 4000000
set_option maxRecDepth 100000
namespace Go.Am
open Go
attribute [local irreducible] Wp WpO WpX WpE

theorem K_Clone {H : AHeap} {p : AVal} {l : List UInt8} [hp : BytesI H p l] (hl : l.length < 2 ^ 40) : Con ext prog 1 120 [p] H fun v H' => NewBytes H H' v l := by
 refine con_of (show prog 120 = some c120 from rfl) rfl rfl fun n hn => ?_
 rcases hp.it with ⟨rfl, h0, _⟩ | ⟨r, off, cap, row, rw, e, rfl, hr, hg, hle, hc, _⟩
 ·have : l = [] := List.eq_nil_of_length_eq_zero h0
  subst this
  refine sq ?_
  refine rg fun KF hKF => ?_
  refine mN rfl ?_
  refine WpO.nil (hKF _ _ ?_)
  refine sq ?_
  refine sq ?_
  refine rg fun KF hKF => ?_
  refine mN rfl ?_
  refine Fo.now rfl rfl (by simp only [↓nrmL, nrmZ, Nat.reduceEqDiff, ↓reduceIte, Nat.reduceAdd, Int.reduceBEq, Int.reduceBNe]; rfl) ?_
  refine WpO.nil (hKF _ _ ?_)
  refine Wp.cond (b := true) rfl ?_
  refine sq ?_
  refine rg fun KF hKF => ?_
  refine mN rfl ?_
  refine WpO.nil (hKF _ _ ?_)
  refine Wp.ret ?_
  dsimp only [cond_true, cond_false]
  refine ⟨trivial, _, (by first | rfl | exact getAllC rfl rfl rfl rfl | exact getAllT rfl (getAllC rfl rfl rfl rfl) | exact getAllC rfl rfl rfl (getAllC rfl rfl rfl rfl) | exact getAllC1 rfl rfl rfl), ?_⟩
  exact (show NewBytes H H .nslice [] from ⟨inferInstance, ⟨fun _ _ _ _ _ e => by cases e⟩, ⟨fun _ _ _ _ _ e => by cases e⟩, Ext0.ext⟩)
 ·skip
  refine sq ?_
  refine rg fun KF hKF => ?_
  refine mN rfl ?_
  refine WpO.nil (hKF _ _ ?_)
  refine sq ?_
  refine sq ?_
  refine rg fun KF hKF => ?_
  refine Fo.mov (by simp only [↓nrmL, nrmK, Nat.reduceEqDiff, ↓reduceIte]; rfl) ?_
  refine Fo.now rfl rfl (by simp only [↓nrmL, nrmZ, Nat.reduceEqDiff, ↓reduceIte, Nat.reduceAdd, Int.reduceBEq, Int.reduceBNe]; rfl) ?_
  refine WpO.nil (hKF _ _ ?_)
  refine Wp.cond (b := false) rfl ?_
  refine Wp.skip ?_
  refine sq ?_
  refine rg fun KF hKF => ?_
  refine Fo.bslice rfl rfl ?_
  refine Fo.mov (by simp only [↓nrmL, nrmK, Nat.reduceEqDiff, ↓reduceIte]; rfl) ?_
  refine WpO.do (WpX.appendE rfl (by simp only [↓nrmL, nrmZ, Nat.reduceEqDiff, ↓reduceIte, Nat.reduceAdd, Int.reduceBEq, Int.reduceBNe, List.map] <;> rfl) hl fun v H1 h1 h2 h3 h4 => ?_)
  refine Fo.mov (by simp only [↓nrmL, nrmK, Nat.reduceEqDiff, ↓reduceIte]; rfl) ?_
  refine WpO.nil (hKF _ _ ?_)
  refine Wp.ret ?_
  dsimp only [cond_true, cond_false]
  refine ⟨trivial, _, (by first | rfl | exact getAllC rfl rfl rfl rfl | exact getAllT rfl (getAllC rfl rfl rfl rfl) | exact getAllC rfl rfl rfl (getAllC rfl rfl rfl rfl) | exact getAllC1 rfl rfl rfl), ?_⟩
  refine (show NewBytes H H1 v l from ⟨h1, ⟨fun r' _ _ _ _ e => ?_⟩, h3, Ext0.ext⟩)
  rcases h2 _ _ _ _ _ e with rfl | h5
  ·exact Nat.le_refl _
  ·exact Nat.le_trans (Nat.le_succ _) h5

theorem K_twin {H : AHeap} {a b : Int} {p : AVal} {l : List UInt8} [hp : BytesI H p l] (hl : l.length < 2 ^ 40) : Con ext prog 2 91 [.agg [.int .i64 a, .int .i64 b, p]] H fun v H' => NewInk H H' v ⟨a, b, l⟩ := by
 refine con_of (show prog 91 = some c91 from rfl) rfl rfl fun n hn => ?_
 haveI := hp.one
 refine sq ?_
 refine rg fun KF hKF => ?_
 refine Fo.boxA rfl ?_
 refine Fo.new ?_
 refine WpO.nil (hKF _ _ ?_)
 refine sq ?_
 refine Fr.dregion0 rfl fun KF hKF => ?_
 refine Fe.pure rfl rfl (by simp only [↓nrmL, nrmZ, Nat.reduceEqDiff, ↓reduceIte, Nat.reduceAdd, Int.reduceBEq, Int.reduceBNe]; rfl) ?_
 refine Fe.read rfl (exec_ld rfl rfl) rfl (by repeat (first | exact trivial | refine ⟨(by first | exact Or.inl (by dsimp only; decide) | exact Or.inr (exec_ld rfl rfl) | exact Or.inr (exec_ldN rfl rfl rfl) | exact Or.inr (exec_ldB rfl (by omega)) | exact Or.inr (exec_ldI rfl (by omega)) | exact Or.inr ghost_of), ?_⟩)) ?_
 refine Fe.pure rfl rfl (by simp only [↓nrmL, nrmZ, Nat.reduceEqDiff, ↓reduceIte, Nat.reduceAdd, Int.reduceBEq, Int.reduceBNe]; rfl) ?_
 refine Fe.read rfl (exec_ld rfl rfl) rfl (by repeat (first | exact trivial | refine ⟨(by first | exact Or.inl (by dsimp only; decide) | exact Or.inr (exec_ld rfl rfl) | exact Or.inr (exec_ldN rfl rfl rfl) | exact Or.inr (exec_ldB rfl (by omega)) | exact Or.inr (exec_ldI rfl (by omega)) | exact Or.inr ghost_of), ?_⟩)) ?_
 refine Fe.pure rfl rfl (by simp only [↓nrmL, nrmZ, Nat.reduceEqDiff, ↓reduceIte, Nat.reduceAdd, Int.reduceBEq, Int.reduceBNe]; rfl) ?_
 refine Fe.read rfl (exec_ld rfl rfl) rfl (by repeat (first | exact trivial | refine ⟨(by first | exact Or.inl (by dsimp only; decide) | exact Or.inr (exec_ld rfl rfl) | exact Or.inr (exec_ldN rfl rfl rfl) | exact Or.inr (exec_ldB rfl (by omega)) | exact Or.inr (exec_ldI rfl (by omega)) | exact Or.inr ghost_of), ?_⟩)) ?_
 refine Fe.con rfl hn rfl rfl (by simp only [↓nrmL, nrmZ, Nat.reduceEqDiff, ↓reduceIte, Nat.reduceAdd, Int.reduceBEq, Int.reduceBNe, List.map] <;> rfl) (K_Clone hl) fun v H1 ⟨h1, h2, h3, h4⟩ => ?_
 haveI : ExtI _ H1 := ⟨h4⟩
 haveI := h1.one
 refine ⟨(by repeat (first | exact trivial | refine ⟨(by first | exact Or.inl (by dsimp only; decide) | exact Or.inr (readOk_of (exec_ld rfl rfl)) | exact Or.inr (readOk_of (exec_ldN rfl rfl rfl)) | exact Or.inr (readOk_of (exec_ldB rfl (by omega))) | exact Or.inr (readOk_of (exec_ldI rfl (by omega))) | exact Or.inr (made_of rfl)), ?_⟩)), ?_⟩
 refine Fe.pure rfl (exec_build (by repeat (first | refine aFill1 (by (try simp only [↓nrmL, nrmZ, Nat.reduceEqDiff, ↓reduceIte, Nat.reduceAdd, Int.reduceBEq, Int.reduceBNe]); rfl) rfl ?_ | rfl))) (by simp only [↓nrmL, nrmZ, Nat.reduceEqDiff, ↓reduceIte, Nat.reduceAdd, Int.reduceBEq, Int.reduceBNe]; rfl) ?_
 refine Fe.effect0 rfl (exec_st rfl (by (try simp only [↓nrmL, nrmZ, Nat.reduceEqDiff, ↓reduceIte, Nat.reduceAdd, Int.reduceBEq, Int.reduceBNe]); rfl) rfl rfl rfl (by repeat (first | rfl | refine allOne_cons ?_)) (by (try simp only [↓nrmL, nrmZ, Nat.reduceEqDiff, ↓reduceIte, Nat.reduceAdd, Int.reduceBEq, Int.reduceBNe]); rfl)) (by repeat (first | exact trivial | refine ⟨(by first | exact Or.inl (by dsimp only; decide) | exact Or.inr (readOk_of (exec_ld rfl rfl)) | exact Or.inr (readOk_of (exec_ldN rfl rfl rfl)) | exact Or.inr (readOk_of (exec_ldB rfl (by omega))) | exact Or.inr (readOk_of (exec_ldI rfl (by omega))) | exact Or.inr (made_of rfl)), ?_⟩)) ?_
 refine WpE.nil (hKF _ _ ?_)
 refine Wp.ret ?_
 dsimp only [cond_true, cond_false]
 refine ⟨trivial, _, (by first | rfl | exact getAllC rfl rfl rfl rfl | exact getAllT rfl (getAllC rfl rfl rfl rfl) | exact getAllC rfl rfl rfl (getAllC rfl rfl rfl rfl) | exact getAllC1 rfl rfl rfl), ?_⟩
 exact ⟨v, rfl, inferInstance, h2.weak, inferInstance, Ext0.ext⟩
theorem K_CopyInk {H : AHeap} {a b : Int} {p : AVal} {l : List UInt8} [hp : BytesI H p l] (hl : l.length < 2 ^ 40) : Con ext prog 2 16 [.agg [.int .i64 a, .int .i64 b, p]] H fun v H' => NewInk H H' v ⟨a, b, l⟩ := by
 refine con_of (show prog 16 = some c16 from rfl) rfl rfl fun n hn => ?_
 haveI := hp.one
 refine sq ?_
 refine rg fun KF hKF => ?_
 refine Fo.boxA rfl ?_
 refine Fo.new ?_
 refine WpO.nil (hKF _ _ ?_)
 refine sq ?_
 refine Fr.dregion0 rfl fun KF hKF => ?_
 refine Fe.pure rfl rfl (by simp only [↓nrmL, nrmZ, Nat.reduceEqDiff, ↓reduceIte, Nat.reduceAdd, Int.reduceBEq, Int.reduceBNe]; rfl) ?_
 refine Fe.read rfl (exec_ld rfl rfl) rfl (by repeat (first | exact trivial | refine ⟨(by first | exact Or.inl (by dsimp only; decide) | exact Or.inr (exec_ld rfl rfl) | exact Or.inr (exec_ldN rfl rfl rfl) | exact Or.inr (exec_ldB rfl (by omega)) | exact Or.inr (exec_ldI rfl (by omega)) | exact Or.inr ghost_of), ?_⟩)) ?_
 refine Fe.pure rfl rfl (by simp only [↓nrmL, nrmZ, Nat.reduceEqDiff, ↓reduceIte, Nat.reduceAdd, Int.reduceBEq, Int.reduceBNe]; rfl) ?_
 refine Fe.read rfl (exec_ld rfl rfl) rfl (by repeat (first | exact trivial | refine ⟨(by first | exact Or.inl (by dsimp only; decide) | exact Or.inr (exec_ld rfl rfl) | exact Or.inr (exec_ldN rfl rfl rfl) | exact Or.inr (exec_ldB rfl (by omega)) | exact Or.inr (exec_ldI rfl (by omega)) | exact Or.inr ghost_of), ?_⟩)) ?_
 refine Fe.pure rfl rfl (by simp only [↓nrmL, nrmZ, Nat.reduceEqDiff, ↓reduceIte, Nat.reduceAdd, Int.reduceBEq, Int.reduceBNe]; rfl) ?_
 refine Fe.read rfl (exec_ld rfl rfl) rfl (by repeat (first | exact trivial | refine ⟨(by first | exact Or.inl (by dsimp only; decide) | exact Or.inr (exec_ld rfl rfl) | exact Or.inr (exec_ldN rfl rfl rfl) | exact Or.inr (exec_ldB rfl (by omega)) | exact Or.inr (exec_ldI rfl (by omega)) | exact Or.inr ghost_of), ?_⟩)) ?_
 refine Fe.con rfl hn rfl rfl (by simp only [↓nrmL, nrmZ, Nat.reduceEqDiff, ↓reduceIte, Nat.reduceAdd, Int.reduceBEq, Int.reduceBNe, List.map] <;> rfl) (K_CopyBytes hl) fun v H1 ⟨h1, h2, h3, h4⟩ => ?_
 haveI : ExtI _ H1 := ⟨h4⟩
 haveI := h1.one
 refine ⟨(by repeat (first | exact trivial | refine ⟨(by first | exact Or.inl (by dsimp only; decide) | exact Or.inr (readOk_of (exec_ld rfl rfl)) | exact Or.inr (readOk_of (exec_ldN rfl rfl rfl)) | exact Or.inr (readOk_of (exec_ldB rfl (by omega))) | exact Or.inr (readOk_of (exec_ldI rfl (by omega))) | exact Or.inr (made_of rfl)), ?_⟩)), ?_⟩
 refine Fe.pure rfl (exec_build (by repeat (first | refine aFill1 (by (try simp only [↓nrmL, nrmZ, Nat.reduceEqDiff, ↓reduceIte, Nat.reduceAdd, Int.reduceBEq, Int.reduceBNe]); rfl) rfl ?_ | rfl))) (by simp only [↓nrmL, nrmZ, Nat.reduceEqDiff, ↓reduceIte, Nat.reduceAdd, Int.reduceBEq, Int.reduceBNe]; rfl) ?_
 refine Fe.effect0 rfl (exec_st rfl (by (try simp only [↓nrmL, nrmZ, Nat.reduceEqDiff, ↓reduceIte, Nat.reduceAdd, Int.reduceBEq, Int.reduceBNe]); rfl) rfl rfl rfl (by repeat (first | rfl | refine allOne_cons ?_)) (by (try simp only [↓nrmL, nrmZ, Nat.reduceEqDiff, ↓reduceIte, Nat.reduceAdd, Int.reduceBEq, Int.reduceBNe]); rfl)) (by repeat (first | exact trivial | refine ⟨(by first | exact Or.inl (by dsimp only; decide) | exact Or.inr (readOk_of (exec_ld rfl rfl)) | exact Or.inr (readOk_of (exec_ldN rfl rfl rfl)) | exact Or.inr (readOk_of (exec_ldB rfl (by omega))) | exact Or.inr (readOk_of (exec_ldI rfl (by omega))) | exact Or.inr (made_of rfl)), ?_⟩)) ?_
 refine WpE.nil (hKF _ _ ?_)
 refine Wp.ret ?_
 dsimp only [cond_true, cond_false]
 refine ⟨trivial, _, (by first | rfl | exact getAllC rfl rfl rfl rfl | exact getAllT rfl (getAllC rfl rfl rfl rfl) | exact getAllC rfl rfl rfl (getAllC rfl rfl rfl rfl) | exact getAllC1 rfl rfl rfl), ?_⟩
 exact ⟨v, rfl, inferInstance, h2.weak, inferInstance, Ext0.ext⟩

/-- The amount of ink, or the error. -/
instance K_Count {p : AVal} {H : AHeap} {w h : Int} {l : List UInt8} [hp : BytesI H p l] : PureCon ext prog 18 [.agg [.int .i64 w, .int .i64 h, p]] H 4 (.tuple [.int .i64 (bif (Img.err ⟨w, h, l⟩ == 0) then (l.count 1 : Nat) else 0), .int .i64 (Img.err ⟨w, h, l⟩)]) := ⟨by
 refine con_of (show prog 18 = some c18 from rfl) rfl rfl fun n hn => ?_
 haveI := hp.one
 generalize he : Img.err ⟨w, h, l⟩ = e
 cases h0 : (e == 0)
 ·skip
  try simp only [↓nrmL, nrmZ, Nat.reduceEqDiff, ↓reduceIte, Nat.reduceAdd, Int.reduceBEq, Int.reduceBNe, h0, he, bne]
  refine sq ?_
  refine rg fun KF hKF => ?_
  refine Fo.boxA rfl ?_
  refine mI rfl ?_
  refine mI rfl ?_
  refine WpO.nil (hKF _ _ ?_)
  refine sq ?_
  refine sq ?_
  refine rg fun KF hKF => ?_
  refine Fo.ldN rfl rfl (by simp only [↓nrmL, nrmZ, Nat.reduceEqDiff, ↓reduceIte, Nat.reduceAdd, Int.reduceBEq, Int.reduceBNe, h0, he, bne]; rfl) ?_
  refine Fo.pcall (v' := ?_) hn rfl (by simp only [↓nrmL, nrmZ, Nat.reduceEqDiff, ↓reduceIte, Nat.reduceAdd, Int.reduceBEq, Int.reduceBNe, h0, he, bne, List.map]; rfl) rfl ?hv fun _ _ => ?_; case hv => (simp only [↓nrmL, nrmZ, Nat.reduceEqDiff, ↓reduceIte, Nat.reduceAdd, Int.reduceBEq, Int.reduceBNe, h0, he, bne]; rfl)
  refine mI rfl ?_
  refine WpO.nil (hKF _ _ ?_)
  refine sq ?_
  refine rg fun KF hKF => ?_
  refine mI rfl ?_
  refine Fo.bin rfl rfl rfl (by simp only [↓nrmL, nrmZ, Nat.reduceEqDiff, ↓reduceIte, Nat.reduceAdd, Int.reduceBEq, Int.reduceBNe, h0, he, bne]; rfl) ?_
  refine WpO.nil (hKF _ _ ?_)
  refine Wp.cond (b := true) rfl ?_
  refine sq ?_
  refine rg fun KF hKF => ?_
  refine mI rfl ?_
  refine mI rfl ?_
  refine mI rfl ?_
  refine WpO.nil (hKF _ _ ?_)
  refine Wp.ret ?_
  dsimp only [cond_true, cond_false]
  refine ⟨trivial, _, (by first | rfl | exact getAllC rfl rfl rfl rfl | exact getAllT rfl (getAllC rfl rfl rfl rfl) | exact getAllC rfl rfl rfl (getAllC rfl rfl rfl rfl) | exact getAllC1 rfl rfl rfl), ?_⟩
  exact ⟨rfl, Ext0.ext⟩
 ·have : e = 0 := by simpa using h0
  subst this
  try simp only [↓nrmL, nrmZ, Nat.reduceEqDiff, ↓reduceIte, Nat.reduceAdd, Int.reduceBEq, Int.reduceBNe, h0, he, bne]
  refine sq ?_
  refine rg fun KF hKF => ?_
  refine Fo.boxA rfl ?_
  refine mI rfl ?_
  refine mI rfl ?_
  refine WpO.nil (hKF _ _ ?_)
  refine sq ?_
  refine sq ?_
  refine rg fun KF hKF => ?_
  refine Fo.ldN rfl rfl (by simp only [↓nrmL, nrmZ, Nat.reduceEqDiff, ↓reduceIte, Nat.reduceAdd, Int.reduceBEq, Int.reduceBNe, h0, he, bne]; rfl) ?_
  refine Fo.pcall (v' := ?_) hn rfl (by simp only [↓nrmL, nrmZ, Nat.reduceEqDiff, ↓reduceIte, Nat.reduceAdd, Int.reduceBEq, Int.reduceBNe, h0, he, bne, List.map]; rfl) rfl ?hv fun _ _ => ?_; case hv => (simp only [↓nrmL, nrmZ, Nat.reduceEqDiff, ↓reduceIte, Nat.reduceAdd, Int.reduceBEq, Int.reduceBNe, h0, he, bne]; rfl)
  refine mI rfl ?_
  refine WpO.nil (hKF _ _ ?_)
  refine sq ?_
  refine rg fun KF hKF => ?_
  refine mI rfl ?_
  refine Fo.bin rfl rfl rfl (by simp only [↓nrmL, nrmZ, Nat.reduceEqDiff, ↓reduceIte, Nat.reduceAdd, Int.reduceBEq, Int.reduceBNe, h0, he, bne]; rfl) ?_
  refine WpO.nil (hKF _ _ ?_)
  refine Wp.cond (b := false) rfl ?_
  refine Wp.skip ?_
  refine sq ?_
  refine rg fun KF hKF => ?_
  refine Fo.ldN rfl rfl (by simp only [↓nrmL, nrmZ, Nat.reduceEqDiff, ↓reduceIte, Nat.reduceAdd, Int.reduceBEq, Int.reduceBNe, h0, he, bne]; rfl) ?_
  refine Fo.pcall (v' := ?_) hn rfl (by simp only [↓nrmL, nrmZ, Nat.reduceEqDiff, ↓reduceIte, Nat.reduceAdd, Int.reduceBEq, Int.reduceBNe, h0, he, bne, List.map]; rfl) rfl ?hv fun _ _ => ?_; case hv => rfl
  refine mI rfl ?_
  refine mI rfl ?_
  refine WpO.nil (hKF _ _ ?_)
  refine Wp.ret ?_
  dsimp only [cond_true, cond_false]
  refine ⟨trivial, _, (by first | rfl | exact getAllC rfl rfl rfl rfl | exact getAllT rfl (getAllC rfl rfl rfl rfl) | exact getAllC rfl rfl rfl (getAllC rfl rfl rfl rfl) | exact getAllC1 rfl rfl rfl), ?_⟩
  exact ⟨rfl, Ext0.ext⟩⟩
theorem K_New {w h : Int} {H : AHeap} : Con ext prog 3 21 [.int .i64 w, .int .i64 h] H fun v H' => InkRes H H' v (bif sideB w && sideB h then (⟨w, h, List.replicate (w.toNat * h.toNat) 0⟩, 0) else (.zero, 2)) := by
 refine con_of (show prog 21 = some c21 from rfl) rfl rfl fun n hn => ?_
 cases h1 : sideB w
 ·skip
  try simp only [↓nrmL, nrmZ, Nat.reduceEqDiff, ↓reduceIte, Nat.reduceAdd, Int.reduceBEq, Int.reduceBNe, h1, Bool.false_and, cond_false]
  refine sq ?_
  refine rg fun KF hKF => ?_
  refine Fo.new ?_
  refine mI rfl ?_
  refine WpO.nil (hKF _ _ ?_)
  refine sq ?_
  refine sq ?_
  refine rg fun KF hKF => ?_
  refine mI rfl ?_
  refine Fo.pcall (v' := ?_) hn rfl (by simp only [↓nrmL, nrmZ, Nat.reduceEqDiff, ↓reduceIte, Nat.reduceAdd, Int.reduceBEq, Int.reduceBNe, h1, Bool.false_and, cond_false, List.map]; rfl) rfl ?hv fun _ _ => ?_; case hv => (simp only [↓nrmL, nrmZ, Nat.reduceEqDiff, ↓reduceIte, Nat.reduceAdd, Int.reduceBEq, Int.reduceBNe, h1, Bool.false_and, cond_false]; rfl)
  refine Fo.now rfl rfl (by simp only [↓nrmL, nrmZ, Nat.reduceEqDiff, ↓reduceIte, Nat.reduceAdd, Int.reduceBEq, Int.reduceBNe, h1, Bool.false_and, cond_false]; rfl) ?_
  refine mB rfl ?_
  refine Fo.no rfl rfl ?_
  refine Fo.no rfl rfl ?_
  refine Fo.no rfl rfl ?_
  refine tB rfl rfl ?_
  refine WpO.nil (hKF _ _ ?_)
  refine Wp.cond (b := true) rfl ?_
  refine sq ?_
  refine rg fun KF hKF => ?_
  refine Fo.build (by repeat (first | refine aFill1 (by first | exact (rfl : _ = AVal.int _ _) | exact (rfl : _ = AVal.ptr _ _) | exact (rfl : _ = AVal.bool _) | exact (rfl : _ = AVal.agg _) | exact (rfl : _ = AVal.tuple _) | exact (rfl : _ = AVal.func _ _ _) | exact (rfl : _ = AVal.nslice) | ((try simp only [↓nrmL, nrmK, Nat.reduceEqDiff, ↓reduceIte]); rfl)) rfl ?_ | rfl)) rfl ?_
  refine Fo.st rfl (rfl : _ = AVal.agg _) rfl rfl rfl (by repeat (first | rfl | refine allOne_cons ?_)) (by simp only [↓nrmL, nrmZ, Nat.reduceEqDiff, ↓reduceIte, Nat.reduceAdd, Int.reduceBEq, Int.reduceBNe, h1, Bool.false_and, cond_false]; rfl) ?_
  refine mI rfl ?_
  refine WpO.nil (hKF _ _ ?_)
  refine Wp.ret ?_
  dsimp only [cond_true, cond_false]
  refine ⟨trivial, _, (by first | rfl | exact getAllC rfl rfl rfl rfl | exact getAllT rfl (getAllC rfl rfl rfl rfl) | exact getAllC rfl rfl rfl (getAllC rfl rfl rfl rfl) | exact getAllC1 rfl rfl rfl), ?_⟩
  exact ⟨_, rfl, newZero⟩
 cases h2 : sideB h
 ·skip
  try simp only [↓nrmL, nrmZ, Nat.reduceEqDiff, ↓reduceIte, Nat.reduceAdd, Int.reduceBEq, Int.reduceBNe, h1, h2, Bool.false_and, Bool.and_false, cond_false]
  refine sq ?_
  refine rg fun KF hKF => ?_
  refine Fo.new ?_
  refine mI rfl ?_
  refine WpO.nil (hKF _ _ ?_)
  refine sq ?_
  refine sq ?_
  refine rg fun KF hKF => ?_
  refine mI rfl ?_
  refine Fo.pcall (v' := ?_) hn rfl (by simp only [↓nrmL, nrmZ, Nat.reduceEqDiff, ↓reduceIte, Nat.reduceAdd, Int.reduceBEq, Int.reduceBNe, h1, h2, Bool.false_and, Bool.and_false, cond_false, List.map]; rfl) rfl ?hv fun _ _ => ?_; case hv => (simp only [↓nrmL, nrmZ, Nat.reduceEqDiff, ↓reduceIte, Nat.reduceAdd, Int.reduceBEq, Int.reduceBNe, h1, h2, Bool.false_and, Bool.and_false, cond_false]; rfl)
  refine Fo.now rfl rfl (by simp only [↓nrmL, nrmZ, Nat.reduceEqDiff, ↓reduceIte, Nat.reduceAdd, Int.reduceBEq, Int.reduceBNe, h1, h2, Bool.false_and, Bool.and_false, cond_false]; rfl) ?_
  refine mB rfl ?_
  refine Fo.yes rfl rfl ?_
  refine mI rfl ?_
  refine Fo.yes rfl rfl ?_
  refine Fo.pcall (v' := ?_) hn rfl (by simp only [↓nrmL, nrmZ, Nat.reduceEqDiff, ↓reduceIte, Nat.reduceAdd, Int.reduceBEq, Int.reduceBNe, h1, h2, Bool.false_and, Bool.and_false, cond_false, List.map]; rfl) rfl ?hv fun _ _ => ?_; case hv => (simp only [↓nrmL, nrmZ, Nat.reduceEqDiff, ↓reduceIte, Nat.reduceAdd, Int.reduceBEq, Int.reduceBNe, h1, h2, Bool.false_and, Bool.and_false, cond_false]; rfl)
  refine Fo.yes rfl rfl ?_
  refine Fo.now rfl rfl (by simp only [↓nrmL, nrmZ, Nat.reduceEqDiff, ↓reduceIte, Nat.reduceAdd, Int.reduceBEq, Int.reduceBNe, h1, h2, Bool.false_and, Bool.and_false, cond_false]; rfl) ?_
  refine fB rfl rfl ?_
  refine WpO.nil (hKF _ _ ?_)
  refine Wp.cond (b := true) rfl ?_
  refine sq ?_
  refine rg fun KF hKF => ?_
  refine Fo.build (by repeat (first | refine aFill1 (by first | exact (rfl : _ = AVal.int _ _) | exact (rfl : _ = AVal.ptr _ _) | exact (rfl : _ = AVal.bool _) | exact (rfl : _ = AVal.agg _) | exact (rfl : _ = AVal.tuple _) | exact (rfl : _ = AVal.func _ _ _) | exact (rfl : _ = AVal.nslice) | ((try simp only [↓nrmL, nrmK, Nat.reduceEqDiff, ↓reduceIte]); rfl)) rfl ?_ | rfl)) rfl ?_
  refine Fo.st rfl (rfl : _ = AVal.agg _) rfl rfl rfl (by repeat (first | rfl | refine allOne_cons ?_)) (by simp only [↓nrmL, nrmZ, Nat.reduceEqDiff, ↓reduceIte, Nat.reduceAdd, Int.reduceBEq, Int.reduceBNe, h1, h2, Bool.false_and, Bool.and_false, cond_false]; rfl) ?_
  refine mI rfl ?_
  refine WpO.nil (hKF _ _ ?_)
  refine Wp.ret ?_
  dsimp only [cond_true, cond_false]
  refine ⟨trivial, _, (by first | rfl | exact getAllC rfl rfl rfl rfl | exact getAllT rfl (getAllC rfl rfl rfl rfl) | exact getAllC rfl rfl rfl (getAllC rfl rfl rfl rfl) | exact getAllC1 rfl rfl rfl), ?_⟩
  exact ⟨_, rfl, newZero⟩
 ·have hw : 0 ≤ w ∧ w ≤ 640 := by simpa [sideB] using h1
  have hh : 0 ≤ h ∧ h ≤ 640 := by simpa [sideB] using h2
  obtain ⟨a, rfl⟩ : ∃ a : Nat, w = a := ⟨w.toNat, by omega⟩
  obtain ⟨b, rfl⟩ : ∃ b : Nat, h = b := ⟨h.toNat, by omega⟩
  try simp only [↓nrmL, nrmZ, Nat.reduceEqDiff, ↓reduceIte, Nat.reduceAdd, Int.reduceBEq, Int.reduceBNe, h1, h2]
  refine sq ?_
  refine rg fun KF hKF => ?_
  refine Fo.new ?_
  refine mI rfl ?_
  refine WpO.nil (hKF _ _ ?_)
  refine sq ?_
  refine sq ?_
  refine rg fun KF hKF => ?_
  refine mI rfl ?_
  refine Fo.pcall (v' := ?_) hn rfl (by simp only [↓nrmL, nrmZ, Nat.reduceEqDiff, ↓reduceIte, Nat.reduceAdd, Int.reduceBEq, Int.reduceBNe, h1, h2, List.map]; rfl) rfl ?hv fun _ _ => ?_; case hv => (simp only [↓nrmL, nrmZ, Nat.reduceEqDiff, ↓reduceIte, Nat.reduceAdd, Int.reduceBEq, Int.reduceBNe, h1, h2]; rfl)
  refine Fo.now rfl rfl (by simp only [↓nrmL, nrmZ, Nat.reduceEqDiff, ↓reduceIte, Nat.reduceAdd, Int.reduceBEq, Int.reduceBNe, h1, h2]; rfl) ?_
  refine mB rfl ?_
  refine Fo.yes rfl rfl ?_
  refine mI rfl ?_
  refine Fo.yes rfl rfl ?_
  refine Fo.pcall (v' := ?_) hn rfl (by simp only [↓nrmL, nrmZ, Nat.reduceEqDiff, ↓reduceIte, Nat.reduceAdd, Int.reduceBEq, Int.reduceBNe, h1, h2, List.map]; rfl) rfl ?hv fun _ _ => ?_; case hv => (simp only [↓nrmL, nrmZ, Nat.reduceEqDiff, ↓reduceIte, Nat.reduceAdd, Int.reduceBEq, Int.reduceBNe, h1, h2]; rfl)
  refine Fo.yes rfl rfl ?_
  refine Fo.now rfl rfl (by simp only [↓nrmL, nrmZ, Nat.reduceEqDiff, ↓reduceIte, Nat.reduceAdd, Int.reduceBEq, Int.reduceBNe, h1, h2]; rfl) ?_
  refine fB rfl rfl ?_
  refine WpO.nil (hKF _ _ ?_)
  refine Wp.cond (b := false) rfl ?_
  refine Wp.skip ?_
  refine sq ?_
  refine rg fun KF hKF => ?_
  refine mI rfl ?_
  refine mI rfl ?_
  refine WpO.do (WpX.conD hn rfl rfl (by simp only [↓nrmL, nrmZ, Nat.reduceEqDiff, ↓reduceIte, Nat.reduceAdd, Int.reduceBEq, Int.reduceBNe, List.map] <;> rfl) (K_blank (w := a) (h := b) (by omega) (by omega)) fun v H1 h5 => ?_)
  obtain ⟨q, e2, hq, hf, hw3, hx⟩ := h5
  subst e2
  haveI : ExtI _ H1 := ⟨hx⟩
  haveI := hq.one
  refine Fo.st rfl (rfl : _ = AVal.agg _) rfl rfl rfl (by repeat (first | rfl | refine allOne_cons ?_)) (by simp only [↓nrmL, nrmZ, Nat.reduceEqDiff, ↓reduceIte, Nat.reduceAdd, Int.reduceBEq, Int.reduceBNe]; rfl) ?_
  refine mI rfl ?_
  refine WpO.nil (hKF _ _ ?_)
  refine Wp.ret ?_
  dsimp only [cond_true, cond_false]
  refine ⟨trivial, _, (by first | rfl | exact getAllC rfl rfl rfl rfl | exact getAllT rfl (getAllC rfl rfl rfl rfl) | exact getAllC rfl rfl rfl (getAllC rfl rfl rfl rfl) | exact getAllC1 rfl rfl rfl), ?_⟩
  exact ⟨_, rfl, q, rfl, inferInstance, hf.weak, inferInstance, Ext0.ext⟩
end Go.Am

set_option linter.unusedSimpArgs false
set_option linter.unusedVariables false
set_option maxHeartbeats 4000000
set_option maxRecDepth 100000
namespace Go.Am
open Go
attribute [local irreducible] Wp WpO WpX WpE

/-- Ink and paper exchanged in place. -/
theorem K_invert {p : AVal} {H : AHeap} {w h : Int} {l : List UInt8} [hp : BytesI H p l] [hw : WrS H p] (hl : l.length ≤ 999999) : Con ext prog 1 92 [.agg [.int .i64 w, .int .i64 h, p]] H fun v H' => BytesI H' p (l.map (· ^^^ 1)) ∧ WrS H' p ∧ ExtP H H' p := by
 refine con_of (show prog 92 = some c92 from rfl) rfl rfl fun n hn => ?_
 haveI := hp.one
 refine sq ?_
 refine rg fun KF hKF => ?_
 refine Fo.boxA rfl ?_
 refine WpO.nil (hKF _ _ ?_)
 refine sq ?_
 refine rg fun KF hKF => ?_
 refine Fo.fa rfl ?_
 refine Fo.ld rfl rfl ?_
 refine Fo.len (v := ?_) (by simp only [↓nrmL, nrmK, Nat.reduceEqDiff, ↓reduceIte]; rfl) ?hv ?_; case hv => rfl
 refine mI rfl ?_
 refine WpO.nil (hKF _ _ ?_)
 refine Wp.block ?_
 dsimp only [cond_true, cond_false]
 refine Wp.loopS [2, 6, 7, 8, 9, 10, 11, 12, 13, 14, 15, 16] (fun i : Nat => [(6, .int .i64 i)]) (fun H3 i H2 => i ≤ l.length ∧ BytesI H2 p (partMap (· ^^^ 1) i l) ∧ WrS H2 p ∧ ExtP0 H3 H2 p) (fun i => l.length - i) 0 rfl (fun _ => rfl) ⟨rfl, trivial⟩ ⟨Nat.zero_le _, by rw [partMap_zero]; infer_instance, inferInstance, inferInstance⟩ (by unfold fuel0 at hn; omega) ?_
 rintro i g H2 ⟨hi, hb2, hw2, ⟨hx2⟩⟩
 simp only [↓nrmL, nrmZ, Nat.reduceEqDiff, ↓reduceIte, Nat.reduceAdd, Int.reduceBEq, Int.reduceBNe]
 cases hc : decide ((i : Int) < (l.length : Int))
 ·have hil : i = l.length := by have := of_decide_eq_false hc; omega
  subst hil
  rw [partMap_all] at hb2
  try simp only [↓nrmL, nrmZ, Nat.reduceEqDiff, ↓reduceIte, Nat.reduceAdd, Int.reduceBEq, Int.reduceBNe, hc]
  refine sq ?_
  refine rg fun KF hKF => ?_
  refine Fo.bin rfl rfl rfl (by simp only [↓nrmL, nrmZ, Nat.reduceEqDiff, ↓reduceIte, Nat.reduceAdd, Int.reduceBEq, Int.reduceBNe, hc]; rfl) ?_
  refine WpO.nil (hKF _ _ ?_)
  refine sq ?_
  refine Wp.cond (b := false) rfl ?_
  refine Wp.exit ?_
  dsimp only [cond_true, cond_false]
  exact ⟨trivial, _, rfl, hb2, hw2, (inferInstance : ExtP0 H H2 p).ext⟩
 ·have hil : i < l.length := by have := of_decide_eq_true hc; omega
  have hfl := partMap_length (· ^^^ 1) i l
  have hget := partMap_get (· ^^^ 1) hil
  have hw1 := wa1 (a := i) (by omega)
  have hb := bits_xor l[i] 1
  try simp only [↓nrmL, nrmZ, Nat.reduceEqDiff, ↓reduceIte, Nat.reduceAdd, Int.reduceBEq, Int.reduceBNe, hc, hget]
  refine sq ?_
  refine rg fun KF hKF => ?_
  refine Fo.bin rfl rfl rfl (by simp only [↓nrmL, nrmZ, Nat.reduceEqDiff, ↓reduceIte, Nat.reduceAdd, Int.reduceBEq, Int.reduceBNe, hc, hget]; rfl) ?_
  refine WpO.nil (hKF _ _ ?_)
  refine sq ?_
  refine Wp.cond (b := true) rfl ?_
  refine Wp.skip ?_
  refine sq ?_
  refine Wp.block ?_
  refine sq ?_
  refine rg fun KF hKF => ?_
  refine mI rfl ?_
  refine mI rfl ?_
  refine WpO.nil (hKF _ _ ?_)
  refine rg fun KF hKF => ?_
  refine Fo.fa rfl ?_
  refine Fo.ld rfl rfl ?_
  refine mI rfl ?_
  refine Fo.idx (by simp only [↓nrmL, nrmK, Nat.reduceEqDiff, ↓reduceIte]; rfl) rfl ?_ (by simp only [↓nrmL, nrmZ, Nat.reduceEqDiff, ↓reduceIte, Nat.reduceAdd, Int.reduceBEq, Int.reduceBNe, hc, hget]; rfl) ?_; (focus omega)
  refine Fo.ldB rfl ?_ (by simp only [↓nrmL, nrmZ, Nat.reduceEqDiff, ↓reduceIte, Nat.reduceAdd, Int.reduceBEq, Int.reduceBNe, hc, hget]; rfl) ?_; (focus omega)
  refine Fo.bin rfl rfl rfl rfl ?_
  refine Fo.idx (by simp only [↓nrmL, nrmK, Nat.reduceEqDiff, ↓reduceIte]; rfl) rfl ?_ (by simp only [↓nrmL, nrmZ, Nat.reduceEqDiff, ↓reduceIte, Nat.reduceAdd, Int.reduceBEq, Int.reduceBNe, hc, hget]; rfl) ?_; (focus omega)
  refine WpO.do' (WpX.stB (l[i] ^^^ 1) rfl rfl hb (by rw [hfl]; exact hil) fun H4 hb4 hw4 hx4 => ?_)
  refine WpO.nil (hKF _ _ ?_)
  refine rg fun KF hKF => ?_
  refine Fo.bin rfl rfl rfl rfl ?_
  refine mI rfl ?_
  refine WpO.nil (hKF _ _ ?_)
  dsimp only [cond_true, cond_false]
  refine ⟨i + 1, by omega, ⟨by simp only [↓nrmL, nrmZ, Nat.reduceEqDiff, ↓reduceIte, Nat.reduceAdd, Int.reduceBEq, Int.reduceBNe]; rw [hw1], trivial⟩, hil, by rw [← partMap_succ _ hil]; infer_instance, inferInstance, inferInstance⟩

theorem Img.ok {g : Img} (h : (g.err == 0) = true) : g.sized = true ∧ pxOk g.px = true := by
 unfold Img.err at h
 cases h1 : g.sized
 ·rw [h1] at h; cases h
 ·cases h2 : pxOk g.px
  ·rw [h1, h2] at h; cases h
  ·exact ⟨rfl, rfl⟩

def notSpec (g : Img) : Img × Int := bif g.err == 0 then (⟨g.w, g.h, g.px.map (· ^^^ 1)⟩, 0) else (.zero, g.err)
theorem K_Not {p : AVal} {H : AHeap} {w h : Int} {l : List UInt8} [hp : BytesI H p l] : Con ext prog 4 19 [.agg [.int .i64 w, .int .i64 h, p]] H fun v H' => InkRes H H' v (notSpec ⟨w, h, l⟩) := by
 refine con_of (show prog 19 = some c19 from rfl) rfl rfl fun n hn => ?_
 haveI := hp.one
 cases h0 : (Img.err ⟨w, h, l⟩ == 0)
 ·have e1 : notSpec ⟨w, h, l⟩ = (.zero, Img.err ⟨w, h, l⟩) := by simp [notSpec, h0]
  rw [e1]
  try simp only [↓nrmL, nrmZ, Nat.reduceEqDiff, ↓reduceIte, Nat.reduceAdd, Int.reduceBEq, Int.reduceBNe, h0, bne]
  refine sq ?_
  refine rg fun KF hKF => ?_
  refine Fo.boxA rfl ?_
  refine Fo.new ?_
  refine mI rfl ?_
  refine WpO.nil (hKF _ _ ?_)
  refine sq ?_
  refine sq ?_
  refine rg fun KF hKF => ?_
  refine Fo.ldN rfl rfl (by simp only [↓nrmL, nrmZ, Nat.reduceEqDiff, ↓reduceIte, Nat.reduceAdd, Int.reduceBEq, Int.reduceBNe, h0, bne]; rfl) ?_
  refine Fo.pcall (v' := ?_) hn rfl (by simp only [↓nrmL, nrmZ, Nat.reduceEqDiff, ↓reduceIte, Nat.reduceAdd, Int.reduceBEq, Int.reduceBNe, h0, bne, List.map]; rfl) rfl ?hv fun _ _ => ?_; case hv => rfl
  refine mI rfl ?_
  refine WpO.nil (hKF _ _ ?_)
  refine sq ?_
  refine rg fun KF hKF => ?_
  refine mI rfl ?_
  refine Fo.bin rfl rfl rfl (by simp only [↓nrmL, nrmZ, Nat.reduceEqDiff, ↓reduceIte, Nat.reduceAdd, Int.reduceBEq, Int.reduceBNe, h0, bne]; rfl) ?_
  refine WpO.nil (hKF _ _ ?_)
  refine Wp.cond (b := true) rfl ?_
  refine sq ?_
  refine rg fun KF hKF => ?_
  refine Fo.build (by repeat (first | refine aFill1 (by first | exact (rfl : _ = AVal.int _ _) | exact (rfl : _ = AVal.ptr _ _) | exact (rfl : _ = AVal.bool _) | exact (rfl : _ = AVal.agg _) | exact (rfl : _ = AVal.tuple _) | exact (rfl : _ = AVal.func _ _ _) | exact (rfl : _ = AVal.nslice) | ((try simp only [↓nrmL, nrmK, Nat.reduceEqDiff, ↓reduceIte]); rfl)) rfl ?_ | rfl)) rfl ?_
  refine mI rfl ?_
  refine Fo.st rfl (rfl : _ = AVal.agg _) rfl rfl rfl (by repeat (first | rfl | refine allOne_cons ?_)) (by simp only [↓nrmL, nrmZ, Nat.reduceEqDiff, ↓reduceIte, Nat.reduceAdd, Int.reduceBEq, Int.reduceBNe, h0, bne]; rfl) ?_
  refine mI rfl ?_
  refine WpO.nil (hKF _ _ ?_)
  refine Wp.ret ?_
  dsimp only [cond_true, cond_false]
  refine ⟨trivial, _, (by first | rfl | exact getAllC rfl rfl rfl rfl | exact getAllT rfl (getAllC rfl rfl rfl rfl) | exact getAllC rfl rfl rfl (getAllC rfl rfl rfl rfl) | exact getAllC1 rfl rfl rfl), ?_⟩
  exact ⟨_, rfl, newZero⟩
 ·have e1 : notSpec ⟨w, h, l⟩ = (⟨w, h, l.map (· ^^^ 1)⟩, 0) := by simp [notSpec, h0]
  rw [e1]
  obtain ⟨a, b, _, _, ha, hb, hl⟩ := sized_nat (Img.ok h0).1
  have hm : a * b ≤ 640 * 640 := Nat.mul_le_mul ha hb
  try simp only [↓nrmL, nrmZ, Nat.reduceEqDiff, ↓reduceIte, Nat.reduceAdd, Int.reduceBEq, Int.reduceBNe, h0, bne]
  refine sq ?_
  refine rg fun KF hKF => ?_
  refine Fo.boxA rfl ?_
  refine Fo.new ?_
  refine mI rfl ?_
  refine WpO.nil (hKF _ _ ?_)
  refine sq ?_
  refine sq ?_
  refine rg fun KF hKF => ?_
  refine Fo.ldN rfl rfl (by simp only [↓nrmL, nrmZ, Nat.reduceEqDiff, ↓reduceIte, Nat.reduceAdd, Int.reduceBEq, Int.reduceBNe, h0, bne]; rfl) ?_
  refine Fo.pcall (v' := ?_) hn rfl (by simp only [↓nrmL, nrmZ, Nat.reduceEqDiff, ↓reduceIte, Nat.reduceAdd, Int.reduceBEq, Int.reduceBNe, h0, bne, List.map]; rfl) rfl ?hv fun _ _ => ?_; case hv => rfl
  refine mI rfl ?_
  refine WpO.nil (hKF _ _ ?_)
  refine sq ?_
  refine rg fun KF hKF => ?_
  refine mI rfl ?_
  refine Fo.bin rfl rfl rfl (by simp only [↓nrmL, nrmZ, Nat.reduceEqDiff, ↓reduceIte, Nat.reduceAdd, Int.reduceBEq, Int.reduceBNe, h0, bne]; rfl) ?_
  refine WpO.nil (hKF _ _ ?_)
  refine Wp.cond (b := false) rfl ?_
  refine Wp.skip ?_
  refine sq ?_
  refine rg fun KF hKF => ?_
  refine Fo.ldN rfl rfl (by simp only [↓nrmL, nrmZ, Nat.reduceEqDiff, ↓reduceIte, Nat.reduceAdd, Int.reduceBEq, Int.reduceBNe, h0, bne]; rfl) ?_
  refine WpO.do (WpX.conD hn rfl rfl (by simp only [↓nrmL, nrmZ, Nat.reduceEqDiff, ↓reduceIte, Nat.reduceAdd, Int.reduceBEq, Int.reduceBNe, List.map] <;> rfl) (K_twin (l := l) (by simp only at hl; omega)) fun v H1 h5 => ?_)
  obtain ⟨q, e2, hq, hf, hw3, hx⟩ := h5
  subst e2
  haveI : ExtI _ H1 := ⟨hx⟩
  haveI := hq.one
  have hq : BytesI H1 q l := hq
  refine Fo.new ?_
  refine Fo.st rfl (rfl : _ = AVal.agg _) rfl rfl rfl (by repeat (first | rfl | refine allOne_cons ?_)) (by simp only [↓nrmL, nrmZ, Nat.reduceEqDiff, ↓reduceIte, Nat.reduceAdd, Int.reduceBEq, Int.reduceBNe]; rfl) ?_
  refine WpO.nil (hKF _ _ ?_)
  refine sq ?_
  refine rg fun KF hKF => ?_
  refine Fo.ldN rfl rfl (by simp only [↓nrmL, nrmZ, Nat.reduceEqDiff, ↓reduceIte, Nat.reduceAdd, Int.reduceBEq, Int.reduceBNe]; rfl) ?_
  dsimp only [cond_true, cond_false]
  refine WpO.do (WpX.conD hn rfl rfl (by simp only [↓nrmL, nrmZ, Nat.reduceEqDiff, ↓reduceIte, Nat.reduceAdd, Int.reduceBEq, Int.reduceBNe, List.map] <;> rfl) (K_invert (l := l) (by simp only at hl; omega)) fun v H4 h5 => ?_)
  obtain ⟨hb4, hw4, hx4⟩ := h5
  refine WpO.nil (hKF _ _ ?_)
  refine sq ?_
  refine rg fun KF hKF => ?_
  refine Fo.ldN rfl rfl (by simp only [↓nrmL, nrmZ, Nat.reduceEqDiff, ↓reduceIte, Nat.reduceAdd, Int.reduceBEq, Int.reduceBNe]; rfl) ?_
  refine Fo.st rfl (rfl : _ = AVal.agg _) rfl rfl rfl (by repeat (first | rfl | refine allOne_cons ?_)) (by simp only [↓nrmL, nrmZ, Nat.reduceEqDiff, ↓reduceIte, Nat.reduceAdd, Int.reduceBEq, Int.reduceBNe]; rfl) ?_
  refine mI rfl ?_
  refine WpO.nil (hKF _ _ ?_)
  refine Wp.ret ?_
  dsimp only [cond_true, cond_false]
  refine ⟨trivial, _, (by first | rfl | exact getAllC rfl rfl rfl rfl | exact getAllT rfl (getAllC rfl rfl rfl rfl) | exact getAllC rfl rfl rfl (getAllC rfl rfl rfl rfl) | exact getAllC1 rfl rfl rfl), ?_⟩
  exact ⟨_, rfl, q, rfl, inferInstance, hf.weak, inferInstance, Ext0.ext⟩
end Go.Am

set_option linter.unusedSimpArgs false
set_option linter.unusedVariables false
set_option maxHeartbeats 4000000
set_option maxRecDepth 100000
namespace Go.Am
open Go
attribute [local irreducible] Wp WpO WpX WpE

/-- What two images are combined to. -/
def combSpec (op : UInt8 → UInt8 → UInt8) (g h : Img) : Img × Int :=
 bif g.err == 0 then bif h.err == 0 then bif g.w == h.w && g.h == h.h then (⟨g.w, g.h, List.zipWith op g.px h.px⟩, 0) else (.zero, 2) else (.zero, h.err) else (.zero, g.err)
/-- A function of two pixels. -/
class PixFn (F : FuncId) (op : outParam (UInt8 → UInt8 → UInt8)) : Prop where
 con : ∀ (a b : UInt8) (H : AHeap), PureCon ext prog F [.int .u8 (a.toNat : Int), .int .u8 (b.toNat : Int)] H 1 (.int .u8 ((op a b).toNat : Int))
instance {F : FuncId} {op : UInt8 → UInt8 → UInt8} {a b : UInt8} {H : AHeap} [h : PixFn F op] : PureCon ext prog F [.int .u8 (a.toNat : Int), .int .u8 (b.toNat : Int)] H 1 (.int .u8 ((op a b).toNat : Int)) := h.con a b H

instance pixDistance : PixFn 94 (· ^^^ ·) := ⟨fun a b H => ⟨by
 refine con_of (show prog 94 = some c94 from rfl) rfl rfl fun n hn => ?_
 have h1 := bits_xor a b
 try simp only [↓nrmL, nrmZ, Nat.reduceEqDiff, ↓reduceIte, Nat.reduceAdd, Int.reduceBEq, Int.reduceBNe, h1]
 refine sq ?_
 refine rg fun KF hKF => ?_
 refine mI rfl ?_
 refine WpO.nil (hKF _ _ ?_)
 refine sq ?_
 refine rg fun KF hKF => ?_
 refine mI rfl ?_
 refine mI rfl ?_
 refine Fo.bin rfl rfl rfl (by simp only [↓nrmL, nrmZ, Nat.reduceEqDiff, ↓reduceIte, Nat.reduceAdd, Int.reduceBEq, Int.reduceBNe, h1]; rfl) ?_
 refine mI rfl ?_
 refine WpO.nil (hKF _ _ ?_)
 refine Wp.ret ?_
 dsimp only [cond_true, cond_false]
 refine ⟨trivial, _, (by first | rfl | exact getAllC rfl rfl rfl rfl | exact getAllT rfl (getAllC rfl rfl rfl rfl) | exact getAllC rfl rfl rfl (getAllC rfl rfl rfl rfl) | exact getAllC1 rfl rfl rfl), ?_⟩
 exact ⟨rfl, Ext0.ext⟩⟩⟩
instance pixOr : PixFn 140 (· ||| ·) := ⟨fun a b H => ⟨by
 refine con_of (show prog 140 = some c140 from rfl) rfl rfl fun n hn => ?_
 have h1 := bits_or a b
 try simp only [↓nrmL, nrmZ, Nat.reduceEqDiff, ↓reduceIte, Nat.reduceAdd, Int.reduceBEq, Int.reduceBNe, h1]
 refine sq ?_
 refine rg fun KF hKF => ?_
 refine mI rfl ?_
 refine WpO.nil (hKF _ _ ?_)
 refine sq ?_
 refine rg fun KF hKF => ?_
 refine mI rfl ?_
 refine mI rfl ?_
 refine Fo.bin rfl rfl rfl (by simp only [↓nrmL, nrmZ, Nat.reduceEqDiff, ↓reduceIte, Nat.reduceAdd, Int.reduceBEq, Int.reduceBNe, h1]; rfl) ?_
 refine mI rfl ?_
 refine WpO.nil (hKF _ _ ?_)
 refine Wp.ret ?_
 dsimp only [cond_true, cond_false]
 refine ⟨trivial, _, (by first | rfl | exact getAllC rfl rfl rfl rfl | exact getAllT rfl (getAllC rfl rfl rfl rfl) | exact getAllC rfl rfl rfl (getAllC rfl rfl rfl rfl) | exact getAllC1 rfl rfl rfl), ?_⟩
 exact ⟨rfl, Ext0.ext⟩⟩⟩
instance pixAnd : PixFn 141 (· &&& ·) := ⟨fun a b H => ⟨by
 refine con_of (show prog 141 = some c141 from rfl) rfl rfl fun n hn => ?_
 have h1 := bits_and a b
 try simp only [↓nrmL, nrmZ, Nat.reduceEqDiff, ↓reduceIte, Nat.reduceAdd, Int.reduceBEq, Int.reduceBNe, h1]
 refine sq ?_
 refine rg fun KF hKF => ?_
 refine mI rfl ?_
 refine WpO.nil (hKF _ _ ?_)
 refine sq ?_
 refine rg fun KF hKF => ?_
 refine mI rfl ?_
 refine mI rfl ?_
 refine Fo.bin rfl rfl rfl (by simp only [↓nrmL, nrmZ, Nat.reduceEqDiff, ↓reduceIte, Nat.reduceAdd, Int.reduceBEq, Int.reduceBNe, h1]; rfl) ?_
 refine mI rfl ?_
 refine WpO.nil (hKF _ _ ?_)
 refine Wp.ret ?_
 dsimp only [cond_true, cond_false]
 refine ⟨trivial, _, (by first | rfl | exact getAllC rfl rfl rfl rfl | exact getAllT rfl (getAllC rfl rfl rfl rfl) | exact getAllC rfl rfl rfl (getAllC rfl rfl rfl rfl) | exact getAllC1 rfl rfl rfl), ?_⟩
 exact ⟨rfl, Ext0.ext⟩⟩⟩
instance pixLess : PixFn 142 (fun a b => a &&& ~~~b) := ⟨fun a b H => ⟨by
 refine con_of (show prog 142 = some c142 from rfl) rfl rfl fun n hn => ?_
 have h1 := bits_andNot a b
 try simp only [↓nrmL, nrmZ, Nat.reduceEqDiff, ↓reduceIte, Nat.reduceAdd, Int.reduceBEq, Int.reduceBNe, h1]
 refine sq ?_
 refine rg fun KF hKF => ?_
 refine mI rfl ?_
 refine WpO.nil (hKF _ _ ?_)
 refine sq ?_
 refine rg fun KF hKF => ?_
 refine mI rfl ?_
 refine mI rfl ?_
 refine Fo.bin rfl rfl rfl (by simp only [↓nrmL, nrmZ, Nat.reduceEqDiff, ↓reduceIte, Nat.reduceAdd, Int.reduceBEq, Int.reduceBNe, h1]; rfl) ?_
 refine mI rfl ?_
 refine WpO.nil (hKF _ _ ?_)
 refine Wp.ret ?_
 dsimp only [cond_true, cond_false]
 refine ⟨trivial, _, (by first | rfl | exact getAllC rfl rfl rfl rfl | exact getAllT rfl (getAllC rfl rfl rfl rfl) | exact getAllC rfl rfl rfl (getAllC rfl rfl rfl rfl) | exact getAllC1 rfl rfl rfl), ?_⟩
 exact ⟨rfl, Ext0.ext⟩⟩⟩

theorem K_combine {p q : AVal} {H : AHeap} {w h w' h' : Int} {l m : List UInt8} {F : FuncId} {op : UInt8 → UInt8 → UInt8} [hp : BytesI H p l] [hq : BytesI H q m] [hF : PixFn F op] : Con ext prog 4 93 [.agg [.int .i64 w, .int .i64 h, p], .agg [.int .i64 w', .int .i64 h', q], .func (.func F) [] []] H fun v H' => InkRes H H' v (combSpec op ⟨w, h, l⟩ ⟨w', h', m⟩) := by
 refine con_of (show prog 93 = some c93 from rfl) rfl rfl fun n hn => ?_
 haveI := hp.one
 haveI := hq.one
 unfold combSpec
 cases h0 : (Img.err ⟨w, h, l⟩ == 0)
 ·skip
  try simp only [↓nrmL, nrmZ, Nat.reduceEqDiff, ↓reduceIte, Nat.reduceAdd, Int.reduceBEq, Int.reduceBNe, h0, bne]
  refine sq ?_
  refine rg fun KF hKF => ?_
  refine Fo.boxA rfl ?_
  refine Fo.boxA rfl ?_
  refine Fo.new ?_
  refine mI rfl ?_
  refine WpO.nil (hKF _ _ ?_)
  refine sq ?_
  refine sq ?_
  refine rg fun KF hKF => ?_
  refine Fo.ldN rfl rfl (by simp only [↓nrmL, nrmZ, Nat.reduceEqDiff, ↓reduceIte, Nat.reduceAdd, Int.reduceBEq, Int.reduceBNe, h0, bne]; rfl) ?_
  refine Fo.pcall (v' := ?_) hn rfl (by simp only [↓nrmL, nrmZ, Nat.reduceEqDiff, ↓reduceIte, Nat.reduceAdd, Int.reduceBEq, Int.reduceBNe, h0, bne, List.map]; rfl) rfl ?hv fun _ _ => ?_; case hv => rfl
  refine mI rfl ?_
  refine WpO.nil (hKF _ _ ?_)
  refine sq ?_
  refine rg fun KF hKF => ?_
  refine mI rfl ?_
  refine Fo.bin rfl rfl rfl (by simp only [↓nrmL, nrmZ, Nat.reduceEqDiff, ↓reduceIte, Nat.reduceAdd, Int.reduceBEq, Int.reduceBNe, h0, bne]; rfl) ?_
  refine WpO.nil (hKF _ _ ?_)
  refine Wp.cond (b := true) rfl ?_
  refine sq ?_
  refine rg fun KF hKF => ?_
  refine Fo.build (by repeat (first | refine aFill1 (by first | exact (rfl : _ = AVal.int _ _) | exact (rfl : _ = AVal.ptr _ _) | exact (rfl : _ = AVal.bool _) | exact (rfl : _ = AVal.agg _) | exact (rfl : _ = AVal.tuple _) | exact (rfl : _ = AVal.func _ _ _) | exact (rfl : _ = AVal.nslice) | ((try simp only [↓nrmL, nrmK, Nat.reduceEqDiff, ↓reduceIte]); rfl)) rfl ?_ | rfl)) rfl ?_
  refine mI rfl ?_
  refine Fo.st rfl (rfl : _ = AVal.agg _) rfl rfl rfl (by repeat (first | rfl | refine allOne_cons ?_)) (by simp only [↓nrmL, nrmZ, Nat.reduceEqDiff, ↓reduceIte, Nat.reduceAdd, Int.reduceBEq, Int.reduceBNe, h0, bne]; rfl) ?_
  refine mI rfl ?_
  refine WpO.nil (hKF _ _ ?_)
  refine Wp.ret ?_
  dsimp only [cond_true, cond_false]
  refine ⟨trivial, _, (by first | rfl | exact getAllC rfl rfl rfl rfl | exact getAllT rfl (getAllC rfl rfl rfl rfl) | exact getAllC rfl rfl rfl (getAllC rfl rfl rfl rfl) | exact getAllC1 rfl rfl rfl), ?_⟩
  exact ⟨_, rfl, newZero⟩
 cases h1 : (Img.err ⟨w', h', m⟩ == 0)
 ·skip
  try simp only [↓nrmL, nrmZ, Nat.reduceEqDiff, ↓reduceIte, Nat.reduceAdd, Int.reduceBEq, Int.reduceBNe, h0, h1, bne]
  refine sq ?_
  refine rg fun KF hKF => ?_
  refine Fo.boxA rfl ?_
  refine Fo.boxA rfl ?_
  refine Fo.new ?_
  refine mI rfl ?_
  refine WpO.nil (hKF _ _ ?_)
  refine sq ?_
  refine sq ?_
  refine rg fun KF hKF => ?_
  refine Fo.ldN rfl rfl (by simp only [↓nrmL, nrmZ, Nat.reduceEqDiff, ↓reduceIte, Nat.reduceAdd, Int.reduceBEq, Int.reduceBNe, h0, h1, bne]; rfl) ?_
  refine Fo.pcall (v' := ?_) hn rfl (by simp only [↓nrmL, nrmZ, Nat.reduceEqDiff, ↓reduceIte, Nat.reduceAdd, Int.reduceBEq, Int.reduceBNe, h0, h1, bne, List.map]; rfl) rfl ?hv fun _ _ => ?_; case hv => rfl
  refine mI rfl ?_
  refine WpO.nil (hKF _ _ ?_)
  refine sq ?_
  refine rg fun KF hKF => ?_
  refine mI rfl ?_
  refine Fo.bin rfl rfl rfl (by simp only [↓nrmL, nrmZ, Nat.reduceEqDiff, ↓reduceIte, Nat.reduceAdd, Int.reduceBEq, Int.reduceBNe, h0, h1, bne]; rfl) ?_
  refine WpO.nil (hKF _ _ ?_)
  refine Wp.cond (b := false) rfl ?_
  refine Wp.skip ?_
  refine sq ?_
  refine sq ?_
  refine rg fun KF hKF => ?_
  refine Fo.ldN rfl rfl (by simp only [↓nrmL, nrmZ, Nat.reduceEqDiff, ↓reduceIte, Nat.reduceAdd, Int.reduceBEq, Int.reduceBNe, h0, h1, bne]; rfl) ?_
  refine Fo.pcall (v' := ?_) hn rfl (by simp only [↓nrmL, nrmZ, Nat.reduceEqDiff, ↓reduceIte, Nat.reduceAdd, Int.reduceBEq, Int.reduceBNe, h0, h1, bne, List.map]; rfl) rfl ?hv fun _ _ => ?_; case hv => rfl
  refine mI rfl ?_
  refine WpO.nil (hKF _ _ ?_)
  refine sq ?_
  refine rg fun KF hKF => ?_
  refine mI rfl ?_
  refine Fo.bin rfl rfl rfl (by simp only [↓nrmL, nrmZ, Nat.reduceEqDiff, ↓reduceIte, Nat.reduceAdd, Int.reduceBEq, Int.reduceBNe, h0, h1, bne]; rfl) ?_
  refine WpO.nil (hKF _ _ ?_)
  refine Wp.cond (b := true) rfl ?_
  refine sq ?_
  refine rg fun KF hKF => ?_
  refine Fo.build (by repeat (first | refine aFill1 (by first | exact (rfl : _ = AVal.int _ _) | exact (rfl : _ = AVal.ptr _ _) | exact (rfl : _ = AVal.bool _) | exact (rfl : _ = AVal.agg _) | exact (rfl : _ = AVal.tuple _) | exact (rfl : _ = AVal.func _ _ _) | exact (rfl : _ = AVal.nslice) | ((try simp only [↓nrmL, nrmK, Nat.reduceEqDiff, ↓reduceIte]); rfl)) rfl ?_ | rfl)) rfl ?_
  refine mI rfl ?_
  refine Fo.st rfl (rfl : _ = AVal.agg _) rfl rfl rfl (by repeat (first | rfl | refine allOne_cons ?_)) (by simp only [↓nrmL, nrmZ, Nat.reduceEqDiff, ↓reduceIte, Nat.reduceAdd, Int.reduceBEq, Int.reduceBNe, h0, h1, bne]; rfl) ?_
  refine mI rfl ?_
  refine WpO.nil (hKF _ _ ?_)
  refine Wp.ret ?_
  dsimp only [cond_true, cond_false]
  refine ⟨trivial, _, (by first | rfl | exact getAllC rfl rfl rfl rfl | exact getAllT rfl (getAllC rfl rfl rfl rfl) | exact getAllC rfl rfl rfl (getAllC rfl rfl rfl rfl) | exact getAllC1 rfl rfl rfl), ?_⟩
  exact ⟨_, rfl, newZero⟩
 cases h2 : (w == w')
 ·simp only [cond_true, Bool.false_and, cond_false]
  try simp only [↓nrmL, nrmZ, Nat.reduceEqDiff, ↓reduceIte, Nat.reduceAdd, Int.reduceBEq, Int.reduceBNe, h0, h1, h2, bne]
  refine sq ?_
  refine rg fun KF hKF => ?_
  refine Fo.boxA rfl ?_
  refine Fo.boxA rfl ?_
  refine Fo.new ?_
  refine mI rfl ?_
  refine WpO.nil (hKF _ _ ?_)
  refine sq ?_
  refine sq ?_
  refine rg fun KF hKF => ?_
  refine Fo.ldN rfl rfl (by simp only [↓nrmL, nrmZ, Nat.reduceEqDiff, ↓reduceIte, Nat.reduceAdd, Int.reduceBEq, Int.reduceBNe, h0, h1, h2, bne]; rfl) ?_
  refine Fo.pcall (v' := ?_) hn rfl (by simp only [↓nrmL, nrmZ, Nat.reduceEqDiff, ↓reduceIte, Nat.reduceAdd, Int.reduceBEq, Int.reduceBNe, h0, h1, h2, bne, List.map]; rfl) rfl ?hv fun _ _ => ?_; case hv => rfl
  refine mI rfl ?_
  refine WpO.nil (hKF _ _ ?_)
  refine sq ?_
  refine rg fun KF hKF => ?_
  refine mI rfl ?_
  refine Fo.bin rfl rfl rfl (by simp only [↓nrmL, nrmZ, Nat.reduceEqDiff, ↓reduceIte, Nat.reduceAdd, Int.reduceBEq, Int.reduceBNe, h0, h1, h2, bne]; rfl) ?_
  refine WpO.nil (hKF _ _ ?_)
  refine Wp.cond (b := false) rfl ?_
  refine Wp.skip ?_
  refine sq ?_
  refine sq ?_
  refine rg fun KF hKF => ?_
  refine Fo.ldN rfl rfl (by simp only [↓nrmL, nrmZ, Nat.reduceEqDiff, ↓reduceIte, Nat.reduceAdd, Int.reduceBEq, Int.reduceBNe, h0, h1, h2, bne]; rfl) ?_
  refine Fo.pcall (v' := ?_) hn rfl (by simp only [↓nrmL, nrmZ, Nat.reduceEqDiff, ↓reduceIte, Nat.reduceAdd, Int.reduceBEq, Int.reduceBNe, h0, h1, h2, bne, List.map]; rfl) rfl ?hv fun _ _ => ?_; case hv => rfl
  refine mI rfl ?_
  refine WpO.nil (hKF _ _ ?_)
  refine sq ?_
  refine rg fun KF hKF => ?_
  refine mI rfl ?_
  refine Fo.bin rfl rfl rfl (by simp only [↓nrmL, nrmZ, Nat.reduceEqDiff, ↓reduceIte, Nat.reduceAdd, Int.reduceBEq, Int.reduceBNe, h0, h1, h2, bne]; rfl) ?_
  refine WpO.nil (hKF _ _ ?_)
  refine Wp.cond (b := false) rfl ?_
  refine Wp.skip ?_
  refine sq ?_
  refine sq ?_
  refine rg fun KF hKF => ?_
  refine Fo.fa rfl ?_
  refine Fo.ld rfl rfl ?_
  refine Fo.fa rfl ?_
  refine Fo.ld rfl rfl ?_
  refine Fo.bin rfl rfl rfl (by simp only [↓nrmL, nrmZ, Nat.reduceEqDiff, ↓reduceIte, Nat.reduceAdd, Int.reduceBEq, Int.reduceBNe, h0, h1, h2, bne]; rfl) ?_
  refine mB rfl ?_
  refine Fo.no rfl rfl ?_
  refine Fo.no rfl rfl ?_
  refine Fo.no rfl rfl ?_
  refine Fo.no rfl rfl ?_
  refine Fo.no rfl rfl ?_
  refine tB rfl rfl ?_
  refine WpO.nil (hKF _ _ ?_)
  refine Wp.cond (b := true) rfl ?_
  refine sq ?_
  refine rg fun KF hKF => ?_
  refine Fo.build (by repeat (first | refine aFill1 (by first | exact (rfl : _ = AVal.int _ _) | exact (rfl : _ = AVal.ptr _ _) | exact (rfl : _ = AVal.bool _) | exact (rfl : _ = AVal.agg _) | exact (rfl : _ = AVal.tuple _) | exact (rfl : _ = AVal.func _ _ _) | exact (rfl : _ = AVal.nslice) | ((try simp only [↓nrmL, nrmK, Nat.reduceEqDiff, ↓reduceIte]); rfl)) rfl ?_ | rfl)) rfl ?_
  refine Fo.st rfl (rfl : _ = AVal.agg _) rfl rfl rfl (by repeat (first | rfl | refine allOne_cons ?_)) (by simp only [↓nrmL, nrmZ, Nat.reduceEqDiff, ↓reduceIte, Nat.reduceAdd, Int.reduceBEq, Int.reduceBNe, h0, h1, h2, bne]; rfl) ?_
  refine mI rfl ?_
  refine WpO.nil (hKF _ _ ?_)
  refine Wp.ret ?_
  dsimp only [cond_true, cond_false]
  refine ⟨trivial, _, (by first | rfl | exact getAllC rfl rfl rfl rfl | exact getAllT rfl (getAllC rfl rfl rfl rfl) | exact getAllC rfl rfl rfl (getAllC rfl rfl rfl rfl) | exact getAllC1 rfl rfl rfl), ?_⟩
  exact ⟨_, rfl, newZero⟩
 cases h3 : (h == h')
 ·simp only [cond_true, Bool.and_false, cond_false]
  try simp only [↓nrmL, nrmZ, Nat.reduceEqDiff, ↓reduceIte, Nat.reduceAdd, Int.reduceBEq, Int.reduceBNe, h0, h1, h2, h3, bne]
  refine sq ?_
  refine rg fun KF hKF => ?_
  refine Fo.boxA rfl ?_
  refine Fo.boxA rfl ?_
  refine Fo.new ?_
  refine mI rfl ?_
  refine WpO.nil (hKF _ _ ?_)
  refine sq ?_
  refine sq ?_
  refine rg fun KF hKF => ?_
  refine Fo.ldN rfl rfl (by simp only [↓nrmL, nrmZ, Nat.reduceEqDiff, ↓reduceIte, Nat.reduceAdd, Int.reduceBEq, Int.reduceBNe, h0, h1, h2, h3, bne]; rfl) ?_
  refine Fo.pcall (v' := ?_) hn rfl (by simp only [↓nrmL, nrmZ, Nat.reduceEqDiff, ↓reduceIte, Nat.reduceAdd, Int.reduceBEq, Int.reduceBNe, h0, h1, h2, h3, bne, List.map]; rfl) rfl ?hv fun _ _ => ?_; case hv => rfl
  refine mI rfl ?_
  refine WpO.nil (hKF _ _ ?_)
  refine sq ?_
  refine rg fun KF hKF => ?_
  refine mI rfl ?_
  refine Fo.bin rfl rfl rfl (by simp only [↓nrmL, nrmZ, Nat.reduceEqDiff, ↓reduceIte, Nat.reduceAdd, Int.reduceBEq, Int.reduceBNe, h0, h1, h2, h3, bne]; rfl) ?_
  refine WpO.nil (hKF _ _ ?_)
  refine Wp.cond (b := false) rfl ?_
  refine Wp.skip ?_
  refine sq ?_
  refine sq ?_
  refine rg fun KF hKF => ?_
  refine Fo.ldN rfl rfl (by simp only [↓nrmL, nrmZ, Nat.reduceEqDiff, ↓reduceIte, Nat.reduceAdd, Int.reduceBEq, Int.reduceBNe, h0, h1, h2, h3, bne]; rfl) ?_
  refine Fo.pcall (v' := ?_) hn rfl (by simp only [↓nrmL, nrmZ, Nat.reduceEqDiff, ↓reduceIte, Nat.reduceAdd, Int.reduceBEq, Int.reduceBNe, h0, h1, h2, h3, bne, List.map]; rfl) rfl ?hv fun _ _ => ?_; case hv => rfl
  refine mI rfl ?_
  refine WpO.nil (hKF _ _ ?_)
  refine sq ?_
  refine rg fun KF hKF => ?_
  refine mI rfl ?_
  refine Fo.bin rfl rfl rfl (by simp only [↓nrmL, nrmZ, Nat.reduceEqDiff, ↓reduceIte, Nat.reduceAdd, Int.reduceBEq, Int.reduceBNe, h0, h1, h2, h3, bne]; rfl) ?_
  refine WpO.nil (hKF _ _ ?_)
  refine Wp.cond (b := false) rfl ?_
  refine Wp.skip ?_
  refine sq ?_
  refine sq ?_
  refine rg fun KF hKF => ?_
  refine Fo.fa rfl ?_
  refine Fo.ld rfl rfl ?_
  refine Fo.fa rfl ?_
  refine Fo.ld rfl rfl ?_
  refine Fo.bin rfl rfl rfl (by simp only [↓nrmL, nrmZ, Nat.reduceEqDiff, ↓reduceIte, Nat.reduceAdd, Int.reduceBEq, Int.reduceBNe, h0, h1, h2, h3, bne]; rfl) ?_
  refine mB rfl ?_
  refine Fo.yes rfl rfl ?_
  refine Fo.fa rfl ?_
  refine Fo.yes rfl rfl ?_
  refine Fo.ld rfl rfl ?_
  refine Fo.yes rfl rfl ?_
  refine Fo.fa rfl ?_
  refine Fo.yes rfl rfl ?_
  refine Fo.ld rfl rfl ?_
  refine Fo.yes rfl rfl ?_
  refine Fo.bin rfl rfl rfl (by simp only [↓nrmL, nrmZ, Nat.reduceEqDiff, ↓reduceIte, Nat.reduceAdd, Int.reduceBEq, Int.reduceBNe, h0, h1, h2, h3, bne]; rfl) ?_
  refine fB rfl rfl ?_
  refine WpO.nil (hKF _ _ ?_)
  refine Wp.cond (b := true) rfl ?_
  refine sq ?_
  refine rg fun KF hKF => ?_
  refine Fo.build (by repeat (first | refine aFill1 (by first | exact (rfl : _ = AVal.int _ _) | exact (rfl : _ = AVal.ptr _ _) | exact (rfl : _ = AVal.bool _) | exact (rfl : _ = AVal.agg _) | exact (rfl : _ = AVal.tuple _) | exact (rfl : _ = AVal.func _ _ _) | exact (rfl : _ = AVal.nslice) | ((try simp only [↓nrmL, nrmK, Nat.reduceEqDiff, ↓reduceIte]); rfl)) rfl ?_ | rfl)) rfl ?_
  refine Fo.st rfl (rfl : _ = AVal.agg _) rfl rfl rfl (by repeat (first | rfl | refine allOne_cons ?_)) (by simp only [↓nrmL, nrmZ, Nat.reduceEqDiff, ↓reduceIte, Nat.reduceAdd, Int.reduceBEq, Int.reduceBNe, h0, h1, h2, h3, bne]; rfl) ?_
  refine mI rfl ?_
  refine WpO.nil (hKF _ _ ?_)
  refine Wp.ret ?_
  dsimp only [cond_true, cond_false]
  refine ⟨trivial, _, (by first | rfl | exact getAllC rfl rfl rfl rfl | exact getAllT rfl (getAllC rfl rfl rfl rfl) | exact getAllC rfl rfl rfl (getAllC rfl rfl rfl rfl) | exact getAllC1 rfl rfl rfl), ?_⟩
  exact ⟨_, rfl, newZero⟩
 simp only [cond_true, Bool.and_self]
 obtain rfl : w = w' := by simpa using h2
 obtain rfl : h = h' := by simpa using h3
 obtain ⟨a, b, hwa, hhb, ha, hb, hl⟩ := sized_nat (Img.ok h0).1
 obtain ⟨a', b', hwa', hhb', _, _, hl'⟩ := sized_nat (Img.ok h1).1
 simp only at hwa hhb hwa' hhb' hl hl'
 subst hwa hhb
 obtain rfl : a = a' := by omega
 obtain rfl : b = b' := by omega
 have hm : a * b ≤ 640 * 640 := Nat.mul_le_mul ha hb
 try simp only [↓nrmL, nrmZ, Nat.reduceEqDiff, ↓reduceIte, Nat.reduceAdd, Int.reduceBEq, Int.reduceBNe, h0, h1, h2, h3, bne]
 refine sq ?_
 refine rg fun KF hKF => ?_
 refine Fo.boxA rfl ?_
 refine Fo.boxA rfl ?_
 refine Fo.new ?_
 refine mI rfl ?_
 refine WpO.nil (hKF _ _ ?_)
 refine sq ?_
 refine sq ?_
 refine rg fun KF hKF => ?_
 refine Fo.ldN rfl rfl (by simp only [↓nrmL, nrmZ, Nat.reduceEqDiff, ↓reduceIte, Nat.reduceAdd, Int.reduceBEq, Int.reduceBNe, h0, h1, h2, h3, bne]; rfl) ?_
 refine Fo.pcall (v' := ?_) hn rfl (by simp only [↓nrmL, nrmZ, Nat.reduceEqDiff, ↓reduceIte, Nat.reduceAdd, Int.reduceBEq, Int.reduceBNe, h0, h1, h2, h3, bne, List.map]; rfl) rfl ?hv fun _ _ => ?_; case hv => rfl
 refine mI rfl ?_
 refine WpO.nil (hKF _ _ ?_)
 refine sq ?_
 refine rg fun KF hKF => ?_
 refine mI rfl ?_
 refine Fo.bin rfl rfl rfl (by simp only [↓nrmL, nrmZ, Nat.reduceEqDiff, ↓reduceIte, Nat.reduceAdd, Int.reduceBEq, Int.reduceBNe, h0, h1, h2, h3, bne]; rfl) ?_
 refine WpO.nil (hKF _ _ ?_)
 refine Wp.cond (b := false) rfl ?_
 refine Wp.skip ?_
 refine sq ?_
 refine sq ?_
 refine rg fun KF hKF => ?_
 refine Fo.ldN rfl rfl (by simp only [↓nrmL, nrmZ, Nat.reduceEqDiff, ↓reduceIte, Nat.reduceAdd, Int.reduceBEq, Int.reduceBNe, h0, h1, h2, h3, bne]; rfl) ?_
 refine Fo.pcall (v' := ?_) hn rfl (by simp only [↓nrmL, nrmZ, Nat.reduceEqDiff, ↓reduceIte, Nat.reduceAdd, Int.reduceBEq, Int.reduceBNe, h0, h1, h2, h3, bne, List.map]; rfl) rfl ?hv fun _ _ => ?_; case hv => rfl
 refine mI rfl ?_
 refine WpO.nil (hKF _ _ ?_)
 refine sq ?_
 refine rg fun KF hKF => ?_
 refine mI rfl ?_
 refine Fo.bin rfl rfl rfl (by simp only [↓nrmL, nrmZ, Nat.reduceEqDiff, ↓reduceIte, Nat.reduceAdd, Int.reduceBEq, Int.reduceBNe, h0, h1, h2, h3, bne]; rfl) ?_
 refine WpO.nil (hKF _ _ ?_)
 refine Wp.cond (b := false) rfl ?_
 refine Wp.skip ?_
 refine sq ?_
 refine sq ?_
 refine rg fun KF hKF => ?_
 refine Fo.fa rfl ?_
 refine Fo.ld rfl rfl ?_
 refine Fo.fa rfl ?_
 refine Fo.ld rfl rfl ?_
 refine Fo.bin rfl rfl rfl (by simp only [↓nrmL, nrmZ, Nat.reduceEqDiff, ↓reduceIte, Nat.reduceAdd, Int.reduceBEq, Int.reduceBNe, h0, h1, h2, h3, bne]; rfl) ?_
 refine mB rfl ?_
 refine Fo.yes rfl rfl ?_
 refine Fo.fa rfl ?_
 refine Fo.yes rfl rfl ?_
 refine Fo.ld rfl rfl ?_
 refine Fo.yes rfl rfl ?_
 refine Fo.fa rfl ?_
 refine Fo.yes rfl rfl ?_
 refine Fo.ld rfl rfl ?_
 refine Fo.yes rfl rfl ?_
 refine Fo.bin rfl rfl rfl (by simp only [↓nrmL, nrmZ, Nat.reduceEqDiff, ↓reduceIte, Nat.reduceAdd, Int.reduceBEq, Int.reduceBNe, h0, h1, h2, h3, bne]; rfl) ?_
 refine fB rfl rfl ?_
 refine WpO.nil (hKF _ _ ?_)
 refine Wp.cond (b := false) rfl ?_
 refine Wp.skip ?_
 refine sq ?_
 refine rg fun KF hKF => ?_
 refine Fo.fa rfl ?_
 refine Fo.ld rfl rfl ?_
 refine Fo.fa rfl ?_
 refine Fo.ld rfl rfl ?_
 refine WpO.do (WpX.conD hn rfl rfl (by simp only [↓nrmL, nrmZ, Nat.reduceEqDiff, ↓reduceIte, Nat.reduceAdd, Int.reduceBEq, Int.reduceBNe, List.map] <;> rfl) (K_blank (w := a) (h := b) (by omega) (by omega)) fun v H1 h5 => ?_)
 obtain ⟨o, e2, ho, hf, hw3, hx⟩ := h5
 subst e2
 haveI : ExtI _ H1 := ⟨hx⟩
 haveI := ho.one
 have ho : BytesI H1 o (List.replicate (a * b) 0) := ho
 refine Fo.new ?_
 refine Fo.st rfl (rfl : _ = AVal.agg _) rfl rfl rfl (by repeat (first | rfl | refine allOne_cons ?_)) (by simp only [↓nrmL, nrmZ, Nat.reduceEqDiff, ↓reduceIte, Nat.reduceAdd, Int.reduceBEq, Int.reduceBNe]; rfl) ?_
 refine WpO.nil (hKF _ _ ?_)
 refine sq ?_
 refine sq ?_
 refine rg fun KF hKF => ?_
 refine Fo.fa rfl ?_
 refine Fo.ld rfl rfl ?_
 refine Fo.len (v := ?_) (by simp only [↓nrmL, nrmK, Nat.reduceEqDiff, ↓reduceIte]; rfl) ?hv ?_; case hv => rfl
 refine mI rfl ?_
 refine WpO.nil (hKF _ _ ?_)
 refine Wp.block ?_
 dsimp only [cond_true, cond_false]
 refine Wp.loopS [11, 12, 46, 47, 48, 49, 50, 51, 52, 53, 54, 55, 56, 57, 58, 59, 60, 61, 62, 63] (fun i : Nat => [(46, .int .i64 i)]) (fun H3 i H2 => i ≤ l.length ∧ BytesI H2 o (filled (fun i => op (l.getD i 0) (m.getD i 0)) i l.length) ∧ WrS H2 o ∧ ExtP0 H3 H2 o) (fun i => l.length - i) 0 rfl (fun _ => rfl) ⟨rfl, trivial⟩ ⟨Nat.zero_le _, by rw [filled_zero, hl]; infer_instance, inferInstance, inferInstance⟩ (by unfold fuel0 at hn; omega) ?_
 rintro i g H2 ⟨hi, hb2, hw2, ⟨hx2⟩⟩
 simp only [↓nrmL, nrmZ, Nat.reduceEqDiff, ↓reduceIte, Nat.reduceAdd, Int.reduceBEq, Int.reduceBNe]
 cases hc : decide ((i : Int) < (l.length : Int))
 ·have hil : i = l.length := by have := of_decide_eq_false hc; omega
  subst hil
  rw [filled_all, zip_range (by omega)] at hb2
  try simp only [↓nrmL, nrmZ, Nat.reduceEqDiff, ↓reduceIte, Nat.reduceAdd, Int.reduceBEq, Int.reduceBNe, hc]
  refine sq ?_
  refine rg fun KF hKF => ?_
  refine Fo.bin rfl rfl rfl (by simp only [↓nrmL, nrmZ, Nat.reduceEqDiff, ↓reduceIte, Nat.reduceAdd, Int.reduceBEq, Int.reduceBNe, hc]; rfl) ?_
  refine WpO.nil (hKF _ _ ?_)
  refine sq ?_
  refine Wp.cond (b := false) rfl ?_
  refine Wp.exit ?_
  refine sq ?_
  refine rg fun KF hKF => ?_
  refine Fo.ldN rfl rfl (by simp only [↓nrmL, nrmZ, Nat.reduceEqDiff, ↓reduceIte, Nat.reduceAdd, Int.reduceBEq, Int.reduceBNe, hc]; rfl) ?_
  refine Fo.st rfl (rfl : _ = AVal.agg _) rfl rfl rfl (by repeat (first | rfl | refine allOne_cons ?_)) (by simp only [↓nrmL, nrmZ, Nat.reduceEqDiff, ↓reduceIte, Nat.reduceAdd, Int.reduceBEq, Int.reduceBNe, hc]; rfl) ?_
  refine mI rfl ?_
  refine WpO.nil (hKF _ _ ?_)
  refine Wp.ret ?_
  dsimp only [cond_true, cond_false]
  refine ⟨trivial, _, (by first | rfl | exact getAllC rfl rfl rfl rfl | exact getAllT rfl (getAllC rfl rfl rfl rfl) | exact getAllC rfl rfl rfl (getAllC rfl rfl rfl rfl) | exact getAllC1 rfl rfl rfl), ?_⟩
  exact ⟨_, rfl, o, rfl, inferInstance, hf.weak, inferInstance, Ext0.ext⟩
 ·have hil : i < l.length := by have := of_decide_eq_true hc; omega
  have him : i < m.length := by omega
  have hfl := filled_length (fun i => op (l.getD i 0) (m.getD i 0)) i l.length
  have hw1 := wa1 (a := i) (by omega)
  have hgl : l.getD i 0 = l[i] := by simp [hil]
  have hgm : m.getD i 0 = m[i] := by simp [him]
  try simp only [↓nrmL, nrmZ, Nat.reduceEqDiff, ↓reduceIte, Nat.reduceAdd, Int.reduceBEq, Int.reduceBNe, hc]
  refine sq ?_
  refine rg fun KF hKF => ?_
  refine Fo.bin rfl rfl rfl (by simp only [↓nrmL, nrmZ, Nat.reduceEqDiff, ↓reduceIte, Nat.reduceAdd, Int.reduceBEq, Int.reduceBNe, hc]; rfl) ?_
  refine WpO.nil (hKF _ _ ?_)
  refine sq ?_
  refine Wp.cond (b := true) rfl ?_
  refine Wp.skip ?_
  refine sq ?_
  refine Wp.block ?_
  refine sq ?_
  refine rg fun KF hKF => ?_
  refine mI rfl ?_
  refine Fo.idx (by simp only [↓nrmL, nrmK, Nat.reduceEqDiff, ↓reduceIte]; rfl) rfl ?_ (by simp only [↓nrmL, nrmZ, Nat.reduceEqDiff, ↓reduceIte, Nat.reduceAdd, Int.reduceBEq, Int.reduceBNe, hc]; rfl) ?_; (focus omega)
  refine Fo.ldB rfl ?_ rfl ?_; (focus omega)
  refine mI rfl ?_
  refine mI rfl ?_
  refine WpO.nil (hKF _ _ ?_)
  dsimp only [cond_true, cond_false]
  refine Fr.dregion0 rfl fun KF hKF => ?_
  refine Fe.pure rfl rfl (by simp only [↓nrmL, nrmZ, Nat.reduceEqDiff, ↓reduceIte, Nat.reduceAdd, Int.reduceBEq, Int.reduceBNe]; rfl) ?_
  refine Fe.read rfl (exec_ld rfl rfl) rfl (by repeat (first | exact trivial | refine ⟨(by first | exact Or.inl (by dsimp only; decide) | exact Or.inr (exec_ld rfl rfl) | exact Or.inr (exec_ldN rfl rfl rfl) | exact Or.inr (exec_ldB rfl (by omega)) | exact Or.inr (exec_ldI rfl (by omega)) | exact Or.inr ghost_of), ?_⟩)) ?_
  refine Fe.pure rfl rfl (by simp only [↓nrmL, nrmZ, Nat.reduceEqDiff, ↓reduceIte, Nat.reduceAdd, Int.reduceBEq, Int.reduceBNe]; rfl) ?_
  refine Fe.pure rfl rfl (by simp only [↓nrmL, nrmZ, Nat.reduceEqDiff, ↓reduceIte, Nat.reduceAdd, Int.reduceBEq, Int.reduceBNe]; rfl) ?_
  refine Fe.pure rfl rfl (by simp only [↓nrmL, nrmZ, Nat.reduceEqDiff, ↓reduceIte, Nat.reduceAdd, Int.reduceBEq, Int.reduceBNe]; rfl) ?_
  refine Fe.pure rfl rfl (by simp only [↓nrmL, nrmZ, Nat.reduceEqDiff, ↓reduceIte, Nat.reduceAdd, Int.reduceBEq, Int.reduceBNe]; rfl) ?_
  refine Fe.read rfl (exec_ld rfl rfl) rfl (by repeat (first | exact trivial | refine ⟨(by first | exact Or.inl (by dsimp only; decide) | exact Or.inr (exec_ld rfl rfl) | exact Or.inr (exec_ldN rfl rfl rfl) | exact Or.inr (exec_ldB rfl (by omega)) | exact Or.inr (exec_ldI rfl (by omega)) | exact Or.inr ghost_of), ?_⟩)) ?_
  refine Fe.pure rfl rfl (by simp only [↓nrmL, nrmZ, Nat.reduceEqDiff, ↓reduceIte, Nat.reduceAdd, Int.reduceBEq, Int.reduceBNe]; rfl) ?_
  refine Fe.pure rfl (exec_idxP (by (try simp only [↓nrmL, nrmZ, Nat.reduceEqDiff, ↓reduceIte, Nat.reduceAdd, Int.reduceBEq, Int.reduceBNe]); rfl) rfl ?_) (by simp only [↓nrmL, nrmZ, Nat.reduceEqDiff, ↓reduceIte, Nat.reduceAdd, Int.reduceBEq, Int.reduceBNe]; rfl) ?_; (focus omega)
  refine Fe.read rfl (exec_ldB rfl (by omega)) rfl (by repeat (first | exact trivial | refine ⟨(by first | exact Or.inl (by dsimp only; decide) | exact Or.inr (exec_ld rfl rfl) | exact Or.inr (exec_ldN rfl rfl rfl) | exact Or.inr (exec_ldB rfl (by omega)) | exact Or.inr (exec_ldI rfl (by omega)) | exact Or.inr ghost_of), ?_⟩)) ?_
  refine Fe.pcall (v' := ?_) rfl hn rfl (by simp only [↓nrmL, nrmZ, Nat.reduceEqDiff, ↓reduceIte, Nat.reduceAdd, Int.reduceBEq, Int.reduceBNe, List.map]; rfl) rfl ?hv fun _ _ => ⟨(by repeat (first | exact trivial | refine ⟨(by first | exact Or.inl (by dsimp only; decide) | exact Or.inr (readOk_of (exec_ld rfl rfl)) | exact Or.inr (readOk_of (exec_ldN rfl rfl rfl)) | exact Or.inr (readOk_of (exec_ldB rfl (by omega))) | exact Or.inr (readOk_of (exec_ldI rfl (by omega))) | exact Or.inr (made_of rfl)), ?_⟩)), ?_⟩; case hv => rfl
  refine Fe.pure rfl (exec_idxP (by (try simp only [↓nrmL, nrmZ, Nat.reduceEqDiff, ↓reduceIte, Nat.reduceAdd, Int.reduceBEq, Int.reduceBNe]); rfl) rfl ?_) (by simp only [↓nrmL, nrmZ, Nat.reduceEqDiff, ↓reduceIte, Nat.reduceAdd, Int.reduceBEq, Int.reduceBNe]; rfl) ?_; (focus omega)
  refine WpE.stB (op l[i] m[i]) rfl rfl rfl rfl (by rw [hfl]; exact hil) fun H4 hb4 hw4 hx4 => ⟨(by repeat (first | exact trivial | refine ⟨(by first | exact Or.inl (by dsimp only; decide) | exact Or.inr (readOk_of (exec_ld rfl rfl)) | exact Or.inr (readOk_of (exec_ldN rfl rfl rfl)) | exact Or.inr (readOk_of (exec_ldB rfl (by omega))) | exact Or.inr (readOk_of (exec_ldI rfl (by omega))) | exact Or.inr (made_of rfl)), ?_⟩)), ?_⟩
  refine WpE.nil (hKF _ _ ?_)
  refine rg fun KF hKF => ?_
  refine Fo.bin rfl rfl rfl rfl ?_
  refine mI rfl ?_
  refine WpO.nil (hKF _ _ ?_)
  dsimp only [cond_true, cond_false]
  refine ⟨i + 1, by omega, ⟨by simp only [↓nrmL, nrmZ, Nat.reduceEqDiff, ↓reduceIte, Nat.reduceAdd, Int.reduceBEq, Int.reduceBNe]; rw [hw1], trivial⟩, hil, by rw [← filled_succ, hgl, hgm]; infer_instance, inferInstance, inferInstance⟩
end Go.Am

set_option linter.unusedSimpArgs false
set_option linter.unusedVariables false
set_option maxHeartbeats 4000000
set_option maxRecDepth 100000
namespace Go.Am
open Go
attribute [local irreducible] Wp WpO WpX WpE

/-- Is a pixel ink? -/
def inkB (w h : Int) (l : List UInt8) (x y : Int) : Bool := decide (x ≥ 0) && (decide (x < w) && (decide (y ≥ 0) && (decide (y < h) && (l.getD (y * w + x).toNat 0 == 1))))
theorem inkB_nat {a b x y : Nat} {l : List UInt8} (hx : x < a) (hy : y < b) : inkB a b l x y = (l.getD (y * a + x) 0 == 1) := by
 have e : ((y : Int) * (a : Int) + (x : Int)).toNat = y * a + x := by rw [← Int.natCast_mul, ← Int.natCast_add]; rfl
 have h1 : decide ((x : Int) ≥ 0) = true := decide_eq_true (by omega)
 have h2 : decide ((x : Int) < (a : Int)) = true := decide_eq_true (by omega)
 have h3 : decide ((y : Int) ≥ 0) = true := decide_eq_true (by omega)
 have h4 : decide ((y : Int) < (b : Int)) = true := decide_eq_true (by omega)
 simp only [inkB, h1, h2, h3, h4, e, Bool.true_and]
/-- The sides and the number of pixels fit. -/
class Fits (w h : Int) (l : List UInt8) : Prop where
 it : sizedB w h l.length = true
theorem u8_one (c : UInt8) : (((c.toNat : Nat) : Int) == 1) = (c == 1) := by
 by_cases h : c = 1
 ·subst h; rfl
 ·have h2 : c.toNat ≠ 1 := fun e => h (UInt8.toNat_inj.1 e)
  have h1 : (c == 1) = false := by simpa using h
  rw [h1]
  simp only [beq_eq_false_iff_ne, ne_eq]
  omega
theorem u8_zero (c : UInt8) : (((c.toNat : Nat) : Int) == 0) = (c == 0) := by
 by_cases h : c = 0
 ·subst h; rfl
 ·have h2 : c.toNat ≠ 0 := fun e => h (UInt8.toNat_inj.1 e)
  have h1 : (c == 0) = false := by simpa using h
  rw [h1]
  simp only [beq_eq_false_iff_ne, ne_eq]
  omega

instance K_refInk {p : AVal} {H : AHeap} {w h x y : Int} {l : List UInt8} [hp : BytesI H p l] [hs : Fits w h l] : PureCon ext prog 31 [.agg [.int .i64 w, .int .i64 h, p], .int .i64 x, .int .i64 y] H 1 (.bool (inkB w h l x y)) := ⟨by
 refine con_of (show prog 31 = some c31 from rfl) rfl rfl fun n hn => ?_
 haveI := hp.one
 obtain ⟨a, b, rfl, rfl, ha, hb, hl⟩ := sized_nat hs.it
 have hm : a * b ≤ 640 * 640 := Nat.mul_le_mul ha hb
 cases h1 : decide (x ≥ 0)
 ·have e : inkB a b l x y = false := by simp only [inkB, h1, Bool.false_and]
  rw [e]
  try simp only [↓nrmL, nrmZ, Nat.reduceEqDiff, ↓reduceIte, Nat.reduceAdd, Int.reduceBEq, Int.reduceBNe, h1]
  refine sq ?_
  refine rg fun KF hKF => ?_
  refine Fo.boxA rfl ?_
  refine mB rfl ?_
  refine WpO.nil (hKF _ _ ?_)
  refine sq ?_
  refine rg fun KF hKF => ?_
  refine mI rfl ?_
  refine Fo.bin rfl rfl rfl (by simp only [↓nrmL, nrmZ, Nat.reduceEqDiff, ↓reduceIte, Nat.reduceAdd, Int.reduceBEq, Int.reduceBNe, h1]; rfl) ?_
  refine mB rfl ?_
  refine Fo.no rfl rfl ?_
  refine Fo.no rfl rfl ?_
  refine Fo.no rfl rfl ?_
  refine Fo.no rfl rfl ?_
  refine fB rfl rfl ?_
  refine mB rfl ?_
  refine Fo.no rfl rfl ?_
  refine Fo.no rfl rfl ?_
  refine fB rfl rfl ?_
  refine mB rfl ?_
  refine Fo.no rfl rfl ?_
  refine Fo.no rfl rfl ?_
  refine Fo.no rfl rfl ?_
  refine Fo.no rfl rfl ?_
  refine fB rfl rfl ?_
  refine mB rfl ?_
  refine Fo.no rfl rfl ?_
  refine Fo.no rfl rfl ?_
  refine Fo.no rfl rfl ?_
  refine Fo.no rfl rfl ?_
  refine Fo.no rfl rfl ?_
  refine Fo.no rfl rfl ?_
  refine Fo.no rfl rfl ?_
  refine Fo.no rfl rfl ?_
  refine Fo.no rfl rfl ?_
  refine Fo.no rfl rfl ?_
  refine Fo.no rfl rfl ?_
  refine fB rfl rfl ?_
  refine mB rfl ?_
  refine WpO.nil (hKF _ _ ?_)
  refine Wp.ret ?_
  dsimp only [cond_true, cond_false]
  refine ⟨trivial, _, (by first | rfl | exact getAllC rfl rfl rfl rfl | exact getAllT rfl (getAllC rfl rfl rfl rfl) | exact getAllC rfl rfl rfl (getAllC rfl rfl rfl rfl) | exact getAllC1 rfl rfl rfl), ?_⟩
  exact ⟨rfl, Ext0.ext⟩
 cases h2 : decide (x < (a : Int))
 ·have e : inkB a b l x y = false := by simp only [inkB, h1, h2, Bool.false_and, Bool.and_false]
  rw [e]
  try simp only [↓nrmL, nrmZ, Nat.reduceEqDiff, ↓reduceIte, Nat.reduceAdd, Int.reduceBEq, Int.reduceBNe, h1, h2]
  refine sq ?_
  refine rg fun KF hKF => ?_
  refine Fo.boxA rfl ?_
  refine mB rfl ?_
  refine WpO.nil (hKF _ _ ?_)
  refine sq ?_
  refine rg fun KF hKF => ?_
  refine mI rfl ?_
  refine Fo.bin rfl rfl rfl (by simp only [↓nrmL, nrmZ, Nat.reduceEqDiff, ↓reduceIte, Nat.reduceAdd, Int.reduceBEq, Int.reduceBNe, h1, h2]; rfl) ?_
  refine mB rfl ?_
  refine Fo.yes rfl rfl ?_
  refine mI rfl ?_
  refine Fo.yes rfl rfl ?_
  refine Fo.fa rfl ?_
  refine Fo.yes rfl rfl ?_
  refine Fo.ld rfl rfl ?_
  refine Fo.yes rfl rfl ?_
  refine Fo.bin rfl rfl rfl (by simp only [↓nrmL, nrmZ, Nat.reduceEqDiff, ↓reduceIte, Nat.reduceAdd, Int.reduceBEq, Int.reduceBNe, h1, h2]; rfl) ?_
  refine tB rfl rfl ?_
  refine mB rfl ?_
  refine Fo.no rfl rfl ?_
  refine Fo.no rfl rfl ?_
  refine fB rfl rfl ?_
  refine mB rfl ?_
  refine Fo.no rfl rfl ?_
  refine Fo.no rfl rfl ?_
  refine Fo.no rfl rfl ?_
  refine Fo.no rfl rfl ?_
  refine fB rfl rfl ?_
  refine mB rfl ?_
  refine Fo.no rfl rfl ?_
  refine Fo.no rfl rfl ?_
  refine Fo.no rfl rfl ?_
  refine Fo.no rfl rfl ?_
  refine Fo.no rfl rfl ?_
  refine Fo.no rfl rfl ?_
  refine Fo.no rfl rfl ?_
  refine Fo.no rfl rfl ?_
  refine Fo.no rfl rfl ?_
  refine Fo.no rfl rfl ?_
  refine Fo.no rfl rfl ?_
  refine fB rfl rfl ?_
  refine mB rfl ?_
  refine WpO.nil (hKF _ _ ?_)
  refine Wp.ret ?_
  dsimp only [cond_true, cond_false]
  refine ⟨trivial, _, (by first | rfl | exact getAllC rfl rfl rfl rfl | exact getAllT rfl (getAllC rfl rfl rfl rfl) | exact getAllC rfl rfl rfl (getAllC rfl rfl rfl rfl) | exact getAllC1 rfl rfl rfl), ?_⟩
  exact ⟨rfl, Ext0.ext⟩
 cases h3 : decide (y ≥ 0)
 ·have e : inkB a b l x y = false := by simp only [inkB, h1, h2, h3, Bool.false_and, Bool.and_false]
  rw [e]
  try simp only [↓nrmL, nrmZ, Nat.reduceEqDiff, ↓reduceIte, Nat.reduceAdd, Int.reduceBEq, Int.reduceBNe, h1, h2, h3]
  refine sq ?_
  refine rg fun KF hKF => ?_
  refine Fo.boxA rfl ?_
  refine mB rfl ?_
  refine WpO.nil (hKF _ _ ?_)
  refine sq ?_
  refine rg fun KF hKF => ?_
  refine mI rfl ?_
  refine Fo.bin rfl rfl rfl (by simp only [↓nrmL, nrmZ, Nat.reduceEqDiff, ↓reduceIte, Nat.reduceAdd, Int.reduceBEq, Int.reduceBNe, h1, h2, h3]; rfl) ?_
  refine mB rfl ?_
  refine Fo.yes rfl rfl ?_
  refine mI rfl ?_
  refine Fo.yes rfl rfl ?_
  refine Fo.fa rfl ?_
  refine Fo.yes rfl rfl ?_
  refine Fo.ld rfl rfl ?_
  refine Fo.yes rfl rfl ?_
  refine Fo.bin rfl rfl rfl (by simp only [↓nrmL, nrmZ, Nat.reduceEqDiff, ↓reduceIte, Nat.reduceAdd, Int.reduceBEq, Int.reduceBNe, h1, h2, h3]; rfl) ?_
  refine tB rfl rfl ?_
  refine mB rfl ?_
  refine Fo.yes rfl rfl ?_
  refine mI rfl ?_
  refine Fo.yes rfl rfl ?_
  refine Fo.bin rfl rfl rfl (by simp only [↓nrmL, nrmZ, Nat.reduceEqDiff, ↓reduceIte, Nat.reduceAdd, Int.reduceBEq, Int.reduceBNe, h1, h2, h3]; rfl) ?_
  refine tB rfl rfl ?_
  refine mB rfl ?_
  refine Fo.no rfl rfl ?_
  refine Fo.no rfl rfl ?_
  refine Fo.no rfl rfl ?_
  refine Fo.no rfl rfl ?_
  refine fB rfl rfl ?_
  refine mB rfl ?_
  refine Fo.no rfl rfl ?_
  refine Fo.no rfl rfl ?_
  refine Fo.no rfl rfl ?_
  refine Fo.no rfl rfl ?_
  refine Fo.no rfl rfl ?_
  refine Fo.no rfl rfl ?_
  refine Fo.no rfl rfl ?_
  refine Fo.no rfl rfl ?_
  refine Fo.no rfl rfl ?_
  refine Fo.no rfl rfl ?_
  refine Fo.no rfl rfl ?_
  refine fB rfl rfl ?_
  refine mB rfl ?_
  refine WpO.nil (hKF _ _ ?_)
  refine Wp.ret ?_
  dsimp only [cond_true, cond_false]
  refine ⟨trivial, _, (by first | rfl | exact getAllC rfl rfl rfl rfl | exact getAllT rfl (getAllC rfl rfl rfl rfl) | exact getAllC rfl rfl rfl (getAllC rfl rfl rfl rfl) | exact getAllC1 rfl rfl rfl), ?_⟩
  exact ⟨rfl, Ext0.ext⟩
 cases h4 : decide (y < (b : Int))
 ·have e : inkB a b l x y = false := by simp only [inkB, h1, h2, h3, h4, Bool.false_and, Bool.and_false]
  rw [e]
  try simp only [↓nrmL, nrmZ, Nat.reduceEqDiff, ↓reduceIte, Nat.reduceAdd, Int.reduceBEq, Int.reduceBNe, h1, h2, h3, h4]
  refine sq ?_
  refine rg fun KF hKF => ?_
  refine Fo.boxA rfl ?_
  refine mB rfl ?_
  refine WpO.nil (hKF _ _ ?_)
  refine sq ?_
  refine rg fun KF hKF => ?_
  refine mI rfl ?_
  refine Fo.bin rfl rfl rfl (by simp only [↓nrmL, nrmZ, Nat.reduceEqDiff, ↓reduceIte, Nat.reduceAdd, Int.reduceBEq, Int.reduceBNe, h1, h2, h3, h4]; rfl) ?_
  refine mB rfl ?_
  refine Fo.yes rfl rfl ?_
  refine mI rfl ?_
  refine Fo.yes rfl rfl ?_
  refine Fo.fa rfl ?_
  refine Fo.yes rfl rfl ?_
  refine Fo.ld rfl rfl ?_
  refine Fo.yes rfl rfl ?_
  refine Fo.bin rfl rfl rfl (by simp only [↓nrmL, nrmZ, Nat.reduceEqDiff, ↓reduceIte, Nat.reduceAdd, Int.reduceBEq, Int.reduceBNe, h1, h2, h3, h4]; rfl) ?_
  refine tB rfl rfl ?_
  refine mB rfl ?_
  refine Fo.yes rfl rfl ?_
  refine mI rfl ?_
  refine Fo.yes rfl rfl ?_
  refine Fo.bin rfl rfl rfl (by simp only [↓nrmL, nrmZ, Nat.reduceEqDiff, ↓reduceIte, Nat.reduceAdd, Int.reduceBEq, Int.reduceBNe, h1, h2, h3, h4]; rfl) ?_
  refine tB rfl rfl ?_
  refine mB rfl ?_
  refine Fo.yes rfl rfl ?_
  refine mI rfl ?_
  refine Fo.yes rfl rfl ?_
  refine Fo.fa rfl ?_
  refine Fo.yes rfl rfl ?_
  refine Fo.ld rfl rfl ?_
  refine Fo.yes rfl rfl ?_
  refine Fo.bin rfl rfl rfl (by simp only [↓nrmL, nrmZ, Nat.reduceEqDiff, ↓reduceIte, Nat.reduceAdd, Int.reduceBEq, Int.reduceBNe, h1, h2, h3, h4]; rfl) ?_
  refine tB rfl rfl ?_
  refine mB rfl ?_
  refine Fo.no rfl rfl ?_
  refine Fo.no rfl rfl ?_
  refine Fo.no rfl rfl ?_
  refine Fo.no rfl rfl ?_
  refine Fo.no rfl rfl ?_
  refine Fo.no rfl rfl ?_
  refine Fo.no rfl rfl ?_
  refine Fo.no rfl rfl ?_
  refine Fo.no rfl rfl ?_
  refine Fo.no rfl rfl ?_
  refine Fo.no rfl rfl ?_
  refine fB rfl rfl ?_
  refine mB rfl ?_
  refine WpO.nil (hKF _ _ ?_)
  refine Wp.ret ?_
  dsimp only [cond_true, cond_false]
  refine ⟨trivial, _, (by first | rfl | exact getAllC rfl rfl rfl rfl | exact getAllT rfl (getAllC rfl rfl rfl rfl) | exact getAllC rfl rfl rfl (getAllC rfl rfl rfl rfl) | exact getAllC1 rfl rfl rfl), ?_⟩
  exact ⟨rfl, Ext0.ext⟩
 obtain ⟨x, rfl⟩ : ∃ k : Nat, x = k := ⟨x.toNat, by have := of_decide_eq_true h1; omega⟩
 obtain ⟨y, rfl⟩ : ∃ k : Nat, y = k := ⟨y.toNat, by have := of_decide_eq_true h3; omega⟩
 have hx : x < a := by have := of_decide_eq_true h2; omega
 have hy : y < b := by have := of_decide_eq_true h4; omega
 have hlt := idx_lt hx hy
 have hil : y * a + x < l.length := by omega
 have h5 : IntKind.i64.wrap ((y : Int) * (a : Int)) = ((y * a : Nat) : Int) := wm (by omega)
 have h6 : IntKind.i64.wrap (((y * a : Nat) : Int) + (x : Int)) = ((y * a + x : Nat) : Int) := wa (by omega)
 have e : inkB a b l x y = (l[y * a + x] == 1) := by rw [inkB_nat hx hy]; simp [hil]
 rw [e]
 try simp only [↓nrmL, nrmZ, Nat.reduceEqDiff, ↓reduceIte, Nat.reduceAdd, Int.reduceBEq, Int.reduceBNe, h1, h2, h3, h4, h5, h6, u8_one]
 refine sq ?_
 refine rg fun KF hKF => ?_
 refine Fo.boxA rfl ?_
 refine mB rfl ?_
 refine WpO.nil (hKF _ _ ?_)
 refine sq ?_
 refine rg fun KF hKF => ?_
 refine mI rfl ?_
 refine Fo.bin rfl rfl rfl (by simp only [↓nrmL, nrmZ, Nat.reduceEqDiff, ↓reduceIte, Nat.reduceAdd, Int.reduceBEq, Int.reduceBNe, h1, h2, h3, h4, h5, h6, u8_one]; rfl) ?_
 refine mB rfl ?_
 refine Fo.yes rfl rfl ?_
 refine mI rfl ?_
 refine Fo.yes rfl rfl ?_
 refine Fo.fa rfl ?_
 refine Fo.yes rfl rfl ?_
 refine Fo.ld rfl rfl ?_
 refine Fo.yes rfl rfl ?_
 refine Fo.bin rfl rfl rfl (by simp only [↓nrmL, nrmZ, Nat.reduceEqDiff, ↓reduceIte, Nat.reduceAdd, Int.reduceBEq, Int.reduceBNe, h1, h2, h3, h4, h5, h6, u8_one]; rfl) ?_
 refine tB rfl rfl ?_
 refine mB rfl ?_
 refine Fo.yes rfl rfl ?_
 refine mI rfl ?_
 refine Fo.yes rfl rfl ?_
 refine Fo.bin rfl rfl rfl (by simp only [↓nrmL, nrmZ, Nat.reduceEqDiff, ↓reduceIte, Nat.reduceAdd, Int.reduceBEq, Int.reduceBNe, h1, h2, h3, h4, h5, h6, u8_one]; rfl) ?_
 refine tB rfl rfl ?_
 refine mB rfl ?_
 refine Fo.yes rfl rfl ?_
 refine mI rfl ?_
 refine Fo.yes rfl rfl ?_
 refine Fo.fa rfl ?_
 refine Fo.yes rfl rfl ?_
 refine Fo.ld rfl rfl ?_
 refine Fo.yes rfl rfl ?_
 refine Fo.bin rfl rfl rfl (by simp only [↓nrmL, nrmZ, Nat.reduceEqDiff, ↓reduceIte, Nat.reduceAdd, Int.reduceBEq, Int.reduceBNe, h1, h2, h3, h4, h5, h6, u8_one]; rfl) ?_
 refine tB rfl rfl ?_
 refine mB rfl ?_
 refine Fo.yes rfl rfl ?_
 refine Fo.fa rfl ?_
 refine Fo.yes rfl rfl ?_
 refine Fo.ld rfl rfl ?_
 refine Fo.yes rfl rfl ?_
 refine mI rfl ?_
 refine Fo.yes rfl rfl ?_
 refine Fo.fa rfl ?_
 refine Fo.yes rfl rfl ?_
 refine Fo.ld rfl rfl ?_
 refine Fo.yes rfl rfl ?_
 refine Fo.bin rfl rfl rfl (by simp only [↓nrmL, nrmZ, Nat.reduceEqDiff, ↓reduceIte, Nat.reduceAdd, Int.reduceBEq, Int.reduceBNe, h1, h2, h3, h4, h5, h6, u8_one]; rfl) ?_
 refine Fo.yes rfl rfl ?_
 refine mI rfl ?_
 refine Fo.yes rfl rfl ?_
 refine Fo.bin rfl rfl rfl (by simp only [↓nrmL, nrmZ, Nat.reduceEqDiff, ↓reduceIte, Nat.reduceAdd, Int.reduceBEq, Int.reduceBNe, h1, h2, h3, h4, h5, h6, u8_one]; rfl) ?_
 refine Fo.yes rfl rfl ?_
 refine Fo.idx (by simp only [↓nrmL, nrmK, Nat.reduceEqDiff, ↓reduceIte]; rfl) rfl ?_ (by simp only [↓nrmL, nrmZ, Nat.reduceEqDiff, ↓reduceIte, Nat.reduceAdd, Int.reduceBEq, Int.reduceBNe, h1, h2, h3, h4, h5, h6, u8_one]; rfl) ?_; (focus omega)
 refine Fo.yes rfl rfl ?_
 refine Fo.ldB rfl ?_ rfl ?_; (focus omega)
 refine Fo.yes rfl rfl ?_
 refine Fo.bin rfl rfl rfl (by simp only [↓nrmL, nrmZ, Nat.reduceEqDiff, ↓reduceIte, Nat.reduceAdd, Int.reduceBEq, Int.reduceBNe, h1, h2, h3, h4, h5, h6, u8_one]; rfl) ?_
 refine tB rfl rfl ?_
 refine mB rfl ?_
 refine WpO.nil (hKF _ _ ?_)
 refine Wp.ret ?_
 dsimp only [cond_true, cond_false]
 refine ⟨trivial, _, (by first | rfl | exact getAllC rfl rfl rfl rfl | exact getAllT rfl (getAllC rfl rfl rfl rfl) | exact getAllC rfl rfl rfl (getAllC rfl rfl rfl rfl) | exact getAllC1 rfl rfl rfl), ?_⟩
 exact ⟨rfl, Ext0.ext⟩⟩
instance K_ink {p : AVal} {H : AHeap} {w h x y : Int} {l : List UInt8} [hp : BytesI H p l] [hs : Fits w h l] : PureCon ext prog 102 [.agg [.int .i64 w, .int .i64 h, p], .int .i64 x, .int .i64 y] H 1 (.bool (inkB w h l x y)) := ⟨by
 refine con_of (show prog 102 = some c102 from rfl) rfl rfl fun n hn => ?_
 haveI := hp.one
 obtain ⟨a, b, rfl, rfl, ha, hb, hl⟩ := sized_nat hs.it
 have hm : a * b ≤ 640 * 640 := Nat.mul_le_mul ha hb
 cases h1 : decide (x ≥ 0)
 ·have e : inkB a b l x y = false := by simp only [inkB, h1, Bool.false_and]
  rw [e]
  try simp only [↓nrmL, nrmZ, Nat.reduceEqDiff, ↓reduceIte, Nat.reduceAdd, Int.reduceBEq, Int.reduceBNe, h1]
  refine sq ?_
  refine rg fun KF hKF => ?_
  refine Fo.boxA rfl ?_
  refine mB rfl ?_
  refine WpO.nil (hKF _ _ ?_)
  refine sq ?_
  refine rg fun KF hKF => ?_
  refine mI rfl ?_
  refine Fo.bin rfl rfl rfl (by simp only [↓nrmL, nrmZ, Nat.reduceEqDiff, ↓reduceIte, Nat.reduceAdd, Int.reduceBEq, Int.reduceBNe, h1]; rfl) ?_
  refine mB rfl ?_
  refine Fo.no rfl rfl ?_
  refine Fo.no rfl rfl ?_
  refine Fo.no rfl rfl ?_
  refine Fo.no rfl rfl ?_
  refine fB rfl rfl ?_
  refine mB rfl ?_
  refine Fo.no rfl rfl ?_
  refine Fo.no rfl rfl ?_
  refine fB rfl rfl ?_
  refine mB rfl ?_
  refine Fo.no rfl rfl ?_
  refine Fo.no rfl rfl ?_
  refine Fo.no rfl rfl ?_
  refine Fo.no rfl rfl ?_
  refine fB rfl rfl ?_
  refine mB rfl ?_
  refine Fo.no rfl rfl ?_
  refine Fo.no rfl rfl ?_
  refine Fo.no rfl rfl ?_
  refine Fo.no rfl rfl ?_
  refine Fo.no rfl rfl ?_
  refine Fo.no rfl rfl ?_
  refine Fo.no rfl rfl ?_
  refine Fo.no rfl rfl ?_
  refine Fo.no rfl rfl ?_
  refine Fo.no rfl rfl ?_
  refine Fo.no rfl rfl ?_
  refine fB rfl rfl ?_
  refine mB rfl ?_
  refine WpO.nil (hKF _ _ ?_)
  refine Wp.ret ?_
  dsimp only [cond_true, cond_false]
  refine ⟨trivial, _, (by first | rfl | exact getAllC rfl rfl rfl rfl | exact getAllT rfl (getAllC rfl rfl rfl rfl) | exact getAllC rfl rfl rfl (getAllC rfl rfl rfl rfl) | exact getAllC1 rfl rfl rfl), ?_⟩
  exact ⟨rfl, Ext0.ext⟩
 cases h2 : decide (x < (a : Int))
 ·have e : inkB a b l x y = false := by simp only [inkB, h1, h2, Bool.false_and, Bool.and_false]
  rw [e]
  try simp only [↓nrmL, nrmZ, Nat.reduceEqDiff, ↓reduceIte, Nat.reduceAdd, Int.reduceBEq, Int.reduceBNe, h1, h2]
  refine sq ?_
  refine rg fun KF hKF => ?_
  refine Fo.boxA rfl ?_
  refine mB rfl ?_
  refine WpO.nil (hKF _ _ ?_)
  refine sq ?_
  refine rg fun KF hKF => ?_
  refine mI rfl ?_
  refine Fo.bin rfl rfl rfl (by simp only [↓nrmL, nrmZ, Nat.reduceEqDiff, ↓reduceIte, Nat.reduceAdd, Int.reduceBEq, Int.reduceBNe, h1, h2]; rfl) ?_
  refine mB rfl ?_
  refine Fo.yes rfl rfl ?_
  refine mI rfl ?_
  refine Fo.yes rfl rfl ?_
  refine Fo.fa rfl ?_
  refine Fo.yes rfl rfl ?_
  refine Fo.ld rfl rfl ?_
  refine Fo.yes rfl rfl ?_
  refine Fo.bin rfl rfl rfl (by simp only [↓nrmL, nrmZ, Nat.reduceEqDiff, ↓reduceIte, Nat.reduceAdd, Int.reduceBEq, Int.reduceBNe, h1, h2]; rfl) ?_
  refine tB rfl rfl ?_
  refine mB rfl ?_
  refine Fo.no rfl rfl ?_
  refine Fo.no rfl rfl ?_
  refine fB rfl rfl ?_
  refine mB rfl ?_
  refine Fo.no rfl rfl ?_
  refine Fo.no rfl rfl ?_
  refine Fo.no rfl rfl ?_
  refine Fo.no rfl rfl ?_
  refine fB rfl rfl ?_
  refine mB rfl ?_
  refine Fo.no rfl rfl ?_
  refine Fo.no rfl rfl ?_
  refine Fo.no rfl rfl ?_
  refine Fo.no rfl rfl ?_
  refine Fo.no rfl rfl ?_
  refine Fo.no rfl rfl ?_
  refine Fo.no rfl rfl ?_
  refine Fo.no rfl rfl ?_
  refine Fo.no rfl rfl ?_
  refine Fo.no rfl rfl ?_
  refine Fo.no rfl rfl ?_
  refine fB rfl rfl ?_
  refine mB rfl ?_
  refine WpO.nil (hKF _ _ ?_)
  refine Wp.ret ?_
  dsimp only [cond_true, cond_false]
  refine ⟨trivial, _, (by first | rfl | exact getAllC rfl rfl rfl rfl | exact getAllT rfl (getAllC rfl rfl rfl rfl) | exact getAllC rfl rfl rfl (getAllC rfl rfl rfl rfl) | exact getAllC1 rfl rfl rfl), ?_⟩
  exact ⟨rfl, Ext0.ext⟩
 cases h3 : decide (y ≥ 0)
 ·have e : inkB a b l x y = false := by simp only [inkB, h1, h2, h3, Bool.false_and, Bool.and_false]
  rw [e]
  try simp only [↓nrmL, nrmZ, Nat.reduceEqDiff, ↓reduceIte, Nat.reduceAdd, Int.reduceBEq, Int.reduceBNe, h1, h2, h3]
  refine sq ?_
  refine rg fun KF hKF => ?_
  refine Fo.boxA rfl ?_
  refine mB rfl ?_
  refine WpO.nil (hKF _ _ ?_)
  refine sq ?_
  refine rg fun KF hKF => ?_
  refine mI rfl ?_
  refine Fo.bin rfl rfl rfl (by simp only [↓nrmL, nrmZ, Nat.reduceEqDiff, ↓reduceIte, Nat.reduceAdd, Int.reduceBEq, Int.reduceBNe, h1, h2, h3]; rfl) ?_
  refine mB rfl ?_
  refine Fo.yes rfl rfl ?_
  refine mI rfl ?_
  refine Fo.yes rfl rfl ?_
  refine Fo.fa rfl ?_
  refine Fo.yes rfl rfl ?_
  refine Fo.ld rfl rfl ?_
  refine Fo.yes rfl rfl ?_
  refine Fo.bin rfl rfl rfl (by simp only [↓nrmL, nrmZ, Nat.reduceEqDiff, ↓reduceIte, Nat.reduceAdd, Int.reduceBEq, Int.reduceBNe, h1, h2, h3]; rfl) ?_
  refine tB rfl rfl ?_
  refine mB rfl ?_
  refine Fo.yes rfl rfl ?_
  refine mI rfl ?_
  refine Fo.yes rfl rfl ?_
  refine Fo.bin rfl rfl rfl (by simp only [↓nrmL, nrmZ, Nat.reduceEqDiff, ↓reduceIte, Nat.reduceAdd, Int.reduceBEq, Int.reduceBNe, h1, h2, h3]; rfl) ?_
  refine tB rfl rfl ?_
  refine mB rfl ?_
  refine Fo.no rfl rfl ?_
  refine Fo.no rfl rfl ?_
  refine Fo.no rfl rfl ?_
  refine Fo.no rfl rfl ?_
  refine fB rfl rfl ?_
  refine mB rfl ?_
  refine Fo.no rfl rfl ?_
  refine Fo.no rfl rfl ?_
  refine Fo.no rfl rfl ?_
  refine Fo.no rfl rfl ?_
  refine Fo.no rfl rfl ?_
  refine Fo.no rfl rfl ?_
  refine Fo.no rfl rfl ?_
  refine Fo.no rfl rfl ?_
  refine Fo.no rfl rfl ?_
  refine Fo.no rfl rfl ?_
  refine Fo.no rfl rfl ?_
  refine fB rfl rfl ?_
  refine mB rfl ?_
  refine WpO.nil (hKF _ _ ?_)
  refine Wp.ret ?_
  dsimp only [cond_true, cond_false]
  refine ⟨trivial, _, (by first | rfl | exact getAllC rfl rfl rfl rfl | exact getAllT rfl (getAllC rfl rfl rfl rfl) | exact getAllC rfl rfl rfl (getAllC rfl rfl rfl rfl) | exact getAllC1 rfl rfl rfl), ?_⟩
  exact ⟨rfl, Ext0.ext⟩
 cases h4 : decide (y < (b : Int))
 ·have e : inkB a b l x y = false := by simp only [inkB, h1, h2, h3, h4, Bool.false_and, Bool.and_false]
  rw [e]
  try simp only [↓nrmL, nrmZ, Nat.reduceEqDiff, ↓reduceIte, Nat.reduceAdd, Int.reduceBEq, Int.reduceBNe, h1, h2, h3, h4]
  refine sq ?_
  refine rg fun KF hKF => ?_
  refine Fo.boxA rfl ?_
  refine mB rfl ?_
  refine WpO.nil (hKF _ _ ?_)
  refine sq ?_
  refine rg fun KF hKF => ?_
  refine mI rfl ?_
  refine Fo.bin rfl rfl rfl (by simp only [↓nrmL, nrmZ, Nat.reduceEqDiff, ↓reduceIte, Nat.reduceAdd, Int.reduceBEq, Int.reduceBNe, h1, h2, h3, h4]; rfl) ?_
  refine mB rfl ?_
  refine Fo.yes rfl rfl ?_
  refine mI rfl ?_
  refine Fo.yes rfl rfl ?_
  refine Fo.fa rfl ?_
  refine Fo.yes rfl rfl ?_
  refine Fo.ld rfl rfl ?_
  refine Fo.yes rfl rfl ?_
  refine Fo.bin rfl rfl rfl (by simp only [↓nrmL, nrmZ, Nat.reduceEqDiff, ↓reduceIte, Nat.reduceAdd, Int.reduceBEq, Int.reduceBNe, h1, h2, h3, h4]; rfl) ?_
  refine tB rfl rfl ?_
  refine mB rfl ?_
  refine Fo.yes rfl rfl ?_
  refine mI rfl ?_
  refine Fo.yes rfl rfl ?_
  refine Fo.bin rfl rfl rfl (by simp only [↓nrmL, nrmZ, Nat.reduceEqDiff, ↓reduceIte, Nat.reduceAdd, Int.reduceBEq, Int.reduceBNe, h1, h2, h3, h4]; rfl) ?_
  refine tB rfl rfl ?_
  refine mB rfl ?_
  refine Fo.yes rfl rfl ?_
  refine mI rfl ?_
  refine Fo.yes rfl rfl ?_
  refine Fo.fa rfl ?_
  refine Fo.yes rfl rfl ?_
  refine Fo.ld rfl rfl ?_
  refine Fo.yes rfl rfl ?_
  refine Fo.bin rfl rfl rfl (by simp only [↓nrmL, nrmZ, Nat.reduceEqDiff, ↓reduceIte, Nat.reduceAdd, Int.reduceBEq, Int.reduceBNe, h1, h2, h3, h4]; rfl) ?_
  refine tB rfl rfl ?_
  refine mB rfl ?_
  refine Fo.no rfl rfl ?_
  refine Fo.no rfl rfl ?_
  refine Fo.no rfl rfl ?_
  refine Fo.no rfl rfl ?_
  refine Fo.no rfl rfl ?_
  refine Fo.no rfl rfl ?_
  refine Fo.no rfl rfl ?_
  refine Fo.no rfl rfl ?_
  refine Fo.no rfl rfl ?_
  refine Fo.no rfl rfl ?_
  refine Fo.no rfl rfl ?_
  refine fB rfl rfl ?_
  refine mB rfl ?_
  refine WpO.nil (hKF _ _ ?_)
  refine Wp.ret ?_
  dsimp only [cond_true, cond_false]
  refine ⟨trivial, _, (by first | rfl | exact getAllC rfl rfl rfl rfl | exact getAllT rfl (getAllC rfl rfl rfl rfl) | exact getAllC rfl rfl rfl (getAllC rfl rfl rfl rfl) | exact getAllC1 rfl rfl rfl), ?_⟩
  exact ⟨rfl, Ext0.ext⟩
 obtain ⟨x, rfl⟩ : ∃ k : Nat, x = k := ⟨x.toNat, by have := of_decide_eq_true h1; omega⟩
 obtain ⟨y, rfl⟩ : ∃ k : Nat, y = k := ⟨y.toNat, by have := of_decide_eq_true h3; omega⟩
 have hx : x < a := by have := of_decide_eq_true h2; omega
 have hy : y < b := by have := of_decide_eq_true h4; omega
 have hlt := idx_lt hx hy
 have hil : y * a + x < l.length := by omega
 have h5 : IntKind.i64.wrap ((y : Int) * (a : Int)) = ((y * a : Nat) : Int) := wm (by omega)
 have h6 : IntKind.i64.wrap (((y * a : Nat) : Int) + (x : Int)) = ((y * a + x : Nat) : Int) := wa (by omega)
 have e : inkB a b l x y = (l[y * a + x] == 1) := by rw [inkB_nat hx hy]; simp [hil]
 rw [e]
 try simp only [↓nrmL, nrmZ, Nat.reduceEqDiff, ↓reduceIte, Nat.reduceAdd, Int.reduceBEq, Int.reduceBNe, h1, h2, h3, h4, h5, h6, u8_one]
 refine sq ?_
 refine rg fun KF hKF => ?_
 refine Fo.boxA rfl ?_
 refine mB rfl ?_
 refine WpO.nil (hKF _ _ ?_)
 refine sq ?_
 refine rg fun KF hKF => ?_
 refine mI rfl ?_
 refine Fo.bin rfl rfl rfl (by simp only [↓nrmL, nrmZ, Nat.reduceEqDiff, ↓reduceIte, Nat.reduceAdd, Int.reduceBEq, Int.reduceBNe, h1, h2, h3, h4, h5, h6, u8_one]; rfl) ?_
 refine mB rfl ?_
 refine Fo.yes rfl rfl ?_
 refine mI rfl ?_
 refine Fo.yes rfl rfl ?_
 refine Fo.fa rfl ?_
 refine Fo.yes rfl rfl ?_
 refine Fo.ld rfl rfl ?_
 refine Fo.yes rfl rfl ?_
 refine Fo.bin rfl rfl rfl (by simp only [↓nrmL, nrmZ, Nat.reduceEqDiff, ↓reduceIte, Nat.reduceAdd, Int.reduceBEq, Int.reduceBNe, h1, h2, h3, h4, h5, h6, u8_one]; rfl) ?_
 refine tB rfl rfl ?_
 refine mB rfl ?_
 refine Fo.yes rfl rfl ?_
 refine mI rfl ?_
 refine Fo.yes rfl rfl ?_
 refine Fo.bin rfl rfl rfl (by simp only [↓nrmL, nrmZ, Nat.reduceEqDiff, ↓reduceIte, Nat.reduceAdd, Int.reduceBEq, Int.reduceBNe, h1, h2, h3, h4, h5, h6, u8_one]; rfl) ?_
 refine tB rfl rfl ?_
 refine mB rfl ?_
 refine Fo.yes rfl rfl ?_
 refine mI rfl ?_
 refine Fo.yes rfl rfl ?_
 refine Fo.fa rfl ?_
 refine Fo.yes rfl rfl ?_
 refine Fo.ld rfl rfl ?_
 refine Fo.yes rfl rfl ?_
 refine Fo.bin rfl rfl rfl (by simp only [↓nrmL, nrmZ, Nat.reduceEqDiff, ↓reduceIte, Nat.reduceAdd, Int.reduceBEq, Int.reduceBNe, h1, h2, h3, h4, h5, h6, u8_one]; rfl) ?_
 refine tB rfl rfl ?_
 refine mB rfl ?_
 refine Fo.yes rfl rfl ?_
 refine Fo.fa rfl ?_
 refine Fo.yes rfl rfl ?_
 refine Fo.ld rfl rfl ?_
 refine Fo.yes rfl rfl ?_
 refine mI rfl ?_
 refine Fo.yes rfl rfl ?_
 refine Fo.fa rfl ?_
 refine Fo.yes rfl rfl ?_
 refine Fo.ld rfl rfl ?_
 refine Fo.yes rfl rfl ?_
 refine Fo.bin rfl rfl rfl (by simp only [↓nrmL, nrmZ, Nat.reduceEqDiff, ↓reduceIte, Nat.reduceAdd, Int.reduceBEq, Int.reduceBNe, h1, h2, h3, h4, h5, h6, u8_one]; rfl) ?_
 refine Fo.yes rfl rfl ?_
 refine mI rfl ?_
 refine Fo.yes rfl rfl ?_
 refine Fo.bin rfl rfl rfl (by simp only [↓nrmL, nrmZ, Nat.reduceEqDiff, ↓reduceIte, Nat.reduceAdd, Int.reduceBEq, Int.reduceBNe, h1, h2, h3, h4, h5, h6, u8_one]; rfl) ?_
 refine Fo.yes rfl rfl ?_
 refine Fo.idx (by simp only [↓nrmL, nrmK, Nat.reduceEqDiff, ↓reduceIte]; rfl) rfl ?_ (by simp only [↓nrmL, nrmZ, Nat.reduceEqDiff, ↓reduceIte, Nat.reduceAdd, Int.reduceBEq, Int.reduceBNe, h1, h2, h3, h4, h5, h6, u8_one]; rfl) ?_; (focus omega)
 refine Fo.yes rfl rfl ?_
 refine Fo.ldB rfl ?_ rfl ?_; (focus omega)
 refine Fo.yes rfl rfl ?_
 refine Fo.bin rfl rfl rfl (by simp only [↓nrmL, nrmZ, Nat.reduceEqDiff, ↓reduceIte, Nat.reduceAdd, Int.reduceBEq, Int.reduceBNe, h1, h2, h3, h4, h5, h6, u8_one]; rfl) ?_
 refine tB rfl rfl ?_
 refine mB rfl ?_
 refine WpO.nil (hKF _ _ ?_)
 refine Wp.ret ?_
 dsimp only [cond_true, cond_false]
 refine ⟨trivial, _, (by first | rfl | exact getAllC rfl rfl rfl rfl | exact getAllT rfl (getAllC rfl rfl rfl rfl) | exact getAllC rfl rfl rfl (getAllC rfl rfl rfl rfl) | exact getAllC1 rfl rfl rfl), ?_⟩
 exact ⟨rfl, Ext0.ext⟩⟩

instance K_NewError {w h : Int} {H : AHeap} : PureCon ext prog 24 [.int .i64 w, .int .i64 h] H 2 (.int .i64 (sizeErr (sideB w && sideB h))) := ⟨by
 refine con_of (show prog 24 = some c24 from rfl) rfl rfl fun n hn => ?_
 cases h1 : (sideB w && sideB h)
 ·skip
  try simp only [↓nrmL, nrmZ, Nat.reduceEqDiff, ↓reduceIte, Nat.reduceAdd, Int.reduceBEq, Int.reduceBNe, h1]
  refine sq ?_
  refine rg fun KF hKF => ?_
  refine mI rfl ?_
  refine WpO.nil (hKF _ _ ?_)
  refine sq ?_
  refine sq ?_
  refine rg fun KF hKF => ?_
  refine mI rfl ?_
  refine mI rfl ?_
  refine Fo.pcall (v' := ?_) hn rfl (by simp only [↓nrmL, nrmZ, Nat.reduceEqDiff, ↓reduceIte, Nat.reduceAdd, Int.reduceBEq, Int.reduceBNe, h1, List.map]; rfl) rfl ?hv fun _ _ => ?_; case hv => (simp only [↓nrmL, nrmZ, Nat.reduceEqDiff, ↓reduceIte, Nat.reduceAdd, Int.reduceBEq, Int.reduceBNe, h1]; rfl)
  refine Fo.now rfl rfl (by simp only [↓nrmL, nrmZ, Nat.reduceEqDiff, ↓reduceIte, Nat.reduceAdd, Int.reduceBEq, Int.reduceBNe, h1]; rfl) ?_
  refine WpO.nil (hKF _ _ ?_)
  refine Wp.cond (b := true) rfl ?_
  refine sq ?_
  refine rg fun KF hKF => ?_
  refine mI rfl ?_
  refine WpO.nil (hKF _ _ ?_)
  refine Wp.ret ?_
  dsimp only [cond_true, cond_false]
  refine ⟨trivial, _, (by first | rfl | exact getAllC rfl rfl rfl rfl | exact getAllT rfl (getAllC rfl rfl rfl rfl) | exact getAllC rfl rfl rfl (getAllC rfl rfl rfl rfl) | exact getAllC1 rfl rfl rfl), ?_⟩
  exact ⟨rfl, Ext0.ext⟩
 ·skip
  try simp only [↓nrmL, nrmZ, Nat.reduceEqDiff, ↓reduceIte, Nat.reduceAdd, Int.reduceBEq, Int.reduceBNe, h1]
  refine sq ?_
  refine rg fun KF hKF => ?_
  refine mI rfl ?_
  refine WpO.nil (hKF _ _ ?_)
  refine sq ?_
  refine sq ?_
  refine rg fun KF hKF => ?_
  refine mI rfl ?_
  refine mI rfl ?_
  refine Fo.pcall (v' := ?_) hn rfl (by simp only [↓nrmL, nrmZ, Nat.reduceEqDiff, ↓reduceIte, Nat.reduceAdd, Int.reduceBEq, Int.reduceBNe, h1, List.map]; rfl) rfl ?hv fun _ _ => ?_; case hv => (simp only [↓nrmL, nrmZ, Nat.reduceEqDiff, ↓reduceIte, Nat.reduceAdd, Int.reduceBEq, Int.reduceBNe, h1]; rfl)
  refine Fo.now rfl rfl (by simp only [↓nrmL, nrmZ, Nat.reduceEqDiff, ↓reduceIte, Nat.reduceAdd, Int.reduceBEq, Int.reduceBNe, h1]; rfl) ?_
  refine WpO.nil (hKF _ _ ?_)
  refine Wp.cond (b := false) rfl ?_
  refine Wp.skip ?_
  refine sq ?_
  refine rg fun KF hKF => ?_
  refine mI rfl ?_
  refine WpO.nil (hKF _ _ ?_)
  refine Wp.ret ?_
  dsimp only [cond_true, cond_false]
  refine ⟨trivial, _, (by first | rfl | exact getAllC rfl rfl rfl rfl | exact getAllT rfl (getAllC rfl rfl rfl rfl) | exact getAllC rfl rfl rfl (getAllC rfl rfl rfl rfl) | exact getAllC1 rfl rfl rfl), ?_⟩
  exact ⟨rfl, Ext0.ext⟩⟩

theorem pxOk_take {l : List UInt8} {i : Nat} (h : i < l.length) : pxOk (l.take (i + 1)) = (pxOk (l.take i) && (l[i] == 0 || l[i] == 1)) := by
 rw [List.take_succ_eq_append_getElem h]
 simp only [pxOk, List.all_append, List.all_cons, List.all_nil, Bool.and_true]
theorem pxOk_bad {l : List UInt8} {i : Nat} (h : i < l.length) (hb : (l[i] == 0 || l[i] == 1) = false) : pxOk l = false := by
 cases hp : pxOk l
 ·rfl
 ·have := List.all_eq_true.1 hp l[i] (List.getElem_mem h)
  rw [hb] at this; cases this

instance K_refCheck {p : AVal} {H : AHeap} {w h : Int} {l : List UInt8} [hp : BytesI H p l] : PureCon ext prog 17 [.agg [.int .i64 w, .int .i64 h, p]] H 2 (.int .i64 (Img.err ⟨w, h, l⟩)) := ⟨by
 refine con_of (show prog 17 = some c17 from rfl) rfl rfl fun n hn => ?_
 haveI := hp.one
 unfold Img.err Img.sized sizedB
 cases h1 : (sideB w && sideB h)
 ·skip
  try simp only [↓nrmL, nrmZ, Nat.reduceEqDiff, ↓reduceIte, Nat.reduceAdd, Int.reduceBEq, Int.reduceBNe, h1]
  refine sq ?_
  refine rg fun KF hKF => ?_
  refine Fo.boxA rfl ?_
  refine mI rfl ?_
  refine WpO.nil (hKF _ _ ?_)
  refine sq ?_
  refine sq ?_
  refine rg fun KF hKF => ?_
  refine Fo.fa rfl ?_
  refine Fo.ld rfl rfl ?_
  refine Fo.fa rfl ?_
  refine Fo.ld rfl rfl ?_
  refine Fo.pcall (v' := ?_) hn rfl (by simp only [↓nrmL, nrmZ, Nat.reduceEqDiff, ↓reduceIte, Nat.reduceAdd, Int.reduceBEq, Int.reduceBNe, h1, List.map]; rfl) rfl ?hv fun _ _ => ?_; case hv => (simp only [↓nrmL, nrmZ, Nat.reduceEqDiff, ↓reduceIte, Nat.reduceAdd, Int.reduceBEq, Int.reduceBNe, h1]; rfl)
  refine Fo.now rfl rfl (by simp only [↓nrmL, nrmZ, Nat.reduceEqDiff, ↓reduceIte, Nat.reduceAdd, Int.reduceBEq, Int.reduceBNe, h1]; rfl) ?_
  refine mB rfl ?_
  refine Fo.no rfl rfl ?_
  refine Fo.no rfl rfl ?_
  refine Fo.no rfl rfl ?_
  refine Fo.no rfl rfl ?_
  refine Fo.no rfl rfl ?_
  refine Fo.no rfl rfl ?_
  refine Fo.no rfl rfl ?_
  refine Fo.no rfl rfl ?_
  refine Fo.no rfl rfl ?_
  refine tB rfl rfl ?_
  refine WpO.nil (hKF _ _ ?_)
  refine Wp.cond (b := true) rfl ?_
  refine sq ?_
  refine rg fun KF hKF => ?_
  refine mI rfl ?_
  refine WpO.nil (hKF _ _ ?_)
  refine Wp.ret ?_
  dsimp only [cond_true, cond_false]
  refine ⟨trivial, _, (by first | rfl | exact getAllC rfl rfl rfl rfl | exact getAllT rfl (getAllC rfl rfl rfl rfl) | exact getAllC rfl rfl rfl (getAllC rfl rfl rfl rfl) | exact getAllC1 rfl rfl rfl), ?_⟩
  exact ⟨rfl, Ext0.ext⟩
 cases h2 : (((l.length : Nat) : Int) == IntKind.i64.wrap (w * h))
 ·skip
  try simp only [↓nrmL, nrmZ, Nat.reduceEqDiff, ↓reduceIte, Nat.reduceAdd, Int.reduceBEq, Int.reduceBNe, h1, h2, bne]
  refine sq ?_
  refine rg fun KF hKF => ?_
  refine Fo.boxA rfl ?_
  refine mI rfl ?_
  refine WpO.nil (hKF _ _ ?_)
  refine sq ?_
  refine sq ?_
  refine rg fun KF hKF => ?_
  refine Fo.fa rfl ?_
  refine Fo.ld rfl rfl ?_
  refine Fo.fa rfl ?_
  refine Fo.ld rfl rfl ?_
  refine Fo.pcall (v' := ?_) hn rfl (by simp only [↓nrmL, nrmZ, Nat.reduceEqDiff, ↓reduceIte, Nat.reduceAdd, Int.reduceBEq, Int.reduceBNe, h1, h2, bne, List.map]; rfl) rfl ?hv fun _ _ => ?_; case hv => (simp only [↓nrmL, nrmZ, Nat.reduceEqDiff, ↓reduceIte, Nat.reduceAdd, Int.reduceBEq, Int.reduceBNe, h1, h2, bne]; rfl)
  refine Fo.now rfl rfl (by simp only [↓nrmL, nrmZ, Nat.reduceEqDiff, ↓reduceIte, Nat.reduceAdd, Int.reduceBEq, Int.reduceBNe, h1, h2, bne]; rfl) ?_
  refine mB rfl ?_
  refine Fo.yes rfl rfl ?_
  refine Fo.fa rfl ?_
  refine Fo.yes rfl rfl ?_
  refine Fo.ld rfl rfl ?_
  refine Fo.yes rfl rfl ?_
  refine Fo.len (v := ?_) (by simp only [↓nrmL, nrmK, Nat.reduceEqDiff, ↓reduceIte]; rfl) ?hv ?_; case hv => rfl
  refine Fo.yes rfl rfl ?_
  refine Fo.fa rfl ?_
  refine Fo.yes rfl rfl ?_
  refine Fo.ld rfl rfl ?_
  refine Fo.yes rfl rfl ?_
  refine Fo.fa rfl ?_
  refine Fo.yes rfl rfl ?_
  refine Fo.ld rfl rfl ?_
  refine Fo.yes rfl rfl ?_
  refine Fo.bin rfl rfl rfl rfl ?_
  refine Fo.yes rfl rfl ?_
  refine Fo.bin rfl rfl rfl (by simp only [↓nrmL, nrmZ, Nat.reduceEqDiff, ↓reduceIte, Nat.reduceAdd, Int.reduceBEq, Int.reduceBNe, h1, h2, bne]; rfl) ?_
  refine fB rfl rfl ?_
  refine WpO.nil (hKF _ _ ?_)
  refine Wp.cond (b := true) rfl ?_
  refine sq ?_
  refine rg fun KF hKF => ?_
  refine mI rfl ?_
  refine WpO.nil (hKF _ _ ?_)
  refine Wp.ret ?_
  dsimp only [cond_true, cond_false]
  refine ⟨trivial, _, (by first | rfl | exact getAllC rfl rfl rfl rfl | exact getAllT rfl (getAllC rfl rfl rfl rfl) | exact getAllC rfl rfl rfl (getAllC rfl rfl rfl rfl) | exact getAllC1 rfl rfl rfl), ?_⟩
  exact ⟨rfl, Ext0.ext⟩
 have hs : sizedB w h l.length = true := by unfold sizedB; rw [h1, h2]; rfl
 obtain ⟨a, b, _, _, ha, hb, hl⟩ := sized_nat hs
 have hm : a * b ≤ 640 * 640 := Nat.mul_le_mul ha hb
 try simp only [↓nrmL, nrmZ, Nat.reduceEqDiff, ↓reduceIte, Nat.reduceAdd, Int.reduceBEq, Int.reduceBNe, h1, h2, bne]
 refine sq ?_
 refine rg fun KF hKF => ?_
 refine Fo.boxA rfl ?_
 refine mI rfl ?_
 refine WpO.nil (hKF _ _ ?_)
 refine sq ?_
 refine sq ?_
 refine rg fun KF hKF => ?_
 refine Fo.fa rfl ?_
 refine Fo.ld rfl rfl ?_
 refine Fo.fa rfl ?_
 refine Fo.ld rfl rfl ?_
 refine Fo.pcall (v' := ?_) hn rfl (by simp only [↓nrmL, nrmZ, Nat.reduceEqDiff, ↓reduceIte, Nat.reduceAdd, Int.reduceBEq, Int.reduceBNe, h1, h2, bne, List.map]; rfl) rfl ?hv fun _ _ => ?_; case hv => (simp only [↓nrmL, nrmZ, Nat.reduceEqDiff, ↓reduceIte, Nat.reduceAdd, Int.reduceBEq, Int.reduceBNe, h1, h2, bne]; rfl)
 refine Fo.now rfl rfl (by simp only [↓nrmL, nrmZ, Nat.reduceEqDiff, ↓reduceIte, Nat.reduceAdd, Int.reduceBEq, Int.reduceBNe, h1, h2, bne]; rfl) ?_
 refine mB rfl ?_
 refine Fo.yes rfl rfl ?_
 refine Fo.fa rfl ?_
 refine Fo.yes rfl rfl ?_
 refine Fo.ld rfl rfl ?_
 refine Fo.yes rfl rfl ?_
 refine Fo.len (v := ?_) (by simp only [↓nrmL, nrmK, Nat.reduceEqDiff, ↓reduceIte]; rfl) ?hv ?_; case hv => rfl
 refine Fo.yes rfl rfl ?_
 refine Fo.fa rfl ?_
 refine Fo.yes rfl rfl ?_
 refine Fo.ld rfl rfl ?_
 refine Fo.yes rfl rfl ?_
 refine Fo.fa rfl ?_
 refine Fo.yes rfl rfl ?_
 refine Fo.ld rfl rfl ?_
 refine Fo.yes rfl rfl ?_
 refine Fo.bin rfl rfl rfl rfl ?_
 refine Fo.yes rfl rfl ?_
 refine Fo.bin rfl rfl rfl (by simp only [↓nrmL, nrmZ, Nat.reduceEqDiff, ↓reduceIte, Nat.reduceAdd, Int.reduceBEq, Int.reduceBNe, h1, h2, bne]; rfl) ?_
 refine fB rfl rfl ?_
 refine WpO.nil (hKF _ _ ?_)
 refine Wp.cond (b := false) rfl ?_
 refine Wp.skip ?_
 refine sq ?_
 refine sq ?_
 refine rg fun KF hKF => ?_
 refine mI rfl ?_
 refine WpO.nil (hKF _ _ ?_)
 refine Wp.block ?_
 dsimp only [cond_true, cond_false]
 refine Wp.loopS [2, 3, 21, 22, 23, 24, 25, 26, 27, 28, 29, 30, 31, 32, 33, 34, 35, 36, 37, 38, 39, 40, 41] (fun i : Nat => [(3, .int .i64 i)]) (fun H3 i H2 => i ≤ l.length ∧ pxOk (l.take i) = true ∧ H2 = H3) (fun i => l.length - i) 0 rfl (fun _ => rfl) ⟨rfl, trivial⟩ ⟨Nat.zero_le _, rfl, rfl⟩ (by unfold fuel0 at hn; omega) ?_
 rintro i g H2 ⟨hi, hok, rfl⟩
 simp only [↓nrmL, nrmZ, Nat.reduceEqDiff, ↓reduceIte, Nat.reduceAdd, Int.reduceBEq, Int.reduceBNe]
 cases hc : decide ((i : Int) < (l.length : Int))
 ·have hil : i = l.length := by have := of_decide_eq_false hc; omega
  subst hil
  rw [List.take_length] at hok
  try simp only [↓nrmL, nrmZ, Nat.reduceEqDiff, ↓reduceIte, Nat.reduceAdd, Int.reduceBEq, Int.reduceBNe, hc]
  refine sq ?_
  refine sq ?_
  refine rg fun KF hKF => ?_
  refine mI rfl ?_
  refine Fo.fa rfl ?_
  refine Fo.ld rfl rfl ?_
  refine Fo.len (v := ?_) (by simp only [↓nrmL, nrmK, Nat.reduceEqDiff, ↓reduceIte]; rfl) ?hv ?_; case hv => rfl
  refine Fo.bin rfl rfl rfl (by simp only [↓nrmL, nrmZ, Nat.reduceEqDiff, ↓reduceIte, Nat.reduceAdd, Int.reduceBEq, Int.reduceBNe, hc]; rfl) ?_
  refine WpO.nil (hKF _ _ ?_)
  refine Wp.cond (b := false) rfl ?_
  refine Wp.exit ?_
  refine sq ?_
  refine rg fun KF hKF => ?_
  refine mI rfl ?_
  refine WpO.nil (hKF _ _ ?_)
  refine Wp.ret ?_
  dsimp only [cond_true, cond_false]
  refine ⟨trivial, _, (by first | rfl | exact getAllC rfl rfl rfl rfl | exact getAllT rfl (getAllC rfl rfl rfl rfl) | exact getAllC rfl rfl rfl (getAllC rfl rfl rfl rfl) | exact getAllC1 rfl rfl rfl), ?_⟩
  exact ⟨by rw [hok]; rfl, Ext0.ext⟩
 ·have hil : i < l.length := by have := of_decide_eq_true hc; omega
  have hw1 := wa1 (a := i) (by omega)
  cases h0 : (l[i] == 0)
  ·cases h4 : (l[i] == 1)
   ·skip
    try simp only [↓nrmL, nrmZ, Nat.reduceEqDiff, ↓reduceIte, Nat.reduceAdd, Int.reduceBEq, Int.reduceBNe, hc, bne, u8_zero, u8_one, h0, h4]
    refine sq ?_
    refine sq ?_
    refine rg fun KF hKF => ?_
    refine mI rfl ?_
    refine Fo.fa rfl ?_
    refine Fo.ld rfl rfl ?_
    refine Fo.len (v := ?_) (by simp only [↓nrmL, nrmK, Nat.reduceEqDiff, ↓reduceIte]; rfl) ?hv ?_; case hv => rfl
    refine Fo.bin rfl rfl rfl (by simp only [↓nrmL, nrmZ, Nat.reduceEqDiff, ↓reduceIte, Nat.reduceAdd, Int.reduceBEq, Int.reduceBNe, hc, bne, u8_zero, u8_one, h0, h4]; rfl) ?_
    refine WpO.nil (hKF _ _ ?_)
    refine Wp.cond (b := true) rfl ?_
    refine Wp.skip ?_
    refine sq ?_
    refine Wp.block ?_
    refine sq ?_
    refine rg fun KF hKF => ?_
    refine Fo.fa rfl ?_
    refine Fo.ld rfl rfl ?_
    refine mI rfl ?_
    refine Fo.idx (by simp only [↓nrmL, nrmK, Nat.reduceEqDiff, ↓reduceIte]; rfl) rfl ?_ (by simp only [↓nrmL, nrmZ, Nat.reduceEqDiff, ↓reduceIte, Nat.reduceAdd, Int.reduceBEq, Int.reduceBNe, hc, bne, u8_zero, u8_one, h0, h4]; rfl) ?_; (focus omega)
    refine Fo.ldB rfl ?_ rfl ?_; (focus omega)
    refine Fo.bin rfl rfl rfl (by simp only [↓nrmL, nrmZ, Nat.reduceEqDiff, ↓reduceIte, Nat.reduceAdd, Int.reduceBEq, Int.reduceBNe, hc, bne, u8_zero, u8_one, h0, h4]; rfl) ?_
    refine mB rfl ?_
    refine Fo.yes rfl rfl ?_
    refine Fo.fa rfl ?_
    refine Fo.yes rfl rfl ?_
    refine Fo.ld rfl rfl ?_
    refine Fo.yes rfl rfl ?_
    refine mI rfl ?_
    refine Fo.yes rfl rfl ?_
    refine Fo.idx (by simp only [↓nrmL, nrmK, Nat.reduceEqDiff, ↓reduceIte]; rfl) rfl ?_ (by simp only [↓nrmL, nrmZ, Nat.reduceEqDiff, ↓reduceIte, Nat.reduceAdd, Int.reduceBEq, Int.reduceBNe, hc, bne, u8_zero, u8_one, h0, h4]; rfl) ?_; (focus omega)
    refine Fo.yes rfl rfl ?_
    refine Fo.ldB rfl ?_ rfl ?_; (focus omega)
    refine Fo.yes rfl rfl ?_
    refine Fo.bin rfl rfl rfl (by simp only [↓nrmL, nrmZ, Nat.reduceEqDiff, ↓reduceIte, Nat.reduceAdd, Int.reduceBEq, Int.reduceBNe, hc, bne, u8_zero, u8_one, h0, h4]; rfl) ?_
    refine tB rfl rfl ?_
    refine WpO.nil (hKF _ _ ?_)
    refine Wp.cond (b := true) rfl ?_
    refine sq ?_
    refine rg fun KF hKF => ?_
    refine mI rfl ?_
    refine WpO.nil (hKF _ _ ?_)
    refine Wp.ret ?_
    dsimp only [cond_true, cond_false]
    refine ⟨trivial, _, (by first | rfl | exact getAllC rfl rfl rfl rfl | exact getAllT rfl (getAllC rfl rfl rfl rfl) | exact getAllC rfl rfl rfl (getAllC rfl rfl rfl rfl) | exact getAllC1 rfl rfl rfl), ?_⟩
    exact ⟨by rw [pxOk_bad hil (by rw [h0, h4]; rfl)]; rfl, Ext0.ext⟩
   ·skip
    try simp only [↓nrmL, nrmZ, Nat.reduceEqDiff, ↓reduceIte, Nat.reduceAdd, Int.reduceBEq, Int.reduceBNe, hc, bne, u8_zero, u8_one, h0, h4]
    refine sq ?_
    refine sq ?_
    refine rg fun KF hKF => ?_
    refine mI rfl ?_
    refine Fo.fa rfl ?_
    refine Fo.ld rfl rfl ?_
    refine Fo.len (v := ?_) (by simp only [↓nrmL, nrmK, Nat.reduceEqDiff, ↓reduceIte]; rfl) ?hv ?_; case hv => rfl
    refine Fo.bin rfl rfl rfl (by simp only [↓nrmL, nrmZ, Nat.reduceEqDiff, ↓reduceIte, Nat.reduceAdd, Int.reduceBEq, Int.reduceBNe, hc, bne, u8_zero, u8_one, h0, h4]; rfl) ?_
    refine WpO.nil (hKF _ _ ?_)
    refine Wp.cond (b := true) rfl ?_
    refine Wp.skip ?_
    refine sq ?_
    refine Wp.block ?_
    refine sq ?_
    refine rg fun KF hKF => ?_
    refine Fo.fa rfl ?_
    refine Fo.ld rfl rfl ?_
    refine mI rfl ?_
    refine Fo.idx (by simp only [↓nrmL, nrmK, Nat.reduceEqDiff, ↓reduceIte]; rfl) rfl ?_ (by simp only [↓nrmL, nrmZ, Nat.reduceEqDiff, ↓reduceIte, Nat.reduceAdd, Int.reduceBEq, Int.reduceBNe, hc, bne, u8_zero, u8_one, h0, h4]; rfl) ?_; (focus omega)
    refine Fo.ldB rfl ?_ rfl ?_; (focus omega)
    refine Fo.bin rfl rfl rfl (by simp only [↓nrmL, nrmZ, Nat.reduceEqDiff, ↓reduceIte, Nat.reduceAdd, Int.reduceBEq, Int.reduceBNe, hc, bne, u8_zero, u8_one, h0, h4]; rfl) ?_
    refine mB rfl ?_
    refine Fo.yes rfl rfl ?_
    refine Fo.fa rfl ?_
    refine Fo.yes rfl rfl ?_
    refine Fo.ld rfl rfl ?_
    refine Fo.yes rfl rfl ?_
    refine mI rfl ?_
    refine Fo.yes rfl rfl ?_
    refine Fo.idx (by simp only [↓nrmL, nrmK, Nat.reduceEqDiff, ↓reduceIte]; rfl) rfl ?_ (by simp only [↓nrmL, nrmZ, Nat.reduceEqDiff, ↓reduceIte, Nat.reduceAdd, Int.reduceBEq, Int.reduceBNe, hc, bne, u8_zero, u8_one, h0, h4]; rfl) ?_; (focus omega)
    refine Fo.yes rfl rfl ?_
    refine Fo.ldB rfl ?_ rfl ?_; (focus omega)
    refine Fo.yes rfl rfl ?_
    refine Fo.bin rfl rfl rfl (by simp only [↓nrmL, nrmZ, Nat.reduceEqDiff, ↓reduceIte, Nat.reduceAdd, Int.reduceBEq, Int.reduceBNe, hc, bne, u8_zero, u8_one, h0, h4]; rfl) ?_
    refine tB rfl rfl ?_
    refine WpO.nil (hKF _ _ ?_)
    refine Wp.cond (b := false) rfl ?_
    refine Wp.skip ?_
    refine rg fun KF hKF => ?_
    refine mI rfl ?_
    refine Fo.bin rfl rfl rfl rfl ?_
    refine mI rfl ?_
    refine WpO.nil (hKF _ _ ?_)
    dsimp only [cond_true, cond_false]
    exact ⟨i + 1, by omega, ⟨by simp only [↓nrmL, nrmZ, Nat.reduceEqDiff, ↓reduceIte, Nat.reduceAdd, Int.reduceBEq, Int.reduceBNe]; rw [hw1], trivial⟩, hil, by rw [pxOk_take hil, hok, h0, h4]; rfl, rfl⟩
  ·skip
   try simp only [↓nrmL, nrmZ, Nat.reduceEqDiff, ↓reduceIte, Nat.reduceAdd, Int.reduceBEq, Int.reduceBNe, hc, bne, u8_zero, u8_one, h0]
   refine sq ?_
   refine sq ?_
   refine rg fun KF hKF => ?_
   refine mI rfl ?_
   refine Fo.fa rfl ?_
   refine Fo.ld rfl rfl ?_
   refine Fo.len (v := ?_) (by simp only [↓nrmL, nrmK, Nat.reduceEqDiff, ↓reduceIte]; rfl) ?hv ?_; case hv => rfl
   refine Fo.bin rfl rfl rfl (by simp only [↓nrmL, nrmZ, Nat.reduceEqDiff, ↓reduceIte, Nat.reduceAdd, Int.reduceBEq, Int.reduceBNe, hc, bne, u8_zero, u8_one, h0]; rfl) ?_
   refine WpO.nil (hKF _ _ ?_)
   refine Wp.cond (b := true) rfl ?_
   refine Wp.skip ?_
   refine sq ?_
   refine Wp.block ?_
   refine sq ?_
   refine rg fun KF hKF => ?_
   refine Fo.fa rfl ?_
   refine Fo.ld rfl rfl ?_
   refine mI rfl ?_
   refine Fo.idx (by simp only [↓nrmL, nrmK, Nat.reduceEqDiff, ↓reduceIte]; rfl) rfl ?_ (by simp only [↓nrmL, nrmZ, Nat.reduceEqDiff, ↓reduceIte, Nat.reduceAdd, Int.reduceBEq, Int.reduceBNe, hc, bne, u8_zero, u8_one, h0]; rfl) ?_; (focus omega)
   refine Fo.ldB rfl ?_ rfl ?_; (focus omega)
   refine Fo.bin rfl rfl rfl (by simp only [↓nrmL, nrmZ, Nat.reduceEqDiff, ↓reduceIte, Nat.reduceAdd, Int.reduceBEq, Int.reduceBNe, hc, bne, u8_zero, u8_one, h0]; rfl) ?_
   refine mB rfl ?_
   refine Fo.no rfl rfl ?_
   refine Fo.no rfl rfl ?_
   refine Fo.no rfl rfl ?_
   refine Fo.no rfl rfl ?_
   refine Fo.no rfl rfl ?_
   refine Fo.no rfl rfl ?_
   refine fB rfl rfl ?_
   refine WpO.nil (hKF _ _ ?_)
   refine Wp.cond (b := false) rfl ?_
   refine Wp.skip ?_
   refine rg fun KF hKF => ?_
   refine mI rfl ?_
   refine Fo.bin rfl rfl rfl rfl ?_
   refine mI rfl ?_
   refine WpO.nil (hKF _ _ ?_)
   dsimp only [cond_true, cond_false]
   exact ⟨i + 1, by omega, ⟨by simp only [↓nrmL, nrmZ, Nat.reduceEqDiff, ↓reduceIte, Nat.reduceAdd, Int.reduceBEq, Int.reduceBNe]; rw [hw1], trivial⟩, hil, by rw [pxOk_take hil, hok, h0]; rfl, rfl⟩⟩
end Go.Am

set_option linter.unusedSimpArgs false
set_option linter.unusedVariables false
set_option maxHeartbeats 4000000
set_option maxRecDepth 100000
namespace Go.Am
open Go
attribute [local irreducible] Wp WpO WpX WpE

theorem px_get {l : List UInt8} (h : pxOk l = true) {i : Nat} (hi : i < l.length) : l.getD i 0 = 0 ∨ l.getD i 0 = 1 := by
 have := List.all_eq_true.1 h l[i] (List.getElem_mem hi)
 simp only [Bool.or_eq_true, beq_iff_eq] at this
 simpa [hi] using this

theorem count_take {l : List UInt8} {i : Nat} (h : i < l.length) : (l.take (i + 1)).count 1 = (l.take i).count 1 + (bif l[i] == 1 then 1 else 0) := by
 rw [List.take_succ_eq_append_getElem h, List.count_append, List.count_singleton]
 cases (l[i] == 1) <;> rfl
instance K_refCount {p : AVal} {H : AHeap} {w h : Int} {l : List UInt8} [hp : BytesI H p l] [hs : Fits w h l] : PureCon ext prog 27 [.agg [.int .i64 w, .int .i64 h, p]] H 2 (.int .i64 (l.count 1 : Nat)) := ⟨by
 refine con_of (show prog 27 = some c27 from rfl) rfl rfl fun n hn => ?_
 haveI := hp.one
 obtain ⟨a, b, rfl, rfl, ha, hb, hl⟩ := sized_nat hs.it
 have hm : a * b ≤ 640 * 640 := Nat.mul_le_mul ha hb
 refine sq ?_
 refine rg fun KF hKF => ?_
 refine Fo.boxA rfl ?_
 refine mI rfl ?_
 refine WpO.nil (hKF _ _ ?_)
 refine sq ?_
 refine rg fun KF hKF => ?_
 refine mI rfl ?_
 refine WpO.nil (hKF _ _ ?_)
 refine sq ?_
 refine sq ?_
 refine rg fun KF hKF => ?_
 refine mI rfl ?_
 refine WpO.nil (hKF _ _ ?_)
 refine Wp.block ?_
 dsimp only [cond_true, cond_false]
 refine Wp.loopS [3, 4, 5, 6, 7, 8, 9, 10, 11, 12, 13, 14, 15, 16, 17, 18, 19, 20, 21, 22, 23] (fun y : Nat => [(4, .int .i64 y), (3, .int .i64 ((l.take (y * a)).count 1 : Nat))]) (fun H3 y H2 => y ≤ b ∧ Ext H3 H2) (fun y => b - y) 0 rfl (fun _ => rfl) ⟨rfl, by rw [Nat.zero_mul]; rfl, trivial⟩ ⟨Nat.zero_le _, Ext.refl _⟩ (by unfold fuel0 at hn; omega) ?_
 rintro y g H2 ⟨hy, hx2⟩
 haveI : ExtI _ H2 := ⟨hx2⟩
 simp only [↓nrmL, nrmZ, Nat.reduceEqDiff, ↓reduceIte, Nat.reduceAdd, Int.reduceBEq, Int.reduceBNe]
 cases hc : decide ((y : Int) < (b : Int))
 ·have hyb : y = b := by have := of_decide_eq_false hc; omega
  subst hyb
  have e : l.take (y * a) = l := by rw [Nat.mul_comm, ← hl, List.take_length]
  try simp only [↓nrmL, nrmZ, Nat.reduceEqDiff, ↓reduceIte, Nat.reduceAdd, Int.reduceBEq, Int.reduceBNe, hc, e]
  refine sq ?_
  refine sq ?_
  refine rg fun KF hKF => ?_
  refine mI rfl ?_
  refine Fo.fa rfl ?_
  refine Fo.ld rfl rfl ?_
  refine Fo.bin rfl rfl rfl (by simp only [↓nrmL, nrmZ, Nat.reduceEqDiff, ↓reduceIte, Nat.reduceAdd, Int.reduceBEq, Int.reduceBNe, hc, e]; rfl) ?_
  refine WpO.nil (hKF _ _ ?_)
  refine Wp.cond (b := false) rfl ?_
  refine Wp.exit ?_
  refine sq ?_
  refine rg fun KF hKF => ?_
  refine mI rfl ?_
  refine mI rfl ?_
  refine WpO.nil (hKF _ _ ?_)
  refine Wp.ret ?_
  dsimp only [cond_true, cond_false]
  refine ⟨trivial, _, (by first | rfl | exact getAllC rfl rfl rfl rfl | exact getAllT rfl (getAllC rfl rfl rfl rfl) | exact getAllC rfl rfl rfl (getAllC rfl rfl rfl rfl) | exact getAllC1 rfl rfl rfl), ?_⟩
  exact ⟨rfl, Ext0.ext⟩
 ·have hyb : y < b := by have := of_decide_eq_true hc; omega
  try simp only [↓nrmL, nrmZ, Nat.reduceEqDiff, ↓reduceIte, Nat.reduceAdd, Int.reduceBEq, Int.reduceBNe, hc]
  refine sq ?_
  refine sq ?_
  refine rg fun KF hKF => ?_
  refine mI rfl ?_
  refine Fo.fa rfl ?_
  refine Fo.ld rfl rfl ?_
  refine Fo.bin rfl rfl rfl (by simp only [↓nrmL, nrmZ, Nat.reduceEqDiff, ↓reduceIte, Nat.reduceAdd, Int.reduceBEq, Int.reduceBNe, hc]; rfl) ?_
  refine WpO.nil (hKF _ _ ?_)
  refine Wp.cond (b := true) rfl ?_
  refine Wp.skip ?_
  refine sq ?_
  refine Wp.block ?_
  refine sq ?_
  refine rg fun KF hKF => ?_
  refine mI rfl ?_
  refine WpO.nil (hKF _ _ ?_)
  refine Wp.block ?_
  dsimp only [cond_true, cond_false]
  refine Wp.loopS [3, 5, 12, 13, 14, 15, 16, 17, 18, 19, 20, 21, 22, 23] (fun x : Nat => [(5, .int .i64 x), (3, .int .i64 ((l.take (y * a + x)).count 1 : Nat))]) (fun H3 x H4 => x ≤ a ∧ Ext H3 H4) (fun x => a - x) 0 rfl (fun _ => rfl) ⟨rfl, rfl, trivial⟩ ⟨Nat.zero_le _, Ext.refl _⟩ (by unfold fuel0 at hn; omega) ?_
  rintro x g2 H4 ⟨hx0, hx4⟩
  haveI : ExtI _ H4 := ⟨hx4⟩
  simp only [↓nrmL, nrmZ, Nat.reduceEqDiff, ↓reduceIte, Nat.reduceAdd, Int.reduceBEq, Int.reduceBNe]
  cases hc2 : decide ((x : Int) < (a : Int))
  ·have hxa : x = a := by have := of_decide_eq_false hc2; omega
   subst hxa
   have hw1 := wa1 (a := y) (by omega)
   try simp only [↓nrmL, nrmZ, Nat.reduceEqDiff, ↓reduceIte, Nat.reduceAdd, Int.reduceBEq, Int.reduceBNe, hc2]
   refine sq ?_
   refine sq ?_
   refine rg fun KF hKF => ?_
   refine mI rfl ?_
   refine Fo.fa rfl ?_
   refine Fo.ld rfl rfl ?_
   refine Fo.bin rfl rfl rfl (by simp only [↓nrmL, nrmZ, Nat.reduceEqDiff, ↓reduceIte, Nat.reduceAdd, Int.reduceBEq, Int.reduceBNe, hc2]; rfl) ?_
   refine WpO.nil (hKF _ _ ?_)
   refine Wp.cond (b := false) rfl ?_
   refine Wp.exit ?_
   refine rg fun KF hKF => ?_
   refine mI rfl ?_
   refine Fo.bin rfl rfl rfl rfl ?_
   refine mI rfl ?_
   refine WpO.nil (hKF _ _ ?_)
   dsimp only [cond_true, cond_false]
   refine ⟨y + 1, by omega, ⟨by simp only [↓nrmL, nrmZ, Nat.reduceEqDiff, ↓reduceIte, Nat.reduceAdd, Int.reduceBEq, Int.reduceBNe]; rw [hw1], by simp only [↓nrmL, nrmZ, Nat.reduceEqDiff, ↓reduceIte, Nat.reduceAdd, Int.reduceBEq, Int.reduceBNe]; rw [Nat.add_mul, Nat.one_mul], trivial⟩, hyb, Ext0.ext⟩
  ·have hxa : x < a := by have := of_decide_eq_true hc2; omega
   have hlt := idx_lt hxa hyb
   have hil : y * a + x < l.length := by omega
   have hw1 := wa1 (a := x) (by omega)
   have k1 := inkB_nat (l := l) hxa hyb
   have hgd : l.getD (y * a + x) 0 = l[y * a + x] := by simp [hil]
   rw [hgd] at k1
   have hct := count_take hil
   have hcl := count_le (l.take (y * a + x)) 1
   have htl : (l.take (y * a + x)).length ≤ l.length := by simp; omega
   have hw2 := wa1 (a := (l.take (y * a + x)).count 1) (by omega)
   cases ht : inkB a b l x y
   ·rw [k1] at ht
    rw [ht] at hct
    try simp only [↓nrmL, nrmZ, Nat.reduceEqDiff, ↓reduceIte, Nat.reduceAdd, Int.reduceBEq, Int.reduceBNe, hc2, k1, ht]
    refine sq ?_
    refine sq ?_
    refine rg fun KF hKF => ?_
    refine mI rfl ?_
    refine Fo.fa rfl ?_
    refine Fo.ld rfl rfl ?_
    refine Fo.bin rfl rfl rfl (by simp only [↓nrmL, nrmZ, Nat.reduceEqDiff, ↓reduceIte, Nat.reduceAdd, Int.reduceBEq, Int.reduceBNe, hc2, k1, ht]; rfl) ?_
    refine WpO.nil (hKF _ _ ?_)
    refine Wp.cond (b := true) rfl ?_
    refine Wp.skip ?_
    refine sq ?_
    refine Wp.block ?_
    refine sq ?_
    refine rg fun KF hKF => ?_
    refine Fo.ldN rfl rfl (by simp only [↓nrmL, nrmZ, Nat.reduceEqDiff, ↓reduceIte, Nat.reduceAdd, Int.reduceBEq, Int.reduceBNe, hc2, k1, ht]; rfl) ?_
    refine mI rfl ?_
    refine mI rfl ?_
    refine Fo.pcall (v' := ?_) hn rfl (by simp only [↓nrmL, nrmZ, Nat.reduceEqDiff, ↓reduceIte, Nat.reduceAdd, Int.reduceBEq, Int.reduceBNe, hc2, k1, ht, List.map]; rfl) rfl ?hv fun _ _ => ?_; case hv => (simp only [↓nrmL, nrmZ, Nat.reduceEqDiff, ↓reduceIte, Nat.reduceAdd, Int.reduceBEq, Int.reduceBNe, hc2, k1, ht]; rfl)
    refine WpO.nil (hKF _ _ ?_)
    refine Wp.cond (b := false) rfl ?_
    refine Wp.skip ?_
    refine rg fun KF hKF => ?_
    refine mI rfl ?_
    refine Fo.bin rfl rfl rfl rfl ?_
    refine mI rfl ?_
    refine WpO.nil (hKF _ _ ?_)
    dsimp only [cond_true, cond_false]
    refine ⟨x + 1, by omega, ⟨by simp only [↓nrmL, nrmZ, Nat.reduceEqDiff, ↓reduceIte, Nat.reduceAdd, Int.reduceBEq, Int.reduceBNe]; rw [hw1], by simp only [↓nrmL, nrmZ, Nat.reduceEqDiff, ↓reduceIte, Nat.reduceAdd, Int.reduceBEq, Int.reduceBNe]; rw [show y * a + (x + 1) = y * a + x + 1 by omega, hct]; rfl, trivial⟩, hxa, Ext0.ext⟩
   ·rw [k1] at ht
    rw [ht] at hct
    try simp only [↓nrmL, nrmZ, Nat.reduceEqDiff, ↓reduceIte, Nat.reduceAdd, Int.reduceBEq, Int.reduceBNe, hc2, k1, ht, hw2]
    refine sq ?_
    refine sq ?_
    refine rg fun KF hKF => ?_
    refine mI rfl ?_
    refine Fo.fa rfl ?_
    refine Fo.ld rfl rfl ?_
    refine Fo.bin rfl rfl rfl (by simp only [↓nrmL, nrmZ, Nat.reduceEqDiff, ↓reduceIte, Nat.reduceAdd, Int.reduceBEq, Int.reduceBNe, hc2, k1, ht, hw2]; rfl) ?_
    refine WpO.nil (hKF _ _ ?_)
    refine Wp.cond (b := true) rfl ?_
    refine Wp.skip ?_
    refine sq ?_
    refine Wp.block ?_
    refine sq ?_
    refine rg fun KF hKF => ?_
    refine Fo.ldN rfl rfl (by simp only [↓nrmL, nrmZ, Nat.reduceEqDiff, ↓reduceIte, Nat.reduceAdd, Int.reduceBEq, Int.reduceBNe, hc2, k1, ht, hw2]; rfl) ?_
    refine mI rfl ?_
    refine mI rfl ?_
    refine Fo.pcall (v' := ?_) hn rfl (by simp only [↓nrmL, nrmZ, Nat.reduceEqDiff, ↓reduceIte, Nat.reduceAdd, Int.reduceBEq, Int.reduceBNe, hc2, k1, ht, hw2, List.map]; rfl) rfl ?hv fun _ _ => ?_; case hv => (simp only [↓nrmL, nrmZ, Nat.reduceEqDiff, ↓reduceIte, Nat.reduceAdd, Int.reduceBEq, Int.reduceBNe, hc2, k1, ht, hw2]; rfl)
    refine WpO.nil (hKF _ _ ?_)
    refine Wp.cond (b := true) rfl ?_
    refine rg fun KF hKF => ?_
    refine mI rfl ?_
    refine Fo.bin rfl rfl rfl (by simp only [↓nrmL, nrmZ, Nat.reduceEqDiff, ↓reduceIte, Nat.reduceAdd, Int.reduceBEq, Int.reduceBNe, hc2, k1, ht, hw2]; rfl) ?_
    refine mI rfl ?_
    refine WpO.nil (hKF _ _ ?_)
    refine rg fun KF hKF => ?_
    refine mI rfl ?_
    refine Fo.bin rfl rfl rfl rfl ?_
    refine mI rfl ?_
    refine WpO.nil (hKF _ _ ?_)
    dsimp only [cond_true, cond_false]
    refine ⟨x + 1, by omega, ⟨by simp only [↓nrmL, nrmZ, Nat.reduceEqDiff, ↓reduceIte, Nat.reduceAdd, Int.reduceBEq, Int.reduceBNe]; rw [hw1], by simp only [↓nrmL, nrmZ, Nat.reduceEqDiff, ↓reduceIte, Nat.reduceAdd, Int.reduceBEq, Int.reduceBNe]; rw [show y * a + (x + 1) = y * a + x + 1 by omega, hct]; rfl, trivial⟩, hxa, Ext0.ext⟩⟩

theorem K_refNot {p : AVal} {H : AHeap} {w h : Int} {l : List UInt8} [hp : BytesI H p l] [hs : Fits w h l] (hpl : pxOk l = true) : Con ext prog 3 29 [.agg [.int .i64 w, .int .i64 h, p]] H fun v H' => NewInk H H' v ⟨w, h, l.map (· ^^^ 1)⟩ := by
 refine con_of (show prog 29 = some c29 from rfl) rfl rfl fun n hn => ?_
 haveI := hp.one
 obtain ⟨a, b, rfl, rfl, ha, hb, hl⟩ := sized_nat hs.it
 have hm : a * b ≤ 640 * 640 := Nat.mul_le_mul ha hb
 refine sq ?_
 refine rg fun KF hKF => ?_
 refine Fo.boxA rfl ?_
 refine Fo.new ?_
 refine WpO.nil (hKF _ _ ?_)
 refine sq ?_
 refine rg fun KF hKF => ?_
 refine Fo.fa rfl ?_
 refine Fo.ld rfl rfl ?_
 refine Fo.fa rfl ?_
 refine Fo.ld rfl rfl ?_
 refine WpO.do (WpX.conD hn rfl rfl (by simp only [↓nrmL, nrmZ, Nat.reduceEqDiff, ↓reduceIte, Nat.reduceAdd, Int.reduceBEq, Int.reduceBNe, List.map] <;> rfl) (K_refNew (w := a) (h := b) (by omega) (by omega)) fun v H1 h5 => ?_)
 obtain ⟨o, e2, ho, hf, hw3, hx⟩ := h5
 subst e2
 haveI : ExtI _ H1 := ⟨hx⟩
 haveI := ho.one
 have ho : BytesI H1 o (List.replicate (a * b) 0) := ho
 refine Fo.new ?_
 refine Fo.st rfl (rfl : _ = AVal.agg _) rfl rfl rfl (by repeat (first | rfl | refine allOne_cons ?_)) (by simp only [↓nrmL, nrmZ, Nat.reduceEqDiff, ↓reduceIte, Nat.reduceAdd, Int.reduceBEq, Int.reduceBNe]; rfl) ?_
 refine WpO.nil (hKF _ _ ?_)
 refine sq ?_
 refine sq ?_
 refine rg fun KF hKF => ?_
 refine mI rfl ?_
 refine WpO.nil (hKF _ _ ?_)
 refine Wp.block ?_
 dsimp only [cond_true, cond_false]
 refine Wp.loopS [4, 5, 11, 12, 13, 14, 15, 16, 17, 18, 19, 20, 21, 22, 23, 24, 25, 26, 27, 28, 29, 30, 31] (fun y : Nat => [(4, .int .i64 y)]) (fun H3 y H2 => y ≤ b ∧ BytesI H2 o (filled (fun i => if (l.getD i 0 == 1) = true then (0 : UInt8) else 1) (y * a) (a * b)) ∧ WrS H2 o ∧ ExtP0 H3 H2 o) (fun y => b - y) 0 rfl (fun _ => rfl) ⟨rfl, trivial⟩ ⟨Nat.zero_le _, by rw [Nat.zero_mul, filled_zero]; infer_instance, inferInstance, inferInstance⟩ (by unfold fuel0 at hn; omega) ?_
 rintro y g H2 ⟨hy, hb2, hw2, ⟨hx2⟩⟩
 simp only [↓nrmL, nrmZ, Nat.reduceEqDiff, ↓reduceIte, Nat.reduceAdd, Int.reduceBEq, Int.reduceBNe]
 cases hc : decide ((y : Int) < (b : Int))
 ·have hyb : y = b := by have := of_decide_eq_false hc; omega
  subst hyb
  rw [Nat.mul_comm y a, filled_all] at hb2
  try simp only [↓nrmL, nrmZ, Nat.reduceEqDiff, ↓reduceIte, Nat.reduceAdd, Int.reduceBEq, Int.reduceBNe, hc]
  refine sq ?_
  refine sq ?_
  refine rg fun KF hKF => ?_
  refine mI rfl ?_
  refine Fo.fa rfl ?_
  refine Fo.ld rfl rfl ?_
  refine Fo.bin rfl rfl rfl (by simp only [↓nrmL, nrmZ, Nat.reduceEqDiff, ↓reduceIte, Nat.reduceAdd, Int.reduceBEq, Int.reduceBNe, hc]; rfl) ?_
  refine WpO.nil (hKF _ _ ?_)
  refine Wp.cond (b := false) rfl ?_
  refine Wp.exit ?_
  refine sq ?_
  refine rg fun KF hKF => ?_
  refine Fo.ldN rfl rfl (by simp only [↓nrmL, nrmZ, Nat.reduceEqDiff, ↓reduceIte, Nat.reduceAdd, Int.reduceBEq, Int.reduceBNe, hc]; rfl) ?_
  refine Fo.st rfl (rfl : _ = AVal.agg _) rfl rfl rfl (by repeat (first | rfl | refine allOne_cons ?_)) (by simp only [↓nrmL, nrmZ, Nat.reduceEqDiff, ↓reduceIte, Nat.reduceAdd, Int.reduceBEq, Int.reduceBNe, hc]; rfl) ?_
  refine WpO.nil (hKF _ _ ?_)
  refine Wp.ret ?_
  dsimp only [cond_true, cond_false]
  refine ⟨trivial, _, (by first | rfl | exact getAllC rfl rfl rfl rfl | exact getAllT rfl (getAllC rfl rfl rfl rfl) | exact getAllC rfl rfl rfl (getAllC rfl rfl rfl rfl) | exact getAllC1 rfl rfl rfl), ?_⟩
  refine ⟨o, rfl, ?_, hf.weak, inferInstance, Ext0.ext⟩
  have e1 : l.map (· ^^^ 1) = (List.range (a * y)).map (fun i => if (l.getD i 0 == 1) = true then (0 : UInt8) else 1) := by
   rw [← map_range_get, hl]
   apply List.map_congr_left
   intro i hi
   have hi' : i < a * y := List.mem_range.1 hi
   have g1 : l.getD i 0 = 0 ∨ l.getD i 0 = 1 := by
    have := List.all_eq_true.1 hpl l[i] (List.getElem_mem (by omega))
    simp only [Bool.or_eq_true, beq_iff_eq] at this
    have hil : i < l.length := by omega
    simpa [hil] using this
   rcases g1 with g1 | g1 <;> rw [g1] <;> rfl
  show BytesI _ o (l.map (· ^^^ 1))
  rw [e1]
  infer_instance

 ·have hyb : y < b := by have := of_decide_eq_true hc; omega
  try simp only [↓nrmL, nrmZ, Nat.reduceEqDiff, ↓reduceIte, Nat.reduceAdd, Int.reduceBEq, Int.reduceBNe, hc]
  refine sq ?_
  refine sq ?_
  refine rg fun KF hKF => ?_
  refine mI rfl ?_
  refine Fo.fa rfl ?_
  refine Fo.ld rfl rfl ?_
  refine Fo.bin rfl rfl rfl (by simp only [↓nrmL, nrmZ, Nat.reduceEqDiff, ↓reduceIte, Nat.reduceAdd, Int.reduceBEq, Int.reduceBNe, hc]; rfl) ?_
  refine WpO.nil (hKF _ _ ?_)
  refine Wp.cond (b := true) rfl ?_
  refine Wp.skip ?_
  refine sq ?_
  refine Wp.block ?_
  refine sq ?_
  refine rg fun KF hKF => ?_
  refine mI rfl ?_
  refine WpO.nil (hKF _ _ ?_)
  refine Wp.block ?_
  dsimp only [cond_true, cond_false]
  refine Wp.loopS [5, 17, 18, 19, 20, 21, 22, 23, 24, 25, 26, 27, 28, 29, 30, 31] (fun x : Nat => [(5, .int .i64 x)]) (fun H3 x H4 => x ≤ a ∧ BytesI H4 o (filled (fun i => if (l.getD i 0 == 1) = true then (0 : UInt8) else 1) (y * a + x) (a * b)) ∧ WrS H4 o ∧ ExtP0 H3 H4 o) (fun x => a - x) 0 rfl (fun _ => rfl) ⟨rfl, trivial⟩ ⟨Nat.zero_le _, inferInstance, inferInstance, inferInstance⟩ (by unfold fuel0 at hn; omega) ?_
  rintro x g2 H4 ⟨hx0, hb4, hw4, ⟨hx4⟩⟩
  simp only [↓nrmL, nrmZ, Nat.reduceEqDiff, ↓reduceIte, Nat.reduceAdd, Int.reduceBEq, Int.reduceBNe]
  cases hc2 : decide ((x : Int) < (a : Int))
  ·have hxa : x = a := by have := of_decide_eq_false hc2; omega
   subst hxa
   have hw1 := wa1 (a := y) (by omega)
   try simp only [↓nrmL, nrmZ, Nat.reduceEqDiff, ↓reduceIte, Nat.reduceAdd, Int.reduceBEq, Int.reduceBNe, hc2]
   refine sq ?_
   refine sq ?_
   refine rg fun KF hKF => ?_
   refine mI rfl ?_
   refine Fo.fa rfl ?_
   refine Fo.ld rfl rfl ?_
   refine Fo.bin rfl rfl rfl (by simp only [↓nrmL, nrmZ, Nat.reduceEqDiff, ↓reduceIte, Nat.reduceAdd, Int.reduceBEq, Int.reduceBNe, hc2]; rfl) ?_
   refine WpO.nil (hKF _ _ ?_)
   refine Wp.cond (b := false) rfl ?_
   refine Wp.exit ?_
   refine rg fun KF hKF => ?_
   refine mI rfl ?_
   refine Fo.bin rfl rfl rfl rfl ?_
   refine mI rfl ?_
   refine WpO.nil (hKF _ _ ?_)
   dsimp only [cond_true, cond_false]
   refine ⟨y + 1, by omega, ⟨by simp only [↓nrmL, nrmZ, Nat.reduceEqDiff, ↓reduceIte, Nat.reduceAdd, Int.reduceBEq, Int.reduceBNe]; rw [hw1], trivial⟩, hyb, by rw [Nat.add_mul, Nat.one_mul]; infer_instance, inferInstance, inferInstance⟩
  ·have hxa : x < a := by have := of_decide_eq_true hc2; omega
   have hlt := idx_lt hxa hyb
   have hw1 := wa1 (a := x) (by omega)
   have hfl := filled_length (fun i => if (l.getD i 0 == 1) = true then (0 : UInt8) else 1) (y * a + x) (a * b)
   have k1 := inkB_nat (l := l) hxa hyb
   cases ht : (inkB a b l x y : Bool)
   ·skip
    try simp only [↓nrmL, nrmZ, Nat.reduceEqDiff, ↓reduceIte, Nat.reduceAdd, Int.reduceBEq, Int.reduceBNe, hc2, ht]
    refine sq ?_
    refine sq ?_
    refine rg fun KF hKF => ?_
    refine mI rfl ?_
    refine Fo.fa rfl ?_
    refine Fo.ld rfl rfl ?_
    refine Fo.bin rfl rfl rfl (by simp only [↓nrmL, nrmZ, Nat.reduceEqDiff, ↓reduceIte, Nat.reduceAdd, Int.reduceBEq, Int.reduceBNe, hc2, ht]; rfl) ?_
    refine WpO.nil (hKF _ _ ?_)
    refine Wp.cond (b := true) rfl ?_
    refine Wp.skip ?_
    refine sq ?_
    refine Wp.block ?_
    refine sq ?_
    refine rg fun KF hKF => ?_
    refine Fo.ldN rfl rfl (by simp only [↓nrmL, nrmZ, Nat.reduceEqDiff, ↓reduceIte, Nat.reduceAdd, Int.reduceBEq, Int.reduceBNe, hc2, ht]; rfl) ?_
    refine mI rfl ?_
    refine mI rfl ?_
    refine Fo.pcall (v' := ?_) hn rfl (by simp only [↓nrmL, nrmZ, Nat.reduceEqDiff, ↓reduceIte, Nat.reduceAdd, Int.reduceBEq, Int.reduceBNe, hc2, ht, List.map]; rfl) rfl ?hv fun _ _ => ?_; case hv => (simp only [↓nrmL, nrmZ, Nat.reduceEqDiff, ↓reduceIte, Nat.reduceAdd, Int.reduceBEq, Int.reduceBNe, hc2, ht]; rfl)
    refine Fo.now rfl rfl (by simp only [↓nrmL, nrmZ, Nat.reduceEqDiff, ↓reduceIte, Nat.reduceAdd, Int.reduceBEq, Int.reduceBNe, hc2, ht]; rfl) ?_
    refine WpO.nil (hKF _ _ ?_)
    refine Wp.cond (b := true) rfl ?_
    refine rg fun KF hKF => ?_
    refine Fo.ldN rfl rfl (by simp only [↓nrmL, nrmZ, Nat.reduceEqDiff, ↓reduceIte, Nat.reduceAdd, Int.reduceBEq, Int.reduceBNe, hc2, ht]; rfl) ?_
    refine mI rfl ?_
    refine mI rfl ?_
    refine WpO.do (WpX.conD hn rfl rfl (by simp only [↓nrmL, nrmZ, Nat.reduceEqDiff, ↓reduceIte, Nat.reduceAdd, Int.reduceBEq, Int.reduceBNe, List.map] <;> rfl) (K_refSet (y := y) (x := x) (by rw [hfl]; exact hlt) (by rw [hfl]; omega)) fun v H5 h5 => ?_)
    obtain ⟨hb5, hw5, hx5⟩ := h5
    refine WpO.nil (hKF _ _ ?_)
    refine rg fun KF hKF => ?_
    refine mI rfl ?_
    refine Fo.bin rfl rfl rfl rfl ?_
    refine mI rfl ?_
    refine WpO.nil (hKF _ _ ?_)
    dsimp only [cond_true, cond_false]
    have h0 : (fun i => if (l.getD i 0 == 1) = true then (0 : UInt8) else 1) (y * a + x) = 1 := by
     rw [k1] at ht
     simp only [ht]; rfl
    try dsimp only at h0
    refine ⟨x + 1, by omega, ⟨by simp only [↓nrmL, nrmZ, Nat.reduceEqDiff, ↓reduceIte, Nat.reduceAdd, Int.reduceBEq, Int.reduceBNe]; rw [hw1], trivial⟩, hxa, by rw [show y * a + (x + 1) = y * a + x + 1 by omega, ← filled_succ, h0]; infer_instance, inferInstance, inferInstance⟩
   ·skip
    try simp only [↓nrmL, nrmZ, Nat.reduceEqDiff, ↓reduceIte, Nat.reduceAdd, Int.reduceBEq, Int.reduceBNe, hc2, ht]
    refine sq ?_
    refine sq ?_
    refine rg fun KF hKF => ?_
    refine mI rfl ?_
    refine Fo.fa rfl ?_
    refine Fo.ld rfl rfl ?_
    refine Fo.bin rfl rfl rfl (by simp only [↓nrmL, nrmZ, Nat.reduceEqDiff, ↓reduceIte, Nat.reduceAdd, Int.reduceBEq, Int.reduceBNe, hc2, ht]; rfl) ?_
    refine WpO.nil (hKF _ _ ?_)
    refine Wp.cond (b := true) rfl ?_
    refine Wp.skip ?_
    refine sq ?_
    refine Wp.block ?_
    refine sq ?_
    refine rg fun KF hKF => ?_
    refine Fo.ldN rfl rfl (by simp only [↓nrmL, nrmZ, Nat.reduceEqDiff, ↓reduceIte, Nat.reduceAdd, Int.reduceBEq, Int.reduceBNe, hc2, ht]; rfl) ?_
    refine mI rfl ?_
    refine mI rfl ?_
    refine Fo.pcall (v' := ?_) hn rfl (by simp only [↓nrmL, nrmZ, Nat.reduceEqDiff, ↓reduceIte, Nat.reduceAdd, Int.reduceBEq, Int.reduceBNe, hc2, ht, List.map]; rfl) rfl ?hv fun _ _ => ?_; case hv => (simp only [↓nrmL, nrmZ, Nat.reduceEqDiff, ↓reduceIte, Nat.reduceAdd, Int.reduceBEq, Int.reduceBNe, hc2, ht]; rfl)
    refine Fo.now rfl rfl (by simp only [↓nrmL, nrmZ, Nat.reduceEqDiff, ↓reduceIte, Nat.reduceAdd, Int.reduceBEq, Int.reduceBNe, hc2, ht]; rfl) ?_
    refine WpO.nil (hKF _ _ ?_)
    refine Wp.cond (b := false) rfl ?_
    refine Wp.skip ?_
    refine rg fun KF hKF => ?_
    refine mI rfl ?_
    refine Fo.bin rfl rfl rfl rfl ?_
    refine mI rfl ?_
    refine WpO.nil (hKF _ _ ?_)
    dsimp only [cond_true, cond_false]
    have h0 : (fun i => if (l.getD i 0 == 1) = true then (0 : UInt8) else 1) (y * a + x) = 0 := by
     rw [k1] at ht
     simp only [ht]; rfl
    try dsimp only at h0
    refine ⟨x + 1, by omega, ⟨by simp only [↓nrmL, nrmZ, Nat.reduceEqDiff, ↓reduceIte, Nat.reduceAdd, Int.reduceBEq, Int.reduceBNe]; rw [hw1], trivial⟩, hxa, by rw [show y * a + (x + 1) = y * a + x + 1 by omega, filled_skip h0]; infer_instance, inferInstance, inferInstance⟩
end Go.Am

set_option linter.unusedSimpArgs false
set_option linter.unusedVariables false
set_option maxHeartbeats 4000000
set_option maxRecDepth 100000
namespace Go.Am
open Go
attribute [local irreducible] Wp WpO WpX WpE

theorem K_Or {p q : AVal} {H : AHeap} {w h w' h' : Int} {l m : List UInt8} [hp : BytesI H p l] [hq : BytesI H q m] : Con ext prog 5 81 [.agg [.int .i64 w, .int .i64 h, p], .agg [.int .i64 w', .int .i64 h', q]] H fun v H' => InkRes H H' v (combSpec (fun a b => a ||| b) ⟨w, h, l⟩ ⟨w', h', m⟩) := by
 refine con_of (show prog 81 = some c81 from rfl) rfl rfl fun n hn => ?_
 haveI := hp.one
 haveI := hq.one
 refine sq ?_
 refine rg fun KF hKF => ?_
 refine Fo.boxA rfl ?_
 refine Fo.boxA rfl ?_
 refine Fo.new ?_
 refine mI rfl ?_
 refine WpO.nil (hKF _ _ ?_)
 refine sq ?_
 refine rg fun KF hKF => ?_
 refine Fo.ldN rfl rfl (by simp only [↓nrmL, nrmZ, Nat.reduceEqDiff, ↓reduceIte, Nat.reduceAdd, Int.reduceBEq, Int.reduceBNe]; rfl) ?_
 refine Fo.ldN rfl rfl (by simp only [↓nrmL, nrmZ, Nat.reduceEqDiff, ↓reduceIte, Nat.reduceAdd, Int.reduceBEq, Int.reduceBNe]; rfl) ?_
 refine WpO.do (WpX.conD hn rfl rfl (by simp only [↓nrmL, nrmZ, Nat.reduceEqDiff, ↓reduceIte, Nat.reduceAdd, Int.reduceBEq, Int.reduceBNe, List.map] <;> rfl) (K_combine (F := 140) (l := l) (m := m)) fun v H1 h5 => ?_)
 obtain ⟨u, e1, o, e2, ho, hf, hw3, hx⟩ := h5
 subst e1 e2
 haveI : ExtI _ H1 := ⟨hx⟩
 haveI := ho.one
 refine Fo.extr rfl rfl ?_
 refine Fo.extr rfl rfl ?_
 refine Fo.st rfl (rfl : _ = AVal.agg _) rfl rfl rfl (by repeat (first | rfl | refine allOne_cons ?_)) (by simp only [↓nrmL, nrmZ, Nat.reduceEqDiff, ↓reduceIte, Nat.reduceAdd, Int.reduceBEq, Int.reduceBNe]; rfl) ?_
 refine mI rfl ?_
 refine WpO.nil (hKF _ _ ?_)
 refine Wp.ret ?_
 dsimp only [cond_true, cond_false]
 refine ⟨trivial, _, (by first | rfl | exact getAllC rfl rfl rfl rfl | exact getAllT rfl (getAllC rfl rfl rfl rfl) | exact getAllC rfl rfl rfl (getAllC rfl rfl rfl rfl) | exact getAllC1 rfl rfl rfl), ?_⟩
 exact ⟨_, rfl, o, rfl, inferInstance, hf.weak, inferInstance, Ext0.ext⟩
theorem K_And {p q : AVal} {H : AHeap} {w h w' h' : Int} {l m : List UInt8} [hp : BytesI H p l] [hq : BytesI H q m] : Con ext prog 5 82 [.agg [.int .i64 w, .int .i64 h, p], .agg [.int .i64 w', .int .i64 h', q]] H fun v H' => InkRes H H' v (combSpec (fun a b => a &&& b) ⟨w, h, l⟩ ⟨w', h', m⟩) := by
 refine con_of (show prog 82 = some c82 from rfl) rfl rfl fun n hn => ?_
 haveI := hp.one
 haveI := hq.one
 refine sq ?_
 refine rg fun KF hKF => ?_
 refine Fo.boxA rfl ?_
 refine Fo.boxA rfl ?_
 refine Fo.new ?_
 refine mI rfl ?_
 refine WpO.nil (hKF _ _ ?_)
 refine sq ?_
 refine rg fun KF hKF => ?_
 refine Fo.ldN rfl rfl (by simp only [↓nrmL, nrmZ, Nat.reduceEqDiff, ↓reduceIte, Nat.reduceAdd, Int.reduceBEq, Int.reduceBNe]; rfl) ?_
 refine Fo.ldN rfl rfl (by simp only [↓nrmL, nrmZ, Nat.reduceEqDiff, ↓reduceIte, Nat.reduceAdd, Int.reduceBEq, Int.reduceBNe]; rfl) ?_
 refine WpO.do (WpX.conD hn rfl rfl (by simp only [↓nrmL, nrmZ, Nat.reduceEqDiff, ↓reduceIte, Nat.reduceAdd, Int.reduceBEq, Int.reduceBNe, List.map] <;> rfl) (K_combine (F := 141) (l := l) (m := m)) fun v H1 h5 => ?_)
 obtain ⟨u, e1, o, e2, ho, hf, hw3, hx⟩ := h5
 subst e1 e2
 haveI : ExtI _ H1 := ⟨hx⟩
 haveI := ho.one
 refine Fo.extr rfl rfl ?_
 refine Fo.extr rfl rfl ?_
 refine Fo.st rfl (rfl : _ = AVal.agg _) rfl rfl rfl (by repeat (first | rfl | refine allOne_cons ?_)) (by simp only [↓nrmL, nrmZ, Nat.reduceEqDiff, ↓reduceIte, Nat.reduceAdd, Int.reduceBEq, Int.reduceBNe]; rfl) ?_
 refine mI rfl ?_
 refine WpO.nil (hKF _ _ ?_)
 refine Wp.ret ?_
 dsimp only [cond_true, cond_false]
 refine ⟨trivial, _, (by first | rfl | exact getAllC rfl rfl rfl rfl | exact getAllT rfl (getAllC rfl rfl rfl rfl) | exact getAllC rfl rfl rfl (getAllC rfl rfl rfl rfl) | exact getAllC1 rfl rfl rfl), ?_⟩
 exact ⟨_, rfl, o, rfl, inferInstance, hf.weak, inferInstance, Ext0.ext⟩
theorem K_Less {p q : AVal} {H : AHeap} {w h w' h' : Int} {l m : List UInt8} [hp : BytesI H p l] [hq : BytesI H q m] : Con ext prog 5 83 [.agg [.int .i64 w, .int .i64 h, p], .agg [.int .i64 w', .int .i64 h', q]] H fun v H' => InkRes H H' v (combSpec (fun a b => a &&& ~~~b) ⟨w, h, l⟩ ⟨w', h', m⟩) := by
 refine con_of (show prog 83 = some c83 from rfl) rfl rfl fun n hn => ?_
 haveI := hp.one
 haveI := hq.one
 refine sq ?_
 refine rg fun KF hKF => ?_
 refine Fo.boxA rfl ?_
 refine Fo.boxA rfl ?_
 refine Fo.new ?_
 refine mI rfl ?_
 refine WpO.nil (hKF _ _ ?_)
 refine sq ?_
 refine rg fun KF hKF => ?_
 refine Fo.ldN rfl rfl (by simp only [↓nrmL, nrmZ, Nat.reduceEqDiff, ↓reduceIte, Nat.reduceAdd, Int.reduceBEq, Int.reduceBNe]; rfl) ?_
 refine Fo.ldN rfl rfl (by simp only [↓nrmL, nrmZ, Nat.reduceEqDiff, ↓reduceIte, Nat.reduceAdd, Int.reduceBEq, Int.reduceBNe]; rfl) ?_
 refine WpO.do (WpX.conD hn rfl rfl (by simp only [↓nrmL, nrmZ, Nat.reduceEqDiff, ↓reduceIte, Nat.reduceAdd, Int.reduceBEq, Int.reduceBNe, List.map] <;> rfl) (K_combine (F := 142) (l := l) (m := m)) fun v H1 h5 => ?_)
 obtain ⟨u, e1, o, e2, ho, hf, hw3, hx⟩ := h5
 subst e1 e2
 haveI : ExtI _ H1 := ⟨hx⟩
 haveI := ho.one
 refine Fo.extr rfl rfl ?_
 refine Fo.extr rfl rfl ?_
 refine Fo.st rfl (rfl : _ = AVal.agg _) rfl rfl rfl (by repeat (first | rfl | refine allOne_cons ?_)) (by simp only [↓nrmL, nrmZ, Nat.reduceEqDiff, ↓reduceIte, Nat.reduceAdd, Int.reduceBEq, Int.reduceBNe]; rfl) ?_
 refine mI rfl ?_
 refine WpO.nil (hKF _ _ ?_)
 refine Wp.ret ?_
 dsimp only [cond_true, cond_false]
 refine ⟨trivial, _, (by first | rfl | exact getAllC rfl rfl rfl rfl | exact getAllT rfl (getAllC rfl rfl rfl rfl) | exact getAllC rfl rfl rfl (getAllC rfl rfl rfl rfl) | exact getAllC1 rfl rfl rfl), ?_⟩
 exact ⟨_, rfl, o, rfl, inferInstance, hf.weak, inferInstance, Ext0.ext⟩

/-- The distance of two images, or the error. -/
def distSpec (g h : Img) : AVal := .tuple [.int .i64 (bif (combSpec (fun a b => a ^^^ b) g h).2 == 0 then ((combSpec (fun a b => a ^^^ b) g h).1.px.count 1 : Nat) else 0), .int .i64 (combSpec (fun a b => a ^^^ b) g h).2]
instance K_Distance {p q : AVal} {H : AHeap} {w h w' h' : Int} {l m : List UInt8} [hp : BytesI H p l] [hq : BytesI H q m] : PureCon ext prog 20 [.agg [.int .i64 w, .int .i64 h, p], .agg [.int .i64 w', .int .i64 h', q]] H 6 (distSpec ⟨w, h, l⟩ ⟨w', h', m⟩) := ⟨by
 refine con_of (show prog 20 = some c20 from rfl) rfl rfl fun n hn => ?_
 unfold distSpec
 haveI := hp.one
 haveI := hq.one
 refine sq ?_
 refine rg fun KF hKF => ?_
 refine Fo.boxA rfl ?_
 refine Fo.boxA rfl ?_
 refine mI rfl ?_
 refine mI rfl ?_
 refine WpO.nil (hKF _ _ ?_)
 refine sq ?_
 refine rg fun KF hKF => ?_
 refine Fo.ldN rfl rfl (by simp only [↓nrmL, nrmZ, Nat.reduceEqDiff, ↓reduceIte, Nat.reduceAdd, Int.reduceBEq, Int.reduceBNe]; rfl) ?_
 refine Fo.ldN rfl rfl (by simp only [↓nrmL, nrmZ, Nat.reduceEqDiff, ↓reduceIte, Nat.reduceAdd, Int.reduceBEq, Int.reduceBNe]; rfl) ?_
 refine WpO.do (WpX.conD hn rfl rfl (by simp only [↓nrmL, nrmZ, Nat.reduceEqDiff, ↓reduceIte, Nat.reduceAdd, Int.reduceBEq, Int.reduceBNe, List.map] <;> rfl) (K_combine (F := 94) (l := l) (m := m)) fun v H1 h5 => ?_)
 obtain ⟨u, e1, o, e2, ho, hf, hw3, hx⟩ := h5
 subst e1 e2
 haveI : ExtI _ H1 := ⟨hx⟩
 haveI := ho.one
 generalize combSpec (fun a b => a ^^^ b) ⟨w, h, l⟩ ⟨w', h', m⟩ = r at *
 refine mT rfl ?_
 refine Fo.extr rfl rfl ?_
 refine Fo.extr rfl rfl ?_
 refine Fo.new ?_
 refine Fo.st rfl (rfl : _ = AVal.agg _) rfl rfl rfl (by repeat (first | rfl | refine allOne_cons ?_)) (by simp only [↓nrmL, nrmZ, Nat.reduceEqDiff, ↓reduceIte, Nat.reduceAdd, Int.reduceBEq, Int.reduceBNe]; rfl) ?_
 refine mI rfl ?_
 refine WpO.nil (hKF _ _ ?_)
 refine sq ?_
 refine sq ?_
 refine rg fun KF hKF => ?_
 refine mI rfl ?_
 refine Fo.bin rfl rfl rfl rfl ?_
 refine WpO.nil (hKF _ _ ?_)
 dsimp only [cond_true, cond_false]
 cases h0 : (r.2 == 0)
 ·skip
  try simp only [↓nrmL, nrmZ, Nat.reduceEqDiff, ↓reduceIte, Nat.reduceAdd, Int.reduceBEq, Int.reduceBNe, h0, bne]
  refine Wp.cond (b := true) rfl ?_
  refine sq ?_
  refine rg fun KF hKF => ?_
  refine mI rfl ?_
  refine mI rfl ?_
  refine mI rfl ?_
  refine WpO.nil (hKF _ _ ?_)
  refine Wp.ret ?_
  dsimp only [cond_true, cond_false]
  refine ⟨trivial, _, (by first | rfl | exact getAllC rfl rfl rfl rfl | exact getAllT rfl (getAllC rfl rfl rfl rfl) | exact getAllC rfl rfl rfl (getAllC rfl rfl rfl rfl) | exact getAllC1 rfl rfl rfl), ?_⟩
  exact ⟨rfl, Ext0.ext⟩
 ·skip
  try simp only [↓nrmL, nrmZ, Nat.reduceEqDiff, ↓reduceIte, Nat.reduceAdd, Int.reduceBEq, Int.reduceBNe, h0, bne]
  refine Wp.cond (b := false) rfl ?_
  refine Wp.skip ?_
  refine sq ?_
  refine rg fun KF hKF => ?_
  refine Fo.ldN rfl rfl (by simp only [↓nrmL, nrmZ, Nat.reduceEqDiff, ↓reduceIte, Nat.reduceAdd, Int.reduceBEq, Int.reduceBNe, h0, bne]; rfl) ?_
  refine Fo.pcall (v' := ?_) hn rfl (by simp only [↓nrmL, nrmZ, Nat.reduceEqDiff, ↓reduceIte, Nat.reduceAdd, Int.reduceBEq, Int.reduceBNe, h0, bne, List.map]; rfl) rfl ?hv fun _ _ => ?_; case hv => rfl
  refine mI rfl ?_
  refine mI rfl ?_
  refine WpO.nil (hKF _ _ ?_)
  refine Wp.ret ?_
  dsimp only [cond_true, cond_false]
  refine ⟨trivial, _, (by first | rfl | exact getAllC rfl rfl rfl rfl | exact getAllT rfl (getAllC rfl rfl rfl rfl) | exact getAllC rfl rfl rfl (getAllC rfl rfl rfl rfl) | exact getAllC1 rfl rfl rfl), ?_⟩
  have h1 : r.2 = 0 := by simpa using h0
  exact ⟨by rw [h1]; rfl, Ext0.ext⟩⟩

/-- Is a pixel of an image ink? -/
instance K_At {p : AVal} {H : AHeap} {w h x y : Int} {l : List UInt8} [hp : BytesI H p l] : PureCon ext prog 30 [.agg [.int .i64 w, .int .i64 h, p], .int .i64 x, .int .i64 y] H 4 (.bool (sizedB w h l.length && (inkB w h l x y && (Img.err ⟨w, h, l⟩ == 0)))) := ⟨by
 refine con_of (show prog 30 = some c30 from rfl) rfl rfl fun n hn => ?_
 haveI := hp.one
 cases hs : sizedB w h l.length
 ·have hs' := hs
  unfold sizedB at hs'
  try simp only [↓nrmL, nrmZ, Nat.reduceEqDiff, ↓reduceIte, Nat.reduceAdd, Int.reduceBEq, Int.reduceBNe, hs']
  refine sq ?_
  refine rg fun KF hKF => ?_
  refine Fo.boxA rfl ?_
  refine mB rfl ?_
  refine WpO.nil (hKF _ _ ?_)
  refine sq ?_
  refine rg fun KF hKF => ?_
  refine Fo.fa rfl ?_
  refine Fo.ld rfl rfl ?_
  refine Fo.fa rfl ?_
  refine Fo.ld rfl rfl ?_
  refine Fo.fa rfl ?_
  refine Fo.ld rfl rfl ?_
  refine Fo.len (v := ?_) (by simp only [↓nrmL, nrmK, Nat.reduceEqDiff, ↓reduceIte]; rfl) ?hv ?_; case hv => rfl
  refine Fo.pcall (v' := ?_) hn rfl (by simp only [↓nrmL, nrmZ, Nat.reduceEqDiff, ↓reduceIte, Nat.reduceAdd, Int.reduceBEq, Int.reduceBNe, hs', List.map]; rfl) rfl ?hv fun _ _ => ?_; case hv => (simp only [↓nrmL, nrmZ, Nat.reduceEqDiff, ↓reduceIte, Nat.reduceAdd, Int.reduceBEq, Int.reduceBNe, hs']; rfl)
  refine mB rfl ?_
  refine Fo.no rfl rfl ?_
  refine Fo.no rfl rfl ?_
  refine Fo.no rfl rfl ?_
  refine Fo.no rfl rfl ?_
  refine fB rfl rfl ?_
  refine mB rfl ?_
  refine Fo.no rfl rfl ?_
  refine Fo.no rfl rfl ?_
  refine Fo.no rfl rfl ?_
  refine fB rfl rfl ?_
  refine mB rfl ?_
  refine WpO.nil (hKF _ _ ?_)
  refine Wp.ret ?_
  dsimp only [cond_true, cond_false]
  refine ⟨trivial, _, (by first | rfl | exact getAllC rfl rfl rfl rfl | exact getAllT rfl (getAllC rfl rfl rfl rfl) | exact getAllC rfl rfl rfl (getAllC rfl rfl rfl rfl) | exact getAllC1 rfl rfl rfl), ?_⟩
  exact ⟨rfl, Ext0.ext⟩
 ·have hs' := hs
  unfold sizedB at hs'
  haveI : Fits w h l := ⟨hs⟩
  cases h1 : inkB w h l x y
  ·skip
   try simp only [↓nrmL, nrmZ, Nat.reduceEqDiff, ↓reduceIte, Nat.reduceAdd, Int.reduceBEq, Int.reduceBNe, hs', h1]
   refine sq ?_
   refine rg fun KF hKF => ?_
   refine Fo.boxA rfl ?_
   refine mB rfl ?_
   refine WpO.nil (hKF _ _ ?_)
   refine sq ?_
   refine rg fun KF hKF => ?_
   refine Fo.fa rfl ?_
   refine Fo.ld rfl rfl ?_
   refine Fo.fa rfl ?_
   refine Fo.ld rfl rfl ?_
   refine Fo.fa rfl ?_
   refine Fo.ld rfl rfl ?_
   refine Fo.len (v := ?_) (by simp only [↓nrmL, nrmK, Nat.reduceEqDiff, ↓reduceIte]; rfl) ?hv ?_; case hv => rfl
   refine Fo.pcall (v' := ?_) hn rfl (by simp only [↓nrmL, nrmZ, Nat.reduceEqDiff, ↓reduceIte, Nat.reduceAdd, Int.reduceBEq, Int.reduceBNe, hs', h1, List.map]; rfl) rfl ?hv fun _ _ => ?_; case hv => (simp only [↓nrmL, nrmZ, Nat.reduceEqDiff, ↓reduceIte, Nat.reduceAdd, Int.reduceBEq, Int.reduceBNe, hs', h1]; rfl)
   refine mB rfl ?_
   refine Fo.yes rfl rfl ?_
   refine Fo.ldN rfl rfl (by simp only [↓nrmL, nrmZ, Nat.reduceEqDiff, ↓reduceIte, Nat.reduceAdd, Int.reduceBEq, Int.reduceBNe, hs', h1]; rfl) ?_
   refine Fo.yes rfl rfl ?_
   refine mI rfl ?_
   refine Fo.yes rfl rfl ?_
   refine mI rfl ?_
   refine Fo.yes rfl rfl ?_
   refine Fo.pcall (v' := ?_) hn rfl (by simp only [↓nrmL, nrmZ, Nat.reduceEqDiff, ↓reduceIte, Nat.reduceAdd, Int.reduceBEq, Int.reduceBNe, hs', h1, List.map]; rfl) rfl ?hv fun _ _ => ?_; case hv => (simp only [↓nrmL, nrmZ, Nat.reduceEqDiff, ↓reduceIte, Nat.reduceAdd, Int.reduceBEq, Int.reduceBNe, hs', h1]; rfl)
   refine tB rfl rfl ?_
   refine mB rfl ?_
   refine Fo.no rfl rfl ?_
   refine Fo.no rfl rfl ?_
   refine Fo.no rfl rfl ?_
   refine fB rfl rfl ?_
   refine mB rfl ?_
   refine WpO.nil (hKF _ _ ?_)
   refine Wp.ret ?_
   dsimp only [cond_true, cond_false]
   refine ⟨trivial, _, (by first | rfl | exact getAllC rfl rfl rfl rfl | exact getAllT rfl (getAllC rfl rfl rfl rfl) | exact getAllC rfl rfl rfl (getAllC rfl rfl rfl rfl) | exact getAllC1 rfl rfl rfl), ?_⟩
   exact ⟨rfl, Ext0.ext⟩
  ·cases h2 : (Img.err ⟨w, h, l⟩ == 0)
   ·skip
    try simp only [↓nrmL, nrmZ, Nat.reduceEqDiff, ↓reduceIte, Nat.reduceAdd, Int.reduceBEq, Int.reduceBNe, hs', h1, h2]
    refine sq ?_
    refine rg fun KF hKF => ?_
    refine Fo.boxA rfl ?_
    refine mB rfl ?_
    refine WpO.nil (hKF _ _ ?_)
    refine sq ?_
    refine rg fun KF hKF => ?_
    refine Fo.fa rfl ?_
    refine Fo.ld rfl rfl ?_
    refine Fo.fa rfl ?_
    refine Fo.ld rfl rfl ?_
    refine Fo.fa rfl ?_
    refine Fo.ld rfl rfl ?_
    refine Fo.len (v := ?_) (by simp only [↓nrmL, nrmK, Nat.reduceEqDiff, ↓reduceIte]; rfl) ?hv ?_; case hv => rfl
    refine Fo.pcall (v' := ?_) hn rfl (by simp only [↓nrmL, nrmZ, Nat.reduceEqDiff, ↓reduceIte, Nat.reduceAdd, Int.reduceBEq, Int.reduceBNe, hs', h1, h2, List.map]; rfl) rfl ?hv fun _ _ => ?_; case hv => (simp only [↓nrmL, nrmZ, Nat.reduceEqDiff, ↓reduceIte, Nat.reduceAdd, Int.reduceBEq, Int.reduceBNe, hs', h1, h2]; rfl)
    refine mB rfl ?_
    refine Fo.yes rfl rfl ?_
    refine Fo.ldN rfl rfl (by simp only [↓nrmL, nrmZ, Nat.reduceEqDiff, ↓reduceIte, Nat.reduceAdd, Int.reduceBEq, Int.reduceBNe, hs', h1, h2]; rfl) ?_
    refine Fo.yes rfl rfl ?_
    refine mI rfl ?_
    refine Fo.yes rfl rfl ?_
    refine mI rfl ?_
    refine Fo.yes rfl rfl ?_
    refine Fo.pcall (v' := ?_) hn rfl (by simp only [↓nrmL, nrmZ, Nat.reduceEqDiff, ↓reduceIte, Nat.reduceAdd, Int.reduceBEq, Int.reduceBNe, hs', h1, h2, List.map]; rfl) rfl ?hv fun _ _ => ?_; case hv => (simp only [↓nrmL, nrmZ, Nat.reduceEqDiff, ↓reduceIte, Nat.reduceAdd, Int.reduceBEq, Int.reduceBNe, hs', h1, h2]; rfl)
    refine tB rfl rfl ?_
    refine mB rfl ?_
    refine Fo.yes rfl rfl ?_
    refine Fo.ldN rfl rfl (by simp only [↓nrmL, nrmZ, Nat.reduceEqDiff, ↓reduceIte, Nat.reduceAdd, Int.reduceBEq, Int.reduceBNe, hs', h1, h2]; rfl) ?_
    refine Fo.yes rfl rfl ?_
    refine Fo.pcall (v' := ?_) hn rfl (by simp only [↓nrmL, nrmZ, Nat.reduceEqDiff, ↓reduceIte, Nat.reduceAdd, Int.reduceBEq, Int.reduceBNe, hs', h1, h2, List.map]; rfl) rfl ?hv fun _ _ => ?_; case hv => rfl
    refine Fo.yes rfl rfl ?_
    refine Fo.bin rfl rfl rfl (by simp only [↓nrmL, nrmZ, Nat.reduceEqDiff, ↓reduceIte, Nat.reduceAdd, Int.reduceBEq, Int.reduceBNe, hs', h1, h2]; rfl) ?_
    refine tB rfl rfl ?_
    refine mB rfl ?_
    refine WpO.nil (hKF _ _ ?_)
    refine Wp.ret ?_
    dsimp only [cond_true, cond_false]
    refine ⟨trivial, _, (by first | rfl | exact getAllC rfl rfl rfl rfl | exact getAllT rfl (getAllC rfl rfl rfl rfl) | exact getAllC rfl rfl rfl (getAllC rfl rfl rfl rfl) | exact getAllC1 rfl rfl rfl), ?_⟩
    exact ⟨rfl, Ext0.ext⟩
   ·skip
    try simp only [↓nrmL, nrmZ, Nat.reduceEqDiff, ↓reduceIte, Nat.reduceAdd, Int.reduceBEq, Int.reduceBNe, hs', h1, h2]
    refine sq ?_
    refine rg fun KF hKF => ?_
    refine Fo.boxA rfl ?_
    refine mB rfl ?_
    refine WpO.nil (hKF _ _ ?_)
    refine sq ?_
    refine rg fun KF hKF => ?_
    refine Fo.fa rfl ?_
    refine Fo.ld rfl rfl ?_
    refine Fo.fa rfl ?_
    refine Fo.ld rfl rfl ?_
    refine Fo.fa rfl ?_
    refine Fo.ld rfl rfl ?_
    refine Fo.len (v := ?_) (by simp only [↓nrmL, nrmK, Nat.reduceEqDiff, ↓reduceIte]; rfl) ?hv ?_; case hv => rfl
    refine Fo.pcall (v' := ?_) hn rfl (by simp only [↓nrmL, nrmZ, Nat.reduceEqDiff, ↓reduceIte, Nat.reduceAdd, Int.reduceBEq, Int.reduceBNe, hs', h1, h2, List.map]; rfl) rfl ?hv fun _ _ => ?_; case hv => (simp only [↓nrmL, nrmZ, Nat.reduceEqDiff, ↓reduceIte, Nat.reduceAdd, Int.reduceBEq, Int.reduceBNe, hs', h1, h2]; rfl)
    refine mB rfl ?_
    refine Fo.yes rfl rfl ?_
    refine Fo.ldN rfl rfl (by simp only [↓nrmL, nrmZ, Nat.reduceEqDiff, ↓reduceIte, Nat.reduceAdd, Int.reduceBEq, Int.reduceBNe, hs', h1, h2]; rfl) ?_
    refine Fo.yes rfl rfl ?_
    refine mI rfl ?_
    refine Fo.yes rfl rfl ?_
    refine mI rfl ?_
    refine Fo.yes rfl rfl ?_
    refine Fo.pcall (v' := ?_) hn rfl (by simp only [↓nrmL, nrmZ, Nat.reduceEqDiff, ↓reduceIte, Nat.reduceAdd, Int.reduceBEq, Int.reduceBNe, hs', h1, h2, List.map]; rfl) rfl ?hv fun _ _ => ?_; case hv => (simp only [↓nrmL, nrmZ, Nat.reduceEqDiff, ↓reduceIte, Nat.reduceAdd, Int.reduceBEq, Int.reduceBNe, hs', h1, h2]; rfl)
    refine tB rfl rfl ?_
    refine mB rfl ?_
    refine Fo.yes rfl rfl ?_
    refine Fo.ldN rfl rfl (by simp only [↓nrmL, nrmZ, Nat.reduceEqDiff, ↓reduceIte, Nat.reduceAdd, Int.reduceBEq, Int.reduceBNe, hs', h1, h2]; rfl) ?_
    refine Fo.yes rfl rfl ?_
    refine Fo.pcall (v' := ?_) hn rfl (by simp only [↓nrmL, nrmZ, Nat.reduceEqDiff, ↓reduceIte, Nat.reduceAdd, Int.reduceBEq, Int.reduceBNe, hs', h1, h2, List.map]; rfl) rfl ?hv fun _ _ => ?_; case hv => rfl
    refine Fo.yes rfl rfl ?_
    refine Fo.bin rfl rfl rfl (by simp only [↓nrmL, nrmZ, Nat.reduceEqDiff, ↓reduceIte, Nat.reduceAdd, Int.reduceBEq, Int.reduceBNe, hs', h1, h2]; rfl) ?_
    refine tB rfl rfl ?_
    refine mB rfl ?_
    refine WpO.nil (hKF _ _ ?_)
    refine Wp.ret ?_
    dsimp only [cond_true, cond_false]
    refine ⟨trivial, _, (by first | rfl | exact getAllC rfl rfl rfl rfl | exact getAllT rfl (getAllC rfl rfl rfl rfl) | exact getAllC rfl rfl rfl (getAllC rfl rfl rfl rfl) | exact getAllC1 rfl rfl rfl), ?_⟩
    exact ⟨rfl, Ext0.ext⟩⟩

/-- The first place of a byte, or -1. -/
def idxB (l : List UInt8) (c : UInt8) : Int := match l.findIdx? (· == c) with
 | some i => (i : Int)
 | none => -1
theorem idxB_none {l : List UInt8} {c : UInt8} (h : ∀ j, j < l.length → l[j]? ≠ some c) : idxB l c = -1 := by
 have : l.findIdx? (· == c) = none := by
  rw [List.findIdx?_eq_none_iff]
  intro x hx
  obtain ⟨j, hj⟩ := List.getElem?_of_mem hx
  have hlt : j < l.length := (List.getElem?_eq_some_iff.1 hj).1
  have := h j hlt
  rw [hj] at this
  simpa using this
 rw [idxB, this]
theorem idxB_some {l : List UInt8} {c : UInt8} {i : Nat} (hi : i < l.length) (hc : l[i] = c) (h : ∀ j, j < i → l[j]? ≠ some c) : idxB l c = i := by
 have : l.findIdx? (· == c) = some i := by
  rw [List.findIdx?_eq_some_iff_getElem]
  refine ⟨hi, by simp [hc], fun j hj => ?_⟩
  have := h j hj
  rw [List.getElem?_eq_getElem (by omega)] at this
  simpa using this
 rw [idxB, this]
instance K_Index {p : AVal} {H : AHeap} {l : List UInt8} {k : Int} {c : UInt8} [hp : BytesI H p l] [hk : IsU8 k c] [hs : Short l] : PureCon ext prog 103 [p, .int .u8 k] H 1 (.int .i64 (idxB l c)) := ⟨by
 refine con_of (show prog 103 = some c103 from rfl) rfl rfl fun n hn => ?_
 haveI := hp.one
 have hsl := hs.le
 have hkc := hk.eq
 refine sq ?_
 refine rg fun KF hKF => ?_
 refine mI rfl ?_
 refine WpO.nil (hKF _ _ ?_)
 refine sq ?_
 refine sq ?_
 refine rg fun KF hKF => ?_
 refine Fo.mov (by simp only [↓nrmL, nrmK, Nat.reduceEqDiff, ↓reduceIte]; rfl) ?_
 refine Fo.len (v := ?_) (by simp only [↓nrmL, nrmK, Nat.reduceEqDiff, ↓reduceIte]; rfl) ?hv ?_; case hv => rfl
 refine mI rfl ?_
 refine WpO.nil (hKF _ _ ?_)
 refine Wp.block ?_
 dsimp only [cond_true, cond_false]
 refine Wp.loopS [4, 5, 8, 9, 10, 11, 12, 13, 14, 15, 16, 17, 18] (fun i : Nat => [(8, .int .i64 i)]) (fun H3 i H2 => i ≤ l.length ∧ (∀ j, j < i → l[j]? ≠ some c) ∧ H2 = H3) (fun i => l.length - i) 0 rfl (fun _ => rfl) ⟨rfl, trivial⟩ ⟨Nat.zero_le _, fun j hj => by omega, rfl⟩ (by unfold fuel0 at hn; omega) ?_
 rintro i g H2 ⟨hi, hno, rfl⟩
 simp only [↓nrmL, nrmZ, Nat.reduceEqDiff, ↓reduceIte, Nat.reduceAdd, Int.reduceBEq, Int.reduceBNe]
 cases hc : decide ((i : Int) < (l.length : Int))
 ·have hil : i = l.length := by have := of_decide_eq_false hc; omega
  subst hil
  rw [idxB_none hno]
  try simp only [↓nrmL, nrmZ, Nat.reduceEqDiff, ↓reduceIte, Nat.reduceAdd, Int.reduceBEq, Int.reduceBNe, hc]
  refine sq ?_
  refine rg fun KF hKF => ?_
  refine Fo.bin rfl rfl rfl (by simp only [↓nrmL, nrmZ, Nat.reduceEqDiff, ↓reduceIte, Nat.reduceAdd, Int.reduceBEq, Int.reduceBNe, hc]; rfl) ?_
  refine WpO.nil (hKF _ _ ?_)
  refine sq ?_
  refine Wp.cond (b := false) rfl ?_
  refine Wp.exit ?_
  refine sq ?_
  refine rg fun KF hKF => ?_
  refine mI rfl ?_
  refine WpO.nil (hKF _ _ ?_)
  refine Wp.ret ?_
  dsimp only [cond_true, cond_false]
  refine ⟨trivial, _, (by first | rfl | exact getAllC rfl rfl rfl rfl | exact getAllT rfl (getAllC rfl rfl rfl rfl) | exact getAllC rfl rfl rfl (getAllC rfl rfl rfl rfl) | exact getAllC1 rfl rfl rfl), ?_⟩
  exact ⟨rfl, Ext0.ext⟩
 ·have hil : i < l.length := by have := of_decide_eq_true hc; omega
  have hw1 := wa1 (a := i) (by omega)
  cases he : (k == ((l[i].toNat : Nat) : Int))
  ·skip
   try simp only [↓nrmL, nrmZ, Nat.reduceEqDiff, ↓reduceIte, Nat.reduceAdd, Int.reduceBEq, Int.reduceBNe, hc, he]
   refine sq ?_
   refine rg fun KF hKF => ?_
   refine Fo.bin rfl rfl rfl (by simp only [↓nrmL, nrmZ, Nat.reduceEqDiff, ↓reduceIte, Nat.reduceAdd, Int.reduceBEq, Int.reduceBNe, hc, he]; rfl) ?_
   refine WpO.nil (hKF _ _ ?_)
   refine sq ?_
   refine Wp.cond (b := true) rfl ?_
   refine Wp.skip ?_
   refine sq ?_
   refine Wp.block ?_
   refine sq ?_
   refine rg fun KF hKF => ?_
   refine mI rfl ?_
   refine mI rfl ?_
   refine WpO.nil (hKF _ _ ?_)
   refine sq ?_
   refine rg fun KF hKF => ?_
   refine mI rfl ?_
   refine Fo.mov (by simp only [↓nrmL, nrmK, Nat.reduceEqDiff, ↓reduceIte]; rfl) ?_
   refine mI rfl ?_
   refine Fo.idx (by simp only [↓nrmL, nrmK, Nat.reduceEqDiff, ↓reduceIte]; rfl) rfl ?_ (by simp only [↓nrmL, nrmZ, Nat.reduceEqDiff, ↓reduceIte, Nat.reduceAdd, Int.reduceBEq, Int.reduceBNe, hc, he]; rfl) ?_; (focus omega)
   refine Fo.ldB rfl ?_ rfl ?_; (focus omega)
   refine Fo.bin rfl rfl rfl (by simp only [↓nrmL, nrmZ, Nat.reduceEqDiff, ↓reduceIte, Nat.reduceAdd, Int.reduceBEq, Int.reduceBNe, hc, he]; rfl) ?_
   refine WpO.nil (hKF _ _ ?_)
   refine Wp.cond (b := false) rfl ?_
   refine Wp.skip ?_
   refine rg fun KF hKF => ?_
   refine Fo.bin rfl rfl rfl rfl ?_
   refine mI rfl ?_
   refine WpO.nil (hKF _ _ ?_)
   dsimp only [cond_true, cond_false]
   refine ⟨i + 1, by omega, ⟨by simp only [↓nrmL, nrmZ, Nat.reduceEqDiff, ↓reduceIte, Nat.reduceAdd, Int.reduceBEq, Int.reduceBNe]; rw [hw1], trivial⟩, hil, fun j hj => ?_, rfl⟩
   by_cases hj2 : j < i
   ·exact hno j hj2
   ·obtain rfl : j = i := by omega
    rw [List.getElem?_eq_getElem hil]
    intro e
    rw [Option.some.inj e, hkc] at he
    simp at he
  ·have : l[i] = c := by
    have h1 : k = ((l[i].toNat : Nat) : Int) := by simpa using he
    rw [hkc] at h1
    exact (UInt8.toNat_inj.1 (by omega)).symm
   rw [idxB_some hil this hno]
   try simp only [↓nrmL, nrmZ, Nat.reduceEqDiff, ↓reduceIte, Nat.reduceAdd, Int.reduceBEq, Int.reduceBNe, hc, he]
   refine sq ?_
   refine rg fun KF hKF => ?_
   refine Fo.bin rfl rfl rfl (by simp only [↓nrmL, nrmZ, Nat.reduceEqDiff, ↓reduceIte, Nat.reduceAdd, Int.reduceBEq, Int.reduceBNe, hc, he]; rfl) ?_
   refine WpO.nil (hKF _ _ ?_)
   refine sq ?_
   refine Wp.cond (b := true) rfl ?_
   refine Wp.skip ?_
   refine sq ?_
   refine Wp.block ?_
   refine sq ?_
   refine rg fun KF hKF => ?_
   refine mI rfl ?_
   refine mI rfl ?_
   refine WpO.nil (hKF _ _ ?_)
   refine sq ?_
   refine rg fun KF hKF => ?_
   refine mI rfl ?_
   refine Fo.mov (by simp only [↓nrmL, nrmK, Nat.reduceEqDiff, ↓reduceIte]; rfl) ?_
   refine mI rfl ?_
   refine Fo.idx (by simp only [↓nrmL, nrmK, Nat.reduceEqDiff, ↓reduceIte]; rfl) rfl ?_ (by simp only [↓nrmL, nrmZ, Nat.reduceEqDiff, ↓reduceIte, Nat.reduceAdd, Int.reduceBEq, Int.reduceBNe, hc, he]; rfl) ?_; (focus omega)
   refine Fo.ldB rfl ?_ rfl ?_; (focus omega)
   refine Fo.bin rfl rfl rfl (by simp only [↓nrmL, nrmZ, Nat.reduceEqDiff, ↓reduceIte, Nat.reduceAdd, Int.reduceBEq, Int.reduceBNe, hc, he]; rfl) ?_
   refine WpO.nil (hKF _ _ ?_)
   refine Wp.cond (b := true) rfl ?_
   refine sq ?_
   refine rg fun KF hKF => ?_
   refine mI rfl ?_
   refine mI rfl ?_
   refine WpO.nil (hKF _ _ ?_)
   refine Wp.ret ?_
   dsimp only [cond_true, cond_false]
   refine ⟨trivial, _, (by first | rfl | exact getAllC rfl rfl rfl rfl | exact getAllT rfl (getAllC rfl rfl rfl rfl) | exact getAllC rfl rfl rfl (getAllC rfl rfl rfl rfl) | exact getAllC1 rfl rfl rfl), ?_⟩
   exact ⟨rfl, Ext0.ext⟩⟩
instance K_Contains {p : AVal} {H : AHeap} {l : List UInt8} {k : Int} {c : UInt8} [hp : BytesI H p l] [hk : IsU8 k c] [hs : Short l] : PureCon ext prog 32 [p, .int .u8 k] H 2 (.bool (decide (idxB l c ≥ 0))) := ⟨by
 refine con_of (show prog 32 = some c32 from rfl) rfl rfl fun n hn => ?_
 haveI := hp.one
 refine sq ?_
 refine rg fun KF hKF => ?_
 refine mB rfl ?_
 refine WpO.nil (hKF _ _ ?_)
 refine sq ?_
 refine rg fun KF hKF => ?_
 refine Fo.mov (by simp only [↓nrmL, nrmK, Nat.reduceEqDiff, ↓reduceIte]; rfl) ?_
 refine mI rfl ?_
 refine Fo.pcall (v' := ?_) hn rfl (by simp only [↓nrmL, nrmZ, Nat.reduceEqDiff, ↓reduceIte, Nat.reduceAdd, Int.reduceBEq, Int.reduceBNe, List.map]; rfl) rfl ?hv fun _ _ => ?_; case hv => rfl
 refine Fo.bin rfl rfl rfl rfl ?_
 refine mB rfl ?_
 refine WpO.nil (hKF _ _ ?_)
 refine Wp.ret ?_
 dsimp only [cond_true, cond_false]
 refine ⟨trivial, _, (by first | rfl | exact getAllC rfl rfl rfl rfl | exact getAllT rfl (getAllC rfl rfl rfl rfl) | exact getAllC rfl rfl rfl (getAllC rfl rfl rfl rfl) | exact getAllC1 rfl rfl rfl), ?_⟩
 exact ⟨rfl, Ext0.ext⟩⟩
end Go.Am

set_option linter.unusedSimpArgs false
set_option linter.unusedVariables false
set_option maxHeartbeats 4000000
set_option maxRecDepth 100000
namespace Go.Am
open Go
attribute [local irreducible] Wp WpO WpX WpE

/-- The lowest bit of a number. -/
def bitC (z : Int) : UInt8 := ⟨BitVec.ofInt 8 z &&& 1⟩
theorem bitC_eq (z : Int) : Go.bits .and .u8 z 1 = ((bitC z).toNat : Int) := by
 show IntKind.u8.wrap ((BitVec.ofInt 8 z &&& BitVec.ofInt 8 1).toNat : Int) = _
 exact wrap_u8 (by have := (bitC z).toNat_lt; exact this)
theorem bitC_01 (z : Int) : bitC z = 0 ∨ bitC z = 1 := by
 have h : (bitC z).toNat = (BitVec.ofInt 8 z).toNat % 2 := by
  show (BitVec.ofInt 8 z &&& 1#8).toNat = _
  rw [BitVec.toNat_and]
  exact Nat.and_one_is_mod _
 rcases Nat.mod_two_eq_zero_or_one (BitVec.ofInt 8 z).toNat with h0 | h0
 ·exact Or.inl (UInt8.toNat_inj.1 (by rw [h, h0]; rfl))
 ·exact Or.inr (UInt8.toNat_inj.1 (by rw [h, h0]; rfl))
theorem exec_shr {call : ACall} {fr : AFrame} {H : AHeap} {x y : ROpd} {k k' : IntKind} {a : Int} {b : Nat} (hx : x.ev fr = .int k a) (hy : y.ev fr = .int k' (b : Int)) : (ROp.bin .shr x y).exec call fr H = some (.int k (a.fdiv (2 ^ (min b k.bits))), H) := by
 have h0 : ¬ ((b : Int) < 0) := by omega
 simp only [ROp.exec, hx, hy, aBin, intBin, if_neg h0, M.ofOption, M.pure, Int.toNat_natCast]
theorem wq8 {i : Nat} (h : i < 9223372036854775808) : IntKind.i64.wrap ((i : Int).tdiv 8) = ((i / 8 : Nat) : Int) := by
 have e : (i : Int).tdiv 8 = ((i / 8 : Nat) : Int) := rfl
 rw [e]; exact w64 (by omega)
theorem wr8 {i : Nat} : (i : Int).tmod 8 = ((i % 8 : Nat) : Int) := rfl
theorem pxOk_rep (n : Nat) : pxOk (List.replicate n 0) = true := by
 simp [pxOk, List.all_replicate]
theorem pxOk_set {l : List UInt8} {i : Nat} {c : UInt8} (h : pxOk l = true) (hc : c = 0 ∨ c = 1) : pxOk (l.set i c) = true := by
 unfold pxOk at h ⊢
 rw [List.all_eq_true] at h ⊢
 intro x hx
 rcases List.mem_or_eq_of_mem_set hx with h1 | rfl
 ·exact h x h1
 ·rcases hc with rfl | rfl <;> rfl

/-- A valid image. -/
structure Ok (a b : Nat) (l : List UInt8) : Prop where
 wa : a ≤ 640
 hb : b ≤ 640
 len : l.length = a * b
 px : pxOk l = true
theorem Ok.sized {a b : Nat} {l : List UInt8} (h : Ok a b l) : sizedB a b l.length = true := by
 have hm : a * b ≤ 640 * 640 := Nat.mul_le_mul h.wa h.hb
 have h1 : sideB a = true := by simp only [sideB, Bool.and_eq_true, decide_eq_true_eq]; have := h.wa; omega
 have h2 : sideB b = true := by simp only [sideB, Bool.and_eq_true, decide_eq_true_eq]; have := h.hb; omega
 unfold sizedB
 rw [h1, h2, wm (by omega), h.len]
 simp
theorem Ok.err {a b : Nat} {l : List UInt8} (h : Ok a b l) : Img.err ⟨a, b, l⟩ = 0 := by
 have h1 : (⟨a, b, l⟩ : Img).sized = true := h.sized
 have h2 := h.px
 unfold Img.err
 rw [h1]
 simp only [h2, cond_true]
theorem Ok.short {a b : Nat} {l : List UInt8} (h : Ok a b l) : l.length ≤ 409600 := by
 have hm : a * b ≤ 640 * 640 := Nat.mul_le_mul h.wa h.hb
 rw [h.len]; omega
theorem ok_zip {a b : Nat} {l m : List UInt8} {op : UInt8 → UInt8 → UInt8} (h : Ok a b l) (k : Ok a b m) (ho : ∀ x y, (x = 0 ∨ x = 1) → (y = 0 ∨ y = 1) → op x y = 0 ∨ op x y = 1) : Ok a b (List.zipWith op l m) := by
 refine ⟨h.wa, h.hb, by rw [List.length_zipWith, h.len, k.len, Nat.min_self], ?_⟩
 unfold pxOk
 rw [List.all_eq_true]
 intro x hx
 obtain ⟨i, hi, rfl⟩ := List.mem_iff_getElem.1 hx
 rw [List.length_zipWith] at hi
 rw [List.getElem_zipWith]
 have h1 := px_get h.px (show i < l.length by omega)
 have h2 := px_get k.px (show i < m.length by omega)
 rw [List.getD_eq_getElem?_getD, List.getElem?_eq_getElem (by omega)] at h1 h2
 simp only [Option.getD_some] at h1 h2
 rcases ho _ _ h1 h2 with h3 | h3 <;> rw [h3] <;> rfl
theorem ok_map {a b : Nat} {l : List UInt8} (h : Ok a b l) : Ok a b (l.map (· ^^^ 1)) := by
 refine ⟨h.wa, h.hb, by rw [List.length_map, h.len], ?_⟩
 have := h.px
 unfold pxOk at this ⊢
 rw [List.all_eq_true] at this ⊢
 intro x hx
 obtain ⟨y, hy, rfl⟩ := List.mem_map.1 hx
 have h1 := this y hy
 simp only [Bool.or_eq_true, beq_iff_eq] at h1
 rcases h1 with rfl | rfl <;> rfl
theorem combOk {a b : Nat} {l m : List UInt8} {op : UInt8 → UInt8 → UInt8} (h : Ok a b l) (k : Ok a b m) : combSpec op ⟨a, b, l⟩ ⟨a, b, m⟩ = (⟨a, b, List.zipWith op l m⟩, 0) := by
 simp only [combSpec, h.err, k.err, beq_self_eq_true, cond_true, Bool.and_self]
theorem notOk {a b : Nat} {l : List UInt8} (h : Ok a b l) : notSpec ⟨a, b, l⟩ = (⟨a, b, l.map (· ^^^ 1)⟩, 0) := by
 simp only [notSpec, h.err, beq_self_eq_true, cond_true]

/-- A valid new image of some sides. -/
def NewOk (H H' : AHeap) (v : AVal) (wm hm : Nat) : Prop := ∃ (a b : Nat) (l : List UInt8), a ≤ wm ∧ b ≤ hm ∧ Ok a b l ∧ NewInk H H' v ⟨a, b, l⟩
theorem K_Made {s : Nat} {p : AVal} {H : AHeap} {bits : List UInt8} [hp : BytesI H p bits] (hs : s < 65536) : Con ext prog 1 72 [.int .u16 s, p] H fun v H' => NewOk H H' v 40 30 := by
 refine con_of (show prog 72 = some c72 from rfl) rfl rfl fun n hn => ?_
 haveI := hp.one
 have e1 : IntKind.i64.wrap ((s : Int).tmod 41) = ((s % 41 : Nat) : Int) := by
  have e : (s : Int).tmod 41 = ((s % 41 : Nat) : Int) := rfl
  rw [e]; exact w64 (by omega)
 have e2 : IntKind.u16.wrap ((s : Int).tdiv 41) = ((s / 41 : Nat) : Int) := by
  have e : (s : Int).tdiv 41 = ((s / 41 : Nat) : Int) := rfl
  have h1 : IntKind.u16.wrap ((s / 41 : Nat) : Int) = if (false && decide (((s / 41 : Nat) : Int) % 2 ^ 16 ≥ 2 ^ 15)) = true then ((s / 41 : Nat) : Int) % 2 ^ 16 - 2 ^ 16 else ((s / 41 : Nat) : Int) % 2 ^ 16 := rfl
  rw [e, h1]
  simp only [Bool.false_and, Bool.false_eq_true, if_false]
  omega
 have e3 : IntKind.i64.wrap (((s / 41 : Nat) : Int).tmod 31) = ((s / 41 % 31 : Nat) : Int) := by
  have e : ((s / 41 : Nat) : Int).tmod 31 = ((s / 41 % 31 : Nat) : Int) := rfl
  rw [e]; exact w64 (by omega)
 obtain ⟨a, ha⟩ : ∃ a, s % 41 = a := ⟨_, rfl⟩
 obtain ⟨b, hb⟩ : ∃ b, s / 41 % 31 = b := ⟨_, rfl⟩
 rw [ha] at e1
 rw [hb] at e3
 have ha : a ≤ 40 := by omega
 have hb : b ≤ 30 := by omega
 have hm : a * b ≤ 40 * 30 := Nat.mul_le_mul ha hb
 have hc : IntKind.i64.wrap ((a : Int) * (b : Int)) = ((a * b : Nat) : Int) := wm (by omega)
 try simp only [↓nrmL, nrmZ, Nat.reduceEqDiff, ↓reduceIte, Nat.reduceAdd, Int.reduceBEq, Int.reduceBNe, e1, e2, e3, hc]
 refine sq ?_
 refine rg fun KF hKF => ?_
 refine Fo.new ?_
 refine WpO.nil (hKF _ _ ?_)
 refine sq ?_
 refine rg fun KF hKF => ?_
 refine mI rfl ?_
 refine Fo.bin rfl rfl rfl rfl ?_
 refine Fo.now rfl rfl (by simp only [↓nrmL, nrmZ, Nat.reduceEqDiff, ↓reduceIte, Nat.reduceAdd, Int.reduceBEq, Int.reduceBNe, e1, e2, e3, hc]; rfl) ?_
 refine mI rfl ?_
 refine Fo.bin rfl rfl rfl (by simp only [↓nrmL, nrmZ, Nat.reduceEqDiff, ↓reduceIte, Nat.reduceAdd, Int.reduceBEq, Int.reduceBNe, e1, e2, e3, hc]; rfl) ?_
 refine Fo.bin rfl rfl rfl rfl ?_
 refine Fo.now rfl rfl (by simp only [↓nrmL, nrmZ, Nat.reduceEqDiff, ↓reduceIte, Nat.reduceAdd, Int.reduceBEq, Int.reduceBNe, e1, e2, e3, hc]; rfl) ?_
 refine mI rfl ?_
 refine mI rfl ?_
 refine WpO.nil (hKF _ _ ?_)
 refine sq ?_
 refine rg fun KF hKF => ?_
 refine mI rfl ?_
 refine mI rfl ?_
 refine mI rfl ?_
 refine mI rfl ?_
 refine Fo.bin rfl rfl rfl (by simp only [↓nrmL, nrmZ, Nat.reduceEqDiff, ↓reduceIte, Nat.reduceAdd, Int.reduceBEq, Int.reduceBNe, e1, e2, e3, hc]; rfl) ?_
 refine WpO.do (WpX.mkB rfl rfl rfl (by omega) fun q H1 e1 hq hf hw' hx => ?_); try simp only [↓nrmL, nrmZ, Nat.reduceEqDiff, ↓reduceIte, Nat.reduceAdd, Int.reduceBEq, Int.reduceBNe, hc]
 haveI := hq.one
 refine Fo.build (by repeat (first | refine aFill1 (by first | exact (rfl : _ = AVal.int _ _) | exact (rfl : _ = AVal.ptr _ _) | exact (rfl : _ = AVal.bool _) | exact (rfl : _ = AVal.agg _) | exact (rfl : _ = AVal.tuple _) | exact (rfl : _ = AVal.func _ _ _) | exact (rfl : _ = AVal.nslice) | ((try simp only [↓nrmL, nrmK, Nat.reduceEqDiff, ↓reduceIte]); rfl)) rfl ?_ | rfl)) (by simp only [↓nrmL, nrmZ, Nat.reduceEqDiff, ↓reduceIte, Nat.reduceAdd, Int.reduceBEq, Int.reduceBNe]; rfl) ?_
 refine Fo.new ?_
 refine Fo.st rfl (rfl : _ = AVal.agg _) rfl rfl rfl (by repeat (first | rfl | refine allOne_cons ?_)) (by simp only [↓nrmL, nrmZ, Nat.reduceEqDiff, ↓reduceIte, Nat.reduceAdd, Int.reduceBEq, Int.reduceBNe]; rfl) ?_
 refine WpO.nil (hKF _ _ ?_)
 refine sq ?_
 refine sq ?_
 refine rg fun KF hKF => ?_
 refine Fo.fa rfl ?_
 refine Fo.ld rfl rfl ?_
 refine Fo.len (v := ?_) (by simp only [↓nrmL, nrmK, Nat.reduceEqDiff, ↓reduceIte]; rfl) ?hv ?_; case hv => rfl
 refine mI rfl ?_
 refine WpO.nil (hKF _ _ ?_)
 refine Wp.block ?_
 dsimp only [cond_true, cond_false]
 refine Wp.loopS [8, 26, 27, 28, 29, 30, 31, 32, 33, 34, 35, 36, 37, 38, 39, 40, 41, 42, 43, 44, 45, 46, 47] (fun t : Nat × List UInt8 => [(26, .int .i64 t.1)]) (fun H3 t H2 => t.1 ≤ a * b ∧ t.2.length = a * b ∧ pxOk t.2 = true ∧ BytesI H2 q t.2 ∧ WrS H2 q ∧ ExtP0 H3 H2 q) (fun t => a * b - t.1) (0, List.replicate (a * b) 0) rfl (fun _ => rfl) ⟨rfl, trivial⟩ ⟨Nat.zero_le _, List.length_replicate, pxOk_rep _, inferInstance, inferInstance, inferInstance⟩ (by unfold fuel0 at hn; omega) ?_
 rintro ⟨i, t⟩ g H2 ⟨hi, hlen, hpx, hb2, hw2, ⟨hx2⟩⟩
 dsimp only at hi hlen hpx hb2
 simp only [↓nrmL, nrmZ, Nat.reduceEqDiff, ↓reduceIte, Nat.reduceAdd, Int.reduceBEq, Int.reduceBNe, List.length_replicate]
 cases hcc : decide ((i : Int) < ((a * b : Nat) : Int))
 ·have hil : i = a * b := by have := of_decide_eq_false hcc; omega
  subst hil
  try simp only [↓nrmL, nrmZ, Nat.reduceEqDiff, ↓reduceIte, Nat.reduceAdd, Int.reduceBEq, Int.reduceBNe, hcc]
  refine sq ?_
  refine rg fun KF hKF => ?_
  refine Fo.bin rfl rfl rfl (by simp only [↓nrmL, nrmZ, Nat.reduceEqDiff, ↓reduceIte, Nat.reduceAdd, Int.reduceBEq, Int.reduceBNe, hcc]; rfl) ?_
  refine WpO.nil (hKF _ _ ?_)
  refine sq ?_
  refine Wp.cond (b := false) rfl ?_
  refine Wp.exit ?_
  refine sq ?_
  refine rg fun KF hKF => ?_
  refine Fo.ldN rfl rfl (by simp only [↓nrmL, nrmZ, Nat.reduceEqDiff, ↓reduceIte, Nat.reduceAdd, Int.reduceBEq, Int.reduceBNe, hcc]; rfl) ?_
  refine Fo.st rfl (rfl : _ = AVal.agg _) rfl rfl rfl (by repeat (first | rfl | refine allOne_cons ?_)) (by simp only [↓nrmL, nrmZ, Nat.reduceEqDiff, ↓reduceIte, Nat.reduceAdd, Int.reduceBEq, Int.reduceBNe, hcc]; rfl) ?_
  refine WpO.nil (hKF _ _ ?_)
  refine Wp.ret ?_
  dsimp only [cond_true, cond_false]
  refine ⟨trivial, _, (by first | rfl | exact getAllC rfl rfl rfl rfl | exact getAllT rfl (getAllC rfl rfl rfl rfl) | exact getAllC rfl rfl rfl (getAllC rfl rfl rfl rfl) | exact getAllC1 rfl rfl rfl), ?_⟩
  exact ⟨a, b, t, ha, hb, ⟨by omega, by omega, hlen, hpx⟩, q, rfl, (show BytesI _ q t from inferInstance), hf.weak, inferInstance, Ext0.ext⟩
 ·have hil : i < a * b := by have := of_decide_eq_true hcc; omega
  have hw1 := wa1 (a := i) (by omega)
  have hq8 := wq8 (i := i) (by omega)
  cases ht : decide (((i / 8 : Nat) : Int) < ((bits.length : Nat) : Int))
  ·skip
   try simp only [↓nrmL, nrmZ, Nat.reduceEqDiff, ↓reduceIte, Nat.reduceAdd, Int.reduceBEq, Int.reduceBNe, hcc, hq8, ht]
   refine sq ?_
   refine rg fun KF hKF => ?_
   refine Fo.bin rfl rfl rfl (by simp only [↓nrmL, nrmZ, Nat.reduceEqDiff, ↓reduceIte, Nat.reduceAdd, Int.reduceBEq, Int.reduceBNe, hcc, hq8, ht]; rfl) ?_
   refine WpO.nil (hKF _ _ ?_)
   refine sq ?_
   refine Wp.cond (b := true) rfl ?_
   refine Wp.skip ?_
   refine sq ?_
   refine Wp.block ?_
   refine sq ?_
   refine rg fun KF hKF => ?_
   refine mI rfl ?_
   refine mI rfl ?_
   refine WpO.nil (hKF _ _ ?_)
   refine sq ?_
   refine rg fun KF hKF => ?_
   refine mI rfl ?_
   refine Fo.bin rfl rfl rfl (by simp only [↓nrmL, nrmZ, Nat.reduceEqDiff, ↓reduceIte, Nat.reduceAdd, Int.reduceBEq, Int.reduceBNe, hcc, hq8, ht]; rfl) ?_
   refine Fo.mov (by simp only [↓nrmL, nrmK, Nat.reduceEqDiff, ↓reduceIte]; rfl) ?_
   refine Fo.len (v := ?_) (by simp only [↓nrmL, nrmK, Nat.reduceEqDiff, ↓reduceIte]; rfl) ?hv ?_; case hv => rfl
   refine Fo.bin rfl rfl rfl (by simp only [↓nrmL, nrmZ, Nat.reduceEqDiff, ↓reduceIte, Nat.reduceAdd, Int.reduceBEq, Int.reduceBNe, hcc, hq8, ht]; rfl) ?_
   refine WpO.nil (hKF _ _ ?_)
   refine Wp.cond (b := false) rfl ?_
   refine Wp.skip ?_
   refine rg fun KF hKF => ?_
   refine Fo.bin rfl rfl rfl rfl ?_
   refine mI rfl ?_
   refine WpO.nil (hKF _ _ ?_)
   dsimp only [cond_true, cond_false]
   exact ⟨(i + 1, t), by dsimp only; omega, ⟨by simp only [↓nrmL, nrmZ, Nat.reduceEqDiff, ↓reduceIte, Nat.reduceAdd, Int.reduceBEq, Int.reduceBNe]; rw [hw1], trivial⟩, hil, hlen, hpx, hb2, hw2, inferInstance⟩
  ·have hbi : i / 8 < bits.length := by have := of_decide_eq_true ht; omega
   try simp only [↓nrmL, nrmZ, Nat.reduceEqDiff, ↓reduceIte, Nat.reduceAdd, Int.reduceBEq, Int.reduceBNe, hcc, hq8, ht]
   refine sq ?_
   refine rg fun KF hKF => ?_
   refine Fo.bin rfl rfl rfl (by simp only [↓nrmL, nrmZ, Nat.reduceEqDiff, ↓reduceIte, Nat.reduceAdd, Int.reduceBEq, Int.reduceBNe, hcc, hq8, ht]; rfl) ?_
   refine WpO.nil (hKF _ _ ?_)
   refine sq ?_
   refine Wp.cond (b := true) rfl ?_
   refine Wp.skip ?_
   refine sq ?_
   refine Wp.block ?_
   refine sq ?_
   refine rg fun KF hKF => ?_
   refine mI rfl ?_
   refine mI rfl ?_
   refine WpO.nil (hKF _ _ ?_)
   refine sq ?_
   refine rg fun KF hKF => ?_
   refine mI rfl ?_
   refine Fo.bin rfl rfl rfl (by simp only [↓nrmL, nrmZ, Nat.reduceEqDiff, ↓reduceIte, Nat.reduceAdd, Int.reduceBEq, Int.reduceBNe, hcc, hq8, ht]; rfl) ?_
   refine Fo.mov (by simp only [↓nrmL, nrmK, Nat.reduceEqDiff, ↓reduceIte]; rfl) ?_
   refine Fo.len (v := ?_) (by simp only [↓nrmL, nrmK, Nat.reduceEqDiff, ↓reduceIte]; rfl) ?hv ?_; case hv => rfl
   refine Fo.bin rfl rfl rfl (by simp only [↓nrmL, nrmZ, Nat.reduceEqDiff, ↓reduceIte, Nat.reduceAdd, Int.reduceBEq, Int.reduceBNe, hcc, hq8, ht]; rfl) ?_
   refine WpO.nil (hKF _ _ ?_)
   refine Wp.cond (b := true) rfl ?_
   dsimp only [cond_true, cond_false]
   refine Fr.dregion0 rfl fun KF hKF => ?_
   try simp only [↓nrmL, nrmZ, Nat.reduceEqDiff, ↓reduceIte, Nat.reduceAdd, Int.reduceBEq, Int.reduceBNe, hq8, wr8]
   refine Fe.pure rfl rfl (by simp only [↓nrmL, nrmZ, Nat.reduceEqDiff, ↓reduceIte, Nat.reduceAdd, Int.reduceBEq, Int.reduceBNe, hq8, wr8]; rfl) ?_
   refine Fe.read rfl (exec_ld rfl rfl) rfl (by repeat (first | exact trivial | refine ⟨(by first | exact Or.inl (by dsimp only; decide) | exact Or.inr (exec_ld rfl rfl) | exact Or.inr (exec_ldN rfl rfl rfl) | exact Or.inr (exec_ldB rfl (by omega)) | exact Or.inr (exec_ldI rfl (by omega)) | exact Or.inr ghost_of), ?_⟩)) ?_
   refine Fe.pure rfl rfl (by simp only [↓nrmL, nrmZ, Nat.reduceEqDiff, ↓reduceIte, Nat.reduceAdd, Int.reduceBEq, Int.reduceBNe, hq8, wr8]; rfl) ?_
   refine Fe.pure rfl rfl (by simp only [↓nrmL, nrmZ, Nat.reduceEqDiff, ↓reduceIte, Nat.reduceAdd, Int.reduceBEq, Int.reduceBNe, hq8, wr8]; rfl) ?_
   refine Fe.pure rfl rfl (by simp only [↓nrmL, nrmZ, Nat.reduceEqDiff, ↓reduceIte, Nat.reduceAdd, Int.reduceBEq, Int.reduceBNe, hq8, wr8]; rfl) ?_
   refine Fe.pure rfl rfl (by simp only [↓nrmL, nrmZ, Nat.reduceEqDiff, ↓reduceIte, Nat.reduceAdd, Int.reduceBEq, Int.reduceBNe, hq8, wr8]; rfl) ?_
   refine Fe.pure rfl (exec_idxP (by (try simp only [↓nrmL, nrmZ, Nat.reduceEqDiff, ↓reduceIte, Nat.reduceAdd, Int.reduceBEq, Int.reduceBNe, hq8, wr8]); rfl) rfl ?_) (by simp only [↓nrmL, nrmZ, Nat.reduceEqDiff, ↓reduceIte, Nat.reduceAdd, Int.reduceBEq, Int.reduceBNe, hq8, wr8]; rfl) ?_; (focus omega)
   refine Fe.read rfl (exec_ldB rfl (by omega)) rfl (by repeat (first | exact trivial | refine ⟨(by first | exact Or.inl (by dsimp only; decide) | exact Or.inr (exec_ld rfl rfl) | exact Or.inr (exec_ldN rfl rfl rfl) | exact Or.inr (exec_ldB rfl (by omega)) | exact Or.inr (exec_ldI rfl (by omega)) | exact Or.inr ghost_of), ?_⟩)) ?_
   refine Fe.pure rfl rfl (by simp only [↓nrmL, nrmZ, Nat.reduceEqDiff, ↓reduceIte, Nat.reduceAdd, Int.reduceBEq, Int.reduceBNe, hq8, wr8]; rfl) ?_
   refine Fe.pure rfl rfl (by simp only [↓nrmL, nrmZ, Nat.reduceEqDiff, ↓reduceIte, Nat.reduceAdd, Int.reduceBEq, Int.reduceBNe, hq8, wr8]; rfl) ?_
   refine Fe.pure rfl rfl (by simp only [↓nrmL, nrmZ, Nat.reduceEqDiff, ↓reduceIte, Nat.reduceAdd, Int.reduceBEq, Int.reduceBNe, hq8, wr8]; rfl) ?_
   refine Fe.pure rfl rfl rfl ?_
   refine Fe.pure rfl (exec_idxP (by (try simp only [↓nrmL, nrmZ, Nat.reduceEqDiff, ↓reduceIte, Nat.reduceAdd, Int.reduceBEq, Int.reduceBNe, hq8, wr8]); rfl) rfl ?_) (by simp only [↓nrmL, nrmZ, Nat.reduceEqDiff, ↓reduceIte, Nat.reduceAdd, Int.reduceBEq, Int.reduceBNe, hq8, wr8]; rfl) ?_; (focus omega)
   refine WpE.stB (bitC _) rfl rfl rfl (bitC_eq _) (by rw [hlen]; exact hil) fun H4 hb4 hw4 hx4 => ⟨(by repeat (first | exact trivial | refine ⟨(by first | exact Or.inl (by dsimp only; decide) | exact Or.inr (readOk_of (exec_ld rfl rfl)) | exact Or.inr (readOk_of (exec_ldN rfl rfl rfl)) | exact Or.inr (readOk_of (exec_ldB rfl (by omega))) | exact Or.inr (readOk_of (exec_ldI rfl (by omega))) | exact Or.inr (made_of rfl)), ?_⟩)), ?_⟩
   refine WpE.nil (hKF _ _ ?_)
   refine rg fun KF hKF => ?_
   refine Fo.bin rfl rfl rfl rfl ?_
   refine mI rfl ?_
   refine WpO.nil (hKF _ _ ?_)
   dsimp only [cond_true, cond_false]
   exact ⟨(i + 1, _), by dsimp only; omega, ⟨by simp only [↓nrmL, nrmZ, Nat.reduceEqDiff, ↓reduceIte, Nat.reduceAdd, Int.reduceBEq, Int.reduceBNe]; rw [hw1], trivial⟩, hil, by rw [List.length_set]; exact hlen, pxOk_set hpx (bitC_01 _), hb4, hw4, inferInstance⟩
end Go.Am

/- Parts of slices of bytes. -/
set_option linter.unusedSimpArgs false
set_option linter.unusedVariables false
namespace Go.Am
open Go

/-- v is a part of the slice p: n bytes from a on. -/
class Part (p : outParam AVal) (v : AVal) (a n : outParam Nat) : Prop where
  it : (n = 0 ∧ aLenS v = some (.int .i64 0) ∧ v.cells = [v] ∧ v.one = true) ∨ ∃ r off len cap cap', p = .slice r off len cap 1 ∧ v = .slice r (off + a) n cap' 1 ∧ a + n ≤ len
theorem Part.one {p v : AVal} {a n : Nat} (h : Part p v a n) : OneV v := by
  rcases h.it with ⟨_, _, h1, h2⟩ | ⟨r, off, len, cap, cap', _, rfl, _⟩
  · exact ⟨h1, h2⟩
  · infer_instance
theorem Part.lenS {p v : AVal} {a n : Nat} (h : Part p v a n) : aLenS v = some (.int .i64 n) := by
  rcases h.it with ⟨rfl, h1, _⟩ | ⟨r, off, len, cap, cap', _, rfl, _⟩
  · exact h1
  · rfl
section
variable {call : ACall} {fr : AFrame} {H : AHeap} {KF : AFrame → AHeap → Prop} {os : List ROper} {d : Nat}
theorem exec_idxV {x i : ROpd} {p v : AVal} {a n : Nat} {k : IntKind} {j : Int} (hx : x.ev fr = v) (hi : i.ev fr = .int k j) [s : Part p v a n] (h0 : 0 ≤ j ∧ j < n) : (ROp.idxS 1 x i).exec call fr H = some (.ptr (rowOf p) (offOf p + (a + j.toNat)), H) := by
  rcases s.it with ⟨rfl, _⟩ | ⟨r, off, len, cap, cap', rfl, rfl, _⟩
  · have := h0.1; have := h0.2; omega
  · simp only [ROp.exec, hx, hi, aIdxS, true_and, if_pos h0, M.ofOption, M.pure, rowOf, offOf, Nat.mul_one, Nat.add_assoc]
theorem exec_lenV {x : ROpd} {p v : AVal} {a n : Nat} (hx : x.ev fr = v) [s : Part p v a n] : (ROp.lenS x).exec call fr H = some (.int .i64 n, H) := by
  simp only [ROp.exec, hx, s.lenS, M.ofOption, M.pure]
theorem Fo.idxV {x i : ROpd} {p v : AVal} {a n o : Nat} {k : IntKind} {j : Int} (hx : x.ev fr = v) (hi : i.ev fr = .int k j) [s : Part p v a n] (h0 : 0 ≤ j ∧ j < n) (ho : offOf p + (a + j.toNat) = o) (h : WpO call os (upd fr d (.ptr (rowOf p) o)) H KF) : WpO call (⟨some d, .idxS 1 x i, none⟩ :: os) fr H KF := by
  subst ho; exact WpO.step rfl ⟨_, _, exec_idxV hx hi h0, h⟩
theorem Fo.lenV {x : ROpd} {p v u : AVal} {a n : Nat} (hx : x.ev fr = v) [s : Part p v a n] (hv : AVal.int .i64 n = u) (h : WpO call os (upd fr d u) H KF) : WpO call (⟨some d, .lenS x, none⟩ :: os) fr H KF := by
  subst hv; exact WpO.step rfl ⟨_, _, exec_lenV hx, h⟩

theorem cells_sub {row : List AVal} {l : List UInt8} {off a b : Nat} (hc : (row.drop off).take l.length = cellsB l) (hb : b ≤ l.length) : (row.drop (off + a)).take (b - a) = cellsB ((l.drop a).take (b - a)) := by
  have h1 : (cellsB l).drop a = cellsB (l.drop a) := by simp [cellsB, List.map_drop]
  have h2 : ∀ (k : Nat) (m : List UInt8), (cellsB m).take k = cellsB (m.take k) := fun k m => by simp [cellsB, List.map_take]
  rw [← h2, ← h1, ← hc, List.drop_take, List.drop_drop, List.take_take]
  congr 1
  omega
/-- What a slice expression's bound says. -/
def bnd (o : Option AVal) (dflt n : Nat) : Prop := (o = none ∧ n = dflt) ∨ ∃ k, o = some (.int k n)
theorem exec_slc {x : ROpd} {lo hi : Option ROpd} {p : AVal} {l : List UInt8} {a b : Nat} (hx : x.ev fr = p) (hlo : bnd (lo.map (·.ev fr)) 0 a) (hhi : bnd (hi.map (·.ev fr)) l.length b) (hab : a ≤ b) (hbl : b ≤ l.length) [s : BytesI H p l] :
    ∃ v H', (ROp.sliceS 1 x lo hi none).exec call fr H = some (v, H') ∧ Part p v a (b - a) ∧ BytesI H' v ((l.drop a).take (b - a)) ∧ Ext H H' := by
  have hlen : ((l.drop a).take (b - a)).length = b - a := by rw [List.length_take, List.length_drop]; omega
  have hl1 : ∀ h, a ≤ h → aLow h (lo.map (·.ev fr)) = some a := by
    intro h hh
    rcases hlo with ⟨h1, rfl⟩ | ⟨k, h1⟩
    · rw [h1]; rfl
    · rw [h1]
      have : (0 : Int) ≤ (a : Int) ∧ (a : Int) ≤ (h : Int) := by omega
      simp only [aLow, aBound, if_pos this, Int.toNat_natCast]
  have hh1 : ∀ y, b ≤ y → aHigh l.length y (hi.map (·.ev fr)) = some b := by
    intro y hy
    rcases hhi with ⟨h1, rfl⟩ | ⟨k, h1⟩
    · rw [h1]; rfl
    · rw [h1]
      have : (0 : Int) ≤ (b : Int) ∧ (b : Int) ≤ (y : Int) := by omega
      simp only [aHigh, aBound, if_pos this, Int.toNat_natCast]
  rcases s.it with ⟨rfl, h0, _⟩ | ⟨r, off, cap, row, rw, e, rfl, hr, hg, hl, hc, hcap⟩
  · have e1 : b = 0 := by omega
    have e2 : a = 0 := by omega
    subst e1 e2
    have hb0 : aBounds 0 (some 0) (lo.map (·.ev fr)) (hi.map (·.ev fr)) none = some (0, 0, some 0) := by
      have h1 := hh1 (capD 0 (some 0)) (Nat.zero_le _)
      rw [h0] at h1
      simp only [aBounds, h1, hl1 0 (Nat.zero_le _)]
    refine ⟨.nslice, H, by simp only [ROp.exec, hx, Option.map_none, aSliceS, hb0, M.pure], ⟨Or.inl ⟨rfl, rfl, rfl, rfl⟩⟩, ?_, Ext.refl H⟩
    have e3 : (l.drop 0).take (0 - 0) = [] := by simp
    rw [e3]
    exact ⟨Or.inl ⟨rfl, rfl, rfl⟩⟩
  · rw [Nat.mul_one] at hl hc
    have hb0 : aBounds l.length cap (lo.map (·.ev fr)) (hi.map (·.ev fr)) none = some (a, b, cap) := by
      simp only [aBounds, hh1 _ (Nat.le_trans hbl hcap), hl1 b hab]
    have hsub := cells_sub (a := a) hc hbl
    have full : ∀ cap', (b - a ≤ capD (b - a) cap') → BytesI H (.slice r (off + a) (b - a) cap' 1) ((l.drop a).take (b - a)) := by
      intro cap' hc'
      unfold BytesI
      rw [hlen]
      exact ⟨Or.inr ⟨r, off + a, cap', row, rw, e, rfl, hr, hg, by omega, by rw [Nat.mul_one]; exact hsub, hc'⟩⟩
    have none0 : a = b → ∀ cap', BytesI H (.slice r off (b - a) cap' 1) ((l.drop a).take (b - a)) := by
      intro hE cap'
      subst hE
      have e3 : (l.drop a).take (a - a) = [] := by simp
      rw [e3, Nat.sub_self]
      exact ⟨Or.inr ⟨r, off, cap', row, rw, e, rfl, hr, hg, by simp; omega, by simp [cellsB], Nat.zero_le _⟩⟩
    cases cap with
    | some c =>
      simp only [capD] at hcap
      by_cases hca : c = a
      · have hE : a = b := by omega
        refine ⟨.slice r off (b - a) (some 0) 1, H, by simp only [ROp.exec, hx, Option.map_none, aSliceS, ne_eq, not_true, if_false, hb0, M.pure, if_pos hca], ⟨Or.inl ⟨by omega, by rw [hE, Nat.sub_self]; rfl, rfl, rfl⟩⟩, none0 hE _, Ext.refl H⟩
      · refine ⟨.slice r (off + a) (b - a) (some (c - a)) 1, H, by simp only [ROp.exec, hx, Option.map_none, aSliceS, ne_eq, not_true, if_false, hb0, M.pure, if_neg hca, Nat.mul_one], ⟨Or.inr ⟨r, off, l.length, some c, some (c - a), rfl, rfl, by omega⟩⟩, full _ (by simp only [capD]; omega), Ext.refl H⟩
    | none =>
      have h2 : ¬ row.length < off + l.length := by omega
      have hrow : aRow r H = some ((row, rw), H) := by simp only [aRow, if_pos hr, hg]
      by_cases hcd : a < b ∨ a = 0
      · refine ⟨.slice r (off + a) (b - a) none 1, H, ?_, ⟨Or.inr ⟨r, off, l.length, none, none, rfl, rfl, by omega⟩⟩, full _ (Nat.le_refl _), Ext.refl H⟩
        simp only [ROp.exec, hx, Option.map_none, aSliceS, ne_eq, not_true, if_false, hb0, Nat.mul_one, Nat.one_ne_zero, M.bind, hrow, if_neg h2, if_pos hcd, M.pure]
      · have hE : a = b := by omega
        refine ⟨.slice H.n 0 0 none 1, H.push (.row [] false 0), ?_, ⟨Or.inl ⟨by omega, rfl, rfl, rfl⟩⟩, ?_, (Ext.refl H).push _⟩
        · simp only [ROp.exec, hx, Option.map_none, aSliceS, ne_eq, not_true, if_false, hb0, Nat.mul_one, Nat.one_ne_zero, M.bind, hrow, if_neg h2, if_neg hcd, M.pure, aNew]
        · have e3 : (l.drop a).take (b - a) = [] := by rw [hE, Nat.sub_self]; simp
          rw [e3]
          exact ⟨Or.inr ⟨H.n, 0, none, [], false, 0, rfl, Nat.lt_succ_self _, push_get_eq, by simp, by simp [cellsB], Nat.zero_le _⟩⟩
theorem Fo.slc {x : ROpd} {lo hi : Option ROpd} {p : AVal} {l : List UInt8} {a b : Nat} (hx : x.ev fr = p) (hlo : bnd (lo.map (·.ev fr)) 0 a) (hhi : bnd (hi.map (·.ev fr)) l.length b) (hab : a ≤ b) (hbl : b ≤ l.length) [s : BytesI H p l]
    (h : ∀ v H1, Part p v a (b - a) → BytesI H1 v ((l.drop a).take (b - a)) → ExtI H H1 → WpO call os (upd fr d v) H1 KF) : WpO call (⟨some d, .sliceS 1 x lo hi none, none⟩ :: os) fr H KF := by
  obtain ⟨v, H1, h1, h2, h3, h4⟩ := exec_slc (call := call) hx hlo hhi hab hbl (s := s)
  exact WpO.step rfl ⟨v, H1, h1, h v H1 h2 h3 ⟨h4⟩⟩
end
/-- A row of an image. -/
def rowL (l : List UInt8) (a y : Nat) : List UInt8 := (l.drop (y * a)).take a
theorem row_le {a b y : Nat} (hy : y < b) : y * a + a ≤ a * b := by
  have : (y + 1) * a ≤ b * a := Nat.mul_le_mul_right _ hy
  rw [Nat.add_mul, Nat.one_mul] at this
  rw [Nat.mul_comm a b]; exact this
theorem rowL_length {l : List UInt8} {a b y : Nat} (hl : l.length = a * b) (hy : y < b) : (rowL l a y).length = a := by
  have := row_le (a := a) hy
  rw [rowL, List.length_take, List.length_drop]; omega
theorem rowL_get {l : List UInt8} {a b y x : Nat} (hl : l.length = a * b) (hy : y < b) (hx : x < a) : (rowL l a y)[x]'(by rw [rowL_length hl hy]; exact hx) = l[y * a + x]'(by have := row_le (a := a) hy; omega) := by
  simp only [rowL, List.getElem_take, List.getElem_drop]
end Go.Am

set_option linter.unusedSimpArgs false
set_option linter.unusedVariables false
set_option maxHeartbeats 4000000
set_option maxRecDepth 100000
namespace Go.Am
open Go
attribute [local irreducible] Wp WpO WpX WpE

theorem K_line {a b y : Nat} {p : AVal} {H : AHeap} {l : List UInt8} [hp : BytesI H p l] (hl : l.length = a * b) (hy : y < b) (hm : a * b ≤ 640 * 640) (hb : b ≤ 640) : Con ext prog 1 111 [.agg [.int .i64 a, .int .i64 b, p], .int .i64 y] H fun v H' => Part p v (y * a) a ∧ BytesI H' v (rowL l a y) ∧ Ext H H' := by
 refine con_of (show prog 111 = some c111 from rfl) rfl rfl fun n hn => ?_
 haveI := hp.one
 have hr := row_le (a := a) hy
 have e1 : (y + 1) * a = y * a + a := by rw [Nat.add_mul, Nat.one_mul]
 have h3 : IntKind.i64.wrap ((y : Int) * (a : Int)) = ((y * a : Nat) : Int) := wm (by omega)
 have h4 := wa1 (a := y) (by omega)
 have h5 : IntKind.i64.wrap (((y + 1 : Nat) : Int) * (a : Int)) = ((y * a + a : Nat) : Int) := by rw [← e1]; exact wm (by omega)
 try simp only [↓nrmL, nrmZ, Nat.reduceEqDiff, ↓reduceIte, Nat.reduceAdd, Int.reduceBEq, Int.reduceBNe, h3, h4, h5]
 refine sq ?_
 refine rg fun KF hKF => ?_
 refine Fo.boxA rfl ?_
 refine mN rfl ?_
 refine WpO.nil (hKF _ _ ?_)
 refine sq ?_
 refine rg fun KF hKF => ?_
 refine Fo.fa rfl ?_
 refine Fo.ld rfl rfl ?_
 refine mI rfl ?_
 refine Fo.fa rfl ?_
 refine Fo.ld rfl rfl ?_
 refine Fo.bin rfl rfl rfl (by simp only [↓nrmL, nrmZ, Nat.reduceEqDiff, ↓reduceIte, Nat.reduceAdd, Int.reduceBEq, Int.reduceBNe, h3, h4, h5]; rfl) ?_
 refine mI rfl ?_
 refine Fo.bin rfl rfl rfl (by simp only [↓nrmL, nrmZ, Nat.reduceEqDiff, ↓reduceIte, Nat.reduceAdd, Int.reduceBEq, Int.reduceBNe, h3, h4, h5]; rfl) ?_
 refine Fo.fa rfl ?_
 refine Fo.ld rfl rfl ?_
 refine Fo.bin rfl rfl rfl (by simp only [↓nrmL, nrmZ, Nat.reduceEqDiff, ↓reduceIte, Nat.reduceAdd, Int.reduceBEq, Int.reduceBNe, h3, h4, h5]; rfl) ?_
 refine Fo.slc (p := p) (l := l) (a := y * a) (b := y * a + a) rfl (Or.inr ⟨_, rfl⟩) (Or.inr ⟨_, rfl⟩) (by omega) (by omega) fun v H1 h6 h7 hx => ?_
 rw [Nat.add_sub_cancel_left] at h6 h7
 haveI := h6.one
 refine Fo.mov (by simp only [↓nrmL, nrmK, Nat.reduceEqDiff, ↓reduceIte]; rfl) ?_
 refine WpO.nil (hKF _ _ ?_)
 refine Wp.ret ?_
 dsimp only [cond_true, cond_false]
 refine ⟨trivial, _, (by first | rfl | exact getAllC rfl rfl rfl rfl | exact getAllT rfl (getAllC rfl rfl rfl rfl) | exact getAllC rfl rfl rfl (getAllC rfl rfl rfl rfl) | exact getAllC1 rfl rfl rfl), ?_⟩
 exact ⟨h6, h7, Ext0.ext⟩

/-- A part of a list turned round. -/
def revAt (l : List UInt8) (s n : Nat) : List UInt8 := (List.range l.length).map fun t => if s ≤ t ∧ t < s + n then l.getD (s + (n - 1 - (t - s))) 0 else l.getD t 0
def revP (l : List UInt8) (s n i : Nat) : List UInt8 := (List.range l.length).map fun t => if s ≤ t ∧ t < s + n ∧ (t - s < i ∨ n - 1 - (t - s) < i) then l.getD (s + (n - 1 - (t - s))) 0 else l.getD t 0
theorem revAt_length (l : List UInt8) (s n : Nat) : (revAt l s n).length = l.length := by simp [revAt]
theorem revP_length (l : List UInt8) (s n i : Nat) : (revP l s n i).length = l.length := by simp [revP]
theorem getD_map {f : Nat → UInt8} {n i : Nat} (h : i < n) : ((List.range n).map f).getD i 0 = f i := by simp [h]
theorem get_map {f : Nat → UInt8} {n i : Nat} (h : i < ((List.range n).map f).length) : ((List.range n).map f)[i] = f i := by simp
theorem list_eq {l m : List UInt8} (hl : l.length = m.length) (h : ∀ t, t < l.length → l.getD t 0 = m.getD t 0) : l = m := by
 apply List.ext_getElem hl
 intro i h1 h2
 have := h i h1
 simpa [h1, h2] using this
theorem revP_zero (l : List UInt8) (s n : Nat) : revP l s n 0 = l := by
 refine list_eq (revP_length _ _ _ _) fun t ht => ?_
 rw [revP_length] at ht
 rw [revP, getD_map ht, if_neg (by omega)]
theorem revP_get {l : List UInt8} {s n i t : Nat} (ht : t < l.length) (h : ¬ (s ≤ t ∧ t < s + n ∧ (t - s < i ∨ n - 1 - (t - s) < i))) : (revP l s n i)[t]'(by rw [revP_length]; exact ht) = l[t] := by
 simp only [revP]
 rw [get_map, if_neg h]
 simp [ht]
theorem revP_succ {l : List UInt8} {s n i : Nat} (hs : s + n ≤ l.length) (hi : i < n - 1 - i) : ((revP l s n i).set (s + i) (l[s + (n - 1 - i)]'(by omega))).set (s + (n - 1 - i)) (l[s + i]'(by omega)) = revP l s n (i + 1) := by
 have g1 : l.getD (s + (n - 1 - i)) 0 = l[s + (n - 1 - i)]'(by omega) := by simp [show s + (n - 1 - i) < l.length by omega]
 have g2 : l.getD (s + i) 0 = l[s + i]'(by omega) := by simp [show s + i < l.length by omega]
 rw [← g1, ← g2]
 refine list_eq (by simp [revP_length]) fun t ht => ?_
 simp only [List.length_set, revP_length] at ht
 rw [List.getD_eq_getElem?_getD, List.getElem?_set, List.getElem?_set]
 simp only [List.length_set, revP_length]
 rw [revP, revP, getD_map ht]
 by_cases h1 : s + (n - 1 - i) = t
 ·subst h1
  rw [if_pos rfl, if_pos ht, Option.getD_some, if_pos (by omega)]
  congr 1; omega
 ·rw [if_neg h1]
  by_cases h2 : s + i = t
  ·subst h2
   rw [if_pos rfl, if_pos ht, Option.getD_some, if_pos (by omega)]
   congr 1; omega
  ·rw [if_neg h2, ← List.getD_eq_getElem?_getD, getD_map ht]
   by_cases h3 : s ≤ t ∧ t < s + n ∧ (t - s < i ∨ n - 1 - (t - s) < i)
   ·rw [if_pos h3, if_pos (by omega)]
   ·rw [if_neg h3, if_neg (by omega)]
theorem revP_end {l : List UInt8} {s n i : Nat} (hi : n ≤ 2 * i + 1) : revP l s n i = revAt l s n := by
 refine list_eq (by rw [revP_length, revAt_length]) fun t ht => ?_
 rw [revP_length] at ht
 rw [revP, revAt, getD_map ht, getD_map ht]
 by_cases h3 : s ≤ t ∧ t < s + n ∧ (t - s < i ∨ n - 1 - (t - s) < i)
 ·rw [if_pos h3, if_pos (by omega)]
 ·rw [if_neg h3]
  by_cases h4 : s ≤ t ∧ t < s + n
  ·rw [if_pos h4]
   congr 1; omega
  ·rw [if_neg h4]

theorem K_Reverse {v p : AVal} {H : AHeap} {l : List UInt8} {s n : Nat} [hp : BytesI H p l] [hw : WrS H p] [hv : Part p v s n] (hs : s + n ≤ l.length) (hl : l.length ≤ 999999) : Con ext prog 1 119 [v] H fun _ H' => BytesI H' p (revAt l s n) ∧ WrS H' p ∧ ExtP H H' p := by
 refine con_of (show prog 119 = some c119 from rfl) rfl rfl fun nn hn => ?_
 haveI := hv.one
 have hsub : IntKind.i64.wrap ((n : Int) - 1) = (n : Int) - 1 := w64 (by omega)
 by_cases hn0 : n = 0
 ·subst hn0
  try simp only [↓nrmL, nrmZ, Nat.reduceEqDiff, ↓reduceIte, Nat.reduceAdd, Int.reduceBEq, Int.reduceBNe, hsub]
  refine sq ?_
  refine rg fun KF hKF => ?_
  refine Fo.mov (by simp only [↓nrmL, nrmK, Nat.reduceEqDiff, ↓reduceIte]; rfl) ?_
  refine Fo.lenV (u := ?_) (by simp only [↓nrmL, nrmK, Nat.reduceEqDiff, ↓reduceIte]; rfl) ?hv ?_; case hv => rfl
  refine Fo.bin rfl rfl rfl (by simp only [↓nrmL, nrmZ, Nat.reduceEqDiff, ↓reduceIte, Nat.reduceAdd, Int.reduceBEq, Int.reduceBNe, hsub]; rfl) ?_
  refine mI rfl ?_
  refine mI rfl ?_
  refine WpO.nil (hKF _ _ ?_)
  refine Wp.block ?_
  dsimp only [cond_true, cond_false]
  refine Wp.loopS [2, 3, 7, 8, 9, 10, 11, 12, 13, 14, 15, 16, 17, 18, 19, 20, 21, 22, 23, 24, 25, 26, 27] (fun _ : Unit => [(2, .int .i64 0), (3, .int .i64 (((0 : Nat) : Int) - 1))]) (fun H3 _ H2 => H2 = H3) (fun _ => 0) () rfl (fun _ => rfl) ⟨rfl, rfl, trivial⟩ rfl (by unfold fuel0 at hn; omega) ?_
  rintro _ g H2 rfl
  simp only [↓nrmL, nrmZ, Nat.reduceEqDiff, ↓reduceIte, Nat.reduceAdd, Int.reduceBEq, Int.reduceBNe]
  have hc : decide ((0 : Int) < ((0 : Nat) : Int) - 1) = false := rfl
  try simp only [↓nrmL, nrmZ, Nat.reduceEqDiff, ↓reduceIte, Nat.reduceAdd, Int.reduceBEq, Int.reduceBNe, hc]
  refine sq ?_
  refine sq ?_
  refine rg fun KF hKF => ?_
  refine mI rfl ?_
  refine mI rfl ?_
  refine Fo.bin rfl rfl rfl (by simp only [↓nrmL, nrmZ, Nat.reduceEqDiff, ↓reduceIte, Nat.reduceAdd, Int.reduceBEq, Int.reduceBNe, hc]; rfl) ?_
  refine WpO.nil (hKF _ _ ?_)
  refine Wp.cond (b := false) rfl ?_
  refine Wp.exit ?_
  dsimp only [cond_true, cond_false]
  have e : revAt l s 0 = l := by rw [← revP_end (i := 0) (by omega), revP_zero]
  rw [e]
  exact ⟨trivial, _, rfl, hp, hw, ExtP.refl _ _⟩
 have hj0 : (n : Int) - 1 = ((n - 1 - 0 : Nat) : Int) := by omega
 try simp only [↓nrmL, nrmZ, Nat.reduceEqDiff, ↓reduceIte, Nat.reduceAdd, Int.reduceBEq, Int.reduceBNe, hsub]
 refine sq ?_
 refine rg fun KF hKF => ?_
 refine Fo.mov (by simp only [↓nrmL, nrmK, Nat.reduceEqDiff, ↓reduceIte]; rfl) ?_
 refine Fo.lenV (u := ?_) (by simp only [↓nrmL, nrmK, Nat.reduceEqDiff, ↓reduceIte]; rfl) ?hv ?_; case hv => rfl
 refine Fo.bin rfl rfl rfl (by simp only [↓nrmL, nrmZ, Nat.reduceEqDiff, ↓reduceIte, Nat.reduceAdd, Int.reduceBEq, Int.reduceBNe, hsub]; rfl) ?_
 refine mI rfl ?_
 refine mI rfl ?_
 refine WpO.nil (hKF _ _ ?_)
 refine Wp.block ?_
 dsimp only [cond_true, cond_false]
 refine Wp.loopS [2, 3, 7, 8, 9, 10, 11, 12, 13, 14, 15, 16, 17, 18, 19, 20, 21, 22, 23, 24, 25, 26, 27] (fun i : Nat => [(2, .int .i64 i), (3, .int .i64 ((n - 1 - i : Nat) : Int))]) (fun H3 i H2 => 2 * i ≤ n ∧ BytesI H2 p (revP l s n i) ∧ WrS H2 p ∧ ExtP0 H3 H2 p) (fun i => n - i) 0 rfl (fun _ => rfl) ⟨rfl, by rw [← hj0]; rfl, trivial⟩ ⟨by omega, by rw [revP_zero]; infer_instance, inferInstance, inferInstance⟩ (by unfold fuel0 at hn; omega) ?_
 rintro i g H2 ⟨hi, hb2, hw2, ⟨hx2⟩⟩
 simp only [↓nrmL, nrmZ, Nat.reduceEqDiff, ↓reduceIte, Nat.reduceAdd, Int.reduceBEq, Int.reduceBNe]
 cases hc : decide ((i : Int) < ((n - 1 - i : Nat) : Int))
 ·have hij : ¬ (i < n - 1 - i) := by have := of_decide_eq_false hc; omega
  try simp only [↓nrmL, nrmZ, Nat.reduceEqDiff, ↓reduceIte, Nat.reduceAdd, Int.reduceBEq, Int.reduceBNe, hc]
  refine sq ?_
  refine sq ?_
  refine rg fun KF hKF => ?_
  refine mI rfl ?_
  refine mI rfl ?_
  refine Fo.bin rfl rfl rfl (by simp only [↓nrmL, nrmZ, Nat.reduceEqDiff, ↓reduceIte, Nat.reduceAdd, Int.reduceBEq, Int.reduceBNe, hc]; rfl) ?_
  refine WpO.nil (hKF _ _ ?_)
  refine Wp.cond (b := false) rfl ?_
  refine Wp.exit ?_
  dsimp only [cond_true, cond_false]
  rw [revP_end (by omega)] at hb2
  exact ⟨trivial, _, rfl, hb2, hw2, (inferInstance : ExtP0 H H2 p).ext⟩
 ·have hij : i < n - 1 - i := by have := of_decide_eq_true hc; omega
  have hw1 := wa1 (a := i) (by omega)
  have hw2' : IntKind.i64.wrap (((n - 1 - i : Nat) : Int) - 1) = ((n - 1 - (i + 1) : Nat) : Int) := by rw [w64 (by omega)]; omega
  have hfl := revP_length l s n i
  have hr1 := revP_get (l := l) (s := s) (n := n) (i := i) (t := s + (n - 1 - i)) (by omega) (by omega)
  have hr2 := revP_get (l := l) (s := s) (n := n) (i := i) (t := s + i) (by omega) (by omega)
  try simp only [↓nrmL, nrmZ, Nat.reduceEqDiff, ↓reduceIte, Nat.reduceAdd, Int.reduceBEq, Int.reduceBNe, hc]
  refine sq ?_
  refine sq ?_
  refine rg fun KF hKF => ?_
  refine mI rfl ?_
  refine mI rfl ?_
  refine Fo.bin rfl rfl rfl (by simp only [↓nrmL, nrmZ, Nat.reduceEqDiff, ↓reduceIte, Nat.reduceAdd, Int.reduceBEq, Int.reduceBNe, hc]; rfl) ?_
  refine WpO.nil (hKF _ _ ?_)
  refine Wp.cond (b := true) rfl ?_
  refine Wp.skip ?_
  refine sq ?_
  refine Wp.block ?_
  dsimp only [cond_true, cond_false]
  refine Fr.dregion0 rfl fun KF hKF => ?_
  try simp only [↓nrmL, nrmZ, Nat.reduceEqDiff, ↓reduceIte, Nat.reduceAdd, Int.reduceBEq, Int.reduceBNe, hr1, hr2]
  refine Fe.pure rfl rfl (by simp only [↓nrmL, nrmZ, Nat.reduceEqDiff, ↓reduceIte, Nat.reduceAdd, Int.reduceBEq, Int.reduceBNe, hr1, hr2]; rfl) ?_
  refine Fe.pure rfl rfl (by simp only [↓nrmL, nrmZ, Nat.reduceEqDiff, ↓reduceIte, Nat.reduceAdd, Int.reduceBEq, Int.reduceBNe, hr1, hr2]; rfl) ?_
  refine Fe.pure rfl rfl (by simp only [↓nrmL, nrmZ, Nat.reduceEqDiff, ↓reduceIte, Nat.reduceAdd, Int.reduceBEq, Int.reduceBNe, hr1, hr2]; rfl) ?_
  refine Fe.pure rfl rfl (by simp only [↓nrmL, nrmZ, Nat.reduceEqDiff, ↓reduceIte, Nat.reduceAdd, Int.reduceBEq, Int.reduceBNe, hr1, hr2]; rfl) ?_
  refine Fe.pure rfl rfl (by simp only [↓nrmL, nrmZ, Nat.reduceEqDiff, ↓reduceIte, Nat.reduceAdd, Int.reduceBEq, Int.reduceBNe, hr1, hr2]; rfl) ?_
  refine Fe.pure rfl rfl (by simp only [↓nrmL, nrmZ, Nat.reduceEqDiff, ↓reduceIte, Nat.reduceAdd, Int.reduceBEq, Int.reduceBNe, hr1, hr2]; rfl) ?_
  refine Fe.pure rfl (exec_idxV (by (try simp only [↓nrmL, nrmZ, Nat.reduceEqDiff, ↓reduceIte, Nat.reduceAdd, Int.reduceBEq, Int.reduceBNe, hr1, hr2]); rfl) rfl ?_) (by simp only [↓nrmL, nrmZ, Nat.reduceEqDiff, ↓reduceIte, Nat.reduceAdd, Int.reduceBEq, Int.reduceBNe, hr1, hr2]; rfl) ?_; (focus omega)
  refine Fe.read rfl (exec_ldB rfl (by omega)) (by simp only [↓nrmL, nrmZ, Nat.reduceEqDiff, ↓reduceIte, Nat.reduceAdd, Int.reduceBEq, Int.reduceBNe, hr1, hr2]; rfl) (by repeat (first | exact trivial | refine ⟨(by first | exact Or.inl (by dsimp only; decide) | exact Or.inr (exec_ld rfl rfl) | exact Or.inr (exec_ldN rfl rfl rfl) | exact Or.inr (exec_ldB rfl (by omega)) | exact Or.inr (exec_ldI rfl (by omega)) | exact Or.inr ghost_of), ?_⟩)) ?_
  refine Fe.pure rfl rfl (by simp only [↓nrmL, nrmZ, Nat.reduceEqDiff, ↓reduceIte, Nat.reduceAdd, Int.reduceBEq, Int.reduceBNe, hr1, hr2]; rfl) ?_
  refine Fe.pure rfl rfl (by simp only [↓nrmL, nrmZ, Nat.reduceEqDiff, ↓reduceIte, Nat.reduceAdd, Int.reduceBEq, Int.reduceBNe, hr1, hr2]; rfl) ?_
  refine Fe.pure rfl (exec_idxV (by (try simp only [↓nrmL, nrmZ, Nat.reduceEqDiff, ↓reduceIte, Nat.reduceAdd, Int.reduceBEq, Int.reduceBNe, hr1, hr2]); rfl) rfl ?_) (by simp only [↓nrmL, nrmZ, Nat.reduceEqDiff, ↓reduceIte, Nat.reduceAdd, Int.reduceBEq, Int.reduceBNe, hr1, hr2]; rfl) ?_; (focus omega)
  refine Fe.read rfl (exec_ldB rfl (by omega)) (by simp only [↓nrmL, nrmZ, Nat.reduceEqDiff, ↓reduceIte, Nat.reduceAdd, Int.reduceBEq, Int.reduceBNe, hr1, hr2]; rfl) (by repeat (first | exact trivial | refine ⟨(by first | exact Or.inl (by dsimp only; decide) | exact Or.inr (exec_ld rfl rfl) | exact Or.inr (exec_ldN rfl rfl rfl) | exact Or.inr (exec_ldB rfl (by omega)) | exact Or.inr (exec_ldI rfl (by omega)) | exact Or.inr ghost_of), ?_⟩)) ?_
  refine Fe.pure rfl (exec_idxV (by (try simp only [↓nrmL, nrmZ, Nat.reduceEqDiff, ↓reduceIte, Nat.reduceAdd, Int.reduceBEq, Int.reduceBNe, hr1, hr2]); rfl) rfl ?_) (by simp only [↓nrmL, nrmZ, Nat.reduceEqDiff, ↓reduceIte, Nat.reduceAdd, Int.reduceBEq, Int.reduceBNe, hr1, hr2]; rfl) ?_; (focus omega)
  refine WpE.stB (l[s + (n - 1 - i)]'(by omega)) rfl rfl rfl rfl (by rw [hfl]; omega) fun H4 hb4 hw4 hx4 => ⟨(by repeat (first | exact trivial | refine ⟨(by first | exact Or.inl (by dsimp only; decide) | exact Or.inr (readOk_of (exec_ld rfl rfl)) | exact Or.inr (readOk_of (exec_ldN rfl rfl rfl)) | exact Or.inr (readOk_of (exec_ldB rfl (by omega))) | exact Or.inr (readOk_of (exec_ldI rfl (by omega))) | exact Or.inr (made_of rfl)), ?_⟩)), ?_⟩
  refine Fe.pure rfl (exec_idxV (by (try simp only [↓nrmL, nrmZ, Nat.reduceEqDiff, ↓reduceIte, Nat.reduceAdd, Int.reduceBEq, Int.reduceBNe]); rfl) rfl ?_) (by simp only [↓nrmL, nrmZ, Nat.reduceEqDiff, ↓reduceIte, Nat.reduceAdd, Int.reduceBEq, Int.reduceBNe]; rfl) ?_; (focus omega)
  refine WpE.stB (l[s + i]'(by omega)) rfl rfl rfl rfl (by rw [List.length_set, hfl]; omega) fun H5 hb5 hw5 hx5 => ⟨(by repeat (first | exact trivial | refine ⟨(by first | exact Or.inl (by dsimp only; decide) | exact Or.inr (readOk_of (exec_ld rfl rfl)) | exact Or.inr (readOk_of (exec_ldN rfl rfl rfl)) | exact Or.inr (readOk_of (exec_ldB rfl (by omega))) | exact Or.inr (readOk_of (exec_ldI rfl (by omega))) | exact Or.inr (made_of rfl)), ?_⟩)), ?_⟩
  refine WpE.nil (hKF _ _ ?_)
  refine rg fun KF hKF => ?_
  refine mI rfl ?_
  refine Fo.bin rfl rfl rfl rfl ?_
  refine mI rfl ?_
  refine Fo.bin rfl rfl rfl rfl ?_
  refine mI rfl ?_
  refine mI rfl ?_
  refine WpO.nil (hKF _ _ ?_)
  dsimp only [cond_true, cond_false]
  refine ⟨i + 1, by omega, ⟨by simp only [↓nrmL, nrmZ, Nat.reduceEqDiff, ↓reduceIte, Nat.reduceAdd, Int.reduceBEq, Int.reduceBNe]; rw [hw1], by simp only [↓nrmL, nrmZ, Nat.reduceEqDiff, ↓reduceIte, Nat.reduceAdd, Int.reduceBEq, Int.reduceBNe]; rw [hw2'], trivial⟩, by omega, by rw [← revP_succ hs hij]; exact hb5, hw5, inferInstance⟩
end Go.Am

set_option linter.unusedSimpArgs false
set_option linter.unusedVariables false
set_option maxHeartbeats 4000000
set_option maxRecDepth 100000
namespace Go.Am
open Go
attribute [local irreducible] Wp WpO WpX WpE

theorem row_iff {a t y : Nat} (ha : 0 < a) : t / a = y ↔ y * a ≤ t ∧ t < y * a + a := by
 have h1 := Nat.div_add_mod t a
 have h2 := Nat.mod_lt t ha
 constructor
 ·rintro rfl
  rw [Nat.mul_comm] at h1
  omega
 ·rintro ⟨h3, h4⟩
  have h5 : t / a < y + 1 := by
   apply Nat.lt_of_mul_lt_mul_right (a := a)
   rw [Nat.add_mul, Nat.one_mul]
   rw [Nat.mul_comm] at h1
   omega
  have h6 : y < t / a + 1 := by
   apply Nat.lt_of_mul_lt_mul_right (a := a)
   rw [Nat.add_mul, Nat.one_mul]
   rw [Nat.mul_comm] at h1
   omega
  omega
theorem row_mod {a t : Nat} : t = t / a * a + t % a := by
 have h1 := Nat.div_add_mod t a
 rw [Nat.mul_comm] at h1
 omega
theorem row_at {a x y : Nat} (hx : x < a) : (y * a + x) / a = y ∧ (y * a + x) % a = x := by
 have h1 : (y * a + x) / a = y := (row_iff (by omega)).2 ⟨by omega, by omega⟩
 have h2 := row_mod (a := a) (t := y * a + x)
 rw [h1] at h2
 exact ⟨h1, by omega⟩
theorem div_lt' {a b t : Nat} (h : t < a * b) : t / a < b := Nat.div_lt_of_lt_mul h

def mirP (l : List UInt8) (a y : Nat) : List UInt8 := (List.range l.length).map fun t => if t / a < y then l.getD (t / a * a + (a - 1 - t % a)) 0 else l.getD t 0
/-- Left and right exchanged. -/
def mirrorL (l : List UInt8) (a : Nat) : List UInt8 := (List.range l.length).map fun t => l.getD (t / a * a + (a - 1 - t % a)) 0
theorem mirP_length (l : List UInt8) (a y : Nat) : (mirP l a y).length = l.length := by simp [mirP]
theorem mirrorL_length (l : List UInt8) (a : Nat) : (mirrorL l a).length = l.length := by simp [mirrorL]
theorem mirP_zero (l : List UInt8) (a : Nat) : mirP l a 0 = l := by
 refine list_eq (mirP_length _ _ _) fun t ht => ?_
 rw [mirP_length] at ht
 have hz := Nat.zero_le (t / a)
 rw [mirP, getD_map ht, if_neg (by omega)]
theorem mirP_all {l : List UInt8} {a b : Nat} (hl : l.length = a * b) : mirP l a b = mirrorL l a := by
 refine list_eq (by rw [mirP_length, mirrorL_length]) fun t ht => ?_
 rw [mirP_length] at ht
 rw [mirP, mirrorL, getD_map ht, getD_map ht, if_pos (div_lt' (by omega))]
theorem mirP_succ {l : List UInt8} {a b y : Nat} (hl : l.length = a * b) (hy : y < b) : revAt (mirP l a y) (y * a) a = mirP l a (y + 1) := by
 refine list_eq (by rw [revAt_length, mirP_length, mirP_length]) fun t ht => ?_
 rw [revAt_length, mirP_length] at ht
 have ha : 0 < a := by
  rcases Nat.eq_zero_or_pos a with h | h
  ·subst h; rw [hl, Nat.zero_mul] at ht; omega
  ·exact h
 have hr := row_le (a := a) hy
 rw [revAt, getD_map (by rw [mirP_length]; exact ht)]
 have hri := row_iff (t := t) (y := y) ha
 by_cases h1 : y * a ≤ t ∧ t < y * a + a
 ·rw [if_pos h1]
  have h2 := hri.2 h1
  have h3 := row_mod (a := a) (t := t)
  rw [h2] at h3
  have h4 : y * a + (a - 1 - (t - y * a)) < l.length := by omega
  have h5 : (y * a + (a - 1 - (t - y * a))) / a = y := (row_iff ha).2 (by omega)
  rw [mirP, mirP, getD_map h4, getD_map ht, h5, if_neg (by omega), h2, if_pos (by omega)]
  congr 1; omega
 ·rw [if_neg h1, mirP, mirP, getD_map ht, getD_map ht]
  have h2 : t / a ≠ y := fun e => h1 (hri.1 e)
  by_cases h3 : t / a < y
  ·rw [if_pos h3, if_pos (by omega)]
  ·rw [if_neg h3, if_neg (by omega)]

/-- Some of the places of a list of zeros have been filled. -/
def fillP (P : Nat → Bool) (f : Nat → UInt8) (n : Nat) : List UInt8 := (List.range n).map fun k => if P k = true then f k else 0
theorem fillP_length (P : Nat → Bool) (f : Nat → UInt8) (n : Nat) : (fillP P f n).length = n := by simp [fillP]
theorem fillP_congr {P Q : Nat → Bool} {f : Nat → UInt8} {n : Nat} (h : ∀ k, k < n → (Q k = true ↔ P k = true)) : fillP P f n = fillP Q f n := by
 refine list_eq (by rw [fillP_length, fillP_length]) fun t ht => ?_
 rw [fillP_length] at ht
 rw [fillP, fillP, getD_map ht, getD_map ht]
 have := h t ht
 by_cases h1 : P t = true
 ·rw [if_pos h1, if_pos (this.2 h1)]
 ·rw [if_neg h1, if_neg (fun q => h1 (this.1 q))]
theorem fillP_none {P : Nat → Bool} {f : Nat → UInt8} {n : Nat} (h : ∀ k, k < n → P k = false) : fillP P f n = List.replicate n 0 := by
 refine list_eq (by rw [fillP_length, List.length_replicate]) fun t ht => ?_
 rw [fillP_length] at ht
 rw [fillP, getD_map ht, h t ht]
 simp [ht]
theorem fillP_all {P : Nat → Bool} {f : Nat → UInt8} {n : Nat} (h : ∀ k, k < n → P k = true) : fillP P f n = (List.range n).map f := by
 refine list_eq (by simp [fillP_length]) fun t ht => ?_
 rw [fillP_length] at ht
 rw [fillP, getD_map ht, getD_map ht, h t ht]
 rfl
theorem fillP_set {P Q : Nat → Bool} {f : Nat → UInt8} {n j : Nat} (h : ∀ k, k < n → (Q k = true ↔ P k = true ∨ k = j)) : (fillP P f n).set j (f j) = fillP Q f n := by
 refine list_eq (by rw [List.length_set, fillP_length, fillP_length]) fun t ht => ?_
 rw [List.length_set, fillP_length] at ht
 rw [List.getD_eq_getElem?_getD, List.getElem?_set, fillP_length, fillP, fillP, getD_map ht]
 have := h t ht
 by_cases h1 : j = t
 ·subst h1
  rw [if_pos rfl, if_pos ht, if_pos (this.2 (Or.inr rfl))]; rfl
 ·rw [if_neg h1, ← List.getD_eq_getElem?_getD, getD_map ht]
  by_cases h2 : P t = true
  ·rw [if_pos h2, if_pos (this.2 (Or.inl h2))]
  ·rw [if_neg h2, if_neg (fun q => by rcases this.1 q with q | q; exact h2 q; exact h1 q.symm)]
theorem fillP_skip {P Q : Nat → Bool} {f : Nat → UInt8} {n j : Nat} (h0 : f j = 0) (h : ∀ k, k < n → (Q k = true ↔ P k = true ∨ k = j)) : fillP P f n = fillP Q f n := by
 rw [← fillP_set h, h0]
 refine list_eq (by rw [List.length_set]) fun t ht => ?_
 rw [List.getD_eq_getElem?_getD (l := List.set _ _ _), List.getElem?_set]
 by_cases h1 : j = t
 ·subst h1
  rw [if_pos rfl, if_pos ht, Option.getD_some]
  rw [fillP_length] at ht
  rw [fillP, getD_map ht, h0]
  split <;> rfl
 ·rw [if_neg h1, ← List.getD_eq_getElem?_getD]

/-- An image turned by a right angle. -/
def clockL (l : List UInt8) (a b : Nat) : List UInt8 := (List.range (b * a)).map fun k => l.getD ((b - 1 - k % b) * a + k / b) 0
theorem clockL_length (l : List UInt8) (a b : Nat) : (clockL l a b).length = b * a := by simp [clockL]
def clkP (b y x k : Nat) : Bool := decide (b - 1 - k % b < y ∨ (b - 1 - k % b = y ∧ k / b < x))
theorem clk_iff {b x y k : Nat} (hy : y < b) : k = x * b + b - 1 - y ↔ k / b = x ∧ b - 1 - k % b = y := by
 have h1 := row_mod (a := b) (t := k)
 have h2 := Nat.mod_lt k (show 0 < b by omega)
 constructor
 ·intro h
  have h3 := row_at (a := b) (x := b - 1 - y) (y := x) (by omega)
  have h4 : k = x * b + (b - 1 - y) := by omega
  rw [h4, h3.1, h3.2]
  exact ⟨rfl, by omega⟩
 ·rintro ⟨rfl, h3⟩
  omega
theorem clkP_zero (b k : Nat) : clkP b 0 0 k = false := by
 unfold clkP
 have hz := Nat.zero_le (k / b)
 exact decide_eq_false (by omega)
theorem clkP_next {b x y k : Nat} (hy : y < b) : clkP b y (x + 1) k = true ↔ clkP b y x k = true ∨ k = x * b + b - 1 - y := by
 rw [clk_iff hy]
 unfold clkP
 simp only [decide_eq_true_eq]
 omega
theorem clkP_row {a b y k : Nat} (hk : k < b * a) : clkP b (y + 1) 0 k = true ↔ clkP b y a k = true := by
 have h1 := div_lt' hk
 have hz := Nat.zero_le (k / b)
 unfold clkP
 simp only [decide_eq_true_eq]
 omega
theorem clkP_all {a b k : Nat} (hk : k < b * a) : clkP b b 0 k = true := by
 have hb : 0 < b := by
  rcases Nat.eq_zero_or_pos b with h | h
  ·subst h; rw [Nat.zero_mul] at hk; omega
  ·exact h
 unfold clkP
 exact decide_eq_true (by omega)

theorem getD01 {l : List UInt8} (h : pxOk l = true) (i : Nat) : l.getD i 0 = 0 ∨ l.getD i 0 = 1 := by
 by_cases hi : i < l.length
 ·exact px_get h hi
 ·left; rw [List.getD_eq_getElem?_getD, List.getElem?_eq_none (by omega)]; rfl
theorem ok_map_range {f : Nat → UInt8} {n : Nat} (h : ∀ k, f k = 0 ∨ f k = 1) : pxOk ((List.range n).map f) = true := by
 unfold pxOk
 rw [List.all_eq_true]
 intro x hx
 obtain ⟨k, _, rfl⟩ := List.mem_map.1 hx
 rcases h k with h1 | h1 <;> rw [h1] <;> rfl
theorem ok_mirror {a b : Nat} {l : List UInt8} (h : Ok a b l) : Ok a b (mirrorL l a) := ⟨h.wa, h.hb, by rw [mirrorL_length, h.len], ok_map_range fun _ => getD01 h.px _⟩
theorem ok_clock {a b : Nat} {l : List UInt8} (h : Ok a b l) : Ok b a (clockL l a b) := ⟨h.hb, h.wa, clockL_length _ _ _, ok_map_range fun _ => getD01 h.px _⟩
abbrev Tri := Nat × Nat × List UInt8
def rotI : Nat → Tri → Tri
 | 0, g => g
 | k + 1, g => ((rotI k g).2.1, (rotI k g).1, clockL (rotI k g).2.2 (rotI k g).1 (rotI k g).2.1)
def turnI (way a b : Nat) (l : List UInt8) : Tri := rotI (way % 4) (a, b, if way < 4 then l else mirrorL l a)
def OkT (g : Tri) : Prop := Ok g.1 g.2.1 g.2.2
theorem ok_rot {g : Tri} (h : OkT g) (k : Nat) : OkT (rotI k g) := by
 induction k with
 | zero => exact h
 | succ k ih => exact ok_clock ih
theorem ok_turn {way a b : Nat} {l : List UInt8} (h : Ok a b l) : OkT (turnI way a b l) := by
 apply ok_rot
 show Ok a b _
 split
 ·exact h
 ·exact ok_mirror h
def toImg (g : Tri) : Img := ⟨g.1, g.2.1, g.2.2⟩
def turnSpec (g : Img) (way : Int) : Img × Int := bif g.err == 0 then (if way < 0 ∨ way > 7 then (.zero, 1) else (toImg (turnI way.toNat g.w.toNat g.h.toNat g.px), 0)) else (.zero, g.err)
theorem ok_of {w h : Int} {l : List UInt8} (h0 : (Img.err ⟨w, h, l⟩ == 0) = true) : ∃ a b : Nat, w = a ∧ h = b ∧ Ok a b l := by
 obtain ⟨h1, h2⟩ := Img.ok h0
 obtain ⟨a, b, e1, e2, e3, e4, e5⟩ := sized_nat h1
 exact ⟨a, b, e1, e2, e3, e4, e5, h2⟩
end Go.Am

set_option linter.unusedSimpArgs false
set_option linter.unusedVariables false
set_option maxHeartbeats 4000000
set_option maxRecDepth 100000
namespace Go.Am
open Go
attribute [local irreducible] Wp WpO WpX WpE

/-- How far ink reaches on a line that is gone through from its end: the value at the d-th place from the end. -/
def reach (o : Nat → Bool) (c n : Nat) : Nat → Nat
 | 0 => if o (c - 1) = true then n else 0
 | d + 1 => if o (c - 1 - (d + 1)) = true then n else reach o c n d - 1
theorem reach_iff {o : Nat → Bool} {c n : Nat} : ∀ {d : Nat}, d < c → ∀ t, t < reach o c n d ↔ ∃ e, e + t < n ∧ c - 1 - d + e < c ∧ o (c - 1 - d + e) = true
 | 0, hd, t => by
  simp only [reach]
  split
  ·rename_i h
   exact ⟨fun q => ⟨0, by omega, by omega, h⟩, fun ⟨e, h1, _, _⟩ => by omega⟩
  ·rename_i h
   refine ⟨fun q => by omega, fun ⟨e, h1, h2, h3⟩ => ?_⟩
   obtain rfl : e = 0 := by omega
   exact absurd h3 h
 | d + 1, hd, t => by
  simp only [reach]
  split
  ·rename_i h
   exact ⟨fun q => ⟨0, by omega, by omega, h⟩, fun ⟨e, h1, _, _⟩ => by omega⟩
  ·rename_i h
   have ih := reach_iff (o := o) (c := c) (n := n) (d := d) (by omega) (t + 1)
   constructor
   ·intro q
    obtain ⟨e, h1, h2, h3⟩ := ih.1 (by omega)
    refine ⟨e + 1, by omega, by omega, ?_⟩
    rw [show c - 1 - (d + 1) + (e + 1) = c - 1 - d + e by omega]; exact h3
   ·rintro ⟨e, h1, h2, h3⟩
    cases e with
    | zero => exact absurd h3 h
    | succ e =>
     have := ih.2 ⟨e, by omega, by omega, by rw [show c - 1 - d + e = c - 1 - (d + 1) + (e + 1) by omega]; exact h3⟩
     omega
theorem reach_le {o : Nat → Bool} {c n : Nat} (d : Nat) : reach o c n d ≤ n := by
 induction d with
 | zero => simp only [reach]; split <;> omega
 | succ d ih => simp only [reach]; split <;> omega
/-- What is left behind d places. -/
def leftB (o : Nat → Bool) (c n : Nat) : Nat → Nat
 | 0 => 0
 | d + 1 => reach o c n d - 1
theorem reach_left {o : Nat → Bool} {c n d : Nat} : reach o c n d = if o (c - 1 - d) = true then n else leftB o c n d := by
 cases d with
 | zero => rfl
 | succ d => rfl
theorem left_le {o : Nat → Bool} {c n : Nat} (d : Nat) : leftB o c n d ≤ n := by
 cases d with
 | zero => exact Nat.zero_le _
 | succ d => have := reach_le (o := o) (c := c) (n := n) d; simp only [leftB]; omega

/-- The ink of a line of a list. -/
def lineO (l : List UInt8) (f s : Nat) (j : Nat) : Bool := l.getD (f + j * s) 0 == 1
def onLine (f s c t : Nat) : Bool := decide (f ≤ t ∧ (t - f) % s = 0 ∧ (t - f) / s < c)
def spP (l : List UInt8) (f s c n d : Nat) : List UInt8 := (List.range l.length).map fun t => if onLine f s c t = true ∧ c - 1 - (t - f) / s < d then (if 0 < reach (lineO l f s) c n (c - 1 - (t - f) / s) then 1 else 0) else l.getD t 0
theorem spP_length (l : List UInt8) (f s c n d : Nat) : (spP l f s c n d).length = l.length := by simp [spP]
theorem spP_zero (l : List UInt8) (f s c n : Nat) : spP l f s c n 0 = l := by
 refine list_eq (spP_length _ _ _ _ _ _) fun t ht => ?_
 rw [spP_length] at ht
 rw [spP, getD_map ht, if_neg (by omega)]
theorem line_at {f s c j : Nat} (hs : 0 < s) (hj : j < c) : onLine f s c (f + j * s) = true ∧ (f + j * s - f) / s = j := by
 have h1 : f + j * s - f = j * s := by omega
 have h2 : j * s / s = j := Nat.mul_div_cancel _ hs
 have h3 : j * s % s = 0 := Nat.mul_mod_left _ _
 unfold onLine
 rw [h1, h2, h3]
 exact ⟨decide_eq_true ⟨by omega, rfl, hj⟩, rfl⟩
theorem line_of {f s c t : Nat} (h : onLine f s c t = true) : t = f + (t - f) / s * s ∧ (t - f) / s < c := by
 have h := of_decide_eq_true h
 have h1 := Nat.div_add_mod (t - f) s
 rw [Nat.mul_comm] at h1
 omega
theorem spP_get {l : List UInt8} {f s c n d : Nat} (hs : 0 < s) (hd : d < c) (hi : f + (c - 1 - d) * s < l.length) : (spP l f s c n d)[f + (c - 1 - d) * s]'(by rw [spP_length]; exact hi) = l[f + (c - 1 - d) * s] := by
 obtain ⟨h1, h2⟩ := line_at (f := f) (s := s) (c := c) (j := c - 1 - d) hs (by omega)
 simp only [spP]
 rw [get_map, h2, if_neg (by omega)]
 simp [hi]
theorem spP_on {l : List UInt8} {f s c n d : Nat} (hs : 0 < s) (hd : d < c) (hi : f + (c - 1 - d) * s < l.length) (hr : 0 < reach (lineO l f s) c n d) : (spP l f s c n d).set (f + (c - 1 - d) * s) 1 = spP l f s c n (d + 1) := by
 refine list_eq (by rw [List.length_set, spP_length, spP_length]) fun t ht => ?_
 rw [List.length_set, spP_length] at ht
 rw [List.getD_eq_getElem?_getD, List.getElem?_set, spP_length]
 by_cases h1 : f + (c - 1 - d) * s = t
 ·obtain ⟨h2, h3⟩ := line_at (f := f) (s := s) (c := c) (j := c - 1 - d) hs (by omega)
  rw [if_pos h1, if_pos (by omega), Option.getD_some, spP, getD_map ht, ← h1, h3, if_pos ⟨h2, by omega⟩, show c - 1 - (c - 1 - d) = d by omega, if_pos hr]
 ·rw [if_neg h1, ← List.getD_eq_getElem?_getD, spP, spP, getD_map ht, getD_map ht]
  by_cases h2 : onLine f s c t = true
  ·have h3 := line_of h2
   have hz := Nat.zero_le ((t - f) / s)
   have h4 : c - 1 - (t - f) / s ≠ d := fun e => h1 (by rw [h3.1]; congr 2; omega)
   by_cases h5 : c - 1 - (t - f) / s < d
   ·have c1 : onLine f s c t = true ∧ c - 1 - (t - f) / s < d := ⟨h2, h5⟩
    have c2 : onLine f s c t = true ∧ c - 1 - (t - f) / s < d + 1 := ⟨h2, by omega⟩
    rw [if_pos c1, if_pos c2]
   ·rw [if_neg (fun q => h5 q.2), if_neg (fun q => by have := q.2; omega)]
  ·rw [if_neg (fun q => h2 q.1), if_neg (fun q => h2 q.1)]
theorem spP_off {l : List UInt8} {f s c n d : Nat} (hs : 0 < s) (hd : d < c) (hi : f + (c - 1 - d) * s < l.length) (hr : reach (lineO l f s) c n d = 0) (h0 : l.getD (f + (c - 1 - d) * s) 0 = 0) : spP l f s c n d = spP l f s c n (d + 1) := by
 refine list_eq (by rw [spP_length, spP_length]) fun t ht => ?_
 rw [spP_length] at ht
 rw [spP, spP, getD_map ht, getD_map ht]
 by_cases h2 : onLine f s c t = true
 ·have h3 := line_of h2
  have hz := Nat.zero_le ((t - f) / s)
  by_cases h4 : c - 1 - (t - f) / s = d
  ·rw [if_neg (by omega), if_pos ⟨h2, by omega⟩, h4, hr, if_neg (by omega), h3.1, show (t - f) / s = c - 1 - d by omega, h0]
  ·by_cases h5 : c - 1 - (t - f) / s < d
   ·have c1 : onLine f s c t = true ∧ c - 1 - (t - f) / s < d := ⟨h2, h5⟩
    have c2 : onLine f s c t = true ∧ c - 1 - (t - f) / s < d + 1 := ⟨h2, by omega⟩
    rw [if_pos c1, if_pos c2]
   ·rw [if_neg (fun q => h5 q.2), if_neg (fun q => by have := q.2; omega)]
 ·rw [if_neg (fun q => h2 q.1), if_neg (fun q => h2 q.1)]
/-- A line spread. -/
def spL (l : List UInt8) (f s c n : Nat) : List UInt8 := spP l f s c n c
theorem spL_get {l : List UInt8} {f s c n t : Nat} (ht : t < l.length) : (spL l f s c n).getD t 0 = if onLine f s c t = true then (if ∃ e, e < n ∧ (t - f) / s + e < c ∧ l.getD (t + e * s) 0 = 1 then 1 else 0) else l.getD t 0 := by
 rw [spL, spP, getD_map ht]
 by_cases h2 : onLine f s c t = true
 ·have h3 := line_of h2
  have hz := Nat.zero_le ((t - f) / s)
  rw [if_pos ⟨h2, by omega⟩, if_pos h2]
  have h4 := reach_iff (o := lineO l f s) (c := c) (n := n) (d := c - 1 - (t - f) / s) (by omega) 0
  have h5 : (∃ e, e < n ∧ (t - f) / s + e < c ∧ l.getD (t + e * s) 0 = 1) ↔ 0 < reach (lineO l f s) c n (c - 1 - (t - f) / s) := by
   rw [h4]
   constructor
   ·rintro ⟨e, q1, q2, q3⟩
    refine ⟨e, by omega, by omega, ?_⟩
    unfold lineO
    rw [show c - 1 - (c - 1 - (t - f) / s) + e = (t - f) / s + e by omega, Nat.add_mul, ← Nat.add_assoc, ← h3.1, q3]; rfl
   ·rintro ⟨e, q1, q2, q3⟩
    refine ⟨e, by omega, by omega, ?_⟩
    unfold lineO at q3
    rw [show c - 1 - (c - 1 - (t - f) / s) + e = (t - f) / s + e by omega, Nat.add_mul, ← Nat.add_assoc, ← h3.1] at q3
    simpa using q3
  by_cases h6 : 0 < reach (lineO l f s) c n (c - 1 - (t - f) / s)
  ·rw [if_pos h6, if_pos (h5.2 h6)]
  ·rw [if_neg h6, if_neg (fun q => h6 (h5.1 q))]
 ·rw [if_neg (fun q => h2 q.1), if_neg h2]
theorem spL_length (l : List UInt8) (f s c n : Nat) : (spL l f s c n).length = l.length := spP_length _ _ _ _ _ _

/- rows, then columns -/
def brR (l : List UInt8) (a w y : Nat) : List UInt8 := (List.range l.length).map fun t => if t / a < y then (if ∃ e, e < w ∧ t % a + e < a ∧ l.getD (t + e) 0 = 1 then 1 else 0) else l.getD t 0
def brC (l : List UInt8) (a b h x : Nat) : List UInt8 := (List.range l.length).map fun t => if t % a < x then (if ∃ e, e < h ∧ t / a + e < b ∧ l.getD (t + e * a) 0 = 1 then 1 else 0) else l.getD t 0
theorem brR_length (l : List UInt8) (a w y : Nat) : (brR l a w y).length = l.length := by simp [brR]
theorem brC_length (l : List UInt8) (a b h x : Nat) : (brC l a b h x).length = l.length := by simp [brC]
theorem brR_zero (l : List UInt8) (a w : Nat) : brR l a w 0 = l := by
 refine list_eq (brR_length _ _ _ _) fun t ht => ?_
 rw [brR_length] at ht
 have hz := Nat.zero_le (t / a)
 rw [brR, getD_map ht, if_neg (by omega)]
theorem brC_zero (l : List UInt8) (a b h : Nat) : brC l a b h 0 = l := by
 refine list_eq (brC_length _ _ _ _ _) fun t ht => ?_
 rw [brC_length] at ht
 have hz := Nat.zero_le (t % a)
 rw [brC, getD_map ht, if_neg (by omega)]
theorem ex_congr {n : Nat} {P Q : Nat → Prop} (h : ∀ e, e < n → (P e ↔ Q e)) : (∃ e, e < n ∧ P e) ↔ ∃ e, e < n ∧ Q e :=
 ⟨fun ⟨e, h1, h2⟩ => ⟨e, h1, (h e h1).1 h2⟩, fun ⟨e, h1, h2⟩ => ⟨e, h1, (h e h1).2 h2⟩⟩
theorem pos_of_lt {a b t : Nat} (h : t < a * b) : 0 < a := by
 rcases Nat.eq_zero_or_pos a with h0 | h0
 ·subst h0; rw [Nat.zero_mul] at h; omega
 ·exact h0
theorem brR_succ {l : List UInt8} {a b w y : Nat} (hl : l.length = a * b) (hy : y < b) : spL (brR l a w y) (y * a) 1 a w = brR l a w (y + 1) := by
 refine list_eq (by rw [spL_length, brR_length, brR_length]) fun t ht => ?_
 rw [spL_length, brR_length] at ht
 have ha := pos_of_lt (a := a) (b := b) (t := t) (by omega)
 rw [spL_get (by rw [brR_length]; exact ht)]
 have hri := row_iff (t := t) (y := y) ha
 have hmod := row_mod (a := a) (t := t)
 have hml := Nat.mod_lt t ha
 by_cases h1 : onLine (y * a) 1 a t = true
 ·have h2 := of_decide_eq_true h1
  rw [Nat.mod_one, Nat.div_one] at h2
  have h3 : t / a = y := hri.2 (by omega)
  rw [h3] at hmod
  have e1 : (brR l a w (y + 1)).getD t 0 = if ∃ e, e < w ∧ t % a + e < a ∧ l.getD (t + e) 0 = 1 then 1 else 0 := by
   have c1 : t / a < y + 1 := by omega
   rw [brR, getD_map ht, if_pos c1]
  rw [if_pos h1, e1, brR, Nat.div_one]
  have e : (∃ e, e < w ∧ t - y * a + e < a ∧ ((List.range l.length).map fun t => if t / a < y then (if ∃ e, e < w ∧ t % a + e < a ∧ l.getD (t + e) 0 = 1 then (1 : UInt8) else 0) else l.getD t 0).getD (t + e * 1) 0 = 1) ↔ ∃ e, e < w ∧ t % a + e < a ∧ l.getD (t + e) 0 = 1 := by
   apply ex_congr
   intro e he
   rw [Nat.mul_one, show t - y * a = t % a by omega]
   have hr := row_le (a := a) hy
   constructor
   ·rintro ⟨q1, q2⟩
    have h4 : (t + e) / a = y := (row_iff ha).2 (by omega)
    rw [getD_map (by omega), if_neg (by omega)] at q2
    exact ⟨q1, q2⟩
   ·rintro ⟨q1, q2⟩
    have h4 : (t + e) / a = y := (row_iff ha).2 (by omega)
    rw [getD_map (by omega), if_neg (by omega)]
    exact ⟨q1, q2⟩
  by_cases h5 : ∃ e, e < w ∧ t % a + e < a ∧ l.getD (t + e) 0 = 1
  ·rw [if_pos (e.2 h5), if_pos h5]
  ·rw [if_neg (fun q => h5 (e.1 q)), if_neg h5]
 ·have h2 : t / a ≠ y := fun e => h1 (decide_eq_true (by have := hri.1 e; rw [Nat.mod_one, Nat.div_one]; omega))
  rw [if_neg h1, brR, brR, getD_map ht, getD_map ht]
  by_cases h3 : t / a < y
  ·have c1 : t / a < y + 1 := by omega
   rw [if_pos h3, if_pos c1]
  ·have c1 : ¬ t / a < y + 1 := by omega
   rw [if_neg h3, if_neg c1]
theorem col_on {a b t x : Nat} (ha : 0 < a) (ht : t < a * b) (hx : x < a) : onLine x a b t = true ↔ t % a = x := by
 have hmod := row_mod (a := a) (t := t)
 have hml := Nat.mod_lt t ha
 have hdl := div_lt' ht
 constructor
 ·intro h
  have h1 := line_of h
  have hz := Nat.zero_le ((t - x) / a)
  have h2 := row_at (a := a) (x := x) (y := (t - x) / a) hx
  rw [show (t - x) / a * a + x = t by omega] at h2
  exact h2.2
 ·intro h
  have h1 : t - x = t / a * a := by omega
  have h2 : t / a * a / a = t / a := Nat.mul_div_cancel _ ha
  have h3 : t / a * a % a = 0 := Nat.mul_mod_left _ _
  exact decide_eq_true ⟨by omega, by rw [h1]; exact h3, by rw [h1, h2]; exact hdl⟩
theorem brC_succ {l : List UInt8} {a b h x : Nat} (hl : l.length = a * b) (hx : x < a) : spL (brC l a b h x) x a b h = brC l a b h (x + 1) := by
 refine list_eq (by rw [spL_length, brC_length, brC_length]) fun t ht => ?_
 rw [spL_length, brC_length] at ht
 have ha : 0 < a := by omega
 have hmod := row_mod (a := a) (t := t)
 have hml := Nat.mod_lt t ha
 rw [spL_get (by rw [brC_length]; exact ht)]
 have hon := col_on (a := a) (b := b) (t := t) (x := x) ha (by omega) hx
 by_cases h1 : onLine x a b t = true
 ·have h2 := hon.1 h1
  have h3 : t - x = t / a * a := by omega
  have h4 : (t - x) / a = t / a := by rw [h3]; exact Nat.mul_div_cancel _ ha
  have e1 : (brC l a b h (x + 1)).getD t 0 = if ∃ e, e < h ∧ t / a + e < b ∧ l.getD (t + e * a) 0 = 1 then 1 else 0 := by
   have c1 : t % a < x + 1 := by omega
   rw [brC, getD_map ht, if_pos c1]
  rw [if_pos h1, e1, brC, h4]
  have e : (∃ e, e < h ∧ t / a + e < b ∧ ((List.range l.length).map fun t => if t % a < x then (if ∃ e, e < h ∧ t / a + e < b ∧ l.getD (t + e * a) 0 = 1 then (1 : UInt8) else 0) else l.getD t 0).getD (t + e * a) 0 = 1) ↔ ∃ e, e < h ∧ t / a + e < b ∧ l.getD (t + e * a) 0 = 1 := by
   apply ex_congr
   intro e he
   have key : t / a + e < b → t + e * a < l.length ∧ (t + e * a) % a = x := fun q => by
    have hr := row_le (a := a) (b := b) (y := t / a + e) q
    have h5 : t + e * a = (t / a + e) * a + x := by rw [Nat.add_mul]; omega
    have h6 := row_at (a := a) (x := x) (y := t / a + e) hx
    rw [← h5] at h6
    exact ⟨by rw [h5, hl]; omega, h6.2⟩
   constructor
   ·rintro ⟨q1, q2⟩
    rw [getD_map (key q1).1, (key q1).2, if_neg (by omega)] at q2
    exact ⟨q1, q2⟩
   ·rintro ⟨q1, q2⟩
    rw [getD_map (key q1).1, (key q1).2, if_neg (by omega)]
    exact ⟨q1, q2⟩
  by_cases h5 : ∃ e, e < h ∧ t / a + e < b ∧ l.getD (t + e * a) 0 = 1
  ·rw [if_pos (e.2 h5), if_pos h5]
  ·rw [if_neg (fun q => h5 (e.1 q)), if_neg h5]
 ·have h2 : t % a ≠ x := fun e => h1 (hon.2 e)
  rw [if_neg h1, brC, brC, getD_map ht, getD_map ht]
  by_cases h3 : t % a < x
  ·have c1 : t % a < x + 1 := by omega
   rw [if_pos h3, if_pos c1]
  ·have c1 : ¬ t % a < x + 1 := by omega
   rw [if_neg h3, if_neg c1]
/-- A dilated image. -/
def dilL (l : List UInt8) (a b w h : Nat) : List UInt8 := brC (brR l a w b) a b h a
theorem dilL_length (l : List UInt8) (a b w h : Nat) : (dilL l a b w h).length = l.length := by rw [dilL, brC_length, brR_length]
theorem ok_dil {a b w h : Nat} {l : List UInt8} (ok : Ok a b l) : Ok a b (dilL l a b w h) := by
 refine ⟨ok.wa, ok.hb, by rw [dilL_length, ok.len], ok_map_range fun t => ?_⟩
 split
 ·split
  ·exact Or.inr rfl
  ·exact Or.inl rfl
 ·by_cases ht : t < l.length
  ·rw [brR, getD_map ht]
   split
   ·split
    ·exact Or.inr rfl
    ·exact Or.inl rfl
   ·exact getD01 ok.px t
  ·left; rw [List.getD_eq_getElem?_getD, List.getElem?_eq_none (by rw [brR_length]; omega)]; rfl
/-- Is a place ink? -/
def inkP (l : List UInt8) (a x y : Nat) : Prop := l.getD (y * a + x) 0 = 1
theorem dil_iff {a b w h x y : Nat} {l : List UInt8} (hl : l.length = a * b) (hx : x < a) (hy : y < b) : inkP (dilL l a b w h) a x y ↔ ∃ i j, i < w ∧ j < h ∧ x + i < a ∧ y + j < b ∧ inkP l a (x + i) (y + j) := by
 have hlt := idx_lt hx hy
 have h1 := row_at (a := a) (x := x) (y := y) hx
 unfold inkP
 rw [dilL, brC, getD_map (by rw [brR_length]; omega), h1.1, h1.2, if_pos hx]
 have e : (∃ e, e < h ∧ y + e < b ∧ (brR l a w b).getD (y * a + x + e * a) 0 = 1) ↔ ∃ i j, i < w ∧ j < h ∧ x + i < a ∧ y + j < b ∧ l.getD ((y + j) * a + (x + i)) 0 = 1 := by
  have key : ∀ e, y + e < b → ((brR l a w b).getD (y * a + x + e * a) 0 = 1 ↔ ∃ i, i < w ∧ x + i < a ∧ l.getD ((y + e) * a + (x + i)) 0 = 1) := by
   intro e he
   have hlt2 := idx_lt hx he
   have h2 := row_at (a := a) (x := x) (y := y + e) hx
   have h3 : y * a + x + e * a = (y + e) * a + x := by rw [Nat.add_mul]; omega
   rw [h3, brR, getD_map (by omega), h2.1, h2.2, if_pos he]
   by_cases h4 : ∃ i, i < w ∧ x + i < a ∧ l.getD ((y + e) * a + x + i) 0 = 1
   ·rw [if_pos h4]
    obtain ⟨i, q1, q2, q3⟩ := h4
    exact ⟨fun _ => ⟨i, q1, q2, by rw [← Nat.add_assoc]; exact q3⟩, fun _ => rfl⟩
   ·rw [if_neg h4]
    exact ⟨fun q => (by cases q), fun ⟨i, q1, q2, q3⟩ => absurd ⟨i, q1, q2, by rw [Nat.add_assoc]; exact q3⟩ h4⟩
  constructor
  ·rintro ⟨j, q1, q2, q3⟩
   obtain ⟨i, q4, q5, q6⟩ := (key j q2).1 q3
   exact ⟨i, j, q4, q1, q5, q2, q6⟩
  ·rintro ⟨i, j, q1, q2, q3, q4, q5⟩
   exact ⟨j, q2, q4, (key j q4).2 ⟨i, q1, q3, q5⟩⟩
 by_cases h5 : ∃ e, e < h ∧ y + e < b ∧ (brR l a w b).getD (y * a + x + e * a) 0 = 1
 ·rw [if_pos h5]; exact ⟨fun _ => e.1 h5, fun _ => rfl⟩
 ·rw [if_neg h5]; exact ⟨fun q => (by cases q), fun q => absurd (e.2 q) h5⟩

/- erosion -/
def revAll (l : List UInt8) : List UInt8 := revAt l 0 l.length
theorem revAll_length (l : List UInt8) : (revAll l).length = l.length := revAt_length _ _ _
theorem revAll_get {l : List UInt8} {t : Nat} (ht : t < l.length) : (revAll l).getD t 0 = l.getD (l.length - 1 - t) 0 := by
 rw [revAll, revAt, getD_map ht, if_pos (by omega)]
 congr 1; omega
theorem ok_rev {a b : Nat} {l : List UInt8} (ok : Ok a b l) : Ok a b (revAll l) := by
 refine ⟨ok.wa, ok.hb, by rw [revAll_length, ok.len], ok_map_range fun t => ?_⟩
 split <;> exact getD01 ok.px _
def eroL (l : List UInt8) (a b w h : Nat) : List UInt8 := (revAll (dilL (revAll (l.map (· ^^^ 1))) a b w h)).map (· ^^^ 1)
theorem ok_ero {a b w h : Nat} {l : List UInt8} (ok : Ok a b l) : Ok a b (eroL l a b w h) := ok_map (ok_rev (ok_dil (ok_rev (ok_map ok))))
theorem not_get {l : List UInt8} (h : pxOk l = true) {t : Nat} (ht : t < l.length) : (l.map (· ^^^ 1)).getD t 0 = 1 ↔ ¬ l.getD t 0 = 1 := by
 have e : (l.map (· ^^^ 1)).getD t 0 = l.getD t 0 ^^^ 1 := by simp [ht]
 rw [e]
 rcases px_get h ht with h1 | h1 <;> rw [h1] <;> decide
theorem ero_iff {a b w h x y : Nat} {l : List UInt8} (ok : Ok a b l) (hx : x < a) (hy : y < b) : inkP (eroL l a b w h) a x y ↔ ∀ i j, i < w → j < h → i ≤ x → j ≤ y → inkP l a (x - i) (y - j) := by
 have hlen := ok.len
 have hlt := idx_lt hx hy
 have ok1 := ok_map ok
 have ok2 := ok_rev ok1
 have ok3 := ok_dil (w := w) (h := h) ok2
 have flip : ∀ {x y : Nat}, x < a → y < b → a * b - 1 - (y * a + x) = (b - 1 - y) * a + (a - 1 - x) := by
  intro x y hx hy
  have h1 := idx_lt hx hy
  have h2 : (b - 1 - y) * a + (y + 1) * a = a * b := by
   rw [← Nat.add_mul, show b - 1 - y + (y + 1) = b by omega, Nat.mul_comm]
  rw [Nat.add_mul, Nat.one_mul] at h2
  omega
 unfold inkP
 rw [eroL, not_get (ok_rev ok3).px (by rw [(ok_rev ok3).len]; omega), revAll_get (by rw [ok3.len]; omega), ok3.len, flip hx hy]
 have hd := dil_iff (w := w) (h := h) (l := revAll (l.map (· ^^^ 1))) (x := a - 1 - x) (y := b - 1 - y) ok2.len (by omega) (by omega)
 unfold inkP at hd
 rw [hd]
 constructor
 ·intro q i j h1 h2 h3 h4
  refine Classical.byContradiction fun h5 => q ⟨i, j, h1, h2, by omega, by omega, ?_⟩
  rw [revAll_get (by rw [ok1.len]; exact idx_lt (by omega) (by omega)), ok1.len, flip (by omega) (by omega), not_get ok.px (by rw [ok.len]; exact idx_lt (by omega) (by omega))]
  rw [show a - 1 - (a - 1 - x + i) = x - i by omega, show b - 1 - (b - 1 - y + j) = y - j by omega]
  exact h5
 ·rintro q ⟨i, j, h1, h2, h3, h4, h5⟩
  rw [revAll_get (by rw [ok1.len]; exact idx_lt (by omega) (by omega)), ok1.len, flip (by omega) (by omega), not_get ok.px (by rw [ok.len]; exact idx_lt (by omega) (by omega))] at h5
  rw [show a - 1 - (a - 1 - x + i) = x - i by omega, show b - 1 - (b - 1 - y + j) = y - j by omega] at h5
  exact h5 (q i j h1 h2 (by omega) (by omega))
end Go.Am

set_option linter.unusedSimpArgs false
set_option linter.unusedVariables false
set_option maxHeartbeats 4000000
set_option maxRecDepth 100000
namespace Go.Am
open Go
attribute [local irreducible] Wp WpO WpX WpE

theorem K_mirror {a b : Nat} {p : AVal} {H : AHeap} {l : List UInt8} [hp : BytesI H p l] [hw : WrS H p] (hl : l.length = a * b) (ha : a ≤ 640) (hb : b ≤ 640) : Con ext prog 2 135 [.agg [.int .i64 a, .int .i64 b, p]] H fun _ H' => BytesI H' p (mirrorL l a) ∧ WrS H' p ∧ ExtP H H' p := by
 refine con_of (show prog 135 = some c135 from rfl) rfl rfl fun n hn => ?_
 haveI := hp.one
 have hm : a * b ≤ 640 * 640 := Nat.mul_le_mul ha hb
 refine sq ?_
 refine rg fun KF hKF => ?_
 refine Fo.boxA rfl ?_
 refine WpO.nil (hKF _ _ ?_)
 refine sq ?_
 refine rg fun KF hKF => ?_
 refine Fo.fa rfl ?_
 refine Fo.ld rfl rfl ?_
 refine mI rfl ?_
 refine WpO.nil (hKF _ _ ?_)
 refine Wp.block ?_
 dsimp only [cond_true, cond_false]
 refine Wp.loopS [2, 5, 6, 7, 8, 9, 10, 11, 12] (fun y : Nat => [(5, .int .i64 y)]) (fun H3 y H2 => y ≤ b ∧ BytesI H2 p (mirP l a y) ∧ WrS H2 p ∧ ExtP0 H3 H2 p) (fun y => b - y) 0 rfl (fun _ => rfl) ⟨rfl, trivial⟩ ⟨Nat.zero_le _, by rw [mirP_zero]; infer_instance, inferInstance, inferInstance⟩ (by unfold fuel0 at hn; omega) ?_
 rintro y g H2 ⟨hy, hb2, hw2, ⟨hx2⟩⟩
 simp only [↓nrmL, nrmZ, Nat.reduceEqDiff, ↓reduceIte, Nat.reduceAdd, Int.reduceBEq, Int.reduceBNe]
 cases hc : decide ((y : Int) < (b : Int))
 ·have hyb : y = b := by have := of_decide_eq_false hc; omega
  subst hyb
  rw [mirP_all hl] at hb2
  try simp only [↓nrmL, nrmZ, Nat.reduceEqDiff, ↓reduceIte, Nat.reduceAdd, Int.reduceBEq, Int.reduceBNe, hc]
  refine sq ?_
  refine rg fun KF hKF => ?_
  refine Fo.bin rfl rfl rfl (by simp only [↓nrmL, nrmZ, Nat.reduceEqDiff, ↓reduceIte, Nat.reduceAdd, Int.reduceBEq, Int.reduceBNe, hc]; rfl) ?_
  refine WpO.nil (hKF _ _ ?_)
  refine sq ?_
  refine Wp.cond (b := false) rfl ?_
  refine Wp.exit ?_
  dsimp only [cond_true, cond_false]
  exact ⟨trivial, _, rfl, hb2, hw2, (inferInstance : ExtP0 H H2 p).ext⟩
 ·have hyb : y < b := by have := of_decide_eq_true hc; omega
  have hw1 := wa1 (a := y) (by omega)
  have hlm : (mirP l a y).length = a * b := by rw [mirP_length, hl]
  have hr := row_le (a := a) hyb
  try simp only [↓nrmL, nrmZ, Nat.reduceEqDiff, ↓reduceIte, Nat.reduceAdd, Int.reduceBEq, Int.reduceBNe, hc]
  refine sq ?_
  refine rg fun KF hKF => ?_
  refine Fo.bin rfl rfl rfl (by simp only [↓nrmL, nrmZ, Nat.reduceEqDiff, ↓reduceIte, Nat.reduceAdd, Int.reduceBEq, Int.reduceBNe, hc]; rfl) ?_
  refine WpO.nil (hKF _ _ ?_)
  refine sq ?_
  refine Wp.cond (b := true) rfl ?_
  refine Wp.skip ?_
  refine sq ?_
  refine Wp.block ?_
  refine sq ?_
  refine rg fun KF hKF => ?_
  refine mI rfl ?_
  refine mI rfl ?_
  refine WpO.nil (hKF _ _ ?_)
  refine rg fun KF hKF => ?_
  refine Fo.ldN rfl rfl (by simp only [↓nrmL, nrmZ, Nat.reduceEqDiff, ↓reduceIte, Nat.reduceAdd, Int.reduceBEq, Int.reduceBNe, hc]; rfl) ?_
  refine mI rfl ?_
  refine WpO.do (WpX.conD hn rfl rfl (by simp only [↓nrmL, nrmZ, Nat.reduceEqDiff, ↓reduceIte, Nat.reduceAdd, Int.reduceBEq, Int.reduceBNe, List.map] <;> rfl) (K_line (l := mirP l a y) hlm hyb hm hb) fun v H4 h5 => ?_)
  obtain ⟨hv1, hv2, hx4⟩ := h5
  haveI : ExtI _ H4 := ⟨hx4⟩
  haveI := hv1.one
  skip
  refine WpO.do (WpX.conD hn rfl rfl (by simp only [↓nrmL, nrmZ, Nat.reduceEqDiff, ↓reduceIte, Nat.reduceAdd, Int.reduceBEq, Int.reduceBNe, List.map] <;> rfl) (K_Reverse (l := mirP l a y) (s := y * a) (n := a) (by omega) (by omega)) fun u H5 h5 => ?_)
  obtain ⟨hb5, hw5, hx5⟩ := h5
  rw [mirP_succ hl hyb] at hb5
  refine WpO.nil (hKF _ _ ?_)
  refine rg fun KF hKF => ?_
  refine Fo.bin rfl rfl rfl rfl ?_
  refine mI rfl ?_
  refine WpO.nil (hKF _ _ ?_)
  dsimp only [cond_true, cond_false]
  refine ⟨y + 1, by omega, ⟨by simp only [↓nrmL, nrmZ, Nat.reduceEqDiff, ↓reduceIte, Nat.reduceAdd, Int.reduceBEq, Int.reduceBNe]; rw [hw1], trivial⟩, hyb, hb5, hw5, inferInstance⟩

theorem K_clockwise {a b : Nat} {p : AVal} {H : AHeap} {l : List UInt8} [hp : BytesI H p l] (hl : l.length = a * b) (ha : a ≤ 640) (hb : b ≤ 640) : Con ext prog 2 136 [.agg [.int .i64 a, .int .i64 b, p]] H fun v H' => NewInk H H' v ⟨b, a, clockL l a b⟩ := by
 refine con_of (show prog 136 = some c136 from rfl) rfl rfl fun n hn => ?_
 haveI := hp.one
 have hm : a * b ≤ 640 * 640 := Nat.mul_le_mul ha hb
 have hmc : a * b = b * a := Nat.mul_comm a b
 refine sq ?_
 refine rg fun KF hKF => ?_
 refine Fo.boxA rfl ?_
 refine Fo.new ?_
 refine WpO.nil (hKF _ _ ?_)
 refine sq ?_
 refine rg fun KF hKF => ?_
 refine Fo.fa rfl ?_
 refine Fo.ld rfl rfl ?_
 refine Fo.fa rfl ?_
 refine Fo.ld rfl rfl ?_
 refine WpO.do (WpX.conD hn rfl rfl (by simp only [↓nrmL, nrmZ, Nat.reduceEqDiff, ↓reduceIte, Nat.reduceAdd, Int.reduceBEq, Int.reduceBNe, List.map] <;> rfl) (K_blank (w := b) (h := a) (by omega) (by omega)) fun v H1 h5 => ?_)
 obtain ⟨q, e2, hq, hf, hw, hx⟩ := h5
 subst e2
 haveI : ExtI _ H1 := ⟨hx⟩
 haveI := hq.one
 have hq : BytesI H1 q (List.replicate (b * a) 0) := hq
 refine Fo.new ?_
 refine Fo.st rfl (rfl : _ = AVal.agg _) rfl rfl rfl (by repeat (first | rfl | refine allOne_cons ?_)) (by simp only [↓nrmL, nrmZ, Nat.reduceEqDiff, ↓reduceIte, Nat.reduceAdd, Int.reduceBEq, Int.reduceBNe]; rfl) ?_
 refine WpO.nil (hKF _ _ ?_)
 refine sq ?_
 refine sq ?_
 refine rg fun KF hKF => ?_
 refine Fo.fa rfl ?_
 refine Fo.ld rfl rfl ?_
 refine mI rfl ?_
 refine WpO.nil (hKF _ _ ?_)
 refine Wp.block ?_
 dsimp only [cond_true, cond_false]
 refine Wp.loopS [4, 5, 6, 14, 15, 16, 17, 18, 19, 20, 21, 22, 23, 24, 25, 26, 27, 28, 29, 30, 31, 32, 33, 34, 35, 36, 37, 38, 39, 40, 41] (fun y : Nat => [(14, .int .i64 y)]) (fun H3 y H2 => y ≤ b ∧ BytesI H2 q (fillP (clkP b y 0) (fun k => l.getD ((b - 1 - k % b) * a + k / b) 0) (b * a)) ∧ WrS H2 q ∧ ExtP0 H3 H2 q) (fun y => b - y) 0 rfl (fun _ => rfl) ⟨rfl, trivial⟩ ⟨Nat.zero_le _, by rw [fillP_none (fun k _ => clkP_zero b k)]; infer_instance, inferInstance, inferInstance⟩ (by unfold fuel0 at hn; omega) ?_
 rintro y g H2 ⟨hy, hb2, hw2, ⟨hx2⟩⟩
 simp only [↓nrmL, nrmZ, Nat.reduceEqDiff, ↓reduceIte, Nat.reduceAdd, Int.reduceBEq, Int.reduceBNe]
 cases hc : decide ((y : Int) < (b : Int))
 ·have hyb : y = b := by have := of_decide_eq_false hc; omega
  subst hyb
  rw [fillP_all (fun k hk => clkP_all hk)] at hb2
  try simp only [↓nrmL, nrmZ, Nat.reduceEqDiff, ↓reduceIte, Nat.reduceAdd, Int.reduceBEq, Int.reduceBNe, hc]
  refine sq ?_
  refine rg fun KF hKF => ?_
  refine Fo.bin rfl rfl rfl (by simp only [↓nrmL, nrmZ, Nat.reduceEqDiff, ↓reduceIte, Nat.reduceAdd, Int.reduceBEq, Int.reduceBNe, hc]; rfl) ?_
  refine WpO.nil (hKF _ _ ?_)
  refine sq ?_
  refine Wp.cond (b := false) rfl ?_
  refine Wp.exit ?_
  refine sq ?_
  refine rg fun KF hKF => ?_
  refine Fo.ldN rfl rfl (by simp only [↓nrmL, nrmZ, Nat.reduceEqDiff, ↓reduceIte, Nat.reduceAdd, Int.reduceBEq, Int.reduceBNe, hc]; rfl) ?_
  refine Fo.st rfl (rfl : _ = AVal.agg _) rfl rfl rfl (by repeat (first | rfl | refine allOne_cons ?_)) (by simp only [↓nrmL, nrmZ, Nat.reduceEqDiff, ↓reduceIte, Nat.reduceAdd, Int.reduceBEq, Int.reduceBNe, hc]; rfl) ?_
  refine WpO.nil (hKF _ _ ?_)
  refine Wp.ret ?_
  dsimp only [cond_true, cond_false]
  refine ⟨trivial, _, (by first | rfl | exact getAllC rfl rfl rfl rfl | exact getAllT rfl (getAllC rfl rfl rfl rfl) | exact getAllC rfl rfl rfl (getAllC rfl rfl rfl rfl) | exact getAllC1 rfl rfl rfl), ?_⟩
  exact ⟨q, rfl, (show BytesI _ q (clockL l a y) from (inferInstance : BytesI _ q ((List.range (y * a)).map fun k => l.getD ((y - 1 - k % y) * a + k / y) 0))), hf.weak, inferInstance, Ext0.ext⟩
 ·have hyb : y < b := by have := of_decide_eq_true hc; omega
  have hw1 := wa1 (a := y) (by omega)
  have hr := row_le (a := a) hyb
  try simp only [↓nrmL, nrmZ, Nat.reduceEqDiff, ↓reduceIte, Nat.reduceAdd, Int.reduceBEq, Int.reduceBNe, hc]
  refine sq ?_
  refine rg fun KF hKF => ?_
  refine Fo.bin rfl rfl rfl (by simp only [↓nrmL, nrmZ, Nat.reduceEqDiff, ↓reduceIte, Nat.reduceAdd, Int.reduceBEq, Int.reduceBNe, hc]; rfl) ?_
  refine WpO.nil (hKF _ _ ?_)
  refine sq ?_
  refine Wp.cond (b := true) rfl ?_
  refine Wp.skip ?_
  refine sq ?_
  refine Wp.block ?_
  refine sq ?_
  refine rg fun KF hKF => ?_
  refine mI rfl ?_
  refine mI rfl ?_
  refine WpO.nil (hKF _ _ ?_)
  refine sq ?_
  refine rg fun KF hKF => ?_
  refine Fo.ldN rfl rfl (by simp only [↓nrmL, nrmZ, Nat.reduceEqDiff, ↓reduceIte, Nat.reduceAdd, Int.reduceBEq, Int.reduceBNe, hc]; rfl) ?_
  refine mI rfl ?_
  refine WpO.do (WpX.conD hn rfl rfl (by simp only [↓nrmL, nrmZ, Nat.reduceEqDiff, ↓reduceIte, Nat.reduceAdd, Int.reduceBEq, Int.reduceBNe, List.map] <;> rfl) (K_line (l := l) hl hyb hm hb) fun v H4 h5 => ?_)
  obtain ⟨hv1, hv2, hx4⟩ := h5
  haveI : ExtI _ H4 := ⟨hx4⟩
  haveI := hv1.one
  refine Fo.lenV (u := ?_) (by simp only [↓nrmL, nrmK, Nat.reduceEqDiff, ↓reduceIte]; rfl) ?hv ?_; case hv => rfl
  refine mI rfl ?_
  refine WpO.nil (hKF _ _ ?_)
  refine Wp.block ?_
  dsimp only [cond_true, cond_false]
  refine Wp.loopS [5, 6, 21, 22, 23, 24, 25, 26, 27, 28, 29, 30, 31, 32, 33, 34, 35, 36, 37, 38, 39, 40] (fun x : Nat => [(21, .int .i64 x)]) (fun H3 x H5 => x ≤ a ∧ BytesI H5 q (fillP (clkP b y x) (fun k => l.getD ((b - 1 - k % b) * a + k / b) 0) (b * a)) ∧ WrS H5 q ∧ ExtP0 H3 H5 q) (fun x => a - x) 0 rfl (fun _ => rfl) ⟨rfl, trivial⟩ ⟨Nat.zero_le _, inferInstance, inferInstance, inferInstance⟩ (by unfold fuel0 at hn; omega) ?_
  rintro x g2 H5 ⟨hx0, hb5, hw5, ⟨hx5⟩⟩
  simp only [↓nrmL, nrmZ, Nat.reduceEqDiff, ↓reduceIte, Nat.reduceAdd, Int.reduceBEq, Int.reduceBNe]
  cases hc2 : decide ((x : Int) < (a : Int))
  ·have hxa : x = a := by have := of_decide_eq_false hc2; omega
   subst hxa
   try simp only [↓nrmL, nrmZ, Nat.reduceEqDiff, ↓reduceIte, Nat.reduceAdd, Int.reduceBEq, Int.reduceBNe, hc2]
   refine sq ?_
   refine rg fun KF hKF => ?_
   refine Fo.bin rfl rfl rfl (by simp only [↓nrmL, nrmZ, Nat.reduceEqDiff, ↓reduceIte, Nat.reduceAdd, Int.reduceBEq, Int.reduceBNe, hc2]; rfl) ?_
   refine WpO.nil (hKF _ _ ?_)
   refine sq ?_
   refine Wp.cond (b := false) rfl ?_
   refine Wp.exit ?_
   refine rg fun KF hKF => ?_
   refine Fo.bin rfl rfl rfl rfl ?_
   refine mI rfl ?_
   refine WpO.nil (hKF _ _ ?_)
   dsimp only [cond_true, cond_false]
   refine ⟨y + 1, by omega, ⟨by simp only [↓nrmL, nrmZ, Nat.reduceEqDiff, ↓reduceIte, Nat.reduceAdd, Int.reduceBEq, Int.reduceBNe]; rw [hw1], trivial⟩, hyb, by rw [fillP_congr (P := clkP b (y + 1) 0) (Q := clkP b y x) (fun k hk => (clkP_row hk).symm)]; infer_instance, inferInstance, inferInstance⟩
  ·have hxa : x < a := by have := of_decide_eq_true hc2; omega
   have hlt := idx_lt hxa hyb
   have hr2 := row_le (a := b) (b := a) (y := x) hxa
   have hil : y * a + x < l.length := by omega
   have k1 : IntKind.i64.wrap ((x : Int) * (b : Int)) = ((x * b : Nat) : Int) := wm (by omega)
   have k2 : IntKind.i64.wrap (((x * b : Nat) : Int) + (b : Int)) = ((x * b + b : Nat) : Int) := wa (by omega)
   have k3 : IntKind.i64.wrap (((x * b + b : Nat) : Int) - 1) = ((x * b + b - 1 : Nat) : Int) := by rw [w64 (by omega)]; omega
   have k4 : IntKind.i64.wrap (((x * b + b - 1 : Nat) : Int) - (y : Int)) = ((x * b + b - 1 - y : Nat) : Int) := by rw [w64 (by omega)]; omega
   have hw3 := wa1 (a := x) (by omega)
   have hfl := fillP_length (clkP b y x) (fun k => l.getD ((b - 1 - k % b) * a + k / b) 0) (b * a)
   try simp only [↓nrmL, nrmZ, Nat.reduceEqDiff, ↓reduceIte, Nat.reduceAdd, Int.reduceBEq, Int.reduceBNe, hc2, k1, k2, k3, k4]
   refine sq ?_
   refine rg fun KF hKF => ?_
   refine Fo.bin rfl rfl rfl (by simp only [↓nrmL, nrmZ, Nat.reduceEqDiff, ↓reduceIte, Nat.reduceAdd, Int.reduceBEq, Int.reduceBNe, hc2, k1, k2, k3, k4]; rfl) ?_
   refine WpO.nil (hKF _ _ ?_)
   refine sq ?_
   refine Wp.cond (b := true) rfl ?_
   refine Wp.skip ?_
   refine sq ?_
   refine Wp.block ?_
   refine sq ?_
   refine rg fun KF hKF => ?_
   refine mI rfl ?_
   refine Fo.idxV (by simp only [↓nrmL, nrmK, Nat.reduceEqDiff, ↓reduceIte]; rfl) rfl ?_ (by simp only [↓nrmL, nrmZ, Nat.reduceEqDiff, ↓reduceIte, Nat.reduceAdd, Int.reduceBEq, Int.reduceBNe, hc2, k1, k2, k3, k4]; rfl) ?_; (focus omega)
   refine Fo.ldB rfl ?_ rfl ?_; (focus omega)
   refine mI rfl ?_
   refine mI rfl ?_
   refine WpO.nil (hKF _ _ ?_)
   refine rg fun KF hKF => ?_
   refine Fo.fa rfl ?_
   refine Fo.ld rfl rfl ?_
   refine mI rfl ?_
   refine Fo.fa rfl ?_
   refine Fo.ld rfl rfl ?_
   refine Fo.bin rfl rfl rfl (by simp only [↓nrmL, nrmZ, Nat.reduceEqDiff, ↓reduceIte, Nat.reduceAdd, Int.reduceBEq, Int.reduceBNe, hc2, k1, k2, k3, k4]; rfl) ?_
   refine Fo.fa rfl ?_
   refine Fo.ld rfl rfl ?_
   refine Fo.bin rfl rfl rfl (by simp only [↓nrmL, nrmZ, Nat.reduceEqDiff, ↓reduceIte, Nat.reduceAdd, Int.reduceBEq, Int.reduceBNe, hc2, k1, k2, k3, k4]; rfl) ?_
   refine Fo.bin rfl rfl rfl (by simp only [↓nrmL, nrmZ, Nat.reduceEqDiff, ↓reduceIte, Nat.reduceAdd, Int.reduceBEq, Int.reduceBNe, hc2, k1, k2, k3, k4]; rfl) ?_
   refine mI rfl ?_
   refine Fo.bin rfl rfl rfl (by simp only [↓nrmL, nrmZ, Nat.reduceEqDiff, ↓reduceIte, Nat.reduceAdd, Int.reduceBEq, Int.reduceBNe, hc2, k1, k2, k3, k4]; rfl) ?_
   refine mI rfl ?_
   refine Fo.idx (by simp only [↓nrmL, nrmK, Nat.reduceEqDiff, ↓reduceIte]; rfl) rfl ?_ (by simp only [↓nrmL, nrmZ, Nat.reduceEqDiff, ↓reduceIte, Nat.reduceAdd, Int.reduceBEq, Int.reduceBNe, hc2, k1, k2, k3, k4]; rfl) ?_; (focus omega)
   refine WpO.do' (WpX.stB l[y * a + x] rfl rfl rfl (by rw [hfl]; omega) fun H6 hb6 hw6 hx6 => ?_)
   refine WpO.nil (hKF _ _ ?_)
   refine rg fun KF hKF => ?_
   refine Fo.bin rfl rfl rfl rfl ?_
   refine mI rfl ?_
   refine WpO.nil (hKF _ _ ?_)
   dsimp only [cond_true, cond_false]
   have e1 : l[y * a + x] = (fun k => l.getD ((b - 1 - k % b) * a + k / b) 0) (x * b + b - 1 - y) := by
    obtain ⟨q1, q2⟩ := (clk_iff (b := b) (x := x) (k := x * b + b - 1 - y) hyb).1 rfl
    dsimp only
    rw [q1, q2]
    simp [hil]
   rw [e1, fillP_set (Q := clkP b y (x + 1)) (fun k _ => clkP_next hyb)] at hb6
   refine ⟨x + 1, by omega, ⟨by simp only [↓nrmL, nrmZ, Nat.reduceEqDiff, ↓reduceIte, Nat.reduceAdd, Int.reduceBEq, Int.reduceBNe]; rw [hw3], trivial⟩, hxa, hb6, hw6, inferInstance⟩
end Go.Am
