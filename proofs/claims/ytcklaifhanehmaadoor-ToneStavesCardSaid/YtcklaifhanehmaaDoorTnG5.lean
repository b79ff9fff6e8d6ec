/-
  ToneStaves returns true for any clef, pitch, key, staff step and accidental. No condition.
-/
import Derived.Test.YtcklaifhanehmaaDoorAmBD
set_option linter.unusedSimpArgs false
set_option linter.unusedVariables false
set_option maxHeartbeats 4000000
set_option maxRecDepth 100000
set_option synthInstance.maxHeartbeats 2000000
set_option synthInstance.maxSize 4096
namespace Go.Am
open Go
attribute [local irreducible] Wp WpO WpX WpE

instance K_refAlter {k s : Int} {H : AHeap} : PureCon ext prog 61 [.int .i64 k, .int .i64 s] H 2 (.tuple [.int .i64 (alterR k s).1, .int .i64 (alterR k s).2]) := ⟨by
 refine con_of (show prog 61 = some c61 from rfl) rfl rfl fun m hn => ?_
 cases h1 : keyB k
 ·have e : alterR k s = (0, 31) := by unfold alterR; rw [h1]; rfl
  try simp only [↓nrmL, nrmZ, Nat.reduceEqDiff, ↓reduceIte, Nat.reduceAdd, Int.reduceBEq, Int.reduceBNe, h1]
  refine sq ?_
  refine rg fun KF hKF => ?_
  refine mI rfl ?_
  refine mI rfl ?_
  refine WpO.nil (hKF _ _ ?_)
  refine sq ?_
  refine sq ?_
  refine rg fun KF hKF => ?_
  refine mI rfl ?_
  refine Fo.pcall (v' := ?_) hn rfl (by simp only [↓nrmL, nrmZ, Nat.reduceEqDiff, ↓reduceIte, Nat.reduceAdd, Int.reduceBEq, Int.reduceBNe, h1, List.map]; rfl) rfl ?hv fun _ _ => ?_; case hv => (simp only [↓nrmL, nrmZ, Nat.reduceEqDiff, ↓reduceIte, Nat.reduceAdd, Int.reduceBEq, Int.reduceBNe, h1]; rfl)
  refine Fo.now rfl rfl (by simp only [↓nrmL, nrmZ, Nat.reduceEqDiff, ↓reduceIte, Nat.reduceAdd, Int.reduceBEq, Int.reduceBNe, h1]; rfl) ?_
  refine WpO.nil (hKF _ _ ?_)
  refine Wp.cond (b := true) rfl ?_
  refine sq ?_
  refine rg fun KF hKF => ?_
  refine mI rfl ?_
  refine mI rfl ?_
  refine WpO.nil (hKF _ _ ?_)
  refine Wp.ret ?_
  dsimp only [cond_true, cond_false]
  refine ⟨trivial, _, (by first | rfl | exact getAllC rfl rfl rfl rfl | exact getAllT rfl (getAllC rfl rfl rfl rfl) | exact getAllC rfl rfl rfl (getAllC rfl rfl rfl rfl) | exact getAllC1 rfl rfl rfl), ?_⟩
  exact ⟨by rw [e]; rfl, Ext0.ext⟩
 have hk := keyI_of h1
 have hlo := hk.lo
 have hhi := hk.hi
 cases h2 : decide (s < 0)
 case true =>
  have hs : stepB s = false := by have := of_decide_eq_true h2; unfold stepB withinB; rw [decide_eq_false (by omega)]; rfl
  have e : alterR k s = (0, 34) := by unfold alterR; rw [h1, hs]; rfl
  try simp only [↓nrmL, nrmZ, Nat.reduceEqDiff, ↓reduceIte, Nat.reduceAdd, Int.reduceBEq, Int.reduceBNe, h1, h2]
  refine sq ?_
  refine rg fun KF hKF => ?_
  refine mI rfl ?_
  refine mI rfl ?_
  refine WpO.nil (hKF _ _ ?_)
  refine sq ?_
  refine sq ?_
  refine rg fun KF hKF => ?_
  refine mI rfl ?_
  refine Fo.pcall (v' := ?_) hn rfl (by simp only [↓nrmL, nrmZ, Nat.reduceEqDiff, ↓reduceIte, Nat.reduceAdd, Int.reduceBEq, Int.reduceBNe, h1, h2, List.map]; rfl) rfl ?hv fun _ _ => ?_; case hv => (simp only [↓nrmL, nrmZ, Nat.reduceEqDiff, ↓reduceIte, Nat.reduceAdd, Int.reduceBEq, Int.reduceBNe, h1, h2]; rfl)
  refine Fo.now rfl rfl (by simp only [↓nrmL, nrmZ, Nat.reduceEqDiff, ↓reduceIte, Nat.reduceAdd, Int.reduceBEq, Int.reduceBNe, h1, h2]; rfl) ?_
  refine WpO.nil (hKF _ _ ?_)
  refine Wp.cond (b := false) rfl ?_
  refine Wp.skip ?_
  refine sq ?_
  refine sq ?_
  refine rg fun KF hKF => ?_
  refine mI rfl ?_
  refine Fo.bin rfl rfl rfl (by simp only [↓nrmL, nrmZ, Nat.reduceEqDiff, ↓reduceIte, Nat.reduceAdd, Int.reduceBEq, Int.reduceBNe, h1, h2]; rfl) ?_
  refine mB rfl ?_
  refine Fo.no rfl rfl ?_
  refine Fo.no rfl rfl ?_
  refine tB rfl rfl ?_
  refine WpO.nil (hKF _ _ ?_)
  refine Wp.cond (b := true) rfl ?_
  refine sq ?_
  refine rg fun KF hKF => ?_
  refine mI rfl ?_
  refine mI rfl ?_
  refine WpO.nil (hKF _ _ ?_)
  refine Wp.ret ?_
  dsimp only [cond_true, cond_false]
  refine ⟨trivial, _, (by first | rfl | exact getAllC rfl rfl rfl rfl | exact getAllT rfl (getAllC rfl rfl rfl rfl) | exact getAllC rfl rfl rfl (getAllC rfl rfl rfl rfl) | exact getAllC1 rfl rfl rfl), ?_⟩
  exact ⟨by rw [e]; rfl, Ext0.ext⟩
 cases h3 : decide (s > 69)
 case true =>
  have hs : stepB s = false := by have := of_decide_eq_true h3; unfold stepB withinB; rw [decide_eq_false (p := s ≤ 69) (by omega), Bool.and_false]
  have e : alterR k s = (0, 34) := by unfold alterR; rw [h1, hs]; rfl
  try simp only [↓nrmL, nrmZ, Nat.reduceEqDiff, ↓reduceIte, Nat.reduceAdd, Int.reduceBEq, Int.reduceBNe, h1, h2, h3]
  refine sq ?_
  refine rg fun KF hKF => ?_
  refine mI rfl ?_
  refine mI rfl ?_
  refine WpO.nil (hKF _ _ ?_)
  refine sq ?_
  refine sq ?_
  refine rg fun KF hKF => ?_
  refine mI rfl ?_
  refine Fo.pcall (v' := ?_) hn rfl (by simp only [↓nrmL, nrmZ, Nat.reduceEqDiff, ↓reduceIte, Nat.reduceAdd, Int.reduceBEq, Int.reduceBNe, h1, h2, h3, List.map]; rfl) rfl ?hv fun _ _ => ?_; case hv => (simp only [↓nrmL, nrmZ, Nat.reduceEqDiff, ↓reduceIte, Nat.reduceAdd, Int.reduceBEq, Int.reduceBNe, h1, h2, h3]; rfl)
  refine Fo.now rfl rfl (by simp only [↓nrmL, nrmZ, Nat.reduceEqDiff, ↓reduceIte, Nat.reduceAdd, Int.reduceBEq, Int.reduceBNe, h1, h2, h3]; rfl) ?_
  refine WpO.nil (hKF _ _ ?_)
  refine Wp.cond (b := false) rfl ?_
  refine Wp.skip ?_
  refine sq ?_
  refine sq ?_
  refine rg fun KF hKF => ?_
  refine mI rfl ?_
  refine Fo.bin rfl rfl rfl (by simp only [↓nrmL, nrmZ, Nat.reduceEqDiff, ↓reduceIte, Nat.reduceAdd, Int.reduceBEq, Int.reduceBNe, h1, h2, h3]; rfl) ?_
  refine mB rfl ?_
  refine Fo.yes rfl rfl ?_
  refine mI rfl ?_
  refine Fo.yes rfl rfl ?_
  refine Fo.bin rfl rfl rfl (by simp only [↓nrmL, nrmZ, Nat.reduceEqDiff, ↓reduceIte, Nat.reduceAdd, Int.reduceBEq, Int.reduceBNe, h1, h2, h3]; rfl) ?_
  refine fB rfl rfl ?_
  refine WpO.nil (hKF _ _ ?_)
  refine Wp.cond (b := true) rfl ?_
  refine sq ?_
  refine rg fun KF hKF => ?_
  refine mI rfl ?_
  refine mI rfl ?_
  refine WpO.nil (hKF _ _ ?_)
  refine Wp.ret ?_
  dsimp only [cond_true, cond_false]
  refine ⟨trivial, _, (by first | rfl | exact getAllC rfl rfl rfl rfl | exact getAllT rfl (getAllC rfl rfl rfl rfl) | exact getAllC rfl rfl rfl (getAllC rfl rfl rfl rfl) | exact getAllC1 rfl rfl rfl), ?_⟩
  exact ⟨by rw [e]; rfl, Ext0.ext⟩
 have hs : stepB s = true := by
  have := of_decide_eq_false h2; have := of_decide_eq_false h3
  unfold stepB withinB; rw [decide_eq_true (p := 0 ≤ s) (by omega), decide_eq_true (p := s ≤ 69) (by omega)]; rfl
 have e : alterR k s = (alterS k s, 0) := by unfold alterR; rw [h1, hs]; rfl
 try simp only [↓nrmL, nrmZ, Nat.reduceEqDiff, ↓reduceIte, Nat.reduceAdd, Int.reduceBEq, Int.reduceBNe, h1, h2, h3]
 refine sq ?_
 refine rg fun KF hKF => ?_
 refine mI rfl ?_
 refine mI rfl ?_
 refine WpO.nil (hKF _ _ ?_)
 refine sq ?_
 refine sq ?_
 refine rg fun KF hKF => ?_
 refine mI rfl ?_
 refine Fo.pcall (v' := ?_) hn rfl (by simp only [↓nrmL, nrmZ, Nat.reduceEqDiff, ↓reduceIte, Nat.reduceAdd, Int.reduceBEq, Int.reduceBNe, h1, h2, h3, List.map]; rfl) rfl ?hv fun _ _ => ?_; case hv => (simp only [↓nrmL, nrmZ, Nat.reduceEqDiff, ↓reduceIte, Nat.reduceAdd, Int.reduceBEq, Int.reduceBNe, h1, h2, h3]; rfl)
 refine Fo.now rfl rfl (by simp only [↓nrmL, nrmZ, Nat.reduceEqDiff, ↓reduceIte, Nat.reduceAdd, Int.reduceBEq, Int.reduceBNe, h1, h2, h3]; rfl) ?_
 refine WpO.nil (hKF _ _ ?_)
 refine Wp.cond (b := false) rfl ?_
 refine Wp.skip ?_
 refine sq ?_
 refine sq ?_
 refine rg fun KF hKF => ?_
 refine mI rfl ?_
 refine Fo.bin rfl rfl rfl (by simp only [↓nrmL, nrmZ, Nat.reduceEqDiff, ↓reduceIte, Nat.reduceAdd, Int.reduceBEq, Int.reduceBNe, h1, h2, h3]; rfl) ?_
 refine mB rfl ?_
 refine Fo.yes rfl rfl ?_
 refine mI rfl ?_
 refine Fo.yes rfl rfl ?_
 refine Fo.bin rfl rfl rfl (by simp only [↓nrmL, nrmZ, Nat.reduceEqDiff, ↓reduceIte, Nat.reduceAdd, Int.reduceBEq, Int.reduceBNe, h1, h2, h3]; rfl) ?_
 refine fB rfl rfl ?_
 refine WpO.nil (hKF _ _ ?_)
 refine Wp.cond (b := false) rfl ?_
 refine Wp.skip ?_
 refine sq ?_
 refine rg fun KF hKF => ?_
 refine Fo.bslice rfl (by simp only [↓nrmL, nrmZ, Nat.reduceEqDiff, ↓reduceIte, Nat.reduceAdd, Int.reduceBEq, Int.reduceBNe, h1, h2, h3]; rfl) ?_
 refine Fo.bslice rfl (by simp only [↓nrmL, nrmZ, Nat.reduceEqDiff, ↓reduceIte, Nat.reduceAdd, Int.reduceBEq, Int.reduceBNe, h1, h2, h3]; rfl) ?_
 refine Fo.mov (by simp only [↓nrmL, nrmK, Nat.reduceEqDiff, ↓reduceIte]; rfl) ?_
 refine Fo.mov (by simp only [↓nrmL, nrmK, Nat.reduceEqDiff, ↓reduceIte]; rfl) ?_
 refine WpO.nil (hKF _ _ ?_)
 refine sq ?_
 refine sq ?_
 refine rg fun KF hKF => ?_
 refine mI rfl ?_
 refine WpO.nil (hKF _ _ ?_)
 refine Wp.block ?_
 dsimp only [cond_true, cond_false]
 refine Wp.loopS [4, 5, 8, 21, 22, 23, 24, 25, 26, 27, 28, 29, 30, 31, 32] (fun i : Nat => [(8, .int .i64 (i : Int))]) (fun H3 i H2 => (i = 0 ∨ (i : Int) ≤ k) ∧ hasN [3, 0, 4, 1] i (s.tmod 7) = false ∧ H2 = H3) (fun i => 4 - i) 0 rfl (fun _ => rfl) ⟨rfl, trivial⟩ ⟨Or.inl rfl, rfl, rfl⟩ (by unfold fuel0 at hn; omega) ?_
 rintro i g H2 ⟨hi, hno, rfl⟩
 simp only [↓nrmL, nrmZ, Nat.reduceEqDiff, ↓reduceIte, Nat.reduceAdd, Int.reduceBEq, Int.reduceBNe]
 by_cases hik : (i : Int) < k
 ·have k1 : decide ((i : Int) < k) = true := decide_eq_true hik
  have wk : IntKind.i64.wrap ((i : Int) + 1) = ((i + 1 : Nat) : Int) := by rw [w64r (by omega) (by omega)]; omega
  try simp only [↓nrmL, nrmZ, Nat.reduceEqDiff, ↓reduceIte, Nat.reduceAdd, Int.reduceBEq, Int.reduceBNe, k1]
  refine sq ?_
  refine sq ?_
  refine rg fun KF hKF => ?_
  refine mI rfl ?_
  refine mI rfl ?_
  refine Fo.bin rfl rfl rfl (by simp only [↓nrmL, nrmZ, Nat.reduceEqDiff, ↓reduceIte, Nat.reduceAdd, Int.reduceBEq, Int.reduceBNe, k1]; rfl) ?_
  refine WpO.nil (hKF _ _ ?_)
  refine Wp.cond (b := true) rfl ?_
  refine Wp.skip ?_
  refine sq ?_
  refine Wp.block ?_
  refine sq ?_
  refine rg fun KF hKF => ?_
  refine Fo.mov (by simp only [↓nrmL, nrmK, Nat.reduceEqDiff, ↓reduceIte]; rfl) ?_
  refine mI rfl ?_
  refine WpO.do (WpX.idxS rfl rfl (by omega) (by omega) ?_)
  rcases (show i = 0 ∨ i = 1 ∨ i = 2 ∨ i = 3 by omega) with rfl | rfl | rfl | rfl
  ·cases k2 : (3 : Int) == s.tmod 7
   ·skip
    try simp only [↓nrmL, nrmZ, Nat.reduceEqDiff, ↓reduceIte, Nat.reduceAdd, Int.reduceBEq, Int.reduceBNe, k2, wk]
    refine Fo.ld rfl rfl ?_
    refine mI rfl ?_
    refine Fo.bin rfl rfl rfl rfl ?_
    refine Fo.bin rfl rfl rfl (by simp only [↓nrmL, nrmZ, Nat.reduceEqDiff, ↓reduceIte, Nat.reduceAdd, Int.reduceBEq, Int.reduceBNe, k2, wk]; rfl) ?_
    refine WpO.nil (hKF _ _ ?_)
    refine Wp.cond (b := false) rfl ?_
    refine Wp.skip ?_
    refine rg fun KF hKF => ?_
    refine mI rfl ?_
    refine Fo.bin rfl rfl rfl (by simp only [↓nrmL, nrmZ, Nat.reduceEqDiff, ↓reduceIte, Nat.reduceAdd, Int.reduceBEq, Int.reduceBNe, k2, wk]; rfl) ?_
    refine mI rfl ?_
    refine WpO.nil (hKF _ _ ?_)
    dsimp only [cond_true, cond_false]
    exact ⟨1, by omega, ⟨rfl, trivial⟩, Or.inr (by omega), by rw [hasN_succ (by simp), hno]; rw [beq_swap] at k2; simpa using k2, rfl⟩
   ·have ea : alterS k s = 1 := by
     have hh : hasN [3, 0, 4, 1] k.toNat (s.tmod 7) = true := hasN_mono (i := 1) (by rw [hasN_succ (by simp), hno]; rw [beq_swap] at k2; simpa using k2) (by omega)
     unfold alterS; rw [hh, decide_eq_true (p := k > 0) (by omega)]; rfl
    try simp only [↓nrmL, nrmZ, Nat.reduceEqDiff, ↓reduceIte, Nat.reduceAdd, Int.reduceBEq, Int.reduceBNe, k2]
    refine Fo.ld rfl rfl ?_
    refine mI rfl ?_
    refine Fo.bin rfl rfl rfl rfl ?_
    refine Fo.bin rfl rfl rfl (by simp only [↓nrmL, nrmZ, Nat.reduceEqDiff, ↓reduceIte, Nat.reduceAdd, Int.reduceBEq, Int.reduceBNe, k2]; rfl) ?_
    refine WpO.nil (hKF _ _ ?_)
    refine Wp.cond (b := true) rfl ?_
    refine sq ?_
    refine rg fun KF hKF => ?_
    refine mI rfl ?_
    refine mI rfl ?_
    refine WpO.nil (hKF _ _ ?_)
    refine Wp.ret ?_
    dsimp only [cond_true, cond_false]
    refine ⟨trivial, _, (by first | rfl | exact getAllC rfl rfl rfl rfl | exact getAllT rfl (getAllC rfl rfl rfl rfl) | exact getAllC rfl rfl rfl (getAllC rfl rfl rfl rfl) | exact getAllC1 rfl rfl rfl), ?_⟩
    exact ⟨by rw [e, ea]; rfl, Ext0.ext⟩
  ·cases k2 : (0 : Int) == s.tmod 7
   ·skip
    try simp only [↓nrmL, nrmZ, Nat.reduceEqDiff, ↓reduceIte, Nat.reduceAdd, Int.reduceBEq, Int.reduceBNe, k2, wk]
    refine Fo.ld rfl rfl ?_
    refine mI rfl ?_
    refine Fo.bin rfl rfl rfl rfl ?_
    refine Fo.bin rfl rfl rfl (by simp only [↓nrmL, nrmZ, Nat.reduceEqDiff, ↓reduceIte, Nat.reduceAdd, Int.reduceBEq, Int.reduceBNe, k2, wk]; rfl) ?_
    refine WpO.nil (hKF _ _ ?_)
    refine Wp.cond (b := false) rfl ?_
    refine Wp.skip ?_
    refine rg fun KF hKF => ?_
    refine mI rfl ?_
    refine Fo.bin rfl rfl rfl (by simp only [↓nrmL, nrmZ, Nat.reduceEqDiff, ↓reduceIte, Nat.reduceAdd, Int.reduceBEq, Int.reduceBNe, k2, wk]; rfl) ?_
    refine mI rfl ?_
    refine WpO.nil (hKF _ _ ?_)
    dsimp only [cond_true, cond_false]
    exact ⟨2, by omega, ⟨rfl, trivial⟩, Or.inr (by omega), by rw [hasN_succ (by simp), hno]; rw [beq_swap] at k2; simpa using k2, rfl⟩
   ·have ea : alterS k s = 1 := by
     have hh : hasN [3, 0, 4, 1] k.toNat (s.tmod 7) = true := hasN_mono (i := 2) (by rw [hasN_succ (by simp), hno]; rw [beq_swap] at k2; simpa using k2) (by omega)
     unfold alterS; rw [hh, decide_eq_true (p := k > 0) (by omega)]; rfl
    try simp only [↓nrmL, nrmZ, Nat.reduceEqDiff, ↓reduceIte, Nat.reduceAdd, Int.reduceBEq, Int.reduceBNe, k2]
    refine Fo.ld rfl rfl ?_
    refine mI rfl ?_
    refine Fo.bin rfl rfl rfl rfl ?_
    refine Fo.bin rfl rfl rfl (by simp only [↓nrmL, nrmZ, Nat.reduceEqDiff, ↓reduceIte, Nat.reduceAdd, Int.reduceBEq, Int.reduceBNe, k2]; rfl) ?_
    refine WpO.nil (hKF _ _ ?_)
    refine Wp.cond (b := true) rfl ?_
    refine sq ?_
    refine rg fun KF hKF => ?_
    refine mI rfl ?_
    refine mI rfl ?_
    refine WpO.nil (hKF _ _ ?_)
    refine Wp.ret ?_
    dsimp only [cond_true, cond_false]
    refine ⟨trivial, _, (by first | rfl | exact getAllC rfl rfl rfl rfl | exact getAllT rfl (getAllC rfl rfl rfl rfl) | exact getAllC rfl rfl rfl (getAllC rfl rfl rfl rfl) | exact getAllC1 rfl rfl rfl), ?_⟩
    exact ⟨by rw [e, ea]; rfl, Ext0.ext⟩
  ·cases k2 : (4 : Int) == s.tmod 7
   ·skip
    try simp only [↓nrmL, nrmZ, Nat.reduceEqDiff, ↓reduceIte, Nat.reduceAdd, Int.reduceBEq, Int.reduceBNe, k2, wk]
    refine Fo.ld rfl rfl ?_
    refine mI rfl ?_
    refine Fo.bin rfl rfl rfl rfl ?_
    refine Fo.bin rfl rfl rfl (by simp only [↓nrmL, nrmZ, Nat.reduceEqDiff, ↓reduceIte, Nat.reduceAdd, Int.reduceBEq, Int.reduceBNe, k2, wk]; rfl) ?_
    refine WpO.nil (hKF _ _ ?_)
    refine Wp.cond (b := false) rfl ?_
    refine Wp.skip ?_
    refine rg fun KF hKF => ?_
    refine mI rfl ?_
    refine Fo.bin rfl rfl rfl (by simp only [↓nrmL, nrmZ, Nat.reduceEqDiff, ↓reduceIte, Nat.reduceAdd, Int.reduceBEq, Int.reduceBNe, k2, wk]; rfl) ?_
    refine mI rfl ?_
    refine WpO.nil (hKF _ _ ?_)
    dsimp only [cond_true, cond_false]
    exact ⟨3, by omega, ⟨rfl, trivial⟩, Or.inr (by omega), by rw [hasN_succ (by simp), hno]; rw [beq_swap] at k2; simpa using k2, rfl⟩
   ·have ea : alterS k s = 1 := by
     have hh : hasN [3, 0, 4, 1] k.toNat (s.tmod 7) = true := hasN_mono (i := 3) (by rw [hasN_succ (by simp), hno]; rw [beq_swap] at k2; simpa using k2) (by omega)
     unfold alterS; rw [hh, decide_eq_true (p := k > 0) (by omega)]; rfl
    try simp only [↓nrmL, nrmZ, Nat.reduceEqDiff, ↓reduceIte, Nat.reduceAdd, Int.reduceBEq, Int.reduceBNe, k2]
    refine Fo.ld rfl rfl ?_
    refine mI rfl ?_
    refine Fo.bin rfl rfl rfl rfl ?_
    refine Fo.bin rfl rfl rfl (by simp only [↓nrmL, nrmZ, Nat.reduceEqDiff, ↓reduceIte, Nat.reduceAdd, Int.reduceBEq, Int.reduceBNe, k2]; rfl) ?_
    refine WpO.nil (hKF _ _ ?_)
    refine Wp.cond (b := true) rfl ?_
    refine sq ?_
    refine rg fun KF hKF => ?_
    refine mI rfl ?_
    refine mI rfl ?_
    refine WpO.nil (hKF _ _ ?_)
    refine Wp.ret ?_
    dsimp only [cond_true, cond_false]
    refine ⟨trivial, _, (by first | rfl | exact getAllC rfl rfl rfl rfl | exact getAllT rfl (getAllC rfl rfl rfl rfl) | exact getAllC rfl rfl rfl (getAllC rfl rfl rfl rfl) | exact getAllC1 rfl rfl rfl), ?_⟩
    exact ⟨by rw [e, ea]; rfl, Ext0.ext⟩
  ·cases k2 : (1 : Int) == s.tmod 7
   ·skip
    try simp only [↓nrmL, nrmZ, Nat.reduceEqDiff, ↓reduceIte, Nat.reduceAdd, Int.reduceBEq, Int.reduceBNe, k2, wk]
    refine Fo.ld rfl rfl ?_
    refine mI rfl ?_
    refine Fo.bin rfl rfl rfl rfl ?_
    refine Fo.bin rfl rfl rfl (by simp only [↓nrmL, nrmZ, Nat.reduceEqDiff, ↓reduceIte, Nat.reduceAdd, Int.reduceBEq, Int.reduceBNe, k2, wk]; rfl) ?_
    refine WpO.nil (hKF _ _ ?_)
    refine Wp.cond (b := false) rfl ?_
    refine Wp.skip ?_
    refine rg fun KF hKF => ?_
    refine mI rfl ?_
    refine Fo.bin rfl rfl rfl (by simp only [↓nrmL, nrmZ, Nat.reduceEqDiff, ↓reduceIte, Nat.reduceAdd, Int.reduceBEq, Int.reduceBNe, k2, wk]; rfl) ?_
    refine mI rfl ?_
    refine WpO.nil (hKF _ _ ?_)
    dsimp only [cond_true, cond_false]
    exact ⟨4, by omega, ⟨rfl, trivial⟩, Or.inr (by omega), by rw [hasN_succ (by simp), hno]; rw [beq_swap] at k2; simpa using k2, rfl⟩
   ·have ea : alterS k s = 1 := by
     have hh : hasN [3, 0, 4, 1] k.toNat (s.tmod 7) = true := hasN_mono (i := 4) (by rw [hasN_succ (by simp), hno]; rw [beq_swap] at k2; simpa using k2) (by omega)
     unfold alterS; rw [hh, decide_eq_true (p := k > 0) (by omega)]; rfl
    try simp only [↓nrmL, nrmZ, Nat.reduceEqDiff, ↓reduceIte, Nat.reduceAdd, Int.reduceBEq, Int.reduceBNe, k2]
    refine Fo.ld rfl rfl ?_
    refine mI rfl ?_
    refine Fo.bin rfl rfl rfl rfl ?_
    refine Fo.bin rfl rfl rfl (by simp only [↓nrmL, nrmZ, Nat.reduceEqDiff, ↓reduceIte, Nat.reduceAdd, Int.reduceBEq, Int.reduceBNe, k2]; rfl) ?_
    refine WpO.nil (hKF _ _ ?_)
    refine Wp.cond (b := true) rfl ?_
    refine sq ?_
    refine rg fun KF hKF => ?_
    refine mI rfl ?_
    refine mI rfl ?_
    refine WpO.nil (hKF _ _ ?_)
    refine Wp.ret ?_
    dsimp only [cond_true, cond_false]
    refine ⟨trivial, _, (by first | rfl | exact getAllC rfl rfl rfl rfl | exact getAllT rfl (getAllC rfl rfl rfl rfl) | exact getAllC rfl rfl rfl (getAllC rfl rfl rfl rfl) | exact getAllC1 rfl rfl rfl), ?_⟩
    exact ⟨by rw [e, ea]; rfl, Ext0.ext⟩
 ·have k1 : decide ((i : Int) < k) = false := decide_eq_false hik
  have hup : (decide (k > 0) && hasN [3, 0, 4, 1] k.toNat (s.tmod 7)) = false := by
   by_cases hp : k > 0
   ·have : k.toNat = i := by omega
    rw [this, hno, Bool.and_false]
   ·rw [decide_eq_false hp, Bool.false_and]
  have wn : IntKind.i64.wrap (0 - k) = -k := by rw [w64r (by omega) (by omega)]; omega
  try simp only [↓nrmL, nrmZ, Nat.reduceEqDiff, ↓reduceIte, Nat.reduceAdd, Int.reduceBEq, Int.reduceBNe, k1]
  refine sq ?_
  refine sq ?_
  refine rg fun KF hKF => ?_
  refine mI rfl ?_
  refine mI rfl ?_
  refine Fo.bin rfl rfl rfl (by simp only [↓nrmL, nrmZ, Nat.reduceEqDiff, ↓reduceIte, Nat.reduceAdd, Int.reduceBEq, Int.reduceBNe, k1]; rfl) ?_
  refine WpO.nil (hKF _ _ ?_)
  refine Wp.cond (b := false) rfl ?_
  refine Wp.exit ?_
  refine sq ?_
  refine sq ?_
  refine rg fun KF hKF => ?_
  refine mI rfl ?_
  refine WpO.nil (hKF _ _ ?_)
  refine Wp.block ?_
  dsimp only [cond_true, cond_false]
  refine Wp.loopS [4, 5, 9, 33, 34, 35, 36, 37, 38, 39, 40, 41, 42, 43, 44, 45] (fun j : Nat => [(9, .int .i64 (j : Int))]) (fun H3 j H2 => (j = 0 ∨ (j : Int) ≤ -k) ∧ hasN [6, 2, 5, 1] j (s.tmod 7) = false ∧ H2 = H3) (fun j => 4 - j) 0 rfl (fun _ => rfl) ⟨rfl, trivial⟩ ⟨Or.inl rfl, rfl, rfl⟩ (by unfold fuel0 at hn; omega) ?_
  rintro j g2 H3 ⟨hj, hnj, rfl⟩
  simp only [↓nrmL, nrmZ, Nat.reduceEqDiff, ↓reduceIte, Nat.reduceAdd, Int.reduceBEq, Int.reduceBNe]
  by_cases hjk : (j : Int) < -k
  ·have k2 : decide ((j : Int) < -k) = true := decide_eq_true hjk
   have wk : IntKind.i64.wrap ((j : Int) + 1) = ((j + 1 : Nat) : Int) := by rw [w64r (by omega) (by omega)]; omega
   try simp only [↓nrmL, nrmZ, Nat.reduceEqDiff, ↓reduceIte, Nat.reduceAdd, Int.reduceBEq, Int.reduceBNe, wn, k2]
   refine sq ?_
   refine sq ?_
   refine rg fun KF hKF => ?_
   refine mI rfl ?_
   refine mI rfl ?_
   refine Fo.bin rfl rfl rfl (by simp only [↓nrmL, nrmZ, Nat.reduceEqDiff, ↓reduceIte, Nat.reduceAdd, Int.reduceBEq, Int.reduceBNe, wn, k2]; rfl) ?_
   refine Fo.bin rfl rfl rfl (by simp only [↓nrmL, nrmZ, Nat.reduceEqDiff, ↓reduceIte, Nat.reduceAdd, Int.reduceBEq, Int.reduceBNe, wn, k2]; rfl) ?_
   refine WpO.nil (hKF _ _ ?_)
   refine Wp.cond (b := true) rfl ?_
   refine Wp.skip ?_
   refine sq ?_
   refine Wp.block ?_
   refine sq ?_
   refine rg fun KF hKF => ?_
   refine Fo.mov (by simp only [↓nrmL, nrmK, Nat.reduceEqDiff, ↓reduceIte]; rfl) ?_
   refine mI rfl ?_
   refine WpO.do (WpX.idxS rfl rfl (by omega) (by omega) ?_)
   rcases (show j = 0 ∨ j = 1 ∨ j = 2 ∨ j = 3 by omega) with rfl | rfl | rfl | rfl
   ·cases k3 : (6 : Int) == s.tmod 7
    ·skip
     try simp only [↓nrmL, nrmZ, Nat.reduceEqDiff, ↓reduceIte, Nat.reduceAdd, Int.reduceBEq, Int.reduceBNe, k3, wk]
     refine Fo.ld rfl rfl ?_
     refine mI rfl ?_
     refine Fo.bin rfl rfl rfl rfl ?_
     refine Fo.bin rfl rfl rfl (by simp only [↓nrmL, nrmZ, Nat.reduceEqDiff, ↓reduceIte, Nat.reduceAdd, Int.reduceBEq, Int.reduceBNe, k3, wk]; rfl) ?_
     refine WpO.nil (hKF _ _ ?_)
     refine Wp.cond (b := false) rfl ?_
     refine Wp.skip ?_
     refine rg fun KF hKF => ?_
     refine mI rfl ?_
     refine Fo.bin rfl rfl rfl (by simp only [↓nrmL, nrmZ, Nat.reduceEqDiff, ↓reduceIte, Nat.reduceAdd, Int.reduceBEq, Int.reduceBNe, k3, wk]; rfl) ?_
     refine mI rfl ?_
     refine WpO.nil (hKF _ _ ?_)
     dsimp only [cond_true, cond_false]
     exact ⟨1, by omega, ⟨rfl, trivial⟩, Or.inr (by omega), by rw [hasN_succ (by simp), hnj]; rw [beq_swap] at k3; simpa using k3, rfl⟩
    ·have ea : alterS k s = -1 := by
      have hh : hasN [6, 2, 5, 1] (-k).toNat (s.tmod 7) = true := hasN_mono (i := 1) (by rw [hasN_succ (by simp), hnj]; rw [beq_swap] at k3; simpa using k3) (by omega)
      unfold alterS; rw [hup, hh, decide_eq_true (p := k < 0) (by omega)]; rfl
     try simp only [↓nrmL, nrmZ, Nat.reduceEqDiff, ↓reduceIte, Nat.reduceAdd, Int.reduceBEq, Int.reduceBNe, k3]
     refine Fo.ld rfl rfl ?_
     refine mI rfl ?_
     refine Fo.bin rfl rfl rfl rfl ?_
     refine Fo.bin rfl rfl rfl (by simp only [↓nrmL, nrmZ, Nat.reduceEqDiff, ↓reduceIte, Nat.reduceAdd, Int.reduceBEq, Int.reduceBNe, k3]; rfl) ?_
     refine WpO.nil (hKF _ _ ?_)
     refine Wp.cond (b := true) rfl ?_
     refine sq ?_
     refine rg fun KF hKF => ?_
     refine mI rfl ?_
     refine mI rfl ?_
     refine WpO.nil (hKF _ _ ?_)
     refine Wp.ret ?_
     dsimp only [cond_true, cond_false]
     refine ⟨trivial, _, (by first | rfl | exact getAllC rfl rfl rfl rfl | exact getAllT rfl (getAllC rfl rfl rfl rfl) | exact getAllC rfl rfl rfl (getAllC rfl rfl rfl rfl) | exact getAllC1 rfl rfl rfl), ?_⟩
     exact ⟨by rw [e, ea]; rfl, Ext0.ext⟩
   ·cases k3 : (2 : Int) == s.tmod 7
    ·skip
     try simp only [↓nrmL, nrmZ, Nat.reduceEqDiff, ↓reduceIte, Nat.reduceAdd, Int.reduceBEq, Int.reduceBNe, k3, wk]
     refine Fo.ld rfl rfl ?_
     refine mI rfl ?_
     refine Fo.bin rfl rfl rfl rfl ?_
     refine Fo.bin rfl rfl rfl (by simp only [↓nrmL, nrmZ, Nat.reduceEqDiff, ↓reduceIte, Nat.reduceAdd, Int.reduceBEq, Int.reduceBNe, k3, wk]; rfl) ?_
     refine WpO.nil (hKF _ _ ?_)
     refine Wp.cond (b := false) rfl ?_
     refine Wp.skip ?_
     refine rg fun KF hKF => ?_
     refine mI rfl ?_
     refine Fo.bin rfl rfl rfl (by simp only [↓nrmL, nrmZ, Nat.reduceEqDiff, ↓reduceIte, Nat.reduceAdd, Int.reduceBEq, Int.reduceBNe, k3, wk]; rfl) ?_
     refine mI rfl ?_
     refine WpO.nil (hKF _ _ ?_)
     dsimp only [cond_true, cond_false]
     exact ⟨2, by omega, ⟨rfl, trivial⟩, Or.inr (by omega), by rw [hasN_succ (by simp), hnj]; rw [beq_swap] at k3; simpa using k3, rfl⟩
    ·have ea : alterS k s = -1 := by
      have hh : hasN [6, 2, 5, 1] (-k).toNat (s.tmod 7) = true := hasN_mono (i := 2) (by rw [hasN_succ (by simp), hnj]; rw [beq_swap] at k3; simpa using k3) (by omega)
      unfold alterS; rw [hup, hh, decide_eq_true (p := k < 0) (by omega)]; rfl
     try simp only [↓nrmL, nrmZ, Nat.reduceEqDiff, ↓reduceIte, Nat.reduceAdd, Int.reduceBEq, Int.reduceBNe, k3]
     refine Fo.ld rfl rfl ?_
     refine mI rfl ?_
     refine Fo.bin rfl rfl rfl rfl ?_
     refine Fo.bin rfl rfl rfl (by simp only [↓nrmL, nrmZ, Nat.reduceEqDiff, ↓reduceIte, Nat.reduceAdd, Int.reduceBEq, Int.reduceBNe, k3]; rfl) ?_
     refine WpO.nil (hKF _ _ ?_)
     refine Wp.cond (b := true) rfl ?_
     refine sq ?_
     refine rg fun KF hKF => ?_
     refine mI rfl ?_
     refine mI rfl ?_
     refine WpO.nil (hKF _ _ ?_)
     refine Wp.ret ?_
     dsimp only [cond_true, cond_false]
     refine ⟨trivial, _, (by first | rfl | exact getAllC rfl rfl rfl rfl | exact getAllT rfl (getAllC rfl rfl rfl rfl) | exact getAllC rfl rfl rfl (getAllC rfl rfl rfl rfl) | exact getAllC1 rfl rfl rfl), ?_⟩
     exact ⟨by rw [e, ea]; rfl, Ext0.ext⟩
   ·cases k3 : (5 : Int) == s.tmod 7
    ·skip
     try simp only [↓nrmL, nrmZ, Nat.reduceEqDiff, ↓reduceIte, Nat.reduceAdd, Int.reduceBEq, Int.reduceBNe, k3, wk]
     refine Fo.ld rfl rfl ?_
     refine mI rfl ?_
     refine Fo.bin rfl rfl rfl rfl ?_
     refine Fo.bin rfl rfl rfl (by simp only [↓nrmL, nrmZ, Nat.reduceEqDiff, ↓reduceIte, Nat.reduceAdd, Int.reduceBEq, Int.reduceBNe, k3, wk]; rfl) ?_
     refine WpO.nil (hKF _ _ ?_)
     refine Wp.cond (b := false) rfl ?_
     refine Wp.skip ?_
     refine rg fun KF hKF => ?_
     refine mI rfl ?_
     refine Fo.bin rfl rfl rfl (by simp only [↓nrmL, nrmZ, Nat.reduceEqDiff, ↓reduceIte, Nat.reduceAdd, Int.reduceBEq, Int.reduceBNe, k3, wk]; rfl) ?_
     refine mI rfl ?_
     refine WpO.nil (hKF _ _ ?_)
     dsimp only [cond_true, cond_false]
     exact ⟨3, by omega, ⟨rfl, trivial⟩, Or.inr (by omega), by rw [hasN_succ (by simp), hnj]; rw [beq_swap] at k3; simpa using k3, rfl⟩
    ·have ea : alterS k s = -1 := by
      have hh : hasN [6, 2, 5, 1] (-k).toNat (s.tmod 7) = true := hasN_mono (i := 3) (by rw [hasN_succ (by simp), hnj]; rw [beq_swap] at k3; simpa using k3) (by omega)
      unfold alterS; rw [hup, hh, decide_eq_true (p := k < 0) (by omega)]; rfl
     try simp only [↓nrmL, nrmZ, Nat.reduceEqDiff, ↓reduceIte, Nat.reduceAdd, Int.reduceBEq, Int.reduceBNe, k3]
     refine Fo.ld rfl rfl ?_
     refine mI rfl ?_
     refine Fo.bin rfl rfl rfl rfl ?_
     refine Fo.bin rfl rfl rfl (by simp only [↓nrmL, nrmZ, Nat.reduceEqDiff, ↓reduceIte, Nat.reduceAdd, Int.reduceBEq, Int.reduceBNe, k3]; rfl) ?_
     refine WpO.nil (hKF _ _ ?_)
     refine Wp.cond (b := true) rfl ?_
     refine sq ?_
     refine rg fun KF hKF => ?_
     refine mI rfl ?_
     refine mI rfl ?_
     refine WpO.nil (hKF _ _ ?_)
     refine Wp.ret ?_
     dsimp only [cond_true, cond_false]
     refine ⟨trivial, _, (by first | rfl | exact getAllC rfl rfl rfl rfl | exact getAllT rfl (getAllC rfl rfl rfl rfl) | exact getAllC rfl rfl rfl (getAllC rfl rfl rfl rfl) | exact getAllC1 rfl rfl rfl), ?_⟩
     exact ⟨by rw [e, ea]; rfl, Ext0.ext⟩
   ·cases k3 : (1 : Int) == s.tmod 7
    ·skip
     try simp only [↓nrmL, nrmZ, Nat.reduceEqDiff, ↓reduceIte, Nat.reduceAdd, Int.reduceBEq, Int.reduceBNe, k3, wk]
     refine Fo.ld rfl rfl ?_
     refine mI rfl ?_
     refine Fo.bin rfl rfl rfl rfl ?_
     refine Fo.bin rfl rfl rfl (by simp only [↓nrmL, nrmZ, Nat.reduceEqDiff, ↓reduceIte, Nat.reduceAdd, Int.reduceBEq, Int.reduceBNe, k3, wk]; rfl) ?_
     refine WpO.nil (hKF _ _ ?_)
     refine Wp.cond (b := false) rfl ?_
     refine Wp.skip ?_
     refine rg fun KF hKF => ?_
     refine mI rfl ?_
     refine Fo.bin rfl rfl rfl (by simp only [↓nrmL, nrmZ, Nat.reduceEqDiff, ↓reduceIte, Nat.reduceAdd, Int.reduceBEq, Int.reduceBNe, k3, wk]; rfl) ?_
     refine mI rfl ?_
     refine WpO.nil (hKF _ _ ?_)
     dsimp only [cond_true, cond_false]
     exact ⟨4, by omega, ⟨rfl, trivial⟩, Or.inr (by omega), by rw [hasN_succ (by simp), hnj]; rw [beq_swap] at k3; simpa using k3, rfl⟩
    ·have ea : alterS k s = -1 := by
      have hh : hasN [6, 2, 5, 1] (-k).toNat (s.tmod 7) = true := hasN_mono (i := 4) (by rw [hasN_succ (by simp), hnj]; rw [beq_swap] at k3; simpa using k3) (by omega)
      unfold alterS; rw [hup, hh, decide_eq_true (p := k < 0) (by omega)]; rfl
     try simp only [↓nrmL, nrmZ, Nat.reduceEqDiff, ↓reduceIte, Nat.reduceAdd, Int.reduceBEq, Int.reduceBNe, k3]
     refine Fo.ld rfl rfl ?_
     refine mI rfl ?_
     refine Fo.bin rfl rfl rfl rfl ?_
     refine Fo.bin rfl rfl rfl (by simp only [↓nrmL, nrmZ, Nat.reduceEqDiff, ↓reduceIte, Nat.reduceAdd, Int.reduceBEq, Int.reduceBNe, k3]; rfl) ?_
     refine WpO.nil (hKF _ _ ?_)
     refine Wp.cond (b := true) rfl ?_
     refine sq ?_
     refine rg fun KF hKF => ?_
     refine mI rfl ?_
     refine mI rfl ?_
     refine WpO.nil (hKF _ _ ?_)
     refine Wp.ret ?_
     dsimp only [cond_true, cond_false]
     refine ⟨trivial, _, (by first | rfl | exact getAllC rfl rfl rfl rfl | exact getAllT rfl (getAllC rfl rfl rfl rfl) | exact getAllC rfl rfl rfl (getAllC rfl rfl rfl rfl) | exact getAllC1 rfl rfl rfl), ?_⟩
     exact ⟨by rw [e, ea]; rfl, Ext0.ext⟩
  ·have k2 : decide ((j : Int) < -k) = false := decide_eq_false hjk
   have hdn : (decide (k < 0) && hasN [6, 2, 5, 1] (-k).toNat (s.tmod 7)) = false := by
    by_cases hp : k < 0
    ·have : (-k).toNat = j := by omega
     rw [this, hnj, Bool.and_false]
    ·rw [decide_eq_false hp, Bool.false_and]
   have ea : alterS k s = 0 := by unfold alterS; rw [hup, hdn]; rfl
   try simp only [↓nrmL, nrmZ, Nat.reduceEqDiff, ↓reduceIte, Nat.reduceAdd, Int.reduceBEq, Int.reduceBNe, wn, k2]
   refine sq ?_
   refine sq ?_
   refine rg fun KF hKF => ?_
   refine mI rfl ?_
   refine mI rfl ?_
   refine Fo.bin rfl rfl rfl (by simp only [↓nrmL, nrmZ, Nat.reduceEqDiff, ↓reduceIte, Nat.reduceAdd, Int.reduceBEq, Int.reduceBNe, wn, k2]; rfl) ?_
   refine Fo.bin rfl rfl rfl (by simp only [↓nrmL, nrmZ, Nat.reduceEqDiff, ↓reduceIte, Nat.reduceAdd, Int.reduceBEq, Int.reduceBNe, wn, k2]; rfl) ?_
   refine WpO.nil (hKF _ _ ?_)
   refine Wp.cond (b := false) rfl ?_
   refine Wp.exit ?_
   refine sq ?_
   refine rg fun KF hKF => ?_
   refine mI rfl ?_
   refine mI rfl ?_
   refine WpO.nil (hKF _ _ ?_)
   refine Wp.ret ?_
   dsimp only [cond_true, cond_false]
   refine ⟨trivial, _, (by first | rfl | exact getAllC rfl rfl rfl rfl | exact getAllT rfl (getAllC rfl rfl rfl rfl) | exact getAllC rfl rfl rfl (getAllC rfl rfl rfl rfl) | exact getAllC1 rfl rfl rfl), ?_⟩
   exact ⟨by rw [e, ea]; rfl, Ext0.ext⟩⟩

def staffS (c s a : Int) : Int × Int := bif (baseS c).2 != 0 then (0, (baseS c).2) else bif pitchB s a then (w6 (s - (baseS c).1), 0) else (0, 34)
instance K_Staff {c s a : Int} {H : AHeap} : PureCon ext prog 46 [.int .i64 c, .agg [.int .i64 s, .int .i64 a]] H 4 (.tuple [.int .i64 (staffS c s a).1, .int .i64 (staffS c s a).2]) := ⟨by
 refine con_of (show prog 46 = some c46 from rfl) rfl rfl fun m hn => ?_
 unfold staffS
 cases h1 : ((baseS c).2 != 0)
 ·cases h2 : pitchB s a
  ·skip
   try simp only [↓nrmL, nrmZ, Nat.reduceEqDiff, ↓reduceIte, Nat.reduceAdd, Int.reduceBEq, Int.reduceBNe, h1, h2]
   refine sq ?_
   refine rg fun KF hKF => ?_
   refine Fo.boxA rfl ?_
   refine mI rfl ?_
   refine mI rfl ?_
   refine WpO.nil (hKF _ _ ?_)
   refine sq ?_
   refine rg fun KF hKF => ?_
   refine mI rfl ?_
   refine Fo.pcall (v' := ?_) hn rfl (by simp only [↓nrmL, nrmZ, Nat.reduceEqDiff, ↓reduceIte, Nat.reduceAdd, Int.reduceBEq, Int.reduceBNe, h1, h2, List.map]; rfl) rfl ?hv fun _ _ => ?_; case hv => rfl
   refine mT rfl ?_
   refine Fo.extr rfl rfl ?_
   refine Fo.extr rfl rfl ?_
   refine mI rfl ?_
   refine mI rfl ?_
   refine WpO.nil (hKF _ _ ?_)
   refine sq ?_
   refine sq ?_
   refine rg fun KF hKF => ?_
   refine mI rfl ?_
   refine Fo.bin rfl rfl rfl (by simp only [↓nrmL, nrmZ, Nat.reduceEqDiff, ↓reduceIte, Nat.reduceAdd, Int.reduceBEq, Int.reduceBNe, h1, h2]; rfl) ?_
   refine WpO.nil (hKF _ _ ?_)
   refine Wp.cond (b := false) rfl ?_
   refine Wp.skip ?_
   refine sq ?_
   refine sq ?_
   refine rg fun KF hKF => ?_
   refine Fo.ldN rfl rfl (by simp only [↓nrmL, nrmZ, Nat.reduceEqDiff, ↓reduceIte, Nat.reduceAdd, Int.reduceBEq, Int.reduceBNe, h1, h2]; rfl) ?_
   refine Fo.pcall (v' := ?_) hn rfl (by simp only [↓nrmL, nrmZ, Nat.reduceEqDiff, ↓reduceIte, Nat.reduceAdd, Int.reduceBEq, Int.reduceBNe, h1, h2, List.map]; rfl) rfl ?hv fun _ _ => ?_; case hv => (simp only [↓nrmL, nrmZ, Nat.reduceEqDiff, ↓reduceIte, Nat.reduceAdd, Int.reduceBEq, Int.reduceBNe, h1, h2]; rfl)
   refine Fo.now rfl rfl (by simp only [↓nrmL, nrmZ, Nat.reduceEqDiff, ↓reduceIte, Nat.reduceAdd, Int.reduceBEq, Int.reduceBNe, h1, h2]; rfl) ?_
   refine WpO.nil (hKF _ _ ?_)
   refine Wp.cond (b := true) rfl ?_
   refine sq ?_
   refine rg fun KF hKF => ?_
   refine mI rfl ?_
   refine mI rfl ?_
   refine WpO.nil (hKF _ _ ?_)
   refine Wp.ret ?_
   dsimp only [cond_true, cond_false]
   refine ⟨trivial, _, (by first | rfl | exact getAllC rfl rfl rfl rfl | exact getAllT rfl (getAllC rfl rfl rfl rfl) | exact getAllC rfl rfl rfl (getAllC rfl rfl rfl rfl) | exact getAllC1 rfl rfl rfl), ?_⟩
   exact ⟨rfl, Ext0.ext⟩
  ·skip
   try simp only [↓nrmL, nrmZ, Nat.reduceEqDiff, ↓reduceIte, Nat.reduceAdd, Int.reduceBEq, Int.reduceBNe, h1, h2]
   refine sq ?_
   refine rg fun KF hKF => ?_
   refine Fo.boxA rfl ?_
   refine mI rfl ?_
   refine mI rfl ?_
   refine WpO.nil (hKF _ _ ?_)
   refine sq ?_
   refine rg fun KF hKF => ?_
   refine mI rfl ?_
   refine Fo.pcall (v' := ?_) hn rfl (by simp only [↓nrmL, nrmZ, Nat.reduceEqDiff, ↓reduceIte, Nat.reduceAdd, Int.reduceBEq, Int.reduceBNe, h1, h2, List.map]; rfl) rfl ?hv fun _ _ => ?_; case hv => rfl
   refine mT rfl ?_
   refine Fo.extr rfl rfl ?_
   refine Fo.extr rfl rfl ?_
   refine mI rfl ?_
   refine mI rfl ?_
   refine WpO.nil (hKF _ _ ?_)
   refine sq ?_
   refine sq ?_
   refine rg fun KF hKF => ?_
   refine mI rfl ?_
   refine Fo.bin rfl rfl rfl (by simp only [↓nrmL, nrmZ, Nat.reduceEqDiff, ↓reduceIte, Nat.reduceAdd, Int.reduceBEq, Int.reduceBNe, h1, h2]; rfl) ?_
   refine WpO.nil (hKF _ _ ?_)
   refine Wp.cond (b := false) rfl ?_
   refine Wp.skip ?_
   refine sq ?_
   refine sq ?_
   refine rg fun KF hKF => ?_
   refine Fo.ldN rfl rfl (by simp only [↓nrmL, nrmZ, Nat.reduceEqDiff, ↓reduceIte, Nat.reduceAdd, Int.reduceBEq, Int.reduceBNe, h1, h2]; rfl) ?_
   refine Fo.pcall (v' := ?_) hn rfl (by simp only [↓nrmL, nrmZ, Nat.reduceEqDiff, ↓reduceIte, Nat.reduceAdd, Int.reduceBEq, Int.reduceBNe, h1, h2, List.map]; rfl) rfl ?hv fun _ _ => ?_; case hv => (simp only [↓nrmL, nrmZ, Nat.reduceEqDiff, ↓reduceIte, Nat.reduceAdd, Int.reduceBEq, Int.reduceBNe, h1, h2]; rfl)
   refine Fo.now rfl rfl (by simp only [↓nrmL, nrmZ, Nat.reduceEqDiff, ↓reduceIte, Nat.reduceAdd, Int.reduceBEq, Int.reduceBNe, h1, h2]; rfl) ?_
   refine WpO.nil (hKF _ _ ?_)
   refine Wp.cond (b := false) rfl ?_
   refine Wp.skip ?_
   refine sq ?_
   refine rg fun KF hKF => ?_
   refine Fo.fa rfl ?_
   refine Fo.ld rfl rfl ?_
   refine mI rfl ?_
   refine Fo.bin rfl rfl rfl rfl ?_
   refine mI rfl ?_
   refine mI rfl ?_
   refine WpO.nil (hKF _ _ ?_)
   refine Wp.ret ?_
   dsimp only [cond_true, cond_false]
   refine ⟨trivial, _, (by first | rfl | exact getAllC rfl rfl rfl rfl | exact getAllT rfl (getAllC rfl rfl rfl rfl) | exact getAllC rfl rfl rfl (getAllC rfl rfl rfl rfl) | exact getAllC1 rfl rfl rfl), ?_⟩
   exact ⟨rfl, Ext0.ext⟩
 ·skip
  try simp only [↓nrmL, nrmZ, Nat.reduceEqDiff, ↓reduceIte, Nat.reduceAdd, Int.reduceBEq, Int.reduceBNe, h1]
  refine sq ?_
  refine rg fun KF hKF => ?_
  refine Fo.boxA rfl ?_
  refine mI rfl ?_
  refine mI rfl ?_
  refine WpO.nil (hKF _ _ ?_)
  refine sq ?_
  refine rg fun KF hKF => ?_
  refine mI rfl ?_
  refine Fo.pcall (v' := ?_) hn rfl (by simp only [↓nrmL, nrmZ, Nat.reduceEqDiff, ↓reduceIte, Nat.reduceAdd, Int.reduceBEq, Int.reduceBNe, h1, List.map]; rfl) rfl ?hv fun _ _ => ?_; case hv => rfl
  refine mT rfl ?_
  refine Fo.extr rfl rfl ?_
  refine Fo.extr rfl rfl ?_
  refine mI rfl ?_
  refine mI rfl ?_
  refine WpO.nil (hKF _ _ ?_)
  refine sq ?_
  refine sq ?_
  refine rg fun KF hKF => ?_
  refine mI rfl ?_
  refine Fo.bin rfl rfl rfl (by simp only [↓nrmL, nrmZ, Nat.reduceEqDiff, ↓reduceIte, Nat.reduceAdd, Int.reduceBEq, Int.reduceBNe, h1]; rfl) ?_
  refine WpO.nil (hKF _ _ ?_)
  refine Wp.cond (b := true) rfl ?_
  refine sq ?_
  refine rg fun KF hKF => ?_
  refine mI rfl ?_
  refine mI rfl ?_
  refine mI rfl ?_
  refine WpO.nil (hKF _ _ ?_)
  refine Wp.ret ?_
  dsimp only [cond_true, cond_false]
  refine ⟨trivial, _, (by first | rfl | exact getAllC rfl rfl rfl rfl | exact getAllT rfl (getAllC rfl rfl rfl rfl) | exact getAllC rfl rfl rfl (getAllC rfl rfl rfl rfl) | exact getAllC1 rfl rfl rfl), ?_⟩
  exact ⟨rfl, Ext0.ext⟩⟩
instance K_refStaff {c s a : Int} {H : AHeap} : PureCon ext prog 60 [.int .i64 c, .agg [.int .i64 s, .int .i64 a]] H 2 (.tuple [.int .i64 (staffS c s a).1, .int .i64 (staffS c s a).2]) := ⟨by
 refine con_of (show prog 60 = some c60 from rfl) rfl rfl fun m hn => ?_
 unfold staffS
 cases h1 : ((baseS c).2 != 0)
 ·cases h2 : pitchB s a
  ·skip
   try simp only [↓nrmL, nrmZ, Nat.reduceEqDiff, ↓reduceIte, Nat.reduceAdd, Int.reduceBEq, Int.reduceBNe, h1, h2]
   refine sq ?_
   refine rg fun KF hKF => ?_
   refine Fo.boxA rfl ?_
   refine mI rfl ?_
   refine mI rfl ?_
   refine WpO.nil (hKF _ _ ?_)
   refine sq ?_
   refine rg fun KF hKF => ?_
   refine mI rfl ?_
   refine Fo.pcall (v' := ?_) hn rfl (by simp only [↓nrmL, nrmZ, Nat.reduceEqDiff, ↓reduceIte, Nat.reduceAdd, Int.reduceBEq, Int.reduceBNe, h1, h2, List.map]; rfl) rfl ?hv fun _ _ => ?_; case hv => rfl
   refine mT rfl ?_
   refine Fo.extr rfl rfl ?_
   refine Fo.extr rfl rfl ?_
   refine mI rfl ?_
   refine mI rfl ?_
   refine WpO.nil (hKF _ _ ?_)
   refine sq ?_
   refine sq ?_
   refine rg fun KF hKF => ?_
   refine mI rfl ?_
   refine Fo.bin rfl rfl rfl (by simp only [↓nrmL, nrmZ, Nat.reduceEqDiff, ↓reduceIte, Nat.reduceAdd, Int.reduceBEq, Int.reduceBNe, h1, h2]; rfl) ?_
   refine WpO.nil (hKF _ _ ?_)
   refine Wp.cond (b := false) rfl ?_
   refine Wp.skip ?_
   refine sq ?_
   refine sq ?_
   refine rg fun KF hKF => ?_
   refine Fo.ldN rfl rfl (by simp only [↓nrmL, nrmZ, Nat.reduceEqDiff, ↓reduceIte, Nat.reduceAdd, Int.reduceBEq, Int.reduceBNe, h1, h2]; rfl) ?_
   refine Fo.pcall (v' := ?_) hn rfl (by simp only [↓nrmL, nrmZ, Nat.reduceEqDiff, ↓reduceIte, Nat.reduceAdd, Int.reduceBEq, Int.reduceBNe, h1, h2, List.map]; rfl) rfl ?hv fun _ _ => ?_; case hv => (simp only [↓nrmL, nrmZ, Nat.reduceEqDiff, ↓reduceIte, Nat.reduceAdd, Int.reduceBEq, Int.reduceBNe, h1, h2]; rfl)
   refine Fo.now rfl rfl (by simp only [↓nrmL, nrmZ, Nat.reduceEqDiff, ↓reduceIte, Nat.reduceAdd, Int.reduceBEq, Int.reduceBNe, h1, h2]; rfl) ?_
   refine WpO.nil (hKF _ _ ?_)
   refine Wp.cond (b := true) rfl ?_
   refine sq ?_
   refine rg fun KF hKF => ?_
   refine mI rfl ?_
   refine mI rfl ?_
   refine WpO.nil (hKF _ _ ?_)
   refine Wp.ret ?_
   dsimp only [cond_true, cond_false]
   refine ⟨trivial, _, (by first | rfl | exact getAllC rfl rfl rfl rfl | exact getAllT rfl (getAllC rfl rfl rfl rfl) | exact getAllC rfl rfl rfl (getAllC rfl rfl rfl rfl) | exact getAllC1 rfl rfl rfl), ?_⟩
   exact ⟨rfl, Ext0.ext⟩
  ·skip
   try simp only [↓nrmL, nrmZ, Nat.reduceEqDiff, ↓reduceIte, Nat.reduceAdd, Int.reduceBEq, Int.reduceBNe, h1, h2]
   refine sq ?_
   refine rg fun KF hKF => ?_
   refine Fo.boxA rfl ?_
   refine mI rfl ?_
   refine mI rfl ?_
   refine WpO.nil (hKF _ _ ?_)
   refine sq ?_
   refine rg fun KF hKF => ?_
   refine mI rfl ?_
   refine Fo.pcall (v' := ?_) hn rfl (by simp only [↓nrmL, nrmZ, Nat.reduceEqDiff, ↓reduceIte, Nat.reduceAdd, Int.reduceBEq, Int.reduceBNe, h1, h2, List.map]; rfl) rfl ?hv fun _ _ => ?_; case hv => rfl
   refine mT rfl ?_
   refine Fo.extr rfl rfl ?_
   refine Fo.extr rfl rfl ?_
   refine mI rfl ?_
   refine mI rfl ?_
   refine WpO.nil (hKF _ _ ?_)
   refine sq ?_
   refine sq ?_
   refine rg fun KF hKF => ?_
   refine mI rfl ?_
   refine Fo.bin rfl rfl rfl (by simp only [↓nrmL, nrmZ, Nat.reduceEqDiff, ↓reduceIte, Nat.reduceAdd, Int.reduceBEq, Int.reduceBNe, h1, h2]; rfl) ?_
   refine WpO.nil (hKF _ _ ?_)
   refine Wp.cond (b := false) rfl ?_
   refine Wp.skip ?_
   refine sq ?_
   refine sq ?_
   refine rg fun KF hKF => ?_
   refine Fo.ldN rfl rfl (by simp only [↓nrmL, nrmZ, Nat.reduceEqDiff, ↓reduceIte, Nat.reduceAdd, Int.reduceBEq, Int.reduceBNe, h1, h2]; rfl) ?_
   refine Fo.pcall (v' := ?_) hn rfl (by simp only [↓nrmL, nrmZ, Nat.reduceEqDiff, ↓reduceIte, Nat.reduceAdd, Int.reduceBEq, Int.reduceBNe, h1, h2, List.map]; rfl) rfl ?hv fun _ _ => ?_; case hv => (simp only [↓nrmL, nrmZ, Nat.reduceEqDiff, ↓reduceIte, Nat.reduceAdd, Int.reduceBEq, Int.reduceBNe, h1, h2]; rfl)
   refine Fo.now rfl rfl (by simp only [↓nrmL, nrmZ, Nat.reduceEqDiff, ↓reduceIte, Nat.reduceAdd, Int.reduceBEq, Int.reduceBNe, h1, h2]; rfl) ?_
   refine WpO.nil (hKF _ _ ?_)
   refine Wp.cond (b := false) rfl ?_
   refine Wp.skip ?_
   refine sq ?_
   refine rg fun KF hKF => ?_
   refine Fo.fa rfl ?_
   refine Fo.ld rfl rfl ?_
   refine mI rfl ?_
   refine Fo.bin rfl rfl rfl rfl ?_
   refine mI rfl ?_
   refine mI rfl ?_
   refine WpO.nil (hKF _ _ ?_)
   refine Wp.ret ?_
   dsimp only [cond_true, cond_false]
   refine ⟨trivial, _, (by first | rfl | exact getAllC rfl rfl rfl rfl | exact getAllT rfl (getAllC rfl rfl rfl rfl) | exact getAllC rfl rfl rfl (getAllC rfl rfl rfl rfl) | exact getAllC1 rfl rfl rfl), ?_⟩
   exact ⟨rfl, Ext0.ext⟩
 ·skip
  try simp only [↓nrmL, nrmZ, Nat.reduceEqDiff, ↓reduceIte, Nat.reduceAdd, Int.reduceBEq, Int.reduceBNe, h1]
  refine sq ?_
  refine rg fun KF hKF => ?_
  refine Fo.boxA rfl ?_
  refine mI rfl ?_
  refine mI rfl ?_
  refine WpO.nil (hKF _ _ ?_)
  refine sq ?_
  refine rg fun KF hKF => ?_
  refine mI rfl ?_
  refine Fo.pcall (v' := ?_) hn rfl (by simp only [↓nrmL, nrmZ, Nat.reduceEqDiff, ↓reduceIte, Nat.reduceAdd, Int.reduceBEq, Int.reduceBNe, h1, List.map]; rfl) rfl ?hv fun _ _ => ?_; case hv => rfl
  refine mT rfl ?_
  refine Fo.extr rfl rfl ?_
  refine Fo.extr rfl rfl ?_
  refine mI rfl ?_
  refine mI rfl ?_
  refine WpO.nil (hKF _ _ ?_)
  refine sq ?_
  refine sq ?_
  refine rg fun KF hKF => ?_
  refine mI rfl ?_
  refine Fo.bin rfl rfl rfl (by simp only [↓nrmL, nrmZ, Nat.reduceEqDiff, ↓reduceIte, Nat.reduceAdd, Int.reduceBEq, Int.reduceBNe, h1]; rfl) ?_
  refine WpO.nil (hKF _ _ ?_)
  refine Wp.cond (b := true) rfl ?_
  refine sq ?_
  refine rg fun KF hKF => ?_
  refine mI rfl ?_
  refine mI rfl ?_
  refine mI rfl ?_
  refine WpO.nil (hKF _ _ ?_)
  refine Wp.ret ?_
  dsimp only [cond_true, cond_false]
  refine ⟨trivial, _, (by first | rfl | exact getAllC rfl rfl rfl rfl | exact getAllT rfl (getAllC rfl rfl rfl rfl) | exact getAllC rfl rfl rfl (getAllC rfl rfl rfl rfl) | exact getAllC1 rfl rfl rfl), ?_⟩
  exact ⟨rfl, Ext0.ext⟩⟩
def meantI (a : Int) : Int := bif a == 1 then 1 else bif a == 2 then -1 else 0
instance K_meant {a : Int} {H : AHeap} : PureCon ext prog 96 [.int .i64 a] H 1 (.int .i64 (meantI a)) := ⟨by
 refine con_of (show prog 96 = some c96 from rfl) rfl rfl fun m hn => ?_
 unfold meantI
 cases h1 : (a == 1)
 ·cases h2 : (a == 2)
  ·skip
   try simp only [↓nrmL, nrmZ, Nat.reduceEqDiff, ↓reduceIte, Nat.reduceAdd, Int.reduceBEq, Int.reduceBNe, h1, h2]
   refine sq ?_
   refine rg fun KF hKF => ?_
   refine mI rfl ?_
   refine WpO.nil (hKF _ _ ?_)
   refine sq ?_
   refine sq ?_
   refine rg fun KF hKF => ?_
   refine mI rfl ?_
   refine WpO.nil (hKF _ _ ?_)
   refine Wp.block ?_
   refine sq ?_
   refine rg fun KF hKF => ?_
   refine Fo.bin rfl rfl rfl (by simp only [↓nrmL, nrmZ, Nat.reduceEqDiff, ↓reduceIte, Nat.reduceAdd, Int.reduceBEq, Int.reduceBNe, h1, h2]; rfl) ?_
   refine mB rfl ?_
   refine WpO.nil (hKF _ _ ?_)
   refine Wp.cond (b := false) rfl ?_
   refine sq ?_
   refine rg fun KF hKF => ?_
   refine Fo.bin rfl rfl rfl (by simp only [↓nrmL, nrmZ, Nat.reduceEqDiff, ↓reduceIte, Nat.reduceAdd, Int.reduceBEq, Int.reduceBNe, h1, h2]; rfl) ?_
   refine mB rfl ?_
   refine WpO.nil (hKF _ _ ?_)
   refine Wp.cond (b := false) rfl ?_
   refine Wp.skip ?_
   refine sq ?_
   refine rg fun KF hKF => ?_
   refine mI rfl ?_
   refine WpO.nil (hKF _ _ ?_)
   refine Wp.ret ?_
   dsimp only [cond_true, cond_false]
   refine ⟨trivial, _, (by first | rfl | exact getAllC rfl rfl rfl rfl | exact getAllT rfl (getAllC rfl rfl rfl rfl) | exact getAllC rfl rfl rfl (getAllC rfl rfl rfl rfl) | exact getAllC1 rfl rfl rfl), ?_⟩
   exact ⟨rfl, Ext0.ext⟩
  ·skip
   try simp only [↓nrmL, nrmZ, Nat.reduceEqDiff, ↓reduceIte, Nat.reduceAdd, Int.reduceBEq, Int.reduceBNe, h1, h2]
   refine sq ?_
   refine rg fun KF hKF => ?_
   refine mI rfl ?_
   refine WpO.nil (hKF _ _ ?_)
   refine sq ?_
   refine sq ?_
   refine rg fun KF hKF => ?_
   refine mI rfl ?_
   refine WpO.nil (hKF _ _ ?_)
   refine Wp.block ?_
   refine sq ?_
   refine rg fun KF hKF => ?_
   refine Fo.bin rfl rfl rfl (by simp only [↓nrmL, nrmZ, Nat.reduceEqDiff, ↓reduceIte, Nat.reduceAdd, Int.reduceBEq, Int.reduceBNe, h1, h2]; rfl) ?_
   refine mB rfl ?_
   refine WpO.nil (hKF _ _ ?_)
   refine Wp.cond (b := false) rfl ?_
   refine sq ?_
   refine rg fun KF hKF => ?_
   refine Fo.bin rfl rfl rfl (by simp only [↓nrmL, nrmZ, Nat.reduceEqDiff, ↓reduceIte, Nat.reduceAdd, Int.reduceBEq, Int.reduceBNe, h1, h2]; rfl) ?_
   refine mB rfl ?_
   refine WpO.nil (hKF _ _ ?_)
   refine Wp.cond (b := true) rfl ?_
   refine sq ?_
   refine rg fun KF hKF => ?_
   refine mI rfl ?_
   refine WpO.nil (hKF _ _ ?_)
   refine Wp.ret ?_
   dsimp only [cond_true, cond_false]
   refine ⟨trivial, _, (by first | rfl | exact getAllC rfl rfl rfl rfl | exact getAllT rfl (getAllC rfl rfl rfl rfl) | exact getAllC rfl rfl rfl (getAllC rfl rfl rfl rfl) | exact getAllC1 rfl rfl rfl), ?_⟩
   exact ⟨rfl, Ext0.ext⟩
 ·skip
  try simp only [↓nrmL, nrmZ, Nat.reduceEqDiff, ↓reduceIte, Nat.reduceAdd, Int.reduceBEq, Int.reduceBNe, h1]
  refine sq ?_
  refine rg fun KF hKF => ?_
  refine mI rfl ?_
  refine WpO.nil (hKF _ _ ?_)
  refine sq ?_
  refine sq ?_
  refine rg fun KF hKF => ?_
  refine mI rfl ?_
  refine WpO.nil (hKF _ _ ?_)
  refine Wp.block ?_
  refine sq ?_
  refine rg fun KF hKF => ?_
  refine Fo.bin rfl rfl rfl (by simp only [↓nrmL, nrmZ, Nat.reduceEqDiff, ↓reduceIte, Nat.reduceAdd, Int.reduceBEq, Int.reduceBNe, h1]; rfl) ?_
  refine mB rfl ?_
  refine WpO.nil (hKF _ _ ?_)
  refine Wp.cond (b := true) rfl ?_
  refine sq ?_
  refine rg fun KF hKF => ?_
  refine mI rfl ?_
  refine WpO.nil (hKF _ _ ?_)
  refine Wp.ret ?_
  dsimp only [cond_true, cond_false]
  refine ⟨trivial, _, (by first | rfl | exact getAllC rfl rfl rfl rfl | exact getAllT rfl (getAllC rfl rfl rfl rfl) | exact getAllC rfl rfl rfl (getAllC rfl rfl rfl rfl) | exact getAllC1 rfl rfl rfl), ?_⟩
  exact ⟨rfl, Ext0.ext⟩⟩
instance K_says {a : Int} {H : AHeap} : PureCon ext prog 110 [.int .i64 a] H 1 (.int .i64 (meantI a)) := ⟨by
 refine con_of (show prog 110 = some c110 from rfl) rfl rfl fun m hn => ?_
 unfold meantI
 cases h1 : (a == 1)
 ·cases h2 : (a == 2)
  ·skip
   try simp only [↓nrmL, nrmZ, Nat.reduceEqDiff, ↓reduceIte, Nat.reduceAdd, Int.reduceBEq, Int.reduceBNe, h1, h2]
   refine sq ?_
   refine rg fun KF hKF => ?_
   refine mI rfl ?_
   refine WpO.nil (hKF _ _ ?_)
   refine sq ?_
   refine sq ?_
   refine rg fun KF hKF => ?_
   refine mI rfl ?_
   refine Fo.bin rfl rfl rfl (by simp only [↓nrmL, nrmZ, Nat.reduceEqDiff, ↓reduceIte, Nat.reduceAdd, Int.reduceBEq, Int.reduceBNe, h1, h2]; rfl) ?_
   refine WpO.nil (hKF _ _ ?_)
   refine Wp.cond (b := false) rfl ?_
   refine Wp.skip ?_
   refine sq ?_
   refine sq ?_
   refine rg fun KF hKF => ?_
   refine mI rfl ?_
   refine Fo.bin rfl rfl rfl (by simp only [↓nrmL, nrmZ, Nat.reduceEqDiff, ↓reduceIte, Nat.reduceAdd, Int.reduceBEq, Int.reduceBNe, h1, h2]; rfl) ?_
   refine WpO.nil (hKF _ _ ?_)
   refine Wp.cond (b := false) rfl ?_
   refine Wp.skip ?_
   refine sq ?_
   refine rg fun KF hKF => ?_
   refine mI rfl ?_
   refine WpO.nil (hKF _ _ ?_)
   refine Wp.ret ?_
   dsimp only [cond_true, cond_false]
   refine ⟨trivial, _, (by first | rfl | exact getAllC rfl rfl rfl rfl | exact getAllT rfl (getAllC rfl rfl rfl rfl) | exact getAllC rfl rfl rfl (getAllC rfl rfl rfl rfl) | exact getAllC1 rfl rfl rfl), ?_⟩
   exact ⟨rfl, Ext0.ext⟩
  ·skip
   try simp only [↓nrmL, nrmZ, Nat.reduceEqDiff, ↓reduceIte, Nat.reduceAdd, Int.reduceBEq, Int.reduceBNe, h1, h2]
   refine sq ?_
   refine rg fun KF hKF => ?_
   refine mI rfl ?_
   refine WpO.nil (hKF _ _ ?_)
   refine sq ?_
   refine sq ?_
   refine rg fun KF hKF => ?_
   refine mI rfl ?_
   refine Fo.bin rfl rfl rfl (by simp only [↓nrmL, nrmZ, Nat.reduceEqDiff, ↓reduceIte, Nat.reduceAdd, Int.reduceBEq, Int.reduceBNe, h1, h2]; rfl) ?_
   refine WpO.nil (hKF _ _ ?_)
   refine Wp.cond (b := false) rfl ?_
   refine Wp.skip ?_
   refine sq ?_
   refine sq ?_
   refine rg fun KF hKF => ?_
   refine mI rfl ?_
   refine Fo.bin rfl rfl rfl (by simp only [↓nrmL, nrmZ, Nat.reduceEqDiff, ↓reduceIte, Nat.reduceAdd, Int.reduceBEq, Int.reduceBNe, h1, h2]; rfl) ?_
   refine WpO.nil (hKF _ _ ?_)
   refine Wp.cond (b := true) rfl ?_
   refine sq ?_
   refine rg fun KF hKF => ?_
   refine mI rfl ?_
   refine WpO.nil (hKF _ _ ?_)
   refine Wp.ret ?_
   dsimp only [cond_true, cond_false]
   refine ⟨trivial, _, (by first | rfl | exact getAllC rfl rfl rfl rfl | exact getAllT rfl (getAllC rfl rfl rfl rfl) | exact getAllC rfl rfl rfl (getAllC rfl rfl rfl rfl) | exact getAllC1 rfl rfl rfl), ?_⟩
   exact ⟨rfl, Ext0.ext⟩
 ·skip
  try simp only [↓nrmL, nrmZ, Nat.reduceEqDiff, ↓reduceIte, Nat.reduceAdd, Int.reduceBEq, Int.reduceBNe, h1]
  refine sq ?_
  refine rg fun KF hKF => ?_
  refine mI rfl ?_
  refine WpO.nil (hKF _ _ ?_)
  refine sq ?_
  refine sq ?_
  refine rg fun KF hKF => ?_
  refine mI rfl ?_
  refine Fo.bin rfl rfl rfl (by simp only [↓nrmL, nrmZ, Nat.reduceEqDiff, ↓reduceIte, Nat.reduceAdd, Int.reduceBEq, Int.reduceBNe, h1]; rfl) ?_
  refine WpO.nil (hKF _ _ ?_)
  refine Wp.cond (b := true) rfl ?_
  refine sq ?_
  refine rg fun KF hKF => ?_
  refine mI rfl ?_
  refine WpO.nil (hKF _ _ ?_)
  refine Wp.ret ?_
  dsimp only [cond_true, cond_false]
  refine ⟨trivial, _, (by first | rfl | exact getAllC rfl rfl rfl rfl | exact getAllT rfl (getAllC rfl rfl rfl rfl) | exact getAllC rfl rfl rfl (getAllC rfl rfl rfl rfl) | exact getAllC1 rfl rfl rfl), ?_⟩
  exact ⟨rfl, Ext0.ext⟩⟩
def soundS (c k s a : Int) : Int × Int × Int :=
 bif (baseS c).2 != 0 then (0, 0, (baseS c).2) else bif keyB k then (bif withinB s (w6 (0 - (baseS c).1)) (w6 (69 - (baseS c).1)) then (bif withinB a 0 3 then (w6 ((baseS c).1 + s), bif a == 0 then alterS k (w6 ((baseS c).1 + s)) else meantI a, 0) else (0, 0, 66)) else (0, 0, 34)) else (0, 0, 31)
theorem base_ok {c : Int} (h : ((baseS c).2 != 0) = false) : (baseS c).1 = 30 ∨ (baseS c).1 = 24 ∨ (baseS c).1 = 18 := by
 revert h
 unfold baseS
 cases (c == 1) <;> cases (c == 2) <;> cases (c == 3) <;> simp
instance K_Sounding {c k s a : Int} {H : AHeap} : PureCon ext prog 51 [.int .i64 c, .int .i64 k, .int .i64 s, .int .i64 a] H 4 (rT (soundS c k s a)) := ⟨by
 refine con_of (show prog 51 = some c51 from rfl) rfl rfl fun m hn => ?_
 cases h1 : ((baseS c).2 != 0)
 case true =>
  have e : soundS c k s a = (0, 0, (baseS c).2) := by unfold soundS; rw [h1]; rfl
  try simp only [↓nrmL, nrmZ, Nat.reduceEqDiff, ↓reduceIte, Nat.reduceAdd, Int.reduceBEq, Int.reduceBNe, h1]
  refine sq ?_
  refine rg fun KF hKF => ?_
  refine Fo.new ?_
  refine mI rfl ?_
  refine WpO.nil (hKF _ _ ?_)
  refine sq ?_
  refine rg fun KF hKF => ?_
  refine mI rfl ?_
  refine Fo.pcall (v' := ?_) hn rfl (by simp only [↓nrmL, nrmZ, Nat.reduceEqDiff, ↓reduceIte, Nat.reduceAdd, Int.reduceBEq, Int.reduceBNe, h1, List.map]; rfl) rfl ?hv fun _ _ => ?_; case hv => rfl
  refine mT rfl ?_
  refine Fo.extr rfl rfl ?_
  refine Fo.extr rfl rfl ?_
  refine mI rfl ?_
  refine mI rfl ?_
  refine WpO.nil (hKF _ _ ?_)
  refine sq ?_
  refine sq ?_
  refine rg fun KF hKF => ?_
  refine mI rfl ?_
  refine Fo.bin rfl rfl rfl (by simp only [↓nrmL, nrmZ, Nat.reduceEqDiff, ↓reduceIte, Nat.reduceAdd, Int.reduceBEq, Int.reduceBNe, h1]; rfl) ?_
  refine WpO.nil (hKF _ _ ?_)
  refine Wp.cond (b := true) rfl ?_
  refine sq ?_
  refine rg fun KF hKF => ?_
  refine Fo.build (by repeat (first | refine aFill1 (by first | exact (rfl : _ = AVal.int _ _) | exact (rfl : _ = AVal.ptr _ _) | exact (rfl : _ = AVal.bool _) | exact (rfl : _ = AVal.agg _) | exact (rfl : _ = AVal.tuple _) | exact (rfl : _ = AVal.func _ _ _) | exact (rfl : _ = AVal.nslice) | ((try simp only [↓nrmL, nrmK, Nat.reduceEqDiff, ↓reduceIte]); rfl)) rfl ?_ | rfl)) rfl ?_
  refine mI rfl ?_
  refine Fo.st rfl (rfl : _ = AVal.agg _) rfl rfl rfl (by repeat (first | rfl | refine allOne_cons ?_)) (by simp only [↓nrmL, nrmZ, Nat.reduceEqDiff, ↓reduceIte, Nat.reduceAdd, Int.reduceBEq, Int.reduceBNe, h1]; rfl) ?_
  refine mI rfl ?_
  refine WpO.nil (hKF _ _ ?_)
  refine Wp.ret ?_
  dsimp only [cond_true, cond_false]
  refine ⟨trivial, _, (by first | rfl | exact getAllC rfl rfl rfl rfl | exact getAllT rfl (getAllC rfl rfl rfl rfl) | exact getAllC rfl rfl rfl (getAllC rfl rfl rfl rfl) | exact getAllC1 rfl rfl rfl), ?_⟩
  exact ⟨by rw [e]; rfl, Ext0.ext⟩
 cases h2 : keyB k
 ·have e : soundS c k s a = (0, 0, 31) := by unfold soundS; rw [h1, h2]; rfl
  try simp only [↓nrmL, nrmZ, Nat.reduceEqDiff, ↓reduceIte, Nat.reduceAdd, Int.reduceBEq, Int.reduceBNe, h1, h2]
  refine sq ?_
  refine rg fun KF hKF => ?_
  refine Fo.new ?_
  refine mI rfl ?_
  refine WpO.nil (hKF _ _ ?_)
  refine sq ?_
  refine rg fun KF hKF => ?_
  refine mI rfl ?_
  refine Fo.pcall (v' := ?_) hn rfl (by simp only [↓nrmL, nrmZ, Nat.reduceEqDiff, ↓reduceIte, Nat.reduceAdd, Int.reduceBEq, Int.reduceBNe, h1, h2, List.map]; rfl) rfl ?hv fun _ _ => ?_; case hv => rfl
  refine mT rfl ?_
  refine Fo.extr rfl rfl ?_
  refine Fo.extr rfl rfl ?_
  refine mI rfl ?_
  refine mI rfl ?_
  refine WpO.nil (hKF _ _ ?_)
  refine sq ?_
  refine sq ?_
  refine rg fun KF hKF => ?_
  refine mI rfl ?_
  refine Fo.bin rfl rfl rfl (by simp only [↓nrmL, nrmZ, Nat.reduceEqDiff, ↓reduceIte, Nat.reduceAdd, Int.reduceBEq, Int.reduceBNe, h1, h2]; rfl) ?_
  refine WpO.nil (hKF _ _ ?_)
  refine Wp.cond (b := false) rfl ?_
  refine Wp.skip ?_
  refine sq ?_
  refine sq ?_
  refine rg fun KF hKF => ?_
  refine mI rfl ?_
  refine Fo.pcall (v' := ?_) hn rfl (by simp only [↓nrmL, nrmZ, Nat.reduceEqDiff, ↓reduceIte, Nat.reduceAdd, Int.reduceBEq, Int.reduceBNe, h1, h2, List.map]; rfl) rfl ?hv fun _ _ => ?_; case hv => (simp only [↓nrmL, nrmZ, Nat.reduceEqDiff, ↓reduceIte, Nat.reduceAdd, Int.reduceBEq, Int.reduceBNe, h1, h2]; rfl)
  refine Fo.now rfl rfl (by simp only [↓nrmL, nrmZ, Nat.reduceEqDiff, ↓reduceIte, Nat.reduceAdd, Int.reduceBEq, Int.reduceBNe, h1, h2]; rfl) ?_
  refine WpO.nil (hKF _ _ ?_)
  refine Wp.cond (b := true) rfl ?_
  refine sq ?_
  refine rg fun KF hKF => ?_
  refine Fo.build (by repeat (first | refine aFill1 (by first | exact (rfl : _ = AVal.int _ _) | exact (rfl : _ = AVal.ptr _ _) | exact (rfl : _ = AVal.bool _) | exact (rfl : _ = AVal.agg _) | exact (rfl : _ = AVal.tuple _) | exact (rfl : _ = AVal.func _ _ _) | exact (rfl : _ = AVal.nslice) | ((try simp only [↓nrmL, nrmK, Nat.reduceEqDiff, ↓reduceIte]); rfl)) rfl ?_ | rfl)) rfl ?_
  refine Fo.st rfl (rfl : _ = AVal.agg _) rfl rfl rfl (by repeat (first | rfl | refine allOne_cons ?_)) (by simp only [↓nrmL, nrmZ, Nat.reduceEqDiff, ↓reduceIte, Nat.reduceAdd, Int.reduceBEq, Int.reduceBNe, h1, h2]; rfl) ?_
  refine mI rfl ?_
  refine WpO.nil (hKF _ _ ?_)
  refine Wp.ret ?_
  dsimp only [cond_true, cond_false]
  refine ⟨trivial, _, (by first | rfl | exact getAllC rfl rfl rfl rfl | exact getAllT rfl (getAllC rfl rfl rfl rfl) | exact getAllC rfl rfl rfl (getAllC rfl rfl rfl rfl) | exact getAllC1 rfl rfl rfl), ?_⟩
  exact ⟨by rw [e]; rfl, Ext0.ext⟩
 haveI := keyI_of h2
 cases h3 : withinB s (w6 (0 - (baseS c).1)) (w6 (69 - (baseS c).1))
 ·have e : soundS c k s a = (0, 0, 34) := by unfold soundS; rw [h1, h2, h3]; rfl
  try simp only [↓nrmL, nrmZ, Nat.reduceEqDiff, ↓reduceIte, Nat.reduceAdd, Int.reduceBEq, Int.reduceBNe, h1, h2, h3]
  refine sq ?_
  refine rg fun KF hKF => ?_
  refine Fo.new ?_
  refine mI rfl ?_
  refine WpO.nil (hKF _ _ ?_)
  refine sq ?_
  refine rg fun KF hKF => ?_
  refine mI rfl ?_
  refine Fo.pcall (v' := ?_) hn rfl (by simp only [↓nrmL, nrmZ, Nat.reduceEqDiff, ↓reduceIte, Nat.reduceAdd, Int.reduceBEq, Int.reduceBNe, h1, h2, h3, List.map]; rfl) rfl ?hv fun _ _ => ?_; case hv => rfl
  refine mT rfl ?_
  refine Fo.extr rfl rfl ?_
  refine Fo.extr rfl rfl ?_
  refine mI rfl ?_
  refine mI rfl ?_
  refine WpO.nil (hKF _ _ ?_)
  refine sq ?_
  refine sq ?_
  refine rg fun KF hKF => ?_
  refine mI rfl ?_
  refine Fo.bin rfl rfl rfl (by simp only [↓nrmL, nrmZ, Nat.reduceEqDiff, ↓reduceIte, Nat.reduceAdd, Int.reduceBEq, Int.reduceBNe, h1, h2, h3]; rfl) ?_
  refine WpO.nil (hKF _ _ ?_)
  refine Wp.cond (b := false) rfl ?_
  refine Wp.skip ?_
  refine sq ?_
  refine sq ?_
  refine rg fun KF hKF => ?_
  refine mI rfl ?_
  refine Fo.pcall (v' := ?_) hn rfl (by simp only [↓nrmL, nrmZ, Nat.reduceEqDiff, ↓reduceIte, Nat.reduceAdd, Int.reduceBEq, Int.reduceBNe, h1, h2, h3, List.map]; rfl) rfl ?hv fun _ _ => ?_; case hv => (simp only [↓nrmL, nrmZ, Nat.reduceEqDiff, ↓reduceIte, Nat.reduceAdd, Int.reduceBEq, Int.reduceBNe, h1, h2, h3]; rfl)
  refine Fo.now rfl rfl (by simp only [↓nrmL, nrmZ, Nat.reduceEqDiff, ↓reduceIte, Nat.reduceAdd, Int.reduceBEq, Int.reduceBNe, h1, h2, h3]; rfl) ?_
  refine WpO.nil (hKF _ _ ?_)
  refine Wp.cond (b := false) rfl ?_
  refine Wp.skip ?_
  refine sq ?_
  refine sq ?_
  refine rg fun KF hKF => ?_
  refine mI rfl ?_
  refine mI rfl ?_
  refine Fo.now rfl rfl rfl ?_
  refine mI rfl ?_
  refine Fo.bin rfl rfl rfl rfl ?_
  refine Fo.pcall (v' := ?_) hn rfl (by simp only [↓nrmL, nrmZ, Nat.reduceEqDiff, ↓reduceIte, Nat.reduceAdd, Int.reduceBEq, Int.reduceBNe, h1, h2, h3, List.map]; rfl) rfl ?hv fun _ _ => ?_; case hv => (simp only [↓nrmL, nrmZ, Nat.reduceEqDiff, ↓reduceIte, Nat.reduceAdd, Int.reduceBEq, Int.reduceBNe, h1, h2, h3]; rfl)
  refine Fo.now rfl rfl (by simp only [↓nrmL, nrmZ, Nat.reduceEqDiff, ↓reduceIte, Nat.reduceAdd, Int.reduceBEq, Int.reduceBNe, h1, h2, h3]; rfl) ?_
  refine WpO.nil (hKF _ _ ?_)
  refine Wp.cond (b := true) rfl ?_
  refine sq ?_
  refine rg fun KF hKF => ?_
  refine Fo.build (by repeat (first | refine aFill1 (by first | exact (rfl : _ = AVal.int _ _) | exact (rfl : _ = AVal.ptr _ _) | exact (rfl : _ = AVal.bool _) | exact (rfl : _ = AVal.agg _) | exact (rfl : _ = AVal.tuple _) | exact (rfl : _ = AVal.func _ _ _) | exact (rfl : _ = AVal.nslice) | ((try simp only [↓nrmL, nrmK, Nat.reduceEqDiff, ↓reduceIte]); rfl)) rfl ?_ | rfl)) rfl ?_
  refine Fo.st rfl (rfl : _ = AVal.agg _) rfl rfl rfl (by repeat (first | rfl | refine allOne_cons ?_)) (by simp only [↓nrmL, nrmZ, Nat.reduceEqDiff, ↓reduceIte, Nat.reduceAdd, Int.reduceBEq, Int.reduceBNe, h1, h2, h3]; rfl) ?_
  refine mI rfl ?_
  refine WpO.nil (hKF _ _ ?_)
  refine Wp.ret ?_
  dsimp only [cond_true, cond_false]
  refine ⟨trivial, _, (by first | rfl | exact getAllC rfl rfl rfl rfl | exact getAllT rfl (getAllC rfl rfl rfl rfl) | exact getAllC rfl rfl rfl (getAllC rfl rfl rfl rfl) | exact getAllC1 rfl rfl rfl), ?_⟩
  exact ⟨by rw [e]; rfl, Ext0.ext⟩
 cases h4 : withinB a 0 3
 ·have e : soundS c k s a = (0, 0, 66) := by unfold soundS; rw [h1, h2, h3, h4]; rfl
  try simp only [↓nrmL, nrmZ, Nat.reduceEqDiff, ↓reduceIte, Nat.reduceAdd, Int.reduceBEq, Int.reduceBNe, h1, h2, h3, h4]
  refine sq ?_
  refine rg fun KF hKF => ?_
  refine Fo.new ?_
  refine mI rfl ?_
  refine WpO.nil (hKF _ _ ?_)
  refine sq ?_
  refine rg fun KF hKF => ?_
  refine mI rfl ?_
  refine Fo.pcall (v' := ?_) hn rfl (by simp only [↓nrmL, nrmZ, Nat.reduceEqDiff, ↓reduceIte, Nat.reduceAdd, Int.reduceBEq, Int.reduceBNe, h1, h2, h3, h4, List.map]; rfl) rfl ?hv fun _ _ => ?_; case hv => rfl
  refine mT rfl ?_
  refine Fo.extr rfl rfl ?_
  refine Fo.extr rfl rfl ?_
  refine mI rfl ?_
  refine mI rfl ?_
  refine WpO.nil (hKF _ _ ?_)
  refine sq ?_
  refine sq ?_
  refine rg fun KF hKF => ?_
  refine mI rfl ?_
  refine Fo.bin rfl rfl rfl (by simp only [↓nrmL, nrmZ, Nat.reduceEqDiff, ↓reduceIte, Nat.reduceAdd, Int.reduceBEq, Int.reduceBNe, h1, h2, h3, h4]; rfl) ?_
  refine WpO.nil (hKF _ _ ?_)
  refine Wp.cond (b := false) rfl ?_
  refine Wp.skip ?_
  refine sq ?_
  refine sq ?_
  refine rg fun KF hKF => ?_
  refine mI rfl ?_
  refine Fo.pcall (v' := ?_) hn rfl (by simp only [↓nrmL, nrmZ, Nat.reduceEqDiff, ↓reduceIte, Nat.reduceAdd, Int.reduceBEq, Int.reduceBNe, h1, h2, h3, h4, List.map]; rfl) rfl ?hv fun _ _ => ?_; case hv => (simp only [↓nrmL, nrmZ, Nat.reduceEqDiff, ↓reduceIte, Nat.reduceAdd, Int.reduceBEq, Int.reduceBNe, h1, h2, h3, h4]; rfl)
  refine Fo.now rfl rfl (by simp only [↓nrmL, nrmZ, Nat.reduceEqDiff, ↓reduceIte, Nat.reduceAdd, Int.reduceBEq, Int.reduceBNe, h1, h2, h3, h4]; rfl) ?_
  refine WpO.nil (hKF _ _ ?_)
  refine Wp.cond (b := false) rfl ?_
  refine Wp.skip ?_
  refine sq ?_
  refine sq ?_
  refine rg fun KF hKF => ?_
  refine mI rfl ?_
  refine mI rfl ?_
  refine Fo.now rfl rfl rfl ?_
  refine mI rfl ?_
  refine Fo.bin rfl rfl rfl rfl ?_
  refine Fo.pcall (v' := ?_) hn rfl (by simp only [↓nrmL, nrmZ, Nat.reduceEqDiff, ↓reduceIte, Nat.reduceAdd, Int.reduceBEq, Int.reduceBNe, h1, h2, h3, h4, List.map]; rfl) rfl ?hv fun _ _ => ?_; case hv => (simp only [↓nrmL, nrmZ, Nat.reduceEqDiff, ↓reduceIte, Nat.reduceAdd, Int.reduceBEq, Int.reduceBNe, h1, h2, h3, h4]; rfl)
  refine Fo.now rfl rfl (by simp only [↓nrmL, nrmZ, Nat.reduceEqDiff, ↓reduceIte, Nat.reduceAdd, Int.reduceBEq, Int.reduceBNe, h1, h2, h3, h4]; rfl) ?_
  refine WpO.nil (hKF _ _ ?_)
  refine Wp.cond (b := false) rfl ?_
  refine Wp.skip ?_
  refine sq ?_
  refine sq ?_
  refine rg fun KF hKF => ?_
  refine mI rfl ?_
  refine Fo.pcall (v' := ?_) hn rfl (by simp only [↓nrmL, nrmZ, Nat.reduceEqDiff, ↓reduceIte, Nat.reduceAdd, Int.reduceBEq, Int.reduceBNe, h1, h2, h3, h4, List.map]; rfl) rfl ?hv fun _ _ => ?_; case hv => (simp only [↓nrmL, nrmZ, Nat.reduceEqDiff, ↓reduceIte, Nat.reduceAdd, Int.reduceBEq, Int.reduceBNe, h1, h2, h3, h4]; rfl)
  refine Fo.now rfl rfl (by simp only [↓nrmL, nrmZ, Nat.reduceEqDiff, ↓reduceIte, Nat.reduceAdd, Int.reduceBEq, Int.reduceBNe, h1, h2, h3, h4]; rfl) ?_
  refine WpO.nil (hKF _ _ ?_)
  refine Wp.cond (b := true) rfl ?_
  refine sq ?_
  refine rg fun KF hKF => ?_
  refine Fo.build (by repeat (first | refine aFill1 (by first | exact (rfl : _ = AVal.int _ _) | exact (rfl : _ = AVal.ptr _ _) | exact (rfl : _ = AVal.bool _) | exact (rfl : _ = AVal.agg _) | exact (rfl : _ = AVal.tuple _) | exact (rfl : _ = AVal.func _ _ _) | exact (rfl : _ = AVal.nslice) | ((try simp only [↓nrmL, nrmK, Nat.reduceEqDiff, ↓reduceIte]); rfl)) rfl ?_ | rfl)) rfl ?_
  refine Fo.st rfl (rfl : _ = AVal.agg _) rfl rfl rfl (by repeat (first | rfl | refine allOne_cons ?_)) (by simp only [↓nrmL, nrmZ, Nat.reduceEqDiff, ↓reduceIte, Nat.reduceAdd, Int.reduceBEq, Int.reduceBNe, h1, h2, h3, h4]; rfl) ?_
  refine mI rfl ?_
  refine WpO.nil (hKF _ _ ?_)
  refine Wp.ret ?_
  dsimp only [cond_true, cond_false]
  refine ⟨trivial, _, (by first | rfl | exact getAllC rfl rfl rfl rfl | exact getAllT rfl (getAllC rfl rfl rfl rfl) | exact getAllC rfl rfl rfl (getAllC rfl rfl rfl rfl) | exact getAllC1 rfl rfl rfl), ?_⟩
  exact ⟨by rw [e]; rfl, Ext0.ext⟩
 cases h5 : a == 0
 ·have e : soundS c k s a = (w6 ((baseS c).1 + s), meantI a, 0) := by unfold soundS; rw [h1, h2, h3, h4, h5]; rfl
  try simp only [↓nrmL, nrmZ, Nat.reduceEqDiff, ↓reduceIte, Nat.reduceAdd, Int.reduceBEq, Int.reduceBNe, h1, h2, h3, h4, h5]
  refine sq ?_
  refine rg fun KF hKF => ?_
  refine Fo.new ?_
  refine mI rfl ?_
  refine WpO.nil (hKF _ _ ?_)
  refine sq ?_
  refine rg fun KF hKF => ?_
  refine mI rfl ?_
  refine Fo.pcall (v' := ?_) hn rfl (by simp only [↓nrmL, nrmZ, Nat.reduceEqDiff, ↓reduceIte, Nat.reduceAdd, Int.reduceBEq, Int.reduceBNe, h1, h2, h3, h4, h5, List.map]; rfl) rfl ?hv fun _ _ => ?_; case hv => rfl
  refine mT rfl ?_
  refine Fo.extr rfl rfl ?_
  refine Fo.extr rfl rfl ?_
  refine mI rfl ?_
  refine mI rfl ?_
  refine WpO.nil (hKF _ _ ?_)
  refine sq ?_
  refine sq ?_
  refine rg fun KF hKF => ?_
  refine mI rfl ?_
  refine Fo.bin rfl rfl rfl (by simp only [↓nrmL, nrmZ, Nat.reduceEqDiff, ↓reduceIte, Nat.reduceAdd, Int.reduceBEq, Int.reduceBNe, h1, h2, h3, h4, h5]; rfl) ?_
  refine WpO.nil (hKF _ _ ?_)
  refine Wp.cond (b := false) rfl ?_
  refine Wp.skip ?_
  refine sq ?_
  refine sq ?_
  refine rg fun KF hKF => ?_
  refine mI rfl ?_
  refine Fo.pcall (v' := ?_) hn rfl (by simp only [↓nrmL, nrmZ, Nat.reduceEqDiff, ↓reduceIte, Nat.reduceAdd, Int.reduceBEq, Int.reduceBNe, h1, h2, h3, h4, h5, List.map]; rfl) rfl ?hv fun _ _ => ?_; case hv => (simp only [↓nrmL, nrmZ, Nat.reduceEqDiff, ↓reduceIte, Nat.reduceAdd, Int.reduceBEq, Int.reduceBNe, h1, h2, h3, h4, h5]; rfl)
  refine Fo.now rfl rfl (by simp only [↓nrmL, nrmZ, Nat.reduceEqDiff, ↓reduceIte, Nat.reduceAdd, Int.reduceBEq, Int.reduceBNe, h1, h2, h3, h4, h5]; rfl) ?_
  refine WpO.nil (hKF _ _ ?_)
  refine Wp.cond (b := false) rfl ?_
  refine Wp.skip ?_
  refine sq ?_
  refine sq ?_
  refine rg fun KF hKF => ?_
  refine mI rfl ?_
  refine mI rfl ?_
  refine Fo.now rfl rfl rfl ?_
  refine mI rfl ?_
  refine Fo.bin rfl rfl rfl rfl ?_
  refine Fo.pcall (v' := ?_) hn rfl (by simp only [↓nrmL, nrmZ, Nat.reduceEqDiff, ↓reduceIte, Nat.reduceAdd, Int.reduceBEq, Int.reduceBNe, h1, h2, h3, h4, h5, List.map]; rfl) rfl ?hv fun _ _ => ?_; case hv => (simp only [↓nrmL, nrmZ, Nat.reduceEqDiff, ↓reduceIte, Nat.reduceAdd, Int.reduceBEq, Int.reduceBNe, h1, h2, h3, h4, h5]; rfl)
  refine Fo.now rfl rfl (by simp only [↓nrmL, nrmZ, Nat.reduceEqDiff, ↓reduceIte, Nat.reduceAdd, Int.reduceBEq, Int.reduceBNe, h1, h2, h3, h4, h5]; rfl) ?_
  refine WpO.nil (hKF _ _ ?_)
  refine Wp.cond (b := false) rfl ?_
  refine Wp.skip ?_
  refine sq ?_
  refine sq ?_
  refine rg fun KF hKF => ?_
  refine mI rfl ?_
  refine Fo.pcall (v' := ?_) hn rfl (by simp only [↓nrmL, nrmZ, Nat.reduceEqDiff, ↓reduceIte, Nat.reduceAdd, Int.reduceBEq, Int.reduceBNe, h1, h2, h3, h4, h5, List.map]; rfl) rfl ?hv fun _ _ => ?_; case hv => (simp only [↓nrmL, nrmZ, Nat.reduceEqDiff, ↓reduceIte, Nat.reduceAdd, Int.reduceBEq, Int.reduceBNe, h1, h2, h3, h4, h5]; rfl)
  refine Fo.now rfl rfl (by simp only [↓nrmL, nrmZ, Nat.reduceEqDiff, ↓reduceIte, Nat.reduceAdd, Int.reduceBEq, Int.reduceBNe, h1, h2, h3, h4, h5]; rfl) ?_
  refine WpO.nil (hKF _ _ ?_)
  refine Wp.cond (b := false) rfl ?_
  refine Wp.skip ?_
  refine sq ?_
  refine rg fun KF hKF => ?_
  refine mI rfl ?_
  refine mI rfl ?_
  refine Fo.bin rfl rfl rfl rfl ?_
  refine mI rfl ?_
  refine Fo.pcall (v' := ?_) hn rfl (by simp only [↓nrmL, nrmZ, Nat.reduceEqDiff, ↓reduceIte, Nat.reduceAdd, Int.reduceBEq, Int.reduceBNe, h1, h2, h3, h4, h5, List.map]; rfl) rfl ?hv fun _ _ => ?_; case hv => rfl
  refine Fo.build (by repeat (first | refine aFill1 (by first | exact (rfl : _ = AVal.int _ _) | exact (rfl : _ = AVal.ptr _ _) | exact (rfl : _ = AVal.bool _) | exact (rfl : _ = AVal.agg _) | exact (rfl : _ = AVal.tuple _) | exact (rfl : _ = AVal.func _ _ _) | exact (rfl : _ = AVal.nslice) | ((try simp only [↓nrmL, nrmK, Nat.reduceEqDiff, ↓reduceIte]); rfl)) rfl ?_ | rfl)) (by simp only [↓nrmL, nrmZ, Nat.reduceEqDiff, ↓reduceIte, Nat.reduceAdd, Int.reduceBEq, Int.reduceBNe, h1, h2, h3, h4, h5]; rfl) ?_
  refine Fo.new ?_
  refine Fo.st rfl (rfl : _ = AVal.agg _) rfl rfl rfl (by repeat (first | rfl | refine allOne_cons ?_)) (by simp only [↓nrmL, nrmZ, Nat.reduceEqDiff, ↓reduceIte, Nat.reduceAdd, Int.reduceBEq, Int.reduceBNe, h1, h2, h3, h4, h5]; rfl) ?_
  refine WpO.nil (hKF _ _ ?_)
  refine sq ?_
  refine sq ?_
  refine rg fun KF hKF => ?_
  refine mI rfl ?_
  refine Fo.bin rfl rfl rfl (by simp only [↓nrmL, nrmZ, Nat.reduceEqDiff, ↓reduceIte, Nat.reduceAdd, Int.reduceBEq, Int.reduceBNe, h1, h2, h3, h4, h5]; rfl) ?_
  refine WpO.nil (hKF _ _ ?_)
  refine Wp.cond (b := false) rfl ?_
  refine Wp.skip ?_
  refine sq ?_
  refine rg fun KF hKF => ?_
  refine Fo.ldN rfl rfl (by simp only [↓nrmL, nrmZ, Nat.reduceEqDiff, ↓reduceIte, Nat.reduceAdd, Int.reduceBEq, Int.reduceBNe, h1, h2, h3, h4, h5]; rfl) ?_
  refine Fo.st rfl (rfl : _ = AVal.agg _) rfl rfl rfl (by repeat (first | rfl | refine allOne_cons ?_)) (by simp only [↓nrmL, nrmZ, Nat.reduceEqDiff, ↓reduceIte, Nat.reduceAdd, Int.reduceBEq, Int.reduceBNe, h1, h2, h3, h4, h5]; rfl) ?_
  refine mI rfl ?_
  refine WpO.nil (hKF _ _ ?_)
  refine Wp.ret ?_
  dsimp only [cond_true, cond_false]
  refine ⟨trivial, _, (by first | rfl | exact getAllC rfl rfl rfl rfl | exact getAllT rfl (getAllC rfl rfl rfl rfl) | exact getAllC rfl rfl rfl (getAllC rfl rfl rfl rfl) | exact getAllC1 rfl rfl rfl), ?_⟩
  exact ⟨by rw [e]; rfl, Ext0.ext⟩
 ·have e : soundS c k s a = (w6 ((baseS c).1 + s), alterS k (w6 ((baseS c).1 + s)), 0) := by unfold soundS; rw [h1, h2, h3, h4, h5]; rfl
  try simp only [↓nrmL, nrmZ, Nat.reduceEqDiff, ↓reduceIte, Nat.reduceAdd, Int.reduceBEq, Int.reduceBNe, h1, h2, h3, h4, h5]
  refine sq ?_
  refine rg fun KF hKF => ?_
  refine Fo.new ?_
  refine mI rfl ?_
  refine WpO.nil (hKF _ _ ?_)
  refine sq ?_
  refine rg fun KF hKF => ?_
  refine mI rfl ?_
  refine Fo.pcall (v' := ?_) hn rfl (by simp only [↓nrmL, nrmZ, Nat.reduceEqDiff, ↓reduceIte, Nat.reduceAdd, Int.reduceBEq, Int.reduceBNe, h1, h2, h3, h4, h5, List.map]; rfl) rfl ?hv fun _ _ => ?_; case hv => rfl
  refine mT rfl ?_
  refine Fo.extr rfl rfl ?_
  refine Fo.extr rfl rfl ?_
  refine mI rfl ?_
  refine mI rfl ?_
  refine WpO.nil (hKF _ _ ?_)
  refine sq ?_
  refine sq ?_
  refine rg fun KF hKF => ?_
  refine mI rfl ?_
  refine Fo.bin rfl rfl rfl (by simp only [↓nrmL, nrmZ, Nat.reduceEqDiff, ↓reduceIte, Nat.reduceAdd, Int.reduceBEq, Int.reduceBNe, h1, h2, h3, h4, h5]; rfl) ?_
  refine WpO.nil (hKF _ _ ?_)
  refine Wp.cond (b := false) rfl ?_
  refine Wp.skip ?_
  refine sq ?_
  refine sq ?_
  refine rg fun KF hKF => ?_
  refine mI rfl ?_
  refine Fo.pcall (v' := ?_) hn rfl (by simp only [↓nrmL, nrmZ, Nat.reduceEqDiff, ↓reduceIte, Nat.reduceAdd, Int.reduceBEq, Int.reduceBNe, h1, h2, h3, h4, h5, List.map]; rfl) rfl ?hv fun _ _ => ?_; case hv => (simp only [↓nrmL, nrmZ, Nat.reduceEqDiff, ↓reduceIte, Nat.reduceAdd, Int.reduceBEq, Int.reduceBNe, h1, h2, h3, h4, h5]; rfl)
  refine Fo.now rfl rfl (by simp only [↓nrmL, nrmZ, Nat.reduceEqDiff, ↓reduceIte, Nat.reduceAdd, Int.reduceBEq, Int.reduceBNe, h1, h2, h3, h4, h5]; rfl) ?_
  refine WpO.nil (hKF _ _ ?_)
  refine Wp.cond (b := false) rfl ?_
  refine Wp.skip ?_
  refine sq ?_
  refine sq ?_
  refine rg fun KF hKF => ?_
  refine mI rfl ?_
  refine mI rfl ?_
  refine Fo.now rfl rfl rfl ?_
  refine mI rfl ?_
  refine Fo.bin rfl rfl rfl rfl ?_
  refine Fo.pcall (v' := ?_) hn rfl (by simp only [↓nrmL, nrmZ, Nat.reduceEqDiff, ↓reduceIte, Nat.reduceAdd, Int.reduceBEq, Int.reduceBNe, h1, h2, h3, h4, h5, List.map]; rfl) rfl ?hv fun _ _ => ?_; case hv => (simp only [↓nrmL, nrmZ, Nat.reduceEqDiff, ↓reduceIte, Nat.reduceAdd, Int.reduceBEq, Int.reduceBNe, h1, h2, h3, h4, h5]; rfl)
  refine Fo.now rfl rfl (by simp only [↓nrmL, nrmZ, Nat.reduceEqDiff, ↓reduceIte, Nat.reduceAdd, Int.reduceBEq, Int.reduceBNe, h1, h2, h3, h4, h5]; rfl) ?_
  refine WpO.nil (hKF _ _ ?_)
  refine Wp.cond (b := false) rfl ?_
  refine Wp.skip ?_
  refine sq ?_
  refine sq ?_
  refine rg fun KF hKF => ?_
  refine mI rfl ?_
  refine Fo.pcall (v' := ?_) hn rfl (by simp only [↓nrmL, nrmZ, Nat.reduceEqDiff, ↓reduceIte, Nat.reduceAdd, Int.reduceBEq, Int.reduceBNe, h1, h2, h3, h4, h5, List.map]; rfl) rfl ?hv fun _ _ => ?_; case hv => (simp only [↓nrmL, nrmZ, Nat.reduceEqDiff, ↓reduceIte, Nat.reduceAdd, Int.reduceBEq, Int.reduceBNe, h1, h2, h3, h4, h5]; rfl)
  refine Fo.now rfl rfl (by simp only [↓nrmL, nrmZ, Nat.reduceEqDiff, ↓reduceIte, Nat.reduceAdd, Int.reduceBEq, Int.reduceBNe, h1, h2, h3, h4, h5]; rfl) ?_
  refine WpO.nil (hKF _ _ ?_)
  refine Wp.cond (b := false) rfl ?_
  refine Wp.skip ?_
  refine sq ?_
  refine rg fun KF hKF => ?_
  refine mI rfl ?_
  refine mI rfl ?_
  refine Fo.bin rfl rfl rfl rfl ?_
  refine mI rfl ?_
  refine Fo.pcall (v' := ?_) hn rfl (by simp only [↓nrmL, nrmZ, Nat.reduceEqDiff, ↓reduceIte, Nat.reduceAdd, Int.reduceBEq, Int.reduceBNe, h1, h2, h3, h4, h5, List.map]; rfl) rfl ?hv fun _ _ => ?_; case hv => rfl
  refine Fo.build (by repeat (first | refine aFill1 (by first | exact (rfl : _ = AVal.int _ _) | exact (rfl : _ = AVal.ptr _ _) | exact (rfl : _ = AVal.bool _) | exact (rfl : _ = AVal.agg _) | exact (rfl : _ = AVal.tuple _) | exact (rfl : _ = AVal.func _ _ _) | exact (rfl : _ = AVal.nslice) | ((try simp only [↓nrmL, nrmK, Nat.reduceEqDiff, ↓reduceIte]); rfl)) rfl ?_ | rfl)) (by simp only [↓nrmL, nrmZ, Nat.reduceEqDiff, ↓reduceIte, Nat.reduceAdd, Int.reduceBEq, Int.reduceBNe, h1, h2, h3, h4, h5]; rfl) ?_
  refine Fo.new ?_
  refine Fo.st rfl (rfl : _ = AVal.agg _) rfl rfl rfl (by repeat (first | rfl | refine allOne_cons ?_)) (by simp only [↓nrmL, nrmZ, Nat.reduceEqDiff, ↓reduceIte, Nat.reduceAdd, Int.reduceBEq, Int.reduceBNe, h1, h2, h3, h4, h5]; rfl) ?_
  refine WpO.nil (hKF _ _ ?_)
  refine sq ?_
  refine sq ?_
  refine rg fun KF hKF => ?_
  refine mI rfl ?_
  refine Fo.bin rfl rfl rfl (by simp only [↓nrmL, nrmZ, Nat.reduceEqDiff, ↓reduceIte, Nat.reduceAdd, Int.reduceBEq, Int.reduceBNe, h1, h2, h3, h4, h5]; rfl) ?_
  refine WpO.nil (hKF _ _ ?_)
  refine Wp.cond (b := true) rfl ?_
  refine rg fun KF hKF => ?_
  refine mI rfl ?_
  refine Fo.build (by repeat (first | refine aFill1 (by first | exact (rfl : _ = AVal.int _ _) | exact (rfl : _ = AVal.ptr _ _) | exact (rfl : _ = AVal.bool _) | exact (rfl : _ = AVal.agg _) | exact (rfl : _ = AVal.tuple _) | exact (rfl : _ = AVal.func _ _ _) | exact (rfl : _ = AVal.nslice) | ((try simp only [↓nrmL, nrmK, Nat.reduceEqDiff, ↓reduceIte]); rfl)) rfl ?_ | rfl)) (by simp only [↓nrmL, nrmZ, Nat.reduceEqDiff, ↓reduceIte, Nat.reduceAdd, Int.reduceBEq, Int.reduceBNe, h1, h2, h3, h4, h5]; rfl) ?_
  refine Fo.fa rfl ?_
  refine Fo.ld rfl rfl ?_
  refine Fo.pcall (v' := ?_) hn rfl (by simp only [↓nrmL, nrmZ, Nat.reduceEqDiff, ↓reduceIte, Nat.reduceAdd, Int.reduceBEq, Int.reduceBNe, h1, h2, h3, h4, h5, List.map]; rfl) rfl ?hv fun _ _ => ?_; case hv => rfl
  refine Fo.fa rfl ?_
  refine Fo.st rfl (rfl : _ = AVal.int _ _) rfl rfl rfl (by repeat (first | rfl | refine allOne_cons ?_)) (by simp only [↓nrmL, nrmZ, Nat.reduceEqDiff, ↓reduceIte, Nat.reduceAdd, Int.reduceBEq, Int.reduceBNe, h1, h2, h3, h4, h5]; rfl) ?_
  refine WpO.nil (hKF _ _ ?_)
  refine sq ?_
  refine rg fun KF hKF => ?_
  refine Fo.ldN rfl rfl (by simp only [↓nrmL, nrmZ, Nat.reduceEqDiff, ↓reduceIte, Nat.reduceAdd, Int.reduceBEq, Int.reduceBNe, h1, h2, h3, h4, h5]; rfl) ?_
  refine Fo.st rfl (rfl : _ = AVal.agg _) rfl rfl rfl (by repeat (first | rfl | refine allOne_cons ?_)) (by simp only [↓nrmL, nrmZ, Nat.reduceEqDiff, ↓reduceIte, Nat.reduceAdd, Int.reduceBEq, Int.reduceBNe, h1, h2, h3, h4, h5]; rfl) ?_
  refine mI rfl ?_
  refine WpO.nil (hKF _ _ ?_)
  refine Wp.ret ?_
  dsimp only [cond_true, cond_false]
  refine ⟨trivial, _, (by first | rfl | exact getAllC rfl rfl rfl rfl | exact getAllT rfl (getAllC rfl rfl rfl rfl) | exact getAllC rfl rfl rfl (getAllC rfl rfl rfl rfl) | exact getAllC1 rfl rfl rfl), ?_⟩
  exact ⟨by rw [e]; rfl, Ext0.ext⟩⟩
instance K_refSounding {c k s a : Int} {H : AHeap} : PureCon ext prog 62 [.int .i64 c, .int .i64 k, .int .i64 s, .int .i64 a] H 3 (rT (soundS c k s a)) := ⟨by
 refine con_of (show prog 62 = some c62 from rfl) rfl rfl fun m hn => ?_
 cases h1 : ((baseS c).2 != 0)
 case true =>
  have e : soundS c k s a = (0, 0, (baseS c).2) := by unfold soundS; rw [h1]; rfl
  try simp only [↓nrmL, nrmZ, Nat.reduceEqDiff, ↓reduceIte, Nat.reduceAdd, Int.reduceBEq, Int.reduceBNe, h1]
  refine sq ?_
  refine rg fun KF hKF => ?_
  refine Fo.new ?_
  refine mI rfl ?_
  refine WpO.nil (hKF _ _ ?_)
  refine sq ?_
  refine rg fun KF hKF => ?_
  refine mI rfl ?_
  refine Fo.pcall (v' := ?_) hn rfl (by simp only [↓nrmL, nrmZ, Nat.reduceEqDiff, ↓reduceIte, Nat.reduceAdd, Int.reduceBEq, Int.reduceBNe, h1, List.map]; rfl) rfl ?hv fun _ _ => ?_; case hv => rfl
  refine mT rfl ?_
  refine Fo.extr rfl rfl ?_
  refine Fo.extr rfl rfl ?_
  refine mI rfl ?_
  refine mI rfl ?_
  refine WpO.nil (hKF _ _ ?_)
  refine sq ?_
  refine sq ?_
  refine rg fun KF hKF => ?_
  refine mI rfl ?_
  refine Fo.bin rfl rfl rfl (by simp only [↓nrmL, nrmZ, Nat.reduceEqDiff, ↓reduceIte, Nat.reduceAdd, Int.reduceBEq, Int.reduceBNe, h1]; rfl) ?_
  refine WpO.nil (hKF _ _ ?_)
  refine Wp.cond (b := true) rfl ?_
  refine sq ?_
  refine rg fun KF hKF => ?_
  refine Fo.build (by repeat (first | refine aFill1 (by first | exact (rfl : _ = AVal.int _ _) | exact (rfl : _ = AVal.ptr _ _) | exact (rfl : _ = AVal.bool _) | exact (rfl : _ = AVal.agg _) | exact (rfl : _ = AVal.tuple _) | exact (rfl : _ = AVal.func _ _ _) | exact (rfl : _ = AVal.nslice) | ((try simp only [↓nrmL, nrmK, Nat.reduceEqDiff, ↓reduceIte]); rfl)) rfl ?_ | rfl)) rfl ?_
  refine mI rfl ?_
  refine Fo.st rfl (rfl : _ = AVal.agg _) rfl rfl rfl (by repeat (first | rfl | refine allOne_cons ?_)) (by simp only [↓nrmL, nrmZ, Nat.reduceEqDiff, ↓reduceIte, Nat.reduceAdd, Int.reduceBEq, Int.reduceBNe, h1]; rfl) ?_
  refine mI rfl ?_
  refine WpO.nil (hKF _ _ ?_)
  refine Wp.ret ?_
  dsimp only [cond_true, cond_false]
  refine ⟨trivial, _, (by first | rfl | exact getAllC rfl rfl rfl rfl | exact getAllT rfl (getAllC rfl rfl rfl rfl) | exact getAllC rfl rfl rfl (getAllC rfl rfl rfl rfl) | exact getAllC1 rfl rfl rfl), ?_⟩
  exact ⟨by rw [e]; rfl, Ext0.ext⟩
 cases h2 : keyB k
 ·have e : soundS c k s a = (0, 0, 31) := by unfold soundS; rw [h1, h2]; rfl
  try simp only [↓nrmL, nrmZ, Nat.reduceEqDiff, ↓reduceIte, Nat.reduceAdd, Int.reduceBEq, Int.reduceBNe, h1, h2]
  refine sq ?_
  refine rg fun KF hKF => ?_
  refine Fo.new ?_
  refine mI rfl ?_
  refine WpO.nil (hKF _ _ ?_)
  refine sq ?_
  refine rg fun KF hKF => ?_
  refine mI rfl ?_
  refine Fo.pcall (v' := ?_) hn rfl (by simp only [↓nrmL, nrmZ, Nat.reduceEqDiff, ↓reduceIte, Nat.reduceAdd, Int.reduceBEq, Int.reduceBNe, h1, h2, List.map]; rfl) rfl ?hv fun _ _ => ?_; case hv => rfl
  refine mT rfl ?_
  refine Fo.extr rfl rfl ?_
  refine Fo.extr rfl rfl ?_
  refine mI rfl ?_
  refine mI rfl ?_
  refine WpO.nil (hKF _ _ ?_)
  refine sq ?_
  refine sq ?_
  refine rg fun KF hKF => ?_
  refine mI rfl ?_
  refine Fo.bin rfl rfl rfl (by simp only [↓nrmL, nrmZ, Nat.reduceEqDiff, ↓reduceIte, Nat.reduceAdd, Int.reduceBEq, Int.reduceBNe, h1, h2]; rfl) ?_
  refine WpO.nil (hKF _ _ ?_)
  refine Wp.cond (b := false) rfl ?_
  refine Wp.skip ?_
  refine sq ?_
  refine sq ?_
  refine rg fun KF hKF => ?_
  refine mI rfl ?_
  refine Fo.pcall (v' := ?_) hn rfl (by simp only [↓nrmL, nrmZ, Nat.reduceEqDiff, ↓reduceIte, Nat.reduceAdd, Int.reduceBEq, Int.reduceBNe, h1, h2, List.map]; rfl) rfl ?hv fun _ _ => ?_; case hv => (simp only [↓nrmL, nrmZ, Nat.reduceEqDiff, ↓reduceIte, Nat.reduceAdd, Int.reduceBEq, Int.reduceBNe, h1, h2]; rfl)
  refine Fo.now rfl rfl (by simp only [↓nrmL, nrmZ, Nat.reduceEqDiff, ↓reduceIte, Nat.reduceAdd, Int.reduceBEq, Int.reduceBNe, h1, h2]; rfl) ?_
  refine WpO.nil (hKF _ _ ?_)
  refine Wp.cond (b := true) rfl ?_
  refine sq ?_
  refine rg fun KF hKF => ?_
  refine Fo.build (by repeat (first | refine aFill1 (by first | exact (rfl : _ = AVal.int _ _) | exact (rfl : _ = AVal.ptr _ _) | exact (rfl : _ = AVal.bool _) | exact (rfl : _ = AVal.agg _) | exact (rfl : _ = AVal.tuple _) | exact (rfl : _ = AVal.func _ _ _) | exact (rfl : _ = AVal.nslice) | ((try simp only [↓nrmL, nrmK, Nat.reduceEqDiff, ↓reduceIte]); rfl)) rfl ?_ | rfl)) rfl ?_
  refine Fo.st rfl (rfl : _ = AVal.agg _) rfl rfl rfl (by repeat (first | rfl | refine allOne_cons ?_)) (by simp only [↓nrmL, nrmZ, Nat.reduceEqDiff, ↓reduceIte, Nat.reduceAdd, Int.reduceBEq, Int.reduceBNe, h1, h2]; rfl) ?_
  refine mI rfl ?_
  refine WpO.nil (hKF _ _ ?_)
  refine Wp.ret ?_
  dsimp only [cond_true, cond_false]
  refine ⟨trivial, _, (by first | rfl | exact getAllC rfl rfl rfl rfl | exact getAllT rfl (getAllC rfl rfl rfl rfl) | exact getAllC rfl rfl rfl (getAllC rfl rfl rfl rfl) | exact getAllC1 rfl rfl rfl), ?_⟩
  exact ⟨by rw [e]; rfl, Ext0.ext⟩
 have ew : ∀ x y, withinB s x y = (decide (s ≥ x) && decide (s ≤ y)) := fun x y => rfl
 cases h31 : decide (s < w6 (0 - (baseS c).1))
 case true =>
  have h3 : withinB s (w6 (0 - (baseS c).1)) (w6 (69 - (baseS c).1)) = false := by
   have := of_decide_eq_true h31
   rw [ew, decide_eq_false (by omega), Bool.false_and]
  have e : soundS c k s a = (0, 0, 34) := by unfold soundS; rw [h1, h2, h3]; rfl
  try simp only [↓nrmL, nrmZ, Nat.reduceEqDiff, ↓reduceIte, Nat.reduceAdd, Int.reduceBEq, Int.reduceBNe, h1, h2, h31]
  refine sq ?_
  refine rg fun KF hKF => ?_
  refine Fo.new ?_
  refine mI rfl ?_
  refine WpO.nil (hKF _ _ ?_)
  refine sq ?_
  refine rg fun KF hKF => ?_
  refine mI rfl ?_
  refine Fo.pcall (v' := ?_) hn rfl (by simp only [↓nrmL, nrmZ, Nat.reduceEqDiff, ↓reduceIte, Nat.reduceAdd, Int.reduceBEq, Int.reduceBNe, h1, h2, h31, List.map]; rfl) rfl ?hv fun _ _ => ?_; case hv => rfl
  refine mT rfl ?_
  refine Fo.extr rfl rfl ?_
  refine Fo.extr rfl rfl ?_
  refine mI rfl ?_
  refine mI rfl ?_
  refine WpO.nil (hKF _ _ ?_)
  refine sq ?_
  refine sq ?_
  refine rg fun KF hKF => ?_
  refine mI rfl ?_
  refine Fo.bin rfl rfl rfl (by simp only [↓nrmL, nrmZ, Nat.reduceEqDiff, ↓reduceIte, Nat.reduceAdd, Int.reduceBEq, Int.reduceBNe, h1, h2, h31]; rfl) ?_
  refine WpO.nil (hKF _ _ ?_)
  refine Wp.cond (b := false) rfl ?_
  refine Wp.skip ?_
  refine sq ?_
  refine sq ?_
  refine rg fun KF hKF => ?_
  refine mI rfl ?_
  refine Fo.pcall (v' := ?_) hn rfl (by simp only [↓nrmL, nrmZ, Nat.reduceEqDiff, ↓reduceIte, Nat.reduceAdd, Int.reduceBEq, Int.reduceBNe, h1, h2, h31, List.map]; rfl) rfl ?hv fun _ _ => ?_; case hv => (simp only [↓nrmL, nrmZ, Nat.reduceEqDiff, ↓reduceIte, Nat.reduceAdd, Int.reduceBEq, Int.reduceBNe, h1, h2, h31]; rfl)
  refine Fo.now rfl rfl (by simp only [↓nrmL, nrmZ, Nat.reduceEqDiff, ↓reduceIte, Nat.reduceAdd, Int.reduceBEq, Int.reduceBNe, h1, h2, h31]; rfl) ?_
  refine WpO.nil (hKF _ _ ?_)
  refine Wp.cond (b := false) rfl ?_
  refine Wp.skip ?_
  refine sq ?_
  refine sq ?_
  refine rg fun KF hKF => ?_
  refine mI rfl ?_
  refine mI rfl ?_
  refine Fo.bin rfl rfl rfl rfl ?_
  refine Fo.bin rfl rfl rfl (by simp only [↓nrmL, nrmZ, Nat.reduceEqDiff, ↓reduceIte, Nat.reduceAdd, Int.reduceBEq, Int.reduceBNe, h1, h2, h31]; rfl) ?_
  refine mB rfl ?_
  refine Fo.no rfl rfl ?_
  refine Fo.no rfl rfl ?_
  refine Fo.no rfl rfl ?_
  refine Fo.no rfl rfl ?_
  refine tB rfl rfl ?_
  refine WpO.nil (hKF _ _ ?_)
  refine Wp.cond (b := true) rfl ?_
  refine sq ?_
  refine rg fun KF hKF => ?_
  refine Fo.build (by repeat (first | refine aFill1 (by first | exact (rfl : _ = AVal.int _ _) | exact (rfl : _ = AVal.ptr _ _) | exact (rfl : _ = AVal.bool _) | exact (rfl : _ = AVal.agg _) | exact (rfl : _ = AVal.tuple _) | exact (rfl : _ = AVal.func _ _ _) | exact (rfl : _ = AVal.nslice) | ((try simp only [↓nrmL, nrmK, Nat.reduceEqDiff, ↓reduceIte]); rfl)) rfl ?_ | rfl)) rfl ?_
  refine Fo.st rfl (rfl : _ = AVal.agg _) rfl rfl rfl (by repeat (first | rfl | refine allOne_cons ?_)) (by simp only [↓nrmL, nrmZ, Nat.reduceEqDiff, ↓reduceIte, Nat.reduceAdd, Int.reduceBEq, Int.reduceBNe, h1, h2, h31]; rfl) ?_
  refine mI rfl ?_
  refine WpO.nil (hKF _ _ ?_)
  refine Wp.ret ?_
  dsimp only [cond_true, cond_false]
  refine ⟨trivial, _, (by first | rfl | exact getAllC rfl rfl rfl rfl | exact getAllT rfl (getAllC rfl rfl rfl rfl) | exact getAllC rfl rfl rfl (getAllC rfl rfl rfl rfl) | exact getAllC1 rfl rfl rfl), ?_⟩
  exact ⟨by rw [e]; rfl, Ext0.ext⟩
 cases h32 : decide (s > w6 (69 - (baseS c).1))
 case true =>
  have h3 : withinB s (w6 (0 - (baseS c).1)) (w6 (69 - (baseS c).1)) = false := by
   have := of_decide_eq_true h32
   rw [ew, decide_eq_false (p := s ≤ _) (by omega), Bool.and_false]
  have e : soundS c k s a = (0, 0, 34) := by unfold soundS; rw [h1, h2, h3]; rfl
  try simp only [↓nrmL, nrmZ, Nat.reduceEqDiff, ↓reduceIte, Nat.reduceAdd, Int.reduceBEq, Int.reduceBNe, h1, h2, h31, h32]
  refine sq ?_
  refine rg fun KF hKF => ?_
  refine Fo.new ?_
  refine mI rfl ?_
  refine WpO.nil (hKF _ _ ?_)
  refine sq ?_
  refine rg fun KF hKF => ?_
  refine mI rfl ?_
  refine Fo.pcall (v' := ?_) hn rfl (by simp only [↓nrmL, nrmZ, Nat.reduceEqDiff, ↓reduceIte, Nat.reduceAdd, Int.reduceBEq, Int.reduceBNe, h1, h2, h31, h32, List.map]; rfl) rfl ?hv fun _ _ => ?_; case hv => rfl
  refine mT rfl ?_
  refine Fo.extr rfl rfl ?_
  refine Fo.extr rfl rfl ?_
  refine mI rfl ?_
  refine mI rfl ?_
  refine WpO.nil (hKF _ _ ?_)
  refine sq ?_
  refine sq ?_
  refine rg fun KF hKF => ?_
  refine mI rfl ?_
  refine Fo.bin rfl rfl rfl (by simp only [↓nrmL, nrmZ, Nat.reduceEqDiff, ↓reduceIte, Nat.reduceAdd, Int.reduceBEq, Int.reduceBNe, h1, h2, h31, h32]; rfl) ?_
  refine WpO.nil (hKF _ _ ?_)
  refine Wp.cond (b := false) rfl ?_
  refine Wp.skip ?_
  refine sq ?_
  refine sq ?_
  refine rg fun KF hKF => ?_
  refine mI rfl ?_
  refine Fo.pcall (v' := ?_) hn rfl (by simp only [↓nrmL, nrmZ, Nat.reduceEqDiff, ↓reduceIte, Nat.reduceAdd, Int.reduceBEq, Int.reduceBNe, h1, h2, h31, h32, List.map]; rfl) rfl ?hv fun _ _ => ?_; case hv => (simp only [↓nrmL, nrmZ, Nat.reduceEqDiff, ↓reduceIte, Nat.reduceAdd, Int.reduceBEq, Int.reduceBNe, h1, h2, h31, h32]; rfl)
  refine Fo.now rfl rfl (by simp only [↓nrmL, nrmZ, Nat.reduceEqDiff, ↓reduceIte, Nat.reduceAdd, Int.reduceBEq, Int.reduceBNe, h1, h2, h31, h32]; rfl) ?_
  refine WpO.nil (hKF _ _ ?_)
  refine Wp.cond (b := false) rfl ?_
  refine Wp.skip ?_
  refine sq ?_
  refine sq ?_
  refine rg fun KF hKF => ?_
  refine mI rfl ?_
  refine mI rfl ?_
  refine Fo.bin rfl rfl rfl rfl ?_
  refine Fo.bin rfl rfl rfl (by simp only [↓nrmL, nrmZ, Nat.reduceEqDiff, ↓reduceIte, Nat.reduceAdd, Int.reduceBEq, Int.reduceBNe, h1, h2, h31, h32]; rfl) ?_
  refine mB rfl ?_
  refine Fo.yes rfl rfl ?_
  refine mI rfl ?_
  refine Fo.yes rfl rfl ?_
  refine mI rfl ?_
  refine Fo.yes rfl rfl ?_
  refine Fo.bin rfl rfl rfl rfl ?_
  refine Fo.yes rfl rfl ?_
  refine Fo.bin rfl rfl rfl (by simp only [↓nrmL, nrmZ, Nat.reduceEqDiff, ↓reduceIte, Nat.reduceAdd, Int.reduceBEq, Int.reduceBNe, h1, h2, h31, h32]; rfl) ?_
  refine fB rfl rfl ?_
  refine WpO.nil (hKF _ _ ?_)
  refine Wp.cond (b := true) rfl ?_
  refine sq ?_
  refine rg fun KF hKF => ?_
  refine Fo.build (by repeat (first | refine aFill1 (by first | exact (rfl : _ = AVal.int _ _) | exact (rfl : _ = AVal.ptr _ _) | exact (rfl : _ = AVal.bool _) | exact (rfl : _ = AVal.agg _) | exact (rfl : _ = AVal.tuple _) | exact (rfl : _ = AVal.func _ _ _) | exact (rfl : _ = AVal.nslice) | ((try simp only [↓nrmL, nrmK, Nat.reduceEqDiff, ↓reduceIte]); rfl)) rfl ?_ | rfl)) rfl ?_
  refine Fo.st rfl (rfl : _ = AVal.agg _) rfl rfl rfl (by repeat (first | rfl | refine allOne_cons ?_)) (by simp only [↓nrmL, nrmZ, Nat.reduceEqDiff, ↓reduceIte, Nat.reduceAdd, Int.reduceBEq, Int.reduceBNe, h1, h2, h31, h32]; rfl) ?_
  refine mI rfl ?_
  refine WpO.nil (hKF _ _ ?_)
  refine Wp.ret ?_
  dsimp only [cond_true, cond_false]
  refine ⟨trivial, _, (by first | rfl | exact getAllC rfl rfl rfl rfl | exact getAllT rfl (getAllC rfl rfl rfl rfl) | exact getAllC rfl rfl rfl (getAllC rfl rfl rfl rfl) | exact getAllC1 rfl rfl rfl), ?_⟩
  exact ⟨by rw [e]; rfl, Ext0.ext⟩
 have h3 : withinB s (w6 (0 - (baseS c).1)) (w6 (69 - (baseS c).1)) = true := by
  have := of_decide_eq_false h31; have := of_decide_eq_false h32
  rw [ew, decide_eq_true (by omega), decide_eq_true (by omega)]; rfl
 cases h41 : decide (a < 0)
 case true =>
  have h4 : withinB a 0 3 = false := by have := of_decide_eq_true h41; unfold withinB; rw [decide_eq_false (by omega)]; rfl
  have e : soundS c k s a = (0, 0, 66) := by unfold soundS; rw [h1, h2, h3, h4]; rfl
  try simp only [↓nrmL, nrmZ, Nat.reduceEqDiff, ↓reduceIte, Nat.reduceAdd, Int.reduceBEq, Int.reduceBNe, h1, h2, h31, h32, h41]
  refine sq ?_
  refine rg fun KF hKF => ?_
  refine Fo.new ?_
  refine mI rfl ?_
  refine WpO.nil (hKF _ _ ?_)
  refine sq ?_
  refine rg fun KF hKF => ?_
  refine mI rfl ?_
  refine Fo.pcall (v' := ?_) hn rfl (by simp only [↓nrmL, nrmZ, Nat.reduceEqDiff, ↓reduceIte, Nat.reduceAdd, Int.reduceBEq, Int.reduceBNe, h1, h2, h31, h32, h41, List.map]; rfl) rfl ?hv fun _ _ => ?_; case hv => rfl
  refine mT rfl ?_
  refine Fo.extr rfl rfl ?_
  refine Fo.extr rfl rfl ?_
  refine mI rfl ?_
  refine mI rfl ?_
  refine WpO.nil (hKF _ _ ?_)
  refine sq ?_
  refine sq ?_
  refine rg fun KF hKF => ?_
  refine mI rfl ?_
  refine Fo.bin rfl rfl rfl (by simp only [↓nrmL, nrmZ, Nat.reduceEqDiff, ↓reduceIte, Nat.reduceAdd, Int.reduceBEq, Int.reduceBNe, h1, h2, h31, h32, h41]; rfl) ?_
  refine WpO.nil (hKF _ _ ?_)
  refine Wp.cond (b := false) rfl ?_
  refine Wp.skip ?_
  refine sq ?_
  refine sq ?_
  refine rg fun KF hKF => ?_
  refine mI rfl ?_
  refine Fo.pcall (v' := ?_) hn rfl (by simp only [↓nrmL, nrmZ, Nat.reduceEqDiff, ↓reduceIte, Nat.reduceAdd, Int.reduceBEq, Int.reduceBNe, h1, h2, h31, h32, h41, List.map]; rfl) rfl ?hv fun _ _ => ?_; case hv => (simp only [↓nrmL, nrmZ, Nat.reduceEqDiff, ↓reduceIte, Nat.reduceAdd, Int.reduceBEq, Int.reduceBNe, h1, h2, h31, h32, h41]; rfl)
  refine Fo.now rfl rfl (by simp only [↓nrmL, nrmZ, Nat.reduceEqDiff, ↓reduceIte, Nat.reduceAdd, Int.reduceBEq, Int.reduceBNe, h1, h2, h31, h32, h41]; rfl) ?_
  refine WpO.nil (hKF _ _ ?_)
  refine Wp.cond (b := false) rfl ?_
  refine Wp.skip ?_
  refine sq ?_
  refine sq ?_
  refine rg fun KF hKF => ?_
  refine mI rfl ?_
  refine mI rfl ?_
  refine Fo.bin rfl rfl rfl rfl ?_
  refine Fo.bin rfl rfl rfl (by simp only [↓nrmL, nrmZ, Nat.reduceEqDiff, ↓reduceIte, Nat.reduceAdd, Int.reduceBEq, Int.reduceBNe, h1, h2, h31, h32, h41]; rfl) ?_
  refine mB rfl ?_
  refine Fo.yes rfl rfl ?_
  refine mI rfl ?_
  refine Fo.yes rfl rfl ?_
  refine mI rfl ?_
  refine Fo.yes rfl rfl ?_
  refine Fo.bin rfl rfl rfl rfl ?_
  refine Fo.yes rfl rfl ?_
  refine Fo.bin rfl rfl rfl (by simp only [↓nrmL, nrmZ, Nat.reduceEqDiff, ↓reduceIte, Nat.reduceAdd, Int.reduceBEq, Int.reduceBNe, h1, h2, h31, h32, h41]; rfl) ?_
  refine fB rfl rfl ?_
  refine WpO.nil (hKF _ _ ?_)
  refine Wp.cond (b := false) rfl ?_
  refine Wp.skip ?_
  refine sq ?_
  refine sq ?_
  refine rg fun KF hKF => ?_
  refine mI rfl ?_
  refine Fo.bin rfl rfl rfl (by simp only [↓nrmL, nrmZ, Nat.reduceEqDiff, ↓reduceIte, Nat.reduceAdd, Int.reduceBEq, Int.reduceBNe, h1, h2, h31, h32, h41]; rfl) ?_
  refine mB rfl ?_
  refine Fo.no rfl rfl ?_
  refine Fo.no rfl rfl ?_
  refine tB rfl rfl ?_
  refine WpO.nil (hKF _ _ ?_)
  refine Wp.cond (b := true) rfl ?_
  refine sq ?_
  refine rg fun KF hKF => ?_
  refine Fo.build (by repeat (first | refine aFill1 (by first | exact (rfl : _ = AVal.int _ _) | exact (rfl : _ = AVal.ptr _ _) | exact (rfl : _ = AVal.bool _) | exact (rfl : _ = AVal.agg _) | exact (rfl : _ = AVal.tuple _) | exact (rfl : _ = AVal.func _ _ _) | exact (rfl : _ = AVal.nslice) | ((try simp only [↓nrmL, nrmK, Nat.reduceEqDiff, ↓reduceIte]); rfl)) rfl ?_ | rfl)) rfl ?_
  refine Fo.st rfl (rfl : _ = AVal.agg _) rfl rfl rfl (by repeat (first | rfl | refine allOne_cons ?_)) (by simp only [↓nrmL, nrmZ, Nat.reduceEqDiff, ↓reduceIte, Nat.reduceAdd, Int.reduceBEq, Int.reduceBNe, h1, h2, h31, h32, h41]; rfl) ?_
  refine mI rfl ?_
  refine WpO.nil (hKF _ _ ?_)
  refine Wp.ret ?_
  dsimp only [cond_true, cond_false]
  refine ⟨trivial, _, (by first | rfl | exact getAllC rfl rfl rfl rfl | exact getAllT rfl (getAllC rfl rfl rfl rfl) | exact getAllC rfl rfl rfl (getAllC rfl rfl rfl rfl) | exact getAllC1 rfl rfl rfl), ?_⟩
  exact ⟨by rw [e]; rfl, Ext0.ext⟩
 cases h42 : decide (a > 3)
 case true =>
  have h4 : withinB a 0 3 = false := by have := of_decide_eq_true h42; unfold withinB; rw [decide_eq_false (p := a ≤ 3) (by omega), Bool.and_false]
  have e : soundS c k s a = (0, 0, 66) := by unfold soundS; rw [h1, h2, h3, h4]; rfl
  try simp only [↓nrmL, nrmZ, Nat.reduceEqDiff, ↓reduceIte, Nat.reduceAdd, Int.reduceBEq, Int.reduceBNe, h1, h2, h31, h32, h41, h42]
  refine sq ?_
  refine rg fun KF hKF => ?_
  refine Fo.new ?_
  refine mI rfl ?_
  refine WpO.nil (hKF _ _ ?_)
  refine sq ?_
  refine rg fun KF hKF => ?_
  refine mI rfl ?_
  refine Fo.pcall (v' := ?_) hn rfl (by simp only [↓nrmL, nrmZ, Nat.reduceEqDiff, ↓reduceIte, Nat.reduceAdd, Int.reduceBEq, Int.reduceBNe, h1, h2, h31, h32, h41, h42, List.map]; rfl) rfl ?hv fun _ _ => ?_; case hv => rfl
  refine mT rfl ?_
  refine Fo.extr rfl rfl ?_
  refine Fo.extr rfl rfl ?_
  refine mI rfl ?_
  refine mI rfl ?_
  refine WpO.nil (hKF _ _ ?_)
  refine sq ?_
  refine sq ?_
  refine rg fun KF hKF => ?_
  refine mI rfl ?_
  refine Fo.bin rfl rfl rfl (by simp only [↓nrmL, nrmZ, Nat.reduceEqDiff, ↓reduceIte, Nat.reduceAdd, Int.reduceBEq, Int.reduceBNe, h1, h2, h31, h32, h41, h42]; rfl) ?_
  refine WpO.nil (hKF _ _ ?_)
  refine Wp.cond (b := false) rfl ?_
  refine Wp.skip ?_
  refine sq ?_
  refine sq ?_
  refine rg fun KF hKF => ?_
  refine mI rfl ?_
  refine Fo.pcall (v' := ?_) hn rfl (by simp only [↓nrmL, nrmZ, Nat.reduceEqDiff, ↓reduceIte, Nat.reduceAdd, Int.reduceBEq, Int.reduceBNe, h1, h2, h31, h32, h41, h42, List.map]; rfl) rfl ?hv fun _ _ => ?_; case hv => (simp only [↓nrmL, nrmZ, Nat.reduceEqDiff, ↓reduceIte, Nat.reduceAdd, Int.reduceBEq, Int.reduceBNe, h1, h2, h31, h32, h41, h42]; rfl)
  refine Fo.now rfl rfl (by simp only [↓nrmL, nrmZ, Nat.reduceEqDiff, ↓reduceIte, Nat.reduceAdd, Int.reduceBEq, Int.reduceBNe, h1, h2, h31, h32, h41, h42]; rfl) ?_
  refine WpO.nil (hKF _ _ ?_)
  refine Wp.cond (b := false) rfl ?_
  refine Wp.skip ?_
  refine sq ?_
  refine sq ?_
  refine rg fun KF hKF => ?_
  refine mI rfl ?_
  refine mI rfl ?_
  refine Fo.bin rfl rfl rfl rfl ?_
  refine Fo.bin rfl rfl rfl (by simp only [↓nrmL, nrmZ, Nat.reduceEqDiff, ↓reduceIte, Nat.reduceAdd, Int.reduceBEq, Int.reduceBNe, h1, h2, h31, h32, h41, h42]; rfl) ?_
  refine mB rfl ?_
  refine Fo.yes rfl rfl ?_
  refine mI rfl ?_
  refine Fo.yes rfl rfl ?_
  refine mI rfl ?_
  refine Fo.yes rfl rfl ?_
  refine Fo.bin rfl rfl rfl rfl ?_
  refine Fo.yes rfl rfl ?_
  refine Fo.bin rfl rfl rfl (by simp only [↓nrmL, nrmZ, Nat.reduceEqDiff, ↓reduceIte, Nat.reduceAdd, Int.reduceBEq, Int.reduceBNe, h1, h2, h31, h32, h41, h42]; rfl) ?_
  refine fB rfl rfl ?_
  refine WpO.nil (hKF _ _ ?_)
  refine Wp.cond (b := false) rfl ?_
  refine Wp.skip ?_
  refine sq ?_
  refine sq ?_
  refine rg fun KF hKF => ?_
  refine mI rfl ?_
  refine Fo.bin rfl rfl rfl (by simp only [↓nrmL, nrmZ, Nat.reduceEqDiff, ↓reduceIte, Nat.reduceAdd, Int.reduceBEq, Int.reduceBNe, h1, h2, h31, h32, h41, h42]; rfl) ?_
  refine mB rfl ?_
  refine Fo.yes rfl rfl ?_
  refine mI rfl ?_
  refine Fo.yes rfl rfl ?_
  refine Fo.bin rfl rfl rfl (by simp only [↓nrmL, nrmZ, Nat.reduceEqDiff, ↓reduceIte, Nat.reduceAdd, Int.reduceBEq, Int.reduceBNe, h1, h2, h31, h32, h41, h42]; rfl) ?_
  refine fB rfl rfl ?_
  refine WpO.nil (hKF _ _ ?_)
  refine Wp.cond (b := true) rfl ?_
  refine sq ?_
  refine rg fun KF hKF => ?_
  refine Fo.build (by repeat (first | refine aFill1 (by first | exact (rfl : _ = AVal.int _ _) | exact (rfl : _ = AVal.ptr _ _) | exact (rfl : _ = AVal.bool _) | exact (rfl : _ = AVal.agg _) | exact (rfl : _ = AVal.tuple _) | exact (rfl : _ = AVal.func _ _ _) | exact (rfl : _ = AVal.nslice) | ((try simp only [↓nrmL, nrmK, Nat.reduceEqDiff, ↓reduceIte]); rfl)) rfl ?_ | rfl)) rfl ?_
  refine Fo.st rfl (rfl : _ = AVal.agg _) rfl rfl rfl (by repeat (first | rfl | refine allOne_cons ?_)) (by simp only [↓nrmL, nrmZ, Nat.reduceEqDiff, ↓reduceIte, Nat.reduceAdd, Int.reduceBEq, Int.reduceBNe, h1, h2, h31, h32, h41, h42]; rfl) ?_
  refine mI rfl ?_
  refine WpO.nil (hKF _ _ ?_)
  refine Wp.ret ?_
  dsimp only [cond_true, cond_false]
  refine ⟨trivial, _, (by first | rfl | exact getAllC rfl rfl rfl rfl | exact getAllT rfl (getAllC rfl rfl rfl rfl) | exact getAllC rfl rfl rfl (getAllC rfl rfl rfl rfl) | exact getAllC1 rfl rfl rfl), ?_⟩
  exact ⟨by rw [e]; rfl, Ext0.ext⟩
 have h4 : withinB a 0 3 = true := by
  have := of_decide_eq_false h41; have := of_decide_eq_false h42
  unfold withinB; rw [decide_eq_true (p := 0 ≤ a) (by omega), decide_eq_true (p := a ≤ 3) (by omega)]; rfl
 have hcm : s + (baseS c).1 = (baseS c).1 + s := Int.add_comm _ _
 cases h5 : a == 0
 ·have e : soundS c k s a = (w6 ((baseS c).1 + s), meantI a, 0) := by unfold soundS; rw [h1, h2, h3, h4, h5]; rfl
  try simp only [↓nrmL, nrmZ, Nat.reduceEqDiff, ↓reduceIte, Nat.reduceAdd, Int.reduceBEq, Int.reduceBNe, h1, h2, h31, h32, h41, h42, h5, hcm]
  refine sq ?_
  refine rg fun KF hKF => ?_
  refine Fo.new ?_
  refine mI rfl ?_
  refine WpO.nil (hKF _ _ ?_)
  refine sq ?_
  refine rg fun KF hKF => ?_
  refine mI rfl ?_
  refine Fo.pcall (v' := ?_) hn rfl (by simp only [↓nrmL, nrmZ, Nat.reduceEqDiff, ↓reduceIte, Nat.reduceAdd, Int.reduceBEq, Int.reduceBNe, h1, h2, h31, h32, h41, h42, h5, hcm, List.map]; rfl) rfl ?hv fun _ _ => ?_; case hv => rfl
  refine mT rfl ?_
  refine Fo.extr rfl rfl ?_
  refine Fo.extr rfl rfl ?_
  refine mI rfl ?_
  refine mI rfl ?_
  refine WpO.nil (hKF _ _ ?_)
  refine sq ?_
  refine sq ?_
  refine rg fun KF hKF => ?_
  refine mI rfl ?_
  refine Fo.bin rfl rfl rfl (by simp only [↓nrmL, nrmZ, Nat.reduceEqDiff, ↓reduceIte, Nat.reduceAdd, Int.reduceBEq, Int.reduceBNe, h1, h2, h31, h32, h41, h42, h5, hcm]; rfl) ?_
  refine WpO.nil (hKF _ _ ?_)
  refine Wp.cond (b := false) rfl ?_
  refine Wp.skip ?_
  refine sq ?_
  refine sq ?_
  refine rg fun KF hKF => ?_
  refine mI rfl ?_
  refine Fo.pcall (v' := ?_) hn rfl (by simp only [↓nrmL, nrmZ, Nat.reduceEqDiff, ↓reduceIte, Nat.reduceAdd, Int.reduceBEq, Int.reduceBNe, h1, h2, h31, h32, h41, h42, h5, hcm, List.map]; rfl) rfl ?hv fun _ _ => ?_; case hv => (simp only [↓nrmL, nrmZ, Nat.reduceEqDiff, ↓reduceIte, Nat.reduceAdd, Int.reduceBEq, Int.reduceBNe, h1, h2, h31, h32, h41, h42, h5, hcm]; rfl)
  refine Fo.now rfl rfl (by simp only [↓nrmL, nrmZ, Nat.reduceEqDiff, ↓reduceIte, Nat.reduceAdd, Int.reduceBEq, Int.reduceBNe, h1, h2, h31, h32, h41, h42, h5, hcm]; rfl) ?_
  refine WpO.nil (hKF _ _ ?_)
  refine Wp.cond (b := false) rfl ?_
  refine Wp.skip ?_
  refine sq ?_
  refine sq ?_
  refine rg fun KF hKF => ?_
  refine mI rfl ?_
  refine mI rfl ?_
  refine Fo.bin rfl rfl rfl rfl ?_
  refine Fo.bin rfl rfl rfl (by simp only [↓nrmL, nrmZ, Nat.reduceEqDiff, ↓reduceIte, Nat.reduceAdd, Int.reduceBEq, Int.reduceBNe, h1, h2, h31, h32, h41, h42, h5, hcm]; rfl) ?_
  refine mB rfl ?_
  refine Fo.yes rfl rfl ?_
  refine mI rfl ?_
  refine Fo.yes rfl rfl ?_
  refine mI rfl ?_
  refine Fo.yes rfl rfl ?_
  refine Fo.bin rfl rfl rfl rfl ?_
  refine Fo.yes rfl rfl ?_
  refine Fo.bin rfl rfl rfl (by simp only [↓nrmL, nrmZ, Nat.reduceEqDiff, ↓reduceIte, Nat.reduceAdd, Int.reduceBEq, Int.reduceBNe, h1, h2, h31, h32, h41, h42, h5, hcm]; rfl) ?_
  refine fB rfl rfl ?_
  refine WpO.nil (hKF _ _ ?_)
  refine Wp.cond (b := false) rfl ?_
  refine Wp.skip ?_
  refine sq ?_
  refine sq ?_
  refine rg fun KF hKF => ?_
  refine mI rfl ?_
  refine Fo.bin rfl rfl rfl (by simp only [↓nrmL, nrmZ, Nat.reduceEqDiff, ↓reduceIte, Nat.reduceAdd, Int.reduceBEq, Int.reduceBNe, h1, h2, h31, h32, h41, h42, h5, hcm]; rfl) ?_
  refine mB rfl ?_
  refine Fo.yes rfl rfl ?_
  refine mI rfl ?_
  refine Fo.yes rfl rfl ?_
  refine Fo.bin rfl rfl rfl (by simp only [↓nrmL, nrmZ, Nat.reduceEqDiff, ↓reduceIte, Nat.reduceAdd, Int.reduceBEq, Int.reduceBNe, h1, h2, h31, h32, h41, h42, h5, hcm]; rfl) ?_
  refine fB rfl rfl ?_
  refine WpO.nil (hKF _ _ ?_)
  refine Wp.cond (b := false) rfl ?_
  refine Wp.skip ?_
  refine sq ?_
  refine sq ?_
  refine rg fun KF hKF => ?_
  refine mI rfl ?_
  refine Fo.bin rfl rfl rfl (by simp only [↓nrmL, nrmZ, Nat.reduceEqDiff, ↓reduceIte, Nat.reduceAdd, Int.reduceBEq, Int.reduceBNe, h1, h2, h31, h32, h41, h42, h5, hcm]; rfl) ?_
  refine WpO.nil (hKF _ _ ?_)
  refine Wp.cond (b := false) rfl ?_
  refine Wp.skip ?_
  refine sq ?_
  refine rg fun KF hKF => ?_
  refine mI rfl ?_
  refine mI rfl ?_
  refine Fo.bin rfl rfl rfl (by simp only [↓nrmL, nrmZ, Nat.reduceEqDiff, ↓reduceIte, Nat.reduceAdd, Int.reduceBEq, Int.reduceBNe, h1, h2, h31, h32, h41, h42, h5, hcm]; rfl) ?_
  refine mI rfl ?_
  refine Fo.pcall (v' := ?_) hn rfl (by simp only [↓nrmL, nrmZ, Nat.reduceEqDiff, ↓reduceIte, Nat.reduceAdd, Int.reduceBEq, Int.reduceBNe, h1, h2, h31, h32, h41, h42, h5, hcm, List.map]; rfl) rfl ?hv fun _ _ => ?_; case hv => rfl
  refine Fo.build (by repeat (first | refine aFill1 (by first | exact (rfl : _ = AVal.int _ _) | exact (rfl : _ = AVal.ptr _ _) | exact (rfl : _ = AVal.bool _) | exact (rfl : _ = AVal.agg _) | exact (rfl : _ = AVal.tuple _) | exact (rfl : _ = AVal.func _ _ _) | exact (rfl : _ = AVal.nslice) | ((try simp only [↓nrmL, nrmK, Nat.reduceEqDiff, ↓reduceIte]); rfl)) rfl ?_ | rfl)) (by simp only [↓nrmL, nrmZ, Nat.reduceEqDiff, ↓reduceIte, Nat.reduceAdd, Int.reduceBEq, Int.reduceBNe, h1, h2, h31, h32, h41, h42, h5, hcm]; rfl) ?_
  refine Fo.st rfl (rfl : _ = AVal.agg _) rfl rfl rfl (by repeat (first | rfl | refine allOne_cons ?_)) (by simp only [↓nrmL, nrmZ, Nat.reduceEqDiff, ↓reduceIte, Nat.reduceAdd, Int.reduceBEq, Int.reduceBNe, h1, h2, h31, h32, h41, h42, h5, hcm]; rfl) ?_
  refine mI rfl ?_
  refine WpO.nil (hKF _ _ ?_)
  refine Wp.ret ?_
  dsimp only [cond_true, cond_false]
  refine ⟨trivial, _, (by first | rfl | exact getAllC rfl rfl rfl rfl | exact getAllT rfl (getAllC rfl rfl rfl rfl) | exact getAllC rfl rfl rfl (getAllC rfl rfl rfl rfl) | exact getAllC1 rfl rfl rfl), ?_⟩
  exact ⟨by rw [e]; rfl, Ext0.ext⟩
 ·have e : soundS c k s a = (w6 ((baseS c).1 + s), alterS k (w6 ((baseS c).1 + s)), 0) := by unfold soundS; rw [h1, h2, h3, h4, h5]; rfl
  have hst : stepB (w6 ((baseS c).1 + s)) = true := by
   rw [ew] at h3
   simp only [Bool.and_eq_true, decide_eq_true_eq] at h3
   have e1 : w6 (0 - (baseS c).1) = 0 - (baseS c).1 := by rcases base_ok h1 with h | h | h <;> (rw [h]; rfl)
   have e2 : w6 (69 - (baseS c).1) = 69 - (baseS c).1 := by rcases base_ok h1 with h | h | h <;> (rw [h]; rfl)
   rw [e1, e2] at h3
   have e3 : w6 ((baseS c).1 + s) = (baseS c).1 + s := by rcases base_ok h1 with h | h | h <;> (rw [h] at h3 ⊢; exact w64r (by omega) (by omega))
   rw [e3]
   unfold stepB withinB
   rw [decide_eq_true (p := 0 ≤ _) (by omega), decide_eq_true (p := _ ≤ (69 : Int)) (by omega)]; rfl
  have ea : alterR k (w6 ((baseS c).1 + s)) = (alterS k (w6 ((baseS c).1 + s)), 0) := by unfold alterR; rw [h2, hst]; rfl
  try simp only [↓nrmL, nrmZ, Nat.reduceEqDiff, ↓reduceIte, Nat.reduceAdd, Int.reduceBEq, Int.reduceBNe, h1, h2, h31, h32, h41, h42, h5, hcm]
  refine sq ?_
  refine rg fun KF hKF => ?_
  refine Fo.new ?_
  refine mI rfl ?_
  refine WpO.nil (hKF _ _ ?_)
  refine sq ?_
  refine rg fun KF hKF => ?_
  refine mI rfl ?_
  refine Fo.pcall (v' := ?_) hn rfl (by simp only [↓nrmL, nrmZ, Nat.reduceEqDiff, ↓reduceIte, Nat.reduceAdd, Int.reduceBEq, Int.reduceBNe, h1, h2, h31, h32, h41, h42, h5, hcm, List.map]; rfl) rfl ?hv fun _ _ => ?_; case hv => rfl
  refine mT rfl ?_
  refine Fo.extr rfl rfl ?_
  refine Fo.extr rfl rfl ?_
  refine mI rfl ?_
  refine mI rfl ?_
  refine WpO.nil (hKF _ _ ?_)
  refine sq ?_
  refine sq ?_
  refine rg fun KF hKF => ?_
  refine mI rfl ?_
  refine Fo.bin rfl rfl rfl (by simp only [↓nrmL, nrmZ, Nat.reduceEqDiff, ↓reduceIte, Nat.reduceAdd, Int.reduceBEq, Int.reduceBNe, h1, h2, h31, h32, h41, h42, h5, hcm]; rfl) ?_
  refine WpO.nil (hKF _ _ ?_)
  refine Wp.cond (b := false) rfl ?_
  refine Wp.skip ?_
  refine sq ?_
  refine sq ?_
  refine rg fun KF hKF => ?_
  refine mI rfl ?_
  refine Fo.pcall (v' := ?_) hn rfl (by simp only [↓nrmL, nrmZ, Nat.reduceEqDiff, ↓reduceIte, Nat.reduceAdd, Int.reduceBEq, Int.reduceBNe, h1, h2, h31, h32, h41, h42, h5, hcm, List.map]; rfl) rfl ?hv fun _ _ => ?_; case hv => (simp only [↓nrmL, nrmZ, Nat.reduceEqDiff, ↓reduceIte, Nat.reduceAdd, Int.reduceBEq, Int.reduceBNe, h1, h2, h31, h32, h41, h42, h5, hcm]; rfl)
  refine Fo.now rfl rfl (by simp only [↓nrmL, nrmZ, Nat.reduceEqDiff, ↓reduceIte, Nat.reduceAdd, Int.reduceBEq, Int.reduceBNe, h1, h2, h31, h32, h41, h42, h5, hcm]; rfl) ?_
  refine WpO.nil (hKF _ _ ?_)
  refine Wp.cond (b := false) rfl ?_
  refine Wp.skip ?_
  refine sq ?_
  refine sq ?_
  refine rg fun KF hKF => ?_
  refine mI rfl ?_
  refine mI rfl ?_
  refine Fo.bin rfl rfl rfl rfl ?_
  refine Fo.bin rfl rfl rfl (by simp only [↓nrmL, nrmZ, Nat.reduceEqDiff, ↓reduceIte, Nat.reduceAdd, Int.reduceBEq, Int.reduceBNe, h1, h2, h31, h32, h41, h42, h5, hcm]; rfl) ?_
  refine mB rfl ?_
  refine Fo.yes rfl rfl ?_
  refine mI rfl ?_
  refine Fo.yes rfl rfl ?_
  refine mI rfl ?_
  refine Fo.yes rfl rfl ?_
  refine Fo.bin rfl rfl rfl rfl ?_
  refine Fo.yes rfl rfl ?_
  refine Fo.bin rfl rfl rfl (by simp only [↓nrmL, nrmZ, Nat.reduceEqDiff, ↓reduceIte, Nat.reduceAdd, Int.reduceBEq, Int.reduceBNe, h1, h2, h31, h32, h41, h42, h5, hcm]; rfl) ?_
  refine fB rfl rfl ?_
  refine WpO.nil (hKF _ _ ?_)
  refine Wp.cond (b := false) rfl ?_
  refine Wp.skip ?_
  refine sq ?_
  refine sq ?_
  refine rg fun KF hKF => ?_
  refine mI rfl ?_
  refine Fo.bin rfl rfl rfl (by simp only [↓nrmL, nrmZ, Nat.reduceEqDiff, ↓reduceIte, Nat.reduceAdd, Int.reduceBEq, Int.reduceBNe, h1, h2, h31, h32, h41, h42, h5, hcm]; rfl) ?_
  refine mB rfl ?_
  refine Fo.yes rfl rfl ?_
  refine mI rfl ?_
  refine Fo.yes rfl rfl ?_
  refine Fo.bin rfl rfl rfl (by simp only [↓nrmL, nrmZ, Nat.reduceEqDiff, ↓reduceIte, Nat.reduceAdd, Int.reduceBEq, Int.reduceBNe, h1, h2, h31, h32, h41, h42, h5, hcm]; rfl) ?_
  refine fB rfl rfl ?_
  refine WpO.nil (hKF _ _ ?_)
  refine Wp.cond (b := false) rfl ?_
  refine Wp.skip ?_
  refine sq ?_
  refine sq ?_
  refine rg fun KF hKF => ?_
  refine mI rfl ?_
  refine Fo.bin rfl rfl rfl (by simp only [↓nrmL, nrmZ, Nat.reduceEqDiff, ↓reduceIte, Nat.reduceAdd, Int.reduceBEq, Int.reduceBNe, h1, h2, h31, h32, h41, h42, h5, hcm]; rfl) ?_
  refine WpO.nil (hKF _ _ ?_)
  refine Wp.cond (b := true) rfl ?_
  refine sq ?_
  refine rg fun KF hKF => ?_
  refine mI rfl ?_
  refine mI rfl ?_
  refine mI rfl ?_
  refine Fo.bin rfl rfl rfl (by simp only [↓nrmL, nrmZ, Nat.reduceEqDiff, ↓reduceIte, Nat.reduceAdd, Int.reduceBEq, Int.reduceBNe, h1, h2, h31, h32, h41, h42, h5, hcm]; rfl) ?_
  refine Fo.pcall (v' := ?_) hn rfl (by simp only [↓nrmL, nrmZ, Nat.reduceEqDiff, ↓reduceIte, Nat.reduceAdd, Int.reduceBEq, Int.reduceBNe, h1, h2, h31, h32, h41, h42, h5, hcm, List.map]; rfl) rfl ?hv fun _ _ => ?_; case hv => rfl
  refine mT rfl ?_
  refine Fo.extr rfl rfl ?_
  refine Fo.extr rfl rfl ?_
  refine mI rfl ?_
  refine mI rfl ?_
  refine WpO.nil (hKF _ _ ?_)
  refine sq ?_
  refine rg fun KF hKF => ?_
  refine mI rfl ?_
  refine mI rfl ?_
  refine Fo.bin rfl rfl rfl (by simp only [↓nrmL, nrmZ, Nat.reduceEqDiff, ↓reduceIte, Nat.reduceAdd, Int.reduceBEq, Int.reduceBNe, h1, h2, h31, h32, h41, h42, h5, hcm]; rfl) ?_
  refine mI rfl ?_
  refine Fo.build (by repeat (first | refine aFill1 (by first | exact (rfl : _ = AVal.int _ _) | exact (rfl : _ = AVal.ptr _ _) | exact (rfl : _ = AVal.bool _) | exact (rfl : _ = AVal.agg _) | exact (rfl : _ = AVal.tuple _) | exact (rfl : _ = AVal.func _ _ _) | exact (rfl : _ = AVal.nslice) | ((try simp only [↓nrmL, nrmK, Nat.reduceEqDiff, ↓reduceIte]); rfl)) rfl ?_ | rfl)) (by simp only [↓nrmL, nrmZ, Nat.reduceEqDiff, ↓reduceIte, Nat.reduceAdd, Int.reduceBEq, Int.reduceBNe, h1, h2, h31, h32, h41, h42, h5, hcm]; rfl) ?_
  refine Fo.st rfl (rfl : _ = AVal.agg _) rfl rfl rfl (by repeat (first | rfl | refine allOne_cons ?_)) (by simp only [↓nrmL, nrmZ, Nat.reduceEqDiff, ↓reduceIte, Nat.reduceAdd, Int.reduceBEq, Int.reduceBNe, h1, h2, h31, h32, h41, h42, h5, hcm]; rfl) ?_
  refine mI rfl ?_
  refine WpO.nil (hKF _ _ ?_)
  refine Wp.ret ?_
  dsimp only [cond_true, cond_false]
  refine ⟨trivial, _, (by first | rfl | exact getAllC rfl rfl rfl rfl | exact getAllT rfl (getAllC rfl rfl rfl rfl) | exact getAllC rfl rfl rfl (getAllC rfl rfl rfl rfl) | exact getAllC1 rfl rfl rfl), ?_⟩
  exact ⟨by rw [e, ea]; rfl, Ext0.ext⟩⟩

instance K_staves {c s a k st ac : Int} {H : AHeap} : PureCon ext prog 22 [.int .i64 c, .agg [.int .i64 s, .int .i64 a], .int .i64 k, .int .i64 st, .int .i64 ac] H 5 (.bool true) := ⟨by
 refine con_of (show prog 22 = some c22 from rfl) rfl rfl fun m hn => ?_
 try simp only [↓nrmL, nrmZ, Nat.reduceEqDiff, ↓reduceIte, Nat.reduceAdd, Int.reduceBEq, Int.reduceBNe, beqS]
 refine sq ?_
 refine rg fun KF hKF => ?_
 refine Fo.boxA rfl ?_
 refine mB rfl ?_
 refine WpO.nil (hKF _ _ ?_)
 refine sq ?_
 refine rg fun KF hKF => ?_
 refine mI rfl ?_
 refine Fo.ldN rfl rfl (by simp only [↓nrmL, nrmZ, Nat.reduceEqDiff, ↓reduceIte, Nat.reduceAdd, Int.reduceBEq, Int.reduceBNe, beqS]; rfl) ?_
 refine Fo.pcall (v' := ?_) hn rfl (by simp only [↓nrmL, nrmZ, Nat.reduceEqDiff, ↓reduceIte, Nat.reduceAdd, Int.reduceBEq, Int.reduceBNe, beqS, List.map]; rfl) rfl ?hv fun _ _ => ?_; case hv => rfl
 refine mT rfl ?_
 refine Fo.extr rfl rfl ?_
 refine Fo.extr rfl rfl ?_
 refine mI rfl ?_
 refine mI rfl ?_
 refine WpO.nil (hKF _ _ ?_)
 refine sq ?_
 refine rg fun KF hKF => ?_
 refine mI rfl ?_
 refine Fo.ldN rfl rfl (by simp only [↓nrmL, nrmZ, Nat.reduceEqDiff, ↓reduceIte, Nat.reduceAdd, Int.reduceBEq, Int.reduceBNe, beqS]; rfl) ?_
 refine Fo.pcall (v' := ?_) hn rfl (by simp only [↓nrmL, nrmZ, Nat.reduceEqDiff, ↓reduceIte, Nat.reduceAdd, Int.reduceBEq, Int.reduceBNe, beqS, List.map]; rfl) rfl ?hv fun _ _ => ?_; case hv => rfl
 refine mT rfl ?_
 refine Fo.extr rfl rfl ?_
 refine Fo.extr rfl rfl ?_
 refine mI rfl ?_
 refine mI rfl ?_
 refine WpO.nil (hKF _ _ ?_)
 refine sq ?_
 refine rg fun KF hKF => ?_
 refine mI rfl ?_
 refine mI rfl ?_
 refine Fo.pcall (v' := ?_) hn rfl (by simp only [↓nrmL, nrmZ, Nat.reduceEqDiff, ↓reduceIte, Nat.reduceAdd, Int.reduceBEq, Int.reduceBNe, beqS, List.map]; rfl) rfl ?hv fun _ _ => ?_; case hv => rfl
 refine mT rfl ?_
 refine Fo.extr rfl rfl ?_
 refine Fo.extr rfl rfl ?_
 refine mI rfl ?_
 refine mI rfl ?_
 refine WpO.nil (hKF _ _ ?_)
 refine sq ?_
 refine rg fun KF hKF => ?_
 refine mI rfl ?_
 refine mI rfl ?_
 refine Fo.pcall (v' := ?_) hn rfl (by simp only [↓nrmL, nrmZ, Nat.reduceEqDiff, ↓reduceIte, Nat.reduceAdd, Int.reduceBEq, Int.reduceBNe, beqS, List.map]; rfl) rfl ?hv fun _ _ => ?_; case hv => rfl
 refine mT rfl ?_
 refine Fo.extr rfl rfl ?_
 refine Fo.extr rfl rfl ?_
 refine mI rfl ?_
 refine mI rfl ?_
 refine WpO.nil (hKF _ _ ?_)
 refine sq ?_
 refine rg fun KF hKF => ?_
 refine mI rfl ?_
 refine mI rfl ?_
 refine mI rfl ?_
 refine mI rfl ?_
 refine Fo.pcall (v' := ?_) hn rfl (by simp only [↓nrmL, nrmZ, Nat.reduceEqDiff, ↓reduceIte, Nat.reduceAdd, Int.reduceBEq, Int.reduceBNe, beqS, List.map]; rfl) rfl ?hv fun _ _ => ?_; case hv => rfl
 refine mT rfl ?_
 refine Fo.extr rfl rfl ?_
 refine Fo.extr rfl rfl ?_
 refine Fo.new ?_
 refine Fo.st rfl (rfl : _ = AVal.agg _) rfl rfl rfl (by repeat (first | rfl | refine allOne_cons ?_)) (by simp only [↓nrmL, nrmZ, Nat.reduceEqDiff, ↓reduceIte, Nat.reduceAdd, Int.reduceBEq, Int.reduceBNe, beqS]; rfl) ?_
 refine mI rfl ?_
 refine WpO.nil (hKF _ _ ?_)
 refine sq ?_
 refine rg fun KF hKF => ?_
 refine mI rfl ?_
 refine mI rfl ?_
 refine mI rfl ?_
 refine mI rfl ?_
 refine Fo.pcall (v' := ?_) hn rfl (by simp only [↓nrmL, nrmZ, Nat.reduceEqDiff, ↓reduceIte, Nat.reduceAdd, Int.reduceBEq, Int.reduceBNe, beqS, List.map]; rfl) rfl ?hv fun _ _ => ?_; case hv => rfl
 refine mT rfl ?_
 refine Fo.extr rfl rfl ?_
 refine Fo.extr rfl rfl ?_
 refine Fo.new ?_
 refine Fo.st rfl (rfl : _ = AVal.agg _) rfl rfl rfl (by repeat (first | rfl | refine allOne_cons ?_)) (by simp only [↓nrmL, nrmZ, Nat.reduceEqDiff, ↓reduceIte, Nat.reduceAdd, Int.reduceBEq, Int.reduceBNe, beqS]; rfl) ?_
 refine mI rfl ?_
 refine WpO.nil (hKF _ _ ?_)
 refine sq ?_
 refine rg fun KF hKF => ?_
 refine mI rfl ?_
 refine mI rfl ?_
 refine Fo.bin rfl rfl rfl (by simp only [↓nrmL, nrmZ, Nat.reduceEqDiff, ↓reduceIte, Nat.reduceAdd, Int.reduceBEq, Int.reduceBNe, beqS]; rfl) ?_
 refine mB rfl ?_
 refine Fo.yes rfl rfl ?_
 refine mI rfl ?_
 refine Fo.yes rfl rfl ?_
 refine mI rfl ?_
 refine Fo.yes rfl rfl ?_
 refine Fo.bin rfl rfl rfl (by simp only [↓nrmL, nrmZ, Nat.reduceEqDiff, ↓reduceIte, Nat.reduceAdd, Int.reduceBEq, Int.reduceBNe, beqS]; rfl) ?_
 refine tB rfl rfl ?_
 refine mB rfl ?_
 refine Fo.yes rfl rfl ?_
 refine mI rfl ?_
 refine Fo.yes rfl rfl ?_
 refine mI rfl ?_
 refine Fo.yes rfl rfl ?_
 refine Fo.bin rfl rfl rfl (by simp only [↓nrmL, nrmZ, Nat.reduceEqDiff, ↓reduceIte, Nat.reduceAdd, Int.reduceBEq, Int.reduceBNe, beqS]; rfl) ?_
 refine tB rfl rfl ?_
 refine mB rfl ?_
 refine Fo.yes rfl rfl ?_
 refine mI rfl ?_
 refine Fo.yes rfl rfl ?_
 refine mI rfl ?_
 refine Fo.yes rfl rfl ?_
 refine Fo.bin rfl rfl rfl (by simp only [↓nrmL, nrmZ, Nat.reduceEqDiff, ↓reduceIte, Nat.reduceAdd, Int.reduceBEq, Int.reduceBNe, beqS]; rfl) ?_
 refine tB rfl rfl ?_
 refine mB rfl ?_
 refine Fo.yes rfl rfl ?_
 refine Fo.ldN rfl rfl (by simp only [↓nrmL, nrmZ, Nat.reduceEqDiff, ↓reduceIte, Nat.reduceAdd, Int.reduceBEq, Int.reduceBNe, beqS]; rfl) ?_
 refine Fo.yes rfl rfl ?_
 refine Fo.ldN rfl rfl (by simp only [↓nrmL, nrmZ, Nat.reduceEqDiff, ↓reduceIte, Nat.reduceAdd, Int.reduceBEq, Int.reduceBNe, beqS]; rfl) ?_
 refine Fo.yes rfl rfl ?_
 refine Fo.now rfl (exec_eqT rfl rfl (aEq_same _ _)) rfl ?_
 try simp only [↓nrmL, nrmZ, Nat.reduceEqDiff, ↓reduceIte, Nat.reduceAdd, Int.reduceBEq, Int.reduceBNe, beqS]
 refine tB rfl rfl ?_
 refine mB rfl ?_
 refine Fo.yes rfl rfl ?_
 refine mI rfl ?_
 refine Fo.yes rfl rfl ?_
 refine mI rfl ?_
 refine Fo.yes rfl rfl ?_
 refine Fo.bin rfl rfl rfl (by simp only [↓nrmL, nrmZ, Nat.reduceEqDiff, ↓reduceIte, Nat.reduceAdd, Int.reduceBEq, Int.reduceBNe, beqS]; rfl) ?_
 refine tB rfl rfl ?_
 refine mB rfl ?_
 refine WpO.nil (hKF _ _ ?_)
 refine Wp.ret ?_
 dsimp only [cond_true, cond_false]
 refine ⟨trivial, _, (by first | rfl | exact getAllC rfl rfl rfl rfl | exact getAllT rfl (getAllC rfl rfl rfl rfl) | exact getAllC rfl rfl rfl (getAllC rfl rfl rfl rfl) | exact getAllC1 rfl rfl rfl), ?_⟩
 exact ⟨rfl, Ext0.ext⟩⟩
instance K_ToneStaves {c s a k st ac : Int} {H : AHeap} : PureCon ext prog 5 [.int .i64 c, .agg [.int .i64 s, .int .i64 a], .int .i64 k, .int .i64 st, .int .i64 ac] H 6 (.bool true) := ⟨by
 refine con_of (show prog 5 = some c5 from rfl) rfl rfl fun m hn => ?_
 refine sq ?_
 refine rg fun KF hKF => ?_
 refine Fo.boxA rfl ?_
 refine mB rfl ?_
 refine WpO.nil (hKF _ _ ?_)
 refine sq ?_
 refine rg fun KF hKF => ?_
 refine mI rfl ?_
 refine Fo.ldN rfl rfl (by simp only [↓nrmL, nrmZ, Nat.reduceEqDiff, ↓reduceIte, Nat.reduceAdd, Int.reduceBEq, Int.reduceBNe]; rfl) ?_
 refine mI rfl ?_
 refine mI rfl ?_
 refine mI rfl ?_
 refine Fo.pcall (v' := ?_) hn rfl (by simp only [↓nrmL, nrmZ, Nat.reduceEqDiff, ↓reduceIte, Nat.reduceAdd, Int.reduceBEq, Int.reduceBNe, List.map]; rfl) rfl ?hv fun _ _ => ?_; case hv => rfl
 refine mB rfl ?_
 refine Fo.yes rfl rfl ?_
 refine Fo.pcall (v' := ?_) hn rfl (by simp only [↓nrmL, nrmZ, Nat.reduceEqDiff, ↓reduceIte, Nat.reduceAdd, Int.reduceBEq, Int.reduceBNe, List.map]; rfl) rfl ?hv fun _ _ => ?_; case hv => rfl
 refine tB rfl rfl ?_
 refine mB rfl ?_
 refine WpO.nil (hKF _ _ ?_)
 refine Wp.ret ?_
 dsimp only [cond_true, cond_false]
 refine ⟨trivial, _, (by first | rfl | exact getAllC rfl rfl rfl rfl | exact getAllT rfl (getAllC rfl rfl rfl rfl) | exact getAllC rfl rfl rfl (getAllC rfl rfl rfl rfl) | exact getAllC1 rfl rfl rfl), ?_⟩
 exact ⟨rfl, Ext0.ext⟩⟩
end Go.Am

set_option maxRecDepth 100000
set_option maxHeartbeats 4000000
namespace Go.Proofs.YtcklaifhanehmaaDoor.ToneStaves
open Go.ChangeShapes Go.WideShapes Go.ChangeAt Go.RowKit Go.Am Go.Proofs.YtcklaifhanehmaaDoor.Laid

theorem con (H : AHeap) (avs : List AVal) (ht : tablesIn aroundT H = true) (h : ArgS Tryd.prog H 3 [29, 38, 3, 3, 3] avs) : Con ext prog 6 5 avs H fun v H' => v = .bool true ∧ Ext H H' := by
  obtain ⟨a0, r0, rfl, h0, a1, r1, rfl, h1, a2, r2, rfl, h2, a3, r3, rfl, h3, a4, r4, rfl, h4, rfl⟩ := h
  obtain ⟨i0, rfl, wf0⟩ := shape_int Tryd.underlying29 h0
  haveI := i64_of wf0
  obtain ⟨x1, y1, rfl, wx1, wy1⟩ := shape_pair (ti := 3) Tryd.underlying38 (by kernel_rfl) Tryd.underlying3 h1
  obtain ⟨i2, rfl, wf2⟩ := shape_int Tryd.underlying3 h2
  haveI := i64_of wf2
  obtain ⟨i3, rfl, wf3⟩ := shape_int Tryd.underlying3 h3
  haveI := i64_of wf3
  obtain ⟨i4, rfl, wf4⟩ := shape_int Tryd.underlying3 h4
  haveI := i64_of wf4
  have e0 : argV Tryd.prog 29 [.int .i64 i0] = .int .i64 i0 := by simp only [argV, show aggTy Tryd.prog 29 = false by kernel_rfl, cond_false, List.headD_cons]
  have e1 : argV Tryd.prog 38 [.int .i64 x1, .int .i64 y1] = .agg [.int .i64 x1, .int .i64 y1] := by simp only [argV, show aggTy Tryd.prog 38 = true by kernel_rfl, cond_true]
  have e2 : argV Tryd.prog 3 [.int .i64 i2] = .int .i64 i2 := by simp only [argV, show aggTy Tryd.prog 3 = false by kernel_rfl, cond_false, List.headD_cons]
  have e3 : argV Tryd.prog 3 [.int .i64 i3] = .int .i64 i3 := by simp only [argV, show aggTy Tryd.prog 3 = false by kernel_rfl, cond_false, List.headD_cons]
  have e4 : argV Tryd.prog 3 [.int .i64 i4] = .int .i64 i4 := by simp only [argV, show aggTy Tryd.prog 3 = false by kernel_rfl, cond_false, List.headD_cons]
  rw [e0, e1, e2, e3, e4]
  exact K_ToneStaves.con

theorem contract (H : Type) (enc : TypeId × Value → H) (W : World) (base : Nat) (args : Array Value) (ds gs : List (DataW H)) (before : List MemPlace)
    (hval : ∀ (j : Nat) t v, Tryd.f5.params[j]? = some t → args[j]? = some v → Value.okWide Tryd.prog W .any base t v)
    (hW : DataW.Whole enc Tryd.prog Tryd.f5.params.toList Rows.toneStavesSpec.vars false W args.toList ds gs before) (hL : laidMetH Tryd.prog Rows.toneStavesRow.laid W) :
    Calls Tryd.prog 5 args W fun e W' => ∃ v, e = .returned v ∧ Rows.toneStavesSpec.post enc Tryd.prog Tryd.f5 false true false false W args v W' := by
  have hW' := hW
  obtain ⟨p, q, hA, _⟩ := hW'
  rw [Tryd.params5] at hA
  obtain ⟨v0, vs0, d0, ds0, p0, q0, _, rfl, _, _, r0⟩ := trodAll_cons hA
  obtain ⟨v1, vs1, d1, ds1, p1, q1, _, rfl, _, _, r1⟩ := trodAll_cons r0
  obtain ⟨v2, vs2, d2, ds2, p2, q2, _, rfl, _, _, r2⟩ := trodAll_cons r1
  obtain ⟨v3, vs3, d3, ds3, p3, q3, _, rfl, _, _, r3⟩ := trodAll_cons r2
  obtain ⟨v4, vs4, d4, ds4, p4, q4, _, rfl, _, _, r4⟩ := trodAll_cons r3
  obtain ⟨_, rfl, _⟩ := trodAll_nil r4
  exact law_calls (tb := 4) (n := 3) (d := 6) (tabs := aroundT) mixed progOk Tryd.func5 rfl (by decide +kernel) laidOut rowed full (by kernel_rfl) rfl (by kernel_rfl) Tryd.underlying4 (by kernel_rfl) (by kernel_rfl)
    (fun H avs ht h => con H avs ht (by rw [Tryd.params5] at h; exact h)) H enc W base args _ gs before rfl hval hW around_cells

theorem laid_met (os : Os) : laidMet Tryd.prog Rows.toneStavesRow.laid ((laidWorld os).forCall (fun _ _ => 0) ⟨#[], #[.int .i64 0, .agg #[.int .i64 0, .int .i64 0], .int .i64 0, .int .i64 0, .int .i64 0], []⟩).memory :=
  laidMet_of_run' 8 (by kernel_rfl) (by kernel_rfl)
theorem reads (os : Os) {H : Type} (enc : TypeId × Value → H) : ∃ places, DataW.whole enc Tryd.prog ((laidWorld os).forCall (fun _ _ => 0) ⟨#[], #[.int .i64 0, .agg #[.int .i64 0, .int .i64 0], .int .i64 0, .int .i64 0, .int .i64 0], []⟩).memory Tryd.f5.params.toList Rows.toneStavesSpec.vars false #[Value.int .i64 0, .agg #[.int .i64 0, .int .i64 0], .int .i64 0, .int .i64 0, .int .i64 0].toList 8 = some ([.lit (.int .i64 0), .agg [.lit (.int .i64 0), .lit (.int .i64 0)], .lit (.int .i64 0), .lit (.int .i64 0), .lit (.int .i64 0)], [], places) :=
  ⟨[], by kernel_rfl⟩

theorem lifted (os : Os) (started : os.Started) (H : Type) (enc : TypeId × Value → H) (F : Stop.Interp) :
    ReturnsInHanded {} Tryd.checked os 5 .any ((OpenSpec.ofChange Rows.toneStavesSpec).preRow enc Tryd.prog Tryd.f5 Rows.toneStavesRow.domain false Rows.toneStavesRow.laid) (((OpenSpec.ofChange Rows.toneStavesSpec).at F).post enc Tryd.prog Tryd.f5 false true false false) := by
  obtain ⟨places, hx⟩ := reads os enc
  refine returnsInHanded_of_row (C := Tryd.checked) (s := OpenSpec.ofChange Rows.toneStavesSpec) own started (by kernel_rfl) Tryd.func5
    (witness_row_at (enc := enc) (C := Tryd.checked) false (laidWorld os) #[.int .i64 0, .agg #[.int .i64 0, .int .i64 0], .int .i64 0, .int .i64 0, .int .i64 0] rfl (by kernel_rfl) (by kernel_rfl) (by kernel_rfl)
      (OpenSpec.preRow_of_cond 8 hx (by kernel_rfl) (fun k hk => by cases hk) (by kernel_rfl) (laid_met os))) ?_
  intro W base args ds gs before hval hW _ _ _ hL _ _
  exact contract H enc W base args ds gs before hval hW hL

theorem said : Rows.ToneStavesSaid :=
  OpenClaim.holds_of_cond 5 Tryd.f5 rfl rfl rfl rfl rfl rfl rfl ⟨rfl, rfl, rfl, rfl, rfl⟩ rfl rfl rfl rfl rfl (by kernel_rfl) Tryd.func5 (by kernel_rfl)
    (of_decide_eq_true (by kernel_rfl)) (by unfold Func.isWrapper; first | (rw [if_pos (by decide +kernel)]; kernel_rfl) | (rw [if_neg (by decide +kernel)]; exact ⟨rfl, rfl⟩))
    (fun os started H enc _ F => by rw [OpenClaim.pre_eq_preRow]; exact lifted os started H enc F)

theorem plain (f : FuncId) (fn : Func) (hf : Tryd.pinned.checked.prog.funcNamed "custos/custoslaw05.ToneStaves" = some f) (hfn : Tryd.pinned.checked.prog.funcs[f]? = some fn) :
    true = Tryd.pinned.checked.prog.looks [] ∧ ∀ (j : Nat) t, fn.params[j]? = some t → Tryd.pinned.checked.prog.wantsStandIn t = false := by
  obtain rfl : f = 5 := Option.some.inj ((show Tryd.prog.funcNamed "custos/custoslaw05.ToneStaves" = some 5 by kernel_rfl).symm.trans hf) |>.symm
  obtain rfl : fn = Tryd.f5 := (Option.some.inj (Tryd.func5.symm.trans hfn)).symm
  refine ⟨by kernel_rfl, fun j t ht => ?_⟩
  have h := List.all_eq_true.1 (show (Tryd.f5.params.toList.all fun t => !(Tryd.prog.wantsStandIn t)) = true by kernel_rfl) t (by simpa using Array.mem_of_getElem? ht)
  have h2 : Tryd.prog.wantsStandIn t = false := by simpa using h
  exact h2

/-- The card. -/
theorem card : Rows.ToneStavesCardSaid :=
  Claim7.holds_tied_plain_at .later [] _ _ _ _ said (fun _ h => by cases h) (by kernel_rfl) (fun _ h => by cases h) toneStaves_row_tie rfl ⟨rfl, rfl⟩ (by kernel_rfl) rfl plain (by kernel_rfl)
end Go.Proofs.YtcklaifhanehmaaDoor.ToneStaves
