/-
  CleanSkews returns true for all images and all numbers, and leaves the image as it was. No condition.
-/
import Derived.Test.YtdbgdhjcpmacoaaAmBE
set_option linter.unusedSimpArgs false
set_option linter.unusedVariables false
set_option maxHeartbeats 4000000
set_option maxRecDepth 100000
set_option synthInstance.maxHeartbeats 2000000
set_option synthInstance.maxSize 1000000000
namespace Go.Am
open Go
attribute [local irreducible] Wp WpO WpX WpE
theorem lv_get {l : List UInt8} {i : Nat} (h : i < (lv l).length) : (lv l)[i] = (lv l).getD i 0 := by
 rw [List.getD_eq_getElem?_getD, List.getElem?_eq_getElem h, Option.getD_some]
instance K_Level {w h : Int} {p : AVal} {H : AHeap} {l : List UInt8} [hp : BytesI H p l] : PureCon ext prog 10 [.agg [.int .i64 w, .int .i64 h, p]] H 5 (.tuple [.int .i64 (levelS ⟨w, h, l⟩).1, .int .i64 (levelS ⟨w, h, l⟩).2]) := ⟨by
 refine con_of (show prog 10 = some c10 from rfl) rfl rfl fun n hn => ?_
 haveI := hp.one
 cases hs : Img.sized ⟨w, h, l⟩
 ·have e1 : levelS ⟨w, h, l⟩ = (0, 2) := by simp only [levelS, hs, cond_false]
  have e2 : lvSpec ⟨w, h, l⟩ = ([], 2) := by simp [lvSpec, hs]
  rw [e1]
  refine sq ?_
  refine rg fun KF hKF => ?_
  refine Fo.boxA rfl ?_
  refine mI rfl ?_
  refine mI rfl ?_
  refine WpO.nil (hKF _ _ ?_)
  refine sq ?_
  refine rg fun KF hKF => ?_
  refine Fo.ldN rfl rfl (by simp only [↓nrmL, nrmZ, Nat.reduceEqDiff, ↓reduceIte, Nat.reduceAdd, Int.reduceBEq, Int.reduceBNe]; rfl) ?_
  refine WpO.do (WpX.conD hn rfl rfl (by simp only [↓nrmL, nrmZ, Nat.reduceEqDiff, ↓reduceIte, Nat.reduceAdd, Int.reduceBEq, Int.reduceBNe, List.map] <;> rfl) (K_Levels (w := w) (h := h) (l := l)) fun v H1 h5 => ?_)
  rw [e2] at h5
  obtain ⟨q, rfl, hq, hf, hw, hx⟩ := h5
  haveI : ExtI _ H1 := ⟨hx⟩
  haveI := hq.one
  refine mT rfl ?_
  refine Fo.extr rfl rfl ?_
  refine Fo.extr rfl rfl ?_
  refine Fo.mov (by simp only [↓nrmL, nrmK, Nat.reduceEqDiff, ↓reduceIte]; rfl) ?_
  refine mI rfl ?_
  refine WpO.nil (hKF _ _ ?_)
  refine sq ?_
  refine sq ?_
  refine rg fun KF hKF => ?_
  refine mI rfl ?_
  refine Fo.bin rfl rfl rfl (by simp only [↓nrmL, nrmZ, Nat.reduceEqDiff, ↓reduceIte, Nat.reduceAdd, Int.reduceBEq, Int.reduceBNe]; rfl) ?_
  refine WpO.nil (hKF _ _ ?_)
  refine Wp.cond (b := true) rfl ?_
  refine sq ?_
  refine rg fun KF hKF => ?_
  refine mI rfl ?_
  refine mI rfl ?_
  refine mI rfl ?_
  refine WpO.nil (hKF _ _ ?_)
  refine Wp.ret ?_
  dsimp only [cond_true, cond_false]
  refine ⟨trivial, _, (by first | rfl | exact getAllC rfl rfl rfl rfl | exact getAllT rfl (getAllC rfl rfl rfl rfl) | exact getAllC rfl rfl rfl (getAllC rfl rfl rfl rfl) | exact getAllC1 rfl rfl rfl), ?_⟩
  exact ⟨rfl, Ext0.ext⟩
 have e1 : levelS ⟨w, h, l⟩ = ((lvP (fun i => (lv l).getD i 0) 256).1.1, 0) := by simp only [levelS, hs, cond_true]
 have e2 : lvSpec ⟨w, h, l⟩ = (lv l, 0) := by simp [lvSpec, hs]
 rw [e1]
 refine sq ?_
 refine rg fun KF hKF => ?_
 refine Fo.boxA rfl ?_
 refine mI rfl ?_
 refine mI rfl ?_
 refine WpO.nil (hKF _ _ ?_)
 refine sq ?_
 refine rg fun KF hKF => ?_
 refine Fo.ldN rfl rfl (by simp only [↓nrmL, nrmZ, Nat.reduceEqDiff, ↓reduceIte, Nat.reduceAdd, Int.reduceBEq, Int.reduceBNe]; rfl) ?_
 refine WpO.do (WpX.conD hn rfl rfl (by simp only [↓nrmL, nrmZ, Nat.reduceEqDiff, ↓reduceIte, Nat.reduceAdd, Int.reduceBEq, Int.reduceBNe, List.map] <;> rfl) (K_Levels (w := w) (h := h) (l := l)) fun v H1 h5 => ?_)
 rw [e2] at h5
 obtain ⟨q, rfl, hq, hf, hw, hx⟩ := h5
 haveI : ExtI _ H1 := ⟨hx⟩
 have hq : IntsI H1 q (lv l) := hq
 haveI := hq.one
 have hll := lv_length l
 refine mT rfl ?_
 refine Fo.extr rfl rfl ?_
 refine Fo.extr rfl rfl ?_
 refine Fo.mov (by simp only [↓nrmL, nrmK, Nat.reduceEqDiff, ↓reduceIte]; rfl) ?_
 refine mI rfl ?_
 refine WpO.nil (hKF _ _ ?_)
 refine sq ?_
 refine sq ?_
 refine rg fun KF hKF => ?_
 refine mI rfl ?_
 refine Fo.bin rfl rfl rfl (by simp only [↓nrmL, nrmZ, Nat.reduceEqDiff, ↓reduceIte, Nat.reduceAdd, Int.reduceBEq, Int.reduceBNe]; rfl) ?_
 refine WpO.nil (hKF _ _ ?_)
 refine Wp.cond (b := false) rfl ?_
 refine Wp.skip ?_
 refine sq ?_
 refine rg fun KF hKF => ?_
 refine mI rfl ?_
 refine mI rfl ?_
 refine mI rfl ?_
 refine WpO.nil (hKF _ _ ?_)
 refine sq ?_
 refine sq ?_
 refine rg fun KF hKF => ?_
 refine Fo.mov (by simp only [↓nrmL, nrmK, Nat.reduceEqDiff, ↓reduceIte]; rfl) ?_
 refine Fo.len (v := ?_) (by simp only [↓nrmL, nrmK, Nat.reduceEqDiff, ↓reduceIte]; rfl) ?hv ?_; case hv => rfl
 refine mI rfl ?_
 refine WpO.nil (hKF _ _ ?_)
 refine Wp.block ?_
 dsimp only [cond_true, cond_false]
 refine Wp.loopS [6, 7, 8, 9, 10, 11, 22, 23, 24, 25, 26, 27, 28, 29, 30, 31, 32, 33, 34, 35, 36, 37, 38, 39, 40, 41, 42, 43, 44, 45, 46, 47, 48] (fun i : Nat => [(22, .int .i64 i), (6, .int .i64 (lvP (fun i => (lv l).getD i 0) i).1.1), (7, .int .i64 (lvP (fun i => (lv l).getD i 0) i).1.2), (8, .int .i64 (lvP (fun i => (lv l).getD i 0) i).2)]) (fun H3 i H2 => i ≤ 256 ∧ H2 = H3) (fun i => 256 - i) 0 rfl (fun _ => rfl) ⟨rfl, rfl, rfl, rfl, trivial⟩ ⟨Nat.zero_le _, rfl⟩ (by unfold fuel0 at hn; omega) ?_
 rintro i g H2 ⟨hi, rfl⟩
 simp only [↓nrmL, nrmZ, Nat.reduceEqDiff, ↓reduceIte, Nat.reduceAdd, Int.reduceBEq, Int.reduceBNe]
 cases hc : decide ((i : Int) < (((lv l).length : Nat) : Int))
 ·have hil : i = 256 := by have := of_decide_eq_false hc; omega
  subst hil
  try simp only [↓nrmL, nrmZ, Nat.reduceEqDiff, ↓reduceIte, Nat.reduceAdd, Int.reduceBEq, Int.reduceBNe, hc]
  refine sq ?_
  refine rg fun KF hKF => ?_
  refine Fo.bin rfl rfl rfl (by simp only [↓nrmL, nrmZ, Nat.reduceEqDiff, ↓reduceIte, Nat.reduceAdd, Int.reduceBEq, Int.reduceBNe, hc]; rfl) ?_
  refine WpO.nil (hKF _ _ ?_)
  refine sq ?_
  refine Wp.cond (b := false) rfl ?_
  refine Wp.exit ?_
  refine sq ?_
  refine rg fun KF hKF => ?_
  refine mI rfl ?_
  refine mI rfl ?_
  refine mI rfl ?_
  refine WpO.nil (hKF _ _ ?_)
  refine Wp.ret ?_
  dsimp only [cond_true, cond_false]
  refine ⟨trivial, _, (by first | rfl | exact getAllC rfl rfl rfl rfl | exact getAllT rfl (getAllC rfl rfl rfl rfl) | exact getAllC rfl rfl rfl (getAllC rfl rfl rfl rfl) | exact getAllC1 rfl rfl rfl), ?_⟩
  exact ⟨rfl, Ext0.ext⟩
 have hil : i < 256 := by have := of_decide_eq_true hc; omega
 have hilt : i < (lv l).length := by omega
 have hw1 := wa1 (a := i) (by omega)
 have hge := lv_get hilt
 obtain ⟨P, hP⟩ : ∃ P, lvP (fun i => (lv l).getD i 0) i = P := ⟨_, rfl⟩
 have hbd := lvP_bd (fun i => (lv l).getD i 0) i
 have hnx : lvP (fun i => (lv l).getD i 0) (i + 1) = bif (lv l).getD i 0 == 0 then P else ((bif decide (P.2 ≥ 0) then lvU P.1 P.2 i else P.1), (i : Int)) := by rw [← hP]; rfl
 rw [hP] at hbd
 simp only [hP]
 cases h0 : ((lv l).getD i 0 == 0)
 ·rw [h0, cond_false] at hnx
  cases g1 : decide (P.2 ≥ 0)
  ·rw [g1, cond_false] at hnx
   try simp only [↓nrmL, nrmZ, Nat.reduceEqDiff, ↓reduceIte, Nat.reduceAdd, Int.reduceBEq, Int.reduceBNe, hc, hge, h0, g1]
   refine sq ?_
   refine rg fun KF hKF => ?_
   refine Fo.bin rfl rfl rfl (by simp only [↓nrmL, nrmZ, Nat.reduceEqDiff, ↓reduceIte, Nat.reduceAdd, Int.reduceBEq, Int.reduceBNe, hc, hge, h0, g1]; rfl) ?_
   refine WpO.nil (hKF _ _ ?_)
   refine sq ?_
   refine Wp.cond (b := true) rfl ?_
   refine Wp.skip ?_
   refine sq ?_
   refine Wp.block ?_
   refine sq ?_
   refine rg fun KF hKF => ?_
   refine mI rfl ?_
   refine Fo.idx (by simp only [↓nrmL, nrmK, Nat.reduceEqDiff, ↓reduceIte]; rfl) rfl ?_ (by simp only [↓nrmL, nrmZ, Nat.reduceEqDiff, ↓reduceIte, Nat.reduceAdd, Int.reduceBEq, Int.reduceBNe, hc, hge, h0, g1]; rfl) ?_; (focus omega)
   refine Fo.ldI rfl ?_ (by simp only [↓nrmL, nrmZ, Nat.reduceEqDiff, ↓reduceIte, Nat.reduceAdd, Int.reduceBEq, Int.reduceBNe, hc, hge, h0, g1]; rfl) ?_; (focus omega)
   refine mI rfl ?_
   refine mI rfl ?_
   refine WpO.nil (hKF _ _ ?_)
   refine sq ?_
   refine sq ?_
   refine rg fun KF hKF => ?_
   refine mI rfl ?_
   refine Fo.bin rfl rfl rfl (by simp only [↓nrmL, nrmZ, Nat.reduceEqDiff, ↓reduceIte, Nat.reduceAdd, Int.reduceBEq, Int.reduceBNe, hc, hge, h0, g1]; rfl) ?_
   refine WpO.nil (hKF _ _ ?_)
   refine Wp.cond (b := false) rfl ?_
   refine Wp.skip ?_
   refine sq ?_
   refine sq ?_
   refine rg fun KF hKF => ?_
   refine mI rfl ?_
   refine mI rfl ?_
   refine WpO.nil (hKF _ _ ?_)
   refine sq ?_
   refine rg fun KF hKF => ?_
   refine mI rfl ?_
   refine Fo.bin rfl rfl rfl (by simp only [↓nrmL, nrmZ, Nat.reduceEqDiff, ↓reduceIte, Nat.reduceAdd, Int.reduceBEq, Int.reduceBNe, hc, hge, h0, g1]; rfl) ?_
   refine mB rfl ?_
   refine Fo.no rfl rfl ?_
   refine Fo.no rfl rfl ?_
   refine Fo.no rfl rfl ?_
   refine Fo.no rfl rfl ?_
   refine Fo.no rfl rfl ?_
   refine fB rfl rfl ?_
   refine WpO.nil (hKF _ _ ?_)
   refine Wp.cond (b := false) rfl ?_
   refine Wp.skip ?_
   refine rg fun KF hKF => ?_
   refine mI rfl ?_
   refine mI rfl ?_
   refine WpO.nil (hKF _ _ ?_)
   refine rg fun KF hKF => ?_
   refine Fo.bin rfl rfl rfl rfl ?_
   refine mI rfl ?_
   refine WpO.nil (hKF _ _ ?_)
   dsimp only [cond_true, cond_false]
   refine ⟨i + 1, by omega, ⟨by simp only [↓nrmL, nrmZ, Nat.reduceEqDiff, ↓reduceIte, Nat.reduceAdd, Int.reduceBEq, Int.reduceBNe]; rw [hw1], by simp only [↓nrmL, nrmZ, Nat.reduceEqDiff, ↓reduceIte, Nat.reduceAdd, Int.reduceBEq, Int.reduceBNe]; rw [hnx], by simp only [↓nrmL, nrmZ, Nat.reduceEqDiff, ↓reduceIte, Nat.reduceAdd, Int.reduceBEq, Int.reduceBNe]; rw [hnx], by simp only [↓nrmL, nrmZ, Nat.reduceEqDiff, ↓reduceIte, Nat.reduceAdd, Int.reduceBEq, Int.reduceBNe]; rw [hnx], trivial⟩, hil, rfl⟩
  rw [g1, cond_true] at hnx
  have w1 : IntKind.i64.wrap ((i : Int) - P.2) = (i : Int) - P.2 := w64 (by omega)
  cases g2 : decide ((i : Int) - P.2 > P.1.2)
  ·have e3 : lvU P.1 P.2 i = P.1 := by unfold lvU; rw [g2]; rfl
   rw [e3] at hnx
   try simp only [↓nrmL, nrmZ, Nat.reduceEqDiff, ↓reduceIte, Nat.reduceAdd, Int.reduceBEq, Int.reduceBNe, hc, hge, h0, g1, w1, g2]
   refine sq ?_
   refine rg fun KF hKF => ?_
   refine Fo.bin rfl rfl rfl (by simp only [↓nrmL, nrmZ, Nat.reduceEqDiff, ↓reduceIte, Nat.reduceAdd, Int.reduceBEq, Int.reduceBNe, hc, hge, h0, g1, w1, g2]; rfl) ?_
   refine WpO.nil (hKF _ _ ?_)
   refine sq ?_
   refine Wp.cond (b := true) rfl ?_
   refine Wp.skip ?_
   refine sq ?_
   refine Wp.block ?_
   refine sq ?_
   refine rg fun KF hKF => ?_
   refine mI rfl ?_
   refine Fo.idx (by simp only [↓nrmL, nrmK, Nat.reduceEqDiff, ↓reduceIte]; rfl) rfl ?_ (by simp only [↓nrmL, nrmZ, Nat.reduceEqDiff, ↓reduceIte, Nat.reduceAdd, Int.reduceBEq, Int.reduceBNe, hc, hge, h0, g1, w1, g2]; rfl) ?_; (focus omega)
   refine Fo.ldI rfl ?_ (by simp only [↓nrmL, nrmZ, Nat.reduceEqDiff, ↓reduceIte, Nat.reduceAdd, Int.reduceBEq, Int.reduceBNe, hc, hge, h0, g1, w1, g2]; rfl) ?_; (focus omega)
   refine mI rfl ?_
   refine mI rfl ?_
   refine WpO.nil (hKF _ _ ?_)
   refine sq ?_
   refine sq ?_
   refine rg fun KF hKF => ?_
   refine mI rfl ?_
   refine Fo.bin rfl rfl rfl (by simp only [↓nrmL, nrmZ, Nat.reduceEqDiff, ↓reduceIte, Nat.reduceAdd, Int.reduceBEq, Int.reduceBNe, hc, hge, h0, g1, w1, g2]; rfl) ?_
   refine WpO.nil (hKF _ _ ?_)
   refine Wp.cond (b := false) rfl ?_
   refine Wp.skip ?_
   refine sq ?_
   refine sq ?_
   refine rg fun KF hKF => ?_
   refine mI rfl ?_
   refine mI rfl ?_
   refine WpO.nil (hKF _ _ ?_)
   refine sq ?_
   refine rg fun KF hKF => ?_
   refine mI rfl ?_
   refine Fo.bin rfl rfl rfl (by simp only [↓nrmL, nrmZ, Nat.reduceEqDiff, ↓reduceIte, Nat.reduceAdd, Int.reduceBEq, Int.reduceBNe, hc, hge, h0, g1, w1, g2]; rfl) ?_
   refine mB rfl ?_
   refine Fo.yes rfl rfl ?_
   refine mI rfl ?_
   refine Fo.yes rfl rfl ?_
   refine mI rfl ?_
   refine Fo.yes rfl rfl ?_
   refine Fo.bin rfl rfl rfl (by simp only [↓nrmL, nrmZ, Nat.reduceEqDiff, ↓reduceIte, Nat.reduceAdd, Int.reduceBEq, Int.reduceBNe, hc, hge, h0, g1, w1, g2]; rfl) ?_
   refine Fo.yes rfl rfl ?_
   refine mI rfl ?_
   refine Fo.yes rfl rfl ?_
   refine Fo.bin rfl rfl rfl (by simp only [↓nrmL, nrmZ, Nat.reduceEqDiff, ↓reduceIte, Nat.reduceAdd, Int.reduceBEq, Int.reduceBNe, hc, hge, h0, g1, w1, g2]; rfl) ?_
   refine tB rfl rfl ?_
   refine WpO.nil (hKF _ _ ?_)
   refine Wp.cond (b := false) rfl ?_
   refine Wp.skip ?_
   refine rg fun KF hKF => ?_
   refine mI rfl ?_
   refine mI rfl ?_
   refine WpO.nil (hKF _ _ ?_)
   refine rg fun KF hKF => ?_
   refine Fo.bin rfl rfl rfl rfl ?_
   refine mI rfl ?_
   refine WpO.nil (hKF _ _ ?_)
   dsimp only [cond_true, cond_false]
   refine ⟨i + 1, by omega, ⟨by simp only [↓nrmL, nrmZ, Nat.reduceEqDiff, ↓reduceIte, Nat.reduceAdd, Int.reduceBEq, Int.reduceBNe]; rw [hw1], by simp only [↓nrmL, nrmZ, Nat.reduceEqDiff, ↓reduceIte, Nat.reduceAdd, Int.reduceBEq, Int.reduceBNe]; rw [hnx], by simp only [↓nrmL, nrmZ, Nat.reduceEqDiff, ↓reduceIte, Nat.reduceAdd, Int.reduceBEq, Int.reduceBNe]; rw [hnx], by simp only [↓nrmL, nrmZ, Nat.reduceEqDiff, ↓reduceIte, Nat.reduceAdd, Int.reduceBEq, Int.reduceBNe]; rw [hnx], trivial⟩, hil, rfl⟩
  ·have e3 : lvU P.1 P.2 i = ((P.2 + i + 1).tdiv 2, (i : Int) - P.2) := by unfold lvU; rw [g2]; rfl
   rw [e3] at hnx
   have w2 : IntKind.i64.wrap (P.2 + (i : Int)) = P.2 + (i : Int) := w64 (by omega)
   have w3 : IntKind.i64.wrap (P.2 + (i : Int) + 1) = P.2 + (i : Int) + 1 := w64 (by omega)
   have w4 : IntKind.i64.wrap ((P.2 + (i : Int) + 1).tdiv 2) = (P.2 + (i : Int) + 1).tdiv 2 := by
    have := of_decide_eq_true g1
    obtain ⟨z, hz⟩ : ∃ z : Nat, P.2 + (i : Int) + 1 = z := ⟨(P.2 + (i : Int) + 1).toNat, by omega⟩
    rw [hz, show ((z : Nat) : Int).tdiv 2 = ((z / 2 : Nat) : Int) from rfl]
    exact w64 (by omega)
   try simp only [↓nrmL, nrmZ, Nat.reduceEqDiff, ↓reduceIte, Nat.reduceAdd, Int.reduceBEq, Int.reduceBNe, hc, hge, h0, g1, w1, g2, w2, w3, w4]
   refine sq ?_
   refine rg fun KF hKF => ?_
   refine Fo.bin rfl rfl rfl (by simp only [↓nrmL, nrmZ, Nat.reduceEqDiff, ↓reduceIte, Nat.reduceAdd, Int.reduceBEq, Int.reduceBNe, hc, hge, h0, g1, w1, g2, w2, w3, w4]; rfl) ?_
   refine WpO.nil (hKF _ _ ?_)
   refine sq ?_
   refine Wp.cond (b := true) rfl ?_
   refine Wp.skip ?_
   refine sq ?_
   refine Wp.block ?_
   refine sq ?_
   refine rg fun KF hKF => ?_
   refine mI rfl ?_
   refine Fo.idx (by simp only [↓nrmL, nrmK, Nat.reduceEqDiff, ↓reduceIte]; rfl) rfl ?_ (by simp only [↓nrmL, nrmZ, Nat.reduceEqDiff, ↓reduceIte, Nat.reduceAdd, Int.reduceBEq, Int.reduceBNe, hc, hge, h0, g1, w1, g2, w2, w3, w4]; rfl) ?_; (focus omega)
   refine Fo.ldI rfl ?_ (by simp only [↓nrmL, nrmZ, Nat.reduceEqDiff, ↓reduceIte, Nat.reduceAdd, Int.reduceBEq, Int.reduceBNe, hc, hge, h0, g1, w1, g2, w2, w3, w4]; rfl) ?_; (focus omega)
   refine mI rfl ?_
   refine mI rfl ?_
   refine WpO.nil (hKF _ _ ?_)
   refine sq ?_
   refine sq ?_
   refine rg fun KF hKF => ?_
   refine mI rfl ?_
   refine Fo.bin rfl rfl rfl (by simp only [↓nrmL, nrmZ, Nat.reduceEqDiff, ↓reduceIte, Nat.reduceAdd, Int.reduceBEq, Int.reduceBNe, hc, hge, h0, g1, w1, g2, w2, w3, w4]; rfl) ?_
   refine WpO.nil (hKF _ _ ?_)
   refine Wp.cond (b := false) rfl ?_
   refine Wp.skip ?_
   refine sq ?_
   refine sq ?_
   refine rg fun KF hKF => ?_
   refine mI rfl ?_
   refine mI rfl ?_
   refine WpO.nil (hKF _ _ ?_)
   refine sq ?_
   refine rg fun KF hKF => ?_
   refine mI rfl ?_
   refine Fo.bin rfl rfl rfl (by simp only [↓nrmL, nrmZ, Nat.reduceEqDiff, ↓reduceIte, Nat.reduceAdd, Int.reduceBEq, Int.reduceBNe, hc, hge, h0, g1, w1, g2, w2, w3, w4]; rfl) ?_
   refine mB rfl ?_
   refine Fo.yes rfl rfl ?_
   refine mI rfl ?_
   refine Fo.yes rfl rfl ?_
   refine mI rfl ?_
   refine Fo.yes rfl rfl ?_
   refine Fo.bin rfl rfl rfl (by simp only [↓nrmL, nrmZ, Nat.reduceEqDiff, ↓reduceIte, Nat.reduceAdd, Int.reduceBEq, Int.reduceBNe, hc, hge, h0, g1, w1, g2, w2, w3, w4]; rfl) ?_
   refine Fo.yes rfl rfl ?_
   refine mI rfl ?_
   refine Fo.yes rfl rfl ?_
   refine Fo.bin rfl rfl rfl (by simp only [↓nrmL, nrmZ, Nat.reduceEqDiff, ↓reduceIte, Nat.reduceAdd, Int.reduceBEq, Int.reduceBNe, hc, hge, h0, g1, w1, g2, w2, w3, w4]; rfl) ?_
   refine tB rfl rfl ?_
   refine WpO.nil (hKF _ _ ?_)
   refine Wp.cond (b := true) rfl ?_
   refine rg fun KF hKF => ?_
   refine mI rfl ?_
   refine mI rfl ?_
   refine Fo.bin rfl rfl rfl (by simp only [↓nrmL, nrmZ, Nat.reduceEqDiff, ↓reduceIte, Nat.reduceAdd, Int.reduceBEq, Int.reduceBNe, hc, hge, h0, g1, w1, g2, w2, w3, w4]; rfl) ?_
   refine Fo.bin rfl rfl rfl (by simp only [↓nrmL, nrmZ, Nat.reduceEqDiff, ↓reduceIte, Nat.reduceAdd, Int.reduceBEq, Int.reduceBNe, hc, hge, h0, g1, w1, g2, w2, w3, w4]; rfl) ?_
   refine Fo.bin rfl rfl rfl (by simp only [↓nrmL, nrmZ, Nat.reduceEqDiff, ↓reduceIte, Nat.reduceAdd, Int.reduceBEq, Int.reduceBNe, hc, hge, h0, g1, w1, g2, w2, w3, w4]; rfl) ?_
   refine mI rfl ?_
   refine mI rfl ?_
   refine Fo.bin rfl rfl rfl (by simp only [↓nrmL, nrmZ, Nat.reduceEqDiff, ↓reduceIte, Nat.reduceAdd, Int.reduceBEq, Int.reduceBNe, hc, hge, h0, g1, w1, g2, w2, w3, w4]; rfl) ?_
   refine mI rfl ?_
   refine mI rfl ?_
   refine WpO.nil (hKF _ _ ?_)
   refine rg fun KF hKF => ?_
   refine mI rfl ?_
   refine mI rfl ?_
   refine WpO.nil (hKF _ _ ?_)
   refine rg fun KF hKF => ?_
   refine Fo.bin rfl rfl rfl rfl ?_
   refine mI rfl ?_
   refine WpO.nil (hKF _ _ ?_)
   dsimp only [cond_true, cond_false]
   refine ⟨i + 1, by omega, ⟨by simp only [↓nrmL, nrmZ, Nat.reduceEqDiff, ↓reduceIte, Nat.reduceAdd, Int.reduceBEq, Int.reduceBNe]; rw [hw1], by simp only [↓nrmL, nrmZ, Nat.reduceEqDiff, ↓reduceIte, Nat.reduceAdd, Int.reduceBEq, Int.reduceBNe]; rw [hnx], by simp only [↓nrmL, nrmZ, Nat.reduceEqDiff, ↓reduceIte, Nat.reduceAdd, Int.reduceBEq, Int.reduceBNe]; rw [hnx], by simp only [↓nrmL, nrmZ, Nat.reduceEqDiff, ↓reduceIte, Nat.reduceAdd, Int.reduceBEq, Int.reduceBNe]; rw [hnx], trivial⟩, hil, rfl⟩
 ·rw [h0, cond_true] at hnx
  try simp only [↓nrmL, nrmZ, Nat.reduceEqDiff, ↓reduceIte, Nat.reduceAdd, Int.reduceBEq, Int.reduceBNe, hc, hge, h0]
  refine sq ?_
  refine rg fun KF hKF => ?_
  refine Fo.bin rfl rfl rfl (by simp only [↓nrmL, nrmZ, Nat.reduceEqDiff, ↓reduceIte, Nat.reduceAdd, Int.reduceBEq, Int.reduceBNe, hc, hge, h0]; rfl) ?_
  refine WpO.nil (hKF _ _ ?_)
  refine sq ?_
  refine Wp.cond (b := true) rfl ?_
  refine Wp.skip ?_
  refine sq ?_
  refine Wp.block ?_
  refine sq ?_
  refine rg fun KF hKF => ?_
  refine mI rfl ?_
  refine Fo.idx (by simp only [↓nrmL, nrmK, Nat.reduceEqDiff, ↓reduceIte]; rfl) rfl ?_ (by simp only [↓nrmL, nrmZ, Nat.reduceEqDiff, ↓reduceIte, Nat.reduceAdd, Int.reduceBEq, Int.reduceBNe, hc, hge, h0]; rfl) ?_; (focus omega)
  refine Fo.ldI rfl ?_ (by simp only [↓nrmL, nrmZ, Nat.reduceEqDiff, ↓reduceIte, Nat.reduceAdd, Int.reduceBEq, Int.reduceBNe, hc, hge, h0]; rfl) ?_; (focus omega)
  refine mI rfl ?_
  refine mI rfl ?_
  refine WpO.nil (hKF _ _ ?_)
  refine sq ?_
  refine sq ?_
  refine rg fun KF hKF => ?_
  refine mI rfl ?_
  refine Fo.bin rfl rfl rfl (by simp only [↓nrmL, nrmZ, Nat.reduceEqDiff, ↓reduceIte, Nat.reduceAdd, Int.reduceBEq, Int.reduceBNe, hc, hge, h0]; rfl) ?_
  refine WpO.nil (hKF _ _ ?_)
  refine Wp.cond (b := true) rfl ?_
  refine Wp.exit ?_
  refine rg fun KF hKF => ?_
  refine Fo.bin rfl rfl rfl rfl ?_
  refine mI rfl ?_
  refine WpO.nil (hKF _ _ ?_)
  dsimp only [cond_true, cond_false]
  refine ⟨i + 1, by omega, ⟨by simp only [↓nrmL, nrmZ, Nat.reduceEqDiff, ↓reduceIte, Nat.reduceAdd, Int.reduceBEq, Int.reduceBNe]; rw [hw1], by simp only [↓nrmL, nrmZ, Nat.reduceEqDiff, ↓reduceIte, Nat.reduceAdd, Int.reduceBEq, Int.reduceBNe]; rw [hnx], by simp only [↓nrmL, nrmZ, Nat.reduceEqDiff, ↓reduceIte, Nat.reduceAdd, Int.reduceBEq, Int.reduceBNe]; rw [hnx], by simp only [↓nrmL, nrmZ, Nat.reduceEqDiff, ↓reduceIte, Nat.reduceAdd, Int.reduceBEq, Int.reduceBNe]; rw [hnx], trivial⟩, hil, rfl⟩⟩
class Small (l : List UInt8) : Prop where
 le : l.length ≤ 409600
end Go.Am

set_option maxHeartbeats 4000000
set_option maxRecDepth 100000
set_option synthInstance.maxHeartbeats 2000000
set_option synthInstance.maxSize 1000000000
namespace Go.Am
open Go
attribute [local irreducible] Wp WpO WpX WpE
theorem filled_one (w : Nat) : filled (fun _ => 1) w w = List.replicate w 1 := by
 rw [filled_all, List.map_const', List.length_range]
theorem K_lineL {w : Nat} {H : AHeap} (hw : w ≤ 640) : Con ext prog 1 31 [.int .i64 (w : Int)] H fun v H' => NewInk H H' v ⟨w, 1, List.replicate w 1⟩ := by
 refine con_of (show prog 31 = some c31 from rfl) rfl rfl fun n hn => ?_
 refine sq ?_
 refine rg fun KF hKF => ?_
 refine Fo.new ?_
 refine WpO.nil (hKF _ _ ?_)
 refine sq ?_
 refine rg fun KF hKF => ?_
 refine mI rfl ?_
 refine mI rfl ?_
 refine WpO.do (WpX.mkB rfl rfl rfl (by omega) fun q H1 e1 hq hf hw' hx => ?_); try simp only [↓nrmL, nrmZ, Nat.reduceEqDiff, ↓reduceIte, Nat.reduceAdd, Int.reduceBEq, Int.reduceBNe]
 haveI := hq.one
 refine Fo.build (by repeat (first | refine aFill1 (by first | exact (rfl : _ = AVal.int _ _) | exact (rfl : _ = AVal.ptr _ _) | exact (rfl : _ = AVal.bool _) | exact (rfl : _ = AVal.agg _) | exact (rfl : _ = AVal.tuple _) | exact (rfl : _ = AVal.func _ _ _) | exact (rfl : _ = AVal.nslice) | ((try simp only [↓nrmL, nrmK, Nat.reduceEqDiff, ↓reduceIte]); rfl)) rfl ?_ | rfl)) (by simp only [↓nrmL, nrmZ, Nat.reduceEqDiff, ↓reduceIte, Nat.reduceAdd, Int.reduceBEq, Int.reduceBNe]; rfl) ?_
 refine Fo.new ?_
 refine Fo.st rfl (rfl : _ = AVal.agg _) rfl rfl rfl (by repeat (first | rfl | refine allOne_cons ?_)) (by simp only [↓nrmL, nrmZ, Nat.reduceEqDiff, ↓reduceIte, Nat.reduceAdd, Int.reduceBEq, Int.reduceBNe]; rfl) ?_
 refine WpO.nil (hKF _ _ ?_)
 refine sq ?_
 refine sq ?_
 refine rg fun KF hKF => ?_
 refine Fo.fa rfl ?_
 refine Fo.ld rfl rfl ?_
 refine Fo.len (v := ?_) (by simp only [↓nrmL, nrmK, Nat.reduceEqDiff, ↓reduceIte]; rfl) ?hv ?_; case hv => rfl
 refine mI rfl ?_
 refine WpO.nil (hKF _ _ ?_)
 refine Wp.block ?_
 dsimp only [cond_true, cond_false]
 refine Wp.loopS [4, 12, 13, 14, 15, 16, 17, 18, 19] (fun i : Nat => [(12, .int .i64 i)]) (fun H3 i H2 => i ≤ w ∧ BytesI H2 q (filled (fun _ => 1) i w) ∧ WrS H2 q ∧ ExtP0 H3 H2 q) (fun i => w - i) 0 rfl (fun _ => rfl) ⟨rfl, trivial⟩ ⟨Nat.zero_le _, by rw [filled_zero]; infer_instance, inferInstance, inferInstance⟩ (by unfold fuel0 at hn; omega) ?_
 rintro i g H2 ⟨hi, hb2, hw2, ⟨hx2⟩⟩
 simp only [↓nrmL, nrmZ, Nat.reduceEqDiff, ↓reduceIte, Nat.reduceAdd, Int.reduceBEq, Int.reduceBNe, List.length_replicate]
 cases hc : decide ((i : Int) < (w : Int))
 ·have hil : i = w := by have := of_decide_eq_false hc; omega
  subst hil
  rw [filled_one] at hb2
  try simp only [↓nrmL, nrmZ, Nat.reduceEqDiff, ↓reduceIte, Nat.reduceAdd, Int.reduceBEq, Int.reduceBNe, hc]
  refine sq ?_
  refine rg fun KF hKF => ?_
  refine Fo.bin rfl rfl rfl (by simp only [↓nrmL, nrmZ, Nat.reduceEqDiff, ↓reduceIte, Nat.reduceAdd, Int.reduceBEq, Int.reduceBNe, hc]; rfl) ?_
  refine WpO.nil (hKF _ _ ?_)
  refine sq ?_
  refine Wp.cond (b := false) rfl ?_
  refine Wp.exit ?_
  refine sq ?_
  refine rg fun KF hKF => ?_
  refine Fo.ldN rfl rfl (by simp only [↓nrmL, nrmZ, Nat.reduceEqDiff, ↓reduceIte, Nat.reduceAdd, Int.reduceBEq, Int.reduceBNe, hc]; rfl) ?_
  refine Fo.st rfl (rfl : _ = AVal.agg _) rfl rfl rfl (by repeat (first | rfl | refine allOne_cons ?_)) (by simp only [↓nrmL, nrmZ, Nat.reduceEqDiff, ↓reduceIte, Nat.reduceAdd, Int.reduceBEq, Int.reduceBNe, hc]; rfl) ?_
  refine WpO.nil (hKF _ _ ?_)
  refine Wp.ret ?_
  dsimp only [cond_true, cond_false]
  refine ⟨trivial, _, (by first | rfl | exact getAllC rfl rfl rfl rfl | exact getAllT rfl (getAllC rfl rfl rfl rfl) | exact getAllC rfl rfl rfl (getAllC rfl rfl rfl rfl) | exact getAllC1 rfl rfl rfl), ?_⟩
  exact ⟨q, rfl, (show BytesI _ q (List.replicate i 1) from inferInstance), hf.weak, inferInstance, Ext0.ext⟩
 ·have hil : i < w := by have := of_decide_eq_true hc; omega
  have hw1 := wa1 (a := i) (by omega)
  have hfl := filled_length (fun _ => (1 : UInt8)) i w
  try simp only [↓nrmL, nrmZ, Nat.reduceEqDiff, ↓reduceIte, Nat.reduceAdd, Int.reduceBEq, Int.reduceBNe, hc]
  refine sq ?_
  refine rg fun KF hKF => ?_
  refine Fo.bin rfl rfl rfl (by simp only [↓nrmL, nrmZ, Nat.reduceEqDiff, ↓reduceIte, Nat.reduceAdd, Int.reduceBEq, Int.reduceBNe, hc]; rfl) ?_
  refine WpO.nil (hKF _ _ ?_)
  refine sq ?_
  refine Wp.cond (b := true) rfl ?_
  refine Wp.skip ?_
  refine sq ?_
  refine Wp.block ?_
  refine sq ?_
  refine rg fun KF hKF => ?_
  refine mI rfl ?_
  refine mI rfl ?_
  refine WpO.nil (hKF _ _ ?_)
  refine rg fun KF hKF => ?_
  refine Fo.fa rfl ?_
  refine Fo.ld rfl rfl ?_
  refine mI rfl ?_
  refine Fo.idx (by simp only [↓nrmL, nrmK, Nat.reduceEqDiff, ↓reduceIte]; rfl) rfl ?_ (by simp only [↓nrmL, nrmZ, Nat.reduceEqDiff, ↓reduceIte, Nat.reduceAdd, Int.reduceBEq, Int.reduceBNe, hc]; rfl) ?_; (focus omega)
  refine WpO.do' (WpX.stB (p := q) (j := i) (l := filled (fun _ => 1) i w) 1 rfl rfl rfl (by omega) fun H4 hb4 hw4 hx4 => ?_)
  rw [filled_succ (f := fun _ => (1 : UInt8))] at hb4
  haveI := hx4
  refine WpO.nil (hKF _ _ ?_)
  refine rg fun KF hKF => ?_
  refine Fo.bin rfl rfl rfl rfl ?_
  refine mI rfl ?_
  refine WpO.nil (hKF _ _ ?_)
  dsimp only [cond_true, cond_false]
  refine ⟨i + 1, by omega, ⟨by simp only [↓nrmL, nrmZ, Nat.reduceEqDiff, ↓reduceIte, Nat.reduceAdd, Int.reduceBEq, Int.reduceBNe]; rw [hw1], trivial⟩, hil, hb4, hw4, inferInstance⟩
end Go.Am

set_option maxRecDepth 100000
namespace Go.Am
open Go
def aw1 : List UInt8 := List.replicate 65 0 ++ List.replicate 64 1 ++ [0] ++ List.replicate 64 1 ++ List.replicate 64 0 ++ [1] ++ List.replicate 128 0
theorem aw_e1 : skewS ⟨((129 : Nat) : Int), 1, List.replicate 129 1⟩ (-1) = (⟨129, 3, aw1⟩, 0) := by decide +kernel
theorem aw_e2 : findS ⟨129, 3, aw1⟩ = (-1, 0) := by decide +kernel
theorem aw_e3 : skewS ⟨((64 : Nat) : Int), 1, List.replicate 64 1⟩ 1 = (⟨64, 1, List.replicate 64 1⟩, 0) := by decide +kernel
theorem aw_e4 : levelS ⟨4, 1, [10, 20, 200, 210]⟩ = (110, 0) := by decide +kernel
theorem aw_e5 : levelS ⟨3, 1, [200, 0, 100]⟩ = (50, 0) := by decide +kernel
end Go.Am

set_option maxHeartbeats 8000000
set_option maxRecDepth 100000
set_option synthInstance.maxHeartbeats 4000000
set_option synthInstance.maxSize 1000000000
namespace Go.Am
open Go
attribute [local irreducible] Wp WpO WpX WpE
theorem bytes_of {H : AHeap} {r n : Nat} {cs : List AVal} {l : List UInt8} {e : TypeId} (hg : HasRow H r cs true e) (hn : l.length = n) (hc : cs = cellsB l) : BytesI H (.slice r 0 n (some n) 1) l := by
 subst hn hc
 refine ⟨Or.inr ⟨r, 0, some l.length, cellsB l, true, e, rfl, hg.lt, hg.get, by rw [cellsB_length]; omega, ?_, Nat.le_refl _⟩⟩
 rw [List.drop_zero, Nat.mul_one, ← cellsB_length l, List.take_length]
instance K_awake {H : AHeap} : PureCon ext prog 7 [] H 13 (.bool true) := ⟨by
 refine con_of (show prog 7 = some c7 from rfl) rfl rfl fun n hn => ?_
 haveI b1 : BytesI (H.push (.row [.int .u8 10, .int .u8 20, .int .u8 200, .int .u8 210] true (2 * 5))) (.slice H.n 0 4 (some 4) 1) [10, 20, 200, 210] := bytes_of (e := 2 * 5) ⟨Nat.lt_succ_self _, push_get_eq⟩ rfl rfl
 try simp only [↓nrmL, nrmZ, Nat.reduceEqDiff, ↓reduceIte, Nat.reduceAdd, Int.reduceBEq, Int.reduceBNe, aw_e4]
 refine sq ?_
 refine rg fun KF hKF => ?_
 refine mB rfl ?_
 refine WpO.nil (hKF _ _ ?_)
 refine sq ?_
 refine rg fun KF hKF => ?_
 refine Fo.bslice rfl (by simp only [↓nrmL, nrmZ, Nat.reduceEqDiff, ↓reduceIte, Nat.reduceAdd, Int.reduceBEq, Int.reduceBNe, aw_e4]; rfl) ?_
 refine Fo.build (by repeat (first | refine aFill1 (by first | exact (rfl : _ = AVal.int _ _) | exact (rfl : _ = AVal.ptr _ _) | exact (rfl : _ = AVal.bool _) | exact (rfl : _ = AVal.agg _) | exact (rfl : _ = AVal.tuple _) | exact (rfl : _ = AVal.func _ _ _) | exact (rfl : _ = AVal.nslice) | ((try simp only [↓nrmL, nrmK, Nat.reduceEqDiff, ↓reduceIte]); rfl)) rfl ?_ | rfl)) (by simp only [↓nrmL, nrmZ, Nat.reduceEqDiff, ↓reduceIte, Nat.reduceAdd, Int.reduceBEq, Int.reduceBNe, aw_e4]; rfl) ?_
 refine Fo.pcall (v' := ?_) hn rfl (by simp only [↓nrmL, nrmZ, Nat.reduceEqDiff, ↓reduceIte, Nat.reduceAdd, Int.reduceBEq, Int.reduceBNe, aw_e4, List.map]; rfl) rfl ?hv fun _ _ => ?_; case hv => (simp only [↓nrmL, nrmZ, Nat.reduceEqDiff, ↓reduceIte, Nat.reduceAdd, Int.reduceBEq, Int.reduceBNe, aw_e4]; rfl)
 refine mT rfl ?_
 refine Fo.extr rfl rfl ?_
 refine Fo.extr rfl rfl ?_
 refine mI rfl ?_
 refine mI rfl ?_
 refine WpO.nil (hKF _ _ ?_)
 refine sq ?_
 refine rg fun KF hKF => ?_
 refine Fo.bslice rfl (by simp only [↓nrmL, nrmZ, Nat.reduceEqDiff, ↓reduceIte, Nat.reduceAdd, Int.reduceBEq, Int.reduceBNe, aw_e4]; rfl) ?_
 refine Fo.build (by repeat (first | refine aFill1 (by first | exact (rfl : _ = AVal.int _ _) | exact (rfl : _ = AVal.ptr _ _) | exact (rfl : _ = AVal.bool _) | exact (rfl : _ = AVal.agg _) | exact (rfl : _ = AVal.tuple _) | exact (rfl : _ = AVal.func _ _ _) | exact (rfl : _ = AVal.nslice) | ((try simp only [↓nrmL, nrmK, Nat.reduceEqDiff, ↓reduceIte]); rfl)) rfl ?_ | rfl)) (by simp only [↓nrmL, nrmZ, Nat.reduceEqDiff, ↓reduceIte, Nat.reduceAdd, Int.reduceBEq, Int.reduceBNe, aw_e4]; rfl) ?_
 rename AHeap => H1
 haveI b2 : BytesI (H1.push (.row [.int .u8 200, .int .u8 0, .int .u8 100] true (2 * 5))) (.slice H1.n 0 3 (some 3) 1) [200, 0, 100] := bytes_of (e := 2 * 5) ⟨Nat.lt_succ_self _, push_get_eq⟩ rfl rfl
 try simp only [↓nrmL, nrmZ, Nat.reduceEqDiff, ↓reduceIte, Nat.reduceAdd, Int.reduceBEq, Int.reduceBNe, aw_e5]
 refine Fo.pcall (v' := ?_) hn rfl (by simp only [↓nrmL, nrmZ, Nat.reduceEqDiff, ↓reduceIte, Nat.reduceAdd, Int.reduceBEq, Int.reduceBNe, aw_e5, List.map]; rfl) rfl ?hv fun _ _ => ?_; case hv => (simp only [↓nrmL, nrmZ, Nat.reduceEqDiff, ↓reduceIte, Nat.reduceAdd, Int.reduceBEq, Int.reduceBNe, aw_e5]; rfl)
 refine mT rfl ?_
 refine Fo.extr rfl rfl ?_
 refine Fo.extr rfl rfl ?_
 refine mI rfl ?_
 refine mI rfl ?_
 refine WpO.nil (hKF _ _ ?_)
 refine sq ?_
 refine rg fun KF hKF => ?_
 refine WpO.do (WpX.conD hn rfl rfl (by simp only [↓nrmL, nrmZ, Nat.reduceEqDiff, ↓reduceIte, Nat.reduceAdd, Int.reduceBEq, Int.reduceBNe, List.map] <;> rfl) (K_lineL (w := 129) (by decide)) fun v H5 h5 => ?_)
 obtain ⟨q1, e1, hq1, hf1, hw1, hx1⟩ := h5
 subst e1
 try dsimp only at hq1
 haveI : ExtI _ H5 := ⟨hx1⟩
 haveI := hq1.one
 dsimp only [cond_true, cond_false]
 refine WpO.do (WpX.conD hn rfl rfl (by simp only [↓nrmL, nrmZ, Nat.reduceEqDiff, ↓reduceIte, Nat.reduceAdd, Int.reduceBEq, Int.reduceBNe, List.map] <;> rfl) (K_Skew (w := ((129 : Nat) : Int)) (h := 1) (k := -1) (l := List.replicate 129 1)) fun v H6 h5 => ?_)
 rw [aw_e1] at h5
 obtain ⟨u, e1, q2, e2, hq2, hf2, hw2, hx2⟩ := h5
 subst e1 e2
 try dsimp only at hq2
 haveI : ExtI _ H6 := ⟨hx2⟩
 haveI := hq2.one
 try simp only [↓nrmL, nrmZ, Nat.reduceEqDiff, ↓reduceIte, Nat.reduceAdd, Int.reduceBEq, Int.reduceBNe, aw_e2]
 refine mT rfl ?_
 refine Fo.extr rfl rfl ?_
 refine Fo.extr rfl rfl ?_
 refine Fo.new ?_
 refine Fo.st rfl (rfl : _ = AVal.agg _) rfl rfl rfl (by repeat (first | rfl | refine allOne_cons ?_)) (by simp only [↓nrmL, nrmZ, Nat.reduceEqDiff, ↓reduceIte, Nat.reduceAdd, Int.reduceBEq, Int.reduceBNe, aw_e2]; rfl) ?_
 refine mI rfl ?_
 refine WpO.nil (hKF _ _ ?_)
 refine sq ?_
 refine rg fun KF hKF => ?_
 refine Fo.ldN rfl rfl (by simp only [↓nrmL, nrmZ, Nat.reduceEqDiff, ↓reduceIte, Nat.reduceAdd, Int.reduceBEq, Int.reduceBNe, aw_e2]; rfl) ?_
 refine Fo.pcall (v' := ?_) hn rfl (by simp only [↓nrmL, nrmZ, Nat.reduceEqDiff, ↓reduceIte, Nat.reduceAdd, Int.reduceBEq, Int.reduceBNe, aw_e2, List.map]; rfl) rfl ?hv fun _ _ => ?_; case hv => (simp only [↓nrmL, nrmZ, Nat.reduceEqDiff, ↓reduceIte, Nat.reduceAdd, Int.reduceBEq, Int.reduceBNe, aw_e2]; rfl)
 refine mT rfl ?_
 refine Fo.extr rfl rfl ?_
 refine Fo.extr rfl rfl ?_
 refine mI rfl ?_
 refine mI rfl ?_
 refine WpO.nil (hKF _ _ ?_)
 refine sq ?_
 refine rg fun KF hKF => ?_
 refine WpO.do (WpX.conD hn rfl rfl (by simp only [↓nrmL, nrmZ, Nat.reduceEqDiff, ↓reduceIte, Nat.reduceAdd, Int.reduceBEq, Int.reduceBNe, List.map] <;> rfl) (K_lineL (w := 64) (by decide)) fun v H7 h5 => ?_)
 obtain ⟨q3, e1, hq3, hf3, hw3, hx3⟩ := h5
 subst e1
 try dsimp only at hq3
 haveI : ExtI _ H7 := ⟨hx3⟩
 haveI := hq3.one
 dsimp only [cond_true, cond_false]
 refine WpO.do (WpX.conD hn rfl rfl (by simp only [↓nrmL, nrmZ, Nat.reduceEqDiff, ↓reduceIte, Nat.reduceAdd, Int.reduceBEq, Int.reduceBNe, List.map] <;> rfl) (K_Skew (w := ((64 : Nat) : Int)) (h := 1) (k := 1) (l := List.replicate 64 1)) fun v H8 h5 => ?_)
 rw [aw_e3] at h5
 obtain ⟨u, e1, q4, e2, hq4, hf4, hw4, hx4⟩ := h5
 subst e1 e2
 try dsimp only at hq4
 haveI : ExtI _ H8 := ⟨hx4⟩
 haveI := hq4.one
 refine mT rfl ?_
 refine Fo.extr rfl rfl ?_
 refine Fo.extr rfl rfl ?_
 refine Fo.new ?_
 refine Fo.st rfl (rfl : _ = AVal.agg _) rfl rfl rfl (by repeat (first | rfl | refine allOne_cons ?_)) (by simp only [↓nrmL, nrmZ, Nat.reduceEqDiff, ↓reduceIte, Nat.reduceAdd, Int.reduceBEq, Int.reduceBNe]; rfl) ?_
 refine mI rfl ?_
 refine WpO.nil (hKF _ _ ?_)
 refine sq ?_
 dsimp only [cond_true, cond_false]
 refine Fr.dregion0 rfl fun KF hKF => ?_
 refine Fe.pure rfl rfl (by simp only [↓nrmL, nrmZ, Nat.reduceEqDiff, ↓reduceIte, Nat.reduceAdd, Int.reduceBEq, Int.reduceBNe]; rfl) ?_
 refine Fe.pure rfl rfl (by simp only [↓nrmL, nrmZ, Nat.reduceEqDiff, ↓reduceIte, Nat.reduceAdd, Int.reduceBEq, Int.reduceBNe]; rfl) ?_
 refine Fe.pure rfl rfl (by simp only [↓nrmL, nrmZ, Nat.reduceEqDiff, ↓reduceIte, Nat.reduceAdd, Int.reduceBEq, Int.reduceBNe]; rfl) ?_
 refine Fe.pure rfl rfl (by simp only [↓nrmL, nrmZ, Nat.reduceEqDiff, ↓reduceIte, Nat.reduceAdd, Int.reduceBEq, Int.reduceBNe]; rfl) ?_
 refine Fe.pure rfl rfl (by simp only [↓nrmL, nrmZ, Nat.reduceEqDiff, ↓reduceIte, Nat.reduceAdd, Int.reduceBEq, Int.reduceBNe]; rfl) ?_
 refine Fe.pure rfl rfl (by simp only [↓nrmL, nrmZ, Nat.reduceEqDiff, ↓reduceIte, Nat.reduceAdd, Int.reduceBEq, Int.reduceBNe]; rfl) ?_
 refine Fe.pure rfl rfl (by simp only [↓nrmL, nrmZ, Nat.reduceEqDiff, ↓reduceIte, Nat.reduceAdd, Int.reduceBEq, Int.reduceBNe]; rfl) ?_
 refine Fe.pure rfl rfl (by simp only [↓nrmL, nrmZ, Nat.reduceEqDiff, ↓reduceIte, Nat.reduceAdd, Int.reduceBEq, Int.reduceBNe]; rfl) ?_
 refine Fe.pure rfl rfl (by simp only [↓nrmL, nrmZ, Nat.reduceEqDiff, ↓reduceIte, Nat.reduceAdd, Int.reduceBEq, Int.reduceBNe]; rfl) ?_
 refine Fe.pure rfl rfl (by simp only [↓nrmL, nrmZ, Nat.reduceEqDiff, ↓reduceIte, Nat.reduceAdd, Int.reduceBEq, Int.reduceBNe]; rfl) ?_
 refine Fe.pure rfl rfl (by simp only [↓nrmL, nrmZ, Nat.reduceEqDiff, ↓reduceIte, Nat.reduceAdd, Int.reduceBEq, Int.reduceBNe]; rfl) ?_
 refine Fe.pure rfl rfl (by simp only [↓nrmL, nrmZ, Nat.reduceEqDiff, ↓reduceIte, Nat.reduceAdd, Int.reduceBEq, Int.reduceBNe]; rfl) ?_
 refine Fe.pure rfl rfl (by simp only [↓nrmL, nrmZ, Nat.reduceEqDiff, ↓reduceIte, Nat.reduceAdd, Int.reduceBEq, Int.reduceBNe]; rfl) ?_
 refine Fe.pure rfl rfl (by simp only [↓nrmL, nrmZ, Nat.reduceEqDiff, ↓reduceIte, Nat.reduceAdd, Int.reduceBEq, Int.reduceBNe]; rfl) ?_
 refine Fe.pure rfl rfl (by simp only [↓nrmL, nrmZ, Nat.reduceEqDiff, ↓reduceIte, Nat.reduceAdd, Int.reduceBEq, Int.reduceBNe]; rfl) ?_
 refine Fe.pure rfl rfl (by simp only [↓nrmL, nrmZ, Nat.reduceEqDiff, ↓reduceIte, Nat.reduceAdd, Int.reduceBEq, Int.reduceBNe]; rfl) ?_
 refine Fe.pure rfl rfl (by simp only [↓nrmL, nrmZ, Nat.reduceEqDiff, ↓reduceIte, Nat.reduceAdd, Int.reduceBEq, Int.reduceBNe]; rfl) ?_
 refine Fe.pure rfl rfl (by simp only [↓nrmL, nrmZ, Nat.reduceEqDiff, ↓reduceIte, Nat.reduceAdd, Int.reduceBEq, Int.reduceBNe]; rfl) ?_
 refine Fe.pure rfl rfl (by simp only [↓nrmL, nrmZ, Nat.reduceEqDiff, ↓reduceIte, Nat.reduceAdd, Int.reduceBEq, Int.reduceBNe]; rfl) ?_
 refine Fe.pure rfl rfl (by simp only [↓nrmL, nrmZ, Nat.reduceEqDiff, ↓reduceIte, Nat.reduceAdd, Int.reduceBEq, Int.reduceBNe]; rfl) ?_
 refine Fe.pure rfl rfl (by simp only [↓nrmL, nrmZ, Nat.reduceEqDiff, ↓reduceIte, Nat.reduceAdd, Int.reduceBEq, Int.reduceBNe]; rfl) ?_
 refine Fe.pure rfl rfl (by simp only [↓nrmL, nrmZ, Nat.reduceEqDiff, ↓reduceIte, Nat.reduceAdd, Int.reduceBEq, Int.reduceBNe]; rfl) ?_
 refine Fe.pure rfl rfl (by simp only [↓nrmL, nrmZ, Nat.reduceEqDiff, ↓reduceIte, Nat.reduceAdd, Int.reduceBEq, Int.reduceBNe]; rfl) ?_
 refine Fe.pure rfl rfl (by simp only [↓nrmL, nrmZ, Nat.reduceEqDiff, ↓reduceIte, Nat.reduceAdd, Int.reduceBEq, Int.reduceBNe]; rfl) ?_
 refine Fe.pure rfl rfl (by simp only [↓nrmL, nrmZ, Nat.reduceEqDiff, ↓reduceIte, Nat.reduceAdd, Int.reduceBEq, Int.reduceBNe]; rfl) ?_
 refine Fe.pure rfl rfl (by simp only [↓nrmL, nrmZ, Nat.reduceEqDiff, ↓reduceIte, Nat.reduceAdd, Int.reduceBEq, Int.reduceBNe]; rfl) ?_
 refine Fe.pure rfl rfl (by simp only [↓nrmL, nrmZ, Nat.reduceEqDiff, ↓reduceIte, Nat.reduceAdd, Int.reduceBEq, Int.reduceBNe]; rfl) ?_
 refine Fe.pure rfl rfl (by simp only [↓nrmL, nrmZ, Nat.reduceEqDiff, ↓reduceIte, Nat.reduceAdd, Int.reduceBEq, Int.reduceBNe]; rfl) ?_
 refine Fe.read rfl (exec_ld rfl rfl) rfl (by repeat (first | exact trivial | refine ⟨(by first | exact Or.inl (by dsimp only; decide) | exact Or.inr (exec_ld rfl rfl) | exact Or.inr (exec_ld rfl (by assumption)) | exact Or.inr (exec_ldN rfl rfl rfl) | exact Or.inr (exec_ldB rfl (by omega)) | exact Or.inr (exec_ldI rfl (by omega)) | exact Or.inr ghost_of), ?_⟩)) ?_
 refine Fe.pure rfl rfl (by simp only [↓nrmL, nrmZ, Nat.reduceEqDiff, ↓reduceIte, Nat.reduceAdd, Int.reduceBEq, Int.reduceBNe]; rfl) ?_
 refine Fe.pure rfl rfl (by simp only [↓nrmL, nrmZ, Nat.reduceEqDiff, ↓reduceIte, Nat.reduceAdd, Int.reduceBEq, Int.reduceBNe]; rfl) ?_
 refine Fe.pure rfl rfl (by simp only [↓nrmL, nrmZ, Nat.reduceEqDiff, ↓reduceIte, Nat.reduceAdd, Int.reduceBEq, Int.reduceBNe]; rfl) ?_
 refine Fe.pure rfl rfl (by simp only [↓nrmL, nrmZ, Nat.reduceEqDiff, ↓reduceIte, Nat.reduceAdd, Int.reduceBEq, Int.reduceBNe]; rfl) ?_
 refine Fe.pure rfl rfl (by simp only [↓nrmL, nrmZ, Nat.reduceEqDiff, ↓reduceIte, Nat.reduceAdd, Int.reduceBEq, Int.reduceBNe]; rfl) ?_
 refine Fe.pure rfl rfl (by simp only [↓nrmL, nrmZ, Nat.reduceEqDiff, ↓reduceIte, Nat.reduceAdd, Int.reduceBEq, Int.reduceBNe]; rfl) ?_
 refine Fe.pure rfl rfl (by simp only [↓nrmL, nrmZ, Nat.reduceEqDiff, ↓reduceIte, Nat.reduceAdd, Int.reduceBEq, Int.reduceBNe]; rfl) ?_
 refine Fe.read rfl (exec_ldN rfl rfl (by simp only [↓nrmL, nrmZ, Nat.reduceEqDiff, ↓reduceIte, Nat.reduceAdd, Int.reduceBEq, Int.reduceBNe]; rfl)) rfl (by repeat (first | exact trivial | refine ⟨(by first | exact Or.inl (by dsimp only; decide) | exact Or.inr (exec_ld rfl rfl) | exact Or.inr (exec_ld rfl (by assumption)) | exact Or.inr (exec_ldN rfl rfl rfl) | exact Or.inr (exec_ldB rfl (by omega)) | exact Or.inr (exec_ldI rfl (by omega)) | exact Or.inr ghost_of), ?_⟩)) ?_
 refine Fe.con rfl hn rfl rfl (by simp only [↓nrmL, nrmZ, Nat.reduceEqDiff, ↓reduceIte, Nat.reduceAdd, Int.reduceBEq, Int.reduceBNe, List.map] <;> rfl) (K_lineL (w := 64) (by decide)) fun v H9 h5 => ?_
 obtain ⟨q5, e1, hq5, hf5, hw5, hx5⟩ := h5
 subst e1
 try dsimp only at hq5
 haveI : ExtI _ H9 := ⟨hx5⟩
 haveI := hq5.one
 haveI : Short (List.replicate 64 (1 : UInt8)) := ⟨by rw [List.length_replicate]; decide⟩
 have hs : decide ((⟨64, 1, List.replicate 64 1⟩ : Img) = ⟨64, 1, List.replicate 64 1⟩) = true := decide_eq_true rfl
 refine ⟨(by repeat (first | exact trivial | refine ⟨(by first | exact Or.inl (by dsimp only; decide) | exact Or.inr (readOk_of (exec_ld rfl rfl)) | exact Or.inr (readOk_of (exec_ld rfl (by assumption))) | exact Or.inr (readOk_of (exec_ldN rfl rfl rfl)) | exact Or.inr (readOk_of (exec_ldB rfl (by omega))) | exact Or.inr (readOk_of (exec_ldI rfl (by omega))) | exact Or.inr (made_of rfl)), ?_⟩)), ?_⟩
 try simp only [↓nrmL, nrmZ, Nat.reduceEqDiff, ↓reduceIte, Nat.reduceAdd, Int.reduceBEq, Int.reduceBNe, hs]
 refine Fe.pcall (v' := ?_) rfl hn rfl (by simp only [↓nrmL, nrmZ, Nat.reduceEqDiff, ↓reduceIte, Nat.reduceAdd, Int.reduceBEq, Int.reduceBNe, hs, List.map]; rfl) rfl ?hv fun _ _ => ⟨(by repeat (first | exact trivial | refine ⟨(by first | exact Or.inl (by dsimp only; decide) | exact Or.inr (readOk_of (exec_ld rfl rfl)) | exact Or.inr (readOk_of (exec_ld rfl (by assumption))) | exact Or.inr (readOk_of (exec_ldN rfl rfl rfl)) | exact Or.inr (readOk_of (exec_ldB rfl (by omega))) | exact Or.inr (readOk_of (exec_ldI rfl (by omega))) | exact Or.inr (made_of rfl)), ?_⟩)), ?_⟩; case hv => rfl
 refine Fe.pure rfl rfl (by simp only [↓nrmL, nrmZ, Nat.reduceEqDiff, ↓reduceIte, Nat.reduceAdd, Int.reduceBEq, Int.reduceBNe, hs]; rfl) ?_
 refine Fe.pure rfl rfl (by simp only [↓nrmL, nrmZ, Nat.reduceEqDiff, ↓reduceIte, Nat.reduceAdd, Int.reduceBEq, Int.reduceBNe, hs]; rfl) ?_
 refine WpE.nil (hKF _ _ ?_)
 refine Wp.ret ?_
 dsimp only [cond_true, cond_false]
 refine ⟨trivial, _, (by first | rfl | exact getAllC rfl rfl rfl rfl | exact getAllT rfl (getAllC rfl rfl rfl rfl) | exact getAllC rfl rfl rfl (getAllC rfl rfl rfl rfl) | exact getAllC1 rfl rfl rfl), ?_⟩
 exact ⟨rfl, Ext0.ext⟩⟩
end Go.Am

/- A sequence whose second part needs only some temporaries. -/
namespace Go.Am
open Go
section
variable {call : ACall} {lf : Nat} {fr : AFrame} {H : AHeap} {Q : RExit → AFrame → AHeap → Prop} {a b : RCode}
theorem Wp.seqR (L : List (Nat × AVal)) (PH : AHeap → Prop) (h1 : ∀ g H', PH H' → Wp call lf b (updL L g) H' Q) (h2 : Wp call lf a fr H fun x fr' H' => match x with | .normal => agrees L fr' ∧ PH H' | e => Q e fr' H') : Wp call lf (.seq a b) fr H Q :=
  Wp.seq (Wp.mono h2 fun x fr' H' h => by
    cases x with
    | normal =>
      have := h1 fr' H' h.2
      rwa [updL_agrees h.1] at this
    | exit id => exact h
    | ret => exact h)
end
end Go.Am

set_option maxHeartbeats 8000000
set_option maxRecDepth 100000
set_option synthInstance.maxHeartbeats 4000000
set_option synthInstance.maxSize 1000000000
namespace Go.Am
open Go
attribute [local irreducible] Wp WpO WpX WpE
theorem skew_short {w h k : Int} {l : List UInt8} : (skewS ⟨w, h, l⟩ k).1.px.length ≤ 999999 := by
 cases h0 : (ckS ⟨w, h, l⟩ k == 0)
 ·simp [skewS, h0, Img.zero]
 obtain ⟨a, b, rfl, rfl, ok, _⟩ := ckS_zero h0
 simp only [skewS, h0, cond_true, Int.toNat_natCast]
 cases hq : decide ((b : Int) + (grN a k a : Int) ≤ 640)
 ·simp [Img.zero]
 ·simp only [cond_true, skewL, fillP_length]
  have := of_decide_eq_true hq
  have := ok.wa
  have : a * (b + grN a k a) ≤ 640 * 640 := Nat.mul_le_mul ok.wa (by omega)
  omega
theorem unskew_short {w h k : Int} {l : List UInt8} : (unskewS ⟨w, h, l⟩ k).1.px.length ≤ 999999 := by
 cases h0 : (ckS ⟨w, h, l⟩ k == 0)
 ·simp [unskewS, h0, Img.zero]
 obtain ⟨a, b, rfl, rfl, ok, _⟩ := ckS_zero h0
 simp only [unskewS, h0, cond_true, Int.toNat_natCast]
 cases hq : decide ((grN a k a : Int) ≤ (b : Int))
 ·simp [Img.zero]
 ·simp only [cond_true, unskewL, List.length_map, List.length_range]
  have := ok.wa
  have := ok.hb
  have : a * (b - grN a k a) ≤ 640 * 640 := Nat.mul_le_mul ok.wa (by omega)
  omega
instance K_refFindSkewI {a b : Nat} {p : AVal} {H : AHeap} {l : List UInt8} [hp : BytesI H p l] [ho : OkI a b l] : PureCon ext prog 26 [.agg [.int .i64 (a : Int), .int .i64 (b : Int), p]] H 5 (.int .i64 (fsA (fwS ⟨a, b, l⟩) skAll).1) := ⟨K_refFindSkew ho.ok⟩
def badB (w k x : Int) : Bool := decide (w < 1) || (decide (w > 640) || (decide (k < -3) || (decide (k > 3) || (decide (x < 0) || decide (x ≥ w)))))
theorem drop_bad {w k x : Int} (h : badB w k x = true) : dropS w k x = (0, 1) := by
 unfold badB at h
 unfold dropS
 simp only [Bool.or_eq_true, decide_eq_true_eq] at h
 have e : (decide (w < 1) || (decide (w > 640) || (!skB k || (decide (x < 0) || decide (x ≥ w))))) = true := by
  by_cases g : skB k = true
  ·have := skB_iff.1 g
   simp only [Bool.or_eq_true, decide_eq_true_eq]; omega
  ·rw [Bool.not_eq_true] at g
   rw [g]; simp
 rw [e]; rfl
theorem drop_good {w k x : Int} (h : badB w k x = false) : ∃ a i : Nat, w = a ∧ x = i ∧ ColI a i k ∧ dropS w k x = ((dropN a k i : Int), 0) := by
 unfold badB at h
 simp only [Bool.or_eq_false_iff, decide_eq_false_iff_not] at h
 obtain ⟨a, rfl⟩ : ∃ a : Nat, w = a := ⟨w.toNat, by omega⟩
 obtain ⟨i, rfl⟩ : ∃ i : Nat, x = i := ⟨x.toNat, by omega⟩
 refine ⟨a, i, rfl, rfl, ⟨by omega, by omega, by omega⟩, ?_⟩
 unfold dropS
 rw [decide_eq_false (by omega), decide_eq_false (by omega), decide_eq_false (by omega), decide_eq_false (by omega), skB_iff.2 (by omega)]
 rfl
theorem K_CleanSkews {w h k x y : Int} {p : AVal} {H : AHeap} {l : List UInt8} [hp : BytesI H p l] : Con ext prog 14 4 [.agg [.int .i64 w, .int .i64 h, p], .int .i64 k, .int .i64 y, .int .i64 x] H fun v H' => v = .bool true ∧ Ext H H' := by
 refine con_of (show prog 4 = some c4 from rfl) rfl rfl fun n hn => ?_
 haveI := hp.one
 cases hl : decide (((l.length : Nat) : Int) > 6000)
 rotate_left
 ·skip
  try simp only [↓nrmL, nrmZ, Nat.reduceEqDiff, ↓reduceIte, Nat.reduceAdd, Int.reduceBEq, Int.reduceBNe, hl]
  refine sq ?_
  refine rg fun KF hKF => ?_
  refine Fo.boxA rfl ?_
  refine mB rfl ?_
  refine WpO.nil (hKF _ _ ?_)
  refine sq ?_
  refine sq ?_
  refine rg fun KF hKF => ?_
  refine Fo.fa rfl ?_
  refine Fo.ld rfl rfl ?_
  refine Fo.len (v := ?_) (by simp only [↓nrmL, nrmK, Nat.reduceEqDiff, ↓reduceIte]; rfl) ?hv ?_; case hv => rfl
  refine Fo.bin rfl rfl rfl (by simp only [↓nrmL, nrmZ, Nat.reduceEqDiff, ↓reduceIte, Nat.reduceAdd, Int.reduceBEq, Int.reduceBNe, hl]; rfl) ?_
  refine WpO.nil (hKF _ _ ?_)
  refine Wp.cond (b := true) rfl ?_
  refine sq ?_
  refine rg fun KF hKF => ?_
  refine Fo.pcall (v' := ?_) hn rfl (by simp only [↓nrmL, nrmZ, Nat.reduceEqDiff, ↓reduceIte, Nat.reduceAdd, Int.reduceBEq, Int.reduceBNe, hl, List.map]; rfl) rfl ?hv fun _ _ => ?_; case hv => rfl
  refine mB rfl ?_
  refine WpO.nil (hKF _ _ ?_)
  refine Wp.ret ?_
  dsimp only [cond_true, cond_false]
  refine ⟨trivial, _, (by first | rfl | exact getAllC rfl rfl rfl rfl | exact getAllT rfl (getAllC rfl rfl rfl rfl) | exact getAllC rfl rfl rfl (getAllC rfl rfl rfl rfl) | exact getAllC1 rfl rfl rfl), ?_⟩
  exact ⟨rfl, Ext0.ext⟩
 have hlen : l.length ≤ 6000 := by have := of_decide_eq_false hl; omega
 haveI : Short l := ⟨by omega⟩
 try simp only [↓nrmL, nrmZ, Nat.reduceEqDiff, ↓reduceIte, Nat.reduceAdd, Int.reduceBEq, Int.reduceBNe, hl]
 refine sq ?_
 refine rg fun KF hKF => ?_
 refine Fo.boxA rfl ?_
 refine mB rfl ?_
 refine WpO.nil (hKF _ _ ?_)
 refine sq ?_
 refine sq ?_
 refine rg fun KF hKF => ?_
 refine Fo.fa rfl ?_
 refine Fo.ld rfl rfl ?_
 refine Fo.len (v := ?_) (by simp only [↓nrmL, nrmK, Nat.reduceEqDiff, ↓reduceIte]; rfl) ?hv ?_; case hv => rfl
 refine Fo.bin rfl rfl rfl (by simp only [↓nrmL, nrmZ, Nat.reduceEqDiff, ↓reduceIte, Nat.reduceAdd, Int.reduceBEq, Int.reduceBNe, hl]; rfl) ?_
 refine WpO.nil (hKF _ _ ?_)
 refine Wp.cond (b := false) rfl ?_
 refine Wp.skip ?_
 refine sq ?_
 refine rg fun KF hKF => ?_
 refine Fo.ldN rfl rfl (by simp only [↓nrmL, nrmZ, Nat.reduceEqDiff, ↓reduceIte, Nat.reduceAdd, Int.reduceBEq, Int.reduceBNe, hl]; rfl) ?_
 refine WpO.do (WpX.conD hn rfl rfl (by simp only [↓nrmL, nrmZ, Nat.reduceEqDiff, ↓reduceIte, Nat.reduceAdd, Int.reduceBEq, Int.reduceBNe, List.map] <;> rfl) (K_CopyInk (a := w) (b := h) (l := l) (by omega)) fun v H1 h5 => ?_)
 obtain ⟨q, e1, hq, hf, hw, hx⟩ := h5
 subst e1
 try dsimp only at hq
 haveI : ExtI _ H1 := ⟨hx⟩
 haveI := hq.one
 have hKa := hKF
 clear hKF
 refine Fo.new ?_
 refine Fo.st rfl (rfl : _ = AVal.agg _) rfl rfl rfl (by repeat (first | rfl | refine allOne_cons ?_)) (by simp only [↓nrmL, nrmZ, Nat.reduceEqDiff, ↓reduceIte, Nat.reduceAdd, Int.reduceBEq, Int.reduceBNe]; rfl) ?_
 dsimp only [cond_true, cond_false]
 refine WpO.nil (hKa _ _ ?_)
 refine sq ?_
 refine rg fun KF hKF => ?_
 have hKb := hKF
 clear hKF
 refine mI rfl ?_
 refine mI rfl ?_
 refine mI rfl ?_
 refine Fo.pcall (v' := ?_) hn rfl (by simp only [↓nrmL, nrmZ, Nat.reduceEqDiff, ↓reduceIte, Nat.reduceAdd, Int.reduceBEq, Int.reduceBNe, List.map]; rfl) rfl ?hv fun _ _ => ?_; case hv => rfl
 refine mT rfl ?_
 refine Fo.extr rfl rfl ?_
 refine Fo.extr rfl rfl ?_
 refine mI rfl ?_
 refine mI rfl ?_
 rename AHeap => H2
 refine WpO.nil (hKb _ _ ?_)
 refine Wp.seqR [(1, .int .i64 k), (4, .ptr H.n 0), (9, .ptr H1.n 0)] (fun H' => Ext H2 H') ?_ ?_
 rotate_left
 ·skip
  refine Wp.seqR [(1, .int .i64 k), (2, .int .i64 y), (3, .int .i64 x), (4, .ptr H.n 0), (9, .ptr H1.n 0), (10, .int .i64 (dropS y k x).1), (11, .int .i64 (dropS y k x).2), (12, .bool (badB y k x))] (fun H' => H' = H2) ?_ ?_
  rotate_left
  ·refine rg fun KF hKF => ?_
   cases g1 : decide (y < 1)
   rotate_left
   ·skip
    try simp only [↓nrmL, nrmZ, Nat.reduceEqDiff, ↓reduceIte, Nat.reduceAdd, Int.reduceBEq, Int.reduceBNe, g1]
    refine mI rfl ?_
    refine Fo.bin rfl rfl rfl (by simp only [↓nrmL, nrmZ, Nat.reduceEqDiff, ↓reduceIte, Nat.reduceAdd, Int.reduceBEq, Int.reduceBNe, g1]; rfl) ?_
    refine mB rfl ?_
    refine Fo.no rfl rfl ?_
    refine Fo.no rfl rfl ?_
    refine tB rfl rfl ?_
    refine mB rfl ?_
    refine Fo.no rfl rfl ?_
    refine Fo.no rfl rfl ?_
    refine tB rfl rfl ?_
    refine mB rfl ?_
    refine Fo.no rfl rfl ?_
    refine Fo.no rfl rfl ?_
    refine tB rfl rfl ?_
    refine mB rfl ?_
    refine Fo.no rfl rfl ?_
    refine Fo.no rfl rfl ?_
    refine tB rfl rfl ?_
    refine mB rfl ?_
    refine Fo.no rfl rfl ?_
    refine Fo.no rfl rfl ?_
    refine Fo.no rfl rfl ?_
    refine tB rfl rfl ?_
    refine mB rfl ?_
    refine WpO.nil (hKF _ _ ?_)
    dsimp only [cond_true, cond_false]
    exact ⟨⟨rfl, rfl, rfl, rfl, rfl, rfl, rfl, by simp only [↓nrmL, nrmZ, Nat.reduceEqDiff, ↓reduceIte, Nat.reduceAdd, Int.reduceBEq, Int.reduceBNe]; unfold badB; rw [g1]; rfl, trivial⟩, rfl⟩
   cases g2 : decide (y > 640)
   rotate_left
   ·skip
    try simp only [↓nrmL, nrmZ, Nat.reduceEqDiff, ↓reduceIte, Nat.reduceAdd, Int.reduceBEq, Int.reduceBNe, g1, g2]
    refine mI rfl ?_
    refine Fo.bin rfl rfl rfl (by simp only [↓nrmL, nrmZ, Nat.reduceEqDiff, ↓reduceIte, Nat.reduceAdd, Int.reduceBEq, Int.reduceBNe, g1, g2]; rfl) ?_
    refine mB rfl ?_
    refine Fo.yes rfl rfl ?_
    refine mI rfl ?_
    refine Fo.yes rfl rfl ?_
    refine Fo.bin rfl rfl rfl (by simp only [↓nrmL, nrmZ, Nat.reduceEqDiff, ↓reduceIte, Nat.reduceAdd, Int.reduceBEq, Int.reduceBNe, g1, g2]; rfl) ?_
    refine fB rfl rfl ?_
    refine mB rfl ?_
    refine Fo.no rfl rfl ?_
    refine Fo.no rfl rfl ?_
    refine tB rfl rfl ?_
    refine mB rfl ?_
    refine Fo.no rfl rfl ?_
    refine Fo.no rfl rfl ?_
    refine tB rfl rfl ?_
    refine mB rfl ?_
    refine Fo.no rfl rfl ?_
    refine Fo.no rfl rfl ?_
    refine tB rfl rfl ?_
    refine mB rfl ?_
    refine Fo.no rfl rfl ?_
    refine Fo.no rfl rfl ?_
    refine Fo.no rfl rfl ?_
    refine tB rfl rfl ?_
    refine mB rfl ?_
    refine WpO.nil (hKF _ _ ?_)
    dsimp only [cond_true, cond_false]
    exact ⟨⟨rfl, rfl, rfl, rfl, rfl, rfl, rfl, by simp only [↓nrmL, nrmZ, Nat.reduceEqDiff, ↓reduceIte, Nat.reduceAdd, Int.reduceBEq, Int.reduceBNe]; unfold badB; rw [g1, g2]; rfl, trivial⟩, rfl⟩
   cases g3 : decide (k < -3)
   rotate_left
   ·skip
    try simp only [↓nrmL, nrmZ, Nat.reduceEqDiff, ↓reduceIte, Nat.reduceAdd, Int.reduceBEq, Int.reduceBNe, g1, g2, g3]
    refine mI rfl ?_
    refine Fo.bin rfl rfl rfl (by simp only [↓nrmL, nrmZ, Nat.reduceEqDiff, ↓reduceIte, Nat.reduceAdd, Int.reduceBEq, Int.reduceBNe, g1, g2, g3]; rfl) ?_
    refine mB rfl ?_
    refine Fo.yes rfl rfl ?_
    refine mI rfl ?_
    refine Fo.yes rfl rfl ?_
    refine Fo.bin rfl rfl rfl (by simp only [↓nrmL, nrmZ, Nat.reduceEqDiff, ↓reduceIte, Nat.reduceAdd, Int.reduceBEq, Int.reduceBNe, g1, g2, g3]; rfl) ?_
    refine fB rfl rfl ?_
    refine mB rfl ?_
    refine Fo.yes rfl rfl ?_
    refine mI rfl ?_
    refine Fo.yes rfl rfl ?_
    refine Fo.bin rfl rfl rfl (by simp only [↓nrmL, nrmZ, Nat.reduceEqDiff, ↓reduceIte, Nat.reduceAdd, Int.reduceBEq, Int.reduceBNe, g1, g2, g3]; rfl) ?_
    refine fB rfl rfl ?_
    refine mB rfl ?_
    refine Fo.no rfl rfl ?_
    refine Fo.no rfl rfl ?_
    refine tB rfl rfl ?_
    refine mB rfl ?_
    refine Fo.no rfl rfl ?_
    refine Fo.no rfl rfl ?_
    refine tB rfl rfl ?_
    refine mB rfl ?_
    refine Fo.no rfl rfl ?_
    refine Fo.no rfl rfl ?_
    refine Fo.no rfl rfl ?_
    refine tB rfl rfl ?_
    refine mB rfl ?_
    refine WpO.nil (hKF _ _ ?_)
    dsimp only [cond_true, cond_false]
    exact ⟨⟨rfl, rfl, rfl, rfl, rfl, rfl, rfl, by simp only [↓nrmL, nrmZ, Nat.reduceEqDiff, ↓reduceIte, Nat.reduceAdd, Int.reduceBEq, Int.reduceBNe]; unfold badB; rw [g1, g2, g3]; rfl, trivial⟩, rfl⟩
   cases g4 : decide (k > 3)
   rotate_left
   ·skip
    try simp only [↓nrmL, nrmZ, Nat.reduceEqDiff, ↓reduceIte, Nat.reduceAdd, Int.reduceBEq, Int.reduceBNe, g1, g2, g3, g4]
    refine mI rfl ?_
    refine Fo.bin rfl rfl rfl (by simp only [↓nrmL, nrmZ, Nat.reduceEqDiff, ↓reduceIte, Nat.reduceAdd, Int.reduceBEq, Int.reduceBNe, g1, g2, g3, g4]; rfl) ?_
    refine mB rfl ?_
    refine Fo.yes rfl rfl ?_
    refine mI rfl ?_
    refine Fo.yes rfl rfl ?_
    refine Fo.bin rfl rfl rfl (by simp only [↓nrmL, nrmZ, Nat.reduceEqDiff, ↓reduceIte, Nat.reduceAdd, Int.reduceBEq, Int.reduceBNe, g1, g2, g3, g4]; rfl) ?_
    refine fB rfl rfl ?_
    refine mB rfl ?_
    refine Fo.yes rfl rfl ?_
    refine mI rfl ?_
    refine Fo.yes rfl rfl ?_
    refine Fo.bin rfl rfl rfl (by simp only [↓nrmL, nrmZ, Nat.reduceEqDiff, ↓reduceIte, Nat.reduceAdd, Int.reduceBEq, Int.reduceBNe, g1, g2, g3, g4]; rfl) ?_
    refine fB rfl rfl ?_
    refine mB rfl ?_
    refine Fo.yes rfl rfl ?_
    refine mI rfl ?_
    refine Fo.yes rfl rfl ?_
    refine Fo.bin rfl rfl rfl (by simp only [↓nrmL, nrmZ, Nat.reduceEqDiff, ↓reduceIte, Nat.reduceAdd, Int.reduceBEq, Int.reduceBNe, g1, g2, g3, g4]; rfl) ?_
    refine fB rfl rfl ?_
    refine mB rfl ?_
    refine Fo.no rfl rfl ?_
    refine Fo.no rfl rfl ?_
    refine tB rfl rfl ?_
    refine mB rfl ?_
    refine Fo.no rfl rfl ?_
    refine Fo.no rfl rfl ?_
    refine Fo.no rfl rfl ?_
    refine tB rfl rfl ?_
    refine mB rfl ?_
    refine WpO.nil (hKF _ _ ?_)
    dsimp only [cond_true, cond_false]
    exact ⟨⟨rfl, rfl, rfl, rfl, rfl, rfl, rfl, by simp only [↓nrmL, nrmZ, Nat.reduceEqDiff, ↓reduceIte, Nat.reduceAdd, Int.reduceBEq, Int.reduceBNe]; unfold badB; rw [g1, g2, g3, g4]; rfl, trivial⟩, rfl⟩
   cases g5 : decide (x < 0)
   rotate_left
   ·skip
    try simp only [↓nrmL, nrmZ, Nat.reduceEqDiff, ↓reduceIte, Nat.reduceAdd, Int.reduceBEq, Int.reduceBNe, g1, g2, g3, g4, g5]
    refine mI rfl ?_
    refine Fo.bin rfl rfl rfl (by simp only [↓nrmL, nrmZ, Nat.reduceEqDiff, ↓reduceIte, Nat.reduceAdd, Int.reduceBEq, Int.reduceBNe, g1, g2, g3, g4, g5]; rfl) ?_
    refine mB rfl ?_
    refine Fo.yes rfl rfl ?_
    refine mI rfl ?_
    refine Fo.yes rfl rfl ?_
    refine Fo.bin rfl rfl rfl (by simp only [↓nrmL, nrmZ, Nat.reduceEqDiff, ↓reduceIte, Nat.reduceAdd, Int.reduceBEq, Int.reduceBNe, g1, g2, g3, g4, g5]; rfl) ?_
    refine fB rfl rfl ?_
    refine mB rfl ?_
    refine Fo.yes rfl rfl ?_
    refine mI rfl ?_
    refine Fo.yes rfl rfl ?_
    refine Fo.bin rfl rfl rfl (by simp only [↓nrmL, nrmZ, Nat.reduceEqDiff, ↓reduceIte, Nat.reduceAdd, Int.reduceBEq, Int.reduceBNe, g1, g2, g3, g4, g5]; rfl) ?_
    refine fB rfl rfl ?_
    refine mB rfl ?_
    refine Fo.yes rfl rfl ?_
    refine mI rfl ?_
    refine Fo.yes rfl rfl ?_
    refine Fo.bin rfl rfl rfl (by simp only [↓nrmL, nrmZ, Nat.reduceEqDiff, ↓reduceIte, Nat.reduceAdd, Int.reduceBEq, Int.reduceBNe, g1, g2, g3, g4, g5]; rfl) ?_
    refine fB rfl rfl ?_
    refine mB rfl ?_
    refine Fo.yes rfl rfl ?_
    refine mI rfl ?_
    refine Fo.yes rfl rfl ?_
    refine Fo.bin rfl rfl rfl (by simp only [↓nrmL, nrmZ, Nat.reduceEqDiff, ↓reduceIte, Nat.reduceAdd, Int.reduceBEq, Int.reduceBNe, g1, g2, g3, g4, g5]; rfl) ?_
    refine fB rfl rfl ?_
    refine mB rfl ?_
    refine Fo.no rfl rfl ?_
    refine Fo.no rfl rfl ?_
    refine Fo.no rfl rfl ?_
    refine tB rfl rfl ?_
    refine mB rfl ?_
    refine WpO.nil (hKF _ _ ?_)
    dsimp only [cond_true, cond_false]
    exact ⟨⟨rfl, rfl, rfl, rfl, rfl, rfl, rfl, by simp only [↓nrmL, nrmZ, Nat.reduceEqDiff, ↓reduceIte, Nat.reduceAdd, Int.reduceBEq, Int.reduceBNe]; unfold badB; rw [g1, g2, g3, g4, g5]; rfl, trivial⟩, rfl⟩
   try simp only [↓nrmL, nrmZ, Nat.reduceEqDiff, ↓reduceIte, Nat.reduceAdd, Int.reduceBEq, Int.reduceBNe, g1, g2, g3, g4, g5]
   refine mI rfl ?_
   refine Fo.bin rfl rfl rfl (by simp only [↓nrmL, nrmZ, Nat.reduceEqDiff, ↓reduceIte, Nat.reduceAdd, Int.reduceBEq, Int.reduceBNe, g1, g2, g3, g4, g5]; rfl) ?_
   refine mB rfl ?_
   refine Fo.yes rfl rfl ?_
   refine mI rfl ?_
   refine Fo.yes rfl rfl ?_
   refine Fo.bin rfl rfl rfl (by simp only [↓nrmL, nrmZ, Nat.reduceEqDiff, ↓reduceIte, Nat.reduceAdd, Int.reduceBEq, Int.reduceBNe, g1, g2, g3, g4, g5]; rfl) ?_
   refine fB rfl rfl ?_
   refine mB rfl ?_
   refine Fo.yes rfl rfl ?_
   refine mI rfl ?_
   refine Fo.yes rfl rfl ?_
   refine Fo.bin rfl rfl rfl (by simp only [↓nrmL, nrmZ, Nat.reduceEqDiff, ↓reduceIte, Nat.reduceAdd, Int.reduceBEq, Int.reduceBNe, g1, g2, g3, g4, g5]; rfl) ?_
   refine fB rfl rfl ?_
   refine mB rfl ?_
   refine Fo.yes rfl rfl ?_
   refine mI rfl ?_
   refine Fo.yes rfl rfl ?_
   refine Fo.bin rfl rfl rfl (by simp only [↓nrmL, nrmZ, Nat.reduceEqDiff, ↓reduceIte, Nat.reduceAdd, Int.reduceBEq, Int.reduceBNe, g1, g2, g3, g4, g5]; rfl) ?_
   refine fB rfl rfl ?_
   refine mB rfl ?_
   refine Fo.yes rfl rfl ?_
   refine mI rfl ?_
   refine Fo.yes rfl rfl ?_
   refine Fo.bin rfl rfl rfl (by simp only [↓nrmL, nrmZ, Nat.reduceEqDiff, ↓reduceIte, Nat.reduceAdd, Int.reduceBEq, Int.reduceBNe, g1, g2, g3, g4, g5]; rfl) ?_
   refine fB rfl rfl ?_
   refine mB rfl ?_
   refine Fo.yes rfl rfl ?_
   refine mI rfl ?_
   refine Fo.yes rfl rfl ?_
   refine mI rfl ?_
   refine Fo.yes rfl rfl ?_
   refine Fo.bin rfl rfl rfl rfl ?_
   refine fB rfl rfl ?_
   refine mB rfl ?_
   refine WpO.nil (hKF _ _ ?_)
   dsimp only [cond_true, cond_false]
   exact ⟨⟨rfl, rfl, rfl, rfl, rfl, rfl, rfl, by simp only [↓nrmL, nrmZ, Nat.reduceEqDiff, ↓reduceIte, Nat.reduceAdd, Int.reduceBEq, Int.reduceBNe]; unfold badB; rw [g1, g2, g3, g4, g5]; rfl, trivial⟩, rfl⟩
  rintro g _ rfl
  simp only [updL]
  cases hb : badB y k x
  ·obtain ⟨a, j, rfl, rfl, hcol, hds⟩ := drop_good hb
   haveI := hcol
   have hne : ((dropN a k j : Int) != (dropN a k j : Int)) = false := by simp
   try simp only [↓nrmL, nrmZ, Nat.reduceEqDiff, ↓reduceIte, Nat.reduceAdd, Int.reduceBEq, Int.reduceBNe, hds, hne]
   refine sq ?_
   refine rg fun KF hKF => ?_
   refine mB rfl ?_
   refine mI rfl ?_
   refine Fo.bin rfl rfl rfl (by simp only [↓nrmL, nrmZ, Nat.reduceEqDiff, ↓reduceIte, Nat.reduceAdd, Int.reduceBEq, Int.reduceBNe, hds, hne]; rfl) ?_
   refine Fo.now rfl rfl (by simp only [↓nrmL, nrmZ, Nat.reduceEqDiff, ↓reduceIte, Nat.reduceAdd, Int.reduceBEq, Int.reduceBNe, hds, hne]; rfl) ?_
   refine mB rfl ?_
   refine Fo.yes rfl rfl ?_
   refine mB rfl ?_
   refine Fo.yes rfl rfl ?_
   refine Fo.now rfl rfl (by simp only [↓nrmL, nrmZ, Nat.reduceEqDiff, ↓reduceIte, Nat.reduceAdd, Int.reduceBEq, Int.reduceBNe, hds, hne]; rfl) ?_
   refine Fo.yes rfl rfl ?_
   refine mB rfl ?_
   refine Fo.yes rfl rfl ?_
   refine mI rfl ?_
   refine Fo.yes rfl rfl ?_
   refine Fo.bin rfl rfl rfl (by simp only [↓nrmL, nrmZ, Nat.reduceEqDiff, ↓reduceIte, Nat.reduceAdd, Int.reduceBEq, Int.reduceBNe, hds, hne]; rfl) ?_
   refine Fo.yes rfl rfl ?_
   refine mB rfl ?_
   refine Fo.yes rfl rfl ?_
   refine mI rfl ?_
   refine Fo.yes rfl rfl ?_
   refine mI rfl ?_
   refine Fo.yes rfl rfl ?_
   refine mI rfl ?_
   refine Fo.yes rfl rfl ?_
   refine mI rfl ?_
   refine Fo.yes rfl rfl ?_
   refine Fo.pcall (v' := ?_) hn rfl (by simp only [↓nrmL, nrmZ, Nat.reduceEqDiff, ↓reduceIte, Nat.reduceAdd, Int.reduceBEq, Int.reduceBNe, hds, hne, List.map]; rfl) rfl ?hv fun _ _ => ?_; case hv => rfl
   refine Fo.yes rfl rfl ?_
   refine Fo.bin rfl rfl rfl (by simp only [↓nrmL, nrmZ, Nat.reduceEqDiff, ↓reduceIte, Nat.reduceAdd, Int.reduceBEq, Int.reduceBNe, hds, hne]; rfl) ?_
   refine Fo.yes rfl rfl ?_
   refine fB rfl rfl ?_
   refine Fo.yes rfl rfl ?_
   refine tB rfl rfl ?_
   refine fB rfl rfl ?_
   refine mB rfl ?_
   refine Fo.yes rfl rfl ?_
   refine mB rfl ?_
   refine Fo.yes rfl rfl ?_
   refine mB rfl ?_
   refine Fo.no rfl rfl ?_
   refine Fo.no rfl rfl ?_
   refine Fo.yes rfl rfl ?_
   refine fB rfl rfl ?_
   refine fB rfl rfl ?_
   refine WpO.nil (hKF _ _ ?_)
   refine Wp.cond (b := false) rfl ?_
   refine Wp.skip ?_
   dsimp only [cond_true, cond_false]
   exact ⟨⟨rfl, rfl, rfl, trivial⟩, Ext0.ext⟩
  ·have hds := drop_bad hb
   try simp only [↓nrmL, nrmZ, Nat.reduceEqDiff, ↓reduceIte, Nat.reduceAdd, Int.reduceBEq, Int.reduceBNe, hds]
   refine sq ?_
   refine rg fun KF hKF => ?_
   refine mB rfl ?_
   refine mI rfl ?_
   refine Fo.bin rfl rfl rfl (by simp only [↓nrmL, nrmZ, Nat.reduceEqDiff, ↓reduceIte, Nat.reduceAdd, Int.reduceBEq, Int.reduceBNe, hds]; rfl) ?_
   refine Fo.now rfl rfl (by simp only [↓nrmL, nrmZ, Nat.reduceEqDiff, ↓reduceIte, Nat.reduceAdd, Int.reduceBEq, Int.reduceBNe, hds]; rfl) ?_
   refine mB rfl ?_
   refine Fo.yes rfl rfl ?_
   refine mB rfl ?_
   refine Fo.yes rfl rfl ?_
   refine Fo.now rfl rfl (by simp only [↓nrmL, nrmZ, Nat.reduceEqDiff, ↓reduceIte, Nat.reduceAdd, Int.reduceBEq, Int.reduceBNe, hds]; rfl) ?_
   refine Fo.yes rfl rfl ?_
   refine mB rfl ?_
   refine Fo.no rfl rfl ?_
   refine Fo.no rfl rfl ?_
   refine Fo.no rfl rfl ?_
   refine Fo.noU rfl ?_
   refine Fo.noU rfl ?_
   refine Fo.noU rfl ?_
   refine Fo.noU rfl ?_
   refine Fo.noU rfl ?_
   refine Fo.noU rfl ?_
   refine Fo.no rfl rfl ?_
   refine Fo.yes rfl rfl ?_
   refine fB rfl rfl ?_
   refine fB rfl rfl ?_
   refine mB rfl ?_
   refine Fo.yes rfl rfl ?_
   refine mB rfl ?_
   refine Fo.yes rfl rfl ?_
   refine mB rfl ?_
   refine Fo.yes rfl rfl ?_
   refine mI rfl ?_
   refine Fo.yes rfl rfl ?_
   refine Fo.bin rfl rfl rfl (by simp only [↓nrmL, nrmZ, Nat.reduceEqDiff, ↓reduceIte, Nat.reduceAdd, Int.reduceBEq, Int.reduceBNe, hds]; rfl) ?_
   refine Fo.yes rfl rfl ?_
   refine tB rfl rfl ?_
   refine fB rfl rfl ?_
   refine WpO.nil (hKF _ _ ?_)
   refine Wp.cond (b := false) rfl ?_
   refine Wp.skip ?_
   dsimp only [cond_true, cond_false]
   exact ⟨⟨rfl, rfl, rfl, trivial⟩, Ext0.ext⟩
 intro g H3 hx3
 haveI : ExtI H2 H3 := ⟨hx3⟩
 simp only [updL]
 refine sq ?_
 refine rg fun KF hKF => ?_
 refine Fo.ldN rfl rfl (by simp only [↓nrmL, nrmZ, Nat.reduceEqDiff, ↓reduceIte, Nat.reduceAdd, Int.reduceBEq, Int.reduceBNe]; rfl) ?_
 refine mI rfl ?_
 refine WpO.do (WpX.conD hn rfl rfl (by simp only [↓nrmL, nrmZ, Nat.reduceEqDiff, ↓reduceIte, Nat.reduceAdd, Int.reduceBEq, Int.reduceBNe, List.map] <;> rfl) (K_Skew (w := w) (h := h) (k := k) (l := l)) fun v H5 h5 => ?_)
 obtain ⟨u, e1, q1, e2, hq1, hfq1, hwq1, hxq1⟩ := h5
 subst e1 e2
 haveI : ExtI _ H5 := ⟨hxq1⟩
 haveI := hq1.one
 refine mT rfl ?_
 refine Fo.extr rfl rfl ?_
 refine Fo.extr rfl rfl ?_
 refine Fo.new ?_
 refine Fo.st rfl (rfl : _ = AVal.agg _) rfl rfl rfl (by repeat (first | rfl | refine allOne_cons ?_)) (by simp only [↓nrmL, nrmZ, Nat.reduceEqDiff, ↓reduceIte, Nat.reduceAdd, Int.reduceBEq, Int.reduceBNe]; rfl) ?_
 refine mI rfl ?_
 refine WpO.nil (hKF _ _ ?_)
 refine sq ?_
 refine rg fun KF hKF => ?_
 refine Fo.ldN rfl rfl (by simp only [↓nrmL, nrmZ, Nat.reduceEqDiff, ↓reduceIte, Nat.reduceAdd, Int.reduceBEq, Int.reduceBNe]; rfl) ?_
 refine mI rfl ?_
 refine WpO.do (WpX.conD hn rfl rfl (by simp only [↓nrmL, nrmZ, Nat.reduceEqDiff, ↓reduceIte, Nat.reduceAdd, Int.reduceBEq, Int.reduceBNe, List.map] <;> rfl) (K_refSkew (w := w) (h := h) (k := k) (l := l)) fun v H6 h5 => ?_)
 obtain ⟨u, e1, q2, e2, hq2, hfq2, hwq2, hxq2⟩ := h5
 subst e1 e2
 haveI : ExtI _ H6 := ⟨hxq2⟩
 haveI := hq2.one
 refine mT rfl ?_
 refine Fo.extr rfl rfl ?_
 refine Fo.extr rfl rfl ?_
 refine Fo.new ?_
 refine Fo.st rfl (rfl : _ = AVal.agg _) rfl rfl rfl (by repeat (first | rfl | refine allOne_cons ?_)) (by simp only [↓nrmL, nrmZ, Nat.reduceEqDiff, ↓reduceIte, Nat.reduceAdd, Int.reduceBEq, Int.reduceBNe]; rfl) ?_
 refine mI rfl ?_
 refine WpO.nil (hKF _ _ ?_)
 refine sq ?_
 refine rg fun KF hKF => ?_
 refine Fo.ldN rfl rfl (by simp only [↓nrmL, nrmZ, Nat.reduceEqDiff, ↓reduceIte, Nat.reduceAdd, Int.reduceBEq, Int.reduceBNe]; rfl) ?_
 refine mI rfl ?_
 refine WpO.do (WpX.conD hn rfl rfl (by simp only [↓nrmL, nrmZ, Nat.reduceEqDiff, ↓reduceIte, Nat.reduceAdd, Int.reduceBEq, Int.reduceBNe, List.map] <;> rfl) (K_Unskew (w := w) (h := h) (k := k) (l := l)) fun v H7 h5 => ?_)
 obtain ⟨u, e1, q3, e2, hq3, hfq3, hwq3, hxq3⟩ := h5
 subst e1 e2
 haveI : ExtI _ H7 := ⟨hxq3⟩
 haveI := hq3.one
 refine mT rfl ?_
 refine Fo.extr rfl rfl ?_
 refine Fo.extr rfl rfl ?_
 refine Fo.new ?_
 refine Fo.st rfl (rfl : _ = AVal.agg _) rfl rfl rfl (by repeat (first | rfl | refine allOne_cons ?_)) (by simp only [↓nrmL, nrmZ, Nat.reduceEqDiff, ↓reduceIte, Nat.reduceAdd, Int.reduceBEq, Int.reduceBNe]; rfl) ?_
 refine mI rfl ?_
 refine WpO.nil (hKF _ _ ?_)
 refine sq ?_
 refine rg fun KF hKF => ?_
 refine Fo.ldN rfl rfl (by simp only [↓nrmL, nrmZ, Nat.reduceEqDiff, ↓reduceIte, Nat.reduceAdd, Int.reduceBEq, Int.reduceBNe]; rfl) ?_
 refine mI rfl ?_
 refine WpO.do (WpX.conD hn rfl rfl (by simp only [↓nrmL, nrmZ, Nat.reduceEqDiff, ↓reduceIte, Nat.reduceAdd, Int.reduceBEq, Int.reduceBNe, List.map] <;> rfl) (K_refUnskew (w := w) (h := h) (k := k) (l := l)) fun v H8 h5 => ?_)
 obtain ⟨u, e1, q4, e2, hq4, hfq4, hwq4, hxq4⟩ := h5
 subst e1 e2
 haveI : ExtI _ H8 := ⟨hxq4⟩
 haveI := hq4.one
 haveI : Short (skewS ⟨w, h, l⟩ k).1.px := ⟨skew_short⟩
 haveI : Short (unskewS ⟨w, h, l⟩ k).1.px := ⟨unskew_short⟩
 have hs1 : decide ((⟨(skewS ⟨w, h, l⟩ k).1.w, (skewS ⟨w, h, l⟩ k).1.h, (skewS ⟨w, h, l⟩ k).1.px⟩ : Img) = ⟨(skewS ⟨w, h, l⟩ k).1.w, (skewS ⟨w, h, l⟩ k).1.h, (skewS ⟨w, h, l⟩ k).1.px⟩) = true := decide_eq_true rfl
 have hs2 : decide ((⟨(unskewS ⟨w, h, l⟩ k).1.w, (unskewS ⟨w, h, l⟩ k).1.h, (unskewS ⟨w, h, l⟩ k).1.px⟩ : Img) = ⟨(unskewS ⟨w, h, l⟩ k).1.w, (unskewS ⟨w, h, l⟩ k).1.h, (unskewS ⟨w, h, l⟩ k).1.px⟩) = true := decide_eq_true rfl
 have hs3 : decide ((⟨w, h, l⟩ : Img) = ⟨w, h, l⟩) = true := decide_eq_true rfl
 have hs4 : ((skewS ⟨w, h, l⟩ k).2 == (skewS ⟨w, h, l⟩ k).2) = true := by simp
 have hs5 : ((unskewS ⟨w, h, l⟩ k).2 == (unskewS ⟨w, h, l⟩ k).2) = true := by simp
 cases h0 : (Img.err ⟨w, h, l⟩ == 0)
 ·have hfs : fullS ⟨w, h, l⟩ = (0, Img.err ⟨w, h, l⟩) := by simp only [fullS, h0, cond_false]
  have hfd : findS ⟨w, h, l⟩ = (0, Img.err ⟨w, h, l⟩) := by simp only [findS, h0, cond_false]
  have hee : (Img.err ⟨w, h, l⟩ != Img.err ⟨w, h, l⟩) = false := by simp
  have hen : (Img.err ⟨w, h, l⟩ != 0) = true := by simp only [bne, h0, Bool.not_false]
  try simp only [↓nrmL, nrmZ, Nat.reduceEqDiff, ↓reduceIte, Nat.reduceAdd, Int.reduceBEq, Int.reduceBNe, hfs, hfd, hee, hen, h0, hs1, hs2, hs3, hs4, hs5]
  refine mT rfl ?_
  refine Fo.extr rfl rfl ?_
  refine Fo.extr rfl rfl ?_
  refine Fo.new ?_
  refine Fo.st rfl (rfl : _ = AVal.agg _) rfl rfl rfl (by repeat (first | rfl | refine allOne_cons ?_)) (by simp only [↓nrmL, nrmZ, Nat.reduceEqDiff, ↓reduceIte, Nat.reduceAdd, Int.reduceBEq, Int.reduceBNe, hfs, hfd, hee, hen, h0, hs1, hs2, hs3, hs4, hs5]; rfl) ?_
  refine mI rfl ?_
  refine WpO.nil (hKF _ _ ?_)
  refine sq ?_
  refine rg fun KF hKF => ?_
  refine Fo.ldN rfl rfl (by simp only [↓nrmL, nrmZ, Nat.reduceEqDiff, ↓reduceIte, Nat.reduceAdd, Int.reduceBEq, Int.reduceBNe, hfs, hfd, hee, hen, h0, hs1, hs2, hs3, hs4, hs5]; rfl) ?_
  refine Fo.pcall (v' := ?_) hn rfl (by simp only [↓nrmL, nrmZ, Nat.reduceEqDiff, ↓reduceIte, Nat.reduceAdd, Int.reduceBEq, Int.reduceBNe, hfs, hfd, hee, hen, h0, hs1, hs2, hs3, hs4, hs5, List.map]; rfl) rfl ?hv fun _ _ => ?_; case hv => (simp only [↓nrmL, nrmZ, Nat.reduceEqDiff, ↓reduceIte, Nat.reduceAdd, Int.reduceBEq, Int.reduceBNe, hfs, hfd, hee, hen, h0, hs1, hs2, hs3, hs4, hs5]; rfl)
  refine mT rfl ?_
  refine Fo.extr rfl rfl ?_
  refine Fo.extr rfl rfl ?_
  refine mI rfl ?_
  refine mI rfl ?_
  refine WpO.nil (hKF _ _ ?_)
  refine sq ?_
  refine rg fun KF hKF => ?_
  refine Fo.ldN rfl rfl (by simp only [↓nrmL, nrmZ, Nat.reduceEqDiff, ↓reduceIte, Nat.reduceAdd, Int.reduceBEq, Int.reduceBNe, hfs, hfd, hee, hen, h0, hs1, hs2, hs3, hs4, hs5]; rfl) ?_
  refine Fo.pcall (v' := ?_) hn rfl (by simp only [↓nrmL, nrmZ, Nat.reduceEqDiff, ↓reduceIte, Nat.reduceAdd, Int.reduceBEq, Int.reduceBNe, hfs, hfd, hee, hen, h0, hs1, hs2, hs3, hs4, hs5, List.map]; rfl) rfl ?hv fun _ _ => ?_; case hv => (simp only [↓nrmL, nrmZ, Nat.reduceEqDiff, ↓reduceIte, Nat.reduceAdd, Int.reduceBEq, Int.reduceBNe, hfs, hfd, hee, hen, h0, hs1, hs2, hs3, hs4, hs5]; rfl)
  refine mT rfl ?_
  refine Fo.extr rfl rfl ?_
  refine Fo.extr rfl rfl ?_
  refine mI rfl ?_
  refine mI rfl ?_
  refine WpO.nil (hKF _ _ ?_)
  refine sq ?_
  refine rg fun KF hKF => ?_
  refine Fo.ldN rfl rfl (by simp only [↓nrmL, nrmZ, Nat.reduceEqDiff, ↓reduceIte, Nat.reduceAdd, Int.reduceBEq, Int.reduceBNe, hfs, hfd, hee, hen, h0, hs1, hs2, hs3, hs4, hs5]; rfl) ?_
  refine Fo.pcall (v' := ?_) hn rfl (by simp only [↓nrmL, nrmZ, Nat.reduceEqDiff, ↓reduceIte, Nat.reduceAdd, Int.reduceBEq, Int.reduceBNe, hfs, hfd, hee, hen, h0, hs1, hs2, hs3, hs4, hs5, List.map]; rfl) rfl ?hv fun _ _ => ?_; case hv => rfl
  refine mI rfl ?_
  refine WpO.nil (hKF _ _ ?_)
  refine sq ?_
  refine sq ?_
  refine rg fun KF hKF => ?_
  refine mI rfl ?_
  refine mI rfl ?_
  refine Fo.bin rfl rfl rfl (by simp only [↓nrmL, nrmZ, Nat.reduceEqDiff, ↓reduceIte, Nat.reduceAdd, Int.reduceBEq, Int.reduceBNe, hfs, hfd, hee, hen, h0, hs1, hs2, hs3, hs4, hs5]; rfl) ?_
  refine mB rfl ?_
  refine Fo.yes rfl rfl ?_
  refine mI rfl ?_
  refine Fo.yes rfl rfl ?_
  refine mI rfl ?_
  refine Fo.yes rfl rfl ?_
  refine Fo.bin rfl rfl rfl (by simp only [↓nrmL, nrmZ, Nat.reduceEqDiff, ↓reduceIte, Nat.reduceAdd, Int.reduceBEq, Int.reduceBNe, hfs, hfd, hee, hen, h0, hs1, hs2, hs3, hs4, hs5]; rfl) ?_
  refine fB rfl rfl ?_
  refine mB rfl ?_
  refine Fo.yes rfl rfl ?_
  refine mI rfl ?_
  refine Fo.yes rfl rfl ?_
  refine Fo.bin rfl rfl rfl (by simp only [↓nrmL, nrmZ, Nat.reduceEqDiff, ↓reduceIte, Nat.reduceAdd, Int.reduceBEq, Int.reduceBNe, hfs, hfd, hee, hen, h0, hs1, hs2, hs3, hs4, hs5]; rfl) ?_
  refine Fo.yes rfl rfl ?_
  refine mB rfl ?_
  refine Fo.no rfl rfl ?_
  refine Fo.no rfl rfl ?_
  refine Fo.no rfl rfl ?_
  refine Fo.no rfl rfl ?_
  refine Fo.no rfl rfl ?_
  refine Fo.noU rfl ?_
  refine Fo.noU rfl ?_
  refine Fo.noU rfl ?_
  refine Fo.noU rfl ?_
  refine Fo.no rfl rfl ?_
  refine Fo.yes rfl rfl ?_
  refine fB rfl rfl ?_
  refine fB rfl rfl ?_
  refine mB rfl ?_
  refine Fo.yes rfl rfl ?_
  refine mI rfl ?_
  refine Fo.yes rfl rfl ?_
  refine Fo.bin rfl rfl rfl (by simp only [↓nrmL, nrmZ, Nat.reduceEqDiff, ↓reduceIte, Nat.reduceAdd, Int.reduceBEq, Int.reduceBNe, hfs, hfd, hee, hen, h0, hs1, hs2, hs3, hs4, hs5]; rfl) ?_
  refine Fo.yes rfl rfl ?_
  refine mB rfl ?_
  refine Fo.yes rfl rfl ?_
  refine mI rfl ?_
  refine Fo.yes rfl rfl ?_
  refine Fo.bin rfl rfl rfl (by simp only [↓nrmL, nrmZ, Nat.reduceEqDiff, ↓reduceIte, Nat.reduceAdd, Int.reduceBEq, Int.reduceBNe, hfs, hfd, hee, hen, h0, hs1, hs2, hs3, hs4, hs5]; rfl) ?_
  refine Fo.yes rfl rfl ?_
  refine mB rfl ?_
  refine Fo.yes rfl rfl ?_
  refine mI rfl ?_
  refine Fo.yes rfl rfl ?_
  refine Fo.bin rfl rfl rfl (by simp only [↓nrmL, nrmZ, Nat.reduceEqDiff, ↓reduceIte, Nat.reduceAdd, Int.reduceBEq, Int.reduceBNe, hfs, hfd, hee, hen, h0, hs1, hs2, hs3, hs4, hs5]; rfl) ?_
  refine Fo.yes rfl rfl ?_
  refine fB rfl rfl ?_
  refine Fo.yes rfl rfl ?_
  refine tB rfl rfl ?_
  refine fB rfl rfl ?_
  refine WpO.nil (hKF _ _ ?_)
  refine Wp.cond (b := false) rfl ?_
  refine Wp.skip ?_
  refine sq ?_
  refine rg fun KF hKF => ?_
  refine Fo.ldN rfl rfl (by simp only [↓nrmL, nrmZ, Nat.reduceEqDiff, ↓reduceIte, Nat.reduceAdd, Int.reduceBEq, Int.reduceBNe, hfs, hfd, hee, hen, h0, hs1, hs2, hs3, hs4, hs5]; rfl) ?_
  refine Fo.ldN rfl rfl (by simp only [↓nrmL, nrmZ, Nat.reduceEqDiff, ↓reduceIte, Nat.reduceAdd, Int.reduceBEq, Int.reduceBNe, hfs, hfd, hee, hen, h0, hs1, hs2, hs3, hs4, hs5]; rfl) ?_
  refine Fo.pcall (v' := ?_) hn rfl (by simp only [↓nrmL, nrmZ, Nat.reduceEqDiff, ↓reduceIte, Nat.reduceAdd, Int.reduceBEq, Int.reduceBNe, hfs, hfd, hee, hen, h0, hs1, hs2, hs3, hs4, hs5, List.map]; rfl) rfl ?hv fun _ _ => ?_; case hv => (simp only [↓nrmL, nrmZ, Nat.reduceEqDiff, ↓reduceIte, Nat.reduceAdd, Int.reduceBEq, Int.reduceBNe, hfs, hfd, hee, hen, h0, hs1, hs2, hs3, hs4, hs5]; rfl)
  refine mB rfl ?_
  refine Fo.yes rfl rfl ?_
  refine mI rfl ?_
  refine Fo.yes rfl rfl ?_
  refine mI rfl ?_
  refine Fo.yes rfl rfl ?_
  refine Fo.bin rfl rfl rfl (by simp only [↓nrmL, nrmZ, Nat.reduceEqDiff, ↓reduceIte, Nat.reduceAdd, Int.reduceBEq, Int.reduceBNe, hfs, hfd, hee, hen, h0, hs1, hs2, hs3, hs4, hs5]; rfl) ?_
  refine tB rfl rfl ?_
  refine mB rfl ?_
  refine Fo.yes rfl rfl ?_
  refine Fo.ldN rfl rfl (by simp only [↓nrmL, nrmZ, Nat.reduceEqDiff, ↓reduceIte, Nat.reduceAdd, Int.reduceBEq, Int.reduceBNe, hfs, hfd, hee, hen, h0, hs1, hs2, hs3, hs4, hs5]; rfl) ?_
  refine Fo.yes rfl rfl ?_
  refine Fo.ldN rfl rfl (by simp only [↓nrmL, nrmZ, Nat.reduceEqDiff, ↓reduceIte, Nat.reduceAdd, Int.reduceBEq, Int.reduceBNe, hfs, hfd, hee, hen, h0, hs1, hs2, hs3, hs4, hs5]; rfl) ?_
  refine Fo.yes rfl rfl ?_
  refine Fo.pcall (v' := ?_) hn rfl (by simp only [↓nrmL, nrmZ, Nat.reduceEqDiff, ↓reduceIte, Nat.reduceAdd, Int.reduceBEq, Int.reduceBNe, hfs, hfd, hee, hen, h0, hs1, hs2, hs3, hs4, hs5, List.map]; rfl) rfl ?hv fun _ _ => ?_; case hv => (simp only [↓nrmL, nrmZ, Nat.reduceEqDiff, ↓reduceIte, Nat.reduceAdd, Int.reduceBEq, Int.reduceBNe, hfs, hfd, hee, hen, h0, hs1, hs2, hs3, hs4, hs5]; rfl)
  refine tB rfl rfl ?_
  refine mB rfl ?_
  refine Fo.yes rfl rfl ?_
  refine mI rfl ?_
  refine Fo.yes rfl rfl ?_
  refine mI rfl ?_
  refine Fo.yes rfl rfl ?_
  refine Fo.bin rfl rfl rfl (by simp only [↓nrmL, nrmZ, Nat.reduceEqDiff, ↓reduceIte, Nat.reduceAdd, Int.reduceBEq, Int.reduceBNe, hfs, hfd, hee, hen, h0, hs1, hs2, hs3, hs4, hs5]; rfl) ?_
  refine tB rfl rfl ?_
  refine mB rfl ?_
  refine Fo.yes rfl rfl ?_
  refine Fo.ldN rfl rfl (by simp only [↓nrmL, nrmZ, Nat.reduceEqDiff, ↓reduceIte, Nat.reduceAdd, Int.reduceBEq, Int.reduceBNe, hfs, hfd, hee, hen, h0, hs1, hs2, hs3, hs4, hs5]; rfl) ?_
  refine Fo.yes rfl rfl ?_
  refine Fo.ldN rfl rfl (by simp only [↓nrmL, nrmZ, Nat.reduceEqDiff, ↓reduceIte, Nat.reduceAdd, Int.reduceBEq, Int.reduceBNe, hfs, hfd, hee, hen, h0, hs1, hs2, hs3, hs4, hs5]; rfl) ?_
  refine Fo.yes rfl rfl ?_
  refine Fo.pcall (v' := ?_) hn rfl (by simp only [↓nrmL, nrmZ, Nat.reduceEqDiff, ↓reduceIte, Nat.reduceAdd, Int.reduceBEq, Int.reduceBNe, hfs, hfd, hee, hen, h0, hs1, hs2, hs3, hs4, hs5, List.map]; rfl) rfl ?hv fun _ _ => ?_; case hv => (simp only [↓nrmL, nrmZ, Nat.reduceEqDiff, ↓reduceIte, Nat.reduceAdd, Int.reduceBEq, Int.reduceBNe, hfs, hfd, hee, hen, h0, hs1, hs2, hs3, hs4, hs5]; rfl)
  refine tB rfl rfl ?_
  refine mB rfl ?_
  refine Fo.yes rfl rfl ?_
  refine Fo.pcall (v' := ?_) hn rfl (by simp only [↓nrmL, nrmZ, Nat.reduceEqDiff, ↓reduceIte, Nat.reduceAdd, Int.reduceBEq, Int.reduceBNe, hfs, hfd, hee, hen, h0, hs1, hs2, hs3, hs4, hs5, List.map]; rfl) rfl ?hv fun _ _ => ?_; case hv => rfl
  refine tB rfl rfl ?_
  refine mB rfl ?_
  refine WpO.nil (hKF _ _ ?_)
  refine Wp.ret ?_
  dsimp only [cond_true, cond_false]
  refine ⟨trivial, _, (by first | rfl | exact getAllC rfl rfl rfl rfl | exact getAllT rfl (getAllC rfl rfl rfl rfl) | exact getAllC rfl rfl rfl (getAllC rfl rfl rfl rfl) | exact getAllC1 rfl rfl rfl), ?_⟩
  exact ⟨rfl, Ext0.ext⟩
 ·obtain ⟨a, b, rfl, rfl, ok⟩ := ok_of h0
  haveI : OkI a b l := ⟨ok⟩
  have he := ok.err
  have hfs : fullS ⟨a, b, l⟩ = ((fullN l a b : Int), 0) := full_ok ok
  have hfd : findS ⟨a, b, l⟩ = ((fsA (fwS ⟨a, b, l⟩) skAll).1, 0) := by simp only [findS, h0, cond_true]
  have hn1 : ((fullN l a b : Int) != (fullN l a b : Int)) = false := by simp
  have hn2 : ((fsA (fwS ⟨a, b, l⟩) skAll).1 != (fsA (fwS ⟨a, b, l⟩) skAll).1) = false := by simp
  try simp only [↓nrmL, nrmZ, Nat.reduceEqDiff, ↓reduceIte, Nat.reduceAdd, Int.reduceBEq, Int.reduceBNe, hfs, hfd, he, hn1, hn2, hs1, hs2, hs3, hs4, hs5]
  refine mT rfl ?_
  refine Fo.extr rfl rfl ?_
  refine Fo.extr rfl rfl ?_
  refine Fo.new ?_
  refine Fo.st rfl (rfl : _ = AVal.agg _) rfl rfl rfl (by repeat (first | rfl | refine allOne_cons ?_)) (by simp only [↓nrmL, nrmZ, Nat.reduceEqDiff, ↓reduceIte, Nat.reduceAdd, Int.reduceBEq, Int.reduceBNe, hfs, hfd, he, hn1, hn2, hs1, hs2, hs3, hs4, hs5]; rfl) ?_
  refine mI rfl ?_
  refine WpO.nil (hKF _ _ ?_)
  refine sq ?_
  refine rg fun KF hKF => ?_
  refine Fo.ldN rfl rfl (by simp only [↓nrmL, nrmZ, Nat.reduceEqDiff, ↓reduceIte, Nat.reduceAdd, Int.reduceBEq, Int.reduceBNe, hfs, hfd, he, hn1, hn2, hs1, hs2, hs3, hs4, hs5]; rfl) ?_
  refine Fo.pcall (v' := ?_) hn rfl (by simp only [↓nrmL, nrmZ, Nat.reduceEqDiff, ↓reduceIte, Nat.reduceAdd, Int.reduceBEq, Int.reduceBNe, hfs, hfd, he, hn1, hn2, hs1, hs2, hs3, hs4, hs5, List.map]; rfl) rfl ?hv fun _ _ => ?_; case hv => (simp only [↓nrmL, nrmZ, Nat.reduceEqDiff, ↓reduceIte, Nat.reduceAdd, Int.reduceBEq, Int.reduceBNe, hfs, hfd, he, hn1, hn2, hs1, hs2, hs3, hs4, hs5]; rfl)
  refine mT rfl ?_
  refine Fo.extr rfl rfl ?_
  refine Fo.extr rfl rfl ?_
  refine mI rfl ?_
  refine mI rfl ?_
  refine WpO.nil (hKF _ _ ?_)
  refine sq ?_
  refine rg fun KF hKF => ?_
  refine Fo.ldN rfl rfl (by simp only [↓nrmL, nrmZ, Nat.reduceEqDiff, ↓reduceIte, Nat.reduceAdd, Int.reduceBEq, Int.reduceBNe, hfs, hfd, he, hn1, hn2, hs1, hs2, hs3, hs4, hs5]; rfl) ?_
  refine Fo.pcall (v' := ?_) hn rfl (by simp only [↓nrmL, nrmZ, Nat.reduceEqDiff, ↓reduceIte, Nat.reduceAdd, Int.reduceBEq, Int.reduceBNe, hfs, hfd, he, hn1, hn2, hs1, hs2, hs3, hs4, hs5, List.map]; rfl) rfl ?hv fun _ _ => ?_; case hv => (simp only [↓nrmL, nrmZ, Nat.reduceEqDiff, ↓reduceIte, Nat.reduceAdd, Int.reduceBEq, Int.reduceBNe, hfs, hfd, he, hn1, hn2, hs1, hs2, hs3, hs4, hs5]; rfl)
  refine mT rfl ?_
  refine Fo.extr rfl rfl ?_
  refine Fo.extr rfl rfl ?_
  refine mI rfl ?_
  refine mI rfl ?_
  refine WpO.nil (hKF _ _ ?_)
  refine sq ?_
  refine rg fun KF hKF => ?_
  refine Fo.ldN rfl rfl (by simp only [↓nrmL, nrmZ, Nat.reduceEqDiff, ↓reduceIte, Nat.reduceAdd, Int.reduceBEq, Int.reduceBNe, hfs, hfd, he, hn1, hn2, hs1, hs2, hs3, hs4, hs5]; rfl) ?_
  refine Fo.pcall (v' := ?_) hn rfl (by simp only [↓nrmL, nrmZ, Nat.reduceEqDiff, ↓reduceIte, Nat.reduceAdd, Int.reduceBEq, Int.reduceBNe, hfs, hfd, he, hn1, hn2, hs1, hs2, hs3, hs4, hs5, List.map]; rfl) rfl ?hv fun _ _ => ?_; case hv => (simp only [↓nrmL, nrmZ, Nat.reduceEqDiff, ↓reduceIte, Nat.reduceAdd, Int.reduceBEq, Int.reduceBNe, hfs, hfd, he, hn1, hn2, hs1, hs2, hs3, hs4, hs5]; rfl)
  refine mI rfl ?_
  refine WpO.nil (hKF _ _ ?_)
  refine sq ?_
  refine sq ?_
  refine rg fun KF hKF => ?_
  refine mI rfl ?_
  refine mI rfl ?_
  refine Fo.bin rfl rfl rfl (by simp only [↓nrmL, nrmZ, Nat.reduceEqDiff, ↓reduceIte, Nat.reduceAdd, Int.reduceBEq, Int.reduceBNe, hfs, hfd, he, hn1, hn2, hs1, hs2, hs3, hs4, hs5]; rfl) ?_
  refine mB rfl ?_
  refine Fo.yes rfl rfl ?_
  refine mI rfl ?_
  refine Fo.yes rfl rfl ?_
  refine mI rfl ?_
  refine Fo.yes rfl rfl ?_
  refine Fo.bin rfl rfl rfl (by simp only [↓nrmL, nrmZ, Nat.reduceEqDiff, ↓reduceIte, Nat.reduceAdd, Int.reduceBEq, Int.reduceBNe, hfs, hfd, he, hn1, hn2, hs1, hs2, hs3, hs4, hs5]; rfl) ?_
  refine fB rfl rfl ?_
  refine mB rfl ?_
  refine Fo.yes rfl rfl ?_
  refine mI rfl ?_
  refine Fo.yes rfl rfl ?_
  refine Fo.bin rfl rfl rfl (by simp only [↓nrmL, nrmZ, Nat.reduceEqDiff, ↓reduceIte, Nat.reduceAdd, Int.reduceBEq, Int.reduceBNe, hfs, hfd, he, hn1, hn2, hs1, hs2, hs3, hs4, hs5]; rfl) ?_
  refine Fo.yes rfl rfl ?_
  refine mB rfl ?_
  refine Fo.yes rfl rfl ?_
  refine mI rfl ?_
  refine Fo.yes rfl rfl ?_
  refine Fo.ldN rfl rfl (by simp only [↓nrmL, nrmZ, Nat.reduceEqDiff, ↓reduceIte, Nat.reduceAdd, Int.reduceBEq, Int.reduceBNe, hfs, hfd, he, hn1, hn2, hs1, hs2, hs3, hs4, hs5]; rfl) ?_
  refine Fo.yes rfl rfl ?_
  refine Fo.pcall (v' := ?_) hn rfl (by simp only [↓nrmL, nrmZ, Nat.reduceEqDiff, ↓reduceIte, Nat.reduceAdd, Int.reduceBEq, Int.reduceBNe, hfs, hfd, he, hn1, hn2, hs1, hs2, hs3, hs4, hs5, List.map]; rfl) rfl ?hv fun _ _ => ?_; case hv => rfl
  refine Fo.yes rfl rfl ?_
  refine Fo.bin rfl rfl rfl (by simp only [↓nrmL, nrmZ, Nat.reduceEqDiff, ↓reduceIte, Nat.reduceAdd, Int.reduceBEq, Int.reduceBNe, hfs, hfd, he, hn1, hn2, hs1, hs2, hs3, hs4, hs5]; rfl) ?_
  refine Fo.yes rfl rfl ?_
  refine mB rfl ?_
  refine Fo.yes rfl rfl ?_
  refine mI rfl ?_
  refine Fo.yes rfl rfl ?_
  refine Fo.ldN rfl rfl (by simp only [↓nrmL, nrmZ, Nat.reduceEqDiff, ↓reduceIte, Nat.reduceAdd, Int.reduceBEq, Int.reduceBNe, hfs, hfd, he, hn1, hn2, hs1, hs2, hs3, hs4, hs5]; rfl) ?_
  refine Fo.yes rfl rfl ?_
  refine Fo.pcall (v' := ?_) hn rfl (by simp only [↓nrmL, nrmZ, Nat.reduceEqDiff, ↓reduceIte, Nat.reduceAdd, Int.reduceBEq, Int.reduceBNe, hfs, hfd, he, hn1, hn2, hs1, hs2, hs3, hs4, hs5, List.map]; rfl) rfl ?hv fun _ _ => ?_; case hv => rfl
  refine Fo.yes rfl rfl ?_
  refine Fo.bin rfl rfl rfl (by simp only [↓nrmL, nrmZ, Nat.reduceEqDiff, ↓reduceIte, Nat.reduceAdd, Int.reduceBEq, Int.reduceBNe, hfs, hfd, he, hn1, hn2, hs1, hs2, hs3, hs4, hs5]; rfl) ?_
  refine Fo.yes rfl rfl ?_
  refine fB rfl rfl ?_
  refine Fo.yes rfl rfl ?_
  refine tB rfl rfl ?_
  refine fB rfl rfl ?_
  refine mB rfl ?_
  refine Fo.yes rfl rfl ?_
  refine mI rfl ?_
  refine Fo.yes rfl rfl ?_
  refine Fo.bin rfl rfl rfl (by simp only [↓nrmL, nrmZ, Nat.reduceEqDiff, ↓reduceIte, Nat.reduceAdd, Int.reduceBEq, Int.reduceBNe, hfs, hfd, he, hn1, hn2, hs1, hs2, hs3, hs4, hs5]; rfl) ?_
  refine Fo.yes rfl rfl ?_
  refine mB rfl ?_
  refine Fo.no rfl rfl ?_
  refine Fo.no rfl rfl ?_
  refine Fo.no rfl rfl ?_
  refine Fo.noU rfl ?_
  refine Fo.noU rfl ?_
  refine Fo.no rfl rfl ?_
  refine Fo.yes rfl rfl ?_
  refine fB rfl rfl ?_
  refine fB rfl rfl ?_
  refine WpO.nil (hKF _ _ ?_)
  refine Wp.cond (b := false) rfl ?_
  refine Wp.skip ?_
  refine sq ?_
  refine rg fun KF hKF => ?_
  refine Fo.ldN rfl rfl (by simp only [↓nrmL, nrmZ, Nat.reduceEqDiff, ↓reduceIte, Nat.reduceAdd, Int.reduceBEq, Int.reduceBNe, hfs, hfd, he, hn1, hn2, hs1, hs2, hs3, hs4, hs5]; rfl) ?_
  refine Fo.ldN rfl rfl (by simp only [↓nrmL, nrmZ, Nat.reduceEqDiff, ↓reduceIte, Nat.reduceAdd, Int.reduceBEq, Int.reduceBNe, hfs, hfd, he, hn1, hn2, hs1, hs2, hs3, hs4, hs5]; rfl) ?_
  refine Fo.pcall (v' := ?_) hn rfl (by simp only [↓nrmL, nrmZ, Nat.reduceEqDiff, ↓reduceIte, Nat.reduceAdd, Int.reduceBEq, Int.reduceBNe, hfs, hfd, he, hn1, hn2, hs1, hs2, hs3, hs4, hs5, List.map]; rfl) rfl ?hv fun _ _ => ?_; case hv => (simp only [↓nrmL, nrmZ, Nat.reduceEqDiff, ↓reduceIte, Nat.reduceAdd, Int.reduceBEq, Int.reduceBNe, hfs, hfd, he, hn1, hn2, hs1, hs2, hs3, hs4, hs5]; rfl)
  refine mB rfl ?_
  refine Fo.yes rfl rfl ?_
  refine mI rfl ?_
  refine Fo.yes rfl rfl ?_
  refine mI rfl ?_
  refine Fo.yes rfl rfl ?_
  refine Fo.bin rfl rfl rfl (by simp only [↓nrmL, nrmZ, Nat.reduceEqDiff, ↓reduceIte, Nat.reduceAdd, Int.reduceBEq, Int.reduceBNe, hfs, hfd, he, hn1, hn2, hs1, hs2, hs3, hs4, hs5]; rfl) ?_
  refine tB rfl rfl ?_
  refine mB rfl ?_
  refine Fo.yes rfl rfl ?_
  refine Fo.ldN rfl rfl (by simp only [↓nrmL, nrmZ, Nat.reduceEqDiff, ↓reduceIte, Nat.reduceAdd, Int.reduceBEq, Int.reduceBNe, hfs, hfd, he, hn1, hn2, hs1, hs2, hs3, hs4, hs5]; rfl) ?_
  refine Fo.yes rfl rfl ?_
  refine Fo.ldN rfl rfl (by simp only [↓nrmL, nrmZ, Nat.reduceEqDiff, ↓reduceIte, Nat.reduceAdd, Int.reduceBEq, Int.reduceBNe, hfs, hfd, he, hn1, hn2, hs1, hs2, hs3, hs4, hs5]; rfl) ?_
  refine Fo.yes rfl rfl ?_
  refine Fo.pcall (v' := ?_) hn rfl (by simp only [↓nrmL, nrmZ, Nat.reduceEqDiff, ↓reduceIte, Nat.reduceAdd, Int.reduceBEq, Int.reduceBNe, hfs, hfd, he, hn1, hn2, hs1, hs2, hs3, hs4, hs5, List.map]; rfl) rfl ?hv fun _ _ => ?_; case hv => (simp only [↓nrmL, nrmZ, Nat.reduceEqDiff, ↓reduceIte, Nat.reduceAdd, Int.reduceBEq, Int.reduceBNe, hfs, hfd, he, hn1, hn2, hs1, hs2, hs3, hs4, hs5]; rfl)
  refine tB rfl rfl ?_
  refine mB rfl ?_
  refine Fo.yes rfl rfl ?_
  refine mI rfl ?_
  refine Fo.yes rfl rfl ?_
  refine mI rfl ?_
  refine Fo.yes rfl rfl ?_
  refine Fo.bin rfl rfl rfl (by simp only [↓nrmL, nrmZ, Nat.reduceEqDiff, ↓reduceIte, Nat.reduceAdd, Int.reduceBEq, Int.reduceBNe, hfs, hfd, he, hn1, hn2, hs1, hs2, hs3, hs4, hs5]; rfl) ?_
  refine tB rfl rfl ?_
  refine mB rfl ?_
  refine Fo.yes rfl rfl ?_
  refine Fo.ldN rfl rfl (by simp only [↓nrmL, nrmZ, Nat.reduceEqDiff, ↓reduceIte, Nat.reduceAdd, Int.reduceBEq, Int.reduceBNe, hfs, hfd, he, hn1, hn2, hs1, hs2, hs3, hs4, hs5]; rfl) ?_
  refine Fo.yes rfl rfl ?_
  refine Fo.ldN rfl rfl (by simp only [↓nrmL, nrmZ, Nat.reduceEqDiff, ↓reduceIte, Nat.reduceAdd, Int.reduceBEq, Int.reduceBNe, hfs, hfd, he, hn1, hn2, hs1, hs2, hs3, hs4, hs5]; rfl) ?_
  refine Fo.yes rfl rfl ?_
  refine Fo.pcall (v' := ?_) hn rfl (by simp only [↓nrmL, nrmZ, Nat.reduceEqDiff, ↓reduceIte, Nat.reduceAdd, Int.reduceBEq, Int.reduceBNe, hfs, hfd, he, hn1, hn2, hs1, hs2, hs3, hs4, hs5, List.map]; rfl) rfl ?hv fun _ _ => ?_; case hv => (simp only [↓nrmL, nrmZ, Nat.reduceEqDiff, ↓reduceIte, Nat.reduceAdd, Int.reduceBEq, Int.reduceBNe, hfs, hfd, he, hn1, hn2, hs1, hs2, hs3, hs4, hs5]; rfl)
  refine tB rfl rfl ?_
  refine mB rfl ?_
  refine Fo.yes rfl rfl ?_
  refine Fo.pcall (v' := ?_) hn rfl (by simp only [↓nrmL, nrmZ, Nat.reduceEqDiff, ↓reduceIte, Nat.reduceAdd, Int.reduceBEq, Int.reduceBNe, hfs, hfd, he, hn1, hn2, hs1, hs2, hs3, hs4, hs5, List.map]; rfl) rfl ?hv fun _ _ => ?_; case hv => rfl
  refine tB rfl rfl ?_
  refine mB rfl ?_
  refine WpO.nil (hKF _ _ ?_)
  refine Wp.ret ?_
  dsimp only [cond_true, cond_false]
  refine ⟨trivial, _, (by first | rfl | exact getAllC rfl rfl rfl rfl | exact getAllT rfl (getAllC rfl rfl rfl rfl) | exact getAllC rfl rfl rfl (getAllC rfl rfl rfl rfl) | exact getAllC1 rfl rfl rfl), ?_⟩
  exact ⟨rfl, Ext0.ext⟩
end Go.Am

set_option maxRecDepth 100000
set_option maxHeartbeats 4000000
namespace Go.Proofs.Ytdbgdhjcpmacoaa.CleanSkews
open Go.ChangeShapes Go.WideShapes Go.ChangeAt Go.RowKit Go.Am Go.Proofs.Ytdbgdhjcpmacoaa.Laid

theorem con (H : AHeap) (avs : List AVal) (ht : tablesIn aroundT H = true) (h : ArgS Try.prog H 3 [25, 3, 3, 3] avs) : Con ext prog 14 4 avs H fun v H' => v = .bool true ∧ Ext H H' := by
  obtain ⟨a0, r0, rfl, h0, a1, r1, rfl, h1, a2, r2, rfl, h2, a3, r3, rfl, h3, rfl⟩ := h
  obtain ⟨w0, hh0, p0, l0, rfl, k0, _⟩ := shape_img (ti := 3) (ts := 22) (tb := 5) Try.underlying25 (by kernel_rfl) Try.underlying3 Try.underlying22 Try.underlying5 (by kernel_rfl) h0
  obtain ⟨i1, rfl, _⟩ := shape_int Try.underlying3 h1
  obtain ⟨i2, rfl, _⟩ := shape_int Try.underlying3 h2
  obtain ⟨i3, rfl, _⟩ := shape_int Try.underlying3 h3
  have e0 : argV Try.prog 25 [.int .i64 w0, .int .i64 hh0, p0] = .agg [.int .i64 w0, .int .i64 hh0, p0] := by simp only [argV, show aggTy Try.prog 25 = true by kernel_rfl, cond_true]
  have e1 : argV Try.prog 3 [.int .i64 i1] = .int .i64 i1 := by simp only [argV, show aggTy Try.prog 3 = false by kernel_rfl, cond_false, List.headD_cons]
  have e2 : argV Try.prog 3 [.int .i64 i2] = .int .i64 i2 := by simp only [argV, show aggTy Try.prog 3 = false by kernel_rfl, cond_false, List.headD_cons]
  have e3 : argV Try.prog 3 [.int .i64 i3] = .int .i64 i3 := by simp only [argV, show aggTy Try.prog 3 = false by kernel_rfl, cond_false, List.headD_cons]
  rw [e0, e1, e2, e3]
  exact K_CleanSkews

theorem contract (H : Type) (enc : TypeId × Value → H) (W : World) (base : Nat) (args : Array Value) (ds gs : List (DataW H)) (before : List MemPlace)
    (hval : ∀ (j : Nat) t v, Try.f4.params[j]? = some t → args[j]? = some v → Value.okWide Try.prog W .any base t v)
    (hW : DataW.Whole enc Try.prog Try.f4.params.toList Rows.cleanSkewsSpec.vars false W args.toList ds gs before) (hL : laidMetH Try.prog Rows.cleanSkewsRow.laid W) :
    Calls Try.prog 4 args W fun e W' => ∃ v, e = .returned v ∧ Rows.cleanSkewsSpec.post enc Try.prog Try.f4 false true false false W args v W' := by
  have hW' := hW
  obtain ⟨p, q, hA, _⟩ := hW'
  rw [Try.params4] at hA
  obtain ⟨v0, vs0, d0, ds0, p0, q0, _, rfl, _, _, r0⟩ := trodAll_cons hA
  obtain ⟨v1, vs1, d1, ds1, p1, q1, _, rfl, _, _, r1⟩ := trodAll_cons r0
  obtain ⟨v2, vs2, d2, ds2, p2, q2, _, rfl, _, _, r2⟩ := trodAll_cons r1
  obtain ⟨v3, vs3, d3, ds3, p3, q3, _, rfl, _, _, r3⟩ := trodAll_cons r2
  obtain ⟨_, rfl, _⟩ := trodAll_nil r3
  exact law_calls (tb := 4) (n := 3) (d := 14) (tabs := aroundT) mixed progOk Try.func4 rfl (by decide +kernel) laidOut rowed full (by kernel_rfl) rfl (by kernel_rfl) Try.underlying4 (by kernel_rfl) (by kernel_rfl)
    (fun H avs ht h => con H avs ht (by rw [Try.params4] at h; exact h)) H enc W base args _ gs before rfl hval hW around_cells

theorem laid_met (os : Os) : laidMet Try.prog Rows.cleanSkewsRow.laid ((laidWorld os).forCall (fun _ _ => 0) ⟨#[], #[.agg #[.int .i64 0, .int .i64 0, .slice none 0 0], .int .i64 0, .int .i64 0, .int .i64 0], []⟩).memory :=
  laidMet_of_run' 8 (by kernel_rfl) (by kernel_rfl)
theorem reads (os : Os) {H : Type} (enc : TypeId × Value → H) : ∃ places, DataW.whole enc Try.prog ((laidWorld os).forCall (fun _ _ => 0) ⟨#[], #[.agg #[.int .i64 0, .int .i64 0, .slice none 0 0], .int .i64 0, .int .i64 0, .int .i64 0], []⟩).memory Try.f4.params.toList Rows.cleanSkewsSpec.vars false #[Value.agg #[.int .i64 0, .int .i64 0, .slice none 0 0], .int .i64 0, .int .i64 0, .int .i64 0].toList 8 = some ([.agg [.lit (.int .i64 0), .lit (.int .i64 0), .nil], .lit (.int .i64 0), .lit (.int .i64 0), .lit (.int .i64 0)], [], places) :=
  ⟨[], by kernel_rfl⟩

theorem lifted (os : Os) (started : os.Started) (H : Type) (enc : TypeId × Value → H) (F : Stop.Interp) :
    ReturnsInHanded {} Try.checked os 4 .any ((OpenSpec.ofChange Rows.cleanSkewsSpec).preRow enc Try.prog Try.f4 Rows.cleanSkewsRow.domain false Rows.cleanSkewsRow.laid) (((OpenSpec.ofChange Rows.cleanSkewsSpec).at F).post enc Try.prog Try.f4 false true false false) := by
  obtain ⟨places, hx⟩ := reads os enc
  refine returnsInHanded_of_row (C := Try.checked) (s := OpenSpec.ofChange Rows.cleanSkewsSpec) own started (by kernel_rfl) Try.func4
    (witness_row_at (enc := enc) (C := Try.checked) false (laidWorld os) #[.agg #[.int .i64 0, .int .i64 0, .slice none 0 0], .int .i64 0, .int .i64 0, .int .i64 0] rfl (by kernel_rfl) (by kernel_rfl) (by kernel_rfl)
      (OpenSpec.preRow_of_cond 8 hx (by kernel_rfl) (fun k hk => by cases hk) (by kernel_rfl) (laid_met os))) ?_
  intro W base args ds gs before hval hW _ _ _ hL _ _
  exact contract H enc W base args ds gs before hval hW hL

theorem said : Rows.CleanSkewsSaid :=
  OpenClaim.holds_of_cond 4 Try.f4 rfl rfl rfl rfl rfl rfl rfl ⟨rfl, rfl, rfl, rfl, rfl⟩ rfl rfl rfl rfl rfl (by kernel_rfl) Try.func4 (by kernel_rfl)
    (of_decide_eq_true (by kernel_rfl)) (by unfold Func.isWrapper; first | (rw [if_pos (by decide +kernel)]; kernel_rfl) | (rw [if_neg (by decide +kernel)]; exact ⟨rfl, rfl⟩))
    (fun os started H enc _ F => by rw [OpenClaim.pre_eq_preRow]; exact lifted os started H enc F)
end Go.Proofs.Ytdbgdhjcpmacoaa.CleanSkews
