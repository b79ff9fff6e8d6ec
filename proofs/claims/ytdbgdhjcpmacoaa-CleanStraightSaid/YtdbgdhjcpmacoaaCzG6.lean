/-
  CleanStraight returns true for all sides, rows, changes and skews. No condition.
-/
import Derived.Test.YtdbgdhjcpmacoaaAmBD
set_option linter.unusedSimpArgs false
set_option linter.unusedVariables false
set_option maxHeartbeats 4000000
set_option maxRecDepth 100000
set_option synthInstance.maxHeartbeats 2000000
set_option synthInstance.maxSize 1000000000
namespace Go.Am
open Go
attribute [local irreducible] Wp WpO WpX WpE
/-- The best skew so far, and its full rows. -/
def fsStep (f : Int → Int × Int) (s : Int × Int) (k : Int) : Int × Int := bif (f k).2 == 0 then (bif decide ((f k).1 > s.2) then (k, (f k).1) else s) else s
def fsA (f : Int → Int × Int) (acc : List Int) : Int × Int := acc.foldl (fsStep f) (0, -1)
theorem fsA_snoc (f : Int → Int × Int) (acc : List Int) (k : Int) : fsA f (acc ++ [k]) = fsStep f (fsA f acc) k := by simp [fsA]
abbrev skAll : List Int := [0, 1, -1, 2, -2, 3, -3]
def findS (g : Img) : Int × Int := bif g.err == 0 then ((fsA (fwS g) skAll).1, 0) else (0, g.err)
abbrev fsnA : RCode := .region [⟨(some 7), .mov (.tmp 15), none⟩]
abbrev fsnB : RCode := .block 1 (.seq (.region [⟨(some 17), .load (some 3) (.tmp 1), none⟩,
   ⟨(some 18), .mov (.tmp 7), none⟩,
   ⟨(some 19), .call (.val (.func (.func 49) [] [])) [(.tmp 17), (.tmp 18)], none⟩,
   ⟨(some 16), .mov (.tmp 19), none⟩,
   ⟨(some 20), .extract (.tmp 16) 0, none⟩,
   ⟨(some 21), .extract (.tmp 16) 1, none⟩,
   ⟨(some 8), .mov (.tmp 20), none⟩,
   ⟨(some 9), .mov (.tmp 21), none⟩])
  (.seq (.region [⟨(some 22), .mov (.tmp 9), none⟩,
   ⟨(some 23), .bin .eql (.tmp 22) (.val (.int .i64 0)), none⟩,
   ⟨(some 24), .mov (.tmp 23), none⟩,
   ⟨(some 25), .mov (.tmp 8), some (24, true)⟩,
   ⟨(some 26), .load none (.tmp 6), some (24, true)⟩,
   ⟨(some 27), .bin .gtr (.tmp 25) (.tmp 26), some (24, true)⟩,
   ⟨(some 28), .pick (.tmp 24) (.tmp 27) (.val (.bool false)), none⟩])
  (.cond (.tmp 28) (.region [⟨(some 29), .mov (.tmp 7), none⟩,
    ⟨(some 30), .mov (.tmp 8), none⟩,
    ⟨none, .store 1 (.tmp 5) (.tmp 29), none⟩,
    ⟨none, .store 1 (.tmp 6) (.tmp 30), none⟩])
  (.skip))))
abbrev fsnL (d : Nat) (fr : AFrame) : RLoop := ⟨d, 32, fr, [15], fsnA, fsnB, 0, .normal⟩
/-- Between two rounds. -/
structure JF (f : Int → Int × Int) (Hb : AHeap) (rb rm r : Nat) (R0 : RLoop) (acc : List Int) (H : AHeap) : Prop where
 n : Hb.n ≤ H.n
 get : ∀ s, s < Hb.n → s ≠ rb → s ≠ rm → H.get s = Hb.get s
 best : HasRow H rb [.int .i64 (fsA f acc).1] true (2 * 3)
 most : HasRow H rm [.int .i64 (fsA f acc).2] true (2 * 3)
 loop : HasLoop H r R0
theorem JF.row {f : Int → Int × Int} {Hb H : AHeap} {rb rm r s : Nat} {R0 : RLoop} {acc : List Int} {cs : List AVal} {rw : Bool} {e : TypeId} (h : JF f Hb rb rm r R0 acc H) (k : HasRow Hb s cs rw e) (h1 : s ≠ rb) (h2 : s ≠ rm) : HasRow H s cs rw e := ⟨Nat.lt_of_lt_of_le k.lt h.n, by rw [h.get s k.lt h1 h2]; exact k.get⟩
theorem JF.bytes {f : Int → Int × Int} {Hb H : AHeap} {rb rm r : Nat} {R0 : RLoop} {acc : List Int} {p : AVal} {l : List UInt8} (h : JF f Hb rb rm r R0 acc H) (k : BytesI Hb p l) (h1 : RowNe p rb) (h2 : RowNe p rm) : BytesI H p l := k.keep h.n fun s _ _ _ _ e hs => h.get s hs (h1.ne _ _ _ _ _ e) (h2.ne _ _ _ _ _ e)
theorem round_skew {w h : Int} {l : List UInt8} {p : AVal} {Hb H : AHeap} {r1 rb rm r d n : Nat} {fr : AFrame} {acc : List Int} {k : Int} (h1 : fr 1 = .ptr r1 0) (h5 : fr 5 = .ptr rb 0) (h6 : fr 6 = .ptr rm 0) (k1 : HasRow Hb r1 [.int .i64 w, .int .i64 h, p] true (2 * 25)) (kp : BytesI Hb p l) (n1 : r1 ≠ rb) (n2 : r1 ≠ rm) (n3 : rb ≠ rm) (p1 : RowNe p rb) (p2 : RowNe p rm) (hrb : rb < Hb.n) (hrm : rm < Hb.n) (hr : Hb.n ≤ r) (hJ : JF (fwS ⟨w, h, l⟩) Hb rb rm r (fsnL d fr) acc H) (hn : fuel0 + 8 ≤ n) :
  ∃ H', callN ext prog n yieldId [.yield r, .int .i64 k] H = some (.bool true, H') ∧ JF (fwS ⟨w, h, l⟩) Hb rb rm r (fsnL d fr) (acc ++ [k]) H' := by
 obtain ⟨j, rfl⟩ : ∃ j, n = j + 1 := ⟨n - 1, by omega⟩
 have hn' : fuel0 + 7 ≤ j := by omega
 haveI := hJ.loop
 haveI := hJ.best
 haveI := hJ.most
 haveI := hJ.row k1 n1 n2
 haveI := hJ.bytes kp p1 p2
 haveI := kp.one
 haveI e1 : NeR rb r := ⟨by omega⟩
 haveI e2 : NeR r rb := ⟨by omega⟩
 haveI e3 : NeR rm r := ⟨by omega⟩
 haveI e4 : NeR r rm := ⟨by omega⟩
 haveI e5 : NeR rb rm := ⟨n3⟩
 haveI e6 : NeR rm rb := ⟨Ne.symm n3⟩
 haveI e7 : NeR r1 r := ⟨by have := k1.lt; omega⟩
 haveI e8 : NeR r r1 := ⟨by have := k1.lt; omega⟩
 haveI : RowNe p r := ⟨fun r' off len cap sz q => by have := kp.lt q; omega⟩
 refine round_next (R := fsnL d fr) rfl hJ.loop rfl rfl rfl ?_
 show Wp (callN ext prog j) j fsnA (upd fr 15 (.int .i64 k)) H _
 try simp only [↓nrmL, nrmZ, Nat.reduceEqDiff, ↓reduceIte, Nat.reduceAdd, Int.reduceBEq, Int.reduceBNe, h1, h5, h6]
 refine rg fun KF hKF => ?_
 refine mI rfl ?_
 refine WpO.nil (hKF _ _ ?_)
 refine ⟨rfl, inferInstance, ?_⟩
 show Wp (callN ext prog j) j fsnB _ _ _
 have hn := hn'
 refine Wp.block ?_
 refine sq ?_
 refine rg fun KF hKF => ?_
 refine Fo.ldN (n := 3) h1 rfl rfl ?_
 cases h0 : ((fwS ⟨w, h, l⟩ k).2 == 0)
 ·have e9 : fsA (fwS ⟨w, h, l⟩) (acc ++ [k]) = fsA (fwS ⟨w, h, l⟩) acc := by rw [fsA_snoc]; simp only [fsStep, h0, cond_false]
  try simp only [↓nrmL, nrmZ, Nat.reduceEqDiff, ↓reduceIte, Nat.reduceAdd, Int.reduceBEq, Int.reduceBNe, h0]
  refine mI rfl ?_
  refine Fo.pcall (v' := ?_) hn rfl (by simp only [↓nrmL, nrmZ, Nat.reduceEqDiff, ↓reduceIte, Nat.reduceAdd, Int.reduceBEq, Int.reduceBNe, h0, List.map]; rfl) rfl ?hv fun _ _ => ?_; case hv => rfl
  refine mT rfl ?_
  refine Fo.extr rfl rfl ?_
  refine Fo.extr rfl rfl ?_
  refine mI rfl ?_
  refine mI rfl ?_
  refine WpO.nil (hKF _ _ ?_)
  refine sq ?_
  refine rg fun KF hKF => ?_
  refine mI rfl ?_
  refine Fo.bin rfl rfl rfl (by simp only [↓nrmL, nrmZ, Nat.reduceEqDiff, ↓reduceIte, Nat.reduceAdd, Int.reduceBEq, Int.reduceBNe, h0]; rfl) ?_
  refine mB rfl ?_
  refine Fo.no rfl rfl ?_
  refine Fo.no rfl rfl ?_
  refine Fo.no rfl rfl ?_
  refine fB rfl rfl ?_
  refine WpO.nil (hKF _ _ ?_)
  refine Wp.cond (b := false) rfl ?_
  refine Wp.skip ?_
  dsimp only [cond_true, cond_false]
  rename AHeap => H9
  rename ExtI _ H9 => hx9
  have hn9 := hx9.ext.n
  refine ⟨rfl, inferInstance, Nat.le_trans hJ.n hn9, fun s hs q1 q2 => ?_, by rw [e9]; infer_instance, by rw [e9]; infer_instance, inferInstance⟩
  have hsr : s ≠ r := by omega
  have hsn : s < H.n := Nat.lt_of_lt_of_le hs hJ.n
  rw [set_get_ne hsr, hx9.ext.get s hsn, set_get_ne hsr]
  exact hJ.get s hs q1 q2
 cases h9 : decide ((fwS ⟨w, h, l⟩ k).1 > (fsA (fwS ⟨w, h, l⟩) acc).2)
 ·have e9 : fsA (fwS ⟨w, h, l⟩) (acc ++ [k]) = fsA (fwS ⟨w, h, l⟩) acc := by rw [fsA_snoc]; simp only [fsStep, h0, cond_true, h9, cond_false]
  try simp only [↓nrmL, nrmZ, Nat.reduceEqDiff, ↓reduceIte, Nat.reduceAdd, Int.reduceBEq, Int.reduceBNe, h0]
  refine mI rfl ?_
  refine Fo.pcall (v' := ?_) hn rfl (by simp only [↓nrmL, nrmZ, Nat.reduceEqDiff, ↓reduceIte, Nat.reduceAdd, Int.reduceBEq, Int.reduceBNe, h0, List.map]; rfl) rfl ?hv fun _ _ => ?_; case hv => rfl
  refine mT rfl ?_
  refine Fo.extr rfl rfl ?_
  refine Fo.extr rfl rfl ?_
  refine mI rfl ?_
  refine mI rfl ?_
  refine WpO.nil (hKF _ _ ?_)
  refine sq ?_
  refine rg fun KF hKF => ?_
  refine mI rfl ?_
  refine Fo.bin rfl rfl rfl (by simp only [↓nrmL, nrmZ, Nat.reduceEqDiff, ↓reduceIte, Nat.reduceAdd, Int.reduceBEq, Int.reduceBNe, h0]; rfl) ?_
  refine mB rfl ?_
  refine Fo.yes rfl rfl ?_
  refine mI rfl ?_
  refine Fo.yes rfl rfl ?_
  refine Fo.ld (off := 0) h6 rfl ?_
  try simp only [↓nrmL, nrmZ, Nat.reduceEqDiff, ↓reduceIte, Nat.reduceAdd, Int.reduceBEq, Int.reduceBNe, h9]
  refine Fo.yes rfl rfl ?_
  refine Fo.bin rfl rfl rfl (by simp only [↓nrmL, nrmZ, Nat.reduceEqDiff, ↓reduceIte, Nat.reduceAdd, Int.reduceBEq, Int.reduceBNe, h9]; rfl) ?_
  refine tB rfl rfl ?_
  refine WpO.nil (hKF _ _ ?_)
  refine Wp.cond (b := false) rfl ?_
  refine Wp.skip ?_
  dsimp only [cond_true, cond_false]
  rename AHeap => H9
  rename ExtI _ H9 => hx9
  have hn9 := hx9.ext.n
  refine ⟨rfl, inferInstance, Nat.le_trans hJ.n hn9, fun s hs q1 q2 => ?_, by rw [e9]; infer_instance, by rw [e9]; infer_instance, inferInstance⟩
  have hsr : s ≠ r := by omega
  have hsn : s < H.n := Nat.lt_of_lt_of_le hs hJ.n
  rw [set_get_ne hsr, hx9.ext.get s hsn, set_get_ne hsr]
  exact hJ.get s hs q1 q2
 ·have e9 : fsA (fwS ⟨w, h, l⟩) (acc ++ [k]) = (k, (fwS ⟨w, h, l⟩ k).1) := by rw [fsA_snoc]; simp only [fsStep, h0, cond_true, h9]
  try simp only [↓nrmL, nrmZ, Nat.reduceEqDiff, ↓reduceIte, Nat.reduceAdd, Int.reduceBEq, Int.reduceBNe, h0]
  refine mI rfl ?_
  refine Fo.pcall (v' := ?_) hn rfl (by simp only [↓nrmL, nrmZ, Nat.reduceEqDiff, ↓reduceIte, Nat.reduceAdd, Int.reduceBEq, Int.reduceBNe, h0, List.map]; rfl) rfl ?hv fun _ _ => ?_; case hv => rfl
  refine mT rfl ?_
  refine Fo.extr rfl rfl ?_
  refine Fo.extr rfl rfl ?_
  refine mI rfl ?_
  refine mI rfl ?_
  refine WpO.nil (hKF _ _ ?_)
  refine sq ?_
  refine rg fun KF hKF => ?_
  refine mI rfl ?_
  refine Fo.bin rfl rfl rfl (by simp only [↓nrmL, nrmZ, Nat.reduceEqDiff, ↓reduceIte, Nat.reduceAdd, Int.reduceBEq, Int.reduceBNe, h0]; rfl) ?_
  refine mB rfl ?_
  refine Fo.yes rfl rfl ?_
  refine mI rfl ?_
  refine Fo.yes rfl rfl ?_
  refine Fo.ld (off := 0) h6 rfl ?_
  try simp only [↓nrmL, nrmZ, Nat.reduceEqDiff, ↓reduceIte, Nat.reduceAdd, Int.reduceBEq, Int.reduceBNe, h9]
  refine Fo.yes rfl rfl ?_
  refine Fo.bin rfl rfl rfl (by simp only [↓nrmL, nrmZ, Nat.reduceEqDiff, ↓reduceIte, Nat.reduceAdd, Int.reduceBEq, Int.reduceBNe, h9]; rfl) ?_
  refine tB rfl rfl ?_
  refine WpO.nil (hKF _ _ ?_)
  refine Wp.cond (b := true) rfl ?_
  refine rg fun KF hKF => ?_
  refine mI rfl ?_
  refine mI rfl ?_
  refine Fo.stO (v := .int .i64 k) (r := rb) (off := 0) (l := [.int .i64 k]) h5 rfl rfl rfl ?_
  refine Fo.stO (v := .int .i64 (fwS ⟨w, h, l⟩ k).1) (r := rm) (off := 0) (l := [.int .i64 (fwS ⟨w, h, l⟩ k).1]) h6 rfl rfl rfl ?_
  refine WpO.nil (hKF _ _ ?_)
  dsimp only [cond_true, cond_false]
  rename AHeap => H9
  rename ExtI _ H9 => hx9
  have hn9 := hx9.ext.n
  refine ⟨rfl, inferInstance, Nat.le_trans hJ.n hn9, fun s hs q1 q2 => ?_, by rw [e9]; infer_instance, by rw [e9]; infer_instance, inferInstance⟩
  have hsr : s ≠ r := by omega
  have hsn : s < H.n := Nat.lt_of_lt_of_le hs hJ.n
  rw [set_get_ne hsr, set_get_ne q2, set_get_ne q1, hx9.ext.get s hsn, set_get_ne hsr]
  exact hJ.get s hs q1 q2
theorem K_skews {r : Nat} {J : List Int → AHeap → Prop} {H : AHeap} {D : Nat} (hD : 1 ≤ D)
  (hy : ∀ acc H, J acc H → ∀ (k : Int) (n : Nat), fuel0 + D ≤ n → ∃ H', callN ext prog n yieldId [.yield r, .int .i64 k] H = some (.bool true, H') ∧ J (acc ++ [k]) H')
  (hJ : J [] H) : Con ext prog (D + 1) 48 [.yield r] H fun _ H' => J skAll H' := by
 refine con_of (show prog 48 = some c48 from rfl) rfl rfl fun n hn => ?_
 obtain ⟨H1, y1, j1⟩ := hy _ _ hJ 0 n (by omega)
 obtain ⟨H2, y2, j2⟩ := hy _ _ j1 1 n (by omega)
 obtain ⟨H3, y3, j3⟩ := hy _ _ j2 (-1) n (by omega)
 obtain ⟨H4, y4, j4⟩ := hy _ _ j3 2 n (by omega)
 obtain ⟨H5, y5, j5⟩ := hy _ _ j4 (-2) n (by omega)
 obtain ⟨H6, y6, j6⟩ := hy _ _ j5 3 n (by omega)
 obtain ⟨H7, y7, j7⟩ := hy _ _ j6 (-3) n (by omega)
 have u1 : IntKind.i64.wrap (0 - 1) = -1 := rfl
 have u2 : IntKind.i64.wrap (0 - 2) = -2 := rfl
 have u3 : IntKind.i64.wrap (0 - 3) = -3 := rfl
 have v1 : IntKind.i64.wrap (1 + 1) = 2 := rfl
 have v2 : IntKind.i64.wrap (2 + 1) = 3 := rfl
 have v3 : IntKind.i64.wrap (3 + 1) = 4 := rfl
 refine sq ?_
 refine sq ?_
 refine rg fun KF hKF => ?_
 refine Fo.mov (by simp only [↓nrmL, nrmK, Nat.reduceEqDiff, ↓reduceIte]; rfl) ?_
 refine WpO.do (WpX.yield rfl rfl ⟨_, _, y1, ?_⟩)
 refine Fo.now rfl rfl (by simp only [↓nrmL, nrmZ, Nat.reduceEqDiff, ↓reduceIte, Nat.reduceAdd, Int.reduceBEq, Int.reduceBNe]; rfl) ?_
 refine WpO.nil (hKF _ _ ?_)
 refine Wp.cond (b := false) rfl ?_
 refine Wp.skip ?_
 refine sq ?_
 refine rg fun KF hKF => ?_
 refine mI rfl ?_
 refine WpO.nil (hKF _ _ ?_)
 refine Wp.block ?_
 dsimp only [cond_true, cond_false]
 refine Wp.rounds ?_
 refine WpN.round (by unfold fuel0 at hn; omega) ?_
 refine sq ?_
 refine sq ?_
 refine rg fun KF hKF => ?_
 refine mI rfl ?_
 refine Fo.bin rfl rfl rfl rfl ?_
 refine WpO.nil (hKF _ _ ?_)
 refine Wp.cond (b := true) rfl ?_
 refine Wp.skip ?_
 refine sq ?_
 refine Wp.block ?_
 refine sq ?_
 refine rg fun KF hKF => ?_
 refine Fo.mov (by simp only [↓nrmL, nrmK, Nat.reduceEqDiff, ↓reduceIte]; rfl) ?_
 refine mI rfl ?_
 refine WpO.do (WpX.yield rfl rfl ⟨_, _, y2, ?_⟩)
 try simp only [↓nrmL, nrmZ, Nat.reduceEqDiff, ↓reduceIte, Nat.reduceAdd, Int.reduceBEq, Int.reduceBNe, u1]
 refine Fo.now rfl rfl (by simp only [↓nrmL, nrmZ, Nat.reduceEqDiff, ↓reduceIte, Nat.reduceAdd, Int.reduceBEq, Int.reduceBNe, u1]; rfl) ?_
 refine mB rfl ?_
 refine Fo.yes rfl rfl ?_
 refine Fo.mov (by simp only [↓nrmL, nrmK, Nat.reduceEqDiff, ↓reduceIte]; rfl) ?_
 refine Fo.yes rfl rfl ?_
 refine mI rfl ?_
 refine Fo.yes rfl rfl ?_
 refine Fo.now rfl rfl (by simp only [↓nrmL, nrmZ, Nat.reduceEqDiff, ↓reduceIte, Nat.reduceAdd, Int.reduceBEq, Int.reduceBNe, u1]; rfl) ?_
 refine Fo.yes rfl rfl ?_
 refine WpO.do (WpX.yield rfl rfl ⟨_, _, y3, ?_⟩)
 try simp only [↓nrmL, nrmZ, Nat.reduceEqDiff, ↓reduceIte, Nat.reduceAdd, Int.reduceBEq, Int.reduceBNe, v1]
 refine Fo.yes rfl rfl ?_
 refine Fo.now rfl rfl (by simp only [↓nrmL, nrmZ, Nat.reduceEqDiff, ↓reduceIte, Nat.reduceAdd, Int.reduceBEq, Int.reduceBNe, v1]; rfl) ?_
 refine fB rfl rfl ?_
 refine WpO.nil (hKF _ _ ?_)
 refine Wp.cond (b := false) rfl ?_
 refine Wp.skip ?_
 refine rg fun KF hKF => ?_
 refine mI rfl ?_
 refine Fo.bin rfl rfl rfl (by simp only [↓nrmL, nrmZ, Nat.reduceEqDiff, ↓reduceIte, Nat.reduceAdd, Int.reduceBEq, Int.reduceBNe, v1]; rfl) ?_
 refine mI rfl ?_
 refine WpO.nil (hKF _ _ ?_)
 dsimp only [cond_true, cond_false]
 refine WpN.round (by unfold fuel0 at hn; omega) ?_
 refine sq ?_
 refine sq ?_
 refine rg fun KF hKF => ?_
 refine mI rfl ?_
 refine Fo.bin rfl rfl rfl rfl ?_
 refine WpO.nil (hKF _ _ ?_)
 refine Wp.cond (b := true) rfl ?_
 refine Wp.skip ?_
 refine sq ?_
 refine Wp.block ?_
 refine sq ?_
 refine rg fun KF hKF => ?_
 refine Fo.mov (by simp only [↓nrmL, nrmK, Nat.reduceEqDiff, ↓reduceIte]; rfl) ?_
 refine mI rfl ?_
 refine WpO.do (WpX.yield rfl rfl ⟨_, _, y4, ?_⟩)
 try simp only [↓nrmL, nrmZ, Nat.reduceEqDiff, ↓reduceIte, Nat.reduceAdd, Int.reduceBEq, Int.reduceBNe, u2]
 refine Fo.now rfl rfl (by simp only [↓nrmL, nrmZ, Nat.reduceEqDiff, ↓reduceIte, Nat.reduceAdd, Int.reduceBEq, Int.reduceBNe, u2]; rfl) ?_
 refine mB rfl ?_
 refine Fo.yes rfl rfl ?_
 refine Fo.mov (by simp only [↓nrmL, nrmK, Nat.reduceEqDiff, ↓reduceIte]; rfl) ?_
 refine Fo.yes rfl rfl ?_
 refine mI rfl ?_
 refine Fo.yes rfl rfl ?_
 refine Fo.now rfl rfl (by simp only [↓nrmL, nrmZ, Nat.reduceEqDiff, ↓reduceIte, Nat.reduceAdd, Int.reduceBEq, Int.reduceBNe, u2]; rfl) ?_
 refine Fo.yes rfl rfl ?_
 refine WpO.do (WpX.yield rfl rfl ⟨_, _, y5, ?_⟩)
 try simp only [↓nrmL, nrmZ, Nat.reduceEqDiff, ↓reduceIte, Nat.reduceAdd, Int.reduceBEq, Int.reduceBNe, v2]
 refine Fo.yes rfl rfl ?_
 refine Fo.now rfl rfl (by simp only [↓nrmL, nrmZ, Nat.reduceEqDiff, ↓reduceIte, Nat.reduceAdd, Int.reduceBEq, Int.reduceBNe, v2]; rfl) ?_
 refine fB rfl rfl ?_
 refine WpO.nil (hKF _ _ ?_)
 refine Wp.cond (b := false) rfl ?_
 refine Wp.skip ?_
 refine rg fun KF hKF => ?_
 refine mI rfl ?_
 refine Fo.bin rfl rfl rfl (by simp only [↓nrmL, nrmZ, Nat.reduceEqDiff, ↓reduceIte, Nat.reduceAdd, Int.reduceBEq, Int.reduceBNe, v2]; rfl) ?_
 refine mI rfl ?_
 refine WpO.nil (hKF _ _ ?_)
 dsimp only [cond_true, cond_false]
 refine WpN.round (by unfold fuel0 at hn; omega) ?_
 refine sq ?_
 refine sq ?_
 refine rg fun KF hKF => ?_
 refine mI rfl ?_
 refine Fo.bin rfl rfl rfl rfl ?_
 refine WpO.nil (hKF _ _ ?_)
 refine Wp.cond (b := true) rfl ?_
 refine Wp.skip ?_
 refine sq ?_
 refine Wp.block ?_
 refine sq ?_
 refine rg fun KF hKF => ?_
 refine Fo.mov (by simp only [↓nrmL, nrmK, Nat.reduceEqDiff, ↓reduceIte]; rfl) ?_
 refine mI rfl ?_
 refine WpO.do (WpX.yield rfl rfl ⟨_, _, y6, ?_⟩)
 try simp only [↓nrmL, nrmZ, Nat.reduceEqDiff, ↓reduceIte, Nat.reduceAdd, Int.reduceBEq, Int.reduceBNe, u3]
 refine Fo.now rfl rfl (by simp only [↓nrmL, nrmZ, Nat.reduceEqDiff, ↓reduceIte, Nat.reduceAdd, Int.reduceBEq, Int.reduceBNe, u3]; rfl) ?_
 refine mB rfl ?_
 refine Fo.yes rfl rfl ?_
 refine Fo.mov (by simp only [↓nrmL, nrmK, Nat.reduceEqDiff, ↓reduceIte]; rfl) ?_
 refine Fo.yes rfl rfl ?_
 refine mI rfl ?_
 refine Fo.yes rfl rfl ?_
 refine Fo.now rfl rfl (by simp only [↓nrmL, nrmZ, Nat.reduceEqDiff, ↓reduceIte, Nat.reduceAdd, Int.reduceBEq, Int.reduceBNe, u3]; rfl) ?_
 refine Fo.yes rfl rfl ?_
 refine WpO.do (WpX.yield rfl rfl ⟨_, _, y7, ?_⟩)
 try simp only [↓nrmL, nrmZ, Nat.reduceEqDiff, ↓reduceIte, Nat.reduceAdd, Int.reduceBEq, Int.reduceBNe, v3]
 refine Fo.yes rfl rfl ?_
 refine Fo.now rfl rfl (by simp only [↓nrmL, nrmZ, Nat.reduceEqDiff, ↓reduceIte, Nat.reduceAdd, Int.reduceBEq, Int.reduceBNe, v3]; rfl) ?_
 refine fB rfl rfl ?_
 refine WpO.nil (hKF _ _ ?_)
 refine Wp.cond (b := false) rfl ?_
 refine Wp.skip ?_
 refine rg fun KF hKF => ?_
 refine mI rfl ?_
 refine Fo.bin rfl rfl rfl (by simp only [↓nrmL, nrmZ, Nat.reduceEqDiff, ↓reduceIte, Nat.reduceAdd, Int.reduceBEq, Int.reduceBNe, v3]; rfl) ?_
 refine mI rfl ?_
 refine WpO.nil (hKF _ _ ?_)
 dsimp only [cond_true, cond_false]
 refine WpN.round (by unfold fuel0 at hn; omega) ?_
 refine sq ?_
 refine sq ?_
 refine rg fun KF hKF => ?_
 refine mI rfl ?_
 refine Fo.bin rfl rfl rfl rfl ?_
 refine WpO.nil (hKF _ _ ?_)
 refine Wp.cond (b := false) rfl ?_
 refine Wp.exit ?_
 dsimp only [cond_true, cond_false]
 refine ⟨trivial, _, (by first | rfl | exact getAllC rfl rfl rfl rfl | exact getAllT rfl (getAllC rfl rfl rfl rfl) | exact getAllC rfl rfl rfl (getAllC rfl rfl rfl rfl) | exact getAllC1 rfl rfl rfl), ?_⟩
 exact j7
end Go.Am

set_option maxHeartbeats 4000000
set_option maxRecDepth 100000
set_option synthInstance.maxHeartbeats 2000000
set_option synthInstance.maxSize 1000000000
namespace Go.Am
open Go
attribute [local irreducible] Wp WpO WpX WpE
theorem JF.start {f : Int → Int × Int} {Hb : AHeap} {rb rm : Nat} {R0 : RLoop} (k1 : HasRow Hb rb [.int .i64 0] true (2 * 3)) (k2 : HasRow Hb rm [.int .i64 (-1)] true (2 * 3)) : JF f Hb rb rm (Hb.n + 1) R0 [] ((Hb.push .dead).push (.loop R0)) :=
 ⟨by simp only [AHeap.push]; omega, fun s hs _ _ => by rw [push_get_lt (by simp only [AHeap.push]; omega), push_get_lt hs],
  (inferInstance : HasRow ((Hb.push .dead).push (.loop R0)) rb [.int .i64 0] true (2 * 3)), (inferInstance : HasRow ((Hb.push .dead).push (.loop R0)) rm [.int .i64 (-1)] true (2 * 3)),
  (inferInstance : HasLoop ((Hb.push .dead).push (.loop R0)) (Hb.push .dead).n R0)⟩
theorem find_run {w h : Int} {l : List UInt8} {p : AVal} {Hb : AHeap} {r1 rb rm n : Nat} {fr : AFrame} (h1 : fr 1 = .ptr r1 0) (h5 : fr 5 = .ptr rb 0) (h6 : fr 6 = .ptr rm 0) [k1 : HasRow Hb r1 [.int .i64 w, .int .i64 h, p] true (2 * 25)] [kp : BytesI Hb p l] (k2 : HasRow Hb rb [.int .i64 0] true (2 * 3)) (k3 : HasRow Hb rm [.int .i64 (-1)] true (2 * 3)) (n1 : r1 ≠ rb) (n2 : r1 ≠ rm) (n3 : rb ≠ rm) (p1 : RowNe p rb) (p2 : RowNe p rm) (hn : fuel0 + 9 ≤ n) {P : AVal → AHeap → RLoop → Prop} (hP : ∀ v H3, JF (fwS ⟨w, h, l⟩) Hb rb rm (Hb.n + 1) (fsnL Hb.n fr) skAll H3 → P v H3 (fsnL Hb.n fr)) :
  ∃ v H3 R, callN ext prog n 48 ([] ++ [.yield (Hb.n + 1)] ++ []) ((Hb.push .dead).push (.loop ⟨Hb.n, 32, fr, [15], fsnA, fsnB, 0, .normal⟩)) = some (v, H3) ∧ H3.get (Hb.n + 1) = .loop R ∧ (Nat.beq R.st 1 || Nat.beq R.st 4) = false ∧ P v H3 R := by
 obtain ⟨v, H3, e3, hJ⟩ := K_skews (r := Hb.n + 1) (J := JF (fwS ⟨w, h, l⟩) Hb rb rm (Hb.n + 1) (fsnL Hb.n fr)) (D := 8) (by decide)
  (fun acc H4 hJ k m hm => round_skew h1 h5 h6 k1 kp n1 n2 n3 p1 p2 k2.lt k3.lt (Nat.le_succ _) hJ hm)
  (JF.start k2 k3) n (by omega)
 exact ⟨v, H3, _, e3, hJ.loop.get, rfl, hP v H3 hJ⟩
instance K_FindSkew {w h : Int} {p : AVal} {H : AHeap} {l : List UInt8} [hp : BytesI H p l] : PureCon ext prog 24 [.agg [.int .i64 w, .int .i64 h, p]] H 11 (.tuple [.int .i64 (findS ⟨w, h, l⟩).1, .int .i64 (findS ⟨w, h, l⟩).2]) := ⟨by
 refine con_ofR (show prog 24 = some c24 from rfl) rfl rfl fun n hn => ?_
 haveI := hp.one
 cases h0 : (Img.err ⟨w, h, l⟩ == 0)
 ·have e1 : findS ⟨w, h, l⟩ = (0, Img.err ⟨w, h, l⟩) := by simp only [findS, h0, cond_false]
  rw [e1]
  try simp only [↓nrmL, nrmZ, Nat.reduceEqDiff, ↓reduceIte, Nat.reduceAdd, Int.reduceBEq, Int.reduceBNe, h0, bne]
  refine sq ?_
  refine rg fun KF hKF => ?_
  refine Fo.boxA rfl ?_
  refine mI rfl ?_
  refine mI rfl ?_
  refine WpO.nil (hKF _ _ ?_)
  refine sq ?_
  refine sq ?_
  refine rg fun KF hKF => ?_
  refine Fo.ldN rfl rfl (by simp only [↓nrmL, nrmZ, Nat.reduceEqDiff, ↓reduceIte, Nat.reduceAdd, Int.reduceBEq, Int.reduceBNe, h0, bne]; rfl) ?_
  refine Fo.pcall (v' := ?_) hn rfl (by simp only [↓nrmL, nrmZ, Nat.reduceEqDiff, ↓reduceIte, Nat.reduceAdd, Int.reduceBEq, Int.reduceBNe, h0, bne, List.map]; rfl) rfl ?hv fun _ _ => ?_; case hv => rfl
  refine mI rfl ?_
  refine WpO.nil (hKF _ _ ?_)
  refine sq ?_
  refine rg fun KF hKF => ?_
  refine mI rfl ?_
  refine Fo.bin rfl rfl rfl (by simp only [↓nrmL, nrmZ, Nat.reduceEqDiff, ↓reduceIte, Nat.reduceAdd, Int.reduceBEq, Int.reduceBNe, h0, bne]; rfl) ?_
  refine WpO.nil (hKF _ _ ?_)
  refine Wp.cond (b := true) rfl ?_
  refine sq ?_
  refine rg fun KF hKF => ?_
  refine mI rfl ?_
  refine mI rfl ?_
  refine mI rfl ?_
  refine WpO.nil (hKF _ _ ?_)
  refine Wp.ret ?_
  dsimp only [cond_true, cond_false]
  exact ⟨trivial, _, rfl, _, rfl, rfl, Ext0.ext⟩
 have e1 : findS ⟨w, h, l⟩ = ((fsA (fwS ⟨w, h, l⟩) skAll).1, 0) := by simp only [findS, h0, cond_true]
 rw [e1]
 try simp only [↓nrmL, nrmZ, Nat.reduceEqDiff, ↓reduceIte, Nat.reduceAdd, Int.reduceBEq, Int.reduceBNe, h0, bne]
 refine sq ?_
 refine rg fun KF hKF => ?_
 refine Fo.boxA rfl ?_
 refine mI rfl ?_
 refine mI rfl ?_
 refine WpO.nil (hKF _ _ ?_)
 refine sq ?_
 refine sq ?_
 refine rg fun KF hKF => ?_
 refine Fo.ldN rfl rfl (by simp only [↓nrmL, nrmZ, Nat.reduceEqDiff, ↓reduceIte, Nat.reduceAdd, Int.reduceBEq, Int.reduceBNe, h0, bne]; rfl) ?_
 refine Fo.pcall (v' := ?_) hn rfl (by simp only [↓nrmL, nrmZ, Nat.reduceEqDiff, ↓reduceIte, Nat.reduceAdd, Int.reduceBEq, Int.reduceBNe, h0, bne, List.map]; rfl) rfl ?hv fun _ _ => ?_; case hv => rfl
 refine mI rfl ?_
 refine WpO.nil (hKF _ _ ?_)
 refine sq ?_
 refine rg fun KF hKF => ?_
 refine mI rfl ?_
 refine Fo.bin rfl rfl rfl (by simp only [↓nrmL, nrmZ, Nat.reduceEqDiff, ↓reduceIte, Nat.reduceAdd, Int.reduceBEq, Int.reduceBNe, h0, bne]; rfl) ?_
 refine WpO.nil (hKF _ _ ?_)
 refine Wp.cond (b := false) rfl ?_
 refine Wp.skip ?_
 refine sq ?_
 refine rg fun KF hKF => ?_
 refine Fo.new ?_
 refine Fo.new ?_
 refine Fo.st rfl (rfl : _ = AVal.int _ _) rfl rfl rfl (by repeat (first | rfl | refine allOne_cons ?_)) (by simp only [↓nrmL, nrmZ, Nat.reduceEqDiff, ↓reduceIte, Nat.reduceAdd, Int.reduceBEq, Int.reduceBNe, h0, bne]; rfl) ?_
 refine Fo.st rfl (rfl : _ = AVal.int _ _) rfl rfl rfl (by repeat (first | rfl | refine allOne_cons ?_)) (by simp only [↓nrmL, nrmZ, Nat.reduceEqDiff, ↓reduceIte, Nat.reduceAdd, Int.reduceBEq, Int.reduceBNe, h0, bne]; rfl) ?_
 refine WpO.nil (hKF _ _ ?_)
 refine sq ?_
 refine Wp.block ?_
 dsimp only [cond_true, cond_false]
 rename AHeap => H1
 refine Wp.range (gf := 48) (fi := []) (ca := []) (vs := []) rfl rfl rfl ?_
 rename ExtI _ H1 => hx1
 have hH1 : H.n < H1.n := hx1.ext.n
 obtain ⟨Hb, hHb⟩ : ∃ Hb, (((H1.push (.row [.int .i64 0] true (2 * 3))).push (.row [.int .i64 0] true (2 * 3))).set H1.n (.row [.int .i64 0] true (2 * 3))).set (H1.push (.row [.int .i64 0] true (2 * 3))).n (.row [.int .i64 (-1)] true (2 * 3)) = Hb := ⟨_, rfl⟩
 have c1 : HasRow Hb H.n [.int .i64 w, .int .i64 h, p] true (2 * 25) := by rw [← hHb]; infer_instance
 have c2 : BytesI Hb p l := by rw [← hHb]; infer_instance
 have c3 : HasRow Hb H1.n [.int .i64 0] true (2 * 3) := by rw [← hHb]; infer_instance
 have c4 : HasRow Hb (H1.n + 1) [.int .i64 (-1)] true (2 * 3) := by rw [← hHb]; exact (inferInstance : HasRow (((((H1.push (.row [.int .i64 0] true (2 * 3))).push (.row [.int .i64 0] true (2 * 3))).set H1.n (.row [.int .i64 0] true (2 * 3))).set (H1.push (.row [.int .i64 0] true (2 * 3))).n (.row [.int .i64 (-1)] true (2 * 3)))) (H1.push (.row [.int .i64 0] true (2 * 3))).n [.int .i64 (-1)] true (2 * 3))
 have c5 : Ext H Hb := by rw [← hHb]; exact Ext0.ext
 have c6 : RowNe p H1.n := inferInstance
 have c7 : RowNe p (H1.n + 1) := ⟨fun r off len cap sz q => by have := hp.lt q; omega⟩
 have c8 : Hb.n = H1.n + 2 := by rw [← hHb]; rfl
 rw [hHb]
 refine find_run (w := w) (h := h) (l := l) (r1 := H.n) (rb := H1.n) (rm := H1.n + 1) rfl rfl rfl c3 c4 (by omega) (by omega) (by omega) c6 c7 (by omega) fun v H3 hJ => ?_
 haveI := hJ.loop
 haveI := hJ.best
 haveI : NeR H1.n (Hb.n + 1) := ⟨by omega⟩
 have hHn := c5.n
 have h3n := hJ.n
 refine sq ?_
 refine rg fun KF hKF => ?_
 refine Fo.ld rfl rfl ?_
 refine mI rfl ?_
 refine mI rfl ?_
 refine WpO.nil (hKF _ _ ?_)
 refine Wp.ret ?_
 dsimp only [cond_true, cond_false]
 refine ⟨trivial, _, takeMarks1 (d := Hb.n) (l := Hb.n + 1) inferInstance rfl rfl, _, rfl, rfl, ?_⟩
 refine ⟨Nat.le_trans hHn h3n, fun s hs => ?_⟩
 rw [set_get_ne (by omega), set_get_ne (by omega), hJ.get s (by omega) (by omega) (by omega)]
 exact c5.get s hs⟩
end Go.Am

set_option maxHeartbeats 4000000
set_option maxRecDepth 100000
set_option synthInstance.maxHeartbeats 2000000
set_option synthInstance.maxSize 1000000000
namespace Go.Am
open Go
attribute [local irreducible] Wp WpO WpX WpE
theorem full_ok {a b : Nat} {l : List UInt8} (ok : Ok a b l) : fullS ⟨a, b, l⟩ = ((fullN l a b : Int), 0) := by
 simp only [fullS, ok.err, beq_self_eq_true, cond_true, Int.toNat_natCast]
theorem un_no {a b : Nat} {k : Int} {l : List UInt8} (ok : Ok a b l) (hk : skB k = true) (h : ¬ grN a k a ≤ b) : unskewS ⟨a, b, l⟩ k = (.zero, 2) ∧ fwS ⟨a, b, l⟩ k = (0, 2) := by
 have e : unskewS ⟨a, b, l⟩ k = (.zero, 2) := by
  simp only [unskewS, ckS_ok ok hk, beq_self_eq_true, cond_true, Int.toNat_natCast]
  rw [decide_eq_false (by omega)]; rfl
 exact ⟨e, by unfold fwS; rw [e]; rfl⟩
theorem un_ok {a b c : Nat} {k : Int} {l : List UInt8} (ok : Ok a b l) (hk : skB k = true) (h : b = c + grN a k a) : unskewS ⟨a, b, l⟩ k = (⟨a, c, unskewL l a c k⟩, 0) ∧ Ok a c (unskewL l a c k) ∧ fwS ⟨a, b, l⟩ k = ((fullN (unskewL l a c k) a c : Int), 0) := by
 have e : unskewS ⟨a, b, l⟩ k = (⟨a, c, unskewL l a c k⟩, 0) := by
  simp only [unskewS, ckS_ok ok hk, beq_self_eq_true, cond_true, Int.toNat_natCast]
  rw [decide_eq_true (by omega), cond_true, show (b : Int) - (grN a k a : Int) = (c : Int) by omega, show b - grN a k a = c by omega]
 have o := unskewL_ok (k := k) ok h
 exact ⟨e, o, by unfold fwS; rw [e]; exact full_ok o⟩
theorem skAll_in : ∀ i, i < 7 → skB (skAll.getD i 0) = true := by decide
end Go.Am

/- The threshold between two levels: forwards, and by pairs. -/
set_option maxHeartbeats 4000000
namespace Go.Am
open Go

/-- The threshold so far, the widest gap, and the level before. -/
def lvU (s : Int × Int) (a b : Int) : Int × Int := bif decide (b - a > s.2) then ((a + b + 1).tdiv 2, b - a) else s
def lvP (c : Nat → Int) : Nat → (Int × Int) × Int
  | 0 => ((128, 0), -1)
  | i + 1 => bif c i == 0 then lvP c i else ((bif decide ((lvP c i).2 ≥ 0) then lvU (lvP c i).1 (lvP c i).2 i else (lvP c i).1), (i : Int))
theorem lvP_bd (c : Nat → Int) : ∀ i, -1 ≤ (lvP c i).2 ∧ (lvP c i).2 < i ∨ ((lvP c i).2 = -1)
  | 0 => Or.inr rfl
  | i + 1 => by
    have := lvP_bd c i
    simp only [lvP]
    cases (c i == 0)
    · left; simp only [cond_false]; omega
    · simp only [cond_true]; omega
def levelS (g : Img) : Int × Int := bif g.sized then ((lvP (fun i => (lv g.px).getD i 0) 256).1.1, 0) else (0, 2)
end Go.Am

set_option maxHeartbeats 4000000
set_option maxRecDepth 100000
set_option synthInstance.maxHeartbeats 2000000
set_option synthInstance.maxSize 1000000000
namespace Go.Am
open Go
attribute [local irreducible] Wp WpO WpX WpE
theorem lv_get {l : List UInt8} {i : Nat} (h : i < (lv l).length) : (lv l)[i] = (lv l).getD i 0 := by
 rw [List.getD_eq_getElem?_getD, List.getElem?_eq_getElem h, Option.getD_some]
instance K_Level {w h : Int} {p : AVal} {H : AHeap} {l : List UInt8} [hp : BytesI H p l] : PureCon ext prog 10 [.agg [.int .i64 w, .int .i64 h, p]] H 5 (.tuple [.int .i64 (levelS ⟨w, h, l⟩).1, .int .i64 (levelS ⟨w, h, l⟩).2]) := ⟨by
 refine con_of (show prog 10 = some c10 from rfl) rfl rfl fun n hn => ?_
 haveI := hp.one
 cases hs : Img.sized ⟨w, h, l⟩
 ·have e1 : levelS ⟨w, h, l⟩ = (0, 2) := by simp only [levelS, hs, cond_false]
  have e2 : lvSpec ⟨w, h, l⟩ = ([], 2) := by simp [lvSpec, hs]
  rw [e1]
  refine sq ?_
  refine rg fun KF hKF => ?_
  refine Fo.boxA rfl ?_
  refine mI rfl ?_
  refine mI rfl ?_
  refine WpO.nil (hKF _ _ ?_)
  refine sq ?_
  refine rg fun KF hKF => ?_
  refine Fo.ldN rfl rfl (by simp only [↓nrmL, nrmZ, Nat.reduceEqDiff, ↓reduceIte, Nat.reduceAdd, Int.reduceBEq, Int.reduceBNe]; rfl) ?_
  refine WpO.do (WpX.conD hn rfl rfl (by simp only [↓nrmL, nrmZ, Nat.reduceEqDiff, ↓reduceIte, Nat.reduceAdd, Int.reduceBEq, Int.reduceBNe, List.map] <;> rfl) (K_Levels (w := w) (h := h) (l := l)) fun v H1 h5 => ?_)
  rw [e2] at h5
  obtain ⟨q, rfl, hq, hf, hw, hx⟩ := h5
  haveI : ExtI _ H1 := ⟨hx⟩
  haveI := hq.one
  refine mT rfl ?_
  refine Fo.extr rfl rfl ?_
  refine Fo.extr rfl rfl ?_
  refine Fo.mov (by simp only [↓nrmL, nrmK, Nat.reduceEqDiff, ↓reduceIte]; rfl) ?_
  refine mI rfl ?_
  refine WpO.nil (hKF _ _ ?_)
  refine sq ?_
  refine sq ?_
  refine rg fun KF hKF => ?_
  refine mI rfl ?_
  refine Fo.bin rfl rfl rfl (by simp only [↓nrmL, nrmZ, Nat.reduceEqDiff, ↓reduceIte, Nat.reduceAdd, Int.reduceBEq, Int.reduceBNe]; rfl) ?_
  refine WpO.nil (hKF _ _ ?_)
  refine Wp.cond (b := true) rfl ?_
  refine sq ?_
  refine rg fun KF hKF => ?_
  refine mI rfl ?_
  refine mI rfl ?_
  refine mI rfl ?_
  refine WpO.nil (hKF _ _ ?_)
  refine Wp.ret ?_
  dsimp only [cond_true, cond_false]
  refine ⟨trivial, _, (by first | rfl | exact getAllC rfl rfl rfl rfl | exact getAllT rfl (getAllC rfl rfl rfl rfl) | exact getAllC rfl rfl rfl (getAllC rfl rfl rfl rfl) | exact getAllC1 rfl rfl rfl), ?_⟩
  exact ⟨rfl, Ext0.ext⟩
 have e1 : levelS ⟨w, h, l⟩ = ((lvP (fun i => (lv l).getD i 0) 256).1.1, 0) := by simp only [levelS, hs, cond_true]
 have e2 : lvSpec ⟨w, h, l⟩ = (lv l, 0) := by simp [lvSpec, hs]
 rw [e1]
 refine sq ?_
 refine rg fun KF hKF => ?_
 refine Fo.boxA rfl ?_
 refine mI rfl ?_
 refine mI rfl ?_
 refine WpO.nil (hKF _ _ ?_)
 refine sq ?_
 refine rg fun KF hKF => ?_
 refine Fo.ldN rfl rfl (by simp only [↓nrmL, nrmZ, Nat.reduceEqDiff, ↓reduceIte, Nat.reduceAdd, Int.reduceBEq, Int.reduceBNe]; rfl) ?_
 refine WpO.do (WpX.conD hn rfl rfl (by simp only [↓nrmL, nrmZ, Nat.reduceEqDiff, ↓reduceIte, Nat.reduceAdd, Int.reduceBEq, Int.reduceBNe, List.map] <;> rfl) (K_Levels (w := w) (h := h) (l := l)) fun v H1 h5 => ?_)
 rw [e2] at h5
 obtain ⟨q, rfl, hq, hf, hw, hx⟩ := h5
 haveI : ExtI _ H1 := ⟨hx⟩
 have hq : IntsI H1 q (lv l) := hq
 haveI := hq.one
 have hll := lv_length l
 refine mT rfl ?_
 refine Fo.extr rfl rfl ?_
 refine Fo.extr rfl rfl ?_
 refine Fo.mov (by simp only [↓nrmL, nrmK, Nat.reduceEqDiff, ↓reduceIte]; rfl) ?_
 refine mI rfl ?_
 refine WpO.nil (hKF _ _ ?_)
 refine sq ?_
 refine sq ?_
 refine rg fun KF hKF => ?_
 refine mI rfl ?_
 refine Fo.bin rfl rfl rfl (by simp only [↓nrmL, nrmZ, Nat.reduceEqDiff, ↓reduceIte, Nat.reduceAdd, Int.reduceBEq, Int.reduceBNe]; rfl) ?_
 refine WpO.nil (hKF _ _ ?_)
 refine Wp.cond (b := false) rfl ?_
 refine Wp.skip ?_
 refine sq ?_
 refine rg fun KF hKF => ?_
 refine mI rfl ?_
 refine mI rfl ?_
 refine mI rfl ?_
 refine WpO.nil (hKF _ _ ?_)
 refine sq ?_
 refine sq ?_
 refine rg fun KF hKF => ?_
 refine Fo.mov (by simp only [↓nrmL, nrmK, Nat.reduceEqDiff, ↓reduceIte]; rfl) ?_
 refine Fo.len (v := ?_) (by simp only [↓nrmL, nrmK, Nat.reduceEqDiff, ↓reduceIte]; rfl) ?hv ?_; case hv => rfl
 refine mI rfl ?_
 refine WpO.nil (hKF _ _ ?_)
 refine Wp.block ?_
 dsimp only [cond_true, cond_false]
 refine Wp.loopS [6, 7, 8, 9, 10, 11, 22, 23, 24, 25, 26, 27, 28, 29, 30, 31, 32, 33, 34, 35, 36, 37, 38, 39, 40, 41, 42, 43, 44, 45, 46, 47, 48] (fun i : Nat => [(22, .int .i64 i), (6, .int .i64 (lvP (fun i => (lv l).getD i 0) i).1.1), (7, .int .i64 (lvP (fun i => (lv l).getD i 0) i).1.2), (8, .int .i64 (lvP (fun i => (lv l).getD i 0) i).2)]) (fun H3 i H2 => i ≤ 256 ∧ H2 = H3) (fun i => 256 - i) 0 rfl (fun _ => rfl) ⟨rfl, rfl, rfl, rfl, trivial⟩ ⟨Nat.zero_le _, rfl⟩ (by unfold fuel0 at hn; omega) ?_
 rintro i g H2 ⟨hi, rfl⟩
 simp only [↓nrmL, nrmZ, Nat.reduceEqDiff, ↓reduceIte, Nat.reduceAdd, Int.reduceBEq, Int.reduceBNe]
 cases hc : decide ((i : Int) < (((lv l).length : Nat) : Int))
 ·have hil : i = 256 := by have := of_decide_eq_false hc; omega
  subst hil
  try simp only [↓nrmL, nrmZ, Nat.reduceEqDiff, ↓reduceIte, Nat.reduceAdd, Int.reduceBEq, Int.reduceBNe, hc]
  refine sq ?_
  refine rg fun KF hKF => ?_
  refine Fo.bin rfl rfl rfl (by simp only [↓nrmL, nrmZ, Nat.reduceEqDiff, ↓reduceIte, Nat.reduceAdd, Int.reduceBEq, Int.reduceBNe, hc]; rfl) ?_
  refine WpO.nil (hKF _ _ ?_)
  refine sq ?_
  refine Wp.cond (b := false) rfl ?_
  refine Wp.exit ?_
  refine sq ?_
  refine rg fun KF hKF => ?_
  refine mI rfl ?_
  refine mI rfl ?_
  refine mI rfl ?_
  refine WpO.nil (hKF _ _ ?_)
  refine Wp.ret ?_
  dsimp only [cond_true, cond_false]
  refine ⟨trivial, _, (by first | rfl | exact getAllC rfl rfl rfl rfl | exact getAllT rfl (getAllC rfl rfl rfl rfl) | exact getAllC rfl rfl rfl (getAllC rfl rfl rfl rfl) | exact getAllC1 rfl rfl rfl), ?_⟩
  exact ⟨rfl, Ext0.ext⟩
 have hil : i < 256 := by have := of_decide_eq_true hc; omega
 have hilt : i < (lv l).length := by omega
 have hw1 := wa1 (a := i) (by omega)
 have hge := lv_get hilt
 obtain ⟨P, hP⟩ : ∃ P, lvP (fun i => (lv l).getD i 0) i = P := ⟨_, rfl⟩
 have hbd := lvP_bd (fun i => (lv l).getD i 0) i
 have hnx : lvP (fun i => (lv l).getD i 0) (i + 1) = bif (lv l).getD i 0 == 0 then P else ((bif decide (P.2 ≥ 0) then lvU P.1 P.2 i else P.1), (i : Int)) := by rw [← hP]; rfl
 rw [hP] at hbd
 simp only [hP]
 cases h0 : ((lv l).getD i 0 == 0)
 ·rw [h0, cond_false] at hnx
  cases g1 : decide (P.2 ≥ 0)
  ·rw [g1, cond_false] at hnx
   try simp only [↓nrmL, nrmZ, Nat.reduceEqDiff, ↓reduceIte, Nat.reduceAdd, Int.reduceBEq, Int.reduceBNe, hc, hge, h0, g1]
   refine sq ?_
   refine rg fun KF hKF => ?_
   refine Fo.bin rfl rfl rfl (by simp only [↓nrmL, nrmZ, Nat.reduceEqDiff, ↓reduceIte, Nat.reduceAdd, Int.reduceBEq, Int.reduceBNe, hc, hge, h0, g1]; rfl) ?_
   refine WpO.nil (hKF _ _ ?_)
   refine sq ?_
   refine Wp.cond (b := true) rfl ?_
   refine Wp.skip ?_
   refine sq ?_
   refine Wp.block ?_
   refine sq ?_
   refine rg fun KF hKF => ?_
   refine mI rfl ?_
   refine Fo.idx (by simp only [↓nrmL, nrmK, Nat.reduceEqDiff, ↓reduceIte]; rfl) rfl ?_ (by simp only [↓nrmL, nrmZ, Nat.reduceEqDiff, ↓reduceIte, Nat.reduceAdd, Int.reduceBEq, Int.reduceBNe, hc, hge, h0, g1]; rfl) ?_; (focus omega)
   refine Fo.ldI rfl ?_ (by simp only [↓nrmL, nrmZ, Nat.reduceEqDiff, ↓reduceIte, Nat.reduceAdd, Int.reduceBEq, Int.reduceBNe, hc, hge, h0, g1]; rfl) ?_; (focus omega)
   refine mI rfl ?_
   refine mI rfl ?_
   refine WpO.nil (hKF _ _ ?_)
   refine sq ?_
   refine sq ?_
   refine rg fun KF hKF => ?_
   refine mI rfl ?_
   refine Fo.bin rfl rfl rfl (by simp only [↓nrmL, nrmZ, Nat.reduceEqDiff, ↓reduceIte, Nat.reduceAdd, Int.reduceBEq, Int.reduceBNe, hc, hge, h0, g1]; rfl) ?_
   refine WpO.nil (hKF _ _ ?_)
   refine Wp.cond (b := false) rfl ?_
   refine Wp.skip ?_
   refine sq ?_
   refine sq ?_
   refine rg fun KF hKF => ?_
   refine mI rfl ?_
   refine mI rfl ?_
   refine WpO.nil (hKF _ _ ?_)
   refine sq ?_
   refine rg fun KF hKF => ?_
   refine mI rfl ?_
   refine Fo.bin rfl rfl rfl (by simp only [↓nrmL, nrmZ, Nat.reduceEqDiff, ↓reduceIte, Nat.reduceAdd, Int.reduceBEq, Int.reduceBNe, hc, hge, h0, g1]; rfl) ?_
   refine mB rfl ?_
   refine Fo.no rfl rfl ?_
   refine Fo.no rfl rfl ?_
   refine Fo.no rfl rfl ?_
   refine Fo.no rfl rfl ?_
   refine Fo.no rfl rfl ?_
   refine fB rfl rfl ?_
   refine WpO.nil (hKF _ _ ?_)
   refine Wp.cond (b := false) rfl ?_
   refine Wp.skip ?_
   refine rg fun KF hKF => ?_
   refine mI rfl ?_
   refine mI rfl ?_
   refine WpO.nil (hKF _ _ ?_)
   refine rg fun KF hKF => ?_
   refine Fo.bin rfl rfl rfl rfl ?_
   refine mI rfl ?_
   refine WpO.nil (hKF _ _ ?_)
   dsimp only [cond_true, cond_false]
   refine ⟨i + 1, by omega, ⟨by simp only [↓nrmL, nrmZ, Nat.reduceEqDiff, ↓reduceIte, Nat.reduceAdd, Int.reduceBEq, Int.reduceBNe]; rw [hw1], by simp only [↓nrmL, nrmZ, Nat.reduceEqDiff, ↓reduceIte, Nat.reduceAdd, Int.reduceBEq, Int.reduceBNe]; rw [hnx], by simp only [↓nrmL, nrmZ, Nat.reduceEqDiff, ↓reduceIte, Nat.reduceAdd, Int.reduceBEq, Int.reduceBNe]; rw [hnx], by simp only [↓nrmL, nrmZ, Nat.reduceEqDiff, ↓reduceIte, Nat.reduceAdd, Int.reduceBEq, Int.reduceBNe]; rw [hnx], trivial⟩, hil, rfl⟩
  rw [g1, cond_true] at hnx
  have w1 : IntKind.i64.wrap ((i : Int) - P.2) = (i : Int) - P.2 := w64 (by omega)
  cases g2 : decide ((i : Int) - P.2 > P.1.2)
  ·have e3 : lvU P.1 P.2 i = P.1 := by unfold lvU; rw [g2]; rfl
   rw [e3] at hnx
   try simp only [↓nrmL, nrmZ, Nat.reduceEqDiff, ↓reduceIte, Nat.reduceAdd, Int.reduceBEq, Int.reduceBNe, hc, hge, h0, g1, w1, g2]
   refine sq ?_
   refine rg fun KF hKF => ?_
   refine Fo.bin rfl rfl rfl (by simp only [↓nrmL, nrmZ, Nat.reduceEqDiff, ↓reduceIte, Nat.reduceAdd, Int.reduceBEq, Int.reduceBNe, hc, hge, h0, g1, w1, g2]; rfl) ?_
   refine WpO.nil (hKF _ _ ?_)
   refine sq ?_
   refine Wp.cond (b := true) rfl ?_
   refine Wp.skip ?_
   refine sq ?_
   refine Wp.block ?_
   refine sq ?_
   refine rg fun KF hKF => ?_
   refine mI rfl ?_
   refine Fo.idx (by simp only [↓nrmL, nrmK, Nat.reduceEqDiff, ↓reduceIte]; rfl) rfl ?_ (by simp only [↓nrmL, nrmZ, Nat.reduceEqDiff, ↓reduceIte, Nat.reduceAdd, Int.reduceBEq, Int.reduceBNe, hc, hge, h0, g1, w1, g2]; rfl) ?_; (focus omega)
   refine Fo.ldI rfl ?_ (by simp only [↓nrmL, nrmZ, Nat.reduceEqDiff, ↓reduceIte, Nat.reduceAdd, Int.reduceBEq, Int.reduceBNe, hc, hge, h0, g1, w1, g2]; rfl) ?_; (focus omega)
   refine mI rfl ?_
   refine mI rfl ?_
   refine WpO.nil (hKF _ _ ?_)
   refine sq ?_
   refine sq ?_
   refine rg fun KF hKF => ?_
   refine mI rfl ?_
   refine Fo.bin rfl rfl rfl (by simp only [↓nrmL, nrmZ, Nat.reduceEqDiff, ↓reduceIte, Nat.reduceAdd, Int.reduceBEq, Int.reduceBNe, hc, hge, h0, g1, w1, g2]; rfl) ?_
   refine WpO.nil (hKF _ _ ?_)
   refine Wp.cond (b := false) rfl ?_
   refine Wp.skip ?_
   refine sq ?_
   refine sq ?_
   refine rg fun KF hKF => ?_
   refine mI rfl ?_
   refine mI rfl ?_
   refine WpO.nil (hKF _ _ ?_)
   refine sq ?_
   refine rg fun KF hKF => ?_
   refine mI rfl ?_
   refine Fo.bin rfl rfl rfl (by simp only [↓nrmL, nrmZ, Nat.reduceEqDiff, ↓reduceIte, Nat.reduceAdd, Int.reduceBEq, Int.reduceBNe, hc, hge, h0, g1, w1, g2]; rfl) ?_
   refine mB rfl ?_
   refine Fo.yes rfl rfl ?_
   refine mI rfl ?_
   refine Fo.yes rfl rfl ?_
   refine mI rfl ?_
   refine Fo.yes rfl rfl ?_
   refine Fo.bin rfl rfl rfl (by simp only [↓nrmL, nrmZ, Nat.reduceEqDiff, ↓reduceIte, Nat.reduceAdd, Int.reduceBEq, Int.reduceBNe, hc, hge, h0, g1, w1, g2]; rfl) ?_
   refine Fo.yes rfl rfl ?_
   refine mI rfl ?_
   refine Fo.yes rfl rfl ?_
   refine Fo.bin rfl rfl rfl (by simp only [↓nrmL, nrmZ, Nat.reduceEqDiff, ↓reduceIte, Nat.reduceAdd, Int.reduceBEq, Int.reduceBNe, hc, hge, h0, g1, w1, g2]; rfl) ?_
   refine tB rfl rfl ?_
   refine WpO.nil (hKF _ _ ?_)
   refine Wp.cond (b := false) rfl ?_
   refine Wp.skip ?_
   refine rg fun KF hKF => ?_
   refine mI rfl ?_
   refine mI rfl ?_
   refine WpO.nil (hKF _ _ ?_)
   refine rg fun KF hKF => ?_
   refine Fo.bin rfl rfl rfl rfl ?_
   refine mI rfl ?_
   refine WpO.nil (hKF _ _ ?_)
   dsimp only [cond_true, cond_false]
   refine ⟨i + 1, by omega, ⟨by simp only [↓nrmL, nrmZ, Nat.reduceEqDiff, ↓reduceIte, Nat.reduceAdd, Int.reduceBEq, Int.reduceBNe]; rw [hw1], by simp only [↓nrmL, nrmZ, Nat.reduceEqDiff, ↓reduceIte, Nat.reduceAdd, Int.reduceBEq, Int.reduceBNe]; rw [hnx], by simp only [↓nrmL, nrmZ, Nat.reduceEqDiff, ↓reduceIte, Nat.reduceAdd, Int.reduceBEq, Int.reduceBNe]; rw [hnx], by simp only [↓nrmL, nrmZ, Nat.reduceEqDiff, ↓reduceIte, Nat.reduceAdd, Int.reduceBEq, Int.reduceBNe]; rw [hnx], trivial⟩, hil, rfl⟩
  ·have e3 : lvU P.1 P.2 i = ((P.2 + i + 1).tdiv 2, (i : Int) - P.2) := by unfold lvU; rw [g2]; rfl
   rw [e3] at hnx
   have w2 : IntKind.i64.wrap (P.2 + (i : Int)) = P.2 + (i : Int) := w64 (by omega)
   have w3 : IntKind.i64.wrap (P.2 + (i : Int) + 1) = P.2 + (i : Int) + 1 := w64 (by omega)
   have w4 : IntKind.i64.wrap ((P.2 + (i : Int) + 1).tdiv 2) = (P.2 + (i : Int) + 1).tdiv 2 := by
    have := of_decide_eq_true g1
    obtain ⟨z, hz⟩ : ∃ z : Nat, P.2 + (i : Int) + 1 = z := ⟨(P.2 + (i : Int) + 1).toNat, by omega⟩
    rw [hz, show ((z : Nat) : Int).tdiv 2 = ((z / 2 : Nat) : Int) from rfl]
    exact w64 (by omega)
   try simp only [↓nrmL, nrmZ, Nat.reduceEqDiff, ↓reduceIte, Nat.reduceAdd, Int.reduceBEq, Int.reduceBNe, hc, hge, h0, g1, w1, g2, w2, w3, w4]
   refine sq ?_
   refine rg fun KF hKF => ?_
   refine Fo.bin rfl rfl rfl (by simp only [↓nrmL, nrmZ, Nat.reduceEqDiff, ↓reduceIte, Nat.reduceAdd, Int.reduceBEq, Int.reduceBNe, hc, hge, h0, g1, w1, g2, w2, w3, w4]; rfl) ?_
   refine WpO.nil (hKF _ _ ?_)
   refine sq ?_
   refine Wp.cond (b := true) rfl ?_
   refine Wp.skip ?_
   refine sq ?_
   refine Wp.block ?_
   refine sq ?_
   refine rg fun KF hKF => ?_
   refine mI rfl ?_
   refine Fo.idx (by simp only [↓nrmL, nrmK, Nat.reduceEqDiff, ↓reduceIte]; rfl) rfl ?_ (by simp only [↓nrmL, nrmZ, Nat.reduceEqDiff, ↓reduceIte, Nat.reduceAdd, Int.reduceBEq, Int.reduceBNe, hc, hge, h0, g1, w1, g2, w2, w3, w4]; rfl) ?_; (focus omega)
   refine Fo.ldI rfl ?_ (by simp only [↓nrmL, nrmZ, Nat.reduceEqDiff, ↓reduceIte, Nat.reduceAdd, Int.reduceBEq, Int.reduceBNe, hc, hge, h0, g1, w1, g2, w2, w3, w4]; rfl) ?_; (focus omega)
   refine mI rfl ?_
   refine mI rfl ?_
   refine WpO.nil (hKF _ _ ?_)
   refine sq ?_
   refine sq ?_
   refine rg fun KF hKF => ?_
   refine mI rfl ?_
   refine Fo.bin rfl rfl rfl (by simp only [↓nrmL, nrmZ, Nat.reduceEqDiff, ↓reduceIte, Nat.reduceAdd, Int.reduceBEq, Int.reduceBNe, hc, hge, h0, g1, w1, g2, w2, w3, w4]; rfl) ?_
   refine WpO.nil (hKF _ _ ?_)
   refine Wp.cond (b := false) rfl ?_
   refine Wp.skip ?_
   refine sq ?_
   refine sq ?_
   refine rg fun KF hKF => ?_
   refine mI rfl ?_
   refine mI rfl ?_
   refine WpO.nil (hKF _ _ ?_)
   refine sq ?_
   refine rg fun KF hKF => ?_
   refine mI rfl ?_
   refine Fo.bin rfl rfl rfl (by simp only [↓nrmL, nrmZ, Nat.reduceEqDiff, ↓reduceIte, Nat.reduceAdd, Int.reduceBEq, Int.reduceBNe, hc, hge, h0, g1, w1, g2, w2, w3, w4]; rfl) ?_
   refine mB rfl ?_
   refine Fo.yes rfl rfl ?_
   refine mI rfl ?_
   refine Fo.yes rfl rfl ?_
   refine mI rfl ?_
   refine Fo.yes rfl rfl ?_
   refine Fo.bin rfl rfl rfl (by simp only [↓nrmL, nrmZ, Nat.reduceEqDiff, ↓reduceIte, Nat.reduceAdd, Int.reduceBEq, Int.reduceBNe, hc, hge, h0, g1, w1, g2, w2, w3, w4]; rfl) ?_
   refine Fo.yes rfl rfl ?_
   refine mI rfl ?_
   refine Fo.yes rfl rfl ?_
   refine Fo.bin rfl rfl rfl (by simp only [↓nrmL, nrmZ, Nat.reduceEqDiff, ↓reduceIte, Nat.reduceAdd, Int.reduceBEq, Int.reduceBNe, hc, hge, h0, g1, w1, g2, w2, w3, w4]; rfl) ?_
   refine tB rfl rfl ?_
   refine WpO.nil (hKF _ _ ?_)
   refine Wp.cond (b := true) rfl ?_
   refine rg fun KF hKF => ?_
   refine mI rfl ?_
   refine mI rfl ?_
   refine Fo.bin rfl rfl rfl (by simp only [↓nrmL, nrmZ, Nat.reduceEqDiff, ↓reduceIte, Nat.reduceAdd, Int.reduceBEq, Int.reduceBNe, hc, hge, h0, g1, w1, g2, w2, w3, w4]; rfl) ?_
   refine Fo.bin rfl rfl rfl (by simp only [↓nrmL, nrmZ, Nat.reduceEqDiff, ↓reduceIte, Nat.reduceAdd, Int.reduceBEq, Int.reduceBNe, hc, hge, h0, g1, w1, g2, w2, w3, w4]; rfl) ?_
   refine Fo.bin rfl rfl rfl (by simp only [↓nrmL, nrmZ, Nat.reduceEqDiff, ↓reduceIte, Nat.reduceAdd, Int.reduceBEq, Int.reduceBNe, hc, hge, h0, g1, w1, g2, w2, w3, w4]; rfl) ?_
   refine mI rfl ?_
   refine mI rfl ?_
   refine Fo.bin rfl rfl rfl (by simp only [↓nrmL, nrmZ, Nat.reduceEqDiff, ↓reduceIte, Nat.reduceAdd, Int.reduceBEq, Int.reduceBNe, hc, hge, h0, g1, w1, g2, w2, w3, w4]; rfl) ?_
   refine mI rfl ?_
   refine mI rfl ?_
   refine WpO.nil (hKF _ _ ?_)
   refine rg fun KF hKF => ?_
   refine mI rfl ?_
   refine mI rfl ?_
   refine WpO.nil (hKF _ _ ?_)
   refine rg fun KF hKF => ?_
   refine Fo.bin rfl rfl rfl rfl ?_
   refine mI rfl ?_
   refine WpO.nil (hKF _ _ ?_)
   dsimp only [cond_true, cond_false]
   refine ⟨i + 1, by omega, ⟨by simp only [↓nrmL, nrmZ, Nat.reduceEqDiff, ↓reduceIte, Nat.reduceAdd, Int.reduceBEq, Int.reduceBNe]; rw [hw1], by simp only [↓nrmL, nrmZ, Nat.reduceEqDiff, ↓reduceIte, Nat.reduceAdd, Int.reduceBEq, Int.reduceBNe]; rw [hnx], by simp only [↓nrmL, nrmZ, Nat.reduceEqDiff, ↓reduceIte, Nat.reduceAdd, Int.reduceBEq, Int.reduceBNe]; rw [hnx], by simp only [↓nrmL, nrmZ, Nat.reduceEqDiff, ↓reduceIte, Nat.reduceAdd, Int.reduceBEq, Int.reduceBNe]; rw [hnx], trivial⟩, hil, rfl⟩
 ·rw [h0, cond_true] at hnx
  try simp only [↓nrmL, nrmZ, Nat.reduceEqDiff, ↓reduceIte, Nat.reduceAdd, Int.reduceBEq, Int.reduceBNe, hc, hge, h0]
  refine sq ?_
  refine rg fun KF hKF => ?_
  refine Fo.bin rfl rfl rfl (by simp only [↓nrmL, nrmZ, Nat.reduceEqDiff, ↓reduceIte, Nat.reduceAdd, Int.reduceBEq, Int.reduceBNe, hc, hge, h0]; rfl) ?_
  refine WpO.nil (hKF _ _ ?_)
  refine sq ?_
  refine Wp.cond (b := true) rfl ?_
  refine Wp.skip ?_
  refine sq ?_
  refine Wp.block ?_
  refine sq ?_
  refine rg fun KF hKF => ?_
  refine mI rfl ?_
  refine Fo.idx (by simp only [↓nrmL, nrmK, Nat.reduceEqDiff, ↓reduceIte]; rfl) rfl ?_ (by simp only [↓nrmL, nrmZ, Nat.reduceEqDiff, ↓reduceIte, Nat.reduceAdd, Int.reduceBEq, Int.reduceBNe, hc, hge, h0]; rfl) ?_; (focus omega)
  refine Fo.ldI rfl ?_ (by simp only [↓nrmL, nrmZ, Nat.reduceEqDiff, ↓reduceIte, Nat.reduceAdd, Int.reduceBEq, Int.reduceBNe, hc, hge, h0]; rfl) ?_; (focus omega)
  refine mI rfl ?_
  refine mI rfl ?_
  refine WpO.nil (hKF _ _ ?_)
  refine sq ?_
  refine sq ?_
  refine rg fun KF hKF => ?_
  refine mI rfl ?_
  refine Fo.bin rfl rfl rfl (by simp only [↓nrmL, nrmZ, Nat.reduceEqDiff, ↓reduceIte, Nat.reduceAdd, Int.reduceBEq, Int.reduceBNe, hc, hge, h0]; rfl) ?_
  refine WpO.nil (hKF _ _ ?_)
  refine Wp.cond (b := true) rfl ?_
  refine Wp.exit ?_
  refine rg fun KF hKF => ?_
  refine Fo.bin rfl rfl rfl rfl ?_
  refine mI rfl ?_
  refine WpO.nil (hKF _ _ ?_)
  dsimp only [cond_true, cond_false]
  refine ⟨i + 1, by omega, ⟨by simp only [↓nrmL, nrmZ, Nat.reduceEqDiff, ↓reduceIte, Nat.reduceAdd, Int.reduceBEq, Int.reduceBNe]; rw [hw1], by simp only [↓nrmL, nrmZ, Nat.reduceEqDiff, ↓reduceIte, Nat.reduceAdd, Int.reduceBEq, Int.reduceBNe]; rw [hnx], by simp only [↓nrmL, nrmZ, Nat.reduceEqDiff, ↓reduceIte, Nat.reduceAdd, Int.reduceBEq, Int.reduceBNe]; rw [hnx], by simp only [↓nrmL, nrmZ, Nat.reduceEqDiff, ↓reduceIte, Nat.reduceAdd, Int.reduceBEq, Int.reduceBNe]; rw [hnx], trivial⟩, hil, rfl⟩⟩
class Small (l : List UInt8) : Prop where
 le : l.length ≤ 409600
end Go.Am

set_option maxHeartbeats 4000000
set_option maxRecDepth 100000
set_option synthInstance.maxHeartbeats 2000000
set_option synthInstance.maxSize 1000000000
namespace Go.Am
open Go
attribute [local irreducible] Wp WpO WpX WpE
theorem filled_one (w : Nat) : filled (fun _ => 1) w w = List.replicate w 1 := by
 rw [filled_all, List.map_const', List.length_range]
theorem K_lineL {w : Nat} {H : AHeap} (hw : w ≤ 640) : Con ext prog 1 31 [.int .i64 (w : Int)] H fun v H' => NewInk H H' v ⟨w, 1, List.replicate w 1⟩ := by
 refine con_of (show prog 31 = some c31 from rfl) rfl rfl fun n hn => ?_
 refine sq ?_
 refine rg fun KF hKF => ?_
 refine Fo.new ?_
 refine WpO.nil (hKF _ _ ?_)
 refine sq ?_
 refine rg fun KF hKF => ?_
 refine mI rfl ?_
 refine mI rfl ?_
 refine WpO.do (WpX.mkB rfl rfl rfl (by omega) fun q H1 e1 hq hf hw' hx => ?_); try simp only [↓nrmL, nrmZ, Nat.reduceEqDiff, ↓reduceIte, Nat.reduceAdd, Int.reduceBEq, Int.reduceBNe]
 haveI := hq.one
 refine Fo.build (by repeat (first | refine aFill1 (by first | exact (rfl : _ = AVal.int _ _) | exact (rfl : _ = AVal.ptr _ _) | exact (rfl : _ = AVal.bool _) | exact (rfl : _ = AVal.agg _) | exact (rfl : _ = AVal.tuple _) | exact (rfl : _ = AVal.func _ _ _) | exact (rfl : _ = AVal.nslice) | ((try simp only [↓nrmL, nrmK, Nat.reduceEqDiff, ↓reduceIte]); rfl)) rfl ?_ | rfl)) (by simp only [↓nrmL, nrmZ, Nat.reduceEqDiff, ↓reduceIte, Nat.reduceAdd, Int.reduceBEq, Int.reduceBNe]; rfl) ?_
 refine Fo.new ?_
 refine Fo.st rfl (rfl : _ = AVal.agg _) rfl rfl rfl (by repeat (first | rfl | refine allOne_cons ?_)) (by simp only [↓nrmL, nrmZ, Nat.reduceEqDiff, ↓reduceIte, Nat.reduceAdd, Int.reduceBEq, Int.reduceBNe]; rfl) ?_
 refine WpO.nil (hKF _ _ ?_)
 refine sq ?_
 refine sq ?_
 refine rg fun KF hKF => ?_
 refine Fo.fa rfl ?_
 refine Fo.ld rfl rfl ?_
 refine Fo.len (v := ?_) (by simp only [↓nrmL, nrmK, Nat.reduceEqDiff, ↓reduceIte]; rfl) ?hv ?_; case hv => rfl
 refine mI rfl ?_
 refine WpO.nil (hKF _ _ ?_)
 refine Wp.block ?_
 dsimp only [cond_true, cond_false]
 refine Wp.loopS [4, 12, 13, 14, 15, 16, 17, 18, 19] (fun i : Nat => [(12, .int .i64 i)]) (fun H3 i H2 => i ≤ w ∧ BytesI H2 q (filled (fun _ => 1) i w) ∧ WrS H2 q ∧ ExtP0 H3 H2 q) (fun i => w - i) 0 rfl (fun _ => rfl) ⟨rfl, trivial⟩ ⟨Nat.zero_le _, by rw [filled_zero]; infer_instance, inferInstance, inferInstance⟩ (by unfold fuel0 at hn; omega) ?_
 rintro i g H2 ⟨hi, hb2, hw2, ⟨hx2⟩⟩
 simp only [↓nrmL, nrmZ, Nat.reduceEqDiff, ↓reduceIte, Nat.reduceAdd, Int.reduceBEq, Int.reduceBNe, List.length_replicate]
 cases hc : decide ((i : Int) < (w : Int))
 ·have hil : i = w := by have := of_decide_eq_false hc; omega
  subst hil
  rw [filled_one] at hb2
  try simp only [↓nrmL, nrmZ, Nat.reduceEqDiff, ↓reduceIte, Nat.reduceAdd, Int.reduceBEq, Int.reduceBNe, hc]
  refine sq ?_
  refine rg fun KF hKF => ?_
  refine Fo.bin rfl rfl rfl (by simp only [↓nrmL, nrmZ, Nat.reduceEqDiff, ↓reduceIte, Nat.reduceAdd, Int.reduceBEq, Int.reduceBNe, hc]; rfl) ?_
  refine WpO.nil (hKF _ _ ?_)
  refine sq ?_
  refine Wp.cond (b := false) rfl ?_
  refine Wp.exit ?_
  refine sq ?_
  refine rg fun KF hKF => ?_
  refine Fo.ldN rfl rfl (by simp only [↓nrmL, nrmZ, Nat.reduceEqDiff, ↓reduceIte, Nat.reduceAdd, Int.reduceBEq, Int.reduceBNe, hc]; rfl) ?_
  refine Fo.st rfl (rfl : _ = AVal.agg _) rfl rfl rfl (by repeat (first | rfl | refine allOne_cons ?_)) (by simp only [↓nrmL, nrmZ, Nat.reduceEqDiff, ↓reduceIte, Nat.reduceAdd, Int.reduceBEq, Int.reduceBNe, hc]; rfl) ?_
  refine WpO.nil (hKF _ _ ?_)
  refine Wp.ret ?_
  dsimp only [cond_true, cond_false]
  refine ⟨trivial, _, (by first | rfl | exact getAllC rfl rfl rfl rfl | exact getAllT rfl (getAllC rfl rfl rfl rfl) | exact getAllC rfl rfl rfl (getAllC rfl rfl rfl rfl) | exact getAllC1 rfl rfl rfl), ?_⟩
  exact ⟨q, rfl, (show BytesI _ q (List.replicate i 1) from inferInstance), hf.weak, inferInstance, Ext0.ext⟩
 ·have hil : i < w := by have := of_decide_eq_true hc; omega
  have hw1 := wa1 (a := i) (by omega)
  have hfl := filled_length (fun _ => (1 : UInt8)) i w
  try simp only [↓nrmL, nrmZ, Nat.reduceEqDiff, ↓reduceIte, Nat.reduceAdd, Int.reduceBEq, Int.reduceBNe, hc]
  refine sq ?_
  refine rg fun KF hKF => ?_
  refine Fo.bin rfl rfl rfl (by simp only [↓nrmL, nrmZ, Nat.reduceEqDiff, ↓reduceIte, Nat.reduceAdd, Int.reduceBEq, Int.reduceBNe, hc]; rfl) ?_
  refine WpO.nil (hKF _ _ ?_)
  refine sq ?_
  refine Wp.cond (b := true) rfl ?_
  refine Wp.skip ?_
  refine sq ?_
  refine Wp.block ?_
  refine sq ?_
  refine rg fun KF hKF => ?_
  refine mI rfl ?_
  refine mI rfl ?_
  refine WpO.nil (hKF _ _ ?_)
  refine rg fun KF hKF => ?_
  refine Fo.fa rfl ?_
  refine Fo.ld rfl rfl ?_
  refine mI rfl ?_
  refine Fo.idx (by simp only [↓nrmL, nrmK, Nat.reduceEqDiff, ↓reduceIte]; rfl) rfl ?_ (by simp only [↓nrmL, nrmZ, Nat.reduceEqDiff, ↓reduceIte, Nat.reduceAdd, Int.reduceBEq, Int.reduceBNe, hc]; rfl) ?_; (focus omega)
  refine WpO.do' (WpX.stB (p := q) (j := i) (l := filled (fun _ => 1) i w) 1 rfl rfl rfl (by omega) fun H4 hb4 hw4 hx4 => ?_)
  rw [filled_succ (f := fun _ => (1 : UInt8))] at hb4
  haveI := hx4
  refine WpO.nil (hKF _ _ ?_)
  refine rg fun KF hKF => ?_
  refine Fo.bin rfl rfl rfl rfl ?_
  refine mI rfl ?_
  refine WpO.nil (hKF _ _ ?_)
  dsimp only [cond_true, cond_false]
  refine ⟨i + 1, by omega, ⟨by simp only [↓nrmL, nrmZ, Nat.reduceEqDiff, ↓reduceIte, Nat.reduceAdd, Int.reduceBEq, Int.reduceBNe]; rw [hw1], trivial⟩, hil, hb4, hw4, inferInstance⟩
end Go.Am

set_option maxRecDepth 100000
namespace Go.Am
open Go
def aw1 : List UInt8 := List.replicate 65 0 ++ List.replicate 64 1 ++ [0] ++ List.replicate 64 1 ++ List.replicate 64 0 ++ [1] ++ List.replicate 128 0
theorem aw_e1 : skewS ⟨((129 : Nat) : Int), 1, List.replicate 129 1⟩ (-1) = (⟨129, 3, aw1⟩, 0) := by decide +kernel
theorem aw_e2 : findS ⟨129, 3, aw1⟩ = (-1, 0) := by decide +kernel
theorem aw_e3 : skewS ⟨((64 : Nat) : Int), 1, List.replicate 64 1⟩ 1 = (⟨64, 1, List.replicate 64 1⟩, 0) := by decide +kernel
theorem aw_e4 : levelS ⟨4, 1, [10, 20, 200, 210]⟩ = (110, 0) := by decide +kernel
theorem aw_e5 : levelS ⟨3, 1, [200, 0, 100]⟩ = (50, 0) := by decide +kernel
end Go.Am

set_option maxHeartbeats 8000000
set_option maxRecDepth 100000
set_option synthInstance.maxHeartbeats 4000000
set_option synthInstance.maxSize 1000000000
namespace Go.Am
open Go
attribute [local irreducible] Wp WpO WpX WpE
theorem bytes_of {H : AHeap} {r n : Nat} {cs : List AVal} {l : List UInt8} {e : TypeId} (hg : HasRow H r cs true e) (hn : l.length = n) (hc : cs = cellsB l) : BytesI H (.slice r 0 n (some n) 1) l := by
 subst hn hc
 refine ⟨Or.inr ⟨r, 0, some l.length, cellsB l, true, e, rfl, hg.lt, hg.get, by rw [cellsB_length]; omega, ?_, Nat.le_refl _⟩⟩
 rw [List.drop_zero, Nat.mul_one, ← cellsB_length l, List.take_length]
instance K_awake {H : AHeap} : PureCon ext prog 7 [] H 13 (.bool true) := ⟨by
 refine con_of (show prog 7 = some c7 from rfl) rfl rfl fun n hn => ?_
 haveI b1 : BytesI (H.push (.row [.int .u8 10, .int .u8 20, .int .u8 200, .int .u8 210] true (2 * 5))) (.slice H.n 0 4 (some 4) 1) [10, 20, 200, 210] := bytes_of (e := 2 * 5) ⟨Nat.lt_succ_self _, push_get_eq⟩ rfl rfl
 try simp only [↓nrmL, nrmZ, Nat.reduceEqDiff, ↓reduceIte, Nat.reduceAdd, Int.reduceBEq, Int.reduceBNe, aw_e4]
 refine sq ?_
 refine rg fun KF hKF => ?_
 refine mB rfl ?_
 refine WpO.nil (hKF _ _ ?_)
 refine sq ?_
 refine rg fun KF hKF => ?_
 refine Fo.bslice rfl (by simp only [↓nrmL, nrmZ, Nat.reduceEqDiff, ↓reduceIte, Nat.reduceAdd, Int.reduceBEq, Int.reduceBNe, aw_e4]; rfl) ?_
 refine Fo.build (by repeat (first | refine aFill1 (by first | exact (rfl : _ = AVal.int _ _) | exact (rfl : _ = AVal.ptr _ _) | exact (rfl : _ = AVal.bool _) | exact (rfl : _ = AVal.agg _) | exact (rfl : _ = AVal.tuple _) | exact (rfl : _ = AVal.func _ _ _) | exact (rfl : _ = AVal.nslice) | ((try simp only [↓nrmL, nrmK, Nat.reduceEqDiff, ↓reduceIte]); rfl)) rfl ?_ | rfl)) (by simp only [↓nrmL, nrmZ, Nat.reduceEqDiff, ↓reduceIte, Nat.reduceAdd, Int.reduceBEq, Int.reduceBNe, aw_e4]; rfl) ?_
 refine Fo.pcall (v' := ?_) hn rfl (by simp only [↓nrmL, nrmZ, Nat.reduceEqDiff, ↓reduceIte, Nat.reduceAdd, Int.reduceBEq, Int.reduceBNe, aw_e4, List.map]; rfl) rfl ?hv fun _ _ => ?_; case hv => (simp only [↓nrmL, nrmZ, Nat.reduceEqDiff, ↓reduceIte, Nat.reduceAdd, Int.reduceBEq, Int.reduceBNe, aw_e4]; rfl)
 refine mT rfl ?_
 refine Fo.extr rfl rfl ?_
 refine Fo.extr rfl rfl ?_
 refine mI rfl ?_
 refine mI rfl ?_
 refine WpO.nil (hKF _ _ ?_)
 refine sq ?_
 refine rg fun KF hKF => ?_
 refine Fo.bslice rfl (by simp only [↓nrmL, nrmZ, Nat.reduceEqDiff, ↓reduceIte, Nat.reduceAdd, Int.reduceBEq, Int.reduceBNe, aw_e4]; rfl) ?_
 refine Fo.build (by repeat (first | refine aFill1 (by first | exact (rfl : _ = AVal.int _ _) | exact (rfl : _ = AVal.ptr _ _) | exact (rfl : _ = AVal.bool _) | exact (rfl : _ = AVal.agg _) | exact (rfl : _ = AVal.tuple _) | exact (rfl : _ = AVal.func _ _ _) | exact (rfl : _ = AVal.nslice) | ((try simp only [↓nrmL, nrmK, Nat.reduceEqDiff, ↓reduceIte]); rfl)) rfl ?_ | rfl)) (by simp only [↓nrmL, nrmZ, Nat.reduceEqDiff, ↓reduceIte, Nat.reduceAdd, Int.reduceBEq, Int.reduceBNe, aw_e4]; rfl) ?_
 rename AHeap => H1
 haveI b2 : BytesI (H1.push (.row [.int .u8 200, .int .u8 0, .int .u8 100] true (2 * 5))) (.slice H1.n 0 3 (some 3) 1) [200, 0, 100] := bytes_of (e := 2 * 5) ⟨Nat.lt_succ_self _, push_get_eq⟩ rfl rfl
 try simp only [↓nrmL, nrmZ, Nat.reduceEqDiff, ↓reduceIte, Nat.reduceAdd, Int.reduceBEq, Int.reduceBNe, aw_e5]
 refine Fo.pcall (v' := ?_) hn rfl (by simp only [↓nrmL, nrmZ, Nat.reduceEqDiff, ↓reduceIte, Nat.reduceAdd, Int.reduceBEq, Int.reduceBNe, aw_e5, List.map]; rfl) rfl ?hv fun _ _ => ?_; case hv => (simp only [↓nrmL, nrmZ, Nat.reduceEqDiff, ↓reduceIte, Nat.reduceAdd, Int.reduceBEq, Int.reduceBNe, aw_e5]; rfl)
 refine mT rfl ?_
 refine Fo.extr rfl rfl ?_
 refine Fo.extr rfl rfl ?_
 refine mI rfl ?_
 refine mI rfl ?_
 refine WpO.nil (hKF _ _ ?_)
 refine sq ?_
 refine rg fun KF hKF => ?_
 refine WpO.do (WpX.conD hn rfl rfl (by simp only [↓nrmL, nrmZ, Nat.reduceEqDiff, ↓reduceIte, Nat.reduceAdd, Int.reduceBEq, Int.reduceBNe, List.map] <;> rfl) (K_lineL (w := 129) (by decide)) fun v H5 h5 => ?_)
 obtain ⟨q1, e1, hq1, hf1, hw1, hx1⟩ := h5
 subst e1
 try dsimp only at hq1
 haveI : ExtI _ H5 := ⟨hx1⟩
 haveI := hq1.one
 dsimp only [cond_true, cond_false]
 refine WpO.do (WpX.conD hn rfl rfl (by simp only [↓nrmL, nrmZ, Nat.reduceEqDiff, ↓reduceIte, Nat.reduceAdd, Int.reduceBEq, Int.reduceBNe, List.map] <;> rfl) (K_Skew (w := ((129 : Nat) : Int)) (h := 1) (k := -1) (l := List.replicate 129 1)) fun v H6 h5 => ?_)
 rw [aw_e1] at h5
 obtain ⟨u, e1, q2, e2, hq2, hf2, hw2, hx2⟩ := h5
 subst e1 e2
 try dsimp only at hq2
 haveI : ExtI _ H6 := ⟨hx2⟩
 haveI := hq2.one
 try simp only [↓nrmL, nrmZ, Nat.reduceEqDiff, ↓reduceIte, Nat.reduceAdd, Int.reduceBEq, Int.reduceBNe, aw_e2]
 refine mT rfl ?_
 refine Fo.extr rfl rfl ?_
 refine Fo.extr rfl rfl ?_
 refine Fo.new ?_
 refine Fo.st rfl (rfl : _ = AVal.agg _) rfl rfl rfl (by repeat (first | rfl | refine allOne_cons ?_)) (by simp only [↓nrmL, nrmZ, Nat.reduceEqDiff, ↓reduceIte, Nat.reduceAdd, Int.reduceBEq, Int.reduceBNe, aw_e2]; rfl) ?_
 refine mI rfl ?_
 refine WpO.nil (hKF _ _ ?_)
 refine sq ?_
 refine rg fun KF hKF => ?_
 refine Fo.ldN rfl rfl (by simp only [↓nrmL, nrmZ, Nat.reduceEqDiff, ↓reduceIte, Nat.reduceAdd, Int.reduceBEq, Int.reduceBNe, aw_e2]; rfl) ?_
 refine Fo.pcall (v' := ?_) hn rfl (by simp only [↓nrmL, nrmZ, Nat.reduceEqDiff, ↓reduceIte, Nat.reduceAdd, Int.reduceBEq, Int.reduceBNe, aw_e2, List.map]; rfl) rfl ?hv fun _ _ => ?_; case hv => (simp only [↓nrmL, nrmZ, Nat.reduceEqDiff, ↓reduceIte, Nat.reduceAdd, Int.reduceBEq, Int.reduceBNe, aw_e2]; rfl)
 refine mT rfl ?_
 refine Fo.extr rfl rfl ?_
 refine Fo.extr rfl rfl ?_
 refine mI rfl ?_
 refine mI rfl ?_
 refine WpO.nil (hKF _ _ ?_)
 refine sq ?_
 refine rg fun KF hKF => ?_
 refine WpO.do (WpX.conD hn rfl rfl (by simp only [↓nrmL, nrmZ, Nat.reduceEqDiff, ↓reduceIte, Nat.reduceAdd, Int.reduceBEq, Int.reduceBNe, List.map] <;> rfl) (K_lineL (w := 64) (by decide)) fun v H7 h5 => ?_)
 obtain ⟨q3, e1, hq3, hf3, hw3, hx3⟩ := h5
 subst e1
 try dsimp only at hq3
 haveI : ExtI _ H7 := ⟨hx3⟩
 haveI := hq3.one
 dsimp only [cond_true, cond_false]
 refine WpO.do (WpX.conD hn rfl rfl (by simp only [↓nrmL, nrmZ, Nat.reduceEqDiff, ↓reduceIte, Nat.reduceAdd, Int.reduceBEq, Int.reduceBNe, List.map] <;> rfl) (K_Skew (w := ((64 : Nat) : Int)) (h := 1) (k := 1) (l := List.replicate 64 1)) fun v H8 h5 => ?_)
 rw [aw_e3] at h5
 obtain ⟨u, e1, q4, e2, hq4, hf4, hw4, hx4⟩ := h5
 subst e1 e2
 try dsimp only at hq4
 haveI : ExtI _ H8 := ⟨hx4⟩
 haveI := hq4.one
 refine mT rfl ?_
 refine Fo.extr rfl rfl ?_
 refine Fo.extr rfl rfl ?_
 refine Fo.new ?_
 refine Fo.st rfl (rfl : _ = AVal.agg _) rfl rfl rfl (by repeat (first | rfl | refine allOne_cons ?_)) (by simp only [↓nrmL, nrmZ, Nat.reduceEqDiff, ↓reduceIte, Nat.reduceAdd, Int.reduceBEq, Int.reduceBNe]; rfl) ?_
 refine mI rfl ?_
 refine WpO.nil (hKF _ _ ?_)
 refine sq ?_
 dsimp only [cond_true, cond_false]
 refine Fr.dregion0 rfl fun KF hKF => ?_
 refine Fe.pure rfl rfl (by simp only [↓nrmL, nrmZ, Nat.reduceEqDiff, ↓reduceIte, Nat.reduceAdd, Int.reduceBEq, Int.reduceBNe]; rfl) ?_
 refine Fe.pure rfl rfl (by simp only [↓nrmL, nrmZ, Nat.reduceEqDiff, ↓reduceIte, Nat.reduceAdd, Int.reduceBEq, Int.reduceBNe]; rfl) ?_
 refine Fe.pure rfl rfl (by simp only [↓nrmL, nrmZ, Nat.reduceEqDiff, ↓reduceIte, Nat.reduceAdd, Int.reduceBEq, Int.reduceBNe]; rfl) ?_
 refine Fe.pure rfl rfl (by simp only [↓nrmL, nrmZ, Nat.reduceEqDiff, ↓reduceIte, Nat.reduceAdd, Int.reduceBEq, Int.reduceBNe]; rfl) ?_
 refine Fe.pure rfl rfl (by simp only [↓nrmL, nrmZ, Nat.reduceEqDiff, ↓reduceIte, Nat.reduceAdd, Int.reduceBEq, Int.reduceBNe]; rfl) ?_
 refine Fe.pure rfl rfl (by simp only [↓nrmL, nrmZ, Nat.reduceEqDiff, ↓reduceIte, Nat.reduceAdd, Int.reduceBEq, Int.reduceBNe]; rfl) ?_
 refine Fe.pure rfl rfl (by simp only [↓nrmL, nrmZ, Nat.reduceEqDiff, ↓reduceIte, Nat.reduceAdd, Int.reduceBEq, Int.reduceBNe]; rfl) ?_
 refine Fe.pure rfl rfl (by simp only [↓nrmL, nrmZ, Nat.reduceEqDiff, ↓reduceIte, Nat.reduceAdd, Int.reduceBEq, Int.reduceBNe]; rfl) ?_
 refine Fe.pure rfl rfl (by simp only [↓nrmL, nrmZ, Nat.reduceEqDiff, ↓reduceIte, Nat.reduceAdd, Int.reduceBEq, Int.reduceBNe]; rfl) ?_
 refine Fe.pure rfl rfl (by simp only [↓nrmL, nrmZ, Nat.reduceEqDiff, ↓reduceIte, Nat.reduceAdd, Int.reduceBEq, Int.reduceBNe]; rfl) ?_
 refine Fe.pure rfl rfl (by simp only [↓nrmL, nrmZ, Nat.reduceEqDiff, ↓reduceIte, Nat.reduceAdd, Int.reduceBEq, Int.reduceBNe]; rfl) ?_
 refine Fe.pure rfl rfl (by simp only [↓nrmL, nrmZ, Nat.reduceEqDiff, ↓reduceIte, Nat.reduceAdd, Int.reduceBEq, Int.reduceBNe]; rfl) ?_
 refine Fe.pure rfl rfl (by simp only [↓nrmL, nrmZ, Nat.reduceEqDiff, ↓reduceIte, Nat.reduceAdd, Int.reduceBEq, Int.reduceBNe]; rfl) ?_
 refine Fe.pure rfl rfl (by simp only [↓nrmL, nrmZ, Nat.reduceEqDiff, ↓reduceIte, Nat.reduceAdd, Int.reduceBEq, Int.reduceBNe]; rfl) ?_
 refine Fe.pure rfl rfl (by simp only [↓nrmL, nrmZ, Nat.reduceEqDiff, ↓reduceIte, Nat.reduceAdd, Int.reduceBEq, Int.reduceBNe]; rfl) ?_
 refine Fe.pure rfl rfl (by simp only [↓nrmL, nrmZ, Nat.reduceEqDiff, ↓reduceIte, Nat.reduceAdd, Int.reduceBEq, Int.reduceBNe]; rfl) ?_
 refine Fe.pure rfl rfl (by simp only [↓nrmL, nrmZ, Nat.reduceEqDiff, ↓reduceIte, Nat.reduceAdd, Int.reduceBEq, Int.reduceBNe]; rfl) ?_
 refine Fe.pure rfl rfl (by simp only [↓nrmL, nrmZ, Nat.reduceEqDiff, ↓reduceIte, Nat.reduceAdd, Int.reduceBEq, Int.reduceBNe]; rfl) ?_
 refine Fe.pure rfl rfl (by simp only [↓nrmL, nrmZ, Nat.reduceEqDiff, ↓reduceIte, Nat.reduceAdd, Int.reduceBEq, Int.reduceBNe]; rfl) ?_
 refine Fe.pure rfl rfl (by simp only [↓nrmL, nrmZ, Nat.reduceEqDiff, ↓reduceIte, Nat.reduceAdd, Int.reduceBEq, Int.reduceBNe]; rfl) ?_
 refine Fe.pure rfl rfl (by simp only [↓nrmL, nrmZ, Nat.reduceEqDiff, ↓reduceIte, Nat.reduceAdd, Int.reduceBEq, Int.reduceBNe]; rfl) ?_
 refine Fe.pure rfl rfl (by simp only [↓nrmL, nrmZ, Nat.reduceEqDiff, ↓reduceIte, Nat.reduceAdd, Int.reduceBEq, Int.reduceBNe]; rfl) ?_
 refine Fe.pure rfl rfl (by simp only [↓nrmL, nrmZ, Nat.reduceEqDiff, ↓reduceIte, Nat.reduceAdd, Int.reduceBEq, Int.reduceBNe]; rfl) ?_
 refine Fe.pure rfl rfl (by simp only [↓nrmL, nrmZ, Nat.reduceEqDiff, ↓reduceIte, Nat.reduceAdd, Int.reduceBEq, Int.reduceBNe]; rfl) ?_
 refine Fe.pure rfl rfl (by simp only [↓nrmL, nrmZ, Nat.reduceEqDiff, ↓reduceIte, Nat.reduceAdd, Int.reduceBEq, Int.reduceBNe]; rfl) ?_
 refine Fe.pure rfl rfl (by simp only [↓nrmL, nrmZ, Nat.reduceEqDiff, ↓reduceIte, Nat.reduceAdd, Int.reduceBEq, Int.reduceBNe]; rfl) ?_
 refine Fe.pure rfl rfl (by simp only [↓nrmL, nrmZ, Nat.reduceEqDiff, ↓reduceIte, Nat.reduceAdd, Int.reduceBEq, Int.reduceBNe]; rfl) ?_
 refine Fe.pure rfl rfl (by simp only [↓nrmL, nrmZ, Nat.reduceEqDiff, ↓reduceIte, Nat.reduceAdd, Int.reduceBEq, Int.reduceBNe]; rfl) ?_
 refine Fe.read rfl (exec_ld rfl rfl) rfl (by repeat (first | exact trivial | refine ⟨(by first | exact Or.inl (by dsimp only; decide) | exact Or.inr (exec_ld rfl rfl) | exact Or.inr (exec_ld rfl (by assumption)) | exact Or.inr (exec_ldN rfl rfl rfl) | exact Or.inr (exec_ldB rfl (by omega)) | exact Or.inr (exec_ldI rfl (by omega)) | exact Or.inr ghost_of), ?_⟩)) ?_
 refine Fe.pure rfl rfl (by simp only [↓nrmL, nrmZ, Nat.reduceEqDiff, ↓reduceIte, Nat.reduceAdd, Int.reduceBEq, Int.reduceBNe]; rfl) ?_
 refine Fe.pure rfl rfl (by simp only [↓nrmL, nrmZ, Nat.reduceEqDiff, ↓reduceIte, Nat.reduceAdd, Int.reduceBEq, Int.reduceBNe]; rfl) ?_
 refine Fe.pure rfl rfl (by simp only [↓nrmL, nrmZ, Nat.reduceEqDiff, ↓reduceIte, Nat.reduceAdd, Int.reduceBEq, Int.reduceBNe]; rfl) ?_
 refine Fe.pure rfl rfl (by simp only [↓nrmL, nrmZ, Nat.reduceEqDiff, ↓reduceIte, Nat.reduceAdd, Int.reduceBEq, Int.reduceBNe]; rfl) ?_
 refine Fe.pure rfl rfl (by simp only [↓nrmL, nrmZ, Nat.reduceEqDiff, ↓reduceIte, Nat.reduceAdd, Int.reduceBEq, Int.reduceBNe]; rfl) ?_
 refine Fe.pure rfl rfl (by simp only [↓nrmL, nrmZ, Nat.reduceEqDiff, ↓reduceIte, Nat.reduceAdd, Int.reduceBEq, Int.reduceBNe]; rfl) ?_
 refine Fe.pure rfl rfl (by simp only [↓nrmL, nrmZ, Nat.reduceEqDiff, ↓reduceIte, Nat.reduceAdd, Int.reduceBEq, Int.reduceBNe]; rfl) ?_
 refine Fe.read rfl (exec_ldN rfl rfl (by simp only [↓nrmL, nrmZ, Nat.reduceEqDiff, ↓reduceIte, Nat.reduceAdd, Int.reduceBEq, Int.reduceBNe]; rfl)) rfl (by repeat (first | exact trivial | refine ⟨(by first | exact Or.inl (by dsimp only; decide) | exact Or.inr (exec_ld rfl rfl) | exact Or.inr (exec_ld rfl (by assumption)) | exact Or.inr (exec_ldN rfl rfl rfl) | exact Or.inr (exec_ldB rfl (by omega)) | exact Or.inr (exec_ldI rfl (by omega)) | exact Or.inr ghost_of), ?_⟩)) ?_
 refine Fe.con rfl hn rfl rfl (by simp only [↓nrmL, nrmZ, Nat.reduceEqDiff, ↓reduceIte, Nat.reduceAdd, Int.reduceBEq, Int.reduceBNe, List.map] <;> rfl) (K_lineL (w := 64) (by decide)) fun v H9 h5 => ?_
 obtain ⟨q5, e1, hq5, hf5, hw5, hx5⟩ := h5
 subst e1
 try dsimp only at hq5
 haveI : ExtI _ H9 := ⟨hx5⟩
 haveI := hq5.one
 haveI : Short (List.replicate 64 (1 : UInt8)) := ⟨by rw [List.length_replicate]; decide⟩
 have hs : decide ((⟨64, 1, List.replicate 64 1⟩ : Img) = ⟨64, 1, List.replicate 64 1⟩) = true := decide_eq_true rfl
 refine ⟨(by repeat (first | exact trivial | refine ⟨(by first | exact Or.inl (by dsimp only; decide) | exact Or.inr (readOk_of (exec_ld rfl rfl)) | exact Or.inr (readOk_of (exec_ld rfl (by assumption))) | exact Or.inr (readOk_of (exec_ldN rfl rfl rfl)) | exact Or.inr (readOk_of (exec_ldB rfl (by omega))) | exact Or.inr (readOk_of (exec_ldI rfl (by omega))) | exact Or.inr (made_of rfl)), ?_⟩)), ?_⟩
 try simp only [↓nrmL, nrmZ, Nat.reduceEqDiff, ↓reduceIte, Nat.reduceAdd, Int.reduceBEq, Int.reduceBNe, hs]
 refine Fe.pcall (v' := ?_) rfl hn rfl (by simp only [↓nrmL, nrmZ, Nat.reduceEqDiff, ↓reduceIte, Nat.reduceAdd, Int.reduceBEq, Int.reduceBNe, hs, List.map]; rfl) rfl ?hv fun _ _ => ⟨(by repeat (first | exact trivial | refine ⟨(by first | exact Or.inl (by dsimp only; decide) | exact Or.inr (readOk_of (exec_ld rfl rfl)) | exact Or.inr (readOk_of (exec_ld rfl (by assumption))) | exact Or.inr (readOk_of (exec_ldN rfl rfl rfl)) | exact Or.inr (readOk_of (exec_ldB rfl (by omega))) | exact Or.inr (readOk_of (exec_ldI rfl (by omega))) | exact Or.inr (made_of rfl)), ?_⟩)), ?_⟩; case hv => rfl
 refine Fe.pure rfl rfl (by simp only [↓nrmL, nrmZ, Nat.reduceEqDiff, ↓reduceIte, Nat.reduceAdd, Int.reduceBEq, Int.reduceBNe, hs]; rfl) ?_
 refine Fe.pure rfl rfl (by simp only [↓nrmL, nrmZ, Nat.reduceEqDiff, ↓reduceIte, Nat.reduceAdd, Int.reduceBEq, Int.reduceBNe, hs]; rfl) ?_
 refine WpE.nil (hKF _ _ ?_)
 refine Wp.ret ?_
 dsimp only [cond_true, cond_false]
 refine ⟨trivial, _, (by first | rfl | exact getAllC rfl rfl rfl rfl | exact getAllT rfl (getAllC rfl rfl rfl rfl) | exact getAllC rfl rfl rfl (getAllC rfl rfl rfl rfl) | exact getAllC1 rfl rfl rfl), ?_⟩
 exact ⟨rfl, Ext0.ext⟩⟩
end Go.Am

/- A sequence whose second part needs only some temporaries. -/
namespace Go.Am
open Go
section
variable {call : ACall} {lf : Nat} {fr : AFrame} {H : AHeap} {Q : RExit → AFrame → AHeap → Prop} {a b : RCode}
end
end Go.Am

set_option maxHeartbeats 8000000
set_option maxRecDepth 100000
set_option synthInstance.maxHeartbeats 4000000
set_option synthInstance.maxSize 1000000000
namespace Go.Am
open Go
attribute [local irreducible] Wp WpO WpX WpE
end Go.Am

/- Skewed and straightened again: the same image, the same columns; the drops of neighbours. -/
set_option maxHeartbeats 4000000
namespace Go.Am
open Go

theorem dropN_pos (w x m : Nat) : dropN w (m : Int) x = x * m / 64 := by
  unfold dropN dropZ
  rw [decide_eq_false (by omega), cond_false, show (x : Int) * (m : Int) = ((x * m : Nat) : Int) by push_cast; rfl]
  rw [show (((x * m : Nat) : Int)).tdiv 64 = (((x * m) / 64 : Nat) : Int) from rfl, Int.toNat_natCast]
theorem drop_zero (w x : Nat) : dropN w 0 x = 0 := by
  have := dropN_pos w x 0
  simpa using this
theorem skewL_ok {l : List UInt8} {a b : Nat} {k : Int} (ok : Ok a b l) (hg : b + grN a k a ≤ 640) : Ok a (b + grN a k a) (skewL l a b k) :=
  ⟨ok.wa, hg, by simp [skewL, fillP_length], by
    unfold skewL fillP
    exact ok_map_range fun j => by
      by_cases h : skP a k b 0 j = true
      · rw [if_pos h]; exact getD01 ok.px _
      · rw [if_neg h]; exact Or.inl rfl⟩
theorem skew_is {a b : Nat} {k : Int} {l : List UInt8} (ok : Ok a b l) (hk : skB k = true) (hg : b + grN a k a ≤ 640) : skewS ⟨a, b, l⟩ k = (⟨a, ((b + grN a k a : Nat) : Int), skewL l a b k⟩, 0) := by
  simp only [skewS, ckS_ok ok hk, beq_self_eq_true, cond_true, Int.toNat_natCast]
  rw [decide_eq_true (by omega), cond_true]
  congr 2
end Go.Am

/- The skew that is found: no other has more full rows, none that comes first as many. -/
set_option maxHeartbeats 4000000
namespace Go.Am
open Go

theorem fs_best (f : Int → Int × Int) (h0 : ∀ k, 0 ≤ (f k).1) : ∀ L : List Int, ((∀ k ∈ L, ((f k).2 == 0) = false) ∧ fsA f L = (0, -1)) ∨
    ∃ L1 b L2, L = L1 ++ b :: L2 ∧ ((f b).2 == 0) = true ∧ fsA f L = (b, (f b).1) ∧ (∀ k ∈ L1, ((f k).2 == 0) = true → (f k).1 < (f b).1) ∧ (∀ k ∈ L2, ((f k).2 == 0) = true → (f k).1 ≤ (f b).1) := by
  intro L
  obtain ⟨n, hn⟩ : ∃ n, L.length = n := ⟨_, rfl⟩
  induction n generalizing L with
  | zero =>
    have : L = [] := List.length_eq_zero_iff.1 hn
    subst this
    exact Or.inl ⟨by simp, rfl⟩
  | succ n ih =>
    obtain ⟨L', k, rfl⟩ : ∃ L' k, L = L' ++ [k] := by
      rcases List.eq_nil_or_concat L with h | ⟨L', k, h⟩
      · subst h; simp at hn
      · exact ⟨L', k, by rw [h, List.concat_eq_append]⟩
    have hl : L'.length = n := by simp at hn; exact hn
    rw [fsA_snoc]
    unfold fsStep
    cases hk : ((f k).2 == 0)
    · rw [cond_false]
      rcases ih L' hl with ⟨h1, h2⟩ | ⟨L1, b, L2, h1, h2, h3, h4, h5⟩
      · refine Or.inl ⟨fun j hj => ?_, h2⟩
        rcases List.mem_append.1 hj with q | q
        · exact h1 j q
        · rw [List.mem_singleton.1 q]; exact hk
      · refine Or.inr ⟨L1, b, L2 ++ [k], by rw [h1]; simp, h2, h3, h4, fun j hj hj2 => ?_⟩
        rcases List.mem_append.1 hj with q | q
        · exact h5 j q hj2
        · rw [List.mem_singleton.1 q, hk] at hj2; cases hj2
    · rw [cond_true]
      rcases ih L' hl with ⟨h1, h2⟩ | ⟨L1, b, L2, h1, h2, h3, h4, h5⟩
      · rw [h2, decide_eq_true (by have := h0 k; show (f k).1 > -1; omega), cond_true]
        exact Or.inr ⟨L', k, [], rfl, hk, rfl, fun j hj hj2 => (by rw [h1 j hj] at hj2; cases hj2), fun j hj => (by cases hj)⟩
      · rw [h3]
        cases hg : decide ((f k).1 > (f b).1)
        · have hg' := of_decide_eq_false hg
          rw [cond_false]
          refine Or.inr ⟨L1, b, L2 ++ [k], by rw [h1]; simp, h2, rfl, h4, fun j hj hj2 => ?_⟩
          rcases List.mem_append.1 hj with q | q
          · exact h5 j q hj2
          · rw [List.mem_singleton.1 q]; omega
        · have hg' := of_decide_eq_true hg
          rw [cond_true]
          refine Or.inr ⟨L', k, [], rfl, hk, rfl, fun j hj hj2 => ?_, fun j hj => (by cases hj)⟩
          rw [h1] at hj
          rcases List.mem_append.1 hj with q | q
          · have := h4 j q hj2; omega
          · rcases List.mem_cons.1 q with q | q
            · rw [q]; exact hg'
            · have := h5 j q hj2; omega
def absZ (k : Int) : Int := if -k > k then -k else k
/-- Whoever is preferred stands before. -/
theorem before_all : ∀ i < 7, ∀ j < 7, (absZ (skAll.getD j 0) < absZ (skAll.getD i 0) ∨ (absZ (skAll.getD j 0) = absZ (skAll.getD i 0) ∧ skAll.getD j 0 > skAll.getD i 0)) → j < i := by decide
theorem skAll_mem {k : Int} (h : -3 ≤ k ∧ k ≤ 3) : ∃ i, i < 7 ∧ skAll.getD i 0 = k := by
  have : k = -3 ∨ k = -2 ∨ k = -1 ∨ k = 0 ∨ k = 1 ∨ k = 2 ∨ k = 3 := by omega
  rcases this with rfl | rfl | rfl | rfl | rfl | rfl | rfl
  · exact ⟨6, by decide, rfl⟩
  · exact ⟨4, by decide, rfl⟩
  · exact ⟨2, by decide, rfl⟩
  · exact ⟨0, by decide, rfl⟩
  · exact ⟨1, by decide, rfl⟩
  · exact ⟨3, by decide, rfl⟩
  · exact ⟨5, by decide, rfl⟩
/-- What is told by the skew that is found. -/
theorem found_best {f : Int → Int × Int} (h0 : ∀ k, 0 ≤ (f k).1) (hz : ((f 0).2 == 0) = true) : ∃ b, fsA f skAll = (b, (f b).1) ∧ -3 ≤ b ∧ b ≤ 3 ∧ ((f b).2 == 0) = true ∧
    ∀ k, -3 ≤ k ∧ k ≤ 3 → ((f k).2 == 0) = true → (f k).1 ≤ (f b).1 ∧ ((f k).1 = (f b).1 → ¬ absZ k < absZ b ∧ (absZ k = absZ b → ¬ k > b)) := by
  rcases fs_best f h0 skAll with ⟨h1, _⟩ | ⟨L1, b, L2, h1, h2, h3, h4, h5⟩
  · rw [h1 0 (by decide)] at hz; cases hz
  have hlen : L1.length + (L2.length + 1) = 7 := by
    have := congrArg List.length h1
    simp only [List.length_append, List.length_cons] at this
    rw [← this]; rfl
  have hgi : ∀ i, skAll.getD i 0 = (L1 ++ b :: L2).getD i 0 := fun i => by rw [← h1]
  have hbi : skAll.getD L1.length 0 = b := by
    rw [hgi, List.getD_eq_getElem?_getD, List.getElem?_append_right (Nat.le_refl _), Nat.sub_self]; rfl
  have hb : -3 ≤ b ∧ b ≤ 3 := by
    have := skAll_in L1.length (by omega)
    rw [hbi] at this
    exact skB_iff.1 this
  refine ⟨b, h3, hb.1, hb.2, h2, fun k hk hk2 => ?_⟩
  obtain ⟨j, hj, hjk⟩ := skAll_mem hk
  have hlow : j < L1.length → k ∈ L1 := fun q => by
    rw [← hjk, hgi, List.getD_eq_getElem?_getD, List.getElem?_append_left q, List.getElem?_eq_getElem q, Option.getD_some]
    exact List.getElem_mem q
  have hhigh : L1.length < j → k ∈ L2 := fun q => by
    rw [← hjk, hgi, List.getD_eq_getElem?_getD, List.getElem?_append_right (by omega)]
    obtain ⟨z, hz2⟩ : ∃ z, j - L1.length = z + 1 := ⟨j - L1.length - 1, by omega⟩
    rw [hz2, List.getElem?_cons_succ, List.getElem?_eq_getElem (by omega), Option.getD_some]
    exact List.getElem_mem _
  have hle : (f k).1 ≤ (f b).1 := by
    rcases Nat.lt_trichotomy j L1.length with q | q | q
    · exact Int.le_of_lt (h4 k (hlow q) hk2)
    · rw [← hjk, q, hbi]; exact Int.le_refl _
    · exact h5 k (hhigh q) hk2
  refine ⟨hle, fun he => ?_⟩
  have key := before_all L1.length (by omega) j hj
  rw [hjk, hbi] at key
  have hno : ¬ j < L1.length := fun q => by have := h4 k (hlow q) hk2; omega
  exact ⟨fun q => hno (key (Or.inl q)), fun q1 q2 => hno (key (Or.inr ⟨q1, q2⟩))⟩
end Go.Am

/- Lists of 16 bits, and first elements of slices. -/
set_option maxHeartbeats 4000000
namespace Go.Am
open Go Go.RowKit

/- lists of 16 bits -/
def cellsU (l : List Nat) : List AVal := l.map fun (n : Nat) => AVal.int .u16 ((n : Nat) : Int)
abbrev U16I (H : AHeap) (p : AVal) (l : List Nat) : Prop := SliceAt H p 1 l.length (cellsU l)
theorem cellsU_get {l : List Nat} {i : Nat} (h : i < l.length) : (cellsU l)[i]? = some (.int .u16 ((l[i] : Nat) : Int)) := by simp [cellsU, h]
theorem cellsU_take (l : List Nat) (n : Nat) : (cellsU l).take n = cellsU (l.take n) := by simp [cellsU, List.map_take]
section
variable {call : ACall} {fr : AFrame} {H : AHeap}
/-- The first elements of a slice. -/
theorem exec_pre {x y : ROpd} {p : AVal} {k : IntKind} {n b : Nat} {cs : List AVal} (hx : x.ev fr = p) (hy : y.ev fr = .int k (b : Int)) (hb : b ≤ n) [s : SliceAt H p 1 n cs] :
    ∃ v, (ROp.sliceS 1 x none (some y) none).exec call fr H = some (v, H) ∧ SliceAt H v 1 b (cs.take b) ∧ OneV v ∧ (∀ r off len cap sz, v = .slice r off len cap sz → ∃ off' len' cap' sz', p = .slice r off' len' cap' sz') := by
  have hbd : ∀ y0, b ≤ y0 → aBound y0 (.int k (b : Int)) = some b := by
    intro y0 hy0
    simp only [aBound]
    rw [if_pos (by omega), Int.toNat_natCast]
  rcases s.it with ⟨rfl, rfl, rfl⟩ | ⟨r, off, cap, row, rw, e, rfl, hr, hg, hl, hc, hcap⟩
  · have : b = 0 := by omega
    subst this
    refine ⟨.nslice, ?_, ⟨Or.inl ⟨rfl, rfl, rfl⟩⟩, inferInstance, fun _ _ _ _ _ e => by cases e⟩
    simp only [ROp.exec, hx, Option.map_none, Option.map_some, hy, aSliceS, aBounds, aHigh, capD, hbd 0 (Nat.le_refl _), aLow, M.pure]
  · rw [Nat.mul_one] at hl hc
    have hb0 : aBounds n cap none (some (.int k (b : Int))) none = some (0, b, cap) := by
      simp only [aBounds, aHigh, hbd _ (Nat.le_trans hb hcap), aLow]
    have hs : ∀ cap', b ≤ capD b cap' → SliceAt H (.slice r off b cap' 1) 1 b (cs.take b) := fun cap' h' =>
      ⟨Or.inr ⟨r, off, cap', row, rw, e, rfl, hr, hg, by omega, by rw [Nat.mul_one, ← hc, List.take_take, Nat.min_eq_left hb], h'⟩⟩
    cases cap with
    | some c =>
      simp only [capD] at hcap
      by_cases hc0 : c = 0
      · have : b = 0 := by omega
        subst this
        refine ⟨.slice r off 0 (some 0) 1, ?_, hs _ (Nat.zero_le _), inferInstance, fun _ _ _ _ _ e => by cases e; exact ⟨_, _, _, _, rfl⟩⟩
        simp only [ROp.exec, hx, Option.map_none, Option.map_some, hy, aSliceS, ne_eq, not_true, if_false, hb0, M.pure, if_pos hc0]
      · refine ⟨.slice r off b (some c) 1, ?_, hs _ (by simp only [capD]; omega), inferInstance, fun _ _ _ _ _ e => by cases e; exact ⟨_, _, _, _, rfl⟩⟩
        simp only [ROp.exec, hx, Option.map_none, Option.map_some, hy, aSliceS, ne_eq, not_true, if_false, hb0, M.pure, if_neg hc0, Nat.zero_mul, Nat.add_zero, Nat.sub_zero]
    | none =>
      refine ⟨.slice r off b none 1, ?_, hs _ (Nat.le_refl _), inferInstance, fun _ _ _ _ _ e => by cases e; exact ⟨_, _, _, _, rfl⟩⟩
      have h2 : ¬ row.length < off + n := by omega
      have hrow : aRow r H = some ((row, rw), H) := by simp only [aRow, if_pos hr, hg]
      simp only [ROp.exec, hx, Option.map_none, Option.map_some, hy, aSliceS, ne_eq, not_true, if_false, hb0, Nat.mul_one, Nat.one_ne_zero, M.bind, hrow, if_neg h2, or_true, if_true, M.pure, Nat.add_zero, Nat.sub_zero]
theorem Fo.pre {KF : AFrame → AHeap → Prop} {os : List ROper} {d : Nat} {x y : ROpd} {p : AVal} {k : IntKind} {n b : Nat} {cs : List AVal} (hx : x.ev fr = p) (hy : y.ev fr = .int k (b : Int)) (hb : b ≤ n) [s : SliceAt H p 1 n cs]
    (h : ∀ v, SliceAt H v 1 b (cs.take b) → OneV v → (∀ r off len cap sz, v = .slice r off len cap sz → ∃ off' len' cap' sz', p = .slice r off' len' cap' sz') → WpO call os (upd fr d v) H KF) : WpO call (⟨some d, .sliceS 1 x none (some y) none, none⟩ :: os) fr H KF := by
  obtain ⟨v, h1, h2, h3, h4⟩ := exec_pre (call := call) hx hy hb (s := s)
  exact WpO.step rfl ⟨v, H, h1, h v h2 h3 h4⟩
end

section
variable {P : Program} {H : AHeap} {n : Nat} {t e : TypeId} {cs : List AVal}
theorem shapes_u16 (hu : P.underlying e = some (.int .u16)) : ∀ {len : Nat} {cells : List AVal}, shapes (Shape P H (n + 1)) (List.replicate len e) cells → ∃ l : List Nat, l.length = len ∧ cells = cellsU l ∧ ∀ n ∈ l, n < 65536 := by
  intro len
  induction len with
  | zero => intro cells h; exact ⟨[], rfl, h, fun _ q => by cases q⟩
  | succ len ih =>
    intro cells h
    obtain ⟨a, b, rfl, h1, h2⟩ := h
    obtain ⟨i, rfl, hw⟩ := shape_int hu h1
    obtain ⟨x, rfl, hx⟩ := u16_of hw
    obtain ⟨l, hl, rfl, hm⟩ := ih h2
    exact ⟨x :: l, by simp [hl], rfl, fun n q => by
      rcases List.mem_cons.1 q with q | q
      · rw [q]; exact hx
      · exact hm n q⟩
theorem shape_u16s (hu : P.underlying t = some (.slice e)) (he : P.underlying e = some (.int .u16)) (hc : P.cellsOf e = 1) (h : Shape P H (n + 2) t cs) : ∃ p l, cs = [p] ∧ U16I H p l ∧ (∀ n ∈ l, n < 65536) ∧ l.length ≤ maxLen := by
  rw [Shape, hu] at h
  obtain ⟨p, len, cells, rfl, h2, h3, h4⟩ := h
  obtain ⟨l, rfl, rfl, hm⟩ := shapes_u16 he h4
  rw [hc] at h2
  exact ⟨p, l, rfl, h2, hm, h3⟩
end
section
variable {call : ACall} {lf : Nat} {fr : AFrame} {H : AHeap} {Q : RExit → AFrame → AHeap → Prop} {a b : RCode}
/-- A sequence whose second part needs only some temporaries, that hang on what is told. -/
theorem Wp.seqE {σ : Type} (L : σ → List (Nat × AVal)) (PH : σ → AHeap → Prop) (h1 : ∀ s g H', PH s H' → Wp call lf b (updL (L s) g) H' Q) (h2 : Wp call lf a fr H fun x fr' H' => match x with | .normal => ∃ s, agrees (L s) fr' ∧ PH s H' | e => Q e fr' H') : Wp call lf (.seq a b) fr H Q :=
  Wp.seq (Wp.mono h2 fun x fr' H' h => by
    cases x with
    | normal =>
      obtain ⟨s, h3, h4⟩ := h
      have := h1 s fr' H' h4
      rwa [updL_agrees h3] at this
    | exit id => exact h
    | ret => exact h)
end
end Go.Am

set_option maxHeartbeats 8000000
set_option maxRecDepth 100000
set_option synthInstance.maxHeartbeats 4000000
set_option synthInstance.maxSize 1000000000
namespace Go.Am
open Go
attribute [local irreducible] Wp WpO WpX WpE
theorem u8m (c : UInt8) (k : Nat) (hk : 0 < k) : IntKind.i64.wrap ((c.toNat : Int).tmod (k : Int)) = ((c.toNat % k : Nat) : Int) := by
 rw [show (c.toNat : Int).tmod (k : Int) = ((c.toNat % k : Nat) : Int) from rfl]
 have := Nat.mod_lt c.toNat hk
 have := Nat.mod_le c.toNat k
 have := c.toNat_lt
 exact w64 (by omega)
theorem min_nat {a b : Nat} : (if (b : Int) < (a : Int) then (b : Int) else (a : Int)) = ((min a b : Nat) : Int) := by split <;> omega
theorem cellsB_take (l : List UInt8) (k : Nat) : (cellsB l).take k = cellsB (l.take k) := by simp [cellsB, List.map_take]
/-- Between two rows: what has been listed. -/
structure RuS (H : AHeap) (pv : AVal) (F : List Int) (i y : Nat) (Hb : AHeap) : Prop where
 own : OwnS H pv 1 F.length (cellsI F) 3
 len : F.length = i
 le : ∀ t ∈ F, 0 ≤ t ∧ t ≤ (y : Int)
 bd : y ≤ 5 + 6 * i
 fresh : FreshS Hb pv
 ext : Ext Hb H
theorem one_intsC {H : AHeap} {k : Int} {e : TypeId} : SliceAt (H.push (.row [.int .i64 k] true e)) (.slice H.n 0 1 (some 1) 1) 1 1 [.int .i64 k] := ⟨Or.inr ⟨H.n, 0, some 1, _, true, e, rfl, Nat.lt_succ_self _, push_get_eq, Nat.le_refl _, rfl, Nat.le_refl _⟩⟩
theorem one_ints {H : AHeap} {k : Int} {e : TypeId} : IntsI (H.push (.row [.int .i64 k] true e)) (.slice H.n 0 1 (some 1) 1) [k] := ⟨Or.inr ⟨H.n, 0, some 1, _, true, e, rfl, Nat.lt_succ_self _, push_get_eq, Nat.le_refl _, rfl, Nat.le_refl _⟩⟩
theorem K_Ruled {c : UInt8} {p : AVal} {H : AHeap} {rows : List UInt8} [hp : BytesI H p rows] : Con ext prog 1 30 [.int .u8 (c.toNat : Int), p] H fun v H' => ∃ (a b : Nat) (l : List UInt8), 65 ≤ a ∧ a ≤ 160 ∧ 2 ≤ b ∧ b ≤ 100 ∧ Ok a b l ∧ NewInk H H' v ⟨a, b, l⟩ := by
 refine con_of (show prog 30 = some c30 from rfl) rfl rfl fun n hn => ?_
 haveI := hp.one
 have t96 : IntKind.i64.wrap ((c.toNat : Int).tmod 96) = ((c.toNat % 96 : Nat) : Int) := u8m c 96 (by decide)
 have hc96 := Nat.mod_lt c.toNat (show 0 < 96 by decide)
 obtain ⟨a, ha⟩ : ∃ a, 65 + c.toNat % 96 = a := ⟨_, rfl⟩
 have w1 : IntKind.i64.wrap (65 + ((c.toNat % 96 : Nat) : Int)) = (a : Int) := by rw [w64 (by omega)]; omega
 obtain ⟨k, hk⟩ : ∃ k, min rows.length 12 = k := ⟨_, rfl⟩
 have hmn : (if (12 : Int) < ((rows.length : Nat) : Int) then 12 else ((rows.length : Nat) : Int)) = (k : Int) := by rw [← hk]; exact min_nat (b := 12)
 refine sq ?_
 refine Fr.region fun KF hK1 => ?_
 refine Fo.new ?_
 refine WpO.nil (hK1 _ _ ?_)
 refine sq ?_
 refine Fr.region fun KF hK2 => ?_
 try simp only [↓nrmL, nrmZ, Nat.reduceEqDiff, ↓reduceIte, Nat.reduceAdd, Int.reduceBEq, Int.reduceBNe, t96, w1]
 refine mI rfl ?_
 refine Fo.bin rfl rfl rfl rfl ?_
 refine Fo.now rfl rfl (by simp only [↓nrmL, nrmZ, Nat.reduceEqDiff, ↓reduceIte, Nat.reduceAdd, Int.reduceBEq, Int.reduceBNe, t96, w1]; rfl) ?_
 refine Fo.bin rfl rfl rfl (by simp only [↓nrmL, nrmZ, Nat.reduceEqDiff, ↓reduceIte, Nat.reduceAdd, Int.reduceBEq, Int.reduceBNe, t96, w1]; rfl) ?_
 refine mI rfl ?_
 refine WpO.nil (hK2 _ _ ?_)
 refine sq ?_
 refine Fr.region fun KF hK3 => ?_
 refine mN rfl ?_
 refine WpO.nil (hK3 _ _ ?_)
 refine sq ?_
 refine Fr.region fun KF hK4 => ?_
 refine mI rfl ?_
 refine WpO.nil (hK4 _ _ ?_)
 refine Wp.seqE (σ := AVal × List Int × Nat) (fun s => [(0, .int .u8 (c.toNat : Int)), (4, .ptr H.n 0), (5, .int .i64 (a : Int)), (6, s.1), (7, .int .i64 (s.2.2 : Int))]) (fun s H' => s.2.1.length ≤ 12 ∧ RuS H' s.1 s.2.1 s.2.1.length s.2.2 (H.push (.row [.int .i64 0, .int .i64 0, .nslice] true (2 * 25)))) ?_ ?_
 rotate_left
 ·skip
  try simp only [↓nrmL, nrmZ, Nat.reduceEqDiff, ↓reduceIte, Nat.reduceAdd, Int.reduceBEq, Int.reduceBNe, hmn]
  refine sq ?_
  refine rg fun KF hKF => ?_
  refine Fo.mov (by simp only [↓nrmL, nrmK, Nat.reduceEqDiff, ↓reduceIte]; rfl) ?_
  refine Fo.mov (by simp only [↓nrmL, nrmK, Nat.reduceEqDiff, ↓reduceIte]; rfl) ?_
  refine Fo.len (v := ?_) (by simp only [↓nrmL, nrmK, Nat.reduceEqDiff, ↓reduceIte]; rfl) ?hv ?_; case hv => rfl
  refine Fo.now rfl rfl (by simp only [↓nrmL, nrmZ, Nat.reduceEqDiff, ↓reduceIte, Nat.reduceAdd, Int.reduceBEq, Int.reduceBNe, hmn]; rfl) ?_
  refine Fo.pre (p := p) (b := k) rfl rfl (by omega) fun pv hpv hone hsub => ?_
  rw [cellsB_take] at hpv
  have hkl : (rows.take k).length = k := by rw [List.length_take]; omega
  haveI hpv2 : BytesI (H.push (.row [.int .i64 0, .int .i64 0, .nslice] true (2 * 25))) pv (rows.take k) := by unfold BytesI; rw [hkl]; exact hpv
  clear hpv
  haveI := hone
  refine Fo.len (v := ?_) (by simp only [↓nrmL, nrmK, Nat.reduceEqDiff, ↓reduceIte]; rfl) ?hv ?_; case hv => rfl
  refine mI rfl ?_
  refine WpO.nil (hKF _ _ ?_)
  refine Wp.block ?_
  dsimp only [cond_true, cond_false]
  refine Wp.loopS (σ := Nat × AVal × List Int × Nat) [6, 7, 8, 9, 24, 25, 26, 27, 28, 29, 30, 31, 32, 33, 34, 35, 36, 37, 38, 39, 40, 41, 42, 43, 44] (fun s => [(24, .int .i64 (s.1 : Int)), (6, s.2.1), (7, .int .i64 (s.2.2.2 : Int))]) (fun H3 s H2 => s.1 ≤ k ∧ RuS H2 s.2.1 s.2.2.1 s.1 s.2.2.2 H3) (fun s => k - s.1) (0, .nslice, [], 0) rfl (fun _ => rfl) ⟨rfl, rfl, rfl, trivial⟩ ⟨Nat.zero_le _, ⟨⟨Or.inl ⟨rfl, rfl, rfl⟩⟩, rfl, fun t ht => (by cases ht), by dsimp only; omega, ⟨fun _ _ _ _ _ q => (by cases q)⟩, Ext.refl _⟩⟩ (by unfold fuel0 at hn; dsimp only; omega) ?_
  rintro ⟨i, fv, F, y⟩ g H2 ⟨hi, hru⟩
  dsimp only at hi hru
  obtain ⟨r1, r2, r3, r4, r5, r6⟩ := hru
  haveI : ExtI _ H2 := ⟨r6⟩
  haveI := r1
  haveI := r1.sl
  haveI := r1.sl.one
  simp only [↓nrmL, nrmZ, Nat.reduceEqDiff, ↓reduceIte, Nat.reduceAdd, Int.reduceBEq, Int.reduceBNe]
  cases hc : decide ((i : Int) < (((rows.take k).length : Nat) : Int))
  ·have hik : i = k := by have := of_decide_eq_false hc; omega
   try simp only [↓nrmL, nrmZ, Nat.reduceEqDiff, ↓reduceIte, Nat.reduceAdd, Int.reduceBEq, Int.reduceBNe, hc]
   refine sq ?_
   refine rg fun KF hKF => ?_
   refine Fo.bin rfl rfl rfl (by simp only [↓nrmL, nrmZ, Nat.reduceEqDiff, ↓reduceIte, Nat.reduceAdd, Int.reduceBEq, Int.reduceBNe, hc]; rfl) ?_
   refine WpO.nil (hKF _ _ ?_)
   refine sq ?_
   refine Wp.cond (b := false) rfl ?_
   refine Wp.exit ?_
   dsimp only [cond_true, cond_false]
   exact ⟨(fv, F, y), ⟨rfl, rfl, rfl, rfl, rfl, trivial⟩, by dsimp only; omega, r1, rfl, r3, by dsimp only; omega, r5, r6⟩
  ·have hik : i < k := by have := of_decide_eq_true hc; omega
   have hil : i < (rows.take k).length := by omega
   have hw1 := wa1 (a := i) (by omega)
   obtain ⟨x, hx⟩ : ∃ x, (rows.take k)[i] = x := ⟨_, rfl⟩
   have t6 : IntKind.i64.wrap ((x.toNat : Int).tmod 6) = ((x.toNat % 6 : Nat) : Int) := u8m x 6 (by decide)
   have t4 : IntKind.i64.wrap ((x.toNat : Int).tmod 4) = ((x.toNat % 4 : Nat) : Int) := u8m x 4 (by decide)
   have hx6 := Nat.mod_lt x.toNat (show 0 < 6 by decide)
   have hx4 := Nat.mod_lt x.toNat (show 0 < 4 by decide)
   have hcs : ∀ z : Int, cellsI F ++ [.int .i64 z] = cellsI (F ++ [z]) := fun z => by simp [cellsI]
   have fin : ∀ (z : Nat) (p' : AVal) (H5 : AHeap), (∀ t ∈ F, t ≤ (z : Int)) → z ≤ 5 + 6 * (i + 1) → OwnS H5 p' 1 (F.length + 1) (cellsI F ++ [.int .i64 (z : Int)]) 3 → FreshS (H2.push (.row [.int .i64 (z : Int)] true (2 * 3))) p' → ExtP (H2.push (.row [.int .i64 (z : Int)] true (2 * 3))) H5 fv → RuS H5 p' (F ++ [(z : Int)]) (i + 1) z (H.push (.row [.int .i64 0, .int .i64 0, .nslice] true (2 * 25))) := by
    intro z p' H5 h1 h2 h3 h4 h5
    rw [hcs] at h3
    refine ⟨by rw [List.length_append, List.length_singleton]; exact h3, by rw [List.length_append, r2]; rfl, fun t ht => ?_, h2, ⟨fun r off len cap sz q => ?_⟩, ⟨?_, fun r hr => ?_⟩⟩
    ·rcases List.mem_append.1 ht with q | q
     ·exact ⟨(r3 t q).1, h1 t q⟩
     ·rw [List.mem_singleton.1 q]; omega
    ·have e1 := h4.ge _ _ _ _ _ q
     have e2 := r6.n
     have e3 : (H2.push (.row [.int .i64 (z : Int)] true (2 * 3))).n = H2.n + 1 := rfl
     omega
    ·have e1 := h5.n
     have e2 := r6.n
     have e3 : (H2.push (.row [.int .i64 (z : Int)] true (2 * 3))).n = H2.n + 1 := rfl
     omega
    ·have e2 := r6.n
     have e3 : (H2.push (.row [.int .i64 (z : Int)] true (2 * 3))).n = H2.n + 1 := rfl
     rw [h5.get r (by omega) ⟨fun r' off len cap sz q => by have := r5.ge _ _ _ _ _ q; omega⟩, push_get_lt (by omega)]
     exact r6.get r hr
   cases h0 : ((i : Int) == 0)
   ·have w3 : IntKind.i64.wrap (3 + ((x.toNat % 4 : Nat) : Int)) = ((3 + x.toNat % 4 : Nat) : Int) := by rw [w64 (by omega)]; omega
    have w4 : IntKind.i64.wrap ((y : Int) + ((3 + x.toNat % 4 : Nat) : Int)) = ((y + (3 + x.toNat % 4) : Nat) : Int) := wa (by omega)
    try simp only [↓nrmL, nrmZ, Nat.reduceEqDiff, ↓reduceIte, Nat.reduceAdd, Int.reduceBEq, Int.reduceBNe, hc, hx, h0, t4, w3, w4]
    refine sq ?_
    refine rg fun KF hKF => ?_
    refine Fo.bin rfl rfl rfl (by simp only [↓nrmL, nrmZ, Nat.reduceEqDiff, ↓reduceIte, Nat.reduceAdd, Int.reduceBEq, Int.reduceBNe, hc, hx, h0, t4, w3, w4]; rfl) ?_
    refine WpO.nil (hKF _ _ ?_)
    refine sq ?_
    refine Wp.cond (b := true) rfl ?_
    refine Wp.skip ?_
    refine sq ?_
    refine Wp.block ?_
    refine sq ?_
    refine rg fun KF hKF => ?_
    refine mI rfl ?_
    refine Fo.idx (by simp only [↓nrmL, nrmK, Nat.reduceEqDiff, ↓reduceIte]; rfl) rfl ?_ (by simp only [↓nrmL, nrmZ, Nat.reduceEqDiff, ↓reduceIte, Nat.reduceAdd, Int.reduceBEq, Int.reduceBNe, hc, hx, h0, t4, w3, w4]; rfl) ?_; (focus omega)
    refine Fo.ldB rfl ?_ (by simp only [↓nrmL, nrmZ, Nat.reduceEqDiff, ↓reduceIte, Nat.reduceAdd, Int.reduceBEq, Int.reduceBNe, hc, hx, h0, t4, w3, w4]; rfl) ?_; (focus omega)
    refine mI rfl ?_
    refine mI rfl ?_
    refine WpO.nil (hKF _ _ ?_)
    refine sq ?_
    refine sq ?_
    refine rg fun KF hKF => ?_
    refine mI rfl ?_
    refine Fo.bin rfl rfl rfl (by simp only [↓nrmL, nrmZ, Nat.reduceEqDiff, ↓reduceIte, Nat.reduceAdd, Int.reduceBEq, Int.reduceBNe, hc, hx, h0, t4, w3, w4]; rfl) ?_
    refine WpO.nil (hKF _ _ ?_)
    refine Wp.cond (b := false) rfl ?_
    refine rg fun KF hKF => ?_
    refine mI rfl ?_
    refine mI rfl ?_
    refine Fo.bin rfl rfl rfl rfl ?_
    refine Fo.now rfl rfl (by simp only [↓nrmL, nrmZ, Nat.reduceEqDiff, ↓reduceIte, Nat.reduceAdd, Int.reduceBEq, Int.reduceBNe, hc, hx, h0, t4, w3, w4]; rfl) ?_
    refine Fo.bin rfl rfl rfl (by simp only [↓nrmL, nrmZ, Nat.reduceEqDiff, ↓reduceIte, Nat.reduceAdd, Int.reduceBEq, Int.reduceBNe, hc, hx, h0, t4, w3, w4]; rfl) ?_
    refine Fo.bin rfl rfl rfl (by simp only [↓nrmL, nrmZ, Nat.reduceEqDiff, ↓reduceIte, Nat.reduceAdd, Int.reduceBEq, Int.reduceBNe, hc, hx, h0, t4, w3, w4]; rfl) ?_
    refine mI rfl ?_
    refine WpO.nil (hKF _ _ ?_)
    refine rg fun KF hKF => ?_
    refine Fo.mov (by simp only [↓nrmL, nrmK, Nat.reduceEqDiff, ↓reduceIte]; rfl) ?_
    refine mI rfl ?_
    refine Fo.bslice rfl (by simp only [↓nrmL, nrmZ, Nat.reduceEqDiff, ↓reduceIte, Nat.reduceAdd, Int.reduceBEq, Int.reduceBNe, hc, hx, h0, t4, w3, w4]; rfl) ?_
    refine WpO.do (WpX.growX (p := fv) (q := .slice H2.n 0 1 (some 1) 1) (k := 1) (new := [.int .i64 ((y + (3 + x.toNat % 4) : Nat) : Int)]) rfl rfl (by infer_instance) one_intsC (by decide) (by decide) (by decide) (by omega) rfl fun p' H5 ho5 hf5 hx5 => ?_)
    haveI := ho5.sl.one
    refine Fo.mov (by simp only [↓nrmL, nrmK, Nat.reduceEqDiff, ↓reduceIte]; rfl) ?_
    refine WpO.nil (hKF _ _ ?_)
    refine rg fun KF hKF => ?_
    refine Fo.bin rfl rfl rfl rfl ?_
    refine mI rfl ?_
    refine WpO.nil (hKF _ _ ?_)
    dsimp only [cond_true, cond_false]
    exact ⟨(i + 1, p', F ++ [((y + (3 + x.toNat % 4) : Nat) : Int)], y + (3 + x.toNat % 4)), by dsimp only; omega, ⟨by simp only [↓nrmL, nrmZ, Nat.reduceEqDiff, ↓reduceIte, Nat.reduceAdd, Int.reduceBEq, Int.reduceBNe]; rw [hw1], rfl, rfl, trivial⟩, hik, fin _ _ _ (fun t ht => by have := r3 t ht; omega) (by omega) ho5 hf5 hx5⟩
   ·have hi0 : i = 0 := by have := eq_of_beq h0; omega
    have hF : F = [] := List.length_eq_zero_iff.1 (by omega)
    try simp only [↓nrmL, nrmZ, Nat.reduceEqDiff, ↓reduceIte, Nat.reduceAdd, Int.reduceBEq, Int.reduceBNe, hc, hx, h0, t6]
    refine sq ?_
    refine rg fun KF hKF => ?_
    refine Fo.bin rfl rfl rfl (by simp only [↓nrmL, nrmZ, Nat.reduceEqDiff, ↓reduceIte, Nat.reduceAdd, Int.reduceBEq, Int.reduceBNe, hc, hx, h0, t6]; rfl) ?_
    refine WpO.nil (hKF _ _ ?_)
    refine sq ?_
    refine Wp.cond (b := true) rfl ?_
    refine Wp.skip ?_
    refine sq ?_
    refine Wp.block ?_
    refine sq ?_
    refine rg fun KF hKF => ?_
    refine mI rfl ?_
    refine Fo.idx (by simp only [↓nrmL, nrmK, Nat.reduceEqDiff, ↓reduceIte]; rfl) rfl ?_ (by simp only [↓nrmL, nrmZ, Nat.reduceEqDiff, ↓reduceIte, Nat.reduceAdd, Int.reduceBEq, Int.reduceBNe, hc, hx, h0, t6]; rfl) ?_; (focus omega)
    refine Fo.ldB rfl ?_ (by simp only [↓nrmL, nrmZ, Nat.reduceEqDiff, ↓reduceIte, Nat.reduceAdd, Int.reduceBEq, Int.reduceBNe, hc, hx, h0, t6]; rfl) ?_; (focus omega)
    refine mI rfl ?_
    refine mI rfl ?_
    refine WpO.nil (hKF _ _ ?_)
    refine sq ?_
    refine sq ?_
    refine rg fun KF hKF => ?_
    refine mI rfl ?_
    refine Fo.bin rfl rfl rfl (by simp only [↓nrmL, nrmZ, Nat.reduceEqDiff, ↓reduceIte, Nat.reduceAdd, Int.reduceBEq, Int.reduceBNe, hc, hx, h0, t6]; rfl) ?_
    refine WpO.nil (hKF _ _ ?_)
    refine Wp.cond (b := true) rfl ?_
    refine rg fun KF hKF => ?_
    refine mI rfl ?_
    refine Fo.bin rfl rfl rfl rfl ?_
    refine Fo.now rfl rfl (by simp only [↓nrmL, nrmZ, Nat.reduceEqDiff, ↓reduceIte, Nat.reduceAdd, Int.reduceBEq, Int.reduceBNe, hc, hx, h0, t6]; rfl) ?_
    refine mI rfl ?_
    refine WpO.nil (hKF _ _ ?_)
    refine rg fun KF hKF => ?_
    refine Fo.mov (by simp only [↓nrmL, nrmK, Nat.reduceEqDiff, ↓reduceIte]; rfl) ?_
    refine mI rfl ?_
    refine Fo.bslice rfl (by simp only [↓nrmL, nrmZ, Nat.reduceEqDiff, ↓reduceIte, Nat.reduceAdd, Int.reduceBEq, Int.reduceBNe, hc, hx, h0, t6]; rfl) ?_
    refine WpO.do (WpX.growX (p := fv) (q := .slice H2.n 0 1 (some 1) 1) (k := 1) (new := [.int .i64 ((x.toNat % 6 : Nat) : Int)]) rfl rfl (by infer_instance) one_intsC (by decide) (by decide) (by decide) (by omega) rfl fun p' H5 ho5 hf5 hx5 => ?_)
    haveI := ho5.sl.one
    refine Fo.mov (by simp only [↓nrmL, nrmK, Nat.reduceEqDiff, ↓reduceIte]; rfl) ?_
    refine WpO.nil (hKF _ _ ?_)
    refine rg fun KF hKF => ?_
    refine Fo.bin rfl rfl rfl rfl ?_
    refine mI rfl ?_
    refine WpO.nil (hKF _ _ ?_)
    dsimp only [cond_true, cond_false]
    exact ⟨(i + 1, p', F ++ [((x.toNat % 6 : Nat) : Int)], x.toNat % 6), by dsimp only; omega, ⟨by simp only [↓nrmL, nrmZ, Nat.reduceEqDiff, ↓reduceIte, Nat.reduceAdd, Int.reduceBEq, Int.reduceBNe]; rw [hw1], rfl, rfl, trivial⟩, hik, fin _ _ _ (fun t ht => by rw [hF] at ht; cases ht) (by omega) ho5 hf5 hx5⟩
 rintro ⟨fv, F, y⟩ g H2 ⟨hF12, hru⟩
 dsimp only at hF12 hru
 obtain ⟨r1, _, r3, r4, r5, r6⟩ := hru
 haveI : ExtI _ H2 := ⟨r6⟩
 haveI := r1
 haveI := r1.sl
 haveI := r1.sl.one
 simp only [updL]
 refine Wp.seqE (σ := AVal × List Int × Nat) (fun s => [(0, .int .u8 (c.toNat : Int)), (4, .ptr H.n 0), (5, .int .i64 (a : Int)), (6, s.1), (7, .int .i64 (s.2.2 : Int))]) (fun s H' => s.2.1.length ≤ 12 ∧ IntsI H' s.1 s.2.1 ∧ FreshS (H.push (.row [.int .i64 0, .int .i64 0, .nslice] true (2 * 25))) s.1 ∧ (∀ t ∈ s.2.1, 0 ≤ t ∧ t ≤ (s.2.2 : Int)) ∧ s.2.2 ≤ 77 ∧ Ext H2 H') ?_ ?_
 rotate_left
 ·cases h0 : (((F.length : Nat) : Int) == 0)
  ·skip
   try simp only [↓nrmL, nrmZ, Nat.reduceEqDiff, ↓reduceIte, Nat.reduceAdd, Int.reduceBEq, Int.reduceBNe, h0]
   refine sq ?_
   refine rg fun KF hKF => ?_
   refine Fo.mov (by simp only [↓nrmL, nrmK, Nat.reduceEqDiff, ↓reduceIte]; rfl) ?_
   refine Fo.len (v := ?_) (by simp only [↓nrmL, nrmK, Nat.reduceEqDiff, ↓reduceIte]; rfl) ?hv ?_; case hv => rfl
   refine Fo.bin rfl rfl rfl (by simp only [↓nrmL, nrmZ, Nat.reduceEqDiff, ↓reduceIte, Nat.reduceAdd, Int.reduceBEq, Int.reduceBNe, h0]; rfl) ?_
   refine WpO.nil (hKF _ _ ?_)
   refine Wp.cond (b := false) rfl ?_
   refine Wp.skip ?_
   dsimp only [cond_true, cond_false]
   exact ⟨(fv, F, y), ⟨rfl, rfl, rfl, rfl, rfl, trivial⟩, hF12, r1.sl, r5, r3, by dsimp only; omega, Ext0.ext⟩
  ·skip
   try simp only [↓nrmL, nrmZ, Nat.reduceEqDiff, ↓reduceIte, Nat.reduceAdd, Int.reduceBEq, Int.reduceBNe, h0]
   refine sq ?_
   refine rg fun KF hKF => ?_
   refine Fo.mov (by simp only [↓nrmL, nrmK, Nat.reduceEqDiff, ↓reduceIte]; rfl) ?_
   refine Fo.len (v := ?_) (by simp only [↓nrmL, nrmK, Nat.reduceEqDiff, ↓reduceIte]; rfl) ?hv ?_; case hv => rfl
   refine Fo.bin rfl rfl rfl (by simp only [↓nrmL, nrmZ, Nat.reduceEqDiff, ↓reduceIte, Nat.reduceAdd, Int.reduceBEq, Int.reduceBNe, h0]; rfl) ?_
   refine WpO.nil (hKF _ _ ?_)
   refine Wp.cond (b := true) rfl ?_
   refine sq ?_
   refine rg fun KF hKF => ?_
   refine Fo.bslice rfl (by simp only [↓nrmL, nrmZ, Nat.reduceEqDiff, ↓reduceIte, Nat.reduceAdd, Int.reduceBEq, Int.reduceBNe, h0]; rfl) ?_
   refine Fo.mov (by simp only [↓nrmL, nrmK, Nat.reduceEqDiff, ↓reduceIte]; rfl) ?_
   refine WpO.nil (hKF _ _ ?_)
   refine rg fun KF hKF => ?_
   refine mI rfl ?_
   refine WpO.nil (hKF _ _ ?_)
   dsimp only [cond_true, cond_false]
   refine ⟨(.slice H2.n 0 1 (some 1) 1, [2], 2), ⟨rfl, rfl, rfl, rfl, rfl, trivial⟩, Nat.le_of_ble_eq_true rfl, one_ints, ⟨fun r off len cap sz q => by cases q; exact r6.n⟩, fun t ht => ?_, Nat.le_of_ble_eq_true rfl, Ext0.ext⟩
   rw [List.mem_singleton.1 ht]
   exact ⟨(Int.natCast_nonneg 2 : (0 : Int) ≤ ((2 : Nat) : Int)), Int.le_refl 2⟩
 rintro ⟨fz, Fz, yz⟩ g2 H3 ⟨hF12, i1, f1, f2, f3, x3⟩
 dsimp only at hF12 i1 f1 f2 f3
 clear r1 r3 r4 r5
 haveI : ExtI H2 H3 := ⟨x3⟩
 haveI := i1
 haveI := i1.one
 simp only [updL]
 have t6 : IntKind.i64.wrap (((c.toNat : Nat) : Int)) = ((c.toNat : Nat) : Int) := wu8 c
 have t7 : ((c.toNat : Nat) : Int).tmod 6 = ((c.toNat % 6 : Nat) : Int) := rfl
 have hc6 := Nat.mod_lt c.toNat (show 0 < 6 by decide)
 obtain ⟨b, hb⟩ : ∃ b, yz + 2 + c.toNat % 6 = b := ⟨_, rfl⟩
 have w2 : IntKind.i64.wrap ((yz : Int) + 2) = ((yz + 2 : Nat) : Int) := by rw [w64 (by omega)]; omega
 have w3 : IntKind.i64.wrap (((yz + 2 : Nat) : Int) + ((c.toNat % 6 : Nat) : Int)) = (b : Int) := by rw [← hb]; exact wa (by omega)
 have hab : a * b ≤ 160 * 84 := Nat.mul_le_mul (by omega) (by omega)
 have w4 : IntKind.i64.wrap ((a : Int) * (b : Int)) = ((a * b : Nat) : Int) := wm (by omega)
 try simp only [↓nrmL, nrmZ, Nat.reduceEqDiff, ↓reduceIte, Nat.reduceAdd, Int.reduceBEq, Int.reduceBNe, t6, t7, w2, w3, w4]
 refine sq ?_
 refine rg fun KF hKF => ?_
 refine mI rfl ?_
 refine mI rfl ?_
 refine Fo.bin rfl rfl rfl (by simp only [↓nrmL, nrmZ, Nat.reduceEqDiff, ↓reduceIte, Nat.reduceAdd, Int.reduceBEq, Int.reduceBNe, t6, t7, w2, w3, w4]; rfl) ?_
 refine mI rfl ?_
 refine Fo.now rfl rfl (by simp only [↓nrmL, nrmZ, Nat.reduceEqDiff, ↓reduceIte, Nat.reduceAdd, Int.reduceBEq, Int.reduceBNe, t6, t7, w2, w3, w4]; rfl) ?_
 refine Fo.bin rfl rfl rfl (by simp only [↓nrmL, nrmZ, Nat.reduceEqDiff, ↓reduceIte, Nat.reduceAdd, Int.reduceBEq, Int.reduceBNe, t6, t7, w2, w3, w4]; rfl) ?_
 refine Fo.bin rfl rfl rfl (by simp only [↓nrmL, nrmZ, Nat.reduceEqDiff, ↓reduceIte, Nat.reduceAdd, Int.reduceBEq, Int.reduceBNe, t6, t7, w2, w3, w4]; rfl) ?_
 refine mI rfl ?_
 refine mI rfl ?_
 refine Fo.bin rfl rfl rfl (by simp only [↓nrmL, nrmZ, Nat.reduceEqDiff, ↓reduceIte, Nat.reduceAdd, Int.reduceBEq, Int.reduceBNe, t6, t7, w2, w3, w4]; rfl) ?_
 refine mI rfl ?_
 refine Fo.now rfl rfl (by simp only [↓nrmL, nrmZ, Nat.reduceEqDiff, ↓reduceIte, Nat.reduceAdd, Int.reduceBEq, Int.reduceBNe, t6, t7, w2, w3, w4]; rfl) ?_
 refine Fo.bin rfl rfl rfl (by simp only [↓nrmL, nrmZ, Nat.reduceEqDiff, ↓reduceIte, Nat.reduceAdd, Int.reduceBEq, Int.reduceBNe, t6, t7, w2, w3, w4]; rfl) ?_
 refine Fo.bin rfl rfl rfl (by simp only [↓nrmL, nrmZ, Nat.reduceEqDiff, ↓reduceIte, Nat.reduceAdd, Int.reduceBEq, Int.reduceBNe, t6, t7, w2, w3, w4]; rfl) ?_
 refine Fo.bin rfl rfl rfl (by simp only [↓nrmL, nrmZ, Nat.reduceEqDiff, ↓reduceIte, Nat.reduceAdd, Int.reduceBEq, Int.reduceBNe, t6, t7, w2, w3, w4]; rfl) ?_
 refine WpO.do (WpX.mkB rfl rfl rfl (by omega) fun q H4 e1 hq hf hw' hx => ?_); try simp only [↓nrmL, nrmZ, Nat.reduceEqDiff, ↓reduceIte, Nat.reduceAdd, Int.reduceBEq, Int.reduceBNe]
 haveI := hq.one
 refine Fo.build (by repeat (first | refine aFill1 (by first | exact (rfl : _ = AVal.int _ _) | exact (rfl : _ = AVal.ptr _ _) | exact (rfl : _ = AVal.bool _) | exact (rfl : _ = AVal.agg _) | exact (rfl : _ = AVal.tuple _) | exact (rfl : _ = AVal.func _ _ _) | exact (rfl : _ = AVal.nslice) | ((try simp only [↓nrmL, nrmK, Nat.reduceEqDiff, ↓reduceIte]); rfl)) rfl ?_ | rfl)) (by simp only [↓nrmL, nrmZ, Nat.reduceEqDiff, ↓reduceIte, Nat.reduceAdd, Int.reduceBEq, Int.reduceBNe]; rfl) ?_
 refine Fo.new ?_
 refine Fo.st rfl (rfl : _ = AVal.agg _) rfl rfl rfl (by repeat (first | rfl | refine allOne_cons ?_)) (by simp only [↓nrmL, nrmZ, Nat.reduceEqDiff, ↓reduceIte, Nat.reduceAdd, Int.reduceBEq, Int.reduceBNe]; rfl) ?_
 refine WpO.nil (hKF _ _ ?_)
 refine sq ?_
 refine sq ?_
 refine rg fun KF hKF => ?_
 refine Fo.mov (by simp only [↓nrmL, nrmK, Nat.reduceEqDiff, ↓reduceIte]; rfl) ?_
 refine Fo.len (v := ?_) (by simp only [↓nrmL, nrmK, Nat.reduceEqDiff, ↓reduceIte]; rfl) ?hv ?_; case hv => rfl
 refine mI rfl ?_
 refine WpO.nil (hKF _ _ ?_)
 refine Wp.block ?_
 dsimp only [cond_true, cond_false]
 refine Wp.loopS (σ := Nat × List UInt8) [12, 13, 68, 69, 70, 71, 72, 73, 74, 75, 76, 77, 78, 79, 80, 81, 82, 83, 84, 85] (fun s => [(68, .int .i64 (s.1 : Int))]) (fun H5 s H6 => s.1 ≤ Fz.length ∧ s.2.length = a * b ∧ pxOk s.2 = true ∧ BytesI H6 q s.2 ∧ WrS H6 q ∧ ExtP0 H5 H6 q) (fun s => Fz.length - s.1) (0, List.replicate (a * b) 0) rfl (fun _ => rfl) ⟨rfl, trivial⟩ ⟨Nat.zero_le _, List.length_replicate, pxOk_rep _, inferInstance, inferInstance, inferInstance⟩ (by unfold fuel0 at hn; dsimp only; omega) ?_
 rintro ⟨i, M⟩ g3 H6 ⟨hi, hM, hpx, hb6, hw6, ⟨hx6⟩⟩
 dsimp only at hi hM hpx hb6
 simp only [↓nrmL, nrmZ, Nat.reduceEqDiff, ↓reduceIte, Nat.reduceAdd, Int.reduceBEq, Int.reduceBNe]
 cases hc1 : decide ((i : Int) < ((Fz.length : Nat) : Int))
 ·skip
  try simp only [↓nrmL, nrmZ, Nat.reduceEqDiff, ↓reduceIte, Nat.reduceAdd, Int.reduceBEq, Int.reduceBNe, hc1]
  refine sq ?_
  refine rg fun KF hKF => ?_
  refine Fo.bin rfl rfl rfl (by simp only [↓nrmL, nrmZ, Nat.reduceEqDiff, ↓reduceIte, Nat.reduceAdd, Int.reduceBEq, Int.reduceBNe, hc1]; rfl) ?_
  refine WpO.nil (hKF _ _ ?_)
  refine sq ?_
  refine Wp.cond (b := false) rfl ?_
  refine Wp.exit ?_
  refine sq ?_
  refine rg fun KF hKF => ?_
  refine Fo.ldN rfl rfl (by simp only [↓nrmL, nrmZ, Nat.reduceEqDiff, ↓reduceIte, Nat.reduceAdd, Int.reduceBEq, Int.reduceBNe, hc1]; rfl) ?_
  refine Fo.st rfl (rfl : _ = AVal.agg _) rfl rfl rfl (by repeat (first | rfl | refine allOne_cons ?_)) (by simp only [↓nrmL, nrmZ, Nat.reduceEqDiff, ↓reduceIte, Nat.reduceAdd, Int.reduceBEq, Int.reduceBNe, hc1]; rfl) ?_
  refine WpO.nil (hKF _ _ ?_)
  refine Wp.ret ?_
  dsimp only [cond_true, cond_false]
  refine ⟨trivial, _, (by first | rfl | exact getAllC rfl rfl rfl rfl | exact getAllT rfl (getAllC rfl rfl rfl rfl) | exact getAllC rfl rfl rfl (getAllC rfl rfl rfl rfl) | exact getAllC1 rfl rfl rfl), ?_⟩
  exact ⟨a, b, M, by omega, by omega, by omega, by omega, ⟨by omega, by omega, hM, hpx⟩, q, rfl, (show BytesI _ q M from inferInstance), hf.weak, inferInstance, Ext0.ext⟩
 have hil : i < Fz.length := by have := of_decide_eq_true hc1; omega
 have hw1 := wa1 (a := i) (by omega)
 obtain ⟨z, hz⟩ : ∃ z : Nat, Fz[i] = (z : Int) := ⟨Fz[i].toNat, by have := (f2 _ (List.getElem_mem hil)).1; omega⟩
 have hzy : z ≤ yz := by have := (f2 _ (List.getElem_mem hil)).2; omega
 have hza : z * a ≤ 77 * 160 := Nat.mul_le_mul (by omega) (by omega)
 have m1 : IntKind.i64.wrap ((z : Int) * (a : Int)) = ((z * a : Nat) : Int) := wm (by omega)
 try simp only [↓nrmL, nrmZ, Nat.reduceEqDiff, ↓reduceIte, Nat.reduceAdd, Int.reduceBEq, Int.reduceBNe, hc1, hz]
 refine sq ?_
 refine rg fun KF hKF => ?_
 refine Fo.bin rfl rfl rfl (by simp only [↓nrmL, nrmZ, Nat.reduceEqDiff, ↓reduceIte, Nat.reduceAdd, Int.reduceBEq, Int.reduceBNe, hc1, hz]; rfl) ?_
 refine WpO.nil (hKF _ _ ?_)
 refine sq ?_
 refine Wp.cond (b := true) rfl ?_
 refine Wp.skip ?_
 refine sq ?_
 refine Wp.block ?_
 refine sq ?_
 refine rg fun KF hKF => ?_
 refine Fo.idx (by simp only [↓nrmL, nrmK, Nat.reduceEqDiff, ↓reduceIte]; rfl) rfl ?_ (by simp only [↓nrmL, nrmZ, Nat.reduceEqDiff, ↓reduceIte, Nat.reduceAdd, Int.reduceBEq, Int.reduceBNe, hc1, hz]; rfl) ?_; (focus omega)
 refine Fo.ldI rfl ?_ (by simp only [↓nrmL, nrmZ, Nat.reduceEqDiff, ↓reduceIte, Nat.reduceAdd, Int.reduceBEq, Int.reduceBNe, hc1, hz]; rfl) ?_; (focus omega)
 refine mI rfl ?_
 refine WpO.nil (hKF _ _ ?_)
 refine sq ?_
 refine rg fun KF hKF => ?_
 refine mI rfl ?_
 refine mI rfl ?_
 refine WpO.nil (hKF _ _ ?_)
 refine Wp.block ?_
 dsimp only [cond_true, cond_false]
 refine Wp.loopS (σ := Nat × List UInt8) [13, 73, 74, 75, 76, 77, 78, 79, 80, 81, 82, 83, 84] (fun s => [(73, .int .i64 (s.1 : Int))]) (fun H5 s H7 => s.1 ≤ a ∧ s.2.length = a * b ∧ pxOk s.2 = true ∧ BytesI H7 q s.2 ∧ WrS H7 q ∧ ExtP0 H5 H7 q) (fun s => a - s.1) (0, M) rfl (fun _ => rfl) ⟨rfl, trivial⟩ ⟨Nat.zero_le _, hM, hpx, inferInstance, inferInstance, inferInstance⟩ (by unfold fuel0 at hn; dsimp only; omega) ?_
 rintro ⟨x, M2⟩ g4 H7 ⟨hx0, hM2, hpx2, hb7, hw7, ⟨hx7⟩⟩
 dsimp only at hx0 hM2 hpx2 hb7
 simp only [↓nrmL, nrmZ, Nat.reduceEqDiff, ↓reduceIte, Nat.reduceAdd, Int.reduceBEq, Int.reduceBNe]
 cases hcx : decide ((x : Int) < (a : Int))
 ·skip
  try simp only [↓nrmL, nrmZ, Nat.reduceEqDiff, ↓reduceIte, Nat.reduceAdd, Int.reduceBEq, Int.reduceBNe, hcx]
  refine sq ?_
  refine rg fun KF hKF => ?_
  refine Fo.bin rfl rfl rfl (by simp only [↓nrmL, nrmZ, Nat.reduceEqDiff, ↓reduceIte, Nat.reduceAdd, Int.reduceBEq, Int.reduceBNe, hcx]; rfl) ?_
  refine WpO.nil (hKF _ _ ?_)
  refine sq ?_
  refine Wp.cond (b := false) rfl ?_
  refine Wp.exit ?_
  refine rg fun KF hKF => ?_
  refine Fo.bin rfl rfl rfl rfl ?_
  refine mI rfl ?_
  refine WpO.nil (hKF _ _ ?_)
  dsimp only [cond_true, cond_false]
  exact ⟨(i + 1, M2), by dsimp only; omega, ⟨by simp only [↓nrmL, nrmZ, Nat.reduceEqDiff, ↓reduceIte, Nat.reduceAdd, Int.reduceBEq, Int.reduceBNe]; rw [hw1], trivial⟩, hil, hM2, hpx2, inferInstance, inferInstance, inferInstance⟩
 ·have hxa : x < a := by have := of_decide_eq_true hcx; omega
  have hw1' := wa1 (a := x) (by omega)
  have m2 : IntKind.i64.wrap (((z * a : Nat) : Int) + (x : Int)) = ((z * a + x : Nat) : Int) := wa (by omega)
  have hlt : z * a + x < a * b := idx_lt hxa (by omega)
  try simp only [↓nrmL, nrmZ, Nat.reduceEqDiff, ↓reduceIte, Nat.reduceAdd, Int.reduceBEq, Int.reduceBNe, hcx, m1, m2]
  refine sq ?_
  refine rg fun KF hKF => ?_
  refine Fo.bin rfl rfl rfl (by simp only [↓nrmL, nrmZ, Nat.reduceEqDiff, ↓reduceIte, Nat.reduceAdd, Int.reduceBEq, Int.reduceBNe, hcx, m1, m2]; rfl) ?_
  refine WpO.nil (hKF _ _ ?_)
  refine sq ?_
  refine Wp.cond (b := true) rfl ?_
  refine Wp.skip ?_
  refine sq ?_
  refine Wp.block ?_
  refine sq ?_
  refine rg fun KF hKF => ?_
  refine mI rfl ?_
  refine mI rfl ?_
  refine WpO.nil (hKF _ _ ?_)
  refine rg fun KF hKF => ?_
  refine Fo.fa rfl ?_
  refine Fo.ld rfl rfl ?_
  refine mI rfl ?_
  refine mI rfl ?_
  refine Fo.bin rfl rfl rfl (by simp only [↓nrmL, nrmZ, Nat.reduceEqDiff, ↓reduceIte, Nat.reduceAdd, Int.reduceBEq, Int.reduceBNe, hcx, m1, m2]; rfl) ?_
  refine mI rfl ?_
  refine Fo.bin rfl rfl rfl (by simp only [↓nrmL, nrmZ, Nat.reduceEqDiff, ↓reduceIte, Nat.reduceAdd, Int.reduceBEq, Int.reduceBNe, hcx, m1, m2]; rfl) ?_
  refine Fo.idx (by simp only [↓nrmL, nrmK, Nat.reduceEqDiff, ↓reduceIte]; rfl) rfl ?_ (by simp only [↓nrmL, nrmZ, Nat.reduceEqDiff, ↓reduceIte, Nat.reduceAdd, Int.reduceBEq, Int.reduceBNe, hcx, m1, m2]; rfl) ?_; (focus omega)
  refine WpO.do' (WpX.stB (p := q) (j := z * a + x) (l := M2) 1 rfl rfl rfl (by omega) fun H8 hb8 hw8 hx8 => ?_)
  haveI := hx8
  refine WpO.nil (hKF _ _ ?_)
  refine rg fun KF hKF => ?_
  refine Fo.bin rfl rfl rfl rfl ?_
  refine mI rfl ?_
  refine WpO.nil (hKF _ _ ?_)
  dsimp only [cond_true, cond_false]
  exact ⟨(x + 1, M2.set (z * a + x) 1), by dsimp only; omega, ⟨by simp only [↓nrmL, nrmZ, Nat.reduceEqDiff, ↓reduceIte, Nat.reduceAdd, Int.reduceBEq, Int.reduceBNe]; rw [hw1'], trivial⟩, hxa, by dsimp only; rw [List.length_set]; exact hM2, pxOk_set hpx2 (Or.inr rfl), hb8, hw8, inferInstance⟩
end Go.Am

set_option maxHeartbeats 8000000
set_option maxRecDepth 100000
set_option synthInstance.maxHeartbeats 4000000
set_option synthInstance.maxSize 1000000000
namespace Go.Am
open Go
attribute [local irreducible] Wp WpO WpX WpE
theorem gr_zero (w : Nat) : ∀ i, grN w 0 i = 0 := by
 intro i
 induction i with
 | zero => rfl
 | succ i ih => simp [grN, ih, drop_zero]
theorem u16_take {H : AHeap} {p : AVal} {ch : List Nat} {k : Nat} (h : SliceAt H p 1 k ((cellsU ch).take k)) (hk : k ≤ ch.length) : U16I H p (ch.take k) := by
 rw [cellsU_take] at h
 unfold U16I
 rw [show (ch.take k).length = k by rw [List.length_take]; omega]
 exact h
theorem fw_nonneg (g : Img) (k : Int) : 0 ≤ (fwS g k).1 := by
 unfold fwS
 cases (unskewS g k).2 == 0
 ·exact Int.le_refl 0
 ·simp only [cond_true, fullS]
  cases ((unskewS g k).1.err == 0)
  ·exact Int.le_refl 0
  ·exact Int.natCast_nonneg _
theorem px_bit {M : List UInt8} (h : pxOk M = true) {j : Nat} (hj : j < M.length) : ((M[j].toNat : Nat) : Int) = 0 ∨ ((M[j].toNat : Nat) : Int) = 1 := by
 have := List.all_eq_true.1 h M[j] (List.getElem_mem hj)
 rcases Bool.or_eq_true_iff.1 this with q | q
 ·rw [eq_of_beq q]; exact Or.inl rfl
 ·rw [eq_of_beq q]; exact Or.inr rfl
theorem K_CleanStraight {c u : UInt8} {p p2 : AVal} {H : AHeap} {rows : List UInt8} {ch : List Nat} [hp : BytesI H p rows] [hc0 : U16I H p2 ch] (hm : ∀ n ∈ ch, n < 65536) : Con ext prog 14 6 [.int .u8 (c.toNat : Int), p, p2, .int .u8 (u.toNat : Int)] H fun v H' => v = .bool true ∧ Ext H H' := by
 refine con_of (show prog 6 = some c6 from rfl) rfl rfl fun n hn => ?_
 haveI := hp.one
 haveI := hc0.one
 refine sq ?_
 refine rg fun KF hKF => ?_
 refine mB rfl ?_
 refine WpO.nil (hKF _ _ ?_)
 refine sq ?_
 refine rg fun KF hKF => ?_
 refine mI rfl ?_
 refine Fo.mov (by simp only [↓nrmL, nrmK, Nat.reduceEqDiff, ↓reduceIte]; rfl) ?_
 refine WpO.do (WpX.conD hn rfl rfl (by simp only [↓nrmL, nrmZ, Nat.reduceEqDiff, ↓reduceIte, Nat.reduceAdd, Int.reduceBEq, Int.reduceBNe, List.map] <;> rfl) (K_Ruled (c := c) (rows := rows)) fun v H1 h5 => ?_)
 obtain ⟨a, b, l, ha1, ha2, hb1, hb2, ok, q, e1, hq, hf, hw, hx⟩ := h5
 subst e1
 try dsimp only at hq
 haveI : ExtI _ H1 := ⟨hx⟩
 haveI := hq.one
 obtain ⟨k, hk⟩ : ∃ k, min ch.length 60 = k := ⟨_, rfl⟩
 have hmn : (if (60 : Int) < ((ch.length : Nat) : Int) then 60 else ((ch.length : Nat) : Int)) = (k : Int) := by rw [← hk]; exact min_nat (b := 60)
 haveI : RowNe q H1.n := ⟨fun r off len cap sz e => by have := hq.lt e; omega⟩
 try simp only [↓nrmL, nrmZ, Nat.reduceEqDiff, ↓reduceIte, Nat.reduceAdd, Int.reduceBEq, Int.reduceBNe, hmn]
 refine Fo.new ?_
 refine Fo.st rfl (rfl : _ = AVal.agg _) rfl rfl rfl (by repeat (first | rfl | refine allOne_cons ?_)) (by simp only [↓nrmL, nrmZ, Nat.reduceEqDiff, ↓reduceIte, Nat.reduceAdd, Int.reduceBEq, Int.reduceBNe, hmn]; rfl) ?_
 refine WpO.nil (hKF _ _ ?_)
 refine sq ?_
 refine sq ?_
 refine rg fun KF hKF => ?_
 refine Fo.mov (by simp only [↓nrmL, nrmK, Nat.reduceEqDiff, ↓reduceIte]; rfl) ?_
 refine Fo.mov (by simp only [↓nrmL, nrmK, Nat.reduceEqDiff, ↓reduceIte]; rfl) ?_
 refine Fo.len (v := ?_) (by simp only [↓nrmL, nrmK, Nat.reduceEqDiff, ↓reduceIte]; rfl) ?hv ?_; case hv => rfl
 refine Fo.now rfl rfl (by simp only [↓nrmL, nrmZ, Nat.reduceEqDiff, ↓reduceIte, Nat.reduceAdd, Int.reduceBEq, Int.reduceBNe, hmn]; rfl) ?_
 refine Fo.pre (p := p2) (b := k) rfl rfl (by omega) fun pv hpv hone hsub => ?_
 haveI := u16_take hpv (by omega)
 clear hpv
 haveI := hone
 haveI : SepS pv q := ⟨fun r off len cap sz r' off' len' cap' sz' e e' => by
  obtain ⟨_, _, _, _, e2⟩ := hsub _ _ _ _ _ e
  have := hc0.lt e2
  have := hf.ge _ _ _ _ _ e'
  omega⟩
 have hkl : (ch.take k).length = k := by rw [List.length_take]; omega
 have hll := ok.len
 have hab1 : 65 * 2 ≤ a * b := Nat.mul_le_mul ha1 hb1
 have hab : a * b ≤ 160 * 100 := Nat.mul_le_mul ha2 hb2
 refine Fo.len (v := ?_) (by simp only [↓nrmL, nrmK, Nat.reduceEqDiff, ↓reduceIte]; rfl) ?hv ?_; case hv => rfl
 refine mI rfl ?_
 refine WpO.nil (hKF _ _ ?_)
 refine Wp.block ?_
 dsimp only [cond_true, cond_false]
 refine Wp.loopS (σ := Nat × List UInt8) [11, 35, 36, 37, 38, 39, 40, 41, 42, 43, 44, 45, 46, 47, 48, 49, 50, 51] (fun s => [(35, .int .i64 (s.1 : Int))]) (fun H3 s H2 => s.1 ≤ k ∧ s.2.length = a * b ∧ pxOk s.2 = true ∧ BytesI H2 q s.2 ∧ WrS H2 q ∧ ExtP0 H3 H2 q) (fun s => k - s.1) (0, l) rfl (fun _ => rfl) ⟨rfl, trivial⟩ ⟨Nat.zero_le _, ok.len, ok.px, inferInstance, inferInstance, inferInstance⟩ (by unfold fuel0 at hn; dsimp only; omega) ?_
 rintro ⟨i, M⟩ g H2 ⟨hi, hM, hpx, hbm, hwm, ⟨hx2⟩⟩
 dsimp only at hi hM hpx hbm
 simp only [↓nrmL, nrmZ, Nat.reduceEqDiff, ↓reduceIte, Nat.reduceAdd, Int.reduceBEq, Int.reduceBNe]
 cases hc : decide ((i : Int) < (((ch.take k).length : Nat) : Int))
 rotate_left
 ·have hil : i < (ch.take k).length := by have := of_decide_eq_true hc; omega
  have hw1 := wa1 (a := i) (by omega)
  obtain ⟨x, hxe⟩ : ∃ x, (ch.take k)[i] = x := ⟨_, rfl⟩
  have hxl : x < 65536 := by rw [← hxe]; exact hm _ (List.mem_of_mem_take (List.getElem_mem hil))
  have c1 : IntKind.i64.wrap (x : Int) = (x : Int) := w64 (by omega)
  obtain ⟨m0, M', rfl⟩ : ∃ m0 M', M = m0 :: M' := by
   cases M with
   | nil => simp at hM; omega
   | cons m0 M' => exact ⟨m0, M', rfl⟩
  have hlt : x % (m0 :: M').length < (m0 :: M').length := Nat.mod_lt _ (Nat.succ_pos _)
  have t1 : ((x : Nat) : Int).tmod (((m0 :: M').length : Nat) : Int) = ((x % (m0 :: M').length : Nat) : Int) := rfl
  try simp only [↓nrmL, nrmZ, Nat.reduceEqDiff, ↓reduceIte, Nat.reduceAdd, Int.reduceBEq, Int.reduceBNe, hc]
  refine sq ?_
  refine rg fun KF hKF => ?_
  refine Fo.bin rfl rfl rfl (by simp only [↓nrmL, nrmZ, Nat.reduceEqDiff, ↓reduceIte, Nat.reduceAdd, Int.reduceBEq, Int.reduceBNe, hc]; rfl) ?_
  refine WpO.nil (hKF _ _ ?_)
  refine sq ?_
  refine Wp.cond (b := true) rfl ?_
  refine Wp.skip ?_
  refine sq ?_
  refine Wp.block ?_
  refine sq ?_
  refine rg fun KF hKF => ?_
  refine Fo.idx (by simp only [↓nrmL, nrmK, Nat.reduceEqDiff, ↓reduceIte]; rfl) rfl ?_ (by simp only [↓nrmL, nrmZ, Nat.reduceEqDiff, ↓reduceIte, Nat.reduceAdd, Int.reduceBEq, Int.reduceBNe, hc]; rfl) ?_; (focus omega)
  refine WpO.do (WpX.ldP (p := pv) (j := i) (v := .int .u16 (((ch.take k)[i] : Nat) : Int)) rfl (cellsU_get hil) ?_)
  try simp only [↓nrmL, nrmZ, Nat.reduceEqDiff, ↓reduceIte, Nat.reduceAdd, Int.reduceBEq, Int.reduceBNe, hxe]
  refine mI rfl ?_
  refine WpO.nil (hKF _ _ ?_)
  dsimp only [cond_true, cond_false]
  rcases px_bit hpx hlt with hv | hv
  ·refine Fr.dregion0 rfl fun KF hKF => ?_
   try simp only [↓nrmL, nrmZ, Nat.reduceEqDiff, ↓reduceIte, Nat.reduceAdd, Int.reduceBEq, Int.reduceBNe, c1, t1, hv]
   refine Fe.pure rfl rfl (by simp only [↓nrmL, nrmZ, Nat.reduceEqDiff, ↓reduceIte, Nat.reduceAdd, Int.reduceBEq, Int.reduceBNe, c1, t1, hv]; rfl) ?_
   refine Fe.read rfl (exec_ld rfl rfl) rfl (by repeat (first | exact trivial | refine ⟨(by first | exact Or.inl (by dsimp only; decide) | exact Or.inr (exec_ld rfl rfl) | exact Or.inr (exec_ld rfl (by assumption)) | exact Or.inr (exec_ldN rfl rfl rfl) | exact Or.inr (exec_ldB rfl (by omega)) | exact Or.inr (exec_ldI rfl (by omega)) | exact Or.inr ghost_of), ?_⟩)) ?_
   refine Fe.pure rfl rfl (by simp only [↓nrmL, nrmZ, Nat.reduceEqDiff, ↓reduceIte, Nat.reduceAdd, Int.reduceBEq, Int.reduceBNe, c1, t1, hv]; rfl) ?_
   refine Fe.pure rfl rfl (by simp only [↓nrmL, nrmZ, Nat.reduceEqDiff, ↓reduceIte, Nat.reduceAdd, Int.reduceBEq, Int.reduceBNe, c1, t1, hv]; rfl) ?_
   refine Fe.pure rfl rfl (by simp only [↓nrmL, nrmZ, Nat.reduceEqDiff, ↓reduceIte, Nat.reduceAdd, Int.reduceBEq, Int.reduceBNe, c1, t1, hv]; rfl) ?_
   refine Fe.read rfl (exec_ld rfl rfl) rfl (by repeat (first | exact trivial | refine ⟨(by first | exact Or.inl (by dsimp only; decide) | exact Or.inr (exec_ld rfl rfl) | exact Or.inr (exec_ld rfl (by assumption)) | exact Or.inr (exec_ldN rfl rfl rfl) | exact Or.inr (exec_ldB rfl (by omega)) | exact Or.inr (exec_ldI rfl (by omega)) | exact Or.inr ghost_of), ?_⟩)) ?_
   refine Fe.pure rfl (exec_lenP (by (try simp only [↓nrmL, nrmZ, Nat.reduceEqDiff, ↓reduceIte, Nat.reduceAdd, Int.reduceBEq, Int.reduceBNe, c1, t1, hv]); rfl)) rfl ?_
   refine Fe.pure rfl rfl (by simp only [↓nrmL, nrmZ, Nat.reduceEqDiff, ↓reduceIte, Nat.reduceAdd, Int.reduceBEq, Int.reduceBNe, c1, t1, hv]; rfl) ?_
   refine Fe.pure rfl (exec_idxP (by (try simp only [↓nrmL, nrmZ, Nat.reduceEqDiff, ↓reduceIte, Nat.reduceAdd, Int.reduceBEq, Int.reduceBNe, c1, t1, hv]); rfl) rfl ?_) (by simp only [↓nrmL, nrmZ, Nat.reduceEqDiff, ↓reduceIte, Nat.reduceAdd, Int.reduceBEq, Int.reduceBNe, c1, t1, hv]; rfl) ?_; (focus omega)
   refine Fe.read rfl (exec_ldB rfl (by omega)) (by simp only [↓nrmL, nrmZ, Nat.reduceEqDiff, ↓reduceIte, Nat.reduceAdd, Int.reduceBEq, Int.reduceBNe, c1, t1, hv]; rfl) (by repeat (first | exact trivial | refine ⟨(by first | exact Or.inl (by dsimp only; decide) | exact Or.inr (exec_ld rfl rfl) | exact Or.inr (exec_ld rfl (by assumption)) | exact Or.inr (exec_ldN rfl rfl rfl) | exact Or.inr (exec_ldB rfl (by omega)) | exact Or.inr (exec_ldI rfl (by omega)) | exact Or.inr ghost_of), ?_⟩)) ?_
   refine Fe.pure rfl rfl rfl ?_
   refine Fe.pure rfl (exec_idxP (by (try simp only [↓nrmL, nrmZ, Nat.reduceEqDiff, ↓reduceIte, Nat.reduceAdd, Int.reduceBEq, Int.reduceBNe, c1, t1, hv]); rfl) rfl ?_) (by simp only [↓nrmL, nrmZ, Nat.reduceEqDiff, ↓reduceIte, Nat.reduceAdd, Int.reduceBEq, Int.reduceBNe, c1, t1, hv]; rfl) ?_; (focus omega)
   refine WpE.stB 1 rfl rfl rfl rfl hlt fun H8 hb8 hw8 hx8 => ⟨(by repeat (first | exact trivial | refine ⟨(by first | exact Or.inl (by dsimp only; decide) | exact Or.inr (readOk_of (exec_ld rfl rfl)) | exact Or.inr (readOk_of (exec_ld rfl (by assumption))) | exact Or.inr (readOk_of (exec_ldN rfl rfl rfl)) | exact Or.inr (readOk_of (exec_ldB rfl (by omega))) | exact Or.inr (readOk_of (exec_ldI rfl (by omega))) | exact Or.inr (made_of rfl)), ?_⟩)), ?_⟩
   refine WpE.nil (hKF _ _ ?_)
   refine rg fun KF hKF => ?_
   refine Fo.bin rfl rfl rfl rfl ?_
   refine mI rfl ?_
   refine WpO.nil (hKF _ _ ?_)
   dsimp only [cond_true, cond_false]
   exact ⟨(i + 1, (m0 :: M').set (x % (m0 :: M').length) 1), by dsimp only; omega, ⟨by simp only [↓nrmL, nrmZ, Nat.reduceEqDiff, ↓reduceIte, Nat.reduceAdd, Int.reduceBEq, Int.reduceBNe]; rw [hw1], trivial⟩, by dsimp only; omega, by dsimp only; rw [List.length_set]; exact hM, pxOk_set hpx (Or.inr rfl), hb8, hw8, inferInstance⟩
  ·refine Fr.dregion0 rfl fun KF hKF => ?_
   try simp only [↓nrmL, nrmZ, Nat.reduceEqDiff, ↓reduceIte, Nat.reduceAdd, Int.reduceBEq, Int.reduceBNe, c1, t1, hv]
   refine Fe.pure rfl rfl (by simp only [↓nrmL, nrmZ, Nat.reduceEqDiff, ↓reduceIte, Nat.reduceAdd, Int.reduceBEq, Int.reduceBNe, c1, t1, hv]; rfl) ?_
   refine Fe.read rfl (exec_ld rfl rfl) rfl (by repeat (first | exact trivial | refine ⟨(by first | exact Or.inl (by dsimp only; decide) | exact Or.inr (exec_ld rfl rfl) | exact Or.inr (exec_ld rfl (by assumption)) | exact Or.inr (exec_ldN rfl rfl rfl) | exact Or.inr (exec_ldB rfl (by omega)) | exact Or.inr (exec_ldI rfl (by omega)) | exact Or.inr ghost_of), ?_⟩)) ?_
   refine Fe.pure rfl rfl (by simp only [↓nrmL, nrmZ, Nat.reduceEqDiff, ↓reduceIte, Nat.reduceAdd, Int.reduceBEq, Int.reduceBNe, c1, t1, hv]; rfl) ?_
   refine Fe.pure rfl rfl (by simp only [↓nrmL, nrmZ, Nat.reduceEqDiff, ↓reduceIte, Nat.reduceAdd, Int.reduceBEq, Int.reduceBNe, c1, t1, hv]; rfl) ?_
   refine Fe.pure rfl rfl (by simp only [↓nrmL, nrmZ, Nat.reduceEqDiff, ↓reduceIte, Nat.reduceAdd, Int.reduceBEq, Int.reduceBNe, c1, t1, hv]; rfl) ?_
   refine Fe.read rfl (exec_ld rfl rfl) rfl (by repeat (first | exact trivial | refine ⟨(by first | exact Or.inl (by dsimp only; decide) | exact Or.inr (exec_ld rfl rfl) | exact Or.inr (exec_ld rfl (by assumption)) | exact Or.inr (exec_ldN rfl rfl rfl) | exact Or.inr (exec_ldB rfl (by omega)) | exact Or.inr (exec_ldI rfl (by omega)) | exact Or.inr ghost_of), ?_⟩)) ?_
   refine Fe.pure rfl (exec_lenP (by (try simp only [↓nrmL, nrmZ, Nat.reduceEqDiff, ↓reduceIte, Nat.reduceAdd, Int.reduceBEq, Int.reduceBNe, c1, t1, hv]); rfl)) rfl ?_
   refine Fe.pure rfl rfl (by simp only [↓nrmL, nrmZ, Nat.reduceEqDiff, ↓reduceIte, Nat.reduceAdd, Int.reduceBEq, Int.reduceBNe, c1, t1, hv]; rfl) ?_
   refine Fe.pure rfl (exec_idxP (by (try simp only [↓nrmL, nrmZ, Nat.reduceEqDiff, ↓reduceIte, Nat.reduceAdd, Int.reduceBEq, Int.reduceBNe, c1, t1, hv]); rfl) rfl ?_) (by simp only [↓nrmL, nrmZ, Nat.reduceEqDiff, ↓reduceIte, Nat.reduceAdd, Int.reduceBEq, Int.reduceBNe, c1, t1, hv]; rfl) ?_; (focus omega)
   refine Fe.read rfl (exec_ldB rfl (by omega)) (by simp only [↓nrmL, nrmZ, Nat.reduceEqDiff, ↓reduceIte, Nat.reduceAdd, Int.reduceBEq, Int.reduceBNe, c1, t1, hv]; rfl) (by repeat (first | exact trivial | refine ⟨(by first | exact Or.inl (by dsimp only; decide) | exact Or.inr (exec_ld rfl rfl) | exact Or.inr (exec_ld rfl (by assumption)) | exact Or.inr (exec_ldN rfl rfl rfl) | exact Or.inr (exec_ldB rfl (by omega)) | exact Or.inr (exec_ldI rfl (by omega)) | exact Or.inr ghost_of), ?_⟩)) ?_
   refine Fe.pure rfl rfl rfl ?_
   refine Fe.pure rfl (exec_idxP (by (try simp only [↓nrmL, nrmZ, Nat.reduceEqDiff, ↓reduceIte, Nat.reduceAdd, Int.reduceBEq, Int.reduceBNe, c1, t1, hv]); rfl) rfl ?_) (by simp only [↓nrmL, nrmZ, Nat.reduceEqDiff, ↓reduceIte, Nat.reduceAdd, Int.reduceBEq, Int.reduceBNe, c1, t1, hv]; rfl) ?_; (focus omega)
   refine WpE.stB 0 rfl rfl rfl rfl hlt fun H8 hb8 hw8 hx8 => ⟨(by repeat (first | exact trivial | refine ⟨(by first | exact Or.inl (by dsimp only; decide) | exact Or.inr (readOk_of (exec_ld rfl rfl)) | exact Or.inr (readOk_of (exec_ld rfl (by assumption))) | exact Or.inr (readOk_of (exec_ldN rfl rfl rfl)) | exact Or.inr (readOk_of (exec_ldB rfl (by omega))) | exact Or.inr (readOk_of (exec_ldI rfl (by omega))) | exact Or.inr (made_of rfl)), ?_⟩)), ?_⟩
   refine WpE.nil (hKF _ _ ?_)
   refine rg fun KF hKF => ?_
   refine Fo.bin rfl rfl rfl rfl ?_
   refine mI rfl ?_
   refine WpO.nil (hKF _ _ ?_)
   dsimp only [cond_true, cond_false]
   exact ⟨(i + 1, (m0 :: M').set (x % (m0 :: M').length) 0), by dsimp only; omega, ⟨by simp only [↓nrmL, nrmZ, Nat.reduceEqDiff, ↓reduceIte, Nat.reduceAdd, Int.reduceBEq, Int.reduceBNe]; rw [hw1], trivial⟩, by dsimp only; omega, by dsimp only; rw [List.length_set]; exact hM, pxOk_set hpx (Or.inl rfl), hb8, hw8, inferInstance⟩
 have okM : Ok a b M := ⟨by omega, by omega, hM, hpx⟩
 obtain ⟨s, hs⟩ : ∃ s : Int, ((u.toNat % 7 : Nat) : Int) - 3 = s := ⟨_, rfl⟩
 have w1 : ((u.toNat : Nat) : Int).tmod 7 = ((u.toNat % 7 : Nat) : Int) := rfl
 have w3 : IntKind.i64.wrap ((u.toNat % 7 : Nat) : Int) = ((u.toNat % 7 : Nat) : Int) := by have h7 := Nat.mod_lt u.toNat (Nat.succ_pos 6); exact w64 (by omega)
 have w4 : IntKind.i64.wrap (((u.toNat % 7 : Nat) : Int) - 3) = s := by rw [w64 (by omega)]; exact hs
 have hsb : -3 ≤ s ∧ s ≤ 3 := by have h7 := Nat.mod_lt u.toNat (Nat.succ_pos 6); omega
 have hsk := skB_iff.2 hsb
 have hgr := gr_le (w := a) (by omega) hsb a (Nat.le_refl _)
 have hg6 : b + grN a s a ≤ 640 := by omega
 have okX := skewL_ok (k := s) okM hg6
 haveI : BytesI H2 q M := hbm
 try simp only [↓nrmL, nrmZ, Nat.reduceEqDiff, ↓reduceIte, Nat.reduceAdd, Int.reduceBEq, Int.reduceBNe, hc, w1, w3, w4]
 refine sq ?_
 refine rg fun KF hKF => ?_
 refine Fo.bin rfl rfl rfl (by simp only [↓nrmL, nrmZ, Nat.reduceEqDiff, ↓reduceIte, Nat.reduceAdd, Int.reduceBEq, Int.reduceBNe, hc, w1, w3, w4]; rfl) ?_
 refine WpO.nil (hKF _ _ ?_)
 refine sq ?_
 refine Wp.cond (b := false) rfl ?_
 refine Wp.exit ?_
 refine sq ?_
 refine rg fun KF hKF => ?_
 refine Fo.ldN rfl rfl (by simp only [↓nrmL, nrmZ, Nat.reduceEqDiff, ↓reduceIte, Nat.reduceAdd, Int.reduceBEq, Int.reduceBNe, hc, w1, w3, w4]; rfl) ?_
 refine mI rfl ?_
 refine Fo.bin rfl rfl rfl (by simp only [↓nrmL, nrmZ, Nat.reduceEqDiff, ↓reduceIte, Nat.reduceAdd, Int.reduceBEq, Int.reduceBNe, hc, w1, w3, w4]; rfl) ?_
 refine Fo.now rfl rfl (by simp only [↓nrmL, nrmZ, Nat.reduceEqDiff, ↓reduceIte, Nat.reduceAdd, Int.reduceBEq, Int.reduceBNe, hc, w1, w3, w4]; rfl) ?_
 refine Fo.bin rfl rfl rfl (by simp only [↓nrmL, nrmZ, Nat.reduceEqDiff, ↓reduceIte, Nat.reduceAdd, Int.reduceBEq, Int.reduceBNe, hc, w1, w3, w4]; rfl) ?_
 refine WpO.do (WpX.conD hn rfl rfl (by simp only [↓nrmL, nrmZ, Nat.reduceEqDiff, ↓reduceIte, Nat.reduceAdd, Int.reduceBEq, Int.reduceBNe, List.map] <;> rfl) (K_Skew (w := a) (h := b) (k := s) (l := M)) fun v H5 h5 => ?_)
 rw [skew_is okM hsk hg6] at h5
 obtain ⟨v, e1, q3, e2, hq3, hf3, hw3, hx3⟩ := h5
 subst e1 e2
 try dsimp only at hq3
 haveI : ExtI _ H5 := ⟨hx3⟩
 haveI := hq3.one
 obtain ⟨T, hT⟩ : ∃ T, skewL M a b s = T := ⟨_, rfl⟩
 obtain ⟨d, hd⟩ : ∃ d, b + grN a s a = d := ⟨_, rfl⟩
 rw [hT, hd] at okX
 rw [hT] at hq3
 try rw [hd]
 have hfs0 : (fwS ⟨a, d, T⟩ 0).2 = 0 := by rw [(un_ok (k := 0) okX rfl (c := d) (by rw [gr_zero]; rfl)).2.2]
 obtain ⟨f, hf'⟩ : ∃ f, fwS ⟨a, d, T⟩ = f := ⟨_, rfl⟩
 obtain ⟨bs, hb0, hb3, hb4, hbz, hbest⟩ := found_best (f := fwS ⟨a, d, T⟩) (fw_nonneg _) (by rw [hfs0]; rfl)
 have hfd : findS ⟨a, d, T⟩ = (bs, 0) := by simp only [findS, okX.err, beq_self_eq_true, cond_true, hb0]
 have hbk := skB_iff.2 ⟨hb3, hb4⟩
 have hgb : grN a bs a ≤ d := by
  refine Decidable.byContradiction fun h => ?_
  rw [(un_no okX hbk h).2] at hbz
  cases hbz
 obtain ⟨e, he⟩ : ∃ e, d = e + grN a bs a := ⟨d - grN a bs a, by omega⟩
 obtain ⟨ub1, ub2, ub3⟩ := un_ok okX hbk he
 obtain ⟨U, hU⟩ : ∃ U, unskewL T a e bs = U := ⟨_, rfl⟩
 rw [hU] at ub1 ub2 ub3
 have hfu : fullS ⟨a, e, U⟩ = ((fullN U a e : Int), 0) := full_ok ub2
 try simp only [↓nrmL, nrmZ, Nat.reduceEqDiff, ↓reduceIte, Nat.reduceAdd, Int.reduceBEq, Int.reduceBNe, hfd]
 refine mT rfl ?_
 refine Fo.extr rfl rfl ?_
 refine Fo.extr rfl rfl ?_
 refine Fo.new ?_
 refine Fo.st rfl (rfl : _ = AVal.agg _) rfl rfl rfl (by repeat (first | rfl | refine allOne_cons ?_)) (by simp only [↓nrmL, nrmZ, Nat.reduceEqDiff, ↓reduceIte, Nat.reduceAdd, Int.reduceBEq, Int.reduceBNe, hfd]; rfl) ?_
 refine mI rfl ?_
 refine WpO.nil (hKF _ _ ?_)
 refine sq ?_
 refine sq ?_
 refine rg fun KF hKF => ?_
 refine mI rfl ?_
 refine Fo.bin rfl rfl rfl (by simp only [↓nrmL, nrmZ, Nat.reduceEqDiff, ↓reduceIte, Nat.reduceAdd, Int.reduceBEq, Int.reduceBNe, hfd]; rfl) ?_
 refine WpO.nil (hKF _ _ ?_)
 refine Wp.cond (b := false) rfl ?_
 refine Wp.skip ?_
 refine sq ?_
 refine rg fun KF hKF => ?_
 refine Fo.ldN rfl rfl (by simp only [↓nrmL, nrmZ, Nat.reduceEqDiff, ↓reduceIte, Nat.reduceAdd, Int.reduceBEq, Int.reduceBNe, hfd]; rfl) ?_
 refine Fo.pcall (v' := ?_) hn rfl (by simp only [↓nrmL, nrmZ, Nat.reduceEqDiff, ↓reduceIte, Nat.reduceAdd, Int.reduceBEq, Int.reduceBNe, hfd, List.map]; rfl) rfl ?hv fun _ _ => ?_; case hv => (simp only [↓nrmL, nrmZ, Nat.reduceEqDiff, ↓reduceIte, Nat.reduceAdd, Int.reduceBEq, Int.reduceBNe, hfd]; rfl)
 refine mT rfl ?_
 refine Fo.extr rfl rfl ?_
 refine Fo.extr rfl rfl ?_
 refine mI rfl ?_
 refine mI rfl ?_
 refine WpO.nil (hKF _ _ ?_)
 refine sq ?_
 refine rg fun KF hKF => ?_
 refine Fo.ldN rfl rfl (by simp only [↓nrmL, nrmZ, Nat.reduceEqDiff, ↓reduceIte, Nat.reduceAdd, Int.reduceBEq, Int.reduceBNe, hfd]; rfl) ?_
 refine mI rfl ?_
 refine WpO.do (WpX.conD hn rfl rfl (by simp only [↓nrmL, nrmZ, Nat.reduceEqDiff, ↓reduceIte, Nat.reduceAdd, Int.reduceBEq, Int.reduceBNe, List.map] <;> rfl) (K_Unskew (w := a) (h := d) (k := bs) (l := T)) fun v H6 h5 => ?_)
 rw [ub1] at h5
 obtain ⟨v, e1, q4, e2, hq4, hf4, hw4, hx4⟩ := h5
 subst e1 e2
 try dsimp only at hq4
 haveI : ExtI _ H6 := ⟨hx4⟩
 haveI := hq4.one
 try simp only [↓nrmL, nrmZ, Nat.reduceEqDiff, ↓reduceIte, Nat.reduceAdd, Int.reduceBEq, Int.reduceBNe, hfu]
 refine mT rfl ?_
 refine Fo.extr rfl rfl ?_
 refine Fo.extr rfl rfl ?_
 refine Fo.new ?_
 refine Fo.st rfl (rfl : _ = AVal.agg _) rfl rfl rfl (by repeat (first | rfl | refine allOne_cons ?_)) (by simp only [↓nrmL, nrmZ, Nat.reduceEqDiff, ↓reduceIte, Nat.reduceAdd, Int.reduceBEq, Int.reduceBNe, hfu]; rfl) ?_
 refine mI rfl ?_
 refine WpO.nil (hKF _ _ ?_)
 refine sq ?_
 refine rg fun KF hKF => ?_
 refine Fo.ldN rfl rfl (by simp only [↓nrmL, nrmZ, Nat.reduceEqDiff, ↓reduceIte, Nat.reduceAdd, Int.reduceBEq, Int.reduceBNe, hfu]; rfl) ?_
 refine Fo.pcall (v' := ?_) hn rfl (by simp only [↓nrmL, nrmZ, Nat.reduceEqDiff, ↓reduceIte, Nat.reduceAdd, Int.reduceBEq, Int.reduceBNe, hfu, List.map]; rfl) rfl ?hv fun _ _ => ?_; case hv => (simp only [↓nrmL, nrmZ, Nat.reduceEqDiff, ↓reduceIte, Nat.reduceAdd, Int.reduceBEq, Int.reduceBNe, hfu]; rfl)
 refine mT rfl ?_
 refine Fo.extr rfl rfl ?_
 refine Fo.extr rfl rfl ?_
 refine mI rfl ?_
 refine mI rfl ?_
 refine WpO.nil (hKF _ _ ?_)
 refine sq ?_
 refine sq ?_
 refine rg fun KF hKF => ?_
 refine mI rfl ?_
 refine Fo.bin rfl rfl rfl (by simp only [↓nrmL, nrmZ, Nat.reduceEqDiff, ↓reduceIte, Nat.reduceAdd, Int.reduceBEq, Int.reduceBNe, hfu]; rfl) ?_
 refine mB rfl ?_
 refine Fo.yes rfl rfl ?_
 refine mI rfl ?_
 refine Fo.yes rfl rfl ?_
 refine Fo.bin rfl rfl rfl (by simp only [↓nrmL, nrmZ, Nat.reduceEqDiff, ↓reduceIte, Nat.reduceAdd, Int.reduceBEq, Int.reduceBNe, hfu]; rfl) ?_
 refine fB rfl rfl ?_
 refine mB rfl ?_
 refine Fo.yes rfl rfl ?_
 refine mI rfl ?_
 refine Fo.yes rfl rfl ?_
 refine Fo.bin rfl rfl rfl (by simp only [↓nrmL, nrmZ, Nat.reduceEqDiff, ↓reduceIte, Nat.reduceAdd, Int.reduceBEq, Int.reduceBNe, hfu]; rfl) ?_
 refine fB rfl rfl ?_
 refine WpO.nil (hKF _ _ ?_)
 refine Wp.cond (b := false) rfl ?_
 refine Wp.skip ?_
 refine sq ?_
 refine sq ?_
 refine rg fun KF hKF => ?_
 refine mI rfl ?_
 refine WpO.nil (hKF _ _ ?_)
 refine Wp.block ?_
 dsimp only [cond_true, cond_false]
 refine Wp.loopS [8, 19, 20, 21, 22, 23, 24, 25, 89, 90, 91, 92, 93, 94, 95, 96, 97, 98, 99, 100, 101, 102, 103, 104, 105, 106, 107, 108, 109, 110, 111, 112, 113, 114, 115, 116, 117, 118, 119, 120, 121, 122, 123, 124, 125, 126, 127, 128, 129, 130, 131, 132, 133, 134, 135, 136] (fun t : Int => [(19, .int .i64 t)]) (fun H3 t H2 => -3 ≤ t ∧ t ≤ 4 ∧ Ext0 H3 H2) (fun t => (4 - t).toNat) (-3) rfl (fun _ => rfl) ⟨rfl, trivial⟩ ⟨Int.le_refl _, of_decide_eq_true rfl, inferInstance⟩ (by unfold fuel0 at hn; omega) ?_
 rintro t g2 H9 ⟨ht1, ht2, hx9⟩
 haveI : ExtI _ H9 := ⟨hx9.ext⟩
 simp only [↓nrmL, nrmZ, Nat.reduceEqDiff, ↓reduceIte, Nat.reduceAdd, Int.reduceBEq, Int.reduceBNe]
 cases hct : decide (t ≤ 3)
 ·skip
  try simp only [↓nrmL, nrmZ, Nat.reduceEqDiff, ↓reduceIte, Nat.reduceAdd, Int.reduceBEq, Int.reduceBNe, hct]
  refine sq ?_
  refine sq ?_
  refine rg fun KF hKF => ?_
  refine mI rfl ?_
  refine Fo.bin rfl rfl rfl (by simp only [↓nrmL, nrmZ, Nat.reduceEqDiff, ↓reduceIte, Nat.reduceAdd, Int.reduceBEq, Int.reduceBNe, hct]; rfl) ?_
  refine WpO.nil (hKF _ _ ?_)
  refine Wp.cond (b := false) rfl ?_
  refine Wp.exit ?_
  refine sq ?_
  refine rg fun KF hKF => ?_
  refine Fo.pcall (v' := ?_) hn rfl (by simp only [↓nrmL, nrmZ, Nat.reduceEqDiff, ↓reduceIte, Nat.reduceAdd, Int.reduceBEq, Int.reduceBNe, hct, List.map]; rfl) rfl ?hv fun _ _ => ?_; case hv => rfl
  refine mB rfl ?_
  refine WpO.nil (hKF _ _ ?_)
  refine Wp.ret ?_
  dsimp only [cond_true, cond_false]
  refine ⟨trivial, _, (by first | rfl | exact getAllC rfl rfl rfl rfl | exact getAllT rfl (getAllC rfl rfl rfl rfl) | exact getAllC rfl rfl rfl (getAllC rfl rfl rfl rfl) | exact getAllC1 rfl rfl rfl), ?_⟩
  exact ⟨rfl, Ext0.ext⟩
 have ht3 := of_decide_eq_true hct
 have htk := skB_iff.2 ⟨ht1, ht3⟩
 have hw1 : IntKind.i64.wrap (t + 1) = t + 1 := w64 (by omega)
 try simp only [↓nrmL, nrmZ, Nat.reduceEqDiff, ↓reduceIte, Nat.reduceAdd, Int.reduceBEq, Int.reduceBNe, hct]
 refine sq ?_
 refine sq ?_
 refine rg fun KF hKF => ?_
 refine mI rfl ?_
 refine Fo.bin rfl rfl rfl (by simp only [↓nrmL, nrmZ, Nat.reduceEqDiff, ↓reduceIte, Nat.reduceAdd, Int.reduceBEq, Int.reduceBNe, hct]; rfl) ?_
 refine WpO.nil (hKF _ _ ?_)
 refine Wp.cond (b := true) rfl ?_
 refine Wp.skip ?_
 refine sq ?_
 refine Wp.block ?_
 refine sq ?_
 refine rg fun KF hKF => ?_
 refine Fo.ldN rfl rfl (by simp only [↓nrmL, nrmZ, Nat.reduceEqDiff, ↓reduceIte, Nat.reduceAdd, Int.reduceBEq, Int.reduceBNe, hct]; rfl) ?_
 refine mI rfl ?_
 refine WpO.do (WpX.conD hn rfl rfl (by simp only [↓nrmL, nrmZ, Nat.reduceEqDiff, ↓reduceIte, Nat.reduceAdd, Int.reduceBEq, Int.reduceBNe, List.map] <;> rfl) (K_Unskew (w := a) (h := d) (k := t) (l := T)) fun v H7 h5 => ?_)
 by_cases hgt : grN a t a ≤ d
 rotate_left
 ·rw [(un_no okX htk hgt).1] at h5
  obtain ⟨v, e1, q5, e2, hq5, hf5, hw5, hx5⟩ := h5
  subst e1 e2
  try dsimp only [Img.zero] at hq5
  haveI : ExtI _ H7 := ⟨hx5⟩
  haveI := hq5.one
  refine mT rfl ?_
  refine Fo.extr rfl rfl ?_
  refine Fo.extr rfl rfl ?_
  refine Fo.new ?_
  refine Fo.st rfl (rfl : _ = AVal.agg _) rfl rfl rfl (by repeat (first | rfl | refine allOne_cons ?_)) (by simp only [↓nrmL, nrmZ, Nat.reduceEqDiff, ↓reduceIte, Nat.reduceAdd, Int.reduceBEq, Int.reduceBNe]; rfl) ?_
  refine mI rfl ?_
  refine WpO.nil (hKF _ _ ?_)
  refine sq ?_
  refine sq ?_
  refine rg fun KF hKF => ?_
  refine mI rfl ?_
  refine Fo.bin rfl rfl rfl (by simp only [↓nrmL, nrmZ, Nat.reduceEqDiff, ↓reduceIte, Nat.reduceAdd, Int.reduceBEq, Int.reduceBNe]; rfl) ?_
  refine WpO.nil (hKF _ _ ?_)
  refine Wp.cond (b := true) rfl ?_
  refine Wp.exit ?_
  refine rg fun KF hKF => ?_
  refine mI rfl ?_
  refine Fo.bin rfl rfl rfl rfl ?_
  refine mI rfl ?_
  refine WpO.nil (hKF _ _ ?_)
  dsimp only [cond_true, cond_false]
  exact ⟨t + 1, by omega, ⟨by simp only [↓nrmL, nrmZ, Nat.reduceEqDiff, ↓reduceIte, Nat.reduceAdd, Int.reduceBEq, Int.reduceBNe]; rw [hw1], trivial⟩, by omega, by omega, inferInstance⟩
 obtain ⟨y, hy⟩ : ∃ y, d = y + grN a t a := ⟨d - grN a t a, by omega⟩
 obtain ⟨ut1, ut2, ut3⟩ := un_ok okX htk hy
 obtain ⟨V, hV⟩ : ∃ V, unskewL T a y t = V := ⟨_, rfl⟩
 rw [hV] at ut1 ut2 ut3
 have hfv : fullS ⟨a, y, V⟩ = ((fullN V a y : Int), 0) := full_ok ut2
 rw [ut1] at h5
 obtain ⟨v, e1, q5, e2, hq5, hf5, hw5, hx5⟩ := h5
 subst e1 e2
 try dsimp only at hq5
 haveI : ExtI _ H7 := ⟨hx5⟩
 haveI := hq5.one
 have key := hbest t ⟨ht1, ht3⟩ (by rw [ut3]; rfl)
 rw [ut3, ub3] at key
 dsimp only at key
 have n1 : IntKind.i64.wrap (0 - t) = -t := by rw [w64 (by omega)]; omega
 have n2 : IntKind.i64.wrap (0 - bs) = -bs := by rw [w64 (by omega)]; omega
 have z1 : (if -t > t then -t else t) = absZ t := rfl
 have z2 : (if -bs > bs then -bs else bs) = absZ bs := rfl
 have g1 : decide ((fullN V a y : Int) > (fullN U a e : Int)) = false := decide_eq_false (by have := key.1; omega)
 cases g2 : ((fullN V a y : Int) == (fullN U a e : Int))
 ·skip
  try simp only [↓nrmL, nrmZ, Nat.reduceEqDiff, ↓reduceIte, Nat.reduceAdd, Int.reduceBEq, Int.reduceBNe, hfv, n1, n2, z1, z2, g1, g2]
  refine mT rfl ?_
  refine Fo.extr rfl rfl ?_
  refine Fo.extr rfl rfl ?_
  refine Fo.new ?_
  refine Fo.st rfl (rfl : _ = AVal.agg _) rfl rfl rfl (by repeat (first | rfl | refine allOne_cons ?_)) (by simp only [↓nrmL, nrmZ, Nat.reduceEqDiff, ↓reduceIte, Nat.reduceAdd, Int.reduceBEq, Int.reduceBNe, hfv, n1, n2, z1, z2, g1, g2]; rfl) ?_
  refine mI rfl ?_
  refine WpO.nil (hKF _ _ ?_)
  refine sq ?_
  refine sq ?_
  refine rg fun KF hKF => ?_
  refine mI rfl ?_
  refine Fo.bin rfl rfl rfl (by simp only [↓nrmL, nrmZ, Nat.reduceEqDiff, ↓reduceIte, Nat.reduceAdd, Int.reduceBEq, Int.reduceBNe, hfv, n1, n2, z1, z2, g1, g2]; rfl) ?_
  refine WpO.nil (hKF _ _ ?_)
  refine Wp.cond (b := false) rfl ?_
  refine Wp.skip ?_
  refine sq ?_
  refine rg fun KF hKF => ?_
  refine Fo.ldN rfl rfl (by simp only [↓nrmL, nrmZ, Nat.reduceEqDiff, ↓reduceIte, Nat.reduceAdd, Int.reduceBEq, Int.reduceBNe, hfv, n1, n2, z1, z2, g1, g2]; rfl) ?_
  refine Fo.pcall (v' := ?_) hn rfl (by simp only [↓nrmL, nrmZ, Nat.reduceEqDiff, ↓reduceIte, Nat.reduceAdd, Int.reduceBEq, Int.reduceBNe, hfv, n1, n2, z1, z2, g1, g2, List.map]; rfl) rfl ?hv fun _ _ => ?_; case hv => (simp only [↓nrmL, nrmZ, Nat.reduceEqDiff, ↓reduceIte, Nat.reduceAdd, Int.reduceBEq, Int.reduceBNe, hfv, n1, n2, z1, z2, g1, g2]; rfl)
  refine mT rfl ?_
  refine Fo.extr rfl rfl ?_
  refine Fo.extr rfl rfl ?_
  refine mI rfl ?_
  refine mI rfl ?_
  refine WpO.nil (hKF _ _ ?_)
  refine sq ?_
  refine rg fun KF hKF => ?_
  refine mI rfl ?_
  refine mI rfl ?_
  refine Fo.now rfl rfl (by simp only [↓nrmL, nrmZ, Nat.reduceEqDiff, ↓reduceIte, Nat.reduceAdd, Int.reduceBEq, Int.reduceBNe, hfv, n1, n2, z1, z2, g1, g2]; rfl) ?_
  refine Fo.now rfl rfl (by simp only [↓nrmL, nrmZ, Nat.reduceEqDiff, ↓reduceIte, Nat.reduceAdd, Int.reduceBEq, Int.reduceBNe, hfv, n1, n2, z1, z2, g1, g2]; rfl) ?_
  refine mI rfl ?_
  refine mI rfl ?_
  refine Fo.now rfl rfl (by simp only [↓nrmL, nrmZ, Nat.reduceEqDiff, ↓reduceIte, Nat.reduceAdd, Int.reduceBEq, Int.reduceBNe, hfv, n1, n2, z1, z2, g1, g2]; rfl) ?_
  refine Fo.now rfl rfl (by simp only [↓nrmL, nrmZ, Nat.reduceEqDiff, ↓reduceIte, Nat.reduceAdd, Int.reduceBEq, Int.reduceBNe, hfv, n1, n2, z1, z2, g1, g2]; rfl) ?_
  refine mI rfl ?_
  refine mI rfl ?_
  refine WpO.nil (hKF _ _ ?_)
  refine sq ?_
  refine rg fun KF hKF => ?_
  refine mI rfl ?_
  refine mI rfl ?_
  refine Fo.bin rfl rfl rfl (by simp only [↓nrmL, nrmZ, Nat.reduceEqDiff, ↓reduceIte, Nat.reduceAdd, Int.reduceBEq, Int.reduceBNe, hfv, n1, n2, z1, z2, g1, g2]; rfl) ?_
  refine mB rfl ?_
  refine Fo.yes rfl rfl ?_
  refine mI rfl ?_
  refine Fo.yes rfl rfl ?_
  refine mI rfl ?_
  refine Fo.yes rfl rfl ?_
  refine Fo.bin rfl rfl rfl (by simp only [↓nrmL, nrmZ, Nat.reduceEqDiff, ↓reduceIte, Nat.reduceAdd, Int.reduceBEq, Int.reduceBNe, hfv, n1, n2, z1, z2, g1, g2]; rfl) ?_
  refine Fo.yes rfl rfl ?_
  refine mB rfl ?_
  refine Fo.no rfl rfl ?_
  refine Fo.no rfl rfl ?_
  refine Fo.no rfl rfl ?_
  refine Fo.no rfl rfl ?_
  refine Fo.noU rfl ?_
  refine Fo.noU rfl ?_
  refine Fo.noU rfl ?_
  refine Fo.noU rfl ?_
  refine Fo.noU rfl ?_
  refine Fo.noU rfl ?_
  refine Fo.noU rfl ?_
  refine Fo.noU rfl ?_
  refine Fo.no rfl rfl ?_
  refine Fo.yes rfl rfl ?_
  refine fB rfl rfl ?_
  refine fB rfl rfl ?_
  refine WpO.nil (hKF _ _ ?_)
  refine Wp.cond (b := false) rfl ?_
  refine Wp.skip ?_
  refine rg fun KF hKF => ?_
  refine mI rfl ?_
  refine Fo.bin rfl rfl rfl rfl ?_
  refine mI rfl ?_
  refine WpO.nil (hKF _ _ ?_)
  dsimp only [cond_true, cond_false]
  exact ⟨t + 1, by omega, ⟨by simp only [↓nrmL, nrmZ, Nat.reduceEqDiff, ↓reduceIte, Nat.reduceAdd, Int.reduceBEq, Int.reduceBNe]; rw [hw1], trivial⟩, by omega, by omega, inferInstance⟩
 have key2 := key.2 (eq_of_beq g2)
 have g3 : decide (absZ t < absZ bs) = false := decide_eq_false key2.1
 cases g4 : (absZ t == absZ bs)
 ·skip
  try simp only [↓nrmL, nrmZ, Nat.reduceEqDiff, ↓reduceIte, Nat.reduceAdd, Int.reduceBEq, Int.reduceBNe, hfv, n1, n2, z1, z2, g1, g2, g3, g4]
  refine mT rfl ?_
  refine Fo.extr rfl rfl ?_
  refine Fo.extr rfl rfl ?_
  refine Fo.new ?_
  refine Fo.st rfl (rfl : _ = AVal.agg _) rfl rfl rfl (by repeat (first | rfl | refine allOne_cons ?_)) (by simp only [↓nrmL, nrmZ, Nat.reduceEqDiff, ↓reduceIte, Nat.reduceAdd, Int.reduceBEq, Int.reduceBNe, hfv, n1, n2, z1, z2, g1, g2, g3, g4]; rfl) ?_
  refine mI rfl ?_
  refine WpO.nil (hKF _ _ ?_)
  refine sq ?_
  refine sq ?_
  refine rg fun KF hKF => ?_
  refine mI rfl ?_
  refine Fo.bin rfl rfl rfl (by simp only [↓nrmL, nrmZ, Nat.reduceEqDiff, ↓reduceIte, Nat.reduceAdd, Int.reduceBEq, Int.reduceBNe, hfv, n1, n2, z1, z2, g1, g2, g3, g4]; rfl) ?_
  refine WpO.nil (hKF _ _ ?_)
  refine Wp.cond (b := false) rfl ?_
  refine Wp.skip ?_
  refine sq ?_
  refine rg fun KF hKF => ?_
  refine Fo.ldN rfl rfl (by simp only [↓nrmL, nrmZ, Nat.reduceEqDiff, ↓reduceIte, Nat.reduceAdd, Int.reduceBEq, Int.reduceBNe, hfv, n1, n2, z1, z2, g1, g2, g3, g4]; rfl) ?_
  refine Fo.pcall (v' := ?_) hn rfl (by simp only [↓nrmL, nrmZ, Nat.reduceEqDiff, ↓reduceIte, Nat.reduceAdd, Int.reduceBEq, Int.reduceBNe, hfv, n1, n2, z1, z2, g1, g2, g3, g4, List.map]; rfl) rfl ?hv fun _ _ => ?_; case hv => (simp only [↓nrmL, nrmZ, Nat.reduceEqDiff, ↓reduceIte, Nat.reduceAdd, Int.reduceBEq, Int.reduceBNe, hfv, n1, n2, z1, z2, g1, g2, g3, g4]; rfl)
  refine mT rfl ?_
  refine Fo.extr rfl rfl ?_
  refine Fo.extr rfl rfl ?_
  refine mI rfl ?_
  refine mI rfl ?_
  refine WpO.nil (hKF _ _ ?_)
  refine sq ?_
  refine rg fun KF hKF => ?_
  refine mI rfl ?_
  refine mI rfl ?_
  refine Fo.now rfl rfl (by simp only [↓nrmL, nrmZ, Nat.reduceEqDiff, ↓reduceIte, Nat.reduceAdd, Int.reduceBEq, Int.reduceBNe, hfv, n1, n2, z1, z2, g1, g2, g3, g4]; rfl) ?_
  refine Fo.now rfl rfl (by simp only [↓nrmL, nrmZ, Nat.reduceEqDiff, ↓reduceIte, Nat.reduceAdd, Int.reduceBEq, Int.reduceBNe, hfv, n1, n2, z1, z2, g1, g2, g3, g4]; rfl) ?_
  refine mI rfl ?_
  refine mI rfl ?_
  refine Fo.now rfl rfl (by simp only [↓nrmL, nrmZ, Nat.reduceEqDiff, ↓reduceIte, Nat.reduceAdd, Int.reduceBEq, Int.reduceBNe, hfv, n1, n2, z1, z2, g1, g2, g3, g4]; rfl) ?_
  refine Fo.now rfl rfl (by simp only [↓nrmL, nrmZ, Nat.reduceEqDiff, ↓reduceIte, Nat.reduceAdd, Int.reduceBEq, Int.reduceBNe, hfv, n1, n2, z1, z2, g1, g2, g3, g4]; rfl) ?_
  refine mI rfl ?_
  refine mI rfl ?_
  refine WpO.nil (hKF _ _ ?_)
  refine sq ?_
  refine rg fun KF hKF => ?_
  refine mI rfl ?_
  refine mI rfl ?_
  refine Fo.bin rfl rfl rfl (by simp only [↓nrmL, nrmZ, Nat.reduceEqDiff, ↓reduceIte, Nat.reduceAdd, Int.reduceBEq, Int.reduceBNe, hfv, n1, n2, z1, z2, g1, g2, g3, g4]; rfl) ?_
  refine mB rfl ?_
  refine Fo.yes rfl rfl ?_
  refine mI rfl ?_
  refine Fo.yes rfl rfl ?_
  refine mI rfl ?_
  refine Fo.yes rfl rfl ?_
  refine Fo.bin rfl rfl rfl (by simp only [↓nrmL, nrmZ, Nat.reduceEqDiff, ↓reduceIte, Nat.reduceAdd, Int.reduceBEq, Int.reduceBNe, hfv, n1, n2, z1, z2, g1, g2, g3, g4]; rfl) ?_
  refine Fo.yes rfl rfl ?_
  refine mB rfl ?_
  refine Fo.yes rfl rfl ?_
  refine mI rfl ?_
  refine Fo.yes rfl rfl ?_
  refine mI rfl ?_
  refine Fo.yes rfl rfl ?_
  refine Fo.bin rfl rfl rfl (by simp only [↓nrmL, nrmZ, Nat.reduceEqDiff, ↓reduceIte, Nat.reduceAdd, Int.reduceBEq, Int.reduceBNe, hfv, n1, n2, z1, z2, g1, g2, g3, g4]; rfl) ?_
  refine Fo.yes rfl rfl ?_
  refine mB rfl ?_
  refine Fo.yes rfl rfl ?_
  refine mI rfl ?_
  refine Fo.yes rfl rfl ?_
  refine mI rfl ?_
  refine Fo.yes rfl rfl ?_
  refine Fo.bin rfl rfl rfl (by simp only [↓nrmL, nrmZ, Nat.reduceEqDiff, ↓reduceIte, Nat.reduceAdd, Int.reduceBEq, Int.reduceBNe, hfv, n1, n2, z1, z2, g1, g2, g3, g4]; rfl) ?_
  refine Fo.yes rfl rfl ?_
  refine mB rfl ?_
  refine Fo.no rfl rfl ?_
  refine Fo.no rfl rfl ?_
  refine Fo.no rfl rfl ?_
  refine Fo.yes rfl rfl ?_
  refine fB rfl rfl ?_
  refine Fo.yes rfl rfl ?_
  refine fB rfl rfl ?_
  refine Fo.yes rfl rfl ?_
  refine tB rfl rfl ?_
  refine fB rfl rfl ?_
  refine WpO.nil (hKF _ _ ?_)
  refine Wp.cond (b := false) rfl ?_
  refine Wp.skip ?_
  refine rg fun KF hKF => ?_
  refine mI rfl ?_
  refine Fo.bin rfl rfl rfl rfl ?_
  refine mI rfl ?_
  refine WpO.nil (hKF _ _ ?_)
  dsimp only [cond_true, cond_false]
  exact ⟨t + 1, by omega, ⟨by simp only [↓nrmL, nrmZ, Nat.reduceEqDiff, ↓reduceIte, Nat.reduceAdd, Int.reduceBEq, Int.reduceBNe]; rw [hw1], trivial⟩, by omega, by omega, inferInstance⟩
 have g5 : decide (t > bs) = false := decide_eq_false (key2.2 (eq_of_beq g4))
 try simp only [↓nrmL, nrmZ, Nat.reduceEqDiff, ↓reduceIte, Nat.reduceAdd, Int.reduceBEq, Int.reduceBNe, hfv, n1, n2, z1, z2, g1, g2, g3, g4, g5]
 refine mT rfl ?_
 refine Fo.extr rfl rfl ?_
 refine Fo.extr rfl rfl ?_
 refine Fo.new ?_
 refine Fo.st rfl (rfl : _ = AVal.agg _) rfl rfl rfl (by repeat (first | rfl | refine allOne_cons ?_)) (by simp only [↓nrmL, nrmZ, Nat.reduceEqDiff, ↓reduceIte, Nat.reduceAdd, Int.reduceBEq, Int.reduceBNe, hfv, n1, n2, z1, z2, g1, g2, g3, g4, g5]; rfl) ?_
 refine mI rfl ?_
 refine WpO.nil (hKF _ _ ?_)
 refine sq ?_
 refine sq ?_
 refine rg fun KF hKF => ?_
 refine mI rfl ?_
 refine Fo.bin rfl rfl rfl (by simp only [↓nrmL, nrmZ, Nat.reduceEqDiff, ↓reduceIte, Nat.reduceAdd, Int.reduceBEq, Int.reduceBNe, hfv, n1, n2, z1, z2, g1, g2, g3, g4, g5]; rfl) ?_
 refine WpO.nil (hKF _ _ ?_)
 refine Wp.cond (b := false) rfl ?_
 refine Wp.skip ?_
 refine sq ?_
 refine rg fun KF hKF => ?_
 refine Fo.ldN rfl rfl (by simp only [↓nrmL, nrmZ, Nat.reduceEqDiff, ↓reduceIte, Nat.reduceAdd, Int.reduceBEq, Int.reduceBNe, hfv, n1, n2, z1, z2, g1, g2, g3, g4, g5]; rfl) ?_
 refine Fo.pcall (v' := ?_) hn rfl (by simp only [↓nrmL, nrmZ, Nat.reduceEqDiff, ↓reduceIte, Nat.reduceAdd, Int.reduceBEq, Int.reduceBNe, hfv, n1, n2, z1, z2, g1, g2, g3, g4, g5, List.map]; rfl) rfl ?hv fun _ _ => ?_; case hv => (simp only [↓nrmL, nrmZ, Nat.reduceEqDiff, ↓reduceIte, Nat.reduceAdd, Int.reduceBEq, Int.reduceBNe, hfv, n1, n2, z1, z2, g1, g2, g3, g4, g5]; rfl)
 refine mT rfl ?_
 refine Fo.extr rfl rfl ?_
 refine Fo.extr rfl rfl ?_
 refine mI rfl ?_
 refine mI rfl ?_
 refine WpO.nil (hKF _ _ ?_)
 refine sq ?_
 refine rg fun KF hKF => ?_
 refine mI rfl ?_
 refine mI rfl ?_
 refine Fo.now rfl rfl (by simp only [↓nrmL, nrmZ, Nat.reduceEqDiff, ↓reduceIte, Nat.reduceAdd, Int.reduceBEq, Int.reduceBNe, hfv, n1, n2, z1, z2, g1, g2, g3, g4, g5]; rfl) ?_
 refine Fo.now rfl rfl (by simp only [↓nrmL, nrmZ, Nat.reduceEqDiff, ↓reduceIte, Nat.reduceAdd, Int.reduceBEq, Int.reduceBNe, hfv, n1, n2, z1, z2, g1, g2, g3, g4, g5]; rfl) ?_
 refine mI rfl ?_
 refine mI rfl ?_
 refine Fo.now rfl rfl (by simp only [↓nrmL, nrmZ, Nat.reduceEqDiff, ↓reduceIte, Nat.reduceAdd, Int.reduceBEq, Int.reduceBNe, hfv, n1, n2, z1, z2, g1, g2, g3, g4, g5]; rfl) ?_
 refine Fo.now rfl rfl (by simp only [↓nrmL, nrmZ, Nat.reduceEqDiff, ↓reduceIte, Nat.reduceAdd, Int.reduceBEq, Int.reduceBNe, hfv, n1, n2, z1, z2, g1, g2, g3, g4, g5]; rfl) ?_
 refine mI rfl ?_
 refine mI rfl ?_
 refine WpO.nil (hKF _ _ ?_)
 refine sq ?_
 refine rg fun KF hKF => ?_
 refine mI rfl ?_
 refine mI rfl ?_
 refine Fo.bin rfl rfl rfl (by simp only [↓nrmL, nrmZ, Nat.reduceEqDiff, ↓reduceIte, Nat.reduceAdd, Int.reduceBEq, Int.reduceBNe, hfv, n1, n2, z1, z2, g1, g2, g3, g4, g5]; rfl) ?_
 refine mB rfl ?_
 refine Fo.yes rfl rfl ?_
 refine mI rfl ?_
 refine Fo.yes rfl rfl ?_
 refine mI rfl ?_
 refine Fo.yes rfl rfl ?_
 refine Fo.bin rfl rfl rfl (by simp only [↓nrmL, nrmZ, Nat.reduceEqDiff, ↓reduceIte, Nat.reduceAdd, Int.reduceBEq, Int.reduceBNe, hfv, n1, n2, z1, z2, g1, g2, g3, g4, g5]; rfl) ?_
 refine Fo.yes rfl rfl ?_
 refine mB rfl ?_
 refine Fo.yes rfl rfl ?_
 refine mI rfl ?_
 refine Fo.yes rfl rfl ?_
 refine mI rfl ?_
 refine Fo.yes rfl rfl ?_
 refine Fo.bin rfl rfl rfl (by simp only [↓nrmL, nrmZ, Nat.reduceEqDiff, ↓reduceIte, Nat.reduceAdd, Int.reduceBEq, Int.reduceBNe, hfv, n1, n2, z1, z2, g1, g2, g3, g4, g5]; rfl) ?_
 refine Fo.yes rfl rfl ?_
 refine mB rfl ?_
 refine Fo.yes rfl rfl ?_
 refine mI rfl ?_
 refine Fo.yes rfl rfl ?_
 refine mI rfl ?_
 refine Fo.yes rfl rfl ?_
 refine Fo.bin rfl rfl rfl (by simp only [↓nrmL, nrmZ, Nat.reduceEqDiff, ↓reduceIte, Nat.reduceAdd, Int.reduceBEq, Int.reduceBNe, hfv, n1, n2, z1, z2, g1, g2, g3, g4, g5]; rfl) ?_
 refine Fo.yes rfl rfl ?_
 refine mB rfl ?_
 refine Fo.yes rfl rfl ?_
 refine mI rfl ?_
 refine Fo.yes rfl rfl ?_
 refine mI rfl ?_
 refine Fo.yes rfl rfl ?_
 refine Fo.bin rfl rfl rfl (by simp only [↓nrmL, nrmZ, Nat.reduceEqDiff, ↓reduceIte, Nat.reduceAdd, Int.reduceBEq, Int.reduceBNe, hfv, n1, n2, z1, z2, g1, g2, g3, g4, g5]; rfl) ?_
 refine Fo.yes rfl rfl ?_
 refine tB rfl rfl ?_
 refine Fo.yes rfl rfl ?_
 refine fB rfl rfl ?_
 refine Fo.yes rfl rfl ?_
 refine tB rfl rfl ?_
 refine fB rfl rfl ?_
 refine WpO.nil (hKF _ _ ?_)
 refine Wp.cond (b := false) rfl ?_
 refine Wp.skip ?_
 refine rg fun KF hKF => ?_
 refine mI rfl ?_
 refine Fo.bin rfl rfl rfl rfl ?_
 refine mI rfl ?_
 refine WpO.nil (hKF _ _ ?_)
 dsimp only [cond_true, cond_false]
 exact ⟨t + 1, by omega, ⟨by simp only [↓nrmL, nrmZ, Nat.reduceEqDiff, ↓reduceIte, Nat.reduceAdd, Int.reduceBEq, Int.reduceBNe]; rw [hw1], trivial⟩, by omega, by omega, inferInstance⟩
end Go.Am

set_option maxRecDepth 100000
set_option maxHeartbeats 4000000
namespace Go.Proofs.Ytdbgdhjcpmacoaa.CleanStraight
open Go.ChangeShapes Go.WideShapes Go.ChangeAt Go.RowKit Go.Am Go.Proofs.Ytdbgdhjcpmacoaa.Laid

theorem con (H : AHeap) (avs : List AVal) (ht : tablesIn aroundT H = true) (h : ArgS Try.prog H 3 [5, 22, 54, 5] avs) : Con ext prog 14 6 avs H fun v H' => v = .bool true ∧ Ext H H' := by
  obtain ⟨a0, r0, rfl, h0, a1, r1, rfl, h1, a2, r2, rfl, h2, a3, r3, rfl, h3, rfl⟩ := h
  obtain ⟨i0, rfl, wf0⟩ := shape_int Try.underlying5 h0
  obtain ⟨s0, rfl⟩ := u8_of wf0
  obtain ⟨p1, l1, rfl, k1, _⟩ := shape_bytes Try.underlying22 Try.underlying5 (by kernel_rfl) h1
  haveI o1 := k1.one
  obtain ⟨q2, l2, rfl, k2, m2, n2⟩ := shape_u16s Try.underlying54 Try.underlying47 (by kernel_rfl) h2
  haveI o2 := k2.one
  obtain ⟨i3, rfl, wf3⟩ := shape_int Try.underlying5 h3
  obtain ⟨s3, rfl⟩ := u8_of wf3
  have e0 : argV Try.prog 5 [.int .u8 (s0.toNat : Int)] = .int .u8 (s0.toNat : Int) := by simp only [argV, show aggTy Try.prog 5 = false by kernel_rfl, cond_false, List.headD_cons]
  have e1 : argV Try.prog 22 [p1] = p1 := by simp only [argV, show aggTy Try.prog 22 = false by kernel_rfl, cond_false, List.headD_cons]
  have e2 : argV Try.prog 54 [q2] = q2 := by simp only [argV, show aggTy Try.prog 54 = false by kernel_rfl, cond_false, List.headD_cons]
  have e3 : argV Try.prog 5 [.int .u8 (s3.toNat : Int)] = .int .u8 (s3.toNat : Int) := by simp only [argV, show aggTy Try.prog 5 = false by kernel_rfl, cond_false, List.headD_cons]
  rw [e0, e1, e2, e3]
  exact K_CleanStraight m2

theorem contract (H : Type) (enc : TypeId × Value → H) (W : World) (base : Nat) (args : Array Value) (ds gs : List (DataW H)) (before : List MemPlace)
    (hval : ∀ (j : Nat) t v, Try.f6.params[j]? = some t → args[j]? = some v → Value.okWide Try.prog W .any base t v)
    (hW : DataW.Whole enc Try.prog Try.f6.params.toList Rows.cleanStraightSpec.vars false W args.toList ds gs before) (hL : laidMetH Try.prog Rows.cleanStraightRow.laid W) :
    Calls Try.prog 6 args W fun e W' => ∃ v, e = .returned v ∧ Rows.cleanStraightSpec.post enc Try.prog Try.f6 false true false false W args v W' := by
  have hW' := hW
  obtain ⟨p, q, hA, _⟩ := hW'
  rw [Try.params6] at hA
  obtain ⟨v0, vs0, d0, ds0, p0, q0, _, rfl, _, _, r0⟩ := trodAll_cons hA
  obtain ⟨v1, vs1, d1, ds1, p1, q1, _, rfl, _, _, r1⟩ := trodAll_cons r0
  obtain ⟨v2, vs2, d2, ds2, p2, q2, _, rfl, _, _, r2⟩ := trodAll_cons r1
  obtain ⟨v3, vs3, d3, ds3, p3, q3, _, rfl, _, _, r3⟩ := trodAll_cons r2
  obtain ⟨_, rfl, _⟩ := trodAll_nil r3
  exact law_calls (tb := 4) (n := 3) (d := 14) (tabs := aroundT) mixed progOk Try.func6 rfl (by decide +kernel) laidOut rowed full (by kernel_rfl) rfl (by kernel_rfl) Try.underlying4 (by kernel_rfl) (by kernel_rfl)
    (fun H avs ht h => con H avs ht (by rw [Try.params6] at h; exact h)) H enc W base args _ gs before rfl hval hW around_cells

theorem laid_met (os : Os) : laidMet Try.prog Rows.cleanStraightRow.laid ((laidWorld os).forCall (fun _ _ => 0) ⟨#[], #[.int .u8 0, .slice none 0 0, .slice none 0 0, .int .u8 0], []⟩).memory :=
  laidMet_of_run' 8 (by kernel_rfl) (by kernel_rfl)
theorem reads (os : Os) {H : Type} (enc : TypeId × Value → H) : ∃ places, DataW.whole enc Try.prog ((laidWorld os).forCall (fun _ _ => 0) ⟨#[], #[.int .u8 0, .slice none 0 0, .slice none 0 0, .int .u8 0], []⟩).memory Try.f6.params.toList Rows.cleanStraightSpec.vars false #[Value.int .u8 0, .slice none 0 0, .slice none 0 0, .int .u8 0].toList 8 = some ([.lit (.int .u8 0), .nil, .nil, .lit (.int .u8 0)], [], places) :=
  ⟨[], by kernel_rfl⟩

theorem lifted (os : Os) (started : os.Started) (H : Type) (enc : TypeId × Value → H) (F : Stop.Interp) :
    ReturnsInHanded {} Try.checked os 6 .any ((OpenSpec.ofChange Rows.cleanStraightSpec).preRow enc Try.prog Try.f6 Rows.cleanStraightRow.domain false Rows.cleanStraightRow.laid) (((OpenSpec.ofChange Rows.cleanStraightSpec).at F).post enc Try.prog Try.f6 false true false false) := by
  obtain ⟨places, hx⟩ := reads os enc
  refine returnsInHanded_of_row (C := Try.checked) (s := OpenSpec.ofChange Rows.cleanStraightSpec) own started (by kernel_rfl) Try.func6
    (witness_row_at (enc := enc) (C := Try.checked) false (laidWorld os) #[.int .u8 0, .slice none 0 0, .slice none 0 0, .int .u8 0] rfl (by kernel_rfl) (by kernel_rfl) (by kernel_rfl)
      (OpenSpec.preRow_of_cond 8 hx (by kernel_rfl) (fun k hk => by cases hk) (by kernel_rfl) (laid_met os))) ?_
  intro W base args ds gs before hval hW _ _ _ hL _ _
  exact contract H enc W base args ds gs before hval hW hL

theorem said : Rows.CleanStraightSaid :=
  OpenClaim.holds_of_cond 6 Try.f6 rfl rfl rfl rfl rfl rfl rfl ⟨rfl, rfl, rfl, rfl, rfl⟩ rfl rfl rfl rfl rfl (by kernel_rfl) Try.func6 (by kernel_rfl)
    (of_decide_eq_true (by kernel_rfl)) (by unfold Func.isWrapper; first | (rw [if_pos (by decide +kernel)]; kernel_rfl) | (rw [if_neg (by decide +kernel)]; exact ⟨rfl, rfl⟩))
    (fun os started H enc _ F => by rw [OpenClaim.pre_eq_preRow]; exact lifted os started H enc F)
end Go.Proofs.Ytdbgdhjcpmacoaa.CleanStraight
