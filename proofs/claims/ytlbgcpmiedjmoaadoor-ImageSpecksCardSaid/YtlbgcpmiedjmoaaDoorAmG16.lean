/-
  ImageSpecks returns true for all sides, bits and numbers, and leaves the bits as they were. No condition.
-/
import Derived.Test.YtlbgcpmiedjmoaaDoorAmBE
set_option linter.unusedSimpArgs false
set_option linter.unusedVariables false
set_option maxHeartbeats 8000000
set_option maxRecDepth 100000
set_option synthInstance.maxHeartbeats 4000000
set_option synthInstance.maxSize 100000
namespace Go.Am
open Go
attribute [local irreducible] Wp WpO WpX WpE

theorem exec_ringA {call : ACall} {fr : AFrame} {H : AHeap} {x : ROpd} {t : Nat} (hx : x.ev fr = .int .i64 (t : Int)) (ht : t < 8) : (ROp.idxA 8 2 (.val (.ptr 0 0)) x).exec call fr H = some (.ptr 0 (2 * t), H) := by
 have h : (0 : Int) ≤ (t : Int) ∧ (t : Int) < ((8 : Nat) : Int) := by omega
 have e : aIdxA 8 2 (.ptr 0 0) (.int .i64 (t : Int)) = some (.ptr 0 (2 * t)) := by
  show (if 0 ≤ (t : Int) ∧ (t : Int) < ((8 : Nat) : Int) then some (AVal.ptr 0 (0 + (t : Int).toNat * 2)) else none) = _
  rw [if_pos h, Int.toNat_natCast, Nat.zero_add, Nat.mul_comm]
 show M.ofOption (aIdxA 8 2 (.ptr 0 0) (x.ev fr)) H = _
 rw [hx, e]; rfl
theorem around_x : ∀ t < 8, aroundCs[2 * t + 0]? = some (.int .i64 (dxN t))
 | 0, _ | 1, _ | 2, _ | 3, _ | 4, _ | 5, _ | 6, _ | 7, _ => rfl
theorem around_y : ∀ t < 8, aroundCs[2 * t + 1]? = some (.int .i64 (dyN t))
 | 0, _ | 1, _ | 2, _ | 3, _ | 4, _ | 5, _ | 6, _ | 7, _ => rfl

theorem K_flood {a b s0 n0 : Nat} {e : Bool} {p mk : AVal} {H : AHeap} {l : List UInt8} {M0 : List Nat} [hp : BytesI H p l] [hm : IntsI H mk (cN M0)] [hw : WrS H mk] [hsep : SepS p mk] [hs : Fits a b l] [ht : Tabs H] (hz : RowNe mk 0) (hM : M0.length = a * b) (ha : a ≤ 640) (hb : b ≤ 640) (hsl : s0 < a * b) (h1 : l.getD s0 0 = 1) (h0 : M0.getD s0 0 = 0) (hwh : Whole l a b e (fun i => M0.getD i 0) n0) (hn0 : 0 < n0) : Con ext prog 2 160 [.agg [.int .i64 a, .int .i64 b, p], .bool e, mk, .int .i64 s0, .int .i64 n0] H fun _ H' => ∃ M : List Nat, IntsI H' mk (cN M) ∧ WrS H' mk ∧ ExtP H H' mk ∧ M.length = a * b ∧ ∀ i, (Reach l a b e s0 i → M.getD i 0 = n0) ∧ (¬ Reach l a b e s0 i → M.getD i 0 = M0.getD i 0) := by
 refine con_of (show prog 160 = some c160 from rfl) rfl rfl fun n hn => ?_
 haveI := hp.one
 haveI := hm.one
 have hab : a * b ≤ 640 * 640 := Nat.mul_le_mul ha hb
 obtain ⟨a, rfl⟩ : ∃ a', a = a' + 1 := ⟨a - 1, by have := (div_lt hsl).1; omega⟩
 have hsl' : s0 < (cN M0).length := by rw [cN_length]; omega
 refine sq ?_
 refine rg fun KF hKF => ?_
 refine Fo.boxA rfl ?_
 refine WpO.nil (hKF _ _ ?_)
 refine sq ?_
 refine rg fun KF hKF => ?_
 refine mI rfl ?_
 refine WpO.nil (hKF _ _ ?_)
 refine sq ?_
 refine sq ?_
 refine rg fun KF hKF => ?_
 refine mB rfl ?_
 refine WpO.nil (hKF _ _ ?_)
 dsimp only [cond_true, cond_false]
 refine Wp.set2 (y := 2) (x := 1) rfl rfl ?_
 have hst : (bif e then (1 : Int) else 2) = ((stp e : Nat) : Int) := by cases e <;> rfl
 have hst1 : 1 ≤ stp e ∧ stp e ≤ 2 := by cases e <;> decide
 simp only [hst]
 refine sq ?_
 refine rg fun KF hKF => ?_
 refine Fo.mov (by simp only [↓nrmL, nrmK, Nat.reduceEqDiff, ↓reduceIte]; rfl) ?_
 refine mI rfl ?_
 refine mI rfl ?_
 refine Fo.idx (by simp only [↓nrmL, nrmK, Nat.reduceEqDiff, ↓reduceIte]; rfl) rfl ?_ (by simp only [↓nrmL, nrmZ, Nat.reduceEqDiff, ↓reduceIte]; rfl) ?_; (focus omega)
 refine WpO.do' (WpX.stI (p := mk) (j := s0) (l := cN M0) rfl rfl hsl' fun H1 hb1 hw1 hx1 => ?_)
 rw [cN_set] at hb1
 haveI := hx1
 refine WpO.nil (hKF _ _ ?_)
 refine sq ?_
 refine rg fun KF hKF => ?_
 refine mI rfl ?_
 refine Fo.bslice rfl (by simp only [↓nrmL, nrmZ, Nat.reduceEqDiff, ↓reduceIte]; rfl) ?_
 refine Fo.mov (by simp only [↓nrmL, nrmK, Nat.reduceEqDiff, ↓reduceIte]; rfl) ?_
 refine WpO.nil (hKF _ _ ?_)
 refine Wp.block ?_
 dsimp only [cond_true, cond_false]
 have hfl := Flood.begin (e := e) hsl h1 h0 hwh
 have hsM : s0 < M0.length := by omega
 rw [← getD_setN hsM] at hfl
 have hc0 := count_setN hsM h0 hn0
 have hcl := List.count_le_length (a := 0) (l := M0)
 have hfh0 : FHp (H.push (.row [.int .i64 ((a + 1 : Nat) : Int), .int .i64 b, p] true (2 * 24))) mk [.int .i64 ((a + 1 : Nat) : Int), .int .i64 b, p] H.n (.slice H1.n 0 1 (some 1) 1) [s0] (M0.set s0 n0) (H1.push (.row [.int .i64 (s0 : Int)] true (2 * 3))) := ⟨inferInstance, inferInstance, ⟨H1.n, some 1, _, 2 * 3, rfl, Nat.lt_succ_self _, push_get_eq, rfl, Nat.le_refl _, rfl, Or.inr ⟨1, rfl, Nat.one_pos, Nat.le_refl _, Nat.le_refl _⟩⟩, ⟨fun _ _ _ _ _ q => by cases q; exact hx1.n⟩, inferInstance, ExtP0.ext⟩
 refine Wp.loopS [11, 12, 13, 14, 15, 23, 24, 25, 26, 27, 28, 29, 30, 31, 32, 33, 34, 35, 36, 37, 38, 39, 40, 41, 42, 43, 44, 45, 46, 47, 48, 49, 50, 51, 52, 53, 54, 55, 56, 57, 58, 59, 60, 61, 62, 63, 64, 65, 66, 67, 68, 69, 70, 71, 72, 73, 74, 75, 76, 77, 78, 79, 80, 81, 82, 83, 84, 85, 86, 87, 88, 89, 90, 91, 92, 93] (fun s : AVal × List Nat × List Nat => [(11, s.1)]) (fun _ s H2 => FHp (H.push (.row [.int .i64 ((a + 1 : Nat) : Int), .int .i64 b, p] true (2 * 24))) mk [.int .i64 ((a + 1 : Nat) : Int), .int .i64 b, p] H.n s.1 s.2.1 s.2.2 H2 ∧ Flood l (a + 1) b e (fun i => M0.getD i 0) s0 n0 (fun i => s.2.2.getD i 0) s.2.1 none ∧ s.2.1.length + s.2.2.count 0 ≤ (a + 1) * b ∧ s.2.2.length = (a + 1) * b) (fun s => s.2.1.length + 2 * s.2.2.count 0) (.slice H1.n 0 1 (some 1) 1, [s0], M0.set s0 n0) rfl (fun _ => rfl) ⟨rfl, trivial⟩ ⟨hfh0, hfl, by dsimp only [List.length_singleton]; omega, by dsimp only; rw [List.length_set]; exact hM⟩ (by
  unfold fuel0 at hn
  dsimp only [List.length_singleton]
  omega) ?_
 rintro ⟨wt, W, M⟩ g H2 ⟨hfh, hfl2, hbd, hML⟩
 dsimp only at hfh hfl2 hbd hML
 clear hfl hfh0 hx1 hb1 hw1
 obtain ⟨bm, wm, st, fs, g5, hx2⟩ := hfh
 haveI := hx2
 simp only [↓nrmL, nrmZ, Nat.reduceEqDiff, ↓reduceIte]
 rcases snoc_cases W with rfl | ⟨W', w, rfl⟩
 ·haveI : IntsI H2 wt [] := st.ints
  have hc : decide (((([] : List Int).length : Nat) : Int) > 0) = false := rfl
  try simp only [↓nrmL, nrmZ, Nat.reduceEqDiff, ↓reduceIte, hc]
  refine sq ?_
  refine sq ?_
  refine rg fun KF hKF => ?_
  refine Fo.mov (by simp only [↓nrmL, nrmK, Nat.reduceEqDiff, ↓reduceIte]; rfl) ?_
  refine Fo.len (v := ?_) (by simp only [↓nrmL, nrmK, Nat.reduceEqDiff, ↓reduceIte]; rfl) ?hv ?_; case hv => rfl
  refine Fo.bin rfl rfl rfl (by simp only [↓nrmL, nrmZ, Nat.reduceEqDiff, ↓reduceIte, hc]; rfl) ?_
  refine WpO.nil (hKF _ _ ?_)
  refine Wp.cond (b := false) rfl ?_
  refine Wp.exit ?_
  dsimp only [cond_true, cond_false]
  refine ⟨trivial, _, rfl, ?_⟩
  exact ⟨M, inferInstance, wm, ⟨Nat.le_trans (Nat.le_succ _) hx2.n, fun r hr hne => by rw [hx2.get r (Nat.lt_succ_of_lt hr) hne]; exact push_get_lt hr⟩, hML, hfl2.end hwh hsl h1 h0⟩
 ·haveI := st.ints
  have hlW : (cN (W' ++ [w])).length = W'.length + 1 := by rw [cN_length, List.length_append]; rfl
  have hc : decide ((((cN (W' ++ [w])).length : Nat) : Int) > 0) = true := decide_eq_true (by rw [hlW]; omega)
  rw [List.length_append, List.length_singleton] at hbd
  have hwr : IntKind.i64.wrap ((((cN (W' ++ [w])).length : Nat) : Int) - 1) = (W'.length : Int) := by rw [hlW, w64 (by omega)]; omega
  have hge : (cN (W' ++ [w]))[W'.length]'(by rw [hlW]; exact Nat.lt_succ_self _) = (w : Int) := by
   rw [cN_get, List.getD_eq_getElem?_getD, List.getElem?_append_right (Nat.le_refl _), Nat.sub_self]; rfl
  have hwlt : W'.length < (cN (W' ++ [w])).length := by rw [hlW]; exact Nat.lt_succ_self _
  try simp only [↓nrmL, nrmZ, Nat.reduceEqDiff, ↓reduceIte, hc, hwr, hge]
  refine sq ?_
  refine sq ?_
  refine rg fun KF hKF => ?_
  refine Fo.mov (by simp only [↓nrmL, nrmK, Nat.reduceEqDiff, ↓reduceIte]; rfl) ?_
  refine Fo.len (v := ?_) (by simp only [↓nrmL, nrmK, Nat.reduceEqDiff, ↓reduceIte]; rfl) ?hv ?_; case hv => rfl
  refine Fo.bin rfl rfl rfl (by simp only [↓nrmL, nrmZ, Nat.reduceEqDiff, ↓reduceIte, hc, hwr, hge]; rfl) ?_
  refine WpO.nil (hKF _ _ ?_)
  refine Wp.cond (b := true) rfl ?_
  refine Wp.skip ?_
  refine Wp.block ?_
  refine sq ?_
  refine rg fun KF hKF => ?_
  refine Fo.mov (by simp only [↓nrmL, nrmK, Nat.reduceEqDiff, ↓reduceIte]; rfl) ?_
  refine Fo.mov (by simp only [↓nrmL, nrmK, Nat.reduceEqDiff, ↓reduceIte]; rfl) ?_
  refine Fo.len (v := ?_) (by simp only [↓nrmL, nrmK, Nat.reduceEqDiff, ↓reduceIte]; rfl) ?hv ?_; case hv => rfl
  refine Fo.bin rfl rfl rfl (by simp only [↓nrmL, nrmZ, Nat.reduceEqDiff, ↓reduceIte, hc, hwr, hge]; rfl) ?_
  refine Fo.idx (by simp only [↓nrmL, nrmK, Nat.reduceEqDiff, ↓reduceIte]; rfl) rfl ?_ (by simp only [↓nrmL, nrmZ, Nat.reduceEqDiff, ↓reduceIte, hc, hwr, hge]; rfl) ?_; (focus omega)
  refine Fo.ldI rfl ?_ (by simp only [↓nrmL, nrmZ, Nat.reduceEqDiff, ↓reduceIte, hc, hwr, hge]; rfl) ?_; (focus omega)
  refine mI rfl ?_
  refine WpO.nil (hKF _ _ ?_)
  refine sq ?_
  refine rg fun KF hKF => ?_
  refine Fo.mov (by simp only [↓nrmL, nrmK, Nat.reduceEqDiff, ↓reduceIte]; rfl) ?_
  refine Fo.mov (by simp only [↓nrmL, nrmK, Nat.reduceEqDiff, ↓reduceIte]; rfl) ?_
  refine Fo.len (v := ?_) (by simp only [↓nrmL, nrmK, Nat.reduceEqDiff, ↓reduceIte]; rfl) ?hv ?_; case hv => rfl
  refine Fo.bin rfl rfl rfl (by simp only [↓nrmL, nrmZ, Nat.reduceEqDiff, ↓reduceIte, hc, hwr, hge]; rfl) ?_
  refine WpO.do (WpX.cut (p := wt) (l := W') (k := w) rfl rfl st fun wt1 st1 hsub => ?_)
  have fs1 : FreshS (H.push (.row [.int .i64 ((a + 1 : Nat) : Int), .int .i64 b, p] true (2 * 24))) wt1 := ⟨fun r off len cap sz q => by obtain ⟨_, _, q'⟩ := hsub _ _ _ _ _ q; exact fs.ge _ _ _ _ _ q'⟩
  haveI := st1.ints.one
  refine Fo.mov (by simp only [↓nrmL, nrmK, Nat.reduceEqDiff, ↓reduceIte]; rfl) ?_
  refine WpO.nil (hKF _ _ ?_)
  refine sq ?_
  refine rg fun KF hKF => ?_
  refine mI rfl ?_
  refine WpO.nil (hKF _ _ ?_)
  refine Wp.block ?_
  dsimp only [cond_true, cond_false]
  obtain ⟨_, _, hrw, _⟩ := hfl2.pop.hand w 0 rfl
  have hwl := hrw.end_ok.1
  obtain ⟨_, hwm, hwd, _⟩ := div_lt hwl
  have t3 : ∀ y : Nat, y < b → IntKind.i64.wrap ((y : Nat) : Int) = ((y : Nat) : Int) := fun y hy => w64 (by omega)
  have t1 : ((w : Nat) : Int).tmod ((a + 1 : Nat) : Int) = ((w % (a + 1) : Nat) : Int) := rfl
  have t2 : IntKind.i64.wrap (((w : Nat) : Int).tdiv ((a + 1 : Nat) : Int)) = ((w / (a + 1) : Nat) : Int) := by
   rw [show ((w : Nat) : Int).tdiv ((a + 1 : Nat) : Int) = ((w / (a + 1) : Nat) : Int) from rfl]
   exact t3 _ hwd
  refine Wp.loopS [11, 13, 14, 15, 37, 38, 39, 40, 41, 42, 43, 44, 45, 46, 47, 48, 49, 50, 51, 52, 53, 54, 55, 56, 57, 58, 59, 60, 61, 62, 63, 64, 65, 66, 67, 68, 69, 70, 71, 72, 73, 74, 75, 76, 77, 78, 79, 80, 81, 82, 83, 84, 85, 86, 87, 88, 89, 90, 91, 92, 93] (fun s : AVal × List Nat × List Nat × Nat => [(11, s.1), (13, .int .i64 (s.2.2.2 : Int))]) (fun _ s H3 => FHp (H.push (.row [.int .i64 ((a + 1 : Nat) : Int), .int .i64 b, p] true (2 * 24))) mk [.int .i64 ((a + 1 : Nat) : Int), .int .i64 b, p] H.n s.1 s.2.1 s.2.2.1 H3 ∧ Flood l (a + 1) b e (fun i => M0.getD i 0) s0 n0 (fun i => s.2.2.1.getD i 0) s.2.1 (some (w, s.2.2.2)) ∧ (s.2.1.length + s.2.2.1.count 0 ≤ (a + 1) * b ∧ s.2.1.length + 2 * s.2.2.1.count 0 ≤ W'.length + 2 * M.count 0) ∧ s.2.2.1.length = (a + 1) * b ∧ s.2.2.2 ≤ 8 ∧ s.2.2.2 % stp e = 0) (fun s => 8 - s.2.2.2) (wt1, W', M, 0) rfl (fun _ => rfl) ⟨rfl, rfl, trivial⟩ ⟨⟨bm, wm, st1, fs1, g5, hx2⟩, hfl2.pop, ⟨by dsimp only; omega, Nat.le_refl _⟩, hML, Nat.zero_le _, Nat.zero_mod _⟩ (by unfold fuel0 at hn; dsimp only; omega) ?_
  rintro ⟨wt2, W2, M2, t⟩ gg H3 ⟨hfh3, hfl3, ⟨hbd3, hbe3⟩, hML3, ht8, hts⟩
  dsimp only at hfh3 hfl3 hbd3 hbe3 hML3 ht8 hts
  clear hfl2 hx2 bm wm st fs g5
  obtain ⟨bm, wmk, st, fs, g5, hx3⟩ := hfh3
  haveI := hx3
  haveI : IntsI H3 wt2 (cN W2) := st.ints
  haveI := st.ints.one
  obtain ⟨rwt, et, htab⟩ := tab_row ((inferInstance : Tabs (H.push (.row [.int .i64 ((a + 1 : Nat) : Int), .int .i64 b, p] true (2 * 24)))).keep hx3.n (hx3.get 0 (inferInstance : Tabs (H.push (.row [.int .i64 ((a + 1 : Nat) : Int), .int .i64 b, p] true (2 * 24)))).lt hz))
  haveI := htab
  have hM2 : (cN M2).length = (a + 1) * b := by rw [cN_length]; exact hML3
  simp only [↓nrmL, nrmZ, Nat.reduceEqDiff, ↓reduceIte]
  by_cases ht : t < 8
  ·have hc : decide (((t : Nat) : Int) < 8) = true := decide_eq_true (by omega)
   have wx : IntKind.i64.wrap (((w % (a + 1) : Nat) : Int) + dxN t) = ((w % (a + 1) : Nat) : Int) + dxN t := wd (Nat.le_trans (Nat.le_of_lt hwm) ha) (dN_bd t ht).1
   have wy : IntKind.i64.wrap (((w / (a + 1) : Nat) : Int) + dyN t) = ((w / (a + 1) : Nat) : Int) + dyN t := wd (Nat.le_trans (Nat.le_of_lt hwd) hb) (dN_bd t ht).2
   have hi : inkB (a + 1 : Nat) b l (((w % (a + 1) : Nat) : Int) + dxN t) (((w / (a + 1) : Nat) : Int) + dyN t) = ringF (a + 1) b l ((w % (a + 1) : Nat) : Int) ((w / (a + 1) : Nat) : Int) t := rfl
   have ws : IntKind.i64.wrap (((t : Nat) : Int) + ((stp e : Nat) : Int)) = ((t + stp e : Nat) : Int) := by rw [wa (by omega)]
   have hse : t + stp e ≤ 8 ∧ (t + stp e) % stp e = 0 := by
    cases e
    ·simp only [stp, cond_false] at hts ⊢; omega
    ·simp only [stp, cond_true] at hts ⊢; omega
   try simp only [↓nrmL, nrmZ, Nat.reduceEqDiff, ↓reduceIte, hc, t1, t2, wx, wy, hi]
   refine sq ?_
   refine sq ?_
   refine rg fun KF hKF => ?_
   refine mI rfl ?_
   refine Fo.bin rfl rfl rfl (by simp only [↓nrmL, nrmZ, Nat.reduceEqDiff, ↓reduceIte, hc, t1, t2, wx, wy, hi]; rfl) ?_
   refine WpO.nil (hKF _ _ ?_)
   refine Wp.cond (b := true) rfl ?_
   refine Wp.skip ?_
   refine sq ?_
   refine Wp.block ?_
   refine sq ?_
   refine Fr.quiet rfl rfl fun KF hKF => ?_
   refine mI rfl ?_
   refine Fo.fa rfl ?_
   refine Fo.ld rfl rfl ?_
   refine Fo.bin rfl rfl rfl (by simp only [↓nrmL, nrmZ, Nat.reduceEqDiff, ↓reduceIte, hc, t1, t2, wx, wy, hi]; rfl) ?_
   refine mI rfl ?_
   refine Fo.now rfl (exec_ringA rfl ht) rfl ?_
   try simp only [↓nrmL, nrmZ, Nat.reduceEqDiff, ↓reduceIte, hc, t1, t2, wx, wy, hi]
   refine Fo.fa rfl ?_
   refine Fo.now rfl (exec_ld rfl (around_x t ht)) rfl ?_
   try simp only [↓nrmL, nrmZ, Nat.reduceEqDiff, ↓reduceIte, hc, t1, t2, wx, wy, hi]
   refine Fo.bin rfl rfl rfl (by simp only [↓nrmL, nrmZ, Nat.reduceEqDiff, ↓reduceIte, hc, t1, t2, wx, wy, hi]; rfl) ?_
   refine mI rfl ?_
   refine Fo.fa rfl ?_
   refine Fo.ld rfl rfl ?_
   refine Fo.bin rfl rfl rfl (by simp only [↓nrmL, nrmZ, Nat.reduceEqDiff, ↓reduceIte, hc, t1, t2, wx, wy, hi]; rfl) ?_
   refine mI rfl ?_
   refine Fo.now rfl (exec_ringA rfl ht) rfl ?_
   try simp only [↓nrmL, nrmZ, Nat.reduceEqDiff, ↓reduceIte, hc, t1, t2, wx, wy, hi]
   refine Fo.fa rfl ?_
   refine Fo.now rfl (exec_ld rfl (around_y t ht)) rfl ?_
   try simp only [↓nrmL, nrmZ, Nat.reduceEqDiff, ↓reduceIte, hc, t1, t2, wx, wy, hi]
   refine Fo.bin rfl rfl rfl (by simp only [↓nrmL, nrmZ, Nat.reduceEqDiff, ↓reduceIte, hc, t1, t2, wx, wy, hi]; rfl) ?_
   refine mI rfl ?_
   refine mI rfl ?_
   refine WpO.nil (hKF _ _ ?_)
   refine sq ?_
   refine rg fun KF hKF => ?_
   refine Fo.ldN rfl rfl (by simp only [↓nrmL, nrmZ, Nat.reduceEqDiff, ↓reduceIte, hc, t1, t2, wx, wy, hi]; rfl) ?_
   refine mI rfl ?_
   refine mI rfl ?_
   refine Fo.pcall (v' := ?_) hn rfl (by simp only [↓nrmL, nrmZ, Nat.reduceEqDiff, ↓reduceIte, hc, t1, t2, wx, wy, hi, List.map]; rfl) rfl ?hv fun _ _ => ?_; case hv => (simp only [↓nrmL, nrmZ, Nat.reduceEqDiff, ↓reduceIte, hc, t1, t2, wx, wy, hi]; rfl)
   refine mB rfl ?_
   rename AHeap => H4
   rename ExtI H3 H4 => hx4
   have st4 : Stk H4 wt2 3 (cN W2) := st.keep hx4.ext.n fun _ _ _ _ _ _ hr => hx4.ext.get _ hr
   have hx34 : ExtP (H.push (.row [.int .i64 ((a + 1 : Nat) : Int), .int .i64 b, p] true (2 * 24))) H4 mk := hx3.ext hx4.ext
   cases hv : ringF (a + 1) b l ((w % (a + 1) : Nat) : Int) ((w / (a + 1) : Nat) : Int) t
   ·skip
    try simp only [↓nrmL, nrmZ, Nat.reduceEqDiff, ↓reduceIte, ws]
    refine Fo.no rfl rfl ?_
    refine Fo.no rfl rfl ?_
    refine Fo.no rfl rfl ?_
    refine Fo.no rfl rfl ?_
    refine Fo.no rfl rfl ?_
    refine Fo.no rfl rfl ?_
    refine Fo.no rfl rfl ?_
    refine Fo.no rfl rfl ?_
    refine Fo.no rfl rfl ?_
    refine Fo.no rfl rfl ?_
    refine fB rfl rfl ?_
    refine WpO.nil (hKF _ _ ?_)
    refine Wp.cond (b := false) rfl ?_
    refine Wp.skip ?_
    refine rg fun KF hKF => ?_
    refine mI rfl ?_
    refine mI rfl ?_
    refine Fo.bin rfl rfl rfl (by simp only [↓nrmL, nrmZ, Nat.reduceEqDiff, ↓reduceIte, ws]; rfl) ?_
    refine mI rfl ?_
    refine WpO.nil (hKF _ _ ?_)
    dsimp only [cond_true, cond_false]
    refine ⟨(wt2, W2, M2, t + stp e), by dsimp only; omega, ⟨rfl, rfl, trivial⟩, ⟨inferInstance, inferInstance, st4, fs, inferInstance, hx34⟩, (by have hq := hfl3.off hts hv; exact hq), ⟨hbd3, hbe3⟩, hML3, hse⟩
   ·obtain ⟨u, v, e1, e2, hu, hvb, hl1⟩ := inkB_true hv
    have e1' : ((w % (a + 1) : Nat) : Int) + dxN t = (u : Int) := e1
    have e2' : ((w / (a + 1) : Nat) : Int) + dyN t = (v : Int) := e2
    have hnb : isNb (a + 1) b w t (v * (a + 1) + u) := ⟨u, v, hu, hvb, e1.symm, e2.symm, rfl⟩
    have hidx := isNb_lt hnb
    have hva : v * (a + 1) ≤ 640 * 640 := Nat.mul_le_mul (by omega) ha
    have m1 : IntKind.i64.wrap ((((w / (a + 1) : Nat) : Int) + dyN t) * ((a + 1 : Nat) : Int)) = ((v * (a + 1) : Nat) : Int) := by rw [e2']; exact wm (by omega)
    have m2 : IntKind.i64.wrap (((v * (a + 1) : Nat) : Int) + (((w % (a + 1) : Nat) : Int) + dxN t)) = ((v * (a + 1) + u : Nat) : Int) := by rw [e1']; exact wa (by omega)
    have hix : v * (a + 1) + u < (cN M2).length := by rw [hM2]; exact hidx
    have hge2 : (cN M2)[v * (a + 1) + u]'hix = ((M2.getD (v * (a + 1) + u) 0 : Nat) : Int) := cN_get hix
    try simp only [↓nrmL, nrmZ, Nat.reduceEqDiff, ↓reduceIte, m1, m2, hge2]
    refine Fo.yes rfl rfl ?_
    refine Fo.mov (by simp only [↓nrmL, nrmK, Nat.reduceEqDiff, ↓reduceIte]; rfl) ?_
    refine Fo.yes rfl rfl ?_
    refine mI rfl ?_
    refine Fo.yes rfl rfl ?_
    refine Fo.fa rfl ?_
    refine Fo.yes rfl rfl ?_
    refine Fo.ld rfl rfl ?_
    refine Fo.yes rfl rfl ?_
    refine Fo.bin rfl rfl rfl (by simp only [↓nrmL, nrmZ, Nat.reduceEqDiff, ↓reduceIte, m1, m2, hge2]; rfl) ?_
    refine Fo.yes rfl rfl ?_
    refine mI rfl ?_
    refine Fo.yes rfl rfl ?_
    refine Fo.bin rfl rfl rfl (by simp only [↓nrmL, nrmZ, Nat.reduceEqDiff, ↓reduceIte, m1, m2, hge2]; rfl) ?_
    refine Fo.yes rfl rfl ?_
    refine Fo.idx (by simp only [↓nrmL, nrmK, Nat.reduceEqDiff, ↓reduceIte]; rfl) rfl ?_ (by simp only [↓nrmL, nrmZ, Nat.reduceEqDiff, ↓reduceIte, m1, m2, hge2]; rfl) ?_; (focus omega)
    refine Fo.yes rfl rfl ?_
    refine Fo.ldI rfl ?_ (by simp only [↓nrmL, nrmZ, Nat.reduceEqDiff, ↓reduceIte, m1, m2, hge2]; rfl) ?_; (focus omega)
    refine Fo.yes rfl rfl ?_
    refine Fo.bin rfl rfl rfl rfl ?_
    refine tB rfl rfl ?_
    refine WpO.nil (hKF _ _ ?_)
    dsimp only [cond_true, cond_false]
    cases hz0 : (((M2.getD (v * (a + 1) + u) 0 : Nat) : Int) == 0)
    ·skip
     try simp only [↓nrmL, nrmZ, Nat.reduceEqDiff, ↓reduceIte, ws]
     refine Wp.cond (b := false) rfl ?_
     refine Wp.skip ?_
     refine rg fun KF hKF => ?_
     refine mI rfl ?_
     refine mI rfl ?_
     refine Fo.bin rfl rfl rfl (by simp only [↓nrmL, nrmZ, Nat.reduceEqDiff, ↓reduceIte, ws]; rfl) ?_
     refine mI rfl ?_
     refine WpO.nil (hKF _ _ ?_)
     dsimp only [cond_true, cond_false]
     refine ⟨(wt2, W2, M2, t + stp e), by dsimp only; omega, ⟨rfl, rfl, trivial⟩, ⟨inferInstance, inferInstance, st4, fs, inferInstance, hx34⟩, (by have hq := hfl3.been hts hnb (fun q => by rw [q] at hz0; cases hz0); exact hq), ⟨hbd3, hbe3⟩, hML3, hse⟩
    ·have hz1 : M2.getD (v * (a + 1) + u) 0 = 0 := by have := eq_of_beq hz0; omega
     try simp only [↓nrmL, nrmZ, Nat.reduceEqDiff, ↓reduceIte, m1, m2]
     refine Wp.cond (b := true) rfl ?_
     refine sq ?_
     refine rg fun KF hKF => ?_
     refine Fo.mov (by simp only [↓nrmL, nrmK, Nat.reduceEqDiff, ↓reduceIte]; rfl) ?_
     refine mI rfl ?_
     refine Fo.fa rfl ?_
     refine Fo.ld rfl rfl ?_
     refine Fo.bin rfl rfl rfl (by simp only [↓nrmL, nrmZ, Nat.reduceEqDiff, ↓reduceIte, m1, m2]; rfl) ?_
     refine mI rfl ?_
     refine Fo.bin rfl rfl rfl (by simp only [↓nrmL, nrmZ, Nat.reduceEqDiff, ↓reduceIte, m1, m2]; rfl) ?_
     refine mI rfl ?_
     refine Fo.idx (by simp only [↓nrmL, nrmK, Nat.reduceEqDiff, ↓reduceIte]; rfl) rfl ?_ (by simp only [↓nrmL, nrmZ, Nat.reduceEqDiff, ↓reduceIte, m1, m2]; rfl) ?_; (focus omega)
     refine WpO.do' (WpX.stI (p := mk) (j := v * (a + 1) + u) (l := cN M2) rfl rfl hix fun H5 hb5 hw5 hx5 => ?_)
     rw [cN_set] at hb5
     haveI := hx5
     have hsep5 : SepS wt2 mk := inferInstance
     have st5 : Stk H5 wt2 3 (cN W2) := st4.other hx5 hsep5
     try simp only [↓nrmL, nrmZ, Nat.reduceEqDiff, ↓reduceIte, m1, m2]
     refine WpO.nil (hKF _ _ ?_)
     refine rg fun KF hKF => ?_
     refine Fo.mov (by simp only [↓nrmL, nrmK, Nat.reduceEqDiff, ↓reduceIte]; rfl) ?_
     refine mI rfl ?_
     refine Fo.fa rfl ?_
     refine Fo.ld rfl rfl ?_
     refine Fo.bin rfl rfl rfl (by simp only [↓nrmL, nrmZ, Nat.reduceEqDiff, ↓reduceIte, m1, m2]; rfl) ?_
     refine mI rfl ?_
     refine Fo.bin rfl rfl rfl (by simp only [↓nrmL, nrmZ, Nat.reduceEqDiff, ↓reduceIte, m1, m2]; rfl) ?_
     refine Fo.bslice rfl (by simp only [↓nrmL, nrmZ, Nat.reduceEqDiff, ↓reduceIte, m1, m2]; rfl) ?_
     refine WpO.do (WpX.push (p := wt2) (l := W2) (k := v * (a + 1) + u) rfl rfl st5.pushed one_ints (by omega) fun wt6 H6 st6 hx6 hfr6 => ?_)
     haveI := hx6
     haveI : RowNe wt2 H.n := ⟨fun r off len cap sz q => by
      have h6 := fs.ge _ _ _ _ _ q
      have h7 : (H.push (.row [.int .i64 ((a + 1 : Nat) : Int), .int .i64 b, p] true (2 * 24))).n = H.n + 1 := rfl
      omega⟩
     haveI : ExtP0 (H.push (.row [.int .i64 ((a + 1 : Nat) : Int), .int .i64 b, p] true (2 * 24))) H4 mk := ⟨hx34⟩
     have hcs := count_setN (M := M2) (k := v * (a + 1) + u) (v := n0) (by omega) hz1 hn0
     have hxx : ExtP (H.push (.row [.int .i64 ((a + 1 : Nat) : Int), .int .i64 b, p] true (2 * 24))) (H5.push (.row [.int .i64 ((v * (a + 1) + u : Nat) : Int)] true (2 * 3))) mk := ExtP0.ext
     haveI := st6.ints.one
     try simp only [↓nrmL, nrmZ, Nat.reduceEqDiff, ↓reduceIte, ws]
     refine Fo.mov (by simp only [↓nrmL, nrmK, Nat.reduceEqDiff, ↓reduceIte]; rfl) ?_
     refine WpO.nil (hKF _ _ ?_)
     refine rg fun KF hKF => ?_
     refine mI rfl ?_
     refine mI rfl ?_
     refine Fo.bin rfl rfl rfl (by simp only [↓nrmL, nrmZ, Nat.reduceEqDiff, ↓reduceIte, ws]; rfl) ?_
     refine mI rfl ?_
     refine WpO.nil (hKF _ _ ?_)
     dsimp only [cond_true, cond_false]
     refine ⟨(wt6, W2 ++ [v * (a + 1) + u], M2.set (v * (a + 1) + u) n0, t + stp e), by dsimp only; omega, ⟨rfl, rfl, trivial⟩, ⟨inferInstance, inferInstance, st6, hfr6 _ hxx.n fs, inferInstance, hxx.fresh hx6 fs⟩, (by have hq := hfl3.add hts ht hnb hl1 hz1 hwh hn0 (by omega); exact hq), ⟨by dsimp only; rw [List.length_append, List.length_singleton]; omega, by dsimp only; rw [List.length_append, List.length_singleton]; omega⟩, by dsimp only; rw [List.length_set]; exact hML3, hse⟩
  ·obtain rfl : t = 8 := by omega
   have hc : decide (((8 : Nat) : Int) < 8) = false := rfl
   try simp only [↓nrmL, nrmZ, Nat.reduceEqDiff, ↓reduceIte, hc]
   refine sq ?_
   refine sq ?_
   refine rg fun KF hKF => ?_
   refine mI rfl ?_
   refine Fo.bin rfl rfl rfl (by simp only [↓nrmL, nrmZ, Nat.reduceEqDiff, ↓reduceIte, hc]; rfl) ?_
   refine WpO.nil (hKF _ _ ?_)
   refine Wp.cond (b := false) rfl ?_
   refine Wp.exit ?_
   dsimp only [cond_true, cond_false]
   refine ⟨(wt2, W2, M2), by dsimp only; rw [List.length_append, List.length_singleton]; omega, ⟨rfl, trivial⟩, ⟨bm, wmk, st, fs, g5, hx3⟩, hfl3.drop, hbd3, hML3⟩
end Go.Am

set_option maxHeartbeats 8000000
set_option maxRecDepth 100000
set_option synthInstance.maxHeartbeats 4000000
set_option synthInstance.maxSize 100000
namespace Go.Am
open Go
attribute [local irreducible] Wp WpO WpX WpE

theorem K_label {a b : Nat} {e : Bool} {p : AVal} {H : AHeap} {l : List UInt8} [hp : BytesI H p l] [hs : Fits a b l] [ht : Tabs H] (ha : a ≤ 640) (hb : b ≤ 640) : Con ext prog 3 121 [.agg [.int .i64 a, .int .i64 b, p], .bool e] H fun v H' => ∃ mk M L, v = .tuple [mk, .int .i64 ((L : List Nat).length : Nat)] ∧ IntsI H' mk (cN M) ∧ FreshS H mk ∧ WrS H' mk ∧ Ext H H' ∧ Lab l a b e M L (a * b) := by
 refine con_of (show prog 121 = some c121 from rfl) rfl rfl fun n hn => ?_
 haveI := hp.one
 have hab : a * b ≤ 640 * 640 := Nat.mul_le_mul ha hb
 have hlen := hs.len
 refine sq ?_
 refine rg fun KF hKF => ?_
 refine Fo.boxA rfl ?_
 refine mN rfl ?_
 refine mI rfl ?_
 refine WpO.nil (hKF _ _ ?_)
 refine sq ?_
 refine rg fun KF hKF => ?_
 refine Fo.fa rfl ?_
 refine Fo.ld rfl rfl ?_
 refine Fo.len (v := ?_) (by simp only [↓nrmL, nrmK, Nat.reduceEqDiff, ↓reduceIte]; rfl) ?hv ?_; case hv => rfl
 refine WpO.do (WpX.mkI (n := l.length) rfl rfl rfl (by omega) fun q H1 e1 hq hf hw hx => ?_); try simp only [↓nrmL, nrmZ, Nat.reduceEqDiff, ↓reduceIte]
 haveI := hq.one
 have hzr : cN (List.replicate (a * b) 0) = List.replicate l.length 0 := by simp [cN, hlen]
 have hq2 : IntsI H1 q (cN (List.replicate (a * b) 0)) := by rw [hzr]; exact hq
 have hz : RowNe q 0 := ⟨fun r off len cap sz e => by
  have h1 := hf.ge _ _ _ _ _ e
  have h2 : (H.push (.row [.int .i64 (a : Int), .int .i64 (b : Int), p] true (2 * 24))).n = H.n + 1 := rfl
  omega⟩
 refine Fo.mov (by simp only [↓nrmL, nrmK, Nat.reduceEqDiff, ↓reduceIte]; rfl) ?_
 refine WpO.nil (hKF _ _ ?_)
 refine sq ?_
 refine sq ?_
 refine rg fun KF hKF => ?_
 refine Fo.fa rfl ?_
 refine Fo.ld rfl rfl ?_
 refine Fo.len (v := ?_) (by simp only [↓nrmL, nrmK, Nat.reduceEqDiff, ↓reduceIte]; rfl) ?hv ?_; case hv => rfl
 refine mI rfl ?_
 refine WpO.nil (hKF _ _ ?_)
 refine Wp.block ?_
 dsimp only [cond_true, cond_false]
 refine Wp.loopS [5, 6, 7, 15, 16, 17, 18, 19, 20, 21, 22, 23, 24, 25, 26, 27, 28, 29, 30, 31, 32, 33, 34, 35, 36, 37] (fun s : Nat × List Nat × List Nat => [(5, .int .i64 ((s.2.2.length : Nat) : Int)), (15, .int .i64 (s.1 : Int))]) (fun H3 s H2 => s.1 ≤ a * b ∧ Lab l a b e s.2.1 s.2.2 s.1 ∧ IntsI H2 q (cN s.2.1) ∧ WrS H2 q ∧ ExtP0 H3 H2 q) (fun s => a * b - s.1) (0, List.replicate (a * b) 0, []) rfl (fun _ => rfl) ⟨rfl, rfl, trivial⟩ ⟨Nat.zero_le _, Lab.begin, hq2, inferInstance, inferInstance⟩ (by unfold fuel0 at hn; dsimp only; omega) ?_
 rintro ⟨i, M, L⟩ g H2 ⟨hi, hlab, hb2, hw2, ⟨hx2⟩⟩
 dsimp only at hi hlab hb2
 simp only [↓nrmL, nrmZ, Nat.reduceEqDiff, ↓reduceIte]
 have hML : (cN M).length = a * b := by rw [cN_length]; exact hlab.len
 cases hc : decide ((i : Int) < (l.length : Int))
 ·have hil : i = a * b := by have := of_decide_eq_false hc; omega
  subst hil
  try simp only [↓nrmL, nrmZ, Nat.reduceEqDiff, ↓reduceIte, hc]
  refine sq ?_
  refine rg fun KF hKF => ?_
  refine Fo.bin rfl rfl rfl (by simp only [↓nrmL, nrmZ, Nat.reduceEqDiff, ↓reduceIte, hc]; rfl) ?_
  refine WpO.nil (hKF _ _ ?_)
  refine sq ?_
  refine Wp.cond (b := false) rfl ?_
  refine Wp.exit ?_
  refine sq ?_
  refine rg fun KF hKF => ?_
  refine Fo.mov (by simp only [↓nrmL, nrmK, Nat.reduceEqDiff, ↓reduceIte]; rfl) ?_
  refine mI rfl ?_
  refine Fo.mov (by simp only [↓nrmL, nrmK, Nat.reduceEqDiff, ↓reduceIte]; rfl) ?_
  refine mI rfl ?_
  refine WpO.nil (hKF _ _ ?_)
  refine Wp.ret ?_
  dsimp only [cond_true, cond_false]
  refine ⟨trivial, _, rfl, ?_⟩
  exact ⟨q, M, L, rfl, inferInstance, hf.weak, inferInstance, Ext0.ext, hlab⟩
 ·have hil : i < l.length := by have := of_decide_eq_true hc; omega
  have hiab : i < a * b := by omega
  have hw1 := wa1 (a := i) (by omega)
  have hfew := hlab.few
  have hw3 := wa1 (a := L.length) (by omega)
  have hge : (cN M)[i]'(by omega) = ((M.getD i 0 : Nat) : Int) := cN_get _
  have hiM : i < (cN M).length := by omega
  have hld : l.getD i 0 = l[i] := by rw [List.getD_eq_getElem?_getD, List.getElem?_eq_getElem hil]; rfl
  cases hv : (l[i] == 1)
  ·skip
   try simp only [↓nrmL, nrmZ, Nat.reduceEqDiff, ↓reduceIte, hc, u8_one, hv]
   refine sq ?_
   refine rg fun KF hKF => ?_
   refine Fo.bin rfl rfl rfl (by simp only [↓nrmL, nrmZ, Nat.reduceEqDiff, ↓reduceIte, hc, u8_one, hv]; rfl) ?_
   refine WpO.nil (hKF _ _ ?_)
   refine sq ?_
   refine Wp.cond (b := true) rfl ?_
   refine Wp.skip ?_
   refine sq ?_
   refine Wp.block ?_
   refine sq ?_
   refine rg fun KF hKF => ?_
   refine mI rfl ?_
   refine Fo.idx (by simp only [↓nrmL, nrmK, Nat.reduceEqDiff, ↓reduceIte]; rfl) rfl ?_ (by simp only [↓nrmL, nrmZ, Nat.reduceEqDiff, ↓reduceIte, hc, u8_one, hv]; rfl) ?_; (focus omega)
   refine Fo.ldB rfl ?_ rfl ?_; (focus omega)
   refine mI rfl ?_
   refine mI rfl ?_
   refine WpO.nil (hKF _ _ ?_)
   refine sq ?_
   refine rg fun KF hKF => ?_
   refine mI rfl ?_
   refine Fo.bin rfl rfl rfl (by simp only [↓nrmL, nrmZ, Nat.reduceEqDiff, ↓reduceIte, hc, u8_one, hv]; rfl) ?_
   refine mB rfl ?_
   refine Fo.no rfl rfl ?_
   refine Fo.no rfl rfl ?_
   refine Fo.no rfl rfl ?_
   refine Fo.no rfl rfl ?_
   refine Fo.no rfl rfl ?_
   refine fB rfl rfl ?_
   refine WpO.nil (hKF _ _ ?_)
   refine Wp.cond (b := false) rfl ?_
   refine Wp.skip ?_
   refine rg fun KF hKF => ?_
   refine Fo.bin rfl rfl rfl rfl ?_
   refine mI rfl ?_
   refine WpO.nil (hKF _ _ ?_)
   dsimp only [cond_true, cond_false]
   refine ⟨(i + 1, M, L), by dsimp only; omega, ⟨rfl, by simp only [↓nrmL, nrmZ, Nat.reduceEqDiff, ↓reduceIte]; rw [hw1], trivial⟩, hiab, hlab.skip (fun q => by rw [← hld, q] at hv; cases hv), inferInstance, inferInstance, inferInstance⟩
  ·have hl1 : l.getD i 0 = 1 := by rw [hld]; exact eq_of_beq hv
   try simp only [↓nrmL, nrmZ, Nat.reduceEqDiff, ↓reduceIte, hc, u8_one, hv, hge]
   refine sq ?_
   refine rg fun KF hKF => ?_
   refine Fo.bin rfl rfl rfl (by simp only [↓nrmL, nrmZ, Nat.reduceEqDiff, ↓reduceIte, hc, u8_one, hv, hge]; rfl) ?_
   refine WpO.nil (hKF _ _ ?_)
   refine sq ?_
   refine Wp.cond (b := true) rfl ?_
   refine Wp.skip ?_
   refine sq ?_
   refine Wp.block ?_
   refine sq ?_
   refine rg fun KF hKF => ?_
   refine mI rfl ?_
   refine Fo.idx (by simp only [↓nrmL, nrmK, Nat.reduceEqDiff, ↓reduceIte]; rfl) rfl ?_ (by simp only [↓nrmL, nrmZ, Nat.reduceEqDiff, ↓reduceIte, hc, u8_one, hv, hge]; rfl) ?_; (focus omega)
   refine Fo.ldB rfl ?_ rfl ?_; (focus omega)
   refine mI rfl ?_
   refine mI rfl ?_
   refine WpO.nil (hKF _ _ ?_)
   refine sq ?_
   refine rg fun KF hKF => ?_
   refine mI rfl ?_
   refine Fo.bin rfl rfl rfl (by simp only [↓nrmL, nrmZ, Nat.reduceEqDiff, ↓reduceIte, hc, u8_one, hv, hge]; rfl) ?_
   refine mB rfl ?_
   refine Fo.yes rfl rfl ?_
   refine Fo.mov (by simp only [↓nrmL, nrmK, Nat.reduceEqDiff, ↓reduceIte]; rfl) ?_
   refine Fo.yes rfl rfl ?_
   refine mI rfl ?_
   refine Fo.yes rfl rfl ?_
   refine Fo.idx (by simp only [↓nrmL, nrmK, Nat.reduceEqDiff, ↓reduceIte]; rfl) rfl ?_ (by simp only [↓nrmL, nrmZ, Nat.reduceEqDiff, ↓reduceIte, hc, u8_one, hv, hge]; rfl) ?_; (focus omega)
   refine Fo.yes rfl rfl ?_
   refine Fo.ldI rfl ?_ (by simp only [↓nrmL, nrmZ, Nat.reduceEqDiff, ↓reduceIte, hc, u8_one, hv, hge]; rfl) ?_; (focus omega)
   refine Fo.yes rfl rfl ?_
   refine Fo.bin rfl rfl rfl rfl ?_
   refine tB rfl rfl ?_
   refine WpO.nil (hKF _ _ ?_)
   dsimp only [cond_true, cond_false]
   cases hz0 : (((M.getD i 0 : Nat) : Int) == 0)
   ·skip
    refine Wp.cond (b := false) rfl ?_
    refine Wp.skip ?_
    refine rg fun KF hKF => ?_
    refine Fo.bin rfl rfl rfl rfl ?_
    refine mI rfl ?_
    refine WpO.nil (hKF _ _ ?_)
    dsimp only [cond_true, cond_false]
    refine ⟨(i + 1, M, L), by dsimp only; omega, ⟨rfl, by simp only [↓nrmL, nrmZ, Nat.reduceEqDiff, ↓reduceIte]; rw [hw1], trivial⟩, hiab, hlab.skip (fun _ q => by rw [q] at hz0; cases hz0), inferInstance, inferInstance, inferInstance⟩
   ·have h0 : M.getD i 0 = 0 := by have := eq_of_beq hz0; omega
    try simp only [↓nrmL, nrmZ, Nat.reduceEqDiff, ↓reduceIte, hw3]
    refine Wp.cond (b := true) rfl ?_
    refine sq ?_
    refine rg fun KF hKF => ?_
    refine mI rfl ?_
    refine Fo.bin rfl rfl rfl (by simp only [↓nrmL, nrmZ, Nat.reduceEqDiff, ↓reduceIte, hw3]; rfl) ?_
    refine mI rfl ?_
    refine WpO.nil (hKF _ _ ?_)
    refine rg fun KF hKF => ?_
    refine Fo.ldN rfl rfl (by simp only [↓nrmL, nrmZ, Nat.reduceEqDiff, ↓reduceIte, hw3]; rfl) ?_
    refine mB rfl ?_
    refine Fo.mov (by simp only [↓nrmL, nrmK, Nat.reduceEqDiff, ↓reduceIte]; rfl) ?_
    refine mI rfl ?_
    refine mI rfl ?_
    refine WpO.do (WpX.conD hn rfl rfl (by simp only [↓nrmL, nrmZ, Nat.reduceEqDiff, ↓reduceIte, List.map] <;> rfl) (K_flood (e := e) (l := l) (M0 := M) (s0 := i) (n0 := L.length + 1) hz hlab.len ha hb hiab hl1 h0 hlab.whole (Nat.succ_pos _)) fun v H5 h5 => ?_)
    obtain ⟨M', hb5, hw5, hx5, hM', hm'⟩ := h5
    haveI := hx5
    refine WpO.nil (hKF _ _ ?_)
    refine rg fun KF hKF => ?_
    refine Fo.bin rfl rfl rfl rfl ?_
    refine mI rfl ?_
    refine WpO.nil (hKF _ _ ?_)
    dsimp only [cond_true, cond_false]
    refine ⟨(i + 1, M', L ++ [i]), by dsimp only; omega, ⟨by dsimp only; rw [List.length_append, List.length_singleton]; rfl, by simp only [↓nrmL, nrmZ, Nat.reduceEqDiff, ↓reduceIte]; rw [hw1], trivial⟩, hiab, hlab.next hiab hl1 h0 hM' hm', hb5, hw5, inferInstance⟩
end Go.Am

set_option maxHeartbeats 8000000
set_option maxRecDepth 100000
set_option synthInstance.maxHeartbeats 4000000
set_option synthInstance.maxSize 1000000000
namespace Go.Am
open Go
attribute [local irreducible] Wp WpO WpX WpE

theorem K_Components {a b : Nat} {e : Bool} {p : AVal} {H : AHeap} {l : List UInt8} [hp : BytesI H p l] [ht : Tabs H] (ok : Ok a b l) : Con ext prog 5 60 [.agg [.int .i64 a, .int .i64 b, p], .bool e] H fun v H' => ∃ q K M L C, v = .tuple [q, .int .i64 0] ∧ Ext H K ∧ CmpsR K H' q l a b e M L C ∧ FreshS K q ∧ Ext H H' := by
 refine con_of (show prog 60 = some c60 from rfl) rfl rfl fun n hn => ?_
 haveI := hp.one
 haveI : Fits a b l := ⟨ok.sized⟩
 have ee := ok.err
 have ha := ok.wa
 have hb := ok.hb
 have hab : a * b ≤ 640 * 640 := Nat.mul_le_mul ha hb
 try simp only [↓nrmL, nrmZ, Nat.reduceEqDiff, ↓reduceIte, Nat.reduceAdd, Int.reduceBEq, Int.reduceBNe, ee]
 refine sq ?_
 refine rg fun KF hKF => ?_
 refine Fo.boxA rfl ?_
 refine mN rfl ?_
 refine mI rfl ?_
 refine WpO.nil (hKF _ _ ?_)
 refine sq ?_
 refine sq ?_
 refine rg fun KF hKF => ?_
 refine Fo.ldN rfl rfl (by simp only [↓nrmL, nrmZ, Nat.reduceEqDiff, ↓reduceIte, Nat.reduceAdd, Int.reduceBEq, Int.reduceBNe, ee]; rfl) ?_
 refine Fo.pcall (v' := ?_) hn rfl (by simp only [↓nrmL, nrmZ, Nat.reduceEqDiff, ↓reduceIte, Nat.reduceAdd, Int.reduceBEq, Int.reduceBNe, ee, List.map]; rfl) rfl ?hv fun _ _ => ?_; case hv => (simp only [↓nrmL, nrmZ, Nat.reduceEqDiff, ↓reduceIte, Nat.reduceAdd, Int.reduceBEq, Int.reduceBNe, ee]; rfl)
 refine mI rfl ?_
 refine WpO.nil (hKF _ _ ?_)
 refine sq ?_
 refine rg fun KF hKF => ?_
 refine mI rfl ?_
 refine Fo.bin rfl rfl rfl (by simp only [↓nrmL, nrmZ, Nat.reduceEqDiff, ↓reduceIte, Nat.reduceAdd, Int.reduceBEq, Int.reduceBNe, ee]; rfl) ?_
 refine WpO.nil (hKF _ _ ?_)
 refine Wp.cond (b := false) rfl ?_
 refine Wp.skip ?_
 refine sq ?_
 refine rg fun KF hKF => ?_
 refine Fo.ldN rfl rfl (by simp only [↓nrmL, nrmZ, Nat.reduceEqDiff, ↓reduceIte, Nat.reduceAdd, Int.reduceBEq, Int.reduceBNe, ee]; rfl) ?_
 refine mB rfl ?_
 rename AHeap => Hc
 rename ExtI _ Hc => hxc
 refine WpO.do (WpX.conD hn rfl rfl (by simp only [↓nrmL, nrmZ, Nat.reduceEqDiff, ↓reduceIte, Nat.reduceAdd, Int.reduceBEq, Int.reduceBNe, List.map] <;> rfl) (K_label (e := e) (l := l) ha hb) fun v H1 h5 => ?_)
 obtain ⟨mk, M, L, rfl, hm1, hfm, hwm, hx1, hlab⟩ := h5
 haveI : ExtI _ H1 := ⟨hx1⟩
 haveI := hm1.one
 have hE1 : Ext H H1 := Ext0.ext
 haveI hrI : HasRow H1 H.n [.int .i64 (a : Int), .int .i64 (b : Int), p] true (2 * 24) := inferInstance
 have hML : (cN M).length = a * b := by rw [cN_length]; exact hlab.len
 refine mT rfl ?_
 refine Fo.extr rfl rfl ?_
 refine Fo.extr rfl rfl ?_
 refine Fo.mov (by simp only [↓nrmL, nrmK, Nat.reduceEqDiff, ↓reduceIte]; rfl) ?_
 refine mI rfl ?_
 refine WpO.nil (hKF _ _ ?_)
 refine sq ?_
 refine rg fun KF hKF => ?_
 refine mI rfl ?_
 refine WpO.do (WpX.mkC (n := L.length) (K0 := H1) a rfl rfl (by decide) (by have := hlab.few; omega) (Nat.le_refl _) fun q H2 hq hf hx2 => ?_)
 haveI := hq.row.one
 refine Fo.mov (by simp only [↓nrmL, nrmK, Nat.reduceEqDiff, ↓reduceIte]; rfl) ?_
 refine WpO.nil (hKF _ _ ?_)
 refine sq ?_
 refine sq ?_
 refine rg fun KF hKF => ?_
 refine Fo.mov (by simp only [↓nrmL, nrmK, Nat.reduceEqDiff, ↓reduceIte]; rfl) ?_
 refine Fo.len (v := ?_) (by simp only [↓nrmL, nrmK, Nat.reduceEqDiff, ↓reduceIte]; rfl) ?hv ?_; case hv => rfl
 refine mI rfl ?_
 refine WpO.nil (hKF _ _ ?_)
 refine Wp.block ?_
 dsimp only [cond_true, cond_false]
 refine Wp.loopS [10, 11, 12, 13, 29, 30, 31, 32, 33, 34, 35, 36, 37, 38, 39, 40, 41, 42, 43, 44, 45, 46, 47, 48, 49, 50, 51, 52, 53, 54, 55, 56, 57, 58, 59, 60, 61, 62, 63, 64, 65, 66, 67, 68] (fun i : Nat => [(29, .int .i64 (i : Int))]) (fun _ i H4 => i ≤ a * b ∧ (∃ C, C.length = L.length ∧ Cmps H1 H4 q a C (pxAll M L.length i) ∧ ∀ (k : Nat) c, C[k]? = some c → c.1 = bxL a (pxs M i k)) ∧ IntsI H4 mk (cN M) ∧ HasRow H4 H.n [.int .i64 (a : Int), .int .i64 (b : Int), p] true (2 * 24) ∧ Ext0 H1 H4) (fun i => a * b - i) 0 rfl (fun _ => rfl) ⟨rfl, trivial⟩ ⟨Nat.zero_le _, ⟨noC L.length, List.length_replicate .., by rw [pxAll_zero]; exact hq, fun k c hc => by rw [rep_at hc]; rfl⟩, inferInstance, inferInstance, inferInstance⟩ (by unfold fuel0 at hn; omega) ?_
 rintro i g H4 ⟨hi, ⟨C, hCL, hC, hbx⟩, hb4, hr4, hx4⟩
 simp only [↓nrmL, nrmZ, Nat.reduceEqDiff, ↓reduceIte, Nat.reduceAdd, Int.reduceBEq, Int.reduceBNe]
 cases hc : decide ((i : Int) < ((cN M).length : Int))
 ·have hil : i = a * b := by have := of_decide_eq_false hc; omega
  subst hil
  try simp only [↓nrmL, nrmZ, Nat.reduceEqDiff, ↓reduceIte, Nat.reduceAdd, Int.reduceBEq, Int.reduceBNe, hc]
  refine sq ?_
  refine rg fun KF hKF => ?_
  refine Fo.bin rfl rfl rfl (by simp only [↓nrmL, nrmZ, Nat.reduceEqDiff, ↓reduceIte, Nat.reduceAdd, Int.reduceBEq, Int.reduceBNe, hc]; rfl) ?_
  refine WpO.nil (hKF _ _ ?_)
  refine sq ?_
  refine Wp.cond (b := false) rfl ?_
  refine Wp.exit ?_
  refine sq ?_
  refine rg fun KF hKF => ?_
  refine Fo.mov (by simp only [↓nrmL, nrmK, Nat.reduceEqDiff, ↓reduceIte]; rfl) ?_
  refine Fo.mov (by simp only [↓nrmL, nrmK, Nat.reduceEqDiff, ↓reduceIte]; rfl) ?_
  refine mI rfl ?_
  refine WpO.nil (hKF _ _ ?_)
  refine Wp.ret ?_
  dsimp only [cond_true, cond_false]
  refine ⟨trivial, _, rfl, ?_⟩
  exact ⟨q, H1, M, L, C, rfl, hE1, ⟨hlab, hC, hbx, hCL⟩, hf, hE1.trans Ext0.ext⟩
 have hil : i < a * b := by have := of_decide_eq_true hc; omega
 have hw1 := wa1 (a := i) (by omega)
 have hiM : i < (cN M).length := by omega
 have hge : (cN M)[i]'hiM = ((M.getD i 0 : Nat) : Int) := cN_get _
 cases hz0 : (((M.getD i 0 : Nat) : Int) == 0)
 rotate_left
 ·have h0 : M.getD i 0 = 0 := by have := eq_of_beq hz0; omega
  try simp only [↓nrmL, nrmZ, Nat.reduceEqDiff, ↓reduceIte, Nat.reduceAdd, Int.reduceBEq, Int.reduceBNe, hc, hge, hz0]
  refine sq ?_
  refine rg fun KF hKF => ?_
  refine Fo.bin rfl rfl rfl (by simp only [↓nrmL, nrmZ, Nat.reduceEqDiff, ↓reduceIte, Nat.reduceAdd, Int.reduceBEq, Int.reduceBNe, hc, hge, hz0]; rfl) ?_
  refine WpO.nil (hKF _ _ ?_)
  refine sq ?_
  refine Wp.cond (b := true) rfl ?_
  refine Wp.skip ?_
  refine sq ?_
  refine Wp.block ?_
  refine sq ?_
  refine rg fun KF hKF => ?_
  refine mI rfl ?_
  refine Fo.idx (by simp only [↓nrmL, nrmK, Nat.reduceEqDiff, ↓reduceIte]; rfl) rfl ?_ (by simp only [↓nrmL, nrmZ, Nat.reduceEqDiff, ↓reduceIte, Nat.reduceAdd, Int.reduceBEq, Int.reduceBNe, hc, hge, hz0]; rfl) ?_; (focus omega)
  refine Fo.ldI rfl ?_ (by simp only [↓nrmL, nrmZ, Nat.reduceEqDiff, ↓reduceIte, Nat.reduceAdd, Int.reduceBEq, Int.reduceBNe, hc, hge, hz0]; rfl) ?_; (focus omega)
  refine mI rfl ?_
  refine mI rfl ?_
  refine WpO.nil (hKF _ _ ?_)
  refine sq ?_
  refine sq ?_
  refine rg fun KF hKF => ?_
  refine mI rfl ?_
  refine Fo.bin rfl rfl rfl (by simp only [↓nrmL, nrmZ, Nat.reduceEqDiff, ↓reduceIte, Nat.reduceAdd, Int.reduceBEq, Int.reduceBNe, hc, hge, hz0]; rfl) ?_
  refine WpO.nil (hKF _ _ ?_)
  refine Wp.cond (b := true) rfl ?_
  refine Wp.exit ?_
  refine rg fun KF hKF => ?_
  refine Fo.bin rfl rfl rfl rfl ?_
  refine mI rfl ?_
  refine WpO.nil (hKF _ _ ?_)
  dsimp only [cond_true, cond_false]
  refine ⟨i + 1, by omega, ⟨by simp only [↓nrmL, nrmZ, Nat.reduceEqDiff, ↓reduceIte, Nat.reduceAdd, Int.reduceBEq, Int.reduceBNe]; rw [hw1], trivial⟩, hil, ⟨C, hCL, by rw [pxAll_skip h0]; exact hC, fun k c hk => by rw [pxs_miss (by omega)]; exact hbx k c hk⟩, inferInstance, inferInstance, inferInstance⟩
 have h0 : M.getD i 0 ≠ 0 := by have := ne_of_beq_false hz0; omega
 have hlt := hlab.whole.lt i
 try dsimp only at hlt
 obtain ⟨k, hk⟩ : ∃ k, M.getD i 0 = k + 1 := ⟨M.getD i 0 - 1, by omega⟩
 have hkL : k < L.length := by omega
 have hkC : k < C.length := by omega
 obtain ⟨c, hck⟩ : ∃ c, C[k]? = some c := ⟨C[k], List.getElem?_eq_getElem hkC⟩
 have hPk := pxAll_at (M := M) (i := i) hkL
 have hown := hC.own k c _ hck hPk
 have hcr := hC.row
 rw [hk] at hge
 have hs1 : IntKind.i64.wrap (((k + 1 : Nat) : Int) - 1) = (k : Int) := by rw [w64 (by have := hlab.few; omega)]; omega
 have hi6 : i < 640 * 640 := by omega
 have hL6 := hlab.few
 obtain ⟨a', rfl⟩ : ∃ a', a = a' + 1 := ⟨a - 1, by have := (div_lt hil).1; omega⟩
 have t1 : (i : Int).tmod ((a' + 1 : Nat) : Int) = ((i % (a' + 1) : Nat) : Int) := rfl
 have t2 : IntKind.i64.wrap ((i : Int).tdiv ((a' + 1 : Nat) : Int)) = ((i / (a' + 1) : Nat) : Int) := by
  show IntKind.i64.wrap ((i / (a' + 1) : Nat) : Int) = _
  have h9 := Nat.div_le_self i (a' + 1)
  generalize i / (a' + 1) = z at h9
  exact w64 (by omega)
 try simp only [↓nrmL, nrmZ, Nat.reduceEqDiff, ↓reduceIte, Nat.reduceAdd, Int.reduceBEq, Int.reduceBNe, hc, hge, hz0, hs1]
 refine sq ?_
 refine rg fun KF hKF => ?_
 refine Fo.bin rfl rfl rfl (by simp only [↓nrmL, nrmZ, Nat.reduceEqDiff, ↓reduceIte, Nat.reduceAdd, Int.reduceBEq, Int.reduceBNe, hc, hge, hz0, hs1]; rfl) ?_
 refine WpO.nil (hKF _ _ ?_)
 refine sq ?_
 refine Wp.cond (b := true) rfl ?_
 refine Wp.skip ?_
 refine sq ?_
 refine Wp.block ?_
 refine sq ?_
 refine rg fun KF hKF => ?_
 refine mI rfl ?_
 refine Fo.idx (by simp only [↓nrmL, nrmK, Nat.reduceEqDiff, ↓reduceIte]; rfl) rfl ?_ (by simp only [↓nrmL, nrmZ, Nat.reduceEqDiff, ↓reduceIte, Nat.reduceAdd, Int.reduceBEq, Int.reduceBNe, hc, hge, hz0, hs1]; rfl) ?_; (focus omega)
 refine Fo.ldI rfl ?_ (by simp only [↓nrmL, nrmZ, Nat.reduceEqDiff, ↓reduceIte, Nat.reduceAdd, Int.reduceBEq, Int.reduceBNe, hc, hge, hz0, hs1]; rfl) ?_; (focus omega)
 refine mI rfl ?_
 refine mI rfl ?_
 refine WpO.nil (hKF _ _ ?_)
 refine sq ?_
 refine sq ?_
 refine rg fun KF hKF => ?_
 refine mI rfl ?_
 refine Fo.bin rfl rfl rfl rfl ?_
 refine WpO.nil (hKF _ _ ?_)
 refine Wp.cond (b := false) rfl ?_
 refine Wp.skip ?_
 refine sq ?_
 refine rg fun KF hKF => ?_
 refine Fo.mov (by simp only [↓nrmL, nrmK, Nat.reduceEqDiff, ↓reduceIte]; rfl) ?_
 refine mI rfl ?_
 refine Fo.bin rfl rfl rfl (by simp only [↓nrmL, nrmZ, Nat.reduceEqDiff, ↓reduceIte, Nat.reduceAdd, Int.reduceBEq, Int.reduceBNe, hc, hge, hz0, hs1]; rfl) ?_
 refine Fo.idx (by simp only [↓nrmL, nrmK, Nat.reduceEqDiff, ↓reduceIte]; rfl) rfl ?_ (by simp only [↓nrmL, nrmZ, Nat.reduceEqDiff, ↓reduceIte, Nat.reduceAdd, Int.reduceBEq, Int.reduceBNe, hc, hge, hz0, hs1]; rfl) ?_; (focus omega)
 refine mP rfl ?_
 refine WpO.nil (hKF _ _ ?_)
 refine sq ?_
 dsimp only [cond_true, cond_false]
 refine Fr.dregionE [.row [.int .i64 0, .int .i64 0] true (2 * 88)] ?_ fun KF hKF => ?_
 ·skip
  refine oracle_pre rfl rfl rfl rfl ?_; (try simp only [↓nrmL, nrmZ, Nat.reduceEqDiff, ↓reduceIte, Nat.reduceAdd, Int.reduceBEq, Int.reduceBNe, t1, t2])
  refine oracle_pre rfl rfl rfl rfl ?_; (try simp only [↓nrmL, nrmZ, Nat.reduceEqDiff, ↓reduceIte, Nat.reduceAdd, Int.reduceBEq, Int.reduceBNe, t1, t2])
  refine oracle_pre rfl rfl rfl (exec_ld rfl rfl) ?_; (try simp only [↓nrmL, nrmZ, Nat.reduceEqDiff, ↓reduceIte, Nat.reduceAdd, Int.reduceBEq, Int.reduceBNe, t1, t2])
  refine oracle_pre rfl rfl rfl rfl ?_; (try simp only [↓nrmL, nrmZ, Nat.reduceEqDiff, ↓reduceIte, Nat.reduceAdd, Int.reduceBEq, Int.reduceBNe, t1, t2])
  refine oracle_pre rfl rfl rfl rfl ?_; (try simp only [↓nrmL, nrmZ, Nat.reduceEqDiff, ↓reduceIte, Nat.reduceAdd, Int.reduceBEq, Int.reduceBNe, t1, t2])
  refine oracle_pre rfl rfl rfl rfl ?_; (try simp only [↓nrmL, nrmZ, Nat.reduceEqDiff, ↓reduceIte, Nat.reduceAdd, Int.reduceBEq, Int.reduceBNe, t1, t2])
  refine oracle_pre rfl rfl rfl (exec_ld rfl rfl) ?_; (try simp only [↓nrmL, nrmZ, Nat.reduceEqDiff, ↓reduceIte, Nat.reduceAdd, Int.reduceBEq, Int.reduceBNe, t1, t2])
  refine oracle_pre rfl rfl rfl rfl ?_; (try simp only [↓nrmL, nrmZ, Nat.reduceEqDiff, ↓reduceIte, Nat.reduceAdd, Int.reduceBEq, Int.reduceBNe, t1, t2])
  refine oracle_pre rfl rfl rfl rfl ?_; (try simp only [↓nrmL, nrmZ, Nat.reduceEqDiff, ↓reduceIte, Nat.reduceAdd, Int.reduceBEq, Int.reduceBNe, t1, t2])
  refine oracle_made rfl rfl rfl ?_; (try simp only [↓nrmL, nrmZ, Nat.reduceEqDiff, ↓reduceIte, Nat.reduceAdd, Int.reduceBEq, Int.reduceBNe, t1, t2])
  exact oracle_none _ _ _ _ rfl
 simp only [pushAll]
 try simp only [↓nrmL, nrmZ, Nat.reduceEqDiff, ↓reduceIte, Nat.reduceAdd, Int.reduceBEq, Int.reduceBNe, t1, t2]
 refine Fe.pure rfl rfl (by simp only [↓nrmL, nrmZ, Nat.reduceEqDiff, ↓reduceIte, Nat.reduceAdd, Int.reduceBEq, Int.reduceBNe, t1, t2]; rfl) ?_
 refine Fe.pure rfl rfl (by simp only [↓nrmL, nrmZ, Nat.reduceEqDiff, ↓reduceIte, Nat.reduceAdd, Int.reduceBEq, Int.reduceBNe, t1, t2]; rfl) ?_
 refine Fe.read rfl (exec_ld rfl rfl) rfl (by repeat (first | exact trivial | refine ⟨(by first | exact Or.inl (by dsimp only; decide) | exact Or.inr (exec_ld rfl rfl) | exact Or.inr (exec_ldN rfl rfl rfl) | exact Or.inr (exec_ldB rfl (by omega)) | exact Or.inr (exec_ldI rfl (by omega)) | exact Or.inr ghost_of), ?_⟩)) ?_
 refine Fe.pure rfl rfl (by simp only [↓nrmL, nrmZ, Nat.reduceEqDiff, ↓reduceIte, Nat.reduceAdd, Int.reduceBEq, Int.reduceBNe, t1, t2]; rfl) ?_
 refine Fe.pure rfl rfl (by simp only [↓nrmL, nrmZ, Nat.reduceEqDiff, ↓reduceIte, Nat.reduceAdd, Int.reduceBEq, Int.reduceBNe, t1, t2]; rfl) ?_
 refine Fe.pure rfl rfl (by simp only [↓nrmL, nrmZ, Nat.reduceEqDiff, ↓reduceIte, Nat.reduceAdd, Int.reduceBEq, Int.reduceBNe, t1, t2]; rfl) ?_
 refine Fe.read rfl (exec_ld rfl rfl) rfl (by repeat (first | exact trivial | refine ⟨(by first | exact Or.inl (by dsimp only; decide) | exact Or.inr (exec_ld rfl rfl) | exact Or.inr (exec_ldN rfl rfl rfl) | exact Or.inr (exec_ldB rfl (by omega)) | exact Or.inr (exec_ldI rfl (by omega)) | exact Or.inr ghost_of), ?_⟩)) ?_
 refine Fe.pure rfl rfl (by simp only [↓nrmL, nrmZ, Nat.reduceEqDiff, ↓reduceIte, Nat.reduceAdd, Int.reduceBEq, Int.reduceBNe, t1, t2]; rfl) ?_
 refine Fe.pure rfl rfl (by simp only [↓nrmL, nrmZ, Nat.reduceEqDiff, ↓reduceIte, Nat.reduceAdd, Int.reduceBEq, Int.reduceBNe, t1, t2]; rfl) ?_
 refine Fe.made rfl rfl ghost_of (by repeat (first | exact trivial | refine ⟨(by first | exact Or.inl (by dsimp only; decide) | exact Or.inr (exec_ld rfl rfl) | exact Or.inr (exec_ldN rfl rfl rfl) | exact Or.inr (exec_ldB rfl (by omega)) | exact Or.inr (exec_ldI rfl (by omega)) | exact Or.inr ghost_of), ?_⟩)) rfl ?_
 refine Fe.effect0 rfl (exec_st rfl (by (try simp only [↓nrmL, nrmZ, Nat.reduceEqDiff, ↓reduceIte, Nat.reduceAdd, Int.reduceBEq, Int.reduceBNe, t1, t2]); rfl) rfl rfl rfl (by repeat (first | rfl | refine allOne_cons ?_)) (by (try simp only [↓nrmL, nrmZ, Nat.reduceEqDiff, ↓reduceIte, Nat.reduceAdd, Int.reduceBEq, Int.reduceBNe, t1, t2]); rfl)) (by repeat (first | exact trivial | refine ⟨(by first | exact Or.inl (by dsimp only; decide) | exact Or.inr (readOk_of (exec_ld rfl rfl)) | exact Or.inr (readOk_of (exec_ldN rfl rfl rfl)) | exact Or.inr (readOk_of (exec_ldB rfl (by omega))) | exact Or.inr (readOk_of (exec_ldI rfl (by omega))) | exact Or.inr (made_of rfl)), ?_⟩)) ?_
 refine WpE.nil (hKF _ _ ?_)
 refine sq ?_
 obtain ⟨hq4, hq5⟩ := cellsC_at hck
 refine Fr.dregion0 rfl fun KF hKF => ?_
 refine Fe.pure rfl rfl (by simp only [↓nrmL, nrmZ, Nat.reduceEqDiff, ↓reduceIte, Nat.reduceAdd, Int.reduceBEq, Int.reduceBNe]; rfl) ?_
 refine Fe.pure rfl rfl (by simp only [↓nrmL, nrmZ, Nat.reduceEqDiff, ↓reduceIte, Nat.reduceAdd, Int.reduceBEq, Int.reduceBNe]; rfl) ?_
 refine Fe.pure rfl rfl rfl ?_
 refine Fe.pure rfl rfl rfl ?_
 refine Fe.read rfl (exec_ldNP (p := q) (j := k * 5) rfl (by decide) (by rw [cellsC_length]; omega) hq4) rfl trivial ?_
 refine Fe.read rfl (exec_ldN rfl rfl (by simp only [↓nrmL, nrmZ, Nat.reduceEqDiff, ↓reduceIte, Nat.reduceAdd, Int.reduceBEq, Int.reduceBNe]; rfl)) rfl (by repeat (first | exact trivial | refine ⟨(by first | exact Or.inl (by dsimp only; decide) | exact Or.inr (exec_ld rfl rfl) | exact Or.inr (exec_ldN rfl rfl rfl) | exact Or.inr (exec_ldB rfl (by omega)) | exact Or.inr (exec_ldI rfl (by omega)) | exact Or.inr ghost_of), ?_⟩)) ?_
 refine Fe.pcall (v' := ?_) rfl hn rfl (by simp only [↓nrmL, nrmZ, Nat.reduceEqDiff, ↓reduceIte, Nat.reduceAdd, Int.reduceBEq, Int.reduceBNe, List.map]; rfl) rfl ?hv fun _ _ => ⟨(by repeat (first | exact trivial | refine ⟨(by first | exact Or.inl (by dsimp only; decide) | exact Or.inr (readOk_of (exec_ld rfl rfl)) | exact Or.inr (readOk_of (exec_ldN rfl rfl rfl)) | exact Or.inr (readOk_of (exec_ldB rfl (by omega))) | exact Or.inr (readOk_of (exec_ldI rfl (by omega))) | exact Or.inr (made_of rfl)), ?_⟩)), ?_⟩; case hv => rfl
 refine Fe.pure rfl rfl rfl ?_
 refine Fe.pure rfl rfl rfl ?_
 haveI := hC.wr
 refine WpE.stPN (p := q) (j := k * 5) (m := 4) (vs := (bxS c.1 ((i % (a' + 1) : Nat) : Int) ((i / (a' + 1) : Nat) : Int)).cells) rfl rfl rfl rfl (bx_cells _).1 (by decide) (bx_cells _).2 (by rw [cellsC_length]; omega) fun H5 s5 w5 x5 => ⟨(by repeat (first | exact trivial | refine ⟨(by first | exact Or.inl (by dsimp only; decide) | exact Or.inr (readOk_of (exec_ld rfl rfl)) | exact Or.inr (readOk_of (exec_ldN rfl rfl rfl)) | exact Or.inr (readOk_of (exec_ldB rfl (by omega))) | exact Or.inr (readOk_of (exec_ldI rfl (by omega))) | exact Or.inr (made_of rfl)), ?_⟩)), ?_⟩
 rw [cellsC_box _ _ _ (bxS c.1 ((i % (a' + 1) : Nat) : Int) ((i / (a' + 1) : Nat) : Int)) hck] at s5
 refine WpE.nil (hKF _ _ ?_)
 dsimp only [cond_true, cond_false]
 have hck2 : (C.set k (bxS c.1 ((i % (a' + 1) : Nat) : Int) ((i / (a' + 1) : Nat) : Int), c.2))[k]? = some (bxS c.1 ((i % (a' + 1) : Nat) : Int) ((i / (a' + 1) : Nat) : Int), c.2) := List.getElem?_set_self hkC
 obtain ⟨_, hq6⟩ := cellsC_at hck2
 haveI := w5
 haveI : SepS c.2 q := hC.sepq k c hck
 haveI : FreshS H1 c.2 := hC.fresh k c hck
 have hcsl := hown.sl
 haveI : OneV c.2 := hcsl.one
 have hpl := pxs_le M i k
 refine Fr.dregionE [.row [.int .i64 ((i % (a' + 1) : Nat) : Int), .int .i64 ((i / (a' + 1) : Nat) : Int)] true (2 * 88)] ?_ fun KF hKF => ?_
 ·skip
  refine oracle_pre rfl rfl rfl rfl ?_; (try simp only [↓nrmL, nrmZ, Nat.reduceEqDiff, ↓reduceIte, Nat.reduceAdd, Int.reduceBEq, Int.reduceBNe])
  refine oracle_pre rfl rfl rfl rfl ?_; (try simp only [↓nrmL, nrmZ, Nat.reduceEqDiff, ↓reduceIte, Nat.reduceAdd, Int.reduceBEq, Int.reduceBNe])
  refine oracle_pre rfl rfl rfl rfl ?_; (try simp only [↓nrmL, nrmZ, Nat.reduceEqDiff, ↓reduceIte, Nat.reduceAdd, Int.reduceBEq, Int.reduceBNe])
  refine oracle_pre rfl rfl rfl rfl ?_; (try simp only [↓nrmL, nrmZ, Nat.reduceEqDiff, ↓reduceIte, Nat.reduceAdd, Int.reduceBEq, Int.reduceBNe])
  refine oracle_pre rfl rfl rfl (exec_ldP (p := q) (j := k * 5 + 4) rfl hq6) ?_
  refine oracle_pre rfl rfl rfl (exec_ldN rfl rfl rfl) ?_; (try simp only [↓nrmL, nrmZ, Nat.reduceEqDiff, ↓reduceIte, Nat.reduceAdd, Int.reduceBEq, Int.reduceBNe])
  refine oracle_made rfl rfl rfl ?_; (try simp only [↓nrmL, nrmZ, Nat.reduceEqDiff, ↓reduceIte, Nat.reduceAdd, Int.reduceBEq, Int.reduceBNe])
  exact oracle_none _ _ _ _ rfl
 simp only [pushAll]
 refine Fe.pure rfl rfl (by simp only [↓nrmL, nrmZ, Nat.reduceEqDiff, ↓reduceIte, Nat.reduceAdd, Int.reduceBEq, Int.reduceBNe]; rfl) ?_
 refine Fe.pure rfl rfl (by simp only [↓nrmL, nrmZ, Nat.reduceEqDiff, ↓reduceIte, Nat.reduceAdd, Int.reduceBEq, Int.reduceBNe]; rfl) ?_
 refine Fe.pure rfl rfl rfl ?_
 refine Fe.pure rfl rfl rfl ?_
 refine Fe.read rfl (exec_ldP (p := q) (j := k * 5 + 4) rfl hq6) rfl trivial ?_
 refine Fe.read rfl (exec_ldN rfl rfl (by simp only [↓nrmL, nrmZ, Nat.reduceEqDiff, ↓reduceIte, Nat.reduceAdd, Int.reduceBEq, Int.reduceBNe]; rfl)) rfl (by repeat (first | exact trivial | refine ⟨(by first | exact Or.inl (by dsimp only; decide) | exact Or.inr (exec_ld rfl rfl) | exact Or.inr (exec_ldN rfl rfl rfl) | exact Or.inr (exec_ldB rfl (by omega)) | exact Or.inr (exec_ldI rfl (by omega)) | exact Or.inr ghost_of), ?_⟩)) ?_
 refine Fe.made rfl rfl ghost_of (by repeat (first | exact trivial | refine ⟨(by first | exact Or.inl (by dsimp only; decide) | exact Or.inr (exec_ld rfl rfl) | exact Or.inr (exec_ldN rfl rfl rfl) | exact Or.inr (exec_ldB rfl (by omega)) | exact Or.inr (exec_ldI rfl (by omega)) | exact Or.inr ghost_of), ?_⟩)) rfl ?_
 haveI : SepS q c.2 := (hC.sepq k c hck).symm
 haveI hnew : SliceAt (H5.push (.row [.int .i64 ((i % (a' + 1) : Nat) : Int), .int .i64 ((i / (a' + 1) : Nat) : Int)] true (2 * 88))) (.slice H5.n 0 1 (some 1) 2) 2 1 [.int .i64 ((i % (a' + 1) : Nat) : Int), .int .i64 ((i / (a' + 1) : Nat) : Int)] := ⟨Or.inr ⟨H5.n, 0, some 1, _, true, _, rfl, Nat.lt_succ_self _, push_get_eq, Nat.le_refl _, rfl, Nat.le_refl _⟩⟩
 refine WpE.grow (p := c.2) (q := .slice H5.n 0 1 (some 1) 2) (cs := cellsK (a' + 1) (pxs M i k)) (new := [.int .i64 ((i % (a' + 1) : Nat) : Int), .int .i64 ((i / (a' + 1) : Nat) : Int)]) rfl rfl rfl (by decide) (by decide) (by decide) (by omega) rfl fun p' H7 o7 f7 x7 => ⟨(by repeat (first | exact trivial | refine ⟨(by first | exact Or.inl (by dsimp only; decide) | exact Or.inr (readOk_of (exec_ld rfl rfl)) | exact Or.inr (readOk_of (exec_ldN rfl rfl rfl)) | exact Or.inr (readOk_of (exec_ldB rfl (by omega))) | exact Or.inr (readOk_of (exec_ldI rfl (by omega))) | exact Or.inr (made_of rfl)), ?_⟩)), ?_⟩
 rw [← cellsK_snoc] at o7
 haveI := o7.sl.one
 have s7 : SliceAt H7 q 5 C.length (cellsC (C.set k (bxS c.1 ((i % (a' + 1) : Nat) : Int) ((i / (a' + 1) : Nat) : Int), c.2))) := inferInstance
 have w7 : WrS H7 q := inferInstance
 have hp'q : SepS p' q := inferInstance
 have hx7 : Ext0 H1 H7 := inferInstance
 have hb7 : IntsI H7 mk (cN M) := inferInstance
 have hr7 : HasRow H7 H.n [.int .i64 ((a' + 1 : Nat) : Int), .int .i64 (b : Int), p] true (2 * 24) := inferInstance
 refine Fe.pure rfl rfl rfl ?_
 refine Fe.pure rfl rfl rfl ?_
 refine WpE.stPN (p := q) (j := k * 5 + 4) (m := 1) (v := p') (vs := [p']) rfl rfl rfl (OneV.cells (v := p')) rfl (by decide) (by rw [List.all_cons, OneV.one (v := p')]; rfl) (by rw [cellsC_length, List.length_set]; omega) fun H9 s9 w9 x9 => ⟨(by repeat (first | exact trivial | refine ⟨(by first | exact Or.inl (by dsimp only; decide) | exact Or.inr (readOk_of (exec_ld rfl rfl)) | exact Or.inr (readOk_of (exec_ldN rfl rfl rfl)) | exact Or.inr (readOk_of (exec_ldB rfl (by omega))) | exact Or.inr (readOk_of (exec_ldI rfl (by omega))) | exact Or.inr (made_of rfl)), ?_⟩)), ?_⟩
 rw [setAt_one, cellsC_px _ _ _ _ hck2, List.set_set] at s9
 refine WpE.nil (hKF _ _ ?_)
 refine rg fun KF hKF => ?_
 refine Fo.bin rfl rfl rfl rfl ?_
 refine mI rfl ?_
 refine WpO.nil (hKF _ _ ?_)
 dsimp only [cond_true, cond_false]
 have hmv : (C.set k (bxS c.1 ((i % (a' + 1) : Nat) : Int) ((i / (a' + 1) : Nat) : Int), p')).length = L.length := by rw [List.length_set]; exact hCL
 refine ⟨i + 1, by omega, ⟨by simp only [↓nrmL, nrmZ, Nat.reduceEqDiff, ↓reduceIte, Nat.reduceAdd, Int.reduceBEq, Int.reduceBNe]; rw [hw1], trivial⟩, hil, ⟨C.set k (bxS c.1 ((i % (a' + 1) : Nat) : Int) ((i / (a' + 1) : Nat) : Int), p'), hmv, ?_, ?_⟩, inferInstance, inferInstance, inferInstance⟩
 ·rw [pxAll_next hk]
  refine hC.step hPk s9 w9 (OwnS.keep (H := H7) (by simpa using o7) (ExtP.n (p := q) (H := H7)) fun r off len cap sz e1 hr => ExtP.get (p := q) (H := H7) r hr ⟨fun r' off' len' cap' sz' e2 => fun h => hp'q.ne _ _ _ _ _ _ _ _ _ _ e1 e2 h.symm⟩) f7.weak (fun j d h1 h2 => ?_) hp'q (fun j d l' h1 h2 h3 => ?_)
  ·have hjL : j < L.length := by
    rw [← hCL]
    exact (List.getElem?_eq_some_iff.1 h1).1
   haveI o4 := hC.own j d _ h1 (pxAll_at hjL)
   haveI := o4.sl
   haveI : SepS d.2 q := hC.sepq j d h1
   have s5 : SliceAt (H5.push (.row [.int .i64 ((i % (a' + 1) : Nat) : Int), .int .i64 ((i / (a' + 1) : Nat) : Int)] true (2 * 88))) d.2 2 _ _ := inferInstance
   infer_instance
  ·haveI o4 := hC.own j d l' h2 h3
   haveI := o4.sl
   haveI : SepS d.2 q := hC.sepq j d h2
   haveI : SepS d.2 c.2 := hC.sep j k d c h2 hck h1
   have o7 : OwnS H7 d.2 2 l'.length (cellsK (a' + 1) l') 88 := inferInstance
   infer_instance
 ·intro j d hj
  rcases set_at hj with ⟨rfl, rfl⟩ | ⟨hne, hj⟩
  ·rw [pxs_hit hk, bxL_snoc, ← hbx j c hck]
  ·rw [pxs_miss (by omega)]; exact hbx j d hj
end Go.Am

set_option maxHeartbeats 8000000
set_option maxRecDepth 100000
set_option synthInstance.maxHeartbeats 4000000
set_option synthInstance.maxSize 1000000000
namespace Go.Am
open Go
attribute [local irreducible] Wp WpO WpX WpE

theorem K_Despeckle {a b : Nat} {t : Int} {p : AVal} {H : AHeap} {l : List UInt8} [hp : BytesI H p l] [ht : Tabs H] (ok : Ok a b l) : Con ext prog 6 61 [.agg [.int .i64 a, .int .i64 b, p], .int .i64 t] H fun v H' => ∃ M L, Lab l a b true M L (a * b) ∧ InkRes H H' v (⟨a, b, spk 0 (fun n => !decide ((n : Int) ≥ t)) l (pxAll M L.length (a * b))⟩, 0) := by
 refine con_of (show prog 61 = some c61 from rfl) rfl rfl fun n hn => ?_
 haveI := hp.one
 have ha := ok.wa
 have hb := ok.hb
 have hll := ok.len
 have hab : a * b ≤ 640 * 640 := Nat.mul_le_mul ha hb
 refine sq ?_
 refine rg fun KF hKF => ?_
 refine Fo.boxA rfl ?_
 refine Fo.new ?_
 refine mI rfl ?_
 refine WpO.nil (hKF _ _ ?_)
 refine sq ?_
 refine rg fun KF hKF => ?_
 refine Fo.ldN rfl rfl (by simp only [↓nrmL, nrmZ, Nat.reduceEqDiff, ↓reduceIte, Nat.reduceAdd, Int.reduceBEq, Int.reduceBNe]; rfl) ?_
 refine WpO.do (WpX.conD hn rfl rfl (by simp only [↓nrmL, nrmZ, Nat.reduceEqDiff, ↓reduceIte, Nat.reduceAdd, Int.reduceBEq, Int.reduceBNe, List.map] <;> rfl) (K_Components (e := true) ok) fun v H1 h5 => ?_)
 obtain ⟨q, K, M, L, C, e5, hHK, hcr, hfq, hx1⟩ := h5
 subst e5
 haveI : ExtI _ H1 := ⟨hx1⟩
 have hcl := hcr.cl (by omega)
 haveI := hcl.row
 haveI := hcl.row.one
 have hE1 : Ext H H1 := Ext0.ext
 refine mT rfl ?_
 refine Fo.extr rfl rfl ?_
 refine Fo.extr rfl rfl ?_
 refine Fo.mov (by simp only [↓nrmL, nrmK, Nat.reduceEqDiff, ↓reduceIte]; rfl) ?_
 refine mI rfl ?_
 refine WpO.nil (hKF _ _ ?_)
 refine sq ?_
 refine sq ?_
 refine rg fun KF hKF => ?_
 refine mI rfl ?_
 refine Fo.bin rfl rfl rfl (by simp only [↓nrmL, nrmZ, Nat.reduceEqDiff, ↓reduceIte, Nat.reduceAdd, Int.reduceBEq, Int.reduceBNe]; rfl) ?_
 refine WpO.nil (hKF _ _ ?_)
 refine Wp.cond (b := false) rfl ?_
 refine Wp.skip ?_
 refine sq ?_
 refine rg fun KF hKF => ?_
 refine Fo.ldN rfl rfl (by simp only [↓nrmL, nrmZ, Nat.reduceEqDiff, ↓reduceIte, Nat.reduceAdd, Int.reduceBEq, Int.reduceBNe]; rfl) ?_
 refine WpO.do (WpX.conD hn rfl rfl (by simp only [↓nrmL, nrmZ, Nat.reduceEqDiff, ↓reduceIte, Nat.reduceAdd, Int.reduceBEq, Int.reduceBNe, List.map] <;> rfl) (K_twin (l := l) (by omega)) fun v H2 h5 => ?_)
 obtain ⟨o, e1, ho, hfo, hwo, hxo⟩ := h5
 subst e1
 try dsimp only at ho
 haveI : ExtI _ H2 := ⟨hxo⟩
 haveI := ho.one
 refine Fo.new ?_
 refine Fo.st rfl (rfl : _ = AVal.agg _) rfl rfl rfl (by repeat (first | rfl | refine allOne_cons ?_)) (by simp only [↓nrmL, nrmZ, Nat.reduceEqDiff, ↓reduceIte, Nat.reduceAdd, Int.reduceBEq, Int.reduceBNe]; rfl) ?_
 refine WpO.nil (hKF _ _ ?_)
 refine sq ?_
 refine sq ?_
 refine rg fun KF hKF => ?_
 refine Fo.mov (by simp only [↓nrmL, nrmK, Nat.reduceEqDiff, ↓reduceIte]; rfl) ?_
 refine Fo.len (v := ?_) (by simp only [↓nrmL, nrmK, Nat.reduceEqDiff, ↓reduceIte]; rfl) ?hv ?_; case hv => rfl
 refine mI rfl ?_
 refine WpO.nil (hKF _ _ ?_)
 refine Wp.block ?_
 dsimp only [cond_true, cond_false]
 obtain ⟨P, hPe⟩ : ∃ P, pxAll M L.length (a * b) = P := ⟨_, rfl⟩
 have hPlt : ∀ ps ∈ P, ∀ j ∈ ps, j < a * b := fun ps h1 j h2 => by
  rw [← hPe] at h1
  exact pxAll_lt h1 h2
 rw [hPe] at hcl
 have l1 := hcl.len
 have hf := hcl.few.1
 have kc := cellsC_length C
 have hg8 : Ext H1 H2 := hxo
 haveI hfo1 : FreshS H1 o := hfo
 haveI : RowNe o H2.n := inferInstance
 refine Wp.loopS [10, 12, 26, 27, 28, 29, 30, 31, 32, 33, 34, 35, 36, 37, 38, 39, 40, 41, 42, 43, 44, 45, 46, 47, 48, 49, 50, 51, 52, 53, 54] (fun i : Nat => [(26, .int .i64 (i : Int))]) (fun _ i H3 => i ≤ P.length ∧ BytesI H3 o (spk 0 (fun n => !decide ((n : Int) ≥ t)) l (P.take i)) ∧ WrS H3 o ∧ HasRow H3 H2.n [.int .i64 (a : Int), .int .i64 (b : Int), o] true (2 * 24) ∧ HasRow H3 (H.push (.row [.int .i64 (a : Int), .int .i64 (b : Int), p] true (2 * 24))).n [.int .i64 0, .int .i64 0, .nslice] true (2 * 24) ∧ Ext0 H1 H3) (fun i => P.length - i) 0 rfl (fun _ => rfl) ⟨rfl, trivial⟩ ⟨Nat.zero_le _, (by show BytesI _ o l; infer_instance), inferInstance, inferInstance, inferInstance, inferInstance⟩ (by unfold fuel0 at hn; omega) ?_
 rintro i g H3 ⟨hi, hbo, hwo, hr8, hr4, hx3⟩
 haveI : ExtI H1 H3 := ⟨hx3.ext⟩
 simp only [↓nrmL, nrmZ, Nat.reduceEqDiff, ↓reduceIte, Nat.reduceAdd, Int.reduceBEq, Int.reduceBNe]
 cases hc : decide ((i : Int) < ((C.length : Nat) : Int))
 ·have hie : i = P.length := by have := of_decide_eq_false hc; omega
  subst hie
  rw [List.take_length] at hbo
  haveI : Ext0 H H3 := ⟨hE1.trans hx3.ext⟩
  try simp only [↓nrmL, nrmZ, Nat.reduceEqDiff, ↓reduceIte, Nat.reduceAdd, Int.reduceBEq, Int.reduceBNe, hc]
  refine sq ?_
  refine rg fun KF hKF => ?_
  refine Fo.bin rfl rfl rfl (by simp only [↓nrmL, nrmZ, Nat.reduceEqDiff, ↓reduceIte, Nat.reduceAdd, Int.reduceBEq, Int.reduceBNe, hc]; rfl) ?_
  refine WpO.nil (hKF _ _ ?_)
  refine sq ?_
  refine Wp.cond (b := false) rfl ?_
  refine Wp.exit ?_
  refine sq ?_
  refine rg fun KF hKF => ?_
  refine Fo.ldN rfl rfl (by simp only [↓nrmL, nrmZ, Nat.reduceEqDiff, ↓reduceIte, Nat.reduceAdd, Int.reduceBEq, Int.reduceBNe, hc]; rfl) ?_
  refine Fo.st rfl (rfl : _ = AVal.agg _) rfl rfl rfl (by repeat (first | rfl | refine allOne_cons ?_)) (by simp only [↓nrmL, nrmZ, Nat.reduceEqDiff, ↓reduceIte, Nat.reduceAdd, Int.reduceBEq, Int.reduceBNe, hc]; rfl) ?_
  refine mI rfl ?_
  refine WpO.nil (hKF _ _ ?_)
  refine Wp.ret ?_
  dsimp only [cond_true, cond_false]
  refine ⟨trivial, _, (getAllC rfl rfl rfl rfl), ?_⟩
  refine ⟨M, L, hcr.lab, ?_⟩
  rw [hPe]
  exact ⟨_, rfl, o, rfl, inferInstance, FreshS.weak (H := H) (K := H1) hfo1 (x := ⟨hE1⟩), inferInstance, Ext0.ext⟩
 have hil : i < P.length := by have := of_decide_eq_true hc; omega
 have hw := wa1 (a := i) (by omega)
 obtain ⟨p1, e1, s1, f1⟩ := (hcl.ext hx3.ext).at hil
 haveI hsep : SepS p1 o := by
  have h7 := (hcl.it i _ _ e1 (List.getElem?_eq_getElem hil)).2
  dsimp only at h7
  infer_instance
 have g1 := cellsC_all e1
 dsimp only at g1
 haveI := s1.one
 have hsn := spk_snoc 0 (fun n => !decide ((n : Int) ≥ t)) l (P.take i) P[i]
 rw [← take_snoc (List.getElem?_eq_getElem hil)] at hsn
 have hmem : P[i] ∈ P := List.getElem_mem _
 obtain ⟨ps, hps⟩ : ∃ ps, P[i] = ps := ⟨_, rfl⟩
 rw [hps] at g1 s1 f1 hsn hmem
 obtain ⟨cur, hcur⟩ : ∃ cur, spk 0 (fun n => !decide ((n : Int) ≥ t)) l (P.take i) = cur := ⟨_, rfl⟩
 have hcl' : cur.length = a * b := by rw [← hcur, spk_length, hll]
 rw [hcur] at hbo hsn
 generalize bxL a ps = bx at g1
 obtain ⟨x, y, w, h⟩ := bx
 unfold Bx.cells at g1
 simp only [List.cons_append, List.nil_append] at g1
 cases ht2 : decide (((ps.length : Nat) : Int) ≥ t)
 rotate_left
 ·have hsn2 : spk 0 (fun n => !decide ((n : Int) ≥ t)) l (P.take (i + 1)) = cur := by rw [hsn, ht2]; rfl
  try simp only [↓nrmL, nrmZ, Nat.reduceEqDiff, ↓reduceIte, Nat.reduceAdd, Int.reduceBEq, Int.reduceBNe, hc]
  refine sq ?_
  refine rg fun KF hKF => ?_
  refine Fo.bin rfl rfl rfl (by simp only [↓nrmL, nrmZ, Nat.reduceEqDiff, ↓reduceIte, Nat.reduceAdd, Int.reduceBEq, Int.reduceBNe, hc]; rfl) ?_
  refine WpO.nil (hKF _ _ ?_)
  refine sq ?_
  refine Wp.cond (b := true) rfl ?_
  refine Wp.skip ?_
  refine sq ?_
  refine Wp.block ?_
  refine sq ?_
  refine rg fun KF hKF => ?_
  refine Fo.idx (by simp only [↓nrmL, nrmK, Nat.reduceEqDiff, ↓reduceIte]; rfl) rfl ?_ (by simp only [↓nrmL, nrmZ, Nat.reduceEqDiff, ↓reduceIte, Nat.reduceAdd, Int.reduceBEq, Int.reduceBNe, hc]; rfl) ?_; (focus omega)
  refine Fo.now rfl (exec_ldNP (p := q) (j := i * 5) rfl (by decide) (by omega) g1) rfl ?_
  try simp only [↓nrmL, nrmZ, Nat.reduceEqDiff, ↓reduceIte, Nat.reduceAdd, Int.reduceBEq, Int.reduceBNe, ht2]
  refine Fo.new ?_
  refine Fo.st rfl (rfl : _ = AVal.agg _) rfl rfl rfl (by repeat (first | rfl | refine allOne_cons ?_)) (by simp only [↓nrmL, nrmZ, Nat.reduceEqDiff, ↓reduceIte, Nat.reduceAdd, Int.reduceBEq, Int.reduceBNe, ht2]; rfl) ?_
  refine WpO.nil (hKF _ _ ?_)
  refine sq ?_
  refine sq ?_
  refine rg fun KF hKF => ?_
  refine Fo.fa rfl ?_
  refine Fo.ld rfl rfl ?_
  refine Fo.len (v := ?_) (by simp only [↓nrmL, nrmK, Nat.reduceEqDiff, ↓reduceIte]; rfl) ?hv ?_; case hv => rfl
  refine mI rfl ?_
  refine Fo.bin rfl rfl rfl (by simp only [↓nrmL, nrmZ, Nat.reduceEqDiff, ↓reduceIte, Nat.reduceAdd, Int.reduceBEq, Int.reduceBNe, ht2]; rfl) ?_
  refine WpO.nil (hKF _ _ ?_)
  refine Wp.cond (b := true) rfl ?_
  refine Wp.exit ?_
  refine rg fun KF hKF => ?_
  refine Fo.bin rfl rfl rfl rfl ?_
  refine mI rfl ?_
  refine WpO.nil (hKF _ _ ?_)
  dsimp only [cond_true, cond_false]
  refine ⟨i + 1, by omega, ⟨by simp only [↓nrmL, nrmZ, Nat.reduceEqDiff, ↓reduceIte, Nat.reduceAdd, Int.reduceBEq, Int.reduceBNe]; rw [hw], trivial⟩, hil, by rw [hsn2]; infer_instance, inferInstance, inferInstance, inferInstance, inferInstance⟩
 have hsn2 : spk 0 (fun n => !decide ((n : Int) ≥ t)) l (P.take (i + 1)) = setPx 0 cur ps := by rw [hsn, ht2]; rfl
 try simp only [↓nrmL, nrmZ, Nat.reduceEqDiff, ↓reduceIte, Nat.reduceAdd, Int.reduceBEq, Int.reduceBNe, hc]
 refine sq ?_
 refine rg fun KF hKF => ?_
 refine Fo.bin rfl rfl rfl (by simp only [↓nrmL, nrmZ, Nat.reduceEqDiff, ↓reduceIte, Nat.reduceAdd, Int.reduceBEq, Int.reduceBNe, hc]; rfl) ?_
 refine WpO.nil (hKF _ _ ?_)
 refine sq ?_
 refine Wp.cond (b := true) rfl ?_
 refine Wp.skip ?_
 refine sq ?_
 refine Wp.block ?_
 refine sq ?_
 refine rg fun KF hKF => ?_
 refine Fo.idx (by simp only [↓nrmL, nrmK, Nat.reduceEqDiff, ↓reduceIte]; rfl) rfl ?_ (by simp only [↓nrmL, nrmZ, Nat.reduceEqDiff, ↓reduceIte, Nat.reduceAdd, Int.reduceBEq, Int.reduceBNe, hc]; rfl) ?_; (focus omega)
 refine Fo.now rfl (exec_ldNP (p := q) (j := i * 5) rfl (by decide) (by omega) g1) rfl ?_
 try simp only [↓nrmL, nrmZ, Nat.reduceEqDiff, ↓reduceIte, Nat.reduceAdd, Int.reduceBEq, Int.reduceBNe, ht2]
 refine Fo.new ?_
 refine Fo.st rfl (rfl : _ = AVal.agg _) rfl rfl rfl (by repeat (first | rfl | refine allOne_cons ?_)) (by simp only [↓nrmL, nrmZ, Nat.reduceEqDiff, ↓reduceIte, Nat.reduceAdd, Int.reduceBEq, Int.reduceBNe, ht2]; rfl) ?_
 refine WpO.nil (hKF _ _ ?_)
 refine sq ?_
 refine sq ?_
 refine rg fun KF hKF => ?_
 refine Fo.fa rfl ?_
 refine Fo.ld rfl rfl ?_
 refine Fo.len (v := ?_) (by simp only [↓nrmL, nrmK, Nat.reduceEqDiff, ↓reduceIte]; rfl) ?hv ?_; case hv => rfl
 refine mI rfl ?_
 refine Fo.bin rfl rfl rfl (by simp only [↓nrmL, nrmZ, Nat.reduceEqDiff, ↓reduceIte, Nat.reduceAdd, Int.reduceBEq, Int.reduceBNe, ht2]; rfl) ?_
 refine WpO.nil (hKF _ _ ?_)
 refine Wp.cond (b := false) rfl ?_
 refine Wp.skip ?_
 refine sq ?_
 refine rg fun KF hKF => ?_
 refine Fo.fa rfl ?_
 refine Fo.ld rfl rfl ?_
 refine Fo.len (v := ?_) (by simp only [↓nrmL, nrmK, Nat.reduceEqDiff, ↓reduceIte]; rfl) ?hv ?_; case hv => rfl
 refine mI rfl ?_
 refine WpO.nil (hKF _ _ ?_)
 refine Wp.block ?_
 dsimp only [cond_true, cond_false]
 refine Wp.loopS [12, 38, 39, 40, 41, 42, 43, 44, 45, 46, 47, 48, 49, 50, 51, 52, 53] (fun k : Nat => [(38, .int .i64 (k : Int))]) (fun _ k H4 => k ≤ ps.length ∧ BytesI H4 o (setPx 0 cur (ps.take k)) ∧ WrS H4 o ∧ HasRow H4 H2.n [.int .i64 (a : Int), .int .i64 (b : Int), o] true (2 * 24) ∧ HasRow H4 (H.push (.row [.int .i64 (a : Int), .int .i64 (b : Int), p] true (2 * 24))).n [.int .i64 0, .int .i64 0, .nslice] true (2 * 24) ∧ SliceAt H4 p1 2 ps.length (cellsK a ps) ∧ Ext0 H1 H4) (fun k => ps.length - k) 0 rfl (fun _ => rfl) ⟨rfl, trivial⟩ ⟨Nat.zero_le _, (by show BytesI _ o cur; infer_instance), inferInstance, inferInstance, inferInstance, inferInstance, inferInstance⟩ (by unfold fuel0 at hn; omega) ?_
 rintro k gk H4 ⟨hk, hbo4, hwo4, hr84, hr44, hs4, hx4⟩
 haveI : ExtI H1 H4 := ⟨hx4.ext⟩
 simp only [↓nrmL, nrmZ, Nat.reduceEqDiff, ↓reduceIte, Nat.reduceAdd, Int.reduceBEq, Int.reduceBNe]
 cases hck : decide ((k : Int) < ((ps.length : Nat) : Int))
 ·have hke : k = ps.length := by have := of_decide_eq_false hck; omega
  subst hke
  rw [List.take_length, ← hsn2] at hbo4
  try simp only [↓nrmL, nrmZ, Nat.reduceEqDiff, ↓reduceIte, Nat.reduceAdd, Int.reduceBEq, Int.reduceBNe, hck]
  refine sq ?_
  refine rg fun KF hKF => ?_
  refine Fo.bin rfl rfl rfl (by simp only [↓nrmL, nrmZ, Nat.reduceEqDiff, ↓reduceIte, Nat.reduceAdd, Int.reduceBEq, Int.reduceBNe, hck]; rfl) ?_
  refine WpO.nil (hKF _ _ ?_)
  refine sq ?_
  refine Wp.cond (b := false) rfl ?_
  refine Wp.exit ?_
  refine rg fun KF hKF => ?_
  refine Fo.bin rfl rfl rfl rfl ?_
  refine mI rfl ?_
  refine WpO.nil (hKF _ _ ?_)
  dsimp only [cond_true, cond_false]
  refine ⟨i + 1, by omega, ⟨by simp only [↓nrmL, nrmZ, Nat.reduceEqDiff, ↓reduceIte, Nat.reduceAdd, Int.reduceBEq, Int.reduceBNe]; rw [hw], trivial⟩, hil, inferInstance, inferInstance, inferInstance, inferInstance, inferInstance⟩
 have hkl : k < ps.length := by have := of_decide_eq_true hck; omega
 have hwk := wa1 (a := k) (by omega)
 have hkl2 := cellsK_length a ps
 obtain ⟨z, hz⟩ : ∃ z, ps[k] = z := ⟨_, rfl⟩
 have gk2 := cellsK_at (a := a) hkl
 rw [hz] at gk2
 have hza : z < a * b := by rw [← hz]; exact hPlt ps hmem _ (List.getElem_mem _)
 obtain ⟨hh1, hh2, hh3, hh4⟩ := div_lt hza
 have m1 : IntKind.i64.wrap (((z / a : Nat) : Int) * (a : Int)) = ((z / a * a : Nat) : Int) := wm (by omega)
 have m2 : IntKind.i64.wrap (((z / a * a : Nat) : Int) + ((z % a : Nat) : Int)) = (z : Int) := by rw [wa (by omega)]; omega
 have hset := setPx_snoc 0 cur (ps.take k) z
 rw [← hz, ← take_snoc (List.getElem?_eq_getElem hkl)] at hset
 rw [hz] at hset
 try simp only [↓nrmL, nrmZ, Nat.reduceEqDiff, ↓reduceIte, Nat.reduceAdd, Int.reduceBEq, Int.reduceBNe, hck]
 refine sq ?_
 refine rg fun KF hKF => ?_
 refine Fo.bin rfl rfl rfl (by simp only [↓nrmL, nrmZ, Nat.reduceEqDiff, ↓reduceIte, Nat.reduceAdd, Int.reduceBEq, Int.reduceBNe, hck]; rfl) ?_
 refine WpO.nil (hKF _ _ ?_)
 refine sq ?_
 refine Wp.cond (b := true) rfl ?_
 refine Wp.skip ?_
 refine sq ?_
 refine Wp.block ?_
 refine sq ?_
 refine rg fun KF hKF => ?_
 refine Fo.idx (by simp only [↓nrmL, nrmK, Nat.reduceEqDiff, ↓reduceIte]; rfl) rfl ?_ (by simp only [↓nrmL, nrmZ, Nat.reduceEqDiff, ↓reduceIte, Nat.reduceAdd, Int.reduceBEq, Int.reduceBNe, hck]; rfl) ?_; (focus omega)
 refine Fo.now rfl (exec_ldNP (p := p1) (j := k * 2) rfl (by decide) (by omega) gk2) rfl ?_
 have hzl : z < (setPx 0 cur (ps.take k)).length := by rw [setPx_length]; omega
 try simp only [↓nrmL, nrmZ, Nat.reduceEqDiff, ↓reduceIte, Nat.reduceAdd, Int.reduceBEq, Int.reduceBNe, m1, m2]
 refine Fo.new ?_
 refine Fo.st rfl (rfl : _ = AVal.agg _) rfl rfl rfl (by repeat (first | rfl | refine allOne_cons ?_)) (by simp only [↓nrmL, nrmZ, Nat.reduceEqDiff, ↓reduceIte, Nat.reduceAdd, Int.reduceBEq, Int.reduceBNe, m1, m2]; rfl) ?_
 refine WpO.nil (hKF _ _ ?_)
 refine rg fun KF hKF => ?_
 refine Fo.fa rfl ?_
 refine Fo.ld rfl rfl ?_
 refine Fo.fa rfl ?_
 refine Fo.ld rfl rfl ?_
 refine Fo.fa rfl ?_
 refine Fo.ld rfl rfl ?_
 refine Fo.bin rfl rfl rfl (by simp only [↓nrmL, nrmZ, Nat.reduceEqDiff, ↓reduceIte, Nat.reduceAdd, Int.reduceBEq, Int.reduceBNe, m1, m2]; rfl) ?_
 refine Fo.fa rfl ?_
 refine Fo.ld rfl rfl ?_
 refine Fo.bin rfl rfl rfl (by simp only [↓nrmL, nrmZ, Nat.reduceEqDiff, ↓reduceIte, Nat.reduceAdd, Int.reduceBEq, Int.reduceBNe, m1, m2]; rfl) ?_
 refine Fo.idx (by simp only [↓nrmL, nrmK, Nat.reduceEqDiff, ↓reduceIte]; rfl) rfl ?_ (by simp only [↓nrmL, nrmZ, Nat.reduceEqDiff, ↓reduceIte, Nat.reduceAdd, Int.reduceBEq, Int.reduceBNe, m1, m2]; rfl) ?_; (focus omega)
 refine WpO.do' (WpX.stB (p := o) (j := z) (l := setPx 0 cur (ps.take k)) 0 rfl rfl rfl (by rw [setPx_length]; omega) fun H6 hb6 hw6 hx6 => ?_)
 rw [← hset] at hb6
 refine WpO.nil (hKF _ _ ?_)
 refine rg fun KF hKF => ?_
 refine Fo.bin rfl rfl rfl rfl ?_
 refine mI rfl ?_
 refine WpO.nil (hKF _ _ ?_)
 dsimp only [cond_true, cond_false]
 refine ⟨k + 1, by omega, ⟨by simp only [↓nrmL, nrmZ, Nat.reduceEqDiff, ↓reduceIte, Nat.reduceAdd, Int.reduceBEq, Int.reduceBNe]; rw [hwk], trivial⟩, hkl, inferInstance, inferInstance, inferInstance, inferInstance, inferInstance, inferInstance⟩
end Go.Am

set_option maxHeartbeats 8000000
set_option maxRecDepth 100000
set_option synthInstance.maxHeartbeats 4000000
set_option synthInstance.maxSize 1000000000
namespace Go.Am
open Go
attribute [local irreducible] Wp WpO WpX WpE

theorem K_ImageSpecks {s : Nat} {c : UInt8} {p : AVal} {H : AHeap} {bits : List UInt8} [hp : BytesI H p bits] [ht : Tabs H] (hs : s < 65536) : Con ext prog 9 16 [.int .u16 s, p, .int .u8 (c.toNat : Int)] H fun v H' => v = .bool true ∧ Ext H H' := by
 refine con_of (show prog 16 = some c16 from rfl) rfl rfl fun n hn => ?_
 haveI := hp.one
 obtain ⟨t, htt⟩ : ∃ t : Nat, c.toNat % 40 = t := ⟨_, rfl⟩
 have ht40 : t < 40 := by omega
 have e1 : IntKind.i64.wrap ((c.toNat : Int).tmod 40) = (t : Int) := by
  rw [show (c.toNat : Int).tmod 40 = ((c.toNat % 40 : Nat) : Int) from rfl, htt]
  exact w64 (by omega)
 have e2 := wa1 (a := t) (by omega)
 refine sq ?_
 refine rg fun KF hKF => ?_
 refine mB rfl ?_
 refine WpO.nil (hKF _ _ ?_)
 refine sq ?_
 refine rg fun KF hKF => ?_
 refine mI rfl ?_
 refine Fo.mov (by simp only [↓nrmL, nrmK, Nat.reduceEqDiff, ↓reduceIte]; rfl) ?_
 refine WpO.do (WpX.conD hn rfl rfl (by simp only [↓nrmL, nrmZ, Nat.reduceEqDiff, ↓reduceIte, Nat.reduceAdd, Int.reduceBEq, Int.reduceBNe, List.map] <;> rfl) (K_Made (bits := bits) hs) fun v H1 h5 => ?_)
 obtain ⟨a, b, l, _, _, ok, g, e5, hg, _, _, hx1⟩ := h5
 subst e5
 try dsimp only at hg
 haveI : ExtI _ H1 := ⟨hx1⟩
 haveI := hg.one
 have hll := ok.len
 have hab : a * b ≤ 640 * 640 := Nat.mul_le_mul ok.wa ok.hb
 obtain ⟨N, hld⟩ := lead_list l a b true
 obtain ⟨f, hfe⟩ : ∃ f : Nat → Bool, (fun n : Nat => !decide ((n : Int) ≥ (t : Int))) = f := ⟨_, rfl⟩
 have hff : ∀ k : Nat, f k = !decide ((k : Int) ≥ (t : Int)) := fun k => by rw [← hfe]
 try simp only [↓nrmL, nrmZ, Nat.reduceEqDiff, ↓reduceIte, Nat.reduceAdd, Int.reduceBEq, Int.reduceBNe, e1]
 refine Fo.new ?_
 refine Fo.st rfl (rfl : _ = AVal.agg _) rfl rfl rfl (by repeat (first | rfl | refine allOne_cons ?_)) (by simp only [↓nrmL, nrmZ, Nat.reduceEqDiff, ↓reduceIte, Nat.reduceAdd, Int.reduceBEq, Int.reduceBNe, e1]; rfl) ?_
 refine WpO.nil (hKF _ _ ?_)
 refine sq ?_
 refine rg fun KF hKF => ?_
 refine mI rfl ?_
 refine Fo.bin rfl rfl rfl rfl ?_
 refine Fo.now rfl rfl (by simp only [↓nrmL, nrmZ, Nat.reduceEqDiff, ↓reduceIte, Nat.reduceAdd, Int.reduceBEq, Int.reduceBNe, e1]; rfl) ?_
 refine Fo.new ?_
 refine Fo.st rfl (rfl : _ = AVal.int _ _) rfl rfl rfl (by repeat (first | rfl | refine allOne_cons ?_)) (by simp only [↓nrmL, nrmZ, Nat.reduceEqDiff, ↓reduceIte, Nat.reduceAdd, Int.reduceBEq, Int.reduceBNe, e1]; rfl) ?_
 refine WpO.nil (hKF _ _ ?_)
 refine sq ?_
 refine rg fun KF hKF => ?_
 refine Fo.ldN rfl rfl (by simp only [↓nrmL, nrmZ, Nat.reduceEqDiff, ↓reduceIte, Nat.reduceAdd, Int.reduceBEq, Int.reduceBNe, e1]; rfl) ?_
 refine Fo.ld rfl rfl ?_
 refine WpO.do (WpX.conD hn rfl rfl (by simp only [↓nrmL, nrmZ, Nat.reduceEqDiff, ↓reduceIte, Nat.reduceAdd, Int.reduceBEq, Int.reduceBNe, List.map] <;> rfl) (K_Despeckle (t := (t : Int)) ok) fun v H2 h5 => ?_)
 obtain ⟨M2, L2, hlab2, _, e5, d2, e6, hd2, _, _, hx2⟩ := h5
 subst e5 e6
 dsimp only at hd2
 haveI : ExtI _ H2 := ⟨hx2⟩
 haveI := hd2.one
 rw [pxAll_fls hlab2 hld, hfe] at hd2
 have okx := ok_spk (f := f) (P := pcs l N (a * b)) ok
 have hink := spk_ink hll hld f
 have hldx := spk_lead hll hld f
 have hpx := spk_pcs hll hld f
 obtain ⟨x, hx⟩ : ∃ x, spk 0 f l (pcs l N (a * b)) = x := ⟨_, rfl⟩
 rw [hx] at hd2 okx hink hldx hpx
 have hlx := okx.len
 refine mT rfl ?_
 refine Fo.extr rfl rfl ?_
 refine Fo.extr rfl rfl ?_
 refine Fo.new ?_
 refine Fo.st rfl (rfl : _ = AVal.agg _) rfl rfl rfl (by repeat (first | rfl | refine allOne_cons ?_)) (by simp only [↓nrmL, nrmZ, Nat.reduceEqDiff, ↓reduceIte, Nat.reduceAdd, Int.reduceBEq, Int.reduceBNe]; rfl) ?_
 refine mI rfl ?_
 refine WpO.nil (hKF _ _ ?_)
 refine sq ?_
 refine rg fun KF hKF => ?_
 refine Fo.ldN rfl rfl (by simp only [↓nrmL, nrmZ, Nat.reduceEqDiff, ↓reduceIte, Nat.reduceAdd, Int.reduceBEq, Int.reduceBNe]; rfl) ?_
 refine Fo.ld rfl rfl ?_
 dsimp only [cond_true, cond_false]
 refine WpO.do (WpX.conD hn rfl rfl (by simp only [↓nrmL, nrmZ, Nat.reduceEqDiff, ↓reduceIte, Nat.reduceAdd, Int.reduceBEq, Int.reduceBNe, List.map] <;> rfl) (K_Despeckle (t := (t : Int)) okx) fun v H3 h5 => ?_)
 obtain ⟨M3, L3, hlab3, _, e5, d3, e6, hd3, _, _, hx3⟩ := h5
 subst e5 e6
 dsimp only at hd3
 haveI : ExtI _ H3 := ⟨hx3⟩
 haveI := hd3.one
 have hnone : ∀ ps ∈ pcs x N (a * b), f ps.length = false := fun ps hps => by
  rw [hpx] at hps
  have := (List.mem_filter.1 hps).2
  rw [Bool.not_eq_true'] at this
  exact this
 rw [pxAll_fls hlab3 hldx, hfe, spk_none hnone] at hd3
 try simp only [↓nrmL, nrmZ, Nat.reduceEqDiff, ↓reduceIte, Nat.reduceAdd, Int.reduceBEq, Int.reduceBNe, e2]
 refine mT rfl ?_
 refine Fo.extr rfl rfl ?_
 refine Fo.extr rfl rfl ?_
 refine Fo.new ?_
 refine Fo.st rfl (rfl : _ = AVal.agg _) rfl rfl rfl (by repeat (first | rfl | refine allOne_cons ?_)) (by simp only [↓nrmL, nrmZ, Nat.reduceEqDiff, ↓reduceIte, Nat.reduceAdd, Int.reduceBEq, Int.reduceBNe, e2]; rfl) ?_
 refine mI rfl ?_
 refine WpO.nil (hKF _ _ ?_)
 refine sq ?_
 refine rg fun KF hKF => ?_
 refine Fo.ldN rfl rfl (by simp only [↓nrmL, nrmZ, Nat.reduceEqDiff, ↓reduceIte, Nat.reduceAdd, Int.reduceBEq, Int.reduceBNe, e2]; rfl) ?_
 refine Fo.ld rfl rfl ?_
 refine Fo.bin rfl rfl rfl (by simp only [↓nrmL, nrmZ, Nat.reduceEqDiff, ↓reduceIte, Nat.reduceAdd, Int.reduceBEq, Int.reduceBNe, e2]; rfl) ?_
 refine WpO.do (WpX.conD hn rfl rfl (by simp only [↓nrmL, nrmZ, Nat.reduceEqDiff, ↓reduceIte, Nat.reduceAdd, Int.reduceBEq, Int.reduceBNe, List.map] <;> rfl) (K_Despeckle (t := ((t + 1 : Nat) : Int)) ok) fun v H4 h5 => ?_)
 obtain ⟨M4, L4, hlab4, _, e5, d4, e6, hd4, _, _, hx4⟩ := h5
 subst e5 e6
 dsimp only at hd4
 haveI : ExtI _ H4 := ⟨hx4⟩
 haveI := hd4.one
 obtain ⟨f1, hfe1⟩ : ∃ f : Nat → Bool, (fun n : Nat => !decide ((n : Int) ≥ ((t + 1 : Nat) : Int))) = f := ⟨_, rfl⟩
 have hff1 : ∀ k : Nat, f1 k = !decide ((k : Int) ≥ ((t + 1 : Nat) : Int)) := fun k => by rw [← hfe1]
 rw [pxAll_fls hlab4 hld, hfe1] at hd4
 have okz := ok_spk (f := f1) (P := pcs l N (a * b)) ok
 have hink1 := spk_ink hll hld f1
 obtain ⟨z, hz⟩ : ∃ z, spk 0 f1 l (pcs l N (a * b)) = z := ⟨_, rfl⟩
 rw [hz] at hd4 okz hink1
 have hin1 : inkIn x l = true := inkIn_of okx.px ok.px fun j hj => ((hink j).1 hj).1
 have hin2 : inkIn z x = true := inkIn_of okz.px okx.px fun j hj => (hink j).2 ⟨((hink1 j).1 hj).1, by
  have h1 := ((hink1 j).1 hj).2
  rw [hff1] at h1
  rw [hff]
  rw [Bool.not_eq_false', decide_eq_true_eq] at h1 ⊢
  omega⟩
 refine mT rfl ?_
 refine Fo.extr rfl rfl ?_
 refine Fo.extr rfl rfl ?_
 refine Fo.new ?_
 refine Fo.st rfl (rfl : _ = AVal.agg _) rfl rfl rfl (by repeat (first | rfl | refine allOne_cons ?_)) (by simp only [↓nrmL, nrmZ, Nat.reduceEqDiff, ↓reduceIte, Nat.reduceAdd, Int.reduceBEq, Int.reduceBNe]; rfl) ?_
 refine mI rfl ?_
 refine WpO.nil (hKF _ _ ?_)
 refine sq ?_
 refine rg fun KF hKF => ?_
 refine Fo.ldN rfl rfl (by simp only [↓nrmL, nrmZ, Nat.reduceEqDiff, ↓reduceIte, Nat.reduceAdd, Int.reduceBEq, Int.reduceBNe]; rfl) ?_
 dsimp only [cond_true, cond_false]
 refine WpO.do (WpX.conD hn rfl rfl (by simp only [↓nrmL, nrmZ, Nat.reduceEqDiff, ↓reduceIte, Nat.reduceAdd, Int.reduceBEq, Int.reduceBNe, List.map] <;> rfl) (K_Components (e := true) okx) fun v H5 h5 => ?_)
 obtain ⟨q1, K1, M5, L5, C1, e5, _, hcr1, _, hx5⟩ := h5
 subst e5
 haveI : ExtI _ H5 := ⟨hx5⟩
 have hcl1 := hcr1.cl (by omega)
 rw [pxAll_fls hcr1.lab hldx] at hcl1
 haveI := hcl1.row.one
 clear hcr1
 refine mT rfl ?_
 refine Fo.extr rfl rfl ?_
 refine Fo.extr rfl rfl ?_
 refine Fo.mov (by simp only [↓nrmL, nrmK, Nat.reduceEqDiff, ↓reduceIte]; rfl) ?_
 refine mI rfl ?_
 refine WpO.nil (hKF _ _ ?_)
 refine sq ?_
 refine rg fun KF hKF => ?_
 refine Fo.ldN rfl rfl (by simp only [↓nrmL, nrmZ, Nat.reduceEqDiff, ↓reduceIte, Nat.reduceAdd, Int.reduceBEq, Int.reduceBNe]; rfl) ?_
 refine WpO.do (WpX.conD hn rfl rfl (by simp only [↓nrmL, nrmZ, Nat.reduceEqDiff, ↓reduceIte, Nat.reduceAdd, Int.reduceBEq, Int.reduceBNe, List.map] <;> rfl) (K_Components (e := true) ok) fun v H6 h5 => ?_)
 obtain ⟨q2, K2, M6, L6, C2, e5, _, hcr2, _, hx6⟩ := h5
 subst e5
 haveI : ExtI _ H6 := ⟨hx6⟩
 have hcl2 := hcr2.cl (by omega)
 rw [pxAll_fls hcr2.lab hld] at hcl2
 haveI := hcl2.row.one
 clear hcr2
 have hshx : x.length ≤ 999999 := by omega
 haveI : Short x := ⟨hshx⟩
 have hs4 : decide ((⟨a, b, x⟩ : Img) = ⟨a, b, x⟩) = true := decide_eq_true rfl
 have hneq : ((0 : Int) != 0) = false := rfl
 try simp only [↓nrmL, nrmZ, Nat.reduceEqDiff, ↓reduceIte, Nat.reduceAdd, Int.reduceBEq, Int.reduceBNe, hneq, hs4, Bool.not_true]
 refine mT rfl ?_
 refine Fo.extr rfl rfl ?_
 refine Fo.extr rfl rfl ?_
 refine Fo.mov (by simp only [↓nrmL, nrmK, Nat.reduceEqDiff, ↓reduceIte]; rfl) ?_
 refine mI rfl ?_
 refine WpO.nil (hKF _ _ ?_)
 refine sq ?_
 refine sq ?_
 refine rg fun KF hKF => ?_
 refine mI rfl ?_
 refine Fo.bin rfl rfl rfl (by simp only [↓nrmL, nrmZ, Nat.reduceEqDiff, ↓reduceIte, Nat.reduceAdd, Int.reduceBEq, Int.reduceBNe, hneq, hs4, Bool.not_true]; rfl) ?_
 refine mB rfl ?_
 refine Fo.yes rfl rfl ?_
 refine mI rfl ?_
 refine Fo.yes rfl rfl ?_
 refine Fo.bin rfl rfl rfl (by simp only [↓nrmL, nrmZ, Nat.reduceEqDiff, ↓reduceIte, Nat.reduceAdd, Int.reduceBEq, Int.reduceBNe, hneq, hs4, Bool.not_true]; rfl) ?_
 refine fB rfl rfl ?_
 refine mB rfl ?_
 refine Fo.yes rfl rfl ?_
 refine mI rfl ?_
 refine Fo.yes rfl rfl ?_
 refine Fo.bin rfl rfl rfl (by simp only [↓nrmL, nrmZ, Nat.reduceEqDiff, ↓reduceIte, Nat.reduceAdd, Int.reduceBEq, Int.reduceBNe, hneq, hs4, Bool.not_true]; rfl) ?_
 refine fB rfl rfl ?_
 refine mB rfl ?_
 refine Fo.yes rfl rfl ?_
 refine mI rfl ?_
 refine Fo.yes rfl rfl ?_
 refine Fo.bin rfl rfl rfl (by simp only [↓nrmL, nrmZ, Nat.reduceEqDiff, ↓reduceIte, Nat.reduceAdd, Int.reduceBEq, Int.reduceBNe, hneq, hs4, Bool.not_true]; rfl) ?_
 refine fB rfl rfl ?_
 refine mB rfl ?_
 refine Fo.yes rfl rfl ?_
 refine mI rfl ?_
 refine Fo.yes rfl rfl ?_
 refine Fo.bin rfl rfl rfl (by simp only [↓nrmL, nrmZ, Nat.reduceEqDiff, ↓reduceIte, Nat.reduceAdd, Int.reduceBEq, Int.reduceBNe, hneq, hs4, Bool.not_true]; rfl) ?_
 refine fB rfl rfl ?_
 refine mB rfl ?_
 refine Fo.yes rfl rfl ?_
 refine Fo.ldN rfl rfl (by simp only [↓nrmL, nrmZ, Nat.reduceEqDiff, ↓reduceIte, Nat.reduceAdd, Int.reduceBEq, Int.reduceBNe, hneq, hs4, Bool.not_true]; rfl) ?_
 refine Fo.yes rfl rfl ?_
 refine Fo.ldN rfl rfl (by simp only [↓nrmL, nrmZ, Nat.reduceEqDiff, ↓reduceIte, Nat.reduceAdd, Int.reduceBEq, Int.reduceBNe, hneq, hs4, Bool.not_true]; rfl) ?_
 refine Fo.yes rfl rfl ?_
 refine Fo.pcall (v' := ?_) hn rfl (by simp only [↓nrmL, nrmZ, Nat.reduceEqDiff, ↓reduceIte, Nat.reduceAdd, Int.reduceBEq, Int.reduceBNe, hneq, hs4, Bool.not_true, List.map]; rfl) rfl ?hv fun _ _ => ?_; case hv => (simp only [↓nrmL, nrmZ, Nat.reduceEqDiff, ↓reduceIte, Nat.reduceAdd, Int.reduceBEq, Int.reduceBNe, hneq, hs4, Bool.not_true]; rfl)
 refine Fo.yes rfl rfl ?_
 refine Fo.now rfl rfl rfl ?_
 refine fB rfl rfl ?_
 refine mB rfl ?_
 refine Fo.yes rfl rfl ?_
 refine Fo.ldN rfl rfl (by simp only [↓nrmL, nrmZ, Nat.reduceEqDiff, ↓reduceIte, Nat.reduceAdd, Int.reduceBEq, Int.reduceBNe, hneq, hs4, Bool.not_true]; rfl) ?_
 refine Fo.yes rfl rfl ?_
 refine Fo.ldN rfl rfl (by simp only [↓nrmL, nrmZ, Nat.reduceEqDiff, ↓reduceIte, Nat.reduceAdd, Int.reduceBEq, Int.reduceBNe, hneq, hs4, Bool.not_true]; rfl) ?_
 refine Fo.yes rfl rfl ?_
 refine WpO.do (WpX.conD hn rfl rfl (by simp only [↓nrmL, nrmZ, Nat.reduceEqDiff, ↓reduceIte, Nat.reduceAdd, Int.reduceBEq, Int.reduceBNe, List.map] <;> rfl) (K_within okx ok) fun v H7 h5 => ?_)
 obtain ⟨rfl, hx7⟩ := h5
 haveI : ExtI _ H7 := ⟨hx7⟩
 rw [hin1]
 refine Fo.yes rfl rfl ?_
 refine Fo.now rfl rfl (by simp only [↓nrmL, nrmZ, Nat.reduceEqDiff, ↓reduceIte, Nat.reduceAdd, Int.reduceBEq, Int.reduceBNe]; rfl) ?_
 refine fB rfl rfl ?_
 refine mB rfl ?_
 refine Fo.yes rfl rfl ?_
 refine Fo.ldN rfl rfl (by simp only [↓nrmL, nrmZ, Nat.reduceEqDiff, ↓reduceIte, Nat.reduceAdd, Int.reduceBEq, Int.reduceBNe]; rfl) ?_
 refine Fo.yes rfl rfl ?_
 refine Fo.ldN rfl rfl (by simp only [↓nrmL, nrmZ, Nat.reduceEqDiff, ↓reduceIte, Nat.reduceAdd, Int.reduceBEq, Int.reduceBNe]; rfl) ?_
 refine Fo.yes rfl rfl ?_
 refine WpO.do (WpX.conD hn rfl rfl (by simp only [↓nrmL, nrmZ, Nat.reduceEqDiff, ↓reduceIte, Nat.reduceAdd, Int.reduceBEq, Int.reduceBNe, List.map] <;> rfl) (K_within okz okx) fun v H8 h5 => ?_)
 obtain ⟨rfl, hx8⟩ := h5
 haveI : ExtI _ H8 := ⟨hx8⟩
 rw [hin2]
 refine Fo.yes rfl rfl ?_
 refine Fo.now rfl rfl (by simp only [↓nrmL, nrmZ, Nat.reduceEqDiff, ↓reduceIte, Nat.reduceAdd, Int.reduceBEq, Int.reduceBNe]; rfl) ?_
 refine fB rfl rfl ?_
 refine WpO.nil (hKF _ _ ?_)
 refine Wp.cond (b := false) rfl ?_
 refine Wp.skip ?_
 refine sq ?_
 refine rg fun KF hKF => ?_
 refine mI rfl ?_
 refine WpO.nil (hKF _ _ ?_)
 refine sq ?_
 refine sq ?_
 refine rg fun KF hKF => ?_
 refine Fo.mov (by simp only [↓nrmL, nrmK, Nat.reduceEqDiff, ↓reduceIte]; rfl) ?_
 obtain ⟨P, hPe⟩ : ∃ P, pcs l N (a * b) = P := ⟨_, rfl⟩
 rw [hPe] at hcl2 hpx
 rw [hpx] at hcl1
 have l1 := hcl1.len
 have l2 := hcl2.len
 have hf := hcl2.few.1
 have kc := cellsC_length C2
 have hcl28 : CL H8 q2 a C2 P := hcl2.ext Ext0.ext
 have hcl18 : CL H8 q1 a C1 (P.filter fun ps => !f ps.length) := hcl1.ext Ext0.ext
 haveI := hcl28.row
 haveI : Ext0 H H8 := inferInstance
 haveI : HasRow H8 ((H1.push (.row [.int .i64 0, .int .i64 0, .nslice] true (2 * 24))).set H1.n (.row [.int .i64 (a : Int), .int .i64 (b : Int), g] true (2 * 24))).n [.int .i64 (t : Int)] true (2 * 3) := inferInstance
 refine Fo.len (v := ?_) (by simp only [↓nrmL, nrmK, Nat.reduceEqDiff, ↓reduceIte]; rfl) ?hv ?_; case hv => rfl
 refine mI rfl ?_
 refine WpO.nil (hKF _ _ ?_)
 refine Wp.block ?_
 dsimp only [cond_true, cond_false]
 refine Wp.loopS [19, 21, 95, 96, 97, 98, 99, 100, 101, 102, 103, 104, 105, 106] (fun s : Nat × Nat => [(95, .int .i64 (s.1 : Int)), (19, .int .i64 (s.2 : Int))]) (fun _ s H9 => s.1 ≤ P.length ∧ s.2 = ((P.take s.1).filter fun ps => !f ps.length).length ∧ HasRow H9 ((H1.push (.row [.int .i64 0, .int .i64 0, .nslice] true (2 * 24))).set H1.n (.row [.int .i64 (a : Int), .int .i64 (b : Int), g] true (2 * 24))).n [.int .i64 (t : Int)] true (2 * 3) ∧ Tabs H9 ∧ Ext0 H8 H9) (fun s => P.length - s.1) (0, 0) rfl (fun _ => rfl) ⟨rfl, rfl, trivial⟩ ⟨Nat.zero_le _, rfl, inferInstance, inferInstance, inferInstance⟩ (by unfold fuel0 at hn; dsimp only; omega) ?_
 rintro ⟨i, cn⟩ gg H9 ⟨hi, hcne, hr8, ht9, hx9⟩
 dsimp only at hi hcne
 haveI : ExtI H8 H9 := ⟨hx9.ext⟩
 have hcl29 := hcl28.ext hx9.ext
 haveI := hcl29.row
 simp only [↓nrmL, nrmZ, Nat.reduceEqDiff, ↓reduceIte, Nat.reduceAdd, Int.reduceBEq, Int.reduceBNe]
 have hcn : cn ≤ i := by
  rw [hcne]
  exact Nat.le_trans (List.length_filter_le _ _) (by rw [List.length_take]; omega)
 cases hc : decide ((i : Int) < ((C2.length : Nat) : Int))
 ·have hie : i = P.length := by have := of_decide_eq_false hc; omega
  subst hie
  have hq : ((cn : Int) == ((C1.length : Nat) : Int)) = true := by
   rw [hcne, List.take_length, l1]; exact beq_self_eq_true _
  have hall : ∀ ps ∈ P.filter (fun ps => !f ps.length), decide (((ps.length : Nat) : Int) < (t : Int)) = false := fun ps hps => by
   have h1 := (List.mem_filter.1 hps).2
   rw [Bool.not_eq_true', hff, Bool.not_eq_false', decide_eq_true_eq] at h1
   exact decide_eq_false (by omega)
  have hcl19 := hcl18.ext hx9.ext
  haveI := hcl19.row
  try simp only [↓nrmL, nrmZ, Nat.reduceEqDiff, ↓reduceIte, Nat.reduceAdd, Int.reduceBEq, Int.reduceBNe, hc, hq]
  refine sq ?_
  refine rg fun KF hKF => ?_
  refine Fo.bin rfl rfl rfl (by simp only [↓nrmL, nrmZ, Nat.reduceEqDiff, ↓reduceIte, Nat.reduceAdd, Int.reduceBEq, Int.reduceBNe, hc, hq]; rfl) ?_
  refine WpO.nil (hKF _ _ ?_)
  refine sq ?_
  refine Wp.cond (b := false) rfl ?_
  refine Wp.exit ?_
  refine sq ?_
  refine rg fun KF hKF => ?_
  refine mI rfl ?_
  refine Fo.mov (by simp only [↓nrmL, nrmK, Nat.reduceEqDiff, ↓reduceIte]; rfl) ?_
  refine Fo.len (v := ?_) (by simp only [↓nrmL, nrmK, Nat.reduceEqDiff, ↓reduceIte]; rfl) ?hv ?_; case hv => rfl
  refine Fo.bin rfl rfl rfl (by simp only [↓nrmL, nrmZ, Nat.reduceEqDiff, ↓reduceIte, Nat.reduceAdd, Int.reduceBEq, Int.reduceBNe, hc, hq]; rfl) ?_
  refine mB rfl ?_
  refine Fo.yes rfl rfl ?_
  refine Fo.mov (by simp only [↓nrmL, nrmK, Nat.reduceEqDiff, ↓reduceIte]; rfl) ?_
  refine Fo.yes rfl rfl ?_
  refine Fo.now rfl rfl rfl ?_
  refine Fo.yes rfl rfl ?_
  refine WpO.do (WpX.conD hn rfl rfl (by simp only [↓nrmL, nrmZ, Nat.reduceEqDiff, ↓reduceIte, Nat.reduceAdd, Int.reduceBEq, Int.reduceBNe, List.map] <;> rfl) (K_ContainsSpeck hcl19 hall).con fun v H10 h5 => ?_)
  obtain ⟨e5, hx10⟩ := h5
  subst e5
  haveI : ExtI _ H10 := ⟨hx10⟩
  refine Fo.yes rfl rfl ?_
  refine Fo.now rfl rfl (by simp only [↓nrmL, nrmZ, Nat.reduceEqDiff, ↓reduceIte, Nat.reduceAdd, Int.reduceBEq, Int.reduceBNe]; rfl) ?_
  refine tB rfl rfl ?_
  refine mB rfl ?_
  refine Fo.yes rfl rfl ?_
  refine Fo.pcall (v' := ?_) hn rfl (by simp only [↓nrmL, nrmZ, Nat.reduceEqDiff, ↓reduceIte, Nat.reduceAdd, Int.reduceBEq, Int.reduceBNe, List.map]; rfl) rfl ?hv fun _ _ => ?_; case hv => rfl
  refine tB rfl rfl ?_
  refine mB rfl ?_
  refine WpO.nil (hKF _ _ ?_)
  refine Wp.ret ?_
  dsimp only [cond_true, cond_false]
  refine ⟨trivial, _, (by first | rfl | exact getAllC rfl rfl rfl rfl | exact getAllT rfl (getAllC rfl rfl rfl rfl) | exact getAllC rfl rfl rfl (getAllC rfl rfl rfl rfl) | exact getAllC1 rfl rfl rfl), ?_⟩
  exact ⟨rfl, Ext0.ext⟩
 have hil : i < P.length := by have := of_decide_eq_true hc; omega
 have hw := wa1 (a := i) (by omega)
 obtain ⟨p1, e7, s1, f7⟩ := hcl29.at hil
 have g1 := cellsC_all e7
 dsimp only at g1
 haveI := s1.one
 have hsn : ((P.take (i + 1)).filter fun ps => !f ps.length).length = cn + (if f P[i].length = false then 1 else 0) := by
  rw [hcne, take_snoc (List.getElem?_eq_getElem hil), List.filter_append, List.length_append, List.filter_cons]
  cases f P[i].length <;> rfl
 have hfi := hff P[i].length
 generalize bxL a P[i] = bx at g1
 obtain ⟨x', y', w', h'⟩ := bx
 unfold Bx.cells at g1
 simp only [List.cons_append, List.nil_append] at g1
 cases hge : decide (((P[i].length : Nat) : Int) ≥ (t : Int))
 ·rw [hge] at hfi
  rw [hfi, if_neg (by decide), Nat.add_zero] at hsn
  try simp only [↓nrmL, nrmZ, Nat.reduceEqDiff, ↓reduceIte, Nat.reduceAdd, Int.reduceBEq, Int.reduceBNe, hc]
  refine sq ?_
  refine rg fun KF hKF => ?_
  refine Fo.bin rfl rfl rfl (by simp only [↓nrmL, nrmZ, Nat.reduceEqDiff, ↓reduceIte, Nat.reduceAdd, Int.reduceBEq, Int.reduceBNe, hc]; rfl) ?_
  refine WpO.nil (hKF _ _ ?_)
  refine sq ?_
  refine Wp.cond (b := true) rfl ?_
  refine Wp.skip ?_
  refine sq ?_
  refine Wp.block ?_
  refine sq ?_
  refine rg fun KF hKF => ?_
  refine Fo.idx (by simp only [↓nrmL, nrmK, Nat.reduceEqDiff, ↓reduceIte]; rfl) rfl ?_ (by simp only [↓nrmL, nrmZ, Nat.reduceEqDiff, ↓reduceIte, Nat.reduceAdd, Int.reduceBEq, Int.reduceBNe, hc]; rfl) ?_; (focus omega)
  refine Fo.now rfl (exec_ldNP (p := q2) (j := i * 5) rfl (by decide) (by omega) g1) rfl ?_
  try simp only [↓nrmL, nrmZ, Nat.reduceEqDiff, ↓reduceIte, Nat.reduceAdd, Int.reduceBEq, Int.reduceBNe, hge]
  refine Fo.new ?_
  refine Fo.st rfl (rfl : _ = AVal.agg _) rfl rfl rfl (by repeat (first | rfl | refine allOne_cons ?_)) (by simp only [↓nrmL, nrmZ, Nat.reduceEqDiff, ↓reduceIte, Nat.reduceAdd, Int.reduceBEq, Int.reduceBNe, hge]; rfl) ?_
  refine WpO.nil (hKF _ _ ?_)
  refine sq ?_
  refine rg fun KF hKF => ?_
  refine Fo.fa rfl ?_
  refine Fo.ld rfl rfl ?_
  refine Fo.len (v := ?_) (by simp only [↓nrmL, nrmK, Nat.reduceEqDiff, ↓reduceIte]; rfl) ?hv ?_; case hv => rfl
  refine Fo.ld rfl rfl ?_
  refine Fo.bin rfl rfl rfl (by simp only [↓nrmL, nrmZ, Nat.reduceEqDiff, ↓reduceIte, Nat.reduceAdd, Int.reduceBEq, Int.reduceBNe, hge]; rfl) ?_
  refine WpO.nil (hKF _ _ ?_)
  refine Wp.cond (b := false) rfl ?_
  refine Wp.skip ?_
  refine rg fun KF hKF => ?_
  refine Fo.bin rfl rfl rfl rfl ?_
  refine mI rfl ?_
  refine WpO.nil (hKF _ _ ?_)
  dsimp only [cond_true, cond_false]
  refine ⟨(i + 1, cn), by dsimp only; omega, ⟨by simp only [↓nrmL, nrmZ, Nat.reduceEqDiff, ↓reduceIte, Nat.reduceAdd, Int.reduceBEq, Int.reduceBNe]; rw [hw], rfl, trivial⟩, hil, hsn.symm, inferInstance, inferInstance, inferInstance⟩
 ·rw [hge] at hfi
  rw [hfi, if_pos (by decide)] at hsn
  have hwc := wa1 (a := cn) (by omega)
  try simp only [↓nrmL, nrmZ, Nat.reduceEqDiff, ↓reduceIte, Nat.reduceAdd, Int.reduceBEq, Int.reduceBNe, hc]
  refine sq ?_
  refine rg fun KF hKF => ?_
  refine Fo.bin rfl rfl rfl (by simp only [↓nrmL, nrmZ, Nat.reduceEqDiff, ↓reduceIte, Nat.reduceAdd, Int.reduceBEq, Int.reduceBNe, hc]; rfl) ?_
  refine WpO.nil (hKF _ _ ?_)
  refine sq ?_
  refine Wp.cond (b := true) rfl ?_
  refine Wp.skip ?_
  refine sq ?_
  refine Wp.block ?_
  refine sq ?_
  refine rg fun KF hKF => ?_
  refine Fo.idx (by simp only [↓nrmL, nrmK, Nat.reduceEqDiff, ↓reduceIte]; rfl) rfl ?_ (by simp only [↓nrmL, nrmZ, Nat.reduceEqDiff, ↓reduceIte, Nat.reduceAdd, Int.reduceBEq, Int.reduceBNe, hc]; rfl) ?_; (focus omega)
  refine Fo.now rfl (exec_ldNP (p := q2) (j := i * 5) rfl (by decide) (by omega) g1) rfl ?_
  try simp only [↓nrmL, nrmZ, Nat.reduceEqDiff, ↓reduceIte, Nat.reduceAdd, Int.reduceBEq, Int.reduceBNe, hge]
  refine Fo.new ?_
  refine Fo.st rfl (rfl : _ = AVal.agg _) rfl rfl rfl (by repeat (first | rfl | refine allOne_cons ?_)) (by simp only [↓nrmL, nrmZ, Nat.reduceEqDiff, ↓reduceIte, Nat.reduceAdd, Int.reduceBEq, Int.reduceBNe, hge]; rfl) ?_
  refine WpO.nil (hKF _ _ ?_)
  refine sq ?_
  refine rg fun KF hKF => ?_
  refine Fo.fa rfl ?_
  refine Fo.ld rfl rfl ?_
  refine Fo.len (v := ?_) (by simp only [↓nrmL, nrmK, Nat.reduceEqDiff, ↓reduceIte]; rfl) ?hv ?_; case hv => rfl
  refine Fo.ld rfl rfl ?_
  refine Fo.bin rfl rfl rfl (by simp only [↓nrmL, nrmZ, Nat.reduceEqDiff, ↓reduceIte, Nat.reduceAdd, Int.reduceBEq, Int.reduceBNe, hge]; rfl) ?_
  refine WpO.nil (hKF _ _ ?_)
  refine Wp.cond (b := true) rfl ?_
  refine rg fun KF hKF => ?_
  refine mI rfl ?_
  refine Fo.bin rfl rfl rfl rfl ?_
  refine mI rfl ?_
  refine WpO.nil (hKF _ _ ?_)
  refine rg fun KF hKF => ?_
  refine Fo.bin rfl rfl rfl rfl ?_
  refine mI rfl ?_
  refine WpO.nil (hKF _ _ ?_)
  dsimp only [cond_true, cond_false]
  refine ⟨(i + 1, cn + 1), by dsimp only; omega, ⟨by simp only [↓nrmL, nrmZ, Nat.reduceEqDiff, ↓reduceIte, Nat.reduceAdd, Int.reduceBEq, Int.reduceBNe]; rw [hw], by simp only [↓nrmL, nrmZ, Nat.reduceEqDiff, ↓reduceIte, Nat.reduceAdd, Int.reduceBEq, Int.reduceBNe]; rw [hwc], trivial⟩, hil, hsn.symm, inferInstance, inferInstance, inferInstance⟩
end Go.Am

set_option maxRecDepth 100000
set_option maxHeartbeats 4000000
namespace Go.Proofs.YtlbgcpmiedjmoaaDoor.ImageSpecks
open Go.ChangeShapes Go.WideShapes Go.ChangeAt Go.RowKit Go.Am Go.Proofs.YtlbgcpmiedjmoaaDoor.Laid

theorem con (H : AHeap) (avs : List AVal) (ht : tablesIn aroundT H = true) (h : ArgS Tryd.prog H 3 [100, 22, 5] avs) : Con ext prog 9 16 avs H fun v H' => v = .bool true ∧ Ext H H' := by
  obtain ⟨a0, r0, rfl, h0, a1, r1, rfl, h1, a2, r2, rfl, h2, rfl⟩ := h
  obtain ⟨i0, rfl, wf0⟩ := shape_int Tryd.underlying100 h0
  obtain ⟨s0, rfl, lt0⟩ := u16_of wf0
  obtain ⟨p1, l1, rfl, k1, _⟩ := shape_bytes Tryd.underlying22 Tryd.underlying5 (by kernel_rfl) h1
  haveI o1 := k1.one
  obtain ⟨i2, rfl, wf2⟩ := shape_int Tryd.underlying5 h2
  obtain ⟨s2, rfl⟩ := u8_of wf2
  have e0 : argV Tryd.prog 100 [.int .u16 (s0 : Int)] = .int .u16 (s0 : Int) := by simp only [argV, show aggTy Tryd.prog 100 = false by kernel_rfl, cond_false, List.headD_cons]
  have e1 : argV Tryd.prog 22 [p1] = p1 := by simp only [argV, show aggTy Tryd.prog 22 = false by kernel_rfl, cond_false, List.headD_cons]
  have e2 : argV Tryd.prog 5 [.int .u8 (s2.toNat : Int)] = .int .u8 (s2.toNat : Int) := by simp only [argV, show aggTy Tryd.prog 5 = false by kernel_rfl, cond_false, List.headD_cons]
  haveI : Tabs H := ⟨ht⟩
  rw [e0, e1, e2]
  exact (K_ImageSpecks (s := s0) (bits := l1) (c := s2) lt0)

theorem contract (H : Type) (enc : TypeId × Value → H) (W : World) (base : Nat) (args : Array Value) (ds gs : List (DataW H)) (before : List MemPlace)
    (hval : ∀ (j : Nat) t v, Tryd.f16.params[j]? = some t → args[j]? = some v → Value.okWide Tryd.prog W .any base t v)
    (hW : DataW.Whole enc Tryd.prog Tryd.f16.params.toList Rows.imageSpecksSpec.vars false W args.toList ds gs before) (hL : laidMetH Tryd.prog Rows.imageSpecksRow.laid W) :
    Calls Tryd.prog 16 args W fun e W' => ∃ v, e = .returned v ∧ Rows.imageSpecksSpec.post enc Tryd.prog Tryd.f16 false true false false W args v W' := by
  have hW' := hW
  obtain ⟨p, q, hA, _⟩ := hW'
  rw [Tryd.params16] at hA
  obtain ⟨v0, vs0, d0, ds0, p0, q0, _, rfl, _, _, r0⟩ := trodAll_cons hA
  obtain ⟨v1, vs1, d1, ds1, p1, q1, _, rfl, _, _, r1⟩ := trodAll_cons r0
  obtain ⟨v2, vs2, d2, ds2, p2, q2, _, rfl, _, _, r2⟩ := trodAll_cons r1
  obtain ⟨_, rfl, _⟩ := trodAll_nil r2
  exact law_calls (tb := 4) (n := 3) (d := 9) (tabs := aroundT) mixed progOk Tryd.func16 rfl (by decide +kernel) laidOut rowed full (by kernel_rfl) rfl (by kernel_rfl) Tryd.underlying4 (by kernel_rfl) (by kernel_rfl)
    (fun H avs ht h => con H avs ht (by rw [Tryd.params16] at h; exact h)) H enc W base args _ gs before rfl hval hW (around_cells hL)

theorem laid_met (os : Os) : laidMet Tryd.prog Rows.imageSpecksRow.laid ((laidWorld os).forCall (fun _ _ => 0) ⟨#[], #[.int .u16 0, .slice none 0 0, .int .u8 0], []⟩).memory :=
  laidMet_of_run' 8 (by kernel_rfl) (by kernel_rfl)
theorem reads (os : Os) {H : Type} (enc : TypeId × Value → H) : ∃ places, DataW.whole enc Tryd.prog ((laidWorld os).forCall (fun _ _ => 0) ⟨#[], #[.int .u16 0, .slice none 0 0, .int .u8 0], []⟩).memory Tryd.f16.params.toList Rows.imageSpecksSpec.vars false #[Value.int .u16 0, .slice none 0 0, .int .u8 0].toList 8 = some ([.lit (.int .u16 0), .nil, .lit (.int .u8 0)], [], places) :=
  ⟨[], by kernel_rfl⟩

theorem lifted (os : Os) (started : os.Started) (H : Type) (enc : TypeId × Value → H) (F : Stop.Interp) :
    ReturnsInHanded {} Tryd.checked os 16 .any ((OpenSpec.ofChange Rows.imageSpecksSpec).preRow enc Tryd.prog Tryd.f16 Rows.imageSpecksRow.domain false Rows.imageSpecksRow.laid) (((OpenSpec.ofChange Rows.imageSpecksSpec).at F).post enc Tryd.prog Tryd.f16 false true false false) := by
  obtain ⟨places, hx⟩ := reads os enc
  refine returnsInHanded_of_row (C := Tryd.checked) (s := OpenSpec.ofChange Rows.imageSpecksSpec) own started (by kernel_rfl) Tryd.func16
    (witness_row_at (enc := enc) (C := Tryd.checked) false (laidWorld os) #[.int .u16 0, .slice none 0 0, .int .u8 0] rfl (by kernel_rfl) (by kernel_rfl) (by kernel_rfl)
      (OpenSpec.preRow_of_cond 8 hx (by kernel_rfl) (fun k hk => by cases hk) (by kernel_rfl) (laid_met os))) ?_
  intro W base args ds gs before hval hW _ _ _ hL _ _
  exact contract H enc W base args ds gs before hval hW hL

theorem said : Rows.ImageSpecksSaid :=
  OpenClaim.holds_of_cond 16 Tryd.f16 rfl rfl rfl rfl rfl rfl rfl ⟨rfl, rfl, rfl, rfl, rfl⟩ rfl rfl rfl rfl rfl (by kernel_rfl) Tryd.func16 (by kernel_rfl)
    (of_decide_eq_true (by kernel_rfl)) (by unfold Func.isWrapper; first | (rw [if_pos (by decide +kernel)]; kernel_rfl) | (rw [if_neg (by decide +kernel)]; exact ⟨rfl, rfl⟩))
    (fun os started H enc _ F => by rw [OpenClaim.pre_eq_preRow]; exact lifted os started H enc F)

theorem plain (f : FuncId) (fn : Func) (hf : Tryd.pinned.checked.prog.funcNamed "custos/custoslaw01.ImageSpecks" = some f) (hfn : Tryd.pinned.checked.prog.funcs[f]? = some fn) :
    false = Tryd.pinned.checked.prog.looks [] ∧ ∀ (j : Nat) t, fn.params[j]? = some t → Tryd.pinned.checked.prog.wantsStandIn t = false := by
  obtain rfl : f = 16 := Option.some.inj ((show Tryd.prog.funcNamed "custos/custoslaw01.ImageSpecks" = some 16 by kernel_rfl).symm.trans hf) |>.symm
  obtain rfl : fn = Tryd.f16 := (Option.some.inj (Tryd.func16.symm.trans hfn)).symm
  refine ⟨by kernel_rfl, fun j t ht => ?_⟩
  have h := List.all_eq_true.1 (show (Tryd.f16.params.toList.all fun t => !(Tryd.prog.wantsStandIn t)) = true by kernel_rfl) t (by simpa using Array.mem_of_getElem? ht)
  have h2 : Tryd.prog.wantsStandIn t = false := by simpa using h
  exact h2

/-- The card. -/
theorem card : Rows.ImageSpecksCardSaid :=
  Claim7.holds_tied_plain_at .later [] _ _ _ _ said (fun _ h => by cases h) (by kernel_rfl) (fun _ h => by cases h) imageSpecks_row_tie rfl ⟨rfl, rfl⟩ (by kernel_rfl) rfl plain (by kernel_rfl)
end Go.Proofs.YtlbgcpmiedjmoaaDoor.ImageSpecks
