/-
  CleanRecipes returns true for all images and recipes, and leaves the image as it was. No condition.
-/
import Derived.Test.YtdbgdhjcpmacoaaDoorAmBF
set_option linter.unusedSimpArgs false
set_option linter.unusedVariables false
set_option maxHeartbeats 8000000
set_option maxRecDepth 100000
set_option synthInstance.maxHeartbeats 4000000
set_option synthInstance.maxSize 1000000000
namespace Go.Am
open Go
attribute [local irreducible] Wp WpO WpX WpE
theorem proper_ok {t k s : Int} (h0 : 0 ≤ t ∧ t ≤ 256) (hk : skB k = true) (h1 : 0 ≤ s) : properB t k s = true := by
 unfold properB
 rw [decide_eq_true h0.1, decide_eq_true h0.2, hk, decide_eq_true h1]; rfl
theorem K_refClean {a b : Nat} {t : Int} {p : AVal} {H : AHeap} {l : List UInt8} [hp : BytesI H p l] [hsm : Small l] (hs : sizedB a b l.length = true) (hl : (lvR (fun i => (lv l).getD i 0) 256).1 = t) (h0 : 0 ≤ t ∧ t ≤ 256) (hle : l.length ≤ 3000) : Con ext prog 14 13 [.agg [.int .i64 a, .int .i64 b, p]] H fun v H' => ∃ T k c U N q, thrSpec ⟨a, b, l⟩ t = (⟨a, b, T⟩, 0) ∧ Ok a b T ∧ findS ⟨a, b, T⟩ = (k, 0) ∧ b = c + grN a k a ∧ unskewS ⟨a, b, T⟩ k = (⟨a, c, U⟩, 0) ∧ Ok a c U ∧ (∀ i, i < a * c → U.getD i 0 = 1 → Lead U a c true i (N.getD i 0)) ∧ v = .tuple [q, .agg [.int .i64 t, .int .i64 k, .int .i64 2]] ∧ NewInk H H' q ⟨a, c, spk 1 (fun n => decide ((n : Int) ≥ 2)) (List.replicate (a * c) 0) (pcs U N (a * c))⟩ := by
 refine con_of (show prog 13 = some c13 from rfl) rfl rfl fun n hn => ?_
 haveI := hp.one
 obtain ⟨T, hT, okT⟩ := thr_ok (t := t) hs (by omega) (by omega)
 obtain ⟨k, c, U, hf, hkf, hsk, hc, u1, u2⟩ := find_un okT
 repeat first
  | refine fd ?_
  | refine Fo.ld rfl rfl ?_
  | (refine Fo.ldN rfl rfl (by simp only [↓nrmL, nrmZ, Nat.reduceEqDiff, ↓reduceIte, hl]; rfl) ?_)
  | (refine Fo.pcall (v' := ?_) hn rfl (by simp only [↓nrmL, nrmZ, Nat.reduceEqDiff, ↓reduceIte, hl, List.map]; rfl) rfl ?hv fun _ _ => ?_; case hv => (simp only [hl]; rfl))
  | refine bA ?_
  | refine nw ?_
  | (refine Fo.now rfl rfl (by simp only [↓nrmL, nrmZ, Nat.reduceEqDiff, ↓reduceIte, hl]; rfl) ?_)
  | (refine so rfl (rfl : _ = AVal.agg _) rfl rfl rfl (by simp only [↓nrmL, nrmZ, Nat.reduceEqDiff, ↓reduceIte, hl]; rfl) ?_)
  | refine nl hKF ?_
  | refine sq ?_
  | refine rg fun KF hKF => ?_
 refine WpO.do (WpX.conD hn rfl rfl (by simp only [↓nrmL, nrmZ, Nat.reduceEqDiff, ↓reduceIte, List.map] <;> rfl) (K_refThreshold (w := a) (h := b) (l := l) (level := t)) fun v H1 h5 => ?_)
 rw [hT] at h5
 obtain ⟨v, e1, q, e2, hq, hf1, hw, hx⟩ := h5
 subst e1 e2
 try dsimp only at hq
 haveI : ExtI _ H1 := ⟨hx⟩
 haveI := hq.one
 refine mT ?_
 refine xt ?_
 refine xt ?_
 refine nw ?_
 refine so rfl (rfl : _ = AVal.agg _) rfl rfl rfl (by simp only [↓nrmL, nrmZ, Nat.reduceEqDiff, ↓reduceIte]; rfl) ?_
 refine mI ?_
 refine nl hKF ?_
 refine sq ?_
 refine rg fun KF hKF => ?_
 refine Fo.ldN rfl rfl (by simp only [↓nrmL, nrmZ, Nat.reduceEqDiff, ↓reduceIte]; rfl) ?_
 dsimp only [cond_true, cond_false]
 refine WpO.do (WpX.conD hn rfl rfl (by simp only [↓nrmL, nrmZ, Nat.reduceEqDiff, ↓reduceIte, List.map] <;> rfl) (K_refFindSkew (a := a) (b := b) (l := T) okT) fun v H2 h5 => ?_)
 obtain ⟨rfl, hx2⟩ := h5
 haveI : ExtI _ H2 := ⟨hx2⟩
 rw [← hkf]
 repeat first
  | refine fd ?_
  | (refine Fo.ldN rfl rfl (by simp only [↓nrmL, nrmZ, Nat.reduceEqDiff, ↓reduceIte]; rfl) ?_)
  | (refine so rfl (rfl : _ = AVal.int _ _) rfl rfl rfl (by simp only [↓nrmL, nrmZ, Nat.reduceEqDiff, ↓reduceIte]; rfl) ?_)
  | refine nl hKF ?_
  | refine sq ?_
  | refine rg fun KF hKF => ?_
 refine WpO.do (WpX.conD hn rfl rfl (by simp only [↓nrmL, nrmZ, Nat.reduceEqDiff, ↓reduceIte, List.map] <;> rfl) (K_refApply (a := a) (b := b) (l := l) (t0 := t) (k0 := k) (s0 := 2) hs (proper_ok h0 hsk (of_decide_eq_true rfl)) hle) fun v H3 h5 => ?_)
 obtain ⟨T', hT', _, ⟨hg, _⟩ | ⟨c', U', N, hc', u1', u2', hN, v, e1, q3, e2, hq3, hf3, hw3, hx3⟩⟩ := h5
 ·exact absurd (by omega) hg
 have eT : T' = T := by rw [hT] at hT'; injection hT' with e; injection e with _ _ e; exact e.symm
 subst eT
 have ec : c' = c := by omega
 subst ec
 have eU : U' = U := by rw [u1] at u1'; injection u1' with e; injection e with _ _ e; exact e.symm
 subst eU
 subst e1 e2
 try dsimp only at hq3
 haveI : ExtI _ H3 := ⟨hx3⟩
 haveI := hq3.one
 refine mT ?_
 refine xt ?_
 refine xt ?_
 refine nw ?_
 refine so rfl (rfl : _ = AVal.agg _) rfl rfl rfl (by simp only [↓nrmL, nrmZ, Nat.reduceEqDiff, ↓reduceIte]; rfl) ?_
 refine mI ?_
 refine nl hKF ?_
 refine sq ?_
 dsimp only [cond_true, cond_false]
 refine Fr.dregion0 rfl fun KF hKF => ?_
 repeat first
  | (refine Er rfl (exec_ldN rfl rfl (by simp only [↓nrmL, nrmZ, Nat.reduceEqDiff, ↓reduceIte]; rfl)) rfl ?_)
  | (refine Ee rfl (xs rfl (by (try simp only [↓nrmL, nrmZ, Nat.reduceEqDiff, ↓reduceIte]); rfl) rfl rfl rfl (by (try simp only [↓nrmL, nrmZ, Nat.reduceEqDiff, ↓reduceIte]); rfl)) ?_)
  | refine WpE.nil (hKF _ _ ?_)
 refine rt ?_
 dsimp only [cond_true, cond_false]
 refine rz trivial ?_
 exact ⟨_, k, _, _, N, _, hT, okT, hf, hc, u1, u2, hN, rfl, q3, rfl, (show BytesI _ q3 (spk 1 (fun n => decide ((n : Int) ≥ 2)) (List.replicate (a * c') 0) (pcs U' N (a * c'))) from inferInstance), hf3.weak, inferInstance, Ext0.ext⟩
theorem des_eq {a c : Nat} {U : List UInt8} {M L N : List Nat} {s : Int} (ok : Ok a c U) (hlab : Lab U a c true M L (a * c)) (hN : ∀ i, i < a * c → U.getD i 0 = 1 → Lead U a c true i (N.getD i 0)) :
    spk 0 (fun n => !decide ((n : Int) ≥ s)) U (pxAll M L.length (a * c)) = spk 1 (fun n => decide ((n : Int) ≥ s)) (List.replicate (a * c) 0) (pcs U N (a * c)) := by
  rw [pxAll_fls hlab hN]
  exact spk_same ok.len ok.px hN _
theorem lvP_t (c : Nat → Int) : ∀ i, i ≤ 256 → 0 ≤ (lvP c i).1.1 ∧ (lvP c i).1.1 ≤ 256
  | 0, _ => ⟨of_decide_eq_true rfl, of_decide_eq_true rfl⟩
  | i + 1, hi => by
    have ih := lvP_t c i (by omega)
    have hb := lvP_bd c i
    simp only [lvP]
    cases c i == 0
    · rw [cond_false]
      cases hd : decide ((lvP c i).2 ≥ 0)
      · rw [cond_false]; exact ih
      · have hd' := of_decide_eq_true hd
        rw [cond_true]
        unfold lvU
        cases decide ((i : Int) - (lvP c i).2 > (lvP c i).1.2)
        · rw [cond_false]; exact ih
        · rw [cond_true]
          dsimp only
          rw [Int.tdiv_eq_ediv_of_nonneg (by omega)]
          omega
    · rw [cond_true]; exact ih
theorem level_ok {w h : Int} {l : List UInt8} (hs : sizedB w h l.length = true) : ∃ t, levelS ⟨w, h, l⟩ = (t, 0) ∧ (lvR (fun i => (lv l).getD i 0) 256).1 = t ∧ 0 ≤ t ∧ t ≤ 256 := by
  refine ⟨(lvP (fun i => (lv l).getD i 0) 256).1.1, by simp only [levelS, Img.sized, hs, cond_true], by rw [lv_same], ?_⟩
  exact lvP_t _ 256 (Nat.le_refl _)
end Go.Am
namespace Go.Am
open Go
attribute [local irreducible] Wp WpO WpX WpE
theorem filled_one (w : Nat) : filled (fun _ => 1) w w = List.replicate w 1 := by
 rw [filled_all, List.map_const', List.length_range]
theorem K_lineL {w : Nat} {H : AHeap} (hw : w ≤ 640) : Con ext prog 1 19 [.int .i64 (w : Int)] H fun v H' => NewInk H H' v ⟨w, 1, List.replicate w 1⟩ := by
 refine con_of (show prog 19 = some c19 from rfl) rfl rfl fun n hn => ?_
 repeat first
  | refine mI ?_
  | refine nw ?_
  | refine nl hKF ?_
  | refine sq ?_
  | refine rg fun KF hKF => ?_
 refine WpO.do (WpX.mkB rfl rfl rfl (by omega) fun q H1 e1 hq hf hw' hx => ?_); try simp only [↓nrmL, nrmZ, Nat.reduceEqDiff, ↓reduceIte]
 haveI := hq.one
 refine ob (cs' := ?_) ?hc ?_; case hc => (simp only [↓nrmL, nrmZ, Nat.reduceEqDiff, ↓reduceIte]; rfl)
 refine nw ?_
 refine so rfl (rfl : _ = AVal.agg _) rfl rfl rfl (by simp only [↓nrmL, nrmZ, Nat.reduceEqDiff, ↓reduceIte]; rfl) ?_
 refine nl hKF ?_
 refine sq ?_
 refine sq ?_
 refine rg fun KF hKF => ?_
 refine fd ?_
 refine Fo.ld rfl rfl ?_
 refine ln (by simp only [↓nrmL, nrmK, Nat.reduceEqDiff, ↓reduceIte]; rfl) ?_
 refine mI ?_
 refine nl hKF ?_
 refine Wp.block ?_
 dsimp only [cond_true, cond_false]
 refine Wp.loopS [4,12,13,14,15,16,17,18,19] (fun i : Nat => [(12, .int .i64 i)]) (fun H3 i H2 => i ≤ w ∧ BytesI H2 q (filled (fun _ => 1) i w) ∧ WrS H2 q ∧ ExtP0 H3 H2 q) (fun i => w - i) 0 rfl (fun _ => rfl) ⟨rfl, trivial⟩ ⟨Nat.zero_le _, by rw [filled_zero]; infer_instance, inferInstance, inferInstance⟩ (by unfold fuel0 at hn; omega) ?_
 rintro i g H2 ⟨hi, hb2, hw2, ⟨hx2⟩⟩
 simp only [↓nrmL, nrmZ, Nat.reduceEqDiff, ↓reduceIte, List.length_replicate]
 cases hc : decide ((i : Int) < (w : Int))
 ·have hil : i = w := by have := of_decide_eq_false hc; omega
  subst hil
  rw [filled_one] at hb2
  repeat first
   | (refine Fo.ldN rfl rfl (by simp only [↓nrmL, nrmZ, Nat.reduceEqDiff, ↓reduceIte, hc]; rfl) ?_)
   | (refine bn rfl rfl rfl (by simp only [hc]; rfl) ?_)
   | (refine so rfl (rfl : _ = AVal.agg _) rfl rfl rfl (by simp only [↓nrmL, nrmZ, Nat.reduceEqDiff, ↓reduceIte, hc]; rfl) ?_)
   | refine nl hKF ?_
   | refine sq ?_
   | refine rg fun KF hKF => ?_
   | refine cf rfl ?_
   | refine rt ?_
   | refine xi ?_
  refine rz trivial ?_
  exact ⟨q, rfl, (show BytesI _ q (List.replicate i 1) from inferInstance), hf.weak, inferInstance, Ext0.ext⟩
 ·have hil : i < w := by have := of_decide_eq_true hc; omega
  have hw1 := wa1 (a := i) (by omega)
  have hfl := filled_length (fun _ => (1 : UInt8)) i w
  repeat first
   | refine mI ?_
   | refine fd ?_
   | refine Fo.ld rfl rfl ?_
   | (refine bn rfl rfl rfl (by simp only [hc]; rfl) ?_)
   | (refine Fo.idx (by simp only [↓nrmL, nrmK, Nat.reduceEqDiff, ↓reduceIte]; rfl) rfl ?_ (by simp only [↓nrmL, nrmZ, Nat.reduceEqDiff, ↓reduceIte, hc]; rfl) ?_; (focus omega))
   | refine nl hKF ?_
   | refine sq ?_
   | refine rg fun KF hKF => ?_
   | refine ct rfl ?_
   | refine sk ?_
   | refine Wp.block ?_
  refine WpO.do' (WpX.stB (p := q) (j := i) (l := filled (fun _ => 1) i w) 1 rfl rfl rfl (by omega) fun H4 hb4 hw4 hx4 => ?_)
  rw [filled_succ (f := fun _ => (1 : UInt8))] at hb4
  haveI := hx4
  refine nl hKF ?_
  refine rg fun KF hKF => ?_
  refine b0 ?_
  refine mI ?_
  refine nl hKF ?_
  dsimp only [cond_true, cond_false]
  refine ⟨i + 1, by omega, ⟨by simp only [↓nrmL, nrmZ, Nat.reduceEqDiff, ↓reduceIte]; rw [hw1], trivial⟩, hil, hb4, hw4, inferInstance⟩
end Go.Am
namespace Go.Am
open Go
def aw1 : List UInt8 := List.replicate 65 0 ++ List.replicate 64 1 ++ [0] ++ List.replicate 64 1 ++ List.replicate 64 0 ++ [1] ++ List.replicate 128 0
theorem aw_e1 : skewS ⟨((129 : Nat) : Int), 1, List.replicate 129 1⟩ (-1) = (⟨129, 3, aw1⟩, 0) := by decide +kernel
theorem aw_e2 : findS ⟨129, 3, aw1⟩ = (-1, 0) := by decide +kernel
theorem aw_e3 : skewS ⟨((64 : Nat) : Int), 1, List.replicate 64 1⟩ 1 = (⟨64, 1, List.replicate 64 1⟩, 0) := by decide +kernel
theorem aw_e4 : levelS ⟨4, 1, [10, 20, 200, 210]⟩ = (110, 0) := by decide +kernel
theorem aw_e5 : levelS ⟨3, 1, [200, 0, 100]⟩ = (50, 0) := by decide +kernel
end Go.Am
namespace Go.Am
open Go
attribute [local irreducible] Wp WpO WpX WpE
theorem bytes_of {H : AHeap} {r n : Nat} {cs : List AVal} {l : List UInt8} {e : TypeId} (hg : HasRow H r cs true e) (hn : l.length = n) (hc : cs = cellsB l) : BytesI H (.slice r 0 n (some n) 1) l := by
 subst hn hc
 refine ⟨Or.inr ⟨r, 0, some l.length, cellsB l, true, e, rfl, hg.lt, hg.get, by rw [cellsB_length]; omega, ?_, Nat.le_refl _⟩⟩
 rw [List.drop_zero, Nat.mul_one, ← cellsB_length l, List.take_length]
instance K_awake {H : AHeap} : PureCon ext prog 5 [] H 13 (.bool true) := ⟨by
 refine con_of (show prog 5 = some c5 from rfl) rfl rfl fun n hn => ?_
 haveI b1 : BytesI (H.push (.row [.int .u8 10, .int .u8 20, .int .u8 200, .int .u8 210] true (2 * 5))) (.slice H.n 0 4 (some 4) 1) [10, 20, 200, 210] := bytes_of (e := 2 * 5) ⟨Nat.lt_succ_self _, push_get_eq⟩ rfl rfl
 simp only [aw_e4]
 repeat first
  | refine mI ?_
  | refine mB ?_
  | refine mT ?_
  | refine xt ?_
  | (refine Fo.pcall (v' := ?_) hn rfl (by simp only [↓nrmL, nrmZ, Nat.reduceEqDiff, ↓reduceIte, Nat.reduceAdd, Int.reduceBEq, Int.reduceBNe, aw_e4, List.map]; rfl) rfl ?hv fun _ _ => ?_; case hv => (simp only [aw_e4]; rfl))
  | (refine Fo.bslice rfl (by simp only [↓nrmL, nrmZ, Nat.reduceEqDiff, ↓reduceIte, Nat.reduceAdd, Int.reduceBEq, Int.reduceBNe, aw_e4]; rfl) ?_)
  | (refine Fo.now rfl rfl (by simp only [↓nrmL, nrmZ, Nat.reduceEqDiff, ↓reduceIte, Nat.reduceAdd, Int.reduceBEq, Int.reduceBNe, aw_e4]; rfl) ?_)
  | refine nl hKF ?_
  | refine sq ?_
  | refine rg fun KF hKF => ?_
 rename AHeap => H1
 haveI b2 : BytesI (H1.push (.row [.int .u8 200, .int .u8 0, .int .u8 100] true (2 * 5))) (.slice H1.n 0 3 (some 3) 1) [200, 0, 100] := bytes_of (e := 2 * 5) ⟨Nat.lt_succ_self _, push_get_eq⟩ rfl rfl
 refine Fo.pcall (v' := ?_) hn rfl (by simp only [↓nrmL, nrmZ, Nat.reduceEqDiff, ↓reduceIte, Nat.reduceAdd, Int.reduceBEq, Int.reduceBNe, aw_e5, List.map]; rfl) rfl ?hv fun _ _ => ?_; case hv => (simp only [aw_e5]; rfl)
 refine mT ?_
 refine xt ?_
 refine xt ?_
 refine mI ?_
 refine mI ?_
 refine nl hKF ?_
 refine sq ?_
 refine rg fun KF hKF => ?_
 refine WpO.do (WpX.conD hn rfl rfl (by simp only [↓nrmL, nrmZ, Nat.reduceEqDiff, ↓reduceIte, Nat.reduceAdd, Int.reduceBEq, Int.reduceBNe, List.map] <;> rfl) (K_lineL (w := 129) (by decide)) fun v H5 h5 => ?_)
 obtain ⟨q1, e1, hq1, hf1, hw1, hx1⟩ := h5
 subst e1
 try dsimp only at hq1
 haveI : ExtI _ H5 := ⟨hx1⟩
 haveI := hq1.one
 dsimp only [cond_true, cond_false]
 refine WpO.do (WpX.conD hn rfl rfl (by simp only [↓nrmL, nrmZ, Nat.reduceEqDiff, ↓reduceIte, Nat.reduceAdd, Int.reduceBEq, Int.reduceBNe, List.map] <;> rfl) (K_Skew (w := ((129 : Nat) : Int)) (h := 1) (k := -1) (l := List.replicate 129 1)) fun v H6 h5 => ?_)
 rw [aw_e1] at h5
 obtain ⟨u, e1, q2, e2, hq2, hf2, hw2, hx2⟩ := h5
 subst e1 e2
 try dsimp only at hq2
 haveI : ExtI _ H6 := ⟨hx2⟩
 haveI := hq2.one
 simp only [aw_e2]
 repeat first
  | refine mI ?_
  | refine mT ?_
  | (refine Fo.ldN rfl rfl (by simp only [↓nrmL, nrmZ, Nat.reduceEqDiff, ↓reduceIte, Nat.reduceAdd, Int.reduceBEq, Int.reduceBNe, aw_e2]; rfl) ?_)
  | refine xt ?_
  | (refine Fo.pcall (v' := ?_) hn rfl (by simp only [↓nrmL, nrmZ, Nat.reduceEqDiff, ↓reduceIte, Nat.reduceAdd, Int.reduceBEq, Int.reduceBNe, aw_e2, List.map]; rfl) rfl ?hv fun _ _ => ?_; case hv => (simp only [aw_e2]; rfl))
  | refine nw ?_
  | (refine so rfl (rfl : _ = AVal.agg _) rfl rfl rfl (by simp only [↓nrmL, nrmZ, Nat.reduceEqDiff, ↓reduceIte, Nat.reduceAdd, Int.reduceBEq, Int.reduceBNe, aw_e2]; rfl) ?_)
  | refine nl hKF ?_
  | refine sq ?_
  | refine rg fun KF hKF => ?_
 refine WpO.do (WpX.conD hn rfl rfl (by simp only [↓nrmL, nrmZ, Nat.reduceEqDiff, ↓reduceIte, Nat.reduceAdd, Int.reduceBEq, Int.reduceBNe, List.map] <;> rfl) (K_lineL (w := 64) (by decide)) fun v H7 h5 => ?_)
 obtain ⟨q3, e1, hq3, hf3, hw3, hx3⟩ := h5
 subst e1
 try dsimp only at hq3
 haveI : ExtI _ H7 := ⟨hx3⟩
 haveI := hq3.one
 dsimp only [cond_true, cond_false]
 refine WpO.do (WpX.conD hn rfl rfl (by simp only [↓nrmL, nrmZ, Nat.reduceEqDiff, ↓reduceIte, Nat.reduceAdd, Int.reduceBEq, Int.reduceBNe, List.map] <;> rfl) (K_Skew (w := ((64 : Nat) : Int)) (h := 1) (k := 1) (l := List.replicate 64 1)) fun v H8 h5 => ?_)
 rw [aw_e3] at h5
 obtain ⟨u, e1, q4, e2, hq4, hf4, hw4, hx4⟩ := h5
 subst e1 e2
 try dsimp only at hq4
 haveI : ExtI _ H8 := ⟨hx4⟩
 haveI := hq4.one
 refine mT ?_
 refine xt ?_
 refine xt ?_
 refine nw ?_
 refine so rfl (rfl : _ = AVal.agg _) rfl rfl rfl (by simp only [↓nrmL, nrmZ, Nat.reduceEqDiff, ↓reduceIte, Nat.reduceAdd, Int.reduceBEq, Int.reduceBNe]; rfl) ?_
 refine mI ?_
 refine nl hKF ?_
 refine sq ?_
 dsimp only [cond_true, cond_false]
 refine Fr.dregion0 rfl fun KF hKF => ?_
 repeat first
  | (refine Er rfl (exec_ld rfl rfl) rfl ?_)
  | (refine Er rfl (exec_ldN rfl rfl (by simp only [↓nrmL, nrmZ, Nat.reduceEqDiff, ↓reduceIte, Nat.reduceAdd, Int.reduceBEq, Int.reduceBNe]; rfl)) rfl ?_)
  | (refine Fe.pure rfl rfl (by simp only [↓nrmL, nrmZ, Nat.reduceEqDiff, ↓reduceIte, Nat.reduceAdd, Int.reduceBEq, Int.reduceBNe]; rfl) ?_)
 refine Fe.con rfl hn rfl rfl (by simp only [↓nrmL, nrmZ, Nat.reduceEqDiff, ↓reduceIte, Nat.reduceAdd, Int.reduceBEq, Int.reduceBNe, List.map] <;> rfl) (K_lineL (w := 64) (by decide)) fun v H9 h5 => ?_
 obtain ⟨q5, e1, hq5, hf5, hw5, hx5⟩ := h5
 subst e1
 try dsimp only at hq5
 haveI : ExtI _ H9 := ⟨hx5⟩
 haveI := hq5.one
 haveI : Short (List.replicate 64 (1 : UInt8)) := ⟨by rw [List.length_replicate]; decide⟩
 have hs : decide ((⟨64, 1, List.replicate 64 1⟩ : Img) = ⟨64, 1, List.replicate 64 1⟩) = true := decide_eq_true rfl
 refine ar ?_
 simp only [hs]
 refine Fe.pcall (v' := ?_) rfl hn rfl (by simp only [↓nrmL, nrmZ, Nat.reduceEqDiff, ↓reduceIte, Nat.reduceAdd, Int.reduceBEq, Int.reduceBNe, hs, List.map]; rfl) rfl ?hv fun _ _ => ar ?_; case hv => rfl
 refine Fe.pure rfl rfl (by simp only [hs]; rfl) ?_
 refine Fe.pure rfl rfl (by simp only [↓nrmL, nrmZ, Nat.reduceEqDiff, ↓reduceIte, Nat.reduceAdd, Int.reduceBEq, Int.reduceBNe, hs]; rfl) ?_
 refine WpE.nil (hKF _ _ ?_)
 refine rt ?_
 dsimp only [cond_true, cond_false]
 refine rz trivial ?_
 exact ⟨rfl, Ext0.ext⟩⟩
end Go.Am
namespace Go.Am
open Go
attribute [local irreducible] Wp WpO WpX WpE
theorem aEq_same3 (a b c : Int) : aEq (.fields [some (0, 0, .int), some (1, 0, .int), some (2, 0, .int)]) (.agg [.int .i64 a, .int .i64 b, .int .i64 c]) (.agg [.int .i64 a, .int .i64 b, .int .i64 c]) = some true := by
 simp only [aEq, aEqs, aPart, if_true, List.getElem?_cons_zero, List.getElem?_cons_succ, beq_self_eq_true]
theorem K_CleanRecipes {w h t0 k0 s0 : Int} {p : AVal} {H : AHeap} {l : List UInt8} [hp : BytesI H p l] [ht : Tabs H] : Con ext prog 18 3 [.agg [.int .i64 w, .int .i64 h, p], .agg [.int .i64 t0, .int .i64 k0, .int .i64 s0]] H fun v H' => v = .bool true ∧ Ext H H' := by
 refine con_of (show prog 3 = some c3 from rfl) rfl rfl fun n hn => ?_
 haveI := hp.one
 cases hl : decide (((l.length : Nat) : Int) > 3000)
 rotate_left
 ·skip
  repeat first
   | refine mB ?_
   | refine fd ?_
   | refine Fo.ld rfl rfl ?_
   | (refine bn rfl rfl rfl (by simp only [hl]; rfl) ?_)
   | (refine Fo.pcall (v' := ?_) hn rfl (by simp only [hl, List.map]; rfl) rfl ?hv fun _ _ => ?_; case hv => rfl)
   | (refine ln (by simp only [↓nrmL, nrmK, Nat.reduceEqDiff, ↓reduceIte]; rfl) ?_)
   | refine bA ?_
   | refine nl hKF ?_
   | refine sq ?_
   | refine rg fun KF hKF => ?_
   | refine ct rfl ?_
   | refine rt ?_
   | dsimp only [cond_true, cond_false]
  refine rz trivial ?_
  exact ⟨rfl, Ext0.ext⟩
 have hlen : l.length ≤ 3000 := by have := of_decide_eq_false hl; omega
 haveI : Short l := ⟨by omega⟩
 haveI : Small l := ⟨by omega⟩
 have hsg : decide ((⟨w, h, l⟩ : Img) = ⟨w, h, l⟩) = true := decide_eq_true rfl
 repeat first
  | refine mB ?_
  | refine fd ?_
  | refine Fo.ld rfl rfl ?_
  | (refine Fo.ldN rfl rfl (by simp only [↓nrmL, nrmZ, Nat.reduceEqDiff, ↓reduceIte, Nat.reduceAdd, Int.reduceBEq, Int.reduceBNe, hl]; rfl) ?_)
  | (refine bn rfl rfl rfl (by simp only [hl]; rfl) ?_)
  | (refine ln (by simp only [↓nrmL, nrmK, Nat.reduceEqDiff, ↓reduceIte]; rfl) ?_)
  | refine bA ?_
  | refine nl hKF ?_
  | refine sq ?_
  | refine rg fun KF hKF => ?_
  | refine cf rfl ?_
  | refine sk ?_
 refine WpO.do (WpX.conD hn rfl rfl (by simp only [↓nrmL, nrmZ, Nat.reduceEqDiff, ↓reduceIte, Nat.reduceAdd, Int.reduceBEq, Int.reduceBNe, List.map] <;> rfl) (K_CopyGrey (a := w) (b := h) (l := l) (by omega)) fun v H1 h5 => ?_)
 obtain ⟨q, e1, hq, hf, hw, hx⟩ := h5
 subst e1
 try dsimp only at hq
 haveI : ExtI _ H1 := ⟨hx⟩
 haveI := hq.one
 repeat first
  | (refine Fo.ldN rfl rfl (by simp only [↓nrmL, nrmZ, Nat.reduceEqDiff, ↓reduceIte, Nat.reduceAdd, Int.reduceBEq, Int.reduceBNe]; rfl) ?_)
  | refine nw ?_
  | (refine so rfl (rfl : _ = AVal.agg _) rfl rfl rfl (by simp only [↓nrmL, nrmZ, Nat.reduceEqDiff, ↓reduceIte, Nat.reduceAdd, Int.reduceBEq, Int.reduceBNe]; rfl) ?_)
  | refine nl hKF ?_
  | refine sq ?_
  | refine rg fun KF hKF => ?_
  | dsimp only [cond_true, cond_false]
 cases hs : sizedB w h l.length
 ·refine WpO.do (WpX.conD hn rfl rfl (by simp only [↓nrmL, nrmZ, Nat.reduceEqDiff, ↓reduceIte, Nat.reduceAdd, Int.reduceBEq, Int.reduceBNe, List.map] <;> rfl) (K_ApplyE (w := w) (h := h) (l := l) (t0 := t0) (k0 := k0) (s0 := s0) (Or.inl hs)) fun v H2 h5 => ?_)
  rw [hs, cond_false] at h5
  obtain ⟨u, e1, x1, e2, hx1, hfx1, hwx1, hex1⟩ := h5
  subst e1 e2
  try dsimp only [Img.zero] at hx1
  haveI : ExtI _ H2 := ⟨hex1⟩
  haveI := hx1.one
  repeat first
   | refine mI ?_
   | refine mT ?_
   | (refine Fo.ldN rfl rfl (by simp only [↓nrmL, nrmZ, Nat.reduceEqDiff, ↓reduceIte, Nat.reduceAdd, Int.reduceBEq, Int.reduceBNe]; rfl) ?_)
   | refine xt ?_
   | refine nw ?_
   | (refine so rfl (rfl : _ = AVal.agg _) rfl rfl rfl (by simp only [↓nrmL, nrmZ, Nat.reduceEqDiff, ↓reduceIte, Nat.reduceAdd, Int.reduceBEq, Int.reduceBNe]; rfl) ?_)
   | refine nl hKF ?_
   | refine sq ?_
   | refine rg fun KF hKF => ?_
   | dsimp only [cond_true, cond_false]
  refine WpO.do (WpX.conD hn rfl rfl (by simp only [↓nrmL, nrmZ, Nat.reduceEqDiff, ↓reduceIte, Nat.reduceAdd, Int.reduceBEq, Int.reduceBNe, List.map] <;> rfl) (K_refApplyE (w := w) (h := h) (l := l) (t0 := t0) (k0 := k0) (s0 := s0) (Or.inl hs)) fun v H3 h5 => ?_)
  rw [hs, cond_false] at h5
  obtain ⟨u, e1, x2, e2, hx2, hfx2, hwx2, hex2⟩ := h5
  subst e1 e2
  try dsimp only [Img.zero] at hx2
  haveI : ExtI _ H3 := ⟨hex2⟩
  haveI := hx2.one
  refine mT ?_
  refine xt ?_
  refine xt ?_
  refine nw ?_
  refine so rfl (rfl : _ = AVal.agg _) rfl rfl rfl (by simp only [↓nrmL, nrmZ, Nat.reduceEqDiff, ↓reduceIte, Nat.reduceAdd, Int.reduceBEq, Int.reduceBNe]; rfl) ?_
  refine mI ?_
  refine nl hKF ?_
  refine sq ?_
  refine rg fun KF hKF => ?_
  refine Fo.ldN rfl rfl (by simp only [↓nrmL, nrmZ, Nat.reduceEqDiff, ↓reduceIte, Nat.reduceAdd, Int.reduceBEq, Int.reduceBNe]; rfl) ?_
  dsimp only [cond_true, cond_false]
  refine WpO.do (WpX.conD hn rfl rfl (by simp only [↓nrmL, nrmZ, Nat.reduceEqDiff, ↓reduceIte, Nat.reduceAdd, Int.reduceBEq, Int.reduceBNe, List.map] <;> rfl) (K_CleanE (w := w) (h := h) (l := l) hs) fun v H4 h5 => ?_)
  obtain ⟨rfl, hex3⟩ := h5
  haveI : ExtI _ H4 := ⟨hex3⟩
  have hse : sizeErr false = 2 := rfl
  haveI : Short ([] : List UInt8) := ⟨Nat.zero_le _⟩
  have hsz : decide ((⟨0, 0, []⟩ : Img) = ⟨0, 0, []⟩) = true := decide_eq_true rfl
  simp only [↓nrmL, nrmZ, Nat.reduceEqDiff, ↓reduceIte, Nat.reduceAdd, Int.reduceBEq, Int.reduceBNe, hs, hse, hsg, hsz]
  repeat first
   | refine oy ?_
   | refine mI ?_
   | refine mB ?_
   | refine mT ?_
   | refine fd ?_
   | refine Fo.ld rfl rfl ?_
   | (refine Fo.ldN rfl rfl (by simp only [↓nrmL, nrmZ, Nat.reduceEqDiff, ↓reduceIte, Nat.reduceAdd, Int.reduceBEq, Int.reduceBNe, hs, hse, hsg, hsz]; rfl) ?_)
   | (refine bn rfl rfl rfl (by simp only [↓nrmL, nrmZ, Nat.reduceEqDiff, ↓reduceIte, Nat.reduceAdd, Int.reduceBEq, Int.reduceBNe, hs, hse, hsg, hsz]; rfl) ?_)
   | refine b0 ?_
   | refine tB ?_
   | refine fB ?_
   | refine xt ?_
   | (refine Fo.pcall (v' := ?_) hn rfl (by simp only [hs, hse, hsg, hsz, List.map]; rfl) rfl ?hv fun _ _ => ?_; case hv => rfl)
   | (refine Fo.pcall (v' := ?_) hn rfl (by simp only [↓nrmL, nrmZ, Nat.reduceEqDiff, ↓reduceIte, Nat.reduceAdd, Int.reduceBEq, Int.reduceBNe, hs, hse, hsg, hsz, List.map]; rfl) rfl ?hv fun _ _ => ?_; case hv => (simp only [hs, hse, hsg, hsz]; rfl))
   | (refine Fo.len (v := ?_) (rfl : _ = AVal.nslice) ?hv ?_; case hv => rfl)
   | refine nw ?_
   | (refine Fo.now rfl rfl (by simp only [hs, hse, hsg, hsz]; rfl) ?_)
   | refine Fo.now rfl rfl rfl ?_
   | (refine so rfl (rfl : _ = AVal.agg _) rfl rfl rfl (by simp only [↓nrmL, nrmZ, Nat.reduceEqDiff, ↓reduceIte, Nat.reduceAdd, Int.reduceBEq, Int.reduceBNe, hs, hse, hsg, hsz]; rfl) ?_)
   | refine nl hKF ?_
   | refine sq ?_
   | refine rg fun KF hKF => ?_
   | refine ct rfl ?_
   | refine cf rfl ?_
   | refine sk ?_
   | refine rt ?_
   | dsimp only [cond_true, cond_false]
  refine rz trivial ?_
  exact ⟨rfl, Ext0.ext⟩
 obtain ⟨a, b, rfl, rfl, ha, hb, hlab0⟩ := sized_nat hs
 obtain ⟨t, htl, htr, ht0⟩ := level_ok hs
 cases hpr : properB t0 k0 s0
 ·refine WpO.do (WpX.conD hn rfl rfl (by simp only [↓nrmL, nrmZ, Nat.reduceEqDiff, ↓reduceIte, Nat.reduceAdd, Int.reduceBEq, Int.reduceBNe, List.map] <;> rfl) (K_ApplyE (w := a) (h := b) (l := l) (t0 := t0) (k0 := k0) (s0 := s0) (Or.inr hpr)) fun v H2 h5 => ?_)
  rw [hs, cond_true] at h5
  obtain ⟨u, e1, x1, e2, hx1, hfx1, hwx1, hex1⟩ := h5
  subst e1 e2
  try dsimp only [Img.zero] at hx1
  haveI : ExtI _ H2 := ⟨hex1⟩
  haveI := hx1.one
  repeat first
   | refine mI ?_
   | refine mT ?_
   | (refine Fo.ldN rfl rfl (by simp only [↓nrmL, nrmZ, Nat.reduceEqDiff, ↓reduceIte, Nat.reduceAdd, Int.reduceBEq, Int.reduceBNe]; rfl) ?_)
   | refine xt ?_
   | refine nw ?_
   | (refine so rfl (rfl : _ = AVal.agg _) rfl rfl rfl (by simp only [↓nrmL, nrmZ, Nat.reduceEqDiff, ↓reduceIte, Nat.reduceAdd, Int.reduceBEq, Int.reduceBNe]; rfl) ?_)
   | refine nl hKF ?_
   | refine sq ?_
   | refine rg fun KF hKF => ?_
   | dsimp only [cond_true, cond_false]
  refine WpO.do (WpX.conD hn rfl rfl (by simp only [↓nrmL, nrmZ, Nat.reduceEqDiff, ↓reduceIte, Nat.reduceAdd, Int.reduceBEq, Int.reduceBNe, List.map] <;> rfl) (K_refApplyE (w := a) (h := b) (l := l) (t0 := t0) (k0 := k0) (s0 := s0) (Or.inr hpr)) fun v H3 h5 => ?_)
  rw [hs, cond_true] at h5
  obtain ⟨u, e1, x2, e2, hx2, hfx2, hwx2, hex2⟩ := h5
  subst e1 e2
  try dsimp only [Img.zero] at hx2
  haveI : Short ([] : List UInt8) := ⟨Nat.zero_le _⟩
  have hsz : decide ((⟨0, 0, []⟩ : Img) = ⟨0, 0, []⟩) = true := decide_eq_true rfl
  haveI : ExtI _ H3 := ⟨hex2⟩
  haveI := hx2.one
  refine mT ?_
  refine xt ?_
  refine xt ?_
  refine nw ?_
  refine so rfl (rfl : _ = AVal.agg _) rfl rfl rfl (by simp only [↓nrmL, nrmZ, Nat.reduceEqDiff, ↓reduceIte, Nat.reduceAdd, Int.reduceBEq, Int.reduceBNe]; rfl) ?_
  refine mI ?_
  refine nl hKF ?_
  refine sq ?_
  refine rg fun KF hKF => ?_
  refine Fo.ldN rfl rfl (by simp only [↓nrmL, nrmZ, Nat.reduceEqDiff, ↓reduceIte, Nat.reduceAdd, Int.reduceBEq, Int.reduceBNe]; rfl) ?_
  dsimp only [cond_true, cond_false]
  refine WpO.do (WpX.conD hn rfl rfl (by simp only [↓nrmL, nrmZ, Nat.reduceEqDiff, ↓reduceIte, Nat.reduceAdd, Int.reduceBEq, Int.reduceBNe, List.map] <;> rfl) (K_Clean (a := a) (b := b) (l := l) (t := t) hs htl ht0) fun v H4 h5 => ?_)
  obtain ⟨T, k, c, U, M, L, x3, hT, okT, hfk, hc, hU, okU, hlab, rfl, q3, rfl, hx3, hfx3, hwx3, hex3⟩ := h5
  try dsimp only at hx3
  haveI : ExtI _ H4 := ⟨hex3⟩
  haveI := hx3.one
  have hse : sizeErr true = 0 := rfl
  simp only [hs, hse, hsg, hsz]
  repeat first
   | refine oy ?_
   | refine mI ?_
   | refine mB ?_
   | refine mT ?_
   | (refine Fo.ldN rfl rfl (by simp only [↓nrmL, nrmZ, Nat.reduceEqDiff, ↓reduceIte, Nat.reduceAdd, Int.reduceBEq, Int.reduceBNe, hs, hse, hsg, hsz]; rfl) ?_)
   | (refine bn rfl rfl rfl (by simp only [↓nrmL, nrmZ, Nat.reduceEqDiff, ↓reduceIte, Nat.reduceAdd, Int.reduceBEq, Int.reduceBNe, hs, hse, hsg, hsz]; rfl) ?_)
   | refine fB ?_
   | refine xt ?_
   | (refine Fo.pcall (v' := ?_) hn rfl (by simp only [↓nrmL, nrmZ, Nat.reduceEqDiff, ↓reduceIte, Nat.reduceAdd, Int.reduceBEq, Int.reduceBNe, hs, hse, hsg, hsz, List.map]; rfl) rfl ?hv fun _ _ => ?_; case hv => (simp only [hs, hse, hsg, hsz]; rfl))
   | refine nw ?_
   | refine Fo.now rfl rfl rfl ?_
   | (refine so rfl (rfl : _ = AVal.agg _) rfl rfl rfl (by simp only [↓nrmL, nrmZ, Nat.reduceEqDiff, ↓reduceIte, Nat.reduceAdd, Int.reduceBEq, Int.reduceBNe, hs, hse, hsg, hsz]; rfl) ?_)
   | refine nl hKF ?_
   | refine sq ?_
   | refine rg fun KF hKF => ?_
   | refine cf rfl ?_
   | refine sk ?_
  refine WpO.do (WpX.conD hn rfl rfl (by simp only [↓nrmL, nrmZ, Nat.reduceEqDiff, ↓reduceIte, Nat.reduceAdd, Int.reduceBEq, Int.reduceBNe, List.map] <;> rfl) (K_refClean (a := a) (b := b) (l := l) (t := t) hs htr ht0 hlen) fun v H5 h5 => ?_)
  obtain ⟨T', k', c', U', N, x4, hT', okT', hfk', hc', hU', okU', hN, rfl, q4, rfl, hx4, hfx4, hwx4, hex4⟩ := h5
  have eT : T' = T := by rw [hT] at hT'; injection hT' with e; injection e with _ _ e; exact e.symm
  subst eT
  have ek : k' = k := by rw [hfk] at hfk'; injection hfk' with e; exact e.symm
  subst ek
  have ec : c' = c := by omega
  subst ec
  have eU : U' = U := by rw [hU] at hU'; injection hU' with e; injection e with _ _ e; exact e.symm
  subst eU
  rw [← des_eq okU hlab hN] at hx4
  try dsimp only at hx4
  haveI : ExtI _ H5 := ⟨hex4⟩
  haveI := hx4.one
  obtain ⟨Z, hZ⟩ : ∃ Z, spk 0 (fun n => !decide ((n : Int) ≥ 2)) U' (pxAll M L.length (a * c')) = Z := ⟨_, rfl⟩
  have hZl : Z.length ≤ 999999 := by
   rw [← hZ, spk_length]
   have e := okU.len
   have : a * c' ≤ a * b := Nat.mul_le_mul_left a (by omega)
   omega
  rw [hZ] at hx3 hx4
  haveI : Short Z := ⟨hZl⟩
  have hsz2 : decide ((⟨(a : Int), (c' : Int), Z⟩ : Img) = ⟨a, c', Z⟩) = true := decide_eq_true rfl
  simp only [hsz2]
  repeat first
   | refine oy ?_
   | refine mB ?_
   | refine mT ?_
   | (refine Fo.ldN rfl rfl (by simp only [↓nrmL, nrmZ, Nat.reduceEqDiff, ↓reduceIte, Nat.reduceAdd, Int.reduceBEq, Int.reduceBNe, hsz2]; rfl) ?_)
   | refine xt ?_
   | (refine Fo.pcall (v' := ?_) hn rfl (by simp only [↓nrmL, nrmZ, Nat.reduceEqDiff, ↓reduceIte, Nat.reduceAdd, Int.reduceBEq, Int.reduceBNe, hsz2, List.map]; rfl) rfl ?hv fun _ _ => ?_; case hv => (simp only [hsz2]; rfl))
   | refine nw ?_
   | (refine so rfl (rfl : _ = AVal.agg _) rfl rfl rfl (by simp only [↓nrmL, nrmZ, Nat.reduceEqDiff, ↓reduceIte, Nat.reduceAdd, Int.reduceBEq, Int.reduceBNe, hsz2]; rfl) ?_)
   | refine nl hKF ?_
   | refine sq ?_
   | refine rg fun KF hKF => ?_
  refine Fo.now rfl (exec_eqT rfl rfl (aEq_same3 _ _ _)) rfl ?_
  refine tB ?_
  refine mB ?_
  refine oy ?_
  refine Fo.pcall (v' := ?_) hn rfl (by simp only [↓nrmL, nrmZ, Nat.reduceEqDiff, ↓reduceIte, Nat.reduceAdd, Int.reduceBEq, Int.reduceBNe, List.map]; rfl) rfl ?hv fun _ _ => ?_; case hv => rfl
  refine tB ?_
  refine mB ?_
  refine nl hKF ?_
  refine rt ?_
  dsimp only [cond_true, cond_false]
  refine rz trivial ?_
  exact ⟨rfl, Ext0.ext⟩
 refine WpO.do (WpX.conD hn rfl rfl (by simp only [↓nrmL, nrmZ, Nat.reduceEqDiff, ↓reduceIte, Nat.reduceAdd, Int.reduceBEq, Int.reduceBNe, List.map] <;> rfl) (K_Apply (a := a) (b := b) (l := l) (t0 := t0) (k0 := k0) (s0 := s0) hs hpr) fun v H2 h5 => ?_)
 obtain ⟨T0, hT0, okT0, h5⟩ := h5
 rcases h5 with ⟨hg, h5⟩ | ⟨c0, U0, M0, L0, hc0, hU0, okU0, hlabA, h5⟩
 ·obtain ⟨u, e1, x1, e2, hx1, hfx1, hwx1, hex1⟩ := h5
  subst e1 e2
  try dsimp only [Img.zero] at hx1
  haveI : ExtI _ H2 := ⟨hex1⟩
  haveI := hx1.one
  repeat first
   | refine mI ?_
   | refine mT ?_
   | (refine Fo.ldN rfl rfl (by simp only [↓nrmL, nrmZ, Nat.reduceEqDiff, ↓reduceIte, Nat.reduceAdd, Int.reduceBEq, Int.reduceBNe]; rfl) ?_)
   | refine xt ?_
   | refine nw ?_
   | (refine so rfl (rfl : _ = AVal.agg _) rfl rfl rfl (by simp only [↓nrmL, nrmZ, Nat.reduceEqDiff, ↓reduceIte, Nat.reduceAdd, Int.reduceBEq, Int.reduceBNe]; rfl) ?_)
   | refine nl hKF ?_
   | refine sq ?_
   | refine rg fun KF hKF => ?_
   | dsimp only [cond_true, cond_false]
  refine WpO.do (WpX.conD hn rfl rfl (by simp only [↓nrmL, nrmZ, Nat.reduceEqDiff, ↓reduceIte, Nat.reduceAdd, Int.reduceBEq, Int.reduceBNe, List.map] <;> rfl) (K_refApply (a := a) (b := b) (l := l) (t0 := t0) (k0 := k0) (s0 := s0) hs hpr hlen) fun v H3 h5 => ?_)
  obtain ⟨T1, hT1, okT1, ⟨_, h5⟩ | ⟨c1, _, _, hc1, _⟩⟩ := h5
  rotate_left
  ·exact absurd (by omega) hg
  obtain ⟨u, e1, x2, e2, hx2, hfx2, hwx2, hex2⟩ := h5
  subst e1 e2
  try dsimp only [Img.zero] at hx2
  haveI : Short ([] : List UInt8) := ⟨Nat.zero_le _⟩
  have hsz : decide ((⟨0, 0, []⟩ : Img) = ⟨0, 0, []⟩) = true := decide_eq_true rfl
  haveI : ExtI _ H3 := ⟨hex2⟩
  haveI := hx2.one
  refine mT ?_
  refine xt ?_
  refine xt ?_
  refine nw ?_
  refine so rfl (rfl : _ = AVal.agg _) rfl rfl rfl (by simp only [↓nrmL, nrmZ, Nat.reduceEqDiff, ↓reduceIte, Nat.reduceAdd, Int.reduceBEq, Int.reduceBNe]; rfl) ?_
  refine mI ?_
  refine nl hKF ?_
  refine sq ?_
  refine rg fun KF hKF => ?_
  refine Fo.ldN rfl rfl (by simp only [↓nrmL, nrmZ, Nat.reduceEqDiff, ↓reduceIte, Nat.reduceAdd, Int.reduceBEq, Int.reduceBNe]; rfl) ?_
  dsimp only [cond_true, cond_false]
  refine WpO.do (WpX.conD hn rfl rfl (by simp only [↓nrmL, nrmZ, Nat.reduceEqDiff, ↓reduceIte, Nat.reduceAdd, Int.reduceBEq, Int.reduceBNe, List.map] <;> rfl) (K_Clean (a := a) (b := b) (l := l) (t := t) hs htl ht0) fun v H4 h5 => ?_)
  obtain ⟨T, k, c, U, M, L, x3, hT, okT, hfk, hc, hU, okU, hlab, rfl, q3, rfl, hx3, hfx3, hwx3, hex3⟩ := h5
  try dsimp only at hx3
  haveI : ExtI _ H4 := ⟨hex3⟩
  haveI := hx3.one
  have hse : sizeErr true = 0 := rfl
  simp only [hs, hse, hsg, hsz]
  repeat first
   | refine oy ?_
   | refine mI ?_
   | refine mB ?_
   | refine mT ?_
   | (refine Fo.ldN rfl rfl (by simp only [↓nrmL, nrmZ, Nat.reduceEqDiff, ↓reduceIte, Nat.reduceAdd, Int.reduceBEq, Int.reduceBNe, hs, hse, hsg, hsz]; rfl) ?_)
   | (refine bn rfl rfl rfl (by simp only [↓nrmL, nrmZ, Nat.reduceEqDiff, ↓reduceIte, Nat.reduceAdd, Int.reduceBEq, Int.reduceBNe, hs, hse, hsg, hsz]; rfl) ?_)
   | refine fB ?_
   | refine xt ?_
   | (refine Fo.pcall (v' := ?_) hn rfl (by simp only [↓nrmL, nrmZ, Nat.reduceEqDiff, ↓reduceIte, Nat.reduceAdd, Int.reduceBEq, Int.reduceBNe, hs, hse, hsg, hsz, List.map]; rfl) rfl ?hv fun _ _ => ?_; case hv => (simp only [hs, hse, hsg, hsz]; rfl))
   | refine nw ?_
   | refine Fo.now rfl rfl rfl ?_
   | (refine so rfl (rfl : _ = AVal.agg _) rfl rfl rfl (by simp only [↓nrmL, nrmZ, Nat.reduceEqDiff, ↓reduceIte, Nat.reduceAdd, Int.reduceBEq, Int.reduceBNe, hs, hse, hsg, hsz]; rfl) ?_)
   | refine nl hKF ?_
   | refine sq ?_
   | refine rg fun KF hKF => ?_
   | refine cf rfl ?_
   | refine sk ?_
  refine WpO.do (WpX.conD hn rfl rfl (by simp only [↓nrmL, nrmZ, Nat.reduceEqDiff, ↓reduceIte, Nat.reduceAdd, Int.reduceBEq, Int.reduceBNe, List.map] <;> rfl) (K_refClean (a := a) (b := b) (l := l) (t := t) hs htr ht0 hlen) fun v H5 h5 => ?_)
  obtain ⟨T', k', c', U', N, x4, hT', okT', hfk', hc', hU', okU', hN, rfl, q4, rfl, hx4, hfx4, hwx4, hex4⟩ := h5
  have eT : T' = T := by rw [hT] at hT'; injection hT' with e; injection e with _ _ e; exact e.symm
  subst eT
  have ek : k' = k := by rw [hfk] at hfk'; injection hfk' with e; exact e.symm
  subst ek
  have ec : c' = c := by omega
  subst ec
  have eU : U' = U := by rw [hU] at hU'; injection hU' with e; injection e with _ _ e; exact e.symm
  subst eU
  rw [← des_eq okU hlab hN] at hx4
  try dsimp only at hx4
  haveI : ExtI _ H5 := ⟨hex4⟩
  haveI := hx4.one
  obtain ⟨Z, hZ⟩ : ∃ Z, spk 0 (fun n => !decide ((n : Int) ≥ 2)) U' (pxAll M L.length (a * c')) = Z := ⟨_, rfl⟩
  have hZl : Z.length ≤ 999999 := by
   rw [← hZ, spk_length]
   have e := okU.len
   have : a * c' ≤ a * b := Nat.mul_le_mul_left a (by omega)
   omega
  rw [hZ] at hx3 hx4
  haveI : Short Z := ⟨hZl⟩
  have hsz2 : decide ((⟨(a : Int), (c' : Int), Z⟩ : Img) = ⟨a, c', Z⟩) = true := decide_eq_true rfl
  simp only [hsz2]
  repeat first
   | refine oy ?_
   | refine mB ?_
   | refine mT ?_
   | (refine Fo.ldN rfl rfl (by simp only [↓nrmL, nrmZ, Nat.reduceEqDiff, ↓reduceIte, Nat.reduceAdd, Int.reduceBEq, Int.reduceBNe, hsz2]; rfl) ?_)
   | refine xt ?_
   | (refine Fo.pcall (v' := ?_) hn rfl (by simp only [↓nrmL, nrmZ, Nat.reduceEqDiff, ↓reduceIte, Nat.reduceAdd, Int.reduceBEq, Int.reduceBNe, hsz2, List.map]; rfl) rfl ?hv fun _ _ => ?_; case hv => (simp only [hsz2]; rfl))
   | refine nw ?_
   | (refine so rfl (rfl : _ = AVal.agg _) rfl rfl rfl (by simp only [↓nrmL, nrmZ, Nat.reduceEqDiff, ↓reduceIte, Nat.reduceAdd, Int.reduceBEq, Int.reduceBNe, hsz2]; rfl) ?_)
   | refine nl hKF ?_
   | refine sq ?_
   | refine rg fun KF hKF => ?_
  refine Fo.now rfl (exec_eqT rfl rfl (aEq_same3 _ _ _)) rfl ?_
  refine tB ?_
  refine mB ?_
  refine oy ?_
  refine Fo.pcall (v' := ?_) hn rfl (by simp only [↓nrmL, nrmZ, Nat.reduceEqDiff, ↓reduceIte, Nat.reduceAdd, Int.reduceBEq, Int.reduceBNe, List.map]; rfl) rfl ?hv fun _ _ => ?_; case hv => rfl
  refine tB ?_
  refine mB ?_
  refine nl hKF ?_
  refine rt ?_
  dsimp only [cond_true, cond_false]
  refine rz trivial ?_
  exact ⟨rfl, Ext0.ext⟩
 ·obtain ⟨u, e1, x1, e2, hx1, hfx1, hwx1, hex1⟩ := h5
  subst e1 e2
  try dsimp only at hx1
  haveI : ExtI _ H2 := ⟨hex1⟩
  haveI := hx1.one
  repeat first
   | refine mI ?_
   | refine mT ?_
   | (refine Fo.ldN rfl rfl (by simp only [↓nrmL, nrmZ, Nat.reduceEqDiff, ↓reduceIte, Nat.reduceAdd, Int.reduceBEq, Int.reduceBNe]; rfl) ?_)
   | refine xt ?_
   | refine nw ?_
   | (refine so rfl (rfl : _ = AVal.agg _) rfl rfl rfl (by simp only [↓nrmL, nrmZ, Nat.reduceEqDiff, ↓reduceIte, Nat.reduceAdd, Int.reduceBEq, Int.reduceBNe]; rfl) ?_)
   | refine nl hKF ?_
   | refine sq ?_
   | refine rg fun KF hKF => ?_
   | dsimp only [cond_true, cond_false]
  refine WpO.do (WpX.conD hn rfl rfl (by simp only [↓nrmL, nrmZ, Nat.reduceEqDiff, ↓reduceIte, Nat.reduceAdd, Int.reduceBEq, Int.reduceBNe, List.map] <;> rfl) (K_refApply (a := a) (b := b) (l := l) (t0 := t0) (k0 := k0) (s0 := s0) hs hpr hlen) fun v H3 h5 => ?_)
  obtain ⟨T1, hT1, okT1, ⟨hg, _⟩ | ⟨c1, U1, N1, hc1, hU1, okU1, hN1, h5⟩⟩ := h5
  ·exact absurd (by omega) hg
  have eT0 : T1 = T0 := by rw [hT0] at hT1; injection hT1 with e; injection e with _ _ e; exact e.symm
  subst eT0
  have ec0 : c1 = c0 := by omega
  subst ec0
  have eU0 : U1 = U0 := by rw [hU0] at hU1; injection hU1 with e; injection e with _ _ e; exact e.symm
  subst eU0
  rw [← des_eq okU1 hlabA hN1] at h5
  obtain ⟨u, e1, x2, e2, hx2, hfx2, hwx2, hex2⟩ := h5
  subst e1 e2
  try dsimp only at hx2
  obtain ⟨Z0, hZ0⟩ : ∃ Z, spk 0 (fun n => !decide ((n : Int) ≥ s0)) U1 (pxAll M0 L0.length (a * c1)) = Z := ⟨_, rfl⟩
  have hZl0 : Z0.length ≤ 999999 := by
   rw [← hZ0, spk_length]
   have e := okU1.len
   have : a * c1 ≤ a * b := Nat.mul_le_mul_left a (by omega)
   omega
  rw [hZ0] at hx1 hx2
  haveI : Short Z0 := ⟨hZl0⟩
  have hsz : decide ((⟨(a : Int), (c1 : Int), Z0⟩ : Img) = ⟨a, c1, Z0⟩) = true := decide_eq_true rfl
  haveI : ExtI _ H3 := ⟨hex2⟩
  haveI := hx2.one
  refine mT ?_
  refine xt ?_
  refine xt ?_
  refine nw ?_
  refine so rfl (rfl : _ = AVal.agg _) rfl rfl rfl (by simp only [↓nrmL, nrmZ, Nat.reduceEqDiff, ↓reduceIte, Nat.reduceAdd, Int.reduceBEq, Int.reduceBNe]; rfl) ?_
  refine mI ?_
  refine nl hKF ?_
  refine sq ?_
  refine rg fun KF hKF => ?_
  refine Fo.ldN rfl rfl (by simp only [↓nrmL, nrmZ, Nat.reduceEqDiff, ↓reduceIte, Nat.reduceAdd, Int.reduceBEq, Int.reduceBNe]; rfl) ?_
  dsimp only [cond_true, cond_false]
  refine WpO.do (WpX.conD hn rfl rfl (by simp only [↓nrmL, nrmZ, Nat.reduceEqDiff, ↓reduceIte, Nat.reduceAdd, Int.reduceBEq, Int.reduceBNe, List.map] <;> rfl) (K_Clean (a := a) (b := b) (l := l) (t := t) hs htl ht0) fun v H4 h5 => ?_)
  obtain ⟨T, k, c, U, M, L, x3, hT, okT, hfk, hc, hU, okU, hlab, rfl, q3, rfl, hx3, hfx3, hwx3, hex3⟩ := h5
  try dsimp only at hx3
  haveI : ExtI _ H4 := ⟨hex3⟩
  haveI := hx3.one
  have hse : sizeErr true = 0 := rfl
  simp only [hs, hse, hsg, hsz]
  repeat first
   | refine oy ?_
   | refine mI ?_
   | refine mB ?_
   | refine mT ?_
   | (refine Fo.ldN rfl rfl (by simp only [↓nrmL, nrmZ, Nat.reduceEqDiff, ↓reduceIte, Nat.reduceAdd, Int.reduceBEq, Int.reduceBNe, hs, hse, hsg, hsz]; rfl) ?_)
   | (refine bn rfl rfl rfl (by simp only [↓nrmL, nrmZ, Nat.reduceEqDiff, ↓reduceIte, Nat.reduceAdd, Int.reduceBEq, Int.reduceBNe, hs, hse, hsg, hsz]; rfl) ?_)
   | refine fB ?_
   | refine xt ?_
   | (refine Fo.pcall (v' := ?_) hn rfl (by simp only [↓nrmL, nrmZ, Nat.reduceEqDiff, ↓reduceIte, Nat.reduceAdd, Int.reduceBEq, Int.reduceBNe, hs, hse, hsg, hsz, List.map]; rfl) rfl ?hv fun _ _ => ?_; case hv => (simp only [hs, hse, hsg, hsz]; rfl))
   | refine nw ?_
   | refine Fo.now rfl rfl rfl ?_
   | (refine so rfl (rfl : _ = AVal.agg _) rfl rfl rfl (by simp only [↓nrmL, nrmZ, Nat.reduceEqDiff, ↓reduceIte, Nat.reduceAdd, Int.reduceBEq, Int.reduceBNe, hs, hse, hsg, hsz]; rfl) ?_)
   | refine nl hKF ?_
   | refine sq ?_
   | refine rg fun KF hKF => ?_
   | refine cf rfl ?_
   | refine sk ?_
  refine WpO.do (WpX.conD hn rfl rfl (by simp only [↓nrmL, nrmZ, Nat.reduceEqDiff, ↓reduceIte, Nat.reduceAdd, Int.reduceBEq, Int.reduceBNe, List.map] <;> rfl) (K_refClean (a := a) (b := b) (l := l) (t := t) hs htr ht0 hlen) fun v H5 h5 => ?_)
  obtain ⟨T', k', c', U', N, x4, hT', okT', hfk', hc', hU', okU', hN, rfl, q4, rfl, hx4, hfx4, hwx4, hex4⟩ := h5
  have eT : T' = T := by rw [hT] at hT'; injection hT' with e; injection e with _ _ e; exact e.symm
  subst eT
  have ek : k' = k := by rw [hfk] at hfk'; injection hfk' with e; exact e.symm
  subst ek
  have ec : c' = c := by omega
  subst ec
  have eU : U' = U := by rw [hU] at hU'; injection hU' with e; injection e with _ _ e; exact e.symm
  subst eU
  rw [← des_eq okU hlab hN] at hx4
  try dsimp only at hx4
  haveI : ExtI _ H5 := ⟨hex4⟩
  haveI := hx4.one
  obtain ⟨Z, hZ⟩ : ∃ Z, spk 0 (fun n => !decide ((n : Int) ≥ 2)) U' (pxAll M L.length (a * c')) = Z := ⟨_, rfl⟩
  have hZl : Z.length ≤ 999999 := by
   rw [← hZ, spk_length]
   have e := okU.len
   have : a * c' ≤ a * b := Nat.mul_le_mul_left a (by omega)
   omega
  rw [hZ] at hx3 hx4
  haveI : Short Z := ⟨hZl⟩
  have hsz2 : decide ((⟨(a : Int), (c' : Int), Z⟩ : Img) = ⟨a, c', Z⟩) = true := decide_eq_true rfl
  simp only [hsz2]
  repeat first
   | refine oy ?_
   | refine mB ?_
   | refine mT ?_
   | (refine Fo.ldN rfl rfl (by simp only [↓nrmL, nrmZ, Nat.reduceEqDiff, ↓reduceIte, Nat.reduceAdd, Int.reduceBEq, Int.reduceBNe, hsz2]; rfl) ?_)
   | refine xt ?_
   | (refine Fo.pcall (v' := ?_) hn rfl (by simp only [↓nrmL, nrmZ, Nat.reduceEqDiff, ↓reduceIte, Nat.reduceAdd, Int.reduceBEq, Int.reduceBNe, hsz2, List.map]; rfl) rfl ?hv fun _ _ => ?_; case hv => (simp only [hsz2]; rfl))
   | refine nw ?_
   | (refine so rfl (rfl : _ = AVal.agg _) rfl rfl rfl (by simp only [↓nrmL, nrmZ, Nat.reduceEqDiff, ↓reduceIte, Nat.reduceAdd, Int.reduceBEq, Int.reduceBNe, hsz2]; rfl) ?_)
   | refine nl hKF ?_
   | refine sq ?_
   | refine rg fun KF hKF => ?_
  refine Fo.now rfl (exec_eqT rfl rfl (aEq_same3 _ _ _)) rfl ?_
  refine tB ?_
  refine mB ?_
  refine oy ?_
  refine Fo.pcall (v' := ?_) hn rfl (by simp only [↓nrmL, nrmZ, Nat.reduceEqDiff, ↓reduceIte, Nat.reduceAdd, Int.reduceBEq, Int.reduceBNe, List.map]; rfl) rfl ?hv fun _ _ => ?_; case hv => rfl
  refine tB ?_
  refine mB ?_
  refine nl hKF ?_
  refine rt ?_
  dsimp only [cond_true, cond_false]
  refine rz trivial ?_
  exact ⟨rfl, Ext0.ext⟩
end Go.Am
namespace Go.Proofs.YtdbgdhjcpmacoaaDoor.CleanRecipes
open Go.ChangeShapes Go.WideShapes Go.ChangeAt Go.RowKit Go.Am Go.Proofs.YtdbgdhjcpmacoaaDoor.Laid

section
variable {P : Program} {Hp : AHeap} {n : Nat} {t : TypeId} {cs : List AVal}
theorem shape_three {fs : Array Field} {ti : TypeId} (hu : P.underlying t = some (.struct fs)) (hf : (fs.toList.map fun f => f.type) = [ti, ti, ti]) (hi : P.underlying ti = some (.int .i64))
    (h : Shape P Hp (n + 3) t cs) : ∃ x y u, cs = [.int .i64 x, .int .i64 y, .int .i64 u] := by
  have h1 := shape_struct hu h
  rw [hf] at h1
  obtain ⟨a, r1, rfl, h2, b, r2, rfl, h3, c, r3, rfl, h4, rfl⟩ := h1
  obtain ⟨x, rfl, _⟩ := shape_int hi h2
  obtain ⟨y, rfl, _⟩ := shape_int hi h3
  obtain ⟨u, rfl, _⟩ := shape_int hi h4
  exact ⟨x, y, u, rfl⟩
end

theorem con (H : AHeap) (avs : List AVal) (ht : tablesIn aroundT H = true) (h : ArgS Tryd.prog H 3 [24, 26] avs) : Con ext prog 18 3 avs H fun v H' => v = .bool true ∧ Ext H H' := by
  obtain ⟨a0, r0, rfl, h0, a1, r1, rfl, h1, rfl⟩ := h
  obtain ⟨w0, hh0, p0, l0, rfl, k0, _⟩ := shape_img (ti := 3) (ts := 22) (tb := 5) Tryd.underlying24 (by kernel_rfl) Tryd.underlying3 Tryd.underlying22 Tryd.underlying5 (by kernel_rfl) h0
  obtain ⟨x1, y1, z1, rfl⟩ := shape_three Tryd.underlying26 (by kernel_rfl) Tryd.underlying3 h1
  have e0 : argV Tryd.prog 24 [.int .i64 w0, .int .i64 hh0, p0] = .agg [.int .i64 w0, .int .i64 hh0, p0] := by simp only [argV, show aggTy Tryd.prog 24 = true by kernel_rfl, cond_true]
  have e1 : argV Tryd.prog 26 [.int .i64 x1, .int .i64 y1, .int .i64 z1] = .agg [.int .i64 x1, .int .i64 y1, .int .i64 z1] := by simp only [argV, show aggTy Tryd.prog 26 = true by kernel_rfl, cond_true]
  haveI : Tabs H := ⟨ht⟩
  rw [e0, e1]
  exact (K_CleanRecipes (w := w0) (h := hh0) (t0 := x1) (k0 := y1) (s0 := z1) (p := p0) (l := l0))

theorem contract (H : Type) (enc : TypeId × Value → H) (W : World) (base : Nat) (args : Array Value) (ds gs : List (DataW H)) (before : List MemPlace)
    (hval : ∀ (j : Nat) t v, Tryd.f3.params[j]? = some t → args[j]? = some v → Value.okWide Tryd.prog W .any base t v)
    (hW : DataW.Whole enc Tryd.prog Tryd.f3.params.toList Rows.cleanRecipesSpec.vars false W args.toList ds gs before) (hL : laidMetH Tryd.prog Rows.cleanRecipesRow.laid W) :
    Calls Tryd.prog 3 args W fun e W' => ∃ v, e = .returned v ∧ Rows.cleanRecipesSpec.post enc Tryd.prog Tryd.f3 false true false false W args v W' := by
  have hW' := hW
  obtain ⟨p, q, hA, _⟩ := hW'
  rw [Tryd.params3] at hA
  obtain ⟨v0, vs0, d0, ds0, p0, q0, _, rfl, _, _, r0⟩ := trodAll_cons hA
  obtain ⟨v1, vs1, d1, ds1, p1, q1, _, rfl, _, _, r1⟩ := trodAll_cons r0
  obtain ⟨_, rfl, _⟩ := trodAll_nil r1
  exact law_calls (tb := 4) (n := 3) (d := 18) (tabs := aroundT) mixed progOk Tryd.func3 rfl (by decide +kernel) laidOut rowed full (by kernel_rfl) rfl (by kernel_rfl) Tryd.underlying4 (by kernel_rfl) (by kernel_rfl)
    (fun H avs ht h => con H avs ht (by rw [Tryd.params3] at h; exact h)) H enc W base args _ gs before rfl hval hW (around_cells hL)

theorem laid_met (os : Os) : laidMet Tryd.prog Rows.cleanRecipesRow.laid ((laidWorld os).forCall (fun _ _ => 0) ⟨#[], #[.agg #[.int .i64 0, .int .i64 0, .slice none 0 0], .agg #[.int .i64 0, .int .i64 0, .int .i64 0]], []⟩).memory :=
  laidMet_of_run' 8 (by kernel_rfl) (by kernel_rfl)
theorem reads (os : Os) {H : Type} (enc : TypeId × Value → H) : ∃ places, DataW.whole enc Tryd.prog ((laidWorld os).forCall (fun _ _ => 0) ⟨#[], #[.agg #[.int .i64 0, .int .i64 0, .slice none 0 0], .agg #[.int .i64 0, .int .i64 0, .int .i64 0]], []⟩).memory Tryd.f3.params.toList Rows.cleanRecipesSpec.vars false #[Value.agg #[.int .i64 0, .int .i64 0, .slice none 0 0], .agg #[.int .i64 0, .int .i64 0, .int .i64 0]].toList 8 = some ([.agg [.lit (.int .i64 0), .lit (.int .i64 0), .nil], .agg [.lit (.int .i64 0), .lit (.int .i64 0), .lit (.int .i64 0)]], [], places) :=
  ⟨[], by kernel_rfl⟩

theorem lifted (os : Os) (started : os.Started) (H : Type) (enc : TypeId × Value → H) (F : Stop.Interp) :
    ReturnsInHanded {} Tryd.checked os 3 .any ((OpenSpec.ofChange Rows.cleanRecipesSpec).preRow enc Tryd.prog Tryd.f3 Rows.cleanRecipesRow.domain false Rows.cleanRecipesRow.laid) (((OpenSpec.ofChange Rows.cleanRecipesSpec).at F).post enc Tryd.prog Tryd.f3 false true false false) := by
  obtain ⟨places, hx⟩ := reads os enc
  refine returnsInHanded_of_row (C := Tryd.checked) (s := OpenSpec.ofChange Rows.cleanRecipesSpec) own started (by kernel_rfl) Tryd.func3
    (witness_row_at (enc := enc) (C := Tryd.checked) false (laidWorld os) #[.agg #[.int .i64 0, .int .i64 0, .slice none 0 0], .agg #[.int .i64 0, .int .i64 0, .int .i64 0]] rfl (by kernel_rfl) (by kernel_rfl) (by kernel_rfl)
      (OpenSpec.preRow_of_cond 8 hx (by kernel_rfl) (fun k hk => by cases hk) (by kernel_rfl) (laid_met os))) ?_
  intro W base args ds gs before hval hW _ _ _ hL _ _
  exact contract H enc W base args ds gs before hval hW hL

theorem said : Rows.CleanRecipesSaid :=
  OpenClaim.holds_of_cond 3 Tryd.f3 rfl rfl rfl rfl rfl rfl rfl ⟨rfl, rfl, rfl, rfl, rfl⟩ rfl rfl rfl rfl rfl (by kernel_rfl) Tryd.func3 (by kernel_rfl)
    (of_decide_eq_true (by kernel_rfl)) (by unfold Func.isWrapper; first | (rw [if_pos (by decide +kernel)]; kernel_rfl) | (rw [if_neg (by decide +kernel)]; exact ⟨rfl, rfl⟩))
    (fun os started H enc _ F => by rw [OpenClaim.pre_eq_preRow]; exact lifted os started H enc F)
theorem plain (f : FuncId) (fn : Func) (hf : Tryd.pinned.checked.prog.funcNamed "custos/custoslaw02.CleanRecipes" = some f) (hfn : Tryd.pinned.checked.prog.funcs[f]? = some fn) :
    false = Tryd.pinned.checked.prog.looks [] ∧ ∀ (j : Nat) t, fn.params[j]? = some t → Tryd.pinned.checked.prog.wantsStandIn t = false := by
  obtain rfl : f = 3 := Option.some.inj ((show Tryd.prog.funcNamed "custos/custoslaw02.CleanRecipes" = some 3 by kernel_rfl).symm.trans hf) |>.symm
  obtain rfl : fn = Tryd.f3 := (Option.some.inj (Tryd.func3.symm.trans hfn)).symm
  refine ⟨by kernel_rfl, fun j t ht => ?_⟩
  have h := List.all_eq_true.1 (show (Tryd.f3.params.toList.all fun t => !(Tryd.prog.wantsStandIn t)) = true by kernel_rfl) t (by simpa using Array.mem_of_getElem? ht)
  have h2 : Tryd.prog.wantsStandIn t = false := by simpa using h
  exact h2

/-- The card. -/
theorem card : Rows.CleanRecipesCardSaid :=
  Claim7.holds_tied_plain_at .later [] _ _ _ _ said (fun _ h => by cases h) (by kernel_rfl) (fun _ h => by cases h) cleanRecipes_row_tie rfl ⟨rfl, rfl⟩ (by kernel_rfl) rfl plain (by kernel_rfl)
end Go.Proofs.YtdbgdhjcpmacoaaDoor.CleanRecipes
