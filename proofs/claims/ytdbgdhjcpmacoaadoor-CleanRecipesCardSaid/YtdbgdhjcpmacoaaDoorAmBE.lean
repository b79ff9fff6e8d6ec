import Derived.Test.YtdbgdhjcpmacoaaDoorAmBD
set_option linter.unusedSimpArgs false
set_option linter.unusedVariables false
set_option maxHeartbeats 8000000
set_option maxRecDepth 100000
set_option synthInstance.maxHeartbeats 4000000
set_option synthInstance.maxSize 1000000000
namespace Go.Am
open Go
def unF (l : List UInt8) (a : Nat) (k : Int) (j : Nat) : UInt8 := l.getD ((j / a + dropN a k (j % a)) * a + j % a) 0
def unskewL (l : List UInt8) (a c : Nat) (k : Int) : List UInt8 := (List.range (a * c)).map (unF l a k)
def unskewS (g : Img) (k : Int) : Img × Int :=
  bif ckS g k == 0 then (bif decide ((grN g.w.toNat k g.w.toNat : Int) ≤ g.h) then (⟨g.w, g.h - grN g.w.toNat k g.w.toNat, unskewL g.px g.w.toNat (g.h.toNat - grN g.w.toNat k g.w.toNat) k⟩, 0) else (.zero, 2)) else (.zero, ckS g k)
def skF (l : List UInt8) (a : Nat) (k : Int) (j : Nat) : UInt8 := l.getD ((j / a - dropN a k (j % a)) * a + j % a) 0
def skP (a : Nat) (k : Int) (y x j : Nat) : Bool := decide (dropN a k (j % a) ≤ j / a ∧ (j / a - dropN a k (j % a) < y ∨ (j / a - dropN a k (j % a) = y ∧ j % a < x)))
def skewL (l : List UInt8) (a b : Nat) (k : Int) : List UInt8 := fillP (skP a k b 0) (skF l a k) (a * (b + grN a k a))
def skewS (g : Img) (k : Int) : Img × Int :=
  bif ckS g k == 0 then (bif decide (g.h + grN g.w.toNat k g.w.toNat ≤ 640) then (⟨g.w, g.h + grN g.w.toNat k g.w.toNat, skewL g.px g.w.toNat g.h.toNat k⟩, 0) else (.zero, 2)) else (.zero, ckS g k)
theorem ckS_zero {w h k : Int} {l : List UInt8} (h0 : (ckS ⟨w, h, l⟩ k == 0) = true) : ∃ a b : Nat, w = a ∧ h = b ∧ Ok a b l ∧ skB k = true := by
  unfold ckS at h0
  cases h1 : (Img.err ⟨w, h, l⟩ == 0)
  · rw [h1, cond_false] at h0; rw [h1] at h0; cases h0
  · rw [h1, cond_true] at h0
    obtain ⟨a, b, e1, e2, ok⟩ := ok_of h1
    refine ⟨a, b, e1, e2, ok, ?_⟩
    cases h2 : skB k
    · rw [h2, cond_false] at h0; cases h0
    · rfl
theorem ckS_ok {a b : Nat} {k : Int} {l : List UInt8} (ok : Ok a b l) (hk : skB k = true) : ckS ⟨a, b, l⟩ k = 0 := by
  unfold ckS
  rw [ok.err, hk]; rfl
theorem un_at {l : List UInt8} {a : Nat} {k : Int} {x y : Nat} (hx : x < a) : unF l a k (y * a + x) = l.getD ((y + dropN a k x) * a + x) 0 := by
  unfold unF
  rw [(row_at hx).1, (row_at hx).2]
theorem sk_at {l : List UInt8} {a : Nat} {k : Int} {x y : Nat} (hx : x < a) : skF l a k ((y + dropN a k x) * a + x) = l.getD (y * a + x) 0 := by
  unfold skF
  rw [(row_at hx).1, (row_at hx).2, Nat.add_sub_cancel]
theorem skP_zero (a : Nat) (k : Int) (j : Nat) : skP a k 0 0 j = false := by
  unfold skP; exact decide_eq_false (by omega)
theorem skP_next {a : Nat} {k : Int} {x y j : Nat} (hx : x < a) : skP a k y (x + 1) j = true ↔ skP a k y x j = true ∨ j = (y + dropN a k x) * a + x := by
  unfold skP
  simp only [decide_eq_true_eq]
  constructor
  · rintro ⟨h1, h2⟩
    by_cases e : j / a - dropN a k (j % a) = y ∧ j % a = x
    · right
      have h3 := row_mod (a := a) (t := j)
      rw [e.2] at h1 h3 e
      have h4 : j / a = y + dropN a k x := by omega
      rw [h4] at h3; exact h3
    · left; exact ⟨h1, by omega⟩
  · rintro (⟨h1, h2⟩ | rfl)
    · exact ⟨h1, by omega⟩
    · rw [(row_at hx).1, (row_at hx).2]; omega
theorem skP_row {a : Nat} {k : Int} {y j : Nat} (ha : 0 < a) : skP a k (y + 1) 0 j = true ↔ skP a k y a j = true := by
  have := Nat.mod_lt j ha
  unfold skP
  simp only [decide_eq_true_eq]
  omega
theorem unskewL_ok {a b c g : Nat} {k : Int} {l : List UInt8} (ok : Ok a b l) (hb : b = c + g) : Ok a c (unskewL l a c k) :=
  ⟨ok.wa, by have := ok.hb; omega, by simp [unskewL], ok_map_range fun _ => getD01 ok.px _⟩
end Go.Am
namespace Go.Am
open Go
attribute [local irreducible] Wp WpO WpX WpE
attribute [local irreducible] dropL z640
instance K_greatest {w : Nat} {k : Int} {H : AHeap} [c : SkI w k] : PureCon ext prog 54 [.int .i64 (w : Int), .int .i64 k] H 2 (.int .i64 (grN w k w : Int)) := ⟨by
 refine con_of (show prog 54 = some c54 from rfl) rfl rfl fun n hn => ?_
 have hw := c.hw
 have hk := c.hk
 repeat first
  | refine mI ?_
  | refine nl hKF ?_
  | refine sq ?_
  | refine rg fun KF hKF => ?_
  | refine Wp.block ?_
 refine Wp.loopS [5,6,7,8,9,10,11,12,13,14,15,16,17] (fun x : Nat => [(6, .int .i64 x), (5, .int .i64 (grN w k x : Int))]) (fun H3 x H2 => x ≤ w ∧ Ext0 H3 H2) (fun x => w - x) 0 rfl (fun _ => rfl) ⟨rfl, rfl, trivial⟩ ⟨Nat.zero_le _, inferInstance⟩ (by unfold fuel0 at hn; omega) ?_
 rintro x g H2 ⟨hxw, hx2⟩
 haveI : ExtI H H2 := ⟨hx2.ext⟩
 simp only [↓nrmL, nrmZ, Nat.reduceEqDiff, ↓reduceIte]
 cases hc : decide ((x : Int) < (w : Int))
 ·have hil : x = w := by have := of_decide_eq_false hc; omega
  repeat first
   | refine mI ?_
   | (refine bn rfl rfl rfl (by simp only [↓nrmL, nrmZ, Nat.reduceEqDiff, ↓reduceIte, hc]; rfl) ?_)
   | refine nl hKF ?_
   | refine sq ?_
   | refine rg fun KF hKF => ?_
   | refine cf rfl ?_
   | refine rt ?_
   | refine xi ?_
  refine rz trivial ?_
  exact ⟨by rw [hil]; rfl, Ext0.ext⟩
 ·have hil : x < w := by have := of_decide_eq_true hc; omega
  have hw1 := wa1 (a := x) (by omega)
  haveI : ColI w x k := ⟨hil, hw, hk⟩
  have hg : (if (dropN w k x : Int) > (grN w k x : Int) then (dropN w k x : Int) else (grN w k x : Int)) = (grN w k (x + 1) : Int) := by
   simp only [grN]; split <;> split <;> omega
  repeat first
   | refine mI ?_
   | (refine bn rfl rfl rfl (by simp only [↓nrmL, nrmZ, Nat.reduceEqDiff, ↓reduceIte, hc]; rfl) ?_)
   | refine b0 ?_
   | (refine Fo.pcall (v' := ?_) hn rfl (by simp only [↓nrmL, nrmZ, Nat.reduceEqDiff, ↓reduceIte, hc, List.map]; rfl) rfl ?hv fun _ _ => ?_; case hv => rfl)
   | (refine Fo.now rfl rfl (by simp only [↓nrmL, nrmZ, Nat.reduceEqDiff, ↓reduceIte, hc]; rfl) ?_)
   | refine nl hKF ?_
   | refine sq ?_
   | refine rg fun KF hKF => ?_
   | refine ct rfl ?_
   | refine sk ?_
   | refine Wp.block ?_
  refine ⟨x + 1, by omega, ⟨by simp only [↓nrmL, nrmZ, Nat.reduceEqDiff, ↓reduceIte]; rw [hw1], by simp only [↓nrmL, nrmZ, Nat.reduceEqDiff, ↓reduceIte]; rw [← hg], trivial⟩, hil, inferInstance⟩⟩
theorem K_Unskew {w h k : Int} {p : AVal} {H : AHeap} {l : List UInt8} [hp : BytesI H p l] : Con ext prog 5 47 [.agg [.int .i64 w, .int .i64 h, p], .int .i64 k] H fun v H' => InkRes H H' v (unskewS ⟨w, h, l⟩ k) := by
 refine con_of (show prog 47 = some c47 from rfl) rfl rfl fun n hn => ?_
 haveI := hp.one
 cases h0 : (ckS ⟨w, h, l⟩ k == 0)
 ·have e1 : unskewS ⟨w, h, l⟩ k = (.zero, ckS ⟨w, h, l⟩ k) := by simp only [unskewS, h0, cond_false]
  rw [e1]
  repeat first
   | refine mI ?_
   | (refine Fo.ldN rfl rfl (by simp only [↓nrmL, nrmZ, Nat.reduceEqDiff, ↓reduceIte, Nat.reduceAdd, Int.reduceBEq, Int.reduceBNe, h0, bne]; rfl) ?_)
   | (refine bn rfl rfl rfl (by simp only [↓nrmL, nrmZ, Nat.reduceEqDiff, ↓reduceIte, Nat.reduceAdd, Int.reduceBEq, Int.reduceBNe, h0, bne]; rfl) ?_)
   | (refine Fo.pcall (v' := ?_) hn rfl (by simp only [↓nrmL, nrmZ, Nat.reduceEqDiff, ↓reduceIte, Nat.reduceAdd, Int.reduceBEq, Int.reduceBNe, h0, bne, List.map]; rfl) rfl ?hv fun _ _ => ?_; case hv => rfl)
   | refine bA ?_
   | refine nw ?_
   | refine Fo.now rfl rfl rfl ?_
   | (refine so rfl (rfl : _ = AVal.agg _) rfl rfl rfl (by simp only [↓nrmL, nrmZ, Nat.reduceEqDiff, ↓reduceIte, Nat.reduceAdd, Int.reduceBEq, Int.reduceBNe, h0, bne]; rfl) ?_)
   | refine nl hKF ?_
   | refine sq ?_
   | refine rg fun KF hKF => ?_
   | refine ct rfl ?_
   | refine rt ?_
   | dsimp only [cond_true, cond_false]
  refine rz trivial ?_
  exact ⟨_, rfl, newZero⟩
 obtain ⟨a, b, rfl, rfl, ok, hsk⟩ := ckS_zero h0
 have hk := skB_iff.1 hsk
 have hll := ok.len
 have ha := ok.wa
 have hb := ok.hb
 have hdl := dropL_length (w := a) (k := k) (i := a) ha
 have hgr := gr_le ha hk a (Nat.le_refl _)
 haveI : SkI a k := ⟨ha, hk⟩
 obtain ⟨R, hR⟩ : ∃ R, unskewS ⟨a, b, l⟩ k = R := ⟨_, rfl⟩
 rw [hR]
 repeat first
  | refine mI ?_
  | refine mT ?_
  | refine fd ?_
  | refine Fo.ld rfl rfl ?_
  | (refine Fo.ldN rfl rfl (by simp only [↓nrmL, nrmZ, Nat.reduceEqDiff, ↓reduceIte, Nat.reduceAdd, Int.reduceBEq, Int.reduceBNe, h0, bne]; rfl) ?_)
  | (refine bn rfl rfl rfl (by simp only [↓nrmL, nrmZ, Nat.reduceEqDiff, ↓reduceIte, Nat.reduceAdd, Int.reduceBEq, Int.reduceBNe, h0, bne]; rfl) ?_)
  | refine xt ?_
  | (refine Fo.pcall (v' := ?_) hn rfl (by simp only [↓nrmL, nrmZ, Nat.reduceEqDiff, ↓reduceIte, Nat.reduceAdd, Int.reduceBEq, Int.reduceBNe, h0, bne, List.map]; rfl) rfl ?hv fun _ _ => ?_; case hv => rfl)
  | refine bA ?_
  | refine nw ?_
  | refine nl hKF ?_
  | refine sq ?_
  | refine rg fun KF hKF => ?_
  | refine cf rfl ?_
  | refine sk ?_
 rename AHeap => H4
 haveI := new640 (H := H4) (e := 2 * 68)
 haveI := new640w (H := H4) (cs := z640) (e := 2 * 68)
 haveI : FreshS H4 (rowA H4.n) := new640f
 refine WpO.do' (WpX.stPN (p := rowA H4.n) (j := 0) (v := .agg (cellsI (dropL a k a))) (vs := cellsI (dropL a k a)) rfl rfl rfl (by rw [cellsI_length, hdl]) (by decide) (allOne_ints _) (by rw [cellsI_length, List.length_replicate]; decide) fun H5 hb5 hw5 hx5 => ?_)
 rw [set_all640 hdl List.length_replicate] at hb5
 haveI := hx5
 haveI : IntsI H5 (rowA H4.n) (dropL a k a) := by unfold IntsI; rw [hdl]; exact hb5
 have w1 : IntKind.i64.wrap ((b : Int) - (grN a k a : Int)) = (b : Int) - (grN a k a : Int) := w64 (by omega)
 simp only [↓nrmL, nrmZ, Nat.reduceEqDiff, ↓reduceIte, Nat.reduceAdd, Int.reduceBEq, Int.reduceBNe, w1]
 repeat first
  | refine mI ?_
  | refine fd ?_
  | refine Fo.ld rfl rfl ?_
  | (refine bn rfl rfl rfl (by simp only [↓nrmL, nrmZ, Nat.reduceEqDiff, ↓reduceIte, Nat.reduceAdd, Int.reduceBEq, Int.reduceBNe, w1]; rfl) ?_)
  | refine nl hKF ?_
  | refine sq ?_
  | refine rg fun KF hKF => ?_
 refine WpO.do (WpX.conD hn rfl rfl (by simp only [↓nrmL, nrmZ, Nat.reduceEqDiff, ↓reduceIte, Nat.reduceAdd, Int.reduceBEq, Int.reduceBNe, List.map] <;> rfl) (K_New (w := a) (h := (b : Int) - (grN a k a : Int))) fun v H6 h5 => ?_)
 have hsa : sideB (a : Int) = true := by unfold sideB; rw [decide_eq_true (by omega), decide_eq_true (by omega)]; rfl
 cases hq : decide ((grN a k a : Int) ≤ (b : Int))
 ·have hsf : sideB ((b : Int) - (grN a k a : Int)) = false := by unfold sideB; rw [decide_eq_false (by have := of_decide_eq_false hq; omega)]; rfl
  rw [hsa, hsf] at h5
  have e1 : unskewS ⟨a, b, l⟩ k = (.zero, 2) := by simp only [unskewS, h0, cond_true, Int.toNat_natCast, hq, cond_false]
  rw [e1] at hR
  subst hR
  obtain ⟨u, e1, q, e2, hq, hf, hw, hx⟩ := h5
  subst e1 e2
  haveI : ExtI _ H6 := ⟨hx⟩
  haveI := hq.one
  try dsimp only [Bool.and_false, cond_false, Img.zero] at hq
  simp only [Bool.and_false, cond_false, Img.zero]
  repeat first
   | refine mI ?_
   | refine mT ?_
   | (refine bn rfl rfl rfl (by simp only [↓nrmL, nrmZ, Nat.reduceEqDiff, ↓reduceIte, Nat.reduceAdd, Int.reduceBEq, Int.reduceBNe, Bool.and_false, cond_false, Img.zero]; rfl) ?_)
   | refine xt ?_
   | refine nw ?_
   | refine Fo.now rfl rfl rfl ?_
   | (refine so rfl (rfl : _ = AVal.agg _) rfl rfl rfl (by simp only [↓nrmL, nrmZ, Nat.reduceEqDiff, ↓reduceIte, Nat.reduceAdd, Int.reduceBEq, Int.reduceBNe, Bool.and_false, cond_false, Img.zero]; rfl) ?_)
   | refine nl hKF ?_
   | refine sq ?_
   | refine rg fun KF hKF => ?_
   | refine ct rfl ?_
   | refine rt ?_
   | dsimp only [cond_true, cond_false]
  refine rz trivial ?_
  exact ⟨_, rfl, newZero⟩
 obtain ⟨c, hc⟩ : ∃ c, b = c + grN a k a := ⟨b - grN a k a, by have := of_decide_eq_true hq; omega⟩
 have hbc : (b : Int) - (grN a k a : Int) = (c : Int) := by omega
 have hsc : sideB (c : Int) = true := by unfold sideB; rw [decide_eq_true (by omega), decide_eq_true (by omega)]; rfl
 rw [hbc, hsa, hsc] at h5
 have e1 : unskewS ⟨a, b, l⟩ k = (⟨a, c, unskewL l a c k⟩, 0) := by
  simp only [unskewS, h0, cond_true, Int.toNat_natCast, hq, hbc]
  rw [show b - grN a k a = c by omega]
 rw [e1] at hR
 subst hR
 obtain ⟨u, e1, q, e2, hq, hf, hw, hx⟩ := h5
 subst e1 e2
 simp only [Bool.and_self, cond_true, Int.toNat_natCast] at hq
 haveI : ExtI _ H6 := ⟨hx⟩
 haveI := hq.one
 have hm : a * c ≤ 640 * 640 := Nat.mul_le_mul ha (by omega)
 have hm2 : a * b ≤ 640 * 640 := Nat.mul_le_mul ha hb
 simp only [Bool.and_self, cond_true]
 repeat first
  | refine mI ?_
  | refine mT ?_
  | refine fd ?_
  | refine Fo.ld rfl rfl ?_
  | (refine bn rfl rfl rfl (by simp only [↓nrmL, nrmZ, Nat.reduceEqDiff, ↓reduceIte, Nat.reduceAdd, Int.reduceBEq, Int.reduceBNe, Bool.and_self, cond_true]; rfl) ?_)
  | refine xt ?_
  | refine nw ?_
  | (refine so rfl (rfl : _ = AVal.agg _) rfl rfl rfl (by simp only [↓nrmL, nrmZ, Nat.reduceEqDiff, ↓reduceIte, Nat.reduceAdd, Int.reduceBEq, Int.reduceBNe, Bool.and_self, cond_true]; rfl) ?_)
  | refine nl hKF ?_
  | refine sq ?_
  | refine rg fun KF hKF => ?_
  | refine cf rfl ?_
  | refine sk ?_
  | refine Wp.block ?_
  | dsimp only [cond_true, cond_false]
 refine Wp.loopS [11,12,43,44,45,46,47,48,49,50,51,52,53,54,55,56,57,58,59,60,61,62,63,64,65,66,67,68,69,70,71,72,73,74,75] (fun y : Nat => [(43, .int .i64 y)]) (fun H3 y H2 => y ≤ c ∧ BytesI H2 q (filled (unF l a k) (y * a) (a * c)) ∧ WrS H2 q ∧ ExtP0 H3 H2 q) (fun y => c - y) 0 rfl (fun _ => rfl) ⟨rfl, trivial⟩ ⟨Nat.zero_le _, by rw [Nat.zero_mul, filled_zero]; infer_instance, inferInstance, inferInstance⟩ (by unfold fuel0 at hn; omega) ?_
 rintro y g H2 ⟨hy, hb2, hw2, ⟨hx2⟩⟩
 simp only [↓nrmL, nrmZ, Nat.reduceEqDiff, ↓reduceIte, Nat.reduceAdd, Int.reduceBEq, Int.reduceBNe]
 cases hcy : decide ((y : Int) < (c : Int))
 ·have hyb : y = c := by have := of_decide_eq_false hcy; omega
  subst hyb
  rw [Nat.mul_comm y a, filled_all] at hb2
  repeat first
   | refine mI ?_
   | (refine Fo.ldN rfl rfl (by simp only [↓nrmL, nrmZ, Nat.reduceEqDiff, ↓reduceIte, Nat.reduceAdd, Int.reduceBEq, Int.reduceBNe, hcy]; rfl) ?_)
   | (refine bn rfl rfl rfl (by simp only [↓nrmL, nrmZ, Nat.reduceEqDiff, ↓reduceIte, Nat.reduceAdd, Int.reduceBEq, Int.reduceBNe, hcy]; rfl) ?_)
   | (refine so rfl (rfl : _ = AVal.agg _) rfl rfl rfl (by simp only [↓nrmL, nrmZ, Nat.reduceEqDiff, ↓reduceIte, Nat.reduceAdd, Int.reduceBEq, Int.reduceBNe, hcy]; rfl) ?_)
   | refine nl hKF ?_
   | refine sq ?_
   | refine rg fun KF hKF => ?_
   | refine cf rfl ?_
   | refine rt ?_
   | refine xi ?_
   | dsimp only [cond_true, cond_false]
  refine rz trivial ?_
  exact ⟨_, rfl, q, rfl, (show BytesI _ q (unskewL l a y k) from inferInstance), hf.weak, inferInstance, Ext0.ext⟩
 ·have hyb : y < c := by have := of_decide_eq_true hcy; omega
  repeat first
   | refine mI ?_
   | refine fd ?_
   | refine Fo.ld rfl rfl ?_
   | (refine bn rfl rfl rfl (by simp only [↓nrmL, nrmZ, Nat.reduceEqDiff, ↓reduceIte, Nat.reduceAdd, Int.reduceBEq, Int.reduceBNe, hcy]; rfl) ?_)
   | refine nl hKF ?_
   | refine sq ?_
   | refine rg fun KF hKF => ?_
   | refine ct rfl ?_
   | refine sk ?_
   | refine Wp.block ?_
   | dsimp only [cond_true, cond_false]
  refine Wp.loopS [12,48,49,50,51,52,53,54,55,56,57,58,59,60,61,62,63,64,65,66,67,68,69,70,71,72,73,74] (fun x : Nat => [(48, .int .i64 x)]) (fun H3 x H7 => x ≤ a ∧ BytesI H7 q (filled (unF l a k) (y * a + x) (a * c)) ∧ WrS H7 q ∧ ExtP0 H3 H7 q) (fun x => a - x) 0 rfl (fun _ => rfl) ⟨rfl, trivial⟩ ⟨Nat.zero_le _, inferInstance, inferInstance, inferInstance⟩ (by unfold fuel0 at hn; omega) ?_
  rintro x g2 H7 ⟨hx0, hb4, hw4, ⟨hx4⟩⟩
  simp only [↓nrmL, nrmZ, Nat.reduceEqDiff, ↓reduceIte, Nat.reduceAdd, Int.reduceBEq, Int.reduceBNe]
  cases hcx : decide ((x : Int) < (a : Int))
  ·have hxa : x = a := by have := of_decide_eq_false hcx; omega
   subst hxa
   have hw1 := wa1 (a := y) (by omega)
   repeat first
    | refine mI ?_
    | (refine bn rfl rfl rfl (by simp only [↓nrmL, nrmZ, Nat.reduceEqDiff, ↓reduceIte, Nat.reduceAdd, Int.reduceBEq, Int.reduceBNe, hcx]; rfl) ?_)
    | refine b0 ?_
    | refine nl hKF ?_
    | refine sq ?_
    | refine rg fun KF hKF => ?_
    | refine cf rfl ?_
    | refine xi ?_
    | dsimp only [cond_true, cond_false]
   refine ⟨y + 1, by omega, ⟨by simp only [↓nrmL, nrmZ, Nat.reduceEqDiff, ↓reduceIte, Nat.reduceAdd, Int.reduceBEq, Int.reduceBNe]; rw [hw1], trivial⟩, hyb, by rw [Nat.add_mul, Nat.one_mul]; infer_instance, inferInstance, inferInstance⟩
  ·have hxa : x < a := by have := of_decide_eq_true hcx; omega
   have hlt := idx_lt hxa hyb
   have hdr := gr_ge (w := a) (k := k) a x hxa
   have hyd : y + dropN a k x < b := by omega
   have hlt2 := idx_lt hxa hyd
   have hil : (y + dropN a k x) * a + x < l.length := by omega
   have hw1 := wa1 (a := x) (by omega)
   have hgd : unF l a k (y * a + x) = l[(y + dropN a k x) * a + x] := by rw [un_at hxa]; simp [hil]
   have hfl := filled_length (unF l a k) (y * a + x) (a * c)
   have hxd : x < (dropL a k a).length := by omega
   have hde : (dropL a k a)[x] = (dropN a k x : Int) := dropL_get hxa ha hxd
   have m1 : IntKind.i64.wrap ((y : Int) * (a : Int)) = ((y * a : Nat) : Int) := wm (by omega)
   have m2 : IntKind.i64.wrap (((y * a : Nat) : Int) + (x : Int)) = ((y * a + x : Nat) : Int) := wa (by omega)
   have m3 : IntKind.i64.wrap ((y : Int) + (dropN a k x : Int)) = ((y + dropN a k x : Nat) : Int) := wa (by omega)
   have m4 : IntKind.i64.wrap (((y + dropN a k x : Nat) : Int) * (a : Int)) = (((y + dropN a k x) * a : Nat) : Int) := wm (by omega)
   have m5 : IntKind.i64.wrap ((((y + dropN a k x) * a : Nat) : Int) + (x : Int)) = (((y + dropN a k x) * a + x : Nat) : Int) := wa (by omega)
   repeat first
    | refine mI ?_
    | (refine bn rfl rfl rfl (by simp only [↓nrmL, nrmZ, Nat.reduceEqDiff, ↓reduceIte, Nat.reduceAdd, Int.reduceBEq, Int.reduceBNe, hcx]; rfl) ?_)
    | refine nl hKF ?_
    | refine sq ?_
    | refine rg fun KF hKF => ?_
    | refine ct rfl ?_
    | refine sk ?_
    | refine Wp.block ?_
    | dsimp only [cond_true, cond_false]
   refine Fr.dregion0 rfl fun KF hKF => ?_
   repeat first
    | (refine Er rfl (exec_ld rfl rfl) rfl ?_)
    | (refine Fe.pure rfl rfl (by simp only [↓nrmL, nrmZ, Nat.reduceEqDiff, ↓reduceIte, Nat.reduceAdd, Int.reduceBEq, Int.reduceBNe, m1, m2]; rfl) ?_)
   refine Fe.pure rfl (exec_idxA (j := x) rfl rfl (by omega)) rfl ?_
   refine Fe.read rfl (exec_ldI (p := rowA H4.n) (j := x) rfl hxd) (congrArg (AVal.int .i64) hde) trivial ?_
   simp only [↓nrmL, nrmZ, Nat.reduceEqDiff, ↓reduceIte, Nat.reduceAdd, Int.reduceBEq, Int.reduceBNe, m1, m2, m3, m4, m5]
   repeat first
    | (refine Er rfl (exec_ld rfl rfl) rfl ?_)
    | (refine Fe.pure rfl rfl (by simp only [↓nrmL, nrmZ, Nat.reduceEqDiff, ↓reduceIte, Nat.reduceAdd, Int.reduceBEq, Int.reduceBNe, m1, m2, m3, m4, m5]; rfl) ?_)
    | (refine Fe.pure rfl (exec_idxP (by (try simp only [↓nrmL, nrmZ, Nat.reduceEqDiff, ↓reduceIte, Nat.reduceAdd, Int.reduceBEq, Int.reduceBNe, m1, m2, m3, m4, m5]); rfl) rfl ?_) (by simp only [↓nrmL, nrmZ, Nat.reduceEqDiff, ↓reduceIte, Nat.reduceAdd, Int.reduceBEq, Int.reduceBNe, m1, m2, m3, m4, m5]; rfl) ?_; (focus omega))
    | (refine Er rfl (exec_ldB rfl (by omega)) rfl ?_)
   refine WpE.stB (l[(y + dropN a k x) * a + x]) rfl rfl rfl rfl (by rw [hfl]; exact hlt) fun H8 hb8 hw8 hx8 => ar ?_
   refine WpE.nil (hKF _ _ ?_)
   refine rg fun KF hKF => ?_
   refine b0 ?_
   refine mI ?_
   refine nl hKF ?_
   dsimp only [cond_true, cond_false]
   refine ⟨x + 1, by omega, ⟨by simp only [↓nrmL, nrmZ, Nat.reduceEqDiff, ↓reduceIte, Nat.reduceAdd, Int.reduceBEq, Int.reduceBNe]; rw [hw1], trivial⟩, hxa, by rw [show y * a + (x + 1) = y * a + x + 1 by omega, ← filled_succ, hgd]; infer_instance, inferInstance, inferInstance⟩
end Go.Am
namespace Go.Am
open Go
attribute [local irreducible] Wp WpO WpX WpE
attribute [local irreducible] dropL z640
theorem K_Skew {w h k : Int} {p : AVal} {H : AHeap} {l : List UInt8} [hp : BytesI H p l] : Con ext prog 5 15 [.agg [.int .i64 w, .int .i64 h, p], .int .i64 k] H fun v H' => InkRes H H' v (skewS ⟨w, h, l⟩ k) := by
 refine con_of (show prog 15 = some c15 from rfl) rfl rfl fun n hn => ?_
 haveI := hp.one
 cases h0 : (ckS ⟨w, h, l⟩ k == 0)
 ·have e1 : skewS ⟨w, h, l⟩ k = (.zero, ckS ⟨w, h, l⟩ k) := by simp only [skewS, h0, cond_false]
  rw [e1]
  repeat first
   | refine mI ?_
   | (refine Fo.ldN rfl rfl (by simp only [↓nrmL, nrmZ, Nat.reduceEqDiff, ↓reduceIte, Nat.reduceAdd, Int.reduceBEq, Int.reduceBNe, h0, bne]; rfl) ?_)
   | (refine bn rfl rfl rfl (by simp only [↓nrmL, nrmZ, Nat.reduceEqDiff, ↓reduceIte, Nat.reduceAdd, Int.reduceBEq, Int.reduceBNe, h0, bne]; rfl) ?_)
   | (refine Fo.pcall (v' := ?_) hn rfl (by simp only [↓nrmL, nrmZ, Nat.reduceEqDiff, ↓reduceIte, Nat.reduceAdd, Int.reduceBEq, Int.reduceBNe, h0, bne, List.map]; rfl) rfl ?hv fun _ _ => ?_; case hv => rfl)
   | refine bA ?_
   | refine nw ?_
   | refine Fo.now rfl rfl rfl ?_
   | (refine so rfl (rfl : _ = AVal.agg _) rfl rfl rfl (by simp only [↓nrmL, nrmZ, Nat.reduceEqDiff, ↓reduceIte, Nat.reduceAdd, Int.reduceBEq, Int.reduceBNe, h0, bne]; rfl) ?_)
   | refine nl hKF ?_
   | refine sq ?_
   | refine rg fun KF hKF => ?_
   | refine ct rfl ?_
   | refine rt ?_
   | dsimp only [cond_true, cond_false]
  refine rz trivial ?_
  exact ⟨_, rfl, newZero⟩
 obtain ⟨a, b, rfl, rfl, ok, hsk⟩ := ckS_zero h0
 have hk := skB_iff.1 hsk
 have hll := ok.len
 have ha := ok.wa
 have hb := ok.hb
 have hdl := dropL_length (w := a) (k := k) (i := a) ha
 have hgr := gr_le ha hk a (Nat.le_refl _)
 haveI : SkI a k := ⟨ha, hk⟩
 obtain ⟨R, hR⟩ : ∃ R, skewS ⟨a, b, l⟩ k = R := ⟨_, rfl⟩
 rw [hR]
 repeat first
  | refine mI ?_
  | refine mT ?_
  | refine fd ?_
  | refine Fo.ld rfl rfl ?_
  | (refine Fo.ldN rfl rfl (by simp only [↓nrmL, nrmZ, Nat.reduceEqDiff, ↓reduceIte, Nat.reduceAdd, Int.reduceBEq, Int.reduceBNe, h0, bne]; rfl) ?_)
  | (refine bn rfl rfl rfl (by simp only [↓nrmL, nrmZ, Nat.reduceEqDiff, ↓reduceIte, Nat.reduceAdd, Int.reduceBEq, Int.reduceBNe, h0, bne]; rfl) ?_)
  | refine xt ?_
  | (refine Fo.pcall (v' := ?_) hn rfl (by simp only [↓nrmL, nrmZ, Nat.reduceEqDiff, ↓reduceIte, Nat.reduceAdd, Int.reduceBEq, Int.reduceBNe, h0, bne, List.map]; rfl) rfl ?hv fun _ _ => ?_; case hv => rfl)
  | refine bA ?_
  | refine nw ?_
  | refine nl hKF ?_
  | refine sq ?_
  | refine rg fun KF hKF => ?_
  | refine cf rfl ?_
  | refine sk ?_
 rename AHeap => H4
 haveI := new640 (H := H4) (e := 2 * 68)
 haveI := new640w (H := H4) (cs := z640) (e := 2 * 68)
 haveI : FreshS H4 (rowA H4.n) := new640f
 refine WpO.do' (WpX.stPN (p := rowA H4.n) (j := 0) (v := .agg (cellsI (dropL a k a))) (vs := cellsI (dropL a k a)) rfl rfl rfl (by rw [cellsI_length, hdl]) (by decide) (allOne_ints _) (by rw [cellsI_length, List.length_replicate]; decide) fun H5 hb5 hw5 hx5 => ?_)
 rw [set_all640 hdl List.length_replicate] at hb5
 haveI := hx5
 haveI : IntsI H5 (rowA H4.n) (dropL a k a) := by unfold IntsI; rw [hdl]; exact hb5
 have w1 : IntKind.i64.wrap ((b : Int) + (grN a k a : Int)) = ((b + grN a k a : Nat) : Int) := wa (by omega)
 simp only [↓nrmL, nrmZ, Nat.reduceEqDiff, ↓reduceIte, Nat.reduceAdd, Int.reduceBEq, Int.reduceBNe, w1]
 repeat first
  | refine mI ?_
  | refine fd ?_
  | refine Fo.ld rfl rfl ?_
  | (refine bn rfl rfl rfl (by simp only [↓nrmL, nrmZ, Nat.reduceEqDiff, ↓reduceIte, Nat.reduceAdd, Int.reduceBEq, Int.reduceBNe, w1]; rfl) ?_)
  | refine nl hKF ?_
  | refine sq ?_
  | refine rg fun KF hKF => ?_
 refine WpO.do (WpX.conD hn rfl rfl (by simp only [↓nrmL, nrmZ, Nat.reduceEqDiff, ↓reduceIte, Nat.reduceAdd, Int.reduceBEq, Int.reduceBNe, List.map] <;> rfl) (K_New (w := a) (h := ((b + grN a k a : Nat) : Int))) fun v H6 h5 => ?_)
 have hsa : sideB (a : Int) = true := by unfold sideB; rw [decide_eq_true (by omega), decide_eq_true (by omega)]; rfl
 obtain ⟨c, hc⟩ : ∃ c, b + grN a k a = c := ⟨_, rfl⟩
 rw [hc] at h5
 cases hq : decide ((b : Int) + (grN a k a : Int) ≤ 640)
 ·have hsf : sideB (c : Int) = false := by unfold sideB; rw [decide_eq_false (p := (c : Int) ≤ 640) (by have := of_decide_eq_false hq; omega), Bool.and_false]
  rw [hsa, hsf] at h5
  have e1 : skewS ⟨a, b, l⟩ k = (.zero, 2) := by simp only [skewS, h0, cond_true, Int.toNat_natCast, hq, cond_false]
  rw [e1] at hR
  subst hR
  obtain ⟨u, e1, q, e2, hq, hf, hw, hx⟩ := h5
  subst e1 e2
  haveI : ExtI _ H6 := ⟨hx⟩
  haveI := hq.one
  try dsimp only [Bool.and_false, cond_false, Img.zero] at hq
  simp only [Bool.and_false, cond_false, Img.zero]
  repeat first
   | refine mI ?_
   | refine mT ?_
   | (refine bn rfl rfl rfl (by simp only [↓nrmL, nrmZ, Nat.reduceEqDiff, ↓reduceIte, Nat.reduceAdd, Int.reduceBEq, Int.reduceBNe, Bool.and_false, cond_false, Img.zero]; rfl) ?_)
   | refine xt ?_
   | refine nw ?_
   | refine Fo.now rfl rfl rfl ?_
   | (refine so rfl (rfl : _ = AVal.agg _) rfl rfl rfl (by simp only [↓nrmL, nrmZ, Nat.reduceEqDiff, ↓reduceIte, Nat.reduceAdd, Int.reduceBEq, Int.reduceBNe, Bool.and_false, cond_false, Img.zero]; rfl) ?_)
   | refine nl hKF ?_
   | refine sq ?_
   | refine rg fun KF hKF => ?_
   | refine ct rfl ?_
   | refine rt ?_
   | dsimp only [cond_true, cond_false]
  refine rz trivial ?_
  exact ⟨_, rfl, newZero⟩
 have hcl : c ≤ 640 := by have := of_decide_eq_true hq; omega
 have hsc : sideB (c : Int) = true := by unfold sideB; rw [decide_eq_true (by omega), decide_eq_true (by omega)]; rfl
 rw [hsa, hsc] at h5
 have e1 : skewS ⟨a, b, l⟩ k = (⟨a, c, fillP (skP a k b 0) (skF l a k) (a * c)⟩, 0) := by
  simp only [skewS, skewL, h0, cond_true, Int.toNat_natCast, hq, hc]
  rw [← hc]; rfl
 rw [e1] at hR
 subst hR
 obtain ⟨u, e1, q, e2, hq, hf, hw, hx⟩ := h5
 subst e1 e2
 simp only [Bool.and_self, cond_true, Int.toNat_natCast] at hq
 haveI : ExtI _ H6 := ⟨hx⟩
 haveI := hq.one
 have hm : a * c ≤ 640 * 640 := Nat.mul_le_mul ha hcl
 have hm2 : a * b ≤ 640 * 640 := Nat.mul_le_mul ha hb
 simp only [Bool.and_self, cond_true]
 repeat first
  | refine mI ?_
  | refine mT ?_
  | refine fd ?_
  | refine Fo.ld rfl rfl ?_
  | (refine bn rfl rfl rfl (by simp only [↓nrmL, nrmZ, Nat.reduceEqDiff, ↓reduceIte, Nat.reduceAdd, Int.reduceBEq, Int.reduceBNe, Bool.and_self, cond_true]; rfl) ?_)
  | refine xt ?_
  | refine nw ?_
  | (refine so rfl (rfl : _ = AVal.agg _) rfl rfl rfl (by simp only [↓nrmL, nrmZ, Nat.reduceEqDiff, ↓reduceIte, Nat.reduceAdd, Int.reduceBEq, Int.reduceBNe, Bool.and_self, cond_true]; rfl) ?_)
  | refine nl hKF ?_
  | refine sq ?_
  | refine rg fun KF hKF => ?_
  | refine cf rfl ?_
  | refine sk ?_
  | refine Wp.block ?_
  | dsimp only [cond_true, cond_false]
 refine Wp.loopS [11,12,43,44,45,46,47,48,49,50,51,52,53,54,55,56,57,58,59,60,61,62,63,64,65,66,67,68,69,70,71,72,73,74,75] (fun y : Nat => [(43, .int .i64 y)]) (fun H3 y H2 => y ≤ b ∧ BytesI H2 q (fillP (skP a k y 0) (skF l a k) (a * c)) ∧ WrS H2 q ∧ ExtP0 H3 H2 q) (fun y => b - y) 0 rfl (fun _ => rfl) ⟨rfl, trivial⟩ ⟨Nat.zero_le _, by rw [fillP_none fun t _ => skP_zero a k t]; infer_instance, inferInstance, inferInstance⟩ (by unfold fuel0 at hn; omega) ?_
 rintro y g H2 ⟨hy, hb2, hw2, ⟨hx2⟩⟩
 simp only [↓nrmL, nrmZ, Nat.reduceEqDiff, ↓reduceIte, Nat.reduceAdd, Int.reduceBEq, Int.reduceBNe]
 cases hcy : decide ((y : Int) < (b : Int))
 ·have hyb : y = b := by have := of_decide_eq_false hcy; omega
  subst hyb
  repeat first
   | refine mI ?_
   | (refine Fo.ldN rfl rfl (by simp only [↓nrmL, nrmZ, Nat.reduceEqDiff, ↓reduceIte, Nat.reduceAdd, Int.reduceBEq, Int.reduceBNe, hcy]; rfl) ?_)
   | (refine bn rfl rfl rfl (by simp only [↓nrmL, nrmZ, Nat.reduceEqDiff, ↓reduceIte, Nat.reduceAdd, Int.reduceBEq, Int.reduceBNe, hcy]; rfl) ?_)
   | (refine so rfl (rfl : _ = AVal.agg _) rfl rfl rfl (by simp only [↓nrmL, nrmZ, Nat.reduceEqDiff, ↓reduceIte, Nat.reduceAdd, Int.reduceBEq, Int.reduceBNe, hcy]; rfl) ?_)
   | refine nl hKF ?_
   | refine sq ?_
   | refine rg fun KF hKF => ?_
   | refine cf rfl ?_
   | refine rt ?_
   | refine xi ?_
   | dsimp only [cond_true, cond_false]
  refine rz trivial ?_
  exact ⟨_, rfl, q, rfl, (show BytesI _ q (fillP (skP a k y 0) (skF l a k) (a * c)) from inferInstance), hf.weak, inferInstance, Ext0.ext⟩
 ·have hyb : y < b := by have := of_decide_eq_true hcy; omega
  repeat first
   | refine mI ?_
   | refine fd ?_
   | refine Fo.ld rfl rfl ?_
   | (refine bn rfl rfl rfl (by simp only [↓nrmL, nrmZ, Nat.reduceEqDiff, ↓reduceIte, Nat.reduceAdd, Int.reduceBEq, Int.reduceBNe, hcy]; rfl) ?_)
   | refine nl hKF ?_
   | refine sq ?_
   | refine rg fun KF hKF => ?_
   | refine ct rfl ?_
   | refine sk ?_
   | refine Wp.block ?_
   | dsimp only [cond_true, cond_false]
  refine Wp.loopS [12,48,49,50,51,52,53,54,55,56,57,58,59,60,61,62,63,64,65,66,67,68,69,70,71,72,73,74] (fun x : Nat => [(48, .int .i64 x)]) (fun H3 x H7 => x ≤ a ∧ BytesI H7 q (fillP (skP a k y x) (skF l a k) (a * c)) ∧ WrS H7 q ∧ ExtP0 H3 H7 q) (fun x => a - x) 0 rfl (fun _ => rfl) ⟨rfl, trivial⟩ ⟨Nat.zero_le _, inferInstance, inferInstance, inferInstance⟩ (by unfold fuel0 at hn; omega) ?_
  rintro x g2 H7 ⟨hx0, hb4, hw4, ⟨hx4⟩⟩
  simp only [↓nrmL, nrmZ, Nat.reduceEqDiff, ↓reduceIte, Nat.reduceAdd, Int.reduceBEq, Int.reduceBNe]
  cases hcx : decide ((x : Int) < (a : Int))
  ·have hxa : x = a := by have := of_decide_eq_false hcx; omega
   subst hxa
   have hw1 := wa1 (a := y) (by omega)
   rw [fillP_congr (Q := skP x k (y + 1) 0) fun t ht => skP_row (Nat.pos_of_ne_zero (by rintro rfl; simp at ht))] at hb4
   repeat first
    | refine mI ?_
    | (refine bn rfl rfl rfl (by simp only [↓nrmL, nrmZ, Nat.reduceEqDiff, ↓reduceIte, Nat.reduceAdd, Int.reduceBEq, Int.reduceBNe, hcx]; rfl) ?_)
    | refine b0 ?_
    | refine nl hKF ?_
    | refine sq ?_
    | refine rg fun KF hKF => ?_
    | refine cf rfl ?_
    | refine xi ?_
    | dsimp only [cond_true, cond_false]
   refine ⟨y + 1, by omega, ⟨by simp only [↓nrmL, nrmZ, Nat.reduceEqDiff, ↓reduceIte, Nat.reduceAdd, Int.reduceBEq, Int.reduceBNe]; rw [hw1], trivial⟩, hyb, inferInstance, inferInstance, inferInstance⟩
  ·have hxa : x < a := by have := of_decide_eq_true hcx; omega
   have hlt := idx_lt hxa hyb
   have hdr := gr_ge (w := a) (k := k) a x hxa
   have hyd : y + dropN a k x < c := by omega
   have hlt2 := idx_lt hxa hyd
   have hil : y * a + x < l.length := by omega
   have hw1 := wa1 (a := x) (by omega)
   have hgd : skF l a k ((y + dropN a k x) * a + x) = l[y * a + x] := by rw [sk_at hxa]; simp [hil]
   have hfl := fillP_length (skP a k y x) (skF l a k) (a * c)
   have hxd : x < (dropL a k a).length := by omega
   have hde : (dropL a k a)[x] = (dropN a k x : Int) := dropL_get hxa ha hxd
   have m1 : IntKind.i64.wrap ((y : Int) * (a : Int)) = ((y * a : Nat) : Int) := wm (by omega)
   have m2 : IntKind.i64.wrap (((y * a : Nat) : Int) + (x : Int)) = ((y * a + x : Nat) : Int) := wa (by omega)
   have m3 : IntKind.i64.wrap ((y : Int) + (dropN a k x : Int)) = ((y + dropN a k x : Nat) : Int) := wa (by omega)
   have m4 : IntKind.i64.wrap (((y + dropN a k x : Nat) : Int) * (a : Int)) = (((y + dropN a k x) * a : Nat) : Int) := wm (by omega)
   have m5 : IntKind.i64.wrap ((((y + dropN a k x) * a : Nat) : Int) + (x : Int)) = (((y + dropN a k x) * a + x : Nat) : Int) := wa (by omega)
   repeat first
    | refine mI ?_
    | (refine bn rfl rfl rfl (by simp only [↓nrmL, nrmZ, Nat.reduceEqDiff, ↓reduceIte, Nat.reduceAdd, Int.reduceBEq, Int.reduceBNe, hcx]; rfl) ?_)
    | refine nl hKF ?_
    | refine sq ?_
    | refine rg fun KF hKF => ?_
    | refine ct rfl ?_
    | refine sk ?_
    | refine Wp.block ?_
    | dsimp only [cond_true, cond_false]
   refine Fr.dregion0 rfl fun KF hKF => ?_
   repeat first
    | (refine Er rfl (exec_ld rfl rfl) rfl ?_)
    | (refine Fe.pure rfl rfl (by simp only [↓nrmL, nrmZ, Nat.reduceEqDiff, ↓reduceIte, Nat.reduceAdd, Int.reduceBEq, Int.reduceBNe, m1, m2]; rfl) ?_)
   refine Fe.pure rfl (exec_idxA (j := x) rfl rfl (by omega)) rfl ?_
   refine Fe.read rfl (exec_ldI (p := rowA H4.n) (j := x) rfl hxd) (congrArg (AVal.int .i64) hde) trivial ?_
   simp only [↓nrmL, nrmZ, Nat.reduceEqDiff, ↓reduceIte, Nat.reduceAdd, Int.reduceBEq, Int.reduceBNe, m1, m2, m3, m4, m5]
   repeat first
    | (refine Er rfl (exec_ld rfl rfl) rfl ?_)
    | (refine Fe.pure rfl rfl (by simp only [↓nrmL, nrmZ, Nat.reduceEqDiff, ↓reduceIte, Nat.reduceAdd, Int.reduceBEq, Int.reduceBNe, m1, m2, m3, m4, m5]; rfl) ?_)
    | (refine Fe.pure rfl (exec_idxP (by (try simp only [↓nrmL, nrmZ, Nat.reduceEqDiff, ↓reduceIte, Nat.reduceAdd, Int.reduceBEq, Int.reduceBNe, m1, m2, m3, m4, m5]); rfl) rfl ?_) (by simp only [↓nrmL, nrmZ, Nat.reduceEqDiff, ↓reduceIte, Nat.reduceAdd, Int.reduceBEq, Int.reduceBNe, m1, m2, m3, m4, m5]; rfl) ?_; (focus omega))
    | (refine Er rfl (exec_ldB rfl (by omega)) rfl ?_)
   refine WpE.stB (l[y * a + x]) rfl rfl rfl rfl (by rw [hfl]; exact hlt2) fun H8 hb8 hw8 hx8 => ar ?_
   rw [← hgd, fillP_set (Q := skP a k y (x + 1)) fun t _ => skP_next hxa] at hb8
   refine WpE.nil (hKF _ _ ?_)
   refine rg fun KF hKF => ?_
   refine b0 ?_
   refine mI ?_
   refine nl hKF ?_
   dsimp only [cond_true, cond_false]
   refine ⟨x + 1, by omega, ⟨by simp only [↓nrmL, nrmZ, Nat.reduceEqDiff, ↓reduceIte, Nat.reduceAdd, Int.reduceBEq, Int.reduceBNe]; rw [hw1], trivial⟩, hxa, hb8, hw8, inferInstance⟩
end Go.Am
namespace Go.Am
open Go
attribute [local irreducible] Wp WpO WpX WpE
theorem skB_lo {k : Int} (h : decide (k < -3) = true) : skB k = false := by
 have := of_decide_eq_true h
 unfold skB; rw [decide_eq_false (by omega)]; rfl
theorem skB_hi {k : Int} (h : decide (k > 3) = true) : skB k = false := by
 have := of_decide_eq_true h
 unfold skB; rw [decide_eq_false (p := k ≤ 3) (by omega), Bool.and_false]
theorem skB_in {k : Int} (h : decide (k < -3) = false) (h2 : decide (k > 3) = false) : skB k = true := by
 have := of_decide_eq_false h
 have := of_decide_eq_false h2
 exact skB_iff.2 (by omega)
theorem ck_err {g : Img} {k : Int} (h : (g.err == 0) = false) : (ckS g k == 0) = false ∧ ckS g k = g.err := by
 have e : ckS g k = g.err := by unfold ckS; rw [h]; rfl
 exact ⟨by rw [e]; exact h, e⟩
theorem ck_bad {g : Img} {k : Int} (h : (g.err == 0) = true) (hk : skB k = false) : (ckS g k == 0) = false ∧ ckS g k = 1 := by
 have e : ckS g k = 1 := by unfold ckS; rw [h, hk]; rfl
 exact ⟨by rw [e]; rfl, e⟩
theorem getD_ink {l : List UInt8} (h : pxOk l = true) (i : Nat) : ((l.getD i 0 == 1) = true → l.getD i 0 = 1) ∧ ((l.getD i 0 == 1) = false → l.getD i 0 = 0) := by
 rcases getD01 h i with e | e <;> rw [e] <;> exact ⟨by decide, by decide⟩
theorem K_refUnskew {w h k : Int} {p : AVal} {H : AHeap} {l : List UInt8} [hp : BytesI H p l] : Con ext prog 4 26 [.agg [.int .i64 w, .int .i64 h, p], .int .i64 k] H fun v H' => InkRes H H' v (unskewS ⟨w, h, l⟩ k) := by
 refine con_of (show prog 26 = some c26 from rfl) rfl rfl fun n hn => ?_
 haveI := hp.one
 cases h0 : (Img.err ⟨w, h, l⟩ == 0)
 ·have e1 : unskewS ⟨w, h, l⟩ k = (.zero, Img.err ⟨w, h, l⟩) := by simp only [unskewS, (ck_err (k := k) h0).1, cond_false]; rw [(ck_err h0).2]
  rw [e1]
  repeat first
   | refine mI ?_
   | (refine Fo.ldN rfl rfl (by simp only [↓nrmL, nrmZ, Nat.reduceEqDiff, ↓reduceIte, h0, bne]; rfl) ?_)
   | (refine bn rfl rfl rfl (by simp only [h0, bne]; rfl) ?_)
   | (refine Fo.pcall (v' := ?_) hn rfl (by simp only [↓nrmL, nrmZ, Nat.reduceEqDiff, ↓reduceIte, h0, bne, List.map]; rfl) rfl ?hv fun _ _ => ?_; case hv => rfl)
   | refine bA ?_
   | refine nw ?_
   | refine Fo.now rfl rfl rfl ?_
   | (refine so rfl (rfl : _ = AVal.agg _) rfl rfl rfl (by simp only [↓nrmL, nrmZ, Nat.reduceEqDiff, ↓reduceIte, h0, bne]; rfl) ?_)
   | refine nl hKF ?_
   | refine sq ?_
   | refine rg fun KF hKF => ?_
   | refine ct rfl ?_
   | refine rt ?_
  refine rz trivial ?_
  exact ⟨_, rfl, newZero⟩
 cases h1 : decide (k < -3)
 rotate_left
 ·have e1 : unskewS ⟨w, h, l⟩ k = (.zero, 1) := by simp only [unskewS, (ck_bad (k := k) h0 (skB_lo h1)).1, cond_false]; rw [(ck_bad h0 (skB_lo h1)).2]
  rw [e1]
  repeat first
   | refine ox ?_
   | refine mI ?_
   | refine mB ?_
   | (refine Fo.ldN rfl rfl (by simp only [↓nrmL, nrmZ, Nat.reduceEqDiff, ↓reduceIte, h0, bne, h1]; rfl) ?_)
   | (refine bn rfl rfl rfl (by simp only [h0, bne, h1]; rfl) ?_)
   | refine tB ?_
   | (refine Fo.pcall (v' := ?_) hn rfl (by simp only [↓nrmL, nrmZ, Nat.reduceEqDiff, ↓reduceIte, h0, bne, h1, List.map]; rfl) rfl ?hv fun _ _ => ?_; case hv => rfl)
   | refine bA ?_
   | refine nw ?_
   | refine Fo.now rfl rfl rfl ?_
   | (refine so rfl (rfl : _ = AVal.agg _) rfl rfl rfl (by simp only [↓nrmL, nrmZ, Nat.reduceEqDiff, ↓reduceIte, h0, bne, h1]; rfl) ?_)
   | refine nl hKF ?_
   | refine sq ?_
   | refine rg fun KF hKF => ?_
   | refine ct rfl ?_
   | refine cf rfl ?_
   | refine sk ?_
   | refine rt ?_
  refine rz trivial ?_
  exact ⟨_, rfl, newZero⟩
 cases h2 : decide (k > 3)
 rotate_left
 ·have e1 : unskewS ⟨w, h, l⟩ k = (.zero, 1) := by simp only [unskewS, (ck_bad (k := k) h0 (skB_hi h2)).1, cond_false]; rw [(ck_bad h0 (skB_hi h2)).2]
  rw [e1]
  repeat first
   | refine oy ?_
   | refine mI ?_
   | refine mB ?_
   | (refine Fo.ldN rfl rfl (by simp only [↓nrmL, nrmZ, Nat.reduceEqDiff, ↓reduceIte, h0, bne, h1, h2]; rfl) ?_)
   | (refine bn rfl rfl rfl (by simp only [h0, bne, h1, h2]; rfl) ?_)
   | refine fB ?_
   | (refine Fo.pcall (v' := ?_) hn rfl (by simp only [↓nrmL, nrmZ, Nat.reduceEqDiff, ↓reduceIte, h0, bne, h1, h2, List.map]; rfl) rfl ?hv fun _ _ => ?_; case hv => rfl)
   | refine bA ?_
   | refine nw ?_
   | refine Fo.now rfl rfl rfl ?_
   | (refine so rfl (rfl : _ = AVal.agg _) rfl rfl rfl (by simp only [↓nrmL, nrmZ, Nat.reduceEqDiff, ↓reduceIte, h0, bne, h1, h2]; rfl) ?_)
   | refine nl hKF ?_
   | refine sq ?_
   | refine rg fun KF hKF => ?_
   | refine ct rfl ?_
   | refine cf rfl ?_
   | refine sk ?_
   | refine rt ?_
  refine rz trivial ?_
  exact ⟨_, rfl, newZero⟩
 have hsk := skB_in h1 h2
 have hk := skB_iff.1 hsk
 obtain ⟨a, b, rfl, rfl, ok⟩ := ok_of h0
 have hck := ckS_ok ok hsk
 have hll := ok.len
 have ha := ok.wa
 have hb := ok.hb
 have hpx := ok.px
 have hgr := gr_le ha hk a (Nat.le_refl _)
 haveI : SkI a k := ⟨ha, hk⟩
 haveI : Fits a b l := ⟨ok.sized⟩
 have w1 : IntKind.i64.wrap ((b : Int) - (grN a k a : Int)) = (b : Int) - (grN a k a : Int) := w64 (by omega)
 cases hq : decide ((grN a k a : Int) ≤ (b : Int))
 ·have e1 : unskewS ⟨a, b, l⟩ k = (.zero, 2) := by simp only [unskewS, hck, beq_self_eq_true, cond_true, Int.toNat_natCast, hq, cond_false]
  rw [e1]
  have h3 : decide ((b : Int) - (grN a k a : Int) < 0) = true := decide_eq_true (by have := of_decide_eq_false hq; omega)
  repeat first
   | refine oy ?_
   | refine mI ?_
   | refine mB ?_
   | (refine Fo.ldN rfl rfl (by simp only [↓nrmL, nrmZ, Nat.reduceEqDiff, ↓reduceIte, h0, bne, h1, h2]; rfl) ?_)
   | (refine bn rfl rfl rfl (by simp only [h0, bne, h1, h2]; rfl) ?_)
   | refine fB ?_
   | (refine Fo.pcall (v' := ?_) hn rfl (by simp only [↓nrmL, nrmZ, Nat.reduceEqDiff, ↓reduceIte, h0, bne, h1, h2, List.map]; rfl) rfl ?hv fun _ _ => ?_; case hv => rfl)
   | refine bA ?_
   | refine nw ?_
   | refine nl hKF ?_
   | refine sq ?_
   | refine rg fun KF hKF => ?_
   | refine cf rfl ?_
   | refine sk ?_
  refine Fr.dregion0 rfl fun KF hKF => ?_
  simp only [↓nrmL, nrmZ, Nat.reduceEqDiff, ↓reduceIte, w1]
  repeat first
   | (refine Er rfl (exec_ld rfl rfl) rfl ?_)
   | (refine Fe.pure rfl rfl (by simp only [w1]; rfl) ?_)
   | (refine Fe.pure rfl rfl (by simp only [↓nrmL, nrmZ, Nat.reduceEqDiff, ↓reduceIte, w1]; rfl) ?_)
   | (refine Fe.pcall (v' := ?_) rfl hn rfl (by simp only [↓nrmL, nrmZ, Nat.reduceEqDiff, ↓reduceIte, w1, List.map]; rfl) rfl ?hv fun _ _ => ar ?_; case hv => rfl)
   | refine WpE.nil (hKF _ _ ?_)
  simp only [h3]
  repeat first
   | refine mI ?_
   | (refine bn rfl rfl rfl (by simp only [h3]; rfl) ?_)
   | refine Fo.now rfl rfl rfl ?_
   | (refine so rfl (rfl : _ = AVal.agg _) rfl rfl rfl (by simp only [↓nrmL, nrmZ, Nat.reduceEqDiff, ↓reduceIte, h3]; rfl) ?_)
   | refine nl hKF ?_
   | refine sq ?_
   | refine rg fun KF hKF => ?_
   | refine ct rfl ?_
   | refine rt ?_
  refine rz trivial ?_
  exact ⟨_, rfl, newZero⟩
 obtain ⟨c, hc⟩ : ∃ c, b = c + grN a k a := ⟨b - grN a k a, by have := of_decide_eq_true hq; omega⟩
 have hbc : (b : Int) - (grN a k a : Int) = (c : Int) := by omega
 have h3 : decide ((c : Int) < 0) = false := decide_eq_false (by omega)
 have hcl : c ≤ 640 := by omega
 have e1 : unskewS ⟨a, b, l⟩ k = (⟨a, c, unskewL l a c k⟩, 0) := by
  simp only [unskewS, hck, beq_self_eq_true, cond_true, Int.toNat_natCast, hq, hbc]
  rw [show b - grN a k a = c by omega]
 rw [e1]
 replace w1 := w1.trans hbc
 have hm : a * c ≤ 640 * 640 := Nat.mul_le_mul ha hcl
 have hm2 : a * b ≤ 640 * 640 := Nat.mul_le_mul ha hb
 repeat first
  | refine oy ?_
  | refine mI ?_
  | refine mB ?_
  | (refine Fo.ldN rfl rfl (by simp only [↓nrmL, nrmZ, Nat.reduceEqDiff, ↓reduceIte, h0, bne, h1, h2]; rfl) ?_)
  | (refine bn rfl rfl rfl (by simp only [h0, bne, h1, h2]; rfl) ?_)
  | refine fB ?_
  | (refine Fo.pcall (v' := ?_) hn rfl (by simp only [↓nrmL, nrmZ, Nat.reduceEqDiff, ↓reduceIte, h0, bne, h1, h2, List.map]; rfl) rfl ?hv fun _ _ => ?_; case hv => rfl)
  | refine bA ?_
  | refine nw ?_
  | refine nl hKF ?_
  | refine sq ?_
  | refine rg fun KF hKF => ?_
  | refine cf rfl ?_
  | refine sk ?_
 refine Fr.dregion0 rfl fun KF hKF => ?_
 simp only [↓nrmL, nrmZ, Nat.reduceEqDiff, ↓reduceIte, w1]
 repeat first
  | (refine Er rfl (exec_ld rfl rfl) rfl ?_)
  | (refine Fe.pure rfl rfl (by simp only [w1]; rfl) ?_)
  | (refine Fe.pure rfl rfl (by simp only [↓nrmL, nrmZ, Nat.reduceEqDiff, ↓reduceIte, w1]; rfl) ?_)
  | (refine Fe.pcall (v' := ?_) rfl hn rfl (by simp only [↓nrmL, nrmZ, Nat.reduceEqDiff, ↓reduceIte, w1, List.map]; rfl) rfl ?hv fun _ _ => ar ?_; case hv => rfl)
  | refine WpE.nil (hKF _ _ ?_)
 simp only [h3]
 repeat first
  | refine mI ?_
  | refine fd ?_
  | refine Fo.ld rfl rfl ?_
  | (refine bn rfl rfl rfl (by simp only [h3]; rfl) ?_)
  | refine nl hKF ?_
  | refine sq ?_
  | refine rg fun KF hKF => ?_
  | refine cf rfl ?_
  | refine sk ?_
 refine WpO.do (WpX.conD hn rfl rfl (by simp only [↓nrmL, nrmZ, Nat.reduceEqDiff, ↓reduceIte, List.map] <;> rfl) (K_refNew (w := a) (h := c) ha hcl) fun v H6 ⟨q, e2, hq, hf, hw, hx⟩ => ?_)
 subst e2
 haveI : ExtI _ H6 := ⟨hx⟩
 haveI := hq.one
 have hq : BytesI H6 q (List.replicate (a * c) 0) := hq
 refine nw ?_
 refine so rfl (rfl : _ = AVal.agg _) rfl rfl rfl (by simp only [↓nrmL, nrmZ, Nat.reduceEqDiff, ↓reduceIte]; rfl) ?_
 refine nl hKF ?_
 refine sq ?_
 refine sq ?_
 refine rg fun KF hKF => ?_
 refine mI ?_
 refine nl hKF ?_
 refine Wp.block ?_
 dsimp only [cond_true, cond_false]
 refine Wp.loopS [9,10,38,39,40,41,42,43,44,45,46,47,48,49,50,51,52,53,54,55,56,57,58,59,60,61,62] (fun y : Nat => [(9, .int .i64 y)]) (fun H3 y H2 => y ≤ c ∧ BytesI H2 q (filled (unF l a k) (y * a) (a * c)) ∧ WrS H2 q ∧ ExtP0 H3 H2 q) (fun y => c - y) 0 rfl (fun _ => rfl) ⟨rfl, trivial⟩ ⟨Nat.zero_le _, by rw [Nat.zero_mul, filled_zero]; infer_instance, inferInstance, inferInstance⟩ (by unfold fuel0 at hn; omega) ?_
 rintro y g H2 ⟨hy, hb2, hw2, ⟨hx2⟩⟩
 simp only [↓nrmL, nrmZ, Nat.reduceEqDiff, ↓reduceIte]
 cases hcy : decide ((y : Int) < (c : Int))
 ·have hyb : y = c := by have := of_decide_eq_false hcy; omega
  subst hyb
  rw [Nat.mul_comm y a, filled_all] at hb2
  repeat first
   | refine mI ?_
   | (refine Fo.ldN rfl rfl (by simp only [↓nrmL, nrmZ, Nat.reduceEqDiff, ↓reduceIte, hcy]; rfl) ?_)
   | (refine bn rfl rfl rfl (by simp only [hcy]; rfl) ?_)
   | (refine so rfl (rfl : _ = AVal.agg _) rfl rfl rfl (by simp only [↓nrmL, nrmZ, Nat.reduceEqDiff, ↓reduceIte, hcy]; rfl) ?_)
   | refine nl hKF ?_
   | refine sq ?_
   | refine rg fun KF hKF => ?_
   | refine cf rfl ?_
   | refine rt ?_
   | refine xi ?_
  refine rz trivial ?_
  exact ⟨_, rfl, q, rfl, inferInstance, hf.weak, inferInstance, Ext0.ext⟩
 ·have hyb : y < c := by have := of_decide_eq_true hcy; omega
  repeat first
   | refine mI ?_
   | (refine bn rfl rfl rfl (by simp only [hcy]; rfl) ?_)
   | refine nl hKF ?_
   | refine sq ?_
   | refine rg fun KF hKF => ?_
   | refine ct rfl ?_
   | refine sk ?_
   | refine Wp.block ?_
  refine Wp.loopS [10,43,44,45,46,47,48,49,50,51,52,53,54,55,56,57,58,59,60,61,62] (fun x : Nat => [(10, .int .i64 x)]) (fun H3 x H7 => x ≤ a ∧ BytesI H7 q (filled (unF l a k) (y * a + x) (a * c)) ∧ WrS H7 q ∧ ExtP0 H3 H7 q) (fun x => a - x) 0 rfl (fun _ => rfl) ⟨rfl, trivial⟩ ⟨Nat.zero_le _, inferInstance, inferInstance, inferInstance⟩ (by unfold fuel0 at hn; omega) ?_
  rintro x g2 H7 ⟨hx0, hb4, hw4, ⟨hx4⟩⟩
  simp only [↓nrmL, nrmZ, Nat.reduceEqDiff, ↓reduceIte]
  cases hcx : decide ((x : Int) < (a : Int))
  ·have hxa : x = a := by have := of_decide_eq_false hcx; omega
   subst hxa
   have hw1 := wa1 (a := y) (by omega)
   repeat first
    | refine mI ?_
    | refine fd ?_
    | refine Fo.ld rfl rfl ?_
    | (refine bn rfl rfl rfl (by simp only [hcx]; rfl) ?_)
    | refine b0 ?_
    | refine nl hKF ?_
    | refine sq ?_
    | refine rg fun KF hKF => ?_
    | refine cf rfl ?_
    | refine xi ?_
   refine ⟨y + 1, by omega, ⟨by simp only [↓nrmL, nrmZ, Nat.reduceEqDiff, ↓reduceIte]; rw [hw1], trivial⟩, hyb, by rw [Nat.add_mul, Nat.one_mul]; infer_instance, inferInstance, inferInstance⟩
  ·have hxa : x < a := by have := of_decide_eq_true hcx; omega
   have hlt := idx_lt hxa hyb
   have hdr := gr_ge (w := a) (k := k) a x hxa
   have hw1 := wa1 (a := x) (by omega)
   have hfl := filled_length (unF l a k) (y * a + x) (a * c)
   haveI : ColI a x k := ⟨hxa, ha, hk⟩
   have hyd : y + dropN a k x < b := by omega
   have m1 : IntKind.i64.wrap ((y : Int) + (dropN a k x : Int)) = ((y + dropN a k x : Nat) : Int) := wa (by omega)
   have k1 := inkB_nat (l := l) hxa hyd
   have k2 := getD_ink hpx ((y + dropN a k x) * a + x)
   have k3 := un_at (l := l) (k := k) (y := y) hxa
   cases ht : inkB a b l x (y + dropN a k x : Nat)
   ·have h0 : unF l a k (y * a + x) = 0 := by rw [k3]; exact k2.2 (by rw [← k1]; exact ht)
    repeat first
     | refine mI ?_
     | refine fd ?_
     | refine Fo.ld rfl rfl ?_
     | (refine bn rfl rfl rfl (by simp only [hcx]; rfl) ?_)
     | refine nl hKF ?_
     | refine sq ?_
     | refine rg fun KF hKF => ?_
     | refine ct rfl ?_
     | refine sk ?_
     | refine Wp.block ?_
    refine Fr.dregion0 rfl fun KF hKF => ?_
    simp only [↓nrmL, nrmZ, Nat.reduceEqDiff, ↓reduceIte, m1]
    repeat first
     | (refine Er rfl (exec_ld rfl rfl) rfl ?_)
     | (refine Er rfl (exec_ldN rfl rfl (by simp only [↓nrmL, nrmZ, Nat.reduceEqDiff, ↓reduceIte, m1]; rfl)) rfl ?_)
     | (refine Fe.pure rfl rfl (by simp only [m1]; rfl) ?_)
     | (refine Fe.pure rfl rfl (by simp only [↓nrmL, nrmZ, Nat.reduceEqDiff, ↓reduceIte, m1]; rfl) ?_)
     | (refine Fe.pcall (v' := ?_) rfl hn rfl (by simp only [↓nrmL, nrmZ, Nat.reduceEqDiff, ↓reduceIte, m1, List.map]; rfl) rfl ?hv fun _ _ => ar ?_; case hv => rfl)
     | refine WpE.nil (hKF _ _ ?_)
    simp only [ht]
    refine cf rfl ?_
    refine sk ?_
    refine rg fun KF hKF => ?_
    refine mI ?_
    refine b0 ?_
    refine mI ?_
    refine nl hKF ?_
    dsimp only [cond_true, cond_false]
    refine ⟨x + 1, by omega, ⟨by simp only [↓nrmL, nrmZ, Nat.reduceEqDiff, ↓reduceIte]; rw [hw1], trivial⟩, hxa, by rw [show y * a + (x + 1) = y * a + x + 1 by omega, filled_skip h0]; infer_instance, inferInstance, inferInstance⟩
   ·have h0 : unF l a k (y * a + x) = 1 := by rw [k3]; exact k2.1 (by rw [← k1]; exact ht)
    repeat first
     | refine mI ?_
     | refine fd ?_
     | refine Fo.ld rfl rfl ?_
     | (refine bn rfl rfl rfl (by simp only [hcx]; rfl) ?_)
     | refine nl hKF ?_
     | refine sq ?_
     | refine rg fun KF hKF => ?_
     | refine ct rfl ?_
     | refine sk ?_
     | refine Wp.block ?_
    refine Fr.dregion0 rfl fun KF hKF => ?_
    simp only [↓nrmL, nrmZ, Nat.reduceEqDiff, ↓reduceIte, m1]
    repeat first
     | (refine Er rfl (exec_ld rfl rfl) rfl ?_)
     | (refine Er rfl (exec_ldN rfl rfl (by simp only [↓nrmL, nrmZ, Nat.reduceEqDiff, ↓reduceIte, m1]; rfl)) rfl ?_)
     | (refine Fe.pure rfl rfl (by simp only [m1]; rfl) ?_)
     | (refine Fe.pure rfl rfl (by simp only [↓nrmL, nrmZ, Nat.reduceEqDiff, ↓reduceIte, m1]; rfl) ?_)
     | (refine Fe.pcall (v' := ?_) rfl hn rfl (by simp only [↓nrmL, nrmZ, Nat.reduceEqDiff, ↓reduceIte, m1, List.map]; rfl) rfl ?hv fun _ _ => ar ?_; case hv => rfl)
     | refine WpE.nil (hKF _ _ ?_)
    simp only [ht]
    refine ct rfl ?_
    refine rg fun KF hKF => ?_
    refine Fo.ldN rfl rfl (by simp only [↓nrmL, nrmZ, Nat.reduceEqDiff, ↓reduceIte, ht]; rfl) ?_
    refine mI ?_
    refine mI ?_
    refine WpO.do (WpX.conD hn rfl rfl (by simp only [↓nrmL, nrmZ, Nat.reduceEqDiff, ↓reduceIte, List.map] <;> rfl) (K_refSet (y := y) (x := x) (by rw [hfl]; exact hlt) (by rw [hfl]; omega)) fun v H5 h5 => ?_)
    obtain ⟨hb5, hw5, hx5⟩ := h5
    repeat first
     | refine mI ?_
     | refine b0 ?_
     | refine nl hKF ?_
     | refine rg fun KF hKF => ?_
    refine ⟨x + 1, by omega, ⟨by simp only [↓nrmL, nrmZ, Nat.reduceEqDiff, ↓reduceIte]; rw [hw1], trivial⟩, hxa, by rw [show y * a + (x + 1) = y * a + x + 1 by omega, ← filled_succ, h0]; infer_instance, inferInstance, inferInstance⟩
end Go.Am
namespace Go.Am
open Go
attribute [local irreducible] Wp WpO WpX WpE
theorem getD_mapA {α : Type} {d : α} {f : Nat → α} {n i : Nat} (h : i < n) : ((List.range n).map f).getD i d = f i := by simp [h]
theorem list_eqA {α : Type} {l m : List α} (d : α) (hl : l.length = m.length) (h : ∀ t, t < l.length → l.getD t d = m.getD t d) : l = m := by
 apply List.ext_getElem hl
 intro i h1 h2
 have := h i h1
 simpa [h1, h2] using this
def pd (l : List UInt8) (k : Nat) : Int := bif l.getD k 0 == 1 then 1 else 0
def rc (l : List UInt8) (a j x : Nat) : Int := (((List.range x).filter fun u => l.getD (j * a + u) 0 == 1).length : Nat)
def cc (l : List UInt8) (a i y : Nat) : Int := (((List.range y).filter fun v => l.getD (v * a + i) 0 == 1).length : Nat)
theorem rc_succ (l : List UInt8) (a j x : Nat) : rc l a j (x + 1) = rc l a j x + pd l (j * a + x) := by
 unfold rc pd
 rw [List.range_succ, List.filter_append, List.length_append]
 cases h : (l.getD (j * a + x) 0 == 1)
 ·rw [List.filter_cons_of_neg (by rw [h]; decide)]; simp
 ·rw [List.filter_cons_of_pos (by rw [h])]; simp
theorem cc_succ (l : List UInt8) (a i y : Nat) : cc l a i (y + 1) = cc l a i y + pd l (y * a + i) := by
 unfold cc pd
 rw [List.range_succ, List.filter_append, List.length_append]
 cases h : (l.getD (y * a + i) 0 == 1)
 ·rw [List.filter_cons_of_neg (by rw [h]; decide)]; simp
 ·rw [List.filter_cons_of_pos (by rw [h])]; simp
theorem rc_bd (l : List UInt8) (a j x : Nat) : 0 ≤ rc l a j x ∧ rc l a j x ≤ x := by
 unfold rc
 have := List.length_filter_le (fun u => l.getD (j * a + u) 0 == 1) (List.range x)
 rw [List.length_range] at this
 omega
theorem cc_bd (l : List UInt8) (a i y : Nat) : 0 ≤ cc l a i y ∧ cc l a i y ≤ y := by
 unfold cc
 have := List.length_filter_le (fun v => l.getD (v * a + i) 0 == 1) (List.range y)
 rw [List.length_range] at this
 omega
theorem pd_bd (l : List UInt8) (k : Nat) : 0 ≤ pd l k ∧ pd l k ≤ 1 := by
 unfold pd
 cases (l.getD k 0 == 1) <;> simp
def rowsP (l : List UInt8) (a b y x : Nat) : List Int := (List.range b).map fun j => if j < y then rc l a j a else if j = y then rc l a j x else 0
def colsP (l : List UInt8) (a y x : Nat) : List Int := (List.range a).map fun i => if i < x then cc l a i (y + 1) else cc l a i y
def rowsL (l : List UInt8) (a b : Nat) : List Int := (List.range b).map fun j => rc l a j a
def colsL (l : List UInt8) (a b : Nat) : List Int := (List.range a).map fun i => cc l a i b
theorem rowsP_length (l : List UInt8) (a b y x : Nat) : (rowsP l a b y x).length = b := by simp [rowsP]
theorem colsP_length (l : List UInt8) (a y x : Nat) : (colsP l a y x).length = a := by simp [colsP]
theorem rowsP_zero (l : List UInt8) (a b : Nat) : rowsP l a b 0 0 = List.replicate b 0 := by
 refine list_eqA 0 (by rw [rowsP_length, List.length_replicate]) fun t ht => ?_
 rw [rowsP_length] at ht
 rw [rowsP, getD_mapA ht, if_neg (by omega)]
 have : rc l a t 0 = 0 := rfl
 rw [this]
 simp [ht]
theorem colsP_zero (l : List UInt8) (a : Nat) : colsP l a 0 0 = List.replicate a 0 := by
 refine list_eqA 0 (by rw [colsP_length, List.length_replicate]) fun t ht => ?_
 rw [colsP_length] at ht
 rw [colsP, getD_mapA ht, if_neg (by omega)]
 have : cc l a t 0 = 0 := rfl
 rw [this]
 simp [ht]
theorem rowsP_next (l : List UInt8) (a b y : Nat) : rowsP l a b y a = rowsP l a b (y + 1) 0 := by
 refine list_eqA 0 (by rw [rowsP_length, rowsP_length]) fun t ht => ?_
 rw [rowsP_length] at ht
 rw [rowsP, rowsP, getD_mapA ht, getD_mapA ht]
 by_cases h1 : t < y
 ·rw [if_pos h1, if_pos (by omega)]
 ·rw [if_neg h1]
  by_cases h2 : t = y
  ·rw [if_pos h2, if_pos (by omega)]
  ·rw [if_neg h2, if_neg (by omega)]
   by_cases h3 : t = y + 1
   ·rw [if_pos h3]; rfl
   ·rw [if_neg h3]
theorem colsP_next (l : List UInt8) (a y : Nat) : colsP l a y a = colsP l a (y + 1) 0 := by
 refine list_eqA 0 (by rw [colsP_length, colsP_length]) fun t ht => ?_
 rw [colsP_length] at ht
 rw [colsP, colsP, getD_mapA ht, getD_mapA ht, if_pos ht, if_neg (by omega)]
theorem rowsP_all (l : List UInt8) (a b : Nat) : rowsP l a b b 0 = rowsL l a b := by
 refine list_eqA 0 (by simp [rowsP_length, rowsL]) fun t ht => ?_
 rw [rowsP_length] at ht
 rw [rowsP, rowsL, getD_mapA ht, getD_mapA ht, if_pos ht]
theorem colsP_all (l : List UInt8) (a b : Nat) : colsP l a b 0 = colsL l a b := by
 refine list_eqA 0 (by simp [colsP_length, colsL]) fun t ht => ?_
 rw [colsP_length] at ht
 rw [colsP, colsL, getD_mapA ht, getD_mapA ht, if_neg (by omega)]
theorem rowsP_get {l : List UInt8} {a b y x : Nat} (hy : y < b) : (rowsP l a b y x)[y]'(by rw [rowsP_length]; exact hy) = rc l a y x := by
 simp [rowsP]
theorem colsP_get {l : List UInt8} {a y x : Nat} (hx : x < a) : (colsP l a y x)[x]'(by rw [colsP_length]; exact hx) = cc l a x y := by
 simp [colsP]
theorem rowsP_set {l : List UInt8} {a b y x : Nat} : (rowsP l a b y x).set y (rc l a y x + pd l (y * a + x)) = rowsP l a b y (x + 1) := by
 refine list_eqA 0 (by rw [List.length_set, rowsP_length, rowsP_length]) fun t ht => ?_
 rw [List.length_set, rowsP_length] at ht
 rw [List.getD_eq_getElem?_getD, List.getElem?_set, rowsP_length, rowsP, rowsP, getD_mapA ht]
 by_cases h1 : y = t
 ·subst h1
  rw [if_pos rfl, if_pos ht, if_neg (by omega), if_pos rfl, rc_succ]; rfl
 ·rw [if_neg h1, ← List.getD_eq_getElem?_getD, getD_mapA ht]
  by_cases h2 : t < y
  ·rw [if_pos h2, if_pos h2]
  ·rw [if_neg h2, if_neg h2, if_neg (fun e => h1 e.symm), if_neg (fun e => h1 e.symm)]
theorem colsP_set {l : List UInt8} {a y x : Nat} : (colsP l a y x).set x (cc l a x y + pd l (y * a + x)) = colsP l a y (x + 1) := by
 refine list_eqA 0 (by rw [List.length_set, colsP_length, colsP_length]) fun t ht => ?_
 rw [List.length_set, colsP_length] at ht
 rw [List.getD_eq_getElem?_getD, List.getElem?_set, colsP_length, colsP, colsP, getD_mapA ht]
 by_cases h1 : x = t
 ·subst h1
  rw [if_pos rfl, if_pos ht, if_pos (by omega), cc_succ]; rfl
 ·rw [if_neg h1, ← List.getD_eq_getElem?_getD, getD_mapA ht]
  by_cases h2 : t < x
  ·rw [if_pos h2, if_pos (by omega)]
  ·rw [if_neg h2, if_neg (by omega)]
theorem sum_set {L : List Int} {i : Nat} {d : Int} (h : i < L.length) : (L.set i (L[i] + d)).sum = L.sum + d := by
 induction L generalizing i with
 | nil => simp at h
 | cons x L ih =>
  cases i with
  | zero => simp; omega
  | succ i =>
   simp only [List.set_cons_succ, List.sum_cons, List.getElem_cons_succ]
   rw [ih (by simpa using h)]; omega
def cnt (l : List UInt8) (k : Nat) : Int := ((l.take k).count 1 : Nat)
theorem cnt_succ {l : List UInt8} {k : Nat} (h : k < l.length) : cnt l (k + 1) = cnt l k + pd l k := by
 unfold cnt pd
 rw [List.take_succ_eq_append_getElem h, List.count_append, List.count_singleton]
 have : l.getD k 0 = l[k] := by simp [h]
 rw [this]
 cases (l[k] == 1) <;> simp
theorem sums {l : List UInt8} {a b : Nat} (hl : l.length = a * b) : ∀ y, y ≤ b → (rowsP l a b y 0).sum = cnt l (y * a) ∧ (colsP l a y 0).sum = cnt l (y * a)
 | 0, _ => by
  rw [rowsP_zero, colsP_zero]
  simp [cnt, List.sum_replicate_int]
 | y + 1, hy => by
  have hr := row_le (a := a) (b := b) (y := y) (by omega)
  have key : ∀ x, x ≤ a → (rowsP l a b y x).sum = cnt l (y * a + x) ∧ (colsP l a y x).sum = cnt l (y * a + x) := by
   intro x
   induction x with
   | zero => intro _; exact sums hl y (by omega)
   | succ x ih =>
    intro hx
    obtain ⟨h1, h2⟩ := ih (by omega)
    have e1 := cnt_succ (l := l) (k := y * a + x) (by omega)
    rw [show y * a + (x + 1) = y * a + x + 1 by omega, e1, ← h1]
    constructor
    ·rw [← rowsP_set, ← rowsP_get (l := l) (a := a) (b := b) (y := y) (x := x) (by omega), sum_set]
    ·rw [← colsP_set, ← colsP_get (l := l) (a := a) (y := y) (x := x) (by omega), sum_set, h2, h1]
  obtain ⟨h1, h2⟩ := key a (Nat.le_refl _)
  rw [← rowsP_next, ← colsP_next, Nat.add_mul, Nat.one_mul]
  exact ⟨h1, h2⟩
theorem rows_sum {l : List UInt8} {a b : Nat} (hl : l.length = a * b) : (rowsL l a b).sum = (l.count 1 : Nat) ∧ (colsL l a b).sum = (l.count 1 : Nat) := by
 have h := sums hl b (Nat.le_refl _)
 rw [rowsP_all, colsP_all] at h
 have e : cnt l (b * a) = (l.count 1 : Nat) := by unfold cnt; rw [Nat.mul_comm, ← hl, List.take_length]
 rw [e] at h
 exact h
def extS (st : Int × Int) (i : Nat) (v : Int) : Int × Int := if v > 0 then (if st.2 = 0 then ((i : Int), 1) else (st.1, i + 1 - st.1)) else st
def extF (p : List Int) : Nat → Int × Int
 | 0 => (0, 0)
 | k + 1 => extS (extF p k) k (p.getD k 0)
def extL (p : List Int) : Int × Int := extF p p.length
theorem ext_char (p : List Int) (k : Nat) : ((∀ i, i < k → ¬ p.getD i 0 > 0) ∧ extF p k = (0, 0)) ∨ ∃ f g : Nat, f ≤ g ∧ g < k ∧ p.getD f 0 > 0 ∧ p.getD g 0 > 0 ∧ (∀ i, i < f → ¬ p.getD i 0 > 0) ∧ (∀ i, g < i → i < k → ¬ p.getD i 0 > 0) ∧ extF p k = ((f : Int), (g : Int) + 1 - f) := by
 induction k with
 | zero => exact Or.inl ⟨fun i hi => by omega, rfl⟩
 | succ k ih =>
  simp only [extF, extS]
  by_cases hp : p.getD k 0 > 0
  ·rw [if_pos hp]
   right
   rcases ih with ⟨h1, h2⟩ | ⟨f, g, h1, h2, h3, h4, h5, h6, h7⟩
   ·rw [h2, if_pos rfl]
    exact ⟨k, k, Nat.le_refl _, by omega, hp, hp, h1, fun i h3 h4 => by omega, by simp; omega⟩
   ·rw [h7, if_neg (by simp only; omega)]
    exact ⟨f, k, by omega, by omega, h3, hp, h5, fun i h8 h9 => by omega, rfl⟩
  ·rw [if_neg hp]
   rcases ih with ⟨h1, h2⟩ | ⟨f, g, h1, h2, h3, h4, h5, h6, h7⟩
   ·left
    refine ⟨fun i hi => ?_, h2⟩
    by_cases hik : i = k
    ·subst hik; exact hp
    ·exact h1 i (by omega)
   ·right
    refine ⟨f, g, h1, by omega, h3, h4, h5, fun i h8 h9 => ?_, h7⟩
    by_cases hik : i = k
    ·subst hik; exact hp
    ·exact h6 i h8 (by omega)
theorem sum_pos {p : List Int} (h : ∀ i, 0 ≤ p.getD i 0) : (p.sum > 0 ↔ ∃ i, i < p.length ∧ p.getD i 0 > 0) ∧ 0 ≤ p.sum := by
 induction p with
 | nil => simp
 | cons x p ih =>
  have h0 : 0 ≤ x := by simpa using h 0
  have hi := ih (fun i => by simpa using h (i + 1))
  rw [List.sum_cons]
  refine ⟨⟨fun q => ?_, ?_⟩, by have := hi.2; omega⟩
  ·by_cases hx : x > 0
   ·exact ⟨0, by simp, by simpa using hx⟩
   ·obtain ⟨i, h1, h2⟩ := hi.1.1 (by omega)
    exact ⟨i + 1, by simp; omega, by simpa using h2⟩
  ·rintro ⟨i, h1, h2⟩
   cases i with
   | zero =>
    have : x > 0 := by simpa using h2
    have := hi.2
    omega
   | succ i =>
    have := hi.1.2 ⟨i, by simpa using h1, by simpa using h2⟩
    omega
theorem ext_pos {p : List Int} (h : ∀ i, 0 ≤ p.getD i 0) : (extL p).2 > 0 ↔ p.sum > 0 := by
 rw [(sum_pos h).1]
 unfold extL
 rcases ext_char p p.length with ⟨h1, h2⟩ | ⟨f, g, h1, h2, h3, h4, h5, h6, h7⟩
 ·rw [h2]
  constructor
  ·intro q; exact absurd q (by decide)
  ·rintro ⟨i, h3, h4⟩; exact absurd h4 (h1 i h3)
 ·rw [h7]
  constructor
  ·intro _; exact ⟨f, by omega, h3⟩
  ·intro _; simp only; omega
end Go.Am
namespace Go.Am
open Go
attribute [local irreducible] Wp WpO WpX WpE
abbrev aroundCs : List AVal := [.int .i64 0, .int .i64 (-1), .int .i64 1, .int .i64 (-1), .int .i64 1, .int .i64 0, .int .i64 1, .int .i64 1, .int .i64 0, .int .i64 1, .int .i64 (-1), .int .i64 1, .int .i64 (-1), .int .i64 0, .int .i64 (-1), .int .i64 (-1)]
class Tabs (H : AHeap) : Prop where
 it : tablesIn aroundT H = true
theorem tabs_iff {H : AHeap} : tablesIn aroundT H = true ↔ 1 < H.n ∧ ∃ rw e, H.get 1 = .row aroundCs rw e := by
 simp only [tablesIn, aroundT, List.all_cons, List.all_nil, Bool.and_true, Bool.and_eq_true]
 constructor
 ·rintro ⟨h1, h2⟩
  refine ⟨by simpa using h1, ?_⟩
  cases hg : H.get 1 with
  | row cs rw e => rw [hg] at h2; exact ⟨rw, e, by rw [abeqL_eq h2]⟩
  | _ => rw [hg] at h2; cases h2
 ·rintro ⟨h1, rw, e, hg⟩
  exact ⟨by simpa using h1, by rw [hg]; exact abeqL_refl _⟩
theorem Tabs.keep {H H' : AHeap} (h : Tabs H) (hn : H.n ≤ H'.n) (hg : H'.get 1 = H.get 1) : Tabs H' := by
 obtain ⟨h1, rw, e, h2⟩ := tabs_iff.1 h.it
 exact ⟨tabs_iff.2 ⟨by omega, rw, e, by rw [hg]; exact h2⟩⟩
theorem Tabs.lt {H : AHeap} (h : Tabs H) : 1 < H.n := (tabs_iff.1 h.it).1
theorem Tabs.ext {H H' : AHeap} (h : Tabs H) (x : Ext H H') : Tabs H' := h.keep x.n (x.get 1 h.lt)
class NeZ (s : Nat) : Prop where
 ne : s ≠ 1
instance {K : AHeap} [h : Tabs K] : NeZ K.n := ⟨by have := h.lt; omega⟩
instance {K : AHeap} {s : Nat} [g : GeN K s] [h : Tabs K] : NeZ s := ⟨by have := h.lt; have := g.ge; omega⟩
instance {H H' : AHeap} [x : ExtI H H'] [h : Tabs H] : Tabs H' := h.ext x.ext
instance {H : AHeap} {o : AObj} [h : Tabs H] : Tabs (H.push o) := h.ext ((Ext.refl H).push o)
instance {H : AHeap} {s : Nat} {o : AObj} [h : Tabs H] [z : NeZ s] : Tabs (H.set s o) := h.keep (Nat.le_refl _) (set_get_ne (fun e => z.ne e.symm))
instance {K H H' : AHeap} {p : AVal} [x : ExtP H H' p] [h : Tabs H] [f : FreshS K p] [k : Tabs K] : Tabs H' := h.keep x.n (x.get 1 h.lt ⟨fun r _ _ _ _ e => by have := f.ge _ _ _ _ _ e; have := k.lt; omega⟩)
end Go.Am
namespace Go.Am
open Go
attribute [local irreducible] Wp WpO WpX WpE
theorem made_mkI {fr : AFrame} {e : TypeId} {x y : ROpd} {k k' : IntKind} {a : Nat} (hx : x.ev fr = .int k a) (hy : y.ev fr = .int k' a) (h0 : a ≤ 2 ^ 40) : (ROp.makeSlice e [.int .i64 0] 8 x y).made fr = some (cellsI (List.replicate a 0), e, fun r => .slice r 0 a (some a) 1) := by
 rw [← mk_ints]; exact made_mk hx hy (by omega)
end Go.Am
namespace Go.Am
open Go
attribute [local irreducible] Wp WpO WpX WpE
def ProfRes (H H' : AHeap) (v : AVal) (r c : List Int) (e : Int) : Prop := ∃ p q, v = .tuple [p, q, .int .i64 e] ∧ NewInts H H' p r ∧ NewInts H H' q c
theorem wpd {l : List UInt8} (h : pxOk l = true) {k : Nat} (hk : k < l.length) : IntKind.i64.wrap ((l[k].toNat : Nat) : Int) = pd l k := by
 rw [wu8]
 unfold pd
 have e : l.getD k 0 = l[k] := by simp [hk]
 rcases px_get h hk with h1 | h1 <;> (rw [e] at h1 ⊢; rw [h1]; rfl)
theorem K_Profile {a b : Nat} {p : AVal} {H : AHeap} {l : List UInt8} [hp : BytesI H p l] (ok : Ok a b l) : Con ext prog 4 74 [.agg [.int .i64 a, .int .i64 b, p]] H fun v H' => ProfRes H H' v (rowsL l a b) (colsL l a b) 0 := by
 refine con_of (show prog 74 = some c74 from rfl) rfl rfl fun n hn => ?_
 haveI := hp.one
 have hwa := ok.wa
 have hhb := ok.hb
 have hm : a * b ≤ 640 * 640 := Nat.mul_le_mul ok.wa ok.hb
 have hl := ok.len
 have he := ok.err
 repeat first
  | refine mI ?_
  | refine mN ?_
  | (refine Fo.ldN rfl rfl (by simp only [↓nrmL, nrmZ, Nat.reduceEqDiff, ↓reduceIte, Nat.reduceAdd, Int.reduceBEq, Int.reduceBNe, he]; rfl) ?_)
  | (refine bn rfl rfl rfl (by simp only [↓nrmL, nrmZ, Nat.reduceEqDiff, ↓reduceIte, Nat.reduceAdd, Int.reduceBEq, Int.reduceBNe, he]; rfl) ?_)
  | (refine Fo.pcall (v' := ?_) hn rfl (by simp only [↓nrmL, nrmZ, Nat.reduceEqDiff, ↓reduceIte, Nat.reduceAdd, Int.reduceBEq, Int.reduceBNe, he, List.map]; rfl) rfl ?hv fun _ _ => ?_; case hv => (simp only [he]; rfl))
  | refine bA ?_
  | refine nl hKF ?_
  | refine sq ?_
  | refine rg fun KF hKF => ?_
  | refine cf rfl ?_
  | refine sk ?_
 rename_i H1 hx1
 have f1 := mk_facts (H := H1) (e := 2 * 3) (mk_ints b)
 have f2 := mk_facts (H := H1.push (.row (cellsI (List.replicate b 0)) true (2 * 3))) (e := 2 * 3) (mk_ints a)
 obtain ⟨q1, hq1⟩ : ∃ q : AVal, AVal.slice H1.n 0 b (some b) 1 = q := ⟨_, rfl⟩
 obtain ⟨q2, hq2⟩ : ∃ q : AVal, AVal.slice ((H1.push (.row (cellsI (List.replicate b 0)) true (2 * 3))).n) 0 a (some a) 1 = q := ⟨_, rfl⟩
 rw [hq1] at f1
 rw [hq2] at f2
 obtain ⟨m1, fr1, w1⟩ := f1
 obtain ⟨m2, fr2, w2⟩ := f2
 refine Fr.dregionE [.row (cellsI (List.replicate b 0)) true (2 * 3), .row (cellsI (List.replicate a 0)) true (2 * 3)] ?_ fun KF hKF => ?_
 ·skip
  refine oracle_pre rfl rfl rfl rfl ?_; (try simp only [↓nrmL, nrmZ, Nat.reduceEqDiff, ↓reduceIte, Nat.reduceAdd, Int.reduceBEq, Int.reduceBNe])
  refine oracle_pre rfl rfl rfl (exec_ld rfl rfl) ?_; (try simp only [↓nrmL, nrmZ, Nat.reduceEqDiff, ↓reduceIte, Nat.reduceAdd, Int.reduceBEq, Int.reduceBNe])
  refine oracle_made rfl rfl (made_mkI rfl rfl (by omega)) ?_
  refine oracle_pre rfl rfl rfl rfl ?_; (try simp only [↓nrmL, nrmZ, Nat.reduceEqDiff, ↓reduceIte, Nat.reduceAdd, Int.reduceBEq, Int.reduceBNe])
  refine oracle_pre rfl rfl rfl (exec_ld rfl rfl) ?_; (try simp only [↓nrmL, nrmZ, Nat.reduceEqDiff, ↓reduceIte, Nat.reduceAdd, Int.reduceBEq, Int.reduceBNe])
  refine oracle_made rfl rfl (made_mkI rfl rfl (by omega)) ?_
  exact oracle_none _ _ _ _ rfl
 simp only [pushAll]
 haveI := m1.one
 haveI := m2.one
 have i1 : IntsI (H1.push (.row (cellsI (List.replicate b 0)) true (2 * 3))) q1 (List.replicate b 0) := by
  unfold IntsI; rw [List.length_replicate]; exact m1
 have i2 : IntsI ((H1.push (.row (cellsI (List.replicate b 0)) true (2 * 3))).push (.row (cellsI (List.replicate a 0)) true (2 * 3))) q2 (List.replicate a 0) := by
  unfold IntsI; rw [List.length_replicate]; exact m2
 clear m1 m2
 refine Fe.pure rfl rfl (by simp only [↓nrmL, nrmZ, Nat.reduceEqDiff, ↓reduceIte, Nat.reduceAdd, Int.reduceBEq, Int.reduceBNe]; rfl) ?_
 refine Er rfl (exec_ld rfl rfl) rfl ?_
 refine Fe.made rfl (made_mkI rfl rfl (by omega)) ghost_of trivial hq1 ?_
 change WpE _ _ (AHeap.n (AHeap.push _ (.row (cellsI (List.replicate b 0)) true (2 * 3)))) _ _ _ _ _ _ _
 refine Fe.pure rfl rfl (by simp only [↓nrmL, nrmZ, Nat.reduceEqDiff, ↓reduceIte, Nat.reduceAdd, Int.reduceBEq, Int.reduceBNe]; rfl) ?_
 refine Er rfl (exec_ld rfl rfl) rfl ?_
 refine Fe.made rfl (made_mkI rfl rfl (by omega)) ghost_of trivial hq2 ?_
 refine Fe.pure rfl rfl (by simp only [↓nrmL, nrmZ, Nat.reduceEqDiff, ↓reduceIte, Nat.reduceAdd, Int.reduceBEq, Int.reduceBNe]; rfl) ?_
 refine Fe.pure rfl rfl (by simp only [↓nrmL, nrmZ, Nat.reduceEqDiff, ↓reduceIte, Nat.reduceAdd, Int.reduceBEq, Int.reduceBNe]; rfl) ?_
 refine WpE.nil (hKF _ _ ?_)
 refine sq ?_
 refine sq ?_
 refine rg fun KF hKF => ?_
 refine fd ?_
 refine Fo.ld rfl rfl ?_
 refine mI ?_
 refine nl hKF ?_
 refine Wp.block ?_
 dsimp only [cond_true, cond_false]
 refine Wp.loopS [6,7,8,22,23,24,25,26,27,28,29,30,31,32,33,34,35,36,37,38,39,40,41,42,43,44,45,46,47,48,49,50,51] (fun y : Nat => [(22, .int .i64 y)]) (fun _ y H2 => y ≤ b ∧ IntsI H2 q1 (rowsP l a b y 0) ∧ WrS H2 q1 ∧ IntsI H2 q2 (colsP l a y 0) ∧ WrS H2 q2 ∧ Ext H1 H2) (fun y => b - y) 0 rfl (fun _ => rfl) ⟨rfl, trivial⟩ ⟨Nat.zero_le _, by rw [rowsP_zero]; infer_instance, inferInstance, by rw [colsP_zero]; infer_instance, inferInstance, Ext0.ext⟩ (by unfold fuel0 at hn; omega) ?_
 rintro y g H2 ⟨hy, hr2, hrw2, hc2, hcw2, hxe⟩
 haveI : ExtI H1 H2 := ⟨hxe⟩
 simp only [↓nrmL, nrmZ, Nat.reduceEqDiff, ↓reduceIte, Nat.reduceAdd, Int.reduceBEq, Int.reduceBNe]
 cases hc : decide ((y : Int) < (b : Int))
 ·have hyb : y = b := by have := of_decide_eq_false hc; omega
  subst hyb
  rw [rowsP_all] at hr2
  rw [colsP_all] at hc2
  repeat first
   | refine mI ?_
   | (refine mv ?_)
   | (refine bn rfl rfl rfl (by simp only [hc]; rfl) ?_)
   | refine nl hKF ?_
   | refine sq ?_
   | refine rg fun KF hKF => ?_
   | refine cf rfl ?_
   | refine rt ?_
   | refine xi ?_
   | dsimp only [cond_true, cond_false]
  refine rz trivial ?_
  exact ⟨q1, q2, rfl, ⟨inferInstance, fr1.weak, inferInstance, Ext0.ext⟩, ⟨inferInstance, fr2.weak, inferInstance, Ext0.ext⟩⟩
 ·have hyb : y < b := by have := of_decide_eq_true hc; omega
  have hw1 := wa1 (a := y) (by omega)
  have hrl := row_le (a := a) hyb
  repeat first
   | refine mI ?_
   | (refine Fo.ldN rfl rfl (by simp only [↓nrmL, nrmZ, Nat.reduceEqDiff, ↓reduceIte, Nat.reduceAdd, Int.reduceBEq, Int.reduceBNe, hc]; rfl) ?_)
   | (refine bn rfl rfl rfl (by simp only [hc]; rfl) ?_)
   | refine nl hKF ?_
   | refine sq ?_
   | refine rg fun KF hKF => ?_
   | refine ct rfl ?_
   | refine sk ?_
   | refine Wp.block ?_
  refine WpO.do (WpX.conD hn rfl rfl (by simp only [↓nrmL, nrmZ, Nat.reduceEqDiff, ↓reduceIte, Nat.reduceAdd, Int.reduceBEq, Int.reduceBNe, List.map] <;> rfl) (K_line (l := l) hl hyb hm hhb) fun v H4 h5 => ?_)
  obtain ⟨hv1, hv2, hx4⟩ := h5
  haveI : ExtI _ H4 := ⟨hx4⟩
  haveI := hv1.one
  refine Fo.lenV (u := ?_) (by simp only [↓nrmL, nrmK, Nat.reduceEqDiff, ↓reduceIte]; rfl) ?hv ?_; case hv => rfl
  refine mI ?_
  refine nl hKF ?_
  refine Wp.block ?_
  dsimp only [cond_true, cond_false]
  refine Wp.loopS [7,8,29,30,31,32,33,34,35,36,37,38,39,40,41,42,43,44,45,46,47,48,49,50] (fun x : Nat => [(29, .int .i64 x)]) (fun _ x H5 => x ≤ a ∧ IntsI H5 q1 (rowsP l a b y x) ∧ WrS H5 q1 ∧ IntsI H5 q2 (colsP l a y x) ∧ WrS H5 q2 ∧ Ext H1 H5) (fun x => a - x) 0 rfl (fun _ => rfl) ⟨rfl, trivial⟩ ⟨Nat.zero_le _, inferInstance, inferInstance, inferInstance, inferInstance, Ext0.ext⟩ (by unfold fuel0 at hn; omega) ?_
  rintro x g2 H5 ⟨hx0, hr5, hrw5, hc5, hcw5, hxe5⟩
  haveI : ExtI H1 H5 := ⟨hxe5⟩
  simp only [↓nrmL, nrmZ, Nat.reduceEqDiff, ↓reduceIte, Nat.reduceAdd, Int.reduceBEq, Int.reduceBNe]
  cases hc2' : decide ((x : Int) < (a : Int))
  ·have hxa : x = a := by have := of_decide_eq_false hc2'; omega
   subst hxa
   rw [rowsP_next] at hr5
   rw [colsP_next] at hc5
   repeat first
    | refine mI ?_
    | (refine bn rfl rfl rfl (by simp only [hc2']; rfl) ?_)
    | refine b0 ?_
    | refine nl hKF ?_
    | refine sq ?_
    | refine rg fun KF hKF => ?_
    | refine cf rfl ?_
    | refine xi ?_
    | dsimp only [cond_true, cond_false]
   refine ⟨y + 1, by omega, ⟨by simp only [↓nrmL, nrmZ, Nat.reduceEqDiff, ↓reduceIte, Nat.reduceAdd, Int.reduceBEq, Int.reduceBNe]; rw [hw1], trivial⟩, hyb, inferInstance, inferInstance, inferInstance, inferInstance, Ext0.ext⟩
  ·have hxa : x < a := by have := of_decide_eq_true hc2'; omega
   have hlt := idx_lt hxa hyb
   have hil : y * a + x < l.length := by omega
   have hw3 := wa1 (a := x) (by omega)
   have hpd := wpd ok.px hil
   have hrlen := rowsP_length l a b y x
   have hclen := colsP_length l a y x
   have hrg := rowsP_get (l := l) (a := a) (b := b) (y := y) (x := x) hyb
   have hcg := colsP_get (l := l) (a := a) (y := y) (x := x) hxa
   have b1 := rc_bd l a y x
   have b2 := cc_bd l a x y
   have b3 := pd_bd l (y * a + x)
   have hs1 : IntKind.i64.wrap (rc l a y x + pd l (y * a + x)) = rc l a y x + pd l (y * a + x) := w64 (by omega)
   have hs2 : IntKind.i64.wrap (cc l a x y + pd l (y * a + x)) = cc l a x y + pd l (y * a + x) := w64 (by omega)
   repeat first
    | refine mI ?_
    | (refine mv ?_)
    | (refine bn rfl rfl rfl (by simp only [hc2', hpd, hrg, hs1]; rfl) ?_)
    | (refine Fo.idxV (by simp only [↓nrmL, nrmK, Nat.reduceEqDiff, ↓reduceIte]; rfl) rfl ?_ (by simp only [↓nrmL, nrmZ, Nat.reduceEqDiff, ↓reduceIte, Nat.reduceAdd, Int.reduceBEq, Int.reduceBNe, hc2', hpd, hrg, hs1]; rfl) ?_; (focus omega))
    | (refine Fo.idx (by simp only [↓nrmL, nrmK, Nat.reduceEqDiff, ↓reduceIte]; rfl) rfl ?_ (by simp only [↓nrmL, nrmZ, Nat.reduceEqDiff, ↓reduceIte, Nat.reduceAdd, Int.reduceBEq, Int.reduceBNe, hc2', hpd, hrg, hs1]; rfl) ?_; (focus omega))
    | (refine Fo.ldB rfl ?_ rfl ?_; (focus omega))
    | (refine Fo.ldI rfl ?_ (by simp only [hc2', hpd, hrg, hs1]; rfl) ?_; (focus omega))
    | (refine Fo.now rfl rfl (by simp only [hc2', hpd, hrg, hs1]; rfl) ?_)
    | refine nl hKF ?_
    | refine sq ?_
    | refine rg fun KF hKF => ?_
    | refine ct rfl ?_
    | refine sk ?_
    | refine Wp.block ?_
   refine WpO.do' (WpX.stI (l := rowsP l a b y x) rfl rfl (by omega) fun H6 hb6 hw6 hx6 => ?_)
   rw [rowsP_set] at hb6
   repeat first
    | refine mI ?_
    | (refine mv ?_)
    | (refine bn rfl rfl rfl (by simp only [hpd, hcg, hs2]; rfl) ?_)
    | (refine Fo.idx (by simp only [↓nrmL, nrmK, Nat.reduceEqDiff, ↓reduceIte]; rfl) rfl ?_ (by simp only [↓nrmL, nrmZ, Nat.reduceEqDiff, ↓reduceIte, Nat.reduceAdd, Int.reduceBEq, Int.reduceBNe, hpd, hcg, hs2]; rfl) ?_; (focus omega))
    | (refine Fo.ldI rfl ?_ (by simp only [hpd, hcg, hs2]; rfl) ?_; (focus omega))
    | (refine Fo.now rfl rfl (by simp only [hpd, hcg, hs2]; rfl) ?_)
    | refine nl hKF ?_
    | refine rg fun KF hKF => ?_
   refine WpO.do' (WpX.stI (l := colsP l a y x) rfl rfl (by omega) fun H7 hb7 hw7 hx7 => ?_)
   rw [colsP_set] at hb7
   refine nl hKF ?_
   refine rg fun KF hKF => ?_
   refine b0 ?_
   refine mI ?_
   refine nl hKF ?_
   dsimp only [cond_true, cond_false]
   refine ⟨x + 1, by omega, ⟨by simp only [↓nrmL, nrmZ, Nat.reduceEqDiff, ↓reduceIte, Nat.reduceAdd, Int.reduceBEq, Int.reduceBNe]; rw [hw3], trivial⟩, hxa, inferInstance, inferInstance, hb7, hw7, Ext0.ext⟩
end Go.Am
namespace Go.Am
open Go
attribute [local irreducible] Wp WpO WpX WpE
theorem K_ProfileE {w h : Int} {p : AVal} {H : AHeap} {l : List UInt8} [hp : BytesI H p l] (h0 : (Img.err ⟨w, h, l⟩ == 0) = false) : Con ext prog 4 74 [.agg [.int .i64 w, .int .i64 h, p]] H fun v H' => v = .tuple [.nslice, .nslice, .int .i64 (Img.err ⟨w, h, l⟩)] ∧ Ext H H' := by
 refine con_of (show prog 74 = some c74 from rfl) rfl rfl fun n hn => ?_
 haveI := hp.one
 repeat first
  | refine mI ?_
  | refine mN ?_
  | (refine Fo.ldN rfl rfl (by simp only [↓nrmL, nrmZ, Nat.reduceEqDiff, ↓reduceIte, h0, bne]; rfl) ?_)
  | (refine bn rfl rfl rfl (by simp only [h0, bne]; rfl) ?_)
  | (refine Fo.pcall (v' := ?_) hn rfl (by simp only [↓nrmL, nrmZ, Nat.reduceEqDiff, ↓reduceIte, h0, bne, List.map]; rfl) rfl ?hv fun _ _ => ?_; case hv => rfl)
  | refine bA ?_
  | refine nl hKF ?_
  | refine sq ?_
  | refine rg fun KF hKF => ?_
  | refine ct rfl ?_
  | refine rt ?_
 refine rz trivial ?_
 exact ⟨rfl, Ext0.ext⟩
def isFull (l : List UInt8) (a y : Nat) : Bool := (rc l a y a == (a : Int)) && decide (rc l a y a > 0)
def fullN (l : List UInt8) (a : Nat) : Nat → Nat
 | 0 => 0
 | y + 1 => bif isFull l a y then fullN l a y + 1 else fullN l a y
theorem fullN_le (l : List UInt8) (a : Nat) : ∀ y, fullN l a y ≤ y
 | 0 => Nat.le_refl _
 | y + 1 => by
  have := fullN_le l a y
  simp only [fullN]
  cases isFull l a y <;> simp <;> omega
def fullS (g : Img) : Int × Int := bif g.err == 0 then ((fullN g.px g.w.toNat g.h.toNat : Int), 0) else (0, g.err)
instance K_Full {w h : Int} {p : AVal} {H : AHeap} {l : List UInt8} [hp : BytesI H p l] : PureCon ext prog 66 [.agg [.int .i64 w, .int .i64 h, p]] H 5 (.tuple [.int .i64 (fullS ⟨w, h, l⟩).1, .int .i64 (fullS ⟨w, h, l⟩).2]) := ⟨by
 refine con_of (show prog 66 = some c66 from rfl) rfl rfl fun n hn => ?_
 haveI := hp.one
 cases h0 : (Img.err ⟨w, h, l⟩ == 0)
 ·have e1 : fullS ⟨w, h, l⟩ = (0, Img.err ⟨w, h, l⟩) := by simp only [fullS, h0, cond_false]
  rw [e1]
  repeat first
   | refine mI ?_
   | (refine Fo.ldN rfl rfl (by simp only [↓nrmL, nrmZ, Nat.reduceEqDiff, ↓reduceIte, Nat.reduceAdd, Int.reduceBEq, Int.reduceBNe]; rfl) ?_)
   | refine bA ?_
   | refine nl hKF ?_
   | refine sq ?_
   | refine rg fun KF hKF => ?_
  refine WpO.do (WpX.conD hn rfl rfl (by simp only [↓nrmL, nrmZ, Nat.reduceEqDiff, ↓reduceIte, Nat.reduceAdd, Int.reduceBEq, Int.reduceBNe, List.map] <;> rfl) (K_ProfileE h0) fun v H1 h5 => ?_)
  obtain ⟨rfl, hx1⟩ := h5
  haveI : ExtI _ H1 := ⟨hx1⟩
  repeat first
   | refine mI ?_
   | refine mT ?_
   | refine mN ?_
   | (refine bn rfl rfl rfl (by simp only [h0, bne]; rfl) ?_)
   | refine xt ?_
   | refine nl hKF ?_
   | refine sq ?_
   | refine rg fun KF hKF => ?_
   | refine ct rfl ?_
   | refine rt ?_
   | dsimp only [cond_true, cond_false]
  refine rz trivial ?_
  exact ⟨rfl, Ext0.ext⟩
 obtain ⟨a, b, rfl, rfl, ok⟩ := ok_of h0
 have e1 : fullS ⟨a, b, l⟩ = ((fullN l a b : Int), 0) := by simp only [fullS, h0, cond_true, Int.toNat_natCast]
 rw [e1]
 have hb := ok.hb
 repeat first
  | refine mI ?_
  | (refine Fo.ldN rfl rfl (by simp only [↓nrmL, nrmZ, Nat.reduceEqDiff, ↓reduceIte, Nat.reduceAdd, Int.reduceBEq, Int.reduceBNe]; rfl) ?_)
  | refine bA ?_
  | refine nl hKF ?_
  | refine sq ?_
  | refine rg fun KF hKF => ?_
 refine WpO.do (WpX.conD hn rfl rfl (by simp only [↓nrmL, nrmZ, Nat.reduceEqDiff, ↓reduceIte, Nat.reduceAdd, Int.reduceBEq, Int.reduceBNe, List.map] <;> rfl) (K_Profile ok) fun v H1 h5 => ?_)
 obtain ⟨q1, q2, rfl, ⟨hq1, hf1, hw1, hx1⟩, ⟨hq2, hf2, hw2, _⟩⟩ := h5
 haveI : ExtI _ H1 := ⟨hx1⟩
 haveI := hq1.one
 haveI := hq2.one
 have hrl : (rowsL l a b).length = b := by simp [rowsL]
 repeat first
  | refine mI ?_
  | refine mT ?_
  | (refine mv ?_)
  | (refine bn rfl rfl rfl (by simp only [↓nrmL, nrmZ, Nat.reduceEqDiff, ↓reduceIte, Nat.reduceAdd, Int.reduceBEq, Int.reduceBNe]; rfl) ?_)
  | refine xt ?_
  | (refine ln (by simp only [↓nrmL, nrmK, Nat.reduceEqDiff, ↓reduceIte]; rfl) ?_)
  | refine nl hKF ?_
  | refine sq ?_
  | refine rg fun KF hKF => ?_
  | refine cf rfl ?_
  | refine sk ?_
  | refine Wp.block ?_
  | dsimp only [cond_true, cond_false]
 refine Wp.loopS [7,9,21,22,23,24,25,26,27,28,29,30,31,32,33,34,35] (fun y : Nat => [(21, .int .i64 y), (7, .int .i64 (fullN l a y : Int))]) (fun H3 y H2 => y ≤ b ∧ H2 = H3) (fun y => b - y) 0 rfl (fun _ => rfl) ⟨rfl, rfl, trivial⟩ ⟨Nat.zero_le _, rfl⟩ (by unfold fuel0 at hn; omega) ?_
 rintro y g H2 ⟨hy, rfl⟩
 simp only [↓nrmL, nrmZ, Nat.reduceEqDiff, ↓reduceIte, Nat.reduceAdd, Int.reduceBEq, Int.reduceBNe]
 cases hc : decide ((y : Int) < (((rowsL l a b).length : Nat) : Int))
 ·have hyb : y = b := by have := of_decide_eq_false hc; omega
  subst hyb
  repeat first
   | refine mI ?_
   | (refine bn rfl rfl rfl (by simp only [hc]; rfl) ?_)
   | refine nl hKF ?_
   | refine sq ?_
   | refine rg fun KF hKF => ?_
   | refine cf rfl ?_
   | refine rt ?_
   | refine xi ?_
   | dsimp only [cond_true, cond_false]
  refine rz trivial ?_
  exact ⟨rfl, Ext0.ext⟩
 ·have hyb : y < b := by have := of_decide_eq_true hc; omega
  have hw1 := wa1 (a := y) (by omega)
  have hle := fullN_le l a y
  have hw3 := wa1 (a := fullN l a y) (by omega)
  have hyl : y < (rowsL l a b).length := by omega
  have hge : (rowsL l a b)[y]'hyl = rc l a y a := by simp [rowsL]
  cases k1 : (rc l a y a == (a : Int))
  ·have e2 : fullN l a (y + 1) = fullN l a y := by simp only [fullN, isFull, k1, Bool.false_and, cond_false]
   repeat first
    | refine ox ?_
    | refine mI ?_
    | refine mB ?_
    | refine fd ?_
    | refine Fo.ld rfl rfl ?_
    | (refine bn rfl rfl rfl (by simp only [hc, hge, k1]; rfl) ?_)
    | refine b0 ?_
    | refine fB ?_
    | (refine Fo.idx (by simp only [↓nrmL, nrmK, Nat.reduceEqDiff, ↓reduceIte]; rfl) rfl ?_ (by simp only [↓nrmL, nrmZ, Nat.reduceEqDiff, ↓reduceIte, Nat.reduceAdd, Int.reduceBEq, Int.reduceBNe, hc, hge, k1]; rfl) ?_; (focus omega))
    | (refine Fo.ldI rfl ?_ (by simp only [hc, hge, k1]; rfl) ?_; (focus omega))
    | refine nl hKF ?_
    | refine sq ?_
    | refine rg fun KF hKF => ?_
    | refine ct rfl ?_
    | refine cf rfl ?_
    | refine sk ?_
    | refine Wp.block ?_
    | dsimp only [cond_true, cond_false]
   refine ⟨y + 1, by omega, ⟨by simp only [↓nrmL, nrmZ, Nat.reduceEqDiff, ↓reduceIte, Nat.reduceAdd, Int.reduceBEq, Int.reduceBNe]; rw [hw1], by simp only [↓nrmL, nrmZ, Nat.reduceEqDiff, ↓reduceIte, Nat.reduceAdd, Int.reduceBEq, Int.reduceBNe]; rw [e2], trivial⟩, hyb, rfl⟩
  cases k2 : decide (rc l a y a > 0)
  ·have e2 : fullN l a (y + 1) = fullN l a y := by simp only [fullN, isFull, k2, Bool.and_false, cond_false]
   repeat first
    | refine oy ?_
    | refine mI ?_
    | refine mB ?_
    | refine fd ?_
    | refine Fo.ld rfl rfl ?_
    | (refine bn rfl rfl rfl (by simp only [hc, hge, k1, k2]; rfl) ?_)
    | refine b0 ?_
    | refine tB ?_
    | (refine Fo.idx (by simp only [↓nrmL, nrmK, Nat.reduceEqDiff, ↓reduceIte]; rfl) rfl ?_ (by simp only [↓nrmL, nrmZ, Nat.reduceEqDiff, ↓reduceIte, Nat.reduceAdd, Int.reduceBEq, Int.reduceBNe, hc, hge, k1, k2]; rfl) ?_; (focus omega))
    | (refine Fo.ldI rfl ?_ (by simp only [hc, hge, k1, k2]; rfl) ?_; (focus omega))
    | refine nl hKF ?_
    | refine sq ?_
    | refine rg fun KF hKF => ?_
    | refine ct rfl ?_
    | refine cf rfl ?_
    | refine sk ?_
    | refine Wp.block ?_
    | dsimp only [cond_true, cond_false]
   refine ⟨y + 1, by omega, ⟨by simp only [↓nrmL, nrmZ, Nat.reduceEqDiff, ↓reduceIte, Nat.reduceAdd, Int.reduceBEq, Int.reduceBNe]; rw [hw1], by simp only [↓nrmL, nrmZ, Nat.reduceEqDiff, ↓reduceIte, Nat.reduceAdd, Int.reduceBEq, Int.reduceBNe]; rw [e2], trivial⟩, hyb, rfl⟩
  ·have e2 : fullN l a (y + 1) = fullN l a y + 1 := by simp only [fullN, isFull, k1, k2, Bool.and_self, cond_true]
   repeat first
    | refine oy ?_
    | refine mI ?_
    | refine mB ?_
    | refine fd ?_
    | refine Fo.ld rfl rfl ?_
    | (refine bn rfl rfl rfl (by simp only [hc, hge, k1, k2]; rfl) ?_)
    | refine b0 ?_
    | refine tB ?_
    | (refine Fo.idx (by simp only [↓nrmL, nrmK, Nat.reduceEqDiff, ↓reduceIte]; rfl) rfl ?_ (by simp only [↓nrmL, nrmZ, Nat.reduceEqDiff, ↓reduceIte, Nat.reduceAdd, Int.reduceBEq, Int.reduceBNe, hc, hge, k1, k2]; rfl) ?_; (focus omega))
    | (refine Fo.ldI rfl ?_ (by simp only [hc, hge, k1, k2]; rfl) ?_; (focus omega))
    | refine nl hKF ?_
    | refine sq ?_
    | refine rg fun KF hKF => ?_
    | refine ct rfl ?_
    | refine sk ?_
    | refine Wp.block ?_
    | dsimp only [cond_true, cond_false]
   refine ⟨y + 1, by omega, ⟨by simp only [↓nrmL, nrmZ, Nat.reduceEqDiff, ↓reduceIte, Nat.reduceAdd, Int.reduceBEq, Int.reduceBNe]; rw [hw1], by simp only [↓nrmL, nrmZ, Nat.reduceEqDiff, ↓reduceIte, Nat.reduceAdd, Int.reduceBEq, Int.reduceBNe]; rw [e2, hw3], trivial⟩, hyb, rfl⟩⟩
def allI (l : List UInt8) (a y x : Nat) : Bool := (List.range x).all fun u => l.getD (y * a + u) 0 == 1
theorem allI_succ (l : List UInt8) (a y x : Nat) : allI l a y (x + 1) = (allI l a y x && (l.getD (y * a + x) 0 == 1)) := by simp [allI, List.range_succ]
theorem allI_full {l : List UInt8} {a y : Nat} (ha : 0 < a) : isFull l a y = allI l a y a := by
 unfold isFull allI rc
 by_cases h : ∀ u, u < a → (l.getD (y * a + u) 0 == 1) = true
 ·rw [List.filter_eq_self.2 fun u hu => h u (List.mem_range.1 hu), List.length_range]
  rw [List.all_eq_true.2 fun u hu => h u (List.mem_range.1 hu)]
  rw [decide_eq_true (by omega)]; simp
 ·have h2 : (List.range a).all (fun u => l.getD (y * a + u) 0 == 1) = false := by
   rw [List.all_eq_false]
   obtain ⟨u, hu⟩ := Classical.not_forall.1 h
   obtain ⟨hu1, hu2⟩ := Classical.not_imp.1 hu
   exact ⟨u, List.mem_range.2 hu1, hu2⟩
  rw [h2]
  have h3 : ((List.range a).filter fun u => l.getD (y * a + u) 0 == 1).length ≠ a := by
   intro e
   have := List.length_filter_eq_length_iff (l := List.range a) (p := fun u => l.getD (y * a + u) 0 == 1)
   rw [List.length_range] at this
   exact h fun u hu => this.1 e u (List.mem_range.2 hu)
  rw [Bool.and_eq_false_iff]; left
  simp only [beq_eq_false_iff_ne]; omega
theorem full_none {l : List UInt8} : ∀ y, fullN l 0 y = 0
 | 0 => rfl
 | y + 1 => by
  simp only [fullN, full_none y, isFull, rc, List.range_zero, List.filter_nil, List.length_nil]
  rfl
class OkI (a b : Nat) (l : List UInt8) : Prop where
 ok : Ok a b l
instance K_refFull {a b : Nat} {p : AVal} {H : AHeap} {l : List UInt8} [hp : BytesI H p l] [ho : OkI a b l] : PureCon ext prog 59 [.agg [.int .i64 (a : Int), .int .i64 (b : Int), p]] H 2 (.int .i64 (fullN l a b : Int)) := ⟨by
 refine con_of (show prog 59 = some c59 from rfl) rfl rfl fun n hn => ?_
 haveI := hp.one
 have ok := ho.ok
 have ha := ok.wa
 have hb := ok.hb
 haveI : Fits a b l := ⟨ok.sized⟩
 repeat first
  | refine mI ?_
  | refine bA ?_
  | refine nl hKF ?_
  | refine sq ?_
  | refine rg fun KF hKF => ?_
  | refine Wp.block ?_
 refine Wp.loopS [3,4,5,6,7,8,9,10,11,12,13,14,15,16,17,18,19,20,21,22,23,24,25,26,27,28,29,30,31,32,33] (fun y : Nat => [(4, .int .i64 y), (3, .int .i64 (fullN l a y : Int))]) (fun H3 y H2 => y ≤ b ∧ Ext0 H3 H2) (fun y => b - y) 0 rfl (fun _ => rfl) ⟨rfl, rfl, trivial⟩ ⟨Nat.zero_le _, inferInstance⟩ (by unfold fuel0 at hn; omega) ?_
 rintro y g H2 ⟨hy, hx2⟩
 haveI : ExtI _ H2 := ⟨hx2.ext⟩
 simp only [↓nrmL, nrmZ, Nat.reduceEqDiff, ↓reduceIte]
 cases hc : decide ((y : Int) < (b : Int))
 ·have hyb : y = b := by have := of_decide_eq_false hc; omega
  subst hyb
  repeat first
   | refine ox ?_
   | refine mI ?_
   | refine mB ?_
   | refine fd ?_
   | refine Fo.ld rfl rfl ?_
   | (refine bn rfl rfl rfl (by simp only [hc]; rfl) ?_)
   | refine fB ?_
   | refine nl hKF ?_
   | refine sq ?_
   | refine rg fun KF hKF => ?_
   | refine cf rfl ?_
   | refine rt ?_
   | refine xi ?_
  refine rz trivial ?_
  exact ⟨rfl, Ext0.ext⟩
 have hyb : y < b := by have := of_decide_eq_true hc; omega
 cases h0 : decide ((a : Int) > 0)
 ·have ha0 : a = 0 := by have := of_decide_eq_false h0; omega
  have e2 : (fullN l a y : Int) = (fullN l a b : Int) := by rw [ha0, full_none, full_none]
  repeat first
   | refine oy ?_
   | refine mI ?_
   | refine mB ?_
   | refine fd ?_
   | refine Fo.ld rfl rfl ?_
   | (refine bn rfl rfl rfl (by simp only [hc, h0]; rfl) ?_)
   | refine tB ?_
   | refine nl hKF ?_
   | refine sq ?_
   | refine rg fun KF hKF => ?_
   | refine cf rfl ?_
   | refine rt ?_
   | refine xi ?_
  refine rz trivial ?_
  exact ⟨by rw [← e2]; rfl, Ext0.ext⟩
 have ha0 : 0 < a := by have := of_decide_eq_true h0; omega
 repeat first
  | refine oy ?_
  | refine mI ?_
  | refine mB ?_
  | refine fd ?_
  | refine Fo.ld rfl rfl ?_
  | (refine bn rfl rfl rfl (by simp only [hc, h0]; rfl) ?_)
  | refine tB ?_
  | refine nl hKF ?_
  | refine sq ?_
  | refine rg fun KF hKF => ?_
  | refine ct rfl ?_
  | refine sk ?_
  | refine Wp.block ?_
 refine Wp.loopS [5,6,18,19,20,21,22,23,24,25,26,27,28,29,30] (fun x : Nat => [(6, .int .i64 x), (5, .bool (allI l a y x))]) (fun H3 x H4 => x ≤ a ∧ Ext0 H3 H4) (fun x => a - x) 0 rfl (fun _ => rfl) ⟨rfl, rfl, trivial⟩ ⟨Nat.zero_le _, inferInstance⟩ (by unfold fuel0 at hn; omega) ?_
 rintro x g2 H4 ⟨hx0, hx4⟩
 haveI : ExtI _ H4 := ⟨hx4.ext⟩
 simp only [↓nrmL, nrmZ, Nat.reduceEqDiff, ↓reduceIte]
 cases hcx : decide ((x : Int) < (a : Int))
 ·have hxa : x = a := by have := of_decide_eq_false hcx; omega
  have hw1 := wa1 (a := y) (by omega)
  have hle := fullN_le l a y
  have hw3 := wa1 (a := fullN l a y) (by omega)
  have e3 := allI_full (l := l) (y := y) ha0
  cases k : allI l a y x
  ·have k' : allI l a y a = false := by have q := k; rw [hxa] at q; exact q
   have e2 : fullN l a (y + 1) = fullN l a y := by simp only [fullN]; rw [e3, k']; rfl
   repeat first
    | refine mI ?_
    | refine mB ?_
    | refine fd ?_
    | refine Fo.ld rfl rfl ?_
    | (refine bn rfl rfl rfl (by simp only [hcx, k]; rfl) ?_)
    | refine b0 ?_
    | refine nl hKF ?_
    | refine sq ?_
    | refine rg fun KF hKF => ?_
    | refine cf rfl ?_
    | refine sk ?_
    | refine xi ?_
   refine ⟨y + 1, by omega, ⟨by simp only [↓nrmL, nrmZ, Nat.reduceEqDiff, ↓reduceIte]; rw [hw1], by simp only [↓nrmL, nrmZ, Nat.reduceEqDiff, ↓reduceIte]; rw [e2], trivial⟩, hyb, inferInstance⟩
  ·have k' : allI l a y a = true := by have q := k; rw [hxa] at q; exact q
   have e2 : fullN l a (y + 1) = fullN l a y + 1 := by simp only [fullN]; rw [e3, k']; rfl
   repeat first
    | refine mI ?_
    | refine mB ?_
    | refine fd ?_
    | refine Fo.ld rfl rfl ?_
    | (refine bn rfl rfl rfl (by simp only [hcx, k]; rfl) ?_)
    | refine b0 ?_
    | refine nl hKF ?_
    | refine sq ?_
    | refine rg fun KF hKF => ?_
    | refine ct rfl ?_
    | refine cf rfl ?_
    | refine xi ?_
   refine ⟨y + 1, by omega, ⟨by simp only [↓nrmL, nrmZ, Nat.reduceEqDiff, ↓reduceIte]; rw [hw1], by simp only [↓nrmL, nrmZ, Nat.reduceEqDiff, ↓reduceIte]; rw [e2, hw3], trivial⟩, hyb, inferInstance⟩
 ·have hxa : x < a := by have := of_decide_eq_true hcx; omega
  have hw1 := wa1 (a := x) (by omega)
  have k1 := inkB_nat (l := l) hxa hyb
  have e3 := allI_succ l a y x
  cases k : allI l a y x
  ·rw [k, Bool.false_and] at e3
   repeat first
    | refine ox ?_
    | refine mI ?_
    | refine mB ?_
    | refine fd ?_
    | refine Fo.ld rfl rfl ?_
    | (refine bn rfl rfl rfl (by simp only [hcx, k]; rfl) ?_)
    | refine b0 ?_
    | refine fB ?_
    | refine nl hKF ?_
    | refine sq ?_
    | refine rg fun KF hKF => ?_
    | refine ct rfl ?_
    | refine sk ?_
    | refine Wp.block ?_
   refine ⟨x + 1, by omega, ⟨by simp only [↓nrmL, nrmZ, Nat.reduceEqDiff, ↓reduceIte]; rw [hw1], by simp only [↓nrmL, nrmZ, Nat.reduceEqDiff, ↓reduceIte]; rw [e3], trivial⟩, hxa, inferInstance⟩
  ·rw [k, Bool.true_and] at e3
   repeat first
    | refine oy ?_
    | refine mI ?_
    | refine mB ?_
    | refine fd ?_
    | refine Fo.ld rfl rfl ?_
    | (refine Fo.ldN rfl rfl (by simp only [↓nrmL, nrmZ, Nat.reduceEqDiff, ↓reduceIte, hcx, k]; rfl) ?_)
    | (refine bn rfl rfl rfl (by simp only [hcx, k]; rfl) ?_)
    | refine b0 ?_
    | refine tB ?_
    | (refine Fo.pcall (v' := ?_) hn rfl (by simp only [↓nrmL, nrmZ, Nat.reduceEqDiff, ↓reduceIte, hcx, k, List.map]; rfl) rfl ?hv fun _ _ => ?_; case hv => rfl)
    | refine nl hKF ?_
    | refine sq ?_
    | refine rg fun KF hKF => ?_
    | refine ct rfl ?_
    | refine sk ?_
    | refine Wp.block ?_
   refine ⟨x + 1, by omega, ⟨by simp only [↓nrmL, nrmZ, Nat.reduceEqDiff, ↓reduceIte]; rw [hw1], by simp only [↓nrmL, nrmZ, Nat.reduceEqDiff, ↓reduceIte]; rw [e3, ← k1], trivial⟩, hxa, inferInstance⟩⟩
def fwS (g : Img) (k : Int) : Int × Int := bif (unskewS g k).2 == 0 then fullS (unskewS g k).1 else (0, (unskewS g k).2)
instance K_fullWithout {w h k : Int} {p : AVal} {H : AHeap} {l : List UInt8} [hp : BytesI H p l] : PureCon ext prog 39 [.agg [.int .i64 w, .int .i64 h, p], .int .i64 k] H 7 (.tuple [.int .i64 (fwS ⟨w, h, l⟩ k).1, .int .i64 (fwS ⟨w, h, l⟩ k).2]) := ⟨by
 refine con_of (show prog 39 = some c39 from rfl) rfl rfl fun n hn => ?_
 haveI := hp.one
 repeat first
  | refine mI ?_
  | (refine Fo.ldN rfl rfl (by simp only [↓nrmL, nrmZ, Nat.reduceEqDiff, ↓reduceIte, Nat.reduceAdd, Int.reduceBEq, Int.reduceBNe]; rfl) ?_)
  | refine bA ?_
  | refine nl hKF ?_
  | refine sq ?_
  | refine rg fun KF hKF => ?_
 refine WpO.do (WpX.conD hn rfl rfl (by simp only [↓nrmL, nrmZ, Nat.reduceEqDiff, ↓reduceIte, Nat.reduceAdd, Int.reduceBEq, Int.reduceBNe, List.map] <;> rfl) (K_Unskew (w := w) (h := h) (k := k) (l := l)) fun v H1 h5 => ?_)
 obtain ⟨u, e1, q, e2, hq, hf, hw, hx⟩ := h5
 subst e1 e2
 haveI : ExtI _ H1 := ⟨hx⟩
 haveI := hq.one
 cases h0 : ((unskewS ⟨w, h, l⟩ k).2 == 0)
 ·have e1 : (unskewS ⟨w, h, l⟩ k).2 = (fwS ⟨w, h, l⟩ k).2 ∧ 0 = (fwS ⟨w, h, l⟩ k).1 := by simp only [fwS, h0, cond_false]; exact ⟨trivial, trivial⟩
  repeat first
   | refine mI ?_
   | refine mT ?_
   | (refine bn rfl rfl rfl (by simp only [h0, bne]; rfl) ?_)
   | refine xt ?_
   | refine nw ?_
   | (refine so rfl (rfl : _ = AVal.agg _) rfl rfl rfl (by simp only [↓nrmL, nrmZ, Nat.reduceEqDiff, ↓reduceIte, Nat.reduceAdd, Int.reduceBEq, Int.reduceBNe, h0, bne]; rfl) ?_)
   | refine nl hKF ?_
   | refine sq ?_
   | refine rg fun KF hKF => ?_
   | refine ct rfl ?_
   | refine rt ?_
   | dsimp only [cond_true, cond_false]
  refine rz trivial ?_
  exact ⟨by rw [← e1.1, ← e1.2]; rfl, Ext0.ext⟩
 ·have e1 : fullS (unskewS ⟨w, h, l⟩ k).1 = fwS ⟨w, h, l⟩ k := by simp only [fwS, h0, cond_true]
  repeat first
   | refine mI ?_
   | refine mT ?_
   | (refine Fo.ldN rfl rfl (by simp only [↓nrmL, nrmZ, Nat.reduceEqDiff, ↓reduceIte, Nat.reduceAdd, Int.reduceBEq, Int.reduceBNe, h0, bne]; rfl) ?_)
   | (refine bn rfl rfl rfl (by simp only [h0, bne]; rfl) ?_)
   | refine xt ?_
   | (refine Fo.pcall (v' := ?_) hn rfl (by simp only [↓nrmL, nrmZ, Nat.reduceEqDiff, ↓reduceIte, Nat.reduceAdd, Int.reduceBEq, Int.reduceBNe, h0, bne, List.map]; rfl) rfl ?hv fun _ _ => ?_; case hv => rfl)
   | refine nw ?_
   | (refine so rfl (rfl : _ = AVal.agg _) rfl rfl rfl (by simp only [↓nrmL, nrmZ, Nat.reduceEqDiff, ↓reduceIte, Nat.reduceAdd, Int.reduceBEq, Int.reduceBNe, h0, bne]; rfl) ?_)
   | refine nl hKF ?_
   | refine sq ?_
   | refine rg fun KF hKF => ?_
   | refine cf rfl ?_
   | refine sk ?_
   | refine rt ?_
   | dsimp only [cond_true, cond_false]
  refine rz trivial ?_
  exact ⟨by rw [← e1]; rfl, Ext0.ext⟩⟩
end Go.Am
namespace Go.Am
open Go
section
variable {call : ACall} {lf : Nat} {fr : AFrame} {H : AHeap} {Q : RExit → AFrame → AHeap → Prop} {b : RCode}
def WpN (call : ACall) (lf : Nat) (b : RCode) (k : Nat) (fr : AFrame) (H : AHeap) (Q : RExit → AFrame → AHeap → Prop) : Prop := ∃ x fr' H', loopN (b.exec call lf) k fr H = some ((x, fr'), H') ∧ Q x fr' H'
theorem Wp.rounds (h : WpN call lf b lf fr H Q) : Wp call lf (.loop b) fr H Q := h
theorem WpN.round {k : Nat} (hk : 0 < k) (h : Wp call lf b fr H fun x fr' H' => match x with | .normal => WpN call lf b (k - 1) fr' H' Q | e => Q e fr' H') : WpN call lf b k fr H Q := by
  obtain ⟨j, rfl⟩ : ∃ j, k = j + 1 := ⟨k - 1, by omega⟩
  obtain ⟨x, fr', H', h1, h2⟩ := h
  cases x with
  | normal =>
    obtain ⟨y, f2, H2, h3, h4⟩ := h2
    refine ⟨y, f2, H2, ?_, h4⟩
    simp only [loopN, M.bind, h1]
    exact h3
  | exit id => exact ⟨_, _, _, by simp only [loopN, M.bind, h1, M.pure], h2⟩
  | ret => exact ⟨_, _, _, by simp only [loopN, M.bind, h1, M.pure], h2⟩
theorem exec_eqT {neg : Bool} {d : EqDesc} {x y : ROpd} {a b : AVal} {r : Bool} (hx : x.ev fr = a) (hy : y.ev fr = b) (h : aEq d a b = some r) : (ROp.eq neg d x y).exec call fr H = some (.bool (match neg with | true => !r | false => r), H) := by
  subst hx hy
  simp only [ROp.exec, h, M.pure]; cases neg <;> rfl
end
end Go.Am
namespace Go.Am
open Go
attribute [local irreducible] Wp WpO WpX WpE
def fsStep (f : Int → Int × Int) (s : Int × Int) (k : Int) : Int × Int := bif (f k).2 == 0 then (bif decide ((f k).1 > s.2) then (k, (f k).1) else s) else s
def fsA (f : Int → Int × Int) (acc : List Int) : Int × Int := acc.foldl (fsStep f) (0, -1)
theorem fsA_snoc (f : Int → Int × Int) (acc : List Int) (k : Int) : fsA f (acc ++ [k]) = fsStep f (fsA f acc) k := by simp [fsA]
abbrev skAll : List Int := [0, 1, -1, 2, -2, 3, -3]
def findS (g : Img) : Int × Int := bif g.err == 0 then ((fsA (fwS g) skAll).1, 0) else (0, g.err)
abbrev fsnA : RCode := .region [⟨(some 7), .mov (.tmp 15), none⟩]
abbrev fsnB : RCode := .block 1 (.seq (.region [⟨(some 17), .load (some 3) (.tmp 1), none⟩,
   ⟨(some 18), .mov (.tmp 7), none⟩,
   ⟨(some 19), .call (.val (.func (.func 39) [] [])) [(.tmp 17), (.tmp 18)], none⟩,
   ⟨(some 16), .mov (.tmp 19), none⟩,
   ⟨(some 20), .extract (.tmp 16) 0, none⟩,
   ⟨(some 21), .extract (.tmp 16) 1, none⟩,
   ⟨(some 8), .mov (.tmp 20), none⟩,
   ⟨(some 9), .mov (.tmp 21), none⟩])
  (.seq (.region [⟨(some 22), .mov (.tmp 9), none⟩,
   ⟨(some 23), .bin .eql (.tmp 22) (.val (.int .i64 0)), none⟩,
   ⟨(some 24), .mov (.tmp 23), none⟩,
   ⟨(some 25), .mov (.tmp 8), some (24, true)⟩,
   ⟨(some 26), .load none (.tmp 6), some (24, true)⟩,
   ⟨(some 27), .bin .gtr (.tmp 25) (.tmp 26), some (24, true)⟩,
   ⟨(some 28), .pick (.tmp 24) (.tmp 27) (.val (.bool false)), none⟩])
  (.cond (.tmp 28) (.region [⟨(some 29), .mov (.tmp 7), none⟩,
    ⟨(some 30), .mov (.tmp 8), none⟩,
    ⟨none, .store 1 (.tmp 5) (.tmp 29), none⟩,
    ⟨none, .store 1 (.tmp 6) (.tmp 30), none⟩])
  (.skip))))
abbrev fsnL (d : Nat) (fr : AFrame) : RLoop := ⟨d, 32, fr, [15], fsnA, fsnB, 0, .normal⟩
structure JF (f : Int → Int × Int) (Hb : AHeap) (rb rm r : Nat) (R0 : RLoop) (acc : List Int) (H : AHeap) : Prop where
 n : Hb.n ≤ H.n
 get : ∀ s, s < Hb.n → s ≠ rb → s ≠ rm → H.get s = Hb.get s
 best : HasRow H rb [.int .i64 (fsA f acc).1] true (2 * 3)
 most : HasRow H rm [.int .i64 (fsA f acc).2] true (2 * 3)
 loop : HasLoop H r R0
theorem JF.row {f : Int → Int × Int} {Hb H : AHeap} {rb rm r s : Nat} {R0 : RLoop} {acc : List Int} {cs : List AVal} {rw : Bool} {e : TypeId} (h : JF f Hb rb rm r R0 acc H) (k : HasRow Hb s cs rw e) (h1 : s ≠ rb) (h2 : s ≠ rm) : HasRow H s cs rw e := ⟨Nat.lt_of_lt_of_le k.lt h.n, by rw [h.get s k.lt h1 h2]; exact k.get⟩
theorem JF.bytes {f : Int → Int × Int} {Hb H : AHeap} {rb rm r : Nat} {R0 : RLoop} {acc : List Int} {p : AVal} {l : List UInt8} (h : JF f Hb rb rm r R0 acc H) (k : BytesI Hb p l) (h1 : RowNe p rb) (h2 : RowNe p rm) : BytesI H p l := k.keep h.n fun s _ _ _ _ e hs => h.get s hs (h1.ne _ _ _ _ _ e) (h2.ne _ _ _ _ _ e)
theorem round_skew {w h : Int} {l : List UInt8} {p : AVal} {Hb H : AHeap} {r1 rb rm r d n : Nat} {fr : AFrame} {acc : List Int} {k : Int} (h1 : fr 1 = .ptr r1 0) (h5 : fr 5 = .ptr rb 0) (h6 : fr 6 = .ptr rm 0) (k1 : HasRow Hb r1 [.int .i64 w, .int .i64 h, p] true (2 * 29)) (kp : BytesI Hb p l) (n1 : r1 ≠ rb) (n2 : r1 ≠ rm) (n3 : rb ≠ rm) (p1 : RowNe p rb) (p2 : RowNe p rm) (hrb : rb < Hb.n) (hrm : rm < Hb.n) (hr : Hb.n ≤ r) (hJ : JF (fwS ⟨w, h, l⟩) Hb rb rm r (fsnL d fr) acc H) (hn : fuel0 + 8 ≤ n) :
  ∃ H', callN ext prog n yieldId [.yield r, .int .i64 k] H = some (.bool true, H') ∧ JF (fwS ⟨w, h, l⟩) Hb rb rm r (fsnL d fr) (acc ++ [k]) H' := by
 obtain ⟨j, rfl⟩ : ∃ j, n = j + 1 := ⟨n - 1, by omega⟩
 have hn' : fuel0 + 7 ≤ j := by omega
 haveI := hJ.loop
 haveI := hJ.best
 haveI := hJ.most
 haveI := hJ.row k1 n1 n2
 haveI := hJ.bytes kp p1 p2
 haveI := kp.one
 haveI e1 : NeR rb r := ⟨by omega⟩
 haveI e2 : NeR r rb := ⟨by omega⟩
 haveI e3 : NeR rm r := ⟨by omega⟩
 haveI e4 : NeR r rm := ⟨by omega⟩
 haveI e5 : NeR rb rm := ⟨n3⟩
 haveI e6 : NeR rm rb := ⟨Ne.symm n3⟩
 haveI e7 : NeR r1 r := ⟨by have := k1.lt; omega⟩
 haveI e8 : NeR r r1 := ⟨by have := k1.lt; omega⟩
 haveI : RowNe p r := ⟨fun r' off len cap sz q => by have := kp.lt q; omega⟩
 refine round_next (R := fsnL d fr) rfl hJ.loop rfl rfl rfl ?_
 show Wp (callN ext prog j) j fsnA (upd fr 15 (.int .i64 k)) H _
 simp only [h1, h5, h6]
 refine rg fun KF hKF => ?_
 refine mI ?_
 refine nl hKF ?_
 refine ⟨rfl, inferInstance, ?_⟩
 show Wp (callN ext prog j) j fsnB _ _ _
 have hn := hn'
 refine Wp.block ?_
 refine sq ?_
 refine rg fun KF hKF => ?_
 refine Fo.ldN (n := 3) h1 rfl rfl ?_
 cases h0 : ((fwS ⟨w, h, l⟩ k).2 == 0)
 ·have e9 : fsA (fwS ⟨w, h, l⟩) (acc ++ [k]) = fsA (fwS ⟨w, h, l⟩) acc := by rw [fsA_snoc]; simp only [fsStep, h0, cond_false]
  simp only [↓nrmL, nrmZ, Nat.reduceEqDiff, ↓reduceIte, h0]
  repeat first
   | refine ox ?_
   | refine mI ?_
   | refine mB ?_
   | refine mT ?_
   | (refine bn rfl rfl rfl (by simp only [h0]; rfl) ?_)
   | refine fB ?_
   | refine xt ?_
   | (refine Fo.pcall (v' := ?_) hn rfl (by simp only [↓nrmL, nrmZ, Nat.reduceEqDiff, ↓reduceIte, h0, List.map]; rfl) rfl ?hv fun _ _ => ?_; case hv => rfl)
   | refine nl hKF ?_
   | refine sq ?_
   | refine rg fun KF hKF => ?_
   | refine cf rfl ?_
   | refine sk ?_
  rename AHeap => H9
  rename ExtI _ H9 => hx9
  have hn9 := hx9.ext.n
  refine ⟨rfl, inferInstance, Nat.le_trans hJ.n hn9, fun s hs q1 q2 => ?_, by rw [e9]; infer_instance, by rw [e9]; infer_instance, inferInstance⟩
  have hsr : s ≠ r := by omega
  have hsn : s < H.n := Nat.lt_of_lt_of_le hs hJ.n
  rw [set_get_ne hsr, hx9.ext.get s hsn, set_get_ne hsr]
  exact hJ.get s hs q1 q2
 cases h9 : decide ((fwS ⟨w, h, l⟩ k).1 > (fsA (fwS ⟨w, h, l⟩) acc).2)
 ·have e9 : fsA (fwS ⟨w, h, l⟩) (acc ++ [k]) = fsA (fwS ⟨w, h, l⟩) acc := by rw [fsA_snoc]; simp only [fsStep, h0, cond_true, h9, cond_false]
  simp only [↓nrmL, nrmZ, Nat.reduceEqDiff, ↓reduceIte, h0]
  repeat first
   | refine oy ?_
   | refine mI ?_
   | refine mB ?_
   | refine mT ?_
   | (refine bn rfl rfl rfl (by simp only [h0]; rfl) ?_)
   | refine xt ?_
   | (refine Fo.pcall (v' := ?_) hn rfl (by simp only [↓nrmL, nrmZ, Nat.reduceEqDiff, ↓reduceIte, h0, List.map]; rfl) rfl ?hv fun _ _ => ?_; case hv => rfl)
   | refine nl hKF ?_
   | refine sq ?_
   | refine rg fun KF hKF => ?_
  refine Fo.ld (off := 0) h6 rfl ?_
  refine oy ?_
  refine bn rfl rfl rfl (by simp only [h9]; rfl) ?_
  refine tB ?_
  refine nl hKF ?_
  refine cf rfl ?_
  refine sk ?_
  dsimp only [cond_true, cond_false]
  rename AHeap => H9
  rename ExtI _ H9 => hx9
  have hn9 := hx9.ext.n
  refine ⟨rfl, inferInstance, Nat.le_trans hJ.n hn9, fun s hs q1 q2 => ?_, by rw [e9]; infer_instance, by rw [e9]; infer_instance, inferInstance⟩
  have hsr : s ≠ r := by omega
  have hsn : s < H.n := Nat.lt_of_lt_of_le hs hJ.n
  rw [set_get_ne hsr, hx9.ext.get s hsn, set_get_ne hsr]
  exact hJ.get s hs q1 q2
 ·have e9 : fsA (fwS ⟨w, h, l⟩) (acc ++ [k]) = (k, (fwS ⟨w, h, l⟩ k).1) := by rw [fsA_snoc]; simp only [fsStep, h0, cond_true, h9]
  simp only [↓nrmL, nrmZ, Nat.reduceEqDiff, ↓reduceIte, h0]
  repeat first
   | refine oy ?_
   | refine mI ?_
   | refine mB ?_
   | refine mT ?_
   | (refine bn rfl rfl rfl (by simp only [h0]; rfl) ?_)
   | refine xt ?_
   | (refine Fo.pcall (v' := ?_) hn rfl (by simp only [↓nrmL, nrmZ, Nat.reduceEqDiff, ↓reduceIte, h0, List.map]; rfl) rfl ?hv fun _ _ => ?_; case hv => rfl)
   | refine nl hKF ?_
   | refine sq ?_
   | refine rg fun KF hKF => ?_
  refine Fo.ld (off := 0) h6 rfl ?_
  refine oy ?_
  refine bn rfl rfl rfl (by simp only [h9]; rfl) ?_
  refine tB ?_
  refine nl hKF ?_
  refine ct rfl ?_
  refine rg fun KF hKF => ?_
  refine mI ?_
  refine mI ?_
  refine Fo.stO (v := .int .i64 k) (r := rb) (off := 0) (l := [.int .i64 k]) h5 rfl rfl rfl ?_
  refine Fo.stO (v := .int .i64 (fwS ⟨w, h, l⟩ k).1) (r := rm) (off := 0) (l := [.int .i64 (fwS ⟨w, h, l⟩ k).1]) h6 rfl rfl rfl ?_
  refine nl hKF ?_
  dsimp only [cond_true, cond_false]
  rename AHeap => H9
  rename ExtI _ H9 => hx9
  have hn9 := hx9.ext.n
  refine ⟨rfl, inferInstance, Nat.le_trans hJ.n hn9, fun s hs q1 q2 => ?_, by rw [e9]; infer_instance, by rw [e9]; infer_instance, inferInstance⟩
  have hsr : s ≠ r := by omega
  have hsn : s < H.n := Nat.lt_of_lt_of_le hs hJ.n
  rw [set_get_ne hsr, set_get_ne q2, set_get_ne q1, hx9.ext.get s hsn, set_get_ne hsr]
  exact hJ.get s hs q1 q2
theorem K_skews {r : Nat} {J : List Int → AHeap → Prop} {H : AHeap} {D : Nat} (hD : 1 ≤ D)
  (hy : ∀ acc H, J acc H → ∀ (k : Int) (n : Nat), fuel0 + D ≤ n → ∃ H', callN ext prog n yieldId [.yield r, .int .i64 k] H = some (.bool true, H') ∧ J (acc ++ [k]) H')
  (hJ : J [] H) : Con ext prog (D + 1) 38 [.yield r] H fun _ H' => J skAll H' := by
 refine con_of (show prog 38 = some c38 from rfl) rfl rfl fun n hn => ?_
 obtain ⟨H1, y1, j1⟩ := hy _ _ hJ 0 n (by omega)
 obtain ⟨H2, y2, j2⟩ := hy _ _ j1 1 n (by omega)
 obtain ⟨H3, y3, j3⟩ := hy _ _ j2 (-1) n (by omega)
 obtain ⟨H4, y4, j4⟩ := hy _ _ j3 2 n (by omega)
 obtain ⟨H5, y5, j5⟩ := hy _ _ j4 (-2) n (by omega)
 obtain ⟨H6, y6, j6⟩ := hy _ _ j5 3 n (by omega)
 obtain ⟨H7, y7, j7⟩ := hy _ _ j6 (-3) n (by omega)
 have u1 : IntKind.i64.wrap (0 - 1) = -1 := rfl
 have u2 : IntKind.i64.wrap (0 - 2) = -2 := rfl
 have u3 : IntKind.i64.wrap (0 - 3) = -3 := rfl
 have v1 : IntKind.i64.wrap (1 + 1) = 2 := rfl
 have v2 : IntKind.i64.wrap (2 + 1) = 3 := rfl
 have v3 : IntKind.i64.wrap (3 + 1) = 4 := rfl
 refine sq ?_
 refine sq ?_
 refine rg fun KF hKF => ?_
 refine mv ?_
 refine WpO.do (WpX.yield rfl rfl ⟨_, _, y1, ?_⟩)
 refine Fo.now rfl rfl (by simp only [↓nrmL, nrmZ, Nat.reduceEqDiff, ↓reduceIte]; rfl) ?_
 refine nl hKF ?_
 refine cf rfl ?_
 refine sk ?_
 refine sq ?_
 refine rg fun KF hKF => ?_
 refine mI ?_
 refine nl hKF ?_
 refine Wp.block ?_
 dsimp only [cond_true, cond_false]
 refine Wp.rounds ?_
 refine WpN.round (by unfold fuel0 at hn; omega) ?_
 repeat first
  | refine mI ?_
  | (refine mv ?_)
  | refine b0 ?_
  | refine nl hKF ?_
  | refine sq ?_
  | refine rg fun KF hKF => ?_
  | refine ct rfl ?_
  | refine sk ?_
  | refine Wp.block ?_
 refine WpO.do (WpX.yield rfl rfl ⟨_, _, y2, ?_⟩)
 repeat first
  | refine oy ?_
  | refine mI ?_
  | refine mB ?_
  | (refine mv ?_)
  | (refine Fo.now rfl rfl (by simp only [u1]; rfl) ?_)
  | (refine Fo.now rfl rfl (by simp only [↓nrmL, nrmZ, Nat.reduceEqDiff, ↓reduceIte, u1]; rfl) ?_)
 refine WpO.do (WpX.yield rfl rfl ⟨_, _, y3, ?_⟩)
 refine oy ?_
 refine Fo.now rfl rfl (by simp only [↓nrmL, nrmZ, Nat.reduceEqDiff, ↓reduceIte, v1]; rfl) ?_
 refine fB ?_
 refine nl hKF ?_
 refine cf rfl ?_
 refine sk ?_
 refine rg fun KF hKF => ?_
 refine mI ?_
 refine bn rfl rfl rfl (by simp only [v1]; rfl) ?_
 refine mI ?_
 refine nl hKF ?_
 dsimp only [cond_true, cond_false]
 refine WpN.round (by unfold fuel0 at hn; omega) ?_
 repeat first
  | refine mI ?_
  | (refine mv ?_)
  | refine b0 ?_
  | refine nl hKF ?_
  | refine sq ?_
  | refine rg fun KF hKF => ?_
  | refine ct rfl ?_
  | refine sk ?_
  | refine Wp.block ?_
 refine WpO.do (WpX.yield rfl rfl ⟨_, _, y4, ?_⟩)
 repeat first
  | refine oy ?_
  | refine mI ?_
  | refine mB ?_
  | (refine mv ?_)
  | (refine Fo.now rfl rfl (by simp only [u2]; rfl) ?_)
  | (refine Fo.now rfl rfl (by simp only [↓nrmL, nrmZ, Nat.reduceEqDiff, ↓reduceIte, u2]; rfl) ?_)
 refine WpO.do (WpX.yield rfl rfl ⟨_, _, y5, ?_⟩)
 refine oy ?_
 refine Fo.now rfl rfl (by simp only [↓nrmL, nrmZ, Nat.reduceEqDiff, ↓reduceIte, v2]; rfl) ?_
 refine fB ?_
 refine nl hKF ?_
 refine cf rfl ?_
 refine sk ?_
 refine rg fun KF hKF => ?_
 refine mI ?_
 refine bn rfl rfl rfl (by simp only [v2]; rfl) ?_
 refine mI ?_
 refine nl hKF ?_
 dsimp only [cond_true, cond_false]
 refine WpN.round (by unfold fuel0 at hn; omega) ?_
 repeat first
  | refine mI ?_
  | (refine mv ?_)
  | refine b0 ?_
  | refine nl hKF ?_
  | refine sq ?_
  | refine rg fun KF hKF => ?_
  | refine ct rfl ?_
  | refine sk ?_
  | refine Wp.block ?_
 refine WpO.do (WpX.yield rfl rfl ⟨_, _, y6, ?_⟩)
 repeat first
  | refine oy ?_
  | refine mI ?_
  | refine mB ?_
  | (refine mv ?_)
  | (refine Fo.now rfl rfl (by simp only [u3]; rfl) ?_)
  | (refine Fo.now rfl rfl (by simp only [↓nrmL, nrmZ, Nat.reduceEqDiff, ↓reduceIte, u3]; rfl) ?_)
 refine WpO.do (WpX.yield rfl rfl ⟨_, _, y7, ?_⟩)
 refine oy ?_
 refine Fo.now rfl rfl (by simp only [↓nrmL, nrmZ, Nat.reduceEqDiff, ↓reduceIte, v3]; rfl) ?_
 refine fB ?_
 refine nl hKF ?_
 refine cf rfl ?_
 refine sk ?_
 refine rg fun KF hKF => ?_
 refine mI ?_
 refine bn rfl rfl rfl (by simp only [v3]; rfl) ?_
 refine mI ?_
 refine nl hKF ?_
 dsimp only [cond_true, cond_false]
 refine WpN.round (by unfold fuel0 at hn; omega) ?_
 refine sq ?_
 refine sq ?_
 refine rg fun KF hKF => ?_
 refine mI ?_
 refine b0 ?_
 refine nl hKF ?_
 refine cf rfl ?_
 refine xi ?_
 dsimp only [cond_true, cond_false]
 refine rz trivial ?_
 exact j7
end Go.Am
namespace Go.Am
open Go
attribute [local irreducible] Wp WpO WpX WpE
theorem JF.start {f : Int → Int × Int} {Hb : AHeap} {rb rm : Nat} {R0 : RLoop} (k1 : HasRow Hb rb [.int .i64 0] true (2 * 3)) (k2 : HasRow Hb rm [.int .i64 (-1)] true (2 * 3)) : JF f Hb rb rm (Hb.n + 1) R0 [] ((Hb.push .dead).push (.loop R0)) :=
 ⟨by simp only [AHeap.push]; omega, fun s hs _ _ => by rw [push_get_lt (by simp only [AHeap.push]; omega), push_get_lt hs],
  (inferInstance : HasRow ((Hb.push .dead).push (.loop R0)) rb [.int .i64 0] true (2 * 3)), (inferInstance : HasRow ((Hb.push .dead).push (.loop R0)) rm [.int .i64 (-1)] true (2 * 3)),
  (inferInstance : HasLoop ((Hb.push .dead).push (.loop R0)) (Hb.push .dead).n R0)⟩
theorem find_run {w h : Int} {l : List UInt8} {p : AVal} {Hb : AHeap} {r1 rb rm n : Nat} {fr : AFrame} (h1 : fr 1 = .ptr r1 0) (h5 : fr 5 = .ptr rb 0) (h6 : fr 6 = .ptr rm 0) [k1 : HasRow Hb r1 [.int .i64 w, .int .i64 h, p] true (2 * 29)] [kp : BytesI Hb p l] (k2 : HasRow Hb rb [.int .i64 0] true (2 * 3)) (k3 : HasRow Hb rm [.int .i64 (-1)] true (2 * 3)) (n1 : r1 ≠ rb) (n2 : r1 ≠ rm) (n3 : rb ≠ rm) (p1 : RowNe p rb) (p2 : RowNe p rm) (hn : fuel0 + 9 ≤ n) {P : AVal → AHeap → RLoop → Prop} (hP : ∀ v H3, JF (fwS ⟨w, h, l⟩) Hb rb rm (Hb.n + 1) (fsnL Hb.n fr) skAll H3 → P v H3 (fsnL Hb.n fr)) :
  ∃ v H3 R, callN ext prog n 38 ([] ++ [.yield (Hb.n + 1)] ++ []) ((Hb.push .dead).push (.loop ⟨Hb.n, 32, fr, [15], fsnA, fsnB, 0, .normal⟩)) = some (v, H3) ∧ H3.get (Hb.n + 1) = .loop R ∧ (Nat.beq R.st 1 || Nat.beq R.st 4) = false ∧ P v H3 R := by
 obtain ⟨v, H3, e3, hJ⟩ := K_skews (r := Hb.n + 1) (J := JF (fwS ⟨w, h, l⟩) Hb rb rm (Hb.n + 1) (fsnL Hb.n fr)) (D := 8) (by decide)
  (fun acc H4 hJ k m hm => round_skew h1 h5 h6 k1 kp n1 n2 n3 p1 p2 k2.lt k3.lt (Nat.le_succ _) hJ hm)
  (JF.start k2 k3) n (by omega)
 exact ⟨v, H3, _, e3, hJ.loop.get, rfl, hP v H3 hJ⟩
instance K_FindSkew {w h : Int} {p : AVal} {H : AHeap} {l : List UInt8} [hp : BytesI H p l] : PureCon ext prog 20 [.agg [.int .i64 w, .int .i64 h, p]] H 11 (.tuple [.int .i64 (findS ⟨w, h, l⟩).1, .int .i64 (findS ⟨w, h, l⟩).2]) := ⟨by
 refine con_ofR (show prog 20 = some c20 from rfl) rfl rfl fun n hn => ?_
 haveI := hp.one
 cases h0 : (Img.err ⟨w, h, l⟩ == 0)
 ·have e1 : findS ⟨w, h, l⟩ = (0, Img.err ⟨w, h, l⟩) := by simp only [findS, h0, cond_false]
  rw [e1]
  simp only [h0, bne]
  repeat first
   | refine mI ?_
   | (refine Fo.ldN rfl rfl (by simp only [↓nrmL, nrmZ, Nat.reduceEqDiff, ↓reduceIte, h0, bne]; rfl) ?_)
   | (refine bn rfl rfl rfl (by simp only [h0, bne]; rfl) ?_)
   | (refine Fo.pcall (v' := ?_) hn rfl (by simp only [↓nrmL, nrmZ, Nat.reduceEqDiff, ↓reduceIte, h0, bne, List.map]; rfl) rfl ?hv fun _ _ => ?_; case hv => rfl)
   | refine bA ?_
   | refine nl hKF ?_
   | refine sq ?_
   | refine rg fun KF hKF => ?_
   | refine ct rfl ?_
   | refine rt ?_
  exact ⟨trivial, _, rfl, _, rfl, rfl, Ext0.ext⟩
 have e1 : findS ⟨w, h, l⟩ = ((fsA (fwS ⟨w, h, l⟩) skAll).1, 0) := by simp only [findS, h0, cond_true]
 rw [e1]
 simp only [h0, bne]
 repeat first
  | refine mI ?_
  | (refine Fo.ldN rfl rfl (by simp only [↓nrmL, nrmZ, Nat.reduceEqDiff, ↓reduceIte, h0, bne]; rfl) ?_)
  | (refine bn rfl rfl rfl (by simp only [h0, bne]; rfl) ?_)
  | (refine Fo.pcall (v' := ?_) hn rfl (by simp only [↓nrmL, nrmZ, Nat.reduceEqDiff, ↓reduceIte, h0, bne, List.map]; rfl) rfl ?hv fun _ _ => ?_; case hv => rfl)
  | refine bA ?_
  | refine nw ?_
  | (refine so rfl (rfl : _ = AVal.int _ _) rfl rfl rfl (by simp only [↓nrmL, nrmZ, Nat.reduceEqDiff, ↓reduceIte, h0, bne]; rfl) ?_)
  | refine nl hKF ?_
  | refine sq ?_
  | refine rg fun KF hKF => ?_
  | refine cf rfl ?_
  | refine sk ?_
  | refine Wp.block ?_
 rename AHeap => H1
 refine Wp.range (gf := 38) (fi := []) (ca := []) (vs := []) rfl rfl rfl ?_
 rename ExtI _ H1 => hx1
 have hH1 : H.n < H1.n := hx1.ext.n
 obtain ⟨Hb, hHb⟩ : ∃ Hb, (((H1.push (.row [.int .i64 0] true (2 * 3))).push (.row [.int .i64 0] true (2 * 3))).set H1.n (.row [.int .i64 0] true (2 * 3))).set (H1.push (.row [.int .i64 0] true (2 * 3))).n (.row [.int .i64 (-1)] true (2 * 3)) = Hb := ⟨_, rfl⟩
 have c1 : HasRow Hb H.n [.int .i64 w, .int .i64 h, p] true (2 * 29) := by rw [← hHb]; infer_instance
 have c2 : BytesI Hb p l := by rw [← hHb]; infer_instance
 have c3 : HasRow Hb H1.n [.int .i64 0] true (2 * 3) := by rw [← hHb]; infer_instance
 have c4 : HasRow Hb (H1.n + 1) [.int .i64 (-1)] true (2 * 3) := by rw [← hHb]; exact (inferInstance : HasRow (((((H1.push (.row [.int .i64 0] true (2 * 3))).push (.row [.int .i64 0] true (2 * 3))).set H1.n (.row [.int .i64 0] true (2 * 3))).set (H1.push (.row [.int .i64 0] true (2 * 3))).n (.row [.int .i64 (-1)] true (2 * 3)))) (H1.push (.row [.int .i64 0] true (2 * 3))).n [.int .i64 (-1)] true (2 * 3))
 have c5 : Ext H Hb := by rw [← hHb]; exact Ext0.ext
 have c6 : RowNe p H1.n := inferInstance
 have c7 : RowNe p (H1.n + 1) := ⟨fun r off len cap sz q => by have := hp.lt q; omega⟩
 have c8 : Hb.n = H1.n + 2 := by rw [← hHb]; rfl
 rw [hHb]
 refine find_run (w := w) (h := h) (l := l) (r1 := H.n) (rb := H1.n) (rm := H1.n + 1) rfl rfl rfl c3 c4 (by omega) (by omega) (by omega) c6 c7 (by omega) fun v H3 hJ => ?_
 haveI := hJ.loop
 haveI := hJ.best
 haveI : NeR H1.n (Hb.n + 1) := ⟨by omega⟩
 have hHn := c5.n
 have h3n := hJ.n
 refine sq ?_
 refine rg fun KF hKF => ?_
 refine Fo.ld rfl rfl ?_
 refine mI ?_
 refine mI ?_
 refine nl hKF ?_
 refine rt ?_
 dsimp only [cond_true, cond_false]
 refine ⟨trivial, _, takeMarks1 (d := Hb.n) (l := Hb.n + 1) inferInstance rfl rfl, _, rfl, rfl, ?_⟩
 refine ⟨Nat.le_trans hHn h3n, fun s hs => ?_⟩
 rw [set_get_ne (by omega), set_get_ne (by omega), hJ.get s (by omega) (by omega) (by omega)]
 exact c5.get s hs⟩
end Go.Am
namespace Go.Am
open Go
attribute [local irreducible] Wp WpO WpX WpE
theorem full_ok {a b : Nat} {l : List UInt8} (ok : Ok a b l) : fullS ⟨a, b, l⟩ = ((fullN l a b : Int), 0) := by
 simp only [fullS, ok.err, beq_self_eq_true, cond_true, Int.toNat_natCast]
theorem un_no {a b : Nat} {k : Int} {l : List UInt8} (ok : Ok a b l) (hk : skB k = true) (h : ¬ grN a k a ≤ b) : unskewS ⟨a, b, l⟩ k = (.zero, 2) ∧ fwS ⟨a, b, l⟩ k = (0, 2) := by
 have e : unskewS ⟨a, b, l⟩ k = (.zero, 2) := by
  simp only [unskewS, ckS_ok ok hk, beq_self_eq_true, cond_true, Int.toNat_natCast]
  rw [decide_eq_false (by omega)]; rfl
 exact ⟨e, by unfold fwS; rw [e]; rfl⟩
theorem un_ok {a b c : Nat} {k : Int} {l : List UInt8} (ok : Ok a b l) (hk : skB k = true) (h : b = c + grN a k a) : unskewS ⟨a, b, l⟩ k = (⟨a, c, unskewL l a c k⟩, 0) ∧ Ok a c (unskewL l a c k) ∧ fwS ⟨a, b, l⟩ k = ((fullN (unskewL l a c k) a c : Int), 0) := by
 have e : unskewS ⟨a, b, l⟩ k = (⟨a, c, unskewL l a c k⟩, 0) := by
  simp only [unskewS, ckS_ok ok hk, beq_self_eq_true, cond_true, Int.toNat_natCast]
  rw [decide_eq_true (by omega), cond_true, show (b : Int) - (grN a k a : Int) = (c : Int) by omega, show b - grN a k a = c by omega]
 have o := unskewL_ok (k := k) ok h
 exact ⟨e, o, by unfold fwS; rw [e]; exact full_ok o⟩
theorem skAll_in : ∀ i, i < 7 → skB (skAll.getD i 0) = true := by decide
theorem fsA_take (f : Int → Int × Int) {i : Nat} (h : i < skAll.length) : fsA f (skAll.take (i + 1)) = fsStep f (fsA f (skAll.take i)) (skAll[i]) := by
 rw [← fsA_snoc]; congr 1
 rw [List.take_add_one, List.getElem?_eq_getElem h]; rfl
theorem K_refFindSkew {a b : Nat} {p : AVal} {H : AHeap} {l : List UInt8} [hp : BytesI H p l] (ok : Ok a b l) : Con ext prog 5 31 [.agg [.int .i64 (a : Int), .int .i64 (b : Int), p]] H fun v H' => v = .int .i64 (fsA (fwS ⟨a, b, l⟩) skAll).1 ∧ Ext H H' := by
 refine con_of (show prog 31 = some c31 from rfl) rfl rfl fun n hn => ?_
 haveI := hp.one
 repeat first
  | refine mI ?_
  | (refine mv ?_)
  | refine bA ?_
  | (refine Fo.bslice rfl (by simp only [↓nrmL, nrmZ, Nat.reduceEqDiff, ↓reduceIte, Nat.reduceAdd, Int.reduceBEq, Int.reduceBNe]; rfl) ?_)
  | refine nl hKF ?_
  | refine sq ?_
  | refine rg fun KF hKF => ?_
  | refine Wp.block ?_
  | dsimp only [cond_true, cond_false]
 haveI iq : IntsI ((H.push (.row [.int .i64 (a : Int), .int .i64 (b : Int), p] true (2 * 29))).push (.row [.int .i64 0, .int .i64 1, .int .i64 (-1), .int .i64 2, .int .i64 (-2), .int .i64 3, .int .i64 (-3)] true (2 * 3))) (.slice (H.push (.row [.int .i64 (a : Int), .int .i64 (b : Int), p] true (2 * 29))).n 0 7 (some 7) 1) skAll :=
  ⟨Or.inr ⟨_, 0, some 7, _, true, 2 * 3, rfl, Nat.lt_succ_self _, push_get_eq, by decide, rfl, Nat.le_refl _⟩⟩
 refine Wp.loopS [4,5,6,7,8,10,11,12,13,14,15,16,17,18,19,20,21,22,23,24,25,26,27,28,29,30,31,32,33,34,35,36,37,38] (fun i : Nat => [(6, .int .i64 i), (4, .int .i64 (fsA (fwS ⟨a, b, l⟩) (skAll.take i)).1), (5, .int .i64 (fsA (fwS ⟨a, b, l⟩) (skAll.take i)).2)]) (fun H3 i H2 => i ≤ 7 ∧ Ext0 H3 H2) (fun i => 7 - i) 0 rfl (fun _ => rfl) ⟨rfl, rfl, rfl, trivial⟩ ⟨Nat.zero_le _, inferInstance⟩ (by unfold fuel0 at hn; omega) ?_
 rintro i g H2 ⟨hi, hx2⟩
 haveI : ExtI _ H2 := ⟨hx2.ext⟩
 simp only [↓nrmL, nrmZ, Nat.reduceEqDiff, ↓reduceIte, Nat.reduceAdd, Int.reduceBEq, Int.reduceBNe]
 cases hc : decide ((i : Int) < ((skAll.length : Nat) : Int))
 ·have hi7 : i = 7 := by have h7 : ((skAll.length : Nat) : Int) = 7 := rfl; have := of_decide_eq_false hc; omega
  repeat first
   | refine mI ?_
   | (refine mv ?_)
   | (refine bn rfl rfl rfl (by simp only [↓nrmL, nrmZ, Nat.reduceEqDiff, ↓reduceIte, Nat.reduceAdd, Int.reduceBEq, Int.reduceBNe, hc]; rfl) ?_)
   | (refine ln (by simp only [↓nrmL, nrmK, Nat.reduceEqDiff, ↓reduceIte]; rfl) ?_)
   | refine nl hKF ?_
   | refine sq ?_
   | refine rg fun KF hKF => ?_
   | refine cf rfl ?_
   | refine rt ?_
   | refine xi ?_
   | dsimp only [cond_true, cond_false]
  refine rz trivial ?_
  exact ⟨by rw [hi7]; rfl, Ext0.ext⟩
 have hi7 : i < 7 := by have h7 : ((skAll.length : Nat) : Int) = 7 := rfl; have := of_decide_eq_true hc; omega
 have hil : i < skAll.length := hi7
 have hw1 := wa1 (a := i) (by omega)
 obtain ⟨k, hk⟩ : ∃ k, skAll[i] = k := ⟨_, rfl⟩
 have hsk : skB k = true := by
  have e := skAll_in i hi7
  rw [List.getD_eq_getElem?_getD, List.getElem?_eq_getElem hil, Option.getD_some, hk] at e; exact e
 have hta := fsA_take (fwS ⟨a, b, l⟩) hil
 rw [hk] at hta
 by_cases hq : grN a k a ≤ b
 ·obtain ⟨c, hcb⟩ : ∃ c, b = c + grN a k a := ⟨b - grN a k a, by omega⟩
  obtain ⟨u1, u2, u3⟩ := un_ok ok hsk hcb
  haveI : OkI a c (unskewL l a c k) := ⟨u2⟩
  repeat first
   | refine mI ?_
   | (refine mv ?_)
   | (refine bn rfl rfl rfl (by simp only [↓nrmL, nrmZ, Nat.reduceEqDiff, ↓reduceIte, Nat.reduceAdd, Int.reduceBEq, Int.reduceBNe, hc]; rfl) ?_)
   | (refine ln (by simp only [↓nrmL, nrmK, Nat.reduceEqDiff, ↓reduceIte]; rfl) ?_)
   | refine nl hKF ?_
   | refine sq ?_
   | refine rg fun KF hKF => ?_
   | refine ct rfl ?_
   | refine sk ?_
   | refine Wp.block ?_
   | dsimp only [cond_true, cond_false]
  refine Fr.dregionE [.row [.int .i64 0, .int .i64 0, .nslice] true (2 * 29)] ?_ fun KF hKF => ?_
  ·skip
   refine oracle_pre rfl rfl rfl (exec_ldN rfl rfl rfl) ?_; (try simp only [↓nrmL, nrmZ, Nat.reduceEqDiff, ↓reduceIte, Nat.reduceAdd, Int.reduceBEq, Int.reduceBNe])
   refine oracle_pre rfl rfl rfl rfl ?_; (try simp only [↓nrmL, nrmZ, Nat.reduceEqDiff, ↓reduceIte, Nat.reduceAdd, Int.reduceBEq, Int.reduceBNe])
   refine oracle_pre rfl rfl rfl rfl ?_; (try simp only [↓nrmL, nrmZ, Nat.reduceEqDiff, ↓reduceIte, Nat.reduceAdd, Int.reduceBEq, Int.reduceBNe])
   refine oracle_pre rfl rfl rfl (exec_idxP (p := .slice (H.push (.row [.int .i64 (a : Int), .int .i64 (b : Int), p] true (2 * 29))).n 0 7 (some 7) 1) rfl rfl ⟨Int.natCast_nonneg _, by omega⟩) ?_
   refine oracle_pre rfl rfl rfl (exec_ldI (p := .slice (H.push (.row [.int .i64 (a : Int), .int .i64 (b : Int), p] true (2 * 29))).n 0 7 (some 7) 1) (j := (i : Int).toNat * 1) rfl (by rw [Int.toNat_natCast, Nat.mul_one]; exact hil)) ?_
   repeat first
    | exact oracle_none _ _ _ _ rfl
    | (refine oracle_not rfl rfl ?_; (try simp only [↓nrmL, nrmZ, Nat.reduceEqDiff, ↓reduceIte, Nat.reduceAdd, Int.reduceBEq, Int.reduceBNe]))
    | (refine oracle_made rfl rfl rfl ?_; (try simp only [↓nrmL, nrmZ, Nat.reduceEqDiff, ↓reduceIte, Nat.reduceAdd, Int.reduceBEq, Int.reduceBNe]))
  simp only [pushAll]
  repeat first
   | (refine Er rfl (exec_ldN rfl rfl (by simp only [↓nrmL, nrmZ, Nat.reduceEqDiff, ↓reduceIte, Nat.reduceAdd, Int.reduceBEq, Int.reduceBNe, hk]; rfl)) rfl ?_)
   | (refine Fe.pure rfl rfl (by simp only [↓nrmL, nrmZ, Nat.reduceEqDiff, ↓reduceIte, Nat.reduceAdd, Int.reduceBEq, Int.reduceBNe, hk]; rfl) ?_)
   | (refine Fe.pure rfl (exec_idxP (by (try simp only [↓nrmL, nrmZ, Nat.reduceEqDiff, ↓reduceIte, Nat.reduceAdd, Int.reduceBEq, Int.reduceBNe, hk]); rfl) rfl ?_) (by simp only [↓nrmL, nrmZ, Nat.reduceEqDiff, ↓reduceIte, Nat.reduceAdd, Int.reduceBEq, Int.reduceBNe, hk]; rfl) ?_; (focus omega))
   | (refine Er rfl (exec_ldI rfl (by omega)) (by simp only [↓nrmL, nrmZ, Nat.reduceEqDiff, ↓reduceIte, Nat.reduceAdd, Int.reduceBEq, Int.reduceBNe, hk]; rfl) ?_)
  refine Fe.con rfl hn rfl rfl (by simp only [↓nrmL, nrmZ, Nat.reduceEqDiff, ↓reduceIte, Nat.reduceAdd, Int.reduceBEq, Int.reduceBNe, List.map, hk] <;> rfl) (K_refUnskew (w := a) (h := b) (k := k) (l := l)) fun v H5 h5 => ?_
  rw [u1] at h5
  obtain ⟨u, e1, q, e2, hqi, hf, hw, hx⟩ := h5
  subst e1 e2
  try dsimp only at hqi
  haveI : ExtI _ H5 := ⟨hx⟩
  haveI := hqi.one
  refine ar ?_
  repeat first
   | (refine Fe.pure rfl rfl (by simp only [↓nrmL, nrmZ, Nat.reduceEqDiff, ↓reduceIte, Nat.reduceAdd, Int.reduceBEq, Int.reduceBNe]; rfl) ?_)
   | refine Fe.pure rfl rfl rfl ?_
   | (refine Em rfl rfl ghost_of rfl ?_)
   | (refine Ee rfl (xs rfl (by (try simp only [↓nrmL, nrmZ, Nat.reduceEqDiff, ↓reduceIte, Nat.reduceAdd, Int.reduceBEq, Int.reduceBNe]); rfl) rfl rfl rfl (by (try simp only [↓nrmL, nrmZ, Nat.reduceEqDiff, ↓reduceIte, Nat.reduceAdd, Int.reduceBEq, Int.reduceBNe]); rfl)) ?_)
   | refine WpE.nil (hKF _ _ ?_)
  cases h9 : decide ((fullN (unskewL l a c k) a c : Int) > (fsA (fwS ⟨a, b, l⟩) (skAll.take i)).2)
  ·have e9 : fsA (fwS ⟨a, b, l⟩) (skAll.take (i + 1)) = fsA (fwS ⟨a, b, l⟩) (skAll.take i) := by rw [hta]; simp only [fsStep, u3, h9, beq_self_eq_true, cond_true, cond_false]
   simp only [h9]
   repeat first
    | refine oy ?_
    | refine mI ?_
    | refine mB ?_
    | (refine Fo.ldN rfl rfl (by simp only [↓nrmL, nrmZ, Nat.reduceEqDiff, ↓reduceIte, Nat.reduceAdd, Int.reduceBEq, Int.reduceBNe, h9]; rfl) ?_)
    | (refine bn rfl rfl rfl (by simp only [↓nrmL, nrmZ, Nat.reduceEqDiff, ↓reduceIte, Nat.reduceAdd, Int.reduceBEq, Int.reduceBNe, h9]; rfl) ?_)
    | refine b0 ?_
    | refine tB ?_
    | (refine Fo.pcall (v' := ?_) hn rfl (by simp only [↓nrmL, nrmZ, Nat.reduceEqDiff, ↓reduceIte, Nat.reduceAdd, Int.reduceBEq, Int.reduceBNe, h9, List.map]; rfl) rfl ?hv fun _ _ => ?_; case hv => rfl)
    | refine nl hKF ?_
    | refine sq ?_
    | refine rg fun KF hKF => ?_
    | refine cf rfl ?_
    | refine sk ?_
    | dsimp only [cond_true, cond_false]
   refine ⟨i + 1, by omega, ⟨by simp only [↓nrmL, nrmZ, Nat.reduceEqDiff, ↓reduceIte, Nat.reduceAdd, Int.reduceBEq, Int.reduceBNe]; rw [hw1], by simp only [↓nrmL, nrmZ, Nat.reduceEqDiff, ↓reduceIte, Nat.reduceAdd, Int.reduceBEq, Int.reduceBNe]; rw [e9], by simp only [↓nrmL, nrmZ, Nat.reduceEqDiff, ↓reduceIte, Nat.reduceAdd, Int.reduceBEq, Int.reduceBNe]; rw [e9], trivial⟩, hi7, inferInstance⟩
  ·have e9 : fsA (fwS ⟨a, b, l⟩) (skAll.take (i + 1)) = (k, (fullN (unskewL l a c k) a c : Int)) := by rw [hta]; simp only [fsStep, u3, h9, beq_self_eq_true, cond_true]
   simp only [h9, hk]
   repeat first
    | refine oy ?_
    | refine mI ?_
    | refine mB ?_
    | (refine mv ?_)
    | (refine Fo.ldN rfl rfl (by simp only [↓nrmL, nrmZ, Nat.reduceEqDiff, ↓reduceIte, Nat.reduceAdd, Int.reduceBEq, Int.reduceBNe, h9, hk]; rfl) ?_)
    | (refine bn rfl rfl rfl (by simp only [↓nrmL, nrmZ, Nat.reduceEqDiff, ↓reduceIte, Nat.reduceAdd, Int.reduceBEq, Int.reduceBNe, h9, hk]; rfl) ?_)
    | refine b0 ?_
    | refine tB ?_
    | (refine Fo.pcall (v' := ?_) hn rfl (by simp only [↓nrmL, nrmZ, Nat.reduceEqDiff, ↓reduceIte, Nat.reduceAdd, Int.reduceBEq, Int.reduceBNe, h9, hk, List.map]; rfl) rfl ?hv fun _ _ => ?_; case hv => rfl)
    | (refine Fo.idx (by simp only [↓nrmL, nrmK, Nat.reduceEqDiff, ↓reduceIte]; rfl) rfl ?_ (by simp only [↓nrmL, nrmZ, Nat.reduceEqDiff, ↓reduceIte, Nat.reduceAdd, Int.reduceBEq, Int.reduceBNe, h9, hk]; rfl) ?_; (focus omega))
    | (refine Fo.ldI rfl ?_ (by simp only [↓nrmL, nrmZ, Nat.reduceEqDiff, ↓reduceIte, Nat.reduceAdd, Int.reduceBEq, Int.reduceBNe, h9, hk]; rfl) ?_; (focus omega))
    | refine nl hKF ?_
    | refine sq ?_
    | refine rg fun KF hKF => ?_
    | refine ct rfl ?_
    | dsimp only [cond_true, cond_false]
   refine ⟨i + 1, by omega, ⟨by simp only [↓nrmL, nrmZ, Nat.reduceEqDiff, ↓reduceIte, Nat.reduceAdd, Int.reduceBEq, Int.reduceBNe]; rw [hw1], by simp only [↓nrmL, nrmZ, Nat.reduceEqDiff, ↓reduceIte, Nat.reduceAdd, Int.reduceBEq, Int.reduceBNe]; rw [e9], by simp only [↓nrmL, nrmZ, Nat.reduceEqDiff, ↓reduceIte, Nat.reduceAdd, Int.reduceBEq, Int.reduceBNe]; rw [e9], trivial⟩, hi7, inferInstance⟩
 ·obtain ⟨u1, u3⟩ := un_no ok hsk hq
  have e9 : fsA (fwS ⟨a, b, l⟩) (skAll.take (i + 1)) = fsA (fwS ⟨a, b, l⟩) (skAll.take i) := by rw [hta]; simp only [fsStep, u3]; rfl
  repeat first
   | refine mI ?_
   | (refine mv ?_)
   | (refine bn rfl rfl rfl (by simp only [↓nrmL, nrmZ, Nat.reduceEqDiff, ↓reduceIte, Nat.reduceAdd, Int.reduceBEq, Int.reduceBNe, hc]; rfl) ?_)
   | (refine ln (by simp only [↓nrmL, nrmK, Nat.reduceEqDiff, ↓reduceIte]; rfl) ?_)
   | refine nl hKF ?_
   | refine sq ?_
   | refine rg fun KF hKF => ?_
   | refine ct rfl ?_
   | refine sk ?_
   | refine Wp.block ?_
   | dsimp only [cond_true, cond_false]
  refine Fr.dregionE [.row [.int .i64 0, .int .i64 0, .nslice] true (2 * 29)] ?_ fun KF hKF => ?_
  ·skip
   refine oracle_pre rfl rfl rfl (exec_ldN rfl rfl rfl) ?_; (try simp only [↓nrmL, nrmZ, Nat.reduceEqDiff, ↓reduceIte, Nat.reduceAdd, Int.reduceBEq, Int.reduceBNe])
   refine oracle_pre rfl rfl rfl rfl ?_; (try simp only [↓nrmL, nrmZ, Nat.reduceEqDiff, ↓reduceIte, Nat.reduceAdd, Int.reduceBEq, Int.reduceBNe])
   refine oracle_pre rfl rfl rfl rfl ?_; (try simp only [↓nrmL, nrmZ, Nat.reduceEqDiff, ↓reduceIte, Nat.reduceAdd, Int.reduceBEq, Int.reduceBNe])
   refine oracle_pre rfl rfl rfl (exec_idxP (p := .slice (H.push (.row [.int .i64 (a : Int), .int .i64 (b : Int), p] true (2 * 29))).n 0 7 (some 7) 1) rfl rfl ⟨Int.natCast_nonneg _, by omega⟩) ?_
   refine oracle_pre rfl rfl rfl (exec_ldI (p := .slice (H.push (.row [.int .i64 (a : Int), .int .i64 (b : Int), p] true (2 * 29))).n 0 7 (some 7) 1) (j := (i : Int).toNat * 1) rfl (by rw [Int.toNat_natCast, Nat.mul_one]; exact hil)) ?_
   repeat first
    | exact oracle_none _ _ _ _ rfl
    | (refine oracle_not rfl rfl ?_; (try simp only [↓nrmL, nrmZ, Nat.reduceEqDiff, ↓reduceIte, Nat.reduceAdd, Int.reduceBEq, Int.reduceBNe]))
    | (refine oracle_made rfl rfl rfl ?_; (try simp only [↓nrmL, nrmZ, Nat.reduceEqDiff, ↓reduceIte, Nat.reduceAdd, Int.reduceBEq, Int.reduceBNe]))
  simp only [pushAll]
  repeat first
   | (refine Er rfl (exec_ldN rfl rfl (by simp only [↓nrmL, nrmZ, Nat.reduceEqDiff, ↓reduceIte, Nat.reduceAdd, Int.reduceBEq, Int.reduceBNe, hk]; rfl)) rfl ?_)
   | (refine Fe.pure rfl rfl (by simp only [↓nrmL, nrmZ, Nat.reduceEqDiff, ↓reduceIte, Nat.reduceAdd, Int.reduceBEq, Int.reduceBNe, hk]; rfl) ?_)
   | (refine Fe.pure rfl (exec_idxP (by (try simp only [↓nrmL, nrmZ, Nat.reduceEqDiff, ↓reduceIte, Nat.reduceAdd, Int.reduceBEq, Int.reduceBNe, hk]); rfl) rfl ?_) (by simp only [↓nrmL, nrmZ, Nat.reduceEqDiff, ↓reduceIte, Nat.reduceAdd, Int.reduceBEq, Int.reduceBNe, hk]; rfl) ?_; (focus omega))
   | (refine Er rfl (exec_ldI rfl (by omega)) (by simp only [↓nrmL, nrmZ, Nat.reduceEqDiff, ↓reduceIte, Nat.reduceAdd, Int.reduceBEq, Int.reduceBNe, hk]; rfl) ?_)
  refine Fe.con rfl hn rfl rfl (by simp only [↓nrmL, nrmZ, Nat.reduceEqDiff, ↓reduceIte, Nat.reduceAdd, Int.reduceBEq, Int.reduceBNe, List.map, hk] <;> rfl) (K_refUnskew (w := a) (h := b) (k := k) (l := l)) fun v H5 h5 => ?_
  rw [u1] at h5
  obtain ⟨u, e1, q, e2, hqi, hf, hw, hx⟩ := h5
  subst e1 e2
  try dsimp only [Img.zero] at hqi
  haveI : ExtI _ H5 := ⟨hx⟩
  haveI := hqi.one
  refine ar ?_
  repeat first
   | (refine Fe.pure rfl rfl (by simp only [↓nrmL, nrmZ, Nat.reduceEqDiff, ↓reduceIte, Nat.reduceAdd, Int.reduceBEq, Int.reduceBNe]; rfl) ?_)
   | refine Fe.pure rfl rfl rfl ?_
   | (refine Em rfl rfl ghost_of rfl ?_)
   | (refine Ee rfl (xs rfl (by (try simp only [↓nrmL, nrmZ, Nat.reduceEqDiff, ↓reduceIte, Nat.reduceAdd, Int.reduceBEq, Int.reduceBNe]); rfl) rfl rfl rfl (by (try simp only [↓nrmL, nrmZ, Nat.reduceEqDiff, ↓reduceIte, Nat.reduceAdd, Int.reduceBEq, Int.reduceBNe]); rfl)) ?_)
   | refine WpE.nil (hKF _ _ ?_)
  repeat first
   | refine ox ?_
   | refine mI ?_
   | refine mB ?_
   | (refine bn rfl rfl rfl (by simp only [↓nrmL, nrmZ, Nat.reduceEqDiff, ↓reduceIte, Nat.reduceAdd, Int.reduceBEq, Int.reduceBNe]; rfl) ?_)
   | refine b0 ?_
   | refine fB ?_
   | refine nl hKF ?_
   | refine sq ?_
   | refine rg fun KF hKF => ?_
   | refine cf rfl ?_
   | refine sk ?_
   | dsimp only [cond_true, cond_false]
  refine ⟨i + 1, by omega, ⟨by simp only [↓nrmL, nrmZ, Nat.reduceEqDiff, ↓reduceIte, Nat.reduceAdd, Int.reduceBEq, Int.reduceBNe]; rw [hw1], by simp only [↓nrmL, nrmZ, Nat.reduceEqDiff, ↓reduceIte, Nat.reduceAdd, Int.reduceBEq, Int.reduceBNe]; rw [e9], by simp only [↓nrmL, nrmZ, Nat.reduceEqDiff, ↓reduceIte, Nat.reduceAdd, Int.reduceBEq, Int.reduceBNe]; rw [e9], trivial⟩, hi7, inferInstance⟩
end Go.Am
namespace Go.Am
open Go
def lvU (s : Int × Int) (a b : Int) : Int × Int := bif decide (b - a > s.2) then ((a + b + 1).tdiv 2, b - a) else s
def lvP (c : Nat → Int) : Nat → (Int × Int) × Int
  | 0 => ((128, 0), -1)
  | i + 1 => bif c i == 0 then lvP c i else ((bif decide ((lvP c i).2 ≥ 0) then lvU (lvP c i).1 (lvP c i).2 i else (lvP c i).1), (i : Int))
def nxL (c : Nat → Int) : Nat → Nat → Option Nat
  | 0, _ => none
  | f + 1, j => bif c j == 0 then nxL c f (j + 1) else some j
def lvR (c : Nat → Int) : Nat → Int × Int
  | 0 => (128, 0)
  | a + 1 => bif c a == 0 then lvR c a else match nxL c (256 - (a + 1)) (a + 1) with | some b => lvU (lvR c a) a b | none => lvR c a
theorem nx_skip {c : Nat → Int} {j : Nat} (hj : j < 256) (h : (c j == 0) = true) : nxL c (256 - j) j = nxL c (256 - (j + 1)) (j + 1) := by
  obtain ⟨f, hf⟩ : ∃ f, 256 - j = f + 1 := ⟨255 - j, by omega⟩
  rw [hf, show 256 - (j + 1) = f by omega]
  simp only [nxL, h, cond_true]
theorem nx_hit {c : Nat → Int} {j : Nat} (hj : j < 256) (h : (c j == 0) = false) : nxL c (256 - j) j = some j := by
  obtain ⟨f, hf⟩ : ∃ f, 256 - j = f + 1 := ⟨255 - j, by omega⟩
  rw [hf]
  simp only [nxL, h, cond_false]
theorem nx_far {c : Nat → Int} {a : Nat} : ∀ i, a ≤ i → i ≤ 256 → (∀ j, a ≤ j → j < i → (c j == 0) = true) → nxL c (256 - a) a = nxL c (256 - i) i
  | i, h1, h2, h3 => by
    induction i with
    | zero => rw [show a = 0 by omega]
    | succ i ih =>
      by_cases e : a = i + 1
      · rw [e]
      · rw [ih (by omega) (by omega) fun j p q => h3 j p (by omega), nx_skip (by omega) (h3 i (by omega) (by omega))]
theorem lvR_far {c : Nat → Int} {a : Nat} : ∀ i, a ≤ i → (∀ j, a ≤ j → j < i → (c j == 0) = true) → lvR c i = lvR c a
  | 0, h1, _ => by rw [show a = 0 by omega]
  | i + 1, h1, h3 => by
    by_cases e : a = i + 1
    · rw [e]
    · have h := h3 i (by omega) (by omega)
      have : lvR c (i + 1) = lvR c i := by simp only [lvR, h, cond_true]
      rw [this]
      exact lvR_far i (by omega) fun j p q => h3 j p (by omega)
theorem lvP_inv (c : Nat → Int) : ∀ i, i ≤ 256 → ((lvP c i).2 = -1 ∧ (lvP c i).1 = lvR c 0 ∧ ∀ j, j < i → (c j == 0) = true) ∨ ∃ a : Nat, a < i ∧ (lvP c i).2 = (a : Int) ∧ (c a == 0) = false ∧ (lvP c i).1 = lvR c a ∧ ∀ j, a + 1 ≤ j → j < i → (c j == 0) = true
  | 0, _ => Or.inl ⟨rfl, rfl, fun j hj => by omega⟩
  | i + 1, hi => by
    cases h0 : (c i == 0)
    · right
      refine ⟨i, Nat.lt_succ_self _, by simp only [lvP, h0, cond_false], h0, ?_, fun j p q => by omega⟩
      simp only [lvP, h0, cond_false]
      rcases lvP_inv c i (by omega) with ⟨h1, h2, h3⟩ | ⟨a, h1, h2, h3, h4, h5⟩
      · rw [h1, decide_eq_false (by decide), cond_false, h2]
        exact (lvR_far i (Nat.zero_le _) fun j _ q => h3 j q).symm
      · rw [h2, decide_eq_true (by omega), cond_true, h4]
        have e1 : nxL c (256 - (a + 1)) (a + 1) = some i := by rw [nx_far i h1 (by omega) h5]; exact nx_hit (by omega) h0
        have e2 : lvR c (a + 1) = lvU (lvR c a) a i := by simp only [lvR, h3, cond_false, e1]
        rw [← e2]
        exact (lvR_far i h1 h5).symm
    · have e : lvP c (i + 1) = lvP c i := by simp only [lvP, h0, cond_true]
      rw [e]
      rcases lvP_inv c i (by omega) with ⟨h1, h2, h3⟩ | ⟨a, h1, h2, h3, h4, h5⟩
      · exact Or.inl ⟨h1, h2, fun j hj => by
          by_cases q : j = i
          · rw [q]; exact h0
          · exact h3 j (by omega)⟩
      · exact Or.inr ⟨a, by omega, h2, h3, h4, fun j p hj => by
          by_cases q : j = i
          · rw [q]; exact h0
          · exact h5 j p (by omega)⟩
theorem lv_same (c : Nat → Int) : (lvP c 256).1 = lvR c 256 := by
  rcases lvP_inv c 256 (Nat.le_refl _) with ⟨_, h2, h3⟩ | ⟨a, h1, _, h3, h4, h5⟩
  · rw [h2, lvR_far (c := c) 256 (Nat.zero_le _) fun j _ q => h3 j q]
  · have e1 : nxL c (256 - (a + 1)) (a + 1) = none := by rw [nx_far 256 (by omega) (Nat.le_refl _) h5]; rfl
    have e2 : lvR c (a + 1) = lvR c a := by simp only [lvR, h3, cond_false, e1]
    rw [h4, ← e2]
    exact (lvR_far 256 (by omega) h5).symm
theorem lvP_bd (c : Nat → Int) : ∀ i, -1 ≤ (lvP c i).2 ∧ (lvP c i).2 < i ∨ ((lvP c i).2 = -1)
  | 0 => Or.inr rfl
  | i + 1 => by
    have := lvP_bd c i
    simp only [lvP]
    cases (c i == 0)
    · left; simp only [cond_false]; omega
    · simp only [cond_true]; omega
def levelS (g : Img) : Int × Int := bif g.sized then ((lvP (fun i => (lv g.px).getD i 0) 256).1.1, 0) else (0, 2)
end Go.Am
namespace Go.Am
open Go
attribute [local irreducible] Wp WpO WpX WpE
theorem lv_get {l : List UInt8} {i : Nat} (h : i < (lv l).length) : (lv l)[i] = (lv l).getD i 0 := by
 rw [List.getD_eq_getElem?_getD, List.getElem?_eq_getElem h, Option.getD_some]
instance K_Level {w h : Int} {p : AVal} {H : AHeap} {l : List UInt8} [hp : BytesI H p l] : PureCon ext prog 18 [.agg [.int .i64 w, .int .i64 h, p]] H 5 (.tuple [.int .i64 (levelS ⟨w, h, l⟩).1, .int .i64 (levelS ⟨w, h, l⟩).2]) := ⟨by
 refine con_of (show prog 18 = some c18 from rfl) rfl rfl fun n hn => ?_
 haveI := hp.one
 cases hs : Img.sized ⟨w, h, l⟩
 ·have e1 : levelS ⟨w, h, l⟩ = (0, 2) := by simp only [levelS, hs, cond_false]
  have e2 : lvSpec ⟨w, h, l⟩ = ([], 2) := by simp [lvSpec, hs]
  rw [e1]
  repeat first
   | refine mI ?_
   | (refine Fo.ldN rfl rfl (by simp only [↓nrmL, nrmZ, Nat.reduceEqDiff, ↓reduceIte]; rfl) ?_)
   | refine bA ?_
   | refine nl hKF ?_
   | refine sq ?_
   | refine rg fun KF hKF => ?_
  refine WpO.do (WpX.conD hn rfl rfl (by simp only [↓nrmL, nrmZ, Nat.reduceEqDiff, ↓reduceIte, List.map] <;> rfl) (K_Levels (w := w) (h := h) (l := l)) fun v H1 h5 => ?_)
  rw [e2] at h5
  obtain ⟨q, rfl, hq, hf, hw, hx⟩ := h5
  haveI : ExtI _ H1 := ⟨hx⟩
  haveI := hq.one
  repeat first
   | refine mI ?_
   | refine mT ?_
   | (refine mv ?_)
   | (refine bn rfl rfl rfl (by simp only [↓nrmL, nrmZ, Nat.reduceEqDiff, ↓reduceIte]; rfl) ?_)
   | refine xt ?_
   | refine nl hKF ?_
   | refine sq ?_
   | refine rg fun KF hKF => ?_
   | refine ct rfl ?_
   | refine rt ?_
  refine rz trivial ?_
  exact ⟨rfl, Ext0.ext⟩
 have e1 : levelS ⟨w, h, l⟩ = ((lvP (fun i => (lv l).getD i 0) 256).1.1, 0) := by simp only [levelS, hs, cond_true]
 have e2 : lvSpec ⟨w, h, l⟩ = (lv l, 0) := by simp [lvSpec, hs]
 rw [e1]
 repeat first
  | refine mI ?_
  | (refine Fo.ldN rfl rfl (by simp only [↓nrmL, nrmZ, Nat.reduceEqDiff, ↓reduceIte]; rfl) ?_)
  | refine bA ?_
  | refine nl hKF ?_
  | refine sq ?_
  | refine rg fun KF hKF => ?_
 refine WpO.do (WpX.conD hn rfl rfl (by simp only [↓nrmL, nrmZ, Nat.reduceEqDiff, ↓reduceIte, List.map] <;> rfl) (K_Levels (w := w) (h := h) (l := l)) fun v H1 h5 => ?_)
 rw [e2] at h5
 obtain ⟨q, rfl, hq, hf, hw, hx⟩ := h5
 haveI : ExtI _ H1 := ⟨hx⟩
 have hq : IntsI H1 q (lv l) := hq
 haveI := hq.one
 have hll := lv_length l
 repeat first
  | refine mI ?_
  | refine mT ?_
  | (refine mv ?_)
  | (refine bn rfl rfl rfl (by simp only [↓nrmL, nrmZ, Nat.reduceEqDiff, ↓reduceIte]; rfl) ?_)
  | refine xt ?_
  | (refine ln (by simp only [↓nrmL, nrmK, Nat.reduceEqDiff, ↓reduceIte]; rfl) ?_)
  | refine nl hKF ?_
  | refine sq ?_
  | refine rg fun KF hKF => ?_
  | refine cf rfl ?_
  | refine sk ?_
  | refine Wp.block ?_
 refine Wp.loopS [6,7,8,9,10,11,22,23,24,25,26,27,28,29,30,31,32,33,34,35,36,37,38,39,40,41,42,43,44,45,46,47,48] (fun i : Nat => [(22, .int .i64 i), (6, .int .i64 (lvP (fun i => (lv l).getD i 0) i).1.1), (7, .int .i64 (lvP (fun i => (lv l).getD i 0) i).1.2), (8, .int .i64 (lvP (fun i => (lv l).getD i 0) i).2)]) (fun H3 i H2 => i ≤ 256 ∧ H2 = H3) (fun i => 256 - i) 0 rfl (fun _ => rfl) ⟨rfl, rfl, rfl, rfl, trivial⟩ ⟨Nat.zero_le _, rfl⟩ (by unfold fuel0 at hn; omega) ?_
 rintro i g H2 ⟨hi, rfl⟩
 simp only [↓nrmL, nrmZ, Nat.reduceEqDiff, ↓reduceIte]
 cases hc : decide ((i : Int) < (((lv l).length : Nat) : Int))
 ·have hil : i = 256 := by have := of_decide_eq_false hc; omega
  subst hil
  repeat first
   | refine mI ?_
   | (refine bn rfl rfl rfl (by simp only [hc]; rfl) ?_)
   | refine nl hKF ?_
   | refine sq ?_
   | refine rg fun KF hKF => ?_
   | refine cf rfl ?_
   | refine rt ?_
   | refine xi ?_
  refine rz trivial ?_
  exact ⟨rfl, Ext0.ext⟩
 have hil : i < 256 := by have := of_decide_eq_true hc; omega
 have hilt : i < (lv l).length := by omega
 have hw1 := wa1 (a := i) (by omega)
 have hge := lv_get hilt
 obtain ⟨P, hP⟩ : ∃ P, lvP (fun i => (lv l).getD i 0) i = P := ⟨_, rfl⟩
 have hbd := lvP_bd (fun i => (lv l).getD i 0) i
 have hnx : lvP (fun i => (lv l).getD i 0) (i + 1) = bif (lv l).getD i 0 == 0 then P else ((bif decide (P.2 ≥ 0) then lvU P.1 P.2 i else P.1), (i : Int)) := by rw [← hP]; rfl
 rw [hP] at hbd
 simp only [hP]
 cases h0 : ((lv l).getD i 0 == 0)
 ·rw [h0, cond_false] at hnx
  cases g1 : decide (P.2 ≥ 0)
  ·rw [g1, cond_false] at hnx
   repeat first
    | refine ox ?_
    | refine mI ?_
    | refine mB ?_
    | (refine bn rfl rfl rfl (by simp only [hc, hge, h0, g1]; rfl) ?_)
    | refine b0 ?_
    | refine fB ?_
    | (refine Fo.idx (by simp only [↓nrmL, nrmK, Nat.reduceEqDiff, ↓reduceIte]; rfl) rfl ?_ (by simp only [↓nrmL, nrmZ, Nat.reduceEqDiff, ↓reduceIte, hc, hge, h0, g1]; rfl) ?_; (focus omega))
    | (refine Fo.ldI rfl ?_ (by simp only [hc, hge, h0, g1]; rfl) ?_; (focus omega))
    | refine nl hKF ?_
    | refine sq ?_
    | refine rg fun KF hKF => ?_
    | refine ct rfl ?_
    | refine cf rfl ?_
    | refine sk ?_
    | refine Wp.block ?_
   refine ⟨i + 1, by omega, ⟨by simp only [↓nrmL, nrmZ, Nat.reduceEqDiff, ↓reduceIte]; rw [hw1], by simp only [↓nrmL, nrmZ, Nat.reduceEqDiff, ↓reduceIte]; rw [hnx], by simp only [↓nrmL, nrmZ, Nat.reduceEqDiff, ↓reduceIte]; rw [hnx], by simp only [↓nrmL, nrmZ, Nat.reduceEqDiff, ↓reduceIte]; rw [hnx], trivial⟩, hil, rfl⟩
  rw [g1, cond_true] at hnx
  have w1 : IntKind.i64.wrap ((i : Int) - P.2) = (i : Int) - P.2 := w64 (by omega)
  cases g2 : decide ((i : Int) - P.2 > P.1.2)
  ·have e3 : lvU P.1 P.2 i = P.1 := by unfold lvU; rw [g2]; rfl
   rw [e3] at hnx
   repeat first
    | refine oy ?_
    | refine mI ?_
    | refine mB ?_
    | (refine bn rfl rfl rfl (by simp only [hc, hge, h0, g1, w1, g2]; rfl) ?_)
    | refine b0 ?_
    | refine tB ?_
    | (refine Fo.idx (by simp only [↓nrmL, nrmK, Nat.reduceEqDiff, ↓reduceIte]; rfl) rfl ?_ (by simp only [↓nrmL, nrmZ, Nat.reduceEqDiff, ↓reduceIte, hc, hge, h0, g1, w1, g2]; rfl) ?_; (focus omega))
    | (refine Fo.ldI rfl ?_ (by simp only [hc, hge, h0, g1, w1, g2]; rfl) ?_; (focus omega))
    | refine nl hKF ?_
    | refine sq ?_
    | refine rg fun KF hKF => ?_
    | refine ct rfl ?_
    | refine cf rfl ?_
    | refine sk ?_
    | refine Wp.block ?_
   refine ⟨i + 1, by omega, ⟨by simp only [↓nrmL, nrmZ, Nat.reduceEqDiff, ↓reduceIte]; rw [hw1], by simp only [↓nrmL, nrmZ, Nat.reduceEqDiff, ↓reduceIte]; rw [hnx], by simp only [↓nrmL, nrmZ, Nat.reduceEqDiff, ↓reduceIte]; rw [hnx], by simp only [↓nrmL, nrmZ, Nat.reduceEqDiff, ↓reduceIte]; rw [hnx], trivial⟩, hil, rfl⟩
  ·have e3 : lvU P.1 P.2 i = ((P.2 + i + 1).tdiv 2, (i : Int) - P.2) := by unfold lvU; rw [g2]; rfl
   rw [e3] at hnx
   have w2 : IntKind.i64.wrap (P.2 + (i : Int)) = P.2 + (i : Int) := w64 (by omega)
   have w3 : IntKind.i64.wrap (P.2 + (i : Int) + 1) = P.2 + (i : Int) + 1 := w64 (by omega)
   have w4 : IntKind.i64.wrap ((P.2 + (i : Int) + 1).tdiv 2) = (P.2 + (i : Int) + 1).tdiv 2 := by
    have := of_decide_eq_true g1
    obtain ⟨z, hz⟩ : ∃ z : Nat, P.2 + (i : Int) + 1 = z := ⟨(P.2 + (i : Int) + 1).toNat, by omega⟩
    rw [hz, show ((z : Nat) : Int).tdiv 2 = ((z / 2 : Nat) : Int) from rfl]
    exact w64 (by omega)
   repeat first
    | refine oy ?_
    | refine mI ?_
    | refine mB ?_
    | (refine bn rfl rfl rfl (by simp only [hc, hge, h0, g1, w1, g2, w2, w3, w4]; rfl) ?_)
    | refine b0 ?_
    | refine tB ?_
    | (refine Fo.idx (by simp only [↓nrmL, nrmK, Nat.reduceEqDiff, ↓reduceIte]; rfl) rfl ?_ (by simp only [↓nrmL, nrmZ, Nat.reduceEqDiff, ↓reduceIte, hc, hge, h0, g1, w1, g2, w2, w3, w4]; rfl) ?_; (focus omega))
    | (refine Fo.ldI rfl ?_ (by simp only [hc, hge, h0, g1, w1, g2, w2, w3, w4]; rfl) ?_; (focus omega))
    | refine nl hKF ?_
    | refine sq ?_
    | refine rg fun KF hKF => ?_
    | refine ct rfl ?_
    | refine cf rfl ?_
    | refine sk ?_
    | refine Wp.block ?_
   refine ⟨i + 1, by omega, ⟨by simp only [↓nrmL, nrmZ, Nat.reduceEqDiff, ↓reduceIte]; rw [hw1], by simp only [↓nrmL, nrmZ, Nat.reduceEqDiff, ↓reduceIte]; rw [hnx], by simp only [↓nrmL, nrmZ, Nat.reduceEqDiff, ↓reduceIte]; rw [hnx], by simp only [↓nrmL, nrmZ, Nat.reduceEqDiff, ↓reduceIte]; rw [hnx], trivial⟩, hil, rfl⟩
 ·rw [h0, cond_true] at hnx
  repeat first
   | refine mI ?_
   | (refine bn rfl rfl rfl (by simp only [hc, hge, h0]; rfl) ?_)
   | refine b0 ?_
   | (refine Fo.idx (by simp only [↓nrmL, nrmK, Nat.reduceEqDiff, ↓reduceIte]; rfl) rfl ?_ (by simp only [↓nrmL, nrmZ, Nat.reduceEqDiff, ↓reduceIte, hc, hge, h0]; rfl) ?_; (focus omega))
   | (refine Fo.ldI rfl ?_ (by simp only [hc, hge, h0]; rfl) ?_; (focus omega))
   | refine nl hKF ?_
   | refine sq ?_
   | refine rg fun KF hKF => ?_
   | refine ct rfl ?_
   | refine sk ?_
   | refine Wp.block ?_
   | refine xi ?_
  refine ⟨i + 1, by omega, ⟨by simp only [↓nrmL, nrmZ, Nat.reduceEqDiff, ↓reduceIte]; rw [hw1], by simp only [↓nrmL, nrmZ, Nat.reduceEqDiff, ↓reduceIte]; rw [hnx], by simp only [↓nrmL, nrmZ, Nat.reduceEqDiff, ↓reduceIte]; rw [hnx], by simp only [↓nrmL, nrmZ, Nat.reduceEqDiff, ↓reduceIte]; rw [hnx], trivial⟩, hil, rfl⟩⟩
class Small (l : List UInt8) : Prop where
 le : l.length ≤ 409600
instance K_refLevel {w h : Int} {p : AVal} {H : AHeap} {l : List UInt8} [hp : BytesI H p l] [hs : Small l] : PureCon ext prog 30 [.agg [.int .i64 w, .int .i64 h, p]] H 2 (.int .i64 (lvR (fun i => (lv l).getD i 0) 256).1) := ⟨by
 refine con_of (show prog 30 = some c30 from rfl) rfl rfl fun n hn => ?_
 haveI := hp.one
 have hle := hs.le
 repeat first
  | refine mI ?_
  | (refine Fo.ldN rfl rfl (by simp only [↓nrmL, nrmZ, Nat.reduceEqDiff, ↓reduceIte]; rfl) ?_)
  | refine bA ?_
  | refine nl hKF ?_
  | refine sq ?_
  | refine rg fun KF hKF => ?_
 refine WpO.do (WpX.conD hn rfl rfl (by simp only [↓nrmL, nrmZ, Nat.reduceEqDiff, ↓reduceIte, List.map] <;> rfl) (K_refLevels (w := w) (h := h) (l := l) hle) fun q H1 h5 => ?_)
 obtain ⟨hq, hf, hw, hx⟩ := h5
 haveI : ExtI _ H1 := ⟨hx⟩
 haveI := hq.one
 have hll := lv_length l
 repeat first
  | refine mI ?_
  | (refine mv ?_)
  | refine nl hKF ?_
  | refine sq ?_
  | refine rg fun KF hKF => ?_
  | refine Wp.block ?_
 refine Wp.loopS [4,5,6,7,10,11,12,13,14,15,16,17,18,19,20,21,22,23,24,25,26,27,28,29,30,31,32,33,34,35,36,37,38,39,40,41,42,43,44] (fun a : Nat => [(6, .int .i64 a), (4, .int .i64 (lvR (fun i => (lv l).getD i 0) a).1), (5, .int .i64 (lvR (fun i => (lv l).getD i 0) a).2)]) (fun H3 a H2 => a ≤ 256 ∧ H2 = H3) (fun a => 256 - a) 0 rfl (fun _ => rfl) ⟨rfl, rfl, rfl, trivial⟩ ⟨Nat.zero_le _, rfl⟩ (by unfold fuel0 at hn; omega) ?_
 rintro a g H2 ⟨ha, rfl⟩
 simp only [↓nrmL, nrmZ, Nat.reduceEqDiff, ↓reduceIte]
 cases hc : decide ((a : Int) < 256)
 ·have hil : a = 256 := by have := of_decide_eq_false hc; omega
  subst hil
  repeat first
   | refine mI ?_
   | (refine bn rfl rfl rfl (by simp only [hc]; rfl) ?_)
   | refine nl hKF ?_
   | refine sq ?_
   | refine rg fun KF hKF => ?_
   | refine cf rfl ?_
   | refine rt ?_
   | refine xi ?_
  refine rz trivial ?_
  exact ⟨rfl, Ext0.ext⟩
 have hal : a < 256 := by have := of_decide_eq_true hc; omega
 have halt : a < (lv l).length := by omega
 have hw1 := wa1 (a := a) (by omega)
 have hga := lv_get halt
 have hb0 := lv_bound l a
 obtain ⟨P, hP⟩ : ∃ P, lvR (fun i => (lv l).getD i 0) a = P := ⟨_, rfl⟩
 have hnx : lvR (fun i => (lv l).getD i 0) (a + 1) = bif (lv l).getD a 0 == 0 then P else match nxL (fun i => (lv l).getD i 0) (256 - (a + 1)) (a + 1) with | some b => lvU P a b | none => P := by rw [← hP]; rfl
 simp only [hP]
 cases h0 : ((lv l).getD a 0 == 0)
 rotate_left
 ·have k1 : decide ((lv l).getD a 0 > 0) = false := decide_eq_false (by have := eq_of_beq h0; omega)
  rw [h0, cond_true] at hnx
  cases k2 : decide (((a + 1 : Nat) : Int) < 256)
  ·skip
   repeat first
    | refine mI ?_
    | (refine bn rfl rfl rfl (by simp only [hc, hw1]; rfl) ?_)
    | refine nl hKF ?_
    | refine sq ?_
    | refine rg fun KF hKF => ?_
    | refine ct rfl ?_
    | refine sk ?_
    | refine Wp.block ?_
   refine Wp.rounds (WpN.round (by unfold fuel0 at hn; omega) ?_)
   repeat first
    | refine ox ?_
    | refine mI ?_
    | refine mB ?_
    | (refine bn rfl rfl rfl (by simp only [k2]; rfl) ?_)
    | refine b0 ?_
    | refine fB ?_
    | refine nl hKF ?_
    | refine sq ?_
    | refine rg fun KF hKF => ?_
    | refine cf rfl ?_
    | refine xi ?_
   refine ⟨a + 1, by omega, ⟨by simp only [↓nrmL, nrmZ, Nat.reduceEqDiff, ↓reduceIte]; rw [hw1], by simp only [↓nrmL, nrmZ, Nat.reduceEqDiff, ↓reduceIte]; rw [hnx], by simp only [↓nrmL, nrmZ, Nat.reduceEqDiff, ↓reduceIte]; rw [hnx], trivial⟩, hal, rfl⟩
  ·skip
   repeat first
    | refine mI ?_
    | (refine bn rfl rfl rfl (by simp only [hc, hw1]; rfl) ?_)
    | refine nl hKF ?_
    | refine sq ?_
    | refine rg fun KF hKF => ?_
    | refine ct rfl ?_
    | refine sk ?_
    | refine Wp.block ?_
   refine Wp.rounds (WpN.round (by unfold fuel0 at hn; omega) ?_)
   repeat first
    | refine oy ?_
    | refine mI ?_
    | refine mB ?_
    | (refine mv ?_)
    | (refine bn rfl rfl rfl (by simp only [k2, hga, k1]; rfl) ?_)
    | refine b0 ?_
    | refine tB ?_
    | (refine Fo.idx (by simp only [↓nrmL, nrmK, Nat.reduceEqDiff, ↓reduceIte]; rfl) rfl ?_ (by simp only [↓nrmL, nrmZ, Nat.reduceEqDiff, ↓reduceIte, k2, hga, k1]; rfl) ?_; (focus omega))
    | (refine Fo.ldI rfl ?_ (by simp only [k2, hga, k1]; rfl) ?_; (focus omega))
    | refine nl hKF ?_
    | refine sq ?_
    | refine rg fun KF hKF => ?_
    | refine cf rfl ?_
    | refine xi ?_
   refine ⟨a + 1, by omega, ⟨by simp only [↓nrmL, nrmZ, Nat.reduceEqDiff, ↓reduceIte]; rw [hw1], by simp only [↓nrmL, nrmZ, Nat.reduceEqDiff, ↓reduceIte]; rw [hnx], by simp only [↓nrmL, nrmZ, Nat.reduceEqDiff, ↓reduceIte]; rw [hnx], trivial⟩, hal, rfl⟩
 have h3 : (lv l).getD a 0 ≠ 0 := by simpa using h0
 have k1 : decide ((lv l).getD a 0 > 0) = true := decide_eq_true (by omega)
 rw [h0, cond_false] at hnx
 repeat first
  | refine mI ?_
  | (refine bn rfl rfl rfl (by simp only [hc, hw1]; rfl) ?_)
  | refine nl hKF ?_
  | refine sq ?_
  | refine rg fun KF hKF => ?_
  | refine ct rfl ?_
  | refine sk ?_
  | refine Wp.block ?_
 refine Wp.loopS [4,5,7,16,17,18,19,20,21,22,23,24,25,26,27,28,29,30,31,32,33,34,35,36,37,38,39,40,41,42,43,44] (fun b : Nat => [(7, .int .i64 b), (4, .int .i64 P.1), (5, .int .i64 P.2)]) (fun H3 b H4 => a + 1 ≤ b ∧ b ≤ 256 ∧ nxL (fun i => (lv l).getD i 0) (256 - (a + 1)) (a + 1) = nxL (fun i => (lv l).getD i 0) (256 - b) b ∧ H4 = H3) (fun b => 256 - b) (a + 1) rfl (fun _ => rfl) ⟨rfl, rfl, rfl, trivial⟩ ⟨Nat.le_refl _, hal, rfl, rfl⟩ (by unfold fuel0 at hn; omega) ?_
 rintro b g2 H4 ⟨hab, hb, hn2, rfl⟩
 simp only [↓nrmL, nrmZ, Nat.reduceEqDiff, ↓reduceIte]
 cases hcb : decide ((b : Int) < 256)
 ·have hbl : b = 256 := by have := of_decide_eq_false hcb; omega
  rw [hbl] at hn2
  rw [hn2] at hnx
  repeat first
   | refine ox ?_
   | refine mI ?_
   | refine mB ?_
   | (refine bn rfl rfl rfl (by simp only [hcb]; rfl) ?_)
   | refine b0 ?_
   | refine fB ?_
   | refine nl hKF ?_
   | refine sq ?_
   | refine rg fun KF hKF => ?_
   | refine cf rfl ?_
   | refine xi ?_
  refine ⟨a + 1, by omega, ⟨by simp only [↓nrmL, nrmZ, Nat.reduceEqDiff, ↓reduceIte]; rw [hw1], by simp only [↓nrmL, nrmZ, Nat.reduceEqDiff, ↓reduceIte]; rw [hnx]; rfl, by simp only [↓nrmL, nrmZ, Nat.reduceEqDiff, ↓reduceIte]; rw [hnx]; rfl, trivial⟩, hal, rfl⟩
 have hbl : b < 256 := by have := of_decide_eq_true hcb; omega
 have hblt : b < (lv l).length := by omega
 have hwb := wa1 (a := b) (by omega)
 have hgb := lv_get hblt
 cases h2 : ((lv l).getD b 0 == 0)
 rotate_left
 ·rw [nx_skip hbl h2] at hn2
  repeat first
   | refine oy ?_
   | refine mI ?_
   | refine mB ?_
   | (refine mv ?_)
   | (refine bn rfl rfl rfl (by simp only [hcb, hga, k1, hgb, h2]; rfl) ?_)
   | refine b0 ?_
   | refine tB ?_
   | (refine Fo.idx (by simp only [↓nrmL, nrmK, Nat.reduceEqDiff, ↓reduceIte]; rfl) rfl ?_ (by simp only [↓nrmL, nrmZ, Nat.reduceEqDiff, ↓reduceIte, hcb, hga, k1, hgb, h2]; rfl) ?_; (focus omega))
   | (refine Fo.ldI rfl ?_ (by simp only [hcb, hga, k1, hgb, h2]; rfl) ?_; (focus omega))
   | refine nl hKF ?_
   | refine sq ?_
   | refine rg fun KF hKF => ?_
   | refine ct rfl ?_
   | refine sk ?_
   | refine Wp.block ?_
   | refine xi ?_
  refine ⟨b + 1, by omega, ⟨by simp only [↓nrmL, nrmZ, Nat.reduceEqDiff, ↓reduceIte]; rw [hwb], rfl, rfl, trivial⟩, by omega, hbl, hn2, rfl⟩
 rw [nx_hit hbl h2] at hn2
 rw [hn2] at hnx
 have w1 : IntKind.i64.wrap ((b : Int) - (a : Int)) = (b : Int) - (a : Int) := w64 (by omega)
 cases g3 : decide ((b : Int) - (a : Int) > P.2)
 ·have e3 : lvU P a b = P := by unfold lvU; rw [g3]; rfl
  have hnx : lvR (fun i => (lv l).getD i 0) (a + 1) = P := hnx.trans e3
  repeat first
   | refine oy ?_
   | refine mI ?_
   | refine mB ?_
   | (refine mv ?_)
   | (refine bn rfl rfl rfl (by simp only [hcb, hga, k1, hgb, h2, w1, g3]; rfl) ?_)
   | refine b0 ?_
   | refine tB ?_
   | (refine Fo.idx (by simp only [↓nrmL, nrmK, Nat.reduceEqDiff, ↓reduceIte]; rfl) rfl ?_ (by simp only [↓nrmL, nrmZ, Nat.reduceEqDiff, ↓reduceIte, hcb, hga, k1, hgb, h2, w1, g3]; rfl) ?_; (focus omega))
   | (refine Fo.ldI rfl ?_ (by simp only [hcb, hga, k1, hgb, h2, w1, g3]; rfl) ?_; (focus omega))
   | refine nl hKF ?_
   | refine sq ?_
   | refine rg fun KF hKF => ?_
   | refine ct rfl ?_
   | refine cf rfl ?_
   | refine sk ?_
   | refine Wp.block ?_
   | refine xi ?_
  refine ⟨a + 1, by omega, ⟨by simp only [↓nrmL, nrmZ, Nat.reduceEqDiff, ↓reduceIte]; rw [hw1], by simp only [↓nrmL, nrmZ, Nat.reduceEqDiff, ↓reduceIte]; rw [hnx], by simp only [↓nrmL, nrmZ, Nat.reduceEqDiff, ↓reduceIte]; rw [hnx], trivial⟩, hal, rfl⟩
 ·have e3 : lvU P a b = (((a : Int) + b + 1).tdiv 2, (b : Int) - a) := by unfold lvU; rw [g3]; rfl
  have hnx : lvR (fun i => (lv l).getD i 0) (a + 1) = (((a : Int) + b + 1).tdiv 2, (b : Int) - a) := hnx.trans e3
  have w2 : IntKind.i64.wrap ((a : Int) + (b : Int)) = (a : Int) + (b : Int) := w64 (by omega)
  have w3 : IntKind.i64.wrap ((a : Int) + (b : Int) + 1) = (a : Int) + (b : Int) + 1 := w64 (by omega)
  have w4 : IntKind.i64.wrap (((a : Int) + (b : Int) + 1).tdiv 2) = ((a : Int) + (b : Int) + 1).tdiv 2 := by
   rw [show (a : Int) + (b : Int) + 1 = ((a + b + 1 : Nat) : Int) by omega, show ((a + b + 1 : Nat) : Int).tdiv 2 = (((a + b + 1) / 2 : Nat) : Int) from rfl]
   exact w64 (by omega)
  repeat first
   | refine oy ?_
   | refine mI ?_
   | refine mB ?_
   | (refine mv ?_)
   | (refine bn rfl rfl rfl (by simp only [hcb, hga, k1, hgb, h2, w1, g3, w2, w3, w4]; rfl) ?_)
   | refine b0 ?_
   | refine tB ?_
   | (refine Fo.idx (by simp only [↓nrmL, nrmK, Nat.reduceEqDiff, ↓reduceIte]; rfl) rfl ?_ (by simp only [↓nrmL, nrmZ, Nat.reduceEqDiff, ↓reduceIte, hcb, hga, k1, hgb, h2, w1, g3, w2, w3, w4]; rfl) ?_; (focus omega))
   | (refine Fo.ldI rfl ?_ (by simp only [hcb, hga, k1, hgb, h2, w1, g3, w2, w3, w4]; rfl) ?_; (focus omega))
   | refine nl hKF ?_
   | refine sq ?_
   | refine rg fun KF hKF => ?_
   | refine ct rfl ?_
   | refine cf rfl ?_
   | refine sk ?_
   | refine Wp.block ?_
   | refine xi ?_
  refine ⟨a + 1, by omega, ⟨by simp only [↓nrmL, nrmZ, Nat.reduceEqDiff, ↓reduceIte]; rw [hw1], by simp only [↓nrmL, nrmZ, Nat.reduceEqDiff, ↓reduceIte]; rw [hnx], by simp only [↓nrmL, nrmZ, Nat.reduceEqDiff, ↓reduceIte]; rw [hnx], trivial⟩, hal, rfl⟩⟩
end Go.Am
namespace Go.Am
open Go
def dxN : Nat → Int
  | 0 => 0 | 1 => 1 | 2 => 1 | 3 => 1 | 4 => 0 | 5 => -1 | 6 => -1 | _ => -1
def dyN : Nat → Int
  | 0 => -1 | 1 => -1 | 2 => 0 | 3 => 1 | 4 => 1 | 5 => 1 | 6 => 0 | _ => -1
theorem dN_opp : ∀ t < 8, dxN ((t + 4) % 8) = -dxN t ∧ dyN ((t + 4) % 8) = -dyN t := by decide
theorem dN_bd : ∀ t < 8, (-1 ≤ dxN t ∧ dxN t ≤ 1) ∧ (-1 ≤ dyN t ∧ dyN t ≤ 1) := by decide
def ringF (a b : Nat) (l : List UInt8) (x y : Int) (k : Nat) : Bool := inkB a b l (x + dxN k) (y + dyN k)
def bN (c : Bool) : Nat := bif c then 1 else 0
def pcN (f : Nat → Bool) : Nat := bN (!f 0 && (f 1 || f 2)) + bN (!f 2 && (f 3 || f 4)) + bN (!f 4 && (f 5 || f 6)) + bN (!f 6 && (f 7 || f 0))
def nbN (f : Nat → Bool) : Nat := bN (f 0) + bN (f 1) + bN (f 2) + bN (f 3) + bN (f 4) + bN (f 5) + bN (f 6) + bN (f 7)
def goesB (f : Nat → Bool) : Bool := (pcN f == 1) && decide (nbN f > 1)
theorem goes_congr {f g : Nat → Bool} (h : ∀ t < 8, f t = g t) : goesB f = goesB g := by
  have e0 := h 0 (by decide); have e1 := h 1 (by decide); have e2 := h 2 (by decide); have e3 := h 3 (by decide)
  have e4 := h 4 (by decide); have e5 := h 5 (by decide); have e6 := h 6 (by decide); have e7 := h 7 (by decide)
  unfold goesB pcN nbN
  rw [e0, e1, e2, e3, e4, e5, e6, e7]
def goesAt (a b : Nat) (l : List UInt8) (k : Nat) : Bool := goesB (ringF a b l ((k % a : Nat) : Int) ((k / a : Nat) : Int))
theorem inkB_true {a b : Nat} {l : List UInt8} {x y : Int} (h : inkB a b l x y = true) : ∃ u v : Nat, x = u ∧ y = v ∧ u < a ∧ v < b ∧ l.getD (v * a + u) 0 = 1 := by
  unfold inkB at h
  simp only [Bool.and_eq_true, decide_eq_true_eq, beq_iff_eq] at h
  obtain ⟨h1, h2, h3, h4, h5⟩ := h
  refine ⟨x.toNat, y.toNat, by omega, by omega, by omega, by omega, ?_⟩
  have e : (y * (a : Int) + x).toNat = y.toNat * a + x.toNat := by
    obtain ⟨u, rfl⟩ : ∃ u : Nat, x = u := ⟨x.toNat, by omega⟩
    obtain ⟨v, rfl⟩ : ∃ v : Nat, y = v := ⟨y.toNat, by omega⟩
    rw [← Int.natCast_mul, ← Int.natCast_add, Int.toNat_natCast, Int.toNat_natCast, Int.toNat_natCast]
  rw [← e]; exact h5
theorem inkB_mk {a b u v : Nat} {l : List UInt8} (hu : u < a) (hv : v < b) : inkB a b l (u : Int) (v : Int) = (l.getD (v * a + u) 0 == 1) := inkB_nat hu hv
theorem inkB_off {a b : Nat} {l m : List UInt8} {x y : Int} (h : ∀ u v : Nat, x = u → y = v → u < a → v < b → l.getD (v * a + u) 0 = m.getD (v * a + u) 0) : inkB a b l x y = inkB a b m x y := by
  by_cases h0 : 0 ≤ x ∧ x < a ∧ 0 ≤ y ∧ y < b
  · obtain ⟨u, rfl⟩ : ∃ u : Nat, x = u := ⟨x.toNat, by omega⟩
    obtain ⟨v, rfl⟩ : ∃ v : Nat, y = v := ⟨y.toNat, by omega⟩
    rw [inkB_mk (by omega) (by omega), inkB_mk (by omega) (by omega), h u v rfl rfl (by omega) (by omega)]
  · have e : ∀ q : List UInt8, inkB a b q x y = false := fun q => by
      cases hq : inkB a b q x y
      · rfl
      · obtain ⟨u, v, rfl, rfl, h1, h2, _⟩ := inkB_true hq
        exact absurd ⟨by omega, by omega, by omega, by omega⟩ h0
    rw [e, e]
def isNb (a b j t k : Nat) : Prop := ∃ u v : Nat, u < a ∧ v < b ∧ (u : Int) = ((j % a : Nat) : Int) + dxN t ∧ (v : Int) = ((j / a : Nat) : Int) + dyN t ∧ k = v * a + u
theorem div_lt {a b k : Nat} (hk : k < a * b) : 0 < a ∧ k % a < a ∧ k / a < b ∧ k = k / a * a + k % a := by
  have ha : 0 < a := by
    rcases Nat.eq_zero_or_pos a with h | h
    · rw [h, Nat.zero_mul] at hk; omega
    · exact h
  refine ⟨ha, Nat.mod_lt _ ha, Nat.div_lt_of_lt_mul hk, ?_⟩
  have := Nat.div_add_mod k a
  rw [Nat.mul_comm] at this
  exact this.symm
theorem at_div {a u v : Nat} (hu : u < a) : (v * a + u) % a = u ∧ (v * a + u) / a = v := by
  constructor
  · rw [Nat.add_comm, Nat.add_mul_mod_self_right, Nat.mod_eq_of_lt hu]
  · rw [Nat.add_comm, Nat.add_mul_div_right _ _ (by omega), Nat.div_eq_of_lt hu, Nat.zero_add]
theorem ring_set {a b j k : Nat} {l : List UInt8} (hk : k < a * b) (h : ∀ t < 8, ¬ isNb a b j t k) {c : UInt8} : ∀ t < 8, ringF a b (l.set j c) ((k % a : Nat) : Int) ((k / a : Nat) : Int) t = ringF a b l ((k % a : Nat) : Int) ((k / a : Nat) : Int) t := by
  intro t ht
  obtain ⟨ha, h1, h2, h3⟩ := div_lt hk
  unfold ringF
  refine inkB_off fun u v hu hv hua hvb => ?_
  by_cases hj : v * a + u = j
  · exfalso
    obtain ⟨e1, e2⟩ := at_div (v := v) hua
    rw [hj] at e1 e2
    obtain ⟨o1, o2⟩ := dN_opp t ht
    refine h ((t + 4) % 8) (Nat.mod_lt _ (by decide)) ⟨k % a, k / a, h1, h2, ?_, ?_, h3⟩
    · rw [e1, o1]; omega
    · rw [e2, o2]; omega
  · rw [List.getD_eq_getElem?_getD, List.getElem?_set_ne (fun e => hj e.symm), ← List.getD_eq_getElem?_getD]
theorem goes_set {a b j k : Nat} {l : List UInt8} (hk : k < a * b) (h : ∀ t < 8, ¬ isNb a b j t k) {c : UInt8} : goesAt a b (l.set j c) k = goesAt a b l k := goes_congr (ring_set hk h)
def stepT (a b : Nat) (l : List UInt8) (k : Nat) : List UInt8 := if l.getD k 0 = 1 ∧ goesAt a b l k = true then l.set k 0 else l
def passT (a b : Nat) (l : List UInt8) : Nat → List UInt8
  | 0 => l
  | k + 1 => stepT a b (passT a b l k) k
theorem pass_skip {a b i : Nat} {r0 : List UInt8} : ∀ j, i ≤ j → (∀ k, i ≤ k → k < j → (passT a b r0 i).getD k 0 = 1 → goesAt a b (passT a b r0 i) k = false) → passT a b r0 j = passT a b r0 i
  | 0, hij, _ => by rw [show i = 0 by omega]
  | j + 1, hij, h => by
    by_cases e : i = j + 1
    · rw [e]
    · have ih := pass_skip j (by omega) fun k h1 h2 => h k h1 (by omega)
      show stepT a b (passT a b r0 j) j = _
      rw [ih, stepT, if_neg]
      rintro ⟨h1, h2⟩
      rw [h j (by omega) (by omega) h1] at h2; cases h2
theorem stay_fix {a b : Nat} {r : List UInt8} (h : ∀ k, k < a * b → r.getD k 0 = 1 → goesAt a b r k = false) : passT a b r (a * b) = r :=
  pass_skip (i := 0) (a * b) (Nat.zero_le _) fun k _ hk h1 => h k hk h1
theorem Ok.set0 {a b k : Nat} {l : List UInt8} (h : Ok a b l) : Ok a b (l.set k 0) := by
  refine ⟨h.wa, h.hb, by rw [List.length_set]; exact h.len, ?_⟩
  have hp := h.px
  unfold pxOk at hp ⊢
  rw [List.all_eq_true] at hp ⊢
  intro x hx
  rcases List.mem_or_eq_of_mem_set hx with h1 | h1
  · exact hp x h1
  · rw [h1]; rfl
theorem Ok.step {a b k : Nat} {l : List UInt8} (h : Ok a b l) : Ok a b (stepT a b l k) := by
  unfold stepT
  split
  · exact h.set0
  · exact h
theorem Ok.pass {a b : Nat} {l : List UInt8} (h : Ok a b l) : ∀ k, Ok a b (passT a b l k)
  | 0 => h
  | k + 1 => (Ok.pass h k).step
theorem cnt_set {l : List UInt8} {k : Nat} (h : l.getD k 0 = 1) : (l.set k 0).count 1 + 1 = l.count 1 := by
  have hk : k < l.length := by
    rcases Nat.lt_or_ge k l.length with h1 | h1
    · exact h1
    · rw [List.getD_eq_getElem?_getD, List.getElem?_eq_none h1] at h; cases h
  have e : l[k] = 1 := by rw [← h]; simp [hk]
  have hpos : 0 < l.count 1 := List.count_pos_iff.2 (by rw [← e]; exact List.getElem_mem hk)
  rw [List.count_set hk, e]
  simp
  omega
theorem cnt_step {a b k : Nat} {l : List UInt8} : (stepT a b l k).count 1 ≤ l.count 1 := by
  unfold stepT
  split
  · rename_i h; have := cnt_set h.1; omega
  · exact Nat.le_refl _
theorem cnt_pass {a b : Nat} {l : List UInt8} : ∀ k, (passT a b l k).count 1 ≤ l.count 1
  | 0 => Nat.le_refl _
  | k + 1 => Nat.le_trans cnt_step (cnt_pass k)
def dstL (a b : Nat) (r : List UInt8) (x y : Int) : Nat → List UInt8 → List UInt8
  | 0, d => d
  | t + 1, d => if ringF a b r x y t = true then (dstL a b r x y t d).set ((y + dyN t) * (a : Int) + (x + dxN t)).toNat 1 else dstL a b r x y t d
theorem dst_length {a b : Nat} {r : List UInt8} {x y : Int} {d : List UInt8} : ∀ t, (dstL a b r x y t d).length = d.length
  | 0 => rfl
  | t + 1 => by
    unfold dstL
    split
    · rw [List.length_set, dst_length t]
    · exact dst_length t
theorem idx_of {a u v : Nat} : (((v : Nat) : Int) * (a : Int) + ((u : Nat) : Int)).toNat = v * a + u := by
  rw [← Int.natCast_mul, ← Int.natCast_add, Int.toNat_natCast]
theorem dst_old {a b : Nat} {r : List UInt8} {x y : Int} {d : List UInt8} {k : Nat} (h : d.getD k 0 = 1) : ∀ t, (dstL a b r x y t d).getD k 0 = 1
  | 0 => h
  | t + 1 => by
    have ih := dst_old (a := a) (b := b) (r := r) (x := x) (y := y) h t
    unfold dstL
    split
    · rw [List.getD_eq_getElem?_getD, List.getElem?_set]
      split
      · split
        · rfl
        · rename_i h1 h2
          rw [List.getD_eq_getElem?_getD, List.getElem?_eq_none (by omega)] at ih; cases ih
      · rw [← List.getD_eq_getElem?_getD]; exact ih
    · exact ih
theorem dst_new {a b j k : Nat} {r d : List UInt8} (hd : d.length = a * b) (hr : r.getD k 0 = 1) : ∀ n, ∀ t < n, isNb a b j t k → (dstL a b r ((j % a : Nat) : Int) ((j / a : Nat) : Int) n d).getD k 0 = 1
  | 0, t, ht, _ => by omega
  | n + 1, t, ht, hn => by
    by_cases e : t = n
    · subst e
      obtain ⟨u, v, hu, hv, e1, e2, rfl⟩ := hn
      have hring : ringF a b r ((j % a : Nat) : Int) ((j / a : Nat) : Int) t = true := by
        unfold ringF
        rw [← e1, ← e2, inkB_mk hu hv, hr]; rfl
      unfold dstL
      rw [if_pos hring, ← e1, ← e2, idx_of]
      have hlt : v * a + u < a * b := by
        have : (v + 1) * a ≤ b * a := Nat.mul_le_mul_right _ hv
        rw [Nat.add_mul, Nat.one_mul, Nat.mul_comm b a] at this
        omega
      rw [List.getD_eq_getElem?_getD, List.getElem?_set_self (by rw [dst_length, hd]; exact hlt)]
      rfl
    · have ih := dst_new (j := j) hd hr n t (by omega) hn
      unfold dstL
      split
      · rw [List.getD_eq_getElem?_getD, List.getElem?_set]
        split
        · split
          · rfl
          · rename_i h1 h2
            rw [List.getD_eq_getElem?_getD, List.getElem?_eq_none (by omega)] at ih; cases ih
        · rw [← List.getD_eq_getElem?_getD]; exact ih
      · exact ih
theorem dst_ink {a b : Nat} {r : List UInt8} {x y : Int} {d : List UInt8} {k : Nat} : ∀ t, (dstL a b r x y t d).getD k 0 = 1 → d.getD k 0 = 1 ∨ r.getD k 0 = 1
  | 0, h => Or.inl h
  | t + 1, h => by
    unfold dstL at h
    split at h
    · rename_i hring
      by_cases e : ((y + dyN t) * (a : Int) + (x + dxN t)).toNat = k
      · obtain ⟨u, v, e1, e2, hu, hv, h3⟩ := inkB_true hring
        rw [e1, e2, idx_of] at e
        rw [← e]; exact Or.inr h3
      · rw [List.getD_eq_getElem?_getD, List.getElem?_set_ne e, ← List.getD_eq_getElem?_getD] at h
        exact dst_ink t h
    · exact dst_ink t h
structure TInv (a b : Nat) (r0 r d : List UInt8) (i : Nat) : Prop where
  ok : Ok a b r
  len : d.length = a * b
  eq : r = passT a b r0 i
  hi : i ≤ a * b
  ink : ∀ k, d.getD k 0 = 1 → r.getD k 0 = 1
  quiet : ∀ k, r.getD k 0 = 1 → d.getD k 0 ≠ 1 → goesAt a b r k = false
  prog : r.count 1 < r0.count 1 ∨ (r = r0 ∧ ∀ k < i, d.getD k 0 ≠ 1)
theorem TInv.first {a b : Nat} {l : List UInt8} (ok : Ok a b l) : TInv a b l l l 0 :=
  ⟨ok, ok.len, rfl, Nat.zero_le _, fun _ h => h, fun _ h1 h2 => absurd h1 h2, Or.inr ⟨rfl, fun k h => by omega⟩⟩
theorem TInv.done {a b : Nat} {r0 r d : List UInt8} {i : Nat} (h : TInv a b r0 r d i) (hn : ∀ k, d.getD k 0 ≠ 1) : passT a b r (a * b) = r :=
  stay_fix fun k _ h1 => h.quiet k h1 (hn k)
theorem TInv.round {a b : Nat} {r0 r d : List UInt8} {i : Nat} (h : TInv a b r0 r d i) (hn : ∀ k, i ≤ k → d.getD k 0 ≠ 1) : passT a b r0 (a * b) = r ∧ TInv a b r r d 0 ∧ (r.count 1 < r0.count 1 ∨ (r = r0 ∧ ∀ k, d.getD k 0 ≠ 1)) := by
  refine ⟨?_, ⟨h.ok, h.len, rfl, Nat.zero_le _, h.ink, h.quiet, Or.inr ⟨rfl, fun k hk => by omega⟩⟩, h.prog.imp id fun q => ⟨q.1, fun k => ?_⟩⟩
  · rw [pass_skip (i := i) (a * b) h.hi fun k h1 _ h3 => ?_, ← h.eq]
    rw [← h.eq] at h3 ⊢
    exact h.quiet k h3 (hn k h1)
  · rcases Nat.lt_or_ge k i with h1 | h1
    · exact q.2 k h1
    · exact hn k h1
theorem TInv.skip {a b : Nat} {r0 r d : List UInt8} {i j : Nat} (h : TInv a b r0 r d i) (hij : i ≤ j) (hj : d.getD j 0 = 1) (hn : ∀ k, i ≤ k → k < j → d.getD k 0 ≠ 1) : j < a * b ∧ r = passT a b r0 j := by
  have hjl : j < a * b := by
    rw [← h.len]
    rcases Nat.lt_or_ge j d.length with h1 | h1
    · exact h1
    · rw [List.getD_eq_getElem?_getD, List.getElem?_eq_none h1] at hj; cases hj
  refine ⟨hjl, ?_⟩
  rw [pass_skip (i := i) j hij fun k h1 h2 h3 => ?_, ← h.eq]
  rw [← h.eq] at h3 ⊢
  exact h.quiet k h3 (hn k h1 h2)
theorem set_ne {d : List UInt8} {j k : Nat} {c : UInt8} (h : (d.set j c).getD k 0 = 1) (hc : c ≠ 1) : k ≠ j ∧ d.getD k 0 = 1 := by
  by_cases e : k = j
  · subst e
    rw [List.getD_eq_getElem?_getD, List.getElem?_set] at h
    rw [if_pos rfl] at h
    split at h
    · exact absurd h hc
    · cases h
  · rw [List.getD_eq_getElem?_getD, List.getElem?_set_ne (fun h => e h.symm), ← List.getD_eq_getElem?_getD] at h
    exact ⟨e, h⟩
theorem set_off {d : List UInt8} {j k : Nat} {c : UInt8} (e : k ≠ j) : (d.set j c).getD k 0 = d.getD k 0 := by
  rw [List.getD_eq_getElem?_getD, List.getElem?_set_ne (fun h => e h.symm), ← List.getD_eq_getElem?_getD]
theorem TInv.gone {a b : Nat} {r0 r d : List UInt8} {i j : Nat} (h : TInv a b r0 r d i) (hij : i ≤ j) (hj : d.getD j 0 = 1) (hn : ∀ k, i ≤ k → k < j → d.getD k 0 ≠ 1) (hg : goesAt a b r j = true) :
    TInv a b r0 (r.set j 0) (dstL a b (r.set j 0) ((j % a : Nat) : Int) ((j / a : Nat) : Int) 8 (d.set j 0)) (j + 1) := by
  obtain ⟨h1, h2⟩ := h.skip hij hj hn
  have hrj := h.ink j hj
  have hlen : (d.set j 0).length = a * b := by rw [List.length_set]; exact h.len
  refine ⟨h.ok.set0, by rw [dst_length]; exact hlen, ?_, h1, fun k hk => ?_, fun k hk1 hk2 => ?_, Or.inl ?_⟩
  · show r.set j 0 = stepT a b (passT a b r0 j) j
    rw [← h2, stepT, if_pos ⟨hrj, hg⟩]
  · rcases dst_ink 8 hk with h3 | h3
    · obtain ⟨e, h4⟩ := set_ne h3 (by decide)
      rw [set_off e]; exact h.ink k h4
    · exact h3
  · obtain ⟨e, h3⟩ := set_ne hk1 (by decide)
    have hk : k < a * b := by
      have := h.ok.len
      rcases Nat.lt_or_ge k r.length with h4 | h4
      · omega
      · rw [List.getD_eq_getElem?_getD, List.getElem?_eq_none h4] at h3; cases h3
    rw [goes_set hk fun t ht hnb => hk2 (dst_new hlen hk1 8 t ht hnb)]
    refine h.quiet k h3 fun h5 => hk2 (dst_old ?_ 8)
    rw [set_off e]; exact h5
  · have := cnt_set hrj
    have h4 := cnt_pass (a := a) (b := b) (l := r0) i
    rw [← h.eq] at h4
    omega
def Nb (a b : Nat) (e : Bool) (j k : Nat) : Prop := ∃ t < 8, (e = true ∨ t % 2 = 0) ∧ isNb a b j t k
theorem isNb_lt {a b j t k : Nat} (h : isNb a b j t k) : k < a * b := by
  obtain ⟨u, v, hu, hv, _, _, rfl⟩ := h
  have : (v + 1) * a ≤ b * a := Nat.mul_le_mul_right _ hv
  rw [Nat.add_mul, Nat.one_mul, Nat.mul_comm b a] at this
  omega
theorem Nb.lt {a b j k : Nat} {e : Bool} (h : Nb a b e j k) : k < a * b := by
  obtain ⟨t, _, _, h⟩ := h; exact isNb_lt h
theorem isNb_symm {a b j t k : Nat} (hj : j < a * b) (ht : t < 8) (h : isNb a b j t k) : isNb a b k ((t + 4) % 8) j := by
  obtain ⟨u, v, hu, hv, e1, e2, rfl⟩ := h
  obtain ⟨ha, h1, h2, h3⟩ := div_lt hj
  obtain ⟨o1, o2⟩ := dN_opp t ht
  obtain ⟨d1, d2⟩ := at_div (v := v) hu
  refine ⟨j % a, j / a, h1, h2, ?_, ?_, h3⟩
  · rw [d1, o1]; omega
  · rw [d2, o2]; omega
theorem Nb.symm {a b j k : Nat} {e : Bool} (hj : j < a * b) (h : Nb a b e j k) : Nb a b e k j := by
  obtain ⟨t, ht, he, h⟩ := h
  exact ⟨(t + 4) % 8, Nat.mod_lt _ (by decide), he.imp id (fun q => by omega), isNb_symm hj ht h⟩
inductive Reach (l : List UInt8) (a b : Nat) (e : Bool) (i : Nat) : Nat → Prop
  | refl : i < a * b → l.getD i 0 = 1 → Reach l a b e i i
  | step {j k : Nat} : Reach l a b e i j → Nb a b e j k → l.getD k 0 = 1 → Reach l a b e i k
section
variable {l : List UInt8} {a b : Nat} {e : Bool}
theorem Reach.end_ok {i j : Nat} (h : Reach l a b e i j) : j < a * b ∧ l.getD j 0 = 1 := by
  cases h with
  | refl h1 h2 => exact ⟨h1, h2⟩
  | step _ h2 h3 => exact ⟨h2.lt, h3⟩
theorem Reach.start_ok {i j : Nat} (h : Reach l a b e i j) : i < a * b ∧ l.getD i 0 = 1 := by
  induction h with
  | refl h1 h2 => exact ⟨h1, h2⟩
  | step _ _ _ ih => exact ih
theorem Reach.trans {i j k : Nat} (h : Reach l a b e i j) (g : Reach l a b e j k) : Reach l a b e i k := by
  induction g with
  | refl _ _ => exact h
  | step _ h2 h3 ih => exact ih.step h2 h3
theorem Reach.symm {i j : Nat} (h : Reach l a b e i j) : Reach l a b e j i := by
  induction h with
  | refl h1 h2 => exact .refl h1 h2
  | step h1 h2 h3 ih =>
    obtain ⟨k1, k2⟩ := h1.end_ok
    exact ((Reach.refl h2.lt h3).step (h2.symm k1) k2).trans ih
theorem Reach.eight {i j : Nat} (h : Reach l a b e i j) : Reach l a b true i j := by
  induction h with
  | refl h1 h2 => exact .refl h1 h2
  | step _ h2 h3 ih =>
    obtain ⟨t, ht, _, h⟩ := h2
    exact ih.step ⟨t, ht, Or.inl rfl, h⟩ h3
def Lead (l : List UInt8) (a b : Nat) (e : Bool) (i m : Nat) : Prop := Reach l a b e i m ∧ ∀ j, Reach l a b e i j → m ≤ j
theorem Lead.unique {i m m' : Nat} (h : Lead l a b e i m) (g : Lead l a b e i m') : m = m' := Nat.le_antisymm (h.2 _ g.1) (g.2 _ h.1)
theorem Lead.same {i j m : Nat} (h : Lead l a b e i m) (g : Reach l a b e i j) : Lead l a b e j m := ⟨g.symm.trans h.1, fun k hk => h.2 k (g.trans hk)⟩
theorem num_lead {num : Nat → Nat} (hr : ∀ i, i < a * b → l.getD i 0 = 1 → Reach l a b e i (num i) ∧ num i ≤ i) (hs : ∀ i j, i < a * b → l.getD i 0 = 1 → Nb a b e i j → l.getD j 0 = 1 → num i = num j) {i : Nat} (hi : i < a * b) (h1 : l.getD i 0 = 1) : Lead l a b e i (num i) := by
  have hc : ∀ j, Reach l a b e i j → num j = num i := by
    intro j h
    induction h with
    | refl _ _ => rfl
    | step g1 g2 g3 ih =>
      obtain ⟨k1, k2⟩ := g1.end_ok
      rw [← ih, hs _ _ k1 k2 g2 g3]
  refine ⟨(hr i hi h1).1, fun j hj => ?_⟩
  obtain ⟨k1, k2⟩ := hj.end_ok
  rw [← hc j hj]
  exact (hr j k1 k2).2
structure Whole (l : List UInt8) (a b : Nat) (e : Bool) (M : Nat → Nat) (n : Nat) : Prop where
  lt : ∀ i, M i < n
  ink : ∀ i, M i ≠ 0 → i < a * b ∧ l.getD i 0 = 1
  same : ∀ i j, M i ≠ 0 → Reach l a b e i j → M j = M i
structure Flood (l : List UInt8) (a b : Nat) (e : Bool) (M0 : Nat → Nat) (s n : Nat) (M : Nat → Nat) (W : List Nat) (x : Option (Nat × Nat)) : Prop where
  old : ∀ i, M i = M0 i ∨ (M i = n ∧ M0 i = 0 ∧ Reach l a b e s i)
  start : M s = n
  wait : ∀ w ∈ W, M w = n ∧ M0 w = 0 ∧ Reach l a b e s w
  hand : ∀ w c, x = some (w, c) → M w = n ∧ M0 w = 0 ∧ Reach l a b e s w ∧ ∀ t < c, (e = true ∨ t % 2 = 0) → ∀ j, isNb a b w t j → l.getD j 0 = 1 → M j ≠ 0
  done : ∀ i, M i = n → M0 i = 0 → i ∈ W ∨ (∃ c, x = some (i, c)) ∨ ∀ j, Nb a b e i j → l.getD j 0 = 1 → M j ≠ 0
theorem Flood.begin {M0 : Nat → Nat} {s n : Nat} (hs : s < a * b) (h1 : l.getD s 0 = 1) (h0 : M0 s = 0) (hn : Whole l a b e M0 n) : Flood l a b e M0 s n (fun i => if i = s then n else M0 i) [s] none := by
  refine ⟨fun i => ?_, if_pos rfl, fun w hw => ?_, (fun w c h => by cases h), fun i hi h2 => ?_⟩
  · by_cases h : i = s
    · subst h; exact Or.inr ⟨if_pos rfl, h0, .refl hs h1⟩
    · exact Or.inl (if_neg h)
  · rw [List.mem_singleton] at hw; subst hw
    exact ⟨if_pos rfl, h0, .refl hs h1⟩
  · by_cases h : i = s
    · subst h; exact Or.inl (List.mem_singleton.2 rfl)
    · try dsimp only at hi
      rw [if_neg h] at hi
      have := hn.lt i
      omega
theorem Flood.pop {M0 M : Nat → Nat} {s n w : Nat} {W : List Nat} (h : Flood l a b e M0 s n M (W ++ [w]) none) : Flood l a b e M0 s n M W (some (w, 0)) := by
  refine ⟨h.old, h.start, fun v hv => h.wait v (List.mem_append_left _ hv), fun v c hc => ?_, fun i h1 h2 => ?_⟩
  · cases hc
    obtain ⟨g1, g2, g3⟩ := h.wait w (List.mem_append_right _ (List.mem_singleton.2 rfl))
    exact ⟨g1, g2, g3, fun t ht => by omega⟩
  · rcases h.done i h1 h2 with g | ⟨c, g⟩ | g
    · rcases List.mem_append.1 g with g | g
      · exact Or.inl g
      · rw [List.mem_singleton] at g; subst g
        exact Or.inr (Or.inl ⟨0, rfl⟩)
    · cases g
    · exact Or.inr (Or.inr g)
theorem Flood.keep {M0 M : Nat → Nat} {s n w c c' : Nat} {W : List Nat} (h : Flood l a b e M0 s n M W (some (w, c))) (hc : ∀ t, c ≤ t → t < c' → (e = true ∨ t % 2 = 0) → ∀ j, isNb a b w t j → l.getD j 0 = 1 → M j ≠ 0) : Flood l a b e M0 s n M W (some (w, c')) := by
  refine ⟨h.old, h.start, h.wait, fun v d hd => ?_, fun i h1 h2 => ?_⟩
  · cases hd
    obtain ⟨g1, g2, g3, g4⟩ := h.hand w c rfl
    refine ⟨g1, g2, g3, fun t ht he j hj hl => ?_⟩
    rcases Nat.lt_or_ge t c with hlt | hge
    · exact g4 t hlt he j hj hl
    · exact hc t hge ht he j hj hl
  · rcases h.done i h1 h2 with g | ⟨d, g⟩ | g
    · exact Or.inl g
    · cases g; exact Or.inr (Or.inl ⟨c', rfl⟩)
    · exact Or.inr (Or.inr g)
theorem Flood.mark {M0 M : Nat → Nat} {s n w c k t : Nat} {W : List Nat} (hn : 0 < n) (h : Flood l a b e M0 s n M W (some (w, c))) (ht : t < 8) (he : e = true ∨ t % 2 = 0) (hk : isNb a b w t k) (hl : l.getD k 0 = 1) (h0 : M k = 0) (hm : Whole l a b e M0 n) : Flood l a b e M0 s n (fun i => if i = k then n else M i) (W ++ [k]) (some (w, c)) := by
  obtain ⟨g1, g2, g3, g4⟩ := h.hand w c rfl
  have hrk : Reach l a b e s k := g3.step ⟨t, ht, he, hk⟩ hl
  have hk0 : M0 k = 0 := by
    rcases h.old k with q | ⟨q, _⟩
    · rw [← q]; exact h0
    · omega
  have hmono : ∀ i, M i ≠ 0 → (if i = k then n else M i) ≠ 0 := fun i hi => by split <;> omega
  refine ⟨fun i => ?_, ?_, fun v hv => ?_, fun v d hd => ?_, fun i h1 h2 => ?_⟩
  · try dsimp only
    by_cases q : i = k
    · subst q; rw [if_pos rfl]; exact Or.inr ⟨rfl, hk0, hrk⟩
    · rw [if_neg q]; exact h.old i
  · try dsimp only
    split
    · rfl
    · exact h.start
  · try dsimp only
    rcases List.mem_append.1 hv with q | q
    · obtain ⟨f1, f2, f3⟩ := h.wait v q
      refine ⟨?_, f2, f3⟩
      split
      · rfl
      · exact f1
    · rw [List.mem_singleton] at q; subst q
      exact ⟨if_pos rfl, hk0, hrk⟩
  · cases hd
    try dsimp only
    refine ⟨?_, g2, g3, fun t' ht' he' j hj hlj => hmono j (g4 t' ht' he' j hj hlj)⟩
    split
    · rfl
    · exact g1
  · try dsimp only at h1
    by_cases q : i = k
    · subst q; exact Or.inl (List.mem_append_right _ (List.mem_singleton.2 rfl))
    · rw [if_neg q] at h1
      rcases h.done i h1 h2 with f | f | f
      · exact Or.inl (List.mem_append_left _ f)
      · exact Or.inr (Or.inl f)
      · exact Or.inr (Or.inr fun j hj hlj => hmono j (f j hj hlj))
theorem Flood.drop {M0 M : Nat → Nat} {s n w : Nat} {W : List Nat} (h : Flood l a b e M0 s n M W (some (w, 8))) : Flood l a b e M0 s n M W none := by
  obtain ⟨g1, g2, g3, g4⟩ := h.hand w 8 rfl
  refine ⟨h.old, h.start, h.wait, (fun v d hd => by cases hd), fun i h1 h2 => ?_⟩
  rcases h.done i h1 h2 with f | ⟨c, f⟩ | f
  · exact Or.inl f
  · cases f
    exact Or.inr (Or.inr fun j hj hlj => by
      obtain ⟨t, ht, he, hj⟩ := hj
      exact g4 t ht he j hj hlj)
  · exact Or.inr (Or.inr f)
theorem Flood.end {M0 M : Nat → Nat} {s n : Nat} (h : Flood l a b e M0 s n M [] none) (hm : Whole l a b e M0 n) (hs : s < a * b) (h1 : l.getD s 0 = 1) (h0 : M0 s = 0) : ∀ i, (Reach l a b e s i → M i = n) ∧ (¬ Reach l a b e s i → M i = M0 i) := by
  have hz : ∀ i, Reach l a b e s i → M0 i = 0 := by
    intro i hi
    cases hq : M0 i with
    | zero => rfl
    | succ q =>
      have := hm.same i s (by rw [hq]; exact Nat.succ_ne_zero q) hi.symm
      omega
  have hall : ∀ i, Reach l a b e s i → M i = n := by
    intro i hi
    induction hi with
    | refl _ _ => exact h.start
    | step g1 g2 g3 ih =>
      rcases h.done _ ih (hz _ g1) with f | ⟨c, f⟩ | f
      · cases f
      · cases f
      · have hne := f _ g2 g3
        rcases h.old _ with q | ⟨q, _⟩
        · rw [q, hz _ (g1.step g2 g3)] at hne; exact absurd rfl hne
        · exact q
  refine fun i => ⟨hall i, fun hno => ?_⟩
  rcases h.old i with q | ⟨_, _, q⟩
  · exact q
  · exact absurd q hno
theorem Whole.next {M0 M : Nat → Nat} {s n : Nat} (hm : Whole l a b e M0 n) (hn : 0 < n) (hs : s < a * b) (h1 : l.getD s 0 = 1) (h : ∀ i, (Reach l a b e s i → M i = n) ∧ (¬ Reach l a b e s i → M i = M0 i)) : Whole l a b e M (n + 1) := by
  classical
  refine ⟨fun i => ?_, fun i hi => ?_, fun i j hi hr => ?_⟩
  · by_cases q : Reach l a b e s i
    · rw [(h i).1 q]; omega
    · rw [(h i).2 q]; have := hm.lt i; omega
  · by_cases q : Reach l a b e s i
    · exact q.end_ok
    · rw [(h i).2 q] at hi; exact hm.ink i hi
  · by_cases q : Reach l a b e s i
    · rw [(h i).1 q, (h j).1 (q.trans hr)]
    · have q' : ¬ Reach l a b e s j := fun k => q (k.trans hr.symm)
      rw [(h i).2 q] at hi ⊢
      rw [(h j).2 q']
      exact hm.same i j hi hr
end
end Go.Am
namespace Go.Am
open Go
attribute [local irreducible] Wp WpO WpX WpE
end Go.Am
namespace Go.Am
open Go
theorem Wp.label {call : ACall} {lf : Nat} {fr : AFrame} {H : AHeap} {Q : RExit → AFrame → AHeap → Prop} (h : Q .normal fr H) : Wp call lf .label fr H Q := ⟨_, _, _, rfl, h⟩
end Go.Am
namespace Go.Am
open Go
attribute [local irreducible] Wp WpO WpX WpE
end Go.Am
namespace Go.Am
open Go
attribute [local irreducible] Wp WpO WpX WpE
end Go.Am
namespace Go.Am
open Go
structure Stk (H : AHeap) (p : AVal) (e : TypeId) (l : List Int) : Prop where
  it : ∃ r cap row e', p = .slice r 0 l.length cap 1 ∧ r < H.n ∧ H.get r = .row row true e' ∧ e' / 2 = e ∧ l.length ≤ row.length ∧ row.take l.length = cellsI l ∧ (cap = none ∨ ∃ c, cap = some c ∧ 0 < c ∧ c ≤ row.length ∧ l.length ≤ c)
theorem Stk.ints {H : AHeap} {p : AVal} {e : TypeId} {l : List Int} (h : Stk H p e l) : IntsI H p l := by
  obtain ⟨r, cap, row, e', rfl, h1, h2, h3, h4, h5, h6⟩ := h.it
  refine ⟨Or.inr ⟨r, 0, cap, row, true, e', rfl, h1, h2, by omega, by rw [Nat.mul_one, List.drop_zero]; exact h5, ?_⟩⟩
  rcases h6 with rfl | ⟨c, rfl, h6, h7, h8⟩
  · exact Nat.le_refl _
  · exact h8
theorem Stk.keep {H H' : AHeap} {p : AVal} {e : TypeId} {l : List Int} (h : Stk H p e l) (hn : H.n ≤ H'.n) (hg : ∀ r off len cap sz, p = .slice r off len cap sz → r < H.n → H'.get r = H.get r) : Stk H' p e l := by
  obtain ⟨r, cap, row, e', rfl, h1, h2, h3⟩ := h.it
  exact ⟨r, cap, row, e', rfl, Nat.lt_of_lt_of_le h1 hn, by rw [hg _ _ _ _ _ rfl h1]; exact h2, h3⟩
theorem exec_cut {H : AHeap} {p : AVal} {e : TypeId} {l : List Int} {k : Int} (h : Stk H p e (l ++ [k])) :
    ∃ p', aSliceS 1 p none (some (.int .i64 (l.length : Int))) none H = some (p', H) ∧ Stk H p' e l ∧ (∀ r off len cap sz, p' = .slice r off len cap sz → ∃ len' cap', p = .slice r off len' cap' sz) := by
  obtain ⟨r, cap, row, e', rfl, h1, h2, h3, h4, h5, h6⟩ := h.it
  rw [List.length_append, List.length_singleton] at h4 h5
  have ht : row.take l.length = cellsI l := by
    have := congrArg (List.take l.length) h5
    rw [List.take_take, Nat.min_eq_left (Nat.le_succ _)] at this
    rw [this]
    simp only [cellsI, List.map_append]
    rw [List.take_left' (by simp)]
  rw [List.length_append, List.length_singleton]
  have hrow : aRow r H = some ((row, true), H) := by simp only [aRow, if_pos h1, h2]
  rcases h6 with rfl | ⟨c, rfl, h6, h7, h8⟩
  · refine ⟨.slice r 0 l.length none 1, ?_, ⟨r, none, row, e', rfl, h1, h2, h3, by omega, ht, Or.inl rfl⟩, fun r' off len cap sz q => by cases q; exact ⟨_, _, rfl⟩⟩
    have hb : aBounds (l.length + 1) none none (some (.int .i64 (l.length : Int))) none = some (0, l.length, none) := by
      have g1 : (0 : Int) ≤ (l.length : Int) ∧ (l.length : Int) ≤ ((capD (l.length + 1) none : Nat) : Int) := by simp only [capD]; omega
      simp only [aBounds, aHigh, aBound, aLow, Int.toNat_natCast]
      rw [if_pos g1]
    have g2 : ¬ row.length < 0 + (l.length + 1) := by omega
    simp only [aSliceS, ne_eq, not_true, if_false, hb, Nat.mul_one, Nat.one_ne_zero, M.bind, hrow, if_neg g2, or_true, if_true, M.pure, Nat.add_zero, Nat.sub_zero]
  · rw [List.length_append, List.length_singleton] at h8
    refine ⟨.slice r 0 l.length (some c) 1, ?_, ⟨r, some c, row, e', rfl, h1, h2, h3, by omega, ht, Or.inr ⟨c, rfl, h6, h7, by omega⟩⟩, fun r' off len cap sz q => by cases q; exact ⟨_, _, rfl⟩⟩
    have hb : aBounds (l.length + 1) (some c) none (some (.int .i64 (l.length : Int))) none = some (0, l.length, some c) := by
      have g1 : (0 : Int) ≤ (l.length : Int) ∧ (l.length : Int) ≤ ((capD (l.length + 1) (some c) : Nat) : Int) := by simp only [capD]; omega
      simp only [aBounds, aHigh, aBound, aLow, Int.toNat_natCast]
      rw [if_pos g1]
    have g2 : ¬ c = 0 := by omega
    simp only [aSliceS, ne_eq, not_true, if_false, hb, if_neg g2, M.pure, Nat.zero_mul, Nat.add_zero, Nat.sub_zero]
theorem exec_push {H : AHeap} {p q : AVal} {e : TypeId} {l : List Int} {k : Int} (h : Stk H p e l) (hq : IntsI H q [k]) (hl : 2 * (l.length + 1) * 8 ≤ 2 ^ 48) :
    ∃ p' H', aAppend e 1 8 p q H = some (p', H') ∧ Stk H' p' e (l ++ [k]) ∧ ExtP H H' p ∧ (∀ K : AHeap, K.n ≤ H.n → FreshS K p → FreshS K p') := by
  obtain ⟨hf1, hf2⟩ := aFirst_at hq
  obtain ⟨r, cap, row, e', rfl, h1, h2, h3, h4, h5, h6⟩ := h.it
  have hf1' : aLenOf q = some 1 := hf1
  have hf2' : aFirst 1 1 q H = some ([.int .i64 k], H) := hf2
  have hrow : aRow r H = some ((row, true), H) := by simp only [aRow, if_pos h1, h2]
  have hone : ([AVal.int .i64 k].all AVal.one) = true := rfl
  have hcond : (!([AVal.int .i64 k].all AVal.one) || decide ([AVal.int .i64 k].length ≠ 1 * 1) || decide (1 = 0) || decide (8 = 0)) = false := rfl
  have hput : ∀ row : List AVal, l.length + 1 ≤ row.length → row.take l.length = cellsI l → (setAt row (0 + l.length * 1) [.int .i64 k]).take (l ++ [k]).length = cellsI (l ++ [k]) := by
    intro row g1 g2
    rw [Nat.zero_add, Nat.mul_one]
    show (row.set l.length _).take _ = _
    rw [List.length_append, List.length_singleton]
    apply List.ext_getElem?
    intro i
    rw [List.getElem?_take]
    by_cases hi : i < l.length
    · have g3 := congrArg (fun z => z[i]?) g2
      simp only [List.getElem?_take, if_pos hi] at g3
      rw [if_pos (by omega), List.getElem?_set_ne (by omega), g3]
      simp only [cellsI, List.map_append]
      rw [List.getElem?_append_left (by simp; exact hi)]
    · by_cases hi' : i = l.length
      · subst hi'
        rw [if_pos (Nat.lt_succ_self _), List.getElem?_set_self (by omega)]
        simp [cellsI]
      · rw [if_neg (by omega), List.getElem?_eq_none (by simp [cellsI]; omega)]
  have hnew : (row.take l.length ++ [AVal.int .i64 k]) = cellsI (l ++ [k]) := by rw [h5]; simp [cellsI]
  have hw : ∀ _ : l.length + 1 ≤ row.length, aWrite r (0 + l.length * 1) [.int .i64 k] H = some ((), H.set r (.row (setAt row (0 + l.length * 1) [.int .i64 k]) true e')) := by
    intro g
    simp only [aWrite, if_pos h1, h2, hone, Bool.and_true, Bool.true_and]
    rw [if_pos (decide_eq_true (by simp only [List.length_singleton]; omega))]
  have hin : ∀ cap', (cap' = none ∨ ∃ c, cap' = some c ∧ 0 < c ∧ c ≤ row.length ∧ l.length + 1 ≤ c) → l.length + 1 ≤ row.length → Stk (H.set r (.row (setAt row (0 + l.length * 1) [.int .i64 k]) true e')) (.slice r 0 (l.length + 1) cap' 1) e (l ++ [k]) := by
    intro cap' g1 g2
    refine ⟨r, cap', _, e', by rw [List.length_append, List.length_singleton], h1, set_get_eq, h3, by rw [setAt_length, List.length_append, List.length_singleton]; exact g2, hput row g2 h5, ?_⟩
    rcases g1 with g1 | ⟨c, g1, g3, g4, g5⟩
    · exact Or.inl g1
    · exact Or.inr ⟨c, g1, g3, by rw [setAt_length]; exact g4, by rw [List.length_append, List.length_singleton]; exact g5⟩
  have hout : ∀ e'', e'' / 2 = e → ∀ H2 : AHeap, H2.n = H.n → Stk (H2.push (.row (cellsI (l ++ [k])) true e'')) (.slice H.n 0 (l.length + 1) none 1) e (l ++ [k]) := by
    intro e'' g H2 g2
    have hq0 : (cellsI (l ++ [k])).length = (l ++ [k]).length := cellsI_length _
    refine ⟨H.n, none, _, e'', by rw [List.length_append, List.length_singleton], by rw [← g2]; exact Nat.lt_succ_self _, by rw [← g2]; exact push_get_eq, g, by rw [hq0]; exact Nat.le_refl _, by rw [← hq0, List.take_length], Or.inl rfl⟩
  have hx : ∀ o, ExtP H (H.set r o) (.slice r 0 l.length cap 1) := fun o => ⟨Nat.le_refl _, fun s hs hne => set_get_ne (fun hh => hne.ne _ _ _ _ _ rfl hh.symm)⟩
  rcases h6 with rfl | ⟨c, rfl, h6, h7, h8⟩
  · by_cases g : l.length + 1 ≤ row.length
    · refine ⟨_, _, ?_, hin none (Or.inl rfl) g, hx _, fun K hK f => ⟨fun r' off len cap sz q => by cases q; exact f.ge _ _ _ _ _ rfl⟩⟩
      have hle : 0 + (l.length + 1) * 1 ≤ row.length := by omega
      simp only [aAppend, hf1', M.bind, hf2', hcond, Bool.false_eq_true, if_false]
      simp only [M.bind, if_false, Bool.false_eq_true, ne_eq, not_true, hrow, Nat.one_ne_zero, if_pos hle, hw g]
      rfl
    · refine ⟨.slice H.n 0 (l.length + 1) none 1, (H.set r .dead).push (.row (cellsI (l ++ [k])) true (2 * e + 1)), ?_, hout _ (half_odd _) (H.set r .dead) rfl, ⟨Nat.le_succ _, fun s hs hne => by
        rw [push_get_lt (H := H.set r .dead) hs, set_get_ne (fun hh => hne.ne _ _ _ _ _ rfl hh.symm)]⟩, fun K hK f => ⟨fun r' off len cap sz q => by cases q; exact hK⟩⟩
      have hno : ¬ 0 + (l.length + 1) * 1 ≤ row.length := by omega
      have hcl : 0 + l.length * 1 ≤ row.length := by omega
      have hmv : aMove r e (.row (((row.drop 0).take (l.length * 1)) ++ [.int .i64 k]) true (2 * e + 1)) H = some (H.n, (H.set r .dead).push (.row (cellsI (l ++ [k])) true (2 * e + 1))) := by
        simp only [aMove, h2, h3, nbeq_self]
        rw [List.drop_zero, Nat.mul_one, hnew]
      simp only [aAppend, hf1', M.bind, hf2', hcond, Bool.false_eq_true, if_false]
      simp only [M.bind, if_false, Bool.false_eq_true, ne_eq, not_true, hrow, Nat.one_ne_zero, hno, Bool.true_and, decide_eq_true hcl, decide_eq_true hl, Bool.and_true, if_true, hmv]
      rfl
  · by_cases g : l.length + 1 ≤ c
    · refine ⟨_, _, ?_, hin (some c) (Or.inr ⟨c, rfl, h6, h7, g⟩) (by omega), hx _, fun K hK f => ⟨fun r' off len cap sz q => by cases q; exact f.ge _ _ _ _ _ rfl⟩⟩
      simp only [aAppend, hf1', M.bind, hf2', hcond, Bool.false_eq_true, if_false]
      simp only [M.bind, if_false, Bool.false_eq_true, ne_eq, not_true, hrow, Nat.one_ne_zero, if_pos g, hw (by omega)]
      rfl
    · refine ⟨.slice H.n 0 (l.length + 1) none 1, H.push (.row (cellsI (l ++ [k])) true (2 * e)), ?_, hout _ (half_even _) H rfl, ⟨Nat.le_succ _, fun s hs _ => push_get_lt hs⟩, fun K hK f => ⟨fun r' off len cap sz q => by cases q; exact hK⟩⟩
      have hcl : 0 + l.length * 1 ≤ row.length := by omega
      have hand : 0 + l.length * 1 ≤ row.length ∧ 2 * (l.length + 1) * 8 ≤ 2 ^ 48 := ⟨hcl, hl⟩
      have hnw : aNew (.row (((row.drop 0).take (l.length * 1)) ++ [.int .i64 k]) true (2 * e)) H = some (H.n, H.push (.row (cellsI (l ++ [k])) true (2 * e))) := by
        rw [List.drop_zero, Nat.mul_one, hnew]; rfl
      simp only [aAppend, hf1', M.bind, hf2', hcond, Bool.false_eq_true, if_false]
      simp only [M.bind, if_false, Bool.false_eq_true, ne_eq, not_true, hrow, Nat.one_ne_zero, if_neg g, if_pos hand, hnw]
      rfl
def cN (l : List Nat) : List Int := l.map fun n : Nat => (n : Int)
theorem cN_length (l : List Nat) : (cN l).length = l.length := by simp [cN]
theorem cN_snoc (l : List Nat) (k : Nat) : cN (l ++ [k]) = cN l ++ [(k : Int)] := by simp [cN]
theorem cN_set (l : List Nat) (i k : Nat) : (cN l).set i (k : Int) = cN (l.set i k) := by simp [cN, List.map_set]
theorem cN_get {l : List Nat} {i : Nat} (h : i < (cN l).length) : (cN l)[i] = ((l.getD i 0 : Nat) : Int) := by
  have h' : i < l.length := by rw [cN_length] at h; exact h
  simp only [cN, List.getElem_map, List.getD_eq_getElem?_getD, List.getElem?_eq_getElem h', Option.getD_some]
section
variable {call : ACall} {fr : AFrame} {H : AHeap} {K : AVal → AHeap → Prop}
theorem WpX.cut {x : ROpd} {hi : Option ROpd} {p : AVal} {e : TypeId} {l : List Nat} {k : Nat} (hx : x.ev fr = p) (hhi : hi.map (·.ev fr) = some (.int .i64 (l.length : Int))) (h : Stk H p e (cN (l ++ [k])))
    (hK : ∀ p', Stk H p' e (cN l) → (∀ r off len cap sz, p' = .slice r off len cap sz → ∃ len' cap', p = .slice r off len' cap' sz) → K p' H) : WpX (.sliceS 1 x none hi none) call fr H K := by
  rw [cN_snoc] at h
  obtain ⟨p', h1, h2, h3⟩ := exec_cut h
  rw [cN_length] at h1
  exact ⟨_, _, by simp only [ROp.exec, hx, hhi, Option.map_none]; exact h1, hK p' h2 h3⟩
theorem WpX.push {e : TypeId} {x y : ROpd} {p q : AVal} {l : List Nat} {k : Nat} (hx : x.ev fr = p) (hy : y.ev fr = q) (h : Stk H p e (cN l)) (hq : IntsI H q [(k : Int)]) (hl : 2 * (l.length + 1) * 8 ≤ 2 ^ 48)
    (hK : ∀ p' H', Stk H' p' e (cN (l ++ [k])) → ExtP H H' p → (∀ K : AHeap, K.n ≤ H.n → FreshS K p → FreshS K p') → K p' H') : WpX (.append e 1 8 x y) call fr H K := by
  obtain ⟨p', H', h1, h2, h3, h4⟩ := exec_push h hq (by rw [cN_length]; exact hl)
  rw [← cN_snoc] at h2
  exact ⟨_, _, by simp only [ROp.exec, hx, hy]; exact h1, hK p' H' h2 h3 h4⟩
end
theorem ExtP.fresh {H H2 H3 : AHeap} {p q : AVal} (x : ExtP H H2 p) (y : ExtP H2 H3 q) (f : FreshS H q) : ExtP H H3 p :=
  ⟨Nat.le_trans x.n y.n, fun r hr hn => by
    rw [y.get r (Nat.lt_of_lt_of_le hr x.n) ⟨fun r' off len cap sz e => by have := f.ge _ _ _ _ _ e; omega⟩]
    exact x.get r hr hn⟩
theorem Stk.pushed {H : AHeap} {p : AVal} {e : TypeId} {l : List Int} {o : AObj} (h : Stk H p e l) : Stk (H.push o) p e l := h.keep (Nat.le_succ _) fun _ _ _ _ _ _ hr => push_get_lt hr
theorem Stk.other {H H' : AHeap} {p q : AVal} {e : TypeId} {l : List Int} (h : Stk H p e l) (x : ExtP H H' q) (k : SepS p q) : Stk H' p e l := h.keep x.n fun r _ _ _ _ e hr => x.get r hr ⟨fun r' _ _ _ _ e' => fun hh => k.ne _ _ _ _ _ _ _ _ _ _ e e' hh.symm⟩
structure FHp (K : AHeap) (mk : AVal) (img : List AVal) (r5 : Nat) (wt : AVal) (W M : List Nat) (H2 : AHeap) : Prop where
  bm : IntsI H2 mk (cN M)
  wm : WrS H2 mk
  st : Stk H2 wt 3 (cN W)
  fs : FreshS K wt
  g5 : HasRow H2 r5 img true (2 * 29)
  x : ExtP K H2 mk
def stp (e : Bool) : Nat := bif e then 1 else 2
theorem Wp.set2 {call : ACall} {lf : Nat} {fr : AFrame} {H : AHeap} {Q : RExit → AFrame → AHeap → Prop} {d : Nat} {c : ROpd} {x y : Int} {e : Bool} (hc : c.ev fr = .bool e) (hd : fr d = .int .i64 y) (h : Q .normal (upd fr d (.int .i64 (bif e then x else y))) H) : Wp call lf (.cond c (.region [⟨some d, .mov (.val (.int .i64 x)), none⟩]) .skip) fr H Q := by
  refine Wp.cond hc ?_
  cases e
  · refine Wp.skip ?_
    have : upd fr d (.int .i64 y) = fr := by
      funext i
      rw [upd_at]
      split
      · next q => rw [q, hd]
      · rfl
    rwa [show (bif false then x else y) = y from rfl, this] at h
  · exact Wp.region (WpO.do (WpX.mov (WpO.nil h)))
theorem tab_row {H : AHeap} (h : Tabs H) : ∃ rw e, HasRow H 1 aroundCs rw e := by
  obtain ⟨h1, rw, e, h2⟩ := tabs_iff.1 h.it
  exact ⟨rw, e, ⟨h1, h2⟩⟩
theorem getD_setN {M : List Nat} {k v : Nat} (h : k < M.length) : (fun i => (M.set k v).getD i 0) = fun i => if i = k then v else M.getD i 0 := by
  funext i
  simp only [List.getD_eq_getElem?_getD]
  by_cases hi : i = k
  · subst hi; rw [if_pos rfl, List.getElem?_set_self h]; rfl
  · rw [if_neg hi, List.getElem?_set_ne (fun e => hi e.symm)]
theorem count_setN {M : List Nat} {k v : Nat} (h : k < M.length) (h0 : M.getD k 0 = 0) (hv : 0 < v) : (M.set k v).count 0 + 1 = M.count 0 := by
  have hk : M[k] = 0 := by
    rw [List.getD_eq_getElem?_getD, List.getElem?_eq_getElem h, Option.getD_some] at h0; exact h0
  have hm : 0 < M.count 0 := List.count_pos_iff.2 (hk ▸ List.getElem_mem h)
  have hvz : (v == 0) = false := by simpa using (by omega : v ≠ 0)
  rw [List.count_set h, hk, hvz]
  simp only [beq_self_eq_true, if_true, Bool.false_eq_true, if_false]
  omega
theorem Fits.len {a b : Nat} {l : List UInt8} (h : Fits a b l) : l.length = a * b := by
  have := h.it
  simp only [sizedB, sideB, Bool.and_eq_true, beq_iff_eq, decide_eq_true_eq] at this
  obtain ⟨⟨⟨h1, h2⟩, h3, h4⟩, h5⟩ := this
  have := Nat.mul_le_mul (show a ≤ 640 by omega) (show b ≤ 640 by omega)
  rw [wm (by omega)] at h5
  omega
theorem snoc_cases (W : List Nat) : W = [] ∨ ∃ W' w, W = W' ++ [w] := by
  rcases List.eq_nil_or_concat W with h | ⟨W', w, h⟩
  · exact Or.inl h
  · exact Or.inr ⟨W', w, by rw [h, List.concat_eq_append]⟩
section
variable {l : List UInt8} {a b : Nat} {e : Bool} {M0 : Nat → Nat} {s n w T : Nat} {W M : List Nat}
theorem ring_nb {t j : Nat} (h : isNb a b w t j) : ringF a b l ((w % a : Nat) : Int) ((w / a : Nat) : Int) t = (l.getD j 0 == 1) := by
  obtain ⟨u, v, hu, hv, e1, e2, rfl⟩ := h
  show inkB a b l (_ + _) (_ + _) = _
  rw [← e1, ← e2]; exact inkB_mk hu hv
theorem nb_unique {t j k : Nat} (h : isNb a b w t j) (g : isNb a b w t k) : j = k := by
  obtain ⟨u, v, _, _, e1, e2, rfl⟩ := h
  obtain ⟨u', v', _, _, e1', e2', rfl⟩ := g
  have h1 : u = u' := by omega
  have h2 : v = v' := by omega
  rw [h1, h2]
theorem stp_even (h : T % stp e = 0) : e = true ∨ T % 2 = 0 := by
  cases e
  · exact Or.inr h
  · exact Or.inl rfl
theorem Flood.next0 {M : Nat → Nat} (h : Flood l a b e M0 s n M W (some (w, T))) (he : T % stp e = 0) (hk : ∀ j, isNb a b w T j → l.getD j 0 = 1 → M j ≠ 0) : Flood l a b e M0 s n M W (some (w, T + stp e)) := by
  refine h.keep fun t h1 h2 h3 j hj hl => ?_
  rcases Nat.lt_or_eq_of_le h1 with h4 | rfl
  · cases e
    · have h5 : T % 2 = 0 := he
      have h6 : t < T + 2 := h2
      rcases h3 with h3 | h3
      · cases h3
      · omega
    · have h6 : t < T + 1 := h2
      omega
  · exact hk j hj hl
theorem Flood.off (h : Flood l a b e M0 s n (fun i => M.getD i 0) W (some (w, T))) (he : T % stp e = 0) (hv : ringF a b l ((w % a : Nat) : Int) ((w / a : Nat) : Int) T = false) : Flood l a b e M0 s n (fun i => M.getD i 0) W (some (w, T + stp e)) :=
  h.next0 he fun j hj hl => by rw [ring_nb hj, hl] at hv; cases hv
theorem Flood.been (h : Flood l a b e M0 s n (fun i => M.getD i 0) W (some (w, T))) (he : T % stp e = 0) {k : Nat} (hk : isNb a b w T k) (h0 : M.getD k 0 ≠ 0) : Flood l a b e M0 s n (fun i => M.getD i 0) W (some (w, T + stp e)) :=
  h.next0 he fun j hj _ => by rw [nb_unique hj hk]; exact h0
theorem Flood.add (h : Flood l a b e M0 s n (fun i => M.getD i 0) W (some (w, T))) (he : T % stp e = 0) {k : Nat} (hT : T < 8) (hk : isNb a b w T k) (hl : l.getD k 0 = 1) (h0 : M.getD k 0 = 0) (hm : Whole l a b e M0 n) (hn : 0 < n) (hkM : k < M.length) : Flood l a b e M0 s n (fun i => (M.set k n).getD i 0) (W ++ [k]) (some (w, T + stp e)) := by
  have h1 := h.mark hn hT (stp_even he) hk hl h0 hm
  rw [← getD_setN hkM] at h1
  refine h1.next0 he fun j hj _ => ?_
  rw [nb_unique hj hk, congrFun (getD_setN hkM) k, if_pos rfl]; omega
end
theorem wd {x : Nat} {d : Int} (h : x ≤ 640) (hd : -1 ≤ d ∧ d ≤ 1) : IntKind.i64.wrap ((x : Int) + d) = (x : Int) + d := w64 (by omega)
theorem one_ints {H : AHeap} {k : Int} {e : TypeId} : IntsI (H.push (.row [.int .i64 k] true e)) (.slice H.n 0 1 (some 1) 1) [k] := ⟨Or.inr ⟨H.n, 0, some 1, _, true, e, rfl, Nat.lt_succ_self _, push_get_eq, Nat.le_refl _, rfl, Nat.le_refl _⟩⟩
structure Lab (l : List UInt8) (a b : Nat) (e : Bool) (M : List Nat) (L : List Nat) (i : Nat) : Prop where
  len : M.length = a * b
  whole : Whole l a b e (fun j => M.getD j 0) (L.length + 1)
  seen : ∀ j, j < i → l.getD j 0 = 1 → M.getD j 0 ≠ 0
  lead : ∀ m ∈ L, m < i ∧ Lead l a b e m m
  inc : L.Pairwise (· < ·)
  num : ∀ j, M.getD j 0 ≠ 0 → ∃ m, L[M.getD j 0 - 1]? = some m ∧ Reach l a b e m j
theorem getD_zeros (n i : Nat) : (List.replicate n 0).getD i 0 = 0 := by
  rw [List.getD_eq_getElem?_getD, List.getElem?_replicate]
  split <;> rfl
section
variable {l : List UInt8} {a b : Nat} {e : Bool} {M L : List Nat} {i : Nat}
theorem Lab.begin : Lab l a b e (List.replicate (a * b) 0) [] 0 :=
  ⟨List.length_replicate .., ⟨fun i => by show (List.replicate (a * b) 0).getD i 0 < _; rw [getD_zeros]; exact Nat.one_pos, fun i h => absurd (getD_zeros _ _) h, fun i j h => absurd (getD_zeros _ _) h⟩, fun j h => absurd h (Nat.not_lt_zero _), fun m h => (by cases h), List.Pairwise.nil, fun j h => absurd (getD_zeros _ _) h⟩
theorem Lab.skip (h : Lab l a b e M L i) (hi : l.getD i 0 = 1 → M.getD i 0 ≠ 0) : Lab l a b e M L (i + 1) :=
  ⟨h.len, h.whole, fun j hj hl => by
    rcases Nat.lt_succ_iff_lt_or_eq.1 hj with q | rfl
    · exact h.seen j q hl
    · exact hi hl, fun m hm => ⟨Nat.lt_succ_of_lt (h.lead m hm).1, (h.lead m hm).2⟩, h.inc, h.num⟩
theorem Lab.fresh (h : Lab l a b e M L i) (hi : i < a * b) (hl : l.getD i 0 = 1) (h0 : M.getD i 0 = 0) : Lead l a b e i i := by
  refine ⟨.refl hi hl, fun j hj => Nat.le_of_not_lt fun hlt => ?_⟩
  have h1 := h.seen j hlt hj.end_ok.2
  have h2 := h.whole.same j i h1 hj.symm
  exact h1 (by rw [← h2]; exact h0)
theorem Lab.next {M' : List Nat} (h : Lab l a b e M L i) (hi : i < a * b) (hl : l.getD i 0 = 1) (h0 : M.getD i 0 = 0) (hM : M'.length = a * b) (hm : ∀ j, (Reach l a b e i j → M'.getD j 0 = L.length + 1) ∧ (¬ Reach l a b e i j → M'.getD j 0 = M.getD j 0)) : Lab l a b e M' (L ++ [i]) (i + 1) := by
  classical
  have hlen : (L ++ [i]).length = L.length + 1 := by simp
  refine ⟨hM, by rw [hlen]; exact h.whole.next (Nat.succ_pos _) hi hl hm, fun j hj hlj => ?_, fun m hmm => ?_, ?_, fun j hj => ?_⟩
  · by_cases q : Reach l a b e i j
    · rw [(hm j).1 q]; exact Nat.succ_ne_zero _
    · rw [(hm j).2 q]
      rcases Nat.lt_succ_iff_lt_or_eq.1 hj with q' | rfl
      · exact h.seen j q' hlj
      · exact absurd (.refl hi hl) q
  · rcases List.mem_append.1 hmm with q | q
    · exact ⟨Nat.lt_succ_of_lt (h.lead m q).1, (h.lead m q).2⟩
    · rw [List.mem_singleton] at q; subst q
      exact ⟨Nat.lt_succ_self _, h.fresh hi hl h0⟩
  · rw [List.pairwise_append]
    exact ⟨h.inc, List.pairwise_singleton _ _, fun x hx y hy => by
      rw [List.mem_singleton] at hy; subst hy; exact (h.lead x hx).1⟩
  · by_cases q : Reach l a b e i j
    · refine ⟨i, ?_, q⟩
      rw [(hm j).1 q, Nat.add_sub_cancel, List.getElem?_append_right (Nat.le_refl _), Nat.sub_self]; rfl
    · rw [(hm j).2 q] at hj ⊢
      obtain ⟨m, h1, h2⟩ := h.num j hj
      refine ⟨m, ?_, h2⟩
      rw [List.getElem?_append_left (by
        rcases Nat.lt_or_ge (M.getD j 0 - 1) L.length with q' | q'
        · exact q'
        · rw [List.getElem?_eq_none q'] at h1; cases h1)]
      exact h1
theorem Lab.few (h : Lab l a b e M L i) : L.length ≤ i := by
  have h1 : ∀ m ∈ L, m < i := fun m hm => (h.lead m hm).1
  have h2 := h.inc
  clear h
  induction i generalizing L with
  | zero =>
    cases L with
    | nil => exact Nat.le_refl _
    | cons x _ => exact absurd (h1 x (List.mem_cons_self ..)) (Nat.not_lt_zero _)
  | succ i ih =>
    rcases snoc_cases L with rfl | ⟨L', w, rfl⟩
    · exact Nat.zero_le _
    · rw [List.pairwise_append] at h2
      rw [List.length_append, List.length_singleton]
      refine Nat.succ_le_succ (ih (fun m hm => ?_) h2.1)
      have h3 := h2.2.2 m hm w (List.mem_singleton.2 rfl)
      have h4 := h1 w (List.mem_append_right _ (List.mem_singleton.2 rfl))
      omega
end
section
variable {call : ACall} {fr : AFrame} {H : AHeap} {K : AVal → AHeap → Prop}
end
section
variable {call : ACall} {its : List DItem} {H0 : AHeap} {n ref : Nat} {E : List (Nat × AHeap)} {Rd : List (Nat × (AHeap → Bool))} {fr : AFrame} {H : AHeap} {K : AFrame → AHeap → Prop} {g : Option (Nat × Bool)} {b : Nat} {pre : Bool}
theorem WpE.grow {d : Option Nat} {e : TypeId} {x y : ROpd} {p q : AVal} {sz m k bytes : Nat} {cs new : List AVal} (hw : ROper.wanted fr ⟨d, .append e sz bytes x y, g⟩ = true) (hx : x.ev fr = p) (hy : y.ev fr = q) [h : OwnS H p sz m cs e] [hq : SliceAt H q sz k new] (hsz : 0 < sz) (hb : 0 < bytes) (hk : 0 < k) (hroom : 2 * (m + k) * bytes ≤ 2 ^ 48) (hone : new.all AVal.one = true)
    (hK : ∀ p' H', OwnS H' p' sz (m + k) (cs ++ new) e → FreshS H p' → ExtP H H' p → AllR b H' Rd ∧ WpE call (n + 1) ref its H0 ((n, H) :: E) Rd (put fr d p') H' K) : WpE call n ref (⟨⟨d, .append e sz bytes x y, g⟩, b, 2, pre⟩ :: its) H0 E Rd fr H K := by
  obtain ⟨p', H1, h1, h2, h3, h4⟩ := WpX.grow (call := call) (K := fun v H1 => OwnS H1 v sz (m + k) (cs ++ new) e ∧ FreshS H v ∧ ExtP H H1 p) hx hy hsz hb hk hroom hone fun p' H' q1 q2 q3 => ⟨q1, q2, q3⟩
  obtain ⟨h5, h6⟩ := hK p' H1 h2 h3 h4
  exact WpE.effect hw h1 h5 h6
end
structure Bx where
  x : Int
  y : Int
  w : Int
  h : Int
def Bx.cells (b : Bx) : List AVal := [.int .i64 b.x, .int .i64 b.y, .int .i64 b.w, .int .i64 b.h]
def cellsC : List (Bx × AVal) → List AVal
  | [] => []
  | c :: C => (c.1.cells ++ [c.2]) ++ cellsC C
theorem cellsC_length : ∀ C : List (Bx × AVal), (cellsC C).length = C.length * 5
  | [] => rfl
  | c :: C => by
    have := cellsC_length C
    simp only [cellsC, Bx.cells, List.length_append, List.length_cons, List.length_nil, this]
    omega
theorem setAt_right (u cs : List AVal) : ∀ (vs : List AVal) (j : Nat), setAt (u ++ cs) (u.length + j) vs = u ++ setAt cs j vs := by
  intro vs
  induction vs generalizing cs with
  | nil => intro j; rfl
  | cons v vs ih =>
    intro j
    show setAt ((u ++ cs).set (u.length + j) v) (u.length + j + 1) vs = u ++ setAt (cs.set j v) (j + 1) vs
    rw [← ih (cs.set j v) (j + 1)]
    congr 1
    apply List.ext_getElem?
    intro i
    by_cases hi : i < u.length
    · rw [List.getElem?_set_ne (by omega), List.getElem?_append_left hi, List.getElem?_append_left hi]
    · rw [List.getElem?_append_right (Nat.le_of_not_lt hi)]
      by_cases hj : u.length + j = i
      · subst hj
        rw [show u.length + j - u.length = j by omega]
        by_cases hc : j < cs.length
        · rw [List.getElem?_set_self (by rw [List.length_append]; omega), List.getElem?_set_self hc]
        · rw [List.getElem?_eq_none (by simp; omega), List.getElem?_eq_none (by simp; omega)]
      · rw [List.getElem?_set_ne hj, List.getElem?_append_right (Nat.le_of_not_lt hi), List.getElem?_set_ne (by omega)]
theorem cellsC_box : ∀ (C : List (Bx × AVal)) (k : Nat) (c : Bx × AVal) (b : Bx), C[k]? = some c → setAt (cellsC C) (k * 5) b.cells = cellsC (C.set k (b, c.2))
  | [], k, c, b, h => by simp at h
  | d :: C, 0, c, b, h => by
    simp only [List.getElem?_cons_zero, Option.some.injEq] at h
    subst h; rfl
  | d :: C, k + 1, c, b, h => by
    have ih := cellsC_box C k c b (by simpa using h)
    have hl : (d.1.cells ++ [d.2]).length = 5 := rfl
    show setAt ((d.1.cells ++ [d.2]) ++ cellsC C) ((k + 1) * 5) b.cells = (d.1.cells ++ [d.2]) ++ cellsC (C.set k (b, c.2))
    rw [show (k + 1) * 5 = (d.1.cells ++ [d.2]).length + k * 5 by rw [hl]; omega, setAt_right, ih]
theorem cellsC_px : ∀ (C : List (Bx × AVal)) (k : Nat) (c : Bx × AVal) (p : AVal), C[k]? = some c → (cellsC C).set (k * 5 + 4) p = cellsC (C.set k (c.1, p))
  | [], k, c, b, h => by simp at h
  | d :: C, 0, c, b, h => by
    simp only [List.getElem?_cons_zero, Option.some.injEq] at h
    subst h; rfl
  | d :: C, k + 1, c, p, h => by
    have ih := cellsC_px C k c p (by simpa using h)
    have hl : (d.1.cells ++ [d.2]).length = 5 := rfl
    have hs := setAt_right (d.1.cells ++ [d.2]) (cellsC C) [p] (k * 5 + 4)
    rw [setAt_one, setAt_one, hl, ih] at hs
    rw [show (k + 1) * 5 + 4 = 5 + (k * 5 + 4) by omega]
    exact hs
theorem cellsC_drop : ∀ (C : List (Bx × AVal)) (k : Nat) (c : Bx × AVal), C[k]? = some c → ∃ r, (cellsC C).drop (k * 5) = c.1.cells ++ [c.2] ++ r
  | [], k, c, h => by simp at h
  | d :: C, 0, c, h => by
    simp only [List.getElem?_cons_zero, Option.some.injEq] at h
    subst h; exact ⟨cellsC C, rfl⟩
  | d :: C, k + 1, c, h => by
    obtain ⟨r, hr⟩ := cellsC_drop C k c (by simpa using h)
    refine ⟨r, ?_⟩
    rw [← hr]
    show ((d.1.cells ++ [d.2]) ++ cellsC C).drop ((k + 1) * 5) = _
    rw [show (k + 1) * 5 = (d.1.cells ++ [d.2]).length + k * 5 by rw [show (d.1.cells ++ [d.2]).length = 5 from rfl]; omega, ← List.drop_drop, List.drop_left]
theorem cellsC_at {C : List (Bx × AVal)} {k : Nat} {c : Bx × AVal} (h : C[k]? = some c) : ((cellsC C).drop (k * 5)).take 4 = c.1.cells ∧ (cellsC C)[k * 5 + 4]? = some c.2 := by
  obtain ⟨r, hr⟩ := cellsC_drop C k c h
  refine ⟨by rw [hr]; rfl, ?_⟩
  have : ((cellsC C).drop (k * 5))[4]? = some c.2 := by rw [hr]; rfl
  rwa [List.getElem?_drop] at this
def cellsK (a : Nat) (l : List Nat) : List AVal := l.flatMap fun k => [.int .i64 ((k % a : Nat) : Int), .int .i64 ((k / a : Nat) : Int)]
theorem cellsK_snoc (a : Nat) (l : List Nat) (k : Nat) : cellsK a (l ++ [k]) = cellsK a l ++ [.int .i64 ((k % a : Nat) : Int), .int .i64 ((k / a : Nat) : Int)] := by simp [cellsK]
structure Cmps (K H : AHeap) (q : AVal) (a : Nat) (C : List (Bx × AVal)) (P : List (List Nat)) : Prop where
  len : P.length = C.length
  row : SliceAt H q 5 C.length (cellsC C)
  wr : WrS H q
  own : ∀ (k : Nat) c l, C[k]? = some c → P[k]? = some l → OwnS H c.2 2 l.length (cellsK a l) 93
  fresh : ∀ (k : Nat) c, C[k]? = some c → FreshS K c.2
  sep : ∀ (i j : Nat) c d, C[i]? = some c → C[j]? = some d → i ≠ j → SepS c.2 d.2
  sepq : ∀ (k : Nat) c, C[k]? = some c → SepS c.2 q
theorem set_at {α : Type} {C : List α} {k j : Nat} {x y : α} (h : (C.set k x)[j]? = some y) : (j = k ∧ y = x) ∨ (j ≠ k ∧ C[j]? = some y) := by
  by_cases hj : j = k
  · subst hj
    have hlt : j < C.length := by
      rcases Nat.lt_or_ge j C.length with q | q
      · exact q
      · rw [List.getElem?_eq_none (by rw [List.length_set]; exact q)] at h; cases h
    rw [List.getElem?_set_self hlt] at h
    exact Or.inl ⟨rfl, (Option.some.inj h).symm⟩
  · rw [List.getElem?_set_ne (fun e => hj e.symm)] at h
    exact Or.inr ⟨hj, h⟩
theorem SepS.symm {p q : AVal} (h : SepS p q) : SepS q p := ⟨fun r off len cap sz r' off' len' cap' sz' e e' hh => h.ne _ _ _ _ _ _ _ _ _ _ e' e hh.symm⟩
theorem Cmps.step {K H H3 : AHeap} {q p' : AVal} {a k i : Nat} {C : List (Bx × AVal)} {P : List (List Nat)} {l : List Nat} {b : Bx} (h : Cmps K H q a C P) (hl : P[k]? = some l) (hs : SliceAt H3 q 5 C.length (cellsC (C.set k (b, p')))) (hw : WrS H3 q) (ho : OwnS H3 p' 2 (l.length + 1) (cellsK a (l ++ [i])) 93) (hf : FreshS K p') (hn : ∀ (j : Nat) d, C[j]? = some d → j ≠ k → SepS d.2 p') (hq : SepS p' q)
    (hkeep : ∀ (j : Nat) d l', j ≠ k → C[j]? = some d → P[j]? = some l' → OwnS H3 d.2 2 l'.length (cellsK a l') 93) : Cmps K H3 q a (C.set k (b, p')) (P.set k (l ++ [i])) := by
  refine ⟨by rw [List.length_set, List.length_set]; exact h.len, by rw [List.length_set]; exact hs, hw, fun j c l' h1 h2 => ?_, fun j c h1 => ?_, fun i' j c d h1 h2 hne => ?_, fun j c h1 => ?_⟩
  · rcases set_at h1 with ⟨rfl, rfl⟩ | ⟨e1, h1⟩
    · rcases set_at h2 with ⟨_, rfl⟩ | ⟨e2, _⟩
      · rw [List.length_append, List.length_singleton]; exact ho
      · exact absurd rfl e2
    · rcases set_at h2 with ⟨e2, _⟩ | ⟨_, h2⟩
      · exact absurd e2 e1
      · exact hkeep j c l' e1 h1 h2
  · rcases set_at h1 with ⟨_, rfl⟩ | ⟨_, h1⟩
    · exact hf
    · exact h.fresh j c h1
  · rcases set_at h1 with ⟨rfl, rfl⟩ | ⟨e1, g1⟩
    · rcases set_at h2 with ⟨e2, _⟩ | ⟨e2, h2⟩
      · exact absurd e2.symm hne
      · exact (hn j d h2 e2).symm
    · rcases set_at h2 with ⟨rfl, rfl⟩ | ⟨_, h2⟩
      · exact hn i' c g1 e1
      · exact h.sep i' j c d g1 h2 hne
  · rcases set_at h1 with ⟨_, rfl⟩ | ⟨_, h1⟩
    · exact hq
    · exact h.sepq j c h1
def noC (n : Nat) : List (Bx × AVal) := List.replicate n (⟨0, 0, 0, 0⟩, .nslice)
theorem noC_cells (n : Nat) : (List.replicate n [AVal.int .i64 0, .int .i64 0, .int .i64 0, .int .i64 0, .nslice]).flatten = cellsC (noC n) := by
  induction n with
  | zero => rfl
  | succ n ih => rw [List.replicate_succ, List.flatten_cons, ih]; rfl
theorem rep_at {α : Type} {n k : Nat} {x y : α} (h : (List.replicate n x)[k]? = some y) : y = x := by
  rw [List.getElem?_replicate] at h
  split at h
  · exact (Option.some.inj h).symm
  · cases h
theorem WpX.mkC {call : ACall} {fr : AFrame} {H : AHeap} {K : AVal → AHeap → Prop} {e : TypeId} {x y : ROpd} {k k' : IntKind} {n m : Nat} (a : Nat) {K0 : AHeap} (hx : x.ev fr = .int k (n : Int)) (hy : y.ev fr = .int k' (n : Int)) (hm : m ≤ 64) (hn : n ≤ 2 ^ 40) (hK0 : K0.n ≤ H.n)
    (h : ∀ p H1, Cmps K0 H1 p a (noC n) (List.replicate n []) → FreshS H p → ExtI H H1 → K p H1) : WpX (.makeSlice e [.int .i64 0, .int .i64 0, .int .i64 0, .int .i64 0, .nslice] m x y) call fr H K := by
  have h0 : 0 ≤ (n : Int) ∧ (n : Int) ≤ (n : Int) ∧ (m : Int) * (n : Int) ≤ 2 ^ 47 ∧ (n : Int) < 2 ^ 62 := by
    have h1 : m * n ≤ 64 * 2 ^ 40 := Nat.mul_le_mul hm hn
    have h2 : ((m * n : Nat) : Int) = (m : Int) * (n : Int) := Int.natCast_mul m n
    refine ⟨by omega, by omega, by rw [← h2]; omega, by omega⟩
  refine ⟨.slice H.n 0 n (some n) 5, H.push (.row (cellsC (noC n)) true (2 * e)), ?_, h _ _ ?_ ⟨fun r off len cap sz q => by cases q; exact Nat.le_refl _⟩ ⟨(Ext.refl H).push _⟩⟩
  · simp only [ROp.exec, hx, hy, aMakeSlice, if_pos h0, M.bind, aNew, M.pure, Int.toNat_natCast, noC_cells]
    rfl
  · have hlen : (noC n).length = n := List.length_replicate ..
    have hcl := cellsC_length (noC n)
    rw [hlen] at hcl
    refine ⟨by rw [hlen, List.length_replicate], ?_, ⟨fun r off len cap sz q => by cases q; exact ⟨_, _, push_get_eq⟩⟩, fun k c l h1 h2 => ?_, fun k c h1 => ?_, fun i j c d h1 h2 _ => ?_, fun k c h1 => ?_⟩
    · rw [hlen]
      exact ⟨Or.inr ⟨H.n, 0, some n, _, true, _, rfl, Nat.lt_succ_self _, push_get_eq, by omega, by rw [List.drop_zero, List.take_of_length_le (by omega)], Nat.le_refl _⟩⟩
    · rw [rep_at h1, rep_at h2]; exact ⟨Or.inl ⟨rfl, rfl, rfl⟩⟩
    · rw [rep_at h1]; exact ⟨fun _ _ _ _ _ q => by cases q⟩
    · rw [rep_at h1]; exact ⟨fun _ _ _ _ _ _ _ _ _ _ q => by cases q⟩
    · rw [rep_at h1]; exact ⟨fun _ _ _ _ _ _ _ _ _ _ q => by cases q⟩
end Go.Am
namespace Go.Am
open Go
attribute [local irreducible] Wp WpO WpX WpE
def nearB (x y u v : Int) (e : Bool) : Bool := !(decide (IntKind.i64.wrap (x - u) < -1) || decide (IntKind.i64.wrap (x - u) > 1) || decide (IntKind.i64.wrap (y - v) < -1) || decide (IntKind.i64.wrap (y - v) > 1)) && (e || ((IntKind.i64.wrap (x - u) == 0) || (IntKind.i64.wrap (y - v) == 0)))
instance K_near {x y u v : Int} {e : Bool} {H : AHeap} : PureCon ext prog 69 [.agg [.int .i64 x, .int .i64 y], .agg [.int .i64 u, .int .i64 v], .bool e] H 1 (.bool (nearB x y u v e)) := ⟨by
 refine con_of (show prog 69 = some c69 from rfl) rfl rfl fun n hn => ?_
 unfold nearB
 repeat first
  | refine mI ?_
  | refine mB ?_
  | refine fd ?_
  | refine Fo.ld rfl rfl ?_
  | refine b0 ?_
  | refine bA ?_
  | refine nl hKF ?_
  | refine sq ?_
  | refine rg fun KF hKF => ?_
  | refine Fr.quiet rfl rfl fun KF hKF => ?_
 cases g0 : decide (IntKind.i64.wrap (x - u) < -1)
 rotate_left
 ·skip
  repeat first
   | refine ox ?_
   | refine mB ?_
   | refine tB ?_
   | refine nl hKF ?_
   | refine sq ?_
   | refine rg fun KF hKF => ?_
   | refine ct rfl ?_
   | refine rt ?_
  refine rz trivial ?_
  exact ⟨by simp only [g0, Bool.or_true, Bool.true_or, Bool.false_or]; rfl, Ext0.ext⟩
 refine oy ?_
 refine mI ?_
 refine oy ?_
 refine b0 ?_
 refine fB ?_
 refine mB ?_
 cases g1 : decide (IntKind.i64.wrap (x - u) > 1)
 rotate_left
 ·skip
  repeat first
   | refine ox ?_
   | refine mB ?_
   | refine tB ?_
   | refine nl hKF ?_
   | refine sq ?_
   | refine rg fun KF hKF => ?_
   | refine ct rfl ?_
   | refine rt ?_
  refine rz trivial ?_
  exact ⟨by simp only [g0, g1, Bool.or_true, Bool.true_or, Bool.false_or]; rfl, Ext0.ext⟩
 refine oy ?_
 refine mI ?_
 refine oy ?_
 refine b0 ?_
 refine fB ?_
 refine mB ?_
 cases g2 : decide (IntKind.i64.wrap (y - v) < -1)
 rotate_left
 ·skip
  repeat first
   | refine ox ?_
   | refine mB ?_
   | refine tB ?_
   | refine nl hKF ?_
   | refine sq ?_
   | refine rg fun KF hKF => ?_
   | refine ct rfl ?_
   | refine rt ?_
  refine rz trivial ?_
  exact ⟨by simp only [g0, g1, g2, Bool.or_true, Bool.true_or, Bool.false_or]; rfl, Ext0.ext⟩
 refine oy ?_
 refine mI ?_
 refine oy ?_
 refine b0 ?_
 refine fB ?_
 refine nl hKF ?_
 dsimp only [cond_true, cond_false]
 cases g3 : decide (IntKind.i64.wrap (y - v) > 1)
 rotate_left
 ·skip
  refine ct rfl ?_
  refine sq ?_
  refine rg fun KF hKF => ?_
  refine mB ?_
  refine nl hKF ?_
  refine rt ?_
  dsimp only [cond_true, cond_false]
  refine rz trivial ?_
  exact ⟨by simp only [g0, g1, g2, g3, Bool.or_true, Bool.true_or, Bool.false_or]; rfl, Ext0.ext⟩
 refine cf rfl ?_
 refine sk ?_
 refine sq ?_
 refine rg fun KF hKF => ?_
 refine mB ?_
 refine mB ?_
 cases e
 ·skip
  refine oy ?_
  refine mI ?_
  refine oy ?_
  refine b0 ?_
  refine fB ?_
  refine mB ?_
  cases k1 : (IntKind.i64.wrap (x - u) == 0)
  ·skip
   refine oy ?_
   refine mI ?_
   refine oy ?_
   refine b0 ?_
   refine fB ?_
   refine mB ?_
   refine nl hKF ?_
   refine rt ?_
   dsimp only [cond_true, cond_false]
   refine rz trivial ?_
   exact ⟨by simp only [g0, g1, g2, g3, k1]; rfl, Ext0.ext⟩
  ·skip
   refine ox ?_
   refine ox ?_
   refine tB ?_
   refine mB ?_
   refine nl hKF ?_
   refine rt ?_
   dsimp only [cond_true, cond_false]
   refine rz trivial ?_
   exact ⟨by simp only [g0, g1, g2, g3, k1]; rfl, Ext0.ext⟩
 ·skip
  repeat first
   | refine ox ?_
   | refine mB ?_
   | refine tB ?_
   | refine nl hKF ?_
   | refine rt ?_
  refine rz trivial ?_
  exact ⟨by simp only [g0, g1, g2, g3]; rfl, Ext0.ext⟩⟩
def strX (x px : Int) : Int := if px < x then px else x
def strW (x w px : Int) : Int := IntKind.i64.wrap ((if IntKind.i64.wrap (px + 1) > IntKind.i64.wrap (x + w) then IntKind.i64.wrap (px + 1) else IntKind.i64.wrap (x + w)) - strX x px)
instance K_stretch0 {x y h px py : Int} {H : AHeap} : PureCon ext prog 76 [.agg [.int .i64 x, .int .i64 y, .int .i64 0, .int .i64 h], .agg [.int .i64 px, .int .i64 py]] H 1 (.agg [.int .i64 px, .int .i64 py, .int .i64 1, .int .i64 1]) := ⟨by
 refine con_of (show prog 76 = some c76 from rfl) rfl rfl fun n hn => ?_
 repeat first
  | refine fd ?_
  | refine Fo.ld rfl rfl ?_
  | (refine bn rfl rfl rfl (by simp only [↓nrmL, nrmZ, Nat.reduceEqDiff, ↓reduceIte, Nat.reduceAdd, Int.reduceBEq, Int.reduceBNe]; rfl) ?_)
  | refine bA ?_
  | refine nw ?_
  | (refine Fo.now rfl rfl (by simp only [↓nrmL, nrmZ, Nat.reduceEqDiff, ↓reduceIte, Nat.reduceAdd, Int.reduceBEq, Int.reduceBNe]; rfl) ?_)
  | (refine so rfl (rfl : _ = AVal.agg _) rfl rfl rfl (by simp only [↓nrmL, nrmZ, Nat.reduceEqDiff, ↓reduceIte, Nat.reduceAdd, Int.reduceBEq, Int.reduceBNe]; rfl) ?_)
  | refine nl hKF ?_
  | refine sq ?_
  | refine rg fun KF hKF => ?_
  | refine ct rfl ?_
  | refine rt ?_
  | dsimp only [cond_true, cond_false]
 refine rz trivial ?_
 exact ⟨rfl, Ext0.ext⟩⟩
theorem K_stretch {x y w h px py : Int} {H : AHeap} (hw : (w == 0) = false) : PureCon ext prog 76 [.agg [.int .i64 x, .int .i64 y, .int .i64 w, .int .i64 h], .agg [.int .i64 px, .int .i64 py]] H 1 (.agg [.int .i64 (strX x px), .int .i64 (strX y py), .int .i64 (strW x w px), .int .i64 (strW y h py)]) := ⟨by
 refine con_of (show prog 76 = some c76 from rfl) rfl rfl fun n hn => ?_
 unfold strW strX
 repeat first
  | refine mI ?_
  | refine fd ?_
  | refine Fo.ld rfl rfl ?_
  | (refine bn rfl rfl rfl (by simp only [hw]; rfl) ?_)
  | (refine bn rfl rfl rfl (by simp only [↓nrmL, nrmZ, Nat.reduceEqDiff, ↓reduceIte, hw]; rfl) ?_)
  | refine b0 ?_
  | refine bA ?_
  | refine nw ?_
  | (refine Fo.now rfl rfl (by simp only [hw]; rfl) ?_)
  | (refine Fo.now rfl rfl (by simp only [↓nrmL, nrmZ, Nat.reduceEqDiff, ↓reduceIte, hw]; rfl) ?_)
  | refine Fo.now rfl rfl rfl ?_
  | (refine so rfl (rfl : _ = AVal.agg _) rfl rfl rfl (by simp only [↓nrmL, nrmZ, Nat.reduceEqDiff, ↓reduceIte, hw]; rfl) ?_)
  | refine nl hKF ?_
  | refine sq ?_
  | refine rg fun KF hKF => ?_
  | refine Fr.quiet rfl rfl fun KF hKF => ?_
  | refine cf rfl ?_
  | refine sk ?_
  | refine rt ?_
 refine rz trivial ?_
 exact ⟨rfl, Ext0.ext⟩⟩
end Go.Am
namespace Go.Am
open Go
def pxs (M : List Nat) (i k : Nat) : List Nat := (List.range i).filter fun j => M.getD j 0 == k + 1
theorem pxs_hit {M : List Nat} {i k : Nat} (h : M.getD i 0 = k + 1) : pxs M (i + 1) k = pxs M i k ++ [i] := by
  unfold pxs
  have hb : (M.getD i 0 == k + 1) = true := by rw [h]; exact beq_self_eq_true _
  rw [List.range_succ, List.filter_append]
  simp only [List.filter_cons, hb, if_true, List.filter_nil]
theorem pxs_miss {M : List Nat} {i k : Nat} (h : M.getD i 0 ≠ k + 1) : pxs M (i + 1) k = pxs M i k := by
  unfold pxs
  have hb : (M.getD i 0 == k + 1) = false := beq_eq_false_iff_ne.2 h
  rw [List.range_succ, List.filter_append]
  simp only [List.filter_cons, hb, Bool.false_eq_true, if_false, List.filter_nil, List.append_nil]
def pxAll (M : List Nat) (n i : Nat) : List (List Nat) := (List.range n).map (pxs M i)
theorem pxAll_length (M : List Nat) (n i : Nat) : (pxAll M n i).length = n := by simp [pxAll]
theorem pxAll_zero (M : List Nat) (n : Nat) : pxAll M n 0 = List.replicate n [] := by
  unfold pxAll
  apply List.ext_getElem?
  intro k
  rw [List.getElem?_map, List.getElem?_replicate]
  by_cases h : k < n
  · rw [List.getElem?_range h, if_pos h]; rfl
  · rw [List.getElem?_eq_none (by simp; omega), if_neg h]; rfl
theorem pxAll_at {M : List Nat} {n i k : Nat} (h : k < n) : (pxAll M n i)[k]? = some (pxs M i k) := by
  unfold pxAll
  rw [List.getElem?_map, List.getElem?_range h]; rfl
theorem pxAll_skip {M : List Nat} {n i : Nat} (h : M.getD i 0 = 0) : pxAll M n (i + 1) = pxAll M n i := by
  unfold pxAll
  apply List.map_congr_left
  intro k _
  exact pxs_miss (by omega)
theorem pxAll_next {M : List Nat} {n i k : Nat} (h : M.getD i 0 = k + 1) : pxAll M n (i + 1) = (pxAll M n i).set k (pxs M i k ++ [i]) := by
  apply List.ext_getElem?
  intro j
  by_cases hj : j < n
  · rw [pxAll_at hj]
    by_cases hk : k = j
    · subst hk
      rw [List.getElem?_set_self (by rw [pxAll_length]; exact hj), pxs_hit h]
    · rw [List.getElem?_set_ne hk, pxAll_at hj, pxs_miss (by omega)]
  · rw [List.getElem?_eq_none (by rw [pxAll_length]; omega), List.getElem?_eq_none (by rw [List.length_set, pxAll_length]; omega)]
theorem pxs_le (M : List Nat) (i k : Nat) : (pxs M i k).length ≤ i := by
  unfold pxs
  exact Nat.le_trans (List.length_filter_le _ _) (by simp)
def bxS (b : Bx) (px py : Int) : Bx := bif b.w == 0 then ⟨px, py, 1, 1⟩ else ⟨strX b.x px, strX b.y py, strW b.x b.w px, strW b.y b.h py⟩
def bxL (a : Nat) (l : List Nat) : Bx := l.foldl (fun b k => bxS b ((k % a : Nat) : Int) ((k / a : Nat) : Int)) ⟨0, 0, 0, 0⟩
theorem bxL_snoc (a : Nat) (l : List Nat) (k : Nat) : bxL a (l ++ [k]) = bxS (bxL a l) ((k % a : Nat) : Int) ((k / a : Nat) : Int) := by
  unfold bxL
  rw [List.foldl_append]; rfl
instance K_stretchB {b : Bx} {px py : Int} {H : AHeap} : PureCon ext prog 76 [.agg b.cells, .agg [.int .i64 px, .int .i64 py]] H 1 (.agg (bxS b px py).cells) := by
  obtain ⟨x, y, w, h⟩ := b
  unfold bxS Bx.cells
  cases hw : w == 0
  · exact K_stretch hw
  · have : w = 0 := eq_of_beq hw
    subst this
    exact K_stretch0
theorem bx_cells (b : Bx) : b.cells.length = 4 ∧ b.cells.all AVal.one = true := ⟨rfl, rfl⟩
structure CmpsR (K H : AHeap) (q : AVal) (l : List UInt8) (a b : Nat) (e : Bool) (M L : List Nat) (C : List (Bx × AVal)) : Prop where
  lab : Lab l a b e M L (a * b)
  cmps : Cmps K H q a C (pxAll M L.length (a * b))
  box : ∀ (k : Nat) c, C[k]? = some c → c.1 = bxL a (pxs M (a * b) k)
  num : C.length = L.length
theorem nearB_small {x y u v : Nat} {e : Bool} (hx : x ≤ 640) (hy : y ≤ 640) (hu : u ≤ 640) (hv : v ≤ 640) : nearB x y u v e = true ↔ ((x : Int) - u ≤ 1 ∧ -1 ≤ (x : Int) - u ∧ (y : Int) - v ≤ 1 ∧ -1 ≤ (y : Int) - v) ∧ (e = true ∨ x = u ∨ y = v) := by
  unfold nearB
  rw [w64 (x := (x : Int) - u) (by omega), w64 (x := (y : Int) - v) (by omega)]
  simp only [Bool.and_eq_true, Bool.not_eq_true', Bool.or_eq_false_iff, Bool.or_eq_true, decide_eq_false_iff_not, beq_iff_eq]
  cases e
  · simp only [Bool.false_eq_true, false_or]; omega
  · simp only [true_or, and_true]; omega
theorem nb_of_near {a b x y u v : Nat} {e : Bool} (ha : a ≤ 640) (hb : b ≤ 640) (hx : x < a) (hy : y < b) (hu : u < a) (hv : v < b) (h : nearB x y u v e = true) (hne : ¬ (u = x ∧ v = y)) : Nb a b e (y * a + x) (v * a + u) := by
  obtain ⟨⟨h1, h2, h3, h4⟩, h5⟩ := (nearB_small (by omega) (by omega) (by omega) (by omega)).1 h
  obtain ⟨d1, d2⟩ := at_div (v := y) hx
  have key : ∀ t : Nat, t < 8 → (u : Int) = (x : Int) + dxN t → (v : Int) = (y : Int) + dyN t → (e = true ∨ t % 2 = 0) → Nb a b e (y * a + x) (v * a + u) := fun t ht e1 e2 he => ⟨t, ht, he, u, v, hu, hv, by rw [d1]; exact e1, by rw [d2]; exact e2, rfl⟩
  have hu3 : (u : Int) = x - 1 ∨ (u : Int) = x ∨ (u : Int) = x + 1 := by omega
  have hv3 : (v : Int) = y - 1 ∨ (v : Int) = y ∨ (v : Int) = y + 1 := by omega
  have hd : ∀ q : Int, (u : Int) ≠ x → (v : Int) ≠ y → e = true := fun _ g1 g2 => by
    rcases h5 with h5 | h5 | h5
    · exact h5
    · omega
    · omega
  rcases hu3 with hu3 | hu3 | hu3 <;> rcases hv3 with hv3 | hv3 | hv3
  · exact key 7 (by decide) (by rw [hu3]; rfl) (by rw [hv3]; rfl) (Or.inl (hd 0 (by omega) (by omega)))
  · exact key 6 (by decide) (by rw [hu3]; rfl) (by rw [hv3]; exact (Int.add_zero _).symm) (Or.inr rfl)
  · exact key 5 (by decide) (by rw [hu3]; rfl) (by rw [hv3]; rfl) (Or.inl (hd 0 (by omega) (by omega)))
  · exact key 0 (by decide) (by rw [hu3]; exact (Int.add_zero _).symm) (by rw [hv3]; rfl) (Or.inr rfl)
  · exact absurd ⟨by omega, by omega⟩ hne
  · exact key 4 (by decide) (by rw [hu3]; exact (Int.add_zero _).symm) (by rw [hv3]; rfl) (Or.inr rfl)
  · exact key 1 (by decide) (by rw [hu3]; rfl) (by rw [hv3]; rfl) (Or.inl (hd 0 (by omega) (by omega)))
  · exact key 2 (by decide) (by rw [hu3]; rfl) (by rw [hv3]; exact (Int.add_zero _).symm) (Or.inr rfl)
  · exact key 3 (by decide) (by rw [hu3]; rfl) (by rw [hv3]; rfl) (Or.inl (hd 0 (by omega) (by omega)))
theorem near_of_nb {a b j k : Nat} {e : Bool} (ha : a ≤ 640) (hb : b ≤ 640) (hj : j < a * b) (h : Nb a b e j k) : ∃ u v : Nat, u < a ∧ v < b ∧ k = v * a + u ∧ nearB (j % a : Nat) (j / a : Nat) u v e = true ∧ ∃ ku kv : Nat, ku < 3 ∧ kv < 3 ∧ (u : Int) = ((j % a : Nat) : Int) - 1 + ku ∧ (v : Int) = ((j / a : Nat) : Int) - 1 + kv := by
  obtain ⟨t, ht, he, u, v, hu, hv, e1, e2, rfl⟩ := h
  obtain ⟨_, h1, h2, _⟩ := div_lt hj
  obtain ⟨⟨b1, b2⟩, b3, b4⟩ := dN_bd t ht
  generalize hX : j % a = X at *
  generalize hY : j / a = Y at *
  refine ⟨u, v, hu, hv, rfl, (nearB_small (by omega) (by omega) (by omega) (by omega)).2 ⟨⟨by omega, by omega, by omega, by omega⟩, ?_⟩, (dxN t + 1).toNat, (dyN t + 1).toNat, by omega, by omega, by omega, by omega⟩
  rcases he with he | he
  · exact Or.inl he
  · have hz : ∀ t < 8, t % 2 = 0 → dxN t = 0 ∨ dyN t = 0 := by decide
    rcases hz t ht he with q | q
    · exact Or.inr (Or.inl (by omega))
    · exact Or.inr (Or.inr (by omega))
structure RNum (l : List UInt8) (a b : Nat) (e : Bool) (N : List Nat) : Prop where
  len : N.length = a * b
  le : ∀ i, i < a * b → N.getD i 0 ≤ i
  ink : ∀ i, i < a * b → l.getD i 0 = 1 → Reach l a b e i (N.getD i 0)
section
variable {l : List UInt8} {a b : Nat} {e : Bool} {N : List Nat}
theorem getD_range {n i : Nat} (h : i < n) : (List.range n).getD i 0 = i := by
  rw [List.getD_eq_getElem?_getD, List.getElem?_range h]; rfl
theorem RNum.begin : RNum l a b e (List.range (a * b)) :=
  ⟨List.length_range, fun i hi => by rw [getD_range hi]; exact Nat.le_refl _, fun i hi hl => by rw [getD_range hi]; exact .refl hi hl⟩
theorem RNum.lower {i j : Nat} (h : RNum l a b e N) (hi : i < a * b) (hl : l.getD i 0 = 1) (hn : Nb a b e i j) (hlj : l.getD j 0 = 1) (hlt : N.getD j 0 < N.getD i 0) : RNum l a b e (N.set i (N.getD j 0)) := by
  have hg : ∀ k, (N.set i (N.getD j 0)).getD k 0 = if k = i then N.getD j 0 else N.getD k 0 := fun k => congrFun (getD_setN (by rw [h.len]; exact hi)) k
  refine ⟨by rw [List.length_set]; exact h.len, fun k hk => ?_, fun k hk hlk => ?_⟩
  · rw [hg]
    split
    · next q => rw [q]; have := h.le i hi; omega
    · exact h.le k hk
  · rw [hg]
    split
    · next q => rw [q]; exact ((Reach.refl hi hl).step hn hlj).trans (h.ink j hn.lt hlj)
    · exact h.ink k hk hlk
theorem RNum.fix (h : RNum l a b e N) (hno : ∀ i j, i < a * b → l.getD i 0 = 1 → Nb a b e i j → l.getD j 0 = 1 → ¬ N.getD j 0 < N.getD i 0) {i : Nat} (hi : i < a * b) (hl : l.getD i 0 = 1) : Lead l a b e i (N.getD i 0) :=
  num_lead (num := fun k => N.getD k 0) (fun k hk hlk => ⟨h.ink k hk hlk, h.le k hk⟩) (fun k j hk hlk hn hlj => by
    have h1 := hno k j hk hlk hn hlj
    have h2 := hno j k hn.lt hlj (hn.symm hk) hlk
    exact Nat.le_antisymm (Nat.le_of_not_lt h1) (Nat.le_of_not_lt h2)) hi hl
theorem sum_setN {i v : Nat} (hi : i < N.length) (hv : v < N.getD i 0) : (N.set i v).sum < N.sum := by
  induction N generalizing i with
  | nil => exact absurd hi (Nat.not_lt_zero _)
  | cons x N ih =>
    cases i with
    | zero =>
      have hv' : v < x := hv
      simp only [List.set_cons_zero, List.sum_cons]
      omega
    | succ i =>
      have := ih (Nat.lt_of_succ_lt_succ hi) hv
      simp only [List.set_cons_succ, List.sum_cons]
      omega
def Okp (l : List UInt8) (a b : Nat) (e : Bool) (N : List Nat) (x y : Nat) (u v : Int) : Prop := inkB a b l u v = true → nearB x y u v e = true → ¬ N.getD (v * a + u).toNat 0 < N.getD (y * a + x) 0
def Okpix (l : List UInt8) (a b : Nat) (e : Bool) (N : List Nat) (x y : Nat) : Prop := inkB a b l x y = true → ∀ kv < 3, ∀ ku < 3, Okp l a b e N x y ((x : Int) - 1 + (ku : Nat)) ((y : Int) - 1 + (kv : Nat))
theorem ok_all (ha : a ≤ 640) (hb : b ≤ 640) (h : ∀ y < b, ∀ x < a, Okpix l a b e N x y) : ∀ i j, i < a * b → l.getD i 0 = 1 → Nb a b e i j → l.getD j 0 = 1 → ¬ N.getD j 0 < N.getD i 0 := by
  intro i j hi hl hn hlj
  obtain ⟨_, h1, h2, h3⟩ := div_lt hi
  obtain ⟨u, v, hu, hv, rfl, h4, ku, kv, h5, h6, h7, h8⟩ := near_of_nb ha hb hi hn
  have hi1 : inkB a b l ((i % a : Nat) : Int) ((i / a : Nat) : Int) = true := by
    rw [inkB_mk h1 h2, ← h3, hl]; rfl
  have := h _ h2 _ h1 hi1 kv h6 ku h5
  rw [← h7, ← h8] at this
  have h9 := this (by rw [inkB_mk hu hv, hlj]; rfl) h4
  rw [idx_of, ← h3] at h9
  exact h9
end
def upN (n i : Nat) : List Nat := List.range i ++ List.replicate (n - i) 0
theorem upN_zero (n : Nat) : upN n 0 = List.replicate n 0 := by simp [upN]
theorem upN_all (n : Nat) : upN n n = List.range n := by simp [upN]
theorem upN_length {n i : Nat} (h : i ≤ n) : (upN n i).length = n := by simp [upN]; omega
theorem upN_set {n i : Nat} (h : i < n) : (upN n i).set i i = upN n (i + 1) := by
  apply List.ext_getElem?
  intro k
  have hu : ∀ m k, (upN n m)[k]? = if k < m then some k else if k < m + (n - m) then some 0 else none := by
    intro m k
    unfold upN
    rw [List.getElem?_append, List.length_range]
    split
    · next q => rw [List.getElem?_range q]
    · next q =>
      rw [List.getElem?_replicate]
      by_cases q' : k - m < n - m
      · rw [if_pos q', if_pos (by omega)]
      · rw [if_neg q', if_neg (by omega)]
  by_cases hk : k = i
  · subst hk
    rw [List.getElem?_set_self (by rw [upN_length (Nat.le_of_lt h)]; exact h), hu, if_pos (Nat.lt_succ_self _)]
  · rw [List.getElem?_set_ne (fun q => hk q.symm), hu, hu]
    by_cases h1 : k < i
    · rw [if_pos h1, if_pos (show k < i + 1 by omega)]
    · rw [if_neg h1, if_neg (show ¬ k < i + 1 by omega)]
      by_cases h2 : k < n
      · rw [if_pos (show k < i + (n - i) by omega), if_pos (show k < i + 1 + (n - (i + 1)) by omega)]
      · rw [if_neg (show ¬ k < i + (n - i) by omega), if_neg (show ¬ k < i + 1 + (n - (i + 1)) by omega)]
structure Pas (l : List UInt8) (a b : Nat) (e : Bool) (N0 N : List Nat) (ch : Bool) (P : Prop) : Prop where
  num : RNum l a b e N
  it : (ch = true ∧ N.sum < N0.sum) ∨ (ch = false ∧ N = N0 ∧ P)
theorem Pas.to {l : List UInt8} {a b : Nat} {e : Bool} {N0 N : List Nat} {ch : Bool} {P Q : Prop} (h : Pas l a b e N0 N ch P) (hq : N = N0 → P → Q) : Pas l a b e N0 N ch Q :=
  ⟨h.num, h.it.imp id fun ⟨h1, h2, h3⟩ => ⟨h1, h2, hq h2 h3⟩⟩
theorem sum_range (n : Nat) : 2 * (List.range n).sum + n = n * n := by
  induction n with
  | zero => rfl
  | succ n ih =>
    have e1 : (n + 1) * (n + 1) = n * n + n + (n + 1) := by rw [Nat.add_mul, Nat.mul_add, Nat.mul_one, Nat.one_mul]
    rw [List.range_succ, List.sum_append, List.sum_singleton, e1]
    omega
end Go.Am
namespace Go.Am
open Go
attribute [local irreducible] Wp WpO WpX WpE
abbrev RunT := Int × Int × Int
def cellsR (l : List RunT) : List AVal := l.flatMap fun r => [.int .i64 r.1, .int .i64 r.2.1, .int .i64 r.2.2]
end Go.Am
namespace Go.Am
open Go
attribute [local irreducible] Wp WpO WpX WpE
instance {H : AHeap} {r : Nat} {a b c : AVal} {rw : Bool} {ty : TypeId} [h : HasRow H r [a, b, c] rw ty] : SliceAt H (.slice r 0 1 (some 1) 3) 3 1 [a, b, c] := ⟨Or.inr ⟨r, 0, some 1, _, rw, ty, rfl, h.lt, h.get, by simp, rfl, Nat.le_refl _⟩⟩
structure JR (Hb : AHeap) (rl r : Nat) (R0 : RLoop) (acc : List RunT) (H : AHeap) : Prop where
 n : Hb.n ≤ H.n
 get : ∀ s, s < Hb.n → s ≠ rl → H.get s = Hb.get s
 cell : ∃ p e, HasRow H rl [p] true e ∧ OwnS H p 3 acc.length (cellsR acc) 61 ∧ RowNe p rl ∧ FreshS Hb p
 loop : HasLoop H r R0
theorem JR.more {Hb H H' : AHeap} {rl r : Nat} {R0 : RLoop} {acc : List RunT} (h : JR Hb rl r R0 acc H) (x : Ext H H') : JR Hb rl r R0 acc H' := by
 obtain ⟨p, e, h1, h2, h3, h4⟩ := h.cell
 haveI : ExtI H H' := ⟨x⟩
 have h5 := h.loop
 have hn := h.n
 exact ⟨Nat.le_trans h.n x.n, fun s hs hne => by rw [x.get s (by omega)]; exact h.get s hs hne, ⟨p, e, inferInstance, inferInstance, h3, h4⟩, inferInstance⟩
end Go.Am
namespace Go.Am
open Go
attribute [local irreducible] Wp WpO WpX WpE
theorem JR.row {Hb H : AHeap} {rl r s : Nat} {R0 : RLoop} {acc : List RunT} {cs : List AVal} {rw : Bool} {e : TypeId} (h : JR Hb rl r R0 acc H) (k : HasRow Hb s cs rw e) (hne : s ≠ rl) : HasRow H s cs rw e := ⟨Nat.lt_of_lt_of_le k.lt h.n, by rw [h.get s k.lt hne]; exact k.get⟩
theorem JR.bytes {Hb H : AHeap} {rl r : Nat} {R0 : RLoop} {acc : List RunT} {p : AVal} {l : List UInt8} (h : JR Hb rl r R0 acc H) (k : BytesI Hb p l) (hne : RowNe p rl) : BytesI H p l := k.keep h.n fun s _ _ _ _ e hs => h.get s hs (hne.ne _ _ _ _ _ e)
theorem JR.ext {Hh Hb H : AHeap} {rl r : Nat} {R0 : RLoop} {acc : List RunT} (h : JR Hb rl r R0 acc H) (x : Ext Hh Hb) (hrl : Hh.n ≤ rl) : Ext Hh H := ⟨Nat.le_trans x.n h.n, fun s hs => by have := x.n; rw [h.get s (by omega) (by omega), x.get s hs]⟩
theorem JR.start {Hb : AHeap} {rl : Nat} {R0 : RLoop} {e : TypeId} (k : HasRow Hb rl [.nslice] true e) : JR Hb rl (Hb.n + 1) R0 [] ((Hb.push .dead).push (.loop R0)) := by
 have hlt := k.lt
 refine ⟨by simp only [AHeap.push]; omega, fun s hs _ => ?_, ⟨.nslice, e, inferInstance, ⟨Or.inl ⟨rfl, rfl, rfl⟩⟩, inferInstance, ⟨fun _ _ _ _ _ q => by cases q⟩⟩, (inferInstance : HasLoop ((Hb.push .dead).push (.loop R0)) (Hb.push .dead).n R0)⟩
 rw [push_get_lt (by simp only [AHeap.push]; omega), push_get_lt hs]
end Go.Am
namespace Go.Am
open Go
attribute [local irreducible] Wp WpO WpX WpE
end Go.Am
