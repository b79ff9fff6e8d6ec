/-
  ImageBack returns true for all sides, all bits and all numbers. No condition.
-/
import Derived.Test.YtlbgcpmiedjmoaaDoorAmBF
set_option linter.unusedSimpArgs false
set_option linter.unusedVariables false
set_option maxHeartbeats 8000000
set_option maxRecDepth 100000
set_option synthInstance.maxHeartbeats 4000000
set_option synthInstance.maxSize 100000
namespace Go.Am
open Go
attribute [local irreducible] Wp WpO WpX WpE

def ProfResS (H H' : AHeap) (v : AVal) (r c : List Int) (e : Int) : Prop := ∃ p q, v = .tuple [p, q, .int .i64 e] ∧ NewInts H H' p r ∧ NewInts H H' q c ∧ SepS p q ∧ SepS q p
theorem sep_of {p q : AVal} {r o l c s r' o' l' c' s'} (h1 : p = .slice r o l c s) (h2 : q = .slice r' o' l' c' s') (h : r ≠ r') : SepS p q := ⟨fun a b c d e a' b' c' d' e' k1 k2 => by
 rw [h1] at k1; rw [h2] at k2; cases k1; cases k2; exact h⟩
theorem take_bd {L : List Int} {R : List RunT} {lines len : Nat} (hok : ∀ r ∈ R, okRun r (lines : Nat) (len : Nat) = true) : ∀ i, i ≤ R.length → ∀ m, m < L.length → L.getD m 0 - ((i * len : Nat) : Int) ≤ (takeRuns L (R.take i)).getD m 0 ∧ (takeRuns L (R.take i)).getD m 0 ≤ L.getD m 0
 | 0, _, m, _ => by simp [takeRuns]
 | i + 1, hi, m, hm => by
  obtain ⟨h1, h2⟩ := take_bd hok i (by omega) m hm
  have hil : i < R.length := hi
  have htk : takeRuns L (R.take (i + 1)) = takeRun (takeRuns L (R.take i)) R[i] := by
   rw [List.take_succ_eq_append_getElem hil, takeRuns_append]; rfl
  obtain ⟨m', f, t, em, ef, et, hmb, hft, hta⟩ := okRun_facts (hok _ (List.getElem_mem hil))
  have hl : (takeRuns L (R.take i)).length = L.length := takeRuns_length _ _
  rw [htk]
  unfold takeRun runLen
  rw [em, ef, et, Int.toNat_natCast, Nat.add_mul, Nat.one_mul]
  by_cases e : m' = m
  ·subst e
   have s1 : ∀ v : Int, ((takeRuns L (R.take i)).set m' v).getD m' 0 = v := fun v => by
    rw [List.getD_eq_getElem?_getD, List.getElem?_set_self (by omega), Option.getD_some]
   rw [s1]; omega
  ·have s1 : ∀ v : Int, ((takeRuns L (R.take i)).set m' v).getD m 0 = (takeRuns L (R.take i)).getD m 0 := fun v => by
    rw [List.getD_eq_getElem?_getD, List.getElem?_set_ne e, ← List.getD_eq_getElem?_getD]
   rw [s1]; omega
instance {H : AHeap} {r : Nat} {a b : AVal} {rw : Bool} {ty : TypeId} [h : HasRow H r [a, b] rw ty] : SliceAt H (.slice r 0 2 (some 2) 1) 1 2 [a, b] := ⟨Or.inr ⟨r, 0, some 2, _, rw, ty, rfl, h.lt, h.get, by simp, rfl, Nat.le_refl _⟩⟩
theorem within_yes {x u a : Nat} (ha : a ≤ 640) (h : x + u ≤ a) : withinB (x : Int) (u : Int) (a : Int) = true := by
 simp only [withinB, Bool.and_eq_true, decide_eq_true_eq]
 rw [w64 (by omega)]
 omega
theorem crop_ok {a b x y u v : Nat} {l : List UInt8} (ok : Ok a b l) (hx : x + u ≤ a) (hy : y + v ≤ b) : Ok u v (cropL l a x y u v) := by
 have := ok.wa
 have := ok.hb
 refine ⟨by omega, by omega, by simp [cropL], ?_⟩
 unfold pxOk cropL
 rw [List.all_eq_true]
 intro z hz
 obtain ⟨k, hk, rfl⟩ := List.mem_map.1 hz
 rcases getD01 ok.px ((y + k / u) * a + (x + k % u)) with h | h <;> rw [h] <;> rfl
theorem K_ProfileS {a b : Nat} {p : AVal} {H : AHeap} {l : List UInt8} [hp : BytesI H p l] (ok : Ok a b l) : Con ext prog 4 50 [.agg [.int .i64 a, .int .i64 b, p]] H fun v H' => ProfResS H H' v (rowsL l a b) (colsL l a b) 0 := by
 refine con_of (show prog 50 = some c50 from rfl) rfl rfl fun n hn => ?_
 haveI := hp.one
 have hwa := ok.wa
 have hhb := ok.hb
 have hm : a * b ≤ 640 * 640 := Nat.mul_le_mul ok.wa ok.hb
 have hl := ok.len
 have he := ok.err
 try simp only [↓nrmL, nrmZ, Nat.reduceEqDiff, ↓reduceIte, Nat.reduceAdd, Int.reduceBEq, Int.reduceBNe, he]
 refine sq ?_
 refine rg fun KF hKF => ?_
 refine Fo.boxA rfl ?_
 refine mN rfl ?_
 refine mN rfl ?_
 refine mI rfl ?_
 refine WpO.nil (hKF _ _ ?_)
 refine sq ?_
 refine sq ?_
 refine rg fun KF hKF => ?_
 refine Fo.ldN rfl rfl (by simp only [↓nrmL, nrmZ, Nat.reduceEqDiff, ↓reduceIte, Nat.reduceAdd, Int.reduceBEq, Int.reduceBNe, he]; rfl) ?_
 refine Fo.pcall (v' := ?_) hn rfl (by simp only [↓nrmL, nrmZ, Nat.reduceEqDiff, ↓reduceIte, Nat.reduceAdd, Int.reduceBEq, Int.reduceBNe, he, List.map]; rfl) rfl ?hv fun _ _ => ?_; case hv => (simp only [↓nrmL, nrmZ, Nat.reduceEqDiff, ↓reduceIte, Nat.reduceAdd, Int.reduceBEq, Int.reduceBNe, he]; rfl)
 refine mI rfl ?_
 refine WpO.nil (hKF _ _ ?_)
 refine sq ?_
 refine rg fun KF hKF => ?_
 refine mI rfl ?_
 refine Fo.bin rfl rfl rfl (by simp only [↓nrmL, nrmZ, Nat.reduceEqDiff, ↓reduceIte, Nat.reduceAdd, Int.reduceBEq, Int.reduceBNe, he]; rfl) ?_
 refine WpO.nil (hKF _ _ ?_)
 refine Wp.cond (b := false) rfl ?_
 refine Wp.skip ?_
 refine sq ?_
 rename_i H1 hx1
 have f1 := mk_facts (H := H1) (e := 2 * 3) (mk_ints b)
 have f2 := mk_facts (H := H1.push (.row (cellsI (List.replicate b 0)) true (2 * 3))) (e := 2 * 3) (mk_ints a)
 obtain ⟨q1, hq1⟩ : ∃ q : AVal, AVal.slice H1.n 0 b (some b) 1 = q := ⟨_, rfl⟩
 obtain ⟨q2, hq2⟩ : ∃ q : AVal, AVal.slice ((H1.push (.row (cellsI (List.replicate b 0)) true (2 * 3))).n) 0 a (some a) 1 = q := ⟨_, rfl⟩
 rw [hq1] at f1
 rw [hq2] at f2
 obtain ⟨m1, fr1, w1⟩ := f1
 obtain ⟨m2, fr2, w2⟩ := f2
 refine Fr.dregionE [.row (cellsI (List.replicate b 0)) true (2 * 3), .row (cellsI (List.replicate a 0)) true (2 * 3)] ?_ fun KF hKF => ?_
 ·skip
  refine oracle_pre rfl rfl rfl rfl ?_; (try simp only [↓nrmL, nrmZ, Nat.reduceEqDiff, ↓reduceIte, Nat.reduceAdd, Int.reduceBEq, Int.reduceBNe])
  refine oracle_pre rfl rfl rfl (exec_ld rfl rfl) ?_; (try simp only [↓nrmL, nrmZ, Nat.reduceEqDiff, ↓reduceIte, Nat.reduceAdd, Int.reduceBEq, Int.reduceBNe])
  refine oracle_made rfl rfl (made_mkI rfl rfl (by omega)) ?_
  refine oracle_pre rfl rfl rfl rfl ?_; (try simp only [↓nrmL, nrmZ, Nat.reduceEqDiff, ↓reduceIte, Nat.reduceAdd, Int.reduceBEq, Int.reduceBNe])
  refine oracle_pre rfl rfl rfl (exec_ld rfl rfl) ?_; (try simp only [↓nrmL, nrmZ, Nat.reduceEqDiff, ↓reduceIte, Nat.reduceAdd, Int.reduceBEq, Int.reduceBNe])
  refine oracle_made rfl rfl (made_mkI rfl rfl (by omega)) ?_
  exact oracle_none _ _ _ _ rfl
 simp only [pushAll]
 haveI := m1.one
 haveI := m2.one
 have i1 : IntsI (H1.push (.row (cellsI (List.replicate b 0)) true (2 * 3))) q1 (List.replicate b 0) := by
  unfold IntsI; rw [List.length_replicate]; exact m1
 have i2 : IntsI ((H1.push (.row (cellsI (List.replicate b 0)) true (2 * 3))).push (.row (cellsI (List.replicate a 0)) true (2 * 3))) q2 (List.replicate a 0) := by
  unfold IntsI; rw [List.length_replicate]; exact m2
 clear m1 m2
 refine Fe.pure rfl rfl (by simp only [↓nrmL, nrmZ, Nat.reduceEqDiff, ↓reduceIte, Nat.reduceAdd, Int.reduceBEq, Int.reduceBNe]; rfl) ?_
 refine Fe.read rfl (exec_ld rfl rfl) rfl (by repeat (first | exact trivial | refine ⟨(by first | exact Or.inl (by dsimp only; decide) | exact Or.inr (exec_ld rfl rfl) | exact Or.inr (exec_ldN rfl rfl rfl) | exact Or.inr (exec_ldB rfl (by omega)) | exact Or.inr (exec_ldI rfl (by omega)) | exact Or.inr ghost_of), ?_⟩)) ?_
 refine Fe.made rfl (made_mkI rfl rfl (by omega)) ghost_of trivial hq1 ?_
 change WpE _ _ (AHeap.n (AHeap.push _ (.row (cellsI (List.replicate b 0)) true (2 * 3)))) _ _ _ _ _ _ _
 refine Fe.pure rfl rfl (by simp only [↓nrmL, nrmZ, Nat.reduceEqDiff, ↓reduceIte, Nat.reduceAdd, Int.reduceBEq, Int.reduceBNe]; rfl) ?_
 refine Fe.read rfl (exec_ld rfl rfl) rfl (by repeat (first | exact trivial | refine ⟨(by first | exact Or.inl (by dsimp only; decide) | exact Or.inr (exec_ld rfl rfl) | exact Or.inr (exec_ldN rfl rfl rfl) | exact Or.inr (exec_ldB rfl (by omega)) | exact Or.inr (exec_ldI rfl (by omega)) | exact Or.inr ghost_of), ?_⟩)) ?_
 refine Fe.made rfl (made_mkI rfl rfl (by omega)) ghost_of trivial hq2 ?_
 refine Fe.pure rfl rfl (by simp only [↓nrmL, nrmZ, Nat.reduceEqDiff, ↓reduceIte, Nat.reduceAdd, Int.reduceBEq, Int.reduceBNe]; rfl) ?_
 refine Fe.pure rfl rfl (by simp only [↓nrmL, nrmZ, Nat.reduceEqDiff, ↓reduceIte, Nat.reduceAdd, Int.reduceBEq, Int.reduceBNe]; rfl) ?_
 refine WpE.nil (hKF _ _ ?_)
 refine sq ?_
 refine sq ?_
 refine rg fun KF hKF => ?_
 refine Fo.fa rfl ?_
 refine Fo.ld rfl rfl ?_
 refine mI rfl ?_
 refine WpO.nil (hKF _ _ ?_)
 refine Wp.block ?_
 dsimp only [cond_true, cond_false]
 refine Wp.loopS [6, 7, 8, 22, 23, 24, 25, 26, 27, 28, 29, 30, 31, 32, 33, 34, 35, 36, 37, 38, 39, 40, 41, 42, 43, 44, 45, 46, 47, 48, 49, 50, 51] (fun y : Nat => [(22, .int .i64 y)]) (fun _ y H2 => y ≤ b ∧ IntsI H2 q1 (rowsP l a b y 0) ∧ WrS H2 q1 ∧ IntsI H2 q2 (colsP l a y 0) ∧ WrS H2 q2 ∧ Ext H1 H2) (fun y => b - y) 0 rfl (fun _ => rfl) ⟨rfl, trivial⟩ ⟨Nat.zero_le _, by rw [rowsP_zero]; infer_instance, inferInstance, by rw [colsP_zero]; infer_instance, inferInstance, Ext0.ext⟩ (by unfold fuel0 at hn; omega) ?_
 rintro y g H2 ⟨hy, hr2, hrw2, hc2, hcw2, hxe⟩
 haveI : ExtI H1 H2 := ⟨hxe⟩
 simp only [↓nrmL, nrmZ, Nat.reduceEqDiff, ↓reduceIte, Nat.reduceAdd, Int.reduceBEq, Int.reduceBNe]
 cases hc : decide ((y : Int) < (b : Int))
 ·have hyb : y = b := by have := of_decide_eq_false hc; omega
  subst hyb
  rw [rowsP_all] at hr2
  rw [colsP_all] at hc2
  try simp only [↓nrmL, nrmZ, Nat.reduceEqDiff, ↓reduceIte, Nat.reduceAdd, Int.reduceBEq, Int.reduceBNe, hc]
  refine sq ?_
  refine rg fun KF hKF => ?_
  refine Fo.bin rfl rfl rfl (by simp only [↓nrmL, nrmZ, Nat.reduceEqDiff, ↓reduceIte, Nat.reduceAdd, Int.reduceBEq, Int.reduceBNe, hc]; rfl) ?_
  refine WpO.nil (hKF _ _ ?_)
  refine sq ?_
  refine Wp.cond (b := false) rfl ?_
  refine Wp.exit ?_
  refine sq ?_
  refine rg fun KF hKF => ?_
  refine Fo.mov (by simp only [↓nrmL, nrmK, Nat.reduceEqDiff, ↓reduceIte]; rfl) ?_
  refine Fo.mov (by simp only [↓nrmL, nrmK, Nat.reduceEqDiff, ↓reduceIte]; rfl) ?_
  refine Fo.mov (by simp only [↓nrmL, nrmK, Nat.reduceEqDiff, ↓reduceIte]; rfl) ?_
  refine Fo.mov (by simp only [↓nrmL, nrmK, Nat.reduceEqDiff, ↓reduceIte]; rfl) ?_
  refine mI rfl ?_
  refine WpO.nil (hKF _ _ ?_)
  refine Wp.ret ?_
  dsimp only [cond_true, cond_false]
  refine ⟨trivial, _, (by first | rfl | exact getAllC rfl rfl rfl rfl | exact getAllT rfl (getAllC rfl rfl rfl rfl) | exact getAllC rfl rfl rfl (getAllC rfl rfl rfl rfl) | exact getAllC1 rfl rfl rfl), ?_⟩
  exact ⟨q1, q2, rfl, ⟨inferInstance, fr1.weak, inferInstance, Ext0.ext⟩, ⟨inferInstance, fr2.weak, inferInstance, Ext0.ext⟩, sep_of hq1.symm hq2.symm (Nat.ne_of_lt (Nat.lt_succ_self _)), sep_of hq2.symm hq1.symm (Nat.ne_of_gt (Nat.lt_succ_self _))⟩
 ·have hyb : y < b := by have := of_decide_eq_true hc; omega
  have hw1 := wa1 (a := y) (by omega)
  have hrl := row_le (a := a) hyb
  try simp only [↓nrmL, nrmZ, Nat.reduceEqDiff, ↓reduceIte, Nat.reduceAdd, Int.reduceBEq, Int.reduceBNe, hc]
  refine sq ?_
  refine rg fun KF hKF => ?_
  refine Fo.bin rfl rfl rfl (by simp only [↓nrmL, nrmZ, Nat.reduceEqDiff, ↓reduceIte, Nat.reduceAdd, Int.reduceBEq, Int.reduceBNe, hc]; rfl) ?_
  refine WpO.nil (hKF _ _ ?_)
  refine sq ?_
  refine Wp.cond (b := true) rfl ?_
  refine Wp.skip ?_
  refine sq ?_
  refine Wp.block ?_
  refine sq ?_
  refine rg fun KF hKF => ?_
  refine mI rfl ?_
  refine mI rfl ?_
  refine WpO.nil (hKF _ _ ?_)
  refine sq ?_
  refine rg fun KF hKF => ?_
  refine Fo.ldN rfl rfl (by simp only [↓nrmL, nrmZ, Nat.reduceEqDiff, ↓reduceIte, Nat.reduceAdd, Int.reduceBEq, Int.reduceBNe, hc]; rfl) ?_
  refine mI rfl ?_
  refine WpO.do (WpX.conD hn rfl rfl (by simp only [↓nrmL, nrmZ, Nat.reduceEqDiff, ↓reduceIte, Nat.reduceAdd, Int.reduceBEq, Int.reduceBNe, List.map] <;> rfl) (K_line (l := l) hl hyb hm hhb) fun v H4 h5 => ?_)
  obtain ⟨hv1, hv2, hx4⟩ := h5
  haveI : ExtI _ H4 := ⟨hx4⟩
  haveI := hv1.one
  refine Fo.lenV (u := ?_) (by simp only [↓nrmL, nrmK, Nat.reduceEqDiff, ↓reduceIte]; rfl) ?hv ?_; case hv => rfl
  refine mI rfl ?_
  refine WpO.nil (hKF _ _ ?_)
  refine Wp.block ?_
  dsimp only [cond_true, cond_false]
  refine Wp.loopS [7, 8, 29, 30, 31, 32, 33, 34, 35, 36, 37, 38, 39, 40, 41, 42, 43, 44, 45, 46, 47, 48, 49, 50] (fun x : Nat => [(29, .int .i64 x)]) (fun _ x H5 => x ≤ a ∧ IntsI H5 q1 (rowsP l a b y x) ∧ WrS H5 q1 ∧ IntsI H5 q2 (colsP l a y x) ∧ WrS H5 q2 ∧ Ext H1 H5) (fun x => a - x) 0 rfl (fun _ => rfl) ⟨rfl, trivial⟩ ⟨Nat.zero_le _, inferInstance, inferInstance, inferInstance, inferInstance, Ext0.ext⟩ (by unfold fuel0 at hn; omega) ?_
  rintro x g2 H5 ⟨hx0, hr5, hrw5, hc5, hcw5, hxe5⟩
  haveI : ExtI H1 H5 := ⟨hxe5⟩
  simp only [↓nrmL, nrmZ, Nat.reduceEqDiff, ↓reduceIte, Nat.reduceAdd, Int.reduceBEq, Int.reduceBNe]
  cases hc2' : decide ((x : Int) < (a : Int))
  ·have hxa : x = a := by have := of_decide_eq_false hc2'; omega
   subst hxa
   rw [rowsP_next] at hr5
   rw [colsP_next] at hc5
   try simp only [↓nrmL, nrmZ, Nat.reduceEqDiff, ↓reduceIte, Nat.reduceAdd, Int.reduceBEq, Int.reduceBNe, hc2']
   refine sq ?_
   refine rg fun KF hKF => ?_
   refine Fo.bin rfl rfl rfl (by simp only [↓nrmL, nrmZ, Nat.reduceEqDiff, ↓reduceIte, Nat.reduceAdd, Int.reduceBEq, Int.reduceBNe, hc2']; rfl) ?_
   refine WpO.nil (hKF _ _ ?_)
   refine sq ?_
   refine Wp.cond (b := false) rfl ?_
   refine Wp.exit ?_
   refine rg fun KF hKF => ?_
   refine Fo.bin rfl rfl rfl rfl ?_
   refine mI rfl ?_
   refine WpO.nil (hKF _ _ ?_)
   dsimp only [cond_true, cond_false]
   refine ⟨y + 1, by omega, ⟨by simp only [↓nrmL, nrmZ, Nat.reduceEqDiff, ↓reduceIte, Nat.reduceAdd, Int.reduceBEq, Int.reduceBNe]; rw [hw1], trivial⟩, hyb, inferInstance, inferInstance, inferInstance, inferInstance, Ext0.ext⟩
  ·have hxa : x < a := by have := of_decide_eq_true hc2'; omega
   have hlt := idx_lt hxa hyb
   have hil : y * a + x < l.length := by omega
   have hw3 := wa1 (a := x) (by omega)
   have hpd := wpd ok.px hil
   have hrlen := rowsP_length l a b y x
   have hclen := colsP_length l a y x
   have hrg := rowsP_get (l := l) (a := a) (b := b) (y := y) (x := x) hyb
   have hcg := colsP_get (l := l) (a := a) (y := y) (x := x) hxa
   have b1 := rc_bd l a y x
   have b2 := cc_bd l a x y
   have b3 := pd_bd l (y * a + x)
   have hs1 : IntKind.i64.wrap (rc l a y x + pd l (y * a + x)) = rc l a y x + pd l (y * a + x) := w64 (by omega)
   have hs2 : IntKind.i64.wrap (cc l a x y + pd l (y * a + x)) = cc l a x y + pd l (y * a + x) := w64 (by omega)
   try simp only [↓nrmL, nrmZ, Nat.reduceEqDiff, ↓reduceIte, Nat.reduceAdd, Int.reduceBEq, Int.reduceBNe, hc2', hpd, hrg, hs1]
   refine sq ?_
   refine rg fun KF hKF => ?_
   refine Fo.bin rfl rfl rfl (by simp only [↓nrmL, nrmZ, Nat.reduceEqDiff, ↓reduceIte, Nat.reduceAdd, Int.reduceBEq, Int.reduceBNe, hc2', hpd, hrg, hs1]; rfl) ?_
   refine WpO.nil (hKF _ _ ?_)
   refine sq ?_
   refine Wp.cond (b := true) rfl ?_
   refine Wp.skip ?_
   refine sq ?_
   refine Wp.block ?_
   refine sq ?_
   refine rg fun KF hKF => ?_
   refine mI rfl ?_
   refine Fo.idxV (by simp only [↓nrmL, nrmK, Nat.reduceEqDiff, ↓reduceIte]; rfl) rfl ?_ (by simp only [↓nrmL, nrmZ, Nat.reduceEqDiff, ↓reduceIte, Nat.reduceAdd, Int.reduceBEq, Int.reduceBNe, hc2', hpd, hrg, hs1]; rfl) ?_; (focus omega)
   refine Fo.ldB rfl ?_ rfl ?_; (focus omega)
   refine mI rfl ?_
   refine mI rfl ?_
   refine WpO.nil (hKF _ _ ?_)
   refine sq ?_
   refine rg fun KF hKF => ?_
   refine Fo.mov (by simp only [↓nrmL, nrmK, Nat.reduceEqDiff, ↓reduceIte]; rfl) ?_
   refine mI rfl ?_
   refine Fo.idx (by simp only [↓nrmL, nrmK, Nat.reduceEqDiff, ↓reduceIte]; rfl) rfl ?_ (by simp only [↓nrmL, nrmZ, Nat.reduceEqDiff, ↓reduceIte, Nat.reduceAdd, Int.reduceBEq, Int.reduceBNe, hc2', hpd, hrg, hs1]; rfl) ?_; (focus omega)
   refine Fo.ldI rfl ?_ (by simp only [↓nrmL, nrmZ, Nat.reduceEqDiff, ↓reduceIte, Nat.reduceAdd, Int.reduceBEq, Int.reduceBNe, hc2', hpd, hrg, hs1]; rfl) ?_; (focus omega)
   refine mI rfl ?_
   refine Fo.now rfl rfl (by simp only [↓nrmL, nrmZ, Nat.reduceEqDiff, ↓reduceIte, Nat.reduceAdd, Int.reduceBEq, Int.reduceBNe, hc2', hpd, hrg, hs1]; rfl) ?_
   refine Fo.bin rfl rfl rfl (by simp only [↓nrmL, nrmZ, Nat.reduceEqDiff, ↓reduceIte, Nat.reduceAdd, Int.reduceBEq, Int.reduceBNe, hc2', hpd, hrg, hs1]; rfl) ?_
   refine Fo.idx (by simp only [↓nrmL, nrmK, Nat.reduceEqDiff, ↓reduceIte]; rfl) rfl ?_ (by simp only [↓nrmL, nrmZ, Nat.reduceEqDiff, ↓reduceIte, Nat.reduceAdd, Int.reduceBEq, Int.reduceBNe, hc2', hpd, hrg, hs1]; rfl) ?_; (focus omega)
   refine WpO.do' (WpX.stI (l := rowsP l a b y x) rfl rfl (by omega) fun H6 hb6 hw6 hx6 => ?_)
   rw [rowsP_set] at hb6
   try simp only [↓nrmL, nrmZ, Nat.reduceEqDiff, ↓reduceIte, Nat.reduceAdd, Int.reduceBEq, Int.reduceBNe, hpd, hcg, hs2]
   refine WpO.nil (hKF _ _ ?_)
   refine rg fun KF hKF => ?_
   refine Fo.mov (by simp only [↓nrmL, nrmK, Nat.reduceEqDiff, ↓reduceIte]; rfl) ?_
   refine mI rfl ?_
   refine Fo.idx (by simp only [↓nrmL, nrmK, Nat.reduceEqDiff, ↓reduceIte]; rfl) rfl ?_ (by simp only [↓nrmL, nrmZ, Nat.reduceEqDiff, ↓reduceIte, Nat.reduceAdd, Int.reduceBEq, Int.reduceBNe, hpd, hcg, hs2]; rfl) ?_; (focus omega)
   refine Fo.ldI rfl ?_ (by simp only [↓nrmL, nrmZ, Nat.reduceEqDiff, ↓reduceIte, Nat.reduceAdd, Int.reduceBEq, Int.reduceBNe, hpd, hcg, hs2]; rfl) ?_; (focus omega)
   refine mI rfl ?_
   refine Fo.now rfl rfl (by simp only [↓nrmL, nrmZ, Nat.reduceEqDiff, ↓reduceIte, Nat.reduceAdd, Int.reduceBEq, Int.reduceBNe, hpd, hcg, hs2]; rfl) ?_
   refine Fo.bin rfl rfl rfl (by simp only [↓nrmL, nrmZ, Nat.reduceEqDiff, ↓reduceIte, Nat.reduceAdd, Int.reduceBEq, Int.reduceBNe, hpd, hcg, hs2]; rfl) ?_
   refine Fo.idx (by simp only [↓nrmL, nrmK, Nat.reduceEqDiff, ↓reduceIte]; rfl) rfl ?_ (by simp only [↓nrmL, nrmZ, Nat.reduceEqDiff, ↓reduceIte, Nat.reduceAdd, Int.reduceBEq, Int.reduceBNe, hpd, hcg, hs2]; rfl) ?_; (focus omega)
   refine WpO.do' (WpX.stI (l := colsP l a y x) rfl rfl (by omega) fun H7 hb7 hw7 hx7 => ?_)
   rw [colsP_set] at hb7
   refine WpO.nil (hKF _ _ ?_)
   refine rg fun KF hKF => ?_
   refine Fo.bin rfl rfl rfl rfl ?_
   refine mI rfl ?_
   refine WpO.nil (hKF _ _ ?_)
   dsimp only [cond_true, cond_false]
   refine ⟨x + 1, by omega, ⟨by simp only [↓nrmL, nrmZ, Nat.reduceEqDiff, ↓reduceIte, Nat.reduceAdd, Int.reduceBEq, Int.reduceBNe]; rw [hw3], trivial⟩, hxa, inferInstance, inferInstance, hb7, hw7, Ext0.ext⟩

theorem K_ImageBack {s : Nat} {p : AVal} {H : AHeap} {bits : List UInt8} {x y w h : UInt8} [hp : BytesI H p bits] [ht : Tabs H] (hs : s < 65536) : Con ext prog 9 11 [.int .u16 s, p, .int .u8 (x.toNat : Int), .int .u8 (y.toNat : Int), .int .u8 (w.toNat : Int), .int .u8 (h.toNat : Int)] H fun v H' => v = .bool true ∧ Ext H H' := by
 refine con_of (show prog 11 = some c11 from rfl) rfl rfl fun n hn => ?_
 haveI := hp.one
 refine sq ?_
 refine rg fun KF hKF => ?_
 refine mB rfl ?_
 refine WpO.nil (hKF _ _ ?_)
 refine sq ?_
 refine rg fun KF hKF => ?_
 refine mI rfl ?_
 refine Fo.mov (by simp only [↓nrmL, nrmK, Nat.reduceEqDiff, ↓reduceIte]; rfl) ?_
 refine WpO.do (WpX.conD hn rfl rfl (by simp only [↓nrmL, nrmZ, Nat.reduceEqDiff, ↓reduceIte, Nat.reduceAdd, Int.reduceBEq, Int.reduceBNe, List.map] <;> rfl) (K_Made (bits := bits) hs) fun v H1 h5 => ?_)
 obtain ⟨a, b, l, ha, hb, ok1, v1, e1, hv1, hfv1, hwv1, hxv1⟩ := h5
 subst e1
 try dsimp only at hv1
 haveI : ExtI _ H1 := ⟨hxv1⟩
 haveI := hv1.one
 have ee := ok1.err
 have er : rowsSpec ⟨a, b, l⟩ = (allR (rowO ⟨a, b, l⟩) a b, 0) := by simp [rowsSpec, ee]
 have ec : colsSpec ⟨a, b, l⟩ = (allR (colO ⟨a, b, l⟩) b a, 0) := by simp [colsSpec, ee]
 have hrb := rows_back ok1
 have hcb := cols_back ok1
 have hrz := rows_sums (a := a) (b := b) (l := l)
 have hcz := cols_sums (a := a) (b := b) (l := l)
 have hrk : ∀ r ∈ allR (rowO ⟨a, b, l⟩) a b, okRun r (b : Nat) (a : Nat) = true := fun r hr => allR_ok hr
 have hck : ∀ r ∈ allR (colO ⟨a, b, l⟩) b a, okRun r (a : Nat) (b : Nat) = true := fun r hr => allR_ok hr
 have hba : b * a ≤ 30 * 40 := Nat.mul_le_mul hb ha
 have hab : a * b ≤ 40 * 30 := Nat.mul_le_mul ha hb
 have hrl : (allR (rowO ⟨a, b, l⟩) a b).length ≤ 1200 := Nat.le_trans (allR_len _ _ _) hba
 have hcl : (allR (colO ⟨a, b, l⟩) b a).length ≤ 1200 := Nat.le_trans (allR_len _ _ _) hab
 generalize allR (rowO ⟨a, b, l⟩) a b = R at *
 generalize allR (colO ⟨a, b, l⟩) b a = C at *
 haveI : ShortR R := ⟨by omega⟩
 haveI : ShortR C := ⟨by omega⟩
 have hsh := ok1.short
 haveI : Short l := ⟨by omega⟩
 refine Fo.new ?_
 refine Fo.st rfl (rfl : _ = AVal.agg _) rfl rfl rfl (by repeat (first | rfl | refine allOne_cons ?_)) (by simp only [↓nrmL, nrmZ, Nat.reduceEqDiff, ↓reduceIte, Nat.reduceAdd, Int.reduceBEq, Int.reduceBNe]; rfl) ?_
 refine WpO.nil (hKF _ _ ?_)
 refine sq ?_
 refine rg fun KF hKF => ?_
 refine Fo.ldN rfl rfl (by simp only [↓nrmL, nrmZ, Nat.reduceEqDiff, ↓reduceIte, Nat.reduceAdd, Int.reduceBEq, Int.reduceBNe]; rfl) ?_
 dsimp only [cond_true, cond_false]
 refine WpO.do (WpX.conD hn rfl rfl (by simp only [↓nrmL, nrmZ, Nat.reduceEqDiff, ↓reduceIte, Nat.reduceAdd, Int.reduceBEq, Int.reduceBNe, List.map] <;> rfl) (K_Rows (l := l)) fun v H2 h5 => ?_)
 rw [er] at h5
 obtain ⟨q1, e1, hq1, hfq1, hxq1⟩ := h5
 subst e1
 haveI : ExtI _ H2 := ⟨hxq1⟩
 haveI := hq1.sl.one
 haveI : RunsI H2 q1 R := hq1.sl
 refine mT rfl ?_
 refine Fo.extr rfl rfl ?_
 refine Fo.extr rfl rfl ?_
 refine Fo.mov (by simp only [↓nrmL, nrmK, Nat.reduceEqDiff, ↓reduceIte]; rfl) ?_
 refine mI rfl ?_
 refine WpO.nil (hKF _ _ ?_)
 refine sq ?_
 refine rg fun KF hKF => ?_
 refine Fo.ldN rfl rfl (by simp only [↓nrmL, nrmZ, Nat.reduceEqDiff, ↓reduceIte, Nat.reduceAdd, Int.reduceBEq, Int.reduceBNe]; rfl) ?_
 dsimp only [cond_true, cond_false]
 refine WpO.do (WpX.conD hn rfl rfl (by simp only [↓nrmL, nrmZ, Nat.reduceEqDiff, ↓reduceIte, Nat.reduceAdd, Int.reduceBEq, Int.reduceBNe, List.map] <;> rfl) (K_Columns (l := l)) fun v H3 h5 => ?_)
 rw [ec] at h5
 obtain ⟨q2, e1, hq2, hfq2, hxq2⟩ := h5
 subst e1
 haveI : ExtI _ H3 := ⟨hxq2⟩
 haveI := hq2.sl.one
 haveI : RunsI H3 q2 C := hq2.sl
 refine mT rfl ?_
 refine Fo.extr rfl rfl ?_
 refine Fo.extr rfl rfl ?_
 refine Fo.mov (by simp only [↓nrmL, nrmK, Nat.reduceEqDiff, ↓reduceIte]; rfl) ?_
 refine mI rfl ?_
 refine WpO.nil (hKF _ _ ?_)
 refine sq ?_
 refine rg fun KF hKF => ?_
 refine Fo.fa rfl ?_
 refine Fo.ld rfl rfl ?_
 refine Fo.fa rfl ?_
 refine Fo.ld rfl rfl ?_
 refine Fo.mov (by simp only [↓nrmL, nrmK, Nat.reduceEqDiff, ↓reduceIte]; rfl) ?_
 dsimp only [cond_true, cond_false]
 refine WpO.do (WpX.conD hn rfl rfl (by simp only [↓nrmL, nrmZ, Nat.reduceEqDiff, ↓reduceIte, Nat.reduceAdd, Int.reduceBEq, Int.reduceBNe, List.map] <;> rfl) (K_FromRows (w := a) (h := b) (l := R)) fun v H4 h5 => ?_)
 rw [hrb] at h5
 obtain ⟨_, e1, i1, e2, hi1, hfi1, hwi1, hxi1⟩ := h5
 subst e1 e2
 try dsimp only at hi1
 haveI : ExtI _ H4 := ⟨hxi1⟩
 haveI := hi1.one
 refine mT rfl ?_
 refine Fo.extr rfl rfl ?_
 refine Fo.extr rfl rfl ?_
 refine Fo.new ?_
 refine Fo.st rfl (rfl : _ = AVal.agg _) rfl rfl rfl (by repeat (first | rfl | refine allOne_cons ?_)) (by simp only [↓nrmL, nrmZ, Nat.reduceEqDiff, ↓reduceIte, Nat.reduceAdd, Int.reduceBEq, Int.reduceBNe]; rfl) ?_
 refine mI rfl ?_
 refine WpO.nil (hKF _ _ ?_)
 refine sq ?_
 refine rg fun KF hKF => ?_
 refine Fo.fa rfl ?_
 refine Fo.ld rfl rfl ?_
 refine Fo.fa rfl ?_
 refine Fo.ld rfl rfl ?_
 refine Fo.mov (by simp only [↓nrmL, nrmK, Nat.reduceEqDiff, ↓reduceIte]; rfl) ?_
 dsimp only [cond_true, cond_false]
 refine WpO.do (WpX.conD hn rfl rfl (by simp only [↓nrmL, nrmZ, Nat.reduceEqDiff, ↓reduceIte, Nat.reduceAdd, Int.reduceBEq, Int.reduceBNe, List.map] <;> rfl) (K_FromColumns (w := a) (h := b) (l := C)) fun v H5 h5 => ?_)
 rw [hcb] at h5
 obtain ⟨_, e1, i2, e2, hi2, hfi2, hwi2, hxi2⟩ := h5
 subst e1 e2
 try dsimp only at hi2
 haveI : ExtI _ H5 := ⟨hxi2⟩
 haveI := hi2.one
 refine mT rfl ?_
 refine Fo.extr rfl rfl ?_
 refine Fo.extr rfl rfl ?_
 refine Fo.new ?_
 refine Fo.st rfl (rfl : _ = AVal.agg _) rfl rfl rfl (by repeat (first | rfl | refine allOne_cons ?_)) (by simp only [↓nrmL, nrmZ, Nat.reduceEqDiff, ↓reduceIte, Nat.reduceAdd, Int.reduceBEq, Int.reduceBNe]; rfl) ?_
 refine mI rfl ?_
 refine WpO.nil (hKF _ _ ?_)
 refine sq ?_
 refine rg fun KF hKF => ?_
 refine Fo.ldN rfl rfl (by simp only [↓nrmL, nrmZ, Nat.reduceEqDiff, ↓reduceIte, Nat.reduceAdd, Int.reduceBEq, Int.reduceBNe]; rfl) ?_
 dsimp only [cond_true, cond_false]
 refine WpO.do (WpX.conD hn rfl rfl (by simp only [↓nrmL, nrmZ, Nat.reduceEqDiff, ↓reduceIte, Nat.reduceAdd, Int.reduceBEq, Int.reduceBNe, List.map] <;> rfl) (K_ProfileS ok1) fun v H6 h5 => ?_)
 obtain ⟨pr, pc, e1, ⟨hpr, hfpr, hwpr, hx6⟩, ⟨hpc, hfpc, hwpc, _⟩, hs1, hs2⟩ := h5
 subst e1
 haveI : ExtI _ H6 := ⟨hx6⟩
 haveI := hpr.one
 haveI := hpc.one
 haveI := hs1
 haveI := hs2
 have hlr : (rowsL l a b).length = b := by simp [rowsL]
 have hlc : (colsL l a b).length = a := by simp [colsL]
 have hbr : ∀ j, j < b → 0 ≤ (rowsL l a b).getD j 0 ∧ (rowsL l a b).getD j 0 ≤ 640 := fun j hj => by
  unfold rowsL; rw [getD_mapA hj]; have := rc_bd l a j a; have := ok1.wa; omega
 have hbc : ∀ j, j < a → 0 ≤ (colsL l a b).getD j 0 ∧ (colsL l a b).getD j 0 ≤ 640 := fun j hj => by
  unfold colsL; rw [getD_mapA hj]; have := cc_bd l a j b; have := ok1.hb; omega
 have hsame : decide ((⟨a, b, l⟩ : Img) = ⟨a, b, l⟩) = true := decide_eq_true rfl
 have hbne : ((0 : Int) != 0) = false := rfl
 try simp only [↓nrmL, nrmZ, Nat.reduceEqDiff, ↓reduceIte, Nat.reduceAdd, Int.reduceBEq, Int.reduceBNe, hsame, hbne, Bool.not_true]
 refine mT rfl ?_
 refine Fo.extr rfl rfl ?_
 refine Fo.extr rfl rfl ?_
 refine Fo.extr rfl rfl ?_
 refine Fo.mov (by simp only [↓nrmL, nrmK, Nat.reduceEqDiff, ↓reduceIte]; rfl) ?_
 refine Fo.mov (by simp only [↓nrmL, nrmK, Nat.reduceEqDiff, ↓reduceIte]; rfl) ?_
 refine mI rfl ?_
 refine WpO.nil (hKF _ _ ?_)
 refine sq ?_
 refine sq ?_
 refine rg fun KF hKF => ?_
 refine mI rfl ?_
 refine Fo.bin rfl rfl rfl (by simp only [↓nrmL, nrmZ, Nat.reduceEqDiff, ↓reduceIte, Nat.reduceAdd, Int.reduceBEq, Int.reduceBNe, hsame, hbne, Bool.not_true]; rfl) ?_
 refine mB rfl ?_
 refine Fo.yes rfl rfl ?_
 refine mI rfl ?_
 refine Fo.yes rfl rfl ?_
 refine Fo.bin rfl rfl rfl (by simp only [↓nrmL, nrmZ, Nat.reduceEqDiff, ↓reduceIte, Nat.reduceAdd, Int.reduceBEq, Int.reduceBNe, hsame, hbne, Bool.not_true]; rfl) ?_
 refine fB rfl rfl ?_
 refine mB rfl ?_
 refine Fo.yes rfl rfl ?_
 refine mI rfl ?_
 refine Fo.yes rfl rfl ?_
 refine Fo.bin rfl rfl rfl (by simp only [↓nrmL, nrmZ, Nat.reduceEqDiff, ↓reduceIte, Nat.reduceAdd, Int.reduceBEq, Int.reduceBNe, hsame, hbne, Bool.not_true]; rfl) ?_
 refine fB rfl rfl ?_
 refine mB rfl ?_
 refine Fo.yes rfl rfl ?_
 refine mI rfl ?_
 refine Fo.yes rfl rfl ?_
 refine Fo.bin rfl rfl rfl (by simp only [↓nrmL, nrmZ, Nat.reduceEqDiff, ↓reduceIte, Nat.reduceAdd, Int.reduceBEq, Int.reduceBNe, hsame, hbne, Bool.not_true]; rfl) ?_
 refine fB rfl rfl ?_
 refine mB rfl ?_
 refine Fo.yes rfl rfl ?_
 refine mI rfl ?_
 refine Fo.yes rfl rfl ?_
 refine Fo.bin rfl rfl rfl (by simp only [↓nrmL, nrmZ, Nat.reduceEqDiff, ↓reduceIte, Nat.reduceAdd, Int.reduceBEq, Int.reduceBNe, hsame, hbne, Bool.not_true]; rfl) ?_
 refine fB rfl rfl ?_
 refine mB rfl ?_
 refine Fo.yes rfl rfl ?_
 refine Fo.ldN rfl rfl (by simp only [↓nrmL, nrmZ, Nat.reduceEqDiff, ↓reduceIte, Nat.reduceAdd, Int.reduceBEq, Int.reduceBNe, hsame, hbne, Bool.not_true]; rfl) ?_
 refine Fo.yes rfl rfl ?_
 refine Fo.ldN rfl rfl (by simp only [↓nrmL, nrmZ, Nat.reduceEqDiff, ↓reduceIte, Nat.reduceAdd, Int.reduceBEq, Int.reduceBNe, hsame, hbne, Bool.not_true]; rfl) ?_
 refine Fo.yes rfl rfl ?_
 refine Fo.pcall (v' := ?_) hn rfl (by simp only [↓nrmL, nrmZ, Nat.reduceEqDiff, ↓reduceIte, Nat.reduceAdd, Int.reduceBEq, Int.reduceBNe, hsame, hbne, Bool.not_true, List.map]; rfl) rfl ?hv fun _ _ => ?_; case hv => (simp only [↓nrmL, nrmZ, Nat.reduceEqDiff, ↓reduceIte, Nat.reduceAdd, Int.reduceBEq, Int.reduceBNe, hsame, hbne, Bool.not_true]; rfl)
 refine Fo.yes rfl rfl ?_
 refine Fo.now rfl rfl rfl ?_
 refine fB rfl rfl ?_
 refine mB rfl ?_
 refine Fo.yes rfl rfl ?_
 refine Fo.ldN rfl rfl (by simp only [↓nrmL, nrmZ, Nat.reduceEqDiff, ↓reduceIte, Nat.reduceAdd, Int.reduceBEq, Int.reduceBNe, hsame, hbne, Bool.not_true]; rfl) ?_
 refine Fo.yes rfl rfl ?_
 refine Fo.ldN rfl rfl (by simp only [↓nrmL, nrmZ, Nat.reduceEqDiff, ↓reduceIte, Nat.reduceAdd, Int.reduceBEq, Int.reduceBNe, hsame, hbne, Bool.not_true]; rfl) ?_
 refine Fo.yes rfl rfl ?_
 refine Fo.pcall (v' := ?_) hn rfl (by simp only [↓nrmL, nrmZ, Nat.reduceEqDiff, ↓reduceIte, Nat.reduceAdd, Int.reduceBEq, Int.reduceBNe, hsame, hbne, Bool.not_true, List.map]; rfl) rfl ?hv fun _ _ => ?_; case hv => (simp only [↓nrmL, nrmZ, Nat.reduceEqDiff, ↓reduceIte, Nat.reduceAdd, Int.reduceBEq, Int.reduceBNe, hsame, hbne, Bool.not_true]; rfl)
 refine Fo.yes rfl rfl ?_
 refine Fo.now rfl rfl rfl ?_
 refine fB rfl rfl ?_
 refine WpO.nil (hKF _ _ ?_)
 refine Wp.cond (b := false) rfl ?_
 refine Wp.skip ?_
 refine sq ?_
 refine sq ?_
 refine rg fun KF hKF => ?_
 refine Fo.mov (by simp only [↓nrmL, nrmK, Nat.reduceEqDiff, ↓reduceIte]; rfl) ?_
 refine Fo.len (v := ?_) (by simp only [↓nrmL, nrmK, Nat.reduceEqDiff, ↓reduceIte]; rfl) ?hv ?_; case hv => rfl
 refine mI rfl ?_
 refine WpO.nil (hKF _ _ ?_)
 refine Wp.block ?_
 dsimp only [cond_true, cond_false]
 refine Wp.loopS [26, 101, 102, 103, 104, 105, 106, 107, 108, 109, 110, 111, 112, 113, 114, 115, 116, 117, 118] (fun i : Nat => [(101, .int .i64 i)]) (fun H7 i H8 => i ≤ R.length ∧ IntsI H8 pr (takeRuns (rowsL l a b) (R.take i)) ∧ WrS H8 pr ∧ ExtP0 H7 H8 pr) (fun i => R.length - i) 0 rfl (fun _ => rfl) ⟨rfl, trivial⟩ ⟨Nat.zero_le _, (by show IntsI _ pr (rowsL l a b); infer_instance), inferInstance, inferInstance⟩ (by unfold fuel0 at hn; omega) ?_
 rintro i g0 H8 ⟨hi, hb8, hw8, ⟨hx8⟩⟩
 simp only [↓nrmL, nrmZ, Nat.reduceEqDiff, ↓reduceIte, Nat.reduceAdd, Int.reduceBEq, Int.reduceBNe]
 cases hc : decide ((i : Int) < (R.length : Int))
 rotate_left
 ·have hil : i < R.length := by have := of_decide_eq_true hc; omega
  have hw1 := wa1 (a := i) (by omega)
  have hcg := cellsR_get (l := R) (i := i) hil
  have hget : R.getD i run0 = R[i] := by simp [hil]
  have hmem : R[i] ∈ R := List.getElem_mem hil
  obtain ⟨m, f, t, em, ef, et, hmb, hft, hta⟩ := okRun_facts (hrk _ hmem)
  rw [hget, em, ef, et] at hcg
  have htk : takeRuns (rowsL l a b) (R.take (i + 1)) = takeRun (takeRuns (rowsL l a b) (R.take i)) R[i] := by
   rw [List.take_succ_eq_append_getElem hil, takeRuns_append]; rfl
  have hlen8 : (takeRuns (rowsL l a b) (R.take i)).length = b := by rw [takeRuns_length, hlr]
  have hmlt : m < (takeRuns (rowsL l a b) (R.take i)).length := by rw [hlen8]; exact hmb
  have hbd := take_bd (L := rowsL l a b) hrk i hi m (by rw [hlr]; exact hmb)
  have hprod : i * a ≤ 1200 * 640 := Nat.mul_le_mul (by omega) (by omega)
  have hbd2 := hbr m hmb
  have hge : (takeRuns (rowsL l a b) (R.take i)).getD m 0 = (takeRuns (rowsL l a b) (R.take i))[m] := by simp [hmlt]
  have k1 : IntKind.i64.wrap ((t : Int) - (f : Int)) = ((t - f : Nat) : Int) := by rw [w64 (by omega)]; omega
  have k2 : IntKind.i64.wrap (((t - f : Nat) : Int) + 1) = ((t - f + 1 : Nat) : Int) := by rw [w64 (by omega)]; omega
  have k3 : IntKind.i64.wrap ((takeRuns (rowsL l a b) (R.take i))[m] - ((t - f + 1 : Nat) : Int)) = (takeRuns (rowsL l a b) (R.take i))[m] - ((t - f + 1 : Nat) : Int) := by rw [← hge]; exact w64 (by omega)
  have hset : takeRun (takeRuns (rowsL l a b) (R.take i)) R[i] = (takeRuns (rowsL l a b) (R.take i)).set m ((takeRuns (rowsL l a b) (R.take i))[m] - ((t - f + 1 : Nat) : Int)) := by
   unfold takeRun runLen
   rw [em, ef, et, Int.toNat_natCast, hge]
   congr 2
   omega
  try simp only [↓nrmL, nrmZ, Nat.reduceEqDiff, ↓reduceIte, Nat.reduceAdd, Int.reduceBEq, Int.reduceBNe, hc]
  refine sq ?_
  refine rg fun KF hKF => ?_
  refine Fo.bin rfl rfl rfl (by simp only [↓nrmL, nrmZ, Nat.reduceEqDiff, ↓reduceIte, Nat.reduceAdd, Int.reduceBEq, Int.reduceBNe, hc]; rfl) ?_
  refine WpO.nil (hKF _ _ ?_)
  refine sq ?_
  refine Wp.cond (b := true) rfl ?_
  refine Wp.skip ?_
  refine sq ?_
  refine Wp.block ?_
  refine sq ?_
  refine rg fun KF hKF => ?_
  refine Fo.idx (by simp only [↓nrmL, nrmK, Nat.reduceEqDiff, ↓reduceIte]; rfl) rfl ?_ (by simp only [↓nrmL, nrmZ, Nat.reduceEqDiff, ↓reduceIte, Nat.reduceAdd, Int.reduceBEq, Int.reduceBNe, hc]; rfl) ?_; (focus omega)
  refine WpO.do (WpX.ldNP (p := q1) (j := i * 3) (m := 3) rfl (by decide) (by rw [cellsR_length]; omega) hcg ?_)
  refine Fo.new ?_
  refine Fo.st rfl (rfl : _ = AVal.agg _) rfl rfl rfl (by repeat (first | rfl | refine allOne_cons ?_)) (by simp only [↓nrmL, nrmZ, Nat.reduceEqDiff, ↓reduceIte, Nat.reduceAdd, Int.reduceBEq, Int.reduceBNe]; rfl) ?_
  refine WpO.nil (hKF _ _ ?_)
  dsimp only [cond_true, cond_false]
  refine Fr.dregion0 rfl fun KF hKF => ?_
  try simp only [↓nrmL, nrmZ, Nat.reduceEqDiff, ↓reduceIte, Nat.reduceAdd, Int.reduceBEq, Int.reduceBNe, k1, k2, k3]
  refine Fe.pure rfl rfl (by simp only [↓nrmL, nrmZ, Nat.reduceEqDiff, ↓reduceIte, Nat.reduceAdd, Int.reduceBEq, Int.reduceBNe, k1, k2, k3]; rfl) ?_
  refine Fe.pure rfl rfl (by simp only [↓nrmL, nrmZ, Nat.reduceEqDiff, ↓reduceIte, Nat.reduceAdd, Int.reduceBEq, Int.reduceBNe, k1, k2, k3]; rfl) ?_
  refine Fe.read rfl (exec_ld rfl rfl) rfl (by repeat (first | exact trivial | refine ⟨(by first | exact Or.inl (by dsimp only; decide) | exact Or.inr (exec_ld rfl rfl) | exact Or.inr (exec_ldN rfl rfl rfl) | exact Or.inr (exec_ldB rfl (by omega)) | exact Or.inr (exec_ldI rfl (by omega)) | exact Or.inr ghost_of), ?_⟩)) ?_
  refine Fe.pure rfl (exec_idxP (by (try simp only [↓nrmL, nrmZ, Nat.reduceEqDiff, ↓reduceIte, Nat.reduceAdd, Int.reduceBEq, Int.reduceBNe, k1, k2, k3]); rfl) rfl ?_) (by simp only [↓nrmL, nrmZ, Nat.reduceEqDiff, ↓reduceIte, Nat.reduceAdd, Int.reduceBEq, Int.reduceBNe, k1, k2, k3]; rfl) ?_; (focus omega)
  refine Fe.read rfl (exec_ldI rfl (by omega)) rfl (by repeat (first | exact trivial | refine ⟨(by first | exact Or.inl (by dsimp only; decide) | exact Or.inr (exec_ld rfl rfl) | exact Or.inr (exec_ldN rfl rfl rfl) | exact Or.inr (exec_ldB rfl (by omega)) | exact Or.inr (exec_ldI rfl (by omega)) | exact Or.inr ghost_of), ?_⟩)) ?_
  refine Fe.pure rfl rfl (by simp only [↓nrmL, nrmZ, Nat.reduceEqDiff, ↓reduceIte, Nat.reduceAdd, Int.reduceBEq, Int.reduceBNe, k1, k2, k3]; rfl) ?_
  refine Fe.read rfl (exec_ld rfl rfl) rfl (by repeat (first | exact trivial | refine ⟨(by first | exact Or.inl (by dsimp only; decide) | exact Or.inr (exec_ld rfl rfl) | exact Or.inr (exec_ldN rfl rfl rfl) | exact Or.inr (exec_ldB rfl (by omega)) | exact Or.inr (exec_ldI rfl (by omega)) | exact Or.inr ghost_of), ?_⟩)) ?_
  refine Fe.pure rfl rfl (by simp only [↓nrmL, nrmZ, Nat.reduceEqDiff, ↓reduceIte, Nat.reduceAdd, Int.reduceBEq, Int.reduceBNe, k1, k2, k3]; rfl) ?_
  refine Fe.read rfl (exec_ld rfl rfl) rfl (by repeat (first | exact trivial | refine ⟨(by first | exact Or.inl (by dsimp only; decide) | exact Or.inr (exec_ld rfl rfl) | exact Or.inr (exec_ldN rfl rfl rfl) | exact Or.inr (exec_ldB rfl (by omega)) | exact Or.inr (exec_ldI rfl (by omega)) | exact Or.inr ghost_of), ?_⟩)) ?_
  refine Fe.pure rfl rfl (by simp only [↓nrmL, nrmZ, Nat.reduceEqDiff, ↓reduceIte, Nat.reduceAdd, Int.reduceBEq, Int.reduceBNe, k1, k2, k3]; rfl) ?_
  refine Fe.pure rfl rfl (by simp only [↓nrmL, nrmZ, Nat.reduceEqDiff, ↓reduceIte, Nat.reduceAdd, Int.reduceBEq, Int.reduceBNe, k1, k2, k3]; rfl) ?_
  refine Fe.pure rfl rfl (by simp only [↓nrmL, nrmZ, Nat.reduceEqDiff, ↓reduceIte, Nat.reduceAdd, Int.reduceBEq, Int.reduceBNe, k1, k2, k3]; rfl) ?_
  refine Fe.pure rfl (exec_idxP (by (try simp only [↓nrmL, nrmZ, Nat.reduceEqDiff, ↓reduceIte, Nat.reduceAdd, Int.reduceBEq, Int.reduceBNe, k1, k2, k3]); rfl) rfl ?_) (by simp only [↓nrmL, nrmZ, Nat.reduceEqDiff, ↓reduceIte, Nat.reduceAdd, Int.reduceBEq, Int.reduceBNe, k1, k2, k3]; rfl) ?_; (focus omega)
  refine WpE.stI (p := pr) (j := m) (l := takeRuns (rowsL l a b) (R.take i)) (c := (takeRuns (rowsL l a b) (R.take i))[m] - ((t - f + 1 : Nat) : Int)) rfl rfl rfl hmlt fun H9 hb9 hw9 hx9 => ?_
  rw [← hset, ← htk] at hb9
  refine ⟨(by repeat (first | exact trivial | refine ⟨(by first | exact Or.inl (by dsimp only; decide) | exact Or.inr (readOk_of (exec_ld rfl rfl)) | exact Or.inr (readOk_of (exec_ldN rfl rfl rfl)) | exact Or.inr (readOk_of (exec_ldB rfl (by omega))) | exact Or.inr (readOk_of (exec_ldI rfl (by omega))) | exact Or.inr (made_of rfl)), ?_⟩)), ?_⟩
  refine WpE.nil (hKF _ _ ?_)
  refine rg fun KF hKF => ?_
  refine Fo.bin rfl rfl rfl rfl ?_
  refine mI rfl ?_
  refine WpO.nil (hKF _ _ ?_)
  dsimp only [cond_true, cond_false]
  refine ⟨i + 1, by omega, ⟨by simp only [↓nrmL, nrmZ, Nat.reduceEqDiff, ↓reduceIte, Nat.reduceAdd, Int.reduceBEq, Int.reduceBNe]; rw [hw1], trivial⟩, hil, hb9, hw9, inferInstance⟩
 have hie : i = R.length := by have := of_decide_eq_false hc; omega
 rw [hie, List.take_length] at hb8
 try simp only [↓nrmL, nrmZ, Nat.reduceEqDiff, ↓reduceIte, Nat.reduceAdd, Int.reduceBEq, Int.reduceBNe, hc]
 refine sq ?_
 refine rg fun KF hKF => ?_
 refine Fo.bin rfl rfl rfl (by simp only [↓nrmL, nrmZ, Nat.reduceEqDiff, ↓reduceIte, Nat.reduceAdd, Int.reduceBEq, Int.reduceBNe, hc]; rfl) ?_
 refine WpO.nil (hKF _ _ ?_)
 refine sq ?_
 refine Wp.cond (b := false) rfl ?_
 refine Wp.exit ?_
 refine sq ?_
 refine sq ?_
 refine rg fun KF hKF => ?_
 refine Fo.mov (by simp only [↓nrmL, nrmK, Nat.reduceEqDiff, ↓reduceIte]; rfl) ?_
 refine Fo.len (v := ?_) (by simp only [↓nrmL, nrmK, Nat.reduceEqDiff, ↓reduceIte]; rfl) ?hv ?_; case hv => rfl
 refine mI rfl ?_
 refine WpO.nil (hKF _ _ ?_)
 refine Wp.block ?_
 dsimp only [cond_true, cond_false]
 refine Wp.loopS [28, 121, 122, 123, 124, 125, 126, 127, 128, 129, 130, 131, 132, 133, 134, 135, 136, 137, 138] (fun i : Nat => [(121, .int .i64 i)]) (fun H7 i H8 => i ≤ C.length ∧ IntsI H8 pc (takeRuns (colsL l a b) (C.take i)) ∧ WrS H8 pc ∧ ExtP0 H7 H8 pc) (fun i => C.length - i) 0 rfl (fun _ => rfl) ⟨rfl, trivial⟩ ⟨Nat.zero_le _, (by show IntsI _ pc (colsL l a b); infer_instance), inferInstance, inferInstance⟩ (by unfold fuel0 at hn; omega) ?_
 rintro i g1 H8 ⟨hi, hb8, hw8, ⟨hx8⟩⟩
 simp only [↓nrmL, nrmZ, Nat.reduceEqDiff, ↓reduceIte, Nat.reduceAdd, Int.reduceBEq, Int.reduceBNe]
 cases hc : decide ((i : Int) < (C.length : Int))
 rotate_left
 ·have hil : i < C.length := by have := of_decide_eq_true hc; omega
  have hw1 := wa1 (a := i) (by omega)
  have hcg := cellsR_get (l := C) (i := i) hil
  have hget : C.getD i run0 = C[i] := by simp [hil]
  have hmem : C[i] ∈ C := List.getElem_mem hil
  obtain ⟨m, f, t, em, ef, et, hmb, hft, hta⟩ := okRun_facts (hck _ hmem)
  rw [hget, em, ef, et] at hcg
  have htk : takeRuns (colsL l a b) (C.take (i + 1)) = takeRun (takeRuns (colsL l a b) (C.take i)) C[i] := by
   rw [List.take_succ_eq_append_getElem hil, takeRuns_append]; rfl
  have hlen8 : (takeRuns (colsL l a b) (C.take i)).length = a := by rw [takeRuns_length, hlc]
  have hmlt : m < (takeRuns (colsL l a b) (C.take i)).length := by rw [hlen8]; exact hmb
  have hbd := take_bd (L := colsL l a b) hck i hi m (by rw [hlc]; exact hmb)
  have hprod : i * b ≤ 1200 * 640 := Nat.mul_le_mul (by omega) (by omega)
  have hbd2 := hbc m hmb
  have hge : (takeRuns (colsL l a b) (C.take i)).getD m 0 = (takeRuns (colsL l a b) (C.take i))[m] := by simp [hmlt]
  have k1 : IntKind.i64.wrap ((t : Int) - (f : Int)) = ((t - f : Nat) : Int) := by rw [w64 (by omega)]; omega
  have k2 : IntKind.i64.wrap (((t - f : Nat) : Int) + 1) = ((t - f + 1 : Nat) : Int) := by rw [w64 (by omega)]; omega
  have k3 : IntKind.i64.wrap ((takeRuns (colsL l a b) (C.take i))[m] - ((t - f + 1 : Nat) : Int)) = (takeRuns (colsL l a b) (C.take i))[m] - ((t - f + 1 : Nat) : Int) := by rw [← hge]; exact w64 (by omega)
  have hset : takeRun (takeRuns (colsL l a b) (C.take i)) C[i] = (takeRuns (colsL l a b) (C.take i)).set m ((takeRuns (colsL l a b) (C.take i))[m] - ((t - f + 1 : Nat) : Int)) := by
   unfold takeRun runLen
   rw [em, ef, et, Int.toNat_natCast, hge]
   congr 2
   omega
  try simp only [↓nrmL, nrmZ, Nat.reduceEqDiff, ↓reduceIte, Nat.reduceAdd, Int.reduceBEq, Int.reduceBNe, hc]
  refine sq ?_
  refine rg fun KF hKF => ?_
  refine Fo.bin rfl rfl rfl (by simp only [↓nrmL, nrmZ, Nat.reduceEqDiff, ↓reduceIte, Nat.reduceAdd, Int.reduceBEq, Int.reduceBNe, hc]; rfl) ?_
  refine WpO.nil (hKF _ _ ?_)
  refine sq ?_
  refine Wp.cond (b := true) rfl ?_
  refine Wp.skip ?_
  refine sq ?_
  refine Wp.block ?_
  refine sq ?_
  refine rg fun KF hKF => ?_
  refine Fo.idx (by simp only [↓nrmL, nrmK, Nat.reduceEqDiff, ↓reduceIte]; rfl) rfl ?_ (by simp only [↓nrmL, nrmZ, Nat.reduceEqDiff, ↓reduceIte, Nat.reduceAdd, Int.reduceBEq, Int.reduceBNe, hc]; rfl) ?_; (focus omega)
  refine WpO.do (WpX.ldNP (p := q2) (j := i * 3) (m := 3) rfl (by decide) (by rw [cellsR_length]; omega) hcg ?_)
  refine Fo.new ?_
  refine Fo.st rfl (rfl : _ = AVal.agg _) rfl rfl rfl (by repeat (first | rfl | refine allOne_cons ?_)) (by simp only [↓nrmL, nrmZ, Nat.reduceEqDiff, ↓reduceIte, Nat.reduceAdd, Int.reduceBEq, Int.reduceBNe]; rfl) ?_
  refine WpO.nil (hKF _ _ ?_)
  dsimp only [cond_true, cond_false]
  refine Fr.dregion0 rfl fun KF hKF => ?_
  try simp only [↓nrmL, nrmZ, Nat.reduceEqDiff, ↓reduceIte, Nat.reduceAdd, Int.reduceBEq, Int.reduceBNe, k1, k2, k3]
  refine Fe.pure rfl rfl (by simp only [↓nrmL, nrmZ, Nat.reduceEqDiff, ↓reduceIte, Nat.reduceAdd, Int.reduceBEq, Int.reduceBNe, k1, k2, k3]; rfl) ?_
  refine Fe.pure rfl rfl (by simp only [↓nrmL, nrmZ, Nat.reduceEqDiff, ↓reduceIte, Nat.reduceAdd, Int.reduceBEq, Int.reduceBNe, k1, k2, k3]; rfl) ?_
  refine Fe.read rfl (exec_ld rfl rfl) rfl (by repeat (first | exact trivial | refine ⟨(by first | exact Or.inl (by dsimp only; decide) | exact Or.inr (exec_ld rfl rfl) | exact Or.inr (exec_ldN rfl rfl rfl) | exact Or.inr (exec_ldB rfl (by omega)) | exact Or.inr (exec_ldI rfl (by omega)) | exact Or.inr ghost_of), ?_⟩)) ?_
  refine Fe.pure rfl (exec_idxP (by (try simp only [↓nrmL, nrmZ, Nat.reduceEqDiff, ↓reduceIte, Nat.reduceAdd, Int.reduceBEq, Int.reduceBNe, k1, k2, k3]); rfl) rfl ?_) (by simp only [↓nrmL, nrmZ, Nat.reduceEqDiff, ↓reduceIte, Nat.reduceAdd, Int.reduceBEq, Int.reduceBNe, k1, k2, k3]; rfl) ?_; (focus omega)
  refine Fe.read rfl (exec_ldI rfl (by omega)) rfl (by repeat (first | exact trivial | refine ⟨(by first | exact Or.inl (by dsimp only; decide) | exact Or.inr (exec_ld rfl rfl) | exact Or.inr (exec_ldN rfl rfl rfl) | exact Or.inr (exec_ldB rfl (by omega)) | exact Or.inr (exec_ldI rfl (by omega)) | exact Or.inr ghost_of), ?_⟩)) ?_
  refine Fe.pure rfl rfl (by simp only [↓nrmL, nrmZ, Nat.reduceEqDiff, ↓reduceIte, Nat.reduceAdd, Int.reduceBEq, Int.reduceBNe, k1, k2, k3]; rfl) ?_
  refine Fe.read rfl (exec_ld rfl rfl) rfl (by repeat (first | exact trivial | refine ⟨(by first | exact Or.inl (by dsimp only; decide) | exact Or.inr (exec_ld rfl rfl) | exact Or.inr (exec_ldN rfl rfl rfl) | exact Or.inr (exec_ldB rfl (by omega)) | exact Or.inr (exec_ldI rfl (by omega)) | exact Or.inr ghost_of), ?_⟩)) ?_
  refine Fe.pure rfl rfl (by simp only [↓nrmL, nrmZ, Nat.reduceEqDiff, ↓reduceIte, Nat.reduceAdd, Int.reduceBEq, Int.reduceBNe, k1, k2, k3]; rfl) ?_
  refine Fe.read rfl (exec_ld rfl rfl) rfl (by repeat (first | exact trivial | refine ⟨(by first | exact Or.inl (by dsimp only; decide) | exact Or.inr (exec_ld rfl rfl) | exact Or.inr (exec_ldN rfl rfl rfl) | exact Or.inr (exec_ldB rfl (by omega)) | exact Or.inr (exec_ldI rfl (by omega)) | exact Or.inr ghost_of), ?_⟩)) ?_
  refine Fe.pure rfl rfl (by simp only [↓nrmL, nrmZ, Nat.reduceEqDiff, ↓reduceIte, Nat.reduceAdd, Int.reduceBEq, Int.reduceBNe, k1, k2, k3]; rfl) ?_
  refine Fe.pure rfl rfl (by simp only [↓nrmL, nrmZ, Nat.reduceEqDiff, ↓reduceIte, Nat.reduceAdd, Int.reduceBEq, Int.reduceBNe, k1, k2, k3]; rfl) ?_
  refine Fe.pure rfl rfl (by simp only [↓nrmL, nrmZ, Nat.reduceEqDiff, ↓reduceIte, Nat.reduceAdd, Int.reduceBEq, Int.reduceBNe, k1, k2, k3]; rfl) ?_
  refine Fe.pure rfl (exec_idxP (by (try simp only [↓nrmL, nrmZ, Nat.reduceEqDiff, ↓reduceIte, Nat.reduceAdd, Int.reduceBEq, Int.reduceBNe, k1, k2, k3]); rfl) rfl ?_) (by simp only [↓nrmL, nrmZ, Nat.reduceEqDiff, ↓reduceIte, Nat.reduceAdd, Int.reduceBEq, Int.reduceBNe, k1, k2, k3]; rfl) ?_; (focus omega)
  refine WpE.stI (p := pc) (j := m) (l := takeRuns (colsL l a b) (C.take i)) (c := (takeRuns (colsL l a b) (C.take i))[m] - ((t - f + 1 : Nat) : Int)) rfl rfl rfl hmlt fun H9 hb9 hw9 hx9 => ?_
  rw [← hset, ← htk] at hb9
  refine ⟨(by repeat (first | exact trivial | refine ⟨(by first | exact Or.inl (by dsimp only; decide) | exact Or.inr (readOk_of (exec_ld rfl rfl)) | exact Or.inr (readOk_of (exec_ldN rfl rfl rfl)) | exact Or.inr (readOk_of (exec_ldB rfl (by omega))) | exact Or.inr (readOk_of (exec_ldI rfl (by omega))) | exact Or.inr (made_of rfl)), ?_⟩)), ?_⟩
  refine WpE.nil (hKF _ _ ?_)
  refine rg fun KF hKF => ?_
  refine Fo.bin rfl rfl rfl rfl ?_
  refine mI rfl ?_
  refine WpO.nil (hKF _ _ ?_)
  dsimp only [cond_true, cond_false]
  refine ⟨i + 1, by omega, ⟨by simp only [↓nrmL, nrmZ, Nat.reduceEqDiff, ↓reduceIte, Nat.reduceAdd, Int.reduceBEq, Int.reduceBNe]; rw [hw1], trivial⟩, hil, hb9, hw9, inferInstance⟩
 have hie : i = C.length := by have := of_decide_eq_false hc; omega
 rw [hie, List.take_length] at hb8
 try simp only [↓nrmL, nrmZ, Nat.reduceEqDiff, ↓reduceIte, Nat.reduceAdd, Int.reduceBEq, Int.reduceBNe, hc]
 refine sq ?_
 refine rg fun KF hKF => ?_
 refine Fo.bin rfl rfl rfl (by simp only [↓nrmL, nrmZ, Nat.reduceEqDiff, ↓reduceIte, Nat.reduceAdd, Int.reduceBEq, Int.reduceBNe, hc]; rfl) ?_
 refine WpO.nil (hKF _ _ ?_)
 refine sq ?_
 refine Wp.cond (b := false) rfl ?_
 refine Wp.exit ?_
 refine sq ?_
 refine sq ?_
 refine rg fun KF hKF => ?_
 refine Fo.mov (by simp only [↓nrmL, nrmK, Nat.reduceEqDiff, ↓reduceIte]; rfl) ?_
 refine Fo.mov (by simp only [↓nrmL, nrmK, Nat.reduceEqDiff, ↓reduceIte]; rfl) ?_
 refine Fo.bslice (cs := [pr, pc]) (by repeat (first | refine aFill1 (v := pr) rfl rfl ?_ | refine aFill1 (v := pc) rfl rfl ?_ | rfl)) rfl ?_
 skip
 refine WpO.do (WpX.conD hn rfl rfl (by simp only [↓nrmL, nrmZ, Nat.reduceEqDiff, ↓reduceIte, Nat.reduceAdd, Int.reduceBEq, Int.reduceBNe, List.map] <;> rfl) (K_Concat (l := takeRuns (rowsL l a b) R) (m := takeRuns (colsL l a b) C) (by rw [takeRuns_length, hlr]; omega) (by rw [takeRuns_length, hlc]; omega)) fun v H10 h5 => ?_)
 obtain ⟨hb10, hx10⟩ := h5
 haveI : ExtI _ H10 := ⟨hx10⟩
 haveI := hb10.one
 haveI : AllZ (takeRuns (rowsL l a b) R ++ takeRuns (colsL l a b) C) := ⟨fun j hj => by
  rw [List.getElem_append]
  split
  ·exact hrz j _
  ·exact hcz _ _, by rw [List.length_append, takeRuns_length, takeRuns_length, hlr, hlc]; omega⟩
 refine Fo.pcall (v' := ?_) hn rfl (by simp only [↓nrmL, nrmZ, Nat.reduceEqDiff, ↓reduceIte, Nat.reduceAdd, Int.reduceBEq, Int.reduceBNe, List.map]; rfl) rfl ?hv fun _ _ => ?_; case hv => rfl
 refine WpO.nil (hKF _ _ ?_)
 refine Wp.cond (b := false) rfl ?_
 refine Wp.skip ?_
 refine sq ?_
 have f1 : ∀ c : UInt8, IntKind.i64.wrap ((c.toNat : Nat) : Int) = ((c.toNat : Nat) : Int) := fun c => by
  have := c.toNat_lt
  exact w64 (by omega)
 have f2 : IntKind.i64.wrap ((a : Int) + 1) = ((a + 1 : Nat) : Int) := by rw [w64 (by omega)]; omega
 have f3 : IntKind.i64.wrap ((b : Int) + 1) = ((b + 1 : Nat) : Int) := by rw [w64 (by omega)]; omega
 obtain ⟨X, hX⟩ : ∃ k, x.toNat % (a + 1) = k := ⟨_, rfl⟩
 obtain ⟨Y, hY⟩ : ∃ k, y.toNat % (b + 1) = k := ⟨_, rfl⟩
 have hXa : X ≤ a := by have := Nat.mod_lt x.toNat (show 0 < a + 1 by omega); rw [hX] at this; omega
 have hYb : Y ≤ b := by have := Nat.mod_lt y.toNat (show 0 < b + 1 by omega); rw [hY] at this; omega
 have f4 : ((x.toNat : Nat) : Int).tmod ((a + 1 : Nat) : Int) = ((X : Nat) : Int) := by rw [← hX]; rfl
 have f5 : ((y.toNat : Nat) : Int).tmod ((b + 1 : Nat) : Int) = ((Y : Nat) : Int) := by rw [← hY]; rfl
 obtain ⟨U, hU⟩ : ∃ k, w.toNat % (a - X + 1) = k := ⟨_, rfl⟩
 obtain ⟨V, hV⟩ : ∃ k, h.toNat % (b - Y + 1) = k := ⟨_, rfl⟩
 have hXU : X + U ≤ a := by have := Nat.mod_lt w.toNat (show 0 < a - X + 1 by omega); rw [hU] at this; omega
 have hYV : Y + V ≤ b := by have := Nat.mod_lt h.toNat (show 0 < b - Y + 1 by omega); rw [hV] at this; omega
 have f6 : IntKind.i64.wrap ((a : Int) - (X : Int)) = ((a - X : Nat) : Int) := by rw [w64 (by omega)]; omega
 have f7 : IntKind.i64.wrap ((b : Int) - (Y : Int)) = ((b - Y : Nat) : Int) := by rw [w64 (by omega)]; omega
 have f8 : IntKind.i64.wrap (((a - X : Nat) : Int) + 1) = ((a - X + 1 : Nat) : Int) := by rw [w64 (by omega)]; omega
 have f9 : IntKind.i64.wrap (((b - Y : Nat) : Int) + 1) = ((b - Y + 1 : Nat) : Int) := by rw [w64 (by omega)]; omega
 have g1 : ((w.toNat : Nat) : Int).tmod ((a - X + 1 : Nat) : Int) = ((U : Nat) : Int) := by rw [← hU]; rfl
 have g2 : ((h.toNat : Nat) : Int).tmod ((b - Y + 1 : Nat) : Int) = ((V : Nat) : Int) := by rw [← hV]; rfl
 have n1 : (((a + 1 : Nat) : Int) == 0) = false := by
  cases hz : (((a + 1 : Nat) : Int) == 0)
  ·rfl
  ·have := eq_of_beq hz; omega
 have okc := crop_ok ok1 hXU hYV
 have eec := okc.err
 have hcr : cropSpec ⟨a, b, l⟩ X Y U V = (⟨U, V, cropL l a X Y U V⟩, 0) := by
  simp only [cropSpec, ee, beq_self_eq_true, cond_true, within_yes ok1.wa hXU, within_yes ok1.hb hYV, Bool.and_self, Int.toNat_natCast]
 have hpa : pasteSpec ⟨a, b, l⟩ ⟨U, V, cropL l a X Y U V⟩ X Y = (⟨a, b, l⟩, 0) := by
  simp only [pasteSpec, ee, eec, beq_self_eq_true, cond_true, within_yes ok1.wa hXU, within_yes ok1.hb hYV, Bool.and_self, Int.toNat_natCast]
  rw [paste_crop ok1 hXU hYV]
 refine Fr.dregionE [.row [.int .i64 0, .int .i64 0, .int .i64 0, .int .i64 0] true (2 * 46)] ?_ fun KF hKF => ?_
 ·skip
  refine oracle_pre rfl rfl rfl rfl ?_; (try simp only [↓nrmL, nrmZ, Nat.reduceEqDiff, ↓reduceIte, Nat.reduceAdd, Int.reduceBEq, Int.reduceBNe, f1, f2, f3, f4, f5])
  refine oracle_pre rfl rfl rfl rfl ?_; (try simp only [↓nrmL, nrmZ, Nat.reduceEqDiff, ↓reduceIte, Nat.reduceAdd, Int.reduceBEq, Int.reduceBNe, f1, f2, f3, f4, f5])
  refine oracle_pre rfl rfl rfl rfl ?_; (try simp only [↓nrmL, nrmZ, Nat.reduceEqDiff, ↓reduceIte, Nat.reduceAdd, Int.reduceBEq, Int.reduceBNe, f1, f2, f3, f4, f5])
  refine oracle_pre rfl rfl rfl (exec_ld rfl rfl) ?_; (try simp only [↓nrmL, nrmZ, Nat.reduceEqDiff, ↓reduceIte, Nat.reduceAdd, Int.reduceBEq, Int.reduceBNe, f1, f2, f3, f4, f5])
  refine oracle_pre rfl rfl rfl rfl ?_; (try simp only [↓nrmL, nrmZ, Nat.reduceEqDiff, ↓reduceIte, Nat.reduceAdd, Int.reduceBEq, Int.reduceBNe, f1, f2, f3, f4, f5])
  refine oracle_pre rfl rfl rfl rfl ?_; (try simp only [↓nrmL, nrmZ, Nat.reduceEqDiff, ↓reduceIte, Nat.reduceAdd, Int.reduceBEq, Int.reduceBNe, f1, f2, f3, f4, f5])
  refine oracle_pre rfl rfl rfl rfl ?_; (try simp only [↓nrmL, nrmZ, Nat.reduceEqDiff, ↓reduceIte, Nat.reduceAdd, Int.reduceBEq, Int.reduceBNe, f1, f2, f3, f4, f5])
  refine oracle_pre rfl rfl rfl rfl ?_; (try simp only [↓nrmL, nrmZ, Nat.reduceEqDiff, ↓reduceIte, Nat.reduceAdd, Int.reduceBEq, Int.reduceBNe, f1, f2, f3, f4, f5])
  refine oracle_pre rfl rfl rfl rfl ?_; (try simp only [↓nrmL, nrmZ, Nat.reduceEqDiff, ↓reduceIte, Nat.reduceAdd, Int.reduceBEq, Int.reduceBNe, f1, f2, f3, f4, f5])
  refine oracle_pre rfl rfl rfl (exec_ld rfl rfl) ?_; (try simp only [↓nrmL, nrmZ, Nat.reduceEqDiff, ↓reduceIte, Nat.reduceAdd, Int.reduceBEq, Int.reduceBNe, f1, f2, f3, f4, f5])
  refine oracle_pre rfl rfl rfl rfl ?_; (try simp only [↓nrmL, nrmZ, Nat.reduceEqDiff, ↓reduceIte, Nat.reduceAdd, Int.reduceBEq, Int.reduceBNe, f1, f2, f3, f4, f5])
  refine oracle_pre rfl rfl rfl rfl ?_; (try simp only [↓nrmL, nrmZ, Nat.reduceEqDiff, ↓reduceIte, Nat.reduceAdd, Int.reduceBEq, Int.reduceBNe, f1, f2, f3, f4, f5])
  refine oracle_pre rfl rfl rfl rfl ?_; (try simp only [↓nrmL, nrmZ, Nat.reduceEqDiff, ↓reduceIte, Nat.reduceAdd, Int.reduceBEq, Int.reduceBNe, f1, f2, f3, f4, f5])
  refine oracle_made rfl rfl rfl ?_; (try simp only [↓nrmL, nrmZ, Nat.reduceEqDiff, ↓reduceIte, Nat.reduceAdd, Int.reduceBEq, Int.reduceBNe, f1, f2, f3, f4, f5])
  exact oracle_none _ _ _ _ rfl
 simp only [pushAll]
 try simp only [↓nrmL, nrmZ, Nat.reduceEqDiff, ↓reduceIte, Nat.reduceAdd, Int.reduceBEq, Int.reduceBNe, f1, f2, f3, f4, f5]
 refine Fe.pure rfl rfl (by simp only [↓nrmL, nrmZ, Nat.reduceEqDiff, ↓reduceIte, Nat.reduceAdd, Int.reduceBEq, Int.reduceBNe, f1, f2, f3, f4, f5]; rfl) ?_
 refine Fe.pure rfl rfl (by simp only [↓nrmL, nrmZ, Nat.reduceEqDiff, ↓reduceIte, Nat.reduceAdd, Int.reduceBEq, Int.reduceBNe, f1, f2, f3, f4, f5]; rfl) ?_
 refine Fe.pure rfl rfl (by simp only [↓nrmL, nrmZ, Nat.reduceEqDiff, ↓reduceIte, Nat.reduceAdd, Int.reduceBEq, Int.reduceBNe, f1, f2, f3, f4, f5]; rfl) ?_
 refine Fe.read rfl (exec_ld rfl rfl) rfl (by repeat (first | exact trivial | refine ⟨(by first | exact Or.inl (by dsimp only; decide) | exact Or.inr (exec_ld rfl rfl) | exact Or.inr (exec_ldN rfl rfl rfl) | exact Or.inr (exec_ldB rfl (by omega)) | exact Or.inr (exec_ldI rfl (by omega)) | exact Or.inr ghost_of), ?_⟩)) ?_
 refine Fe.pure rfl rfl (by simp only [↓nrmL, nrmZ, Nat.reduceEqDiff, ↓reduceIte, Nat.reduceAdd, Int.reduceBEq, Int.reduceBNe, f1, f2, f3, f4, f5]; rfl) ?_
 refine Fe.pure rfl rfl (by simp only [↓nrmL, nrmZ, Nat.reduceEqDiff, ↓reduceIte, Nat.reduceAdd, Int.reduceBEq, Int.reduceBNe, f1, f2, f3, f4, f5]; rfl) ?_
 refine Fe.pure rfl rfl (by simp only [↓nrmL, nrmZ, Nat.reduceEqDiff, ↓reduceIte, Nat.reduceAdd, Int.reduceBEq, Int.reduceBNe, f1, f2, f3, f4, f5]; rfl) ?_
 refine Fe.pure rfl rfl (by simp only [↓nrmL, nrmZ, Nat.reduceEqDiff, ↓reduceIte, Nat.reduceAdd, Int.reduceBEq, Int.reduceBNe, f1, f2, f3, f4, f5]; rfl) ?_
 refine Fe.pure rfl rfl (by simp only [↓nrmL, nrmZ, Nat.reduceEqDiff, ↓reduceIte, Nat.reduceAdd, Int.reduceBEq, Int.reduceBNe, f1, f2, f3, f4, f5]; rfl) ?_
 refine Fe.read rfl (exec_ld rfl rfl) rfl (by repeat (first | exact trivial | refine ⟨(by first | exact Or.inl (by dsimp only; decide) | exact Or.inr (exec_ld rfl rfl) | exact Or.inr (exec_ldN rfl rfl rfl) | exact Or.inr (exec_ldB rfl (by omega)) | exact Or.inr (exec_ldI rfl (by omega)) | exact Or.inr ghost_of), ?_⟩)) ?_
 refine Fe.pure rfl rfl (by simp only [↓nrmL, nrmZ, Nat.reduceEqDiff, ↓reduceIte, Nat.reduceAdd, Int.reduceBEq, Int.reduceBNe, f1, f2, f3, f4, f5]; rfl) ?_
 refine Fe.pure rfl rfl (by simp only [↓nrmL, nrmZ, Nat.reduceEqDiff, ↓reduceIte, Nat.reduceAdd, Int.reduceBEq, Int.reduceBNe, f1, f2, f3, f4, f5]; rfl) ?_
 refine Fe.pure rfl rfl (by simp only [↓nrmL, nrmZ, Nat.reduceEqDiff, ↓reduceIte, Nat.reduceAdd, Int.reduceBEq, Int.reduceBNe, f1, f2, f3, f4, f5]; rfl) ?_
 refine Fe.made rfl rfl ghost_of (by repeat (first | exact trivial | refine ⟨(by first | exact Or.inl (by dsimp only; decide) | exact Or.inr (exec_ld rfl rfl) | exact Or.inr (exec_ldN rfl rfl rfl) | exact Or.inr (exec_ldB rfl (by omega)) | exact Or.inr (exec_ldI rfl (by omega)) | exact Or.inr ghost_of), ?_⟩)) rfl ?_
 refine Fe.effect0 rfl (exec_st rfl (by (try simp only [↓nrmL, nrmZ, Nat.reduceEqDiff, ↓reduceIte, Nat.reduceAdd, Int.reduceBEq, Int.reduceBNe, f1, f2, f3, f4, f5]); rfl) rfl rfl rfl (by repeat (first | rfl | refine allOne_cons ?_)) (by (try simp only [↓nrmL, nrmZ, Nat.reduceEqDiff, ↓reduceIte, Nat.reduceAdd, Int.reduceBEq, Int.reduceBNe, f1, f2, f3, f4, f5]); rfl)) (by repeat (first | exact trivial | refine ⟨(by first | exact Or.inl (by dsimp only; decide) | exact Or.inr (readOk_of (exec_ld rfl rfl)) | exact Or.inr (readOk_of (exec_ldN rfl rfl rfl)) | exact Or.inr (readOk_of (exec_ldB rfl (by omega))) | exact Or.inr (readOk_of (exec_ldI rfl (by omega))) | exact Or.inr (made_of rfl)), ?_⟩)) ?_
 refine WpE.nil (hKF _ _ ?_)
 refine sq ?_
 refine Fr.dregion0 rfl fun KF hKF => ?_
 try simp only [↓nrmL, nrmZ, Nat.reduceEqDiff, ↓reduceIte, Nat.reduceAdd, Int.reduceBEq, Int.reduceBNe, f1, f6, f7, f8, f9, g1, g2]
 refine Fe.pure rfl rfl (by simp only [↓nrmL, nrmZ, Nat.reduceEqDiff, ↓reduceIte, Nat.reduceAdd, Int.reduceBEq, Int.reduceBNe, f1, f6, f7, f8, f9, g1, g2]; rfl) ?_
 refine Fe.pure rfl rfl (by simp only [↓nrmL, nrmZ, Nat.reduceEqDiff, ↓reduceIte, Nat.reduceAdd, Int.reduceBEq, Int.reduceBNe, f1, f6, f7, f8, f9, g1, g2]; rfl) ?_
 refine Fe.pure rfl rfl (by simp only [↓nrmL, nrmZ, Nat.reduceEqDiff, ↓reduceIte, Nat.reduceAdd, Int.reduceBEq, Int.reduceBNe, f1, f6, f7, f8, f9, g1, g2]; rfl) ?_
 refine Fe.read rfl (exec_ld rfl rfl) rfl (by repeat (first | exact trivial | refine ⟨(by first | exact Or.inl (by dsimp only; decide) | exact Or.inr (exec_ld rfl rfl) | exact Or.inr (exec_ldN rfl rfl rfl) | exact Or.inr (exec_ldB rfl (by omega)) | exact Or.inr (exec_ldI rfl (by omega)) | exact Or.inr ghost_of), ?_⟩)) ?_
 refine Fe.pure rfl rfl (by simp only [↓nrmL, nrmZ, Nat.reduceEqDiff, ↓reduceIte, Nat.reduceAdd, Int.reduceBEq, Int.reduceBNe, f1, f6, f7, f8, f9, g1, g2]; rfl) ?_
 refine Fe.read rfl (exec_ld rfl rfl) rfl (by repeat (first | exact trivial | refine ⟨(by first | exact Or.inl (by dsimp only; decide) | exact Or.inr (exec_ld rfl rfl) | exact Or.inr (exec_ldN rfl rfl rfl) | exact Or.inr (exec_ldB rfl (by omega)) | exact Or.inr (exec_ldI rfl (by omega)) | exact Or.inr ghost_of), ?_⟩)) ?_
 refine Fe.pure rfl rfl (by simp only [↓nrmL, nrmZ, Nat.reduceEqDiff, ↓reduceIte, Nat.reduceAdd, Int.reduceBEq, Int.reduceBNe, f1, f6, f7, f8, f9, g1, g2]; rfl) ?_
 refine Fe.pure rfl rfl (by simp only [↓nrmL, nrmZ, Nat.reduceEqDiff, ↓reduceIte, Nat.reduceAdd, Int.reduceBEq, Int.reduceBNe, f1, f6, f7, f8, f9, g1, g2]; rfl) ?_
 refine Fe.pure rfl rfl (by simp only [↓nrmL, nrmZ, Nat.reduceEqDiff, ↓reduceIte, Nat.reduceAdd, Int.reduceBEq, Int.reduceBNe, f1, f6, f7, f8, f9, g1, g2]; rfl) ?_
 refine Fe.pure rfl rfl (by simp only [↓nrmL, nrmZ, Nat.reduceEqDiff, ↓reduceIte, Nat.reduceAdd, Int.reduceBEq, Int.reduceBNe, f1, f6, f7, f8, f9, g1, g2]; rfl) ?_
 refine Fe.pure rfl rfl (by simp only [↓nrmL, nrmZ, Nat.reduceEqDiff, ↓reduceIte, Nat.reduceAdd, Int.reduceBEq, Int.reduceBNe, f1, f6, f7, f8, f9, g1, g2]; rfl) ?_
 refine Fe.pure rfl rfl (by simp only [↓nrmL, nrmZ, Nat.reduceEqDiff, ↓reduceIte, Nat.reduceAdd, Int.reduceBEq, Int.reduceBNe, f1, f6, f7, f8, f9, g1, g2]; rfl) ?_
 refine Fe.read rfl (exec_ld rfl rfl) rfl (by repeat (first | exact trivial | refine ⟨(by first | exact Or.inl (by dsimp only; decide) | exact Or.inr (exec_ld rfl rfl) | exact Or.inr (exec_ldN rfl rfl rfl) | exact Or.inr (exec_ldB rfl (by omega)) | exact Or.inr (exec_ldI rfl (by omega)) | exact Or.inr ghost_of), ?_⟩)) ?_
 refine Fe.pure rfl rfl (by simp only [↓nrmL, nrmZ, Nat.reduceEqDiff, ↓reduceIte, Nat.reduceAdd, Int.reduceBEq, Int.reduceBNe, f1, f6, f7, f8, f9, g1, g2]; rfl) ?_
 refine Fe.read rfl (exec_ld rfl rfl) rfl (by repeat (first | exact trivial | refine ⟨(by first | exact Or.inl (by dsimp only; decide) | exact Or.inr (exec_ld rfl rfl) | exact Or.inr (exec_ldN rfl rfl rfl) | exact Or.inr (exec_ldB rfl (by omega)) | exact Or.inr (exec_ldI rfl (by omega)) | exact Or.inr ghost_of), ?_⟩)) ?_
 refine Fe.pure rfl rfl (by simp only [↓nrmL, nrmZ, Nat.reduceEqDiff, ↓reduceIte, Nat.reduceAdd, Int.reduceBEq, Int.reduceBNe, f1, f6, f7, f8, f9, g1, g2]; rfl) ?_
 refine Fe.pure rfl rfl (by simp only [↓nrmL, nrmZ, Nat.reduceEqDiff, ↓reduceIte, Nat.reduceAdd, Int.reduceBEq, Int.reduceBNe, f1, f6, f7, f8, f9, g1, g2]; rfl) ?_
 refine Fe.pure rfl rfl (by simp only [↓nrmL, nrmZ, Nat.reduceEqDiff, ↓reduceIte, Nat.reduceAdd, Int.reduceBEq, Int.reduceBNe, f1, f6, f7, f8, f9, g1, g2]; rfl) ?_
 refine Fe.pure rfl rfl (by simp only [↓nrmL, nrmZ, Nat.reduceEqDiff, ↓reduceIte, Nat.reduceAdd, Int.reduceBEq, Int.reduceBNe, f1, f6, f7, f8, f9, g1, g2]; rfl) ?_
 refine Fe.effect0 rfl (exec_st rfl (by (try simp only [↓nrmL, nrmZ, Nat.reduceEqDiff, ↓reduceIte, Nat.reduceAdd, Int.reduceBEq, Int.reduceBNe, f1, f6, f7, f8, f9, g1, g2]); rfl) rfl rfl rfl (by repeat (first | rfl | refine allOne_cons ?_)) (by (try simp only [↓nrmL, nrmZ, Nat.reduceEqDiff, ↓reduceIte, Nat.reduceAdd, Int.reduceBEq, Int.reduceBNe, f1, f6, f7, f8, f9, g1, g2]); rfl)) (by repeat (first | exact trivial | refine ⟨(by first | exact Or.inl (by dsimp only; decide) | exact Or.inr (readOk_of (exec_ld rfl rfl)) | exact Or.inr (readOk_of (exec_ldN rfl rfl rfl)) | exact Or.inr (readOk_of (exec_ldB rfl (by omega))) | exact Or.inr (readOk_of (exec_ldI rfl (by omega))) | exact Or.inr (made_of rfl)), ?_⟩)) ?_
 refine Fe.pure rfl rfl (by simp only [↓nrmL, nrmZ, Nat.reduceEqDiff, ↓reduceIte, Nat.reduceAdd, Int.reduceBEq, Int.reduceBNe, f1, f6, f7, f8, f9, g1, g2]; rfl) ?_
 refine Fe.effect0 rfl (exec_st rfl (by (try simp only [↓nrmL, nrmZ, Nat.reduceEqDiff, ↓reduceIte, Nat.reduceAdd, Int.reduceBEq, Int.reduceBNe, f1, f6, f7, f8, f9, g1, g2]); rfl) rfl rfl rfl (by repeat (first | rfl | refine allOne_cons ?_)) (by (try simp only [↓nrmL, nrmZ, Nat.reduceEqDiff, ↓reduceIte, Nat.reduceAdd, Int.reduceBEq, Int.reduceBNe, f1, f6, f7, f8, f9, g1, g2]); rfl)) (by repeat (first | exact trivial | refine ⟨(by first | exact Or.inl (by dsimp only; decide) | exact Or.inr (readOk_of (exec_ld rfl rfl)) | exact Or.inr (readOk_of (exec_ldN rfl rfl rfl)) | exact Or.inr (readOk_of (exec_ldB rfl (by omega))) | exact Or.inr (readOk_of (exec_ldI rfl (by omega))) | exact Or.inr (made_of rfl)), ?_⟩)) ?_
 refine WpE.nil (hKF _ _ ?_)
 refine sq ?_
 refine rg fun KF hKF => ?_
 refine Fo.ldN rfl rfl (by simp only [↓nrmL, nrmZ, Nat.reduceEqDiff, ↓reduceIte, Nat.reduceAdd, Int.reduceBEq, Int.reduceBNe]; rfl) ?_
 refine Fo.ldN rfl rfl (by simp only [↓nrmL, nrmZ, Nat.reduceEqDiff, ↓reduceIte, Nat.reduceAdd, Int.reduceBEq, Int.reduceBNe]; rfl) ?_
 refine WpO.do (WpX.conD hn rfl rfl (by simp only [↓nrmL, nrmZ, Nat.reduceEqDiff, ↓reduceIte, Nat.reduceAdd, Int.reduceBEq, Int.reduceBNe, List.map] <;> rfl) (K_Crop (l := l)) fun v H11 h5 => ?_)
 rw [hcr] at h5
 obtain ⟨_, e1, j1, e2, hj1, hfj1, hwj1, hxj1⟩ := h5
 subst e1 e2
 try dsimp only at hj1
 haveI : ExtI _ H11 := ⟨hxj1⟩
 haveI := hj1.one
 refine mT rfl ?_
 refine Fo.extr rfl rfl ?_
 refine Fo.extr rfl rfl ?_
 refine Fo.new ?_
 refine Fo.st rfl (rfl : _ = AVal.agg _) rfl rfl rfl (by repeat (first | rfl | refine allOne_cons ?_)) (by simp only [↓nrmL, nrmZ, Nat.reduceEqDiff, ↓reduceIte, Nat.reduceAdd, Int.reduceBEq, Int.reduceBNe]; rfl) ?_
 refine mI rfl ?_
 refine WpO.nil (hKF _ _ ?_)
 refine sq ?_
 refine rg fun KF hKF => ?_
 refine Fo.ldN rfl rfl (by simp only [↓nrmL, nrmZ, Nat.reduceEqDiff, ↓reduceIte, Nat.reduceAdd, Int.reduceBEq, Int.reduceBNe]; rfl) ?_
 refine Fo.ldN rfl rfl (by simp only [↓nrmL, nrmZ, Nat.reduceEqDiff, ↓reduceIte, Nat.reduceAdd, Int.reduceBEq, Int.reduceBNe]; rfl) ?_
 refine Fo.fa rfl ?_
 refine Fo.ld rfl rfl ?_
 refine Fo.fa rfl ?_
 refine Fo.ld rfl rfl ?_
 dsimp only [cond_true, cond_false]
 refine WpO.do (WpX.conD hn rfl rfl (by simp only [↓nrmL, nrmZ, Nat.reduceEqDiff, ↓reduceIte, Nat.reduceAdd, Int.reduceBEq, Int.reduceBNe, List.map] <;> rfl) (K_Paste (l := l) (m := cropL l a X Y U V)) fun v H12 h5 => ?_)
 rw [hpa] at h5
 obtain ⟨_, e1, j2, e2, hj2, hfj2, hwj2, hxj2⟩ := h5
 subst e1 e2
 try dsimp only at hj2
 haveI : ExtI _ H12 := ⟨hxj2⟩
 haveI := hj2.one
 try simp only [↓nrmL, nrmZ, Nat.reduceEqDiff, ↓reduceIte, Nat.reduceAdd, Int.reduceBEq, Int.reduceBNe, hsame, beq_self_eq_true]
 refine mT rfl ?_
 refine Fo.extr rfl rfl ?_
 refine Fo.extr rfl rfl ?_
 refine Fo.new ?_
 refine Fo.st rfl (rfl : _ = AVal.agg _) rfl rfl rfl (by repeat (first | rfl | refine allOne_cons ?_)) (by simp only [↓nrmL, nrmZ, Nat.reduceEqDiff, ↓reduceIte, Nat.reduceAdd, Int.reduceBEq, Int.reduceBNe, hsame, beq_self_eq_true]; rfl) ?_
 refine mI rfl ?_
 refine WpO.nil (hKF _ _ ?_)
 refine sq ?_
 refine rg fun KF hKF => ?_
 refine mI rfl ?_
 refine Fo.bin rfl rfl rfl (by simp only [↓nrmL, nrmZ, Nat.reduceEqDiff, ↓reduceIte, Nat.reduceAdd, Int.reduceBEq, Int.reduceBNe, hsame, beq_self_eq_true]; rfl) ?_
 refine mB rfl ?_
 refine Fo.yes rfl rfl ?_
 refine mI rfl ?_
 refine Fo.yes rfl rfl ?_
 refine Fo.bin rfl rfl rfl (by simp only [↓nrmL, nrmZ, Nat.reduceEqDiff, ↓reduceIte, Nat.reduceAdd, Int.reduceBEq, Int.reduceBNe, hsame, beq_self_eq_true]; rfl) ?_
 refine tB rfl rfl ?_
 refine mB rfl ?_
 refine Fo.yes rfl rfl ?_
 refine Fo.fa rfl ?_
 refine Fo.yes rfl rfl ?_
 refine Fo.ld rfl rfl ?_
 refine Fo.yes rfl rfl ?_
 refine Fo.fa rfl ?_
 refine Fo.yes rfl rfl ?_
 refine Fo.ld rfl rfl ?_
 refine Fo.yes rfl rfl ?_
 refine Fo.bin rfl rfl rfl (by simp only [↓nrmL, nrmZ, Nat.reduceEqDiff, ↓reduceIte, Nat.reduceAdd, Int.reduceBEq, Int.reduceBNe, hsame, beq_self_eq_true]; rfl) ?_
 refine tB rfl rfl ?_
 refine mB rfl ?_
 refine Fo.yes rfl rfl ?_
 refine Fo.fa rfl ?_
 refine Fo.yes rfl rfl ?_
 refine Fo.ld rfl rfl ?_
 refine Fo.yes rfl rfl ?_
 refine Fo.fa rfl ?_
 refine Fo.yes rfl rfl ?_
 refine Fo.ld rfl rfl ?_
 refine Fo.yes rfl rfl ?_
 refine Fo.bin rfl rfl rfl (by simp only [↓nrmL, nrmZ, Nat.reduceEqDiff, ↓reduceIte, Nat.reduceAdd, Int.reduceBEq, Int.reduceBNe, hsame, beq_self_eq_true]; rfl) ?_
 refine tB rfl rfl ?_
 refine mB rfl ?_
 refine Fo.yes rfl rfl ?_
 refine Fo.ldN rfl rfl (by simp only [↓nrmL, nrmZ, Nat.reduceEqDiff, ↓reduceIte, Nat.reduceAdd, Int.reduceBEq, Int.reduceBNe, hsame, beq_self_eq_true]; rfl) ?_
 refine Fo.yes rfl rfl ?_
 refine Fo.ldN rfl rfl (by simp only [↓nrmL, nrmZ, Nat.reduceEqDiff, ↓reduceIte, Nat.reduceAdd, Int.reduceBEq, Int.reduceBNe, hsame, beq_self_eq_true]; rfl) ?_
 refine Fo.yes rfl rfl ?_
 refine Fo.pcall (v' := ?_) hn rfl (by simp only [↓nrmL, nrmZ, Nat.reduceEqDiff, ↓reduceIte, Nat.reduceAdd, Int.reduceBEq, Int.reduceBNe, hsame, beq_self_eq_true, List.map]; rfl) rfl ?hv fun _ _ => ?_; case hv => (simp only [↓nrmL, nrmZ, Nat.reduceEqDiff, ↓reduceIte, Nat.reduceAdd, Int.reduceBEq, Int.reduceBNe, hsame, beq_self_eq_true]; rfl)
 refine tB rfl rfl ?_
 refine mB rfl ?_
 refine Fo.yes rfl rfl ?_
 refine Fo.pcall (v' := ?_) hn rfl (by simp only [↓nrmL, nrmZ, Nat.reduceEqDiff, ↓reduceIte, Nat.reduceAdd, Int.reduceBEq, Int.reduceBNe, hsame, beq_self_eq_true, List.map]; rfl) rfl ?hv fun _ _ => ?_; case hv => rfl
 refine tB rfl rfl ?_
 refine mB rfl ?_
 refine WpO.nil (hKF _ _ ?_)
 refine Wp.ret ?_
 dsimp only [cond_true, cond_false]
 refine ⟨trivial, _, (by first | rfl | exact getAllC rfl rfl rfl rfl | exact getAllT rfl (getAllC rfl rfl rfl rfl) | exact getAllC rfl rfl rfl (getAllC rfl rfl rfl rfl) | exact getAllC1 rfl rfl rfl), ?_⟩
 exact ⟨rfl, Ext0.ext⟩
end Go.Am

set_option maxRecDepth 100000
set_option maxHeartbeats 4000000
namespace Go.Proofs.YtlbgcpmiedjmoaaDoor.ImageBack
open Go.ChangeShapes Go.WideShapes Go.ChangeAt Go.RowKit Go.Am Go.Proofs.YtlbgcpmiedjmoaaDoor.Laid

theorem con (H : AHeap) (avs : List AVal) (ht : tablesIn aroundT H = true) (h : ArgS Tryd.prog H 3 [100, 22, 5, 5, 5, 5] avs) : Con ext prog 9 11 avs H fun v H' => v = .bool true ∧ Ext H H' := by
  obtain ⟨a0, r0, rfl, h0, a1, r1, rfl, h1, a2, r2, rfl, h2, a3, r3, rfl, h3, a4, r4, rfl, h4, a5, r5, rfl, h5, rfl⟩ := h
  obtain ⟨i0, rfl, wf0⟩ := shape_int Tryd.underlying100 h0
  obtain ⟨s0, rfl, lt0⟩ := u16_of wf0
  obtain ⟨p1, l1, rfl, k1, _⟩ := shape_bytes Tryd.underlying22 Tryd.underlying5 (by kernel_rfl) h1
  haveI o1 := k1.one
  obtain ⟨i2, rfl, wf2⟩ := shape_int Tryd.underlying5 h2
  obtain ⟨s2, rfl⟩ := u8_of wf2
  obtain ⟨i3, rfl, wf3⟩ := shape_int Tryd.underlying5 h3
  obtain ⟨s3, rfl⟩ := u8_of wf3
  obtain ⟨i4, rfl, wf4⟩ := shape_int Tryd.underlying5 h4
  obtain ⟨s4, rfl⟩ := u8_of wf4
  obtain ⟨i5, rfl, wf5⟩ := shape_int Tryd.underlying5 h5
  obtain ⟨s5, rfl⟩ := u8_of wf5
  have e0 : argV Tryd.prog 100 [.int .u16 (s0 : Int)] = .int .u16 (s0 : Int) := by simp only [argV, show aggTy Tryd.prog 100 = false by kernel_rfl, cond_false, List.headD_cons]
  have e1 : argV Tryd.prog 22 [p1] = p1 := by simp only [argV, show aggTy Tryd.prog 22 = false by kernel_rfl, cond_false, List.headD_cons]
  have e2 : argV Tryd.prog 5 [.int .u8 (s2.toNat : Int)] = .int .u8 (s2.toNat : Int) := by simp only [argV, show aggTy Tryd.prog 5 = false by kernel_rfl, cond_false, List.headD_cons]
  have e3 : argV Tryd.prog 5 [.int .u8 (s3.toNat : Int)] = .int .u8 (s3.toNat : Int) := by simp only [argV, show aggTy Tryd.prog 5 = false by kernel_rfl, cond_false, List.headD_cons]
  have e4 : argV Tryd.prog 5 [.int .u8 (s4.toNat : Int)] = .int .u8 (s4.toNat : Int) := by simp only [argV, show aggTy Tryd.prog 5 = false by kernel_rfl, cond_false, List.headD_cons]
  have e5 : argV Tryd.prog 5 [.int .u8 (s5.toNat : Int)] = .int .u8 (s5.toNat : Int) := by simp only [argV, show aggTy Tryd.prog 5 = false by kernel_rfl, cond_false, List.headD_cons]
  haveI : Tabs H := ⟨ht⟩
  rw [e0, e1, e2, e3, e4, e5]
  exact (K_ImageBack lt0)

theorem contract (H : Type) (enc : TypeId × Value → H) (W : World) (base : Nat) (args : Array Value) (ds gs : List (DataW H)) (before : List MemPlace)
    (hval : ∀ (j : Nat) t v, Tryd.f11.params[j]? = some t → args[j]? = some v → Value.okWide Tryd.prog W .any base t v)
    (hW : DataW.Whole enc Tryd.prog Tryd.f11.params.toList Rows.imageBackSpec.vars false W args.toList ds gs before) (hL : laidMetH Tryd.prog Rows.imageBackRow.laid W) :
    Calls Tryd.prog 11 args W fun e W' => ∃ v, e = .returned v ∧ Rows.imageBackSpec.post enc Tryd.prog Tryd.f11 false true false false W args v W' := by
  have hW' := hW
  obtain ⟨p, q, hA, _⟩ := hW'
  rw [Tryd.params11] at hA
  obtain ⟨v0, vs0, d0, ds0, p0, q0, _, rfl, _, _, r0⟩ := trodAll_cons hA
  obtain ⟨v1, vs1, d1, ds1, p1, q1, _, rfl, _, _, r1⟩ := trodAll_cons r0
  obtain ⟨v2, vs2, d2, ds2, p2, q2, _, rfl, _, _, r2⟩ := trodAll_cons r1
  obtain ⟨v3, vs3, d3, ds3, p3, q3, _, rfl, _, _, r3⟩ := trodAll_cons r2
  obtain ⟨v4, vs4, d4, ds4, p4, q4, _, rfl, _, _, r4⟩ := trodAll_cons r3
  obtain ⟨v5, vs5, d5, ds5, p5, q5, _, rfl, _, _, r5⟩ := trodAll_cons r4
  obtain ⟨_, rfl, _⟩ := trodAll_nil r5
  exact law_calls (tb := 4) (n := 3) (d := 9) (tabs := aroundT) mixed progOk Tryd.func11 rfl (by decide +kernel) laidOut rowed full (by kernel_rfl) rfl (by kernel_rfl) Tryd.underlying4 (by kernel_rfl) (by kernel_rfl)
    (fun H avs ht h => con H avs ht (by rw [Tryd.params11] at h; exact h)) H enc W base args _ gs before rfl hval hW (around_cells hL)

theorem laid_met (os : Os) : laidMet Tryd.prog Rows.imageBackRow.laid ((laidWorld os).forCall (fun _ _ => 0) ⟨#[], #[.int .u16 0, .slice none 0 0, .int .u8 0, .int .u8 0, .int .u8 0, .int .u8 0], []⟩).memory :=
  laidMet_of_run' 8 (by kernel_rfl) (by kernel_rfl)
theorem reads (os : Os) {H : Type} (enc : TypeId × Value → H) : ∃ places, DataW.whole enc Tryd.prog ((laidWorld os).forCall (fun _ _ => 0) ⟨#[], #[.int .u16 0, .slice none 0 0, .int .u8 0, .int .u8 0, .int .u8 0, .int .u8 0], []⟩).memory Tryd.f11.params.toList Rows.imageBackSpec.vars false #[Value.int .u16 0, .slice none 0 0, .int .u8 0, .int .u8 0, .int .u8 0, .int .u8 0].toList 8 = some ([.lit (.int .u16 0), .nil, .lit (.int .u8 0), .lit (.int .u8 0), .lit (.int .u8 0), .lit (.int .u8 0)], [], places) :=
  ⟨[], by kernel_rfl⟩

theorem lifted (os : Os) (started : os.Started) (H : Type) (enc : TypeId × Value → H) (F : Stop.Interp) :
    ReturnsInHanded {} Tryd.checked os 11 .any ((OpenSpec.ofChange Rows.imageBackSpec).preRow enc Tryd.prog Tryd.f11 Rows.imageBackRow.domain false Rows.imageBackRow.laid) (((OpenSpec.ofChange Rows.imageBackSpec).at F).post enc Tryd.prog Tryd.f11 false true false false) := by
  obtain ⟨places, hx⟩ := reads os enc
  refine returnsInHanded_of_row (C := Tryd.checked) (s := OpenSpec.ofChange Rows.imageBackSpec) own started (by kernel_rfl) Tryd.func11
    (witness_row_at (enc := enc) (C := Tryd.checked) false (laidWorld os) #[.int .u16 0, .slice none 0 0, .int .u8 0, .int .u8 0, .int .u8 0, .int .u8 0] rfl (by kernel_rfl) (by kernel_rfl) (by kernel_rfl)
      (OpenSpec.preRow_of_cond 8 hx (by kernel_rfl) (fun k hk => by cases hk) (by kernel_rfl) (laid_met os))) ?_
  intro W base args ds gs before hval hW _ _ _ hL _ _
  exact contract H enc W base args ds gs before hval hW hL

theorem said : Rows.ImageBackSaid :=
  OpenClaim.holds_of_cond 11 Tryd.f11 rfl rfl rfl rfl rfl rfl rfl ⟨rfl, rfl, rfl, rfl, rfl⟩ rfl rfl rfl rfl rfl (by kernel_rfl) Tryd.func11 (by kernel_rfl)
    (of_decide_eq_true (by kernel_rfl)) (by unfold Func.isWrapper; first | (rw [if_pos (by decide +kernel)]; kernel_rfl) | (rw [if_neg (by decide +kernel)]; exact ⟨rfl, rfl⟩))
    (fun os started H enc _ F => by rw [OpenClaim.pre_eq_preRow]; exact lifted os started H enc F)

theorem plain (f : FuncId) (fn : Func) (hf : Tryd.pinned.checked.prog.funcNamed "custos/custoslaw01.ImageBack" = some f) (hfn : Tryd.pinned.checked.prog.funcs[f]? = some fn) :
    false = Tryd.pinned.checked.prog.looks [] ∧ ∀ (j : Nat) t, fn.params[j]? = some t → Tryd.pinned.checked.prog.wantsStandIn t = false := by
  obtain rfl : f = 11 := Option.some.inj ((show Tryd.prog.funcNamed "custos/custoslaw01.ImageBack" = some 11 by kernel_rfl).symm.trans hf) |>.symm
  obtain rfl : fn = Tryd.f11 := (Option.some.inj (Tryd.func11.symm.trans hfn)).symm
  refine ⟨by kernel_rfl, fun j t ht => ?_⟩
  have h := List.all_eq_true.1 (show (Tryd.f11.params.toList.all fun t => !(Tryd.prog.wantsStandIn t)) = true by kernel_rfl) t (by simpa using Array.mem_of_getElem? ht)
  have h2 : Tryd.prog.wantsStandIn t = false := by simpa using h
  exact h2

/-- The card. -/
theorem card : Rows.ImageBackCardSaid :=
  Claim7.holds_tied_plain_at .later [] _ _ _ _ said (fun _ h => by cases h) (by kernel_rfl) (fun _ h => by cases h) imageBack_row_tie rfl ⟨rfl, rfl⟩ (by kernel_rfl) rfl plain (by kernel_rfl)
end Go.Proofs.YtlbgcpmiedjmoaaDoor.ImageBack
