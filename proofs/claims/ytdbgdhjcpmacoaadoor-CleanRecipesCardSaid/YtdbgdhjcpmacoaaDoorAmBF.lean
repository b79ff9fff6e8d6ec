import Derived.Test.YtdbgdhjcpmacoaaDoorAmBE
set_option linter.unusedSimpArgs false
set_option linter.unusedVariables false
set_option maxHeartbeats 8000000
set_option maxRecDepth 100000
set_option synthInstance.maxHeartbeats 4000000
set_option synthInstance.maxSize 1000000000
namespace Go.Am
open Go
attribute [local irreducible] Wp WpO WpX WpE
def Prof2 (H H' : AHeap) (v : AVal) (r c : List Int) : Prop := ∃ p q, v = .tuple [p, q] ∧ NewInts H H' p r ∧ NewInts H H' q c
theorem rowsP_skip {l : List UInt8} {a b y x : Nat} (hy : y < b) (h : pd l (y * a + x) = 0) : rowsP l a b y (x + 1) = rowsP l a b y x := by
 rw [← rowsP_set, h, Int.add_zero, ← rowsP_get (l := l) (a := a) (b := b) (y := y) (x := x) hy, List.set_getElem_self]
theorem colsP_skip {l : List UInt8} {a y x : Nat} (hx : x < a) (h : pd l (y * a + x) = 0) : colsP l a y (x + 1) = colsP l a y x := by
 rw [← colsP_set, h, Int.add_zero, ← colsP_get (l := l) (a := a) (y := y) (x := x) hx, List.set_getElem_self]
theorem K_refProfile {a b : Nat} {p : AVal} {H : AHeap} {l : List UInt8} [hp : BytesI H p l] (ok : Ok a b l) : Con ext prog 4 78 [.agg [.int .i64 a, .int .i64 b, p]] H fun v H' => Prof2 H H' v (rowsL l a b) (colsL l a b) := by
 refine con_of (show prog 78 = some c78 from rfl) rfl rfl fun n hn => ?_
 haveI := hp.one
 have hwa := ok.wa
 have hhb := ok.hb
 have hm : a * b ≤ 640 * 640 := Nat.mul_le_mul ok.wa ok.hb
 have hl := ok.len
 haveI : Fits a b l := ⟨ok.sized⟩
 obtain ⟨H1, hH1⟩ : ∃ H1 : AHeap, H.push (.row [.int .i64 a, .int .i64 b, p] true (2 * 29)) = H1 := ⟨_, rfl⟩
 repeat first
  | refine mN ?_
  | refine bA ?_
  | refine nl hKF ?_
  | refine sq ?_
  | refine rg fun KF hKF => ?_
 simp only [hH1]
 haveI hrow : HasRow H1 H.n [.int .i64 a, .int .i64 b, p] true (2 * 29) := by rw [← hH1]; infer_instance
 haveI hpb : BytesI H1 p l := by rw [← hH1]; infer_instance
 haveI hx1 : Ext0 H H1 := by rw [← hH1]; infer_instance
 have f1 := mk_facts (H := H1) (e := 2 * 3) (mk_ints b)
 have f2 := mk_facts (H := H1.push (.row (cellsI (List.replicate b 0)) true (2 * 3))) (e := 2 * 3) (mk_ints a)
 obtain ⟨q1, hq1⟩ : ∃ q : AVal, AVal.slice H1.n 0 b (some b) 1 = q := ⟨_, rfl⟩
 obtain ⟨q2, hq2⟩ : ∃ q : AVal, AVal.slice ((H1.push (.row (cellsI (List.replicate b 0)) true (2 * 3))).n) 0 a (some a) 1 = q := ⟨_, rfl⟩
 rw [hq1] at f1
 rw [hq2] at f2
 obtain ⟨m1, fr1, w1⟩ := f1
 obtain ⟨m2, fr2, w2⟩ := f2
 refine Fr.dregionE [.row (cellsI (List.replicate b 0)) true (2 * 3), .row (cellsI (List.replicate a 0)) true (2 * 3)] ?_ fun KF hKF => ?_
 ·skip
  refine oracle_pre rfl rfl rfl rfl ?_; (try simp only [↓nrmL, nrmZ, Nat.reduceEqDiff, ↓reduceIte])
  refine oracle_pre rfl rfl rfl (exec_ld rfl rfl) ?_; (try simp only [↓nrmL, nrmZ, Nat.reduceEqDiff, ↓reduceIte])
  refine oracle_made rfl rfl (made_mkI rfl rfl (by omega)) ?_
  refine oracle_pre rfl rfl rfl rfl ?_; (try simp only [↓nrmL, nrmZ, Nat.reduceEqDiff, ↓reduceIte])
  refine oracle_pre rfl rfl rfl (exec_ld rfl rfl) ?_; (try simp only [↓nrmL, nrmZ, Nat.reduceEqDiff, ↓reduceIte])
  refine oracle_made rfl rfl (made_mkI rfl rfl (by omega)) ?_
  exact oracle_none _ _ _ _ rfl
 simp only [pushAll]
 haveI := m1.one
 haveI := m2.one
 have i1 : IntsI (H1.push (.row (cellsI (List.replicate b 0)) true (2 * 3))) q1 (List.replicate b 0) := by
  unfold IntsI; rw [List.length_replicate]; exact m1
 have i2 : IntsI ((H1.push (.row (cellsI (List.replicate b 0)) true (2 * 3))).push (.row (cellsI (List.replicate a 0)) true (2 * 3))) q2 (List.replicate a 0) := by
  unfold IntsI; rw [List.length_replicate]; exact m2
 clear m1 m2
 refine Fe.pure rfl rfl (by simp only [↓nrmL, nrmZ, Nat.reduceEqDiff, ↓reduceIte]; rfl) ?_
 refine Er rfl (exec_ld rfl rfl) rfl ?_
 refine Fe.made rfl (made_mkI rfl rfl (by omega)) ghost_of trivial hq1 ?_
 change WpE _ _ (AHeap.n (AHeap.push _ (.row (cellsI (List.replicate b 0)) true (2 * 3)))) _ _ _ _ _ _ _
 refine Fe.pure rfl rfl (by simp only [↓nrmL, nrmZ, Nat.reduceEqDiff, ↓reduceIte]; rfl) ?_
 refine Er rfl (exec_ld rfl rfl) rfl ?_
 refine Fe.made rfl (made_mkI rfl rfl (by omega)) ghost_of trivial hq2 ?_
 refine Fe.pure rfl rfl (by simp only [↓nrmL, nrmZ, Nat.reduceEqDiff, ↓reduceIte]; rfl) ?_
 refine Fe.pure rfl rfl (by simp only [↓nrmL, nrmZ, Nat.reduceEqDiff, ↓reduceIte]; rfl) ?_
 refine WpE.nil (hKF _ _ ?_)
 refine sq ?_
 refine sq ?_
 refine rg fun KF hKF => ?_
 refine mI ?_
 refine nl hKF ?_
 refine Wp.block ?_
 dsimp only [cond_true, cond_false]
 refine Wp.loopS [6,7,14,15,16,17,18,19,20,21,22,23,24,25,26,27,28,29,30,31,32,33,34,35,36,37,38,39,40,41] (fun y : Nat => [(6, .int .i64 y)]) (fun _ y H2 => y ≤ b ∧ IntsI H2 q1 (rowsP l a b y 0) ∧ WrS H2 q1 ∧ IntsI H2 q2 (colsP l a y 0) ∧ WrS H2 q2 ∧ Ext H1 H2) (fun y => b - y) 0 rfl (fun _ => rfl) ⟨rfl, trivial⟩ ⟨Nat.zero_le _, by rw [rowsP_zero]; infer_instance, inferInstance, by rw [colsP_zero]; infer_instance, inferInstance, Ext0.ext⟩ (by unfold fuel0 at hn; omega) ?_
 rintro y g H2 ⟨hy, hr2, hrw2, hc2, hcw2, hxe⟩
 haveI : ExtI H1 H2 := ⟨hxe⟩
 simp only [↓nrmL, nrmZ, Nat.reduceEqDiff, ↓reduceIte]
 cases hc : decide ((y : Int) < (b : Int))
 ·have hyb : y = b := by have := of_decide_eq_false hc; omega
  subst hyb
  rw [rowsP_all] at hr2
  rw [colsP_all] at hc2
  repeat first
   | refine mI ?_
   | (refine mv ?_)
   | refine fd ?_
   | refine Fo.ld rfl rfl ?_
   | (refine bn rfl rfl rfl (by simp only [hc]; rfl) ?_)
   | refine nl hKF ?_
   | refine sq ?_
   | refine rg fun KF hKF => ?_
   | refine cf rfl ?_
   | refine rt ?_
   | refine xi ?_
  refine rz trivial ?_
  exact ⟨q1, q2, rfl, ⟨inferInstance, fr1.weak, inferInstance, Ext0.ext⟩, ⟨inferInstance, fr2.weak, inferInstance, Ext0.ext⟩⟩
 have hyb : y < b := by have := of_decide_eq_true hc; omega
 have hw1 := wa1 (a := y) (by omega)
 have hrl := row_le (a := a) hyb
 repeat first
  | refine mI ?_
  | refine fd ?_
  | refine Fo.ld rfl rfl ?_
  | (refine bn rfl rfl rfl (by simp only [hc]; rfl) ?_)
  | refine nl hKF ?_
  | refine sq ?_
  | refine rg fun KF hKF => ?_
  | refine ct rfl ?_
  | refine sk ?_
  | refine Wp.block ?_
 refine Wp.loopS [7,20,21,22,23,24,25,26,27,28,29,30,31,32,33,34,35,36,37,38,39,40,41] (fun x : Nat => [(7, .int .i64 x)]) (fun _ x H5 => x ≤ a ∧ IntsI H5 q1 (rowsP l a b y x) ∧ WrS H5 q1 ∧ IntsI H5 q2 (colsP l a y x) ∧ WrS H5 q2 ∧ Ext H1 H5) (fun x => a - x) 0 rfl (fun _ => rfl) ⟨rfl, trivial⟩ ⟨Nat.zero_le _, inferInstance, inferInstance, inferInstance, inferInstance, Ext0.ext⟩ (by unfold fuel0 at hn; omega) ?_
 rintro x g2 H5 ⟨hx0, hr5, hrw5, hc5, hcw5, hxe5⟩
 haveI : ExtI H1 H5 := ⟨hxe5⟩
 simp only [↓nrmL, nrmZ, Nat.reduceEqDiff, ↓reduceIte]
 cases hc2' : decide ((x : Int) < (a : Int))
 ·have hxa : x = a := by have := of_decide_eq_false hc2'; omega
  subst hxa
  rw [rowsP_next] at hr5
  rw [colsP_next] at hc5
  repeat first
   | refine mI ?_
   | refine fd ?_
   | refine Fo.ld rfl rfl ?_
   | (refine bn rfl rfl rfl (by simp only [hc2']; rfl) ?_)
   | refine b0 ?_
   | refine nl hKF ?_
   | refine sq ?_
   | refine rg fun KF hKF => ?_
   | refine cf rfl ?_
   | refine xi ?_
  refine ⟨y + 1, by omega, ⟨by simp only [↓nrmL, nrmZ, Nat.reduceEqDiff, ↓reduceIte]; rw [hw1], trivial⟩, hyb, inferInstance, inferInstance, inferInstance, inferInstance, Ext0.ext⟩
 have hxa : x < a := by have := of_decide_eq_true hc2'; omega
 have hlt := idx_lt hxa hyb
 have hil : y * a + x < l.length := by omega
 have hw3 := wa1 (a := x) (by omega)
 have hrlen := rowsP_length l a b y x
 have hclen := colsP_length l a y x
 have hrg := rowsP_get (l := l) (a := a) (b := b) (y := y) (x := x) hyb
 have hcg := colsP_get (l := l) (a := a) (y := y) (x := x) hxa
 have b1 := rc_bd l a y x
 have b2 := cc_bd l a x y
 have k1 := inkB_nat (l := l) hxa hyb
 cases ht : inkB a b l x y
 ·rw [k1] at ht
  have h0 : pd l (y * a + x) = 0 := by unfold pd; rw [ht]; rfl
  repeat first
   | refine mI ?_
   | refine fd ?_
   | refine Fo.ld rfl rfl ?_
   | (refine Fo.ldN rfl rfl (by simp only [↓nrmL, nrmZ, Nat.reduceEqDiff, ↓reduceIte, hc2', k1, ht]; rfl) ?_)
   | (refine bn rfl rfl rfl (by simp only [hc2', k1, ht]; rfl) ?_)
   | refine b0 ?_
   | (refine Fo.pcall (v' := ?_) hn rfl (by simp only [↓nrmL, nrmZ, Nat.reduceEqDiff, ↓reduceIte, hc2', k1, ht, List.map]; rfl) rfl ?hv fun _ _ => ?_; case hv => (simp only [hc2', k1, ht]; rfl))
   | refine nl hKF ?_
   | refine sq ?_
   | refine rg fun KF hKF => ?_
   | refine ct rfl ?_
   | refine cf rfl ?_
   | refine sk ?_
   | refine Wp.block ?_
  refine ⟨x + 1, by omega, ⟨by simp only [↓nrmL, nrmZ, Nat.reduceEqDiff, ↓reduceIte]; rw [hw3], trivial⟩, hxa, by rw [rowsP_skip hyb h0]; infer_instance, inferInstance, by rw [colsP_skip hxa h0]; infer_instance, inferInstance, Ext0.ext⟩
 ·rw [k1] at ht
  have h0 : pd l (y * a + x) = 1 := by unfold pd; rw [ht]; rfl
  have hs1 : IntKind.i64.wrap (rc l a y x + 1) = rc l a y x + pd l (y * a + x) := by rw [w64 (by omega), h0]
  have hs2 : IntKind.i64.wrap (cc l a x y + 1) = cc l a x y + pd l (y * a + x) := by rw [w64 (by omega), h0]
  repeat first
   | refine mI ?_
   | (refine mv ?_)
   | refine fd ?_
   | refine Fo.ld rfl rfl ?_
   | (refine Fo.ldN rfl rfl (by simp only [↓nrmL, nrmZ, Nat.reduceEqDiff, ↓reduceIte, hc2', k1, ht, hrg, hs1]; rfl) ?_)
   | (refine bn rfl rfl rfl (by simp only [hc2', k1, ht, hrg, hs1]; rfl) ?_)
   | (refine Fo.pcall (v' := ?_) hn rfl (by simp only [↓nrmL, nrmZ, Nat.reduceEqDiff, ↓reduceIte, hc2', k1, ht, hrg, hs1, List.map]; rfl) rfl ?hv fun _ _ => ?_; case hv => (simp only [hc2', k1, ht, hrg, hs1]; rfl))
   | (refine Fo.idx (by simp only [↓nrmL, nrmK, Nat.reduceEqDiff, ↓reduceIte]; rfl) rfl ?_ (by simp only [↓nrmL, nrmZ, Nat.reduceEqDiff, ↓reduceIte, hc2', k1, ht, hrg, hs1]; rfl) ?_; (focus omega))
   | (refine Fo.ldI rfl ?_ (by simp only [hc2', k1, ht, hrg, hs1]; rfl) ?_; (focus omega))
   | refine nl hKF ?_
   | refine sq ?_
   | refine rg fun KF hKF => ?_
   | refine ct rfl ?_
   | refine sk ?_
   | refine Wp.block ?_
  refine WpO.do' (WpX.stI (l := rowsP l a b y x) rfl rfl (by omega) fun H6 hb6 hw6 hx6 => ?_)
  rw [rowsP_set] at hb6
  simp only [↓nrmL, nrmZ, Nat.reduceEqDiff, ↓reduceIte, hcg, hs2]
  repeat first
   | refine mI ?_
   | (refine mv ?_)
   | (refine bn rfl rfl rfl (by simp only [hcg, hs2]; rfl) ?_)
   | (refine Fo.idx (by simp only [↓nrmL, nrmK, Nat.reduceEqDiff, ↓reduceIte]; rfl) rfl ?_ (by simp only [↓nrmL, nrmZ, Nat.reduceEqDiff, ↓reduceIte, hcg, hs2]; rfl) ?_; (focus omega))
   | (refine Fo.ldI rfl ?_ (by simp only [hcg, hs2]; rfl) ?_; (focus omega))
   | refine nl hKF ?_
   | refine rg fun KF hKF => ?_
  refine WpO.do' (WpX.stI (l := colsP l a y x) rfl rfl (by omega) fun H7 hb7 hw7 hx7 => ?_)
  rw [colsP_set] at hb7
  repeat first
   | refine mI ?_
   | refine b0 ?_
   | refine nl hKF ?_
   | refine rg fun KF hKF => ?_
  refine ⟨x + 1, by omega, ⟨by simp only [↓nrmL, nrmZ, Nat.reduceEqDiff, ↓reduceIte]; rw [hw3], trivial⟩, hxa, inferInstance, inferInstance, hb7, hw7, Ext0.ext⟩
end Go.Am
namespace Go.Am
open Go
attribute [local irreducible] Wp WpO WpX WpE
theorem getD_get {l : List Int} {i : Nat} (h : i < l.length) : l.getD i 0 = l[i] := by simp [h]
theorem rowsL_nn (l : List UInt8) (a b i : Nat) : 0 ≤ (rowsL l a b).getD i 0 := by
 by_cases h : i < b
 ·rw [rowsL, getD_mapA h]; exact (rc_bd l a i a).1
 ·rw [List.getD_eq_getElem?_getD, List.getElem?_eq_none (by simp [rowsL]; omega)]; decide
theorem colsL_nn (l : List UInt8) (a b i : Nat) : 0 ≤ (colsL l a b).getD i 0 := by
 by_cases h : i < a
 ·rw [colsL, getD_mapA h]; exact (cc_bd l a i b).1
 ·rw [List.getD_eq_getElem?_getD, List.getElem?_eq_none (by simp [colsL]; omega)]; decide
theorem K_refBox {a b : Nat} {p : AVal} {H : AHeap} {l : List UInt8} [hp : BytesI H p l] (ok : Ok a b l) : Con ext prog 5 70 [.agg [.int .i64 a, .int .i64 b, p]] H fun v H' => v = .agg [.int .i64 (extL (colsL l a b)).1, .int .i64 (extL (rowsL l a b)).1, .int .i64 (extL (colsL l a b)).2, .int .i64 (extL (rowsL l a b)).2] ∧ Ext H H' := by
 refine con_of (show prog 70 = some c70 from rfl) rfl rfl fun n hn => ?_
 haveI := hp.one
 have hwa := ok.wa
 have hhb := ok.hb
 have hs := rows_sum ok.len
 have hiff : (extL (rowsL l a b)).2 > 0 ↔ (extL (colsL l a b)).2 > 0 := by
  rw [ext_pos (rowsL_nn l a b), ext_pos (colsL_nn l a b), hs.1, hs.2]
 have rn := rowsL_nn l a b
 have cn := colsL_nn l a b
 have rl : (rowsL l a b).length = b := by simp [rowsL]
 have cl : (colsL l a b).length = a := by simp [colsL]
 have hcon : ∀ (K : AHeap) [BytesI K p l], Con ext prog 4 78 [.agg [.int .i64 a, .int .i64 b, p]] K fun v H' => Prof2 K H' v (rowsL l a b) (colsL l a b) := fun K _ => K_refProfile ok
 clear hs
 unfold extL at hiff ⊢
 generalize rowsL l a b = R at *
 generalize colsL l a b = C at *
 rw [rl, cl] at hiff ⊢
 obtain ⟨H0, hH0⟩ : ∃ H0 : AHeap, H.push (.row [.int .i64 a, .int .i64 b, p] true (2 * 29)) = H0 := ⟨_, rfl⟩
 haveI hrow : HasRow H0 H.n [.int .i64 a, .int .i64 b, p] true (2 * 29) := by rw [← hH0]; infer_instance
 haveI hpb : BytesI H0 p l := by rw [← hH0]; infer_instance
 haveI hx0 : Ext0 H H0 := by rw [← hH0]; infer_instance
 repeat first
  | (refine Fo.ldN rfl rfl (by simp only [↓nrmL, nrmZ, Nat.reduceEqDiff, ↓reduceIte]; rfl) ?_)
  | refine bA ?_
  | refine nw ?_
  | refine nl hKF ?_
  | refine sq ?_
  | refine rg fun KF hKF => ?_
 simp only [hH0]
 refine WpO.do (WpX.conD hn rfl rfl (by simp only [↓nrmL, nrmZ, Nat.reduceEqDiff, ↓reduceIte, List.map] <;> rfl) (hcon _) fun v H1 h5 => ?_)
 obtain ⟨q1, q2, e1, ⟨h1, hf1, hw1, hx1⟩, ⟨h2, hf2, hw2, hx2⟩⟩ := h5
 subst e1
 haveI : ExtI _ H1 := ⟨hx1⟩
 haveI := h1.one
 haveI := h2.one
 have hxH1 : Ext H H1 := Ext0.ext
 haveI : LeN H H1.n := ⟨hxH1.n⟩
 haveI hz1 : HasRow H1 H0.n [.int .i64 0, .int .i64 0, .int .i64 0, .int .i64 0] true (2 * 88) := inferInstance
 haveI : NeR H0.n H1.n := ⟨Nat.ne_of_lt hz1.lt⟩
 haveI : RowNe q1 H1.n := inferInstance
 haveI : RowNe q2 H1.n := inferInstance
 clear hcon
 repeat first
  | refine mT ?_
  | (refine mv ?_)
  | refine fd ?_
  | refine Fo.ld rfl rfl ?_
  | refine xt ?_
  | refine nw ?_
  | (refine Fo.now rfl rfl (by simp only [↓nrmL, nrmZ, Nat.reduceEqDiff, ↓reduceIte]; rfl) ?_)
  | (refine so rfl (rfl : _ = AVal.agg _) rfl rfl rfl (by simp only [↓nrmL, nrmZ, Nat.reduceEqDiff, ↓reduceIte]; rfl) ?_)
  | refine nl hKF ?_
  | refine sq ?_
  | refine rg fun KF hKF => ?_
  | refine Wp.block ?_
 refine Wp.loopS [16,17,18,19,20,21,22,23,24,25,26,27,28,29,30,31,32,33,34] (fun _ : Nat => []) (fun _ h H2 => h ≤ b ∧ (∀ i, h ≤ i → i < b → ¬ R.getD i 0 > 0) ∧ HasRow H2 H1.n [.int .i64 0, .int .i64 0, .int .i64 a, .int .i64 h] true (2 * 88) ∧ HasRow H2 H0.n [.int .i64 0, .int .i64 0, .int .i64 0, .int .i64 0] true (2 * 88) ∧ IntsI H2 q1 R ∧ IntsI H2 q2 C ∧ Ext H H2) (fun h => h) b rfl (fun _ => rfl) trivial ⟨Nat.le_refl _, fun i h1 h2 => by omega, inferInstance, inferInstance, inferInstance, inferInstance, Ext0.ext⟩ (by unfold fuel0 at hn; omega) ?_
 rintro h gg H2 ⟨hh, hall, hr2, hz2, hp2, hq2, hx2⟩
 haveI : ExtI H H2 := ⟨hx2⟩
 simp only [↓nrmL, nrmZ, Nat.reduceEqDiff, ↓reduceIte]
 cases hc : decide ((h : Int) > 0)
 ·have h0 : h = 0 := by have := of_decide_eq_false hc; omega
  have z1 : extF R b = (0, 0) := by
   rcases ext_char R b with ⟨e1, e2⟩ | ⟨f, g, e1, e2, e3, e4, e5, e6, e7⟩
   ·exact e2
   ·exact absurd e3 (hall f (by omega) (by omega))
  have z2 : extF C a = (0, 0) := by
   rcases ext_char C a with ⟨e1, e2⟩ | ⟨f, g, e1, e2, e3, e4, e5, e6, e7⟩
   ·exact e2
   ·have : (extF C a).2 > 0 := by rw [e7]; simp only; omega
    have := hiff.2 this
    rw [z1] at this
    exact absurd this (by decide)
  have hz : ((h : Int) == 0) = true := by rw [h0]; rfl
  repeat first
   | refine ox ?_
   | refine mB ?_
   | refine fd ?_
   | refine Fo.ld rfl rfl ?_
   | (refine bn rfl rfl rfl (by simp only [hc, hz]; rfl) ?_)
   | refine fB ?_
   | refine Fo.now rfl rfl rfl ?_
   | (refine so rfl (rfl : _ = AVal.agg _) rfl rfl rfl (by simp only [↓nrmL, nrmZ, Nat.reduceEqDiff, ↓reduceIte, hc, hz]; rfl) ?_)
   | refine nl hKF ?_
   | refine sq ?_
   | refine rg fun KF hKF => ?_
   | refine ct rfl ?_
   | refine cf rfl ?_
   | refine rt ?_
   | refine xi ?_
  refine rz trivial ?_
  refine ⟨?_, Ext0.ext⟩
  rw [z1, z2]
  rfl
 have hpos : h > 0 := by have := of_decide_eq_true hc; omega
 have hz : ((h : Int) == 0) = false := by simp; omega
 have hhr : h - 1 < R.length := by omega
 have e1 : IntKind.i64.wrap (0 + (h : Int)) = (h : Int) := by rw [w64 (by omega)]; omega
 have e1' : IntKind.i64.wrap (h : Int) = (h : Int) := w64 (by omega)
 have e2 : IntKind.i64.wrap ((h : Int) - 1) = ((h - 1 : Nat) : Int) := by rw [w64 (by omega)]; omega
 have hrh := rn (h - 1)
 rw [getD_get hhr] at hrh
 cases h0 : (R[h - 1] == 0)
 ·have h4 : ¬ R[h - 1] = 0 := by simpa using h0
  rcases ext_char R b with ⟨e3, _⟩ | ⟨f, g, e8, e9, e3, e4, e5, e6, e7⟩
  ·have := e3 (h - 1) (by omega)
   rw [getD_get hhr] at this
   omega
  have hgh : h = g + 1 := by
   by_cases q1 : g < h - 1
   ·have := e6 (h - 1) q1 (by omega)
    rw [getD_get hhr] at this
    omega
   ·by_cases q2 : h ≤ g
    ·exact absurd e4 (hall g q2 e9)
    ·omega
  have hC : (extF C a).2 > 0 := hiff.1 (by rw [e7]; simp only; omega)
  rcases ext_char C a with ⟨_, k2⟩ | ⟨f', g', k1, k2, k3, k4, k5, k6, k7⟩
  ·rw [k2] at hC; exact absurd hC (by decide)
  repeat first
   | refine oy ?_
   | refine mB ?_
   | (refine mv ?_)
   | refine fd ?_
   | refine Fo.ld rfl rfl ?_
   | (refine bn rfl rfl rfl (by simp only [hc, e1, e1', e2, h0, hz]; rfl) ?_)
   | refine tB ?_
   | (refine Fo.idx (by simp only [↓nrmL, nrmK, Nat.reduceEqDiff, ↓reduceIte]; rfl) rfl ?_ (by simp only [↓nrmL, nrmZ, Nat.reduceEqDiff, ↓reduceIte, hc, e1, e1', e2, h0, hz]; rfl) ?_; (focus omega))
   | (refine Fo.ldI rfl ?_ rfl ?_; (focus omega))
   | refine nl hKF ?_
   | refine sq ?_
   | refine rg fun KF hKF => ?_
   | refine cf rfl ?_
   | refine sk ?_
   | refine Wp.block ?_
   | refine xi ?_
  have hst : HasRow H2 H1.n [.int .i64 0, .int .i64 ((0 : Nat) : Int), .int .i64 a, .int .i64 ((g + 1 - 0 : Nat) : Int)] true (2 * 88) := by
   have e9 : ((g + 1 - 0 : Nat) : Int) = (h : Int) := by omega
   rw [e9]
   exact hr2
  refine Wp.loopS [39,40,41,42,43,44,45,46,47,48,49,50,51,52] (fun _ : Nat => []) (fun _ y H2 => y ≤ f ∧ HasRow H2 H1.n [.int .i64 0, .int .i64 y, .int .i64 a, .int .i64 ((g + 1 - y : Nat) : Int)] true (2 * 88) ∧ HasRow H2 H0.n [.int .i64 0, .int .i64 0, .int .i64 0, .int .i64 0] true (2 * 88) ∧ IntsI H2 q1 R ∧ IntsI H2 q2 C ∧ Ext H H2) (fun y => f - y) 0 rfl (fun _ => rfl) trivial ⟨Nat.zero_le _, hst, inferInstance, inferInstance, inferInstance, Ext0.ext⟩ (by unfold fuel0 at hn; omega) ?_
  rintro y gg H3 ⟨hy, hr3, hz3, hp3, hq3, hx3⟩
  haveI : ExtI H H3 := ⟨hx3⟩
  have hyb : y < R.length := by omega
  have hyw := wa1 (a := y) (by omega)
  have hdw : IntKind.i64.wrap (((g + 1 - y : Nat) : Int) - 1) = ((g + 1 - (y + 1) : Nat) : Int) := by rw [w64 (by omega)]; omega
  have hry := rn y
  rw [getD_get hyb] at hry
  simp only [↓nrmL, nrmZ, Nat.reduceEqDiff, ↓reduceIte]
  cases h2 : (R[y] == 0)
  ·have hyf : y = f := by
    have h4 : ¬ R[y] = 0 := by simpa using h2
    by_cases hh : y = f
    ·exact hh
    ·have := e5 y (by omega)
     rw [getD_get hyb] at this
     omega
   refine sq ?_
   refine sq ?_
   refine rg fun KF hKF => ?_
   refine mv ?_
   refine fd ?_
   refine Fo.ld rfl rfl ?_
   refine Fo.idx (by simp only [↓nrmL, nrmK, Nat.reduceEqDiff, ↓reduceIte]; rfl) rfl ?_ (by simp only [↓nrmL, nrmZ, Nat.reduceEqDiff, ↓reduceIte, h2]; rfl) ?_; (focus omega)
   refine Fo.ldI rfl ?_ rfl ?_; (focus omega)
   refine bn rfl rfl rfl (by simp only [h2]; rfl) ?_
   refine nl hKF ?_
   refine cf rfl ?_
   refine xi ?_
   refine sq ?_
   refine Wp.block ?_
   dsimp only [cond_true, cond_false]
   refine Wp.loopS [53,54,55,56,57,58,59,60,61,62,63,64,65,66] (fun _ : Nat => []) (fun _ w H2 => g' < w ∧ w ≤ a ∧ HasRow H2 H1.n [.int .i64 0, .int .i64 f, .int .i64 w, .int .i64 ((g + 1 - f : Nat) : Int)] true (2 * 88) ∧ HasRow H2 H0.n [.int .i64 0, .int .i64 0, .int .i64 0, .int .i64 0] true (2 * 88) ∧ IntsI H2 q1 R ∧ IntsI H2 q2 C ∧ Ext H H2) (fun w => w) a rfl (fun _ => rfl) trivial ⟨by omega, Nat.le_refl _, by rw [← hyf]; infer_instance, inferInstance, inferInstance, inferInstance, Ext0.ext⟩ (by unfold fuel0 at hn; omega) ?_
   rintro w gg H4 ⟨hw0, hwa2, hr4, hz4, hp4, hq4, hx4⟩
   haveI : ExtI H H4 := ⟨hx4⟩
   have hwc : w - 1 < C.length := by omega
   have e1 : IntKind.i64.wrap (0 + (w : Int)) = (w : Int) := by rw [w64 (by omega)]; omega
   have e1' : IntKind.i64.wrap (w : Int) = (w : Int) := w64 (by omega)
   have e2 : IntKind.i64.wrap ((w : Int) - 1) = ((w - 1 : Nat) : Int) := by rw [w64 (by omega)]; omega
   have hcw := cn (w - 1)
   rw [getD_get hwc] at hcw
   simp only [↓nrmL, nrmZ, Nat.reduceEqDiff, ↓reduceIte]
   cases h3 : (C[w - 1] == 0)
   ·have hwg : w = g' + 1 := by
     have h4 : ¬ C[w - 1] = 0 := by simpa using h3
     by_cases hh : w - 1 = g'
     ·omega
     ·have := k6 (w - 1) (by omega) (by omega)
      rw [getD_get hwc] at this
      omega
    repeat first
     | (refine mv ?_)
     | refine fd ?_
     | refine Fo.ld rfl rfl ?_
     | (refine bn rfl rfl rfl (by simp only [e1, e1', e2, h3]; rfl) ?_)
     | (refine Fo.idx (by simp only [↓nrmL, nrmK, Nat.reduceEqDiff, ↓reduceIte]; rfl) rfl ?_ (by simp only [↓nrmL, nrmZ, Nat.reduceEqDiff, ↓reduceIte, e1, e1', e2, h3]; rfl) ?_; (focus omega))
     | (refine Fo.ldI rfl ?_ rfl ?_; (focus omega))
     | refine nl hKF ?_
     | refine sq ?_
     | refine rg fun KF hKF => ?_
     | refine cf rfl ?_
     | refine Wp.block ?_
     | refine xi ?_
    have hst : HasRow H4 H1.n [.int .i64 ((0 : Nat) : Int), .int .i64 f, .int .i64 ((g' + 1 - 0 : Nat) : Int), .int .i64 ((g + 1 - f : Nat) : Int)] true (2 * 88) := by
     have e9 : ((g' + 1 - 0 : Nat) : Int) = (w : Int) := by omega
     rw [e9]
     exact hr4
    refine Wp.loopS [67,68,69,70,71,72,73,74,75,76,77,78,79,80] (fun _ : Nat => []) (fun _ x H2 => x ≤ f' ∧ HasRow H2 H1.n [.int .i64 x, .int .i64 f, .int .i64 ((g' + 1 - x : Nat) : Int), .int .i64 ((g + 1 - f : Nat) : Int)] true (2 * 88) ∧ HasRow H2 H0.n [.int .i64 0, .int .i64 0, .int .i64 0, .int .i64 0] true (2 * 88) ∧ IntsI H2 q1 R ∧ IntsI H2 q2 C ∧ Ext H H2) (fun x => f' - x) 0 rfl (fun _ => rfl) trivial ⟨Nat.zero_le _, hst, inferInstance, inferInstance, inferInstance, Ext0.ext⟩ (by unfold fuel0 at hn; omega) ?_
    rintro x gg H5 ⟨hx, hr5, hz5, hp5, hq5, hx5⟩
    haveI : ExtI H H5 := ⟨hx5⟩
    have hxa : x < C.length := by omega
    have hxw := wa1 (a := x) (by omega)
    have hdw : IntKind.i64.wrap (((g' + 1 - x : Nat) : Int) - 1) = ((g' + 1 - (x + 1) : Nat) : Int) := by rw [w64 (by omega)]; omega
    have hcx := cn x
    rw [getD_get hxa] at hcx
    simp only [↓nrmL, nrmZ, Nat.reduceEqDiff, ↓reduceIte]
    cases h3 : (C[x] == 0)
    ·have hxf : x = f' := by
      have h4 : ¬ C[x] = 0 := by simpa using h3
      by_cases hh : x = f'
      ·exact hh
      ·have := k5 x (by omega)
       rw [getD_get hxa] at this
       omega
     repeat first
      | (refine mv ?_)
      | refine fd ?_
      | refine Fo.ld rfl rfl ?_
      | (refine Fo.ldN rfl rfl (by simp only [↓nrmL, nrmZ, Nat.reduceEqDiff, ↓reduceIte, h3]; rfl) ?_)
      | (refine bn rfl rfl rfl (by simp only [h3]; rfl) ?_)
      | (refine Fo.idx (by simp only [↓nrmL, nrmK, Nat.reduceEqDiff, ↓reduceIte]; rfl) rfl ?_ (by simp only [↓nrmL, nrmZ, Nat.reduceEqDiff, ↓reduceIte, h3]; rfl) ?_; (focus omega))
      | (refine Fo.ldI rfl ?_ rfl ?_; (focus omega))
      | (refine so rfl (rfl : _ = AVal.agg _) rfl rfl rfl (by simp only [↓nrmL, nrmZ, Nat.reduceEqDiff, ↓reduceIte, h3]; rfl) ?_)
      | refine nl hKF ?_
      | refine sq ?_
      | refine rg fun KF hKF => ?_
      | refine cf rfl ?_
      | refine rt ?_
      | refine xi ?_
     refine rz trivial ?_
     refine ⟨?_, Ext0.ext⟩
     rw [k7, e7, hxf]
     simp only
     rw [show ((g' + 1 - f' : Nat) : Int) = (g' : Int) + 1 - f' by omega, show ((g + 1 - f : Nat) : Int) = (g : Int) + 1 - f by omega]
     rfl
    ·have h4 : C[x] = 0 := by simpa using h3
     have hxf : x < f' := by
      by_cases hh : x = f'
      ·rw [← hh, getD_get hxa] at k3; omega
      ·omega
     repeat first
      | (refine mv ?_)
      | refine fd ?_
      | refine Fo.ld rfl rfl ?_
      | (refine bn rfl rfl rfl (by simp only [h3, hxw, hdw]; rfl) ?_)
      | (refine Fo.idx (by simp only [↓nrmL, nrmK, Nat.reduceEqDiff, ↓reduceIte]; rfl) rfl ?_ (by simp only [↓nrmL, nrmZ, Nat.reduceEqDiff, ↓reduceIte, h3, hxw, hdw]; rfl) ?_; (focus omega))
      | (refine Fo.ldI rfl ?_ rfl ?_; (focus omega))
      | (refine so rfl (rfl : _ = AVal.int _ _) rfl rfl rfl (by simp only [↓nrmL, nrmZ, Nat.reduceEqDiff, ↓reduceIte, h3, hxw, hdw]; rfl) ?_)
      | refine nl hKF ?_
      | refine sq ?_
      | refine rg fun KF hKF => ?_
      | refine ct rfl ?_
      | refine sk ?_
      | refine Wp.block ?_
     refine ⟨x + 1, by omega, trivial, by omega, inferInstance, inferInstance, inferInstance, inferInstance, Ext0.ext⟩
   ·have h4 : C[w - 1] = 0 := by simpa using h3
    have hwg : g' < w - 1 := by
     by_cases hh : w - 1 = g'
     ·rw [← hh, getD_get hwc] at k4; omega
     ·omega
    repeat first
     | (refine mv ?_)
     | refine fd ?_
     | refine Fo.ld rfl rfl ?_
     | (refine bn rfl rfl rfl (by simp only [e1, e1', e2, h3]; rfl) ?_)
     | (refine Fo.idx (by simp only [↓nrmL, nrmK, Nat.reduceEqDiff, ↓reduceIte]; rfl) rfl ?_ (by simp only [↓nrmL, nrmZ, Nat.reduceEqDiff, ↓reduceIte, e1, e1', e2, h3]; rfl) ?_; (focus omega))
     | (refine Fo.ldI rfl ?_ rfl ?_; (focus omega))
     | (refine so rfl (rfl : _ = AVal.int _ _) rfl rfl rfl (by simp only [↓nrmL, nrmZ, Nat.reduceEqDiff, ↓reduceIte, e1, e1', e2, h3]; rfl) ?_)
     | refine nl hKF ?_
     | refine sq ?_
     | refine rg fun KF hKF => ?_
     | refine ct rfl ?_
     | refine sk ?_
     | refine Wp.block ?_
    refine ⟨w - 1, by omega, trivial, by omega, by omega, inferInstance, inferInstance, inferInstance, inferInstance, Ext0.ext⟩
  ·have h4 : R[y] = 0 := by simpa using h2
   have hyf : y < f := by
    by_cases hh : y = f
    ·rw [← hh, getD_get hyb] at e3; omega
    ·omega
   repeat first
    | (refine mv ?_)
    | refine fd ?_
    | refine Fo.ld rfl rfl ?_
    | (refine bn rfl rfl rfl (by simp only [h2, hyw, hdw]; rfl) ?_)
    | (refine Fo.idx (by simp only [↓nrmL, nrmK, Nat.reduceEqDiff, ↓reduceIte]; rfl) rfl ?_ (by simp only [↓nrmL, nrmZ, Nat.reduceEqDiff, ↓reduceIte, h2, hyw, hdw]; rfl) ?_; (focus omega))
    | (refine Fo.ldI rfl ?_ rfl ?_; (focus omega))
    | (refine so rfl (rfl : _ = AVal.int _ _) rfl rfl rfl (by simp only [↓nrmL, nrmZ, Nat.reduceEqDiff, ↓reduceIte, h2, hyw, hdw]; rfl) ?_)
    | refine nl hKF ?_
    | refine sq ?_
    | refine rg fun KF hKF => ?_
    | refine ct rfl ?_
    | refine sk ?_
    | refine Wp.block ?_
   refine ⟨y + 1, by omega, trivial, by omega, inferInstance, inferInstance, inferInstance, inferInstance, Ext0.ext⟩
 ·have h4 : R[h - 1] = 0 := by simpa using h0
  repeat first
   | refine oy ?_
   | refine mB ?_
   | (refine mv ?_)
   | refine fd ?_
   | refine Fo.ld rfl rfl ?_
   | (refine bn rfl rfl rfl (by simp only [hc, e1, e1', e2, h0]; rfl) ?_)
   | refine tB ?_
   | (refine Fo.idx (by simp only [↓nrmL, nrmK, Nat.reduceEqDiff, ↓reduceIte]; rfl) rfl ?_ (by simp only [↓nrmL, nrmZ, Nat.reduceEqDiff, ↓reduceIte, hc, e1, e1', e2, h0]; rfl) ?_; (focus omega))
   | (refine Fo.ldI rfl ?_ rfl ?_; (focus omega))
   | (refine so rfl (rfl : _ = AVal.int _ _) rfl rfl rfl (by simp only [↓nrmL, nrmZ, Nat.reduceEqDiff, ↓reduceIte, hc, e1, e1', e2, h0]; rfl) ?_)
   | refine nl hKF ?_
   | refine sq ?_
   | refine rg fun KF hKF => ?_
   | refine ct rfl ?_
   | refine sk ?_
   | refine Wp.block ?_
  refine ⟨h - 1, by omega, trivial, by omega, fun i q1 q2 => ?_, inferInstance, inferInstance, inferInstance, inferInstance, Ext0.ext⟩
  by_cases hi : i = h - 1
  ·rw [hi, getD_get hhr]; omega
  ·exact hall i (by omega) q2
end Go.Am
namespace Go.Am
open Go
def inkOf (n : Nat) (ps : List Nat) : List UInt8 := (List.range n).map fun j => if j ∈ ps then 1 else 0
theorem inkOf_length (n : Nat) (ps : List Nat) : (inkOf n ps).length = n := by simp [inkOf]
theorem inkOf_nil (n : Nat) : inkOf n [] = List.replicate n 0 := by
  unfold inkOf
  apply List.ext_getElem?
  intro k
  rw [List.getElem?_map, List.getElem?_replicate]
  by_cases h : k < n
  · rw [List.getElem?_range h, if_pos h]; rfl
  · rw [List.getElem?_eq_none (by simp; omega), if_neg h]; rfl
theorem inkOf_set {n k : Nat} (ps : List Nat) : (inkOf n ps).set k 1 = inkOf n (ps ++ [k]) := by
  unfold inkOf
  apply List.ext_getElem?
  intro j
  by_cases hj : j < n
  · by_cases hk : k = j
    · subst hk
      rw [List.getElem?_set_self (by simpa using hj), List.getElem?_map, List.getElem?_range hj]
      simp
    · rw [List.getElem?_set_ne hk, List.getElem?_map, List.getElem?_map, List.getElem?_range hj]
      have : ¬ j = k := fun q => hk q.symm
      simp [this]
  · rw [List.getElem?_eq_none (by simp; omega), List.getElem?_eq_none (by simp; omega)]
theorem inkOf_ok {a b : Nat} (ha : a ≤ 640) (hb : b ≤ 640) (ps : List Nat) : Ok a b (inkOf (a * b) ps) := by
  refine ⟨ha, hb, inkOf_length _ _, ?_⟩
  unfold pxOk inkOf
  rw [List.all_eq_true]
  intro x hx
  obtain ⟨j, _, rfl⟩ := List.mem_map.1 hx
  split <;> rfl
def pxr (l : List UInt8) (N : List Nat) (i k : Nat) : List Nat := (List.range k).filter fun j => l.getD j 0 == 1 && N.getD j 0 == i
theorem pxr_hit {l : List UInt8} {N : List Nat} {i k : Nat} (h : l.getD k 0 = 1) (g : N.getD k 0 = i) : pxr l N i (k + 1) = pxr l N i k ++ [k] := by
  have hb : (l.getD k 0 == 1 && N.getD k 0 == i) = true := by rw [h, g]; simp
  unfold pxr
  rw [List.range_succ, List.filter_append]
  simp only [List.filter_cons, hb, if_true, List.filter_nil]
theorem pxr_miss {l : List UInt8} {N : List Nat} {i k : Nat} (h : (l.getD k 0 == 1 && N.getD k 0 == i) = false) : pxr l N i (k + 1) = pxr l N i k := by
  unfold pxr
  rw [List.range_succ, List.filter_append]
  simp only [List.filter_cons, h, Bool.false_eq_true, if_false, List.filter_nil, List.append_nil]
theorem pxr_start {l : List UInt8} {N : List Nat} {i : Nat} (h : ∀ j, j < i → N.getD j 0 ≤ j) : pxr l N i i = [] := by
  unfold pxr
  rw [List.filter_eq_nil_iff]
  intro j hj
  have := List.mem_range.1 hj
  have := h j this
  have : (N.getD j 0 == i) = false := beq_eq_false_iff_ne.2 (by omega)
  rw [this, Bool.and_false]; decide
theorem pxr_le (l : List UInt8) (N : List Nat) (i k : Nat) : (pxr l N i k).length ≤ k := by
  unfold pxr
  exact Nat.le_trans (List.length_filter_le _ _) (by simp)
def fls (l : List UInt8) (N : List Nat) (i : Nat) : List Nat := (List.range i).filter fun m => l.getD m 0 == 1 && N.getD m 0 == m
theorem fls_hit {l : List UInt8} {N : List Nat} {i : Nat} (h : l.getD i 0 = 1) (g : N.getD i 0 = i) : fls l N (i + 1) = fls l N i ++ [i] := by
  have hb : (l.getD i 0 == 1 && N.getD i 0 == i) = true := by rw [h, g]; simp
  unfold fls
  rw [List.range_succ, List.filter_append]
  simp only [List.filter_cons, hb, if_true, List.filter_nil]
theorem fls_miss {l : List UInt8} {N : List Nat} {i : Nat} (h : (l.getD i 0 == 1 && N.getD i 0 == i) = false) : fls l N (i + 1) = fls l N i := by
  unfold fls
  rw [List.range_succ, List.filter_append]
  simp only [List.filter_cons, h, Bool.false_eq_true, if_false, List.filter_nil, List.append_nil]
theorem fls_le (l : List UInt8) (N : List Nat) (i : Nat) : (fls l N i).length ≤ i := by
  unfold fls
  exact Nat.le_trans (List.length_filter_le _ _) (by simp)
def boxR (l : List UInt8) (a b : Nat) : Bx := ⟨(extL (colsL l a b)).1, (extL (rowsL l a b)).1, (extL (colsL l a b)).2, (extL (rowsL l a b)).2⟩
theorem cellsC_snoc (C : List (Bx × AVal)) (c : Bx × AVal) : cellsC (C ++ [c]) = cellsC C ++ (c.1.cells ++ [c.2]) := by
  induction C with
  | nil => rfl
  | cons d C ih => show (d.1.cells ++ [d.2]) ++ cellsC (C ++ [c]) = ((d.1.cells ++ [d.2]) ++ cellsC C) ++ (c.1.cells ++ [c.2]); rw [ih]; simp only [List.append_assoc]
structure RefC (K H : AHeap) (l : List UInt8) (N : List Nat) (a b i : Nat) (o : AVal) (C : List (Bx × AVal)) : Prop where
  own : OwnS H o 5 C.length (cellsC C) 91
  fresh : FreshS K o
  num : C.length = (fls l N i).length
  box : ∀ (k : Nat) c m, C[k]? = some c → (fls l N i)[k]? = some m → c.1 = boxR (inkOf (a * b) (pxr l N m (a * b))) a b
  px : ∀ (k : Nat) c m, C[k]? = some c → (fls l N i)[k]? = some m → SliceAt H c.2 2 (pxr l N m (a * b)).length (cellsK a (pxr l N m (a * b)))
  sep : ∀ (k : Nat) c, C[k]? = some c → SepS c.2 o
  fr : ∀ (k : Nat) c, C[k]? = some c → FreshS K c.2
theorem RefC.begin {K H : AHeap} {l : List UInt8} {N : List Nat} {a b : Nat} : RefC K H l N a b 0 .nslice [] :=
  ⟨⟨Or.inl ⟨rfl, rfl, rfl⟩⟩, ⟨fun _ _ _ _ _ q => by cases q⟩, rfl, fun k c m h => (by simp at h), fun k c m h => (by simp at h), fun k c h => (by simp at h), fun k c h => (by simp at h)⟩
theorem RefC.skip {K H : AHeap} {l : List UInt8} {N : List Nat} {a b i : Nat} {o : AVal} {C : List (Bx × AVal)} (h : RefC K H l N a b i o C) (g : (l.getD i 0 == 1 && N.getD i 0 == i) = false) : RefC K H l N a b (i + 1) o C := by
  obtain ⟨h1, h2, h3, h4, h5, h6, h7⟩ := h
  exact ⟨h1, h2, by rw [fls_miss g]; exact h3, by rw [fls_miss g]; exact h4, by rw [fls_miss g]; exact h5, h6, h7⟩
theorem RefC.ext {K H H' : AHeap} {l : List UInt8} {N : List Nat} {a b i : Nat} {o : AVal} {C : List (Bx × AVal)} (h : RefC K H l N a b i o C) (x : Ext H H') : RefC K H' l N a b i o C := by
  obtain ⟨h1, h2, h3, h4, h5, h6, h7⟩ := h
  haveI : ExtI H H' := ⟨x⟩
  exact ⟨inferInstance, h2, h3, h4, fun k c m q r => by haveI := h5 k c m q r; infer_instance, h6, h7⟩
theorem snoc_at {α : Type} {C : List α} {x y : α} {k : Nat} (h : (C ++ [x])[k]? = some y) : (k < C.length ∧ C[k]? = some y) ∨ (k = C.length ∧ y = x) := by
  by_cases hk : k < C.length
  · rw [List.getElem?_append_left hk] at h; exact Or.inl ⟨hk, h⟩
  · rw [List.getElem?_append_right (by omega)] at h
    cases hj : k - C.length with
    | zero => rw [hj] at h; simp at h; exact Or.inr ⟨by omega, h.symm⟩
    | succ j => rw [hj] at h; simp at h
theorem RefC.next {K H H' : AHeap} {l : List UInt8} {N : List Nat} {a b i : Nat} {o o' pl : AVal} {C : List (Bx × AVal)} {bx : Bx} (h : RefC K H l N a b i o C) (hl : l.getD i 0 = 1) (hN : N.getD i 0 = i) (ho : OwnS H' o' 5 (C.length + 1) (cellsC C ++ (bx.cells ++ [pl])) 91) (hf : FreshS H o') (hK : Ext K H ∨ FreshS K o') (hx : ExtP H H' o) (hb : bx = boxR (inkOf (a * b) (pxr l N i (a * b))) a b)
    (hp : SliceAt H pl 2 (pxr l N i (a * b)).length (cellsK a (pxr l N i (a * b)))) (hs : SepS pl o) (hg : FreshS K pl) : RefC K H' l N a b (i + 1) o' (C ++ [(bx, pl)]) := by
  refine ⟨by rw [List.length_append, List.length_singleton, cellsC_snoc]; exact ho, ?_, by rw [fls_hit hl hN, List.length_append, List.length_append, h.num]; rfl, fun k c m h1 h2 => ?_, fun k c m h1 h2 => ?_, fun k c h1 => ?_, fun k c h1 => ?_⟩
  · rcases hK with hK | hK
    · exact ⟨fun _ _ _ _ _ q => Nat.le_trans hK.n (hf.ge _ _ _ _ _ q)⟩
    · exact hK
  · rw [fls_hit hl hN] at h2
    rcases snoc_at h1 with ⟨q1, h1⟩ | ⟨q1, rfl⟩
    · rcases snoc_at h2 with ⟨_, h2⟩ | ⟨q2, _⟩
      · exact h.box k c m h1 h2
      · rw [q2, ← h.num] at q1; exact absurd q1 (Nat.lt_irrefl _)
    · rcases snoc_at h2 with ⟨q2, _⟩ | ⟨_, rfl⟩
      · rw [q1, h.num] at q2; exact absurd q2 (Nat.lt_irrefl _)
      · exact hb
  · rw [fls_hit hl hN] at h2
    rcases snoc_at h1 with ⟨q1, h1⟩ | ⟨q1, rfl⟩
    · rcases snoc_at h2 with ⟨_, h2⟩ | ⟨q2, _⟩
      · haveI := h.px k c m h1 h2
        haveI := h.sep k c h1
        infer_instance
      · rw [q2, ← h.num] at q1; exact absurd q1 (Nat.lt_irrefl _)
    · rcases snoc_at h2 with ⟨q2, _⟩ | ⟨_, rfl⟩
      · rw [q1, h.num] at q2; exact absurd q2 (Nat.lt_irrefl _)
      · infer_instance
  · rcases snoc_at h1 with ⟨q1, h1⟩ | ⟨q1, rfl⟩
    · obtain ⟨m, h2⟩ : ∃ m, (fls l N i)[k]? = some m := ⟨_, List.getElem?_eq_getElem (by rw [← h.num]; exact q1)⟩
      haveI := h.px k c m h1 h2
      infer_instance
    · infer_instance
  · rcases snoc_at h1 with ⟨_, h1⟩ | ⟨_, rfl⟩
    · exact h.fr k c h1
    · exact hg
instance {H : AHeap} {r : Nat} {c0 c1 : AVal} {rw : Bool} {e : TypeId} [h : HasRow H r [c0, c1] rw e] : SliceAt H (.slice r 0 1 (some 1) 2) 2 1 [c0, c1] := ⟨Or.inr ⟨r, 0, some 1, _, rw, e, rfl, h.lt, h.get, Nat.le_refl _, rfl, Nat.le_refl _⟩⟩
instance {H : AHeap} {r : Nat} {c0 c1 c2 c3 c4 : AVal} {rw : Bool} {e : TypeId} [h : HasRow H r [c0, c1, c2, c3, c4] rw e] : SliceAt H (.slice r 0 1 (some 1) 5) 5 1 [c0, c1, c2, c3, c4] := ⟨Or.inr ⟨r, 0, some 1, _, rw, e, rfl, h.lt, h.get, Nat.le_refl _, rfl, Nat.le_refl _⟩⟩
theorem exec_stO {call : ACall} {fr : AFrame} {H : AHeap} {a x : ROpd} {r off : Nat} {cs l : List AVal} {e : TypeId} {v : AVal} (ha : a.ev fr = .ptr r off) (hx : x.ev fr = v) [o : OneV v] [hg : HasRow H r cs true e] (hl : Nat.ble (off + 1) cs.length = true) (hs : cs.set off v = l) : (ROp.store 1 a x).exec call fr H = some (aundef, H.set r (.row l true e)) := by
  obtain ⟨u, H1, q1, rfl, rfl⟩ := WpX.store (call := call) (fr := fr) (H := H) (n := 1) (K := fun u H1 => u = aundef ∧ H1 = H.set r (.row (setAt cs off v.cells) true e)) ha hx (by rw [o.cells]; rfl) hg.lt hg.get (by rw [o.cells]; exact Nat.le_of_ble_eq_true hl) (by rw [o.cells, List.all_cons, o.one]; rfl) ⟨rfl, rfl⟩
  rw [o.cells, setAt_one, hs] at q1
  exact q1
theorem inc_eq : ∀ {l m : List Nat}, l.Pairwise (· < ·) → m.Pairwise (· < ·) → (∀ x, x ∈ l ↔ x ∈ m) → l = m
  | [], [], _, _, _ => rfl
  | [], y :: m, _, _, h => by have := (h y).2 (List.mem_cons_self ..); cases this
  | x :: l, [], _, _, h => by have := (h x).1 (List.mem_cons_self ..); cases this
  | x :: l, y :: m, h1, h2, h => by
    rw [List.pairwise_cons] at h1 h2
    have hxy : x = y := by
      rcases List.mem_cons.1 ((h x).1 (List.mem_cons_self ..)) with q | q
      · exact q
      · rcases List.mem_cons.1 ((h y).2 (List.mem_cons_self ..)) with r | r
        · exact r.symm
        · have := h2.1 x q; have := h1.1 y r; omega
    subst hxy
    rw [inc_eq h1.2 h2.2 fun z => ?_]
    constructor
    · intro hz
      rcases List.mem_cons.1 ((h z).1 (List.mem_cons_of_mem _ hz)) with q | q
      · have := h1.1 z hz; omega
      · exact q
    · intro hz
      rcases List.mem_cons.1 ((h z).2 (List.mem_cons_of_mem _ hz)) with q | q
      · have := h2.1 z hz; omega
      · exact q
theorem inc_inj {L : List Nat} (h : L.Pairwise (· < ·)) {i k m : Nat} (h1 : L[i]? = some m) (h2 : L[k]? = some m) : i = k := by
  obtain ⟨g1, e1⟩ := List.getElem?_eq_some_iff.1 h1
  obtain ⟨g2, e2⟩ := List.getElem?_eq_some_iff.1 h2
  rw [List.pairwise_iff_getElem] at h
  rcases Nat.lt_trichotomy i k with q | q | q
  · have := h i k g1 g2 q; omega
  · exact q
  · have := h k i g2 g1 q; omega
section
variable {l : List UInt8} {a b : Nat} {e : Bool} {M L N : List Nat}
theorem fls_inc (l : List UInt8) (N : List Nat) (i : Nat) : (fls l N i).Pairwise (· < ·) := by
  unfold fls
  exact List.Pairwise.filter _ List.pairwise_lt_range
theorem fls_eq (h : Lab l a b e M L (a * b)) (hld : ∀ i, i < a * b → l.getD i 0 = 1 → Lead l a b e i (N.getD i 0)) : L = fls l N (a * b) := by
  refine inc_eq h.inc (fls_inc _ _ _) fun m => ?_
  unfold fls
  rw [List.mem_filter, List.mem_range, Bool.and_eq_true, beq_iff_eq, beq_iff_eq]
  constructor
  · intro hm
    obtain ⟨h1, h2⟩ := h.lead m hm
    have h3 := h2.1.start_ok.2
    exact ⟨h1, h3, (hld m h1 h3).unique h2⟩
  · rintro ⟨h1, h2, h3⟩
    have h4 := hld m h1 h2
    rw [h3] at h4
    obtain ⟨m', h5, h6⟩ := h.num m (h.seen m h1 h2)
    have h7 := (h.lead m' (List.mem_of_getElem? h5)).2
    have h8 : m' = m := (h7.same h6).unique h4
    rw [← h8]; exact List.mem_of_getElem? h5
theorem pxs_eq (h : Lab l a b e M L (a * b)) (hld : ∀ i, i < a * b → l.getD i 0 = 1 → Lead l a b e i (N.getD i 0)) {k m : Nat} (hk : L[k]? = some m) : pxs M (a * b) k = pxr l N m (a * b) := by
  unfold pxs pxr
  apply List.filter_congr
  intro j hj
  have hj := List.mem_range.1 hj
  have hm := (h.lead m (List.mem_of_getElem? hk)).2
  rw [Bool.eq_iff_iff, Bool.and_eq_true, beq_iff_eq, beq_iff_eq, beq_iff_eq]
  constructor
  · intro q
    obtain ⟨m', h5, h6⟩ := h.num j (by omega)
    rw [q, Nat.add_sub_cancel, hk] at h5
    cases h5
    have h7 := h6.end_ok.2
    exact ⟨h7, (hld j hj h7).unique (hm.same h6)⟩
  · rintro ⟨q1, q2⟩
    have h4 := hld j hj q1
    rw [q2] at h4
    have h0 := h.seen j hj q1
    obtain ⟨m', h5, h6⟩ := h.num j h0
    have h7 := (h.lead m' (List.mem_of_getElem? h5)).2
    have h8 : m' = m := (h7.same h6).unique h4
    subst h8
    have := inc_inj h.inc h5 hk
    omega
theorem pxr_ne (hld : ∀ i, i < a * b → l.getD i 0 = 1 → Lead l a b e i (N.getD i 0)) {k m : Nat} (hk : (fls l N (a * b))[k]? = some m) : pxr l N m (a * b) ≠ [] ∧ ∀ j ∈ pxr l N m (a * b), j < a * b := by
  have hm := List.mem_of_getElem? hk
  unfold fls at hm
  rw [List.mem_filter, List.mem_range, Bool.and_eq_true, beq_iff_eq, beq_iff_eq] at hm
  refine ⟨fun q => ?_, fun j hj => ?_⟩
  · have : m ∈ pxr l N m (a * b) := by
      unfold pxr
      rw [List.mem_filter, List.mem_range, Bool.and_eq_true, beq_iff_eq, beq_iff_eq]
      exact hm
    rw [q] at this; cases this
  · unfold pxr at hj
    exact List.mem_range.1 (List.mem_filter.1 hj).1
end
def Span (f : Nat → Nat) (ps : List Nat) (lo hi : Nat) : Prop := (∀ k ∈ ps, lo ≤ f k ∧ f k ≤ hi) ∧ (∃ k ∈ ps, f k = lo) ∧ ∃ k ∈ ps, f k = hi
theorem Span.unique {f : Nat → Nat} {ps : List Nat} {lo hi lo' hi' : Nat} (h : Span f ps lo hi) (g : Span f ps lo' hi') : lo = lo' ∧ hi = hi' := by
  obtain ⟨h1, ⟨k1, m1, e1⟩, ⟨k2, m2, e2⟩⟩ := h
  obtain ⟨g1, ⟨j1, n1, d1⟩, ⟨j2, n2, d2⟩⟩ := g
  have := h1 j1 n1; have := h1 j2 n2; have := g1 k1 m1; have := g1 k2 m2
  omega
theorem Span.snoc {f : Nat → Nat} {ps : List Nat} {lo hi : Nat} (h : Span f ps lo hi) (k : Nat) : Span f (ps ++ [k]) (min lo (f k)) (max hi (f k)) := by
  obtain ⟨h1, ⟨k1, m1, e1⟩, ⟨k2, m2, e2⟩⟩ := h
  refine ⟨fun j hj => ?_, ?_, ?_⟩
  · rcases List.mem_append.1 hj with q | q
    · have := h1 j q; omega
    · rw [List.mem_singleton] at q; subst q; omega
  · by_cases q : lo ≤ f k
    · exact ⟨k1, List.mem_append_left _ m1, by omega⟩
    · exact ⟨k, List.mem_append_right _ (List.mem_singleton.2 rfl), by omega⟩
  · by_cases q : f k ≤ hi
    · exact ⟨k2, List.mem_append_left _ m2, by omega⟩
    · exact ⟨k, List.mem_append_right _ (List.mem_singleton.2 rfl), by omega⟩
theorem str_nat {lo hi p : Nat} (h : lo ≤ hi) (h1 : hi < 409600) (h2 : p < 409600) : strX (lo : Int) (p : Int) = ((min lo p : Nat) : Int) ∧ strW (lo : Int) ((hi : Int) + 1 - lo) (p : Int) = ((max hi p : Nat) : Int) + 1 - ((min lo p : Nat) : Int) := by
  have e1 : strX (lo : Int) (p : Int) = ((min lo p : Nat) : Int) := by
    unfold strX
    by_cases q : (p : Int) < (lo : Int)
    · rw [if_pos q]; omega
    · rw [if_neg q]; omega
  refine ⟨e1, ?_⟩
  unfold strW
  rw [e1, w64 (show _ ≤ (p : Int) + 1 ∧ _ by omega), w64 (show _ ≤ (lo : Int) + ((hi : Int) + 1 - lo) ∧ _ by omega)]
  by_cases q : (p : Int) + 1 > (lo : Int) + ((hi : Int) + 1 - lo)
  · rw [if_pos q, w64 (by omega)]; omega
  · rw [if_neg q, w64 (by omega)]; omega
theorem bxL_span {a b : Nat} (hab : a * b ≤ 409600) : ∀ {n : Nat} {ps : List Nat}, ps.length = n → ps ≠ [] → (∀ j ∈ ps, j < a * b) → ∃ x1 x2 y1 y2 : Nat, Span (· % a) ps x1 x2 ∧ Span (· / a) ps y1 y2 ∧ x1 ≤ x2 ∧ x2 < 409600 ∧ y1 ≤ y2 ∧ y2 < 409600 ∧ bxL a ps = ⟨x1, y1, (x2 : Int) + 1 - x1, (y2 : Int) + 1 - y1⟩ := by
  intro n
  induction n with
  | zero => intro ps h1 h2; exact absurd (List.eq_nil_of_length_eq_zero h1) h2
  | succ n ih =>
    intro ps h1 _ h3
    rcases snoc_cases ps with rfl | ⟨qs, k, rfl⟩
    · simp at h1
    rw [List.length_append, List.length_singleton] at h1
    have hk : k < a * b := h3 k (List.mem_append_right _ (List.mem_singleton.2 rfl))
    have hm : k % a ≤ k := Nat.mod_le _ _
    have hd : k / a ≤ k := Nat.div_le_self _ _
    rw [bxL_snoc]
    by_cases hq : qs = []
    · subst hq
      refine ⟨k % a, k % a, k / a, k / a, ⟨fun j hj => ?_, ⟨k, List.mem_singleton.2 rfl, rfl⟩, ⟨k, List.mem_singleton.2 rfl, rfl⟩⟩, ⟨fun j hj => ?_, ⟨k, List.mem_singleton.2 rfl, rfl⟩, ⟨k, List.mem_singleton.2 rfl, rfl⟩⟩, Nat.le_refl _, by omega, Nat.le_refl _, by omega, ?_⟩
      · rw [List.nil_append, List.mem_singleton] at hj; subst hj; exact ⟨Nat.le_refl _, Nat.le_refl _⟩
      · rw [List.nil_append, List.mem_singleton] at hj; subst hj; exact ⟨Nat.le_refl _, Nat.le_refl _⟩
      · have e1 : ((k % a : Nat) : Int) + 1 - ((k % a : Nat) : Int) = 1 := by omega
        have e2 : ((k / a : Nat) : Int) + 1 - ((k / a : Nat) : Int) = 1 := by omega
        rw [e1, e2]; rfl
    · obtain ⟨x1, x2, y1, y2, s1, s2, b1, b2, b3, b4, e⟩ := ih (by omega) hq fun j hj => h3 j (List.mem_append_left _ hj)
      refine ⟨min x1 (k % a), max x2 (k % a), min y1 (k / a), max y2 (k / a), s1.snoc k, s2.snoc k, by omega, by omega, by omega, by omega, ?_⟩
      rw [e]
      have hw : ((x2 : Int) + 1 - (x1 : Int) == 0) = false := beq_eq_false_iff_ne.2 (by omega)
      obtain ⟨g1, g2⟩ := str_nat (p := k % a) b1 b2 (by omega)
      obtain ⟨g3, g4⟩ := str_nat (p := k / a) b3 b4 (by omega)
      unfold bxS
      simp only [hw, cond_false, g1, g2, g3, g4]
theorem inkOf_get {n j : Nat} {ps : List Nat} : (inkOf n ps).getD j 0 = 1 ↔ j < n ∧ j ∈ ps := by
  unfold inkOf
  rw [List.getD_eq_getElem?_getD, List.getElem?_map]
  by_cases h : j < n
  · rw [List.getElem?_range h]
    by_cases q : j ∈ ps <;> simp [h, q]
  · rw [List.getElem?_eq_none (by simp; omega)]; simp [h]
theorem filter_pos {P : Nat → Bool} {n : Nat} : ((((List.range n).filter P).length : Nat) : Int) > 0 ↔ ∃ v, v < n ∧ P v = true := by
  have h : 0 < ((List.range n).filter P).length ↔ ∃ v, v < n ∧ P v = true := by
    rw [List.length_pos_iff_exists_mem]
    constructor
    · rintro ⟨v, hv⟩
      rw [List.mem_filter, List.mem_range] at hv
      exact ⟨v, hv⟩
    · rintro ⟨v, hv⟩
      exact ⟨v, by rw [List.mem_filter, List.mem_range]; exact hv⟩
  rw [← h]; omega
theorem getD_mapR {f : Nat → Int} {n i : Nat} : ((List.range n).map f).getD i 0 = if i < n then f i else 0 := by
  rw [List.getD_eq_getElem?_getD, List.getElem?_map]
  by_cases h : i < n
  · rw [List.getElem?_range h, if_pos h]; rfl
  · rw [List.getElem?_eq_none (by simp; omega), if_neg h]; rfl
theorem cols_pos {a b i : Nat} {ps : List Nat} (hps : ∀ j ∈ ps, j < a * b) : (colsL (inkOf (a * b) ps) a b).getD i 0 > 0 ↔ i < a ∧ ∃ j ∈ ps, j % a = i := by
  unfold colsL
  rw [getD_mapR]
  by_cases h : i < a
  · rw [if_pos h]
    unfold cc
    rw [filter_pos]
    constructor
    · rintro ⟨v, hv, hq⟩
      have := inkOf_get.1 (eq_of_beq hq)
      exact ⟨h, v * a + i, this.2, (at_div (v := v) h).1⟩
    · rintro ⟨_, j, hj, hm⟩
      have hlt := hps j hj
      obtain ⟨_, h1, h2, h3⟩ := div_lt hlt
      refine ⟨j / a, h2, ?_⟩
      have e : j / a * a + i = j := by rw [← hm]; exact h3.symm
      rw [e]
      have := inkOf_get.2 ⟨hlt, hj⟩
      rw [this]; rfl
  · rw [if_neg h]
    exact ⟨fun q => absurd q (by decide), fun q => absurd q.1 h⟩
theorem rows_pos {a b i : Nat} {ps : List Nat} (hps : ∀ j ∈ ps, j < a * b) : (rowsL (inkOf (a * b) ps) a b).getD i 0 > 0 ↔ i < b ∧ ∃ j ∈ ps, j / a = i := by
  unfold rowsL
  rw [getD_mapR]
  by_cases h : i < b
  · rw [if_pos h]
    unfold rc
    rw [filter_pos]
    constructor
    · rintro ⟨v, hv, hq⟩
      have := inkOf_get.1 (eq_of_beq hq)
      exact ⟨h, i * a + v, this.2, (at_div (v := i) hv).2⟩
    · rintro ⟨_, j, hj, hm⟩
      have hlt := hps j hj
      obtain ⟨_, h1, h2, h3⟩ := div_lt hlt
      refine ⟨j % a, h1, ?_⟩
      have e : i * a + j % a = j := by rw [← hm]; exact h3.symm
      rw [e]
      have := inkOf_get.2 ⟨hlt, hj⟩
      rw [this]; rfl
  · rw [if_neg h]
    exact ⟨fun q => absurd q (by decide), fun q => absurd q.1 h⟩
theorem ext_span {p : List Int} {n : Nat} {f : Nat → Nat} {ps : List Nat} (hl : p.length = n) (hne : ps ≠ []) (hf : ∀ j ∈ ps, f j < n) (hp : ∀ i, p.getD i 0 > 0 ↔ i < n ∧ ∃ j ∈ ps, f j = i) : ∃ lo hi : Nat, Span f ps lo hi ∧ lo ≤ hi ∧ extL p = ((lo : Int), (hi : Int) + 1 - lo) := by
  obtain ⟨j0, hj0⟩ := List.exists_mem_of_ne_nil ps hne
  unfold extL
  rw [hl]
  rcases ext_char p n with ⟨h, _⟩ | ⟨lo, hi, h1, h2, h3, h4, h5, h6, h7⟩
  · exact absurd ((hp (f j0)).2 ⟨hf j0 hj0, j0, hj0, rfl⟩) (h _ (hf j0 hj0))
  · refine ⟨lo, hi, ⟨fun k hk => ?_, ?_, ?_⟩, h1, h7⟩
    · have hk1 := (hp (f k)).2 ⟨hf k hk, k, hk, rfl⟩
      refine ⟨Nat.le_of_not_lt fun q => h5 _ q hk1, Nat.le_of_not_lt fun q => h6 _ q (hf k hk) hk1⟩
    · obtain ⟨_, j, hj, e⟩ := (hp lo).1 h3; exact ⟨j, hj, e⟩
    · obtain ⟨_, j, hj, e⟩ := (hp hi).1 h4; exact ⟨j, hj, e⟩
theorem boxR_eq {a b : Nat} (hab : a * b ≤ 409600) {ps : List Nat} (hne : ps ≠ []) (hps : ∀ j ∈ ps, j < a * b) : boxR (inkOf (a * b) ps) a b = bxL a ps := by
  obtain ⟨x1, x2, y1, y2, s1, s2, b1, b2, b3, b4, e⟩ := bxL_span hab rfl hne hps
  obtain ⟨u1, u2, t1, _, e1⟩ := ext_span (p := colsL (inkOf (a * b) ps) a b) (n := a) (f := (· % a)) (by simp [colsL]) hne (fun j hj => (div_lt (hps j hj)).2.1) fun i => cols_pos hps
  obtain ⟨v1, v2, t2, _, e2⟩ := ext_span (p := rowsL (inkOf (a * b) ps) a b) (n := b) (f := (· / a)) (by simp [rowsL]) hne (fun j hj => (div_lt (hps j hj)).2.2.1) fun i => rows_pos hps
  obtain ⟨rfl, rfl⟩ := s1.unique t1
  obtain ⟨rfl, rfl⟩ := s2.unique t2
  unfold boxR
  rw [e, e1, e2]
end Go.Am
namespace Go.Am
open Go
attribute [local irreducible] Wp WpO WpX WpE
theorem cellsK_length (a : Nat) (l : List Nat) : (cellsK a l).length = l.length * 2 := by
 induction l with
 | nil => rfl
 | cons k l ih => simp only [cellsK, List.flatMap_cons, List.length_append, List.length_cons, List.length_nil] at ih ⊢; omega
theorem cellsK_at {a : Nat} {l : List Nat} {i : Nat} (h : i < l.length) : ((cellsK a l).drop (i * 2)).take 2 = [.int .i64 ((l[i] % a : Nat) : Int), .int .i64 ((l[i] / a : Nat) : Int)] := by
 induction l generalizing i with
 | nil => simp at h
 | cons k l ih =>
  cases i with
  | zero => simp [cellsK]
  | succ i =>
   have : (cellsK a (k :: l)).drop ((i + 1) * 2) = (cellsK a l).drop (i * 2) := by
    rw [show (i + 1) * 2 = 2 + i * 2 by omega, ← List.drop_drop]
    simp [cellsK]
   rw [this]
   simpa using ih (by simpa using h)
theorem cellsC_all {C : List (Bx × AVal)} {k : Nat} {c : Bx × AVal} (h : C[k]? = some c) : ((cellsC C).drop (k * 5)).take 5 = c.1.cells ++ [c.2] := by
 obtain ⟨r, hr⟩ := cellsC_drop C k c h
 rw [hr]; rfl
class Few6 (n : Nat) : Prop where
 le : n ≤ 409600
structure CL (H : AHeap) (q : AVal) (a : Nat) (C : List (Bx × AVal)) (P : List (List Nat)) : Prop where
 row : SliceAt H q 5 C.length (cellsC C)
 len : C.length = P.length
 it : ∀ (k : Nat) c l, C[k]? = some c → P[k]? = some l → c.1 = bxL a l ∧ SliceAt H c.2 2 l.length (cellsK a l)
 few : P.length ≤ 409600 ∧ ∀ l ∈ P, l.length ≤ 409600
theorem CL.ext {H H' : AHeap} {q : AVal} {a : Nat} {C : List (Bx × AVal)} {P : List (List Nat)} (h : CL H q a C P) (x : Ext H H') : CL H' q a C P := by
 haveI : ExtI H H' := ⟨x⟩
 haveI := h.row
 exact ⟨inferInstance, h.len, fun k c l h1 h2 => by
  obtain ⟨h3, h4⟩ := h.it k c l h1 h2
  exact ⟨h3, inferInstance⟩, h.few⟩
theorem CL.at {H : AHeap} {q : AVal} {a : Nat} {C : List (Bx × AVal)} {P : List (List Nat)} (h : CL H q a C P) {k : Nat} (hk : k < P.length) : ∃ p, C[k]? = some (bxL a P[k], p) ∧ SliceAt H p 2 P[k].length (cellsK a P[k]) ∧ P[k].length ≤ 409600 := by
 have hC : k < C.length := by rw [h.len]; exact hk
 obtain ⟨h1, h2⟩ := h.it k C[k] P[k] (List.getElem?_eq_getElem hC) (List.getElem?_eq_getElem hk)
 refine ⟨C[k].2, ?_, h2, h.few.2 _ (List.getElem_mem _)⟩
 rw [List.getElem?_eq_getElem hC, ← h1]
end Go.Am
namespace Go.Am
open Go
section
variable {l : List UInt8} {a b : Nat} {e : Bool} {M L N : List Nat}
def pcs (l : List UInt8) (N : List Nat) (n : Nat) : List (List Nat) := (fls l N n).map fun m => pxr l N m n
theorem pxAll_fls (h : Lab l a b e M L (a * b)) (hld : ∀ i, i < a * b → l.getD i 0 = 1 → Lead l a b e i (N.getD i 0)) : pxAll M L.length (a * b) = pcs l N (a * b) := by
  unfold pcs
  rw [← fls_eq h hld]
  apply List.ext_getElem?
  intro k
  rw [List.getElem?_map]
  by_cases hk : k < L.length
  · rw [pxAll_at hk, List.getElem?_eq_getElem hk, Option.map_some, ← pxs_eq h hld (List.getElem?_eq_getElem hk)]
  · rw [List.getElem?_eq_none (by rw [pxAll_length]; omega), List.getElem?_eq_none (by omega)]; rfl
theorem CmpsR.cl {K H : AHeap} {q : AVal} {C : List (Bx × AVal)} (h : CmpsR K H q l a b e M L C) (hab : a * b ≤ 409600) : CL H q a C (pxAll M L.length (a * b)) := by
  have hfew := h.lab.few
  refine ⟨h.cmps.row, by rw [pxAll_length, h.num], fun k c ps h1 h2 => ⟨?_, (h.cmps.own k c ps h1 h2).sl⟩, by rw [pxAll_length]; omega, fun ps hps => ?_⟩
  · have hk : k < L.length := by
      rw [← h.num]
      rcases Nat.lt_or_ge k C.length with q | q
      · exact q
      · rw [List.getElem?_eq_none q] at h1; cases h1
    rw [pxAll_at hk] at h2
    rw [← Option.some.inj h2]
    exact h.box k c h1
  · obtain ⟨k, hk, rfl⟩ := List.mem_map.1 hps
    have := pxs_le M (a * b) k
    omega
theorem RefC.cl {K H : AHeap} {v : AVal} {C : List (Bx × AVal)} (h : RefC K H l N a b (a * b) v C) (hld : ∀ i, i < a * b → l.getD i 0 = 1 → Lead l a b e i (N.getD i 0)) (hab : a * b ≤ 409600) : CL H v a C (pcs l N (a * b)) := by
  have hfew := fls_le l N (a * b)
  unfold pcs
  refine ⟨h.own.sl, by rw [List.length_map, h.num], fun k c ps h1 h2 => ?_, by rw [List.length_map]; omega, fun ps hps => ?_⟩
  · rw [List.getElem?_map] at h2
    obtain ⟨m, hm, rfl⟩ := Option.map_eq_some_iff.1 h2
    obtain ⟨n1, n2⟩ := pxr_ne hld hm
    exact ⟨by rw [h.box k c m h1 hm, boxR_eq hab n1 n2], h.px k c m h1 hm⟩
  · obtain ⟨k, hk, rfl⟩ := List.mem_map.1 hps
    have := pxr_le l N k (a * b)
    omega
end
theorem CL.extP {H H' : AHeap} {q p : AVal} {a : Nat} {C : List (Bx × AVal)} {P : List (List Nat)} (h : CL H q a C P) (x : ExtP H H' p) (s : SepS q p) (t : ∀ (k : Nat) c, C[k]? = some c → SepS c.2 p) : CL H' q a C P := by
  haveI := h.row
  exact ⟨inferInstance, h.len, fun k c l h1 h2 => by
    obtain ⟨h3, h4⟩ := h.it k c l h1 h2
    haveI := t k c h1
    exact ⟨h3, inferInstance⟩, h.few⟩
def setPx (v : UInt8) (l : List UInt8) (ps : List Nat) : List UInt8 := ps.foldl (fun l k => l.set k v) l
theorem setPx_snoc (v : UInt8) (l : List UInt8) (ps : List Nat) (k : Nat) : setPx v l (ps ++ [k]) = (setPx v l ps).set k v := by
  unfold setPx
  rw [List.foldl_append]; rfl
theorem setPx_length (v : UInt8) (l : List UInt8) (ps : List Nat) : (setPx v l ps).length = l.length := by
  unfold setPx
  induction ps generalizing l with
  | nil => rfl
  | cons k ps ih => rw [List.foldl_cons, ih, List.length_set]
theorem setPx_get {v : UInt8} {l : List UInt8} {ps : List Nat} {j : Nat} (hj : j < l.length) : (setPx v l ps).getD j 0 = if j ∈ ps then v else l.getD j 0 := by
  unfold setPx
  induction ps generalizing l with
  | nil => simp
  | cons k ps ih =>
    rw [List.foldl_cons, ih (by rw [List.length_set]; exact hj)]
    by_cases h1 : j ∈ ps
    · rw [if_pos h1, if_pos (List.mem_cons_of_mem _ h1)]
    · rw [if_neg h1]
      by_cases h2 : k = j
      · subst h2
        rw [if_pos (List.mem_cons_self), List.getD_eq_getElem?_getD, List.getElem?_set_self hj]; rfl
      · rw [if_neg (by rw [List.mem_cons]; rintro (q | q); exact h2 q.symm; exact h1 q), List.getD_eq_getElem?_getD, List.getElem?_set_ne h2, ← List.getD_eq_getElem?_getD]
theorem take_snoc {α : Type} {l : List α} {i : Nat} {x : α} (h : l[i]? = some x) : l.take (i + 1) = l.take i ++ [x] := by
  rw [List.take_add_one, h]; rfl
def spk (v : UInt8) (f : Nat → Bool) (l : List UInt8) (P : List (List Nat)) : List UInt8 := P.foldl (fun l ps => bif f ps.length then setPx v l ps else l) l
theorem spk_snoc (v : UInt8) (f : Nat → Bool) (l : List UInt8) (P : List (List Nat)) (ps : List Nat) : spk v f l (P ++ [ps]) = bif f ps.length then setPx v (spk v f l P) ps else spk v f l P := by
  unfold spk
  rw [List.foldl_append]; rfl
theorem spk_length (v : UInt8) (f : Nat → Bool) (l : List UInt8) (P : List (List Nat)) : (spk v f l P).length = l.length := by
  unfold spk
  induction P generalizing l with
  | nil => rfl
  | cons ps P ih =>
    rw [List.foldl_cons, ih]
    cases f ps.length
    · rfl
    · exact setPx_length ..
theorem spk_get {v : UInt8} {f : Nat → Bool} {l : List UInt8} {P : List (List Nat)} {j : Nat} (hj : j < l.length) : (spk v f l P).getD j 0 = if ∃ ps ∈ P, j ∈ ps ∧ f ps.length = true then v else l.getD j 0 := by
  unfold spk
  induction P generalizing l with
  | nil => simp
  | cons ps P ih =>
    rw [List.foldl_cons, ih (by cases f ps.length; exact hj; show j < (setPx v l ps).length; rw [setPx_length]; exact hj)]
    by_cases h1 : ∃ ps ∈ P, j ∈ ps ∧ f ps.length = true
    · rw [if_pos h1, if_pos (by obtain ⟨q, h2, h3⟩ := h1; exact ⟨q, List.mem_cons_of_mem _ h2, h3⟩)]
    · rw [if_neg h1]
      cases h2 : f ps.length
      · rw [if_neg (by
          rintro ⟨q, h3, h4, h5⟩
          rcases List.mem_cons.1 h3 with rfl | h3
          · rw [h2] at h5; cases h5
          · exact h1 ⟨q, h3, h4, h5⟩)]; rfl
      · show (setPx v l ps).getD j 0 = _
        rw [setPx_get hj]
        by_cases h3 : j ∈ ps
        · rw [if_pos h3, if_pos ⟨ps, List.mem_cons_self, h3, h2⟩]
        · rw [if_neg h3, if_neg (by
            rintro ⟨q, h4, h5, h6⟩
            rcases List.mem_cons.1 h4 with rfl | h4
            · exact h3 h5
            · exact h1 ⟨q, h4, h5, h6⟩)]
section
variable {l : List UInt8} {a b : Nat} {e : Bool} {N : List Nat}
theorem pcs_mem (hld : ∀ i, i < a * b → l.getD i 0 = 1 → Lead l a b e i (N.getD i 0)) {j : Nat} (hj : j < a * b) (h1 : l.getD j 0 = 1) : pxr l N (N.getD j 0) (a * b) ∈ pcs l N (a * b) := by
  unfold pcs
  refine List.mem_map.2 ⟨N.getD j 0, ?_, rfl⟩
  have h2 := hld j hj h1
  have h3 := h2.1.end_ok
  have h4 := hld _ h3.1 h3.2
  have h5 := (h2.same h2.1).unique h4
  unfold fls
  rw [List.mem_filter, List.mem_range, Bool.and_eq_true, beq_iff_eq, beq_iff_eq]
  exact ⟨h3.1, h3.2, h5.symm⟩
theorem pcs_of {j : Nat} {ps : List Nat} (h : ps ∈ pcs l N (a * b)) (hj : j ∈ ps) : l.getD j 0 = 1 ∧ ps = pxr l N (N.getD j 0) (a * b) := by
  obtain ⟨m, _, rfl⟩ := List.mem_map.1 h
  have h2 := hj
  unfold pxr at h2
  rw [List.mem_filter, Bool.and_eq_true, beq_iff_eq, beq_iff_eq] at h2
  exact ⟨h2.2.1, by rw [h2.2.2]⟩
theorem pcs_lt {ps : List Nat} {n j : Nat} (h : ps ∈ pcs l N n) (hj : j ∈ ps) : j < n := by
  obtain ⟨m, _, rfl⟩ := List.mem_map.1 h
  unfold pxr at hj
  exact List.mem_range.1 (List.mem_filter.1 hj).1
theorem pxAll_lt {M ps : List Nat} {m n j : Nat} (h : ps ∈ pxAll M m n) (hj : j ∈ ps) : j < n := by
  obtain ⟨m, _, rfl⟩ := List.mem_map.1 h
  unfold pxs at hj
  exact List.mem_range.1 (List.mem_filter.1 hj).1
theorem spk_same (hl : l.length = a * b) (hpx : pxOk l = true) (hld : ∀ i, i < a * b → l.getD i 0 = 1 → Lead l a b e i (N.getD i 0)) (f : Nat → Bool) : spk 0 (fun n => !f n) l (pcs l N (a * b)) = spk 1 f (List.replicate (a * b) 0) (pcs l N (a * b)) := by
  apply List.ext_getElem
  · rw [spk_length, spk_length, List.length_replicate, hl]
  intro j h1 h2
  have hj : j < l.length := by rw [spk_length] at h1; exact h1
  have hja : j < a * b := by omega
  have e1 := spk_get (v := 0) (f := fun n => !f n) (P := pcs l N (a * b)) hj
  have e2 := spk_get (v := 1) (f := f) (l := List.replicate (a * b) 0) (P := pcs l N (a * b)) (j := j) (by rw [List.length_replicate]; exact hja)
  rw [List.getD_eq_getElem?_getD, List.getElem?_eq_getElem h1, Option.getD_some] at e1
  rw [List.getD_eq_getElem?_getD, List.getElem?_eq_getElem h2, Option.getD_some] at e2
  rw [e1, e2]
  have hz : (List.replicate (a * b) (0 : UInt8)).getD j 0 = 0 := by
    rw [List.getD_eq_getElem?_getD, List.getElem?_replicate, if_pos hja]; rfl
  rw [hz]
  by_cases hi : l.getD j 0 = 1
  · have hm := pcs_mem hld hja hi
    have hjm : j ∈ pxr l N (N.getD j 0) (a * b) := by
      unfold pxr
      rw [List.mem_filter, List.mem_range, Bool.and_eq_true, beq_iff_eq, beq_iff_eq]
      exact ⟨hja, hi, rfl⟩
    cases hf : f (pxr l N (N.getD j 0) (a * b)).length
    · rw [if_pos ⟨_, hm, hjm, by rw [hf]; rfl⟩, if_neg (by
        rintro ⟨ps, g1, g2, g3⟩
        rw [(pcs_of g1 g2).2, hf] at g3; cases g3)]
    · rw [if_neg (by
        rintro ⟨ps, g1, g2, g3⟩
        rw [(pcs_of g1 g2).2] at g3
        rw [hf] at g3; cases g3), if_pos ⟨_, hm, hjm, hf⟩, hi]
  · have h0 : l.getD j 0 = 0 := by
      have := List.all_eq_true.1 hpx l[j] (List.getElem_mem hj)
      rw [List.getD_eq_getElem?_getD, List.getElem?_eq_getElem hj, Option.getD_some] at hi ⊢
      simp at this
      rcases this with q | q
      · exact q
      · exact absurd q hi
    rw [if_neg (by rintro ⟨ps, g1, g2, _⟩; exact hi (pcs_of g1 g2).1), if_neg (by rintro ⟨ps, g1, g2, _⟩; exact hi (pcs_of g1 g2).1), h0]
end
end Go.Am
namespace Go.Am
open Go
attribute [local irreducible] Wp WpO WpX WpE
theorem exec_ringA {call : ACall} {fr : AFrame} {H : AHeap} {x : ROpd} {t : Nat} (hx : x.ev fr = .int .i64 (t : Int)) (ht : t < 8) : (ROp.idxA 8 2 (.val (.ptr 1 0)) x).exec call fr H = some (.ptr 1 (2 * t), H) := by
 have h : (0 : Int) ≤ (t : Int) ∧ (t : Int) < ((8 : Nat) : Int) := by omega
 have e : aIdxA 8 2 (.ptr 1 0) (.int .i64 (t : Int)) = some (.ptr 1 (2 * t)) := by
  show (if 0 ≤ (t : Int) ∧ (t : Int) < ((8 : Nat) : Int) then some (AVal.ptr 1 (0 + (t : Int).toNat * 2)) else none) = _
  rw [if_pos h, Int.toNat_natCast, Nat.zero_add, Nat.mul_comm]
 show M.ofOption (aIdxA 8 2 (.ptr 1 0) (x.ev fr)) H = _
 rw [hx, e]; rfl
theorem around_x : ∀ t < 8, aroundCs[2 * t + 0]? = some (.int .i64 (dxN t))
 | 0, _ | 1, _ | 2, _ | 3, _ | 4, _ | 5, _ | 6, _ | 7, _ => rfl
theorem around_y : ∀ t < 8, aroundCs[2 * t + 1]? = some (.int .i64 (dyN t))
 | 0, _ | 1, _ | 2, _ | 3, _ | 4, _ | 5, _ | 6, _ | 7, _ => rfl
theorem K_flood {a b s0 n0 : Nat} {e : Bool} {p mk : AVal} {H : AHeap} {l : List UInt8} {M0 : List Nat} [hp : BytesI H p l] [hm : IntsI H mk (cN M0)] [hw : WrS H mk] [hsep : SepS p mk] [hs : Fits a b l] [ht : Tabs H] (hz : RowNe mk 1) (hM : M0.length = a * b) (ha : a ≤ 640) (hb : b ≤ 640) (hsl : s0 < a * b) (h1 : l.getD s0 0 = 1) (h0 : M0.getD s0 0 = 0) (hwh : Whole l a b e (fun i => M0.getD i 0) n0) (hn0 : 0 < n0) : Con ext prog 2 86 [.agg [.int .i64 a, .int .i64 b, p], .bool e, mk, .int .i64 s0, .int .i64 n0] H fun _ H' => ∃ M : List Nat, IntsI H' mk (cN M) ∧ WrS H' mk ∧ ExtP H H' mk ∧ M.length = a * b ∧ ∀ i, (Reach l a b e s0 i → M.getD i 0 = n0) ∧ (¬ Reach l a b e s0 i → M.getD i 0 = M0.getD i 0) := by
 refine con_of (show prog 86 = some c86 from rfl) rfl rfl fun n hn => ?_
 haveI := hp.one
 haveI := hm.one
 have hab : a * b ≤ 640 * 640 := Nat.mul_le_mul ha hb
 obtain ⟨a, rfl⟩ : ∃ a', a = a' + 1 := ⟨a - 1, by have := (div_lt hsl).1; omega⟩
 have hsl' : s0 < (cN M0).length := by rw [cN_length]; omega
 repeat first
  | refine mI ?_
  | refine mB ?_
  | refine bA ?_
  | refine nl hKF ?_
  | refine sq ?_
  | refine rg fun KF hKF => ?_
 refine Wp.set2 (y := 2) (x := 1) rfl rfl ?_
 have hst : (bif e then (1 : Int) else 2) = ((stp e : Nat) : Int) := by cases e <;> rfl
 have hst1 : 1 ≤ stp e ∧ stp e ≤ 2 := by cases e <;> decide
 simp only [hst]
 refine sq ?_
 refine rg fun KF hKF => ?_
 refine mv ?_
 refine mI ?_
 refine mI ?_
 refine Fo.idx (by simp only [↓nrmL, nrmK, Nat.reduceEqDiff, ↓reduceIte]; rfl) rfl ?_ (by simp only [↓nrmL, nrmZ, Nat.reduceEqDiff, ↓reduceIte]; rfl) ?_; (focus omega)
 refine WpO.do' (WpX.stI (p := mk) (j := s0) (l := cN M0) rfl rfl hsl' fun H1 hb1 hw1 hx1 => ?_)
 rw [cN_set] at hb1
 haveI := hx1
 refine nl hKF ?_
 refine sq ?_
 refine rg fun KF hKF => ?_
 refine mI ?_
 refine Fo.bslice rfl (by simp only [↓nrmL, nrmZ, Nat.reduceEqDiff, ↓reduceIte]; rfl) ?_
 refine mv ?_
 refine nl hKF ?_
 refine Wp.block ?_
 dsimp only [cond_true, cond_false]
 have hfl := Flood.begin (e := e) hsl h1 h0 hwh
 have hsM : s0 < M0.length := by omega
 rw [← getD_setN hsM] at hfl
 have hc0 := count_setN hsM h0 hn0
 have hcl := List.count_le_length (a := 0) (l := M0)
 have hfh0 : FHp (H.push (.row [.int .i64 ((a + 1 : Nat) : Int), .int .i64 b, p] true (2 * 29))) mk [.int .i64 ((a + 1 : Nat) : Int), .int .i64 b, p] H.n (.slice H1.n 0 1 (some 1) 1) [s0] (M0.set s0 n0) (H1.push (.row [.int .i64 (s0 : Int)] true (2 * 3))) := ⟨inferInstance, inferInstance, ⟨H1.n, some 1, _, 2 * 3, rfl, Nat.lt_succ_self _, push_get_eq, rfl, Nat.le_refl _, rfl, Or.inr ⟨1, rfl, Nat.one_pos, Nat.le_refl _, Nat.le_refl _⟩⟩, ⟨fun _ _ _ _ _ q => by cases q; exact hx1.n⟩, inferInstance, ExtP0.ext⟩
 refine Wp.loopS [11,12,13,14,15,23,24,25,26,27,28,29,30,31,32,33,34,35,36,37,38,39,40,41,42,43,44,45,46,47,48,49,50,51,52,53,54,55,56,57,58,59,60,61,62,63,64,65,66,67,68,69,70,71,72,73,74,75,76,77,78,79,80,81,82,83,84,85,86,87,88,89,90,91,92,93] (fun s : AVal × List Nat × List Nat => [(11, s.1)]) (fun _ s H2 => FHp (H.push (.row [.int .i64 ((a + 1 : Nat) : Int), .int .i64 b, p] true (2 * 29))) mk [.int .i64 ((a + 1 : Nat) : Int), .int .i64 b, p] H.n s.1 s.2.1 s.2.2 H2 ∧ Flood l (a + 1) b e (fun i => M0.getD i 0) s0 n0 (fun i => s.2.2.getD i 0) s.2.1 none ∧ s.2.1.length + s.2.2.count 0 ≤ (a + 1) * b ∧ s.2.2.length = (a + 1) * b) (fun s => s.2.1.length + 2 * s.2.2.count 0) (.slice H1.n 0 1 (some 1) 1, [s0], M0.set s0 n0) rfl (fun _ => rfl) ⟨rfl, trivial⟩ ⟨hfh0, hfl, by dsimp only [List.length_singleton]; omega, by dsimp only; rw [List.length_set]; exact hM⟩ (by
  unfold fuel0 at hn
  dsimp only [List.length_singleton]
  omega) ?_
 rintro ⟨wt, W, M⟩ g H2 ⟨hfh, hfl2, hbd, hML⟩
 dsimp only at hfh hfl2 hbd hML
 clear hfl hfh0 hx1 hb1 hw1
 obtain ⟨bm, wm, st, fs, g5, hx2⟩ := hfh
 haveI := hx2
 simp only [↓nrmL, nrmZ, Nat.reduceEqDiff, ↓reduceIte]
 rcases snoc_cases W with rfl | ⟨W', w, rfl⟩
 ·haveI : IntsI H2 wt [] := st.ints
  have hc : decide (((([] : List Int).length : Nat) : Int) > 0) = false := rfl
  refine sq ?_
  refine sq ?_
  refine rg fun KF hKF => ?_
  refine mv ?_
  refine ln (by simp only [↓nrmL, nrmK, Nat.reduceEqDiff, ↓reduceIte]; rfl) ?_
  refine bn rfl rfl rfl (by simp only [hc]; rfl) ?_
  refine nl hKF ?_
  refine cf rfl ?_
  refine xi ?_
  dsimp only [cond_true, cond_false]
  refine rz trivial ?_
  exact ⟨M, inferInstance, wm, ⟨Nat.le_trans (Nat.le_succ _) hx2.n, fun r hr hne => by rw [hx2.get r (Nat.lt_succ_of_lt hr) hne]; exact push_get_lt hr⟩, hML, hfl2.end hwh hsl h1 h0⟩
 ·haveI := st.ints
  have hlW : (cN (W' ++ [w])).length = W'.length + 1 := by rw [cN_length, List.length_append]; rfl
  have hc : decide ((((cN (W' ++ [w])).length : Nat) : Int) > 0) = true := decide_eq_true (by rw [hlW]; omega)
  rw [List.length_append, List.length_singleton] at hbd
  have hwr : IntKind.i64.wrap ((((cN (W' ++ [w])).length : Nat) : Int) - 1) = (W'.length : Int) := by rw [hlW, w64 (by omega)]; omega
  have hge : (cN (W' ++ [w]))[W'.length]'(by rw [hlW]; exact Nat.lt_succ_self _) = (w : Int) := by
   rw [cN_get, List.getD_eq_getElem?_getD, List.getElem?_append_right (Nat.le_refl _), Nat.sub_self]; rfl
  have hwlt : W'.length < (cN (W' ++ [w])).length := by rw [hlW]; exact Nat.lt_succ_self _
  repeat first
   | refine mI ?_
   | (refine mv ?_)
   | (refine bn rfl rfl rfl (by simp only [hc, hwr, hge]; rfl) ?_)
   | (refine ln (by simp only [↓nrmL, nrmK, Nat.reduceEqDiff, ↓reduceIte]; rfl) ?_)
   | (refine Fo.idx (by simp only [↓nrmL, nrmK, Nat.reduceEqDiff, ↓reduceIte]; rfl) rfl ?_ (by simp only [↓nrmL, nrmZ, Nat.reduceEqDiff, ↓reduceIte, hc, hwr, hge]; rfl) ?_; (focus omega))
   | (refine Fo.ldI rfl ?_ (by simp only [hc, hwr, hge]; rfl) ?_; (focus omega))
   | refine nl hKF ?_
   | refine sq ?_
   | refine rg fun KF hKF => ?_
   | refine ct rfl ?_
   | refine sk ?_
   | refine Wp.block ?_
  refine WpO.do (WpX.cut (p := wt) (l := W') (k := w) rfl rfl st fun wt1 st1 hsub => ?_)
  have fs1 : FreshS (H.push (.row [.int .i64 ((a + 1 : Nat) : Int), .int .i64 b, p] true (2 * 29))) wt1 := ⟨fun r off len cap sz q => by obtain ⟨_, _, q'⟩ := hsub _ _ _ _ _ q; exact fs.ge _ _ _ _ _ q'⟩
  haveI := st1.ints.one
  refine mv ?_
  refine nl hKF ?_
  refine sq ?_
  refine rg fun KF hKF => ?_
  refine mI ?_
  refine nl hKF ?_
  refine Wp.block ?_
  dsimp only [cond_true, cond_false]
  obtain ⟨_, _, hrw, _⟩ := hfl2.pop.hand w 0 rfl
  have hwl := hrw.end_ok.1
  obtain ⟨_, hwm, hwd, _⟩ := div_lt hwl
  have t3 : ∀ y : Nat, y < b → IntKind.i64.wrap ((y : Nat) : Int) = ((y : Nat) : Int) := fun y hy => w64 (by omega)
  have t1 : ((w : Nat) : Int).tmod ((a + 1 : Nat) : Int) = ((w % (a + 1) : Nat) : Int) := rfl
  have t2 : IntKind.i64.wrap (((w : Nat) : Int).tdiv ((a + 1 : Nat) : Int)) = ((w / (a + 1) : Nat) : Int) := by
   rw [show ((w : Nat) : Int).tdiv ((a + 1 : Nat) : Int) = ((w / (a + 1) : Nat) : Int) from rfl]
   exact t3 _ hwd
  refine Wp.loopS [11,13,14,15,37,38,39,40,41,42,43,44,45,46,47,48,49,50,51,52,53,54,55,56,57,58,59,60,61,62,63,64,65,66,67,68,69,70,71,72,73,74,75,76,77,78,79,80,81,82,83,84,85,86,87,88,89,90,91,92,93] (fun s : AVal × List Nat × List Nat × Nat => [(11, s.1), (13, .int .i64 (s.2.2.2 : Int))]) (fun _ s H3 => FHp (H.push (.row [.int .i64 ((a + 1 : Nat) : Int), .int .i64 b, p] true (2 * 29))) mk [.int .i64 ((a + 1 : Nat) : Int), .int .i64 b, p] H.n s.1 s.2.1 s.2.2.1 H3 ∧ Flood l (a + 1) b e (fun i => M0.getD i 0) s0 n0 (fun i => s.2.2.1.getD i 0) s.2.1 (some (w, s.2.2.2)) ∧ (s.2.1.length + s.2.2.1.count 0 ≤ (a + 1) * b ∧ s.2.1.length + 2 * s.2.2.1.count 0 ≤ W'.length + 2 * M.count 0) ∧ s.2.2.1.length = (a + 1) * b ∧ s.2.2.2 ≤ 8 ∧ s.2.2.2 % stp e = 0) (fun s => 8 - s.2.2.2) (wt1, W', M, 0) rfl (fun _ => rfl) ⟨rfl, rfl, trivial⟩ ⟨⟨bm, wm, st1, fs1, g5, hx2⟩, hfl2.pop, ⟨by dsimp only; omega, Nat.le_refl _⟩, hML, Nat.zero_le _, Nat.zero_mod _⟩ (by unfold fuel0 at hn; dsimp only; omega) ?_
  rintro ⟨wt2, W2, M2, t⟩ gg H3 ⟨hfh3, hfl3, ⟨hbd3, hbe3⟩, hML3, ht8, hts⟩
  dsimp only at hfh3 hfl3 hbd3 hbe3 hML3 ht8 hts
  clear hfl2 hx2 bm wm st fs g5
  obtain ⟨bm, wmk, st, fs, g5, hx3⟩ := hfh3
  haveI := hx3
  haveI : IntsI H3 wt2 (cN W2) := st.ints
  haveI := st.ints.one
  obtain ⟨rwt, et, htab⟩ := tab_row ((inferInstance : Tabs (H.push (.row [.int .i64 ((a + 1 : Nat) : Int), .int .i64 b, p] true (2 * 29)))).keep hx3.n (hx3.get 1 (inferInstance : Tabs (H.push (.row [.int .i64 ((a + 1 : Nat) : Int), .int .i64 b, p] true (2 * 29)))).lt hz))
  haveI := htab
  have hM2 : (cN M2).length = (a + 1) * b := by rw [cN_length]; exact hML3
  simp only [↓nrmL, nrmZ, Nat.reduceEqDiff, ↓reduceIte]
  by_cases ht : t < 8
  ·have hc : decide (((t : Nat) : Int) < 8) = true := decide_eq_true (by omega)
   have wx : IntKind.i64.wrap (((w % (a + 1) : Nat) : Int) + dxN t) = ((w % (a + 1) : Nat) : Int) + dxN t := wd (Nat.le_trans (Nat.le_of_lt hwm) ha) (dN_bd t ht).1
   have wy : IntKind.i64.wrap (((w / (a + 1) : Nat) : Int) + dyN t) = ((w / (a + 1) : Nat) : Int) + dyN t := wd (Nat.le_trans (Nat.le_of_lt hwd) hb) (dN_bd t ht).2
   have hi : inkB (a + 1 : Nat) b l (((w % (a + 1) : Nat) : Int) + dxN t) (((w / (a + 1) : Nat) : Int) + dyN t) = ringF (a + 1) b l ((w % (a + 1) : Nat) : Int) ((w / (a + 1) : Nat) : Int) t := rfl
   have ws : IntKind.i64.wrap (((t : Nat) : Int) + ((stp e : Nat) : Int)) = ((t + stp e : Nat) : Int) := by rw [wa (by omega)]
   have hse : t + stp e ≤ 8 ∧ (t + stp e) % stp e = 0 := by
    cases e
    ·simp only [stp, cond_false] at hts ⊢; omega
    ·simp only [stp, cond_true] at hts ⊢; omega
   repeat first
    | refine mI ?_
    | refine fd ?_
    | refine Fo.ld rfl rfl ?_
    | (refine bn rfl rfl rfl (by simp only [hc, t1, t2, wx, wy, hi]; rfl) ?_)
    | refine nl hKF ?_
    | refine sq ?_
    | refine rg fun KF hKF => ?_
    | refine Fr.quiet rfl rfl fun KF hKF => ?_
    | refine ct rfl ?_
    | refine sk ?_
    | refine Wp.block ?_
   refine Fo.now rfl (exec_ringA rfl ht) rfl ?_
   simp only [↓nrmL, nrmZ, Nat.reduceEqDiff, ↓reduceIte, hc, t1, t2, wx, wy, hi]
   refine fd ?_
   refine Fo.now rfl (exec_ld rfl (around_x t ht)) rfl ?_
   repeat first
    | refine mI ?_
    | refine fd ?_
    | refine Fo.ld rfl rfl ?_
    | (refine bn rfl rfl rfl (by simp only [hc, t1, t2, wx, wy, hi]; rfl) ?_)
   refine Fo.now rfl (exec_ringA rfl ht) rfl ?_
   simp only [↓nrmL, nrmZ, Nat.reduceEqDiff, ↓reduceIte, hc, t1, t2, wx, wy, hi]
   refine fd ?_
   refine Fo.now rfl (exec_ld rfl (around_y t ht)) rfl ?_
   repeat first
    | refine mI ?_
    | refine mB ?_
    | (refine Fo.ldN rfl rfl (by simp only [↓nrmL, nrmZ, Nat.reduceEqDiff, ↓reduceIte, hc, t1, t2, wx, wy, hi]; rfl) ?_)
    | (refine bn rfl rfl rfl (by simp only [hc, t1, t2, wx, wy, hi]; rfl) ?_)
    | (refine Fo.pcall (v' := ?_) hn rfl (by simp only [↓nrmL, nrmZ, Nat.reduceEqDiff, ↓reduceIte, hc, t1, t2, wx, wy, hi, List.map]; rfl) rfl ?hv fun _ _ => ?_; case hv => (simp only [hc, t1, t2, wx, wy, hi]; rfl))
    | refine nl hKF ?_
    | refine sq ?_
    | refine rg fun KF hKF => ?_
   rename AHeap => H4
   rename ExtI H3 H4 => hx4
   have st4 : Stk H4 wt2 3 (cN W2) := st.keep hx4.ext.n fun _ _ _ _ _ _ hr => hx4.ext.get _ hr
   have hx34 : ExtP (H.push (.row [.int .i64 ((a + 1 : Nat) : Int), .int .i64 b, p] true (2 * 29))) H4 mk := hx3.ext hx4.ext
   cases hv : ringF (a + 1) b l ((w % (a + 1) : Nat) : Int) ((w / (a + 1) : Nat) : Int) t
   ·skip
    repeat first
     | refine ox ?_
     | refine mI ?_
     | (refine bn rfl rfl rfl (by simp only [ws]; rfl) ?_)
     | refine fB ?_
     | refine nl hKF ?_
     | refine rg fun KF hKF => ?_
     | refine cf rfl ?_
     | refine sk ?_
    refine ⟨(wt2, W2, M2, t + stp e), by dsimp only; omega, ⟨rfl, rfl, trivial⟩, ⟨inferInstance, inferInstance, st4, fs, inferInstance, hx34⟩, (by have hq := hfl3.off hts hv; exact hq), ⟨hbd3, hbe3⟩, hML3, hse⟩
   ·obtain ⟨u, v, e1, e2, hu, hvb, hl1⟩ := inkB_true hv
    have e1' : ((w % (a + 1) : Nat) : Int) + dxN t = (u : Int) := e1
    have e2' : ((w / (a + 1) : Nat) : Int) + dyN t = (v : Int) := e2
    have hnb : isNb (a + 1) b w t (v * (a + 1) + u) := ⟨u, v, hu, hvb, e1.symm, e2.symm, rfl⟩
    have hidx := isNb_lt hnb
    have hva : v * (a + 1) ≤ 640 * 640 := Nat.mul_le_mul (by omega) ha
    have m1 : IntKind.i64.wrap ((((w / (a + 1) : Nat) : Int) + dyN t) * ((a + 1 : Nat) : Int)) = ((v * (a + 1) : Nat) : Int) := by rw [e2']; exact wm (by omega)
    have m2 : IntKind.i64.wrap (((v * (a + 1) : Nat) : Int) + (((w % (a + 1) : Nat) : Int) + dxN t)) = ((v * (a + 1) + u : Nat) : Int) := by rw [e1']; exact wa (by omega)
    have hix : v * (a + 1) + u < (cN M2).length := by rw [hM2]; exact hidx
    have hge2 : (cN M2)[v * (a + 1) + u]'hix = ((M2.getD (v * (a + 1) + u) 0 : Nat) : Int) := cN_get hix
    repeat first
     | refine oy ?_
     | refine mI ?_
     | (refine mv ?_)
     | refine fd ?_
     | refine Fo.ld rfl rfl ?_
     | (refine bn rfl rfl rfl (by simp only [m1, m2, hge2]; rfl) ?_)
     | refine b0 ?_
     | refine tB ?_
     | (refine Fo.idx (by simp only [↓nrmL, nrmK, Nat.reduceEqDiff, ↓reduceIte]; rfl) rfl ?_ (by simp only [↓nrmL, nrmZ, Nat.reduceEqDiff, ↓reduceIte, m1, m2, hge2]; rfl) ?_; (focus omega))
     | (refine Fo.ldI rfl ?_ (by simp only [m1, m2, hge2]; rfl) ?_; (focus omega))
     | refine nl hKF ?_
    cases hz0 : (((M2.getD (v * (a + 1) + u) 0 : Nat) : Int) == 0)
    ·skip
     simp only [↓nrmL, nrmZ, Nat.reduceEqDiff, ↓reduceIte, ws]
     repeat first
      | refine mI ?_
      | (refine bn rfl rfl rfl (by simp only [ws]; rfl) ?_)
      | refine nl hKF ?_
      | refine rg fun KF hKF => ?_
      | refine cf rfl ?_
      | refine sk ?_
     refine ⟨(wt2, W2, M2, t + stp e), by dsimp only; omega, ⟨rfl, rfl, trivial⟩, ⟨inferInstance, inferInstance, st4, fs, inferInstance, hx34⟩, (by have hq := hfl3.been hts hnb (fun q => by rw [q] at hz0; cases hz0); exact hq), ⟨hbd3, hbe3⟩, hML3, hse⟩
    ·have hz1 : M2.getD (v * (a + 1) + u) 0 = 0 := by have := eq_of_beq hz0; omega
     simp only [↓nrmL, nrmZ, Nat.reduceEqDiff, ↓reduceIte, m1, m2]
     repeat first
      | refine mI ?_
      | (refine mv ?_)
      | refine fd ?_
      | refine Fo.ld rfl rfl ?_
      | (refine bn rfl rfl rfl (by simp only [m1, m2]; rfl) ?_)
      | (refine Fo.idx (by simp only [↓nrmL, nrmK, Nat.reduceEqDiff, ↓reduceIte]; rfl) rfl ?_ (by simp only [↓nrmL, nrmZ, Nat.reduceEqDiff, ↓reduceIte, m1, m2]; rfl) ?_; (focus omega))
      | refine sq ?_
      | refine rg fun KF hKF => ?_
      | refine ct rfl ?_
     refine WpO.do' (WpX.stI (p := mk) (j := v * (a + 1) + u) (l := cN M2) rfl rfl hix fun H5 hb5 hw5 hx5 => ?_)
     rw [cN_set] at hb5
     haveI := hx5
     have hsep5 : SepS wt2 mk := inferInstance
     have st5 : Stk H5 wt2 3 (cN W2) := st4.other hx5 hsep5
     simp only [↓nrmL, nrmZ, Nat.reduceEqDiff, ↓reduceIte, m1, m2]
     repeat first
      | refine mI ?_
      | (refine mv ?_)
      | refine fd ?_
      | refine Fo.ld rfl rfl ?_
      | (refine bn rfl rfl rfl (by simp only [m1, m2]; rfl) ?_)
      | (refine Fo.bslice rfl (by simp only [↓nrmL, nrmZ, Nat.reduceEqDiff, ↓reduceIte, m1, m2]; rfl) ?_)
      | refine nl hKF ?_
      | refine rg fun KF hKF => ?_
     refine WpO.do (WpX.push (p := wt2) (l := W2) (k := v * (a + 1) + u) rfl rfl st5.pushed one_ints (by omega) fun wt6 H6 st6 hx6 hfr6 => ?_)
     haveI := hx6
     haveI : RowNe wt2 H.n := ⟨fun r off len cap sz q => by
      have h6 := fs.ge _ _ _ _ _ q
      have h7 : (H.push (.row [.int .i64 ((a + 1 : Nat) : Int), .int .i64 b, p] true (2 * 29))).n = H.n + 1 := rfl
      omega⟩
     haveI : ExtP0 (H.push (.row [.int .i64 ((a + 1 : Nat) : Int), .int .i64 b, p] true (2 * 29))) H4 mk := ⟨hx34⟩
     have hcs := count_setN (M := M2) (k := v * (a + 1) + u) (v := n0) (by omega) hz1 hn0
     have hxx : ExtP (H.push (.row [.int .i64 ((a + 1 : Nat) : Int), .int .i64 b, p] true (2 * 29))) (H5.push (.row [.int .i64 ((v * (a + 1) + u : Nat) : Int)] true (2 * 3))) mk := ExtP0.ext
     haveI := st6.ints.one
     simp only [↓nrmL, nrmZ, Nat.reduceEqDiff, ↓reduceIte, ws]
     repeat first
      | refine mI ?_
      | (refine mv ?_)
      | (refine bn rfl rfl rfl (by simp only [ws]; rfl) ?_)
      | refine nl hKF ?_
      | refine rg fun KF hKF => ?_
     refine ⟨(wt6, W2 ++ [v * (a + 1) + u], M2.set (v * (a + 1) + u) n0, t + stp e), by dsimp only; omega, ⟨rfl, rfl, trivial⟩, ⟨inferInstance, inferInstance, st6, hfr6 _ hxx.n fs, inferInstance, hxx.fresh hx6 fs⟩, (by have hq := hfl3.add hts ht hnb hl1 hz1 hwh hn0 (by omega); exact hq), ⟨by dsimp only; rw [List.length_append, List.length_singleton]; omega, by dsimp only; rw [List.length_append, List.length_singleton]; omega⟩, by dsimp only; rw [List.length_set]; exact hML3, hse⟩
  ·obtain rfl : t = 8 := by omega
   have hc : decide (((8 : Nat) : Int) < 8) = false := rfl
   refine sq ?_
   refine sq ?_
   refine rg fun KF hKF => ?_
   refine mI ?_
   refine bn rfl rfl rfl (by simp only [hc]; rfl) ?_
   refine nl hKF ?_
   refine cf rfl ?_
   refine xi ?_
   dsimp only [cond_true, cond_false]
   refine ⟨(wt2, W2, M2), by dsimp only; rw [List.length_append, List.length_singleton]; omega, ⟨rfl, trivial⟩, ⟨bm, wmk, st, fs, g5, hx3⟩, hfl3.drop, hbd3, hML3⟩
end Go.Am
namespace Go.Am
open Go
attribute [local irreducible] Wp WpO WpX WpE
theorem K_label {a b : Nat} {e : Bool} {p : AVal} {H : AHeap} {l : List UInt8} [hp : BytesI H p l] [hs : Fits a b l] [ht : Tabs H] (ha : a ≤ 640) (hb : b ≤ 640) : Con ext prog 3 75 [.agg [.int .i64 a, .int .i64 b, p], .bool e] H fun v H' => ∃ mk M L, v = .tuple [mk, .int .i64 ((L : List Nat).length : Nat)] ∧ IntsI H' mk (cN M) ∧ FreshS H mk ∧ WrS H' mk ∧ Ext H H' ∧ Lab l a b e M L (a * b) := by
 refine con_of (show prog 75 = some c75 from rfl) rfl rfl fun n hn => ?_
 haveI := hp.one
 have hab : a * b ≤ 640 * 640 := Nat.mul_le_mul ha hb
 have hlen := hs.len
 repeat first
  | refine mI ?_
  | refine mN ?_
  | refine fd ?_
  | refine Fo.ld rfl rfl ?_
  | (refine ln (by simp only [↓nrmL, nrmK, Nat.reduceEqDiff, ↓reduceIte]; rfl) ?_)
  | refine bA ?_
  | refine nl hKF ?_
  | refine sq ?_
  | refine rg fun KF hKF => ?_
 refine WpO.do (WpX.mkI (n := l.length) rfl rfl rfl (by omega) fun q H1 e1 hq hf hw hx => ?_); try simp only [↓nrmL, nrmZ, Nat.reduceEqDiff, ↓reduceIte]
 haveI := hq.one
 have hzr : cN (List.replicate (a * b) 0) = List.replicate l.length 0 := by simp [cN, hlen]
 have hq2 : IntsI H1 q (cN (List.replicate (a * b) 0)) := by rw [hzr]; exact hq
 have hz : RowNe q 1 := ⟨fun r off len cap sz e => by
  have h1 := hf.ge _ _ _ _ _ e
  have h2 : (H.push (.row [.int .i64 (a : Int), .int .i64 (b : Int), p] true (2 * 29))).n = H.n + 1 := rfl
  have h3 := ht.lt
  omega⟩
 refine mv ?_
 refine nl hKF ?_
 refine sq ?_
 refine sq ?_
 refine rg fun KF hKF => ?_
 refine fd ?_
 refine Fo.ld rfl rfl ?_
 refine ln (by simp only [↓nrmL, nrmK, Nat.reduceEqDiff, ↓reduceIte]; rfl) ?_
 refine mI ?_
 refine nl hKF ?_
 refine Wp.block ?_
 dsimp only [cond_true, cond_false]
 refine Wp.loopS [5,6,7,15,16,17,18,19,20,21,22,23,24,25,26,27,28,29,30,31,32,33,34,35,36,37] (fun s : Nat × List Nat × List Nat => [(5, .int .i64 ((s.2.2.length : Nat) : Int)), (15, .int .i64 (s.1 : Int))]) (fun H3 s H2 => s.1 ≤ a * b ∧ Lab l a b e s.2.1 s.2.2 s.1 ∧ IntsI H2 q (cN s.2.1) ∧ WrS H2 q ∧ ExtP0 H3 H2 q) (fun s => a * b - s.1) (0, List.replicate (a * b) 0, []) rfl (fun _ => rfl) ⟨rfl, rfl, trivial⟩ ⟨Nat.zero_le _, Lab.begin, hq2, inferInstance, inferInstance⟩ (by unfold fuel0 at hn; dsimp only; omega) ?_
 rintro ⟨i, M, L⟩ g H2 ⟨hi, hlab, hb2, hw2, ⟨hx2⟩⟩
 dsimp only at hi hlab hb2
 simp only [↓nrmL, nrmZ, Nat.reduceEqDiff, ↓reduceIte]
 have hML : (cN M).length = a * b := by rw [cN_length]; exact hlab.len
 cases hc : decide ((i : Int) < (l.length : Int))
 ·have hil : i = a * b := by have := of_decide_eq_false hc; omega
  subst hil
  repeat first
   | refine mI ?_
   | (refine mv ?_)
   | (refine bn rfl rfl rfl (by simp only [hc]; rfl) ?_)
   | refine nl hKF ?_
   | refine sq ?_
   | refine rg fun KF hKF => ?_
   | refine cf rfl ?_
   | refine rt ?_
   | refine xi ?_
  refine rz trivial ?_
  exact ⟨q, M, L, rfl, inferInstance, hf.weak, inferInstance, Ext0.ext, hlab⟩
 ·have hil : i < l.length := by have := of_decide_eq_true hc; omega
  have hiab : i < a * b := by omega
  have hw1 := wa1 (a := i) (by omega)
  have hfew := hlab.few
  have hw3 := wa1 (a := L.length) (by omega)
  have hge : (cN M)[i]'(by omega) = ((M.getD i 0 : Nat) : Int) := cN_get _
  have hiM : i < (cN M).length := by omega
  have hld : l.getD i 0 = l[i] := by rw [List.getD_eq_getElem?_getD, List.getElem?_eq_getElem hil]; rfl
  cases hv : (l[i] == 1)
  ·skip
   repeat first
    | refine ox ?_
    | refine mI ?_
    | refine mB ?_
    | (refine bn rfl rfl rfl (by simp only [hc, u8_one, hv]; rfl) ?_)
    | refine b0 ?_
    | refine fB ?_
    | (refine Fo.idx (by simp only [↓nrmL, nrmK, Nat.reduceEqDiff, ↓reduceIte]; rfl) rfl ?_ (by simp only [↓nrmL, nrmZ, Nat.reduceEqDiff, ↓reduceIte, hc, u8_one, hv]; rfl) ?_; (focus omega))
    | (refine Fo.ldB rfl ?_ rfl ?_; (focus omega))
    | refine nl hKF ?_
    | refine sq ?_
    | refine rg fun KF hKF => ?_
    | refine ct rfl ?_
    | refine cf rfl ?_
    | refine sk ?_
    | refine Wp.block ?_
   refine ⟨(i + 1, M, L), by dsimp only; omega, ⟨rfl, by simp only [↓nrmL, nrmZ, Nat.reduceEqDiff, ↓reduceIte]; rw [hw1], trivial⟩, hiab, hlab.skip (fun q => by rw [← hld, q] at hv; cases hv), inferInstance, inferInstance, inferInstance⟩
  ·have hl1 : l.getD i 0 = 1 := by rw [hld]; exact eq_of_beq hv
   repeat first
    | refine oy ?_
    | refine mI ?_
    | refine mB ?_
    | (refine mv ?_)
    | (refine bn rfl rfl rfl (by simp only [hc, u8_one, hv, hge]; rfl) ?_)
    | refine b0 ?_
    | refine tB ?_
    | (refine Fo.idx (by simp only [↓nrmL, nrmK, Nat.reduceEqDiff, ↓reduceIte]; rfl) rfl ?_ (by simp only [↓nrmL, nrmZ, Nat.reduceEqDiff, ↓reduceIte, hc, u8_one, hv, hge]; rfl) ?_; (focus omega))
    | (refine Fo.ldB rfl ?_ rfl ?_; (focus omega))
    | (refine Fo.ldI rfl ?_ (by simp only [hc, u8_one, hv, hge]; rfl) ?_; (focus omega))
    | refine nl hKF ?_
    | refine sq ?_
    | refine rg fun KF hKF => ?_
    | refine ct rfl ?_
    | refine sk ?_
    | refine Wp.block ?_
   cases hz0 : (((M.getD i 0 : Nat) : Int) == 0)
   ·skip
    refine cf rfl ?_
    refine sk ?_
    refine rg fun KF hKF => ?_
    refine b0 ?_
    refine mI ?_
    refine nl hKF ?_
    dsimp only [cond_true, cond_false]
    refine ⟨(i + 1, M, L), by dsimp only; omega, ⟨rfl, by simp only [↓nrmL, nrmZ, Nat.reduceEqDiff, ↓reduceIte]; rw [hw1], trivial⟩, hiab, hlab.skip (fun _ q => by rw [q] at hz0; cases hz0), inferInstance, inferInstance, inferInstance⟩
   ·have h0 : M.getD i 0 = 0 := by have := eq_of_beq hz0; omega
    repeat first
     | refine mI ?_
     | refine mB ?_
     | (refine mv ?_)
     | (refine Fo.ldN rfl rfl (by simp only [↓nrmL, nrmZ, Nat.reduceEqDiff, ↓reduceIte, hw3]; rfl) ?_)
     | (refine bn rfl rfl rfl (by simp only [hw3]; rfl) ?_)
     | refine nl hKF ?_
     | refine sq ?_
     | refine rg fun KF hKF => ?_
     | refine ct rfl ?_
    refine WpO.do (WpX.conD hn rfl rfl (by simp only [↓nrmL, nrmZ, Nat.reduceEqDiff, ↓reduceIte, List.map] <;> rfl) (K_flood (e := e) (l := l) (M0 := M) (s0 := i) (n0 := L.length + 1) hz hlab.len ha hb hiab hl1 h0 hlab.whole (Nat.succ_pos _)) fun v H5 h5 => ?_)
    obtain ⟨M', hb5, hw5, hx5, hM', hm'⟩ := h5
    haveI := hx5
    refine nl hKF ?_
    refine rg fun KF hKF => ?_
    refine b0 ?_
    refine mI ?_
    refine nl hKF ?_
    dsimp only [cond_true, cond_false]
    refine ⟨(i + 1, M', L ++ [i]), by dsimp only; omega, ⟨by dsimp only; rw [List.length_append, List.length_singleton]; rfl, by simp only [↓nrmL, nrmZ, Nat.reduceEqDiff, ↓reduceIte]; rw [hw1], trivial⟩, hiab, hlab.next hiab hl1 h0 hM' hm', hb5, hw5, inferInstance⟩
end Go.Am
namespace Go.Am
open Go
attribute [local irreducible] Wp WpO WpX WpE
theorem K_Components {a b : Nat} {e : Bool} {p : AVal} {H : AHeap} {l : List UInt8} [hp : BytesI H p l] [ht : Tabs H] (ok : Ok a b l) : Con ext prog 5 67 [.agg [.int .i64 a, .int .i64 b, p], .bool e] H fun v H' => ∃ q K M L C, v = .tuple [q, .int .i64 0] ∧ Ext H K ∧ CmpsR K H' q l a b e M L C ∧ FreshS K q ∧ Ext H H' := by
 refine con_of (show prog 67 = some c67 from rfl) rfl rfl fun n hn => ?_
 haveI := hp.one
 haveI : Fits a b l := ⟨ok.sized⟩
 have ee := ok.err
 have ha := ok.wa
 have hb := ok.hb
 have hab : a * b ≤ 640 * 640 := Nat.mul_le_mul ha hb
 repeat first
  | refine mI ?_
  | refine mB ?_
  | refine mN ?_
  | (refine Fo.ldN rfl rfl (by simp only [↓nrmL, nrmZ, Nat.reduceEqDiff, ↓reduceIte, Nat.reduceAdd, Int.reduceBEq, Int.reduceBNe, ee]; rfl) ?_)
  | (refine bn rfl rfl rfl (by simp only [↓nrmL, nrmZ, Nat.reduceEqDiff, ↓reduceIte, Nat.reduceAdd, Int.reduceBEq, Int.reduceBNe, ee]; rfl) ?_)
  | (refine Fo.pcall (v' := ?_) hn rfl (by simp only [↓nrmL, nrmZ, Nat.reduceEqDiff, ↓reduceIte, Nat.reduceAdd, Int.reduceBEq, Int.reduceBNe, ee, List.map]; rfl) rfl ?hv fun _ _ => ?_; case hv => (simp only [ee]; rfl))
  | refine bA ?_
  | refine nl hKF ?_
  | refine sq ?_
  | refine rg fun KF hKF => ?_
  | refine cf rfl ?_
  | refine sk ?_
 rename AHeap => Hc
 rename ExtI _ Hc => hxc
 refine WpO.do (WpX.conD hn rfl rfl (by simp only [↓nrmL, nrmZ, Nat.reduceEqDiff, ↓reduceIte, Nat.reduceAdd, Int.reduceBEq, Int.reduceBNe, List.map] <;> rfl) (K_label (e := e) (l := l) ha hb) fun v H1 h5 => ?_)
 obtain ⟨mk, M, L, rfl, hm1, hfm, hwm, hx1, hlab⟩ := h5
 haveI : ExtI _ H1 := ⟨hx1⟩
 haveI := hm1.one
 have hE1 : Ext H H1 := Ext0.ext
 haveI hrI : HasRow H1 H.n [.int .i64 (a : Int), .int .i64 (b : Int), p] true (2 * 29) := inferInstance
 have hML : (cN M).length = a * b := by rw [cN_length]; exact hlab.len
 refine mT ?_
 refine xt ?_
 refine xt ?_
 refine mv ?_
 refine mI ?_
 refine nl hKF ?_
 refine sq ?_
 refine rg fun KF hKF => ?_
 refine mI ?_
 refine WpO.do (WpX.mkC (n := L.length) (K0 := H1) a rfl rfl (by decide) (by have := hlab.few; omega) (Nat.le_refl _) fun q H2 hq hf hx2 => ?_)
 haveI := hq.row.one
 repeat first
  | refine mI ?_
  | (refine mv ?_)
  | (refine ln (by simp only [↓nrmL, nrmK, Nat.reduceEqDiff, ↓reduceIte]; rfl) ?_)
  | refine nl hKF ?_
  | refine sq ?_
  | refine rg fun KF hKF => ?_
  | refine Wp.block ?_
  | dsimp only [cond_true, cond_false]
 refine Wp.loopS [10,11,12,13,29,30,31,32,33,34,35,36,37,38,39,40,41,42,43,44,45,46,47,48,49,50,51,52,53,54,55,56,57,58,59,60,61,62,63,64,65,66,67,68] (fun i : Nat => [(29, .int .i64 (i : Int))]) (fun _ i H4 => i ≤ a * b ∧ (∃ C, C.length = L.length ∧ Cmps H1 H4 q a C (pxAll M L.length i) ∧ ∀ (k : Nat) c, C[k]? = some c → c.1 = bxL a (pxs M i k)) ∧ IntsI H4 mk (cN M) ∧ HasRow H4 H.n [.int .i64 (a : Int), .int .i64 (b : Int), p] true (2 * 29) ∧ Ext0 H1 H4) (fun i => a * b - i) 0 rfl (fun _ => rfl) ⟨rfl, trivial⟩ ⟨Nat.zero_le _, ⟨noC L.length, List.length_replicate .., by rw [pxAll_zero]; exact hq, fun k c hc => by rw [rep_at hc]; rfl⟩, inferInstance, inferInstance, inferInstance⟩ (by unfold fuel0 at hn; omega) ?_
 rintro i g H4 ⟨hi, ⟨C, hCL, hC, hbx⟩, hb4, hr4, hx4⟩
 simp only [↓nrmL, nrmZ, Nat.reduceEqDiff, ↓reduceIte, Nat.reduceAdd, Int.reduceBEq, Int.reduceBNe]
 cases hc : decide ((i : Int) < ((cN M).length : Int))
 ·have hil : i = a * b := by have := of_decide_eq_false hc; omega
  subst hil
  repeat first
   | refine mI ?_
   | (refine mv ?_)
   | (refine bn rfl rfl rfl (by simp only [hc]; rfl) ?_)
   | refine nl hKF ?_
   | refine sq ?_
   | refine rg fun KF hKF => ?_
   | refine cf rfl ?_
   | refine rt ?_
   | refine xi ?_
   | dsimp only [cond_true, cond_false]
  refine rz trivial ?_
  exact ⟨q, H1, M, L, C, rfl, hE1, ⟨hlab, hC, hbx, hCL⟩, hf, hE1.trans Ext0.ext⟩
 have hil : i < a * b := by have := of_decide_eq_true hc; omega
 have hw1 := wa1 (a := i) (by omega)
 have hiM : i < (cN M).length := by omega
 have hge : (cN M)[i]'hiM = ((M.getD i 0 : Nat) : Int) := cN_get _
 cases hz0 : (((M.getD i 0 : Nat) : Int) == 0)
 rotate_left
 ·have h0 : M.getD i 0 = 0 := by have := eq_of_beq hz0; omega
  repeat first
   | refine mI ?_
   | (refine bn rfl rfl rfl (by simp only [hc, hge, hz0]; rfl) ?_)
   | refine b0 ?_
   | (refine Fo.idx (by simp only [↓nrmL, nrmK, Nat.reduceEqDiff, ↓reduceIte]; rfl) rfl ?_ (by simp only [↓nrmL, nrmZ, Nat.reduceEqDiff, ↓reduceIte, Nat.reduceAdd, Int.reduceBEq, Int.reduceBNe, hc, hge, hz0]; rfl) ?_; (focus omega))
   | (refine Fo.ldI rfl ?_ (by simp only [hc, hge, hz0]; rfl) ?_; (focus omega))
   | refine nl hKF ?_
   | refine sq ?_
   | refine rg fun KF hKF => ?_
   | refine ct rfl ?_
   | refine sk ?_
   | refine Wp.block ?_
   | refine xi ?_
   | dsimp only [cond_true, cond_false]
  refine ⟨i + 1, by omega, ⟨by simp only [↓nrmL, nrmZ, Nat.reduceEqDiff, ↓reduceIte, Nat.reduceAdd, Int.reduceBEq, Int.reduceBNe]; rw [hw1], trivial⟩, hil, ⟨C, hCL, by rw [pxAll_skip h0]; exact hC, fun k c hk => by rw [pxs_miss (by omega)]; exact hbx k c hk⟩, inferInstance, inferInstance, inferInstance⟩
 have h0 : M.getD i 0 ≠ 0 := by have := ne_of_beq_false hz0; omega
 have hlt := hlab.whole.lt i
 try dsimp only at hlt
 obtain ⟨k, hk⟩ : ∃ k, M.getD i 0 = k + 1 := ⟨M.getD i 0 - 1, by omega⟩
 have hkL : k < L.length := by omega
 have hkC : k < C.length := by omega
 obtain ⟨c, hck⟩ : ∃ c, C[k]? = some c := ⟨C[k], List.getElem?_eq_getElem hkC⟩
 have hPk := pxAll_at (M := M) (i := i) hkL
 have hown := hC.own k c _ hck hPk
 have hcr := hC.row
 rw [hk] at hge
 have hs1 : IntKind.i64.wrap (((k + 1 : Nat) : Int) - 1) = (k : Int) := by rw [w64 (by have := hlab.few; omega)]; omega
 have hi6 : i < 640 * 640 := by omega
 have hL6 := hlab.few
 obtain ⟨a', rfl⟩ : ∃ a', a = a' + 1 := ⟨a - 1, by have := (div_lt hil).1; omega⟩
 have t1 : (i : Int).tmod ((a' + 1 : Nat) : Int) = ((i % (a' + 1) : Nat) : Int) := rfl
 have t2 : IntKind.i64.wrap ((i : Int).tdiv ((a' + 1 : Nat) : Int)) = ((i / (a' + 1) : Nat) : Int) := by
  show IntKind.i64.wrap ((i / (a' + 1) : Nat) : Int) = _
  have h9 := Nat.div_le_self i (a' + 1)
  generalize i / (a' + 1) = z at h9
  exact w64 (by omega)
 repeat first
  | refine mI ?_
  | refine mP ?_
  | (refine mv ?_)
  | (refine bn rfl rfl rfl (by simp only [hc, hge, hz0, hs1]; rfl) ?_)
  | refine b0 ?_
  | (refine Fo.idx (by simp only [↓nrmL, nrmK, Nat.reduceEqDiff, ↓reduceIte]; rfl) rfl ?_ (by simp only [↓nrmL, nrmZ, Nat.reduceEqDiff, ↓reduceIte, Nat.reduceAdd, Int.reduceBEq, Int.reduceBNe, hc, hge, hz0, hs1]; rfl) ?_; (focus omega))
  | (refine Fo.ldI rfl ?_ (by simp only [hc, hge, hz0, hs1]; rfl) ?_; (focus omega))
  | refine nl hKF ?_
  | refine sq ?_
  | refine rg fun KF hKF => ?_
  | refine ct rfl ?_
  | refine cf rfl ?_
  | refine sk ?_
  | refine Wp.block ?_
  | dsimp only [cond_true, cond_false]
 refine Fr.dregionE [.row [.int .i64 0, .int .i64 0] true (2 * 93)] ?_ fun KF hKF => ?_
 ·skip
  repeat first
   | exact oracle_none _ _ _ _ rfl
   | (refine oracle_pre rfl rfl rfl (exec_ld rfl rfl) ?_; (try simp only [↓nrmL, nrmZ, Nat.reduceEqDiff, ↓reduceIte, Nat.reduceAdd, Int.reduceBEq, Int.reduceBNe, t1, t2]))
   | (refine oracle_pre rfl rfl rfl rfl ?_; (try simp only [↓nrmL, nrmZ, Nat.reduceEqDiff, ↓reduceIte, Nat.reduceAdd, Int.reduceBEq, Int.reduceBNe, t1, t2]))
   | (refine oracle_made rfl rfl rfl ?_; (try simp only [↓nrmL, nrmZ, Nat.reduceEqDiff, ↓reduceIte, Nat.reduceAdd, Int.reduceBEq, Int.reduceBNe, t1, t2]))
 simp only [pushAll]
 repeat first
  | (refine Er rfl (exec_ld rfl rfl) rfl ?_)
  | (refine Fe.pure rfl rfl (by simp only [t1, t2]; rfl) ?_)
  | (refine Fe.pure rfl rfl (by simp only [↓nrmL, nrmZ, Nat.reduceEqDiff, ↓reduceIte, Nat.reduceAdd, Int.reduceBEq, Int.reduceBNe, t1, t2]; rfl) ?_)
  | (refine Em rfl rfl ghost_of rfl ?_)
  | (refine Ee rfl (xs rfl (by (try simp only [t1, t2]); rfl) rfl rfl rfl (by (try simp only [t1, t2]); rfl)) ?_)
  | refine WpE.nil (hKF _ _ ?_)
 refine sq ?_
 obtain ⟨hq4, hq5⟩ := cellsC_at hck
 refine Fr.dregion0 rfl fun KF hKF => ?_
 repeat first
  | (refine Fe.pure rfl rfl (by simp only [↓nrmL, nrmZ, Nat.reduceEqDiff, ↓reduceIte, Nat.reduceAdd, Int.reduceBEq, Int.reduceBNe]; rfl) ?_)
  | refine Fe.pure rfl rfl rfl ?_
 refine Fe.read rfl (exec_ldNP (p := q) (j := k * 5) rfl (by decide) (by rw [cellsC_length]; omega) hq4) rfl trivial ?_
 repeat first
  | (refine Er rfl (exec_ldN rfl rfl (by simp only [↓nrmL, nrmZ, Nat.reduceEqDiff, ↓reduceIte, Nat.reduceAdd, Int.reduceBEq, Int.reduceBNe]; rfl)) rfl ?_)
  | refine Fe.pure rfl rfl rfl ?_
  | (refine Fe.pcall (v' := ?_) rfl hn rfl (by simp only [↓nrmL, nrmZ, Nat.reduceEqDiff, ↓reduceIte, Nat.reduceAdd, Int.reduceBEq, Int.reduceBNe, List.map]; rfl) rfl ?hv fun _ _ => ar ?_; case hv => rfl)
 haveI := hC.wr
 refine WpE.stPN (p := q) (j := k * 5) (m := 4) (vs := (bxS c.1 ((i % (a' + 1) : Nat) : Int) ((i / (a' + 1) : Nat) : Int)).cells) rfl rfl rfl rfl (bx_cells _).1 (by decide) (bx_cells _).2 (by rw [cellsC_length]; omega) fun H5 s5 w5 x5 => ar ?_
 rw [cellsC_box _ _ _ (bxS c.1 ((i % (a' + 1) : Nat) : Int) ((i / (a' + 1) : Nat) : Int)) hck] at s5
 refine WpE.nil (hKF _ _ ?_)
 dsimp only [cond_true, cond_false]
 have hck2 : (C.set k (bxS c.1 ((i % (a' + 1) : Nat) : Int) ((i / (a' + 1) : Nat) : Int), c.2))[k]? = some (bxS c.1 ((i % (a' + 1) : Nat) : Int) ((i / (a' + 1) : Nat) : Int), c.2) := List.getElem?_set_self hkC
 obtain ⟨_, hq6⟩ := cellsC_at hck2
 haveI := w5
 haveI : SepS c.2 q := hC.sepq k c hck
 haveI : FreshS H1 c.2 := hC.fresh k c hck
 have hcsl := hown.sl
 haveI : OneV c.2 := hcsl.one
 have hpl := pxs_le M i k
 refine Fr.dregionE [.row [.int .i64 ((i % (a' + 1) : Nat) : Int), .int .i64 ((i / (a' + 1) : Nat) : Int)] true (2 * 93)] ?_ fun KF hKF => ?_
 ·skip
  repeat first
   | (refine oracle_pre rfl rfl rfl rfl ?_; (try simp only [↓nrmL, nrmZ, Nat.reduceEqDiff, ↓reduceIte, Nat.reduceAdd, Int.reduceBEq, Int.reduceBNe]))
  refine oracle_pre rfl rfl rfl (exec_ldP (p := q) (j := k * 5 + 4) rfl hq6) ?_
  refine oracle_pre rfl rfl rfl (exec_ldN rfl rfl rfl) ?_; (try simp only [↓nrmL, nrmZ, Nat.reduceEqDiff, ↓reduceIte, Nat.reduceAdd, Int.reduceBEq, Int.reduceBNe])
  refine oracle_made rfl rfl rfl ?_; (try simp only [↓nrmL, nrmZ, Nat.reduceEqDiff, ↓reduceIte, Nat.reduceAdd, Int.reduceBEq, Int.reduceBNe])
  exact oracle_none _ _ _ _ rfl
 simp only [pushAll]
 repeat first
  | (refine Fe.pure rfl rfl (by simp only [↓nrmL, nrmZ, Nat.reduceEqDiff, ↓reduceIte, Nat.reduceAdd, Int.reduceBEq, Int.reduceBNe]; rfl) ?_)
  | refine Fe.pure rfl rfl rfl ?_
 refine Fe.read rfl (exec_ldP (p := q) (j := k * 5 + 4) rfl hq6) rfl trivial ?_
 refine Er rfl (exec_ldN rfl rfl (by simp only [↓nrmL, nrmZ, Nat.reduceEqDiff, ↓reduceIte, Nat.reduceAdd, Int.reduceBEq, Int.reduceBNe]; rfl)) rfl ?_
 refine Em rfl rfl ghost_of rfl ?_
 haveI : SepS q c.2 := (hC.sepq k c hck).symm
 haveI hnew : SliceAt (H5.push (.row [.int .i64 ((i % (a' + 1) : Nat) : Int), .int .i64 ((i / (a' + 1) : Nat) : Int)] true (2 * 93))) (.slice H5.n 0 1 (some 1) 2) 2 1 [.int .i64 ((i % (a' + 1) : Nat) : Int), .int .i64 ((i / (a' + 1) : Nat) : Int)] := ⟨Or.inr ⟨H5.n, 0, some 1, _, true, _, rfl, Nat.lt_succ_self _, push_get_eq, Nat.le_refl _, rfl, Nat.le_refl _⟩⟩
 refine WpE.grow (p := c.2) (q := .slice H5.n 0 1 (some 1) 2) (cs := cellsK (a' + 1) (pxs M i k)) (new := [.int .i64 ((i % (a' + 1) : Nat) : Int), .int .i64 ((i / (a' + 1) : Nat) : Int)]) rfl rfl rfl (by decide) (by decide) (by decide) (by omega) rfl fun p' H7 o7 f7 x7 => ar ?_
 rw [← cellsK_snoc] at o7
 haveI := o7.sl.one
 have s7 : SliceAt H7 q 5 C.length (cellsC (C.set k (bxS c.1 ((i % (a' + 1) : Nat) : Int) ((i / (a' + 1) : Nat) : Int), c.2))) := inferInstance
 have w7 : WrS H7 q := inferInstance
 have hp'q : SepS p' q := inferInstance
 have hx7 : Ext0 H1 H7 := inferInstance
 have hb7 : IntsI H7 mk (cN M) := inferInstance
 have hr7 : HasRow H7 H.n [.int .i64 ((a' + 1 : Nat) : Int), .int .i64 (b : Int), p] true (2 * 29) := inferInstance
 refine Fe.pure rfl rfl rfl ?_
 refine Fe.pure rfl rfl rfl ?_
 refine WpE.stPN (p := q) (j := k * 5 + 4) (m := 1) (v := p') (vs := [p']) rfl rfl rfl (OneV.cells (v := p')) rfl (by decide) (by rw [List.all_cons, OneV.one (v := p')]; rfl) (by rw [cellsC_length, List.length_set]; omega) fun H9 s9 w9 x9 => ar ?_
 rw [setAt_one, cellsC_px _ _ _ _ hck2, List.set_set] at s9
 refine WpE.nil (hKF _ _ ?_)
 refine rg fun KF hKF => ?_
 refine b0 ?_
 refine mI ?_
 refine nl hKF ?_
 dsimp only [cond_true, cond_false]
 have hmv : (C.set k (bxS c.1 ((i % (a' + 1) : Nat) : Int) ((i / (a' + 1) : Nat) : Int), p')).length = L.length := by rw [List.length_set]; exact hCL
 refine ⟨i + 1, by omega, ⟨by simp only [↓nrmL, nrmZ, Nat.reduceEqDiff, ↓reduceIte, Nat.reduceAdd, Int.reduceBEq, Int.reduceBNe]; rw [hw1], trivial⟩, hil, ⟨C.set k (bxS c.1 ((i % (a' + 1) : Nat) : Int) ((i / (a' + 1) : Nat) : Int), p'), hmv, ?_, ?_⟩, inferInstance, inferInstance, inferInstance⟩
 ·rw [pxAll_next hk]
  refine hC.step hPk s9 w9 (OwnS.keep (H := H7) (by simpa using o7) (ExtP.n (p := q) (H := H7)) fun r off len cap sz e1 hr => ExtP.get (p := q) (H := H7) r hr ⟨fun r' off' len' cap' sz' e2 => fun h => hp'q.ne _ _ _ _ _ _ _ _ _ _ e1 e2 h.symm⟩) f7.weak (fun j d h1 h2 => ?_) hp'q (fun j d l' h1 h2 h3 => ?_)
  ·have hjL : j < L.length := by
    rw [← hCL]
    exact (List.getElem?_eq_some_iff.1 h1).1
   haveI o4 := hC.own j d _ h1 (pxAll_at hjL)
   haveI := o4.sl
   haveI : SepS d.2 q := hC.sepq j d h1
   have s5 : SliceAt (H5.push (.row [.int .i64 ((i % (a' + 1) : Nat) : Int), .int .i64 ((i / (a' + 1) : Nat) : Int)] true (2 * 93))) d.2 2 _ _ := inferInstance
   infer_instance
  ·haveI o4 := hC.own j d l' h2 h3
   haveI := o4.sl
   haveI : SepS d.2 q := hC.sepq j d h2
   haveI : SepS d.2 c.2 := hC.sep j k d c h2 hck h1
   have o7 : OwnS H7 d.2 2 l'.length (cellsK (a' + 1) l') 93 := inferInstance
   infer_instance
 ·intro j d hj
  rcases set_at hj with ⟨rfl, rfl⟩ | ⟨hne, hj⟩
  ·rw [pxs_hit hk, bxL_snoc, ← hbx j c hck]
  ·rw [pxs_miss (by omega)]; exact hbx j d hj
end Go.Am
namespace Go.Am
open Go
attribute [local irreducible] Wp WpO WpX WpE
theorem K_Despeckle {a b : Nat} {t : Int} {p : AVal} {H : AHeap} {l : List UInt8} [hp : BytesI H p l] [ht : Tabs H] (ok : Ok a b l) : Con ext prog 6 50 [.agg [.int .i64 a, .int .i64 b, p], .int .i64 t] H fun v H' => ∃ M L, Lab l a b true M L (a * b) ∧ InkRes H H' v (⟨a, b, spk 0 (fun n => !decide ((n : Int) ≥ t)) l (pxAll M L.length (a * b))⟩, 0) := by
 refine con_of (show prog 50 = some c50 from rfl) rfl rfl fun n hn => ?_
 haveI := hp.one
 have ha := ok.wa
 have hb := ok.hb
 have hll := ok.len
 have hab : a * b ≤ 640 * 640 := Nat.mul_le_mul ha hb
 repeat first
  | refine mI ?_
  | (refine Fo.ldN rfl rfl (by simp only [↓nrmL, nrmZ, Nat.reduceEqDiff, ↓reduceIte, Nat.reduceAdd, Int.reduceBEq, Int.reduceBNe]; rfl) ?_)
  | refine bA ?_
  | refine nw ?_
  | refine nl hKF ?_
  | refine sq ?_
  | refine rg fun KF hKF => ?_
 refine WpO.do (WpX.conD hn rfl rfl (by simp only [↓nrmL, nrmZ, Nat.reduceEqDiff, ↓reduceIte, Nat.reduceAdd, Int.reduceBEq, Int.reduceBNe, List.map] <;> rfl) (K_Components (e := true) ok) fun v H1 h5 => ?_)
 obtain ⟨q, K, M, L, C, e5, hHK, hcr, hfq, hx1⟩ := h5
 subst e5
 haveI : ExtI _ H1 := ⟨hx1⟩
 have hcl := hcr.cl (by omega)
 haveI := hcl.row
 haveI := hcl.row.one
 have hE1 : Ext H H1 := Ext0.ext
 repeat first
  | refine mI ?_
  | refine mT ?_
  | (refine mv ?_)
  | (refine Fo.ldN rfl rfl (by simp only [↓nrmL, nrmZ, Nat.reduceEqDiff, ↓reduceIte, Nat.reduceAdd, Int.reduceBEq, Int.reduceBNe]; rfl) ?_)
  | (refine bn rfl rfl rfl (by simp only [↓nrmL, nrmZ, Nat.reduceEqDiff, ↓reduceIte, Nat.reduceAdd, Int.reduceBEq, Int.reduceBNe]; rfl) ?_)
  | refine xt ?_
  | refine nl hKF ?_
  | refine sq ?_
  | refine rg fun KF hKF => ?_
  | refine cf rfl ?_
  | refine sk ?_
 refine WpO.do (WpX.conD hn rfl rfl (by simp only [↓nrmL, nrmZ, Nat.reduceEqDiff, ↓reduceIte, Nat.reduceAdd, Int.reduceBEq, Int.reduceBNe, List.map] <;> rfl) (K_twin (l := l) (by omega)) fun v H2 h5 => ?_)
 obtain ⟨o, e1, ho, hfo, hwo, hxo⟩ := h5
 subst e1
 try dsimp only at ho
 haveI : ExtI _ H2 := ⟨hxo⟩
 haveI := ho.one
 refine nw ?_
 refine so rfl (rfl : _ = AVal.agg _) rfl rfl rfl (by simp only [↓nrmL, nrmZ, Nat.reduceEqDiff, ↓reduceIte, Nat.reduceAdd, Int.reduceBEq, Int.reduceBNe]; rfl) ?_
 refine nl hKF ?_
 refine sq ?_
 refine sq ?_
 refine rg fun KF hKF => ?_
 refine mv ?_
 refine ln (by simp only [↓nrmL, nrmK, Nat.reduceEqDiff, ↓reduceIte]; rfl) ?_
 refine mI ?_
 refine nl hKF ?_
 refine Wp.block ?_
 dsimp only [cond_true, cond_false]
 obtain ⟨P, hPe⟩ : ∃ P, pxAll M L.length (a * b) = P := ⟨_, rfl⟩
 have hPlt : ∀ ps ∈ P, ∀ j ∈ ps, j < a * b := fun ps h1 j h2 => by
  rw [← hPe] at h1
  exact pxAll_lt h1 h2
 rw [hPe] at hcl
 have l1 := hcl.len
 have hf := hcl.few.1
 have kc := cellsC_length C
 have hg8 : Ext H1 H2 := hxo
 haveI hfo1 : FreshS H1 o := hfo
 haveI : RowNe o H2.n := inferInstance
 refine Wp.loopS [10,12,26,27,28,29,30,31,32,33,34,35,36,37,38,39,40,41,42,43,44,45,46,47,48,49,50,51,52,53,54] (fun i : Nat => [(26, .int .i64 (i : Int))]) (fun _ i H3 => i ≤ P.length ∧ BytesI H3 o (spk 0 (fun n => !decide ((n : Int) ≥ t)) l (P.take i)) ∧ WrS H3 o ∧ HasRow H3 H2.n [.int .i64 (a : Int), .int .i64 (b : Int), o] true (2 * 29) ∧ HasRow H3 (H.push (.row [.int .i64 (a : Int), .int .i64 (b : Int), p] true (2 * 29))).n [.int .i64 0, .int .i64 0, .nslice] true (2 * 29) ∧ Ext0 H1 H3) (fun i => P.length - i) 0 rfl (fun _ => rfl) ⟨rfl, trivial⟩ ⟨Nat.zero_le _, (by show BytesI _ o l; infer_instance), inferInstance, inferInstance, inferInstance, inferInstance⟩ (by unfold fuel0 at hn; omega) ?_
 rintro i g H3 ⟨hi, hbo, hwo, hr8, hr4, hx3⟩
 haveI : ExtI H1 H3 := ⟨hx3.ext⟩
 simp only [↓nrmL, nrmZ, Nat.reduceEqDiff, ↓reduceIte, Nat.reduceAdd, Int.reduceBEq, Int.reduceBNe]
 cases hc : decide ((i : Int) < ((C.length : Nat) : Int))
 ·have hie : i = P.length := by have := of_decide_eq_false hc; omega
  subst hie
  rw [List.take_length] at hbo
  haveI : Ext0 H H3 := ⟨hE1.trans hx3.ext⟩
  repeat first
   | refine mI ?_
   | (refine Fo.ldN rfl rfl (by simp only [↓nrmL, nrmZ, Nat.reduceEqDiff, ↓reduceIte, Nat.reduceAdd, Int.reduceBEq, Int.reduceBNe, hc]; rfl) ?_)
   | (refine bn rfl rfl rfl (by simp only [hc]; rfl) ?_)
   | (refine so rfl (rfl : _ = AVal.agg _) rfl rfl rfl (by simp only [↓nrmL, nrmZ, Nat.reduceEqDiff, ↓reduceIte, Nat.reduceAdd, Int.reduceBEq, Int.reduceBNe, hc]; rfl) ?_)
   | refine nl hKF ?_
   | refine sq ?_
   | refine rg fun KF hKF => ?_
   | refine cf rfl ?_
   | refine rt ?_
   | refine xi ?_
   | dsimp only [cond_true, cond_false]
  refine rz trivial ?_
  refine ⟨M, L, hcr.lab, ?_⟩
  rw [hPe]
  exact ⟨_, rfl, o, rfl, inferInstance, FreshS.weak (H := H) (K := H1) hfo1 (x := ⟨hE1⟩), inferInstance, Ext0.ext⟩
 have hil : i < P.length := by have := of_decide_eq_true hc; omega
 have hw := wa1 (a := i) (by omega)
 obtain ⟨p1, e1, s1, f1⟩ := (hcl.ext hx3.ext).at hil
 haveI hsep : SepS p1 o := by
  have h7 := (hcl.it i _ _ e1 (List.getElem?_eq_getElem hil)).2
  dsimp only at h7
  infer_instance
 have g1 := cellsC_all e1
 dsimp only at g1
 haveI := s1.one
 have hsn := spk_snoc 0 (fun n => !decide ((n : Int) ≥ t)) l (P.take i) P[i]
 rw [← take_snoc (List.getElem?_eq_getElem hil)] at hsn
 have hmem : P[i] ∈ P := List.getElem_mem _
 obtain ⟨ps, hps⟩ : ∃ ps, P[i] = ps := ⟨_, rfl⟩
 rw [hps] at g1 s1 f1 hsn hmem
 obtain ⟨cur, hcur⟩ : ∃ cur, spk 0 (fun n => !decide ((n : Int) ≥ t)) l (P.take i) = cur := ⟨_, rfl⟩
 have hcl' : cur.length = a * b := by rw [← hcur, spk_length, hll]
 rw [hcur] at hbo hsn
 generalize bxL a ps = bx at g1
 obtain ⟨x, y, w, h⟩ := bx
 unfold Bx.cells at g1
 simp only [List.cons_append, List.nil_append] at g1
 cases ht2 : decide (((ps.length : Nat) : Int) ≥ t)
 rotate_left
 ·have hsn2 : spk 0 (fun n => !decide ((n : Int) ≥ t)) l (P.take (i + 1)) = cur := by rw [hsn, ht2]; rfl
  repeat first
   | (refine bn rfl rfl rfl (by simp only [hc]; rfl) ?_)
   | (refine Fo.idx (by simp only [↓nrmL, nrmK, Nat.reduceEqDiff, ↓reduceIte]; rfl) rfl ?_ (by simp only [↓nrmL, nrmZ, Nat.reduceEqDiff, ↓reduceIte, Nat.reduceAdd, Int.reduceBEq, Int.reduceBNe, hc]; rfl) ?_; (focus omega))
   | refine nl hKF ?_
   | refine sq ?_
   | refine rg fun KF hKF => ?_
   | refine ct rfl ?_
   | refine sk ?_
   | refine Wp.block ?_
  refine Fo.now rfl (exec_ldNP (p := q) (j := i * 5) rfl (by decide) (by omega) g1) rfl ?_
  repeat first
   | refine mI ?_
   | refine fd ?_
   | refine Fo.ld rfl rfl ?_
   | (refine bn rfl rfl rfl (by simp only [ht2]; rfl) ?_)
   | refine b0 ?_
   | (refine ln (by simp only [↓nrmL, nrmK, Nat.reduceEqDiff, ↓reduceIte]; rfl) ?_)
   | refine nw ?_
   | (refine so rfl (rfl : _ = AVal.agg _) rfl rfl rfl (by simp only [↓nrmL, nrmZ, Nat.reduceEqDiff, ↓reduceIte, Nat.reduceAdd, Int.reduceBEq, Int.reduceBNe, ht2]; rfl) ?_)
   | refine nl hKF ?_
   | refine sq ?_
   | refine rg fun KF hKF => ?_
   | refine ct rfl ?_
   | refine xi ?_
   | dsimp only [cond_true, cond_false]
  refine ⟨i + 1, by omega, ⟨by simp only [↓nrmL, nrmZ, Nat.reduceEqDiff, ↓reduceIte, Nat.reduceAdd, Int.reduceBEq, Int.reduceBNe]; rw [hw], trivial⟩, hil, by rw [hsn2]; infer_instance, inferInstance, inferInstance, inferInstance, inferInstance⟩
 have hsn2 : spk 0 (fun n => !decide ((n : Int) ≥ t)) l (P.take (i + 1)) = setPx 0 cur ps := by rw [hsn, ht2]; rfl
 repeat first
  | (refine bn rfl rfl rfl (by simp only [hc]; rfl) ?_)
  | (refine Fo.idx (by simp only [↓nrmL, nrmK, Nat.reduceEqDiff, ↓reduceIte]; rfl) rfl ?_ (by simp only [↓nrmL, nrmZ, Nat.reduceEqDiff, ↓reduceIte, Nat.reduceAdd, Int.reduceBEq, Int.reduceBNe, hc]; rfl) ?_; (focus omega))
  | refine nl hKF ?_
  | refine sq ?_
  | refine rg fun KF hKF => ?_
  | refine ct rfl ?_
  | refine sk ?_
  | refine Wp.block ?_
 refine Fo.now rfl (exec_ldNP (p := q) (j := i * 5) rfl (by decide) (by omega) g1) rfl ?_
 repeat first
  | refine mI ?_
  | refine fd ?_
  | refine Fo.ld rfl rfl ?_
  | (refine bn rfl rfl rfl (by simp only [ht2]; rfl) ?_)
  | (refine ln (by simp only [↓nrmL, nrmK, Nat.reduceEqDiff, ↓reduceIte]; rfl) ?_)
  | refine nw ?_
  | (refine so rfl (rfl : _ = AVal.agg _) rfl rfl rfl (by simp only [↓nrmL, nrmZ, Nat.reduceEqDiff, ↓reduceIte, Nat.reduceAdd, Int.reduceBEq, Int.reduceBNe, ht2]; rfl) ?_)
  | refine nl hKF ?_
  | refine sq ?_
  | refine rg fun KF hKF => ?_
  | refine cf rfl ?_
  | refine sk ?_
  | refine Wp.block ?_
  | dsimp only [cond_true, cond_false]
 refine Wp.loopS [12,38,39,40,41,42,43,44,45,46,47,48,49,50,51,52,53] (fun k : Nat => [(38, .int .i64 (k : Int))]) (fun _ k H4 => k ≤ ps.length ∧ BytesI H4 o (setPx 0 cur (ps.take k)) ∧ WrS H4 o ∧ HasRow H4 H2.n [.int .i64 (a : Int), .int .i64 (b : Int), o] true (2 * 29) ∧ HasRow H4 (H.push (.row [.int .i64 (a : Int), .int .i64 (b : Int), p] true (2 * 29))).n [.int .i64 0, .int .i64 0, .nslice] true (2 * 29) ∧ SliceAt H4 p1 2 ps.length (cellsK a ps) ∧ Ext0 H1 H4) (fun k => ps.length - k) 0 rfl (fun _ => rfl) ⟨rfl, trivial⟩ ⟨Nat.zero_le _, (by show BytesI _ o cur; infer_instance), inferInstance, inferInstance, inferInstance, inferInstance, inferInstance⟩ (by unfold fuel0 at hn; omega) ?_
 rintro k gk H4 ⟨hk, hbo4, hwo4, hr84, hr44, hs4, hx4⟩
 haveI : ExtI H1 H4 := ⟨hx4.ext⟩
 simp only [↓nrmL, nrmZ, Nat.reduceEqDiff, ↓reduceIte, Nat.reduceAdd, Int.reduceBEq, Int.reduceBNe]
 cases hck : decide ((k : Int) < ((ps.length : Nat) : Int))
 ·have hke : k = ps.length := by have := of_decide_eq_false hck; omega
  subst hke
  rw [List.take_length, ← hsn2] at hbo4
  repeat first
   | refine mI ?_
   | (refine bn rfl rfl rfl (by simp only [hck]; rfl) ?_)
   | refine b0 ?_
   | refine nl hKF ?_
   | refine sq ?_
   | refine rg fun KF hKF => ?_
   | refine cf rfl ?_
   | refine xi ?_
   | dsimp only [cond_true, cond_false]
  refine ⟨i + 1, by omega, ⟨by simp only [↓nrmL, nrmZ, Nat.reduceEqDiff, ↓reduceIte, Nat.reduceAdd, Int.reduceBEq, Int.reduceBNe]; rw [hw], trivial⟩, hil, inferInstance, inferInstance, inferInstance, inferInstance, inferInstance⟩
 have hkl : k < ps.length := by have := of_decide_eq_true hck; omega
 have hwk := wa1 (a := k) (by omega)
 have hkl2 := cellsK_length a ps
 obtain ⟨z, hz⟩ : ∃ z, ps[k] = z := ⟨_, rfl⟩
 have gk2 := cellsK_at (a := a) hkl
 rw [hz] at gk2
 have hza : z < a * b := by rw [← hz]; exact hPlt ps hmem _ (List.getElem_mem _)
 obtain ⟨hh1, hh2, hh3, hh4⟩ := div_lt hza
 have m1 : IntKind.i64.wrap (((z / a : Nat) : Int) * (a : Int)) = ((z / a * a : Nat) : Int) := wm (by omega)
 have m2 : IntKind.i64.wrap (((z / a * a : Nat) : Int) + ((z % a : Nat) : Int)) = (z : Int) := by rw [wa (by omega)]; omega
 have hset := setPx_snoc 0 cur (ps.take k) z
 rw [← hz, ← take_snoc (List.getElem?_eq_getElem hkl)] at hset
 rw [hz] at hset
 repeat first
  | (refine bn rfl rfl rfl (by simp only [hck]; rfl) ?_)
  | (refine Fo.idx (by simp only [↓nrmL, nrmK, Nat.reduceEqDiff, ↓reduceIte]; rfl) rfl ?_ (by simp only [↓nrmL, nrmZ, Nat.reduceEqDiff, ↓reduceIte, Nat.reduceAdd, Int.reduceBEq, Int.reduceBNe, hck]; rfl) ?_; (focus omega))
  | refine nl hKF ?_
  | refine sq ?_
  | refine rg fun KF hKF => ?_
  | refine ct rfl ?_
  | refine sk ?_
  | refine Wp.block ?_
 refine Fo.now rfl (exec_ldNP (p := p1) (j := k * 2) rfl (by decide) (by omega) gk2) rfl ?_
 have hzl : z < (setPx 0 cur (ps.take k)).length := by rw [setPx_length]; omega
 repeat first
  | refine fd ?_
  | refine Fo.ld rfl rfl ?_
  | (refine bn rfl rfl rfl (by simp only [m1, m2]; rfl) ?_)
  | refine nw ?_
  | (refine Fo.idx (by simp only [↓nrmL, nrmK, Nat.reduceEqDiff, ↓reduceIte]; rfl) rfl ?_ (by simp only [↓nrmL, nrmZ, Nat.reduceEqDiff, ↓reduceIte, Nat.reduceAdd, Int.reduceBEq, Int.reduceBNe, m1, m2]; rfl) ?_; (focus omega))
  | (refine so rfl (rfl : _ = AVal.agg _) rfl rfl rfl (by simp only [↓nrmL, nrmZ, Nat.reduceEqDiff, ↓reduceIte, Nat.reduceAdd, Int.reduceBEq, Int.reduceBNe, m1, m2]; rfl) ?_)
  | refine nl hKF ?_
  | refine rg fun KF hKF => ?_
 refine WpO.do' (WpX.stB (p := o) (j := z) (l := setPx 0 cur (ps.take k)) 0 rfl rfl rfl (by rw [setPx_length]; omega) fun H6 hb6 hw6 hx6 => ?_)
 rw [← hset] at hb6
 refine nl hKF ?_
 refine rg fun KF hKF => ?_
 refine b0 ?_
 refine mI ?_
 refine nl hKF ?_
 dsimp only [cond_true, cond_false]
 refine ⟨k + 1, by omega, ⟨by simp only [↓nrmL, nrmZ, Nat.reduceEqDiff, ↓reduceIte, Nat.reduceAdd, Int.reduceBEq, Int.reduceBNe]; rw [hwk], trivial⟩, hkl, inferInstance, inferInstance, inferInstance, inferInstance, inferInstance, inferInstance⟩
end Go.Am
namespace Go.Am
open Go
attribute [local irreducible] Wp WpO WpX WpE
theorem K_step2 {gb rb rr : Nat} {w h t0 k0 s0 wi hi : Int} {p pi : AVal} {H : AHeap} {l li : List UInt8} {r1 r2 r3 : Bool} {e1 e2 e3 : TypeId} [hp : BytesI H p l] [HasRow H gb [.int .i64 w, .int .i64 h, p] r1 e1] [HasRow H rb [.ptr rr 0] r2 e2] [HasRow H rr [.int .i64 t0, .int .i64 k0, .int .i64 s0] r3 e3] [hpi : BytesI H pi li] : Con ext prog 5 43 [.agg [.int .i64 wi, .int .i64 hi, pi], .ptr gb 0, .ptr rb 0] H fun v H' => InkRes H H' v (thrSpec ⟨w, h, l⟩ t0) := by
 refine con_of (show prog 43 = some c43 from rfl) rfl rfl fun n hn => ?_
 haveI := hp.one
 haveI := hpi.one
 refine sq ?_
 refine rg fun KF hKF => ?_
 refine bA ?_
 refine nw ?_
 refine mI ?_
 refine nl hKF ?_
 refine sq ?_
 refine Fr.dregion0 rfl fun KF hKF => ?_
 repeat first
  | (refine Er rfl (exec_ld rfl rfl) rfl ?_)
  | (refine Er rfl (exec_ldN rfl rfl (by simp only [↓nrmL, nrmZ, Nat.reduceEqDiff, ↓reduceIte]; rfl)) rfl ?_)
  | (refine Fe.pure rfl rfl (by simp only [↓nrmL, nrmZ, Nat.reduceEqDiff, ↓reduceIte]; rfl) ?_)
  | refine Fe.pure rfl rfl rfl ?_
 refine Fe.con rfl hn rfl rfl (by simp only [↓nrmL, nrmZ, Nat.reduceEqDiff, ↓reduceIte, List.map] <;> rfl) (K_Threshold (w := w) (h := h) (l := l) (level := t0)) fun v H1 h5 => ?_
 obtain ⟨v, e1, q, e2, hq, hf, hw, hx⟩ := h5
 subst e1 e2
 haveI : ExtI _ H1 := ⟨hx⟩
 haveI := hq.one
 refine ar ?_
 repeat first
  | (refine Fe.pure rfl rfl (by simp only [↓nrmL, nrmZ, Nat.reduceEqDiff, ↓reduceIte]; rfl) ?_)
  | refine Fe.pure rfl rfl rfl ?_
  | (refine Ee rfl (xs rfl (by (try simp only [↓nrmL, nrmZ, Nat.reduceEqDiff, ↓reduceIte]); rfl) rfl rfl rfl (by (try simp only [↓nrmL, nrmZ, Nat.reduceEqDiff, ↓reduceIte]); rfl)) ?_)
  | refine WpE.nil (hKF _ _ ?_)
 refine rt ?_
 dsimp only [cond_true, cond_false]
 refine rz trivial ?_
 exact ⟨_, rfl, q, rfl, (show BytesI _ q (thrSpec ⟨w, h, l⟩ t0).1.px from inferInstance), hf.weak, inferInstance, Ext0.ext⟩
theorem K_step4 {rb rr : Nat} {t0 k0 s0 wi hi : Int} {pi : AVal} {H : AHeap} {li : List UInt8} {r2 r3 : Bool} {e2 e3 : TypeId} [HasRow H rb [.ptr rr 0] r2 e2] [HasRow H rr [.int .i64 t0, .int .i64 k0, .int .i64 s0] r3 e3] [hpi : BytesI H pi li] : Con ext prog 6 46 [.agg [.int .i64 wi, .int .i64 hi, pi], .ptr rb 0] H fun v H' => InkRes H H' v (unskewS ⟨wi, hi, li⟩ k0) := by
 refine con_of (show prog 46 = some c46 from rfl) rfl rfl fun n hn => ?_
 haveI := hpi.one
 refine sq ?_
 refine rg fun KF hKF => ?_
 refine bA ?_
 refine nw ?_
 refine mI ?_
 refine nl hKF ?_
 refine sq ?_
 refine Fr.dregion0 rfl fun KF hKF => ?_
 repeat first
  | (refine Er rfl (exec_ld rfl rfl) rfl ?_)
  | (refine Er rfl (exec_ldN rfl rfl (by simp only [↓nrmL, nrmZ, Nat.reduceEqDiff, ↓reduceIte]; rfl)) rfl ?_)
  | (refine Fe.pure rfl rfl (by simp only [↓nrmL, nrmZ, Nat.reduceEqDiff, ↓reduceIte]; rfl) ?_)
  | refine Fe.pure rfl rfl rfl ?_
 refine Fe.con rfl hn rfl rfl (by simp only [↓nrmL, nrmZ, Nat.reduceEqDiff, ↓reduceIte, List.map] <;> rfl) (K_Unskew (w := wi) (h := hi) (l := li) (k := k0)) fun v H1 h5 => ?_
 obtain ⟨v, e1, q, e2, hq, hf, hw, hx⟩ := h5
 subst e1 e2
 haveI : ExtI _ H1 := ⟨hx⟩
 haveI := hq.one
 refine ar ?_
 repeat first
  | (refine Fe.pure rfl rfl (by simp only [↓nrmL, nrmZ, Nat.reduceEqDiff, ↓reduceIte]; rfl) ?_)
  | refine Fe.pure rfl rfl rfl ?_
  | (refine Ee rfl (xs rfl (by (try simp only [↓nrmL, nrmZ, Nat.reduceEqDiff, ↓reduceIte]); rfl) rfl rfl rfl (by (try simp only [↓nrmL, nrmZ, Nat.reduceEqDiff, ↓reduceIte]); rfl)) ?_)
  | refine WpE.nil (hKF _ _ ?_)
 refine rt ?_
 dsimp only [cond_true, cond_false]
 refine rz trivial ?_
 exact ⟨_, rfl, q, rfl, (show BytesI _ q (unskewS ⟨wi, hi, li⟩ k0).1.px from inferInstance), hf.weak, inferInstance, Ext0.ext⟩
end Go.Am
namespace Go.Am
open Go
attribute [local irreducible] Wp WpO WpX WpE
theorem K_step1 {gb rb rr : Nat} {w h t0 k0 s0 wi hi : Int} {p pi : AVal} {H : AHeap} {l li : List UInt8} {r1 r2 : Bool} {e1 e2 e3 : TypeId} [hp : BytesI H p l] [HasRow H gb [.int .i64 w, .int .i64 h, p] r1 e1] [HasRow H rb [.ptr rr 0] r2 e2] [hr : HasRow H rr [.int .i64 t0, .int .i64 k0, .int .i64 s0] true e3] [hpi : BytesI H pi li] : Con ext prog 6 42 [.agg [.int .i64 wi, .int .i64 hi, pi], .ptr gb 0, .ptr rb 0] H fun v H' => v = .int .i64 (levelS ⟨w, h, l⟩).2 ∧ ∃ H1, Ext H H1 ∧ H' = H1.set rr (.row [.int .i64 (levelS ⟨w, h, l⟩).1, .int .i64 k0, .int .i64 s0] true e3) := by
 refine con_of (show prog 42 = some c42 from rfl) rfl rfl fun n hn => ?_
 haveI := hp.one
 haveI := hpi.one
 refine sq ?_
 refine rg fun KF hKF => ?_
 refine bA ?_
 refine mI ?_
 refine nl hKF ?_
 refine sq ?_
 refine Fr.dregion0 rfl fun KF hKF => ?_
 repeat first
  | (refine Er rfl (exec_ld rfl rfl) rfl ?_)
  | (refine Er rfl (exec_ldN rfl rfl (by simp only [↓nrmL, nrmZ, Nat.reduceEqDiff, ↓reduceIte]; rfl)) rfl ?_)
  | (refine Fe.pure rfl rfl (by simp only [↓nrmL, nrmZ, Nat.reduceEqDiff, ↓reduceIte]; rfl) ?_)
  | refine Fe.pure rfl rfl rfl ?_
  | (refine Ee rfl (xs rfl (by (try simp only [↓nrmL, nrmZ, Nat.reduceEqDiff, ↓reduceIte]); rfl) rfl rfl rfl (by (try simp only [↓nrmL, nrmZ, Nat.reduceEqDiff, ↓reduceIte]); rfl)) ?_)
  | (refine Fe.pcall (v' := ?_) rfl hn rfl (by simp only [↓nrmL, nrmZ, Nat.reduceEqDiff, ↓reduceIte, List.map]; rfl) rfl ?hv fun _ _ => ar ?_; case hv => rfl)
  | refine WpE.nil (hKF _ _ ?_)
 refine sq ?_
 refine rg fun KF hKF => ?_
 refine mI ?_
 refine mI ?_
 refine nl hKF ?_
 refine rt ?_
 dsimp only [cond_true, cond_false]
 refine rz trivial ?_
 exact ⟨rfl, _, Ext0.ext, rfl⟩
theorem K_step3 {rb rr : Nat} {t0 k0 s0 wi hi : Int} {pi : AVal} {H : AHeap} {li : List UInt8} {r2 : Bool} {e2 e3 : TypeId} [HasRow H rb [.ptr rr 0] r2 e2] [hr : HasRow H rr [.int .i64 t0, .int .i64 k0, .int .i64 s0] true e3] [hpi : BytesI H pi li] : Con ext prog 12 45 [.agg [.int .i64 wi, .int .i64 hi, pi], .ptr rb 0] H fun v H' => v = .int .i64 (findS ⟨wi, hi, li⟩).2 ∧ ∃ H1, Ext H H1 ∧ H' = H1.set rr (.row [.int .i64 t0, .int .i64 (findS ⟨wi, hi, li⟩).1, .int .i64 s0] true e3) := by
 refine con_of (show prog 45 = some c45 from rfl) rfl rfl fun n hn => ?_
 haveI := hpi.one
 refine sq ?_
 refine rg fun KF hKF => ?_
 refine bA ?_
 refine mI ?_
 refine nl hKF ?_
 refine sq ?_
 refine Fr.dregion0 rfl fun KF hKF => ?_
 repeat first
  | (refine Er rfl (exec_ld rfl rfl) rfl ?_)
  | (refine Er rfl (exec_ldN rfl rfl (by simp only [↓nrmL, nrmZ, Nat.reduceEqDiff, ↓reduceIte]; rfl)) rfl ?_)
  | (refine Fe.pure rfl rfl (by simp only [↓nrmL, nrmZ, Nat.reduceEqDiff, ↓reduceIte]; rfl) ?_)
  | refine Fe.pure rfl rfl rfl ?_
  | (refine Ee rfl (xs rfl (by (try simp only [↓nrmL, nrmZ, Nat.reduceEqDiff, ↓reduceIte]); rfl) rfl rfl rfl (by (try simp only [↓nrmL, nrmZ, Nat.reduceEqDiff, ↓reduceIte]); rfl)) ?_)
  | (refine Fe.pcall (v' := ?_) rfl hn rfl (by simp only [↓nrmL, nrmZ, Nat.reduceEqDiff, ↓reduceIte, List.map]; rfl) rfl ?hv fun _ _ => ar ?_; case hv => rfl)
  | refine WpE.nil (hKF _ _ ?_)
 refine sq ?_
 refine rg fun KF hKF => ?_
 refine mI ?_
 refine mI ?_
 refine nl hKF ?_
 refine rt ?_
 dsimp only [cond_true, cond_false]
 refine rz trivial ?_
 exact ⟨rfl, _, Ext0.ext, rfl⟩
theorem K_step5 {rb rr : Nat} {t0 k0 s0 : Int} {vi : AVal} {H : AHeap} {r2 : Bool} {e2 e3 : TypeId} [HasRow H rb [.ptr rr 0] r2 e2] [hr : HasRow H rr [.int .i64 t0, .int .i64 k0, .int .i64 s0] true e3] {wi hi : Int} {pi : AVal} {li : List UInt8} [hpi : BytesI H pi li] : Con ext prog 1 48 [.agg [.int .i64 wi, .int .i64 hi, pi], .ptr rb 0] H fun v H' => v = .int .i64 0 ∧ ∃ H1, Ext H H1 ∧ H' = H1.set rr (.row [.int .i64 t0, .int .i64 k0, .int .i64 2] true e3) := by
 refine con_of (show prog 48 = some c48 from rfl) rfl rfl fun n hn => ?_
 haveI := hpi.one
 repeat first
  | refine mI ?_
  | refine fd ?_
  | refine Fo.ld rfl rfl ?_
  | refine bA ?_
  | refine Fo.now rfl rfl rfl ?_
  | (refine so rfl (rfl : _ = AVal.int _ _) rfl rfl rfl (by simp only [↓nrmL, nrmZ, Nat.reduceEqDiff, ↓reduceIte]; rfl) ?_)
  | refine nl hKF ?_
  | refine sq ?_
  | refine rg fun KF hKF => ?_
  | refine rt ?_
 refine rz trivial ?_
 exact ⟨rfl, _, Ext0.ext, rfl⟩
def properB (t k s : Int) : Bool := decide (t ≥ 0) && decide (t ≤ 256) && skB k && decide (s ≥ 0)
instance K_proper {t k s : Int} {H : AHeap} : PureCon ext prog 23 [.agg [.int .i64 t, .int .i64 k, .int .i64 s]] H 3 (.bool (properB t k s)) := ⟨by
 refine con_of (show prog 23 = some c23 from rfl) rfl rfl fun n hn => ?_
 unfold properB
 cases g1 : decide (t ≥ 0)
 ·skip
  repeat first
   | refine ox ?_
   | refine mB ?_
   | refine fd ?_
   | refine Fo.ld rfl rfl ?_
   | (refine bn rfl rfl rfl (by simp only [g1]; rfl) ?_)
   | refine fB ?_
   | refine bA ?_
   | refine nl hKF ?_
   | refine sq ?_
   | refine rg fun KF hKF => ?_
   | refine rt ?_
  refine rz trivial ?_
  exact ⟨rfl, Ext0.ext⟩
 cases g2 : decide (t ≤ 256)
 ·skip
  repeat first
   | refine oy ?_
   | refine ox ?_
   | refine mB ?_
   | refine fd ?_
   | refine Fo.ld rfl rfl ?_
   | (refine bn rfl rfl rfl (by simp only [g1, g2]; rfl) ?_)
   | refine tB ?_
   | refine fB ?_
   | refine bA ?_
   | refine nl hKF ?_
   | refine sq ?_
   | refine rg fun KF hKF => ?_
   | refine rt ?_
  refine rz trivial ?_
  exact ⟨rfl, Ext0.ext⟩
 cases g3 : skB k
 ·skip
  repeat first
   | refine oy ?_
   | refine ox ?_
   | refine mB ?_
   | refine fd ?_
   | refine Fo.ld rfl rfl ?_
   | (refine bn rfl rfl rfl (by simp only [g1, g2, g3]; rfl) ?_)
   | refine tB ?_
   | refine fB ?_
   | (refine Fo.pcall (v' := ?_) hn rfl (by simp only [↓nrmL, nrmZ, Nat.reduceEqDiff, ↓reduceIte, g1, g2, g3, List.map]; rfl) rfl ?hv fun _ _ => ?_; case hv => (simp only [g1, g2, g3]; rfl))
   | refine bA ?_
   | refine nl hKF ?_
   | refine sq ?_
   | refine rg fun KF hKF => ?_
   | refine rt ?_
  refine rz trivial ?_
  exact ⟨rfl, Ext0.ext⟩
 cases g4 : decide (s ≥ 0)
 ·skip
  repeat first
   | refine oy ?_
   | refine mB ?_
   | refine fd ?_
   | refine Fo.ld rfl rfl ?_
   | (refine bn rfl rfl rfl (by simp only [g1, g2, g3, g4]; rfl) ?_)
   | refine tB ?_
   | (refine Fo.pcall (v' := ?_) hn rfl (by simp only [↓nrmL, nrmZ, Nat.reduceEqDiff, ↓reduceIte, g1, g2, g3, g4, List.map]; rfl) rfl ?hv fun _ _ => ?_; case hv => (simp only [g1, g2, g3, g4]; rfl))
   | refine bA ?_
   | refine nl hKF ?_
   | refine sq ?_
   | refine rg fun KF hKF => ?_
   | refine rt ?_
  refine rz trivial ?_
  exact ⟨rfl, Ext0.ext⟩
 repeat first
  | refine oy ?_
  | refine mB ?_
  | refine fd ?_
  | refine Fo.ld rfl rfl ?_
  | (refine bn rfl rfl rfl (by simp only [g1, g2, g3, g4]; rfl) ?_)
  | refine tB ?_
  | (refine Fo.pcall (v' := ?_) hn rfl (by simp only [↓nrmL, nrmZ, Nat.reduceEqDiff, ↓reduceIte, g1, g2, g3, g4, List.map]; rfl) rfl ?hv fun _ _ => ?_; case hv => (simp only [g1, g2, g3, g4]; rfl))
  | refine bA ?_
  | refine nl hKF ?_
  | refine sq ?_
  | refine rg fun KF hKF => ?_
  | refine rt ?_
 refine rz trivial ?_
 exact ⟨rfl, Ext0.ext⟩⟩
end Go.Am
namespace Go.Am
open Go
attribute [local irreducible] Wp WpO WpX WpE
theorem K_step6 {rb rr a b : Nat} {t0 k0 s0 : Int} {pi : AVal} {H : AHeap} {li : List UInt8} {r2 r3 : Bool} {e2 e3 : TypeId} [HasRow H rb [.ptr rr 0] r2 e2] [HasRow H rr [.int .i64 t0, .int .i64 k0, .int .i64 s0] r3 e3] [hpi : BytesI H pi li] [ht : Tabs H] (ok : Ok a b li) : Con ext prog 8 49 [.agg [.int .i64 (a : Int), .int .i64 (b : Int), pi], .ptr rb 0] H fun v H' => ∃ M L, Lab li a b true M L (a * b) ∧ InkRes H H' v (⟨a, b, spk 0 (fun n => !decide ((n : Int) ≥ s0)) li (pxAll M L.length (a * b))⟩, 0) := by
 refine con_of (show prog 49 = some c49 from rfl) rfl rfl fun n hn => ?_
 haveI := hpi.one
 refine sq ?_
 refine rg fun KF hKF => ?_
 refine bA ?_
 refine nw ?_
 refine mI ?_
 refine nl hKF ?_
 refine sq ?_
 refine Fr.dregion0 rfl fun KF hKF => ?_
 repeat first
  | (refine Er rfl (exec_ld rfl rfl) rfl ?_)
  | (refine Er rfl (exec_ldN rfl rfl (by simp only [↓nrmL, nrmZ, Nat.reduceEqDiff, ↓reduceIte]; rfl)) rfl ?_)
  | (refine Fe.pure rfl rfl (by simp only [↓nrmL, nrmZ, Nat.reduceEqDiff, ↓reduceIte]; rfl) ?_)
  | refine Fe.pure rfl rfl rfl ?_
 refine Fe.con rfl hn rfl rfl (by simp only [↓nrmL, nrmZ, Nat.reduceEqDiff, ↓reduceIte, List.map] <;> rfl) (K_Despeckle (a := a) (b := b) (l := li) (t := s0) ok) fun v H1 h5 => ?_
 obtain ⟨M, L, hL, v, e1, q, e2, hq, hf, hw, hx⟩ := h5
 subst e1 e2
 haveI : ExtI _ H1 := ⟨hx⟩
 haveI := hq.one
 refine ar ?_
 repeat first
  | (refine Fe.pure rfl rfl (by simp only [↓nrmL, nrmZ, Nat.reduceEqDiff, ↓reduceIte]; rfl) ?_)
  | (refine Ee rfl (xs rfl (by (try simp only [↓nrmL, nrmZ, Nat.reduceEqDiff, ↓reduceIte]); rfl) rfl rfl rfl (by (try simp only [↓nrmL, nrmZ, Nat.reduceEqDiff, ↓reduceIte]); rfl)) ?_)
  | refine WpE.nil (hKF _ _ ?_)
 refine rt ?_
 dsimp only [cond_true, cond_false]
 refine rz trivial ?_
 exact ⟨M, L, hL, _, rfl, q, rfl, (show BytesI _ q (spk 0 (fun n => !decide ((n : Int) ≥ s0)) li (pxAll M L.length (a * b))) from inferInstance), hf.weak, inferInstance, Ext0.ext⟩
def stepCs (gb rb : Nat) : List AVal := [.func (.func 42) [] [.ptr gb 0, .ptr rb 0], .func (.func 43) [] [.ptr gb 0, .ptr rb 0], .func (.func 45) [] [.ptr rb 0], .func (.func 46) [] [.ptr rb 0], .func (.func 48) [] [.ptr rb 0], .func (.func 49) [] [.ptr rb 0]]
theorem K_steps {rr : Nat} {w h : Int} {p : AVal} {H : AHeap} {l : List UInt8} [hp : BytesI H p l] : Con ext prog 1 24 [.agg [.int .i64 w, .int .i64 h, p], .ptr rr 0] H fun v H' => ∃ e1 e2 e3, v = .slice ((H.push (.row [.int .i64 w, .int .i64 h, p] true e1)).push (.row [.ptr rr 0] true e2)).n 0 3 (some 3) 2 ∧ H' = ((H.push (.row [.int .i64 w, .int .i64 h, p] true e1)).push (.row [.ptr rr 0] true e2)).push (.row (stepCs H.n (H.push (.row [.int .i64 w, .int .i64 h, p] true e1)).n) true e3) := by
 refine con_of (show prog 24 = some c24 from rfl) rfl rfl fun n hn => ?_
 haveI := hp.one
 repeat first
  | refine mN ?_
  | (refine mv ?_)
  | refine bA ?_
  | refine Fo.box1 (rfl : _ = AVal.ptr _ _) ?_
  | (refine Fo.bslice rfl (by simp only [↓nrmL, nrmZ, Nat.reduceEqDiff, ↓reduceIte]; rfl) ?_)
  | (refine Fo.now rfl rfl (by simp only [↓nrmL, nrmZ, Nat.reduceEqDiff, ↓reduceIte]; rfl) ?_)
  | refine Fo.now rfl rfl rfl ?_
  | refine nl hKF ?_
  | refine sq ?_
  | refine rg fun KF hKF => ?_
  | refine rt ?_
 refine rz trivial ?_
 exact ⟨_, _, _, rfl, rfl⟩
end Go.Am
namespace Go.Am
open Go
section
variable {ext : Exts} {prog : FuncId → Option RFunc} {fr : AFrame} {H : AHeap} {K : AVal → AHeap → Prop}
theorem WpX.conC {n d D : Nat} {f : FuncId} {o : ROpd} {l : List ROpd} {args caps : List AVal} {Q : AVal → AHeap → Prop} (hn : fuel0 + D ≤ n) (hd : Nat.ble d D = true) (hf : o.ev fr = .func (.func f) [] caps) (hl : l.map (·.ev fr) ++ caps = args) (hc : Con ext prog d f args H Q)
    (h : ∀ v H', Q v H' → K v H') : WpX (.call o l) (callN ext prog n) fr H K := by
  obtain ⟨v, H', h1, h2⟩ := hc n (Nat.le_trans (Nat.add_le_add_left (Nat.le_of_ble_eq_true hd) _) hn)
  exact ⟨v, H', by simp only [ROp.exec, hf, aCallV, List.nil_append, hl]; exact h1, h _ _ h2⟩
end
end Go.Am
namespace Go.Am
open Go
attribute [local irreducible] Wp WpO WpX WpE
theorem K_ApplyE {w h t0 k0 s0 : Int} {p : AVal} {H : AHeap} {l : List UInt8} [hp : BytesI H p l] (h0 : sizedB w h l.length = false ∨ properB t0 k0 s0 = false) : Con ext prog 10 7 [.agg [.int .i64 w, .int .i64 h, p], .agg [.int .i64 t0, .int .i64 k0, .int .i64 s0]] H fun v H' => InkRes H H' v (.zero, bif sizedB w h l.length then 1 else 2) := by
 refine con_of (show prog 7 = some c7 from rfl) rfl rfl fun n hn => ?_
 haveI := hp.one
 cases hs : sizedB w h l.length
 ·have hse : sizeErr false = 2 := rfl
  repeat first
   | refine mI ?_
   | (refine Fo.ldN rfl rfl (by simp only [↓nrmL, nrmZ, Nat.reduceEqDiff, ↓reduceIte, hs, hse]; rfl) ?_)
   | (refine bn rfl rfl rfl (by simp only [↓nrmL, nrmZ, Nat.reduceEqDiff, ↓reduceIte, hs, hse]; rfl) ?_)
   | (refine Fo.pcall (v' := ?_) hn rfl (by simp only [↓nrmL, nrmZ, Nat.reduceEqDiff, ↓reduceIte, hs, hse, List.map]; rfl) rfl ?hv fun _ _ => ?_; case hv => (simp only [hs, hse]; rfl))
   | refine bA ?_
   | refine nw ?_
   | refine Fo.now rfl rfl rfl ?_
   | (refine so rfl (rfl : _ = AVal.agg _) rfl rfl rfl (by simp only [↓nrmL, nrmZ, Nat.reduceEqDiff, ↓reduceIte, hs, hse]; rfl) ?_)
   | refine nl hKF ?_
   | refine sq ?_
   | refine rg fun KF hKF => ?_
   | refine ct rfl ?_
   | refine rt ?_
  refine rz trivial ?_
  exact ⟨_, rfl, newZero⟩
 ·have hse : sizeErr true = 0 := rfl
  have hpr : properB t0 k0 s0 = false := by rcases h0 with q | q; rw [hs] at q; cases q; exact q
  repeat first
   | refine mI ?_
   | (refine Fo.ldN rfl rfl (by simp only [↓nrmL, nrmZ, Nat.reduceEqDiff, ↓reduceIte, hs, hse, hpr]; rfl) ?_)
   | (refine bn rfl rfl rfl (by simp only [↓nrmL, nrmZ, Nat.reduceEqDiff, ↓reduceIte, hs, hse, hpr]; rfl) ?_)
   | (refine Fo.pcall (v' := ?_) hn rfl (by simp only [↓nrmL, nrmZ, Nat.reduceEqDiff, ↓reduceIte, hs, hse, hpr, List.map]; rfl) rfl ?hv fun _ _ => ?_; case hv => (simp only [hs, hse, hpr]; rfl))
   | refine bA ?_
   | refine nw ?_
   | (refine Fo.now rfl rfl (by simp only [↓nrmL, nrmZ, Nat.reduceEqDiff, ↓reduceIte, hs, hse, hpr]; rfl) ?_)
   | refine Fo.now rfl rfl rfl ?_
   | (refine so rfl (rfl : _ = AVal.agg _) rfl rfl rfl (by simp only [↓nrmL, nrmZ, Nat.reduceEqDiff, ↓reduceIte, hs, hse, hpr]; rfl) ?_)
   | refine nl hKF ?_
   | refine sq ?_
   | refine rg fun KF hKF => ?_
   | refine ct rfl ?_
   | refine cf rfl ?_
   | refine sk ?_
   | refine rt ?_
  refine rz trivial ?_
  exact ⟨_, rfl, newZero⟩
end Go.Am
namespace Go.Am
open Go
attribute [local irreducible] Wp WpO WpX WpE
theorem thr_ok {a b : Nat} {t : Int} {l : List UInt8} (hs : sizedB a b l.length = true) (h1 : ¬ t < 0) (h2 : ¬ t > 256) : ∃ T, thrSpec ⟨a, b, l⟩ t = (⟨a, b, T⟩, 0) ∧ Ok a b T := by
 obtain ⟨a', b', e1, e2, h3, h4, h5⟩ := sized_nat hs
 refine ⟨_, thrSpec_ok hs h1 h2, ⟨by omega, by omega, ?_, ?_⟩⟩
 ·rw [List.length_map, h5, show a' = a by omega, show b' = b by omega]
 ·unfold pxOk
  rw [List.all_map, List.all_eq_true]
  intro x _
  simp only [Function.comp, thrB]
  split <;> rfl
def ApR (H H' : AHeap) (v : AVal) (a b : Nat) (l : List UInt8) (t k s : Int) : Prop :=
 ∃ T, thrSpec ⟨a, b, l⟩ t = (⟨a, b, T⟩, 0) ∧ Ok a b T ∧ ((¬ grN a k a ≤ b ∧ InkRes H H' v (.zero, 2)) ∨
  ∃ c U M L, b = c + grN a k a ∧ unskewS ⟨a, b, T⟩ k = (⟨a, c, U⟩, 0) ∧ Ok a c U ∧ Lab U a c true M L (a * c) ∧ InkRes H H' v (⟨a, c, spk 0 (fun n => !decide ((n : Int) ≥ s)) U (pxAll M L.length (a * c))⟩, 0))
theorem K_Apply {a b : Nat} {t0 k0 s0 : Int} {p : AVal} {H : AHeap} {l : List UInt8} [hp : BytesI H p l] [ht : Tabs H] (hs : sizedB a b l.length = true) (hpr : properB t0 k0 s0 = true) : Con ext prog 10 7 [.agg [.int .i64 a, .int .i64 b, p], .agg [.int .i64 t0, .int .i64 k0, .int .i64 s0]] H fun v H' => ApR H H' v a b l t0 k0 s0 := by
 refine con_of (show prog 7 = some c7 from rfl) rfl rfl fun n hn => ?_
 haveI := hp.one
 have hse : sizeErr true = 0 := rfl
 have v0 : IntKind.i64.wrap (0 + 1) = 1 := rfl
 have v1 : IntKind.i64.wrap (1 + 1) = 2 := rfl
 have v2 : IntKind.i64.wrap (2 + 1) = 3 := rfl
 have hpb : ((t0 ≥ 0 ∧ t0 ≤ 256) ∧ skB k0 = true) ∧ s0 ≥ 0 := by simpa [properB] using hpr
 have hsk := hpb.1.2
 obtain ⟨T, hT, okT⟩ := thr_ok (t := t0) hs (by omega) (by omega)
 repeat first
  | refine mI ?_
  | (refine Fo.ldN rfl rfl (by simp only [↓nrmL, nrmZ, Nat.reduceEqDiff, ↓reduceIte, Nat.reduceAdd, Int.reduceBEq, Int.reduceBNe, hs, hse, hpr]; rfl) ?_)
  | (refine bn rfl rfl rfl (by simp only [↓nrmL, nrmZ, Nat.reduceEqDiff, ↓reduceIte, Nat.reduceAdd, Int.reduceBEq, Int.reduceBNe, hs, hse, hpr]; rfl) ?_)
  | (refine Fo.pcall (v' := ?_) hn rfl (by simp only [↓nrmL, nrmZ, Nat.reduceEqDiff, ↓reduceIte, Nat.reduceAdd, Int.reduceBEq, Int.reduceBNe, hs, hse, hpr, List.map]; rfl) rfl ?hv fun _ _ => ?_; case hv => (simp only [hs, hse, hpr]; rfl))
  | refine bA ?_
  | refine nw ?_
  | (refine Fo.now rfl rfl (by simp only [↓nrmL, nrmZ, Nat.reduceEqDiff, ↓reduceIte, Nat.reduceAdd, Int.reduceBEq, Int.reduceBNe, hs, hse, hpr]; rfl) ?_)
  | refine nl hKF ?_
  | refine sq ?_
  | refine rg fun KF hKF => ?_
  | refine cf rfl ?_
  | refine sk ?_
 refine WpO.do (WpX.conD hn rfl rfl (by simp only [↓nrmL, nrmZ, Nat.reduceEqDiff, ↓reduceIte, Nat.reduceAdd, Int.reduceBEq, Int.reduceBNe, List.map] <;> rfl) (K_steps (w := a) (h := b) (l := l)) fun v H1 h5 => ?_)
 obtain ⟨e1, e2, e3, rfl, rfl⟩ := h5
 simp only [stepCs]
 refine Fo.now rfl rfl rfl ?_
 refine mI ?_
 refine nl hKF ?_
 refine Wp.block ?_
 dsimp only [cond_true, cond_false]
 refine Wp.rounds (WpN.round (by unfold fuel0 at hn; omega) ?_)
 repeat first
  | refine mI ?_
  | refine fd ?_
  | refine Fo.ld rfl rfl ?_
  | (refine Fo.ldN rfl rfl (by simp only [↓nrmL, nrmZ, Nat.reduceEqDiff, ↓reduceIte, Nat.reduceAdd, Int.reduceBEq, Int.reduceBNe]; rfl) ?_)
  | refine Fo.ldN rfl rfl rfl ?_
  | refine b0 ?_
  | refine nw ?_
  | (refine Fo.now rfl rfl (by simp only [↓nrmL, nrmZ, Nat.reduceEqDiff, ↓reduceIte, Nat.reduceAdd, Int.reduceBEq, Int.reduceBNe]; rfl) ?_)
  | (refine so rfl (rfl : _ = AVal.agg _) rfl rfl rfl (by simp only [↓nrmL, nrmZ, Nat.reduceEqDiff, ↓reduceIte, Nat.reduceAdd, Int.reduceBEq, Int.reduceBNe]; rfl) ?_)
  | refine nl hKF ?_
  | refine sq ?_
  | refine rg fun KF hKF => ?_
  | refine ct rfl ?_
  | refine sk ?_
  | refine Wp.block ?_
 refine WpO.do (WpX.conC hn rfl rfl (by simp only [↓nrmL, nrmZ, Nat.reduceEqDiff, ↓reduceIte, Nat.reduceAdd, Int.reduceBEq, Int.reduceBNe, List.map] <;> rfl) (K_step2 (w := a) (h := b) (l := l) (t0 := t0) (k0 := k0) (s0 := s0) (wi := 0) (hi := 0) (li := [])) fun v H1 h5 => ?_)
 rw [hT] at h5
 obtain ⟨v, e1, q, e2, hq, hf, hw, hx⟩ := h5
 subst e1 e2
 try dsimp only at hq
 haveI : ExtI _ H1 := ⟨hx⟩
 haveI := hq.one
 repeat first
  | refine mI ?_
  | refine mT ?_
  | (refine bn rfl rfl rfl (by simp only [↓nrmL, nrmZ, Nat.reduceEqDiff, ↓reduceIte, Nat.reduceAdd, Int.reduceBEq, Int.reduceBNe]; rfl) ?_)
  | refine b0 ?_
  | refine xt ?_
  | (refine so rfl (rfl : _ = AVal.agg _) rfl rfl rfl (by simp only [↓nrmL, nrmZ, Nat.reduceEqDiff, ↓reduceIte, Nat.reduceAdd, Int.reduceBEq, Int.reduceBNe]; rfl) ?_)
  | refine nl hKF ?_
  | refine sq ?_
  | refine rg fun KF hKF => ?_
  | refine cf rfl ?_
  | refine sk ?_
  | dsimp only [cond_true, cond_false]
 refine WpN.round (by unfold fuel0 at hn; omega) ?_
 simp only [v0]
 repeat first
  | refine mI ?_
  | refine fd ?_
  | refine Fo.ld rfl rfl ?_
  | (refine Fo.ldN rfl rfl (by simp only [↓nrmL, nrmZ, Nat.reduceEqDiff, ↓reduceIte, Nat.reduceAdd, Int.reduceBEq, Int.reduceBNe, v0]; rfl) ?_)
  | refine Fo.ldN rfl rfl rfl ?_
  | refine b0 ?_
  | refine nw ?_
  | (refine Fo.now rfl rfl (by simp only [↓nrmL, nrmZ, Nat.reduceEqDiff, ↓reduceIte, Nat.reduceAdd, Int.reduceBEq, Int.reduceBNe, v0]; rfl) ?_)
  | (refine so rfl (rfl : _ = AVal.agg _) rfl rfl rfl (by simp only [↓nrmL, nrmZ, Nat.reduceEqDiff, ↓reduceIte, Nat.reduceAdd, Int.reduceBEq, Int.reduceBNe, v0]; rfl) ?_)
  | refine nl hKF ?_
  | refine sq ?_
  | refine rg fun KF hKF => ?_
  | refine ct rfl ?_
  | refine sk ?_
  | refine Wp.block ?_
 refine WpO.do (WpX.conC hn rfl rfl (by simp only [↓nrmL, nrmZ, Nat.reduceEqDiff, ↓reduceIte, Nat.reduceAdd, Int.reduceBEq, Int.reduceBNe, List.map] <;> rfl) (K_step4 (t0 := t0) (k0 := k0) (s0 := s0) (wi := a) (hi := b) (li := T)) fun v H2 h5 => ?_)
 by_cases hg : grN a k0 a ≤ b
 rotate_left
 ·rw [(un_no okT hsk hg).1] at h5
  obtain ⟨v, e1, q2, e2, hq2, hf2, hw2, hx2⟩ := h5
  subst e1 e2
  try dsimp only [Img.zero] at hq2
  haveI : ExtI _ H2 := ⟨hx2⟩
  haveI := hq2.one
  repeat first
   | refine mI ?_
   | refine mT ?_
   | (refine bn rfl rfl rfl (by simp only [↓nrmL, nrmZ, Nat.reduceEqDiff, ↓reduceIte, Nat.reduceAdd, Int.reduceBEq, Int.reduceBNe]; rfl) ?_)
   | refine xt ?_
   | refine Fo.now rfl rfl rfl ?_
   | (refine so rfl (rfl : _ = AVal.agg _) rfl rfl rfl (by simp only [↓nrmL, nrmZ, Nat.reduceEqDiff, ↓reduceIte, Nat.reduceAdd, Int.reduceBEq, Int.reduceBNe]; rfl) ?_)
   | refine nl hKF ?_
   | refine sq ?_
   | refine rg fun KF hKF => ?_
   | refine ct rfl ?_
   | refine rt ?_
   | dsimp only [cond_true, cond_false]
  refine rz trivial ?_
  exact ⟨T, hT, okT, Or.inl ⟨hg, _, rfl, newZero⟩⟩
 obtain ⟨c, hc⟩ : ∃ c, b = c + grN a k0 a := ⟨b - grN a k0 a, by omega⟩
 obtain ⟨u1, u2, u3⟩ := un_ok okT hsk hc
 obtain ⟨U, hU⟩ : ∃ U, unskewL T a c k0 = U := ⟨_, rfl⟩
 rw [hU] at u1 u2
 rw [u1] at h5
 obtain ⟨v, e1, q2, e2, hq2, hf2, hw2, hx2⟩ := h5
 subst e1 e2
 try dsimp only at hq2
 haveI : ExtI _ H2 := ⟨hx2⟩
 haveI := hq2.one
 repeat first
  | refine mI ?_
  | refine mT ?_
  | (refine bn rfl rfl rfl (by simp only [↓nrmL, nrmZ, Nat.reduceEqDiff, ↓reduceIte, Nat.reduceAdd, Int.reduceBEq, Int.reduceBNe]; rfl) ?_)
  | refine b0 ?_
  | refine xt ?_
  | (refine so rfl (rfl : _ = AVal.agg _) rfl rfl rfl (by simp only [↓nrmL, nrmZ, Nat.reduceEqDiff, ↓reduceIte, Nat.reduceAdd, Int.reduceBEq, Int.reduceBNe]; rfl) ?_)
  | refine nl hKF ?_
  | refine sq ?_
  | refine rg fun KF hKF => ?_
  | refine cf rfl ?_
  | refine sk ?_
  | dsimp only [cond_true, cond_false]
 refine WpN.round (by unfold fuel0 at hn; omega) ?_
 simp only [v1]
 repeat first
  | refine mI ?_
  | refine fd ?_
  | refine Fo.ld rfl rfl ?_
  | (refine Fo.ldN rfl rfl (by simp only [↓nrmL, nrmZ, Nat.reduceEqDiff, ↓reduceIte, Nat.reduceAdd, Int.reduceBEq, Int.reduceBNe, v1]; rfl) ?_)
  | refine Fo.ldN rfl rfl rfl ?_
  | refine b0 ?_
  | refine nw ?_
  | (refine Fo.now rfl rfl (by simp only [↓nrmL, nrmZ, Nat.reduceEqDiff, ↓reduceIte, Nat.reduceAdd, Int.reduceBEq, Int.reduceBNe, v1]; rfl) ?_)
  | (refine so rfl (rfl : _ = AVal.agg _) rfl rfl rfl (by simp only [↓nrmL, nrmZ, Nat.reduceEqDiff, ↓reduceIte, Nat.reduceAdd, Int.reduceBEq, Int.reduceBNe, v1]; rfl) ?_)
  | refine nl hKF ?_
  | refine sq ?_
  | refine rg fun KF hKF => ?_
  | refine ct rfl ?_
  | refine sk ?_
  | refine Wp.block ?_
 refine WpO.do (WpX.conC hn rfl rfl (by simp only [↓nrmL, nrmZ, Nat.reduceEqDiff, ↓reduceIte, Nat.reduceAdd, Int.reduceBEq, Int.reduceBNe, List.map] <;> rfl) (K_step6 (t0 := t0) (k0 := k0) (s0 := s0) (a := a) (b := c) (li := U) u2) fun v H3 h5 => ?_)
 obtain ⟨M, L, hL, v, e1, q3, e2, hq3, hf3, hw3, hx3⟩ := h5
 subst e1 e2
 try dsimp only at hq3
 haveI : ExtI _ H3 := ⟨hx3⟩
 haveI := hq3.one
 repeat first
  | refine mI ?_
  | refine mT ?_
  | (refine bn rfl rfl rfl (by simp only [↓nrmL, nrmZ, Nat.reduceEqDiff, ↓reduceIte, Nat.reduceAdd, Int.reduceBEq, Int.reduceBNe]; rfl) ?_)
  | refine b0 ?_
  | refine xt ?_
  | (refine so rfl (rfl : _ = AVal.agg _) rfl rfl rfl (by simp only [↓nrmL, nrmZ, Nat.reduceEqDiff, ↓reduceIte, Nat.reduceAdd, Int.reduceBEq, Int.reduceBNe]; rfl) ?_)
  | refine nl hKF ?_
  | refine sq ?_
  | refine rg fun KF hKF => ?_
  | refine cf rfl ?_
  | refine sk ?_
  | dsimp only [cond_true, cond_false]
 refine WpN.round (by unfold fuel0 at hn; omega) ?_
 simp only [v2]
 repeat first
  | refine mI ?_
  | (refine Fo.ldN rfl rfl (by simp only [↓nrmL, nrmZ, Nat.reduceEqDiff, ↓reduceIte, Nat.reduceAdd, Int.reduceBEq, Int.reduceBNe, v2]; rfl) ?_)
  | refine b0 ?_
  | (refine so rfl (rfl : _ = AVal.agg _) rfl rfl rfl (by simp only [↓nrmL, nrmZ, Nat.reduceEqDiff, ↓reduceIte, Nat.reduceAdd, Int.reduceBEq, Int.reduceBNe, v2]; rfl) ?_)
  | refine nl hKF ?_
  | refine sq ?_
  | refine rg fun KF hKF => ?_
  | refine cf rfl ?_
  | refine rt ?_
  | refine xi ?_
  | dsimp only [cond_true, cond_false]
 refine rz trivial ?_
 exact ⟨T, hT, okT, Or.inr ⟨c, U, M, L, hc, u1, u2, hL, _, rfl, q3, rfl, (show BytesI _ q3 (spk 0 (fun n => !decide ((n : Int) ≥ s0)) U (pxAll M L.length (a * c))) from inferInstance), hf3.weak, inferInstance, Ext0.ext⟩⟩
end Go.Am
namespace Go.Am
open Go
theorem dropN_pos (w x m : Nat) : dropN w (m : Int) x = x * m / 64 := by
  unfold dropN dropZ
  rw [decide_eq_false (by omega), cond_false, show (x : Int) * (m : Int) = ((x * m : Nat) : Int) by push_cast; rfl]
  rw [show (((x * m : Nat) : Int)).tdiv 64 = (((x * m) / 64 : Nat) : Int) from rfl, Int.toNat_natCast]
theorem drop_zero (w x : Nat) : dropN w 0 x = 0 := by
  have := dropN_pos w x 0
  simpa using this
theorem fs_best (f : Int → Int × Int) (h0 : ∀ k, 0 ≤ (f k).1) : ∀ L : List Int, ((∀ k ∈ L, ((f k).2 == 0) = false) ∧ fsA f L = (0, -1)) ∨
    ∃ L1 b L2, L = L1 ++ b :: L2 ∧ ((f b).2 == 0) = true ∧ fsA f L = (b, (f b).1) ∧ (∀ k ∈ L1, ((f k).2 == 0) = true → (f k).1 < (f b).1) ∧ (∀ k ∈ L2, ((f k).2 == 0) = true → (f k).1 ≤ (f b).1) := by
  intro L
  obtain ⟨n, hn⟩ : ∃ n, L.length = n := ⟨_, rfl⟩
  induction n generalizing L with
  | zero =>
    have : L = [] := List.length_eq_zero_iff.1 hn
    subst this
    exact Or.inl ⟨by simp, rfl⟩
  | succ n ih =>
    obtain ⟨L', k, rfl⟩ : ∃ L' k, L = L' ++ [k] := by
      rcases List.eq_nil_or_concat L with h | ⟨L', k, h⟩
      · subst h; simp at hn
      · exact ⟨L', k, by rw [h, List.concat_eq_append]⟩
    have hl : L'.length = n := by simp at hn; exact hn
    rw [fsA_snoc]
    unfold fsStep
    cases hk : ((f k).2 == 0)
    · rw [cond_false]
      rcases ih L' hl with ⟨h1, h2⟩ | ⟨L1, b, L2, h1, h2, h3, h4, h5⟩
      · refine Or.inl ⟨fun j hj => ?_, h2⟩
        rcases List.mem_append.1 hj with q | q
        · exact h1 j q
        · rw [List.mem_singleton.1 q]; exact hk
      · refine Or.inr ⟨L1, b, L2 ++ [k], by rw [h1]; simp, h2, h3, h4, fun j hj hj2 => ?_⟩
        rcases List.mem_append.1 hj with q | q
        · exact h5 j q hj2
        · rw [List.mem_singleton.1 q, hk] at hj2; cases hj2
    · rw [cond_true]
      rcases ih L' hl with ⟨h1, h2⟩ | ⟨L1, b, L2, h1, h2, h3, h4, h5⟩
      · rw [h2, decide_eq_true (by have := h0 k; show (f k).1 > -1; omega), cond_true]
        exact Or.inr ⟨L', k, [], rfl, hk, rfl, fun j hj hj2 => (by rw [h1 j hj] at hj2; cases hj2), fun j hj => (by cases hj)⟩
      · rw [h3]
        cases hg : decide ((f k).1 > (f b).1)
        · have hg' := of_decide_eq_false hg
          rw [cond_false]
          refine Or.inr ⟨L1, b, L2 ++ [k], by rw [h1]; simp, h2, rfl, h4, fun j hj hj2 => ?_⟩
          rcases List.mem_append.1 hj with q | q
          · exact h5 j q hj2
          · rw [List.mem_singleton.1 q]; omega
        · have hg' := of_decide_eq_true hg
          rw [cond_true]
          refine Or.inr ⟨L', k, [], rfl, hk, rfl, fun j hj hj2 => ?_, fun j hj => (by cases hj)⟩
          rw [h1] at hj
          rcases List.mem_append.1 hj with q | q
          · have := h4 j q hj2; omega
          · rcases List.mem_cons.1 q with q | q
            · rw [q]; exact hg'
            · have := h5 j q hj2; omega
def absZ (k : Int) : Int := if -k > k then -k else k
theorem before_all : ∀ i < 7, ∀ j < 7, (absZ (skAll.getD j 0) < absZ (skAll.getD i 0) ∨ (absZ (skAll.getD j 0) = absZ (skAll.getD i 0) ∧ skAll.getD j 0 > skAll.getD i 0)) → j < i := by decide
theorem skAll_mem {k : Int} (h : -3 ≤ k ∧ k ≤ 3) : ∃ i, i < 7 ∧ skAll.getD i 0 = k := by
  have : k = -3 ∨ k = -2 ∨ k = -1 ∨ k = 0 ∨ k = 1 ∨ k = 2 ∨ k = 3 := by omega
  rcases this with rfl | rfl | rfl | rfl | rfl | rfl | rfl
  · exact ⟨6, by decide, rfl⟩
  · exact ⟨4, by decide, rfl⟩
  · exact ⟨2, by decide, rfl⟩
  · exact ⟨0, by decide, rfl⟩
  · exact ⟨1, by decide, rfl⟩
  · exact ⟨3, by decide, rfl⟩
  · exact ⟨5, by decide, rfl⟩
theorem found_best {f : Int → Int × Int} (h0 : ∀ k, 0 ≤ (f k).1) (hz : ((f 0).2 == 0) = true) : ∃ b, fsA f skAll = (b, (f b).1) ∧ -3 ≤ b ∧ b ≤ 3 ∧ ((f b).2 == 0) = true ∧
    ∀ k, -3 ≤ k ∧ k ≤ 3 → ((f k).2 == 0) = true → (f k).1 ≤ (f b).1 ∧ ((f k).1 = (f b).1 → ¬ absZ k < absZ b ∧ (absZ k = absZ b → ¬ k > b)) := by
  rcases fs_best f h0 skAll with ⟨h1, _⟩ | ⟨L1, b, L2, h1, h2, h3, h4, h5⟩
  · rw [h1 0 (by decide)] at hz; cases hz
  have hlen : L1.length + (L2.length + 1) = 7 := by
    have := congrArg List.length h1
    simp only [List.length_append, List.length_cons] at this
    rw [← this]; rfl
  have hgi : ∀ i, skAll.getD i 0 = (L1 ++ b :: L2).getD i 0 := fun i => by rw [← h1]
  have hbi : skAll.getD L1.length 0 = b := by
    rw [hgi, List.getD_eq_getElem?_getD, List.getElem?_append_right (Nat.le_refl _), Nat.sub_self]; rfl
  have hb : -3 ≤ b ∧ b ≤ 3 := by
    have := skAll_in L1.length (by omega)
    rw [hbi] at this
    exact skB_iff.1 this
  refine ⟨b, h3, hb.1, hb.2, h2, fun k hk hk2 => ?_⟩
  obtain ⟨j, hj, hjk⟩ := skAll_mem hk
  have hlow : j < L1.length → k ∈ L1 := fun q => by
    rw [← hjk, hgi, List.getD_eq_getElem?_getD, List.getElem?_append_left q, List.getElem?_eq_getElem q, Option.getD_some]
    exact List.getElem_mem q
  have hhigh : L1.length < j → k ∈ L2 := fun q => by
    rw [← hjk, hgi, List.getD_eq_getElem?_getD, List.getElem?_append_right (by omega)]
    obtain ⟨z, hz2⟩ : ∃ z, j - L1.length = z + 1 := ⟨j - L1.length - 1, by omega⟩
    rw [hz2, List.getElem?_cons_succ, List.getElem?_eq_getElem (by omega), Option.getD_some]
    exact List.getElem_mem _
  have hle : (f k).1 ≤ (f b).1 := by
    rcases Nat.lt_trichotomy j L1.length with q | q | q
    · exact Int.le_of_lt (h4 k (hlow q) hk2)
    · rw [← hjk, q, hbi]; exact Int.le_refl _
    · exact h5 k (hhigh q) hk2
  refine ⟨hle, fun he => ?_⟩
  have key := before_all L1.length (by omega) j hj
  rw [hjk, hbi] at key
  have hno : ¬ j < L1.length := fun q => by have := h4 k (hlow q) hk2; omega
  exact ⟨fun q => hno (key (Or.inl q)), fun q1 q2 => hno (key (Or.inr ⟨q1, q2⟩))⟩
end Go.Am
namespace Go.Am
open Go
attribute [local irreducible] Wp WpO WpX WpE
theorem gr_zero (w : Nat) : ∀ i, grN w 0 i = 0 := by
 intro i
 induction i with
 | zero => rfl
 | succ i ih => simp [grN, ih, drop_zero]
theorem fw_nonneg (g : Img) (k : Int) : 0 ≤ (fwS g k).1 := by
 unfold fwS
 cases (unskewS g k).2 == 0
 ·exact Int.le_refl 0
 ·simp only [cond_true, fullS]
  cases ((unskewS g k).1.err == 0)
  ·exact Int.le_refl 0
  ·exact Int.natCast_nonneg _
theorem find_un {a b : Nat} {T : List UInt8} (ok : Ok a b T) : ∃ k c U, findS ⟨a, b, T⟩ = (k, 0) ∧ k = (fsA (fwS ⟨a, b, T⟩) skAll).1 ∧ skB k = true ∧ b = c + grN a k a ∧ unskewS ⟨a, b, T⟩ k = (⟨a, c, U⟩, 0) ∧ Ok a c U := by
 have hfs0 : (fwS ⟨a, b, T⟩ 0).2 = 0 := by rw [(un_ok (k := 0) ok rfl (c := b) (by rw [gr_zero]; rfl)).2.2]
 obtain ⟨bs, hb0, hb3, hb4, hbz, _⟩ := found_best (f := fwS ⟨a, b, T⟩) (fw_nonneg _) (by rw [hfs0]; rfl)
 have hbk := skB_iff.2 ⟨hb3, hb4⟩
 have hgb : grN a bs a ≤ b := by
  refine Decidable.byContradiction fun h => ?_
  rw [(un_no ok hbk h).2] at hbz
  cases hbz
 obtain ⟨e, he⟩ : ∃ e, b = e + grN a bs a := ⟨b - grN a bs a, by omega⟩
 obtain ⟨u1, u2, _⟩ := un_ok ok hbk he
 exact ⟨bs, e, _, by simp only [findS, ok.err, beq_self_eq_true, cond_true, hb0], by rw [hb0], hbk, he, u1, u2⟩
theorem K_CleanE {w h : Int} {p : AVal} {H : AHeap} {l : List UInt8} [hp : BytesI H p l] (hs : sizedB w h l.length = false) : Con ext prog 16 9 [.agg [.int .i64 w, .int .i64 h, p]] H fun v H' => v = .tuple [.agg [.int .i64 0, .int .i64 0, .nslice], .agg [.int .i64 0, .int .i64 0, .int .i64 0], .int .i64 2] ∧ Ext H H' := by
 refine con_of (show prog 9 = some c9 from rfl) rfl rfl fun n hn => ?_
 haveI := hp.one
 have hl : levelS ⟨w, h, l⟩ = (0, 2) := by simp only [levelS, Img.sized, hs, cond_false]
 repeat first
  | refine mI ?_
  | (refine Fo.ldN rfl rfl (by simp only [↓nrmL, nrmZ, Nat.reduceEqDiff, ↓reduceIte]; rfl) ?_)
  | refine bA ?_
  | refine nw ?_
  | refine nl hKF ?_
  | refine sq ?_
  | refine rg fun KF hKF => ?_
 refine WpO.do (WpX.conD hn rfl rfl (by simp only [↓nrmL, nrmZ, Nat.reduceEqDiff, ↓reduceIte, List.map] <;> rfl) (K_steps (w := w) (h := h) (l := l)) fun v H1 h5 => ?_)
 obtain ⟨e1, e2, e3, rfl, rfl⟩ := h5
 simp only [stepCs]
 refine Fo.now rfl rfl rfl ?_
 refine mI ?_
 refine nl hKF ?_
 refine Wp.block ?_
 dsimp only [cond_true, cond_false]
 refine Wp.rounds (WpN.round (by unfold fuel0 at hn; omega) ?_)
 repeat first
  | refine fd ?_
  | refine Fo.ld rfl rfl ?_
  | (refine Fo.ldN rfl rfl (by simp only [↓nrmL, nrmZ, Nat.reduceEqDiff, ↓reduceIte]; rfl) ?_)
  | refine Fo.ldN rfl rfl rfl ?_
  | refine b0 ?_
  | refine nw ?_
  | (refine Fo.now rfl rfl (by simp only [↓nrmL, nrmZ, Nat.reduceEqDiff, ↓reduceIte]; rfl) ?_)
  | (refine so rfl (rfl : _ = AVal.agg _) rfl rfl rfl (by simp only [↓nrmL, nrmZ, Nat.reduceEqDiff, ↓reduceIte]; rfl) ?_)
  | refine nl hKF ?_
  | refine sq ?_
  | refine rg fun KF hKF => ?_
  | refine ct rfl ?_
  | refine sk ?_
  | refine Wp.block ?_
 refine WpO.do (WpX.conC hn rfl rfl (by simp only [↓nrmL, nrmZ, Nat.reduceEqDiff, ↓reduceIte, List.map] <;> rfl) (K_step1 (w := w) (h := h) (l := l) (t0 := 0) (k0 := 0) (s0 := 0) (wi := 0) (hi := 0) (li := [])) fun v H1 h5 => ?_)
 obtain ⟨rfl, H2, hx2, rfl⟩ := h5
 haveI : ExtI _ H2 := ⟨hx2⟩
 simp only [hl]
 repeat first
  | refine mI ?_
  | (refine bn rfl rfl rfl (by simp only [↓nrmL, nrmZ, Nat.reduceEqDiff, ↓reduceIte, hl]; rfl) ?_)
  | refine Fo.now rfl rfl rfl ?_
  | (refine so rfl (rfl : _ = AVal.agg _) rfl rfl rfl (by simp only [↓nrmL, nrmZ, Nat.reduceEqDiff, ↓reduceIte, hl]; rfl) ?_)
  | refine nl hKF ?_
  | refine sq ?_
  | refine rg fun KF hKF => ?_
  | refine ct rfl ?_
  | refine cf rfl ?_
  | refine sk ?_
  | refine rt ?_
 refine rz trivial ?_
 exact ⟨rfl, Ext0.ext⟩
theorem K_Clean {a b : Nat} {t : Int} {p : AVal} {H : AHeap} {l : List UInt8} [hp : BytesI H p l] [ht : Tabs H] (hs : sizedB a b l.length = true) (hl : levelS ⟨a, b, l⟩ = (t, 0)) (h0 : 0 ≤ t ∧ t ≤ 256) : Con ext prog 16 9 [.agg [.int .i64 a, .int .i64 b, p]] H fun v H' => ∃ T k c U M L q, thrSpec ⟨a, b, l⟩ t = (⟨a, b, T⟩, 0) ∧ Ok a b T ∧ findS ⟨a, b, T⟩ = (k, 0) ∧ b = c + grN a k a ∧ unskewS ⟨a, b, T⟩ k = (⟨a, c, U⟩, 0) ∧ Ok a c U ∧ Lab U a c true M L (a * c) ∧ v = .tuple [q, .agg [.int .i64 t, .int .i64 k, .int .i64 2], .int .i64 0] ∧ NewInk H H' q ⟨a, c, spk 0 (fun n => !decide ((n : Int) ≥ 2)) U (pxAll M L.length (a * c))⟩ := by
 refine con_of (show prog 9 = some c9 from rfl) rfl rfl fun n hn => ?_
 haveI := hp.one
 have v0 : IntKind.i64.wrap (0 + 1) = 1 := rfl
 have v1 : IntKind.i64.wrap (1 + 1) = 2 := rfl
 have v2 : IntKind.i64.wrap (2 + 1) = 3 := rfl
 obtain ⟨T, hT, okT⟩ := thr_ok (t := t) hs (by omega) (by omega)
 obtain ⟨k, c, U, hf, _, hsk, hc, u1, u2⟩ := find_un okT
 repeat first
  | refine mI ?_
  | (refine Fo.ldN rfl rfl (by simp only [↓nrmL, nrmZ, Nat.reduceEqDiff, ↓reduceIte, Nat.reduceAdd, Int.reduceBEq, Int.reduceBNe]; rfl) ?_)
  | refine bA ?_
  | refine nw ?_
  | refine nl hKF ?_
  | refine sq ?_
  | refine rg fun KF hKF => ?_
 refine WpO.do (WpX.conD hn rfl rfl (by simp only [↓nrmL, nrmZ, Nat.reduceEqDiff, ↓reduceIte, Nat.reduceAdd, Int.reduceBEq, Int.reduceBNe, List.map] <;> rfl) (K_steps (w := a) (h := b) (l := l)) fun v H1 h5 => ?_)
 obtain ⟨e1, e2, e3, rfl, rfl⟩ := h5
 simp only [stepCs]
 refine Fo.now rfl rfl rfl ?_
 refine mI ?_
 refine nl hKF ?_
 refine Wp.block ?_
 dsimp only [cond_true, cond_false]
 refine Wp.rounds (WpN.round (by unfold fuel0 at hn; omega) ?_)
 repeat first
  | refine fd ?_
  | refine Fo.ld rfl rfl ?_
  | (refine Fo.ldN rfl rfl (by simp only [↓nrmL, nrmZ, Nat.reduceEqDiff, ↓reduceIte, Nat.reduceAdd, Int.reduceBEq, Int.reduceBNe]; rfl) ?_)
  | refine Fo.ldN rfl rfl rfl ?_
  | refine b0 ?_
  | refine nw ?_
  | (refine Fo.now rfl rfl (by simp only [↓nrmL, nrmZ, Nat.reduceEqDiff, ↓reduceIte, Nat.reduceAdd, Int.reduceBEq, Int.reduceBNe]; rfl) ?_)
  | (refine so rfl (rfl : _ = AVal.agg _) rfl rfl rfl (by simp only [↓nrmL, nrmZ, Nat.reduceEqDiff, ↓reduceIte, Nat.reduceAdd, Int.reduceBEq, Int.reduceBNe]; rfl) ?_)
  | refine nl hKF ?_
  | refine sq ?_
  | refine rg fun KF hKF => ?_
  | refine ct rfl ?_
  | refine sk ?_
  | refine Wp.block ?_
 refine WpO.do (WpX.conC hn rfl rfl (by simp only [↓nrmL, nrmZ, Nat.reduceEqDiff, ↓reduceIte, Nat.reduceAdd, Int.reduceBEq, Int.reduceBNe, List.map] <;> rfl) (K_step1 (w := a) (h := b) (l := l) (t0 := 0) (k0 := 0) (s0 := 0) (wi := 0) (hi := 0) (li := [])) fun v H1 h5 => ?_)
 obtain ⟨rfl, H2, hx2, rfl⟩ := h5
 haveI : ExtI _ H2 := ⟨hx2⟩
 simp only [hl]
 repeat first
  | refine mI ?_
  | refine fd ?_
  | refine Fo.ld rfl rfl ?_
  | (refine Fo.ldN rfl rfl (by simp only [↓nrmL, nrmZ, Nat.reduceEqDiff, ↓reduceIte, Nat.reduceAdd, Int.reduceBEq, Int.reduceBNe, hl]; rfl) ?_)
  | (refine bn rfl rfl rfl (by simp only [↓nrmL, nrmZ, Nat.reduceEqDiff, ↓reduceIte, Nat.reduceAdd, Int.reduceBEq, Int.reduceBNe, hl]; rfl) ?_)
  | refine nl hKF ?_
  | refine sq ?_
  | refine rg fun KF hKF => ?_
  | refine ct rfl ?_
 refine WpO.do (WpX.conC hn rfl rfl (by simp only [↓nrmL, nrmZ, Nat.reduceEqDiff, ↓reduceIte, Nat.reduceAdd, Int.reduceBEq, Int.reduceBNe, List.map, hl] <;> rfl) (K_step2 (w := a) (h := b) (l := l) (t0 := t) (k0 := 0) (s0 := 0) (wi := 0) (hi := 0) (li := [])) fun v H3 h5 => ?_)
 rw [hT] at h5
 obtain ⟨v, e1, q, e2, hq, hf3, hw, hx⟩ := h5
 subst e1 e2
 try dsimp only at hq
 haveI : ExtI _ H3 := ⟨hx⟩
 haveI := hq.one
 repeat first
  | refine mI ?_
  | refine mT ?_
  | (refine bn rfl rfl rfl (by simp only [↓nrmL, nrmZ, Nat.reduceEqDiff, ↓reduceIte, Nat.reduceAdd, Int.reduceBEq, Int.reduceBNe]; rfl) ?_)
  | refine b0 ?_
  | refine xt ?_
  | (refine so rfl (rfl : _ = AVal.agg _) rfl rfl rfl (by simp only [↓nrmL, nrmZ, Nat.reduceEqDiff, ↓reduceIte, Nat.reduceAdd, Int.reduceBEq, Int.reduceBNe]; rfl) ?_)
  | refine nl hKF ?_
  | refine sq ?_
  | refine rg fun KF hKF => ?_
  | refine cf rfl ?_
  | refine sk ?_
  | dsimp only [cond_true, cond_false]
 refine WpN.round (by unfold fuel0 at hn; omega) ?_
 simp only [v0]
 repeat first
  | refine fd ?_
  | refine Fo.ld rfl rfl ?_
  | (refine Fo.ldN rfl rfl (by simp only [↓nrmL, nrmZ, Nat.reduceEqDiff, ↓reduceIte, Nat.reduceAdd, Int.reduceBEq, Int.reduceBNe, v0]; rfl) ?_)
  | refine Fo.ldN rfl rfl rfl ?_
  | refine b0 ?_
  | refine nw ?_
  | (refine Fo.now rfl rfl (by simp only [↓nrmL, nrmZ, Nat.reduceEqDiff, ↓reduceIte, Nat.reduceAdd, Int.reduceBEq, Int.reduceBNe, v0]; rfl) ?_)
  | (refine so rfl (rfl : _ = AVal.agg _) rfl rfl rfl (by simp only [↓nrmL, nrmZ, Nat.reduceEqDiff, ↓reduceIte, Nat.reduceAdd, Int.reduceBEq, Int.reduceBNe, v0]; rfl) ?_)
  | refine nl hKF ?_
  | refine sq ?_
  | refine rg fun KF hKF => ?_
  | refine ct rfl ?_
  | refine sk ?_
  | refine Wp.block ?_
 refine WpO.do (WpX.conC hn rfl rfl (by simp only [↓nrmL, nrmZ, Nat.reduceEqDiff, ↓reduceIte, Nat.reduceAdd, Int.reduceBEq, Int.reduceBNe, List.map] <;> rfl) (K_step3 (t0 := t) (k0 := 0) (s0 := 0) (wi := a) (hi := b) (li := T)) fun v H4 h5 => ?_)
 rw [hf] at h5
 obtain ⟨rfl, H5, hx5, rfl⟩ := h5
 haveI : ExtI _ H5 := ⟨hx5⟩
 repeat first
  | refine mI ?_
  | refine fd ?_
  | refine Fo.ld rfl rfl ?_
  | (refine Fo.ldN rfl rfl (by simp only [↓nrmL, nrmZ, Nat.reduceEqDiff, ↓reduceIte, Nat.reduceAdd, Int.reduceBEq, Int.reduceBNe]; rfl) ?_)
  | (refine bn rfl rfl rfl (by simp only [↓nrmL, nrmZ, Nat.reduceEqDiff, ↓reduceIte, Nat.reduceAdd, Int.reduceBEq, Int.reduceBNe]; rfl) ?_)
  | refine nl hKF ?_
  | refine sq ?_
  | refine rg fun KF hKF => ?_
  | refine ct rfl ?_
  | dsimp only [cond_true, cond_false]
 refine WpO.do (WpX.conC hn rfl rfl (by simp only [↓nrmL, nrmZ, Nat.reduceEqDiff, ↓reduceIte, Nat.reduceAdd, Int.reduceBEq, Int.reduceBNe, List.map] <;> rfl) (K_step4 (t0 := t) (k0 := k) (s0 := 0) (wi := a) (hi := b) (li := T)) fun v H6 h5 => ?_)
 rw [u1] at h5
 obtain ⟨v, e1, q2, e2, hq2, hf2, hw2, hx6⟩ := h5
 subst e1 e2
 try dsimp only at hq2
 haveI : ExtI _ H6 := ⟨hx6⟩
 haveI := hq2.one
 repeat first
  | refine mI ?_
  | refine mT ?_
  | (refine bn rfl rfl rfl (by simp only [↓nrmL, nrmZ, Nat.reduceEqDiff, ↓reduceIte, Nat.reduceAdd, Int.reduceBEq, Int.reduceBNe]; rfl) ?_)
  | refine b0 ?_
  | refine xt ?_
  | (refine so rfl (rfl : _ = AVal.agg _) rfl rfl rfl (by simp only [↓nrmL, nrmZ, Nat.reduceEqDiff, ↓reduceIte, Nat.reduceAdd, Int.reduceBEq, Int.reduceBNe]; rfl) ?_)
  | refine nl hKF ?_
  | refine sq ?_
  | refine rg fun KF hKF => ?_
  | refine cf rfl ?_
  | refine sk ?_
  | dsimp only [cond_true, cond_false]
 refine WpN.round (by unfold fuel0 at hn; omega) ?_
 simp only [v1]
 repeat first
  | refine fd ?_
  | refine Fo.ld rfl rfl ?_
  | (refine Fo.ldN rfl rfl (by simp only [↓nrmL, nrmZ, Nat.reduceEqDiff, ↓reduceIte, Nat.reduceAdd, Int.reduceBEq, Int.reduceBNe, v1]; rfl) ?_)
  | refine Fo.ldN rfl rfl rfl ?_
  | refine b0 ?_
  | refine nw ?_
  | (refine Fo.now rfl rfl (by simp only [↓nrmL, nrmZ, Nat.reduceEqDiff, ↓reduceIte, Nat.reduceAdd, Int.reduceBEq, Int.reduceBNe, v1]; rfl) ?_)
  | (refine so rfl (rfl : _ = AVal.agg _) rfl rfl rfl (by simp only [↓nrmL, nrmZ, Nat.reduceEqDiff, ↓reduceIte, Nat.reduceAdd, Int.reduceBEq, Int.reduceBNe, v1]; rfl) ?_)
  | refine nl hKF ?_
  | refine sq ?_
  | refine rg fun KF hKF => ?_
  | refine ct rfl ?_
  | refine sk ?_
  | refine Wp.block ?_
 refine WpO.do (WpX.conC hn rfl rfl (by simp only [↓nrmL, nrmZ, Nat.reduceEqDiff, ↓reduceIte, Nat.reduceAdd, Int.reduceBEq, Int.reduceBNe, List.map] <;> rfl) (K_step5 (t0 := t) (k0 := k) (s0 := 0) (vi := .nslice) (wi := a) (hi := c) (li := U)) fun v H7 h5 => ?_)
 obtain ⟨rfl, H8, hx8, rfl⟩ := h5
 haveI : ExtI _ H8 := ⟨hx8⟩
 repeat first
  | refine mI ?_
  | refine fd ?_
  | refine Fo.ld rfl rfl ?_
  | (refine Fo.ldN rfl rfl (by simp only [↓nrmL, nrmZ, Nat.reduceEqDiff, ↓reduceIte, Nat.reduceAdd, Int.reduceBEq, Int.reduceBNe]; rfl) ?_)
  | (refine bn rfl rfl rfl (by simp only [↓nrmL, nrmZ, Nat.reduceEqDiff, ↓reduceIte, Nat.reduceAdd, Int.reduceBEq, Int.reduceBNe]; rfl) ?_)
  | refine nl hKF ?_
  | refine sq ?_
  | refine rg fun KF hKF => ?_
  | refine ct rfl ?_
 refine WpO.do (WpX.conC hn rfl rfl (by simp only [↓nrmL, nrmZ, Nat.reduceEqDiff, ↓reduceIte, Nat.reduceAdd, Int.reduceBEq, Int.reduceBNe, List.map] <;> rfl) (K_step6 (t0 := t) (k0 := k) (s0 := 2) (a := a) (b := c) (li := U) u2) fun v H9 h5 => ?_)
 obtain ⟨M, L, hL, v, e1, q3, e2, hq3, hf4, hw3, hx9⟩ := h5
 subst e1 e2
 try dsimp only at hq3
 haveI : ExtI _ H9 := ⟨hx9⟩
 haveI := hq3.one
 repeat first
  | refine mI ?_
  | refine mT ?_
  | (refine bn rfl rfl rfl (by simp only [↓nrmL, nrmZ, Nat.reduceEqDiff, ↓reduceIte, Nat.reduceAdd, Int.reduceBEq, Int.reduceBNe]; rfl) ?_)
  | refine b0 ?_
  | refine xt ?_
  | (refine so rfl (rfl : _ = AVal.agg _) rfl rfl rfl (by simp only [↓nrmL, nrmZ, Nat.reduceEqDiff, ↓reduceIte, Nat.reduceAdd, Int.reduceBEq, Int.reduceBNe]; rfl) ?_)
  | refine nl hKF ?_
  | refine sq ?_
  | refine rg fun KF hKF => ?_
  | refine cf rfl ?_
  | refine sk ?_
  | dsimp only [cond_true, cond_false]
 refine WpN.round (by unfold fuel0 at hn; omega) ?_
 simp only [v2]
 repeat first
  | refine b0 ?_
  | refine nl hKF ?_
  | refine sq ?_
  | refine rg fun KF hKF => ?_
  | refine cf rfl ?_
  | refine xi ?_
 refine Fr.dregion0 rfl fun KF hKF => ?_
 repeat first
  | (refine Er rfl (exec_ldN rfl rfl (by simp only [↓nrmL, nrmZ, Nat.reduceEqDiff, ↓reduceIte, Nat.reduceAdd, Int.reduceBEq, Int.reduceBNe]; rfl)) rfl ?_)
  | (refine Fe.pure rfl rfl (by simp only [↓nrmL, nrmZ, Nat.reduceEqDiff, ↓reduceIte, Nat.reduceAdd, Int.reduceBEq, Int.reduceBNe]; rfl) ?_)
  | (refine Ee rfl (xs rfl (by (try simp only [↓nrmL, nrmZ, Nat.reduceEqDiff, ↓reduceIte, Nat.reduceAdd, Int.reduceBEq, Int.reduceBNe]); rfl) rfl rfl rfl (by (try simp only [↓nrmL, nrmZ, Nat.reduceEqDiff, ↓reduceIte, Nat.reduceAdd, Int.reduceBEq, Int.reduceBNe]); rfl)) ?_)
  | refine WpE.nil (hKF _ _ ?_)
 refine rt ?_
 dsimp only [cond_true, cond_false]
 refine rz trivial ?_
 exact ⟨T, k, c, U, M, L, _, hT, okT, hf, hc, u1, u2, hL, rfl, q3, rfl, (show BytesI _ q3 (spk 0 (fun n => !decide ((n : Int) ≥ 2)) U (pxAll M L.length (a * c))) from inferInstance), hf4.weak, inferInstance, Ext0.ext⟩
end Go.Am
namespace Go.Am
open Go
attribute [local irreducible] Wp WpO WpX WpE
theorem K_refComponents {a b : Nat} {e : Bool} {p : AVal} {H : AHeap} {l : List UInt8} [hp : BytesI H p l] [hs : Fits a b l] (ha : a ≤ 640) (hb : b ≤ 640) (hl : l.length ≤ 3000) (hpx : pxOk l = true) : Con ext prog 6 57 [.agg [.int .i64 a, .int .i64 b, p], .bool e] H fun v H' => ∃ K N C, Ext H K ∧ RefC K H' l N a b (a * b) v C ∧ RNum l a b e N ∧ (∀ i, i < a * b → l.getD i 0 = 1 → Lead l a b e i (N.getD i 0)) ∧ Ext H H' := by
 refine con_of (show prog 57 = some c57 from rfl) rfl rfl fun n hn => ?_
 haveI := hp.one
 have hab : a * b ≤ 640 * 640 := Nat.mul_le_mul ha hb
 have hlen := hs.len
 repeat first
  | refine mN ?_
  | refine fd ?_
  | refine Fo.ld rfl rfl ?_
  | (refine ln (by simp only [↓nrmL, nrmK, Nat.reduceEqDiff, ↓reduceIte]; rfl) ?_)
  | refine bA ?_
  | refine nl hKF ?_
  | refine sq ?_
  | refine rg fun KF hKF => ?_
 refine WpO.do (WpX.mkI (n := l.length) rfl rfl rfl (by omega) fun q H1 e1 hq hf hw hx => ?_); try simp only [↓nrmL, nrmZ, Nat.reduceEqDiff, ↓reduceIte, Nat.reduceAdd, Int.reduceBEq, Int.reduceBNe]
 haveI := hq.one
 have hzr : cN (upN (a * b) 0) = List.replicate l.length 0 := by rw [upN_zero]; simp [cN, hlen]
 have hq2 : IntsI H1 q (cN (upN (a * b) 0)) := by rw [hzr]; exact hq
 repeat first
  | refine mI ?_
  | (refine mv ?_)
  | refine nl hKF ?_
  | refine sq ?_
  | refine rg fun KF hKF => ?_
  | refine Wp.block ?_
  | dsimp only [cond_true, cond_false]
 refine Wp.loopS [6,21,22,23,24,25,26,27,28,29,30] (fun i : Nat => [(6, .int .i64 (i : Int))]) (fun H3 i H2 => i ≤ a * b ∧ IntsI H2 q (cN (upN (a * b) i)) ∧ WrS H2 q ∧ ExtP0 H3 H2 q) (fun i => a * b - i) 0 rfl (fun _ => rfl) ⟨rfl, trivial⟩ ⟨Nat.zero_le _, hq2, inferInstance, inferInstance⟩ (by unfold fuel0 at hn; omega) ?_
 rintro i g H2 ⟨hi, hb2, hw2, ⟨hx2⟩⟩
 simp only [↓nrmL, nrmZ, Nat.reduceEqDiff, ↓reduceIte, Nat.reduceAdd, Int.reduceBEq, Int.reduceBNe]
 have hML : (cN (upN (a * b) i)).length = a * b := by rw [cN_length, upN_length hi]
 cases hc : decide ((i : Int) < (((cN (upN (a * b) i)).length : Nat) : Int))
 rotate_left
 ·have hil : i < a * b := by have := of_decide_eq_true hc; omega
  have hw1 := wa1 (a := i) (by omega)
  repeat first
   | refine mI ?_
   | (refine mv ?_)
   | (refine bn rfl rfl rfl (by simp only [↓nrmL, nrmZ, Nat.reduceEqDiff, ↓reduceIte, Nat.reduceAdd, Int.reduceBEq, Int.reduceBNe, hc]; rfl) ?_)
   | (refine ln (by simp only [↓nrmL, nrmK, Nat.reduceEqDiff, ↓reduceIte]; rfl) ?_)
   | (refine Fo.idx (by simp only [↓nrmL, nrmK, Nat.reduceEqDiff, ↓reduceIte]; rfl) rfl ?_ (by simp only [↓nrmL, nrmZ, Nat.reduceEqDiff, ↓reduceIte, Nat.reduceAdd, Int.reduceBEq, Int.reduceBNe, hc]; rfl) ?_; (focus omega))
   | refine nl hKF ?_
   | refine sq ?_
   | refine rg fun KF hKF => ?_
   | refine ct rfl ?_
   | refine sk ?_
   | refine Wp.block ?_
  refine WpO.do' (WpX.stI (p := q) (j := i) (l := cN (upN (a * b) i)) rfl rfl (by omega) fun H4 hb4 hw4 hx4 => ?_)
  rw [cN_set, upN_set hil] at hb4
  haveI := hx4
  repeat first
   | refine mI ?_
   | refine b0 ?_
   | refine nl hKF ?_
   | refine rg fun KF hKF => ?_
   | dsimp only [cond_true, cond_false]
  refine ⟨i + 1, by omega, ⟨by simp only [↓nrmL, nrmZ, Nat.reduceEqDiff, ↓reduceIte, Nat.reduceAdd, Int.reduceBEq, Int.reduceBNe]; rw [hw1], trivial⟩, hil, hb4, hw4, inferInstance⟩
 have hil : i = a * b := by have := of_decide_eq_false hc; omega
 subst hil
 rw [upN_all] at hb2 hc
 repeat first
  | refine mI ?_
  | refine mB ?_
  | (refine mv ?_)
  | (refine bn rfl rfl rfl (by simp only [↓nrmL, nrmZ, Nat.reduceEqDiff, ↓reduceIte, Nat.reduceAdd, Int.reduceBEq, Int.reduceBNe, hc]; rfl) ?_)
  | (refine ln (by simp only [↓nrmL, nrmK, Nat.reduceEqDiff, ↓reduceIte]; rfl) ?_)
  | refine nl hKF ?_
  | refine sq ?_
  | refine rg fun KF hKF => ?_
  | refine cf rfl ?_
  | refine Wp.block ?_
  | refine xi ?_
  | dsimp only [cond_true, cond_false]
 refine Wp.loopS [7,8,9,10,11,31,32,33,34,35,36,37,38,39,40,41,42,43,44,45,46,47,48,49,50,51,52,53,54,55,56,57,58,59,60,61,62,63,64,65,66,67,68,69,70,71,72,73,74,75,76,77,78,79,80,81,82,83,84,85,86,87,88,89,90,91,92,93,94,95,96,97,98,99,100,101,102,103,104,105,106,107,108,109,110,111,112,113,114,115,116,117] (fun s : Bool × List Nat => [(7, .bool s.1)]) (fun H3 s H3' => RNum l a b e s.2 ∧ (s.1 = false → ∀ y < b, ∀ x < a, Okpix l a b e s.2 x y) ∧ IntsI H3' q (cN s.2) ∧ WrS H3' q ∧ ExtP0 H1 H3' q) (fun s => s.2.sum + (if s.1 then 1 else 0)) (true, List.range (a * b)) rfl (fun _ => rfl) ⟨rfl, trivial⟩ ⟨RNum.begin, (fun q => by cases q), hb2, hw2, inferInstance⟩ (by
  have hsr := sum_range (a * b)
  have hsq : (a * b) * (a * b) ≤ 3000 * 3000 := Nat.mul_le_mul (by omega) (by omega)
  unfold fuel0 at hn
  simp only [if_true]
  omega) ?_
 rintro ⟨ch, N⟩ g3 H3 ⟨hnum, hok, hb3, hw3, ⟨hx3⟩⟩
 dsimp only at hnum hok hb3
 simp only [↓nrmL, nrmZ, Nat.reduceEqDiff, ↓reduceIte, Nat.reduceAdd, Int.reduceBEq, Int.reduceBNe]
 cases ch
 ·have hld : ∀ i, i < a * b → l.getD i 0 = 1 → Lead l a b e i (N.getD i 0) := fun i hi hli => hnum.fix (ok_all ha hb (hok rfl)) hi hli
  repeat first
   | refine mI ?_
   | refine mB ?_
   | refine mN ?_
   | refine nl hKF ?_
   | refine sq ?_
   | refine rg fun KF hKF => ?_
   | refine cf rfl ?_
   | refine Wp.block ?_
   | refine xi ?_
   | dsimp only [cond_true, cond_false]
  have hE03 : Ext H H3 := Ext0.ext
  haveI hp3 : BytesI H3 p l := inferInstance
  haveI hr3 : HasRow H3 H.n [.int .i64 (a : Int), .int .i64 (b : Int), p] true (2 * 29) := inferInstance
  refine Wp.loopS (σ := Nat × AVal) [12,13,14,15,16,118,119,120,121,122,123,124,125,126,127,128,129,130,131,132,133,134,135,136,137,138,139,140,141,142,143,144,145,146,147,148,149,150,151,152,153,154,155,156,157,158,159,160,161,162,163,164,165,166,167,168,169,170,171,172,173,174,175,176,177,178,179,180,181,182,183,184,185,186,187,188,189,190] (fun s => [(13, .int .i64 (s.1 : Int)), (12, s.2)]) (fun _ s H4 => s.1 ≤ a * b ∧ (∃ C, RefC H3 H4 l N a b s.1 s.2 C) ∧ IntsI H4 q (cN N) ∧ BytesI H4 p l ∧ HasRow H4 H.n [.int .i64 (a : Int), .int .i64 (b : Int), p] true (2 * 29) ∧ Ext0 H3 H4) (fun s => a * b - s.1) (0, .nslice) rfl (fun _ => rfl) ⟨rfl, rfl, trivial⟩ ⟨Nat.zero_le _, ⟨[], RefC.begin⟩, inferInstance, inferInstance, inferInstance, inferInstance⟩ (by unfold fuel0 at hn; dsimp only; omega) ?_
  rintro ⟨i, o⟩ g4 H4 ⟨hi, ⟨C, hC⟩, hb4, hp4, hr4, hx4⟩
  dsimp only at hi hC
  haveI hx34 : ExtI H3 H4 := ⟨hx4.ext⟩
  simp only [↓nrmL, nrmZ, Nat.reduceEqDiff, ↓reduceIte, Nat.reduceAdd, Int.reduceBEq, Int.reduceBNe]
  cases hc1 : decide ((i : Int) < (l.length : Int))
  ·have hil : i = a * b := by have := of_decide_eq_false hc1; omega
   subst hil
   repeat first
    | refine mI ?_
    | (refine mv ?_)
    | refine fd ?_
    | refine Fo.ld rfl rfl ?_
    | (refine bn rfl rfl rfl (by simp only [↓nrmL, nrmZ, Nat.reduceEqDiff, ↓reduceIte, Nat.reduceAdd, Int.reduceBEq, Int.reduceBNe, hc1]; rfl) ?_)
    | (refine ln (by simp only [↓nrmL, nrmK, Nat.reduceEqDiff, ↓reduceIte]; rfl) ?_)
    | refine nl hKF ?_
    | refine sq ?_
    | refine rg fun KF hKF => ?_
    | refine cf rfl ?_
    | refine rt ?_
    | refine xi ?_
    | dsimp only [cond_true, cond_false]
   refine rz trivial ?_
   exact ⟨H3, N, C, hE03, hC, hnum, hld, Ext0.ext⟩
  have hil : i < l.length := by have := of_decide_eq_true hc1; omega
  have hiab : i < a * b := by omega
  have hw1 := wa1 (a := i) (by omega)
  have hNl : N.length = a * b := hnum.len
  have hiN : i < (cN N).length := by rw [cN_length, hNl]; exact hiab
  have hge : (cN N)[i]'hiN = ((N.getD i 0 : Nat) : Int) := cN_get _
  have hgl : l[i] = l.getD i 0 := by rw [List.getD_eq_getElem?_getD, List.getElem?_eq_getElem hil]; rfl
  cases hv : (l[i] == 0)
  rotate_left
  ·skip
   repeat first
    | refine ox ?_
    | refine mI ?_
    | refine mB ?_
    | refine fd ?_
    | refine Fo.ld rfl rfl ?_
    | (refine bn rfl rfl rfl (by simp only [↓nrmL, nrmZ, Nat.reduceEqDiff, ↓reduceIte, Nat.reduceAdd, Int.reduceBEq, Int.reduceBNe, hc1, u8_zero, hv]; rfl) ?_)
    | refine b0 ?_
    | refine tB ?_
    | (refine ln (by simp only [↓nrmL, nrmK, Nat.reduceEqDiff, ↓reduceIte]; rfl) ?_)
    | (refine Fo.idx (by simp only [↓nrmL, nrmK, Nat.reduceEqDiff, ↓reduceIte]; rfl) rfl ?_ (by simp only [↓nrmL, nrmZ, Nat.reduceEqDiff, ↓reduceIte, Nat.reduceAdd, Int.reduceBEq, Int.reduceBNe, hc1, u8_zero, hv]; rfl) ?_; (focus omega))
    | (refine Fo.ldB rfl ?_ rfl ?_; (focus omega))
    | refine nl hKF ?_
    | refine sq ?_
    | refine rg fun KF hKF => ?_
    | refine ct rfl ?_
    | refine sk ?_
    | refine Wp.block ?_
    | refine xi ?_
    | dsimp only [cond_true, cond_false]
   refine ⟨(i + 1, o), by dsimp only; omega, ⟨by simp only [↓nrmL, nrmZ, Nat.reduceEqDiff, ↓reduceIte, Nat.reduceAdd, Int.reduceBEq, Int.reduceBNe]; rw [hw1], rfl, trivial⟩, hiab, ⟨C, hC.skip (by rw [← hgl, eq_of_beq hv]; rfl)⟩, inferInstance, inferInstance, inferInstance, inferInstance⟩
  cases hNi : (((N.getD i 0 : Nat) : Int) != (i : Int))
  rotate_left
  ·skip
   repeat first
    | refine oy ?_
    | refine mI ?_
    | refine mB ?_
    | (refine mv ?_)
    | refine fd ?_
    | refine Fo.ld rfl rfl ?_
    | (refine bn rfl rfl rfl (by simp only [↓nrmL, nrmZ, Nat.reduceEqDiff, ↓reduceIte, Nat.reduceAdd, Int.reduceBEq, Int.reduceBNe, hc1, u8_zero, hv, hge, hNi]; rfl) ?_)
    | refine b0 ?_
    | refine fB ?_
    | (refine ln (by simp only [↓nrmL, nrmK, Nat.reduceEqDiff, ↓reduceIte]; rfl) ?_)
    | (refine Fo.idx (by simp only [↓nrmL, nrmK, Nat.reduceEqDiff, ↓reduceIte]; rfl) rfl ?_ (by simp only [↓nrmL, nrmZ, Nat.reduceEqDiff, ↓reduceIte, Nat.reduceAdd, Int.reduceBEq, Int.reduceBNe, hc1, u8_zero, hv, hge, hNi]; rfl) ?_; (focus omega))
    | (refine Fo.ldB rfl ?_ rfl ?_; (focus omega))
    | (refine Fo.ldI rfl ?_ (by simp only [↓nrmL, nrmZ, Nat.reduceEqDiff, ↓reduceIte, Nat.reduceAdd, Int.reduceBEq, Int.reduceBNe, hc1, u8_zero, hv, hge, hNi]; rfl) ?_; (focus omega))
    | refine nl hKF ?_
    | refine sq ?_
    | refine rg fun KF hKF => ?_
    | refine ct rfl ?_
    | refine sk ?_
    | refine Wp.block ?_
    | refine xi ?_
    | dsimp only [cond_true, cond_false]
   refine ⟨(i + 1, o), by dsimp only; omega, ⟨by simp only [↓nrmL, nrmZ, Nat.reduceEqDiff, ↓reduceIte, Nat.reduceAdd, Int.reduceBEq, Int.reduceBNe]; rw [hw1], rfl, trivial⟩, hiab, ⟨C, hC.skip (by
    have : ¬ N.getD i 0 = i := fun q => by rw [q] at hNi; simp at hNi
    rw [beq_eq_false_iff_ne.2 this, Bool.and_false])⟩, inferInstance, inferInstance, inferInstance, inferInstance⟩
  have hNN : N.getD i 0 = i := by
   have : ((N.getD i 0 : Nat) : Int) = (i : Int) := by simpa using hNi
   omega
  repeat first
   | refine oy ?_
   | refine mI ?_
   | refine mB ?_
   | (refine mv ?_)
   | refine fd ?_
   | refine Fo.ld rfl rfl ?_
   | (refine bn rfl rfl rfl (by simp only [↓nrmL, nrmZ, Nat.reduceEqDiff, ↓reduceIte, Nat.reduceAdd, Int.reduceBEq, Int.reduceBNe, hc1, u8_zero, hv, hge, hNi]; rfl) ?_)
   | refine fB ?_
   | (refine ln (by simp only [↓nrmL, nrmK, Nat.reduceEqDiff, ↓reduceIte]; rfl) ?_)
   | (refine Fo.idx (by simp only [↓nrmL, nrmK, Nat.reduceEqDiff, ↓reduceIte]; rfl) rfl ?_ (by simp only [↓nrmL, nrmZ, Nat.reduceEqDiff, ↓reduceIte, Nat.reduceAdd, Int.reduceBEq, Int.reduceBNe, hc1, u8_zero, hv, hge, hNi]; rfl) ?_; (focus omega))
   | (refine Fo.ldB rfl ?_ rfl ?_; (focus omega))
   | (refine Fo.ldI rfl ?_ (by simp only [↓nrmL, nrmZ, Nat.reduceEqDiff, ↓reduceIte, Nat.reduceAdd, Int.reduceBEq, Int.reduceBNe, hc1, u8_zero, hv, hge, hNi]; rfl) ?_; (focus omega))
   | refine nl hKF ?_
   | refine sq ?_
   | refine rg fun KF hKF => ?_
   | refine ct rfl ?_
   | refine cf rfl ?_
   | refine sk ?_
   | refine Wp.block ?_
  have hl1 : l.getD i 0 = 1 := by
   rw [← hgl]
   have h8 : l[i] = 0 ∨ l[i] = 1 := by
    have := List.all_eq_true.1 hpx l[i] (List.getElem_mem _)
    simpa using this
   rcases h8 with h8 | h8
   ·rw [h8] at hv; cases hv
   ·exact h8
  refine WpO.do (WpX.conD hn rfl rfl (by simp only [↓nrmL, nrmZ, Nat.reduceEqDiff, ↓reduceIte, Nat.reduceAdd, Int.reduceBEq, Int.reduceBNe, List.map] <;> rfl) (K_refNew (w := a) (h := b) ha hb) fun v H5 h5 => ?_)
  obtain ⟨po, e1, hpo, hfpo, hwpo, hxpo⟩ := h5
  subst e1
  try dsimp only at hpo
  haveI : ExtI _ H5 := ⟨hxpo⟩
  haveI := hpo.one
  rw [← inkOf_nil] at hpo
  have hE45 : Ext0 H4 H5 := inferInstance
  haveI fpo4 : FreshS H4 po := hfpo.weak
  repeat first
   | refine mI ?_
   | refine nw ?_
   | (refine so rfl (rfl : _ = AVal.agg _) rfl rfl rfl (by simp only [↓nrmL, nrmZ, Nat.reduceEqDiff, ↓reduceIte, Nat.reduceAdd, Int.reduceBEq, Int.reduceBNe]; rfl) ?_)
   | refine nl hKF ?_
   | refine sq ?_
   | refine rg fun KF hKF => ?_
   | refine Wp.block ?_
   | dsimp only [cond_true, cond_false]
  obtain ⟨H6, hH6⟩ : ∃ H6 : AHeap, (H5.push (.row [.int .i64 0, .int .i64 0, .nslice] true (2 * 29))).set H5.n (.row [.int .i64 (a : Int), .int .i64 (b : Int), po] true (2 * 29)) = H6 := ⟨_, rfl⟩
  haveI hE46 : Ext0 H4 H6 := by rw [← hH6]; infer_instance
  haveI hr6 : HasRow H6 H5.n [.int .i64 (a : Int), .int .i64 (b : Int), po] true (2 * 29) := by rw [← hH6]; infer_instance
  haveI hpo6 : BytesI H6 po (inkOf (a * b) []) := by rw [← hH6]; infer_instance
  haveI hwpo6 : WrS H6 po := by rw [← hH6]; infer_instance
  haveI hx46 : ExtI H4 H6 := ⟨hE46.ext⟩
  haveI hso6 : SliceAt H6 o 5 C.length (cellsC C) := hC.own.sl.keep hE46.ext.n fun _ _ _ _ _ _ hr => hE46.ext.get _ hr
  haveI hroo : RowNe o H6.n := inferInstance
  haveI hE36 : Ext0 H3 H6 := ⟨hx4.ext.trans hE46.ext⟩
  haveI hrp5 : RowNe po H5.n := inferInstance
  haveI hrp6 : RowNe po H6.n := inferInstance
  haveI hrq6 : RowNe q H6.n := inferInstance
  haveI hrpp6 : RowNe p H6.n := inferInstance
  haveI hnr6 : NeR H.n H6.n := inferInstance
  haveI hspq : SepS p po := inferInstance
  haveI hsqq : SepS q po := inferInstance
  clear hpo hwpo hE45
  simp only [hH6]
  have hNle : ∀ j, j < i → N.getD j 0 ≤ j := fun j hj => hnum.le j (by omega)
  have hst := pxr_start (l := l) hNle
  refine Wp.loopS (σ := Nat × AVal) [16,145,146,147,148,149,150,151,152,153,154,155,156,157,158,159,160,161,162,163,164,165,166,167,168,169,170,171,172,173,174,175,176,177,178,179,180,181,182,183] (fun s => [(16, .int .i64 (s.1 : Int))]) (fun _ s H7 => i ≤ s.1 ∧ s.1 ≤ a * b ∧ HasRow H7 H6.n [.int .i64 0, .int .i64 0, .int .i64 0, .int .i64 0, s.2] true (2 * 91) ∧ OwnS H7 s.2 2 (pxr l N i s.1).length (cellsK a (pxr l N i s.1)) 93 ∧ FreshS H6 s.2 ∧ RowNe s.2 H6.n ∧ BytesI H7 po (inkOf (a * b) (pxr l N i s.1)) ∧ WrS H7 po ∧ SepS s.2 po ∧ HasRow H7 H5.n [.int .i64 (a : Int), .int .i64 (b : Int), po] true (2 * 29) ∧ Ext0 H4 H7) (fun s => a * b - s.1) (i, .nslice) rfl (fun _ => rfl) ⟨rfl, trivial⟩ ⟨Nat.le_refl _, Nat.le_of_lt hiab, inferInstance, by dsimp only; rw [hst]; exact ⟨Or.inl ⟨rfl, rfl, rfl⟩⟩, ⟨fun _ _ _ _ _ q => by cases q⟩, inferInstance, by dsimp only; rw [hst]; infer_instance, inferInstance, inferInstance, inferInstance, inferInstance⟩ (by unfold fuel0 at hn; dsimp only; omega) ?_
  rintro ⟨k, pl⟩ g7 H7 ⟨hik, hkab, hr15, hopl, hfpl, hrn, hpo7, hwpo7, hsep7, hr14, hE47⟩
  dsimp only at hik hkab hr15 hopl hfpl hrn hpo7 hsep7
  haveI hx47 : ExtI H4 H7 := ⟨hE47.ext⟩
  clear hx46
  haveI hpl1 : OneV pl := hopl.sl.one
  haveI hspl := hopl.sl
  simp only [↓nrmL, nrmZ, Nat.reduceEqDiff, ↓reduceIte, Nat.reduceAdd, Int.reduceBEq, Int.reduceBNe]
  cases hck : decide ((k : Int) < (l.length : Int))
  ·have hke : k = a * b := by have := of_decide_eq_false hck; omega
   subst hke
   repeat first
    | refine mI ?_
    | refine fd ?_
    | refine Fo.ld rfl rfl ?_
    | (refine Fo.ldN rfl rfl (by simp only [↓nrmL, nrmZ, Nat.reduceEqDiff, ↓reduceIte, Nat.reduceAdd, Int.reduceBEq, Int.reduceBNe, hck]; rfl) ?_)
    | (refine bn rfl rfl rfl (by simp only [↓nrmL, nrmZ, Nat.reduceEqDiff, ↓reduceIte, Nat.reduceAdd, Int.reduceBEq, Int.reduceBNe, hck]; rfl) ?_)
    | (refine ln (by simp only [↓nrmL, nrmK, Nat.reduceEqDiff, ↓reduceIte]; rfl) ?_)
    | refine nl hKF ?_
    | refine sq ?_
    | refine rg fun KF hKF => ?_
    | refine cf rfl ?_
    | refine xi ?_
   refine WpO.do (WpX.conD hn rfl rfl (by simp only [↓nrmL, nrmZ, Nat.reduceEqDiff, ↓reduceIte, Nat.reduceAdd, Int.reduceBEq, Int.reduceBNe, List.map] <;> rfl) (K_refBox (inkOf_ok ha hb _)) fun v H8 h5 => ?_)
   obtain ⟨e8, x8⟩ := h5
   subst e8
   haveI : ExtI _ H8 := ⟨x8⟩
   haveI hC8 := hC.own
   refine fd ?_
   refine so rfl (rfl : _ = AVal.agg _) rfl rfl rfl (by simp only [↓nrmL, nrmZ, Nat.reduceEqDiff, ↓reduceIte, Nat.reduceAdd, Int.reduceBEq, Int.reduceBNe]; rfl) ?_
   refine nl hKF ?_
   refine rg fun KF hKF => ?_
   refine mv ?_
   refine Fo.ldN rfl rfl (by simp only [↓nrmL, nrmZ, Nat.reduceEqDiff, ↓reduceIte, Nat.reduceAdd, Int.reduceBEq, Int.reduceBNe]; rfl) ?_
   refine Fo.bslice rfl (by simp only [↓nrmL, nrmZ, Nat.reduceEqDiff, ↓reduceIte, Nat.reduceAdd, Int.reduceBEq, Int.reduceBNe]; rfl) ?_
   haveI hspo : SepS pl o := inferInstance
   haveI hfo : FreshS H3 o := hC.fresh
   have hcl := fls_le l N i
   have hcn := hC.num
   refine WpO.do (WpX.grow (p := o) (q := .slice (AHeap.n (AHeap.set H8 H6.n _)) 0 1 (some 1) 5) (cs := cellsC C) rfl rfl (by decide) (by decide) (by decide) (by omega) (by rw [List.all_cons, List.all_cons, List.all_cons, List.all_cons, List.all_cons, OneV.one (v := pl)]; rfl) fun o' H9 o9 f9 x9 => ?_)
   have hRC := RefC.next (bx := boxR (inkOf (a * b) (pxr l N i (a * b))) a b) (pl := pl) (hC.ext Ext0.ext) hl1 hNN o9 f9 (Or.inr f9.weak) x9 rfl inferInstance hspo (hfpl.weak)
   haveI := o9.sl.one
   repeat first
    | refine mI ?_
    | (refine mv ?_)
    | refine b0 ?_
    | refine nl hKF ?_
    | refine rg fun KF hKF => ?_
    | dsimp only [cond_true, cond_false]
   refine ⟨(i + 1, o'), by dsimp only; omega, ⟨by simp only [↓nrmL, nrmZ, Nat.reduceEqDiff, ↓reduceIte, Nat.reduceAdd, Int.reduceBEq, Int.reduceBNe]; rw [hw1], rfl, trivial⟩, hiab, ⟨_, hRC⟩, inferInstance, inferInstance, inferInstance, inferInstance⟩
  have hkl : k < l.length := by have := of_decide_eq_true hck; omega
  have hkab' : k < a * b := by omega
  have hwk := wa1 (a := k) (by omega)
  have hkN : k < (cN N).length := by rw [cN_length, hNl]; exact hkab'
  have hgk : (cN N)[k]'hkN = ((N.getD k 0 : Nat) : Int) := cN_get _
  have hgkl : l[k] = l.getD k 0 := by rw [List.getD_eq_getElem?_getD, List.getElem?_eq_getElem hkl]; rfl
  cases hvk : (l[k] == 1)
  ·skip
   repeat first
    | refine ox ?_
    | refine mI ?_
    | refine mB ?_
    | refine fd ?_
    | refine Fo.ld rfl rfl ?_
    | (refine bn rfl rfl rfl (by simp only [↓nrmL, nrmZ, Nat.reduceEqDiff, ↓reduceIte, Nat.reduceAdd, Int.reduceBEq, Int.reduceBNe, hck, u8_one, hvk]; rfl) ?_)
    | refine b0 ?_
    | refine fB ?_
    | (refine ln (by simp only [↓nrmL, nrmK, Nat.reduceEqDiff, ↓reduceIte]; rfl) ?_)
    | (refine Fo.idx (by simp only [↓nrmL, nrmK, Nat.reduceEqDiff, ↓reduceIte]; rfl) rfl ?_ (by simp only [↓nrmL, nrmZ, Nat.reduceEqDiff, ↓reduceIte, Nat.reduceAdd, Int.reduceBEq, Int.reduceBNe, hck, u8_one, hvk]; rfl) ?_; (focus omega))
    | (refine Fo.ldB rfl ?_ rfl ?_; (focus omega))
    | refine nl hKF ?_
    | refine sq ?_
    | refine rg fun KF hKF => ?_
    | refine ct rfl ?_
    | refine cf rfl ?_
    | refine sk ?_
    | refine Wp.block ?_
    | dsimp only [cond_true, cond_false]
   refine ⟨(k + 1, pl), by dsimp only; omega, ⟨by simp only [↓nrmL, nrmZ, Nat.reduceEqDiff, ↓reduceIte, Nat.reduceAdd, Int.reduceBEq, Int.reduceBNe]; rw [hwk], trivial⟩, by omega, hkab', inferInstance, by dsimp only; rw [pxr_miss (by rw [← hgkl, hvk]; rfl)]; infer_instance, hfpl, hrn, by dsimp only; rw [pxr_miss (by rw [← hgkl, hvk]; rfl)]; infer_instance, inferInstance, hsep7, inferInstance, inferInstance⟩
  cases hNk : (((N.getD k 0 : Nat) : Int) == (i : Int))
  ·have hne : (N.getD k 0 == i) = false := by
    apply beq_eq_false_iff_ne.2
    intro q
    rw [q] at hNk; simp at hNk
   repeat first
    | refine oy ?_
    | refine mI ?_
    | refine mB ?_
    | (refine mv ?_)
    | refine fd ?_
    | refine Fo.ld rfl rfl ?_
    | (refine bn rfl rfl rfl (by simp only [↓nrmL, nrmZ, Nat.reduceEqDiff, ↓reduceIte, Nat.reduceAdd, Int.reduceBEq, Int.reduceBNe, hck, u8_one, hvk, hgk, hNk]; rfl) ?_)
    | refine b0 ?_
    | refine tB ?_
    | (refine ln (by simp only [↓nrmL, nrmK, Nat.reduceEqDiff, ↓reduceIte]; rfl) ?_)
    | (refine Fo.idx (by simp only [↓nrmL, nrmK, Nat.reduceEqDiff, ↓reduceIte]; rfl) rfl ?_ (by simp only [↓nrmL, nrmZ, Nat.reduceEqDiff, ↓reduceIte, Nat.reduceAdd, Int.reduceBEq, Int.reduceBNe, hck, u8_one, hvk, hgk, hNk]; rfl) ?_; (focus omega))
    | (refine Fo.ldB rfl ?_ rfl ?_; (focus omega))
    | (refine Fo.ldI rfl ?_ (by simp only [↓nrmL, nrmZ, Nat.reduceEqDiff, ↓reduceIte, Nat.reduceAdd, Int.reduceBEq, Int.reduceBNe, hck, u8_one, hvk, hgk, hNk]; rfl) ?_; (focus omega))
    | refine nl hKF ?_
    | refine sq ?_
    | refine rg fun KF hKF => ?_
    | refine ct rfl ?_
    | refine cf rfl ?_
    | refine sk ?_
    | refine Wp.block ?_
    | dsimp only [cond_true, cond_false]
   refine ⟨(k + 1, pl), by dsimp only; omega, ⟨by simp only [↓nrmL, nrmZ, Nat.reduceEqDiff, ↓reduceIte, Nat.reduceAdd, Int.reduceBEq, Int.reduceBNe]; rw [hwk], trivial⟩, by omega, hkab', inferInstance, by dsimp only; rw [pxr_miss (by rw [hne, Bool.and_false])]; infer_instance, hfpl, hrn, by dsimp only; rw [pxr_miss (by rw [hne, Bool.and_false])]; infer_instance, inferInstance, hsep7, inferInstance, inferInstance⟩
  have hNk' : N.getD k 0 = i := by
   have : ((N.getD k 0 : Nat) : Int) = (i : Int) := by simpa using hNk
   omega
  have hlk1 : l.getD k 0 = 1 := by rw [← hgkl]; exact eq_of_beq hvk
  have hpl := pxr_le l N i k
  repeat first
   | refine oy ?_
   | refine mI ?_
   | refine mB ?_
   | (refine mv ?_)
   | refine fd ?_
   | refine Fo.ld rfl rfl ?_
   | (refine bn rfl rfl rfl (by simp only [↓nrmL, nrmZ, Nat.reduceEqDiff, ↓reduceIte, Nat.reduceAdd, Int.reduceBEq, Int.reduceBNe, hck, u8_one, hvk, hgk, hNk]; rfl) ?_)
   | refine tB ?_
   | (refine ln (by simp only [↓nrmL, nrmK, Nat.reduceEqDiff, ↓reduceIte]; rfl) ?_)
   | (refine Fo.idx (by simp only [↓nrmL, nrmK, Nat.reduceEqDiff, ↓reduceIte]; rfl) rfl ?_ (by simp only [↓nrmL, nrmZ, Nat.reduceEqDiff, ↓reduceIte, Nat.reduceAdd, Int.reduceBEq, Int.reduceBNe, hck, u8_one, hvk, hgk, hNk]; rfl) ?_; (focus omega))
   | (refine Fo.ldB rfl ?_ rfl ?_; (focus omega))
   | (refine Fo.ldI rfl ?_ (by simp only [↓nrmL, nrmZ, Nat.reduceEqDiff, ↓reduceIte, Nat.reduceAdd, Int.reduceBEq, Int.reduceBNe, hck, u8_one, hvk, hgk, hNk]; rfl) ?_; (focus omega))
   | refine nl hKF ?_
   | refine sq ?_
   | refine rg fun KF hKF => ?_
   | refine ct rfl ?_
   | refine sk ?_
   | refine Wp.block ?_
   | dsimp only [cond_true, cond_false]
  have hi6 : k < 640 * 640 := by omega
  obtain ⟨a', rfl⟩ : ∃ a', a = a' + 1 := ⟨a - 1, by have := (div_lt hiab).1; omega⟩
  have t1 : (k : Int).tmod ((a' + 1 : Nat) : Int) = ((k % (a' + 1) : Nat) : Int) := rfl
  have t2 : IntKind.i64.wrap ((k : Int).tdiv ((a' + 1 : Nat) : Int)) = ((k / (a' + 1) : Nat) : Int) := by
   show IntKind.i64.wrap ((k / (a' + 1) : Nat) : Int) = _
   have h9 := Nat.div_le_self k (a' + 1)
   generalize k / (a' + 1) = z at h9
   exact w64 (by omega)
  refine Fr.dregionE [.row [.int .i64 ((k % (a' + 1) : Nat) : Int), .int .i64 ((k / (a' + 1) : Nat) : Int)] true (2 * 93)] ?_ fun KF hKF => ?_
  ·skip
   repeat first
    | exact oracle_none _ _ _ _ rfl
    | (refine oracle_pre rfl rfl rfl (exec_ld rfl rfl) ?_; (try simp only [↓nrmL, nrmZ, Nat.reduceEqDiff, ↓reduceIte, Nat.reduceAdd, Int.reduceBEq, Int.reduceBNe, t1, t2]))
    | (refine oracle_pre rfl rfl rfl rfl ?_; (try simp only [↓nrmL, nrmZ, Nat.reduceEqDiff, ↓reduceIte, Nat.reduceAdd, Int.reduceBEq, Int.reduceBNe, t1, t2]))
    | (refine oracle_made rfl rfl rfl ?_; (try simp only [↓nrmL, nrmZ, Nat.reduceEqDiff, ↓reduceIte, Nat.reduceAdd, Int.reduceBEq, Int.reduceBNe, t1, t2]))
  simp only [pushAll]
  simp only [↓nrmL, nrmZ, Nat.reduceEqDiff, ↓reduceIte, Nat.reduceAdd, Int.reduceBEq, Int.reduceBNe, t1, t2]
  repeat first
   | (refine Er rfl (exec_ld rfl rfl) rfl ?_)
   | (refine Fe.pure rfl rfl (by simp only [↓nrmL, nrmZ, Nat.reduceEqDiff, ↓reduceIte, Nat.reduceAdd, Int.reduceBEq, Int.reduceBNe, t1, t2]; rfl) ?_)
   | (refine Em rfl rfl ghost_of rfl ?_)
  refine WpE.grow (p := pl) (q := .slice H7.n 0 1 (some 1) 2) (cs := cellsK (a' + 1) (pxr l N i k)) (new := [.int .i64 ((k % (a' + 1) : Nat) : Int), .int .i64 ((k / (a' + 1) : Nat) : Int)]) rfl rfl rfl (by decide) (by decide) (by decide) (by omega) rfl fun p' H8 o8 f8 x8 => ar ?_
  rw [← cellsK_snoc] at o8
  haveI := o8.sl.one
  refine Fe.pure rfl rfl (by simp only [↓nrmL, nrmZ, Nat.reduceEqDiff, ↓reduceIte, Nat.reduceAdd, Int.reduceBEq, Int.reduceBNe]; rfl) ?_
  refine Ee rfl (exec_stO (v := p') rfl rfl rfl rfl) ?_
  refine WpE.nil (hKF _ _ ?_)
  have hil8 : (inkOf ((a' + 1) * b) (pxr l N i k)).length = (a' + 1) * b := inkOf_length _ _
  refine rg fun KF hKF => ?_
  refine fd ?_
  refine Fo.ld rfl rfl ?_
  refine mI ?_
  refine Fo.idx (by simp only [↓nrmL, nrmK, Nat.reduceEqDiff, ↓reduceIte]; rfl) rfl ?_ (by simp only [↓nrmL, nrmZ, Nat.reduceEqDiff, ↓reduceIte, Nat.reduceAdd, Int.reduceBEq, Int.reduceBNe]; rfl) ?_; (focus omega)
  refine WpO.do' (WpX.stB (p := po) (j := k) (l := inkOf ((a' + 1) * b) (pxr l N i k)) 1 rfl rfl rfl (by rw [hil8]; exact hkab') fun H9 b9 w9 x9 => ?_)
  rw [inkOf_set] at b9
  repeat first
   | refine mI ?_
   | refine b0 ?_
   | refine nl hKF ?_
   | refine rg fun KF hKF => ?_
   | dsimp only [cond_true, cond_false]
  refine ⟨(k + 1, p'), by dsimp only; omega, ⟨by simp only [↓nrmL, nrmZ, Nat.reduceEqDiff, ↓reduceIte, Nat.reduceAdd, Int.reduceBEq, Int.reduceBNe]; rw [hwk], trivial⟩, by omega, hkab', inferInstance, by dsimp only; rw [pxr_hit hlk1 hNk', List.length_append, List.length_singleton]; infer_instance, ⟨fun r off len cap sz e => by have h1 := f8.ge _ _ _ _ _ e; have h2 : H6.n < H7.n := hr15.lt; have h3 : (H7.push (.row [.int .i64 ((k % (a' + 1) : Nat) : Int), .int .i64 ((k / (a' + 1) : Nat) : Int)] true (2 * 93))).n = H7.n + 1 := rfl; omega⟩, inferInstance, by dsimp only; rw [pxr_hit hlk1 hNk']; exact b9, w9, inferInstance, inferInstance, inferInstance⟩
 ·skip
  repeat first
   | refine mI ?_
   | refine mB ?_
   | refine nl hKF ?_
   | refine sq ?_
   | refine rg fun KF hKF => ?_
   | refine ct rfl ?_
   | refine sk ?_
   | refine Wp.block ?_
   | dsimp only [cond_true, cond_false]
  refine Wp.loopS [7,8,9,10,11,32,33,34,35,36,37,38,39,40,41,42,43,44,45,46,47,48,49,50,51,52,53,54,55,56,57,58,59,60,61,62,63,64,65,66,67,68,69,70,71,72,73,74,75,76,77,78,79,80,81,82,83,84,85,86,87,88,89,90,91,92,93,94,95,96,97,98,99,100,101,102,103,104,105,106,107,108,109,110,111,112,113,114,115,116,117] (fun s : Bool × List Nat × Nat => [(7, .bool s.1), (8, .int .i64 (s.2.2 : Int))]) (fun H3 s H3' => s.2.2 ≤ b ∧ Pas l a b e N s.2.1 s.1 (∀ y < s.2.2, ∀ x < a, Okpix l a b e N x y) ∧ IntsI H3' q (cN s.2.1) ∧ WrS H3' q ∧ ExtP0 H1 H3' q) (fun s => b - s.2.2) (false, N, 0) rfl (fun _ => rfl) ⟨rfl, rfl, trivial⟩ ⟨Nat.zero_le _, ⟨hnum, Or.inr ⟨rfl, rfl, fun y h => absurd h (Nat.not_lt_zero _)⟩⟩, hb3, hw3, ⟨hx3⟩⟩ (by unfold fuel0 at hn; dsimp only; omega) ?_
  rintro ⟨ch, N4, y⟩ g4 H4 ⟨hyb, hps4, hb4, hw4, ⟨hx4⟩⟩
  dsimp only at hyb hps4 hb4
  clear hb3 hw3 hx3
  simp only [↓nrmL, nrmZ, Nat.reduceEqDiff, ↓reduceIte, Nat.reduceAdd, Int.reduceBEq, Int.reduceBNe]
  cases hcy : decide ((y : Int) < (b : Int))
  ·have hye : y = b := by have := of_decide_eq_false hcy; omega
   subst hye
   refine sq ?_
   refine sq ?_
   refine rg fun KF hKF => ?_
   refine mI ?_
   refine fd ?_
   refine Fo.ld rfl rfl ?_
   refine bn rfl rfl rfl (by simp only [↓nrmL, nrmZ, Nat.reduceEqDiff, ↓reduceIte, Nat.reduceAdd, Int.reduceBEq, Int.reduceBNe, hcy]; rfl) ?_
   refine nl hKF ?_
   refine cf rfl ?_
   refine xi ?_
   dsimp only [cond_true, cond_false]
   refine ⟨(ch, N4), ?_, ⟨rfl, trivial⟩, hps4.num, ?_, hb4, hw4, ⟨hx4⟩⟩
   ·dsimp only
    rcases hps4.it with ⟨rfl, q⟩ | ⟨rfl, rfl, _⟩
    ·simp only [if_true]; omega
    ·simp
   ·intro hch
    dsimp only at hch ⊢
    rcases hps4.it with ⟨q, _⟩ | ⟨_, rfl, q⟩
    ·rw [hch] at q; cases q
    ·exact q
  have hyb' : y < b := by have := of_decide_eq_true hcy; omega
  have hwy := wa1 (a := y) (by omega)
  repeat first
   | refine mI ?_
   | refine fd ?_
   | refine Fo.ld rfl rfl ?_
   | (refine bn rfl rfl rfl (by simp only [↓nrmL, nrmZ, Nat.reduceEqDiff, ↓reduceIte, Nat.reduceAdd, Int.reduceBEq, Int.reduceBNe, hcy]; rfl) ?_)
   | refine nl hKF ?_
   | refine sq ?_
   | refine rg fun KF hKF => ?_
   | refine ct rfl ?_
   | refine sk ?_
   | refine Wp.block ?_
   | dsimp only [cond_true, cond_false]
  refine Wp.loopS [7,9,10,11,38,39,40,41,42,43,44,45,46,47,48,49,50,51,52,53,54,55,56,57,58,59,60,61,62,63,64,65,66,67,68,69,70,71,72,73,74,75,76,77,78,79,80,81,82,83,84,85,86,87,88,89,90,91,92,93,94,95,96,97,98,99,100,101,102,103,104,105,106,107,108,109,110,111,112,113,114,115,116,117] (fun s : Bool × List Nat × Nat => [(7, .bool s.1), (9, .int .i64 (s.2.2 : Int))]) (fun H3 s H3' => s.2.2 ≤ a ∧ Pas l a b e N s.2.1 s.1 ((∀ y' < y, ∀ x < a, Okpix l a b e N x y') ∧ ∀ x < s.2.2, Okpix l a b e N x y) ∧ IntsI H3' q (cN s.2.1) ∧ WrS H3' q ∧ ExtP0 H1 H3' q) (fun s => a - s.2.2) (ch, N4,0) rfl (fun _ => rfl) ⟨rfl, rfl, trivial⟩ ⟨Nat.zero_le _, hps4.to (fun _ h => ⟨h, fun x hx => absurd hx (Nat.not_lt_zero _)⟩), hb4, hw4, ⟨hx4⟩⟩ (by unfold fuel0 at hn; dsimp only; omega) ?_
  rintro ⟨ch, N5, x⟩ g5 H5 ⟨hxa, hps5, hb5, hw5, ⟨hx5⟩⟩
  dsimp only at hxa hps5 hb5
  clear hb4 hw4 hx4
  simp only [↓nrmL, nrmZ, Nat.reduceEqDiff, ↓reduceIte, Nat.reduceAdd, Int.reduceBEq, Int.reduceBNe]
  cases hcx : decide ((x : Int) < (a : Int))
  ·have hxe : x = a := by have := of_decide_eq_false hcx; omega
   subst hxe
   repeat first
    | refine mI ?_
    | refine fd ?_
    | refine Fo.ld rfl rfl ?_
    | (refine bn rfl rfl rfl (by simp only [↓nrmL, nrmZ, Nat.reduceEqDiff, ↓reduceIte, Nat.reduceAdd, Int.reduceBEq, Int.reduceBNe, hcx]; rfl) ?_)
    | refine b0 ?_
    | refine nl hKF ?_
    | refine sq ?_
    | refine rg fun KF hKF => ?_
    | refine cf rfl ?_
    | refine xi ?_
    | dsimp only [cond_true, cond_false]
   refine ⟨(ch, N5, y + 1), by dsimp only; omega, ⟨rfl, by simp only [↓nrmL, nrmZ, Nat.reduceEqDiff, ↓reduceIte, Nat.reduceAdd, Int.reduceBEq, Int.reduceBNe]; rw [hwy], trivial⟩, hyb', hps5.to (fun _ h y' hy' x' hx' => by
    rcases Nat.lt_succ_iff_lt_or_eq.1 hy' with q | rfl
    ·exact h.1 y' q x' hx'
    ·exact h.2 x' hx'), hb5, hw5, ⟨hx5⟩⟩
  have hxa' : x < a := by have := of_decide_eq_true hcx; omega
  have hwx := wa1 (a := x) (by omega)
  have hv0 : IntKind.i64.wrap ((y : Int) - 1) = (y : Int) - 1 + ((0 : Nat) : Int) := by rw [w64 (by omega)]; omega
  have hu0 : IntKind.i64.wrap ((x : Int) - 1) = (x : Int) - 1 + ((0 : Nat) : Int) := by rw [w64 (by omega)]; omega
  repeat first
   | refine mI ?_
   | refine fd ?_
   | refine Fo.ld rfl rfl ?_
   | (refine bn rfl rfl rfl (by simp only [↓nrmL, nrmZ, Nat.reduceEqDiff, ↓reduceIte, Nat.reduceAdd, Int.reduceBEq, Int.reduceBNe, hcx, hv0]; rfl) ?_)
   | refine nl hKF ?_
   | refine sq ?_
   | refine rg fun KF hKF => ?_
   | refine ct rfl ?_
   | refine sk ?_
   | refine Wp.block ?_
   | dsimp only [cond_true, cond_false]
  refine Wp.loopS [7,10,11,46,47,48,49,50,51,52,53,54,55,56,57,58,59,60,61,62,63,64,65,66,67,68,69,70,71,72,73,74,75,76,77,78,79,80,81,82,83,84,85,86,87,88,89,90,91,92,93,94,95,96,97,98,99,100,101,102,103,104,105,106,107,108,109,110,111,112,113,114,115,116,117] (fun s : Bool × List Nat × Nat => [(7, .bool s.1), (10, .int .i64 ((y : Int) - 1 + (s.2.2 : Int)))]) (fun H3 s H3' => s.2.2 ≤ 3 ∧ Pas l a b e N s.2.1 s.1 (((∀ y' < y, ∀ x < a, Okpix l a b e N x y') ∧ ∀ x' < x, Okpix l a b e N x' y) ∧ ∀ kv < s.2.2, ∀ ku < 3, Okp l a b e N x y ((x : Int) - 1 + (ku : Nat)) ((y : Int) - 1 + (kv : Nat))) ∧ IntsI H3' q (cN s.2.1) ∧ WrS H3' q ∧ ExtP0 H1 H3' q) (fun s => 3 - s.2.2) (ch, N5,0) rfl (fun _ => rfl) ⟨rfl, rfl, trivial⟩ ⟨Nat.zero_le _, hps5.to (fun _ h => ⟨h, fun x hx => absurd hx (Nat.not_lt_zero _)⟩), hb5, hw5, ⟨hx5⟩⟩ (by unfold fuel0 at hn; dsimp only; omega) ?_
  rintro ⟨ch, N6, kv⟩ g6 H6 ⟨hkv, hps6, hb6, hw6, ⟨hx6⟩⟩
  dsimp only at hkv hps6 hb6
  clear hb5 hw5 hx5
  simp only [↓nrmL, nrmZ, Nat.reduceEqDiff, ↓reduceIte, Nat.reduceAdd, Int.reduceBEq, Int.reduceBNe]
  have hleave : ∀ h : (kv = 3 ∨ inkB a b l x y = false), Pas l a b e N N6 ch ((∀ y' < y, ∀ x < a, Okpix l a b e N x y') ∧ ∀ x' < x + 1, Okpix l a b e N x' y) := fun h => hps6.to fun _ hh => ⟨hh.1.1, fun x' hx' => by
   rcases Nat.lt_succ_iff_lt_or_eq.1 hx' with q | rfl
   ·exact hh.1.2 x' q
   ·intro hi
    rcases h with rfl | h
    ·exact hh.2
    ·rw [h] at hi; cases hi⟩
  cases hcv : decide ((y : Int) - 1 + (kv : Int) ≤ ((y + 1 : Nat) : Int))
  ·have hk3 : kv = 3 := by have := of_decide_eq_false hcv; omega
   repeat first
    | refine ox ?_
    | refine mI ?_
    | refine mB ?_
    | (refine bn rfl rfl rfl (by simp only [↓nrmL, nrmZ, Nat.reduceEqDiff, ↓reduceIte, Nat.reduceAdd, Int.reduceBEq, Int.reduceBNe, hwy, hcv]; rfl) ?_)
    | refine b0 ?_
    | refine fB ?_
    | refine nl hKF ?_
    | refine sq ?_
    | refine rg fun KF hKF => ?_
    | refine cf rfl ?_
    | refine xi ?_
    | dsimp only [cond_true, cond_false]
   refine ⟨(ch, N6, x + 1), by dsimp only; omega, ⟨rfl, by simp only [↓nrmL, nrmZ, Nat.reduceEqDiff, ↓reduceIte, Nat.reduceAdd, Int.reduceBEq, Int.reduceBNe]; rw [hwx], trivial⟩, hxa', hleave (Or.inl hk3), hb6, hw6, ⟨hx6⟩⟩
  have hk3 : kv < 3 := by have := of_decide_eq_true hcv; omega
  cases hI0 : inkB a b l x y
  ·skip
   repeat first
    | refine oy ?_
    | refine mI ?_
    | refine mB ?_
    | (refine Fo.ldN rfl rfl (by simp only [↓nrmL, nrmZ, Nat.reduceEqDiff, ↓reduceIte, Nat.reduceAdd, Int.reduceBEq, Int.reduceBNe, hwy, hcv, hI0]; rfl) ?_)
    | (refine bn rfl rfl rfl (by simp only [↓nrmL, nrmZ, Nat.reduceEqDiff, ↓reduceIte, Nat.reduceAdd, Int.reduceBEq, Int.reduceBNe, hwy, hcv, hI0]; rfl) ?_)
    | refine b0 ?_
    | refine tB ?_
    | (refine Fo.pcall (v' := ?_) hn rfl (by simp only [↓nrmL, nrmZ, Nat.reduceEqDiff, ↓reduceIte, Nat.reduceAdd, Int.reduceBEq, Int.reduceBNe, hwy, hcv, hI0, List.map]; rfl) rfl ?hv fun _ _ => ?_; case hv => (simp only [↓nrmL, nrmZ, Nat.reduceEqDiff, ↓reduceIte, Nat.reduceAdd, Int.reduceBEq, Int.reduceBNe, hwy, hcv, hI0]; rfl))
    | refine nl hKF ?_
    | refine sq ?_
    | refine rg fun KF hKF => ?_
    | refine cf rfl ?_
    | refine xi ?_
    | dsimp only [cond_true, cond_false]
   refine ⟨(ch, N6, x + 1), by dsimp only; omega, ⟨rfl, by simp only [↓nrmL, nrmZ, Nat.reduceEqDiff, ↓reduceIte, Nat.reduceAdd, Int.reduceBEq, Int.reduceBNe]; rw [hwx], trivial⟩, hxa', hleave (Or.inr hI0), inferInstance, inferInstance, inferInstance⟩
  repeat first
   | refine oy ?_
   | refine mI ?_
   | refine mB ?_
   | (refine Fo.ldN rfl rfl (by simp only [↓nrmL, nrmZ, Nat.reduceEqDiff, ↓reduceIte, Nat.reduceAdd, Int.reduceBEq, Int.reduceBNe, hwy, hcv, hI0, hu0]; rfl) ?_)
   | (refine bn rfl rfl rfl (by simp only [↓nrmL, nrmZ, Nat.reduceEqDiff, ↓reduceIte, Nat.reduceAdd, Int.reduceBEq, Int.reduceBNe, hwy, hcv, hI0, hu0]; rfl) ?_)
   | refine tB ?_
   | (refine Fo.pcall (v' := ?_) hn rfl (by simp only [↓nrmL, nrmZ, Nat.reduceEqDiff, ↓reduceIte, Nat.reduceAdd, Int.reduceBEq, Int.reduceBNe, hwy, hcv, hI0, hu0, List.map]; rfl) rfl ?hv fun _ _ => ?_; case hv => (simp only [↓nrmL, nrmZ, Nat.reduceEqDiff, ↓reduceIte, Nat.reduceAdd, Int.reduceBEq, Int.reduceBNe, hwy, hcv, hI0, hu0]; rfl))
   | refine nl hKF ?_
   | refine sq ?_
   | refine rg fun KF hKF => ?_
   | refine ct rfl ?_
   | refine sk ?_
   | refine Wp.block ?_
   | dsimp only [cond_true, cond_false]
  rename AHeap => Hc
  rename ExtI H6 Hc => hxc
  have hb6c : IntsI Hc q (cN N6) := inferInstance
  have hw6c : WrS Hc q := inferInstance
  have hx6c : ExtP0 H1 Hc q := inferInstance
  refine Wp.loopS [7,11,60,61,62,63,64,65,66,67,68,69,70,71,72,73,74,75,76,77,78,79,80,81,82,83,84,85,86,87,88,89,90,91,92,93,94,95,96,97,98,99,100,101,102,103,104,105,106,107,108,109,110,111,112,113,114,115,116,117] (fun s : Bool × List Nat × Nat => [(7, .bool s.1), (11, .int .i64 ((x : Int) - 1 + (s.2.2 : Int)))]) (fun H3 s H3' => s.2.2 ≤ 3 ∧ Pas l a b e N s.2.1 s.1 (((((∀ y' < y, ∀ x < a, Okpix l a b e N x y') ∧ ∀ x' < x, Okpix l a b e N x' y) ∧ ∀ kv' < kv, ∀ ku < 3, Okp l a b e N x y ((x : Int) - 1 + (ku : Nat)) ((y : Int) - 1 + (kv' : Nat)))) ∧ ∀ ku < s.2.2, Okp l a b e N x y ((x : Int) - 1 + (ku : Nat)) ((y : Int) - 1 + (kv : Nat))) ∧ IntsI H3' q (cN s.2.1) ∧ WrS H3' q ∧ ExtP0 H1 H3' q) (fun s => 3 - s.2.2) (ch, N6,0) rfl (fun _ => rfl) ⟨rfl, rfl, trivial⟩ ⟨Nat.zero_le _, hps6.to (fun _ h => ⟨h, fun x hx => absurd hx (Nat.not_lt_zero _)⟩), hb6c, hw6c, hx6c⟩ (by unfold fuel0 at hn; dsimp only; omega) ?_
  rintro ⟨ch, N7, ku⟩ g7 H7 ⟨hku, hps7, hb7, hw7, ⟨hx7⟩⟩
  dsimp only at hku hps7 hb7
  clear hb6 hw6 hx6 hb6c hw6c hx6c hxc
  simp only [↓nrmL, nrmZ, Nat.reduceEqDiff, ↓reduceIte, Nat.reduceAdd, Int.reduceBEq, Int.reduceBNe]
  have hv1 : IntKind.i64.wrap ((y : Int) - 1 + (kv : Int) + 1) = (y : Int) - 1 + ((kv + 1 : Nat) : Int) := by rw [w64 (by omega)]; omega
  have hu1 : IntKind.i64.wrap ((x : Int) - 1 + (ku : Int) + 1) = (x : Int) - 1 + ((ku + 1 : Nat) : Int) := by rw [w64 (by omega)]; omega
  cases hcu : decide ((x : Int) - 1 + (ku : Int) ≤ ((x + 1 : Nat) : Int))
  ·have hk : ku = 3 := by have := of_decide_eq_false hcu; omega
   subst hk
   repeat first
    | refine mI ?_
    | (refine bn rfl rfl rfl (by simp only [↓nrmL, nrmZ, Nat.reduceEqDiff, ↓reduceIte, Nat.reduceAdd, Int.reduceBEq, Int.reduceBNe, hwx, hcu]; rfl) ?_)
    | refine b0 ?_
    | refine nl hKF ?_
    | refine sq ?_
    | refine rg fun KF hKF => ?_
    | refine cf rfl ?_
    | refine xi ?_
    | dsimp only [cond_true, cond_false]
   refine ⟨(ch, N7, kv + 1), by dsimp only; omega, ⟨rfl, by simp only [↓nrmL, nrmZ, Nat.reduceEqDiff, ↓reduceIte, Nat.reduceAdd, Int.reduceBEq, Int.reduceBNe]; rw [hv1], trivial⟩, hk3, hps7.to (fun _ h => ⟨h.1.1, fun kv' hkv' ku' hku' => by
    rcases Nat.lt_succ_iff_lt_or_eq.1 hkv' with q | rfl
    ·exact h.1.2 kv' q ku' hku'
    ·exact h.2 ku' hku'⟩), hb7, hw7, ⟨hx7⟩⟩
  have hku3 : ku < 3 := by have := of_decide_eq_true hcu; omega
  have hnext : ∀ h : (N7 = N → Okp l a b e N x y ((x : Int) - 1 + (ku : Nat)) ((y : Int) - 1 + (kv : Nat))), Pas l a b e N N7 ch (((((∀ y' < y, ∀ x < a, Okpix l a b e N x y') ∧ ∀ x' < x, Okpix l a b e N x' y) ∧ ∀ kv' < kv, ∀ ku < 3, Okp l a b e N x y ((x : Int) - 1 + (ku : Nat)) ((y : Int) - 1 + (kv' : Nat)))) ∧ ∀ ku' < ku + 1, Okp l a b e N x y ((x : Int) - 1 + (ku' : Nat)) ((y : Int) - 1 + (kv : Nat))) := fun h => hps7.to fun hN hh => ⟨hh.1, fun ku' hku' => by
   rcases Nat.lt_succ_iff_lt_or_eq.1 hku' with q | rfl
   ·exact hh.2 ku' q
   ·exact h hN⟩
  cases hI : inkB a b l ((x : Int) - 1 + (ku : Int)) ((y : Int) - 1 + (kv : Int))
  ·skip
   repeat first
    | refine mI ?_
    | (refine bn rfl rfl rfl (by simp only [↓nrmL, nrmZ, Nat.reduceEqDiff, ↓reduceIte, Nat.reduceAdd, Int.reduceBEq, Int.reduceBNe, hwx, hcu]; rfl) ?_)
    | refine nl hKF ?_
    | refine sq ?_
    | refine rg fun KF hKF => ?_
    | refine ct rfl ?_
    | refine sk ?_
    | refine Wp.block ?_
    | dsimp only [cond_true, cond_false]
   refine Fr.dregion0 rfl fun KF hKF => ?_
   repeat first
    | (refine Er rfl (exec_ldN rfl rfl (by simp only [↓nrmL, nrmZ, Nat.reduceEqDiff, ↓reduceIte, Nat.reduceAdd, Int.reduceBEq, Int.reduceBNe, hI]; rfl)) rfl ?_)
    | (refine Fe.pure rfl rfl (by simp only [↓nrmL, nrmZ, Nat.reduceEqDiff, ↓reduceIte, Nat.reduceAdd, Int.reduceBEq, Int.reduceBNe, hI]; rfl) ?_)
    | (refine Fe.pcall (v' := ?_) rfl hn rfl (by simp only [↓nrmL, nrmZ, Nat.reduceEqDiff, ↓reduceIte, Nat.reduceAdd, Int.reduceBEq, Int.reduceBNe, hI, List.map]; rfl) rfl ?hv fun _ _ => ar ?_; case hv => (simp only [↓nrmL, nrmZ, Nat.reduceEqDiff, ↓reduceIte, Nat.reduceAdd, Int.reduceBEq, Int.reduceBNe, hI]; rfl))
    | refine Fe.skip rfl ?_
    | refine WpE.nil (hKF _ _ ?_)
   refine cf rfl ?_
   refine sk ?_
   refine rg fun KF hKF => ?_
   refine mI ?_
   refine b0 ?_
   refine mI ?_
   refine nl hKF ?_
   dsimp only [cond_true, cond_false]
   refine ⟨(ch, N7, ku + 1), by dsimp only; omega, ⟨rfl, by simp only [↓nrmL, nrmZ, Nat.reduceEqDiff, ↓reduceIte, Nat.reduceAdd, Int.reduceBEq, Int.reduceBNe]; rw [hu1], trivial⟩, hku3, hnext (fun _ q => by rw [hI] at q; cases q), inferInstance, inferInstance, inferInstance⟩
  cases hN : nearB (x : Int) (y : Int) ((x : Int) - 1 + (ku : Int)) ((y : Int) - 1 + (kv : Int)) e
  ·skip
   repeat first
    | refine mI ?_
    | (refine bn rfl rfl rfl (by simp only [↓nrmL, nrmZ, Nat.reduceEqDiff, ↓reduceIte, Nat.reduceAdd, Int.reduceBEq, Int.reduceBNe, hwx, hcu]; rfl) ?_)
    | refine nl hKF ?_
    | refine sq ?_
    | refine rg fun KF hKF => ?_
    | refine ct rfl ?_
    | refine sk ?_
    | refine Wp.block ?_
    | dsimp only [cond_true, cond_false]
   refine Fr.dregion0 rfl fun KF hKF => ?_
   repeat first
    | (refine Er rfl (exec_ldN rfl rfl (by simp only [↓nrmL, nrmZ, Nat.reduceEqDiff, ↓reduceIte, Nat.reduceAdd, Int.reduceBEq, Int.reduceBNe, hI, hN]; rfl)) rfl ?_)
    | (refine Fe.pure rfl rfl (by simp only [↓nrmL, nrmZ, Nat.reduceEqDiff, ↓reduceIte, Nat.reduceAdd, Int.reduceBEq, Int.reduceBNe, hI, hN]; rfl) ?_)
    | (refine Fe.pcall (v' := ?_) rfl hn rfl (by simp only [↓nrmL, nrmZ, Nat.reduceEqDiff, ↓reduceIte, Nat.reduceAdd, Int.reduceBEq, Int.reduceBNe, hI, hN, List.map]; rfl) rfl ?hv fun _ _ => ar ?_; case hv => (simp only [↓nrmL, nrmZ, Nat.reduceEqDiff, ↓reduceIte, Nat.reduceAdd, Int.reduceBEq, Int.reduceBNe, hI, hN]; rfl))
    | refine Fe.skip rfl ?_
    | refine WpE.nil (hKF _ _ ?_)
   refine cf rfl ?_
   refine sk ?_
   refine rg fun KF hKF => ?_
   refine mI ?_
   refine b0 ?_
   refine mI ?_
   refine nl hKF ?_
   dsimp only [cond_true, cond_false]
   refine ⟨(ch, N7, ku + 1), by dsimp only; omega, ⟨rfl, by simp only [↓nrmL, nrmZ, Nat.reduceEqDiff, ↓reduceIte, Nat.reduceAdd, Int.reduceBEq, Int.reduceBNe]; rw [hu1], trivial⟩, hku3, hnext (fun _ _ q => by rw [hN] at q; cases q), inferInstance, inferInstance, inferInstance⟩
  obtain ⟨u, v, e1, e2, hu, hv, hl1⟩ := inkB_true hI
  have hl0 : l.getD (y * a + x) 0 = 1 := by
   rw [inkB_mk hxa' hyb'] at hI0
   exact eq_of_beq hI0
  have hix := idx_lt hxa' hyb'
  have hiu := idx_lt hu hv
  have hva : v * a ≤ 640 * 640 := Nat.mul_le_mul (by omega) ha
  have hya : y * a ≤ 640 * 640 := Nat.mul_le_mul (by omega) ha
  have m1 : IntKind.i64.wrap (((y : Int) - 1 + (kv : Int)) * (a : Int)) = ((v * a : Nat) : Int) := by rw [e2]; exact wm (by omega)
  have m2 : IntKind.i64.wrap (((v * a : Nat) : Int) + ((x : Int) - 1 + (ku : Int))) = ((v * a + u : Nat) : Int) := by rw [e1]; exact wa (by omega)
  have m3 : IntKind.i64.wrap ((y : Int) * (a : Int)) = ((y * a : Nat) : Int) := wm (by omega)
  have m4 : IntKind.i64.wrap (((y * a : Nat) : Int) + (x : Int)) = ((y * a + x : Nat) : Int) := wa (by omega)
  have hNl : (cN N7).length = a * b := by rw [cN_length]; exact hps7.num.len
  have hiu' : v * a + u < (cN N7).length := by rw [hNl]; exact hiu
  have hix' : y * a + x < (cN N7).length := by rw [hNl]; exact hix
  have hge1 : (cN N7)[v * a + u]'hiu' = ((N7.getD (v * a + u) 0 : Nat) : Int) := cN_get hiu'
  have hge2 : (cN N7)[y * a + x]'hix' = ((N7.getD (y * a + x) 0 : Nat) : Int) := cN_get hix'
  cases hL : decide (((N7.getD (v * a + u) 0 : Nat) : Int) < ((N7.getD (y * a + x) 0 : Nat) : Int))
  ·skip
   repeat first
    | refine mI ?_
    | (refine bn rfl rfl rfl (by simp only [↓nrmL, nrmZ, Nat.reduceEqDiff, ↓reduceIte, Nat.reduceAdd, Int.reduceBEq, Int.reduceBNe, hwx, hcu]; rfl) ?_)
    | refine nl hKF ?_
    | refine sq ?_
    | refine rg fun KF hKF => ?_
    | refine ct rfl ?_
    | refine sk ?_
    | refine Wp.block ?_
    | dsimp only [cond_true, cond_false]
   refine Fr.dregion0 rfl fun KF hKF => ?_
   repeat first
    | (refine Er rfl (exec_ld rfl rfl) rfl ?_)
    | (refine Er rfl (exec_ldN rfl rfl (by simp only [↓nrmL, nrmZ, Nat.reduceEqDiff, ↓reduceIte, Nat.reduceAdd, Int.reduceBEq, Int.reduceBNe, hI, hN, m1, m2, m3, m4, hge1, hge2, hL]; rfl)) rfl ?_)
    | (refine Fe.pure rfl rfl (by simp only [↓nrmL, nrmZ, Nat.reduceEqDiff, ↓reduceIte, Nat.reduceAdd, Int.reduceBEq, Int.reduceBNe, hI, hN, m1, m2, m3, m4, hge1, hge2, hL]; rfl) ?_)
    | (refine Fe.pure rfl (exec_idxP (by (try simp only [↓nrmL, nrmZ, Nat.reduceEqDiff, ↓reduceIte, Nat.reduceAdd, Int.reduceBEq, Int.reduceBNe, hI, hN, m1, m2, m3, m4, hge1, hge2, hL]); rfl) rfl ?_) (by simp only [↓nrmL, nrmZ, Nat.reduceEqDiff, ↓reduceIte, Nat.reduceAdd, Int.reduceBEq, Int.reduceBNe, hI, hN, m1, m2, m3, m4, hge1, hge2, hL]; rfl) ?_; (focus omega))
    | (refine Er rfl (exec_ldI rfl (by omega)) (by simp only [↓nrmL, nrmZ, Nat.reduceEqDiff, ↓reduceIte, Nat.reduceAdd, Int.reduceBEq, Int.reduceBNe, hI, hN, m1, m2, m3, m4, hge1, hge2, hL]; rfl) ?_)
    | (refine Fe.pcall (v' := ?_) rfl hn rfl (by simp only [↓nrmL, nrmZ, Nat.reduceEqDiff, ↓reduceIte, Nat.reduceAdd, Int.reduceBEq, Int.reduceBNe, hI, hN, m1, m2, m3, m4, hge1, hge2, hL, List.map]; rfl) rfl ?hv fun _ _ => ar ?_; case hv => (simp only [↓nrmL, nrmZ, Nat.reduceEqDiff, ↓reduceIte, Nat.reduceAdd, Int.reduceBEq, Int.reduceBNe, hI, hN, m1, m2, m3, m4, hge1, hge2, hL]; rfl))
    | refine WpE.nil (hKF _ _ ?_)
   refine cf rfl ?_
   refine sk ?_
   refine rg fun KF hKF => ?_
   refine mI ?_
   refine b0 ?_
   refine mI ?_
   refine nl hKF ?_
   dsimp only [cond_true, cond_false]
   refine ⟨(ch, N7, ku + 1), by dsimp only; omega, ⟨rfl, by simp only [↓nrmL, nrmZ, Nat.reduceEqDiff, ↓reduceIte, Nat.reduceAdd, Int.reduceBEq, Int.reduceBNe]; rw [hu1], trivial⟩, hku3, hnext (fun hNN _ _ => by
    rw [e1, e2, idx_of, ← hNN]
    have := of_decide_eq_false hL
    omega), inferInstance, inferInstance, inferInstance⟩
  ·have hlt : N7.getD (v * a + u) 0 < N7.getD (y * a + x) 0 := by have := of_decide_eq_true hL; omega
   repeat first
    | refine mI ?_
    | (refine bn rfl rfl rfl (by simp only [↓nrmL, nrmZ, Nat.reduceEqDiff, ↓reduceIte, Nat.reduceAdd, Int.reduceBEq, Int.reduceBNe, hwx, hcu]; rfl) ?_)
    | refine nl hKF ?_
    | refine sq ?_
    | refine rg fun KF hKF => ?_
    | refine ct rfl ?_
    | refine sk ?_
    | refine Wp.block ?_
    | dsimp only [cond_true, cond_false]
   refine Fr.dregion0 rfl fun KF hKF => ?_
   repeat first
    | (refine Er rfl (exec_ld rfl rfl) rfl ?_)
    | (refine Er rfl (exec_ldN rfl rfl (by simp only [↓nrmL, nrmZ, Nat.reduceEqDiff, ↓reduceIte, Nat.reduceAdd, Int.reduceBEq, Int.reduceBNe, hI, hN, m1, m2, m3, m4, hge1, hge2, hL]; rfl)) rfl ?_)
    | (refine Fe.pure rfl rfl (by simp only [↓nrmL, nrmZ, Nat.reduceEqDiff, ↓reduceIte, Nat.reduceAdd, Int.reduceBEq, Int.reduceBNe, hI, hN, m1, m2, m3, m4, hge1, hge2, hL]; rfl) ?_)
    | (refine Fe.pure rfl (exec_idxP (by (try simp only [↓nrmL, nrmZ, Nat.reduceEqDiff, ↓reduceIte, Nat.reduceAdd, Int.reduceBEq, Int.reduceBNe, hI, hN, m1, m2, m3, m4, hge1, hge2, hL]); rfl) rfl ?_) (by simp only [↓nrmL, nrmZ, Nat.reduceEqDiff, ↓reduceIte, Nat.reduceAdd, Int.reduceBEq, Int.reduceBNe, hI, hN, m1, m2, m3, m4, hge1, hge2, hL]; rfl) ?_; (focus omega))
    | (refine Er rfl (exec_ldI rfl (by omega)) (by simp only [↓nrmL, nrmZ, Nat.reduceEqDiff, ↓reduceIte, Nat.reduceAdd, Int.reduceBEq, Int.reduceBNe, hI, hN, m1, m2, m3, m4, hge1, hge2, hL]; rfl) ?_)
    | (refine Fe.pcall (v' := ?_) rfl hn rfl (by simp only [↓nrmL, nrmZ, Nat.reduceEqDiff, ↓reduceIte, Nat.reduceAdd, Int.reduceBEq, Int.reduceBNe, hI, hN, m1, m2, m3, m4, hge1, hge2, hL, List.map]; rfl) rfl ?hv fun _ _ => ar ?_; case hv => (simp only [↓nrmL, nrmZ, Nat.reduceEqDiff, ↓reduceIte, Nat.reduceAdd, Int.reduceBEq, Int.reduceBNe, hI, hN, m1, m2, m3, m4, hge1, hge2, hL]; rfl))
    | refine WpE.nil (hKF _ _ ?_)
   refine ct rfl ?_
   refine sq ?_
   refine Fr.dregion0 rfl fun KF hKF => ?_
   repeat first
    | (refine Er rfl (exec_ld rfl rfl) rfl ?_)
    | (refine Fe.pure rfl rfl (by simp only [↓nrmL, nrmZ, Nat.reduceEqDiff, ↓reduceIte, Nat.reduceAdd, Int.reduceBEq, Int.reduceBNe, m1, m2, m3, m4, hge1, hge2]; rfl) ?_)
    | (refine Fe.pure rfl (exec_idxP (by (try simp only [↓nrmL, nrmZ, Nat.reduceEqDiff, ↓reduceIte, Nat.reduceAdd, Int.reduceBEq, Int.reduceBNe, m1, m2, m3, m4, hge1, hge2]); rfl) rfl ?_) (by simp only [↓nrmL, nrmZ, Nat.reduceEqDiff, ↓reduceIte, Nat.reduceAdd, Int.reduceBEq, Int.reduceBNe, m1, m2, m3, m4, hge1, hge2]; rfl) ?_; (focus omega))
    | (refine Er rfl (exec_ldI rfl (by omega)) (by simp only [↓nrmL, nrmZ, Nat.reduceEqDiff, ↓reduceIte, Nat.reduceAdd, Int.reduceBEq, Int.reduceBNe, m1, m2, m3, m4, hge1, hge2]; rfl) ?_)
   refine WpE.stI (p := q) (j := y * a + x) (l := cN N7) (c := ((N7.getD (v * a + u) 0 : Nat) : Int)) rfl rfl rfl hix' fun H9 hb9 hw9 hx9 => ar ?_
   rw [cN_set] at hb9
   haveI := hx9
   refine WpE.nil (hKF _ _ ?_)
   repeat first
    | refine mI ?_
    | refine mB ?_
    | refine b0 ?_
    | refine nl hKF ?_
    | refine rg fun KF hKF => ?_
    | dsimp only [cond_true, cond_false]
   have hnb : Nb a b e (y * a + x) (v * a + u) := nb_of_near ha hb hxa' hyb' hu hv (by rw [e1, e2] at hN; exact hN) (fun q => by
    rw [q.1, q.2] at hlt; exact Nat.lt_irrefl _ hlt)
   have hsum := sum_setN (N := N7) (i := y * a + x) (v := N7.getD (v * a + u) 0) (by rw [hps7.num.len]; exact hix) hlt
   have hsum0 : N7.sum ≤ N.sum := by
    rcases hps7.it with ⟨_, q⟩ | ⟨_, q, _⟩
    ·omega
    ·rw [q]; exact Nat.le_refl _
   refine ⟨(true, N7.set (y * a + x) (N7.getD (v * a + u) 0), ku + 1), by dsimp only; omega, ⟨rfl, by simp only [↓nrmL, nrmZ, Nat.reduceEqDiff, ↓reduceIte, Nat.reduceAdd, Int.reduceBEq, Int.reduceBNe]; rw [hu1], trivial⟩, hku3, ⟨hps7.num.lower hix hl0 hnb hl1 hlt, Or.inl ⟨rfl, by dsimp only; omega⟩⟩, hb9, hw9, inferInstance⟩
end Go.Am
namespace Go.Am
open Go
attribute [local irreducible] Wp WpO WpX WpE
theorem cellsK_xy {a : Nat} {l : List Nat} {k z : Nat} (h : l[k]? = some z) : (cellsK a l)[k * 2]? = some (.int .i64 ((z % a : Nat) : Int)) ∧ (cellsK a l)[k * 2 + 1]? = some (.int .i64 ((z / a : Nat) : Int)) := by
 obtain ⟨hk, rfl⟩ := List.getElem?_eq_some_iff.1 h
 have h1 := cellsK_at (a := a) hk
 have h2 : (((cellsK a l).drop (k * 2)).take 2)[0]? = (cellsK a l)[k * 2]? := by
  rw [List.getElem?_take_of_lt (by decide), List.getElem?_drop, Nat.add_zero]
 have h3 : (((cellsK a l).drop (k * 2)).take 2)[1]? = (cellsK a l)[k * 2 + 1]? := by
  rw [List.getElem?_take_of_lt (by decide), List.getElem?_drop]
 rw [h1] at h2 h3
 exact ⟨h2.symm, h3.symm⟩
theorem K_refDespeckle {a b : Nat} {t : Int} {p : AVal} {H : AHeap} {l : List UInt8} [hp : BytesI H p l] (ok : Ok a b l) (hl : l.length ≤ 3000) : Con ext prog 7 27 [.agg [.int .i64 a, .int .i64 b, p], .int .i64 t] H fun v H' => ∃ N, (∀ i, i < a * b → l.getD i 0 = 1 → Lead l a b true i (N.getD i 0)) ∧ NewInk H H' v ⟨a, b, spk 1 (fun n => decide ((n : Int) ≥ t)) (List.replicate (a * b) 0) (pcs l N (a * b))⟩ := by
 refine con_of (show prog 27 = some c27 from rfl) rfl rfl fun n hn => ?_
 haveI := hp.one
 haveI : Fits a b l := ⟨ok.sized⟩
 have ha := ok.wa
 have hb := ok.hb
 have hll := ok.len
 have hab : a * b ≤ 640 * 640 := Nat.mul_le_mul ha hb
 repeat first
  | refine fd ?_
  | refine Fo.ld rfl rfl ?_
  | refine bA ?_
  | refine nw ?_
  | refine nl hKF ?_
  | refine sq ?_
  | refine rg fun KF hKF => ?_
 refine WpO.do (WpX.conD hn rfl rfl (by simp only [↓nrmL, nrmZ, Nat.reduceEqDiff, ↓reduceIte, Nat.reduceAdd, Int.reduceBEq, Int.reduceBNe, List.map] <;> rfl) (K_refNew ha hb) fun v H2 h5 => ?_)
 obtain ⟨o, e1, ho, hfo, hwo, hxo⟩ := h5
 subst e1
 try dsimp only at ho
 haveI : ExtI _ H2 := ⟨hxo⟩
 haveI := ho.one
 refine nw ?_
 refine so rfl (rfl : _ = AVal.agg _) rfl rfl rfl (by simp only [↓nrmL, nrmZ, Nat.reduceEqDiff, ↓reduceIte, Nat.reduceAdd, Int.reduceBEq, Int.reduceBNe]; rfl) ?_
 refine nl hKF ?_
 refine sq ?_
 refine rg fun KF hKF => ?_
 refine Fo.ldN rfl rfl (by simp only [↓nrmL, nrmZ, Nat.reduceEqDiff, ↓reduceIte, Nat.reduceAdd, Int.reduceBEq, Int.reduceBNe]; rfl) ?_
 dsimp only [cond_true, cond_false]
 obtain ⟨H3, hH3⟩ : ∃ H3 : AHeap, (H2.push (.row [.int .i64 0, .int .i64 0, .nslice] true (2 * 29))).set H2.n (.row [.int .i64 (a : Int), .int .i64 (b : Int), o] true (2 * 29)) = H3 := ⟨_, rfl⟩
 haveI hE23 : Ext0 H2 H3 := by rw [← hH3]; infer_instance
 haveI : ExtI H2 H3 := ⟨hE23.ext⟩
 haveI hr5 : HasRow H3 H2.n [.int .i64 (a : Int), .int .i64 (b : Int), o] true (2 * 29) := by rw [← hH3]; infer_instance
 haveI hr4 : HasRow H3 (H.push (.row [.int .i64 (a : Int), .int .i64 (b : Int), p] true (2 * 29))).n [.int .i64 0, .int .i64 0, .nslice] true (2 * 29) := by rw [← hH3]; infer_instance
 haveI hbo3 : BytesI H3 o (List.replicate (a * b) 0) := by rw [← hH3]; infer_instance
 haveI hwo3 : WrS H3 o := by rw [← hH3]; infer_instance
 haveI hE3 : Ext0 H H3 := by rw [← hH3]; infer_instance
 haveI : ExtI H H3 := ⟨hE3.ext⟩
 haveI hfoH : FreshS H o := hfo.weak
 haveI : RowNe o H2.n := inferInstance
 haveI : RowNe o (H.push (.row [.int .i64 (a : Int), .int .i64 (b : Int), p] true (2 * 29))).n := inferInstance
 simp only [hH3]
 clear hH3
 refine WpO.do (WpX.conD hn rfl rfl (by simp only [↓nrmL, nrmZ, Nat.reduceEqDiff, ↓reduceIte, Nat.reduceAdd, Int.reduceBEq, Int.reduceBNe, List.map] <;> rfl) (K_refComponents (e := true) (l := l) ha hb hl ok.px) fun q H4 h5 => ?_)
 obtain ⟨K, N, C, hHK, hrc, hrn, hld, hx4⟩ := h5
 haveI : ExtI _ H4 := ⟨hx4⟩
 have hcl := hrc.cl hld (by omega)
 haveI := hcl.row
 haveI := hcl.row.one
 haveI hsq : SepS q o := ⟨fun r off len cap sz r' off' len' cap' sz' e e' => by
  have h1 := hrc.fresh.ge _ _ _ _ _ e
  have h2 := hbo3.lt e'
  have h3 := hHK.n
  omega⟩
 have hsc : ∀ (k : Nat) c, C[k]? = some c → SepS c.2 o := fun k c hk => ⟨fun r off len cap sz r' off' len' cap' sz' e e' => by
  have h1 := (hrc.fr k c hk).ge _ _ _ _ _ e
  have h2 := hbo3.lt e'
  have h3 := hHK.n
  omega⟩
 obtain ⟨P, hPe⟩ : ∃ P, pcs l N (a * b) = P := ⟨_, rfl⟩
 have hPlt : ∀ ps ∈ P, ∀ j ∈ ps, j < a * b := fun ps h1 j h2 => by
  rw [← hPe] at h1
  exact pcs_lt h1 h2
 rw [hPe] at hcl
 have l1 := hcl.len
 have hf := hcl.few.1
 have kc := cellsC_length C
 repeat first
  | refine mI ?_
  | (refine mv ?_)
  | refine nl hKF ?_
  | refine sq ?_
  | refine rg fun KF hKF => ?_
  | refine Wp.block ?_
  | dsimp only [cond_true, cond_false]
 refine Wp.loopS [7,8,16,17,18,19,20,21,22,23,24,25,26,27,28,29,30,31,32,33,34,35,36,37,38,39,40,41,42,43,44,45,46,47,48,49,50,51,52,53,54,55,56,57,58,59,60,61] (fun i : Nat => [(7, .int .i64 (i : Int))]) (fun _ i H5 => i ≤ P.length ∧ BytesI H5 o (spk 1 (fun n => decide ((n : Int) ≥ t)) (List.replicate (a * b) 0) (P.take i)) ∧ WrS H5 o ∧ HasRow H5 H2.n [.int .i64 (a : Int), .int .i64 (b : Int), o] true (2 * 29) ∧ HasRow H5 (H.push (.row [.int .i64 (a : Int), .int .i64 (b : Int), p] true (2 * 29))).n [.int .i64 0, .int .i64 0, .nslice] true (2 * 29) ∧ CL H5 q a C P ∧ Ext0 H H5) (fun i => P.length - i) 0 rfl (fun _ => rfl) ⟨rfl, trivial⟩ ⟨Nat.zero_le _, (by show BytesI _ o (List.replicate (a * b) 0); infer_instance), inferInstance, inferInstance, inferInstance, hcl, inferInstance⟩ (by unfold fuel0 at hn; omega) ?_
 clear hr4 hr5 hcl hwo3
 rintro i g H5 ⟨hi, hbo, hwo, hr5, hr4, hcl, hx5⟩
 haveI : ExtI H H5 := ⟨hx5.ext⟩
 haveI := hcl.row
 simp only [↓nrmL, nrmZ, Nat.reduceEqDiff, ↓reduceIte, Nat.reduceAdd, Int.reduceBEq, Int.reduceBNe]
 cases hc : decide ((i : Int) < ((C.length : Nat) : Int))
 ·have hie : i = P.length := by have := of_decide_eq_false hc; omega
  subst hie
  rw [List.take_length] at hbo
  repeat first
   | refine mI ?_
   | (refine mv ?_)
   | (refine Fo.ldN rfl rfl (by simp only [↓nrmL, nrmZ, Nat.reduceEqDiff, ↓reduceIte, Nat.reduceAdd, Int.reduceBEq, Int.reduceBNe, hc]; rfl) ?_)
   | (refine bn rfl rfl rfl (by simp only [hc]; rfl) ?_)
   | (refine ln (by simp only [↓nrmL, nrmK, Nat.reduceEqDiff, ↓reduceIte]; rfl) ?_)
   | (refine so rfl (rfl : _ = AVal.agg _) rfl rfl rfl (by simp only [↓nrmL, nrmZ, Nat.reduceEqDiff, ↓reduceIte, Nat.reduceAdd, Int.reduceBEq, Int.reduceBNe, hc]; rfl) ?_)
   | refine nl hKF ?_
   | refine sq ?_
   | refine rg fun KF hKF => ?_
   | refine cf rfl ?_
   | refine rt ?_
   | refine xi ?_
   | dsimp only [cond_true, cond_false]
  refine rz trivial ?_
  refine ⟨N, hld, ?_⟩
  rw [hPe]
  exact ⟨o, rfl, inferInstance, inferInstance, inferInstance, Ext0.ext⟩
 have hil : i < P.length := by have := of_decide_eq_true hc; omega
 have hw := wa1 (a := i) (by omega)
 obtain ⟨p1, e1, s1, f1⟩ := hcl.at hil
 haveI hsep : SepS p1 o := hsc i _ e1
 have g1 := (cellsC_at e1).2
 dsimp only at g1
 haveI := s1.one
 have hsn := spk_snoc 1 (fun n => decide ((n : Int) ≥ t)) (List.replicate (a * b) 0) (P.take i) P[i]
 rw [← take_snoc (List.getElem?_eq_getElem hil)] at hsn
 have hmem : P[i] ∈ P := List.getElem_mem _
 obtain ⟨ps, hps⟩ : ∃ ps, P[i] = ps := ⟨_, rfl⟩
 rw [hps] at s1 f1 hsn hmem
 obtain ⟨cur, hcur⟩ : ∃ cur, spk 1 (fun n => decide ((n : Int) ≥ t)) (List.replicate (a * b) 0) (P.take i) = cur := ⟨_, rfl⟩
 have hcl' : cur.length = a * b := by rw [← hcur, spk_length, List.length_replicate]
 rw [hcur] at hbo hsn
 repeat first
  | refine mI ?_
  | (refine mv ?_)
  | (refine bn rfl rfl rfl (by simp only [hc]; rfl) ?_)
  | (refine ln (by simp only [↓nrmL, nrmK, Nat.reduceEqDiff, ↓reduceIte]; rfl) ?_)
  | refine nl hKF ?_
  | refine sq ?_
  | refine rg fun KF hKF => ?_
  | refine ct rfl ?_
  | refine sk ?_
  | refine Wp.block ?_
  | dsimp only [cond_true, cond_false]
 refine Wp.loopS [8,22,23,24,25,26,27,28,29,30,31,32,33,34,35,36,37,38,39,40,41,42,43,44,45,46,47,48,49,50,51,52,53,54,55,56,57,58,59,60,61] (fun k : Nat => [(8, .int .i64 (k : Int))]) (fun _ k H6 => k ≤ ps.length ∧ (decide (((ps.length : Nat) : Int) ≥ t) = false → k = 0) ∧ BytesI H6 o (setPx 1 cur (ps.take k)) ∧ WrS H6 o ∧ HasRow H6 H2.n [.int .i64 (a : Int), .int .i64 (b : Int), o] true (2 * 29) ∧ HasRow H6 (H.push (.row [.int .i64 (a : Int), .int .i64 (b : Int), p] true (2 * 29))).n [.int .i64 0, .int .i64 0, .nslice] true (2 * 29) ∧ CL H6 q a C P ∧ SliceAt H6 p1 2 ps.length (cellsK a ps) ∧ Ext0 H H6) (fun k => ps.length - k) 0 rfl (fun _ => rfl) ⟨rfl, trivial⟩ ⟨Nat.zero_le _, fun _ => rfl, (by show BytesI _ o cur; infer_instance), inferInstance, inferInstance, inferInstance, hcl, inferInstance, inferInstance⟩ (by unfold fuel0 at hn; omega) ?_
 clear hr4 hr5 hcl hwo
 rintro k gk H6 ⟨hk, hk0, hbo6, hwo6, hr56, hr46, hcl6, hs6, hx6⟩
 haveI : ExtI H H6 := ⟨hx6.ext⟩
 haveI := hcl6.row
 simp only [↓nrmL, nrmZ, Nat.reduceEqDiff, ↓reduceIte, Nat.reduceAdd, Int.reduceBEq, Int.reduceBNe]
 cases hck : decide ((k : Int) < ((ps.length : Nat) : Int))
 ·have hke : k = ps.length := by have := of_decide_eq_false hck; omega
  have hsn2 : spk 1 (fun n => decide ((n : Int) ≥ t)) (List.replicate (a * b) 0) (P.take (i + 1)) = setPx 1 cur (ps.take k) := by
   rw [hsn]
   cases ht2 : decide (((ps.length : Nat) : Int) ≥ t)
   ·rw [hk0 ht2]; rfl
   ·rw [hke, List.take_length]; rfl
  rw [← hsn2] at hbo6
  refine sq ?_
  refine sq ?_
  refine rg fun KF hKF => ?_
  refine mI ?_
  refine mv ?_
  refine mI ?_
  refine Fo.idx (by simp only [↓nrmL, nrmK, Nat.reduceEqDiff, ↓reduceIte]; rfl) rfl ?_ (by simp only [↓nrmL, nrmZ, Nat.reduceEqDiff, ↓reduceIte, Nat.reduceAdd, Int.reduceBEq, Int.reduceBNe]; rfl) ?_; (focus omega)
  refine fd ?_
  refine Fo.now rfl (exec_ldP (p := q) (j := i * 5 + 4) rfl g1) rfl ?_
  repeat first
   | refine ox ?_
   | refine mI ?_
   | refine mB ?_
   | (refine bn rfl rfl rfl (by simp only [hck]; rfl) ?_)
   | refine b0 ?_
   | refine fB ?_
   | (refine ln (by simp only [↓nrmL, nrmK, Nat.reduceEqDiff, ↓reduceIte]; rfl) ?_)
   | refine nl hKF ?_
   | refine rg fun KF hKF => ?_
   | refine cf rfl ?_
   | refine xi ?_
   | dsimp only [cond_true, cond_false]
  refine ⟨i + 1, by omega, ⟨by simp only [↓nrmL, nrmZ, Nat.reduceEqDiff, ↓reduceIte, Nat.reduceAdd, Int.reduceBEq, Int.reduceBNe]; rw [hw], trivial⟩, hil, inferInstance, inferInstance, inferInstance, inferInstance, hcl6, inferInstance⟩
 have hkl : k < ps.length := by have := of_decide_eq_true hck; omega
 cases ht2 : decide (((ps.length : Nat) : Int) ≥ t)
 ·have hsn2 : spk 1 (fun n => decide ((n : Int) ≥ t)) (List.replicate (a * b) 0) (P.take (i + 1)) = setPx 1 cur (ps.take k) := by
   rw [hsn, ht2, hk0 ht2]; rfl
  rw [← hsn2] at hbo6
  refine sq ?_
  refine sq ?_
  refine rg fun KF hKF => ?_
  refine mI ?_
  refine mv ?_
  refine mI ?_
  refine Fo.idx (by simp only [↓nrmL, nrmK, Nat.reduceEqDiff, ↓reduceIte]; rfl) rfl ?_ (by simp only [↓nrmL, nrmZ, Nat.reduceEqDiff, ↓reduceIte, Nat.reduceAdd, Int.reduceBEq, Int.reduceBNe]; rfl) ?_; (focus omega)
  refine fd ?_
  refine Fo.now rfl (exec_ldP (p := q) (j := i * 5 + 4) rfl g1) rfl ?_
  repeat first
   | refine oy ?_
   | refine mI ?_
   | refine mB ?_
   | (refine mv ?_)
   | refine fd ?_
   | (refine bn rfl rfl rfl (by simp only [hck]; rfl) ?_)
   | (refine ln (by simp only [↓nrmL, nrmK, Nat.reduceEqDiff, ↓reduceIte]; rfl) ?_)
   | (refine Fo.idx (by simp only [↓nrmL, nrmK, Nat.reduceEqDiff, ↓reduceIte]; rfl) rfl ?_ (by simp only [↓nrmL, nrmZ, Nat.reduceEqDiff, ↓reduceIte, Nat.reduceAdd, Int.reduceBEq, Int.reduceBNe, hck]; rfl) ?_; (focus omega))
  refine Fo.now rfl (exec_ldP (p := q) (j := i * 5 + 4) rfl g1) rfl ?_
  repeat first
   | refine oy ?_
   | refine mI ?_
   | (refine bn rfl rfl rfl (by simp only [ht2]; rfl) ?_)
   | refine b0 ?_
   | refine tB ?_
   | (refine ln (by simp only [↓nrmL, nrmK, Nat.reduceEqDiff, ↓reduceIte]; rfl) ?_)
   | refine nl hKF ?_
   | refine rg fun KF hKF => ?_
   | refine cf rfl ?_
   | refine xi ?_
   | dsimp only [cond_true, cond_false]
  refine ⟨i + 1, by omega, ⟨by simp only [↓nrmL, nrmZ, Nat.reduceEqDiff, ↓reduceIte, Nat.reduceAdd, Int.reduceBEq, Int.reduceBNe]; rw [hw], trivial⟩, hil, inferInstance, inferInstance, inferInstance, inferInstance, hcl6, inferInstance⟩
 have hwk := wa1 (a := k) (by omega)
 have hkl2 := cellsK_length a ps
 obtain ⟨z, hz⟩ : ∃ z, ps[k] = z := ⟨_, rfl⟩
 obtain ⟨gx, gy⟩ := cellsK_xy (a := a) (List.getElem?_eq_getElem hkl)
 rw [hz] at gx gy
 have hza : z < a * b := by rw [← hz]; exact hPlt ps hmem _ (List.getElem_mem _)
 obtain ⟨hh1, hh2, hh3, hh4⟩ := div_lt hza
 have hset := setPx_snoc 1 cur (ps.take k) z
 rw [← hz, ← take_snoc (List.getElem?_eq_getElem hkl)] at hset
 rw [hz] at hset
 have hzl : (setPx 1 cur (ps.take k)).length = a * b := by rw [setPx_length]; omega
 refine sq ?_
 refine sq ?_
 refine rg fun KF hKF => ?_
 refine mI ?_
 refine mv ?_
 refine mI ?_
 refine Fo.idx (by simp only [↓nrmL, nrmK, Nat.reduceEqDiff, ↓reduceIte]; rfl) rfl ?_ (by simp only [↓nrmL, nrmZ, Nat.reduceEqDiff, ↓reduceIte, Nat.reduceAdd, Int.reduceBEq, Int.reduceBNe]; rfl) ?_; (focus omega)
 refine fd ?_
 refine Fo.now rfl (exec_ldP (p := q) (j := i * 5 + 4) rfl g1) rfl ?_
 repeat first
  | refine oy ?_
  | refine mI ?_
  | refine mB ?_
  | (refine mv ?_)
  | refine fd ?_
  | (refine bn rfl rfl rfl (by simp only [hck]; rfl) ?_)
  | (refine ln (by simp only [↓nrmL, nrmK, Nat.reduceEqDiff, ↓reduceIte]; rfl) ?_)
  | (refine Fo.idx (by simp only [↓nrmL, nrmK, Nat.reduceEqDiff, ↓reduceIte]; rfl) rfl ?_ (by simp only [↓nrmL, nrmZ, Nat.reduceEqDiff, ↓reduceIte, Nat.reduceAdd, Int.reduceBEq, Int.reduceBNe, hck]; rfl) ?_; (focus omega))
 refine Fo.now rfl (exec_ldP (p := q) (j := i * 5 + 4) rfl g1) rfl ?_
 refine oy ?_
 refine ln (by simp only [↓nrmL, nrmK, Nat.reduceEqDiff, ↓reduceIte]; rfl) ?_
 refine oy ?_
 refine mI ?_
 refine oy ?_
 refine bn rfl rfl rfl (by simp only [ht2]; rfl) ?_
 refine tB ?_
 refine nl hKF ?_
 refine ct rfl ?_
 refine sk ?_
 refine sq ?_
 refine Wp.block ?_
 dsimp only [cond_true, cond_false]
 refine Fr.dregion0 rfl fun KF hKF => ?_
 repeat first
  | (refine Er rfl (exec_ldN rfl rfl (by simp only [↓nrmL, nrmZ, Nat.reduceEqDiff, ↓reduceIte, Nat.reduceAdd, Int.reduceBEq, Int.reduceBNe]; rfl)) rfl ?_)
  | (refine Fe.pure rfl rfl (by simp only [↓nrmL, nrmZ, Nat.reduceEqDiff, ↓reduceIte, Nat.reduceAdd, Int.reduceBEq, Int.reduceBNe]; rfl) ?_)
  | refine Fe.pure rfl rfl rfl ?_
  | (refine Fe.pure rfl (exec_idxP (by (try simp only [↓nrmL, nrmZ, Nat.reduceEqDiff, ↓reduceIte, Nat.reduceAdd, Int.reduceBEq, Int.reduceBNe]); rfl) rfl ?_) (by simp only [↓nrmL, nrmZ, Nat.reduceEqDiff, ↓reduceIte, Nat.reduceAdd, Int.reduceBEq, Int.reduceBNe]; rfl) ?_; (focus omega))
 refine Fe.read rfl (exec_ldP (p := q) (j := i * 5 + 4) rfl g1) rfl trivial ?_
 refine Fe.pure rfl rfl (by simp only [↓nrmL, nrmZ, Nat.reduceEqDiff, ↓reduceIte, Nat.reduceAdd, Int.reduceBEq, Int.reduceBNe]; rfl) ?_
 refine Fe.pure rfl (exec_idxP (by (try simp only [↓nrmL, nrmZ, Nat.reduceEqDiff, ↓reduceIte, Nat.reduceAdd, Int.reduceBEq, Int.reduceBNe]); rfl) rfl ?_) (by simp only [↓nrmL, nrmZ, Nat.reduceEqDiff, ↓reduceIte, Nat.reduceAdd, Int.reduceBEq, Int.reduceBNe]; rfl) ?_; (focus omega)
 refine Fe.pure rfl rfl rfl ?_
 refine Fe.read rfl (exec_ldP (p := p1) (j := k * 2) rfl gx) rfl trivial ?_
 repeat first
  | (refine Fe.pure rfl rfl (by simp only [↓nrmL, nrmZ, Nat.reduceEqDiff, ↓reduceIte, Nat.reduceAdd, Int.reduceBEq, Int.reduceBNe]; rfl) ?_)
  | refine Fe.pure rfl rfl rfl ?_
  | (refine Fe.pure rfl (exec_idxP (by (try simp only [↓nrmL, nrmZ, Nat.reduceEqDiff, ↓reduceIte, Nat.reduceAdd, Int.reduceBEq, Int.reduceBNe]); rfl) rfl ?_) (by simp only [↓nrmL, nrmZ, Nat.reduceEqDiff, ↓reduceIte, Nat.reduceAdd, Int.reduceBEq, Int.reduceBNe]; rfl) ?_; (focus omega))
 refine Fe.read rfl (exec_ldP (p := q) (j := i * 5 + 4) rfl g1) rfl trivial ?_
 refine Fe.pure rfl rfl (by simp only [↓nrmL, nrmZ, Nat.reduceEqDiff, ↓reduceIte, Nat.reduceAdd, Int.reduceBEq, Int.reduceBNe]; rfl) ?_
 refine Fe.pure rfl (exec_idxP (by (try simp only [↓nrmL, nrmZ, Nat.reduceEqDiff, ↓reduceIte, Nat.reduceAdd, Int.reduceBEq, Int.reduceBNe]); rfl) rfl ?_) (by simp only [↓nrmL, nrmZ, Nat.reduceEqDiff, ↓reduceIte, Nat.reduceAdd, Int.reduceBEq, Int.reduceBNe]; rfl) ?_; (focus omega)
 refine Fe.pure rfl rfl rfl ?_
 refine Fe.read rfl (exec_ldP (p := p1) (j := k * 2 + 1) rfl gy) rfl trivial ?_
 skip
 refine Fe.con rfl hn rfl rfl (by simp only [↓nrmL, nrmZ, Nat.reduceEqDiff, ↓reduceIte, Nat.reduceAdd, Int.reduceBEq, Int.reduceBNe, List.map] <;> rfl) (K_refSet (x := z % a) (y := z / a) (w := a) (h := b) (l := setPx 1 cur (ps.take k)) (by omega) (by omega)) fun v2 H7 h5 => ?_
 obtain ⟨hb7, hw7, hx7⟩ := h5
 rw [← hh4, ← hset] at hb7
 refine ar ?_
 refine WpE.nil (hKF _ _ ?_)
 refine rg fun KF hKF => ?_
 refine mI ?_
 refine b0 ?_
 refine mI ?_
 refine nl hKF ?_
 dsimp only [cond_true, cond_false]
 refine ⟨k + 1, by omega, ⟨by simp only [↓nrmL, nrmZ, Nat.reduceEqDiff, ↓reduceIte, Nat.reduceAdd, Int.reduceBEq, Int.reduceBNe]; rw [hwk], trivial⟩, hkl, fun e => Bool.noConfusion e, inferInstance, inferInstance, inferInstance, inferInstance, hcl6.extP hx7 hsq hsc, inferInstance, inferInstance⟩
end Go.Am
namespace Go.Am
open Go
attribute [local irreducible] Wp WpO WpX WpE
theorem K_refApplyE {w h t0 k0 s0 : Int} {p : AVal} {H : AHeap} {l : List UInt8} [hp : BytesI H p l] (h0 : sizedB w h l.length = false ∨ properB t0 k0 s0 = false) : Con ext prog 10 8 [.agg [.int .i64 w, .int .i64 h, p], .agg [.int .i64 t0, .int .i64 k0, .int .i64 s0]] H fun v H' => InkRes H H' v (.zero, bif sizedB w h l.length then 1 else 2) := by
 refine con_of (show prog 8 = some c8 from rfl) rfl rfl fun n hn => ?_
 haveI := hp.one
 cases hs : sizedB w h l.length
 ·have hse : sizeErr false = 2 := rfl
  repeat first
   | refine mI ?_
   | (refine Fo.ldN rfl rfl (by simp only [↓nrmL, nrmZ, Nat.reduceEqDiff, ↓reduceIte, hs, hse]; rfl) ?_)
   | (refine bn rfl rfl rfl (by simp only [↓nrmL, nrmZ, Nat.reduceEqDiff, ↓reduceIte, hs, hse]; rfl) ?_)
   | (refine Fo.pcall (v' := ?_) hn rfl (by simp only [↓nrmL, nrmZ, Nat.reduceEqDiff, ↓reduceIte, hs, hse, List.map]; rfl) rfl ?hv fun _ _ => ?_; case hv => (simp only [hs, hse]; rfl))
   | refine bA ?_
   | refine nw ?_
   | refine Fo.now rfl rfl rfl ?_
   | (refine so rfl (rfl : _ = AVal.agg _) rfl rfl rfl (by simp only [↓nrmL, nrmZ, Nat.reduceEqDiff, ↓reduceIte, hs, hse]; rfl) ?_)
   | refine nl hKF ?_
   | refine sq ?_
   | refine rg fun KF hKF => ?_
   | refine ct rfl ?_
   | refine rt ?_
  refine rz trivial ?_
  exact ⟨_, rfl, newZero⟩
 have hse : sizeErr true = 0 := rfl
 have hpr : properB t0 k0 s0 = false := by rcases h0 with q | q; rw [hs] at q; cases q; exact q
 cases g1 : decide (t0 < 0)
 rotate_left
 ·skip
  repeat first
   | refine ox ?_
   | refine mI ?_
   | refine mB ?_
   | refine fd ?_
   | refine Fo.ld rfl rfl ?_
   | (refine Fo.ldN rfl rfl (by simp only [↓nrmL, nrmZ, Nat.reduceEqDiff, ↓reduceIte, hs, hse, g1]; rfl) ?_)
   | (refine bn rfl rfl rfl (by simp only [hs, hse, g1]; rfl) ?_)
   | (refine bn rfl rfl rfl (by simp only [↓nrmL, nrmZ, Nat.reduceEqDiff, ↓reduceIte, hs, hse, g1]; rfl) ?_)
   | refine tB ?_
   | (refine Fo.pcall (v' := ?_) hn rfl (by simp only [↓nrmL, nrmZ, Nat.reduceEqDiff, ↓reduceIte, hs, hse, g1, List.map]; rfl) rfl ?hv fun _ _ => ?_; case hv => (simp only [hs, hse, g1]; rfl))
   | refine bA ?_
   | refine nw ?_
   | refine Fo.now rfl rfl rfl ?_
   | (refine so rfl (rfl : _ = AVal.agg _) rfl rfl rfl (by simp only [↓nrmL, nrmZ, Nat.reduceEqDiff, ↓reduceIte, hs, hse, g1]; rfl) ?_)
   | refine nl hKF ?_
   | refine sq ?_
   | refine rg fun KF hKF => ?_
   | refine ct rfl ?_
   | refine cf rfl ?_
   | refine sk ?_
   | refine rt ?_
  refine rz trivial ?_
  exact ⟨_, rfl, newZero⟩
 cases g2 : decide (t0 > 256)
 rotate_left
 ·skip
  repeat first
   | refine oy ?_
   | refine ox ?_
   | refine mI ?_
   | refine mB ?_
   | refine fd ?_
   | refine Fo.ld rfl rfl ?_
   | (refine Fo.ldN rfl rfl (by simp only [↓nrmL, nrmZ, Nat.reduceEqDiff, ↓reduceIte, hs, hse, g1, g2]; rfl) ?_)
   | (refine bn rfl rfl rfl (by simp only [hs, hse, g1, g2]; rfl) ?_)
   | (refine bn rfl rfl rfl (by simp only [↓nrmL, nrmZ, Nat.reduceEqDiff, ↓reduceIte, hs, hse, g1, g2]; rfl) ?_)
   | refine tB ?_
   | refine fB ?_
   | (refine Fo.pcall (v' := ?_) hn rfl (by simp only [↓nrmL, nrmZ, Nat.reduceEqDiff, ↓reduceIte, hs, hse, g1, g2, List.map]; rfl) rfl ?hv fun _ _ => ?_; case hv => (simp only [hs, hse, g1, g2]; rfl))
   | refine bA ?_
   | refine nw ?_
   | refine Fo.now rfl rfl rfl ?_
   | (refine so rfl (rfl : _ = AVal.agg _) rfl rfl rfl (by simp only [↓nrmL, nrmZ, Nat.reduceEqDiff, ↓reduceIte, hs, hse, g1, g2]; rfl) ?_)
   | refine nl hKF ?_
   | refine sq ?_
   | refine rg fun KF hKF => ?_
   | refine ct rfl ?_
   | refine cf rfl ?_
   | refine sk ?_
   | refine rt ?_
  refine rz trivial ?_
  exact ⟨_, rfl, newZero⟩
 cases g3 : decide (k0 < -3)
 rotate_left
 ·skip
  repeat first
   | refine oy ?_
   | refine ox ?_
   | refine mI ?_
   | refine mB ?_
   | refine fd ?_
   | refine Fo.ld rfl rfl ?_
   | (refine Fo.ldN rfl rfl (by simp only [↓nrmL, nrmZ, Nat.reduceEqDiff, ↓reduceIte, hs, hse, g1, g2, g3]; rfl) ?_)
   | (refine bn rfl rfl rfl (by simp only [hs, hse, g1, g2, g3]; rfl) ?_)
   | (refine bn rfl rfl rfl (by simp only [↓nrmL, nrmZ, Nat.reduceEqDiff, ↓reduceIte, hs, hse, g1, g2, g3]; rfl) ?_)
   | refine tB ?_
   | refine fB ?_
   | (refine Fo.pcall (v' := ?_) hn rfl (by simp only [↓nrmL, nrmZ, Nat.reduceEqDiff, ↓reduceIte, hs, hse, g1, g2, g3, List.map]; rfl) rfl ?hv fun _ _ => ?_; case hv => (simp only [hs, hse, g1, g2, g3]; rfl))
   | refine bA ?_
   | refine nw ?_
   | refine Fo.now rfl rfl rfl ?_
   | (refine so rfl (rfl : _ = AVal.agg _) rfl rfl rfl (by simp only [↓nrmL, nrmZ, Nat.reduceEqDiff, ↓reduceIte, hs, hse, g1, g2, g3]; rfl) ?_)
   | refine nl hKF ?_
   | refine sq ?_
   | refine rg fun KF hKF => ?_
   | refine ct rfl ?_
   | refine cf rfl ?_
   | refine sk ?_
   | refine rt ?_
  refine rz trivial ?_
  exact ⟨_, rfl, newZero⟩
 cases g4 : decide (k0 > 3)
 rotate_left
 ·skip
  repeat first
   | refine oy ?_
   | refine ox ?_
   | refine mI ?_
   | refine mB ?_
   | refine fd ?_
   | refine Fo.ld rfl rfl ?_
   | (refine Fo.ldN rfl rfl (by simp only [↓nrmL, nrmZ, Nat.reduceEqDiff, ↓reduceIte, hs, hse, g1, g2, g3, g4]; rfl) ?_)
   | (refine bn rfl rfl rfl (by simp only [hs, hse, g1, g2, g3, g4]; rfl) ?_)
   | (refine bn rfl rfl rfl (by simp only [↓nrmL, nrmZ, Nat.reduceEqDiff, ↓reduceIte, hs, hse, g1, g2, g3, g4]; rfl) ?_)
   | refine tB ?_
   | refine fB ?_
   | (refine Fo.pcall (v' := ?_) hn rfl (by simp only [↓nrmL, nrmZ, Nat.reduceEqDiff, ↓reduceIte, hs, hse, g1, g2, g3, g4, List.map]; rfl) rfl ?hv fun _ _ => ?_; case hv => (simp only [hs, hse, g1, g2, g3, g4]; rfl))
   | refine bA ?_
   | refine nw ?_
   | refine Fo.now rfl rfl rfl ?_
   | (refine so rfl (rfl : _ = AVal.agg _) rfl rfl rfl (by simp only [↓nrmL, nrmZ, Nat.reduceEqDiff, ↓reduceIte, hs, hse, g1, g2, g3, g4]; rfl) ?_)
   | refine nl hKF ?_
   | refine sq ?_
   | refine rg fun KF hKF => ?_
   | refine ct rfl ?_
   | refine cf rfl ?_
   | refine sk ?_
   | refine rt ?_
  refine rz trivial ?_
  exact ⟨_, rfl, newZero⟩
 cases g5 : decide (s0 < 0)
 rotate_left
 ·skip
  repeat first
   | refine oy ?_
   | refine mI ?_
   | refine mB ?_
   | refine fd ?_
   | refine Fo.ld rfl rfl ?_
   | (refine Fo.ldN rfl rfl (by simp only [↓nrmL, nrmZ, Nat.reduceEqDiff, ↓reduceIte, hs, hse, g1, g2, g3, g4, g5]; rfl) ?_)
   | (refine bn rfl rfl rfl (by simp only [hs, hse, g1, g2, g3, g4, g5]; rfl) ?_)
   | (refine bn rfl rfl rfl (by simp only [↓nrmL, nrmZ, Nat.reduceEqDiff, ↓reduceIte, hs, hse, g1, g2, g3, g4, g5]; rfl) ?_)
   | refine fB ?_
   | (refine Fo.pcall (v' := ?_) hn rfl (by simp only [↓nrmL, nrmZ, Nat.reduceEqDiff, ↓reduceIte, hs, hse, g1, g2, g3, g4, g5, List.map]; rfl) rfl ?hv fun _ _ => ?_; case hv => (simp only [hs, hse, g1, g2, g3, g4, g5]; rfl))
   | refine bA ?_
   | refine nw ?_
   | refine Fo.now rfl rfl rfl ?_
   | (refine so rfl (rfl : _ = AVal.agg _) rfl rfl rfl (by simp only [↓nrmL, nrmZ, Nat.reduceEqDiff, ↓reduceIte, hs, hse, g1, g2, g3, g4, g5]; rfl) ?_)
   | refine nl hKF ?_
   | refine sq ?_
   | refine rg fun KF hKF => ?_
   | refine ct rfl ?_
   | refine cf rfl ?_
   | refine sk ?_
   | refine rt ?_
  refine rz trivial ?_
  exact ⟨_, rfl, newZero⟩
 exfalso
 have g1 := of_decide_eq_false g1
 have g2 := of_decide_eq_false g2
 have g3 := of_decide_eq_false g3
 have g4 := of_decide_eq_false g4
 have g5 := of_decide_eq_false g5
 unfold properB at hpr
 rw [decide_eq_true (by omega), decide_eq_true (by omega), skB_iff.2 (by omega), decide_eq_true (by omega)] at hpr
 cases hpr
theorem K_refApply {a b : Nat} {t0 k0 s0 : Int} {p : AVal} {H : AHeap} {l : List UInt8} [hp : BytesI H p l] (hs : sizedB a b l.length = true) (hpr : properB t0 k0 s0 = true) (hle : l.length ≤ 3000) : Con ext prog 10 8 [.agg [.int .i64 a, .int .i64 b, p], .agg [.int .i64 t0, .int .i64 k0, .int .i64 s0]] H fun v H' => ∃ T, thrSpec ⟨a, b, l⟩ t0 = (⟨a, b, T⟩, 0) ∧ Ok a b T ∧ ((¬ grN a k0 a ≤ b ∧ InkRes H H' v (.zero, 2)) ∨
  ∃ c U N, b = c + grN a k0 a ∧ unskewS ⟨a, b, T⟩ k0 = (⟨a, c, U⟩, 0) ∧ Ok a c U ∧ (∀ i, i < a * c → U.getD i 0 = 1 → Lead U a c true i (N.getD i 0)) ∧ InkRes H H' v (⟨a, c, spk 1 (fun n => decide ((n : Int) ≥ s0)) (List.replicate (a * c) 0) (pcs U N (a * c))⟩, 0)) := by
 refine con_of (show prog 8 = some c8 from rfl) rfl rfl fun n hn => ?_
 haveI := hp.one
 have hse : sizeErr true = 0 := rfl
 have hpb : ((t0 ≥ 0 ∧ t0 ≤ 256) ∧ skB k0 = true) ∧ s0 ≥ 0 := by simpa [properB] using hpr
 have hsk := hpb.1.2
 have hkb := skB_iff.1 hsk
 have g1 : decide (t0 < 0) = false := decide_eq_false (by omega)
 have g2 : decide (t0 > 256) = false := decide_eq_false (by omega)
 have g3 : decide (k0 < -3) = false := decide_eq_false (by omega)
 have g4 : decide (k0 > 3) = false := decide_eq_false (by omega)
 have g5 : decide (s0 < 0) = false := decide_eq_false (by omega)
 obtain ⟨T, hT, okT⟩ := thr_ok (t := t0) hs (by omega) (by omega)
 obtain ⟨_, _, q1, q2, _, _, hlen⟩ := sized_nat hs
 have hab : l.length = a * b := by rw [hlen]; congr 1 <;> omega
 repeat first
  | refine oy ?_
  | refine mI ?_
  | refine mB ?_
  | refine fd ?_
  | refine Fo.ld rfl rfl ?_
  | (refine Fo.ldN rfl rfl (by simp only [↓nrmL, nrmZ, Nat.reduceEqDiff, ↓reduceIte, Nat.reduceAdd, Int.reduceBEq, Int.reduceBNe, hs, hse, g1, g2, g3, g4, g5]; rfl) ?_)
  | (refine bn rfl rfl rfl (by simp only [hs, hse, g1, g2, g3, g4, g5]; rfl) ?_)
  | (refine bn rfl rfl rfl (by simp only [↓nrmL, nrmZ, Nat.reduceEqDiff, ↓reduceIte, Nat.reduceAdd, Int.reduceBEq, Int.reduceBNe, hs, hse, g1, g2, g3, g4, g5]; rfl) ?_)
  | refine fB ?_
  | (refine Fo.pcall (v' := ?_) hn rfl (by simp only [↓nrmL, nrmZ, Nat.reduceEqDiff, ↓reduceIte, Nat.reduceAdd, Int.reduceBEq, Int.reduceBNe, hs, hse, g1, g2, g3, g4, g5, List.map]; rfl) rfl ?hv fun _ _ => ?_; case hv => (simp only [hs, hse, g1, g2, g3, g4, g5]; rfl))
  | refine bA ?_
  | refine nw ?_
  | refine nl hKF ?_
  | refine sq ?_
  | refine rg fun KF hKF => ?_
  | refine cf rfl ?_
  | refine sk ?_
 refine WpO.do (WpX.conD hn rfl rfl (by simp only [↓nrmL, nrmZ, Nat.reduceEqDiff, ↓reduceIte, Nat.reduceAdd, Int.reduceBEq, Int.reduceBNe, List.map] <;> rfl) (K_refThreshold (w := a) (h := b) (l := l) (level := t0)) fun v H1 h5 => ?_)
 rw [hT] at h5
 obtain ⟨v, e1, q, e2, hq, hf, hw, hx⟩ := h5
 subst e1 e2
 try dsimp only at hq
 haveI : ExtI _ H1 := ⟨hx⟩
 haveI := hq.one
 refine mT ?_
 refine xt ?_
 refine xt ?_
 refine nw ?_
 refine so rfl (rfl : _ = AVal.agg _) rfl rfl rfl (by simp only [↓nrmL, nrmZ, Nat.reduceEqDiff, ↓reduceIte, Nat.reduceAdd, Int.reduceBEq, Int.reduceBNe]; rfl) ?_
 refine mI ?_
 refine nl hKF ?_
 refine sq ?_
 refine rg fun KF hKF => ?_
 refine Fo.ldN rfl rfl (by simp only [↓nrmL, nrmZ, Nat.reduceEqDiff, ↓reduceIte, Nat.reduceAdd, Int.reduceBEq, Int.reduceBNe]; rfl) ?_
 refine fd ?_
 refine Fo.ld rfl rfl ?_
 dsimp only [cond_true, cond_false]
 refine WpO.do (WpX.conD hn rfl rfl (by simp only [↓nrmL, nrmZ, Nat.reduceEqDiff, ↓reduceIte, Nat.reduceAdd, Int.reduceBEq, Int.reduceBNe, List.map] <;> rfl) (K_refUnskew (w := a) (h := b) (k := k0) (l := T)) fun v H2 h5 => ?_)
 by_cases hg : grN a k0 a ≤ b
 rotate_left
 ·rw [(un_no okT hsk hg).1] at h5
  obtain ⟨v, e1, q2, e2, hq2, hf2, hw2, hx2⟩ := h5
  subst e1 e2
  try dsimp only [Img.zero] at hq2
  haveI : ExtI _ H2 := ⟨hx2⟩
  haveI := hq2.one
  repeat first
   | refine mI ?_
   | refine mT ?_
   | (refine bn rfl rfl rfl (by simp only [↓nrmL, nrmZ, Nat.reduceEqDiff, ↓reduceIte, Nat.reduceAdd, Int.reduceBEq, Int.reduceBNe]; rfl) ?_)
   | refine xt ?_
   | refine nw ?_
   | refine Fo.now rfl rfl rfl ?_
   | (refine so rfl (rfl : _ = AVal.agg _) rfl rfl rfl (by simp only [↓nrmL, nrmZ, Nat.reduceEqDiff, ↓reduceIte, Nat.reduceAdd, Int.reduceBEq, Int.reduceBNe]; rfl) ?_)
   | refine nl hKF ?_
   | refine sq ?_
   | refine rg fun KF hKF => ?_
   | refine ct rfl ?_
   | refine rt ?_
   | dsimp only [cond_true, cond_false]
  refine rz trivial ?_
  exact ⟨T, hT, okT, Or.inl ⟨hg, _, rfl, newZero⟩⟩
 obtain ⟨c, hc⟩ : ∃ c, b = c + grN a k0 a := ⟨b - grN a k0 a, by omega⟩
 obtain ⟨u1, u2, u3⟩ := un_ok okT hsk hc
 obtain ⟨U, hU⟩ : ∃ U, unskewL T a c k0 = U := ⟨_, rfl⟩
 rw [hU] at u1 u2
 rw [u1] at h5
 obtain ⟨v, e1, q2, e2, hq2, hf2, hw2, hx2⟩ := h5
 subst e1 e2
 try dsimp only at hq2
 haveI : ExtI _ H2 := ⟨hx2⟩
 haveI := hq2.one
 have hUl : U.length ≤ 3000 := by
  have e := u2.len
  have : a * c ≤ a * b := Nat.mul_le_mul_left a (by omega)
  omega
 repeat first
  | refine mI ?_
  | refine mT ?_
  | refine fd ?_
  | refine Fo.ld rfl rfl ?_
  | (refine Fo.ldN rfl rfl (by simp only [↓nrmL, nrmZ, Nat.reduceEqDiff, ↓reduceIte, Nat.reduceAdd, Int.reduceBEq, Int.reduceBNe]; rfl) ?_)
  | (refine bn rfl rfl rfl (by simp only [↓nrmL, nrmZ, Nat.reduceEqDiff, ↓reduceIte, Nat.reduceAdd, Int.reduceBEq, Int.reduceBNe]; rfl) ?_)
  | refine xt ?_
  | refine nw ?_
  | (refine so rfl (rfl : _ = AVal.agg _) rfl rfl rfl (by simp only [↓nrmL, nrmZ, Nat.reduceEqDiff, ↓reduceIte, Nat.reduceAdd, Int.reduceBEq, Int.reduceBNe]; rfl) ?_)
  | refine nl hKF ?_
  | refine sq ?_
  | refine rg fun KF hKF => ?_
  | refine cf rfl ?_
  | refine sk ?_
  | dsimp only [cond_true, cond_false]
 refine WpO.do (WpX.conD hn rfl rfl (by simp only [↓nrmL, nrmZ, Nat.reduceEqDiff, ↓reduceIte, Nat.reduceAdd, Int.reduceBEq, Int.reduceBNe, List.map] <;> rfl) (K_refDespeckle (a := a) (b := c) (t := s0) (l := U) u2 hUl) fun v H3 h5 => ?_)
 obtain ⟨N, hN, q3, e2, hq3, hf3, hw3, hx3⟩ := h5
 subst e2
 try dsimp only at hq3
 haveI : ExtI _ H3 := ⟨hx3⟩
 haveI := hq3.one
 refine so rfl (rfl : _ = AVal.agg _) rfl rfl rfl (by simp only [↓nrmL, nrmZ, Nat.reduceEqDiff, ↓reduceIte, Nat.reduceAdd, Int.reduceBEq, Int.reduceBNe]; rfl) ?_
 refine mI ?_
 refine nl hKF ?_
 refine rt ?_
 dsimp only [cond_true, cond_false]
 refine rz trivial ?_
 exact ⟨T, hT, okT, Or.inr ⟨c, U, N, hc, u1, u2, hN, _, rfl, q3, rfl, (show BytesI _ q3 (spk 1 (fun n => decide ((n : Int) ≥ s0)) (List.replicate (a * c) 0) (pcs U N (a * c))) from inferInstance), hf3.weak, inferInstance, Ext0.ext⟩⟩
end Go.Am
