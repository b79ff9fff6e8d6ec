import Derived.Test.YtpochhefklmnfaaAmBE
set_option linter.unusedSimpArgs false
set_option linter.unusedVariables false
set_option maxHeartbeats 16000000
set_option maxRecDepth 100000
set_option synthInstance.maxHeartbeats 4000000
set_option synthInstance.maxSize 1000000000
namespace Go.Am
open Go
open Nat renaming reduceEqDiff → qe, reduceAdd → qa
open Int renaming reduceBEq → ze, reduceBNe → zn
attribute [local irreducible] Wp WpO WpX WpE
theorem K_pixel {w h x y : Nat} {p : AVal} {H : AHeap} {l : List UInt8} (hp : BytesI H p l) (ok : Ok w h l) (hx : x < w) (hy : y < h) : Con ext prog 2 92 [.agg [.int .i64 (w : Int), .int .i64 (h : Int), p], .int .i64 (x : Int), .int .i64 (y : Int)] H fun v H' => v = .int .i64 (prB l (y * w + x)) ∧ Ext H H' := by
 refine con_of (show prog 92 = some c92 from rfl) rfl rfl fun n hn => ?_
 haveI := hp
 haveI := hp.one
 haveI : Fits (w : Int) (h : Int) l := ⟨ok.sized⟩
 have hi := inkB_nat (l := l) hx hy
 unfold prB
 cases hc : (l.getD (y * w + x) 0 == 1)
 ·rw [hc] at hi
  have hne : ¬ l.getD (y * w + x) 0 = 1 := fun e => by rw [e] at hc; cases hc
  rw [if_neg hne]
  repeat first | refine mI ?_ | refine Fo.ldN rfl rfl (by simp only [↓nrmL, nrmZ, qe, ↓reduceIte, qa, ze, zn, hi]; rfl) ?_ | (refine Fo.pcall (v' := ?_) hn rfl (by simp only [↓nrmL, nrmZ, qe, ↓reduceIte, qa, ze, zn, hi, List.map]; rfl) rfl ?hv fun _ _ => ?_; case hv => (simp only [↓nrmL, nrmZ, qe, ↓reduceIte, qa, ze, zn, hi]; rfl)) | refine bA ?_ | refine nl hKF ?_ | refine sq ?_ | refine rg fun KF hKF => ?_ | refine cf rfl ?_ | refine sk ?_ | refine rt ?_ | dsimp only
  refine rz trivial ?_
  exact ⟨rfl, Ext0.ext⟩
 ·rw [hc] at hi
  have hne : l.getD (y * w + x) 0 = 1 := by simpa using hc
  rw [if_pos hne]
  repeat first | refine mI ?_ | refine Fo.ldN rfl rfl (by simp only [↓nrmL, nrmZ, qe, ↓reduceIte, qa, ze, zn, hi]; rfl) ?_ | (refine Fo.pcall (v' := ?_) hn rfl (by simp only [↓nrmL, nrmZ, qe, ↓reduceIte, qa, ze, zn, hi, List.map]; rfl) rfl ?hv fun _ _ => ?_; case hv => (simp only [↓nrmL, nrmZ, qe, ↓reduceIte, qa, ze, zn, hi]; rfl)) | refine bA ?_ | refine nl hKF ?_ | refine sq ?_ | refine rg fun KF hKF => ?_ | refine ct rfl ?_ | refine rt ?_ | dsimp only
  refine rz trivial ?_
  exact ⟨rfl, Ext0.ext⟩
theorem exec_append0 {call : ACall} {fr : AFrame} {H : AHeap} {x y : ROpd} {p : AVal} {r0 : Nat} {e0 : TypeId} (ex : x.ev fr = .slice r0 0 0 (some 0) 1) (ey : y.ev fr = p) (hi : IntsI H p []) (hk : HasRow H r0 [] true e0) : (ROp.append 3 1 8 x y).exec call fr H = some (.slice r0 0 0 (some 0) 1, H) := by
 obtain ⟨f1, f2⟩ := aFirst_at (sz := 1) (k := 0) hi
 have ha : aRow r0 H = some (([], true), H) := by simp only [aRow, if_pos hk.lt, hk.get]
 simp only [ROp.exec, ex, ey, aAppend, f1]
 rw [bind_of f2]
 simp [cellsI, M.bind, ha, M.pure]
theorem K_CloneAny {p : AVal} {H : AHeap} {l : List Int} [hp : IntsI H p l] [hs : SlimI l] : Con ext prog 1 14 [p] H fun v H' => IntsI H' v l ∧ OneV v ∧ Ext H H' := by
 by_cases h0 : l = []
 ·subst h0
  refine con_of (show prog 14 = some c14 from rfl) rfl rfl fun n hn => ?_
  rcases hp.it with ⟨rfl, h0', _⟩ | ⟨r, off, cap, row, rw, e, rfl, hr, hg, hle', hc, _⟩
  ·skip
   repeat first | refine mN ?_ | refine Fo.now rfl rfl (by simp only [↓nrmL, nrmZ, qe, ↓reduceIte, qa, ze, zn]; rfl) ?_ | refine nl hKF ?_ | refine sq ?_ | refine rg fun KF hKF => ?_ | refine ct rfl ?_ | refine rt ?_ | dsimp only
   refine rz trivial ?_
   exact ⟨⟨Or.inl ⟨rfl, rfl, rfl⟩⟩, (inferInstance : OneV AVal.nslice), Ext0.ext⟩
  ·skip
   repeat first | refine mN ?_ | refine mv ?_ | refine Fo.bslice rfl rfl ?_ | refine Fo.now rfl rfl (by simp only [↓nrmL, nrmZ, qe, ↓reduceIte, qa, ze, zn]; rfl) ?_ | refine nl hKF ?_ | refine sq ?_ | refine rg fun KF hKF => ?_ | refine cf rfl ?_ | refine sk ?_
   refine Fo.now rfl (exec_append0 rfl rfl (inferInstance : IntsI (H.push (.row [] true (2 * 3))) (.slice r off 0 cap 1) []) (inferInstance : HasRow (H.push (.row [] true (2 * 3))) H.n [] true (2 * 3))) rfl ?_
   refine mv ?_
   refine nl hKF ?_
   refine rt ?_
   dsimp only
   refine rz trivial ?_
   exact ⟨⟨Or.inr ⟨H.n, 0, some 0, [], true, 2 * 3, rfl, Nat.lt_succ_self _, push_get_eq, by simp, by simp [cellsI], Nat.zero_le _⟩⟩, (inferInstance : OneV (AVal.slice H.n 0 0 (some 0) 1)), Ext0.ext⟩
 ·refine (K_CloneI h0).mono fun v H' ⟨h1, h2, h3⟩ => ⟨h1.sl, h1.sl.one, h3⟩
instance K_EqualI {p q : AVal} {H : AHeap} {l m : List Int} [hp : IntsI H p l] [hq : IntsI H q m] [hs : SlimI l] : PureCon ext prog 17 [p, q] H 1 (.bool (decide (l = m))) := ⟨by
 refine con_of (show prog 17 = some c17 from rfl) rfl rfl fun n hn => ?_
 have hsl := hs.le
 haveI := hp.one
 haveI := hq.one
 by_cases hlm : l.length = m.length
 ·have h1 : (((l.length : Nat) : Int) != ((m.length : Nat) : Int)) = false := by simp [hlm]
  repeat first | refine mI ?_ | refine mB ?_ | refine mv ?_ | refine bn rfl rfl rfl (by simp only [↓nrmL, nrmZ, qe, ↓reduceIte, qa, ze, zn, h1]; rfl) ?_ | refine ln (by simp only [↓nrmL, nrmK, qe, ↓reduceIte]; rfl) ?_ | refine nl hKF ?_ | refine sq ?_ | refine rg fun KF hKF => ?_ | refine cf rfl ?_ | refine sk ?_ | refine Wp.block ?_ | dsimp only
  refine Wp.loopS [4, 5, 13, 14, 15, 16, 17, 18, 19, 20, 21, 22, 23, 24, 25] (fun i : Nat => [(13, .int .i64 i)]) (fun H3 i H2 => i ≤ l.length ∧ (∀ j, j < i → l[j]? = m[j]?) ∧ H2 = H3) (fun i => l.length - i) 0 rfl (fun _ => rfl) ⟨rfl, trivial⟩ ⟨Nat.zero_le _, fun j hj => by omega, rfl⟩ (by unfold fuel0 at hn; omega) ?_
  rintro i g H2 ⟨hi, heq, rfl⟩
  simp only [↓nrmL, nrmZ, qe, ↓reduceIte, qa, ze, zn]
  cases hc : decide ((i : Int) < (l.length : Int))
  ·have hil : i = l.length := by have := of_decide_eq_false hc; omega
   subst hil
   have hd : decide (l = m) = true := decide_eq_true (eq_of_gets hlm heq)
   rw [hd]
   repeat first | refine mB ?_ | refine bn rfl rfl rfl (by simp only [↓nrmL, nrmZ, qe, ↓reduceIte, qa, ze, zn, hc]; rfl) ?_ | refine nl hKF ?_ | refine sq ?_ | refine rg fun KF hKF => ?_ | refine cf rfl ?_ | refine rt ?_ | refine xi ?_ | dsimp only
   refine rz trivial ?_
   exact ⟨rfl, Ext0.ext⟩
  ·have hil : i < l.length := by have := of_decide_eq_true hc; omega
   have him : i < m.length := by omega
   have hw1 := wa1 (a := i) (by omega)
   cases hne : (l[i] != m[i])
   ·skip
    repeat first | refine mI ?_ | refine mv ?_ | refine bn rfl rfl rfl (by simp only [↓nrmL, nrmZ, qe, ↓reduceIte, qa, ze, zn, hc, hne, hw1]; rfl) ?_ | (refine Fo.idx (by simp only [↓nrmL, nrmK, qe, ↓reduceIte]; rfl) rfl ?_ (by simp only [↓nrmL, nrmZ, qe, ↓reduceIte, qa, ze, zn, hc, hne, hw1]; rfl) ?_; (focus omega)) | (refine Fo.ldI rfl ?_ rfl ?_; (focus omega)) | refine nl hKF ?_ | refine sq ?_ | refine rg fun KF hKF => ?_ | refine Fr.quiet rfl rfl fun KF hKF => ?_ | refine ct rfl ?_ | refine cf rfl ?_ | refine sk ?_ | refine Wp.block ?_ | dsimp only
    refine ⟨i + 1, by omega, ⟨rfl, trivial⟩, hil, fun j hj => ?_, rfl⟩
    by_cases hj2 : j < i
    ·exact heq j hj2
    ·have : j = i := by omega
     subst this
     have h2 : l[j] = m[j] := by simpa [bne] using hne
     simp [hil, him, h2]
   ·have hd : decide (l = m) = false := decide_eq_false (fun e => by subst e; simp at hne)
    rw [hd]
    repeat first | refine mI ?_ | refine mB ?_ | refine mv ?_ | refine bn rfl rfl rfl (by simp only [↓nrmL, nrmZ, qe, ↓reduceIte, qa, ze, zn, hc, hne]; rfl) ?_ | (refine Fo.idx (by simp only [↓nrmL, nrmK, qe, ↓reduceIte]; rfl) rfl ?_ (by simp only [↓nrmL, nrmZ, qe, ↓reduceIte, qa, ze, zn, hc, hne]; rfl) ?_; (focus omega)) | (refine Fo.ldI rfl ?_ rfl ?_; (focus omega)) | refine nl hKF ?_ | refine sq ?_ | refine rg fun KF hKF => ?_ | refine Fr.quiet rfl rfl fun KF hKF => ?_ | refine ct rfl ?_ | refine sk ?_ | refine rt ?_ | refine Wp.block ?_ | dsimp only
    refine rz trivial ?_
    exact ⟨rfl, Ext0.ext⟩
 ·have h1 : (((l.length : Nat) : Int) != ((m.length : Nat) : Int)) = true := by simp; omega
  have hd : decide (l = m) = false := decide_eq_false (fun e => by subst e; exact hlm rfl)
  rw [hd]
  repeat first | refine mB ?_ | refine mv ?_ | refine bn rfl rfl rfl (by simp only [↓nrmL, nrmZ, qe, ↓reduceIte, qa, ze, zn, h1]; rfl) ?_ | refine ln (by simp only [↓nrmL, nrmK, qe, ↓reduceIte]; rfl) ?_ | refine nl hKF ?_ | refine sq ?_ | refine rg fun KF hKF => ?_ | refine ct rfl ?_ | refine rt ?_ | dsimp only
  refine rz trivial ?_
  exact ⟨rfl, Ext0.ext⟩⟩
theorem K_CostOf {w h : Nat} {p pq : AVal} {H : AHeap} {l : List UInt8} {q : Nat → Nat} [hp : BytesI H p l] (hq : IntsI H pq (lineQ w q)) (ok : Ok w h l) (hw0 : 0 < w) (hpath : PathF w h q) : Con ext prog 3 55 [.agg [.int .i64 (w : Int), .int .i64 (h : Int), p], pq] H fun v H' => v = .int .i64 (costF (prF l w) w q (w - 1)) ∧ Ext H H' := by
 refine con_of (show prog 55 = some c55 from rfl) rfl rfl fun n hn => ?_
 haveI := hp.one
 haveI := hq
 haveI := hq.one
 have hw := ok.wa
 have hh := ok.hb
 have hll := lineQ_len w q
 haveI hpr : ∀ (x : Nat) [LtF x w] (H : AHeap) [BytesI H p l], PureCon ext prog 92 [.agg [.int .i64 (w : Int), .int .i64 (h : Int), p], .int .i64 (x : Int), .int .i64 (q x : Int)] H 2 (.int .i64 (prB l (q x * w + x))) := fun x hx H hb => ⟨K_pixel hb ok hx.out (hpath.row x hx.out)⟩
 have hbd := fwd_bd (P := prF l w) (q := q) (fun x y => prB_bd l (y * w + x))
 repeat first | refine mI ?_ | refine bA ?_ | refine nl hKF ?_ | refine sq ?_ | refine rg fun KF hKF => ?_ | refine Wp.block ?_ | dsimp only
 refine Wp.loopS [5, 6, 7, 8, 9, 10, 11, 12, 13, 14, 15, 16, 17, 18, 19, 20, 21, 22, 23, 24, 25, 26, 27, 28, 29, 30, 31, 32, 33, 34, 35, 36, 37] (fun x : Nat => [(6, .int .i64 (x : Int)), (5, .int .i64 (fwdF (prF l w) q x))]) (fun H3 x H2 => x ≤ w ∧ Ext0 H3 H2) (fun x => w - x) 0 rfl (fun _ => rfl) ⟨rfl, rfl, trivial⟩ ⟨Nat.zero_le _, inferInstance⟩ (by unfold fuel0 at hn; omega) ?_
 rintro x g H2 ⟨hx, ⟨hxx⟩⟩
 haveI : ExtI _ H2 := ⟨hxx⟩
 simp only [↓nrmL, nrmZ, qe, ↓reduceIte, qa, ze, zn]
 cases hc : decide ((x : Int) < ((lineQ w q).length : Int))
 ·have hxe : x = w := by have := of_decide_eq_false hc; omega
  repeat first | refine mI ?_ | refine mv ?_ | refine bn rfl rfl rfl (by simp only [↓nrmL, nrmZ, qe, ↓reduceIte, qa, ze, zn, hc]; rfl) ?_ | refine ln (by simp only [↓nrmL, nrmK, qe, ↓reduceIte]; rfl) ?_ | refine nl hKF ?_ | refine sq ?_ | refine rg fun KF hKF => ?_ | refine cf rfl ?_ | refine rt ?_ | refine xi ?_ | dsimp only
  refine rz trivial ?_
  exact ⟨by rw [hxe, fwd_all hw0]; rfl, Ext0.ext⟩
 have hxl : x < w := by have := of_decide_eq_true hc; omega
 haveI : LtF x w := ⟨hxl⟩
 have hxq : x < (lineQ w q).length := by omega
 have gx : (lineQ w q)[x] = (q x : Int) := by rw [← getD_at hxq]; exact lineQ_at hxl
 have hwx := wa1 (a := x) (by omega)
 have b1 := hbd x
 have b2 := prB_bd l (q x * w + x)
 have w1 : IntKind.i64.wrap (fwdF (prF l w) q x + prB l (q x * w + x)) = fwdF (prF l w) q x + prB l (q x * w + x) := w64 (by omega)
 cases hc2 : decide ((x : Int) > 0)
 ·have hx0 : ¬ 0 < x := by have := of_decide_eq_false hc2; omega
  have e1 : fwdF (prF l w) q (x + 1) = fwdF (prF l w) q x + prB l (q x * w + x) := by simp only [fwdF]; rw [if_neg hx0]; unfold prF; omega
  repeat first | refine mI ?_ | refine mv ?_ | refine bn rfl rfl rfl (by simp only [↓nrmL, nrmZ, qe, ↓reduceIte, qa, ze, zn, hc]; rfl) ?_ | refine ln (by simp only [↓nrmL, nrmK, qe, ↓reduceIte]; rfl) ?_ | refine nl hKF ?_ | refine sq ?_ | refine rg fun KF hKF => ?_ | refine ct rfl ?_ | refine sk ?_ | refine Wp.block ?_ | dsimp only
  refine Fr.dregion0 rfl fun KF hKF => ?_
  repeat first | refine Er rfl (exec_ldN rfl rfl (by simp only [↓nrmL, nrmZ, qe, ↓reduceIte, qa, ze, zn, gx, w1]; rfl)) rfl ?_ | refine Fe.pure rfl rfl (by simp only [↓nrmL, nrmZ, qe, ↓reduceIte, qa, ze, zn, gx, w1]; rfl) ?_ | (refine Fe.pure rfl (exec_idxP (by (try simp only [↓nrmL, nrmZ, qe, ↓reduceIte, qa, ze, zn, gx, w1]); rfl) rfl ?_) (by simp only [↓nrmL, nrmZ, qe, ↓reduceIte, qa, ze, zn, gx, w1]; rfl) ?_; (focus omega)) | refine Er rfl (exec_ldI rfl (by omega)) (by simp only [↓nrmL, nrmZ, qe, ↓reduceIte, qa, ze, zn, gx, w1]; rfl) ?_ | (refine Fe.pcall (v' := ?_) rfl hn rfl (by simp only [↓nrmL, nrmZ, qe, ↓reduceIte, qa, ze, zn, gx, w1, List.map]; rfl) rfl ?hv fun _ _ => ar ?_; case hv => rfl) | refine WpE.nil (hKF _ _ ?_)
  simp only [hc2, hwx]
  repeat first | refine ox ?_ | refine mI ?_ | refine mB ?_ | refine bn rfl rfl rfl (by simp only [↓nrmL, nrmZ, qe, ↓reduceIte, qa, ze, zn, hc2, hwx]; rfl) ?_ | refine fB ?_ | refine nl hKF ?_ | refine sq ?_ | refine rg fun KF hKF => ?_ | refine Fr.quiet rfl rfl fun KF hKF => ?_ | refine cf rfl ?_ | refine sk ?_ | dsimp only
  exact ⟨x + 1, by omega, ⟨rfl, by rw [e1]; rfl, trivial⟩, by omega, inferInstance⟩
 have hx0 : 0 < x := by have := of_decide_eq_true hc2; omega
 obtain ⟨x0, rfl⟩ : ∃ x0, x = x0 + 1 := ⟨x - 1, by omega⟩
 have hxq0 : x0 < (lineQ w q).length := by omega
 have g0 : (lineQ w q)[x0] = (q x0 : Int) := by rw [← getD_at hxq0]; exact lineQ_at (by omega)
 have hs1 : IntKind.i64.wrap (((x0 + 1 : Nat) : Int) - 1) = (x0 : Int) := by rw [w64 (by omega)]; omega
 by_cases hqq : q x0 = q (x0 + 1)
 ·have hne : (((q (x0 + 1) : Nat) : Int) != ((q x0 : Nat) : Int)) = false := by rw [hqq]; simp
  have e1 : fwdF (prF l w) q (x0 + 1 + 1) = fwdF (prF l w) q (x0 + 1) + prB l (q (x0 + 1) * w + (x0 + 1)) := by
   conv => lhs; unfold fwdF
   rw [if_pos hx0, Nat.add_sub_cancel]
   unfold chg
   rw [if_pos hqq]
   unfold prF; omega
  repeat first | refine mI ?_ | refine mv ?_ | refine bn rfl rfl rfl (by simp only [↓nrmL, nrmZ, qe, ↓reduceIte, qa, ze, zn, hc]; rfl) ?_ | refine ln (by simp only [↓nrmL, nrmK, qe, ↓reduceIte]; rfl) ?_ | refine nl hKF ?_ | refine sq ?_ | refine rg fun KF hKF => ?_ | refine ct rfl ?_ | refine sk ?_ | refine Wp.block ?_ | dsimp only
  refine Fr.dregion0 rfl fun KF hKF => ?_
  repeat first | refine Er rfl (exec_ldN rfl rfl (by simp only [↓nrmL, nrmZ, qe, ↓reduceIte, qa, ze, zn, gx, w1]; rfl)) rfl ?_ | refine Fe.pure rfl rfl (by simp only [↓nrmL, nrmZ, qe, ↓reduceIte, qa, ze, zn, gx, w1]; rfl) ?_ | (refine Fe.pure rfl (exec_idxP (by (try simp only [↓nrmL, nrmZ, qe, ↓reduceIte, qa, ze, zn, gx, w1]); rfl) rfl ?_) (by simp only [↓nrmL, nrmZ, qe, ↓reduceIte, qa, ze, zn, gx, w1]; rfl) ?_; (focus omega)) | refine Er rfl (exec_ldI rfl (by omega)) (by simp only [↓nrmL, nrmZ, qe, ↓reduceIte, qa, ze, zn, gx, w1]; rfl) ?_ | (refine Fe.pcall (v' := ?_) rfl hn rfl (by simp only [↓nrmL, nrmZ, qe, ↓reduceIte, qa, ze, zn, gx, w1, List.map]; rfl) rfl ?hv fun _ _ => ar ?_; case hv => rfl) | refine WpE.nil (hKF _ _ ?_)
  simp only [hc2, gx, hs1, g0, hne, hwx]
  repeat first | refine oy ?_ | refine mI ?_ | refine mB ?_ | refine mv ?_ | refine bn rfl rfl rfl (by simp only [↓nrmL, nrmZ, qe, ↓reduceIte, qa, ze, zn, hc2, gx, hs1, g0, hne, hwx]; rfl) ?_ | refine tB ?_ | (refine Fo.idx (by simp only [↓nrmL, nrmK, qe, ↓reduceIte]; rfl) rfl ?_ (by simp only [↓nrmL, nrmZ, qe, ↓reduceIte, qa, ze, zn, hc2, gx, hs1, g0, hne, hwx]; rfl) ?_; (focus omega)) | (refine Fo.ldI rfl ?_ (by simp only [↓nrmL, nrmZ, qe, ↓reduceIte, qa, ze, zn, hc2, gx, hs1, g0, hne, hwx]; rfl) ?_; (focus omega)) | refine nl hKF ?_ | refine sq ?_ | refine rg fun KF hKF => ?_ | refine Fr.quiet rfl rfl fun KF hKF => ?_ | refine cf rfl ?_ | refine sk ?_ | dsimp only
  exact ⟨x0 + 1 + 1, by omega, ⟨rfl, by rw [e1]; rfl, trivial⟩, by omega, inferInstance⟩
 ·have hne : (((q (x0 + 1) : Nat) : Int) != ((q x0 : Nat) : Int)) = true := by simp; omega
  have e1 : fwdF (prF l w) q (x0 + 1 + 1) = fwdF (prF l w) q (x0 + 1) + prB l (q (x0 + 1) * w + (x0 + 1)) + 1 := by
   conv => lhs; unfold fwdF
   rw [if_pos hx0, Nat.add_sub_cancel]
   unfold chg
   rw [if_neg hqq]
  have w2 : IntKind.i64.wrap (fwdF (prF l w) q (x0 + 1) + prB l (q (x0 + 1) * w + (x0 + 1)) + 1) = fwdF (prF l w) q (x0 + 1 + 1) := by rw [w64 (by omega), e1]
  repeat first | refine mI ?_ | refine mv ?_ | refine bn rfl rfl rfl (by simp only [↓nrmL, nrmZ, qe, ↓reduceIte, qa, ze, zn, hc]; rfl) ?_ | refine ln (by simp only [↓nrmL, nrmK, qe, ↓reduceIte]; rfl) ?_ | refine nl hKF ?_ | refine sq ?_ | refine rg fun KF hKF => ?_ | refine ct rfl ?_ | refine sk ?_ | refine Wp.block ?_ | dsimp only
  refine Fr.dregion0 rfl fun KF hKF => ?_
  repeat first | refine Er rfl (exec_ldN rfl rfl (by simp only [↓nrmL, nrmZ, qe, ↓reduceIte, qa, ze, zn, gx, w1]; rfl)) rfl ?_ | refine Fe.pure rfl rfl (by simp only [↓nrmL, nrmZ, qe, ↓reduceIte, qa, ze, zn, gx, w1]; rfl) ?_ | (refine Fe.pure rfl (exec_idxP (by (try simp only [↓nrmL, nrmZ, qe, ↓reduceIte, qa, ze, zn, gx, w1]); rfl) rfl ?_) (by simp only [↓nrmL, nrmZ, qe, ↓reduceIte, qa, ze, zn, gx, w1]; rfl) ?_; (focus omega)) | refine Er rfl (exec_ldI rfl (by omega)) (by simp only [↓nrmL, nrmZ, qe, ↓reduceIte, qa, ze, zn, gx, w1]; rfl) ?_ | (refine Fe.pcall (v' := ?_) rfl hn rfl (by simp only [↓nrmL, nrmZ, qe, ↓reduceIte, qa, ze, zn, gx, w1, List.map]; rfl) rfl ?hv fun _ _ => ar ?_; case hv => rfl) | refine WpE.nil (hKF _ _ ?_)
  simp only [hc2, gx, hs1, g0, hne, w2, hwx]
  repeat first | refine oy ?_ | refine mI ?_ | refine mB ?_ | refine mv ?_ | refine bn rfl rfl rfl (by simp only [↓nrmL, nrmZ, qe, ↓reduceIte, qa, ze, zn, hc2, gx, hs1, g0, hne, w2, hwx]; rfl) ?_ | refine tB ?_ | (refine Fo.idx (by simp only [↓nrmL, nrmK, qe, ↓reduceIte]; rfl) rfl ?_ (by simp only [↓nrmL, nrmZ, qe, ↓reduceIte, qa, ze, zn, hc2, gx, hs1, g0, hne, w2, hwx]; rfl) ?_; (focus omega)) | (refine Fo.ldI rfl ?_ (by simp only [↓nrmL, nrmZ, qe, ↓reduceIte, qa, ze, zn, hc2, gx, hs1, g0, hne, w2, hwx]; rfl) ?_; (focus omega)) | refine nl hKF ?_ | refine sq ?_ | refine rg fun KF hKF => ?_ | refine Fr.quiet rfl rfl fun KF hKF => ?_ | refine ct rfl ?_ | dsimp only
  exact ⟨x0 + 1 + 1, by omega, ⟨rfl, rfl, trivial⟩, by omega, inferInstance⟩
theorem K_CostErr {w h : Int} {p pq : AVal} {H : AHeap} {l : List UInt8} {L : List Int} [hp : BytesI H p l] (hq : IntsI H pq L) (he : Img.err ⟨w, h, l⟩ ≠ 0) : Con ext prog 6 15 [.agg [.int .i64 w, .int .i64 h, p], pq] H fun v H' => v = .tuple [.int .i64 0, .int .i64 (Img.err ⟨w, h, l⟩)] ∧ Ext H H' := by
 refine con_of (show prog 15 = some c15 from rfl) rfl rfl fun n hn => ?_
 haveI := hp.one
 haveI := hq
 haveI := hq.one
 have hne : (Img.err ⟨w, h, l⟩ != 0) = true := by simpa using he
 repeat first | refine mI ?_ | refine Fo.ldN rfl rfl (by simp only [↓nrmL, nrmZ, qe, ↓reduceIte, qa, ze, zn, hne]; rfl) ?_ | refine bn rfl rfl rfl (by simp only [↓nrmL, nrmZ, qe, ↓reduceIte, qa, ze, zn, hne]; rfl) ?_ | (refine Fo.pcall (v' := ?_) hn rfl (by simp only [↓nrmL, nrmZ, qe, ↓reduceIte, qa, ze, zn, hne, List.map]; rfl) rfl ?hv fun _ _ => ?_; case hv => rfl) | refine bA ?_ | refine nl hKF ?_ | refine sq ?_ | refine rg fun KF hKF => ?_ | refine ct rfl ?_ | refine rt ?_ | dsimp only
 refine rz trivial ?_
 exact ⟨rfl, Ext0.ext⟩
theorem K_CostNo {w h : Nat} {p pq : AVal} {H : AHeap} {l : List UInt8} {L : List Int} [hp : BytesI H p l] (hq : IntsI H pq L) (ok : Ok w h l) (hpb : pathB w h L = false) : Con ext prog 6 15 [.agg [.int .i64 (w : Int), .int .i64 (h : Int), p], pq] H fun v H' => v = .tuple [.int .i64 0, .int .i64 1] ∧ Ext H H' := by
 refine con_of (show prog 15 = some c15 from rfl) rfl rfl fun n hn => ?_
 haveI := hp.one
 haveI := hq
 haveI := hq.one
 have he := ok.err
 haveI : Side w := ⟨ok.wa⟩
 haveI : Side h := ⟨ok.hb⟩
 repeat first | refine mI ?_ | refine mv ?_ | refine Fo.ldN rfl rfl (by simp only [↓nrmL, nrmZ, qe, ↓reduceIte, qa, ze, zn, he, hpb]; rfl) ?_ | refine bn rfl rfl rfl (by simp only [↓nrmL, nrmZ, qe, ↓reduceIte, qa, ze, zn, he, hpb]; rfl) ?_ | (refine Fo.pcall (v' := ?_) hn rfl (by simp only [↓nrmL, nrmZ, qe, ↓reduceIte, qa, ze, zn, he, hpb, List.map]; rfl) rfl ?hv fun _ _ => ?_; case hv => (simp only [↓nrmL, nrmZ, qe, ↓reduceIte, qa, ze, zn, he, hpb]; rfl)) | refine bA ?_ | refine Fo.now rfl rfl (by simp only [↓nrmL, nrmZ, qe, ↓reduceIte, qa, ze, zn, he, hpb]; rfl) ?_ | refine nl hKF ?_ | refine sq ?_ | refine rg fun KF hKF => ?_ | refine ct rfl ?_ | refine cf rfl ?_ | refine sk ?_ | refine rt ?_ | dsimp only
 refine rz trivial ?_
 exact ⟨rfl, Ext0.ext⟩
theorem K_refCostErr {w h : Int} {p pq : AVal} {H : AHeap} {l : List UInt8} {L : List Int} [hp : BytesI H p l] (hq : IntsI H pq L) (he : Img.err ⟨w, h, l⟩ ≠ 0) : Con ext prog 6 16 [.agg [.int .i64 w, .int .i64 h, p], pq] H fun v H' => v = .tuple [.int .i64 0, .int .i64 (Img.err ⟨w, h, l⟩)] ∧ Ext H H' := by
 refine con_of (show prog 16 = some c16 from rfl) rfl rfl fun n hn => ?_
 haveI := hp.one
 haveI := hq
 haveI := hq.one
 have hne : (Img.err ⟨w, h, l⟩ != 0) = true := by simpa using he
 repeat first | refine mI ?_ | refine Fo.ldN rfl rfl (by simp only [↓nrmL, nrmZ, qe, ↓reduceIte, qa, ze, zn, hne]; rfl) ?_ | refine bn rfl rfl rfl (by simp only [↓nrmL, nrmZ, qe, ↓reduceIte, qa, ze, zn, hne]; rfl) ?_ | (refine Fo.pcall (v' := ?_) hn rfl (by simp only [↓nrmL, nrmZ, qe, ↓reduceIte, qa, ze, zn, hne, List.map]; rfl) rfl ?hv fun _ _ => ?_; case hv => rfl) | refine bA ?_ | refine nl hKF ?_ | refine sq ?_ | refine rg fun KF hKF => ?_ | refine ct rfl ?_ | refine rt ?_ | dsimp only
 refine rz trivial ?_
 exact ⟨rfl, Ext0.ext⟩
theorem K_refCostNo {w h : Nat} {p pq : AVal} {H : AHeap} {l : List UInt8} {L : List Int} [hp : BytesI H p l] (hq : IntsI H pq L) (ok : Ok w h l) (hpb : pathB w h L = false) : Con ext prog 6 16 [.agg [.int .i64 (w : Int), .int .i64 (h : Int), p], pq] H fun v H' => v = .tuple [.int .i64 0, .int .i64 1] ∧ Ext H H' := by
 refine con_of (show prog 16 = some c16 from rfl) rfl rfl fun n hn => ?_
 haveI := hp.one
 haveI := hq
 haveI := hq.one
 have he := ok.err
 haveI : Side w := ⟨ok.wa⟩
 haveI : Side h := ⟨ok.hb⟩
 repeat first | refine mI ?_ | refine mv ?_ | refine Fo.ldN rfl rfl (by simp only [↓nrmL, nrmZ, qe, ↓reduceIte, qa, ze, zn, he, hpb]; rfl) ?_ | refine bn rfl rfl rfl (by simp only [↓nrmL, nrmZ, qe, ↓reduceIte, qa, ze, zn, he, hpb]; rfl) ?_ | (refine Fo.pcall (v' := ?_) hn rfl (by simp only [↓nrmL, nrmZ, qe, ↓reduceIte, qa, ze, zn, he, hpb, List.map]; rfl) rfl ?hv fun _ _ => ?_; case hv => (simp only [↓nrmL, nrmZ, qe, ↓reduceIte, qa, ze, zn, he, hpb]; rfl)) | refine bA ?_ | refine Fo.now rfl rfl (by simp only [↓nrmL, nrmZ, qe, ↓reduceIte, qa, ze, zn, he, hpb]; rfl) ?_ | refine nl hKF ?_ | refine sq ?_ | refine rg fun KF hKF => ?_ | refine ct rfl ?_ | refine cf rfl ?_ | refine sk ?_ | refine rt ?_ | dsimp only
 refine rz trivial ?_
 exact ⟨rfl, Ext0.ext⟩
theorem K_refCostOk {w h : Nat} {p pq : AVal} {H : AHeap} {l : List UInt8} {q : Nat → Nat} [hp : BytesI H p l] (hq : IntsI H pq (lineQ w q)) (ok : Ok w h l) (hw0 : 0 < w) (hpath : PathF w h q) : Con ext prog 6 16 [.agg [.int .i64 (w : Int), .int .i64 (h : Int), p], pq] H fun v H' => v = .tuple [.int .i64 (costF (prF l w) w q (w - 1)), .int .i64 0] ∧ Ext H H' := by
 refine con_of (show prog 16 = some c16 from rfl) rfl rfl fun n hn => ?_
 haveI := hp.one
 haveI := hq
 haveI := hq.one
 have he := ok.err
 haveI : Side w := ⟨ok.wa⟩
 haveI : Side h := ⟨ok.hb⟩
 have hpb := pathB_line hw0 hpath
 haveI : ∀ (H : AHeap) [BytesI H p l] [IntsI H pq (lineQ w q)], PureCon ext prog 55 [.agg [.int .i64 (w : Int), .int .i64 (h : Int), p], pq] H 3 (.int .i64 (costF (prF l w) w q (w - 1))) := fun H hb hi => ⟨K_CostOf hi ok hw0 hpath⟩
 repeat first | refine mI ?_ | refine mv ?_ | refine Fo.ldN rfl rfl (by simp only [↓nrmL, nrmZ, qe, ↓reduceIte, qa, ze, zn, he, hpb]; rfl) ?_ | refine bn rfl rfl rfl (by simp only [↓nrmL, nrmZ, qe, ↓reduceIte, qa, ze, zn, he, hpb]; rfl) ?_ | (refine Fo.pcall (v' := ?_) hn rfl (by simp only [↓nrmL, nrmZ, qe, ↓reduceIte, qa, ze, zn, he, hpb, List.map]; rfl) rfl ?hv fun _ _ => ?_; case hv => (simp only [↓nrmL, nrmZ, qe, ↓reduceIte, qa, ze, zn, he, hpb]; rfl)) | (refine Fo.pcall (v' := ?_) hn rfl (by simp only [↓nrmL, nrmZ, qe, ↓reduceIte, qa, ze, zn, he, hpb, List.map]; rfl) rfl ?hv fun _ _ => ?_; case hv => rfl) | refine bA ?_ | refine Fo.now rfl rfl (by simp only [↓nrmL, nrmZ, qe, ↓reduceIte, qa, ze, zn, he, hpb]; rfl) ?_ | refine nl hKF ?_ | refine sq ?_ | refine rg fun KF hKF => ?_ | refine cf rfl ?_ | refine sk ?_ | refine rt ?_ | dsimp only
 refine rz trivial ?_
 exact ⟨rfl, Ext0.ext⟩
theorem path_list {w h : Nat} {L : List Int} (hb : pathB w h L = true) : ∃ q, PathF w h q ∧ L = lineQ w q ∧ 0 < w := by
 obtain ⟨h1, h2⟩ := pathB_len hb
 have hok : okTo h L L.length = true := by
  simp only [pathB, Bool.and_eq_true] at hb
  exact hb.2
 have hat : ∀ x, x < w → 0 ≤ L.getD x 0 ∧ L.getD x 0 < (h : Int) ∧ (0 < x → L.getD (x - 1) 0 - 1 ≤ L.getD x 0 ∧ L.getD x 0 ≤ L.getD (x - 1) 0 + 1) := fun x hx => by
  have := okTo_at hok (show x < L.length by omega)
  simp only [okAt, Bool.and_eq_true, Bool.or_eq_true, decide_eq_true_eq, beq_iff_eq] at this
  refine ⟨this.1.1, this.1.2, fun h0 => ?_⟩
  rcases this.2 with e | e
  ·omega
  ·exact e
 refine ⟨fun x => (L.getD x 0).toNat, ⟨fun x hx => ?_, fun x hx => ?_⟩, ?_, h2⟩
 ·have := hat x hx; omega
 ·have h3 := hat x (by omega)
  have h4 := hat (x + 1) hx
  have h5 := h4.2.2 (by omega)
  rw [Nat.add_sub_cancel] at h5
  omega
 ·apply List.ext_getElem
  ·rw [lineQ_len, h1]
  ·intro i h3 h4
   simp only [lineQ, List.getElem_map, List.getElem_range]
   rw [getD_at h3]
   have := hat i (by omega)
   rw [getD_at h3] at this
   omega
end Go.Am

namespace Go.Am
open Go
open Nat renaming reduceEqDiff → qe, reduceAdd → qa
open Int renaming reduceBEq → ze, reduceBNe → zn
attribute [local irreducible] Wp WpO WpX WpE
section
variable {call : ACall} {fr : AFrame} {H : AHeap} {K : AVal → AHeap → Prop}
theorem WpX.mkH {e : TypeId} {x y : ROpd} {k k' : IntKind} {n : Nat} (hx : x.ev fr = .int k (n : Int)) (hy : y.ev fr = .int k' (n : Int)) (hn : n ≤ 2 ^ 40) (h : ∀ H1, HasRow H1 H.n (cellsI (List.replicate n 0)) true (2 * e) → Ext H H1 → K (.slice H.n 0 n (some n) 1) H1) : WpX (.makeSlice e [.int .i64 0] 8 x y) call fr H K :=
 WpX.mkR hx hy hn (h _ inferInstance ((Ext.refl H).push _))
theorem WpX.stH {a x : ROpd} {r j : Nat} {l : List Int} {b : Int} {e : TypeId} {H0 : AHeap} (hx0 : Ext H0 H) (hr : H0.n ≤ r) (ha : a.ev fr = .ptr r j) (hx : x.ev fr = .int .i64 b) [hg : HasRow H r (cellsI l) true e] (hj : j < l.length) (h : ∀ H1, HasRow H1 r (cellsI (l.set j b)) true e → Ext H0 H1 → K aundef H1) : WpX (.store 1 a x) call fr H K :=
 WpX.stR ha hx hj (h _ ⟨hg.lt, set_get_eq⟩ (hx0.set hr _))
end
def jB (h y k : Nat) : Nat := min (y + k - 1 - loB y) (hiB h y + 1 - loB y)
theorem jB_end {h y : Nat} (hy : y < h) : jB h y 3 = hiB h y + 1 - loB y := by unfold jB hiB loB; omega
theorem jB_low {h y k : Nat} (e : y + k = 0) : jB h y (k + 1) = jB h y k := by unfold jB hiB loB; omega
theorem jB_high {h y k : Nat} (hy : y < h) (hk : k ≤ 2) (e : h ≤ y + k - 1) : jB h y (k + 1) = jB h y k := by unfold jB hiB loB; omega
theorem jB_in {h y k : Nat} (hy : y < h) (hk : k ≤ 2) (e0 : 0 < y + k) (e : y + k - 1 < h) : jB h y (k + 1) = jB h y k + 1 ∧ loB y + jB h y k = y + k - 1 := by unfold jB hiB loB; omega
theorem jB_zero (h y : Nat) : jB h y 0 = 0 := by unfold jB hiB loB; omega
theorem K_rest {w h x : Nat} {p fp ap : AVal} {H : AHeap} {l fb : List UInt8} {P la : List Int} (hp : BytesI H p l) (hfp : BytesI H fp fb) (hap : IntsI H ap la) (ok : Ok w h l) (okf : Ok w h fb) (hP : PosL P) (hF : FbR l fb P w h) (hx : x < w) (hla : x + 1 < w → la = nvL P w h (w - 1 - (x + 1))) : Con ext prog 3 100 [.agg [.int .i64 (w : Int), .int .i64 (h : Int), p], .int .i64 (x : Int), ap, .agg [.int .i64 (w : Int), .int .i64 (h : Int), fp]] H fun v H' => ∃ r, v = .slice r 0 h (some h) 1 ∧ HasRow H' r (cellsI (nvL P w h (w - 1 - x))) true (2 * 3) ∧ H.n ≤ r ∧ Ext H H' := by
 refine con_of (show prog 100 = some c100 from rfl) rfl rfl fun n hn => ?_
 haveI := hp
 haveI := hfp
 haveI := hap
 haveI := hp.one
 haveI := hfp.one
 haveI := hap.one
 haveI : Fits (w : Int) (h : Int) l := ⟨ok.sized⟩
 haveI : Fits (w : Int) (h : Int) fb := ⟨okf.sized⟩
 have hw := ok.wa
 have hh := ok.hb
 obtain ⟨f, hf⟩ : ∃ f : Nat → Int, (fun y => nv (restF (priF P h) w h (w - 1 - x) y)) = f := ⟨_, rfl⟩
 have hfy : ∀ y, f y = nv (restF (priF P h) w h (w - 1 - x) y) := fun y => by rw [← hf]
 repeat first | refine mN ?_ | refine fd ?_ | refine Fo.ld rfl rfl ?_ | refine bA ?_ | refine nl hKF ?_ | refine sq ?_ | refine rg fun KF hKF => ?_
 obtain ⟨H0, hH0⟩ : ∃ H0, (H.push (.row [.int .i64 (w : Int), .int .i64 (h : Int), p] true (2 * 24))).push (.row [.int .i64 (w : Int), .int .i64 (h : Int), fp] true (2 * 24)) = H0 := ⟨_, rfl⟩
 have k1 : HasRow H0 H.n [.int .i64 (w : Int), .int .i64 (h : Int), p] true (2 * 24) := by rw [← hH0]; infer_instance
 have k2 : HasRow H0 (H.push (.row [.int .i64 (w : Int), .int .i64 (h : Int), p] true (2 * 24))).n [.int .i64 (w : Int), .int .i64 (h : Int), fp] true (2 * 24) := by rw [← hH0]; infer_instance
 have hx0 : Ext H H0 := by rw [← hH0]; exact Ext0.ext
 rw [hH0]
 haveI := k1
 haveI := k2
 haveI : ExtI H H0 := ⟨hx0⟩
 haveI : BytesI H0 p l := inferInstance
 haveI : BytesI H0 fp fb := inferInstance
 haveI : IntsI H0 ap la := inferInstance
 skip
 refine WpO.do (WpX.mkH rfl rfl (by omega) fun H1 kr1 hx1 => ?_)
 haveI := kr1
 haveI : ExtI H0 H1 := ⟨hx1⟩
 repeat first | refine mI ?_ | refine mv ?_ | refine nl hKF ?_ | refine sq ?_ | refine rg fun KF hKF => ?_ | refine Wp.block ?_ | dsimp only
 refine Wp.loopS [10, 11, 12, 16, 17, 18, 19, 20, 21, 22, 23, 24, 25, 26, 27, 28, 29, 30, 31, 32, 33, 34, 35, 36, 37, 38, 39, 40, 41, 42, 43, 44, 45, 46, 47, 48, 49, 50, 51, 52, 53, 54, 55, 56, 57, 58, 59, 60, 61, 62, 63, 64, 65, 66, 67, 68, 69, 70, 71, 72, 73, 74, 75, 76, 77, 78, 79, 80, 81, 82, 83, 84, 85, 86] (fun y : Nat => [(10, .int .i64 (y : Int))]) (fun _ y H2 => y ≤ h ∧ HasRow H2 H0.n (cellsI (fillI f y h)) true (2 * 3) ∧ Ext H0 H2) (fun y => h - y) 0 rfl (fun _ => rfl) ⟨rfl, trivial⟩ ⟨Nat.zero_le _, by rw [fillI_zero]; exact kr1, hx1⟩ (by unfold fuel0 at hn; omega) ?_
 rintro y g H2 ⟨hy, kr, hx2⟩
 haveI := kr
 haveI : ExtI H0 H2 := ⟨hx2⟩
 simp only [↓nrmL, nrmZ, qe, ↓reduceIte, qa, ze, zn]
 cases hc : decide ((y : Int) < (h : Int))
 ·have hye : y = h := by have := of_decide_eq_false hc; omega
  subst hye
  repeat first | refine mI ?_ | refine mv ?_ | refine fd ?_ | refine Fo.ld rfl rfl ?_ | refine bn rfl rfl rfl (by simp only [↓nrmL, nrmZ, qe, ↓reduceIte, qa, ze, zn, hc]; rfl) ?_ | refine nl hKF ?_ | refine sq ?_ | refine rg fun KF hKF => ?_ | refine cf rfl ?_ | refine rt ?_ | refine xi ?_ | dsimp only
  refine rz trivial ?_
  refine ⟨H0.n, rfl, ?_, hx0.n, hx0.trans hx2⟩
  have e : nvL P w y (w - 1 - x) = fillI f y y := by rw [fillI_all, ← hf]; rfl
  rw [e]; exact kr
 have hyl : y < h := by have := of_decide_eq_true hc; omega
 have hfl := fillI_len f y h
 haveI hli : IntsI H2 (.slice H0.n 0 h (some h) 1) (fillI f y h) := row_ints kr hfl
 have hwy := wa1 (a := y) (by omega)
 repeat first | refine mI ?_ | refine mv ?_ | refine fd ?_ | refine Fo.ld rfl rfl ?_ | refine bn rfl rfl rfl (by simp only [↓nrmL, nrmZ, qe, ↓reduceIte, qa, ze, zn, hc]; rfl) ?_ | (refine Fo.idx (by simp only [↓nrmL, nrmK, qe, ↓reduceIte]; rfl) rfl ?_ (by simp only [↓nrmL, nrmZ, qe, ↓reduceIte, qa, ze, zn, hc]; rfl) ?_; (focus omega)) | refine nl hKF ?_ | refine sq ?_ | refine rg fun KF hKF => ?_ | refine ct rfl ?_ | refine sk ?_ | refine Wp.block ?_
 refine WpO.do' (WpX.stH (H0 := H0) (r := H0.n) (j := 0 + y) (l := fillI f y h) hx2 (Nat.le_refl _) rfl rfl (by omega) fun H3 kr3 hx3 => ?_)
 rw [Nat.zero_add] at kr3
 haveI := kr3
 haveI : ExtI H0 H3 := ⟨hx3⟩
 have hi := inkB_nat (l := fb) hx hyl
 cases hfb : (fb.getD (y * w + x) 0 == 1)
 rotate_left
 ·have hv : (1000000000 : Int) = f y := by
   rw [hfy]
   have h1 := hF.yes x y hx hyl (by simpa using hfb)
   have h2 : 1920 ≤ restF (priF P h) w h (w - 1 - x) y := by
    cases hd : w - 1 - x with
    | zero =>
     simp only [restF]
     rw [show w - 1 = x by omega, h1]; exact Int.le_refl _
    | succ d =>
     simp only [restF]
     rw [show w - 1 - (d + 1) = x by omega, h1]
     have := nxTo_pos (y := y) (lo := loB y) (rest_pos (hP.pos h) (w := w) (h := h) d) (hiB h y + 1 - loB y)
     unfold nxF; omega
   unfold nv; rw [if_neg (by omega)]
  rw [hfb] at hi
  rw [hv, fillI_set] at kr3
  haveI := kr3
  simp only [↓nrmL, nrmZ, qe, ↓reduceIte, qa, ze, zn, hi, hwy]
  repeat first | refine mI ?_ | refine Fo.ldN rfl rfl (by simp only [↓nrmL, nrmZ, qe, ↓reduceIte, qa, ze, zn, hi, hwy]; rfl) ?_ | refine bn rfl rfl rfl (by simp only [↓nrmL, nrmZ, qe, ↓reduceIte, qa, ze, zn, hi, hwy]; rfl) ?_ | (refine Fo.pcall (v' := ?_) hn rfl (by simp only [↓nrmL, nrmZ, qe, ↓reduceIte, qa, ze, zn, hi, hwy, List.map]; rfl) rfl ?hv fun _ _ => ?_; case hv => (simp only [↓nrmL, nrmZ, qe, ↓reduceIte, qa, ze, zn, hi, hwy]; rfl)) | refine nl hKF ?_ | refine sq ?_ | refine rg fun KF hKF => ?_ | refine ct rfl ?_ | refine xi ?_ | dsimp only
  exact ⟨y + 1, by omega, ⟨rfl, trivial⟩, by omega, inferInstance, Ext0.ext⟩
 have hfn : fb.getD (y * w + x) 0 ≠ 1 := fun e => by rw [e] at hfb; cases hfb
 have hpri : priF P h x y = prB l (y * w + x) := hF.no x y hx hyl hfn
 have hbb := prB_bd l (y * w + x)
 rw [hfb] at hi
 have hs1 : IntKind.i64.wrap ((w : Int) - 1) = ((w - 1 : Nat) : Int) := ws1 (by omega) (by omega)
 haveI hpx : ∀ (H : AHeap) [BytesI H p l], PureCon ext prog 92 [.agg [.int .i64 (w : Int), .int .i64 (h : Int), p], .int .i64 (x : Int), .int .i64 (y : Int)] H 2 (.int .i64 (prB l (y * w + x))) := fun H hb => ⟨K_pixel hb ok hx hyl⟩
 have hl3 : ((fillI f y h).set y 1000000000).length = h := by rw [List.length_set, hfl]
 haveI hli3 : IntsI H3 (.slice H0.n 0 h (some h) 1) ((fillI f y h).set y 1000000000) := row_ints kr3 hl3
 by_cases hxe : x = w - 1
 ·have he : ((x : Int) == ((w - 1 : Nat) : Int)) = true := by simp; omega
  have hv : prB l (y * w + x) = f y := by
   rw [hfy, show w - 1 - x = 0 by omega]
   simp only [restF]
   rw [← hxe, hpri]
   unfold nv; rw [if_pos (by omega)]
  simp only [↓nrmL, nrmZ, qe, ↓reduceIte, qa, ze, zn, hi, hs1, he]
  repeat first | refine mI ?_ | refine mv ?_ | refine fd ?_ | refine Fo.ld rfl rfl ?_ | refine Fo.ldN rfl rfl (by simp only [↓nrmL, nrmZ, qe, ↓reduceIte, qa, ze, zn, hi, hs1, he]; rfl) ?_ | refine bn rfl rfl rfl (by simp only [↓nrmL, nrmZ, qe, ↓reduceIte, qa, ze, zn, hi, hs1, he]; rfl) ?_ | (refine Fo.pcall (v' := ?_) hn rfl (by simp only [↓nrmL, nrmZ, qe, ↓reduceIte, qa, ze, zn, hi, hs1, he, List.map]; rfl) rfl ?hv fun _ _ => ?_; case hv => (simp only [↓nrmL, nrmZ, qe, ↓reduceIte, qa, ze, zn, hi, hs1, he]; rfl)) | (refine Fo.pcall (v' := ?_) hn rfl (by simp only [↓nrmL, nrmZ, qe, ↓reduceIte, qa, ze, zn, hi, hs1, he, List.map]; rfl) rfl ?hv fun _ _ => ?_; case hv => rfl) | (refine Fo.idx (by simp only [↓nrmL, nrmK, qe, ↓reduceIte]; rfl) rfl ?_ (by simp only [↓nrmL, nrmZ, qe, ↓reduceIte, qa, ze, zn, hi, hs1, he]; rfl) ?_; (focus omega)) | refine nl hKF ?_ | refine sq ?_ | refine rg fun KF hKF => ?_ | refine ct rfl ?_ | refine cf rfl ?_ | refine sk ?_
  rename AHeap => H5
  haveI kr5 : HasRow H5 H0.n (cellsI ((fillI f y h).set y 1000000000)) true (2 * 3) := inferInstance
  refine WpO.do' (WpX.stH (H0 := H0) (r := H0.n) (j := 0 + y) (l := (fillI f y h).set y 1000000000) (Ext0.ext : Ext H0 H5) (Nat.le_refl _) rfl rfl (by omega) fun H4 kr4 hx4 => ?_)
  rw [Nat.zero_add, List.set_set, hv, fillI_set] at kr4
  simp only [↓nrmL, nrmZ, qe, ↓reduceIte, qa, ze, zn, hwy]
  repeat first | refine mI ?_ | refine bn rfl rfl rfl (by simp only [↓nrmL, nrmZ, qe, ↓reduceIte, qa, ze, zn, hwy]; rfl) ?_ | refine nl hKF ?_ | refine rg fun KF hKF => ?_ | refine xi ?_ | dsimp only
  exact ⟨y + 1, by omega, ⟨rfl, trivial⟩, by omega, kr4, hx4⟩
 have hx1w : x + 1 < w := by omega
 obtain ⟨d, hd⟩ : ∃ d, w - 1 - (x + 1) = d := ⟨_, rfl⟩
 have hd1 : w - 1 - x = d + 1 := by omega
 have hxd : w - 1 - (d + 1) = x := by omega
 have hla := hla hx1w
 rw [hd] at hla
 subst hla
 have he : ((x : Int) == ((w - 1 : Nat) : Int)) = false := by simp; omega
 obtain ⟨c, hcc⟩ : ∃ c : Nat → Int, restF (priF P h) w h d = c := ⟨_, rfl⟩
 obtain ⟨b, hb⟩ : ∃ b : Int, prB l (y * w + x) = b := ⟨_, rfl⟩
 have hend : outV b c y (jB h y 3) = f y := by
  have h1 := outV_end (l := l) (fb := fb) (P := P) (w := w) (h := h) (d := d) (y := y) hP hF (by omega) hw (by omega) hyl (by rw [hxd]; exact hfn)
  rw [hxd, hb, hcc] at h1
  rw [jB_end hyl, h1, hfy, hd1]
 have e0 : IntKind.i64.wrap ((y : Int) - 1) = (y : Int) + ((0 : Nat) : Int) - 1 := by rw [w64 (by omega)]; omega
 rw [hb] at hpx hbb
 simp only [↓nrmL, nrmZ, qe, ↓reduceIte, qa, ze, zn, hi, hs1, he, e0]
 repeat first | refine mI ?_ | refine fd ?_ | refine Fo.ld rfl rfl ?_ | refine Fo.ldN rfl rfl (by simp only [↓nrmL, nrmZ, qe, ↓reduceIte, qa, ze, zn, hi, hs1, he, e0]; rfl) ?_ | refine bn rfl rfl rfl (by simp only [↓nrmL, nrmZ, qe, ↓reduceIte, qa, ze, zn, hi, hs1, he, e0]; rfl) ?_ | (refine Fo.pcall (v' := ?_) hn rfl (by simp only [↓nrmL, nrmZ, qe, ↓reduceIte, qa, ze, zn, hi, hs1, he, e0, List.map]; rfl) rfl ?hv fun _ _ => ?_; case hv => (simp only [↓nrmL, nrmZ, qe, ↓reduceIte, qa, ze, zn, hi, hs1, he, e0]; rfl)) | refine nl hKF ?_ | refine sq ?_ | refine rg fun KF hKF => ?_ | refine cf rfl ?_ | refine sk ?_ | refine Wp.block ?_ | dsimp only
 refine Wp.loopS [11, 12, 43, 44, 45, 46, 47, 48, 49, 50, 51, 52, 53, 54, 55, 56, 57, 58, 59, 60, 61, 62, 63, 64, 65, 66, 67, 68, 69, 70, 71, 72, 73, 74, 75, 76, 77, 78, 79, 80, 81, 82, 83, 84, 85, 86] (fun k : Nat => [(11, .int .i64 ((y : Int) + (k : Int) - 1))]) (fun _ k H4 => k ≤ 3 ∧ HasRow H4 H0.n (cellsI ((fillI f y h).set y (outV b c y (jB h y k)))) true (2 * 3) ∧ Ext H0 H4) (fun k => 3 - k) 0 rfl (fun _ => rfl) ⟨rfl, trivial⟩ ⟨Nat.zero_le _, by rw [jB_zero, outV_zero]; exact inferInstance, Ext0.ext⟩ (by unfold fuel0 at hn; omega) ?_
 rintro k g2 H4 ⟨hk, kr4, hx4⟩
 haveI := kr4
 haveI : ExtI H0 H4 := ⟨hx4⟩
 haveI : BytesI H4 p l := inferInstance
 haveI : IntsI H4 ap (nvL P w h d) := inferInstance
 have e1 : IntKind.i64.wrap ((y : Int) + 1) = ((y + 1 : Nat) : Int) := wa1 (by omega)
 simp only [↓nrmL, nrmZ, qe, ↓reduceIte, qa, ze, zn]
 cases hck : decide ((y : Int) + (k : Int) - 1 ≤ ((y + 1 : Nat) : Int))
 ·have hke : k = 3 := by have := of_decide_eq_false hck; omega
  subst hke
  rw [hend, fillI_set] at kr4
  repeat first | refine mI ?_ | refine bn rfl rfl rfl (by simp only [↓nrmL, nrmZ, qe, ↓reduceIte, qa, ze, zn, e1, hck]; rfl) ?_ | refine nl hKF ?_ | refine sq ?_ | refine rg fun KF hKF => ?_ | refine cf rfl ?_ | refine xi ?_ | dsimp only
  exact ⟨y + 1, by omega, ⟨rfl, trivial⟩, by omega, kr4, hx4⟩
 have hk2 : k ≤ 2 := by have := of_decide_eq_true hck; omega
 have e5 : IntKind.i64.wrap ((y : Int) + (k : Int) - 1 + 1) = (y : Int) + ((k + 1 : Nat) : Int) - 1 := by rw [w64 (by omega)]; omega
 by_cases hlow : y + k = 0
 ·have hb0 : decide ((y : Int) + (k : Int) - 1 < 0) = true := decide_eq_true (by omega)
  repeat first | refine ox ?_ | refine mI ?_ | refine mB ?_ | refine bn rfl rfl rfl (by simp only [↓nrmL, nrmZ, qe, ↓reduceIte, qa, ze, zn, e1, hck, hb0, e5]; rfl) ?_ | refine tB ?_ | refine nl hKF ?_ | refine sq ?_ | refine rg fun KF hKF => ?_ | refine ct rfl ?_ | refine sk ?_ | refine Wp.block ?_ | refine xi ?_ | dsimp only
  exact ⟨k + 1, by omega, ⟨rfl, trivial⟩, by omega, by rw [jB_low hlow]; exact kr4, hx4⟩
 have hb0 : decide ((y : Int) + (k : Int) - 1 < 0) = false := decide_eq_false (by omega)
 by_cases hhigh : h ≤ y + k - 1
 ·have hb1 : decide ((y : Int) + (k : Int) - 1 ≥ (h : Int)) = true := decide_eq_true (by omega)
  repeat first | refine oy ?_ | refine ox ?_ | refine mI ?_ | refine mB ?_ | refine fd ?_ | refine Fo.ld rfl rfl ?_ | refine bn rfl rfl rfl (by simp only [↓nrmL, nrmZ, qe, ↓reduceIte, qa, ze, zn, e1, hck, hb0, hb1, e5]; rfl) ?_ | refine tB ?_ | refine fB ?_ | refine nl hKF ?_ | refine sq ?_ | refine rg fun KF hKF => ?_ | refine ct rfl ?_ | refine sk ?_ | refine Wp.block ?_ | refine xi ?_ | dsimp only
  exact ⟨k + 1, by omega, ⟨rfl, trivial⟩, by omega, by rw [jB_high hyl hk2 hhigh]; exact kr4, hx4⟩
 obtain ⟨z, hz⟩ : ∃ z, y + k - 1 = z := ⟨_, rfl⟩
 have hzh : z < h := by omega
 obtain ⟨j1, j2⟩ := jB_in hyl hk2 (by omega) (show y + k - 1 < h by omega)
 rw [hz] at j2
 have ez : (y : Int) + (k : Int) - 1 = (z : Int) := by omega
 rw [ez] at hck hb0 e5
 have hb1 : decide ((z : Int) ≥ (h : Int)) = false := decide_eq_false (by omega)
 have hnl := nvL_len P w h d
 have hzl : z < (nvL P w h d).length := by omega
 have gz : (nvL P w h d)[z] = nv (c z) := by rw [← getD_at hzl, nvL_at hzh, hcc]
 have hcz0 : 0 ≤ c z := by rw [← hcc]; exact rest_pos (hP.pos h) d z
 have hcz1 : c z ≤ 3840 := by rw [← hcc]; exact rest_max (hP.pos h) d z
 have hnev := nv_never hcz1 hcz0
 cases hcn : decide (1920 ≤ c z)
 rotate_left
 ·have h19 : 1920 ≤ c z := of_decide_eq_true hcn
  rw [hcn] at hnev
  simp only [ez, e1, hck, hb0, hb1, gz, hnev, e5]
  repeat first | refine oy ?_ | refine mI ?_ | refine mB ?_ | refine mv ?_ | refine fd ?_ | refine Fo.ld rfl rfl ?_ | refine bn rfl rfl rfl (by simp only [↓nrmL, nrmZ, qe, ↓reduceIte, qa, ze, zn, ez, e1, hck, hb0, hb1, gz, hnev, e5]; rfl) ?_ | refine fB ?_ | (refine Fo.idx (by simp only [↓nrmL, nrmK, qe, ↓reduceIte]; rfl) rfl ?_ (by simp only [↓nrmL, nrmZ, qe, ↓reduceIte, qa, ze, zn, ez, e1, hck, hb0, hb1, gz, hnev, e5]; rfl) ?_; (focus omega)) | (refine Fo.ldI rfl ?_ (by simp only [↓nrmL, nrmZ, qe, ↓reduceIte, qa, ze, zn, ez, e1, hck, hb0, hb1, gz, hnev, e5]; rfl) ?_; (focus omega)) | refine nl hKF ?_ | refine sq ?_ | refine rg fun KF hKF => ?_ | refine ct rfl ?_ | refine sk ?_ | refine Wp.block ?_ | refine xi ?_ | dsimp only
  exact ⟨k + 1, by omega, ⟨rfl, trivial⟩, by omega, by rw [j1, outV_skip (by rw [j2]; exact h19)]; exact kr4, hx4⟩
 have h19 : c z < 1920 := by have := of_decide_eq_false hcn; omega
 have hreal : c z ≤ 1917 := by
  have := rest_real hP hF (show 0 < h by omega) d z (by omega) hzh (by rw [hcc]; exact h19)
  rw [hcc] at this; omega
 rw [hcn] at hnev
 have hnv : nv (c z) = c z := by unfold nv; rw [if_pos h19]
 rw [hnv] at hnev gz
 have htake := outV_take (b := b) (c := c) (y := y) (k := jB h y k) (by rw [j2]; exact hcz0) (by rw [j2]; exact hreal) hbb
 rw [j2, ← j1] at htake
 obtain ⟨V, hV⟩ : ∃ V, outV b c y (jB h y k) = V := ⟨_, rfl⟩
 obtain ⟨V', hV'⟩ : ∃ V, outV b c y (jB h y (k + 1)) = V := ⟨_, rfl⟩
 rw [hV, hV'] at htake
 rw [hV] at kr4
 haveI := kr4
 have hl4 : ((fillI f y h).set y V).length = h := by rw [List.length_set, hfl]
 have hyl4 : y < ((fillI f y h).set y V).length := by omega
 have gV : ((fillI f y h).set y V)[y] = V := by simp
 have w1 : IntKind.i64.wrap (b + c z) = b + c z := w64 (by omega)
 by_cases hzy : z = y
 ·have hne : ((z : Int) != (y : Int)) = false := by rw [hzy]; simp
  have hch : chg y z = 0 := by unfold chg; rw [if_pos hzy.symm]
  rw [hch, Int.add_zero] at htake
  simp only [ez, e1, hck, hb0, hb1, gz, hnev]
  repeat first | refine oy ?_ | refine mI ?_ | refine mB ?_ | refine mv ?_ | refine fd ?_ | refine Fo.ld rfl rfl ?_ | refine bn rfl rfl rfl (by simp only [↓nrmL, nrmZ, qe, ↓reduceIte, qa, ze, zn, ez, e1, hck, hb0, hb1, gz, hnev]; rfl) ?_ | refine fB ?_ | (refine Fo.idx (by simp only [↓nrmL, nrmK, qe, ↓reduceIte]; rfl) rfl ?_ (by simp only [↓nrmL, nrmZ, qe, ↓reduceIte, qa, ze, zn, ez, e1, hck, hb0, hb1, gz, hnev]; rfl) ?_; (focus omega)) | (refine Fo.ldI rfl ?_ (by simp only [↓nrmL, nrmZ, qe, ↓reduceIte, qa, ze, zn, ez, e1, hck, hb0, hb1, gz, hnev]; rfl) ?_; (focus omega)) | refine nl hKF ?_ | refine sq ?_ | refine rg fun KF hKF => ?_ | refine ct rfl ?_ | refine cf rfl ?_ | refine sk ?_ | refine Wp.block ?_ | dsimp only
  refine Fr.dregion0 rfl fun KF hKF => ?_
  simp only [↓nrmL, nrmZ, qe, ↓reduceIte, qa, ze, zn, ez, gz, w1]
  repeat first | refine Er rfl (exec_ldN rfl rfl (by simp only [↓nrmL, nrmZ, qe, ↓reduceIte, qa, ze, zn, ez, gz, w1]; rfl)) rfl ?_ | refine Fe.pure rfl rfl (by simp only [↓nrmL, nrmZ, qe, ↓reduceIte, qa, ze, zn, ez, gz, w1]; rfl) ?_ | (refine Fe.pure rfl (exec_idxP (by (try simp only [↓nrmL, nrmZ, qe, ↓reduceIte, qa, ze, zn, ez, gz, w1]); rfl) rfl ?_) (by simp only [↓nrmL, nrmZ, qe, ↓reduceIte, qa, ze, zn, ez, gz, w1]; rfl) ?_; (focus omega)) | refine Er rfl (exec_ldI rfl (by omega)) (by simp only [↓nrmL, nrmZ, qe, ↓reduceIte, qa, ze, zn, ez, gz, w1]; rfl) ?_ | (refine Fe.pcall (v' := ?_) rfl hn rfl (by simp only [↓nrmL, nrmZ, qe, ↓reduceIte, qa, ze, zn, ez, gz, w1, List.map]; rfl) rfl ?hv fun _ _ => ar ?_; case hv => rfl) | refine WpE.nil (hKF _ _ ?_)
  rename AHeap => H5
  haveI kr5 : HasRow H5 H0.n (cellsI ((fillI f y h).set y V)) true (2 * 3) := inferInstance
  haveI hli5 : IntsI H5 (.slice H0.n 0 h (some h) 1) ((fillI f y h).set y V) := row_ints kr5 hl4
  simp only [hne, gV, htake]
  repeat first | refine mI ?_ | refine mv ?_ | refine bn rfl rfl rfl (by simp only [↓nrmL, nrmZ, qe, ↓reduceIte, qa, ze, zn, hne, gV, htake]; rfl) ?_ | (refine Fo.idx (by simp only [↓nrmL, nrmK, qe, ↓reduceIte]; rfl) rfl ?_ (by simp only [↓nrmL, nrmZ, qe, ↓reduceIte, qa, ze, zn, hne, gV, htake]; rfl) ?_; (focus omega)) | (refine Fo.ldI rfl ?_ (by simp only [↓nrmL, nrmZ, qe, ↓reduceIte, qa, ze, zn, hne, gV, htake]; rfl) ?_; (focus omega)) | refine Fo.now rfl rfl (by simp only [↓nrmL, nrmZ, qe, ↓reduceIte, qa, ze, zn, hne, gV, htake]; rfl) ?_ | refine nl hKF ?_ | refine sq ?_ | refine rg fun KF hKF => ?_ | refine cf rfl ?_ | refine sk ?_
  refine WpO.do' (WpX.stH (H0 := H0) (r := H0.n) (j := 0 + y) (l := (fillI f y h).set y V) (Ext0.ext : Ext H0 H5) (Nat.le_refl _) rfl rfl (by omega) fun H6 kr6 hx6 => ?_)
  rw [Nat.zero_add, List.set_set, ← hV'] at kr6
  repeat first | refine mI ?_ | refine bn rfl rfl rfl (by simp only [↓nrmL, nrmZ, qe, ↓reduceIte, qa, ze, zn, ez, e5]; rfl) ?_ | refine nl hKF ?_ | refine rg fun KF hKF => ?_ | dsimp only
  exact ⟨k + 1, by omega, ⟨rfl, trivial⟩, by omega, kr6, hx6⟩
 ·have hne : ((z : Int) != (y : Int)) = true := by simp; omega
  have hch : chg y z = 1 := by unfold chg; rw [if_neg (fun e => hzy e.symm)]
  rw [hch] at htake
  have w2 : IntKind.i64.wrap (b + c z + 1) = b + c z + 1 := w64 (by omega)
  simp only [ez, e1, hck, hb0, hb1, gz, hnev]
  repeat first | refine oy ?_ | refine mI ?_ | refine mB ?_ | refine mv ?_ | refine fd ?_ | refine Fo.ld rfl rfl ?_ | refine bn rfl rfl rfl (by simp only [↓nrmL, nrmZ, qe, ↓reduceIte, qa, ze, zn, ez, e1, hck, hb0, hb1, gz, hnev]; rfl) ?_ | refine fB ?_ | (refine Fo.idx (by simp only [↓nrmL, nrmK, qe, ↓reduceIte]; rfl) rfl ?_ (by simp only [↓nrmL, nrmZ, qe, ↓reduceIte, qa, ze, zn, ez, e1, hck, hb0, hb1, gz, hnev]; rfl) ?_; (focus omega)) | (refine Fo.ldI rfl ?_ (by simp only [↓nrmL, nrmZ, qe, ↓reduceIte, qa, ze, zn, ez, e1, hck, hb0, hb1, gz, hnev]; rfl) ?_; (focus omega)) | refine nl hKF ?_ | refine sq ?_ | refine rg fun KF hKF => ?_ | refine ct rfl ?_ | refine cf rfl ?_ | refine sk ?_ | refine Wp.block ?_ | dsimp only
  refine Fr.dregion0 rfl fun KF hKF => ?_
  simp only [↓nrmL, nrmZ, qe, ↓reduceIte, qa, ze, zn, ez, gz, w1]
  repeat first | refine Er rfl (exec_ldN rfl rfl (by simp only [↓nrmL, nrmZ, qe, ↓reduceIte, qa, ze, zn, ez, gz, w1]; rfl)) rfl ?_ | refine Fe.pure rfl rfl (by simp only [↓nrmL, nrmZ, qe, ↓reduceIte, qa, ze, zn, ez, gz, w1]; rfl) ?_ | (refine Fe.pure rfl (exec_idxP (by (try simp only [↓nrmL, nrmZ, qe, ↓reduceIte, qa, ze, zn, ez, gz, w1]); rfl) rfl ?_) (by simp only [↓nrmL, nrmZ, qe, ↓reduceIte, qa, ze, zn, ez, gz, w1]; rfl) ?_; (focus omega)) | refine Er rfl (exec_ldI rfl (by omega)) (by simp only [↓nrmL, nrmZ, qe, ↓reduceIte, qa, ze, zn, ez, gz, w1]; rfl) ?_ | (refine Fe.pcall (v' := ?_) rfl hn rfl (by simp only [↓nrmL, nrmZ, qe, ↓reduceIte, qa, ze, zn, ez, gz, w1, List.map]; rfl) rfl ?hv fun _ _ => ar ?_; case hv => rfl) | refine WpE.nil (hKF _ _ ?_)
  rename AHeap => H5
  haveI kr5 : HasRow H5 H0.n (cellsI ((fillI f y h).set y V)) true (2 * 3) := inferInstance
  haveI hli5 : IntsI H5 (.slice H0.n 0 h (some h) 1) ((fillI f y h).set y V) := row_ints kr5 hl4
  simp only [hne, w2, gV, htake]
  repeat first | refine mI ?_ | refine mv ?_ | refine bn rfl rfl rfl (by simp only [↓nrmL, nrmZ, qe, ↓reduceIte, qa, ze, zn, hne, w2, gV, htake]; rfl) ?_ | (refine Fo.idx (by simp only [↓nrmL, nrmK, qe, ↓reduceIte]; rfl) rfl ?_ (by simp only [↓nrmL, nrmZ, qe, ↓reduceIte, qa, ze, zn, hne, w2, gV, htake]; rfl) ?_; (focus omega)) | (refine Fo.ldI rfl ?_ (by simp only [↓nrmL, nrmZ, qe, ↓reduceIte, qa, ze, zn, hne, w2, gV, htake]; rfl) ?_; (focus omega)) | refine Fo.now rfl rfl (by simp only [↓nrmL, nrmZ, qe, ↓reduceIte, qa, ze, zn, hne, w2, gV, htake]; rfl) ?_ | refine nl hKF ?_ | refine sq ?_ | refine rg fun KF hKF => ?_ | refine ct rfl ?_
  refine WpO.do' (WpX.stH (H0 := H0) (r := H0.n) (j := 0 + y) (l := (fillI f y h).set y V) (Ext0.ext : Ext H0 H5) (Nat.le_refl _) rfl rfl (by omega) fun H6 kr6 hx6 => ?_)
  rw [Nat.zero_add, List.set_set, ← hV'] at kr6
  repeat first | refine mI ?_ | refine bn rfl rfl rfl (by simp only [↓nrmL, nrmZ, qe, ↓reduceIte, qa, ze, zn, ez, e5]; rfl) ?_ | refine nl hKF ?_ | refine rg fun KF hKF => ?_ | dsimp only
  exact ⟨k + 1, by omega, ⟨rfl, trivial⟩, by omega, kr6, hx6⟩
end Go.Am

namespace Go.Am
open Go
section
variable {call : ACall} {fr : AFrame} {H : AHeap} {K : AVal → AHeap → Prop}
theorem WpX.mkN {e : TypeId} {z : AVal} {x y : ROpd} {k k' : IntKind} {n : Nat} (hx : x.ev fr = .int k (n : Int)) (hy : y.ev fr = .int k' (n : Int)) (hn : n ≤ 2 ^ 40) (h : ∀ H1, HasRow H1 H.n (List.replicate n z) true (2 * e) → Ext H H1 → K (.slice H.n 0 n (some n) 1) H1) : WpX (.makeSlice e [z] 24 x y) call fr H K := by
  refine WpX.now (exec_mk hx hy (by omega)) ?_
  have e : ∀ n, (List.replicate n [z]).flatten = List.replicate n z := fun n => by
    induction n with
    | zero => rfl
    | succ n ih => rw [List.replicate_succ, List.flatten_cons, ih]; rfl
  rw [Int.toNat_natCast, e]
  exact h _ inferInstance ((Ext.refl H).push _)
theorem WpX.stV {a x : ROpd} {r j : Nat} {cs : List AVal} {e : TypeId} {H0 : AHeap} {v : AVal} (hx0 : Ext H0 H) (hr : H0.n ≤ r) (ha : a.ev fr = .ptr r j) (hx : x.ev fr = v) (hv : v.cells = [v]) [ho : OneV v] (hg : HasRow H r cs true e) (hj : j < cs.length) (h : ∀ H1, HasRow H1 r (cs.set j v) true e → Ext H0 H1 → H1.n = H.n → (∀ s, s ≠ r → H1.get s = H.get s) → K aundef H1) : WpX (.store 1 a x) call fr H K := by
  refine WpX.store ha hx (by rw [hv]; rfl) hg.lt hg.get (by rw [hv]; simp only [List.length_singleton]; omega) (by rw [hv]; simp only [List.all_cons, ho.one, List.all_nil, Bool.and_self]) ?_
  rw [hv]
  exact h _ ⟨hg.lt, set_get_eq⟩ (hx0.set hr _) rfl fun s hs => set_get_ne hs
end
structure Cols (H : AHeap) (cells : List AVal) (P : List Int) (w h B k : Nat) : Prop where
  len : cells.length = w
  it : ∀ i, i < w → w ≤ i + k → ∃ r, cells[i]? = some (.slice r 0 h (some h) 1) ∧ HasRow H r (cellsI (nvL P w h (w - 1 - i))) true (2 * 3) ∧ B < r
theorem Cols.keep {H H' : AHeap} {cells : List AVal} {P : List Int} {w h B k : Nat} (c : Cols H cells P w h B k) (hn : H.n ≤ H'.n) (hg : ∀ s, s < H.n → B < s → H'.get s = H.get s) : Cols H' cells P w h B k := ⟨c.len, fun i hi hk => by
  obtain ⟨r, a1, a2, a3⟩ := c.it i hi hk
  exact ⟨r, a1, ⟨Nat.lt_of_lt_of_le a2.lt hn, by rw [hg r a2.lt a3]; exact a2.get⟩, a3⟩⟩
theorem Cols.next {H : AHeap} {cells : List AVal} {P : List Int} {w h B k r : Nat} (c : Cols H cells P w h B k) (hk : k < w) (hr : HasRow H r (cellsI (nvL P w h k)) true (2 * 3)) (hB : B < r) : Cols H (cells.set (w - 1 - k) (.slice r 0 h (some h) 1)) P w h B (k + 1) := ⟨by rw [List.length_set]; exact c.len, fun i hi hik => by
  by_cases e : w - 1 - k = i
  · subst e
    refine ⟨r, by rw [List.getElem?_set_self (by rw [c.len]; omega)], ?_, hB⟩
    rw [show w - 1 - (w - 1 - k) = k by omega]
    exact hr
  · rw [List.getElem?_set_ne e]
    exact c.it i hi (by omega)⟩
def lvF (c : Nat → Int) : Nat → Int
  | 0 => 1000000000
  | y + 1 => if nv (c y) < lvF c y then nv (c y) else lvF c y
theorem lvF_le {c : Nat → Int} : ∀ {k y : Nat}, y < k → lvF c k ≤ nv (c y)
  | k + 1, y, h => by
    simp only [lvF]
    by_cases e : y = k
    · subst e; split <;> omega
    · have := lvF_le (c := c) (k := k) (y := y) (by omega)
      split <;> omega
theorem lvF_in {c : Nat → Int} : ∀ k, lvF c k = 1000000000 ∨ ∃ y, y < k ∧ lvF c k = nv (c y)
  | 0 => Or.inl rfl
  | k + 1 => by
    simp only [lvF]
    split
    · exact Or.inr ⟨k, by omega, rfl⟩
    · rcases lvF_in (c := c) k with e | ⟨y, h1, h2⟩
      · exact Or.inl e
      · exact Or.inr ⟨y, by omega, h2⟩
theorem lv_least {P : List Int} {w h : Nat} (hw : 0 < w) (hh : 0 < h) : lvF (restF (priF P h) w h (w - 1)) h = nv (leastP P w h) := by
  obtain ⟨y0, h1, h2⟩ := least_in (P := P) hw hh
  have h3 := lvF_le (c := restF (priF P h) w h (w - 1)) h1
  rw [h2] at h3
  rcases lvF_in (c := restF (priF P h) w h (w - 1)) h with e | ⟨y, h4, h5⟩
  · rw [e] at h3 ⊢
    unfold nv at *
    split
    · rename_i h6; rw [if_pos h6] at h3; omega
    · rfl
  · have h6 := least_le (P := P) hw h4
    rw [h5] at h3 ⊢
    unfold nv at *
    by_cases h7 : restF (priF P h) w h (w - 1) y < 1920
    · rw [if_pos h7] at h3 ⊢
      rw [if_pos (by omega)] at h3 ⊢
      omega
    · rw [if_neg h7] at h3 ⊢
      by_cases h8 : leastP P w h < 1920
      · rw [if_pos h8] at h3; omega
      · rw [if_neg h8]
def chB (q : Nat → Nat) (x y : Nat) : Int := if 0 < x then chg (q (x - 1)) y else 0
def lefF (P : Nat → Nat → Int) (w h : Nat) (q : Nat → Nat) (x : Nat) : Int := restF P w h (w - 1 - x) (q x) + chB q x (q x)
theorem chB_bd (q : Nat → Nat) (x y : Nat) : 0 ≤ chB q x y ∧ chB q x y ≤ 1 := by unfold chB chg; split <;> (try split) <;> omega
theorem lef_first {P : Nat → Nat → Int} (hP : PosP P) {w h y0 : Nat} (hh : 0 < h) (hy : y0 < h) (hm : restF P w h (w - 1) y0 < 1920) (hf : ∀ j, j < y0 → restF P w h (w - 1) j ≠ restF P w h (w - 1) y0) {x : Nat} (hx : x < w) : folF P w h y0 x < h ∧ restF P w h (w - 1 - x) (folF P w h y0 x) < 1920 ∧ (0 < x → folF P w h y0 (x - 1) ≤ folF P w h y0 x + 1 ∧ folF P w h y0 x ≤ folF P w h y0 (x - 1) + 1) ∧ (∀ z, z < folF P w h y0 x → (0 < x → folF P w h y0 (x - 1) ≤ z + 1) → restF P w h (w - 1 - x) z + chB (folF P w h y0) x z ≠ lefF P w h (folF P w h y0) x) ∧ (x + 1 < w → lefF P w h (folF P w h y0) x - chB (folF P w h y0) x (folF P w h y0 x) - P x (folF P w h y0 x) = lefF P w h (folF P w h y0) (x + 1)) := by
  have key := fol_rest hP hh hy hm
  obtain ⟨a1, a2, a3⟩ := key x hx
  refine ⟨a1, a2, fun h0 => ⟨(a3 h0).1, (a3 h0).2.1⟩, fun z hz hne => ?_, fun hx1 => ?_⟩
  · cases x with
    | zero =>
      unfold lefF chB
      rw [if_neg (by omega), if_neg (by omega), Nat.sub_zero]
      have hz' : z < y0 := hz
      have := hf z hz'
      have e : folF P w h y0 0 = y0 := rfl
      rw [e]; omega
    | succ x =>
      obtain ⟨b1, b2, b3⟩ := key x (by omega)
      have hne := hne (by omega)
      rw [Nat.add_sub_cancel] at hne
      have hr : restF P w h (w - 1 - x) (folF P w h y0 x) = P x (folF P w h y0 x) + (nxF (restF P w h (w - 1 - (x + 1))) h (folF P w h y0 x)).2 := by
        rw [show w - 1 - x = (w - 1 - (x + 1)) + 1 by omega]
        simp only [restF]
        rw [show w - 1 - (w - 1 - (x + 1) + 1) = x by omega]
      have hp := (hP.it x (folF P w h y0 x)).1
      have hlt : (nxF (restF P w h (w - 1 - (x + 1))) h (folF P w h y0 x)).2 < 1920 := by omega
      obtain ⟨c1, c2, c3, c4, c5⟩ := nx_at hh hlt
      have hf2 : folF P w h y0 (x + 1) = (nxF (restF P w h (w - 1 - (x + 1))) h (folF P w h y0 x)).1 := rfl
      have c6 := c5 z hne (by rw [← hf2]; exact hz)
      unfold lefF chB
      rw [if_pos (by omega), if_pos (by omega), Nat.add_sub_cancel]
      rw [← hf2] at c4
      omega
  · have a4 := (key (x + 1) hx1).2.2 (by omega)
    rw [Nat.add_sub_cancel, show w - (x + 1) = w - 1 - x by omega] at a4
    unfold lefF
    have e : chB (folF P w h y0) (x + 1) (folF P w h y0 (x + 1)) = chg (folF P w h y0 x) (folF P w h y0 (x + 1)) := by
      unfold chB
      rw [if_pos (by omega), Nat.add_sub_cancel]
    rw [e]
    omega
end Go.Am

namespace Go.Am
open Go
open Nat renaming reduceEqDiff → qe, reduceAdd → qa
open Int renaming reduceBEq → ze, reduceBNe → zn
attribute [local irreducible] Wp WpO WpX WpE
theorem row_slice {H : AHeap} {r n : Nat} {cs : List AVal} {rw : Bool} {e : TypeId} (h : HasRow H r cs rw e) (hn : cs.length = n) : SliceAt H (.slice r 0 n (some n) 1) 1 n cs := by
 subst hn
 exact ⟨Or.inr ⟨r, 0, some cs.length, cs, rw, e, rfl, h.lt, h.get, by omega, by rw [List.drop_zero, Nat.mul_one, List.take_length], Nat.le_refl _⟩⟩
theorem first_of {p : Nat → Prop} : ∀ n, p n → ∃ y, y ≤ n ∧ p y ∧ ∀ j, j < y → ¬ p j := by
 intro n
 induction n using Nat.strongRecOn with
 | _ n ih =>
  intro hp
  by_cases hc : ∃ j, j < n ∧ p j
  ·obtain ⟨j, hj, hpj⟩ := hc
   obtain ⟨y, a1, a2, a3⟩ := ih j hj hpj
   exact ⟨y, by omega, a2, a3⟩
  ·exact ⟨n, Nat.le_refl _, hp, fun j hj hpj => hc ⟨j, hj, hpj⟩⟩
theorem K_Best {w h : Nat} {p fp : AVal} {H : AHeap} {l fb : List UInt8} {P : List Int} (hp : BytesI H p l) (hfp : BytesI H fp fb) (ok : Ok w h l) (okf : Ok w h fb) (hP : PosL P) (hF : FbR l fb P w h) (hw0 : 0 < w) (hh0 : 0 < h) : Con ext prog 4 67 [.agg [.int .i64 (w : Int), .int .i64 (h : Int), p], .agg [.int .i64 (w : Int), .int .i64 (h : Int), fp]] H fun v H' => Ext H H' ∧ ((1920 ≤ leastP P w h ∧ v = .tuple [.nslice, .bool false]) ∨ (leastP P w h < 1920 ∧ ∃ pv y0, v = .tuple [pv, .bool true] ∧ y0 < h ∧ restF (priF P h) w h (w - 1) y0 = leastP P w h ∧ (∀ j, j < y0 → restF (priF P h) w h (w - 1) j ≠ leastP P w h) ∧ OwnS H' pv 1 w (cellsI (lineQ w (folF (priF P h) w h y0))) 3 ∧ FreshS H pv)) := by
 refine con_of (show prog 67 = some c67 from rfl) rfl rfl fun n hn => ?_
 haveI := hp
 haveI := hfp
 haveI := hp.one
 haveI := hfp.one
 have hw := ok.wa
 have hh := ok.hb
 repeat first | refine mB ?_ | refine mN ?_ | refine fd ?_ | refine Fo.ld rfl rfl ?_ | refine bA ?_ | refine nl hKF ?_ | refine sq ?_ | refine rg fun KF hKF => ?_
 obtain ⟨H0, hH0⟩ : ∃ H0, (H.push (.row [.int .i64 (w : Int), .int .i64 (h : Int), p] true (2 * 24))).push (.row [.int .i64 (w : Int), .int .i64 (h : Int), fp] true (2 * 24)) = H0 := ⟨_, rfl⟩
 obtain ⟨b2, hb2⟩ : ∃ b2, (H.push (.row [.int .i64 (w : Int), .int .i64 (h : Int), p] true (2 * 24))).n = b2 := ⟨_, rfl⟩
 have k1 : HasRow H0 H.n [.int .i64 (w : Int), .int .i64 (h : Int), p] true (2 * 24) := by rw [← hH0]; infer_instance
 have k2 : HasRow H0 b2 [.int .i64 (w : Int), .int .i64 (h : Int), fp] true (2 * 24) := by rw [← hH0, ← hb2]; infer_instance
 have hx0 : Ext H H0 := by rw [← hH0]; exact Ext0.ext
 rw [hH0, hb2]
 haveI := k1
 haveI := k2
 haveI : ExtI H H0 := ⟨hx0⟩
 haveI : BytesI H0 p l := inferInstance
 haveI : BytesI H0 fp fb := inferInstance
 skip
 refine WpO.do (WpX.mkN rfl rfl (by omega) fun H1 kr1 hx1 => ?_)
 haveI := kr1
 haveI : ExtI H0 H1 := ⟨hx1⟩
 have hs1 : IntKind.i64.wrap ((w : Int) - 1) = (w : Int) - 1 - ((0 : Nat) : Int) := by rw [w64 (by omega)]; omega
 have hs2 : (w : Int) - 1 - ((0 : Nat) : Int) = ((w - 1 : Nat) : Int) := by omega
 simp only [↓nrmL, nrmZ, qe, ↓reduceIte, qa, ze, zn, hs1]
 refine mv ?_
 refine nl hKF ?_
 refine sq ?_
 refine sq ?_
 refine rg fun KF hKF => ?_
 refine fd ?_
 refine Fo.ld rfl rfl ?_
 refine bn rfl rfl rfl (by simp only [hs1]; rfl) ?_
 refine mI ?_
 refine nl hKF ?_
 refine Wp.block ?_
 dsimp only
 refine Wp.loopS [7, 8, 23, 24, 25, 26, 27, 28, 29, 30, 31, 32, 33, 34, 35, 36, 37, 38, 39, 40, 41, 42, 43, 44] (fun k : Nat => [(7, .int .i64 ((w : Int) - 1 - (k : Int)))]) (fun _ k H2 => k ≤ w ∧ ∃ cells, HasRow H2 H0.n cells true (2 * 25) ∧ Cols H2 cells P w h H0.n k ∧ Ext H0 H2) (fun k => w - k) 0 rfl (fun _ => rfl) ⟨rfl, trivial⟩ ⟨Nat.zero_le _, _, kr1, ⟨List.length_replicate, fun i hi hk => by omega⟩, hx1⟩ (by unfold fuel0 at hn; omega) ?_
 rintro k g H2 ⟨hk, cells, kr, hc, hx2⟩
 haveI := kr
 haveI : ExtI H0 H2 := ⟨hx2⟩
 have hsl := row_slice kr hc.len
 haveI := hsl
 simp only [↓nrmL, nrmZ, qe, ↓reduceIte, qa, ze, zn]
 cases hck : decide ((w : Int) - 1 - (k : Int) ≥ 0)
 rotate_left
 ·have hkw : k < w := by have := of_decide_eq_true hck; omega
  obtain ⟨x, hx⟩ : ∃ x, w - 1 - k = x := ⟨_, rfl⟩
  have ex : (w : Int) - 1 - (k : Int) = (x : Int) := by omega
  rw [ex] at hck
  have hs3 : IntKind.i64.wrap ((w : Int) - 1) = ((w - 1 : Nat) : Int) := ws1 (by omega) (by omega)
  have e5 : IntKind.i64.wrap ((x : Int) - 1) = (w : Int) - 1 - ((k + 1 : Nat) : Int) := by rw [w64 (by omega)]; omega
  have hxw : x < w := by omega
  haveI : BytesI H2 p l := inferInstance
  haveI : BytesI H2 fp fb := inferInstance
  have nH := kr.lt
  by_cases hk0 : k = 0
  ·have hlt : decide ((x : Int) < ((w - 1 : Nat) : Int)) = false := decide_eq_false (by omega)
   simp only [ex, hck, hs3, hlt]
   repeat first | refine mI ?_ | refine mN ?_ | refine mv ?_ | refine fd ?_ | refine Fo.ld rfl rfl ?_ | refine Fo.ldN rfl rfl (by simp only [↓nrmL, nrmZ, qe, ↓reduceIte, qa, ze, zn, ex, hck, hs3, hlt]; rfl) ?_ | refine bn rfl rfl rfl (by simp only [ex, hck, hs3, hlt]; rfl) ?_ | refine nl hKF ?_ | refine sq ?_ | refine rg fun KF hKF => ?_ | refine ct rfl ?_ | refine cf rfl ?_ | refine sk ?_ | refine Wp.block ?_
   refine WpO.do (WpX.conD hn rfl rfl (by simp only [↓nrmL, nrmZ, qe, ↓reduceIte, qa, ze, zn, List.map] <;> rfl) (K_rest (w := w) (h := h) (p := p) (fp := fp) (ap := .nslice) (l := l) (fb := fb) (P := P) (la := []) inferInstance inferInstance inferInstance ok okf hP hF hxw (fun e => by omega)) fun v H3 h5 => ?_)
   obtain ⟨r, rfl, hr, hrn, hx3⟩ := h5
   haveI : ExtI H2 H3 := ⟨hx3⟩
   haveI kr3 : HasRow H3 H0.n cells true (2 * 25) := inferInstance
   haveI := row_slice kr3 hc.len
   refine Fo.idx (by simp only [↓nrmL, nrmK, qe, ↓reduceIte]; rfl) rfl ?_ (by simp only [↓nrmL, nrmZ, qe, ↓reduceIte, qa, ze, zn]; rfl) ?_; (focus omega)
   refine WpO.do' (WpX.stV (H0 := H0) (r := H0.n) (j := 0 + x) (cs := cells) (v := .slice r 0 h (some h) 1) (hx2.trans hx3) (Nat.le_refl _) rfl rfl rfl kr3 (by rw [hc.len]; omega) fun H4 kr4 hx4 hn4 hg4 => ?_)
   rw [Nat.zero_add] at kr4
   simp only [↓nrmL, nrmZ, qe, ↓reduceIte, qa, ze, zn, e5]
   repeat first | refine mI ?_ | refine bn rfl rfl rfl (by simp only [e5]; rfl) ?_ | refine nl hKF ?_ | refine rg fun KF hKF => ?_ | dsimp only
   refine ⟨k + 1, by omega, ⟨rfl, trivial⟩, by omega, _, kr4, ?_, hx4⟩
   rw [← hx]
   exact ((hc.keep hx3.n fun s hs _ => hx3.get s hs).next hkw (by rw [show k = w - 1 - x by omega]; exact hr) (by omega)).keep (by omega) fun s hs hB => hg4 s (by omega)
  have hlt : decide ((x : Int) < ((w - 1 : Nat) : Int)) = true := decide_eq_true (by omega)
  have hwx := wa1 (a := x) (by omega)
  obtain ⟨r', c1, c2, c3⟩ := hc.it (x + 1) (by omega) (by omega)
  haveI := c2
  haveI := row_ints c2 (nvL_len P w h (w - 1 - (x + 1)))
  simp only [ex, hck, hs3, hlt, hwx]
  repeat first | refine mI ?_ | refine mN ?_ | refine mv ?_ | refine fd ?_ | refine Fo.ld rfl rfl ?_ | refine bn rfl rfl rfl (by simp only [ex, hck, hs3, hlt, hwx]; rfl) ?_ | (refine Fo.idx (by simp only [↓nrmL, nrmK, qe, ↓reduceIte]; rfl) rfl ?_ (by simp only [↓nrmL, nrmZ, qe, ↓reduceIte, qa, ze, zn, ex, hck, hs3, hlt, hwx]; rfl) ?_; (focus omega)) | refine nl hKF ?_ | refine sq ?_ | refine rg fun KF hKF => ?_ | refine ct rfl ?_ | refine sk ?_ | refine Wp.block ?_
  refine Fo.now rfl (exec_ldP (p := .slice H0.n 0 w (some w) 1) (j := x + 1) rfl c1) rfl ?_
  repeat first | refine mI ?_ | refine mv ?_ | refine Fo.ldN rfl rfl (by simp only [↓nrmL, nrmZ, qe, ↓reduceIte, qa, ze, zn]; rfl) ?_ | refine nl hKF ?_ | refine rg fun KF hKF => ?_
  refine WpO.do (WpX.conD hn rfl rfl (by simp only [↓nrmL, nrmZ, qe, ↓reduceIte, qa, ze, zn, List.map] <;> rfl) (K_rest (w := w) (h := h) (p := p) (fp := fp) (ap := .slice r' 0 h (some h) 1) (l := l) (fb := fb) (P := P) (la := nvL P w h (w - 1 - (x + 1))) inferInstance inferInstance inferInstance ok okf hP hF hxw (fun _ => rfl)) fun v H3 h5 => ?_)
  obtain ⟨r, rfl, hr, hrn, hx3⟩ := h5
  haveI : ExtI H2 H3 := ⟨hx3⟩
  haveI kr3 : HasRow H3 H0.n cells true (2 * 25) := inferInstance
  haveI := row_slice kr3 hc.len
  refine Fo.idx (by simp only [↓nrmL, nrmK, qe, ↓reduceIte]; rfl) rfl ?_ (by simp only [↓nrmL, nrmZ, qe, ↓reduceIte, qa, ze, zn]; rfl) ?_; (focus omega)
  refine WpO.do' (WpX.stV (H0 := H0) (r := H0.n) (j := 0 + x) (cs := cells) (v := .slice r 0 h (some h) 1) (hx2.trans hx3) (Nat.le_refl _) rfl rfl rfl kr3 (by rw [hc.len]; omega) fun H4 kr4 hx4 hn4 hg4 => ?_)
  rw [Nat.zero_add] at kr4
  simp only [↓nrmL, nrmZ, qe, ↓reduceIte, qa, ze, zn, e5]
  repeat first | refine mI ?_ | refine bn rfl rfl rfl (by simp only [e5]; rfl) ?_ | refine nl hKF ?_ | refine rg fun KF hKF => ?_ | dsimp only
  refine ⟨k + 1, by omega, ⟨rfl, trivial⟩, by omega, _, kr4, ?_, hx4⟩
  rw [← hx]
  exact ((hc.keep hx3.n fun s hs _ => hx3.get s hs).next hkw (by rw [show k = w - 1 - x by omega]; exact hr) (by omega)).keep (by omega) fun s hs hB => hg4 s (by omega)
 have hkw : k = w := by have := of_decide_eq_false hck; omega
 subst hkw
 obtain ⟨c, hcdef⟩ : ∃ c : Nat → Int, restF (priF P h) k h (k - 1) = c := ⟨_, rfl⟩
 obtain ⟨r0, c1, c2, c3⟩ := hc.it 0 hw0 (by omega)
 have hnl : ∀ d, (nvL P k h d).length = h := fun d => nvL_len _ _ _ _
 haveI := row_ints c2 (hnl _)
 repeat first | refine mI ?_ | refine bn rfl rfl rfl (by simp only [hck]; rfl) ?_ | refine nl hKF ?_ | refine sq ?_ | refine rg fun KF hKF => ?_ | refine cf rfl ?_ | refine Wp.block ?_ | refine xi ?_ | dsimp only
 refine Wp.loopS [9, 10, 45, 46, 47, 48, 49, 50, 51, 52, 53, 54, 55, 56, 57, 58] (fun y : Nat => [(10, .int .i64 (y : Int)), (9, .int .i64 (lvF c y))]) (fun K0 y H3 => y ≤ h ∧ H3 = K0) (fun y => h - y) 0 rfl (fun _ => rfl) ⟨rfl, rfl, trivial⟩ ⟨Nat.zero_le _, rfl⟩ (by unfold fuel0 at hn; omega) ?_
 rintro y g2 H3 ⟨hy, rfl⟩
 simp only [↓nrmL, nrmZ, qe, ↓reduceIte, qa, ze, zn]
 cases hcy : decide ((y : Int) < (h : Int))
 rotate_left
 ·have hyl : y < h := by have := of_decide_eq_true hcy; omega
  have hyn : y < (nvL P k h (k - 1 - 0)).length := by rw [hnl]; omega
  have gy : (nvL P k h (k - 1 - 0))[y] = nv (c y) := by rw [← getD_at hyn, nvL_at hyl, Nat.sub_zero, hcdef]
  have hwy := wa1 (a := y) (by omega)
  have hm : (if nv (c y) < lvF c y then nv (c y) else lvF c y) = lvF c (y + 1) := rfl
  repeat first | refine mI ?_ | refine mv ?_ | refine fd ?_ | refine Fo.ld rfl rfl ?_ | refine bn rfl rfl rfl (by simp only [hcy]; rfl) ?_ | (refine Fo.idx (by simp only [↓nrmL, nrmK, qe, ↓reduceIte]; rfl) rfl ?_ (by simp only [↓nrmL, nrmZ, qe, ↓reduceIte, qa, ze, zn, hcy]; rfl) ?_; (focus omega)) | refine nl hKF ?_ | refine sq ?_ | refine rg fun KF hKF => ?_ | refine ct rfl ?_ | refine sk ?_ | refine Wp.block ?_
  refine Fo.now rfl (exec_ldP (p := .slice H0.n 0 k (some k) 1) (j := 0) rfl c1) rfl ?_
  simp only [↓nrmL, nrmZ, qe, ↓reduceIte, qa, ze, zn, gy, hm, hwy]
  repeat first | refine mI ?_ | refine bn rfl rfl rfl (by simp only [gy, hm, hwy]; rfl) ?_ | (refine Fo.idx (by simp only [↓nrmL, nrmK, qe, ↓reduceIte]; rfl) rfl ?_ (by simp only [↓nrmL, nrmZ, qe, ↓reduceIte, qa, ze, zn, gy, hm, hwy]; rfl) ?_; (focus omega)) | (refine Fo.ldI rfl ?_ (by simp only [gy, hm, hwy]; rfl) ?_; (focus omega)) | refine Fo.now rfl rfl (by simp only [gy, hm, hwy]; rfl) ?_ | refine nl hKF ?_ | refine rg fun KF hKF => ?_ | dsimp only
  exact ⟨y + 1, by omega, ⟨rfl, rfl, trivial⟩, by omega, rfl⟩
 have hye : y = h := by have := of_decide_eq_false hcy; omega
 subst hye
 obtain ⟨M, hM⟩ : ∃ M, leastP P k y = M := ⟨_, rfl⟩
 have hlv : lvF c y = nv M := by rw [← hcdef, ← hM]; exact lv_least hw0 hh0
 have hMr : 0 ≤ M ∧ M ≤ 3840 := by
  obtain ⟨y', _, y2⟩ := least_in (P := P) hw0 hh0
  rw [← hM, ← y2]
  exact ⟨rest_pos (hP.pos y) _ _, rest_max (hP.pos y) _ _⟩
 have hnev := nv_never hMr.2 hMr.1
 rw [hlv, hM]
 cases hMn : decide (1920 ≤ M)
 rotate_left
 ·rw [hMn] at hnev
  repeat first | refine mI ?_ | refine mB ?_ | refine mN ?_ | refine fd ?_ | refine Fo.ld rfl rfl ?_ | refine bn rfl rfl rfl (by simp only [hcy, hnev]; rfl) ?_ | refine nl hKF ?_ | refine sq ?_ | refine rg fun KF hKF => ?_ | refine ct rfl ?_ | refine cf rfl ?_ | refine rt ?_ | refine xi ?_ | dsimp only
  refine rz trivial ?_
  exact ⟨hx0.trans hx2, Or.inl ⟨of_decide_eq_true hMn, rfl⟩⟩
 have hM19 : M < 1920 := by have := of_decide_eq_false hMn; omega
 rw [hMn] at hnev
 have hnv : nv M = M := by unfold nv; rw [if_pos hM19]
 rw [hnv] at hnev ⊢
 obtain ⟨y0, hy0, hy1, hy2⟩ : ∃ y0, y0 < y ∧ restF (priF P y) k y (k - 1) y0 = M ∧ ∀ j, j < y0 → restF (priF P y) k y (k - 1) j ≠ M := by
  obtain ⟨y', a1, a2⟩ := least_in (P := P) hw0 hh0
  rw [hM] at a2
  obtain ⟨y0, b1, b2, b3⟩ := first_of (p := fun j => restF (priF P y) k y (k - 1) j = M) y' a2
  exact ⟨y0, by omega, b2, b3⟩
 obtain ⟨q, hq⟩ : ∃ q, folF (priF P y) k y y0 = q := ⟨_, rfl⟩
 have hfirst := fun x (hx : x < k) => lef_first (hP.pos y) hh0 hy0 (by rw [hy1]; exact hM19) (by rw [hy1]; exact hy2) (x := x) hx
 rw [hq] at hfirst
 have hlef0 : M = lefF (priF P y) k y q 0 := by
  unfold lefF chB
  rw [if_neg (by omega), Nat.sub_zero, ← hq]
  have e : folF (priF P y) k y y0 0 = y0 := rfl
  rw [e, hy1]; omega
 repeat first | refine mI ?_ | refine mN ?_ | refine fd ?_ | refine Fo.ld rfl rfl ?_ | refine bn rfl rfl rfl (by simp only [hcy, hnev]; rfl) ?_ | refine nl hKF ?_ | refine sq ?_ | refine rg fun KF hKF => ?_ | refine cf rfl ?_ | refine sk ?_ | refine Wp.block ?_ | refine xi ?_ | dsimp only
 refine Wp.loopS (σ := Nat × Int × AVal) [11, 12, 13, 14, 15, 16, 62, 63, 64, 65, 66, 67, 68, 69, 70, 71, 72, 73, 74, 75, 76, 77, 78, 79, 80, 81, 82, 83, 84, 85, 86, 87, 88, 89, 90, 91, 92, 93, 94, 95, 96, 97, 98, 99, 100, 101, 102, 103, 104, 105, 106, 107, 108, 109, 110, 111, 112, 113, 114, 115, 116, 117, 118, 119, 120, 121, 122, 123] (fun s => [(13, .int .i64 (s.1 : Int)), (12, .int .i64 s.2.1), (11, s.2.2)]) (fun _ s H4 => s.1 ≤ k ∧ (s.1 < k → s.2.1 = lefF (priF P y) k y q s.1) ∧ OwnS H4 s.2.2 1 s.1 (cellsI (lineQ s.1 q)) 3 ∧ FreshS H3 s.2.2 ∧ Ext H3 H4) (fun s => k - s.1) (0, M, .nslice) rfl (fun _ => rfl) ⟨rfl, rfl, rfl, trivial⟩ ⟨Nat.zero_le _, fun _ => hlef0, ⟨Or.inl ⟨rfl, rfl, rfl⟩⟩, ⟨fun _ _ _ _ _ e => by cases e⟩, Ext.refl _⟩ (by unfold fuel0 at hn; dsimp only; omega) ?_
 rintro ⟨x, M', op⟩ g3 H4 ⟨hx, hM', ho, hf, hx4⟩
 dsimp only at hx hM' ho hf
 haveI : ExtI H3 H4 := ⟨hx4⟩
 haveI := ho.sl.one
 simp only [↓nrmL, nrmZ, qe, ↓reduceIte, qa, ze, zn]
 cases hcx : decide ((x : Int) < (k : Int))
 ·have hxe : x = k := by have := of_decide_eq_false hcx; omega
  subst hxe
  repeat first | refine mI ?_ | refine mB ?_ | refine mv ?_ | refine fd ?_ | refine Fo.ld rfl rfl ?_ | refine bn rfl rfl rfl (by simp only [hcx]; rfl) ?_ | refine nl hKF ?_ | refine sq ?_ | refine rg fun KF hKF => ?_ | refine cf rfl ?_ | refine rt ?_ | refine xi ?_ | dsimp only
  refine rz trivial ?_
  exact ⟨(hx0.trans hx2).trans hx4, Or.inr ⟨hM19, op, y0, rfl, hy0, hy1, hy2, by rw [hq]; exact ho, hf.weak⟩⟩
 have hxl : x < k := by have := of_decide_eq_true hcx; omega
 obtain ⟨f1, f2, f3, f4, f5⟩ := hfirst x hxl
 have hMe := hM' hxl
 have hwx := wa1 (a := x) (by omega)
 obtain ⟨r, d1, d2, d3⟩ := hc.it x hxl (by omega)
 obtain ⟨c', hc'⟩ : ∃ c : Nat → Int, restF (priF P y) k y (k - 1 - x) = c := ⟨_, rfl⟩
 rw [hc'] at f2 f4
 have hcb : ∀ z, 0 ≤ c' z ∧ c' z ≤ 3840 := fun z => by rw [← hc']; exact ⟨rest_pos (hP.pos y) _ _, rest_max (hP.pos y) _ _⟩
 have hMr : c' (q x) + chB q x (q x) = M' := by rw [hMe, ← hc']; rfl
 have hpq : priF P y x (q x) = prB l (q x * k + x) := by
  rcases hF.or hxl f1 with e | e
  ·exfalso
   have h1 := hcb (q x)
   rw [← hc'] at f2
   cases hd : k - 1 - x with
   | zero => rw [hd] at f2; simp only [restF] at f2; rw [show k - 1 = x by omega, e] at f2; omega
   | succ d =>
    rw [hd] at f2; simp only [restF] at f2
    rw [show k - 1 - (d + 1) = x by omega, e] at f2
    have := nxTo_pos (y := q x) (lo := loB (q x)) (rest_pos (hP.pos y) (w := k) (h := y) d) (hiB y (q x) + 1 - loB (q x))
    unfold nxF at f2; omega
  ·exact e
 have hbq := prB_bd l (q x * k + x)
 have hchq := chB_bd q x (q x)
 haveI hpx : ∀ (H : AHeap) [BytesI H p l], PureCon ext prog 92 [.agg [.int .i64 (k : Int), .int .i64 (y : Int), p], .int .i64 (x : Int), .int .i64 (q x : Int)] H 2 (.int .i64 (prB l (q x * k + x))) := fun H hb => ⟨K_pixel hb ok hxl f1⟩
 haveI d24 : HasRow H4 r (cellsI (nvL P k y (k - 1 - x))) true (2 * 3) := inferInstance
 haveI := row_ints d24 (hnl _)
 haveI hsl4 : SliceAt H4 (.slice H0.n 0 k (some k) 1) 1 k cells := inferInstance
 haveI : BytesI H4 p l := inferInstance
 haveI : HasRow H4 H.n [.int .i64 (k : Int), .int .i64 (y : Int), p] true (2 * 24) := inferInstance
 have hap : cellsI (lineQ x q) ++ [.int .i64 (q x : Int)] = cellsI (lineQ (x + 1) q) := by simp [lineQ, List.range_succ, cellsI]
 have hlq := lineQ_len x q
 haveI hoi : IntsI H4 op (lineQ x q) := by have := ho.sl; unfold IntsI; rw [hlq]; exact this
 repeat first | refine mI ?_ | refine fd ?_ | refine Fo.ld rfl rfl ?_ | refine bn rfl rfl rfl (by simp only [hcx]; rfl) ?_ | refine nl hKF ?_ | refine sq ?_ | refine rg fun KF hKF => ?_ | refine ct rfl ?_ | refine sk ?_ | refine Wp.block ?_ | dsimp only
 refine Wp.loopS [11, 12, 14, 15, 16, 68, 69, 70, 71, 72, 73, 74, 75, 76, 77, 78, 79, 80, 81, 82, 83, 84, 85, 86, 87, 88, 89, 90, 91, 92, 93, 94, 95, 96, 97, 98, 99, 100, 101, 102, 103, 104, 105, 106, 107, 108, 109, 110, 111, 112, 113, 114, 115, 116, 117, 118, 119, 120, 121, 122, 123] (fun z : Nat => [(14, .int .i64 (z : Int)), (12, .int .i64 M'), (11, op)]) (fun K0 z H5 => z ≤ q x ∧ H5 = K0) (fun z => q x + 1 - z) 0 rfl (fun _ => rfl) ⟨rfl, rfl, rfl, trivial⟩ ⟨Nat.zero_le _, rfl⟩ (by unfold fuel0 at hn; omega) ?_
 rintro z g4 H5 ⟨hz, rfl⟩
 have hzl : z < y := by omega
 have hcz : decide ((z : Int) < (y : Int)) = true := decide_eq_true (by omega)
 have hwz := wa1 (a := z) (by omega)
 have hzn : z < (nvL P k y (k - 1 - x)).length := by rw [hnl]; omega
 have gz : (nvL P k y (k - 1 - x))[z] = nv (c' z) := by rw [← getD_at hzn, nvL_at hzl, hc']
 simp only [↓nrmL, nrmZ, qe, ↓reduceIte, qa, ze, zn]
 refine sq ?_
 refine sq ?_
 refine Fr.region fun KF hK1 => ?_
 refine mI ?_
 refine fd ?_
 refine Fo.ld rfl rfl ?_
 refine bn rfl rfl rfl (by simp only [hcz]; rfl) ?_
 refine WpO.nil (hK1 _ _ ?_)
 refine Wp.cond (b := true) rfl ?_
 refine sk ?_
 refine sq ?_
 refine Wp.block ?_
 refine sq ?_
 refine Fr.region fun KF hK2 => ?_
 refine mI ?_
 refine WpO.nil (hK2 _ _ ?_)
 refine Wp.seqE (σ := Int) (fun ch => [(2, .ptr H.n 0), (6, .slice H0.n 0 k (some k) 1), (11, op), (12, .int .i64 M'), (13, .int .i64 (x : Int)), (14, .int .i64 (z : Int)), (15, .int .i64 ch)]) (fun ch H' => H' = H5 ∧ ch = chB q x z ∧ (0 < x → q (x - 1) ≤ z + 1)) ?_ ?_
 rotate_left
 ·by_cases hx00 : x = 0
  ·have hd0 : decide ((x : Int) > 0) = false := decide_eq_false (by omega)
   simp only [hd0]
   refine sq ?_
   refine rg fun KF hKF => ?_
   refine mI ?_
   refine bn rfl rfl rfl (by simp only [hd0]; rfl) ?_
   refine nl hKF ?_
   refine cf rfl ?_
   refine sk ?_
   dsimp only
   exact ⟨0, ⟨rfl, rfl, rfl, rfl, rfl, rfl, rfl, trivial⟩, rfl, by unfold chB; rw [if_neg (by omega)], fun e => by omega⟩
  have hd0 : decide ((x : Int) > 0) = true := decide_eq_true (by omega)
  obtain ⟨x0, hx0e⟩ : ∃ x0, x - 1 = x0 := ⟨_, rfl⟩
  have hsx : IntKind.i64.wrap ((x : Int) - 1) = (x0 : Int) := by rw [w64 (by omega)]; omega
  have hx0l : x0 < (lineQ x q).length := by omega
  have gx0 : (lineQ x q)[x0] = (q x0 : Int) := by rw [← getD_at hx0l]; exact lineQ_at (by omega)
  have hqx0 : q x0 ≤ q x + 1 ∧ q x ≤ q x0 + 1 := by have := f3 (by omega); rw [hx0e] at this; exact this
  have hd : IntKind.i64.wrap ((z : Int) - (q x0 : Int)) = (z : Int) - (q x0 : Int) := w64 (by omega)
  have hchz : chB q x z = chg (q x0) z := by unfold chB; rw [if_pos (by omega), hx0e]
  rw [hx0e]
  by_cases hlow : z + 1 < q x0
  ·have hdl : decide ((z : Int) - (q x0 : Int) < -1) = true := decide_eq_true (by omega)
   simp only [hd0, hsx, gx0, hd, hdl, hwz]
   repeat first | refine ox ?_ | refine mI ?_ | refine mB ?_ | refine mv ?_ | refine bn rfl rfl rfl (by simp only [hd0, hsx, gx0, hd, hdl, hwz]; rfl) ?_ | refine tB ?_ | (refine Fo.idx (by simp only [↓nrmL, nrmK, qe, ↓reduceIte]; rfl) rfl ?_ (by simp only [↓nrmL, nrmZ, qe, ↓reduceIte, qa, ze, zn, hd0, hsx, gx0, hd, hdl, hwz]; rfl) ?_; (focus omega)) | (refine Fo.ldI rfl ?_ (by simp only [hd0, hsx, gx0, hd, hdl, hwz]; rfl) ?_; (focus omega)) | refine nl hKF ?_ | refine sq ?_ | refine rg fun KF hKF => ?_ | refine ct rfl ?_ | refine xi ?_ | dsimp only
   exact ⟨z + 1, by omega, ⟨rfl, rfl, rfl, trivial⟩, by omega, rfl⟩
  have hdl : decide ((z : Int) - (q x0 : Int) < -1) = false := decide_eq_false (by omega)
  have hdh : decide ((z : Int) - (q x0 : Int) > 1) = false := decide_eq_false (by omega)
  by_cases hze : z = q x0
  ·have hne : (((z : Int) - (q x0 : Int)) != 0) = false := by rw [hze]; simp
   simp only [hd0, hsx, gx0, hd, hdl, hdh, hne]
   repeat first | refine oy ?_ | refine mI ?_ | refine mB ?_ | refine mv ?_ | refine bn rfl rfl rfl (by simp only [hd0, hsx, gx0, hd, hdl, hdh, hne]; rfl) ?_ | refine fB ?_ | (refine Fo.idx (by simp only [↓nrmL, nrmK, qe, ↓reduceIte]; rfl) rfl ?_ (by simp only [↓nrmL, nrmZ, qe, ↓reduceIte, qa, ze, zn, hd0, hsx, gx0, hd, hdl, hdh, hne]; rfl) ?_; (focus omega)) | (refine Fo.ldI rfl ?_ (by simp only [hd0, hsx, gx0, hd, hdl, hdh, hne]; rfl) ?_; (focus omega)) | refine nl hKF ?_ | refine sq ?_ | refine rg fun KF hKF => ?_ | refine ct rfl ?_ | refine cf rfl ?_ | refine sk ?_ | dsimp only
   exact ⟨0, ⟨rfl, rfl, rfl, rfl, rfl, rfl, rfl, trivial⟩, rfl, by rw [hchz]; unfold chg; rw [if_pos hze.symm], fun _ => by omega⟩
  ·have hne : (((z : Int) - (q x0 : Int)) != 0) = true := by simp; omega
   simp only [hd0, hsx, gx0, hd, hdl, hdh, hne]
   repeat first | refine oy ?_ | refine mI ?_ | refine mB ?_ | refine mv ?_ | refine bn rfl rfl rfl (by simp only [hd0, hsx, gx0, hd, hdl, hdh, hne]; rfl) ?_ | refine fB ?_ | (refine Fo.idx (by simp only [↓nrmL, nrmK, qe, ↓reduceIte]; rfl) rfl ?_ (by simp only [↓nrmL, nrmZ, qe, ↓reduceIte, qa, ze, zn, hd0, hsx, gx0, hd, hdl, hdh, hne]; rfl) ?_; (focus omega)) | (refine Fo.ldI rfl ?_ (by simp only [hd0, hsx, gx0, hd, hdl, hdh, hne]; rfl) ?_; (focus omega)) | refine nl hKF ?_ | refine sq ?_ | refine rg fun KF hKF => ?_ | refine ct rfl ?_ | refine cf rfl ?_ | refine sk ?_ | dsimp only
   exact ⟨1, ⟨rfl, rfl, rfl, rfl, rfl, rfl, rfl, trivial⟩, rfl, by rw [hchz]; unfold chg; rw [if_neg (fun e => hze e.symm)], fun _ => by omega⟩
 rintro ch g5 H' ⟨rfl, hch, hnear⟩
 have hchb := chB_bd q x z
 rw [← hch] at hchb
 have hnev := nv_never (hcb z).2 (hcb z).1
 simp only [↓nrmL, nrmZ, qe, ↓reduceIte, qa, ze, zn]
 cases h19 : decide (1920 ≤ c' z)
 rotate_left
 ·rw [h19] at hnev
  have h19' := of_decide_eq_true h19
  have hne2 : (nv (c' z) != 1000000000) = false := by simp only [bne, hnev, Bool.not_true]
  have hzq : z ≠ q x := fun e => by rw [e] at h19'; omega
  refine sq ?_
  refine rg fun KF hKF => ?_
  refine mv ?_
  refine mI ?_
  refine Fo.idx (by simp only [↓nrmL, nrmK, qe, ↓reduceIte]; rfl) rfl ?_ (by simp only [↓nrmL, nrmZ, qe, ↓reduceIte, qa, ze, zn]; rfl) ?_; (focus omega)
  refine Fo.now rfl (exec_ldP (p := .slice H0.n 0 k (some k) 1) (j := x) rfl d1) rfl ?_
  repeat first | refine ox ?_ | refine mI ?_ | refine mB ?_ | refine bn rfl rfl rfl (by simp only [gz, hne2, hwz]; rfl) ?_ | refine fB ?_ | (refine Fo.idx (by simp only [↓nrmL, nrmK, qe, ↓reduceIte]; rfl) rfl ?_ (by simp only [↓nrmL, nrmZ, qe, ↓reduceIte, qa, ze, zn, gz, hne2, hwz]; rfl) ?_; (focus omega)) | (refine Fo.ldI rfl ?_ (by simp only [gz, hne2, hwz]; rfl) ?_; (focus omega)) | refine nl hKF ?_ | refine rg fun KF hKF => ?_ | refine cf rfl ?_ | refine sk ?_ | dsimp only
  exact ⟨z + 1, by omega, ⟨rfl, rfl, rfl, trivial⟩, by omega, rfl⟩
 have h19' : c' z < 1920 := by have := of_decide_eq_false h19; omega
 rw [h19] at hnev
 have hnvz : nv (c' z) = c' z := by unfold nv; rw [if_pos h19']
 rw [hnvz] at hnev gz
 have hne2 : (c' z != 1000000000) = true := by simp only [bne, hnev, Bool.not_false]
 have hcz0 := (hcb z).1
 have hwc : IntKind.i64.wrap (c' z + ch) = c' z + ch := w64 (by omega)
 by_cases hzq : z = q x
 rotate_left
 ·have hneq : ((c' z + ch) == M') = false := by
   have := f4 z (by omega) hnear
   rw [← hMe, ← hch] at this
   simpa using this
  refine sq ?_
  refine rg fun KF hKF => ?_
  refine mv ?_
  refine mI ?_
  refine Fo.idx (by simp only [↓nrmL, nrmK, qe, ↓reduceIte]; rfl) rfl ?_ (by simp only [↓nrmL, nrmZ, qe, ↓reduceIte, qa, ze, zn]; rfl) ?_; (focus omega)
  refine Fo.now rfl (exec_ldP (p := .slice H0.n 0 k (some k) 1) (j := x) rfl d1) rfl ?_
  repeat first | refine oy ?_ | refine mI ?_ | refine mB ?_ | refine mv ?_ | refine bn rfl rfl rfl (by simp only [gz, hne2]; rfl) ?_ | (refine Fo.idx (by simp only [↓nrmL, nrmK, qe, ↓reduceIte]; rfl) rfl ?_ (by simp only [↓nrmL, nrmZ, qe, ↓reduceIte, qa, ze, zn, gz, hne2]; rfl) ?_; (focus omega)) | (refine Fo.ldI rfl ?_ (by simp only [gz, hne2]; rfl) ?_; (focus omega))
  refine Fo.now rfl (exec_ldP (p := .slice H0.n 0 k (some k) 1) (j := x) rfl d1) rfl ?_
  repeat first | refine oy ?_ | refine mI ?_ | refine bn rfl rfl rfl (by simp only [gz, hwc, hneq, hwz]; rfl) ?_ | refine tB ?_ | (refine Fo.idx (by simp only [↓nrmL, nrmK, qe, ↓reduceIte]; rfl) rfl ?_ (by simp only [↓nrmL, nrmZ, qe, ↓reduceIte, qa, ze, zn, gz, hwc, hneq, hwz]; rfl) ?_; (focus omega)) | (refine Fo.ldI rfl ?_ (by simp only [gz, hwc, hneq, hwz]; rfl) ?_; (focus omega)) | refine nl hKF ?_ | refine rg fun KF hKF => ?_ | refine cf rfl ?_ | refine sk ?_ | dsimp only
  exact ⟨z + 1, by omega, ⟨rfl, rfl, rfl, trivial⟩, by omega, rfl⟩
 subst hzq
 rw [← hch] at hMr hchq
 have heq : ((c' (q x) + ch) == M') = true := by rw [hMr]; simp
 have hw1 : IntKind.i64.wrap (M' - ch) = M' - ch := w64 (by omega)
 have hw2 : IntKind.i64.wrap (M' - ch - prB l (q x * k + x)) = M' - ch - prB l (q x * k + x) := w64 (by omega)
 haveI := ho
 refine sq ?_
 refine rg fun KF hKF => ?_
 refine mv ?_
 refine mI ?_
 refine Fo.idx (by simp only [↓nrmL, nrmK, qe, ↓reduceIte]; rfl) rfl ?_ (by simp only [↓nrmL, nrmZ, qe, ↓reduceIte, qa, ze, zn]; rfl) ?_; (focus omega)
 refine Fo.now rfl (exec_ldP (p := .slice H0.n 0 k (some k) 1) (j := x) rfl d1) rfl ?_
 repeat first | refine oy ?_ | refine mI ?_ | refine mB ?_ | refine mv ?_ | refine bn rfl rfl rfl (by simp only [gz, hne2]; rfl) ?_ | (refine Fo.idx (by simp only [↓nrmL, nrmK, qe, ↓reduceIte]; rfl) rfl ?_ (by simp only [↓nrmL, nrmZ, qe, ↓reduceIte, qa, ze, zn, gz, hne2]; rfl) ?_; (focus omega)) | (refine Fo.ldI rfl ?_ (by simp only [gz, hne2]; rfl) ?_; (focus omega))
 refine Fo.now rfl (exec_ldP (p := .slice H0.n 0 k (some k) 1) (j := x) rfl d1) rfl ?_
 repeat first | refine oy ?_ | refine mI ?_ | refine mv ?_ | refine bn rfl rfl rfl (by simp only [gz, hwc, heq]; rfl) ?_ | refine tB ?_ | refine Fo.bslice rfl (by simp only [↓nrmL, nrmZ, qe, ↓reduceIte, qa, ze, zn, gz, hwc, heq]; rfl) ?_ | (refine Fo.idx (by simp only [↓nrmL, nrmK, qe, ↓reduceIte]; rfl) rfl ?_ (by simp only [↓nrmL, nrmZ, qe, ↓reduceIte, qa, ze, zn, gz, hwc, heq]; rfl) ?_; (focus omega)) | (refine Fo.ldI rfl ?_ (by simp only [gz, hwc, heq]; rfl) ?_; (focus omega)) | refine nl hKF ?_ | refine sq ?_ | refine rg fun KF hKF => ?_ | refine ct rfl ?_
 refine WpO.do (WpX.growX (p := op) (q := .slice H'.n 0 1 (some 1) 1) (k := 1) (new := [.int .i64 (q x : Int)]) rfl rfl (by infer_instance) (row_one1 (inferInstance : HasRow _ H'.n [.int .i64 (q x : Int)] true (2 * 3))) (by decide) (by decide) (by decide) (by omega) rfl fun op' H9 ho2 hf2 hx9 => ?_)
 rw [hap] at ho2
 haveI := ho2.sl.one
 haveI := hx9
 haveI hop0 : RowNe op H.n := ⟨fun r _ _ _ _ e => by have := hf.ge _ _ _ _ _ e; have := k1.lt; have := hx2.n; omega⟩
 have h4n := hx4.n
 have h9n := hx9.n
 simp only [AHeap.push] at h9n
 have hx39 : Ext H3 H9 := ⟨by omega, fun s hs => by rw [hx9.get s (by simp only [AHeap.push]; omega) ⟨fun r' _ _ _ _ e => by have := hf.ge _ _ _ _ _ e; omega⟩, push_get_lt (by omega), hx4.get s hs]⟩
 haveI : ExtI H3 H9 := ⟨hx39⟩
 haveI : BytesI H9 p l := inferInstance
 repeat first | refine mI ?_ | refine mv ?_ | refine Fo.ldN rfl rfl (by simp only [↓nrmL, nrmZ, qe, ↓reduceIte, qa, ze, zn, hw1, hw2, hwx]; rfl) ?_ | refine bn rfl rfl rfl (by simp only [hw1, hw2, hwx]; rfl) ?_ | (refine Fo.pcall (v' := ?_) hn rfl (by simp only [↓nrmL, nrmZ, qe, ↓reduceIte, qa, ze, zn, hw1, hw2, hwx, List.map]; rfl) rfl ?hv fun _ _ => ?_; case hv => rfl) | refine nl hKF ?_ | refine sq ?_ | refine rg fun KF hKF => ?_ | refine xi ?_ | dsimp only
 rename AHeap => H10
 refine ⟨(x + 1, M' - ch - prB l (q x * k + x), op'), by dsimp only; omega, ⟨rfl, rfl, rfl, trivial⟩, by dsimp only; omega, fun e => ?_, inferInstance, ⟨fun r _ _ _ _ e => by have := hf2.ge _ _ _ _ _ e; simp only [AHeap.push] at this; omega⟩, Ext0.ext⟩
 dsimp only at e ⊢
 have := f5 e
 rw [← hMe, ← hch, hpq] at this
 exact this
end Go.Am

namespace Go.Am
open Go
structure TrS (l : List UInt8) (w h : Nat) (os : List (Nat → Nat)) : Prop where
  it : ∃ qs P, TrR l w h qs P ∧ (60 ≤ qs.length ∨ (w : Int) < 8 * leastP P w h) ∧ (∀ q, q ∈ os ↔ q ∈ qs) ∧ os.Pairwise (fun a b => a 0 < b 0)
theorem TrD.trs {l : List UInt8} {w h : Nat} {os : List (Nat → Nat)} (hD : TrD l w h os) : TrS l w h os := by
  obtain ⟨qs, P, a1, a2, a3, a4, a5, a6⟩ := hD.it
  refine ⟨qs, P, a1, a2, fun q => ⟨fun hq => ?_, fun hq => ?_⟩, List.pairwise_iff_getElem.2 fun i j hi hj hij => a6 i j hi hj hij⟩
  · obtain ⟨i, hi, rfl⟩ := List.mem_iff_getElem.1 hq
    obtain ⟨j, hj, e⟩ := a4 i hi
    rw [e]; exact List.getElem_mem hj
  · obtain ⟨j, hj, rfl⟩ := List.mem_iff_getElem.1 hq
    obtain ⟨i, hi, e⟩ := a5 j hj
    rw [← e]; exact List.getElem_mem hi
theorem TrR.uniq {l : List UInt8} {w h : Nat} {qs qs' : List (Nat → Nat)} {P P' : List Int} (h1 : TrR l w h qs P) (h2 : TrR l w h qs' P') (e : qs.length = qs'.length) : qs = qs' ∧ P = P' := by
  induction h1 generalizing qs' P' with
  | nil =>
    cases h2 with
    | nil => exact ⟨rfl, rfl⟩
    | snoc => simp at e
  | @snoc qs P y0 h0 a1 a2 a3 a4 a5 ih =>
    cases h2 with
    | nil => simp at e
    | @snoc qs2 P2 y2 h02 b1 b2 b3 b4 b5 =>
      obtain ⟨rfl, rfl⟩ := ih h02 (by simpa using e)
      have : y0 = y2 := by
        rcases Nat.lt_trichotomy y0 y2 with c | c | c
        · exact absurd a4 (b5 y0 c)
        · exact c
        · exact absurd b4 (a5 y2 c)
      subst this
      exact ⟨rfl, rfl⟩
theorem TrR.take {l : List UInt8} {w h : Nat} {qs : List (Nat → Nat)} {P : List Int} (h1 : TrR l w h qs P) : ∀ m, m < qs.length → ∃ P2, TrR l w h (qs.take m) P2 ∧ m < 60 ∧ 8 * leastP P2 w h ≤ (w : Int) := by
  induction h1 with
  | nil => intro m hm; cases hm
  | @snoc qs P y0 h0 a1 a2 a3 a4 a5 ih =>
    intro m hm
    by_cases e : m = qs.length
    · subst e
      refine ⟨P, ?_, a1, a2⟩
      rw [List.take_left']
      · exact h0
      · rfl
    · obtain ⟨P2, c1, c2, c3⟩ := ih m (by simp at hm; omega)
      refine ⟨P2, ?_, c2, c3⟩
      rw [List.take_append_of_le_length (by simp at hm; omega)]
      exact c1
theorem TrR.ends {l : List UInt8} {w h : Nat} {qs qs' : List (Nat → Nat)} {P P' : List Int} (h1 : TrR l w h qs P) (h2 : TrR l w h qs' P') (e1 : 60 ≤ qs.length ∨ (w : Int) < 8 * leastP P w h) (e2 : 60 ≤ qs'.length ∨ (w : Int) < 8 * leastP P' w h) : qs = qs' := by
  have key : ∀ {qs qs' : List (Nat → Nat)} {P P' : List Int}, TrR l w h qs P → TrR l w h qs' P' → (60 ≤ qs.length ∨ (w : Int) < 8 * leastP P w h) → ¬ qs.length < qs'.length := fun {qs qs' P P'} h1 h2 e hlt => by
    obtain ⟨P2, c1, c2, c3⟩ := h2.take qs.length hlt
    obtain ⟨_, rfl⟩ := h1.uniq c1 (by rw [List.length_take]; omega)
    omega
  have k1 := key h1 h2 e1
  have k2 := key h2 h1 e2
  exact (h1.uniq h2 (by omega)).1
theorem srt_eq : ∀ (A B : List (Nat → Nat)), A.Pairwise (fun a b => a 0 < b 0) → B.Pairwise (fun a b => a 0 < b 0) → (∀ q, q ∈ A ↔ q ∈ B) → A = B
  | [], [], _, _, _ => rfl
  | [], b :: B, _, _, h => by have := (h b).2 (List.mem_cons_self ..); cases this
  | a :: A, [], _, _, h => by have := (h a).1 (List.mem_cons_self ..); cases this
  | a :: A, b :: B, hA, hB, h => by
    obtain ⟨a1, a2⟩ := List.pairwise_cons.1 hA
    obtain ⟨b1, b2⟩ := List.pairwise_cons.1 hB
    have hab : a = b := by
      rcases List.mem_cons.1 ((h a).1 (List.mem_cons_self ..)) with e | e
      · exact e
      · rcases List.mem_cons.1 ((h b).2 (List.mem_cons_self ..)) with e2 | e2
        · exact e2.symm
        · have := b1 a e; have := a1 b e2; omega
    subst hab
    rw [srt_eq A B a2 b2 fun q => ⟨fun hq => ?_, fun hq => ?_⟩]
    · rcases List.mem_cons.1 ((h q).1 (List.mem_cons_of_mem _ hq)) with e | e
      · subst e; have := a1 q hq; omega
      · exact e
    · rcases List.mem_cons.1 ((h q).2 (List.mem_cons_of_mem _ hq)) with e | e
      · subst e; have := b1 q hq; omega
      · exact e
theorem TrS.uniq {l : List UInt8} {w h : Nat} {os os' : List (Nat → Nat)} (h1 : TrS l w h os) (h2 : TrS l w h os') : os = os' := by
  obtain ⟨qs, P, a1, a2, a3, a4⟩ := h1.it
  obtain ⟨qs', P', b1, b2, b3, b4⟩ := h2.it
  obtain rfl := a1.ends b1 a2 b2
  exact srt_eq os os' a4 b4 fun q => by rw [a3, b3]
structure FbS (fb fb' : List UInt8) (q : Nat → Nat) (w h x y : Nat) : Prop where
  len : fb'.length = w * h
  px : pxOk fb' = true
  done : ∀ x' y', x' < w → y' < h → (x' < x ∨ (x' = x ∧ y' < y)) → near q x' y' → fb'.getD (y' * w + x') 0 = 1
  other : ∀ x' y', x' < w → y' < h → ¬ ((x' < x ∨ (x' = x ∧ y' < y)) ∧ near q x' y') → fb'.getD (y' * w + x') 0 = fb.getD (y' * w + x') 0
theorem FbS.start {fb : List UInt8} {q : Nat → Nat} {w h : Nat} (hl : fb.length = w * h) (hp : pxOk fb = true) : FbS fb fb q w h 0 0 := ⟨hl, hp, fun x' y' _ _ h _ => by omega, fun _ _ _ _ _ => rfl⟩
theorem FbS.col {fb fb' : List UInt8} {q : Nat → Nat} {w h x : Nat} (s : FbS fb fb' q w h x h) : FbS fb fb' q w h (x + 1) 0 := ⟨s.len, s.px, fun x' y' hx hy hd hn => s.done x' y' hx hy (by omega) hn, fun x' y' hx hy hd => s.other x' y' hx hy fun ⟨h1, h2⟩ => hd ⟨by omega, h2⟩⟩
theorem FbS.skip {fb fb' : List UInt8} {q : Nat → Nat} {w h x y : Nat} (s : FbS fb fb' q w h x y) (hn : ¬ near q x y) : FbS fb fb' q w h x (y + 1) := ⟨s.len, s.px, fun x' y' hx hy hd hn' => s.done x' y' hx hy (by
    by_cases e : x' = x ∧ y' = y
    · obtain ⟨rfl, rfl⟩ := e; exact absurd hn' hn
    · omega) hn', fun x' y' hx hy hd => s.other x' y' hx hy fun ⟨h1, h2⟩ => hd ⟨by omega, h2⟩⟩
theorem cell_ne {w x y x' y' : Nat} (hx : x < w) (hx' : x' < w) (h : ¬ (x' = x ∧ y' = y)) : y * w + x ≠ y' * w + x' := fun e => by
  have h1 : (y * w + x) % w = x := by rw [Nat.mul_comm, Nat.mul_add_mod, Nat.mod_eq_of_lt hx]
  have h2 : (y' * w + x') % w = x' := by rw [Nat.mul_comm, Nat.mul_add_mod, Nat.mod_eq_of_lt hx']
  have h3 : x = x' := by rw [← h1, ← h2, e]
  subst h3
  have h4 : y * w = y' * w := by omega
  have h5 : y = y' := Nat.eq_of_mul_eq_mul_right (by omega) h4
  exact h ⟨rfl, h5.symm⟩
theorem FbS.set {fb fb' : List UInt8} {q : Nat → Nat} {w h x y : Nat} (s : FbS fb fb' q w h x y) (hx : x < w) (hy : y < h) : near q x y → FbS fb (fb'.set (y * w + x) 1) q w h x (y + 1) := fun hn => by
  have hlt : y * w + x < fb'.length := by rw [s.len]; exact idx_lt hx hy
  have hne : ∀ x' y', x' < w → ¬ (x' = x ∧ y' = y) → (fb'.set (y * w + x) 1).getD (y' * w + x') 0 = fb'.getD (y' * w + x') 0 := fun x' y' hx' he => by
    rw [List.getD_eq_getElem?_getD, List.getD_eq_getElem?_getD, List.getElem?_set_ne (cell_ne hx hx' he)]
  refine ⟨by rw [List.length_set]; exact s.len, pxOk_set s.px (Or.inr rfl), fun x' y' hx' hy' hd hn' => ?_, fun x' y' hx' hy' hd => ?_⟩
  · by_cases e : x' = x ∧ y' = y
    · obtain ⟨rfl, rfl⟩ := e
      rw [List.getD_eq_getElem?_getD, List.getElem?_set_self hlt]; rfl
    · rw [hne x' y' hx' e]
      exact s.done x' y' hx' hy' (by omega) hn'
  · by_cases e : x' = x ∧ y' = y
    · obtain ⟨rfl, rfl⟩ := e
      exact absurd ⟨Or.inr ⟨rfl, by omega⟩, hn⟩ hd
    · rw [hne x' y' hx' e]
      exact s.other x' y' hx' hy' fun ⟨h1, h2⟩ => hd ⟨by omega, h2⟩
theorem FbS.fin {l fb fb' : List UInt8} {P : List Int} {q : Nat → Nat} {w h : Nat} (s : FbS fb fb' q w h w 0) (hF : FbR l fb P w h) : FbR l fb' (forA P q w h) w h := by
  refine ⟨fun x y hx hy e => ?_, fun x y hx hy e => ?_⟩
  · rw [forA_at hx hy]
    by_cases hn : q x ≤ y + 2 ∧ y ≤ q x + 2
    · rw [if_pos hn]
    · rw [if_neg hn]
      exact hF.yes x y hx hy (by rw [← s.other x y hx hy fun h => hn h.2]; exact e)
  · rw [forA_at hx hy]
    by_cases hn : q x ≤ y + 2 ∧ y ≤ q x + 2
    · exact absurd (s.done x y hx hy (Or.inl hx) hn) e
    · rw [if_neg hn]
      exact hF.no x y hx hy (by rw [← s.other x y hx hy fun h => hn h.2]; exact e)
theorem FbR.start {l : List UInt8} {w h : Nat} : FbR l (List.replicate (w * h) 0) (surL l w h) w h := by
  have e0 : ∀ i, (List.replicate (w * h) (0 : UInt8)).getD i 0 = 0 := fun i => by
    rw [List.getD_eq_getElem?_getD, List.getElem?_replicate]; split <;> rfl
  exact ⟨fun x y hx hy e => (by rw [e0] at e; cases e), fun x y hx hy _ => surL_at hx hy⟩
structure BkS (qs os : List (Nat → Nat)) (y i : Nat) : Prop where
  srt : os.Pairwise (fun a b => a 0 < b 0)
  from' : ∀ q, q ∈ os → q ∈ qs ∧ (q 0 < y ∨ q 0 = y)
  all : ∀ j (hj : j < qs.length), qs[j] 0 < y ∨ (qs[j] 0 = y ∧ j < i) → qs[j] ∈ os
  few : ∀ q, q ∈ os → q 0 = y → ∃ j, ∃ (hj : j < qs.length), j < i ∧ q = qs[j]
theorem BkS.start (qs : List (Nat → Nat)) : BkS qs [] 0 0 := ⟨List.Pairwise.nil, fun q h => (by cases h), fun j _ h => (by omega), fun q h => (by cases h)⟩
theorem BkS.row {qs os : List (Nat → Nat)} {y : Nat} (b : BkS qs os y qs.length) : BkS qs os (y + 1) 0 := ⟨b.srt, fun q hq => by have := b.from' q hq; exact ⟨this.1, by omega⟩, fun j hj h => b.all j hj (by omega), fun q hq e => by have := (b.from' q hq).2; omega⟩
theorem BkS.skip {qs os : List (Nat → Nat)} {y i : Nat} (b : BkS qs os y i) (hi : i < qs.length) (hn : qs[i] 0 ≠ y) : BkS qs os y (i + 1) := ⟨b.srt, b.from', fun j hj h => b.all j hj (by
    by_cases e : j = i
    · subst e; omega
    · omega), fun q hq e => by obtain ⟨j, hj, h1, h2⟩ := b.few q hq e; exact ⟨j, hj, by omega, h2⟩⟩
theorem BkS.take {qs os : List (Nat → Nat)} {y i : Nat} (b : BkS qs os y i) (hd : ∀ i j (hi : i < qs.length) (hj : j < qs.length), i < j → qs[i] 0 ≠ qs[j] 0) (hi : i < qs.length) (hy : qs[i] 0 = y) : BkS qs (os ++ [qs[i]]) y (i + 1) := by
  refine ⟨List.pairwise_append.2 ⟨b.srt, List.pairwise_singleton _ _, fun a ha c hc => ?_⟩, fun q hq => ?_, fun j hj h => ?_, fun q hq e => ?_⟩
  · obtain rfl := List.mem_singleton.1 hc
    rcases (b.from' a ha).2 with e | e
    · omega
    · obtain ⟨j, hj, h1, h2⟩ := b.few a ha e
      have := hd j i hj hi h1
      rw [← h2] at this; omega
  · rcases List.mem_append.1 hq with e | e
    · exact b.from' q e
    · obtain rfl := List.mem_singleton.1 e
      exact ⟨List.getElem_mem hi, Or.inr hy⟩
  · by_cases e : j = i
    · subst e; exact List.mem_append_right _ (List.mem_singleton.2 rfl)
    · exact List.mem_append_left _ (b.all j hj (by omega))
  · rcases List.mem_append.1 hq with e2 | e2
    · obtain ⟨j, hj, h1, h2⟩ := b.few q e2 e
      exact ⟨j, hj, by omega, h2⟩
    · obtain rfl := List.mem_singleton.1 e2
      exact ⟨i, hi, by omega, rfl⟩
theorem BkS.fin {l : List UInt8} {w h : Nat} {qs os : List (Nat → Nat)} {P : List Int} (b : BkS qs os h 0) (hT : TrR l w h qs P) (hI : TrI l w h qs P) (hw : 0 < w) (hE : 60 ≤ qs.length ∨ (w : Int) < 8 * leastP P w h) : TrS l w h os :=
  ⟨qs, P, hT, hE, fun q => ⟨fun hq => (b.from' q hq).1, fun hq => by
    obtain ⟨j, hj, rfl⟩ := List.mem_iff_getElem.1 hq
    exact b.all j hj (Or.inl ((hI.path j hj).row 0 hw))⟩, b.srt⟩
end Go.Am

namespace Go.Am
open Go
open Nat renaming reduceEqDiff → qe, reduceAdd → qa
open Int renaming reduceBEq → ze, reduceBNe → zn
attribute [local irreducible] Wp WpO WpX WpE
theorem Copied.snoc {B : Nat} {H : AHeap} {cells : List AVal} {ls : List (List Int)} {v : AVal} {m : List Int} (h : Copied B H cells ls ls.length) (hl : cells.length = ls.length) (hv : OwnS H v 1 m.length (cellsI m) 3) (hB : ∀ r off len cap sz, v = .slice r off len cap sz → B ≤ r) : Copied B H (cells ++ [v]) (ls ++ [m]) (ls ++ [m]).length := ⟨fun j h1 h2 => by
 by_cases hj : j < ls.length
 ·obtain ⟨q, a1, a2, a3⟩ := h.it j hj hj
  refine ⟨q, by rw [List.getElem?_append_left (by omega)]; exact a1, ?_, a3⟩
  rw [List.getElem_append_left hj]; exact a2
 ·have hje : j = ls.length := by simp at h1; omega
  subst hje
  refine ⟨v, by rw [List.getElem?_append_right (by omega), hl, Nat.sub_self]; rfl, ?_, hB⟩
  simp only [List.getElem_append_right (Nat.le_refl _), Nat.sub_self, List.getElem_cons_zero]
  exact hv⟩
theorem K_refTraceNone {w h : Nat} {p : AVal} {H : AHeap} {l : List UInt8} [hp : BytesI H p l] (hz : w = 0 ∨ h = 0) : Con ext prog 5 22 [.agg [.int .i64 (w : Int), .int .i64 (h : Int), p]] H fun v H' => v = .nslice ∧ Ext H H' := by
 refine con_of (show prog 22 = some c22 from rfl) rfl rfl fun n hn => ?_
 haveI := hp.one
 by_cases hw : w = 0
 ·have e0 : ((w : Int) == 0) = true := by simp [hw]
  repeat first | refine ox ?_ | refine mB ?_ | refine mN ?_ | refine fd ?_ | refine Fo.ld rfl rfl ?_ | refine bn rfl rfl rfl (by simp only [e0]; rfl) ?_ | refine tB ?_ | refine bA ?_ | refine nl hKF ?_ | refine sq ?_ | refine rg fun KF hKF => ?_ | refine ct rfl ?_ | refine rt ?_ | dsimp only
  refine rz trivial ?_
  exact ⟨rfl, Ext0.ext⟩
 ·have e0 : ((w : Int) == 0) = false := by simp [hw]
  have e1 : ((h : Int) == 0) = true := by simp; omega
  repeat first | refine oy ?_ | refine mB ?_ | refine mN ?_ | refine fd ?_ | refine Fo.ld rfl rfl ?_ | refine bn rfl rfl rfl (by simp only [e0, e1]; rfl) ?_ | refine fB ?_ | refine bA ?_ | refine nl hKF ?_ | refine sq ?_ | refine rg fun KF hKF => ?_ | refine ct rfl ?_ | refine rt ?_ | dsimp only
  refine rz trivial ?_
  exact ⟨rfl, Ext0.ext⟩
theorem K_refTraceOk {w h : Nat} {p : AVal} {H : AHeap} {l : List UInt8} [hp : BytesI H p l] (ok : Ok w h l) (hw0 : 0 < w) (hh0 : 0 < h) : Con ext prog 5 22 [.agg [.int .i64 (w : Int), .int .i64 (h : Int), p]] H fun v H' => ∃ os, LinesI H' v (os.map (lineQ w)) ∧ TrS l w h os ∧ Ext H H' := by
 refine con_of (show prog 22 = some c22 from rfl) rfl rfl fun n hn => ?_
 haveI := hp.one
 have hw := ok.wa
 have hh := ok.hb
 have hm : w * h ≤ 640 * 640 := Nat.mul_le_mul hw hh
 have e0 : ((w : Int) == 0) = false := by simp; omega
 have e1 : ((h : Int) == 0) = false := by simp; omega
 repeat first | refine oy ?_ | refine mB ?_ | refine mN ?_ | refine fd ?_ | refine Fo.ld rfl rfl ?_ | refine bn rfl rfl rfl (by simp only [e0, e1]; rfl) ?_ | refine fB ?_ | refine bA ?_ | refine nl hKF ?_ | refine sq ?_ | refine rg fun KF hKF => ?_ | refine cf rfl ?_ | refine sk ?_
 refine WpO.do (WpX.conD hn rfl rfl (by simp only [↓nrmL, nrmZ, qe, ↓reduceIte, qa, ze, zn, List.map] <;> rfl) (K_refNew (w := w) (h := h) hw hh) fun v H1 ⟨fp, e2, hfb1, hff1, hfw1, hx1⟩ => ?_)
 subst e2
 dsimp only at hfb1 ⊢
 haveI : ExtI _ H1 := ⟨hx1⟩
 haveI := hfb1
 haveI := hfw1
 haveI := hfb1.one
 have hff := hff1.ge
 have hfl1 : ∀ r off len cap sz, fp = .slice r off len cap sz → r < H1.n := fun r off len cap sz e => hfb1.lt e
 have n1 := hx1.n
 simp only [AHeap.push] at hff n1
 have hK9 := hKF
 clear hKF
 refine nw ?_
 refine so rfl (rfl : _ = AVal.agg _) rfl rfl rfl (by simp only [↓nrmL, nrmZ, qe, ↓reduceIte, qa, ze, zn]; rfl) ?_
 refine WpO.nil (hK9 _ _ ?_)
 haveI hfp1 : RowNe fp H1.n := ⟨fun r _ _ _ _ e => by have := hfl1 _ _ _ _ _ e; omega⟩
 obtain ⟨Hs, hHs⟩ : ∃ Hs, (H1.push (.row [.int .i64 0, .int .i64 0, .nslice] true (2 * 24))).set H1.n (.row [.int .i64 (w : Int), .int .i64 (h : Int), fp] true (2 * 24)) = Hs := ⟨_, rfl⟩
 have kb : HasRow Hs H.n [.int .i64 (w : Int), .int .i64 (h : Int), p] true (2 * 24) := by
  rw [← hHs]
  haveI : NeR H.n H1.n := ⟨by omega⟩
  infer_instance
 have kf : HasRow Hs H1.n [.int .i64 (w : Int), .int .i64 (h : Int), fp] true (2 * 24) := by rw [← hHs]; infer_instance
 have hfbs : BytesI Hs fp (List.replicate (w * h) 0) := by rw [← hHs]; infer_instance
 have hfws : WrS Hs fp := by rw [← hHs]; infer_instance
 have ns : Hs.n = H1.n + 1 := by rw [← hHs]; rfl
 have hxs : Ext H Hs := by
  rw [← hHs]
  have h1 : Ext H H1 := Ext0.ext
  exact (h1.trans ((Ext.refl H1).push _)).set (by omega) _
 rw [hHs]
 haveI := kb
 haveI := kf
 haveI : ExtI H Hs := ⟨hxs⟩
 haveI hfpb : RowNe fp H.n := ⟨fun r _ _ _ _ e => by have := hff _ _ _ _ _ e; omega⟩
 have hps : BytesI Hs p l := inferInstance
 have hpfp : SepS p fp := ⟨fun r _ _ _ _ r' _ _ _ _ e e' => by have := hff _ _ _ _ _ e'; have := hp.lt e; omega⟩
 refine Wp.seqE (σ := List (Nat → Nat) × AVal) (fun s => [(1, .ptr H.n 0), (3, s.2)]) (fun s H2 => ∃ P cells, TrR l w h s.1 P ∧ (60 ≤ s.1.length ∨ (w : Int) < 8 * leastP P w h) ∧ OwnS H2 s.2 1 s.1.length cells 25 ∧ Copied Hs.n H2 cells (s.1.map (lineQ w)) (s.1.map (lineQ w)).length ∧ (∀ r off len cap sz, s.2 = .slice r off len cap sz → Hs.n ≤ r) ∧ ExtP Hs H2 fp) ?_ ?_
 rotate_left
 ·skip
  refine Wp.block ?_
  dsimp only
  refine Wp.loopS (σ := List (Nat → Nat) × AVal) [3, 5, 6, 7, 8, 25, 26, 27, 28, 29, 30, 31, 32, 33, 34, 35, 36, 37, 38, 39, 40, 41, 42, 43, 44, 45, 46, 47, 48, 49, 50, 51, 52, 53, 54, 55, 56, 57, 58, 59, 60, 61, 62, 63, 64, 65, 66, 67, 68, 69, 70, 71, 72, 73, 74, 75, 76, 77, 78, 79, 80] (fun s => [(3, s.2)]) (fun _ s H2 => ∃ P fb cells, TrR l w h s.1 P ∧ FbR l fb P w h ∧ Ok w h fb ∧ BytesI H2 fp fb ∧ WrS H2 fp ∧ OwnS H2 s.2 1 s.1.length cells 25 ∧ Copied Hs.n H2 cells (s.1.map (lineQ w)) (s.1.map (lineQ w)).length ∧ (∀ r off len cap sz, s.2 = .slice r off len cap sz → Hs.n ≤ r) ∧ ExtP Hs H2 fp) (fun s => 60 - s.1.length) ([], .nslice) rfl (fun _ => rfl) ⟨rfl, trivial⟩ ⟨surL l w h, List.replicate (w * h) 0, [], TrR.nil, FbR.start, ⟨hw, hh, List.length_replicate, pxOk_rep _⟩, hfbs, hfws, ⟨Or.inl ⟨rfl, rfl, rfl⟩⟩, ⟨fun j h1 h2 => (by cases h2)⟩, fun _ _ _ _ _ e => (by cases e), ExtP.refl _ _⟩ (by unfold fuel0 at hn; dsimp only; omega) ?_
  rintro ⟨qs, op⟩ g H2 ⟨P, fb, cells, hT, hF, okf, hfb, hfw, ho, hC, hge, hx2⟩
  dsimp only at hT ho hC hge
  have hI := tr_inv hw0 hw hh0 hT
  haveI := hx2
  haveI := hfb
  haveI := hfw
  haveI := ho
  haveI := ho.sl
  haveI := ho.sl.one
  have kb2 : HasRow H2 H.n [.int .i64 (w : Int), .int .i64 (h : Int), p] true (2 * 24) := inferInstance
  have kf2 : HasRow H2 H1.n [.int .i64 (w : Int), .int .i64 (h : Int), fp] true (2 * 24) := inferInstance
  have hp2 : BytesI H2 p l := hps.keep hx2.n fun r _ _ _ _ e hr => hx2.get r hr ⟨fun r' _ _ _ _ e' hh => hpfp.ne _ _ _ _ _ _ _ _ _ _ e e' hh.symm⟩
  haveI := kb2
  haveI := kf2
  haveI := hp2
  have n2 := hx2.n
  simp only [↓nrmL, nrmZ, qe, ↓reduceIte, qa, ze, zn]
  by_cases h60 : qs.length = 60
  ·have hc : decide (((qs.length : Nat) : Int) < 60) = false := decide_eq_false (by omega)
   refine sq ?_
   refine sq ?_
   refine rg fun KF hKF => ?_
   refine mv ?_
   refine ln (by simp only [↓nrmL, nrmK, qe, ↓reduceIte]; rfl) ?_
   refine bn rfl rfl rfl (by simp only [hc]; rfl) ?_
   refine nl hKF ?_
   refine cf rfl ?_
   refine xi ?_
   dsimp only
   exact ⟨(qs, op), ⟨rfl, rfl, trivial⟩, P, cells, hT, Or.inl (by dsimp only; omega), ho, hC, hge, hx2⟩
  have h60' : qs.length < 60 := by have := hI.many; omega
  have hc : decide (((qs.length : Nat) : Int) < 60) = true := decide_eq_true (by omega)
  repeat first | refine mv ?_ | refine Fo.ldN rfl rfl (by simp only [↓nrmL, nrmZ, qe, ↓reduceIte, qa, ze, zn, hc]; rfl) ?_ | refine bn rfl rfl rfl (by simp only [hc]; rfl) ?_ | refine ln (by simp only [↓nrmL, nrmK, qe, ↓reduceIte]; rfl) ?_ | refine nl hKF ?_ | refine sq ?_ | refine rg fun KF hKF => ?_ | refine ct rfl ?_ | refine sk ?_ | refine Wp.block ?_
  refine WpO.do (WpX.conD hn rfl rfl (by simp only [↓nrmL, nrmZ, qe, ↓reduceIte, qa, ze, zn, List.map] <;> rfl) (K_Best (p := p) (fp := fp) (l := l) (fb := fb) (P := P) hp2 hfb ok okf hI.pos hF hw0 hh0) fun v H3 h5 => ?_)
  obtain ⟨hx3, h5⟩ := h5
  haveI : ExtI H2 H3 := ⟨hx3⟩
  have n3 := hx3.n
  have ho3 : OwnS H3 op 1 qs.length cells 25 := inferInstance
  have hC3 : Copied Hs.n H3 cells (qs.map (lineQ w)) (qs.map (lineQ w)).length := hC.keep hx3.n fun s cs e hs _ _ _ => hx3.get s hs
  have hxs3 : ExtP Hs H3 fp := ⟨by omega, fun r hr hq => by rw [hx3.get r (by omega)]; exact hx2.get r hr hq⟩
  rcases h5 with ⟨hM, rfl⟩ | ⟨hM, pv, y0, rfl, hy0, hy1, hy2, hov, hfv⟩
  ·skip
   repeat first | refine mB ?_ | refine mT ?_ | refine mN ?_ | refine xt ?_ | refine nl hKF ?_ | refine sq ?_ | dsimp only
   refine Fr.dregion0 rfl fun KF hKF => ?_
   repeat first | refine Fe.pure rfl rfl (by simp only [↓nrmL, nrmZ, qe, ↓reduceIte, qa, ze, zn]; rfl) ?_ | refine Fe.skip rfl ?_ | refine WpE.nil (hKF _ _ ?_)
   refine ct rfl ?_
   refine xi ?_
   dsimp only
   exact ⟨(qs, op), ⟨rfl, rfl, trivial⟩, P, cells, hT, Or.inr (by omega), ho3, hC3, hge, hxs3⟩
  have hpath := fol_path (hI.pos.pos h) hh0 hy0 (by rw [hy1]; exact hM)
  have hcost := fol_cost (hI.pos.pos h) hh0 hy0 (by rw [hy1]; exact hM) (w - 1) (by omega)
  rw [Nat.sub_self, show folF (priF P h) w h y0 0 = y0 from rfl, hy1] at hcost
  have hrest := fol_rest (hI.pos.pos h) hh0 hy0 (by rw [hy1]; exact hM)
  obtain ⟨q, hq⟩ : ∃ q, folF (priF P h) w h y0 = q := ⟨_, rfl⟩
  rw [hq] at hpath hcost hov hrest
  have hcost2 : costF (prF l w) w q (w - 1) = leastP P w h := by
   rw [← hcost]
   refine cost_congr (fun x hx => ?_) (w - 1) (by omega)
   rcases hF.or hx (hpath.row x hx) with e | e
   ·exfalso
    have h1 := cost_ge (P := priF P h) (w := w) (q := q) (fun x y => ((hI.pos.pos h).it x y).1) (w - 1) (by omega) (w - 1 - x) (by omega)
    rw [show w - 1 - (w - 1 - x) = x by omega, e, hcost] at h1
    omega
   ·exact e.symm
  obtain ⟨M, hMe⟩ : ∃ M, leastP P w h = M := ⟨_, rfl⟩
  have hMr : 0 ≤ M := by
   obtain ⟨y', _, y2⟩ := least_in (P := P) hw0 hh0
   rw [← hMe, ← y2]
   exact rest_pos (hI.pos.pos h) _ _
  rw [hMe] at hcost2 hM
  have eM : IntKind.i64.wrap (8 * M) = 8 * M := w64 (by omega)
  haveI := hov.sl.one
  have hlq := lineQ_len w q
  haveI hvI : IntsI H3 pv (lineQ w q) := by have := hov.sl; unfold IntsI; rw [hlq]; exact this
  haveI hcst : ∀ (H : AHeap) [BytesI H p l] [IntsI H pv (lineQ w q)], PureCon ext prog 55 [.agg [.int .i64 (w : Int), .int .i64 (h : Int), p], pv] H 3 (.int .i64 M) := fun H hb hi => ⟨by rw [← hcost2]; exact K_CostOf hi ok hw0 hpath⟩
  have hp3 : BytesI H3 p l := inferInstance
  haveI := hp3
  cases hcM : decide (8 * M > (w : Int))
  rotate_left
  ·have hcM2 := of_decide_eq_true hcM
   refine mT ?_
   refine xt ?_
   refine xt ?_
   refine mv ?_
   refine mB ?_
   refine nl hKF ?_
   refine sq ?_
   refine sq ?_
   dsimp only
   refine Fr.dregion0 rfl fun KF hKF => ?_
   repeat first | refine Er rfl (exec_ld rfl rfl) rfl ?_ | refine Er rfl (exec_ldN rfl rfl (by simp only [↓nrmL, nrmZ, qe, ↓reduceIte, qa, ze, zn, eM, hcM]; rfl)) rfl ?_ | refine Fe.pure rfl rfl (by simp only [eM, hcM]; rfl) ?_ | refine Fe.pure rfl rfl (by simp only [↓nrmL, nrmZ, qe, ↓reduceIte, qa, ze, zn, eM, hcM]; rfl) ?_ | (refine Fe.pcall (v' := ?_) rfl hn rfl (by simp only [↓nrmL, nrmZ, qe, ↓reduceIte, qa, ze, zn, eM, hcM, List.map]; rfl) rfl ?hv fun _ _ => ar ?_; case hv => rfl) | refine WpE.nil (hKF _ _ ?_)
   rename AHeap => H4
   have hx34 : Ext H3 H4 := Ext0.ext
   refine ct rfl ?_
   refine xi ?_
   dsimp only
   exact ⟨(qs, op), ⟨rfl, rfl, trivial⟩, P, cells, hT, Or.inr (by rw [hMe]; omega), (by haveI := ho3; haveI : ExtI H3 H4 := ⟨hx34⟩; infer_instance), hC3.keep hx34.n fun s cs e hs _ _ _ => hx34.get s hs, hge, ⟨by have := hx34.n; omega, fun r hr hq => by rw [hx34.get r (by omega)]; exact hxs3.get r hr hq⟩⟩
  have hcM2 := of_decide_eq_false hcM
  refine mT ?_
  refine xt ?_
  refine xt ?_
  refine mv ?_
  refine mB ?_
  refine nl hKF ?_
  refine sq ?_
  refine sq ?_
  dsimp only
  refine Fr.dregion0 rfl fun KF hKF => ?_
  repeat first | refine Er rfl (exec_ld rfl rfl) rfl ?_ | refine Er rfl (exec_ldN rfl rfl (by simp only [↓nrmL, nrmZ, qe, ↓reduceIte, qa, ze, zn, eM, hcM]; rfl)) rfl ?_ | refine Fe.pure rfl rfl (by simp only [eM, hcM]; rfl) ?_ | refine Fe.pure rfl rfl (by simp only [↓nrmL, nrmZ, qe, ↓reduceIte, qa, ze, zn, eM, hcM]; rfl) ?_ | (refine Fe.pcall (v' := ?_) rfl hn rfl (by simp only [↓nrmL, nrmZ, qe, ↓reduceIte, qa, ze, zn, eM, hcM, List.map]; rfl) rfl ?hv fun _ _ => ar ?_; case hv => rfl) | refine WpE.nil (hKF _ _ ?_)
  rename AHeap => H4
  have hx34 : Ext H3 H4 := Ext0.ext
  have n4 := hx34.n
  haveI : ExtI H3 H4 := ⟨hx34⟩
  haveI := ho3
  haveI ho4 : OwnS H4 op 1 qs.length cells 25 := inferInstance
  haveI := ho4.sl
  have hov4 : OwnS H4 pv 1 w (cellsI (lineQ w q)) 3 := by haveI := hov; infer_instance
  have hpv := hfv.ge
  have hCs : Copied Hs.n H3 (cells ++ [pv]) ((qs ++ [q]).map (lineQ w)) ((qs ++ [q]).map (lineQ w)).length := by
   rw [List.map_append]
   exact hC3.snoc (by rw [List.length_map]; have := ho3.sl.len; omega) (by rw [hlq]; exact hov) fun r _ _ _ _ e => by have := hpv _ _ _ _ _ e; omega
  haveI hfpop : SepS fp op := ⟨fun r _ _ _ _ r' _ _ _ _ e e' => by have := hfl1 _ _ _ _ _ e; have := hge _ _ _ _ _ e'; omega⟩
  haveI hppop : SepS p op := ⟨fun r _ _ _ _ r' _ _ _ _ e e' => by have := hp.lt e; have := hge _ _ _ _ _ e'; omega⟩
  haveI hopb : RowNe op H.n := ⟨fun r _ _ _ _ e => by have := hge _ _ _ _ _ e; omega⟩
  haveI hopf : RowNe op H1.n := ⟨fun r _ _ _ _ e => by have := hge _ _ _ _ _ e; omega⟩
  haveI : BytesI H4 fp fb := inferInstance
  haveI : WrS H4 fp := inferInstance
  haveI : BytesI H4 p l := inferInstance
  refine cf rfl ?_
  refine sk ?_
  refine sq ?_
  refine rg fun KF hKF => ?_
  refine mv ?_
  refine mv ?_
  refine Fo.bslice (cs' := [pv]) (aFill1 (v := pv) rfl rfl rfl) rfl ?_
  skip
  refine WpO.do (WpX.growX (p := op) (q := .slice H4.n 0 1 (some 1) 1) (k := 1) (new := [pv]) rfl rfl (by infer_instance) (row_one1 (inferInstance : HasRow _ H4.n [pv] true (2 * 25))) (by decide) (by decide) (by decide) (by omega) (by simp only [List.all_cons, (inferInstance : OneV pv).one, List.all_nil, Bool.and_self]) fun op' H9 ho2 hf2 hx9 => ?_)
  haveI := ho2.sl.one
  haveI := hx9
  have n9 := hx9.n
  simp only [AHeap.push] at n9
  have hop' := hf2.ge
  simp only [AHeap.push] at hop'
  have hkeep : ∀ s cs e, s < H4.n → H4.get s = .row cs true e → e / 2 = 3 → H9.get s = H4.get s := fun s cs e hs hg he => by
   have hne := ho4.tn hg (fun h7 => by rw [he] at h7; exact absurd h7 (by decide))
   rw [hx9.get s (by simp only [AHeap.push]; omega) hne, push_get_lt hs]
  have hC9 : Copied Hs.n H9 (cells ++ [pv]) ((qs ++ [q]).map (lineQ w)) ((qs ++ [q]).map (lineQ w)).length := (hCs.keep hx34.n fun s cs e hs _ _ _ => hx34.get s hs).keep (by omega) fun s cs e hs _ hg he => hkeep s cs e hs hg he
  have hov9 : OwnS H9 pv 1 w (cellsI (lineQ w q)) 3 := by
   rcases hov4.it with ⟨a1, a2, a3⟩ | ⟨r, e', a1, a2, a3, a4, a5, a6⟩
   ·exact ⟨Or.inl ⟨a1, a2, a3⟩⟩
   ·exact ⟨Or.inr ⟨r, e', a1, by omega, by rw [hkeep r _ _ a2 a3 a4]; exact a3, a4, a5, a6⟩⟩
  haveI hv9 : IntsI H9 pv (lineQ w q) := by have := hov9.sl; unfold IntsI; rw [hlq]; exact this
  haveI hpvfp : SepS pv fp := ⟨fun r _ _ _ _ r' _ _ _ _ e e' => by have := hpv _ _ _ _ _ e; have := hfl1 _ _ _ _ _ e'; omega⟩
  haveI hopfp : SepS op' fp := ⟨fun r _ _ _ _ r' _ _ _ _ e e' => by have := hop' _ _ _ _ _ e; have := hfl1 _ _ _ _ _ e'; omega⟩
  haveI hfb9 : BytesI H9 fp fb := inferInstance
  haveI hfw9 : WrS H9 fp := inferInstance
  haveI hp9 : BytesI H9 p l := inferInstance
  haveI kb9 : HasRow H9 H.n [.int .i64 (w : Int), .int .i64 (h : Int), p] true (2 * 24) := inferInstance
  haveI kf9 : HasRow H9 H1.n [.int .i64 (w : Int), .int .i64 (h : Int), fp] true (2 * 24) := inferInstance
  haveI := ho2
  have hxs9 : ExtP Hs H9 fp := ⟨by omega, fun r hr hq => by rw [hx9.get r (by simp only [AHeap.push]; omega) ⟨fun r' _ _ _ _ e => by have := hge _ _ _ _ _ e; omega⟩, push_get_lt (by omega), hx34.get r (by omega)]; exact hxs3.get r hr hq⟩
  refine mv ?_
  refine nl hKF ?_
  refine sq ?_
  refine rg fun KF hKF => ?_
  refine mI ?_
  refine nl hKF ?_
  refine Wp.block ?_
  dsimp only
  refine Wp.loopS [7, 8, 49, 50, 51, 52, 53, 54, 55, 56, 57, 58, 59, 60, 61, 62, 63, 64, 65, 66, 67, 68, 69, 70, 71, 72, 73, 74, 75, 76, 77, 78, 79, 80] (fun x : Nat => [(7, .int .i64 (x : Int))]) (fun _ x H5 => x ≤ w ∧ ∃ fb', FbS fb fb' q w h x 0 ∧ BytesI H5 fp fb' ∧ WrS H5 fp ∧ ExtP H9 H5 fp) (fun x => w - x) 0 rfl (fun _ => rfl) ⟨rfl, trivial⟩ ⟨Nat.zero_le _, fb, FbS.start okf.len okf.px, hfb9, hfw9, ExtP.refl _ _⟩ (by unfold fuel0 at hn; omega) ?_
  rintro x g2 H5 ⟨hx, fb', hS, hfb5, hfw5, hx5⟩
  haveI := hx5
  haveI := hfb5
  haveI := hfw5
  simp only [↓nrmL, nrmZ, qe, ↓reduceIte, qa, ze, zn]
  cases hcx : decide ((x : Int) < (w : Int))
  ·have hxe : x = w := by have := of_decide_eq_false hcx; omega
   rw [hxe] at hS
   have n5 := hx5.n
   refine sq ?_
   refine sq ?_
   refine rg fun KF hKF => ?_
   refine mI ?_
   refine fd ?_
   refine Fo.ld rfl rfl ?_
   refine bn rfl rfl rfl (by simp only [hcx]; rfl) ?_
   refine nl hKF ?_
   refine cf rfl ?_
   refine xi ?_
   dsimp only
   refine ⟨(qs ++ [q], op'), by dsimp only; rw [List.length_append]; simp only [List.length_singleton]; omega, ⟨rfl, trivial⟩, forA P q w h, fb', cells ++ [pv], ?_, hS.fin hF, ⟨hw, hh, hS.len, hS.px⟩, hfb5, hfw5, ?_, hC9.keep hx5.n fun s cs e hs hB _ _ => hx5.get s hs ⟨fun r _ _ _ _ e => by have := hfl1 _ _ _ _ _ e; omega⟩, fun r _ _ _ _ e => by have := hop' _ _ _ _ _ e; omega, ⟨by omega, fun r hr hq => by rw [hx5.get r (by omega) hq]; exact hxs9.get r hr hq⟩⟩
   ·dsimp only
    rw [← hq]
    exact TrR.snoc hT h60' (by rw [hMe]; omega) hy0 hy1 hy2
   ·dsimp only
    rw [List.length_append, List.length_singleton]
    infer_instance
  have hxl : x < w := by have := of_decide_eq_true hcx; omega
  have hwx := wa1 (a := x) (by omega)
  have hxq : x < (lineQ w q).length := by omega
  have gx : (lineQ w q)[x] = (q x : Int) := by rw [← getD_at hxq]; exact lineQ_at hxl
  have hqx := hpath.row x hxl
  have a1 : IntKind.i64.wrap ((q x : Int) - 2) = (q x : Int) - 2 := w64 (by omega)
  have a2 : IntKind.i64.wrap ((q x : Int) + 2) = (q x : Int) + 2 := w64 (by omega)
  repeat first | refine mI ?_ | refine fd ?_ | refine Fo.ld rfl rfl ?_ | refine bn rfl rfl rfl (by simp only [hcx]; rfl) ?_ | refine nl hKF ?_ | refine sq ?_ | refine rg fun KF hKF => ?_ | refine ct rfl ?_ | refine sk ?_ | refine Wp.block ?_ | dsimp only
  refine Wp.loopS [8, 55, 56, 57, 58, 59, 60, 61, 62, 63, 64, 65, 66, 67, 68, 69, 70, 71, 72, 73, 74, 75, 76, 77, 78, 79, 80] (fun y : Nat => [(8, .int .i64 (y : Int))]) (fun _ y H6 => y ≤ h ∧ ∃ fb', FbS fb fb' q w h x y ∧ BytesI H6 fp fb' ∧ WrS H6 fp ∧ ExtP H9 H6 fp) (fun y => h - y) 0 rfl (fun _ => rfl) ⟨rfl, trivial⟩ ⟨Nat.zero_le _, fb', hS, hfb5, hfw5, hx5⟩ (by unfold fuel0 at hn; omega) ?_
  clear hfb5 hfw5 hx5 hS
  rintro y g3 H6 ⟨hy, fb6, hS, hfb6, hfw6, hx6⟩
  haveI := hx6
  haveI := hfb6
  haveI := hfw6
  simp only [↓nrmL, nrmZ, qe, ↓reduceIte, qa, ze, zn]
  cases hcy : decide ((y : Int) < (h : Int))
  ·have hye : y = h := by have := of_decide_eq_false hcy; omega
   rw [hye] at hS
   repeat first | refine mI ?_ | refine fd ?_ | refine Fo.ld rfl rfl ?_ | refine bn rfl rfl rfl (by simp only [hcy, hwx]; rfl) ?_ | refine nl hKF ?_ | refine sq ?_ | refine rg fun KF hKF => ?_ | refine cf rfl ?_ | refine xi ?_ | dsimp only
   exact ⟨x + 1, by omega, ⟨rfl, trivial⟩, by omega, fb6, hS.col, hfb6, hfw6, hx6⟩
  have hyl : y < h := by have := of_decide_eq_true hcy; omega
  have hwy := wa1 (a := y) (by omega)
  cases b1 : decide ((y : Int) ≥ (q x : Int) - 2)
  ·have := of_decide_eq_false b1
   repeat first | refine ox ?_ | refine mI ?_ | refine mB ?_ | refine mv ?_ | refine fd ?_ | refine Fo.ld rfl rfl ?_ | refine bn rfl rfl rfl (by simp only [hcy, gx, a1, b1, hwy]; rfl) ?_ | refine fB ?_ | (refine Fo.idx (by simp only [↓nrmL, nrmK, qe, ↓reduceIte]; rfl) rfl ?_ (by simp only [↓nrmL, nrmZ, qe, ↓reduceIte, qa, ze, zn, hcy, gx, a1, b1, hwy]; rfl) ?_; (focus omega)) | (refine Fo.ldI rfl ?_ (by simp only [hcy, gx, a1, b1, hwy]; rfl) ?_; (focus omega)) | refine nl hKF ?_ | refine sq ?_ | refine rg fun KF hKF => ?_ | refine ct rfl ?_ | refine cf rfl ?_ | refine sk ?_ | refine Wp.block ?_ | dsimp only
   exact ⟨y + 1, by omega, ⟨rfl, trivial⟩, by omega, fb6, hS.skip (by unfold near; omega), hfb6, hfw6, hx6⟩
  have b1' := of_decide_eq_true b1
  cases b2 : decide ((y : Int) ≤ (q x : Int) + 2)
  ·have := of_decide_eq_false b2
   repeat first | refine oy ?_ | refine mI ?_ | refine mB ?_ | refine mv ?_ | refine fd ?_ | refine Fo.ld rfl rfl ?_ | refine bn rfl rfl rfl (by simp only [hcy, gx, a1, b1, a2, b2, hwy]; rfl) ?_ | refine tB ?_ | (refine Fo.idx (by simp only [↓nrmL, nrmK, qe, ↓reduceIte]; rfl) rfl ?_ (by simp only [↓nrmL, nrmZ, qe, ↓reduceIte, qa, ze, zn, hcy, gx, a1, b1, a2, b2, hwy]; rfl) ?_; (focus omega)) | (refine Fo.ldI rfl ?_ (by simp only [hcy, gx, a1, b1, a2, b2, hwy]; rfl) ?_; (focus omega)) | refine nl hKF ?_ | refine sq ?_ | refine rg fun KF hKF => ?_ | refine ct rfl ?_ | refine cf rfl ?_ | refine sk ?_ | refine Wp.block ?_ | dsimp only
   exact ⟨y + 1, by omega, ⟨rfl, trivial⟩, by omega, fb6, hS.skip (by unfold near; omega), hfb6, hfw6, hx6⟩
  have b2' := of_decide_eq_true b2
  repeat first | refine oy ?_ | refine mI ?_ | refine mB ?_ | refine mv ?_ | refine fd ?_ | refine Fo.ld rfl rfl ?_ | refine Fo.ldN rfl rfl (by simp only [↓nrmL, nrmZ, qe, ↓reduceIte, qa, ze, zn, hcy, gx, a1, b1, a2, b2]; rfl) ?_ | refine bn rfl rfl rfl (by simp only [hcy, gx, a1, b1, a2, b2]; rfl) ?_ | refine tB ?_ | (refine Fo.idx (by simp only [↓nrmL, nrmK, qe, ↓reduceIte]; rfl) rfl ?_ (by simp only [↓nrmL, nrmZ, qe, ↓reduceIte, qa, ze, zn, hcy, gx, a1, b1, a2, b2]; rfl) ?_; (focus omega)) | (refine Fo.ldI rfl ?_ (by simp only [hcy, gx, a1, b1, a2, b2]; rfl) ?_; (focus omega)) | refine nl hKF ?_ | refine sq ?_ | refine rg fun KF hKF => ?_ | refine ct rfl ?_ | refine sk ?_ | refine Wp.block ?_
  refine WpO.do (WpX.conD hn rfl rfl (by simp only [↓nrmL, nrmZ, qe, ↓reduceIte, qa, ze, zn, List.map] <;> rfl) (K_refSet (y := y) (x := x) (w := w) (h := (h : Int)) (p := fp) (l := fb6) (by rw [hS.len]; exact idx_lt hxl hyl) (by rw [hS.len]; omega)) fun v H7 h7 => ?_)
  obtain ⟨hfb7, hfw7, hx7⟩ := h7
  simp only [↓nrmL, nrmZ, qe, ↓reduceIte, qa, ze, zn, hwy]
  repeat first | refine mI ?_ | refine bn rfl rfl rfl (by simp only [hwy]; rfl) ?_ | refine nl hKF ?_ | refine rg fun KF hKF => ?_ | dsimp only
  exact ⟨y + 1, by omega, ⟨rfl, trivial⟩, by omega, _, hS.set hxl hyl (by unfold near; omega), hfb7, hfw7, hx6.trans hx7⟩
 rintro ⟨qs, op⟩ g K0 ⟨P, cells, hT, hE, ho, hC, hge, hx0⟩
 dsimp only at hT hE ho hC hge
 have hI := tr_inv hw0 hw hh0 hT
 have hmany := hI.many
 haveI := hx0
 haveI := ho.sl
 haveI := ho.sl.one
 haveI kb0 : HasRow K0 H.n [.int .i64 (w : Int), .int .i64 (h : Int), p] true (2 * 24) := inferInstance
 have hxK : Ext H K0 := ⟨by have := hx0.n; omega, fun r hr => by rw [hx0.get r (by omega) ⟨fun r' _ _ _ _ e => by have := hff _ _ _ _ _ e; omega⟩]; exact hxs.get r hr⟩
 have hline : ∀ j (hj : j < qs.length), ∃ v, cells[j]? = some v ∧ IntsI K0 v (lineQ w qs[j]) := fun j hj => by
  obtain ⟨v, c1, c2, c3⟩ := hC.it j (by rw [List.length_map]; exact hj) (by rw [List.length_map]; exact hj)
  rw [List.getElem_map] at c2
  exact ⟨v, c1, c2.sl⟩
 have hdist : ∀ i j (hi : i < qs.length) (hj : j < qs.length), i < j → qs[i] 0 ≠ qs[j] 0 := fun i j hi hj hij => by
  have := hI.apart i j hi hj 0 hw0 hij
  unfold near at this; omega
 simp only [↓nrmL, nrmZ, qe, ↓reduceIte, qa, ze, zn]
 repeat first | refine mI ?_ | refine mN ?_ | refine nl hKF ?_ | refine sq ?_ | refine rg fun KF hKF => ?_ | refine Wp.block ?_ | dsimp only
 refine Wp.loopS (σ := Nat × List (Nat → Nat) × AVal) [9, 10, 11, 81, 82, 83, 84, 85, 86, 87, 88, 89, 90, 91, 92, 93, 94, 95, 96, 97, 98, 99, 100, 101, 102, 103, 104, 105, 106, 107] (fun s => [(10, .int .i64 (s.1 : Int)), (9, s.2.2)]) (fun _ s H2 => s.1 ≤ h ∧ BkS qs s.2.1 s.1 0 ∧ s.2.1.length ≤ 60 * s.1 ∧ ∃ cs, OwnS H2 s.2.2 1 s.2.1.length cs 25 ∧ (∀ k (hk : k < s.2.1.length), ∃ v, cs[k]? = some v ∧ IntsI K0 v (lineQ w s.2.1[k])) ∧ (∀ r off len cap sz, s.2.2 = .slice r off len cap sz → K0.n ≤ r) ∧ Ext K0 H2) (fun s => h - s.1) (0, [], .nslice) rfl (fun _ => rfl) ⟨rfl, rfl, trivial⟩ ⟨Nat.zero_le _, BkS.start qs, Nat.zero_le _, [], ⟨Or.inl ⟨rfl, rfl, rfl⟩⟩, fun k hk => (by cases hk), fun _ _ _ _ _ e => (by cases e), Ext.refl _⟩ (by unfold fuel0 at hn; dsimp only; omega) ?_
 rintro ⟨y, os, out⟩ g2 H2 ⟨hy, hB, hol, cs, hoo, hcs, hog, hx2⟩
 dsimp only at hy hB hol hoo hcs hog
 haveI : ExtI K0 H2 := ⟨hx2⟩
 haveI := hoo.sl.one
 simp only [↓nrmL, nrmZ, qe, ↓reduceIte, qa, ze, zn]
 cases hcy : decide ((y : Int) < (h : Int))
 ·have hye : y = h := by have := of_decide_eq_false hcy; omega
  subst hye
  repeat first | refine mI ?_ | refine mv ?_ | refine fd ?_ | refine Fo.ld rfl rfl ?_ | refine bn rfl rfl rfl (by simp only [hcy]; rfl) ?_ | refine nl hKF ?_ | refine sq ?_ | refine rg fun KF hKF => ?_ | refine cf rfl ?_ | refine rt ?_ | refine xi ?_ | dsimp only
  refine rz trivial ?_
  refine ⟨os, ⟨cs, by rw [List.length_map]; exact hoo.sl, ⟨fun k hk => ?_⟩⟩, hB.fin hT hI hw0 hE, hxK.trans hx2⟩
  rw [List.length_map] at hk
  obtain ⟨v, c1, c2⟩ := hcs k hk
  exact ⟨v, c1, by rw [List.getElem_map]; infer_instance⟩
 have hyl : y < h := by have := of_decide_eq_true hcy; omega
 have hwy := wa1 (a := y) (by omega)
 repeat first | refine mI ?_ | refine fd ?_ | refine Fo.ld rfl rfl ?_ | refine bn rfl rfl rfl (by simp only [hcy]; rfl) ?_ | refine nl hKF ?_ | refine sq ?_ | refine rg fun KF hKF => ?_ | refine ct rfl ?_ | refine sk ?_ | refine Wp.block ?_ | dsimp only
 refine Wp.loopS (σ := Nat × List (Nat → Nat) × AVal) [9, 11, 87, 88, 89, 90, 91, 92, 93, 94, 95, 96, 97, 98, 99, 100, 101, 102, 103, 104, 105, 106, 107] (fun s => [(11, .int .i64 (s.1 : Int)), (9, s.2.2)]) (fun _ s H2 => s.1 ≤ qs.length ∧ BkS qs s.2.1 y s.1 ∧ s.2.1.length ≤ 60 * y + s.1 ∧ ∃ cs, OwnS H2 s.2.2 1 s.2.1.length cs 25 ∧ (∀ k (hk : k < s.2.1.length), ∃ v, cs[k]? = some v ∧ IntsI K0 v (lineQ w s.2.1[k])) ∧ (∀ r off len cap sz, s.2.2 = .slice r off len cap sz → K0.n ≤ r) ∧ Ext K0 H2) (fun s => qs.length - s.1) (0, os, out) rfl (fun _ => rfl) ⟨rfl, rfl, trivial⟩ ⟨Nat.zero_le _, hB, by dsimp only; omega, cs, hoo, hcs, hog, hx2⟩ (by unfold fuel0 at hn; dsimp only; omega) ?_
 clear hB hol hoo hcs hog hx2
 rintro ⟨i, os, out⟩ g3 H3 ⟨hi, hB, hol, cs, hoo, hcs, hog, hx3⟩
 dsimp only at hi hB hol hoo hcs hog
 haveI : ExtI K0 H3 := ⟨hx3⟩
 haveI := hoo.sl.one
 have n3 := hx3.n
 simp only [↓nrmL, nrmZ, qe, ↓reduceIte, qa, ze, zn]
 cases hci : decide ((i : Int) < ((qs.length : Nat) : Int))
 ·have hie : i = qs.length := by have := of_decide_eq_false hci; omega
  subst hie
  repeat first | refine mI ?_ | refine mv ?_ | refine bn rfl rfl rfl (by simp only [hci, hwy]; rfl) ?_ | refine ln (by simp only [↓nrmL, nrmK, qe, ↓reduceIte]; rfl) ?_ | refine nl hKF ?_ | refine sq ?_ | refine rg fun KF hKF => ?_ | refine cf rfl ?_ | refine xi ?_ | dsimp only
  exact ⟨(y + 1, os, out), by dsimp only; omega, ⟨rfl, rfl, trivial⟩, by dsimp only; omega, hB.row, by dsimp only; omega, cs, hoo, hcs, hog, hx3⟩
 have hil : i < qs.length := by have := of_decide_eq_true hci; omega
 have hwi := wa1 (a := i) (by omega)
 obtain ⟨v, c1, c2⟩ := hline i hil
 haveI := c2
 haveI := c2.one
 have hl0 := lineQ_len w qs[i]
 have h0l : 0 < (lineQ w qs[i]).length := by omega
 have g0 : (lineQ w qs[i])[0] = (qs[i] 0 : Int) := by rw [← getD_at h0l]; exact lineQ_at hw0
 by_cases hqy : qs[i] 0 = y
 rotate_left
 ·have hne : ((qs[i] 0 : Int) == (y : Int)) = false := by simp; omega
  repeat first | refine mI ?_ | refine mv ?_ | refine bn rfl rfl rfl (by simp only [hci]; rfl) ?_ | refine ln (by simp only [↓nrmL, nrmK, qe, ↓reduceIte]; rfl) ?_ | (refine Fo.idx (by simp only [↓nrmL, nrmK, qe, ↓reduceIte]; rfl) rfl ?_ (by simp only [↓nrmL, nrmZ, qe, ↓reduceIte, qa, ze, zn, hci]; rfl) ?_; (focus omega)) | refine nl hKF ?_ | refine sq ?_ | refine rg fun KF hKF => ?_ | refine ct rfl ?_ | refine sk ?_ | refine Wp.block ?_
  refine Fo.now rfl (exec_ldP (p := op) (j := i) rfl c1) rfl ?_
  repeat first | refine mI ?_ | refine bn rfl rfl rfl (by simp only [g0, hne, hwi]; rfl) ?_ | (refine Fo.idx (by simp only [↓nrmL, nrmK, qe, ↓reduceIte]; rfl) rfl ?_ (by simp only [↓nrmL, nrmZ, qe, ↓reduceIte, qa, ze, zn, g0, hne, hwi]; rfl) ?_; (focus omega)) | (refine Fo.ldI rfl ?_ (by simp only [g0, hne, hwi]; rfl) ?_; (focus omega)) | refine nl hKF ?_ | refine rg fun KF hKF => ?_ | refine cf rfl ?_ | refine sk ?_ | dsimp only
  exact ⟨(i + 1, os, out), by dsimp only; omega, ⟨rfl, rfl, trivial⟩, by dsimp only; omega, hB.skip hil hqy, by dsimp only; omega, cs, hoo, hcs, hog, hx3⟩
 have heq : ((qs[i] 0 : Int) == (y : Int)) = true := by simp; omega
 haveI := hoo
 repeat first | refine mI ?_ | refine mv ?_ | refine bn rfl rfl rfl (by simp only [hci]; rfl) ?_ | refine ln (by simp only [↓nrmL, nrmK, qe, ↓reduceIte]; rfl) ?_ | (refine Fo.idx (by simp only [↓nrmL, nrmK, qe, ↓reduceIte]; rfl) rfl ?_ (by simp only [↓nrmL, nrmZ, qe, ↓reduceIte, qa, ze, zn, hci]; rfl) ?_; (focus omega)) | refine nl hKF ?_ | refine sq ?_ | refine rg fun KF hKF => ?_ | refine ct rfl ?_ | refine sk ?_ | refine Wp.block ?_
 refine Fo.now rfl (exec_ldP (p := op) (j := i) rfl c1) rfl ?_
 repeat first | refine mI ?_ | refine mv ?_ | refine bn rfl rfl rfl (by simp only [g0, heq]; rfl) ?_ | (refine Fo.idx (by simp only [↓nrmL, nrmK, qe, ↓reduceIte]; rfl) rfl ?_ (by simp only [↓nrmL, nrmZ, qe, ↓reduceIte, qa, ze, zn, g0, heq]; rfl) ?_; (focus omega)) | (refine Fo.ldI rfl ?_ (by simp only [g0, heq]; rfl) ?_; (focus omega)) | refine nl hKF ?_ | refine rg fun KF hKF => ?_ | refine ct rfl ?_
 refine Fo.now rfl (exec_ldP (p := op) (j := i) rfl c1) rfl ?_
 skip
 refine Fo.bslice (cs' := [v]) (aFill1 (v := v) rfl rfl rfl) rfl ?_
 skip
 refine WpO.do (WpX.growX (p := out) (q := .slice H3.n 0 1 (some 1) 1) (k := 1) (new := [v]) rfl rfl (by infer_instance) (row_one1 (inferInstance : HasRow _ H3.n [v] true (2 * 25))) (by decide) (by decide) (by decide) (by omega) (by simp only [List.all_cons, (inferInstance : OneV v).one, List.all_nil, Bool.and_self]) fun out' H9 ho2 hf2 hx9 => ?_)
 haveI := ho2.sl.one
 have n9 := hx9.n
 have hf2' := hf2.ge
 simp only [AHeap.push] at n9 hf2'
 repeat first | refine mI ?_ | refine mv ?_ | refine bn rfl rfl rfl (by simp only [hwi]; rfl) ?_ | refine nl hKF ?_ | refine rg fun KF hKF => ?_ | dsimp only
 have hcl : cs.length = os.length := by have := hoo.sl.len; omega
 refine ⟨(i + 1, os ++ [qs[i]], out'), by dsimp only; omega, ⟨rfl, rfl, trivial⟩, by dsimp only; omega, hB.take hdist hil hqy, by dsimp only; rw [List.length_append, List.length_singleton]; omega, cs ++ [v], by dsimp only; rw [List.length_append, List.length_singleton]; exact ho2, fun k hk => ?_, fun r _ _ _ _ e => by have := hf2' _ _ _ _ _ e; omega, ⟨by omega, fun r hr => by rw [hx9.get r (by simp only [AHeap.push]; omega) ⟨fun r' _ _ _ _ e => by have := hog _ _ _ _ _ e; omega⟩, push_get_lt (by omega)]; exact hx3.get r hr⟩⟩
 dsimp only at hk ⊢
 rw [List.length_append, List.length_singleton] at hk
 by_cases hkl : k < os.length
 ·obtain ⟨u, d1, d2⟩ := hcs k hkl
  exact ⟨u, by rw [List.getElem?_append_left (by omega)]; exact d1, by rw [List.getElem_append_left hkl]; exact d2⟩
 ·obtain rfl : k = os.length := by omega
  exact ⟨v, by rw [List.getElem?_append_right (by omega), hcl, Nat.sub_self]; rfl, by simp only [List.getElem_append_right (Nat.le_refl _), Nat.sub_self, List.getElem_cons_zero]; exact c2⟩
end Go.Am

namespace Go.Am
open Go
open Nat renaming reduceEqDiff → qe, reduceAdd → qa
open Int renaming reduceBEq → ze, reduceBNe → zn
attribute [local irreducible] Wp WpO WpX WpE
structure Low (H0 : AHeap) (p : AVal) : Prop where
 lt : ∀ r off len cap sz, p = .slice r off len cap sz → r < H0.n
theorem Low.ne {H0 : AHeap} {p : AVal} {s : Nat} (h : Low H0 p) (hs : H0.n ≤ s) : RowNe p s := ⟨fun r off len cap sz e => by have := h.lt r off len cap sz e; omega⟩
theorem SrtS.set {H0 H : AHeap} {p : AVal} {n s : Nat} {U : AVal → Prop} {cs : List AVal} {o : AObj} (h : SrtS H0 p n U cs H) (hl : Low H0 p) (hs : H0.n ≤ s) : SrtS H0 p n U cs (H.set s o) := by
 haveI := hl.ne hs
 haveI := h.sl
 haveI := h.wr
 exact ⟨inferInstance, inferInstance, ⟨h.ex.n, fun r hr hp => by rw [set_get_ne (by omega)]; exact h.ex.get r hr hp⟩, h.mem⟩
theorem K_order2 {H0 H : AHeap} {p : AVal} {n a b sp z : Nat} {F : FuncId} {U : AVal → Prop} {K : AVal → Int} {cs : List AVal} (hU : SrtU ext prog H0 p F U K) (hs : SrtS H0 p n U cs H) (hl : Low H0 p) (hsp : H0.n ≤ sp) (hk : HasRow H sp [.int .i64 (z : Int)] true (2 * 3)) (hz : z ≤ 1000) (ha : a < n) (hb : b < n) (hn40 : n ≤ 2 ^ 40) : Con ext prog 9 142 [p, .int .i64 (a : Int), .int .i64 (b : Int), .ptr sp 0, .func (.func F) [] []] H fun v H' => ∃ x y z' : Nat, v = .tuple [.int .i64 (x : Int), .int .i64 (y : Int)] ∧ ((x = a ∧ y = b) ∨ (x = b ∧ y = a)) ∧ z' ≤ z + 1 ∧ HasRow H' sp [.int .i64 ((z' : Nat) : Int)] true (2 * 3) ∧ SrtS H0 p n U cs H' := by
 refine con_of (show prog 142 = some c142 from rfl) rfl rfl fun N hn => ?_
 haveI := hs.sl
 haveI := hs.sl.one
 haveI := hs.wr
 haveI := hk
 haveI := hl.ne hsp
 have hlen := hs.len
 have c1 := cAt_some (cs := cs) (i := b) (by omega)
 have c2 := cAt_some (cs := cs) (i := a) (by omega)
 have u1 := hs.mem b hb
 have u2 := hs.mem a ha
 haveI := hU.one _ u1
 haveI := hU.one _ u2
 haveI : PureCon ext prog F [cAt cs b, cAt cs a] H 8 (.int .i64 (cmpI (K (cAt cs b)) (K (cAt cs a)))) := hU.cmp H hs.ex _ _ u1 u2
 repeat first | refine mI ?_ | refine nl hKF ?_ | refine sq ?_ | refine rg fun KF hKF => ?_
 refine Fr.dregion0 rfl fun KF hKF => ?_
 repeat first | refine Fe.pure rfl rfl (by simp only [↓nrmL, nrmZ, qe, ↓reduceIte, qa, ze, zn]; rfl) ?_ | (refine Fe.pure rfl (exec_idxP (by (try simp only [↓nrmL, nrmZ, qe, ↓reduceIte, qa, ze, zn]); rfl) rfl ?_) (by simp only [↓nrmL, nrmZ, qe, ↓reduceIte, qa, ze, zn]; rfl) ?_; (focus omega))
 refine Fe.read rfl (exec_ldP (p := p) (j := b) rfl c1) rfl trivial ?_
 refine Fe.pure rfl rfl (by simp only [↓nrmL, nrmZ, qe, ↓reduceIte, qa, ze, zn]; rfl) ?_
 refine Fe.pure rfl rfl (by simp only [↓nrmL, nrmZ, qe, ↓reduceIte, qa, ze, zn]; rfl) ?_
 refine Fe.pure rfl (exec_idxP (by (try simp only [↓nrmL, nrmZ, qe, ↓reduceIte, qa, ze, zn]); rfl) rfl ?_) (by simp only [↓nrmL, nrmZ, qe, ↓reduceIte, qa, ze, zn]; rfl) ?_; (focus omega)
 refine Fe.read rfl (exec_ldP (p := p) (j := a) rfl c2) rfl trivial ?_
 cases hlt : decide (K (cAt cs b) < K (cAt cs a))
 ·have hc2 : decide (cmpI (K (cAt cs b)) (K (cAt cs a)) < 0) = false := by rw [cmpI_neg]; exact hlt
  simp only [↓nrmL, nrmZ, qe, ↓reduceIte, qa, ze, zn, hc2]
  refine Fe.pcall (v' := ?_) rfl hn rfl (by simp only [↓nrmL, nrmZ, qe, ↓reduceIte, qa, ze, zn, hc2, List.map]; rfl) rfl ?hv fun _ _ => ar ?_; case hv => rfl
  refine Fe.pure rfl rfl (by simp only [hc2]; rfl) ?_
  refine WpE.nil (hKF _ _ ?_)
  rename AHeap => H4
  rename ExtI H H4 => hx4
  repeat first | refine mI ?_ | refine nl hKF ?_ | refine sq ?_ | refine rg fun KF hKF => ?_ | refine cf rfl ?_ | refine sk ?_ | refine rt ?_ | dsimp only
  refine rz trivial ?_
  exact ⟨a, b, z, rfl, Or.inl ⟨rfl, rfl⟩, by omega, inferInstance, hs.ext hx4.ext⟩
 have hc2 : decide (cmpI (K (cAt cs b)) (K (cAt cs a)) < 0) = true := by rw [cmpI_neg]; exact hlt
 simp only [↓nrmL, nrmZ, qe, ↓reduceIte, qa, ze, zn, hc2]
 refine Fe.pcall (v' := ?_) rfl hn rfl (by simp only [↓nrmL, nrmZ, qe, ↓reduceIte, qa, ze, zn, hc2, List.map]; rfl) rfl ?hv fun _ _ => ar ?_; case hv => rfl
 refine Fe.pure rfl rfl (by simp only [hc2]; rfl) ?_
 refine WpE.nil (hKF _ _ ?_)
 rename AHeap => H4
 rename ExtI H H4 => hx4
 have ez := wa1 (a := z) (by omega)
 simp only [ez]
 repeat first | refine mI ?_ | refine mP ?_ | refine Fo.ld rfl rfl ?_ | refine bn rfl rfl rfl (by simp only [ez]; rfl) ?_ | refine Fo.now rfl rfl rfl ?_ | refine so rfl (rfl : _ = AVal.int _ _) rfl rfl rfl (by simp only [↓nrmL, nrmZ, qe, ↓reduceIte, qa, ze, zn, ez]; rfl) ?_ | refine nl hKF ?_ | refine sq ?_ | refine rg fun KF hKF => ?_ | refine ct rfl ?_ | refine rt ?_ | dsimp only
 refine rz trivial ?_
 exact ⟨b, a, z + 1, rfl, Or.inr ⟨rfl, rfl⟩, by omega, inferInstance, (hs.ext hx4.ext).set hl hsp⟩
theorem K_median {H0 H : AHeap} {p : AVal} {n a b c sp z : Nat} {F : FuncId} {U : AVal → Prop} {K : AVal → Int} {cs : List AVal} (hU : SrtU ext prog H0 p F U K) (hs : SrtS H0 p n U cs H) (hl : Low H0 p) (hsp : H0.n ≤ sp) (hk : HasRow H sp [.int .i64 (z : Int)] true (2 * 3)) (hz : z ≤ 990) (ha : a < n) (hb : b < n) (hc : c < n) (hn40 : n ≤ 2 ^ 40) : Con ext prog 10 138 [p, .int .i64 (a : Int), .int .i64 (b : Int), .int .i64 (c : Int), .ptr sp 0, .func (.func F) [] []] H fun v H' => ∃ m z' : Nat, v = .int .i64 (m : Int) ∧ (m = a ∨ m = b ∨ m = c) ∧ z' ≤ z + 3 ∧ HasRow H' sp [.int .i64 ((z' : Nat) : Int)] true (2 * 3) ∧ SrtS H0 p n U cs H' := by
 refine con_of (show prog 138 = some c138 from rfl) rfl rfl fun N hn => ?_
 haveI := hs.sl.one
 repeat first | refine mI ?_ | refine mP ?_ | refine mF ?_ | refine mv ?_ | refine nl hKF ?_ | refine sq ?_ | refine rg fun KF hKF => ?_
 refine WpO.do (WpX.conD hn rfl rfl (by simp only [↓nrmL, nrmZ, qe, ↓reduceIte, qa, ze, zn, List.map] <;> rfl) (K_order2 hU hs hl hsp hk (by omega) ha hb hn40) fun v H1 h5 => ?_)
 obtain ⟨x1, y1, z1, rfl, h1, hz1, hk1, hs1⟩ := h5
 repeat first | refine mI ?_ | refine mP ?_ | refine mT ?_ | refine mF ?_ | refine mv ?_ | refine xt ?_ | refine nl hKF ?_ | refine sq ?_ | refine rg fun KF hKF => ?_
 refine WpO.do (WpX.conD hn rfl rfl (by simp only [↓nrmL, nrmZ, qe, ↓reduceIte, qa, ze, zn, List.map] <;> rfl) (K_order2 (a := y1) (b := c) hU hs1 hl hsp hk1 (by omega) (by omega) hc hn40) fun v H2 h6 => ?_)
 obtain ⟨x2, y2, z2, rfl, h2, hz2, hk2, hs2⟩ := h6
 repeat first | refine mI ?_ | refine mP ?_ | refine mT ?_ | refine mF ?_ | refine mv ?_ | refine xt ?_ | refine nl hKF ?_ | refine sq ?_ | refine rg fun KF hKF => ?_
 refine WpO.do (WpX.conD hn rfl rfl (by simp only [↓nrmL, nrmZ, qe, ↓reduceIte, qa, ze, zn, List.map] <;> rfl) (K_order2 (a := x1) (b := x2) hU hs2 hl hsp hk2 (by omega) (by omega) (by omega) hn40) fun v H3 h7 => ?_)
 obtain ⟨x3, y3, z3, rfl, h3, hz3, hk3, hs3⟩ := h7
 repeat first | refine mI ?_ | refine mT ?_ | refine xt ?_ | refine nl hKF ?_ | refine sq ?_ | refine rg fun KF hKF => ?_ | refine rt ?_ | dsimp only
 refine rz trivial ?_
 exact ⟨y3, z3, rfl, by omega, by omega, hk3, hs3⟩
theorem K_medianAdj {H0 H : AHeap} {p : AVal} {n a sp z : Nat} {F : FuncId} {U : AVal → Prop} {K : AVal → Int} {cs : List AVal} (hU : SrtU ext prog H0 p F U K) (hs : SrtS H0 p n U cs H) (hl : Low H0 p) (hsp : H0.n ≤ sp) (hk : HasRow H sp [.int .i64 (z : Int)] true (2 * 3)) (hz : z ≤ 990) (ha0 : 0 < a) (ha : a + 1 < n) (hn40 : n ≤ 2 ^ 40) : Con ext prog 11 137 [p, .int .i64 (a : Int), .ptr sp 0, .func (.func F) [] []] H fun v H' => ∃ m z' : Nat, v = .int .i64 (m : Int) ∧ a ≤ m + 1 ∧ m ≤ a + 1 ∧ z' ≤ z + 3 ∧ HasRow H' sp [.int .i64 ((z' : Nat) : Int)] true (2 * 3) ∧ SrtS H0 p n U cs H' := by
 refine con_of (show prog 137 = some c137 from rfl) rfl rfl fun N hn => ?_
 haveI := hs.sl.one
 have e1 : IntKind.i64.wrap ((a : Int) - 1) = ((a - 1 : Nat) : Int) := by rw [w64 (by omega)]; omega
 have e2 := wa1 (a := a) (by omega)
 repeat first | refine mI ?_ | refine mP ?_ | refine mF ?_ | refine mv ?_ | refine bn rfl rfl rfl (by simp only [e1, e2]; rfl) ?_ | refine nl hKF ?_ | refine sq ?_ | refine rg fun KF hKF => ?_
 refine WpO.do (WpX.conD hn rfl rfl (by simp only [↓nrmL, nrmZ, qe, ↓reduceIte, qa, ze, zn, List.map] <;> rfl) (K_median (a := a - 1) (b := a) (c := a + 1) hU hs hl hsp hk (by omega) (by omega) (by omega) (by omega) hn40) fun v H1 h5 => ?_)
 obtain ⟨m, z1, rfl, h1, hz1, hk1, hs1⟩ := h5
 refine mI ?_
 refine nl hKF ?_
 refine rt ?_
 dsimp only
 refine rz trivial ?_
 exact ⟨m, z1, rfl, by omega, by omega, by omega, hk1, hs1⟩
theorem K_pivot {H0 H : AHeap} {p : AVal} {n a b : Nat} {F : FuncId} {U : AVal → Prop} {K : AVal → Int} {cs : List AVal} (hU : SrtU ext prog H0 p F U K) (hs : SrtS H0 p n U cs H) (hl : Low H0 p) (hab : a + 8 ≤ b) (hb : b ≤ n) (hn40 : n ≤ 2 ^ 40) : Con ext prog 12 117 [p, .int .i64 (a : Int), .int .i64 (b : Int), .func (.func F) [] []] H fun v H' => ∃ m hint : Nat, v = .tuple [.int .i64 (m : Int), .int .i64 (hint : Int)] ∧ a ≤ m ∧ m < b ∧ hint < 3 ∧ SrtS H0 p n U cs H' := by
 refine con_of (show prog 117 = some c117 from rfl) rfl rfl fun N hn => ?_
 haveI := hs.sl.one
 obtain ⟨l, hll⟩ : ∃ l, b - a = l := ⟨_, rfl⟩
 have e1 : IntKind.i64.wrap ((b : Int) - (a : Int)) = (l : Int) := by rw [w64 (by omega)]; omega
 have e2 : IntKind.i64.wrap ((l : Int).tdiv 4) = ((l / 4 : Nat) : Int) := by
  have e : (l : Int).tdiv 4 = ((l / 4 : Nat) : Int) := rfl
  rw [e]; exact w64 (by omega)
 have e3 : IntKind.i64.wrap (((l / 4 : Nat) : Int) * 1) = ((l / 4 : Nat) : Int) := by rw [Int.mul_one]; exact w64 (by omega)
 have e4 : IntKind.i64.wrap (((l / 4 : Nat) : Int) * 2) = ((l / 4 * 2 : Nat) : Int) := by rw [w64 (by omega)]; omega
 have e5 : IntKind.i64.wrap (((l / 4 : Nat) : Int) * 3) = ((l / 4 * 3 : Nat) : Int) := by rw [w64 (by omega)]; omega
 obtain ⟨i, hi⟩ : ∃ i, a + l / 4 = i := ⟨_, rfl⟩
 obtain ⟨j, hj⟩ : ∃ j, a + l / 4 * 2 = j := ⟨_, rfl⟩
 obtain ⟨k, hk⟩ : ∃ k, a + l / 4 * 3 = k := ⟨_, rfl⟩
 have e6 : IntKind.i64.wrap ((a : Int) + ((l / 4 : Nat) : Int)) = (i : Int) := by rw [w64 (by omega)]; omega
 have e7 : IntKind.i64.wrap ((a : Int) + ((l / 4 * 2 : Nat) : Int)) = (j : Int) := by rw [w64 (by omega)]; omega
 have e8 : IntKind.i64.wrap ((a : Int) + ((l / 4 * 3 : Nat) : Int)) = (k : Int) := by rw [w64 (by omega)]; omega
 have d8 : decide ((l : Int) ≥ 8) = true := decide_eq_true (by omega)
 have hsp : H0.n ≤ H.n := hs.ex.n
 have hs0 : SrtS H0 p n U cs (H.push (.row [.int .i64 0] true (2 * 3))) := hs.ext ((Ext.refl H).push _)
 have hk0 : HasRow (H.push (.row [.int .i64 0] true (2 * 3))) H.n [.int .i64 ((0 : Nat) : Int)] true (2 * 3) := (inferInstance : HasRow (H.push (.row [.int .i64 0] true (2 * 3))) H.n [.int .i64 0] true (2 * 3))
 cases d50 : decide ((l : Int) ≥ 50)
 ·skip
  repeat first | refine mI ?_ | refine mF ?_ | refine mv ?_ | refine bn rfl rfl rfl (by simp only [e1, e2, e3, e4, e5, e6, e7, e8, d8, d50]; rfl) ?_ | refine nw ?_ | refine nl hKF ?_ | refine sq ?_ | refine rg fun KF hKF => ?_ | refine ct rfl ?_ | refine cf rfl ?_ | refine sk ?_
  refine WpO.do (WpX.conD hn rfl rfl (by simp only [↓nrmL, nrmZ, qe, ↓reduceIte, qa, ze, zn, List.map] <;> rfl) (K_median (a := i) (b := j) (c := k) hU hs0 hl hsp hk0 (by omega) (by omega) (by omega) (by omega) hn40) fun v H1 h5 => ?_)
  obtain ⟨m, z1, rfl, h1, hz1, hk1, hs1⟩ := h5
  haveI := hk1
  repeat first | refine mI ?_ | refine mB ?_ | refine Fo.ld rfl rfl ?_ | refine b0 ?_ | refine nl hKF ?_ | refine sq ?_ | refine rg fun KF hKF => ?_ | refine Wp.block ?_ | dsimp only
  cases q0 : (((z1 : Nat) : Int) == 0)
  ·cases q1 : (((z1 : Nat) : Int) == 12)
   ·skip
    repeat first | refine mI ?_ | refine mB ?_ | refine bn rfl rfl rfl (by simp only [q0, q1]; rfl) ?_ | refine nl hKF ?_ | refine sq ?_ | refine rg fun KF hKF => ?_ | refine cf rfl ?_ | refine rt ?_ | dsimp only
    refine rz trivial ?_
    exact ⟨m, 0, rfl, by omega, by omega, by decide, hs1⟩
   ·skip
    repeat first | refine mI ?_ | refine mB ?_ | refine bn rfl rfl rfl (by simp only [q0, q1]; rfl) ?_ | refine nl hKF ?_ | refine sq ?_ | refine rg fun KF hKF => ?_ | refine ct rfl ?_ | refine cf rfl ?_ | refine rt ?_ | dsimp only
    refine rz trivial ?_
    exact ⟨m, 2, rfl, by omega, by omega, by decide, hs1⟩
  ·skip
   repeat first | refine mI ?_ | refine nl hKF ?_ | refine sq ?_ | refine rg fun KF hKF => ?_ | refine ct rfl ?_ | refine rt ?_ | dsimp only
   refine rz trivial ?_
   exact ⟨m, 1, rfl, by omega, by omega, by decide, hs1⟩
 repeat first | refine mI ?_ | refine mF ?_ | refine mv ?_ | refine bn rfl rfl rfl (by simp only [e1, e2, e3, e4, e5, e6, e7, e8, d8, d50]; rfl) ?_ | refine nw ?_ | refine nl hKF ?_ | refine sq ?_ | refine rg fun KF hKF => ?_ | refine ct rfl ?_
 refine WpO.do (WpX.conD hn rfl rfl (by simp only [↓nrmL, nrmZ, qe, ↓reduceIte, qa, ze, zn, List.map] <;> rfl) (K_medianAdj (a := i) hU hs0 hl hsp hk0 (by omega) (by omega) (by omega) hn40) fun v H1 h5 => ?_)
 have d50' := of_decide_eq_true d50
 obtain ⟨m1, z1, rfl, h11, h12, hz1, hk1, hs1⟩ := h5
 refine mI ?_
 refine nl hKF ?_
 refine sq ?_
 refine rg fun KF hKF => ?_
 refine mv ?_
 refine mI ?_
 refine mF ?_
 refine WpO.do (WpX.conD hn rfl rfl (by simp only [↓nrmL, nrmZ, qe, ↓reduceIte, qa, ze, zn, List.map] <;> rfl) (K_medianAdj (a := j) hU hs1 hl hsp hk1 (by omega) (by omega) (by omega) hn40) fun v H2 h6 => ?_)
 obtain ⟨m2, z2, rfl, h21, h22, hz2, hk2, hs2⟩ := h6
 refine mI ?_
 refine nl hKF ?_
 refine rg fun KF hKF => ?_
 refine mv ?_
 refine mI ?_
 refine mF ?_
 refine WpO.do (WpX.conD hn rfl rfl (by simp only [↓nrmL, nrmZ, qe, ↓reduceIte, qa, ze, zn, List.map] <;> rfl) (K_medianAdj (a := k) hU hs2 hl hsp hk2 (by omega) (by omega) (by omega) hn40) fun v H3 h7 => ?_)
 obtain ⟨m3, z3, rfl, h31, h32, hz3, hk3, hs3⟩ := h7
 repeat first | refine mI ?_ | refine mF ?_ | refine mv ?_ | refine nl hKF ?_ | refine rg fun KF hKF => ?_
 refine WpO.do (WpX.conD hn rfl rfl (by simp only [↓nrmL, nrmZ, qe, ↓reduceIte, qa, ze, zn, List.map] <;> rfl) (K_median (a := m1) (b := m2) (c := m3) hU hs3 hl hsp hk3 (by omega) (by omega) (by omega) (by omega) hn40) fun v H4 h8 => ?_)
 obtain ⟨m, z4, rfl, h41, hz4, hk4, hs4⟩ := h8
 haveI := hk4
 repeat first | refine mI ?_ | refine mB ?_ | refine Fo.ld rfl rfl ?_ | refine b0 ?_ | refine nl hKF ?_ | refine sq ?_ | refine rg fun KF hKF => ?_ | refine Wp.block ?_ | dsimp only
 cases q0 : (((z4 : Nat) : Int) == 0)
 ·cases q1 : (((z4 : Nat) : Int) == 12)
  ·skip
   repeat first | refine mI ?_ | refine mB ?_ | refine bn rfl rfl rfl (by simp only [q0, q1]; rfl) ?_ | refine nl hKF ?_ | refine sq ?_ | refine rg fun KF hKF => ?_ | refine cf rfl ?_ | refine rt ?_ | dsimp only
   refine rz trivial ?_
   exact ⟨m, 0, rfl, by omega, by omega, by decide, hs4⟩
  ·skip
   repeat first | refine mI ?_ | refine mB ?_ | refine bn rfl rfl rfl (by simp only [q0, q1]; rfl) ?_ | refine nl hKF ?_ | refine sq ?_ | refine rg fun KF hKF => ?_ | refine ct rfl ?_ | refine cf rfl ?_ | refine rt ?_ | dsimp only
   refine rz trivial ?_
   exact ⟨m, 2, rfl, by omega, by omega, by decide, hs4⟩
 ·skip
  repeat first | refine mI ?_ | refine nl hKF ?_ | refine sq ?_ | refine rg fun KF hKF => ?_ | refine ct rfl ?_ | refine rt ?_ | dsimp only
  refine rz trivial ?_
  exact ⟨m, 1, rfl, by omega, by omega, by decide, hs4⟩
end Go.Am

namespace Go.Am
open Go
theorem Wp.cut {call : ACall} {lf : Nat} {fr : AFrame} {H : AHeap} {Q : RExit → AFrame → AHeap → Prop} {a : RCode} {σ : Type} (L : σ → List (Nat × AVal)) (PH : σ → AHeap → Prop) (h1 : ∀ s g H', PH s H' → Q .normal (updL (L s) g) H') (h2 : Wp call lf a fr H fun x fr' H' => match x with | .normal => ∃ s, agrees (L s) fr' ∧ PH s H' | e => Q e fr' H') : Wp call lf a fr H Q :=
  Wp.mono h2 fun x fr' H' h => by
    cases x with
    | normal =>
      obtain ⟨s, h3, h4⟩ := h
      have := h1 s fr' H' h4
      rwa [updL_agrees h3] at this
    | exit id => exact h
    | ret => exact h
theorem Wp.cutQ {call : ACall} {lf : Nat} {fr : AFrame} {H : AHeap} {Q : RExit → AFrame → AHeap → Prop} {a : RCode} {x0 : RExit} {σ : Type} (L : σ → List (Nat × AVal)) (PH : σ → AHeap → Prop) (h1 : ∀ s g H', PH s H' → Q x0 (updL (L s) g) H') (h2 : Wp call lf a fr H fun x fr' H' => x = x0 ∧ ∃ s, agrees (L s) fr' ∧ PH s H') : Wp call lf a fr H Q :=
  Wp.mono h2 fun x fr' H' h => by
    obtain ⟨rfl, s, h3, h4⟩ := h
    have := h1 s fr' H' h4
    rwa [updL_agrees h3] at this
end Go.Am

namespace Go.Am
open Go
open Nat renaming reduceEqDiff → qe, reduceAdd → qa
open Int renaming reduceBEq → ze, reduceBNe → zn
attribute [local irreducible] Wp WpO WpX WpE
theorem K_reverse {H0 H : AHeap} {p : AVal} {n a b : Nat} {F : FuncId} {U : AVal → Prop} {K : AVal → Int} {cs : List AVal} (hU : SrtU ext prog H0 p F U K) (hs : SrtS H0 p n U cs H) (hab : a < b) (hb : b ≤ n) (hn40 : n ≤ 2 ^ 40) : Con ext prog 9 118 [p, .int .i64 (a : Int), .int .i64 (b : Int), .func (.func F) [] []] H fun _ H' => ∃ cs', SrtS H0 p n U cs' H' ∧ Pm a b cs cs' := by
 refine con_of (show prog 118 = some c118 from rfl) rfl rfl fun N hn => ?_
 haveI := hs.sl.one
 have e1 : IntKind.i64.wrap ((b : Int) - 1) = ((b - 1 : Nat) : Int) := by rw [w64 (by omega)]; omega
 repeat first | refine mI ?_ | refine bn rfl rfl rfl (by simp only [↓nrmL, nrmZ, qe, ↓reduceIte, qa, ze, zn, e1]; rfl) ?_ | refine nl hKF ?_ | refine sq ?_ | refine rg fun KF hKF => ?_ | refine Wp.block ?_ | dsimp only
 refine Wp.loopS (σ := Nat × Nat × List AVal) [8, 9, 13, 14, 15, 16, 17, 18, 19, 20, 21, 22, 23, 24, 25, 26, 27, 28, 29, 30, 31, 32, 33] (fun s => [(8, .int .i64 (s.1 : Int)), (9, .int .i64 (s.2.1 : Int))]) (fun _ s H2 => a ≤ s.1 ∧ s.1 + s.2.1 + 1 = a + b ∧ SrtS H0 p n U s.2.2 H2 ∧ Pm a b cs s.2.2) (fun s => s.2.1) (a, b - 1, cs) rfl (fun _ => rfl) ⟨rfl, rfl, trivial⟩ ⟨Nat.le_refl _, by dsimp only; omega, hs, Pm.refl _ _ _⟩ (by unfold fuel0 at hn; dsimp only; omega) ?_
 rintro ⟨i, j, cs1⟩ g H2 ⟨h1, h2, hs2, hp2⟩
 dsimp only at h1 h2 hs2 hp2
 simp only [↓nrmL, nrmZ, qe, ↓reduceIte, qa, ze, zn]
 cases hij : decide ((i : Int) < (j : Int))
 ·skip
  refine sq ?_
  refine sq ?_
  refine rg fun KF hKF => ?_
  refine mI ?_
  refine mI ?_
  refine bn rfl rfl rfl (by simp only [↓nrmL, nrmZ, qe, ↓reduceIte, qa, ze, zn, hij]; rfl) ?_
  refine nl hKF ?_
  refine cf rfl ?_
  refine xi ?_
  dsimp only
  refine rz trivial ?_
  exact ⟨cs1, hs2, hp2⟩
 have hij2 := of_decide_eq_true hij
 have e2 := wa1 (a := i) (by omega)
 have e3 : IntKind.i64.wrap ((j : Int) - 1) = ((j - 1 : Nat) : Int) := by rw [w64 (by omega)]; omega
 repeat first | refine mI ?_ | refine bn rfl rfl rfl (by simp only [↓nrmL, nrmZ, qe, ↓reduceIte, qa, ze, zn, hij]; rfl) ?_ | refine nl hKF ?_ | refine sq ?_ | refine rg fun KF hKF => ?_ | refine ct rfl ?_ | refine sk ?_ | refine Wp.block ?_ | dsimp only
 haveI := hs2.sl
 haveI := hs2.wr
 have hwl := hs2.len
 have cw1 := cAt_some (cs := cs1) (i := i) (by omega)
 have cw2 := cAt_some (cs := cs1) (i := j) (by omega)
 haveI := hU.one _ (hs2.mem (i) (by omega))
 haveI := hU.one _ (hs2.mem (j) (by omega))
 refine Fr.dregion0 rfl fun KF hKF => ?_
 repeat first | refine Fe.pure rfl rfl (by simp only [↓nrmL, nrmZ, qe, ↓reduceIte, qa, ze, zn]; rfl) ?_ | (refine Fe.pure rfl (exec_idxP (by (try simp only [↓nrmL, nrmZ, qe, ↓reduceIte, qa, ze, zn]); rfl) rfl ?_) (by simp only [↓nrmL, nrmZ, qe, ↓reduceIte, qa, ze, zn]; rfl) ?_; (focus omega))
 refine Fe.read rfl (exec_ldP (p := p) (j := j) rfl cw2) rfl trivial ?_
 refine Fe.pure rfl rfl (by simp only [↓nrmL, nrmZ, qe, ↓reduceIte, qa, ze, zn]; rfl) ?_
 refine Fe.pure rfl rfl (by simp only [↓nrmL, nrmZ, qe, ↓reduceIte, qa, ze, zn]; rfl) ?_
 refine Fe.pure rfl (exec_idxP (by (try simp only [↓nrmL, nrmZ, qe, ↓reduceIte, qa, ze, zn]); rfl) rfl ?_) (by simp only [↓nrmL, nrmZ, qe, ↓reduceIte, qa, ze, zn]; rfl) ?_; (focus omega)
 refine Fe.read rfl (exec_ldP (p := p) (j := i) rfl cw1) rfl trivial ?_
 refine Fe.pure rfl (exec_idxP (by (try simp only [↓nrmL, nrmZ, qe, ↓reduceIte, qa, ze, zn]); rfl) rfl ?_) (by simp only [↓nrmL, nrmZ, qe, ↓reduceIte, qa, ze, zn]; rfl) ?_; (focus omega)
 refine WpE.stC (p := p) (j := i) (v := cAt cs1 (j)) rfl rfl rfl (by omega) fun Hw1 q1 q2 q3 => ar ?_
 refine Fe.pure rfl (exec_idxP (by (try simp only [↓nrmL, nrmZ, qe, ↓reduceIte, qa, ze, zn]); rfl) rfl ?_) (by simp only [↓nrmL, nrmZ, qe, ↓reduceIte, qa, ze, zn]; rfl) ?_; (focus omega)
 refine WpE.stC (p := p) (j := j) (v := cAt cs1 (i)) rfl rfl rfl (by rw [List.length_set]; omega) fun Hw q4 q5 q6 => ar ?_
 have hw : SrtS H0 p n U (swp cs1 (i) (j)) Hw := hs2.swp (by omega) (by omega) q4 q5 (q3.trans q6)
 have hwp : Pm a b cs1 (swp cs1 (i) (j)) := Pm.swp (by omega) (by omega) (by omega)
 refine WpE.nil (hKF _ _ ?_)
 simp only [e2, e3]
 repeat first | refine mI ?_ | refine bn rfl rfl rfl (by simp only [↓nrmL, nrmZ, qe, ↓reduceIte, qa, ze, zn, e2, e3]; rfl) ?_ | refine nl hKF ?_ | refine sq ?_ | refine rg fun KF hKF => ?_ | dsimp only
 exact ⟨(i + 1, j - 1, swp cs1 i j), by dsimp only; omega, ⟨rfl, rfl, trivial⟩, by dsimp only; omega, by dsimp only; omega, hw, hp2.trans hwp⟩
theorem K_partition {H0 H : AHeap} {p : AVal} {n a b pv : Nat} {F : FuncId} {U : AVal → Prop} {K : AVal → Int} {cs : List AVal} (hU : SrtU ext prog H0 p F U K) (hs : SrtS H0 p n U cs H) (hpv : a ≤ pv ∧ pv < b) (hb : b ≤ n) (hn40 : n ≤ 2 ^ 40) : Con ext prog 9 121 [p, .int .i64 (a : Int), .int .i64 (b : Int), .int .i64 (pv : Int), .func (.func F) [] []] H fun v H' => ∃ (m : Nat) (f : Bool) (cs' : List AVal), v = .tuple [.int .i64 (m : Int), .bool f] ∧ a ≤ m ∧ m < b ∧ SrtS H0 p n U cs' H' ∧ Pm a b cs cs' ∧ (∀ t, a ≤ t → t < m → K (cAt cs' t) < K (cAt cs' m)) ∧ (∀ t, m < t → t < b → ¬ K (cAt cs' t) < K (cAt cs' m)) := by
 refine con_of (show prog 121 = some c121 from rfl) rfl rfl fun N hn => ?_
 haveI := hs.sl.one
 have e2 := wa1 (a := a) (by omega)
 have e3 : IntKind.i64.wrap ((b : Int) - 1) = ((b - 1 : Nat) : Int) := by rw [w64 (by omega)]; omega
 refine sq ?_
 refine rg fun KF hKF => ?_
 refine mI ?_
 refine mB ?_
 refine nl hKF ?_
 refine sq ?_
 haveI := hs.sl
 haveI := hs.wr
 have hwl := hs.len
 have cw1 := cAt_some (cs := cs) (i := a) (by omega)
 have cw2 := cAt_some (cs := cs) (i := pv) (by omega)
 haveI := hU.one _ (hs.mem (a) (by omega))
 haveI := hU.one _ (hs.mem (pv) (by omega))
 refine Fr.dregion0 rfl fun KF hKF => ?_
 repeat first | refine Fe.pure rfl rfl (by simp only [↓nrmL, nrmZ, qe, ↓reduceIte, qa, ze, zn]; rfl) ?_ | (refine Fe.pure rfl (exec_idxP (by (try simp only [↓nrmL, nrmZ, qe, ↓reduceIte, qa, ze, zn]); rfl) rfl ?_) (by simp only [↓nrmL, nrmZ, qe, ↓reduceIte, qa, ze, zn]; rfl) ?_; (focus omega))
 refine Fe.read rfl (exec_ldP (p := p) (j := pv) rfl cw2) rfl trivial ?_
 refine Fe.pure rfl rfl (by simp only [↓nrmL, nrmZ, qe, ↓reduceIte, qa, ze, zn]; rfl) ?_
 refine Fe.pure rfl rfl (by simp only [↓nrmL, nrmZ, qe, ↓reduceIte, qa, ze, zn]; rfl) ?_
 refine Fe.pure rfl (exec_idxP (by (try simp only [↓nrmL, nrmZ, qe, ↓reduceIte, qa, ze, zn]); rfl) rfl ?_) (by simp only [↓nrmL, nrmZ, qe, ↓reduceIte, qa, ze, zn]; rfl) ?_; (focus omega)
 refine Fe.read rfl (exec_ldP (p := p) (j := a) rfl cw1) rfl trivial ?_
 refine Fe.pure rfl (exec_idxP (by (try simp only [↓nrmL, nrmZ, qe, ↓reduceIte, qa, ze, zn]); rfl) rfl ?_) (by simp only [↓nrmL, nrmZ, qe, ↓reduceIte, qa, ze, zn]; rfl) ?_; (focus omega)
 refine WpE.stC (p := p) (j := a) (v := cAt cs (pv)) rfl rfl rfl (by omega) fun Hw1 q1 q2 q3 => ar ?_
 refine Fe.pure rfl (exec_idxP (by (try simp only [↓nrmL, nrmZ, qe, ↓reduceIte, qa, ze, zn]); rfl) rfl ?_) (by simp only [↓nrmL, nrmZ, qe, ↓reduceIte, qa, ze, zn]; rfl) ?_; (focus omega)
 refine WpE.stC (p := p) (j := pv) (v := cAt cs (a)) rfl rfl rfl (by rw [List.length_set]; omega) fun Hw q4 q5 q6 => ar ?_
 have hw : SrtS H0 p n U (swp cs (a) (pv)) Hw := hs.swp (by omega) (by omega) q4 q5 (q3.trans q6)
 have hwp : Pm a b cs (swp cs (a) (pv)) := Pm.swp (by omega) (by omega) (by omega)
 refine WpE.nil (hKF _ _ ?_)
 obtain ⟨cs1, hcs1⟩ : ∃ cs1, swp cs a pv = cs1 := ⟨_, rfl⟩
 rw [hcs1] at hw hwp
 have hwp' := hwp
 clear hwp
 simp only [e2, e3]
 repeat first | refine mI ?_ | refine bn rfl rfl rfl (by simp only [↓nrmL, nrmZ, qe, ↓reduceIte, qa, ze, zn, e2, e3]; rfl) ?_ | refine nl hKF ?_ | refine sq ?_ | refine rg fun KF hKF => ?_ | refine Wp.block ?_ | dsimp only
 obtain ⟨j, hj⟩ : ∃ j, b - 1 = j := ⟨_, rfl⟩
 rw [hj]
 have fin : ∀ (cs2 : List AVal) (i j : Nat), a ≤ j → j < b → i = j + 1 → j < cs2.length → a < cs2.length → (∀ t, a < t → t < i → K (cAt cs2 t) < K (cAt cs2 a)) → (∀ t, j < t → t < b → ¬ K (cAt cs2 t) < K (cAt cs2 a)) → (∀ t, a ≤ t → t < j → K (cAt (swp cs2 j a) t) < K (cAt (swp cs2 j a) j)) ∧ (∀ t, j < t → t < b → ¬ K (cAt (swp cs2 j a) t) < K (cAt (swp cs2 j a) j)) := fun cs2 i j h1 h2 h3 h4 h5 hlow hhigh => by
  have ej : cAt (swp cs2 j a) j = cAt cs2 a := by
   rw [cAt_swp h4 h5]
   by_cases e : j = a
   ·subst e; rw [if_pos rfl]
   ·rw [if_neg e, if_pos rfl]
  refine ⟨fun t ht1 ht2 => ?_, fun t ht1 ht2 => ?_⟩
  ·rw [ej, cAt_swp h4 h5]
   by_cases e : t = a
   ·rw [if_pos e]; exact hlow j (by omega) (by omega)
   ·rw [if_neg e, if_neg (by omega)]; exact hlow t (by omega) (by omega)
  ·rw [ej, cAt_swp h4 h5, if_neg (by omega), if_neg (by omega)]
   exact hhigh t ht1 ht2
 refine Wp.cutQ (x0 := .exit 0) (σ := Nat) (fun i => [(0, p), (1, .int .i64 (a : Int)), (2, .int .i64 (b : Int)), (4, .func (.func F) [] []), (12, .int .i64 (i : Int)), (13, .int .i64 (j : Int))]) (fun i H' => a + 1 ≤ i ∧ i ≤ j + 1 ∧ (∀ t, a < t → t < i → K (cAt cs1 t) < K (cAt cs1 a)) ∧ (i = j + 1 ∨ ¬ K (cAt cs1 i) < K (cAt cs1 a)) ∧ SrtS H0 p n U cs1 H') ?_ ?_
 rotate_left
 ·refine Wp.loopS [12, 32, 33, 34, 35, 36, 37, 38, 39, 40, 41, 42, 43, 44, 45, 46, 47, 48, 49] (fun i : Nat => [(12, .int .i64 (i : Int))]) (fun _ i H2 => a + 1 ≤ i ∧ i ≤ j + 1 ∧ (∀ t, a < t → t < i → K (cAt cs1 t) < K (cAt cs1 a)) ∧ SrtS H0 p n U cs1 H2) (fun i => j + 1 - i) (a + 1) rfl (fun _ => rfl) ⟨rfl, trivial⟩ ⟨by omega, by omega, fun t h1 h2 => by omega, hw⟩ (by unfold fuel0 at hn; omega) ?_
  rintro i g H2 ⟨h1, h2, hlow, hs2⟩
  simp only [↓nrmL, nrmZ, qe, ↓reduceIte, qa, ze, zn]
  haveI := hs2.sl.one
  have e1 := wa1 (a := i) (by omega)
  cases hij : decide ((i : Int) ≤ (j : Int))
  ·have hij2 := of_decide_eq_false hij
   refine sq ?_
   refine sq ?_
   refine Fr.dregion0 rfl fun KF hKF => ?_
   repeat first | refine Fe.pure rfl rfl (by simp only [↓nrmL, nrmZ, qe, ↓reduceIte, qa, ze, zn, hij]; rfl) ?_ | refine Fe.skip rfl ?_ | refine WpE.nil (hKF _ _ ?_)
   refine cf rfl ?_
   refine xi ?_
   dsimp only
   exact ⟨rfl, i, ⟨rfl, rfl, rfl, rfl, rfl, rfl, trivial⟩, h1, h2, hlow, Or.inl (by omega), hs2⟩
  have hij2 := of_decide_eq_true hij
  haveI := hs2.sl
  have hwl := hs2.len
  have c1 := cAt_some (cs := cs1) (i := i) (by omega)
  have c2 := cAt_some (cs := cs1) (i := a) (by omega)
  have u1 := hs2.mem (i) (by omega)
  have u2 := hs2.mem (a) (by omega)
  haveI := hU.one _ u1
  haveI := hU.one _ u2
  haveI : PureCon ext prog F [cAt cs1 (i), cAt cs1 (a)] H2 8 (.int .i64 (cmpI (K (cAt cs1 (i))) (K (cAt cs1 (a))))) := hU.cmp H2 hs2.ex _ _ u1 u2
  refine sq ?_
  refine sq ?_
  refine Fr.dregion0 rfl fun KF hKF => ?_
  repeat first | refine Fe.pure rfl rfl (by simp only [↓nrmL, nrmZ, qe, ↓reduceIte, qa, ze, zn, hij]; rfl) ?_ | (refine Fe.pure rfl (exec_idxP (by (try simp only [↓nrmL, nrmZ, qe, ↓reduceIte, qa, ze, zn, hij]); rfl) rfl ?_) (by simp only [↓nrmL, nrmZ, qe, ↓reduceIte, qa, ze, zn, hij]; rfl) ?_; (focus omega))
  refine Fe.read rfl (exec_ldP (p := p) (j := i) rfl c1) rfl trivial ?_
  simp only [↓nrmL, nrmZ, qe, ↓reduceIte, qa, ze, zn, hij]
  refine Fe.pure rfl rfl (by simp only [↓nrmL, nrmZ, qe, ↓reduceIte, qa, ze, zn, hij]; rfl) ?_
  refine Fe.pure rfl rfl (by simp only [↓nrmL, nrmZ, qe, ↓reduceIte, qa, ze, zn, hij]; rfl) ?_
  refine Fe.pure rfl (exec_idxP (by (try simp only [↓nrmL, nrmZ, qe, ↓reduceIte, qa, ze, zn, hij]); rfl) rfl ?_) (by simp only [↓nrmL, nrmZ, qe, ↓reduceIte, qa, ze, zn, hij]; rfl) ?_; (focus omega)
  refine Fe.read rfl (exec_ldP (p := p) (j := a) rfl c2) rfl trivial ?_
  cases hlt : decide (K (cAt cs1 (i)) < K (cAt cs1 (a)))
  ·have hc2 : decide (cmpI (K (cAt cs1 (i))) (K (cAt cs1 (a))) < 0) = false := by rw [cmpI_neg]; exact hlt
   have hlt' := of_decide_eq_false hlt
   simp only [↓nrmL, nrmZ, qe, ↓reduceIte, qa, ze, zn, hc2]
   repeat first | refine Fe.pure rfl rfl (by simp only [↓nrmL, nrmZ, qe, ↓reduceIte, qa, ze, zn, hc2]; rfl) ?_ | (refine Fe.pcall (v' := ?_) rfl hn rfl (by simp only [↓nrmL, nrmZ, qe, ↓reduceIte, qa, ze, zn, hc2, List.map]; rfl) rfl ?hv fun _ _ => ar ?_; case hv => rfl) | refine WpE.nil (hKF _ _ ?_)
   rename AHeap => H4
   rename ExtI H2 H4 => hx4
   refine cf rfl ?_
   refine xi ?_
   dsimp only
   exact ⟨rfl, i, ⟨rfl, rfl, rfl, rfl, rfl, rfl, trivial⟩, h1, h2, hlow, Or.inr hlt', hs2.ext hx4.ext⟩
  have hc2 : decide (cmpI (K (cAt cs1 (i))) (K (cAt cs1 (a))) < 0) = true := by rw [cmpI_neg]; exact hlt
  have hlt' := of_decide_eq_true hlt
  simp only [↓nrmL, nrmZ, qe, ↓reduceIte, qa, ze, zn, hc2]
  repeat first | refine Fe.pure rfl rfl (by simp only [↓nrmL, nrmZ, qe, ↓reduceIte, qa, ze, zn, hc2]; rfl) ?_ | (refine Fe.pcall (v' := ?_) rfl hn rfl (by simp only [↓nrmL, nrmZ, qe, ↓reduceIte, qa, ze, zn, hc2, List.map]; rfl) rfl ?hv fun _ _ => ar ?_; case hv => rfl) | refine WpE.nil (hKF _ _ ?_)
  rename AHeap => H4
  rename ExtI H2 H4 => hx4
  simp only [e1]
  refine ct rfl ?_
  refine sk ?_
  refine Wp.block ?_
  refine rg fun KF hKF => ?_
  refine mI ?_
  refine bn rfl rfl rfl (by simp only [↓nrmL, nrmZ, qe, ↓reduceIte, qa, ze, zn, e1]; rfl) ?_
  refine mI ?_
  refine nl hKF ?_
  dsimp only
  exact ⟨i + 1, by omega, ⟨rfl, trivial⟩, by omega, by omega, fun t ht1 ht2 => by
   by_cases e : t = i
   ·subst e; exact hlt'
   ·exact hlow t ht1 (by omega), hs2.ext hx4.ext⟩
 rintro i g1 H2 ⟨hi1, hi2, hlow, hi3, hs2⟩
 dsimp only
 haveI := hs2.sl.one
 simp only [↓nrmL, nrmZ, qe, ↓reduceIte, qa, ze, zn]
 refine sq ?_
 refine Wp.block ?_
 dsimp only
 obtain ⟨jm, hjm⟩ : ∃ jm, j = jm := ⟨_, rfl⟩
 refine Wp.cutQ (x0 := .exit 2) (σ := Nat) (fun j => [(0, p), (1, .int .i64 (a : Int)), (2, .int .i64 (b : Int)), (4, .func (.func F) [] []), (12, .int .i64 (i : Int)), (13, .int .i64 (j : Int))]) (fun j H' => j ≤ jm ∧ i ≤ j + 1 ∧ a ≤ j ∧ j < b ∧ (∀ t, j < t → t < b → ¬ K (cAt cs1 t) < K (cAt cs1 a)) ∧ (i = j + 1 ∨ K (cAt cs1 j) < K (cAt cs1 a)) ∧ SrtS H0 p n U cs1 H') ?_ ?_
 rotate_left
 ·refine Wp.loopS [13, 50, 51, 52, 53, 54, 55, 56, 57, 58, 59, 60, 61, 62, 63, 64, 65, 66, 67, 68] (fun j : Nat => [(13, .int .i64 (j : Int))]) (fun _ j H2 => j ≤ jm ∧ i ≤ j + 1 ∧ a ≤ j ∧ j < b ∧ (∀ t, j < t → t < b → ¬ K (cAt cs1 t) < K (cAt cs1 a)) ∧ SrtS H0 p n U cs1 H2) (fun j => j) j rfl (fun _ => rfl) ⟨rfl, trivial⟩ ⟨by omega, by omega, by omega, by omega, fun t h1 h2 => by omega, hs2⟩ (by unfold fuel0 at hn; omega) ?_
  rintro j g H2 ⟨h0, h1, h2, h3, hhigh, hs2⟩
  simp only [↓nrmL, nrmZ, qe, ↓reduceIte, qa, ze, zn]
  haveI := hs2.sl.one
  cases hij : decide ((i : Int) ≤ (j : Int))
  ·have hij2 := of_decide_eq_false hij
   refine sq ?_
   refine sq ?_
   refine Fr.dregion0 rfl fun KF hKF => ?_
   repeat first | refine Fe.pure rfl rfl (by simp only [↓nrmL, nrmZ, qe, ↓reduceIte, qa, ze, zn, hij]; rfl) ?_ | refine Fe.skip rfl ?_ | refine WpE.nil (hKF _ _ ?_)
   refine cf rfl ?_
   refine xi ?_
   dsimp only
   exact ⟨rfl, j, ⟨rfl, rfl, rfl, rfl, rfl, rfl, trivial⟩, h0, h1, h2, h3, hhigh, Or.inl (by omega), hs2⟩
  have hij2 := of_decide_eq_true hij
  obtain ⟨j0, rfl⟩ : ∃ j0, j = j0 + 1 := ⟨j - 1, by omega⟩
  have e1 : IntKind.i64.wrap (((j0 + 1 : Nat) : Int) - 1) = (j0 : Int) := by rw [w64 (by omega)]; omega
  haveI := hs2.sl
  have hwl := hs2.len
  have c1 := cAt_some (cs := cs1) (i := j0 + 1) (by omega)
  have c2 := cAt_some (cs := cs1) (i := a) (by omega)
  have u1 := hs2.mem (j0 + 1) (by omega)
  have u2 := hs2.mem (a) (by omega)
  haveI := hU.one _ u1
  haveI := hU.one _ u2
  haveI : PureCon ext prog F [cAt cs1 (j0 + 1), cAt cs1 (a)] H2 8 (.int .i64 (cmpI (K (cAt cs1 (j0 + 1))) (K (cAt cs1 (a))))) := hU.cmp H2 hs2.ex _ _ u1 u2
  refine sq ?_
  refine sq ?_
  refine Fr.dregion0 rfl fun KF hKF => ?_
  repeat first | refine Fe.pure rfl rfl (by simp only [↓nrmL, nrmZ, qe, ↓reduceIte, qa, ze, zn, hij]; rfl) ?_ | (refine Fe.pure rfl (exec_idxP (by (try simp only [↓nrmL, nrmZ, qe, ↓reduceIte, qa, ze, zn, hij]); rfl) rfl ?_) (by simp only [↓nrmL, nrmZ, qe, ↓reduceIte, qa, ze, zn, hij]; rfl) ?_; (focus omega))
  refine Fe.read rfl (exec_ldP (p := p) (j := j0 + 1) rfl c1) rfl trivial ?_
  simp only [↓nrmL, nrmZ, qe, ↓reduceIte, qa, ze, zn, hij]
  refine Fe.pure rfl rfl (by simp only [↓nrmL, nrmZ, qe, ↓reduceIte, qa, ze, zn, hij]; rfl) ?_
  refine Fe.pure rfl rfl (by simp only [↓nrmL, nrmZ, qe, ↓reduceIte, qa, ze, zn, hij]; rfl) ?_
  refine Fe.pure rfl (exec_idxP (by (try simp only [↓nrmL, nrmZ, qe, ↓reduceIte, qa, ze, zn, hij]); rfl) rfl ?_) (by simp only [↓nrmL, nrmZ, qe, ↓reduceIte, qa, ze, zn, hij]; rfl) ?_; (focus omega)
  refine Fe.read rfl (exec_ldP (p := p) (j := a) rfl c2) rfl trivial ?_
  cases hlt : decide (K (cAt cs1 (j0 + 1)) < K (cAt cs1 (a)))
  ·have hc2 : decide (cmpI (K (cAt cs1 (j0 + 1))) (K (cAt cs1 (a))) < 0) = false := by rw [cmpI_neg]; exact hlt
   have hlt' := of_decide_eq_false hlt
   simp only [↓nrmL, nrmZ, qe, ↓reduceIte, qa, ze, zn, hc2]
   repeat first | refine Fe.pure rfl rfl (by simp only [↓nrmL, nrmZ, qe, ↓reduceIte, qa, ze, zn, hc2]; rfl) ?_ | (refine Fe.pcall (v' := ?_) rfl hn rfl (by simp only [↓nrmL, nrmZ, qe, ↓reduceIte, qa, ze, zn, hc2, List.map]; rfl) rfl ?hv fun _ _ => ar ?_; case hv => rfl) | refine WpE.nil (hKF _ _ ?_)
   rename AHeap => H4
   rename ExtI H2 H4 => hx4
   simp only [e1]
   refine ct rfl ?_
   refine sk ?_
   refine Wp.block ?_
   refine rg fun KF hKF => ?_
   refine mI ?_
   refine bn rfl rfl rfl (by simp only [↓nrmL, nrmZ, qe, ↓reduceIte, qa, ze, zn, e1]; rfl) ?_
   refine mI ?_
   refine nl hKF ?_
   dsimp only
   exact ⟨j0, by omega, ⟨rfl, trivial⟩, by omega, by omega, by omega, by omega, fun t ht1 ht2 => by
    by_cases e : t = j0 + 1
    ·subst e; exact hlt'
    ·exact hhigh t (by omega) ht2, hs2.ext hx4.ext⟩
  have hc2 : decide (cmpI (K (cAt cs1 (j0 + 1))) (K (cAt cs1 (a))) < 0) = true := by rw [cmpI_neg]; exact hlt
  have hlt' := of_decide_eq_true hlt
  simp only [↓nrmL, nrmZ, qe, ↓reduceIte, qa, ze, zn, hc2]
  repeat first | refine Fe.pure rfl rfl (by simp only [↓nrmL, nrmZ, qe, ↓reduceIte, qa, ze, zn, hc2]; rfl) ?_ | (refine Fe.pcall (v' := ?_) rfl hn rfl (by simp only [↓nrmL, nrmZ, qe, ↓reduceIte, qa, ze, zn, hc2, List.map]; rfl) rfl ?hv fun _ _ => ar ?_; case hv => rfl) | refine WpE.nil (hKF _ _ ?_)
  rename AHeap => H4
  rename ExtI H2 H4 => hx4
  refine cf rfl ?_
  refine xi ?_
  dsimp only
  exact ⟨rfl, j0 + 1, ⟨rfl, rfl, rfl, rfl, rfl, rfl, trivial⟩, h0, h1, h2, h3, hhigh, Or.inr hlt', hs2.ext hx4.ext⟩
 rintro j g2 H3 ⟨hj0, hj1, hj2, hj3, hhigh, hj4, hs3⟩
 dsimp only
 haveI := hs3.sl.one
 simp only [↓nrmL, nrmZ, qe, ↓reduceIte, qa, ze, zn]
 cases hgt : decide ((i : Int) > (j : Int))
 rotate_left
 ·have hgt2 := of_decide_eq_true hgt
  repeat first | refine mI ?_ | refine bn rfl rfl rfl (by simp only [↓nrmL, nrmZ, qe, ↓reduceIte, qa, ze, zn, hgt]; rfl) ?_ | refine nl hKF ?_ | refine sq ?_ | refine rg fun KF hKF => ?_ | refine ct rfl ?_
  haveI := hs3.sl
  haveI := hs3.wr
  have hwl := hs3.len
  have cw1 := cAt_some (cs := cs1) (i := j) (by omega)
  have cw2 := cAt_some (cs := cs1) (i := a) (by omega)
  haveI := hU.one _ (hs3.mem (j) (by omega))
  haveI := hU.one _ (hs3.mem (a) (by omega))
  refine Fr.dregion0 rfl fun KF hKF => ?_
  repeat first | refine Fe.pure rfl rfl (by simp only [↓nrmL, nrmZ, qe, ↓reduceIte, qa, ze, zn]; rfl) ?_ | (refine Fe.pure rfl (exec_idxP (by (try simp only [↓nrmL, nrmZ, qe, ↓reduceIte, qa, ze, zn]); rfl) rfl ?_) (by simp only [↓nrmL, nrmZ, qe, ↓reduceIte, qa, ze, zn]; rfl) ?_; (focus omega))
  refine Fe.read rfl (exec_ldP (p := p) (j := a) rfl cw2) rfl trivial ?_
  refine Fe.pure rfl rfl (by simp only [↓nrmL, nrmZ, qe, ↓reduceIte, qa, ze, zn]; rfl) ?_
  refine Fe.pure rfl rfl (by simp only [↓nrmL, nrmZ, qe, ↓reduceIte, qa, ze, zn]; rfl) ?_
  refine Fe.pure rfl (exec_idxP (by (try simp only [↓nrmL, nrmZ, qe, ↓reduceIte, qa, ze, zn]); rfl) rfl ?_) (by simp only [↓nrmL, nrmZ, qe, ↓reduceIte, qa, ze, zn]; rfl) ?_; (focus omega)
  refine Fe.read rfl (exec_ldP (p := p) (j := j) rfl cw1) rfl trivial ?_
  refine Fe.pure rfl (exec_idxP (by (try simp only [↓nrmL, nrmZ, qe, ↓reduceIte, qa, ze, zn]); rfl) rfl ?_) (by simp only [↓nrmL, nrmZ, qe, ↓reduceIte, qa, ze, zn]; rfl) ?_; (focus omega)
  refine WpE.stC (p := p) (j := j) (v := cAt cs1 (a)) rfl rfl rfl (by omega) fun Hw1 q1 q2 q3 => ar ?_
  refine Fe.pure rfl (exec_idxP (by (try simp only [↓nrmL, nrmZ, qe, ↓reduceIte, qa, ze, zn]); rfl) rfl ?_) (by simp only [↓nrmL, nrmZ, qe, ↓reduceIte, qa, ze, zn]; rfl) ?_; (focus omega)
  refine WpE.stC (p := p) (j := a) (v := cAt cs1 (j)) rfl rfl rfl (by rw [List.length_set]; omega) fun Hw q4 q5 q6 => ar ?_
  have hw : SrtS H0 p n U (swp cs1 (j) (a)) Hw := hs3.swp (by omega) (by omega) q4 q5 (q3.trans q6)
  have hwp : Pm a b cs1 (swp cs1 (j) (a)) := Pm.swp (by omega) (by omega) (by omega)
  refine WpE.nil (hKF _ _ ?_)
  refine sq ?_
  refine rg fun KF hKF => ?_
  refine mI ?_
  refine mI ?_
  refine mB ?_
  refine nl hKF ?_
  refine rt ?_
  dsimp only
  refine rz trivial ?_
  exact ⟨j, true, swp cs1 j a, rfl, by omega, by omega, hw, (hwp'.trans hwp), (fin cs1 i j (by omega) (by omega) (by omega) (by omega) (by omega) hlow hhigh)⟩
 have hgt2 := of_decide_eq_false hgt
 have hKi : ¬ K (cAt cs1 i) < K (cAt cs1 a) := by
  rcases hi3 with h | h
  ·omega
  ·exact h
 have hKj : K (cAt cs1 j) < K (cAt cs1 a) := by
  rcases hj4 with h | h
  ·omega
  ·exact h
 have hijne : i ≠ j := fun e => by subst e; exact hKi hKj
 have stp : ∀ (cs2 : List AVal) (i j : Nat), a < i → i < j → j < b → j < cs2.length → (∀ t, a < t → t < i → K (cAt cs2 t) < K (cAt cs2 a)) → (∀ t, j < t → t < b → ¬ K (cAt cs2 t) < K (cAt cs2 a)) → K (cAt cs2 j) < K (cAt cs2 a) → ¬ K (cAt cs2 i) < K (cAt cs2 a) → (∀ t, a < t → t < i + 1 → K (cAt (swp cs2 i j) t) < K (cAt (swp cs2 i j) a)) ∧ (∀ t, j - 1 < t → t < b → ¬ K (cAt (swp cs2 i j) t) < K (cAt (swp cs2 i j) a)) := fun cs2 i j h1 h2 h3 h4 hlow hhigh hkj hki => by
  have ea : cAt (swp cs2 i j) a = cAt cs2 a := by rw [cAt_swp (by omega) h4, if_neg (by omega), if_neg (by omega)]
  refine ⟨fun t ht1 ht2 => ?_, fun t ht1 ht2 => ?_⟩
  ·rw [ea, cAt_swp (by omega) h4, if_neg (by omega)]
   by_cases e : t = i
   ·rw [if_pos e]; exact hkj
   ·rw [if_neg e]; exact hlow t ht1 (by omega)
  ·rw [ea, cAt_swp (by omega) h4]
   by_cases e : t = j
   ·rw [if_pos e]; exact hki
   ·rw [if_neg e, if_neg (by omega)]; exact hhigh t (by omega) ht2
 have hl3 := hs3.len
 have hstp := stp cs1 i j (by omega) (by omega) hj3 (by omega) hlow hhigh hKj hKi
 have e7 := wa1 (a := i) (by omega)
 have e8 : IntKind.i64.wrap ((j : Int) - 1) = ((j - 1 : Nat) : Int) := by rw [w64 (by omega)]; omega
 repeat first | refine mI ?_ | refine bn rfl rfl rfl (by simp only [↓nrmL, nrmZ, qe, ↓reduceIte, qa, ze, zn, hgt]; rfl) ?_ | refine nl hKF ?_ | refine sq ?_ | refine rg fun KF hKF => ?_ | refine cf rfl ?_ | refine sk ?_
 haveI := hs3.sl
 haveI := hs3.wr
 have hwl := hs3.len
 have cw1 := cAt_some (cs := cs1) (i := i) (by omega)
 have cw2 := cAt_some (cs := cs1) (i := j) (by omega)
 haveI := hU.one _ (hs3.mem (i) (by omega))
 haveI := hU.one _ (hs3.mem (j) (by omega))
 refine Fr.dregion0 rfl fun KF hKF => ?_
 repeat first | refine Fe.pure rfl rfl (by simp only [↓nrmL, nrmZ, qe, ↓reduceIte, qa, ze, zn]; rfl) ?_ | (refine Fe.pure rfl (exec_idxP (by (try simp only [↓nrmL, nrmZ, qe, ↓reduceIte, qa, ze, zn]); rfl) rfl ?_) (by simp only [↓nrmL, nrmZ, qe, ↓reduceIte, qa, ze, zn]; rfl) ?_; (focus omega))
 refine Fe.read rfl (exec_ldP (p := p) (j := j) rfl cw2) rfl trivial ?_
 refine Fe.pure rfl rfl (by simp only [↓nrmL, nrmZ, qe, ↓reduceIte, qa, ze, zn]; rfl) ?_
 refine Fe.pure rfl rfl (by simp only [↓nrmL, nrmZ, qe, ↓reduceIte, qa, ze, zn]; rfl) ?_
 refine Fe.pure rfl (exec_idxP (by (try simp only [↓nrmL, nrmZ, qe, ↓reduceIte, qa, ze, zn]); rfl) rfl ?_) (by simp only [↓nrmL, nrmZ, qe, ↓reduceIte, qa, ze, zn]; rfl) ?_; (focus omega)
 refine Fe.read rfl (exec_ldP (p := p) (j := i) rfl cw1) rfl trivial ?_
 refine Fe.pure rfl (exec_idxP (by (try simp only [↓nrmL, nrmZ, qe, ↓reduceIte, qa, ze, zn]); rfl) rfl ?_) (by simp only [↓nrmL, nrmZ, qe, ↓reduceIte, qa, ze, zn]; rfl) ?_; (focus omega)
 refine WpE.stC (p := p) (j := i) (v := cAt cs1 (j)) rfl rfl rfl (by omega) fun Hw1 q1 q2 q3 => ar ?_
 refine Fe.pure rfl (exec_idxP (by (try simp only [↓nrmL, nrmZ, qe, ↓reduceIte, qa, ze, zn]); rfl) rfl ?_) (by simp only [↓nrmL, nrmZ, qe, ↓reduceIte, qa, ze, zn]; rfl) ?_; (focus omega)
 refine WpE.stC (p := p) (j := j) (v := cAt cs1 (i)) rfl rfl rfl (by rw [List.length_set]; omega) fun Hw q4 q5 q6 => ar ?_
 have hw : SrtS H0 p n U (swp cs1 (i) (j)) Hw := hs3.swp (by omega) (by omega) q4 q5 (q3.trans q6)
 have hwp : Pm a b cs1 (swp cs1 (i) (j)) := Pm.swp (by omega) (by omega) (by omega)
 refine WpE.nil (hKF _ _ ?_)
 simp only [e7, e8]
 repeat first | refine mI ?_ | refine bn rfl rfl rfl (by simp only [↓nrmL, nrmZ, qe, ↓reduceIte, qa, ze, zn, e7, e8]; rfl) ?_ | refine nl hKF ?_ | refine sq ?_ | refine rg fun KF hKF => ?_ | refine Wp.block ?_ | dsimp only
 refine Wp.loopS (σ := Nat × Nat × List AVal) [12, 13, 105, 106, 107, 108, 109, 110, 111, 112, 113, 114, 115, 116, 117, 118, 119, 120, 121, 122, 123, 124, 125, 126, 127, 128, 129, 130, 131, 132, 133, 134, 135, 136, 137, 138, 139, 140, 141, 142, 143, 144, 145, 146, 147, 148, 149, 150, 151, 152, 153, 154, 155, 156, 157, 158, 159, 160, 161, 162] (fun s => [(12, .int .i64 (s.1 : Int)), (13, .int .i64 (s.2.1 : Int))]) (fun _ s H2 => a + 1 ≤ s.1 ∧ s.1 ≤ s.2.1 + 1 ∧ a ≤ s.2.1 ∧ s.2.1 < b ∧ (∀ t, a < t → t < s.1 → K (cAt s.2.2 t) < K (cAt s.2.2 a)) ∧ (∀ t, s.2.1 < t → t < b → ¬ K (cAt s.2.2 t) < K (cAt s.2.2 a)) ∧ SrtS H0 p n U s.2.2 H2 ∧ Pm a b cs s.2.2) (fun s => s.2.1) (i + 1, j - 1, swp cs1 i j) rfl (fun _ => rfl) ⟨rfl, rfl, trivial⟩ ⟨by dsimp only; omega, by dsimp only; omega, by dsimp only; omega, by dsimp only; omega, hstp.1, hstp.2, hw, hwp'.trans hwp⟩ (by unfold fuel0 at hn; dsimp only; omega) ?_
 rintro ⟨i0, j, cs3⟩ g3 H5 ⟨m1, m2, m3, m4, mlow, mhigh, hs5, hp5⟩
 dsimp only at m1 m2 m3 m4 mlow mhigh hs5 hp5
 have hl5 := hs5.len
 haveI := hs5.sl.one
 simp only [↓nrmL, nrmZ, qe, ↓reduceIte, qa, ze, zn]
 refine Wp.block ?_
 refine sq ?_
 refine Wp.block ?_
 dsimp only
 refine Wp.cutQ (x0 := .exit 6) (σ := Nat) (fun i => [(0, p), (1, .int .i64 (a : Int)), (2, .int .i64 (b : Int)), (4, .func (.func F) [] []), (12, .int .i64 (i : Int)), (13, .int .i64 (j : Int))]) (fun i H' => a + 1 ≤ i ∧ i ≤ j + 1 ∧ (∀ t, a < t → t < i → K (cAt cs3 t) < K (cAt cs3 a)) ∧ (i = j + 1 ∨ ¬ K (cAt cs3 i) < K (cAt cs3 a)) ∧ SrtS H0 p n U cs3 H') ?_ ?_
 rotate_left
 ·refine Wp.loopS [12, 105, 106, 107, 108, 109, 110, 111, 112, 113, 114, 115, 116, 117, 118, 119, 120, 121, 122] (fun i : Nat => [(12, .int .i64 (i : Int))]) (fun _ i H2 => a + 1 ≤ i ∧ i ≤ j + 1 ∧ (∀ t, a < t → t < i → K (cAt cs3 t) < K (cAt cs3 a)) ∧ SrtS H0 p n U cs3 H2) (fun i => j + 1 - i) (i0) rfl (fun _ => rfl) ⟨rfl, trivial⟩ ⟨by omega, by omega, mlow, hs5⟩ (by unfold fuel0 at hn; omega) ?_
  rintro i g H2 ⟨h1, h2, hlow, hs2⟩
  simp only [↓nrmL, nrmZ, qe, ↓reduceIte, qa, ze, zn]
  haveI := hs2.sl.one
  have e1 := wa1 (a := i) (by omega)
  cases hij : decide ((i : Int) ≤ (j : Int))
  ·have hij2 := of_decide_eq_false hij
   refine sq ?_
   refine sq ?_
   refine Fr.dregion0 rfl fun KF hKF => ?_
   repeat first | refine Fe.pure rfl rfl (by simp only [↓nrmL, nrmZ, qe, ↓reduceIte, qa, ze, zn, hij]; rfl) ?_ | refine Fe.skip rfl ?_ | refine WpE.nil (hKF _ _ ?_)
   refine cf rfl ?_
   refine xi ?_
   dsimp only
   exact ⟨rfl, i, ⟨rfl, rfl, rfl, rfl, rfl, rfl, trivial⟩, h1, h2, hlow, Or.inl (by omega), hs2⟩
  have hij2 := of_decide_eq_true hij
  haveI := hs2.sl
  have hwl := hs2.len
  have c1 := cAt_some (cs := cs3) (i := i) (by omega)
  have c2 := cAt_some (cs := cs3) (i := a) (by omega)
  have u1 := hs2.mem (i) (by omega)
  have u2 := hs2.mem (a) (by omega)
  haveI := hU.one _ u1
  haveI := hU.one _ u2
  haveI : PureCon ext prog F [cAt cs3 (i), cAt cs3 (a)] H2 8 (.int .i64 (cmpI (K (cAt cs3 (i))) (K (cAt cs3 (a))))) := hU.cmp H2 hs2.ex _ _ u1 u2
  refine sq ?_
  refine sq ?_
  refine Fr.dregion0 rfl fun KF hKF => ?_
  repeat first | refine Fe.pure rfl rfl (by simp only [↓nrmL, nrmZ, qe, ↓reduceIte, qa, ze, zn, hij]; rfl) ?_ | (refine Fe.pure rfl (exec_idxP (by (try simp only [↓nrmL, nrmZ, qe, ↓reduceIte, qa, ze, zn, hij]); rfl) rfl ?_) (by simp only [↓nrmL, nrmZ, qe, ↓reduceIte, qa, ze, zn, hij]; rfl) ?_; (focus omega))
  refine Fe.read rfl (exec_ldP (p := p) (j := i) rfl c1) rfl trivial ?_
  simp only [↓nrmL, nrmZ, qe, ↓reduceIte, qa, ze, zn, hij]
  refine Fe.pure rfl rfl (by simp only [↓nrmL, nrmZ, qe, ↓reduceIte, qa, ze, zn, hij]; rfl) ?_
  refine Fe.pure rfl rfl (by simp only [↓nrmL, nrmZ, qe, ↓reduceIte, qa, ze, zn, hij]; rfl) ?_
  refine Fe.pure rfl (exec_idxP (by (try simp only [↓nrmL, nrmZ, qe, ↓reduceIte, qa, ze, zn, hij]); rfl) rfl ?_) (by simp only [↓nrmL, nrmZ, qe, ↓reduceIte, qa, ze, zn, hij]; rfl) ?_; (focus omega)
  refine Fe.read rfl (exec_ldP (p := p) (j := a) rfl c2) rfl trivial ?_
  cases hlt : decide (K (cAt cs3 (i)) < K (cAt cs3 (a)))
  ·have hc2 : decide (cmpI (K (cAt cs3 (i))) (K (cAt cs3 (a))) < 0) = false := by rw [cmpI_neg]; exact hlt
   have hlt' := of_decide_eq_false hlt
   simp only [↓nrmL, nrmZ, qe, ↓reduceIte, qa, ze, zn, hc2]
   repeat first | refine Fe.pure rfl rfl (by simp only [↓nrmL, nrmZ, qe, ↓reduceIte, qa, ze, zn, hc2]; rfl) ?_ | (refine Fe.pcall (v' := ?_) rfl hn rfl (by simp only [↓nrmL, nrmZ, qe, ↓reduceIte, qa, ze, zn, hc2, List.map]; rfl) rfl ?hv fun _ _ => ar ?_; case hv => rfl) | refine WpE.nil (hKF _ _ ?_)
   rename AHeap => H4
   rename ExtI H2 H4 => hx4
   refine cf rfl ?_
   refine xi ?_
   dsimp only
   exact ⟨rfl, i, ⟨rfl, rfl, rfl, rfl, rfl, rfl, trivial⟩, h1, h2, hlow, Or.inr hlt', hs2.ext hx4.ext⟩
  have hc2 : decide (cmpI (K (cAt cs3 (i))) (K (cAt cs3 (a))) < 0) = true := by rw [cmpI_neg]; exact hlt
  have hlt' := of_decide_eq_true hlt
  simp only [↓nrmL, nrmZ, qe, ↓reduceIte, qa, ze, zn, hc2]
  repeat first | refine Fe.pure rfl rfl (by simp only [↓nrmL, nrmZ, qe, ↓reduceIte, qa, ze, zn, hc2]; rfl) ?_ | (refine Fe.pcall (v' := ?_) rfl hn rfl (by simp only [↓nrmL, nrmZ, qe, ↓reduceIte, qa, ze, zn, hc2, List.map]; rfl) rfl ?hv fun _ _ => ar ?_; case hv => rfl) | refine WpE.nil (hKF _ _ ?_)
  rename AHeap => H4
  rename ExtI H2 H4 => hx4
  simp only [e1]
  refine ct rfl ?_
  refine sk ?_
  refine Wp.block ?_
  refine rg fun KF hKF => ?_
  refine mI ?_
  refine bn rfl rfl rfl (by simp only [↓nrmL, nrmZ, qe, ↓reduceIte, qa, ze, zn, e1]; rfl) ?_
  refine mI ?_
  refine nl hKF ?_
  dsimp only
  exact ⟨i + 1, by omega, ⟨rfl, trivial⟩, by omega, by omega, fun t ht1 ht2 => by
   by_cases e : t = i
   ·subst e; exact hlt'
   ·exact hlow t ht1 (by omega), hs2.ext hx4.ext⟩
 rintro i g4 H6 ⟨ni1, ni2, nlow, ni3, hs6⟩
 dsimp only
 haveI := hs6.sl.one
 simp only [↓nrmL, nrmZ, qe, ↓reduceIte, qa, ze, zn]
 refine sq ?_
 refine Wp.block ?_
 dsimp only
 obtain ⟨jm, hjm⟩ : ∃ jm, j = jm := ⟨_, rfl⟩
 refine Wp.cutQ (x0 := .exit 8) (σ := Nat) (fun j => [(0, p), (1, .int .i64 (a : Int)), (2, .int .i64 (b : Int)), (4, .func (.func F) [] []), (12, .int .i64 (i : Int)), (13, .int .i64 (j : Int))]) (fun j H' => j ≤ jm ∧ i ≤ j + 1 ∧ a ≤ j ∧ j < b ∧ (∀ t, j < t → t < b → ¬ K (cAt cs3 t) < K (cAt cs3 a)) ∧ (i = j + 1 ∨ K (cAt cs3 j) < K (cAt cs3 a)) ∧ SrtS H0 p n U cs3 H') ?_ ?_
 rotate_left
 ·refine Wp.loopS [13, 123, 124, 125, 126, 127, 128, 129, 130, 131, 132, 133, 134, 135, 136, 137, 138, 139, 140, 141] (fun j : Nat => [(13, .int .i64 (j : Int))]) (fun _ j H2 => j ≤ jm ∧ i ≤ j + 1 ∧ a ≤ j ∧ j < b ∧ (∀ t, j < t → t < b → ¬ K (cAt cs3 t) < K (cAt cs3 a)) ∧ SrtS H0 p n U cs3 H2) (fun j => j) j rfl (fun _ => rfl) ⟨rfl, trivial⟩ ⟨by omega, by omega, by omega, by omega, mhigh, hs6⟩ (by unfold fuel0 at hn; omega) ?_
  rintro j g H2 ⟨h0, h1, h2, h3, hhigh, hs2⟩
  simp only [↓nrmL, nrmZ, qe, ↓reduceIte, qa, ze, zn]
  haveI := hs2.sl.one
  cases hij : decide ((i : Int) ≤ (j : Int))
  ·have hij2 := of_decide_eq_false hij
   refine sq ?_
   refine sq ?_
   refine Fr.dregion0 rfl fun KF hKF => ?_
   repeat first | refine Fe.pure rfl rfl (by simp only [↓nrmL, nrmZ, qe, ↓reduceIte, qa, ze, zn, hij]; rfl) ?_ | refine Fe.skip rfl ?_ | refine WpE.nil (hKF _ _ ?_)
   refine cf rfl ?_
   refine xi ?_
   dsimp only
   exact ⟨rfl, j, ⟨rfl, rfl, rfl, rfl, rfl, rfl, trivial⟩, h0, h1, h2, h3, hhigh, Or.inl (by omega), hs2⟩
  have hij2 := of_decide_eq_true hij
  obtain ⟨j0, rfl⟩ : ∃ j0, j = j0 + 1 := ⟨j - 1, by omega⟩
  have e1 : IntKind.i64.wrap (((j0 + 1 : Nat) : Int) - 1) = (j0 : Int) := by rw [w64 (by omega)]; omega
  haveI := hs2.sl
  have hwl := hs2.len
  have c1 := cAt_some (cs := cs3) (i := j0 + 1) (by omega)
  have c2 := cAt_some (cs := cs3) (i := a) (by omega)
  have u1 := hs2.mem (j0 + 1) (by omega)
  have u2 := hs2.mem (a) (by omega)
  haveI := hU.one _ u1
  haveI := hU.one _ u2
  haveI : PureCon ext prog F [cAt cs3 (j0 + 1), cAt cs3 (a)] H2 8 (.int .i64 (cmpI (K (cAt cs3 (j0 + 1))) (K (cAt cs3 (a))))) := hU.cmp H2 hs2.ex _ _ u1 u2
  refine sq ?_
  refine sq ?_
  refine Fr.dregion0 rfl fun KF hKF => ?_
  repeat first | refine Fe.pure rfl rfl (by simp only [↓nrmL, nrmZ, qe, ↓reduceIte, qa, ze, zn, hij]; rfl) ?_ | (refine Fe.pure rfl (exec_idxP (by (try simp only [↓nrmL, nrmZ, qe, ↓reduceIte, qa, ze, zn, hij]); rfl) rfl ?_) (by simp only [↓nrmL, nrmZ, qe, ↓reduceIte, qa, ze, zn, hij]; rfl) ?_; (focus omega))
  refine Fe.read rfl (exec_ldP (p := p) (j := j0 + 1) rfl c1) rfl trivial ?_
  simp only [↓nrmL, nrmZ, qe, ↓reduceIte, qa, ze, zn, hij]
  refine Fe.pure rfl rfl (by simp only [↓nrmL, nrmZ, qe, ↓reduceIte, qa, ze, zn, hij]; rfl) ?_
  refine Fe.pure rfl rfl (by simp only [↓nrmL, nrmZ, qe, ↓reduceIte, qa, ze, zn, hij]; rfl) ?_
  refine Fe.pure rfl (exec_idxP (by (try simp only [↓nrmL, nrmZ, qe, ↓reduceIte, qa, ze, zn, hij]); rfl) rfl ?_) (by simp only [↓nrmL, nrmZ, qe, ↓reduceIte, qa, ze, zn, hij]; rfl) ?_; (focus omega)
  refine Fe.read rfl (exec_ldP (p := p) (j := a) rfl c2) rfl trivial ?_
  cases hlt : decide (K (cAt cs3 (j0 + 1)) < K (cAt cs3 (a)))
  ·have hc2 : decide (cmpI (K (cAt cs3 (j0 + 1))) (K (cAt cs3 (a))) < 0) = false := by rw [cmpI_neg]; exact hlt
   have hlt' := of_decide_eq_false hlt
   simp only [↓nrmL, nrmZ, qe, ↓reduceIte, qa, ze, zn, hc2]
   repeat first | refine Fe.pure rfl rfl (by simp only [↓nrmL, nrmZ, qe, ↓reduceIte, qa, ze, zn, hc2]; rfl) ?_ | (refine Fe.pcall (v' := ?_) rfl hn rfl (by simp only [↓nrmL, nrmZ, qe, ↓reduceIte, qa, ze, zn, hc2, List.map]; rfl) rfl ?hv fun _ _ => ar ?_; case hv => rfl) | refine WpE.nil (hKF _ _ ?_)
   rename AHeap => H4
   rename ExtI H2 H4 => hx4
   simp only [e1]
   refine ct rfl ?_
   refine sk ?_
   refine Wp.block ?_
   refine rg fun KF hKF => ?_
   refine mI ?_
   refine bn rfl rfl rfl (by simp only [↓nrmL, nrmZ, qe, ↓reduceIte, qa, ze, zn, e1]; rfl) ?_
   refine mI ?_
   refine nl hKF ?_
   dsimp only
   exact ⟨j0, by omega, ⟨rfl, trivial⟩, by omega, by omega, by omega, by omega, fun t ht1 ht2 => by
    by_cases e : t = j0 + 1
    ·subst e; exact hlt'
    ·exact hhigh t (by omega) ht2, hs2.ext hx4.ext⟩
  have hc2 : decide (cmpI (K (cAt cs3 (j0 + 1))) (K (cAt cs3 (a))) < 0) = true := by rw [cmpI_neg]; exact hlt
  have hlt' := of_decide_eq_true hlt
  simp only [↓nrmL, nrmZ, qe, ↓reduceIte, qa, ze, zn, hc2]
  repeat first | refine Fe.pure rfl rfl (by simp only [↓nrmL, nrmZ, qe, ↓reduceIte, qa, ze, zn, hc2]; rfl) ?_ | (refine Fe.pcall (v' := ?_) rfl hn rfl (by simp only [↓nrmL, nrmZ, qe, ↓reduceIte, qa, ze, zn, hc2, List.map]; rfl) rfl ?hv fun _ _ => ar ?_; case hv => rfl) | refine WpE.nil (hKF _ _ ?_)
  rename AHeap => H4
  rename ExtI H2 H4 => hx4
  refine cf rfl ?_
  refine xi ?_
  dsimp only
  exact ⟨rfl, j0 + 1, ⟨rfl, rfl, rfl, rfl, rfl, rfl, trivial⟩, h0, h1, h2, h3, hhigh, Or.inr hlt', hs2.ext hx4.ext⟩
 rintro j g5 H7 ⟨nj0, nj1, nj2, nj3, nhigh, nj4, hs7⟩
 dsimp only
 have hl7 := hs7.len
 haveI := hs7.sl.one
 simp only [↓nrmL, nrmZ, qe, ↓reduceIte, qa, ze, zn]
 cases hgt' : decide ((i : Int) > (j : Int))
 rotate_left
 ·have hgt3 := of_decide_eq_true hgt'
  repeat first | refine mI ?_ | refine bn rfl rfl rfl (by simp only [↓nrmL, nrmZ, qe, ↓reduceIte, qa, ze, zn, hgt']; rfl) ?_ | refine nl hKF ?_ | refine sq ?_ | refine rg fun KF hKF => ?_ | refine ct rfl ?_ | refine xi ?_
  haveI := hs7.sl
  haveI := hs7.wr
  have hwl := hs7.len
  have cw1 := cAt_some (cs := cs3) (i := j) (by omega)
  have cw2 := cAt_some (cs := cs3) (i := a) (by omega)
  haveI := hU.one _ (hs7.mem (j) (by omega))
  haveI := hU.one _ (hs7.mem (a) (by omega))
  refine Fr.dregion0 rfl fun KF hKF => ?_
  repeat first | refine Fe.pure rfl rfl (by simp only [↓nrmL, nrmZ, qe, ↓reduceIte, qa, ze, zn]; rfl) ?_ | (refine Fe.pure rfl (exec_idxP (by (try simp only [↓nrmL, nrmZ, qe, ↓reduceIte, qa, ze, zn]); rfl) rfl ?_) (by simp only [↓nrmL, nrmZ, qe, ↓reduceIte, qa, ze, zn]; rfl) ?_; (focus omega))
  refine Fe.read rfl (exec_ldP (p := p) (j := a) rfl cw2) rfl trivial ?_
  refine Fe.pure rfl rfl (by simp only [↓nrmL, nrmZ, qe, ↓reduceIte, qa, ze, zn]; rfl) ?_
  refine Fe.pure rfl rfl (by simp only [↓nrmL, nrmZ, qe, ↓reduceIte, qa, ze, zn]; rfl) ?_
  refine Fe.pure rfl (exec_idxP (by (try simp only [↓nrmL, nrmZ, qe, ↓reduceIte, qa, ze, zn]); rfl) rfl ?_) (by simp only [↓nrmL, nrmZ, qe, ↓reduceIte, qa, ze, zn]; rfl) ?_; (focus omega)
  refine Fe.read rfl (exec_ldP (p := p) (j := j) rfl cw1) rfl trivial ?_
  refine Fe.pure rfl (exec_idxP (by (try simp only [↓nrmL, nrmZ, qe, ↓reduceIte, qa, ze, zn]); rfl) rfl ?_) (by simp only [↓nrmL, nrmZ, qe, ↓reduceIte, qa, ze, zn]; rfl) ?_; (focus omega)
  refine WpE.stC (p := p) (j := j) (v := cAt cs3 (a)) rfl rfl rfl (by omega) fun Hw1 q1 q2 q3 => ar ?_
  refine Fe.pure rfl (exec_idxP (by (try simp only [↓nrmL, nrmZ, qe, ↓reduceIte, qa, ze, zn]); rfl) rfl ?_) (by simp only [↓nrmL, nrmZ, qe, ↓reduceIte, qa, ze, zn]; rfl) ?_; (focus omega)
  refine WpE.stC (p := p) (j := a) (v := cAt cs3 (j)) rfl rfl rfl (by rw [List.length_set]; omega) fun Hw q4 q5 q6 => ar ?_
  have hw : SrtS H0 p n U (swp cs3 (j) (a)) Hw := hs7.swp (by omega) (by omega) q4 q5 (q3.trans q6)
  have hwp : Pm a b cs3 (swp cs3 (j) (a)) := Pm.swp (by omega) (by omega) (by omega)
  refine WpE.nil (hKF _ _ ?_)
  refine sq ?_
  refine rg fun KF hKF => ?_
  refine mI ?_
  refine mI ?_
  refine mB ?_
  refine nl hKF ?_
  refine rt ?_
  dsimp only
  refine rz trivial ?_
  exact ⟨j, false, swp cs3 j a, rfl, by omega, by omega, hw, (hp5.trans hwp), (fin cs3 i j (by omega) (by omega) (by omega) (by omega) (by omega) nlow nhigh)⟩
 have hgt3 := of_decide_eq_false hgt'
 have nKi : ¬ K (cAt cs3 i) < K (cAt cs3 a) := by
  rcases ni3 with h | h
  ·omega
  ·exact h
 have nKj : K (cAt cs3 j) < K (cAt cs3 a) := by
  rcases nj4 with h | h
  ·omega
  ·exact h
 have nijne : i ≠ j := fun e => by subst e; exact nKi nKj
 have nstp := stp cs3 i j (by omega) (by omega) nj3 (by omega) nlow nhigh nKj nKi
 have e9 := wa1 (a := i) (by omega)
 have e10 : IntKind.i64.wrap ((j : Int) - 1) = ((j - 1 : Nat) : Int) := by rw [w64 (by omega)]; omega
 repeat first | refine mI ?_ | refine bn rfl rfl rfl (by simp only [↓nrmL, nrmZ, qe, ↓reduceIte, qa, ze, zn, hgt']; rfl) ?_ | refine nl hKF ?_ | refine sq ?_ | refine rg fun KF hKF => ?_ | refine cf rfl ?_ | refine sk ?_
 haveI := hs7.sl
 haveI := hs7.wr
 have hwl := hs7.len
 have cw1 := cAt_some (cs := cs3) (i := i) (by omega)
 have cw2 := cAt_some (cs := cs3) (i := j) (by omega)
 haveI := hU.one _ (hs7.mem (i) (by omega))
 haveI := hU.one _ (hs7.mem (j) (by omega))
 refine Fr.dregion0 rfl fun KF hKF => ?_
 repeat first | refine Fe.pure rfl rfl (by simp only [↓nrmL, nrmZ, qe, ↓reduceIte, qa, ze, zn]; rfl) ?_ | (refine Fe.pure rfl (exec_idxP (by (try simp only [↓nrmL, nrmZ, qe, ↓reduceIte, qa, ze, zn]); rfl) rfl ?_) (by simp only [↓nrmL, nrmZ, qe, ↓reduceIte, qa, ze, zn]; rfl) ?_; (focus omega))
 refine Fe.read rfl (exec_ldP (p := p) (j := j) rfl cw2) rfl trivial ?_
 refine Fe.pure rfl rfl (by simp only [↓nrmL, nrmZ, qe, ↓reduceIte, qa, ze, zn]; rfl) ?_
 refine Fe.pure rfl rfl (by simp only [↓nrmL, nrmZ, qe, ↓reduceIte, qa, ze, zn]; rfl) ?_
 refine Fe.pure rfl (exec_idxP (by (try simp only [↓nrmL, nrmZ, qe, ↓reduceIte, qa, ze, zn]); rfl) rfl ?_) (by simp only [↓nrmL, nrmZ, qe, ↓reduceIte, qa, ze, zn]; rfl) ?_; (focus omega)
 refine Fe.read rfl (exec_ldP (p := p) (j := i) rfl cw1) rfl trivial ?_
 refine Fe.pure rfl (exec_idxP (by (try simp only [↓nrmL, nrmZ, qe, ↓reduceIte, qa, ze, zn]); rfl) rfl ?_) (by simp only [↓nrmL, nrmZ, qe, ↓reduceIte, qa, ze, zn]; rfl) ?_; (focus omega)
 refine WpE.stC (p := p) (j := i) (v := cAt cs3 (j)) rfl rfl rfl (by omega) fun Hw1 q1 q2 q3 => ar ?_
 refine Fe.pure rfl (exec_idxP (by (try simp only [↓nrmL, nrmZ, qe, ↓reduceIte, qa, ze, zn]); rfl) rfl ?_) (by simp only [↓nrmL, nrmZ, qe, ↓reduceIte, qa, ze, zn]; rfl) ?_; (focus omega)
 refine WpE.stC (p := p) (j := j) (v := cAt cs3 (i)) rfl rfl rfl (by rw [List.length_set]; omega) fun Hw q4 q5 q6 => ar ?_
 have hw : SrtS H0 p n U (swp cs3 (i) (j)) Hw := hs7.swp (by omega) (by omega) q4 q5 (q3.trans q6)
 have hwp : Pm a b cs3 (swp cs3 (i) (j)) := Pm.swp (by omega) (by omega) (by omega)
 refine WpE.nil (hKF _ _ ?_)
 simp only [e9, e10]
 repeat first | refine mI ?_ | refine bn rfl rfl rfl (by simp only [↓nrmL, nrmZ, qe, ↓reduceIte, qa, ze, zn, e9, e10]; rfl) ?_ | refine nl hKF ?_ | refine sq ?_ | refine rg fun KF hKF => ?_ | dsimp only
 exact ⟨(i + 1, j - 1, swp cs3 i j), by dsimp only; omega, ⟨rfl, rfl, trivial⟩, by dsimp only; omega, by dsimp only; omega, by dsimp only; omega, by dsimp only; omega, nstp.1, nstp.2, hw, hp5.trans hwp⟩
end Go.Am

namespace Go.Am
open Go
open Nat renaming reduceEqDiff → qe, reduceAdd → qa
open Int renaming reduceBEq → ze, reduceBNe → zn
attribute [local irreducible] Wp WpO WpX WpE
theorem srd_next {K : AVal → Int} {cs : List AVal} {a i : Nat} (h : Srd K cs a i) (hi : a + 1 ≤ i) (hn : ¬ K (cAt cs i) < K (cAt cs (i - 1))) : Srd K cs a (i + 1) := by
 intro s t h1 h2 h3
 by_cases e : t = i
 ·subst e
  by_cases e2 : s = t - 1
  ·subst e2; omega
  ·have := h s (t - 1) h1 (by omega) (by omega); omega
 ·exact h s t h1 h2 (by omega)
def PreS (K : AVal → Int) (cs : List AVal) (a b : Nat) : Prop := a = 0 ∨ ∀ cs', Pm a b cs cs' → ∀ t, a ≤ t → t < b → ¬ K (cAt cs' t) < K (cAt cs' (a - 1))
theorem K_partial {H0 H : AHeap} {p : AVal} {n a b : Nat} {F : FuncId} {U : AVal → Prop} {K : AVal → Int} {cs : List AVal} (hU : SrtU ext prog H0 p F U K) (hs : SrtS H0 p n U cs H) (hab : a < b) (hb : b ≤ n) (hn40 : n ≤ 2 ^ 40) (hpre : PreS K cs a b) : Con ext prog 9 119 [p, .int .i64 (a : Int), .int .i64 (b : Int), .func (.func F) [] []] H fun v H' => ∃ (f : Bool) (cs' : List AVal), v = .bool f ∧ SrtS H0 p n U cs' H' ∧ Pm a b cs cs' ∧ (f = true → Srd K cs' a b) := by
 refine con_of (show prog 119 = some c119 from rfl) rfl rfl fun N hn => ?_
 haveI := hs.sl.one
 have e2 := wa1 (a := a) (by omega)
 have e9 : IntKind.i64.wrap ((b : Int) - (a : Int)) = (b : Int) - (a : Int) := w64 (by omega)
 repeat first | refine mI ?_ | refine mB ?_ | refine bn rfl rfl rfl (by simp only [↓nrmL, nrmZ, qe, ↓reduceIte, qa, ze, zn, e2]; rfl) ?_ | refine nl hKF ?_ | refine sq ?_ | refine rg fun KF hKF => ?_ | refine Wp.block ?_ | dsimp only
 refine Wp.loopS (σ := Nat × Nat × List AVal) [8, 9, 10, 11, 12, 15, 16, 17, 18, 19, 20, 21, 22, 23, 24, 25, 26, 27, 28, 29, 30, 31, 32, 33, 34, 35, 36, 37, 38, 39, 40, 41, 42, 43, 44, 45, 46, 47, 48, 49, 50, 51, 52, 53, 54, 55, 56, 57, 58, 59, 60, 61, 62, 63, 64, 65, 66, 67, 68, 69, 70, 71, 72, 73, 74, 75, 76, 77, 78, 79, 80, 81, 82, 83, 84, 85, 86, 87, 88, 89, 90, 91, 92, 93, 94, 95, 96, 97, 98, 99, 100, 101, 102, 103, 104, 105, 106, 107, 108, 109, 110, 111, 112, 113, 114, 115, 116, 117, 118, 119, 120, 121, 122, 123, 124, 125, 126, 127, 128, 129, 130, 131, 132, 133, 134, 135, 136, 137, 138, 139, 140] (fun s => [(8, .bool false), (10, .int .i64 (s.1 : Int)), (9, .int .i64 (s.2.1 : Int))]) (fun _ s H2 => s.1 ≤ 5 ∧ a + 1 ≤ s.2.1 ∧ s.2.1 ≤ b ∧ SrtS H0 p n U s.2.2 H2 ∧ Pm a b cs s.2.2 ∧ Srd K s.2.2 a s.2.1) (fun s => 5 - s.1) (0, a + 1, cs) rfl (fun _ => rfl) ⟨rfl, rfl, rfl, trivial⟩ ⟨by dsimp only; omega, Nat.le_refl _, by dsimp only; omega, hs, Pm.refl _ _ _, fun s t q1 q2 q3 => by dsimp only at q3; omega⟩ (by unfold fuel0 at hn; dsimp only; omega) ?_
 rintro ⟨k, i, cs1⟩ g H1 ⟨hk, hi1, hi2, hs1, hp1, hsr1⟩
 dsimp only at hk hi1 hi2 hs1 hp1 hsr1
 haveI := hs1.sl.one
 simp only [↓nrmL, nrmZ, qe, ↓reduceIte, qa, ze, zn]
 cases hk5 : decide ((k : Int) < 5)
 ·skip
  repeat first | refine mI ?_ | refine mB ?_ | refine bn rfl rfl rfl (by simp only [↓nrmL, nrmZ, qe, ↓reduceIte, qa, ze, zn, hk5]; rfl) ?_ | refine nl hKF ?_ | refine sq ?_ | refine rg fun KF hKF => ?_ | refine cf rfl ?_ | refine rt ?_ | refine xi ?_ | dsimp only
  refine rz trivial ?_
  exact ⟨false, cs1, rfl, hs1, hp1, fun h => by cases h⟩
 have hk6 := of_decide_eq_true hk5
 have ek := wa1 (a := k) (by omega)
 repeat first | refine mI ?_ | refine bn rfl rfl rfl (by simp only [↓nrmL, nrmZ, qe, ↓reduceIte, qa, ze, zn, hk5]; rfl) ?_ | refine nl hKF ?_ | refine sq ?_ | refine rg fun KF hKF => ?_ | refine ct rfl ?_ | refine sk ?_ | refine Wp.block ?_ | dsimp only
 refine Wp.cutQ (x0 := .exit 2) (σ := Nat) (fun i => [(0, p), (1, .int .i64 (a : Int)), (2, .int .i64 (b : Int)), (3, .func (.func F) [] []), (8, .bool false), (9, .int .i64 (i : Int)), (10, .int .i64 (k : Int))]) (fun i H' => a + 1 ≤ i ∧ i ≤ b ∧ Srd K cs1 a i ∧ (i = b ∨ K (cAt cs1 i) < K (cAt cs1 (i - 1))) ∧ SrtS H0 p n U cs1 H') ?_ ?_
 rotate_left
 ·refine Wp.loopS [9, 19, 20, 21, 22, 23, 24, 25, 26, 27, 28, 29, 30, 31, 32, 33, 34, 35, 36, 37, 38] (fun i : Nat => [(9, .int .i64 (i : Int))]) (fun _ i H2 => a + 1 ≤ i ∧ i ≤ b ∧ Srd K cs1 a i ∧ SrtS H0 p n U cs1 H2) (fun i => b - i) i rfl (fun _ => rfl) ⟨rfl, trivial⟩ ⟨by omega, by omega, hsr1, hs1⟩ (by unfold fuel0 at hn; omega) ?_
  rintro i g H2 ⟨h1, h2, hso, hs2⟩
  simp only [↓nrmL, nrmZ, qe, ↓reduceIte, qa, ze, zn]
  haveI := hs2.sl.one
  have e1 := wa1 (a := i) (by omega)
  cases hij : decide ((i : Int) < (b : Int))
  ·have hij2 := of_decide_eq_false hij
   refine sq ?_
   refine sq ?_
   refine Fr.dregion0 rfl fun KF hKF => ?_
   repeat first | refine Fe.pure rfl rfl (by simp only [↓nrmL, nrmZ, qe, ↓reduceIte, qa, ze, zn, hij]; rfl) ?_ | refine Fe.skip rfl ?_ | refine WpE.nil (hKF _ _ ?_)
   refine cf rfl ?_
   refine xi ?_
   dsimp only
   exact ⟨rfl, i, ⟨rfl, rfl, rfl, rfl, rfl, rfl, rfl, trivial⟩, h1, h2, hso, Or.inl (by omega), hs2⟩
  have hij2 := of_decide_eq_true hij
  obtain ⟨i0, hi0⟩ : ∃ i0, i - 1 = i0 := ⟨_, rfl⟩
  have e4 : IntKind.i64.wrap ((i : Int) - 1) = (i0 : Int) := by rw [w64 (by omega)]; omega
  haveI := hs2.sl
  have hwl := hs2.len
  have c1 := cAt_some (cs := cs1) (i := i) (by omega)
  have c2 := cAt_some (cs := cs1) (i := i0) (by omega)
  have u1 := hs2.mem (i) (by omega)
  have u2 := hs2.mem (i0) (by omega)
  haveI := hU.one _ u1
  haveI := hU.one _ u2
  haveI : PureCon ext prog F [cAt cs1 (i), cAt cs1 (i0)] H2 8 (.int .i64 (cmpI (K (cAt cs1 (i))) (K (cAt cs1 (i0))))) := hU.cmp H2 hs2.ex _ _ u1 u2
  refine sq ?_
  refine sq ?_
  refine Fr.dregion0 rfl fun KF hKF => ?_
  repeat first | refine Fe.pure rfl rfl (by simp only [↓nrmL, nrmZ, qe, ↓reduceIte, qa, ze, zn, hij, e4]; rfl) ?_ | (refine Fe.pure rfl (exec_idxP (by (try simp only [↓nrmL, nrmZ, qe, ↓reduceIte, qa, ze, zn, hij, e4]); rfl) rfl ?_) (by simp only [↓nrmL, nrmZ, qe, ↓reduceIte, qa, ze, zn, hij, e4]; rfl) ?_; (focus omega))
  refine Fe.read rfl (exec_ldP (p := p) (j := i) rfl c1) rfl trivial ?_
  simp only [↓nrmL, nrmZ, qe, ↓reduceIte, qa, ze, zn, hij, e4]
  repeat first | refine Fe.pure rfl rfl (by simp only [↓nrmL, nrmZ, qe, ↓reduceIte, qa, ze, zn, hij, e4]; rfl) ?_ | (refine Fe.pure rfl (exec_idxP (by (try simp only [↓nrmL, nrmZ, qe, ↓reduceIte, qa, ze, zn, hij, e4]); rfl) rfl ?_) (by simp only [↓nrmL, nrmZ, qe, ↓reduceIte, qa, ze, zn, hij, e4]; rfl) ?_; (focus omega))
  refine Fe.read rfl (exec_ldP (p := p) (j := i0) rfl c2) rfl trivial ?_
  cases hlt : decide (K (cAt cs1 (i)) < K (cAt cs1 (i0)))
  ·have hc2 : decide (cmpI (K (cAt cs1 (i))) (K (cAt cs1 (i0))) < 0) = false := by rw [cmpI_neg]; exact hlt
   have hlt' := of_decide_eq_false hlt
   simp only [↓nrmL, nrmZ, qe, ↓reduceIte, qa, ze, zn, hc2]
   repeat first | refine Fe.pure rfl rfl (by simp only [↓nrmL, nrmZ, qe, ↓reduceIte, qa, ze, zn, hc2]; rfl) ?_ | (refine Fe.pcall (v' := ?_) rfl hn rfl (by simp only [↓nrmL, nrmZ, qe, ↓reduceIte, qa, ze, zn, hc2, List.map]; rfl) rfl ?hv fun _ _ => ar ?_; case hv => rfl) | refine WpE.nil (hKF _ _ ?_)
   rename AHeap => H4
   rename ExtI H2 H4 => hx4
   simp only [e1]
   refine ct rfl ?_
   refine sk ?_
   refine Wp.block ?_
   refine rg fun KF hKF => ?_
   refine mI ?_
   refine bn rfl rfl rfl (by simp only [↓nrmL, nrmZ, qe, ↓reduceIte, qa, ze, zn, e1]; rfl) ?_
   refine mI ?_
   refine nl hKF ?_
   dsimp only
   exact ⟨i + 1, by omega, ⟨rfl, trivial⟩, by omega, by omega, srd_next hso (by omega) (by rw [hi0]; exact hlt'), hs2.ext hx4.ext⟩
  have hc2 : decide (cmpI (K (cAt cs1 (i))) (K (cAt cs1 (i0))) < 0) = true := by rw [cmpI_neg]; exact hlt
  have hlt' := of_decide_eq_true hlt
  simp only [↓nrmL, nrmZ, qe, ↓reduceIte, qa, ze, zn, hc2]
  repeat first | refine Fe.pure rfl rfl (by simp only [↓nrmL, nrmZ, qe, ↓reduceIte, qa, ze, zn, hc2]; rfl) ?_ | (refine Fe.pcall (v' := ?_) rfl hn rfl (by simp only [↓nrmL, nrmZ, qe, ↓reduceIte, qa, ze, zn, hc2, List.map]; rfl) rfl ?hv fun _ _ => ar ?_; case hv => rfl) | refine WpE.nil (hKF _ _ ?_)
  rename AHeap => H4
  rename ExtI H2 H4 => hx4
  refine cf rfl ?_
  refine xi ?_
  dsimp only
  exact ⟨rfl, i, ⟨rfl, rfl, rfl, rfl, rfl, rfl, rfl, trivial⟩, h1, by omega, hso, Or.inr (by rw [hi0]; exact hlt'), hs2.ext hx4.ext⟩
 clear hsr1 hs1
 rintro i g1 H1 ⟨hi1, hi2, hsr1', hie, hs1⟩
 dsimp only
 haveI := hs1.sl.one
 simp only [↓nrmL, nrmZ, qe, ↓reduceIte, qa, ze, zn]
 by_cases hib : i = b
 ·have hq : (((i : Nat) : Int) == ((b : Nat) : Int)) = true := by rw [hib]; simp
  repeat first | refine mI ?_ | refine mB ?_ | refine bn rfl rfl rfl (by simp only [↓nrmL, nrmZ, qe, ↓reduceIte, qa, ze, zn, hq]; rfl) ?_ | refine nl hKF ?_ | refine sq ?_ | refine rg fun KF hKF => ?_ | refine ct rfl ?_ | refine rt ?_ | dsimp only
  refine rz trivial ?_
  exact ⟨true, cs1, rfl, hs1, hp1, fun _ => by rw [← hib]; exact hsr1'⟩
 have hq : (((i : Nat) : Int) == ((b : Nat) : Int)) = false := by simp; omega
 cases h50 : decide ((b : Int) - (a : Int) < 50)
 rotate_left
 ·skip
  repeat first | refine mI ?_ | refine mB ?_ | refine bn rfl rfl rfl (by simp only [↓nrmL, nrmZ, qe, ↓reduceIte, qa, ze, zn, hq, e9, h50]; rfl) ?_ | refine nl hKF ?_ | refine sq ?_ | refine rg fun KF hKF => ?_ | refine ct rfl ?_ | refine cf rfl ?_ | refine sk ?_ | refine rt ?_ | dsimp only
  refine rz trivial ?_
  exact ⟨false, cs1, rfl, hs1, hp1, fun h => by cases h⟩
 have e6 : IntKind.i64.wrap ((i : Int) - 1) = ((i - 1 : Nat) : Int) := by rw [w64 (by omega)]; omega
 have e10 : IntKind.i64.wrap ((i : Int) - (a : Int)) = (i : Int) - (a : Int) := w64 (by omega)
 have e11 : IntKind.i64.wrap ((b : Int) - (i : Int)) = (b : Int) - (i : Int) := w64 (by omega)
 repeat first | refine mI ?_ | refine bn rfl rfl rfl (by simp only [↓nrmL, nrmZ, qe, ↓reduceIte, qa, ze, zn, hq, e9, h50]; rfl) ?_ | refine nl hKF ?_ | refine sq ?_ | refine rg fun KF hKF => ?_ | refine cf rfl ?_ | refine sk ?_
 haveI := hs1.sl
 haveI := hs1.wr
 have hwl := hs1.len
 have cw1 := cAt_some (cs := cs1) (i := i) (by omega)
 have cw2 := cAt_some (cs := cs1) (i := i - 1) (by omega)
 haveI := hU.one _ (hs1.mem (i) (by omega))
 haveI := hU.one _ (hs1.mem (i - 1) (by omega))
 refine Fr.dregion0 rfl fun KF hKF => ?_
 repeat first | refine Fe.pure rfl rfl (by simp only [↓nrmL, nrmZ, qe, ↓reduceIte, qa, ze, zn, e6]; rfl) ?_ | (refine Fe.pure rfl (exec_idxP (by (try simp only [↓nrmL, nrmZ, qe, ↓reduceIte, qa, ze, zn, e6]); rfl) rfl ?_) (by simp only [↓nrmL, nrmZ, qe, ↓reduceIte, qa, ze, zn, e6]; rfl) ?_; (focus omega))
 refine Fe.read rfl (exec_ldP (p := p) (j := i - 1) rfl cw2) rfl trivial ?_
 simp only [↓nrmL, nrmZ, qe, ↓reduceIte, qa, ze, zn, e6]
 refine Fe.pure rfl rfl (by simp only [↓nrmL, nrmZ, qe, ↓reduceIte, qa, ze, zn, e6]; rfl) ?_
 refine Fe.pure rfl rfl (by simp only [↓nrmL, nrmZ, qe, ↓reduceIte, qa, ze, zn, e6]; rfl) ?_
 refine Fe.pure rfl (exec_idxP (by (try simp only [↓nrmL, nrmZ, qe, ↓reduceIte, qa, ze, zn, e6]); rfl) rfl ?_) (by simp only [↓nrmL, nrmZ, qe, ↓reduceIte, qa, ze, zn, e6]; rfl) ?_; (focus omega)
 refine Fe.read rfl (exec_ldP (p := p) (j := i) rfl cw1) rfl trivial ?_
 simp only [↓nrmL, nrmZ, qe, ↓reduceIte, qa, ze, zn, e6]
 refine Fe.pure rfl (exec_idxP (by (try simp only [↓nrmL, nrmZ, qe, ↓reduceIte, qa, ze, zn, e6]); rfl) rfl ?_) (by simp only [↓nrmL, nrmZ, qe, ↓reduceIte, qa, ze, zn, e6]; rfl) ?_; (focus omega)
 refine WpE.stC (p := p) (j := i) (v := cAt cs1 (i - 1)) rfl rfl rfl (by omega) fun Hw1 q1 q2 q3 => ar ?_
 simp only [↓nrmL, nrmZ, qe, ↓reduceIte, qa, ze, zn, e6]
 refine Fe.pure rfl (exec_idxP (by (try simp only [↓nrmL, nrmZ, qe, ↓reduceIte, qa, ze, zn, e6]); rfl) rfl ?_) (by simp only [↓nrmL, nrmZ, qe, ↓reduceIte, qa, ze, zn, e6]; rfl) ?_; (focus omega)
 refine WpE.stC (p := p) (j := i - 1) (v := cAt cs1 (i)) rfl rfl rfl (by rw [List.length_set]; omega) fun Hw q4 q5 q6 => ar ?_
 have hw : SrtS H0 p n U (swp cs1 (i) (i - 1)) Hw := hs1.swp (by omega) (by omega) q4 q5 (q3.trans q6)
 have hwp : Pm a b cs1 (swp cs1 (i) (i - 1)) := Pm.swp (by omega) (by omega) (by omega)
 refine WpE.nil (hKF _ _ ?_)
 simp only [e10]
 refine sq ?_
 refine sq ?_
 refine rg fun KF hKF => ?_
 refine mI ?_
 refine mI ?_
 refine bn rfl rfl rfl (by simp only [↓nrmL, nrmZ, qe, ↓reduceIte, qa, ze, zn, e10]; rfl) ?_
 refine b0 ?_
 refine nl hKF ?_
 dsimp only
 refine Wp.cut (σ := List AVal) (fun _ => [(0, p), (1, .int .i64 (a : Int)), (2, .int .i64 (b : Int)), (3, .func (.func F) [] []), (8, .bool false), (9, .int .i64 (i : Int)), (10, .int .i64 (k : Int))]) (fun cs2 H' => SrtS H0 p n U cs2 H' ∧ Pm a b cs cs2 ∧ Srd K cs2 a i) ?_ ?_
 rotate_left
 ·cases hge : decide ((i : Int) - (a : Int) ≥ 2)
  ·have hge2 := of_decide_eq_false hge
   simp only [↓nrmL, nrmZ, qe, ↓reduceIte, qa, ze, zn, hge]
   refine cf rfl ?_
   refine sk ?_
   dsimp only
   exact ⟨swp cs1 i (i - 1), ⟨rfl, rfl, rfl, rfl, rfl, rfl, rfl, trivial⟩, hw, hp1.trans hwp, fun s t q1 q2 q3 => by omega⟩
  have hge2 := of_decide_eq_true hge
  have e6 : IntKind.i64.wrap ((i : Int) - 1) = ((i - 1 : Nat) : Int) := by rw [w64 (by omega)]; omega
  have hst : InsS K (swp cs1 i (i - 1)) a (i - 1) (i - 1) := by
   refine InsS.start fun s t q1 q2 q3 => ?_
   have hl := hs1.len
   rw [cAt_swp (by omega) (by omega), cAt_swp (by omega) (by omega), if_neg (by omega), if_neg (by omega), if_neg (by omega), if_neg (by omega)]
   exact hsr1' s t q1 q2 (by omega)
  simp only [↓nrmL, nrmZ, qe, ↓reduceIte, qa, ze, zn, hge, e6]
  refine ct rfl ?_
  refine sq ?_
  refine rg fun KF hKF => ?_
  refine mI ?_
  refine bn rfl rfl rfl (by simp only [↓nrmL, nrmZ, qe, ↓reduceIte, qa, ze, zn, hge, e6]; rfl) ?_
  refine mI ?_
  refine nl hKF ?_
  refine Wp.block ?_
  dsimp only
  refine Wp.loopS (σ := Nat × List AVal) [11, 68, 69, 70, 71, 72, 73, 74, 75, 76, 77, 78, 79, 80, 81, 82, 83, 84, 85, 86, 87, 88, 89, 90, 91, 92, 93, 94, 95, 96, 97, 98, 99, 100] (fun s => [(11, .int .i64 (s.1 : Int))]) (fun _ s H2 => a ≤ s.1 ∧ s.1 ≤ i - 1 ∧ SrtS H0 p n U s.2 H2 ∧ Pm a b cs s.2 ∧ InsS K s.2 a (i - 1) s.1) (fun s => s.1) (i - 1, swp cs1 i (i - 1)) rfl (fun _ => rfl) ⟨rfl, trivial⟩ ⟨by dsimp only; omega, Nat.le_refl _, hw, hp1.trans hwp, hst⟩ (by unfold fuel0 at hn; dsimp only; omega) ?_
  rintro ⟨j, cs3⟩ g3 H3 ⟨k1, k2, hs3, hp3, hin3⟩
  dsimp only at k1 k2 hs3 hp3 hin3
  haveI := hs3.sl.one
  simp only [↓nrmL, nrmZ, qe, ↓reduceIte, qa, ze, zn]
  cases hj1 : decide ((j : Int) ≥ 1)
  ·have hj2 := of_decide_eq_false hj1
   refine sq ?_
   refine sq ?_
   refine rg fun KF hKF => ?_
   refine mI ?_
   refine bn rfl rfl rfl (by simp only [↓nrmL, nrmZ, qe, ↓reduceIte, qa, ze, zn, hj1]; rfl) ?_
   refine nl hKF ?_
   refine cf rfl ?_
   refine xi ?_
   dsimp only
   exact ⟨cs3, ⟨rfl, rfl, rfl, rfl, rfl, rfl, rfl, trivial⟩, hs3, hp3, by
    have := hin3.done k1 (Or.inl (by omega))
    rwa [show i - 1 + 1 = i by omega] at this⟩
  have hj2 := of_decide_eq_true hj1
  obtain ⟨j0, hj0⟩ : ∃ j0, j - 1 = j0 := ⟨_, rfl⟩
  have e5 : IntKind.i64.wrap ((j : Int) - 1) = (j0 : Int) := by rw [w64 (by omega)]; omega
  haveI := hs3.sl
  have hwl := hs3.len
  have c1 := cAt_some (cs := cs3) (i := j) (by omega)
  have c2 := cAt_some (cs := cs3) (i := j0) (by omega)
  have u1 := hs3.mem (j) (by omega)
  have u2 := hs3.mem (j0) (by omega)
  haveI := hU.one _ u1
  haveI := hU.one _ u2
  haveI : PureCon ext prog F [cAt cs3 (j), cAt cs3 (j0)] H3 8 (.int .i64 (cmpI (K (cAt cs3 (j))) (K (cAt cs3 (j0))))) := hU.cmp H3 hs3.ex _ _ u1 u2
  repeat first | refine mI ?_ | refine bn rfl rfl rfl (by simp only [↓nrmL, nrmZ, qe, ↓reduceIte, qa, ze, zn, hj1]; rfl) ?_ | refine nl hKF ?_ | refine sq ?_ | refine rg fun KF hKF => ?_ | refine ct rfl ?_ | refine sk ?_ | refine Wp.block ?_ | dsimp only
  refine Fr.dregion0 rfl fun KF hKF => ?_
  repeat first | refine Fe.pure rfl rfl (by simp only [↓nrmL, nrmZ, qe, ↓reduceIte, qa, ze, zn, e5]; rfl) ?_ | (refine Fe.pure rfl (exec_idxP (by (try simp only [↓nrmL, nrmZ, qe, ↓reduceIte, qa, ze, zn, e5]); rfl) rfl ?_) (by simp only [↓nrmL, nrmZ, qe, ↓reduceIte, qa, ze, zn, e5]; rfl) ?_; (focus omega))
  refine Fe.read rfl (exec_ldP (p := p) (j := j) rfl c1) rfl trivial ?_
  simp only [↓nrmL, nrmZ, qe, ↓reduceIte, qa, ze, zn, e5]
  repeat first | refine Fe.pure rfl rfl (by simp only [↓nrmL, nrmZ, qe, ↓reduceIte, qa, ze, zn, e5]; rfl) ?_ | (refine Fe.pure rfl (exec_idxP (by (try simp only [↓nrmL, nrmZ, qe, ↓reduceIte, qa, ze, zn, e5]); rfl) rfl ?_) (by simp only [↓nrmL, nrmZ, qe, ↓reduceIte, qa, ze, zn, e5]; rfl) ?_; (focus omega))
  refine Fe.read rfl (exec_ldP (p := p) (j := j0) rfl c2) rfl trivial ?_
  cases hlt : decide (K (cAt cs3 (j)) < K (cAt cs3 (j0)))
  ·have hc2 : decide (cmpI (K (cAt cs3 (j))) (K (cAt cs3 (j0))) < 0) = false := by rw [cmpI_neg]; exact hlt
   have hlt' := of_decide_eq_false hlt
   simp only [↓nrmL, nrmZ, qe, ↓reduceIte, qa, ze, zn, hc2]
   repeat first | refine Fe.pure rfl rfl (by simp only [↓nrmL, nrmZ, qe, ↓reduceIte, qa, ze, zn, hc2]; rfl) ?_ | (refine Fe.pcall (v' := ?_) rfl hn rfl (by simp only [↓nrmL, nrmZ, qe, ↓reduceIte, qa, ze, zn, hc2, List.map]; rfl) rfl ?hv fun _ _ => ar ?_; case hv => rfl) | refine WpE.nil (hKF _ _ ?_)
   rename AHeap => H4
   rename ExtI H3 H4 => hx4
   refine ct rfl ?_
   refine xi ?_
   dsimp only
   exact ⟨cs3, ⟨rfl, rfl, rfl, rfl, rfl, rfl, rfl, trivial⟩, hs3.ext hx4.ext, hp3, by
    have := hin3.done k1 (Or.inr (by rw [hj0]; exact hlt'))
    rwa [show i - 1 + 1 = i by omega] at this⟩
  have hc2 : decide (cmpI (K (cAt cs3 (j))) (K (cAt cs3 (j0))) < 0) = true := by rw [cmpI_neg]; exact hlt
  have hlt' := of_decide_eq_true hlt
  simp only [↓nrmL, nrmZ, qe, ↓reduceIte, qa, ze, zn, hc2]
  repeat first | refine Fe.pure rfl rfl (by simp only [↓nrmL, nrmZ, qe, ↓reduceIte, qa, ze, zn, hc2]; rfl) ?_ | (refine Fe.pcall (v' := ?_) rfl hn rfl (by simp only [↓nrmL, nrmZ, qe, ↓reduceIte, qa, ze, zn, hc2, List.map]; rfl) rfl ?hv fun _ _ => ar ?_; case hv => rfl) | refine WpE.nil (hKF _ _ ?_)
  rename AHeap => H4
  rename ExtI H3 H4 => hx4
  have hs4 := hs3.ext hx4.ext
  have haj : a < j := by
   rcases Nat.lt_or_ge a j with h | h
   ·exact h
   ·exfalso
    have eja : j = a := by omega
    rcases hpre with h0 | h0
    ·omega
    ·refine h0 cs3 hp3 a (Nat.le_refl _) hab ?_
     rw [← eja, hj0]; exact hlt'
  refine cf rfl ?_
  refine sk ?_
  dsimp only
  haveI := hs4.sl
  haveI := hs4.wr
  have hwl := hs4.len
  have cw1 := cAt_some (cs := cs3) (i := j) (by omega)
  have cw2 := cAt_some (cs := cs3) (i := j0) (by omega)
  haveI := hU.one _ (hs4.mem (j) (by omega))
  haveI := hU.one _ (hs4.mem (j0) (by omega))
  refine Fr.dregion0 rfl fun KF hKF => ?_
  repeat first | refine Fe.pure rfl rfl (by simp only [↓nrmL, nrmZ, qe, ↓reduceIte, qa, ze, zn, e5]; rfl) ?_ | (refine Fe.pure rfl (exec_idxP (by (try simp only [↓nrmL, nrmZ, qe, ↓reduceIte, qa, ze, zn, e5]); rfl) rfl ?_) (by simp only [↓nrmL, nrmZ, qe, ↓reduceIte, qa, ze, zn, e5]; rfl) ?_; (focus omega))
  refine Fe.read rfl (exec_ldP (p := p) (j := j0) rfl cw2) rfl trivial ?_
  simp only [↓nrmL, nrmZ, qe, ↓reduceIte, qa, ze, zn, e5]
  refine Fe.pure rfl rfl (by simp only [↓nrmL, nrmZ, qe, ↓reduceIte, qa, ze, zn, e5]; rfl) ?_
  refine Fe.pure rfl rfl (by simp only [↓nrmL, nrmZ, qe, ↓reduceIte, qa, ze, zn, e5]; rfl) ?_
  refine Fe.pure rfl (exec_idxP (by (try simp only [↓nrmL, nrmZ, qe, ↓reduceIte, qa, ze, zn, e5]); rfl) rfl ?_) (by simp only [↓nrmL, nrmZ, qe, ↓reduceIte, qa, ze, zn, e5]; rfl) ?_; (focus omega)
  refine Fe.read rfl (exec_ldP (p := p) (j := j) rfl cw1) rfl trivial ?_
  simp only [↓nrmL, nrmZ, qe, ↓reduceIte, qa, ze, zn, e5]
  refine Fe.pure rfl (exec_idxP (by (try simp only [↓nrmL, nrmZ, qe, ↓reduceIte, qa, ze, zn, e5]); rfl) rfl ?_) (by simp only [↓nrmL, nrmZ, qe, ↓reduceIte, qa, ze, zn, e5]; rfl) ?_; (focus omega)
  refine WpE.stC (p := p) (j := j) (v := cAt cs3 (j0)) rfl rfl rfl (by omega) fun Hw1 q1 q2 q3 => ar ?_
  simp only [↓nrmL, nrmZ, qe, ↓reduceIte, qa, ze, zn, e5]
  refine Fe.pure rfl (exec_idxP (by (try simp only [↓nrmL, nrmZ, qe, ↓reduceIte, qa, ze, zn, e5]); rfl) rfl ?_) (by simp only [↓nrmL, nrmZ, qe, ↓reduceIte, qa, ze, zn, e5]; rfl) ?_; (focus omega)
  refine WpE.stC (p := p) (j := j0) (v := cAt cs3 (j)) rfl rfl rfl (by rw [List.length_set]; omega) fun Hw q4 q5 q6 => ar ?_
  have hw : SrtS H0 p n U (swp cs3 (j) (j0)) Hw := hs4.swp (by omega) (by omega) q4 q5 (q3.trans q6)
  have hwp : Pm a b cs3 (swp cs3 (j) (j0)) := Pm.swp (by omega) (by omega) (by omega)
  refine WpE.nil (hKF _ _ ?_)
  simp only [e5]
  refine rg fun KF hKF => ?_
  refine mI ?_
  refine bn rfl rfl rfl (by simp only [↓nrmL, nrmZ, qe, ↓reduceIte, qa, ze, zn, e5]; rfl) ?_
  refine mI ?_
  refine nl hKF ?_
  dsimp only
  exact ⟨(j0, swp cs3 j j0), by dsimp only; omega, ⟨rfl, trivial⟩, by dsimp only; omega, by dsimp only; omega, hw, hp3.trans hwp, by
   have := hin3.step haj k2 (by omega) (by rw [hj0]; exact hlt')
   rw [hj0] at this; exact this⟩
 rintro cs2 g2 H2 ⟨hs2, hp2, hso2⟩
 dsimp only
 haveI := hs2.sl.one
 simp only [↓nrmL, nrmZ, qe, ↓reduceIte, qa, ze, zn]
 refine sq ?_
 refine rg fun KF hKF => ?_
 refine mI ?_
 refine mI ?_
 refine bn rfl rfl rfl (by simp only [↓nrmL, nrmZ, qe, ↓reduceIte, qa, ze, zn, e11]; rfl) ?_
 refine b0 ?_
 refine nl hKF ?_
 dsimp only
 refine Wp.cut (σ := List AVal) (fun _ => [(0, p), (1, .int .i64 (a : Int)), (2, .int .i64 (b : Int)), (3, .func (.func F) [] []), (8, .bool false), (9, .int .i64 (i : Int)), (10, .int .i64 (k : Int))]) (fun cs4 H' => SrtS H0 p n U cs4 H' ∧ Pm a b cs cs4 ∧ Srd K cs4 a i) ?_ ?_
 rotate_left
 ·cases hge : decide ((b : Int) - (i : Int) ≥ 2)
  ·skip
   refine cf rfl ?_
   refine sk ?_
   dsimp only
   exact ⟨cs2, ⟨rfl, rfl, rfl, rfl, rfl, rfl, rfl, trivial⟩, hs2, hp2, hso2⟩
  have hge2 := of_decide_eq_true hge
  have e6 := wa1 (a := i) (by omega)
  refine ct rfl ?_
  refine sq ?_
  refine rg fun KF hKF => ?_
  refine mI ?_
  refine bn rfl rfl rfl (by simp only [↓nrmL, nrmZ, qe, ↓reduceIte, qa, ze, zn, hge, e6]; rfl) ?_
  refine mI ?_
  refine nl hKF ?_
  refine Wp.block ?_
  dsimp only
  refine Wp.loopS (σ := Nat × List AVal) [12, 107, 108, 109, 110, 111, 112, 113, 114, 115, 116, 117, 118, 119, 120, 121, 122, 123, 124, 125, 126, 127, 128, 129, 130, 131, 132, 133, 134, 135, 136, 137, 138, 139, 140] (fun s => [(12, .int .i64 (s.1 : Int))]) (fun _ s H2 => i + 1 ≤ s.1 ∧ s.1 ≤ b ∧ SrtS H0 p n U s.2 H2 ∧ Pm a b cs s.2 ∧ Srd K s.2 a i) (fun s => b - s.1) (i + 1, cs2) rfl (fun _ => rfl) ⟨rfl, trivial⟩ ⟨Nat.le_refl _, by dsimp only; omega, hs2, hp2, hso2⟩ (by unfold fuel0 at hn; dsimp only; omega) ?_
  rintro ⟨j, cs5⟩ g5 H5 ⟨k1, k2, hs5, hp5, hso5⟩
  dsimp only at k1 k2 hs5 hp5 hso5
  haveI := hs5.sl.one
  simp only [↓nrmL, nrmZ, qe, ↓reduceIte, qa, ze, zn]
  cases hj1 : decide ((j : Int) < (b : Int))
  ·skip
   refine sq ?_
   refine sq ?_
   refine rg fun KF hKF => ?_
   refine mI ?_
   refine mI ?_
   refine bn rfl rfl rfl (by simp only [↓nrmL, nrmZ, qe, ↓reduceIte, qa, ze, zn, hj1]; rfl) ?_
   refine nl hKF ?_
   refine cf rfl ?_
   refine xi ?_
   dsimp only
   exact ⟨cs5, ⟨rfl, rfl, rfl, rfl, rfl, rfl, rfl, trivial⟩, hs5, hp5, hso5⟩
  have hj2 := of_decide_eq_true hj1
  obtain ⟨j0, hj0⟩ : ∃ j0, j - 1 = j0 := ⟨_, rfl⟩
  have e7 : IntKind.i64.wrap ((j : Int) - 1) = (j0 : Int) := by rw [w64 (by omega)]; omega
  have e8 := wa1 (a := j) (by omega)
  haveI := hs5.sl
  have hwl := hs5.len
  have c1 := cAt_some (cs := cs5) (i := j) (by omega)
  have c2 := cAt_some (cs := cs5) (i := j0) (by omega)
  have u1 := hs5.mem (j) (by omega)
  have u2 := hs5.mem (j0) (by omega)
  haveI := hU.one _ u1
  haveI := hU.one _ u2
  haveI : PureCon ext prog F [cAt cs5 (j), cAt cs5 (j0)] H5 8 (.int .i64 (cmpI (K (cAt cs5 (j))) (K (cAt cs5 (j0))))) := hU.cmp H5 hs5.ex _ _ u1 u2
  repeat first | refine mI ?_ | refine bn rfl rfl rfl (by simp only [↓nrmL, nrmZ, qe, ↓reduceIte, qa, ze, zn, hj1]; rfl) ?_ | refine nl hKF ?_ | refine sq ?_ | refine rg fun KF hKF => ?_ | refine ct rfl ?_ | refine sk ?_ | refine Wp.block ?_ | dsimp only
  refine Fr.dregion0 rfl fun KF hKF => ?_
  repeat first | refine Fe.pure rfl rfl (by simp only [↓nrmL, nrmZ, qe, ↓reduceIte, qa, ze, zn, e7]; rfl) ?_ | (refine Fe.pure rfl (exec_idxP (by (try simp only [↓nrmL, nrmZ, qe, ↓reduceIte, qa, ze, zn, e7]); rfl) rfl ?_) (by simp only [↓nrmL, nrmZ, qe, ↓reduceIte, qa, ze, zn, e7]; rfl) ?_; (focus omega))
  refine Fe.read rfl (exec_ldP (p := p) (j := j) rfl c1) rfl trivial ?_
  simp only [↓nrmL, nrmZ, qe, ↓reduceIte, qa, ze, zn, e7]
  repeat first | refine Fe.pure rfl rfl (by simp only [↓nrmL, nrmZ, qe, ↓reduceIte, qa, ze, zn, e7]; rfl) ?_ | (refine Fe.pure rfl (exec_idxP (by (try simp only [↓nrmL, nrmZ, qe, ↓reduceIte, qa, ze, zn, e7]); rfl) rfl ?_) (by simp only [↓nrmL, nrmZ, qe, ↓reduceIte, qa, ze, zn, e7]; rfl) ?_; (focus omega))
  refine Fe.read rfl (exec_ldP (p := p) (j := j0) rfl c2) rfl trivial ?_
  cases hlt : decide (K (cAt cs5 (j)) < K (cAt cs5 (j0)))
  ·have hc2 : decide (cmpI (K (cAt cs5 (j))) (K (cAt cs5 (j0))) < 0) = false := by rw [cmpI_neg]; exact hlt
   have hlt' := of_decide_eq_false hlt
   simp only [↓nrmL, nrmZ, qe, ↓reduceIte, qa, ze, zn, hc2]
   repeat first | refine Fe.pure rfl rfl (by simp only [↓nrmL, nrmZ, qe, ↓reduceIte, qa, ze, zn, hc2]; rfl) ?_ | (refine Fe.pcall (v' := ?_) rfl hn rfl (by simp only [↓nrmL, nrmZ, qe, ↓reduceIte, qa, ze, zn, hc2, List.map]; rfl) rfl ?hv fun _ _ => ar ?_; case hv => rfl) | refine WpE.nil (hKF _ _ ?_)
   rename AHeap => H4
   rename ExtI H5 H4 => hx4
   refine ct rfl ?_
   refine xi ?_
   dsimp only
   exact ⟨cs5, ⟨rfl, rfl, rfl, rfl, rfl, rfl, rfl, trivial⟩, hs5.ext hx4.ext, hp5, hso5⟩
  have hc2 : decide (cmpI (K (cAt cs5 (j))) (K (cAt cs5 (j0))) < 0) = true := by rw [cmpI_neg]; exact hlt
  have hlt' := of_decide_eq_true hlt
  simp only [↓nrmL, nrmZ, qe, ↓reduceIte, qa, ze, zn, hc2]
  repeat first | refine Fe.pure rfl rfl (by simp only [↓nrmL, nrmZ, qe, ↓reduceIte, qa, ze, zn, hc2]; rfl) ?_ | (refine Fe.pcall (v' := ?_) rfl hn rfl (by simp only [↓nrmL, nrmZ, qe, ↓reduceIte, qa, ze, zn, hc2, List.map]; rfl) rfl ?hv fun _ _ => ar ?_; case hv => rfl) | refine WpE.nil (hKF _ _ ?_)
  rename AHeap => H4
  rename ExtI H5 H4 => hx4
  have hs6 := hs5.ext hx4.ext
  refine cf rfl ?_
  refine sk ?_
  dsimp only
  haveI := hs6.sl
  haveI := hs6.wr
  have hwl := hs6.len
  have cw1 := cAt_some (cs := cs5) (i := j) (by omega)
  have cw2 := cAt_some (cs := cs5) (i := j0) (by omega)
  haveI := hU.one _ (hs6.mem (j) (by omega))
  haveI := hU.one _ (hs6.mem (j0) (by omega))
  refine Fr.dregion0 rfl fun KF hKF => ?_
  repeat first | refine Fe.pure rfl rfl (by simp only [↓nrmL, nrmZ, qe, ↓reduceIte, qa, ze, zn, e7]; rfl) ?_ | (refine Fe.pure rfl (exec_idxP (by (try simp only [↓nrmL, nrmZ, qe, ↓reduceIte, qa, ze, zn, e7]); rfl) rfl ?_) (by simp only [↓nrmL, nrmZ, qe, ↓reduceIte, qa, ze, zn, e7]; rfl) ?_; (focus omega))
  refine Fe.read rfl (exec_ldP (p := p) (j := j0) rfl cw2) rfl trivial ?_
  simp only [↓nrmL, nrmZ, qe, ↓reduceIte, qa, ze, zn, e7]
  refine Fe.pure rfl rfl (by simp only [↓nrmL, nrmZ, qe, ↓reduceIte, qa, ze, zn, e7]; rfl) ?_
  refine Fe.pure rfl rfl (by simp only [↓nrmL, nrmZ, qe, ↓reduceIte, qa, ze, zn, e7]; rfl) ?_
  refine Fe.pure rfl (exec_idxP (by (try simp only [↓nrmL, nrmZ, qe, ↓reduceIte, qa, ze, zn, e7]); rfl) rfl ?_) (by simp only [↓nrmL, nrmZ, qe, ↓reduceIte, qa, ze, zn, e7]; rfl) ?_; (focus omega)
  refine Fe.read rfl (exec_ldP (p := p) (j := j) rfl cw1) rfl trivial ?_
  simp only [↓nrmL, nrmZ, qe, ↓reduceIte, qa, ze, zn, e7]
  refine Fe.pure rfl (exec_idxP (by (try simp only [↓nrmL, nrmZ, qe, ↓reduceIte, qa, ze, zn, e7]); rfl) rfl ?_) (by simp only [↓nrmL, nrmZ, qe, ↓reduceIte, qa, ze, zn, e7]; rfl) ?_; (focus omega)
  refine WpE.stC (p := p) (j := j) (v := cAt cs5 (j0)) rfl rfl rfl (by omega) fun Hw1 q1 q2 q3 => ar ?_
  simp only [↓nrmL, nrmZ, qe, ↓reduceIte, qa, ze, zn, e7]
  refine Fe.pure rfl (exec_idxP (by (try simp only [↓nrmL, nrmZ, qe, ↓reduceIte, qa, ze, zn, e7]); rfl) rfl ?_) (by simp only [↓nrmL, nrmZ, qe, ↓reduceIte, qa, ze, zn, e7]; rfl) ?_; (focus omega)
  refine WpE.stC (p := p) (j := j0) (v := cAt cs5 (j)) rfl rfl rfl (by rw [List.length_set]; omega) fun Hw q4 q5 q6 => ar ?_
  have hw : SrtS H0 p n U (swp cs5 (j) (j0)) Hw := hs6.swp (by omega) (by omega) q4 q5 (q3.trans q6)
  have hwp : Pm a b cs5 (swp cs5 (j) (j0)) := Pm.swp (by omega) (by omega) (by omega)
  refine WpE.nil (hKF _ _ ?_)
  simp only [e8]
  refine rg fun KF hKF => ?_
  refine mI ?_
  refine bn rfl rfl rfl (by simp only [↓nrmL, nrmZ, qe, ↓reduceIte, qa, ze, zn, e8]; rfl) ?_
  refine mI ?_
  refine nl hKF ?_
  dsimp only
  exact ⟨(j + 1, swp cs5 j j0), by dsimp only; omega, ⟨rfl, trivial⟩, by dsimp only; omega, by dsimp only; omega, hw, hp5.trans hwp, fun s t q1 q2 q3 => by
   have hl := hs5.len
   rw [cAt_swp (by omega) (by omega), cAt_swp (by omega) (by omega), if_neg (by omega), if_neg (by omega), if_neg (by omega), if_neg (by omega)]
   exact hso5 s t q1 q2 q3⟩
 rintro cs4 g4 H4 ⟨hs4, hp4, hso4⟩
 dsimp only
 haveI := hs4.sl.one
 simp only [↓nrmL, nrmZ, qe, ↓reduceIte, qa, ze, zn]
 refine rg fun KF hKF => ?_
 refine mI ?_
 refine bn rfl rfl rfl (by simp only [↓nrmL, nrmZ, qe, ↓reduceIte, qa, ze, zn, ek]; rfl) ?_
 refine mI ?_
 refine nl hKF ?_
 dsimp only
 exact ⟨(k + 1, i, cs4), by dsimp only; omega, ⟨rfl, rfl, rfl, trivial⟩, by dsimp only; omega, hi1, hi2, hs4, hp4, hso4⟩
end Go.Am
