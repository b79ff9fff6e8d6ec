/-
  StaveRuns returns true for all images, lists of staves and numbers, and leaves them as they were. No condition.
-/
import Derived.Test.YtpochhefklmnfaaGreatAmBE
set_option linter.unusedSimpArgs false
set_option linter.unusedVariables false
set_option maxHeartbeats 32000000
set_option maxRecDepth 100000
set_option synthInstance.maxHeartbeats 4000000
set_option synthInstance.maxSize 1000000000

namespace Go.Am
open Go
open Nat renaming reduceEqDiff → qe, reduceAdd → qz
open Int renaming reduceBEq → qa, reduceBNe → qn
attribute [local irreducible] Wp WpO WpX WpE
attribute [local irreducible] darkL lightL
theorem K_refGauge {a b : Nat} {p : AVal} {H : AHeap} {l : List UInt8} [hp : BytesI H p l] (ok : Ok a b l) : Con ext prog 7 14 [.agg [.int .i64 a, .int .i64 b, p]] H fun v H' => v = .tuple [.int .i64 (gauS ⟨a, b, l⟩).1, .int .i64 (gauS ⟨a, b, l⟩).2.1] ∧ Ext H H' := by
 refine con_of (show prog 14 = some c14 from rfl) rfl rfl fun n hn => ?_
 haveI := hp.one
 have h0 : (Img.err ⟨a, b, l⟩ == 0) = true := by rw [ok.err]; rfl
 have ha := ok.wa
 have hb := ok.hb
 obtain ⟨C, hC⟩ : ∃ C, allR (colO ⟨a, b, l⟩) b a = C := ⟨_, rfl⟩
 have e1 : gauS ⟨a, b, l⟩ = (((mcTo (darkL C C.length) 641 : Nat) : Int), ((mcTo (lightL C C.length) 641 : Nat) : Int), 0) := by simp only [gauS, h0, cond_true, Int.toNat_natCast, hC]
 rw [e1]
 have hClen : C.length ≤ 409600 := by
  have h7 := allR_len (colO ⟨a, b, l⟩) b a
  have h8 := Nat.mul_le_mul ha hb
  rw [← hC]; omega
 repeat first | refine mI ?_ | refine Fo.ldN rfl rfl (by simp only [↓nrmL, nrmZ, qe, ↓reduceIte, qz, qa, qn]; rfl) ?_ | refine bA ?_ | refine nl hKF ?_ | refine sq ?_ | refine rg fun KF hKF => ?_
 refine WpO.do (WpX.conD hn rfl rfl (by simp only [↓nrmL, nrmZ, qe, ↓reduceIte, qz, qa, qn, List.map] <;> rfl) (K_refColumns (p := p) (l := l) ok) fun q2 H3 h5 => ?_)
 obtain ⟨hq2, hfq2, hxq2⟩ := h5
 rw [hC] at hq2
 haveI : ExtI _ H3 := ⟨hxq2⟩
 have hsl2 := hq2.sl
 haveI := hsl2
 haveI := hsl2.one
 have hx03 : Ext H H3 := Ext0.ext
 refine mv ?_
 refine nl hKF ?_
 refine sq ?_
 dsimp only
 refine Fr.dregionE [.row (cellsI (List.replicate 641 0)) true (2 * 3), .row (cellsI (List.replicate 641 0)) true (2 * 3)] ?_ fun KF hKF => ?_
 ·refine oracle_made rfl rfl (made_mkI (a := 641) rfl rfl (by decide)) ?_
  refine oracle_made rfl rfl (made_mkI (a := 641) rfl rfl (by decide)) ?_
  exact oracle_none _ _ _ _ rfl
 simp only [pushAll]
 have kd : HasRow ((H3.push (.row (cellsI (List.replicate 641 0)) true (2 * 3))).push (.row (cellsI (List.replicate 641 0)) true (2 * 3))) H3.n (cellsI (darkL C 0)) true (2 * 3) := by rw [show darkL C 0 = List.replicate 641 0 by unfold darkL; rfl]; exact ⟨by simp only [AHeap.push]; omega, by rw [push_get_lt (by simp only [AHeap.push]; omega)]; exact push_get_eq⟩
 have kl : HasRow ((H3.push (.row (cellsI (List.replicate 641 0)) true (2 * 3))).push (.row (cellsI (List.replicate 641 0)) true (2 * 3))) (H3.n + 1) (cellsI (lightL C 0)) true (2 * 3) := by rw [show lightL C 0 = List.replicate 641 0 by unfold lightL; rfl]; exact ⟨Nat.lt_succ_self _, push_get_eq⟩
 haveI : HasRow ((H3.push (.row (cellsI (List.replicate 641 0)) true (2 * 3))).push (.row (cellsI (List.replicate 641 0)) true (2 * 3))) H3.n (cellsI (List.replicate 641 0)) true (2 * 3) := ⟨by simp only [AHeap.push]; omega, by rw [push_get_lt (by simp only [AHeap.push]; omega)]; exact push_get_eq⟩
 refine Fe.made rfl (made_mkI (a := 641) rfl rfl (by decide)) ghost_of trivial rfl ?_
 change WpE _ _ (AHeap.n (AHeap.push _ (.row (cellsI (List.replicate 641 0)) true (2 * 3)))) _ _ _ _ _ _ _
 refine Fe.made (v := .slice (H3.n + 1) 0 641 (some 641) 1) rfl (made_mkI (a := 641) rfl rfl (by decide)) ghost_of trivial rfl ?_
 refine Fe.pure rfl rfl (by simp only [↓nrmL, nrmZ, qe, ↓reduceIte, qz, qa, qn]; rfl) ?_
 refine Fe.pure rfl rfl (by simp only [↓nrmL, nrmZ, qe, ↓reduceIte, qz, qa, qn]; rfl) ?_
 refine WpE.nil (hKF _ _ ?_)
 refine sq ?_
 refine sq ?_
 refine rg fun KF hKF => ?_
 refine mI ?_
 refine nl hKF ?_
 refine Wp.block ?_
 dsimp only
 refine Wp.loopS [7, 15, 16, 17, 18, 19, 20, 21, 22, 23, 24, 25, 26, 27, 28, 29, 30, 31, 32, 33, 34, 35, 36, 37, 38, 39, 40, 41, 42, 43, 44, 45, 46, 47, 48, 49, 50, 51, 52, 53, 54, 55, 56, 57, 58, 59, 60, 61, 62, 63, 64, 65, 66, 67, 68, 69, 70, 71] (fun i : Nat => [(7, .int .i64 (i : Int))]) (fun _ i H5 => i ≤ C.length ∧ HasRow H5 H3.n (cellsI (darkL C i)) true (2 * 3) ∧ HasRow H5 (H3.n + 1) (cellsI (lightL C i)) true (2 * 3) ∧ Ext H3 H5) (fun i => C.length - i) 0 rfl (fun _ => rfl) ⟨rfl, trivial⟩ ⟨Nat.zero_le _, kd, kl, ((Ext.refl H3).push _).push _⟩ (by unfold fuel0 at hn; omega) ?_
 rintro i g H5 ⟨hi, rd, rl, hx5⟩
 haveI := rd
 haveI := rl
 haveI : ExtI H3 H5 := ⟨hx5⟩
 have bd := dark_bn C i
 have bl := light_bn C i
 haveI hsl5 : SliceAt H5 q2 3 C.length (cellsR C) := inferInstance
 haveI sd5 : SliceAt H5 (.slice H3.n 0 641 (some 641) 1) 1 641 (cellsI (darkL C i)) := by have := row_ints rd bd.len; unfold IntsI at this; rw [bd.len] at this; exact this
 haveI sl5 : SliceAt H5 (.slice (H3.n + 1) 0 641 (some 641) 1) 1 641 (cellsI (lightL C i)) := by have := row_ints rl bl.len; unfold IntsI at this; rw [bl.len] at this; exact this
 simp only [↓nrmL, nrmZ, qe, ↓reduceIte, qz, qa, qn]
 cases hc : decide ((i : Int) < (C.length : Int))
 ·have hie : i = C.length := by have := of_decide_eq_false hc; omega
  subst hie
  repeat first | refine mI ?_ | refine mv ?_ | refine bn rfl rfl rfl (by simp only [hc]; rfl) ?_ | refine ln (by simp only [↓nrmL, nrmK, qe, ↓reduceIte]; rfl) ?_ | refine nl hKF ?_ | refine sq ?_ | refine rg fun KF hKF => ?_ | refine cf rfl ?_ | refine Wp.block ?_ | refine xi ?_ | dsimp only
  obtain ⟨D, hD⟩ : ∃ D, darkL C C.length = D := ⟨_, rfl⟩
  obtain ⟨L, hL⟩ : ∃ L, lightL C C.length = L := ⟨_, rfl⟩
  rw [hD] at rd sd5 bd ⊢
  rw [hL] at rl sl5 bl ⊢
  refine Wp.loopS [8, 9, 10, 72, 73, 74, 75, 76, 77, 78, 79, 80, 81, 82, 83, 84, 85, 86, 87, 88, 89, 90, 91, 92, 93, 94, 95] (fun k : Nat => [(10, .int .i64 (k : Int)), (8, .int .i64 ((mcTo D k : Nat) : Int)), (9, .int .i64 ((mcTo L k : Nat) : Int))]) (fun K k H6 => 1 ≤ k ∧ k ≤ 641 ∧ H6 = K) (fun k => 641 - k) 1 rfl (fun _ => rfl) ⟨rfl, by simp only [↓nrmL, nrmZ, qe, ↓reduceIte, qz, qa, qn]; rw [mcTo_one]; rfl, by simp only [↓nrmL, nrmZ, qe, ↓reduceIte, qz, qa, qn]; rw [mcTo_one]; rfl, trivial⟩ ⟨Nat.le_refl _, by decide, rfl⟩ (by unfold fuel0 at hn; omega) ?_
  rintro k g2 H6 ⟨hk1, hk2, rfl⟩
  haveI := rd
  haveI := rl
  simp only [↓nrmL, nrmZ, qe, ↓reduceIte, qz, qa, qn]
  cases hck : decide ((k : Int) ≤ 640)
  ·have hke : k = 641 := by have := of_decide_eq_false hck; omega
   subst hke
   repeat first | refine mI ?_ | refine bn rfl rfl rfl (by simp only [hck]; rfl) ?_ | refine nl hKF ?_ | refine sq ?_ | refine rg fun KF hKF => ?_ | refine cf rfl ?_ | refine rt ?_ | refine xi ?_ | dsimp only
   refine rz trivial ?_
   exact ⟨rfl, Ext0.ext⟩
  have hkl : k < 641 := by have := of_decide_eq_true hck; omega
  have hwk := wa1 (a := k) (by omega)
  have m1 := mcTo_lt D k hk2
  have m2 := mcTo_lt L k hk2
  have d1 := ints_getD (L := D) (j := k) (by have := bd.len; omega)
  have d2 := ints_getD (L := D) (j := mcTo D k) (by have := bd.len; omega)
  have l1 := ints_getD (L := L) (j := k) (by have := bl.len; omega)
  have l2 := ints_getD (L := L) (j := mcTo L k) (by have := bl.len; omega)
  repeat first | refine mI ?_ | refine mv ?_ | refine bn rfl rfl rfl (by simp only [hck]; rfl) ?_ | (refine Fo.idx (by simp only [↓nrmL, nrmK, qe, ↓reduceIte]; rfl) rfl ?_ (by simp only [↓nrmL, nrmZ, qe, ↓reduceIte, qz, qa, qn, hck]; rfl) ?_; (focus omega)) | refine nl hKF ?_ | refine sq ?_ | refine rg fun KF hKF => ?_ | refine Fr.quiet rfl rfl fun KF hKF => ?_ | refine ct rfl ?_ | refine sk ?_ | refine Wp.block ?_
  refine Fo.now rfl (exec_ldP (p := .slice H3.n 0 641 (some 641) 1) (j := k) rfl d1) rfl ?_
  refine mv ?_
  refine mI ?_
  refine Fo.idx (by simp only [↓nrmL, nrmK, qe, ↓reduceIte]; rfl) rfl ?_ (by simp only [↓nrmL, nrmZ, qe, ↓reduceIte, qz, qa, qn]; rfl) ?_; (focus omega)
  refine Fo.now rfl (exec_ldP (p := .slice H3.n 0 641 (some 641) 1) (j := mcTo D k) rfl d2) rfl ?_
  cases h1 : decide (D.getD k 0 > D.getD (mcTo D k) 0)
  ·have e1 : mcTo D (k + 1) = mcTo D k := by rw [mcTo, h1]; rfl
   refine bn rfl rfl rfl (by simp only [h1]; rfl) ?_
   refine nl hKF ?_
   refine cf rfl ?_
   refine sk ?_
   refine sq ?_
   refine Fr.quiet rfl rfl fun KF hKF => ?_
   refine mv ?_
   refine mI ?_
   refine Fo.idx (by simp only [↓nrmL, nrmK, qe, ↓reduceIte]; rfl) rfl ?_ (by simp only [↓nrmL, nrmZ, qe, ↓reduceIte, qz, qa, qn, h1]; rfl) ?_; (focus omega)
   refine Fo.now rfl (exec_ldP (p := .slice (H3.n + 1) 0 641 (some 641) 1) (j := k) rfl l1) rfl ?_
   refine mv ?_
   refine mI ?_
   refine Fo.idx (by simp only [↓nrmL, nrmK, qe, ↓reduceIte]; rfl) rfl ?_ (by simp only [↓nrmL, nrmZ, qe, ↓reduceIte, qz, qa, qn]; rfl) ?_; (focus omega)
   refine Fo.now rfl (exec_ldP (p := .slice (H3.n + 1) 0 641 (some 641) 1) (j := mcTo L k) rfl l2) rfl ?_
   cases h2 : decide (L.getD k 0 > L.getD (mcTo L k) 0)
   ·have e2 : mcTo L (k + 1) = mcTo L k := by rw [mcTo, h2]; rfl
    repeat first | refine mI ?_ | refine bn rfl rfl rfl (by simp only [h2, hwk]; rfl) ?_ | refine nl hKF ?_ | refine rg fun KF hKF => ?_ | refine cf rfl ?_ | refine sk ?_ | dsimp only
    exact ⟨k + 1, by omega, ⟨rfl, by simp only [↓nrmL, nrmZ, qe, ↓reduceIte, qz, qa, qn]; rw [e1], by simp only [↓nrmL, nrmZ, qe, ↓reduceIte, qz, qa, qn]; rw [e2], trivial⟩, by omega, by omega, rfl⟩
   ·have e2 : mcTo L (k + 1) = k := by rw [mcTo, h2]; rfl
    repeat first | refine mI ?_ | refine bn rfl rfl rfl (by simp only [h2, hwk]; rfl) ?_ | refine nl hKF ?_ | refine rg fun KF hKF => ?_ | refine ct rfl ?_ | dsimp only
    exact ⟨k + 1, by omega, ⟨rfl, by simp only [↓nrmL, nrmZ, qe, ↓reduceIte, qz, qa, qn]; rw [e1], by simp only [↓nrmL, nrmZ, qe, ↓reduceIte, qz, qa, qn]; rw [e2], trivial⟩, by omega, by omega, rfl⟩
  ·have e1 : mcTo D (k + 1) = k := by rw [mcTo, h1]; rfl
   repeat first | refine mI ?_ | refine mv ?_ | refine bn rfl rfl rfl (by simp only [h1]; rfl) ?_ | (refine Fo.idx (by simp only [↓nrmL, nrmK, qe, ↓reduceIte]; rfl) rfl ?_ (by simp only [↓nrmL, nrmZ, qe, ↓reduceIte, qz, qa, qn, h1]; rfl) ?_; (focus omega)) | refine nl hKF ?_ | refine sq ?_ | refine rg fun KF hKF => ?_ | refine Fr.quiet rfl rfl fun KF hKF => ?_ | refine ct rfl ?_
   refine Fo.now rfl (exec_ldP (p := .slice (H3.n + 1) 0 641 (some 641) 1) (j := k) rfl l1) rfl ?_
   refine mv ?_
   refine mI ?_
   refine Fo.idx (by simp only [↓nrmL, nrmK, qe, ↓reduceIte]; rfl) rfl ?_ (by simp only [↓nrmL, nrmZ, qe, ↓reduceIte, qz, qa, qn]; rfl) ?_; (focus omega)
   refine Fo.now rfl (exec_ldP (p := .slice (H3.n + 1) 0 641 (some 641) 1) (j := mcTo L k) rfl l2) rfl ?_
   cases h2 : decide (L.getD k 0 > L.getD (mcTo L k) 0)
   ·have e2 : mcTo L (k + 1) = mcTo L k := by rw [mcTo, h2]; rfl
    repeat first | refine mI ?_ | refine bn rfl rfl rfl (by simp only [h2, hwk]; rfl) ?_ | refine nl hKF ?_ | refine rg fun KF hKF => ?_ | refine cf rfl ?_ | refine sk ?_ | dsimp only
    exact ⟨k + 1, by omega, ⟨rfl, by simp only [↓nrmL, nrmZ, qe, ↓reduceIte, qz, qa, qn]; rw [e1], by simp only [↓nrmL, nrmZ, qe, ↓reduceIte, qz, qa, qn]; rw [e2], trivial⟩, by omega, by omega, rfl⟩
   ·have e2 : mcTo L (k + 1) = k := by rw [mcTo, h2]; rfl
    repeat first | refine mI ?_ | refine bn rfl rfl rfl (by simp only [h2, hwk]; rfl) ?_ | refine nl hKF ?_ | refine rg fun KF hKF => ?_ | refine ct rfl ?_ | dsimp only
    exact ⟨k + 1, by omega, ⟨rfl, by simp only [↓nrmL, nrmZ, qe, ↓reduceIte, qz, qa, qn]; rw [e1], by simp only [↓nrmL, nrmZ, qe, ↓reduceIte, qz, qa, qn]; rw [e2], trivial⟩, by omega, by omega, rfl⟩
 have hil : i < C.length := by have := of_decide_eq_true hc; omega
 have hwi := wa1 (a := i) (by omega)
 obtain ⟨x, s, t, hgd, hr2, hxa, hst, htb⟩ := run_facts hC hil
 obtain ⟨r0, r1, r2⟩ := run_cells hil hr2
 have w1 : IntKind.i64.wrap ((t : Int) - (s : Int)) = (t : Int) - (s : Int) := w64 (by omega)
 have w2 : IntKind.i64.wrap ((t : Int) - (s : Int) + 1) = ((t - s + 1 : Nat) : Int) := by rw [w64 (by omega)]; omega
 have hv := ints_getD (L := darkL C i) (j := t - s + 1) (by have := bd.len; omega)
 have hbv := bd.it (t - s + 1)
 obtain ⟨V, hV⟩ : ∃ V, (darkL C i).getD (t - s + 1) 0 = V := ⟨_, rfl⟩
 have hds := dark_succ (i := i) hgd hst
 rw [hV] at hv hbv hds
 have w3 : IntKind.i64.wrap (V + 1) = V + 1 := w64 (by omega)
 refine sq ?_
 refine sq ?_
 refine rg fun KF hKF => ?_
 refine mI ?_
 refine mv ?_
 refine ln (by simp only [↓nrmL, nrmK, qe, ↓reduceIte]; rfl) ?_
 refine bn rfl rfl rfl (by simp only [hc]; rfl) ?_
 refine nl hKF ?_
 refine ct rfl ?_
 refine sk ?_
 refine sq ?_
 refine Wp.block ?_
 refine sq ?_
 dsimp only
 refine Fr.dregion0 rfl fun KF hKF => ?_
 repeat first | refine Fe.pure rfl rfl (by simp only [↓nrmL, nrmZ, qe, ↓reduceIte, qz, qa, qn]; rfl) ?_ | refine Fe.pure rfl rfl rfl ?_ | (refine Fe.pure rfl (exec_idxP (by (try simp only [↓nrmL, nrmZ, qe, ↓reduceIte, qz, qa, qn]); rfl) rfl ?_) (by simp only [↓nrmL, nrmZ, qe, ↓reduceIte, qz, qa, qn]; rfl) ?_; (focus omega))
 refine Fe.read rfl (exec_ldP (p := q2) (j := i * 3 + 2) rfl r2) rfl trivial ?_
 repeat first | refine Fe.pure rfl rfl (by simp only [↓nrmL, nrmZ, qe, ↓reduceIte, qz, qa, qn]; rfl) ?_ | refine Fe.pure rfl rfl rfl ?_ | (refine Fe.pure rfl (exec_idxP (by (try simp only [↓nrmL, nrmZ, qe, ↓reduceIte, qz, qa, qn]); rfl) rfl ?_) (by simp only [↓nrmL, nrmZ, qe, ↓reduceIte, qz, qa, qn]; rfl) ?_; (focus omega))
 refine Fe.read rfl (exec_ldP (p := q2) (j := i * 3 + 1) rfl r1) rfl trivial ?_
 simp only [↓nrmL, nrmZ, qe, ↓reduceIte, qz, qa, qn, w1, w2]
 refine Fe.pure rfl rfl (by simp only [↓nrmL, nrmZ, qe, ↓reduceIte, qz, qa, qn, w1, w2]; rfl) ?_
 refine Fe.pure rfl rfl (by simp only [↓nrmL, nrmZ, qe, ↓reduceIte, qz, qa, qn, w1, w2]; rfl) ?_
 refine Fe.pure rfl (exec_idxP (by (try simp only [↓nrmL, nrmZ, qe, ↓reduceIte, qz, qa, qn, w1, w2]); rfl) rfl ?_) (by simp only [↓nrmL, nrmZ, qe, ↓reduceIte, qz, qa, qn, w1, w2]; rfl) ?_; (focus omega)
 refine Fe.read rfl (exec_ldP (p := .slice H3.n 0 641 (some 641) 1) (j := t - s + 1) rfl hv) rfl trivial ?_
 simp only [↓nrmL, nrmZ, qe, ↓reduceIte, qz, qa, qn, w3]
 refine Fe.pure rfl rfl (by simp only [↓nrmL, nrmZ, qe, ↓reduceIte, qz, qa, qn, w3]; rfl) ?_
 refine Fe.pure rfl (exec_idxP (by (try simp only [↓nrmL, nrmZ, qe, ↓reduceIte, qz, qa, qn, w3]); rfl) rfl ?_) (by simp only [↓nrmL, nrmZ, qe, ↓reduceIte, qz, qa, qn, w3]; rfl) ?_; (focus omega)
 refine WpE.st2 (H00 := H3) (r := H3.n) (r' := H3.n + 1) (j := 0 + (t - s + 1)) (l := darkL C i) (l' := lightL C i) rfl (by omega) hx5 (Nat.le_refl _) rfl rfl inferInstance inferInstance (by have := bd.len; omega) fun H6 kd6 kl6 hx6 => ar ?_
 dsimp only [put]
 rw [Nat.zero_add, hds] at kd6
 haveI := kd6
 haveI := kl6
 haveI : ExtI H3 H6 := ⟨hx6⟩
 haveI hsl6 : SliceAt H6 q2 3 C.length (cellsR C) := inferInstance
 haveI sl6 : SliceAt H6 (.slice (H3.n + 1) 0 641 (some 641) 1) 1 641 (cellsI (lightL C i)) := by have := row_ints kl6 bl.len; unfold IntsI at this; rw [bl.len] at this; exact this
 refine WpE.nil (hKF _ _ ?_)
 rcases Nat.eq_zero_or_pos i with h0i | h0i
 ·have hg0 : decide ((i : Int) > 0) = false := decide_eq_false (by omega)
  have hnx : nextB C i = false := by unfold nextB; rw [decide_eq_false (by omega)]; rfl
  simp only [hg0, hwi]
  repeat first | refine ox ?_ | refine mI ?_ | refine mB ?_ | refine bn rfl rfl rfl (by simp only [hg0, hwi]; rfl) ?_ | refine fB ?_ | refine nl hKF ?_ | refine sq ?_ | refine rg fun KF hKF => ?_ | refine Fr.quiet rfl rfl fun KF hKF => ?_ | refine cf rfl ?_ | refine sk ?_ | dsimp only
  refine ⟨i + 1, by omega, ⟨rfl, trivial⟩, by omega, inferInstance, by rw [light_same hnx]; infer_instance, hx6⟩
 have hg0 : decide ((i : Int) > 0) = true := decide_eq_true (by omega)
 have hi1 : i - 1 < C.length := by omega
 have w4 : IntKind.i64.wrap ((i : Int) - 1) = ((i - 1 : Nat) : Int) := by rw [w64 (by omega)]; omega
 obtain ⟨x', s', t', hgd', hr2', hxa', hst', htb'⟩ := run_facts hC hi1
 obtain ⟨r0', r1', r2'⟩ := run_cells hi1 hr2'
 have hne : nextB C i = ((x' : Int) == (x : Int)) := by unfold nextB; rw [hgd, hgd', decide_eq_true h0i]; rfl
 simp only [hg0, w4]
 repeat first | refine oy ?_ | refine mI ?_ | refine mB ?_ | refine mv ?_ | refine fd ?_ | refine bn rfl rfl rfl (by simp only [hg0, w4]; rfl) ?_ | (refine Fo.idx (by simp only [↓nrmL, nrmK, qe, ↓reduceIte]; rfl) rfl ?_ (by simp only [↓nrmL, nrmZ, qe, ↓reduceIte, qz, qa, qn, hg0, w4]; rfl) ?_; (focus omega)) | refine sq ?_ | refine Fr.quiet rfl rfl fun KF hKF => ?_
 refine Fo.now rfl (exec_ldP (p := q2) (j := (i - 1) * 3) rfl r0') rfl ?_
 repeat first | refine oy ?_ | refine mI ?_ | refine mv ?_ | refine fd ?_ | (refine Fo.idx (by simp only [↓nrmL, nrmK, qe, ↓reduceIte]; rfl) rfl ?_ (by simp only [↓nrmL, nrmZ, qe, ↓reduceIte, qz, qa, qn]; rfl) ?_; (focus omega))
 refine Fo.now rfl (exec_ldP (p := q2) (j := i * 3) rfl r0) rfl ?_
 cases he : ((x' : Int) == (x : Int))
 ·rw [he] at hne
  repeat first | refine oy ?_ | refine mI ?_ | refine bn rfl rfl rfl (by simp only [he, hwi]; rfl) ?_ | refine tB ?_ | refine nl hKF ?_ | refine rg fun KF hKF => ?_ | refine cf rfl ?_ | refine sk ?_ | dsimp only
  refine ⟨i + 1, by omega, ⟨rfl, trivial⟩, by omega, inferInstance, by rw [light_same hne]; infer_instance, hx6⟩
 rw [he] at hne
 have hxx : x' = x := by have := eq_of_beq he; omega
 have hnxt : t' + 1 < s := run_next (i := i - 1) hC (by omega) hr2' (by rw [← hr2]; congr 1; omega) hxx
 have hls := light_succ (i := i) hne hgd' hgd hnxt
 have hv' := ints_getD (L := lightL C i) (j := s - t' - 1) (by have := bl.len; omega)
 have hbv' := bl.it (s - t' - 1)
 obtain ⟨U, hU⟩ : ∃ U, (lightL C i).getD (s - t' - 1) 0 = U := ⟨_, rfl⟩
 rw [hU] at hv' hbv' hls
 have w5 : IntKind.i64.wrap ((s : Int) - (t' : Int)) = (s : Int) - (t' : Int) := w64 (by omega)
 have w6 : IntKind.i64.wrap ((s : Int) - (t' : Int) - 1) = ((s - t' - 1 : Nat) : Int) := by rw [w64 (by omega)]; omega
 have w7 : IntKind.i64.wrap (U + 1) = U + 1 := w64 (by omega)
 refine oy ?_
 refine bn rfl rfl rfl (by simp only [he]; rfl) ?_
 refine tB ?_
 refine nl hKF ?_
 refine ct rfl ?_
 refine Fr.dregion0 rfl fun KF hKF => ?_
 repeat first | refine Fe.pure rfl rfl (by simp only [↓nrmL, nrmZ, qe, ↓reduceIte, qz, qa, qn]; rfl) ?_ | refine Fe.pure rfl rfl rfl ?_ | (refine Fe.pure rfl (exec_idxP (by (try simp only [↓nrmL, nrmZ, qe, ↓reduceIte, qz, qa, qn]); rfl) rfl ?_) (by simp only [↓nrmL, nrmZ, qe, ↓reduceIte, qz, qa, qn]; rfl) ?_; (focus omega))
 refine Fe.read rfl (exec_ldP (p := q2) (j := i * 3 + 1) rfl r1) rfl trivial ?_
 simp only [↓nrmL, nrmZ, qe, ↓reduceIte, qz, qa, qn, w4]
 repeat first | refine Fe.pure rfl rfl (by simp only [↓nrmL, nrmZ, qe, ↓reduceIte, qz, qa, qn, w4]; rfl) ?_ | refine Fe.pure rfl rfl rfl ?_ | (refine Fe.pure rfl (exec_idxP (by (try simp only [↓nrmL, nrmZ, qe, ↓reduceIte, qz, qa, qn, w4]); rfl) rfl ?_) (by simp only [↓nrmL, nrmZ, qe, ↓reduceIte, qz, qa, qn, w4]; rfl) ?_; (focus omega))
 refine Fe.read rfl (exec_ldP (p := q2) (j := (i - 1) * 3 + 2) rfl r2') rfl trivial ?_
 simp only [↓nrmL, nrmZ, qe, ↓reduceIte, qz, qa, qn, w5, w6]
 refine Fe.pure rfl rfl (by simp only [↓nrmL, nrmZ, qe, ↓reduceIte, qz, qa, qn, w5, w6]; rfl) ?_
 refine Fe.pure rfl rfl (by simp only [↓nrmL, nrmZ, qe, ↓reduceIte, qz, qa, qn, w5, w6]; rfl) ?_
 refine Fe.pure rfl (exec_idxP (by (try simp only [↓nrmL, nrmZ, qe, ↓reduceIte, qz, qa, qn, w5, w6]); rfl) rfl ?_) (by simp only [↓nrmL, nrmZ, qe, ↓reduceIte, qz, qa, qn, w5, w6]; rfl) ?_; (focus omega)
 refine Fe.read rfl (exec_ldP (p := .slice (H3.n + 1) 0 641 (some 641) 1) (j := s - t' - 1) rfl hv') rfl trivial ?_
 simp only [↓nrmL, nrmZ, qe, ↓reduceIte, qz, qa, qn, w7]
 refine Fe.pure rfl rfl (by simp only [↓nrmL, nrmZ, qe, ↓reduceIte, qz, qa, qn, w7]; rfl) ?_
 refine Fe.pure rfl (exec_idxP (by (try simp only [↓nrmL, nrmZ, qe, ↓reduceIte, qz, qa, qn, w7]); rfl) rfl ?_) (by simp only [↓nrmL, nrmZ, qe, ↓reduceIte, qz, qa, qn, w7]; rfl) ?_; (focus omega)
 refine WpE.st2 (H00 := H3) (r := H3.n + 1) (r' := H3.n) (j := 0 + (s - t' - 1)) (l := lightL C i) (l' := darkL C (i + 1)) rfl (by omega) hx6 (by omega) rfl rfl inferInstance inferInstance (by have := bl.len; omega) fun H7 kl7 kd7 hx7 => ar ?_
 rw [Nat.zero_add, hls] at kl7
 refine WpE.nil (hKF _ _ ?_)
 simp only [hwi]
 refine rg fun KF hKF => ?_
 refine mI ?_
 refine bn rfl rfl rfl (by simp only [hwi]; rfl) ?_
 refine mI ?_
 refine nl hKF ?_
 dsimp only
 refine ⟨i + 1, by omega, ⟨rfl, trivial⟩, by omega, kd7, kl7, hx7⟩
end Go.Am

namespace Go.Am
open Go
end Go.Am

namespace Go.Am
open Go
section
variable {call : ACall} {its : List DItem} {H0 : AHeap} {n ref : Nat} {E : List (Nat × AHeap)} {Rd : List (Nat × (AHeap → Bool))} {fr : AFrame} {H : AHeap} {K : AFrame → AHeap → Prop} {g : Option (Nat × Bool)} {b : Nat} {pre : Bool}
theorem WpE.grow {d : Option Nat} {e : TypeId} {x y : ROpd} {p q : AVal} {sz m k bytes : Nat} {cs new : List AVal} (hw : ROper.wanted fr ⟨d, .append e sz bytes x y, g⟩ = true) (hx : x.ev fr = p) (hy : y.ev fr = q) [h : OwnS H p sz m cs e] [hq : SliceAt H q sz k new] (hsz : 0 < sz) (hb : 0 < bytes) (hk : 0 < k) (hroom : 2 * (m + k) * bytes ≤ 2 ^ 48) (hone : new.all AVal.one = true)
    (hK : ∀ p' H', OwnS H' p' sz (m + k) (cs ++ new) e → FreshS H p' → ExtP H H' p → AllR b H' Rd ∧ WpE call (n + 1) ref its H0 ((n, H) :: E) Rd (put fr d p') H' K) : WpE call n ref (⟨⟨d, .append e sz bytes x y, g⟩, b, 2, pre⟩ :: its) H0 E Rd fr H K := by
  obtain ⟨p', H1, h1, h2, h3, h4⟩ := WpX.grow (call := call) (K := fun v H1 => OwnS H1 v sz (m + k) (cs ++ new) e ∧ FreshS H v ∧ ExtP H H1 p) hx hy hsz hb hk hroom hone fun p' H' q1 q2 q3 => ⟨q1, q2, q3⟩
  obtain ⟨h5, h6⟩ := hK p' H1 h2 h3 h4
  exact WpE.effect hw h1 h5 h6
end
end Go.Am


namespace Go.Am
open Go
attribute [local irreducible] Wp WpO WpX WpE
def StG (B : Nat) (H : AHeap) (q : AVal) (ls : List (List Int)) : Prop := ∃ cells, OwnS H q 1 ls.length cells 53 ∧ Copied B H cells ls ls.length ∧ ∀ r off len cap sz, q = .slice r off len cap sz → B ≤ r
theorem StG.lines {B : Nat} {H : AHeap} {q : AVal} {ls : List (List Int)} (h : StG B H q ls) : LinesI H q ls := by
 obtain ⟨cells, h1, h2, h3⟩ := h
 exact ⟨cells, h1.sl, ⟨fun i hi => by obtain ⟨p, a1, a2, a3⟩ := h2.it i hi hi; exact ⟨p, a1, a2.sl⟩⟩⟩
theorem StG.weak {B B' : Nat} {H : AHeap} {q : AVal} {ls : List (List Int)} (h : StG B H q ls) (hB : B' ≤ B) : StG B' H q ls := by
 obtain ⟨cells, h1, h2, h3⟩ := h
 exact ⟨cells, h1, ⟨fun i hi h4 => by obtain ⟨p, a1, a2, a3⟩ := h2.it i hi h4; exact ⟨p, a1, a2, fun r off len cap sz e => Nat.le_trans hB (a3 r off len cap sz e)⟩⟩, fun r off len cap sz e => Nat.le_trans hB (h3 r off len cap sz e)⟩
theorem StG.keep {B : Nat} {H H' : AHeap} {q : AVal} {ls : List (List Int)} (h : StG B H q ls) (hn : H.n ≤ H'.n) (hg : ∀ s cs e, s < H.n → B ≤ s → H.get s = .row cs true e → (e / 2 = 3 ∨ e / 2 = 53) → H'.get s = H.get s) : StG B H' q ls := by
 obtain ⟨cells, h1, h2, h3⟩ := h
 refine ⟨cells, ?_, h2.keep hn fun s cs e a b c d => hg s cs e a b c (Or.inl d), h3⟩
 rcases h1.it with ⟨a1, a2, a3⟩ | ⟨r, e', a1, a2, a3, a4, a5, a6⟩
 ·exact ⟨Or.inl ⟨a1, a2, a3⟩⟩
 ·exact ⟨Or.inr ⟨r, e', a1, by omega, by rw [hg r _ _ a2 (h3 _ _ _ _ _ a1) a3 (Or.inr a4)]; exact a3, a4, a5, a6⟩⟩
theorem StG.ext {B : Nat} {H H' : AHeap} {q : AVal} {ls : List (List Int)} (h : StG B H q ls) (x : Ext H H') : StG B H' q ls := h.keep x.n fun s _ _ a _ _ _ => x.get s a
end Go.Am

namespace Go.Am
open Go
def lenG (ls : List (List Int)) : Nat := (ls.getD 0 []).length
def colG (ls : List (List Int)) (m : Nat) : Nat := if m % 2 = 0 then 0 else lenG ls - 1
def gapG (ls : List (List Int)) (m : Nat) : Int := (ls.getD (m / 2 + 1) []).getD (colG ls m) 0 - (ls.getD (m / 2) []).getD (colG ls m) 0
def groupB (ls : List (List Int)) : Bool := decide (lenG ls ≠ 0) && ((List.range 5).all (fun i => (ls.getD i []).length == lenG ls) && (List.range 8).all fun m => decide (2 ≤ gapG ls m) && (decide (gapG ls m ≤ 64) && (List.range 8).all fun k => decide (gapG ls m - gapG ls k ≤ 2)))
theorem groupB_iff {ls : List (List Int)} : groupB ls = true ↔ lenG ls ≠ 0 ∧ (∀ i, i < 5 → (ls.getD i []).length = lenG ls) ∧ ∀ m, m < 8 → 2 ≤ gapG ls m ∧ gapG ls m ≤ 64 ∧ ∀ k, k < 8 → gapG ls m - gapG ls k ≤ 2 := by
  simp only [groupB, Bool.and_eq_true, List.all_eq_true, List.mem_range, decide_eq_true_eq, beq_iff_eq]
theorem groupB_no {ls : List (List Int)} (h : ¬ (lenG ls ≠ 0 ∧ (∀ i, i < 5 → (ls.getD i []).length = lenG ls) ∧ ∀ m, m < 8 → 2 ≤ gapG ls m ∧ gapG ls m ≤ 64 ∧ ∀ k, k < 8 → gapG ls m - gapG ls k ≤ 2)) : groupB ls = false := by
  cases hg : groupB ls
  · rfl
  · exact absurd (groupB_iff.1 hg) h
structure GI (ls : List (List Int)) (m : Nat) (le gr : Int) : Prop where
  rng : ∀ k, k < m → 2 ≤ gapG ls k ∧ gapG ls k ≤ 64 ∧ le ≤ gapG ls k ∧ gapG ls k ≤ gr
  att : (m = 0 ∧ le = 64 ∧ gr = 2) ∨ ((∃ k, k < m ∧ gapG ls k = le) ∧ ∃ k, k < m ∧ gapG ls k = gr)
theorem GI.zero (ls : List (List Int)) : GI ls 0 64 2 := ⟨fun k h => by omega, Or.inl ⟨rfl, rfl, rfl⟩⟩
theorem GI.next {ls : List (List Int)} {m : Nat} {le gr : Int} (h : GI ls m le gr) (h1 : 2 ≤ gapG ls m) (h2 : gapG ls m ≤ 64) : GI ls (m + 1) (if gapG ls m < le then gapG ls m else le) (if gapG ls m > gr then gapG ls m else gr) := by
  constructor
  · intro k hk
    by_cases e : k = m
    · subst e; split <;> split <;> omega
    · have := h.rng k (by omega)
      split <;> split <;> omega
  · right
    rcases h.att with ⟨rfl, rfl, rfl⟩ | ⟨⟨k1, a1, a2⟩, k2, b1, b2⟩
    · refine ⟨⟨0, by omega, ?_⟩, 0, by omega, ?_⟩
      · split <;> omega
      · split <;> omega
    · constructor
      · split
        · exact ⟨m, by omega, rfl⟩
        · exact ⟨k1, by omega, a2⟩
      · split
        · exact ⟨m, by omega, rfl⟩
        · exact ⟨k2, by omega, b2⟩
theorem GI.bound {ls : List (List Int)} {m : Nat} {le gr : Int} (h : GI ls m le gr) : 2 ≤ le ∧ le ≤ 64 ∧ 2 ≤ gr ∧ gr ≤ 64 := by
  rcases h.att with ⟨_, rfl, rfl⟩ | ⟨⟨k1, a1, a2⟩, k2, b1, b2⟩
  · omega
  · have := h.rng k1 a1
    have := h.rng k2 b1
    omega
theorem GI.done {ls : List (List Int)} {le gr : Int} (h : GI ls 8 le gr) (h0 : lenG ls ≠ 0) (hl : ∀ i, i < 5 → (ls.getD i []).length = lenG ls) : groupB ls = decide (gr - le ≤ 2) := by
  cases hd : decide (gr - le ≤ 2)
  · have hd := of_decide_eq_false hd
    refine groupB_no fun ⟨_, _, h3⟩ => ?_
    rcases h.att with ⟨e, _, _⟩ | ⟨⟨k1, a1, a2⟩, k2, b1, b2⟩
    · cases e
    · have := (h3 k2 b1).2.2 k1 a1
      omega
  · have hd := of_decide_eq_true hd
    refine groupB_iff.2 ⟨h0, hl, fun m hm => ⟨(h.rng m hm).1, (h.rng m hm).2.1, fun k hk => ?_⟩⟩
    have := h.rng m hm
    have := h.rng k hk
    omega
class ModL (ls : List (List Int)) : Prop where
  it : ∀ i x, -1099511627776 ≤ (ls.getD i []).getD x 0 ∧ (ls.getD i []).getD x 0 ≤ 1099511627776
theorem getD_drop {α : Type} {l : List α} {a i : Nat} {d : α} : (l.drop a).getD i d = l.getD (a + i) d := by simp [List.getD_eq_getElem?_getD]
theorem ModL.drop {ls : List (List Int)} (h : ModL ls) (a : Nat) : ModL (ls.drop a) := ⟨fun i x => by rw [getD_drop]; exact h.it _ _⟩
theorem ModL.take {ls : List (List Int)} (h : ModL ls) (b : Nat) : ModL (ls.take b) := ⟨fun i x => by
  by_cases hi : i < b
  · have : (ls.take b).getD i [] = ls.getD i [] := by simp [List.getD_eq_getElem?_getD, List.getElem?_take, hi]
    rw [this]; exact h.it _ _
  · have : (ls.take b).getD i [] = [] := by simp [List.getD_eq_getElem?_getD, List.getElem?_take, hi]
    rw [this]; simp⟩
end Go.Am

namespace Go.Am
open Go
theorem Rows.sub {H : AHeap} {ps : List AVal} {ls : List (List Int)} {a b : Nat} (h : Rows H ps ls) (hb : b ≤ ls.length) : Rows H ((ps.drop a).take (b - a)) ((ls.drop a).take (b - a)) := ⟨fun i hi => by
  simp only [List.length_take, List.length_drop] at hi
  obtain ⟨q, h1, h2⟩ := h.it (a + i) (by omega)
  refine ⟨q, ?_, ?_⟩
  · rw [List.getElem?_take, if_pos (by omega), List.getElem?_drop]; exact h1
  · simp only [List.getElem_take, List.getElem_drop]; exact h2⟩
end Go.Am


namespace Go.Am
open Go
attribute [local irreducible] Wp WpO WpX WpE
end Go.Am


namespace Go.Am
open Go
attribute [local irreducible] Wp WpO WpX WpE
end Go.Am


namespace Go.Am
open Go
attribute [local irreducible] Wp WpO WpX WpE
def StvG (B : Nat) (H : AHeap) (v : AVal) (sts : List (List (List Int))) : Prop := ∃ cells, OwnS H v 1 sts.length cells 59 ∧ (∀ j (h : j < sts.length), ∃ q, cells[j]? = some q ∧ StG B H q sts[j]) ∧ ∀ r off len cap sz, v = .slice r off len cap sz → B ≤ r
theorem SlimL.take {ls : List (List Int)} (h : SlimL ls) (b : Nat) : SlimL (ls.take b) := ⟨by have := h.le; rw [List.length_take]; omega, fun i hi => by
 rw [List.length_take] at hi
 rw [List.getElem_take]
 exact h.it i (by omega)⟩
theorem SlimL.drop {ls : List (List Int)} (h : SlimL ls) (b : Nat) : SlimL (ls.drop b) := ⟨by have := h.le; rw [List.length_drop]; omega, fun i hi => by
 rw [List.length_drop] at hi
 rw [List.getElem_drop]
 exact h.it (b + i) (by omega)⟩
end Go.Am


namespace Go.Am
open Go
attribute [local irreducible] Wp WpO WpX WpE
theorem LinesI.one {H : AHeap} {p : AVal} {ls : List (List Int)} (h : LinesI H p ls) : OneV p := by
 obtain ⟨ps, h1, h2⟩ := h.it
 exact h1.one
end Go.Am


namespace Go.Am
open Go
open Nat renaming reduceEqDiff → qe, reduceAdd → qz
open Int renaming reduceBEq → qa, reduceBNe → qn
attribute [local irreducible] Wp WpO WpX WpE
theorem K_SameStaves {p q : AVal} {H : AHeap} {m m' : Nat} {cs cs' : List AVal} {sts : List (List (List Int))} (hp : StavesI H p m cs sts) (hq : StavesI H q m' cs' sts) (hs : ∀ (i : Nat) (h : i < sts.length), SlimL sts[i]) (hm : m ≤ 1000) : Con ext prog 4 17 [p, q] H fun v H' => v = .bool true ∧ Ext H H' := by
 refine con_of (show prog 17 = some c17 from rfl) rfl rfl fun n hn => ?_
 have hsp := hp.sl
 have hsq := hq.sl
 haveI := hsp
 haveI := hsq
 haveI := hsp.one
 haveI := hsq.one
 have e1 := hp.len
 have e2 := hq.len
 have hcl : cs.length = m := by have := hsp.len; omega
 have hcl' : cs'.length = m' := by have := hsq.len; omega
 have emm : m' = m := by omega
 subst emm
 have h1 : (((m' : Nat) : Int) != ((m' : Nat) : Int)) = false := by simp
 repeat first | refine mI ?_ | refine mB ?_ | refine mv ?_ | refine bn rfl rfl rfl (by simp only [h1]; rfl) ?_ | refine ln (by simp only [↓nrmL, nrmK, qe, ↓reduceIte]; rfl) ?_ | refine nl hKF ?_ | refine sq ?_ | refine rg fun KF hKF => ?_ | refine cf rfl ?_ | refine sk ?_ | refine Wp.block ?_ | dsimp only
 refine Wp.loopS [4, 5, 11, 12, 13, 14, 15, 16, 17, 18, 19, 20, 21, 22, 23, 24, 25, 26] (fun i : Nat => [(5, .int .i64 i)]) (fun H3 i H2 => i ≤ m' ∧ Ext0 H3 H2) (fun i => m' - i) 0 rfl (fun _ => rfl) ⟨rfl, trivial⟩ ⟨Nat.zero_le _, inferInstance⟩ (by unfold fuel0 at hn; omega) ?_
 rintro i g H2 ⟨hi, ⟨hx⟩⟩
 haveI : ExtI _ H2 := ⟨hx⟩
 simp only [↓nrmL, nrmZ, qe, ↓reduceIte, qz, qa, qn]
 cases hc : decide ((i : Int) < (m' : Int))
 ·skip
  repeat first | refine mI ?_ | refine mB ?_ | refine mv ?_ | refine bn rfl rfl rfl (by simp only [hc]; rfl) ?_ | refine ln (by simp only [↓nrmL, nrmK, qe, ↓reduceIte]; rfl) ?_ | refine nl hKF ?_ | refine sq ?_ | refine rg fun KF hKF => ?_ | refine cf rfl ?_ | refine rt ?_ | refine xi ?_ | dsimp only
  refine rz trivial ?_
  exact ⟨rfl, Ext0.ext⟩
 have hil : i < m' := by have := of_decide_eq_true hc; omega
 have his : i < sts.length := by omega
 have hw1 := wa1 (a := i) (by omega)
 obtain ⟨a, ha, hLa⟩ := hp.it i his
 obtain ⟨b, hb, hLb⟩ := hq.it i his
 haveI := hLa
 haveI := hLb
 haveI := hLa.one
 haveI := hLb.one
 haveI := hs i his
 have hne : decide (sts[i] = sts[i]) = true := decide_eq_true rfl
 refine sq ?_
 refine sq ?_
 refine rg fun KF hKF => ?_
 refine mI ?_
 refine mv ?_
 refine ln (by simp only [↓nrmL, nrmK, qe, ↓reduceIte]; rfl) ?_
 refine bn rfl rfl rfl (by simp only [hc]; rfl) ?_
 refine nl hKF ?_
 refine ct rfl ?_
 refine sk ?_
 refine sq ?_
 refine Wp.block ?_
 refine sq ?_
 dsimp only
 refine Fr.dregion0 rfl fun KF hKF => ?_
 refine Fe.pure rfl rfl (by simp only [↓nrmL, nrmZ, qe, ↓reduceIte, qz, qa, qn]; rfl) ?_
 refine Fe.pure rfl rfl (by simp only [↓nrmL, nrmZ, qe, ↓reduceIte, qz, qa, qn]; rfl) ?_
 refine Fe.pure rfl (exec_idxP (by (try simp only [↓nrmL, nrmZ, qe, ↓reduceIte, qz, qa, qn]); rfl) rfl ?_) (by simp only [↓nrmL, nrmZ, qe, ↓reduceIte, qz, qa, qn]; rfl) ?_; (focus omega)
 refine Fe.read rfl (exec_ldNP (p := p) (j := i) (m := 1) (l := [a]) rfl (by decide) (by omega) (take_one ha)) rfl trivial ?_
 refine Fe.pure rfl rfl (by simp only [↓nrmL, nrmZ, qe, ↓reduceIte, qz, qa, qn]; rfl) ?_
 refine Fe.pure rfl rfl (by simp only [↓nrmL, nrmZ, qe, ↓reduceIte, qz, qa, qn]; rfl) ?_
 refine Fe.pure rfl (exec_idxP (by (try simp only [↓nrmL, nrmZ, qe, ↓reduceIte, qz, qa, qn]); rfl) rfl ?_) (by simp only [↓nrmL, nrmZ, qe, ↓reduceIte, qz, qa, qn]; rfl) ?_; (focus omega)
 refine Fe.read rfl (exec_ldNP (p := q) (j := i) (m := 1) (l := [b]) rfl (by decide) (by omega) (take_one hb)) rfl trivial ?_
 simp only [↓nrmL, nrmZ, qe, ↓reduceIte, qz, qa, qn, hne]
 refine Fe.pcall (v' := ?_) rfl hn rfl (by simp only [↓nrmL, nrmZ, qe, ↓reduceIte, qz, qa, qn, hne, List.map]; rfl) rfl ?hv fun _ _ => ar ?_; case hv => (simp only [hne]; rfl)
 refine Fe.pure rfl rfl rfl ?_
 refine WpE.nil (hKF _ _ ?_)
 refine cf rfl ?_
 refine sk ?_
 refine rg fun KF hKF => ?_
 refine mI ?_
 refine b0 ?_
 refine mI ?_
 refine nl hKF ?_
 dsimp only
 refine ⟨i + 1, by omega, ⟨by simp only [↓nrmL, nrmZ, qe, ↓reduceIte, qz, qa, qn]; rw [hw1], trivial⟩, by omega, inferInstance⟩
end Go.Am

namespace Go.Am
open Go
structure W7 (B : Nat) (H H' : AHeap) : Prop where
  n : H.n ≤ H'.n
  low : ∀ r, r < B → r < H.n → H'.get r = H.get r
  other : ∀ r cs rw e, r < H.n → H.get r = .row cs rw e → e / 2 ≠ 3 → H'.get r = .row cs rw e
  nums : ∀ r cs e, r < H.n → H.get r = .row cs true e → e / 2 = 3 → ∃ cs', H'.get r = .row cs' true e ∧ cs'.length = cs.length
theorem W7.refl (B : Nat) (H : AHeap) : W7 B H H := ⟨Nat.le_refl _, fun _ _ _ => rfl, fun _ _ _ _ _ h _ => h, fun r cs e _ h _ => ⟨cs, h, rfl⟩⟩
theorem W7.ext {B : Nat} {H H' H2 : AHeap} (h : W7 B H H') (x : Ext H' H2) : W7 B H H2 := ⟨Nat.le_trans h.n x.n, fun r a b => by rw [x.get r (Nat.lt_of_lt_of_le b h.n), h.low r a b], fun r cs rw e a b c => by rw [x.get r (Nat.lt_of_lt_of_le a h.n), h.other r cs rw e a b c], fun r cs e a b c => by
  obtain ⟨cs', d1, d2⟩ := h.nums r cs e a b c
  exact ⟨cs', by rw [x.get r (Nat.lt_of_lt_of_le a h.n), d1], d2⟩⟩
theorem W7.own {B : Nat} {H H' : AHeap} {p : AVal} {sz n : Nat} {cs : List AVal} {e : TypeId} (h : W7 B H H') (ho : OwnS H p sz n cs e) (he : e ≠ 3) : OwnS H' p sz n cs e := by
  rcases ho.it with ⟨a1, a2, a3⟩ | ⟨r, e', a1, a2, a3, a4, a5, a6⟩
  · exact ⟨Or.inl ⟨a1, a2, a3⟩⟩
  · exact ⟨Or.inr ⟨r, e', a1, Nat.lt_of_lt_of_le a2 h.n, h.other r cs true e' a2 a3 (by rw [a4]; exact he), a4, a5, a6⟩⟩
theorem StvG.stv {B : Nat} {H : AHeap} {v : AVal} {sts : List (List (List Int))} (h : StvG B H v sts) : ∃ cells, StavesI H v sts.length cells sts := by
  obtain ⟨cells, h1, h2, h3⟩ := h
  exact ⟨cells, rfl, h1.sl, fun i hi => by obtain ⟨q, a1, a2⟩ := h2 i hi; exact ⟨q, a1, a2.lines⟩⟩
theorem StvG.ext {B : Nat} {H H' : AHeap} {v : AVal} {sts : List (List (List Int))} (h : StvG B H v sts) (x : Ext H H') : StvG B H' v sts := by
  obtain ⟨cells, h1, h2, h3⟩ := h
  haveI : ExtI H H' := ⟨x⟩
  exact ⟨cells, inferInstance, fun i hi => by obtain ⟨q, a1, a2⟩ := h2 i hi; exact ⟨q, a1, a2.ext x⟩, h3⟩
end Go.Am

namespace Go.Am
open Go
open Nat renaming reduceEqDiff → qe, reduceAdd → qz
open Int renaming reduceBEq → qa, reduceBNe → qn
attribute [local irreducible] Wp WpO WpX WpE
theorem K_CopyListsG {H : AHeap} {p : AVal} {ls : List (List Int)} [hp : LinesI H p ls] [hs : SlimL ls] : Con ext prog 2 52 [p] H fun v H' => StG H.n H' v ls ∧ OneV v ∧ FreshS H v ∧ Ext H H' := by
 refine con_of (show prog 52 = some c52 from rfl) rfl rfl fun n hn => ?_
 obtain ⟨ps, hps, hrw⟩ := hp.it
 haveI := hps
 haveI := hps.one
 have hle := hs.le
 repeat first | refine mI ?_ | refine mN ?_ | refine nl hKF ?_ | refine sq ?_ | refine rg fun KF hKF => ?_ | refine Wp.block ?_ | dsimp only
 refine Wp.loopS (σ := Nat × AVal) [3, 4, 5, 6, 7, 8, 9, 10, 11, 12, 13, 14, 15, 16, 17, 18] (fun s => [(4, .int .i64 (s.1 : Int)), (3, s.2)]) (fun H3 s H2 => s.1 ≤ ls.length ∧ ∃ cells, OwnS H2 s.2 1 s.1 cells 53 ∧ Copied H3.n H2 cells ls s.1 ∧ FreshS H3 s.2 ∧ Ext0 H3 H2) (fun s => ls.length - s.1) (0, .nslice) rfl (fun _ => rfl) ⟨rfl, rfl, trivial⟩ ⟨Nat.zero_le _, [], ⟨Or.inl ⟨rfl, rfl, rfl⟩⟩, ⟨fun j h1 h2 => by cases h2⟩, ⟨fun _ _ _ _ _ e => by cases e⟩, inferInstance⟩ (by unfold fuel0 at hn; dsimp only; omega) ?_
 rintro ⟨i, op⟩ g H2 ⟨hi, cells, ho, hc, hf, ⟨hx⟩⟩
 dsimp only at hi ho hc hf
 haveI : ExtI H H2 := ⟨hx⟩
 haveI := ho.sl.one
 simp only [↓nrmL, nrmZ, qe, ↓reduceIte, qz, qa, qn]
 cases hcc : decide ((i : Int) < ((ls.length : Nat) : Int))
 ·have hil : i = ls.length := by have := of_decide_eq_false hcc; omega
  subst hil
  repeat first | refine mI ?_ | refine mv ?_ | refine bn rfl rfl rfl (by simp only [hcc]; rfl) ?_ | refine ln (by simp only [↓nrmL, nrmK, qe, ↓reduceIte]; rfl) ?_ | refine nl hKF ?_ | refine sq ?_ | refine rg fun KF hKF => ?_ | refine cf rfl ?_ | refine rt ?_ | refine xi ?_ | dsimp only
  refine rz trivial ?_
  exact ⟨⟨cells, ho, hc, fun r _ _ _ _ e => hf.ge _ _ _ _ _ e⟩, ho.sl.one, hf, hx⟩
 have hil : i < ls.length := by have := of_decide_eq_true hcc; omega
 have hwi := wa1 (a := i) (by omega)
 obtain ⟨q, hq, hI⟩ := hrw.it i hil
 haveI := hI
 haveI := hI.one
 haveI := hs.it i hil
 repeat first | refine mI ?_ | refine mv ?_ | refine bn rfl rfl rfl (by simp only [hcc]; rfl) ?_ | refine ln (by simp only [↓nrmL, nrmK, qe, ↓reduceIte]; rfl) ?_ | (refine Fo.idx (by simp only [↓nrmL, nrmK, qe, ↓reduceIte]; rfl) rfl ?_ (by simp only [↓nrmL, nrmZ, qe, ↓reduceIte, qz, qa, qn, hcc]; rfl) ?_; (focus omega)) | refine nl hKF ?_ | refine sq ?_ | refine rg fun KF hKF => ?_ | refine ct rfl ?_ | refine sk ?_ | refine Wp.block ?_
 refine Fo.now rfl (exec_ldP (p := p) (j := i) rfl hq) rfl ?_
 skip
 refine WpO.do (WpX.conD hn rfl rfl (by simp only [↓nrmL, nrmZ, qe, ↓reduceIte, qz, qa, qn, List.map] <;> rfl) (K_CopyInts (p := q) (l := ls[i])) fun v H3 h5 => ?_)
 obtain ⟨h1, h2, h3⟩ := h5
 haveI : ExtI H2 H3 := ⟨h3⟩
 haveI := h1.sl.one
 have ho3 : OwnS H3 op 1 i cells 53 := inferInstance
 have hc3 : Copied H.n H3 cells ls i := hc.keep h3.n fun s cs e hs _ _ _ => h3.get s hs
 skip
 refine Fo.bslice (cs' := [v]) (aFill1 (v := v) rfl rfl rfl) rfl ?_
 skip
 refine WpO.do (WpX.growX (p := op) (q := .slice H3.n 0 1 (some 1) 1) (k := 1) (new := [v]) rfl rfl (by infer_instance) (row_one1 (inferInstance : HasRow _ H3.n [v] true (2 * 53))) (by decide) (by decide) (by decide) (by omega) (by simp only [List.all_cons, (inferInstance : OneV v).one, List.all_nil, Bool.and_self]) fun op' H9 ho2 hf2 hx2 => ?_)
 haveI := ho2.sl.one
 haveI := hx2
 repeat first | refine mI ?_ | refine mv ?_ | refine b0 ?_ | refine nl hKF ?_ | refine rg fun KF hKF => ?_ | dsimp only
 have hn9 := hx2.n
 simp only [AHeap.push] at hn9
 have hkeep : ∀ s cs e, s < H3.n → H.n ≤ s → H3.get s = .row cs true e → e / 2 = 3 → H9.get s = H3.get s := fun s cs e hs _ hg he => by
  have hne := ho3.tn hg (fun h7 => by rw [he] at h7; exact absurd h7 (by decide))
  rw [hx2.get s (by simp only [AHeap.push]; omega) hne, push_get_lt hs]
 have hcl : cells.length = i := by have := ho.sl.len; omega
 refine ⟨(i + 1, op'), by dsimp only; omega, ⟨by simp only [↓nrmL, nrmZ, qe, ↓reduceIte, qz, qa, qn]; rw [hwi], rfl, trivial⟩, by dsimp only; omega, cells ++ [v], ho2, ?_, ⟨fun r _ _ _ _ e => by have := hf2.ge _ _ _ _ _ e; simp only [AHeap.push] at this; have := h3.n; have := hx.n; omega⟩, ⟨by have := h3.n; have := hx.n; omega, fun r hr => ?_⟩⟩
 ·have hc9 := hc3.keep (by omega) hkeep
  have h9 : Copied H.n H9 [v] [ls[i]] 1 := by
   refine Copied.keep (H := H3) ⟨fun j a b => ?_⟩ (by omega) hkeep
   obtain rfl : j = 0 := by omega
   exact ⟨v, rfl, h1, fun r _ _ _ _ e => by have := h2.ge _ _ _ _ _ e; have := hx.n; omega⟩
  refine ⟨fun j a b => ?_⟩
  by_cases hj : j < i
  ·obtain ⟨q', b1, b2, b3⟩ := hc9.it j a hj
   exact ⟨q', by rw [List.getElem?_append_left (by omega)]; exact b1, b2, b3⟩
  ·obtain rfl : j = i := by dsimp only at b; omega
   obtain ⟨q', b1, b2, b3⟩ := h9.it 0 (by simp) (by decide)
   exact ⟨q', by rw [List.getElem?_append_right (by omega), hcl, Nat.sub_self]; exact b1, b2, b3⟩
 ·have hlt : r < H3.n := by have := h3.n; have := hx.n; omega
  rw [hx2.get r (by simp only [AHeap.push]; omega) ⟨fun r' _ _ _ _ e => by have := hf.ge _ _ _ _ _ e; omega⟩, push_get_lt hlt, h3.get r (by have := hx.n; omega), hx.get r hr]
theorem K_CopyStaveG {H : AHeap} {p : AVal} {ls : List (List Int)} [hp : LinesI H p ls] [hs : SlimL ls] : Con ext prog 3 25 [.agg [p]] H fun v H' => ∃ q, v = .agg [q] ∧ StG H.n H' q ls ∧ OneV q ∧ FreshS H q ∧ Ext H H' := by
 refine con_of (show prog 25 = some c25 from rfl) rfl rfl fun n hn => ?_
 obtain ⟨ps, hps, hrp⟩ := hp.it
 haveI := hps.one
 repeat first | refine fd ?_ | refine Fo.ld rfl rfl ?_ | refine bA ?_ | refine nw ?_ | refine nl hKF ?_ | refine sq ?_ | refine rg fun KF hKF => ?_
 refine WpO.do (WpX.conD hn rfl rfl (by simp only [↓nrmL, nrmZ, qe, ↓reduceIte, qz, qa, qn, List.map] <;> rfl) (K_CopyListsG (p := p) (ls := ls)) fun v H3 h5 => ?_)
 obtain ⟨h1, h2, h3, h4⟩ := h5
 haveI : ExtI _ H3 := ⟨h4⟩
 haveI := h2
 refine ob (cs' := ?_) ?hc ?_; case hc => (simp only [↓nrmL, nrmZ, qe, ↓reduceIte, qz, qa, qn]; rfl)
 refine so rfl (rfl : _ = AVal.agg _) rfl rfl rfl (by simp only [↓nrmL, nrmZ, qe, ↓reduceIte, qz, qa, qn]; rfl) ?_
 refine nl hKF ?_
 refine rt ?_
 dsimp only
 refine rz trivial ?_
 refine ⟨v, rfl, StG.weak (StG.keep (H := H3) h1 (Nat.le_refl _) fun s cs e a b c d => ?_) ?_, h2, h3.weak, Ext0.ext⟩
 ·rw [set_get_ne (by simp only [AHeap.push] at b ⊢; omega)]
 ·simp only [AHeap.push]; omega
theorem K_CopyStaves {m : Nat} {q : AVal} {H : AHeap} {cells : List AVal} {sts : List (List (List Int))} [hq : StavesI H q m cells sts] (hs : ∀ (i : Nat) (h : i < sts.length), SlimL sts[i]) (hm : m ≤ 1000) : Con ext prog 4 7 [q] H fun v H' => (∃ cs, StavesI H' v m cs sts) ∧ OneV v ∧ Ext H H' := by
 refine con_of (show prog 7 = some c7 from rfl) rfl rfl fun n hn => ?_
 have hsl := hq.sl
 haveI := hsl
 haveI := hsl.one
 have hml := hq.len
 have hcl : cells.length = m := by have := hsl.len; omega
 repeat first | refine mI ?_ | refine mN ?_ | refine nl hKF ?_ | refine sq ?_ | refine rg fun KF hKF => ?_ | refine Wp.block ?_ | dsimp only
 refine Wp.loopS (σ := Nat × AVal) [3, 4, 5, 6, 7, 8, 9, 10, 11, 12, 13, 14, 15, 16, 17, 18] (fun s => [(4, .int .i64 (s.1 : Int)), (3, s.2)]) (fun H3 s H2 => s.1 ≤ m ∧ ∃ cs, OwnS H2 s.2 1 s.1 cs 59 ∧ (∀ j (h : j < sts.length), j < s.1 → ∃ q', cs[j]? = some q' ∧ StG H3.n H2 q' sts[j]) ∧ FreshS H3 s.2 ∧ Ext0 H3 H2) (fun s => m - s.1) (0, .nslice) rfl (fun _ => rfl) ⟨rfl, rfl, trivial⟩ ⟨Nat.zero_le _, [], ⟨Or.inl ⟨rfl, rfl, rfl⟩⟩, fun j _ h2 => (by cases h2), ⟨fun _ _ _ _ _ e => by cases e⟩, inferInstance⟩ (by unfold fuel0 at hn; dsimp only; omega) ?_
 rintro ⟨i, op⟩ g H2 ⟨hi, cs, ho, hc, hf, ⟨hx⟩⟩
 dsimp only at hi ho hc hf
 haveI : ExtI H H2 := ⟨hx⟩
 haveI := ho.sl.one
 simp only [↓nrmL, nrmZ, qe, ↓reduceIte, qz, qa, qn]
 cases hcc : decide ((i : Int) < (m : Int))
 ·have hil : i = m := by have := of_decide_eq_false hcc; omega
  subst hil
  repeat first | refine mI ?_ | refine mv ?_ | refine bn rfl rfl rfl (by simp only [hcc]; rfl) ?_ | refine ln (by simp only [↓nrmL, nrmK, qe, ↓reduceIte]; rfl) ?_ | refine nl hKF ?_ | refine sq ?_ | refine rg fun KF hKF => ?_ | refine cf rfl ?_ | refine rt ?_ | refine xi ?_ | dsimp only
  refine rz trivial ?_
  exact ⟨⟨cs, hml, ho.sl, fun j hj => by
   obtain ⟨q', a1, a2⟩ := hc j hj (by omega)
   exact ⟨q', a1, a2.lines⟩⟩, ho.sl.one, hx⟩
 have hil : i < m := by have := of_decide_eq_true hcc; omega
 have his : i < sts.length := by omega
 have hwi := wa1 (a := i) (by omega)
 obtain ⟨qi, hqi, hI⟩ := hq.it i his
 obtain ⟨psi, hpsi, _⟩ := hI.it
 haveI := hI
 haveI := hpsi.one
 haveI := hs i his
 repeat first | refine mI ?_ | refine mv ?_ | refine bn rfl rfl rfl (by simp only [hcc]; rfl) ?_ | refine ln (by simp only [↓nrmL, nrmK, qe, ↓reduceIte]; rfl) ?_ | (refine Fo.idx (by simp only [↓nrmL, nrmK, qe, ↓reduceIte]; rfl) rfl ?_ (by simp only [↓nrmL, nrmZ, qe, ↓reduceIte, qz, qa, qn, hcc]; rfl) ?_; (focus omega)) | refine nl hKF ?_ | refine sq ?_ | refine rg fun KF hKF => ?_ | refine ct rfl ?_ | refine sk ?_ | refine Wp.block ?_
 refine WpO.do (WpX.ldNP (p := q) (j := i) (m := 1) (l := [qi]) rfl (by decide) (by omega) (take_one hqi) ?_)
 skip
 refine WpO.do (WpX.conD hn rfl rfl (by simp only [↓nrmL, nrmZ, qe, ↓reduceIte, qz, qa, qn, List.map] <;> rfl) (K_CopyStaveG (p := qi) (ls := sts[i])) fun v H3 h5 => ?_)
 obtain ⟨v1, rfl, h1, h1o, h2, h3⟩ := h5
 haveI : ExtI H2 H3 := ⟨h3⟩
 haveI := h1o
 have ho3 : OwnS H3 op 1 i cs 59 := by haveI := ho; infer_instance
 refine Fo.bslice rfl (by simp only [↓nrmL, nrmZ, qe, ↓reduceIte, qz, qa, qn]; rfl) ?_
 haveI := ho3
 refine WpO.do (WpX.growX (p := op) (q := .slice H3.n 0 1 (some 1) 1) (k := 1) (new := [v1]) rfl rfl (by infer_instance) (row_one1 (inferInstance : HasRow _ H3.n [v1] true (2 * 59))) (by decide) (by decide) (by decide) (by omega) (by simp only [List.all_cons, (inferInstance : OneV v1).one, List.all_nil, Bool.and_self]) fun op' H9 ho2 hf2 hx2 => ?_)
 haveI := ho2.sl.one
 haveI := hx2
 repeat first | refine mI ?_ | refine mv ?_ | refine b0 ?_ | refine nl hKF ?_ | refine rg fun KF hKF => ?_ | dsimp only
 have hn9 := hx2.n
 simp only [AHeap.push] at hn9
 have hn3 := h3.n
 have hn2 := hx.n
 have hkeep : ∀ s cs e, s < H3.n → H3.get s = .row cs true e → (e / 2 = 3 ∨ e / 2 = 53) → H9.get s = H3.get s := fun s cs e hs hg he => by
  have hne := ho3.tn hg (fun h7 => by rcases he with he | he <;> rw [he] at h7 <;> exact absurd h7 (by decide))
  rw [hx2.get s (by simp only [AHeap.push]; omega) hne, push_get_lt hs]
 have hcl2 : cs.length = i := by have := ho.sl.len; omega
 have keep9 : ∀ {q' : AVal} {l : List (List Int)} {B : Nat}, StG B H3 q' l → StG B H9 q' l := fun hG => hG.keep (by omega) fun s cs e a _ c d => hkeep s cs e a c d
 refine ⟨(i + 1, op'), by dsimp only; omega, ⟨by simp only [↓nrmL, nrmZ, qe, ↓reduceIte, qz, qa, qn]; rw [hwi], rfl, trivial⟩, by dsimp only; omega, cs ++ [v1], ho2, fun j hj hj2 => ?_, ⟨fun r _ _ _ _ e => by have := hf2.ge _ _ _ _ _ e; simp only [AHeap.push] at this; omega⟩, ⟨by omega, fun r hr => ?_⟩⟩
 ·dsimp only at hj2
  by_cases hji : j < i
  ·obtain ⟨q', b1, b2⟩ := hc j hj hji
   exact ⟨q', by rw [List.getElem?_append_left (by omega)]; exact b1, keep9 (b2.ext h3)⟩
  ·obtain rfl : j = i := by omega
   exact ⟨v1, by rw [List.getElem?_append_right (by omega), hcl2, Nat.sub_self]; rfl, (keep9 h1).weak hn2⟩
 ·rw [hx2.get r (by simp only [AHeap.push]; omega) ⟨fun r' _ _ _ _ e => by have := hf.ge _ _ _ _ _ e; omega⟩, push_get_lt (by omega), h3.get r (by omega), hx.get r hr]
end Go.Am

namespace Go.Am
open Go
open Nat renaming reduceEqDiff → qe, reduceAdd → qz
open Int renaming reduceBEq → qa, reduceBNe → qn
attribute [local irreducible] Wp WpO WpX WpE
theorem K_refRuns {w h most : Int} {m : Nat} {p q : AVal} {H : AHeap} {l : List UInt8} {cells : List AVal} {sts : List (List (List Int))} [hp : BytesI H p l] [hq : StavesI H q m cells sts] (hm : m ≤ 1000) : Con ext prog 7 9 [.agg [.int .i64 w, .int .i64 h, p], q, .int .i64 most] H fun v H' => RunsRes H H' v (runsS ⟨w, h, l⟩ sts most) := by
 refine con_of (show prog 9 = some c9 from rfl) rfl rfl fun n hn => ?_
 have hsl := hq.sl
 haveI := hsl
 haveI := hsl.one
 haveI := hp.one
 have hml := hq.len
 have hcl : cells.length = m := by have := hsl.len; omega
 obtain ⟨R, hR⟩ : ∃ R, runsS ⟨w, h, l⟩ sts most = R := ⟨_, rfl⟩
 rw [hR]
 cases h0 : (Img.err ⟨w, h, l⟩ == 0)
 ·have e1 : runsS ⟨w, h, l⟩ sts most = ([], Img.err ⟨w, h, l⟩) := by simp only [runsS, h0, cond_false]
  rw [e1] at hR
  subst hR
  repeat first | refine mI ?_ | refine mN ?_ | refine Fo.ldN rfl rfl (by simp only [↓nrmL, nrmZ, qe, ↓reduceIte, qz, qa, qn, bne, h0]; rfl) ?_ | refine bn rfl rfl rfl (by simp only [bne, h0]; rfl) ?_ | (refine Fo.pcall (v' := ?_) hn rfl (by simp only [↓nrmL, nrmZ, qe, ↓reduceIte, qz, qa, qn, bne, h0, List.map]; rfl) rfl ?hv fun _ _ => ?_; case hv => rfl) | refine bA ?_ | refine nl hKF ?_ | refine sq ?_ | refine rg fun KF hKF => ?_ | refine ct rfl ?_ | refine rt ?_ | dsimp only
  refine rz trivial ?_
  exact ⟨_, rfl, newRuns0⟩
 obtain ⟨a, b, rfl, rfl, ok⟩ := ok_of h0
 have ha := ok.wa
 have hb := ok.hb
 haveI : Side a := ⟨ha⟩
 haveI : Side b := ⟨hb⟩
 have he := ok.err
 obtain ⟨C, hC⟩ : ∃ C, allR (colO ⟨a, b, l⟩) b a = C := ⟨_, rfl⟩
 have hClen : C.length ≤ 409600 := by
  have h7 := allR_len (colO ⟨a, b, l⟩) b a
  have h8 := Nat.mul_le_mul ha hb
  rw [← hC]; omega
 repeat first | refine mI ?_ | refine mN ?_ | refine Fo.ldN rfl rfl (by simp only [↓nrmL, nrmZ, qe, ↓reduceIte, qz, qa, qn, he]; rfl) ?_ | refine bn rfl rfl rfl (by simp only [↓nrmL, nrmZ, qe, ↓reduceIte, qz, qa, qn, he]; rfl) ?_ | (refine Fo.pcall (v' := ?_) hn rfl (by simp only [↓nrmL, nrmZ, qe, ↓reduceIte, qz, qa, qn, he, List.map]; rfl) rfl ?hv fun _ _ => ?_; case hv => (simp only [he]; rfl)) | refine bA ?_ | refine nl hKF ?_ | refine sq ?_ | refine rg fun KF hKF => ?_ | refine cf rfl ?_ | refine sk ?_ | refine Wp.block ?_ | dsimp only
 refine Wp.loopS [6, 7, 9, 21, 22, 23, 24, 25, 26, 27, 28, 29, 30, 31, 32, 33] (fun i : Nat => [(9, .int .i64 i)]) (fun H4 i H5 => i ≤ m ∧ (∀ j (h : j < sts.length), j < i → fitsB a b sts[j] = true) ∧ Ext0 H4 H5) (fun i => m - i) 0 rfl (fun _ => rfl) ⟨rfl, trivial⟩ ⟨Nat.zero_le _, fun j _ hj => by omega, inferInstance⟩ (by unfold fuel0 at hn; omega) ?_
 rintro i g H5 ⟨hi, hok, ⟨hx5⟩⟩
 haveI : ExtI _ H5 := ⟨hx5⟩
 simp only [↓nrmL, nrmZ, qe, ↓reduceIte, qz, qa, qn]
 cases hc : decide ((i : Int) < (m : Int))
 rotate_left
 ·have him : i < m := by have := of_decide_eq_true hc; omega
  have his : i < sts.length := by omega
  have hwi := wa1 (a := i) (by omega)
  obtain ⟨qi, hqi, hLq⟩ := hq.it i his
  obtain ⟨qs, hqs, hqr⟩ := hLq.it
  haveI := hqs
  haveI := hqs.one
  haveI : LinesI H5 qi sts[i] := hLq.ext Ext0.ext
  haveI : BytesI H5 p l := inferInstance
  repeat first | refine mI ?_ | refine mv ?_ | refine bn rfl rfl rfl (by simp only [hc]; rfl) ?_ | refine ln (by simp only [↓nrmL, nrmK, qe, ↓reduceIte]; rfl) ?_ | refine nl hKF ?_ | refine sq ?_ | refine rg fun KF hKF => ?_ | refine ct rfl ?_ | refine sk ?_ | refine Wp.block ?_ | dsimp only
  refine Fr.dregion0 rfl fun KF hKF => ?_
  repeat first | refine Er rfl (exec_ldN rfl rfl (by simp only [↓nrmL, nrmZ, qe, ↓reduceIte, qz, qa, qn]; rfl)) rfl ?_ | refine Fe.pure rfl rfl (by simp only [↓nrmL, nrmZ, qe, ↓reduceIte, qz, qa, qn]; rfl) ?_ | (refine Fe.pure rfl (exec_idxP (by (try simp only [↓nrmL, nrmZ, qe, ↓reduceIte, qz, qa, qn]); rfl) rfl ?_) (by simp only [↓nrmL, nrmZ, qe, ↓reduceIte, qz, qa, qn]; rfl) ?_; (focus omega))
  refine Fe.read rfl (exec_ldNP (p := q) (j := i) (m := 1) rfl (by decide) (by omega) (take_one hqi)) rfl trivial ?_
  cases hf : fitsB a b sts[i]
  ·have e1 : runsS ⟨a, b, l⟩ sts most = ([], 10) := by
    have : sts.all (fitsB a b) = false := by
     cases hh : sts.all (fitsB a b) with
     | false => rfl
     | true =>
      have := List.all_eq_true.1 hh _ (List.getElem_mem his)
      rw [hf] at this; cases this
    simp only [runsS, h0, cond_true, Int.toNat_natCast, this, cond_false]
   rw [e1] at hR
   subst hR
   simp only [↓nrmL, nrmZ, qe, ↓reduceIte, qz, qa, qn, hf]
   refine Fe.pcall (v' := ?_) rfl hn rfl (by simp only [↓nrmL, nrmZ, qe, ↓reduceIte, qz, qa, qn, hf, List.map]; rfl) rfl ?hv fun _ _ => ar ?_; case hv => (simp only [hf]; rfl)
   refine Fe.pure rfl rfl (by simp only [↓nrmL, nrmZ, qe, ↓reduceIte, qz, qa, qn, hf]; rfl) ?_
   refine WpE.nil (hKF _ _ ?_)
   refine ct rfl ?_
   refine sq ?_
   refine rg fun KF hKF => ?_
   refine mN ?_
   refine mI ?_
   refine nl hKF ?_
   refine rt ?_
   dsimp only
   refine rz trivial ?_
   exact ⟨_, rfl, newRuns0⟩
  ·skip
   simp only [↓nrmL, nrmZ, qe, ↓reduceIte, qz, qa, qn, hf]
   refine Fe.pcall (v' := ?_) rfl hn rfl (by simp only [↓nrmL, nrmZ, qe, ↓reduceIte, qz, qa, qn, hf, List.map]; rfl) rfl ?hv fun _ _ => ar ?_; case hv => (simp only [hf]; rfl)
   refine Fe.pure rfl rfl (by simp only [↓nrmL, nrmZ, qe, ↓reduceIte, qz, qa, qn, hf]; rfl) ?_
   refine WpE.nil (hKF _ _ ?_)
   simp only [hwi]
   refine cf rfl ?_
   refine sk ?_
   refine rg fun KF hKF => ?_
   refine mI ?_
   refine bn rfl rfl rfl (by simp only [hwi]; rfl) ?_
   refine mI ?_
   refine nl hKF ?_
   dsimp only
   refine ⟨i + 1, by omega, ⟨rfl, trivial⟩, by omega, fun j h1 h2 => ?_, inferInstance⟩
   by_cases e : j = i
   ·subst e; exact hf
   ·exact hok j h1 (by omega)
 have him : i = m := by have := of_decide_eq_false hc; omega
 have hfit : ∀ j (h : j < sts.length), fitsB a b sts[j] = true := fun j hj => hok j hj (by omega)
 have hall : sts.all (fitsB a b) = true := by
  rw [List.all_eq_true]
  intro s hs
  obtain ⟨j, hj, rfl⟩ := List.getElem_of_mem hs
  exact hfit j hj
 have e1 : runsS ⟨a, b, l⟩ sts most = (C.filter (selR (drawL a b sts) a most), 0) := by
  simp only [runsS, h0, cond_true, Int.toNat_natCast, hall, hC]
 rw [e1] at hR
 subst hR
 repeat first | refine mI ?_ | refine mN ?_ | refine mv ?_ | refine Fo.ldN rfl rfl (by simp only [↓nrmL, nrmZ, qe, ↓reduceIte, qz, qa, qn, hc]; rfl) ?_ | refine bn rfl rfl rfl (by simp only [hc]; rfl) ?_ | refine ln (by simp only [↓nrmL, nrmK, qe, ↓reduceIte]; rfl) ?_ | refine nl hKF ?_ | refine sq ?_ | refine rg fun KF hKF => ?_ | refine cf rfl ?_ | refine xi ?_
 refine WpO.do (WpX.conD hn rfl rfl (by simp only [↓nrmL, nrmZ, qe, ↓reduceIte, qz, qa, qn, List.map] <;> rfl) (K_refColumns (p := p) (l := l) ok) fun v H6 h5 => ?_)
 obtain ⟨hq2, hfq2, hx6⟩ := h5
 rw [hC] at hq2
 haveI : ExtI _ H6 := ⟨hx6⟩
 have hsl2 := hq2.sl
 haveI := hsl2
 haveI := hsl2.one
 have hx06 : Ext H H6 := Ext0.ext
 have hmw : 5 * m ≤ 5000 := by omega
 have e5m : IntKind.i64.wrap (5 * (m : Int)) = ((5 * m : Nat) : Int) := by rw [w64 (by omega)]; omega
 repeat first | refine mI ?_ | refine mv ?_ | refine nl hKF ?_ | refine sq ?_ | refine rg fun KF hKF => ?_ | refine Wp.block ?_ | dsimp only
 refine Wp.loopS (σ := Nat × AVal) [10, 12, 13, 14, 15, 36, 37, 38, 39, 40, 41, 42, 43, 44, 45, 46, 47, 48, 49, 50, 51, 52, 53, 54, 55, 56, 57, 58, 59, 60, 61, 62, 63, 64, 65, 66, 67, 68, 69, 70, 71, 72, 73, 74, 75, 76, 77, 78, 79, 80, 81, 82, 83, 84, 85, 86, 87, 88, 89, 90, 91, 92, 93, 94, 95, 96, 97, 98, 99, 100, 101, 102, 103, 104, 105, 106, 107, 108] (fun s => [(12, .int .i64 (s.1 : Int)), (10, s.2)]) (fun K s H7 => s.1 ≤ C.length ∧ OwnS H7 s.2 3 ((C.take s.1).filter (selR (drawL a b sts) a most)).length (cellsR ((C.take s.1).filter (selR (drawL a b sts) a most))) 43 ∧ FreshS K s.2 ∧ Ext0 K H7) (fun s => C.length - s.1) (0, .nslice) rfl (fun _ => rfl) ⟨rfl, rfl, trivial⟩ ⟨Nat.zero_le _, ⟨Or.inl ⟨rfl, rfl, rfl⟩⟩, ⟨fun _ _ _ _ _ e => by cases e⟩, inferInstance⟩ (by unfold fuel0 at hn; dsimp only; omega) ?_
 rintro ⟨j, op⟩ g2 H7 ⟨hj, hop, hopf, ⟨hx7⟩⟩
 dsimp only at hj hop hopf
 haveI : ExtI H6 H7 := ⟨hx7⟩
 haveI := hop.sl
 haveI := hop.sl.one
 haveI hsl7 : SliceAt H7 q 1 m cells := inferInstance
 haveI hsl27 : SliceAt H7 v 3 C.length (cellsR C) := inferInstance
 simp only [↓nrmL, nrmZ, qe, ↓reduceIte, qz, qa, qn]
 cases hcj : decide ((j : Int) < (C.length : Int))
 ·have hjl : j = C.length := by have := of_decide_eq_false hcj; omega
  subst hjl
  rw [List.take_length] at hop
  repeat first | refine mI ?_ | refine mv ?_ | refine bn rfl rfl rfl (by simp only [hcj]; rfl) ?_ | refine ln (by simp only [↓nrmL, nrmK, qe, ↓reduceIte]; rfl) ?_ | refine nl hKF ?_ | refine sq ?_ | refine rg fun KF hKF => ?_ | refine cf rfl ?_ | refine rt ?_ | refine xi ?_ | dsimp only
  refine rz trivial ?_
  exact ⟨op, rfl, hop, hopf.weak, Ext0.ext⟩
 have hjl : j < C.length := by have := of_decide_eq_true hcj; omega
 have hwj := wa1 (a := j) (by omega)
 have hmem : C[j] ∈ allR (colO ⟨a, b, l⟩) b a := by rw [hC]; exact List.getElem_mem hjl
 obtain ⟨x, s, hxa, hsb, hst, hr⟩ := mem_allR.1 hmem
 obtain ⟨k1, k2, k3, k4⟩ := endB_spec (p := colO ⟨a, b, l⟩ x) hsb (start_p hst).1
 obtain ⟨t, htd⟩ : ∃ t, endB (colO ⟨a, b, l⟩ x) b s = t := ⟨_, rfl⟩
 rw [htd] at k1 k2
 have hr2 : C[j] = ((x : Int), (s : Int), (t : Int)) := by rw [hr, runV, htd]
 obtain ⟨r0, r1, r2⟩ := run_cells hjl hr2
 have hcg := cellsR_get (l := C) (i := j) hjl
 have hget : C.getD j run0 = C[j] := by simp [hjl]
 rw [hget, hr2] at hcg
 have hmt := met_touch (x := x) (s := s) (t := t) hfit hxa k2
 rw [hml] at hmt
 have hsel : selR (drawL a b sts) a most C[j] = (decide ((t : Int) - (s : Int) < most) && metB sts x s t (5 * m)) := by rw [hr2, hmt]; rfl
 have hsn := filter_snoc (f := selR (drawL a b sts) a most) hjl
 have hfl : ((C.take j).filter (selR (drawL a b sts) a most)).length ≤ j := Nat.le_trans (List.length_filter_le _ _) (by rw [List.length_take]; omega)
 repeat first | refine mI ?_ | refine mB ?_ | refine mv ?_ | refine bn rfl rfl rfl (by simp only [hcj]; rfl) ?_ | refine ln (by simp only [↓nrmL, nrmK, qe, ↓reduceIte]; rfl) ?_ | refine nl hKF ?_ | refine sq ?_ | refine rg fun KF hKF => ?_ | refine ct rfl ?_ | refine sk ?_ | refine Wp.block ?_ | dsimp only
 refine Wp.loopS (σ := Nat × Bool) [13, 14, 15, 42, 43, 44, 45, 46, 47, 48, 49, 50, 51, 52, 53, 54, 55, 56, 57, 58, 59, 60, 61, 62, 63, 64, 65, 66, 67, 68, 69, 70, 71, 72, 73, 74, 75, 76, 77, 78, 79, 80, 81, 82, 83, 84] (fun s => [(14, .int .i64 (s.1 : Int)), (13, .bool s.2)]) (fun K u H8 => u.1 ≤ 5 * m ∧ u.2 = metB sts x s t u.1 ∧ H8 = K) (fun u => 5 * m - u.1) (0, false) rfl (fun _ => rfl) ⟨rfl, rfl, trivial⟩ ⟨Nat.zero_le _, rfl, rfl⟩ (by unfold fuel0 at hn; dsimp only; omega) ?_
 rintro ⟨k, met⟩ g3 H8 ⟨hk, hmet, rfl⟩
 dsimp only at hk hmet
 simp only [↓nrmL, nrmZ, qe, ↓reduceIte, qz, qa, qn]
 cases hck : decide ((k : Int) < ((5 * m : Nat) : Int))
 rotate_left
 ·have hkl : k < 5 * m := by have := of_decide_eq_true hck; omega
  have hwk := wa1 (a := k) (by omega)
  have hki : k / 5 < sts.length := by omega
  obtain ⟨qk, hqk, hLk⟩ := hq.it (k / 5) hki
  obtain ⟨qs, hqs, hqr⟩ := hLk.it
  obtain ⟨f1, f2⟩ := fitsB_iff (hfit _ hki)
  have hkm : k % 5 < sts[k / 5].length := by omega
  obtain ⟨ql, hql, hIl⟩ := hqr.it (k % 5) hkm
  haveI hqs8 : SliceAt H8 qk 1 sts[k / 5].length qs := by haveI := hqs; infer_instance
  haveI := hqs.one
  haveI hIl8 : IntsI H8 ql sts[k / 5][k % 5] := by haveI := hIl; infer_instance
  haveI := hIl.one
  obtain ⟨hll, _⟩ := pathB_len (f2 _ hkm)
  have hxl : x < sts[k / 5][k % 5].length := by omega
  have elA : lineAt sts k = sts[k / 5][k % 5] := by
   unfold lineAt
   rw [List.getD_eq_getElem?_getD (l := sts), List.getElem?_eq_getElem hki, Option.getD_some, getDL_at hkm]
  obtain ⟨V, hV⟩ : ∃ V, sts[k / 5][k % 5][x] = V := ⟨_, rfl⟩
  have hnx : metB sts x s t (k + 1) = (metB sts x s t k || (decide ((s : Int) ≤ V) && decide (V ≤ (t : Int)))) := by
   rw [metB_succ]; unfold meets
   rw [elA, getD_at hxl, hV]
  have d5 : IntKind.i64.wrap ((k : Int).tdiv 5) = ((k / 5 : Nat) : Int) := by
   have e : (k : Int).tdiv 5 = ((k / 5 : Nat) : Int) := rfl
   rw [e]; exact w64 (by omega)
  have m5 : (k : Int).tmod 5 = ((k % 5 : Nat) : Int) := rfl
  repeat first | refine mI ?_ | refine mv ?_ | refine fd ?_ | refine bn rfl rfl rfl (by simp only [e5m, hck, d5, m5]; rfl) ?_ | refine ln (by simp only [↓nrmL, nrmK, qe, ↓reduceIte]; rfl) ?_ | (refine Fo.idx (by simp only [↓nrmL, nrmK, qe, ↓reduceIte]; rfl) rfl ?_ (by simp only [↓nrmL, nrmZ, qe, ↓reduceIte, qz, qa, qn, e5m, hck, d5, m5]; rfl) ?_; (focus omega)) | refine nl hKF ?_ | refine sq ?_ | refine rg fun KF hKF => ?_ | refine Fr.quiet rfl rfl fun KF hKF => ?_ | refine ct rfl ?_ | refine sk ?_ | refine Wp.block ?_
  refine Fo.now rfl (exec_ldP (p := q) (j := k / 5) rfl hqk) rfl ?_
  refine mI ?_
  refine bn rfl rfl rfl (by simp only [d5, m5]; rfl) ?_
  refine Fo.idx (by simp only [↓nrmL, nrmK, qe, ↓reduceIte]; rfl) rfl ?_ (by simp only [↓nrmL, nrmZ, qe, ↓reduceIte, qz, qa, qn, d5, m5]; rfl) ?_; (focus omega)
  refine Fo.now rfl (exec_ldP (p := qk) (j := k % 5) rfl hql) rfl ?_
  refine mv ?_
  refine mI ?_
  refine Fo.idx (by simp only [↓nrmL, nrmK, qe, ↓reduceIte]; rfl) rfl ?_ (by simp only [↓nrmL, nrmZ, qe, ↓reduceIte, qz, qa, qn]; rfl) ?_; (focus omega)
  refine fd ?_
  refine Fo.now rfl (exec_ldP (p := v) (j := j * 3) rfl r0) rfl ?_
  refine Fo.idx (by simp only [↓nrmL, nrmK, qe, ↓reduceIte]; rfl) rfl ?_ (by simp only [↓nrmL, nrmZ, qe, ↓reduceIte, qz, qa, qn, hV]; rfl) ?_; (focus omega)
  refine Fo.ldI rfl ?_ (by simp only [hV]; rfl) ?_; (focus omega)
  refine mI ?_
  refine nl hKF ?_
  refine rg fun KF hKF => ?_
  refine mB ?_
  refine mB ?_
  cases met
  rotate_left
  ·skip
   repeat first | refine ox ?_ | refine Fo.noU rfl ?_ | refine mI ?_ | refine mB ?_ | refine bn rfl rfl rfl (by simp only [hwk]; rfl) ?_ | refine tB ?_ | refine nl hKF ?_ | refine rg fun KF hKF => ?_ | dsimp only
   refine ⟨(k + 1, true), by dsimp only; omega, ⟨rfl, rfl, trivial⟩, by dsimp only; omega, by dsimp only; rw [hnx, ← hmet]; rfl, rfl⟩
  cases g1 : decide (V ≥ (s : Int))
  ·have g1' : decide ((s : Int) ≤ V) = false := g1
   repeat first | refine oy ?_ | refine mI ?_ | refine mv ?_ | refine fd ?_ | (refine Fo.idx (by simp only [↓nrmL, nrmK, qe, ↓reduceIte]; rfl) rfl ?_ (by simp only [↓nrmL, nrmZ, qe, ↓reduceIte, qz, qa, qn]; rfl) ?_; (focus omega))
   refine Fo.now rfl (exec_ldP (p := v) (j := j * 3 + 1) rfl r1) rfl ?_
   repeat first | refine oy ?_ | refine ox ?_ | refine mI ?_ | refine mB ?_ | refine bn rfl rfl rfl (by simp only [g1, hwk]; rfl) ?_ | refine fB ?_ | refine nl hKF ?_ | refine rg fun KF hKF => ?_ | dsimp only
   refine ⟨(k + 1, false), by dsimp only; omega, ⟨rfl, rfl, trivial⟩, by dsimp only; omega, by dsimp only; rw [hnx, ← hmet, g1']; rfl, rfl⟩
  have g1' : decide ((s : Int) ≤ V) = true := g1
  obtain ⟨G, hG⟩ : ∃ G, decide (V ≤ (t : Int)) = G := ⟨_, rfl⟩
  repeat first | refine oy ?_ | refine mI ?_ | refine mv ?_ | refine fd ?_ | (refine Fo.idx (by simp only [↓nrmL, nrmK, qe, ↓reduceIte]; rfl) rfl ?_ (by simp only [↓nrmL, nrmZ, qe, ↓reduceIte, qz, qa, qn]; rfl) ?_; (focus omega))
  refine Fo.now rfl (exec_ldP (p := v) (j := j * 3 + 1) rfl r1) rfl ?_
  repeat first | refine oy ?_ | refine mI ?_ | refine mB ?_ | refine mv ?_ | refine fd ?_ | refine bn rfl rfl rfl (by simp only [g1]; rfl) ?_ | (refine Fo.idx (by simp only [↓nrmL, nrmK, qe, ↓reduceIte]; rfl) rfl ?_ (by simp only [↓nrmL, nrmZ, qe, ↓reduceIte, qz, qa, qn, g1]; rfl) ?_; (focus omega))
  refine Fo.now rfl (exec_ldP (p := v) (j := j * 3 + 2) rfl r2) rfl ?_
  repeat first | refine oy ?_ | refine mI ?_ | refine mB ?_ | refine bn rfl rfl rfl (by simp only [hG, hwk]; rfl) ?_ | refine tB ?_ | refine fB ?_ | refine nl hKF ?_ | refine rg fun KF hKF => ?_ | dsimp only
  refine ⟨(k + 1, G), by dsimp only; omega, ⟨rfl, rfl, trivial⟩, by dsimp only; omega, by dsimp only; rw [hnx, ← hmet, g1', hG]; rfl, rfl⟩
 have hke : k = 5 * m := by have := of_decide_eq_false hck; omega
 subst hke
 have w1 : IntKind.i64.wrap ((t : Int) - (s : Int)) = (t : Int) - (s : Int) := w64 (by omega)
 have w2 : IntKind.i64.wrap ((t : Int) - (s : Int) + 1) = (t : Int) - (s : Int) + 1 := w64 (by omega)
 have hdd : decide ((t : Int) - (s : Int) + 1 ≤ most) = decide ((t : Int) - (s : Int) < most) := decide_eq_decide.2 (by omega)
 rw [← hmet] at hsel
 cases met
 ·rw [Bool.and_false] at hsel
  rw [hsel] at hsn
  simp only [Bool.false_eq_true, if_false, List.append_nil] at hsn
  repeat first | refine ox ?_ | refine mI ?_ | refine mB ?_ | refine mv ?_ | refine bn rfl rfl rfl (by simp only [e5m, hck, hwj]; rfl) ?_ | refine fB ?_ | refine ln (by simp only [↓nrmL, nrmK, qe, ↓reduceIte]; rfl) ?_ | refine nl hKF ?_ | refine sq ?_ | refine rg fun KF hKF => ?_ | refine Fr.quiet rfl rfl fun KF hKF => ?_ | refine cf rfl ?_ | refine sk ?_ | refine xi ?_ | dsimp only
  refine ⟨(j + 1, op), by dsimp only; omega, ⟨rfl, rfl, trivial⟩, by dsimp only; omega, ?_, hopf, ⟨hx7⟩⟩
  dsimp only
  rw [hsn]; exact hop
 rw [Bool.and_true] at hsel
 cases hd : decide ((t : Int) - (s : Int) < most)
 ·rw [hd] at hsel
  rw [hsel] at hsn
  simp only [Bool.false_eq_true, if_false, List.append_nil] at hsn
  rw [hd] at hdd
  repeat first | refine oy ?_ | refine mI ?_ | refine mB ?_ | refine mv ?_ | refine fd ?_ | refine bn rfl rfl rfl (by simp only [e5m, hck]; rfl) ?_ | refine ln (by simp only [↓nrmL, nrmK, qe, ↓reduceIte]; rfl) ?_ | (refine Fo.idx (by simp only [↓nrmL, nrmK, qe, ↓reduceIte]; rfl) rfl ?_ (by simp only [↓nrmL, nrmZ, qe, ↓reduceIte, qz, qa, qn, e5m, hck]; rfl) ?_; (focus omega)) | refine nl hKF ?_ | refine sq ?_ | refine rg fun KF hKF => ?_ | refine Fr.quiet rfl rfl fun KF hKF => ?_ | refine cf rfl ?_ | refine xi ?_
  refine Fo.now rfl (exec_ldP (p := v) (j := j * 3 + 2) rfl r2) rfl ?_
  repeat first | refine oy ?_ | refine mI ?_ | refine mv ?_ | refine fd ?_ | (refine Fo.idx (by simp only [↓nrmL, nrmK, qe, ↓reduceIte]; rfl) rfl ?_ (by simp only [↓nrmL, nrmZ, qe, ↓reduceIte, qz, qa, qn]; rfl) ?_; (focus omega))
  refine Fo.now rfl (exec_ldP (p := v) (j := j * 3 + 1) rfl r1) rfl ?_
  repeat first | refine oy ?_ | refine mI ?_ | refine bn rfl rfl rfl (by simp only [w1, w2, hdd, hwj]; rfl) ?_ | refine tB ?_ | refine nl hKF ?_ | refine rg fun KF hKF => ?_ | refine cf rfl ?_ | refine sk ?_ | dsimp only
  refine ⟨(j + 1, op), by dsimp only; omega, ⟨rfl, rfl, trivial⟩, by dsimp only; omega, ?_, hopf, ⟨hx7⟩⟩
  dsimp only
  rw [hsn]; exact hop
 rw [hd] at hsel
 rw [hsel, if_pos rfl, hr2] at hsn
 rw [hd] at hdd
 have hop8 : OwnS (H8.push (.row [.int .i64 (x : Int), .int .i64 (s : Int), .int .i64 (t : Int)] true (2 * 43))) op 3 ((C.take j).filter (selR (drawL a b sts) a most)).length (cellsR ((C.take j).filter (selR (drawL a b sts) a most))) 43 := by haveI := hop; infer_instance
 repeat first | refine oy ?_ | refine mI ?_ | refine mB ?_ | refine mv ?_ | refine fd ?_ | refine bn rfl rfl rfl (by simp only [e5m, hck]; rfl) ?_ | refine ln (by simp only [↓nrmL, nrmK, qe, ↓reduceIte]; rfl) ?_ | (refine Fo.idx (by simp only [↓nrmL, nrmK, qe, ↓reduceIte]; rfl) rfl ?_ (by simp only [↓nrmL, nrmZ, qe, ↓reduceIte, qz, qa, qn, e5m, hck]; rfl) ?_; (focus omega)) | refine nl hKF ?_ | refine sq ?_ | refine rg fun KF hKF => ?_ | refine Fr.quiet rfl rfl fun KF hKF => ?_ | refine cf rfl ?_ | refine xi ?_
 refine Fo.now rfl (exec_ldP (p := v) (j := j * 3 + 2) rfl r2) rfl ?_
 repeat first | refine oy ?_ | refine mI ?_ | refine mv ?_ | refine fd ?_ | (refine Fo.idx (by simp only [↓nrmL, nrmK, qe, ↓reduceIte]; rfl) rfl ?_ (by simp only [↓nrmL, nrmZ, qe, ↓reduceIte, qz, qa, qn]; rfl) ?_; (focus omega))
 refine Fo.now rfl (exec_ldP (p := v) (j := j * 3 + 1) rfl r1) rfl ?_
 repeat first | refine oy ?_ | refine mI ?_ | refine mv ?_ | refine bn rfl rfl rfl (by simp only [w1, w2, hdd]; rfl) ?_ | refine tB ?_ | (refine Fo.idx (by simp only [↓nrmL, nrmK, qe, ↓reduceIte]; rfl) rfl ?_ (by simp only [↓nrmL, nrmZ, qe, ↓reduceIte, qz, qa, qn, w1, w2, hdd]; rfl) ?_; (focus omega)) | refine nl hKF ?_ | refine rg fun KF hKF => ?_ | refine ct rfl ?_
 refine WpO.do (WpX.ldNP (p := v) (j := j * 3) (m := 3) rfl (by decide) (by rw [cellsR_length]; omega) hcg ?_)
 refine Fo.bslice rfl (by simp only [↓nrmL, nrmZ, qe, ↓reduceIte, qz, qa, qn]; rfl) ?_
 dsimp only
 refine WpO.do (WpX.growX (p := op) (q := .slice H8.n 0 1 (some 1) 3) (k := 1) (new := [.int .i64 (x : Int), .int .i64 (s : Int), .int .i64 (t : Int)]) rfl rfl hop8 (row_one3 (inferInstance : HasRow _ H8.n [.int .i64 (x : Int), .int .i64 (s : Int), .int .i64 (t : Int)] true (2 * 43))) (by decide) (by decide) (by decide) (by omega) rfl fun op' H9 ho2 hf2 hx2 => ?_)
 haveI := ho2.sl.one
 have hn9 := hx2.n
 simp only [AHeap.push] at hn9
 have hKn := hx7.n
 repeat first | refine mI ?_ | refine mv ?_ | refine bn rfl rfl rfl (by simp only [hwj]; rfl) ?_ | refine nl hKF ?_ | refine rg fun KF hKF => ?_ | dsimp only
 refine ⟨(j + 1, op'), by dsimp only; omega, ⟨rfl, rfl, trivial⟩, by dsimp only; omega, ?_, ⟨fun r _ _ _ _ e => by have h1 := hf2.ge _ _ _ _ _ e; simp only [AHeap.push] at h1; omega⟩, ⟨by omega, fun r hr => ?_⟩⟩
 ·dsimp only
  rw [hsn, cellsR_snoc, List.length_append]
  exact ho2
 ·rw [hx2.get r (by simp only [AHeap.push]; omega) ⟨fun r' _ _ _ _ e => by have := hopf.ge _ _ _ _ _ e; omega⟩, push_get_lt (by omega), hx7.get r hr]
end Go.Am


namespace Go.Am
open Go
open Nat renaming reduceEqDiff → qe, reduceAdd → qz
open Int renaming reduceBEq → qa, reduceBNe → qn
attribute [local irreducible] Wp WpO WpX WpE
theorem K_refPair2 {p q : AVal} {H : AHeap} {w h w' h' : Int} {l m : List UInt8} [hp : BytesI H p l] [hq : BytesI H q m] : Con ext prog 4 34 [.agg [.int .i64 w, .int .i64 h, p], .agg [.int .i64 w', .int .i64 h', q], .int .i64 2] H fun v H' => InkRes H H' v (combSpec (fun a b => a &&& ~~~b) ⟨w, h, l⟩ ⟨w', h', m⟩) := by
 refine con_of (show prog 34 = some c34 from rfl) rfl rfl fun n hn => ?_
 haveI := hp.one
 haveI := hq.one
 unfold combSpec
 cases h0 : (Img.err ⟨w, h, l⟩ == 0)
 ·skip
  simp only [h0, bne]
  repeat first | refine mI ?_ | refine Fo.ldN rfl rfl (by simp only [↓nrmL, nrmZ, qe, ↓reduceIte, qz, qa, qn, h0, bne]; rfl) ?_ | refine bn rfl rfl rfl (by simp only [h0, bne]; rfl) ?_ | (refine Fo.pcall (v' := ?_) hn rfl (by simp only [↓nrmL, nrmZ, qe, ↓reduceIte, qz, qa, qn, h0, bne, List.map]; rfl) rfl ?hv fun _ _ => ?_; case hv => rfl) | refine bA ?_ | refine nw ?_ | (refine ob (cs' := ?_) ?hc ?_; case hc => rfl) | refine so rfl (rfl : _ = AVal.agg _) rfl rfl rfl (by simp only [↓nrmL, nrmZ, qe, ↓reduceIte, qz, qa, qn, h0, bne]; rfl) ?_ | refine nl hKF ?_ | refine sq ?_ | refine rg fun KF hKF => ?_ | refine ct rfl ?_ | refine rt ?_ | dsimp only
  refine rz trivial ?_
  exact ⟨_, rfl, newZero⟩
 cases h1 : (Img.err ⟨w', h', m⟩ == 0)
 ·skip
  simp only [h0, h1, bne]
  repeat first | refine mI ?_ | refine Fo.ldN rfl rfl (by simp only [↓nrmL, nrmZ, qe, ↓reduceIte, qz, qa, qn, h0, h1, bne]; rfl) ?_ | refine bn rfl rfl rfl (by simp only [h0, h1, bne]; rfl) ?_ | (refine Fo.pcall (v' := ?_) hn rfl (by simp only [↓nrmL, nrmZ, qe, ↓reduceIte, qz, qa, qn, h0, h1, bne, List.map]; rfl) rfl ?hv fun _ _ => ?_; case hv => rfl) | refine bA ?_ | refine nw ?_ | (refine ob (cs' := ?_) ?hc ?_; case hc => rfl) | refine so rfl (rfl : _ = AVal.agg _) rfl rfl rfl (by simp only [↓nrmL, nrmZ, qe, ↓reduceIte, qz, qa, qn, h0, h1, bne]; rfl) ?_ | refine nl hKF ?_ | refine sq ?_ | refine rg fun KF hKF => ?_ | refine ct rfl ?_ | refine cf rfl ?_ | refine sk ?_ | refine rt ?_ | dsimp only
  refine rz trivial ?_
  exact ⟨_, rfl, newZero⟩
 cases h2 : (w == w')
 ·simp only [cond_true, Bool.false_and, cond_false]
  repeat first | refine ox ?_ | refine mI ?_ | refine mB ?_ | refine fd ?_ | refine Fo.ld rfl rfl ?_ | refine Fo.ldN rfl rfl (by simp only [↓nrmL, nrmZ, qe, ↓reduceIte, qz, qa, qn, h0, h1, h2, bne]; rfl) ?_ | refine bn rfl rfl rfl (by simp only [h0, h1, h2, bne]; rfl) ?_ | refine tB ?_ | (refine Fo.pcall (v' := ?_) hn rfl (by simp only [↓nrmL, nrmZ, qe, ↓reduceIte, qz, qa, qn, h0, h1, h2, bne, List.map]; rfl) rfl ?hv fun _ _ => ?_; case hv => rfl) | refine bA ?_ | refine nw ?_ | (refine ob (cs' := ?_) ?hc ?_; case hc => rfl) | refine so rfl (rfl : _ = AVal.agg _) rfl rfl rfl (by simp only [↓nrmL, nrmZ, qe, ↓reduceIte, qz, qa, qn, h0, h1, h2, bne]; rfl) ?_ | refine nl hKF ?_ | refine sq ?_ | refine rg fun KF hKF => ?_ | refine ct rfl ?_ | refine cf rfl ?_ | refine sk ?_ | refine rt ?_ | dsimp only
  refine rz trivial ?_
  exact ⟨_, rfl, newZero⟩
 cases h3 : (h == h')
 ·simp only [cond_true, Bool.and_false, cond_false]
  repeat first | refine oy ?_ | refine mI ?_ | refine mB ?_ | refine fd ?_ | refine Fo.ld rfl rfl ?_ | refine Fo.ldN rfl rfl (by simp only [↓nrmL, nrmZ, qe, ↓reduceIte, qz, qa, qn, h0, h1, h2, h3, bne]; rfl) ?_ | refine bn rfl rfl rfl (by simp only [h0, h1, h2, h3, bne]; rfl) ?_ | refine fB ?_ | (refine Fo.pcall (v' := ?_) hn rfl (by simp only [↓nrmL, nrmZ, qe, ↓reduceIte, qz, qa, qn, h0, h1, h2, h3, bne, List.map]; rfl) rfl ?hv fun _ _ => ?_; case hv => rfl) | refine bA ?_ | refine nw ?_ | (refine ob (cs' := ?_) ?hc ?_; case hc => rfl) | refine so rfl (rfl : _ = AVal.agg _) rfl rfl rfl (by simp only [↓nrmL, nrmZ, qe, ↓reduceIte, qz, qa, qn, h0, h1, h2, h3, bne]; rfl) ?_ | refine nl hKF ?_ | refine sq ?_ | refine rg fun KF hKF => ?_ | refine ct rfl ?_ | refine cf rfl ?_ | refine sk ?_ | refine rt ?_ | dsimp only
  refine rz trivial ?_
  exact ⟨_, rfl, newZero⟩
 simp only [cond_true, Bool.and_self]
 obtain rfl : w = w' := by simpa using h2
 obtain rfl : h = h' := by simpa using h3
 haveI hf1 : Fits w h l := ⟨(Img.ok h0).1⟩
 haveI hf2 : Fits w h m := ⟨(Img.ok h1).1⟩
 have hpl : pxOk l = true := (Img.ok h0).2
 have hpm : pxOk m = true := (Img.ok h1).2
 obtain ⟨a, b, hwa, hhb, ha, hb, hl⟩ := sized_nat (n := l.length) hf1.it
 obtain ⟨a', b', hwa', hhb', _, _, hl'⟩ := sized_nat (n := m.length) hf2.it
 subst hwa hhb
 obtain rfl : a = a' := by omega
 obtain rfl : b = b' := by omega
 have hm : a * b ≤ 640 * 640 := Nat.mul_le_mul ha hb
 repeat first | refine oy ?_ | refine mI ?_ | refine mB ?_ | refine fd ?_ | refine Fo.ld rfl rfl ?_ | refine Fo.ldN rfl rfl (by simp only [↓nrmL, nrmZ, qe, ↓reduceIte, qz, qa, qn, h0, h1, h2, h3, bne]; rfl) ?_ | refine bn rfl rfl rfl (by simp only [h0, h1, h2, h3, bne]; rfl) ?_ | refine fB ?_ | (refine Fo.pcall (v' := ?_) hn rfl (by simp only [↓nrmL, nrmZ, qe, ↓reduceIte, qz, qa, qn, h0, h1, h2, h3, bne, List.map]; rfl) rfl ?hv fun _ _ => ?_; case hv => rfl) | refine bA ?_ | refine nw ?_ | refine nl hKF ?_ | refine sq ?_ | refine rg fun KF hKF => ?_ | refine cf rfl ?_ | refine sk ?_
 refine WpO.do (WpX.conD hn rfl rfl (by simp only [↓nrmL, nrmZ, qe, ↓reduceIte, qz, qa, qn, List.map] <;> rfl) (K_refNew (w := a) (h := b) (by omega) (by omega)) fun v H1 h5 => ?_)
 obtain ⟨o, e2, ho, hf, hw3, hx⟩ := h5
 subst e2
 haveI : ExtI _ H1 := ⟨hx⟩
 haveI := ho.one
 have ho : BytesI H1 o (List.replicate (a * b) 0) := ho
 refine nw ?_
 refine so rfl (rfl : _ = AVal.agg _) rfl rfl rfl (by simp only [↓nrmL, nrmZ, qe, ↓reduceIte, qz, qa, qn]; rfl) ?_
 refine nl hKF ?_
 refine sq ?_
 refine sq ?_
 refine rg fun KF hKF => ?_
 refine mI ?_
 refine nl hKF ?_
 refine Wp.block ?_
 dsimp only
 refine Wp.loopS [11, 12, 13, 14, 45, 46, 47, 48, 49, 50, 51, 52, 53, 54, 55, 56, 57, 58, 59, 60, 61, 62, 63, 64, 65, 66, 67, 68, 69, 70, 71, 72, 73, 74, 75, 76, 77, 78, 79, 80, 81, 82, 83, 84, 85, 86, 87, 88, 89, 90, 91, 92, 93, 94, 95, 96, 97, 98, 99, 100, 101, 102, 103, 104, 105, 106] (fun y : Nat => [(11, .int .i64 y)]) (fun H3 y H2 => y ≤ b ∧ BytesI H2 o (filled (fun i => if ((l.getD i 0 == 1) && !(m.getD i 0 == 1)) = true then (1 : UInt8) else 0) (y * a) (a * b)) ∧ WrS H2 o ∧ ExtP0 H3 H2 o) (fun y => b - y) 0 rfl (fun _ => rfl) ⟨rfl, trivial⟩ ⟨Nat.zero_le _, by rw [Nat.zero_mul, filled_zero]; infer_instance, inferInstance, inferInstance⟩ (by unfold fuel0 at hn; omega) ?_
 rintro y g H2 ⟨hy, hb2, hw2, ⟨hx2⟩⟩
 simp only [↓nrmL, nrmZ, qe, ↓reduceIte, qz, qa, qn]
 cases hc : decide ((y : Int) < (b : Int))
 ·have hyb : y = b := by have := of_decide_eq_false hc; omega
  subst hyb
  rw [Nat.mul_comm y a, filled_all] at hb2
  repeat first | refine mI ?_ | refine fd ?_ | refine Fo.ld rfl rfl ?_ | refine Fo.ldN rfl rfl (by simp only [↓nrmL, nrmZ, qe, ↓reduceIte, qz, qa, qn, hc]; rfl) ?_ | refine bn rfl rfl rfl (by simp only [hc]; rfl) ?_ | refine so rfl (rfl : _ = AVal.agg _) rfl rfl rfl (by simp only [↓nrmL, nrmZ, qe, ↓reduceIte, qz, qa, qn, hc]; rfl) ?_ | refine nl hKF ?_ | refine sq ?_ | refine rg fun KF hKF => ?_ | refine cf rfl ?_ | refine rt ?_ | refine xi ?_ | dsimp only
  refine rz trivial ?_
  refine ⟨_, rfl, o, rfl, ?_, hf.weak, inferInstance, Ext0.ext⟩
  have e1 : List.zipWith (fun a b => a &&& ~~~b) l m = (List.range (a * y)).map (fun i => if ((l.getD i 0 == 1) && !(m.getD i 0 == 1)) = true then 1 else 0) := by
   rw [← zip_range (by omega), hl]
   apply List.map_congr_left
   intro i hi
   have hi' : i < a * y := List.mem_range.1 hi
   have g1 : l.getD i 0 = 0 ∨ l.getD i 0 = 1 := px_get hpl (by omega)
   have g2 : m.getD i 0 = 0 ∨ m.getD i 0 = 1 := px_get hpm (by omega)
   rcases g1 with g1 | g1 <;> rcases g2 with g2 | g2 <;> rw [g1, g2] <;> rfl
  show BytesI _ o (List.zipWith (fun a b => a &&& ~~~b) l m)
  rw [e1]
  infer_instance
 ·have hyb : y < b := by have := of_decide_eq_true hc; omega
  repeat first | refine mI ?_ | refine fd ?_ | refine Fo.ld rfl rfl ?_ | refine bn rfl rfl rfl (by simp only [hc]; rfl) ?_ | refine nl hKF ?_ | refine sq ?_ | refine rg fun KF hKF => ?_ | refine ct rfl ?_ | refine sk ?_ | refine Wp.block ?_ | dsimp only
  refine Wp.loopS [12, 13, 14, 51, 52, 53, 54, 55, 56, 57, 58, 59, 60, 61, 62, 63, 64, 65, 66, 67, 68, 69, 70, 71, 72, 73, 74, 75, 76, 77, 78, 79, 80, 81, 82, 83, 84, 85, 86, 87, 88, 89, 90, 91, 92, 93, 94, 95, 96, 97, 98, 99, 100, 101, 102, 103, 104, 105, 106] (fun x : Nat => [(12, .int .i64 x)]) (fun H3 x H4 => x ≤ a ∧ BytesI H4 o (filled (fun i => if ((l.getD i 0 == 1) && !(m.getD i 0 == 1)) = true then (1 : UInt8) else 0) (y * a + x) (a * b)) ∧ WrS H4 o ∧ ExtP0 H3 H4 o) (fun x => a - x) 0 rfl (fun _ => rfl) ⟨rfl, trivial⟩ ⟨Nat.zero_le _, inferInstance, inferInstance, inferInstance⟩ (by unfold fuel0 at hn; omega) ?_
  rintro x g2 H4 ⟨hx0, hb4, hw4, ⟨hx4⟩⟩
  simp only [↓nrmL, nrmZ, qe, ↓reduceIte, qz, qa, qn]
  cases hc2 : decide ((x : Int) < (a : Int))
  ·have hxa : x = a := by have := of_decide_eq_false hc2; omega
   subst hxa
   have hw1 := wa1 (a := y) (by omega)
   repeat first | refine mI ?_ | refine fd ?_ | refine Fo.ld rfl rfl ?_ | refine bn rfl rfl rfl (by simp only [hc2]; rfl) ?_ | refine b0 ?_ | refine nl hKF ?_ | refine sq ?_ | refine rg fun KF hKF => ?_ | refine cf rfl ?_ | refine xi ?_ | dsimp only
   refine ⟨y + 1, by omega, ⟨by simp only [↓nrmL, nrmZ, qe, ↓reduceIte, qz, qa, qn]; rw [hw1], trivial⟩, hyb, by rw [Nat.add_mul, Nat.one_mul]; infer_instance, inferInstance, inferInstance⟩
  ·have hxa : x < a := by have := of_decide_eq_true hc2; omega
   have hlt := idx_lt hxa hyb
   have hw1 := wa1 (a := x) (by omega)
   have hfl := filled_length (fun i => if ((l.getD i 0 == 1) && !(m.getD i 0 == 1)) = true then (1 : UInt8) else 0) (y * a + x) (a * b)
   have k1 := inkB_nat (l := l) hxa hyb
   have k2 := inkB_nat (l := m) hxa hyb
   repeat first | refine mI ?_ | refine fd ?_ | refine Fo.ld rfl rfl ?_ | refine bn rfl rfl rfl (by simp only [hc2, Bool.not_true, Bool.not_false]; rfl) ?_ | refine nl hKF ?_ | refine sq ?_ | refine rg fun KF hKF => ?_ | refine ct rfl ?_ | refine sk ?_ | refine Wp.block ?_ | dsimp only
   refine Fr.dregion0 rfl fun KF hKF => ?_
   repeat first | refine Er rfl (exec_ldN rfl rfl (by simp only [↓nrmL, nrmZ, qe, ↓reduceIte, qz, qa, qn]; rfl)) rfl ?_ | refine Fe.pure rfl rfl (by simp only [↓nrmL, nrmZ, qe, ↓reduceIte, qz, qa, qn]; rfl) ?_ | (refine Fe.pcall (v' := ?_) rfl hn rfl (by simp only [↓nrmL, nrmZ, qe, ↓reduceIte, qz, qa, qn, List.map]; rfl) rfl ?hv fun _ _ => ar ?_; case hv => rfl) | refine WpE.nil (hKF _ _ ?_)
   simp only [Bool.not_true, Bool.not_false]
   repeat first | refine oy ?_ | refine ox ?_ | refine Fo.noU rfl ?_ | refine mI ?_ | refine mB ?_ | refine bn rfl rfl rfl (by simp only [↓nrmL, nrmZ, qe, ↓reduceIte, qz, qa, qn, Bool.not_true, Bool.not_false]; rfl) ?_ | refine tB ?_ | refine fB ?_ | refine sq ?_ | refine rg fun KF hKF => ?_
   cases ht : (inkB a b l x y : Bool)
   ·skip
    cases ht2 : (inkB a b m x y : Bool)
    ·skip
     simp only [↓nrmL, nrmZ, qe, ↓reduceIte, qz, qa, qn, hc2, ht, ht2, Bool.not_true, Bool.not_false]
     repeat first | refine oy ?_ | refine ox ?_ | refine mI ?_ | refine mB ?_ | refine bn rfl rfl rfl (by simp only [↓nrmL, nrmZ, qe, ↓reduceIte, qz, qa, qn, hc2, ht, ht2, Bool.not_true, Bool.not_false]; rfl) ?_ | refine b0 ?_ | refine fB ?_ | refine nl hKF ?_ | refine rg fun KF hKF => ?_ | refine cf rfl ?_ | refine sk ?_ | dsimp only
     have h0 : (fun i => if ((l.getD i 0 == 1) && !(m.getD i 0 == 1)) = true then (1 : UInt8) else 0) (y * a + x) = 0 := by
      rw [k1] at ht
      rw [k2] at ht2
      simp only [ht, ht2]; rfl
     try dsimp only at h0
     refine ⟨x + 1, by omega, ⟨by simp only [↓nrmL, nrmZ, qe, ↓reduceIte, qz, qa, qn]; rw [hw1], trivial⟩, hxa, by rw [show y * a + (x + 1) = y * a + x + 1 by omega, filled_skip h0]; infer_instance, inferInstance, inferInstance⟩
    ·skip
     simp only [↓nrmL, nrmZ, qe, ↓reduceIte, qz, qa, qn, hc2, ht, ht2, Bool.not_true, Bool.not_false]
     repeat first | refine oy ?_ | refine ox ?_ | refine mI ?_ | refine mB ?_ | refine bn rfl rfl rfl (by simp only [↓nrmL, nrmZ, qe, ↓reduceIte, qz, qa, qn, hc2, ht, ht2, Bool.not_true, Bool.not_false]; rfl) ?_ | refine b0 ?_ | refine fB ?_ | refine nl hKF ?_ | refine rg fun KF hKF => ?_ | refine cf rfl ?_ | refine sk ?_ | dsimp only
     have h0 : (fun i => if ((l.getD i 0 == 1) && !(m.getD i 0 == 1)) = true then (1 : UInt8) else 0) (y * a + x) = 0 := by
      rw [k1] at ht
      rw [k2] at ht2
      simp only [ht, ht2]; rfl
     try dsimp only at h0
     refine ⟨x + 1, by omega, ⟨by simp only [↓nrmL, nrmZ, qe, ↓reduceIte, qz, qa, qn]; rw [hw1], trivial⟩, hxa, by rw [show y * a + (x + 1) = y * a + x + 1 by omega, filled_skip h0]; infer_instance, inferInstance, inferInstance⟩
   ·skip
    cases ht2 : (inkB a b m x y : Bool)
    ·skip
     simp only [↓nrmL, nrmZ, qe, ↓reduceIte, qz, qa, qn, hc2, ht, ht2, Bool.not_true, Bool.not_false]
     repeat first | refine oy ?_ | refine ox ?_ | refine Fo.noU rfl ?_ | refine mI ?_ | refine mB ?_ | refine Fo.ldN rfl rfl (by simp only [↓nrmL, nrmZ, qe, ↓reduceIte, qz, qa, qn, hc2, ht, ht2, Bool.not_true, Bool.not_false]; rfl) ?_ | refine tB ?_ | refine fB ?_ | refine Fo.now rfl rfl (by simp only [hc2, ht, ht2, Bool.not_true, Bool.not_false]; rfl) ?_ | refine nl hKF ?_ | refine rg fun KF hKF => ?_ | refine ct rfl ?_
     refine WpO.do (WpX.conD hn rfl rfl (by simp only [↓nrmL, nrmZ, qe, ↓reduceIte, qz, qa, qn, List.map] <;> rfl) (K_refSet (y := y) (x := x) (by rw [hfl]; exact hlt) (by rw [hfl]; omega)) fun v H5 h5 => ?_)
     obtain ⟨hb5, hw5, hx5⟩ := h5
     repeat first | refine mI ?_ | refine b0 ?_ | refine nl hKF ?_ | refine rg fun KF hKF => ?_ | dsimp only
     have h0 : (fun i => if ((l.getD i 0 == 1) && !(m.getD i 0 == 1)) = true then (1 : UInt8) else 0) (y * a + x) = 1 := by
      rw [k1] at ht
      rw [k2] at ht2
      simp only [ht, ht2]; rfl
     try dsimp only at h0
     refine ⟨x + 1, by omega, ⟨by simp only [↓nrmL, nrmZ, qe, ↓reduceIte, qz, qa, qn]; rw [hw1], trivial⟩, hxa, by rw [show y * a + (x + 1) = y * a + x + 1 by omega, ← filled_succ, h0]; infer_instance, inferInstance, inferInstance⟩
    ·skip
     simp only [↓nrmL, nrmZ, qe, ↓reduceIte, qz, qa, qn, hc2, ht, ht2, Bool.not_true, Bool.not_false]
     repeat first | refine oy ?_ | refine ox ?_ | refine mI ?_ | refine mB ?_ | refine bn rfl rfl rfl (by simp only [↓nrmL, nrmZ, qe, ↓reduceIte, qz, qa, qn, hc2, ht, ht2, Bool.not_true, Bool.not_false]; rfl) ?_ | refine b0 ?_ | refine tB ?_ | refine fB ?_ | refine Fo.now rfl rfl (by simp only [hc2, ht, ht2, Bool.not_true, Bool.not_false]; rfl) ?_ | refine nl hKF ?_ | refine rg fun KF hKF => ?_ | refine cf rfl ?_ | refine sk ?_ | dsimp only
     have h0 : (fun i => if ((l.getD i 0 == 1) && !(m.getD i 0 == 1)) = true then (1 : UInt8) else 0) (y * a + x) = 0 := by
      rw [k1] at ht
      rw [k2] at ht2
      simp only [ht, ht2]; rfl
     try dsimp only at h0
     refine ⟨x + 1, by omega, ⟨by simp only [↓nrmL, nrmZ, qe, ↓reduceIte, qz, qa, qn]; rw [hw1], trivial⟩, hxa, by rw [show y * a + (x + 1) = y * a + x + 1 by omega, filled_skip h0]; infer_instance, inferInstance, inferInstance⟩
end Go.Am


namespace Go.Am
open Go
open Nat renaming reduceEqDiff → qe, reduceAdd → qz
open Int renaming reduceBEq → qa, reduceBNe → qn
attribute [local irreducible] Wp WpO WpX WpE
theorem sel_proper {o : Nat → Nat → Bool} {len n : Nat} (f : RunT → Bool) (hlen : len ≤ 640) : properB ((allR o len n).filter f) (n : Nat) (len : Nat) = true :=
 properTo_pair hlen (fun r hr => allR_ok (List.mem_filter.1 hr).1) ((allR_pair n).sublist List.filter_sublist) _ (Nat.le_refl _)
theorem cut_zip {a b : Nat} {l : List UInt8} {C : List RunT} (h : Ok a b l) : List.zipWith (fun x y => x &&& ~~~y) l (paint C (fun k => k % a) (fun k => k / a) (a * b)) = cutL l a (a * b) C := by
 have hl := h.len
 refine list_eqA 0 (by simp [paint, cutL, mixP, hl]) fun t ht => ?_
 have ht : t < a * b := by simpa [paint, hl] using ht
 have hp := px_get h.px (show t < l.length by omega)
 unfold cutL mixP
 rw [getD_mapA ht]
 have e1 : (List.zipWith (fun x y => x &&& ~~~y) l (paint C (fun k => k % a) (fun k => k / a) (a * b))).getD t 0 = l.getD t 0 &&& ~~~((paint C (fun k => k % a) (fun k => k / a) (a * b)).getD t 0) := by
  have hq : t < (paint C (fun k => k % a) (fun k => k / a) (a * b)).length := by simpa [paint] using ht
  simp only [List.getD_eq_getElem?_getD]
  rw [List.getElem?_eq_getElem (by rw [List.length_zipWith]; omega), List.getElem?_eq_getElem (show t < l.length by omega), List.getElem?_eq_getElem hq]
  simp
 have e2 : (C.any fun r => inRun r (t % a) (t / a)) = (C.any fun r => inR r (t % a) (t / a)) := by
  congr 1
  funext r
  simp only [inRun, inR, Bool.and_assoc]
  rfl
 rw [e1]
 unfold paint
 rw [getD_mapA ht, e2]
 show _ = if (C.any fun r => inR r (t % a) (t / a)) = true then 0 else l.getD t 0
 cases C.any fun r => inR r (t % a) (t / a)
 ·simp only [Bool.false_eq_true, if_false]
  rcases hp with h | h <;> rw [h] <;> rfl
 ·simp only [if_true]
  rcases hp with h | h <;> rw [h] <;> rfl
theorem rem_pair {a b : Nat} {l : List UInt8} {C : List RunT} (h : Ok a b l) (hp : properB C (a : Nat) (b : Nat) = true) : colsImg a b C = (⟨a, b, paint C (fun k => k % a) (fun k => k / a) (a * b)⟩, 0) ∧ combSpec (fun x y => x &&& ~~~y) ⟨a, b, l⟩ ⟨a, b, paint C (fun k => k % a) (fun k => k / a) (a * b)⟩ = (⟨a, b, cutL l a (a * b) C⟩, 0) := by
 have h1 : sideB a = true := by simp only [sideB, Bool.and_eq_true, decide_eq_true_eq]; have := h.wa; omega
 have h2 : sideB b = true := by simp only [sideB, Bool.and_eq_true, decide_eq_true_eq]; have := h.hb; omega
 refine ⟨?_, ?_⟩
 ·unfold colsImg fromSpec
  rw [h1, h2, hp]; rfl
 ·rw [combOk h (paint_ok h.wa h.hb), cut_zip h]
theorem K_refRemove {w h most : Int} {m : Nat} {p q : AVal} {H : AHeap} {l : List UInt8} {cells : List AVal} {sts : List (List (List Int))} [hp : BytesI H p l] [hq : StavesI H q m cells sts] (hm : m ≤ 1000) : Con ext prog 8 11 [.agg [.int .i64 w, .int .i64 h, p], q, .int .i64 most] H fun v H' => InkRes H H' v (remS ⟨w, h, l⟩ sts most) := by
 refine con_of (show prog 11 = some c11 from rfl) rfl rfl fun n hn => ?_
 have hsl := hq.sl
 haveI := hsl.one
 haveI := hp.one
 obtain ⟨R, hR⟩ : ∃ R, remS ⟨w, h, l⟩ sts most = R := ⟨_, rfl⟩
 rw [hR]
 repeat first | refine mI ?_ | refine mv ?_ | refine Fo.ldN rfl rfl (by simp only [↓nrmL, nrmZ, qe, ↓reduceIte, qz, qa, qn]; rfl) ?_ | refine bA ?_ | refine nw ?_ | refine nl hKF ?_ | refine sq ?_ | refine rg fun KF hKF => ?_
 refine WpO.do (WpX.conD hn rfl rfl (by simp only [↓nrmL, nrmZ, qe, ↓reduceIte, qz, qa, qn, List.map] <;> rfl) (K_refRuns (p := p) (q := q) (l := l) (sts := sts) (hq := hq.ext Ext0.ext) hm) fun v H3 h5 => ?_)
 obtain ⟨q2, e1, hq2, hfq2, hxq2⟩ := h5
 subst e1
 haveI : ExtI _ H3 := ⟨hxq2⟩
 haveI := hq2.sl.one
 cases h0 : ((runsS ⟨w, h, l⟩ sts most).2 == 0)
 ·have e1 : remS ⟨w, h, l⟩ sts most = (.zero, (runsS ⟨w, h, l⟩ sts most).2) := by simp only [remS, h0, cond_false]
  rw [e1] at hR
  subst hR
  repeat first | refine mI ?_ | refine mT ?_ | refine mv ?_ | refine bn rfl rfl rfl (by simp only [h0, bne]; rfl) ?_ | refine xt ?_ | (refine ob (cs' := ?_) ?hc ?_; case hc => rfl) | refine so rfl (rfl : _ = AVal.agg _) rfl rfl rfl (by simp only [↓nrmL, nrmZ, qe, ↓reduceIte, qz, qa, qn, h0, bne]; rfl) ?_ | refine nl hKF ?_ | refine sq ?_ | refine rg fun KF hKF => ?_ | refine ct rfl ?_ | refine rt ?_ | dsimp only
  refine rz trivial ?_
  exact ⟨_, rfl, newZero⟩
 have he0 : (Img.err ⟨w, h, l⟩ == 0) = true := by
  cases hh : (Img.err ⟨w, h, l⟩ == 0)
  ·have := runsS_bad (sts := sts) (most := most) hh
   rw [h0] at this; cases this
  ·rfl
 obtain ⟨a, b, rfl, rfl, ok⟩ := ok_of he0
 have ha := ok.wa
 have hb := ok.hb
 obtain ⟨C, hC⟩ : ∃ C, (runsS ⟨a, b, l⟩ sts most).1 = C := ⟨_, rfl⟩
 have hCl : C.length ≤ 409600 := by rw [← hC]; exact runsS_len _ _ _ (by simpa using hb) (by simpa using ha)
 have hpr : properB C (a : Nat) (b : Nat) = true := by
  rw [← hC]
  unfold runsS
  rw [he0]
  cases h2 : sts.all (fitsB a b)
  ·simp only [Int.toNat_natCast, h2, cond_true, cond_false]; rfl
  ·simp only [Int.toNat_natCast, h2, cond_true]
   exact sel_proper _ hb
 have e1 : remS ⟨a, b, l⟩ sts most = (⟨a, b, cutL l a (a * b) C⟩, 0) := by simp only [remS, h0, cond_true, Int.toNat_natCast, hC]
 rw [e1] at hR
 subst hR
 rw [hC] at hq2
 have hbne : ((0 : Int) != 0) = false := rfl
 have hz : (runsS ⟨a, b, l⟩ sts most).2 = 0 := by simpa using h0
 obtain ⟨i1, i2⟩ := rem_pair ok hpr
 haveI : ShortR C := ⟨hCl⟩
 haveI : RunsI H3 q2 C := hq2.sl
 simp only [hz, hbne]
 repeat first | refine mI ?_ | refine mT ?_ | refine mv ?_ | refine fd ?_ | refine Fo.ld rfl rfl ?_ | refine bn rfl rfl rfl (by simp only [hz, hbne]; rfl) ?_ | refine xt ?_ | refine nl hKF ?_ | refine sq ?_ | refine rg fun KF hKF => ?_ | refine cf rfl ?_ | refine sk ?_
 refine WpO.do (WpX.conD hn rfl rfl (by simp only [↓nrmL, nrmZ, qe, ↓reduceIte, qz, qa, qn, List.map] <;> rfl) (K_refFromColumns (w := (a : Int)) (h := (b : Int)) (p := q2) (l := C)) fun v H4 h5 => ?_)
 rw [i1] at h5
 obtain ⟨q0, e2, q3, e3, hq3, hf3, hw3, hx3⟩ := h5
 subst e2
 subst e3
 haveI : ExtI _ H4 := ⟨hx3⟩
 haveI := hq3.one
 have hq3 : BytesI H4 q3 (paint C (fun k => k % a) (fun k => k / a) (a * b)) := hq3
 repeat first | refine mI ?_ | refine mT ?_ | refine Fo.ldN rfl rfl (by simp only [↓nrmL, nrmZ, qe, ↓reduceIte, qz, qa, qn]; rfl) ?_ | refine xt ?_ | refine nw ?_ | refine so rfl (rfl : _ = AVal.agg _) rfl rfl rfl (by simp only [↓nrmL, nrmZ, qe, ↓reduceIte, qz, qa, qn]; rfl) ?_ | refine nl hKF ?_ | refine sq ?_ | refine rg fun KF hKF => ?_ | dsimp only
 refine WpO.do (WpX.conD hn rfl rfl (by simp only [↓nrmL, nrmZ, qe, ↓reduceIte, qz, qa, qn, List.map] <;> rfl) (K_refPair2 (w := (a : Int)) (h := (b : Int)) (w' := (a : Int)) (h' := (b : Int)) (l := l) (m := paint C (fun k => k % a) (fun k => k / a) (a * b))) fun v H5 h5 => ?_)
 rw [i2] at h5
 obtain ⟨q0, e2, q4, e3, hq4, hf4, hw4, hx4⟩ := h5
 subst e2
 subst e3
 haveI : ExtI _ H5 := ⟨hx4⟩
 haveI := hq4.one
 have hq4 : BytesI H5 q4 (cutL l a (a * b) C) := hq4
 refine xt ?_
 refine xt ?_
 refine so rfl (rfl : _ = AVal.agg _) rfl rfl rfl (by simp only [↓nrmL, nrmZ, qe, ↓reduceIte, qz, qa, qn]; rfl) ?_
 refine mI ?_
 refine nl hKF ?_
 refine rt ?_
 dsimp only
 refine rz trivial ?_
 exact ⟨_, rfl, q4, rfl, (show BytesI _ q4 (cutL l a (a * b) C) from inferInstance), hf4.weak, inferInstance, Ext0.ext⟩
end Go.Am


namespace Go.Am
open Go
attribute [local irreducible] Wp WpO WpX WpE
end Go.Am


namespace Go.Am
open Go
attribute [local irreducible] Wp WpO WpX WpE
end Go.Am


namespace Go.Am
open Go
open Nat renaming reduceEqDiff → qe, reduceAdd → qz
open Int renaming reduceBEq → qa, reduceBNe → qn
attribute [local irreducible] Wp WpO WpX WpE
theorem eq_step {k : IntKind} {x y : Int} {xs ys : List AVal} {off : Nat} {fs : List (Option (Nat × Nat × EqDesc))} {r : Bool} (hx : xs[off]? = some (.int k x)) (hy : ys[off]? = some (.int k y)) (h : aEqs fs xs ys = some r) : aEqs (some (off, 0, .int) :: fs) xs ys = some ((x == y) && r) := by
 have h1 : aPart 0 xs off = some (.int k x) := by unfold aPart; rw [if_pos rfl]; exact hx
 have h2 : aPart 0 ys off = some (.int k y) := by unfold aPart; rw [if_pos rfl]; exact hy
 have h3 : aEq .int (.int k x) (.int k y) = some (x == y) := by simp [aEq]
 simp only [aEqs, h1, h2, h3]
 cases (x == y)
 ·rfl
 ·rw [Bool.true_and]; exact h
theorem eq3 {k : IntKind} {a b c d e f : Int} : aEq (.fields [some (0, 0, .int), some (1, 0, .int), some (2, 0, .int)]) (.agg [.int k a, .int k b, .int k c]) (.agg [.int k d, .int k e, .int k f]) = some ((a == d) && ((b == e) && ((c == f) && true))) := by
 simp only [aEq]
 exact eq_step rfl rfl (eq_step rfl rfl (eq_step rfl rfl (by simp only [aEqs])))
instance K_EqualRuns {p q : AVal} {H : AHeap} {l m : List RunT} [hp : RunsI H p l] [hq : RunsI H q m] [hs : Short l] : PureCon ext prog 15 [p, q] H 1 (.bool (decide (l = m))) := ⟨by
 refine con_of (show prog 15 = some c15 from rfl) rfl rfl fun n hn => ?_
 have hsl := hs.le
 by_cases hlm : l.length = m.length
 ·have h1 : (((l.length : Nat) : Int) != ((m.length : Nat) : Int)) = false := by simp [hlm]
  repeat first | refine mI ?_ | refine mB ?_ | refine mv ?_ | refine bn rfl rfl rfl (by simp only [h1]; rfl) ?_ | refine ln (by simp only [↓nrmL, nrmK, qe, ↓reduceIte]; rfl) ?_ | refine nl hKF ?_ | refine sq ?_ | refine rg fun KF hKF => ?_ | refine cf rfl ?_ | refine sk ?_ | refine Wp.block ?_ | dsimp only
  refine Wp.loopS [4, 5, 13, 14, 15, 16, 17, 18, 19, 20, 21, 22, 23, 24, 25] (fun i : Nat => [(13, .int .i64 i)]) (fun H3 i H2 => i ≤ l.length ∧ (∀ j, j < i → l[j]? = m[j]?) ∧ H2 = H3) (fun i => l.length - i) 0 rfl (fun _ => rfl) ⟨rfl, trivial⟩ ⟨Nat.zero_le _, fun j hj => by omega, rfl⟩ (by unfold fuel0 at hn; omega) ?_
  rintro i g H2 ⟨hi, heq, rfl⟩
  simp only [↓nrmL, nrmZ, qe, ↓reduceIte, qz, qa, qn]
  cases hc : decide ((i : Int) < (l.length : Int))
  ·have hil : i = l.length := by have := of_decide_eq_false hc; omega
   subst hil
   have hd : decide (l = m) = true := decide_eq_true (eq_of_gets hlm heq)
   rw [hd]
   repeat first | refine mB ?_ | refine bn rfl rfl rfl (by simp only [hc]; rfl) ?_ | refine nl hKF ?_ | refine sq ?_ | refine rg fun KF hKF => ?_ | refine cf rfl ?_ | refine rt ?_ | refine xi ?_ | dsimp only
   refine rz trivial ?_
   exact ⟨rfl, Ext0.ext⟩
  ·have hil : i < l.length := by have := of_decide_eq_true hc; omega
   have him : i < m.length := by omega
   have hw1 := wa1 (a := i) (by omega)
   have hcg := cellsR_get hil
   have hcg2 := cellsR_get him
   have ha : l[i]? = some (l.getD i run0) := by simp [hil]
   have hb : m[i]? = some (m.getD i run0) := by simp [him]
   generalize l.getD i run0 = r at hcg ha
   generalize m.getD i run0 = s at hcg2 hb
   obtain ⟨r1, r2, r3⟩ := r
   obtain ⟨s1, s2, s3⟩ := s
   cases hne : ((r1 == s1) && ((r2 == s2) && ((r3 == s3) && true)))
   ·have hd : decide (l = m) = false := decide_eq_false (fun e => by rw [e, hb] at ha; cases ha; simp at hne)
    rw [hd]
    repeat first | refine mI ?_ | refine mv ?_ | refine bn rfl rfl rfl (by simp only [hc]; rfl) ?_ | (refine Fo.idx (by simp only [↓nrmL, nrmK, qe, ↓reduceIte]; rfl) rfl ?_ (by simp only [↓nrmL, nrmZ, qe, ↓reduceIte, qz, qa, qn, hc]; rfl) ?_; (focus omega)) | refine nl hKF ?_ | refine sq ?_ | refine rg fun KF hKF => ?_ | refine Fr.quiet rfl rfl fun KF hKF => ?_ | refine ct rfl ?_ | refine sk ?_ | refine Wp.block ?_
    refine WpO.do (WpX.ldNP (p := p) (j := i * 3) (m := 3) rfl (by decide) (by rw [cellsR_length]; omega) hcg ?_)
    refine mv ?_
    refine mI ?_
    refine Fo.idx (by simp only [↓nrmL, nrmK, qe, ↓reduceIte]; rfl) rfl ?_ (by simp only [↓nrmL, nrmZ, qe, ↓reduceIte, qz, qa, qn]; rfl) ?_; (focus omega)
    dsimp only
    refine WpO.do (WpX.ldNP (p := q) (j := i * 3) (m := 3) rfl (by decide) (by rw [cellsR_length]; omega) hcg2 ?_)
    dsimp only
    refine Fo.eqD rfl rfl eq3 (by rw [hne]) ?_
    refine nl hKF ?_
    refine ct rfl ?_
    refine sq ?_
    refine rg fun KF hKF => ?_
    refine mB ?_
    refine nl hKF ?_
    refine rt ?_
    dsimp only
    refine rz trivial ?_
    exact ⟨rfl, Ext0.ext⟩
   ·have e : l[i]? = m[i]? := by
     simp only [Bool.and_true, Bool.and_eq_true, beq_iff_eq] at hne
     obtain ⟨rfl, rfl, rfl⟩ := hne
     rw [ha, hb]
    repeat first | refine mI ?_ | refine mv ?_ | refine bn rfl rfl rfl (by simp only [hc]; rfl) ?_ | (refine Fo.idx (by simp only [↓nrmL, nrmK, qe, ↓reduceIte]; rfl) rfl ?_ (by simp only [↓nrmL, nrmZ, qe, ↓reduceIte, qz, qa, qn, hc]; rfl) ?_; (focus omega)) | refine nl hKF ?_ | refine sq ?_ | refine rg fun KF hKF => ?_ | refine Fr.quiet rfl rfl fun KF hKF => ?_ | refine ct rfl ?_ | refine sk ?_ | refine Wp.block ?_
    refine WpO.do (WpX.ldNP (p := p) (j := i * 3) (m := 3) rfl (by decide) (by rw [cellsR_length]; omega) hcg ?_)
    refine mv ?_
    refine mI ?_
    refine Fo.idx (by simp only [↓nrmL, nrmK, qe, ↓reduceIte]; rfl) rfl ?_ (by simp only [↓nrmL, nrmZ, qe, ↓reduceIte, qz, qa, qn]; rfl) ?_; (focus omega)
    dsimp only
    refine WpO.do (WpX.ldNP (p := q) (j := i * 3) (m := 3) rfl (by decide) (by rw [cellsR_length]; omega) hcg2 ?_)
    dsimp only
    refine Fo.eqD rfl rfl eq3 (by rw [hne]) ?_
    refine nl hKF ?_
    refine cf rfl ?_
    refine sk ?_
    refine rg fun KF hKF => ?_
    refine b0 ?_
    refine mI ?_
    refine nl hKF ?_
    dsimp only
    refine ⟨i + 1, by omega, ⟨by simp only [↓nrmL, nrmZ, qe, ↓reduceIte, qz, qa, qn]; rw [hw1], trivial⟩, hil, fun j hj => ?_, rfl⟩
    by_cases hj2 : j < i
    ·exact heq j hj2
    ·rw [show j = i by omega]; exact e
 ·have h1 : (((l.length : Nat) : Int) != ((m.length : Nat) : Int)) = true := by simp; omega
  have hd : decide (l = m) = false := decide_eq_false (fun e => by subst e; exact hlm rfl)
  rw [hd]
  repeat first | refine mB ?_ | refine mv ?_ | refine bn rfl rfl rfl (by simp only [h1]; rfl) ?_ | refine ln (by simp only [↓nrmL, nrmK, qe, ↓reduceIte]; rfl) ?_ | refine nl hKF ?_ | refine sq ?_ | refine rg fun KF hKF => ?_ | refine ct rfl ?_ | refine rt ?_ | dsimp only
  refine rz trivial ?_
  exact ⟨rfl, Ext0.ext⟩⟩
end Go.Am


namespace Go.Am
open Go
open Nat renaming reduceEqDiff → qe, reduceAdd → qz
open Int renaming reduceBEq → qa, reduceBNe → qn
attribute [local irreducible] Wp WpO WpX WpE
instance K_Few3 {p : AVal} {H : AHeap} {w h : Int} {l : List UInt8} [hp : BytesI H p l] : PureCon ext prog 4 [.agg [.int .i64 w, .int .i64 h, p]] H 1 (.bool (decide (((l.length : Nat) : Int) ≤ 6000))) := ⟨by
 refine con_of (show prog 4 = some c4 from rfl) rfl rfl fun n hn => ?_
 haveI := hp.one
 repeat first | refine mB ?_ | refine fd ?_ | refine Fo.ld rfl rfl ?_ | refine b0 ?_ | refine ln (by simp only [↓nrmL, nrmK, qe, ↓reduceIte]; rfl) ?_ | refine bA ?_ | refine nl hKF ?_ | refine sq ?_ | refine rg fun KF hKF => ?_ | refine rt ?_ | dsimp only
 refine rz trivial ?_
 exact ⟨rfl, Ext0.ext⟩⟩
end Go.Am


namespace Go.Am
open Go
open Nat renaming reduceEqDiff → qe, reduceAdd → qz
open Int renaming reduceBEq → qa, reduceBNe → qn
attribute [local irreducible] Wp WpO WpX WpE
theorem gau_err (g : Img) : (gauS g).2.2 = g.err := by
 unfold gauS
 cases h : (g.err == 0)
 ·rfl
 ·have : g.err = 0 := by simpa using h
  rw [this]; rfl
theorem runsS_short (g : Img) (sts : List (List (List Int))) (most : Int) : (runsS g sts most).1.length ≤ 409600 := by
 obtain ⟨w, h, l⟩ := g
 cases h0 : (Img.err ⟨w, h, l⟩ == 0)
 ·unfold runsS
  rw [h0]
  exact Nat.zero_le _
 ·obtain ⟨a, b, rfl, rfl, ok⟩ := ok_of h0
  exact runsS_len _ _ _ (by simpa using ok.hb) (by simpa using ok.wa)
theorem remS_short (g : Img) (sts : List (List (List Int))) (most : Int) : (remS g sts most).1.px.length ≤ 409600 := by
 obtain ⟨w, h, l⟩ := g
 cases h0 : (Img.err ⟨w, h, l⟩ == 0)
 ·unfold remS
  rw [runsS_bad h0]
  exact Nat.zero_le _
 ·obtain ⟨a, b, rfl, rfl, ok⟩ := ok_of h0
  have hm : a * b ≤ 640 * 640 := Nat.mul_le_mul ok.wa ok.hb
  unfold remS
  cases (runsS ⟨a, b, l⟩ sts most).2 == 0
  ·exact Nat.zero_le _
  ·simp only [cond_true, Int.toNat_natCast, cutL, mixP_length]
   omega
theorem K_StaveRuns {w h most : Int} {m : Nat} {p q : AVal} {H : AHeap} {l : List UInt8} {cells : List AVal} {sts : List (List (List Int))} [hp : BytesI H p l] [hq : StavesI H q m cells sts] (hs : ∀ (i : Nat) (h : i < sts.length), SlimL sts[i]) : Con ext prog 14 3 [.agg [.int .i64 w, .int .i64 h, p], q, .int .i64 most] H fun v H' => v = .bool true ∧ Ext H H' := by
 refine con_of (show prog 3 = some c3 from rfl) rfl rfl fun n hn => ?_
 have hsl := hq.sl
 haveI := hsl
 haveI := hsl.one
 haveI := hp.one
 cases h1 : decide (((l.length : Nat) : Int) ≤ 6000)
 ·skip
  repeat first | refine ox ?_ | refine mB ?_ | refine Fo.ldN rfl rfl (by simp only [↓nrmL, nrmZ, qe, ↓reduceIte, qz, qa, qn, h1]; rfl) ?_ | refine tB ?_ | (refine Fo.pcall (v' := ?_) hn rfl (by simp only [h1, List.map]; rfl) rfl ?hv fun _ _ => ?_; case hv => rfl) | (refine Fo.pcall (v' := ?_) hn rfl (by simp only [↓nrmL, nrmZ, qe, ↓reduceIte, qz, qa, qn, h1, List.map]; rfl) rfl ?hv fun _ _ => ?_; case hv => (simp only [h1]; rfl)) | refine bA ?_ | refine Fo.now rfl rfl (by simp only [↓nrmL, nrmZ, qe, ↓reduceIte, qz, qa, qn, h1]; rfl) ?_ | refine nl hKF ?_ | refine sq ?_ | refine rg fun KF hKF => ?_ | refine ct rfl ?_ | refine rt ?_ | dsimp only
  refine rz trivial ?_
  exact ⟨rfl, Ext0.ext⟩
 cases h2 : decide (((m : Nat) : Int) > 5)
 rotate_left
 ·skip
  repeat first | refine oy ?_ | refine mB ?_ | refine mv ?_ | refine Fo.ldN rfl rfl (by simp only [↓nrmL, nrmZ, qe, ↓reduceIte, qz, qa, qn, h1, h2]; rfl) ?_ | refine bn rfl rfl rfl (by simp only [h1, h2]; rfl) ?_ | refine fB ?_ | (refine Fo.pcall (v' := ?_) hn rfl (by simp only [h1, h2, List.map]; rfl) rfl ?hv fun _ _ => ?_; case hv => rfl) | (refine Fo.pcall (v' := ?_) hn rfl (by simp only [↓nrmL, nrmZ, qe, ↓reduceIte, qz, qa, qn, h1, h2, List.map]; rfl) rfl ?hv fun _ _ => ?_; case hv => (simp only [h1, h2]; rfl)) | refine ln (by simp only [↓nrmL, nrmK, qe, ↓reduceIte]; rfl) ?_ | refine bA ?_ | refine Fo.now rfl rfl (by simp only [↓nrmL, nrmZ, qe, ↓reduceIte, qz, qa, qn, h1, h2]; rfl) ?_ | refine nl hKF ?_ | refine sq ?_ | refine rg fun KF hKF => ?_ | refine ct rfl ?_ | refine rt ?_ | dsimp only
  refine rz trivial ?_
  exact ⟨rfl, Ext0.ext⟩
 have h3 := of_decide_eq_true h1
 have h4 := of_decide_eq_false h2
 have hm : m ≤ 1000 := by omega
 haveI : Short l := ⟨by omega⟩
 repeat first | refine oy ?_ | refine mB ?_ | refine mv ?_ | refine Fo.ldN rfl rfl (by simp only [↓nrmL, nrmZ, qe, ↓reduceIte, qz, qa, qn, h1, h2]; rfl) ?_ | refine bn rfl rfl rfl (by simp only [h1, h2]; rfl) ?_ | refine fB ?_ | (refine Fo.pcall (v' := ?_) hn rfl (by simp only [↓nrmL, nrmZ, qe, ↓reduceIte, qz, qa, qn, h1, h2, List.map]; rfl) rfl ?hv fun _ _ => ?_; case hv => (simp only [h1, h2]; rfl)) | refine ln (by simp only [↓nrmL, nrmK, qe, ↓reduceIte]; rfl) ?_ | refine bA ?_ | refine Fo.now rfl rfl (by simp only [↓nrmL, nrmZ, qe, ↓reduceIte, qz, qa, qn, h1, h2]; rfl) ?_ | refine nl hKF ?_ | refine sq ?_ | refine rg fun KF hKF => ?_ | refine cf rfl ?_ | refine sk ?_
 refine WpO.do (WpX.conD hn rfl rfl (by simp only [↓nrmL, nrmZ, qe, ↓reduceIte, qz, qa, qn, List.map] <;> rfl) (K_CopyInk (a := w) (b := h) (l := l) (by omega)) fun v H1 ⟨a1, e1, hb1, hf1, hw1, hx1⟩ => ?_)
 subst e1
 dsimp only at hb1 ⊢
 haveI : ExtI _ H1 := ⟨hx1⟩
 haveI := hb1
 haveI := hb1.one
 refine mv ?_
 refine WpO.do (WpX.conD hn rfl rfl (by simp only [↓nrmL, nrmZ, qe, ↓reduceIte, qz, qa, qn, List.map] <;> rfl) (K_CopyStaves (hq := hq.ext Ext0.ext) hs hm) fun q1 H2 h5 => ?_)
 obtain ⟨⟨cs1, hq1⟩, ho1, hx2⟩ := h5
 haveI : ExtI _ H2 := ⟨hx2⟩
 haveI := ho1
 refine nw ?_
 refine so rfl (rfl : _ = AVal.agg _) rfl rfl rfl (by simp only [↓nrmL, nrmZ, qe, ↓reduceIte, qz, qa, qn]; rfl) ?_
 refine mv ?_
 refine nl hKF ?_
 refine sq ?_
 refine rg fun KF hKF => ?_
 refine Fo.ldN rfl rfl (by simp only [↓nrmL, nrmZ, qe, ↓reduceIte, qz, qa, qn]; rfl) ?_
 refine mv ?_
 refine mI ?_
 obtain ⟨R, hR⟩ : ∃ R, runsS ⟨w, h, l⟩ sts most = R := ⟨_, rfl⟩
 obtain ⟨Z, hZ⟩ : ∃ Z, remS ⟨w, h, l⟩ sts most = Z := ⟨_, rfl⟩
 have hRl : R.1.length ≤ 409600 := by rw [← hR]; exact runsS_short _ _ _
 have hZl : Z.1.px.length ≤ 409600 := by rw [← hZ]; exact remS_short _ _ _
 haveI : Short R.1 := ⟨by omega⟩
 haveI : Short Z.1.px := ⟨by omega⟩
 refine WpO.do (WpX.conD hn rfl rfl (by simp only [↓nrmL, nrmZ, qe, ↓reduceIte, qz, qa, qn, List.map] <;> rfl) (K_Runs (p := a1) (q := q1) (l := l) (sts := sts) (hq := hq1.ext Ext0.ext) hm) fun v H4 h5 => ?_)
 rw [hR] at h5
 obtain ⟨r1, e1, hr1, hfr1, hx4⟩ := h5
 subst e1
 haveI : ExtI _ H4 := ⟨hx4⟩
 haveI := hr1.sl.one
 haveI : RunsI H4 r1 R.1 := hr1.sl
 repeat first | refine mI ?_ | refine mT ?_ | refine mv ?_ | refine Fo.ldN rfl rfl (by simp only [↓nrmL, nrmZ, qe, ↓reduceIte, qz, qa, qn]; rfl) ?_ | refine xt ?_ | refine nl hKF ?_ | refine sq ?_ | refine rg fun KF hKF => ?_
 refine WpO.do (WpX.conD hn rfl rfl (by simp only [↓nrmL, nrmZ, qe, ↓reduceIte, qz, qa, qn, List.map] <;> rfl) (K_refRuns (p := p) (q := q) (l := l) (sts := sts) (hq := hq.ext Ext0.ext) hm) fun v H5 h5 => ?_)
 rw [hR] at h5
 obtain ⟨r2, e1, hr2, hfr2, hx5⟩ := h5
 subst e1
 haveI : ExtI _ H5 := ⟨hx5⟩
 haveI := hr2.sl.one
 haveI : RunsI H5 r2 R.1 := hr2.sl
 repeat first | refine mI ?_ | refine mT ?_ | refine mv ?_ | refine Fo.ldN rfl rfl (by simp only [↓nrmL, nrmZ, qe, ↓reduceIte, qz, qa, qn]; rfl) ?_ | refine xt ?_ | refine nl hKF ?_ | refine sq ?_ | refine rg fun KF hKF => ?_
 refine WpO.do (WpX.conD hn rfl rfl (by simp only [↓nrmL, nrmZ, qe, ↓reduceIte, qz, qa, qn, List.map] <;> rfl) (K_Remove (p := a1) (q := q1) (l := l) (sts := sts) (hq := hq1.ext Ext0.ext) hm) fun v H6 h5 => ?_)
 rw [hZ] at h5
 obtain ⟨u1, e1, z1, e2, hz1, hfz1, hwz1, hx6⟩ := h5
 subst e1
 subst e2
 haveI : ExtI _ H6 := ⟨hx6⟩
 haveI := hz1
 haveI := hz1.one
 refine mT ?_
 refine xt ?_
 refine xt ?_
 refine nw ?_
 refine so rfl (rfl : _ = AVal.agg _) rfl rfl rfl (by simp only [↓nrmL, nrmZ, qe, ↓reduceIte, qz, qa, qn]; rfl) ?_
 refine mI ?_
 refine nl hKF ?_
 refine sq ?_
 refine rg fun KF hKF => ?_
 refine Fo.ldN rfl rfl (by simp only [↓nrmL, nrmZ, qe, ↓reduceIte, qz, qa, qn]; rfl) ?_
 refine mv ?_
 refine mI ?_
 refine WpO.do (WpX.conD hn rfl rfl (by simp only [↓nrmL, nrmZ, qe, ↓reduceIte, qz, qa, qn, List.map] <;> rfl) (K_refRemove (p := p) (q := q) (l := l) (sts := sts) (hq := hq.ext Ext0.ext) hm) fun v H8 h5 => ?_)
 rw [hZ] at h5
 obtain ⟨u1, e1, z2, e2, hz2, hfz2, hwz2, hx8⟩ := h5
 subst e1
 subst e2
 haveI : ExtI _ H8 := ⟨hx8⟩
 haveI := hz2
 haveI := hz2.one
 refine mT ?_
 refine xt ?_
 refine xt ?_
 refine nw ?_
 refine so rfl (rfl : _ = AVal.agg _) rfl rfl rfl (by simp only [↓nrmL, nrmZ, qe, ↓reduceIte, qz, qa, qn]; rfl) ?_
 refine mI ?_
 refine nl hKF ?_
 refine sq ?_
 refine rg fun KF hKF => ?_
 refine Fo.ldN rfl rfl (by simp only [↓nrmL, nrmZ, qe, ↓reduceIte, qz, qa, qn]; rfl) ?_
 refine WpO.do (WpX.conD hn rfl rfl (by simp only [↓nrmL, nrmZ, qe, ↓reduceIte, qz, qa, qn, List.map] <;> rfl) (K_Gauge (w := w) (h := h) (p := a1) (l := l)) fun v H10 h5 => ?_)
 obtain ⟨e1, hx10⟩ := h5
 subst e1
 haveI : ExtI _ H10 := ⟨hx10⟩
 have hge := gau_err ⟨w, h, l⟩
 obtain ⟨G, hG⟩ : ∃ G, gauS ⟨w, h, l⟩ = G := ⟨_, rfl⟩
 rw [hG] at hge ⊢
 have hee : (Img.err ⟨w, h, l⟩ != Img.err ⟨w, h, l⟩) = false := by simp
 have hRR : decide (R.1 = R.1) = true := decide_eq_true rfl
 have hR2 : (R.2 == R.2) = true := by simp
 have hZ2 : (Z.2 == Z.2) = true := by simp
 have hZZ : decide ((⟨Z.1.w, Z.1.h, Z.1.px⟩ : Img) = ⟨Z.1.w, Z.1.h, Z.1.px⟩) = true := decide_eq_true rfl
 have himg : decide ((⟨w, h, l⟩ : Img) = ⟨w, h, l⟩) = true := decide_eq_true rfl
 cases h0 : (Img.err ⟨w, h, l⟩ == 0)
 ·have hb0 : (G.1 != 0) = false ∧ (G.2.1 != 0) = false := by
   rw [← hG]; unfold gauS; rw [h0]; exact ⟨rfl, rfl⟩
  obtain ⟨g1, g2⟩ := hb0
  simp only [hge, hee, h0, g1, g2, hRR, hR2, hZZ, hZ2, himg]
  repeat first | refine oy ?_ | refine mI ?_ | refine mB ?_ | refine mT ?_ | refine mv ?_ | refine Fo.ldN rfl rfl (by simp only [↓nrmL, nrmZ, qe, ↓reduceIte, qz, qa, qn, hge, hee, h0, g1, g2, hRR, hR2, hZZ, hZ2, himg]; rfl) ?_ | refine bn rfl rfl rfl (by simp only [hge, hee, h0, g1, g2, hRR, hR2, hZZ, hZ2, himg]; rfl) ?_ | refine tB ?_ | refine fB ?_ | refine xt ?_ | (refine Fo.pcall (v' := ?_) hn rfl (by simp only [↓nrmL, nrmZ, qe, ↓reduceIte, qz, qa, qn, hge, hee, h0, g1, g2, hRR, hR2, hZZ, hZ2, himg, List.map]; rfl) rfl ?hv fun _ _ => ?_; case hv => (simp only [hge, hee, h0, g1, g2, hRR, hR2, hZZ, hZ2, himg]; rfl)) | (refine Fo.pcall (v' := ?_) hn rfl (by simp only [↓nrmL, nrmZ, qe, ↓reduceIte, qz, qa, qn, hge, hee, h0, g1, g2, hRR, hR2, hZZ, hZ2, himg, List.map]; rfl) rfl ?hv fun _ _ => ?_; case hv => rfl) | refine nl hKF ?_ | refine sq ?_ | refine rg fun KF hKF => ?_ | refine cf rfl ?_ | refine sk ?_
  refine WpO.do (WpX.conD hn rfl rfl (by simp only [↓nrmL, nrmZ, qe, ↓reduceIte, qz, qa, qn, List.map] <;> rfl) (K_SameStaves (hq1.ext Ext0.ext) (hq.ext Ext0.ext) hs hm) fun v H11 h5 => ?_)
  obtain ⟨e1, hx11⟩ := h5
  subst e1
  haveI : ExtI _ H11 := ⟨hx11⟩
  refine tB ?_
  refine mB ?_
  refine oy ?_
  refine Fo.pcall (v' := ?_) hn rfl (by simp only [↓nrmL, nrmZ, qe, ↓reduceIte, qz, qa, qn, List.map]; rfl) rfl ?hv fun _ _ => ?_; case hv => rfl
  refine tB ?_
  refine mB ?_
  refine nl hKF ?_
  refine rt ?_
  dsimp only
  refine rz trivial ?_
  exact ⟨rfl, Ext0.ext⟩
 obtain ⟨a, b, rfl, rfl, ok⟩ := ok_of h0
 have g1 : (G.1 != G.1) = false := by simp
 have g2 : (G.2.1 != G.2.1) = false := by simp
 simp only [hge, hee, h0]
 repeat first | refine mI ?_ | refine mT ?_ | refine Fo.ldN rfl rfl (by simp only [↓nrmL, nrmZ, qe, ↓reduceIte, qz, qa, qn, hge, hee, h0]; rfl) ?_ | refine bn rfl rfl rfl (by simp only [hge, hee, h0]; rfl) ?_ | refine xt ?_ | (refine Fo.pcall (v' := ?_) hn rfl (by simp only [↓nrmL, nrmZ, qe, ↓reduceIte, qz, qa, qn, hge, hee, h0, List.map]; rfl) rfl ?hv fun _ _ => ?_; case hv => rfl) | refine nl hKF ?_ | refine sq ?_ | refine rg fun KF hKF => ?_ | refine ct rfl ?_ | refine cf rfl ?_
 refine WpO.do (WpX.conD hn rfl rfl (by simp only [↓nrmL, nrmZ, qe, ↓reduceIte, qz, qa, qn, List.map] <;> rfl) (K_refGauge (p := p) (l := l) ok) fun v H11 h5 => ?_)
 rw [hG] at h5
 obtain ⟨e1, hx11⟩ := h5
 subst e1
 haveI : ExtI _ H11 := ⟨hx11⟩
 repeat first | refine oy ?_ | refine mI ?_ | refine mB ?_ | refine mT ?_ | refine mv ?_ | refine Fo.ldN rfl rfl (by simp only [↓nrmL, nrmZ, qe, ↓reduceIte, qz, qa, qn, g1, g2, hRR, hR2, hZZ, hZ2, himg]; rfl) ?_ | refine bn rfl rfl rfl (by simp only [g1, g2, hRR, hR2, hZZ, hZ2, himg]; rfl) ?_ | refine tB ?_ | refine fB ?_ | refine xt ?_ | (refine Fo.pcall (v' := ?_) hn rfl (by simp only [↓nrmL, nrmZ, qe, ↓reduceIte, qz, qa, qn, g1, g2, hRR, hR2, hZZ, hZ2, himg, List.map]; rfl) rfl ?hv fun _ _ => ?_; case hv => (simp only [g1, g2, hRR, hR2, hZZ, hZ2, himg]; rfl)) | refine nl hKF ?_ | refine sq ?_ | refine rg fun KF hKF => ?_ | refine cf rfl ?_ | refine sk ?_
 refine WpO.do (WpX.conD hn rfl rfl (by simp only [↓nrmL, nrmZ, qe, ↓reduceIte, qz, qa, qn, List.map] <;> rfl) (K_SameStaves (hq1.ext Ext0.ext) (hq.ext Ext0.ext) hs hm) fun v H12 h5 => ?_)
 obtain ⟨e1, hx12⟩ := h5
 subst e1
 haveI : ExtI _ H12 := ⟨hx12⟩
 refine tB ?_
 refine mB ?_
 refine oy ?_
 refine Fo.pcall (v' := ?_) hn rfl (by simp only [↓nrmL, nrmZ, qe, ↓reduceIte, qz, qa, qn, List.map]; rfl) rfl ?hv fun _ _ => ?_; case hv => rfl
 refine tB ?_
 refine mB ?_
 refine nl hKF ?_
 refine rt ?_
 dsimp only
 refine rz trivial ?_
 exact ⟨rfl, Ext0.ext⟩
end Go.Am

namespace Go.Proofs.YtpochhefklmnfaaGreat.StaveRuns
open Go.ChangeShapes Go.WideShapes Go.ChangeAt Go.RowKit Go.Am Go.Proofs.YtpochhefklmnfaaGreat.Laid

theorem con (H : AHeap) (avs : List AVal) (ht : tablesIn aroundT H = true) (h : ArgSW Tryz.prog H 5 [24, 25, 3] avs) : Con ext prog 14 3 avs H fun v H' => v = .bool true ∧ Ext H H' := by
  obtain ⟨a0, r0, rfl, h0, a1, r1, rfl, h1, a2, r2, rfl, h2, rfl⟩ := h
  obtain ⟨w0, hh0, p0, l0, rfl, k0, _⟩ := shapeW_img (ti := 3) (ts := 22) (tb := 5) Tryz.underlying24 (by kernel_rfl) Tryz.underlying3 Tryz.underlying22 Tryz.underlying5 (by kernel_rfl) h0
  obtain ⟨q1, m1, c1, l1, rfl, k1, z1⟩ := shapeW_staves Tryz.underlying25 Tryz.underlying59 (by kernel_rfl) Tryz.underlying48 Tryz.underlying53 Tryz.underlying3 (by kernel_rfl) (by kernel_rfl) (by kernel_rfl) (by kernel_rfl) (by kernel_rfl) h1
  obtain ⟨i2, rfl, _⟩ := shapeW_int Tryz.underlying3 h2
  have e0 : argV Tryz.prog 24 [.int .i64 w0, .int .i64 hh0, p0] = .agg [.int .i64 w0, .int .i64 hh0, p0] := by simp only [argV, show aggTy Tryz.prog 24 = true by kernel_rfl, cond_true]
  have e1 : argV Tryz.prog 25 [q1] = q1 := by simp only [argV, show aggTy Tryz.prog 25 = false by kernel_rfl, cond_false, List.headD_cons]
  have e2 : argV Tryz.prog 3 [.int .i64 i2] = .int .i64 i2 := by simp only [argV, show aggTy Tryz.prog 3 = false by kernel_rfl, cond_false, List.headD_cons]
  rw [e0, e1, e2]
  exact K_StaveRuns (w := w0) (h := hh0) (p := p0) (q := q1) (l := l0) (sts := l1) (hp := k0) (hq := k1) z1

theorem contract (H : Type) (enc : TypeId × Value → H) (W : World) (base : Nat) (args : Array Value) (ds gs : List (DataW H)) (before : List MemPlace)
    (hval : ∀ (j : Nat) t v, Tryz.f3.params[j]? = some t → args[j]? = some v → Value.okWide Tryz.prog W .any base t v)
    (hW : DataW.Whole enc Tryz.prog Tryz.f3.params.toList Rows.staveRunsSpec.vars false W args.toList ds gs before) (hz : (DataW.weightsEach Tryz.prog (Tryz.f3.params.toList ++ (OpenSpec.ofChange Rows.staveRunsSpec).bare.plain.varTypes Tryz.prog) (ds ++ gs)).all (· ≤ reachBytes) = true) (hL : laidMetH Tryz.prog Rows.staveRunsRow.laid W) :
    Calls Tryz.prog 3 args W fun e W' => ∃ v, e = .returned v ∧ Rows.staveRunsSpec.post enc Tryz.prog Tryz.f3 false true false false W args v W' := by
  have hW' := hW
  obtain ⟨p, q, hA, _⟩ := hW'
  rw [Tryz.params3] at hA
  obtain ⟨v0, vs0, d0, ds0, p0, q0, _, rfl, _, _, r0⟩ := trodAll_cons hA
  obtain ⟨v1, vs1, d1, ds1, p1, q1, _, rfl, _, _, r1⟩ := trodAll_cons r0
  obtain ⟨v2, vs2, d2, ds2, p2, q2, _, rfl, _, _, r2⟩ := trodAll_cons r1
  obtain ⟨_, rfl, _⟩ := trodAll_nil r2
  exact law_callsW (tb := 4) (n := 5) (d := 14) (tabs := aroundT) mixed progOk Tryz.func3 rfl (by decide +kernel) laidOut rowed full (by kernel_rfl) rfl (by kernel_rfl) Tryz.underlying4 (by kernel_rfl) (by kernel_rfl)
    (fun H avs ht h => con H avs ht (by rw [Tryz.params3] at h; exact h)) H enc W base args _ gs before rfl hval hW (slim_app hz) around_cells

theorem laid_met (os : Os) : laidMet Tryz.prog Rows.staveRunsRow.laid ((laidWorld os).forCall (fun _ _ => 0) ⟨#[], #[.agg #[.int .i64 0, .int .i64 0, .slice none 0 0], .slice none 0 0, .int .i64 0], []⟩).memory :=
  laidMet_of_run' 8 (by kernel_rfl) (by kernel_rfl)
theorem reads (os : Os) {H : Type} (enc : TypeId × Value → H) : ∃ places, DataW.whole enc Tryz.prog ((laidWorld os).forCall (fun _ _ => 0) ⟨#[], #[.agg #[.int .i64 0, .int .i64 0, .slice none 0 0], .slice none 0 0, .int .i64 0], []⟩).memory Tryz.f3.params.toList Rows.staveRunsSpec.vars false #[Value.agg #[.int .i64 0, .int .i64 0, .slice none 0 0], .slice none 0 0, .int .i64 0].toList 8 = some ([.agg [.lit (.int .i64 0), .lit (.int .i64 0), .nil], .nil, .lit (.int .i64 0)], [], places) :=
  ⟨[], by kernel_rfl⟩

theorem lifted (os : Os) (started : os.Started) (H : Type) (enc : TypeId × Value → H) (F : Stop.Interp) :
    ReturnsInHanded {} Tryz.checked os 3 .any ((OpenSpec.ofChange Rows.staveRunsSpec).preRow enc Tryz.prog Tryz.f3 Rows.staveRunsRow.domain false Rows.staveRunsRow.laid) (((OpenSpec.ofChange Rows.staveRunsSpec).at F).post enc Tryz.prog Tryz.f3 false true false false) := by
  obtain ⟨places, hx⟩ := reads os enc
  refine returnsInHanded_of_row (C := Tryz.checked) (s := OpenSpec.ofChange Rows.staveRunsSpec) own started (by kernel_rfl) Tryz.func3
    (witness_row_at (enc := enc) (C := Tryz.checked) false (laidWorld os) #[.agg #[.int .i64 0, .int .i64 0, .slice none 0 0], .slice none 0 0, .int .i64 0] rfl (by kernel_rfl) (by kernel_rfl) (by kernel_rfl)
      (OpenSpec.preRow_of_cond 8 hx (by kernel_rfl) (fun k hk => by cases hk) (by kernel_rfl) (laid_met os))) ?_
  intro W base args ds gs before hval hW _ _ hz hL _ _
  exact contract H enc W base args ds gs before hval hW hz hL

theorem said : Rows.StaveRunsSaid :=
  OpenClaim.holds_of_cond 3 Tryz.f3 rfl rfl rfl rfl rfl rfl rfl ⟨rfl, rfl, rfl, rfl, rfl⟩ rfl rfl rfl rfl rfl (by kernel_rfl) Tryz.func3 (by kernel_rfl)
    (of_decide_eq_true (by kernel_rfl)) (by unfold Func.isWrapper; first | (rw [if_pos (by decide +kernel)]; kernel_rfl) | (rw [if_neg (by decide +kernel)]; exact ⟨rfl, rfl⟩))
    (fun os started H enc _ F => by rw [OpenClaim.pre_eq_preRow]; exact lifted os started H enc F)
end Go.Proofs.YtpochhefklmnfaaGreat.StaveRuns
