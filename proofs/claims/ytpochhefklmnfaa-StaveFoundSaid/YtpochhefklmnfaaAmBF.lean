import Derived.Test.YtpochhefklmnfaaAmBE
set_option linter.unusedSimpArgs false
set_option linter.unusedVariables false
set_option maxHeartbeats 16000000
set_option maxRecDepth 100000
set_option synthInstance.maxHeartbeats 4000000
set_option synthInstance.maxSize 1000000000
namespace Go.Am
open Go
open Nat renaming reduceEqDiff → qe, reduceAdd → qz
open Int renaming reduceBEq → qn, reduceBNe → qq
attribute [local irreducible] Wp WpO WpX WpE
theorem K_nan {a : Int} {H : AHeap} : Con ext prog 1 99 [.int .i64 a] H fun v H' => v = .bool false ∧ Ext H H' := by
 refine con_of (show prog 99 = some c99 from rfl) rfl rfl fun n hn => ?_
 have h1 : (a != a) = false := by simp
 repeat first | refine mI ?_ | refine mB ?_ | refine bn rfl rfl rfl (by simp only [↓nrmL, nrmZ, qe, ↓reduceIte, qz, qn, qq, h1]; rfl) ?_ | refine nl hKF ?_ | refine sq ?_ | refine rg fun KF hKF => ?_ | refine rt ?_ | dsimp only
 refine rz trivial ?_
 exact ⟨rfl, Ext0.ext⟩
theorem K_Compare {a b : Int} {H : AHeap} : Con ext prog 2 62 [.int .i64 a, .int .i64 b] H fun v H' => v = .int .i64 (cmpI a b) ∧ Ext H H' := by
 refine con_of (show prog 62 = some c62 from rfl) rfl rfl fun n hn => ?_
 haveI n1 : ∀ H, PureCon ext prog 99 [.int .i64 a] H 1 (.bool false) := fun H => ⟨K_nan⟩
 haveI n2 : ∀ H, PureCon ext prog 99 [.int .i64 b] H 1 (.bool false) := fun H => ⟨K_nan⟩
 unfold cmpI
 by_cases h1 : a < b
 ·have d1 : decide (a < b) = true := decide_eq_true h1
  rw [if_pos h1]
  repeat first | refine mI ?_ | refine mB ?_ | refine bn rfl rfl rfl (by simp only [↓nrmL, nrmZ, qe, ↓reduceIte, qz, qn, qq, d1]; rfl) ?_ | (refine Fo.pcall (v' := ?_) hn rfl (by simp only [↓nrmL, nrmZ, qe, ↓reduceIte, qz, qn, qq, d1, List.map]; rfl) rfl ?hv fun _ _ => ?_; case hv => rfl) | refine nl hKF ?_ | refine sq ?_ | refine rg fun KF hKF => ?_ | refine ct rfl ?_ | refine cf rfl ?_ | refine sk ?_ | refine rt ?_ | dsimp only
  refine rz trivial ?_
  exact ⟨rfl, Ext0.ext⟩
 ·have d1 : decide (a < b) = false := decide_eq_false h1
  rw [if_neg h1]
  by_cases h2 : a > b
  ·have d2 : decide (a > b) = true := decide_eq_true h2
   rw [if_pos h2]
   repeat first | refine mI ?_ | refine mB ?_ | refine bn rfl rfl rfl (by simp only [↓nrmL, nrmZ, qe, ↓reduceIte, qz, qn, qq, d1, d2]; rfl) ?_ | (refine Fo.pcall (v' := ?_) hn rfl (by simp only [↓nrmL, nrmZ, qe, ↓reduceIte, qz, qn, qq, d1, d2, List.map]; rfl) rfl ?hv fun _ _ => ?_; case hv => rfl) | refine nl hKF ?_ | refine sq ?_ | refine rg fun KF hKF => ?_ | refine ct rfl ?_ | refine cf rfl ?_ | refine sk ?_ | refine rt ?_ | dsimp only
   refine rz trivial ?_
   exact ⟨rfl, Ext0.ext⟩
  ·have d2 : decide (a > b) = false := decide_eq_false h2
   rw [if_neg h2]
   repeat first | refine mI ?_ | refine mB ?_ | refine bn rfl rfl rfl (by simp only [↓nrmL, nrmZ, qe, ↓reduceIte, qz, qn, qq, d1, d2]; rfl) ?_ | (refine Fo.pcall (v' := ?_) hn rfl (by simp only [↓nrmL, nrmZ, qe, ↓reduceIte, qz, qn, qq, d1, d2, List.map]; rfl) rfl ?hv fun _ _ => ?_; case hv => rfl) | refine nl hKF ?_ | refine sq ?_ | refine rg fun KF hKF => ?_ | refine cf rfl ?_ | refine sk ?_ | refine rt ?_ | dsimp only
   refine rz trivial ?_
   exact ⟨rfl, Ext0.ext⟩
theorem K_cmp {p q : AVal} {H : AHeap} {l m : List Int} (hp : IntsI H p l) (hq : IntsI H q m) (h1 : 0 < l.length) (h2 : 0 < m.length) : Con ext prog 3 61 [p, q] H fun v H' => v = .int .i64 (cmpI (l.getD 0 0) (m.getD 0 0)) ∧ Ext H H' := by
 refine con_of (show prog 61 = some c61 from rfl) rfl rfl fun n hn => ?_
 haveI := hp
 haveI := hq
 haveI := hp.one
 haveI := hq.one
 have g1 : l[0] = l.getD 0 0 := (getD_at h1).symm
 have g2 : m[0] = m.getD 0 0 := (getD_at h2).symm
 haveI : ∀ H, PureCon ext prog 62 [.int .i64 (l.getD 0 0), .int .i64 (m.getD 0 0)] H 2 (.int .i64 (cmpI (l.getD 0 0) (m.getD 0 0))) := fun H => ⟨K_Compare⟩
 refine sq ?_
 refine rg fun KF hKF => ?_
 refine mI ?_
 refine nl hKF ?_
 refine sq ?_
 refine Fr.dregion0 rfl fun KF hKF => ?_
 repeat first | refine Fe.pure rfl rfl (by simp only [↓nrmL, nrmZ, qe, ↓reduceIte, qz, qn, qq, g1, g2]; rfl) ?_ | (refine Fe.pure rfl (exec_idxP (by (try simp only [↓nrmL, nrmZ, qe, ↓reduceIte, qz, qn, qq, g1, g2]); rfl) rfl ?_) (by simp only [↓nrmL, nrmZ, qe, ↓reduceIte, qz, qn, qq, g1, g2]; rfl) ?_; (focus omega)) | refine Er rfl (exec_ldI rfl (by omega)) (by simp only [↓nrmL, nrmZ, qe, ↓reduceIte, qz, qn, qq, g1, g2]; rfl) ?_ | (refine Fe.pcall (v' := ?_) rfl hn rfl (by simp only [↓nrmL, nrmZ, qe, ↓reduceIte, qz, qn, qq, g1, g2, List.map]; rfl) rfl ?hv fun _ _ => ar ?_; case hv => rfl) | refine WpE.nil (hKF _ _ ?_)
 refine rt ?_
 dsimp only
 refine rz trivial ?_
 exact ⟨rfl, Ext0.ext⟩
theorem K_insert {H0 H : AHeap} {p : AVal} {n a b : Nat} {F : FuncId} {U : AVal → Prop} {K : AVal → Int} {cs : List AVal} (hU : SrtU ext prog H0 p F U K) (hs : SrtS H0 p n U cs H) (hab : a ≤ b) (hb : b ≤ n) (hn40 : n ≤ 2 ^ 40) : Con ext prog 9 114 [p, .int .i64 (a : Int), .int .i64 (b : Int), .func (.func F) [] []] H fun _ H' => ∃ cs', SrtS H0 p n U cs' H' ∧ Pm a b cs cs' ∧ Srd K cs' a b := by
 refine con_of (show prog 114 = some c114 from rfl) rfl rfl fun N hn => ?_
 haveI := hs.sl.one
 have e0 := wa1 (a := a) (by omega)
 refine sq ?_
 refine rg fun KF hKF => ?_
 refine mI ?_
 refine bn rfl rfl rfl (by simp only [↓nrmL, nrmZ, qe, ↓reduceIte, qz, qn, qq, e0]; rfl) ?_
 refine mI ?_
 refine nl hKF ?_
 refine Wp.block ?_
 dsimp only
 refine Wp.loopS (σ := Nat × List AVal) [8, 9, 12, 13, 14, 15, 16, 17, 18, 19, 20, 21, 22, 23, 24, 25, 26, 27, 28, 29, 30, 31, 32, 33, 34, 35, 36, 37, 38, 39, 40, 41, 42, 43, 44, 45, 46, 47, 48, 49, 50, 51, 52] (fun s => [(8, .int .i64 (s.1 : Int))]) (fun _ s H2 => a + 1 ≤ s.1 ∧ (s.1 ≤ b ∨ s.1 = a + 1) ∧ SrtS H0 p n U s.2 H2 ∧ Pm a b cs s.2 ∧ Srd K s.2 a s.1) (fun s => b + 1 - s.1) (a + 1, cs) rfl (fun _ => rfl) ⟨rfl, trivial⟩ ⟨Nat.le_refl _, Or.inr rfl, hs, Pm.refl _ _ _, fun i j h1 h2 h3 => by dsimp only at h3; omega⟩ (by unfold fuel0 at hn; dsimp only; omega) ?_
 rintro ⟨i, cs1⟩ g H2 ⟨h1, h2, hs1, hp1, hsr1⟩
 dsimp only at h1 h2 hs1 hp1 hsr1
 simp only [↓nrmL, nrmZ, qe, ↓reduceIte, qz, qn, qq]
 cases hc : decide ((i : Int) < (b : Int))
 ·have hib := of_decide_eq_false hc
  refine sq ?_
  refine sq ?_
  refine rg fun KF hKF => ?_
  refine mI ?_
  refine mI ?_
  refine bn rfl rfl rfl (by simp only [↓nrmL, nrmZ, qe, ↓reduceIte, qz, qn, qq, hc]; rfl) ?_
  refine nl hKF ?_
  refine cf rfl ?_
  refine xi ?_
  dsimp only
  refine rz trivial ?_
  refine ⟨cs1, hs1, hp1, fun s t q1 q2 q3 => hsr1 s t q1 q2 (by omega)⟩
 have hib : i < b := by have := of_decide_eq_true hc; omega
 have e1 := wa1 (a := i) (by omega)
 repeat first | refine mI ?_ | refine bn rfl rfl rfl (by simp only [↓nrmL, nrmZ, qe, ↓reduceIte, qz, qn, qq, hc]; rfl) ?_ | refine nl hKF ?_ | refine sq ?_ | refine rg fun KF hKF => ?_ | refine ct rfl ?_ | refine sk ?_ | refine Wp.block ?_ | dsimp only
 refine Wp.loopS (σ := Nat × List AVal) [9, 18, 19, 20, 21, 22, 23, 24, 25, 26, 27, 28, 29, 30, 31, 32, 33, 34, 35, 36, 37, 38, 39, 40, 41, 42, 43, 44, 45, 46, 47, 48, 49, 50, 51, 52] (fun s => [(9, .int .i64 (s.1 : Int))]) (fun _ s H3 => a ≤ s.1 ∧ s.1 ≤ i ∧ SrtS H0 p n U s.2 H3 ∧ Pm a b cs s.2 ∧ InsS K s.2 a i s.1) (fun s => s.1) (i, cs1) rfl (fun _ => rfl) ⟨rfl, trivial⟩ ⟨by dsimp only; omega, Nat.le_refl _, hs1, hp1, InsS.start hsr1⟩ (by unfold fuel0 at hn; dsimp only; omega) ?_
 rintro ⟨j, cs2⟩ g2 H3 ⟨k1, k2, hs2, hp2, hin⟩
 dsimp only at k1 k2 hs2 hp2 hin
 haveI := hs2.sl
 haveI := hs2.wr
 have hl2 := hs2.len
 simp only [↓nrmL, nrmZ, qe, ↓reduceIte, qz, qn, qq]
 by_cases hja : j = a
 ·subst hja
  have hg : decide ((j : Int) > (j : Int)) = false := decide_eq_false (by omega)
  refine sq ?_
  refine sq ?_
  refine Fr.dregion0 rfl fun KF hKF => ?_
  repeat first | refine Fe.pure rfl rfl (by simp only [↓nrmL, nrmZ, qe, ↓reduceIte, qz, qn, qq, hg]; rfl) ?_ | refine Fe.skip rfl ?_ | refine WpE.nil (hKF _ _ ?_)
  simp only [e1]
  refine cf rfl ?_
  refine xi ?_
  refine rg fun KF hKF => ?_
  refine mI ?_
  refine bn rfl rfl rfl (by simp only [↓nrmL, nrmZ, qe, ↓reduceIte, qz, qn, qq, e1]; rfl) ?_
  refine mI ?_
  refine nl hKF ?_
  dsimp only
  exact ⟨(i + 1, cs2), by dsimp only; omega, ⟨rfl, trivial⟩, by dsimp only; omega, by dsimp only; omega, hs2, hp2, hin.done k1 (Or.inl rfl)⟩
 have hja' : a < j := by omega
 have hg : decide ((j : Int) > (a : Int)) = true := decide_eq_true (by omega)
 obtain ⟨j0, hj0⟩ : ∃ j0, j = j0 + 1 := ⟨j - 1, by omega⟩
 have e2 : IntKind.i64.wrap ((j : Int) - 1) = (j0 : Int) := by rw [w64 (by omega)]; omega
 have hj1 : j < cs2.length := by omega
 have hj2 : j0 < cs2.length := by omega
 have c1 := cAt_some hj1
 have c2 := cAt_some hj2
 have u1 := hs2.mem j (by omega)
 have u2 := hs2.mem j0 (by omega)
 haveI := hU.one _ u1
 haveI := hU.one _ u2
 have hjn : j < n := by omega
 have hj0n : j0 < n := by omega
 haveI : ∀ H', ExtP0 H3 H' p → PureCon ext prog F [cAt cs2 j, cAt cs2 j0] H' 8 (.int .i64 (cmpI (K (cAt cs2 j)) (K (cAt cs2 j0)))) := fun H' hx => hU.cmp H' (hs2.ex.trans hx.ext) _ _ u1 u2
 haveI : PureCon ext prog F [cAt cs2 j, cAt cs2 j0] H3 8 (.int .i64 (cmpI (K (cAt cs2 j)) (K (cAt cs2 j0)))) := hU.cmp H3 hs2.ex _ _ u1 u2
 refine sq ?_
 refine sq ?_
 refine Fr.dregion0 rfl fun KF hKF => ?_
 repeat first | refine Fe.pure rfl rfl (by simp only [↓nrmL, nrmZ, qe, ↓reduceIte, qz, qn, qq, hg]; rfl) ?_ | (refine Fe.pure rfl (exec_idxP (by (try simp only [↓nrmL, nrmZ, qe, ↓reduceIte, qz, qn, qq, hg]); rfl) rfl ?_) (by simp only [↓nrmL, nrmZ, qe, ↓reduceIte, qz, qn, qq, hg]; rfl) ?_; (focus omega))
 refine Fe.read rfl (exec_ldP (p := p) (j := j) rfl c1) rfl trivial ?_
 simp only [↓nrmL, nrmZ, qe, ↓reduceIte, qz, qn, qq, e2]
 repeat first | refine Fe.pure rfl rfl (by simp only [↓nrmL, nrmZ, qe, ↓reduceIte, qz, qn, qq, e2]; rfl) ?_ | (refine Fe.pure rfl (exec_idxP (by (try simp only [↓nrmL, nrmZ, qe, ↓reduceIte, qz, qn, qq, e2]); rfl) rfl ?_) (by simp only [↓nrmL, nrmZ, qe, ↓reduceIte, qz, qn, qq, e2]; rfl) ?_; (focus omega))
 refine Fe.read rfl (exec_ldP (p := p) (j := j0) rfl c2) rfl trivial ?_
 cases hlt : decide (K (cAt cs2 j) < K (cAt cs2 j0))
 ·have hc2 : decide (cmpI (K (cAt cs2 j)) (K (cAt cs2 j0)) < 0) = false := by rw [cmpI_neg]; exact hlt
  simp only [↓nrmL, nrmZ, qe, ↓reduceIte, qz, qn, qq, hc2]
  repeat first | refine Fe.pure rfl rfl (by simp only [↓nrmL, nrmZ, qe, ↓reduceIte, qz, qn, qq, hc2]; rfl) ?_ | (refine Fe.pcall (v' := ?_) rfl hn rfl (by simp only [↓nrmL, nrmZ, qe, ↓reduceIte, qz, qn, qq, hc2, List.map]; rfl) rfl ?hv fun _ _ => ar ?_; case hv => rfl) | refine WpE.nil (hKF _ _ ?_)
  rename AHeap => H4
  rename ExtI H3 H4 => hx4
  simp only [e1]
  refine cf rfl ?_
  refine xi ?_
  refine rg fun KF hKF => ?_
  refine mI ?_
  refine bn rfl rfl rfl (by simp only [↓nrmL, nrmZ, qe, ↓reduceIte, qz, qn, qq, e1]; rfl) ?_
  refine mI ?_
  refine nl hKF ?_
  dsimp only
  refine ⟨(i + 1, cs2), by dsimp only; omega, ⟨rfl, trivial⟩, by dsimp only; omega, by dsimp only; omega, hs2.ext hx4.ext, hp2, hin.done k1 (Or.inr ?_)⟩
  rw [show j - 1 = j0 by omega]
  exact of_decide_eq_false hlt
 have hc2 : decide (cmpI (K (cAt cs2 j)) (K (cAt cs2 j0)) < 0) = true := by rw [cmpI_neg]; exact hlt
 simp only [↓nrmL, nrmZ, qe, ↓reduceIte, qz, qn, qq, hc2]
 repeat first | refine Fe.pure rfl rfl (by simp only [↓nrmL, nrmZ, qe, ↓reduceIte, qz, qn, qq, hc2]; rfl) ?_ | (refine Fe.pcall (v' := ?_) rfl hn rfl (by simp only [↓nrmL, nrmZ, qe, ↓reduceIte, qz, qn, qq, hc2, List.map]; rfl) rfl ?hv fun _ _ => ar ?_; case hv => rfl) | refine WpE.nil (hKF _ _ ?_)
 rename AHeap => H4
 rename ExtI H3 H4 => hx4
 have hs4 := hs2.ext hx4.ext
 refine ct rfl ?_
 refine sk ?_
 refine sq ?_
 refine Wp.block ?_
 dsimp only
 refine Fr.dregion0 rfl fun KF hKF => ?_
 repeat first | refine Fe.pure rfl rfl (by simp only [↓nrmL, nrmZ, qe, ↓reduceIte, qz, qn, qq, e2]; rfl) ?_ | (refine Fe.pure rfl (exec_idxP (by (try simp only [↓nrmL, nrmZ, qe, ↓reduceIte, qz, qn, qq, e2]); rfl) rfl ?_) (by simp only [↓nrmL, nrmZ, qe, ↓reduceIte, qz, qn, qq, e2]; rfl) ?_; (focus omega))
 refine Fe.read rfl (exec_ldP (p := p) (j := j0) rfl c2) rfl trivial ?_
 refine Fe.pure rfl rfl (by simp only [↓nrmL, nrmZ, qe, ↓reduceIte, qz, qn, qq]; rfl) ?_
 refine Fe.pure rfl rfl (by simp only [↓nrmL, nrmZ, qe, ↓reduceIte, qz, qn, qq]; rfl) ?_
 refine Fe.pure rfl (exec_idxP (by (try simp only [↓nrmL, nrmZ, qe, ↓reduceIte, qz, qn, qq]); rfl) rfl ?_) (by simp only [↓nrmL, nrmZ, qe, ↓reduceIte, qz, qn, qq]; rfl) ?_; (focus omega)
 refine Fe.read rfl (exec_ldP (p := p) (j := j) rfl c1) rfl trivial ?_
 refine Fe.pure rfl (exec_idxP (by (try simp only [↓nrmL, nrmZ, qe, ↓reduceIte, qz, qn, qq]); rfl) rfl ?_) (by simp only [↓nrmL, nrmZ, qe, ↓reduceIte, qz, qn, qq]; rfl) ?_; (focus omega)
 refine WpE.stC (p := p) (j := j) (v := cAt cs2 j0) rfl rfl rfl hj1 fun H5 q1 q2 q3 => ar ?_
 refine Fe.pure rfl (exec_idxP (by (try simp only [↓nrmL, nrmZ, qe, ↓reduceIte, qz, qn, qq]); rfl) rfl ?_) (by simp only [↓nrmL, nrmZ, qe, ↓reduceIte, qz, qn, qq]; rfl) ?_; (focus omega)
 refine WpE.stC (p := p) (j := j0) (v := cAt cs2 j) rfl rfl rfl (by rw [List.length_set]; exact hj2) fun H6 q4 q5 q6 => ar ?_
 refine WpE.nil (hKF _ _ ?_)
 simp only [e2]
 refine rg fun KF hKF => ?_
 refine mI ?_
 refine bn rfl rfl rfl (by simp only [↓nrmL, nrmZ, qe, ↓reduceIte, qz, qn, qq, e2]; rfl) ?_
 refine mI ?_
 refine nl hKF ?_
 dsimp only
 have e3 : swp cs2 j (j - 1) = (cs2.set j (cAt cs2 j0)).set j0 (cAt cs2 j) := by unfold swp; rw [show j - 1 = j0 by omega]
 exact ⟨(j0, swp cs2 j (j - 1)), by dsimp only; omega, ⟨rfl, trivial⟩, by dsimp only; omega, by dsimp only; omega, hs4.swp hjn (by omega) (by rw [e3]; exact q4) q5 (q3.trans q6), hp2.trans (Pm.swp (by omega) (by omega) (by omega)), by
  have := hin.step hja' k2 (by omega) (by rw [show j - 1 = j0 by omega]; exact of_decide_eq_true hlt)
  rwa [show j - 1 = j0 by omega] at this ⊢⟩
end Go.Am

namespace Go.Am
open Go
open Nat renaming reduceEqDiff → qe, reduceAdd → qz
open Int renaming reduceBEq → qn, reduceBNe → qq
attribute [local irreducible] Wp WpO WpX WpE
theorem Fo.byteOf2 {call : ACall} {fr : AFrame} {H : AHeap} {KF : AFrame → AHeap → Prop} {os : List ROper} {d : Nat} {x i : ROpd} {s : ByteArray} {k : IntKind} {j : Nat} (hx : x.ev fr = .str s) (hi : i.ev fr = .int k (j : Int)) (hj : j < s.size) (ha : ((List.range s.size).all fun t => t == 0 || s.get! t != 0) = true) (h : ∀ b : UInt8, (0 < j → 0 < b.toNat) → WpO call os (upd fr d (.int .u8 (b.toNat : Int))) H KF) : WpO call (⟨some d, .indexStr x i, none⟩ :: os) fr H KF := by
 have h0 : (0 : Int) ≤ (j : Int) := by omega
 refine Fo.now rfl (show (ROp.indexStr x i).exec call fr H = some (.int .u8 (s[j].toNat : Int), H) from ?_) rfl (h s[j] fun hj0 => ?_)
 ·simp only [ROp.exec, hx, hi, aIndexStr, if_pos h0, Int.toNat_natCast, getElem?_pos s j hj, M.ofOption, M.pure]
 ·have h1 := List.all_eq_true.1 ha j (List.mem_range.2 hj)
  have e : s.get! j = s[j] := by
   unfold ByteArray.get!
   exact getElem!_pos s.data j hj
  rw [e] at h1
  have h2 : s[j] ≠ 0 := by
   rcases Bool.or_eq_true _ _ ▸ h1 with q | q
   ·simp at q; omega
   ·simpa using q
  have h3 : s[j].toNat ≠ 0 := fun q => h2 (UInt8.toNat_inj.1 (by rw [q]; rfl))
  omega
theorem K_Len64 {x : Nat} {H : AHeap} (hx : x < 256) : Con ext prog 1 123 [.int .u64 (x : Int)] H fun v H' => (∃ k : Nat, v = .int .i64 (k : Int) ∧ k < 256 ∧ (0 < x → 0 < k)) ∧ Ext H H' := by
 refine con_of (show prog 123 = some c123 from rfl) rfl rfl fun n hn => ?_
 have d1 : decide ((x : Int) ≥ 4294967296) = false := decide_eq_false (by omega)
 have d2 : decide ((x : Int) ≥ 65536) = false := decide_eq_false (by omega)
 have d3 : decide ((x : Int) ≥ 256) = false := decide_eq_false (by omega)
 have w1 : IntKind.u8.wrap (x : Int) = (x : Int) := by
  have e : ((x : Int) % 256) = (x : Int) := Int.emod_eq_of_lt (by omega) (by omega)
  show (x : Int) % (2 ^ 8 : Int) = x
  simpa using e
 simp only [d1, d2, d3, w1]
 repeat first | refine mI ?_ | refine bn rfl rfl rfl (by simp only [d1, d2, d3, w1]; rfl) ?_ | refine Fo.now rfl rfl (by simp only [d1, d2, d3, w1]; rfl) ?_ | refine nl hKF ?_ | refine sq ?_ | refine rg fun KF hKF => ?_ | refine cf rfl ?_ | refine sk ?_
 refine Fo.byteOf2 (k := .u8) (j := x) rfl rfl hx (by decide +kernel) fun b hb0 => ?_
 have hb2 := b.toNat_lt
 have w2 : IntKind.i64.wrap (b.toNat : Int) = (b.toNat : Int) := w64 (by omega)
 have w3 : IntKind.i64.wrap (0 + (b.toNat : Int)) = (b.toNat : Int) := by rw [Int.zero_add]; exact w2
 refine Fo.now rfl rfl (by simp only [w2, w3]; rfl) ?_
 refine bn rfl rfl rfl (by simp only [w2, w3]; rfl) ?_
 refine mI ?_
 refine nl hKF ?_
 refine rt ?_
 dsimp only
 refine rz trivial ?_
 exact ⟨⟨b.toNat, rfl, hb2, hb0⟩, Ext0.ext⟩
theorem K_Len {x : Nat} {H : AHeap} (hx : x < 256) : Con ext prog 2 98 [.int .u64 (x : Int)] H fun v H' => (∃ k : Nat, v = .int .i64 (k : Int) ∧ k < 256 ∧ (0 < x → 0 < k)) ∧ Ext H H' := by
 refine con_of (show prog 98 = some c98 from rfl) rfl rfl fun n hn => ?_
 repeat first | refine mI ?_ | refine nl hKF ?_ | refine sq ?_ | refine rg fun KF hKF => ?_ | refine cf rfl ?_ | refine sk ?_
 refine WpO.do (WpX.conD hn rfl rfl (by simp only [↓nrmL, nrmZ, qe, ↓reduceIte, qz, qn, qq, List.map] <;> rfl) (K_Len64 hx) fun v H3 h5 => ?_)
 obtain ⟨⟨k, rfl, hk⟩, hx3⟩ := h5
 haveI : ExtI _ H3 := ⟨hx3⟩
 refine mI ?_
 refine nl hKF ?_
 refine rt ?_
 dsimp only
 refine rz trivial ?_
 exact ⟨⟨k, rfl, hk⟩, Ext0.ext⟩
abbrev PdqP (H0 : AHeap) (p : AVal) (n : Nat) (F : FuncId) (U : AVal → Prop) (K : AVal → Int) (D : Nat) (cs : List AVal) : Prop := ∀ (H : AHeap) (L : Nat), L < 256 → (0 < n → 0 < L) → SrtS H0 p n U cs H → Con ext prog D 97 [p, .int .i64 0, .int .i64 (n : Int), .int .i64 (L : Int), .func (.func F) [] []] H fun _ H' => ∃ cs', SrtS H0 p n U cs' H' ∧ Pm 0 n cs cs' ∧ Srd K cs' 0 n
theorem K_pdqSmall {H0 : AHeap} {p : AVal} {n : Nat} {F : FuncId} {U : AVal → Prop} {K : AVal → Int} (hU : SrtU ext prog H0 p F U K) {cs : List AVal} (hn12 : n ≤ 12) : PdqP H0 p n F U K 10 cs := by
 intro H L _ _ hs
 refine con_of (show prog 97 = some c97 from rfl) rfl rfl fun N hn => ?_
 haveI := hs.sl.one
 have w1 : IntKind.i64.wrap ((n : Int) - 0) = (n : Int) := by rw [Int.sub_zero]; exact w64 (by omega)
 have d1 : decide ((n : Int) ≤ 12) = true := decide_eq_true (by omega)
 repeat first | refine mB ?_ | refine nl hKF ?_ | refine sq ?_ | refine rg fun KF hKF => ?_ | refine Wp.block ?_ | dsimp only
 refine Wp.loopS [1, 2, 3, 10, 11, 12, 13, 14, 15, 16, 17, 18, 19, 20, 21, 22, 23, 24, 25, 26, 27, 28, 29, 30, 31, 32, 33, 34, 35, 36, 37, 38, 39, 40, 41, 42, 43, 44, 45, 46, 47, 48, 49, 50, 51, 52, 53, 54, 55, 56, 57, 58, 59, 60, 61, 62, 63, 64, 65, 66, 67, 68, 69, 70, 71, 72, 73, 74, 75, 76, 77, 78, 79, 80, 81, 82, 83, 84, 85, 86, 87, 88, 89, 90, 91, 92, 93, 94, 95, 96, 97, 98, 99, 100, 101, 102, 103, 104, 105, 106, 107, 108, 109, 110, 111, 112, 113, 114, 115, 116, 117, 118, 119, 120, 121, 122, 123, 124, 125, 126, 127, 128, 129, 130, 131, 132, 133, 134, 135, 136, 137, 138, 139, 140, 141, 142, 143, 144, 145, 146, 147] (fun _ : Unit => [(1, .int .i64 0), (2, .int .i64 (n : Int))]) (fun _ _ H2 => H2 = H) (fun _ => 0) () rfl (fun _ => rfl) ⟨rfl, rfl, trivial⟩ rfl (by unfold fuel0 at hn; omega) ?_
 rintro _ g H2 rfl
 simp only [↓nrmL, nrmZ, qe, ↓reduceIte, qz, qn, qq]
 repeat first | refine mI ?_ | refine mF ?_ | refine mv ?_ | refine bn rfl rfl rfl (by simp only [w1, d1]; rfl) ?_ | refine nl hKF ?_ | refine sq ?_ | refine rg fun KF hKF => ?_ | refine ct rfl ?_ | refine Wp.block ?_
 refine WpO.do (WpX.conD hn rfl rfl (by simp only [↓nrmL, nrmZ, qe, ↓reduceIte, qz, qn, qq, List.map] <;> rfl) (K_insert (a := 0) (b := n) hU hs (Nat.zero_le _) (Nat.le_refl _) (by omega)) fun v H3 h5 => ?_)
 obtain ⟨cs', a1, a2, a3⟩ := h5
 refine nl hKF ?_
 refine rt ?_
 dsimp only
 refine rz trivial ?_
 exact ⟨cs', a1, a2, a3⟩
theorem K_SortFunc {H0 H : AHeap} {p : AVal} {n D : Nat} {F : FuncId} {U : AVal → Prop} {K : AVal → Int} {cs : List AVal} (hs : SrtS H0 p n U cs H) (hn : n < 256) (hp : PdqP H0 p n F U K D cs) (hD : 2 ≤ D) : Con ext prog (D + 1) 60 [p, .func (.func F) [] []] H fun _ H' => ∃ cs', SrtS H0 p n U cs' H' ∧ Pm 0 n cs cs' ∧ Srd K cs' 0 n := by
 refine con_of (show prog 60 = some c60 from rfl) rfl rfl fun N hN => ?_
 haveI := hs.sl
 haveI := hs.sl.one
 have hl := hs.len
 have w1 : IntKind.u64.wrap (n : Int) = (n : Int) := by
  show (n : Int) % (2 ^ 64 : Int) = n
  omega
 repeat first | refine mI ?_ | refine mv ?_ | refine ln (by simp only [↓nrmL, nrmK, qe, ↓reduceIte]; rfl) ?_ | refine Fo.now rfl rfl (by simp only [w1]; rfl) ?_ | refine nl hKF ?_ | refine sq ?_ | refine rg fun KF hKF => ?_
 refine WpO.do (WpX.con (K_Len hn) (Nat.le_trans (Nat.add_le_add_left hD _) hN) rfl (by simp only [↓nrmL, nrmZ, qe, ↓reduceIte, qz, qn, qq, List.map] <;> rfl) fun v H3 h5 => ?_)
 obtain ⟨⟨k, rfl, hk, hk0⟩, hx3⟩ := h5
 have hs3 := hs.ext hx3
 haveI : ExtI _ H3 := ⟨hx3⟩
 refine mF ?_
 refine WpO.do (WpX.con (hp H3 k hk hk0 hs3) hN rfl (by simp only [↓nrmL, nrmZ, qe, ↓reduceIte, qz, qn, qq, List.map] <;> rfl) fun v H4 h6 => ?_)
 refine nl hKF ?_
 dsimp only
 refine rz trivial ?_
 exact h6
end Go.Am

namespace Go.Am
open Go
open Nat renaming reduceEqDiff → qe, reduceAdd → qz
open Int renaming reduceBEq → qn, reduceBNe → qq
attribute [local irreducible] Wp WpO WpX WpE
def lineQ (w : Nat) (q : Nat → Nat) : List Int := (List.range w).map fun x => (q x : Int)
theorem lineQ_len (w : Nat) (q : Nat → Nat) : (lineQ w q).length = w := by simp [lineQ]
theorem lineQ_at {w x : Nat} {q : Nat → Nat} (hx : x < w) : (lineQ w q).getD x 0 = (q x : Int) := by
 rw [getD_at (by rw [lineQ_len]; exact hx)]
 simp [lineQ]
structure TrD (l : List UInt8) (w h : Nat) (qs' : List (Nat → Nat)) : Prop where
 it : ∃ qs P, TrR l w h qs P ∧ (60 ≤ qs.length ∨ (w : Int) < 8 * leastP P w h) ∧ qs'.length = qs.length ∧ (∀ i (hi : i < qs'.length), ∃ j, ∃ (hj : j < qs.length), qs'[i] = qs[j]) ∧ (∀ j (hj : j < qs.length), ∃ i, ∃ (hi : i < qs'.length), qs'[i] = qs[j]) ∧ (∀ i j (hi : i < qs'.length) (hj : j < qs'.length), i < j → qs'[i] 0 < qs'[j] 0)
def keyH (H : AHeap) (v : AVal) : Int := match v with
 | .slice r off _ _ _ => (match H.get r with
  | .row cs _ _ => (match cs[off]? with | some (.int _ z) => z | _ => 0)
  | _ => 0)
 | _ => 0
theorem keyH_row {H : AHeap} {r n : Nat} {c : Option Nat} {l : List Int} {w : Bool} {e : TypeId} (h : HasRow H r (cellsI l) w e) (h0 : 0 < l.length) : keyH H (.slice r 0 n c 1) = l.getD 0 0 := by
 have e1 : (cellsI l)[0]? = some (.int .i64 (l.getD 0 0)) := by
  rw [getD_at h0]; simp [cellsI, h0]
 simp only [keyH, h.get, e1]
abbrev SortT (w h : Nat) (l : List UInt8) (D : Nat) : Prop := ∀ (qs : List (Nat → Nat)) (P : List Int), TrR l w h qs P → ∀ (H0 : AHeap) (p : AVal) (U : AVal → Prop) (K : AVal → Int) (cs : List AVal), SrtU ext prog H0 p 61 U K → (∀ j, j < qs.length → K (cAt cs j) = ((qs.getD j id) 0 : Int)) → (∀ i j, i < j → j < qs.length → K (cAt cs i) ≠ K (cAt cs j)) → PdqP H0 p qs.length 61 U K D cs
theorem K_sortEnd {w h D B : Nat} {l : List UInt8} {qs : List (Nat → Nat)} {P : List Int} {H2 : AHeap} {op : AVal} {cells : List AVal} (hw0 : 0 < w) (hD : 10 ≤ D) (hI : TrI l w h qs P) (hT : TrR l w h qs P) (hE : 60 ≤ qs.length ∨ (w : Int) < 8 * leastP P w h) (hsort : SortT w h l D)
  (ho : OwnS H2 op 1 qs.length cells 25) (hL : Lns H2 cells (qs.map (lineQ w)) B) : Con ext prog (D + 1) 60 [op, .func (.func 61) [] []] H2 fun _ H' => ∃ qs', LinesI H' op (qs'.map (lineQ w)) ∧ TrD l w h qs' ∧ ExtP H2 H' op := by
 have hlen : cells.length = qs.length := by rw [hL.len, List.length_map]
 have hrow : ∀ j (hj : j < qs.length), ∃ rj, cAt cells j = .slice rj 0 w (some w) 1 ∧ HasRow H2 rj (cellsI (lineQ w qs[j])) true (2 * 3) := fun j hj => by
  obtain ⟨rj, a1, a2, a3⟩ := hL.it j (by rw [List.length_map]; exact hj)
  rw [List.getElem_map] at a1 a2
  rw [lineQ_len] at a1
  exact ⟨rj, by rw [cAt_some (by omega)] at a1; exact Option.some.inj a1, a2⟩
 have hne : ∀ {rj : Nat} {l : List Int}, HasRow H2 rj (cellsI l) true (2 * 3) → RowNe op rj := fun k => ho.tne k.get (by decide)
 have hK : ∀ j (hj : j < qs.length), keyH H2 (cAt cells j) = (qs[j] 0 : Int) := fun j hj => by
  obtain ⟨rj, a1, a2⟩ := hrow j hj
  rw [a1, keyH_row a2 (by rw [lineQ_len]; exact hw0), lineQ_at hw0]
 have hU : SrtU ext prog H2 op 61 (fun v => ∃ j, j < qs.length ∧ v = cAt cells j) (keyH H2) := by
  refine ⟨fun H' hx x y ⟨i, hi, ex⟩ ⟨j, hj, ey⟩ => ?_, fun x ⟨i, hi, ex⟩ => ?_⟩
  ·obtain ⟨ri, a1, a2⟩ := hrow i hi
   obtain ⟨rj, b1, b2⟩ := hrow j hj
   have kx : keyH H2 x = (lineQ w qs[i]).getD 0 0 := by rw [ex, a1, keyH_row a2 (by rw [lineQ_len]; exact hw0)]
   have ky : keyH H2 y = (lineQ w qs[j]).getD 0 0 := by rw [ey, b1, keyH_row b2 (by rw [lineQ_len]; exact hw0)]
   have r1 : HasRow H' ri (cellsI (lineQ w qs[i])) true (2 * 3) := ⟨Nat.lt_of_lt_of_le a2.lt hx.n, by rw [hx.get ri a2.lt (hne a2)]; exact a2.get⟩
   have r2 : HasRow H' rj (cellsI (lineQ w qs[j])) true (2 * 3) := ⟨Nat.lt_of_lt_of_le b2.lt hx.n, by rw [hx.get rj b2.lt (hne b2)]; exact b2.get⟩
   rw [kx, ky, ex, ey, a1, b1]
   refine ⟨fun m hm => ?_⟩
   exact K_cmp (row_ints r1 (lineQ_len w _)) (row_ints r2 (lineQ_len w _)) (by rw [lineQ_len]; exact hw0) (by rw [lineQ_len]; exact hw0) m (by omega)
  ·obtain ⟨ri, a1, a2⟩ := hrow i hi
   rw [ex, a1]
   exact inferInstance
 have hS : SrtS H2 op qs.length (fun v => ∃ j, j < qs.length ∧ v = cAt cells j) cells H2 := ⟨ho.sl, ho.wr, ExtP.refl _ _, fun j hj => ⟨j, hj, rfl⟩⟩
 have hdist : ∀ i j, i < j → j < qs.length → keyH H2 (cAt cells i) ≠ keyH H2 (cAt cells j) := fun i j hij hj => by
  rw [hK i (by omega), hK j hj]
  have := hI.apart i j (by omega) hj 0 hw0 hij
  unfold near at this
  omega
 have hmany := hI.many
 refine (K_SortFunc hS (by omega) (hsort qs P hT H2 op _ _ cells hU (fun j hj => by rw [hK j hj, List.getD_eq_getElem?_getD, List.getElem?_eq_getElem hj]; rfl) hdist) (by omega)).mono fun v H' h5 => ?_
 obtain ⟨cs', hS', hPm, hSr⟩ := h5
 obtain ⟨f, g, p1, p2, p3, p4, p5⟩ := hPm.it
 have hf : ∀ i, i < qs.length → f i < qs.length := fun i hi => (p5 i (Nat.zero_le _) hi).2
 have hg : ∀ i, i < qs.length → g i < qs.length := fun i hi => by
  by_cases hc : g i < qs.length
  ·exact hc
  ·have := p4 (g i) (Or.inr (by omega))
   rw [p2] at this; omega
 obtain ⟨qs', hqs⟩ : ∃ qs' : List (Nat → Nat), (List.range qs.length).map (fun i => qs.getD (f i) id) = qs' := ⟨_, rfl⟩
 have hl' : qs'.length = qs.length := by rw [← hqs]; simp
 have hq' : ∀ i (hi : i < qs'.length) (hi2 : f i < qs.length), qs'[i] = qs[f i] := fun i hi hi2 => by
  subst hqs
  simp [List.getElem?_eq_getElem hi2]
 refine ⟨qs', ?_, ⟨qs, P, hT, hE, hl', fun i hi => ⟨f i, hf i (by omega), hq' i hi (hf i (by omega))⟩, fun j hj => ⟨g j, by rw [hl']; exact hg j hj, by
  have := hq' (g j) (by rw [hl']; exact hg j hj) (by rw [p2]; exact hj)
  rw [this]
  congr 1
  exact p2 j⟩, fun i j hi hj hij => ?_⟩, hS'.ex⟩
 ·refine ⟨cs', by rw [List.length_map, hl']; exact hS'.sl, ⟨fun i hi => ?_⟩⟩
  rw [List.length_map] at hi
  obtain ⟨rj, a1, a2⟩ := hrow (f i) (hf i (by omega))
  have hcl := hS'.len
  have r1 : HasRow H' rj (cellsI (lineQ w (qs[f i]'(hf i (by omega))))) true (2 * 3) := ⟨Nat.lt_of_lt_of_le a2.lt hS'.ex.n, by rw [hS'.ex.get rj a2.lt (hne a2)]; exact a2.get⟩
  refine ⟨.slice rj 0 w (some w) 1, by rw [cAt_some (by omega), p1, a1], ?_⟩
  rw [List.getElem_map, hq' i hi (hf i (by omega))]
  exact row_ints r1 (lineQ_len w _)
 ·have hi2 := hf i (by omega)
  have hj2 := hf j (by omega)
  have h7 := hSr i j (Nat.zero_le _) hij (by omega)
  rw [p1, p1, hK (f i) hi2, hK (f j) hj2] at h7
  rw [hq' i hi hi2, hq' j hj hj2]
  have hne2 : f i ≠ f j := fun e => by
   have : g (f i) = g (f j) := by rw [e]
   rw [p3, p3] at this; omega
  rcases Nat.lt_or_gt_of_ne hne2 with h8 | h8
  ·have := hI.apart _ _ hi2 hj2 0 hw0 h8
   unfold near at this; omega
  ·have := hI.apart _ _ hj2 hi2 0 hw0 h8
   unfold near at this; omega
theorem K_TraceOk {w h D : Nat} {p : AVal} {H : AHeap} {l : List UInt8} [hp : BytesI H p l] (ok : Ok w h l) (hw0 : 0 < w) (hh0 : 0 < h) (hD : 10 ≤ D) (hsort : SortT w h l D) : Con ext prog (D + 2) 18 [.agg [.int .i64 (w : Int), .int .i64 (h : Int), p]] H fun v H' => ∃ q qs', v = .tuple [q, .int .i64 0] ∧ LinesI H' q (qs'.map (lineQ w)) ∧ TrD l w h qs' ∧ Ext H H' := by
 refine con_of (show prog 18 = some c18 from rfl) rfl rfl fun n hnD => ?_
 have hn : fuel0 + 10 ≤ n := by omega
 haveI := hp.one
 have he := ok.err
 have hl := ok.len
 have hw := ok.wa
 have hh := ok.hb
 have hm : w * h ≤ 640 * 640 := Nat.mul_le_mul hw hh
 have hwh : 0 < w * h := Nat.mul_pos hw0 hh0
 have hl0 : (((l.length : Nat) : Int) == 0) = false := by simp; intro e; rw [e] at hl; simp at hl; omega
 repeat first | refine mI ?_ | refine mN ?_ | refine fd ?_ | refine Fo.ld rfl rfl ?_ | refine Fo.ldN rfl rfl (by simp only [↓nrmL, nrmZ, qe, ↓reduceIte, qz, qn, qq, he, hl0]; rfl) ?_ | refine bn rfl rfl rfl (by simp only [↓nrmL, nrmZ, qe, ↓reduceIte, qz, qn, qq, he, hl0]; rfl) ?_ | (refine Fo.pcall (v' := ?_) hn rfl (by simp only [↓nrmL, nrmZ, qe, ↓reduceIte, qz, qn, qq, he, hl0, List.map]; rfl) rfl ?hv fun _ _ => ?_; case hv => (simp only [↓nrmL, nrmZ, qe, ↓reduceIte, qz, qn, qq, he, hl0]; rfl)) | refine ln (by simp only [↓nrmL, nrmK, qe, ↓reduceIte]; rfl) ?_ | refine bA ?_ | refine nl hKF ?_ | refine sq ?_ | refine rg fun KF hKF => ?_ | refine cf rfl ?_ | refine sk ?_
 rename AHeap => H1
 have hx01 : Ext H H1 := Ext0.ext
 have hb1 : BytesI H1 p l := inferInstance
 refine WpO.do (WpX.conD hn rfl rfl (by simp only [↓nrmL, nrmZ, qe, ↓reduceIte, qz, qn, qq, List.map] <;> rfl) (K_survey (w := w) (h := h) (p := p) (l := l) hb1 hw hh hl) fun v Hs h5 => ?_)
 obtain ⟨rp, rr, rfl, hg, hrp0, hrr0, hxs⟩ := h5
 have hx0s := hx01.trans hxs
 haveI : ExtI H Hs := ⟨hx0s⟩
 have nrp := hg.kp.lt
 have nrr := hg.kr.lt
 have n01 := hx01.n
 have nne := hg.ne
 have kp := hg.kp
 have kr := hg.kr
 refine nw ?_
 refine so rfl (rfl : _ = AVal.agg _) rfl rfl rfl (by simp only [↓nrmL, nrmZ, qe, ↓reduceIte, qz, qn, qq]; rfl) ?_
 refine nl hKF ?_
 refine sq ?_
 refine rg fun KF hKF => ?_
 refine mN ?_
 refine nl hKF ?_
 refine sq ?_
 refine Wp.block ?_
 dsimp only
 refine Wp.loopS (σ := List (Nat → Nat) × AVal) [6, 7, 19, 20, 21, 22, 23, 24, 25, 26, 27, 28, 29, 30, 31, 32, 33, 34, 35, 36, 37, 38] (fun s => [(6, s.2)]) (fun _ s H2 => ∃ P R cells, TrR l w h s.1 P ∧ HasRow H2 rp (cellsI P) true (2 * 3) ∧ HasRow H2 rr (cellsI R) true (2 * 3) ∧ R.length = w * h ∧ HasRow H2 Hs.n [.int .i64 (w : Int), .int .i64 (h : Int), .slice rp 0 (w * h) (some (w * h)) 1, .slice rr 0 (w * h) (some (w * h)) 1] true (2 * 83) ∧ OwnS H2 s.2 1 s.1.length cells 25 ∧ Lns H2 cells (s.1.map (lineQ w)) Hs.n ∧ Ext H H2 ∧ (∀ r off len cap sz, s.2 = .slice r off len cap sz → Hs.n ≤ r)) (fun s => 60 - s.1.length) ([], .nslice) rfl (fun _ => rfl) ⟨rfl, trivial⟩ ⟨surL l w h, List.replicate (w * h) 0, [], TrR.nil, inferInstance, inferInstance, List.length_replicate, inferInstance, ⟨Or.inl ⟨rfl, rfl, rfl⟩⟩, ⟨rfl, fun j hj => by cases hj⟩, Ext0.ext, fun r off len cap sz e => by cases e⟩ (by unfold fuel0 at hn; dsimp only; omega) ?_
 have hend : ∀ (H2 H3 : AHeap) (op : AVal), Ext H H2 → ExtP H2 H3 op → (∀ r off len cap sz, op = .slice r off len cap sz → Hs.n ≤ r) → Ext H H3 := fun H2 H3 op a b c => ⟨Nat.le_trans a.n b.n, fun r hr => by rw [b.get r (Nat.lt_of_lt_of_le hr a.n) ⟨fun r' _ _ _ _ e => by have := c _ _ _ _ _ e; have := hx0s.n; omega⟩, a.get r hr]⟩
 rintro ⟨qs, op⟩ g H2 ⟨P, R, cells, hT, kp2, kr2, hRl, kg2, ho, hL, hx2, hfo⟩
 dsimp only at hT ho hL hfo
 have hI := tr_inv hw0 hw hh0 hT
 haveI := kg2
 haveI := ho.sl
 haveI := ho.sl.one
 have n2 := hx2.n
 have nHs := kg2.lt
 simp only [↓nrmL, nrmZ, qe, ↓reduceIte, qz, qn, qq]
 by_cases h60 : qs.length = 60
 ·have hc : decide (((qs.length : Nat) : Int) < 60) = false := decide_eq_false (by omega)
  refine sq ?_
  refine sq ?_
  refine Fr.dregion0 rfl fun KF hKF => ?_
  repeat first | refine Fe.pure rfl (exec_lenP (by (try simp only [↓nrmL, nrmZ, qe, ↓reduceIte, qz, qn, qq, hc]); rfl)) rfl ?_ | refine Fe.pure rfl rfl (by simp only [↓nrmL, nrmZ, qe, ↓reduceIte, qz, qn, qq, hc]; rfl) ?_ | refine Fe.skip rfl ?_ | refine WpE.nil (hKF _ _ ?_)
  refine cf rfl ?_
  refine xi ?_
  refine sq ?_
  refine rg fun KF hKF => ?_
  refine mv ?_
  refine WpO.do (WpX.con (K_sortEnd hw0 hD hI hT (Or.inl (by omega)) hsort ho hL) hnD rfl (by simp only [↓nrmL, nrmZ, qe, ↓reduceIte, qz, qn, qq, List.map] <;> rfl) fun v H3 h6 => ?_)
  obtain ⟨qs', b1, b2, b3⟩ := h6
  repeat first | refine mI ?_ | refine mv ?_ | refine nl hKF ?_ | refine sq ?_ | refine rg fun KF hKF => ?_ | refine rt ?_ | dsimp only
  refine rz trivial ?_
  exact ⟨op, qs', rfl, b1, b2, hend H2 H3 op hx2 b3 hfo⟩
 have h60' : qs.length < 60 := by have := hI.many; omega
 have hc : decide (((qs.length : Nat) : Int) < 60) = true := decide_eq_true (by omega)
 haveI : RowNe (rrV w h rr) Hs.n := ⟨fun r _ _ _ _ e => by cases e; omega⟩
 haveI := kp2
 haveI := kr2
 have hop2 : RowNe op rr := ho.tne kr2.get (by decide)
 have hop3 : RowNe op rp := ho.tne kp2.get (by decide)
 refine sq ?_
 refine sq ?_
 refine Fr.dregion0 rfl fun KF hKF => ?_
 repeat first | refine Er rfl (exec_ldN rfl rfl (by simp only [↓nrmL, nrmZ, qe, ↓reduceIte, qz, qn, qq, hc]; rfl)) rfl ?_ | refine Fe.pure rfl (exec_lenP (by (try simp only [↓nrmL, nrmZ, qe, ↓reduceIte, qz, qn, qq, hc]); rfl)) rfl ?_ | refine Fe.pure rfl rfl (by simp only [↓nrmL, nrmZ, qe, ↓reduceIte, qz, qn, qq, hc]; rfl) ?_
 refine Fe.con rfl hn rfl rfl (by simp only [↓nrmL, nrmZ, qe, ↓reduceIte, qz, qn, qq, List.map] <;> rfl) (K_measure hw hh hw0 hh0 hI.pos ⟨kp2, kr2, hI.len, hRl, nne⟩) fun v H3 h6 => ?_
 obtain ⟨rfl, hg3, hx3⟩ := h6
 rw [show mnL (colL (restL P w h) h 0) (h - 1) = leastP P w h from rfl]
 obtain ⟨M, hM⟩ : ∃ M, leastP P w h = M := ⟨_, rfl⟩
 rw [hM]
 have hMr : 0 ≤ M ∧ M ≤ 3840 := by
  obtain ⟨y, _, y2⟩ := least_in (P := P) hw0 hh0
  rw [← hM, ← y2]
  exact ⟨rest_pos (hI.pos.pos h) _ _, rest_max (hI.pos.pos h) _ _⟩
 have eM : IntKind.i64.wrap (8 * M) = 8 * M := w64 (by omega)
 haveI := hx3
 haveI := hg3.kp
 haveI := hg3.kr
 haveI : SepS op (rrV w h rr) := ⟨fun r _ _ _ _ r' _ _ _ _ e e' => by cases e'; exact hop2.ne _ _ _ _ _ e⟩
 haveI := ho
 have ho3 : OwnS H3 op 1 qs.length cells 25 := inferInstance
 have hL3 : Lns H3 cells (qs.map (lineQ w)) Hs.n := hL.keep hx3.n fun s cs hs hB hg => hx3.get s hs ⟨fun r _ _ _ _ e => by cases e; omega⟩
 have hx03 : Ext H H3 := ⟨Nat.le_trans hx2.n hx3.n, fun r hr => by rw [hx3.get r (Nat.lt_of_lt_of_le hr hx2.n) ⟨fun r' _ _ _ _ e => by cases e; omega⟩, hx2.get r hr]⟩
 have n3 := hx3.n
 refine ar ?_
 cases hcM : decide (8 * M ≤ (w : Int))
 ·have hcM2 := of_decide_eq_false hcM
  simp only [↓nrmL, nrmZ, qe, ↓reduceIte, qz, qn, qq, eM, hcM]
  repeat first | refine Er rfl (exec_ld rfl rfl) rfl ?_ | refine Fe.pure rfl rfl (by simp only [↓nrmL, nrmZ, qe, ↓reduceIte, qz, qn, qq, eM, hcM]; rfl) ?_ | refine WpE.nil (hKF _ _ ?_)
  refine cf rfl ?_
  refine xi ?_
  refine sq ?_
  refine rg fun KF hKF => ?_
  refine mv ?_
  refine WpO.do (WpX.con (K_sortEnd hw0 hD hI hT (Or.inr (by rw [hM]; omega)) hsort ho3 hL3) hnD rfl (by simp only [↓nrmL, nrmZ, qe, ↓reduceIte, qz, qn, qq, List.map] <;> rfl) fun v H4 h6 => ?_)
  obtain ⟨qs', b1, b2, b3⟩ := h6
  haveI := ho3.sl.one
  repeat first | refine mI ?_ | refine mv ?_ | refine nl hKF ?_ | refine sq ?_ | refine rg fun KF hKF => ?_ | refine rt ?_ | dsimp only
  refine rz trivial ?_
  exact ⟨op, qs', rfl, b1, b2, hend H3 H4 op hx03 b3 hfo⟩
 have hcM2 := of_decide_eq_true hcM
 simp only [↓nrmL, nrmZ, qe, ↓reduceIte, qz, qn, qq, eM, hcM]
 repeat first | refine Er rfl (exec_ld rfl rfl) rfl ?_ | refine Fe.pure rfl rfl (by simp only [↓nrmL, nrmZ, qe, ↓reduceIte, qz, qn, qq, eM, hcM]; rfl) ?_ | refine WpE.nil (hKF _ _ ?_)
 refine ct rfl ?_
 refine sk ?_
 refine Wp.block ?_
 refine sq ?_
 refine rg fun KF hKF => ?_
 refine Fo.ldN rfl rfl (by simp only [↓nrmL, nrmZ, qe, ↓reduceIte, qz, qn, qq]; rfl) ?_
 refine WpO.do (WpX.conD hn rfl rfl (by simp only [↓nrmL, nrmZ, qe, ↓reduceIte, qz, qn, qq, List.map] <;> rfl) (K_follow hw hh hw0 hh0 hI.pos hg3 (by rw [show mnL (colL (restL P w h) h 0) (h - 1) = leastP P w h from rfl, hM]; omega)) fun v H4 h7 => ?_)
 obtain ⟨y0, hy0, hy1, hy2, ⟨rq, rfl, hkq, hrq⟩, hx4⟩ := h7
 rw [show mnL (colL (restL P w h) h 0) (h - 1) = leastP P w h from rfl] at hy1 hy2
 haveI : ExtI H3 H4 := ⟨hx4⟩
 have hpth := fol_path (hI.pos.pos h) hh0 hy0 (by rw [hy1, hM]; omega)
 have n4 := hx4.n
 have nrq := hkq.lt
 haveI := hkq
 refine mv ?_
 refine nl hKF ?_
 refine sq ?_
 refine rg fun KF hKF => ?_
 refine Fo.ldN rfl rfl (by simp only [↓nrmL, nrmZ, qe, ↓reduceIte, qz, qn, qq]; rfl) ?_
 refine mv ?_
 have kp4 : HasRow H4 rp (cellsI P) true (2 * 3) := inferInstance
 obtain ⟨q, hq⟩ : ∃ q, folF (priF P h) w h y0 = q := ⟨_, rfl⟩
 have epl : pathL P w h y0 = lineQ w q := by unfold pathL lineQ; rw [hq]
 rw [epl] at hkq
 rw [hq] at hpth
 refine WpO.do (WpX.conD hn rfl rfl (by simp only [↓nrmL, nrmZ, qe, ↓reduceIte, qz, qn, qq, List.map] <;> rfl) (K_forbid (q := q) hw hh hw0 hh0 hI.len kp4 hkq (by omega) (lineQ_len w q) (fun x hx => ⟨lineQ_at hx, hpth.row x hx⟩)) fun v H5 h8 => ?_)
 obtain ⟨kp5, hx5⟩ := h8
 haveI := kp5
 haveI := hx5
 haveI : RowNe (rrV w h rp) Hs.n := ⟨fun r _ _ _ _ e => by cases e; omega⟩
 haveI : RowNe (rrV w h rp) rr := ⟨fun r _ _ _ _ e => by cases e; omega⟩
 haveI : RowNe (rrV w h rp) rq := ⟨fun r _ _ _ _ e => by cases e; omega⟩
 haveI : SepS op (rrV w h rp) := ⟨fun r _ _ _ _ r' _ _ _ _ e e' => by cases e'; exact hop3.ne _ _ _ _ _ e⟩
 haveI ho4 : OwnS H4 op 1 qs.length cells 25 := inferInstance
 have ho5 : OwnS H5 op 1 qs.length cells 25 := inferInstance
 have kq5 : HasRow H5 rq (cellsI (lineQ w q)) true (2 * 3) := ⟨Nat.lt_of_lt_of_le hkq.lt hx5.n, by rw [hx5.get rq hkq.lt inferInstance]; exact hkq.get⟩
 have hL4 : Lns H4 cells (qs.map (lineQ w)) Hs.n := hL3.keep hx4.n fun s cs hs hB hg => hx4.get s hs
 have hL5 : Lns H5 cells (qs.map (lineQ w)) Hs.n := hL4.keep hx5.n fun s cs hs hB hg => hx5.get s hs ⟨fun r _ _ _ _ e => by cases e; omega⟩
 have hx04 := hx03.trans hx4
 have hx05 : Ext H H5 := ⟨Nat.le_trans hx04.n hx5.n, fun r hr => by rw [hx5.get r (Nat.lt_of_lt_of_le hr hx04.n) ⟨fun r' _ _ _ _ e => by cases e; omega⟩, hx04.get r hr]⟩
 have n5 := hx5.n
 haveI := ho5.sl.one
 refine nl hKF ?_
 refine rg fun KF hKF => ?_
 refine mv ?_
 refine mv ?_
 refine Fo.bslice rfl (by simp only [↓nrmL, nrmZ, qe, ↓reduceIte, qz, qn, qq]; rfl) ?_
 refine WpO.do (WpX.growX (p := op) (q := .slice H5.n 0 1 (some 1) 1) (k := 1) (new := [.slice rq 0 w (some w) 1]) rfl rfl (by infer_instance) (row_one1 (inferInstance : HasRow _ H5.n [.slice rq 0 w (some w) 1] true (2 * 25))) (by decide) (by decide) (by decide) (by omega) (by rfl) fun op' H9 ho2 hf2 hx9 => ?_)
 haveI := ho2.sl.one
 haveI := hx9
 refine mv ?_
 refine nl hKF ?_
 dsimp only
 have n9 := hx9.n
 simp only [AHeap.push] at n9
 have kr5 : HasRow H5 rr (cellsI (restL P w h)) true (2 * 3) := inferInstance
 have kg5 : HasRow H5 Hs.n [.int .i64 (w : Int), .int .i64 (h : Int), .slice rp 0 (w * h) (some (w * h)) 1, .slice rr 0 (w * h) (some (w * h)) 1] true (2 * 83) := inferInstance
 haveI : RowNe op rp := ho5.tne kp5.get (by decide)
 haveI : RowNe op rr := ho5.tne kr5.get (by decide)
 haveI : RowNe op Hs.n := ho5.tne kg5.get (by decide)
 have keep : ∀ s cs, s < H5.n → H5.get s = .row cs true (2 * 3) → H9.get s = H5.get s := fun s cs hs hg => by
  rw [hx9.get s (by simp only [AHeap.push]; omega) (ho5.tne hg (by decide)), push_get_lt hs]
 have hL9 : Lns H9 cells (qs.map (lineQ w)) Hs.n := hL5.keep (by omega) fun s cs hs hB hg => keep s cs hs hg
 have kq9 : HasRow H9 rq (cellsI (lineQ w q)) true (2 * 3) := ⟨by have := kq5.lt; omega, by rw [keep rq _ kq5.lt kq5.get]; exact kq5.get⟩
 have hsn := hL9.snoc kq9 (by omega)
 rw [lineQ_len] at hsn
 have hfo5 : Ext H H9 := ⟨by omega, fun r hr => by
  rw [hx9.get r (by simp only [AHeap.push]; omega) ⟨fun r' _ _ _ _ e => by have := hfo _ _ _ _ _ e; omega⟩, push_get_lt (by omega), hx05.get r hr]⟩
 refine ⟨(qs ++ [q], op'), by dsimp only; rw [List.length_append]; simp only [List.length_singleton]; omega, ⟨rfl, trivial⟩, forA P q w h, restL P w h, cells ++ [.slice rq 0 w (some w) 1], ?_, inferInstance, inferInstance, rest_len _ _ _, inferInstance, ?_, ?_, hfo5, fun r _ _ _ _ e => by have := hf2.ge _ _ _ _ _ e; simp only [AHeap.push] at this; omega⟩
 ·rw [← hq]
  exact TrR.snoc hT h60' (by rw [hM]; exact hcM2) hy0 hy1 hy2
 ·dsimp only
  rw [List.length_append, List.length_singleton]
  exact ho2
 ·dsimp only
  rw [List.map_append]
  exact hsn
end Go.Am

namespace Go.Am
open Go
end Go.Am

namespace Go.Am
open Go
section
variable {call : ACall} {its : List DItem} {H0 : AHeap} {n ref : Nat} {E : List (Nat × AHeap)} {Rd : List (Nat × (AHeap → Bool))} {fr : AFrame} {H : AHeap} {K : AFrame → AHeap → Prop} {g : Option (Nat × Bool)} {b : Nat} {pre : Bool}
theorem WpE.grow {d : Option Nat} {e : TypeId} {x y : ROpd} {p q : AVal} {sz m k bytes : Nat} {cs new : List AVal} (hw : ROper.wanted fr ⟨d, .append e sz bytes x y, g⟩ = true) (hx : x.ev fr = p) (hy : y.ev fr = q) [h : OwnS H p sz m cs e] [hq : SliceAt H q sz k new] (hsz : 0 < sz) (hb : 0 < bytes) (hk : 0 < k) (hroom : 2 * (m + k) * bytes ≤ 2 ^ 48) (hone : new.all AVal.one = true)
    (hK : ∀ p' H', OwnS H' p' sz (m + k) (cs ++ new) e → FreshS H p' → ExtP H H' p → AllR b H' Rd ∧ WpE call (n + 1) ref its H0 ((n, H) :: E) Rd (put fr d p') H' K) : WpE call n ref (⟨⟨d, .append e sz bytes x y, g⟩, b, 2, pre⟩ :: its) H0 E Rd fr H K := by
  obtain ⟨p', H1, h1, h2, h3, h4⟩ := WpX.grow (call := call) (K := fun v H1 => OwnS H1 v sz (m + k) (cs ++ new) e ∧ FreshS H v ∧ ExtP H H1 p) hx hy hsz hb hk hroom hone fun p' H' q1 q2 q3 => ⟨q1, q2, q3⟩
  obtain ⟨h5, h6⟩ := hK p' H1 h2 h3 h4
  exact WpE.effect hw h1 h5 h6
end
theorem exec_bs {call : ACall} {fr : AFrame} {H : AHeap} {e : TypeId} {sz len : Nat} {zero : List AVal} {parts : List (Nat × Nat × ROpd)} {cs : List AVal} (hf : aFill fr zero parts = some cs) : (ROp.buildSlice e sz len zero parts).exec call fr H = some (.slice H.n 0 len (some len) sz, H.push (.row cs true (2 * e))) := by simp only [ROp.exec, hf, M.bind, aNew, M.pure]
theorem exec_stW {call : ACall} {fr : AFrame} {H : AHeap} {a x : ROpd} {r off : Nat} {cs l : List AVal} {e : TypeId} {v : AVal} (ha : a.ev fr = .ptr r off) (hx : x.ev fr = v) [o : OneV v] [hg : HasRow H r cs true e] (hl : Nat.ble (off + 1) cs.length = true) (hs : cs.set off v = l) : (ROp.store 1 a x).exec call fr H = some (aundef, H.set r (.row l true e)) := by
  obtain ⟨u, H1, q1, rfl, rfl⟩ := WpX.store (call := call) (fr := fr) (H := H) (n := 1) (K := fun u H1 => u = aundef ∧ H1 = H.set r (.row (setAt cs off v.cells) true e)) ha hx (by rw [o.cells]; rfl) hg.lt hg.get (by rw [o.cells]; exact Nat.le_of_ble_eq_true hl) (by rw [o.cells, List.all_cons, o.one]; rfl) ⟨rfl, rfl⟩
  rw [o.cells, setAt_one, hs] at q1
  exact q1
end Go.Am

namespace Go.Am
open Go
theorem no_cross {w h : Nat} {p q : Nat → Nat} (hp : PathF w h p) (hq : PathF w h q) (hn : ∀ x, x < w → ¬ near p x (q x)) (h0 : p 0 < q 0) : ∀ x, x < w → p x + 3 ≤ q x
  | 0, hx => by have := hn 0 hx; unfold near at this; omega
  | x + 1, hx => by
    have ih := no_cross hp hq hn h0 x (by omega)
    have h1 := hp.near x hx
    have h2 := hq.near x hx
    have h3 := hn (x + 1) hx
    unfold near at h3
    omega
theorem TrI.apart2 {l : List UInt8} {w h : Nat} {qs : List (Nat → Nat)} {P : List Int} (hI : TrI l w h qs P) {i j : Nat} (hi : i < qs.length) (hj : j < qs.length) (hne : i ≠ j) {x : Nat} (hx : x < w) : ¬ near qs[i] x (qs[j] x) := by
  rcases Nat.lt_or_gt_of_ne hne with h1 | h1
  · exact hI.apart i j hi hj x hx h1
  · have := hI.apart j i hj hi x hx h1
    unfold near at *
    omega
theorem TrD.lines {l : List UInt8} {w h : Nat} {qs' : List (Nat → Nat)} (hw : 0 < w) (hw640 : w ≤ 640) (hh : 0 < h) (hD : TrD l w h qs') : (∀ i (hi : i < qs'.length), PathF w h qs'[i] ∧ 8 * costF (fun x y => prB l (y * w + x)) w qs'[i] (w - 1) ≤ (w : Int)) ∧ ∀ i j (hi : i < qs'.length) (hj : j < qs'.length), i < j → ∀ x, x < w → qs'[i] x + 3 ≤ qs'[j] x := by
  obtain ⟨qs, P, hT, hE, hl, h1, h2, h3⟩ := hD.it
  have hI := tr_inv hw hw640 hh hT
  have a1 : ∀ i (hi : i < qs'.length), PathF w h qs'[i] ∧ 8 * costF (fun x y => prB l (y * w + x)) w qs'[i] (w - 1) ≤ (w : Int) := fun i hi => by
    obtain ⟨j, hj, e⟩ := h1 i hi
    rw [e]
    obtain ⟨m, m1, m2⟩ := hI.cheap j hj
    exact ⟨hI.path j hj, by rw [m2]; exact m1⟩
  refine ⟨a1, fun i j hi hj hij x hx => ?_⟩
  refine no_cross (a1 i hi).1 (a1 j hj).1 (fun t ht => ?_) (h3 i j hi hj hij) x hx
  obtain ⟨i2, hi2, e1⟩ := h1 i hi
  obtain ⟨j2, hj2, e2⟩ := h1 j hj
  have hne : i2 ≠ j2 := fun e => by
    subst e
    have := h3 i j hi hj hij
    rw [e1, e2] at this; omega
  rw [e1, e2]
  exact hI.apart2 hi2 hj2 hne ht
theorem TrR.first {l : List UInt8} {w h : Nat} {qs : List (Nat → Nat)} {P : List Int} (hw : 0 < w) (hw640 : w ≤ 640) (hh : 0 < h) (hT : TrR l w h qs P) {p : Nat → Nat} (hp : PathF w h p) : (qs = [] → P = surL l w h) ∧ ∀ (h0 : 0 < qs.length), costF (fun x y => prB l (y * w + x)) w qs[0] (w - 1) ≤ costF (fun x y => prB l (y * w + x)) w p (w - 1) := by
  induction hT with
  | nil => exact ⟨fun _ => rfl, fun h0 => by cases h0⟩
  | @snoc qs P y0 hT0 hl hm hy hr hf ih =>
    refine ⟨fun e => by simp at e, fun h0 => ?_⟩
    by_cases hq : 0 < qs.length
    · rw [List.getElem_append_left hq]; exact ih.2 hq
    · have hq0 : qs = [] := List.eq_nil_of_length_eq_zero (by omega)
      subst hq0
      have hP0 := ih.1 rfl
      subst hP0
      have hI := tr_inv hw hw640 hh hT0
      have hP := hI.pos.pos h
      simp only [List.nil_append, List.getElem_cons_zero]
      have hlt : restF (priF (surL l w h) h) w h (w - 1) y0 < 1920 := by rw [hr]; omega
      have hpath := fol_path hP hh hy hlt
      have hcost := fol_cost hP hh hy hlt (w - 1) (by omega)
      rw [Nat.sub_self] at hcost
      have hc0 : folF (priF (surL l w h) h) w h y0 0 = y0 := rfl
      rw [hc0, hr] at hcost
      have c1 : ∀ q : Nat → Nat, PathF w h q → costF (priF (surL l w h) h) w q (w - 1) = costF (fun x y => prB l (y * w + x)) w q (w - 1) := fun q hq => cost_congr (fun x hx => surL_at hx (hq.row x hx)) (w - 1) (by omega)
      rw [← c1 _ hpath, ← c1 _ hp, hcost]
      have h5 := rest_le (P := priF (surL l w h) h) hp (w - 1) (by omega)
      have h6 := least_le (P := surL l w h) hw (hp.row 0 hw)
      rw [Nat.sub_self] at h5
      omega
theorem TrD.least {l : List UInt8} {w h : Nat} {qs' : List (Nat → Nat)} (hw : 0 < w) (hw640 : w ≤ 640) (hh : 0 < h) (hh170 : h ≤ 170) (hD : TrD l w h qs') {p : Nat → Nat} (hp : PathF w h p) : (qs'.length = 0 → (w : Int) < 8 * costF (fun x y => prB l (y * w + x)) w p (w - 1)) ∧ (0 < qs'.length → ∃ i, ∃ (hi : i < qs'.length), costF (fun x y => prB l (y * w + x)) w qs'[i] (w - 1) ≤ costF (fun x y => prB l (y * w + x)) w p (w - 1)) := by
  obtain ⟨qs, P, hT, hE, hl, h1, h2, h3⟩ := hD.it
  have hI := tr_inv hw hw640 hh hT
  have hF := hT.first hw hw640 hh hp
  constructor
  · intro e
    have hq0 : qs = [] := List.eq_nil_of_length_eq_zero (by omega)
    have hP0 := hF.1 hq0
    subst hq0 hP0
    rcases hE with hE | hE
    · simp at hE
    · have c1 : costF (priF (surL l w h) h) w p (w - 1) = costF (fun x y => prB l (y * w + x)) w p (w - 1) := cost_congr (fun x hx => surL_at hx (hp.row x hx)) (w - 1) (by omega)
      have h5 := rest_le (P := priF (surL l w h) h) hp (w - 1) (by omega)
      have h6 := least_le (P := surL l w h) hw (hp.row 0 hw)
      rw [Nat.sub_self] at h5
      omega
  · intro e
    obtain ⟨i, hi, e2⟩ := h2 0 (by omega)
    exact ⟨i, hi, by rw [e2]; exact hF.2 (by omega)⟩
def LastI (H : AHeap) (p : AVal) (l : List Int) : Prop := OwnS H p 1 l.length (cellsI l) 3 ∨ ∃ r e, p = .slice r 0 l.length (some l.length) 1 ∧ HasRow H r (cellsI l) true e ∧ 0 < l.length
theorem LastI.ints {H : AHeap} {p : AVal} {l : List Int} (h : LastI H p l) : IntsI H p l := by
  rcases h with h | ⟨r, e, rfl, h2, h3⟩
  · exact h.sl
  · exact ⟨Or.inr ⟨r, 0, some l.length, cellsI l, true, e, rfl, h2.lt, h2.get, by rw [cellsI_length]; omega, by rw [List.drop_zero, Nat.mul_one, ← cellsI_length l, List.take_length], Nat.le_refl _⟩⟩
theorem LastI.ext {H H' : AHeap} {p : AVal} {l : List Int} (h : LastI H p l) (x : Ext H H') : LastI H' p l := by
  haveI : ExtI H H' := ⟨x⟩
  rcases h with h | ⟨r, e, rfl, h2, h3⟩
  · exact Or.inl inferInstance
  · exact Or.inr ⟨r, e, rfl, inferInstance, h3⟩
section
variable {call : ACall} {its : List DItem} {H0 : AHeap} {n ref : Nat} {E : List (Nat × AHeap)} {Rd : List (Nat × (AHeap → Bool))} {fr : AFrame} {H : AHeap} {K : AFrame → AHeap → Prop} {g : Option (Nat × Bool)} {b : Nat} {pre : Bool}
end
end Go.Am

namespace Go.Am
open Go
def btF (bd : Nat → Nat) (w : Nat) : Nat → Int
  | 0 => 0
  | d + 1 => (bd (w - 1 - (d + 1)) : Int) + btF bd w d
structure Lin (pr : Nat → Nat → Int) (w h N : Nat) (r : Nat → Nat → Nat) (bd : Nat → Nat) : Prop where
  pos : PosP pr
  off : ∀ x y, x < w → y < h → (∃ t, t < N ∧ r t x = y) ∨ 2 ≤ pr x y
  path : ∀ t, t < N → PathF w h (r t)
  apart : ∀ t t', t < t' → t' < N → ∀ x, x < w → r t x + 6 ≤ r t' x
  bend : ∀ t, t < N → ∀ x, x + 1 < w → chg (r t x) (r t (x + 1)) = (bd x : Int)
  one : ∀ x, bd x ≤ 1
  sep : ∀ x, x + 2 < w → bd x = 0 ∨ bd (x + 1) = 0
section
variable {pr : Nat → Nat → Int} {w h N : Nat} {r : Nat → Nat → Nat} {bd : Nat → Nat}
theorem bt_bd (h1 : ∀ x, bd x ≤ 1) : ∀ d, 0 ≤ btF bd w d ∧ btF bd w d ≤ (d : Int)
  | 0 => by simp [btF]
  | d + 1 => by
    have := bt_bd h1 d
    have := h1 (w - 1 - (d + 1))
    simp only [btF]; omega
theorem Lin.two (L : Lin pr w h N r bd) {t t' x : Nat} (ht : t < N) (ht' : t' < N) (hx : x < w) (h1 : r t x ≤ r t' x + 5) (h2 : r t' x ≤ r t x + 5) : t = t' := by
  rcases Nat.lt_trichotomy t t' with c | c | c
  · have := L.apart t t' c ht' x hx; omega
  · exact c
  · have := L.apart t' t c ht x hx; omega
def FreeL (pr : Nat → Nat → Int) (r : Nat → Nat → Nat) (w N d y : Nat) : Prop := ∃ t, t < N ∧ r t (w - 1 - d) = y ∧ ∀ e, e ≤ d → pr (w - 1 - e) (r t (w - 1 - e)) = 0
theorem Lin.low (L : Lin pr w h N r bd) (hw : w ≤ 640) (hh : 0 < h) : ∀ d y, d < w → y < h → btF bd w d ≤ restF pr w h d y ∧ (restF pr w h d y = btF bd w d → FreeL pr r w N d y) ∧ ((∀ t, t < N → r t (w - 1 - d) ≠ y) → btF bd w d + 1 ≤ restF pr w h d y ∧ (d = 0 ∨ bd (w - 1 - d) = 0 → btF bd w d + 2 ≤ restF pr w h d y))
  | 0, y, hd, hy => by
    simp only [restF, btF, Nat.sub_zero]
    have hp := (L.pos.it (w - 1) y).1
    refine ⟨hp, fun e => ?_, fun hne => ?_⟩
    · rcases L.off (w - 1) y (by omega) hy with ⟨t, ht, e2⟩ | e2
      · refine ⟨t, ht, e2, fun e' he => ?_⟩
        obtain rfl : e' = 0 := by omega
        rw [Nat.sub_zero, e2]; exact e
      · omega
    · rcases L.off (w - 1) y (by omega) hy with ⟨t, ht, e2⟩ | e2
      · exact absurd e2 (hne t ht)
      · omega
  | d + 1, y, hd, hy => by
    obtain ⟨x, hx⟩ : ∃ x, w - 1 - (d + 1) = x := ⟨_, rfl⟩
    have hx1 : w - 1 - d = x + 1 := by omega
    have hb := bt_bd L.one (w := w) d
    have hb1 := L.one x
    have hp := (L.pos.it x y).1
    simp only [restF, btF]
    rw [hx]
    by_cases hcap : 1920 ≤ (nxF (restF pr w h d) h y).2
    · refine ⟨by omega, fun e => by omega, fun _ => by omega⟩
    obtain ⟨a1, a2, a3, a4, a5⟩ := nx_at (c := restF pr w h d) hh (by omega : (nxF (restF pr w h d) h y).2 < 1920)
    obtain ⟨z, hz⟩ : ∃ z, (nxF (restF pr w h d) h y).1 = z := ⟨_, rfl⟩
    rw [hz] at a1 a2 a3 a4
    rw [a4]
    obtain ⟨i1, i2, i3⟩ := L.low hw hh d z (by omega) a3
    rw [hx1] at i3
    have hc := chg_pos y z
    by_cases hon : ∃ t, t < N ∧ r t x = y
    · obtain ⟨t, ht, hty⟩ := hon
      have hbd := L.bend t ht x (by omega)
      have hnear := (L.path t ht).near x (by omega)
      rw [hty] at hbd hnear
      by_cases hsame : z = r t (x + 1)
      · rw [← hsame] at hbd
        refine ⟨by omega, fun e => ?_, fun hne => absurd hty (hne t ht)⟩
        obtain ⟨t', ht', b1, b2⟩ := i2 (by omega)
        rw [hx1] at b1
        have htt : t = t' := L.two ht ht' (x := x + 1) (by omega) (by omega) (by omega)
        subst htt
        refine ⟨t, ht, by rw [hx]; exact hty, fun e' he => ?_⟩
        by_cases e1 : e' = d + 1
        · subst e1; rw [hx, hty]; omega
        · exact b2 e' (by omega)
      · have hoff : ∀ t', t' < N → r t' (x + 1) ≠ z := fun t' ht' e => by
          have : t = t' := L.two ht ht' (x := x + 1) (by omega) (by omega) (by omega)
          subst this
          exact hsame e.symm
        obtain ⟨k1, k2⟩ := i3 hoff
        refine ⟨?_, fun e => ?_, fun hne => absurd hty (hne t ht)⟩
        · by_cases hb0 : bd x = 0
          · omega
          · have := k2 (by
              by_cases e0 : d = 0
              · exact Or.inl e0
              · exact Or.inr (by rcases L.sep x (by omega) with c | c; exact absurd c hb0; exact c))
            omega
        · exfalso
          by_cases hb0 : bd x = 0
          · have hyz : y ≠ z := fun e3 => hsame (by
              rw [← e3]
              by_cases e4 : y = r t (x + 1)
              · exact e4
              · unfold chg at hbd; rw [if_neg e4] at hbd; omega)
            have : chg y z = 1 := by unfold chg; rw [if_neg hyz]
            omega
          · have := k2 (by
              by_cases e0 : d = 0
              · exact Or.inl e0
              · exact Or.inr (by rcases L.sep x (by omega) with c | c; exact absurd c hb0; exact c))
            omega
    · have h2 : 2 ≤ pr x y := by
        rcases L.off x y (by omega) hy with ⟨t, ht, e⟩ | e
        · exact absurd ⟨t, ht, e⟩ hon
        · exact e
      refine ⟨by omega, fun e => by omega, fun _ => ⟨by omega, fun hz0 => ?_⟩⟩
      rcases hz0 with e | e
      · omega
      · omega
theorem Lin.cost (L : Lin pr w h N r bd) {t : Nat} (ht : t < N) : ∀ d, d < w → (∀ e, e ≤ d → pr (w - 1 - e) (r t (w - 1 - e)) = 0) → costF pr w (r t) d = btF bd w d
  | 0, hd, hz => by simp only [costF, btF]; have := hz 0 (by omega); rwa [Nat.sub_zero] at this
  | d + 1, hd, hz => by
    simp only [costF, btF]
    rw [L.cost ht d (by omega) (fun e he => hz e (by omega)), hz (d + 1) (by omega)]
    have hb := L.bend t ht (w - 1 - (d + 1)) (by omega)
    rw [show w - 1 - (d + 1) + 1 = w - 1 - d by omega] at hb
    rw [hb]; omega
theorem Lin.follow (L : Lin pr w h N r bd) (hw : w ≤ 640) (hh : 0 < h) {t : Nat} (ht : t < N) (h0 : 0 < w) (hz : ∀ x, x < w → pr x (r t x) = 0) : restF pr w h (w - 1) (r t 0) = btF bd w (w - 1) ∧ ∀ x, x < w → folF pr w h (r t 0) x = r t x := by
  have hrest : ∀ d, d < w → restF pr w h d (r t (w - 1 - d)) = btF bd w d := fun d hd => by
    have h1 := rest_le (P := pr) (L.path t ht) d hd
    rw [L.cost ht d hd (fun e he => hz _ (by omega))] at h1
    have h2 := (L.low hw hh d (r t (w - 1 - d)) hd ((L.path t ht).row _ (by omega))).1
    omega
  have hr0 := hrest (w - 1) (by omega)
  rw [Nat.sub_self] at hr0
  refine ⟨hr0, fun x => ?_⟩
  have hbw := bt_bd L.one (w := w) (w - 1)
  have hlt : restF pr w h (w - 1) (r t 0) < 1920 := by omega
  have hfr := fol_rest L.pos hh ((L.path t ht).row 0 h0) hlt
  induction x with
  | zero => intro _; rfl
  | succ x ih =>
    intro hx
    have ih := ih (by omega)
    obtain ⟨_, b2, b3⟩ := hfr (x + 1) hx
    have b3 := b3 (by omega)
    rw [Nat.add_sub_cancel, ih] at b3
    obtain ⟨c1, c2, c3⟩ := b3
    obtain ⟨z, hzd⟩ : ∃ z, folF pr w h (r t 0) (x + 1) = z := ⟨_, rfl⟩
    rw [hzd] at c1 c2 c3 ⊢
    have hzh : z < h := by rw [← hzd]; exact (hfr (x + 1) hx).1
    have e1 := hrest (w - (x + 1)) (by omega)
    rw [show w - 1 - (w - (x + 1)) = x by omega] at e1
    obtain ⟨d, hd⟩ : ∃ d, w - 1 - (x + 1) = d := ⟨_, rfl⟩
    have hd1 : w - (x + 1) = d + 1 := by omega
    rw [hd] at c3
    rw [hd1] at c3 e1
    have hpx := hz x (by omega)
    obtain ⟨k1, k2, k3⟩ := L.low hw hh d z (by omega) hzh
    rw [show w - 1 - d = x + 1 by omega] at k3
    have hbt : btF bd w (d + 1) = (bd x : Int) + btF bd w d := by
      simp only [btF]; rw [show w - 1 - (d + 1) = x by omega]
    have hbd := L.bend t ht x hx
    have hnear := (L.path t ht).near x hx
    have hc := chg_pos (r t x) z
    by_cases hsame : z = r t (x + 1)
    · exact hsame
    · exfalso
      have hoff : ∀ t', t' < N → r t' (x + 1) ≠ z := fun t' ht' e => by
        have : t = t' := L.two ht ht' (x := x + 1) (by omega) (by omega) (by omega)
        subst this
        exact hsame e.symm
      obtain ⟨m1, m2⟩ := k3 hoff
      by_cases hb0 : bd x = 0
      · have hyz : r t x ≠ z := fun e3 => hsame (by
          rw [← e3]
          by_cases e4 : r t x = r t (x + 1)
          · exact e4
          · unfold chg at hbd; rw [if_neg e4] at hbd; omega)
        have : chg (r t x) z = 1 := by unfold chg; rw [if_neg hyz]
        omega
      · have := m2 (by
          by_cases e0 : d = 0
          · exact Or.inl e0
          · exact Or.inr (by rcases L.sep x (by omega) with c | c; exact absurd c hb0; exact c))
        have := L.one x
        omega
end
theorem rest_dear {pr : Nat → Nat → Int} {w h : Nat} (hw : w ≤ 640) (hh : 0 < h) (h2 : ∀ x y, x < w → y < h → 2 ≤ pr x y) : ∀ d y, d < w → y < h → 2 * ((d : Int) + 1) ≤ restF pr w h d y
  | 0, y, hd, hy => by simp only [restF]; have := h2 (w - 1) y (by omega) hy; omega
  | d + 1, y, hd, hy => by
    simp only [restF]
    have h3 := h2 (w - 1 - (d + 1)) y (by omega) hy
    by_cases hcap : 1920 ≤ (nxF (restF pr w h d) h y).2
    · omega
    obtain ⟨a1, a2, a3, a4, a5⟩ := nx_at (c := restF pr w h d) hh (by omega : (nxF (restF pr w h d) h y).2 < 1920)
    have := rest_dear hw hh h2 d _ (by omega) a3
    have hc := chg_pos y (nxF (restF pr w h d) h y).1
    omega
structure Waves (l : List UInt8) (w h N : Nat) (r : Nat → Nat → Nat) (bd : Nat → Nat) : Prop where
  w0 : 0 < w
  w640 : w ≤ 640
  h0 : 0 < h
  N60 : N < 60
  ink : ∀ x y, x < w → y < h → (l.getD (y * w + x) 0 = 1 ↔ ∃ t, t < N ∧ r t x = y)
  path : ∀ t, t < N → PathF w h (r t)
  apart : ∀ t t', t < t' → t' < N → ∀ x, x < w → r t x + 6 ≤ r t' x
  bend : ∀ t, t < N → ∀ x, x + 1 < w → chg (r t x) (r t (x + 1)) = (bd x : Int)
  one : ∀ x, bd x ≤ 1
  sep : ∀ x, x + 2 < w → bd x = 0 ∨ bd (x + 1) = 0
  few : 8 * btF bd w (w - 1) ≤ (w : Int)
section
variable {l : List UInt8} {w h N : Nat} {r : Nat → Nat → Nat} {bd : Nat → Nat}
theorem prB_ink (l : List UInt8) (i : Nat) : (l.getD i 0 = 1 ∧ prB l i = 0) ∨ (l.getD i 0 ≠ 1 ∧ prB l i = 2) := by
  unfold prB
  by_cases e : l.getD i 0 = 1
  · exact Or.inl ⟨e, if_pos e⟩
  · exact Or.inr ⟨e, if_neg e⟩
theorem Waves.lin (W : Waves l w h N r bd) {qs : List (Nat → Nat)} {P : List Int} (hI : TrI l w h qs P) : Lin (priF P h) w h N r bd := by
  refine ⟨hI.pos.pos h, fun x y hx hy => ?_, W.path, W.apart, W.bend, W.one, W.sep⟩
  by_cases hn : ∃ i, ∃ (hi : i < qs.length), near qs[i] x y
  · right; rw [hI.forb x y hx hy hn]; decide
  · rw [hI.free x y hx hy (fun i hi h2 => hn ⟨i, hi, h2⟩)]
    rcases prB_ink l (y * w + x) with ⟨e1, e2⟩ | ⟨e1, e2⟩
    · exact Or.inl ((W.ink x y hx hy).1 e1)
    · exact Or.inr (by omega)
theorem Waves.found (W : Waves l w h N r bd) {qs : List (Nat → Nat)} {P : List Int} (hT : TrR l w h qs P) : qs.length ≤ N ∧ ∀ i (hi : i < qs.length) x, x < w → qs[i] x = r i x := by
  induction hT with
  | nil => exact ⟨Nat.zero_le _, fun i hi => by cases hi⟩
  | @snoc qs P y0 hT0 hl hm hy hr hf ih =>
    obtain ⟨ih1, ih2⟩ := ih
    have hI := tr_inv W.w0 W.w640 W.h0 hT0
    have L := W.lin hI
    have hw := W.w0
    have hw6 := W.w640
    by_cases hk : qs.length < N
    · -- the first line that is left is followed
      have hzero : ∀ x, x < w → priF P h x (r qs.length x) = 0 := fun x hx => by
        have hrow := (W.path qs.length hk).row x hx
        rw [hI.free x _ hx hrow fun i hi hne => ?_]
        · rcases prB_ink l (r qs.length x * w + x) with ⟨e1, e2⟩ | ⟨e1, e2⟩
          · exact e2
          · exact absurd ((W.ink x _ hx hrow).2 ⟨qs.length, hk, rfl⟩) e1
        · unfold near at hne
          rw [ih2 i hi x hx] at hne
          have := W.apart i qs.length hi hk x hx
          omega
      obtain ⟨f1, f2⟩ := L.follow hw6 W.h0 hk hw hzero
      have hrow0 := (W.path qs.length hk).row 0 hw
      have hle := least_le (P := P) hw hrow0
      obtain ⟨l1, l2, l3⟩ := L.low hw6 W.h0 (w - 1) y0 (by omega) hy
      have heq : restF (priF P h) w h (w - 1) y0 = btF bd w (w - 1) := by omega
      obtain ⟨t, ht, t1, t2⟩ := l2 heq
      rw [Nat.sub_self] at t1
      have htk : qs.length ≤ t := by
        by_cases e : t < qs.length
        · exfalso
          have h1 := t2 (w - 1) (by omega)
          rw [Nat.sub_self] at h1
          have h2 := hI.forb 0 (r t 0) hw ((W.path t ht).row 0 hw) ⟨t, e, by unfold near; rw [ih2 t e 0 hw]; omega⟩
          omega
        · omega
      have hge : y0 ≤ r qs.length 0 := by
        by_cases e : r qs.length 0 < y0
        · exfalso
          have := hf _ e
          omega
        · omega
      have htt : t = qs.length := by
        by_cases e : qs.length < t
        · have := W.apart qs.length t e ht 0 hw; omega
        · omega
      subst htt
      rw [← t1]
      refine ⟨by simp; omega, fun i hi x hx => ?_⟩
      by_cases h1 : i < qs.length
      · rw [List.getElem_append_left h1]; exact ih2 i h1 x hx
      · have hie : i = qs.length := by simp at hi; omega
        subst hie
        have := f2 x hx
        simpa using this
    · -- nothing is left
      exfalso
      have hdear := rest_dear (pr := priF P h) hw6 W.h0 (fun x y hx hy' => by
        by_cases hn : ∃ i, ∃ (hi : i < qs.length), near qs[i] x y
        · rw [hI.forb x y hx hy' hn]; decide
        · rw [hI.free x y hx hy' (fun i hi h2 => hn ⟨i, hi, h2⟩)]
          rcases prB_ink l (y * w + x) with ⟨e1, e2⟩ | ⟨e1, e2⟩
          · exfalso
            obtain ⟨t, ht, e3⟩ := (W.ink x y hx hy').1 e1
            exact hn ⟨t, by omega, by unfold near; rw [ih2 t (by omega) x hx]; omega⟩
          · omega) (w - 1) y0 (by omega) hy
      omega
theorem Waves.all (W : Waves l w h N r bd) {qs : List (Nat → Nat)} {P : List Int} (hT : TrR l w h qs P) (hE : 60 ≤ qs.length ∨ (w : Int) < 8 * leastP P w h) : qs.length = N := by
  obtain ⟨h1, h2⟩ := W.found hT
  have hI := tr_inv W.w0 W.w640 W.h0 hT
  have L := W.lin hI
  have hw := W.w0
  have hN := W.N60
  by_cases hk : qs.length < N
  · exfalso
    have hzero : ∀ x, x < w → priF P h x (r qs.length x) = 0 := fun x hx => by
      have hrow := (W.path qs.length hk).row x hx
      rw [hI.free x _ hx hrow fun i hi hne => ?_]
      · rcases prB_ink l (r qs.length x * w + x) with ⟨e1, e2⟩ | ⟨e1, e2⟩
        · exact e2
        · exact absurd ((W.ink x _ hx hrow).2 ⟨qs.length, hk, rfl⟩) e1
      · unfold near at hne
        rw [h2 i hi x hx] at hne
        have := W.apart i qs.length hi hk x hx
        omega
    obtain ⟨f1, f2⟩ := L.follow W.w640 W.h0 hk hw hzero
    have hle := least_le (P := P) hw ((W.path qs.length hk).row 0 hw)
    have := W.few
    omega
  · omega
theorem Waves.lines (W : Waves l w h N r bd) {os : List (Nat → Nat)} (hD : TrD l w h os) : os.map (lineQ w) = (List.range N).map fun t => lineQ w (r t) := by
  obtain ⟨qs, P, hT, hE, b1, b2, b3, b4⟩ := hD.it
  have hN := W.all hT hE
  obtain ⟨_, hq⟩ := W.found hT
  -- the i-th line that is returned is the i-th one
  have hkey : ∀ i (hi : i < os.length), ∃ j, ∃ (hj : j < qs.length), os[i] = qs[j] ∧ os[i] 0 = r j 0 := fun i hi => by
    obtain ⟨j, hj, e⟩ := b2 i hi
    exact ⟨j, hj, e, by rw [e]; exact hq j hj 0 W.w0⟩
  have hmono : ∀ i j, i < j → j < N → r i 0 < r j 0 := fun i j hij hj => by have := W.apart i j hij hj 0 W.w0; omega
  have hidx : ∀ i (hi : i < os.length) j (hj : j < qs.length), os[i] = qs[j] → i = j := by
    -- by counting: the first rows increase on both sides
    have hlo : ∀ i (hi : i < os.length) j (hj : j < qs.length), os[i] = qs[j] → i ≤ j := by
      intro i
      induction i with
      | zero => intro _ j _ _; omega
      | succ i ih =>
        intro hi j hj e
        obtain ⟨j', hj', e', _⟩ := hkey i (by omega)
        have h1 := ih (by omega) j' hj' e'
        have h2 := b4 i (i + 1) (by omega) hi (by omega)
        rw [e, e', hq j hj 0 W.w0, hq j' hj' 0 W.w0] at h2
        have : j' < j := by
          rcases Nat.lt_or_ge j' j with c | c
          · exact c
          · rcases Nat.lt_or_eq_of_le c with c2 | c2
            · have := hmono j j' c2 (by omega); omega
            · subst c2; omega
        omega
    have hhi : ∀ m i (hi : i < os.length) j (hj : j < qs.length), os.length - 1 - i = m → os[i] = qs[j] → j ≤ i := by
      intro m
      induction m with
      | zero => intro i hi j hj hm _; omega
      | succ m ih =>
        intro i hi j hj hm e
        obtain ⟨j', hj', e', _⟩ := hkey (i + 1) (by omega)
        have h1 := ih (i + 1) (by omega) j' hj' (by omega) e'
        have h2 := b4 i (i + 1) (by omega) (by omega) (by omega)
        rw [e, e', hq j hj 0 W.w0, hq j' hj' 0 W.w0] at h2
        have : j < j' := by
          rcases Nat.lt_or_ge j j' with c | c
          · exact c
          · rcases Nat.lt_or_eq_of_le c with c2 | c2
            · have := hmono j' j c2 (by omega); omega
            · subst c2; omega
        omega
    exact fun i hi j hj e => Nat.le_antisymm (hlo i hi j hj e) (hhi _ i hi j hj rfl e)
  apply List.ext_getElem
  · simp; omega
  · intro i h1 h2
    simp only [List.getElem_map, List.getElem_range]
    rw [List.length_map] at h1
    obtain ⟨j, hj, e⟩ := b2 i h1
    have := hidx i h1 j hj e
    subst this
    rw [e]
    unfold lineQ
    apply List.map_congr_left
    intro x hx
    rw [hq i hj x (List.mem_range.1 hx)]
end
end Go.Am

namespace Go.Am
open Go
attribute [local irreducible] Wp WpO WpX WpE
theorem lineL_len (lo : Nat) (L : List Int) (i k : Nat) : (lineL lo L i k).length = L.length := by simp [lineL]
theorem lineL_at {lo : Nat} {L : List Int} {i k x : Nat} (h : x < L.length) : (lineL lo L i k).getD x 0 = 5 + (lo : Int) + 36 * i + 6 * k + L.getD x 0 := by
 rw [getD_at (by rw [lineL_len]; exact h)]
 simp [lineL]
theorem stave_fits {w h n lo hi i : Nat} {L : List Int} (hw : 40 ≤ w) (hW : Wave w L 14) (hlo : ∀ x, -(lo : Int) ≤ L.getD x 0) (hhi : ∀ x, L.getD x 0 ≤ (hi : Int)) (hh : h = 36 * n + lo + hi - 1) (hi' : i < n) : fitsB w h (staveL lo L i) = true := by
 have hl := hW.len
 have hpath : ∀ k, k < 5 → pathB w h (lineL lo L i k) = true := by
  intro k hk
  simp only [pathB, lineL_len, hl, Bool.and_eq_true, bne_iff_ne, beq_iff_eq]
  refine ⟨⟨by omega, trivial⟩, ?_⟩
  rw [okTo, List.all_eq_true]
  intro x hx
  have hx := List.mem_range.1 hx
  have a1 := hlo x
  have a2 := hhi x
  simp only [okAt, lineL_at (show x < L.length by omega), Bool.and_eq_true, Bool.or_eq_true, decide_eq_true_eq, beq_iff_eq]
  refine ⟨⟨by omega, by omega⟩, ?_⟩
  by_cases h0 : x = 0
  ·exact Or.inl h0
  ·right
   rw [lineL_at (show x - 1 < L.length by omega)]
   have a3 := hW.near (x - 1) (by omega)
   rw [show x - 1 + 1 = x by omega] at a3
   omega
 have hs5 : (staveL lo L i).length = 5 := by simp [staveL]
 have hget : ∀ k, k < 5 → (staveL lo L i).getD k [] = lineL lo L i k := by
  intro k hk
  rw [getDL_at (by omega)]
  simp [staveL]
 refine fitsB_of hs5 (fun k hk => by rw [hget k hk]; exact hpath k hk) fun x hx k h1 hk => ?_
 rw [hget k hk, hget (k - 1) (by omega), lineL_at (by omega), lineL_at (by omega)]
 omega
theorem StvR.lines {H : AHeap} {sp : AVal} {ls : List (List Int)} {B : Nat} (h : StvR H sp ls B) : LinesI H sp ls := by
 obtain ⟨r, ps, e, h1, h2, h3, h4, h5, h6⟩ := h.it
 refine ⟨ps, ?_, ⟨fun i hi => ?_⟩⟩
 ·rw [h1]
  exact ⟨Or.inr ⟨r, 0, none, ps, true, e, rfl, h2.lt, h2.get, by omega, by rw [List.drop_zero, Nat.mul_one, ← h4, List.take_length], Nat.le_refl _⟩⟩
 ·obtain ⟨rj, a1, a2, a3⟩ := h6 i hi
  exact ⟨_, a1, row_ints a2 rfl⟩
theorem StvR.lo {H : AHeap} {sp : AVal} {ls : List (List Int)} {B : Nat} (h : StvR H sp ls B) : ∀ r off len cap sz, sp = .slice r off len cap sz → B ≤ r := by
 obtain ⟨r, ps, e, h1, h2, h3, h4, h5, h6⟩ := h.it
 intro r' off len cap sz e'
 rw [h1] at e'; cases e'; exact h5
theorem pxOk_map {f : Nat → UInt8} {n : Nat} (h : ∀ k, k < n → f k = 0 ∨ f k = 1) : pxOk ((List.range n).map f) = true := by
 unfold pxOk
 rw [List.all_eq_true]
 intro x hx
 obtain ⟨k, hk, rfl⟩ := List.mem_map.1 hx
 rcases h k (List.mem_range.1 hk) with e | e <;> rw [e] <;> rfl
theorem px_01 {l : List UInt8} (h : pxOk l = true) (k : Nat) : l.getD k 0 = 0 ∨ l.getD k 0 = 1 := by
 by_cases hk : k < l.length
 ·rw [List.getD_eq_getElem?_getD, List.getElem?_eq_getElem hk, Option.getD_some]
  unfold pxOk at h
  have := List.all_eq_true.1 h l[k] (List.getElem_mem hk)
  simpa using this
 ·rw [List.getD_eq_getElem?_getD, List.getElem?_eq_none (by omega)]; exact Or.inl rfl
theorem rctF_01 {l : List UInt8} {a b up k : Nat} {m : List Int} (h : pxOk l = true) : rctF l a b m up k = 0 ∨ rctF l a b m up k = 1 := by
 unfold rctF; split
 ·exact px_01 h _
 ·exact Or.inl rfl
theorem rct_ok {a b c up : Nat} {l : List UInt8} {m : List Int} (ha : a ≤ 640) (hc : c ≤ 640) (h : pxOk l = true) : Ok a c (rctL l a b m up c) := ⟨ha, hc, by simp [rctL], pxOk_map fun k _ => rctF_01 h⟩
theorem getD_rctL {l : List UInt8} {a b c up k : Nat} {m : List Int} (hk : k < a * c) : (rctL l a b m up c).getD k 0 = rctF l a b m up k := by
 rw [List.getD_eq_getElem?_getD, List.getElem?_eq_getElem (by simpa [rctL] using hk), Option.getD_some]
 simp [rctL]
theorem err_ok {a b : Nat} {l : List UInt8} (h : Ok a b l) : (Img.err ⟨a, b, l⟩ == 0) = true := by rw [h.err]; rfl
theorem check_ok {a b : Nat} {l : List UInt8} {ls : List (List Int)} (h : Ok a b l) (hf : fitsB a b ls = true) : (checkS ⟨a, b, l⟩ ls == 0) = true := by
 have := err_ok h
 unfold checkS
 rw [this]; simp only [cond_true, Int.toNat_natCast, hf]; rfl
theorem rectS_ok {a b u d : Nat} {l : List UInt8} {ls : List (List Int)} (h : Ok a b l) (hf : fitsB a b ls = true) (hud : u + d + 1 ≤ 640) : rectS ⟨a, b, l⟩ ls u d = (⟨a, (u + d + 1 : Nat), rctL l a b (ls.getD 4 []) u (u + d + 1)⟩, 0) := by
 have e : (u : Int) + (d : Int) + 1 = ((u + d + 1 : Nat) : Int) := by omega
 have h1 : decide ((u : Int) < 0) = false := decide_eq_false (by omega)
 have h2 : decide ((d : Int) < 0) = false := decide_eq_false (by omega)
 have h3 : decide (((u + d + 1 : Nat) : Int) ≤ 640) = true := decide_eq_true (by omega)
 simp only [rectS, check_ok h hf, cond_true, h1, h2, Bool.or_false, cond_false, e, h3, Int.toNat_natCast]
end Go.Am

namespace Go.Am
open Go
open Nat renaming reduceEqDiff → qe, reduceAdd → qz
open Int renaming reduceBEq → qn, reduceBNe → qq
attribute [local irreducible] Wp WpO WpX WpE
class StavesI (H : AHeap) (p : AVal) (n : outParam Nat) (cells : outParam (List AVal)) (sts : outParam (List (List (List Int)))) : Prop where
 len : sts.length = n
 sl : SliceAt H p 1 n cells
 it : ∀ (i : Nat) (h : i < sts.length), ∃ q, cells[i]? = some q ∧ LinesI H q sts[i]
theorem StavesI.ext {H H' : AHeap} {p : AVal} {n : Nat} {cells : List AVal} {sts : List (List (List Int))} (h : StavesI H p n cells sts) (x : Ext H H') : StavesI H' p n cells sts := by
 haveI := h.sl
 haveI : ExtI H H' := ⟨x⟩
 refine ⟨h.len, inferInstance, fun i hi => ?_⟩
 obtain ⟨q, h1, h2⟩ := h.it i hi
 exact ⟨q, h1, h2.ext x⟩
def Dr (a : Nat) (sts : List (List (List Int))) (i k x j : Nat) : Prop := ∃ i' k', ∃ (h1 : i' < sts.length) (h2 : k' < sts[i'].length), (i' < i ∨ (i' = i ∧ (k' < k ∨ (k' = k ∧ j % a < x)))) ∧ sts[i'][k'].getD (j % a) 0 = ((j / a : Nat) : Int)
theorem Dr.line {a i k j : Nat} {sts : List (List (List Int))} (ha : 0 < a) : Dr a sts i k a j ↔ Dr a sts i (k + 1) 0 j := by
 have := Nat.mod_lt j ha
 constructor
 ·rintro ⟨i', k', h1, h2, h3, h4⟩; exact ⟨i', k', h1, h2, by omega, h4⟩
 ·rintro ⟨i', k', h1, h2, h3, h4⟩; exact ⟨i', k', h1, h2, by omega, h4⟩
theorem Dr.stave {a i j : Nat} {sts : List (List (List Int))} (hi : i < sts.length) : Dr a sts i sts[i].length 0 j ↔ Dr a sts (i + 1) 0 0 j := by
 constructor
 ·rintro ⟨i', k', h1, h2, h3, h4⟩; exact ⟨i', k', h1, h2, by omega, h4⟩
 ·rintro ⟨i', k', h1, h2, h3, h4⟩
  refine ⟨i', k', h1, h2, ?_, h4⟩
  by_cases e : i' = i
  ·subst e; exact Or.inr ⟨rfl, Or.inl h2⟩
  ·exact Or.inl (by omega)
theorem Dr.none {a j : Nat} {sts : List (List (List Int))} : ¬ Dr a sts 0 0 0 j := by
 rintro ⟨i', k', h1, h2, h3, h4⟩; omega
theorem Dr.next {a i k x y j : Nat} {sts : List (List (List Int))} (hi : i < sts.length) (hk : k < sts[i].length) (hx : x < a) (hy : sts[i][k].getD x 0 = (y : Int)) : Dr a sts i k (x + 1) j ↔ Dr a sts i k x j ∨ j = y * a + x := by
 constructor
 ·rintro ⟨i', k', h1, h2, h3, h4⟩
  by_cases e : i' = i ∧ k' = k ∧ j % a = x
  ·obtain ⟨rfl, rfl, e⟩ := e
   right
   rw [e, hy] at h4
   obtain ⟨d1, d2⟩ := rct_at (y := y) hx
   exact div_inj (a := a) (by rw [e, d1]) (by rw [d2]; omega)
  ·exact Or.inl ⟨i', k', h1, h2, by omega, h4⟩
 ·rintro (⟨i', k', h1, h2, h3, h4⟩ | rfl)
  ·exact ⟨i', k', h1, h2, by omega, h4⟩
  ·obtain ⟨d1, d2⟩ := rct_at (y := y) hx
   exact ⟨i, k, hi, hk, Or.inr ⟨rfl, Or.inr ⟨rfl, by omega⟩⟩, by rw [d1, d2]; exact hy⟩
structure Drawn (L : List UInt8) (n : Nat) (D : Nat → Prop) : Prop where
 len : L.length = n
 it : ∀ j, j < n → (L.getD j 0 = 1 ∧ D j) ∨ (L.getD j 0 = 0 ∧ ¬ D j)
theorem Drawn.congr {L : List UInt8} {n : Nat} {D E : Nat → Prop} (h : Drawn L n D) (hE : ∀ j, D j ↔ E j) : Drawn L n E := ⟨h.len, fun j hj => by rw [← hE j]; exact h.it j hj⟩
theorem Drawn.set {L : List UInt8} {n k : Nat} {D E : Nat → Prop} (h : Drawn L n D) (hk : k < n) (hE : ∀ j, E j ↔ D j ∨ j = k) : Drawn (L.set k 1) n E := by
 refine ⟨by rw [List.length_set]; exact h.len, fun j hj => ?_⟩
 rw [hE j]
 by_cases e : j = k
 ·subst e
  left
  exact ⟨by rw [List.getD_eq_getElem?_getD, List.getElem?_set_self (by rw [h.len]; exact hk)]; rfl, Or.inr rfl⟩
 ·rw [List.getD_eq_getElem?_getD, List.getElem?_set_ne (fun q => e q.symm), ← List.getD_eq_getElem?_getD]
  rcases h.it j hj with ⟨h1, h2⟩ | ⟨h1, h2⟩
  ·exact Or.inl ⟨h1, Or.inl h2⟩
  ·exact Or.inr ⟨h1, fun q => q.elim h2 e⟩
theorem Drawn.zero {n a : Nat} {sts : List (List (List Int))} : Drawn (List.replicate n 0) n (Dr a sts 0 0 0) := ⟨List.length_replicate, fun j hj => Or.inr ⟨by rw [List.getD_eq_getElem?_getD, List.getElem?_replicate, if_pos hj]; rfl, Dr.none⟩⟩
theorem take_one {cells : List AVal} {j : Nat} {q : AVal} (h : cells[j]? = some q) : (cells.drop j).take 1 = [q] := by
 apply List.ext_getElem?
 intro t
 rw [List.getElem?_take, List.getElem?_drop]
 cases t with
 | zero => rw [if_pos (by omega), Nat.add_zero]; exact h
 | succ t => rw [if_neg (by omega)]; rfl
theorem K_draw {a b m : Nat} {p : AVal} {H : AHeap} {cells : List AVal} {sts : List (List (List Int))} [hp : StavesI H p m cells sts] (ha : a ≤ 640) (hb : b ≤ 640) (hm : m ≤ 1000) (hfit : ∀ (i : Nat) (h : i < sts.length), fitsB a b sts[i] = true) : Con ext prog 1 107 [.int .i64 (a : Int), .int .i64 (b : Int), p] H fun v H' => ∃ L, NewInk H H' v ⟨a, b, L⟩ ∧ Drawn L (a * b) (Dr a sts m 0 0) := by
 refine con_of (show prog 107 = some c107 from rfl) rfl rfl fun n hn => ?_
 have hsl := hp.sl
 haveI := hsl
 haveI := hsl.one
 have hml := hp.len
 have hcl : cells.length = m := by have := hsl.len; omega
 have hab : a * b ≤ 640 * 640 := Nat.mul_le_mul ha hb
 have h1 : IntKind.i64.wrap ((a : Int) * (b : Int)) = ((a * b : Nat) : Int) := wm (by omega)
 repeat first | refine mI ?_ | refine bn rfl rfl rfl (by simp only [h1]; rfl) ?_ | refine nw ?_ | refine nl hKF ?_ | refine sq ?_ | refine rg fun KF hKF => ?_
 refine WpO.do (WpX.mkB rfl rfl rfl (by omega) fun o H1 e1 hb1 hf1 hw1 hx1 => ?_)
 haveI := hb1.one
 refine ob (cs' := ?_) ?hc ?_; case hc => (simp only [↓nrmL, nrmZ, qe, ↓reduceIte, qz, qn, qq]; rfl)
 refine nw ?_
 refine so rfl (rfl : _ = AVal.agg _) rfl rfl rfl (by simp only [↓nrmL, nrmZ, qe, ↓reduceIte, qz, qn, qq]; rfl) ?_
 refine nl hKF ?_
 refine sq ?_
 refine sq ?_
 refine rg fun KF hKF => ?_
 refine mv ?_
 refine ln (by simp only [↓nrmL, nrmK, qe, ↓reduceIte]; rfl) ?_
 refine mI ?_
 refine nl hKF ?_
 refine Wp.block ?_
 dsimp only
 refine Wp.loopS [9, 11, 12, 13, 23, 24, 25, 26, 27, 28, 29, 30, 31, 32, 33, 34, 35, 36, 37, 38, 39, 40, 41, 42, 43, 44, 45, 46, 47, 48, 49, 50, 51] (fun i : Nat => [(23, .int .i64 i)]) (fun H3 i H2 => i ≤ m ∧ ∃ L, BytesI H2 o L ∧ Drawn L (a * b) (Dr a sts i 0 0) ∧ WrS H2 o ∧ ExtP0 H3 H2 o) (fun i => m - i) 0 rfl (fun _ => rfl) ⟨rfl, trivial⟩ ⟨Nat.zero_le _, _, inferInstance, Drawn.zero, inferInstance, inferInstance⟩ (by unfold fuel0 at hn; omega) ?_
 rintro i g H2 ⟨hi, L, hL, hD, hw2, ⟨hx2⟩⟩
 haveI := hx2
 simp only [↓nrmL, nrmZ, qe, ↓reduceIte, qz, qn, qq]
 cases hc : decide ((i : Int) < (m : Int))
 ·have him : i = m := by have := of_decide_eq_false hc; omega
  subst him
  repeat first | refine Fo.ldN rfl rfl (by simp only [↓nrmL, nrmZ, qe, ↓reduceIte, qz, qn, qq, hc]; rfl) ?_ | refine bn rfl rfl rfl (by simp only [hc]; rfl) ?_ | refine so rfl (rfl : _ = AVal.agg _) rfl rfl rfl (by simp only [↓nrmL, nrmZ, qe, ↓reduceIte, qz, qn, qq, hc]; rfl) ?_ | refine nl hKF ?_ | refine sq ?_ | refine rg fun KF hKF => ?_ | refine cf rfl ?_ | refine rt ?_ | refine xi ?_ | dsimp only
  refine rz trivial ?_
  exact ⟨L, ⟨o, rfl, inferInstance, hf1.weak, inferInstance, Ext0.ext⟩, hD⟩
 have him : i < m := by have := of_decide_eq_true hc; omega
 have his : i < sts.length := by omega
 have hwi := wa1 (a := i) (by omega)
 obtain ⟨q, hq, hLq⟩ := hp.it i his
 obtain ⟨qs, hqs, hqr⟩ := hLq.it
 have hfi := hfit i his
 obtain ⟨hl5, hpaths⟩ := fitsB_iff hfi
 haveI := hqs
 haveI := hqs.one
 repeat first | refine bn rfl rfl rfl (by simp only [hc]; rfl) ?_ | (refine Fo.idx (by simp only [↓nrmL, nrmK, qe, ↓reduceIte]; rfl) rfl ?_ (by simp only [↓nrmL, nrmZ, qe, ↓reduceIte, qz, qn, qq, hc]; rfl) ?_; (focus omega)) | refine nl hKF ?_ | refine sq ?_ | refine rg fun KF hKF => ?_ | refine ct rfl ?_ | refine sk ?_ | refine Wp.block ?_
 refine WpO.do (WpX.ldNP (p := p) (j := i) (m := 1) (l := [q]) rfl (by decide) (by omega) (take_one hq) ?_)
 refine nw ?_
 refine so rfl (rfl : _ = AVal.agg _) rfl rfl rfl (by simp only [↓nrmL, nrmZ, qe, ↓reduceIte, qz, qn, qq]; rfl) ?_
 refine nl hKF ?_
 refine sq ?_
 refine rg fun KF hKF => ?_
 refine fd ?_
 refine Fo.ld rfl rfl ?_
 refine ln (by simp only [↓nrmL, nrmK, qe, ↓reduceIte]; rfl) ?_
 refine mI ?_
 refine nl hKF ?_
 refine Wp.block ?_
 dsimp only
 refine Wp.loopS [11, 12, 13, 30, 31, 32, 33, 34, 35, 36, 37, 38, 39, 40, 41, 42, 43, 44, 45, 46, 47, 48, 49, 50] (fun k : Nat => [(30, .int .i64 k)]) (fun H3 k H2 => k ≤ sts[i].length ∧ ∃ L, BytesI H2 o L ∧ Drawn L (a * b) (Dr a sts i k 0) ∧ WrS H2 o ∧ ExtP0 H3 H2 o) (fun k => sts[i].length - k) 0 rfl (fun _ => rfl) ⟨rfl, trivial⟩ ⟨Nat.zero_le _, L, inferInstance, hD, inferInstance, inferInstance⟩ (by unfold fuel0 at hn; omega) ?_
 rintro k g2 H4 ⟨hk, L4, hL4, hD4, hw4, ⟨hx4⟩⟩
 haveI := hx4
 simp only [↓nrmL, nrmZ, qe, ↓reduceIte, qz, qn, qq]
 cases hck : decide ((k : Int) < ((sts[i].length : Nat) : Int))
 ·have hkl : k = sts[i].length := by have := of_decide_eq_false hck; omega
  subst hkl
  repeat first | refine mI ?_ | refine bn rfl rfl rfl (by simp only [hck]; rfl) ?_ | refine b0 ?_ | refine nl hKF ?_ | refine sq ?_ | refine rg fun KF hKF => ?_ | refine cf rfl ?_ | refine xi ?_ | dsimp only
  exact ⟨i + 1, by omega, ⟨by simp only [↓nrmL, nrmZ, qe, ↓reduceIte, qz, qn, qq]; rw [hwi], trivial⟩, by omega, L4, inferInstance, hD4.congr fun j => Dr.stave his, inferInstance, inferInstance⟩
 have hkl : k < sts[i].length := by have := of_decide_eq_true hck; omega
 have hwk := wa1 (a := k) (by omega)
 obtain ⟨q2, hq2, hI2⟩ := hqr.it k hkl
 have hpk := hpaths k hkl
 obtain ⟨hml2, ha0⟩ := pathB_len hpk
 haveI := hI2
 haveI := hI2.one
 repeat first | refine bn rfl rfl rfl (by simp only [hck]; rfl) ?_ | (refine Fo.idx (by simp only [↓nrmL, nrmK, qe, ↓reduceIte]; rfl) rfl ?_ (by simp only [↓nrmL, nrmZ, qe, ↓reduceIte, qz, qn, qq, hck]; rfl) ?_; (focus omega)) | refine nl hKF ?_ | refine sq ?_ | refine rg fun KF hKF => ?_ | refine ct rfl ?_ | refine sk ?_ | refine Wp.block ?_
 refine Fo.now rfl (exec_ldP (p := q) (j := k) rfl hq2) rfl ?_
 refine mv ?_
 refine nl hKF ?_
 refine sq ?_
 refine rg fun KF hKF => ?_
 refine mv ?_
 refine ln (by simp only [↓nrmL, nrmK, qe, ↓reduceIte]; rfl) ?_
 refine mI ?_
 refine nl hKF ?_
 refine Wp.block ?_
 dsimp only
 refine Wp.loopS [12, 13, 36, 37, 38, 39, 40, 41, 42, 43, 44, 45, 46, 47, 48, 49] (fun x : Nat => [(36, .int .i64 x)]) (fun H3 x H2 => x ≤ a ∧ ∃ L, BytesI H2 o L ∧ Drawn L (a * b) (Dr a sts i k x) ∧ WrS H2 o ∧ ExtP0 H3 H2 o) (fun x => a - x) 0 rfl (fun _ => rfl) ⟨rfl, trivial⟩ ⟨Nat.zero_le _, L4, inferInstance, hD4, inferInstance, inferInstance⟩ (by unfold fuel0 at hn; omega) ?_
 rintro x g3 H5 ⟨hx5, L5, hL5, hD5, hw5, ⟨hx5'⟩⟩
 haveI := hx5'
 simp only [↓nrmL, nrmZ, qe, ↓reduceIte, qz, qn, qq]
 cases hcx : decide ((x : Int) < ((sts[i][k].length : Nat) : Int))
 ·have hxa : x = a := by have := of_decide_eq_false hcx; omega
  subst hxa
  repeat first | refine mI ?_ | refine bn rfl rfl rfl (by simp only [hcx]; rfl) ?_ | refine b0 ?_ | refine nl hKF ?_ | refine sq ?_ | refine rg fun KF hKF => ?_ | refine cf rfl ?_ | refine xi ?_ | dsimp only
  exact ⟨k + 1, by omega, ⟨by simp only [↓nrmL, nrmZ, qe, ↓reduceIte, qz, qn, qq]; rw [hwk], trivial⟩, by omega, L5, inferInstance, hD5.congr fun j => Dr.line ha0, inferInstance, inferInstance⟩
 have hxl : x < sts[i][k].length := by have := of_decide_eq_true hcx; omega
 have hxa : x < a := by omega
 have hwx := wa1 (a := x) (by omega)
 obtain ⟨hm0, hmb⟩ := pathB_range hpk hxl
 obtain ⟨y, hy⟩ : ∃ y : Nat, sts[i][k][x] = (y : Int) := ⟨sts[i][k][x].toNat, by omega⟩
 have hlt := idx_lt hxa (show y < b by omega)
 have m1 : IntKind.i64.wrap ((y : Int) * (a : Int)) = ((y * a : Nat) : Int) := wm (by omega)
 have m2 : IntKind.i64.wrap (((y * a : Nat) : Int) + (x : Int)) = ((y * a + x : Nat) : Int) := wa (by omega)
 have hLl := hD5.len
 repeat first | refine mI ?_ | refine fd ?_ | refine Fo.ld rfl rfl ?_ | refine bn rfl rfl rfl (by simp only [hcx, hy, m1, m2]; rfl) ?_ | (refine Fo.idx (by simp only [↓nrmL, nrmK, qe, ↓reduceIte]; rfl) rfl ?_ (by simp only [↓nrmL, nrmZ, qe, ↓reduceIte, qz, qn, qq, hcx, hy, m1, m2]; rfl) ?_; (focus omega)) | (refine Fo.ldI rfl ?_ (by simp only [hcx, hy, m1, m2]; rfl) ?_; (focus omega)) | refine nl hKF ?_ | refine sq ?_ | refine rg fun KF hKF => ?_ | refine ct rfl ?_ | refine sk ?_ | refine Wp.block ?_
 refine WpO.do' (WpX.stB (1 : UInt8) rfl rfl rfl (by omega) fun H6 hb6 hw6 hx6 => ?_)
 haveI := hx6
 refine nl hKF ?_
 refine rg fun KF hKF => ?_
 refine b0 ?_
 refine mI ?_
 refine nl hKF ?_
 dsimp only
 exact ⟨x + 1, by omega, ⟨by simp only [↓nrmL, nrmZ, qe, ↓reduceIte, qz, qn, qq]; rw [hwx], trivial⟩, by omega, _, hb6, hD5.set hlt fun j => Dr.next his hkl hxa (by rw [getD_at hxl]; exact hy), hw6, inferInstance⟩
end Go.Am

namespace Go.Am
open Go
abbrev RunsI (H : AHeap) (p : AVal) (l : List RunT) : Prop := SliceAt H p 3 l.length (cellsR l)
def run0 : RunT := (0, 0, 0)
theorem cellsR_length (l : List RunT) : (cellsR l).length = 3 * l.length := by
  induction l with
  | nil => rfl
  | cons r l ih => simp only [cellsR, List.flatMap_cons, List.length_append, List.length_cons, List.length_nil] at *; omega
theorem cellsR_get : ∀ {l : List RunT} {i : Nat}, i < l.length → ((cellsR l).drop (i * 3)).take 3 = [.int .i64 (l.getD i run0).1, .int .i64 (l.getD i run0).2.1, .int .i64 (l.getD i run0).2.2]
  | r :: l, 0, _ => by simp [cellsR]
  | r :: l, i + 1, h => by
    have ih := cellsR_get (l := l) (i := i) (by simpa using h)
    have e : (cellsR (r :: l)).drop ((i + 1) * 3) = (cellsR l).drop (i * 3) := by
      rw [show (i + 1) * 3 = 3 + i * 3 by omega, ← List.drop_drop]
      rfl
    rw [e, ih]
    simp
theorem endF_spec {p : Nat → Bool} {len : Nat} : ∀ (f i : Nat), i < len → p i = true → len ≤ i + f + 1 →
    i ≤ endF p len f i ∧ endF p len f i < len ∧ (∀ t, i ≤ t → t ≤ endF p len f i → p t = true) ∧ (endF p len f i + 1 < len → p (endF p len f i + 1) = false)
  | 0, i, hi, hp, hl => by
    simp only [endF]
    refine ⟨Nat.le_refl _, hi, fun t h1 h2 => ?_, fun h => by omega⟩
    obtain rfl : t = i := by omega
    exact hp
  | f + 1, i, hi, hp, hl => by
    simp only [endF]
    by_cases h : i + 1 < len ∧ p (i + 1) = true
    · rw [if_pos h]
      obtain ⟨h1, h2, h3, h4⟩ := endF_spec f (i + 1) h.1 h.2 (by omega)
      refine ⟨by omega, h2, fun t h5 h6 => ?_, h4⟩
      by_cases h7 : t = i
      · rw [h7]; exact hp
      · exact h3 t (by omega) h6
    · rw [if_neg h]
      refine ⟨Nat.le_refl _, hi, fun t h1 h2 => ?_, fun h1 => ?_⟩
      · obtain rfl : t = i := by omega
        exact hp
      · cases hq : p (i + 1)
        · rfl
        · exact absurd ⟨h1, hq⟩ h
theorem endB_spec {p : Nat → Bool} {len i : Nat} (hi : i < len) (hp : p i = true) :
    i ≤ endB p len i ∧ endB p len i < len ∧ (∀ t, i ≤ t → t ≤ endB p len i → p t = true) ∧ (endB p len i + 1 < len → p (endB p len i + 1) = false) := endF_spec len i hi hp (by omega)
theorem start_p {p : Nat → Bool} {s : Nat} (h : startB p s = true) : p s = true ∧ (0 < s → p (s - 1) = false) := by
  unfold startB at h
  simp only [Bool.and_eq_true, Bool.not_eq_true', Bool.and_eq_false_iff, decide_eq_false_iff_not] at h
  exact ⟨h.1, fun h0 => h.2.resolve_left (fun k => k h0)⟩
theorem mem_preR {o : Nat → Nat → Bool} {len a x : Nat} {r : RunT} : r ∈ preR o len a x ↔ ∃ s, s < x ∧ startB (o a) s = true ∧ r = runV o len a s := by
  unfold preR
  simp only [List.mem_map, List.mem_filter, List.mem_range]
  constructor
  · rintro ⟨s, ⟨h1, h2⟩, h3⟩; exact ⟨s, h1, h2, h3.symm⟩
  · rintro ⟨s, h1, h2, h3⟩; exact ⟨s, ⟨h1, h2⟩, h3.symm⟩
theorem mem_allR {o : Nat → Nat → Bool} {len n : Nat} {r : RunT} : r ∈ allR o len n ↔ ∃ a s, a < n ∧ s < len ∧ startB (o a) s = true ∧ r = runV o len a s := by
  unfold allR
  simp only [List.mem_flatMap, List.mem_range, mem_preR]
  constructor
  · rintro ⟨a, h1, s, h2, h3, h4⟩; exact ⟨a, s, h1, h2, h3, h4⟩
  · rintro ⟨a, s, h1, h2, h3, h4⟩; exact ⟨a, h1, s, h2, h3, h4⟩
theorem run_unique {p : Nat → Bool} {len s s' y : Nat} (hs : startB p s = true) (hs' : startB p s' = true) (hl : s < len) (hl' : s' < len) (h1 : s ≤ y) (h2 : y ≤ endB p len s) (h1' : s' ≤ y) (h2' : y ≤ endB p len s') : s = s' := by
  obtain ⟨_, _, k3, _⟩ := endB_spec (p := p) hl (start_p hs).1
  obtain ⟨_, _, k3', _⟩ := endB_spec (p := p) hl' (start_p hs').1
  rcases Nat.lt_trichotomy s s' with h | h | h
  · have a := (start_p hs').2 (by omega)
    rw [k3 (s' - 1) (by omega) (by omega)] at a; cases a
  · exact h
  · have a := (start_p hs).2 (by omega)
    rw [k3' (s - 1) (by omega) (by omega)] at a; cases a
end Go.Am

namespace Go.Am
open Go
open Nat renaming reduceEqDiff → qe, reduceAdd → qz
open Int renaming reduceBEq → qn, reduceBNe → qq
attribute [local irreducible] Wp WpO WpX WpE
def touchB (L : List UInt8) (a x s t : Nat) : Bool := (List.range (t + 1)).any fun y => decide (s ≤ y) && (L.getD (y * a + x) 0 == 1)
theorem touch_no {L : List UInt8} {a x s t : Nat} (h : ∀ z, s ≤ z → z ≤ t → (L.getD (z * a + x) 0 == 1) = false) : touchB L a x s t = false := by
 unfold touchB
 rw [List.any_eq_false]
 intro y hy
 have := List.mem_range.1 hy
 by_cases hs : s ≤ y
 ·rw [h y hs (by omega)]; simp
 ·simp [hs]
theorem touch_yes {L : List UInt8} {a x s t y : Nat} (h1 : s ≤ y) (h2 : y ≤ t) (h : (L.getD (y * a + x) 0 == 1) = true) : touchB L a x s t = true := by
 unfold touchB
 rw [List.any_eq_true]
 exact ⟨y, List.mem_range.2 (by omega), by rw [h]; simp [h1]⟩
theorem K_touches {a b x s t : Nat} {p : AVal} {H : AHeap} {L : List UInt8} [hp : BytesI H p L] (ha : a ≤ 640) (hb : b ≤ 640) (hx : x < a) (ht : t < b) (hl : L.length = a * b) : Con ext prog 1 108 [.agg [.int .i64 (a : Int), .int .i64 (b : Int), p], .agg [.int .i64 (x : Int), .int .i64 (s : Int), .int .i64 (t : Int)]] H fun v H' => v = .bool (touchB L a x s t) ∧ Ext H H' := by
 refine con_of (show prog 108 = some c108 from rfl) rfl rfl fun n hn => ?_
 haveI := hp.one
 repeat first | refine mI ?_ | refine mB ?_ | refine fd ?_ | refine Fo.ld rfl rfl ?_ | refine bA ?_ | refine nl hKF ?_ | refine sq ?_ | refine rg fun KF hKF => ?_ | refine Wp.block ?_ | dsimp only
 by_cases hst : s ≤ t
 ·refine Wp.loopS [4, 5, 8, 9, 10, 11, 12, 13, 14, 15, 16, 17, 18, 19, 20, 21, 22, 23, 24, 25] (fun y : Nat => [(5, .int .i64 y)]) (fun H3 y H2 => s ≤ y ∧ y ≤ t + 1 ∧ (∀ z, s ≤ z → z < y → (L.getD (z * a + x) 0 == 1) = false) ∧ H2 = H3) (fun y => t + 1 - y) s rfl (fun _ => rfl) ⟨rfl, trivial⟩ ⟨Nat.le_refl _, by omega, fun z h1 h2 => by omega, rfl⟩ (by unfold fuel0 at hn; omega) ?_
  rintro y g H2 ⟨hy1, hy2, hno, rfl⟩
  simp only [↓nrmL, nrmZ, qe, ↓reduceIte, qz, qn, qq]
  cases hc : decide ((y : Int) ≤ (t : Int))
  ·have hyt : y = t + 1 := by have := of_decide_eq_false hc; omega
   have e1 : touchB L a x s t = false := touch_no fun z h1 h2 => hno z h1 (by omega)
   rw [e1]
   repeat first | refine mI ?_ | refine mB ?_ | refine fd ?_ | refine Fo.ld rfl rfl ?_ | refine bn rfl rfl rfl (by simp only [hc]; rfl) ?_ | refine nl hKF ?_ | refine sq ?_ | refine rg fun KF hKF => ?_ | refine cf rfl ?_ | refine rt ?_ | refine xi ?_ | dsimp only
   refine rz trivial ?_
   exact ⟨rfl, Ext0.ext⟩
  have hyt : y ≤ t := by have := of_decide_eq_true hc; omega
  have hlt := idx_lt hx (show y < b by omega)
  have hle : a * b ≤ 640 * 640 := Nat.mul_le_mul ha hb
  have m1 : IntKind.i64.wrap ((y : Int) * (a : Int)) = ((y * a : Nat) : Int) := wm (by omega)
  have m2 : IntKind.i64.wrap (((y * a : Nat) : Int) + (x : Int)) = ((y * a + x : Nat) : Int) := wa (by omega)
  have hwy := wa1 (a := y) (by omega)
  have hi : y * a + x < L.length := by omega
  have hg : L.getD (y * a + x) 0 = L[y * a + x] := by rw [List.getD_eq_getElem?_getD, List.getElem?_eq_getElem hi, Option.getD_some]
  cases h1 : (L[y * a + x] == 1)
  ·have h1' : ((((L[y * a + x]).toNat : Nat) : Int) == 1) = false := by rw [u8_one]; exact h1
   repeat first | refine mI ?_ | refine fd ?_ | refine Fo.ld rfl rfl ?_ | refine bn rfl rfl rfl (by simp only [hc, m1, m2, h1']; rfl) ?_ | refine b0 ?_ | (refine Fo.idx (by simp only [↓nrmL, nrmK, qe, ↓reduceIte]; rfl) rfl ?_ (by simp only [↓nrmL, nrmZ, qe, ↓reduceIte, qz, qn, qq, hc, m1, m2, h1']; rfl) ?_; (focus omega)) | (refine Fo.ldB rfl ?_ rfl ?_; (focus omega)) | refine nl hKF ?_ | refine sq ?_ | refine rg fun KF hKF => ?_ | refine ct rfl ?_ | refine cf rfl ?_ | refine sk ?_ | refine Wp.block ?_ | dsimp only
   refine ⟨y + 1, by omega, ⟨by simp only [↓nrmL, nrmZ, qe, ↓reduceIte, qz, qn, qq]; rw [hwy], trivial⟩, by omega, by omega, fun z z1 z2 => ?_, rfl⟩
   by_cases e : z = y
   ·rw [e, hg]; exact h1
   ·exact hno z z1 (by omega)
  ·have h1' : ((((L[y * a + x]).toNat : Nat) : Int) == 1) = true := by rw [u8_one]; exact h1
   have e1 : touchB L a x s t = true := touch_yes hy1 hyt (by rw [hg]; exact h1)
   rw [e1]
   repeat first | refine mI ?_ | refine mB ?_ | refine fd ?_ | refine Fo.ld rfl rfl ?_ | refine bn rfl rfl rfl (by simp only [hc, m1, m2, h1']; rfl) ?_ | (refine Fo.idx (by simp only [↓nrmL, nrmK, qe, ↓reduceIte]; rfl) rfl ?_ (by simp only [↓nrmL, nrmZ, qe, ↓reduceIte, qz, qn, qq, hc, m1, m2, h1']; rfl) ?_; (focus omega)) | (refine Fo.ldB rfl ?_ rfl ?_; (focus omega)) | refine nl hKF ?_ | refine sq ?_ | refine rg fun KF hKF => ?_ | refine ct rfl ?_ | refine sk ?_ | refine rt ?_ | refine Wp.block ?_ | dsimp only
   refine rz trivial ?_
   exact ⟨rfl, Ext0.ext⟩
 ·refine Wp.loopS [4, 5, 8, 9, 10, 11, 12, 13, 14, 15, 16, 17, 18, 19, 20, 21, 22, 23, 24, 25] (fun y : Nat => [(5, .int .i64 y)]) (fun H3 y H2 => y = s ∧ H2 = H3) (fun y => 0) s rfl (fun _ => rfl) ⟨rfl, trivial⟩ ⟨rfl, rfl⟩ (by unfold fuel0 at hn; omega) ?_
  rintro y g H2 ⟨rfl, rfl⟩
  simp only [↓nrmL, nrmZ, qe, ↓reduceIte, qz, qn, qq]
  have hc : decide ((y : Int) ≤ (t : Int)) = false := decide_eq_false (by omega)
  have e1 : touchB L a x y t = false := touch_no fun z h1 h2 => by omega
  rw [e1]
  repeat first | refine mI ?_ | refine mB ?_ | refine fd ?_ | refine Fo.ld rfl rfl ?_ | refine bn rfl rfl rfl (by simp only [hc]; rfl) ?_ | refine nl hKF ?_ | refine sq ?_ | refine rg fun KF hKF => ?_ | refine cf rfl ?_ | refine rt ?_ | refine xi ?_ | dsimp only
  refine rz trivial ?_
  exact ⟨rfl, Ext0.ext⟩
noncomputable def drawL (a b : Nat) (sts : List (List (List Int))) : List UInt8 := by
 classical
 exact (List.range (a * b)).map fun j => if Dr a sts sts.length 0 0 j then 1 else 0
theorem drawn_eq {a b : Nat} {sts : List (List (List Int))} {L : List UInt8} (h : Drawn L (a * b) (Dr a sts sts.length 0 0)) : L = drawL a b sts := by
 classical
 unfold drawL
 apply List.ext_getElem
 ·simp [h.len]
 ·intro i h1 h2
  have hi : i < a * b := by rw [← h.len]; exact h1
  simp only [List.getElem_map, List.getElem_range]
  have hg : L.getD i 0 = L[i] := by rw [List.getD_eq_getElem?_getD, List.getElem?_eq_getElem h1, Option.getD_some]
  rcases h.it i hi with ⟨a1, a2⟩ | ⟨a1, a2⟩
  ·rw [if_pos a2, ← hg, a1]
  ·rw [if_neg a2, ← hg, a1]
def selR (L : List UInt8) (a : Nat) (most : Int) (r : RunT) : Bool := decide (r.2.2 - r.2.1 < most) && touchB L a r.1.toNat r.2.1.toNat r.2.2.toNat
noncomputable def runsS (g : Img) (sts : List (List (List Int))) (most : Int) : List RunT × Int :=
 bif g.err == 0 then (bif sts.all (fitsB g.w.toNat g.h.toNat) then ((allR (colO g) g.h.toNat g.w.toNat).filter (selR (drawL g.w.toNat g.h.toNat sts) g.w.toNat most), 0) else ([], 10)) else ([], g.err)
theorem filter_snoc {α : Type} {l : List α} {f : α → Bool} {i : Nat} (h : i < l.length) : (l.take (i + 1)).filter f = (l.take i).filter f ++ (if f l[i] = true then [l[i]] else []) := by
 rw [List.take_succ_eq_append_getElem h, List.filter_append]
 cases h2 : f l[i] <;> simp [h2]
theorem row_one3 {H : AHeap} {r : Nat} {a b c : AVal} {rw : Bool} {ty : TypeId} (h : HasRow H r [a, b, c] rw ty) : SliceAt H (.slice r 0 1 (some 1) 3) 3 1 [a, b, c] := ⟨Or.inr ⟨r, 0, some 1, _, rw, ty, rfl, h.lt, h.get, by simp, rfl, Nat.le_refl _⟩⟩
theorem K_Runs {w h most : Int} {m : Nat} {p q : AVal} {H : AHeap} {l : List UInt8} {cells : List AVal} {sts : List (List (List Int))} [hp : BytesI H p l] [hq : StavesI H q m cells sts] (hm : m ≤ 1000) : Con ext prog 9 84 [.agg [.int .i64 w, .int .i64 h, p], q, .int .i64 most] H fun v H' => RunsRes H H' v (runsS ⟨w, h, l⟩ sts most) := by
 refine con_of (show prog 84 = some c84 from rfl) rfl rfl fun n hn => ?_
 have hsl := hq.sl
 haveI := hsl
 haveI := hsl.one
 haveI := hp.one
 have hml := hq.len
 have hcl : cells.length = m := by have := hsl.len; omega
 obtain ⟨R, hR⟩ : ∃ R, runsS ⟨w, h, l⟩ sts most = R := ⟨_, rfl⟩
 rw [hR]
 repeat first | refine mI ?_ | refine mN ?_ | refine Fo.ldN rfl rfl (by simp only [↓nrmL, nrmZ, qe, ↓reduceIte, qz, qn, qq]; rfl) ?_ | refine bA ?_ | refine nl hKF ?_ | refine sq ?_ | refine rg fun KF hKF => ?_
 refine WpO.do (WpX.conD hn rfl rfl (by simp only [↓nrmL, nrmZ, qe, ↓reduceIte, qz, qn, qq, List.map] <;> rfl) (K_Columns (l := l)) fun v H3 h5 => ?_)
 obtain ⟨q2, e1, hq2, hfq2, hxq2⟩ := h5
 subst e1
 haveI : ExtI _ H3 := ⟨hxq2⟩
 haveI := hq2.sl.one
 cases h0 : (Img.err ⟨w, h, l⟩ == 0)
 ·have e1 : runsS ⟨w, h, l⟩ sts most = ([], Img.err ⟨w, h, l⟩) := by simp only [runsS, h0, cond_false]
  have e2 : colsSpec ⟨w, h, l⟩ = ([], Img.err ⟨w, h, l⟩) := by simp only [colsSpec, h0, cond_false]
  rw [e1] at hR
  subst hR
  rw [e2] at hq2
  simp only [e2, bne, h0]
  repeat first | refine mI ?_ | refine mT ?_ | refine mN ?_ | refine mv ?_ | refine bn rfl rfl rfl (by simp only [e2, bne, h0]; rfl) ?_ | refine xt ?_ | refine nl hKF ?_ | refine sq ?_ | refine rg fun KF hKF => ?_ | refine ct rfl ?_ | refine rt ?_ | dsimp only
  refine rz trivial ?_
  exact ⟨_, rfl, newRuns0⟩
 obtain ⟨a, b, rfl, rfl, ok⟩ := ok_of h0
 have ha := ok.wa
 have hb := ok.hb
 haveI : Side a := ⟨ha⟩
 haveI : Side b := ⟨hb⟩
 have e2 : colsSpec ⟨a, b, l⟩ = (allR (colO ⟨a, b, l⟩) b a, 0) := by simp only [colsSpec, h0, cond_true, Int.toNat_natCast]
 obtain ⟨C, hC⟩ : ∃ C, allR (colO ⟨a, b, l⟩) b a = C := ⟨_, rfl⟩
 rw [hC] at e2
 rw [e2] at hq2
 have hClen : C.length ≤ 409600 := by
  have h7 := allR_len (colO ⟨a, b, l⟩) b a
  have h8 := Nat.mul_le_mul ha hb
  rw [← hC]; omega
 have hbne : ((0 : Int) != 0) = false := rfl
 simp only [e2, hbne]
 repeat first | refine mI ?_ | refine mT ?_ | refine mv ?_ | refine bn rfl rfl rfl (by simp only [e2, hbne]; rfl) ?_ | refine xt ?_ | refine ln (by simp only [↓nrmL, nrmK, qe, ↓reduceIte]; rfl) ?_ | refine nl hKF ?_ | refine sq ?_ | refine rg fun KF hKF => ?_ | refine cf rfl ?_ | refine sk ?_ | refine Wp.block ?_ | dsimp only
 refine Wp.loopS [6, 7, 11, 26, 27, 28, 29, 30, 31, 32, 33, 34] (fun i : Nat => [(26, .int .i64 i)]) (fun H4 i H5 => i ≤ m ∧ (∀ j (h : j < sts.length), j < i → fitsB a b sts[j] = true) ∧ Ext0 H4 H5) (fun i => m - i) 0 rfl (fun _ => rfl) ⟨rfl, trivial⟩ ⟨Nat.zero_le _, fun j _ hj => by omega, inferInstance⟩ (by unfold fuel0 at hn; omega) ?_
 rintro i g H5 ⟨hi, hok, ⟨hx5⟩⟩
 haveI : ExtI _ H5 := ⟨hx5⟩
 simp only [↓nrmL, nrmZ, qe, ↓reduceIte, qz, qn, qq]
 cases hc : decide ((i : Int) < (m : Int))
 rotate_left
 ·have him : i < m := by have := of_decide_eq_true hc; omega
  have his : i < sts.length := by omega
  have hwi := wa1 (a := i) (by omega)
  obtain ⟨qi, hqi, hLq⟩ := hq.it i his
  obtain ⟨qs, hqs, hqr⟩ := hLq.it
  haveI := hqs
  haveI := hqs.one
  repeat first | refine bn rfl rfl rfl (by simp only [hc]; rfl) ?_ | (refine Fo.idx (by simp only [↓nrmL, nrmK, qe, ↓reduceIte]; rfl) rfl ?_ (by simp only [↓nrmL, nrmZ, qe, ↓reduceIte, qz, qn, qq, hc]; rfl) ?_; (focus omega)) | refine nl hKF ?_ | refine sq ?_ | refine rg fun KF hKF => ?_ | refine ct rfl ?_ | refine sk ?_ | refine Wp.block ?_
  refine WpO.do (WpX.ldNP (p := q) (j := i) (m := 1) (l := [qi]) rfl (by decide) (by omega) (take_one hqi) ?_)
  repeat first | refine Fo.ldN rfl rfl (by simp only [↓nrmL, nrmZ, qe, ↓reduceIte, qz, qn, qq]; rfl) ?_ | refine nw ?_ | refine so rfl (rfl : _ = AVal.agg _) rfl rfl rfl (by simp only [↓nrmL, nrmZ, qe, ↓reduceIte, qz, qn, qq]; rfl) ?_ | refine nl hKF ?_ | refine sq ?_ | refine rg fun KF hKF => ?_
  refine WpO.do (WpX.conD hn rfl rfl (by simp only [↓nrmL, nrmZ, qe, ↓reduceIte, qz, qn, qq, List.map] <;> rfl) (K_fits (a := a) (b := b) (p := p) (q := qi) (g := l) (ls := sts[i]) (hq := hLq.ext Ext0.ext)).con fun v H6 h5 => ?_)
  obtain ⟨rfl, hx6⟩ := h5
  haveI : ExtI _ H6 := ⟨hx6⟩
  cases hf : fitsB a b sts[i]
  ·have e1 : runsS ⟨a, b, l⟩ sts most = ([], 10) := by
    have : sts.all (fitsB a b) = false := by
     cases hh : sts.all (fitsB a b) with
     | false => rfl
     | true =>
      have := List.all_eq_true.1 hh _ (List.getElem_mem his)
      rw [hf] at this; cases this
    simp only [runsS, h0, cond_true, Int.toNat_natCast, this, cond_false]
   rw [e1] at hR
   subst hR
   refine Fo.now rfl rfl (by simp only [↓nrmL, nrmZ, qe, ↓reduceIte, qz, qn, qq, hf]; rfl) ?_
   refine nl hKF ?_
   refine ct rfl ?_
   refine sq ?_
   refine rg fun KF hKF => ?_
   refine mN ?_
   refine mI ?_
   refine nl hKF ?_
   refine rt ?_
   dsimp only
   refine rz trivial ?_
   exact ⟨_, rfl, newRuns0⟩
  ·skip
   refine Fo.now rfl rfl (by simp only [↓nrmL, nrmZ, qe, ↓reduceIte, qz, qn, qq, hf]; rfl) ?_
   refine nl hKF ?_
   refine cf rfl ?_
   refine sk ?_
   refine rg fun KF hKF => ?_
   refine b0 ?_
   refine mI ?_
   refine nl hKF ?_
   dsimp only
   refine ⟨i + 1, by omega, ⟨by simp only [↓nrmL, nrmZ, qe, ↓reduceIte, qz, qn, qq]; rw [hwi], trivial⟩, by omega, fun j h1 h2 => ?_, inferInstance⟩
   by_cases e : j = i
   ·subst e; exact hf
   ·exact hok j h1 (by omega)
 have him : i = m := by have := of_decide_eq_false hc; omega
 have hfit : ∀ (j : Nat) (h : j < sts.length), fitsB a b sts[j] = true := fun j h => hok j h (by omega)
 have hall : sts.all (fitsB a b) = true := by
  rw [List.all_eq_true]
  intro s hs
  obtain ⟨j, hj, rfl⟩ := List.getElem_of_mem hs
  exact hfit j hj
 obtain ⟨L, hL⟩ : ∃ L, drawL a b sts = L := ⟨_, rfl⟩
 have e1 : runsS ⟨a, b, l⟩ sts most = (C.filter (selR L a most), 0) := by simp only [runsS, h0, cond_true, Int.toNat_natCast, hall, hC, hL]
 rw [e1] at hR
 subst hR
 repeat first | refine mv ?_ | refine fd ?_ | refine Fo.ld rfl rfl ?_ | refine bn rfl rfl rfl (by simp only [hc]; rfl) ?_ | refine nl hKF ?_ | refine sq ?_ | refine rg fun KF hKF => ?_ | refine cf rfl ?_ | refine xi ?_
 refine WpO.do (WpX.conD hn rfl rfl (by simp only [↓nrmL, nrmZ, qe, ↓reduceIte, qz, qn, qq, List.map] <;> rfl) (K_draw (a := a) (b := b) (p := q) (sts := sts) (hp := hq.ext Ext0.ext) ha hb hm hfit) fun v H6 h5 => ?_)
 obtain ⟨L', ⟨o, e4, ho, hfo, hwo, hxo⟩, hD⟩ := h5
 subst e4
 rw [← hml] at hD
 have hL' := drawn_eq hD
 rw [hL] at hL'
 subst hL'
 have hLl := hD.len
 dsimp only at ho
 haveI : ExtI _ H6 := ⟨hxo⟩
 haveI := ho.one
 haveI : RunsI H3 q2 C := hq2.sl
 repeat first | refine mI ?_ | refine mN ?_ | refine mv ?_ | refine ln (by simp only [↓nrmL, nrmK, qe, ↓reduceIte]; rfl) ?_ | refine nw ?_ | refine so rfl (rfl : _ = AVal.agg _) rfl rfl rfl (by simp only [↓nrmL, nrmZ, qe, ↓reduceIte, qz, qn, qq]; rfl) ?_ | refine nl hKF ?_ | refine sq ?_ | refine rg fun KF hKF => ?_ | refine Wp.block ?_ | dsimp only
 refine Wp.loopS (σ := Nat × AVal) [13, 15, 43, 44, 45, 46, 47, 48, 49, 50, 51, 52, 53, 54, 55, 56, 57, 58, 59, 60, 61, 62, 63] (fun s => [(43, .int .i64 (s.1 : Int)), (13, s.2)]) (fun K s H7 => s.1 ≤ C.length ∧ OwnS H7 s.2 3 ((C.take s.1).filter (selR L' a most)).length (cellsR ((C.take s.1).filter (selR L' a most))) 110 ∧ FreshS K s.2 ∧ Ext0 K H7) (fun s => C.length - s.1) (0, .nslice) rfl (fun _ => rfl) ⟨rfl, rfl, trivial⟩ ⟨Nat.zero_le _, ⟨Or.inl ⟨rfl, rfl, rfl⟩⟩, ⟨fun _ _ _ _ _ e => by cases e⟩, inferInstance⟩ (by unfold fuel0 at hn; dsimp only; omega) ?_
 rintro ⟨j, op⟩ g2 H7 ⟨hj, hop, hopf, ⟨hx7⟩⟩
 dsimp only at hj hop hopf
 haveI : ExtI _ H7 := ⟨hx7⟩
 haveI := hop.sl
 haveI := hop.sl.one
 simp only [↓nrmL, nrmZ, qe, ↓reduceIte, qz, qn, qq]
 cases hcj : decide ((j : Int) < (C.length : Int))
 ·have hjl : j = C.length := by have := of_decide_eq_false hcj; omega
  subst hjl
  rw [List.take_length] at hop
  repeat first | refine mI ?_ | refine mv ?_ | refine bn rfl rfl rfl (by simp only [hcj]; rfl) ?_ | refine nl hKF ?_ | refine sq ?_ | refine rg fun KF hKF => ?_ | refine cf rfl ?_ | refine rt ?_ | refine xi ?_ | dsimp only
  refine rz trivial ?_
  exact ⟨op, rfl, hop, hopf.weak, Ext0.ext⟩
 have hjl : j < C.length := by have := of_decide_eq_true hcj; omega
 have hwj := wa1 (a := j) (by omega)
 have hmem : C[j] ∈ allR (colO ⟨a, b, l⟩) b a := by rw [hC]; exact List.getElem_mem hjl
 obtain ⟨x, s, hxa, hsb, hst, hr⟩ := mem_allR.1 hmem
 obtain ⟨k1, k2, k3, k4⟩ := endB_spec (p := colO ⟨a, b, l⟩ x) hsb (start_p hst).1
 obtain ⟨t, htd⟩ : ∃ t, endB (colO ⟨a, b, l⟩ x) b s = t := ⟨_, rfl⟩
 rw [htd] at k1 k2
 have hr2 : C[j] = ((x : Int), (s : Int), (t : Int)) := by rw [hr, runV, htd]
 have hcg := cellsR_get (l := C) (i := j) hjl
 have hget : C.getD j run0 = C[j] := by simp [hjl]
 rw [hget, hr2] at hcg
 have hsel : selR L' a most C[j] = (decide ((t : Int) - (s : Int) < most) && touchB L' a x s t) := by rw [hr2]; rfl
 have hsn := filter_snoc (f := selR L' a most) hjl
 have w1 : IntKind.i64.wrap ((t : Int) - (s : Int)) = (t : Int) - (s : Int) := w64 (by omega)
 have hfl : ((C.take j).filter (selR L' a most)).length ≤ j := Nat.le_trans (List.length_filter_le _ _) (by rw [List.length_take]; omega)
 repeat first | refine bn rfl rfl rfl (by simp only [hcj]; rfl) ?_ | (refine Fo.idx (by simp only [↓nrmL, nrmK, qe, ↓reduceIte]; rfl) rfl ?_ (by simp only [↓nrmL, nrmZ, qe, ↓reduceIte, qz, qn, qq, hcj]; rfl) ?_; (focus omega)) | refine nl hKF ?_ | refine sq ?_ | refine rg fun KF hKF => ?_ | refine ct rfl ?_ | refine sk ?_ | refine Wp.block ?_
 refine WpO.do (WpX.ldNP (p := q2) (j := j * 3) (m := 3) rfl (by decide) (by rw [cellsR_length]; omega) hcg ?_)
 cases hd : decide ((t : Int) - (s : Int) < most)
 ·have hs0 : selR L' a most C[j] = false := by rw [hsel, hd]; rfl
  rw [hs0] at hsn
  simp only [Bool.false_eq_true, if_false, List.append_nil] at hsn
  simp only [w1, hd]
  repeat first | refine ox ?_ | refine mI ?_ | refine mB ?_ | refine fd ?_ | refine Fo.ld rfl rfl ?_ | refine bn rfl rfl rfl (by simp only [w1, hd]; rfl) ?_ | refine b0 ?_ | refine fB ?_ | refine nw ?_ | refine so rfl (rfl : _ = AVal.agg _) rfl rfl rfl (by simp only [↓nrmL, nrmZ, qe, ↓reduceIte, qz, qn, qq, w1, hd]; rfl) ?_ | refine nl hKF ?_ | refine sq ?_ | refine rg fun KF hKF => ?_ | refine cf rfl ?_ | refine sk ?_ | dsimp only
  refine ⟨(j + 1, op), by dsimp only; omega, ⟨by simp only [↓nrmL, nrmZ, qe, ↓reduceIte, qz, qn, qq]; rw [hwj], rfl, trivial⟩, by dsimp only; omega, ?_, hopf, inferInstance⟩
  dsimp only
  rw [hsn]; infer_instance
 simp only [w1, hd]
 repeat first | refine oy ?_ | refine mI ?_ | refine mB ?_ | refine fd ?_ | refine Fo.ld rfl rfl ?_ | refine Fo.ldN rfl rfl (by simp only [↓nrmL, nrmZ, qe, ↓reduceIte, qz, qn, qq, w1, hd]; rfl) ?_ | refine bn rfl rfl rfl (by simp only [w1, hd]; rfl) ?_ | refine nw ?_ | refine so rfl (rfl : _ = AVal.agg _) rfl rfl rfl (by simp only [↓nrmL, nrmZ, qe, ↓reduceIte, qz, qn, qq, w1, hd]; rfl) ?_ | refine nl hKF ?_ | refine sq ?_ | refine rg fun KF hKF => ?_
 refine WpO.do (WpX.conD hn rfl rfl (by simp only [↓nrmL, nrmZ, qe, ↓reduceIte, qz, qn, qq, List.map] <;> rfl) (K_touches (a := a) (b := b) (x := x) (s := s) (t := t) (p := o) (L := L') ha hb hxa k2 hLl) fun v H8 h5 => ?_)
 obtain ⟨rfl, hx8⟩ := h5
 haveI : ExtI _ H8 := ⟨hx8⟩
 cases htt : touchB L' a x s t
 ·have hs0 : selR L' a most C[j] = false := by rw [hsel, hd, htt]; rfl
  rw [hs0] at hsn
  simp only [Bool.false_eq_true, if_false, List.append_nil] at hsn
  simp only [↓nrmL, nrmZ, qe, ↓reduceIte, qz, qn, qq, htt]
  refine tB ?_
  refine nl hKF ?_
  refine cf rfl ?_
  refine sk ?_
  refine rg fun KF hKF => ?_
  refine b0 ?_
  refine mI ?_
  refine nl hKF ?_
  dsimp only
  refine ⟨(j + 1, op), by dsimp only; omega, ⟨by simp only [↓nrmL, nrmZ, qe, ↓reduceIte, qz, qn, qq]; rw [hwj], rfl, trivial⟩, by dsimp only; omega, ?_, hopf, inferInstance⟩
  dsimp only
  rw [hsn]; infer_instance
 have hs1 : selR L' a most C[j] = true := by rw [hsel, hd, htt]; rfl
 rw [hs1, if_pos rfl, hr2] at hsn
 have hop8 : OwnS (H8.push (.row [.int .i64 (x : Int), .int .i64 (s : Int), .int .i64 (t : Int)] true (2 * 110))) op 3 ((C.take j).filter (selR L' a most)).length (cellsR ((C.take j).filter (selR L' a most))) 110 := inferInstance
 simp only [↓nrmL, nrmZ, qe, ↓reduceIte, qz, qn, qq, htt]
 refine tB ?_
 refine nl hKF ?_
 refine ct rfl ?_
 refine rg fun KF hKF => ?_
 refine mv ?_
 refine Fo.ldN rfl rfl (by simp only [↓nrmL, nrmZ, qe, ↓reduceIte, qz, qn, qq, htt]; rfl) ?_
 refine Fo.bslice rfl (by simp only [↓nrmL, nrmZ, qe, ↓reduceIte, qz, qn, qq, htt]; rfl) ?_
 refine WpO.do (WpX.growX (p := op) (q := .slice H8.n 0 1 (some 1) 3) (k := 1) (new := [.int .i64 (x : Int), .int .i64 (s : Int), .int .i64 (t : Int)]) rfl rfl hop8 (row_one3 (inferInstance : HasRow _ H8.n [.int .i64 (x : Int), .int .i64 (s : Int), .int .i64 (t : Int)] true (2 * 110))) (by decide) (by decide) (by decide) (by omega) rfl fun op' H9 ho2 hf2 hx2 => ?_)
 haveI := ho2.sl.one
 have hx78 := (inferInstance : Ext0 H7 H8).ext
 have hn9 := hx2.n
 simp only [AHeap.push] at hn9
 have hKn := hx7.n
 refine mv ?_
 refine nl hKF ?_
 refine rg fun KF hKF => ?_
 refine b0 ?_
 refine mI ?_
 refine nl hKF ?_
 dsimp only
 refine ⟨(j + 1, op'), by dsimp only; omega, ⟨by simp only [↓nrmL, nrmZ, qe, ↓reduceIte, qz, qn, qq]; rw [hwj], rfl, trivial⟩, by dsimp only; omega, ?_, ?_, ?_⟩
 ·dsimp only
  rw [hsn, cellsR_snoc, List.length_append]
  exact ho2
 ·exact ⟨fun r _ _ _ _ e => by have h1 := hf2.ge _ _ _ _ _ e; have h2 := hx78.n; simp only [AHeap.push, AHeap.set] at h1 h2 hKn ⊢; omega⟩
 ·refine ⟨by have h2 := hx78.n; omega, fun r hr => ?_⟩
  have h2 := hx78.n
  rw [hx2.get r (by simp only [AHeap.push]; omega) ⟨fun r' _ _ _ _ e => by have := hopf.ge _ _ _ _ _ e; omega⟩, push_get_lt (by omega), hx78.get r (by omega), hx7.get r hr]
end Go.Am

namespace Go.Am
open Go
open Nat renaming reduceEqDiff → qe, reduceAdd → qz
open Int renaming reduceBEq → qn, reduceBNe → qq
attribute [local irreducible] Wp WpO WpX WpE
def inR (r : RunT) (x y : Nat) : Bool := r.1 == (x : Int) && (decide (r.2.1 ≤ (y : Int)) && decide ((y : Int) ≤ r.2.2))
def cutL (l : List UInt8) (a n : Nat) (rs : List RunT) : List UInt8 := mixP (fun k => rs.any fun r => inR r (k % a) (k / a)) (fun _ => 0) (fun k => l.getD k 0) n
noncomputable def remS (g : Img) (sts : List (List (List Int))) (most : Int) : Img × Int :=
 bif (runsS g sts most).2 == 0 then (⟨g.w, g.h, cutL g.px g.w.toNat (g.w.toNat * g.h.toNat) (runsS g sts most).1⟩, 0) else (.zero, (runsS g sts most).2)
theorem runsS_mem {g : Img} {sts : List (List (List Int))} {most : Int} {r : RunT} (h : r ∈ (runsS g sts most).1) : r ∈ allR (colO g) g.h.toNat g.w.toNat := by
 unfold runsS at h
 cases h1 : (g.err == 0) with
 | false => rw [h1] at h; cases h
 | true =>
  cases h2 : sts.all (fitsB g.w.toNat g.h.toNat) with
  | false => rw [h1, h2] at h; cases h
  | true =>
   rw [h1, h2] at h
   exact (List.mem_filter.1 h).1
theorem runsS_len (g : Img) (sts : List (List (List Int))) (most : Int) (h : g.h.toNat ≤ 640) (hw : g.w.toNat ≤ 640) : (runsS g sts most).1.length ≤ 409600 := by
 unfold runsS
 cases h1 : (g.err == 0)
 ·simp
 cases h2 : sts.all (fitsB g.w.toNat g.h.toNat)
 ·simp
 ·have h3 := allR_len (colO g) g.h.toNat g.w.toNat
  have h4 := Nat.mul_le_mul hw h
  have h5 := List.length_filter_le (selR (drawL g.w.toNat g.h.toNat sts) g.w.toNat most) (allR (colO g) g.h.toNat g.w.toNat)
  simp only [cond_true]
  omega
theorem runsS_bad {g : Img} {sts : List (List (List Int))} {most : Int} (h : (g.err == 0) = false) : ((runsS g sts most).2 == 0) = false := by
 unfold runsS
 rw [h]
 exact h
def cutP (rs : List RunT) (a i x s y k : Nat) : Bool := ((rs.take i).any fun r => inR r (k % a) (k / a)) || (k % a == x && (decide (s ≤ k / a) && decide (k / a < y)))
theorem cutP_next {rs : List RunT} {a i x s y : Nat} (hx : x < a) (hs : s ≤ y) (k : Nat) : cutP rs a i x s (y + 1) k = true ↔ cutP rs a i x s y k = true ∨ k = y * a + x := by
 simp only [cutP, Bool.or_eq_true, Bool.and_eq_true, decide_eq_true_eq, beq_iff_eq]
 obtain ⟨e1, e2⟩ := rct_at (y := y) hx
 constructor
 ·rintro (h | ⟨h1, h2, h3⟩)
  ·exact Or.inl (Or.inl h)
  ·by_cases h4 : k / a < y
   ·exact Or.inl (Or.inr ⟨h1, h2, h4⟩)
   ·exact Or.inr (div_inj (a := a) (by rw [e1, h1]) (by rw [e2]; omega))
 ·rintro ((h | ⟨h1, h2, h3⟩) | h)
  ·exact Or.inl h
  ·exact Or.inr ⟨h1, h2, by omega⟩
  ·subst h; exact Or.inr ⟨e1, by rw [e2]; exact hs, by rw [e2]; omega⟩
theorem cutP_start (rs : List RunT) (a i x s k : Nat) : cutP rs a i x s s k = ((rs.take i).any fun r => inR r (k % a) (k / a)) := by
 unfold cutP
 have : (k % a == x && (decide (s ≤ k / a) && decide (k / a < s))) = false := by
  by_cases h : s ≤ k / a
  ·rw [decide_eq_false (p := k / a < s) (by omega)]; simp
  ·rw [decide_eq_false h]; simp
 rw [this, Bool.or_false]
theorem cutP_done {rs : List RunT} {a i x s t : Nat} (hi : i < rs.length) (hr : rs[i] = ((x : Int), (s : Int), (t : Int))) (k : Nat) : cutP rs a i x s (t + 1) k = ((rs.take (i + 1)).any fun r => inR r (k % a) (k / a)) := by
 unfold cutP
 rw [List.take_succ_eq_append_getElem hi, List.any_append, hr]
 simp only [List.any_cons, List.any_nil, Bool.or_false, inR]
 congr 1
 rw [Bool.eq_iff_iff]
 simp only [Bool.and_eq_true, decide_eq_true_eq, beq_iff_eq]
 omega
theorem K_Remove {w h most : Int} {m : Nat} {p q : AVal} {H : AHeap} {l : List UInt8} {cells : List AVal} {sts : List (List (List Int))} [hp : BytesI H p l] [hq : StavesI H q m cells sts] (hm : m ≤ 1000) : Con ext prog 10 38 [.agg [.int .i64 w, .int .i64 h, p], q, .int .i64 most] H fun v H' => InkRes H H' v (remS ⟨w, h, l⟩ sts most) := by
 refine con_of (show prog 38 = some c38 from rfl) rfl rfl fun n hn => ?_
 have hsl := hq.sl
 haveI := hsl.one
 haveI := hp.one
 obtain ⟨R, hR⟩ : ∃ R, remS ⟨w, h, l⟩ sts most = R := ⟨_, rfl⟩
 rw [hR]
 repeat first | refine mI ?_ | refine mv ?_ | refine Fo.ldN rfl rfl (by simp only [↓nrmL, nrmZ, qe, ↓reduceIte, qz, qn, qq]; rfl) ?_ | refine bA ?_ | refine nw ?_ | refine nl hKF ?_ | refine sq ?_ | refine rg fun KF hKF => ?_
 refine WpO.do (WpX.conD hn rfl rfl (by simp only [↓nrmL, nrmZ, qe, ↓reduceIte, qz, qn, qq, List.map] <;> rfl) (K_Runs (p := p) (q := q) (l := l) (sts := sts) (hq := hq.ext Ext0.ext) hm) fun v H3 h5 => ?_)
 obtain ⟨q2, e1, hq2, hfq2, hxq2⟩ := h5
 subst e1
 haveI : ExtI _ H3 := ⟨hxq2⟩
 haveI := hq2.sl.one
 cases h0 : ((runsS ⟨w, h, l⟩ sts most).2 == 0)
 ·have e1 : remS ⟨w, h, l⟩ sts most = (.zero, (runsS ⟨w, h, l⟩ sts most).2) := by simp only [remS, h0, cond_false]
  rw [e1] at hR
  subst hR
  repeat first | refine mI ?_ | refine mT ?_ | refine mv ?_ | refine bn rfl rfl rfl (by simp only [h0, bne]; rfl) ?_ | refine xt ?_ | (refine ob (cs' := ?_) ?hc ?_; case hc => rfl) | refine so rfl (rfl : _ = AVal.agg _) rfl rfl rfl (by simp only [↓nrmL, nrmZ, qe, ↓reduceIte, qz, qn, qq, h0, bne]; rfl) ?_ | refine nl hKF ?_ | refine sq ?_ | refine rg fun KF hKF => ?_ | refine ct rfl ?_ | refine rt ?_ | dsimp only
  refine rz trivial ?_
  exact ⟨_, rfl, newZero⟩
 have he0 : (Img.err ⟨w, h, l⟩ == 0) = true := by
  cases hh : (Img.err ⟨w, h, l⟩ == 0)
  ·have := runsS_bad (sts := sts) (most := most) hh
   rw [h0] at this; cases this
  ·rfl
 obtain ⟨a, b, rfl, rfl, ok⟩ := ok_of he0
 have ha := ok.wa
 have hb := ok.hb
 have hlen := ok.len
 have hab : a * b ≤ 640 * 640 := Nat.mul_le_mul ha hb
 obtain ⟨C, hC⟩ : ∃ C, (runsS ⟨a, b, l⟩ sts most).1 = C := ⟨_, rfl⟩
 have hCl : C.length ≤ 409600 := by rw [← hC]; exact runsS_len _ _ _ (by simpa using hb) (by simpa using ha)
 have hCm : ∀ r ∈ C, r ∈ allR (colO ⟨a, b, l⟩) b a := fun r hr => by rw [← hC] at hr; exact runsS_mem hr
 have e1 : remS ⟨a, b, l⟩ sts most = (⟨a, b, cutL l a (a * b) C⟩, 0) := by simp only [remS, h0, cond_true, Int.toNat_natCast, hC]
 rw [e1] at hR
 subst hR
 rw [hC] at hq2
 have hbne : ((0 : Int) != 0) = false := rfl
 have hz : (runsS ⟨a, b, l⟩ sts most).2 = 0 := by simpa using h0
 simp only [hz, hbne]
 repeat first | refine mI ?_ | refine mT ?_ | refine mv ?_ | refine Fo.ldN rfl rfl (by simp only [↓nrmL, nrmZ, qe, ↓reduceIte, qz, qn, qq, hz, hbne]; rfl) ?_ | refine bn rfl rfl rfl (by simp only [hz, hbne]; rfl) ?_ | refine xt ?_ | refine nl hKF ?_ | refine sq ?_ | refine rg fun KF hKF => ?_ | refine cf rfl ?_ | refine sk ?_
 refine WpO.do (WpX.conD hn rfl rfl (by simp only [↓nrmL, nrmZ, qe, ↓reduceIte, qz, qn, qq, List.map] <;> rfl) (K_stTwin (l := l) (by omega)) fun v H6 h5 => ?_)
 obtain ⟨o, e2, ho, hfo, hwo, hxo⟩ := h5
 subst e2
 dsimp only at ho
 haveI : ExtI _ H6 := ⟨hxo⟩
 haveI := ho.one
 haveI : RunsI H3 q2 C := hq2.sl
 refine nw ?_
 refine so rfl (rfl : _ = AVal.agg _) rfl rfl rfl (by simp only [↓nrmL, nrmZ, qe, ↓reduceIte, qz, qn, qq]; rfl) ?_
 refine nl hKF ?_
 refine sq ?_
 refine sq ?_
 refine rg fun KF hKF => ?_
 refine mv ?_
 refine ln (by simp only [↓nrmL, nrmK, qe, ↓reduceIte]; rfl) ?_
 refine mI ?_
 refine nl hKF ?_
 refine Wp.block ?_
 dsimp only
 refine Wp.loopS [12, 13, 29, 30, 31, 32, 33, 34, 35, 36, 37, 38, 39, 40, 41, 42, 43, 44, 45, 46, 47, 48, 49, 50, 51] (fun i : Nat => [(29, .int .i64 i)]) (fun K i H7 => i ≤ C.length ∧ BytesI H7 o (mixP (fun k => (C.take i).any fun r => inR r (k % a) (k / a)) (fun _ => 0) (fun k => l.getD k 0) (a * b)) ∧ WrS H7 o ∧ ExtP0 K H7 o) (fun i => C.length - i) 0 rfl (fun _ => rfl) ⟨rfl, trivial⟩ ⟨Nat.zero_le _, ?_, inferInstance, inferInstance⟩ (by unfold fuel0 at hn; omega) ?_
 ·have e0 : mixP (fun k => (C.take 0).any fun r => inR r (k % a) (k / a)) (fun _ => 0) (fun k => l.getD k 0) (a * b) = l := by
   apply List.ext_getElem
   ·simp [mixP, hlen]
   ·intro j h1 h2
    simp [mixP, List.getD_eq_getElem?_getD, List.getElem?_eq_getElem h2]
  rw [e0]; infer_instance
 rintro i g H7 ⟨hi, hb7, hw7, ⟨hx7⟩⟩
 haveI := hx7
 simp only [↓nrmL, nrmZ, qe, ↓reduceIte, qz, qn, qq]
 cases hc : decide ((i : Int) < (C.length : Int))
 ·have hil : i = C.length := by have := of_decide_eq_false hc; omega
  rw [hil, List.take_length] at hb7
  repeat first | refine mI ?_ | refine Fo.ldN rfl rfl (by simp only [↓nrmL, nrmZ, qe, ↓reduceIte, qz, qn, qq, hc]; rfl) ?_ | refine bn rfl rfl rfl (by simp only [hc]; rfl) ?_ | refine so rfl (rfl : _ = AVal.agg _) rfl rfl rfl (by simp only [↓nrmL, nrmZ, qe, ↓reduceIte, qz, qn, qq, hc]; rfl) ?_ | refine nl hKF ?_ | refine sq ?_ | refine rg fun KF hKF => ?_ | refine cf rfl ?_ | refine rt ?_ | refine xi ?_ | dsimp only
  refine rz trivial ?_
  exact ⟨_, rfl, o, rfl, (show BytesI _ o (cutL l a (a * b) C) from inferInstance), hfo.weak, inferInstance, Ext0.ext⟩
 have hil : i < C.length := by have := of_decide_eq_true hc; omega
 have hwi := wa1 (a := i) (by omega)
 obtain ⟨x, s, hxa, hsb, hst, hr⟩ := mem_allR.1 (hCm _ (List.getElem_mem hil))
 obtain ⟨k1, k2, k3, k4⟩ := endB_spec (p := colO ⟨a, b, l⟩ x) hsb (start_p hst).1
 obtain ⟨t, htd⟩ : ∃ t, endB (colO ⟨a, b, l⟩ x) b s = t := ⟨_, rfl⟩
 rw [htd] at k1 k2
 have hr2 : C[i] = ((x : Int), (s : Int), (t : Int)) := by rw [hr, runV, htd]
 have hcg := cellsR_get (l := C) (i := i) hil
 have hget : C.getD i run0 = C[i] := by simp [hil]
 rw [hget, hr2] at hcg
 repeat first | refine bn rfl rfl rfl (by simp only [hc]; rfl) ?_ | (refine Fo.idx (by simp only [↓nrmL, nrmK, qe, ↓reduceIte]; rfl) rfl ?_ (by simp only [↓nrmL, nrmZ, qe, ↓reduceIte, qz, qn, qq, hc]; rfl) ?_; (focus omega)) | refine nl hKF ?_ | refine sq ?_ | refine rg fun KF hKF => ?_ | refine ct rfl ?_ | refine sk ?_ | refine Wp.block ?_
 refine WpO.do (WpX.ldNP (p := q2) (j := i * 3) (m := 3) rfl (by decide) (by rw [cellsR_length]; omega) hcg ?_)
 refine nw ?_
 refine so rfl (rfl : _ = AVal.agg _) rfl rfl rfl (by simp only [↓nrmL, nrmZ, qe, ↓reduceIte, qz, qn, qq]; rfl) ?_
 refine nl hKF ?_
 refine sq ?_
 refine rg fun KF hKF => ?_
 refine fd ?_
 refine Fo.ld rfl rfl ?_
 refine mI ?_
 refine nl hKF ?_
 refine Wp.block ?_
 dsimp only
 refine Wp.loopS [13, 35, 36, 37, 38, 39, 40, 41, 42, 43, 44, 45, 46, 47, 48, 49, 50] (fun y : Nat => [(13, .int .i64 y)]) (fun K y H8 => s ≤ y ∧ y ≤ t + 1 ∧ BytesI H8 o (mixP (cutP C a i x s y) (fun _ => 0) (fun k => l.getD k 0) (a * b)) ∧ WrS H8 o ∧ ExtP0 K H8 o) (fun y => t + 1 - y) s rfl (fun _ => rfl) ⟨rfl, trivial⟩ ⟨Nat.le_refl _, by omega, by rw [show (cutP C a i x s s) = (fun k => (C.take i).any fun r => inR r (k % a) (k / a)) from funext (cutP_start C a i x s)]; infer_instance, inferInstance, inferInstance⟩ (by unfold fuel0 at hn; omega) ?_
 rintro y g2 H8 ⟨hy1, hy2, hb8, hw8, ⟨hx8⟩⟩
 haveI := hx8
 simp only [↓nrmL, nrmZ, qe, ↓reduceIte, qz, qn, qq]
 cases hcy : decide ((y : Int) ≤ (t : Int))
 ·have hyt : y = t + 1 := by have := of_decide_eq_false hcy; omega
  subst hyt
  rw [show (cutP C a i x s (t + 1)) = (fun k => (C.take (i + 1)).any fun r => inR r (k % a) (k / a)) from funext (cutP_done hil hr2)] at hb8
  repeat first | refine mI ?_ | refine fd ?_ | refine Fo.ld rfl rfl ?_ | refine bn rfl rfl rfl (by simp only [hcy]; rfl) ?_ | refine b0 ?_ | refine nl hKF ?_ | refine sq ?_ | refine rg fun KF hKF => ?_ | refine cf rfl ?_ | refine xi ?_ | dsimp only
  exact ⟨i + 1, by omega, ⟨by simp only [↓nrmL, nrmZ, qe, ↓reduceIte, qz, qn, qq]; rw [hwi], trivial⟩, by omega, inferInstance, inferInstance, inferInstance⟩
 have hyt : y ≤ t := by have := of_decide_eq_true hcy; omega
 have hlt := idx_lt hxa (show y < b by omega)
 have m1 : IntKind.i64.wrap ((y : Int) * (a : Int)) = ((y * a : Nat) : Int) := wm (by omega)
 have m2 : IntKind.i64.wrap (((y * a : Nat) : Int) + (x : Int)) = ((y * a + x : Nat) : Int) := wa (by omega)
 have hwy := wa1 (a := y) (by omega)
 have hml := mixP_length (cutP C a i x s y) (fun _ => 0) (fun k => l.getD k 0) (a * b)
 repeat first | refine mI ?_ | refine fd ?_ | refine Fo.ld rfl rfl ?_ | refine bn rfl rfl rfl (by simp only [hcy, m1, m2]; rfl) ?_ | (refine Fo.idx (by simp only [↓nrmL, nrmK, qe, ↓reduceIte]; rfl) rfl ?_ (by simp only [↓nrmL, nrmZ, qe, ↓reduceIte, qz, qn, qq, hcy, m1, m2]; rfl) ?_; (focus omega)) | refine nl hKF ?_ | refine sq ?_ | refine rg fun KF hKF => ?_ | refine ct rfl ?_ | refine sk ?_ | refine Wp.block ?_
 refine WpO.do' (WpX.stB (0 : UInt8) rfl rfl rfl (by rw [hml]; omega) fun H9 hb9 hw9 hx9 => ?_)
 haveI := hx9
 rw [show (0 : UInt8) = (fun _ : Nat => (0 : UInt8)) (y * a + x) from rfl, mixP_set (Q := cutP C a i x s (y + 1)) fun k _ => cutP_next hxa hy1 k] at hb9
 repeat first | refine mI ?_ | refine b0 ?_ | refine nl hKF ?_ | refine rg fun KF hKF => ?_ | dsimp only
 exact ⟨y + 1, by omega, ⟨by simp only [↓nrmL, nrmZ, qe, ↓reduceIte, qz, qn, qq]; rw [hwy], trivial⟩, by omega, by omega, hb9, hw9, inferInstance⟩
end Go.Am

namespace Go.Am
open Go
theorem inR_run {o : Nat → Nat → Bool} {len a x y s : Nat} : inR (runV o len a s) x y = true ↔ a = x ∧ s ≤ y ∧ y ≤ endB (o a) len s := by
  unfold inR runV
  simp only [Bool.and_eq_true, beq_iff_eq, decide_eq_true_eq]
  omega
theorem colO_nat {a b x y : Nat} {l : List UInt8} (hx : x < a) (hy : y < b) : colO ⟨a, b, l⟩ x y = (l.getD (y * a + x) 0 == 1) := inkB_nat hx hy
def selB (L : List UInt8) (a : Nat) (most : Int) (x s t : Nat) : Bool := decide ((t : Int) - (s : Int) < most) && touchB L a x s t
theorem selR_run {o : Nat → Nat → Bool} {L : List UInt8} {len a x s : Nat} {most : Int} : selR L a most (runV o len x s) = selB L a most x s (endB (o x) len s) := by
  unfold selR runV selB
  simp
theorem cut_at {a b x y : Nat} {l : List UInt8} {f : RunT → Bool} (hx : x < a) (hy : y < b) : (cutL l a (a * b) ((allR (colO ⟨a, b, l⟩) b a).filter f)).getD (y * a + x) 0 = if (∃ s, s < b ∧ startB (colO ⟨a, b, l⟩ x) s = true ∧ s ≤ y ∧ y ≤ endB (colO ⟨a, b, l⟩ x) b s ∧ f (runV (colO ⟨a, b, l⟩) b x s) = true) then 0 else l.getD (y * a + x) 0 := by
  have hlt := idx_lt hx hy
  obtain ⟨e1, e2⟩ := rct_at (y := y) hx
  unfold cutL mixP
  rw [List.getD_eq_getElem?_getD, List.getElem?_eq_getElem (by simpa using hlt), Option.getD_some]
  simp only [List.getElem_map, List.getElem_range, e1, e2]
  have key : (((allR (colO ⟨a, b, l⟩) b a).filter f).any fun r => inR r x y) = true ↔ (∃ s, s < b ∧ startB (colO ⟨a, b, l⟩ x) s = true ∧ s ≤ y ∧ y ≤ endB (colO ⟨a, b, l⟩ x) b s ∧ f (runV (colO ⟨a, b, l⟩) b x s) = true) := by
    rw [List.any_eq_true]
    constructor
    · rintro ⟨r, hr, h2⟩
      obtain ⟨h3, h4⟩ := List.mem_filter.1 hr
      obtain ⟨x', s, h5, h6, h7, rfl⟩ := mem_allR.1 h3
      obtain ⟨rfl, h8, h9⟩ := inR_run.1 h2
      exact ⟨s, h6, h7, h8, h9, h4⟩
    · rintro ⟨s, h1, h2, h3, h4, h5⟩
      exact ⟨_, List.mem_filter.2 ⟨mem_allR.2 ⟨x, s, hx, h1, h2, rfl⟩, h5⟩, inR_run.2 ⟨rfl, h3, h4⟩⟩
  by_cases h : (∃ s, s < b ∧ startB (colO ⟨a, b, l⟩ x) s = true ∧ s ≤ y ∧ y ≤ endB (colO ⟨a, b, l⟩ x) b s ∧ f (runV (colO ⟨a, b, l⟩) b x s) = true)
  · rw [if_pos h, if_pos (key.2 h)]
  · rw [if_neg h, if_neg (fun q => h (key.1 q))]
theorem cut_len (l : List UInt8) (a n : Nat) (rs : List RunT) : (cutL l a n rs).length = n := mixP_length _ _ _ _
theorem cut_ok {a b : Nat} {l : List UInt8} {rs : List RunT} (h : Ok a b l) : Ok a b (cutL l a (a * b) rs) := by
  refine ⟨h.wa, h.hb, cut_len _ _ _ _, ?_⟩
  unfold cutL mixP
  exact pxOk_map fun k hk => by
    split
    · exact Or.inl rfl
    · exact px_01 h.px k
theorem cut_run {a b x y s : Nat} {l L : List UInt8} {most : Int} (hok : Ok a b l) (hx : x < a) (hs : startB (colO ⟨a, b, l⟩ x) s = true) (hsb : s < b) (h1 : s ≤ y) (h2 : y ≤ endB (colO ⟨a, b, l⟩ x) b s) : (cutL l a (a * b) ((allR (colO ⟨a, b, l⟩) b a).filter (selR L a most))).getD (y * a + x) 0 = if selB L a most x s (endB (colO ⟨a, b, l⟩ x) b s) = true then 0 else 1 := by
  obtain ⟨k1, k2, k3, k4⟩ := endB_spec (p := colO ⟨a, b, l⟩ x) hsb (start_p hs).1
  have hy : y < b := by omega
  rw [cut_at hx hy]
  have hp := k3 y h1 h2
  rw [colO_nat hx hy] at hp
  have hp1 : l.getD (y * a + x) 0 = 1 := by simpa using hp
  by_cases h : selB L a most x s (endB (colO ⟨a, b, l⟩ x) b s) = true
  · rw [if_pos h, if_pos ⟨s, hsb, hs, h1, h2, by rw [selR_run]; exact h⟩]
  · rw [if_neg h, if_neg, hp1]
    rintro ⟨s', a1, a2, a3, a4, a5⟩
    obtain rfl := run_unique hs a2 hsb a1 h1 h2 a3 a4
    rw [selR_run] at a5
    exact h a5
theorem cut_paper {a b x y : Nat} {l L : List UInt8} {most : Int} (hx : x < a) (hy : y < b) (h : l.getD (y * a + x) 0 = 0) : (cutL l a (a * b) ((allR (colO ⟨a, b, l⟩) b a).filter (selR L a most))).getD (y * a + x) 0 = 0 := by
  rw [cut_at hx hy]
  split
  · rfl
  · exact h
end Go.Am

namespace Go.Am
open Go
def cellsO (l : List Bool) : List AVal := l.map .bool
abbrev BoolsI (H : AHeap) (p : AVal) (l : List Bool) : Prop := SliceAt H p 1 l.length (cellsO l)
section
variable {call : ACall} {fr : AFrame} {H : AHeap} {K : AVal → AHeap → Prop}
theorem WpX.stO {a x : ROpd} {p : AVal} {j : Nat} {l : List Bool} {b : Bool} (ha : a.ev fr = .ptr (rowOf p) (offOf p + j)) (hx : x.ev fr = .bool b) [s : BoolsI H p l] [w : WrS H p] (hj : j < l.length)
    (h : ∀ H1, BoolsI H1 p (l.set j b) → WrS H1 p → ExtP H H1 p → K aundef H1) : WpX (.store 1 a x) call fr H K := by
  refine WpX.stP ha hx rfl rfl (by rw [cellsO, List.length_map]; exact hj) fun H1 h1 h2 h3 => h H1 ?_ h2 h3
  have e : (cellsO l).set j (.bool b) = cellsO (l.set j b) := by simp [cellsO, List.map_set]
  rw [e] at h1
  unfold BoolsI
  rw [List.length_set]
  exact h1
end
end Go.Am

namespace Go.Am
open Go
structure DrawnB (L : List Bool) (n : Nat) (D : Nat → Prop) : Prop where
  len : L.length = n
  it : ∀ j, j < n → (L.getD j false = true ∧ D j) ∨ (L.getD j false = false ∧ ¬ D j)
theorem DrawnB.congr {L : List Bool} {n : Nat} {D E : Nat → Prop} (h : DrawnB L n D) (hE : ∀ j, D j ↔ E j) : DrawnB L n E := ⟨h.len, fun j hj => by rw [← hE j]; exact h.it j hj⟩
theorem DrawnB.set {L : List Bool} {n k : Nat} {D E : Nat → Prop} (h : DrawnB L n D) (hk : k < n) (hE : ∀ j, E j ↔ D j ∨ j = k) : DrawnB (L.set k true) n E := by
  refine ⟨by rw [List.length_set]; exact h.len, fun j hj => ?_⟩
  rw [hE j]
  by_cases e : j = k
  · subst e
    left
    exact ⟨by rw [List.getD_eq_getElem?_getD, List.getElem?_set_self (by rw [h.len]; exact hk)]; rfl, Or.inr rfl⟩
  · rw [List.getD_eq_getElem?_getD, List.getElem?_set_ne (fun q => e q.symm), ← List.getD_eq_getElem?_getD]
    rcases h.it j hj with ⟨h1, h2⟩ | ⟨h1, h2⟩
    · exact Or.inl ⟨h1, Or.inl h2⟩
    · exact Or.inr ⟨h1, fun q => q.elim h2 e⟩
theorem DrawnB.zero {n a : Nat} {sts : List (List (List Int))} : DrawnB (List.replicate n false) n (Dr a sts 0 0 0) := ⟨List.length_replicate, fun j hj => Or.inr ⟨by rw [List.getD_eq_getElem?_getD, List.getElem?_replicate, if_pos hj]; rfl, Dr.none⟩⟩
theorem drawL_drawn (a b : Nat) (sts : List (List (List Int))) : Drawn (drawL a b sts) (a * b) (Dr a sts sts.length 0 0) := by
  classical
  refine ⟨by simp [drawL], fun j hj => ?_⟩
  have : (drawL a b sts).getD j 0 = if Dr a sts sts.length 0 0 j then 1 else 0 := by
    unfold drawL
    rw [List.getD_eq_getElem?_getD, List.getElem?_eq_getElem (by simpa using hj), Option.getD_some]
    simp
  rw [this]
  by_cases h : Dr a sts sts.length 0 0 j
  · exact Or.inl ⟨by rw [if_pos h], h⟩
  · exact Or.inr ⟨by rw [if_neg h], h⟩
theorem remS_ok {a b : Nat} {l : List UInt8} {sts : List (List (List Int))} {most : Int} (h : Ok a b l) (hf : sts.all (fitsB a b) = true) : remS ⟨a, b, l⟩ sts most = (⟨a, b, cutL l a (a * b) ((allR (colO ⟨a, b, l⟩) b a).filter (selR (drawL a b sts) a most))⟩, 0) := by
  have h1 : runsS ⟨a, b, l⟩ sts most = ((allR (colO ⟨a, b, l⟩) b a).filter (selR (drawL a b sts) a most), 0) := by
    simp only [runsS, err_ok h, cond_true, Int.toNat_natCast, hf]
  simp only [remS, h1, Int.toNat_natCast]
  rfl
end Go.Am

namespace Go.Am
open Go
def lenG (ls : List (List Int)) : Nat := (ls.getD 0 []).length
def colG (ls : List (List Int)) (m : Nat) : Nat := if m % 2 = 0 then 0 else lenG ls - 1
def gapG (ls : List (List Int)) (m : Nat) : Int := (ls.getD (m / 2 + 1) []).getD (colG ls m) 0 - (ls.getD (m / 2) []).getD (colG ls m) 0
def groupB (ls : List (List Int)) : Bool := decide (lenG ls ≠ 0) && ((List.range 5).all (fun i => (ls.getD i []).length == lenG ls) && (List.range 8).all fun m => decide (2 ≤ gapG ls m) && (decide (gapG ls m ≤ 64) && (List.range 8).all fun k => decide (gapG ls m - gapG ls k ≤ 2)))
theorem groupB_iff {ls : List (List Int)} : groupB ls = true ↔ lenG ls ≠ 0 ∧ (∀ i, i < 5 → (ls.getD i []).length = lenG ls) ∧ ∀ m, m < 8 → 2 ≤ gapG ls m ∧ gapG ls m ≤ 64 ∧ ∀ k, k < 8 → gapG ls m - gapG ls k ≤ 2 := by
  simp only [groupB, Bool.and_eq_true, List.all_eq_true, List.mem_range, decide_eq_true_eq, beq_iff_eq]
theorem groupB_no {ls : List (List Int)} (h : ¬ (lenG ls ≠ 0 ∧ (∀ i, i < 5 → (ls.getD i []).length = lenG ls) ∧ ∀ m, m < 8 → 2 ≤ gapG ls m ∧ gapG ls m ≤ 64 ∧ ∀ k, k < 8 → gapG ls m - gapG ls k ≤ 2)) : groupB ls = false := by
  cases hg : groupB ls
  · rfl
  · exact absurd (groupB_iff.1 hg) h
structure GI (ls : List (List Int)) (m : Nat) (le gr : Int) : Prop where
  rng : ∀ k, k < m → 2 ≤ gapG ls k ∧ gapG ls k ≤ 64 ∧ le ≤ gapG ls k ∧ gapG ls k ≤ gr
  att : (m = 0 ∧ le = 64 ∧ gr = 2) ∨ ((∃ k, k < m ∧ gapG ls k = le) ∧ ∃ k, k < m ∧ gapG ls k = gr)
theorem GI.zero (ls : List (List Int)) : GI ls 0 64 2 := ⟨fun k h => by omega, Or.inl ⟨rfl, rfl, rfl⟩⟩
theorem GI.next {ls : List (List Int)} {m : Nat} {le gr : Int} (h : GI ls m le gr) (h1 : 2 ≤ gapG ls m) (h2 : gapG ls m ≤ 64) : GI ls (m + 1) (if gapG ls m < le then gapG ls m else le) (if gapG ls m > gr then gapG ls m else gr) := by
  constructor
  · intro k hk
    by_cases e : k = m
    · subst e; split <;> split <;> omega
    · have := h.rng k (by omega)
      split <;> split <;> omega
  · right
    rcases h.att with ⟨rfl, rfl, rfl⟩ | ⟨⟨k1, a1, a2⟩, k2, b1, b2⟩
    · refine ⟨⟨0, by omega, ?_⟩, 0, by omega, ?_⟩
      · split <;> omega
      · split <;> omega
    · constructor
      · split
        · exact ⟨m, by omega, rfl⟩
        · exact ⟨k1, by omega, a2⟩
      · split
        · exact ⟨m, by omega, rfl⟩
        · exact ⟨k2, by omega, b2⟩
theorem GI.bound {ls : List (List Int)} {m : Nat} {le gr : Int} (h : GI ls m le gr) : 2 ≤ le ∧ le ≤ 64 ∧ 2 ≤ gr ∧ gr ≤ 64 := by
  rcases h.att with ⟨_, rfl, rfl⟩ | ⟨⟨k1, a1, a2⟩, k2, b1, b2⟩
  · omega
  · have := h.rng k1 a1
    have := h.rng k2 b1
    omega
theorem GI.done {ls : List (List Int)} {le gr : Int} (h : GI ls 8 le gr) (h0 : lenG ls ≠ 0) (hl : ∀ i, i < 5 → (ls.getD i []).length = lenG ls) : groupB ls = decide (gr - le ≤ 2) := by
  cases hd : decide (gr - le ≤ 2)
  · have hd := of_decide_eq_false hd
    refine groupB_no fun ⟨_, _, h3⟩ => ?_
    rcases h.att with ⟨e, _, _⟩ | ⟨⟨k1, a1, a2⟩, k2, b1, b2⟩
    · cases e
    · have := (h3 k2 b1).2.2 k1 a1
      omega
  · have hd := of_decide_eq_true hd
    refine groupB_iff.2 ⟨h0, hl, fun m hm => ⟨(h.rng m hm).1, (h.rng m hm).2.1, fun k hk => ?_⟩⟩
    have := h.rng m hm
    have := h.rng k hk
    omega
def stvF : Nat → List (List Int) → List (List (List Int))
  | 0, _ => []
  | f + 1, ls => if ls.length < 5 then [] else if groupB (ls.take 5) = true then ls.take 5 :: stvF f (ls.drop 5) else stvF f (ls.drop 1)
theorem stvF_eq : ∀ (f g : Nat) (ls : List (List Int)), ls.length ≤ f → ls.length ≤ g → stvF f ls = stvF g ls
  | 0, 0, _, _, _ => rfl
  | 0, g + 1, ls, h, _ => by
    simp only [stvF]; rw [if_pos (by omega)]
  | f + 1, 0, ls, _, h => by
    simp only [stvF]; rw [if_pos (by omega)]
  | f + 1, g + 1, ls, h1, h2 => by
    simp only [stvF]
    by_cases h : ls.length < 5
    · rw [if_pos h, if_pos h]
    · rw [if_neg h, if_neg h, stvF_eq f g (ls.drop 5) (by rw [List.length_drop]; omega) (by rw [List.length_drop]; omega), stvF_eq f g (ls.drop 1) (by rw [List.length_drop]; omega) (by rw [List.length_drop]; omega)]
def stavesS (ls : List (List Int)) : List (List (List Int)) := stvF ls.length ls
theorem stavesS_few {ls : List (List Int)} (h : ls.length < 5) : stavesS ls = [] := by
  unfold stavesS
  cases hl : ls.length with
  | zero => rfl
  | succ k => simp only [stvF]; rw [if_pos h]
theorem stavesS_yes {ls : List (List Int)} (h : ¬ ls.length < 5) (hg : groupB (ls.take 5) = true) : stavesS ls = ls.take 5 :: stavesS (ls.drop 5) := by
  unfold stavesS
  obtain ⟨k, hk⟩ : ∃ k, ls.length = k + 1 := ⟨ls.length - 1, by omega⟩
  rw [hk]
  simp only [stvF]
  rw [if_neg h, if_pos hg, stvF_eq k _ (ls.drop 5) (by rw [List.length_drop]; omega) (Nat.le_refl _)]
theorem stavesS_no {ls : List (List Int)} (h : ¬ ls.length < 5) (hg : groupB (ls.take 5) = false) : stavesS ls = stavesS (ls.drop 1) := by
  unfold stavesS
  obtain ⟨k, hk⟩ : ∃ k, ls.length = k + 1 := ⟨ls.length - 1, by omega⟩
  rw [hk]
  simp only [stvF]
  rw [if_neg h, if_neg (by rw [hg]; decide), stvF_eq k _ (ls.drop 1) (by rw [List.length_drop]; omega) (Nat.le_refl _)]
theorem stvF_len : ∀ (f : Nat) (ls : List (List Int)), (stvF f ls).length ≤ ls.length
  | 0, ls => by simp [stvF]
  | f + 1, ls => by
    simp only [stvF]
    split
    · simp
    · split
      · have := stvF_len f (ls.drop 5)
        rw [List.length_drop] at this
        simp only [List.length_cons]; omega
      · have := stvF_len f (ls.drop 1)
        rw [List.length_drop] at this
        omega
class ModL (ls : List (List Int)) : Prop where
  it : ∀ i x, -1099511627776 ≤ (ls.getD i []).getD x 0 ∧ (ls.getD i []).getD x 0 ≤ 1099511627776
theorem getD_drop {α : Type} {l : List α} {a i : Nat} {d : α} : (l.drop a).getD i d = l.getD (a + i) d := by simp [List.getD_eq_getElem?_getD]
theorem ModL.drop {ls : List (List Int)} (h : ModL ls) (a : Nat) : ModL (ls.drop a) := ⟨fun i x => by rw [getD_drop]; exact h.it _ _⟩
theorem ModL.take {ls : List (List Int)} (h : ModL ls) (b : Nat) : ModL (ls.take b) := ⟨fun i x => by
  by_cases hi : i < b
  · have : (ls.take b).getD i [] = ls.getD i [] := by simp [List.getD_eq_getElem?_getD, List.getElem?_take, hi]
    rw [this]; exact h.it _ _
  · have : (ls.take b).getD i [] = [] := by simp [List.getD_eq_getElem?_getD, List.getElem?_take, hi]
    rw [this]; simp⟩
end Go.Am

namespace Go.Am
open Go
def rowT (lo : Nat) (L : List Int) (t x : Nat) : Nat := (5 + (lo : Int) + 36 * ((t / 5 : Nat) : Int) + 6 * ((t % 5 : Nat) : Int) + L.getD x 0).toNat
def bdT (L : List Int) (x : Nat) : Nat := if L.getD x 0 = L.getD (x + 1) 0 then 0 else 1
theorem rowT_eq {lo : Nat} {L : List Int} (hlo : ∀ x, -(lo : Int) ≤ L.getD x 0) (t x : Nat) : (rowT lo L t x : Int) = 5 + (lo : Int) + 36 * ((t / 5 : Nat) : Int) + 6 * ((t % 5 : Nat) : Int) + L.getD x 0 := by
  unfold rowT
  have := hlo x
  rw [Int.toNat_of_nonneg]
  omega
theorem bt_nb {L : List Int} {w : Nat} : ∀ d, d + 1 ≤ w → (nbF L (w - d) : Int) + btF (bdT L) w d = (nbF L w : Int)
  | 0, _ => by simp [btF]
  | d + 1, h => by
    have ih := bt_nb (L := L) (w := w) d (by omega)
    obtain ⟨k, hk⟩ : ∃ k, w - (d + 1) = k := ⟨_, rfl⟩
    rw [show w - d = k + 1 by omega] at ih
    simp only [btF, nbF] at ih ⊢
    rw [hk, show w - 1 - (d + 1) = k - 1 by omega]
    have e : (if k = 0 ∨ L.getD (k - 1) 0 = L.getD k 0 then 0 else 1) = bdT L (k - 1) := by
      unfold bdT
      rw [show k - 1 + 1 = k by omega]
      by_cases e : L.getD (k - 1) 0 = L.getD k 0
      · rw [if_pos (Or.inr e), if_pos e]
      · rw [if_neg (fun q => q.elim (by omega) e), if_neg e]
    rw [e] at ih
    omega
theorem waves_of {w h n lo hi : Nat} {L : List Int} {P : List UInt8} (w1 : 40 ≤ w) (w2 : w ≤ 159) (n2 : n ≤ 3) (hW : Wave w L 14) (hlo : ∀ x, -(lo : Int) ≤ L.getD x 0) (hhi : ∀ x, L.getD x 0 ≤ (hi : Int)) (hh : h = 36 * n + lo + hi - 1) (n1 : 1 ≤ n) (hd : Drw P w h (DrU lo L n 0 0)) : Waves P w h (5 * n) (rowT lo L) (bdT L) := by
  have hr := rowT_eq hlo
  have hrow : ∀ t, t < 5 * n → ∀ x, rowT lo L t x < h := fun t ht x => by
    have h1 := hr t x
    have h2 := hhi x
    have : t / 5 < n := by omega
    omega
  refine ⟨by omega, by omega, by omega, by omega, fun x y hx hy => ?_, fun t ht => ⟨fun x hx => hrow t ht x, fun x hx => ?_⟩, fun t t' htt ht' x hx => ?_, fun t ht x hx => ?_, fun x => ?_, fun x hx => ?_, ?_⟩
  · rw [hd.it x y hx hy]
    constructor
    · rintro ⟨j, m, h1, h2, h3⟩
      refine ⟨5 * j + m, by omega, ?_⟩
      have h4 := hr (5 * j + m) x
      rw [show (5 * j + m) / 5 = j by omega, show (5 * j + m) % 5 = m by omega] at h4
      omega
    · rintro ⟨t, ht, h1⟩
      have h4 := hr t x
      exact ⟨t / 5, t % 5, by omega, by omega, by omega⟩
  · have h1 := hr t x
    have h2 := hr t (x + 1)
    have h3 := hW.near x hx
    omega
  · have h1 := hr t x
    have h2 := hr t' x
    omega
  · have h1 := hr t x
    have h2 := hr t (x + 1)
    unfold chg bdT
    by_cases e : L.getD x 0 = L.getD (x + 1) 0
    · rw [if_pos (by omega), if_pos e]; rfl
    · rw [if_neg (by omega), if_neg e]; rfl
  · unfold bdT; split <;> omega
  · rcases hW.bend x hx with e | e
    · left; unfold bdT; rw [if_pos e]
    · right; unfold bdT; rw [if_pos e]
  · have h1 := bt_nb (L := L) (w := w) (w - 1) (by omega)
    have h2 := hW.few
    rw [show w - (w - 1) = 1 by omega] at h1
    have h3 : nbF L 1 = 0 := by simp [nbF]
    rw [h3] at h1
    omega
def lineT (lo : Nat) (L : List Int) (t : Nat) : List Int := lineL lo L (t / 5) (t % 5)
theorem lines_T {lo w n : Nat} {L : List Int} (hl : L.length = w) (hlo : ∀ x, -(lo : Int) ≤ L.getD x 0) : ((List.range n).map fun t => lineQ w (rowT lo L t)) = (List.range n).map (lineT lo L) := by
  apply List.map_congr_left
  intro t _
  unfold lineQ lineT lineL
  rw [hl]
  apply List.map_congr_left
  intro x _
  rw [rowT_eq hlo]
theorem take_T {lo n k : Nat} {L : List Int} (hk : k < n) : (((List.range (5 * n)).map (lineT lo L)).drop (5 * k)).take 5 = staveL lo L k := by
  apply List.ext_getElem
  · simp [staveL]; omega
  · intro i h1 h2
    have hi : i < 5 := by simpa [staveL] using h2
    simp only [List.getElem_take, List.getElem_drop, List.getElem_map, List.getElem_range, staveL, lineT]
    rw [show (5 * k + i) / 5 = k by omega, show (5 * k + i) % 5 = i by omega]
theorem stave_get {lo k i : Nat} {L : List Int} (hi : i < 5) : (staveL lo L k).getD i [] = lineL lo L k i := by
  rw [getDL_at (by simp [staveL]; omega)]
  simp [staveL]
theorem stave_group {lo k : Nat} {L : List Int} (h0 : 0 < L.length) : groupB (staveL lo L k) = true := by
  have hlen : lenG (staveL lo L k) = L.length := by unfold lenG; rw [stave_get (by omega), lineL_len]
  have hgap : ∀ m, m < 8 → gapG (staveL lo L k) m = 6 := fun m hm => by
    unfold gapG
    rw [stave_get (by omega), stave_get (by omega)]
    have hc : colG (staveL lo L k) m < L.length := by unfold colG; rw [hlen]; split <;> omega
    rw [lineL_at hc, lineL_at hc]
    omega
  refine groupB_iff.2 ⟨by omega, fun i hi => by rw [stave_get hi, lineL_len, hlen], fun m hm => ?_⟩
  rw [hgap m hm]
  exact ⟨by omega, by omega, fun j hj => by rw [hgap j hj]; omega⟩
theorem staves_T {lo n : Nat} {L : List Int} (h0 : 0 < L.length) : ∀ d k, n - k = d → k ≤ n → stavesS (((List.range (5 * n)).map (lineT lo L)).drop (5 * k)) = ((List.range n).map (staveL lo L)).drop k
  | 0, k, hd, hk => by
    obtain rfl : k = n := by omega
    rw [List.drop_of_length_le (by simp), List.drop_of_length_le (by simp)]
    exact stavesS_few (by simp)
  | d + 1, k, hd, hk => by
    have ih := staves_T (lo := lo) (n := n) h0 d (k + 1) (by omega) (by omega)
    have ht := take_T (lo := lo) (L := L) (show k < n by omega)
    rw [stavesS_yes (by simp; omega) (by rw [ht]; exact stave_group h0), ht, List.drop_drop, show 5 * k + 5 = 5 * (k + 1) by omega, ih]
    rw [List.drop_eq_getElem_cons (l := (List.range n).map (staveL lo L)) (i := k) (by simp; omega)]
    simp
theorem staves_all {lo n : Nat} {L : List Int} (h0 : 0 < L.length) : stavesS ((List.range (5 * n)).map (lineT lo L)) = (List.range n).map (staveL lo L) := by
  have := staves_T (lo := lo) (n := n) h0 n 0 (by omega) (Nat.zero_le _)
  simpa using this
def rowS (y : Nat) : Bool := decide (2 ≤ y) && decide ((y - 2) % 6 = 0)
theorem strip_px {w h n lo hi i x y : Nat} {L : List Int} {P : List UInt8} (W : Waves P w h (5 * n) (rowT lo L) (bdT L)) (hl : L.length = w) (hlo : ∀ x, -(lo : Int) ≤ L.getD x 0) (hhi : ∀ x, L.getD x 0 ≤ (hi : Int)) (hh : h = 36 * n + lo + hi - 1) (hi' : i < n) (hx : x < w) (hy : y < 29) : (rctL P w h ((staveL lo L i).getD 4 []) 26 29).getD (y * w + x) 0 = 1 ↔ rowS y = true := by
  obtain ⟨e1, e2⟩ := rct_at (y := y) hx
  rw [getD_rctL (idx_lt hx hy), rctF, e1, e2, stave_get (by omega), lineL_at (by omega)]
  have h1 := hlo x
  have h2 := hhi x
  obtain ⟨mx, hmx⟩ : ∃ mx, (5 + (lo : Int) + 36 * (i : Int) + 6 * ((4 : Nat) : Int) + L.getD x 0).toNat = mx := ⟨_, rfl⟩
  have hmx2 : (mx : Int) = 5 + (lo : Int) + 36 * (i : Int) + 24 + L.getD x 0 := by omega
  rw [hmx, if_pos (by omega)]
  rw [W.ink x (mx + y - 26) hx (by omega)]
  unfold rowS
  rw [Bool.and_eq_true, decide_eq_true_eq, decide_eq_true_eq]
  constructor
  · rintro ⟨t, ht, h3⟩
    have h4 := rowT_eq hlo t x
    have : t / 5 = i := by omega
    omega
  · rintro ⟨h3, h4⟩
    refine ⟨5 * i + (y - 2) / 6, by omega, ?_⟩
    have h5 := rowT_eq hlo (5 * i + (y - 2) / 6) x
    rw [show (5 * i + (y - 2) / 6) / 5 = i by omega, show (5 * i + (y - 2) / 6) % 5 = (y - 2) / 6 by omega] at h5
    omega
theorem rc_all {l : List UInt8} {a j : Nat} : ∀ x, (∀ u, u < x → l.getD (j * a + u) 0 = 1) → rc l a j x = x
  | 0, _ => by simp [rc]
  | x + 1, h => by
    rw [rc_succ, rc_all x fun u hu => h u (by omega)]
    unfold pd
    rw [h x (by omega)]; simp
theorem rc_none {l : List UInt8} {a j : Nat} : ∀ x, (∀ u, u < x → l.getD (j * a + u) 0 ≠ 1) → rc l a j x = 0
  | 0, _ => by simp [rc]
  | x + 1, h => by
    rw [rc_succ, rc_none x fun u hu => h u (by omega)]
    unfold pd
    have : (l.getD (j * a + x) 0 == 1) = false := by simpa using h x (by omega)
    rw [this]; simp
theorem strip_rows {w h n lo hi i y : Nat} {L : List Int} {P : List UInt8} (W : Waves P w h (5 * n) (rowT lo L) (bdT L)) (hl : L.length = w) (hlo : ∀ x, -(lo : Int) ≤ L.getD x 0) (hhi : ∀ x, L.getD x 0 ≤ (hi : Int)) (hh : h = 36 * n + lo + hi - 1) (hi' : i < n) (hy : y < 29) : (rowsL (rctL P w h ((staveL lo L i).getD 4 []) 26 29) w 29).getD y 0 = if rowS y = true then (w : Int) else 0 := by
  have key := fun x (hx : x < w) => strip_px (x := x) W hl hlo hhi hh hi' hx hy
  unfold rowsL
  rw [getD_mapA hy]
  by_cases e : rowS y = true
  · rw [if_pos e]
    exact rc_all w fun u hu => (key u hu).2 e
  · rw [if_neg e]
    exact rc_none w fun u hu q => e ((key u hu).1 q)
theorem none_left {w h n lo : Nat} {L : List Int} {P : List UInt8} (W : Waves P w h (5 * n) (rowT lo L) (bdT L)) (ok : Ok w h P) (hl : L.length = w) (hlo : ∀ x, -(lo : Int) ≤ L.getD x 0) : (cutL P w (w * h) ((allR (colO ⟨w, h, P⟩) h w).filter (selR (drawL w h ((List.range n).map (staveL lo L))) w 1))).count 1 = 0 := by
  obtain ⟨C, hC⟩ : ∃ C, cutL P w (w * h) ((allR (colO ⟨w, h, P⟩) h w).filter (selR (drawL w h ((List.range n).map (staveL lo L))) w 1)) = C := ⟨_, rfl⟩
  rw [hC]
  have hCl : C.length = w * h := by rw [← hC]; exact cut_len _ _ _ _
  have hDL := drawL_drawn w h ((List.range n).map (staveL lo L))
  have hw := W.w0
  have hz : ∀ x y, x < w → y < h → C.getD (y * w + x) 0 = 0 := fun x y hx hy => by
    rw [← hC]
    rcases px_01 ok.px (y * w + x) with e | e
    · exact cut_paper hx hy e
    · obtain ⟨t, ht, hty⟩ := (W.ink x y hx hy).1 e
      have hcol : ∀ z, z < h → z ≠ y → z ≤ y + 1 → y ≤ z + 1 → colO ⟨w, h, P⟩ x z = false := fun z hz hne h1 h2 => by
        rw [colO_nat hx hz]
        cases hb : (P.getD (z * w + x) 0 == 1) with
        | false => rfl
        | true =>
          exfalso
          obtain ⟨t', ht', e'⟩ := (W.ink x z hx hz).1 (by simpa using hb)
          rcases Nat.lt_trichotomy t t' with c | c | c
          · have := W.apart t t' c ht' x hx; omega
          · subst c; omega
          · have := W.apart t' t c ht x hx; omega
      have hp : colO ⟨w, h, P⟩ x y = true := by rw [colO_nat hx hy, e]; rfl
      have hs : startB (colO ⟨w, h, P⟩ x) y = true := by
        unfold startB
        rw [hp]
        by_cases h0 : 0 < y
        · rw [hcol (y - 1) (by omega) (by omega) (by omega) (by omega)]; simp
        · rw [decide_eq_false h0]; simp
      have he : endB (colO ⟨w, h, P⟩ x) h y = y := endB_eq hy (fun q => hcol (y + 1) q (by omega) (by omega) (by omega)) (Nat.le_refl _) (fun z z1 z2 => by rw [show z = y by omega]; exact hp)
      rw [cut_run ok hx hs hy (Nat.le_refl _) (by rw [he]; exact Nat.le_refl _), if_pos]
      rw [he]
      unfold selB
      rw [decide_eq_true (p := (y : Int) - (y : Int) < 1) (by omega), Bool.true_and]
      refine touch_yes (Nat.le_refl _) (Nat.le_refl _) ?_
      rcases hDL.it _ (idx_lt hx hy) with ⟨b1, _⟩ | ⟨_, b2⟩
      · rw [b1]; rfl
      · exfalso
        apply b2
        obtain ⟨e1, e2⟩ := rct_at (y := y) hx
        have h4 := rowT_eq hlo t x
        refine ⟨t / 5, t % 5, by simp; omega, by simp [staveL]; omega, Or.inl (by simp; omega), ?_⟩
        rw [e1, e2]
        simp only [List.getElem_map, List.getElem_range, staveL]
        rw [lineL_at (by omega)]
        omega
  rw [List.count_eq_zero]
  intro hm
  obtain ⟨k, hk, e⟩ := List.mem_iff_getElem.1 hm
  have hk2 : k < w * h := by omega
  have hyk : k / w < h := Nat.div_lt_of_lt_mul hk2
  have := hz (k % w) (k / w) (Nat.mod_lt k hw) hyk
  rw [Nat.mul_comm, Nat.div_add_mod, List.getD_eq_getElem?_getD, List.getElem?_eq_getElem hk, Option.getD_some, e] at this
  cases this
end Go.Am

namespace Go.Am
open Go
attribute [local irreducible] Wp WpO WpX WpE
structure Low (H0 : AHeap) (p : AVal) : Prop where
 lt : ∀ r off len cap sz, p = .slice r off len cap sz → r < H0.n
theorem Low.ne {H0 : AHeap} {p : AVal} {s : Nat} (h : Low H0 p) (hs : H0.n ≤ s) : RowNe p s := ⟨fun r off len cap sz e => by have := h.lt r off len cap sz e; omega⟩
theorem SrtS.set {H0 H : AHeap} {p : AVal} {n s : Nat} {U : AVal → Prop} {cs : List AVal} {o : AObj} (h : SrtS H0 p n U cs H) (hl : Low H0 p) (hs : H0.n ≤ s) : SrtS H0 p n U cs (H.set s o) := by
 haveI := hl.ne hs
 haveI := h.sl
 haveI := h.wr
 exact ⟨inferInstance, inferInstance, ⟨h.ex.n, fun r hr hp => by rw [set_get_ne (by omega)]; exact h.ex.get r hr hp⟩, h.mem⟩
end Go.Am

namespace Go.Am
open Go
theorem Wp.cut {call : ACall} {lf : Nat} {fr : AFrame} {H : AHeap} {Q : RExit → AFrame → AHeap → Prop} {a : RCode} {σ : Type} (L : σ → List (Nat × AVal)) (PH : σ → AHeap → Prop) (h1 : ∀ s g H', PH s H' → Q .normal (updL (L s) g) H') (h2 : Wp call lf a fr H fun x fr' H' => match x with | .normal => ∃ s, agrees (L s) fr' ∧ PH s H' | e => Q e fr' H') : Wp call lf a fr H Q :=
  Wp.mono h2 fun x fr' H' h => by
    cases x with
    | normal =>
      obtain ⟨s, h3, h4⟩ := h
      have := h1 s fr' H' h4
      rwa [updL_agrees h3] at this
    | exit id => exact h
    | ret => exact h
theorem Wp.cutQ {call : ACall} {lf : Nat} {fr : AFrame} {H : AHeap} {Q : RExit → AFrame → AHeap → Prop} {a : RCode} {x0 : RExit} {σ : Type} (L : σ → List (Nat × AVal)) (PH : σ → AHeap → Prop) (h1 : ∀ s g H', PH s H' → Q x0 (updL (L s) g) H') (h2 : Wp call lf a fr H fun x fr' H' => x = x0 ∧ ∃ s, agrees (L s) fr' ∧ PH s H') : Wp call lf a fr H Q :=
  Wp.mono h2 fun x fr' H' h => by
    obtain ⟨rfl, s, h3, h4⟩ := h
    have := h1 s fr' H' h4
    rwa [updL_agrees h3] at this
end Go.Am

namespace Go.Am
open Go
open Nat renaming reduceEqDiff → qe, reduceAdd → qz
open Int renaming reduceBEq → qn, reduceBNe → qq
attribute [local irreducible] Wp WpO WpX WpE
theorem K_order2S {H0 H : AHeap} {p : AVal} {n a b sp : Nat} {F : FuncId} {U : AVal → Prop} {K : AVal → Int} {cs : List AVal} (hU : SrtU ext prog H0 p F U K) (hs : SrtS H0 p n U cs H) (hk : HasRow H sp [.int .i64 0] true (2 * 3)) (ha : a < n) (hb : b < n) (hn40 : n ≤ 2 ^ 40) (hle : K (cAt cs a) ≤ K (cAt cs b)) : Con ext prog 9 142 [p, .int .i64 (a : Int), .int .i64 (b : Int), .ptr sp 0, .func (.func F) [] []] H fun v H' => v = .tuple [.int .i64 (a : Int), .int .i64 (b : Int)] ∧ HasRow H' sp [.int .i64 0] true (2 * 3) ∧ SrtS H0 p n U cs H' := by
 refine con_of (show prog 142 = some c142 from rfl) rfl rfl fun N hn => ?_
 haveI := hs.sl
 haveI := hs.sl.one
 haveI := hs.wr
 haveI := hk
 have hlen := hs.len
 have c1 := cAt_some (cs := cs) (i := b) (by omega)
 have c2 := cAt_some (cs := cs) (i := a) (by omega)
 have u1 := hs.mem b hb
 have u2 := hs.mem a ha
 haveI := hU.one _ u1
 haveI := hU.one _ u2
 haveI : PureCon ext prog F [cAt cs b, cAt cs a] H 8 (.int .i64 (cmpI (K (cAt cs b)) (K (cAt cs a)))) := hU.cmp H hs.ex _ _ u1 u2
 have hc2 : decide (cmpI (K (cAt cs b)) (K (cAt cs a)) < 0) = false := by rw [cmpI_neg]; exact decide_eq_false (by omega)
 repeat first | refine mI ?_ | refine nl hKF ?_ | refine sq ?_ | refine rg fun KF hKF => ?_
 refine Fr.dregion0 rfl fun KF hKF => ?_
 repeat first | refine Fe.pure rfl rfl (by simp only [↓nrmL, nrmZ, qe, ↓reduceIte, qz, qn, qq]; rfl) ?_ | (refine Fe.pure rfl (exec_idxP (by (try simp only [↓nrmL, nrmZ, qe, ↓reduceIte, qz, qn, qq]); rfl) rfl ?_) (by simp only [↓nrmL, nrmZ, qe, ↓reduceIte, qz, qn, qq]; rfl) ?_; (focus omega))
 refine Fe.read rfl (exec_ldP (p := p) (j := b) rfl c1) rfl trivial ?_
 refine Fe.pure rfl rfl (by simp only [↓nrmL, nrmZ, qe, ↓reduceIte, qz, qn, qq]; rfl) ?_
 refine Fe.pure rfl rfl (by simp only [↓nrmL, nrmZ, qe, ↓reduceIte, qz, qn, qq]; rfl) ?_
 refine Fe.pure rfl (exec_idxP (by (try simp only [↓nrmL, nrmZ, qe, ↓reduceIte, qz, qn, qq]); rfl) rfl ?_) (by simp only [↓nrmL, nrmZ, qe, ↓reduceIte, qz, qn, qq]; rfl) ?_; (focus omega)
 refine Fe.read rfl (exec_ldP (p := p) (j := a) rfl c2) rfl trivial ?_
 simp only [↓nrmL, nrmZ, qe, ↓reduceIte, qz, qn, qq, hc2]
 refine Fe.pcall (v' := ?_) rfl hn rfl (by simp only [↓nrmL, nrmZ, qe, ↓reduceIte, qz, qn, qq, hc2, List.map]; rfl) rfl ?hv fun _ _ => ar ?_; case hv => rfl
 refine Fe.pure rfl rfl (by simp only [↓nrmL, nrmZ, qe, ↓reduceIte, qz, qn, qq, hc2]; rfl) ?_
 refine WpE.nil (hKF _ _ ?_)
 rename AHeap => H4
 rename ExtI H H4 => hx4
 repeat first | refine mI ?_ | refine nl hKF ?_ | refine sq ?_ | refine rg fun KF hKF => ?_ | refine cf rfl ?_ | refine sk ?_ | refine rt ?_ | dsimp only
 refine rz trivial ?_
 exact ⟨rfl, inferInstance, hs.ext hx4.ext⟩
theorem K_medianS {H0 H : AHeap} {p : AVal} {n a b c sp : Nat} {F : FuncId} {U : AVal → Prop} {K : AVal → Int} {cs : List AVal} (hU : SrtU ext prog H0 p F U K) (hs : SrtS H0 p n U cs H) (hk : HasRow H sp [.int .i64 0] true (2 * 3)) (hab : a < b) (hbc : b < c) (hc : c < n) (hn40 : n ≤ 2 ^ 40) (hS : ∀ i j, 0 ≤ i → i < j → j < n → K (cAt cs i) ≤ K (cAt cs j)) : Con ext prog 10 138 [p, .int .i64 (a : Int), .int .i64 (b : Int), .int .i64 (c : Int), .ptr sp 0, .func (.func F) [] []] H fun v H' => v = .int .i64 (b : Int) ∧ HasRow H' sp [.int .i64 0] true (2 * 3) ∧ SrtS H0 p n U cs H' := by
 refine con_of (show prog 138 = some c138 from rfl) rfl rfl fun N hn => ?_
 haveI := hs.sl.one
 repeat first | refine mI ?_ | refine mP ?_ | refine mF ?_ | refine mv ?_ | refine nl hKF ?_ | refine sq ?_ | refine rg fun KF hKF => ?_
 refine WpO.do (WpX.conD hn rfl rfl (by simp only [↓nrmL, nrmZ, qe, ↓reduceIte, qz, qn, qq, List.map] <;> rfl) (K_order2S (a := a) (b := b) hU hs hk (by omega) (by omega) hn40 (hS a b (Nat.zero_le _) hab (by omega))) fun v H1 h5 => ?_)
 obtain ⟨rfl, hk1, hs1⟩ := h5
 repeat first | refine mI ?_ | refine mP ?_ | refine mT ?_ | refine mF ?_ | refine mv ?_ | refine xt ?_ | refine nl hKF ?_ | refine sq ?_ | refine rg fun KF hKF => ?_
 refine WpO.do (WpX.conD hn rfl rfl (by simp only [↓nrmL, nrmZ, qe, ↓reduceIte, qz, qn, qq, List.map] <;> rfl) (K_order2S (a := b) (b := c) hU hs1 hk1 (by omega) hc hn40 (hS b c (Nat.zero_le _) hbc hc)) fun v H2 h6 => ?_)
 obtain ⟨rfl, hk2, hs2⟩ := h6
 repeat first | refine mI ?_ | refine mP ?_ | refine mT ?_ | refine mF ?_ | refine mv ?_ | refine xt ?_ | refine nl hKF ?_ | refine sq ?_ | refine rg fun KF hKF => ?_
 refine WpO.do (WpX.conD hn rfl rfl (by simp only [↓nrmL, nrmZ, qe, ↓reduceIte, qz, qn, qq, List.map] <;> rfl) (K_order2S (a := a) (b := b) hU hs2 hk2 (by omega) (by omega) hn40 (hS a b (Nat.zero_le _) hab (by omega))) fun v H3 h7 => ?_)
 obtain ⟨rfl, hk3, hs3⟩ := h7
 repeat first | refine mI ?_ | refine mT ?_ | refine xt ?_ | refine nl hKF ?_ | refine sq ?_ | refine rg fun KF hKF => ?_ | refine rt ?_ | dsimp only
 refine rz trivial ?_
 exact ⟨rfl, hk3, hs3⟩
theorem K_pivotS {H0 H : AHeap} {p : AVal} {n : Nat} {F : FuncId} {U : AVal → Prop} {K : AVal → Int} {cs : List AVal} (hU : SrtU ext prog H0 p F U K) (hs : SrtS H0 p n U cs H) (hn12 : 12 < n) (hn50 : n < 50) (hS : ∀ i j, 0 ≤ i → i < j → j < n → K (cAt cs i) ≤ K (cAt cs j)) : Con ext prog 12 117 [p, .int .i64 0, .int .i64 (n : Int), .func (.func F) [] []] H fun v H' => ∃ m : Nat, v = .tuple [.int .i64 (m : Int), .int .i64 1] ∧ SrtS H0 p n U cs H' := by
 refine con_of (show prog 117 = some c117 from rfl) rfl rfl fun N hn => ?_
 haveI := hs.sl.one
 have e1 : IntKind.i64.wrap ((n : Int) - 0) = (n : Int) := by rw [w64 (by omega)]; omega
 have e2 : IntKind.i64.wrap ((n : Int).tdiv 4) = ((n / 4 : Nat) : Int) := by
  have e : (n : Int).tdiv 4 = ((n / 4 : Nat) : Int) := rfl
  rw [e]; exact w64 (by omega)
 have e3 : IntKind.i64.wrap (((n / 4 : Nat) : Int) * 1) = ((n / 4 : Nat) : Int) := by rw [Int.mul_one]; exact w64 (by omega)
 have e4 : IntKind.i64.wrap (((n / 4 : Nat) : Int) * 2) = ((n / 4 * 2 : Nat) : Int) := by rw [w64 (by omega)]; omega
 have e5 : IntKind.i64.wrap (((n / 4 : Nat) : Int) * 3) = ((n / 4 * 3 : Nat) : Int) := by rw [w64 (by omega)]; omega
 have e6 : ∀ k : Nat, k < 150 → IntKind.i64.wrap (0 + (k : Int)) = (k : Int) := fun k hk => by rw [w64 (by omega)]; omega
 have e61 := e6 (n / 4) (by omega)
 have e62 := e6 (n / 4 * 2) (by omega)
 have e63 := e6 (n / 4 * 3) (by omega)
 have d8 : decide ((n : Int) ≥ 8) = true := decide_eq_true (by omega)
 have d50 : decide ((n : Int) ≥ 50) = false := decide_eq_false (by omega)
 have hs0 : SrtS H0 p n U cs (H.push (.row [.int .i64 0] true (2 * 3))) := hs.ext ((Ext.refl H).push _)
 have hk0 : HasRow (H.push (.row [.int .i64 0] true (2 * 3))) H.n [.int .i64 0] true (2 * 3) := inferInstance
 repeat first | refine mI ?_ | refine mF ?_ | refine mv ?_ | refine bn rfl rfl rfl (by simp only [↓nrmL, nrmZ, qe, ↓reduceIte, qz, qn, qq, e1, e2, e3, e4, e5, e61, e62, e63, d8, d50]; rfl) ?_ | refine nw ?_ | refine nl hKF ?_ | refine sq ?_ | refine rg fun KF hKF => ?_ | refine ct rfl ?_ | refine cf rfl ?_ | refine sk ?_
 refine WpO.do (WpX.conD hn rfl rfl (by simp only [↓nrmL, nrmZ, qe, ↓reduceIte, qz, qn, qq, List.map] <;> rfl) (K_medianS (a := n / 4) (b := n / 4 * 2) (c := n / 4 * 3) hU hs0 hk0 (by omega) (by omega) (by omega) (by omega) hS) fun v H1 h5 => ?_)
 obtain ⟨rfl, hk1, hs1⟩ := h5
 haveI := hk1
 have q0 : ((0 : Int) == 0) = true := rfl
 repeat first | refine mI ?_ | refine mB ?_ | refine Fo.ld rfl rfl ?_ | refine bn rfl rfl rfl (by simp only [↓nrmL, nrmZ, qe, ↓reduceIte, qz, qn, qq, q0]; rfl) ?_ | refine nl hKF ?_ | refine sq ?_ | refine rg fun KF hKF => ?_ | refine ct rfl ?_ | refine rt ?_ | refine Wp.block ?_ | dsimp only
 refine rz trivial ?_
 exact ⟨n / 4 * 2, rfl, hs1⟩
theorem K_partialS {H0 H : AHeap} {p : AVal} {n : Nat} {F : FuncId} {U : AVal → Prop} {K : AVal → Int} {cs : List AVal} (hU : SrtU ext prog H0 p F U K) (hs : SrtS H0 p n U cs H) (hn0 : 0 < n) (hn40 : n ≤ 2 ^ 40) (hS : ∀ i j, 0 ≤ i → i < j → j < n → K (cAt cs i) ≤ K (cAt cs j)) : Con ext prog 9 119 [p, .int .i64 0, .int .i64 (n : Int), .func (.func F) [] []] H fun v H' => v = .bool true ∧ SrtS H0 p n U cs H' := by
 refine con_of (show prog 119 = some c119 from rfl) rfl rfl fun N hn => ?_
 haveI := hs.sl.one
 have e2 : IntKind.i64.wrap (0 + 1) = ((1 : Nat) : Int) := rfl
 repeat first | refine mI ?_ | refine mB ?_ | refine bn rfl rfl rfl (by simp only [↓nrmL, nrmZ, qe, ↓reduceIte, qz, qn, qq, e2]; rfl) ?_ | refine nl hKF ?_ | refine sq ?_ | refine rg fun KF hKF => ?_ | refine Wp.block ?_ | dsimp only
 refine Wp.loopS [8, 9, 10, 11, 12, 15, 16, 17, 18, 19, 20, 21, 22, 23, 24, 25, 26, 27, 28, 29, 30, 31, 32, 33, 34, 35, 36, 37, 38, 39, 40, 41, 42, 43, 44, 45, 46, 47, 48, 49, 50, 51, 52, 53, 54, 55, 56, 57, 58, 59, 60, 61, 62, 63, 64, 65, 66, 67, 68, 69, 70, 71, 72, 73, 74, 75, 76, 77, 78, 79, 80, 81, 82, 83, 84, 85, 86, 87, 88, 89, 90, 91, 92, 93, 94, 95, 96, 97, 98, 99, 100, 101, 102, 103, 104, 105, 106, 107, 108, 109, 110, 111, 112, 113, 114, 115, 116, 117, 118, 119, 120, 121, 122, 123, 124, 125, 126, 127, 128, 129, 130, 131, 132, 133, 134, 135, 136, 137, 138, 139, 140] (fun _ : Unit => [(8, .bool false), (10, .int .i64 0), (9, .int .i64 ((1 : Nat) : Int))]) (fun _ _ H2 => SrtS H0 p n U cs H2) (fun _ => 0) () rfl (fun _ => rfl) ⟨rfl, rfl, rfl, trivial⟩ hs (by unfold fuel0 at hn; omega) ?_
 rintro _ g H1 hs1
 haveI := hs1.sl.one
 have hk5 : decide ((0 : Int) < 5) = true := rfl
 simp only [↓nrmL, nrmZ, qe, ↓reduceIte, qz, qn, qq]
 repeat first | refine mI ?_ | refine bn rfl rfl rfl (by simp only [↓nrmL, nrmZ, qe, ↓reduceIte, qz, qn, qq, hk5]; rfl) ?_ | refine nl hKF ?_ | refine sq ?_ | refine rg fun KF hKF => ?_ | refine ct rfl ?_ | refine sk ?_ | refine Wp.block ?_ | dsimp only
 refine Wp.cutQ (x0 := .exit 2) (σ := Unit) (fun _ => [(0, p), (1, .int .i64 0), (2, .int .i64 (n : Int)), (3, .func (.func F) [] []), (8, .bool false), (9, .int .i64 (n : Int)), (10, .int .i64 0)]) (fun _ H' => SrtS H0 p n U cs H') ?_ ?_
 rotate_left
 ·refine Wp.loopS [9, 19, 20, 21, 22, 23, 24, 25, 26, 27, 28, 29, 30, 31, 32, 33, 34, 35, 36, 37, 38] (fun i : Nat => [(9, .int .i64 (i : Int))]) (fun _ i H2 => 1 ≤ i ∧ i ≤ n ∧ SrtS H0 p n U cs H2) (fun i => n - i) 1 rfl (fun _ => rfl) ⟨rfl, trivial⟩ ⟨Nat.le_refl _, hn0, hs1⟩ (by unfold fuel0 at hn; omega) ?_
  rintro i g H2 ⟨h1, h2, hs2⟩
  simp only [↓nrmL, nrmZ, qe, ↓reduceIte, qz, qn, qq]
  haveI := hs2.sl.one
  have e1 := wa1 (a := i) (by omega)
  cases hij : decide ((i : Int) < (n : Int))
  ·have hij2 := of_decide_eq_false hij
   obtain rfl : i = n := by omega
   refine sq ?_
   refine sq ?_
   refine Fr.dregion0 rfl fun KF hKF => ?_
   repeat first | refine Fe.pure rfl rfl (by simp only [↓nrmL, nrmZ, qe, ↓reduceIte, qz, qn, qq, hij]; rfl) ?_ | refine Fe.skip rfl ?_ | refine WpE.nil (hKF _ _ ?_)
   refine cf rfl ?_
   refine xi ?_
   dsimp only
   exact ⟨rfl, (), ⟨rfl, rfl, rfl, rfl, rfl, rfl, rfl, trivial⟩, hs2⟩
  have hij2 := of_decide_eq_true hij
  obtain ⟨i0, hi0⟩ : ∃ i0, i - 1 = i0 := ⟨_, rfl⟩
  have e4 : IntKind.i64.wrap ((i : Int) - 1) = (i0 : Int) := by rw [w64 (by omega)]; omega
  haveI := hs2.sl
  have hwl := hs2.len
  have c1 := cAt_some (cs := cs) (i := i) (by omega)
  have c2 := cAt_some (cs := cs) (i := i0) (by omega)
  have u1 := hs2.mem i (by omega)
  have u2 := hs2.mem i0 (by omega)
  haveI := hU.one _ u1
  haveI := hU.one _ u2
  haveI : PureCon ext prog F [cAt cs i, cAt cs i0] H2 8 (.int .i64 (cmpI (K (cAt cs i)) (K (cAt cs i0)))) := hU.cmp H2 hs2.ex _ _ u1 u2
  have hle := hS i0 i (Nat.zero_le _) (by omega) (by omega)
  have hc2 : decide (cmpI (K (cAt cs i)) (K (cAt cs i0)) < 0) = false := by rw [cmpI_neg]; exact decide_eq_false (by omega)
  refine sq ?_
  refine sq ?_
  refine Fr.dregion0 rfl fun KF hKF => ?_
  repeat first | refine Fe.pure rfl rfl (by simp only [↓nrmL, nrmZ, qe, ↓reduceIte, qz, qn, qq, hij, e4]; rfl) ?_ | (refine Fe.pure rfl (exec_idxP (by (try simp only [↓nrmL, nrmZ, qe, ↓reduceIte, qz, qn, qq, hij, e4]); rfl) rfl ?_) (by simp only [↓nrmL, nrmZ, qe, ↓reduceIte, qz, qn, qq, hij, e4]; rfl) ?_; (focus omega))
  refine Fe.read rfl (exec_ldP (p := p) (j := i) rfl c1) rfl trivial ?_
  simp only [↓nrmL, nrmZ, qe, ↓reduceIte, qz, qn, qq, hij, e4]
  repeat first | refine Fe.pure rfl rfl (by simp only [↓nrmL, nrmZ, qe, ↓reduceIte, qz, qn, qq, hij, e4]; rfl) ?_ | (refine Fe.pure rfl (exec_idxP (by (try simp only [↓nrmL, nrmZ, qe, ↓reduceIte, qz, qn, qq, hij, e4]); rfl) rfl ?_) (by simp only [↓nrmL, nrmZ, qe, ↓reduceIte, qz, qn, qq, hij, e4]; rfl) ?_; (focus omega))
  refine Fe.read rfl (exec_ldP (p := p) (j := i0) rfl c2) rfl trivial ?_
  simp only [↓nrmL, nrmZ, qe, ↓reduceIte, qz, qn, qq, hc2]
  repeat first | refine Fe.pure rfl rfl (by simp only [↓nrmL, nrmZ, qe, ↓reduceIte, qz, qn, qq, hc2]; rfl) ?_ | (refine Fe.pcall (v' := ?_) rfl hn rfl (by simp only [↓nrmL, nrmZ, qe, ↓reduceIte, qz, qn, qq, hc2, List.map]; rfl) rfl ?hv fun _ _ => ar ?_; case hv => rfl) | refine WpE.nil (hKF _ _ ?_)
  rename AHeap => H4
  rename ExtI H2 H4 => hx4
  simp only [e1]
  refine ct rfl ?_
  refine sk ?_
  refine Wp.block ?_
  refine rg fun KF hKF => ?_
  refine mI ?_
  refine bn rfl rfl rfl (by simp only [↓nrmL, nrmZ, qe, ↓reduceIte, qz, qn, qq, e1]; rfl) ?_
  refine mI ?_
  refine nl hKF ?_
  dsimp only
  exact ⟨i + 1, by omega, ⟨rfl, trivial⟩, by omega, by omega, hs2.ext hx4.ext⟩
 rintro _ g2 H3 hs3
 dsimp only
 have hnn : ((n : Int) == (n : Int)) = true := by simp
 simp only [↓nrmL, nrmZ, qe, ↓reduceIte, qz, qn, qq]
 repeat first | refine mI ?_ | refine mB ?_ | refine bn rfl rfl rfl (by simp only [↓nrmL, nrmZ, qe, ↓reduceIte, qz, qn, qq, hnn]; rfl) ?_ | refine nl hKF ?_ | refine sq ?_ | refine rg fun KF hKF => ?_ | refine ct rfl ?_ | refine rt ?_ | dsimp only
 refine rz trivial ?_
 exact ⟨rfl, hs3⟩
theorem pdq_sorted {H0 : AHeap} {p : AVal} {n : Nat} {F : FuncId} {U : AVal → Prop} {K : AVal → Int} {cs : List AVal} (hU : SrtU ext prog H0 p F U K) (hn50 : n < 50) (hS : ∀ i j, 0 ≤ i → i < j → j < n → K (cAt cs i) ≤ K (cAt cs j)) : PdqP H0 p n F U K 20 cs := by
 by_cases h12 : n ≤ 12
 ·intro H L hL hL0 hs m hm
  exact K_pdqSmall hU h12 H L hL hL0 hs m (by omega)
 intro H L _ hL0 hs
 refine con_of (show prog 97 = some c97 from rfl) rfl rfl fun N hn => ?_
 haveI := hs.sl.one
 have w1 : IntKind.i64.wrap ((n : Int) - 0) = (n : Int) := by rw [Int.sub_zero]; exact w64 (by omega)
 have d1 : decide ((n : Int) ≤ 12) = false := decide_eq_false (by omega)
 have d2 : ((L : Int) == 0) = false := by have := hL0 (by omega); simp; omega
 repeat first | refine mB ?_ | refine nl hKF ?_ | refine sq ?_ | refine rg fun KF hKF => ?_ | refine Wp.block ?_ | dsimp only
 refine Wp.loopS [1, 2, 3, 10, 11, 12, 13, 14, 15, 16, 17, 18, 19, 20, 21, 22, 23, 24, 25, 26, 27, 28, 29, 30, 31, 32, 33, 34, 35, 36, 37, 38, 39, 40, 41, 42, 43, 44, 45, 46, 47, 48, 49, 50, 51, 52, 53, 54, 55, 56, 57, 58, 59, 60, 61, 62, 63, 64, 65, 66, 67, 68, 69, 70, 71, 72, 73, 74, 75, 76, 77, 78, 79, 80, 81, 82, 83, 84, 85, 86, 87, 88, 89, 90, 91, 92, 93, 94, 95, 96, 97, 98, 99, 100, 101, 102, 103, 104, 105, 106, 107, 108, 109, 110, 111, 112, 113, 114, 115, 116, 117, 118, 119, 120, 121, 122, 123, 124, 125, 126, 127, 128, 129, 130, 131, 132, 133, 134, 135, 136, 137, 138, 139, 140, 141, 142, 143, 144, 145, 146, 147] (fun _ : Unit => [(1, .int .i64 0), (2, .int .i64 (n : Int)), (3, .int .i64 (L : Int)), (10, .bool true), (11, .bool true)]) (fun _ _ H2 => H2 = H) (fun _ => 0) () rfl (fun _ => rfl) ⟨rfl, rfl, rfl, rfl, rfl, trivial⟩ rfl (by unfold fuel0 at hn; omega) ?_
 rintro _ g H2 rfl
 have d3 : ((1 : Int) == 2) = false := rfl
 have d4 : ((1 : Int) == 1) = true := rfl
 simp only [↓nrmL, nrmZ, qe, ↓reduceIte, qz, qn, qq]
 repeat first | refine mI ?_ | refine mB ?_ | refine mF ?_ | refine mv ?_ | refine bn rfl rfl rfl (by simp only [↓nrmL, nrmZ, qe, ↓reduceIte, qz, qn, qq, w1, d1, d2]; rfl) ?_ | refine Fo.now rfl rfl (by simp only [↓nrmL, nrmZ, qe, ↓reduceIte, qz, qn, qq, w1, d1, d2]; rfl) ?_ | refine nl hKF ?_ | refine sq ?_ | refine rg fun KF hKF => ?_ | refine cf rfl ?_ | refine sk ?_ | refine Wp.block ?_
 refine WpO.do (WpX.conD hn rfl rfl (by simp only [↓nrmL, nrmZ, qe, ↓reduceIte, qz, qn, qq, List.map] <;> rfl) (K_pivotS hU hs (by omega) hn50 hS) fun v H3 h5 => ?_)
 obtain ⟨m, rfl, hs3⟩ := h5
 haveI := hs3.sl.one
 repeat first | refine oy ?_ | refine mI ?_ | refine mB ?_ | refine mT ?_ | refine mF ?_ | refine mv ?_ | refine bn rfl rfl rfl (by simp only [↓nrmL, nrmZ, qe, ↓reduceIte, qz, qn, qq, d3, d4]; rfl) ?_ | refine tB ?_ | refine xt ?_ | refine nl hKF ?_ | refine sq ?_ | refine rg fun KF hKF => ?_ | refine ct rfl ?_ | refine cf rfl ?_ | refine sk ?_
 refine WpO.do (WpX.conD hn rfl rfl (by simp only [↓nrmL, nrmZ, qe, ↓reduceIte, qz, qn, qq, List.map] <;> rfl) (K_partialS hU hs3 (by omega) (by omega) hS) fun v H4 h6 => ?_)
 obtain ⟨rfl, hs4⟩ := h6
 refine nl hKF ?_
 refine ct rfl ?_
 refine rt ?_
 dsimp only
 refine rz trivial ?_
 exact ⟨cs, hs4, Pm.refl _ _ _, fun i j h1 h2 h3 => hS i j h1 h2 h3⟩
end Go.Am

namespace Go.Am
open Go
theorem exec_sub {call : ACall} {fr : AFrame} {H : AHeap} {x : ROpd} {lo hi : Option ROpd} {p : AVal} {n : Nat} {cs : List AVal} {a b : Nat} (hx : x.ev fr = p) (hlo : bnd (lo.map (·.ev fr)) 0 a) (hhi : bnd (hi.map (·.ev fr)) n b) (hab : a ≤ b) (hbl : b ≤ n) [s : SliceAt H p 1 n cs] :
    ∃ v H', (ROp.sliceS 1 x lo hi none).exec call fr H = some (v, H') ∧ SliceAt H' v 1 (b - a) ((cs.drop a).take (b - a)) ∧ Ext H H' := by
  have hl1 : ∀ h, a ≤ h → aLow h (lo.map (·.ev fr)) = some a := by
    intro h hh
    rcases hlo with ⟨h1, rfl⟩ | ⟨k, h1⟩
    · rw [h1]; rfl
    · rw [h1]
      have : (0 : Int) ≤ (a : Int) ∧ (a : Int) ≤ (h : Int) := by omega
      simp only [aLow, aBound, if_pos this, Int.toNat_natCast]
  have hh1 : ∀ y, b ≤ y → aHigh n y (hi.map (·.ev fr)) = some b := by
    intro y hy
    rcases hhi with ⟨h1, rfl⟩ | ⟨k, h1⟩
    · rw [h1]; rfl
    · rw [h1]
      have : (0 : Int) ≤ (b : Int) ∧ (b : Int) ≤ (y : Int) := by omega
      simp only [aHigh, aBound, if_pos this, Int.toNat_natCast]
  rcases s.it with ⟨rfl, h0, hc0⟩ | ⟨r, off, cap, row, rw, e, rfl, hr, hg, hl, hc, hcap⟩
  · have e1 : b = 0 := by omega
    have e2 : a = 0 := by omega
    subst e1 e2 hc0
    have hb0 : aBounds 0 (some 0) (lo.map (·.ev fr)) (hi.map (·.ev fr)) none = some (0, 0, some 0) := by
      have h1 := hh1 (capD 0 (some 0)) (Nat.zero_le _)
      rw [h0] at h1
      simp only [aBounds, h1, hl1 0 (Nat.zero_le _)]
    exact ⟨.nslice, H, by simp only [ROp.exec, hx, Option.map_none, aSliceS, hb0, M.pure], ⟨Or.inl ⟨rfl, rfl, rfl⟩⟩, Ext.refl H⟩
  · rw [Nat.mul_one] at hl hc
    have hb0 : aBounds n cap (lo.map (·.ev fr)) (hi.map (·.ev fr)) none = some (a, b, cap) := by
      simp only [aBounds, hh1 _ (Nat.le_trans hbl hcap), hl1 b hab]
    have hsub : (row.drop (off + a)).take (b - a) = (cs.drop a).take (b - a) := by
      rw [← hc, List.drop_take, List.drop_drop, List.take_take]
      congr 1
      omega
    have full : ∀ cap', (b - a ≤ capD (b - a) cap') → SliceAt H (.slice r (off + a) (b - a) cap' 1) 1 (b - a) ((cs.drop a).take (b - a)) := fun cap' hc' =>
      ⟨Or.inr ⟨r, off + a, cap', row, rw, e, rfl, hr, hg, by omega, by rw [Nat.mul_one]; exact hsub, hc'⟩⟩
    have none0 : a = b → ∀ cap', SliceAt H (.slice r off (b - a) cap' 1) 1 (b - a) ((cs.drop a).take (b - a)) := by
      intro hE cap'
      subst hE
      rw [Nat.sub_self, List.take_zero]
      exact ⟨Or.inr ⟨r, off, cap', row, rw, e, rfl, hr, hg, by simp; omega, by simp, Nat.zero_le _⟩⟩
    cases cap with
    | some c =>
      simp only [capD] at hcap
      by_cases hca : c = a
      · have hE : a = b := by omega
        exact ⟨.slice r off (b - a) (some 0) 1, H, by simp only [ROp.exec, hx, Option.map_none, aSliceS, ne_eq, not_true, if_false, hb0, M.pure, if_pos hca], none0 hE _, Ext.refl H⟩
      · exact ⟨.slice r (off + a) (b - a) (some (c - a)) 1, H, by simp only [ROp.exec, hx, Option.map_none, aSliceS, ne_eq, not_true, if_false, hb0, M.pure, if_neg hca, Nat.mul_one], full _ (by simp only [capD]; omega), Ext.refl H⟩
    | none =>
      have h2 : ¬ row.length < off + n := by omega
      have hrow : aRow r H = some ((row, rw), H) := by simp only [aRow, if_pos hr, hg]
      by_cases hcd : a < b ∨ a = 0
      · refine ⟨.slice r (off + a) (b - a) none 1, H, ?_, full _ (Nat.le_refl _), Ext.refl H⟩
        simp only [ROp.exec, hx, Option.map_none, aSliceS, ne_eq, not_true, if_false, hb0, Nat.mul_one, Nat.one_ne_zero, M.bind, hrow, if_neg h2, if_pos hcd, M.pure]
      · have hE : a = b := by omega
        refine ⟨.slice H.n 0 0 none 1, H.push (.row [] false 0), ?_, ?_, (Ext.refl H).push _⟩
        · simp only [ROp.exec, hx, Option.map_none, aSliceS, ne_eq, not_true, if_false, hb0, Nat.mul_one, Nat.one_ne_zero, M.bind, hrow, if_neg h2, if_neg hcd, M.pure, aNew]
        · subst hE
          rw [Nat.sub_self, List.take_zero]
          exact ⟨Or.inr ⟨H.n, 0, none, [], false, 0, rfl, Nat.lt_succ_self _, push_get_eq, by simp, by simp, Nat.zero_le _⟩⟩
theorem Rows.sub {H : AHeap} {ps : List AVal} {ls : List (List Int)} {a b : Nat} (h : Rows H ps ls) (hb : b ≤ ls.length) : Rows H ((ps.drop a).take (b - a)) ((ls.drop a).take (b - a)) := ⟨fun i hi => by
  simp only [List.length_take, List.length_drop] at hi
  obtain ⟨q, h1, h2⟩ := h.it (a + i) (by omega)
  refine ⟨q, ?_, ?_⟩
  · rw [List.getElem?_take, if_pos (by omega), List.getElem?_drop]; exact h1
  · simp only [List.getElem_take, List.getElem_drop]; exact h2⟩
theorem Fo.subL {call : ACall} {fr : AFrame} {H : AHeap} {KF : AFrame → AHeap → Prop} {os : List ROper} {d : Nat} {x : ROpd} {lo hi : Option ROpd} {p : AVal} {ls : List (List Int)} {a b : Nat} (hx : x.ev fr = p) (hp : LinesI H p ls) (hlo : bnd (lo.map (·.ev fr)) 0 a) (hhi : bnd (hi.map (·.ev fr)) ls.length b) (hab : a ≤ b) (hbl : b ≤ ls.length)
    (h : ∀ v H1, LinesI H1 v ((ls.drop a).take (b - a)) → OneV v → ExtI H H1 → WpO call os (upd fr d v) H1 KF) : WpO call (⟨some d, .sliceS 1 x lo hi none, none⟩ :: os) fr H KF := by
  obtain ⟨ps, hps, hr⟩ := hp.it
  obtain ⟨v, H1, h1, h2, h3⟩ := exec_sub (call := call) hx hlo hhi hab hbl (s := hps)
  refine WpO.step rfl ⟨v, H1, h1, h v H1 ⟨(ps.drop a).take (b - a), ?_, ?_⟩ h2.one ⟨h3⟩⟩
  · have : ((ls.drop a).take (b - a)).length = b - a := by rw [List.length_take, List.length_drop]; omega
    rw [this]; exact h2
  · have hr2 := hr.sub (a := a) hbl
    exact hr2.ext h3
theorem exec_subN {call : ACall} {fr : AFrame} {H : AHeap} {x : ROpd} {lo hi : Option ROpd} {p : AVal} {n : Nat} {cs : List AVal} {a b : Nat} (hx : x.ev fr = p) (hlo : bnd (lo.map (·.ev fr)) 0 a) (hhi : bnd (hi.map (·.ev fr)) n b) (hab : a < b) (hbl : b ≤ n) {H0 : AHeap} (s : SliceAt H0 p 1 n cs) (x0 : Ext H0 H) :
    ∃ v, (ROp.sliceS 1 x lo hi none).exec call fr H = some (v, H) ∧ SliceAt H0 v 1 (b - a) ((cs.drop a).take (b - a)) := by
  have hl1 : ∀ h, a ≤ h → aLow h (lo.map (·.ev fr)) = some a := by
    intro h hh
    rcases hlo with ⟨h1, rfl⟩ | ⟨k, h1⟩
    · rw [h1]; rfl
    · rw [h1]
      have : (0 : Int) ≤ (a : Int) ∧ (a : Int) ≤ (h : Int) := by omega
      simp only [aLow, aBound, if_pos this, Int.toNat_natCast]
  have hh1 : ∀ y, b ≤ y → aHigh n y (hi.map (·.ev fr)) = some b := by
    intro y hy
    rcases hhi with ⟨h1, rfl⟩ | ⟨k, h1⟩
    · rw [h1]; rfl
    · rw [h1]
      have : (0 : Int) ≤ (b : Int) ∧ (b : Int) ≤ (y : Int) := by omega
      simp only [aHigh, aBound, if_pos this, Int.toNat_natCast]
  rcases s.it with ⟨rfl, h0, hc0⟩ | ⟨r, off, cap, row, rw, e, rfl, hr, hg, hl, hc, hcap⟩
  · omega
  · rw [Nat.mul_one] at hl hc
    have hb0 : aBounds n cap (lo.map (·.ev fr)) (hi.map (·.ev fr)) none = some (a, b, cap) := by
      simp only [aBounds, hh1 _ (Nat.le_trans hbl hcap), hl1 b (by omega)]
    have hsub : (row.drop (off + a)).take (b - a) = (cs.drop a).take (b - a) := by
      rw [← hc, List.drop_take, List.drop_drop, List.take_take]
      congr 1
      omega
    have full : ∀ cap', (b - a ≤ capD (b - a) cap') → SliceAt H0 (.slice r (off + a) (b - a) cap' 1) 1 (b - a) ((cs.drop a).take (b - a)) := fun cap' hc' =>
      ⟨Or.inr ⟨r, off + a, cap', row, rw, e, rfl, hr, hg, by omega, by rw [Nat.mul_one]; exact hsub, hc'⟩⟩
    cases cap with
    | some c =>
      simp only [capD] at hcap
      have hca : ¬ c = a := by omega
      exact ⟨.slice r (off + a) (b - a) (some (c - a)) 1, by simp only [ROp.exec, hx, Option.map_none, aSliceS, ne_eq, not_true, if_false, hb0, M.pure, if_neg hca, Nat.mul_one], full _ (by simp only [capD]; omega)⟩
    | none =>
      have h2 : ¬ row.length < off + n := by omega
      have hrow : aRow r H = some ((row, rw), H) := by
        have hlt : r < H.n := Nat.lt_of_lt_of_le hr x0.n
        have hg' : H.get r = .row row rw e := by rw [x0.get r hr]; exact hg
        simp only [aRow, if_pos hlt, hg']
      refine ⟨.slice r (off + a) (b - a) none 1, ?_, full _ (Nat.le_refl _)⟩
      simp only [ROp.exec, hx, Option.map_none, aSliceS, ne_eq, not_true, if_false, hb0, Nat.mul_one, Nat.one_ne_zero, M.bind, hrow, if_neg h2, if_pos (Or.inl hab : a < b ∨ a = 0), M.pure]
theorem Fo.subN {call : ACall} {fr : AFrame} {H H0 : AHeap} {KF : AFrame → AHeap → Prop} {os : List ROper} {d : Nat} {x : ROpd} {lo hi : Option ROpd} {p : AVal} {ls : List (List Int)} {a b : Nat} (hx : x.ev fr = p) (hp : LinesI H0 p ls) (x0 : Ext H0 H) (hlo : bnd (lo.map (·.ev fr)) 0 a) (hhi : bnd (hi.map (·.ev fr)) ls.length b) (hab : a < b) (hbl : b ≤ ls.length)
    (h : ∀ v, LinesI H0 v ((ls.drop a).take (b - a)) → OneV v → WpO call os (upd fr d v) H KF) : WpO call (⟨some d, .sliceS 1 x lo hi none, none⟩ :: os) fr H KF := by
  obtain ⟨ps, hps, hr⟩ := hp.it
  obtain ⟨v, h1, h2⟩ := exec_subN (call := call) hx hlo hhi hab hbl hps x0
  refine WpO.step rfl ⟨v, H, h1, h v ⟨(ps.drop a).take (b - a), ?_, hr.sub (a := a) hbl⟩ h2.one⟩
  have : ((ls.drop a).take (b - a)).length = b - a := by rw [List.length_take, List.length_drop]; omega
  rw [this]; exact h2
theorem Fo.subE {call : ACall} {fr : AFrame} {H : AHeap} {KF : AFrame → AHeap → Prop} {os : List ROper} {d : Nat} {x : ROpd} {lo hi : Option ROpd} {p : AVal} {ls : List (List Int)} {a : Nat} (hx : x.ev fr = p) (hp : LinesI H p ls) (hlo : bnd (lo.map (·.ev fr)) 0 a) (hhi : bnd (hi.map (·.ev fr)) ls.length a) (hbl : a ≤ ls.length)
    (h : ∀ v H1, aLenS v = some (.int .i64 0) → OneV v → ExtI H H1 → WpO call os (upd fr d v) H1 KF) : WpO call (⟨some d, .sliceS 1 x lo hi none, none⟩ :: os) fr H KF := by
  obtain ⟨ps, hps, hr⟩ := hp.it
  obtain ⟨v, H1, h1, h2, h3⟩ := exec_sub (call := call) hx hlo hhi (Nat.le_refl a) hbl (s := hps)
  have hl := h2.lenS
  rw [Nat.sub_self] at hl
  exact WpO.step rfl ⟨v, H1, h1, h v H1 hl h2.one ⟨h3⟩⟩
theorem exec_len0 {call : ACall} {fr : AFrame} {H : AHeap} {x : ROpd} {v : AVal} (hx : x.ev fr = v) (h : aLenS v = some (.int .i64 0)) : (ROp.lenS x).exec call fr H = some (.int .i64 0, H) := by simp only [ROp.exec, hx, h, M.ofOption, M.pure]
theorem Wp.labelW {call : ACall} {lf : Nat} {fr : AFrame} {H : AHeap} {Q : RExit → AFrame → AHeap → Prop} (h : Q .normal fr H) : Wp call lf .label fr H Q := ⟨_, _, _, rfl, h⟩
end Go.Am

namespace Go.Am
open Go
open Nat renaming reduceEqDiff → qe, reduceAdd → qz
open Int renaming reduceBEq → qn, reduceBNe → qq
attribute [local irreducible] Wp WpO WpX WpE
theorem w64m {x y : Int} (hx : -1099511627776 ≤ x ∧ x ≤ 1099511627776) (hy : -1099511627776 ≤ y ∧ y ≤ 1099511627776) : IntKind.i64.wrap (x - y) = x - y := w64 (by omega)
theorem K_belong {p : AVal} {H : AHeap} {ls : List (List Int)} [hp : LinesI H p ls] [hm : ModL ls] (h5 : ls.length = 5) (hs : ∀ (i : Nat) (h : i < ls.length), ls[i].length < 2 ^ 60) : Con ext prog 1 72 [p] H fun v H' => v = .bool (groupB ls) ∧ Ext H H' := by
 refine con_of (show prog 72 = some c72 from rfl) rfl rfl fun n hn => ?_
 obtain ⟨ps, hps, hrw⟩ := hp.it
 haveI := hps
 haveI := hps.one
 obtain ⟨q0, hq0, hI0⟩ := hrw.it 0 (by omega)
 haveI := hI0
 haveI := hI0.one
 have g0 : lenG ls = ls[0].length := by unfold lenG; rw [getDL_at (by omega)]
 obtain ⟨R, hR⟩ : ∃ R, groupB ls = R := ⟨_, rfl⟩
 rw [hR]
 have hs0 := hs 0 (by omega)
 cases h0 : (((ls[0].length : Nat) : Int) == 0)
 rotate_left
 ·have e00 : ls[0].length = 0 := by
   have : ((ls[0].length : Nat) : Int) = 0 := by simpa using h0
   omega
  have e0 : groupB ls = false := groupB_no fun ⟨a, _⟩ => a (by rw [g0]; exact e00)
  rw [e0] at hR
  subst hR
  repeat first | refine mB ?_ | refine mv ?_ | (refine Fo.idx (by simp only [↓nrmL, nrmK, qe, ↓reduceIte]; rfl) rfl ?_ (by simp only [↓nrmL, nrmZ, qe, ↓reduceIte, qz, qn, qq]; rfl) ?_; (focus omega)) | refine nl hKF ?_ | refine sq ?_ | refine rg fun KF hKF => ?_
  refine Fo.now rfl (exec_ldP (p := p) (j := 0) rfl hq0) rfl ?_
  repeat first | refine mI ?_ | refine mB ?_ | refine bn rfl rfl rfl (by simp only [h0]; rfl) ?_ | refine ln (by simp only [↓nrmL, nrmK, qe, ↓reduceIte]; rfl) ?_ | refine nl hKF ?_ | refine sq ?_ | refine rg fun KF hKF => ?_ | refine ct rfl ?_ | refine rt ?_ | dsimp only
  refine rz trivial ?_
  exact ⟨rfl, Ext0.ext⟩
 have hl0 : ls[0].length ≠ 0 := by
  have : ¬ ((ls[0].length : Nat) : Int) = 0 := by simpa using h0
  omega
 repeat first | refine mB ?_ | refine mv ?_ | (refine Fo.idx (by simp only [↓nrmL, nrmK, qe, ↓reduceIte]; rfl) rfl ?_ (by simp only [↓nrmL, nrmZ, qe, ↓reduceIte, qz, qn, qq]; rfl) ?_; (focus omega)) | refine nl hKF ?_ | refine sq ?_ | refine rg fun KF hKF => ?_
 refine Fo.now rfl (exec_ldP (p := p) (j := 0) rfl hq0) rfl ?_
 repeat first | refine mI ?_ | refine mv ?_ | refine bn rfl rfl rfl (by simp only [h0]; rfl) ?_ | refine ln (by simp only [↓nrmL, nrmK, qe, ↓reduceIte]; rfl) ?_ | refine nl hKF ?_ | refine sq ?_ | refine rg fun KF hKF => ?_ | refine cf rfl ?_ | refine sk ?_
 refine Fo.subL (p := p) (ls := ls) (a := 1) (b := ls.length) rfl (hp.ext Ext0.ext) (Or.inr ⟨_, rfl⟩) (Or.inl ⟨rfl, rfl⟩) (by omega) (Nat.le_refl _) fun v H1 hv hv1 hx1 => ?_
 haveI := hv1
 obtain ⟨vs, hvs, hvr⟩ := hv.it
 obtain ⟨c4, hvl, hc4⟩ : ∃ c4, ((ls.drop 1).take (ls.length - 1)).length = c4 ∧ c4 = 4 := ⟨_, rfl, by simp; omega⟩
 rw [hvl] at hvs
 haveI := hvs
 have hvget : ∀ i (h : i < ((ls.drop 1).take (ls.length - 1)).length), ((ls.drop 1).take (ls.length - 1))[i] = ls[i + 1]'(by omega) := fun i h => by
  simp only [List.getElem_take, List.getElem_drop]
  congr 1; omega
 refine ln (by simp only [↓nrmL, nrmK, qe, ↓reduceIte]; rfl) ?_
 refine mI ?_
 refine nl hKF ?_
 refine Wp.block ?_
 dsimp only
 refine Wp.loopS (σ := Nat × Int × Int) [2, 4, 5, 6, 7, 8, 10, 11, 21, 22, 23, 24, 25, 26, 27, 28, 29, 30, 31, 32, 33, 34, 35, 36, 37, 38, 39, 40, 41, 42, 43, 44, 45, 46, 47, 48, 49, 50, 51, 52, 53, 54, 55, 56, 57, 58, 59, 60, 61, 62, 63, 64, 65, 66, 67, 68, 69, 70, 71, 72, 73] (fun s => [(21, .int .i64 (s.1 : Int)), (4, .int .i64 s.2.1), (5, .int .i64 s.2.2)]) (fun H3 s H2 => s.1 ≤ 4 ∧ (∀ k, k ≤ s.1 → (ls.getD k []).length = lenG ls) ∧ GI ls (2 * s.1) s.2.1 s.2.2 ∧ H2 = H3) (fun s => 4 - s.1) (0, 64, 2) rfl (fun _ => rfl) ⟨rfl, rfl, rfl, trivial⟩ ⟨Nat.zero_le _, fun k hk => by (obtain rfl : k = 0 := by (dsimp only at hk; omega)); rfl, GI.zero ls, rfl⟩ (by unfold fuel0 at hn; dsimp only; omega) ?_
 rintro ⟨i, le, gr⟩ g H2 ⟨hi, hlen, hG, rfl⟩
 dsimp only at hi hlen hG
 simp only [↓nrmL, nrmZ, qe, ↓reduceIte, qz, qn, qq]
 cases hc : decide ((i : Int) < (c4 : Int))
 ·have hi4 : i = 4 := by have := of_decide_eq_false hc; omega
  subst hi4
  have hb := hG.bound
  have hw : IntKind.i64.wrap (gr - le) = gr - le := w64 (by omega)
  have e0 := hG.done (by rw [g0]; exact hl0) (fun k hk => hlen k (by omega))
  rw [hR] at e0
  subst e0
  repeat first | refine mI ?_ | refine mB ?_ | refine bn rfl rfl rfl (by simp only [hc, hw]; rfl) ?_ | refine b0 ?_ | refine nl hKF ?_ | refine sq ?_ | refine rg fun KF hKF => ?_ | refine cf rfl ?_ | refine rt ?_ | refine xi ?_ | dsimp only
  refine rz trivial ?_
  exact ⟨rfl, Ext0.ext⟩
 have hi4 : i < 4 := by have := of_decide_eq_true hc; omega
 have hwi := wa1 (a := i) (by omega)
 obtain ⟨qa, hqa, hIa⟩ := hvr.it i (by omega)
 rw [hvget i (by omega)] at hIa
 obtain ⟨qb, hqb, hIb⟩ := hrw.it i (by omega)
 haveI := hIa
 haveI := hIa.one
 haveI := hIb
 haveI := hIb.one
 have ga : ls.getD (i + 1) [] = ls[i + 1]'(by omega) := getDL_at (by omega)
 have gb : ls.getD i [] = ls[i]'(by omega) := getDL_at (by omega)
 have hlb := hlen i (Nat.le_refl _)
 rw [gb, g0] at hlb
 cases h1 : (((ls[i + 1].length : Nat) : Int) != ((ls[0].length : Nat) : Int))
 rotate_left
 ·have e0 : groupB ls = false := groupB_no fun ⟨_, a, _⟩ => by
   have := a (i + 1) (by omega)
   rw [ga, g0] at this
   rw [this] at h1; simp at h1
  rw [e0] at hR
  subst hR
  repeat first | refine mI ?_ | refine bn rfl rfl rfl (by simp only [hc]; rfl) ?_ | (refine Fo.idx (by simp only [↓nrmL, nrmK, qe, ↓reduceIte]; rfl) rfl ?_ (by simp only [↓nrmL, nrmZ, qe, ↓reduceIte, qz, qn, qq, hc]; rfl) ?_; (focus omega)) | refine nl hKF ?_ | refine sq ?_ | refine rg fun KF hKF => ?_ | refine ct rfl ?_ | refine sk ?_ | refine Wp.block ?_
  refine Fo.now rfl (exec_ldP (p := v) (j := i) rfl hqa) rfl ?_
  refine mI ?_
  refine mv ?_
  refine nl hKF ?_
  refine sq ?_
  refine rg fun KF hKF => ?_
  refine mv ?_
  refine mI ?_
  refine Fo.idx (by simp only [↓nrmL, nrmK, qe, ↓reduceIte]; rfl) rfl ?_ (by simp only [↓nrmL, nrmZ, qe, ↓reduceIte, qz, qn, qq]; rfl) ?_; (focus omega)
  refine Fo.now rfl (exec_ldP (p := p) (j := i) rfl hqb) rfl ?_
  repeat first | refine mI ?_ | refine mB ?_ | refine mv ?_ | refine bn rfl rfl rfl (by simp only [h1]; rfl) ?_ | refine ln (by simp only [↓nrmL, nrmK, qe, ↓reduceIte]; rfl) ?_ | refine nl hKF ?_ | refine sq ?_ | refine rg fun KF hKF => ?_ | refine ct rfl ?_ | refine rt ?_ | dsimp only
  refine rz trivial ?_
  exact ⟨rfl, Ext0.ext⟩
 have hla : ls[i + 1].length = ls[0].length := by have h7 := h1; simp only [bne_eq_false_iff_eq] at h7; omega
 have hlen' : ∀ k, k ≤ i + 1 → (ls.getD k []).length = lenG ls := fun k hk => by
  by_cases e : k = i + 1
  ·rw [e, ga, hla, g0]
  ·exact hlen k (by omega)
 have hws := ws1 (a := ls[0].length) (by omega) (by omega)
 repeat first | refine mI ?_ | refine bn rfl rfl rfl (by simp only [hc]; rfl) ?_ | (refine Fo.idx (by simp only [↓nrmL, nrmK, qe, ↓reduceIte]; rfl) rfl ?_ (by simp only [↓nrmL, nrmZ, qe, ↓reduceIte, qz, qn, qq, hc]; rfl) ?_; (focus omega)) | refine nl hKF ?_ | refine sq ?_ | refine rg fun KF hKF => ?_ | refine ct rfl ?_ | refine sk ?_ | refine Wp.block ?_
 refine Fo.now rfl (exec_ldP (p := v) (j := i) rfl hqa) rfl ?_
 refine mI ?_
 refine mv ?_
 refine nl hKF ?_
 refine sq ?_
 refine rg fun KF hKF => ?_
 refine mv ?_
 refine mI ?_
 refine Fo.idx (by simp only [↓nrmL, nrmK, qe, ↓reduceIte]; rfl) rfl ?_ (by simp only [↓nrmL, nrmZ, qe, ↓reduceIte, qz, qn, qq]; rfl) ?_; (focus omega)
 refine Fo.now rfl (exec_ldP (p := p) (j := i) rfl hqb) rfl ?_
 repeat first | refine mI ?_ | refine mv ?_ | refine bn rfl rfl rfl (by simp only [h1, hws]; rfl) ?_ | refine ln (by simp only [↓nrmL, nrmK, qe, ↓reduceIte]; rfl) ?_ | (refine ob (cs' := ?_) ?hc ?_; case hc => (simp only [↓nrmL, nrmZ, qe, ↓reduceIte, qz, qn, qq, h1, hws]; rfl)) | refine nl hKF ?_ | refine sq ?_ | refine rg fun KF hKF => ?_ | refine cf rfl ?_ | refine sk ?_ | refine Wp.block ?_ | dsimp only
 refine Wp.loopS (σ := Nat × Int × Int) [2, 4, 5, 10, 11, 37, 38, 39, 40, 41, 42, 43, 44, 45, 46, 47, 48, 49, 50, 51, 52, 53, 54, 55, 56, 57, 58, 59, 60, 61, 62, 63, 64, 65, 66, 67, 68, 69, 70, 71, 72] (fun s => [(37, .int .i64 (s.1 : Int)), (4, .int .i64 s.2.1), (5, .int .i64 s.2.2)]) (fun H3 s H4 => s.1 ≤ 2 ∧ GI ls (2 * i + s.1) s.2.1 s.2.2 ∧ H4 = H3) (fun s => 2 - s.1) (0, le, gr) rfl (fun _ => rfl) ⟨rfl, rfl, rfl, trivial⟩ ⟨Nat.zero_le _, hG, rfl⟩ (by unfold fuel0 at hn; dsimp only; omega) ?_
 rintro ⟨e, le2, gr2⟩ g2 H4 ⟨he, hG2, rfl⟩
 dsimp only at he hG2
 simp only [↓nrmL, nrmZ, qe, ↓reduceIte, qz, qn, qq]
 cases hce : decide ((e : Int) < 2)
 ·have he2 : e = 2 := by have := of_decide_eq_false hce; omega
  subst he2
  repeat first | refine mI ?_ | refine bn rfl rfl rfl (by simp only [hce]; rfl) ?_ | refine b0 ?_ | refine nl hKF ?_ | refine sq ?_ | refine rg fun KF hKF => ?_ | refine cf rfl ?_ | refine xi ?_ | dsimp only
  refine ⟨(i + 1, le2, gr2), by dsimp only; omega, ⟨by simp only [↓nrmL, nrmZ, qe, ↓reduceIte, qz, qn, qq]; rw [hwi], rfl, rfl, trivial⟩, by dsimp only; omega, hlen', by dsimp only; exact (by omega : 2 * i + 2 = 2 * (i + 1)) ▸ hG2, rfl⟩
 have he2 : e < 2 := by have := of_decide_eq_true hce; omega
 have hwe := wa1 (a := e) (by omega)
 have hb := hG2.bound
 have hE : e = 0 ∨ e = 1 := by omega
 rcases hE with rfl | rfl
 ·skip
  have hxa : 0 < ls[i + 1].length := by omega
  have hxb : 0 < ls[i].length := by omega
  have hgap : gapG ls (2 * i + 0) = ls[i + 1][0] - ls[i][0] := by
   unfold gapG colG
   rw [show (2 * i + 0) / 2 = i by omega, show (2 * i + 0) % 2 = 0 by omega, ga, gb, g0]
   simp only [if_true]
   rw [getD_at hxa, getD_at hxb]
  have ma := hm.it (i + 1) 0
  have mb := hm.it i 0
  rw [ga, getD_at hxa] at ma
  rw [gb, getD_at hxb] at mb
  obtain ⟨A, hA⟩ : ∃ A, ls[i + 1][0] = A := ⟨_, rfl⟩
  obtain ⟨B, hB⟩ : ∃ B, ls[i][0] = B := ⟨_, rfl⟩
  rw [hA] at ma
  rw [hB] at mb
  rw [hA, hB] at hgap
  have hwd := w64m ma mb
  obtain ⟨D, hD⟩ : ∃ D, A - B = D := ⟨_, rfl⟩
  rw [hD] at hgap hwd
  cases hlt : decide (A < B)
  rotate_left
  ·have e0 : groupB ls = false := groupB_no fun ⟨_, _, a⟩ => by
    have := (a (2 * i + 0) (by omega)).1
    have := of_decide_eq_true hlt
    omega
   rw [e0] at hR
   subst hR
   repeat first | refine ox ?_ | refine mI ?_ | refine mB ?_ | refine mv ?_ | refine bn rfl rfl rfl (by simp only [hce, hD, hwd, hA, hB, hlt]; rfl) ?_ | refine tB ?_ | (refine Fo.idx (by simp only [↓nrmL, nrmK, qe, ↓reduceIte]; rfl) rfl ?_ (by simp only [↓nrmL, nrmZ, qe, ↓reduceIte, qz, qn, qq, hce, hD, hwd, hA, hB, hlt]; rfl) ?_; (focus omega)) | (refine Fo.ldI rfl ?_ (by simp only [hce, hD, hwd, hA, hB, hlt]; rfl) ?_; (focus omega)) | refine Fo.now rfl rfl rfl ?_ | refine nl hKF ?_ | refine sq ?_ | refine rg fun KF hKF => ?_ | refine Fr.quiet rfl rfl fun KF hKF => ?_ | refine ct rfl ?_ | refine sk ?_ | refine rt ?_ | refine Wp.block ?_ | dsimp only
   refine rz trivial ?_
   exact ⟨rfl, Ext0.ext⟩
  cases h2 : decide (D < 2)
  rotate_left
  ·have e0 : groupB ls = false := groupB_no fun ⟨_, _, a⟩ => by
    have := (a (2 * i + 0) (by omega)).1
    have := of_decide_eq_true h2
    omega
   rw [e0] at hR
   subst hR
   repeat first | refine oy ?_ | refine ox ?_ | refine mI ?_ | refine mB ?_ | refine mv ?_ | refine bn rfl rfl rfl (by simp only [hce, hD, hwd, hA, hB, hlt, h2]; rfl) ?_ | refine tB ?_ | refine fB ?_ | (refine Fo.idx (by simp only [↓nrmL, nrmK, qe, ↓reduceIte]; rfl) rfl ?_ (by simp only [↓nrmL, nrmZ, qe, ↓reduceIte, qz, qn, qq, hce, hD, hwd, hA, hB, hlt, h2]; rfl) ?_; (focus omega)) | (refine Fo.ldI rfl ?_ (by simp only [hce, hD, hwd, hA, hB, hlt, h2]; rfl) ?_; (focus omega)) | refine Fo.now rfl rfl rfl ?_ | refine nl hKF ?_ | refine sq ?_ | refine rg fun KF hKF => ?_ | refine Fr.quiet rfl rfl fun KF hKF => ?_ | refine ct rfl ?_ | refine sk ?_ | refine rt ?_ | refine Wp.block ?_ | dsimp only
   refine rz trivial ?_
   exact ⟨rfl, Ext0.ext⟩
  cases h3 : decide (D > 64)
  rotate_left
  ·have e0 : groupB ls = false := groupB_no fun ⟨_, _, a⟩ => by
    have := (a (2 * i + 0) (by omega)).2.1
    have := of_decide_eq_true h3
    omega
   rw [e0] at hR
   subst hR
   repeat first | refine oy ?_ | refine mI ?_ | refine mB ?_ | refine mv ?_ | refine bn rfl rfl rfl (by simp only [hce, hD, hwd, hA, hB, hlt, h2, h3]; rfl) ?_ | refine fB ?_ | (refine Fo.idx (by simp only [↓nrmL, nrmK, qe, ↓reduceIte]; rfl) rfl ?_ (by simp only [↓nrmL, nrmZ, qe, ↓reduceIte, qz, qn, qq, hce, hD, hwd, hA, hB, hlt, h2, h3]; rfl) ?_; (focus omega)) | (refine Fo.ldI rfl ?_ (by simp only [hce, hD, hwd, hA, hB, hlt, h2, h3]; rfl) ?_; (focus omega)) | refine Fo.now rfl rfl rfl ?_ | refine nl hKF ?_ | refine sq ?_ | refine rg fun KF hKF => ?_ | refine Fr.quiet rfl rfl fun KF hKF => ?_ | refine ct rfl ?_ | refine sk ?_ | refine rt ?_ | refine Wp.block ?_ | dsimp only
   refine rz trivial ?_
   exact ⟨rfl, Ext0.ext⟩
  have hG3 := hG2.next (by have := of_decide_eq_false h2; omega) (by have := of_decide_eq_false h3; omega)
  rw [hgap] at hG3
  repeat first | refine oy ?_ | refine mI ?_ | refine mB ?_ | refine mv ?_ | refine bn rfl rfl rfl (by simp only [hce, hD, hwd, hA, hB, hlt, h2, h3, Bool.false_eq_true, if_false]; rfl) ?_ | refine b0 ?_ | refine fB ?_ | (refine Fo.idx (by simp only [↓nrmL, nrmK, qe, ↓reduceIte]; rfl) rfl ?_ (by simp only [↓nrmL, nrmZ, qe, ↓reduceIte, qz, qn, qq, hce, hD, hwd, hA, hB, hlt, h2, h3, Bool.false_eq_true, if_false]; rfl) ?_; (focus omega)) | (refine Fo.ldI rfl ?_ (by simp only [hce, hD, hwd, hA, hB, hlt, h2, h3, Bool.false_eq_true, if_false]; rfl) ?_; (focus omega)) | refine Fo.now rfl rfl (by simp only [hce, hD, hwd, hA, hB, hlt, h2, h3, Bool.false_eq_true, if_false]; rfl) ?_ | refine Fo.now rfl rfl rfl ?_ | refine nl hKF ?_ | refine sq ?_ | refine rg fun KF hKF => ?_ | refine Fr.quiet rfl rfl fun KF hKF => ?_ | refine ct rfl ?_ | refine cf rfl ?_ | refine sk ?_ | refine Wp.block ?_ | dsimp only
  refine ⟨(0 + 1, _, _), by dsimp only; omega, ⟨by simp only [↓nrmL, nrmZ, qe, ↓reduceIte, qz, qn, qq]; rfl, rfl, rfl, trivial⟩, by dsimp only; omega, hG3, rfl⟩
 ·skip
  have hxa : (ls[0].length - 1) < ls[i + 1].length := by omega
  have hxb : (ls[0].length - 1) < ls[i].length := by omega
  have hgap : gapG ls (2 * i + 1) = ls[i + 1][(ls[0].length - 1)] - ls[i][(ls[0].length - 1)] := by
   unfold gapG colG
   rw [show (2 * i + 1) / 2 = i by omega, show (2 * i + 1) % 2 = 1 by omega, ga, gb, g0]
   simp only [Nat.one_ne_zero, if_false]
   rw [getD_at hxa, getD_at hxb]
  have ma := hm.it (i + 1) (ls[0].length - 1)
  have mb := hm.it i (ls[0].length - 1)
  rw [ga, getD_at hxa] at ma
  rw [gb, getD_at hxb] at mb
  obtain ⟨A, hA⟩ : ∃ A, ls[i + 1][(ls[0].length - 1)] = A := ⟨_, rfl⟩
  obtain ⟨B, hB⟩ : ∃ B, ls[i][(ls[0].length - 1)] = B := ⟨_, rfl⟩
  rw [hA] at ma
  rw [hB] at mb
  rw [hA, hB] at hgap
  have hwd := w64m ma mb
  obtain ⟨D, hD⟩ : ∃ D, A - B = D := ⟨_, rfl⟩
  rw [hD] at hgap hwd
  cases hlt : decide (A < B)
  rotate_left
  ·have e0 : groupB ls = false := groupB_no fun ⟨_, _, a⟩ => by
    have := (a (2 * i + 1) (by omega)).1
    have := of_decide_eq_true hlt
    omega
   rw [e0] at hR
   subst hR
   repeat first | refine ox ?_ | refine mI ?_ | refine mB ?_ | refine mv ?_ | refine bn rfl rfl rfl (by simp only [hce, hD, hwd, hA, hB, hlt]; rfl) ?_ | refine tB ?_ | (refine Fo.idx (by simp only [↓nrmL, nrmK, qe, ↓reduceIte]; rfl) rfl ?_ (by simp only [↓nrmL, nrmZ, qe, ↓reduceIte, qz, qn, qq, hce, hD, hwd, hA, hB, hlt]; rfl) ?_; (focus omega)) | (refine Fo.ldI rfl ?_ (by simp only [hce, hD, hwd, hA, hB, hlt]; rfl) ?_; (focus omega)) | refine Fo.now rfl rfl rfl ?_ | refine nl hKF ?_ | refine sq ?_ | refine rg fun KF hKF => ?_ | refine Fr.quiet rfl rfl fun KF hKF => ?_ | refine ct rfl ?_ | refine sk ?_ | refine rt ?_ | refine Wp.block ?_ | dsimp only
   refine rz trivial ?_
   exact ⟨rfl, Ext0.ext⟩
  cases h2 : decide (D < 2)
  rotate_left
  ·have e0 : groupB ls = false := groupB_no fun ⟨_, _, a⟩ => by
    have := (a (2 * i + 1) (by omega)).1
    have := of_decide_eq_true h2
    omega
   rw [e0] at hR
   subst hR
   repeat first | refine oy ?_ | refine ox ?_ | refine mI ?_ | refine mB ?_ | refine mv ?_ | refine bn rfl rfl rfl (by simp only [hce, hD, hwd, hA, hB, hlt, h2]; rfl) ?_ | refine tB ?_ | refine fB ?_ | (refine Fo.idx (by simp only [↓nrmL, nrmK, qe, ↓reduceIte]; rfl) rfl ?_ (by simp only [↓nrmL, nrmZ, qe, ↓reduceIte, qz, qn, qq, hce, hD, hwd, hA, hB, hlt, h2]; rfl) ?_; (focus omega)) | (refine Fo.ldI rfl ?_ (by simp only [hce, hD, hwd, hA, hB, hlt, h2]; rfl) ?_; (focus omega)) | refine Fo.now rfl rfl rfl ?_ | refine nl hKF ?_ | refine sq ?_ | refine rg fun KF hKF => ?_ | refine Fr.quiet rfl rfl fun KF hKF => ?_ | refine ct rfl ?_ | refine sk ?_ | refine rt ?_ | refine Wp.block ?_ | dsimp only
   refine rz trivial ?_
   exact ⟨rfl, Ext0.ext⟩
  cases h3 : decide (D > 64)
  rotate_left
  ·have e0 : groupB ls = false := groupB_no fun ⟨_, _, a⟩ => by
    have := (a (2 * i + 1) (by omega)).2.1
    have := of_decide_eq_true h3
    omega
   rw [e0] at hR
   subst hR
   repeat first | refine oy ?_ | refine mI ?_ | refine mB ?_ | refine mv ?_ | refine bn rfl rfl rfl (by simp only [hce, hD, hwd, hA, hB, hlt, h2, h3]; rfl) ?_ | refine fB ?_ | (refine Fo.idx (by simp only [↓nrmL, nrmK, qe, ↓reduceIte]; rfl) rfl ?_ (by simp only [↓nrmL, nrmZ, qe, ↓reduceIte, qz, qn, qq, hce, hD, hwd, hA, hB, hlt, h2, h3]; rfl) ?_; (focus omega)) | (refine Fo.ldI rfl ?_ (by simp only [hce, hD, hwd, hA, hB, hlt, h2, h3]; rfl) ?_; (focus omega)) | refine Fo.now rfl rfl rfl ?_ | refine nl hKF ?_ | refine sq ?_ | refine rg fun KF hKF => ?_ | refine Fr.quiet rfl rfl fun KF hKF => ?_ | refine ct rfl ?_ | refine sk ?_ | refine rt ?_ | refine Wp.block ?_ | dsimp only
   refine rz trivial ?_
   exact ⟨rfl, Ext0.ext⟩
  have hG3 := hG2.next (by have := of_decide_eq_false h2; omega) (by have := of_decide_eq_false h3; omega)
  rw [hgap] at hG3
  repeat first | refine oy ?_ | refine mI ?_ | refine mB ?_ | refine mv ?_ | refine bn rfl rfl rfl (by simp only [hce, hD, hwd, hA, hB, hlt, h2, h3, Bool.false_eq_true, if_false]; rfl) ?_ | refine b0 ?_ | refine fB ?_ | (refine Fo.idx (by simp only [↓nrmL, nrmK, qe, ↓reduceIte]; rfl) rfl ?_ (by simp only [↓nrmL, nrmZ, qe, ↓reduceIte, qz, qn, qq, hce, hD, hwd, hA, hB, hlt, h2, h3, Bool.false_eq_true, if_false]; rfl) ?_; (focus omega)) | (refine Fo.ldI rfl ?_ (by simp only [hce, hD, hwd, hA, hB, hlt, h2, h3, Bool.false_eq_true, if_false]; rfl) ?_; (focus omega)) | refine Fo.now rfl rfl (by simp only [hce, hD, hwd, hA, hB, hlt, h2, h3, Bool.false_eq_true, if_false]; rfl) ?_ | refine Fo.now rfl rfl rfl ?_ | refine nl hKF ?_ | refine sq ?_ | refine rg fun KF hKF => ?_ | refine Fr.quiet rfl rfl fun KF hKF => ?_ | refine ct rfl ?_ | refine cf rfl ?_ | refine sk ?_ | refine Wp.block ?_ | dsimp only
  refine ⟨(1 + 1, _, _), by dsimp only; omega, ⟨by simp only [↓nrmL, nrmZ, qe, ↓reduceIte, qz, qn, qq]; rfl, rfl, rfl, trivial⟩, by dsimp only; omega, hG3, rfl⟩
end Go.Am

namespace Go.Am
open Go
end Go.Am

namespace Go.Am
open Go
open Nat renaming reduceEqDiff → qe, reduceAdd → qz
open Int renaming reduceBEq → qn, reduceBNe → qq
attribute [local irreducible] Wp WpO WpX WpE
theorem exec_emptyO {H : AHeap} {p : AVal} {sz k r bytes : Nat} {new : List AVal} {e0 : TypeId} (h : SliceAt H p sz k new) (g : HasRow H r [] true e0) (hsz : 0 < sz) (hb : 0 < bytes) (hk : 0 < k) (hroom : 2 * k * bytes ≤ 2 ^ 48) (hone : new.all AVal.one = true) (e : TypeId) :
  ∃ v H', aAppend e sz bytes (.slice r 0 0 (some 0) sz) p H = some (v, H') ∧ OwnS H' v sz k new e ∧ FreshS H v ∧ Ext H H' := by
 obtain ⟨hf1, hf2⟩ := aFirst_at h
 have hlen := h.len
 have hg1 := g.get
 have hg0 := g.lt
 have hs0 : ¬ sz = 0 := by omega
 have hb0 : ¬ bytes = 0 := by omega
 have ha : aRow r H = some (([], true), H) := by simp only [aRow, if_pos hg0, hg1]
 have key : aAppend e sz bytes (.slice r 0 0 (some 0) sz) p H = (if k = 0 then M.pure (.slice r 0 0 (some 0) sz) H else M.bind (aNew (.row new true (2 * e))) (fun r' => M.pure (.slice r' 0 (0 + k) none sz)) H) := by
  simp only [aAppend, hf1]
  rw [bind_of hf2]
  simp only [hone, hlen, Bool.not_true, ne_eq, not_true, decide_false, hs0, hb0, Bool.or_false, Bool.false_eq_true, if_false]
  rw [bind_of ha]
  have hk0 : ¬ k = 0 := by omega
  have hcap : ¬ (0 + k ≤ 0) := by omega
  have hcond : 0 + 0 * sz ≤ ([] : List AVal).length ∧ 2 * (0 + k) * bytes ≤ 2 ^ 48 := ⟨by simp, by rw [Nat.zero_add]; exact hroom⟩
  simp only [hk0, if_false, if_neg hcap]
  rw [if_pos hcond]
  have : (List.take (0 * sz) (List.drop 0 ([] : List AVal)) ++ new) = new := by simp
  rw [this]
 rw [key, if_neg (by omega)]
 refine ⟨.slice H.n 0 (0 + k) none sz, H.push (.row new true (2 * e)), rfl, ?_, ⟨fun r' _ _ _ _ e => by cases e; exact Nat.le_refl _⟩, (Ext.refl H).push _⟩
 rw [Nat.zero_add]
 exact ⟨Or.inr ⟨H.n, 2 * e, rfl, Nat.lt_succ_self _, push_get_eq, Nat.mul_div_cancel_left e (by decide), hlen, hk⟩⟩
theorem WpX.emptyO {call : ACall} {fr : AFrame} {H : AHeap} {K : AVal → AHeap → Prop} {e e0 : TypeId} {x y : ROpd} {p : AVal} {sz k r bytes : Nat} {new : List AVal} (hx : x.ev fr = .slice r 0 0 (some 0) sz) (hy : y.ev fr = p) (h : SliceAt H p sz k new) [g : HasRow H r [] true e0] (hsz : 0 < sz) (hb : 0 < bytes) (hk : 0 < k) (hroom : 2 * k * bytes ≤ 2 ^ 48) (hone : new.all AVal.one = true)
  (hK : ∀ v H', OwnS H' v sz k new e → FreshS H v → ExtI H H' → K v H') : WpX (.append e sz bytes x y) call fr H K := by
 obtain ⟨v, H', h1, h2, h3, h5⟩ := exec_emptyO h g hsz hb hk hroom hone e
 exact WpX.now (v := v) (H1 := H') (by simp only [ROp.exec, hx, hy]; exact h1) (hK v H' h2 h3 ⟨h5⟩)
theorem K_CloneI {p : AVal} {H : AHeap} {l : List Int} [hp : IntsI H p l] [hs : SlimI l] (h0 : l ≠ []) : Con ext prog 1 14 [p] H fun v H' => OwnS H' v 1 l.length (cellsI l) 3 ∧ FreshS H v ∧ Ext H H' := by
 refine con_of (show prog 14 = some c14 from rfl) rfl rfl fun n hn => ?_
 have hle := hs.le
 have hl0 : 0 < l.length := by cases l with | nil => exact absurd rfl h0 | cons a l => simp
 rcases hp.it with ⟨rfl, h0', _⟩ | ⟨r, off, cap, row, rw, e, rfl, hr, hg, hle', hc, _⟩
 ·omega
 ·skip
  repeat first | refine mN ?_ | refine mv ?_ | refine Fo.bslice rfl rfl ?_ | refine Fo.now rfl rfl (by simp only [↓nrmL, nrmZ, qe, ↓reduceIte, qz, qn, qq]; rfl) ?_ | refine nl hKF ?_ | refine sq ?_ | refine rg fun KF hKF => ?_ | refine cf rfl ?_ | refine sk ?_
  refine WpO.do (WpX.emptyO rfl (by simp only [↓nrmL, nrmZ, qe, ↓reduceIte, qz, qn, qq, List.map] <;> rfl) (inferInstance : IntsI _ _ l) (by decide) (by decide) hl0 (by omega) (cellsI_ones l) fun v H1 h1 h2 h3 => ?_)
  haveI := h1.sl.one
  refine mv ?_
  refine nl hKF ?_
  refine rt ?_
  dsimp only
  refine rz trivial ?_
  exact ⟨h1, h2.weak, Ext0.ext⟩
def StG (B : Nat) (H : AHeap) (q : AVal) (ls : List (List Int)) : Prop := ∃ cells, OwnS H q 1 ls.length cells 25 ∧ Copied B H cells ls ls.length ∧ ∀ r off len cap sz, q = .slice r off len cap sz → B ≤ r
theorem StG.lines {B : Nat} {H : AHeap} {q : AVal} {ls : List (List Int)} (h : StG B H q ls) : LinesI H q ls := by
 obtain ⟨cells, h1, h2, h3⟩ := h
 exact ⟨cells, h1.sl, ⟨fun i hi => by obtain ⟨p, a1, a2, a3⟩ := h2.it i hi hi; exact ⟨p, a1, a2.sl⟩⟩⟩
theorem StG.weak {B B' : Nat} {H : AHeap} {q : AVal} {ls : List (List Int)} (h : StG B H q ls) (hB : B' ≤ B) : StG B' H q ls := by
 obtain ⟨cells, h1, h2, h3⟩ := h
 exact ⟨cells, h1, ⟨fun i hi h4 => by obtain ⟨p, a1, a2, a3⟩ := h2.it i hi h4; exact ⟨p, a1, a2, fun r off len cap sz e => Nat.le_trans hB (a3 r off len cap sz e)⟩⟩, fun r off len cap sz e => Nat.le_trans hB (h3 r off len cap sz e)⟩
theorem StG.keep {B : Nat} {H H' : AHeap} {q : AVal} {ls : List (List Int)} (h : StG B H q ls) (hn : H.n ≤ H'.n) (hg : ∀ s cs e, s < H.n → B ≤ s → H.get s = .row cs true e → (e / 2 = 3 ∨ e / 2 = 25) → H'.get s = H.get s) : StG B H' q ls := by
 obtain ⟨cells, h1, h2, h3⟩ := h
 refine ⟨cells, ?_, h2.keep hn fun s cs e a b c d => hg s cs e a b c (Or.inl d), h3⟩
 rcases h1.it with ⟨a1, a2, a3⟩ | ⟨r, e', a1, a2, a3, a4, a5, a6⟩
 ·exact ⟨Or.inl ⟨a1, a2, a3⟩⟩
 ·exact ⟨Or.inr ⟨r, e', a1, by omega, by rw [hg r _ _ a2 (h3 _ _ _ _ _ a1) a3 (Or.inr a4)]; exact a3, a4, a5, a6⟩⟩
theorem StG.ext {B : Nat} {H H' : AHeap} {q : AVal} {ls : List (List Int)} (h : StG B H q ls) (x : Ext H H') : StG B H' q ls := h.keep x.n fun s _ _ a _ _ _ => x.get s a
theorem K_stGroup {H : AHeap} {p : AVal} {ls : List (List Int)} [hp : LinesI H p ls] [hs : SlimL ls] (hne : ∀ (i : Nat) (h : i < ls.length), ls[i] ≠ []) : Con ext prog 2 73 [p] H fun v H' => ∃ q, v = .agg [q] ∧ StG H.n H' q ls ∧ Ext H H' := by
 refine con_of (show prog 73 = some c73 from rfl) rfl rfl fun n hn => ?_
 obtain ⟨ps, hps, hrw⟩ := hp.it
 haveI := hps
 haveI := hps.one
 have hle := hs.le
 repeat first | refine mI ?_ | refine mv ?_ | refine ln (by simp only [↓nrmL, nrmK, qe, ↓reduceIte]; rfl) ?_ | refine nw ?_ | refine nl hKF ?_ | refine sq ?_ | refine rg fun KF hKF => ?_ | refine Wp.block ?_ | dsimp only
 refine Wp.loopS (σ := Nat × AVal) [5, 8, 9, 10, 11, 12, 13, 14, 15, 16, 17, 18, 19] (fun s => [(8, .int .i64 (s.1 : Int))]) (fun H3 s H2 => s.1 ≤ ls.length ∧ H.n + 2 ≤ H2.n ∧ HasRow H2 (H.push (.row [.nslice] true (2 * 43))).n [s.2] true (2 * 43) ∧ HasRow H2 H.n [.nslice] true (2 * 43) ∧ ∃ cells, OwnS H2 s.2 1 s.1 cells 25 ∧ Copied (H.n + 2) H2 cells ls s.1 ∧ (∀ r off len cap sz, s.2 = .slice r off len cap sz → H.n + 2 ≤ r) ∧ Ext H H2) (fun s => ls.length - s.1) (0, .nslice) rfl (fun _ => rfl) ⟨rfl, trivial⟩ ⟨Nat.zero_le _, Nat.le_refl _, (show HasRow ((H.push (.row [.nslice] true (2 * 43))).push (.row [.nslice] true (2 * 43))) (H.push (.row [.nslice] true (2 * 43))).n [.nslice] true (2 * 43) from inferInstance), inferInstance, [], ⟨Or.inl ⟨rfl, rfl, rfl⟩⟩, ⟨fun j h1 h2 => by cases h2⟩, fun _ _ _ _ _ e => (by cases e), Ext0.ext⟩ (by unfold fuel0 at hn; dsimp only; omega) ?_
 rintro ⟨i, op⟩ g H2 ⟨hi, hn2, hrow, hrow0, cells, ho, hc, hf, hx⟩
 dsimp only at hi ho hc hf hrow
 haveI : ExtI H H2 := ⟨hx⟩
 haveI := hrow
 haveI := hrow0
 haveI := ho.sl.one
 simp only [↓nrmL, nrmZ, qe, ↓reduceIte, qz, qn, qq]
 cases hcc : decide ((i : Int) < ((ls.length : Nat) : Int))
 ·have hil : i = ls.length := by have := of_decide_eq_false hcc; omega
  subst hil
  repeat first | refine Fo.ldN rfl rfl (by simp only [↓nrmL, nrmZ, qe, ↓reduceIte, qz, qn, qq, hcc]; rfl) ?_ | refine bn rfl rfl rfl (by simp only [hcc]; rfl) ?_ | refine so rfl (rfl : _ = AVal.agg _) rfl rfl rfl (by simp only [↓nrmL, nrmZ, qe, ↓reduceIte, qz, qn, qq, hcc]; rfl) ?_ | refine nl hKF ?_ | refine sq ?_ | refine rg fun KF hKF => ?_ | refine cf rfl ?_ | refine rt ?_ | refine xi ?_ | dsimp only
  refine rz trivial ?_
  refine ⟨op, rfl, StG.weak (StG.keep (H := H2) ⟨cells, ho, hc, hf⟩ (Nat.le_refl _) fun s cs e a b c d => ?_) (by omega), ?_⟩
  ·rw [set_get_ne (by omega)]
  ·exact ⟨by simp only [AHeap.set]; exact hx.n, fun s hs => by rw [set_get_ne (by omega), hx.get s hs]⟩
 have hil : i < ls.length := by have := of_decide_eq_true hcc; omega
 have hwi := wa1 (a := i) (by omega)
 obtain ⟨q, hq, hI⟩ := hrw.it i hil
 haveI := hI
 haveI := hI.one
 haveI := hs.it i hil
 repeat first | refine bn rfl rfl rfl (by simp only [hcc]; rfl) ?_ | (refine Fo.idx (by simp only [↓nrmL, nrmK, qe, ↓reduceIte]; rfl) rfl ?_ (by simp only [↓nrmL, nrmZ, qe, ↓reduceIte, qz, qn, qq, hcc]; rfl) ?_; (focus omega)) | refine nl hKF ?_ | refine sq ?_ | refine rg fun KF hKF => ?_ | refine ct rfl ?_ | refine sk ?_ | refine Wp.block ?_
 refine Fo.now rfl (exec_ldP (p := p) (j := i) rfl hq) rfl ?_
 refine mv ?_
 refine nl hKF ?_
 dsimp only
 refine Fr.dregion0 rfl fun KF hKF => ?_
 refine Fe.pure rfl rfl (by simp only [↓nrmL, nrmZ, qe, ↓reduceIte, qz, qn, qq]; rfl) ?_
 refine Er rfl (exec_ld rfl rfl) rfl ?_
 refine Fe.pure rfl rfl (by simp only [↓nrmL, nrmZ, qe, ↓reduceIte, qz, qn, qq]; rfl) ?_
 refine Fe.con rfl hn rfl rfl (by simp only [↓nrmL, nrmZ, qe, ↓reduceIte, qz, qn, qq, List.map] <;> rfl) (K_CloneI (p := q) (l := ls[i]) (hne i hil)) fun v H3 h5 => ?_
 obtain ⟨h1, h2, h3⟩ := h5
 haveI : ExtI H2 H3 := ⟨h3⟩
 haveI := h1.sl.one
 have ho3 : OwnS H3 op 1 i cells 25 := inferInstance
 have hc3 : Copied (H.n + 2) H3 cells ls i := hc.keep h3.n fun s cs e hs _ _ _ => h3.get s hs
 refine ar ?_
 skip
 refine WpE.effect rfl (exec_bs (cs := [v]) (aFill1 (v := v) rfl rfl rfl)) (by repeat (first | exact trivial | refine ⟨(by first | exact Or.inl (by dsimp only; decide) | exact Or.inr (readOk_of (exec_ld rfl rfl)) | exact Or.inr (readOk_of (exec_ld rfl (by assumption))) | exact Or.inr (readOk_of (exec_ldN rfl rfl rfl)) | exact Or.inr (readOk_of (exec_ldB rfl (by omega))) | exact Or.inr (readOk_of (exec_ldI rfl (by omega))) | exact Or.inr (made_of rfl)), ?_⟩)) ?_
 have hroom : 2 * (i + 1) * 24 ≤ 2 ^ 48 := by omega
 refine WpE.grow (p := op) (q := .slice H3.n 0 1 (some 1) 1) (sz := 1) (k := 1) (cs := cells) (new := [v]) (hq := row_one1 (inferInstance : HasRow _ H3.n [v] true (2 * 25))) rfl rfl rfl (by decide) (by decide) (by decide) hroom (by simp only [List.all_cons, (inferInstance : OneV v).one, List.all_nil, Bool.and_self]) fun op' H9 ho2 hf2 hx2 => ?_
 have hn3 := h3.n
 have hn9 := hx2.n
 simp only [AHeap.push] at hn9
 haveI := ho2.sl.one
 haveI hopne1 : RowNe op (H.push (.row [.nslice] true (2 * 43))).n := ⟨fun r _ _ _ _ e => by have := hf _ _ _ _ _ e; simp only [AHeap.push]; omega⟩
 haveI hopne0 : RowNe op H.n := ⟨fun r _ _ _ _ e => by have := hf _ _ _ _ _ e; omega⟩
 haveI := hx2
 refine ar ?_
 refine Fe.pure rfl rfl (by simp only [↓nrmL, nrmZ, qe, ↓reduceIte, qz, qn, qq]; rfl) ?_
 refine Ee rfl (exec_stW (v := op') (l := [op']) rfl rfl rfl rfl) ?_
 refine WpE.nil (hKF _ _ ?_)
 refine rg fun KF hKF => ?_
 refine b0 ?_
 refine mI ?_
 refine nl hKF ?_
 dsimp only
 have hkeep : ∀ s cs e, s < H3.n → H.n + 2 ≤ s → H3.get s = .row cs true e → e / 2 = 3 → (H9.set (H.push (.row [.nslice] true (2 * 43))).n (.row [op'] true (2 * 43))).get s = H3.get s := fun s cs e hs hs2 hg he => by
  have hne := ho3.tn hg (fun h7 => by rw [he] at h7; exact absurd h7 (by decide))
  rw [set_get_ne (by simp only [AHeap.push]; omega), hx2.get s (by simp only [AHeap.push]; omega) hne, push_get_lt hs]
 have hcl : cells.length = i := by have := ho.sl.len; omega
 have hopne9 : RowNe op' (H.push (.row [.nslice] true (2 * 43))).n := ⟨fun r _ _ _ _ e => by have := hf2.ge _ _ _ _ _ e; simp only [AHeap.push] at this ⊢; omega⟩
 refine ⟨(i + 1, op'), by dsimp only; omega, ⟨by simp only [↓nrmL, nrmZ, qe, ↓reduceIte, qz, qn, qq]; rw [hwi], trivial⟩, by dsimp only; omega, by simp only [AHeap.set]; omega, inferInstance, inferInstance, cells ++ [v], inferInstance, ?_, fun r _ _ _ _ e => by have := hf2.ge _ _ _ _ _ e; simp only [AHeap.push] at this; omega, ?_⟩
 ·have hc9 := hc3.keep (H' := H9.set (H.push (.row [.nslice] true (2 * 43))).n (.row [op'] true (2 * 43))) (by simp only [AHeap.set]; omega) hkeep
  have h9 : Copied (H.n + 2) (H9.set (H.push (.row [.nslice] true (2 * 43))).n (.row [op'] true (2 * 43))) [v] [ls[i]] 1 := by
   refine Copied.keep (H := H3) ⟨fun j a b => ?_⟩ (by simp only [AHeap.set]; omega) hkeep
   obtain rfl : j = 0 := by omega
   exact ⟨v, rfl, h1, fun r _ _ _ _ e => by have := h2.ge _ _ _ _ _ e; omega⟩
  refine ⟨fun j a b => ?_⟩
  by_cases hj : j < i
  ·obtain ⟨q', b1, b2, b3⟩ := hc9.it j a hj
   exact ⟨q', by rw [List.getElem?_append_left (by omega)]; exact b1, b2, b3⟩
  ·obtain rfl : j = i := by dsimp only at b; omega
   obtain ⟨q', b1, b2, b3⟩ := h9.it 0 (by simp) (by decide)
   exact ⟨q', by rw [List.getElem?_append_right (by omega), hcl, Nat.sub_self]; exact b1, b2, b3⟩
 ·refine ⟨by simp only [AHeap.set]; have := hx.n; omega, fun r hr => ?_⟩
  have := hx.n
  rw [set_get_ne (by simp only [AHeap.push]; omega), hx2.get r (by simp only [AHeap.push]; omega) ⟨fun r' _ _ _ _ e => by have := hf _ _ _ _ _ e; omega⟩, push_get_lt (by omega), h3.get r (by omega), hx.get r hr]
end Go.Am

namespace Go.Am
open Go
attribute [local irreducible] Wp WpO WpX WpE
end Go.Am

namespace Go.Am
open Go
open Nat renaming reduceEqDiff → qe, reduceAdd → qz
open Int renaming reduceBEq → qn, reduceBNe → qq
attribute [local irreducible] Wp WpO WpX WpE
def StvG (B : Nat) (H : AHeap) (v : AVal) (sts : List (List (List Int))) : Prop := ∃ cells, OwnS H v 1 sts.length cells 43 ∧ (∀ j (h : j < sts.length), ∃ q, cells[j]? = some q ∧ StG B H q sts[j]) ∧ ∀ r off len cap sz, v = .slice r off len cap sz → B ≤ r
theorem SlimL.take {ls : List (List Int)} (h : SlimL ls) (b : Nat) : SlimL (ls.take b) := ⟨by have := h.le; rw [List.length_take]; omega, fun i hi => by
 rw [List.length_take] at hi
 rw [List.getElem_take]
 exact h.it i (by omega)⟩
theorem SlimL.drop {ls : List (List Int)} (h : SlimL ls) (b : Nat) : SlimL (ls.drop b) := ⟨by have := h.le; rw [List.length_drop]; omega, fun i hi => by
 rw [List.length_drop] at hi
 rw [List.getElem_drop]
 exact h.it (b + i) (by omega)⟩
theorem group_ne {ls : List (List Int)} (h5 : ls.length = 5) (hg : groupB ls = true) : ∀ (i : Nat) (h : i < ls.length), ls[i] ≠ [] := fun i hi e => by
 obtain ⟨h0, hl, _⟩ := groupB_iff.1 hg
 have := hl i (by omega)
 rw [getDL_at hi, e] at this
 exact h0 this.symm
def Left (H : AHeap) (pv : AVal) (rs : List (List Int)) : Prop := LinesI H pv rs ∨ (rs = [] ∧ aLenS pv = some (.int .i64 0))
theorem K_Staves {H : AHeap} {p : AVal} {ls : List (List Int)} [hp : LinesI H p ls] [hm : ModL ls] [hs : SlimL ls] (h40 : ls.length ≤ 40) : Con ext prog 3 27 [p] H fun v H' => StvG H.n H' v (stavesS ls) ∧ Ext H H' := by
 refine con_of (show prog 27 = some c27 from rfl) rfl rfl fun n hn => ?_
 obtain ⟨ps0, hps0, hrw0⟩ := hp.it
 haveI := hps0.one
 refine sq ?_
 refine rg fun KF hKF => ?_
 refine mN ?_
 refine nl hKF ?_
 dsimp only
 refine Wp.scope ?_
 refine sq ?_
 refine rg fun KF hKF => ?_
 refine mN ?_
 refine nl hKF ?_
 refine sq ?_
 refine Wp.labelW ?_
 refine sq ?_
 refine Wp.block ?_
 dsimp only
 refine Wp.loopS (σ := List (List (List Int)) × List (List Int) × AVal × AVal) [0, 3, 4, 5, 6, 7, 8, 9, 10, 11, 12, 13, 14, 15, 16, 17, 18, 19, 20, 21] (fun s => [(0, s.2.2.1), (3, s.2.2.2)]) (fun H3 s H2 => s.1 ++ stavesS s.2.1 = stavesS ls ∧ Left H s.2.2.1 s.2.1 ∧ ModL s.2.1 ∧ SlimL s.2.1 ∧ s.2.1.length ≤ 40 ∧ OneV s.2.2.1 ∧ StvG H.n H2 s.2.2.2 s.1 ∧ Ext0 H H2) (fun s => s.2.1.length) ([], ls, p, .nslice) rfl (fun _ => rfl) ⟨rfl, rfl, trivial⟩ ⟨rfl, Or.inl hp, hm, hs, h40, inferInstance, ⟨[], ⟨Or.inl ⟨rfl, rfl, rfl⟩⟩, fun j hj => (by cases hj), fun _ _ _ _ _ e => (by cases e)⟩, inferInstance⟩ (by unfold fuel0 at hn; dsimp only; omega) ?_
 rintro ⟨acc, rs, pv, op⟩ g H2 ⟨hacc, hl0, hmm, hss, hr40, h1v, hG, ⟨hx⟩⟩
 dsimp only at hacc hl0 hmm hss hr40 h1v hG
 haveI : ExtI H H2 := ⟨hx⟩
 haveI := h1v
 obtain ⟨cells, ho, hit, hlow⟩ := hG
 haveI := ho.sl.one
 simp only [↓nrmL, nrmZ, qe, ↓reduceIte, qz, qn, qq]
 rcases hl0 with hl | ⟨rfl, hl⟩
 rotate_left
 ·have e0 := stavesS_few (ls := []) (by decide)
  rw [e0, List.append_nil] at hacc
  refine Wp.block ?_
  refine Wp.block ?_
  refine sq ?_
  refine rg fun KF hKF => ?_
  refine mv ?_
  refine Fo.now rfl (exec_len0 rfl hl) rfl ?_
  refine b0 ?_
  refine mB ?_
  refine nl hKF ?_
  refine ct rfl ?_
  refine xi ?_
  refine sq ?_
  refine rg fun KF hKF => ?_
  refine mv ?_
  refine mv ?_
  refine nl hKF ?_
  refine rt ?_
  dsimp only
  refine rz trivial ?_
  rw [← hacc]
  exact ⟨⟨cells, ho, hit, hlow⟩, hx⟩
 obtain ⟨ps, hps, hrw⟩ := hl.it
 haveI := hps
 cases hc : decide (((rs.length : Nat) : Int) < 5)
 rotate_left
 ·have hlt := of_decide_eq_true hc
  have e0 := stavesS_few (ls := rs) (by omega)
  rw [e0, List.append_nil] at hacc
  repeat first | refine mB ?_ | refine mv ?_ | refine bn rfl rfl rfl (by simp only [hc]; rfl) ?_ | refine ln (by simp only [↓nrmL, nrmK, qe, ↓reduceIte]; rfl) ?_ | refine nl hKF ?_ | refine sq ?_ | refine rg fun KF hKF => ?_ | refine ct rfl ?_ | refine rt ?_ | refine Wp.block ?_ | refine xi ?_ | dsimp only
  refine rz trivial ?_
  rw [← hacc]
  exact ⟨⟨cells, ho, hit, hlow⟩, hx⟩
 have hge : ¬ rs.length < 5 := by have := of_decide_eq_false hc; omega
 have ht5 : (rs.take 5).length = 5 := by rw [List.length_take]; omega
 repeat first | refine mB ?_ | refine mv ?_ | refine bn rfl rfl rfl (by simp only [hc]; rfl) ?_ | refine ln (by simp only [↓nrmL, nrmK, qe, ↓reduceIte]; rfl) ?_ | refine nl hKF ?_ | refine sq ?_ | refine rg fun KF hKF => ?_ | refine cf rfl ?_ | refine Wp.block ?_
 refine Fo.subN (p := pv) (ls := rs) (a := 0) (b := 5) rfl hl Ext0.ext (Or.inl ⟨rfl, rfl⟩) (Or.inr ⟨_, rfl⟩) (by omega) (by omega) fun v hv hv1 => ?_
 rw [List.drop_zero, Nat.sub_zero] at hv
 haveI := hv1
 skip
 refine WpO.do (WpX.conD hn rfl rfl (by simp only [↓nrmL, nrmZ, qe, ↓reduceIte, qz, qn, qq, List.map] <;> rfl) (K_belong (p := v) (ls := rs.take 5) (hp := hv.ext Ext0.ext) (hm := hmm.take 5) ht5 (fun i h => by have := ((hss.take 5).it i h).le; omega)) fun u H4 h5 => ?_)
 obtain ⟨rfl, hx4⟩ := h5
 haveI : ExtI _ H4 := ⟨hx4⟩
 have hx24 : Ext H2 H4 := Ext0.ext
 have hx04 : Ext H H4 := Ext0.ext
 cases hg : groupB (rs.take 5)
 ·have e0 := stavesS_no hge hg
  rw [e0] at hacc
  refine mB ?_
  refine nl hKF ?_
  refine cf rfl ?_
  refine rg fun KF hKF => ?_
  refine mv ?_
  refine Fo.subN (p := pv) (ls := rs) (a := 1) (b := rs.length) rfl hl hx04 (Or.inr ⟨_, rfl⟩) (Or.inl ⟨rfl, rfl⟩) (by omega) (Nat.le_refl _) fun w hw hw1 => ?_
  have ed : (rs.drop 1).take (rs.length - 1) = rs.drop 1 := List.take_of_length_le (by rw [List.length_drop]; omega)
  rw [ed] at hw
  refine mv ?_
  refine nl hKF ?_
  dsimp only
  refine ⟨(acc, rs.drop 1, w, op), by dsimp only; rw [List.length_drop]; omega, ⟨rfl, rfl, trivial⟩, hacc, Or.inl hw, hmm.drop 1, hss.drop 1, by dsimp only; rw [List.length_drop]; omega, hw1, ⟨cells, inferInstance, fun j hj => ?_, hlow⟩, inferInstance⟩
  obtain ⟨q, a1, a2⟩ := hit j hj
  exact ⟨q, a1, a2.ext hx24⟩
 have e0 := stavesS_yes hge hg
 rw [e0] at hacc
 refine mB ?_
 refine nl hKF ?_
 refine ct rfl ?_
 refine sq ?_
 refine rg fun KF hKF => ?_
 refine mv ?_
 refine mv ?_
 refine Fo.subN (p := pv) (ls := rs) (a := 0) (b := 5) rfl hl hx04 (Or.inl ⟨rfl, rfl⟩) (Or.inr ⟨_, rfl⟩) (by omega) (by omega) fun v5 hv5 hv51 => ?_
 rw [List.drop_zero, Nat.sub_zero] at hv5
 haveI := hv51
 skip
 refine WpO.do (WpX.conD hn rfl rfl (by simp only [↓nrmL, nrmZ, qe, ↓reduceIte, qz, qn, qq, List.map] <;> rfl) (K_stGroup (p := v5) (ls := rs.take 5) (hp := hv5.ext hx04) (hs := hss.take 5) (group_ne ht5 hg)) fun u H6 h5 => ?_)
 obtain ⟨q, rfl, hq, hx6⟩ := h5
 haveI : ExtI _ H6 := ⟨hx6⟩
 have hx26 : Ext H2 H6 := Ext0.ext
 have n26 := hx26.n
 have n24 := hx24.n
 have n46 := hx6.n
 have n2 := hx.n
 have ho6 : OwnS (H6.push (.row [q] true (2 * 43))) op 1 acc.length cells 43 := inferInstance
 have hal : acc.length ≤ 40 := by
  have h1 := congrArg List.length hacc
  have h2 := stvF_len ls.length ls
  have h3 : (stavesS ls).length ≤ ls.length := h2
  rw [List.length_append] at h1
  omega
 have hq1 : OneV q := by obtain ⟨cs, k1, k2, k3⟩ := hq; exact k1.sl.one
 refine Fo.bslice rfl (by simp only [↓nrmL, nrmZ, qe, ↓reduceIte, qz, qn, qq]; rfl) ?_
 refine WpO.do (WpX.growX (p := op) (q := .slice H6.n 0 1 (some 1) 1) (k := 1) (new := [q]) rfl rfl ho6 (row_one1 (inferInstance : HasRow _ H6.n [q] true (2 * 43))) (by decide) (by decide) (by decide) (by omega) (by simp only [List.all_cons, hq1.one, List.all_nil, Bool.and_self]) fun op' H9 ho2 hf2 hx2 => ?_)
 haveI := ho2.sl.one
 have n9 := hx2.n
 simp only [AHeap.push] at n9
 have hx29 : Ext H H9 := ⟨by omega, fun r hr => by
  rw [hx2.get r (by simp only [AHeap.push]; omega) ⟨fun r' _ _ _ _ e => by have := hlow _ _ _ _ _ e; omega⟩, push_get_lt (by omega), hx26.get r (by omega), hx.get r hr]⟩
 haveI : ExtI H H9 := ⟨hx29⟩
 have hkeep : ∀ s cs e, s < H6.n → H6.get s = .row cs true e → (e / 2 = 3 ∨ e / 2 = 25) → H9.get s = H6.get s := fun s cs e hs hg he => by
  have hne := (show OwnS H6 op 1 acc.length cells 43 from inferInstance).tn hg (fun h7 => by rcases he with he | he <;> rw [he] at h7 <;> exact absurd h7 (by decide))
  rw [hx2.get s (by simp only [AHeap.push]; omega) hne, push_get_lt hs]
 have hcl : cells.length = acc.length := by have := ho.sl.len; omega
 have hlow2 : ∀ r off len cap sz, op' = .slice r off len cap sz → H.n ≤ r := fun r _ _ _ _ e => by have := hf2.ge _ _ _ _ _ e; simp only [AHeap.push] at this; omega
 have hnew : ∀ j (h : j < (acc ++ [rs.take 5]).length), ∃ q', (cells ++ [q])[j]? = some q' ∧ StG H.n H9 q' (acc ++ [rs.take 5])[j] := fun j hj => by
  by_cases e : j < acc.length
  ·obtain ⟨q', a1, a2⟩ := hit j e
   refine ⟨q', by rw [List.getElem?_append_left (by omega)]; exact a1, ?_⟩
   rw [List.getElem_append_left e]
   exact (a2.ext hx26).keep (by omega) fun s cs e a _ b c => hkeep s cs e a b c
  ·have ej : j = acc.length := by simp at hj; omega
   subst ej
   refine ⟨q, by rw [List.getElem?_append_right (by omega), hcl, Nat.sub_self]; rfl, ?_⟩
   simp only [List.getElem_append_right (Nat.le_refl _), Nat.sub_self, List.getElem_cons_zero]
   exact (hq.weak (by omega)).keep (by omega) fun s cs e a _ b c => hkeep s cs e a b c
 by_cases h5e : rs.length = 5
 ·skip
  refine mv ?_
  refine nl hKF ?_
  refine rg fun KF hKF => ?_
  refine mv ?_
  refine Fo.subE (p := pv) (ls := rs) (a := 5) rfl (hl.ext Ext0.ext) (Or.inr ⟨_, rfl⟩) (Or.inl ⟨rfl, h5e.symm⟩) (by omega) fun w H10 hw hw1 hx10 => ?_
  have hd5 : rs.drop 5 = [] := List.drop_eq_nil_of_le (by omega)
  rw [hd5] at hacc
  refine mv ?_
  refine nl hKF ?_
  dsimp only
  refine ⟨(acc ++ [rs.take 5], [], w, op'), by dsimp only; simp only [List.length_nil]; omega, ⟨rfl, rfl, trivial⟩, by dsimp only; rw [List.append_assoc]; exact hacc, Or.inr ⟨rfl, hw⟩, ⟨fun i x => by simp⟩, ⟨by simp, fun i h => by cases h⟩, by simp, hw1, ⟨cells ++ [q], by dsimp only; rw [List.length_append]; exact (show OwnS H10 op' 1 (acc.length + 1) (cells ++ [q]) 43 from inferInstance), fun j hj => ?_, hlow2⟩, inferInstance⟩
  obtain ⟨q', a1, a2⟩ := hnew j hj
  exact ⟨q', a1, a2.ext hx10.ext⟩
 ·skip
  refine mv ?_
  refine nl hKF ?_
  refine rg fun KF hKF => ?_
  refine mv ?_
  refine Fo.subN (p := pv) (ls := rs) (a := 5) (b := rs.length) rfl hl hx29 (Or.inr ⟨_, rfl⟩) (Or.inl ⟨rfl, rfl⟩) (by omega) (Nat.le_refl _) fun w hw hw1 => ?_
  have ed : (rs.drop 5).take (rs.length - 5) = rs.drop 5 := List.take_of_length_le (by rw [List.length_drop]; omega)
  rw [ed] at hw
  refine mv ?_
  refine nl hKF ?_
  dsimp only
  refine ⟨(acc ++ [rs.take 5], rs.drop 5, w, op'), by dsimp only; rw [List.length_drop]; omega, ⟨rfl, rfl, trivial⟩, by dsimp only; rw [List.append_assoc]; exact hacc, Or.inl hw, hmm.drop 5, hss.drop 5, by dsimp only; rw [List.length_drop]; omega, hw1, ⟨cells ++ [q], by dsimp only; rw [List.length_append]; exact ho2, hnew, hlow2⟩, inferInstance⟩
end Go.Am

namespace Go.Am
open Go
attribute [local irreducible] Wp WpO WpX WpE
theorem LinesI.one {H : AHeap} {p : AVal} {ls : List (List Int)} (h : LinesI H p ls) : OneV p := by
 obtain ⟨ps, h1, h2⟩ := h.it
 exact h1.one
theorem StavesI.ones {H : AHeap} {p : AVal} {n : Nat} {cells : List AVal} {sts : List (List (List Int))} (h : StavesI H p n cells sts) : cells.all AVal.one = true := by
 rw [List.all_eq_true]
 intro c hc
 obtain ⟨i, hi, rfl⟩ := List.getElem_of_mem hc
 have hl := h.sl.len
 have := h.len
 obtain ⟨q, h1, h2⟩ := h.it i (by omega)
 rw [List.getElem?_eq_getElem hi] at h1
 cases h1
 exact h2.one.one
end Go.Am

namespace Go.Am
open Go
open Nat renaming reduceEqDiff → qe, reduceAdd → qz
open Int renaming reduceBEq → qn, reduceBNe → qq
attribute [local irreducible] Wp WpO WpX WpE
theorem K_SameStaves {p q : AVal} {H : AHeap} {m m' : Nat} {cs cs' : List AVal} {sts : List (List (List Int))} (hp : StavesI H p m cs sts) (hq : StavesI H q m' cs' sts) (hs : ∀ (i : Nat) (h : i < sts.length), SlimL sts[i]) (hm : m ≤ 1000) : Con ext prog 4 28 [p, q] H fun v H' => v = .bool true ∧ Ext H H' := by
 refine con_of (show prog 28 = some c28 from rfl) rfl rfl fun n hn => ?_
 have hsp := hp.sl
 have hsq := hq.sl
 haveI := hsp
 haveI := hsq
 haveI := hsp.one
 haveI := hsq.one
 have e1 := hp.len
 have e2 := hq.len
 have hcl : cs.length = m := by have := hsp.len; omega
 have hcl' : cs'.length = m' := by have := hsq.len; omega
 have emm : m' = m := by omega
 subst emm
 have h1 : (((m' : Nat) : Int) != ((m' : Nat) : Int)) = false := by simp
 repeat first | refine mI ?_ | refine mB ?_ | refine mv ?_ | refine bn rfl rfl rfl (by simp only [h1]; rfl) ?_ | refine ln (by simp only [↓nrmL, nrmK, qe, ↓reduceIte]; rfl) ?_ | refine nl hKF ?_ | refine sq ?_ | refine rg fun KF hKF => ?_ | refine cf rfl ?_ | refine sk ?_ | refine Wp.block ?_ | dsimp only
 refine Wp.loopS [4, 5, 11, 12, 13, 14, 15, 16, 17, 18, 19, 20, 21, 22, 23, 24, 25, 26] (fun i : Nat => [(5, .int .i64 i)]) (fun H3 i H2 => i ≤ m' ∧ Ext0 H3 H2) (fun i => m' - i) 0 rfl (fun _ => rfl) ⟨rfl, trivial⟩ ⟨Nat.zero_le _, inferInstance⟩ (by unfold fuel0 at hn; omega) ?_
 rintro i g H2 ⟨hi, ⟨hx⟩⟩
 haveI : ExtI _ H2 := ⟨hx⟩
 simp only [↓nrmL, nrmZ, qe, ↓reduceIte, qz, qn, qq]
 cases hc : decide ((i : Int) < (m' : Int))
 ·skip
  repeat first | refine mI ?_ | refine mB ?_ | refine mv ?_ | refine bn rfl rfl rfl (by simp only [hc]; rfl) ?_ | refine ln (by simp only [↓nrmL, nrmK, qe, ↓reduceIte]; rfl) ?_ | refine nl hKF ?_ | refine sq ?_ | refine rg fun KF hKF => ?_ | refine cf rfl ?_ | refine rt ?_ | refine xi ?_ | dsimp only
  refine rz trivial ?_
  exact ⟨rfl, Ext0.ext⟩
 have hil : i < m' := by have := of_decide_eq_true hc; omega
 have his : i < sts.length := by omega
 have hw1 := wa1 (a := i) (by omega)
 obtain ⟨a, ha, hLa⟩ := hp.it i his
 obtain ⟨b, hb, hLb⟩ := hq.it i his
 haveI := hLa
 haveI := hLb
 haveI := hLa.one
 haveI := hLb.one
 haveI := hs i his
 have hne : decide (sts[i] = sts[i]) = true := decide_eq_true rfl
 refine sq ?_
 refine sq ?_
 refine rg fun KF hKF => ?_
 refine mI ?_
 refine mv ?_
 refine ln (by simp only [↓nrmL, nrmK, qe, ↓reduceIte]; rfl) ?_
 refine bn rfl rfl rfl (by simp only [hc]; rfl) ?_
 refine nl hKF ?_
 refine ct rfl ?_
 refine sk ?_
 refine sq ?_
 refine Wp.block ?_
 refine sq ?_
 dsimp only
 refine Fr.dregion0 rfl fun KF hKF => ?_
 refine Fe.pure rfl rfl (by simp only [↓nrmL, nrmZ, qe, ↓reduceIte, qz, qn, qq]; rfl) ?_
 refine Fe.pure rfl rfl (by simp only [↓nrmL, nrmZ, qe, ↓reduceIte, qz, qn, qq]; rfl) ?_
 refine Fe.pure rfl (exec_idxP (by (try simp only [↓nrmL, nrmZ, qe, ↓reduceIte, qz, qn, qq]); rfl) rfl ?_) (by simp only [↓nrmL, nrmZ, qe, ↓reduceIte, qz, qn, qq]; rfl) ?_; (focus omega)
 refine Fe.read rfl (exec_ldNP (p := p) (j := i) (m := 1) (l := [a]) rfl (by decide) (by omega) (take_one ha)) rfl trivial ?_
 refine Fe.pure rfl rfl (by simp only [↓nrmL, nrmZ, qe, ↓reduceIte, qz, qn, qq]; rfl) ?_
 refine Fe.pure rfl rfl (by simp only [↓nrmL, nrmZ, qe, ↓reduceIte, qz, qn, qq]; rfl) ?_
 refine Fe.pure rfl (exec_idxP (by (try simp only [↓nrmL, nrmZ, qe, ↓reduceIte, qz, qn, qq]); rfl) rfl ?_) (by simp only [↓nrmL, nrmZ, qe, ↓reduceIte, qz, qn, qq]; rfl) ?_; (focus omega)
 refine Fe.read rfl (exec_ldNP (p := q) (j := i) (m := 1) (l := [b]) rfl (by decide) (by omega) (take_one hb)) rfl trivial ?_
 simp only [↓nrmL, nrmZ, qe, ↓reduceIte, qz, qn, qq, hne]
 refine Fe.pcall (v' := ?_) rfl hn rfl (by simp only [↓nrmL, nrmZ, qe, ↓reduceIte, qz, qn, qq, hne, List.map]; rfl) rfl ?hv fun _ _ => ar ?_; case hv => (simp only [hne]; rfl)
 refine Fe.pure rfl rfl rfl ?_
 refine WpE.nil (hKF _ _ ?_)
 refine cf rfl ?_
 refine sk ?_
 refine rg fun KF hKF => ?_
 refine mI ?_
 refine b0 ?_
 refine mI ?_
 refine nl hKF ?_
 dsimp only
 refine ⟨i + 1, by omega, ⟨by simp only [↓nrmL, nrmZ, qe, ↓reduceIte, qz, qn, qq]; rw [hw1], trivial⟩, by omega, inferInstance⟩
end Go.Am

namespace Go.Am
open Go
structure W7 (B : Nat) (H H' : AHeap) : Prop where
  n : H.n ≤ H'.n
  low : ∀ r, r < B → r < H.n → H'.get r = H.get r
  other : ∀ r cs rw e, r < H.n → H.get r = .row cs rw e → e / 2 ≠ 3 → H'.get r = .row cs rw e
  nums : ∀ r cs e, r < H.n → H.get r = .row cs true e → e / 2 = 3 → ∃ cs', H'.get r = .row cs' true e ∧ cs'.length = cs.length
theorem W7.refl (B : Nat) (H : AHeap) : W7 B H H := ⟨Nat.le_refl _, fun _ _ _ => rfl, fun _ _ _ _ _ h _ => h, fun r cs e _ h _ => ⟨cs, h, rfl⟩⟩
theorem W7.ext {B : Nat} {H H' H2 : AHeap} (h : W7 B H H') (x : Ext H' H2) : W7 B H H2 := ⟨Nat.le_trans h.n x.n, fun r a b => by rw [x.get r (Nat.lt_of_lt_of_le b h.n), h.low r a b], fun r cs rw e a b c => by rw [x.get r (Nat.lt_of_lt_of_le a h.n), h.other r cs rw e a b c], fun r cs e a b c => by
  obtain ⟨cs', d1, d2⟩ := h.nums r cs e a b c
  exact ⟨cs', by rw [x.get r (Nat.lt_of_lt_of_le a h.n), d1], d2⟩⟩
theorem W7.own {B : Nat} {H H' : AHeap} {p : AVal} {sz n : Nat} {cs : List AVal} {e : TypeId} (h : W7 B H H') (ho : OwnS H p sz n cs e) (he : e ≠ 3) : OwnS H' p sz n cs e := by
  rcases ho.it with ⟨a1, a2, a3⟩ | ⟨r, e', a1, a2, a3, a4, a5, a6⟩
  · exact ⟨Or.inl ⟨a1, a2, a3⟩⟩
  · exact ⟨Or.inr ⟨r, e', a1, Nat.lt_of_lt_of_le a2 h.n, h.other r cs true e' a2 a3 (by rw [a4]; exact he), a4, a5, a6⟩⟩
theorem StvG.stv {B : Nat} {H : AHeap} {v : AVal} {sts : List (List (List Int))} (h : StvG B H v sts) : ∃ cells, StavesI H v sts.length cells sts := by
  obtain ⟨cells, h1, h2, h3⟩ := h
  exact ⟨cells, rfl, h1.sl, fun i hi => by obtain ⟨q, a1, a2⟩ := h2 i hi; exact ⟨q, a1, a2.lines⟩⟩
theorem StvG.ext {B : Nat} {H H' : AHeap} {v : AVal} {sts : List (List (List Int))} (h : StvG B H v sts) (x : Ext H H') : StvG B H' v sts := by
  obtain ⟨cells, h1, h2, h3⟩ := h
  haveI : ExtI H H' := ⟨x⟩
  exact ⟨cells, inferInstance, fun i hi => by obtain ⟨q, a1, a2⟩ := h2 i hi; exact ⟨q, a1, a2.ext x⟩, h3⟩
end Go.Am
