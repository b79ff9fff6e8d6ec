/-
  Costs and distances: for any line of signs and any two texts the law returns true, and its arguments read as before.
-/
import Derived.Test.YtfohnngeckaljaaGreatDoorAmBE
set_option linter.unusedSimpArgs false
set_option linter.unusedVariables false
set_option maxHeartbeats 8000000
set_option maxRecDepth 100000
set_option synthInstance.maxHeartbeats 4000000
set_option synthInstance.maxSize 1000000000
namespace Go.Am
open Go
open Nat renaming reduceEqDiff → qe, reduceAdd → qz
open Int renaming reduceBEq → qa, reduceBNe → qn
attribute [local irreducible] Wp WpO WpX WpE
theorem K_CopyOptions {H : AHeap} {p : AVal} {l : Opts} [hp : OptsI H p l] (hle : l.length ≤ 8796093022208) : Con ext prog 1 70 [p] H fun v H' => OwnS H' v 2 l.length (cellsO l) 156 ∧ FreshS H v ∧ Ext H H' := by
 refine con_of (show prog 70 = some c70 from rfl) rfl rfl fun n hn => ?_
 repeat first | refine mN ?_ | refine mv ?_ | refine nl hKF ?_ | refine sq ?_ | refine rg fun KF hKF => ?_
 refine WpO.do (WpX.appendAny (p := p) (k := l.length) (cs := cellsO l) rfl (by simp only [↓nrmL, nrmZ, qe, ↓reduceIte, qz, qa, qn, List.map] <;> rfl) hp (by decide) (by decide) (by omega) (cellsO_ones l) fun v H1 h1 h2 h3 => ?_)
 haveI := h1.sl.one
 refine mv ?_
 refine nl hKF ?_
 refine rt ?_
 dsimp only
 refine rz trivial ?_
 exact ⟨h1, h2, Ext0.ext⟩
theorem K_copied {H : AHeap} {p : AVal} {ls : List Opts} [hp : LineI H p ls] [hs : SlimA ls] : Con ext prog 2 25 [p] H fun v H' => LineF H.n H' v ls ∧ OneV v ∧ FreshS H v ∧ Ext H H' := by
 refine con_of (show prog 25 = some c25 from rfl) rfl rfl fun n hn => ?_
 obtain ⟨ps, hps, hrw⟩ := hp.it
 haveI := hps
 haveI := hps.one
 have hle := hs.len
 repeat first | refine mI ?_ | refine mN ?_ | refine mv ?_ | refine ln (by simp only [↓nrmL, nrmK, qe, ↓reduceIte]; rfl) ?_ | refine nl hKF ?_ | refine sq ?_ | refine rg fun KF hKF => ?_ | refine Wp.block ?_ | dsimp only
 refine Wp.loopS (σ := Nat × AVal) [3, 5, 8, 9, 10, 11, 12, 13, 14, 15, 16, 17] (fun s => [(8, .int .i64 (s.1 : Int)), (3, s.2)]) (fun H3 s H2 => s.1 ≤ ls.length ∧ ∃ cells, OwnS H2 s.2 1 s.1 cells 88 ∧ CopiedO 156 H3.n H2 cells ls s.1 ∧ FreshS H3 s.2 ∧ Ext0 H3 H2) (fun s => ls.length - s.1) (0, .nslice) rfl (fun _ => rfl) ⟨rfl, rfl, trivial⟩ ⟨Nat.zero_le _, [], ⟨Or.inl ⟨rfl, rfl, rfl⟩⟩, ⟨fun j h1 h2 => by cases h2⟩, ⟨fun _ _ _ _ _ e => by cases e⟩, inferInstance⟩ (by unfold fuel0 at hn; dsimp only; omega) ?_
 rintro ⟨i, op⟩ g H2 ⟨hi, cells, ho, hc, hf, ⟨hx⟩⟩
 dsimp only at hi ho hc hf
 haveI : ExtI H H2 := ⟨hx⟩
 haveI := ho.sl.one
 simp only [↓nrmL, nrmZ, qe, ↓reduceIte, qz, qa, qn]
 cases hcc : decide ((i : Int) < ((ls.length : Nat) : Int))
 ·have hil : i = ls.length := by have := of_decide_eq_false hcc; omega
  subst hil
  repeat first | refine mv ?_ | refine bn rfl rfl rfl (by simp only [hcc]; rfl) ?_ | refine nl hKF ?_ | refine sq ?_ | refine rg fun KF hKF => ?_ | refine cf rfl ?_ | refine rt ?_ | refine xi ?_ | dsimp only
  refine rz trivial ?_
  exact ⟨LineF.mk hc ho fun r _ _ _ _ e => hf.ge _ _ _ _ _ e, ho.sl.one, hf, hx⟩
 have hil : i < ls.length := by have := of_decide_eq_true hcc; omega
 have hwi := wa1 (a := i) (by omega)
 obtain ⟨q, hq, hI⟩ := hrw i hil
 haveI := hI
 haveI := hI.one
 repeat first | refine mv ?_ | refine bn rfl rfl rfl (by simp only [hcc]; rfl) ?_ | (refine Fo.idx (by simp only [↓nrmL, nrmK, qe, ↓reduceIte]; rfl) rfl ?_ (by simp only [↓nrmL, nrmZ, qe, ↓reduceIte, qz, qa, qn, hcc]; rfl) ?_; (focus omega)) | refine Fo.ldP rfl (by assumption) ?_ | refine nl hKF ?_ | refine sq ?_ | refine rg fun KF hKF => ?_ | refine ct rfl ?_ | refine sk ?_ | refine Wp.block ?_
 refine WpO.do (WpX.conD hn rfl rfl (by simp only [↓nrmL, nrmZ, qe, ↓reduceIte, qz, qa, qn, List.map] <;> rfl) (K_CopyOptions (p := q) (l := ls[i]) (hs.it i hil)) fun v H3 h5 => ?_)
 obtain ⟨h1, h2, h3⟩ := h5
 haveI : ExtI H2 H3 := ⟨h3⟩
 haveI := h1.sl.one
 have ho3 : OwnS H3 op 1 i cells 88 := inferInstance
 have hc3 : CopiedO 156 H.n H3 cells ls i := hc.keep h3.n fun s cs e hs _ _ _ => h3.get s hs
 skip
 refine Fo.bslice (cs' := [v]) (aFill1 (v := v) rfl rfl rfl) rfl ?_
 skip
 refine WpO.do (WpX.growX (p := op) (q := .slice H3.n 0 1 (some 1) 1) (k := 1) (new := [v]) rfl rfl (by infer_instance) (row_one1 (inferInstance : HasRow _ H3.n [v] true (2 * 88))) (by decide) (by decide) (by decide) (by omega) (by simp only [List.all_cons, (inferInstance : OneV v).one, List.all_nil, Bool.and_self]) fun op' H9 ho2 hf2 hx2 => ?_)
 haveI := ho2.sl.one
 haveI := hx2
 refine mv ?_
 refine nl hKF ?_
 refine rg fun KF hKF => ?_
 refine b0 ?_
 refine mI ?_
 refine nl hKF ?_
 dsimp only
 have hn9 := hx2.n
 simp only [AHeap.push] at hn9
 have hkeep : ∀ s cs e, s < H3.n → H.n ≤ s → H3.get s = .row cs true e → e / 2 = 156 → H9.get s = H3.get s := fun s cs e hs _ hg he => by
  have hne := ho3.tn hg (fun h7 => by rw [he] at h7; exact absurd h7 (by decide))
  rw [hx2.get s (by simp only [AHeap.push]; omega) hne, push_get_lt hs]
 have hcl : cells.length = i := by have := ho.sl.len; omega
 refine ⟨(i + 1, op'), by dsimp only; omega, ⟨by simp only [↓nrmL, nrmZ, qe, ↓reduceIte, qz, qa, qn]; rw [hwi], rfl, trivial⟩, by dsimp only; omega, cells ++ [v], ho2, ?_, ⟨fun r _ _ _ _ e => by have := hf2.ge _ _ _ _ _ e; simp only [AHeap.push] at this; have := h3.n; have := hx.n; omega⟩, ⟨by have := h3.n; have := hx.n; omega, fun r hr => ?_⟩⟩
 ·have hc9 := hc3.keep (by omega) hkeep
  have h9 : CopiedO 156 H.n H9 [v] [ls[i]] 1 := by
   refine CopiedO.keep (H := H3) ⟨fun j a b => ?_⟩ (by omega) hkeep
   obtain rfl : j = 0 := by omega
   exact ⟨v, rfl, h1, fun r _ _ _ _ e => by have := h2.ge _ _ _ _ _ e; have := hx.n; omega⟩
  refine ⟨fun j a b => ?_⟩
  by_cases hj : j < i
  ·obtain ⟨q', b1, b2, b3⟩ := hc9.it j a hj
   exact ⟨q', by rw [List.getElem?_append_left (by omega)]; exact b1, b2, b3⟩
  ·obtain rfl : j = i := by dsimp only at b; omega
   obtain ⟨q', b1, b2, b3⟩ := h9.it 0 (by simp) (by decide)
   exact ⟨q', by rw [List.getElem?_append_right (by omega), hcl, Nat.sub_self]; exact b1, b2, b3⟩
 ·have hlt : r < H3.n := by have := h3.n; have := hx.n; omega
  rw [hx2.get r (by simp only [AHeap.push]; omega) ⟨fun r' _ _ _ _ e => by have := hf.ge _ _ _ _ _ e; omega⟩, push_get_lt hlt, h3.get r (by have := hx.n; omega), hx.get r hr]
theorem aEq_opt (a b : Int) : aEqs [some (0, 0, .int), some (1, 0, .int)] [.int .i64 a, .int .i64 b] [.int .i64 a, .int .i64 b] = some true := by
 simp [aEqs, aPart, aEq]
theorem K_SameOptions {p q : AVal} {H : AHeap} {l : Opts} [hp : OptsI H p l] [hq : OptsI H q l] (hle : l.length ≤ 8796093022208) : Con ext prog 1 77 [p, q] H fun v H' => v = .bool true ∧ Ext H H' := by
 refine con_of (show prog 77 = some c77 from rfl) rfl rfl fun n hn => ?_
 haveI := hp.one
 haveI := hq.one
 have e0 : ((l.length : Int) != (l.length : Int)) = false := by simp
 repeat first | refine mI ?_ | refine mB ?_ | refine mv ?_ | refine bn rfl rfl rfl (by simp only [e0]; rfl) ?_ | refine ln (by simp only [↓nrmL, nrmK, qe, ↓reduceIte]; rfl) ?_ | refine nl hKF ?_ | refine sq ?_ | refine rg fun KF hKF => ?_ | refine cf rfl ?_ | refine sk ?_ | refine Wp.block ?_ | dsimp only
 refine Wp.loopS [4, 5, 11, 12, 13, 14, 15, 16, 17, 18, 19, 20, 21, 22, 23, 24, 25] (fun k : Nat => [(5, .int .i64 (k : Int))]) (fun _ k H2 => k ≤ l.length ∧ Ext H H2) (fun k => l.length - k) 0 rfl (fun _ => rfl) ⟨rfl, trivial⟩ ⟨Nat.zero_le _, Ext0.ext⟩ (by unfold fuel0 at hn; omega) ?_
 rintro k g H2 ⟨hk, hx⟩
 haveI : ExtI H H2 := ⟨hx⟩
 simp only [↓nrmL, nrmZ, qe, ↓reduceIte, qz, qa, qn]
 cases hc : decide ((k : Int) < (l.length : Int))
 ·skip
  repeat first | refine mI ?_ | refine mB ?_ | refine mv ?_ | refine bn rfl rfl rfl (by simp only [hc]; rfl) ?_ | refine ln (by simp only [↓nrmL, nrmK, qe, ↓reduceIte]; rfl) ?_ | refine nl hKF ?_ | refine sq ?_ | refine rg fun KF hKF => ?_ | refine cf rfl ?_ | refine rt ?_ | refine xi ?_ | dsimp only
  refine rz trivial ?_
  exact ⟨rfl, Ext0.ext⟩
 have hkl : k < l.length := by have := of_decide_eq_true hc; omega
 have hwk := wa1 (a := k) (by omega)
 repeat first | refine mI ?_ | refine mv ?_ | refine bn rfl rfl rfl (by simp only [hc]; rfl) ?_ | refine ln (by simp only [↓nrmL, nrmK, qe, ↓reduceIte]; rfl) ?_ | (refine Fo.idx (by simp only [↓nrmL, nrmK, qe, ↓reduceIte]; rfl) rfl ?_ (by simp only [↓nrmL, nrmZ, qe, ↓reduceIte, qz, qa, qn, hc]; rfl) ?_; (focus omega)) | (refine Fo.ldO rfl ?_ ?_; (focus omega)) | refine nl hKF ?_ | refine sq ?_ | refine rg fun KF hKF => ?_ | refine Fr.quiet rfl rfl fun KF hKF => ?_ | refine ct rfl ?_ | refine sk ?_ | refine Wp.block ?_
 refine Fo.now rfl (exec_eqT rfl rfl (aEq_opt _ _)) rfl ?_
 repeat first | refine mI ?_ | refine b0 ?_ | refine nl hKF ?_ | refine rg fun KF hKF => ?_ | refine cf rfl ?_ | refine sk ?_ | dsimp only
 refine ⟨k + 1, by omega, ⟨by simp only [↓nrmL, nrmZ, qe, ↓reduceIte, qz, qa, qn]; rw [hwk], trivial⟩, hkl, Ext0.ext⟩
theorem K_equalLine {p q : AVal} {H : AHeap} {ls : List Opts} [hp : LineI H p ls] [hq : LineI H q ls] [hs : SlimA ls] : Con ext prog 2 76 [p, q, .func (.func 77) [] []] H fun v H' => v = .bool true ∧ Ext H H' := by
 refine con_of (show prog 76 = some c76 from rfl) rfl rfl fun n hn => ?_
 obtain ⟨ps, hps, hrw⟩ := hp.it
 obtain ⟨qs, hqs, hrw2⟩ := hq.it
 haveI := hps.one
 haveI := hqs.one
 have hle := hs.len
 have e0 : ((ls.length : Int) != (ls.length : Int)) = false := by simp
 repeat first | refine mI ?_ | refine mB ?_ | refine mv ?_ | refine bn rfl rfl rfl (by simp only [e0]; rfl) ?_ | refine ln (by simp only [↓nrmL, nrmK, qe, ↓reduceIte]; rfl) ?_ | refine nl hKF ?_ | refine sq ?_ | refine rg fun KF hKF => ?_ | refine cf rfl ?_ | refine sk ?_ | refine Wp.block ?_ | dsimp only
 refine Wp.loopS [6, 7, 8, 9, 17, 18, 19, 20, 21, 22, 23, 24, 25, 26, 27, 28, 29, 30, 31] (fun k : Nat => [(17, .int .i64 (k : Int))]) (fun _ k H2 => k ≤ ls.length ∧ Ext H H2) (fun k => ls.length - k) 0 rfl (fun _ => rfl) ⟨rfl, trivial⟩ ⟨Nat.zero_le _, Ext0.ext⟩ (by unfold fuel0 at hn; omega) ?_
 rintro k g H2 ⟨hk, hx⟩
 haveI : ExtI H H2 := ⟨hx⟩
 simp only [↓nrmL, nrmZ, qe, ↓reduceIte, qz, qa, qn]
 cases hc : decide ((k : Int) < (ls.length : Int))
 ·skip
  repeat first | refine mB ?_ | refine bn rfl rfl rfl (by simp only [hc]; rfl) ?_ | refine nl hKF ?_ | refine sq ?_ | refine rg fun KF hKF => ?_ | refine cf rfl ?_ | refine rt ?_ | refine xi ?_ | dsimp only
  refine rz trivial ?_
  exact ⟨rfl, Ext0.ext⟩
 have hkl : k < ls.length := by have := of_decide_eq_true hc; omega
 have hwk := wa1 (a := k) (by omega)
 obtain ⟨q1, hq1, hI1⟩ := hrw k hkl
 obtain ⟨q2, hq2, hI2⟩ := hrw2 k hkl
 haveI := hI1
 haveI := hI2
 haveI := hI1.one
 haveI := hI2.one
 repeat first | refine mI ?_ | refine mF ?_ | refine mv ?_ | refine bn rfl rfl rfl (by simp only [hc]; rfl) ?_ | (refine Fo.idx (by simp only [↓nrmL, nrmK, qe, ↓reduceIte]; rfl) rfl ?_ (by simp only [↓nrmL, nrmZ, qe, ↓reduceIte, qz, qa, qn, hc]; rfl) ?_; (focus omega)) | refine Fo.ldP rfl (by assumption) ?_ | refine nl hKF ?_ | refine sq ?_ | refine rg fun KF hKF => ?_ | refine ct rfl ?_ | refine sk ?_ | refine Wp.block ?_
 refine WpO.do (WpX.conD hn rfl rfl (by simp only [↓nrmL, nrmZ, qe, ↓reduceIte, qz, qa, qn, List.map] <;> rfl) (K_SameOptions (p := q1) (q := q2) (l := ls[k]) (hs.it k hkl)) fun v H3 h5 => ?_)
 obtain ⟨rfl, h3⟩ := h5
 haveI : ExtI H2 H3 := ⟨h3⟩
 refine Fo.now rfl rfl (by simp only [↓nrmL, nrmZ, qe, ↓reduceIte, qz, qa, qn]; rfl) ?_
 refine nl hKF ?_
 refine cf rfl ?_
 refine sk ?_
 refine rg fun KF hKF => ?_
 refine b0 ?_
 refine mI ?_
 refine nl hKF ?_
 dsimp only
 refine ⟨k + 1, by omega, ⟨by simp only [↓nrmL, nrmZ, qe, ↓reduceIte, qz, qa, qn]; rw [hwk], trivial⟩, hkl, Ext0.ext⟩
theorem K_sameLine {p q : AVal} {H : AHeap} {ls : List Opts} [hp : LineI H p ls] [hq : LineI H q ls] [hs : SlimA ls] : Con ext prog 3 30 [p, q] H fun v H' => v = .bool true ∧ Ext H H' := by
 refine con_of (show prog 30 = some c30 from rfl) rfl rfl fun n hn => ?_
 haveI := hp.one
 haveI := hq.one
 repeat first | refine mB ?_ | refine mv ?_ | refine nl hKF ?_ | refine sq ?_ | refine rg fun KF hKF => ?_
 refine WpO.do (WpX.conD hn rfl rfl (by simp only [↓nrmL, nrmZ, qe, ↓reduceIte, qz, qa, qn, List.map] <;> rfl) (K_equalLine (p := p) (q := q) (ls := ls)) fun v H3 h5 => ?_)
 obtain ⟨rfl, h3⟩ := h5
 haveI : ExtI _ H3 := ⟨h3⟩
 refine mB ?_
 refine nl hKF ?_
 refine rt ?_
 dsimp only
 refine rz trivial ?_
 exact ⟨rfl, Ext0.ext⟩
theorem slim_of {ls : List Opts} (h : longS ls = false) : SlimO ls := by
 rw [longS, Bool.or_eq_false_iff] at h
 have h1 := of_decide_eq_false h.1
 have h2 := List.any_eq_false.1 h.2
 refine ⟨by omega, fun i hi => ?_⟩
 have := h2 _ (List.getElem_mem hi)
 simp only [decide_eq_true_eq] at this
 omega
theorem K_LexiconCosts {p : AVal} {ls : List Opts} {a b : Bs} {H : AHeap} [hp : LineI H p ls] [hs : SlimA ls] : Con ext prog 20 4 [p, strV a, strV b] H fun v H' => v = .bool true ∧ Ext H H' := by
 refine con_of (show prog 4 = some c4 from rfl) rfl rfl fun n hn => ?_
 haveI := hp.one
 cases h0 : longS ls
 rotate_left
 ·skip
  repeat first | refine mv ?_ | refine ox ?_ | refine tB ?_ | (refine Fo.pcall (v' := ?_) hn rfl (by simp only [h0, List.map]; rfl) rfl ?hv fun _ _ => ?_; case hv => rfl) | (refine Fo.pcall (v' := ?_) hn rfl (by simp only [↓nrmL, nrmZ, qe, ↓reduceIte, qz, qa, qn, h0, List.map]; rfl) rfl ?hv fun _ _ => ?_; case hv => (simp only [h0]; rfl)) | refine nl hKF ?_ | refine sq ?_ | refine rg fun KF hKF => ?_ | refine ct rfl ?_ | refine rt ?_ | dsimp only
  refine rz trivial ?_
  exact ⟨rfl, Ext0.ext⟩
 cases ha : decide ((a.length : Int) > 60)
 rotate_left
 ·skip
  repeat first | refine Fo.lenStr (rfl : _ = strV _) rfl ?_ | refine Fo.mov (rfl : _ = strV _) ?_ | refine mv ?_ | refine oy ?_ | refine ox ?_ | refine bn rfl rfl rfl (by simp only [h0, ha]; rfl) ?_ | refine tB ?_ | refine fB ?_ | (refine Fo.pcall (v' := ?_) hn rfl (by simp only [h0, ha, List.map]; rfl) rfl ?hv fun _ _ => ?_; case hv => rfl) | (refine Fo.pcall (v' := ?_) hn rfl (by simp only [↓nrmL, nrmZ, qe, ↓reduceIte, qz, qa, qn, h0, ha, List.map]; rfl) rfl ?hv fun _ _ => ?_; case hv => (simp only [h0, ha]; rfl)) | refine nl hKF ?_ | refine sq ?_ | refine rg fun KF hKF => ?_ | refine ct rfl ?_ | refine rt ?_ | dsimp only
  refine rz trivial ?_
  exact ⟨rfl, Ext0.ext⟩
 cases hb : decide ((b.length : Int) > 60)
 rotate_left
 ·skip
  repeat first | refine Fo.lenStr (rfl : _ = strV _) rfl ?_ | refine Fo.mov (rfl : _ = strV _) ?_ | refine mv ?_ | refine oy ?_ | refine bn rfl rfl rfl (by simp only [h0, ha, hb]; rfl) ?_ | refine fB ?_ | (refine Fo.pcall (v' := ?_) hn rfl (by simp only [h0, ha, hb, List.map]; rfl) rfl ?hv fun _ _ => ?_; case hv => rfl) | (refine Fo.pcall (v' := ?_) hn rfl (by simp only [↓nrmL, nrmZ, qe, ↓reduceIte, qz, qa, qn, h0, ha, hb, List.map]; rfl) rfl ?hv fun _ _ => ?_; case hv => (simp only [h0, ha, hb]; rfl)) | refine nl hKF ?_ | refine sq ?_ | refine rg fun KF hKF => ?_ | refine ct rfl ?_ | refine rt ?_ | dsimp only
  refine rz trivial ?_
  exact ⟨rfl, Ext0.ext⟩
 haveI := slim_of h0
 haveI i1 : LeT a.length 1000000 := ⟨by have := of_decide_eq_false ha; omega⟩
 haveI i2 : LeT b.length 1000000 := ⟨by have := of_decide_eq_false hb; omega⟩
 repeat first | refine Fo.lenStr (rfl : _ = strV _) rfl ?_ | refine Fo.mov (rfl : _ = strV _) ?_ | refine mv ?_ | refine oy ?_ | refine bn rfl rfl rfl (by simp only [h0, ha, hb]; rfl) ?_ | refine fB ?_ | (refine Fo.pcall (v' := ?_) hn rfl (by simp only [↓nrmL, nrmZ, qe, ↓reduceIte, qz, qa, qn, h0, ha, hb, List.map]; rfl) rfl ?hv fun _ _ => ?_; case hv => (simp only [h0, ha, hb]; rfl)) | refine nl hKF ?_ | refine sq ?_ | refine rg fun KF hKF => ?_ | refine cf rfl ?_ | refine sk ?_
 refine WpO.do (WpX.conD hn rfl rfl (by simp only [↓nrmL, nrmZ, qe, ↓reduceIte, qz, qa, qn, List.map] <;> rfl) (K_copied (p := p) (ls := ls)) fun q H3 h5 => ?_)
 obtain ⟨h1, h2, h3, h4⟩ := h5
 haveI : ExtI _ H3 := ⟨h4⟩
 haveI := h1.now
 obtain ⟨r, hr⟩ : ∃ r, costS ls a = r := ⟨_, rfl⟩
 have e1 : outC (costS ls a) = .tuple [.int .i64 r.1, .int .i64 r.2] := by rw [hr]; rfl
 have e2 : (r.1 == r.1) = true := beq_self_eq_true _
 have e3 : (r.2 == r.2) = true := beq_self_eq_true _
 have e4 : ((lev a b : Int) == (lev a b : Int)) = true := beq_self_eq_true _
 repeat first | refine Fo.mov (rfl : _ = strV _) ?_ | refine mv ?_ | refine oy ?_ | refine bn rfl rfl rfl (by simp only [e1, e2, e3, e4]; rfl) ?_ | refine tB ?_ | refine xt ?_ | (refine Fo.pcall (v' := ?_) hn rfl (by simp only [↓nrmL, nrmZ, qe, ↓reduceIte, qz, qa, qn, e1, e2, e3, e4, List.map]; rfl) rfl ?hv fun _ _ => ?_; case hv => (simp only [e1, e2, e3, e4]; rfl)) | (refine Fo.pcall (v' := ?_) hn rfl (by simp only [↓nrmL, nrmZ, qe, ↓reduceIte, qz, qa, qn, e1, e2, e3, e4, List.map]; rfl) rfl ?hv fun _ _ => ?_; case hv => rfl) | refine nl hKF ?_ | refine sq ?_ | refine rg fun KF hKF => ?_
 refine WpO.do (WpX.conD hn rfl rfl (by simp only [↓nrmL, nrmZ, qe, ↓reduceIte, qz, qa, qn, List.map] <;> rfl) (K_sameLine (p := q) (q := p) (ls := ls)) fun v H5 h6 => ?_)
 obtain ⟨rfl, h7⟩ := h6
 haveI : ExtI _ H5 := ⟨h7⟩
 refine tB ?_
 refine mv ?_
 refine oy ?_
 refine Fo.pcall (v' := ?_) hn rfl (by simp only [↓nrmL, nrmZ, qe, ↓reduceIte, qz, qa, qn, List.map]; rfl) rfl ?hv fun _ _ => ?_; case hv => rfl
 refine tB ?_
 refine mv ?_
 refine nl hKF ?_
 refine rt ?_
 dsimp only
 refine rz trivial ?_
 exact ⟨rfl, Ext0.ext⟩
end Go.Am

namespace Go.Proofs.YtfohnngeckaljaaGreatDoor.LexiconCosts
open Go.ChangeShapes Go.WideShapes Go.ChangeAt Go.RowKit Go.Am Go.Proofs.YtfohnngeckaljaaGreatDoor.Laid

theorem con (H : AHeap) (avs : List AVal) (ht : tablesIn aroundT H = true) (h : ArgSW Tryz.prog H 5 [39, 9, 9] avs) : Con ext prog 20 4 avs H fun v H' => v = .bool true ∧ Ext H H' := by
  obtain ⟨a0, r0, rfl, h0, a1, r1, rfl, h1, a2, r2, rfl, h2, rfl⟩ := h
  obtain ⟨q0, l0, rfl, k0, m0⟩ := shapeW_line Tryz.underlying39 Tryz.underlying88 Tryz.underlying156 (by kernel_rfl) Tryz.underlying3 (by kernel_rfl) (by kernel_rfl) (by kernel_rfl) (by kernel_rfl) h0
  haveI := k0
  haveI := k0.one
  haveI := m0
  obtain ⟨z1, rfl, lz1⟩ := shapeW_str Tryz.underlying9 h1
  obtain ⟨s1, hs1, hn1⟩ : ∃ l : Bs, AVal.str z1 = strV l ∧ l.length = z1.size := ⟨z1.data.toList, rfl, Array.length_toList⟩
  obtain ⟨z2, rfl, lz2⟩ := shapeW_str Tryz.underlying9 h2
  obtain ⟨s2, hs2, hn2⟩ : ∃ l : Bs, AVal.str z2 = strV l ∧ l.length = z2.size := ⟨z2.data.toList, rfl, Array.length_toList⟩
  have e0 : argV Tryz.prog 39 [q0] = q0 := by simp only [argV, show aggTy Tryz.prog 39 = false by kernel_rfl, cond_false, List.headD_cons]
  have e1 : argV Tryz.prog 9 [.str z1] = strV s1 := by simp only [argV, show aggTy Tryz.prog 9 = false by kernel_rfl, cond_false, List.headD_cons, hs1]
  have e2 : argV Tryz.prog 9 [.str z2] = strV s2 := by simp only [argV, show aggTy Tryz.prog 9 = false by kernel_rfl, cond_false, List.headD_cons, hs2]
  rw [e0, e1, e2]
  exact K_LexiconCosts

theorem contract (H : Type) (enc : TypeId × Value → H) (W : World) (base : Nat) (args : Array Value) (ds gs : List (DataW H)) (before : List MemPlace)
    (hval : ∀ (j : Nat) t v, Tryz.f4.params[j]? = some t → args[j]? = some v → Value.okWide Tryz.prog W .any base t v)
    (hW : DataW.Whole enc Tryz.prog Tryz.f4.params.toList Rows.lexiconCostsSpec.vars false W args.toList ds gs before) (hz : (DataW.weightsEach Tryz.prog (Tryz.f4.params.toList ++ (OpenSpec.ofChange Rows.lexiconCostsSpec).bare.plain.varTypes Tryz.prog) (ds ++ gs)).all (· ≤ reachBytes) = true) (hL : laidMetH Tryz.prog Rows.lexiconCostsRow.laid W) :
    Calls Tryz.prog 4 args W fun e W' => ∃ v, e = .returned v ∧ Rows.lexiconCostsSpec.post enc Tryz.prog Tryz.f4 false true false false W args v W' := by
  have hW' := hW
  obtain ⟨p, q, hA, _⟩ := hW'
  rw [Tryz.params4] at hA
  obtain ⟨v0, vs0, d0, ds0, p0, q0, _, rfl, _, _, r0⟩ := trodAll_cons hA
  obtain ⟨v1, vs1, d1, ds1, p1, q1, _, rfl, _, _, r1⟩ := trodAll_cons r0
  obtain ⟨v2, vs2, d2, ds2, p2, q2, _, rfl, _, _, r2⟩ := trodAll_cons r1
  obtain ⟨_, rfl, _⟩ := trodAll_nil r2
  exact law_callsW (tb := 4) (n := 5) (d := 20) (tabs := aroundT) mixed progOk Tryz.func4 rfl (by decide +kernel) laidOut rowed full (by kernel_rfl) rfl (by kernel_rfl) Tryz.underlying4 (by kernel_rfl) (by kernel_rfl)
    (fun H avs ht h => con H avs ht (by rw [Tryz.params4] at h; exact h)) H enc W base args _ gs before rfl hval hW (slim_app hz) around_cells

theorem laid_met (os : Os) : laidMet Tryz.prog Rows.lexiconCostsRow.laid ((laidWorld os).forCall (fun _ _ => 0) ⟨#[], #[.slice none 0 0, .string .empty, .string .empty], []⟩).memory :=
  laidMet_of_run' 8 (by kernel_rfl) (by kernel_rfl)
theorem reads (os : Os) {H : Type} (enc : TypeId × Value → H) : ∃ places, DataW.whole enc Tryz.prog ((laidWorld os).forCall (fun _ _ => 0) ⟨#[], #[.slice none 0 0, .string .empty, .string .empty], []⟩).memory Tryz.f4.params.toList Rows.lexiconCostsSpec.vars false #[Value.slice none 0 0, .string .empty, .string .empty].toList 8 = some ([.nil, .lit (.string []), .lit (.string [])], [], places) :=
  ⟨[], by kernel_rfl⟩

theorem lifted (os : Os) (started : os.Started) (H : Type) (enc : TypeId × Value → H) (F : Stop.Interp) :
    ReturnsInHanded {} Tryz.checked os 4 .any ((OpenSpec.ofChange Rows.lexiconCostsSpec).preRow enc Tryz.prog Tryz.f4 Rows.lexiconCostsRow.domain false Rows.lexiconCostsRow.laid) (((OpenSpec.ofChange Rows.lexiconCostsSpec).at F).post enc Tryz.prog Tryz.f4 false true false false) := by
  obtain ⟨places, hx⟩ := reads os enc
  refine returnsInHanded_of_row (C := Tryz.checked) (s := OpenSpec.ofChange Rows.lexiconCostsSpec) own started (by kernel_rfl) Tryz.func4
    (witness_row_at (enc := enc) (C := Tryz.checked) false (laidWorld os) #[.slice none 0 0, .string .empty, .string .empty] rfl (by kernel_rfl) (by kernel_rfl) (by kernel_rfl)
      (OpenSpec.preRow_of_cond 8 hx (by kernel_rfl) (fun k hk => by cases hk) (by kernel_rfl) (laid_met os))) ?_
  intro W base args ds gs before hval hW _ _ hz hL _ _
  exact contract H enc W base args ds gs before hval hW hz hL

theorem said : Rows.LexiconCostsSaid :=
  OpenClaim.holds_of_cond 4 Tryz.f4 rfl rfl rfl rfl rfl rfl rfl ⟨rfl, rfl, rfl, rfl, rfl⟩ rfl rfl rfl rfl rfl (by kernel_rfl) Tryz.func4 (by kernel_rfl)
    (of_decide_eq_true (by kernel_rfl)) (by unfold Func.isWrapper; first | (rw [if_pos (by decide +kernel)]; kernel_rfl) | (rw [if_neg (by decide +kernel)]; exact ⟨rfl, rfl⟩))
    (fun os started H enc _ F => by rw [OpenClaim.pre_eq_preRow]; exact lifted os started H enc F)

theorem plain (f : FuncId) (fn : Func) (hf : Tryz.pinned.checked.prog.funcNamed "custos/custoslaw11.LexiconCosts" = some f) (hfn : Tryz.pinned.checked.prog.funcs[f]? = some fn) :
    false = Tryz.pinned.checked.prog.looks [] ∧ ∀ (j : Nat) t, fn.params[j]? = some t → Tryz.pinned.checked.prog.wantsStandIn t = false := by
  obtain rfl : f = 4 := Option.some.inj ((show Tryz.prog.funcNamed "custos/custoslaw11.LexiconCosts" = some 4 by kernel_rfl).symm.trans hf) |>.symm
  obtain rfl : fn = Tryz.f4 := (Option.some.inj (Tryz.func4.symm.trans hfn)).symm
  refine ⟨by kernel_rfl, fun j t ht => ?_⟩
  have h := List.all_eq_true.1 (show (Tryz.f4.params.toList.all fun t => !(Tryz.prog.wantsStandIn t)) = true by kernel_rfl) t (by simpa using Array.mem_of_getElem? ht)
  have h2 : Tryz.prog.wantsStandIn t = false := by simpa using h
  exact h2

/-- The card. -/
theorem card : Rows.LexiconCostsCardSaid :=
  Claim7.holds_tied_plain_at .later [] _ _ _ _ said (fun _ h => by cases h) (by kernel_rfl) (fun _ h => by cases h) lexiconCosts_row_tie rfl ⟨rfl, rfl⟩ (by kernel_rfl) rfl plain (by kernel_rfl)
end Go.Proofs.YtfohnngeckaljaaGreatDoor.LexiconCosts
