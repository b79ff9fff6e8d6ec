/-
  StaveStrips returns true for any images, stave and numbers, and leaves them as they were. No condition.
-/
import Derived.Test.YtpochhefklmnfaaAmBE
set_option linter.unusedSimpArgs false
set_option linter.unusedVariables false
set_option maxHeartbeats 16000000
set_option maxRecDepth 100000
set_option synthInstance.maxHeartbeats 4000000
set_option synthInstance.maxSize 1000000000
namespace Go.Am
open Go
attribute [local irreducible] Wp WpO WpX WpE
theorem exec_appendAny {H : AHeap} {p : AVal} {k bytes : Nat} {cs : List AVal} (h : SliceAt H p 1 k cs) (hb : 0 < bytes) (hroom : 2 * k * bytes ≤ 2 ^ 48) (hone : cs.all AVal.one = true) (e : TypeId) :
  ∃ v H', aAppend e 1 bytes .nslice p H = some (v, H') ∧ OwnS H' v 1 k cs e ∧ FreshS H v ∧ Ext H H' := by
 by_cases hk : k = 0
 ·subst hk
  have hcs : cs = [] := by have := h.len; simpa using this
  subst hcs
  refine ⟨.nslice, H, ?_, ⟨Or.inl ⟨rfl, rfl, rfl⟩⟩, ⟨fun _ _ _ _ _ e => by cases e⟩, Ext.refl H⟩
  obtain ⟨h1, h2⟩ := aFirst_at h
  simp only [aAppend, h1, M.bind, h2]
  simp [show ¬ bytes = 0 by omega]
  rfl
 ·obtain ⟨v, H', h1, h2, h3, h4⟩ := exec_grow (H := H) (p := .nslice) (q := p) (sz := 1) (n := 0) (k := k) (bytes := bytes) (cs := []) (new := cs) (e := e) ⟨Or.inl ⟨rfl, rfl, rfl⟩⟩ (aFirst_at h) (h.len) (by decide) hb (by omega) (by rw [Nat.zero_add]; exact hroom) hone
  rw [Nat.zero_add, List.nil_append] at h2
  exact ⟨v, H', h1, h2, h3, ⟨h4.n, fun r hr => h4.get r hr ⟨fun _ _ _ _ _ e => by cases e⟩⟩⟩
theorem WpX.appendAny {call : ACall} {fr : AFrame} {H : AHeap} {K : AVal → AHeap → Prop} {e : TypeId} {x y : ROpd} {p : AVal} {k bytes : Nat} {cs : List AVal} (hx : x.ev fr = .nslice) (hy : y.ev fr = p) (h : SliceAt H p 1 k cs) (hb : 0 < bytes) (hroom : 2 * k * bytes ≤ 2 ^ 48) (hone : cs.all AVal.one = true)
  (hk : ∀ v H', OwnS H' v 1 k cs e → FreshS H v → ExtI H H' → K v H') : WpX (.append e 1 bytes x y) call fr H K := by
 obtain ⟨v, H', h1, h2, h3, h5⟩ := exec_appendAny h hb hroom hone e
 exact WpX.now (v := v) (H1 := H') (by simp only [ROp.exec, hx, hy]; exact h1) (hk v H' h2 h3 ⟨h5⟩)
theorem cellsI_ones (l : List Int) : (cellsI l).all AVal.one = true := by simp [cellsI, AVal.one]
class SlimI (l : List Int) : Prop where
 le : l.length ≤ 17592186044416
class SlimL (ls : List (List Int)) : Prop where
 le : ls.length ≤ 5864062014805
 it : ∀ (i : Nat) (h : i < ls.length), SlimI ls[i]
theorem row_one1 {H : AHeap} {r : Nat} {a : AVal} {rw : Bool} {ty : TypeId} (h : HasRow H r [a] rw ty) : SliceAt H (.slice r 0 1 (some 1) 1) 1 1 [a] := ⟨Or.inr ⟨r, 0, some 1, _, rw, ty, rfl, h.lt, h.get, by simp, rfl, Nat.le_refl _⟩⟩
theorem K_CopyInts {H : AHeap} {p : AVal} {l : List Int} [hp : IntsI H p l] [hs : SlimI l] : Con ext prog 1 71 [p] H fun v H' => OwnS H' v 1 l.length (cellsI l) 3 ∧ FreshS H v ∧ Ext H H' := by
 refine con_of (show prog 71 = some c71 from rfl) rfl rfl fun n hn => ?_
 have hle := hs.le
 repeat first
  | refine mN ?_
  | (refine mv ?_)
  | refine nl hKF ?_
  | refine sq ?_
  | refine rg fun KF hKF => ?_
 refine WpO.do (WpX.appendAny (p := p) (k := l.length) (cs := cellsI l) rfl (by simp only [↓nrmL, nrmZ, Nat.reduceEqDiff, ↓reduceIte, Nat.reduceAdd, Int.reduceBEq, Int.reduceBNe, List.map] <;> rfl) hp (by decide) (by omega) (cellsI_ones l) fun v H1 h1 h2 h3 => ?_)
 haveI := h1.sl.one
 refine mv ?_
 refine nl hKF ?_
 refine rt ?_
 dsimp only [cond_true, cond_false]
 refine rz trivial ?_
 exact ⟨h1, h2, Ext0.ext⟩
structure Copied (B : Nat) (H : AHeap) (cells : List AVal) (ls : List (List Int)) (i : Nat) : Prop where
 it : ∀ j (h : j < ls.length), j < i → ∃ q, cells[j]? = some q ∧ OwnS H q 1 ls[j].length (cellsI ls[j]) 3 ∧ ∀ r off len cap sz, q = .slice r off len cap sz → B ≤ r
theorem Copied.keep {B : Nat} {H H' : AHeap} {cells : List AVal} {ls : List (List Int)} {i : Nat} (h : Copied B H cells ls i) (hn : H.n ≤ H'.n) (hg : ∀ s cs e, s < H.n → B ≤ s → H.get s = .row cs true e → e / 2 = 3 → H'.get s = H.get s) : Copied B H' cells ls i := ⟨fun j h1 h2 => by
 obtain ⟨q, h3, h4, h5⟩ := h.it j h1 h2
 refine ⟨q, h3, ?_, h5⟩
 rcases h4.it with ⟨a1, a2, a3⟩ | ⟨r, e', a1, a2, a3, a4, a5, a6⟩
 ·exact ⟨Or.inl ⟨a1, a2, a3⟩⟩
 ·exact ⟨Or.inr ⟨r, e', a1, by omega, by rw [hg r _ _ a2 (h5 _ _ _ _ _ a1) a3 a4]; exact a3, a4, a5, a6⟩⟩⟩
def LinesF (B : Nat) (H' : AHeap) (v : AVal) (ls : List (List Int)) : Prop := ∀ H'', H'.n ≤ H''.n → (∀ r, B ≤ r → r < H'.n → H''.get r = H'.get r) → LinesI H'' v ls
theorem LinesF.mk {B : Nat} {H' : AHeap} {v : AVal} {cells : List AVal} {ls : List (List Int)} {e : TypeId} (h : Copied B H' cells ls ls.length) (ho : OwnS H' v 1 ls.length cells e) (hB : ∀ r off len cap sz, v = .slice r off len cap sz → B ≤ r) : LinesF B H' v ls := fun H'' hn hg => by
 have h2 := h.keep hn fun s cs e h1 h2 _ _ => hg s h2 h1
 have ho2 : OwnS H'' v 1 ls.length cells e := ho.keep hn fun r _ _ _ _ e h1 => hg r (hB _ _ _ _ _ e) h1
 exact ⟨cells, ho2.sl, ⟨fun j hj => by obtain ⟨q, a1, a2, _⟩ := h2.it j hj hj; exact ⟨q, a1, a2.sl⟩⟩⟩
theorem LinesF.now {B : Nat} {H' : AHeap} {v : AVal} {ls : List (List Int)} (h : LinesF B H' v ls) : LinesI H' v ls := h H' (Nat.le_refl _) fun _ _ _ => rfl
theorem LinesF.weak {B B' : Nat} {H' : AHeap} {v : AVal} {ls : List (List Int)} (h : LinesF B H' v ls) (hB : B' ≤ B) : LinesF B' H' v ls := fun H'' hn hg => h H'' hn fun r h1 h2 => hg r (by omega) h2
theorem LinesF.step {B : Nat} {H' H2 : AHeap} {v : AVal} {ls : List (List Int)} (h : LinesF B H' v ls) (hn : H'.n ≤ H2.n) (hg : ∀ r, B ≤ r → r < H'.n → H2.get r = H'.get r) : LinesF B H2 v ls := fun H'' hn' hg' => h H'' (by omega) fun r h1 h2 => by rw [hg' r h1 (by omega), hg r h1 h2]
theorem OwnS.tn {H : AHeap} {p : AVal} {sz n s : Nat} {cs cs' : List AVal} {e e' : TypeId} {rw : Bool} (h : OwnS H p sz n cs e) (hg : H.get s = .row cs' rw e') (hne : e' / 2 ≠ e) : RowNe p s := ⟨fun r off len cap sz' q => by
 rcases h.it with ⟨rfl, _⟩ | ⟨r2, e2, rfl, h2, h3, h4, _⟩
 ·cases q
 ·cases q
  intro q; subst q
  rw [hg] at h3; cases h3
  exact hne h4⟩
theorem K_CopyLists {H : AHeap} {p : AVal} {ls : List (List Int)} [hp : LinesI H p ls] [hs : SlimL ls] : Con ext prog 2 26 [p] H fun v H' => LinesF H.n H' v ls ∧ OneV v ∧ FreshS H v ∧ Ext H H' := by
 refine con_of (show prog 26 = some c26 from rfl) rfl rfl fun n hn => ?_
 obtain ⟨ps, hps, hrw⟩ := hp.it
 haveI := hps
 haveI := hps.one
 have hle := hs.le
 repeat first
  | refine mI ?_
  | refine mN ?_
  | refine nl hKF ?_
  | refine sq ?_
  | refine rg fun KF hKF => ?_
  | refine Wp.block ?_
  | dsimp only [cond_true, cond_false]
 refine Wp.loopS (σ := Nat × AVal) [3, 4, 5, 6, 7, 8, 9, 10, 11, 12, 13, 14, 15, 16, 17, 18] (fun s => [(4, .int .i64 (s.1 : Int)), (3, s.2)]) (fun H3 s H2 => s.1 ≤ ls.length ∧ ∃ cells, OwnS H2 s.2 1 s.1 cells 25 ∧ Copied H3.n H2 cells ls s.1 ∧ FreshS H3 s.2 ∧ Ext0 H3 H2) (fun s => ls.length - s.1) (0, .nslice) rfl (fun _ => rfl) ⟨rfl, rfl, trivial⟩ ⟨Nat.zero_le _, [], ⟨Or.inl ⟨rfl, rfl, rfl⟩⟩, ⟨fun j h1 h2 => by cases h2⟩, ⟨fun _ _ _ _ _ e => by cases e⟩, inferInstance⟩ (by unfold fuel0 at hn; dsimp only; omega) ?_
 rintro ⟨i, op⟩ g H2 ⟨hi, cells, ho, hc, hf, ⟨hx⟩⟩
 dsimp only at hi ho hc hf
 haveI : ExtI H H2 := ⟨hx⟩
 haveI := ho.sl.one
 simp only [↓nrmL, nrmZ, Nat.reduceEqDiff, ↓reduceIte, Nat.reduceAdd, Int.reduceBEq, Int.reduceBNe]
 cases hcc : decide ((i : Int) < ((ls.length : Nat) : Int))
 ·have hil : i = ls.length := by have := of_decide_eq_false hcc; omega
  subst hil
  repeat first
   | refine mI ?_
   | (refine mv ?_)
   | (refine bn rfl rfl rfl (by simp only [hcc]; rfl) ?_)
   | (refine ln (by simp only [↓nrmL, nrmK, Nat.reduceEqDiff, ↓reduceIte]; rfl) ?_)
   | refine nl hKF ?_
   | refine sq ?_
   | refine rg fun KF hKF => ?_
   | refine cf rfl ?_
   | refine rt ?_
   | refine xi ?_
   | dsimp only [cond_true, cond_false]
  refine rz trivial ?_
  exact ⟨LinesF.mk hc ho fun r _ _ _ _ e => hf.ge _ _ _ _ _ e, ho.sl.one, hf, hx⟩
 have hil : i < ls.length := by have := of_decide_eq_true hcc; omega
 have hwi := wa1 (a := i) (by omega)
 obtain ⟨q, hq, hI⟩ := hrw.it i hil
 haveI := hI
 haveI := hI.one
 haveI := hs.it i hil
 repeat first
  | refine mI ?_
  | (refine mv ?_)
  | (refine bn rfl rfl rfl (by simp only [hcc]; rfl) ?_)
  | (refine ln (by simp only [↓nrmL, nrmK, Nat.reduceEqDiff, ↓reduceIte]; rfl) ?_)
  | (refine Fo.idx (by simp only [↓nrmL, nrmK, Nat.reduceEqDiff, ↓reduceIte]; rfl) rfl ?_ (by simp only [↓nrmL, nrmZ, Nat.reduceEqDiff, ↓reduceIte, Nat.reduceAdd, Int.reduceBEq, Int.reduceBNe, hcc]; rfl) ?_; (focus omega))
  | refine nl hKF ?_
  | refine sq ?_
  | refine rg fun KF hKF => ?_
  | refine ct rfl ?_
  | refine sk ?_
  | refine Wp.block ?_
 refine Fo.now rfl (exec_ldP (p := p) (j := i) rfl hq) rfl ?_
 skip
 refine WpO.do (WpX.conD hn rfl rfl (by simp only [↓nrmL, nrmZ, Nat.reduceEqDiff, ↓reduceIte, Nat.reduceAdd, Int.reduceBEq, Int.reduceBNe, List.map] <;> rfl) (K_CopyInts (p := q) (l := ls[i])) fun v H3 h5 => ?_)
 obtain ⟨h1, h2, h3⟩ := h5
 haveI : ExtI H2 H3 := ⟨h3⟩
 haveI := h1.sl.one
 have ho3 : OwnS H3 op 1 i cells 25 := inferInstance
 have hc3 : Copied H.n H3 cells ls i := hc.keep h3.n fun s cs e hs _ _ _ => h3.get s hs
 skip
 refine Fo.bslice (cs' := [v]) (aFill1 (v := v) rfl rfl rfl) rfl ?_
 skip
 refine WpO.do (WpX.growX (p := op) (q := .slice H3.n 0 1 (some 1) 1) (k := 1) (new := [v]) rfl rfl (by infer_instance) (row_one1 (inferInstance : HasRow _ H3.n [v] true (2 * 25))) (by decide) (by decide) (by decide) (by omega) (by simp only [List.all_cons, (inferInstance : OneV v).one, List.all_nil, Bool.and_self]) fun op' H9 ho2 hf2 hx2 => ?_)
 haveI := ho2.sl.one
 haveI := hx2
 repeat first
  | refine mI ?_
  | (refine mv ?_)
  | refine b0 ?_
  | refine nl hKF ?_
  | refine rg fun KF hKF => ?_
  | dsimp only [cond_true, cond_false]
 have hn9 := hx2.n
 simp only [AHeap.push] at hn9
 have hkeep : ∀ s cs e, s < H3.n → H.n ≤ s → H3.get s = .row cs true e → e / 2 = 3 → H9.get s = H3.get s := fun s cs e hs _ hg he => by
  have hne := ho3.tn hg (fun h7 => by rw [he] at h7; exact absurd h7 (by decide))
  rw [hx2.get s (by simp only [AHeap.push]; omega) hne, push_get_lt hs]
 have hcl : cells.length = i := by have := ho.sl.len; omega
 refine ⟨(i + 1, op'), by dsimp only; omega, ⟨by simp only [↓nrmL, nrmZ, Nat.reduceEqDiff, ↓reduceIte, Nat.reduceAdd, Int.reduceBEq, Int.reduceBNe]; rw [hwi], rfl, trivial⟩, by dsimp only; omega, cells ++ [v], ho2, ?_, ⟨fun r _ _ _ _ e => by have := hf2.ge _ _ _ _ _ e; simp only [AHeap.push] at this; have := h3.n; have := hx.n; omega⟩, ⟨by have := h3.n; have := hx.n; omega, fun r hr => ?_⟩⟩
 ·have hc9 := hc3.keep (by omega) hkeep
  have h9 : Copied H.n H9 [v] [ls[i]] 1 := by
   refine Copied.keep (H := H3) ⟨fun j a b => ?_⟩ (by omega) hkeep
   obtain rfl : j = 0 := by omega
   exact ⟨v, rfl, h1, fun r _ _ _ _ e => by have := h2.ge _ _ _ _ _ e; have := hx.n; omega⟩
  refine ⟨fun j a b => ?_⟩
  by_cases hj : j < i
  ·obtain ⟨q', b1, b2, b3⟩ := hc9.it j a hj
   exact ⟨q', by rw [List.getElem?_append_left (by omega)]; exact b1, b2, b3⟩
  ·obtain rfl : j = i := by dsimp only at b; omega
   obtain ⟨q', b1, b2, b3⟩ := h9.it 0 (by simp) (by decide)
   exact ⟨q', by rw [List.getElem?_append_right (by omega), hcl, Nat.sub_self]; exact b1, b2, b3⟩
 ·have hlt : r < H3.n := by have := h3.n; have := hx.n; omega
  rw [hx2.get r (by simp only [AHeap.push]; omega) ⟨fun r' _ _ _ _ e => by have := hf.ge _ _ _ _ _ e; omega⟩, push_get_lt hlt, h3.get r (by have := hx.n; omega), hx.get r hr]
instance K_SameInts {p q : AVal} {H : AHeap} {l m : List Int} [hp : IntsI H p l] [hq : IntsI H q m] [hs : SlimI l] : PureCon ext prog 65 [p, q] H 1 (.bool (decide (l = m))) := ⟨by
 refine con_of (show prog 65 = some c65 from rfl) rfl rfl fun n hn => ?_
 have hsl := hs.le
 by_cases hlm : l.length = m.length
 ·have h1 : (((l.length : Nat) : Int) != ((m.length : Nat) : Int)) = false := by simp [hlm]
  repeat first
   | refine mI ?_
   | refine mB ?_
   | (refine mv ?_)
   | (refine bn rfl rfl rfl (by simp only [h1]; rfl) ?_)
   | (refine ln (by simp only [↓nrmL, nrmK, Nat.reduceEqDiff, ↓reduceIte]; rfl) ?_)
   | refine nl hKF ?_
   | refine sq ?_
   | refine rg fun KF hKF => ?_
   | refine cf rfl ?_
   | refine sk ?_
   | refine Wp.block ?_
   | dsimp only [cond_true, cond_false]
  refine Wp.loopS [4, 5, 11, 12, 13, 14, 15, 16, 17, 18, 19, 20, 21, 22, 23, 24, 25] (fun i : Nat => [(5, .int .i64 i)]) (fun H3 i H2 => i ≤ l.length ∧ (∀ j, j < i → l[j]? = m[j]?) ∧ H2 = H3) (fun i => l.length - i) 0 rfl (fun _ => rfl) ⟨rfl, trivial⟩ ⟨Nat.zero_le _, fun j hj => by omega, rfl⟩ (by unfold fuel0 at hn; omega) ?_
  rintro i g H2 ⟨hi, heq, rfl⟩
  simp only [↓nrmL, nrmZ, Nat.reduceEqDiff, ↓reduceIte, Nat.reduceAdd, Int.reduceBEq, Int.reduceBNe]
  cases hc : decide ((i : Int) < (l.length : Int))
  ·have hil : i = l.length := by have := of_decide_eq_false hc; omega
   subst hil
   have hd : decide (l = m) = true := decide_eq_true (eq_of_gets hlm heq)
   rw [hd]
   repeat first
    | refine mI ?_
    | refine mB ?_
    | (refine mv ?_)
    | (refine bn rfl rfl rfl (by simp only [hc]; rfl) ?_)
    | (refine ln (by simp only [↓nrmL, nrmK, Nat.reduceEqDiff, ↓reduceIte]; rfl) ?_)
    | refine nl hKF ?_
    | refine sq ?_
    | refine rg fun KF hKF => ?_
    | refine cf rfl ?_
    | refine rt ?_
    | refine xi ?_
    | dsimp only [cond_true, cond_false]
   refine rz trivial ?_
   exact ⟨rfl, Ext0.ext⟩
  ·have hil : i < l.length := by have := of_decide_eq_true hc; omega
   have him : i < m.length := by omega
   have hw1 := wa1 (a := i) (by omega)
   cases hne : (l[i] != m[i])
   ·skip
    repeat first
     | refine mI ?_
     | (refine mv ?_)
     | (refine bn rfl rfl rfl (by simp only [hc, hne]; rfl) ?_)
     | refine b0 ?_
     | (refine ln (by simp only [↓nrmL, nrmK, Nat.reduceEqDiff, ↓reduceIte]; rfl) ?_)
     | (refine Fo.idx (by simp only [↓nrmL, nrmK, Nat.reduceEqDiff, ↓reduceIte]; rfl) rfl ?_ (by simp only [↓nrmL, nrmZ, Nat.reduceEqDiff, ↓reduceIte, Nat.reduceAdd, Int.reduceBEq, Int.reduceBNe, hc, hne]; rfl) ?_; (focus omega))
     | (refine Fo.ldI rfl ?_ rfl ?_; (focus omega))
     | refine nl hKF ?_
     | refine sq ?_
     | refine rg fun KF hKF => ?_
     | refine Fr.quiet rfl rfl fun KF hKF => ?_
     | refine ct rfl ?_
     | refine cf rfl ?_
     | refine sk ?_
     | refine Wp.block ?_
     | dsimp only [cond_true, cond_false]
    refine ⟨i + 1, by omega, ⟨by simp only [↓nrmL, nrmZ, Nat.reduceEqDiff, ↓reduceIte, Nat.reduceAdd, Int.reduceBEq, Int.reduceBNe]; rw [hw1], trivial⟩, hil, fun j hj => ?_, rfl⟩
    by_cases hj2 : j < i
    ·exact heq j hj2
    ·have : j = i := by omega
     subst this
     have h2 : l[j] = m[j] := by simpa [bne] using hne
     simp [hil, him, h2]
   ·have hd : decide (l = m) = false := decide_eq_false (fun e => by subst e; simp at hne)
    rw [hd]
    repeat first
     | refine mI ?_
     | refine mB ?_
     | (refine mv ?_)
     | (refine bn rfl rfl rfl (by simp only [hc, hne]; rfl) ?_)
     | (refine ln (by simp only [↓nrmL, nrmK, Nat.reduceEqDiff, ↓reduceIte]; rfl) ?_)
     | (refine Fo.idx (by simp only [↓nrmL, nrmK, Nat.reduceEqDiff, ↓reduceIte]; rfl) rfl ?_ (by simp only [↓nrmL, nrmZ, Nat.reduceEqDiff, ↓reduceIte, Nat.reduceAdd, Int.reduceBEq, Int.reduceBNe, hc, hne]; rfl) ?_; (focus omega))
     | (refine Fo.ldI rfl ?_ rfl ?_; (focus omega))
     | refine nl hKF ?_
     | refine sq ?_
     | refine rg fun KF hKF => ?_
     | refine Fr.quiet rfl rfl fun KF hKF => ?_
     | refine ct rfl ?_
     | refine sk ?_
     | refine rt ?_
     | refine Wp.block ?_
     | dsimp only [cond_true, cond_false]
    refine rz trivial ?_
    exact ⟨rfl, Ext0.ext⟩
 ·have h1 : (((l.length : Nat) : Int) != ((m.length : Nat) : Int)) = true := by simp; omega
  have hd : decide (l = m) = false := decide_eq_false (fun e => by subst e; exact hlm rfl)
  rw [hd]
  repeat first
   | refine mB ?_
   | (refine mv ?_)
   | (refine bn rfl rfl rfl (by simp only [h1]; rfl) ?_)
   | (refine ln (by simp only [↓nrmL, nrmK, Nat.reduceEqDiff, ↓reduceIte]; rfl) ?_)
   | refine nl hKF ?_
   | refine sq ?_
   | refine rg fun KF hKF => ?_
   | refine ct rfl ?_
   | refine rt ?_
   | dsimp only [cond_true, cond_false]
  refine rz trivial ?_
  exact ⟨rfl, Ext0.ext⟩⟩
theorem lists_eq {l m : List (List Int)} (hlm : l.length = m.length) (h : ∀ j (h1 : j < l.length) (h2 : j < m.length), l[j] = m[j]) : l = m := List.ext_getElem hlm h
instance K_SameLists {p q : AVal} {H : AHeap} {l m : List (List Int)} [hp : LinesI H p l] [hq : LinesI H q m] [hs : SlimL l] : PureCon ext prog 21 [p, q] H 2 (.bool (decide (l = m))) := ⟨by
 refine con_of (show prog 21 = some c21 from rfl) rfl rfl fun n hn => ?_
 have hsl := hs.le
 obtain ⟨ps, hps, hrp⟩ := hp.it
 obtain ⟨qs, hqs, hrq⟩ := hq.it
 haveI := hps
 haveI := hqs
 haveI := hps.one
 haveI := hqs.one
 by_cases hlm : l.length = m.length
 ·have h1 : (((l.length : Nat) : Int) != ((m.length : Nat) : Int)) = false := by simp [hlm]
  repeat first
   | refine mI ?_
   | refine mB ?_
   | (refine mv ?_)
   | (refine bn rfl rfl rfl (by simp only [h1]; rfl) ?_)
   | (refine ln (by simp only [↓nrmL, nrmK, Nat.reduceEqDiff, ↓reduceIte]; rfl) ?_)
   | refine nl hKF ?_
   | refine sq ?_
   | refine rg fun KF hKF => ?_
   | refine cf rfl ?_
   | refine sk ?_
   | refine Wp.block ?_
   | dsimp only [cond_true, cond_false]
  refine Wp.loopS [4, 5, 11, 12, 13, 14, 15, 16, 17, 18, 19, 20, 21, 22, 23, 24, 25, 26] (fun i : Nat => [(5, .int .i64 i)]) (fun H3 i H2 => i ≤ l.length ∧ (∀ j (h1 : j < l.length) (h2 : j < m.length), j < i → l[j] = m[j]) ∧ Ext0 H3 H2) (fun i => l.length - i) 0 rfl (fun _ => rfl) ⟨rfl, trivial⟩ ⟨Nat.zero_le _, fun j _ _ hj => by omega, inferInstance⟩ (by unfold fuel0 at hn; omega) ?_
  rintro i g H2 ⟨hi, heq, ⟨hx⟩⟩
  haveI : ExtI _ H2 := ⟨hx⟩
  simp only [↓nrmL, nrmZ, Nat.reduceEqDiff, ↓reduceIte, Nat.reduceAdd, Int.reduceBEq, Int.reduceBNe]
  cases hc : decide ((i : Int) < (l.length : Int))
  ·have hil : i = l.length := by have := of_decide_eq_false hc; omega
   subst hil
   have hd : decide (l = m) = true := decide_eq_true (lists_eq hlm fun j a b => heq j a b a)
   rw [hd]
   repeat first
    | refine mI ?_
    | refine mB ?_
    | (refine mv ?_)
    | (refine bn rfl rfl rfl (by simp only [hc]; rfl) ?_)
    | (refine ln (by simp only [↓nrmL, nrmK, Nat.reduceEqDiff, ↓reduceIte]; rfl) ?_)
    | refine nl hKF ?_
    | refine sq ?_
    | refine rg fun KF hKF => ?_
    | refine cf rfl ?_
    | refine rt ?_
    | refine xi ?_
    | dsimp only [cond_true, cond_false]
   refine rz trivial ?_
   exact ⟨rfl, Ext0.ext⟩
  have hil : i < l.length := by have := of_decide_eq_true hc; omega
  have him : i < m.length := by omega
  have hw1 := wa1 (a := i) (by omega)
  obtain ⟨a, ha, hIa⟩ := hrp.it i hil
  obtain ⟨b, hb, hIb⟩ := hrq.it i him
  haveI := hIa
  haveI := hIb
  haveI := hIa.one
  haveI := hIb.one
  haveI := hs.it i hil
  cases hne : decide (l[i] = m[i])
  ·have hd : decide (l = m) = false := decide_eq_false (fun e => by subst e; simp at hne)
   rw [hd]
   repeat first
    | refine mI ?_
    | (refine mv ?_)
    | (refine bn rfl rfl rfl (by simp only [hc]; rfl) ?_)
    | (refine ln (by simp only [↓nrmL, nrmK, Nat.reduceEqDiff, ↓reduceIte]; rfl) ?_)
    | refine nl hKF ?_
    | refine sq ?_
    | refine rg fun KF hKF => ?_
    | refine ct rfl ?_
    | refine sk ?_
    | refine Wp.block ?_
    | dsimp only [cond_true, cond_false]
   refine Fr.dregion0 rfl fun KF hKF => ?_
   refine Fe.pure rfl rfl (by simp only [↓nrmL, nrmZ, Nat.reduceEqDiff, ↓reduceIte, Nat.reduceAdd, Int.reduceBEq, Int.reduceBNe]; rfl) ?_
   refine Fe.pure rfl rfl (by simp only [↓nrmL, nrmZ, Nat.reduceEqDiff, ↓reduceIte, Nat.reduceAdd, Int.reduceBEq, Int.reduceBNe]; rfl) ?_
   refine Fe.pure rfl (exec_idxP (by (try simp only [↓nrmL, nrmZ, Nat.reduceEqDiff, ↓reduceIte, Nat.reduceAdd, Int.reduceBEq, Int.reduceBNe]); rfl) rfl ?_) (by simp only [↓nrmL, nrmZ, Nat.reduceEqDiff, ↓reduceIte, Nat.reduceAdd, Int.reduceBEq, Int.reduceBNe]; rfl) ?_; (focus omega)
   refine Fe.read rfl (exec_ldP (p := p) (j := i) rfl ha) rfl trivial ?_
   refine Fe.pure rfl rfl (by simp only [↓nrmL, nrmZ, Nat.reduceEqDiff, ↓reduceIte, Nat.reduceAdd, Int.reduceBEq, Int.reduceBNe]; rfl) ?_
   refine Fe.pure rfl rfl (by simp only [↓nrmL, nrmZ, Nat.reduceEqDiff, ↓reduceIte, Nat.reduceAdd, Int.reduceBEq, Int.reduceBNe]; rfl) ?_
   refine Fe.pure rfl (exec_idxP (by (try simp only [↓nrmL, nrmZ, Nat.reduceEqDiff, ↓reduceIte, Nat.reduceAdd, Int.reduceBEq, Int.reduceBNe]); rfl) rfl ?_) (by simp only [↓nrmL, nrmZ, Nat.reduceEqDiff, ↓reduceIte, Nat.reduceAdd, Int.reduceBEq, Int.reduceBNe]; rfl) ?_; (focus omega)
   refine Fe.read rfl (exec_ldP (p := q) (j := i) rfl hb) rfl trivial ?_
   simp only [↓nrmL, nrmZ, Nat.reduceEqDiff, ↓reduceIte, Nat.reduceAdd, Int.reduceBEq, Int.reduceBNe, hne]
   refine Fe.pcall (v' := ?_) rfl hn rfl (by simp only [↓nrmL, nrmZ, Nat.reduceEqDiff, ↓reduceIte, Nat.reduceAdd, Int.reduceBEq, Int.reduceBNe, hne, List.map]; rfl) rfl ?hv fun _ _ => ar ?_; case hv => (simp only [hne]; rfl)
   refine Fe.pure rfl rfl (by simp only [↓nrmL, nrmZ, Nat.reduceEqDiff, ↓reduceIte, Nat.reduceAdd, Int.reduceBEq, Int.reduceBNe, hne]; rfl) ?_
   refine WpE.nil (hKF _ _ ?_)
   refine ct rfl ?_
   refine sq ?_
   refine rg fun KF hKF => ?_
   refine mB ?_
   refine nl hKF ?_
   refine rt ?_
   dsimp only [cond_true, cond_false]
   refine rz trivial ?_
   exact ⟨rfl, Ext0.ext⟩
  ·skip
   repeat first
    | refine mI ?_
    | (refine mv ?_)
    | (refine bn rfl rfl rfl (by simp only [hc]; rfl) ?_)
    | (refine ln (by simp only [↓nrmL, nrmK, Nat.reduceEqDiff, ↓reduceIte]; rfl) ?_)
    | refine nl hKF ?_
    | refine sq ?_
    | refine rg fun KF hKF => ?_
    | refine ct rfl ?_
    | refine sk ?_
    | refine Wp.block ?_
    | dsimp only [cond_true, cond_false]
   refine Fr.dregion0 rfl fun KF hKF => ?_
   refine Fe.pure rfl rfl (by simp only [↓nrmL, nrmZ, Nat.reduceEqDiff, ↓reduceIte, Nat.reduceAdd, Int.reduceBEq, Int.reduceBNe]; rfl) ?_
   refine Fe.pure rfl rfl (by simp only [↓nrmL, nrmZ, Nat.reduceEqDiff, ↓reduceIte, Nat.reduceAdd, Int.reduceBEq, Int.reduceBNe]; rfl) ?_
   refine Fe.pure rfl (exec_idxP (by (try simp only [↓nrmL, nrmZ, Nat.reduceEqDiff, ↓reduceIte, Nat.reduceAdd, Int.reduceBEq, Int.reduceBNe]); rfl) rfl ?_) (by simp only [↓nrmL, nrmZ, Nat.reduceEqDiff, ↓reduceIte, Nat.reduceAdd, Int.reduceBEq, Int.reduceBNe]; rfl) ?_; (focus omega)
   refine Fe.read rfl (exec_ldP (p := p) (j := i) rfl ha) rfl trivial ?_
   refine Fe.pure rfl rfl (by simp only [↓nrmL, nrmZ, Nat.reduceEqDiff, ↓reduceIte, Nat.reduceAdd, Int.reduceBEq, Int.reduceBNe]; rfl) ?_
   refine Fe.pure rfl rfl (by simp only [↓nrmL, nrmZ, Nat.reduceEqDiff, ↓reduceIte, Nat.reduceAdd, Int.reduceBEq, Int.reduceBNe]; rfl) ?_
   refine Fe.pure rfl (exec_idxP (by (try simp only [↓nrmL, nrmZ, Nat.reduceEqDiff, ↓reduceIte, Nat.reduceAdd, Int.reduceBEq, Int.reduceBNe]); rfl) rfl ?_) (by simp only [↓nrmL, nrmZ, Nat.reduceEqDiff, ↓reduceIte, Nat.reduceAdd, Int.reduceBEq, Int.reduceBNe]; rfl) ?_; (focus omega)
   refine Fe.read rfl (exec_ldP (p := q) (j := i) rfl hb) rfl trivial ?_
   simp only [↓nrmL, nrmZ, Nat.reduceEqDiff, ↓reduceIte, Nat.reduceAdd, Int.reduceBEq, Int.reduceBNe, hne]
   refine Fe.pcall (v' := ?_) rfl hn rfl (by simp only [↓nrmL, nrmZ, Nat.reduceEqDiff, ↓reduceIte, Nat.reduceAdd, Int.reduceBEq, Int.reduceBNe, hne, List.map]; rfl) rfl ?hv fun _ _ => ar ?_; case hv => (simp only [hne]; rfl)
   refine Fe.pure rfl rfl (by simp only [↓nrmL, nrmZ, Nat.reduceEqDiff, ↓reduceIte, Nat.reduceAdd, Int.reduceBEq, Int.reduceBNe, hne]; rfl) ?_
   refine WpE.nil (hKF _ _ ?_)
   refine cf rfl ?_
   refine sk ?_
   refine rg fun KF hKF => ?_
   refine mI ?_
   refine b0 ?_
   refine mI ?_
   refine nl hKF ?_
   dsimp only [cond_true, cond_false]
   refine ⟨i + 1, by omega, ⟨by simp only [↓nrmL, nrmZ, Nat.reduceEqDiff, ↓reduceIte, Nat.reduceAdd, Int.reduceBEq, Int.reduceBNe]; rw [hw1], trivial⟩, hil, fun j h1 h2 hj => ?_, inferInstance⟩
   by_cases hj2 : j < i
   ·exact heq j h1 h2 hj2
   ·have : j = i := by omega
    subst this
    exact of_decide_eq_true hne
 ·have h1 : (((l.length : Nat) : Int) != ((m.length : Nat) : Int)) = true := by simp; omega
  have hd : decide (l = m) = false := decide_eq_false (fun e => by subst e; exact hlm rfl)
  rw [hd]
  repeat first
   | refine mB ?_
   | (refine mv ?_)
   | (refine bn rfl rfl rfl (by simp only [h1]; rfl) ?_)
   | (refine ln (by simp only [↓nrmL, nrmK, Nat.reduceEqDiff, ↓reduceIte]; rfl) ?_)
   | refine nl hKF ?_
   | refine sq ?_
   | refine rg fun KF hKF => ?_
   | refine ct rfl ?_
   | refine rt ?_
   | dsimp only [cond_true, cond_false]
  refine rz trivial ?_
  exact ⟨rfl, Ext0.ext⟩⟩
instance K_SameStave {p q : AVal} {H : AHeap} {l m : List (List Int)} [hp : LinesI H p l] [hq : LinesI H q m] [hs : SlimL l] : PureCon ext prog 33 [.agg [p], .agg [q]] H 3 (.bool (decide (l = m))) := ⟨by
 refine con_of (show prog 33 = some c33 from rfl) rfl rfl fun n hn => ?_
 obtain ⟨ps, hps, hrp⟩ := hp.it
 obtain ⟨qs, hqs, hrq⟩ := hq.it
 haveI := hps.one
 haveI := hqs.one
 repeat first
  | refine mB ?_
  | refine fd ?_
  | refine Fo.ld rfl rfl ?_
  | (refine Fo.pcall (v' := ?_) hn rfl (by simp only [↓nrmL, nrmZ, Nat.reduceEqDiff, ↓reduceIte, Nat.reduceAdd, Int.reduceBEq, Int.reduceBNe, List.map]; rfl) rfl ?hv fun _ _ => ?_; case hv => rfl)
  | refine bA ?_
  | refine nl hKF ?_
  | refine sq ?_
  | refine rg fun KF hKF => ?_
  | refine rt ?_
  | dsimp only [cond_true, cond_false]
 refine rz trivial ?_
 exact ⟨rfl, Ext0.ext⟩⟩
theorem K_CopyStave {H : AHeap} {p : AVal} {ls : List (List Int)} [hp : LinesI H p ls] [hs : SlimL ls] : Con ext prog 3 30 [.agg [p]] H fun v H' => ∃ q, v = .agg [q] ∧ LinesF H.n H' q ls ∧ OneV q ∧ FreshS H q ∧ Ext H H' := by
 refine con_of (show prog 30 = some c30 from rfl) rfl rfl fun n hn => ?_
 obtain ⟨ps, hps, hrp⟩ := hp.it
 haveI := hps.one
 repeat first
  | refine fd ?_
  | refine Fo.ld rfl rfl ?_
  | refine bA ?_
  | refine nw ?_
  | refine nl hKF ?_
  | refine sq ?_
  | refine rg fun KF hKF => ?_
 refine WpO.do (WpX.conD hn rfl rfl (by simp only [↓nrmL, nrmZ, Nat.reduceEqDiff, ↓reduceIte, Nat.reduceAdd, Int.reduceBEq, Int.reduceBNe, List.map] <;> rfl) (K_CopyLists (p := p) (ls := ls)) fun v H3 h5 => ?_)
 obtain ⟨h1, h2, h3, h4⟩ := h5
 haveI : ExtI _ H3 := ⟨h4⟩
 haveI := h2
 refine ob (cs' := ?_) ?hc ?_; case hc => (simp only [↓nrmL, nrmZ, Nat.reduceEqDiff, ↓reduceIte, Nat.reduceAdd, Int.reduceBEq, Int.reduceBNe]; rfl)
 refine so rfl (rfl : _ = AVal.agg _) rfl rfl rfl (by simp only [↓nrmL, nrmZ, Nat.reduceEqDiff, ↓reduceIte, Nat.reduceAdd, Int.reduceBEq, Int.reduceBNe]; rfl) ?_
 refine nl hKF ?_
 refine rt ?_
 dsimp only [cond_true, cond_false]
 refine rz trivial ?_
 refine ⟨v, rfl, LinesF.weak (h1.step (Nat.le_refl _) fun r a b => ?_) ?_, h2, h3.weak, Ext0.ext⟩
 ·rw [set_get_ne (by simp only [AHeap.push] at a ⊢; omega)]
 ·simp only [AHeap.push]; omega
end Go.Am

namespace Go.Am
open Go Go.RowKit
section
variable {P : Program} {H : AHeap} {n : Nat} {t e : TypeId} {cs : List AVal}
theorem shapesW_ints (hu : P.underlying e = some (.int .i64)) : ∀ {len : Nat} {cells : List AVal}, shapes (ShapeW P H (n + 1)) (List.replicate len e) cells → ∃ l : List Int, l.length = len ∧ cells = cellsI l := by
  intro len
  induction len with
  | zero => intro cells h; exact ⟨[], rfl, h⟩
  | succ len ih =>
    intro cells h
    obtain ⟨a, b, rfl, h1, h2⟩ := h
    obtain ⟨i, rfl, hw⟩ := shapeW_int hu h1
    obtain ⟨l, hl, rfl⟩ := ih h2
    exact ⟨i :: l, by simp [hl], rfl⟩
theorem shapeW_ints (hu : P.underlying t = some (.slice e)) (he : P.underlying e = some (.int .i64)) (hc : P.cellsOf e = 1) (hb : P.bytesOf e = 8) (h : ShapeW P H (n + 2) t cs) : ∃ p l, cs = [p] ∧ IntsI H p l ∧ SlimI l := by
  rw [ShapeW, hu] at h
  obtain ⟨p, len, cells, rfl, h2, h3, h4⟩ := h
  obtain ⟨l, rfl, rfl⟩ := shapesW_ints he h4
  rw [hc] at h2
  rw [hb] at h3
  have := reachBytes_lt
  exact ⟨p, l, rfl, h2, ⟨by omega⟩⟩
theorem shapesW_lists {ei : TypeId} (hu : P.underlying e = some (.slice ei)) (he : P.underlying ei = some (.int .i64)) (hc : P.cellsOf ei = 1) (hb : P.bytesOf ei = 8) : ∀ {len : Nat} {cells : List AVal}, shapes (ShapeW P H (n + 2)) (List.replicate len e) cells → ∃ ls : List (List Int), ls.length = len ∧ cells.length = len ∧ Rows H cells ls ∧ ∀ (i : Nat) (h : i < ls.length), SlimI ls[i] := by
  intro len
  induction len with
  | zero => intro cells h; subst h; exact ⟨[], rfl, rfl, ⟨fun i h => by cases h⟩, fun i h => by cases h⟩
  | succ len ih =>
    intro cells h
    obtain ⟨a, b, rfl, h1, h2⟩ := h
    obtain ⟨p, l, rfl, k1, k2⟩ := shapeW_ints hu he hc hb h1
    obtain ⟨ls, hl, hl2, hr, hs⟩ := ih h2
    refine ⟨l :: ls, by simp [hl], by simp [hl2], ⟨fun i hi => ?_⟩, fun i hi => ?_⟩
    · cases i with
      | zero => exact ⟨p, rfl, k1⟩
      | succ i =>
        obtain ⟨q, h3, h4⟩ := hr.it i (by simpa using hi)
        exact ⟨q, by simpa using h3, h4⟩
    · cases i with
      | zero => exact k2
      | succ i => exact hs i (by simpa using hi)
theorem shapeW_lists {ei : TypeId} (ht : P.underlying t = some (.slice e)) (hu : P.underlying e = some (.slice ei)) (he : P.underlying ei = some (.int .i64)) (hc : P.cellsOf ei = 1) (hb : P.bytesOf ei = 8) (hc2 : P.cellsOf e = 1) (hb2 : P.bytesOf e = 24) (h : ShapeW P H (n + 3) t cs) : ∃ p ls, cs = [p] ∧ LinesI H p ls ∧ SlimL ls := by
  rw [ShapeW, ht] at h
  obtain ⟨p, len, cells, rfl, h2, h3, h4⟩ := h
  obtain ⟨ls, hl, hl2, hr, hs⟩ := shapesW_lists hu he hc hb h4
  subst hl
  rw [hc2] at h2
  rw [hb2] at h3
  have := reachBytes_lt
  exact ⟨p, ls, rfl, ⟨cells, h2, hr⟩, ⟨by omega, hs⟩⟩
theorem shapeW_stave {fs : Array Field} {tl ei : TypeId} (hs : P.underlying t = some (.struct fs)) (hf : (fs.toList.map fun f => f.type) = [tl]) (ht : P.underlying tl = some (.slice e)) (hu : P.underlying e = some (.slice ei)) (he : P.underlying ei = some (.int .i64)) (hc : P.cellsOf ei = 1) (hb : P.bytesOf ei = 8) (hc2 : P.cellsOf e = 1) (hb2 : P.bytesOf e = 24) (h : ShapeW P H (n + 4) t cs) : ∃ p ls, cs = [p] ∧ LinesI H p ls ∧ SlimL ls := by
  have h1 := shapeW_struct hs h
  rw [hf] at h1
  obtain ⟨a, r1, rfl, h2, rfl⟩ := h1
  obtain ⟨p, ls, rfl, h3, h4⟩ := shapeW_lists ht hu he hc hb hc2 hb2 h2
  exact ⟨p, ls, rfl, h3, h4⟩
end
theorem slim_app {P : Program} {Hd : Type} {ts vs : List TypeId} {ds gs : List (DataW Hd)} (h : (DataW.weightsEach P (ts ++ vs) (ds ++ gs)).all (· ≤ reachBytes) = true) : ∀ (j : Nat) t d, ts[j]? = some t → ds[j]? = some d → Slim P t d := fun j t d h1 h2 => by
  have a := (List.getElem?_eq_some_iff.1 h1).1
  have b := (List.getElem?_eq_some_iff.1 h2).1
  exact slim_all h j t d (by rw [List.getElem?_append_left a]; exact h1) (by rw [List.getElem?_append_left b]; exact h2)
end Go.Am

namespace Go.Am
open Go
attribute [local irreducible] Wp WpO WpX WpE
instance K_refIsPath {a b : Nat} {p q : AVal} {H : AHeap} {g : List UInt8} {l : List Int} [hp : BytesI H p g] [hq : IntsI H q l] [ha : Side a] [hb : Side b] : PureCon ext prog 54 [.agg [.int .i64 (a : Int), .int .i64 (b : Int), p], q] H 1 (.bool (pathB a b l)) := ⟨by
 refine con_of (show prog 54 = some c54 from rfl) rfl rfl fun n hn => ?_
 have ha := ha.le
 have hb := hb.le
 haveI := hp.one
 haveI := hq.one
 cases h0 : ((a : Int) == 0)
 rotate_left
 ·have hl0 : a = 0 := by simpa using h0
  have e1 : pathB a b l = false := by
   cases h : pathB a b l with
   | false => rfl
   | true => have := (pathB_len h).2; omega
  rw [e1]
  repeat first
   | refine ox ?_
   | refine mB ?_
   | refine fd ?_
   | refine Fo.ld rfl rfl ?_
   | (refine bn rfl rfl rfl (by simp only [h0]; rfl) ?_)
   | refine tB ?_
   | refine bA ?_
   | refine nl hKF ?_
   | refine sq ?_
   | refine rg fun KF hKF => ?_
   | refine ct rfl ?_
   | refine rt ?_
   | dsimp only [cond_true, cond_false]
  refine rz trivial ?_
  exact ⟨rfl, Ext0.ext⟩
 have hl0 : a ≠ 0 := by simpa using h0
 cases hb0 : ((b : Int) == 0)
 rotate_left
 ·have hl0 : b = 0 := by simpa using hb0
  have e1 : pathB a b l = false := by
   cases h : pathB a b l with
   | false => rfl
   | true =>
    have h1 := pathB_len h
    have h2 := pathB_range h (x := 0) (by omega)
    omega
  rw [e1]
  repeat first
   | refine oy ?_
   | refine ox ?_
   | refine mB ?_
   | refine fd ?_
   | refine Fo.ld rfl rfl ?_
   | (refine bn rfl rfl rfl (by simp only [h0, hb0]; rfl) ?_)
   | refine tB ?_
   | refine fB ?_
   | refine bA ?_
   | refine nl hKF ?_
   | refine sq ?_
   | refine rg fun KF hKF => ?_
   | refine ct rfl ?_
   | refine rt ?_
   | dsimp only [cond_true, cond_false]
  refine rz trivial ?_
  exact ⟨rfl, Ext0.ext⟩
 cases h1 : (((l.length : Nat) : Int) != (a : Int))
 rotate_left
 ·have hl1 : l.length ≠ a := by intro e; rw [e] at h1; simp at h1
  have e1 : pathB a b l = false := by simp [pathB, hl1]
  rw [e1]
  repeat first
   | refine oy ?_
   | refine mB ?_
   | (refine mv ?_)
   | refine fd ?_
   | refine Fo.ld rfl rfl ?_
   | (refine bn rfl rfl rfl (by simp only [h0, hb0, h1]; rfl) ?_)
   | refine fB ?_
   | (refine ln (by simp only [↓nrmL, nrmK, Nat.reduceEqDiff, ↓reduceIte]; rfl) ?_)
   | refine bA ?_
   | refine nl hKF ?_
   | refine sq ?_
   | refine rg fun KF hKF => ?_
   | refine ct rfl ?_
   | refine rt ?_
   | dsimp only [cond_true, cond_false]
  refine rz trivial ?_
  exact ⟨rfl, Ext0.ext⟩
 have hl1 : l.length = a := by have h7 := h1; simp only [bne_eq_false_iff_eq] at h7; omega
 have e0 : pathB a b l = okTo b l l.length := by simp [pathB, hl1]; omega
 rw [e0]
 repeat first
  | refine oy ?_
  | refine mI ?_
  | refine mB ?_
  | (refine mv ?_)
  | refine fd ?_
  | refine Fo.ld rfl rfl ?_
  | (refine bn rfl rfl rfl (by simp only [h0, hb0, h1]; rfl) ?_)
  | refine fB ?_
  | (refine ln (by simp only [↓nrmL, nrmK, Nat.reduceEqDiff, ↓reduceIte]; rfl) ?_)
  | refine bA ?_
  | refine nl hKF ?_
  | refine sq ?_
  | refine rg fun KF hKF => ?_
  | refine cf rfl ?_
  | refine sk ?_
  | refine Wp.block ?_
  | dsimp only [cond_true, cond_false]
 refine Wp.loopS [4, 5, 21, 22, 23, 24, 25, 26, 27, 28, 29, 30, 31, 32, 33, 34, 35, 36, 37, 38, 39, 40, 41, 42, 43, 44, 45, 46, 47, 48, 49, 50, 51, 52, 53, 54, 55, 56, 57, 58, 59, 60, 61, 62, 63, 64, 65, 66, 67, 68] (fun x : Nat => [(5, .int .i64 x)]) (fun H3 x H2 => x ≤ l.length ∧ okTo b l x = true ∧ H2 = H3) (fun x => l.length - x) 0 rfl (fun _ => rfl) ⟨rfl, trivial⟩ ⟨Nat.zero_le _, rfl, rfl⟩ (by unfold fuel0 at hn; omega) ?_
 rintro x g2 H2 ⟨hx, hok, rfl⟩
 simp only [↓nrmL, nrmZ, Nat.reduceEqDiff, ↓reduceIte, Nat.reduceAdd, Int.reduceBEq, Int.reduceBNe]
 cases hc : decide ((x : Int) < ((l.length : Nat) : Int))
 ·have hxl : x = l.length := by have := of_decide_eq_false hc; omega
  subst hxl
  rw [hok]
  repeat first
   | refine mI ?_
   | refine mB ?_
   | (refine mv ?_)
   | (refine bn rfl rfl rfl (by simp only [hc]; rfl) ?_)
   | (refine ln (by simp only [↓nrmL, nrmK, Nat.reduceEqDiff, ↓reduceIte]; rfl) ?_)
   | refine nl hKF ?_
   | refine sq ?_
   | refine rg fun KF hKF => ?_
   | refine cf rfl ?_
   | refine rt ?_
   | refine xi ?_
   | dsimp only [cond_true, cond_false]
  refine rz trivial ?_
  exact ⟨rfl, Ext0.ext⟩
 have hxl : x < l.length := by have := of_decide_eq_true hc; omega
 have hw1 := wa1 (a := x) (by omega)
 cases h2 : decide (l[x] < 0)
 rotate_left
 ·rw [okTo_bad (x := x) (n := l.length) (by simp only [okAt, getD_at hxl]; have := of_decide_eq_true h2; rw [decide_eq_false (by omega)]; rfl) hxl]
  repeat first
   | refine ox ?_
   | refine mI ?_
   | refine mB ?_
   | (refine mv ?_)
   | (refine bn rfl rfl rfl (by simp only [hc, h2]; rfl) ?_)
   | refine tB ?_
   | (refine ln (by simp only [↓nrmL, nrmK, Nat.reduceEqDiff, ↓reduceIte]; rfl) ?_)
   | (refine Fo.idx (by simp only [↓nrmL, nrmK, Nat.reduceEqDiff, ↓reduceIte]; rfl) rfl ?_ (by simp only [↓nrmL, nrmZ, Nat.reduceEqDiff, ↓reduceIte, Nat.reduceAdd, Int.reduceBEq, Int.reduceBNe, hc, h2]; rfl) ?_; (focus omega))
   | (refine Fo.ldI rfl ?_ rfl ?_; (focus omega))
   | refine nl hKF ?_
   | refine sq ?_
   | refine rg fun KF hKF => ?_
   | refine Fr.quiet rfl rfl fun KF hKF => ?_
   | refine ct rfl ?_
   | refine sk ?_
   | refine rt ?_
   | refine Wp.block ?_
   | dsimp only [cond_true, cond_false]
  refine rz trivial ?_
  exact ⟨rfl, Ext0.ext⟩
 cases h3 : decide (l[x] ≥ (b : Int))
 rotate_left
 ·rw [okTo_bad (x := x) (n := l.length) (by simp only [okAt, getD_at hxl]; have := of_decide_eq_true h3; rw [decide_eq_false (p := l[x] < (b : Int)) (by omega), Bool.and_false]; rfl) hxl]
  repeat first
   | refine oy ?_
   | refine mI ?_
   | refine mB ?_
   | (refine mv ?_)
   | refine fd ?_
   | refine Fo.ld rfl rfl ?_
   | (refine bn rfl rfl rfl (by simp only [hc, h2, h3]; rfl) ?_)
   | refine fB ?_
   | (refine ln (by simp only [↓nrmL, nrmK, Nat.reduceEqDiff, ↓reduceIte]; rfl) ?_)
   | (refine Fo.idx (by simp only [↓nrmL, nrmK, Nat.reduceEqDiff, ↓reduceIte]; rfl) rfl ?_ (by simp only [↓nrmL, nrmZ, Nat.reduceEqDiff, ↓reduceIte, Nat.reduceAdd, Int.reduceBEq, Int.reduceBNe, hc, h2, h3]; rfl) ?_; (focus omega))
   | (refine Fo.ldI rfl ?_ rfl ?_; (focus omega))
   | refine nl hKF ?_
   | refine sq ?_
   | refine rg fun KF hKF => ?_
   | refine Fr.quiet rfl rfl fun KF hKF => ?_
   | refine ct rfl ?_
   | refine sk ?_
   | refine rt ?_
   | refine Wp.block ?_
   | dsimp only [cond_true, cond_false]
  refine rz trivial ?_
  exact ⟨rfl, Ext0.ext⟩
 have g1 : 0 ≤ l[x] := by have := of_decide_eq_false h2; omega
 have g3 : l[x] < (b : Int) := by have := of_decide_eq_false h3; omega
 cases h4 : decide ((x : Int) > 0)
 ·have hx0 : x = 0 := by have := of_decide_eq_false h4; omega
  subst hx0
  have e2 : okTo b l (0 + 1) = true := by rw [okTo_succ, hok, okAt, getD_at hxl, decide_eq_true g1, decide_eq_true g3]; rfl
  repeat first
   | refine oy ?_
   | refine ox ?_
   | refine Fo.noU rfl ?_
   | refine mI ?_
   | refine mB ?_
   | (refine mv ?_)
   | refine fd ?_
   | refine Fo.ld rfl rfl ?_
   | (refine bn rfl rfl rfl (by simp only [hc, h2, h3, h4]; rfl) ?_)
   | refine b0 ?_
   | refine fB ?_
   | (refine ln (by simp only [↓nrmL, nrmK, Nat.reduceEqDiff, ↓reduceIte]; rfl) ?_)
   | (refine Fo.idx (by simp only [↓nrmL, nrmK, Nat.reduceEqDiff, ↓reduceIte]; rfl) rfl ?_ (by simp only [↓nrmL, nrmZ, Nat.reduceEqDiff, ↓reduceIte, Nat.reduceAdd, Int.reduceBEq, Int.reduceBNe, hc, h2, h3, h4]; rfl) ?_; (focus omega))
   | (refine Fo.ldI rfl ?_ rfl ?_; (focus omega))
   | refine nl hKF ?_
   | refine sq ?_
   | refine rg fun KF hKF => ?_
   | refine Fr.quiet rfl rfl fun KF hKF => ?_
   | refine ct rfl ?_
   | refine cf rfl ?_
   | refine sk ?_
   | refine Wp.block ?_
   | dsimp only [cond_true, cond_false]
  refine ⟨0 + 1, by omega, ⟨by simp only [↓nrmL, nrmZ, Nat.reduceEqDiff, ↓reduceIte, Nat.reduceAdd, Int.reduceBEq, Int.reduceBNe]; rw [hw1], trivial⟩, hxl, e2, rfl⟩
 have hx0 : 0 < x := by have := of_decide_eq_true h4; omega
 have hw2 := ws1 (a := x) hx0 (by omega)
 have hxm : x - 1 < l.length := by omega
 obtain ⟨m1, m2⟩ := okTo_range hok (x := x - 1) (by omega) hxm
 have hw3 : IntKind.i64.wrap (l[x] - l[x - 1]) = l[x] - l[x - 1] := w64 (by omega)
 have hw4 : IntKind.i64.wrap (l[x - 1] - l[x]) = l[x - 1] - l[x] := w64 (by omega)
 cases h5 : decide (l[x] - l[x - 1] > 1)
 rotate_left
 ·rw [okTo_bad (x := x) (n := l.length) (by
   have h5 := of_decide_eq_true h5
   simp only [okAt, getD_at hxl, getD_at hxm]
   rw [decide_eq_false (p := l[x] ≤ l[x - 1] + 1) (by omega), Bool.and_false, Bool.or_false, beq_eq_false_iff_ne.2 (by omega), Bool.and_false]) hxl]
  repeat first
   | refine oy ?_
   | refine ox ?_
   | refine mI ?_
   | refine mB ?_
   | (refine mv ?_)
   | refine fd ?_
   | refine Fo.ld rfl rfl ?_
   | (refine bn rfl rfl rfl (by simp only [hc, h2, h3, h4, hw2, hw3, hw4, h5]; rfl) ?_)
   | refine tB ?_
   | refine fB ?_
   | (refine ln (by simp only [↓nrmL, nrmK, Nat.reduceEqDiff, ↓reduceIte]; rfl) ?_)
   | (refine Fo.idx (by simp only [↓nrmL, nrmK, Nat.reduceEqDiff, ↓reduceIte]; rfl) rfl ?_ (by simp only [↓nrmL, nrmZ, Nat.reduceEqDiff, ↓reduceIte, Nat.reduceAdd, Int.reduceBEq, Int.reduceBNe, hc, h2, h3, h4, hw2, hw3, hw4, h5]; rfl) ?_; (focus omega))
   | (refine Fo.ldI rfl ?_ rfl ?_; (focus omega))
   | refine nl hKF ?_
   | refine sq ?_
   | refine rg fun KF hKF => ?_
   | refine Fr.quiet rfl rfl fun KF hKF => ?_
   | refine ct rfl ?_
   | refine cf rfl ?_
   | refine sk ?_
   | refine rt ?_
   | refine Wp.block ?_
   | dsimp only [cond_true, cond_false]
  refine rz trivial ?_
  exact ⟨rfl, Ext0.ext⟩
 cases h6 : decide (l[x - 1] - l[x] > 1)
 rotate_left
 ·rw [okTo_bad (x := x) (n := l.length) (by
   have h6 := of_decide_eq_true h6
   simp only [okAt, getD_at hxl, getD_at hxm]
   rw [decide_eq_false (p := l[x - 1] - 1 ≤ l[x]) (by omega), Bool.false_and, Bool.or_false, beq_eq_false_iff_ne.2 (by omega), Bool.and_false]) hxl]
  repeat first
   | refine oy ?_
   | refine mI ?_
   | refine mB ?_
   | (refine mv ?_)
   | refine fd ?_
   | refine Fo.ld rfl rfl ?_
   | (refine bn rfl rfl rfl (by simp only [hc, h2, h3, h4, hw2, hw3, hw4, h5, h6]; rfl) ?_)
   | refine tB ?_
   | refine fB ?_
   | (refine ln (by simp only [↓nrmL, nrmK, Nat.reduceEqDiff, ↓reduceIte]; rfl) ?_)
   | (refine Fo.idx (by simp only [↓nrmL, nrmK, Nat.reduceEqDiff, ↓reduceIte]; rfl) rfl ?_ (by simp only [↓nrmL, nrmZ, Nat.reduceEqDiff, ↓reduceIte, Nat.reduceAdd, Int.reduceBEq, Int.reduceBNe, hc, h2, h3, h4, hw2, hw3, hw4, h5, h6]; rfl) ?_; (focus omega))
   | (refine Fo.ldI rfl ?_ rfl ?_; (focus omega))
   | refine nl hKF ?_
   | refine sq ?_
   | refine rg fun KF hKF => ?_
   | refine Fr.quiet rfl rfl fun KF hKF => ?_
   | refine ct rfl ?_
   | refine cf rfl ?_
   | refine sk ?_
   | refine rt ?_
   | refine Wp.block ?_
   | dsimp only [cond_true, cond_false]
  refine rz trivial ?_
  exact ⟨rfl, Ext0.ext⟩
 have e2 : okTo b l (x + 1) = true := by
  have h5 := of_decide_eq_false h5
  have h6 := of_decide_eq_false h6
  rw [okTo_succ, hok, okAt, getD_at hxl, getD_at hxm, decide_eq_true g1, decide_eq_true g3, decide_eq_true (p := l[x - 1] - 1 ≤ l[x]) (by omega), decide_eq_true (p := l[x] ≤ l[x - 1] + 1) (by omega)]
  simp
 repeat first
  | refine oy ?_
  | refine mI ?_
  | refine mB ?_
  | (refine mv ?_)
  | refine fd ?_
  | refine Fo.ld rfl rfl ?_
  | (refine bn rfl rfl rfl (by simp only [hc, h2, h3, h4, hw2, hw3, hw4, h5, h6]; rfl) ?_)
  | refine b0 ?_
  | refine tB ?_
  | refine fB ?_
  | (refine ln (by simp only [↓nrmL, nrmK, Nat.reduceEqDiff, ↓reduceIte]; rfl) ?_)
  | (refine Fo.idx (by simp only [↓nrmL, nrmK, Nat.reduceEqDiff, ↓reduceIte]; rfl) rfl ?_ (by simp only [↓nrmL, nrmZ, Nat.reduceEqDiff, ↓reduceIte, Nat.reduceAdd, Int.reduceBEq, Int.reduceBNe, hc, h2, h3, h4, hw2, hw3, hw4, h5, h6]; rfl) ?_; (focus omega))
  | (refine Fo.ldI rfl ?_ rfl ?_; (focus omega))
  | refine nl hKF ?_
  | refine sq ?_
  | refine rg fun KF hKF => ?_
  | refine Fr.quiet rfl rfl fun KF hKF => ?_
  | refine ct rfl ?_
  | refine cf rfl ?_
  | refine sk ?_
  | refine Wp.block ?_
  | dsimp only [cond_true, cond_false]
 refine ⟨x + 1, by omega, ⟨by simp only [↓nrmL, nrmZ, Nat.reduceEqDiff, ↓reduceIte, Nat.reduceAdd, Int.reduceBEq, Int.reduceBNe]; rw [hw1], trivial⟩, hxl, e2, rfl⟩⟩
theorem fitsB_bad {a b : Nat} {ls : List (List Int)} {x : Nat} (h : pathB a b (ls.getD x []) = false) (hx : x < 5) : fitsB a b ls = false := by
 rw [fitsB, fitTo_bad (x := x) (by rw [fitAt, h]; rfl) hx, Bool.and_false]
theorem aboveB_iff {l m : List Int} : aboveB l m = true ↔ ∀ x, x < l.length → l.getD x 0 < m.getD x 0 := by
 simp [aboveB, belowTo]
theorem fitsB_of {a b : Nat} {ls : List (List Int)} (h5 : ls.length = 5) (hp : ∀ i, i < 5 → pathB a b (ls.getD i []) = true) (hb : ∀ x, x < a → ∀ i, 1 ≤ i → i < 5 → (ls.getD (i - 1) []).getD x 0 < (ls.getD i []).getD x 0) : fitsB a b ls = true := by
 have : fitTo a b ls 5 = true := by
  rw [fitTo, List.all_eq_true]
  intro i hi
  have hi := List.mem_range.1 hi
  rw [fitAt, hp i hi]
  by_cases h0 : i = 0
  ·simp [h0]
  ·have : aboveB (ls.getD (i - 1) []) (ls.getD i []) = true := aboveB_iff.2 fun x hx => hb x (by have := (pathB_len (hp (i - 1) (by omega))).1; omega) i (by omega) hi
   rw [this]; simp
 rw [fitsB, this, h5]; rfl
theorem fitsB_not {a b : Nat} {ls : List (List Int)} {x i : Nat} (hp : ∀ i, i < 5 → pathB a b (ls.getD i []) = true) (hx : x < a) (h1 : 1 ≤ i) (hi : i < 5) (hb : (ls.getD i []).getD x 0 ≤ (ls.getD (i - 1) []).getD x 0) : fitsB a b ls = false := by
 have : aboveB (ls.getD (i - 1) []) (ls.getD i []) = false := by
  cases h : aboveB (ls.getD (i - 1) []) (ls.getD i []) with
  | false => rfl
  | true =>
   have := aboveB_iff.1 h x (by have := (pathB_len (hp (i - 1) (by omega))).1; omega)
   omega
 rw [fitsB, fitTo_bad (x := i) (by rw [fitAt, this, beq_eq_false_iff_ne.2 (by omega), Bool.or_false, Bool.and_false]) hi, Bool.and_false]
instance K_refStFits {a b : Nat} {p q : AVal} {H : AHeap} {g : List UInt8} {ls : List (List Int)} [hp : BytesI H p g] [hq : LinesI H q ls] [ha : Side a] [hb : Side b] : PureCon ext prog 76 [.agg [.int .i64 (a : Int), .int .i64 (b : Int), p], .agg [q]] H 2 (.bool (fitsB a b ls)) := ⟨by
 refine con_of (show prog 76 = some c76 from rfl) rfl rfl fun n hn => ?_
 obtain ⟨ps, hps, hrw⟩ := hq.it
 haveI := hp.one
 haveI := hps.one
 have hal := ha.le
 cases h0 : (((ls.length : Nat) : Int) != 5)
 rotate_left
 ·have e1 : fitsB a b ls = false := by
   have : ls.length ≠ 5 := by intro e; rw [e] at h0; simp at h0
   simp [fitsB, this]
  rw [e1]
  repeat first
   | refine mB ?_
   | refine fd ?_
   | refine Fo.ld rfl rfl ?_
   | (refine bn rfl rfl rfl (by simp only [h0]; rfl) ?_)
   | (refine ln (by simp only [↓nrmL, nrmK, Nat.reduceEqDiff, ↓reduceIte]; rfl) ?_)
   | refine bA ?_
   | refine nl hKF ?_
   | refine sq ?_
   | refine rg fun KF hKF => ?_
   | refine ct rfl ?_
   | refine rt ?_
   | dsimp only [cond_true, cond_false]
  refine rz trivial ?_
  exact ⟨rfl, Ext0.ext⟩
 have hl5 : ls.length = 5 := by have h7 := h0; simp only [bne_eq_false_iff_eq] at h7; omega
 repeat first
  | refine mI ?_
  | refine mB ?_
  | refine fd ?_
  | refine Fo.ld rfl rfl ?_
  | (refine bn rfl rfl rfl (by simp only [h0]; rfl) ?_)
  | (refine ln (by simp only [↓nrmL, nrmK, Nat.reduceEqDiff, ↓reduceIte]; rfl) ?_)
  | refine bA ?_
  | refine nl hKF ?_
  | refine sq ?_
  | refine rg fun KF hKF => ?_
  | refine cf rfl ?_
  | refine sk ?_
  | refine Wp.block ?_
  | dsimp only [cond_true, cond_false]
 refine Wp.loopS [4, 5, 12, 13, 14, 15, 16, 17, 18, 19, 20, 21, 22, 23] (fun x : Nat => [(5, .int .i64 x)]) (fun H3 x H2 => x ≤ 5 ∧ (∀ i, i < x → pathB a b (ls.getD i []) = true) ∧ Ext0 H3 H2) (fun x => 5 - x) 0 rfl (fun _ => rfl) ⟨rfl, trivial⟩ ⟨Nat.zero_le _, fun i hi => by omega, inferInstance⟩ (by unfold fuel0 at hn; omega) ?_
 rintro x g2 H2 ⟨hx, hok, ⟨hx2⟩⟩
 haveI : ExtI _ H2 := ⟨hx2⟩
 simp only [↓nrmL, nrmZ, Nat.reduceEqDiff, ↓reduceIte, Nat.reduceAdd, Int.reduceBEq, Int.reduceBNe]
 cases hc : decide ((x : Int) < 5)
 rotate_left
 ·have hxl : x < ls.length := by have := of_decide_eq_true hc; omega
  have hw1 := wa1 (a := x) (by omega)
  obtain ⟨qi, hqi, hIi⟩ := hrw.it x hxl
  haveI := hIi
  haveI := hIi.one
  cases hpa : pathB a b ls[x]
  ·rw [fitsB_bad (x := x) (by rw [getDL_at hxl, hpa]) (by omega)]
   repeat first
    | refine mI ?_
    | (refine bn rfl rfl rfl (by simp only [hc]; rfl) ?_)
    | refine nl hKF ?_
    | refine sq ?_
    | refine rg fun KF hKF => ?_
    | refine ct rfl ?_
    | refine sk ?_
    | refine Wp.block ?_
    | dsimp only [cond_true, cond_false]
   refine Fr.dregion0 rfl fun KF hKF => ?_
   repeat first
    | (refine Er rfl (exec_ld rfl rfl) rfl ?_)
    | (refine Er rfl (exec_ldN rfl rfl (by simp only [↓nrmL, nrmZ, Nat.reduceEqDiff, ↓reduceIte, Nat.reduceAdd, Int.reduceBEq, Int.reduceBNe]; rfl)) rfl ?_)
    | (refine Fe.pure rfl rfl (by simp only [↓nrmL, nrmZ, Nat.reduceEqDiff, ↓reduceIte, Nat.reduceAdd, Int.reduceBEq, Int.reduceBNe]; rfl) ?_)
    | (refine Fe.pure rfl (exec_idxP (by (try simp only [↓nrmL, nrmZ, Nat.reduceEqDiff, ↓reduceIte, Nat.reduceAdd, Int.reduceBEq, Int.reduceBNe]); rfl) rfl ?_) (by simp only [↓nrmL, nrmZ, Nat.reduceEqDiff, ↓reduceIte, Nat.reduceAdd, Int.reduceBEq, Int.reduceBNe]; rfl) ?_; (focus omega))
   refine Fe.read rfl (exec_ldP (p := q) (j := x) rfl hqi) rfl trivial ?_
   simp only [↓nrmL, nrmZ, Nat.reduceEqDiff, ↓reduceIte, Nat.reduceAdd, Int.reduceBEq, Int.reduceBNe, hpa]
   refine Fe.pcall (v' := ?_) rfl hn rfl (by simp only [↓nrmL, nrmZ, Nat.reduceEqDiff, ↓reduceIte, Nat.reduceAdd, Int.reduceBEq, Int.reduceBNe, hpa, List.map]; rfl) rfl ?hv fun _ _ => ar ?_; case hv => (simp only [hpa]; rfl)
   refine Fe.pure rfl rfl (by simp only [↓nrmL, nrmZ, Nat.reduceEqDiff, ↓reduceIte, Nat.reduceAdd, Int.reduceBEq, Int.reduceBNe, hpa]; rfl) ?_
   refine WpE.nil (hKF _ _ ?_)
   refine ct rfl ?_
   refine sq ?_
   refine rg fun KF hKF => ?_
   refine mB ?_
   refine nl hKF ?_
   refine rt ?_
   dsimp only [cond_true, cond_false]
   refine rz trivial ?_
   exact ⟨rfl, Ext0.ext⟩
  ·skip
   repeat first
    | refine mI ?_
    | (refine bn rfl rfl rfl (by simp only [hc]; rfl) ?_)
    | refine nl hKF ?_
    | refine sq ?_
    | refine rg fun KF hKF => ?_
    | refine ct rfl ?_
    | refine sk ?_
    | refine Wp.block ?_
    | dsimp only [cond_true, cond_false]
   refine Fr.dregion0 rfl fun KF hKF => ?_
   repeat first
    | (refine Er rfl (exec_ld rfl rfl) rfl ?_)
    | (refine Er rfl (exec_ldN rfl rfl (by simp only [↓nrmL, nrmZ, Nat.reduceEqDiff, ↓reduceIte, Nat.reduceAdd, Int.reduceBEq, Int.reduceBNe]; rfl)) rfl ?_)
    | (refine Fe.pure rfl rfl (by simp only [↓nrmL, nrmZ, Nat.reduceEqDiff, ↓reduceIte, Nat.reduceAdd, Int.reduceBEq, Int.reduceBNe]; rfl) ?_)
    | (refine Fe.pure rfl (exec_idxP (by (try simp only [↓nrmL, nrmZ, Nat.reduceEqDiff, ↓reduceIte, Nat.reduceAdd, Int.reduceBEq, Int.reduceBNe]); rfl) rfl ?_) (by simp only [↓nrmL, nrmZ, Nat.reduceEqDiff, ↓reduceIte, Nat.reduceAdd, Int.reduceBEq, Int.reduceBNe]; rfl) ?_; (focus omega))
   refine Fe.read rfl (exec_ldP (p := q) (j := x) rfl hqi) rfl trivial ?_
   simp only [↓nrmL, nrmZ, Nat.reduceEqDiff, ↓reduceIte, Nat.reduceAdd, Int.reduceBEq, Int.reduceBNe, hpa]
   refine Fe.pcall (v' := ?_) rfl hn rfl (by simp only [↓nrmL, nrmZ, Nat.reduceEqDiff, ↓reduceIte, Nat.reduceAdd, Int.reduceBEq, Int.reduceBNe, hpa, List.map]; rfl) rfl ?hv fun _ _ => ar ?_; case hv => (simp only [hpa]; rfl)
   refine Fe.pure rfl rfl (by simp only [↓nrmL, nrmZ, Nat.reduceEqDiff, ↓reduceIte, Nat.reduceAdd, Int.reduceBEq, Int.reduceBNe, hpa]; rfl) ?_
   refine WpE.nil (hKF _ _ ?_)
   refine cf rfl ?_
   refine sk ?_
   refine rg fun KF hKF => ?_
   refine mI ?_
   refine b0 ?_
   refine mI ?_
   refine nl hKF ?_
   dsimp only [cond_true, cond_false]
   refine ⟨x + 1, by omega, ⟨by simp only [↓nrmL, nrmZ, Nat.reduceEqDiff, ↓reduceIte, Nat.reduceAdd, Int.reduceBEq, Int.reduceBNe]; rw [hw1], trivial⟩, by omega, fun i hi => ?_, inferInstance⟩
   by_cases e : i = x
   ·rw [e, getDL_at hxl, hpa]
   ·exact hok i (by omega)
 have hx5 : x = 5 := by have := of_decide_eq_false hc; omega
 rw [hx5] at hok
 repeat first
  | refine mI ?_
  | (refine bn rfl rfl rfl (by simp only [hc]; rfl) ?_)
  | refine nl hKF ?_
  | refine sq ?_
  | refine rg fun KF hKF => ?_
  | refine cf rfl ?_
  | refine Wp.block ?_
  | refine xi ?_
  | dsimp only [cond_true, cond_false]
 refine Wp.loopS [4, 6, 7, 24, 25, 26, 27, 28, 29, 30, 31, 32, 33, 34, 35, 36, 37, 38, 39, 40, 41, 42, 43, 44, 45, 46, 47, 48, 49, 50, 51] (fun x : Nat => [(6, .int .i64 x)]) (fun H3 x H4 => x ≤ a ∧ (∀ c, c < x → ∀ i, 1 ≤ i → i < 5 → (ls.getD (i - 1) []).getD c 0 < (ls.getD i []).getD c 0) ∧ H4 = H3) (fun x => a - x) 0 rfl (fun _ => rfl) ⟨rfl, trivial⟩ ⟨Nat.zero_le _, fun c hc => by omega, rfl⟩ (by unfold fuel0 at hn; omega) ?_
 rintro y g3 H4 ⟨hy, hbel, rfl⟩
 simp only [↓nrmL, nrmZ, Nat.reduceEqDiff, ↓reduceIte, Nat.reduceAdd, Int.reduceBEq, Int.reduceBNe]
 cases hc2 : decide ((y : Int) < (a : Int))
 ·have hya : y = a := by have := of_decide_eq_false hc2; omega
  rw [fitsB_of hl5 hok (fun x hx => hbel x (by omega))]
  repeat first
   | refine mI ?_
   | refine mB ?_
   | refine fd ?_
   | refine Fo.ld rfl rfl ?_
   | (refine bn rfl rfl rfl (by simp only [hc2]; rfl) ?_)
   | refine nl hKF ?_
   | refine sq ?_
   | refine rg fun KF hKF => ?_
   | refine cf rfl ?_
   | refine rt ?_
   | refine xi ?_
   | dsimp only [cond_true, cond_false]
  refine rz trivial ?_
  exact ⟨rfl, Ext0.ext⟩
 have hya : y < a := by have := of_decide_eq_true hc2; omega
 have hw1 := wa1 (a := y) (by omega)
 repeat first
  | refine mI ?_
  | refine fd ?_
  | refine Fo.ld rfl rfl ?_
  | (refine bn rfl rfl rfl (by simp only [hc2]; rfl) ?_)
  | refine nl hKF ?_
  | refine sq ?_
  | refine rg fun KF hKF => ?_
  | refine ct rfl ?_
  | refine sk ?_
  | refine Wp.block ?_
  | dsimp only [cond_true, cond_false]
 refine Wp.loopS [4, 7, 30, 31, 32, 33, 34, 35, 36, 37, 38, 39, 40, 41, 42, 43, 44, 45, 46, 47, 48, 49, 50, 51] (fun i : Nat => [(7, .int .i64 i)]) (fun H3 i H5 => 1 ≤ i ∧ i ≤ 5 ∧ (∀ j, 1 ≤ j → j < i → (ls.getD (j - 1) []).getD y 0 < (ls.getD j []).getD y 0) ∧ H5 = H3) (fun i => 5 - i) 1 rfl (fun _ => rfl) ⟨rfl, trivial⟩ ⟨Nat.le_refl _, by omega, fun j h1 h2 => by omega, rfl⟩ (by unfold fuel0 at hn; omega) ?_
 rintro i g4 H5 ⟨hi1, hi5, hin, rfl⟩
 simp only [↓nrmL, nrmZ, Nat.reduceEqDiff, ↓reduceIte, Nat.reduceAdd, Int.reduceBEq, Int.reduceBNe]
 cases hc3 : decide ((i : Int) < 5)
 ·have hie : i = 5 := by have := of_decide_eq_false hc3; omega
  repeat first
   | refine mI ?_
   | (refine bn rfl rfl rfl (by simp only [hc3]; rfl) ?_)
   | refine b0 ?_
   | refine nl hKF ?_
   | refine sq ?_
   | refine rg fun KF hKF => ?_
   | refine cf rfl ?_
   | refine xi ?_
   | dsimp only [cond_true, cond_false]
  refine ⟨y + 1, by omega, ⟨by simp only [↓nrmL, nrmZ, Nat.reduceEqDiff, ↓reduceIte, Nat.reduceAdd, Int.reduceBEq, Int.reduceBNe]; rw [hw1], trivial⟩, hya, fun c hcy j h1 h2 => ?_, rfl⟩
  by_cases e : c = y
  ·rw [e]; exact hin j h1 (by omega)
  ·exact hbel c (by omega) j h1 h2
 have hie : i < 5 := by have := of_decide_eq_true hc3; omega
 have hw3 := wa1 (a := i) (by omega)
 have hw2 := ws1 (a := i) (by omega) (by omega)
 have hil : i < ls.length := by omega
 have him : i - 1 < ls.length := by omega
 obtain ⟨qi, hqi, hIi⟩ := hrw.it i hil
 obtain ⟨qm, hqm, hIm⟩ := hrw.it (i - 1) him
 haveI := hIi
 haveI := hIm
 haveI := hIi.one
 haveI := hIm.one
 have hyi : y < ls[i].length := by have := (pathB_len (hok i hie)).1; rw [getDL_at hil] at this; omega
 have hym : y < ls[i - 1].length := by have := (pathB_len (hok (i - 1) (by omega))).1; rw [getDL_at him] at this; omega
 cases hle : decide (ls[i][y] ≤ ls[i - 1][y])
 rotate_left
 ·have h9 := of_decide_eq_true hle
  rw [fitsB_not (i := i) (x := y) hok hya hi1 hie (by rw [getDL_at hil, getDL_at him, getD_at hyi, getD_at hym]; exact h9)]
  repeat first
   | refine mI ?_
   | refine fd ?_
   | refine Fo.ld rfl rfl ?_
   | (refine bn rfl rfl rfl (by simp only [hc3]; rfl) ?_)
   | (refine Fo.idx (by simp only [↓nrmL, nrmK, Nat.reduceEqDiff, ↓reduceIte]; rfl) rfl ?_ (by simp only [↓nrmL, nrmZ, Nat.reduceEqDiff, ↓reduceIte, Nat.reduceAdd, Int.reduceBEq, Int.reduceBNe, hc3]; rfl) ?_; (focus omega))
   | refine nl hKF ?_
   | refine sq ?_
   | refine rg fun KF hKF => ?_
   | refine Fr.quiet rfl rfl fun KF hKF => ?_
   | refine ct rfl ?_
   | refine sk ?_
   | refine Wp.block ?_
  refine Fo.now rfl (exec_ldP (p := q) (j := i) rfl hqi) rfl ?_
  simp only [↓nrmL, nrmZ, Nat.reduceEqDiff, ↓reduceIte, Nat.reduceAdd, Int.reduceBEq, Int.reduceBNe, hw2]
  repeat first
   | refine mI ?_
   | refine fd ?_
   | refine Fo.ld rfl rfl ?_
   | (refine bn rfl rfl rfl (by simp only [hw2]; rfl) ?_)
   | (refine Fo.idx (by simp only [↓nrmL, nrmK, Nat.reduceEqDiff, ↓reduceIte]; rfl) rfl ?_ (by simp only [↓nrmL, nrmZ, Nat.reduceEqDiff, ↓reduceIte, Nat.reduceAdd, Int.reduceBEq, Int.reduceBNe, hw2]; rfl) ?_; (focus omega))
   | (refine Fo.ldI rfl ?_ rfl ?_; (focus omega))
  refine Fo.now rfl (exec_ldP (p := q) (j := i - 1) rfl hqm) rfl ?_
  simp only [↓nrmL, nrmZ, Nat.reduceEqDiff, ↓reduceIte, Nat.reduceAdd, Int.reduceBEq, Int.reduceBNe, hle]
  refine mI ?_
  refine Fo.idx (by simp only [↓nrmL, nrmK, Nat.reduceEqDiff, ↓reduceIte]; rfl) rfl ?_ (by simp only [↓nrmL, nrmZ, Nat.reduceEqDiff, ↓reduceIte, Nat.reduceAdd, Int.reduceBEq, Int.reduceBNe, hle]; rfl) ?_; (focus omega)
  refine Fo.ldI rfl ?_ rfl ?_; (focus omega)
  refine bn rfl rfl rfl (by simp only [hle]; rfl) ?_
  refine nl hKF ?_
  refine ct rfl ?_
  refine sq ?_
  refine rg fun KF hKF => ?_
  refine mB ?_
  refine nl hKF ?_
  refine rt ?_
  dsimp only [cond_true, cond_false]
  refine rz trivial ?_
  exact ⟨rfl, Ext0.ext⟩
 have h9 := of_decide_eq_false hle
 repeat first
  | refine mI ?_
  | refine fd ?_
  | refine Fo.ld rfl rfl ?_
  | (refine bn rfl rfl rfl (by simp only [hc3]; rfl) ?_)
  | (refine Fo.idx (by simp only [↓nrmL, nrmK, Nat.reduceEqDiff, ↓reduceIte]; rfl) rfl ?_ (by simp only [↓nrmL, nrmZ, Nat.reduceEqDiff, ↓reduceIte, Nat.reduceAdd, Int.reduceBEq, Int.reduceBNe, hc3]; rfl) ?_; (focus omega))
  | refine nl hKF ?_
  | refine sq ?_
  | refine rg fun KF hKF => ?_
  | refine Fr.quiet rfl rfl fun KF hKF => ?_
  | refine ct rfl ?_
  | refine sk ?_
  | refine Wp.block ?_
 refine Fo.now rfl (exec_ldP (p := q) (j := i) rfl hqi) rfl ?_
 simp only [↓nrmL, nrmZ, Nat.reduceEqDiff, ↓reduceIte, Nat.reduceAdd, Int.reduceBEq, Int.reduceBNe, hw2]
 repeat first
  | refine mI ?_
  | refine fd ?_
  | refine Fo.ld rfl rfl ?_
  | (refine bn rfl rfl rfl (by simp only [hw2]; rfl) ?_)
  | (refine Fo.idx (by simp only [↓nrmL, nrmK, Nat.reduceEqDiff, ↓reduceIte]; rfl) rfl ?_ (by simp only [↓nrmL, nrmZ, Nat.reduceEqDiff, ↓reduceIte, Nat.reduceAdd, Int.reduceBEq, Int.reduceBNe, hw2]; rfl) ?_; (focus omega))
  | (refine Fo.ldI rfl ?_ rfl ?_; (focus omega))
 refine Fo.now rfl (exec_ldP (p := q) (j := i - 1) rfl hqm) rfl ?_
 simp only [↓nrmL, nrmZ, Nat.reduceEqDiff, ↓reduceIte, Nat.reduceAdd, Int.reduceBEq, Int.reduceBNe, hle]
 repeat first
  | refine mI ?_
  | (refine bn rfl rfl rfl (by simp only [hle]; rfl) ?_)
  | refine b0 ?_
  | (refine Fo.idx (by simp only [↓nrmL, nrmK, Nat.reduceEqDiff, ↓reduceIte]; rfl) rfl ?_ (by simp only [↓nrmL, nrmZ, Nat.reduceEqDiff, ↓reduceIte, Nat.reduceAdd, Int.reduceBEq, Int.reduceBNe, hle]; rfl) ?_; (focus omega))
  | (refine Fo.ldI rfl ?_ rfl ?_; (focus omega))
  | refine nl hKF ?_
  | refine rg fun KF hKF => ?_
  | refine cf rfl ?_
  | refine sk ?_
  | dsimp only [cond_true, cond_false]
 refine ⟨i + 1, by omega, ⟨by simp only [↓nrmL, nrmZ, Nat.reduceEqDiff, ↓reduceIte, Nat.reduceAdd, Int.reduceBEq, Int.reduceBNe]; rw [hw3], trivial⟩, by omega, by omega, fun j h1 h2 => ?_, rfl⟩
 by_cases e : j = i
 ·rw [e, getDL_at hil, getDL_at him, getD_at hyi, getD_at hym]; omega
 ·exact hin j h1 (by omega)⟩
end Go.Am


namespace Go.Am
open Go
attribute [local irreducible] Wp WpO WpX WpE
end Go.Am


namespace Go.Am
open Go
attribute [local irreducible] Wp WpO WpX WpE
end Go.Am


namespace Go.Am
open Go
attribute [local irreducible] Wp WpO WpX WpE
structure Ok (a b : Nat) (l : List UInt8) : Prop where
 wa : a ≤ 640
 hb : b ≤ 640
 len : l.length = a * b
 px : pxOk l = true
theorem Ok.sized {a b : Nat} {l : List UInt8} (h : Ok a b l) : sizedB a b l.length = true := by
 have hm : a * b ≤ 640 * 640 := Nat.mul_le_mul h.wa h.hb
 have h1 : sideB a = true := by simp only [sideB, Bool.and_eq_true, decide_eq_true_eq]; have := h.wa; omega
 have h2 : sideB b = true := by simp only [sideB, Bool.and_eq_true, decide_eq_true_eq]; have := h.hb; omega
 unfold sizedB
 rw [h1, h2, wm (by omega), h.len]
 simp
theorem Ok.err {a b : Nat} {l : List UInt8} (h : Ok a b l) : Img.err ⟨a, b, l⟩ = 0 := by
 have h1 : (⟨a, b, l⟩ : Img).sized = true := h.sized
 have h2 := h.px
 unfold Img.err
 rw [h1]
 simp only [h2, cond_true]
end Go.Am


namespace Go.Am
open Go
attribute [local irreducible] Wp WpO WpX WpE
end Go.Am


namespace Go.Am
open Go
attribute [local irreducible] Wp WpO WpX WpE
theorem ok_of {w h : Int} {l : List UInt8} (h0 : (Img.err ⟨w, h, l⟩ == 0) = true) : ∃ a b : Nat, w = a ∧ h = b ∧ Ok a b l := by
 obtain ⟨h1, h2⟩ := Img.ok h0
 obtain ⟨a, b, e1, e2, e3, e4, e5⟩ := sized_nat h1
 exact ⟨a, b, e1, e2, e3, e4, e5, h2⟩
end Go.Am

namespace Go.Am
open Go
attribute [local irreducible] Wp WpO WpX WpE
def checkS (g : Img) (ls : List (List Int)) : Int := bif g.err == 0 then (bif fitsB g.w.toNat g.h.toNat ls then 0 else 10) else g.err
instance K_stCheck {w h : Int} {p q : AVal} {H : AHeap} {l : List UInt8} {ls : List (List Int)} [hp : BytesI H p l] [hq : LinesI H q ls] : PureCon ext prog 31 [.agg [.int .i64 w, .int .i64 h, p], .agg [q]] H 4 (.int .i64 (checkS ⟨w, h, l⟩ ls)) := ⟨by
 refine con_of (show prog 31 = some c31 from rfl) rfl rfl fun n hn => ?_
 obtain ⟨ps, hps, _⟩ := hq.it
 haveI := hp.one
 haveI := hps.one
 cases h0 : (Img.err ⟨w, h, l⟩ == 0)
 ·have e1 : checkS ⟨w, h, l⟩ ls = Img.err ⟨w, h, l⟩ := by simp only [checkS, h0, cond_false]
  rw [e1]
  repeat first
   | refine mI ?_
   | (refine Fo.ldN rfl rfl (by simp only [↓nrmL, nrmZ, Nat.reduceEqDiff, ↓reduceIte, Nat.reduceAdd, Int.reduceBEq, Int.reduceBNe, h0, bne]; rfl) ?_)
   | (refine bn rfl rfl rfl (by simp only [h0, bne]; rfl) ?_)
   | (refine Fo.pcall (v' := ?_) hn rfl (by simp only [↓nrmL, nrmZ, Nat.reduceEqDiff, ↓reduceIte, Nat.reduceAdd, Int.reduceBEq, Int.reduceBNe, h0, bne, List.map]; rfl) rfl ?hv fun _ _ => ?_; case hv => rfl)
   | refine bA ?_
   | refine nl hKF ?_
   | refine sq ?_
   | refine rg fun KF hKF => ?_
   | refine ct rfl ?_
   | refine rt ?_
   | dsimp only [cond_true, cond_false]
  refine rz trivial ?_
  exact ⟨rfl, Ext0.ext⟩
 obtain ⟨a, b, rfl, rfl, ok⟩ := ok_of h0
 haveI : Side a := ⟨ok.wa⟩
 haveI : Side b := ⟨ok.hb⟩
 have e1 : checkS ⟨a, b, l⟩ ls = bif fitsB a b ls then 0 else 10 := by simp only [checkS, h0, cond_true, Int.toNat_natCast]
 cases hf : fitsB a b ls
 ·rw [e1, hf]
  repeat first
   | refine mI ?_
   | (refine Fo.ldN rfl rfl (by simp only [↓nrmL, nrmZ, Nat.reduceEqDiff, ↓reduceIte, Nat.reduceAdd, Int.reduceBEq, Int.reduceBNe, h0, bne]; rfl) ?_)
   | (refine bn rfl rfl rfl (by simp only [h0, bne]; rfl) ?_)
   | (refine Fo.pcall (v' := ?_) hn rfl (by simp only [↓nrmL, nrmZ, Nat.reduceEqDiff, ↓reduceIte, Nat.reduceAdd, Int.reduceBEq, Int.reduceBNe, h0, bne, List.map]; rfl) rfl ?hv fun _ _ => ?_; case hv => rfl)
   | refine bA ?_
   | refine Fo.now rfl rfl rfl ?_
   | refine nl hKF ?_
   | refine sq ?_
   | refine rg fun KF hKF => ?_
   | refine cf rfl ?_
   | refine sk ?_
   | dsimp only [cond_true, cond_false]
  rename AHeap => H1
  haveI : LinesI H1 q ls := hq.ext Ext0.ext
  simp only [hf]
  refine ct rfl ?_
  refine sq ?_
  refine rg fun KF hKF => ?_
  refine mI ?_
  refine nl hKF ?_
  refine rt ?_
  dsimp only [cond_true, cond_false]
  refine rz trivial ?_
  exact ⟨rfl, Ext0.ext⟩
 ·rw [e1, hf]
  repeat first
   | refine mI ?_
   | (refine Fo.ldN rfl rfl (by simp only [↓nrmL, nrmZ, Nat.reduceEqDiff, ↓reduceIte, Nat.reduceAdd, Int.reduceBEq, Int.reduceBNe, h0, bne]; rfl) ?_)
   | (refine bn rfl rfl rfl (by simp only [h0, bne]; rfl) ?_)
   | (refine Fo.pcall (v' := ?_) hn rfl (by simp only [↓nrmL, nrmZ, Nat.reduceEqDiff, ↓reduceIte, Nat.reduceAdd, Int.reduceBEq, Int.reduceBNe, h0, bne, List.map]; rfl) rfl ?hv fun _ _ => ?_; case hv => rfl)
   | refine bA ?_
   | refine Fo.now rfl rfl rfl ?_
   | refine nl hKF ?_
   | refine sq ?_
   | refine rg fun KF hKF => ?_
   | refine cf rfl ?_
   | refine sk ?_
   | dsimp only [cond_true, cond_false]
  rename AHeap => H1
  haveI : LinesI H1 q ls := hq.ext Ext0.ext
  simp only [hf]
  refine cf rfl ?_
  refine sk ?_
  refine sq ?_
  refine rg fun KF hKF => ?_
  refine mI ?_
  refine nl hKF ?_
  refine rt ?_
  dsimp only [cond_true, cond_false]
  refine rz trivial ?_
  exact ⟨rfl, Ext0.ext⟩⟩
instance K_stRefCheck {w h : Int} {p q : AVal} {H : AHeap} {l : List UInt8} {ls : List (List Int)} [hp : BytesI H p l] [hq : LinesI H q ls] : PureCon ext prog 32 [.agg [.int .i64 w, .int .i64 h, p], .agg [q]] H 4 (.int .i64 (checkS ⟨w, h, l⟩ ls)) := ⟨by
 refine con_of (show prog 32 = some c32 from rfl) rfl rfl fun n hn => ?_
 obtain ⟨ps, hps, _⟩ := hq.it
 haveI := hp.one
 haveI := hps.one
 cases h0 : (Img.err ⟨w, h, l⟩ == 0)
 ·have e1 : checkS ⟨w, h, l⟩ ls = Img.err ⟨w, h, l⟩ := by simp only [checkS, h0, cond_false]
  rw [e1]
  repeat first
   | refine mI ?_
   | (refine Fo.ldN rfl rfl (by simp only [↓nrmL, nrmZ, Nat.reduceEqDiff, ↓reduceIte, Nat.reduceAdd, Int.reduceBEq, Int.reduceBNe, h0, bne]; rfl) ?_)
   | (refine bn rfl rfl rfl (by simp only [h0, bne]; rfl) ?_)
   | (refine Fo.pcall (v' := ?_) hn rfl (by simp only [↓nrmL, nrmZ, Nat.reduceEqDiff, ↓reduceIte, Nat.reduceAdd, Int.reduceBEq, Int.reduceBNe, h0, bne, List.map]; rfl) rfl ?hv fun _ _ => ?_; case hv => rfl)
   | refine bA ?_
   | refine nl hKF ?_
   | refine sq ?_
   | refine rg fun KF hKF => ?_
   | refine ct rfl ?_
   | refine rt ?_
   | dsimp only [cond_true, cond_false]
  refine rz trivial ?_
  exact ⟨rfl, Ext0.ext⟩
 obtain ⟨a, b, rfl, rfl, ok⟩ := ok_of h0
 haveI : Side a := ⟨ok.wa⟩
 haveI : Side b := ⟨ok.hb⟩
 have e1 : checkS ⟨a, b, l⟩ ls = bif fitsB a b ls then 0 else 10 := by simp only [checkS, h0, cond_true, Int.toNat_natCast]
 cases hf : fitsB a b ls
 ·rw [e1, hf]
  repeat first
   | refine mI ?_
   | (refine Fo.ldN rfl rfl (by simp only [↓nrmL, nrmZ, Nat.reduceEqDiff, ↓reduceIte, Nat.reduceAdd, Int.reduceBEq, Int.reduceBNe, h0, bne]; rfl) ?_)
   | (refine bn rfl rfl rfl (by simp only [h0, bne]; rfl) ?_)
   | (refine Fo.pcall (v' := ?_) hn rfl (by simp only [↓nrmL, nrmZ, Nat.reduceEqDiff, ↓reduceIte, Nat.reduceAdd, Int.reduceBEq, Int.reduceBNe, h0, bne, List.map]; rfl) rfl ?hv fun _ _ => ?_; case hv => rfl)
   | refine bA ?_
   | refine Fo.now rfl rfl rfl ?_
   | refine nl hKF ?_
   | refine sq ?_
   | refine rg fun KF hKF => ?_
   | refine cf rfl ?_
   | refine sk ?_
   | dsimp only [cond_true, cond_false]
  rename AHeap => H1
  haveI : LinesI H1 q ls := hq.ext Ext0.ext
  simp only [hf]
  refine ct rfl ?_
  refine sq ?_
  refine rg fun KF hKF => ?_
  refine mI ?_
  refine nl hKF ?_
  refine rt ?_
  dsimp only [cond_true, cond_false]
  refine rz trivial ?_
  exact ⟨rfl, Ext0.ext⟩
 ·rw [e1, hf]
  repeat first
   | refine mI ?_
   | (refine Fo.ldN rfl rfl (by simp only [↓nrmL, nrmZ, Nat.reduceEqDiff, ↓reduceIte, Nat.reduceAdd, Int.reduceBEq, Int.reduceBNe, h0, bne]; rfl) ?_)
   | (refine bn rfl rfl rfl (by simp only [h0, bne]; rfl) ?_)
   | (refine Fo.pcall (v' := ?_) hn rfl (by simp only [↓nrmL, nrmZ, Nat.reduceEqDiff, ↓reduceIte, Nat.reduceAdd, Int.reduceBEq, Int.reduceBNe, h0, bne, List.map]; rfl) rfl ?hv fun _ _ => ?_; case hv => rfl)
   | refine bA ?_
   | refine Fo.now rfl rfl rfl ?_
   | refine nl hKF ?_
   | refine sq ?_
   | refine rg fun KF hKF => ?_
   | refine cf rfl ?_
   | refine sk ?_
   | dsimp only [cond_true, cond_false]
  rename AHeap => H1
  haveI : LinesI H1 q ls := hq.ext Ext0.ext
  simp only [hf]
  refine cf rfl ?_
  refine sk ?_
  refine sq ?_
  refine rg fun KF hKF => ?_
  refine mI ?_
  refine nl hKF ?_
  refine rt ?_
  dsimp only [cond_true, cond_false]
  refine rz trivial ?_
  exact ⟨rfl, Ext0.ext⟩⟩
def loN (m : List Int) (up x : Nat) : Nat := (m.getD x 0).toNat - up
theorem K_common {a b h up : Nat} {m : List Int} {r r6 r7 r5 r4 : Nat} {p6 q4 sp ip : AVal} {ps : List AVal} {e6 e7 e5 e4 : TypeId} {w6 w7 w5 w4 : Bool} {J : Nat → Nat → AHeap → Prop} {H : AHeap} {D : Nat} (ha : a ≤ 640) (hb : b ≤ 640) (hh : h ≤ 640) (hu : up ≤ 640) (hm : pathB a b m = true) (hps : ps[4]? = some q4)
  (hrow : ∀ x y H, J x y H → HasRow H r6 [p6] w6 e6 ∧ SliceAt H p6 1 5 ps ∧ IntsI H q4 m ∧ HasRow H r7 [.int .i64 up] w7 e7 ∧ HasRow H r5 [.int .i64 a, .int .i64 h, sp] w5 e5 ∧ HasRow H r4 [.int .i64 a, .int .i64 b, ip] w4 e4)
  (hnext : ∀ x y H, x < a → loN m up x ≤ y → (y < b → (m.getD x 0).toNat + h ≤ y + up) → J x y H → J (x + 1) (loN m up (x + 1)) H)
  (hy : ∀ x y H, x < a → loN m up x ≤ y → y < b → (m.getD x 0).toNat ≤ y + up → y + up < (m.getD x 0).toNat + h → J x y H → ∀ n, fuel0 + D ≤ n → ∃ H', callN ext prog n yieldId [.yield r, .int .i64 ((y * a + x : Nat) : Int), .int .i64 (((y + up - (m.getD x 0).toNat) * a + x : Nat) : Int)] H = some (.bool true, H') ∧ J x (y + 1) H')
  (hJ : J 0 (loN m up 0) H) : Con ext prog (D + 3) 105 [.yield r, .ptr r6 0, .ptr r7 0, .ptr r5 0, .ptr r4 0] H fun _ H' => J a (loN m up a) H' := by
 refine con_of (show prog 105 = some c105 from rfl) rfl rfl fun n hn => ?_
 obtain ⟨hml, ha0⟩ := pathB_len hm
 obtain ⟨k6, ks, kq, k7, k5, k4⟩ := hrow _ _ _ hJ
 haveI := ks.one
 haveI := kq.one
 refine sq ?_
 refine rg fun KF hKF => ?_
 refine fd ?_
 refine Fo.ld rfl rfl ?_
 refine Fo.idx (by simp only [↓nrmL, nrmK, Nat.reduceEqDiff, ↓reduceIte]; rfl) rfl ?_ (by simp only [↓nrmL, nrmZ, Nat.reduceEqDiff, ↓reduceIte, Nat.reduceAdd, Int.reduceBEq, Int.reduceBNe]; rfl) ?_; (focus omega)
 refine Fo.now rfl (exec_ldP (p := p6) (j := 4) rfl hps) rfl ?_
 refine ln (by simp only [↓nrmL, nrmK, Nat.reduceEqDiff, ↓reduceIte]; rfl) ?_
 refine mI ?_
 refine nl hKF ?_
 refine Wp.block ?_
 dsimp only [cond_true, cond_false]
 refine Wp.loopS [6, 7, 8, 9, 15, 16, 17, 18, 19, 20, 21, 22, 23, 24, 25, 26, 27, 28, 29, 30, 31, 32, 33, 34, 35, 36, 37, 38, 39, 40, 41, 42, 43, 44, 45, 46, 47, 48, 49, 50, 51, 52, 53] (fun x : Nat => [(15, .int .i64 x)]) (fun _ x H2 => x ≤ a ∧ J x (loN m up x) H2) (fun x => a - x) 0 rfl (fun _ => rfl) ⟨rfl, trivial⟩ ⟨Nat.zero_le _, hJ⟩ (by unfold fuel0 at hn; omega) ?_
 rintro x g H2 ⟨hxa, hJ2⟩
 obtain ⟨k6, ks, kq, k7, k5, k4⟩ := hrow _ _ _ hJ2
 simp only [↓nrmL, nrmZ, Nat.reduceEqDiff, ↓reduceIte, Nat.reduceAdd, Int.reduceBEq, Int.reduceBNe]
 cases hc : decide ((x : Int) < ((m.length : Nat) : Int))
 ·have hxe : x = a := by have := of_decide_eq_false hc; omega
  refine sq ?_
  refine rg fun KF hKF => ?_
  refine bn rfl rfl rfl (by simp only [hc]; rfl) ?_
  refine nl hKF ?_
  refine sq ?_
  refine cf rfl ?_
  refine xi ?_
  dsimp only [cond_true, cond_false]
  refine rz trivial ?_
  exact hxe ▸ hJ2
 have hxl : x < m.length := by have := of_decide_eq_true hc; omega
 have hx : x < a := by omega
 have hw1 := wa1 (a := x) (by omega)
 obtain ⟨hm0, hmb⟩ := pathB_range hm hxl
 obtain ⟨mx, hmx⟩ : ∃ k : Nat, m[x] = (k : Int) := ⟨m[x].toNat, by omega⟩
 have hgx : (m.getD x 0).toNat = mx := by rw [getD_at hxl, hmx]; rfl
 have hlo : loN m up x = mx - up := by rw [loN, hgx]
 have hsub : IntKind.i64.wrap ((mx : Int) - (up : Int)) = (mx : Int) - (up : Int) := w64 (by omega)
 have hadd : IntKind.i64.wrap ((mx : Int) - (up : Int) + (h : Int)) = (mx : Int) - (up : Int) + (h : Int) := w64 (by omega)
 have hmax : (if (0 : Int) > (mx : Int) - (up : Int) then (0 : Int) else (mx : Int) - (up : Int)) = ((loN m up x : Nat) : Int) := by rw [hlo]; split <;> omega
 repeat first
  | refine mI ?_
  | refine Fo.ld rfl rfl ?_
  | (refine bn rfl rfl rfl (by simp only [hc, hmx, hsub, hmax]; rfl) ?_)
  | (refine Fo.idx (by simp only [↓nrmL, nrmK, Nat.reduceEqDiff, ↓reduceIte]; rfl) rfl ?_ (by simp only [↓nrmL, nrmZ, Nat.reduceEqDiff, ↓reduceIte, Nat.reduceAdd, Int.reduceBEq, Int.reduceBNe, hc, hmx, hsub, hmax]; rfl) ?_; (focus omega))
  | (refine Fo.ldI rfl ?_ (by simp only [hc, hmx, hsub, hmax]; rfl) ?_; (focus omega))
  | (refine Fo.now rfl rfl (by simp only [hc, hmx, hsub, hmax]; rfl) ?_)
  | refine nl hKF ?_
  | refine sq ?_
  | refine rg fun KF hKF => ?_
  | refine ct rfl ?_
  | refine sk ?_
  | refine Wp.block ?_
  | dsimp only [cond_true, cond_false]
 refine Wp.loopS [9, 25, 26, 27, 28, 29, 30, 31, 32, 33, 34, 35, 36, 37, 38, 39, 40, 41, 42, 43, 44, 45, 46, 47, 48, 49, 50, 51, 52] (fun y : Nat => [(9, .int .i64 y)]) (fun _ y H3 => loN m up x ≤ y ∧ y ≤ 2000 ∧ J x y H3) (fun y => 2000 - y) (loN m up x) rfl (fun _ => rfl) ⟨rfl, trivial⟩ ⟨Nat.le_refl _, by omega, hJ2⟩ (by unfold fuel0 at hn; omega) ?_
 rintro y g2 H3 ⟨hyl, hyb, hJ3⟩
 obtain ⟨k6, ks, kq, k7, k5, k4⟩ := hrow _ _ _ hJ3
 simp only [↓nrmL, nrmZ, Nat.reduceEqDiff, ↓reduceIte, Nat.reduceAdd, Int.reduceBEq, Int.reduceBNe]
 obtain ⟨z, hz⟩ : ∃ z : Int, (if (b : Int) < (mx : Int) - (up : Int) + (h : Int) then (b : Int) else (mx : Int) - (up : Int) + (h : Int)) = z := ⟨_, rfl⟩
 cases hc2 : decide ((y : Int) < z)
 ·skip
  repeat first
   | refine mI ?_
   | refine fd ?_
   | refine Fo.ld rfl rfl ?_
   | (refine bn rfl rfl rfl (by simp only [hadd, Bool.false_eq_true, if_false, hz, hc2]; rfl) ?_)
   | refine b0 ?_
   | (refine Fo.now rfl rfl (by simp only [hadd, Bool.false_eq_true, if_false, hz, hc2]; rfl) ?_)
   | refine nl hKF ?_
   | refine sq ?_
   | refine rg fun KF hKF => ?_
   | refine cf rfl ?_
   | refine xi ?_
   | dsimp only [cond_true, cond_false]
  refine ⟨x + 1, by omega, ⟨by simp only [↓nrmL, nrmZ, Nat.reduceEqDiff, ↓reduceIte, Nat.reduceAdd, Int.reduceBEq, Int.reduceBNe]; rw [hw1], trivial⟩, by omega, hnext x y H3 hx hyl (fun hyb2 => ?_) hJ3⟩
  have := of_decide_eq_false hc2
  rw [hgx]
  split at hz <;> omega
 have hlt := of_decide_eq_true hc2
 have hy1 : y < b := by split at hz <;> omega
 have hy2 : y + up < mx + h := by split at hz <;> omega
 have hy0 : mx ≤ y + up := by omega
 have hlt1 := idx_lt hx hy1
 have hm1 : a * b ≤ 640 * 640 := Nat.mul_le_mul ha hb
 have hm2 : a * h ≤ 640 * 640 := Nat.mul_le_mul ha hh
 have hlt2 : (y + up - mx) * a + x < a * h := idx_lt hx (by omega)
 have m1 : IntKind.i64.wrap ((y : Int) * (a : Int)) = ((y * a : Nat) : Int) := wm (by omega)
 have m2 : IntKind.i64.wrap (((y * a : Nat) : Int) + (x : Int)) = ((y * a + x : Nat) : Int) := wa (by omega)
 have m3 : IntKind.i64.wrap ((y : Int) - ((mx : Int) - (up : Int))) = ((y + up - mx : Nat) : Int) := by rw [w64 (by omega)]; omega
 have m4 : IntKind.i64.wrap (((y + up - mx : Nat) : Int) * (a : Int)) = (((y + up - mx) * a : Nat) : Int) := wm (by omega)
 have m5 : IntKind.i64.wrap ((((y + up - mx) * a : Nat) : Int) + (x : Int)) = (((y + up - mx) * a + x : Nat) : Int) := wa (by omega)
 obtain ⟨H4, y1, hJ4⟩ := hy x y H3 hx hyl hy1 (by omega) (by omega) hJ3 n (by omega)
 rw [hgx] at y1
 have hw2 := wa1 (a := y) (by omega)
 repeat first
  | refine mI ?_
  | (refine mv ?_)
  | refine fd ?_
  | refine Fo.ld rfl rfl ?_
  | (refine bn rfl rfl rfl (by simp only [hadd, Bool.false_eq_true, if_false, hz, hc2, m1, m2, m3, m4, m5]; rfl) ?_)
  | (refine Fo.now rfl rfl (by simp only [hadd, Bool.false_eq_true, if_false, hz, hc2, m1, m2, m3, m4, m5]; rfl) ?_)
  | refine nl hKF ?_
  | refine sq ?_
  | refine rg fun KF hKF => ?_
  | refine ct rfl ?_
  | refine sk ?_
  | refine Wp.block ?_
 refine WpO.do (WpX.yield rfl (by simp only [↓nrmL, nrmZ, Nat.reduceEqDiff, ↓reduceIte, Nat.reduceAdd, Int.reduceBEq, Int.reduceBNe, List.map] <;> rfl) ⟨_, _, y1, ?_⟩)
 refine Fo.now rfl rfl (by simp only [↓nrmL, nrmZ, Nat.reduceEqDiff, ↓reduceIte, Nat.reduceAdd, Int.reduceBEq, Int.reduceBNe]; rfl) ?_
 refine nl hKF ?_
 refine cf rfl ?_
 refine sk ?_
 refine rg fun KF hKF => ?_
 refine mI ?_
 refine b0 ?_
 refine mI ?_
 refine nl hKF ?_
 dsimp only [cond_true, cond_false]
 refine ⟨y + 1, by omega, ⟨by simp only [↓nrmL, nrmZ, Nat.reduceEqDiff, ↓reduceIte, Nat.reduceAdd, Int.reduceBEq, Int.reduceBNe]; rw [hw2], trivial⟩, by omega, by omega, hJ4⟩
theorem K_commonF {q : AVal} {up : Int} {w h w' h' : Int} {p p' : AVal} {H : AHeap} [hp : OneV p] [hp' : OneV p'] [hq : OneV q] : Con ext prog 1 82 [.agg [.int .i64 w, .int .i64 h, p], .agg [.int .i64 w', .int .i64 h', p'], .agg [q], .int .i64 up] H fun v H' => ∃ r6 r7 r5 r4, v = .func (.func 105) [] [.ptr r6 0, .ptr r7 0, .ptr r5 0, .ptr r4 0] ∧ HasRow H' r6 [q] true (2 * 43) ∧ HasRow H' r7 [.int .i64 up] true (2 * 3) ∧ HasRow H' r5 [.int .i64 w', .int .i64 h', p'] true (2 * 24) ∧ HasRow H' r4 [.int .i64 w, .int .i64 h, p] true (2 * 24) ∧ Ext H H' ∧ H.n ≤ r6 ∧ H.n ≤ r7 ∧ H.n ≤ r5 ∧ H.n ≤ r4 := by
 refine con_of (show prog 82 = some c82 from rfl) rfl rfl fun n hn => ?_
 repeat first
  | refine mF ?_
  | (refine mv ?_)
  | refine bA ?_
  | refine Fo.box1 (rfl : _ = AVal.int _ _) ?_
  | refine Fo.now rfl rfl rfl ?_
  | refine nl hKF ?_
  | refine sq ?_
  | refine rg fun KF hKF => ?_
  | refine rt ?_
  | dsimp only [cond_true, cond_false]
 refine rz trivial ?_
 refine ⟨_, _, _, _, rfl, inferInstance, inferInstance, inferInstance, inferInstance, Ext0.ext, ?_, ?_, ?_, ?_⟩ <;> first | exact Nat.le_refl _ | (simp only [AHeap.push]; omega)
end Go.Am

namespace Go.Am
open Go
attribute [local irreducible] Wp WpO WpX WpE
def mixP (P : Nat → Bool) (f g : Nat → UInt8) (n : Nat) : List UInt8 := (List.range n).map fun k => if P k = true then f k else g k
theorem mixP_length (P : Nat → Bool) (f g : Nat → UInt8) (n : Nat) : (mixP P f g n).length = n := by simp [mixP]
theorem mixP_congr {P Q : Nat → Bool} {f g : Nat → UInt8} {n : Nat} (h : ∀ k, k < n → (Q k = true ↔ P k = true) ∨ f k = g k) : mixP P f g n = mixP Q f g n := by
 unfold mixP
 apply List.map_congr_left
 intro k hk
 have hk := List.mem_range.1 hk
 rcases h k hk with h1 | h1
 ·by_cases hp : P k = true
  ·rw [if_pos hp, if_pos (h1.2 hp)]
  ·rw [if_neg hp, if_neg (fun q => hp (h1.1 q))]
 ·split <;> split <;> simp_all
theorem mixP_set {P Q : Nat → Bool} {f g : Nat → UInt8} {n j : Nat} (h : ∀ k, k < n → (Q k = true ↔ P k = true ∨ k = j)) : (mixP P f g n).set j (f j) = mixP Q f g n := by
 apply List.ext_getElem
 ·simp [mixP]
 ·intro k h1 h2
  have hk : k < n := by simpa [mixP] using h2
  have := h k hk
  rw [List.getElem_set]
  simp only [mixP, List.getElem_map, List.getElem_range]
  by_cases e : j = k
  ·subst e
   rw [if_pos rfl, if_pos (this.2 (Or.inr rfl))]
  ·rw [if_neg e]
   by_cases hp : P k = true
   ·rw [if_pos hp, if_pos (this.2 (Or.inl hp))]
   ·rw [if_neg hp, if_neg (fun q => by rcases this.1 q with h3 | h3; exact hp h3; exact e h3.symm)]
structure JS (Hb : AHeap) (r : Nat) (R0 : RLoop) (q : AVal) (L : List UInt8) (H : AHeap) : Prop where
 n : Hb.n ≤ H.n
 get : ∀ s, s < Hb.n → RowNe q s → H.get s = Hb.get s
 px : BytesI H q L
 wr : WrS H q
 loop : HasLoop H r R0
theorem JS.row {Hb H : AHeap} {r s : Nat} {R0 : RLoop} {q : AVal} {L : List UInt8} {cs : List AVal} {rw : Bool} {e : TypeId} (h : JS Hb r R0 q L H) (k : HasRow Hb s cs rw e) (hne : RowNe q s) : HasRow H s cs rw e := ⟨Nat.lt_of_lt_of_le k.lt h.n, by rw [h.get s k.lt hne]; exact k.get⟩
theorem JS.slice {Hb H : AHeap} {r : Nat} {R0 : RLoop} {q p : AVal} {L : List UInt8} {sz n : Nat} {cs : List AVal} (h : JS Hb r R0 q L H) (k : SliceAt Hb p sz n cs) (hne : SepS p q) : SliceAt H p sz n cs := k.keep h.n fun s _ _ _ _ e hs => h.get s hs ⟨fun r' _ _ _ _ e' hh => hne.ne _ _ _ _ _ _ _ _ _ _ e e' hh.symm⟩
theorem JS.ext {Hh Hb H : AHeap} {r : Nat} {R0 : RLoop} {q : AVal} {L : List UInt8} (h : JS Hb r R0 q L H) (x : Ext Hh Hb) (f : FreshS Hh q) : Ext Hh H := ⟨Nat.le_trans x.n h.n, fun s hs => by have := x.n; rw [h.get s (by omega) ⟨fun r' _ _ _ _ e => by have := f.ge _ _ _ _ _ e; omega⟩, x.get s hs]⟩
theorem JS.start {Hb : AHeap} {R0 : RLoop} {q : AVal} {L : List UInt8} (k : BytesI Hb q L) (w : WrS Hb q) : JS Hb (Hb.n + 1) R0 q L ((Hb.push .dead).push (.loop R0)) := by
 haveI := k
 haveI := w
 refine ⟨by simp only [AHeap.push]; omega, fun s hs _ => ?_, inferInstance, inferInstance, (inferInstance : HasLoop ((Hb.push .dead).push (.loop R0)) (Hb.push .dead).n R0)⟩
 rw [push_get_lt (by simp only [AHeap.push]; omega), push_get_lt hs]
theorem px_ne {H : AHeap} {q : AVal} {r : Nat} {L : List UInt8} {R0 : RLoop} (k : BytesI H q L) (hl : HasLoop H r R0) : RowNe q r := ⟨fun r' off len cap sz e => by
 rcases k.it with ⟨rfl, _⟩ | ⟨r2, off2, cap2, row, rw2, e2, rfl, h2, h3, _⟩
 ·cases e
 ·cases e
  intro e; subst e
  have := hl.get
  rw [h3] at this; cases this⟩
def rctF (l : List UInt8) (a b : Nat) (m : List Int) (up k : Nat) : UInt8 := if up ≤ (m.getD (k % a) 0).toNat + k / a ∧ (m.getD (k % a) 0).toNat + k / a < up + b then l.getD (((m.getD (k % a) 0).toNat + k / a - up) * a + k % a) 0 else 0
def rctL (l : List UInt8) (a b : Nat) (m : List Int) (up h : Nat) : List UInt8 := (List.range (a * h)).map (rctF l a b m up)
def rctP (a : Nat) (m : List Int) (up x y k : Nat) : Bool := decide (k % a < x) || (decide (k % a = x) && decide ((m.getD x 0).toNat + k / a < y + up))
theorem rct_at {a x y : Nat} (hx : x < a) : (y * a + x) % a = x ∧ (y * a + x) / a = y := by
 constructor
 ·rw [Nat.mul_comm, Nat.mul_add_mod]; exact Nat.mod_eq_of_lt hx
 ·rw [Nat.mul_comm, Nat.mul_add_div (by omega), Nat.div_eq_of_lt hx, Nat.add_zero]
theorem div_inj {a j k : Nat} (h1 : j % a = k % a) (h2 : j / a = k / a) : j = k := by
 have := Nat.div_add_mod j a
 have := Nat.div_add_mod k a
 rw [h1, h2] at *; omega
theorem rctP_next {a up x y : Nat} {m : List Int} (hx : x < a) (hy : (m.getD x 0).toNat ≤ y + up) (k : Nat) : rctP a m up x (y + 1) k = true ↔ rctP a m up x y k = true ∨ k = (y + up - (m.getD x 0).toNat) * a + x := by
 simp only [rctP, Bool.or_eq_true, Bool.and_eq_true, decide_eq_true_eq]
 obtain ⟨e1, e2⟩ := rct_at (y := y + up - (m.getD x 0).toNat) hx
 constructor
 ·rintro (h | ⟨h, h2⟩)
  ·exact Or.inl (Or.inl h)
  ·by_cases h3 : (m.getD x 0).toNat + k / a < y + up
   ·exact Or.inl (Or.inr ⟨h, h3⟩)
   ·exact Or.inr (div_inj (a := a) (by rw [e1, h]) (by rw [e2]; omega))
 ·rintro ((h | ⟨h, h2⟩) | h)
  ·exact Or.inl h
  ·exact Or.inr ⟨h, by omega⟩
  ·subst h
   exact Or.inr ⟨e1, by rw [e2]; omega⟩
theorem rctP_col {a b h up x y : Nat} {l : List UInt8} {m : List Int} (hx : x < a) (hy : y < b → (m.getD x 0).toNat + h ≤ y + up) (hl : loN m up x ≤ y) {k : Nat} (hk : k < a * h) : (rctP a m up (x + 1) (loN m up (x + 1)) k = true ↔ rctP a m up x y k = true) ∨ rctF l a b m up k = 0 := by
 have hkh : k / a < h := Nat.div_lt_of_lt_mul hk
 simp only [rctP, Bool.or_eq_true, Bool.and_eq_true, decide_eq_true_eq]
 by_cases h1 : k % a < x
 ·exact Or.inl ⟨fun _ => Or.inl h1, fun _ => Or.inl (by omega)⟩
 by_cases h2 : k % a = x
 ·by_cases h3 : (m.getD x 0).toNat + k / a < y + up
  ·exact Or.inl ⟨fun _ => Or.inr ⟨h2, h3⟩, fun _ => Or.inl (by omega)⟩
  ·right
   rw [rctF, h2, if_neg]
   intro h4
   by_cases h5 : y < b
   ·have := hy h5; omega
   ·omega
 ·by_cases h3 : k % a = x + 1
  ·by_cases h4 : (m.getD (x + 1) 0).toNat + k / a < loN m up (x + 1) + up
   ·right
    rw [rctF, h3, if_neg]
    intro h5
    unfold loN at h4
    have := Nat.zero_le (k / a)
    omega
   ·left
    constructor
    ·rintro (h5 | ⟨_, h5⟩)
     ·omega
     ·exact absurd h5 h4
    ·rintro (h5 | ⟨h5, _⟩)
     ·exact absurd h5 h1
     ·exact absurd h5 h2
  ·left
   constructor
   ·rintro (h5 | ⟨h5, _⟩)
    ·omega
    ·exact absurd h5 h3
   ·rintro (h5 | ⟨h5, _⟩)
    ·exact absurd h5 h1
    ·exact absurd h5 h2
theorem rctP_first {a b up : Nat} {l : List UInt8} {m : List Int} {k : Nat} : (rctP a m up 0 (loN m up 0) k = true ↔ false = true) ∨ rctF l a b m up k = 0 := by
 by_cases h : rctP a m up 0 (loN m up 0) k = true
 ·right
  simp only [rctP, Bool.or_eq_true, Bool.and_eq_true, decide_eq_true_eq] at h
  rcases h with h | ⟨h, h2⟩
  ·omega
  ·rw [rctF, h, if_neg]
   intro h3
   unfold loN at h2
   have := Nat.zero_le (k / a)
   omega
 ·left
  exact ⟨fun q => absurd q h, fun q => by cases q⟩
theorem rct_start {a b up n : Nat} {l : List UInt8} {m : List Int} : List.replicate n (0 : UInt8) = mixP (rctP a m up 0 (loN m up 0)) (rctF l a b m up) (fun _ => 0) n := by
 rw [mixP_congr (Q := fun _ => false) fun k _ => by rcases rctP_first (a := a) (b := b) (up := up) (l := l) (m := m) (k := k) with h | h; exact Or.inl ⟨fun q => (h.2 q), fun q => h.1 q⟩; exact Or.inr h]
 apply List.ext_getElem <;> simp [mixP]
theorem rct_end {a b h up : Nat} {l : List UInt8} {m : List Int} (ha : 0 < a) {y : Nat} : mixP (rctP a m up a y) (rctF l a b m up) (fun _ => 0) (a * h) = rctL l a b m up h := by
 unfold mixP rctL
 apply List.map_congr_left
 intro k _
 rw [if_pos]
 simp only [rctP, Bool.or_eq_true, decide_eq_true_eq]
 exact Or.inl (Nat.mod_lt _ ha)
end Go.Am

namespace Go.Am
open Go
attribute [local irreducible] Wp WpO WpX WpE
theorem exec_fa {call : ACall} {fr : AFrame} {H : AHeap} {x : ROpd} {r o off : Nat} (hx : x.ev fr = .ptr r o) : (ROp.fieldAddr off x).exec call fr H = some (.ptr r (o + off), H) := by simp only [ROp.exec, hx, aFieldAddr, M.ofOption, M.pure]
abbrev recA : RCode := .seq (.region [⟨(some 13), .mov (.tmp 50), none⟩]) (.region [⟨(some 14), .mov (.tmp 51), none⟩])
abbrev recB : RCode := .block 1 (.dregion [⟨⟨(some 52), .fieldAddr 2 (.tmp 11), none⟩, 0, 0, true⟩,
   ⟨⟨(some 53), .load none (.tmp 52), none⟩, 1, 1, true⟩,
   ⟨⟨(some 54), .mov (.tmp 14), none⟩, 0, 0, true⟩,
   ⟨⟨(some 55), .fieldAddr 2 (.tmp 4), none⟩, 0, 0, true⟩,
   ⟨⟨(some 56), .load none (.tmp 55), none⟩, 8, 1, true⟩,
   ⟨⟨(some 57), .mov (.tmp 13), none⟩, 0, 0, true⟩,
   ⟨⟨(some 58), .idxS 1 (.tmp 56) (.tmp 57), none⟩, 56, 0, true⟩,
   ⟨⟨(some 59), .load none (.tmp 58), none⟩, 120, 1, true⟩,
   ⟨⟨(some 60), .idxS 1 (.tmp 53) (.tmp 54), none⟩, 255, 0, true⟩,
   ⟨⟨none, .store 1 (.tmp 60) (.tmp 59), none⟩, 511, 2, false⟩])
abbrev recR (d : Nat) (fr : AFrame) : RLoop := ⟨d, 62, fr, [50, 51], recA, recB, 0, .normal⟩
theorem round_rect {Hb H : AHeap} {r11 r4 r d n i j : Nat} {fr : AFrame} {q p : AVal} {L l : List UInt8} {u v w s : Int} {e11 e4 : TypeId} {w11 w4 : Bool} (h11 : fr 11 = .ptr r11 0) (h4 : fr 4 = .ptr r4 0) (k11 : HasRow H r11 [.int .i64 u, .int .i64 v, q] w11 e11) (k4 : HasRow H r4 [.int .i64 w, .int .i64 s, p] w4 e4) (kp : BytesI H p l) (n11 : RowNe q r11) (n4 : RowNe q r4) (hpq : SepS p q) (hr : Hb.n ≤ r) (hJ : JS Hb r (recR d fr) q L H) (hi : i < l.length) (hj : j < L.length) (hn : fuel0 + 1 ≤ n) :
  ∃ H', callN ext prog n yieldId [.yield r, .int .i64 (i : Int), .int .i64 (j : Int)] H = some (.bool true, H') ∧ JS Hb r (recR d fr) q (L.set j l[i]) H' := by
 obtain ⟨k, rfl⟩ : ∃ k, n = k + 1 := ⟨n - 1, by omega⟩
 haveI := hJ.loop
 haveI := hJ.px
 haveI := hJ.wr
 haveI : RowNe q r := px_ne hJ.px hJ.loop
 haveI : RowNe p r := px_ne kp hJ.loop
 haveI : NeR r11 r := ⟨fun e => by have := k11.get; have h2 := hJ.loop.get; rw [e, h2] at this; cases this⟩
 haveI : NeR r4 r := ⟨fun e => by have := k4.get; have h2 := hJ.loop.get; rw [e, h2] at this; cases this⟩
 haveI := kp.one
 haveI := hJ.px.one
 refine round_next (R := recR d fr) rfl hJ.loop rfl rfl rfl ?_
 show Wp (callN ext prog k) k recA (upd (upd fr 50 (.int .i64 (i : Int))) 51 (.int .i64 (j : Int))) H _
 simp only [h11, h4]
 repeat first
  | refine mI ?_
  | refine nl hKF ?_
  | refine sq ?_
  | refine rg fun KF hKF => ?_
 refine ⟨rfl, inferInstance, ?_⟩
 show Wp (callN ext prog k) k recB _ _ _
 refine Wp.block ?_
 refine Fr.dregion0 rfl fun KF hKF => ?_
 refine Fe.pure rfl (exec_fa h11) rfl ?_
 refine Er rfl (exec_ld rfl rfl) rfl ?_
 refine Fe.pure rfl rfl (by simp only [↓nrmL, nrmZ, Nat.reduceEqDiff, ↓reduceIte, Nat.reduceAdd, Int.reduceBEq, Int.reduceBNe]; rfl) ?_
 refine Fe.pure rfl (exec_fa h4) rfl ?_
 repeat first
  | (refine Er rfl (exec_ld rfl rfl) rfl ?_)
  | (refine Fe.pure rfl rfl (by simp only [↓nrmL, nrmZ, Nat.reduceEqDiff, ↓reduceIte, Nat.reduceAdd, Int.reduceBEq, Int.reduceBNe]; rfl) ?_)
  | (refine Fe.pure rfl (exec_idxP (by (try simp only [↓nrmL, nrmZ, Nat.reduceEqDiff, ↓reduceIte, Nat.reduceAdd, Int.reduceBEq, Int.reduceBNe]); rfl) rfl ?_) (by simp only [↓nrmL, nrmZ, Nat.reduceEqDiff, ↓reduceIte, Nat.reduceAdd, Int.reduceBEq, Int.reduceBNe]; rfl) ?_; (focus omega))
  | (refine Er rfl (exec_ldB rfl (by omega)) rfl ?_)
 refine WpE.stB (l[i]) rfl rfl rfl rfl hj fun H8 hb8 hw8 hx8 => ar ?_
 refine WpE.nil (hKF _ _ ?_)
 dsimp only [cond_true, cond_false]
 have hn1 := hJ.n
 have hn8 := hx8.n
 refine ⟨rfl, inferInstance, ⟨by simp only [AHeap.set] at hn8 ⊢; omega, fun s hs hne => ?_, inferInstance, inferInstance, inferInstance⟩⟩
 have hsr : s ≠ r := by omega
 rw [set_get_ne hsr, hx8.get s (by simp only [AHeap.set]; omega) hne, set_get_ne hsr]
 exact hJ.get s hs hne
def rectS (g : Img) (ls : List (List Int)) (up down : Int) : Img × Int :=
 bif checkS g ls == 0 then (bif decide (up < 0) || decide (down < 0) then (.zero, 1) else (bif decide (up + down + 1 ≤ 640) then (⟨g.w, up + down + 1, rctL g.px g.w.toNat g.h.toNat (ls.getD 4 []) up.toNat (up + down + 1).toNat⟩, 0) else (.zero, 2))) else (.zero, checkS g ls)
theorem checkS_ok {w h : Int} {l : List UInt8} {ls : List (List Int)} (h0 : (checkS ⟨w, h, l⟩ ls == 0) = true) : ∃ a b : Nat, w = a ∧ h = b ∧ Ok a b l ∧ fitsB a b ls = true := by
 unfold checkS at h0
 cases h1 : (Img.err ⟨w, h, l⟩ == 0)
 ·rw [h1, cond_false] at h0
  rw [h1] at h0; cases h0
 ·obtain ⟨a, b, rfl, rfl, ok⟩ := ok_of h1
  rw [h1, cond_true] at h0
  refine ⟨a, b, rfl, rfl, ok, ?_⟩
  simp only [Int.toNat_natCast] at h0
  cases hf : fitsB a b ls with
  | true => rfl
  | false => rw [hf] at h0; cases h0
theorem K_Rectify {w h up down : Int} {p q : AVal} {H : AHeap} {l : List UInt8} {ls : List (List Int)} [hp : BytesI H p l] [hq : LinesI H q ls] : Con ext prog 9 36 [.agg [.int .i64 w, .int .i64 h, p], .agg [q], .int .i64 up, .int .i64 down] H fun v H' => InkRes H H' v (rectS ⟨w, h, l⟩ ls up down) := by
 refine con_ofR (show prog 36 = some c36 from rfl) rfl rfl fun n hn => ?_
 obtain ⟨ps, hps, hrw⟩ := hq.it
 haveI := hp.one
 haveI := hps.one
 obtain ⟨R, hR⟩ : ∃ R, rectS ⟨w, h, l⟩ ls up down = R := ⟨_, rfl⟩
 rw [hR]
 cases h0 : (checkS ⟨w, h, l⟩ ls == 0)
 ·have e1 : rectS ⟨w, h, l⟩ ls up down = (.zero, checkS ⟨w, h, l⟩ ls) := by simp only [rectS, h0, cond_false]
  rw [e1] at hR
  subst hR
  simp only [h0, bne]
  repeat first
   | refine mI ?_
   | (refine Fo.ldN rfl rfl (by simp only [↓nrmL, nrmZ, Nat.reduceEqDiff, ↓reduceIte, Nat.reduceAdd, Int.reduceBEq, Int.reduceBNe, h0, bne]; rfl) ?_)
   | (refine bn rfl rfl rfl (by simp only [h0, bne]; rfl) ?_)
   | (refine Fo.pcall (v' := ?_) hn rfl (by simp only [↓nrmL, nrmZ, Nat.reduceEqDiff, ↓reduceIte, Nat.reduceAdd, Int.reduceBEq, Int.reduceBNe, h0, bne, List.map]; rfl) rfl ?hv fun _ _ => ?_; case hv => rfl)
   | refine bA ?_
   | refine nw ?_
   | (refine ob (cs' := ?_) ?hc ?_; case hc => rfl)
   | (refine so rfl (rfl : _ = AVal.agg _) rfl rfl rfl (by simp only [↓nrmL, nrmZ, Nat.reduceEqDiff, ↓reduceIte, Nat.reduceAdd, Int.reduceBEq, Int.reduceBNe, h0, bne]; rfl) ?_)
   | refine nl hKF ?_
   | refine sq ?_
   | refine rg fun KF hKF => ?_
   | refine ct rfl ?_
   | refine rt ?_
   | dsimp only [cond_true, cond_false]
  exact ⟨trivial, _, rfl, _, getAllC rfl rfl rfl rfl, _, rfl, newZero⟩
 obtain ⟨a, b, rfl, rfl, ok, hfit⟩ := checkS_ok h0
 obtain ⟨hl5, hpaths⟩ := fitsB_iff hfit
 have h4l : 4 < ls.length := by omega
 have hm := hpaths 4 h4l
 obtain ⟨hml, ha0⟩ := pathB_len hm
 obtain ⟨q4, hq4, hI4⟩ := hrw.it 4 h4l
 obtain ⟨m, hmdef⟩ : ∃ m, ls[4] = m := ⟨_, rfl⟩
 rw [hmdef] at hm hml hI4
 haveI := hI4
 have ha := ok.wa
 have hb := ok.hb
 have hlen := ok.len
 cases hu0 : decide (up < 0)
 rotate_left
 ·have e1 : rectS ⟨a, b, l⟩ ls up down = (.zero, 1) := by simp only [rectS, h0, hu0, cond_true, Bool.true_or]
  rw [e1] at hR
  subst hR
  simp only [h0, bne, hu0]
  repeat first
   | refine ox ?_
   | refine mI ?_
   | refine mB ?_
   | (refine Fo.ldN rfl rfl (by simp only [↓nrmL, nrmZ, Nat.reduceEqDiff, ↓reduceIte, Nat.reduceAdd, Int.reduceBEq, Int.reduceBNe, h0, bne, hu0]; rfl) ?_)
   | (refine bn rfl rfl rfl (by simp only [h0, bne, hu0]; rfl) ?_)
   | refine tB ?_
   | (refine Fo.pcall (v' := ?_) hn rfl (by simp only [↓nrmL, nrmZ, Nat.reduceEqDiff, ↓reduceIte, Nat.reduceAdd, Int.reduceBEq, Int.reduceBNe, h0, bne, hu0, List.map]; rfl) rfl ?hv fun _ _ => ?_; case hv => rfl)
   | refine bA ?_
   | refine nw ?_
   | (refine ob (cs' := ?_) ?hc ?_; case hc => rfl)
   | (refine so rfl (rfl : _ = AVal.agg _) rfl rfl rfl (by simp only [↓nrmL, nrmZ, Nat.reduceEqDiff, ↓reduceIte, Nat.reduceAdd, Int.reduceBEq, Int.reduceBNe, h0, bne, hu0]; rfl) ?_)
   | refine nl hKF ?_
   | refine sq ?_
   | refine rg fun KF hKF => ?_
   | refine ct rfl ?_
   | refine cf rfl ?_
   | refine sk ?_
   | refine rt ?_
   | dsimp only [cond_true, cond_false]
  exact ⟨trivial, _, rfl, _, getAllC rfl rfl rfl rfl, _, rfl, newZero⟩
 cases hd0 : decide (down < 0)
 rotate_left
 ·have e1 : rectS ⟨a, b, l⟩ ls up down = (.zero, 1) := by simp only [rectS, h0, hu0, hd0, cond_true, Bool.or_true]
  rw [e1] at hR
  subst hR
  simp only [h0, bne, hu0, hd0]
  repeat first
   | refine oy ?_
   | refine mI ?_
   | refine mB ?_
   | (refine Fo.ldN rfl rfl (by simp only [↓nrmL, nrmZ, Nat.reduceEqDiff, ↓reduceIte, Nat.reduceAdd, Int.reduceBEq, Int.reduceBNe, h0, bne, hu0, hd0]; rfl) ?_)
   | (refine bn rfl rfl rfl (by simp only [h0, bne, hu0, hd0]; rfl) ?_)
   | refine fB ?_
   | (refine Fo.pcall (v' := ?_) hn rfl (by simp only [↓nrmL, nrmZ, Nat.reduceEqDiff, ↓reduceIte, Nat.reduceAdd, Int.reduceBEq, Int.reduceBNe, h0, bne, hu0, hd0, List.map]; rfl) rfl ?hv fun _ _ => ?_; case hv => rfl)
   | refine bA ?_
   | refine nw ?_
   | (refine ob (cs' := ?_) ?hc ?_; case hc => rfl)
   | (refine so rfl (rfl : _ = AVal.agg _) rfl rfl rfl (by simp only [↓nrmL, nrmZ, Nat.reduceEqDiff, ↓reduceIte, Nat.reduceAdd, Int.reduceBEq, Int.reduceBNe, h0, bne, hu0, hd0]; rfl) ?_)
   | refine nl hKF ?_
   | refine sq ?_
   | refine rg fun KF hKF => ?_
   | refine ct rfl ?_
   | refine cf rfl ?_
   | refine sk ?_
   | refine rt ?_
   | dsimp only [cond_true, cond_false]
  exact ⟨trivial, _, rfl, _, getAllC rfl rfl rfl rfl, _, rfl, newZero⟩
 obtain ⟨u, rfl⟩ : ∃ k : Nat, up = k := ⟨up.toNat, by have := of_decide_eq_false hu0; omega⟩
 obtain ⟨d, rfl⟩ : ∃ k : Nat, down = k := ⟨down.toNat, by have := of_decide_eq_false hd0; omega⟩
 obtain ⟨cu, hcu⟩ : ∃ k : Nat, (if (640 : Int) < (u : Int) then (640 : Int) else (u : Int)) = (k : Int) := ⟨min u 640, by split <;> omega⟩
 obtain ⟨cd, hcd⟩ : ∃ k : Nat, (if (640 : Int) < (d : Int) then (640 : Int) else (d : Int)) = (k : Int) := ⟨min d 640, by split <;> omega⟩
 have hcu2 : cu = min u 640 := by split at hcu <;> omega
 have hcd2 : cd = min d 640 := by split at hcd <;> omega
 have m1 : IntKind.i64.wrap ((cu : Int) + (cd : Int)) = ((cu + cd : Nat) : Int) := wa (by omega)
 have m2 := wa1 (a := cu + cd) (by omega)
 have hsa : sideB (a : Int) = true := by unfold sideB; rw [decide_eq_true (by omega), decide_eq_true (by omega)]; rfl
 simp only [h0, bne, hu0, hd0, Bool.false_eq_true, if_false, hcu, hcd, m1, m2]
 repeat first
  | refine oy ?_
  | refine mI ?_
  | refine mB ?_
  | refine fd ?_
  | refine Fo.ld rfl rfl ?_
  | (refine Fo.ldN rfl rfl (by simp only [↓nrmL, nrmZ, Nat.reduceEqDiff, ↓reduceIte, Nat.reduceAdd, Int.reduceBEq, Int.reduceBNe, h0, bne, hu0, hd0, Bool.false_eq_true, if_false, hcu, hcd, m1, m2]; rfl) ?_)
  | (refine bn rfl rfl rfl (by simp only [h0, bne, hu0, hd0, Bool.false_eq_true, if_false, hcu, hcd, m1, m2]; rfl) ?_)
  | refine fB ?_
  | (refine Fo.pcall (v' := ?_) hn rfl (by simp only [↓nrmL, nrmZ, Nat.reduceEqDiff, ↓reduceIte, Nat.reduceAdd, Int.reduceBEq, Int.reduceBNe, h0, bne, hu0, hd0, Bool.false_eq_true, if_false, hcu, hcd, m1, m2, List.map]; rfl) rfl ?hv fun _ _ => ?_; case hv => rfl)
  | refine bA ?_
  | refine nw ?_
  | (refine Fo.now rfl rfl (by simp only [h0, bne, hu0, hd0, Bool.false_eq_true, if_false, hcu, hcd, m1, m2]; rfl) ?_)
  | refine nl hKF ?_
  | refine sq ?_
  | refine rg fun KF hKF => ?_
  | refine cf rfl ?_
  | refine sk ?_
 refine WpO.do (WpX.conD hn rfl rfl (by simp only [↓nrmL, nrmZ, Nat.reduceEqDiff, ↓reduceIte, Nat.reduceAdd, Int.reduceBEq, Int.reduceBNe, List.map] <;> rfl) (K_New (w := a) (h := ((cu + cd + 1 : Nat) : Int))) fun v H6 h5 => ?_)
 cases hq : decide ((u : Int) + (d : Int) + 1 ≤ 640)
 ·have hsf : sideB ((cu + cd + 1 : Nat) : Int) = false := by
   have := of_decide_eq_false hq
   unfold sideB; rw [decide_eq_false (p := ((cu + cd + 1 : Nat) : Int) ≤ 640) (by omega), Bool.and_false]
  rw [hsa, hsf] at h5
  have e1 : rectS ⟨a, b, l⟩ ls u d = (.zero, 2) := by simp only [rectS, h0, hu0, hd0, cond_true, Bool.or_false, cond_false, hq]
  rw [e1] at hR
  subst hR
  obtain ⟨x, e1, q2, e2, hq2, hf2, hw2, hx2⟩ := h5
  subst e1 e2
  haveI : ExtI _ H6 := ⟨hx2⟩
  haveI := hq2.one
  try dsimp only [Bool.and_false, cond_false, Img.zero] at hq2
  simp only [Bool.and_false, cond_false, Img.zero]
  repeat first
   | refine mI ?_
   | refine mT ?_
   | (refine bn rfl rfl rfl (by simp only [↓nrmL, nrmZ, Nat.reduceEqDiff, ↓reduceIte, Nat.reduceAdd, Int.reduceBEq, Int.reduceBNe, Bool.and_false, cond_false, Img.zero]; rfl) ?_)
   | refine xt ?_
   | refine nw ?_
   | (refine ob (cs' := ?_) ?hc ?_; case hc => rfl)
   | (refine so rfl (rfl : _ = AVal.agg _) rfl rfl rfl (by simp only [↓nrmL, nrmZ, Nat.reduceEqDiff, ↓reduceIte, Nat.reduceAdd, Int.reduceBEq, Int.reduceBNe, Bool.and_false, cond_false, Img.zero]; rfl) ?_)
   | refine nl hKF ?_
   | refine sq ?_
   | refine rg fun KF hKF => ?_
   | refine ct rfl ?_
   | refine rt ?_
   | dsimp only [cond_true, cond_false]
  exact ⟨trivial, _, rfl, _, getAllC rfl rfl rfl rfl, _, rfl, newZero⟩
 have hud : u + d + 1 ≤ 640 := by have := of_decide_eq_true hq; omega
 have ecu : cu = u := by omega
 have ecd : cd = d := by omega
 subst ecu ecd
 obtain ⟨c, hc⟩ : ∃ c, cu + cd + 1 = c := ⟨_, rfl⟩
 have hsc : sideB ((c : Nat) : Int) = true := by unfold sideB; rw [decide_eq_true (by omega), decide_eq_true (by omega)]; rfl
 rw [hc, hsa, hsc] at h5
 have e0 : (cu : Int) + (cd : Int) + 1 = (c : Int) := by omega
 rw [e0] at hq
 have e1 : rectS ⟨a, b, l⟩ ls cu cd = (⟨a, c, rctL l a b m cu c⟩, 0) := by
  simp only [rectS, h0, hu0, hd0, cond_true, Bool.or_false, cond_false, hq, e0, Int.toNat_natCast, getDL_at h4l, hmdef]
 rw [e1] at hR
 subst hR
 obtain ⟨x, e1, sp, e2, hsp, hfsp, hwsp, hxsp⟩ := h5
 subst e1 e2
 simp only [Bool.and_self, cond_true, Int.toNat_natCast] at hsp
 haveI : ExtI _ H6 := ⟨hxsp⟩
 haveI := hsp.one
 have hmn : a * c ≤ 640 * 640 := Nat.mul_le_mul ha (by omega)
 simp only [Bool.and_self, cond_true, hc]
 repeat first
  | refine mI ?_
  | refine mT ?_
  | (refine Fo.ldN rfl rfl (by simp only [↓nrmL, nrmZ, Nat.reduceEqDiff, ↓reduceIte, Nat.reduceAdd, Int.reduceBEq, Int.reduceBNe, Bool.and_self, cond_true, hc]; rfl) ?_)
  | (refine bn rfl rfl rfl (by simp only [↓nrmL, nrmZ, Nat.reduceEqDiff, ↓reduceIte, Nat.reduceAdd, Int.reduceBEq, Int.reduceBNe, Bool.and_self, cond_true, hc]; rfl) ?_)
  | refine xt ?_
  | refine nw ?_
  | (refine so rfl (rfl : _ = AVal.agg _) rfl rfl rfl (by simp only [↓nrmL, nrmZ, Nat.reduceEqDiff, ↓reduceIte, Nat.reduceAdd, Int.reduceBEq, Int.reduceBNe, Bool.and_self, cond_true, hc]; rfl) ?_)
  | refine nl hKF ?_
  | refine sq ?_
  | refine rg fun KF hKF => ?_
  | refine cf rfl ?_
  | refine sk ?_
 refine WpO.do (WpX.conD hn rfl rfl (by simp only [↓nrmL, nrmZ, Nat.reduceEqDiff, ↓reduceIte, Nat.reduceAdd, Int.reduceBEq, Int.reduceBNe, List.map] <;> rfl) (K_commonF (q := q) (up := (cu : Int)) (w := a) (h := b) (w' := a) (h' := c) (p := p) (p' := sp)) fun v H7 h5 => ?_)
 obtain ⟨r6, r7, r5, r4, e2, k6, k7, k5, k4, hx7, g6, g7, g5, g4⟩ := h5
 subst e2
 haveI : ExtI _ H7 := ⟨hx7⟩
 have k11 : HasRow H7 H6.n [.int .i64 a, .int .i64 c, sp] true (2 * 24) := inferInstance
 have k4i : HasRow H7 H.n [.int .i64 a, .int .i64 b, p] true (2 * 24) := inferInstance
 have k8 : HasRow H7 (AHeap.n ((H.push (.row [.int .i64 a, .int .i64 b, p] true (2 * 24))).push (.row [q] true (2 * 43)))) [.int .i64 0, .int .i64 0, .nslice] true (2 * 24) := inferInstance
 have kp : BytesI H7 p l := inferInstance
 have ksp : BytesI H7 sp (List.replicate (a * c) 0) := inferInstance
 have wsp : WrS H7 sp := inferInstance
 have kps : SliceAt H7 q 1 ls.length ps := inferInstance
 have kq4 : IntsI H7 q4 m := inferInstance
 haveI := hfsp
 have n11 : RowNe sp H6.n := inferInstance
 have n4 : RowNe sp H.n := inferInstance
 have n8 : RowNe sp (AHeap.n ((H.push (.row [.int .i64 a, .int .i64 b, p] true (2 * 24))).push (.row [q] true (2 * 43)))) := inferInstance
 have s1 : SepS p sp := inferInstance
 have s2 : SepS q sp := inferInstance
 have s3 : SepS q4 sp := inferInstance
 have n6 : RowNe sp r6 := ⟨fun _ _ _ _ _ e h => by have := hsp.lt e; simp only [AHeap.push, AHeap.set] at g6; omega⟩
 have n7 : RowNe sp r7 := ⟨fun _ _ _ _ _ e h => by have := hsp.lt e; simp only [AHeap.push, AHeap.set] at g7; omega⟩
 have n5 : RowNe sp r5 := ⟨fun _ _ _ _ _ e h => by have := hsp.lt e; simp only [AHeap.push, AHeap.set] at g5; omega⟩
 have n4' : RowNe sp r4 := ⟨fun _ _ _ _ _ e h => by have := hsp.lt e; simp only [AHeap.push, AHeap.set] at g4; omega⟩
 have hx07 : Ext H H7 := Ext0.ext
 have fsp : FreshS H sp := hfsp.weak
 rw [hl5] at kps
 have hu640 : cu ≤ 640 := by omega
 have hc640 : c ≤ 640 := by omega
 have key : ∀ fr : AFrame, fr 11 = .ptr H6.n 0 → fr 4 = .ptr H.n 0 → ∃ v H3, callN ext prog n 105 [.yield (H7.n + 1), .ptr r6 0, .ptr r7 0, .ptr r5 0, .ptr r4 0] ((H7.push .dead).push (.loop (recR H7.n fr))) = some (v, H3) ∧ JS H7 (H7.n + 1) (recR H7.n fr) sp (mixP (rctP a m cu a (loN m cu a)) (rctF l a b m cu) (fun _ => 0) (a * c)) H3 := fun fr h11 h4 =>
  K_common (a := a) (b := b) (h := c) (up := cu) (m := m) (r := H7.n + 1) (p6 := q) (q4 := q4) (sp := sp) (ip := p) (ps := ps) (J := fun x y H => JS H7 (H7.n + 1) (recR H7.n fr) sp (mixP (rctP a m cu x y) (rctF l a b m cu) (fun _ => 0) (a * c)) H) (D := 1) ha hb hc640 hu640 hm hq4
   (fun x y H4 hJ => ⟨hJ.row k6 n6, hJ.slice kps s2, hJ.slice kq4 s3, hJ.row k7 n7, hJ.row k5 n5, hJ.row k4 n4'⟩)
   (fun x y H4 hx hl hy hJ => by rw [mixP_congr (Q := rctP a m cu x y) fun k hk => by rcases rctP_col (l := l) hx hy hl hk with h | h; exact Or.inl h.symm; exact Or.inr h]; exact hJ)
   (fun x y H4 hx hl hyb hy1 hy2 hJ k hk => by
    have hlt1 := idx_lt hx hyb
    have hlt2 : (y + cu - (m.getD x 0).toNat) * a + x < a * c := idx_lt hx (by omega)
    have hil : y * a + x < l.length := by omega
    obtain ⟨H', y1, hJ2⟩ := round_rect (i := y * a + x) (j := (y + cu - (m.getD x 0).toNat) * a + x) h11 h4 (hJ.row k11 n11) (hJ.row k4i n4) (hJ.slice kp s1) n11 n4 s1 (Nat.le_succ _) hJ hil (by rw [mixP_length]; exact hlt2) hk
    refine ⟨H', y1, ?_⟩
    have e : rctF l a b m cu ((y + cu - (m.getD x 0).toNat) * a + x) = l[y * a + x] := by
     obtain ⟨d1, d2⟩ := rct_at (y := y + cu - (m.getD x 0).toNat) hx
     rw [rctF, d1, d2, if_pos (by omega), show (m.getD x 0).toNat + (y + cu - (m.getD x 0).toNat) - cu = y by omega, List.getD_eq_getElem?_getD, List.getElem?_eq_getElem hil, Option.getD_some]
    rw [← e, mixP_set (Q := rctP a m cu x (y + 1)) fun k _ => rctP_next hx hy1 k] at hJ2
    exact hJ2)
   (by rw [← rct_start]; exact JS.start ksp wsp) n (by omega)
 have key2 : ∀ (fr : AFrame) (P : AVal → AHeap → RLoop → Prop), fr 11 = .ptr H6.n 0 → fr 4 = .ptr H.n 0 → (∀ v H3, JS H7 (H7.n + 1) (recR H7.n fr) sp (rctL l a b m cu c) H3 → P v H3 (recR H7.n fr)) →
   ∃ v H3 R, callN ext prog n 105 ([] ++ [.yield (H7.n + 1)] ++ [.ptr r6 0, .ptr r7 0, .ptr r5 0, .ptr r4 0]) ((H7.push .dead).push (.loop ⟨H7.n, 62, fr, [50, 51], recA, recB, 0, .normal⟩)) = some (v, H3) ∧ H3.get (H7.n + 1) = .loop R ∧ (Nat.beq R.st 1 || Nat.beq R.st 4) = false ∧ P v H3 R := fun fr P h11 h4 hP => by
  obtain ⟨v, H3, e3, hJ⟩ := key fr h11 h4
  rw [rct_end ha0] at hJ
  exact ⟨v, H3, recR H7.n fr, e3, hJ.loop.get, rfl, hP v H3 hJ⟩
 refine nl hKF ?_
 refine Wp.block ?_
 dsimp only [cond_true, cond_false]
 refine Wp.range (gf := 105) (fi := []) (ca := [.ptr r6 0, .ptr r7 0, .ptr r5 0, .ptr r4 0]) (vs := []) rfl rfl rfl ?_
 refine key2 _ _ rfl rfl fun v H3 hJ => ?_
 haveI := hJ.loop
 haveI := hJ.px
 haveI := hJ.wr
 haveI := px_ne hJ.px hJ.loop
 have hx03 := hJ.ext hx07 fsp
 have hH7n := hx07.n
 have hn3 := hJ.n
 haveI := hJ.row k11 n11
 haveI := hJ.row k8 n8
 haveI : NeR H6.n (H7.n + 1) := ⟨by have := k11.lt; omega⟩
 haveI : NeR (AHeap.n ((H.push (.row [.int .i64 a, .int .i64 b, p] true (2 * 24))).push (.row [q] true (2 * 43)))) (H7.n + 1) := ⟨by have := k8.lt; omega⟩
 haveI : NeR (H7.n + 1) (AHeap.n ((H.push (.row [.int .i64 a, .int .i64 b, p] true (2 * 24))).push (.row [q] true (2 * 43)))) := ⟨by have := k8.lt; omega⟩
 haveI : OneV sp := hJ.px.one
 refine sq ?_
 refine rg fun KF hKF => ?_
 refine Fo.ldN rfl rfl (by simp only [↓nrmL, nrmZ, Nat.reduceEqDiff, ↓reduceIte, Nat.reduceAdd, Int.reduceBEq, Int.reduceBNe]; rfl) ?_
 refine so rfl (rfl : _ = AVal.agg _) rfl rfl rfl (by simp only [↓nrmL, nrmZ, Nat.reduceEqDiff, ↓reduceIte, Nat.reduceAdd, Int.reduceBEq, Int.reduceBNe]; rfl) ?_
 refine mI ?_
 refine nl hKF ?_
 refine rt ?_
 dsimp only [cond_true, cond_false]
 refine ⟨trivial, _, takeMarks1 (d := H7.n) (l := H7.n + 1) inferInstance rfl rfl, _, getAllC rfl rfl rfl rfl, _, rfl, sp, rfl, (show BytesI _ sp (rctL l a b m cu c) from inferInstance), fsp, inferInstance, ?_⟩
 refine ⟨by have := hx03.n; simp only [AHeap.set]; exact this, fun s hs => ?_⟩
 have e8 : s ≠ AHeap.n ((H.push (.row [.int .i64 a, .int .i64 b, p] true (2 * 24))).push (.row [q] true (2 * 43))) := by simp only [AHeap.push]; omega
 rw [set_get_ne (by omega), set_get_ne e8, set_get_ne (by omega)]
 exact hx03.get s hs
end Go.Am

namespace Go.Am
open Go
attribute [local irreducible] Wp WpO WpX WpE
theorem K_stTwin {H : AHeap} {a b : Int} {p : AVal} {l : List UInt8} [hp : BytesI H p l] (hl : l.length < 2 ^ 40) : Con ext prog 2 85 [.agg [.int .i64 a, .int .i64 b, p]] H fun v H' => NewInk H H' v ⟨a, b, l⟩ := by
 refine con_of (show prog 85 = some c85 from rfl) rfl rfl fun n hn => ?_
 haveI := hp.one
 refine sq ?_
 refine rg fun KF hKF => ?_
 refine bA ?_
 refine nw ?_
 refine nl hKF ?_
 refine sq ?_
 refine Fr.dregion0 rfl fun KF hKF => ?_
 repeat first
  | (refine Er rfl (exec_ld rfl rfl) rfl ?_)
  | (refine Fe.pure rfl rfl (by simp only [↓nrmL, nrmZ, Nat.reduceEqDiff, ↓reduceIte, Nat.reduceAdd, Int.reduceBEq, Int.reduceBNe]; rfl) ?_)
 refine Fe.con rfl hn rfl rfl (by simp only [↓nrmL, nrmZ, Nat.reduceEqDiff, ↓reduceIte, Nat.reduceAdd, Int.reduceBEq, Int.reduceBNe, List.map] <;> rfl) (K_Clone hl) fun v H1 ⟨h1, h2, h3, h4⟩ => ?_
 haveI : ExtI _ H1 := ⟨h4⟩
 haveI := h1.one
 refine ar ?_
 refine Fe.pure rfl (exec_build (by repeat (first | refine aFill1 (by (try simp only [↓nrmL, nrmZ, Nat.reduceEqDiff, ↓reduceIte, Nat.reduceAdd, Int.reduceBEq, Int.reduceBNe]); rfl) rfl ?_ | rfl))) (by simp only [↓nrmL, nrmZ, Nat.reduceEqDiff, ↓reduceIte, Nat.reduceAdd, Int.reduceBEq, Int.reduceBNe]; rfl) ?_
 refine Ee rfl (xs rfl (by (try simp only [↓nrmL, nrmZ, Nat.reduceEqDiff, ↓reduceIte, Nat.reduceAdd, Int.reduceBEq, Int.reduceBNe]); rfl) rfl rfl rfl (by (try simp only [↓nrmL, nrmZ, Nat.reduceEqDiff, ↓reduceIte, Nat.reduceAdd, Int.reduceBEq, Int.reduceBNe]); rfl)) ?_
 refine WpE.nil (hKF _ _ ?_)
 refine rt ?_
 dsimp only [cond_true, cond_false]
 refine rz trivial ?_
 exact ⟨v, rfl, inferInstance, h2.weak, inferInstance, Ext0.ext⟩
abbrev resA : RCode := .seq (.region [⟨(some 13), .mov (.tmp 54), none⟩]) (.region [⟨(some 14), .mov (.tmp 55), none⟩])
abbrev resB : RCode := .block 1 (.dregion [⟨⟨(some 56), .fieldAddr 2 (.tmp 12), none⟩, 0, 0, true⟩,
   ⟨⟨(some 57), .load none (.tmp 56), none⟩, 1, 1, true⟩,
   ⟨⟨(some 58), .mov (.tmp 13), none⟩, 0, 0, true⟩,
   ⟨⟨(some 59), .fieldAddr 2 (.tmp 5), none⟩, 0, 0, true⟩,
   ⟨⟨(some 60), .load none (.tmp 59), none⟩, 8, 1, true⟩,
   ⟨⟨(some 61), .mov (.tmp 14), none⟩, 0, 0, true⟩,
   ⟨⟨(some 62), .idxS 1 (.tmp 60) (.tmp 61), none⟩, 56, 0, true⟩,
   ⟨⟨(some 63), .load none (.tmp 62), none⟩, 120, 1, true⟩,
   ⟨⟨(some 64), .idxS 1 (.tmp 57) (.tmp 58), none⟩, 255, 0, true⟩,
   ⟨⟨none, .store 1 (.tmp 64) (.tmp 63), none⟩, 511, 2, false⟩])
abbrev resR (d : Nat) (fr : AFrame) : RLoop := ⟨d, 66, fr, [54, 55], resA, resB, 0, .normal⟩
theorem round_rest {Hb H : AHeap} {r11 r4 r d n i j : Nat} {fr : AFrame} {q p : AVal} {L l : List UInt8} {u v w s : Int} {e11 e4 : TypeId} {w11 w4 : Bool} (h11 : fr 12 = .ptr r11 0) (h4 : fr 5 = .ptr r4 0) (k11 : HasRow H r11 [.int .i64 u, .int .i64 v, q] w11 e11) (k4 : HasRow H r4 [.int .i64 w, .int .i64 s, p] w4 e4) (kp : BytesI H p l) (n11 : RowNe q r11) (n4 : RowNe q r4) (hpq : SepS p q) (hr : Hb.n ≤ r) (hJ : JS Hb r (resR d fr) q L H) (hi : i < L.length) (hj : j < l.length) (hn : fuel0 + 1 ≤ n) :
  ∃ H', callN ext prog n yieldId [.yield r, .int .i64 (i : Int), .int .i64 (j : Int)] H = some (.bool true, H') ∧ JS Hb r (resR d fr) q (L.set i l[j]) H' := by
 obtain ⟨k, rfl⟩ : ∃ k, n = k + 1 := ⟨n - 1, by omega⟩
 haveI := hJ.loop
 haveI := hJ.px
 haveI := hJ.wr
 haveI : RowNe q r := px_ne hJ.px hJ.loop
 haveI : RowNe p r := px_ne kp hJ.loop
 haveI : NeR r11 r := ⟨fun e => by have := k11.get; have h2 := hJ.loop.get; rw [e, h2] at this; cases this⟩
 haveI : NeR r4 r := ⟨fun e => by have := k4.get; have h2 := hJ.loop.get; rw [e, h2] at this; cases this⟩
 haveI := kp.one
 haveI := hJ.px.one
 refine round_next (R := resR d fr) rfl hJ.loop rfl rfl rfl ?_
 show Wp (callN ext prog k) k resA (upd (upd fr 54 (.int .i64 (i : Int))) 55 (.int .i64 (j : Int))) H _
 simp only [h11, h4]
 repeat first
  | refine mI ?_
  | refine nl hKF ?_
  | refine sq ?_
  | refine rg fun KF hKF => ?_
 refine ⟨rfl, inferInstance, ?_⟩
 show Wp (callN ext prog k) k resB _ _ _
 refine Wp.block ?_
 refine Fr.dregion0 rfl fun KF hKF => ?_
 refine Fe.pure rfl (exec_fa h11) rfl ?_
 refine Er rfl (exec_ld rfl rfl) rfl ?_
 refine Fe.pure rfl rfl (by simp only [↓nrmL, nrmZ, Nat.reduceEqDiff, ↓reduceIte, Nat.reduceAdd, Int.reduceBEq, Int.reduceBNe]; rfl) ?_
 refine Fe.pure rfl (exec_fa h4) rfl ?_
 repeat first
  | (refine Er rfl (exec_ld rfl rfl) rfl ?_)
  | (refine Fe.pure rfl rfl (by simp only [↓nrmL, nrmZ, Nat.reduceEqDiff, ↓reduceIte, Nat.reduceAdd, Int.reduceBEq, Int.reduceBNe]; rfl) ?_)
  | (refine Fe.pure rfl (exec_idxP (by (try simp only [↓nrmL, nrmZ, Nat.reduceEqDiff, ↓reduceIte, Nat.reduceAdd, Int.reduceBEq, Int.reduceBNe]); rfl) rfl ?_) (by simp only [↓nrmL, nrmZ, Nat.reduceEqDiff, ↓reduceIte, Nat.reduceAdd, Int.reduceBEq, Int.reduceBNe]; rfl) ?_; (focus omega))
  | (refine Er rfl (exec_ldB rfl (by omega)) rfl ?_)
 refine WpE.stB (l[j]) rfl rfl rfl rfl hi fun H8 hb8 hw8 hx8 => ar ?_
 refine WpE.nil (hKF _ _ ?_)
 dsimp only [cond_true, cond_false]
 have hn1 := hJ.n
 have hn8 := hx8.n
 refine ⟨rfl, inferInstance, ⟨by simp only [AHeap.set] at hn8 ⊢; omega, fun s hs hne => ?_, inferInstance, inferInstance, inferInstance⟩⟩
 have hsr : s ≠ r := by omega
 rw [set_get_ne hsr, hx8.get s (by simp only [AHeap.set]; omega) hne, set_get_ne hsr]
 exact hJ.get s hs hne
def rstF (l s : List UInt8) (a h : Nat) (m : List Int) (up k : Nat) : UInt8 := if (m.getD (k % a) 0).toNat ≤ k / a + up ∧ k / a + up < (m.getD (k % a) 0).toNat + h then s.getD ((k / a + up - (m.getD (k % a) 0).toNat) * a + k % a) 0 else l.getD k 0
def rstL (l s : List UInt8) (a b h : Nat) (m : List Int) (up : Nat) : List UInt8 := (List.range (a * b)).map (rstF l s a h m up)
def rstP (a x y k : Nat) : Bool := decide (k % a < x) || (decide (k % a = x) && decide (k / a < y))
theorem rstP_next {a x y : Nat} (hx : x < a) (k : Nat) : rstP a x (y + 1) k = true ↔ rstP a x y k = true ∨ k = y * a + x := by
 simp only [rstP, Bool.or_eq_true, Bool.and_eq_true, decide_eq_true_eq]
 obtain ⟨e1, e2⟩ := rct_at (y := y) hx
 constructor
 ·rintro (h | ⟨h, h2⟩)
  ·exact Or.inl (Or.inl h)
  ·by_cases h3 : k / a < y
   ·exact Or.inl (Or.inr ⟨h, h3⟩)
   ·exact Or.inr (div_inj (a := a) (by rw [e1, h]) (by rw [e2]; omega))
 ·rintro ((h | ⟨h, h2⟩) | h)
  ·exact Or.inl h
  ·exact Or.inr ⟨h, by omega⟩
  ·subst h
   exact Or.inr ⟨e1, by rw [e2]; omega⟩
theorem rstP_col {a b h up x y : Nat} {l s : List UInt8} {m : List Int} (hx : x < a) (hy : y < b → (m.getD x 0).toNat + h ≤ y + up) {k : Nat} (hk : k < a * b) : (rstP a (x + 1) (loN m up (x + 1)) k = true ↔ rstP a x y k = true) ∨ rstF l s a h m up k = l.getD k 0 := by
 have hkh : k / a < b := Nat.div_lt_of_lt_mul hk
 have := Nat.zero_le (k / a)
 simp only [rstP, Bool.or_eq_true, Bool.and_eq_true, decide_eq_true_eq]
 by_cases h1 : k % a < x
 ·exact Or.inl ⟨fun _ => Or.inl h1, fun _ => Or.inl (by omega)⟩
 by_cases h2 : k % a = x
 ·by_cases h3 : k / a < y
  ·exact Or.inl ⟨fun _ => Or.inr ⟨h2, h3⟩, fun _ => Or.inl (by omega)⟩
  ·right
   rw [rstF, h2, if_neg]
   intro h4
   have := hy (by omega)
   omega
 ·by_cases h3 : k % a = x + 1
  ·by_cases h4 : k / a < loN m up (x + 1)
   ·right
    rw [rstF, h3, if_neg]
    intro h5
    unfold loN at h4
    omega
   ·left
    constructor
    ·rintro (h5 | ⟨_, h5⟩)
     ·omega
     ·exact absurd h5 h4
    ·rintro (h5 | ⟨h5, _⟩)
     ·exact absurd h5 h1
     ·exact absurd h5 h2
  ·left
   constructor
   ·rintro (h5 | ⟨h5, _⟩)
    ·omega
    ·exact absurd h5 h3
   ·rintro (h5 | ⟨h5, _⟩)
    ·exact absurd h5 h1
    ·exact absurd h5 h2
theorem rst_start {a h up n : Nat} {l s : List UInt8} {m : List Int} (hl : l.length = n) : l = mixP (rstP a 0 (loN m up 0)) (rstF l s a h m up) (fun k => l.getD k 0) n := by
 rw [mixP_congr (Q := fun _ => false) fun k _ => by
  by_cases h1 : rstP a 0 (loN m up 0) k = true
  ·right
   simp only [rstP, Bool.or_eq_true, Bool.and_eq_true, decide_eq_true_eq] at h1
   rcases h1 with h1 | ⟨h1, h2⟩
   ·omega
   ·rw [rstF, h1, if_neg]
    intro h3
    unfold loN at h2
    have := Nat.zero_le (k / a)
    omega
  ·exact Or.inl ⟨fun q => (by cases q), fun q => absurd q h1⟩]
 apply List.ext_getElem
 ·simp [mixP, hl]
 ·intro i h1 h2
  simp only [mixP, List.getElem_map, List.getElem_range, Bool.false_eq_true, if_false]
  rw [List.getD_eq_getElem?_getD, List.getElem?_eq_getElem h1, Option.getD_some]
theorem rst_end {a b h up : Nat} {l s : List UInt8} {m : List Int} (ha : 0 < a) {y : Nat} : mixP (rstP a a y) (rstF l s a h m up) (fun k => l.getD k 0) (a * b) = rstL l s a b h m up := by
 unfold mixP rstL
 apply List.map_congr_left
 intro k _
 rw [if_pos]
 simp only [rstP, Bool.or_eq_true, decide_eq_true_eq]
 exact Or.inl (Nat.mod_lt _ ha)
def restS (g s : Img) (ls : List (List Int)) (up : Int) : Img × Int :=
 bif g.err == 0 then (bif s.err == 0 then (bif fitsB g.w.toNat g.h.toNat ls then (bif decide (up < 0) || decide (up ≥ s.h) then (.zero, 1) else (bif s.w != g.w then (.zero, 2) else (⟨g.w, g.h, rstL g.px s.px g.w.toNat g.h.toNat s.h.toNat (ls.getD 4 []) up.toNat⟩, 0))) else (.zero, 10)) else (.zero, s.err)) else (.zero, g.err)
theorem K_Restore {w h w2 h2 up : Int} {p p2 q : AVal} {H : AHeap} {l s : List UInt8} {ls : List (List Int)} [hp : BytesI H p l] [hp2 : BytesI H p2 s] [hq : LinesI H q ls] : Con ext prog 9 45 [.agg [.int .i64 w, .int .i64 h, p], .agg [.int .i64 w2, .int .i64 h2, p2], .agg [q], .int .i64 up] H fun v H' => InkRes H H' v (restS ⟨w, h, l⟩ ⟨w2, h2, s⟩ ls up) := by
 refine con_ofR (show prog 45 = some c45 from rfl) rfl rfl fun n hn => ?_
 obtain ⟨ps, hps, hrw⟩ := hq.it
 haveI := hp.one
 haveI := hp2.one
 haveI := hps.one
 obtain ⟨R, hR⟩ : ∃ R, restS ⟨w, h, l⟩ ⟨w2, h2, s⟩ ls up = R := ⟨_, rfl⟩
 rw [hR]
 cases h0 : (Img.err ⟨w, h, l⟩ == 0)
 ·have e1 : restS ⟨w, h, l⟩ ⟨w2, h2, s⟩ ls up = (.zero, Img.err ⟨w, h, l⟩) := by simp only [restS, h0, cond_false]
  rw [e1] at hR
  subst hR
  simp only [h0, bne]
  repeat first
   | refine mI ?_
   | (refine Fo.ldN rfl rfl (by simp only [↓nrmL, nrmZ, Nat.reduceEqDiff, ↓reduceIte, Nat.reduceAdd, Int.reduceBEq, Int.reduceBNe, h0, bne]; rfl) ?_)
   | (refine bn rfl rfl rfl (by simp only [h0, bne]; rfl) ?_)
   | (refine Fo.pcall (v' := ?_) hn rfl (by simp only [↓nrmL, nrmZ, Nat.reduceEqDiff, ↓reduceIte, Nat.reduceAdd, Int.reduceBEq, Int.reduceBNe, h0, bne, List.map]; rfl) rfl ?hv fun _ _ => ?_; case hv => rfl)
   | refine bA ?_
   | refine nw ?_
   | (refine ob (cs' := ?_) ?hc ?_; case hc => rfl)
   | (refine so rfl (rfl : _ = AVal.agg _) rfl rfl rfl (by simp only [↓nrmL, nrmZ, Nat.reduceEqDiff, ↓reduceIte, Nat.reduceAdd, Int.reduceBEq, Int.reduceBNe, h0, bne]; rfl) ?_)
   | refine nl hKF ?_
   | refine sq ?_
   | refine rg fun KF hKF => ?_
   | refine ct rfl ?_
   | refine rt ?_
   | dsimp only [cond_true, cond_false]
  exact ⟨trivial, _, rfl, _, getAllC rfl rfl rfl rfl, _, rfl, newZero⟩
 cases h02 : (Img.err ⟨w2, h2, s⟩ == 0)
 ·have e1 : restS ⟨w, h, l⟩ ⟨w2, h2, s⟩ ls up = (.zero, Img.err ⟨w2, h2, s⟩) := by simp only [restS, h0, h02, cond_false, cond_true]
  rw [e1] at hR
  subst hR
  simp only [h0, h02, bne]
  repeat first
   | refine mI ?_
   | (refine Fo.ldN rfl rfl (by simp only [↓nrmL, nrmZ, Nat.reduceEqDiff, ↓reduceIte, Nat.reduceAdd, Int.reduceBEq, Int.reduceBNe, h0, h02, bne]; rfl) ?_)
   | (refine bn rfl rfl rfl (by simp only [h0, h02, bne]; rfl) ?_)
   | (refine Fo.pcall (v' := ?_) hn rfl (by simp only [↓nrmL, nrmZ, Nat.reduceEqDiff, ↓reduceIte, Nat.reduceAdd, Int.reduceBEq, Int.reduceBNe, h0, h02, bne, List.map]; rfl) rfl ?hv fun _ _ => ?_; case hv => rfl)
   | refine bA ?_
   | refine nw ?_
   | (refine ob (cs' := ?_) ?hc ?_; case hc => rfl)
   | (refine so rfl (rfl : _ = AVal.agg _) rfl rfl rfl (by simp only [↓nrmL, nrmZ, Nat.reduceEqDiff, ↓reduceIte, Nat.reduceAdd, Int.reduceBEq, Int.reduceBNe, h0, h02, bne]; rfl) ?_)
   | refine nl hKF ?_
   | refine sq ?_
   | refine rg fun KF hKF => ?_
   | refine ct rfl ?_
   | refine cf rfl ?_
   | refine sk ?_
   | refine rt ?_
   | dsimp only [cond_true, cond_false]
  exact ⟨trivial, _, rfl, _, getAllC rfl rfl rfl rfl, _, rfl, newZero⟩
 obtain ⟨a, b, rfl, rfl, ok⟩ := ok_of h0
 obtain ⟨a2, c, rfl, rfl, ok2⟩ := ok_of h02
 haveI : Side a := ⟨ok.wa⟩
 haveI : Side b := ⟨ok.hb⟩
 cases hfit : fitsB a b ls
 ·have e1 : restS ⟨a, b, l⟩ ⟨a2, c, s⟩ ls up = (.zero, 10) := by simp only [restS, h0, h02, cond_true, Int.toNat_natCast, hfit, cond_false]
  rw [e1] at hR
  subst hR
  simp only [h0, h02, bne, hfit]
  repeat first
   | refine mI ?_
   | (refine Fo.ldN rfl rfl (by simp only [↓nrmL, nrmZ, Nat.reduceEqDiff, ↓reduceIte, Nat.reduceAdd, Int.reduceBEq, Int.reduceBNe, h0, h02, bne, hfit]; rfl) ?_)
   | (refine bn rfl rfl rfl (by simp only [h0, h02, bne, hfit]; rfl) ?_)
   | (refine Fo.pcall (v' := ?_) hn rfl (by simp only [↓nrmL, nrmZ, Nat.reduceEqDiff, ↓reduceIte, Nat.reduceAdd, Int.reduceBEq, Int.reduceBNe, h0, h02, bne, hfit, List.map]; rfl) rfl ?hv fun _ _ => ?_; case hv => (simp only [h0, h02, bne, hfit]; rfl))
   | (refine Fo.pcall (v' := ?_) hn rfl (by simp only [↓nrmL, nrmZ, Nat.reduceEqDiff, ↓reduceIte, Nat.reduceAdd, Int.reduceBEq, Int.reduceBNe, h0, h02, bne, hfit, List.map]; rfl) rfl ?hv fun _ _ => ?_; case hv => rfl)
   | refine bA ?_
   | refine nw ?_
   | (refine ob (cs' := ?_) ?hc ?_; case hc => rfl)
   | (refine Fo.now rfl rfl (by simp only [↓nrmL, nrmZ, Nat.reduceEqDiff, ↓reduceIte, Nat.reduceAdd, Int.reduceBEq, Int.reduceBNe, h0, h02, bne, hfit]; rfl) ?_)
   | (refine so rfl (rfl : _ = AVal.agg _) rfl rfl rfl (by simp only [↓nrmL, nrmZ, Nat.reduceEqDiff, ↓reduceIte, Nat.reduceAdd, Int.reduceBEq, Int.reduceBNe, h0, h02, bne, hfit]; rfl) ?_)
   | refine nl hKF ?_
   | refine sq ?_
   | refine rg fun KF hKF => ?_
   | refine ct rfl ?_
   | refine cf rfl ?_
   | refine sk ?_
   | refine rt ?_
   | dsimp only [cond_true, cond_false]
  exact ⟨trivial, _, rfl, _, getAllC rfl rfl rfl rfl, _, rfl, newZero⟩
 obtain ⟨hl5, hpaths⟩ := fitsB_iff hfit
 have h4l : 4 < ls.length := by omega
 have hm := hpaths 4 h4l
 obtain ⟨hml, ha0⟩ := pathB_len hm
 obtain ⟨q4, hq4, hI4⟩ := hrw.it 4 h4l
 obtain ⟨m, hmdef⟩ : ∃ m, ls[4] = m := ⟨_, rfl⟩
 rw [hmdef] at hm hml hI4
 haveI := hI4
 have ha := ok.wa
 have hb := ok.hb
 have hlen := ok.len
 have hc640 := ok2.hb
 have hlen2 := ok2.len
 cases hu0 : decide (up < 0)
 rotate_left
 ·have e1 : restS ⟨a, b, l⟩ ⟨a2, c, s⟩ ls up = (.zero, 1) := by simp only [restS, h0, h02, cond_true, Int.toNat_natCast, hfit, hu0, Bool.true_or]
  rw [e1] at hR
  subst hR
  simp only [h0, h02, bne, hfit, hu0]
  repeat first
   | refine ox ?_
   | refine mI ?_
   | refine mB ?_
   | (refine Fo.ldN rfl rfl (by simp only [↓nrmL, nrmZ, Nat.reduceEqDiff, ↓reduceIte, Nat.reduceAdd, Int.reduceBEq, Int.reduceBNe, h0, h02, bne, hfit, hu0]; rfl) ?_)
   | (refine bn rfl rfl rfl (by simp only [h0, h02, bne, hfit, hu0]; rfl) ?_)
   | refine tB ?_
   | (refine Fo.pcall (v' := ?_) hn rfl (by simp only [↓nrmL, nrmZ, Nat.reduceEqDiff, ↓reduceIte, Nat.reduceAdd, Int.reduceBEq, Int.reduceBNe, h0, h02, bne, hfit, hu0, List.map]; rfl) rfl ?hv fun _ _ => ?_; case hv => (simp only [h0, h02, bne, hfit, hu0]; rfl))
   | (refine Fo.pcall (v' := ?_) hn rfl (by simp only [↓nrmL, nrmZ, Nat.reduceEqDiff, ↓reduceIte, Nat.reduceAdd, Int.reduceBEq, Int.reduceBNe, h0, h02, bne, hfit, hu0, List.map]; rfl) rfl ?hv fun _ _ => ?_; case hv => rfl)
   | refine bA ?_
   | refine nw ?_
   | (refine ob (cs' := ?_) ?hc ?_; case hc => rfl)
   | (refine Fo.now rfl rfl (by simp only [↓nrmL, nrmZ, Nat.reduceEqDiff, ↓reduceIte, Nat.reduceAdd, Int.reduceBEq, Int.reduceBNe, h0, h02, bne, hfit, hu0]; rfl) ?_)
   | (refine so rfl (rfl : _ = AVal.agg _) rfl rfl rfl (by simp only [↓nrmL, nrmZ, Nat.reduceEqDiff, ↓reduceIte, Nat.reduceAdd, Int.reduceBEq, Int.reduceBNe, h0, h02, bne, hfit, hu0]; rfl) ?_)
   | refine nl hKF ?_
   | refine sq ?_
   | refine rg fun KF hKF => ?_
   | refine ct rfl ?_
   | refine cf rfl ?_
   | refine sk ?_
   | refine rt ?_
   | dsimp only [cond_true, cond_false]
  exact ⟨trivial, _, rfl, _, getAllC rfl rfl rfl rfl, _, rfl, newZero⟩
 cases hu1 : decide (up ≥ (c : Int))
 rotate_left
 ·have e1 : restS ⟨a, b, l⟩ ⟨a2, c, s⟩ ls up = (.zero, 1) := by simp only [restS, h0, h02, cond_true, Int.toNat_natCast, hfit, hu0, hu1, Bool.or_true]
  rw [e1] at hR
  subst hR
  simp only [h0, h02, bne, hfit, hu0, hu1]
  repeat first
   | refine oy ?_
   | refine mI ?_
   | refine mB ?_
   | refine fd ?_
   | refine Fo.ld rfl rfl ?_
   | (refine Fo.ldN rfl rfl (by simp only [↓nrmL, nrmZ, Nat.reduceEqDiff, ↓reduceIte, Nat.reduceAdd, Int.reduceBEq, Int.reduceBNe, h0, h02, bne, hfit, hu0, hu1]; rfl) ?_)
   | (refine bn rfl rfl rfl (by simp only [h0, h02, bne, hfit, hu0, hu1]; rfl) ?_)
   | refine fB ?_
   | (refine Fo.pcall (v' := ?_) hn rfl (by simp only [↓nrmL, nrmZ, Nat.reduceEqDiff, ↓reduceIte, Nat.reduceAdd, Int.reduceBEq, Int.reduceBNe, h0, h02, bne, hfit, hu0, hu1, List.map]; rfl) rfl ?hv fun _ _ => ?_; case hv => (simp only [h0, h02, bne, hfit, hu0, hu1]; rfl))
   | (refine Fo.pcall (v' := ?_) hn rfl (by simp only [↓nrmL, nrmZ, Nat.reduceEqDiff, ↓reduceIte, Nat.reduceAdd, Int.reduceBEq, Int.reduceBNe, h0, h02, bne, hfit, hu0, hu1, List.map]; rfl) rfl ?hv fun _ _ => ?_; case hv => rfl)
   | refine bA ?_
   | refine nw ?_
   | (refine ob (cs' := ?_) ?hc ?_; case hc => rfl)
   | (refine Fo.now rfl rfl (by simp only [↓nrmL, nrmZ, Nat.reduceEqDiff, ↓reduceIte, Nat.reduceAdd, Int.reduceBEq, Int.reduceBNe, h0, h02, bne, hfit, hu0, hu1]; rfl) ?_)
   | (refine so rfl (rfl : _ = AVal.agg _) rfl rfl rfl (by simp only [↓nrmL, nrmZ, Nat.reduceEqDiff, ↓reduceIte, Nat.reduceAdd, Int.reduceBEq, Int.reduceBNe, h0, h02, bne, hfit, hu0, hu1]; rfl) ?_)
   | refine nl hKF ?_
   | refine sq ?_
   | refine rg fun KF hKF => ?_
   | refine ct rfl ?_
   | refine cf rfl ?_
   | refine sk ?_
   | refine rt ?_
   | dsimp only [cond_true, cond_false]
  exact ⟨trivial, _, rfl, _, getAllC rfl rfl rfl rfl, _, rfl, newZero⟩
 obtain ⟨cu, rfl⟩ : ∃ k : Nat, up = k := ⟨up.toNat, by have := of_decide_eq_false hu0; omega⟩
 have huc : cu < c := by have := of_decide_eq_false hu1; omega
 cases hww : ((a2 : Int) != (a : Int))
 rotate_left
 ·have e1 : restS ⟨a, b, l⟩ ⟨a2, c, s⟩ ls cu = (.zero, 2) := by simp only [restS, h0, h02, cond_true, Int.toNat_natCast, hfit, hu0, hu1, Bool.or_false, cond_false, hww]
  rw [e1] at hR
  subst hR
  have hww2 : ((a2 : Int) == (a : Int)) = false := by simpa [bne] using hww
  simp only [h0, h02, bne, hfit, hu0, hu1, hww2]
  repeat first
   | refine oy ?_
   | refine mI ?_
   | refine mB ?_
   | refine fd ?_
   | refine Fo.ld rfl rfl ?_
   | (refine Fo.ldN rfl rfl (by simp only [↓nrmL, nrmZ, Nat.reduceEqDiff, ↓reduceIte, Nat.reduceAdd, Int.reduceBEq, Int.reduceBNe, h0, h02, bne, hfit, hu0, hu1, hww2]; rfl) ?_)
   | (refine bn rfl rfl rfl (by simp only [h0, h02, bne, hfit, hu0, hu1, hww2]; rfl) ?_)
   | refine fB ?_
   | (refine Fo.pcall (v' := ?_) hn rfl (by simp only [↓nrmL, nrmZ, Nat.reduceEqDiff, ↓reduceIte, Nat.reduceAdd, Int.reduceBEq, Int.reduceBNe, h0, h02, bne, hfit, hu0, hu1, hww2, List.map]; rfl) rfl ?hv fun _ _ => ?_; case hv => (simp only [h0, h02, bne, hfit, hu0, hu1, hww2]; rfl))
   | (refine Fo.pcall (v' := ?_) hn rfl (by simp only [↓nrmL, nrmZ, Nat.reduceEqDiff, ↓reduceIte, Nat.reduceAdd, Int.reduceBEq, Int.reduceBNe, h0, h02, bne, hfit, hu0, hu1, hww2, List.map]; rfl) rfl ?hv fun _ _ => ?_; case hv => rfl)
   | refine bA ?_
   | refine nw ?_
   | (refine ob (cs' := ?_) ?hc ?_; case hc => rfl)
   | (refine Fo.now rfl rfl (by simp only [↓nrmL, nrmZ, Nat.reduceEqDiff, ↓reduceIte, Nat.reduceAdd, Int.reduceBEq, Int.reduceBNe, h0, h02, bne, hfit, hu0, hu1, hww2]; rfl) ?_)
   | (refine so rfl (rfl : _ = AVal.agg _) rfl rfl rfl (by simp only [↓nrmL, nrmZ, Nat.reduceEqDiff, ↓reduceIte, Nat.reduceAdd, Int.reduceBEq, Int.reduceBNe, h0, h02, bne, hfit, hu0, hu1, hww2]; rfl) ?_)
   | refine nl hKF ?_
   | refine sq ?_
   | refine rg fun KF hKF => ?_
   | refine ct rfl ?_
   | refine cf rfl ?_
   | refine sk ?_
   | refine rt ?_
   | dsimp only [cond_true, cond_false]
  exact ⟨trivial, _, rfl, _, getAllC rfl rfl rfl rfl, _, rfl, newZero⟩
 have haa : a2 = a := by have h7 := hww; simp only [bne_eq_false_iff_eq] at h7; omega
 subst haa
 have e1 : restS ⟨a2, b, l⟩ ⟨a2, c, s⟩ ls cu = (⟨a2, b, rstL l s a2 b c m cu⟩, 0) := by
  simp only [restS, h0, h02, cond_true, Int.toNat_natCast, hfit, hu0, hu1, Bool.or_false, cond_false, hww, getDL_at h4l, hmdef]
 rw [e1] at hR
 subst hR
 have hww2 : ((a2 : Int) == (a2 : Int)) = true := by simp
 have haa := ha
 simp only [h0, h02, bne, hfit, hu0, hu1, hww2]
 repeat first
  | refine oy ?_
  | refine mI ?_
  | refine mB ?_
  | refine fd ?_
  | refine Fo.ld rfl rfl ?_
  | (refine Fo.ldN rfl rfl (by simp only [↓nrmL, nrmZ, Nat.reduceEqDiff, ↓reduceIte, Nat.reduceAdd, Int.reduceBEq, Int.reduceBNe, h0, h02, bne, hfit, hu0, hu1, hww2]; rfl) ?_)
  | (refine bn rfl rfl rfl (by simp only [h0, h02, bne, hfit, hu0, hu1, hww2]; rfl) ?_)
  | refine fB ?_
  | (refine Fo.pcall (v' := ?_) hn rfl (by simp only [↓nrmL, nrmZ, Nat.reduceEqDiff, ↓reduceIte, Nat.reduceAdd, Int.reduceBEq, Int.reduceBNe, h0, h02, bne, hfit, hu0, hu1, hww2, List.map]; rfl) rfl ?hv fun _ _ => ?_; case hv => (simp only [h0, h02, bne, hfit, hu0, hu1, hww2]; rfl))
  | (refine Fo.pcall (v' := ?_) hn rfl (by simp only [↓nrmL, nrmZ, Nat.reduceEqDiff, ↓reduceIte, Nat.reduceAdd, Int.reduceBEq, Int.reduceBNe, h0, h02, bne, hfit, hu0, hu1, hww2, List.map]; rfl) rfl ?hv fun _ _ => ?_; case hv => rfl)
  | refine bA ?_
  | refine nw ?_
  | (refine Fo.now rfl rfl (by simp only [↓nrmL, nrmZ, Nat.reduceEqDiff, ↓reduceIte, Nat.reduceAdd, Int.reduceBEq, Int.reduceBNe, h0, h02, bne, hfit, hu0, hu1, hww2]; rfl) ?_)
  | refine nl hKF ?_
  | refine sq ?_
  | refine rg fun KF hKF => ?_
  | refine cf rfl ?_
  | refine sk ?_
 refine WpO.do (WpX.conD hn rfl rfl (by simp only [↓nrmL, nrmZ, Nat.reduceEqDiff, ↓reduceIte, Nat.reduceAdd, Int.reduceBEq, Int.reduceBNe, List.map] <;> rfl) (K_stTwin (l := l) (by have : a2 * b ≤ 640 * 640 := Nat.mul_le_mul ha hb; omega)) fun v H6 h5 => ?_)
 obtain ⟨sp, e2, hsp, hfsp, hwsp, hxsp⟩ := h5
 subst e2
 dsimp only at hsp
 haveI : ExtI _ H6 := ⟨hxsp⟩
 haveI := hsp.one
 repeat first
  | refine mI ?_
  | (refine Fo.ldN rfl rfl (by simp only [↓nrmL, nrmZ, Nat.reduceEqDiff, ↓reduceIte, Nat.reduceAdd, Int.reduceBEq, Int.reduceBNe]; rfl) ?_)
  | refine nw ?_
  | (refine so rfl (rfl : _ = AVal.agg _) rfl rfl rfl (by simp only [↓nrmL, nrmZ, Nat.reduceEqDiff, ↓reduceIte, Nat.reduceAdd, Int.reduceBEq, Int.reduceBNe]; rfl) ?_)
  | refine nl hKF ?_
  | refine sq ?_
  | refine rg fun KF hKF => ?_
  | dsimp only [cond_true, cond_false]
 refine WpO.do (WpX.conD hn rfl rfl (by simp only [↓nrmL, nrmZ, Nat.reduceEqDiff, ↓reduceIte, Nat.reduceAdd, Int.reduceBEq, Int.reduceBNe, List.map] <;> rfl) (K_commonF (q := q) (up := (cu : Int)) (w := a2) (h := b) (w' := a2) (h' := c) (p := p) (p' := p2)) fun v H7 h5 => ?_)
 obtain ⟨r6, r7, r5, r4, e2, k6, k7, k5, k4, hx7, g6, g7, g5, g4⟩ := h5
 subst e2
 haveI : ExtI _ H7 := ⟨hx7⟩
 have k11 : HasRow H7 H6.n [.int .i64 a2, .int .i64 b, sp] true (2 * 24) := inferInstance
 have k4i : HasRow H7 (AHeap.n (H.push (.row [.int .i64 a2, .int .i64 b, p] true (2 * 24)))) [.int .i64 a2, .int .i64 c, p2] true (2 * 24) := inferInstance
 have k8 : HasRow H7 (AHeap.n (((H.push (.row [.int .i64 a2, .int .i64 b, p] true (2 * 24))).push (.row [.int .i64 a2, .int .i64 c, p2] true (2 * 24))).push (.row [q] true (2 * 43)))) [.int .i64 0, .int .i64 0, .nslice] true (2 * 24) := inferInstance
 have kp : BytesI H7 p2 s := inferInstance
 have ksp : BytesI H7 sp l := inferInstance
 have wsp : WrS H7 sp := inferInstance
 have kps : SliceAt H7 q 1 ls.length ps := inferInstance
 have kq4 : IntsI H7 q4 m := inferInstance
 haveI := hfsp
 have n11 : RowNe sp H6.n := inferInstance
 have n4 : RowNe sp (AHeap.n (H.push (.row [.int .i64 a2, .int .i64 b, p] true (2 * 24)))) := inferInstance
 have n8 : RowNe sp (AHeap.n (((H.push (.row [.int .i64 a2, .int .i64 b, p] true (2 * 24))).push (.row [.int .i64 a2, .int .i64 c, p2] true (2 * 24))).push (.row [q] true (2 * 43)))) := inferInstance
 have s1 : SepS p2 sp := inferInstance
 have s2 : SepS q sp := inferInstance
 have s3 : SepS q4 sp := inferInstance
 have n6 : RowNe sp r6 := ⟨fun _ _ _ _ _ e h => by have := hsp.lt e; simp only [AHeap.push, AHeap.set] at g6; omega⟩
 have n7 : RowNe sp r7 := ⟨fun _ _ _ _ _ e h => by have := hsp.lt e; simp only [AHeap.push, AHeap.set] at g7; omega⟩
 have n5 : RowNe sp r5 := ⟨fun _ _ _ _ _ e h => by have := hsp.lt e; simp only [AHeap.push, AHeap.set] at g5; omega⟩
 have n4' : RowNe sp r4 := ⟨fun _ _ _ _ _ e h => by have := hsp.lt e; simp only [AHeap.push, AHeap.set] at g4; omega⟩
 have hx07 : Ext H H7 := Ext0.ext
 have fsp : FreshS H sp := hfsp.weak
 rw [hl5] at kps
 have hu640 : cu ≤ 640 := by omega
 have key : ∀ fr : AFrame, fr 12 = .ptr H6.n 0 → fr 5 = .ptr (AHeap.n (H.push (.row [.int .i64 a2, .int .i64 b, p] true (2 * 24)))) 0 → ∃ v H3, callN ext prog n 105 [.yield (H7.n + 1), .ptr r6 0, .ptr r7 0, .ptr r5 0, .ptr r4 0] ((H7.push .dead).push (.loop (resR H7.n fr))) = some (v, H3) ∧ JS H7 (H7.n + 1) (resR H7.n fr) sp (mixP (rstP a2 a2 (loN m cu a2)) (rstF l s a2 c m cu) (fun k => l.getD k 0) (a2 * b)) H3 := fun fr h11 h4 =>
  K_common (a := a2) (b := b) (h := c) (up := cu) (m := m) (r := H7.n + 1) (p6 := q) (q4 := q4) (sp := p2) (ip := p) (ps := ps) (J := fun x y H => JS H7 (H7.n + 1) (resR H7.n fr) sp (mixP (rstP a2 x y) (rstF l s a2 c m cu) (fun k => l.getD k 0) (a2 * b)) H) (D := 1) ha hb hc640 hu640 hm hq4
   (fun x y H4 hJ => ⟨hJ.row k6 n6, hJ.slice kps s2, hJ.slice kq4 s3, hJ.row k7 n7, hJ.row k5 n5, hJ.row k4 n4'⟩)
   (fun x y H4 hx hl hy hJ => by rw [mixP_congr (Q := rstP a2 x y) fun k hk => by rcases rstP_col (l := l) (s := s) (h := c) hx hy hk with h | h; exact Or.inl h.symm; exact Or.inr h]; exact hJ)
   (fun x y H4 hx hl hyb hy1 hy2 hJ k hk => by
    have hlt1 := idx_lt hx hyb
    have hlt2 : (y + cu - (m.getD x 0).toNat) * a2 + x < a2 * c := idx_lt hx (by omega)
    have hjl : (y + cu - (m.getD x 0).toNat) * a2 + x < s.length := by omega
    obtain ⟨H', y1, hJ2⟩ := round_rest (i := y * a2 + x) (j := (y + cu - (m.getD x 0).toNat) * a2 + x) h11 h4 (hJ.row k11 n11) (hJ.row k4i n4) (hJ.slice kp s1) n11 n4 s1 (Nat.le_succ _) hJ (by rw [mixP_length]; exact hlt1) hjl hk
    refine ⟨H', y1, ?_⟩
    have e : rstF l s a2 c m cu (y * a2 + x) = s[(y + cu - (m.getD x 0).toNat) * a2 + x] := by
     obtain ⟨d1, d2⟩ := rct_at (y := y) hx
     rw [rstF, d1, d2, if_pos (by omega), List.getD_eq_getElem?_getD, List.getElem?_eq_getElem hjl, Option.getD_some]
    rw [← e, mixP_set (Q := rstP a2 x (y + 1)) fun k _ => rstP_next hx k] at hJ2
    exact hJ2)
   (by rw [← rst_start hlen]; exact JS.start ksp wsp) n (by omega)
 have key2 : ∀ (fr : AFrame) (P : AVal → AHeap → RLoop → Prop), fr 12 = .ptr H6.n 0 → fr 5 = .ptr (AHeap.n (H.push (.row [.int .i64 a2, .int .i64 b, p] true (2 * 24)))) 0 → (∀ v H3, JS H7 (H7.n + 1) (resR H7.n fr) sp (rstL l s a2 b c m cu) H3 → P v H3 (resR H7.n fr)) →
   ∃ v H3 R, callN ext prog n 105 ([] ++ [.yield (H7.n + 1)] ++ [.ptr r6 0, .ptr r7 0, .ptr r5 0, .ptr r4 0]) ((H7.push .dead).push (.loop ⟨H7.n, 66, fr, [54, 55], resA, resB, 0, .normal⟩)) = some (v, H3) ∧ H3.get (H7.n + 1) = .loop R ∧ (Nat.beq R.st 1 || Nat.beq R.st 4) = false ∧ P v H3 R := fun fr P h11 h4 hP => by
  obtain ⟨v, H3, e3, hJ⟩ := key fr h11 h4
  rw [rst_end ha0] at hJ
  exact ⟨v, H3, resR H7.n fr, e3, hJ.loop.get, rfl, hP v H3 hJ⟩
 refine nl hKF ?_
 refine Wp.block ?_
 dsimp only [cond_true, cond_false]
 refine Wp.range (gf := 105) (fi := []) (ca := [.ptr r6 0, .ptr r7 0, .ptr r5 0, .ptr r4 0]) (vs := []) rfl rfl rfl ?_
 refine key2 _ _ rfl rfl fun v H3 hJ => ?_
 haveI := hJ.loop
 haveI := hJ.px
 haveI := hJ.wr
 haveI := px_ne hJ.px hJ.loop
 have hx03 := hJ.ext hx07 fsp
 have hH7n := hx07.n
 have hn3 := hJ.n
 haveI := hJ.row k11 n11
 haveI := hJ.row k8 n8
 haveI : NeR H6.n (H7.n + 1) := ⟨by have := k11.lt; omega⟩
 haveI : NeR (AHeap.n (((H.push (.row [.int .i64 a2, .int .i64 b, p] true (2 * 24))).push (.row [.int .i64 a2, .int .i64 c, p2] true (2 * 24))).push (.row [q] true (2 * 43)))) (H7.n + 1) := ⟨by have := k8.lt; omega⟩
 haveI : NeR (H7.n + 1) (AHeap.n (((H.push (.row [.int .i64 a2, .int .i64 b, p] true (2 * 24))).push (.row [.int .i64 a2, .int .i64 c, p2] true (2 * 24))).push (.row [q] true (2 * 43)))) := ⟨by have := k8.lt; omega⟩
 haveI : OneV sp := hJ.px.one
 refine sq ?_
 refine rg fun KF hKF => ?_
 refine Fo.ldN rfl rfl (by simp only [↓nrmL, nrmZ, Nat.reduceEqDiff, ↓reduceIte, Nat.reduceAdd, Int.reduceBEq, Int.reduceBNe]; rfl) ?_
 refine so rfl (rfl : _ = AVal.agg _) rfl rfl rfl (by simp only [↓nrmL, nrmZ, Nat.reduceEqDiff, ↓reduceIte, Nat.reduceAdd, Int.reduceBEq, Int.reduceBNe]; rfl) ?_
 refine mI ?_
 refine nl hKF ?_
 refine rt ?_
 dsimp only [cond_true, cond_false]
 refine ⟨trivial, _, takeMarks1 (d := H7.n) (l := H7.n + 1) inferInstance rfl rfl, _, getAllC rfl rfl rfl rfl, _, rfl, sp, rfl, (show BytesI _ sp (rstL l s a2 b c m cu) from inferInstance), fsp, inferInstance, ?_⟩
 refine ⟨by have := hx03.n; simp only [AHeap.set]; exact this, fun s' hs => ?_⟩
 have e8 : s' ≠ AHeap.n (((H.push (.row [.int .i64 a2, .int .i64 b, p] true (2 * 24))).push (.row [.int .i64 a2, .int .i64 c, p2] true (2 * 24))).push (.row [q] true (2 * 43))) := by simp only [AHeap.push]; omega
 rw [set_get_ne (by omega), set_get_ne e8, set_get_ne (by omega)]
 exact hx03.get s' hs
end Go.Am

namespace Go.Am
open Go
section
variable {call : ACall} {lf : Nat} {fr : AFrame} {H : AHeap} {Q : RExit → AFrame → AHeap → Prop} {a b : RCode}
end
end Go.Am

namespace Go.Am
open Go
attribute [local irreducible] Wp WpO WpX WpE
class Z0 (l : List Int) : Prop where
 hp : 0 < l.length
 h0 : l.getD 0 0 = 0
 hs : l.length ≤ 640
structure Wave (w : Nat) (L : List Int) (k : Nat) : Prop where
 len : L.length = w
 near : ∀ x, x + 1 < w → L.getD (x + 1) 0 - L.getD x 0 ≤ 1 ∧ L.getD x 0 - L.getD (x + 1) 0 ≤ 1
 low : ∀ x, -(k : Int) ≤ L.getD x 0 ∧ L.getD x 0 ≤ (k : Int)
 zero : L.getD 0 0 = 0
structure WaveX (w : Nat) (L : List Int) (k X : Nat) (Y : Int) : Prop extends Wave w L k where
 tail : ∀ i, X ≤ i → i < w → L.getD i 0 = Y
 y : -(k : Int) ≤ Y ∧ Y ≤ (k : Int)
end Go.Am

namespace Go.Am
open Go
attribute [local irreducible] Wp WpO WpX WpE
def lineL (lo : Nat) (L : List Int) (i k : Nat) : List Int := (List.range L.length).map fun x => 5 + (lo : Int) + 36 * i + 6 * k + L.getD x 0
def staveL (lo : Nat) (L : List Int) (i : Nat) : List (List Int) := (List.range 5).map (lineL lo L i)
structure StvR (H : AHeap) (sp : AVal) (ls : List (List Int)) (B : Nat) : Prop where
 it : ∃ r ps e, sp = .slice r 0 ls.length none 1 ∧ HasRow H r ps true e ∧ e / 2 = 25 ∧ ps.length = ls.length ∧ B ≤ r ∧ ∀ j (h : j < ls.length), ∃ rj, ps[j]? = some (.slice rj 0 ls[j].length (some ls[j].length) 1) ∧ HasRow H rj (cellsI ls[j]) true (2 * 3) ∧ B ≤ rj
theorem StvR.keep {H H' : AHeap} {sp : AVal} {ls : List (List Int)} {B : Nat} (h : StvR H sp ls B) (hn : H.n ≤ H'.n) (hg : ∀ s cs e, s < H.n → B ≤ s → H.get s = .row cs true e → (e / 2 = 25 ∨ e = 2 * 3) → H'.get s = H.get s) : StvR H' sp ls B := by
 obtain ⟨r, ps, e, h1, h2, h3, h4, h5, h6⟩ := h.it
 refine ⟨r, ps, e, h1, ⟨Nat.lt_of_lt_of_le h2.lt hn, by rw [hg r ps e h2.lt h5 h2.get (Or.inl h3)]; exact h2.get⟩, h3, h4, h5, fun j hj => ?_⟩
 obtain ⟨rj, a1, a2, a3⟩ := h6 j hj
 exact ⟨rj, a1, ⟨Nat.lt_of_lt_of_le a2.lt hn, by rw [hg rj _ _ a2.lt a3 a2.get (Or.inr rfl)]; exact a2.get⟩, a3⟩
class RowLt (p : AVal) (B : Nat) : Prop where
 lt : ∀ r off len cap sz, p = .slice r off len cap sz → r < B
structure Lns (H : AHeap) (ps : List AVal) (ls : List (List Int)) (B : Nat) : Prop where
 len : ps.length = ls.length
 it : ∀ j (h : j < ls.length), ∃ rj, ps[j]? = some (.slice rj 0 ls[j].length (some ls[j].length) 1) ∧ HasRow H rj (cellsI ls[j]) true (2 * 3) ∧ B ≤ rj
theorem Lns.keep {H H' : AHeap} {ps : List AVal} {ls : List (List Int)} {B : Nat} (h : Lns H ps ls B) (hn : H.n ≤ H'.n) (hg : ∀ s cs, s < H.n → B ≤ s → H.get s = .row cs true (2 * 3) → H'.get s = H.get s) : Lns H' ps ls B := ⟨h.len, fun j hj => by
 obtain ⟨rj, a1, a2, a3⟩ := h.it j hj
 exact ⟨rj, a1, ⟨Nat.lt_of_lt_of_le a2.lt hn, by rw [hg rj _ a2.lt a3 a2.get]; exact a2.get⟩, a3⟩⟩
theorem Lns.stv {H : AHeap} {sp : AVal} {ps : List AVal} {ls : List (List Int)} {B : Nat} (h : Lns H ps ls B) (ho : OwnS H sp 1 ls.length ps 25) (h0 : 0 < ls.length) (hf : ∀ r off len cap sz, sp = .slice r off len cap sz → B ≤ r) : StvR H sp ls B := by
 rcases ho.it with ⟨_, h1, _⟩ | ⟨r, e, h1, h2, h3, h4, h5, h6⟩
 ·omega
 ·exact ⟨r, ps, e, h1, ⟨h2, h3⟩, h4, h.len, hf _ _ _ _ _ h1, h.it⟩
end Go.Am

namespace Go.Am
open Go
attribute [local irreducible] Wp WpO WpX WpE
theorem Wave.mono {w k k' : Nat} {L : List Int} (h : Wave w L k) (hk : k ≤ k') : Wave w L k' := ⟨h.len, h.near, fun x => by have := h.low x; omega, h.zero⟩
section
variable {call : ACall} {fr : AFrame} {H : AHeap} {K : AVal → AHeap → Prop}
end
theorem row_ints {H : AHeap} {r n : Nat} {l : List Int} {w : Bool} {e : TypeId} (h : HasRow H r (cellsI l) w e) (hn : l.length = n) : IntsI H (.slice r 0 n (some n) 1) l := by
 subst hn
 exact ⟨Or.inr ⟨r, 0, some l.length, cellsI l, w, e, rfl, h.lt, h.get, by rw [cellsI_length]; omega, by rw [List.drop_zero, Nat.mul_one, ← cellsI_length l, List.take_length], Nat.le_refl _⟩⟩
instance row_one {H : AHeap} {r : Nat} {a : AVal} {rw : Bool} {ty : TypeId} [h : HasRow H r [a] rw ty] : SliceAt H (.slice r 0 1 (some 1) 1) 1 1 [a] := ⟨Or.inr ⟨r, 0, some 1, _, rw, ty, rfl, h.lt, h.get, by simp, rfl, Nat.le_refl _⟩⟩
theorem ExtP.other {a b c : AHeap} {p q : AVal} (h : ExtP a b p) (k : ExtP b c q) (hq : ∀ r off len cap sz, q = .slice r off len cap sz → a.n ≤ r) : ExtP a c p := ⟨Nat.le_trans h.n k.n, fun r hr hp => by
 rw [k.get r (Nat.lt_of_lt_of_le hr h.n) ⟨fun r' _ _ _ _ e => by have := hq _ _ _ _ _ e; omega⟩]
 exact h.get r hr hp⟩
structure WavyR (H H' : AHeap) (v : AVal) (w h n : Nat) (L : List Int) (lo hi : Nat) (P : List UInt8) (gp op : AVal) (cells : List AVal) (B : Nat) : Prop where
 ev : v = .tuple [.agg [.int .i64 (w : Int), .int .i64 (h : Int), gp], op]
 w1 : 40 ≤ w
 w2 : w ≤ 159
 n1 : 1 ≤ n
 n2 : n ≤ 3
 wave : Wave w L 14
 lo1 : lo ≤ 14
 hi1 : hi ≤ 14
 lo2 : ∀ x, -(lo : Int) ≤ L.getD x 0
 hi2 : ∀ x, L.getD x 0 ≤ (hi : Int)
 eh : h = 36 * n + lo + hi - 1
 ok : Ok w h P
 hgp : BytesI H' gp P
 wr : WrS H' gp
 fr : FreshS H gp
 hop : SliceAt H' op 1 n cells
 stv : ∀ j, j < n → ∃ sp, cells[j]? = some sp ∧ StvR H' sp (staveL lo L j) B
 B1 : H.n ≤ B
 B2 : RowLt gp B
 B3 : ∀ r off len cap sz, op = .slice r off len cap sz → B ≤ r
 ext : Ext H H'
end Go.Am

namespace Go.Am
open Go
attribute [local irreducible] Wp WpO WpX WpE
theorem StvR.lines {H : AHeap} {sp : AVal} {ls : List (List Int)} {B : Nat} (h : StvR H sp ls B) : LinesI H sp ls := by
 obtain ⟨r, ps, e, h1, h2, h3, h4, h5, h6⟩ := h.it
 refine ⟨ps, ?_, ⟨fun i hi => ?_⟩⟩
 ·rw [h1]
  exact ⟨Or.inr ⟨r, 0, none, ps, true, e, rfl, h2.lt, h2.get, by omega, by rw [List.drop_zero, Nat.mul_one, ← h4, List.take_length], Nat.le_refl _⟩⟩
 ·obtain ⟨rj, a1, a2, a3⟩ := h6 i hi
  exact ⟨_, a1, row_ints a2 rfl⟩
theorem StvR.lo {H : AHeap} {sp : AVal} {ls : List (List Int)} {B : Nat} (h : StvR H sp ls B) : ∀ r off len cap sz, sp = .slice r off len cap sz → B ≤ r := by
 obtain ⟨r, ps, e, h1, h2, h3, h4, h5, h6⟩ := h.it
 intro r' off len cap sz e'
 rw [h1] at e'; cases e'; exact h5
theorem px_01 {l : List UInt8} (h : pxOk l = true) (k : Nat) : l.getD k 0 = 0 ∨ l.getD k 0 = 1 := by
 by_cases hk : k < l.length
 ·rw [List.getD_eq_getElem?_getD, List.getElem?_eq_getElem hk, Option.getD_some]
  unfold pxOk at h
  have := List.all_eq_true.1 h l[k] (List.getElem_mem hk)
  simpa using this
 ·rw [List.getD_eq_getElem?_getD, List.getElem?_eq_none (by omega)]; exact Or.inl rfl
theorem rctF_01 {l : List UInt8} {a b up k : Nat} {m : List Int} (h : pxOk l = true) : rctF l a b m up k = 0 ∨ rctF l a b m up k = 1 := by
 unfold rctF; split
 ·exact px_01 h _
 ·exact Or.inl rfl
end Go.Am

namespace Go.Am
open Go
attribute [local irreducible] Wp WpO WpX WpE
theorem rect_ink {a b u x y mx : Nat} {l : List UInt8} {m : List Int} (hx : x < a) (hm : (m.getD x 0).toNat = mx) : inkB a b l x ((mx : Int) - (u : Int) + (y : Int)) = (rctF l a b m u (y * a + x) == 1) := by
 obtain ⟨e1, e2⟩ := rct_at (y := y) hx
 rw [rctF, e1, e2, hm]
 by_cases h : u ≤ mx + y ∧ mx + y < u + b
 ·rw [if_pos h, show ((mx : Int) - (u : Int) + (y : Int)) = ((mx + y - u : Nat) : Int) by omega, inkB_nat hx (by omega)]
 ·rw [if_neg h]
  unfold inkB
  by_cases h1 : (mx : Int) - (u : Int) + (y : Int) ≥ 0
  ·rw [decide_eq_false (p := (mx : Int) - (u : Int) + (y : Int) < (b : Int)) (by omega)]
   simp
  ·rw [decide_eq_false h1]
   simp
theorem one_of {c : UInt8} (h : c = 0 ∨ c = 1) : ((c == 1) = true → c = 1) ∧ ((c == 1) = false → c = 0) := by
 rcases h with rfl | rfl <;> decide
theorem K_refRectify {w h up down : Int} {p q : AVal} {H : AHeap} {l : List UInt8} {ls : List (List Int)} [hp : BytesI H p l] [hq : LinesI H q ls] : Con ext prog 9 77 [.agg [.int .i64 w, .int .i64 h, p], .agg [q], .int .i64 up, .int .i64 down] H fun v H' => InkRes H H' v (rectS ⟨w, h, l⟩ ls up down) := by
 refine con_of (show prog 77 = some c77 from rfl) rfl rfl fun n hn => ?_
 obtain ⟨ps, hps, hrw⟩ := hq.it
 haveI := hp.one
 haveI := hps.one
 cases h0 : (checkS ⟨w, h, l⟩ ls == 0)
 ·have e1 : rectS ⟨w, h, l⟩ ls up down = (.zero, checkS ⟨w, h, l⟩ ls) := by simp only [rectS, h0, cond_false]
  rw [e1]
  repeat first
   | refine mI ?_
   | (refine Fo.ldN rfl rfl (by simp only [↓nrmL, nrmZ, Nat.reduceEqDiff, ↓reduceIte, Nat.reduceAdd, Int.reduceBEq, Int.reduceBNe, h0, bne]; rfl) ?_)
   | (refine bn rfl rfl rfl (by simp only [↓nrmL, nrmZ, Nat.reduceEqDiff, ↓reduceIte, Nat.reduceAdd, Int.reduceBEq, Int.reduceBNe, h0, bne]; rfl) ?_)
   | (refine Fo.pcall (v' := ?_) hn rfl (by simp only [↓nrmL, nrmZ, Nat.reduceEqDiff, ↓reduceIte, Nat.reduceAdd, Int.reduceBEq, Int.reduceBNe, h0, bne, List.map]; rfl) rfl ?hv fun _ _ => ?_; case hv => rfl)
   | refine bA ?_
   | refine nw ?_
   | (refine ob (cs' := ?_) ?hc ?_; case hc => rfl)
   | (refine so rfl (rfl : _ = AVal.agg _) rfl rfl rfl (by simp only [↓nrmL, nrmZ, Nat.reduceEqDiff, ↓reduceIte, Nat.reduceAdd, Int.reduceBEq, Int.reduceBNe, h0, bne]; rfl) ?_)
   | refine nl hKF ?_
   | refine sq ?_
   | refine rg fun KF hKF => ?_
   | refine ct rfl ?_
   | refine rt ?_
   | dsimp only [cond_true, cond_false]
  refine rz trivial ?_
  exact ⟨_, rfl, newZero⟩
 obtain ⟨a, b, rfl, rfl, ok, hfit⟩ := checkS_ok h0
 obtain ⟨hl5, hpaths⟩ := fitsB_iff hfit
 have h4l : 4 < ls.length := by omega
 have hm := hpaths 4 h4l
 obtain ⟨hml, ha0⟩ := pathB_len hm
 obtain ⟨q4, hq4, hI4⟩ := hrw.it 4 h4l
 obtain ⟨m, hmdef⟩ : ∃ m, ls[4] = m := ⟨_, rfl⟩
 rw [hmdef] at hm hml hI4
 haveI := hI4
 haveI := hI4.one
 have ha := ok.wa
 have hb := ok.hb
 have hlen := ok.len
 have hpx := ok.px
 cases hu0 : decide (up < 0)
 rotate_left
 ·have e1 : rectS ⟨a, b, l⟩ ls up down = (.zero, 1) := by simp only [rectS, h0, hu0, cond_true, Bool.true_or]
  rw [e1]
  repeat first
   | refine ox ?_
   | refine mI ?_
   | refine mB ?_
   | (refine Fo.ldN rfl rfl (by simp only [↓nrmL, nrmZ, Nat.reduceEqDiff, ↓reduceIte, Nat.reduceAdd, Int.reduceBEq, Int.reduceBNe, h0, bne, hu0]; rfl) ?_)
   | (refine bn rfl rfl rfl (by simp only [↓nrmL, nrmZ, Nat.reduceEqDiff, ↓reduceIte, Nat.reduceAdd, Int.reduceBEq, Int.reduceBNe, h0, bne, hu0]; rfl) ?_)
   | refine tB ?_
   | (refine Fo.pcall (v' := ?_) hn rfl (by simp only [↓nrmL, nrmZ, Nat.reduceEqDiff, ↓reduceIte, Nat.reduceAdd, Int.reduceBEq, Int.reduceBNe, h0, bne, hu0, List.map]; rfl) rfl ?hv fun _ _ => ?_; case hv => rfl)
   | refine bA ?_
   | refine nw ?_
   | (refine ob (cs' := ?_) ?hc ?_; case hc => rfl)
   | (refine so rfl (rfl : _ = AVal.agg _) rfl rfl rfl (by simp only [↓nrmL, nrmZ, Nat.reduceEqDiff, ↓reduceIte, Nat.reduceAdd, Int.reduceBEq, Int.reduceBNe, h0, bne, hu0]; rfl) ?_)
   | refine nl hKF ?_
   | refine sq ?_
   | refine rg fun KF hKF => ?_
   | refine ct rfl ?_
   | refine cf rfl ?_
   | refine sk ?_
   | refine rt ?_
   | dsimp only [cond_true, cond_false]
  refine rz trivial ?_
  exact ⟨_, rfl, newZero⟩
 cases hd0 : decide (down < 0)
 rotate_left
 ·have e1 : rectS ⟨a, b, l⟩ ls up down = (.zero, 1) := by simp only [rectS, h0, hu0, hd0, cond_true, Bool.or_true]
  rw [e1]
  repeat first
   | refine oy ?_
   | refine mI ?_
   | refine mB ?_
   | (refine Fo.ldN rfl rfl (by simp only [↓nrmL, nrmZ, Nat.reduceEqDiff, ↓reduceIte, Nat.reduceAdd, Int.reduceBEq, Int.reduceBNe, h0, bne, hu0, hd0]; rfl) ?_)
   | (refine bn rfl rfl rfl (by simp only [↓nrmL, nrmZ, Nat.reduceEqDiff, ↓reduceIte, Nat.reduceAdd, Int.reduceBEq, Int.reduceBNe, h0, bne, hu0, hd0]; rfl) ?_)
   | refine fB ?_
   | (refine Fo.pcall (v' := ?_) hn rfl (by simp only [↓nrmL, nrmZ, Nat.reduceEqDiff, ↓reduceIte, Nat.reduceAdd, Int.reduceBEq, Int.reduceBNe, h0, bne, hu0, hd0, List.map]; rfl) rfl ?hv fun _ _ => ?_; case hv => rfl)
   | refine bA ?_
   | refine nw ?_
   | (refine ob (cs' := ?_) ?hc ?_; case hc => rfl)
   | (refine so rfl (rfl : _ = AVal.agg _) rfl rfl rfl (by simp only [↓nrmL, nrmZ, Nat.reduceEqDiff, ↓reduceIte, Nat.reduceAdd, Int.reduceBEq, Int.reduceBNe, h0, bne, hu0, hd0]; rfl) ?_)
   | refine nl hKF ?_
   | refine sq ?_
   | refine rg fun KF hKF => ?_
   | refine ct rfl ?_
   | refine cf rfl ?_
   | refine sk ?_
   | refine rt ?_
   | dsimp only [cond_true, cond_false]
  refine rz trivial ?_
  exact ⟨_, rfl, newZero⟩
 obtain ⟨u, rfl⟩ : ∃ k : Nat, up = k := ⟨up.toNat, by have := of_decide_eq_false hu0; omega⟩
 obtain ⟨d, rfl⟩ : ∃ k : Nat, down = k := ⟨down.toNat, by have := of_decide_eq_false hd0; omega⟩
 cases hu1 : decide ((u : Int) > 639)
 rotate_left
 ·have hq : decide ((u : Int) + (d : Int) + 1 ≤ 640) = false := decide_eq_false (by have := of_decide_eq_true hu1; omega)
  have e1 : rectS ⟨a, b, l⟩ ls u d = (.zero, 2) := by simp only [rectS, h0, hu0, hd0, cond_true, Bool.or_false, cond_false, hq]
  rw [e1]
  repeat first
   | refine oy ?_
   | refine ox ?_
   | refine mI ?_
   | refine mB ?_
   | (refine Fo.ldN rfl rfl (by simp only [↓nrmL, nrmZ, Nat.reduceEqDiff, ↓reduceIte, Nat.reduceAdd, Int.reduceBEq, Int.reduceBNe, h0, bne, hu0, hd0, hu1]; rfl) ?_)
   | (refine bn rfl rfl rfl (by simp only [↓nrmL, nrmZ, Nat.reduceEqDiff, ↓reduceIte, Nat.reduceAdd, Int.reduceBEq, Int.reduceBNe, h0, bne, hu0, hd0, hu1]; rfl) ?_)
   | refine tB ?_
   | refine fB ?_
   | (refine Fo.pcall (v' := ?_) hn rfl (by simp only [↓nrmL, nrmZ, Nat.reduceEqDiff, ↓reduceIte, Nat.reduceAdd, Int.reduceBEq, Int.reduceBNe, h0, bne, hu0, hd0, hu1, List.map]; rfl) rfl ?hv fun _ _ => ?_; case hv => rfl)
   | refine bA ?_
   | refine nw ?_
   | (refine ob (cs' := ?_) ?hc ?_; case hc => rfl)
   | (refine so rfl (rfl : _ = AVal.agg _) rfl rfl rfl (by simp only [↓nrmL, nrmZ, Nat.reduceEqDiff, ↓reduceIte, Nat.reduceAdd, Int.reduceBEq, Int.reduceBNe, h0, bne, hu0, hd0, hu1]; rfl) ?_)
   | refine nl hKF ?_
   | refine sq ?_
   | refine rg fun KF hKF => ?_
   | refine ct rfl ?_
   | refine cf rfl ?_
   | refine sk ?_
   | refine rt ?_
   | dsimp only [cond_true, cond_false]
  refine rz trivial ?_
  exact ⟨_, rfl, newZero⟩
 have hu9 : u ≤ 639 := by have := of_decide_eq_false hu1; omega
 have s1 : IntKind.i64.wrap (639 - (u : Int)) = 639 - (u : Int) := w64 (by omega)
 cases hd1 : decide ((d : Int) > 639 - (u : Int))
 rotate_left
 ·have hq : decide ((u : Int) + (d : Int) + 1 ≤ 640) = false := decide_eq_false (by have := of_decide_eq_true hd1; omega)
  have e1 : rectS ⟨a, b, l⟩ ls u d = (.zero, 2) := by simp only [rectS, h0, hu0, hd0, cond_true, Bool.or_false, cond_false, hq]
  rw [e1]
  repeat first
   | refine oy ?_
   | refine mI ?_
   | refine mB ?_
   | (refine Fo.ldN rfl rfl (by simp only [↓nrmL, nrmZ, Nat.reduceEqDiff, ↓reduceIte, Nat.reduceAdd, Int.reduceBEq, Int.reduceBNe, h0, bne, hu0, hd0, hu1, s1, hd1]; rfl) ?_)
   | (refine bn rfl rfl rfl (by simp only [↓nrmL, nrmZ, Nat.reduceEqDiff, ↓reduceIte, Nat.reduceAdd, Int.reduceBEq, Int.reduceBNe, h0, bne, hu0, hd0, hu1, s1, hd1]; rfl) ?_)
   | refine fB ?_
   | (refine Fo.pcall (v' := ?_) hn rfl (by simp only [↓nrmL, nrmZ, Nat.reduceEqDiff, ↓reduceIte, Nat.reduceAdd, Int.reduceBEq, Int.reduceBNe, h0, bne, hu0, hd0, hu1, s1, hd1, List.map]; rfl) rfl ?hv fun _ _ => ?_; case hv => rfl)
   | refine bA ?_
   | refine nw ?_
   | (refine ob (cs' := ?_) ?hc ?_; case hc => rfl)
   | (refine so rfl (rfl : _ = AVal.agg _) rfl rfl rfl (by simp only [↓nrmL, nrmZ, Nat.reduceEqDiff, ↓reduceIte, Nat.reduceAdd, Int.reduceBEq, Int.reduceBNe, h0, bne, hu0, hd0, hu1, s1, hd1]; rfl) ?_)
   | refine nl hKF ?_
   | refine sq ?_
   | refine rg fun KF hKF => ?_
   | refine ct rfl ?_
   | refine cf rfl ?_
   | refine sk ?_
   | refine rt ?_
   | dsimp only [cond_true, cond_false]
  refine rz trivial ?_
  exact ⟨_, rfl, newZero⟩
 have hd9 : u + d + 1 ≤ 640 := by have := of_decide_eq_false hd1; omega
 obtain ⟨c, hc⟩ : ∃ c, u + d + 1 = c := ⟨_, rfl⟩
 have hq : decide ((u : Int) + (d : Int) + 1 ≤ 640) = true := decide_eq_true (by omega)
 have e0 : (u : Int) + (d : Int) + 1 = (c : Int) := by omega
 rw [e0] at hq
 have e1 : rectS ⟨a, b, l⟩ ls u d = (⟨a, c, rctL l a b m u c⟩, 0) := by
  simp only [rectS, h0, hu0, hd0, cond_true, Bool.or_false, cond_false, hq, e0, Int.toNat_natCast, getDL_at h4l, hmdef]
 rw [e1]
 have hcl : c ≤ 640 := by omega
 have m1 : IntKind.i64.wrap ((u : Int) + (d : Int)) = ((u + d : Nat) : Int) := wa (by omega)
 have m2 : IntKind.i64.wrap (((u + d : Nat) : Int) + 1) = (c : Int) := by rw [wa1 (by omega), hc]
 have hmc : a * c ≤ 640 * 640 := Nat.mul_le_mul ha hcl
 haveI : Fits a b l := ⟨ok.sized⟩
 repeat first
  | refine oy ?_
  | refine mI ?_
  | refine mB ?_
  | refine fd ?_
  | refine Fo.ld rfl rfl ?_
  | (refine Fo.ldN rfl rfl (by simp only [↓nrmL, nrmZ, Nat.reduceEqDiff, ↓reduceIte, Nat.reduceAdd, Int.reduceBEq, Int.reduceBNe, h0, bne, hu0, hd0, hu1, s1, hd1, m1, m2]; rfl) ?_)
  | (refine bn rfl rfl rfl (by simp only [↓nrmL, nrmZ, Nat.reduceEqDiff, ↓reduceIte, Nat.reduceAdd, Int.reduceBEq, Int.reduceBNe, h0, bne, hu0, hd0, hu1, s1, hd1, m1, m2]; rfl) ?_)
  | refine fB ?_
  | (refine Fo.pcall (v' := ?_) hn rfl (by simp only [↓nrmL, nrmZ, Nat.reduceEqDiff, ↓reduceIte, Nat.reduceAdd, Int.reduceBEq, Int.reduceBNe, h0, bne, hu0, hd0, hu1, s1, hd1, m1, m2, List.map]; rfl) rfl ?hv fun _ _ => ?_; case hv => rfl)
  | refine bA ?_
  | refine nw ?_
  | refine nl hKF ?_
  | refine sq ?_
  | refine rg fun KF hKF => ?_
  | refine cf rfl ?_
  | refine sk ?_
 refine WpO.do (WpX.conD hn rfl rfl (by simp only [↓nrmL, nrmZ, Nat.reduceEqDiff, ↓reduceIte, Nat.reduceAdd, Int.reduceBEq, Int.reduceBNe, List.map] <;> rfl) (K_refNew (w := a) (h := c) ha hcl) fun v H6 ⟨o, e2, ho, hf, hw, hx⟩ => ?_)
 subst e2
 haveI : ExtI _ H6 := ⟨hx⟩
 haveI := ho.one
 have ho : BytesI H6 o (List.replicate (a * c) 0) := ho
 refine nw ?_
 refine so rfl (rfl : _ = AVal.agg _) rfl rfl rfl (by simp only [↓nrmL, nrmZ, Nat.reduceEqDiff, ↓reduceIte, Nat.reduceAdd, Int.reduceBEq, Int.reduceBNe]; rfl) ?_
 refine nl hKF ?_
 refine sq ?_
 refine sq ?_
 refine rg fun KF hKF => ?_
 refine mI ?_
 refine nl hKF ?_
 refine Wp.block ?_
 dsimp only [cond_true, cond_false]
 refine Wp.loopS [12, 13, 44, 45, 46, 47, 48, 49, 50, 51, 52, 53, 54, 55, 56, 57, 58, 59, 60, 61, 62, 63, 64, 65, 66, 67, 68, 69, 70, 71, 72, 73] (fun y : Nat => [(12, .int .i64 y)]) (fun H3 y H2 => y ≤ c ∧ BytesI H2 o (filled (rctF l a b m u) (y * a) (a * c)) ∧ WrS H2 o ∧ ExtP0 H3 H2 o) (fun y => c - y) 0 rfl (fun _ => rfl) ⟨rfl, trivial⟩ ⟨Nat.zero_le _, by rw [Nat.zero_mul, filled_zero]; infer_instance, inferInstance, inferInstance⟩ (by unfold fuel0 at hn; omega) ?_
 rintro y g H2 ⟨hy, hb2, hw2, ⟨hx2⟩⟩
 simp only [↓nrmL, nrmZ, Nat.reduceEqDiff, ↓reduceIte, Nat.reduceAdd, Int.reduceBEq, Int.reduceBNe]
 cases hcy : decide ((y : Int) < (c : Int))
 ·have hyb : y = c := by have := of_decide_eq_false hcy; omega
  subst hyb
  rw [Nat.mul_comm y a, filled_all] at hb2
  repeat first
   | refine mI ?_
   | refine fd ?_
   | refine Fo.ld rfl rfl ?_
   | (refine Fo.ldN rfl rfl (by simp only [↓nrmL, nrmZ, Nat.reduceEqDiff, ↓reduceIte, Nat.reduceAdd, Int.reduceBEq, Int.reduceBNe, hcy]; rfl) ?_)
   | (refine bn rfl rfl rfl (by simp only [↓nrmL, nrmZ, Nat.reduceEqDiff, ↓reduceIte, Nat.reduceAdd, Int.reduceBEq, Int.reduceBNe, hcy]; rfl) ?_)
   | (refine so rfl (rfl : _ = AVal.agg _) rfl rfl rfl (by simp only [↓nrmL, nrmZ, Nat.reduceEqDiff, ↓reduceIte, Nat.reduceAdd, Int.reduceBEq, Int.reduceBNe, hcy]; rfl) ?_)
   | refine nl hKF ?_
   | refine sq ?_
   | refine rg fun KF hKF => ?_
   | refine cf rfl ?_
   | refine rt ?_
   | refine xi ?_
   | dsimp only [cond_true, cond_false]
  refine rz trivial ?_
  exact ⟨_, rfl, o, rfl, (show BytesI _ o (rctL l a b m u y) from inferInstance), hf.weak, inferInstance, Ext0.ext⟩
 have hyb : y < c := by have := of_decide_eq_true hcy; omega
 repeat first
  | refine mI ?_
  | refine fd ?_
  | refine Fo.ld rfl rfl ?_
  | (refine bn rfl rfl rfl (by simp only [↓nrmL, nrmZ, Nat.reduceEqDiff, ↓reduceIte, Nat.reduceAdd, Int.reduceBEq, Int.reduceBNe, hcy]; rfl) ?_)
  | refine nl hKF ?_
  | refine sq ?_
  | refine rg fun KF hKF => ?_
  | refine ct rfl ?_
  | refine sk ?_
  | refine Wp.block ?_
  | dsimp only [cond_true, cond_false]
 refine Wp.loopS [13, 50, 51, 52, 53, 54, 55, 56, 57, 58, 59, 60, 61, 62, 63, 64, 65, 66, 67, 68, 69, 70, 71, 72, 73] (fun x : Nat => [(13, .int .i64 x)]) (fun H3 x H7 => x ≤ a ∧ BytesI H7 o (filled (rctF l a b m u) (y * a + x) (a * c)) ∧ WrS H7 o ∧ ExtP0 H3 H7 o) (fun x => a - x) 0 rfl (fun _ => rfl) ⟨rfl, trivial⟩ ⟨Nat.zero_le _, inferInstance, inferInstance, inferInstance⟩ (by unfold fuel0 at hn; omega) ?_
 rintro x g2 H7 ⟨hx0, hb4, hw4, ⟨hx4⟩⟩
 simp only [↓nrmL, nrmZ, Nat.reduceEqDiff, ↓reduceIte, Nat.reduceAdd, Int.reduceBEq, Int.reduceBNe]
 cases hcx : decide ((x : Int) < (a : Int))
 ·have hxa : x = a := by have := of_decide_eq_false hcx; omega
  subst hxa
  have hw1 := wa1 (a := y) (by omega)
  repeat first
   | refine mI ?_
   | refine fd ?_
   | refine Fo.ld rfl rfl ?_
   | (refine bn rfl rfl rfl (by simp only [↓nrmL, nrmZ, Nat.reduceEqDiff, ↓reduceIte, Nat.reduceAdd, Int.reduceBEq, Int.reduceBNe, hcx]; rfl) ?_)
   | refine b0 ?_
   | refine nl hKF ?_
   | refine sq ?_
   | refine rg fun KF hKF => ?_
   | refine cf rfl ?_
   | refine xi ?_
   | dsimp only [cond_true, cond_false]
  refine ⟨y + 1, by omega, ⟨by simp only [↓nrmL, nrmZ, Nat.reduceEqDiff, ↓reduceIte, Nat.reduceAdd, Int.reduceBEq, Int.reduceBNe]; rw [hw1], trivial⟩, hyb, by rw [Nat.add_mul, Nat.one_mul]; infer_instance, inferInstance, inferInstance⟩
 have hxa : x < a := by have := of_decide_eq_true hcx; omega
 have hlt := idx_lt hxa hyb
 have hw1 := wa1 (a := x) (by omega)
 have hfl := filled_length (rctF l a b m u) (y * a + x) (a * c)
 have hxm : x < m.length := by omega
 obtain ⟨hm0, hmb⟩ := pathB_range hm hxm
 obtain ⟨mx, hmx⟩ : ∃ k : Nat, m[x] = (k : Int) := ⟨m[x].toNat, by omega⟩
 have hgx : (m.getD x 0).toNat = mx := by rw [getD_at hxm, hmx]; rfl
 have c1 : IntKind.i64.wrap ((mx : Int) - (u : Int)) = (mx : Int) - (u : Int) := w64 (by omega)
 have c2 : IntKind.i64.wrap ((mx : Int) - (u : Int) + (y : Int)) = (mx : Int) - (u : Int) + (y : Int) := w64 (by omega)
 have k1 := rect_ink (b := b) (u := u) (y := y) (l := l) hxa hgx
 have k2 := one_of (rctF_01 (a := a) (b := b) (m := m) (up := u) (k := y * a + x) hpx)
 cases ht : inkB a b l x ((mx : Int) - (u : Int) + (y : Int))
 ·have h9 := k2.2 (by rw [← k1]; exact ht)
  repeat first
   | refine mI ?_
   | refine fd ?_
   | refine Fo.ld rfl rfl ?_
   | (refine bn rfl rfl rfl (by simp only [↓nrmL, nrmZ, Nat.reduceEqDiff, ↓reduceIte, Nat.reduceAdd, Int.reduceBEq, Int.reduceBNe, hcx]; rfl) ?_)
   | refine nl hKF ?_
   | refine sq ?_
   | refine rg fun KF hKF => ?_
   | refine ct rfl ?_
   | refine sk ?_
   | refine Wp.block ?_
   | dsimp only [cond_true, cond_false]
  refine Fr.dregion0 rfl fun KF hKF => ?_
  repeat first
   | (refine Er rfl (exec_ld rfl rfl) rfl ?_)
   | (refine Er rfl (exec_ldN rfl rfl (by simp only [↓nrmL, nrmZ, Nat.reduceEqDiff, ↓reduceIte, Nat.reduceAdd, Int.reduceBEq, Int.reduceBNe]; rfl)) rfl ?_)
   | (refine Fe.pure rfl rfl (by simp only [↓nrmL, nrmZ, Nat.reduceEqDiff, ↓reduceIte, Nat.reduceAdd, Int.reduceBEq, Int.reduceBNe]; rfl) ?_)
   | (refine Fe.pure rfl (exec_idxP (by (try simp only [↓nrmL, nrmZ, Nat.reduceEqDiff, ↓reduceIte, Nat.reduceAdd, Int.reduceBEq, Int.reduceBNe]); rfl) rfl ?_) (by simp only [↓nrmL, nrmZ, Nat.reduceEqDiff, ↓reduceIte, Nat.reduceAdd, Int.reduceBEq, Int.reduceBNe]; rfl) ?_; (focus omega))
  refine Fe.read rfl (exec_ldP (p := q) (j := 4) rfl hq4) rfl trivial ?_
  simp only [↓nrmL, nrmZ, Nat.reduceEqDiff, ↓reduceIte, Nat.reduceAdd, Int.reduceBEq, Int.reduceBNe, hmx, c1, c2]
  repeat first
   | (refine Fe.pure rfl rfl (by simp only [↓nrmL, nrmZ, Nat.reduceEqDiff, ↓reduceIte, Nat.reduceAdd, Int.reduceBEq, Int.reduceBNe, hmx, c1, c2]; rfl) ?_)
   | (refine Fe.pure rfl (exec_idxP (by (try simp only [↓nrmL, nrmZ, Nat.reduceEqDiff, ↓reduceIte, Nat.reduceAdd, Int.reduceBEq, Int.reduceBNe, hmx, c1, c2]); rfl) rfl ?_) (by simp only [↓nrmL, nrmZ, Nat.reduceEqDiff, ↓reduceIte, Nat.reduceAdd, Int.reduceBEq, Int.reduceBNe, hmx, c1, c2]; rfl) ?_; (focus omega))
   | (refine Er rfl (exec_ldI rfl (by omega)) (by simp only [↓nrmL, nrmZ, Nat.reduceEqDiff, ↓reduceIte, Nat.reduceAdd, Int.reduceBEq, Int.reduceBNe, hmx, c1, c2]; rfl) ?_)
   | (refine Fe.pcall (v' := ?_) rfl hn rfl (by simp only [↓nrmL, nrmZ, Nat.reduceEqDiff, ↓reduceIte, Nat.reduceAdd, Int.reduceBEq, Int.reduceBNe, hmx, c1, c2, List.map]; rfl) rfl ?hv fun _ _ => ar ?_; case hv => rfl)
   | refine WpE.nil (hKF _ _ ?_)
  simp only [ht]
  refine cf rfl ?_
  refine sk ?_
  refine rg fun KF hKF => ?_
  refine mI ?_
  refine b0 ?_
  refine mI ?_
  refine nl hKF ?_
  dsimp only [cond_true, cond_false]
  refine ⟨x + 1, by omega, ⟨by simp only [↓nrmL, nrmZ, Nat.reduceEqDiff, ↓reduceIte, Nat.reduceAdd, Int.reduceBEq, Int.reduceBNe]; rw [hw1], trivial⟩, hxa, by rw [show y * a + (x + 1) = y * a + x + 1 by omega, filled_skip h9]; infer_instance, inferInstance, inferInstance⟩
 ·have h9 := k2.1 (by rw [← k1]; exact ht)
  repeat first
   | refine mI ?_
   | refine fd ?_
   | refine Fo.ld rfl rfl ?_
   | (refine bn rfl rfl rfl (by simp only [↓nrmL, nrmZ, Nat.reduceEqDiff, ↓reduceIte, Nat.reduceAdd, Int.reduceBEq, Int.reduceBNe, hcx]; rfl) ?_)
   | refine nl hKF ?_
   | refine sq ?_
   | refine rg fun KF hKF => ?_
   | refine ct rfl ?_
   | refine sk ?_
   | refine Wp.block ?_
   | dsimp only [cond_true, cond_false]
  refine Fr.dregion0 rfl fun KF hKF => ?_
  repeat first
   | (refine Er rfl (exec_ld rfl rfl) rfl ?_)
   | (refine Er rfl (exec_ldN rfl rfl (by simp only [↓nrmL, nrmZ, Nat.reduceEqDiff, ↓reduceIte, Nat.reduceAdd, Int.reduceBEq, Int.reduceBNe]; rfl)) rfl ?_)
   | (refine Fe.pure rfl rfl (by simp only [↓nrmL, nrmZ, Nat.reduceEqDiff, ↓reduceIte, Nat.reduceAdd, Int.reduceBEq, Int.reduceBNe]; rfl) ?_)
   | (refine Fe.pure rfl (exec_idxP (by (try simp only [↓nrmL, nrmZ, Nat.reduceEqDiff, ↓reduceIte, Nat.reduceAdd, Int.reduceBEq, Int.reduceBNe]); rfl) rfl ?_) (by simp only [↓nrmL, nrmZ, Nat.reduceEqDiff, ↓reduceIte, Nat.reduceAdd, Int.reduceBEq, Int.reduceBNe]; rfl) ?_; (focus omega))
  refine Fe.read rfl (exec_ldP (p := q) (j := 4) rfl hq4) rfl trivial ?_
  simp only [↓nrmL, nrmZ, Nat.reduceEqDiff, ↓reduceIte, Nat.reduceAdd, Int.reduceBEq, Int.reduceBNe, hmx, c1, c2]
  repeat first
   | (refine Fe.pure rfl rfl (by simp only [↓nrmL, nrmZ, Nat.reduceEqDiff, ↓reduceIte, Nat.reduceAdd, Int.reduceBEq, Int.reduceBNe, hmx, c1, c2]; rfl) ?_)
   | (refine Fe.pure rfl (exec_idxP (by (try simp only [↓nrmL, nrmZ, Nat.reduceEqDiff, ↓reduceIte, Nat.reduceAdd, Int.reduceBEq, Int.reduceBNe, hmx, c1, c2]); rfl) rfl ?_) (by simp only [↓nrmL, nrmZ, Nat.reduceEqDiff, ↓reduceIte, Nat.reduceAdd, Int.reduceBEq, Int.reduceBNe, hmx, c1, c2]; rfl) ?_; (focus omega))
   | (refine Er rfl (exec_ldI rfl (by omega)) (by simp only [↓nrmL, nrmZ, Nat.reduceEqDiff, ↓reduceIte, Nat.reduceAdd, Int.reduceBEq, Int.reduceBNe, hmx, c1, c2]; rfl) ?_)
   | (refine Fe.pcall (v' := ?_) rfl hn rfl (by simp only [↓nrmL, nrmZ, Nat.reduceEqDiff, ↓reduceIte, Nat.reduceAdd, Int.reduceBEq, Int.reduceBNe, hmx, c1, c2, List.map]; rfl) rfl ?hv fun _ _ => ar ?_; case hv => rfl)
   | refine WpE.nil (hKF _ _ ?_)
  simp only [ht]
  refine ct rfl ?_
  refine rg fun KF hKF => ?_
  refine Fo.ldN rfl rfl (by simp only [↓nrmL, nrmZ, Nat.reduceEqDiff, ↓reduceIte, Nat.reduceAdd, Int.reduceBEq, Int.reduceBNe, ht]; rfl) ?_
  refine mI ?_
  refine mI ?_
  refine WpO.do (WpX.conD hn rfl rfl (by simp only [↓nrmL, nrmZ, Nat.reduceEqDiff, ↓reduceIte, Nat.reduceAdd, Int.reduceBEq, Int.reduceBNe, List.map] <;> rfl) (K_refSet (y := y) (x := x) (by rw [hfl]; exact hlt) (by rw [hfl]; omega)) fun v H5 h5 => ?_)
  obtain ⟨hb5, hw5, hx5⟩ := h5
  repeat first
   | refine mI ?_
   | refine b0 ?_
   | refine nl hKF ?_
   | refine rg fun KF hKF => ?_
   | dsimp only [cond_true, cond_false]
  refine ⟨x + 1, by omega, ⟨by simp only [↓nrmL, nrmZ, Nat.reduceEqDiff, ↓reduceIte, Nat.reduceAdd, Int.reduceBEq, Int.reduceBNe]; rw [hw1], trivial⟩, hxa, by rw [show y * a + (x + 1) = y * a + x + 1 by omega, ← filled_succ, h9]; infer_instance, inferInstance, inferInstance⟩
end Go.Am

namespace Go.Am
open Go
attribute [local irreducible] Wp WpO WpX WpE
theorem rstF_v {l s : List UInt8} {a h : Nat} {m : List Int} {u k : Nat} (h1 : pxOk l = true) (h2 : pxOk s = true) : rstF l s a h m u k = 0 ∨ rstF l s a h m u k = 1 := by
 unfold rstF
 split
 ·exact px_01 h2 _
 ·exact px_01 h1 _
theorem rest_in {a c u x y mx : Nat} {l s : List UInt8} {m : List Int} (hx : x < a) (hm : (m.getD x 0).toNat = mx) (h1 : mx ≤ y + u) (h2 : y + u < mx + c) : inkB a c s x ((y + u - mx : Nat) : Int) = (rstF l s a c m u (y * a + x) == 1) := by
 obtain ⟨e1, e2⟩ := rct_at (y := y) hx
 rw [rstF, e1, e2, hm, if_pos ⟨h1, h2⟩, inkB_nat hx (by omega)]
theorem rest_out {a b c u x y mx : Nat} {l s : List UInt8} {m : List Int} (hx : x < a) (hy : y < b) (hm : (m.getD x 0).toNat = mx) (h1 : ¬ (mx ≤ y + u ∧ y + u < mx + c)) : inkB a b l x y = (rstF l s a c m u (y * a + x) == 1) := by
 obtain ⟨e1, e2⟩ := rct_at (y := y) hx
 rw [rstF, e1, e2, hm, if_neg h1, inkB_nat hx hy]
theorem err_short {w h : Int} {l : List UInt8} (h0 : (Img.err ⟨w, h, l⟩ == 0) = true) : w.toNat * h.toNat ≤ 409600 := by
 obtain ⟨a, b, rfl, rfl, ok⟩ := ok_of h0
 simp only [Int.toNat_natCast]
 have := Nat.mul_le_mul ok.wa ok.hb
 omega
theorem rectS_short (g : Img) (ls : List (List Int)) (up down : Int) : (rectS g ls up down).1.px.length ≤ 999999 := by
 unfold rectS
 cases h0 : (checkS g ls == 0)
 ·simp [Img.zero]
 cases h1 : (decide (up < 0) || decide (down < 0))
 ·cases h2 : decide (up + down + 1 ≤ 640)
  ·simp [Img.zero]
  ·obtain ⟨w, h, l⟩ := g
   obtain ⟨a, b, rfl, rfl, ok, _⟩ := checkS_ok h0
   have h3 := of_decide_eq_true h2
   simp only [cond_true, cond_false, rctL, List.length_map, List.length_range, Int.toNat_natCast]
   have h4 : (up + down + 1).toNat ≤ 640 := by omega
   have := Nat.mul_le_mul ok.wa h4
   omega
 ·simp [Img.zero]
theorem restS_short (g s : Img) (ls : List (List Int)) (up : Int) : (restS g s ls up).1.px.length ≤ 999999 := by
 unfold restS
 cases h0 : (g.err == 0)
 ·simp [Img.zero]
 cases h1 : (s.err == 0)
 ·simp [Img.zero]
 cases h2 : fitsB g.w.toNat g.h.toNat ls
 ·simp [Img.zero]
 cases h3 : (decide (up < 0) || decide (up ≥ s.h))
 ·cases h4 : (s.w != g.w)
  ·obtain ⟨w, h, l⟩ := g
   have := err_short h0
   simp only [cond_true, cond_false, rstL, List.length_map, List.length_range]
   omega
  ·simp [Img.zero]
 ·simp [Img.zero]
theorem K_refRestore {w h w2 h2 up : Int} {p p2 q : AVal} {H : AHeap} {l s : List UInt8} {ls : List (List Int)} [hp : BytesI H p l] [hp2 : BytesI H p2 s] [hq : LinesI H q ls] : Con ext prog 9 78 [.agg [.int .i64 w, .int .i64 h, p], .agg [.int .i64 w2, .int .i64 h2, p2], .agg [q], .int .i64 up] H fun v H' => InkRes H H' v (restS ⟨w, h, l⟩ ⟨w2, h2, s⟩ ls up) := by
 refine con_of (show prog 78 = some c78 from rfl) rfl rfl fun n hn => ?_
 obtain ⟨ps, hps, hrw⟩ := hq.it
 haveI := hp.one
 haveI := hp2.one
 haveI := hps.one
 cases h0 : (Img.err ⟨w, h, l⟩ == 0)
 ·have e1 : restS ⟨w, h, l⟩ ⟨w2, h2, s⟩ ls up = (.zero, Img.err ⟨w, h, l⟩) := by simp only [restS, h0, cond_false]
  rw [e1]
  repeat first
   | refine mI ?_
   | (refine Fo.ldN rfl rfl (by simp only [↓nrmL, nrmZ, Nat.reduceEqDiff, ↓reduceIte, Nat.reduceAdd, Int.reduceBEq, Int.reduceBNe, h0, bne]; rfl) ?_)
   | (refine bn rfl rfl rfl (by simp only [h0, bne]; rfl) ?_)
   | (refine Fo.pcall (v' := ?_) hn rfl (by simp only [↓nrmL, nrmZ, Nat.reduceEqDiff, ↓reduceIte, Nat.reduceAdd, Int.reduceBEq, Int.reduceBNe, h0, bne, List.map]; rfl) rfl ?hv fun _ _ => ?_; case hv => rfl)
   | refine bA ?_
   | refine nw ?_
   | (refine ob (cs' := ?_) ?hc ?_; case hc => rfl)
   | (refine so rfl (rfl : _ = AVal.agg _) rfl rfl rfl (by simp only [↓nrmL, nrmZ, Nat.reduceEqDiff, ↓reduceIte, Nat.reduceAdd, Int.reduceBEq, Int.reduceBNe, h0, bne]; rfl) ?_)
   | refine nl hKF ?_
   | refine sq ?_
   | refine rg fun KF hKF => ?_
   | refine ct rfl ?_
   | refine rt ?_
   | dsimp only [cond_true, cond_false]
  refine rz trivial ?_
  exact ⟨_, rfl, newZero⟩
 cases h02 : (Img.err ⟨w2, h2, s⟩ == 0)
 ·have e1 : restS ⟨w, h, l⟩ ⟨w2, h2, s⟩ ls up = (.zero, Img.err ⟨w2, h2, s⟩) := by simp only [restS, h0, h02, cond_false, cond_true]
  rw [e1]
  repeat first
   | refine mI ?_
   | (refine Fo.ldN rfl rfl (by simp only [↓nrmL, nrmZ, Nat.reduceEqDiff, ↓reduceIte, Nat.reduceAdd, Int.reduceBEq, Int.reduceBNe, h0, h02, bne]; rfl) ?_)
   | (refine bn rfl rfl rfl (by simp only [h0, h02, bne]; rfl) ?_)
   | (refine Fo.pcall (v' := ?_) hn rfl (by simp only [↓nrmL, nrmZ, Nat.reduceEqDiff, ↓reduceIte, Nat.reduceAdd, Int.reduceBEq, Int.reduceBNe, h0, h02, bne, List.map]; rfl) rfl ?hv fun _ _ => ?_; case hv => rfl)
   | refine bA ?_
   | refine nw ?_
   | (refine ob (cs' := ?_) ?hc ?_; case hc => rfl)
   | (refine so rfl (rfl : _ = AVal.agg _) rfl rfl rfl (by simp only [↓nrmL, nrmZ, Nat.reduceEqDiff, ↓reduceIte, Nat.reduceAdd, Int.reduceBEq, Int.reduceBNe, h0, h02, bne]; rfl) ?_)
   | refine nl hKF ?_
   | refine sq ?_
   | refine rg fun KF hKF => ?_
   | refine ct rfl ?_
   | refine cf rfl ?_
   | refine sk ?_
   | refine rt ?_
   | dsimp only [cond_true, cond_false]
  refine rz trivial ?_
  exact ⟨_, rfl, newZero⟩
 obtain ⟨a, b, rfl, rfl, ok⟩ := ok_of h0
 obtain ⟨a2, c, rfl, rfl, ok2⟩ := ok_of h02
 haveI : Side a := ⟨ok.wa⟩
 haveI : Side b := ⟨ok.hb⟩
 cases hfit : fitsB a b ls
 ·have e1 : restS ⟨a, b, l⟩ ⟨a2, c, s⟩ ls up = (.zero, 10) := by simp only [restS, h0, h02, cond_true, Int.toNat_natCast, hfit, cond_false]
  rw [e1]
  repeat first
   | refine mI ?_
   | (refine Fo.ldN rfl rfl (by simp only [↓nrmL, nrmZ, Nat.reduceEqDiff, ↓reduceIte, Nat.reduceAdd, Int.reduceBEq, Int.reduceBNe, h0, h02, bne, hfit]; rfl) ?_)
   | (refine bn rfl rfl rfl (by simp only [h0, h02, bne, hfit]; rfl) ?_)
   | (refine Fo.pcall (v' := ?_) hn rfl (by simp only [↓nrmL, nrmZ, Nat.reduceEqDiff, ↓reduceIte, Nat.reduceAdd, Int.reduceBEq, Int.reduceBNe, h0, h02, bne, hfit, List.map]; rfl) rfl ?hv fun _ _ => ?_; case hv => (simp only [h0, h02, bne, hfit]; rfl))
   | (refine Fo.pcall (v' := ?_) hn rfl (by simp only [↓nrmL, nrmZ, Nat.reduceEqDiff, ↓reduceIte, Nat.reduceAdd, Int.reduceBEq, Int.reduceBNe, h0, h02, bne, hfit, List.map]; rfl) rfl ?hv fun _ _ => ?_; case hv => rfl)
   | refine bA ?_
   | refine nw ?_
   | (refine ob (cs' := ?_) ?hc ?_; case hc => rfl)
   | (refine Fo.now rfl rfl (by simp only [↓nrmL, nrmZ, Nat.reduceEqDiff, ↓reduceIte, Nat.reduceAdd, Int.reduceBEq, Int.reduceBNe, h0, h02, bne, hfit]; rfl) ?_)
   | (refine so rfl (rfl : _ = AVal.agg _) rfl rfl rfl (by simp only [↓nrmL, nrmZ, Nat.reduceEqDiff, ↓reduceIte, Nat.reduceAdd, Int.reduceBEq, Int.reduceBNe, h0, h02, bne, hfit]; rfl) ?_)
   | refine nl hKF ?_
   | refine sq ?_
   | refine rg fun KF hKF => ?_
   | refine ct rfl ?_
   | refine cf rfl ?_
   | refine sk ?_
   | refine rt ?_
   | dsimp only [cond_true, cond_false]
  refine rz trivial ?_
  exact ⟨_, rfl, newZero⟩
 obtain ⟨hl5, hpaths⟩ := fitsB_iff hfit
 have h4l : 4 < ls.length := by omega
 have hm := hpaths 4 h4l
 obtain ⟨hml, ha0⟩ := pathB_len hm
 obtain ⟨q4, hq4, hI4⟩ := hrw.it 4 h4l
 obtain ⟨m, hmdef⟩ : ∃ m, ls[4] = m := ⟨_, rfl⟩
 rw [hmdef] at hm hml hI4
 haveI := hI4
 haveI := hI4.one
 have ha := ok.wa
 have hb := ok.hb
 have hlen := ok.len
 have hc640 := ok2.hb
 have hlen2 := ok2.len
 have hpx := ok.px
 have hpx2 := ok2.px
 cases hu0 : decide (up < 0)
 rotate_left
 ·have e1 : restS ⟨a, b, l⟩ ⟨a2, c, s⟩ ls up = (.zero, 1) := by simp only [restS, h0, h02, cond_true, Int.toNat_natCast, hfit, hu0, Bool.true_or]
  rw [e1]
  repeat first
   | refine ox ?_
   | refine mI ?_
   | refine mB ?_
   | (refine Fo.ldN rfl rfl (by simp only [↓nrmL, nrmZ, Nat.reduceEqDiff, ↓reduceIte, Nat.reduceAdd, Int.reduceBEq, Int.reduceBNe, h0, h02, bne, hfit, hu0]; rfl) ?_)
   | (refine bn rfl rfl rfl (by simp only [h0, h02, bne, hfit, hu0]; rfl) ?_)
   | refine tB ?_
   | (refine Fo.pcall (v' := ?_) hn rfl (by simp only [↓nrmL, nrmZ, Nat.reduceEqDiff, ↓reduceIte, Nat.reduceAdd, Int.reduceBEq, Int.reduceBNe, h0, h02, bne, hfit, hu0, List.map]; rfl) rfl ?hv fun _ _ => ?_; case hv => (simp only [h0, h02, bne, hfit, hu0]; rfl))
   | (refine Fo.pcall (v' := ?_) hn rfl (by simp only [↓nrmL, nrmZ, Nat.reduceEqDiff, ↓reduceIte, Nat.reduceAdd, Int.reduceBEq, Int.reduceBNe, h0, h02, bne, hfit, hu0, List.map]; rfl) rfl ?hv fun _ _ => ?_; case hv => rfl)
   | refine bA ?_
   | refine nw ?_
   | (refine ob (cs' := ?_) ?hc ?_; case hc => rfl)
   | (refine Fo.now rfl rfl (by simp only [↓nrmL, nrmZ, Nat.reduceEqDiff, ↓reduceIte, Nat.reduceAdd, Int.reduceBEq, Int.reduceBNe, h0, h02, bne, hfit, hu0]; rfl) ?_)
   | (refine so rfl (rfl : _ = AVal.agg _) rfl rfl rfl (by simp only [↓nrmL, nrmZ, Nat.reduceEqDiff, ↓reduceIte, Nat.reduceAdd, Int.reduceBEq, Int.reduceBNe, h0, h02, bne, hfit, hu0]; rfl) ?_)
   | refine nl hKF ?_
   | refine sq ?_
   | refine rg fun KF hKF => ?_
   | refine ct rfl ?_
   | refine cf rfl ?_
   | refine sk ?_
   | refine rt ?_
   | dsimp only [cond_true, cond_false]
  refine rz trivial ?_
  exact ⟨_, rfl, newZero⟩
 cases hu1 : decide (up ≥ (c : Int))
 rotate_left
 ·have e1 : restS ⟨a, b, l⟩ ⟨a2, c, s⟩ ls up = (.zero, 1) := by simp only [restS, h0, h02, cond_true, Int.toNat_natCast, hfit, hu0, hu1, Bool.or_true]
  rw [e1]
  repeat first
   | refine oy ?_
   | refine mI ?_
   | refine mB ?_
   | refine fd ?_
   | refine Fo.ld rfl rfl ?_
   | (refine Fo.ldN rfl rfl (by simp only [↓nrmL, nrmZ, Nat.reduceEqDiff, ↓reduceIte, Nat.reduceAdd, Int.reduceBEq, Int.reduceBNe, h0, h02, bne, hfit, hu0, hu1]; rfl) ?_)
   | (refine bn rfl rfl rfl (by simp only [h0, h02, bne, hfit, hu0, hu1]; rfl) ?_)
   | refine fB ?_
   | (refine Fo.pcall (v' := ?_) hn rfl (by simp only [↓nrmL, nrmZ, Nat.reduceEqDiff, ↓reduceIte, Nat.reduceAdd, Int.reduceBEq, Int.reduceBNe, h0, h02, bne, hfit, hu0, hu1, List.map]; rfl) rfl ?hv fun _ _ => ?_; case hv => (simp only [h0, h02, bne, hfit, hu0, hu1]; rfl))
   | (refine Fo.pcall (v' := ?_) hn rfl (by simp only [↓nrmL, nrmZ, Nat.reduceEqDiff, ↓reduceIte, Nat.reduceAdd, Int.reduceBEq, Int.reduceBNe, h0, h02, bne, hfit, hu0, hu1, List.map]; rfl) rfl ?hv fun _ _ => ?_; case hv => rfl)
   | refine bA ?_
   | refine nw ?_
   | (refine ob (cs' := ?_) ?hc ?_; case hc => rfl)
   | (refine Fo.now rfl rfl (by simp only [↓nrmL, nrmZ, Nat.reduceEqDiff, ↓reduceIte, Nat.reduceAdd, Int.reduceBEq, Int.reduceBNe, h0, h02, bne, hfit, hu0, hu1]; rfl) ?_)
   | (refine so rfl (rfl : _ = AVal.agg _) rfl rfl rfl (by simp only [↓nrmL, nrmZ, Nat.reduceEqDiff, ↓reduceIte, Nat.reduceAdd, Int.reduceBEq, Int.reduceBNe, h0, h02, bne, hfit, hu0, hu1]; rfl) ?_)
   | refine nl hKF ?_
   | refine sq ?_
   | refine rg fun KF hKF => ?_
   | refine ct rfl ?_
   | refine cf rfl ?_
   | refine sk ?_
   | refine rt ?_
   | dsimp only [cond_true, cond_false]
  refine rz trivial ?_
  exact ⟨_, rfl, newZero⟩
 obtain ⟨cu, rfl⟩ : ∃ k : Nat, up = k := ⟨up.toNat, by have := of_decide_eq_false hu0; omega⟩
 have huc : cu < c := by have := of_decide_eq_false hu1; omega
 cases hww : ((a2 : Int) != (a : Int))
 rotate_left
 ·have e1 : restS ⟨a, b, l⟩ ⟨a2, c, s⟩ ls cu = (.zero, 2) := by simp only [restS, h0, h02, cond_true, Int.toNat_natCast, hfit, hu0, hu1, Bool.or_false, cond_false, hww]
  rw [e1]
  have hww2 : ((a2 : Int) == (a : Int)) = false := by simpa [bne] using hww
  repeat first
   | refine oy ?_
   | refine mI ?_
   | refine mB ?_
   | refine fd ?_
   | refine Fo.ld rfl rfl ?_
   | (refine Fo.ldN rfl rfl (by simp only [↓nrmL, nrmZ, Nat.reduceEqDiff, ↓reduceIte, Nat.reduceAdd, Int.reduceBEq, Int.reduceBNe, h0, h02, bne, hfit, hu0, hu1, hww2]; rfl) ?_)
   | (refine bn rfl rfl rfl (by simp only [h0, h02, bne, hfit, hu0, hu1, hww2]; rfl) ?_)
   | refine fB ?_
   | (refine Fo.pcall (v' := ?_) hn rfl (by simp only [↓nrmL, nrmZ, Nat.reduceEqDiff, ↓reduceIte, Nat.reduceAdd, Int.reduceBEq, Int.reduceBNe, h0, h02, bne, hfit, hu0, hu1, hww2, List.map]; rfl) rfl ?hv fun _ _ => ?_; case hv => (simp only [h0, h02, bne, hfit, hu0, hu1, hww2]; rfl))
   | (refine Fo.pcall (v' := ?_) hn rfl (by simp only [↓nrmL, nrmZ, Nat.reduceEqDiff, ↓reduceIte, Nat.reduceAdd, Int.reduceBEq, Int.reduceBNe, h0, h02, bne, hfit, hu0, hu1, hww2, List.map]; rfl) rfl ?hv fun _ _ => ?_; case hv => rfl)
   | refine bA ?_
   | refine nw ?_
   | (refine ob (cs' := ?_) ?hc ?_; case hc => rfl)
   | (refine Fo.now rfl rfl (by simp only [↓nrmL, nrmZ, Nat.reduceEqDiff, ↓reduceIte, Nat.reduceAdd, Int.reduceBEq, Int.reduceBNe, h0, h02, bne, hfit, hu0, hu1, hww2]; rfl) ?_)
   | (refine so rfl (rfl : _ = AVal.agg _) rfl rfl rfl (by simp only [↓nrmL, nrmZ, Nat.reduceEqDiff, ↓reduceIte, Nat.reduceAdd, Int.reduceBEq, Int.reduceBNe, h0, h02, bne, hfit, hu0, hu1, hww2]; rfl) ?_)
   | refine nl hKF ?_
   | refine sq ?_
   | refine rg fun KF hKF => ?_
   | refine ct rfl ?_
   | refine cf rfl ?_
   | refine sk ?_
   | refine rt ?_
   | dsimp only [cond_true, cond_false]
  refine rz trivial ?_
  exact ⟨_, rfl, newZero⟩
 have haa : a2 = a := by have h7 := hww; simp only [bne_eq_false_iff_eq] at h7; omega
 subst haa
 have e1 : restS ⟨a2, b, l⟩ ⟨a2, c, s⟩ ls cu = (⟨a2, b, rstL l s a2 b c m cu⟩, 0) := by
  simp only [restS, h0, h02, cond_true, Int.toNat_natCast, hfit, hu0, hu1, Bool.or_false, cond_false, hww, getDL_at h4l, hmdef]
 rw [e1]
 have hww2 : ((a2 : Int) == (a2 : Int)) = true := by simp
 have hmc : a2 * b ≤ 640 * 640 := Nat.mul_le_mul ha hb
 haveI : Fits a2 b l := ⟨ok.sized⟩
 haveI : Fits a2 c s := ⟨ok2.sized⟩
 repeat first
  | refine oy ?_
  | refine mI ?_
  | refine mB ?_
  | refine fd ?_
  | refine Fo.ld rfl rfl ?_
  | (refine Fo.ldN rfl rfl (by simp only [↓nrmL, nrmZ, Nat.reduceEqDiff, ↓reduceIte, Nat.reduceAdd, Int.reduceBEq, Int.reduceBNe, h0, h02, bne, hfit, hu0, hu1, hww2]; rfl) ?_)
  | (refine bn rfl rfl rfl (by simp only [h0, h02, bne, hfit, hu0, hu1, hww2]; rfl) ?_)
  | refine fB ?_
  | (refine Fo.pcall (v' := ?_) hn rfl (by simp only [↓nrmL, nrmZ, Nat.reduceEqDiff, ↓reduceIte, Nat.reduceAdd, Int.reduceBEq, Int.reduceBNe, h0, h02, bne, hfit, hu0, hu1, hww2, List.map]; rfl) rfl ?hv fun _ _ => ?_; case hv => (simp only [h0, h02, bne, hfit, hu0, hu1, hww2]; rfl))
  | (refine Fo.pcall (v' := ?_) hn rfl (by simp only [↓nrmL, nrmZ, Nat.reduceEqDiff, ↓reduceIte, Nat.reduceAdd, Int.reduceBEq, Int.reduceBNe, h0, h02, bne, hfit, hu0, hu1, hww2, List.map]; rfl) rfl ?hv fun _ _ => ?_; case hv => rfl)
  | refine bA ?_
  | refine nw ?_
  | (refine Fo.now rfl rfl (by simp only [↓nrmL, nrmZ, Nat.reduceEqDiff, ↓reduceIte, Nat.reduceAdd, Int.reduceBEq, Int.reduceBNe, h0, h02, bne, hfit, hu0, hu1, hww2]; rfl) ?_)
  | refine nl hKF ?_
  | refine sq ?_
  | refine rg fun KF hKF => ?_
  | refine cf rfl ?_
  | refine sk ?_
 refine WpO.do (WpX.conD hn rfl rfl (by simp only [↓nrmL, nrmZ, Nat.reduceEqDiff, ↓reduceIte, Nat.reduceAdd, Int.reduceBEq, Int.reduceBNe, List.map] <;> rfl) (K_refNew (w := a2) (h := b) ha hb) fun v H6 ⟨o, e2, ho, hf, hw, hx⟩ => ?_)
 subst e2
 haveI : ExtI _ H6 := ⟨hx⟩
 haveI := ho.one
 have ho : BytesI H6 o (List.replicate (a2 * b) 0) := ho
 refine nw ?_
 refine so rfl (rfl : _ = AVal.agg _) rfl rfl rfl (by simp only [↓nrmL, nrmZ, Nat.reduceEqDiff, ↓reduceIte, Nat.reduceAdd, Int.reduceBEq, Int.reduceBNe]; rfl) ?_
 refine nl hKF ?_
 refine sq ?_
 refine sq ?_
 refine rg fun KF hKF => ?_
 refine mI ?_
 refine nl hKF ?_
 refine Wp.block ?_
 dsimp only [cond_true, cond_false]
 refine Wp.loopS [13, 14, 15, 16, 54, 55, 56, 57, 58, 59, 60, 61, 62, 63, 64, 65, 66, 67, 68, 69, 70, 71, 72, 73, 74, 75, 76, 77, 78, 79, 80, 81, 82, 83, 84, 85, 86, 87, 88, 89, 90, 91, 92, 93, 94, 95, 96, 97, 98, 99, 100, 101, 102, 103, 104, 105] (fun y : Nat => [(13, .int .i64 y)]) (fun H3 y H2 => y ≤ b ∧ BytesI H2 o (filled (rstF l s a2 c m cu) (y * a2) (a2 * b)) ∧ WrS H2 o ∧ ExtP0 H3 H2 o) (fun y => b - y) 0 rfl (fun _ => rfl) ⟨rfl, trivial⟩ ⟨Nat.zero_le _, by rw [Nat.zero_mul, filled_zero]; infer_instance, inferInstance, inferInstance⟩ (by unfold fuel0 at hn; omega) ?_
 rintro y g H2 ⟨hy, hb2, hw2, ⟨hx2⟩⟩
 simp only [↓nrmL, nrmZ, Nat.reduceEqDiff, ↓reduceIte, Nat.reduceAdd, Int.reduceBEq, Int.reduceBNe]
 cases hcy : decide ((y : Int) < (b : Int))
 ·have hyb : y = b := by have := of_decide_eq_false hcy; omega
  subst hyb
  rw [Nat.mul_comm y a2, filled_all] at hb2
  repeat first
   | refine mI ?_
   | refine fd ?_
   | refine Fo.ld rfl rfl ?_
   | (refine Fo.ldN rfl rfl (by simp only [↓nrmL, nrmZ, Nat.reduceEqDiff, ↓reduceIte, Nat.reduceAdd, Int.reduceBEq, Int.reduceBNe, hcy]; rfl) ?_)
   | (refine bn rfl rfl rfl (by simp only [hcy]; rfl) ?_)
   | (refine so rfl (rfl : _ = AVal.agg _) rfl rfl rfl (by simp only [↓nrmL, nrmZ, Nat.reduceEqDiff, ↓reduceIte, Nat.reduceAdd, Int.reduceBEq, Int.reduceBNe, hcy]; rfl) ?_)
   | refine nl hKF ?_
   | refine sq ?_
   | refine rg fun KF hKF => ?_
   | refine cf rfl ?_
   | refine rt ?_
   | refine xi ?_
   | dsimp only [cond_true, cond_false]
  refine rz trivial ?_
  exact ⟨_, rfl, o, rfl, (show BytesI _ o (rstL l s a2 y c m cu) from inferInstance), hf.weak, inferInstance, Ext0.ext⟩
 have hyb : y < b := by have := of_decide_eq_true hcy; omega
 repeat first
  | refine mI ?_
  | refine fd ?_
  | refine Fo.ld rfl rfl ?_
  | (refine bn rfl rfl rfl (by simp only [hcy]; rfl) ?_)
  | refine nl hKF ?_
  | refine sq ?_
  | refine rg fun KF hKF => ?_
  | refine ct rfl ?_
  | refine sk ?_
  | refine Wp.block ?_
  | dsimp only [cond_true, cond_false]
 refine Wp.loopS [14, 15, 16, 60, 61, 62, 63, 64, 65, 66, 67, 68, 69, 70, 71, 72, 73, 74, 75, 76, 77, 78, 79, 80, 81, 82, 83, 84, 85, 86, 87, 88, 89, 90, 91, 92, 93, 94, 95, 96, 97, 98, 99, 100, 101, 102, 103, 104, 105] (fun x : Nat => [(14, .int .i64 x)]) (fun H3 x H7 => x ≤ a2 ∧ BytesI H7 o (filled (rstF l s a2 c m cu) (y * a2 + x) (a2 * b)) ∧ WrS H7 o ∧ ExtP0 H3 H7 o) (fun x => a2 - x) 0 rfl (fun _ => rfl) ⟨rfl, trivial⟩ ⟨Nat.zero_le _, inferInstance, inferInstance, inferInstance⟩ (by unfold fuel0 at hn; omega) ?_
 rintro x g2 H7 ⟨hx0, hb4, hw4, ⟨hx4⟩⟩
 simp only [↓nrmL, nrmZ, Nat.reduceEqDiff, ↓reduceIte, Nat.reduceAdd, Int.reduceBEq, Int.reduceBNe]
 cases hcx : decide ((x : Int) < (a2 : Int))
 ·have hxa : x = a2 := by have := of_decide_eq_false hcx; omega
  subst hxa
  have hw1 := wa1 (a := y) (by omega)
  repeat first
   | refine mI ?_
   | refine fd ?_
   | refine Fo.ld rfl rfl ?_
   | (refine bn rfl rfl rfl (by simp only [hcx]; rfl) ?_)
   | refine b0 ?_
   | refine nl hKF ?_
   | refine sq ?_
   | refine rg fun KF hKF => ?_
   | refine cf rfl ?_
   | refine xi ?_
   | dsimp only [cond_true, cond_false]
  refine ⟨y + 1, by omega, ⟨by simp only [↓nrmL, nrmZ, Nat.reduceEqDiff, ↓reduceIte, Nat.reduceAdd, Int.reduceBEq, Int.reduceBNe]; rw [hw1], trivial⟩, hyb, by rw [Nat.add_mul, Nat.one_mul]; infer_instance, inferInstance, inferInstance⟩
 have hxa : x < a2 := by have := of_decide_eq_true hcx; omega
 have hlt := idx_lt hxa hyb
 have hw1 := wa1 (a := x) (by omega)
 have hfl := filled_length (rstF l s a2 c m cu) (y * a2 + x) (a2 * b)
 have hxm : x < m.length := by omega
 obtain ⟨hm0, hmb⟩ := pathB_range hm hxm
 obtain ⟨mx, hmx⟩ : ∃ k : Nat, m[x] = (k : Int) := ⟨m[x].toNat, by omega⟩
 have hgx : (m.getD x 0).toNat = mx := by rw [getD_at hxm, hmx]; rfl
 have c1 : IntKind.i64.wrap ((y : Int) - (mx : Int)) = (y : Int) - (mx : Int) := w64 (by omega)
 have c2 : IntKind.i64.wrap ((y : Int) - (mx : Int) + (cu : Int)) = (y : Int) - (mx : Int) + (cu : Int) := w64 (by omega)
 have k2 := one_of (rstF_v (a := a2) (h := c) (m := m) (u := cu) (k := y * a2 + x) hpx hpx2)
 by_cases hr : mx ≤ y + cu ∧ y + cu < mx + c
 ·obtain ⟨t, htd⟩ : ∃ t, y + cu - mx = t := ⟨_, rfl⟩
  have e3 : (y : Int) - (mx : Int) + (cu : Int) = (t : Int) := by omega
  rw [e3] at c2
  have g1 : decide ((t : Int) ≥ 0) = true := decide_eq_true (by omega)
  have g2' : decide ((t : Int) < (c : Int)) = true := decide_eq_true (by omega)
  have k1 := rest_in (l := l) (s := s) hxa hgx hr.1 hr.2
  rw [htd] at k1
  cases ht : inkB a2 c s x (t : Int)
  ·have h9 := k2.2 (by rw [← k1]; exact ht)
   repeat first
    | refine mI ?_
    | refine fd ?_
    | refine Fo.ld rfl rfl ?_
    | (refine bn rfl rfl rfl (by simp only [hcx]; rfl) ?_)
    | (refine Fo.idx (by simp only [↓nrmL, nrmK, Nat.reduceEqDiff, ↓reduceIte]; rfl) rfl ?_ (by simp only [↓nrmL, nrmZ, Nat.reduceEqDiff, ↓reduceIte, Nat.reduceAdd, Int.reduceBEq, Int.reduceBNe, hcx]; rfl) ?_; (focus omega))
    | refine nl hKF ?_
    | refine sq ?_
    | refine rg fun KF hKF => ?_
    | refine ct rfl ?_
    | refine sk ?_
    | refine Wp.block ?_
   refine Fo.now rfl (exec_ldP (p := q) (j := 4) rfl hq4) rfl ?_
   simp only [↓nrmL, nrmZ, Nat.reduceEqDiff, ↓reduceIte, Nat.reduceAdd, Int.reduceBEq, Int.reduceBNe, hmx, c1, e3, c2, g1, g2', ht]
   repeat first
    | refine oy ?_
    | refine ox ?_
    | refine mI ?_
    | refine mB ?_
    | refine fd ?_
    | refine Fo.ld rfl rfl ?_
    | (refine Fo.ldN rfl rfl (by simp only [↓nrmL, nrmZ, Nat.reduceEqDiff, ↓reduceIte, Nat.reduceAdd, Int.reduceBEq, Int.reduceBNe, hmx, c1, e3, c2, g1, g2', ht]; rfl) ?_)
    | (refine bn rfl rfl rfl (by simp only [hmx, c1, e3, c2, g1, g2', ht]; rfl) ?_)
    | refine b0 ?_
    | refine tB ?_
    | refine fB ?_
    | (refine Fo.pcall (v' := ?_) hn rfl (by simp only [↓nrmL, nrmZ, Nat.reduceEqDiff, ↓reduceIte, Nat.reduceAdd, Int.reduceBEq, Int.reduceBNe, hmx, c1, e3, c2, g1, g2', ht, List.map]; rfl) rfl ?hv fun _ _ => ?_; case hv => (simp only [hmx, c1, e3, c2, g1, g2', ht]; rfl))
    | (refine Fo.idx (by simp only [↓nrmL, nrmK, Nat.reduceEqDiff, ↓reduceIte]; rfl) rfl ?_ (by simp only [↓nrmL, nrmZ, Nat.reduceEqDiff, ↓reduceIte, Nat.reduceAdd, Int.reduceBEq, Int.reduceBNe, hmx, c1, e3, c2, g1, g2', ht]; rfl) ?_; (focus omega))
    | (refine Fo.ldI rfl ?_ (by simp only [hmx, c1, e3, c2, g1, g2', ht]; rfl) ?_; (focus omega))
    | (refine Fo.now rfl rfl (by simp only [↓nrmL, nrmZ, Nat.reduceEqDiff, ↓reduceIte, Nat.reduceAdd, Int.reduceBEq, Int.reduceBNe, hmx, c1, e3, c2, g1, g2', ht]; rfl) ?_)
    | refine nl hKF ?_
    | refine sq ?_
    | refine rg fun KF hKF => ?_
    | refine cf rfl ?_
    | refine sk ?_
    | dsimp only [cond_true, cond_false]
   refine ⟨x + 1, by omega, ⟨by simp only [↓nrmL, nrmZ, Nat.reduceEqDiff, ↓reduceIte, Nat.reduceAdd, Int.reduceBEq, Int.reduceBNe]; rw [hw1], trivial⟩, hxa, by rw [show y * a2 + (x + 1) = y * a2 + x + 1 by omega, filled_skip h9]; infer_instance, inferInstance, inferInstance⟩
  ·have h9 := k2.1 (by rw [← k1]; exact ht)
   repeat first
    | refine mI ?_
    | refine fd ?_
    | refine Fo.ld rfl rfl ?_
    | (refine bn rfl rfl rfl (by simp only [hcx]; rfl) ?_)
    | (refine Fo.idx (by simp only [↓nrmL, nrmK, Nat.reduceEqDiff, ↓reduceIte]; rfl) rfl ?_ (by simp only [↓nrmL, nrmZ, Nat.reduceEqDiff, ↓reduceIte, Nat.reduceAdd, Int.reduceBEq, Int.reduceBNe, hcx]; rfl) ?_; (focus omega))
    | refine nl hKF ?_
    | refine sq ?_
    | refine rg fun KF hKF => ?_
    | refine ct rfl ?_
    | refine sk ?_
    | refine Wp.block ?_
   refine Fo.now rfl (exec_ldP (p := q) (j := 4) rfl hq4) rfl ?_
   simp only [↓nrmL, nrmZ, Nat.reduceEqDiff, ↓reduceIte, Nat.reduceAdd, Int.reduceBEq, Int.reduceBNe, hmx, c1, e3, c2, g1, g2', ht]
   repeat first
    | refine oy ?_
    | refine ox ?_
    | refine Fo.noU rfl ?_
    | refine mI ?_
    | refine mB ?_
    | refine fd ?_
    | refine Fo.ld rfl rfl ?_
    | (refine Fo.ldN rfl rfl (by simp only [↓nrmL, nrmZ, Nat.reduceEqDiff, ↓reduceIte, Nat.reduceAdd, Int.reduceBEq, Int.reduceBNe, hmx, c1, e3, c2, g1, g2', ht]; rfl) ?_)
    | (refine bn rfl rfl rfl (by simp only [hmx, c1, e3, c2, g1, g2', ht]; rfl) ?_)
    | refine tB ?_
    | (refine Fo.pcall (v' := ?_) hn rfl (by simp only [↓nrmL, nrmZ, Nat.reduceEqDiff, ↓reduceIte, Nat.reduceAdd, Int.reduceBEq, Int.reduceBNe, hmx, c1, e3, c2, g1, g2', ht, List.map]; rfl) rfl ?hv fun _ _ => ?_; case hv => (simp only [hmx, c1, e3, c2, g1, g2', ht]; rfl))
    | (refine Fo.idx (by simp only [↓nrmL, nrmK, Nat.reduceEqDiff, ↓reduceIte]; rfl) rfl ?_ (by simp only [↓nrmL, nrmZ, Nat.reduceEqDiff, ↓reduceIte, Nat.reduceAdd, Int.reduceBEq, Int.reduceBNe, hmx, c1, e3, c2, g1, g2', ht]; rfl) ?_; (focus omega))
    | (refine Fo.ldI rfl ?_ (by simp only [hmx, c1, e3, c2, g1, g2', ht]; rfl) ?_; (focus omega))
    | refine nl hKF ?_
    | refine sq ?_
    | refine rg fun KF hKF => ?_
    | refine ct rfl ?_
   refine WpO.do (WpX.conD hn rfl rfl (by simp only [↓nrmL, nrmZ, Nat.reduceEqDiff, ↓reduceIte, Nat.reduceAdd, Int.reduceBEq, Int.reduceBNe, List.map] <;> rfl) (K_refSet (y := y) (x := x) (by rw [hfl]; exact hlt) (by rw [hfl]; omega)) fun v H5 h5 => ?_)
   obtain ⟨hb5, hw5, hx5⟩ := h5
   repeat first
    | refine mI ?_
    | refine b0 ?_
    | refine nl hKF ?_
    | refine rg fun KF hKF => ?_
    | dsimp only [cond_true, cond_false]
   refine ⟨x + 1, by omega, ⟨by simp only [↓nrmL, nrmZ, Nat.reduceEqDiff, ↓reduceIte, Nat.reduceAdd, Int.reduceBEq, Int.reduceBNe]; rw [hw1], trivial⟩, hxa, by rw [show y * a2 + (x + 1) = y * a2 + x + 1 by omega, ← filled_succ, h9]; infer_instance, inferInstance, inferInstance⟩
 have k1 := rest_out (l := l) (s := s) (b := b) hxa hyb hgx hr
 obtain ⟨z, hz⟩ : ∃ z, (y : Int) - (mx : Int) + (cu : Int) = z := ⟨_, rfl⟩
 rw [hz] at c2
 cases g1 : decide (z ≥ 0)
 ·cases ht : inkB a2 b l x (y : Int)
  ·have h9 := k2.2 (by rw [← k1]; exact ht)
   repeat first
    | refine mI ?_
    | refine fd ?_
    | refine Fo.ld rfl rfl ?_
    | (refine bn rfl rfl rfl (by simp only [hcx]; rfl) ?_)
    | (refine Fo.idx (by simp only [↓nrmL, nrmK, Nat.reduceEqDiff, ↓reduceIte]; rfl) rfl ?_ (by simp only [↓nrmL, nrmZ, Nat.reduceEqDiff, ↓reduceIte, Nat.reduceAdd, Int.reduceBEq, Int.reduceBNe, hcx]; rfl) ?_; (focus omega))
    | refine nl hKF ?_
    | refine sq ?_
    | refine rg fun KF hKF => ?_
    | refine ct rfl ?_
    | refine sk ?_
    | refine Wp.block ?_
   refine Fo.now rfl (exec_ldP (p := q) (j := 4) rfl hq4) rfl ?_
   simp only [↓nrmL, nrmZ, Nat.reduceEqDiff, ↓reduceIte, Nat.reduceAdd, Int.reduceBEq, Int.reduceBNe, hmx, c1, hz, c2, g1, ht]
   repeat first
    | refine oy ?_
    | refine ox ?_
    | refine mI ?_
    | refine mB ?_
    | (refine Fo.ldN rfl rfl (by simp only [↓nrmL, nrmZ, Nat.reduceEqDiff, ↓reduceIte, Nat.reduceAdd, Int.reduceBEq, Int.reduceBNe, hmx, c1, hz, c2, g1, ht]; rfl) ?_)
    | (refine bn rfl rfl rfl (by simp only [hmx, c1, hz, c2, g1, ht]; rfl) ?_)
    | refine b0 ?_
    | refine tB ?_
    | refine fB ?_
    | (refine Fo.pcall (v' := ?_) hn rfl (by simp only [↓nrmL, nrmZ, Nat.reduceEqDiff, ↓reduceIte, Nat.reduceAdd, Int.reduceBEq, Int.reduceBNe, hmx, c1, hz, c2, g1, ht, List.map]; rfl) rfl ?hv fun _ _ => ?_; case hv => (simp only [hmx, c1, hz, c2, g1, ht]; rfl))
    | (refine Fo.idx (by simp only [↓nrmL, nrmK, Nat.reduceEqDiff, ↓reduceIte]; rfl) rfl ?_ (by simp only [↓nrmL, nrmZ, Nat.reduceEqDiff, ↓reduceIte, Nat.reduceAdd, Int.reduceBEq, Int.reduceBNe, hmx, c1, hz, c2, g1, ht]; rfl) ?_; (focus omega))
    | (refine Fo.ldI rfl ?_ (by simp only [hmx, c1, hz, c2, g1, ht]; rfl) ?_; (focus omega))
    | (refine Fo.now rfl rfl (by simp only [↓nrmL, nrmZ, Nat.reduceEqDiff, ↓reduceIte, Nat.reduceAdd, Int.reduceBEq, Int.reduceBNe, hmx, c1, hz, c2, g1, ht]; rfl) ?_)
    | refine nl hKF ?_
    | refine sq ?_
    | refine rg fun KF hKF => ?_
    | refine cf rfl ?_
    | refine sk ?_
    | dsimp only [cond_true, cond_false]
   refine ⟨x + 1, by omega, ⟨by simp only [↓nrmL, nrmZ, Nat.reduceEqDiff, ↓reduceIte, Nat.reduceAdd, Int.reduceBEq, Int.reduceBNe]; rw [hw1], trivial⟩, hxa, by rw [show y * a2 + (x + 1) = y * a2 + x + 1 by omega, filled_skip h9]; infer_instance, inferInstance, inferInstance⟩
  ·have h9 := k2.1 (by rw [← k1]; exact ht)
   repeat first
    | refine mI ?_
    | refine fd ?_
    | refine Fo.ld rfl rfl ?_
    | (refine bn rfl rfl rfl (by simp only [hcx]; rfl) ?_)
    | (refine Fo.idx (by simp only [↓nrmL, nrmK, Nat.reduceEqDiff, ↓reduceIte]; rfl) rfl ?_ (by simp only [↓nrmL, nrmZ, Nat.reduceEqDiff, ↓reduceIte, Nat.reduceAdd, Int.reduceBEq, Int.reduceBNe, hcx]; rfl) ?_; (focus omega))
    | refine nl hKF ?_
    | refine sq ?_
    | refine rg fun KF hKF => ?_
    | refine ct rfl ?_
    | refine sk ?_
    | refine Wp.block ?_
   refine Fo.now rfl (exec_ldP (p := q) (j := 4) rfl hq4) rfl ?_
   simp only [↓nrmL, nrmZ, Nat.reduceEqDiff, ↓reduceIte, Nat.reduceAdd, Int.reduceBEq, Int.reduceBNe, hmx, c1, hz, c2, g1, ht]
   repeat first
    | refine oy ?_
    | refine ox ?_
    | refine mI ?_
    | refine mB ?_
    | (refine Fo.ldN rfl rfl (by simp only [↓nrmL, nrmZ, Nat.reduceEqDiff, ↓reduceIte, Nat.reduceAdd, Int.reduceBEq, Int.reduceBNe, hmx, c1, hz, c2, g1, ht]; rfl) ?_)
    | (refine bn rfl rfl rfl (by simp only [hmx, c1, hz, c2, g1, ht]; rfl) ?_)
    | refine tB ?_
    | refine fB ?_
    | (refine Fo.pcall (v' := ?_) hn rfl (by simp only [↓nrmL, nrmZ, Nat.reduceEqDiff, ↓reduceIte, Nat.reduceAdd, Int.reduceBEq, Int.reduceBNe, hmx, c1, hz, c2, g1, ht, List.map]; rfl) rfl ?hv fun _ _ => ?_; case hv => (simp only [hmx, c1, hz, c2, g1, ht]; rfl))
    | (refine Fo.idx (by simp only [↓nrmL, nrmK, Nat.reduceEqDiff, ↓reduceIte]; rfl) rfl ?_ (by simp only [↓nrmL, nrmZ, Nat.reduceEqDiff, ↓reduceIte, Nat.reduceAdd, Int.reduceBEq, Int.reduceBNe, hmx, c1, hz, c2, g1, ht]; rfl) ?_; (focus omega))
    | (refine Fo.ldI rfl ?_ (by simp only [hmx, c1, hz, c2, g1, ht]; rfl) ?_; (focus omega))
    | (refine Fo.now rfl rfl (by simp only [↓nrmL, nrmZ, Nat.reduceEqDiff, ↓reduceIte, Nat.reduceAdd, Int.reduceBEq, Int.reduceBNe, hmx, c1, hz, c2, g1, ht]; rfl) ?_)
    | refine nl hKF ?_
    | refine sq ?_
    | refine rg fun KF hKF => ?_
    | refine ct rfl ?_
   refine WpO.do (WpX.conD hn rfl rfl (by simp only [↓nrmL, nrmZ, Nat.reduceEqDiff, ↓reduceIte, Nat.reduceAdd, Int.reduceBEq, Int.reduceBNe, List.map] <;> rfl) (K_refSet (y := y) (x := x) (by rw [hfl]; exact hlt) (by rw [hfl]; omega)) fun v H5 h5 => ?_)
   obtain ⟨hb5, hw5, hx5⟩ := h5
   repeat first
    | refine mI ?_
    | refine b0 ?_
    | refine nl hKF ?_
    | refine rg fun KF hKF => ?_
    | dsimp only [cond_true, cond_false]
   refine ⟨x + 1, by omega, ⟨by simp only [↓nrmL, nrmZ, Nat.reduceEqDiff, ↓reduceIte, Nat.reduceAdd, Int.reduceBEq, Int.reduceBNe]; rw [hw1], trivial⟩, hxa, by rw [show y * a2 + (x + 1) = y * a2 + x + 1 by omega, ← filled_succ, h9]; infer_instance, inferInstance, inferInstance⟩
 have g2' : decide (z < (c : Int)) = false := decide_eq_false (by have := of_decide_eq_true g1; omega)
 cases ht : inkB a2 b l x (y : Int)
 ·have h9 := k2.2 (by rw [← k1]; exact ht)
  repeat first
   | refine mI ?_
   | refine fd ?_
   | refine Fo.ld rfl rfl ?_
   | (refine bn rfl rfl rfl (by simp only [hcx]; rfl) ?_)
   | (refine Fo.idx (by simp only [↓nrmL, nrmK, Nat.reduceEqDiff, ↓reduceIte]; rfl) rfl ?_ (by simp only [↓nrmL, nrmZ, Nat.reduceEqDiff, ↓reduceIte, Nat.reduceAdd, Int.reduceBEq, Int.reduceBNe, hcx]; rfl) ?_; (focus omega))
   | refine nl hKF ?_
   | refine sq ?_
   | refine rg fun KF hKF => ?_
   | refine ct rfl ?_
   | refine sk ?_
   | refine Wp.block ?_
  refine Fo.now rfl (exec_ldP (p := q) (j := 4) rfl hq4) rfl ?_
  simp only [↓nrmL, nrmZ, Nat.reduceEqDiff, ↓reduceIte, Nat.reduceAdd, Int.reduceBEq, Int.reduceBNe, hmx, c1, hz, c2, g1, g2', ht]
  repeat first
   | refine oy ?_
   | refine ox ?_
   | refine mI ?_
   | refine mB ?_
   | refine fd ?_
   | refine Fo.ld rfl rfl ?_
   | (refine Fo.ldN rfl rfl (by simp only [↓nrmL, nrmZ, Nat.reduceEqDiff, ↓reduceIte, Nat.reduceAdd, Int.reduceBEq, Int.reduceBNe, hmx, c1, hz, c2, g1, g2', ht]; rfl) ?_)
   | (refine bn rfl rfl rfl (by simp only [hmx, c1, hz, c2, g1, g2', ht]; rfl) ?_)
   | refine b0 ?_
   | refine tB ?_
   | refine fB ?_
   | (refine Fo.pcall (v' := ?_) hn rfl (by simp only [↓nrmL, nrmZ, Nat.reduceEqDiff, ↓reduceIte, Nat.reduceAdd, Int.reduceBEq, Int.reduceBNe, hmx, c1, hz, c2, g1, g2', ht, List.map]; rfl) rfl ?hv fun _ _ => ?_; case hv => (simp only [hmx, c1, hz, c2, g1, g2', ht]; rfl))
   | (refine Fo.idx (by simp only [↓nrmL, nrmK, Nat.reduceEqDiff, ↓reduceIte]; rfl) rfl ?_ (by simp only [↓nrmL, nrmZ, Nat.reduceEqDiff, ↓reduceIte, Nat.reduceAdd, Int.reduceBEq, Int.reduceBNe, hmx, c1, hz, c2, g1, g2', ht]; rfl) ?_; (focus omega))
   | (refine Fo.ldI rfl ?_ (by simp only [hmx, c1, hz, c2, g1, g2', ht]; rfl) ?_; (focus omega))
   | (refine Fo.now rfl rfl (by simp only [↓nrmL, nrmZ, Nat.reduceEqDiff, ↓reduceIte, Nat.reduceAdd, Int.reduceBEq, Int.reduceBNe, hmx, c1, hz, c2, g1, g2', ht]; rfl) ?_)
   | refine nl hKF ?_
   | refine sq ?_
   | refine rg fun KF hKF => ?_
   | refine cf rfl ?_
   | refine sk ?_
   | dsimp only [cond_true, cond_false]
  refine ⟨x + 1, by omega, ⟨by simp only [↓nrmL, nrmZ, Nat.reduceEqDiff, ↓reduceIte, Nat.reduceAdd, Int.reduceBEq, Int.reduceBNe]; rw [hw1], trivial⟩, hxa, by rw [show y * a2 + (x + 1) = y * a2 + x + 1 by omega, filled_skip h9]; infer_instance, inferInstance, inferInstance⟩
 ·have h9 := k2.1 (by rw [← k1]; exact ht)
  repeat first
   | refine mI ?_
   | refine fd ?_
   | refine Fo.ld rfl rfl ?_
   | (refine bn rfl rfl rfl (by simp only [hcx]; rfl) ?_)
   | (refine Fo.idx (by simp only [↓nrmL, nrmK, Nat.reduceEqDiff, ↓reduceIte]; rfl) rfl ?_ (by simp only [↓nrmL, nrmZ, Nat.reduceEqDiff, ↓reduceIte, Nat.reduceAdd, Int.reduceBEq, Int.reduceBNe, hcx]; rfl) ?_; (focus omega))
   | refine nl hKF ?_
   | refine sq ?_
   | refine rg fun KF hKF => ?_
   | refine ct rfl ?_
   | refine sk ?_
   | refine Wp.block ?_
  refine Fo.now rfl (exec_ldP (p := q) (j := 4) rfl hq4) rfl ?_
  simp only [↓nrmL, nrmZ, Nat.reduceEqDiff, ↓reduceIte, Nat.reduceAdd, Int.reduceBEq, Int.reduceBNe, hmx, c1, hz, c2, g1, g2', ht]
  repeat first
   | refine oy ?_
   | refine ox ?_
   | refine mI ?_
   | refine mB ?_
   | refine fd ?_
   | refine Fo.ld rfl rfl ?_
   | (refine Fo.ldN rfl rfl (by simp only [↓nrmL, nrmZ, Nat.reduceEqDiff, ↓reduceIte, Nat.reduceAdd, Int.reduceBEq, Int.reduceBNe, hmx, c1, hz, c2, g1, g2', ht]; rfl) ?_)
   | (refine bn rfl rfl rfl (by simp only [hmx, c1, hz, c2, g1, g2', ht]; rfl) ?_)
   | refine tB ?_
   | refine fB ?_
   | (refine Fo.pcall (v' := ?_) hn rfl (by simp only [↓nrmL, nrmZ, Nat.reduceEqDiff, ↓reduceIte, Nat.reduceAdd, Int.reduceBEq, Int.reduceBNe, hmx, c1, hz, c2, g1, g2', ht, List.map]; rfl) rfl ?hv fun _ _ => ?_; case hv => (simp only [hmx, c1, hz, c2, g1, g2', ht]; rfl))
   | (refine Fo.idx (by simp only [↓nrmL, nrmK, Nat.reduceEqDiff, ↓reduceIte]; rfl) rfl ?_ (by simp only [↓nrmL, nrmZ, Nat.reduceEqDiff, ↓reduceIte, Nat.reduceAdd, Int.reduceBEq, Int.reduceBNe, hmx, c1, hz, c2, g1, g2', ht]; rfl) ?_; (focus omega))
   | (refine Fo.ldI rfl ?_ (by simp only [hmx, c1, hz, c2, g1, g2', ht]; rfl) ?_; (focus omega))
   | (refine Fo.now rfl rfl (by simp only [↓nrmL, nrmZ, Nat.reduceEqDiff, ↓reduceIte, Nat.reduceAdd, Int.reduceBEq, Int.reduceBNe, hmx, c1, hz, c2, g1, g2', ht]; rfl) ?_)
   | refine nl hKF ?_
   | refine sq ?_
   | refine rg fun KF hKF => ?_
   | refine ct rfl ?_
  refine WpO.do (WpX.conD hn rfl rfl (by simp only [↓nrmL, nrmZ, Nat.reduceEqDiff, ↓reduceIte, Nat.reduceAdd, Int.reduceBEq, Int.reduceBNe, List.map] <;> rfl) (K_refSet (y := y) (x := x) (by rw [hfl]; exact hlt) (by rw [hfl]; omega)) fun v H5 h5 => ?_)
  obtain ⟨hb5, hw5, hx5⟩ := h5
  repeat first
   | refine mI ?_
   | refine b0 ?_
   | refine nl hKF ?_
   | refine rg fun KF hKF => ?_
   | dsimp only [cond_true, cond_false]
  refine ⟨x + 1, by omega, ⟨by simp only [↓nrmL, nrmZ, Nat.reduceEqDiff, ↓reduceIte, Nat.reduceAdd, Int.reduceBEq, Int.reduceBNe]; rw [hw1], trivial⟩, hxa, by rw [show y * a2 + (x + 1) = y * a2 + x + 1 by omega, ← filled_succ, h9]; infer_instance, inferInstance, inferInstance⟩
end Go.Am

namespace Go.Am
open Go
attribute [local irreducible] Wp WpO WpX WpE
instance K_Few3 {p : AVal} {H : AHeap} {w h : Int} {l : List UInt8} [hp : BytesI H p l] : PureCon ext prog 11 [.agg [.int .i64 w, .int .i64 h, p]] H 1 (.bool (decide (((l.length : Nat) : Int) ≤ 6000))) := ⟨by
 refine con_of (show prog 11 = some c11 from rfl) rfl rfl fun n hn => ?_
 haveI := hp.one
 repeat first
  | refine mB ?_
  | refine fd ?_
  | refine Fo.ld rfl rfl ?_
  | refine b0 ?_
  | (refine ln (by simp only [↓nrmL, nrmK, Nat.reduceEqDiff, ↓reduceIte]; rfl) ?_)
  | refine bA ?_
  | refine nl hKF ?_
  | refine sq ?_
  | refine rg fun KF hKF => ?_
  | refine rt ?_
  | dsimp only [cond_true, cond_false]
 refine rz trivial ?_
 exact ⟨rfl, Ext0.ext⟩⟩
theorem K_strips {w h w2 h2 up down : Int} {p p2 q : AVal} {H : AHeap} {l s : List UInt8} {ls : List (List Int)} [hp : BytesI H p l] [hp2 : BytesI H p2 s] [hq : LinesI H q ls] [hs : SlimL ls] (hl : l.length ≤ 6000) (hsl : s.length ≤ 6000) : Con ext prog 10 34 [.agg [.int .i64 w, .int .i64 h, p], .agg [.int .i64 w2, .int .i64 h2, p2], .agg [q], .int .i64 up, .int .i64 down] H fun v H' => v = .bool true ∧ Ext H H' := by
 refine con_of (show prog 34 = some c34 from rfl) rfl rfl fun n hn => ?_
 obtain ⟨ps, hps, hrw⟩ := hq.it
 haveI := hp.one
 haveI := hp2.one
 haveI := hps.one
 haveI : Short l := ⟨by omega⟩
 haveI : Short s := ⟨by omega⟩
 repeat first
  | refine mB ?_
  | refine bA ?_
  | refine nl hKF ?_
  | refine sq ?_
  | refine rg fun KF hKF => ?_
  | dsimp only [cond_true, cond_false]
 refine Fr.dregionE [.row [.int .i64 0, .int .i64 0, .nslice] true (2 * 24), .row [.int .i64 0, .int .i64 0, .nslice] true (2 * 24), .row [.nslice] true (2 * 43)] ?_ fun KF hKF => ?_
 ·skip
  repeat first
   | exact oracle_none _ _ _ _ rfl
   | (refine oracle_not rfl rfl ?_; (try simp only [↓nrmL, nrmZ, Nat.reduceEqDiff, ↓reduceIte, Nat.reduceAdd, Int.reduceBEq, Int.reduceBNe]))
   | (refine oracle_pre rfl rfl rfl (exec_ldN rfl rfl rfl) ?_; (try simp only [↓nrmL, nrmZ, Nat.reduceEqDiff, ↓reduceIte, Nat.reduceAdd, Int.reduceBEq, Int.reduceBNe]))
   | (refine oracle_made rfl rfl rfl ?_; (try simp only [↓nrmL, nrmZ, Nat.reduceEqDiff, ↓reduceIte, Nat.reduceAdd, Int.reduceBEq, Int.reduceBNe]))
 simp only [pushAll]
 refine Er rfl (exec_ldN rfl rfl (by simp only [↓nrmL, nrmZ, Nat.reduceEqDiff, ↓reduceIte, Nat.reduceAdd, Int.reduceBEq, Int.reduceBNe]; rfl)) rfl ?_
 refine Fe.con rfl hn rfl rfl (by simp only [↓nrmL, nrmZ, Nat.reduceEqDiff, ↓reduceIte, Nat.reduceAdd, Int.reduceBEq, Int.reduceBNe, List.map] <;> rfl) (K_CopyInk (a := w) (b := h) (l := l) (by omega)) fun v H1 h5 => ?_
 obtain ⟨a1, e1, ha1, hfa1, hwa1, hxa1⟩ := h5
 subst e1
 try dsimp only at ha1
 haveI : ExtI _ H1 := ⟨hxa1⟩
 haveI := ha1.one
 refine ar ?_
 refine Er rfl (exec_ldN rfl rfl (by simp only [↓nrmL, nrmZ, Nat.reduceEqDiff, ↓reduceIte, Nat.reduceAdd, Int.reduceBEq, Int.reduceBNe]; rfl)) rfl ?_
 refine Fe.con rfl hn rfl rfl (by simp only [↓nrmL, nrmZ, Nat.reduceEqDiff, ↓reduceIte, Nat.reduceAdd, Int.reduceBEq, Int.reduceBNe, List.map] <;> rfl) (K_CopyInk (a := w2) (b := h2) (l := s) (by omega)) fun v H2 h5 => ?_
 obtain ⟨a2, e1, ha2, hfa2, hwa2, hxa2⟩ := h5
 subst e1
 try dsimp only at ha2
 haveI : ExtI _ H2 := ⟨hxa2⟩
 haveI := ha2.one
 refine ar ?_
 refine Er rfl (exec_ldN rfl rfl (by simp only [↓nrmL, nrmZ, Nat.reduceEqDiff, ↓reduceIte, Nat.reduceAdd, Int.reduceBEq, Int.reduceBNe]; rfl)) rfl ?_
 refine Fe.con rfl hn rfl rfl (by simp only [↓nrmL, nrmZ, Nat.reduceEqDiff, ↓reduceIte, Nat.reduceAdd, Int.reduceBEq, Int.reduceBNe, List.map] <;> rfl) (K_CopyStave (p := q) (ls := ls)) fun v H3 h5 => ?_
 obtain ⟨a3, e1, hF, h1a3, hf3, hx3⟩ := h5
 subst e1
 haveI : ExtI _ H3 := ⟨hx3⟩
 have hF := hF.weak (B' := H.n + 6) (by have h8 := hxa1.n; have h9 := hxa2.n; simp only [AHeap.push] at h8 h9 ⊢; omega)
 haveI := h1a3
 refine ar ?_
 refine Em rfl rfl ghost_of rfl ?_
 change WpE _ _ (AHeap.n (AHeap.push _ (.row [.int .i64 0, .int .i64 0, .nslice] true (2 * 24)))) _ _ _ _ _ _ _
 refine Em rfl rfl ghost_of rfl ?_
 change WpE _ _ (AHeap.n (AHeap.push _ (.row [.int .i64 0, .int .i64 0, .nslice] true (2 * 24)))) _ _ _ _ _ _ _
 repeat first
  | (refine Em rfl rfl ghost_of rfl ?_)
  | (refine Ee rfl (xs rfl (by (try simp only [↓nrmL, nrmZ, Nat.reduceEqDiff, ↓reduceIte, Nat.reduceAdd, Int.reduceBEq, Int.reduceBNe]); rfl) rfl rfl rfl (by (try simp only [↓nrmL, nrmZ, Nat.reduceEqDiff, ↓reduceIte, Nat.reduceAdd, Int.reduceBEq, Int.reduceBNe]); rfl)) ?_)
  | refine WpE.nil (hKF _ _ ?_)
 repeat first
  | refine mI ?_
  | (refine Fo.ldN rfl rfl (by simp only [↓nrmL, nrmZ, Nat.reduceEqDiff, ↓reduceIte, Nat.reduceAdd, Int.reduceBEq, Int.reduceBNe]; rfl) ?_)
  | refine sq ?_
  | refine rg fun KF hKF => ?_
  | dsimp only [cond_true, cond_false]
 obtain ⟨R1, hR1⟩ : ∃ R, rectS ⟨w, h, l⟩ ls up down = R := ⟨_, rfl⟩
 obtain ⟨R2, hR2⟩ : ∃ R, restS ⟨w, h, l⟩ ⟨w2, h2, s⟩ ls up = R := ⟨_, rfl⟩
 have sh1 : R1.1.px.length ≤ 999999 := by
  rw [← hR1]; exact rectS_short _ _ _ _
 have sh2 : R2.1.px.length ≤ 999999 := by
  rw [← hR2]; exact restS_short _ _ _ _
 refine WpO.do (WpX.conD hn rfl rfl (by simp only [↓nrmL, nrmZ, Nat.reduceEqDiff, ↓reduceIte, Nat.reduceAdd, Int.reduceBEq, Int.reduceBNe, List.map] <;> rfl) (K_Rectify (w := w) (h := h) (up := up) (down := down) (p := a1) (q := a3) (l := l) (ls := ls) (hq := hF _ (by exact Nat.le_refl _) (fun r a b => by rw [set_get_ne (by simp only [AHeap.push]; omega), set_get_ne (by simp only [AHeap.push]; omega), set_get_ne (by simp only [AHeap.push]; omega)]))) fun v H4 h5 => ?_)
 rw [hR1] at h5
 obtain ⟨x4, e1, p4, e2, hp4, hf4, hw4, hx4⟩ := h5
 subst e1 e2
 haveI : ExtI _ H4 := ⟨hx4⟩
 have hlc : LinesI H4 a3 ls := LinesI.ext (hF _ (by exact Nat.le_refl _) (fun r a b => by rw [set_get_ne (by simp only [AHeap.push]; omega), set_get_ne (by simp only [AHeap.push]; omega), set_get_ne (by simp only [AHeap.push]; omega)])) hx4
 haveI := hp4.one
 repeat first
  | refine mI ?_
  | refine mT ?_
  | (refine Fo.ldN rfl rfl (by simp only [↓nrmL, nrmZ, Nat.reduceEqDiff, ↓reduceIte, Nat.reduceAdd, Int.reduceBEq, Int.reduceBNe]; rfl) ?_)
  | refine xt ?_
  | refine nw ?_
  | (refine so rfl (rfl : _ = AVal.agg _) rfl rfl rfl (by simp only [↓nrmL, nrmZ, Nat.reduceEqDiff, ↓reduceIte, Nat.reduceAdd, Int.reduceBEq, Int.reduceBNe]; rfl) ?_)
  | refine nl hKF ?_
  | refine sq ?_
  | refine rg fun KF hKF => ?_
 refine WpO.do (WpX.conD hn rfl rfl (by simp only [↓nrmL, nrmZ, Nat.reduceEqDiff, ↓reduceIte, Nat.reduceAdd, Int.reduceBEq, Int.reduceBNe, List.map] <;> rfl) (K_refRectify (w := w) (h := h) (up := up) (down := down) (p := p) (q := q) (l := l) (ls := ls) (hq := hq.ext Ext0.ext)) fun v H5 h5 => ?_)
 rw [hR1] at h5
 obtain ⟨x5, e1, p5, e2, hp5, hf5, hw5, hx5⟩ := h5
 subst e1 e2
 haveI : ExtI _ H5 := ⟨hx5⟩
 haveI := hp5.one
 repeat first
  | refine mI ?_
  | refine mT ?_
  | (refine Fo.ldN rfl rfl (by simp only [↓nrmL, nrmZ, Nat.reduceEqDiff, ↓reduceIte, Nat.reduceAdd, Int.reduceBEq, Int.reduceBNe]; rfl) ?_)
  | refine xt ?_
  | refine nw ?_
  | (refine so rfl (rfl : _ = AVal.agg _) rfl rfl rfl (by simp only [↓nrmL, nrmZ, Nat.reduceEqDiff, ↓reduceIte, Nat.reduceAdd, Int.reduceBEq, Int.reduceBNe]; rfl) ?_)
  | refine nl hKF ?_
  | refine sq ?_
  | refine rg fun KF hKF => ?_
 refine WpO.do (WpX.conD hn rfl rfl (by simp only [↓nrmL, nrmZ, Nat.reduceEqDiff, ↓reduceIte, Nat.reduceAdd, Int.reduceBEq, Int.reduceBNe, List.map] <;> rfl) (K_Restore (w := w) (h := h) (w2 := w2) (h2 := h2) (up := up) (p := a1) (p2 := a2) (q := a3) (l := l) (s := s) (ls := ls) (hq := hlc.ext Ext0.ext)) fun v H6 h5 => ?_)
 rw [hR2] at h5
 obtain ⟨x6, e1, p6, e2, hp6, hf6, hw6, hx6⟩ := h5
 subst e1 e2
 haveI : ExtI _ H6 := ⟨hx6⟩
 haveI := hp6.one
 repeat first
  | refine mI ?_
  | refine mT ?_
  | (refine Fo.ldN rfl rfl (by simp only [↓nrmL, nrmZ, Nat.reduceEqDiff, ↓reduceIte, Nat.reduceAdd, Int.reduceBEq, Int.reduceBNe]; rfl) ?_)
  | refine xt ?_
  | refine nw ?_
  | (refine so rfl (rfl : _ = AVal.agg _) rfl rfl rfl (by simp only [↓nrmL, nrmZ, Nat.reduceEqDiff, ↓reduceIte, Nat.reduceAdd, Int.reduceBEq, Int.reduceBNe]; rfl) ?_)
  | refine nl hKF ?_
  | refine sq ?_
  | refine rg fun KF hKF => ?_
 refine WpO.do (WpX.conD hn rfl rfl (by simp only [↓nrmL, nrmZ, Nat.reduceEqDiff, ↓reduceIte, Nat.reduceAdd, Int.reduceBEq, Int.reduceBNe, List.map] <;> rfl) (K_refRestore (w := w) (h := h) (w2 := w2) (h2 := h2) (up := up) (p := p) (p2 := p2) (q := q) (l := l) (s := s) (ls := ls) (hq := hq.ext Ext0.ext)) fun v H7 h5 => ?_)
 rw [hR2] at h5
 obtain ⟨x7, e1, p7, e2, hp7, hf7, hw7, hx7⟩ := h5
 subst e1 e2
 haveI : ExtI _ H7 := ⟨hx7⟩
 haveI := hp7.one
 haveI : Short R1.1.px := ⟨sh1⟩
 haveI : Short R2.1.px := ⟨sh2⟩
 have d1 : decide ((⟨R1.1.w, R1.1.h, R1.1.px⟩ : Img) = ⟨R1.1.w, R1.1.h, R1.1.px⟩) = true := decide_eq_true rfl
 have d2 : decide ((⟨R2.1.w, R2.1.h, R2.1.px⟩ : Img) = ⟨R2.1.w, R2.1.h, R2.1.px⟩) = true := decide_eq_true rfl
 have d3 : decide ((⟨w, h, l⟩ : Img) = ⟨w, h, l⟩) = true := decide_eq_true rfl
 have d4 : decide ((⟨w2, h2, s⟩ : Img) = ⟨w2, h2, s⟩) = true := decide_eq_true rfl
 have d5 : decide (ls = ls) = true := decide_eq_true rfl
 have g1 : (R1.2 == R1.2) = true := beq_self_eq_true _
 have g2 : (R2.2 == R2.2) = true := beq_self_eq_true _
 repeat first
  | refine oy ?_
  | refine mI ?_
  | refine mB ?_
  | refine mT ?_
  | (refine Fo.ldN rfl rfl (by simp only [↓nrmL, nrmZ, Nat.reduceEqDiff, ↓reduceIte, Nat.reduceAdd, Int.reduceBEq, Int.reduceBNe, d1, d2, d3, d4, d5, g1, g2]; rfl) ?_)
  | (refine bn rfl rfl rfl (by simp only [d1, d2, d3, d4, d5, g1, g2]; rfl) ?_)
  | refine tB ?_
  | refine xt ?_
  | (refine Fo.pcall (v' := ?_) hn rfl (by simp only [↓nrmL, nrmZ, Nat.reduceEqDiff, ↓reduceIte, Nat.reduceAdd, Int.reduceBEq, Int.reduceBNe, d1, d2, d3, d4, d5, g1, g2, List.map]; rfl) rfl ?hv fun _ _ => ?_; case hv => (simp only [d1, d2, d3, d4, d5, g1, g2]; rfl))
  | refine nw ?_
  | (refine so rfl (rfl : _ = AVal.agg _) rfl rfl rfl (by simp only [↓nrmL, nrmZ, Nat.reduceEqDiff, ↓reduceIte, Nat.reduceAdd, Int.reduceBEq, Int.reduceBNe, d1, d2, d3, d4, d5, g1, g2]; rfl) ?_)
  | refine nl hKF ?_
  | refine sq ?_
  | refine rg fun KF hKF => ?_
 refine WpO.do (WpX.conD hn rfl rfl (by simp only [↓nrmL, nrmZ, Nat.reduceEqDiff, ↓reduceIte, Nat.reduceAdd, Int.reduceBEq, Int.reduceBNe, List.map] <;> rfl) (K_SameStave (p := a3) (q := q) (l := ls) (m := ls) (hp := hlc.ext Ext0.ext) (hq := hq.ext Ext0.ext)).con fun v H8 h5 => ?_)
 obtain ⟨rfl, hx8⟩ := h5
 haveI : ExtI _ H8 := ⟨hx8⟩
 simp only [d5]
 refine tB ?_
 refine mB ?_
 refine nl hKF ?_
 refine rt ?_
 dsimp only [cond_true, cond_false]
 refine rz trivial ?_
 exact ⟨rfl, Ext0.ext⟩
theorem K_StaveStrips {w h w2 h2 up down : Int} {p p2 q : AVal} {H : AHeap} {l s : List UInt8} {ls : List (List Int)} [hp : BytesI H p l] [hp2 : BytesI H p2 s] [hq : LinesI H q ls] [hs : SlimL ls] : Con ext prog 11 5 [.agg [.int .i64 w, .int .i64 h, p], .agg [.int .i64 w2, .int .i64 h2, p2], .agg [q], .int .i64 up, .int .i64 down] H fun v H' => v = .bool true ∧ Ext H H' := by
 refine con_of (show prog 5 = some c5 from rfl) rfl rfl fun n hn => ?_
 obtain ⟨ps, hps, hrw⟩ := hq.it
 haveI := hp.one
 haveI := hp2.one
 haveI := hps.one
 cases h1 : decide (((l.length : Nat) : Int) ≤ 6000)
 ·skip
  repeat first
   | refine oy ?_
   | refine ox ?_
   | refine mB ?_
   | (refine Fo.ldN rfl rfl (by simp only [↓nrmL, nrmZ, Nat.reduceEqDiff, ↓reduceIte, Nat.reduceAdd, Int.reduceBEq, Int.reduceBNe, h1]; rfl) ?_)
   | refine tB ?_
   | (refine Fo.pcall (v' := ?_) hn rfl (by simp only [h1, List.map]; rfl) rfl ?hv fun _ _ => ?_; case hv => rfl)
   | (refine Fo.pcall (v' := ?_) hn rfl (by simp only [↓nrmL, nrmZ, Nat.reduceEqDiff, ↓reduceIte, Nat.reduceAdd, Int.reduceBEq, Int.reduceBNe, h1, List.map]; rfl) rfl ?hv fun _ _ => ?_; case hv => (simp only [h1]; rfl))
   | refine bA ?_
   | (refine Fo.now rfl rfl (by simp only [↓nrmL, nrmZ, Nat.reduceEqDiff, ↓reduceIte, Nat.reduceAdd, Int.reduceBEq, Int.reduceBNe, h1]; rfl) ?_)
   | refine nl hKF ?_
   | refine sq ?_
   | refine rg fun KF hKF => ?_
   | refine rt ?_
   | dsimp only [cond_true, cond_false]
  refine rz trivial ?_
  exact ⟨rfl, Ext0.ext⟩
 cases h2 : decide (((s.length : Nat) : Int) ≤ 6000)
 ·skip
  repeat first
   | refine oy ?_
   | refine ox ?_
   | refine mB ?_
   | (refine Fo.ldN rfl rfl (by simp only [↓nrmL, nrmZ, Nat.reduceEqDiff, ↓reduceIte, Nat.reduceAdd, Int.reduceBEq, Int.reduceBNe, h1, h2]; rfl) ?_)
   | refine tB ?_
   | refine fB ?_
   | (refine Fo.pcall (v' := ?_) hn rfl (by simp only [h1, h2, List.map]; rfl) rfl ?hv fun _ _ => ?_; case hv => rfl)
   | (refine Fo.pcall (v' := ?_) hn rfl (by simp only [↓nrmL, nrmZ, Nat.reduceEqDiff, ↓reduceIte, Nat.reduceAdd, Int.reduceBEq, Int.reduceBNe, h1, h2, List.map]; rfl) rfl ?hv fun _ _ => ?_; case hv => (simp only [h1, h2]; rfl))
   | refine bA ?_
   | (refine Fo.now rfl rfl (by simp only [↓nrmL, nrmZ, Nat.reduceEqDiff, ↓reduceIte, Nat.reduceAdd, Int.reduceBEq, Int.reduceBNe, h1, h2]; rfl) ?_)
   | refine nl hKF ?_
   | refine sq ?_
   | refine rg fun KF hKF => ?_
   | refine rt ?_
   | dsimp only [cond_true, cond_false]
  refine rz trivial ?_
  exact ⟨rfl, Ext0.ext⟩
 have h3 := of_decide_eq_true h1
 have h4 := of_decide_eq_true h2
 repeat first
  | refine oy ?_
  | refine mI ?_
  | refine mB ?_
  | (refine Fo.ldN rfl rfl (by simp only [↓nrmL, nrmZ, Nat.reduceEqDiff, ↓reduceIte, Nat.reduceAdd, Int.reduceBEq, Int.reduceBNe, h1, h2]; rfl) ?_)
  | refine fB ?_
  | (refine Fo.pcall (v' := ?_) hn rfl (by simp only [↓nrmL, nrmZ, Nat.reduceEqDiff, ↓reduceIte, Nat.reduceAdd, Int.reduceBEq, Int.reduceBNe, h1, h2, List.map]; rfl) rfl ?hv fun _ _ => ?_; case hv => (simp only [h1, h2]; rfl))
  | refine bA ?_
  | (refine Fo.now rfl rfl (by simp only [↓nrmL, nrmZ, Nat.reduceEqDiff, ↓reduceIte, Nat.reduceAdd, Int.reduceBEq, Int.reduceBNe, h1, h2]; rfl) ?_)
  | refine nl hKF ?_
  | refine sq ?_
  | refine rg fun KF hKF => ?_
 refine WpO.do (WpX.conD hn rfl rfl (by simp only [↓nrmL, nrmZ, Nat.reduceEqDiff, ↓reduceIte, Nat.reduceAdd, Int.reduceBEq, Int.reduceBNe, List.map] <;> rfl) (K_strips (p := p) (p2 := p2) (q := q) (l := l) (s := s) (ls := ls) (hq := hq.ext Ext0.ext) (by omega) (by omega)) fun v H3 h5 => ?_)
 obtain ⟨rfl, hx3⟩ := h5
 haveI : ExtI _ H3 := ⟨hx3⟩
 refine fB ?_
 refine mB ?_
 refine oy ?_
 refine Fo.pcall (v' := ?_) hn rfl (by simp only [↓nrmL, nrmZ, Nat.reduceEqDiff, ↓reduceIte, Nat.reduceAdd, Int.reduceBEq, Int.reduceBNe, List.map]; rfl) rfl ?hv fun _ _ => ?_; case hv => rfl
 refine tB ?_
 refine mB ?_
 refine nl hKF ?_
 refine rt ?_
 dsimp only [cond_true, cond_false]
 refine rz trivial ?_
 exact ⟨rfl, Ext0.ext⟩
end Go.Am

namespace Go.Proofs.Ytpochhefklmnfaa.StaveStrips
open Go.ChangeShapes Go.WideShapes Go.ChangeAt Go.RowKit Go.Am Go.Proofs.Ytpochhefklmnfaa.Laid

theorem con (H : AHeap) (avs : List AVal) (ht : tablesIn aroundT H = true) (h : ArgSW Try.prog H 4 [24, 24, 43, 3, 3] avs) : Con ext prog 11 5 avs H fun v H' => v = .bool true ∧ Ext H H' := by
  obtain ⟨a0, r0, rfl, h0, a1, r1, rfl, h1, a2, r2, rfl, h2, a3, r3, rfl, h3, a4, r4, rfl, h4, rfl⟩ := h
  obtain ⟨w0, hh0, p0, l0, rfl, k0, _⟩ := shapeW_img (ti := 3) (ts := 22) (tb := 5) Try.underlying24 (by kernel_rfl) Try.underlying3 Try.underlying22 Try.underlying5 (by kernel_rfl) h0
  obtain ⟨w1, hh1, p1, l1, rfl, k1, _⟩ := shapeW_img (ti := 3) (ts := 22) (tb := 5) Try.underlying24 (by kernel_rfl) Try.underlying3 Try.underlying22 Try.underlying5 (by kernel_rfl) h1
  obtain ⟨q2, l2, rfl, k2, m2⟩ := shapeW_stave Try.underlying43 (by kernel_rfl) Try.underlying34 Try.underlying25 Try.underlying3 (by kernel_rfl) (by kernel_rfl) (by kernel_rfl) (by kernel_rfl) h2
  haveI := m2
  obtain ⟨i3, rfl, _⟩ := shapeW_int Try.underlying3 h3
  obtain ⟨i4, rfl, _⟩ := shapeW_int Try.underlying3 h4
  have e0 : argV Try.prog 24 [.int .i64 w0, .int .i64 hh0, p0] = .agg [.int .i64 w0, .int .i64 hh0, p0] := by simp only [argV, show aggTy Try.prog 24 = true by kernel_rfl, cond_true]
  have e1 : argV Try.prog 24 [.int .i64 w1, .int .i64 hh1, p1] = .agg [.int .i64 w1, .int .i64 hh1, p1] := by simp only [argV, show aggTy Try.prog 24 = true by kernel_rfl, cond_true]
  have e2 : argV Try.prog 43 [q2] = .agg [q2] := by simp only [argV, show aggTy Try.prog 43 = true by kernel_rfl, cond_true]
  have e3 : argV Try.prog 3 [.int .i64 i3] = .int .i64 i3 := by simp only [argV, show aggTy Try.prog 3 = false by kernel_rfl, cond_false, List.headD_cons]
  have e4 : argV Try.prog 3 [.int .i64 i4] = .int .i64 i4 := by simp only [argV, show aggTy Try.prog 3 = false by kernel_rfl, cond_false, List.headD_cons]
  rw [e0, e1, e2, e3, e4]
  exact K_StaveStrips (p := p0) (p2 := p1) (q := q2) (l := l0) (s := l1) (ls := l2)

theorem contract (H : Type) (enc : TypeId × Value → H) (W : World) (base : Nat) (args : Array Value) (ds gs : List (DataW H)) (before : List MemPlace)
    (hval : ∀ (j : Nat) t v, Try.f5.params[j]? = some t → args[j]? = some v → Value.okWide Try.prog W .any base t v)
    (hW : DataW.Whole enc Try.prog Try.f5.params.toList Rows.staveStripsSpec.vars false W args.toList ds gs before) (hz : (DataW.weightsEach Try.prog (Try.f5.params.toList ++ (OpenSpec.ofChange Rows.staveStripsSpec).bare.plain.varTypes Try.prog) (ds ++ gs)).all (· ≤ reachBytes) = true) (hL : laidMetH Try.prog Rows.staveStripsRow.laid W) :
    Calls Try.prog 5 args W fun e W' => ∃ v, e = .returned v ∧ Rows.staveStripsSpec.post enc Try.prog Try.f5 false true false false W args v W' := by
  have hW' := hW
  obtain ⟨p, q, hA, _⟩ := hW'
  rw [Try.params5] at hA
  obtain ⟨v0, vs0, d0, ds0, p0, q0, _, rfl, _, _, r0⟩ := trodAll_cons hA
  obtain ⟨v1, vs1, d1, ds1, p1, q1, _, rfl, _, _, r1⟩ := trodAll_cons r0
  obtain ⟨v2, vs2, d2, ds2, p2, q2, _, rfl, _, _, r2⟩ := trodAll_cons r1
  obtain ⟨v3, vs3, d3, ds3, p3, q3, _, rfl, _, _, r3⟩ := trodAll_cons r2
  obtain ⟨v4, vs4, d4, ds4, p4, q4, _, rfl, _, _, r4⟩ := trodAll_cons r3
  obtain ⟨_, rfl, _⟩ := trodAll_nil r4
  exact law_callsW (tb := 4) (n := 4) (d := 11) (tabs := aroundT) mixed progOk Try.func5 rfl (by decide +kernel) laidOut rowed full (by kernel_rfl) rfl (by kernel_rfl) Try.underlying4 (by kernel_rfl) (by kernel_rfl)
    (fun H avs ht h => con H avs ht (by rw [Try.params5] at h; exact h)) H enc W base args _ gs before rfl hval hW (slim_app hz) around_cells

theorem laid_met (os : Os) : laidMet Try.prog Rows.staveStripsRow.laid ((laidWorld os).forCall (fun _ _ => 0) ⟨#[], #[.agg #[.int .i64 0, .int .i64 0, .slice none 0 0], .agg #[.int .i64 0, .int .i64 0, .slice none 0 0], .agg #[.slice none 0 0], .int .i64 0, .int .i64 0], []⟩).memory :=
  laidMet_of_run' 8 (by kernel_rfl) (by kernel_rfl)
theorem reads (os : Os) {H : Type} (enc : TypeId × Value → H) : ∃ places, DataW.whole enc Try.prog ((laidWorld os).forCall (fun _ _ => 0) ⟨#[], #[.agg #[.int .i64 0, .int .i64 0, .slice none 0 0], .agg #[.int .i64 0, .int .i64 0, .slice none 0 0], .agg #[.slice none 0 0], .int .i64 0, .int .i64 0], []⟩).memory Try.f5.params.toList Rows.staveStripsSpec.vars false #[Value.agg #[.int .i64 0, .int .i64 0, .slice none 0 0], .agg #[.int .i64 0, .int .i64 0, .slice none 0 0], .agg #[.slice none 0 0], .int .i64 0, .int .i64 0].toList 8 = some ([.agg [.lit (.int .i64 0), .lit (.int .i64 0), .nil], .agg [.lit (.int .i64 0), .lit (.int .i64 0), .nil], .agg [.nil], .lit (.int .i64 0), .lit (.int .i64 0)], [], places) :=
  ⟨[], by kernel_rfl⟩

theorem lifted (os : Os) (started : os.Started) (H : Type) (enc : TypeId × Value → H) (F : Stop.Interp) :
    ReturnsInHanded {} Try.checked os 5 .any ((OpenSpec.ofChange Rows.staveStripsSpec).preRow enc Try.prog Try.f5 Rows.staveStripsRow.domain false Rows.staveStripsRow.laid) (((OpenSpec.ofChange Rows.staveStripsSpec).at F).post enc Try.prog Try.f5 false true false false) := by
  obtain ⟨places, hx⟩ := reads os enc
  refine returnsInHanded_of_row (C := Try.checked) (s := OpenSpec.ofChange Rows.staveStripsSpec) own started (by kernel_rfl) Try.func5
    (witness_row_at (enc := enc) (C := Try.checked) false (laidWorld os) #[.agg #[.int .i64 0, .int .i64 0, .slice none 0 0], .agg #[.int .i64 0, .int .i64 0, .slice none 0 0], .agg #[.slice none 0 0], .int .i64 0, .int .i64 0] rfl (by kernel_rfl) (by kernel_rfl) (by kernel_rfl)
      (OpenSpec.preRow_of_cond 8 hx (by kernel_rfl) (fun k hk => by cases hk) (by kernel_rfl) (laid_met os))) ?_
  intro W base args ds gs before hval hW _ _ hz hL _ _
  exact contract H enc W base args ds gs before hval hW hz hL

theorem said : Rows.StaveStripsSaid :=
  OpenClaim.holds_of_cond 5 Try.f5 rfl rfl rfl rfl rfl rfl rfl ⟨rfl, rfl, rfl, rfl, rfl⟩ rfl rfl rfl rfl rfl (by kernel_rfl) Try.func5 (by kernel_rfl)
    (of_decide_eq_true (by kernel_rfl)) (by unfold Func.isWrapper; first | (rw [if_pos (by decide +kernel)]; kernel_rfl) | (rw [if_neg (by decide +kernel)]; exact ⟨rfl, rfl⟩))
    (fun os started H enc _ F => by rw [OpenClaim.pre_eq_preRow]; exact lifted os started H enc F)
end Go.Proofs.Ytpochhefklmnfaa.StaveStrips
