import Derived.Test.YtcklaifhanehmaaDoorAmBD
set_option linter.unusedSimpArgs false
set_option linter.unusedVariables false
set_option maxRecDepth 100000
set_option maxHeartbeats 8000000
set_option synthInstance.maxHeartbeats 2000000
set_option synthInstance.maxSize 100000
namespace Go.Am
open Go Go.RowKit Go.ChangeShapes Go.WideShapes
def ArgSW (P : Program) (H : AHeap) (n : Nat) : List TypeId → List AVal → Prop
  | [], avs => avs = []
  | t :: ts, avs => ∃ acs rest, avs = argV P t acs :: rest ∧ ShapeW P H n t acs ∧ ArgSW P H n ts rest
theorem ArgSW.ext {P : Program} {H H' : AHeap} (x : Ext H H') {n : Nat} : ∀ {ts : List TypeId} {avs : List AVal}, ArgSW P H n ts avs → ArgSW P H' n ts avs := by
  intro ts
  induction ts with
  | nil => intro avs h; exact h
  | cons t ts ih =>
    intro avs h
    obtain ⟨acs, rest, e, h1, h2⟩ := h
    exact ⟨acs, rest, e, h1.ext x, ih h2⟩
section
variable {P : Program} {S : Base} {m : RMap} {H : AHeap} {w : World} {Hd : Type} {enc : TypeId × Value → Hd} {T : TypeId → Prop}
theorem open_argW (hgh : ∀ r, ¬ S.ghost r) (K : Kids P T) (hz : ∀ t e, T t → P.underlying t = some (.slice e) → 0 < P.cellsOf e) {n : Nat} {t : TypeId} {v : Value} {d : DataW Hd} {ps : List MemPlace} (hT : T t) (hp : plainT P n t = true)
    (hok : Value.okWide P w .any 0 t v ∨ ∃ b, Value.okWide P w .any b t v) (hd : DataW.Trod enc P w 0 (fun _ => true) true t v d ps) (hsl : Slim P t d) (h : HRel S m H w) (hro : RO H) :
    ∃ H' m' acs, Ext H H' ∧ Le m m' ∧ HRel S m' H' w ∧ RO H' ∧ emb m' (argV P t acs) = some v ∧ ShapeW P H' n t acs := by
  obtain ⟨b, hok⟩ : ∃ b, Value.okWide P w .any b t v := by rcases hok with h | h; exact ⟨0, h⟩; exact h
  obtain ⟨f, hf⟩ := hd
  obtain ⟨H', m', acs, h1, h2, h3, h4, h5, h6⟩ := open_trodW hgh K hz n f t _ _ m H hT hp hf hsl h hro
  refine ⟨H', m', acs, h1, h2, h3, h4, ?_, h6⟩
  have one : v.cells = #[v] → aggTy P t = false → emb m' (argV P t acs) = some v := by
    intro hc ha
    rw [hc] at h5
    have hl := embL_length h5
    match acs, hl with
    | [a], _ =>
      obtain ⟨x, xs, q1, q2, q3⟩ := embL_cons h5
      simp at q3
      simp only [argV, ha, cond_false, List.headD_cons]
      rw [q1, q3.1]
  cases n with
  | zero => simp [plainT] at hp
  | succ n =>
    unfold plainT at hp
    split at hp <;> rename_i hu
    · obtain ⟨b, rfl⟩ := okWide_bool hu hok
      exact one rfl (by simp [aggTy, hu])
    · obtain ⟨b, rfl⟩ := okWide_string hu hok
      exact one rfl (by simp [aggTy, hu])
    · obtain ⟨b, rfl⟩ := okWide_int hu hok
      exact one rfl (by simp [aggTy, hu])
    · obtain ⟨a, len, cap, rfl⟩ := okWide_slice hu hok
      exact one rfl (by simp [aggTy, hu])
    · obtain ⟨cs, rfl, _⟩ := okWide_struct hu hok
      have ha : aggTy P t = true := by simp [aggTy, hu]
      simp only [argV, ha, cond_true, emb]
      simp only [Value.cells] at h5
      rw [h5]
    · have hcs : ∃ cs, v = .agg cs := by
        simp only [Value.okWide, hu] at hok
        obtain ⟨cs, e, _⟩ := hok
        exact ⟨cs, e⟩
      obtain ⟨cs, rfl⟩ := hcs
      have ha : aggTy P t = true := by simp [aggTy, hu]
      simp only [argV, ha, cond_true, emb]
      simp only [Value.cells] at h5
      rw [h5]
    · cases hp
theorem open_argsW (hgh : ∀ r, ¬ S.ghost r) (K : Kids P T) (hz : ∀ t e, T t → P.underlying t = some (.slice e) → 0 < P.cellsOf e) {n b : Nat} : ∀ (ts : List TypeId) (vs : List Value) (ds : List (DataW Hd)) (ps : List MemPlace) (m : RMap) (H : AHeap), (∀ t ∈ ts, T t ∧ plainT P n t = true) →
    (∀ (j : Nat) t v, ts[j]? = some t → vs[j]? = some v → Value.okWide P w .any b t v) → DataW.TrodAll enc P w 0 (fun _ => true) true ts vs ds ps → (∀ (j : Nat) t d, ts[j]? = some t → ds[j]? = some d → Slim P t d) → HRel S m H w → RO H →
    ∃ H' m' avs, Ext H H' ∧ Le m m' ∧ HRel S m' H' w ∧ RO H' ∧ embL m' avs = some vs ∧ ArgSW P H' n ts avs := by
  intro ts
  induction ts with
  | nil =>
    intro vs ds ps m H _ _ hd _ h hro
    obtain ⟨rfl, _, _⟩ := trodAll_nil hd
    exact ⟨H, m, [], Ext.refl H, Le.refl m, h, hro, by simp [embL], rfl⟩
  | cons t ts ih =>
    intro vs ds ps m H hT hok hd hsl h hro
    obtain ⟨v, vs', d, ds', p, q, rfl, rfl, rfl, h1, h2⟩ := trodAll_cons hd
    obtain ⟨hTt, hpt⟩ := hT t (by simp)
    obtain ⟨H1, m1, acs, e1, l1, r1, o1, b1, s1⟩ := open_argW hgh K hz hTt hpt (Or.inr ⟨b, hok 0 t v rfl rfl⟩) h1 (hsl 0 t d rfl rfl) h hro
    obtain ⟨H2, m2, avs, e2, l2, r2, o2, b2, s2⟩ := ih vs' ds' q m1 H1 (fun t h => hT t (by simp [h])) (fun j t v q1 q2 => hok (j + 1) t v (by simpa using q1) (by simpa using q2)) h2 (fun j t d q1 q2 => hsl (j + 1) t d (by simpa using q1) (by simpa using q2)) r1 o1
    exact ⟨H2, m2, argV P t acs :: avs, e1.trans e2, Le.trans l1 l2, r2, o2, embL_mk (emb_mono l2 _ _ b1) b2, acs, avs, rfl, s1.ext e2, s2⟩
end
section
variable {P : Program} {H : AHeap} {n : Nat} {t e : TypeId} {cs : List AVal}
theorem shapeW_int {k : IntKind} (hu : P.underlying t = some (.int k)) (h : ShapeW P H (n + 1) t cs) : ∃ i, cs = [.int k i] ∧ (Lit.int k i).wf = true := by simpa only [ShapeW, hu] using h
theorem shapeW_str (hu : P.underlying t = some .string) (h : ShapeW P H (n + 1) t cs) : ∃ s : ByteArray, cs = [.str s] ∧ s.size ≤ reachBytes := by simpa only [ShapeW, hu] using h
theorem shapeW_struct {fs : Array Field} (hu : P.underlying t = some (.struct fs)) (h : ShapeW P H (n + 1) t cs) : shapes (ShapeW P H n) (fs.toList.map fun f => f.type) cs := by simpa only [ShapeW, hu] using h
end
section
variable {P : Program} {H : AHeap} {n : Nat} {t e : TypeId} {cs : List AVal}
theorem slim_all {ts : List TypeId} {Hd : Type} {ds : List (DataW Hd)} (h : (DataW.weightsEach P ts ds).all (· ≤ reachBytes) = true) : ∀ (j : Nat) t d, ts[j]? = some t → ds[j]? = some d → Slim P t d := fun j t d h1 h2 n hn => by
  have := List.all_eq_true.1 h n (DataW.weights_mem_each h1 h2 n hn)
  simpa using this
end
end Go.Am
namespace Go.Am
open Go Go.RowKit Go.ChangeShapes Go.WideShapes
theorem law_callsWP {P : Program} {ext : Exts} {prog : FuncId → Option RFunc} {f : FuncId} {fn : Func} {c : Code} {s : ChangeSpec} {apart fresh handsOn again : Bool} {tb : TypeId} {tabs : List (Nat × List AVal)} {ptrs : List Nat} {n d : Nat}
    (hmix : P.follows .mixedOrders = true) (hP : ProgOk P ext prog) (hfn : P.funcs[f]? = some fn) (hb : fn.body = some c) (hname : fn.name ≠ "runtime.NumGoroutine")
    (hl : laidOutB P = true) (hm : mapsRowed P = true) (hz : ∀ t e, t < P.types.size → P.underlying t = some (.slice e) → 0 < P.cellsOf e) (hplain : (fn.params.toList.all fun t => decide (t < P.types.size) && plainT P n t) = true)
    (hvars : s.vars = []) (hrt : fn.resultTypes = #[tb]) (htb : P.underlying tb = some .bool) (htabs0 : tablesIn tabs (tableHeap P.globals.size tabs) = true) (htabs : (tabs.all fun t => Nat.blt t.1 P.globals.size && t.2.all plainV) = true)
    (hptrs : (ptrs.all fun g => Nat.blt g P.globals.size && !(tabs.any fun t => Nat.beq t.1 g)) = true) (hnd : ptrs.Nodup)
    (hcon : ∀ (H : AHeap) (avs : List AVal), tablesIn tabs H = true → PtrsIn ptrs H → ArgSW P H n fn.params.toList avs → Con ext prog d f avs H fun v H' => v = .bool true ∧ Ext H H')
    (Hd : Type) (enc : TypeId × Value → Hd) (W : World) (base : Nat) (args : Array Value) (ds gs : List (DataW Hd)) (before : List MemPlace)
    (hspec : s.fn Hd ds = { results := [.lit (.bool true)], args := ds })
    (hval : ∀ (j : Nat) t v, fn.params[j]? = some t → args[j]? = some v → Value.okWide P W .any base t v) (hW : DataW.Whole enc P fn.params.toList s.vars apart W args.toList ds gs before)
    (hsl : ∀ (j : Nat) t d, fn.params.toList[j]? = some t → ds[j]? = some d → Slim P t d)
    (hcells : ∀ t ∈ tabs, ∀ (i : Nat) (v : AVal), t.2[i]? = some v → ∃ x, emb (fun _ => none) v = some x ∧ W.cell? ⟨t.1, i, none⟩ = some x)
    (hcellsP : ∀ g ∈ ptrs, ∃ t v a, (v = .pointer (some a) ∨ v = .agg #[.pointer (some a)]) ∧ W.cell? ⟨g, 0, none⟩ = some (.iface t v)) :
    Calls P f args W fun e W' => ∃ v, e = .returned v ∧ s.post enc P fn apart fresh handsOn again W args v W' := by
  have K := kids_rows (P := P) hl hm
  have hpl := List.all_eq_true.1 hplain
  have hT : ∀ t ∈ fn.params.toList, t < P.types.size ∧ plainT P n t = true := fun t ht => by
    have := hpl t ht
    simpa using this
  have htab := List.all_eq_true.1 htabs
  -- the tables
  have hrel : HRel ⟨W.heap.size, W, P.globals.size, fun _ => False, cCode P⟩ (globMap P.globals.size (longest tabs + 1)) (tableHeap P.globals.size tabs) W := by
    refine ⟨Below.refl _ _, Nat.le_refl _, fun g hg => ⟨longest tabs + 1, by simp only at hg; simp [globMap, hg]⟩, fun r hr => by simp only [tableHeap] at hr; simp [globMap]; omega, fun r hr => hr.elim, ?_, ?_, ⟨fun r R p _ h _ => absurd h tableObj_loop, fun r s R R' p q L L' _ _ _ h => absurd h tableObj_loop, ⟨fun r es p _ h _ => absurd h tableObj_map, fun r s es es' p q _ _ _ h => absurd h tableObj_map⟩⟩⟩
    · intro r cs rw e p hr hg hp
      obtain ⟨hmem, rfl⟩ := tableObj_row hg
      have hT1 := htab _ hmem
      simp only [Bool.and_eq_true] at hT1
      have hrG : r < P.globals.size := by simpa using hT1.1
      have hp' : p = (⟨r, 0, none⟩, longest tabs + 1) := by simp only [globMap, hrG, if_true] at hp; exact (Option.some.inj hp).symm
      subst hp'
      refine ⟨fun i v hi => ?_, Nat.le_succ_of_le (le_longest hmem), fun q => by cases q⟩
      obtain ⟨x, h1, h2⟩ := hcells _ hmem i v hi
      have hv : plainV v = true := List.all_eq_true.1 hT1.2 v (List.mem_of_getElem? hi)
      refine ⟨x, by rw [plain_emb hv _ (fun _ => none)]; exact h1, ?_⟩
      cases i <;> simpa [Addr.add] using h2
    · intro r s' cs rw e cs' e' p q hr hs hne hg1 hg2 hp hq
      exact absurd (tableObj_row hg2).2 (by decide)
  have hro : RO (tableHeap P.globals.size tabs) := fun r cs rw e hg => (tableObj_row hg).2
  have hmG : ∀ g, g < P.globals.size → globMap P.globals.size (longest tabs + 1) g = some (⟨g, 0, none⟩, longest tabs + 1) := fun g hg => by simp [globMap, hg]
  have hdead : ∀ g ∈ ptrs, g < P.globals.size ∧ (tableHeap P.globals.size tabs).get g = .dead := fun g hg => by
    have h1 := List.all_eq_true.1 hptrs g hg
    simp only [Bool.and_eq_true, Bool.not_eq_true'] at h1
    exact ⟨by simpa using h1.1, tableObj_dead h1.2⟩
  obtain ⟨H1, m1, r1, hro1, hn1, hsame1, hin1⟩ := fillPtrs (L := longest tabs) (G := P.globals.size) (fun r => (id : ¬ False)) ptrs _ _ hnd hrel hro (Nat.le_refl _) (fun g hg => ⟨(hdead g hg).1, (hdead g hg).2, hmG g (hdead g hg).1⟩) hcellsP
  have hno : ∀ t ∈ tabs, t.1 ∉ ptrs := fun t ht hg => by
    have h1 := List.all_eq_true.1 hptrs _ hg
    simp only [Bool.and_eq_true, Bool.not_eq_true'] at h1
    have h2 := h1.2
    rw [List.any_eq_false] at h2
    exact h2 t ht (by simp)
  obtain ⟨p, q, hA, hrest⟩ := hW
  obtain ⟨H', m', avs, e1, l1, r2, o1, b1, s1⟩ := open_argsW (P := P) (T := (· < P.types.size)) (fun _ h => h) K hz (n := n) (b := base) fn.params.toList args.toList ds p _ _ hT (fun j t v q1 q2 => hval j t v (by simpa using q1) (by simpa using q2)) hA hsl r1 hro1
  have htabs' : tablesIn tabs H' = true := by
    refine List.all_eq_true.2 fun t ht => ?_
    have hT1 := htab _ ht
    simp only [Bool.and_eq_true] at hT1 ⊢
    have htG : t.1 < P.globals.size := by simpa using hT1.1
    have hlt : t.1 < H1.n := Nat.lt_of_lt_of_le htG hn1
    have hn : t.1 < H'.n := Nat.lt_of_lt_of_le hlt e1.n
    have h0 := List.all_eq_true.1 htabs0 t ht
    simp only [Bool.and_eq_true] at h0
    refine ⟨by simpa using hn, ?_⟩
    rw [e1.get _ hlt, hsame1 _ htG (hno t ht)]
    exact h0.2
  have hc := calls_of_evs hmix hP rfl rfl hfn hb hname r2 (args := avs) (vargs := args) b1 (hcon H' avs htabs' (hin1.ext e1) s1).evs
  refine hc.mono fun e W' ⟨x, v, H2, he, ⟨hv, hx2⟩, m2, hl2, hemb, hr2⟩ => ?_
  subst hv
  simp only [emb, Option.some.injEq] at hemb
  subst hemb
  exact ⟨_, he, post_true (T := (· < P.types.size)) K hz (fun t ht => (hT t ht).1) hvars hspec hrt htb ⟨p, q, hA, hrest⟩ hr2.below⟩
end Go.Am
namespace Go.Am
theorem slim_app {P : Program} {Hd : Type} {ts vs : List TypeId} {ds gs : List (DataW Hd)} (h : (DataW.weightsEach P (ts ++ vs) (ds ++ gs)).all (· ≤ reachBytes) = true) : ∀ (j : Nat) t d, ts[j]? = some t → ds[j]? = some d → Slim P t d := fun j t d h1 h2 => by
  have a := (List.getElem?_eq_some_iff.1 h1).1
  have b := (List.getElem?_eq_some_iff.1 h2).1
  exact slim_all h j t d (by rw [List.getElem?_append_left a]; exact h1) (by rw [List.getElem?_append_left b]; exact h2)
end Go.Am
namespace Go.Proofs.YtcklaifhanehmaaDoor.Laid
open Go.ChangeShapes Go.WideShapes Go.ChangeAt Go.RowKit Go.Am
theorem ptr_cells {W : World} (h : laidMetH Tryd.prog Rows.toneNamesRow.laid W) : ∀ g ∈ [1, 2], ∃ t v a, (v = .pointer (some a) ∨ v = .agg #[.pointer (some a)]) ∧ W.cell? ⟨g, 0, none⟩ = some (.iface t v) := by
  have h1 : laidMet Tryd.prog Rows.toneNamesRow.laid W := h
  intro g hg
  rcases List.mem_cons.1 hg with rfl | hg
  · exact laid_ptr h1 (name := "strconv.ErrSyntax") (.tail _ (.tail _ (.tail _ (.tail _ (.head _))))) (by kernel_rfl : Tryd.prog.globalNamed "strconv.ErrSyntax" = some 1) (by kernel_rfl : (Tryd.prog.globals[1]?).map (·.type) = some 127) Tryd.underlying127
  · rcases List.mem_cons.1 hg with rfl | hg
    · exact laid_ptr h1 (name := "strconv.ErrRange") (.tail _ (.tail _ (.tail _ (.head _)))) (by kernel_rfl : Tryd.prog.globalNamed "strconv.ErrRange" = some 2) (by kernel_rfl : (Tryd.prog.globals[2]?).map (·.type) = some 127) Tryd.underlying127
    · cases hg
noncomputable def errWorld (os : Os) : World :=
  let w := laidWorld os
  let n := w.heap.size
  let h := (w.heap.push (.cells #[.string ⟨#[105, 110, 118, 97, 108, 105, 100, 32, 115, 121, 110, 116, 97, 120]⟩] 175)).push (.cells #[.string ⟨#[118, 97, 108, 117, 101, 32, 111, 117, 116, 32, 111, 102, 32, 114, 97, 110, 103, 101]⟩] 175)
  let h := h.modify 1 fun
    | .cells _ t frozen => .cells #[.iface 173 (.pointer (some ⟨n, 0, none⟩))] t frozen
    | o => o
  let h := h.modify 2 fun
    | .cells _ t frozen => .cells #[.iface 173 (.pointer (some ⟨n + 1, 0, none⟩))] t frozen
    | o => o
  { w with heap := h }
end Go.Proofs.YtcklaifhanehmaaDoor.Laid
namespace Go.Am
open Go
section
variable {call : ACall} {lf : Nat} {fr : AFrame} {H : AHeap} {Q : RExit → AFrame → AHeap → Prop} {KF : AFrame → AHeap → Prop} {os : List ROper} {d : Nat}
theorem mI {x : ROpd} {k : IntKind} {n : Int} (h : WpO call os (upd fr d (.int k n)) H KF) (hx : x.ev fr = .int k n := by exact rfl) : WpO call (⟨some d, .mov x, none⟩ :: os) fr H KF := Fo.mov hx h
theorem mB {x : ROpd} {b : Bool} (h : WpO call os (upd fr d (.bool b)) H KF) (hx : x.ev fr = .bool b := by exact rfl) : WpO call (⟨some d, .mov x, none⟩ :: os) fr H KF := Fo.mov hx h
theorem mA {x : ROpd} {l : List AVal} (h : WpO call os (upd fr d (.agg l)) H KF) (hx : x.ev fr = .agg l := by exact rfl) : WpO call (⟨some d, .mov x, none⟩ :: os) fr H KF := Fo.mov hx h
theorem mT {x : ROpd} {l : List AVal} (h : WpO call os (upd fr d (.tuple l)) H KF) (hx : x.ev fr = .tuple l := by exact rfl) : WpO call (⟨some d, .mov x, none⟩ :: os) fr H KF := Fo.mov hx h
theorem tB {c a b : ROpd} {n : Bool} (h : WpO call os (upd fr d (.bool n)) H KF) (hc : c.ev fr = .bool true := by exact rfl) (hx : a.ev fr = .bool n := by exact rfl) : WpO call (⟨some d, .pick c a b, none⟩ :: os) fr H KF := Fo.pickT hc hx h
theorem fB {c a b : ROpd} {n : Bool} (h : WpO call os (upd fr d (.bool n)) H KF) (hc : c.ev fr = .bool false := by exact rfl) (hx : b.ev fr = .bool n := by exact rfl) : WpO call (⟨some d, .pick c a b, none⟩ :: os) fr H KF := Fo.pickF hc hx h
theorem sq {a b : RCode} (h : Wp call lf a fr H fun x fr' H' => match x with | .normal => Wp call lf b fr' H' Q | e => Q e fr' H') : Wp call lf (.seq a b) fr H Q := Wp.seq h
theorem rg {ops : List ROper} (h : ∀ KF : AFrame → AHeap → Prop, (∀ fr' H', Q .normal fr' H' → KF fr' H') → WpO call ops fr H KF) : Wp call lf (.region ops) fr H Q := Fr.region h
theorem ct {c : ROpd} {t e : RCode} (hc : c.ev fr = .bool true) (h : Wp call lf t fr H Q) : Wp call lf (.cond c t e) fr H Q := Wp.cond (b := true) hc h
theorem cf {c : ROpd} {t e : RCode} (hc : c.ev fr = .bool false) (h : Wp call lf e fr H Q) : Wp call lf (.cond c t e) fr H Q := Wp.cond (b := false) hc h
theorem nl {A : AFrame → AHeap → Prop} (hK : ∀ fr H, A fr H → KF fr H) (h : A fr H) : WpO call [] fr H KF := WpO.nil (hK _ _ h)
theorem sk (h : Q .normal fr H) : Wp call lf .skip fr H Q := Wp.skip h
theorem rt (h : Q .ret fr H) : Wp call lf .ret fr H Q := Wp.ret h
theorem xi {id : Nat} (h : Q (.exit id) fr H) : Wp call lf (.exit id) fr H Q := Wp.exit h
theorem oy {d : Option Nat} {op : ROp} {t : Nat} {want b : Bool} (h : WpO call (⟨d, op, none⟩ :: os) fr H KF) (hb : fr t = .bool b := by exact rfl) (hw : b = want := by exact rfl) : WpO call (⟨d, op, some (t, want)⟩ :: os) fr H KF := Fo.yes hb hw h
theorem ox {d : Nat} {op : ROp} {t : Nat} {want b : Bool} (h : WpO call os (upd fr d aundef) H KF) (hb : fr t = .bool b := by exact rfl) (hw : (!b) = want := by exact rfl) : WpO call (⟨some d, op, some (t, want)⟩ :: os) fr H KF := Fo.no hb hw h
theorem fd {x : ROpd} {r o off : Nat} (h : WpO call os (upd fr d (.ptr r (o + off))) H KF) (hx : x.ev fr = .ptr r o := by exact rfl) : WpO call (⟨some d, .fieldAddr off x, none⟩ :: os) fr H KF := Fo.fa hx h
theorem mv {x : ROpd} {v : AVal} (h : WpO call os (upd fr d v) H KF) (hx : x.ev fr = v := by simp only [↓nrmL, nrmK, Nat.reduceEqDiff, ↓reduceIte]; rfl) : WpO call (⟨some d, .mov x, none⟩ :: os) fr H KF := Fo.mov hx h
theorem b0 {op : BinOp} {x y : ROpd} {a b v : AVal} (h : WpO call os (upd fr d v) H KF) (hx : x.ev fr = a := by exact rfl) (hy : y.ev fr = b := by exact rfl) (hv : aBin op a b = some v := by exact rfl) : WpO call (⟨some d, .bin op x y, none⟩ :: os) fr H KF := Fo.bin hx hy hv rfl h
theorem bn {op : BinOp} {x y : ROpd} {a b v v' : AVal} (hx : x.ev fr = a) (hy : y.ev fr = b) (hv : aBin op a b = some v) (he : v = v') (h : WpO call os (upd fr d v') H KF) : WpO call (⟨some d, .bin op x y, none⟩ :: os) fr H KF := Fo.bin hx hy hv he h
theorem xt {x : ROpd} {i : Nat} {vs : List AVal} {v : AVal} (h : WpO call os (upd fr d v) H KF) (hx : x.ev fr = .tuple vs := by exact rfl) (hv : vs[i]? = some v := by exact rfl) : WpO call (⟨some d, .extract x i, none⟩ :: os) fr H KF := Fo.extr hx hv h
theorem bA {e : TypeId} {x : ROpd} {cs : List AVal} (h : WpO call os (upd fr d (.ptr H.n 0)) (H.push (.row cs true (2 * e))) KF) (hx : x.ev fr = .agg cs := by exact rfl) : WpO call (⟨some d, .box e x, none⟩ :: os) fr H KF := Fo.boxA hx h
theorem nw {e : TypeId} {cs : List AVal} (h : WpO call os (upd fr d (.ptr H.n 0)) (H.push (.row cs true (2 * e))) KF) : WpO call (⟨some d, .new e cs, none⟩ :: os) fr H KF := Fo.new h
theorem ln {x : ROpd} {p : AVal} {sz n : Nat} {cs : List AVal} (hx : x.ev fr = p) [s : SliceAt H p sz n cs] (h : WpO call os (upd fr d (.int .i64 n)) H KF) : WpO call (⟨some d, .lenS x, none⟩ :: os) fr H KF := Fo.len hx rfl h
theorem ob {z : List AVal} {ps : List (Nat × Nat × ROpd)} {cs cs' : List AVal} (hc : cs = cs') (h : WpO call os (upd fr d (.agg cs')) H KF) (hf : aFill fr z ps = some cs := by repeat (first | refine aFill1 (by first | exact (rfl : _ = AVal.int _ _) | exact (rfl : _ = AVal.ptr _ _) | exact (rfl : _ = AVal.bool _) | exact (rfl : _ = AVal.agg _) | exact (rfl : _ = AVal.tuple _) | exact (rfl : _ = AVal.func _ _ _) | exact (rfl : _ = AVal.nslice) | ((try simp only [↓nrmL, nrmK, Nat.reduceEqDiff, ↓reduceIte]); rfl)) rfl ?_ | rfl)) : WpO call (⟨some d, .build z ps, none⟩ :: os) fr H KF := Fo.build hf hc h
theorem so {a x : ROpd} {n r off : Nat} {cs : List AVal} {e : TypeId} {v : AVal} {vs l : List AVal} {os : List ROper} (ha : a.ev fr = .ptr r off) (hx : x.ev fr = v) (hvs : v.cells = vs) (hn : Nat.beq vs.length n = true) [hg : HasRow H r cs true e] (hl : Nat.ble (off + vs.length) cs.length = true)
    (hs : setAt cs off vs = l) (h : WpO call os fr (H.set r (.row l true e)) KF) (ho : vs.all AVal.one = true := by repeat (first | rfl | refine allOne_cons ?_)) : WpO call (⟨none, .store n a x, none⟩ :: os) fr H KF := Fo.st ha hx hvs hn hl ho hs h
end
theorem xs {call : ACall} {fr : AFrame} {H : AHeap} {a x : ROpd} {n r off : Nat} {cs : List AVal} {e : TypeId} {v : AVal} {vs l : List AVal} (ha : a.ev fr = .ptr r off) (hx : x.ev fr = v) (hvs : v.cells = vs) (hn : Nat.beq vs.length n = true) [hg : HasRow H r cs true e] (hl : Nat.ble (off + vs.length) cs.length = true)
    (hs : setAt cs off vs = l) (ho : vs.all AVal.one = true := by repeat (first | rfl | refine allOne_cons ?_)) : (ROp.store n a x).exec call fr H = some (aundef, H.set r (.row l true e)) := exec_st ha hx hvs hn hl ho hs
theorem rz {A : Prop} {fr : AFrame} {res : List RRes} {H : AHeap} {vs : List AVal} {Q : List AVal → Prop} (hA : A) (h : Q vs) (hg : getAll fr res H = some (vs, H) := by first | rfl | exact getAllC rfl rfl rfl rfl | exact getAllT rfl (getAllC rfl rfl rfl rfl) | exact getAllC rfl rfl rfl (getAllC rfl rfl rfl rfl) | exact getAllC1 rfl rfl rfl) : A ∧ ∃ vs, getAll fr res H = some (vs, H) ∧ Q vs := ⟨hA, vs, hg, h⟩
section
variable {call : ACall} {n ref : Nat} {its : List DItem} {H0 H H1 : AHeap} {E : List (Nat × AHeap)} {Rd : List (Nat × (AHeap → Bool))} {fr : AFrame} {K : AFrame → AHeap → Prop} {b : Nat} {pre : Bool} {g : Option (Nat × Bool)} {d : Nat}
theorem Er {op : ROp} {v v' : AVal} (hw : ROper.wanted fr ⟨some d, op, g⟩ = true) (hx : op.exec noCall fr H = some (v, H)) (hv : v = v') (h : WpE call (n + 1) ref its H0 E ((n, readOk op fr v) :: Rd) (upd fr d v') H K) (hE : AllE b (fun H2 => op.exec noCall fr H2 = some (v, H2)) E := by repeat (first | exact trivial | refine ⟨(by first | exact Or.inl (by dsimp only; decide) | exact Or.inr (exec_ld rfl rfl) | exact Or.inr (exec_ld rfl (by assumption)) | exact Or.inr (exec_ldN rfl rfl rfl) | exact Or.inr (exec_ldB rfl (by omega)) | exact Or.inr (exec_ldI rfl (by omega)) | exact Or.inr ghost_of), ?_⟩)) : WpE call n ref (⟨⟨some d, op, g⟩, b, 1, pre⟩ :: its) H0 E Rd fr H K := Fe.read hw hx hv hE h
theorem Em {op : ROp} {cs : List AVal} {e : TypeId} {k : Nat → AVal} {v : AVal} (hw : ROper.wanted fr ⟨some d, op, g⟩ = true) (hm : op.made fr = some (cs, e, k)) (hg : ghostIs H ref cs e = true) (hv : k ref = v) (h : WpE call (n + 1) (ref + 1) its H0 E ((n, madeOk op fr ref) :: Rd) (upd fr d v) H K) (hE : AllE b (fun H2 => ghostIs H2 ref cs e = true) E := by repeat (first | exact trivial | refine ⟨(by first | exact Or.inl (by dsimp only; decide) | exact Or.inr (exec_ld rfl rfl) | exact Or.inr (exec_ld rfl (by assumption)) | exact Or.inr (exec_ldN rfl rfl rfl) | exact Or.inr (exec_ldB rfl (by omega)) | exact Or.inr (exec_ldI rfl (by omega)) | exact Or.inr ghost_of), ?_⟩)) : WpE call n ref (⟨⟨some d, op, g⟩, b, 3, pre⟩ :: its) H0 E Rd fr H K := Fe.made hw hm hg hE hv h
theorem Ee {op : ROp} {v : AVal} (hw : ROper.wanted fr ⟨none, op, g⟩ = true) (hx : op.exec call fr H = some (v, H1)) (h : WpE call (n + 1) ref its H0 ((n, H) :: E) Rd fr H1 K) (hR : AllR b H1 Rd := by repeat (first | exact trivial | refine ⟨(by first | exact Or.inl (by dsimp only; decide) | exact Or.inr (readOk_of (exec_ld rfl rfl)) | exact Or.inr (readOk_of (exec_ld rfl (by assumption))) | exact Or.inr (readOk_of (exec_ldN rfl rfl rfl)) | exact Or.inr (readOk_of (exec_ldB rfl (by omega))) | exact Or.inr (readOk_of (exec_ldI rfl (by omega))) | exact Or.inr (made_of rfl)), ?_⟩)) : WpE call n ref (⟨⟨none, op, g⟩, b, 2, pre⟩ :: its) H0 E Rd fr H K := Fe.effect0 hw hx hR h
theorem ar {B : Prop} (h : B) (hR : AllR b H1 Rd := by repeat (first | exact trivial | refine ⟨(by first | exact Or.inl (by dsimp only; decide) | exact Or.inr (readOk_of (exec_ld rfl rfl)) | exact Or.inr (readOk_of (exec_ld rfl (by assumption))) | exact Or.inr (readOk_of (exec_ldN rfl rfl rfl)) | exact Or.inr (readOk_of (exec_ldB rfl (by omega))) | exact Or.inr (readOk_of (exec_ldI rfl (by omega))) | exact Or.inr (made_of rfl)), ?_⟩)) : AllR b H1 Rd ∧ B := ⟨hR, h⟩
end
theorem nrmZ : type_of% nrm ∧ type_of% nrmS := ⟨nrm, nrmS⟩
end Go.Am
namespace Go.Am
open Go
attribute [local irreducible] Wp WpO WpX WpE
theorem wi64 (x : Int) : IntKind.i64.wrap x = (x + 2 ^ 63) % 2 ^ 64 - 2 ^ 63 := by
 unfold IntKind.wrap
 simp [IntKind.signed, IntKind.bits]
 try omega
theorem w64r {x : Int} (h1 : -9223372036854775808 ≤ x) (h2 : x < 9223372036854775808) : IntKind.i64.wrap x = x := by
 rw [wi64]; omega
def withinB (n least most : Int) : Bool := decide (least ≤ n) && decide (n ≤ most)
instance K_within {n a b : Int} {H : AHeap} : PureCon ext prog 59 [.int .i64 n, .int .i64 a, .int .i64 b] H 1 (.bool (withinB n a b)) := ⟨by
 refine con_of (show prog 59 = some c59 from rfl) rfl rfl fun m hn => ?_
 unfold withinB
 cases h1 : decide (a ≤ n)
 ·skip
  repeat first
   | refine ox ?_
   | refine mI ?_
   | refine mB ?_
   | (refine bn rfl rfl rfl (by simp only [h1]; rfl) ?_)
   | refine fB ?_
   | refine nl hKF ?_
   | refine sq ?_
   | refine rg fun KF hKF => ?_
   | refine rt ?_
   | dsimp only [cond_true, cond_false]
  refine rz trivial ?_
  exact ⟨rfl, Ext0.ext⟩
 ·skip
  repeat first
   | refine oy ?_
   | refine mI ?_
   | refine mB ?_
   | (refine bn rfl rfl rfl (by simp only [h1]; rfl) ?_)
   | refine b0 ?_
   | refine tB ?_
   | refine nl hKF ?_
   | refine sq ?_
   | refine rg fun KF hKF => ?_
   | refine rt ?_
   | dsimp only [cond_true, cond_false]
  refine rz trivial ?_
  exact ⟨rfl, Ext0.ext⟩⟩
def absU (n : Int) : Nat := n.natAbs % 2 ^ 64
theorem absU_lt (n : Int) : absU n < 2 ^ 64 := Nat.mod_lt _ (by decide)
end Go.Am
namespace Go.Am
open Go
attribute [local irreducible] Wp WpO WpX WpE
class U64 (n : Nat) : Prop where
 lt : n < 2 ^ 64
instance {n : Int} : U64 (absU n) := ⟨absU_lt n⟩
end Go.Am
namespace Go.Am
open Go
attribute [local irreducible] Wp WpO WpX WpE
abbrev rT (r : Int × Int × Int) : AVal := .tuple [.agg [.int .i64 r.1, .int .i64 r.2.1], .int .i64 r.2.2]
end Go.Am
namespace Go.Am
open Go
attribute [local irreducible] Wp WpO WpX WpE
end Go.Am
namespace Go.Am
open Go
attribute [local irreducible] Wp WpO WpX WpE
instance {x : Int} : R64 (IntKind.i64.wrap x) := wrap64 x
abbrev w6 (x : Int) : Int := IntKind.i64.wrap x
end Go.Am
namespace Go.Am
open Go
section
variable {call : ACall} {lf : Nat} {fr : AFrame} {H : AHeap} {Q : RExit → AFrame → AHeap → Prop} {b : RCode}
def WpN (call : ACall) (lf : Nat) (b : RCode) (k : Nat) (fr : AFrame) (H : AHeap) (Q : RExit → AFrame → AHeap → Prop) : Prop := ∃ x fr' H', loopN (b.exec call lf) k fr H = some ((x, fr'), H') ∧ Q x fr' H'
theorem Wp.rounds (h : WpN call lf b lf fr H Q) : Wp call lf (.loop b) fr H Q := h
theorem WpN.round {k : Nat} (hk : 0 < k) (h : Wp call lf b fr H fun x fr' H' => match x with | .normal => WpN call lf b (k - 1) fr' H' Q | e => Q e fr' H') : WpN call lf b k fr H Q := by
  obtain ⟨j, rfl⟩ : ∃ j, k = j + 1 := ⟨k - 1, by omega⟩
  obtain ⟨x, fr', H', h1, h2⟩ := h
  cases x with
  | normal =>
    obtain ⟨y, f2, H2, h3, h4⟩ := h2
    refine ⟨y, f2, H2, ?_, h4⟩
    simp only [loopN, M.bind, h1]
    exact h3
  | exit id => exact ⟨_, _, _, by simp only [loopN, M.bind, h1, M.pure], h2⟩
  | ret => exact ⟨_, _, _, by simp only [loopN, M.bind, h1, M.pure], h2⟩
theorem exec_eqT {neg : Bool} {d : EqDesc} {x y : ROpd} {a b : AVal} {r : Bool} (hx : x.ev fr = a) (hy : y.ev fr = b) (h : aEq d a b = some r) : (ROp.eq neg d x y).exec call fr H = some (.bool (match neg with | true => !r | false => r), H) := by
  subst hx hy
  simp only [ROp.exec, h, M.pure]; cases neg <;> rfl
end
theorem aEq_pair (a b c d : Int) : aEq (.fields [some (0, 0, .int), some (1, 0, .int)]) (.agg [.int .i64 a, .int .i64 b]) (.agg [.int .i64 c, .int .i64 d]) = some (a == c && b == d) := by
  simp only [aEq, aEqs, aPart, if_true, List.getElem?_cons_zero, List.getElem?_cons_succ]
  cases a == c <;> cases b == d <;> rfl
theorem aEq_same (a b : Int) : aEq (.fields [some (0, 0, .int), some (1, 0, .int)]) (.agg [.int .i64 a, .int .i64 b]) (.agg [.int .i64 a, .int .i64 b]) = some true := by
  rw [aEq_pair]; simp
theorem beqS (x : Int) : (x == x) = true := by simp
end Go.Am
namespace Go.Am
open Go
attribute [local irreducible] Wp WpO WpX WpE
instance : R64 1 := ⟨by omega, by omega⟩
instance : R64 2 := ⟨by omega, by omega⟩
instance : R64 3 := ⟨by omega, by omega⟩
instance : R64 4 := ⟨by omega, by omega⟩
instance : R64 8 := ⟨by omega, by omega⟩
instance : R64 16 := ⟨by omega, by omega⟩
end Go.Am
namespace Go.Am
open Go
attribute [local irreducible] Wp WpO WpX WpE
def hasN (l : List Int) (k : Nat) (x : Int) : Bool := (l.take k).any (x == ·)
theorem hasN_succ {l : List Int} {k : Nat} {x : Int} (h : k < l.length) : hasN l (k + 1) x = (hasN l k x || x == l[k]) := by
 unfold hasN
 rw [List.take_succ_eq_append_getElem h, List.any_append]
 simp
theorem hasN_mono {l : List Int} {i k : Nat} {x : Int} (h : hasN l i x = true) (hk : i ≤ k) : hasN l k x = true := by
 unfold hasN at *
 obtain ⟨y, hy, e⟩ := List.any_eq_true.1 h
 refine List.any_eq_true.2 ⟨y, ?_, e⟩
 have : l.take i = (l.take k).take i := by rw [List.take_take, Nat.min_eq_left hk]
 rw [this] at hy
 exact List.mem_of_mem_take hy
theorem K_Index {r k : Nat} {a b c d x : Int} {rw : Bool} {e : TypeId} {H : AHeap} [hr : HasRow H r [.int .i64 a, .int .i64 b, .int .i64 c, .int .i64 d] rw e] (hk : k ≤ 4) :
  Con ext prog 1 122 [.slice r 0 k (some 4) 1, .int .i64 x] H fun v H' => (∃ j, v = .int .i64 j ∧ decide (j ≥ 0) = hasN [a, b, c, d] k x) ∧ Ext H H' := by
 refine con_of (show prog 122 = some c122 from rfl) rfl rfl fun m hn => ?_
 repeat first
  | refine mI ?_
  | (refine mv ?_)
  | refine Fo.now rfl rfl rfl ?_
  | refine nl hKF ?_
  | refine sq ?_
  | refine rg fun KF hKF => ?_
  | refine Wp.block ?_
  | dsimp only [cond_true, cond_false]
 refine Wp.loopS [4, 5, 8, 9, 10, 11, 12, 13, 14, 15, 16, 17, 18] (fun i : Nat => [(8, .int .i64 (i : Int))]) (fun H3 i H2 => i ≤ k ∧ hasN [a, b, c, d] i x = false ∧ H2 = H3) (fun i => k - i) 0 rfl (fun _ => rfl) ⟨rfl, trivial⟩ ⟨Nat.zero_le _, rfl, rfl⟩ (by unfold fuel0 at hn; omega) ?_
 rintro i g H2 ⟨hi, hno, rfl⟩
 simp only [↓nrmL, nrmZ, Nat.reduceEqDiff, ↓reduceIte, Nat.reduceAdd, Int.reduceBEq, Int.reduceBNe]
 by_cases hik : i < k
 ·have h1 : decide ((i : Int) < (k : Int)) = true := by simp; omega
  have wk : IntKind.i64.wrap ((i : Int) + 1) = ((i + 1 : Nat) : Int) := by rw [w64r (by omega) (by omega)]; omega
  repeat first
   | refine mI ?_
   | (refine mv ?_)
   | (refine bn rfl rfl rfl (by simp only [h1]; rfl) ?_)
   | refine nl hKF ?_
   | refine sq ?_
   | refine rg fun KF hKF => ?_
   | refine ct rfl ?_
   | refine sk ?_
   | refine Wp.block ?_
  refine WpO.do (WpX.idxS rfl rfl (by omega) (by omega) ?_)
  rcases (show i = 0 ∨ i = 1 ∨ i = 2 ∨ i = 3 by omega) with rfl | rfl | rfl | rfl
  ·cases h2 : x == a
   ·skip
    simp only [↓nrmL, nrmZ, Nat.reduceEqDiff, ↓reduceIte, Nat.reduceAdd, Int.reduceBEq, Int.reduceBNe, h2, wk]
    repeat first
     | refine mI ?_
     | refine Fo.ld rfl rfl ?_
     | (refine bn rfl rfl rfl (by simp only [h2, wk]; rfl) ?_)
     | refine nl hKF ?_
     | refine rg fun KF hKF => ?_
     | refine cf rfl ?_
     | refine sk ?_
     | dsimp only [cond_true, cond_false]
    exact ⟨1, by omega, ⟨rfl, trivial⟩, by omega, by rw [hasN_succ (by simp), hno]; simpa using h2, rfl⟩
   ·skip
    simp only [↓nrmL, nrmZ, Nat.reduceEqDiff, ↓reduceIte, Nat.reduceAdd, Int.reduceBEq, Int.reduceBNe, h2]
    repeat first
     | refine mI ?_
     | refine Fo.ld rfl rfl ?_
     | (refine bn rfl rfl rfl (by simp only [h2]; rfl) ?_)
     | refine nl hKF ?_
     | refine sq ?_
     | refine rg fun KF hKF => ?_
     | refine ct rfl ?_
     | refine rt ?_
     | dsimp only [cond_true, cond_false]
    refine rz trivial ?_
    exact ⟨⟨_, rfl, by rw [hasN_mono (i := 1) (by rw [hasN_succ (by simp), hno]; simpa using h2) (by omega)]; rfl⟩, Ext.refl _⟩
  ·cases h2 : x == b
   ·skip
    simp only [↓nrmL, nrmZ, Nat.reduceEqDiff, ↓reduceIte, Nat.reduceAdd, Int.reduceBEq, Int.reduceBNe, h2, wk]
    repeat first
     | refine mI ?_
     | refine Fo.ld rfl rfl ?_
     | (refine bn rfl rfl rfl (by simp only [h2, wk]; rfl) ?_)
     | refine nl hKF ?_
     | refine rg fun KF hKF => ?_
     | refine cf rfl ?_
     | refine sk ?_
     | dsimp only [cond_true, cond_false]
    exact ⟨2, by omega, ⟨rfl, trivial⟩, by omega, by rw [hasN_succ (by simp), hno]; simpa using h2, rfl⟩
   ·skip
    simp only [↓nrmL, nrmZ, Nat.reduceEqDiff, ↓reduceIte, Nat.reduceAdd, Int.reduceBEq, Int.reduceBNe, h2]
    repeat first
     | refine mI ?_
     | refine Fo.ld rfl rfl ?_
     | (refine bn rfl rfl rfl (by simp only [h2]; rfl) ?_)
     | refine nl hKF ?_
     | refine sq ?_
     | refine rg fun KF hKF => ?_
     | refine ct rfl ?_
     | refine rt ?_
     | dsimp only [cond_true, cond_false]
    refine rz trivial ?_
    exact ⟨⟨_, rfl, by rw [hasN_mono (i := 2) (by rw [hasN_succ (by simp), hno]; simpa using h2) (by omega)]; rfl⟩, Ext.refl _⟩
  ·cases h2 : x == c
   ·skip
    simp only [↓nrmL, nrmZ, Nat.reduceEqDiff, ↓reduceIte, Nat.reduceAdd, Int.reduceBEq, Int.reduceBNe, h2, wk]
    repeat first
     | refine mI ?_
     | refine Fo.ld rfl rfl ?_
     | (refine bn rfl rfl rfl (by simp only [h2, wk]; rfl) ?_)
     | refine nl hKF ?_
     | refine rg fun KF hKF => ?_
     | refine cf rfl ?_
     | refine sk ?_
     | dsimp only [cond_true, cond_false]
    exact ⟨3, by omega, ⟨rfl, trivial⟩, by omega, by rw [hasN_succ (by simp), hno]; simpa using h2, rfl⟩
   ·skip
    simp only [↓nrmL, nrmZ, Nat.reduceEqDiff, ↓reduceIte, Nat.reduceAdd, Int.reduceBEq, Int.reduceBNe, h2]
    repeat first
     | refine mI ?_
     | refine Fo.ld rfl rfl ?_
     | (refine bn rfl rfl rfl (by simp only [h2]; rfl) ?_)
     | refine nl hKF ?_
     | refine sq ?_
     | refine rg fun KF hKF => ?_
     | refine ct rfl ?_
     | refine rt ?_
     | dsimp only [cond_true, cond_false]
    refine rz trivial ?_
    exact ⟨⟨_, rfl, by rw [hasN_mono (i := 3) (by rw [hasN_succ (by simp), hno]; simpa using h2) (by omega)]; rfl⟩, Ext.refl _⟩
  ·cases h2 : x == d
   ·skip
    simp only [↓nrmL, nrmZ, Nat.reduceEqDiff, ↓reduceIte, Nat.reduceAdd, Int.reduceBEq, Int.reduceBNe, h2, wk]
    repeat first
     | refine mI ?_
     | refine Fo.ld rfl rfl ?_
     | (refine bn rfl rfl rfl (by simp only [h2, wk]; rfl) ?_)
     | refine nl hKF ?_
     | refine rg fun KF hKF => ?_
     | refine cf rfl ?_
     | refine sk ?_
     | dsimp only [cond_true, cond_false]
    exact ⟨4, by omega, ⟨rfl, trivial⟩, by omega, by rw [hasN_succ (by simp), hno]; simpa using h2, rfl⟩
   ·skip
    simp only [↓nrmL, nrmZ, Nat.reduceEqDiff, ↓reduceIte, Nat.reduceAdd, Int.reduceBEq, Int.reduceBNe, h2]
    repeat first
     | refine mI ?_
     | refine Fo.ld rfl rfl ?_
     | (refine bn rfl rfl rfl (by simp only [h2]; rfl) ?_)
     | refine nl hKF ?_
     | refine sq ?_
     | refine rg fun KF hKF => ?_
     | refine ct rfl ?_
     | refine rt ?_
     | dsimp only [cond_true, cond_false]
    refine rz trivial ?_
    exact ⟨⟨_, rfl, by rw [hasN_mono (i := 4) (by rw [hasN_succ (by simp), hno]; simpa using h2) (by omega)]; rfl⟩, Ext.refl _⟩
 ·have hik' : i = k := by omega
  subst hik'
  have h1 : decide ((i : Int) < (i : Int)) = false := by simp
  repeat first
   | refine mI ?_
   | (refine bn rfl rfl rfl (by simp only [h1]; rfl) ?_)
   | refine nl hKF ?_
   | refine sq ?_
   | refine rg fun KF hKF => ?_
   | refine cf rfl ?_
   | refine rt ?_
   | refine xi ?_
   | dsimp only [cond_true, cond_false]
  refine rz trivial ?_
  exact ⟨⟨_, rfl, by rw [hno]; rfl⟩, Ext.refl _⟩
theorem K_Contains {r k : Nat} {a b c d x : Int} {rw : Bool} {e : TypeId} {H : AHeap} [hr : HasRow H r [.int .i64 a, .int .i64 b, .int .i64 c, .int .i64 d] rw e] (hk : k ≤ 4) :
  PureCon ext prog 116 [.slice r 0 k (some 4) 1, .int .i64 x] H 2 (.bool (hasN [a, b, c, d] k x)) := ⟨by
 refine con_of (show prog 116 = some c116 from rfl) rfl rfl fun m hn => ?_
 repeat first
  | refine mI ?_
  | refine mB ?_
  | (refine mv ?_)
  | refine nl hKF ?_
  | refine sq ?_
  | refine rg fun KF hKF => ?_
 refine WpO.do (WpX.conD hn rfl rfl (by simp only [↓nrmL, nrmZ, Nat.reduceEqDiff, ↓reduceIte, Nat.reduceAdd, Int.reduceBEq, Int.reduceBNe, List.map] <;> rfl) (K_Index hk) fun v H5 h5 => ?_)
 obtain ⟨⟨j, rfl, hj⟩, hx⟩ := h5
 haveI : ExtI _ H5 := ⟨hx⟩
 refine bn rfl rfl rfl (by simp only [hj]; rfl) ?_
 refine mB ?_
 refine nl hKF ?_
 refine rt ?_
 dsimp only [cond_true, cond_false]
 refine rz trivial ?_
 exact ⟨rfl, Ext0.ext⟩⟩
instance {r : Nat} {a b c d x : Int} {rw : Bool} {e : TypeId} {H : AHeap} [hr : HasRow H r [.int .i64 a, .int .i64 b, .int .i64 c, .int .i64 d] rw e] : PureCon ext prog 116 [.slice r 0 1 (some 4) 1, .int .i64 x] H 2 (.bool (hasN [a, b, c, d] 1 x)) := K_Contains (by omega)
instance {r : Nat} {a b c d x : Int} {rw : Bool} {e : TypeId} {H : AHeap} [hr : HasRow H r [.int .i64 a, .int .i64 b, .int .i64 c, .int .i64 d] rw e] : PureCon ext prog 116 [.slice r 0 2 (some 4) 1, .int .i64 x] H 2 (.bool (hasN [a, b, c, d] 2 x)) := K_Contains (by omega)
instance {r : Nat} {a b c d x : Int} {rw : Bool} {e : TypeId} {H : AHeap} [hr : HasRow H r [.int .i64 a, .int .i64 b, .int .i64 c, .int .i64 d] rw e] : PureCon ext prog 116 [.slice r 0 3 (some 4) 1, .int .i64 x] H 2 (.bool (hasN [a, b, c, d] 3 x)) := K_Contains (by omega)
instance {r : Nat} {a b c d x : Int} {rw : Bool} {e : TypeId} {H : AHeap} [hr : HasRow H r [.int .i64 a, .int .i64 b, .int .i64 c, .int .i64 d] rw e] : PureCon ext prog 116 [.slice r 0 4 (some 4) 1, .int .i64 x] H 2 (.bool (hasN [a, b, c, d] 4 x)) := K_Contains (by omega)
end Go.Am
namespace Go.Am
open Go
attribute [local irreducible] Wp WpO WpX WpE
def keyB (k : Int) : Bool := withinB k (-4) 4
def stepB (s : Int) : Bool := withinB s 0 69
def altB (a : Int) : Bool := withinB a (-1) 1
def pitchB (s a : Int) : Bool := stepB s && altB a
instance K_isKey {k : Int} {H : AHeap} : PureCon ext prog 89 [.int .i64 k] H 2 (.bool (keyB k)) := ⟨by
 refine con_of (show prog 89 = some c89 from rfl) rfl rfl fun m hn => ?_
 unfold keyB
 repeat first
  | refine mI ?_
  | refine mB ?_
  | (refine Fo.pcall (v' := ?_) hn rfl (by simp only [↓nrmL, nrmZ, Nat.reduceEqDiff, ↓reduceIte, Nat.reduceAdd, Int.reduceBEq, Int.reduceBNe, List.map]; rfl) rfl ?hv fun _ _ => ?_; case hv => rfl)
  | refine nl hKF ?_
  | refine sq ?_
  | refine rg fun KF hKF => ?_
  | refine rt ?_
  | dsimp only [cond_true, cond_false]
 refine rz trivial ?_
 exact ⟨rfl, Ext0.ext⟩⟩
instance K_isStep {k : Int} {H : AHeap} : PureCon ext prog 92 [.int .i64 k] H 2 (.bool (stepB k)) := ⟨by
 refine con_of (show prog 92 = some c92 from rfl) rfl rfl fun m hn => ?_
 unfold stepB
 repeat first
  | refine mI ?_
  | refine mB ?_
  | (refine Fo.pcall (v' := ?_) hn rfl (by simp only [↓nrmL, nrmZ, Nat.reduceEqDiff, ↓reduceIte, Nat.reduceAdd, Int.reduceBEq, Int.reduceBNe, List.map]; rfl) rfl ?hv fun _ _ => ?_; case hv => rfl)
  | refine nl hKF ?_
  | refine sq ?_
  | refine rg fun KF hKF => ?_
  | refine rt ?_
  | dsimp only [cond_true, cond_false]
 refine rz trivial ?_
 exact ⟨rfl, Ext0.ext⟩⟩
instance K_isAlteration {k : Int} {H : AHeap} : PureCon ext prog 93 [.int .i64 k] H 2 (.bool (altB k)) := ⟨by
 refine con_of (show prog 93 = some c93 from rfl) rfl rfl fun m hn => ?_
 unfold altB
 repeat first
  | refine mI ?_
  | refine mB ?_
  | (refine Fo.pcall (v' := ?_) hn rfl (by simp only [↓nrmL, nrmZ, Nat.reduceEqDiff, ↓reduceIte, Nat.reduceAdd, Int.reduceBEq, Int.reduceBNe, List.map]; rfl) rfl ?hv fun _ _ => ?_; case hv => rfl)
  | refine nl hKF ?_
  | refine sq ?_
  | refine rg fun KF hKF => ?_
  | refine rt ?_
  | dsimp only [cond_true, cond_false]
 refine rz trivial ?_
 exact ⟨rfl, Ext0.ext⟩⟩
instance K_IsKey {k : Int} {H : AHeap} : PureCon ext prog 109 [.int .i64 k] H 1 (.bool (keyB k)) := ⟨by
 refine con_of (show prog 109 = some c109 from rfl) rfl rfl fun m hn => ?_
 have e : keyB k = (decide (k ≥ -4) && decide (k ≤ 4)) := rfl
 rw [e]
 cases h1 : decide (k ≥ -4)
 ·skip
  repeat first
   | refine ox ?_
   | refine mI ?_
   | refine mB ?_
   | (refine bn rfl rfl rfl (by simp only [h1]; rfl) ?_)
   | refine fB ?_
   | refine nl hKF ?_
   | refine sq ?_
   | refine rg fun KF hKF => ?_
   | refine rt ?_
   | dsimp only [cond_true, cond_false]
  refine rz trivial ?_
  exact ⟨rfl, Ext0.ext⟩
 ·skip
  repeat first
   | refine oy ?_
   | refine mI ?_
   | refine mB ?_
   | (refine bn rfl rfl rfl (by simp only [h1]; rfl) ?_)
   | refine b0 ?_
   | refine tB ?_
   | refine nl hKF ?_
   | refine sq ?_
   | refine rg fun KF hKF => ?_
   | refine rt ?_
   | dsimp only [cond_true, cond_false]
  refine rz trivial ?_
  exact ⟨rfl, Ext0.ext⟩⟩
instance K_isPitch {s a : Int} {H : AHeap} : PureCon ext prog 63 [.agg [.int .i64 s, .int .i64 a]] H 3 (.bool (pitchB s a)) := ⟨by
 refine con_of (show prog 63 = some c63 from rfl) rfl rfl fun m hn => ?_
 unfold pitchB
 cases h1 : stepB s
 ·skip
  repeat first
   | refine ox ?_
   | refine mB ?_
   | refine fd ?_
   | refine Fo.ld rfl rfl ?_
   | refine fB ?_
   | (refine Fo.pcall (v' := ?_) hn rfl (by simp only [↓nrmL, nrmZ, Nat.reduceEqDiff, ↓reduceIte, Nat.reduceAdd, Int.reduceBEq, Int.reduceBNe, h1, List.map]; rfl) rfl ?hv fun _ _ => ?_; case hv => (simp only [h1]; rfl))
   | refine bA ?_
   | refine nl hKF ?_
   | refine sq ?_
   | refine rg fun KF hKF => ?_
   | refine rt ?_
   | dsimp only [cond_true, cond_false]
  refine rz trivial ?_
  exact ⟨rfl, Ext0.ext⟩
 ·skip
  repeat first
   | refine oy ?_
   | refine mB ?_
   | refine fd ?_
   | refine Fo.ld rfl rfl ?_
   | refine tB ?_
   | (refine Fo.pcall (v' := ?_) hn rfl (by simp only [↓nrmL, nrmZ, Nat.reduceEqDiff, ↓reduceIte, Nat.reduceAdd, Int.reduceBEq, Int.reduceBNe, h1, List.map]; rfl) rfl ?hv fun _ _ => ?_; case hv => (simp only [h1]; rfl))
   | (refine Fo.pcall (v' := ?_) hn rfl (by simp only [↓nrmL, nrmZ, Nat.reduceEqDiff, ↓reduceIte, Nat.reduceAdd, Int.reduceBEq, Int.reduceBNe, h1, List.map]; rfl) rfl ?hv fun _ _ => ?_; case hv => rfl)
   | refine bA ?_
   | refine nl hKF ?_
   | refine sq ?_
   | refine rg fun KF hKF => ?_
   | refine rt ?_
   | dsimp only [cond_true, cond_false]
  refine rz trivial ?_
  exact ⟨rfl, Ext0.ext⟩⟩
theorem altB_eq (a : Int) : altB a = (a == -1 || (a == 0 || a == 1)) := by
 unfold altB withinB
 rw [Bool.eq_iff_iff]
 simp only [Bool.and_eq_true, Bool.or_eq_true, decide_eq_true_eq, beq_iff_eq]
 omega
instance K_Good {s a : Int} {H : AHeap} : PureCon ext prog 65 [.agg [.int .i64 s, .int .i64 a]] H 1 (.bool (pitchB s a)) := ⟨by
 refine con_of (show prog 65 = some c65 from rfl) rfl rfl fun m hn => ?_
 have e : pitchB s a = (decide (s ≥ 0) && decide (s ≤ 69) && (a == -1 || (a == 0 || a == 1))) := by unfold pitchB; rw [altB_eq]; rfl
 rw [e]
 cases h1 : decide (s ≥ 0)
 ·skip
  repeat first
   | refine ox ?_
   | refine Fo.noU rfl ?_
   | refine mB ?_
   | refine fd ?_
   | refine Fo.ld rfl rfl ?_
   | (refine bn rfl rfl rfl (by simp only [h1]; rfl) ?_)
   | refine fB ?_
   | refine bA ?_
   | refine nl hKF ?_
   | refine sq ?_
   | refine rg fun KF hKF => ?_
   | refine rt ?_
   | dsimp only [cond_true, cond_false]
  refine rz trivial ?_
  exact ⟨rfl, Ext0.ext⟩
 cases h2 : decide (s ≤ 69)
 ·skip
  repeat first
   | refine oy ?_
   | refine ox ?_
   | refine Fo.noU rfl ?_
   | refine mB ?_
   | refine fd ?_
   | refine Fo.ld rfl rfl ?_
   | (refine bn rfl rfl rfl (by simp only [h1, h2]; rfl) ?_)
   | refine tB ?_
   | refine fB ?_
   | refine bA ?_
   | refine nl hKF ?_
   | refine sq ?_
   | refine rg fun KF hKF => ?_
   | refine rt ?_
   | dsimp only [cond_true, cond_false]
  refine rz trivial ?_
  exact ⟨rfl, Ext0.ext⟩
 cases h3 : a == -1
 ·cases h4 : a == 0
  ·skip
   repeat first
    | refine oy ?_
    | refine mB ?_
    | refine fd ?_
    | refine Fo.ld rfl rfl ?_
    | (refine bn rfl rfl rfl (by simp only [h1, h2, h3, h4]; rfl) ?_)
    | refine b0 ?_
    | refine tB ?_
    | refine fB ?_
    | refine bA ?_
    | refine nl hKF ?_
    | refine sq ?_
    | refine rg fun KF hKF => ?_
    | refine rt ?_
    | dsimp only [cond_true, cond_false]
   refine rz trivial ?_
   exact ⟨rfl, Ext0.ext⟩
  ·skip
   repeat first
    | refine oy ?_
    | refine ox ?_
    | refine mB ?_
    | refine fd ?_
    | refine Fo.ld rfl rfl ?_
    | (refine bn rfl rfl rfl (by simp only [h1, h2, h3, h4]; rfl) ?_)
    | refine tB ?_
    | refine fB ?_
    | refine bA ?_
    | refine nl hKF ?_
    | refine sq ?_
    | refine rg fun KF hKF => ?_
    | refine rt ?_
    | dsimp only [cond_true, cond_false]
   refine rz trivial ?_
   exact ⟨rfl, Ext0.ext⟩
 ·skip
  repeat first
   | refine oy ?_
   | refine ox ?_
   | refine mB ?_
   | refine fd ?_
   | refine Fo.ld rfl rfl ?_
   | (refine bn rfl rfl rfl (by simp only [h1, h2, h3]; rfl) ?_)
   | refine tB ?_
   | refine bA ?_
   | refine nl hKF ?_
   | refine sq ?_
   | refine rg fun KF hKF => ?_
   | refine rt ?_
   | dsimp only [cond_true, cond_false]
  refine rz trivial ?_
  exact ⟨rfl, Ext0.ext⟩⟩
class KeyI (k : Int) : Prop where
 lo : -4 ≤ k
 hi : k ≤ 4
end Go.Am
namespace Go.Am
open Go
attribute [local irreducible] Wp WpO WpX WpE
end Go.Am
namespace Go.Am
open Go
attribute [local irreducible] Wp WpO WpX WpE
class StepI (s : Int) : Prop where
 lo : 0 ≤ s
 hi : s ≤ 69
theorem stepI_of {s : Int} (h : stepB s = true) : StepI s := by
 unfold stepB withinB at h
 simp only [Bool.and_eq_true, decide_eq_true_eq] at h
 exact ⟨h.1, h.2⟩
theorem stepB_of {s : Int} (h1 : 0 ≤ s) (h2 : s ≤ 69) : stepB s = true := by
 unfold stepB withinB; rw [decide_eq_true h1, decide_eq_true h2]; rfl
def lettI (n : Nat) : Int := match n with | 0 => 0 | 1 => 2 | 2 => 4 | 3 => 5 | 4 => 7 | 5 => 9 | _ => 11
def natI (s : Int) : Int := 12 * (s / 7) + lettI (s % 7).toNat
instance K_natural {s : Int} {H : AHeap} [hs : StepI s] : PureCon ext prog 64 [.int .i64 s] H 1 (.int .i64 (natI s)) := ⟨by
 refine con_of (show prog 64 = some c64 from rfl) rfl rfl fun m hn => ?_
 have h0 := hs.lo; have h9 := hs.hi
 have q1 : s.tdiv 7 = s / 7 := Int.tdiv_eq_ediv_of_nonneg h0
 have q2 : s.tmod 7 = s % 7 := Int.tmod_eq_emod_of_nonneg h0
 have w1 : IntKind.i64.wrap (s / 7) = s / 7 := w64r (by omega) (by omega)
 have w2 : IntKind.i64.wrap (12 * (s / 7)) = 12 * (s / 7) := w64r (by omega) (by omega)
 rcases (show s % 7 = 0 ∨ s % 7 = 1 ∨ s % 7 = 2 ∨ s % 7 = 3 ∨ s % 7 = 4 ∨ s % 7 = 5 ∨ s % 7 = 6 by omega) with h | h | h | h | h | h | h
 ·have e : natI s = 12 * (s / 7) + 0 := by unfold natI; rw [h]; rfl
  have w3 : IntKind.i64.wrap (12 * (s / 7) + 0) = 12 * (s / 7) + 0 := w64r (by omega) (by omega)
  repeat first
   | refine mI ?_
   | refine Fo.ld rfl rfl ?_
   | (refine bn rfl rfl rfl (by simp only [q1, q2, h, w1, w2, w3]; rfl) ?_)
   | refine nw ?_
   | (refine ob (cs' := ?_) ?hc ?_; case hc => (simp only [↓nrmL, nrmZ, Nat.reduceEqDiff, ↓reduceIte, Nat.reduceAdd, Int.reduceBEq, Int.reduceBNe, q1, q2, h, w1, w2, w3]; rfl))
   | (refine Fo.now rfl rfl (by simp only [↓nrmL, nrmZ, Nat.reduceEqDiff, ↓reduceIte, Nat.reduceAdd, Int.reduceBEq, Int.reduceBNe, q1, q2, h, w1, w2, w3]; rfl) ?_)
   | (refine so rfl (rfl : _ = AVal.agg _) rfl rfl rfl (by simp only [↓nrmL, nrmZ, Nat.reduceEqDiff, ↓reduceIte, Nat.reduceAdd, Int.reduceBEq, Int.reduceBNe, q1, q2, h, w1, w2, w3]; rfl) ?_)
   | refine nl hKF ?_
   | refine sq ?_
   | refine rg fun KF hKF => ?_
   | refine rt ?_
   | dsimp only [cond_true, cond_false]
  refine rz trivial ?_
  exact ⟨by rw [e]; rfl, Ext0.ext⟩
 ·have e : natI s = 12 * (s / 7) + 2 := by unfold natI; rw [h]; rfl
  have w3 : IntKind.i64.wrap (12 * (s / 7) + 2) = 12 * (s / 7) + 2 := w64r (by omega) (by omega)
  repeat first
   | refine mI ?_
   | refine Fo.ld rfl rfl ?_
   | (refine bn rfl rfl rfl (by simp only [q1, q2, h, w1, w2, w3]; rfl) ?_)
   | refine nw ?_
   | (refine ob (cs' := ?_) ?hc ?_; case hc => (simp only [↓nrmL, nrmZ, Nat.reduceEqDiff, ↓reduceIte, Nat.reduceAdd, Int.reduceBEq, Int.reduceBNe, q1, q2, h, w1, w2, w3]; rfl))
   | (refine Fo.now rfl rfl (by simp only [↓nrmL, nrmZ, Nat.reduceEqDiff, ↓reduceIte, Nat.reduceAdd, Int.reduceBEq, Int.reduceBNe, q1, q2, h, w1, w2, w3]; rfl) ?_)
   | (refine so rfl (rfl : _ = AVal.agg _) rfl rfl rfl (by simp only [↓nrmL, nrmZ, Nat.reduceEqDiff, ↓reduceIte, Nat.reduceAdd, Int.reduceBEq, Int.reduceBNe, q1, q2, h, w1, w2, w3]; rfl) ?_)
   | refine nl hKF ?_
   | refine sq ?_
   | refine rg fun KF hKF => ?_
   | refine rt ?_
   | dsimp only [cond_true, cond_false]
  refine rz trivial ?_
  exact ⟨by rw [e]; rfl, Ext0.ext⟩
 ·have e : natI s = 12 * (s / 7) + 4 := by unfold natI; rw [h]; rfl
  have w3 : IntKind.i64.wrap (12 * (s / 7) + 4) = 12 * (s / 7) + 4 := w64r (by omega) (by omega)
  repeat first
   | refine mI ?_
   | refine Fo.ld rfl rfl ?_
   | (refine bn rfl rfl rfl (by simp only [q1, q2, h, w1, w2, w3]; rfl) ?_)
   | refine nw ?_
   | (refine ob (cs' := ?_) ?hc ?_; case hc => (simp only [↓nrmL, nrmZ, Nat.reduceEqDiff, ↓reduceIte, Nat.reduceAdd, Int.reduceBEq, Int.reduceBNe, q1, q2, h, w1, w2, w3]; rfl))
   | (refine Fo.now rfl rfl (by simp only [↓nrmL, nrmZ, Nat.reduceEqDiff, ↓reduceIte, Nat.reduceAdd, Int.reduceBEq, Int.reduceBNe, q1, q2, h, w1, w2, w3]; rfl) ?_)
   | (refine so rfl (rfl : _ = AVal.agg _) rfl rfl rfl (by simp only [↓nrmL, nrmZ, Nat.reduceEqDiff, ↓reduceIte, Nat.reduceAdd, Int.reduceBEq, Int.reduceBNe, q1, q2, h, w1, w2, w3]; rfl) ?_)
   | refine nl hKF ?_
   | refine sq ?_
   | refine rg fun KF hKF => ?_
   | refine rt ?_
   | dsimp only [cond_true, cond_false]
  refine rz trivial ?_
  exact ⟨by rw [e]; rfl, Ext0.ext⟩
 ·have e : natI s = 12 * (s / 7) + 5 := by unfold natI; rw [h]; rfl
  have w3 : IntKind.i64.wrap (12 * (s / 7) + 5) = 12 * (s / 7) + 5 := w64r (by omega) (by omega)
  repeat first
   | refine mI ?_
   | refine Fo.ld rfl rfl ?_
   | (refine bn rfl rfl rfl (by simp only [q1, q2, h, w1, w2, w3]; rfl) ?_)
   | refine nw ?_
   | (refine ob (cs' := ?_) ?hc ?_; case hc => (simp only [↓nrmL, nrmZ, Nat.reduceEqDiff, ↓reduceIte, Nat.reduceAdd, Int.reduceBEq, Int.reduceBNe, q1, q2, h, w1, w2, w3]; rfl))
   | (refine Fo.now rfl rfl (by simp only [↓nrmL, nrmZ, Nat.reduceEqDiff, ↓reduceIte, Nat.reduceAdd, Int.reduceBEq, Int.reduceBNe, q1, q2, h, w1, w2, w3]; rfl) ?_)
   | (refine so rfl (rfl : _ = AVal.agg _) rfl rfl rfl (by simp only [↓nrmL, nrmZ, Nat.reduceEqDiff, ↓reduceIte, Nat.reduceAdd, Int.reduceBEq, Int.reduceBNe, q1, q2, h, w1, w2, w3]; rfl) ?_)
   | refine nl hKF ?_
   | refine sq ?_
   | refine rg fun KF hKF => ?_
   | refine rt ?_
   | dsimp only [cond_true, cond_false]
  refine rz trivial ?_
  exact ⟨by rw [e]; rfl, Ext0.ext⟩
 ·have e : natI s = 12 * (s / 7) + 7 := by unfold natI; rw [h]; rfl
  have w3 : IntKind.i64.wrap (12 * (s / 7) + 7) = 12 * (s / 7) + 7 := w64r (by omega) (by omega)
  repeat first
   | refine mI ?_
   | refine Fo.ld rfl rfl ?_
   | (refine bn rfl rfl rfl (by simp only [q1, q2, h, w1, w2, w3]; rfl) ?_)
   | refine nw ?_
   | (refine ob (cs' := ?_) ?hc ?_; case hc => (simp only [↓nrmL, nrmZ, Nat.reduceEqDiff, ↓reduceIte, Nat.reduceAdd, Int.reduceBEq, Int.reduceBNe, q1, q2, h, w1, w2, w3]; rfl))
   | (refine Fo.now rfl rfl (by simp only [↓nrmL, nrmZ, Nat.reduceEqDiff, ↓reduceIte, Nat.reduceAdd, Int.reduceBEq, Int.reduceBNe, q1, q2, h, w1, w2, w3]; rfl) ?_)
   | (refine so rfl (rfl : _ = AVal.agg _) rfl rfl rfl (by simp only [↓nrmL, nrmZ, Nat.reduceEqDiff, ↓reduceIte, Nat.reduceAdd, Int.reduceBEq, Int.reduceBNe, q1, q2, h, w1, w2, w3]; rfl) ?_)
   | refine nl hKF ?_
   | refine sq ?_
   | refine rg fun KF hKF => ?_
   | refine rt ?_
   | dsimp only [cond_true, cond_false]
  refine rz trivial ?_
  exact ⟨by rw [e]; rfl, Ext0.ext⟩
 ·have e : natI s = 12 * (s / 7) + 9 := by unfold natI; rw [h]; rfl
  have w3 : IntKind.i64.wrap (12 * (s / 7) + 9) = 12 * (s / 7) + 9 := w64r (by omega) (by omega)
  repeat first
   | refine mI ?_
   | refine Fo.ld rfl rfl ?_
   | (refine bn rfl rfl rfl (by simp only [q1, q2, h, w1, w2, w3]; rfl) ?_)
   | refine nw ?_
   | (refine ob (cs' := ?_) ?hc ?_; case hc => (simp only [↓nrmL, nrmZ, Nat.reduceEqDiff, ↓reduceIte, Nat.reduceAdd, Int.reduceBEq, Int.reduceBNe, q1, q2, h, w1, w2, w3]; rfl))
   | (refine Fo.now rfl rfl (by simp only [↓nrmL, nrmZ, Nat.reduceEqDiff, ↓reduceIte, Nat.reduceAdd, Int.reduceBEq, Int.reduceBNe, q1, q2, h, w1, w2, w3]; rfl) ?_)
   | (refine so rfl (rfl : _ = AVal.agg _) rfl rfl rfl (by simp only [↓nrmL, nrmZ, Nat.reduceEqDiff, ↓reduceIte, Nat.reduceAdd, Int.reduceBEq, Int.reduceBNe, q1, q2, h, w1, w2, w3]; rfl) ?_)
   | refine nl hKF ?_
   | refine sq ?_
   | refine rg fun KF hKF => ?_
   | refine rt ?_
   | dsimp only [cond_true, cond_false]
  refine rz trivial ?_
  exact ⟨by rw [e]; rfl, Ext0.ext⟩
 ·have e : natI s = 12 * (s / 7) + 11 := by unfold natI; rw [h]; rfl
  have w3 : IntKind.i64.wrap (12 * (s / 7) + 11) = 12 * (s / 7) + 11 := w64r (by omega) (by omega)
  repeat first
   | refine mI ?_
   | refine Fo.ld rfl rfl ?_
   | (refine bn rfl rfl rfl (by simp only [q1, q2, h, w1, w2, w3]; rfl) ?_)
   | refine nw ?_
   | (refine ob (cs' := ?_) ?hc ?_; case hc => (simp only [↓nrmL, nrmZ, Nat.reduceEqDiff, ↓reduceIte, Nat.reduceAdd, Int.reduceBEq, Int.reduceBNe, q1, q2, h, w1, w2, w3]; rfl))
   | (refine Fo.now rfl rfl (by simp only [↓nrmL, nrmZ, Nat.reduceEqDiff, ↓reduceIte, Nat.reduceAdd, Int.reduceBEq, Int.reduceBNe, q1, q2, h, w1, w2, w3]; rfl) ?_)
   | (refine so rfl (rfl : _ = AVal.agg _) rfl rfl rfl (by simp only [↓nrmL, nrmZ, Nat.reduceEqDiff, ↓reduceIte, Nat.reduceAdd, Int.reduceBEq, Int.reduceBNe, q1, q2, h, w1, w2, w3]; rfl) ?_)
   | refine nl hKF ?_
   | refine sq ?_
   | refine rg fun KF hKF => ?_
   | refine rt ?_
   | dsimp only [cond_true, cond_false]
  refine rz trivial ?_
  exact ⟨by rw [e]; rfl, Ext0.ext⟩⟩
def nearB (i s : Int) : Bool := withinB i (-200) 200 && withinB s (-200) 200
instance K_near {i s : Int} {H : AHeap} : PureCon ext prog 97 [.agg [.int .i64 i, .int .i64 s]] H 2 (.bool (nearB i s)) := ⟨by
 refine con_of (show prog 97 = some c97 from rfl) rfl rfl fun m hn => ?_
 unfold nearB
 cases h1 : withinB i (-200) 200
 ·skip
  repeat first
   | refine ox ?_
   | refine mB ?_
   | refine fd ?_
   | refine Fo.ld rfl rfl ?_
   | refine fB ?_
   | (refine Fo.pcall (v' := ?_) hn rfl (by simp only [↓nrmL, nrmZ, Nat.reduceEqDiff, ↓reduceIte, Nat.reduceAdd, Int.reduceBEq, Int.reduceBNe, h1, List.map]; rfl) rfl ?hv fun _ _ => ?_; case hv => (simp only [h1]; rfl))
   | refine bA ?_
   | refine nl hKF ?_
   | refine sq ?_
   | refine rg fun KF hKF => ?_
   | refine rt ?_
   | dsimp only [cond_true, cond_false]
  refine rz trivial ?_
  exact ⟨rfl, Ext0.ext⟩
 ·skip
  repeat first
   | refine oy ?_
   | refine mB ?_
   | refine fd ?_
   | refine Fo.ld rfl rfl ?_
   | refine tB ?_
   | (refine Fo.pcall (v' := ?_) hn rfl (by simp only [↓nrmL, nrmZ, Nat.reduceEqDiff, ↓reduceIte, Nat.reduceAdd, Int.reduceBEq, Int.reduceBNe, h1, List.map]; rfl) rfl ?hv fun _ _ => ?_; case hv => (simp only [h1]; rfl))
   | (refine Fo.pcall (v' := ?_) hn rfl (by simp only [↓nrmL, nrmZ, Nat.reduceEqDiff, ↓reduceIte, Nat.reduceAdd, Int.reduceBEq, Int.reduceBNe, h1, List.map]; rfl) rfl ?hv fun _ _ => ?_; case hv => rfl)
   | refine bA ?_
   | refine nl hKF ?_
   | refine sq ?_
   | refine rg fun KF hKF => ?_
   | refine rt ?_
   | dsimp only [cond_true, cond_false]
  refine rz trivial ?_
  exact ⟨rfl, Ext0.ext⟩⟩
def moveA (p a i s : Int) : Int := w6 (w6 (w6 (natI p + a) + s) - natI (w6 (p + i)))
def transS (p a i s : Int) : Int × Int × Int :=
 bif nearB i s then (bif pitchB p a && stepB (w6 (p + i)) then (bif pitchB (w6 (p + i)) (moveA p a i s) then (w6 (p + i), moveA p a i s, 0) else (0, 0, 34)) else (0, 0, 34)) else (0, 0, 8)
theorem pitch_step {p a : Int} (h : pitchB p a = true) : StepI p := by
 unfold pitchB at h
 rw [Bool.and_eq_true] at h
 exact stepI_of h.1
instance K_Transpose {p a i s : Int} {H : AHeap} : PureCon ext prog 44 [.agg [.int .i64 p, .int .i64 a], .agg [.int .i64 i, .int .i64 s]] H 4 (rT (transS p a i s)) := ⟨by
 refine con_of (show prog 44 = some c44 from rfl) rfl rfl fun m hn => ?_
 cases h1 : nearB i s
 ·have e : transS p a i s = (0, 0, 8) := by unfold transS; rw [h1]; rfl
  repeat first
   | refine mI ?_
   | (refine Fo.ldN rfl rfl (by simp only [↓nrmL, nrmZ, Nat.reduceEqDiff, ↓reduceIte, Nat.reduceAdd, Int.reduceBEq, Int.reduceBNe, h1]; rfl) ?_)
   | (refine Fo.pcall (v' := ?_) hn rfl (by simp only [↓nrmL, nrmZ, Nat.reduceEqDiff, ↓reduceIte, Nat.reduceAdd, Int.reduceBEq, Int.reduceBNe, h1, List.map]; rfl) rfl ?hv fun _ _ => ?_; case hv => (simp only [h1]; rfl))
   | refine bA ?_
   | refine nw ?_
   | (refine ob (cs' := ?_) ?hc ?_; case hc => rfl)
   | (refine Fo.now rfl rfl (by simp only [↓nrmL, nrmZ, Nat.reduceEqDiff, ↓reduceIte, Nat.reduceAdd, Int.reduceBEq, Int.reduceBNe, h1]; rfl) ?_)
   | (refine so rfl (rfl : _ = AVal.agg _) rfl rfl rfl (by simp only [↓nrmL, nrmZ, Nat.reduceEqDiff, ↓reduceIte, Nat.reduceAdd, Int.reduceBEq, Int.reduceBNe, h1]; rfl) ?_)
   | refine nl hKF ?_
   | refine sq ?_
   | refine rg fun KF hKF => ?_
   | refine ct rfl ?_
   | refine rt ?_
   | dsimp only [cond_true, cond_false]
  refine rz trivial ?_
  exact ⟨by rw [e]; rfl, Ext0.ext⟩
 cases h2 : pitchB p a
 ·have e : transS p a i s = (0, 0, 34) := by unfold transS; rw [h1, h2]; rfl
  repeat first
   | refine ox ?_
   | refine mI ?_
   | refine mB ?_
   | (refine Fo.ldN rfl rfl (by simp only [↓nrmL, nrmZ, Nat.reduceEqDiff, ↓reduceIte, Nat.reduceAdd, Int.reduceBEq, Int.reduceBNe, h1, h2]; rfl) ?_)
   | refine tB ?_
   | (refine Fo.pcall (v' := ?_) hn rfl (by simp only [↓nrmL, nrmZ, Nat.reduceEqDiff, ↓reduceIte, Nat.reduceAdd, Int.reduceBEq, Int.reduceBNe, h1, h2, List.map]; rfl) rfl ?hv fun _ _ => ?_; case hv => (simp only [h1, h2]; rfl))
   | refine bA ?_
   | refine nw ?_
   | (refine ob (cs' := ?_) ?hc ?_; case hc => rfl)
   | (refine Fo.now rfl rfl (by simp only [↓nrmL, nrmZ, Nat.reduceEqDiff, ↓reduceIte, Nat.reduceAdd, Int.reduceBEq, Int.reduceBNe, h1, h2]; rfl) ?_)
   | (refine so rfl (rfl : _ = AVal.agg _) rfl rfl rfl (by simp only [↓nrmL, nrmZ, Nat.reduceEqDiff, ↓reduceIte, Nat.reduceAdd, Int.reduceBEq, Int.reduceBNe, h1, h2]; rfl) ?_)
   | refine nl hKF ?_
   | refine sq ?_
   | refine rg fun KF hKF => ?_
   | refine ct rfl ?_
   | refine cf rfl ?_
   | refine sk ?_
   | refine rt ?_
   | dsimp only [cond_true, cond_false]
  refine rz trivial ?_
  exact ⟨by rw [e]; rfl, Ext0.ext⟩
 haveI := pitch_step h2
 cases h3 : stepB (w6 (p + i))
 ·have e : transS p a i s = (0, 0, 34) := by unfold transS; rw [h1, h2, h3]; rfl
  repeat first
   | refine oy ?_
   | refine mI ?_
   | refine mB ?_
   | refine fd ?_
   | refine Fo.ld rfl rfl ?_
   | (refine Fo.ldN rfl rfl (by simp only [↓nrmL, nrmZ, Nat.reduceEqDiff, ↓reduceIte, Nat.reduceAdd, Int.reduceBEq, Int.reduceBNe, h1, h2, h3]; rfl) ?_)
   | refine b0 ?_
   | refine fB ?_
   | (refine Fo.pcall (v' := ?_) hn rfl (by simp only [↓nrmL, nrmZ, Nat.reduceEqDiff, ↓reduceIte, Nat.reduceAdd, Int.reduceBEq, Int.reduceBNe, h1, h2, h3, List.map]; rfl) rfl ?hv fun _ _ => ?_; case hv => (simp only [h1, h2, h3]; rfl))
   | refine bA ?_
   | refine nw ?_
   | (refine ob (cs' := ?_) ?hc ?_; case hc => rfl)
   | (refine Fo.now rfl rfl (by simp only [↓nrmL, nrmZ, Nat.reduceEqDiff, ↓reduceIte, Nat.reduceAdd, Int.reduceBEq, Int.reduceBNe, h1, h2, h3]; rfl) ?_)
   | (refine so rfl (rfl : _ = AVal.agg _) rfl rfl rfl (by simp only [↓nrmL, nrmZ, Nat.reduceEqDiff, ↓reduceIte, Nat.reduceAdd, Int.reduceBEq, Int.reduceBNe, h1, h2, h3]; rfl) ?_)
   | refine nl hKF ?_
   | refine sq ?_
   | refine rg fun KF hKF => ?_
   | refine ct rfl ?_
   | refine cf rfl ?_
   | refine sk ?_
   | refine rt ?_
   | dsimp only [cond_true, cond_false]
  refine rz trivial ?_
  exact ⟨by rw [e]; rfl, Ext0.ext⟩
 haveI := stepI_of h3
 cases h4 : pitchB (w6 (p + i)) (moveA p a i s)
 ·have e : transS p a i s = (0, 0, 34) := by unfold transS; rw [h1, h2, h3, h4]; rfl
  unfold moveA at h4
  repeat first
   | refine oy ?_
   | refine mI ?_
   | refine mB ?_
   | refine fd ?_
   | refine Fo.ld rfl rfl ?_
   | (refine Fo.ldN rfl rfl (by simp only [↓nrmL, nrmZ, Nat.reduceEqDiff, ↓reduceIte, Nat.reduceAdd, Int.reduceBEq, Int.reduceBNe, h1, h2, h3]; rfl) ?_)
   | refine b0 ?_
   | refine fB ?_
   | (refine Fo.pcall (v' := ?_) hn rfl (by simp only [↓nrmL, nrmZ, Nat.reduceEqDiff, ↓reduceIte, Nat.reduceAdd, Int.reduceBEq, Int.reduceBNe, h1, h2, h3, List.map]; rfl) rfl ?hv fun _ _ => ?_; case hv => (simp only [h1, h2, h3]; rfl))
   | refine bA ?_
   | refine nw ?_
   | (refine Fo.now rfl rfl (by simp only [↓nrmL, nrmZ, Nat.reduceEqDiff, ↓reduceIte, Nat.reduceAdd, Int.reduceBEq, Int.reduceBNe, h1, h2, h3]; rfl) ?_)
   | refine nl hKF ?_
   | refine sq ?_
   | refine rg fun KF hKF => ?_
   | refine cf rfl ?_
   | refine sk ?_
  refine Fr.dregionE [.row [.int .i64 0, .int .i64 0] true (2 * 38)] ?_ fun KF hKF => ?_
  ·skip
   repeat first
    | exact oracle_none _ _ _ _ rfl
    | (refine oracle_not rfl rfl ?_; (try simp only [↓nrmL, nrmZ, Nat.reduceEqDiff, ↓reduceIte, Nat.reduceAdd, Int.reduceBEq, Int.reduceBNe]))
    | (refine oracle_pre rfl rfl rfl (exec_ld rfl rfl) ?_; (try simp only [↓nrmL, nrmZ, Nat.reduceEqDiff, ↓reduceIte, Nat.reduceAdd, Int.reduceBEq, Int.reduceBNe]))
    | (refine oracle_pre rfl rfl rfl rfl ?_; (try simp only [↓nrmL, nrmZ, Nat.reduceEqDiff, ↓reduceIte, Nat.reduceAdd, Int.reduceBEq, Int.reduceBNe]))
    | (refine oracle_made rfl rfl rfl ?_; (try simp only [↓nrmL, nrmZ, Nat.reduceEqDiff, ↓reduceIte, Nat.reduceAdd, Int.reduceBEq, Int.reduceBNe]))
  simp only [pushAll]
  repeat first
   | (refine Er rfl (exec_ld rfl rfl) rfl ?_)
   | (refine Fe.pure rfl rfl (by simp only [↓nrmL, nrmZ, Nat.reduceEqDiff, ↓reduceIte, Nat.reduceAdd, Int.reduceBEq, Int.reduceBNe]; rfl) ?_)
   | refine Fe.pure rfl rfl rfl ?_
   | (refine Em rfl rfl ghost_of rfl ?_)
   | (refine Ee rfl (xs rfl (by (try simp only [↓nrmL, nrmZ, Nat.reduceEqDiff, ↓reduceIte, Nat.reduceAdd, Int.reduceBEq, Int.reduceBNe]); rfl) rfl rfl rfl (by (try simp only [↓nrmL, nrmZ, Nat.reduceEqDiff, ↓reduceIte, Nat.reduceAdd, Int.reduceBEq, Int.reduceBNe]); rfl)) ?_)
   | (refine Fe.pcall (v' := ?_) rfl hn rfl (by simp only [↓nrmL, nrmZ, Nat.reduceEqDiff, ↓reduceIte, Nat.reduceAdd, Int.reduceBEq, Int.reduceBNe, List.map]; rfl) rfl ?hv fun _ _ => ar ?_; case hv => rfl)
   | refine WpE.nil (hKF _ _ ?_)
  simp only [h4]
  repeat first
   | refine mI ?_
   | (refine Fo.ldN rfl rfl (by simp only [↓nrmL, nrmZ, Nat.reduceEqDiff, ↓reduceIte, Nat.reduceAdd, Int.reduceBEq, Int.reduceBNe, h4]; rfl) ?_)
   | (refine Fo.pcall (v' := ?_) hn rfl (by simp only [↓nrmL, nrmZ, Nat.reduceEqDiff, ↓reduceIte, Nat.reduceAdd, Int.reduceBEq, Int.reduceBNe, h4, List.map]; rfl) rfl ?hv fun _ _ => ?_; case hv => (simp only [h4]; rfl))
   | (refine ob (cs' := ?_) ?hc ?_; case hc => rfl)
   | (refine Fo.now rfl rfl (by simp only [↓nrmL, nrmZ, Nat.reduceEqDiff, ↓reduceIte, Nat.reduceAdd, Int.reduceBEq, Int.reduceBNe, h4]; rfl) ?_)
   | (refine so rfl (rfl : _ = AVal.agg _) rfl rfl rfl (by simp only [↓nrmL, nrmZ, Nat.reduceEqDiff, ↓reduceIte, Nat.reduceAdd, Int.reduceBEq, Int.reduceBNe, h4]; rfl) ?_)
   | refine nl hKF ?_
   | refine sq ?_
   | refine rg fun KF hKF => ?_
   | refine ct rfl ?_
   | refine rt ?_
   | dsimp only [cond_true, cond_false]
  refine rz trivial ?_
  exact ⟨by rw [e]; rfl, Ext0.ext⟩
 ·have e : transS p a i s = (w6 (p + i), moveA p a i s, 0) := by unfold transS; rw [h1, h2, h3, h4]; rfl
  unfold moveA at h4
  repeat first
   | refine oy ?_
   | refine mI ?_
   | refine mB ?_
   | refine fd ?_
   | refine Fo.ld rfl rfl ?_
   | (refine Fo.ldN rfl rfl (by simp only [↓nrmL, nrmZ, Nat.reduceEqDiff, ↓reduceIte, Nat.reduceAdd, Int.reduceBEq, Int.reduceBNe, h1, h2, h3]; rfl) ?_)
   | refine b0 ?_
   | refine fB ?_
   | (refine Fo.pcall (v' := ?_) hn rfl (by simp only [↓nrmL, nrmZ, Nat.reduceEqDiff, ↓reduceIte, Nat.reduceAdd, Int.reduceBEq, Int.reduceBNe, h1, h2, h3, List.map]; rfl) rfl ?hv fun _ _ => ?_; case hv => (simp only [h1, h2, h3]; rfl))
   | refine bA ?_
   | refine nw ?_
   | (refine Fo.now rfl rfl (by simp only [↓nrmL, nrmZ, Nat.reduceEqDiff, ↓reduceIte, Nat.reduceAdd, Int.reduceBEq, Int.reduceBNe, h1, h2, h3]; rfl) ?_)
   | refine nl hKF ?_
   | refine sq ?_
   | refine rg fun KF hKF => ?_
   | refine cf rfl ?_
   | refine sk ?_
  refine Fr.dregionE [.row [.int .i64 0, .int .i64 0] true (2 * 38)] ?_ fun KF hKF => ?_
  ·skip
   repeat first
    | exact oracle_none _ _ _ _ rfl
    | (refine oracle_not rfl rfl ?_; (try simp only [↓nrmL, nrmZ, Nat.reduceEqDiff, ↓reduceIte, Nat.reduceAdd, Int.reduceBEq, Int.reduceBNe]))
    | (refine oracle_pre rfl rfl rfl (exec_ld rfl rfl) ?_; (try simp only [↓nrmL, nrmZ, Nat.reduceEqDiff, ↓reduceIte, Nat.reduceAdd, Int.reduceBEq, Int.reduceBNe]))
    | (refine oracle_pre rfl rfl rfl rfl ?_; (try simp only [↓nrmL, nrmZ, Nat.reduceEqDiff, ↓reduceIte, Nat.reduceAdd, Int.reduceBEq, Int.reduceBNe]))
    | (refine oracle_made rfl rfl rfl ?_; (try simp only [↓nrmL, nrmZ, Nat.reduceEqDiff, ↓reduceIte, Nat.reduceAdd, Int.reduceBEq, Int.reduceBNe]))
  simp only [pushAll]
  repeat first
   | (refine Er rfl (exec_ld rfl rfl) rfl ?_)
   | (refine Fe.pure rfl rfl (by simp only [↓nrmL, nrmZ, Nat.reduceEqDiff, ↓reduceIte, Nat.reduceAdd, Int.reduceBEq, Int.reduceBNe]; rfl) ?_)
   | refine Fe.pure rfl rfl rfl ?_
   | (refine Em rfl rfl ghost_of rfl ?_)
   | (refine Ee rfl (xs rfl (by (try simp only [↓nrmL, nrmZ, Nat.reduceEqDiff, ↓reduceIte, Nat.reduceAdd, Int.reduceBEq, Int.reduceBNe]); rfl) rfl rfl rfl (by (try simp only [↓nrmL, nrmZ, Nat.reduceEqDiff, ↓reduceIte, Nat.reduceAdd, Int.reduceBEq, Int.reduceBNe]); rfl)) ?_)
   | (refine Fe.pcall (v' := ?_) rfl hn rfl (by simp only [↓nrmL, nrmZ, Nat.reduceEqDiff, ↓reduceIte, Nat.reduceAdd, Int.reduceBEq, Int.reduceBNe, List.map]; rfl) rfl ?hv fun _ _ => ar ?_; case hv => rfl)
   | refine WpE.nil (hKF _ _ ?_)
  simp only [h4]
  repeat first
   | refine mI ?_
   | (refine Fo.ldN rfl rfl (by simp only [↓nrmL, nrmZ, Nat.reduceEqDiff, ↓reduceIte, Nat.reduceAdd, Int.reduceBEq, Int.reduceBNe, h4]; rfl) ?_)
   | (refine Fo.pcall (v' := ?_) hn rfl (by simp only [↓nrmL, nrmZ, Nat.reduceEqDiff, ↓reduceIte, Nat.reduceAdd, Int.reduceBEq, Int.reduceBNe, h4, List.map]; rfl) rfl ?hv fun _ _ => ?_; case hv => (simp only [h4]; rfl))
   | (refine Fo.now rfl rfl (by simp only [↓nrmL, nrmZ, Nat.reduceEqDiff, ↓reduceIte, Nat.reduceAdd, Int.reduceBEq, Int.reduceBNe, h4]; rfl) ?_)
   | (refine so rfl (rfl : _ = AVal.agg _) rfl rfl rfl (by simp only [↓nrmL, nrmZ, Nat.reduceEqDiff, ↓reduceIte, Nat.reduceAdd, Int.reduceBEq, Int.reduceBNe, h4]; rfl) ?_)
   | refine nl hKF ?_
   | refine sq ?_
   | refine rg fun KF hKF => ?_
   | refine cf rfl ?_
   | refine sk ?_
   | refine rt ?_
   | dsimp only [cond_true, cond_false]
  refine rz trivial ?_
  exact ⟨by rw [e]; rfl, Ext0.ext⟩⟩
def betS (p a q b : Int) : Int × Int × Int := bif pitchB p a && pitchB q b then (w6 (q - p), w6 (w6 (w6 (natI q + b) - natI p) - a), 0) else (0, 0, 34)
instance K_Between {p a q b : Int} {H : AHeap} : PureCon ext prog 45 [.agg [.int .i64 p, .int .i64 a], .agg [.int .i64 q, .int .i64 b]] H 4 (rT (betS p a q b)) := ⟨by
 refine con_of (show prog 45 = some c45 from rfl) rfl rfl fun m hn => ?_
 unfold betS
 cases h1 : pitchB p a
 ·skip
  repeat first
   | refine ox ?_
   | refine mI ?_
   | refine mB ?_
   | (refine Fo.ldN rfl rfl (by simp only [↓nrmL, nrmZ, Nat.reduceEqDiff, ↓reduceIte, Nat.reduceAdd, Int.reduceBEq, Int.reduceBNe, h1]; rfl) ?_)
   | refine tB ?_
   | (refine Fo.pcall (v' := ?_) hn rfl (by simp only [↓nrmL, nrmZ, Nat.reduceEqDiff, ↓reduceIte, Nat.reduceAdd, Int.reduceBEq, Int.reduceBNe, h1, List.map]; rfl) rfl ?hv fun _ _ => ?_; case hv => (simp only [h1]; rfl))
   | refine bA ?_
   | refine nw ?_
   | (refine ob (cs' := ?_) ?hc ?_; case hc => rfl)
   | (refine Fo.now rfl rfl (by simp only [↓nrmL, nrmZ, Nat.reduceEqDiff, ↓reduceIte, Nat.reduceAdd, Int.reduceBEq, Int.reduceBNe, h1]; rfl) ?_)
   | (refine so rfl (rfl : _ = AVal.agg _) rfl rfl rfl (by simp only [↓nrmL, nrmZ, Nat.reduceEqDiff, ↓reduceIte, Nat.reduceAdd, Int.reduceBEq, Int.reduceBNe, h1]; rfl) ?_)
   | refine nl hKF ?_
   | refine sq ?_
   | refine rg fun KF hKF => ?_
   | refine ct rfl ?_
   | refine rt ?_
   | dsimp only [cond_true, cond_false]
  refine rz trivial ?_
  exact ⟨rfl, Ext0.ext⟩
 haveI := pitch_step h1
 cases h2 : pitchB q b
 ·skip
  repeat first
   | refine oy ?_
   | refine mI ?_
   | refine mB ?_
   | (refine Fo.ldN rfl rfl (by simp only [↓nrmL, nrmZ, Nat.reduceEqDiff, ↓reduceIte, Nat.reduceAdd, Int.reduceBEq, Int.reduceBNe, h1, h2]; rfl) ?_)
   | refine fB ?_
   | (refine Fo.pcall (v' := ?_) hn rfl (by simp only [↓nrmL, nrmZ, Nat.reduceEqDiff, ↓reduceIte, Nat.reduceAdd, Int.reduceBEq, Int.reduceBNe, h1, h2, List.map]; rfl) rfl ?hv fun _ _ => ?_; case hv => (simp only [h1, h2]; rfl))
   | refine bA ?_
   | refine nw ?_
   | (refine ob (cs' := ?_) ?hc ?_; case hc => rfl)
   | (refine Fo.now rfl rfl (by simp only [↓nrmL, nrmZ, Nat.reduceEqDiff, ↓reduceIte, Nat.reduceAdd, Int.reduceBEq, Int.reduceBNe, h1, h2]; rfl) ?_)
   | (refine so rfl (rfl : _ = AVal.agg _) rfl rfl rfl (by simp only [↓nrmL, nrmZ, Nat.reduceEqDiff, ↓reduceIte, Nat.reduceAdd, Int.reduceBEq, Int.reduceBNe, h1, h2]; rfl) ?_)
   | refine nl hKF ?_
   | refine sq ?_
   | refine rg fun KF hKF => ?_
   | refine ct rfl ?_
   | refine rt ?_
   | dsimp only [cond_true, cond_false]
  refine rz trivial ?_
  exact ⟨rfl, Ext0.ext⟩
 ·haveI := pitch_step h2
  repeat first
   | refine oy ?_
   | refine mI ?_
   | refine mB ?_
   | (refine Fo.ldN rfl rfl (by simp only [↓nrmL, nrmZ, Nat.reduceEqDiff, ↓reduceIte, Nat.reduceAdd, Int.reduceBEq, Int.reduceBNe, h1, h2]; rfl) ?_)
   | refine fB ?_
   | (refine Fo.pcall (v' := ?_) hn rfl (by simp only [↓nrmL, nrmZ, Nat.reduceEqDiff, ↓reduceIte, Nat.reduceAdd, Int.reduceBEq, Int.reduceBNe, h1, h2, List.map]; rfl) rfl ?hv fun _ _ => ?_; case hv => (simp only [h1, h2]; rfl))
   | refine bA ?_
   | refine nw ?_
   | (refine Fo.now rfl rfl (by simp only [↓nrmL, nrmZ, Nat.reduceEqDiff, ↓reduceIte, Nat.reduceAdd, Int.reduceBEq, Int.reduceBNe, h1, h2]; rfl) ?_)
   | refine nl hKF ?_
   | refine sq ?_
   | refine rg fun KF hKF => ?_
   | refine cf rfl ?_
   | refine sk ?_
  refine Fr.dregion0 rfl fun KF hKF => ?_
  repeat first
   | (refine Er rfl (exec_ld rfl rfl) rfl ?_)
   | (refine Fe.pure rfl rfl (by simp only [↓nrmL, nrmZ, Nat.reduceEqDiff, ↓reduceIte, Nat.reduceAdd, Int.reduceBEq, Int.reduceBNe]; rfl) ?_)
   | refine Fe.pure rfl rfl rfl ?_
   | (refine Ee rfl (xs rfl (by (try simp only [↓nrmL, nrmZ, Nat.reduceEqDiff, ↓reduceIte, Nat.reduceAdd, Int.reduceBEq, Int.reduceBNe]); rfl) rfl rfl rfl (by (try simp only [↓nrmL, nrmZ, Nat.reduceEqDiff, ↓reduceIte, Nat.reduceAdd, Int.reduceBEq, Int.reduceBNe]); rfl)) ?_)
   | (refine Fe.pcall (v' := ?_) rfl hn rfl (by simp only [↓nrmL, nrmZ, Nat.reduceEqDiff, ↓reduceIte, Nat.reduceAdd, Int.reduceBEq, Int.reduceBNe, List.map]; rfl) rfl ?hv fun _ _ => ar ?_; case hv => rfl)
   | refine WpE.nil (hKF _ _ ?_)
  refine rt ?_
  dsimp only [cond_true, cond_false]
  refine rz trivial ?_
  exact ⟨rfl, Ext0.ext⟩⟩
def keyN (k i s : Int) : Int := w6 (w6 (k + w6 (7 * s)) - w6 (12 * i))
def keyS (k i s : Int) : Int × Int := bif nearB i s then (bif keyB k && keyB (keyN k i s) then (keyN k i s, 0) else (0, 31)) else (0, 8)
instance K_Key {k i s : Int} {H : AHeap} : PureCon ext prog 47 [.int .i64 k, .agg [.int .i64 i, .int .i64 s]] H 3 (.tuple [.int .i64 (keyS k i s).1, .int .i64 (keyS k i s).2]) := ⟨by
 refine con_of (show prog 47 = some c47 from rfl) rfl rfl fun m hn => ?_
 unfold keyS keyN
 cases h1 : nearB i s
 ·skip
  repeat first
   | refine mI ?_
   | (refine Fo.ldN rfl rfl (by simp only [↓nrmL, nrmZ, Nat.reduceEqDiff, ↓reduceIte, Nat.reduceAdd, Int.reduceBEq, Int.reduceBNe, h1]; rfl) ?_)
   | (refine Fo.pcall (v' := ?_) hn rfl (by simp only [↓nrmL, nrmZ, Nat.reduceEqDiff, ↓reduceIte, Nat.reduceAdd, Int.reduceBEq, Int.reduceBNe, h1, List.map]; rfl) rfl ?hv fun _ _ => ?_; case hv => (simp only [h1]; rfl))
   | refine bA ?_
   | (refine Fo.now rfl rfl (by simp only [↓nrmL, nrmZ, Nat.reduceEqDiff, ↓reduceIte, Nat.reduceAdd, Int.reduceBEq, Int.reduceBNe, h1]; rfl) ?_)
   | refine nl hKF ?_
   | refine sq ?_
   | refine rg fun KF hKF => ?_
   | refine ct rfl ?_
   | refine rt ?_
   | dsimp only [cond_true, cond_false]
  refine rz trivial ?_
  exact ⟨rfl, Ext0.ext⟩
 cases h2 : keyB k
 ·skip
  repeat first
   | refine ox ?_
   | refine mI ?_
   | refine mB ?_
   | (refine Fo.ldN rfl rfl (by simp only [↓nrmL, nrmZ, Nat.reduceEqDiff, ↓reduceIte, Nat.reduceAdd, Int.reduceBEq, Int.reduceBNe, h1, h2]; rfl) ?_)
   | refine tB ?_
   | (refine Fo.pcall (v' := ?_) hn rfl (by simp only [↓nrmL, nrmZ, Nat.reduceEqDiff, ↓reduceIte, Nat.reduceAdd, Int.reduceBEq, Int.reduceBNe, h1, h2, List.map]; rfl) rfl ?hv fun _ _ => ?_; case hv => (simp only [h1, h2]; rfl))
   | refine bA ?_
   | (refine Fo.now rfl rfl (by simp only [↓nrmL, nrmZ, Nat.reduceEqDiff, ↓reduceIte, Nat.reduceAdd, Int.reduceBEq, Int.reduceBNe, h1, h2]; rfl) ?_)
   | refine nl hKF ?_
   | refine sq ?_
   | refine rg fun KF hKF => ?_
   | refine ct rfl ?_
   | refine cf rfl ?_
   | refine sk ?_
   | refine rt ?_
   | dsimp only [cond_true, cond_false]
  refine rz trivial ?_
  exact ⟨rfl, Ext0.ext⟩
 cases h3 : keyB (w6 (w6 (k + w6 (7 * s)) - w6 (12 * i)))
 ·skip
  repeat first
   | refine oy ?_
   | refine mI ?_
   | refine mB ?_
   | refine fd ?_
   | refine Fo.ld rfl rfl ?_
   | (refine Fo.ldN rfl rfl (by simp only [↓nrmL, nrmZ, Nat.reduceEqDiff, ↓reduceIte, Nat.reduceAdd, Int.reduceBEq, Int.reduceBNe, h1, h2, h3]; rfl) ?_)
   | refine b0 ?_
   | refine fB ?_
   | (refine Fo.pcall (v' := ?_) hn rfl (by simp only [↓nrmL, nrmZ, Nat.reduceEqDiff, ↓reduceIte, Nat.reduceAdd, Int.reduceBEq, Int.reduceBNe, h1, h2, h3, List.map]; rfl) rfl ?hv fun _ _ => ?_; case hv => (simp only [h1, h2, h3]; rfl))
   | refine bA ?_
   | (refine Fo.now rfl rfl (by simp only [↓nrmL, nrmZ, Nat.reduceEqDiff, ↓reduceIte, Nat.reduceAdd, Int.reduceBEq, Int.reduceBNe, h1, h2, h3]; rfl) ?_)
   | refine nl hKF ?_
   | refine sq ?_
   | refine rg fun KF hKF => ?_
   | refine ct rfl ?_
   | refine cf rfl ?_
   | refine sk ?_
   | refine rt ?_
   | dsimp only [cond_true, cond_false]
  refine rz trivial ?_
  exact ⟨rfl, Ext0.ext⟩
 ·skip
  repeat first
   | refine oy ?_
   | refine mI ?_
   | refine mB ?_
   | refine fd ?_
   | refine Fo.ld rfl rfl ?_
   | (refine Fo.ldN rfl rfl (by simp only [↓nrmL, nrmZ, Nat.reduceEqDiff, ↓reduceIte, Nat.reduceAdd, Int.reduceBEq, Int.reduceBNe, h1, h2, h3]; rfl) ?_)
   | refine b0 ?_
   | refine fB ?_
   | (refine Fo.pcall (v' := ?_) hn rfl (by simp only [↓nrmL, nrmZ, Nat.reduceEqDiff, ↓reduceIte, Nat.reduceAdd, Int.reduceBEq, Int.reduceBNe, h1, h2, h3, List.map]; rfl) rfl ?hv fun _ _ => ?_; case hv => (simp only [h1, h2, h3]; rfl))
   | refine bA ?_
   | (refine Fo.now rfl rfl (by simp only [↓nrmL, nrmZ, Nat.reduceEqDiff, ↓reduceIte, Nat.reduceAdd, Int.reduceBEq, Int.reduceBNe, h1, h2, h3]; rfl) ?_)
   | refine nl hKF ?_
   | refine sq ?_
   | refine rg fun KF hKF => ?_
   | refine cf rfl ?_
   | refine sk ?_
   | refine rt ?_
   | dsimp only [cond_true, cond_false]
  refine rz trivial ?_
  exact ⟨rfl, Ext0.ext⟩⟩
end Go.Am
namespace Go.Am
open Go
attribute [local irreducible] Wp WpO WpX WpE
theorem w6r {x : Int} (h1 : -9223372036854775808 ≤ x) (h2 : x < 9223372036854775808) : w6 x = x := w64r h1 h2
theorem wthn_eq (n a b : Int) : withinB n a b = decide (a ≤ n ∧ n ≤ b) := by unfold withinB; rw [Bool.decide_and]
theorem lettI_le (n : Nat) : 0 ≤ lettI n ∧ lettI n ≤ 11 := by unfold lettI; split <;> decide
theorem natI_le {s : Int} (h : 0 ≤ s) (h9 : s ≤ 69) : 0 ≤ natI s ∧ natI s ≤ 119 := by
 have := lettI_le (s % 7).toNat
 unfold natI; omega
end Go.Am
namespace Go.Am
open Go
attribute [local irreducible] Wp WpO WpX WpE
theorem natI_steps : ((List.range 70).all fun j => decide (natI ((j + 1 : Nat) : Int) = natI (j : Int) + if j % 7 = 2 ∨ j % 7 = 6 then 1 else 2)) = true := by decide +kernel
theorem natI_step {j : Nat} (h : j < 70) : natI ((j + 1 : Nat) : Int) = natI (j : Int) + if j % 7 = 2 ∨ j % 7 = 6 then 1 else 2 := of_decide_eq_true (List.all_eq_true.1 natI_steps j (List.mem_range.2 h))
instance K_Natural {s : Int} {H : AHeap} [hs : StepI s] : PureCon ext prog 66 [.int .i64 s] H 1 (.int .i64 (natI s)) := ⟨by
 refine con_of (show prog 66 = some c66 from rfl) rfl rfl fun m hn => ?_
 have h0 := hs.lo; have h9 := hs.hi
 repeat first
  | refine mI ?_
  | refine nl hKF ?_
  | refine sq ?_
  | refine rg fun KF hKF => ?_
  | refine Wp.block ?_
  | dsimp only [cond_true, cond_false]
 refine Wp.loopS [3, 4, 5, 6, 7, 8, 9, 10, 11, 12, 13, 14, 15, 16, 17, 18, 19, 20, 21] (fun j : Nat => [(3, .int .i64 (natI (j : Int))), (4, .int .i64 (j : Int))]) (fun H3 j H2 => (j : Int) ≤ s ∧ H2 = H3) (fun j => 70 - j) 0 rfl (fun _ => rfl) ⟨rfl, rfl, trivial⟩ ⟨h0, rfl⟩ (by unfold fuel0 at hn; omega) ?_
 rintro j g H2 ⟨hj, rfl⟩
 simp only [↓nrmL, nrmZ, Nat.reduceEqDiff, ↓reduceIte, Nat.reduceAdd, Int.reduceBEq, Int.reduceBNe]
 by_cases hjs : (j : Int) < s
 ·have k1 : decide ((j : Int) < s) = true := decide_eq_true hjs
  have b := natI_le (s := (j : Int)) (by omega) (by omega)
  have st := natI_step (j := j) (by omega)
  have wk : IntKind.i64.wrap ((j : Int) + 1) = ((j + 1 : Nat) : Int) := by rw [w64r (by omega) (by omega)]; omega
  have r : (j : Int).tmod 7 = ((j % 7 : Nat) : Int) := rfl
  by_cases h2 : j % 7 = 2
  ·rw [if_pos (Or.inl h2)] at st
   have q1 : (((j % 7 : Nat) : Int) == 2) = true := by rw [h2]; rfl
   have w : IntKind.i64.wrap (natI (j : Int) + 1) = natI ((j + 1 : Nat) : Int) := by rw [w64r (by omega) (by omega), st]
   repeat first
    | refine ox ?_
    | refine mI ?_
    | refine mB ?_
    | (refine bn rfl rfl rfl (by simp only [k1, r, q1, w, wk]; rfl) ?_)
    | refine tB ?_
    | refine nl hKF ?_
    | refine sq ?_
    | refine rg fun KF hKF => ?_
    | refine ct rfl ?_
    | refine sk ?_
    | refine Wp.block ?_
    | dsimp only [cond_true, cond_false]
   exact ⟨j + 1, by omega, ⟨rfl, rfl, trivial⟩, by omega, rfl⟩
  have q1 : (((j % 7 : Nat) : Int) == 2) = false := by simp; omega
  by_cases h6 : j % 7 = 6
  ·rw [if_pos (Or.inr h6)] at st
   have q2 : (((j % 7 : Nat) : Int) == 6) = true := by rw [h6]; rfl
   have w : IntKind.i64.wrap (natI (j : Int) + 1) = natI ((j + 1 : Nat) : Int) := by rw [w64r (by omega) (by omega), st]
   repeat first
    | refine oy ?_
    | refine mI ?_
    | refine mB ?_
    | (refine bn rfl rfl rfl (by simp only [k1, r, q1, q2, w, wk]; rfl) ?_)
    | refine fB ?_
    | refine nl hKF ?_
    | refine sq ?_
    | refine rg fun KF hKF => ?_
    | refine ct rfl ?_
    | refine sk ?_
    | refine Wp.block ?_
    | dsimp only [cond_true, cond_false]
   exact ⟨j + 1, by omega, ⟨rfl, rfl, trivial⟩, by omega, rfl⟩
  ·rw [if_neg (by omega)] at st
   have q2 : (((j % 7 : Nat) : Int) == 6) = false := by simp; omega
   have w : IntKind.i64.wrap (natI (j : Int) + 2) = natI ((j + 1 : Nat) : Int) := by rw [w64r (by omega) (by omega), st]
   repeat first
    | refine oy ?_
    | refine mI ?_
    | refine mB ?_
    | (refine bn rfl rfl rfl (by simp only [k1, r, q1, q2, w, wk]; rfl) ?_)
    | refine fB ?_
    | refine nl hKF ?_
    | refine sq ?_
    | refine rg fun KF hKF => ?_
    | refine ct rfl ?_
    | refine cf rfl ?_
    | refine sk ?_
    | refine Wp.block ?_
    | dsimp only [cond_true, cond_false]
   exact ⟨j + 1, by omega, ⟨rfl, rfl, trivial⟩, by omega, rfl⟩
 ·have e : (j : Int) = s := by omega
  have k1 : decide ((j : Int) < s) = false := decide_eq_false hjs
  repeat first
   | refine mI ?_
   | (refine bn rfl rfl rfl (by simp only [k1]; rfl) ?_)
   | refine nl hKF ?_
   | refine sq ?_
   | refine rg fun KF hKF => ?_
   | refine cf rfl ?_
   | refine rt ?_
   | refine xi ?_
   | dsimp only [cond_true, cond_false]
  refine rz trivial ?_
  exact ⟨by rw [e]; rfl, Ext0.ext⟩⟩
def semS (p a : Int) : Int × Int := bif pitchB p a then (w6 (natI p + a), 0) else (0, 34)
instance K_refSemitone {p a : Int} {H : AHeap} : PureCon ext prog 24 [.agg [.int .i64 p, .int .i64 a]] H 4 (.tuple [.int .i64 (semS p a).1, .int .i64 (semS p a).2]) := ⟨by
 refine con_of (show prog 24 = some c24 from rfl) rfl rfl fun m hn => ?_
 unfold semS
 cases h1 : pitchB p a
 ·skip
  repeat first
   | refine mI ?_
   | (refine Fo.ldN rfl rfl (by simp only [↓nrmL, nrmZ, Nat.reduceEqDiff, ↓reduceIte, Nat.reduceAdd, Int.reduceBEq, Int.reduceBNe, h1]; rfl) ?_)
   | (refine Fo.pcall (v' := ?_) hn rfl (by simp only [↓nrmL, nrmZ, Nat.reduceEqDiff, ↓reduceIte, Nat.reduceAdd, Int.reduceBEq, Int.reduceBNe, h1, List.map]; rfl) rfl ?hv fun _ _ => ?_; case hv => (simp only [h1]; rfl))
   | refine bA ?_
   | (refine Fo.now rfl rfl (by simp only [↓nrmL, nrmZ, Nat.reduceEqDiff, ↓reduceIte, Nat.reduceAdd, Int.reduceBEq, Int.reduceBNe, h1]; rfl) ?_)
   | refine nl hKF ?_
   | refine sq ?_
   | refine rg fun KF hKF => ?_
   | refine ct rfl ?_
   | refine rt ?_
   | dsimp only [cond_true, cond_false]
  refine rz trivial ?_
  exact ⟨rfl, Ext0.ext⟩
 haveI := pitch_step h1
 repeat first
  | refine mI ?_
  | (refine Fo.ldN rfl rfl (by simp only [↓nrmL, nrmZ, Nat.reduceEqDiff, ↓reduceIte, Nat.reduceAdd, Int.reduceBEq, Int.reduceBNe, h1]; rfl) ?_)
  | (refine Fo.pcall (v' := ?_) hn rfl (by simp only [↓nrmL, nrmZ, Nat.reduceEqDiff, ↓reduceIte, Nat.reduceAdd, Int.reduceBEq, Int.reduceBNe, h1, List.map]; rfl) rfl ?hv fun _ _ => ?_; case hv => (simp only [h1]; rfl))
  | refine bA ?_
  | (refine Fo.now rfl rfl (by simp only [↓nrmL, nrmZ, Nat.reduceEqDiff, ↓reduceIte, Nat.reduceAdd, Int.reduceBEq, Int.reduceBNe, h1]; rfl) ?_)
  | refine nl hKF ?_
  | refine sq ?_
  | refine rg fun KF hKF => ?_
  | refine cf rfl ?_
  | refine sk ?_
  | dsimp only [cond_true, cond_false]
 refine Fr.dregion0 rfl fun KF hKF => ?_
 repeat first
  | (refine Er rfl (exec_ld rfl rfl) rfl ?_)
  | (refine Fe.pure rfl rfl (by simp only [↓nrmL, nrmZ, Nat.reduceEqDiff, ↓reduceIte, Nat.reduceAdd, Int.reduceBEq, Int.reduceBNe]; rfl) ?_)
  | refine Fe.pure rfl rfl rfl ?_
  | (refine Fe.pcall (v' := ?_) rfl hn rfl (by simp only [↓nrmL, nrmZ, Nat.reduceEqDiff, ↓reduceIte, Nat.reduceAdd, Int.reduceBEq, Int.reduceBNe, List.map]; rfl) rfl ?hv fun _ _ => ar ?_; case hv => rfl)
  | refine WpE.nil (hKF _ _ ?_)
 refine rt ?_
 dsimp only [cond_true, cond_false]
 refine rz trivial ?_
 exact ⟨rfl, Ext0.ext⟩⟩
end Go.Am
namespace Go.Am
open Go
attribute [local irreducible] Wp WpO WpX WpE
def octB (p : Int) : UInt8 := UInt8.ofNat (48 + (p / 7).toNat)
theorem octB_eq {p : Int} (h : 0 ≤ p) (h9 : p ≤ 69) : IntKind.u8.wrap (48 + p / 7) = ((octB p).toNat : Int) := by
 have e : IntKind.u8.wrap (48 + p / 7) = (48 + p / 7) % 256 := by
  unfold IntKind.wrap
  simp [IntKind.signed, IntKind.bits]
 have : (octB p).toNat = (48 + (p / 7).toNat) % 256 := by unfold octB; simp
 omega
instance K_Digit {p : Int} {H : AHeap} [hs : StepI p] : PureCon ext prog 67 [.int .i64 (p / 7)] H 1 (strV [octB p]) := ⟨by
 refine con_of (show prog 67 = some c67 from rfl) rfl rfl fun m hn => ?_
 have h0 := hs.lo; have h9 := hs.hi
 have q1 : (p / 7).tmod 10 = p / 7 := by rw [Int.tmod_eq_emod_of_nonneg (by omega)]; omega
 have w1 : IntKind.i64.wrap (48 + p / 7) = 48 + p / 7 := w64r (by omega) (by omega)
 have w3 := octB_eq h0 h9
 have k1 : decide (p / 7 > 9) = false := decide_eq_false (by omega)
 repeat first
  | refine mI ?_
  | (refine mv ?_)
  | (refine bn rfl rfl rfl (by simp only [q1, w1, w3]; rfl) ?_)
  | (refine Fo.bslice rfl (by simp only [↓nrmL, nrmZ, Nat.reduceEqDiff, ↓reduceIte, Nat.reduceAdd, Int.reduceBEq, Int.reduceBNe, q1, w1, w3]; rfl) ?_)
  | (refine Fo.now rfl rfl (by simp only [q1, w1, w3]; rfl) ?_)
  | refine nl hKF ?_
  | refine sq ?_
  | refine rg fun KF hKF => ?_
 refine Fo.bts (p := .slice _ 0 1 (some 1) 1) (l := [octB p]) rfl ?_
 repeat first
  | refine mI ?_
  | (refine mv ?_)
  | (refine bn rfl rfl rfl (by simp only [k1]; rfl) ?_)
  | refine nl hKF ?_
  | refine sq ?_
  | refine rg fun KF hKF => ?_
  | refine cf rfl ?_
  | refine sk ?_
  | refine rt ?_
  | dsimp only [cond_true, cond_false]
 refine rz trivial ?_
 exact ⟨rfl, Ext0.ext⟩⟩
end Go.Am
namespace Go.Am
open Go
attribute [local irreducible] Wp WpO WpX WpE
class Dig (n : Nat) : Prop where
 lt : n < 100
def digL (n : Nat) : Bs := if n < 10 then [UInt8.ofNat (48 + n)] else [UInt8.ofNat (48 + n / 10), UInt8.ofNat (48 + n % 10)]
def qualL (p : Bool) (e : Int) : Bs := if p = true then (if e = -1 then [100] else if e = 0 then [80] else if e = 1 then [65] else []) else (if e = -2 then [100] else if e = -1 then [109] else if e = 0 then [77] else if e = 1 then [65] else [])
def perfB (s : Int) : Bool := s % 7 == 0 || s % 7 == 3 || s % 7 == 4
def downB (i s : Int) : Bool := decide (i < 0) || (i == 0 && decide (s < 0))
def upI (i s : Int) : Int := bif downB i s then -i else i
def upS (i s : Int) : Int := bif downB i s then -s else s
def titleL (i s : Int) : Bs := (bif downB i s then [45] else []) ++ qualL (perfB (upI i s)) (upS i s - natI (upI i s)) ++ digL (upI i s + 1).toNat
def titleB (i s : Int) : Bool := nearB i s && stepB (upI i s) && !(qualL (perfB (upI i s)) (upS i s - natI (upI i s))).isEmpty
def titleS (i s : Int) : Bs × Int := bif titleB i s then (titleL i s, 0) else ([], 8)
def digsB : Bs := [48, 49, 50, 51, 52, 53, 54, 55, 56, 57, 97, 98, 99, 100, 101, 102, 103, 104, 105, 106, 107, 108, 109, 110, 111, 112, 113, 114, 115, 116, 117, 118, 119, 120, 121, 122]
def smallsB : Bs := [48, 48, 48, 49, 48, 50, 48, 51, 48, 52, 48, 53, 48, 54, 48, 55, 48, 56, 48, 57, 49, 48, 49, 49, 49, 50, 49, 51, 49, 52, 49, 53, 49, 54, 49, 55, 49, 56, 49, 57, 50, 48, 50, 49, 50, 50, 50, 51, 50, 52, 50, 53, 50, 54, 50, 55, 50, 56, 50, 57, 51, 48, 51, 49, 51, 50, 51, 51, 51, 52, 51, 53, 51, 54, 51, 55, 51, 56, 51, 57, 52, 48, 52, 49, 52, 50, 52, 51, 52, 52, 52, 53, 52, 54, 52, 55, 52, 56, 52, 57, 53, 48, 53, 49, 53, 50, 53, 51, 53, 52, 53, 53, 53, 54, 53, 55, 53, 56, 53, 57, 54, 48, 54, 49, 54, 50, 54, 51, 54, 52, 54, 53, 54, 54, 54, 55, 54, 56, 54, 57, 55, 48, 55, 49, 55, 50, 55, 51, 55, 52, 55, 53, 55, 54, 55, 55, 55, 56, 55, 57, 56, 48, 56, 49, 56, 50, 56, 51, 56, 52, 56, 53, 56, 54, 56, 55, 56, 56, 56, 57, 57, 48, 57, 49, 57, 50, 57, 51, 57, 52, 57, 53, 57, 54, 57, 55, 57, 56, 57, 57]
theorem dig1 : ∀ n : Fin 10, (digsB.drop n.val).take (n.val + 1 - n.val) = digL n.val := by decide +kernel
theorem dig2 : ∀ n : Fin 100, 10 ≤ n.val → (smallsB.drop (n.val * 2)).take (n.val * 2 + 2 - n.val * 2) = digL n.val := by decide +kernel
instance K_small {n : Nat} {H : AHeap} [hd : Dig n] : PureCon ext prog 130 [.int .i64 (n : Int)] H 1 (strV (digL n)) := ⟨by
 refine con_of (show prog 130 = some c130 from rfl) rfl rfl fun m hn => ?_
 have h9 := hd.lt
 cases h : decide ((n : Int) < 10)
 ·have h1 := of_decide_eq_false h
  have w1 : IntKind.i64.wrap ((n : Int) * 2) = ((n * 2 : Nat) : Int) := by rw [w64 (by omega)]; omega
  have w2 : IntKind.i64.wrap (((n * 2 : Nat) : Int) + 2) = ((n * 2 + 2 : Nat) : Int) := by rw [w64 (by omega)]; omega
  have e := dig2 ⟨n, h9⟩ (by simp only; omega)
  simp only [h, w1, w2]
  repeat first
   | refine mI ?_
   | (refine mv ?_)
   | (refine bn rfl rfl rfl (by simp only [h, w1, w2]; rfl) ?_)
   | refine nl hKF ?_
   | refine sq ?_
   | refine rg fun KF hKF => ?_
   | refine cf rfl ?_
   | refine sk ?_
  refine Fo.slcStr (l := smallsB) (a := n * 2) (b := n * 2 + 2) rfl (Or.inr ⟨_, rfl⟩) (Or.inr ⟨_, rfl⟩) (by omega) (by show _ ≤ 200; omega) (congrArg strV e) ?_
  refine mv ?_
  refine nl hKF ?_
  refine rt ?_
  dsimp only [cond_true, cond_false]
  refine rz trivial ?_
  exact ⟨rfl, Ext0.ext⟩
 ·have h1 := of_decide_eq_true h
  have w1 : IntKind.i64.wrap ((n : Int) + 1) = ((n + 1 : Nat) : Int) := by rw [w64 (by omega)]; omega
  have e := dig1 ⟨n, by omega⟩
  simp only [h, w1]
  repeat first
   | refine mI ?_
   | (refine mv ?_)
   | (refine bn rfl rfl rfl (by simp only [h, w1]; rfl) ?_)
   | refine nl hKF ?_
   | refine sq ?_
   | refine rg fun KF hKF => ?_
   | refine ct rfl ?_
  refine Fo.slcStr (l := digsB) (a := n) (b := n + 1) rfl (Or.inr ⟨_, rfl⟩) (Or.inr ⟨_, rfl⟩) (by omega) (by show _ ≤ 36; omega) (congrArg strV e) ?_
  refine mv ?_
  refine nl hKF ?_
  refine rt ?_
  dsimp only [cond_true, cond_false]
  refine rz trivial ?_
  exact ⟨rfl, Ext0.ext⟩⟩
instance K_FormatInt {n : Nat} {H : AHeap} [hd : Dig n] : PureCon ext prog 123 [.int .i64 (n : Int), .int .i64 10] H 2 (strV (digL n)) := ⟨by
 refine con_of (show prog 123 = some c123 from rfl) rfl rfl fun m hn => ?_
 have h9 := hd.lt
 have h1 : decide ((0 : Int) ≤ (n : Int)) = true := decide_eq_true (by omega)
 have h2 : decide ((n : Int) < 100) = true := decide_eq_true (by omega)
 repeat first
  | refine oy ?_
  | refine mI ?_
  | refine mB ?_
  | (refine mv ?_)
  | (refine bn rfl rfl rfl (by simp only [h1, h2]; rfl) ?_)
  | (refine bn rfl rfl rfl (by simp only [↓nrmL, nrmZ, Nat.reduceEqDiff, ↓reduceIte, Nat.reduceAdd, Int.reduceBEq, Int.reduceBNe, h1, h2]; rfl) ?_)
  | refine tB ?_
  | (refine Fo.pcall (v' := ?_) hn rfl (by simp only [↓nrmL, nrmZ, Nat.reduceEqDiff, ↓reduceIte, Nat.reduceAdd, Int.reduceBEq, Int.reduceBNe, h1, h2, List.map]; rfl) rfl ?hv fun _ _ => ?_; case hv => rfl)
  | refine nl hKF ?_
  | refine sq ?_
  | refine rg fun KF hKF => ?_
  | refine ct rfl ?_
  | refine rt ?_
  | dsimp only [cond_true, cond_false]
 refine rz trivial ?_
 exact ⟨rfl, Ext0.ext⟩⟩
instance K_Itoa1 {n : Nat} {H : AHeap} [hd : Dig n] : PureCon ext prog 117 [.int .i64 (n : Int)] H 3 (strV (digL n)) := ⟨by
 refine con_of (show prog 117 = some c117 from rfl) rfl rfl fun m hn => ?_
 repeat first
  | refine mI ?_
  | (refine mv ?_)
  | (refine Fo.pcall (v' := ?_) hn rfl (by simp only [↓nrmL, nrmZ, Nat.reduceEqDiff, ↓reduceIte, Nat.reduceAdd, Int.reduceBEq, Int.reduceBNe, List.map]; rfl) rfl ?hv fun _ _ => ?_; case hv => rfl)
  | refine nl hKF ?_
  | refine sq ?_
  | refine rg fun KF hKF => ?_
  | refine rt ?_
  | dsimp only [cond_true, cond_false]
 refine rz trivial ?_
 exact ⟨rfl, Ext0.ext⟩⟩
instance K_Itoa {n : Nat} {H : AHeap} [hd : Dig n] : PureCon ext prog 101 [.int .i64 (n : Int)] H 4 (strV (digL n)) := ⟨by
 refine con_of (show prog 101 = some c101 from rfl) rfl rfl fun m hn => ?_
 repeat first
  | refine mI ?_
  | (refine mv ?_)
  | (refine Fo.pcall (v' := ?_) hn rfl (by simp only [↓nrmL, nrmZ, Nat.reduceEqDiff, ↓reduceIte, Nat.reduceAdd, Int.reduceBEq, Int.reduceBNe, List.map]; rfl) rfl ?hv fun _ _ => ?_; case hv => rfl)
  | refine nl hKF ?_
  | refine sq ?_
  | refine rg fun KF hKF => ?_
  | refine rt ?_
  | dsimp only [cond_true, cond_false]
 refine rz trivial ?_
 exact ⟨rfl, Ext0.ext⟩⟩
end Go.Am
namespace Go.Am
open Go
attribute [local irreducible] Wp WpO WpX WpE
class NearI (i s : Int) : Prop where
 il : -200 ≤ i
 ih : i ≤ 200
 sl : -200 ≤ s
 sh : s ≤ 200
theorem nearI_of {i s : Int} (h : nearB i s = true) : NearI i s := by
 unfold nearB withinB at h
 simp only [Bool.and_eq_true, decide_eq_true_eq] at h
 exact ⟨h.1.1, h.1.2, h.2.1, h.2.2⟩
instance K_back {i s : Int} {H : AHeap} [hb : NearI i s] : PureCon ext prog 98 [.agg [.int .i64 i, .int .i64 s]] H 1 (.agg [.int .i64 (-i), .int .i64 (-s)]) := ⟨by
 refine con_of (show prog 98 = some c98 from rfl) rfl rfl fun m hn => ?_
 have h1 := hb.il; have h2 := hb.ih; have h3 := hb.sl; have h4 := hb.sh
 have w1 : IntKind.i64.wrap (0 - i) = -i := by rw [w64r (by omega) (by omega)]; omega
 have w2 : IntKind.i64.wrap (0 - s) = -s := by rw [w64r (by omega) (by omega)]; omega
 repeat first
  | refine fd ?_
  | refine Fo.ld rfl rfl ?_
  | refine bA ?_
  | refine nw ?_
  | (refine ob (cs' := ?_) ?hc ?_; case hc => (simp only [↓nrmL, nrmZ, Nat.reduceEqDiff, ↓reduceIte, Nat.reduceAdd, Int.reduceBEq, Int.reduceBNe, w1, w2]; rfl))
  | (refine Fo.now rfl rfl (by simp only [w1, w2]; rfl) ?_)
  | (refine so rfl (rfl : _ = AVal.agg _) rfl rfl rfl (by simp only [↓nrmL, nrmZ, Nat.reduceEqDiff, ↓reduceIte, Nat.reduceAdd, Int.reduceBEq, Int.reduceBNe, w1, w2]; rfl) ?_)
  | refine nl hKF ?_
  | refine sq ?_
  | refine rg fun KF hKF => ?_
  | refine rt ?_
  | dsimp only [cond_true, cond_false]
 refine rz trivial ?_
 exact ⟨rfl, Ext0.ext⟩⟩
theorem nat_le {j : Int} (h0 : 0 ≤ j) (h9 : j ≤ 69) : 0 ≤ natI j ∧ natI j ≤ 119 := by
 unfold natI
 rcases (show j % 7 = 0 ∨ j % 7 = 1 ∨ j % 7 = 2 ∨ j % 7 = 3 ∨ j % 7 = 4 ∨ j % 7 = 5 ∨ j % 7 = 6 by omega) with h | h | h | h | h | h | h <;> rw [h] <;> simp only [lettI, show (0 : Int).toNat = 0 from rfl, show (1 : Int).toNat = 1 from rfl, show (2 : Int).toNat = 2 from rfl, show (3 : Int).toNat = 3 from rfl, show (4 : Int).toNat = 4 from rfl, show (5 : Int).toNat = 5 from rfl, show (6 : Int).toNat = 6 from rfl] <;> omega
instance K_width {j t : Int} {H : AHeap} [hj : StepI j] [ht : NearI j t] : PureCon ext prog 100 [.agg [.int .i64 j, .int .i64 t]] H 2 (.agg [.bool (perfB j), .int .i64 (t - natI j)]) := ⟨by
 refine con_of (show prog 100 = some c100 from rfl) rfl rfl fun m hn => ?_
 have h0 := hj.lo; have h9 := hj.hi
 have h3 := ht.sl; have h4 := ht.sh
 obtain ⟨n0, n1⟩ := nat_le h0 h9
 have q2 : j.tmod 7 = j % 7 := Int.tmod_eq_emod_of_nonneg h0
 have w1 : IntKind.i64.wrap (t - natI j) = t - natI j := w64r (by omega) (by omega)
 have e : perfB j = ((j % 7 == 0) || (j % 7 == 3) || (j % 7 == 4)) := rfl
 cases a1 : (j % 7 == 0)
 ·cases a2 : (j % 7 == 3)
  ·cases a3 : (j % 7 == 4)
   ·skip
    repeat first
     | refine mI ?_
     | refine fd ?_
     | refine Fo.ld rfl rfl ?_
     | (refine bn rfl rfl rfl (by simp only [q2]; rfl) ?_)
     | refine bA ?_
     | refine nw ?_
     | refine nl hKF ?_
     | refine sq ?_
     | refine rg fun KF hKF => ?_
    refine Fr.dregion0 rfl fun KF hKF => ?_
    simp only [↓nrmL, nrmZ, Nat.reduceEqDiff, ↓reduceIte, Nat.reduceAdd, Int.reduceBEq, Int.reduceBNe, q2, a1, a2, a3, w1]
    repeat first
     | (refine Er rfl (exec_ld rfl rfl) rfl ?_)
     | (refine Fe.pure rfl rfl (by simp only [q2, a1, a2, a3, w1]; rfl) ?_)
     | (refine Fe.pure rfl rfl (by simp only [↓nrmL, nrmZ, Nat.reduceEqDiff, ↓reduceIte, Nat.reduceAdd, Int.reduceBEq, Int.reduceBNe, q2, a1, a2, a3, w1]; rfl) ?_)
     | (refine Ee rfl (xs rfl (by (try simp only [q2, a1, a2, a3, w1]); rfl) rfl rfl rfl (by (try simp only [q2, a1, a2, a3, w1]); rfl)) ?_)
     | (refine Fe.pcall (v' := ?_) rfl hn rfl (by simp only [↓nrmL, nrmZ, Nat.reduceEqDiff, ↓reduceIte, Nat.reduceAdd, Int.reduceBEq, Int.reduceBNe, q2, a1, a2, a3, w1, List.map]; rfl) rfl ?hv fun _ _ => ar ?_; case hv => rfl)
     | refine WpE.nil (hKF _ _ ?_)
    refine rt ?_
    dsimp only [cond_true, cond_false]
    refine rz trivial ?_
    exact ⟨by rw [e, a1, a2, a3]; rfl, Ext0.ext⟩
   ·skip
    repeat first
     | refine mI ?_
     | refine fd ?_
     | refine Fo.ld rfl rfl ?_
     | (refine bn rfl rfl rfl (by simp only [q2]; rfl) ?_)
     | refine bA ?_
     | refine nw ?_
     | refine nl hKF ?_
     | refine sq ?_
     | refine rg fun KF hKF => ?_
    refine Fr.dregion0 rfl fun KF hKF => ?_
    simp only [↓nrmL, nrmZ, Nat.reduceEqDiff, ↓reduceIte, Nat.reduceAdd, Int.reduceBEq, Int.reduceBNe, q2, a1, a2, a3, w1]
    repeat first
     | (refine Er rfl (exec_ld rfl rfl) rfl ?_)
     | (refine Fe.pure rfl rfl (by simp only [q2, a1, a2, a3, w1]; rfl) ?_)
     | (refine Fe.pure rfl rfl (by simp only [↓nrmL, nrmZ, Nat.reduceEqDiff, ↓reduceIte, Nat.reduceAdd, Int.reduceBEq, Int.reduceBNe, q2, a1, a2, a3, w1]; rfl) ?_)
     | (refine Ee rfl (xs rfl (by (try simp only [q2, a1, a2, a3, w1]); rfl) rfl rfl rfl (by (try simp only [q2, a1, a2, a3, w1]); rfl)) ?_)
     | (refine Fe.pcall (v' := ?_) rfl hn rfl (by simp only [↓nrmL, nrmZ, Nat.reduceEqDiff, ↓reduceIte, Nat.reduceAdd, Int.reduceBEq, Int.reduceBNe, q2, a1, a2, a3, w1, List.map]; rfl) rfl ?hv fun _ _ => ar ?_; case hv => rfl)
     | refine WpE.nil (hKF _ _ ?_)
    refine rt ?_
    dsimp only [cond_true, cond_false]
    refine rz trivial ?_
    exact ⟨by rw [e, a1, a2, a3]; rfl, Ext0.ext⟩
  ·skip
   repeat first
    | refine mI ?_
    | refine fd ?_
    | refine Fo.ld rfl rfl ?_
    | (refine bn rfl rfl rfl (by simp only [q2]; rfl) ?_)
    | refine bA ?_
    | refine nw ?_
    | refine nl hKF ?_
    | refine sq ?_
    | refine rg fun KF hKF => ?_
   refine Fr.dregion0 rfl fun KF hKF => ?_
   simp only [↓nrmL, nrmZ, Nat.reduceEqDiff, ↓reduceIte, Nat.reduceAdd, Int.reduceBEq, Int.reduceBNe, q2, a1, a2, w1]
   repeat first
    | (refine Er rfl (exec_ld rfl rfl) rfl ?_)
    | (refine Fe.pure rfl rfl (by simp only [q2, a1, a2, w1]; rfl) ?_)
    | (refine Fe.pure rfl rfl (by simp only [↓nrmL, nrmZ, Nat.reduceEqDiff, ↓reduceIte, Nat.reduceAdd, Int.reduceBEq, Int.reduceBNe, q2, a1, a2, w1]; rfl) ?_)
    | (refine Ee rfl (xs rfl (by (try simp only [q2, a1, a2, w1]); rfl) rfl rfl rfl (by (try simp only [q2, a1, a2, w1]); rfl)) ?_)
    | (refine Fe.pcall (v' := ?_) rfl hn rfl (by simp only [↓nrmL, nrmZ, Nat.reduceEqDiff, ↓reduceIte, Nat.reduceAdd, Int.reduceBEq, Int.reduceBNe, q2, a1, a2, w1, List.map]; rfl) rfl ?hv fun _ _ => ar ?_; case hv => rfl)
    | refine Fe.skip rfl ?_
    | refine WpE.nil (hKF _ _ ?_)
   refine rt ?_
   dsimp only [cond_true, cond_false]
   refine rz trivial ?_
   exact ⟨by rw [e, a1, a2]; rfl, Ext0.ext⟩
 ·skip
  repeat first
   | refine mI ?_
   | refine fd ?_
   | refine Fo.ld rfl rfl ?_
   | (refine bn rfl rfl rfl (by simp only [q2]; rfl) ?_)
   | refine bA ?_
   | refine nw ?_
   | refine nl hKF ?_
   | refine sq ?_
   | refine rg fun KF hKF => ?_
  refine Fr.dregion0 rfl fun KF hKF => ?_
  simp only [↓nrmL, nrmZ, Nat.reduceEqDiff, ↓reduceIte, Nat.reduceAdd, Int.reduceBEq, Int.reduceBNe, q2, a1, w1]
  repeat first
   | (refine Er rfl (exec_ld rfl rfl) rfl ?_)
   | (refine Fe.pure rfl rfl (by simp only [q2, a1, w1]; rfl) ?_)
   | (refine Fe.pure rfl rfl (by simp only [↓nrmL, nrmZ, Nat.reduceEqDiff, ↓reduceIte, Nat.reduceAdd, Int.reduceBEq, Int.reduceBNe, q2, a1, w1]; rfl) ?_)
   | (refine Ee rfl (xs rfl (by (try simp only [q2, a1, w1]); rfl) rfl rfl rfl (by (try simp only [q2, a1, w1]); rfl)) ?_)
   | (refine Fe.pcall (v' := ?_) rfl hn rfl (by simp only [↓nrmL, nrmZ, Nat.reduceEqDiff, ↓reduceIte, Nat.reduceAdd, Int.reduceBEq, Int.reduceBNe, q2, a1, w1, List.map]; rfl) rfl ?hv fun _ _ => ar ?_; case hv => rfl)
   | refine Fe.skip rfl ?_
   | refine WpE.nil (hKF _ _ ?_)
  refine rt ?_
  dsimp only [cond_true, cond_false]
  refine rz trivial ?_
  exact ⟨by rw [e, a1]; rfl, Ext0.ext⟩⟩
def qEs : List (AVal × AVal) := [(.agg [.bool true, .int .i64 (-1)], strV [100]), (.agg [.bool true, .int .i64 0], strV [80]), (.agg [.bool true, .int .i64 1], strV [65]), (.agg [.bool false, .int .i64 (-2)], strV [100]), (.agg [.bool false, .int .i64 (-1)], strV [109]), (.agg [.bool false, .int .i64 0], strV [77]), (.agg [.bool false, .int .i64 1], strV [65])]
theorem K_qualities {H : AHeap} : Con ext prog 1 99 [] H fun v H' => ∃ r, v = .map r ∧ r < H'.n ∧ H'.get r = .mapo qEs ∧ Ext H H' := by
 refine con_of (show prog 99 = some c99 from rfl) rfl rfl fun m hn => ?_
 repeat first
  | refine mA ?_
  | (refine mv ?_)
  | refine Fo.now rfl rfl rfl ?_
  | refine nl hKF ?_
  | refine sq ?_
  | refine rg fun KF hKF => ?_
  | refine rt ?_
  | dsimp only [cond_true, cond_false]
 refine rz trivial ?_
 refine ⟨H.n, rfl, Nat.lt_succ_self _, push_get_eq, (Ext.refl H).push _⟩
theorem look_q (p : Bool) (e : Int) : aFind (.fields [some (0, 0, .bool), some (1, 0, .int)]) (.agg [.bool p, .int .i64 e]) qEs = some (bif (qualL p e).isEmpty then none else some (strV (qualL p e))) := by
 have hb : ∀ (a b : Bool) (x y : Int), aEq (.fields [some (0, 0, .bool), some (1, 0, .int)]) (.agg [.bool a, .int .i64 x]) (.agg [.bool b, .int .i64 y]) = some (bif a == b then x == y else false) := fun a b x y => by
  simp only [aEq, aEqs, aPart, if_true, List.getElem?_cons_zero, List.getElem?_cons_succ]
  cases a == b
  ·rfl
  ·simp only [cond_true]
   cases x == y <;> rfl
 unfold qEs
 simp only [aFind, hb]
 by_cases h2 : e = -2
 ·subst h2; cases p <;> rfl
 by_cases h3 : e = -1
 ·subst h3; cases p <;> rfl
 by_cases h4 : e = 0
 ·subst h4; cases p <;> rfl
 by_cases h5 : e = 1
 ·subst h5; cases p <;> rfl
 have a2 : (e == -2) = false := by simp [h2]
 have a3 : (e == -1) = false := by simp [h3]
 have a4 : (e == 0) = false := by simp [h4]
 have a5 : (e == 1) = false := by simp [h5]
 have hq : qualL p e = [] := by unfold qualL; simp [h2, h3, h4, h5]
 rw [hq, a2, a3, a4, a5]
 cases p <;> rfl
end Go.Am
namespace Go.Am
open Go
attribute [local irreducible] Wp WpO WpX WpE
theorem exec_lookup {call : ACall} {fr : AFrame} {H : AHeap} {d : EqDesc} {z kv : AVal} {ok : Bool} {x k : ROpd} {r : Nat} {es : List (AVal × AVal)} {f : Option AVal} (hx : x.ev fr = .map r) (hk : k.ev fr = kv) (hr : r < H.n) (hg : H.get r = .mapo es) (hs : aEq d kv kv = some true) (hf : aFind d kv es = some f) : (ROp.lookup d z ok x k).exec call fr H = some (aFound z ok f, H) := by
 have hr' : Nat.blt r H.n = true := by simpa using hr
 simp only [ROp.exec, hx, hk, aLookup, hr', hs, hg, hf]
theorem q_len (p : Bool) (e : Int) : (qualL p e).length ≤ 1 := by
 unfold qualL
 repeat' split
 all_goals decide
theorem dig_len (n : Nat) : (digL n).length ≤ 2 := by
 unfold digL
 split
 ·exact Nat.le_succ 1
 ·exact Nat.le_refl 2
theorem down_i {i s : Int} (h : decide (i < 0) = true) : downB i s = true := by unfold downB; rw [h]; rfl
theorem down_s {i s : Int} (h1 : decide (i < 0) = false) (h2 : (i == 0) = true) : downB i s = decide (s < 0) := by unfold downB; rw [h1, h2]; rfl
theorem down_n {i s : Int} (h1 : decide (i < 0) = false) (h2 : (i == 0) = false) : downB i s = false := by unfold downB; rw [h1, h2]; rfl
theorem aEq_q (p : Bool) (e : Int) : aEq (.fields [some (0, 0, .bool), some (1, 0, .int)]) (.agg [.bool p, .int .i64 e]) (.agg [.bool p, .int .i64 e]) = some true := by
 simp only [aEq, aEqs, aPart, if_true, List.getElem?_cons_zero, List.getElem?_cons_succ, beq_self_eq_true]
instance K_Title {i s : Int} {H : AHeap} : PureCon ext prog 49 [.agg [.int .i64 i, .int .i64 s]] H 5 (.tuple [strV (titleS i s).1, .int .i64 (titleS i s).2]) := ⟨by
 refine con_of (show prog 49 = some c49 from rfl) rfl rfl fun m hn => ?_
 cases h1 : nearB i s
 ·have hT : titleS i s = ([], 8) := by unfold titleS titleB; rw [h1]; rfl
  repeat first
   | refine Fo.mov (rfl : _ = strV _) ?_
   | (refine mv ?_)
   | (refine Fo.ldN rfl rfl (by simp only [↓nrmL, nrmZ, Nat.reduceEqDiff, ↓reduceIte, Nat.reduceAdd, Int.reduceBEq, Int.reduceBNe, h1]; rfl) ?_)
   | (refine Fo.pcall (v' := ?_) hn rfl (by simp only [↓nrmL, nrmZ, Nat.reduceEqDiff, ↓reduceIte, Nat.reduceAdd, Int.reduceBEq, Int.reduceBNe, h1, List.map]; rfl) rfl ?hv fun _ _ => ?_; case hv => (simp only [h1]; rfl))
   | refine bA ?_
   | (refine Fo.now rfl rfl (by simp only [↓nrmL, nrmZ, Nat.reduceEqDiff, ↓reduceIte, Nat.reduceAdd, Int.reduceBEq, Int.reduceBNe, h1]; rfl) ?_)
   | refine nl hKF ?_
   | refine sq ?_
   | refine rg fun KF hKF => ?_
   | refine ct rfl ?_
   | refine rt ?_
   | dsimp only [cond_true, cond_false]
  refine rz trivial ?_
  exact ⟨by rw [hT]; rfl, Ext0.ext⟩
 haveI hni := nearI_of h1
 have a1 := hni.il; have a2 := hni.ih; have a3 := hni.sl; have a4 := hni.sh
 have hT : ∀ sg, downB i s = sg → titleS i s = bif stepB (bif sg then -i else i) && !(qualL (perfB (bif sg then -i else i)) ((bif sg then -s else s) - natI (bif sg then -i else i))).isEmpty then ((bif sg then [45] else []) ++ qualL (perfB (bif sg then -i else i)) ((bif sg then -s else s) - natI (bif sg then -i else i)) ++ digL ((bif sg then -i else i) + 1).toNat, 0) else ([], 8) := by
  intro sg e
  unfold titleS titleB titleL upI upS
  rw [h1, e, Bool.true_and]
 cases d1 : decide (i < 0)
 rotate_left
 ·have hi := of_decide_eq_true d1
  have hsg := down_i (s := s) d1
  have hT := hT true hsg
  simp only [cond_true] at hT
  cases hb : stepB (-i)
  ·rw [hb] at hT
   repeat first
    | refine Fo.mov (rfl : _ = strV _) ?_
    | (refine mv ?_)
    | refine ox ?_
    | refine Fo.noU rfl ?_
    | refine fd ?_
    | refine Fo.ld rfl rfl ?_
    | (refine Fo.ldN rfl rfl (by simp only [↓nrmL, nrmZ, Nat.reduceEqDiff, ↓reduceIte, Nat.reduceAdd, Int.reduceBEq, Int.reduceBNe, h1, d1, hb]; rfl) ?_)
    | (refine bn rfl rfl rfl (by simp only [h1, d1, hb]; rfl) ?_)
    | refine tB ?_
    | (refine Fo.pcall (v' := ?_) hn rfl (by simp only [↓nrmL, nrmZ, Nat.reduceEqDiff, ↓reduceIte, Nat.reduceAdd, Int.reduceBEq, Int.reduceBNe, h1, d1, hb, List.map]; rfl) rfl ?hv fun _ _ => ?_; case hv => (simp only [h1, d1, hb]; rfl))
    | (refine Fo.pcall (v' := ?_) hn rfl (by simp only [↓nrmL, nrmZ, Nat.reduceEqDiff, ↓reduceIte, Nat.reduceAdd, Int.reduceBEq, Int.reduceBNe, h1, d1, hb, List.map]; rfl) rfl ?hv fun _ _ => ?_; case hv => rfl)
    | refine bA ?_
    | (refine Fo.now rfl rfl (by simp only [↓nrmL, nrmZ, Nat.reduceEqDiff, ↓reduceIte, Nat.reduceAdd, Int.reduceBEq, Int.reduceBNe, h1, d1, hb]; rfl) ?_)
    | (refine so rfl (rfl : _ = AVal.agg _) rfl rfl rfl (by simp only [↓nrmL, nrmZ, Nat.reduceEqDiff, ↓reduceIte, Nat.reduceAdd, Int.reduceBEq, Int.reduceBNe, h1, d1, hb]; rfl) ?_)
    | refine nl hKF ?_
    | refine sq ?_
    | refine rg fun KF hKF => ?_
    | refine ct rfl ?_
    | refine cf rfl ?_
    | refine sk ?_
    | refine rt ?_
    | dsimp only [cond_true, cond_false]
   refine rz trivial ?_
   exact ⟨by rw [hT]; rfl, Ext0.ext⟩
  rw [hb, Bool.true_and] at hT
  haveI hsi := stepI_of hb
  have yb0 := hsi.lo; have b9 := hsi.hi
  haveI : NearI (-i) (-s) := ⟨by omega, by omega, by omega, by omega⟩
  have hl := look_q (perfB (-i)) ((-s) - natI (-i))
  have hql := q_len (perfB (-i)) ((-s) - natI (-i))
  obtain ⟨q, hq⟩ : ∃ q, qualL (perfB (-i)) ((-s) - natI (-i)) = q := ⟨_, rfl⟩
  rw [hq] at hl hT hql
  haveI : Dig ((-i) + 1).toNat := ⟨by omega⟩
  have w1 : IntKind.i64.wrap ((-i) + 1) = ((((-i) + 1).toNat : Nat) : Int) := by rw [w64r (by omega) (by omega)]; omega
  repeat first
   | refine Fo.mov (rfl : _ = strV _) ?_
   | (refine mv ?_)
   | refine ox ?_
   | refine Fo.noU rfl ?_
   | refine fd ?_
   | refine Fo.ld rfl rfl ?_
   | (refine Fo.ldN rfl rfl (by simp only [↓nrmL, nrmZ, Nat.reduceEqDiff, ↓reduceIte, Nat.reduceAdd, Int.reduceBEq, Int.reduceBNe, h1, d1, hb]; rfl) ?_)
   | (refine bn rfl rfl rfl (by simp only [h1, d1, hb]; rfl) ?_)
   | refine tB ?_
   | (refine Fo.pcall (v' := ?_) hn rfl (by simp only [↓nrmL, nrmZ, Nat.reduceEqDiff, ↓reduceIte, Nat.reduceAdd, Int.reduceBEq, Int.reduceBNe, h1, d1, hb, List.map]; rfl) rfl ?hv fun _ _ => ?_; case hv => (simp only [h1, d1, hb]; rfl))
   | (refine Fo.pcall (v' := ?_) hn rfl (by simp only [↓nrmL, nrmZ, Nat.reduceEqDiff, ↓reduceIte, Nat.reduceAdd, Int.reduceBEq, Int.reduceBNe, h1, d1, hb, List.map]; rfl) rfl ?hv fun _ _ => ?_; case hv => rfl)
   | refine bA ?_
   | (refine Fo.now rfl rfl (by simp only [↓nrmL, nrmZ, Nat.reduceEqDiff, ↓reduceIte, Nat.reduceAdd, Int.reduceBEq, Int.reduceBNe, h1, d1, hb]; rfl) ?_)
   | (refine so rfl (rfl : _ = AVal.agg _) rfl rfl rfl (by simp only [↓nrmL, nrmZ, Nat.reduceEqDiff, ↓reduceIte, Nat.reduceAdd, Int.reduceBEq, Int.reduceBNe, h1, d1, hb]; rfl) ?_)
   | refine nl hKF ?_
   | refine sq ?_
   | refine rg fun KF hKF => ?_
   | refine ct rfl ?_
   | refine cf rfl ?_
   | refine sk ?_
  refine Fr.dregion0 rfl fun KF hKF => ?_
  skip
  refine Fe.con rfl hn rfl rfl (by simp only [↓nrmL, nrmZ, Nat.reduceEqDiff, ↓reduceIte, Nat.reduceAdd, Int.reduceBEq, Int.reduceBNe, List.map] <;> rfl) K_qualities fun v H1 h5 => ?_
  obtain ⟨r, rfl, hr, hg, hx⟩ := h5
  haveI : ExtI _ H1 := ⟨hx⟩
  refine ar ?_
  refine Er rfl (exec_ldN rfl rfl (by simp only [↓nrmL, nrmZ, Nat.reduceEqDiff, ↓reduceIte, Nat.reduceAdd, Int.reduceBEq, Int.reduceBNe]; rfl)) rfl ?_
  refine Fe.pcall (v' := ?_) rfl hn rfl (by simp only [↓nrmL, nrmZ, Nat.reduceEqDiff, ↓reduceIte, Nat.reduceAdd, Int.reduceBEq, Int.reduceBNe, List.map]; rfl) rfl ?hv fun _ _ => ar ?_; case hv => rfl
  cases q with
  | nil =>
   replace hl : aFind (.fields [some (0, 0, .bool), some (1, 0, .int)]) (.agg [.bool (perfB (-i)), .int .i64 ((-s) - natI (-i))]) qEs = some none := hl
   refine Fe.read rfl (exec_lookup (kv := .agg [.bool (perfB (-i)), .int .i64 ((-s) - natI (-i))]) (r := r) (es := qEs) (f := none) rfl rfl (Nat.lt_of_lt_of_le hr (Ext0.ext : Ext H1 _).n) (((Ext0.ext : Ext H1 _).get r hr).trans hg) (aEq_q _ _) hl) rfl (by repeat (first | exact trivial | refine ⟨Or.inl (by dsimp only; decide), ?_⟩)) ?_
   simp only [aFound, Option.getD_none, Option.isSome_none]
   repeat first
    | (refine Fe.pure rfl rfl (by simp only [↓nrmL, nrmZ, Nat.reduceEqDiff, ↓reduceIte, Nat.reduceAdd, Int.reduceBEq, Int.reduceBNe]; rfl) ?_)
    | refine Fe.pure rfl rfl rfl ?_
    | refine WpE.nil (hKF _ _ ?_)
   repeat first
    | refine Fo.mov (rfl : _ = strV _) ?_
    | (refine mv ?_)
    | (refine Fo.now rfl rfl (by simp only [↓nrmL, nrmZ, Nat.reduceEqDiff, ↓reduceIte, Nat.reduceAdd, Int.reduceBEq, Int.reduceBNe]; rfl) ?_)
    | refine nl hKF ?_
    | refine sq ?_
    | refine rg fun KF hKF => ?_
    | refine ct rfl ?_
    | refine rt ?_
    | dsimp only [cond_true, cond_false]
   refine rz trivial ?_
   exact ⟨by rw [hT]; rfl, Ext0.ext⟩
  | cons c q =>
   replace hl : aFind (.fields [some (0, 0, .bool), some (1, 0, .int)]) (.agg [.bool (perfB (-i)), .int .i64 ((-s) - natI (-i))]) qEs = some (some (strV (c :: q))) := hl
   refine Fe.read rfl (exec_lookup (kv := .agg [.bool (perfB (-i)), .int .i64 ((-s) - natI (-i))]) (r := r) (es := qEs) (f := some (strV (c :: q))) rfl rfl (Nat.lt_of_lt_of_le hr (Ext0.ext : Ext H1 _).n) (((Ext0.ext : Ext H1 _).get r hr).trans hg) (aEq_q _ _) hl) rfl (by repeat (first | exact trivial | refine ⟨Or.inl (by dsimp only; decide), ?_⟩)) ?_
   simp only [aFound, Option.getD_some, Option.isSome_some]
   repeat first
    | (refine Fe.pure rfl rfl (by simp only [↓nrmL, nrmZ, Nat.reduceEqDiff, ↓reduceIte, Nat.reduceAdd, Int.reduceBEq, Int.reduceBNe]; rfl) ?_)
    | refine Fe.pure rfl rfl rfl ?_
    | refine WpE.nil (hKF _ _ ?_)
   repeat first
    | refine Fo.mov (rfl : _ = strV _) ?_
    | (refine mv ?_)
    | (refine Fo.now rfl rfl (by simp only [↓nrmL, nrmZ, Nat.reduceEqDiff, ↓reduceIte, Nat.reduceAdd, Int.reduceBEq, Int.reduceBNe]; rfl) ?_)
    | refine nl hKF ?_
    | refine sq ?_
    | refine rg fun KF hKF => ?_
    | refine cf rfl ?_
    | refine sk ?_
   refine Fo.addStr (a := [45]) (b := c :: q) rfl rfl (by simp only [List.length_cons] at hql ⊢; simp; omega) rfl ?_
   simp only [↓nrmL, nrmZ, Nat.reduceEqDiff, ↓reduceIte, Nat.reduceAdd, Int.reduceBEq, Int.reduceBNe, w1]
   refine fd ?_
   refine Fo.ld rfl rfl ?_
   refine bn rfl rfl rfl (by simp only [w1]; rfl) ?_
   refine Fo.pcall (v' := ?_) hn rfl (by simp only [↓nrmL, nrmZ, Nat.reduceEqDiff, ↓reduceIte, Nat.reduceAdd, Int.reduceBEq, Int.reduceBNe, w1, List.map]; rfl) rfl ?hv fun _ _ => ?_; case hv => rfl
   refine Fo.addStr (a := [45] ++ c :: q) (b := digL ((-i) + 1).toNat) rfl rfl (by have := dig_len ((-i) + 1).toNat; simp only [List.length_cons, List.length_append] at hql ⊢; simp; omega) rfl ?_
   refine Fo.mov (rfl : _ = strV _) ?_
   refine mv ?_
   refine nl hKF ?_
   refine rt ?_
   dsimp only [cond_true, cond_false]
   refine rz trivial ?_
   exact ⟨by rw [hT]; rfl, Ext0.ext⟩
 have hi := of_decide_eq_false d1
 cases d2 : (i == 0)
 ·have hsg := down_n (s := s) d1 d2
  have hT := hT false hsg
  simp only [cond_false] at hT
  cases hb : stepB i
  ·rw [hb] at hT
   repeat first
    | refine Fo.mov (rfl : _ = strV _) ?_
    | (refine mv ?_)
    | refine oy ?_
    | refine ox ?_
    | refine fd ?_
    | refine Fo.ld rfl rfl ?_
    | (refine Fo.ldN rfl rfl (by simp only [↓nrmL, nrmZ, Nat.reduceEqDiff, ↓reduceIte, Nat.reduceAdd, Int.reduceBEq, Int.reduceBNe, h1, d1, d2, hb]; rfl) ?_)
    | (refine bn rfl rfl rfl (by simp only [h1, d1, d2, hb]; rfl) ?_)
    | refine fB ?_
    | (refine Fo.pcall (v' := ?_) hn rfl (by simp only [↓nrmL, nrmZ, Nat.reduceEqDiff, ↓reduceIte, Nat.reduceAdd, Int.reduceBEq, Int.reduceBNe, h1, d1, d2, hb, List.map]; rfl) rfl ?hv fun _ _ => ?_; case hv => (simp only [h1, d1, d2, hb]; rfl))
    | refine bA ?_
    | (refine Fo.now rfl rfl (by simp only [↓nrmL, nrmZ, Nat.reduceEqDiff, ↓reduceIte, Nat.reduceAdd, Int.reduceBEq, Int.reduceBNe, h1, d1, d2, hb]; rfl) ?_)
    | refine nl hKF ?_
    | refine sq ?_
    | refine rg fun KF hKF => ?_
    | refine ct rfl ?_
    | refine cf rfl ?_
    | refine sk ?_
    | refine rt ?_
    | dsimp only [cond_true, cond_false]
   refine rz trivial ?_
   exact ⟨by rw [hT]; rfl, Ext0.ext⟩
  rw [hb, Bool.true_and] at hT
  haveI hsi := stepI_of hb
  have yb0 := hsi.lo; have b9 := hsi.hi
  haveI : NearI i s := ⟨by omega, by omega, by omega, by omega⟩
  have hl := look_q (perfB i) (s - natI i)
  have hql := q_len (perfB i) (s - natI i)
  obtain ⟨q, hq⟩ : ∃ q, qualL (perfB i) (s - natI i) = q := ⟨_, rfl⟩
  rw [hq] at hl hT hql
  haveI : Dig (i + 1).toNat := ⟨by omega⟩
  have w1 : IntKind.i64.wrap (i + 1) = (((i + 1).toNat : Nat) : Int) := by rw [w64r (by omega) (by omega)]; omega
  repeat first
   | refine Fo.mov (rfl : _ = strV _) ?_
   | (refine mv ?_)
   | refine oy ?_
   | refine ox ?_
   | refine fd ?_
   | refine Fo.ld rfl rfl ?_
   | (refine Fo.ldN rfl rfl (by simp only [↓nrmL, nrmZ, Nat.reduceEqDiff, ↓reduceIte, Nat.reduceAdd, Int.reduceBEq, Int.reduceBNe, h1, d1, d2, hb]; rfl) ?_)
   | (refine bn rfl rfl rfl (by simp only [h1, d1, d2, hb]; rfl) ?_)
   | refine fB ?_
   | (refine Fo.pcall (v' := ?_) hn rfl (by simp only [↓nrmL, nrmZ, Nat.reduceEqDiff, ↓reduceIte, Nat.reduceAdd, Int.reduceBEq, Int.reduceBNe, h1, d1, d2, hb, List.map]; rfl) rfl ?hv fun _ _ => ?_; case hv => (simp only [h1, d1, d2, hb]; rfl))
   | refine bA ?_
   | (refine Fo.now rfl rfl (by simp only [↓nrmL, nrmZ, Nat.reduceEqDiff, ↓reduceIte, Nat.reduceAdd, Int.reduceBEq, Int.reduceBNe, h1, d1, d2, hb]; rfl) ?_)
   | refine nl hKF ?_
   | refine sq ?_
   | refine rg fun KF hKF => ?_
   | refine cf rfl ?_
   | refine sk ?_
  refine Fr.dregion0 rfl fun KF hKF => ?_
  skip
  refine Fe.con rfl hn rfl rfl (by simp only [↓nrmL, nrmZ, Nat.reduceEqDiff, ↓reduceIte, Nat.reduceAdd, Int.reduceBEq, Int.reduceBNe, List.map] <;> rfl) K_qualities fun v H1 h5 => ?_
  obtain ⟨r, rfl, hr, hg, hx⟩ := h5
  haveI : ExtI _ H1 := ⟨hx⟩
  refine ar ?_
  refine Er rfl (exec_ldN rfl rfl (by simp only [↓nrmL, nrmZ, Nat.reduceEqDiff, ↓reduceIte, Nat.reduceAdd, Int.reduceBEq, Int.reduceBNe]; rfl)) rfl ?_
  refine Fe.pcall (v' := ?_) rfl hn rfl (by simp only [↓nrmL, nrmZ, Nat.reduceEqDiff, ↓reduceIte, Nat.reduceAdd, Int.reduceBEq, Int.reduceBNe, List.map]; rfl) rfl ?hv fun _ _ => ar ?_; case hv => rfl
  cases q with
  | nil =>
   replace hl : aFind (.fields [some (0, 0, .bool), some (1, 0, .int)]) (.agg [.bool (perfB i), .int .i64 (s - natI i)]) qEs = some none := hl
   refine Fe.read rfl (exec_lookup (kv := .agg [.bool (perfB i), .int .i64 (s - natI i)]) (r := r) (es := qEs) (f := none) rfl rfl (Nat.lt_of_lt_of_le hr (Ext0.ext : Ext H1 _).n) (((Ext0.ext : Ext H1 _).get r hr).trans hg) (aEq_q _ _) hl) rfl (by repeat (first | exact trivial | refine ⟨Or.inl (by dsimp only; decide), ?_⟩)) ?_
   simp only [aFound, Option.getD_none, Option.isSome_none]
   repeat first
    | (refine Fe.pure rfl rfl (by simp only [↓nrmL, nrmZ, Nat.reduceEqDiff, ↓reduceIte, Nat.reduceAdd, Int.reduceBEq, Int.reduceBNe]; rfl) ?_)
    | refine Fe.pure rfl rfl rfl ?_
    | refine WpE.nil (hKF _ _ ?_)
   repeat first
    | refine Fo.mov (rfl : _ = strV _) ?_
    | (refine mv ?_)
    | (refine Fo.now rfl rfl (by simp only [↓nrmL, nrmZ, Nat.reduceEqDiff, ↓reduceIte, Nat.reduceAdd, Int.reduceBEq, Int.reduceBNe]; rfl) ?_)
    | refine nl hKF ?_
    | refine sq ?_
    | refine rg fun KF hKF => ?_
    | refine ct rfl ?_
    | refine rt ?_
    | dsimp only [cond_true, cond_false]
   refine rz trivial ?_
   exact ⟨by rw [hT]; rfl, Ext0.ext⟩
  | cons c q =>
   replace hl : aFind (.fields [some (0, 0, .bool), some (1, 0, .int)]) (.agg [.bool (perfB i), .int .i64 (s - natI i)]) qEs = some (some (strV (c :: q))) := hl
   refine Fe.read rfl (exec_lookup (kv := .agg [.bool (perfB i), .int .i64 (s - natI i)]) (r := r) (es := qEs) (f := some (strV (c :: q))) rfl rfl (Nat.lt_of_lt_of_le hr (Ext0.ext : Ext H1 _).n) (((Ext0.ext : Ext H1 _).get r hr).trans hg) (aEq_q _ _) hl) rfl (by repeat (first | exact trivial | refine ⟨Or.inl (by dsimp only; decide), ?_⟩)) ?_
   simp only [aFound, Option.getD_some, Option.isSome_some]
   repeat first
    | (refine Fe.pure rfl rfl (by simp only [↓nrmL, nrmZ, Nat.reduceEqDiff, ↓reduceIte, Nat.reduceAdd, Int.reduceBEq, Int.reduceBNe]; rfl) ?_)
    | refine Fe.pure rfl rfl rfl ?_
    | refine WpE.nil (hKF _ _ ?_)
   repeat first
    | refine Fo.mov (rfl : _ = strV _) ?_
    | (refine mv ?_)
    | (refine Fo.now rfl rfl (by simp only [↓nrmL, nrmZ, Nat.reduceEqDiff, ↓reduceIte, Nat.reduceAdd, Int.reduceBEq, Int.reduceBNe]; rfl) ?_)
    | refine nl hKF ?_
    | refine sq ?_
    | refine rg fun KF hKF => ?_
    | refine cf rfl ?_
    | refine sk ?_
   refine Fo.addStr (a := ([] : Bs)) (b := c :: q) rfl rfl (by simp only [List.length_cons] at hql ⊢; simp; omega) rfl ?_
   simp only [↓nrmL, nrmZ, Nat.reduceEqDiff, ↓reduceIte, Nat.reduceAdd, Int.reduceBEq, Int.reduceBNe, w1]
   refine fd ?_
   refine Fo.ld rfl rfl ?_
   refine bn rfl rfl rfl (by simp only [w1]; rfl) ?_
   refine Fo.pcall (v' := ?_) hn rfl (by simp only [↓nrmL, nrmZ, Nat.reduceEqDiff, ↓reduceIte, Nat.reduceAdd, Int.reduceBEq, Int.reduceBNe, w1, List.map]; rfl) rfl ?hv fun _ _ => ?_; case hv => rfl
   refine Fo.addStr (a := ([] : Bs) ++ c :: q) (b := digL (i + 1).toNat) rfl rfl (by have := dig_len (i + 1).toNat; simp only [List.length_cons, List.length_append] at hql ⊢; simp; omega) rfl ?_
   refine Fo.mov (rfl : _ = strV _) ?_
   refine mv ?_
   refine nl hKF ?_
   refine rt ?_
   dsimp only [cond_true, cond_false]
   refine rz trivial ?_
   exact ⟨by rw [hT]; rfl, Ext0.ext⟩
 cases d3 : decide (s < 0)
 ·have hsg := (down_s (s := s) d1 d2).trans d3
  have hT := hT false hsg
  simp only [cond_false] at hT
  cases hb : stepB i
  ·rw [hb] at hT
   repeat first
    | refine Fo.mov (rfl : _ = strV _) ?_
    | (refine mv ?_)
    | refine oy ?_
    | refine fd ?_
    | refine Fo.ld rfl rfl ?_
    | (refine Fo.ldN rfl rfl (by simp only [↓nrmL, nrmZ, Nat.reduceEqDiff, ↓reduceIte, Nat.reduceAdd, Int.reduceBEq, Int.reduceBNe, h1, d1, d2, d3, hb]; rfl) ?_)
    | (refine bn rfl rfl rfl (by simp only [h1, d1, d2, d3, hb]; rfl) ?_)
    | refine tB ?_
    | refine fB ?_
    | (refine Fo.pcall (v' := ?_) hn rfl (by simp only [↓nrmL, nrmZ, Nat.reduceEqDiff, ↓reduceIte, Nat.reduceAdd, Int.reduceBEq, Int.reduceBNe, h1, d1, d2, d3, hb, List.map]; rfl) rfl ?hv fun _ _ => ?_; case hv => (simp only [h1, d1, d2, d3, hb]; rfl))
    | refine bA ?_
    | (refine Fo.now rfl rfl (by simp only [↓nrmL, nrmZ, Nat.reduceEqDiff, ↓reduceIte, Nat.reduceAdd, Int.reduceBEq, Int.reduceBNe, h1, d1, d2, d3, hb]; rfl) ?_)
    | refine nl hKF ?_
    | refine sq ?_
    | refine rg fun KF hKF => ?_
    | refine ct rfl ?_
    | refine cf rfl ?_
    | refine sk ?_
    | refine rt ?_
    | dsimp only [cond_true, cond_false]
   refine rz trivial ?_
   exact ⟨by rw [hT]; rfl, Ext0.ext⟩
  rw [hb, Bool.true_and] at hT
  haveI hsi := stepI_of hb
  have yb0 := hsi.lo; have b9 := hsi.hi
  haveI : NearI i s := ⟨by omega, by omega, by omega, by omega⟩
  have hl := look_q (perfB i) (s - natI i)
  have hql := q_len (perfB i) (s - natI i)
  obtain ⟨q, hq⟩ : ∃ q, qualL (perfB i) (s - natI i) = q := ⟨_, rfl⟩
  rw [hq] at hl hT hql
  haveI : Dig (i + 1).toNat := ⟨by omega⟩
  have w1 : IntKind.i64.wrap (i + 1) = (((i + 1).toNat : Nat) : Int) := by rw [w64r (by omega) (by omega)]; omega
  repeat first
   | refine Fo.mov (rfl : _ = strV _) ?_
   | (refine mv ?_)
   | refine oy ?_
   | refine fd ?_
   | refine Fo.ld rfl rfl ?_
   | (refine Fo.ldN rfl rfl (by simp only [↓nrmL, nrmZ, Nat.reduceEqDiff, ↓reduceIte, Nat.reduceAdd, Int.reduceBEq, Int.reduceBNe, h1, d1, d2, d3, hb]; rfl) ?_)
   | (refine bn rfl rfl rfl (by simp only [h1, d1, d2, d3, hb]; rfl) ?_)
   | refine tB ?_
   | refine fB ?_
   | (refine Fo.pcall (v' := ?_) hn rfl (by simp only [↓nrmL, nrmZ, Nat.reduceEqDiff, ↓reduceIte, Nat.reduceAdd, Int.reduceBEq, Int.reduceBNe, h1, d1, d2, d3, hb, List.map]; rfl) rfl ?hv fun _ _ => ?_; case hv => (simp only [h1, d1, d2, d3, hb]; rfl))
   | refine bA ?_
   | (refine Fo.now rfl rfl (by simp only [↓nrmL, nrmZ, Nat.reduceEqDiff, ↓reduceIte, Nat.reduceAdd, Int.reduceBEq, Int.reduceBNe, h1, d1, d2, d3, hb]; rfl) ?_)
   | refine nl hKF ?_
   | refine sq ?_
   | refine rg fun KF hKF => ?_
   | refine cf rfl ?_
   | refine sk ?_
  refine Fr.dregion0 rfl fun KF hKF => ?_
  skip
  refine Fe.con rfl hn rfl rfl (by simp only [↓nrmL, nrmZ, Nat.reduceEqDiff, ↓reduceIte, Nat.reduceAdd, Int.reduceBEq, Int.reduceBNe, List.map] <;> rfl) K_qualities fun v H1 h5 => ?_
  obtain ⟨r, rfl, hr, hg, hx⟩ := h5
  haveI : ExtI _ H1 := ⟨hx⟩
  refine ar ?_
  refine Er rfl (exec_ldN rfl rfl (by simp only [↓nrmL, nrmZ, Nat.reduceEqDiff, ↓reduceIte, Nat.reduceAdd, Int.reduceBEq, Int.reduceBNe]; rfl)) rfl ?_
  refine Fe.pcall (v' := ?_) rfl hn rfl (by simp only [↓nrmL, nrmZ, Nat.reduceEqDiff, ↓reduceIte, Nat.reduceAdd, Int.reduceBEq, Int.reduceBNe, List.map]; rfl) rfl ?hv fun _ _ => ar ?_; case hv => rfl
  cases q with
  | nil =>
   replace hl : aFind (.fields [some (0, 0, .bool), some (1, 0, .int)]) (.agg [.bool (perfB i), .int .i64 (s - natI i)]) qEs = some none := hl
   refine Fe.read rfl (exec_lookup (kv := .agg [.bool (perfB i), .int .i64 (s - natI i)]) (r := r) (es := qEs) (f := none) rfl rfl (Nat.lt_of_lt_of_le hr (Ext0.ext : Ext H1 _).n) (((Ext0.ext : Ext H1 _).get r hr).trans hg) (aEq_q _ _) hl) rfl (by repeat (first | exact trivial | refine ⟨Or.inl (by dsimp only; decide), ?_⟩)) ?_
   simp only [aFound, Option.getD_none, Option.isSome_none]
   repeat first
    | (refine Fe.pure rfl rfl (by simp only [↓nrmL, nrmZ, Nat.reduceEqDiff, ↓reduceIte, Nat.reduceAdd, Int.reduceBEq, Int.reduceBNe]; rfl) ?_)
    | refine Fe.pure rfl rfl rfl ?_
    | refine WpE.nil (hKF _ _ ?_)
   repeat first
    | refine Fo.mov (rfl : _ = strV _) ?_
    | (refine mv ?_)
    | (refine Fo.now rfl rfl (by simp only [↓nrmL, nrmZ, Nat.reduceEqDiff, ↓reduceIte, Nat.reduceAdd, Int.reduceBEq, Int.reduceBNe]; rfl) ?_)
    | refine nl hKF ?_
    | refine sq ?_
    | refine rg fun KF hKF => ?_
    | refine ct rfl ?_
    | refine rt ?_
    | dsimp only [cond_true, cond_false]
   refine rz trivial ?_
   exact ⟨by rw [hT]; rfl, Ext0.ext⟩
  | cons c q =>
   replace hl : aFind (.fields [some (0, 0, .bool), some (1, 0, .int)]) (.agg [.bool (perfB i), .int .i64 (s - natI i)]) qEs = some (some (strV (c :: q))) := hl
   refine Fe.read rfl (exec_lookup (kv := .agg [.bool (perfB i), .int .i64 (s - natI i)]) (r := r) (es := qEs) (f := some (strV (c :: q))) rfl rfl (Nat.lt_of_lt_of_le hr (Ext0.ext : Ext H1 _).n) (((Ext0.ext : Ext H1 _).get r hr).trans hg) (aEq_q _ _) hl) rfl (by repeat (first | exact trivial | refine ⟨Or.inl (by dsimp only; decide), ?_⟩)) ?_
   simp only [aFound, Option.getD_some, Option.isSome_some]
   repeat first
    | (refine Fe.pure rfl rfl (by simp only [↓nrmL, nrmZ, Nat.reduceEqDiff, ↓reduceIte, Nat.reduceAdd, Int.reduceBEq, Int.reduceBNe]; rfl) ?_)
    | refine Fe.pure rfl rfl rfl ?_
    | refine WpE.nil (hKF _ _ ?_)
   repeat first
    | refine Fo.mov (rfl : _ = strV _) ?_
    | (refine mv ?_)
    | (refine Fo.now rfl rfl (by simp only [↓nrmL, nrmZ, Nat.reduceEqDiff, ↓reduceIte, Nat.reduceAdd, Int.reduceBEq, Int.reduceBNe]; rfl) ?_)
    | refine nl hKF ?_
    | refine sq ?_
    | refine rg fun KF hKF => ?_
    | refine cf rfl ?_
    | refine sk ?_
   refine Fo.addStr (a := ([] : Bs)) (b := c :: q) rfl rfl (by simp only [List.length_cons] at hql ⊢; simp; omega) rfl ?_
   simp only [↓nrmL, nrmZ, Nat.reduceEqDiff, ↓reduceIte, Nat.reduceAdd, Int.reduceBEq, Int.reduceBNe, w1]
   refine fd ?_
   refine Fo.ld rfl rfl ?_
   refine bn rfl rfl rfl (by simp only [w1]; rfl) ?_
   refine Fo.pcall (v' := ?_) hn rfl (by simp only [↓nrmL, nrmZ, Nat.reduceEqDiff, ↓reduceIte, Nat.reduceAdd, Int.reduceBEq, Int.reduceBNe, w1, List.map]; rfl) rfl ?hv fun _ _ => ?_; case hv => rfl
   refine Fo.addStr (a := ([] : Bs) ++ c :: q) (b := digL (i + 1).toNat) rfl rfl (by have := dig_len (i + 1).toNat; simp only [List.length_cons, List.length_append] at hql ⊢; simp; omega) rfl ?_
   refine Fo.mov (rfl : _ = strV _) ?_
   refine mv ?_
   refine nl hKF ?_
   refine rt ?_
   dsimp only [cond_true, cond_false]
   refine rz trivial ?_
   exact ⟨by rw [hT]; rfl, Ext0.ext⟩
 ·have hsg := (down_s (s := s) d1 d2).trans d3
  have hT := hT true hsg
  simp only [cond_true] at hT
  cases hb : stepB (-i)
  ·rw [hb] at hT
   repeat first
    | refine Fo.mov (rfl : _ = strV _) ?_
    | (refine mv ?_)
    | refine oy ?_
    | refine fd ?_
    | refine Fo.ld rfl rfl ?_
    | (refine Fo.ldN rfl rfl (by simp only [↓nrmL, nrmZ, Nat.reduceEqDiff, ↓reduceIte, Nat.reduceAdd, Int.reduceBEq, Int.reduceBNe, h1, d1, d2, d3, hb]; rfl) ?_)
    | (refine bn rfl rfl rfl (by simp only [h1, d1, d2, d3, hb]; rfl) ?_)
    | refine tB ?_
    | refine fB ?_
    | (refine Fo.pcall (v' := ?_) hn rfl (by simp only [↓nrmL, nrmZ, Nat.reduceEqDiff, ↓reduceIte, Nat.reduceAdd, Int.reduceBEq, Int.reduceBNe, h1, d1, d2, d3, hb, List.map]; rfl) rfl ?hv fun _ _ => ?_; case hv => (simp only [h1, d1, d2, d3, hb]; rfl))
    | (refine Fo.pcall (v' := ?_) hn rfl (by simp only [↓nrmL, nrmZ, Nat.reduceEqDiff, ↓reduceIte, Nat.reduceAdd, Int.reduceBEq, Int.reduceBNe, h1, d1, d2, d3, hb, List.map]; rfl) rfl ?hv fun _ _ => ?_; case hv => rfl)
    | refine bA ?_
    | (refine Fo.now rfl rfl (by simp only [↓nrmL, nrmZ, Nat.reduceEqDiff, ↓reduceIte, Nat.reduceAdd, Int.reduceBEq, Int.reduceBNe, h1, d1, d2, d3, hb]; rfl) ?_)
    | (refine so rfl (rfl : _ = AVal.agg _) rfl rfl rfl (by simp only [↓nrmL, nrmZ, Nat.reduceEqDiff, ↓reduceIte, Nat.reduceAdd, Int.reduceBEq, Int.reduceBNe, h1, d1, d2, d3, hb]; rfl) ?_)
    | refine nl hKF ?_
    | refine sq ?_
    | refine rg fun KF hKF => ?_
    | refine ct rfl ?_
    | refine cf rfl ?_
    | refine sk ?_
    | refine rt ?_
    | dsimp only [cond_true, cond_false]
   refine rz trivial ?_
   exact ⟨by rw [hT]; rfl, Ext0.ext⟩
  rw [hb, Bool.true_and] at hT
  haveI hsi := stepI_of hb
  have yb0 := hsi.lo; have b9 := hsi.hi
  haveI : NearI (-i) (-s) := ⟨by omega, by omega, by omega, by omega⟩
  have hl := look_q (perfB (-i)) ((-s) - natI (-i))
  have hql := q_len (perfB (-i)) ((-s) - natI (-i))
  obtain ⟨q, hq⟩ : ∃ q, qualL (perfB (-i)) ((-s) - natI (-i)) = q := ⟨_, rfl⟩
  rw [hq] at hl hT hql
  haveI : Dig ((-i) + 1).toNat := ⟨by omega⟩
  have w1 : IntKind.i64.wrap ((-i) + 1) = ((((-i) + 1).toNat : Nat) : Int) := by rw [w64r (by omega) (by omega)]; omega
  repeat first
   | refine Fo.mov (rfl : _ = strV _) ?_
   | (refine mv ?_)
   | refine oy ?_
   | refine fd ?_
   | refine Fo.ld rfl rfl ?_
   | (refine Fo.ldN rfl rfl (by simp only [↓nrmL, nrmZ, Nat.reduceEqDiff, ↓reduceIte, Nat.reduceAdd, Int.reduceBEq, Int.reduceBNe, h1, d1, d2, d3, hb]; rfl) ?_)
   | (refine bn rfl rfl rfl (by simp only [h1, d1, d2, d3, hb]; rfl) ?_)
   | refine tB ?_
   | refine fB ?_
   | (refine Fo.pcall (v' := ?_) hn rfl (by simp only [↓nrmL, nrmZ, Nat.reduceEqDiff, ↓reduceIte, Nat.reduceAdd, Int.reduceBEq, Int.reduceBNe, h1, d1, d2, d3, hb, List.map]; rfl) rfl ?hv fun _ _ => ?_; case hv => (simp only [h1, d1, d2, d3, hb]; rfl))
   | (refine Fo.pcall (v' := ?_) hn rfl (by simp only [↓nrmL, nrmZ, Nat.reduceEqDiff, ↓reduceIte, Nat.reduceAdd, Int.reduceBEq, Int.reduceBNe, h1, d1, d2, d3, hb, List.map]; rfl) rfl ?hv fun _ _ => ?_; case hv => rfl)
   | refine bA ?_
   | (refine Fo.now rfl rfl (by simp only [↓nrmL, nrmZ, Nat.reduceEqDiff, ↓reduceIte, Nat.reduceAdd, Int.reduceBEq, Int.reduceBNe, h1, d1, d2, d3, hb]; rfl) ?_)
   | (refine so rfl (rfl : _ = AVal.agg _) rfl rfl rfl (by simp only [↓nrmL, nrmZ, Nat.reduceEqDiff, ↓reduceIte, Nat.reduceAdd, Int.reduceBEq, Int.reduceBNe, h1, d1, d2, d3, hb]; rfl) ?_)
   | refine nl hKF ?_
   | refine sq ?_
   | refine rg fun KF hKF => ?_
   | refine ct rfl ?_
   | refine cf rfl ?_
   | refine sk ?_
  refine Fr.dregion0 rfl fun KF hKF => ?_
  skip
  refine Fe.con rfl hn rfl rfl (by simp only [↓nrmL, nrmZ, Nat.reduceEqDiff, ↓reduceIte, Nat.reduceAdd, Int.reduceBEq, Int.reduceBNe, List.map] <;> rfl) K_qualities fun v H1 h5 => ?_
  obtain ⟨r, rfl, hr, hg, hx⟩ := h5
  haveI : ExtI _ H1 := ⟨hx⟩
  refine ar ?_
  refine Er rfl (exec_ldN rfl rfl (by simp only [↓nrmL, nrmZ, Nat.reduceEqDiff, ↓reduceIte, Nat.reduceAdd, Int.reduceBEq, Int.reduceBNe]; rfl)) rfl ?_
  refine Fe.pcall (v' := ?_) rfl hn rfl (by simp only [↓nrmL, nrmZ, Nat.reduceEqDiff, ↓reduceIte, Nat.reduceAdd, Int.reduceBEq, Int.reduceBNe, List.map]; rfl) rfl ?hv fun _ _ => ar ?_; case hv => rfl
  cases q with
  | nil =>
   replace hl : aFind (.fields [some (0, 0, .bool), some (1, 0, .int)]) (.agg [.bool (perfB (-i)), .int .i64 ((-s) - natI (-i))]) qEs = some none := hl
   refine Fe.read rfl (exec_lookup (kv := .agg [.bool (perfB (-i)), .int .i64 ((-s) - natI (-i))]) (r := r) (es := qEs) (f := none) rfl rfl (Nat.lt_of_lt_of_le hr (Ext0.ext : Ext H1 _).n) (((Ext0.ext : Ext H1 _).get r hr).trans hg) (aEq_q _ _) hl) rfl (by repeat (first | exact trivial | refine ⟨Or.inl (by dsimp only; decide), ?_⟩)) ?_
   simp only [aFound, Option.getD_none, Option.isSome_none]
   repeat first
    | (refine Fe.pure rfl rfl (by simp only [↓nrmL, nrmZ, Nat.reduceEqDiff, ↓reduceIte, Nat.reduceAdd, Int.reduceBEq, Int.reduceBNe]; rfl) ?_)
    | refine Fe.pure rfl rfl rfl ?_
    | refine WpE.nil (hKF _ _ ?_)
   repeat first
    | refine Fo.mov (rfl : _ = strV _) ?_
    | (refine mv ?_)
    | (refine Fo.now rfl rfl (by simp only [↓nrmL, nrmZ, Nat.reduceEqDiff, ↓reduceIte, Nat.reduceAdd, Int.reduceBEq, Int.reduceBNe]; rfl) ?_)
    | refine nl hKF ?_
    | refine sq ?_
    | refine rg fun KF hKF => ?_
    | refine ct rfl ?_
    | refine rt ?_
    | dsimp only [cond_true, cond_false]
   refine rz trivial ?_
   exact ⟨by rw [hT]; rfl, Ext0.ext⟩
  | cons c q =>
   replace hl : aFind (.fields [some (0, 0, .bool), some (1, 0, .int)]) (.agg [.bool (perfB (-i)), .int .i64 ((-s) - natI (-i))]) qEs = some (some (strV (c :: q))) := hl
   refine Fe.read rfl (exec_lookup (kv := .agg [.bool (perfB (-i)), .int .i64 ((-s) - natI (-i))]) (r := r) (es := qEs) (f := some (strV (c :: q))) rfl rfl (Nat.lt_of_lt_of_le hr (Ext0.ext : Ext H1 _).n) (((Ext0.ext : Ext H1 _).get r hr).trans hg) (aEq_q _ _) hl) rfl (by repeat (first | exact trivial | refine ⟨Or.inl (by dsimp only; decide), ?_⟩)) ?_
   simp only [aFound, Option.getD_some, Option.isSome_some]
   repeat first
    | (refine Fe.pure rfl rfl (by simp only [↓nrmL, nrmZ, Nat.reduceEqDiff, ↓reduceIte, Nat.reduceAdd, Int.reduceBEq, Int.reduceBNe]; rfl) ?_)
    | refine Fe.pure rfl rfl rfl ?_
    | refine WpE.nil (hKF _ _ ?_)
   repeat first
    | refine Fo.mov (rfl : _ = strV _) ?_
    | (refine mv ?_)
    | (refine Fo.now rfl rfl (by simp only [↓nrmL, nrmZ, Nat.reduceEqDiff, ↓reduceIte, Nat.reduceAdd, Int.reduceBEq, Int.reduceBNe]; rfl) ?_)
    | refine nl hKF ?_
    | refine sq ?_
    | refine rg fun KF hKF => ?_
    | refine cf rfl ?_
    | refine sk ?_
   refine Fo.addStr (a := [45]) (b := c :: q) rfl rfl (by simp only [List.length_cons] at hql ⊢; simp; omega) rfl ?_
   simp only [↓nrmL, nrmZ, Nat.reduceEqDiff, ↓reduceIte, Nat.reduceAdd, Int.reduceBEq, Int.reduceBNe, w1]
   refine fd ?_
   refine Fo.ld rfl rfl ?_
   refine bn rfl rfl rfl (by simp only [w1]; rfl) ?_
   refine Fo.pcall (v' := ?_) hn rfl (by simp only [↓nrmL, nrmZ, Nat.reduceEqDiff, ↓reduceIte, Nat.reduceAdd, Int.reduceBEq, Int.reduceBNe, w1, List.map]; rfl) rfl ?hv fun _ _ => ?_; case hv => rfl
   refine Fo.addStr (a := [45] ++ c :: q) (b := digL ((-i) + 1).toNat) rfl rfl (by have := dig_len ((-i) + 1).toNat; simp only [List.length_cons, List.length_append] at hql ⊢; simp; omega) rfl ?_
   refine Fo.mov (rfl : _ = strV _) ?_
   refine mv ?_
   refine nl hKF ?_
   refine rt ?_
   dsimp only [cond_true, cond_false]
   refine rz trivial ?_
   exact ⟨by rw [hT]; rfl, Ext0.ext⟩⟩
end Go.Am
namespace Go.Am
open Go
attribute [local irreducible] Wp WpO WpX WpE
class Len47 (l : Bs) : Prop where
 le : l.length ≤ 2 ^ 47
class ErrsI (H : AHeap) : Prop where
 it : PtrsIn [1, 2] H
instance {H H' : AHeap} [h : ErrsI H] [x : ExtI H H'] : ErrsI H' := ⟨h.it.ext x.1⟩
theorem setAt_all : ∀ (vs cs : List AVal) (off : Nat), off + vs.length = cs.length → setAt cs off vs = cs.take off ++ vs
 | [], cs, off, h => by
  simp only [setAt, List.append_nil]
  rw [List.take_of_length_le (by simp at h; omega)]
 | v :: vs, cs, off, h => by
  simp only [setAt]
  rw [setAt_all vs (cs.set off v) (off + 1) (by simp at h ⊢; omega)]
  have hlt : off < cs.length := by simp at h; omega
  rw [List.take_set, List.take_succ_eq_append_getElem hlt, List.set_append_right _ _ (by simp; omega)]
  simp [Nat.min_eq_left (Nat.le_of_lt hlt)]
theorem exec_copyS {call : ACall} {fr : AFrame} {H : AHeap} {x y : ROpd} {r n : Nat} {l : Bs} {cs : List AVal} {e : TypeId} {c : Option Nat} (hx : x.ev fr = .slice r 0 n c 1) (hy : y.ev fr = strV l) (hn : n = l.length) [h : HasRow H r cs true e] (hc : cs.length = l.length) (h0 : 0 < l.length) : (ROp.copy 1 x y).exec call fr H = some (.int .i64 (n : Int), H.set r (.row (cellsB l) true e)) := by
 have e1 : (strV l) = .str ⟨l.toArray⟩ := rfl
 have e2 : ((⟨l.toArray⟩ : ByteArray).extract 0 (min l.length n)).data.toList = l := by
  rw [hn, Nat.min_self]
  have := str_extract (l := l) (a := 0) (b := l.length)
  rw [this]
  simp
 have e3 : (ByteArray.size ⟨l.toArray⟩) = l.length := by simp [ByteArray.size]
 have e4 : (l.map fun b : UInt8 => AVal.int .u8 (b.toNat : Int)) = cellsB l := rfl
 have e5 : (cellsB l).isEmpty = false := by
  have := cellsB_length l
  cases hcl : cellsB l with
  | nil => rw [hcl] at this; simp at this; omega
  | cons => rfl
 have e6 : setAt cs 0 (cellsB l) = cellsB l := by
  have := setAt_all (cellsB l) cs 0 (by rw [cellsB_length]; omega)
  rw [this, List.take_zero, List.nil_append]
 have e7 : (cellsB l).all AVal.one = true := by
  rw [List.all_eq_true]
  intro v hv
  unfold cellsB at hv
  obtain ⟨b, _, rfl⟩ := List.mem_map.1 hv
  rfl
 have e8 : aWrite r 0 (cellsB l) H = some ((), H.set r (.row (cellsB l) true e)) := by
  simp only [aWrite, if_pos h.lt, h.get, e7, cellsB_length, e6]
  rw [if_pos (by simp; omega)]
 have e9 : aFirst 1 (min l.length n) (.str ⟨l.toArray⟩) H = some (cellsB l, H) := by
  simp only [aFirst, M.pure, e2, e4]
 simp only [ROp.exec, hx, hy, e1, aCopy, aLenOf, e3]
 show M.bind (aFirst 1 (min l.length n) (.str ⟨l.toArray⟩)) _ H = _
 simp only [M.bind, e9]
 rw [if_neg (by rw [cellsB_length, hn, Nat.min_self]; simp)]
 simp only [ne_eq, not_true, if_false, e5, Bool.false_eq_true]
 show M.bind (aWrite r 0 (cellsB l)) _ H = _
 simp only [M.bind, e8, M.pure, hn, Nat.min_self]
theorem exec_ustr47 {call : ACall} {fr : AFrame} {H : AHeap} {x y : ROpd} {r t : Nat} {l : Bs} {e : TypeId} (hx : x.ev fr = .ptr r 0) (hy : y.ev fr = .int .i64 l.length) [h : HasRow H r (cellsB l) true e] (he : e / 2 = t) (hl : 0 < l.length) (hl2 : l.length ≤ 2 ^ 47) : (ROp.unsafeStr t x y).exec call fr H = some (strV l, H.set r (.row (cellsB l) false e)) := by
 have h1 : Nat.blt r H.n = true := by simpa using h.lt
 have h2 : (Nat.blt r H.n && decide ((0 : Int) ≤ ((l.length : Nat) : Int)) && decide (((l.length : Nat) : Int) < 2 ^ 62)) = true := by
  rw [h1]; simp; omega
 have h3 : ¬ (((l.length : Nat) : Int) = 0) := by omega
 have h4 : (Nat.beq (e / 2) t && Nat.ble (0 + ((l.length : Nat) : Int).toNat) (cellsB l).length) = true := by
  rw [he, cellsB_length]; simp
 have h5 : ((cellsB l).drop 0).take ((l.length : Nat) : Int).toNat = cellsB l := by
  rw [List.drop_zero, Int.toNat_natCast, List.take_of_length_le (by rw [cellsB_length]; exact Nat.le_refl _)]
 simp only [ROp.exec, hx, hy, aUnsafeStr, h3, if_false, aUnsafeRow, h2, h.get, h4, h5, bytesOf_cellsB]
theorem ext_set2 {H : AHeap} {o1 o2 o3 : AObj} : Ext H (((H.push o1).set H.n o2).set H.n o3) := ⟨Nat.le_succ _, fun r hr => by
 rw [set_get_ne (by omega), set_get_ne (by omega), push_get_lt hr]⟩
instance K_Clone {l : Bs} {H : AHeap} [hl : Len47 l] : PureCon ext prog 135 [strV l] H 1 (strV l) := ⟨by
 refine con_of (show prog 135 = some c135 from rfl) rfl rfl fun m hn => ?_
 have hle := hl.le
 cases h0 : ((l.length : Int) == 0)
 rotate_left
 ·have : l = [] := List.length_eq_zero_iff.1 (by have := eq_of_beq h0; omega)
  subst this
  repeat first
   | refine Fo.lenStr (rfl : _ = strV _) rfl ?_
   | refine Fo.mov (rfl : _ = strV _) ?_
   | (refine bn rfl rfl rfl (by simp only [h0]; rfl) ?_)
   | refine nl hKF ?_
   | refine sq ?_
   | refine rg fun KF hKF => ?_
   | refine ct rfl ?_
   | refine rt ?_
   | dsimp only [cond_true, cond_false]
  refine rz trivial ?_
  exact ⟨rfl, Ext0.ext⟩
 have hp : 0 < l.length := by have := ne_of_beq_false h0; omega
 repeat first
  | refine Fo.lenStr (rfl : _ = strV _) rfl ?_
  | refine Fo.mov (rfl : _ = strV _) ?_
  | (refine bn rfl rfl rfl (by simp only [h0]; rfl) ?_)
  | refine nl hKF ?_
  | refine sq ?_
  | refine rg fun KF hKF => ?_
  | refine cf rfl ?_
  | refine sk ?_
 refine WpO.do (WpX.now (exec_mk (k := .i64) (a := (l.length : Int)) rfl rfl (by omega)) ?_)
 rw [Int.toNat_natCast]
 haveI r1 : HasRow (H.push (.row ((List.replicate l.length [AVal.int .u8 0]).flatten) true (2 * 5))) H.n ((List.replicate l.length [AVal.int .u8 0]).flatten) true (2 * 5) := ⟨Nat.lt_succ_self _, push_get_eq⟩
 refine mv ?_
 refine nl hKF ?_
 refine sq ?_
 refine rg fun KF hKF => ?_
 refine mv ?_
 refine Fo.mov (rfl : _ = strV _) ?_
 refine WpO.do (WpX.now (exec_copyS (r := H.n) (n := l.length) (l := l) rfl rfl rfl (by rw [mk_bytes, cellsB_length, List.length_replicate]) hp) ?_)
 haveI r2 : HasRow ((H.push (.row ((List.replicate l.length [AVal.int .u8 0]).flatten) true (2 * 5))).set H.n (.row (cellsB l) true (2 * 5))) H.n (cellsB l) true (2 * 5) := ⟨Nat.lt_succ_self _, set_get_eq⟩
 haveI s2 : SliceAt ((H.push (.row ((List.replicate l.length [AVal.int .u8 0]).flatten) true (2 * 5))).set H.n (.row (cellsB l) true (2 * 5))) (.slice H.n 0 l.length (some l.length) 1) 1 l.length (cellsB l) := ⟨Or.inr ⟨H.n, 0, some l.length, _, _, _, rfl, Nat.lt_succ_self _, set_get_eq, by rw [cellsB_length]; omega, by rw [List.drop_zero, List.take_of_length_le (by rw [cellsB_length]; omega)], Nat.le_refl _⟩⟩
 refine nl hKF ?_
 refine sq ?_
 refine rg fun KF hKF => ?_
 refine mv ?_
 refine Fo.idx (by simp only [↓nrmL, nrmK, Nat.reduceEqDiff, ↓reduceIte]; rfl) rfl ?_ (by simp only [↓nrmL, nrmZ, Nat.reduceEqDiff, ↓reduceIte, Nat.reduceAdd, Int.reduceBEq, Int.reduceBNe]; rfl) ?_; (focus omega)
 refine mv ?_
 refine ln (by simp only [↓nrmL, nrmK, Nat.reduceEqDiff, ↓reduceIte]; rfl) ?_
 refine WpO.do (WpX.now (exec_ustr47 (r := H.n) (l := l) rfl rfl (e := 2 * 5) rfl hp hle) ?_)
 refine Fo.mov (rfl : _ = strV _) ?_
 refine nl hKF ?_
 refine rt ?_
 dsimp only [cond_true, cond_false]
 refine rz trivial ?_
 exact ⟨rfl, ext_set2⟩⟩
theorem K_syntaxError {f l : Bs} {H : AHeap} [hE : ErrsI H] [hl : Len47 l] : Con ext prog 2 126 [strV f, strV l] H fun v H' => ∃ r, v = .ptr r 0 ∧ Ext H H' := by
 refine con_of (show prog 126 = some c126 from rfl) rfl rfl fun m hn => ?_
 obtain ⟨t, u, hlt, hget⟩ := hE.it 1 (by simp)
 haveI : HasRow H 1 [.iface t u] false 0 := ⟨hlt, hget⟩
 refine sq ?_
 refine rg fun KF hKF => ?_
 refine mv ?_
 refine nl hKF ?_
 refine sq ?_
 refine Fr.dregion0 rfl fun KF hKF => ?_
 repeat first
  | (refine Er rfl (exec_ld rfl rfl) rfl ?_)
  | (refine Fe.pure rfl rfl (by simp only [↓nrmL, nrmZ, Nat.reduceEqDiff, ↓reduceIte, Nat.reduceAdd, Int.reduceBEq, Int.reduceBNe]; rfl) ?_)
  | (refine Fe.pcall (v' := ?_) rfl hn rfl (by simp only [↓nrmL, nrmZ, Nat.reduceEqDiff, ↓reduceIte, Nat.reduceAdd, Int.reduceBEq, Int.reduceBNe, List.map]; rfl) rfl ?hv fun _ _ => ar ?_; case hv => rfl)
 refine WpE.effect (d := some _) rfl (v := .ptr _ 0) rfl (by repeat (first | exact trivial | refine ⟨(by first | exact Or.inl (by dsimp only; decide) | exact Or.inr (readOk_of (exec_ld rfl rfl)) | exact Or.inr (readOk_of (exec_ld rfl (by assumption))) | exact Or.inr (readOk_of (exec_ldN rfl rfl rfl)) | exact Or.inr (readOk_of (exec_ldB rfl (by omega))) | exact Or.inr (readOk_of (exec_ldI rfl (by omega))) | exact Or.inr (made_of rfl)), ?_⟩)) ?_
 refine Fe.pure rfl rfl (by simp only [↓nrmL, nrmZ, Nat.reduceEqDiff, ↓reduceIte, Nat.reduceAdd, Int.reduceBEq, Int.reduceBNe]; rfl) ?_
 refine WpE.nil (hKF _ _ ?_)
 refine rt ?_
 dsimp only [cond_true, cond_false]
 refine rz trivial ?_
 exact ⟨_, rfl, Ext0.ext⟩
theorem K_rangeError {f l : Bs} {H : AHeap} [hE : ErrsI H] [hl : Len47 l] : Con ext prog 2 127 [strV f, strV l] H fun v H' => ∃ r, v = .ptr r 0 ∧ Ext H H' := by
 refine con_of (show prog 127 = some c127 from rfl) rfl rfl fun m hn => ?_
 obtain ⟨t, u, hlt, hget⟩ := hE.it 2 (by simp)
 haveI : HasRow H 2 [.iface t u] false 0 := ⟨hlt, hget⟩
 refine sq ?_
 refine rg fun KF hKF => ?_
 refine mv ?_
 refine nl hKF ?_
 refine sq ?_
 refine Fr.dregion0 rfl fun KF hKF => ?_
 repeat first
  | (refine Er rfl (exec_ld rfl rfl) rfl ?_)
  | (refine Fe.pure rfl rfl (by simp only [↓nrmL, nrmZ, Nat.reduceEqDiff, ↓reduceIte, Nat.reduceAdd, Int.reduceBEq, Int.reduceBNe]; rfl) ?_)
  | (refine Fe.pcall (v' := ?_) rfl hn rfl (by simp only [↓nrmL, nrmZ, Nat.reduceEqDiff, ↓reduceIte, Nat.reduceAdd, Int.reduceBEq, Int.reduceBNe, List.map]; rfl) rfl ?hv fun _ _ => ar ?_; case hv => rfl)
 refine WpE.effect (d := some _) rfl (v := .ptr _ 0) rfl (by repeat (first | exact trivial | refine ⟨(by first | exact Or.inl (by dsimp only; decide) | exact Or.inr (readOk_of (exec_ld rfl rfl)) | exact Or.inr (readOk_of (exec_ld rfl (by assumption))) | exact Or.inr (readOk_of (exec_ldN rfl rfl rfl)) | exact Or.inr (readOk_of (exec_ldB rfl (by omega))) | exact Or.inr (readOk_of (exec_ldI rfl (by omega))) | exact Or.inr (made_of rfl)), ?_⟩)) ?_
 refine Fe.pure rfl rfl (by simp only [↓nrmL, nrmZ, Nat.reduceEqDiff, ↓reduceIte, Nat.reduceAdd, Int.reduceBEq, Int.reduceBNe]; rfl) ?_
 refine WpE.nil (hKF _ _ ?_)
 refine rt ?_
 dsimp only [cond_true, cond_false]
 refine rz trivial ?_
 exact ⟨_, rfl, Ext0.ext⟩
def isErr (e : AVal) : Prop := e = .iface 149 (.int .i64 1) ∨ e = .iface 149 (.int .i64 2)
theorem K_toError {f l : Bs} {e : AVal} {H : AHeap} [hE : ErrsI H] [hl : Len47 l] (he : isErr e) : Con ext prog 3 120 [strV f, strV l, .int .i64 0, .int .i64 0, e] H fun v H' => ∃ t x, v = .iface t x ∧ Ext H H' := by
 refine con_of (show prog 120 = some c120 from rfl) rfl rfl fun m hn => ?_
 rcases he with rfl | rfl
 ·skip
  repeat first
   | refine Fo.mov (rfl : _ = strV _) ?_
   | (refine mv ?_)
   | (refine Fo.now rfl rfl (by simp only [↓nrmL, nrmZ, Nat.reduceEqDiff, ↓reduceIte, Nat.reduceAdd, Int.reduceBEq, Int.reduceBNe]; rfl) ?_)
   | refine nl hKF ?_
   | refine sq ?_
   | refine rg fun KF hKF => ?_
   | refine ct rfl ?_
   | refine cf rfl ?_
   | refine Wp.block ?_
  refine WpO.do (WpX.conD hn rfl rfl (by simp only [↓nrmL, nrmZ, Nat.reduceEqDiff, ↓reduceIte, Nat.reduceAdd, Int.reduceBEq, Int.reduceBNe, List.map] <;> rfl) (K_rangeError (f := f) (l := l)) fun v H1 h5 => ?_)
  obtain ⟨r, rfl, hx⟩ := h5
  haveI : ExtI _ H1 := ⟨hx⟩
  refine Fo.now rfl rfl (by simp only [↓nrmL, nrmZ, Nat.reduceEqDiff, ↓reduceIte, Nat.reduceAdd, Int.reduceBEq, Int.reduceBNe]; rfl) ?_
  refine mv ?_
  refine nl hKF ?_
  refine rt ?_
  dsimp only [cond_true, cond_false]
  refine rz trivial ?_
  exact ⟨_, _, rfl, Ext0.ext⟩
 ·skip
  repeat first
   | refine Fo.mov (rfl : _ = strV _) ?_
   | (refine mv ?_)
   | (refine Fo.now rfl rfl (by simp only [↓nrmL, nrmZ, Nat.reduceEqDiff, ↓reduceIte, Nat.reduceAdd, Int.reduceBEq, Int.reduceBNe]; rfl) ?_)
   | refine nl hKF ?_
   | refine sq ?_
   | refine rg fun KF hKF => ?_
   | refine ct rfl ?_
   | refine Wp.block ?_
  refine WpO.do (WpX.conD hn rfl rfl (by simp only [↓nrmL, nrmZ, Nat.reduceEqDiff, ↓reduceIte, Nat.reduceAdd, Int.reduceBEq, Int.reduceBNe, List.map] <;> rfl) (K_syntaxError (f := f) (l := l)) fun v H1 h5 => ?_)
  obtain ⟨r, rfl, hx⟩ := h5
  haveI : ExtI _ H1 := ⟨hx⟩
  refine Fo.now rfl rfl (by simp only [↓nrmL, nrmZ, Nat.reduceEqDiff, ↓reduceIte, Nat.reduceAdd, Int.reduceBEq, Int.reduceBNe]; rfl) ?_
  refine mv ?_
  refine nl hKF ?_
  refine rt ?_
  dsimp only [cond_true, cond_false]
  refine rz trivial ?_
  exact ⟨_, _, rfl, Ext0.ext⟩
end Go.Am
namespace Go.Am
open Go
attribute [local irreducible] Wp WpO WpX WpE
theorem u8s {x : Int} (h : 0 ≤ x) (h2 : x < 256) : IntKind.u8.wrap x = x := by
 have h1 : IntKind.u8.wrap x = x % 256 := by
  unfold IntKind.wrap
  simp [IntKind.signed, IntKind.bits]
 omega
theorem u64s {x : Int} (h : 0 ≤ x) (h2 : x < 256) : IntKind.u64.wrap x = x := by
 have h1 : IntKind.u64.wrap x = x % 18446744073709551616 := by
  unfold IntKind.wrap
  simp [IntKind.signed, IntKind.bits]
 omega
instance K_lower {c : Int} {H : AHeap} : PureCon ext prog 142 [.int .u8 c] H 1 (.int .u8 (Go.bits .or .u8 c 32)) := ⟨by
 refine con_of (show prog 142 = some c142 from rfl) rfl rfl fun m hn => ?_
 repeat first
  | refine mI ?_
  | refine b0 ?_
  | refine nl hKF ?_
  | refine sq ?_
  | refine rg fun KF hKF => ?_
  | refine rt ?_
  | dsimp only [cond_true, cond_false]
 refine rz trivial ?_
 exact ⟨rfl, Ext0.ext⟩⟩
theorem stb_bytes {H : AHeap} {l : Bs} {e : TypeId} : BytesI (H.push (.row (cellsB l) true e)) (.slice H.n 0 l.length none 1) l := ⟨Or.inr ⟨H.n, 0, none, _, _, _, rfl, Nat.lt_succ_self _, push_get_eq, by rw [cellsB_length]; omega, by rw [List.drop_zero, List.take_of_length_le (by rw [cellsB_length]; omega)], Nat.le_refl _⟩⟩
theorem K_ParseUint {l : Bs} {H : AHeap} [hl : Len47 l] : Con ext prog 2 134 [strV l, .int .i64 10, .int .i64 0] H fun v H' => ∃ n e, v = .tuple [.int .u64 n, e] ∧ (e = .niface ∨ isErr e) ∧ Ext H H' := by
 refine con_of (show prog 134 = some c134 from rfl) rfl rfl fun m hn => ?_
 have hle := hl.le
 cases h0 : (l == ([] : Bs))
 rotate_left
 ·skip
  repeat first
   | (refine Fo.eqStr rfl rfl (by simp only [↓nrmL, nrmZ, Nat.reduceEqDiff, ↓reduceIte, Nat.reduceAdd, Int.reduceBEq, Int.reduceBNe, h0]; rfl) ?_)
   | refine Fo.mov (rfl : _ = strV _) ?_
   | (refine mv ?_)
   | (refine Fo.now rfl rfl (by simp only [↓nrmL, nrmZ, Nat.reduceEqDiff, ↓reduceIte, Nat.reduceAdd, Int.reduceBEq, Int.reduceBNe, h0]; rfl) ?_)
   | refine nl hKF ?_
   | refine sq ?_
   | refine rg fun KF hKF => ?_
   | refine ct rfl ?_
   | refine rt ?_
   | dsimp only [cond_true, cond_false]
  refine rz trivial ?_
  exact ⟨_, _, rfl, Or.inr (Or.inr rfl), Ext0.ext⟩
 have x11 : IntKind.u64.wrap (IntKind.u64.wrap (1 * 2 ^ min (IntKind.u64.wrap 64).toNat IntKind.u64.bits) - 1) = 18446744073709551615 := by decide
 have x8 : IntKind.u8.wrap 10 = 10 := rfl
 have x64 : IntKind.u64.wrap 10 = 10 := rfl
 haveI hb : BytesI (H.push (.row (List.map (fun b : UInt8 => AVal.int .u8 ((b.toNat : Nat) : Int)) l) true (2 * 5))) (.slice H.n 0 l.length none 1) l := stb_bytes (H := H) (l := l) (e := 2 * 5)
 haveI := hb.one
 repeat first
  | (refine Fo.eqStr rfl rfl (by simp only [↓nrmL, nrmZ, Nat.reduceEqDiff, ↓reduceIte, Nat.reduceAdd, Int.reduceBEq, Int.reduceBNe, h0, str_size, x11]; rfl) ?_)
  | refine Fo.mov (rfl : _ = strV _) ?_
  | (refine mv ?_)
  | refine oy ?_
  | (refine bn rfl rfl rfl (by simp only [h0, str_size, x11]; rfl) ?_)
  | (refine bn rfl rfl rfl (by simp only [↓nrmL, nrmZ, Nat.reduceEqDiff, ↓reduceIte, Nat.reduceAdd, Int.reduceBEq, Int.reduceBNe, h0, str_size, x11]; rfl) ?_)
  | refine b0 ?_
  | refine tB ?_
  | (refine ln (by simp only [↓nrmL, nrmK, Nat.reduceEqDiff, ↓reduceIte]; rfl) ?_)
  | (refine Fo.now rfl rfl (by simp only [h0, str_size, x11]; rfl) ?_)
  | refine Fo.now rfl rfl rfl ?_
  | refine nl hKF ?_
  | refine sq ?_
  | refine rg fun KF hKF => ?_
  | refine ct rfl ?_
  | refine cf rfl ?_
  | refine sk ?_
  | refine Wp.block ?_
  | dsimp only [cond_true, cond_false]
 refine Wp.loopS (σ := Nat × Int) [6, 7, 12, 13, 15, 16, 17, 101, 102, 103, 104, 105, 106, 107, 108, 109, 110, 111, 112, 113, 114, 115, 116, 117, 118, 119, 120, 121, 122, 123, 124, 125, 126, 127, 128, 129, 130, 131, 132, 133, 134, 135, 136, 137, 138, 139, 140, 141, 142, 143, 144, 145, 146, 147, 148, 149, 150, 151, 152, 153, 154, 155, 156, 157, 158, 159, 160, 161, 162, 163] (fun s => [(101, .int .i64 (s.1 : Int)), (13, .int .u64 s.2), (12, .bool false)]) (fun H3 s H2 => s.1 ≤ l.length ∧ Ext H3 H2) (fun s => l.length - s.1) (0, 0) rfl (fun _ => rfl) ⟨rfl, rfl, rfl, trivial⟩ ⟨Nat.zero_le _, Ext.refl _⟩ (by unfold fuel0 at hn; dsimp only; omega) ?_
 rintro ⟨i, n⟩ g H2 ⟨hi, hx2⟩
 dsimp only at hi
 haveI : ExtI _ H2 := ⟨hx2⟩
 simp only [↓nrmL, nrmZ, Nat.reduceEqDiff, ↓reduceIte, Nat.reduceAdd, Int.reduceBEq, Int.reduceBNe]
 cases hc : decide ((i : Int) < (l.length : Int))
 ·skip
  repeat first
   | (refine mv ?_)
   | refine ox ?_
   | (refine bn rfl rfl rfl (by simp only [hc]; rfl) ?_)
   | refine fB ?_
   | refine nl hKF ?_
   | refine sq ?_
   | refine rg fun KF hKF => ?_
   | refine cf rfl ?_
   | refine sk ?_
   | refine rt ?_
   | refine xi ?_
   | dsimp only [cond_true, cond_false]
  refine rz trivial ?_
  exact ⟨_, _, rfl, Or.inl rfl, Ext0.ext⟩
 have hil : i < l.length := by have := of_decide_eq_true hc; omega
 have hw1 : IntKind.i64.wrap ((i : Int) + 1) = ((i + 1 : Nat) : Int) := by rw [w64r (by omega) (by omega)]; omega
 obtain ⟨c, hce⟩ : ∃ c : UInt8, l[i] = c := ⟨_, rfl⟩
 have hc8 := c.toNat_lt
 cases a0 : (((c.toNat : Nat) : Int) == 95)
 ·skip
  cases p1 : decide ((48 : Int) ≤ ((c.toNat : Nat) : Int))
  ·obtain ⟨L, hL⟩ : ∃ L, Go.bits .or .u8 ((c.toNat : Nat) : Int) 32 = L := ⟨_, rfl⟩
   cases p3 : decide ((97 : Int) ≤ L)
   ·skip
    repeat first
     | (refine mv ?_)
     | refine ox ?_
     | (refine bn rfl rfl rfl (by simp only [x11, x8, x64, hc, hce, a0, p1, hL, p3]; rfl) ?_)
     | refine fB ?_
     | (refine Fo.pcall (v' := ?_) hn rfl (by simp only [↓nrmL, nrmZ, Nat.reduceEqDiff, ↓reduceIte, Nat.reduceAdd, Int.reduceBEq, Int.reduceBNe, x11, x8, x64, hc, hce, a0, p1, hL, p3, List.map]; rfl) rfl ?hv fun _ _ => ?_; case hv => (simp only [x11, x8, x64, hc, hce, a0, p1, hL, p3]; rfl))
     | (refine Fo.idx (by simp only [↓nrmL, nrmK, Nat.reduceEqDiff, ↓reduceIte]; rfl) rfl ?_ (by simp only [↓nrmL, nrmZ, Nat.reduceEqDiff, ↓reduceIte, Nat.reduceAdd, Int.reduceBEq, Int.reduceBNe, x11, x8, x64, hc, hce, a0, p1, hL, p3]; rfl) ?_; (focus omega))
     | (refine Fo.ldB rfl ?_ (by simp only [x11, x8, x64, hc, hce, a0, p1, hL, p3]; rfl) ?_; (focus omega))
     | (refine Fo.now rfl rfl (by simp only [↓nrmL, nrmZ, Nat.reduceEqDiff, ↓reduceIte, Nat.reduceAdd, Int.reduceBEq, Int.reduceBNe, x11, x8, x64, hc, hce, a0, p1, hL, p3]; rfl) ?_)
     | refine nl hKF ?_
     | refine sq ?_
     | refine rg fun KF hKF => ?_
     | refine ct rfl ?_
     | refine cf rfl ?_
     | refine sk ?_
     | refine rt ?_
     | refine Wp.block ?_
     | dsimp only [cond_true, cond_false]
    refine rz trivial ?_
    exact ⟨_, _, rfl, Or.inr (Or.inr rfl), Ext0.ext⟩
   cases p4 : decide (L ≤ 122)
   ·skip
    repeat first
     | (refine mv ?_)
     | refine oy ?_
     | refine ox ?_
     | (refine bn rfl rfl rfl (by simp only [x11, x8, x64, hc, hce, a0, p1, hL, p3, p4]; rfl) ?_)
     | refine tB ?_
     | refine fB ?_
     | (refine Fo.pcall (v' := ?_) hn rfl (by simp only [↓nrmL, nrmZ, Nat.reduceEqDiff, ↓reduceIte, Nat.reduceAdd, Int.reduceBEq, Int.reduceBNe, x11, x8, x64, hc, hce, a0, p1, hL, p3, p4, List.map]; rfl) rfl ?hv fun _ _ => ?_; case hv => (simp only [x11, x8, x64, hc, hce, a0, p1, hL, p3, p4]; rfl))
     | (refine Fo.idx (by simp only [↓nrmL, nrmK, Nat.reduceEqDiff, ↓reduceIte]; rfl) rfl ?_ (by simp only [↓nrmL, nrmZ, Nat.reduceEqDiff, ↓reduceIte, Nat.reduceAdd, Int.reduceBEq, Int.reduceBNe, x11, x8, x64, hc, hce, a0, p1, hL, p3, p4]; rfl) ?_; (focus omega))
     | (refine Fo.ldB rfl ?_ (by simp only [x11, x8, x64, hc, hce, a0, p1, hL, p3, p4]; rfl) ?_; (focus omega))
     | (refine Fo.now rfl rfl (by simp only [↓nrmL, nrmZ, Nat.reduceEqDiff, ↓reduceIte, Nat.reduceAdd, Int.reduceBEq, Int.reduceBNe, x11, x8, x64, hc, hce, a0, p1, hL, p3, p4]; rfl) ?_)
     | refine nl hKF ?_
     | refine sq ?_
     | refine rg fun KF hKF => ?_
     | refine ct rfl ?_
     | refine cf rfl ?_
     | refine sk ?_
     | refine rt ?_
     | refine Wp.block ?_
     | dsimp only [cond_true, cond_false]
    refine rz trivial ?_
    exact ⟨_, _, rfl, Or.inr (Or.inr rfl), Ext0.ext⟩
   have g3 := of_decide_eq_true p3
   have g4 := of_decide_eq_true p4
   have y1 : IntKind.u8.wrap (L - 97) = L - 97 := u8s (by omega) (by omega)
   have y2 : IntKind.u8.wrap (L - 97 + 10) = L - 97 + 10 := u8s (by omega) (by omega)
   have p5 : decide (L - 97 + 10 ≥ 10) = true := decide_eq_true (by omega)
   repeat first
    | (refine mv ?_)
    | refine oy ?_
    | refine ox ?_
    | (refine bn rfl rfl rfl (by simp only [x11, x8, x64, hc, hce, a0, p1, hL, p3, p4, y1, y2, p5]; rfl) ?_)
    | refine tB ?_
    | refine fB ?_
    | (refine Fo.pcall (v' := ?_) hn rfl (by simp only [↓nrmL, nrmZ, Nat.reduceEqDiff, ↓reduceIte, Nat.reduceAdd, Int.reduceBEq, Int.reduceBNe, x11, x8, x64, hc, hce, a0, p1, hL, p3, p4, y1, y2, p5, List.map]; rfl) rfl ?hv fun _ _ => ?_; case hv => (simp only [x11, x8, x64, hc, hce, a0, p1, hL, p3, p4, y1, y2, p5]; rfl))
    | (refine Fo.idx (by simp only [↓nrmL, nrmK, Nat.reduceEqDiff, ↓reduceIte]; rfl) rfl ?_ (by simp only [↓nrmL, nrmZ, Nat.reduceEqDiff, ↓reduceIte, Nat.reduceAdd, Int.reduceBEq, Int.reduceBNe, x11, x8, x64, hc, hce, a0, p1, hL, p3, p4, y1, y2, p5]; rfl) ?_; (focus omega))
    | (refine Fo.ldB rfl ?_ (by simp only [x11, x8, x64, hc, hce, a0, p1, hL, p3, p4, y1, y2, p5]; rfl) ?_; (focus omega))
    | (refine Fo.now rfl rfl (by simp only [x11, x8, x64, hc, hce, a0, p1, hL, p3, p4, y1, y2, p5]; rfl) ?_)
    | (refine Fo.now rfl rfl (by simp only [↓nrmL, nrmZ, Nat.reduceEqDiff, ↓reduceIte, Nat.reduceAdd, Int.reduceBEq, Int.reduceBNe, x11, x8, x64, hc, hce, a0, p1, hL, p3, p4, y1, y2, p5]; rfl) ?_)
    | refine nl hKF ?_
    | refine sq ?_
    | refine rg fun KF hKF => ?_
    | refine ct rfl ?_
    | refine cf rfl ?_
    | refine sk ?_
    | refine rt ?_
    | refine Wp.block ?_
    | dsimp only [cond_true, cond_false]
   refine rz trivial ?_
   exact ⟨_, _, rfl, Or.inr (Or.inr rfl), Ext0.ext⟩
  cases p2 : decide (((c.toNat : Nat) : Int) ≤ 57)
  ·obtain ⟨L, hL⟩ : ∃ L, Go.bits .or .u8 ((c.toNat : Nat) : Int) 32 = L := ⟨_, rfl⟩
   cases p3 : decide ((97 : Int) ≤ L)
   ·skip
    repeat first
     | (refine mv ?_)
     | refine oy ?_
     | refine ox ?_
     | (refine bn rfl rfl rfl (by simp only [x11, x8, x64, hc, hce, a0, p1, p2, hL, p3]; rfl) ?_)
     | refine tB ?_
     | refine fB ?_
     | (refine Fo.pcall (v' := ?_) hn rfl (by simp only [↓nrmL, nrmZ, Nat.reduceEqDiff, ↓reduceIte, Nat.reduceAdd, Int.reduceBEq, Int.reduceBNe, x11, x8, x64, hc, hce, a0, p1, p2, hL, p3, List.map]; rfl) rfl ?hv fun _ _ => ?_; case hv => (simp only [x11, x8, x64, hc, hce, a0, p1, p2, hL, p3]; rfl))
     | (refine Fo.idx (by simp only [↓nrmL, nrmK, Nat.reduceEqDiff, ↓reduceIte]; rfl) rfl ?_ (by simp only [↓nrmL, nrmZ, Nat.reduceEqDiff, ↓reduceIte, Nat.reduceAdd, Int.reduceBEq, Int.reduceBNe, x11, x8, x64, hc, hce, a0, p1, p2, hL, p3]; rfl) ?_; (focus omega))
     | (refine Fo.ldB rfl ?_ (by simp only [x11, x8, x64, hc, hce, a0, p1, p2, hL, p3]; rfl) ?_; (focus omega))
     | (refine Fo.now rfl rfl (by simp only [↓nrmL, nrmZ, Nat.reduceEqDiff, ↓reduceIte, Nat.reduceAdd, Int.reduceBEq, Int.reduceBNe, x11, x8, x64, hc, hce, a0, p1, p2, hL, p3]; rfl) ?_)
     | refine nl hKF ?_
     | refine sq ?_
     | refine rg fun KF hKF => ?_
     | refine ct rfl ?_
     | refine cf rfl ?_
     | refine sk ?_
     | refine rt ?_
     | refine Wp.block ?_
     | dsimp only [cond_true, cond_false]
    refine rz trivial ?_
    exact ⟨_, _, rfl, Or.inr (Or.inr rfl), Ext0.ext⟩
   cases p4 : decide (L ≤ 122)
   ·skip
    repeat first
     | (refine mv ?_)
     | refine oy ?_
     | refine ox ?_
     | (refine bn rfl rfl rfl (by simp only [x11, x8, x64, hc, hce, a0, p1, p2, hL, p3, p4]; rfl) ?_)
     | refine tB ?_
     | refine fB ?_
     | (refine Fo.pcall (v' := ?_) hn rfl (by simp only [↓nrmL, nrmZ, Nat.reduceEqDiff, ↓reduceIte, Nat.reduceAdd, Int.reduceBEq, Int.reduceBNe, x11, x8, x64, hc, hce, a0, p1, p2, hL, p3, p4, List.map]; rfl) rfl ?hv fun _ _ => ?_; case hv => (simp only [x11, x8, x64, hc, hce, a0, p1, p2, hL, p3, p4]; rfl))
     | (refine Fo.idx (by simp only [↓nrmL, nrmK, Nat.reduceEqDiff, ↓reduceIte]; rfl) rfl ?_ (by simp only [↓nrmL, nrmZ, Nat.reduceEqDiff, ↓reduceIte, Nat.reduceAdd, Int.reduceBEq, Int.reduceBNe, x11, x8, x64, hc, hce, a0, p1, p2, hL, p3, p4]; rfl) ?_; (focus omega))
     | (refine Fo.ldB rfl ?_ (by simp only [x11, x8, x64, hc, hce, a0, p1, p2, hL, p3, p4]; rfl) ?_; (focus omega))
     | (refine Fo.now rfl rfl (by simp only [↓nrmL, nrmZ, Nat.reduceEqDiff, ↓reduceIte, Nat.reduceAdd, Int.reduceBEq, Int.reduceBNe, x11, x8, x64, hc, hce, a0, p1, p2, hL, p3, p4]; rfl) ?_)
     | refine nl hKF ?_
     | refine sq ?_
     | refine rg fun KF hKF => ?_
     | refine ct rfl ?_
     | refine cf rfl ?_
     | refine sk ?_
     | refine rt ?_
     | refine Wp.block ?_
     | dsimp only [cond_true, cond_false]
    refine rz trivial ?_
    exact ⟨_, _, rfl, Or.inr (Or.inr rfl), Ext0.ext⟩
   have g3 := of_decide_eq_true p3
   have g4 := of_decide_eq_true p4
   have y1 : IntKind.u8.wrap (L - 97) = L - 97 := u8s (by omega) (by omega)
   have y2 : IntKind.u8.wrap (L - 97 + 10) = L - 97 + 10 := u8s (by omega) (by omega)
   have p5 : decide (L - 97 + 10 ≥ 10) = true := decide_eq_true (by omega)
   repeat first
    | (refine mv ?_)
    | refine oy ?_
    | refine ox ?_
    | (refine bn rfl rfl rfl (by simp only [x11, x8, x64, hc, hce, a0, p1, p2, hL, p3, p4, y1, y2, p5]; rfl) ?_)
    | refine tB ?_
    | refine fB ?_
    | (refine Fo.pcall (v' := ?_) hn rfl (by simp only [↓nrmL, nrmZ, Nat.reduceEqDiff, ↓reduceIte, Nat.reduceAdd, Int.reduceBEq, Int.reduceBNe, x11, x8, x64, hc, hce, a0, p1, p2, hL, p3, p4, y1, y2, p5, List.map]; rfl) rfl ?hv fun _ _ => ?_; case hv => (simp only [x11, x8, x64, hc, hce, a0, p1, p2, hL, p3, p4, y1, y2, p5]; rfl))
    | (refine Fo.idx (by simp only [↓nrmL, nrmK, Nat.reduceEqDiff, ↓reduceIte]; rfl) rfl ?_ (by simp only [↓nrmL, nrmZ, Nat.reduceEqDiff, ↓reduceIte, Nat.reduceAdd, Int.reduceBEq, Int.reduceBNe, x11, x8, x64, hc, hce, a0, p1, p2, hL, p3, p4, y1, y2, p5]; rfl) ?_; (focus omega))
    | (refine Fo.ldB rfl ?_ (by simp only [x11, x8, x64, hc, hce, a0, p1, p2, hL, p3, p4, y1, y2, p5]; rfl) ?_; (focus omega))
    | (refine Fo.now rfl rfl (by simp only [x11, x8, x64, hc, hce, a0, p1, p2, hL, p3, p4, y1, y2, p5]; rfl) ?_)
    | (refine Fo.now rfl rfl (by simp only [↓nrmL, nrmZ, Nat.reduceEqDiff, ↓reduceIte, Nat.reduceAdd, Int.reduceBEq, Int.reduceBNe, x11, x8, x64, hc, hce, a0, p1, p2, hL, p3, p4, y1, y2, p5]; rfl) ?_)
    | refine nl hKF ?_
    | refine sq ?_
    | refine rg fun KF hKF => ?_
    | refine ct rfl ?_
    | refine cf rfl ?_
    | refine sk ?_
    | refine rt ?_
    | refine Wp.block ?_
    | dsimp only [cond_true, cond_false]
   refine rz trivial ?_
   exact ⟨_, _, rfl, Or.inr (Or.inr rfl), Ext0.ext⟩
  have g1 := of_decide_eq_true p1
  have g2 := of_decide_eq_true p2
  obtain ⟨D, hD⟩ : ∃ D : Int, ((c.toNat : Nat) : Int) - 48 = D := ⟨_, rfl⟩
  have w8 : IntKind.u8.wrap (((c.toNat : Nat) : Int) - 48) = D := by rw [u8s (by omega) (by omega)]; exact hD
  have w64 : IntKind.u64.wrap D = D := u64s (by omega) (by omega)
  have p5 : decide (D ≥ 10) = false := decide_eq_false (by omega)
  cases p6 : decide (n ≥ 1844674407370955162)
  rotate_left
  ·skip
   repeat first
    | (refine mv ?_)
    | refine oy ?_
    | refine ox ?_
    | (refine bn rfl rfl rfl (by simp only [x11, x8, x64, hc, hce, a0, p1, p2, w8, w64, p5, p6]; rfl) ?_)
    | refine tB ?_
    | refine fB ?_
    | (refine Fo.idx (by simp only [↓nrmL, nrmK, Nat.reduceEqDiff, ↓reduceIte]; rfl) rfl ?_ (by simp only [↓nrmL, nrmZ, Nat.reduceEqDiff, ↓reduceIte, Nat.reduceAdd, Int.reduceBEq, Int.reduceBNe, x11, x8, x64, hc, hce, a0, p1, p2, w8, w64, p5, p6]; rfl) ?_; (focus omega))
    | (refine Fo.ldB rfl ?_ (by simp only [x11, x8, x64, hc, hce, a0, p1, p2, w8, w64, p5, p6]; rfl) ?_; (focus omega))
    | (refine Fo.now rfl rfl (by simp only [x11, x8, x64, hc, hce, a0, p1, p2, w8, w64, p5, p6]; rfl) ?_)
    | (refine Fo.now rfl rfl (by simp only [↓nrmL, nrmZ, Nat.reduceEqDiff, ↓reduceIte, Nat.reduceAdd, Int.reduceBEq, Int.reduceBNe, x11, x8, x64, hc, hce, a0, p1, p2, w8, w64, p5, p6]; rfl) ?_)
    | refine nl hKF ?_
    | refine sq ?_
    | refine rg fun KF hKF => ?_
    | refine ct rfl ?_
    | refine cf rfl ?_
    | refine sk ?_
    | refine rt ?_
    | refine Wp.block ?_
    | dsimp only [cond_true, cond_false]
   refine rz trivial ?_
   exact ⟨_, _, rfl, Or.inr (Or.inl rfl), Ext0.ext⟩
  obtain ⟨n2, hn2⟩ : ∃ z, IntKind.u64.wrap (n * 10) = z := ⟨_, rfl⟩
  obtain ⟨n1, hn1⟩ : ∃ z, IntKind.u64.wrap (n2 + D) = z := ⟨_, rfl⟩
  cases p7 : decide (n1 < n2)
  rotate_left
  ·skip
   repeat first
    | (refine mv ?_)
    | refine oy ?_
    | refine ox ?_
    | (refine bn rfl rfl rfl (by simp only [x11, x8, x64, hc, hce, a0, p1, p2, w8, w64, p5, p6, hn2, hn1, p7]; rfl) ?_)
    | refine tB ?_
    | refine fB ?_
    | (refine Fo.idx (by simp only [↓nrmL, nrmK, Nat.reduceEqDiff, ↓reduceIte]; rfl) rfl ?_ (by simp only [↓nrmL, nrmZ, Nat.reduceEqDiff, ↓reduceIte, Nat.reduceAdd, Int.reduceBEq, Int.reduceBNe, x11, x8, x64, hc, hce, a0, p1, p2, w8, w64, p5, p6, hn2, hn1, p7]; rfl) ?_; (focus omega))
    | (refine Fo.ldB rfl ?_ (by simp only [x11, x8, x64, hc, hce, a0, p1, p2, w8, w64, p5, p6, hn2, hn1, p7]; rfl) ?_; (focus omega))
    | (refine Fo.now rfl rfl (by simp only [x11, x8, x64, hc, hce, a0, p1, p2, w8, w64, p5, p6, hn2, hn1, p7]; rfl) ?_)
    | (refine Fo.now rfl rfl (by simp only [↓nrmL, nrmZ, Nat.reduceEqDiff, ↓reduceIte, Nat.reduceAdd, Int.reduceBEq, Int.reduceBNe, x11, x8, x64, hc, hce, a0, p1, p2, w8, w64, p5, p6, hn2, hn1, p7]; rfl) ?_)
    | refine nl hKF ?_
    | refine sq ?_
    | refine rg fun KF hKF => ?_
    | refine ct rfl ?_
    | refine cf rfl ?_
    | refine sk ?_
    | refine rt ?_
    | refine Wp.block ?_
    | dsimp only [cond_true, cond_false]
   refine rz trivial ?_
   exact ⟨_, _, rfl, Or.inr (Or.inl rfl), Ext0.ext⟩
  cases p8 : decide (n1 > 18446744073709551615)
  rotate_left
  ·skip
   repeat first
    | (refine mv ?_)
    | refine oy ?_
    | refine ox ?_
    | (refine bn rfl rfl rfl (by simp only [x11, x8, x64, hc, hce, a0, p1, p2, w8, w64, p5, p6, hn2, hn1, p7, p8]; rfl) ?_)
    | refine tB ?_
    | refine fB ?_
    | (refine Fo.idx (by simp only [↓nrmL, nrmK, Nat.reduceEqDiff, ↓reduceIte]; rfl) rfl ?_ (by simp only [↓nrmL, nrmZ, Nat.reduceEqDiff, ↓reduceIte, Nat.reduceAdd, Int.reduceBEq, Int.reduceBNe, x11, x8, x64, hc, hce, a0, p1, p2, w8, w64, p5, p6, hn2, hn1, p7, p8]; rfl) ?_; (focus omega))
    | (refine Fo.ldB rfl ?_ (by simp only [x11, x8, x64, hc, hce, a0, p1, p2, w8, w64, p5, p6, hn2, hn1, p7, p8]; rfl) ?_; (focus omega))
    | (refine Fo.now rfl rfl (by simp only [x11, x8, x64, hc, hce, a0, p1, p2, w8, w64, p5, p6, hn2, hn1, p7, p8]; rfl) ?_)
    | (refine Fo.now rfl rfl (by simp only [↓nrmL, nrmZ, Nat.reduceEqDiff, ↓reduceIte, Nat.reduceAdd, Int.reduceBEq, Int.reduceBNe, x11, x8, x64, hc, hce, a0, p1, p2, w8, w64, p5, p6, hn2, hn1, p7, p8]; rfl) ?_)
    | refine nl hKF ?_
    | refine sq ?_
    | refine rg fun KF hKF => ?_
    | refine ct rfl ?_
    | refine cf rfl ?_
    | refine sk ?_
    | refine rt ?_
    | refine Wp.block ?_
    | dsimp only [cond_true, cond_false]
   refine rz trivial ?_
   exact ⟨_, _, rfl, Or.inr (Or.inl rfl), Ext0.ext⟩
  repeat first
   | (refine mv ?_)
   | refine oy ?_
   | refine ox ?_
   | (refine bn rfl rfl rfl (by simp only [x11, x8, x64, hc, hce, a0, p1, p2, w8, w64, p5, p6, hn2, hn1, p7, p8]; rfl) ?_)
   | refine b0 ?_
   | refine tB ?_
   | refine fB ?_
   | (refine Fo.idx (by simp only [↓nrmL, nrmK, Nat.reduceEqDiff, ↓reduceIte]; rfl) rfl ?_ (by simp only [↓nrmL, nrmZ, Nat.reduceEqDiff, ↓reduceIte, Nat.reduceAdd, Int.reduceBEq, Int.reduceBNe, x11, x8, x64, hc, hce, a0, p1, p2, w8, w64, p5, p6, hn2, hn1, p7, p8]; rfl) ?_; (focus omega))
   | (refine Fo.ldB rfl ?_ (by simp only [x11, x8, x64, hc, hce, a0, p1, p2, w8, w64, p5, p6, hn2, hn1, p7, p8]; rfl) ?_; (focus omega))
   | (refine Fo.now rfl rfl (by simp only [x11, x8, x64, hc, hce, a0, p1, p2, w8, w64, p5, p6, hn2, hn1, p7, p8]; rfl) ?_)
   | refine nl hKF ?_
   | refine sq ?_
   | refine rg fun KF hKF => ?_
   | refine ct rfl ?_
   | refine cf rfl ?_
   | refine sk ?_
   | refine Wp.block ?_
   | dsimp only [cond_true, cond_false]
  exact ⟨(i + 1, n1), by dsimp only; omega, ⟨by simp only [↓nrmL, nrmZ, Nat.reduceEqDiff, ↓reduceIte, Nat.reduceAdd, Int.reduceBEq, Int.reduceBNe]; rw [hw1], rfl, rfl, trivial⟩, by dsimp only; omega, Ext0.ext⟩
 ·skip
  cases p1 : decide ((48 : Int) ≤ ((c.toNat : Nat) : Int))
  ·obtain ⟨L, hL⟩ : ∃ L, Go.bits .or .u8 ((c.toNat : Nat) : Int) 32 = L := ⟨_, rfl⟩
   cases p3 : decide ((97 : Int) ≤ L)
   ·skip
    repeat first
     | (refine mv ?_)
     | refine oy ?_
     | refine ox ?_
     | (refine bn rfl rfl rfl (by simp only [x11, x8, x64, hc, hce, a0, p1, hL, p3]; rfl) ?_)
     | refine tB ?_
     | refine fB ?_
     | (refine Fo.pcall (v' := ?_) hn rfl (by simp only [↓nrmL, nrmZ, Nat.reduceEqDiff, ↓reduceIte, Nat.reduceAdd, Int.reduceBEq, Int.reduceBNe, x11, x8, x64, hc, hce, a0, p1, hL, p3, List.map]; rfl) rfl ?hv fun _ _ => ?_; case hv => (simp only [x11, x8, x64, hc, hce, a0, p1, hL, p3]; rfl))
     | (refine Fo.idx (by simp only [↓nrmL, nrmK, Nat.reduceEqDiff, ↓reduceIte]; rfl) rfl ?_ (by simp only [↓nrmL, nrmZ, Nat.reduceEqDiff, ↓reduceIte, Nat.reduceAdd, Int.reduceBEq, Int.reduceBNe, x11, x8, x64, hc, hce, a0, p1, hL, p3]; rfl) ?_; (focus omega))
     | (refine Fo.ldB rfl ?_ (by simp only [x11, x8, x64, hc, hce, a0, p1, hL, p3]; rfl) ?_; (focus omega))
     | (refine Fo.now rfl rfl (by simp only [↓nrmL, nrmZ, Nat.reduceEqDiff, ↓reduceIte, Nat.reduceAdd, Int.reduceBEq, Int.reduceBNe, x11, x8, x64, hc, hce, a0, p1, hL, p3]; rfl) ?_)
     | refine nl hKF ?_
     | refine sq ?_
     | refine rg fun KF hKF => ?_
     | refine ct rfl ?_
     | refine cf rfl ?_
     | refine sk ?_
     | refine rt ?_
     | refine Wp.block ?_
     | dsimp only [cond_true, cond_false]
    refine rz trivial ?_
    exact ⟨_, _, rfl, Or.inr (Or.inr rfl), Ext0.ext⟩
   cases p4 : decide (L ≤ 122)
   ·skip
    repeat first
     | (refine mv ?_)
     | refine oy ?_
     | refine ox ?_
     | (refine bn rfl rfl rfl (by simp only [x11, x8, x64, hc, hce, a0, p1, hL, p3, p4]; rfl) ?_)
     | refine tB ?_
     | refine fB ?_
     | (refine Fo.pcall (v' := ?_) hn rfl (by simp only [↓nrmL, nrmZ, Nat.reduceEqDiff, ↓reduceIte, Nat.reduceAdd, Int.reduceBEq, Int.reduceBNe, x11, x8, x64, hc, hce, a0, p1, hL, p3, p4, List.map]; rfl) rfl ?hv fun _ _ => ?_; case hv => (simp only [x11, x8, x64, hc, hce, a0, p1, hL, p3, p4]; rfl))
     | (refine Fo.idx (by simp only [↓nrmL, nrmK, Nat.reduceEqDiff, ↓reduceIte]; rfl) rfl ?_ (by simp only [↓nrmL, nrmZ, Nat.reduceEqDiff, ↓reduceIte, Nat.reduceAdd, Int.reduceBEq, Int.reduceBNe, x11, x8, x64, hc, hce, a0, p1, hL, p3, p4]; rfl) ?_; (focus omega))
     | (refine Fo.ldB rfl ?_ (by simp only [x11, x8, x64, hc, hce, a0, p1, hL, p3, p4]; rfl) ?_; (focus omega))
     | (refine Fo.now rfl rfl (by simp only [↓nrmL, nrmZ, Nat.reduceEqDiff, ↓reduceIte, Nat.reduceAdd, Int.reduceBEq, Int.reduceBNe, x11, x8, x64, hc, hce, a0, p1, hL, p3, p4]; rfl) ?_)
     | refine nl hKF ?_
     | refine sq ?_
     | refine rg fun KF hKF => ?_
     | refine ct rfl ?_
     | refine cf rfl ?_
     | refine sk ?_
     | refine rt ?_
     | refine Wp.block ?_
     | dsimp only [cond_true, cond_false]
    refine rz trivial ?_
    exact ⟨_, _, rfl, Or.inr (Or.inr rfl), Ext0.ext⟩
   have g3 := of_decide_eq_true p3
   have g4 := of_decide_eq_true p4
   have y1 : IntKind.u8.wrap (L - 97) = L - 97 := u8s (by omega) (by omega)
   have y2 : IntKind.u8.wrap (L - 97 + 10) = L - 97 + 10 := u8s (by omega) (by omega)
   have p5 : decide (L - 97 + 10 ≥ 10) = true := decide_eq_true (by omega)
   repeat first
    | (refine mv ?_)
    | refine oy ?_
    | refine ox ?_
    | (refine bn rfl rfl rfl (by simp only [x11, x8, x64, hc, hce, a0, p1, hL, p3, p4, y1, y2, p5]; rfl) ?_)
    | refine tB ?_
    | refine fB ?_
    | (refine Fo.pcall (v' := ?_) hn rfl (by simp only [↓nrmL, nrmZ, Nat.reduceEqDiff, ↓reduceIte, Nat.reduceAdd, Int.reduceBEq, Int.reduceBNe, x11, x8, x64, hc, hce, a0, p1, hL, p3, p4, y1, y2, p5, List.map]; rfl) rfl ?hv fun _ _ => ?_; case hv => (simp only [x11, x8, x64, hc, hce, a0, p1, hL, p3, p4, y1, y2, p5]; rfl))
    | (refine Fo.idx (by simp only [↓nrmL, nrmK, Nat.reduceEqDiff, ↓reduceIte]; rfl) rfl ?_ (by simp only [↓nrmL, nrmZ, Nat.reduceEqDiff, ↓reduceIte, Nat.reduceAdd, Int.reduceBEq, Int.reduceBNe, x11, x8, x64, hc, hce, a0, p1, hL, p3, p4, y1, y2, p5]; rfl) ?_; (focus omega))
    | (refine Fo.ldB rfl ?_ (by simp only [x11, x8, x64, hc, hce, a0, p1, hL, p3, p4, y1, y2, p5]; rfl) ?_; (focus omega))
    | (refine Fo.now rfl rfl (by simp only [x11, x8, x64, hc, hce, a0, p1, hL, p3, p4, y1, y2, p5]; rfl) ?_)
    | (refine Fo.now rfl rfl (by simp only [↓nrmL, nrmZ, Nat.reduceEqDiff, ↓reduceIte, Nat.reduceAdd, Int.reduceBEq, Int.reduceBNe, x11, x8, x64, hc, hce, a0, p1, hL, p3, p4, y1, y2, p5]; rfl) ?_)
    | refine nl hKF ?_
    | refine sq ?_
    | refine rg fun KF hKF => ?_
    | refine ct rfl ?_
    | refine cf rfl ?_
    | refine sk ?_
    | refine rt ?_
    | refine Wp.block ?_
    | dsimp only [cond_true, cond_false]
   refine rz trivial ?_
   exact ⟨_, _, rfl, Or.inr (Or.inr rfl), Ext0.ext⟩
  cases p2 : decide (((c.toNat : Nat) : Int) ≤ 57)
  ·obtain ⟨L, hL⟩ : ∃ L, Go.bits .or .u8 ((c.toNat : Nat) : Int) 32 = L := ⟨_, rfl⟩
   cases p3 : decide ((97 : Int) ≤ L)
   ·skip
    repeat first
     | (refine mv ?_)
     | refine oy ?_
     | refine ox ?_
     | (refine bn rfl rfl rfl (by simp only [x11, x8, x64, hc, hce, a0, p1, p2, hL, p3]; rfl) ?_)
     | refine tB ?_
     | refine fB ?_
     | (refine Fo.pcall (v' := ?_) hn rfl (by simp only [↓nrmL, nrmZ, Nat.reduceEqDiff, ↓reduceIte, Nat.reduceAdd, Int.reduceBEq, Int.reduceBNe, x11, x8, x64, hc, hce, a0, p1, p2, hL, p3, List.map]; rfl) rfl ?hv fun _ _ => ?_; case hv => (simp only [x11, x8, x64, hc, hce, a0, p1, p2, hL, p3]; rfl))
     | (refine Fo.idx (by simp only [↓nrmL, nrmK, Nat.reduceEqDiff, ↓reduceIte]; rfl) rfl ?_ (by simp only [↓nrmL, nrmZ, Nat.reduceEqDiff, ↓reduceIte, Nat.reduceAdd, Int.reduceBEq, Int.reduceBNe, x11, x8, x64, hc, hce, a0, p1, p2, hL, p3]; rfl) ?_; (focus omega))
     | (refine Fo.ldB rfl ?_ (by simp only [x11, x8, x64, hc, hce, a0, p1, p2, hL, p3]; rfl) ?_; (focus omega))
     | (refine Fo.now rfl rfl (by simp only [↓nrmL, nrmZ, Nat.reduceEqDiff, ↓reduceIte, Nat.reduceAdd, Int.reduceBEq, Int.reduceBNe, x11, x8, x64, hc, hce, a0, p1, p2, hL, p3]; rfl) ?_)
     | refine nl hKF ?_
     | refine sq ?_
     | refine rg fun KF hKF => ?_
     | refine ct rfl ?_
     | refine cf rfl ?_
     | refine sk ?_
     | refine rt ?_
     | refine Wp.block ?_
     | dsimp only [cond_true, cond_false]
    refine rz trivial ?_
    exact ⟨_, _, rfl, Or.inr (Or.inr rfl), Ext0.ext⟩
   cases p4 : decide (L ≤ 122)
   ·skip
    repeat first
     | (refine mv ?_)
     | refine oy ?_
     | (refine bn rfl rfl rfl (by simp only [x11, x8, x64, hc, hce, a0, p1, p2, hL, p3, p4]; rfl) ?_)
     | refine tB ?_
     | (refine Fo.pcall (v' := ?_) hn rfl (by simp only [↓nrmL, nrmZ, Nat.reduceEqDiff, ↓reduceIte, Nat.reduceAdd, Int.reduceBEq, Int.reduceBNe, x11, x8, x64, hc, hce, a0, p1, p2, hL, p3, p4, List.map]; rfl) rfl ?hv fun _ _ => ?_; case hv => (simp only [x11, x8, x64, hc, hce, a0, p1, p2, hL, p3, p4]; rfl))
     | (refine Fo.idx (by simp only [↓nrmL, nrmK, Nat.reduceEqDiff, ↓reduceIte]; rfl) rfl ?_ (by simp only [↓nrmL, nrmZ, Nat.reduceEqDiff, ↓reduceIte, Nat.reduceAdd, Int.reduceBEq, Int.reduceBNe, x11, x8, x64, hc, hce, a0, p1, p2, hL, p3, p4]; rfl) ?_; (focus omega))
     | (refine Fo.ldB rfl ?_ (by simp only [x11, x8, x64, hc, hce, a0, p1, p2, hL, p3, p4]; rfl) ?_; (focus omega))
     | (refine Fo.now rfl rfl (by simp only [↓nrmL, nrmZ, Nat.reduceEqDiff, ↓reduceIte, Nat.reduceAdd, Int.reduceBEq, Int.reduceBNe, x11, x8, x64, hc, hce, a0, p1, p2, hL, p3, p4]; rfl) ?_)
     | refine nl hKF ?_
     | refine sq ?_
     | refine rg fun KF hKF => ?_
     | refine ct rfl ?_
     | refine cf rfl ?_
     | refine sk ?_
     | refine rt ?_
     | refine Wp.block ?_
     | dsimp only [cond_true, cond_false]
    refine rz trivial ?_
    exact ⟨_, _, rfl, Or.inr (Or.inr rfl), Ext0.ext⟩
   have g3 := of_decide_eq_true p3
   have g4 := of_decide_eq_true p4
   have y1 : IntKind.u8.wrap (L - 97) = L - 97 := u8s (by omega) (by omega)
   have y2 : IntKind.u8.wrap (L - 97 + 10) = L - 97 + 10 := u8s (by omega) (by omega)
   have p5 : decide (L - 97 + 10 ≥ 10) = true := decide_eq_true (by omega)
   repeat first
    | (refine mv ?_)
    | refine oy ?_
    | (refine bn rfl rfl rfl (by simp only [x11, x8, x64, hc, hce, a0, p1, p2, hL, p3, p4, y1, y2, p5]; rfl) ?_)
    | refine tB ?_
    | (refine Fo.pcall (v' := ?_) hn rfl (by simp only [↓nrmL, nrmZ, Nat.reduceEqDiff, ↓reduceIte, Nat.reduceAdd, Int.reduceBEq, Int.reduceBNe, x11, x8, x64, hc, hce, a0, p1, p2, hL, p3, p4, y1, y2, p5, List.map]; rfl) rfl ?hv fun _ _ => ?_; case hv => (simp only [x11, x8, x64, hc, hce, a0, p1, p2, hL, p3, p4, y1, y2, p5]; rfl))
    | (refine Fo.idx (by simp only [↓nrmL, nrmK, Nat.reduceEqDiff, ↓reduceIte]; rfl) rfl ?_ (by simp only [↓nrmL, nrmZ, Nat.reduceEqDiff, ↓reduceIte, Nat.reduceAdd, Int.reduceBEq, Int.reduceBNe, x11, x8, x64, hc, hce, a0, p1, p2, hL, p3, p4, y1, y2, p5]; rfl) ?_; (focus omega))
    | (refine Fo.ldB rfl ?_ (by simp only [x11, x8, x64, hc, hce, a0, p1, p2, hL, p3, p4, y1, y2, p5]; rfl) ?_; (focus omega))
    | (refine Fo.now rfl rfl (by simp only [x11, x8, x64, hc, hce, a0, p1, p2, hL, p3, p4, y1, y2, p5]; rfl) ?_)
    | (refine Fo.now rfl rfl (by simp only [↓nrmL, nrmZ, Nat.reduceEqDiff, ↓reduceIte, Nat.reduceAdd, Int.reduceBEq, Int.reduceBNe, x11, x8, x64, hc, hce, a0, p1, p2, hL, p3, p4, y1, y2, p5]; rfl) ?_)
    | refine nl hKF ?_
    | refine sq ?_
    | refine rg fun KF hKF => ?_
    | refine ct rfl ?_
    | refine cf rfl ?_
    | refine sk ?_
    | refine rt ?_
    | refine Wp.block ?_
    | dsimp only [cond_true, cond_false]
   refine rz trivial ?_
   exact ⟨_, _, rfl, Or.inr (Or.inr rfl), Ext0.ext⟩
  have g1 := of_decide_eq_true p1
  have g2 := of_decide_eq_true p2
  obtain ⟨D, hD⟩ : ∃ D : Int, ((c.toNat : Nat) : Int) - 48 = D := ⟨_, rfl⟩
  have w8 : IntKind.u8.wrap (((c.toNat : Nat) : Int) - 48) = D := by rw [u8s (by omega) (by omega)]; exact hD
  have w64 : IntKind.u64.wrap D = D := u64s (by omega) (by omega)
  have p5 : decide (D ≥ 10) = false := decide_eq_false (by omega)
  cases p6 : decide (n ≥ 1844674407370955162)
  rotate_left
  ·skip
   repeat first
    | (refine mv ?_)
    | refine oy ?_
    | (refine bn rfl rfl rfl (by simp only [x11, x8, x64, hc, hce, a0, p1, p2, w8, w64, p5, p6]; rfl) ?_)
    | refine tB ?_
    | (refine Fo.idx (by simp only [↓nrmL, nrmK, Nat.reduceEqDiff, ↓reduceIte]; rfl) rfl ?_ (by simp only [↓nrmL, nrmZ, Nat.reduceEqDiff, ↓reduceIte, Nat.reduceAdd, Int.reduceBEq, Int.reduceBNe, x11, x8, x64, hc, hce, a0, p1, p2, w8, w64, p5, p6]; rfl) ?_; (focus omega))
    | (refine Fo.ldB rfl ?_ (by simp only [x11, x8, x64, hc, hce, a0, p1, p2, w8, w64, p5, p6]; rfl) ?_; (focus omega))
    | (refine Fo.now rfl rfl (by simp only [x11, x8, x64, hc, hce, a0, p1, p2, w8, w64, p5, p6]; rfl) ?_)
    | (refine Fo.now rfl rfl (by simp only [↓nrmL, nrmZ, Nat.reduceEqDiff, ↓reduceIte, Nat.reduceAdd, Int.reduceBEq, Int.reduceBNe, x11, x8, x64, hc, hce, a0, p1, p2, w8, w64, p5, p6]; rfl) ?_)
    | refine nl hKF ?_
    | refine sq ?_
    | refine rg fun KF hKF => ?_
    | refine ct rfl ?_
    | refine cf rfl ?_
    | refine sk ?_
    | refine rt ?_
    | refine Wp.block ?_
    | dsimp only [cond_true, cond_false]
   refine rz trivial ?_
   exact ⟨_, _, rfl, Or.inr (Or.inl rfl), Ext0.ext⟩
  obtain ⟨n2, hn2⟩ : ∃ z, IntKind.u64.wrap (n * 10) = z := ⟨_, rfl⟩
  obtain ⟨n1, hn1⟩ : ∃ z, IntKind.u64.wrap (n2 + D) = z := ⟨_, rfl⟩
  cases p7 : decide (n1 < n2)
  rotate_left
  ·skip
   repeat first
    | (refine mv ?_)
    | refine oy ?_
    | refine ox ?_
    | (refine bn rfl rfl rfl (by simp only [x11, x8, x64, hc, hce, a0, p1, p2, w8, w64, p5, p6, hn2, hn1, p7]; rfl) ?_)
    | refine tB ?_
    | (refine Fo.idx (by simp only [↓nrmL, nrmK, Nat.reduceEqDiff, ↓reduceIte]; rfl) rfl ?_ (by simp only [↓nrmL, nrmZ, Nat.reduceEqDiff, ↓reduceIte, Nat.reduceAdd, Int.reduceBEq, Int.reduceBNe, x11, x8, x64, hc, hce, a0, p1, p2, w8, w64, p5, p6, hn2, hn1, p7]; rfl) ?_; (focus omega))
    | (refine Fo.ldB rfl ?_ (by simp only [x11, x8, x64, hc, hce, a0, p1, p2, w8, w64, p5, p6, hn2, hn1, p7]; rfl) ?_; (focus omega))
    | (refine Fo.now rfl rfl (by simp only [x11, x8, x64, hc, hce, a0, p1, p2, w8, w64, p5, p6, hn2, hn1, p7]; rfl) ?_)
    | (refine Fo.now rfl rfl (by simp only [↓nrmL, nrmZ, Nat.reduceEqDiff, ↓reduceIte, Nat.reduceAdd, Int.reduceBEq, Int.reduceBNe, x11, x8, x64, hc, hce, a0, p1, p2, w8, w64, p5, p6, hn2, hn1, p7]; rfl) ?_)
    | refine nl hKF ?_
    | refine sq ?_
    | refine rg fun KF hKF => ?_
    | refine ct rfl ?_
    | refine cf rfl ?_
    | refine sk ?_
    | refine rt ?_
    | refine Wp.block ?_
    | dsimp only [cond_true, cond_false]
   refine rz trivial ?_
   exact ⟨_, _, rfl, Or.inr (Or.inl rfl), Ext0.ext⟩
  cases p8 : decide (n1 > 18446744073709551615)
  rotate_left
  ·skip
   repeat first
    | (refine mv ?_)
    | refine oy ?_
    | (refine bn rfl rfl rfl (by simp only [x11, x8, x64, hc, hce, a0, p1, p2, w8, w64, p5, p6, hn2, hn1, p7, p8]; rfl) ?_)
    | refine tB ?_
    | refine fB ?_
    | (refine Fo.idx (by simp only [↓nrmL, nrmK, Nat.reduceEqDiff, ↓reduceIte]; rfl) rfl ?_ (by simp only [↓nrmL, nrmZ, Nat.reduceEqDiff, ↓reduceIte, Nat.reduceAdd, Int.reduceBEq, Int.reduceBNe, x11, x8, x64, hc, hce, a0, p1, p2, w8, w64, p5, p6, hn2, hn1, p7, p8]; rfl) ?_; (focus omega))
    | (refine Fo.ldB rfl ?_ (by simp only [x11, x8, x64, hc, hce, a0, p1, p2, w8, w64, p5, p6, hn2, hn1, p7, p8]; rfl) ?_; (focus omega))
    | (refine Fo.now rfl rfl (by simp only [x11, x8, x64, hc, hce, a0, p1, p2, w8, w64, p5, p6, hn2, hn1, p7, p8]; rfl) ?_)
    | (refine Fo.now rfl rfl (by simp only [↓nrmL, nrmZ, Nat.reduceEqDiff, ↓reduceIte, Nat.reduceAdd, Int.reduceBEq, Int.reduceBNe, x11, x8, x64, hc, hce, a0, p1, p2, w8, w64, p5, p6, hn2, hn1, p7, p8]; rfl) ?_)
    | refine nl hKF ?_
    | refine sq ?_
    | refine rg fun KF hKF => ?_
    | refine ct rfl ?_
    | refine cf rfl ?_
    | refine sk ?_
    | refine rt ?_
    | refine Wp.block ?_
    | dsimp only [cond_true, cond_false]
   refine rz trivial ?_
   exact ⟨_, _, rfl, Or.inr (Or.inl rfl), Ext0.ext⟩
  repeat first
   | (refine mv ?_)
   | refine oy ?_
   | (refine bn rfl rfl rfl (by simp only [x11, x8, x64, hc, hce, a0, p1, p2, w8, w64, p5, p6, hn2, hn1, p7, p8]; rfl) ?_)
   | refine b0 ?_
   | refine tB ?_
   | refine fB ?_
   | (refine Fo.idx (by simp only [↓nrmL, nrmK, Nat.reduceEqDiff, ↓reduceIte]; rfl) rfl ?_ (by simp only [↓nrmL, nrmZ, Nat.reduceEqDiff, ↓reduceIte, Nat.reduceAdd, Int.reduceBEq, Int.reduceBNe, x11, x8, x64, hc, hce, a0, p1, p2, w8, w64, p5, p6, hn2, hn1, p7, p8]; rfl) ?_; (focus omega))
   | (refine Fo.ldB rfl ?_ (by simp only [x11, x8, x64, hc, hce, a0, p1, p2, w8, w64, p5, p6, hn2, hn1, p7, p8]; rfl) ?_; (focus omega))
   | (refine Fo.now rfl rfl (by simp only [x11, x8, x64, hc, hce, a0, p1, p2, w8, w64, p5, p6, hn2, hn1, p7, p8]; rfl) ?_)
   | refine nl hKF ?_
   | refine sq ?_
   | refine rg fun KF hKF => ?_
   | refine ct rfl ?_
   | refine cf rfl ?_
   | refine sk ?_
   | refine Wp.block ?_
   | dsimp only [cond_true, cond_false]
  exact ⟨(i + 1, n1), by dsimp only; omega, ⟨by simp only [↓nrmL, nrmZ, Nat.reduceEqDiff, ↓reduceIte, Nat.reduceAdd, Int.reduceBEq, Int.reduceBNe]; rw [hw1], rfl, rfl, trivial⟩, by dsimp only; omega, Ext0.ext⟩
end Go.Am
namespace Go.Am
open Go
attribute [local irreducible] Wp WpO WpX WpE
theorem drop1_47 {l : Bs} (h : Len47 l) : Len47 (l.drop 1) := ⟨by have := h.le; rw [List.length_drop]; omega⟩
theorem K_ParseInt {l : Bs} {H : AHeap} [hl : Len47 l] : Con ext prog 3 125 [strV l, .int .i64 10, .int .i64 0] H fun v H' => ∃ n e, v = .tuple [.int .i64 n, e] ∧ (e = .niface ∨ isErr e) ∧ Ext H H' := by
 refine con_of (show prog 125 = some c125 from rfl) rfl rfl fun m hn => ?_
 have hle := hl.le
 cases h0 : (l == ([] : Bs))
 rotate_left
 ·skip
  repeat first
   | (refine Fo.eqStr rfl rfl (by simp only [↓nrmL, nrmZ, Nat.reduceEqDiff, ↓reduceIte, Nat.reduceAdd, Int.reduceBEq, Int.reduceBNe, h0]; rfl) ?_)
   | refine Fo.mov (rfl : _ = strV _) ?_
   | (refine mv ?_)
   | (refine Fo.now rfl rfl (by simp only [↓nrmL, nrmZ, Nat.reduceEqDiff, ↓reduceIte, Nat.reduceAdd, Int.reduceBEq, Int.reduceBNe, h0]; rfl) ?_)
   | refine nl hKF ?_
   | refine sq ?_
   | refine rg fun KF hKF => ?_
   | refine ct rfl ?_
   | refine rt ?_
   | dsimp only [cond_true, cond_false]
  refine rz trivial ?_
  exact ⟨_, _, rfl, Or.inr (Or.inr rfl), Ext0.ext⟩
 have hp : 0 < l.length := by
  cases l with
  | nil => cases h0
  | cons => exact Nat.succ_pos _
 obtain ⟨c, x0⟩ : ∃ c : UInt8, l[0] = c := ⟨_, rfl⟩
 have xd : (l.drop 1).take (l.length - 1) = l.drop 1 := by rw [List.take_of_length_le (by rw [List.length_drop]; omega)]
 haveI := drop1_47 hl
 have xc : IntKind.u64.wrap (1 * 2 ^ min (IntKind.u64.wrap (IntKind.i64.wrap (64 - 1))).toNat IntKind.u64.bits) = 9223372036854775808 := by decide
 cases a1 : (((c.toNat : Nat) : Int) == 43)
 ·cases a2 : (((c.toNat : Nat) : Int) == 45)
  ·skip
   repeat first
    | (refine Fo.idxStr (rfl : _ = strV _) rfl ?_ (by simp only [↓nrmL, nrmZ, Nat.reduceEqDiff, ↓reduceIte, Nat.reduceAdd, Int.reduceBEq, Int.reduceBNe, h0, x0, a1, a2]; rfl) ?_; (focus omega))
    | (refine Fo.eqStr rfl rfl (by simp only [↓nrmL, nrmZ, Nat.reduceEqDiff, ↓reduceIte, Nat.reduceAdd, Int.reduceBEq, Int.reduceBNe, h0, x0, a1, a2]; rfl) ?_)
    | refine Fo.mov (rfl : _ = strV _) ?_
    | (refine mv ?_)
    | (refine bn rfl rfl rfl (by simp only [h0, x0, a1, a2]; rfl) ?_)
    | refine nl hKF ?_
    | refine sq ?_
    | refine rg fun KF hKF => ?_
    | refine cf rfl ?_
    | refine sk ?_
    | refine Wp.block ?_
   refine WpO.do (WpX.conD hn rfl rfl (by simp only [↓nrmL, nrmZ, Nat.reduceEqDiff, ↓reduceIte, Nat.reduceAdd, Int.reduceBEq, Int.reduceBNe, List.map] <;> rfl) (K_ParseUint (l := l)) fun v H1 h5 => ?_)
   obtain ⟨u, e, rfl, he, hx⟩ := h5
   haveI : ExtI _ H1 := ⟨hx⟩
   rcases he with rfl | rfl | rfl
   ·skip
    cases b1 : decide (u ≥ 9223372036854775808)
    ·skip
     repeat first
      | (refine mv ?_)
      | refine oy ?_
      | refine ox ?_
      | (refine bn rfl rfl rfl (by simp only [xc, b1]; rfl) ?_)
      | (refine bn rfl rfl rfl (by simp only [↓nrmL, nrmZ, Nat.reduceEqDiff, ↓reduceIte, Nat.reduceAdd, Int.reduceBEq, Int.reduceBNe, xc, b1]; rfl) ?_)
      | refine b0 ?_
      | refine tB ?_
      | refine fB ?_
      | refine xt ?_
      | (refine Fo.now rfl rfl (by simp only [xc, b1]; rfl) ?_)
      | (refine Fo.now rfl rfl (by simp only [↓nrmL, nrmZ, Nat.reduceEqDiff, ↓reduceIte, Nat.reduceAdd, Int.reduceBEq, Int.reduceBNe, xc, b1]; rfl) ?_)
      | refine Fo.now rfl rfl rfl ?_
      | refine nl hKF ?_
      | refine sq ?_
      | refine rg fun KF hKF => ?_
      | refine ct rfl ?_
      | refine cf rfl ?_
      | refine sk ?_
      | refine rt ?_
      | dsimp only [cond_true, cond_false]
     refine rz trivial ?_
     exact ⟨_, _, rfl, Or.inl rfl, Ext0.ext⟩
    ·skip
     repeat first
      | (refine mv ?_)
      | refine oy ?_
      | refine ox ?_
      | (refine bn rfl rfl rfl (by simp only [xc, b1]; rfl) ?_)
      | (refine bn rfl rfl rfl (by simp only [↓nrmL, nrmZ, Nat.reduceEqDiff, ↓reduceIte, Nat.reduceAdd, Int.reduceBEq, Int.reduceBNe, xc, b1]; rfl) ?_)
      | refine b0 ?_
      | refine tB ?_
      | refine fB ?_
      | refine xt ?_
      | (refine Fo.now rfl rfl (by simp only [xc, b1]; rfl) ?_)
      | (refine Fo.now rfl rfl (by simp only [↓nrmL, nrmZ, Nat.reduceEqDiff, ↓reduceIte, Nat.reduceAdd, Int.reduceBEq, Int.reduceBNe, xc, b1]; rfl) ?_)
      | refine Fo.now rfl rfl rfl ?_
      | refine nl hKF ?_
      | refine sq ?_
      | refine rg fun KF hKF => ?_
      | refine ct rfl ?_
      | refine cf rfl ?_
      | refine sk ?_
      | refine rt ?_
      | dsimp only [cond_true, cond_false]
     refine rz trivial ?_
     exact ⟨_, _, rfl, Or.inr (Or.inl rfl), Ext0.ext⟩
   ·skip
    cases b1 : decide (u ≥ 9223372036854775808)
    ·skip
     repeat first
      | (refine mv ?_)
      | refine oy ?_
      | refine ox ?_
      | (refine bn rfl rfl rfl (by simp only [xc, b1]; rfl) ?_)
      | (refine bn rfl rfl rfl (by simp only [↓nrmL, nrmZ, Nat.reduceEqDiff, ↓reduceIte, Nat.reduceAdd, Int.reduceBEq, Int.reduceBNe, xc, b1]; rfl) ?_)
      | refine b0 ?_
      | refine tB ?_
      | refine fB ?_
      | refine xt ?_
      | (refine Fo.now rfl rfl (by simp only [xc, b1]; rfl) ?_)
      | (refine Fo.now rfl rfl (by simp only [↓nrmL, nrmZ, Nat.reduceEqDiff, ↓reduceIte, Nat.reduceAdd, Int.reduceBEq, Int.reduceBNe, xc, b1]; rfl) ?_)
      | refine Fo.now rfl rfl rfl ?_
      | refine nl hKF ?_
      | refine sq ?_
      | refine rg fun KF hKF => ?_
      | refine ct rfl ?_
      | refine cf rfl ?_
      | refine sk ?_
      | refine rt ?_
      | dsimp only [cond_true, cond_false]
     refine rz trivial ?_
     exact ⟨_, _, rfl, Or.inl rfl, Ext0.ext⟩
    ·skip
     repeat first
      | (refine mv ?_)
      | refine oy ?_
      | (refine bn rfl rfl rfl (by simp only [xc, b1]; rfl) ?_)
      | (refine bn rfl rfl rfl (by simp only [↓nrmL, nrmZ, Nat.reduceEqDiff, ↓reduceIte, Nat.reduceAdd, Int.reduceBEq, Int.reduceBNe, xc, b1]; rfl) ?_)
      | refine b0 ?_
      | refine tB ?_
      | refine xt ?_
      | (refine Fo.now rfl rfl (by simp only [xc, b1]; rfl) ?_)
      | (refine Fo.now rfl rfl (by simp only [↓nrmL, nrmZ, Nat.reduceEqDiff, ↓reduceIte, Nat.reduceAdd, Int.reduceBEq, Int.reduceBNe, xc, b1]; rfl) ?_)
      | refine Fo.now rfl rfl rfl ?_
      | refine nl hKF ?_
      | refine sq ?_
      | refine rg fun KF hKF => ?_
      | refine ct rfl ?_
      | refine cf rfl ?_
      | refine sk ?_
      | refine rt ?_
      | dsimp only [cond_true, cond_false]
     refine rz trivial ?_
     exact ⟨_, _, rfl, Or.inr (Or.inl rfl), Ext0.ext⟩
   ·skip
    repeat first
     | (refine mv ?_)
     | refine oy ?_
     | refine tB ?_
     | refine xt ?_
     | (refine Fo.now rfl rfl (by simp only [↓nrmL, nrmZ, Nat.reduceEqDiff, ↓reduceIte, Nat.reduceAdd, Int.reduceBEq, Int.reduceBNe]; rfl) ?_)
     | refine nl hKF ?_
     | refine sq ?_
     | refine rg fun KF hKF => ?_
     | refine ct rfl ?_
     | refine rt ?_
     | dsimp only [cond_true, cond_false]
    refine rz trivial ?_
    exact ⟨_, _, rfl, Or.inr (Or.inr rfl), Ext0.ext⟩
  ·skip
   repeat first
    | (refine Fo.idxStr (rfl : _ = strV _) rfl ?_ (by simp only [↓nrmL, nrmZ, Nat.reduceEqDiff, ↓reduceIte, Nat.reduceAdd, Int.reduceBEq, Int.reduceBNe, h0, x0, a1, a2]; rfl) ?_; (focus omega))
    | (refine Fo.eqStr rfl rfl (by simp only [↓nrmL, nrmZ, Nat.reduceEqDiff, ↓reduceIte, Nat.reduceAdd, Int.reduceBEq, Int.reduceBNe, h0, x0, a1, a2]; rfl) ?_)
    | refine Fo.mov (rfl : _ = strV _) ?_
    | (refine mv ?_)
    | (refine bn rfl rfl rfl (by simp only [h0, x0, a1, a2]; rfl) ?_)
    | refine nl hKF ?_
    | refine sq ?_
    | refine rg fun KF hKF => ?_
    | refine ct rfl ?_
    | refine cf rfl ?_
    | refine sk ?_
    | refine Wp.block ?_
   refine Fo.slcStr (l := l) (a := 1) (b := l.length) rfl (Or.inr ⟨_, rfl⟩) (Or.inl ⟨rfl, rfl⟩) (by omega) (Nat.le_refl _) (congrArg strV xd) ?_
   repeat first
    | refine Fo.mov (rfl : _ = strV _) ?_
    | (refine mv ?_)
    | refine nl hKF ?_
    | refine sq ?_
    | refine rg fun KF hKF => ?_
   refine WpO.do (WpX.conD hn rfl rfl (by simp only [↓nrmL, nrmZ, Nat.reduceEqDiff, ↓reduceIte, Nat.reduceAdd, Int.reduceBEq, Int.reduceBNe, List.map] <;> rfl) (K_ParseUint (l := l.drop 1)) fun v H1 h5 => ?_)
   obtain ⟨u, e, rfl, he, hx⟩ := h5
   haveI : ExtI _ H1 := ⟨hx⟩
   rcases he with rfl | rfl | rfl
   ·skip
    cases b1 : decide (u > 9223372036854775808)
    ·skip
     repeat first
      | (refine mv ?_)
      | refine oy ?_
      | refine ox ?_
      | (refine bn rfl rfl rfl (by simp only [xc, b1]; rfl) ?_)
      | (refine bn rfl rfl rfl (by simp only [↓nrmL, nrmZ, Nat.reduceEqDiff, ↓reduceIte, Nat.reduceAdd, Int.reduceBEq, Int.reduceBNe, xc, b1]; rfl) ?_)
      | refine b0 ?_
      | refine tB ?_
      | refine fB ?_
      | refine xt ?_
      | (refine Fo.now rfl rfl (by simp only [xc, b1]; rfl) ?_)
      | (refine Fo.now rfl rfl (by simp only [↓nrmL, nrmZ, Nat.reduceEqDiff, ↓reduceIte, Nat.reduceAdd, Int.reduceBEq, Int.reduceBNe, xc, b1]; rfl) ?_)
      | refine Fo.now rfl rfl rfl ?_
      | refine nl hKF ?_
      | refine sq ?_
      | refine rg fun KF hKF => ?_
      | refine ct rfl ?_
      | refine cf rfl ?_
      | refine sk ?_
      | refine rt ?_
      | dsimp only [cond_true, cond_false]
     refine rz trivial ?_
     exact ⟨_, _, rfl, Or.inl rfl, Ext0.ext⟩
    ·skip
     repeat first
      | (refine mv ?_)
      | refine oy ?_
      | refine ox ?_
      | (refine bn rfl rfl rfl (by simp only [xc, b1]; rfl) ?_)
      | (refine bn rfl rfl rfl (by simp only [↓nrmL, nrmZ, Nat.reduceEqDiff, ↓reduceIte, Nat.reduceAdd, Int.reduceBEq, Int.reduceBNe, xc, b1]; rfl) ?_)
      | refine b0 ?_
      | refine tB ?_
      | refine fB ?_
      | refine xt ?_
      | (refine Fo.now rfl rfl (by simp only [xc, b1]; rfl) ?_)
      | (refine Fo.now rfl rfl (by simp only [↓nrmL, nrmZ, Nat.reduceEqDiff, ↓reduceIte, Nat.reduceAdd, Int.reduceBEq, Int.reduceBNe, xc, b1]; rfl) ?_)
      | refine Fo.now rfl rfl rfl ?_
      | refine nl hKF ?_
      | refine sq ?_
      | refine rg fun KF hKF => ?_
      | refine ct rfl ?_
      | refine cf rfl ?_
      | refine sk ?_
      | refine rt ?_
      | dsimp only [cond_true, cond_false]
     refine rz trivial ?_
     exact ⟨_, _, rfl, Or.inr (Or.inl rfl), Ext0.ext⟩
   ·skip
    cases b1 : decide (u > 9223372036854775808)
    ·skip
     repeat first
      | (refine mv ?_)
      | refine oy ?_
      | refine ox ?_
      | (refine bn rfl rfl rfl (by simp only [xc, b1]; rfl) ?_)
      | (refine bn rfl rfl rfl (by simp only [↓nrmL, nrmZ, Nat.reduceEqDiff, ↓reduceIte, Nat.reduceAdd, Int.reduceBEq, Int.reduceBNe, xc, b1]; rfl) ?_)
      | refine b0 ?_
      | refine tB ?_
      | refine fB ?_
      | refine xt ?_
      | (refine Fo.now rfl rfl (by simp only [xc, b1]; rfl) ?_)
      | (refine Fo.now rfl rfl (by simp only [↓nrmL, nrmZ, Nat.reduceEqDiff, ↓reduceIte, Nat.reduceAdd, Int.reduceBEq, Int.reduceBNe, xc, b1]; rfl) ?_)
      | refine Fo.now rfl rfl rfl ?_
      | refine nl hKF ?_
      | refine sq ?_
      | refine rg fun KF hKF => ?_
      | refine ct rfl ?_
      | refine cf rfl ?_
      | refine sk ?_
      | refine rt ?_
      | dsimp only [cond_true, cond_false]
     refine rz trivial ?_
     exact ⟨_, _, rfl, Or.inl rfl, Ext0.ext⟩
    ·skip
     repeat first
      | (refine mv ?_)
      | refine oy ?_
      | refine ox ?_
      | (refine bn rfl rfl rfl (by simp only [xc, b1]; rfl) ?_)
      | (refine bn rfl rfl rfl (by simp only [↓nrmL, nrmZ, Nat.reduceEqDiff, ↓reduceIte, Nat.reduceAdd, Int.reduceBEq, Int.reduceBNe, xc, b1]; rfl) ?_)
      | refine b0 ?_
      | refine tB ?_
      | refine fB ?_
      | refine xt ?_
      | (refine Fo.now rfl rfl (by simp only [xc, b1]; rfl) ?_)
      | (refine Fo.now rfl rfl (by simp only [↓nrmL, nrmZ, Nat.reduceEqDiff, ↓reduceIte, Nat.reduceAdd, Int.reduceBEq, Int.reduceBNe, xc, b1]; rfl) ?_)
      | refine Fo.now rfl rfl rfl ?_
      | refine nl hKF ?_
      | refine sq ?_
      | refine rg fun KF hKF => ?_
      | refine ct rfl ?_
      | refine cf rfl ?_
      | refine sk ?_
      | refine rt ?_
      | dsimp only [cond_true, cond_false]
     refine rz trivial ?_
     exact ⟨_, _, rfl, Or.inr (Or.inl rfl), Ext0.ext⟩
   ·skip
    repeat first
     | (refine mv ?_)
     | refine oy ?_
     | refine tB ?_
     | refine xt ?_
     | (refine Fo.now rfl rfl (by simp only [↓nrmL, nrmZ, Nat.reduceEqDiff, ↓reduceIte, Nat.reduceAdd, Int.reduceBEq, Int.reduceBNe]; rfl) ?_)
     | refine nl hKF ?_
     | refine sq ?_
     | refine rg fun KF hKF => ?_
     | refine ct rfl ?_
     | refine rt ?_
     | dsimp only [cond_true, cond_false]
    refine rz trivial ?_
    exact ⟨_, _, rfl, Or.inr (Or.inr rfl), Ext0.ext⟩
 ·skip
  repeat first
   | (refine Fo.idxStr (rfl : _ = strV _) rfl ?_ (by simp only [↓nrmL, nrmZ, Nat.reduceEqDiff, ↓reduceIte, Nat.reduceAdd, Int.reduceBEq, Int.reduceBNe, h0, x0, a1]; rfl) ?_; (focus omega))
   | (refine Fo.eqStr rfl rfl (by simp only [↓nrmL, nrmZ, Nat.reduceEqDiff, ↓reduceIte, Nat.reduceAdd, Int.reduceBEq, Int.reduceBNe, h0, x0, a1]; rfl) ?_)
   | refine Fo.mov (rfl : _ = strV _) ?_
   | (refine mv ?_)
   | (refine bn rfl rfl rfl (by simp only [h0, x0, a1]; rfl) ?_)
   | refine nl hKF ?_
   | refine sq ?_
   | refine rg fun KF hKF => ?_
   | refine ct rfl ?_
   | refine cf rfl ?_
   | refine sk ?_
   | refine Wp.block ?_
  refine Fo.slcStr (l := l) (a := 1) (b := l.length) rfl (Or.inr ⟨_, rfl⟩) (Or.inl ⟨rfl, rfl⟩) (by omega) (Nat.le_refl _) (congrArg strV xd) ?_
  repeat first
   | refine Fo.mov (rfl : _ = strV _) ?_
   | (refine mv ?_)
   | refine nl hKF ?_
   | refine sq ?_
   | refine rg fun KF hKF => ?_
  refine WpO.do (WpX.conD hn rfl rfl (by simp only [↓nrmL, nrmZ, Nat.reduceEqDiff, ↓reduceIte, Nat.reduceAdd, Int.reduceBEq, Int.reduceBNe, List.map] <;> rfl) (K_ParseUint (l := l.drop 1)) fun v H1 h5 => ?_)
  obtain ⟨u, e, rfl, he, hx⟩ := h5
  haveI : ExtI _ H1 := ⟨hx⟩
  rcases he with rfl | rfl | rfl
  ·skip
   cases b1 : decide (u ≥ 9223372036854775808)
   ·skip
    repeat first
     | (refine mv ?_)
     | refine oy ?_
     | refine ox ?_
     | (refine bn rfl rfl rfl (by simp only [xc, b1]; rfl) ?_)
     | (refine bn rfl rfl rfl (by simp only [↓nrmL, nrmZ, Nat.reduceEqDiff, ↓reduceIte, Nat.reduceAdd, Int.reduceBEq, Int.reduceBNe, xc, b1]; rfl) ?_)
     | refine b0 ?_
     | refine tB ?_
     | refine fB ?_
     | refine xt ?_
     | (refine Fo.now rfl rfl (by simp only [xc, b1]; rfl) ?_)
     | (refine Fo.now rfl rfl (by simp only [↓nrmL, nrmZ, Nat.reduceEqDiff, ↓reduceIte, Nat.reduceAdd, Int.reduceBEq, Int.reduceBNe, xc, b1]; rfl) ?_)
     | refine Fo.now rfl rfl rfl ?_
     | refine nl hKF ?_
     | refine sq ?_
     | refine rg fun KF hKF => ?_
     | refine ct rfl ?_
     | refine cf rfl ?_
     | refine sk ?_
     | refine rt ?_
     | dsimp only [cond_true, cond_false]
    refine rz trivial ?_
    exact ⟨_, _, rfl, Or.inl rfl, Ext0.ext⟩
   ·skip
    repeat first
     | (refine mv ?_)
     | refine oy ?_
     | refine ox ?_
     | (refine bn rfl rfl rfl (by simp only [xc, b1]; rfl) ?_)
     | (refine bn rfl rfl rfl (by simp only [↓nrmL, nrmZ, Nat.reduceEqDiff, ↓reduceIte, Nat.reduceAdd, Int.reduceBEq, Int.reduceBNe, xc, b1]; rfl) ?_)
     | refine b0 ?_
     | refine tB ?_
     | refine fB ?_
     | refine xt ?_
     | (refine Fo.now rfl rfl (by simp only [xc, b1]; rfl) ?_)
     | (refine Fo.now rfl rfl (by simp only [↓nrmL, nrmZ, Nat.reduceEqDiff, ↓reduceIte, Nat.reduceAdd, Int.reduceBEq, Int.reduceBNe, xc, b1]; rfl) ?_)
     | refine Fo.now rfl rfl rfl ?_
     | refine nl hKF ?_
     | refine sq ?_
     | refine rg fun KF hKF => ?_
     | refine ct rfl ?_
     | refine cf rfl ?_
     | refine sk ?_
     | refine rt ?_
     | dsimp only [cond_true, cond_false]
    refine rz trivial ?_
    exact ⟨_, _, rfl, Or.inr (Or.inl rfl), Ext0.ext⟩
  ·skip
   cases b1 : decide (u ≥ 9223372036854775808)
   ·skip
    repeat first
     | (refine mv ?_)
     | refine oy ?_
     | refine ox ?_
     | (refine bn rfl rfl rfl (by simp only [xc, b1]; rfl) ?_)
     | (refine bn rfl rfl rfl (by simp only [↓nrmL, nrmZ, Nat.reduceEqDiff, ↓reduceIte, Nat.reduceAdd, Int.reduceBEq, Int.reduceBNe, xc, b1]; rfl) ?_)
     | refine b0 ?_
     | refine tB ?_
     | refine fB ?_
     | refine xt ?_
     | (refine Fo.now rfl rfl (by simp only [xc, b1]; rfl) ?_)
     | (refine Fo.now rfl rfl (by simp only [↓nrmL, nrmZ, Nat.reduceEqDiff, ↓reduceIte, Nat.reduceAdd, Int.reduceBEq, Int.reduceBNe, xc, b1]; rfl) ?_)
     | refine Fo.now rfl rfl rfl ?_
     | refine nl hKF ?_
     | refine sq ?_
     | refine rg fun KF hKF => ?_
     | refine ct rfl ?_
     | refine cf rfl ?_
     | refine sk ?_
     | refine rt ?_
     | dsimp only [cond_true, cond_false]
    refine rz trivial ?_
    exact ⟨_, _, rfl, Or.inl rfl, Ext0.ext⟩
   ·skip
    repeat first
     | (refine mv ?_)
     | refine oy ?_
     | (refine bn rfl rfl rfl (by simp only [xc, b1]; rfl) ?_)
     | (refine bn rfl rfl rfl (by simp only [↓nrmL, nrmZ, Nat.reduceEqDiff, ↓reduceIte, Nat.reduceAdd, Int.reduceBEq, Int.reduceBNe, xc, b1]; rfl) ?_)
     | refine b0 ?_
     | refine tB ?_
     | refine xt ?_
     | (refine Fo.now rfl rfl (by simp only [xc, b1]; rfl) ?_)
     | (refine Fo.now rfl rfl (by simp only [↓nrmL, nrmZ, Nat.reduceEqDiff, ↓reduceIte, Nat.reduceAdd, Int.reduceBEq, Int.reduceBNe, xc, b1]; rfl) ?_)
     | refine Fo.now rfl rfl rfl ?_
     | refine nl hKF ?_
     | refine sq ?_
     | refine rg fun KF hKF => ?_
     | refine ct rfl ?_
     | refine cf rfl ?_
     | refine sk ?_
     | refine rt ?_
     | dsimp only [cond_true, cond_false]
    refine rz trivial ?_
    exact ⟨_, _, rfl, Or.inr (Or.inl rfl), Ext0.ext⟩
  ·skip
   repeat first
    | (refine mv ?_)
    | refine oy ?_
    | refine tB ?_
    | refine xt ?_
    | (refine Fo.now rfl rfl (by simp only [↓nrmL, nrmZ, Nat.reduceEqDiff, ↓reduceIte, Nat.reduceAdd, Int.reduceBEq, Int.reduceBNe]; rfl) ?_)
    | refine nl hKF ?_
    | refine sq ?_
    | refine rg fun KF hKF => ?_
    | refine ct rfl ?_
    | refine rt ?_
    | dsimp only [cond_true, cond_false]
   refine rz trivial ?_
   exact ⟨_, _, rfl, Or.inr (Or.inr rfl), Ext0.ext⟩
end Go.Am
namespace Go.Am
open Go
attribute [local irreducible] Wp WpO WpX WpE
def atoiS (n : Int) (c : UInt8) : Int := IntKind.i64.wrap (IntKind.i64.wrap (n * 10) + IntKind.i64.wrap (IntKind.u8.wrap (((c.toNat : Nat) : Int) - 48)))
def atoiF (l : Bs) : Int := l.foldl atoiS 0
theorem atoi_next {l : Bs} {i : Nat} (h : i < l.length) : atoiF (l.take (i + 1)) = atoiS (atoiF (l.take i)) l[i] := by
 unfold atoiF
 rw [List.take_succ_eq_append_getElem h, List.foldl_append]
 rfl
theorem dig_atoi : ∀ k : Fin 100, atoiF (digL k.val) = (k.val : Int) := by decide +kernel
theorem dig_chars : ∀ k : Fin 100, ∀ c ∈ digL k.val, 48 ≤ c.toNat ∧ c.toNat ≤ 57 := by decide +kernel
theorem dig_pos (k : Nat) : 0 < (digL k).length := by
 unfold digL
 split
 ·exact Nat.succ_pos _
 ·exact Nat.succ_pos _
theorem not_dig {l : Bs} {i : Nat} (hi : i < l.length) (h : ¬ (48 ≤ l[i].toNat ∧ l[i].toNat ≤ 57)) : ∀ k : Nat, k < 100 → l = digL k → False := fun k hk e => h (dig_chars ⟨k, hk⟩ _ (by rw [← e]; exact List.getElem_mem hi))
theorem u8_big {c : UInt8} (h : ¬ (IntKind.u8.wrap (((c.toNat : Nat) : Int) - 48) ≤ 9)) : ¬ (48 ≤ c.toNat ∧ c.toNat ≤ 57) := fun q => by
 rw [u8s (by omega) (by omega)] at h
 omega
theorem K_iAtoi {l : Bs} {H : AHeap} [hl : Len47 l] : Con ext prog 4 119 [strV l] H fun v H' => ∃ n e, v = .tuple [.int .i64 n, e] ∧ (e = .niface ∨ isErr e) ∧ (∀ k : Nat, k < 100 → l = digL k → n = (k : Int) ∧ e = .niface) ∧ Ext H H' := by
 refine con_of (show prog 119 = some c119 from rfl) rfl rfl fun m hn => ?_
 have hle := hl.le
 cases s1 : decide ((0 : Int) < ((l.length : Nat) : Int))
 ·have := of_decide_eq_false s1
  repeat first
   | refine Fo.lenStr (rfl : _ = strV _) rfl ?_
   | refine Fo.mov (rfl : _ = strV _) ?_
   | (refine mv ?_)
   | refine oy ?_
   | refine ox ?_
   | refine Fo.noU rfl ?_
   | (refine bn rfl rfl rfl (by simp only [s1]; rfl) ?_)
   | refine tB ?_
   | refine fB ?_
   | refine nl hKF ?_
   | refine sq ?_
   | refine rg fun KF hKF => ?_
   | refine cf rfl ?_
   | refine sk ?_
  refine WpO.do (WpX.conD hn rfl rfl (by simp only [↓nrmL, nrmZ, Nat.reduceEqDiff, ↓reduceIte, Nat.reduceAdd, Int.reduceBEq, Int.reduceBNe, List.map] <;> rfl) (K_ParseInt (l := l)) fun v H1 h5 => ?_)
  obtain ⟨u, e, rfl, he, hx⟩ := h5
  haveI : ExtI _ H1 := ⟨hx⟩
  repeat first
   | (refine mv ?_)
   | refine xt ?_
   | refine nl hKF ?_
   | refine sq ?_
   | refine rg fun KF hKF => ?_
   | refine rt ?_
   | dsimp only [cond_true, cond_false]
  refine rz trivial ?_
  exact ⟨_, _, rfl, he, fun k hk e => (by have q1 := dig_pos k; have q2 := dig_len k; rw [← e] at q1 q2; omega), Ext0.ext⟩
 have g1 := of_decide_eq_true s1
 cases s3 : decide (((l.length : Nat) : Int) < 19)
 ·have g3 := of_decide_eq_false s3
  repeat first
   | refine Fo.lenStr (rfl : _ = strV _) rfl ?_
   | refine Fo.mov (rfl : _ = strV _) ?_
   | (refine mv ?_)
   | refine oy ?_
   | refine ox ?_
   | refine Fo.noU rfl ?_
   | (refine bn rfl rfl rfl (by simp only [s1, s3]; rfl) ?_)
   | refine tB ?_
   | refine fB ?_
   | refine nl hKF ?_
   | refine sq ?_
   | refine rg fun KF hKF => ?_
   | refine cf rfl ?_
   | refine sk ?_
  refine WpO.do (WpX.conD hn rfl rfl (by simp only [↓nrmL, nrmZ, Nat.reduceEqDiff, ↓reduceIte, Nat.reduceAdd, Int.reduceBEq, Int.reduceBNe, List.map] <;> rfl) (K_ParseInt (l := l)) fun v H1 h5 => ?_)
  obtain ⟨u, e, rfl, he, hx⟩ := h5
  haveI : ExtI _ H1 := ⟨hx⟩
  repeat first
   | (refine mv ?_)
   | refine xt ?_
   | refine nl hKF ?_
   | refine sq ?_
   | refine rg fun KF hKF => ?_
   | refine rt ?_
   | dsimp only [cond_true, cond_false]
  refine rz trivial ?_
  exact ⟨_, _, rfl, he, fun k hk e => (by have q1 := dig_pos k; have q2 := dig_len k; rw [← e] at q1 q2; omega), Ext0.ext⟩
 ·skip
  have hp : 0 < l.length := by omega
  obtain ⟨c, x0⟩ : ∃ c : UInt8, l[0] = c := ⟨_, rfl⟩
  have xd : (l.drop 1).take (l.length - 1) = l.drop 1 := by rw [List.take_of_length_le (by rw [List.length_drop]; omega)]
  cases a1 : (((c.toNat : Nat) : Int) == 45)
  ·cases a2 : (((c.toNat : Nat) : Int) == 43)
   ·have htl : l.length ≤ 2 ^ 47 := hle
    have xz : (0 : Int) = 0 := rfl
    haveI hb : BytesI (H.push (.row (List.map (fun b : UInt8 => AVal.int .u8 ((b.toNat : Nat) : Int)) (l)) true (2 * 5))) (.slice H.n 0 (l).length none 1) (l) := stb_bytes (H := H) (l := l) (e := 2 * 5)
    haveI := hb.one
    repeat first
     | (refine Fo.idxStr (rfl : _ = strV _) rfl ?_ (by simp only [↓nrmL, nrmZ, Nat.reduceEqDiff, ↓reduceIte, Nat.reduceAdd, Int.reduceBEq, Int.reduceBNe, str_size, s1, s3, a1, a2, x0]; rfl) ?_; (focus omega))
     | refine Fo.lenStr (rfl : _ = strV _) rfl ?_
     | refine Fo.mov (rfl : _ = strV _) ?_
     | (refine mv ?_)
     | refine oy ?_
     | refine ox ?_
     | refine Fo.noU rfl ?_
     | (refine bn rfl rfl rfl (by simp only [str_size, s1, s3, a1, a2, x0]; rfl) ?_)
     | refine tB ?_
     | refine fB ?_
     | (refine ln (by simp only [↓nrmL, nrmK, Nat.reduceEqDiff, ↓reduceIte]; rfl) ?_)
     | (refine Fo.now rfl rfl (by simp only [str_size, s1, s3, a1, a2, x0]; rfl) ?_)
     | refine nl hKF ?_
     | refine sq ?_
     | refine rg fun KF hKF => ?_
     | refine ct rfl ?_
     | refine cf rfl ?_
     | refine sk ?_
     | refine Wp.block ?_
     | dsimp only [cond_true, cond_false]
    refine Wp.loopS (σ := Nat) [2, 3, 6, 8, 49, 50, 51, 52, 53, 54, 55, 56, 57, 58, 59, 60, 61, 62, 63] (fun i => [(49, .int .i64 (i : Int)), (6, .int .i64 (atoiF ((l).take i)))]) (fun H3 i H2 => i ≤ (l).length ∧ Ext H3 H2) (fun i => (l).length - i) 0 rfl (fun _ => rfl) ⟨rfl, rfl, trivial⟩ ⟨Nat.zero_le _, Ext.refl _⟩ (by unfold fuel0 at hn; have := htl; omega) ?_
    rintro i g H2 ⟨hi, hx2⟩
    haveI : ExtI _ H2 := ⟨hx2⟩
    simp only [↓nrmL, nrmZ, Nat.reduceEqDiff, ↓reduceIte, Nat.reduceAdd, Int.reduceBEq, Int.reduceBNe]
    cases hcl : decide ((i : Int) < (((l).length : Nat) : Int))
    ·skip
     repeat first
      | (refine Fo.idxStr (rfl : _ = strV _) rfl ?_ (by simp only [↓nrmL, nrmZ, Nat.reduceEqDiff, ↓reduceIte, Nat.reduceAdd, Int.reduceBEq, Int.reduceBNe, str_size, hcl, x0, s1, s3, a1, a2]; rfl) ?_; (focus omega))
      | refine Fo.mov (rfl : _ = strV _) ?_
      | (refine mv ?_)
      | (refine bn rfl rfl rfl (by simp only [str_size, hcl, x0, s1, s3, a1, a2]; rfl) ?_)
      | refine nl hKF ?_
      | refine sq ?_
      | refine rg fun KF hKF => ?_
      | refine cf rfl ?_
      | refine sk ?_
      | refine rt ?_
      | refine xi ?_
      | dsimp only [cond_true, cond_false]
     refine rz trivial ?_
     exact ⟨_, _, rfl, Or.inl rfl, fun k hk e => ⟨by
      have hie : i = l.length := by have := of_decide_eq_false hcl; omega
      rw [hie, List.take_length, e]; exact dig_atoi ⟨k, hk⟩, rfl⟩, Ext0.ext⟩
    have hil : i < (l).length := by have := of_decide_eq_true hcl; omega
    have hw1 : IntKind.i64.wrap ((i : Int) + 1) = ((i + 1 : Nat) : Int) := by rw [w64r (by omega) (by omega)]; omega
    obtain ⟨W, hW⟩ : ∃ W, IntKind.u8.wrap (((((l)[i]).toNat : Nat) : Int) - 48) = W := ⟨_, rfl⟩
    cases p9 : decide (IntKind.u8.wrap (((((l)[i]).toNat : Nat) : Int) - 48) > 9)
    rotate_left
    ·skip
     repeat first
      | (refine mv ?_)
      | (refine bn rfl rfl rfl (by simp only [hcl, p9]; rfl) ?_)
      | refine b0 ?_
      | (refine Fo.idx (by simp only [↓nrmL, nrmK, Nat.reduceEqDiff, ↓reduceIte]; rfl) rfl ?_ (by simp only [↓nrmL, nrmZ, Nat.reduceEqDiff, ↓reduceIte, Nat.reduceAdd, Int.reduceBEq, Int.reduceBNe, hcl, p9]; rfl) ?_; (focus omega))
      | (refine Fo.ldB rfl ?_ rfl ?_; (focus omega))
      | (refine Fo.now rfl rfl (by simp only [↓nrmL, nrmZ, Nat.reduceEqDiff, ↓reduceIte, Nat.reduceAdd, Int.reduceBEq, Int.reduceBNe, hcl, p9]; rfl) ?_)
      | refine nl hKF ?_
      | refine sq ?_
      | refine rg fun KF hKF => ?_
      | refine ct rfl ?_
      | refine sk ?_
      | refine rt ?_
      | refine Wp.block ?_
      | dsimp only [cond_true, cond_false]
     refine rz trivial ?_
     exact ⟨_, _, rfl, Or.inr (Or.inr rfl), fun k hk e => (not_dig hil (u8_big (by have := of_decide_eq_true p9; omega)) k hk e).elim, Ext0.ext⟩
    repeat first
     | (refine mv ?_)
     | (refine bn rfl rfl rfl (by simp only [hcl, p9]; rfl) ?_)
     | refine b0 ?_
     | (refine Fo.idx (by simp only [↓nrmL, nrmK, Nat.reduceEqDiff, ↓reduceIte]; rfl) rfl ?_ (by simp only [↓nrmL, nrmZ, Nat.reduceEqDiff, ↓reduceIte, Nat.reduceAdd, Int.reduceBEq, Int.reduceBNe, hcl, p9]; rfl) ?_; (focus omega))
     | (refine Fo.ldB rfl ?_ rfl ?_; (focus omega))
     | refine Fo.now rfl rfl rfl ?_
     | refine nl hKF ?_
     | refine sq ?_
     | refine rg fun KF hKF => ?_
     | refine ct rfl ?_
     | refine cf rfl ?_
     | refine sk ?_
     | refine Wp.block ?_
     | dsimp only [cond_true, cond_false]
    exact ⟨i + 1, by omega, ⟨by simp only [↓nrmL, nrmZ, Nat.reduceEqDiff, ↓reduceIte, Nat.reduceAdd, Int.reduceBEq, Int.reduceBNe]; rw [hw1], by simp only [↓nrmL, nrmZ, Nat.reduceEqDiff, ↓reduceIte, Nat.reduceAdd, Int.reduceBEq, Int.reduceBNe]; rw [atoi_next hil]; rfl, trivial⟩, by omega, Ext0.ext⟩
   ·skip
    have hno := not_dig (l := l) (i := 0) hp (fun q => by have := eq_of_beq a2; rw [x0] at q; omega)
    have htl : (l.drop 1).length ≤ 2 ^ 47 := by rw [List.length_drop]; omega
    have hdl : (l.drop 1).length = l.length - 1 := List.length_drop ..
    have xz : (0 : Int) = 0 := rfl
    repeat first
     | (refine Fo.idxStr (rfl : _ = strV _) rfl ?_ (by simp only [↓nrmL, nrmZ, Nat.reduceEqDiff, ↓reduceIte, Nat.reduceAdd, Int.reduceBEq, Int.reduceBNe, s1, s3, a1, a2, x0]; rfl) ?_; (focus omega))
     | refine Fo.lenStr (rfl : _ = strV _) rfl ?_
     | refine Fo.mov (rfl : _ = strV _) ?_
     | (refine mv ?_)
     | refine oy ?_
     | refine ox ?_
     | refine Fo.noU rfl ?_
     | (refine bn rfl rfl rfl (by simp only [s1, s3, a1, a2, x0]; rfl) ?_)
     | refine tB ?_
     | refine fB ?_
     | refine nl hKF ?_
     | refine sq ?_
     | refine rg fun KF hKF => ?_
     | refine ct rfl ?_
    refine Fo.slcStr (l := l) (a := 1) (b := l.length) rfl (Or.inr ⟨_, rfl⟩) (Or.inl ⟨rfl, rfl⟩) (by omega) (Nat.le_refl _) (congrArg strV xd) ?_
    cases z1 : decide (((((l.drop 1).length : Nat) : Int)) < 1)
    rotate_left
    ·skip
     repeat first
      | refine Fo.lenStr (rfl : _ = strV _) rfl ?_
      | refine Fo.mov (rfl : _ = strV _) ?_
      | (refine mv ?_)
      | (refine bn rfl rfl rfl (by simp only [z1]; rfl) ?_)
      | (refine Fo.now rfl rfl (by simp only [↓nrmL, nrmZ, Nat.reduceEqDiff, ↓reduceIte, Nat.reduceAdd, Int.reduceBEq, Int.reduceBNe, z1]; rfl) ?_)
      | refine nl hKF ?_
      | refine sq ?_
      | refine rg fun KF hKF => ?_
      | refine ct rfl ?_
      | refine rt ?_
      | dsimp only [cond_true, cond_false]
     refine rz trivial ?_
     exact ⟨_, _, rfl, Or.inr (Or.inr rfl), fun k hk e => (hno k hk e).elim, Ext0.ext⟩
    haveI hb : BytesI (H.push (.row (List.map (fun b : UInt8 => AVal.int .u8 ((b.toNat : Nat) : Int)) (l.drop 1)) true (2 * 5))) (.slice H.n 0 (l.drop 1).length none 1) (l.drop 1) := stb_bytes (H := H) (l := l.drop 1) (e := 2 * 5)
    haveI := hb.one
    repeat first
     | refine Fo.lenStr (rfl : _ = strV _) rfl ?_
     | refine Fo.mov (rfl : _ = strV _) ?_
     | (refine mv ?_)
     | (refine bn rfl rfl rfl (by simp only [str_size, z1, a1, a2, x0]; rfl) ?_)
     | (refine ln (by simp only [↓nrmL, nrmK, Nat.reduceEqDiff, ↓reduceIte]; rfl) ?_)
     | (refine Fo.now rfl rfl (by simp only [str_size, z1, a1, a2, x0]; rfl) ?_)
     | refine nl hKF ?_
     | refine sq ?_
     | refine rg fun KF hKF => ?_
     | refine cf rfl ?_
     | refine sk ?_
     | refine Wp.block ?_
     | dsimp only [cond_true, cond_false]
    refine Wp.loopS (σ := Nat) [2, 3, 6, 8, 49, 50, 51, 52, 53, 54, 55, 56, 57, 58, 59, 60, 61, 62, 63] (fun i => [(49, .int .i64 (i : Int)), (6, .int .i64 (atoiF ((l.drop 1).take i)))]) (fun H3 i H2 => i ≤ (l.drop 1).length ∧ Ext H3 H2) (fun i => (l.drop 1).length - i) 0 rfl (fun _ => rfl) ⟨rfl, rfl, trivial⟩ ⟨Nat.zero_le _, Ext.refl _⟩ (by unfold fuel0 at hn; have := htl; omega) ?_
    rintro i g H2 ⟨hi, hx2⟩
    haveI : ExtI _ H2 := ⟨hx2⟩
    simp only [↓nrmL, nrmZ, Nat.reduceEqDiff, ↓reduceIte, Nat.reduceAdd, Int.reduceBEq, Int.reduceBNe]
    cases hcl : decide ((i : Int) < (((l.drop 1).length : Nat) : Int))
    ·skip
     repeat first
      | (refine Fo.idxStr (rfl : _ = strV _) rfl ?_ (by simp only [↓nrmL, nrmZ, Nat.reduceEqDiff, ↓reduceIte, Nat.reduceAdd, Int.reduceBEq, Int.reduceBNe, str_size, hcl, x0, z1, a1, a2]; rfl) ?_; (focus omega))
      | refine Fo.mov (rfl : _ = strV _) ?_
      | (refine mv ?_)
      | (refine bn rfl rfl rfl (by simp only [str_size, hcl, x0, z1, a1, a2]; rfl) ?_)
      | refine nl hKF ?_
      | refine sq ?_
      | refine rg fun KF hKF => ?_
      | refine cf rfl ?_
      | refine sk ?_
      | refine rt ?_
      | refine xi ?_
      | dsimp only [cond_true, cond_false]
     refine rz trivial ?_
     exact ⟨_, _, rfl, Or.inl rfl, fun k hk e => (hno k hk e).elim, Ext0.ext⟩
    have hil : i < (l.drop 1).length := by have := of_decide_eq_true hcl; omega
    have hw1 : IntKind.i64.wrap ((i : Int) + 1) = ((i + 1 : Nat) : Int) := by rw [w64r (by omega) (by omega)]; omega
    obtain ⟨W, hW⟩ : ∃ W, IntKind.u8.wrap (((((l.drop 1)[i]).toNat : Nat) : Int) - 48) = W := ⟨_, rfl⟩
    cases p9 : decide (IntKind.u8.wrap (((((l.drop 1)[i]).toNat : Nat) : Int) - 48) > 9)
    rotate_left
    ·skip
     repeat first
      | (refine mv ?_)
      | (refine bn rfl rfl rfl (by simp only [hcl, p9]; rfl) ?_)
      | refine b0 ?_
      | (refine Fo.idx (by simp only [↓nrmL, nrmK, Nat.reduceEqDiff, ↓reduceIte]; rfl) rfl ?_ (by simp only [↓nrmL, nrmZ, Nat.reduceEqDiff, ↓reduceIte, Nat.reduceAdd, Int.reduceBEq, Int.reduceBNe, hcl, p9]; rfl) ?_; (focus omega))
      | (refine Fo.ldB rfl ?_ rfl ?_; (focus omega))
      | (refine Fo.now rfl rfl (by simp only [↓nrmL, nrmZ, Nat.reduceEqDiff, ↓reduceIte, Nat.reduceAdd, Int.reduceBEq, Int.reduceBNe, hcl, p9]; rfl) ?_)
      | refine nl hKF ?_
      | refine sq ?_
      | refine rg fun KF hKF => ?_
      | refine ct rfl ?_
      | refine sk ?_
      | refine rt ?_
      | refine Wp.block ?_
      | dsimp only [cond_true, cond_false]
     refine rz trivial ?_
     exact ⟨_, _, rfl, Or.inr (Or.inr rfl), fun k hk e => (hno k hk e).elim, Ext0.ext⟩
    repeat first
     | (refine mv ?_)
     | (refine bn rfl rfl rfl (by simp only [hcl, p9]; rfl) ?_)
     | refine b0 ?_
     | (refine Fo.idx (by simp only [↓nrmL, nrmK, Nat.reduceEqDiff, ↓reduceIte]; rfl) rfl ?_ (by simp only [↓nrmL, nrmZ, Nat.reduceEqDiff, ↓reduceIte, Nat.reduceAdd, Int.reduceBEq, Int.reduceBNe, hcl, p9]; rfl) ?_; (focus omega))
     | (refine Fo.ldB rfl ?_ rfl ?_; (focus omega))
     | refine Fo.now rfl rfl rfl ?_
     | refine nl hKF ?_
     | refine sq ?_
     | refine rg fun KF hKF => ?_
     | refine ct rfl ?_
     | refine cf rfl ?_
     | refine sk ?_
     | refine Wp.block ?_
     | dsimp only [cond_true, cond_false]
    exact ⟨i + 1, by omega, ⟨by simp only [↓nrmL, nrmZ, Nat.reduceEqDiff, ↓reduceIte, Nat.reduceAdd, Int.reduceBEq, Int.reduceBNe]; rw [hw1], by simp only [↓nrmL, nrmZ, Nat.reduceEqDiff, ↓reduceIte, Nat.reduceAdd, Int.reduceBEq, Int.reduceBNe]; rw [atoi_next hil]; rfl, trivial⟩, by omega, Ext0.ext⟩
  ·skip
   have hno := not_dig (l := l) (i := 0) hp (fun q => by have := eq_of_beq a1; rw [x0] at q; omega)
   have htl : (l.drop 1).length ≤ 2 ^ 47 := by rw [List.length_drop]; omega
   have hdl : (l.drop 1).length = l.length - 1 := List.length_drop ..
   have xz : (0 : Int) = 0 := rfl
   repeat first
    | (refine Fo.idxStr (rfl : _ = strV _) rfl ?_ (by simp only [↓nrmL, nrmZ, Nat.reduceEqDiff, ↓reduceIte, Nat.reduceAdd, Int.reduceBEq, Int.reduceBNe, s1, s3, a1, x0]; rfl) ?_; (focus omega))
    | refine Fo.lenStr (rfl : _ = strV _) rfl ?_
    | refine Fo.mov (rfl : _ = strV _) ?_
    | (refine mv ?_)
    | refine oy ?_
    | refine ox ?_
    | refine Fo.noU rfl ?_
    | (refine bn rfl rfl rfl (by simp only [s1, s3, a1, x0]; rfl) ?_)
    | refine tB ?_
    | refine fB ?_
    | refine nl hKF ?_
    | refine sq ?_
    | refine rg fun KF hKF => ?_
    | refine ct rfl ?_
   refine Fo.slcStr (l := l) (a := 1) (b := l.length) rfl (Or.inr ⟨_, rfl⟩) (Or.inl ⟨rfl, rfl⟩) (by omega) (Nat.le_refl _) (congrArg strV xd) ?_
   cases z1 : decide (((((l.drop 1).length : Nat) : Int)) < 1)
   rotate_left
   ·skip
    repeat first
     | refine Fo.lenStr (rfl : _ = strV _) rfl ?_
     | refine Fo.mov (rfl : _ = strV _) ?_
     | (refine mv ?_)
     | (refine bn rfl rfl rfl (by simp only [z1]; rfl) ?_)
     | (refine Fo.now rfl rfl (by simp only [↓nrmL, nrmZ, Nat.reduceEqDiff, ↓reduceIte, Nat.reduceAdd, Int.reduceBEq, Int.reduceBNe, z1]; rfl) ?_)
     | refine nl hKF ?_
     | refine sq ?_
     | refine rg fun KF hKF => ?_
     | refine ct rfl ?_
     | refine rt ?_
     | dsimp only [cond_true, cond_false]
    refine rz trivial ?_
    exact ⟨_, _, rfl, Or.inr (Or.inr rfl), fun k hk e => (hno k hk e).elim, Ext0.ext⟩
   haveI hb : BytesI (H.push (.row (List.map (fun b : UInt8 => AVal.int .u8 ((b.toNat : Nat) : Int)) (l.drop 1)) true (2 * 5))) (.slice H.n 0 (l.drop 1).length none 1) (l.drop 1) := stb_bytes (H := H) (l := l.drop 1) (e := 2 * 5)
   haveI := hb.one
   repeat first
    | refine Fo.lenStr (rfl : _ = strV _) rfl ?_
    | refine Fo.mov (rfl : _ = strV _) ?_
    | (refine mv ?_)
    | (refine bn rfl rfl rfl (by simp only [str_size, z1, a1, x0]; rfl) ?_)
    | (refine ln (by simp only [↓nrmL, nrmK, Nat.reduceEqDiff, ↓reduceIte]; rfl) ?_)
    | (refine Fo.now rfl rfl (by simp only [str_size, z1, a1, x0]; rfl) ?_)
    | refine nl hKF ?_
    | refine sq ?_
    | refine rg fun KF hKF => ?_
    | refine cf rfl ?_
    | refine sk ?_
    | refine Wp.block ?_
    | dsimp only [cond_true, cond_false]
   refine Wp.loopS (σ := Nat) [2, 3, 6, 8, 49, 50, 51, 52, 53, 54, 55, 56, 57, 58, 59, 60, 61, 62, 63] (fun i => [(49, .int .i64 (i : Int)), (6, .int .i64 (atoiF ((l.drop 1).take i)))]) (fun H3 i H2 => i ≤ (l.drop 1).length ∧ Ext H3 H2) (fun i => (l.drop 1).length - i) 0 rfl (fun _ => rfl) ⟨rfl, rfl, trivial⟩ ⟨Nat.zero_le _, Ext.refl _⟩ (by unfold fuel0 at hn; have := htl; omega) ?_
   rintro i g H2 ⟨hi, hx2⟩
   haveI : ExtI _ H2 := ⟨hx2⟩
   simp only [↓nrmL, nrmZ, Nat.reduceEqDiff, ↓reduceIte, Nat.reduceAdd, Int.reduceBEq, Int.reduceBNe]
   cases hcl : decide ((i : Int) < (((l.drop 1).length : Nat) : Int))
   ·skip
    repeat first
     | (refine Fo.idxStr (rfl : _ = strV _) rfl ?_ (by simp only [↓nrmL, nrmZ, Nat.reduceEqDiff, ↓reduceIte, Nat.reduceAdd, Int.reduceBEq, Int.reduceBNe, str_size, hcl, x0, z1, a1]; rfl) ?_; (focus omega))
     | refine Fo.mov (rfl : _ = strV _) ?_
     | (refine mv ?_)
     | (refine bn rfl rfl rfl (by simp only [str_size, hcl, x0, z1, a1]; rfl) ?_)
     | refine Fo.now rfl rfl rfl ?_
     | refine nl hKF ?_
     | refine sq ?_
     | refine rg fun KF hKF => ?_
     | refine ct rfl ?_
     | refine cf rfl ?_
     | refine rt ?_
     | refine xi ?_
     | dsimp only [cond_true, cond_false]
    refine rz trivial ?_
    exact ⟨_, _, rfl, Or.inl rfl, fun k hk e => (hno k hk e).elim, Ext0.ext⟩
   have hil : i < (l.drop 1).length := by have := of_decide_eq_true hcl; omega
   have hw1 : IntKind.i64.wrap ((i : Int) + 1) = ((i + 1 : Nat) : Int) := by rw [w64r (by omega) (by omega)]; omega
   obtain ⟨W, hW⟩ : ∃ W, IntKind.u8.wrap (((((l.drop 1)[i]).toNat : Nat) : Int) - 48) = W := ⟨_, rfl⟩
   cases p9 : decide (IntKind.u8.wrap (((((l.drop 1)[i]).toNat : Nat) : Int) - 48) > 9)
   rotate_left
   ·skip
    repeat first
     | (refine mv ?_)
     | (refine bn rfl rfl rfl (by simp only [hcl, p9]; rfl) ?_)
     | refine b0 ?_
     | (refine Fo.idx (by simp only [↓nrmL, nrmK, Nat.reduceEqDiff, ↓reduceIte]; rfl) rfl ?_ (by simp only [↓nrmL, nrmZ, Nat.reduceEqDiff, ↓reduceIte, Nat.reduceAdd, Int.reduceBEq, Int.reduceBNe, hcl, p9]; rfl) ?_; (focus omega))
     | (refine Fo.ldB rfl ?_ rfl ?_; (focus omega))
     | (refine Fo.now rfl rfl (by simp only [↓nrmL, nrmZ, Nat.reduceEqDiff, ↓reduceIte, Nat.reduceAdd, Int.reduceBEq, Int.reduceBNe, hcl, p9]; rfl) ?_)
     | refine nl hKF ?_
     | refine sq ?_
     | refine rg fun KF hKF => ?_
     | refine ct rfl ?_
     | refine sk ?_
     | refine rt ?_
     | refine Wp.block ?_
     | dsimp only [cond_true, cond_false]
    refine rz trivial ?_
    exact ⟨_, _, rfl, Or.inr (Or.inr rfl), fun k hk e => (hno k hk e).elim, Ext0.ext⟩
   repeat first
    | (refine mv ?_)
    | (refine bn rfl rfl rfl (by simp only [hcl, p9]; rfl) ?_)
    | refine b0 ?_
    | (refine Fo.idx (by simp only [↓nrmL, nrmK, Nat.reduceEqDiff, ↓reduceIte]; rfl) rfl ?_ (by simp only [↓nrmL, nrmZ, Nat.reduceEqDiff, ↓reduceIte, Nat.reduceAdd, Int.reduceBEq, Int.reduceBNe, hcl, p9]; rfl) ?_; (focus omega))
    | (refine Fo.ldB rfl ?_ rfl ?_; (focus omega))
    | refine Fo.now rfl rfl rfl ?_
    | refine nl hKF ?_
    | refine sq ?_
    | refine rg fun KF hKF => ?_
    | refine ct rfl ?_
    | refine cf rfl ?_
    | refine sk ?_
    | refine Wp.block ?_
    | dsimp only [cond_true, cond_false]
   exact ⟨i + 1, by omega, ⟨by simp only [↓nrmL, nrmZ, Nat.reduceEqDiff, ↓reduceIte, Nat.reduceAdd, Int.reduceBEq, Int.reduceBNe]; rw [hw1], by simp only [↓nrmL, nrmZ, Nat.reduceEqDiff, ↓reduceIte, Nat.reduceAdd, Int.reduceBEq, Int.reduceBNe]; rw [atoi_next hil]; rfl, trivial⟩, by omega, Ext0.ext⟩
end Go.Am
namespace Go.Am
open Go
attribute [local irreducible] Wp WpO WpX WpE
theorem K_Atoi {l : Bs} {H : AHeap} [hE : ErrsI H] [hl : Len47 l] : Con ext prog 5 103 [strV l] H fun v H' => ∃ n e, v = .tuple [.int .i64 n, e] ∧ (e = .niface ∨ ∃ t x, e = .iface t x) ∧ (∀ k : Nat, k < 100 → l = digL k → n = (k : Int) ∧ e = .niface) ∧ Ext H H' := by
 refine con_of (show prog 103 = some c103 from rfl) rfl rfl fun m hn => ?_
 repeat first
  | refine Fo.mov (rfl : _ = strV _) ?_
  | (refine mv ?_)
  | refine nl hKF ?_
  | refine sq ?_
  | refine rg fun KF hKF => ?_
 refine WpO.do (WpX.conD hn rfl rfl (by simp only [↓nrmL, nrmZ, Nat.reduceEqDiff, ↓reduceIte, Nat.reduceAdd, Int.reduceBEq, Int.reduceBNe, List.map] <;> rfl) (K_iAtoi (l := l)) fun v H1 h5 => ?_)
 obtain ⟨n, e, rfl, he, hk, hx⟩ := h5
 haveI : ExtI _ H1 := ⟨hx⟩
 rcases he with rfl | he
 ·skip
  repeat first
   | (refine mv ?_)
   | refine xt ?_
   | (refine Fo.now rfl rfl (by simp only [↓nrmL, nrmZ, Nat.reduceEqDiff, ↓reduceIte, Nat.reduceAdd, Int.reduceBEq, Int.reduceBNe]; rfl) ?_)
   | refine nl hKF ?_
   | refine sq ?_
   | refine rg fun KF hKF => ?_
   | refine cf rfl ?_
   | refine sk ?_
   | refine rt ?_
   | dsimp only [cond_true, cond_false]
  refine rz trivial ?_
  exact ⟨_, _, rfl, Or.inl rfl, fun k h1 h2 => ⟨(hk k h1 h2).1, rfl⟩, Ext0.ext⟩
 ·have hno : ∀ k : Nat, k < 100 → l = digL k → False := fun k h1 h2 => by
   have := (hk k h1 h2).2
   rcases he with e1 | e1 <;> rw [e1] at this <;> cases this
  have he2 : ∃ x, e = .iface 149 x := by rcases he with e1 | e1 <;> exact ⟨_, e1⟩
  obtain ⟨x, rfl⟩ := he2
  repeat first
   | refine Fo.mov (rfl : _ = strV _) ?_
   | (refine mv ?_)
   | refine xt ?_
   | (refine Fo.now rfl rfl (by simp only [↓nrmL, nrmZ, Nat.reduceEqDiff, ↓reduceIte, Nat.reduceAdd, Int.reduceBEq, Int.reduceBNe]; rfl) ?_)
   | refine nl hKF ?_
   | refine sq ?_
   | refine rg fun KF hKF => ?_
   | refine ct rfl ?_
  refine WpO.do (WpX.conD hn rfl rfl (by simp only [↓nrmL, nrmZ, Nat.reduceEqDiff, ↓reduceIte, Nat.reduceAdd, Int.reduceBEq, Int.reduceBNe, List.map] <;> rfl) (K_toError (f := [65, 116, 111, 105]) (l := l) he) fun v H2 h5 => ?_)
  obtain ⟨t, x, rfl, hx2⟩ := h5
  haveI : ExtI _ H2 := ⟨hx2⟩
  refine mv ?_
  refine mv ?_
  refine nl hKF ?_
  refine rt ?_
  dsimp only [cond_true, cond_false]
  refine rz trivial ?_
  exact ⟨_, _, rfl, Or.inr ⟨_, _, rfl⟩, fun k h1 h2 => (hno k h1 h2).elim, Ext0.ext⟩
def minB (l : Bs) : Bool := l.take 1 == [45]
def restL (l : Bs) : Bs := bif minB l then l.drop 1 else l
instance K_HasPrefix {l : Bs} {H : AHeap} : PureCon ext prog 124 [strV l, .str ⟨#[45]⟩] H 1 (.bool (minB l)) := ⟨by
 refine con_of (show prog 124 = some c124 from rfl) rfl rfl fun m hn => ?_
 have e1 : (AVal.str ⟨#[45]⟩) = strV [45] := rfl
 rw [e1]
 cases h1 : decide (((l.length : Nat) : Int) ≥ ((([45] : Bs).length : Nat) : Int))
 ·have hm : minB l = false := by
   have := of_decide_eq_false h1
   have : l = [] := List.length_eq_zero_iff.1 (by simp at this; omega)
   subst this; rfl
  repeat first
   | refine Fo.lenStr (rfl : _ = strV _) rfl ?_
   | refine Fo.mov (rfl : _ = strV _) ?_
   | (refine mv ?_)
   | refine ox ?_
   | (refine bn rfl rfl rfl (by simp only [h1]; rfl) ?_)
   | refine fB ?_
   | refine nl hKF ?_
   | refine sq ?_
   | refine rg fun KF hKF => ?_
   | refine rt ?_
   | dsimp only [cond_true, cond_false]
  refine rz trivial ?_
  exact ⟨by rw [hm]; rfl, Ext0.ext⟩
 ·have hp : 1 ≤ l.length := by have := of_decide_eq_true h1; simp at this; omega
  repeat first
   | refine Fo.lenStr (rfl : _ = strV _) rfl ?_
   | refine Fo.eqStr rfl rfl rfl ?_
   | (refine Fo.slcStr (rfl : _ = strV _) (by first | exact Or.inl ⟨rfl, rfl⟩ | exact Or.inr ⟨_, rfl⟩) (by first | exact Or.inl ⟨rfl, rfl⟩ | exact Or.inr ⟨_, rfl⟩) ?_ ?_ rfl ?_; (focus omega); (focus omega))
   | refine Fo.mov (rfl : _ = strV _) ?_
   | (refine mv ?_)
   | refine oy ?_
   | (refine bn rfl rfl rfl (by simp only [h1]; rfl) ?_)
   | refine tB ?_
   | refine nl hKF ?_
   | refine sq ?_
   | refine rg fun KF hKF => ?_
   | refine rt ?_
   | dsimp only [cond_true, cond_false]
  refine rz trivial ?_
  exact ⟨rfl, Ext0.ext⟩⟩
theorem min_len {l : Bs} (h : minB l = true) : 1 ≤ l.length := by
 cases l with
 | nil => cases h
 | cons => exact Nat.succ_pos _
instance K_CutPrefix1 {l : Bs} {H : AHeap} : PureCon ext prog 118 [strV l, .str ⟨#[45]⟩] H 2 (.tuple [strV (restL l), .bool (minB l)]) := ⟨by
 have e1 : (AVal.str ⟨#[45]⟩) = strV [45] := rfl
 refine con_of (show prog 118 = some c118 from rfl) rfl rfl fun m hn => ?_
 cases h1 : minB l
 ·have hr : restL l = l := by unfold restL; rw [h1]; rfl
  repeat first
   | refine Fo.mov (rfl : _ = strV _) ?_
   | (refine mv ?_)
   | (refine Fo.pcall (v' := ?_) hn rfl (by simp only [↓nrmL, nrmZ, Nat.reduceEqDiff, ↓reduceIte, Nat.reduceAdd, Int.reduceBEq, Int.reduceBNe, h1, List.map]; rfl) rfl ?hv fun _ _ => ?_; case hv => (simp only [h1]; rfl))
   | (refine Fo.now rfl rfl (by simp only [↓nrmL, nrmZ, Nat.reduceEqDiff, ↓reduceIte, Nat.reduceAdd, Int.reduceBEq, Int.reduceBNe, h1]; rfl) ?_)
   | refine nl hKF ?_
   | refine sq ?_
   | refine rg fun KF hKF => ?_
   | refine ct rfl ?_
   | refine rt ?_
   | dsimp only [cond_true, cond_false]
  refine rz trivial ?_
  exact ⟨by rw [hr]; rfl, Ext0.ext⟩
 ·have hr : restL l = l.drop 1 := by unfold restL; rw [h1]; rfl
  have hp := min_len h1
  have xd : (l.drop 1).take (l.length - 1) = l.drop 1 := by rw [List.take_of_length_le (by rw [List.length_drop]; omega)]
  repeat first
   | refine Fo.lenStr (rfl : _ = strV _) rfl ?_
   | (refine Fo.slcStr (rfl : _ = strV _) (by first | exact Or.inl ⟨rfl, rfl⟩ | exact Or.inr ⟨_, rfl⟩) (by first | exact Or.inl ⟨rfl, rfl⟩ | exact Or.inr ⟨_, rfl⟩) ?_ ?_ rfl ?_; (focus omega); (focus omega))
   | refine Fo.mov (rfl : _ = strV _) ?_
   | (refine mv ?_)
   | (refine Fo.pcall (v' := ?_) hn rfl (by simp only [↓nrmL, nrmZ, Nat.reduceEqDiff, ↓reduceIte, Nat.reduceAdd, Int.reduceBEq, Int.reduceBNe, h1, List.map]; rfl) rfl ?hv fun _ _ => ?_; case hv => (simp only [h1]; rfl))
   | (refine Fo.now rfl rfl (by simp only [↓nrmL, nrmZ, Nat.reduceEqDiff, ↓reduceIte, Nat.reduceAdd, Int.reduceBEq, Int.reduceBNe, h1]; rfl) ?_)
   | refine nl hKF ?_
   | refine sq ?_
   | refine rg fun KF hKF => ?_
   | refine cf rfl ?_
   | refine sk ?_
   | refine rt ?_
   | dsimp only [cond_true, cond_false]
  refine rz trivial ?_
  exact ⟨by rw [hr, ← xd]; rfl, Ext0.ext⟩⟩
instance K_CutPrefix {l : Bs} {H : AHeap} : PureCon ext prog 102 [strV l, .str ⟨#[45]⟩] H 3 (.tuple [strV (restL l), .bool (minB l)]) := ⟨by
 refine con_of (show prog 102 = some c102 from rfl) rfl rfl fun m hn => ?_
 repeat first
  | refine Fo.mov (rfl : _ = strV _) ?_
  | (refine mv ?_)
  | refine xt ?_
  | (refine Fo.pcall (v' := ?_) hn rfl (by simp only [↓nrmL, nrmZ, Nat.reduceEqDiff, ↓reduceIte, Nat.reduceAdd, Int.reduceBEq, Int.reduceBNe, List.map]; rfl) rfl ?hv fun _ _ => ?_; case hv => rfl)
  | refine nl hKF ?_
  | refine sq ?_
  | refine rg fun KF hKF => ?_
  | refine rt ?_
  | dsimp only [cond_true, cond_false]
 refine rz trivial ?_
 exact ⟨rfl, Ext0.ext⟩⟩
def candI (w : Bool) (n e : Int) : Int := bif w then -n else n
def candS (w : Bool) (n e : Int) : Int := bif w then -(natI n + e) else natI n + e
def hitB (l : Bs) (w : Bool) (n e : Int) : Bool := (titleS (candI w n e) (candS w n e)).2 == 0 && (titleS (candI w n e) (candS w n e)).1 == l
theorem q_chars (p : Bool) (e : Int) : ∀ c ∈ qualL p e, c ≠ 45 := by
 unfold qualL
 repeat' split
 all_goals decide
theorem title_is {i s : Int} {l : Bs} (h2 : (titleS i s).2 = 0) (h1 : (titleS i s).1 = l) : ∃ c : UInt8, c ≠ 45 ∧ stepB (upI i s) = true ∧ l = (bif downB i s then [45] else []) ++ c :: digL (upI i s + 1).toNat := by
 unfold titleS at h1 h2
 cases hb : titleB i s
 ·rw [hb] at h2; cases h2
 rw [hb] at h1
 simp only [cond_true] at h1
 unfold titleB at hb
 simp only [Bool.and_eq_true, Bool.not_eq_true'] at hb
 obtain ⟨⟨_, hst⟩, hq⟩ := hb
 have hl := q_len (perfB (upI i s)) (upS i s - natI (upI i s))
 have hc := q_chars (perfB (upI i s)) (upS i s - natI (upI i s))
 unfold titleL at h1
 generalize qualL (perfB (upI i s)) (upS i s - natI (upI i s)) = q at hq hl hc h1
 match q, hq, hl, hc, h1 with
 | [c], _, _, hc, h1 => exact ⟨c, hc c (by simp), hst, by rw [← h1]; simp⟩
 | _ :: _ :: _, _, hl, _, _ => simp at hl
theorem hit_tail {l : Bs} {n e : Int} (h : hitB l (minB l) n e = true) : stepB n = true ∧ 2 ≤ (restL l).length ∧ (restL l).drop 1 = digL (n + 1).toNat := by
 unfold hitB at h
 simp only [Bool.and_eq_true, beq_iff_eq] at h
 obtain ⟨c, hc, hst, hl⟩ := title_is h.1 h.2
 cases hm : minB l
 ·rw [hm] at hl hst
  cases hd : downB (candI false n e) (candS false n e)
  ·rw [hd] at hl
   have hu : upI (candI false n e) (candS false n e) = n := by unfold upI; rw [hd]; rfl
   rw [hu] at hl hst
   simp only [cond_false, List.nil_append] at hl
   have hr : restL l = l := by unfold restL; rw [hm]; rfl
   have := dig_pos (n + 1).toNat
   rw [hr, hl]
   exact ⟨hst, by simp only [List.length_cons]; omega, rfl⟩
  ·rw [hd] at hl
   rw [hl] at hm
   cases hm
 ·rw [hm] at hl hst
  cases hd : downB (candI true n e) (candS true n e)
  ·rw [hd] at hl
   rw [hl] at hm
   simp only [cond_false, List.nil_append] at hm
   unfold minB at hm
   simp at hm
   exact absurd hm hc
  ·rw [hd] at hl
   have hu : upI (candI true n e) (candS true n e) = n := by unfold upI candI; rw [show downB (bif true then -n else n) (candS true n e) = true from hd]; simp
   rw [hu] at hl hst
   simp only [cond_true, List.cons_append, List.nil_append] at hl
   have hr : restL l = l.drop 1 := by unfold restL; rw [hm]; rfl
   have := dig_pos (n + 1).toNat
   rw [hr, hl]
   exact ⟨hst, by simp only [List.drop_succ_cons, List.drop_zero, List.length_cons]; omega, rfl⟩
end Go.Am
