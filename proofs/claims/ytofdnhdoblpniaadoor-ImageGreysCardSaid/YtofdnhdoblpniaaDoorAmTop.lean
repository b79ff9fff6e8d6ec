/- From a contract over the small machine to what a law's row asks. -/
import Derived.Test.YtofdnhdoblpniaaDoorAmOpen
import Derived.Test.YtofdnhdoblpniaaDoorAmKit3
import Derived.ChangeSame
import Derived.RowKit
import Derived.ChangeOld
set_option linter.unusedSimpArgs false
set_option linter.unusedVariables false
namespace Go.Am
open Go Go.RowKit Go.ChangeShapes Go.WideShapes

def aggTy (P : Program) (t : TypeId) : Bool := match P.underlying t with
  | some (.struct _) => true
  | some (.array _ _) => true
  | _ => false
/-- An argument out of its cells. -/
def argV (P : Program) (t : TypeId) (acs : List AVal) : AVal := bif aggTy P t then .agg acs else acs.headD .nptr
def ArgS (P : Program) (H : AHeap) (n : Nat) : List TypeId → List AVal → Prop
  | [], avs => avs = []
  | t :: ts, avs => ∃ acs rest, avs = argV P t acs :: rest ∧ Shape P H n t acs ∧ ArgS P H n ts rest
theorem ArgS.ext {P : Program} {H H' : AHeap} (x : Ext H H') {n : Nat} : ∀ {ts : List TypeId} {avs : List AVal}, ArgS P H n ts avs → ArgS P H' n ts avs := by
  intro ts
  induction ts with
  | nil => intro avs h; exact h
  | cons t ts ih =>
    intro avs h
    obtain ⟨acs, rest, e, h1, h2⟩ := h
    exact ⟨acs, rest, e, h1.ext x, ih h2⟩

section
variable {P : Program} {S : Base} {m : RMap} {H : AHeap} {w : World} {Hd : Type} {enc : TypeId × Value → Hd} {T : TypeId → Prop}

theorem open_arg (hgh : ∀ r, ¬ S.ghost r) (K : Kids P T) (hz : ∀ t e, T t → P.underlying t = some (.slice e) → 0 < P.cellsOf e) {n : Nat} {t : TypeId} {v : Value} {d : DataW Hd} {ps : List MemPlace} (hT : T t) (hp : plainT P n t = true)
    (hok : Value.okWide P w .any 0 t v ∨ ∃ b, Value.okWide P w .any b t v) (hd : DataW.Trod enc P w 0 (fun _ => true) true t v d ps) (h : HRel S m H w) (hro : RO H) :
    ∃ H' m' acs, Ext H H' ∧ Le m m' ∧ HRel S m' H' w ∧ RO H' ∧ emb m' (argV P t acs) = some v ∧ Shape P H' n t acs := by
  obtain ⟨b, hok⟩ : ∃ b, Value.okWide P w .any b t v := by rcases hok with h | h; exact ⟨0, h⟩; exact h
  obtain ⟨f, hf⟩ := hd
  obtain ⟨H', m', acs, h1, h2, h3, h4, h5, h6⟩ := open_trod hgh K hz n f t _ _ m H hT hp hf h hro
  refine ⟨H', m', acs, h1, h2, h3, h4, ?_, h6⟩
  have one : v.cells = #[v] → aggTy P t = false → emb m' (argV P t acs) = some v := by
    intro hc ha
    rw [hc] at h5
    have hl := embL_length h5
    match acs, hl with
    | [a], _ =>
      obtain ⟨x, xs, q1, q2, q3⟩ := embL_cons h5
      simp at q3
      simp only [argV, ha, cond_false, List.headD_cons]
      rw [q1, q3.1]
  cases n with
  | zero => simp [plainT] at hp
  | succ n =>
    unfold plainT at hp
    split at hp <;> rename_i hu
    · obtain ⟨b, rfl⟩ := okWide_bool hu hok
      exact one rfl (by simp [aggTy, hu])
    · obtain ⟨b, rfl⟩ := okWide_string hu hok
      exact one rfl (by simp [aggTy, hu])
    · obtain ⟨b, rfl⟩ := okWide_int hu hok
      exact one rfl (by simp [aggTy, hu])
    · obtain ⟨a, len, cap, rfl⟩ := okWide_slice hu hok
      exact one rfl (by simp [aggTy, hu])
    · obtain ⟨cs, rfl, _⟩ := okWide_struct hu hok
      have ha : aggTy P t = true := by simp [aggTy, hu]
      simp only [argV, ha, cond_true, emb]
      simp only [Value.cells] at h5
      rw [h5]
    · have hcs : ∃ cs, v = .agg cs := by
        simp only [Value.okWide, hu] at hok
        obtain ⟨cs, e, _⟩ := hok
        exact ⟨cs, e⟩
      obtain ⟨cs, rfl⟩ := hcs
      have ha : aggTy P t = true := by simp [aggTy, hu]
      simp only [argV, ha, cond_true, emb]
      simp only [Value.cells] at h5
      rw [h5]
    · cases hp

theorem open_args (hgh : ∀ r, ¬ S.ghost r) (K : Kids P T) (hz : ∀ t e, T t → P.underlying t = some (.slice e) → 0 < P.cellsOf e) {n b : Nat} : ∀ (ts : List TypeId) (vs : List Value) (ds : List (DataW Hd)) (ps : List MemPlace) (m : RMap) (H : AHeap), (∀ t ∈ ts, T t ∧ plainT P n t = true) →
    (∀ (j : Nat) t v, ts[j]? = some t → vs[j]? = some v → Value.okWide P w .any b t v) → DataW.TrodAll enc P w 0 (fun _ => true) true ts vs ds ps → HRel S m H w → RO H →
    ∃ H' m' avs, Ext H H' ∧ Le m m' ∧ HRel S m' H' w ∧ RO H' ∧ embL m' avs = some vs ∧ ArgS P H' n ts avs := by
  intro ts
  induction ts with
  | nil =>
    intro vs ds ps m H _ _ hd h hro
    obtain ⟨rfl, _, _⟩ := trodAll_nil hd
    exact ⟨H, m, [], Ext.refl H, Le.refl m, h, hro, by simp [embL], rfl⟩
  | cons t ts ih =>
    intro vs ds ps m H hT hok hd h hro
    obtain ⟨v, vs', d, ds', p, q, rfl, rfl, rfl, h1, h2⟩ := trodAll_cons hd
    obtain ⟨hTt, hpt⟩ := hT t (by simp)
    obtain ⟨H1, m1, acs, e1, l1, r1, o1, b1, s1⟩ := open_arg hgh K hz hTt hpt (Or.inr ⟨b, hok 0 t v rfl rfl⟩) h1 h hro
    obtain ⟨H2, m2, avs, e2, l2, r2, o2, b2, s2⟩ := ih vs' ds' q m1 H1 (fun t h => hT t (by simp [h])) (fun j t v q1 q2 => hok (j + 1) t v (by simpa using q1) (by simpa using q2)) h2 r1 o1
    exact ⟨H2, m2, argV P t acs :: avs, e1.trans e2, Le.trans l1 l2, r2, o2, embL_mk (emb_mono l2 _ _ b1) b2, acs, avs, rfl, s1.ext e2, s2⟩

/-- What the law's own post-condition asks, where nothing of what was there has turned. -/
theorem args_stay (K : Kids P T) (hz : ∀ t e, T t → P.underlying t = some (.slice e) → 0 < P.cellsOf e) {w' : World} (hb : Below w.heap.size w w') {sp : Nat → Bool} : ∀ {ts : List TypeId} {vs : List Value} {ds : List (DataW Hd)} {ps : List MemPlace}, (∀ t ∈ ts, T t) →
    DataW.TrodAll enc P w 0 (fun _ => true) true ts vs ds ps → (∀ p ∈ ps, p.block < w.heap.size) → (∀ p ∈ ps, sp p.block = true) → DataW.TrodAll enc P w' 0 sp true ts vs ds ps
  | [], [], [], _, _, h, _, _ => h
  | _ :: _, _ :: _, _ :: _, _, hT, ⟨p, q, h1, h2, e⟩, hlt, hs => by
    obtain ⟨f, hf⟩ := h1
    refine ⟨p, q, ⟨f, ?_⟩, args_stay K hz hb (fun t ht => hT t (List.mem_cons.2 (Or.inr ht))) h2 (fun x hx => hlt x (by rw [e]; exact List.mem_append_right _ hx)) fun x hx => hs x (by rw [e]; exact List.mem_append_right _ hx), e⟩
    exact DataW.trod_stays K (fun {t e} => hz t e) (by intro h; cases h) (hT _ (List.mem_cons.2 (Or.inl rfl))) hf (fun x hx => hb.same (hlt x (by rw [e]; exact List.mem_append_left _ hx))) fun x hx => hs x (by rw [e]; exact List.mem_append_left _ hx)

theorem post_true {fn : Func} {s : ChangeSpec} {apart fresh handsOn again : Bool} {w' : World} {args : Array Value} {ds gs : List (DataW Hd)} {before : List MemPlace} {tb : TypeId} (K : Kids P T) (hz : ∀ t e, T t → P.underlying t = some (.slice e) → 0 < P.cellsOf e) (hT : ∀ t ∈ fn.params.toList, T t)
    (hvars : s.vars = []) (hfn : s.fn Hd ds = { results := [.lit (.bool true)], args := ds }) (hrt : fn.resultTypes = #[tb]) (htb : P.underlying tb = some .bool)
    (hW : DataW.Whole enc P fn.params.toList s.vars apart w args.toList ds gs before) (hb : Below w.heap.size w w') : s.post enc P fn apart fresh handsOn again w args (.bool true) w' := by
  have hlt := hW.lt
  have hW' := hW
  obtain ⟨p, q, hA, hV, rfl, hfz, hnd⟩ := hW
  rw [hvars] at hV
  obtain ⟨rfl, rfl⟩ := trodVars_none hV
  rw [List.append_nil] at *
  have hv0 : ∀ sp : Nat → Bool, DataW.TrodVars enc P w' sp s.vars ([] : List (DataW Hd)) [] := fun sp => by rw [hvars]; rfl
  have hres : ∀ (b : Nat) (sp : Nat → Bool) (hd : Bool), DataW.TrodAll enc P w' b sp hd fn.resultTypes.toList ((Value.bool true).resultList fn.resultTypes.size) [.lit (.bool true)] [] := fun b sp hd => by
    rw [hrt]
    exact trodAll_cons_mk (shut_bool htb true) trodAll_mk0
  have hargs : ∀ sp : Nat → Bool, (∀ x ∈ p, sp x.block = true) → DataW.TrodAll enc P w' 0 sp true fn.params.toList args.toList ds p := fun sp hs => args_stay K hz hb hT hA hlt hs
  refine ⟨ds, [], p, [], p, [], hW', ?_, ?_, ?_, ?_, fun _ => ⟨?_, [.lit (.bool true)] ++ ds, [], p, ⟨p, [], ?_, hv0 _, by simp, ?_, hnd⟩, fun x hx _ => hx⟩⟩
  · rw [List.append_nil, hfn]; exact hres _ _ _
  · rw [List.append_nil, hfn]; exact hargs _ fun x hx => by simpa using hlt x hx
  · rw [List.append_nil, hfn]; exact hv0 _
  · exact hb.frame _
  · intro j t r hj hr
    rw [hrt] at hj hr
    cases j with
    | zero =>
      simp at hj
      subst hj
      simp [Value.resultList] at hr
      subst hr
      exact okWide_bool_mk htb _
    | succ j => simp at hj
  · simpa using trodAll_append (hargs (fun _ => true) fun _ _ => rfl) (hres 0 (fun _ => true) true)
  · intro b off hp
    have h1 := hlt _ hp
    rw [hb.frozen (p := ⟨b, off, none⟩) h1]
    exact hfz b off hp
end

/-- A law's contract over the small machine gives its row's. -/
theorem law_calls {P : Program} {ext : Exts} {prog : FuncId → Option RFunc} {f : FuncId} {fn : Func} {c : Code} {s : ChangeSpec} {apart fresh handsOn again : Bool} {tb : TypeId} {tabs : List (Nat × List AVal)} {n d : Nat}
    (hmix : P.follows .mixedOrders = true) (hP : ProgOk P ext prog) (hfn : P.funcs[f]? = some fn) (hb : fn.body = some c) (hname : fn.name ≠ "runtime.NumGoroutine")
    (hl : laidOutB P = true) (hm : mapsRowed P = true) (hz : ∀ t e, t < P.types.size → P.underlying t = some (.slice e) → 0 < P.cellsOf e) (hplain : (fn.params.toList.all fun t => decide (t < P.types.size) && plainT P n t) = true)
    (hvars : s.vars = []) (hrt : fn.resultTypes = #[tb]) (htb : P.underlying tb = some .bool) (htabs0 : tablesIn tabs (tableHeap P.globals.size tabs) = true) (htabs : (tabs.all fun t => Nat.blt t.1 P.globals.size && t.2.all plainV) = true)
    (hcon : ∀ (H : AHeap) (avs : List AVal), tablesIn tabs H = true → ArgS P H n fn.params.toList avs → Con ext prog d f avs H fun v H' => v = .bool true ∧ Ext H H')
    (Hd : Type) (enc : TypeId × Value → Hd) (W : World) (base : Nat) (args : Array Value) (ds gs : List (DataW Hd)) (before : List MemPlace)
    (hspec : s.fn Hd ds = { results := [.lit (.bool true)], args := ds })
    (hval : ∀ (j : Nat) t v, fn.params[j]? = some t → args[j]? = some v → Value.okWide P W .any base t v) (hW : DataW.Whole enc P fn.params.toList s.vars apart W args.toList ds gs before)
    (hcells : ∀ t ∈ tabs, ∀ (i : Nat) (v : AVal), t.2[i]? = some v → ∃ x, emb (fun _ => none) v = some x ∧ W.cell? ⟨t.1, i, none⟩ = some x) :
    Calls P f args W fun e W' => ∃ v, e = .returned v ∧ s.post enc P fn apart fresh handsOn again W args v W' := by
  have K := kids_rows (P := P) hl hm
  have hpl := List.all_eq_true.1 hplain
  have hT : ∀ t ∈ fn.params.toList, t < P.types.size ∧ plainT P n t = true := fun t ht => by
    have := hpl t ht
    simpa using this
  have htab := List.all_eq_true.1 htabs
  -- the tables
  have hrel : HRel ⟨W.heap.size, W, P.globals.size, fun _ => False⟩ (globMap P.globals.size (longest tabs)) (tableHeap P.globals.size tabs) W := by
    refine ⟨Below.refl _ _, Nat.le_refl _, fun g hg => ⟨longest tabs, by simp only at hg; simp [globMap, hg]⟩, fun r hr => by simp only [tableHeap] at hr; simp [globMap]; omega, fun r hr => hr.elim, ?_, ?_⟩
    · intro r cs rw e p hr hg hp
      obtain ⟨hmem, rfl⟩ := tableObj_row hg
      have hT1 := htab _ hmem
      simp only [Bool.and_eq_true] at hT1
      have hrG : r < P.globals.size := by simpa using hT1.1
      have hp' : p = (⟨r, 0, none⟩, longest tabs) := by simp only [globMap, hrG, if_true] at hp; exact (Option.some.inj hp).symm
      subst hp'
      refine ⟨fun i v hi => ?_, le_longest hmem, fun q => by cases q⟩
      obtain ⟨x, h1, h2⟩ := hcells _ hmem i v hi
      have hv : plainV v = true := List.all_eq_true.1 hT1.2 v (List.mem_of_getElem? hi)
      refine ⟨x, by rw [plain_emb hv _ (fun _ => none)]; exact h1, ?_⟩
      cases i <;> simpa [Addr.add] using h2
    · intro r s' cs rw e cs' e' p q hr hs hne hg1 hg2 hp hq
      exact absurd (tableObj_row hg2).2 (by decide)
  have hro : RO (tableHeap P.globals.size tabs) := fun r cs rw e hg => (tableObj_row hg).2
  obtain ⟨p, q, hA, hrest⟩ := hW
  obtain ⟨H', m', avs, e1, l1, r1, o1, b1, s1⟩ := open_args (P := P) (T := (· < P.types.size)) (fun _ h => h) K hz (n := n) (b := base) fn.params.toList args.toList ds p _ _ hT (fun j t v q1 q2 => hval j t v (by simpa using q1) (by simpa using q2)) hA hrel hro
  have htabs' : tablesIn tabs H' = true := by
    refine List.all_eq_true.2 fun t ht => ?_
    have hT1 := htab _ ht
    simp only [Bool.and_eq_true] at hT1 ⊢
    have htG : t.1 < P.globals.size := by simpa using hT1.1
    have hlt : t.1 < (tableHeap P.globals.size tabs).n := htG
    have hn : t.1 < H'.n := Nat.lt_of_lt_of_le hlt e1.n
    have h0 := List.all_eq_true.1 htabs0 t ht
    simp only [Bool.and_eq_true] at h0
    refine ⟨by simpa using hn, ?_⟩
    rw [e1.get _ hlt]
    exact h0.2
  have hc := calls_of_evs hmix hP rfl hfn hb hname r1 (args := avs) (vargs := args) b1 (hcon H' avs htabs' s1).evs
  refine hc.mono fun e W' ⟨x, v, H2, he, ⟨hv, hx2⟩, m2, hl2, hemb, hr2⟩ => ?_
  subst hv
  simp only [emb, Option.some.injEq] at hemb
  subst hemb
  exact ⟨_, he, post_true (T := (· < P.types.size)) K hz (fun t ht => (hT t ht).1) hvars hspec hrt htb ⟨p, q, hA, hrest⟩ hr2.below⟩

/- what a listed variable holds -/
def litV : Lit → Value
  | .bool b => .bool b
  | .int k n => .int k n
  | .float k b => .float k b
  | .string s => .string ⟨s.toArray⟩
  | .nil => .nilFunc
def flatD {Hd : Type} : Nat → DataW Hd → List Value
  | 0, _ => []
  | _ + 1, .lit l => [litV l]
  | n + 1, .agg ds => ds.flatMap (flatD n)
  | _ + 1, _ => []
def flatT (P : Program) : Nat → TypeId → Bool
  | 0, _ => false
  | n + 1, t => match P.underlying t with
    | some .bool => true
    | some .string => true
    | some (.int _) => true
    | some (.struct fs) => fs.toList.all fun f => flatT P n f.type
    | some (.array _ e) => flatT P n e
    | _ => false
section
variable {P : Program} {w : World} {Hd : Type} {enc : TypeId × Value → Hd} {base : Nat} {spare : Nat → Bool} {held : Bool} {T : TypeId → Prop}
theorem flat_pieces {n f : Nat} (ih : ∀ (t : TypeId) (cs : List Value) (x : DataW Hd × List MemPlace), T t → flatT P n t = true → DataW.trod enc P w base spare held f t cs = some x → cs = flatD n x.1) :
    ∀ (l : List (TypeId × List Value)) (xs : List (DataW Hd × List MemPlace)), l.length = xs.length → (∀ (i : Nat) (q : TypeId × List Value) (x : DataW Hd × List MemPlace), l[i]? = some q → xs[i]? = some x → T q.1 ∧ flatT P n q.1 = true ∧ DataW.trod enc P w base spare held f q.1 q.2 = some x) → (l.map (·.2)).flatten = (xs.map (·.1)).flatMap (flatD n) := by
  intro l
  induction l with
  | nil => intro xs h _; have : xs = [] := List.eq_nil_of_length_eq_zero (by simpa using h.symm); subst this; rfl
  | cons q l ihl =>
    intro xs h hx
    cases xs with
    | nil => simp at h
    | cons x xs =>
      obtain ⟨h1, h2, h3⟩ := hx 0 q x rfl rfl
      rw [List.map_cons, List.flatten_cons, List.map_cons, List.flatMap_cons, ← ih _ _ _ h1 h2 h3, ihl xs (by simpa using h) fun i q x a b => hx (i + 1) q x (by simpa using a) (by simpa using b)]
theorem flat_trod (K : Kids P T) : ∀ (n f : Nat) (t : TypeId) (cs : List Value) (x : DataW Hd × List MemPlace), T t → flatT P n t = true → DataW.trod enc P w base spare held f t cs = some x → cs = flatD n x.1 := by
  intro n
  induction n with
  | zero => intro f t cs x _ hp; simp [flatT] at hp
  | succ n ih =>
    intro f t cs x hT hp hx
    unfold flatT at hp
    split at hp <;> rename_i hu
    · obtain ⟨b, rfl, rfl⟩ := DataW.trod_bool hu hx
      rfl
    · obtain ⟨s, rfl, rfl, hs⟩ := DataW.trod_string hu hx
      rfl
    · obtain ⟨i, rfl, rfl, hw⟩ := DataW.trod_int hu hx
      rfl
    · rename_i fs
      obtain ⟨hk1, hk2, hk3⟩ := K.struct hT hu
      obtain ⟨xs, n', hn', rfl, hlen, hxl, hxs⟩ := DataW.trod_struct hu hx
      subst hn'
      have hcut := flatten_cut (fs.toList.map fun f => P.cellsOf f.type) cs (by rw [hlen, hk2])
      simp only [flatD]
      rw [← flat_pieces (T := T) (P := P) (ih n') (fs.toList.map fun f => (f.type, (cs.drop f.offset).take (P.cellsOf f.type))) xs (by simp [hxl]) ?_]
      · rw [← hcut]
        congr 1
        apply List.ext_getElem?
        intro i
        by_cases hi : i < fs.toList.length
        · have hf : fs.toList[i]? = some fs.toList[i] := List.getElem?_eq_getElem hi
          have h5 : (fs.toList.map fun f => P.cellsOf f.type).getD i 0 = P.cellsOf fs.toList[i].type := by simp only [List.getD_eq_getElem?_getD, List.getElem?_map, hf, Option.map_some, Option.getD_some]
          have h6 := hk3 i _ hf
          rw [List.map_take] at h6
          rw [hcut, List.getElem?_map, List.getElem?_range (by simpa using hi), List.map_map, List.getElem?_map, hf]
          simp only [Option.map_some, Function.comp]
          rw [h5, ← h6]
        · rw [List.getElem?_eq_none (by simp at hi ⊢; omega), List.getElem?_eq_none (by simp at hi ⊢; omega)]
      · intro i q x h1 h2
        rw [List.getElem?_map] at h1
        obtain ⟨g, hg, rfl⟩ := some_map h1
        have := hxs i g (by simpa using hg)
        rw [h2] at this
        exact ⟨hk1 g (List.mem_of_getElem? hg), List.all_eq_true.1 hp g (List.mem_of_getElem? hg), this⟩
    · rename_i k e
      obtain ⟨he, hsz⟩ := K.array hT hu
      obtain ⟨xs, n', hn', rfl, hlen, hxl, hxs⟩ := DataW.trod_array hu hx
      subst hn'
      have hcut := flatten_cut (List.replicate k (P.cellsOf e)) cs (by rw [hlen, hsz]; simp)
      simp only [flatD]
      rw [← flat_pieces (T := T) (P := P) (ih n') ((List.range k).map fun i => (e, (cs.drop (i * P.cellsOf e)).take (P.cellsOf e))) xs (by simp [hxl]) ?_]
      · rw [← hcut]
        congr 1
        apply List.ext_getElem?
        intro i
        by_cases hi : i < k
        · have h5 : (List.replicate k (P.cellsOf e)).getD i 0 = P.cellsOf e := by simp [List.getD_eq_getElem?_getD, List.getElem?_replicate, hi]
          have h6 : ((List.replicate k (P.cellsOf e)).take i).sum = i * P.cellsOf e := by simp [List.take_replicate, Nat.min_eq_left (Nat.le_of_lt hi)]
          rw [hcut, List.getElem?_map, List.getElem?_range (by simpa using hi), List.map_map, List.getElem?_map, List.getElem?_range hi]
          simp only [Option.map_some, Function.comp]
          rw [h5, h6]
        · rw [List.getElem?_eq_none (by simp at hi ⊢; omega), List.getElem?_eq_none (by simp at hi ⊢; omega)]
      · intro i q x h1 h2
        have hi : i < k := by have := (List.getElem?_eq_some_iff.1 h2).1; omega
        rw [List.getElem?_map, List.getElem?_range hi] at h1
        simp only [Option.map_some, Option.some.injEq] at h1
        subst h1
        have := hxs i hi
        rw [h2] at this
        exact ⟨he, hp, this⟩
    · cases hp

theorem laid_mem : ∀ {l : List (String × DataW Unit)} {ps : List MemPlace}, DataW.LaidVars P w l ps → ∀ x ∈ l, ∃ g t cs fuel p, P.globalNamed x.1 = some g ∧ (P.globals[g]?).map (·.type) = some t ∧ w.var? P x.1 = some cs ∧ DataW.trod (fun _ => ()) P w 0 (fun _ => true) false fuel t cs.toList = some (x.2, p)
  | [], _, _, x, hx => by simp at hx
  | (n, d) :: r, ps, ⟨g, t, cs, fuel, p, q, h1, h2, h3, h4, h5, _⟩, x, hx => by
    rcases List.mem_cons.1 hx with rfl | hx
    · exact ⟨g, t, cs, fuel, p, h1, h2, h3, h4⟩
    · exact laid_mem h5 x hx

/-- The cells of a listed variable. -/
theorem laid_cells (hl : laidOutB P = true) (hm : mapsRowed P = true) {l : List (String × DataW Unit)} (h : laidMet P l w) {name : String} {d : DataW Unit} (hmem : (name, d) ∈ l) {g : Nat} {t : TypeId} {n : Nat} {vs : List Value}
    (hg : P.globalNamed name = some g) (ht : (P.globals[g]?).map (·.type) = some t) (hlt : t < P.types.size) (hf : flatT P n t = true) (hd : flatD n d = vs) {i : Nat} {v : Value} (hi : vs[i]? = some v) : w.cell? ⟨g, i, none⟩ = some v := by
  obtain ⟨ps, h1, _⟩ := h
  obtain ⟨g', t', cs, fuel, p, h2, h3, h4, h5⟩ := laid_mem h1 _ hmem
  simp only at h2 h4 h5
  obtain rfl := Option.some.inj (hg.symm.trans h2)
  obtain rfl := Option.some.inj (ht.symm.trans h3)
  have := flat_trod (T := (· < P.types.size)) (kids_rows hl hm) n fuel t cs.toList _ hlt hf h5
  simp only at this
  rw [hd] at this
  simp only [World.var?, hg, Option.bind_some] at h4
  split at h4
  · rename_i cs' e' fz hh
    cases h4
    rw [← this] at hi
    have hi' : cs[i]? = some v := by simpa using hi
    simp [World.cell?, hh, hi']
  · cases h4
end
end Go.Am
