import Derived.Test.YtlbgcpmiedjmoaaDoorAmBB
import Derived.ChangeSame
import Derived.RowKit
import Derived.ChangeOld
import Derived.Lib.Bytealg
import Derived.Lib.BytesEntry
import Derived.Laws.Externs
set_option linter.unusedSimpArgs false
set_option linter.unusedVariables false
/- Calls by instances; bytes and ints in slices, steps. -/
namespace Go.Am
open Go

/-- A function that leaves the heap as it is, but for garbage, and whose result is known. -/
class PureCon (ext : Exts) (prog : FuncId → Option RFunc) (f : FuncId) (args : List AVal) (H : AHeap) (d : outParam Nat) (v : outParam AVal) : Prop where
  con : Con ext prog d f args H fun u H' => u = v ∧ Ext H H'

theorem call_ext {ext : Exts} {prog : FuncId → Option RFunc} {k f nt e : Nat} {args : List AVal} {res : List RRes} (h : prog f = some ⟨nt, .ext e, res⟩) : callN ext prog (k + 1) f args = ext e args := by
  simp only [callN, h, RFunc.run]

section
variable {ext : Exts} {prog : FuncId → Option RFunc} {fr : AFrame} {H : AHeap} {K : AVal → AHeap → Prop} {KF : AFrame → AHeap → Prop}
theorem WpX.pcall {n d D : Nat} {f : FuncId} {o : ROpd} {l : List ROpd} {args : List AVal} {v : AVal} (hn : fuel0 + D ≤ n) (hf : o.ev fr = .func (.func f) [] []) (hl : l.map (·.ev fr) = args) [hc : PureCon ext prog f args H d v] (hd : Nat.ble d D = true)
    (h : ∀ H1, ExtI H H1 → K v H1) : WpX (.call o l) (callN ext prog n) fr H K :=
  WpX.con hc.con (Nat.le_trans (Nat.add_le_add_left (Nat.le_of_ble_eq_true hd) _) hn) hf hl fun u H1 ⟨hu, hx⟩ => by subst hu; exact h H1 ⟨hx⟩
/-- Any contract, with depth enough. -/
theorem WpX.conD {n d D : Nat} {f : FuncId} {o : ROpd} {l : List ROpd} {args : List AVal} {Q : AVal → AHeap → Prop} (hn : fuel0 + D ≤ n) (hd : Nat.ble d D = true) (hf : o.ev fr = .func (.func f) [] []) (hl : l.map (·.ev fr) = args) (hc : Con ext prog d f args H Q)
    (h : ∀ v H', Q v H' → K v H') : WpX (.call o l) (callN ext prog n) fr H K :=
  WpX.con hc (Nat.le_trans (Nat.add_le_add_left (Nat.le_of_ble_eq_true hd) _) hn) hf hl h
end

section
variable {call : ACall} {fr : AFrame} {H : AHeap} {K : AVal → AHeap → Prop} {KF : AFrame → AHeap → Prop}
theorem WpX.ldB {a : ROpd} {p : AVal} {j : Nat} {l : List UInt8} (ha : a.ev fr = .ptr (rowOf p) (offOf p + j)) [s : BytesI H p l] (hj : j < l.length) (h : K (.int .u8 (l[j].toNat : Int)) H) : WpX (.load none a) call fr H K := WpX.ldP ha (get_bytes hj) h
theorem WpX.stB {a x : ROpd} {p : AVal} {j : Nat} {l : List UInt8} {k : Int} (b : UInt8) (ha : a.ev fr = .ptr (rowOf p) (offOf p + j)) (hx : x.ev fr = .int .u8 k) (hk : k = (b.toNat : Int)) [s : BytesI H p l] [w : WrS H p] (hj : j < l.length)
    (h : ∀ H1, BytesI H1 p (l.set j b) → WrS H1 p → ExtP H H1 p → K aundef H1) : WpX (.store 1 a x) call fr H K := by
  subst hk
  refine WpX.stP ha hx rfl rfl (by rw [cellsB_length]; exact hj) fun H1 h1 h2 h3 => h H1 ?_ h2 h3
  rw [set_bytes] at h1
  unfold BytesI
  rw [List.length_set]
  exact h1
/-- A value of one cell. -/
class OneV (v : AVal) : Prop where
  cells : v.cells = [v]
  one : v.one = true
instance {k : IntKind} {n : Int} : OneV (.int k n) := ⟨rfl, rfl⟩
instance {b : Bool} : OneV (.bool b) := ⟨rfl, rfl⟩
instance {b : ByteArray} : OneV (.str b) := ⟨rfl, rfl⟩
instance : OneV .nptr := ⟨rfl, rfl⟩
instance {r off : Nat} : OneV (.ptr r off) := ⟨rfl, rfl⟩
instance : OneV .nslice := ⟨rfl, rfl⟩
instance {r off len : Nat} {cap : Option Nat} {sz : Nat} : OneV (.slice r off len cap sz) := ⟨rfl, rfl⟩
instance {f : Fn} {a b : List AVal} : OneV (.func f a b) := ⟨rfl, rfl⟩
instance : OneV .nfunc := ⟨rfl, rfl⟩
instance : OneV .niface := ⟨rfl, rfl⟩
theorem SliceAt.one {H : AHeap} {p : AVal} {sz n : Nat} {cs : List AVal} (h : SliceAt H p sz n cs) : OneV p := by
  rcases h.it with ⟨rfl, _⟩ | ⟨r, off, cap, row, rw, e, rfl, _⟩ <;> infer_instance
theorem aFill1 {cells : List AVal} {off : Nat} {x : ROpd} {v : AVal} {rest : List (Nat × Nat × ROpd)} {r : Option (List AVal)} (hx : x.ev fr = v) [o : OneV v] (ho : Nat.ble (off + 1) cells.length = true) (h : aFill fr (cells.set off v) rest = r) : aFill fr cells ((off, 1, x) :: rest) = r := by
  have h1 : ¬ (off + 1 > cells.length) := by have := Nat.le_of_ble_eq_true ho; omega
  simp only [aFill, hx, o.cells, List.length_singleton, ne_eq, not_true, false_or, if_neg h1, setAt_one]
  exact h
theorem allOne_cons {v : AVal} {l : List AVal} [o : OneV v] (h : l.all AVal.one = true) : (v :: l).all AVal.one = true := by simp only [List.all_cons, o.one, h, Bool.and_self]
theorem getAllT {t : Nat} {rs : List RRes} {v : AVal} {vs : List AVal} (hv : fr t = v) (h : getAll fr rs H = some (vs, H)) : getAll fr (.tmp t :: rs) H = some (v :: vs, H) := by
  subst hv
  simp only [getAll, RRes.get, M.bind, M.pure, h]
theorem getAllC {t m r off : Nat} {cs l : List AVal} {rw : Bool} {e : TypeId} {rs : List RRes} {vs : List AVal} (ha : fr t = .ptr r off) [hg : HasRow H r cs rw e] (hv : Nat.ble (off + m) cs.length = true) (hl : (cs.drop off).take m = l) (h : getAll fr rs H = some (vs, H)) : getAll fr (.cell t (some m) :: rs) H = some (.agg l :: vs, H) := by
  subst hl
  simp only [getAll, RRes.get, ha, aLoad, M.bind, aRow, if_pos hg.lt, hg.get, if_pos (Nat.le_of_ble_eq_true hv), M.pure, h]
theorem getAllC1 {t r off : Nat} {cs : List AVal} {v : AVal} {rw : Bool} {e : TypeId} {rs : List RRes} {vs : List AVal} (ha : fr t = .ptr r off) [hg : HasRow H r cs rw e] (hv : cs[off]? = some v) (h : getAll fr rs H = some (vs, H)) : getAll fr (.cell t none :: rs) H = some (v :: vs, H) := by
  simp only [getAll, RRes.get, ha, aLoad, M.bind, aRow, if_pos hg.lt, hg.get, hv, M.pure, h]
end
end Go.Am

/- From a contract over the small machine to what a law's row asks. -/
namespace Go.Am
open Go Go.RowKit Go.ChangeShapes Go.WideShapes

def aggTy (P : Program) (t : TypeId) : Bool := match P.underlying t with
  | some (.struct _) => true
  | some (.array _ _) => true
  | _ => false
/-- An argument out of its cells. -/
def argV (P : Program) (t : TypeId) (acs : List AVal) : AVal := bif aggTy P t then .agg acs else acs.headD .nptr
def ArgS (P : Program) (H : AHeap) (n : Nat) : List TypeId → List AVal → Prop
  | [], avs => avs = []
  | t :: ts, avs => ∃ acs rest, avs = argV P t acs :: rest ∧ Shape P H n t acs ∧ ArgS P H n ts rest
theorem ArgS.ext {P : Program} {H H' : AHeap} (x : Ext H H') {n : Nat} : ∀ {ts : List TypeId} {avs : List AVal}, ArgS P H n ts avs → ArgS P H' n ts avs := by
  intro ts
  induction ts with
  | nil => intro avs h; exact h
  | cons t ts ih =>
    intro avs h
    obtain ⟨acs, rest, e, h1, h2⟩ := h
    exact ⟨acs, rest, e, h1.ext x, ih h2⟩

section
variable {P : Program} {S : Base} {m : RMap} {H : AHeap} {w : World} {Hd : Type} {enc : TypeId × Value → Hd} {T : TypeId → Prop}

theorem open_arg (hgh : ∀ r, ¬ S.ghost r) (K : Kids P T) (hz : ∀ t e, T t → P.underlying t = some (.slice e) → 0 < P.cellsOf e) {n : Nat} {t : TypeId} {v : Value} {d : DataW Hd} {ps : List MemPlace} (hT : T t) (hp : plainT P n t = true)
    (hok : Value.okWide P w .any 0 t v ∨ ∃ b, Value.okWide P w .any b t v) (hd : DataW.Trod enc P w 0 (fun _ => true) true t v d ps) (h : HRel S m H w) (hro : RO H) :
    ∃ H' m' acs, Ext H H' ∧ Le m m' ∧ HRel S m' H' w ∧ RO H' ∧ emb m' (argV P t acs) = some v ∧ Shape P H' n t acs := by
  obtain ⟨b, hok⟩ : ∃ b, Value.okWide P w .any b t v := by rcases hok with h | h; exact ⟨0, h⟩; exact h
  obtain ⟨f, hf⟩ := hd
  obtain ⟨H', m', acs, h1, h2, h3, h4, h5, h6⟩ := open_trod hgh K hz n f t _ _ m H hT hp hf h hro
  refine ⟨H', m', acs, h1, h2, h3, h4, ?_, h6⟩
  have one : v.cells = #[v] → aggTy P t = false → emb m' (argV P t acs) = some v := by
    intro hc ha
    rw [hc] at h5
    have hl := embL_length h5
    match acs, hl with
    | [a], _ =>
      obtain ⟨x, xs, q1, q2, q3⟩ := embL_cons h5
      simp at q3
      simp only [argV, ha, cond_false, List.headD_cons]
      rw [q1, q3.1]
  cases n with
  | zero => simp [plainT] at hp
  | succ n =>
    unfold plainT at hp
    split at hp <;> rename_i hu
    · obtain ⟨b, rfl⟩ := okWide_bool hu hok
      exact one rfl (by simp [aggTy, hu])
    · obtain ⟨b, rfl⟩ := okWide_string hu hok
      exact one rfl (by simp [aggTy, hu])
    · obtain ⟨b, rfl⟩ := okWide_int hu hok
      exact one rfl (by simp [aggTy, hu])
    · obtain ⟨a, len, cap, rfl⟩ := okWide_slice hu hok
      exact one rfl (by simp [aggTy, hu])
    · obtain ⟨cs, rfl, _⟩ := okWide_struct hu hok
      have ha : aggTy P t = true := by simp [aggTy, hu]
      simp only [argV, ha, cond_true, emb]
      simp only [Value.cells] at h5
      rw [h5]
    · have hcs : ∃ cs, v = .agg cs := by
        simp only [Value.okWide, hu] at hok
        obtain ⟨cs, e, _⟩ := hok
        exact ⟨cs, e⟩
      obtain ⟨cs, rfl⟩ := hcs
      have ha : aggTy P t = true := by simp [aggTy, hu]
      simp only [argV, ha, cond_true, emb]
      simp only [Value.cells] at h5
      rw [h5]
    · cases hp

theorem open_args (hgh : ∀ r, ¬ S.ghost r) (K : Kids P T) (hz : ∀ t e, T t → P.underlying t = some (.slice e) → 0 < P.cellsOf e) {n b : Nat} : ∀ (ts : List TypeId) (vs : List Value) (ds : List (DataW Hd)) (ps : List MemPlace) (m : RMap) (H : AHeap), (∀ t ∈ ts, T t ∧ plainT P n t = true) →
    (∀ (j : Nat) t v, ts[j]? = some t → vs[j]? = some v → Value.okWide P w .any b t v) → DataW.TrodAll enc P w 0 (fun _ => true) true ts vs ds ps → HRel S m H w → RO H →
    ∃ H' m' avs, Ext H H' ∧ Le m m' ∧ HRel S m' H' w ∧ RO H' ∧ embL m' avs = some vs ∧ ArgS P H' n ts avs := by
  intro ts
  induction ts with
  | nil =>
    intro vs ds ps m H _ _ hd h hro
    obtain ⟨rfl, _, _⟩ := trodAll_nil hd
    exact ⟨H, m, [], Ext.refl H, Le.refl m, h, hro, by simp [embL], rfl⟩
  | cons t ts ih =>
    intro vs ds ps m H hT hok hd h hro
    obtain ⟨v, vs', d, ds', p, q, rfl, rfl, rfl, h1, h2⟩ := trodAll_cons hd
    obtain ⟨hTt, hpt⟩ := hT t (by simp)
    obtain ⟨H1, m1, acs, e1, l1, r1, o1, b1, s1⟩ := open_arg hgh K hz hTt hpt (Or.inr ⟨b, hok 0 t v rfl rfl⟩) h1 h hro
    obtain ⟨H2, m2, avs, e2, l2, r2, o2, b2, s2⟩ := ih vs' ds' q m1 H1 (fun t h => hT t (by simp [h])) (fun j t v q1 q2 => hok (j + 1) t v (by simpa using q1) (by simpa using q2)) h2 r1 o1
    exact ⟨H2, m2, argV P t acs :: avs, e1.trans e2, Le.trans l1 l2, r2, o2, embL_mk (emb_mono l2 _ _ b1) b2, acs, avs, rfl, s1.ext e2, s2⟩

/-- What the law's own post-condition asks, where nothing of what was there has turned. -/
theorem args_stay (K : Kids P T) (hz : ∀ t e, T t → P.underlying t = some (.slice e) → 0 < P.cellsOf e) {w' : World} (hb : Below w.heap.size w w') {sp : Nat → Bool} : ∀ {ts : List TypeId} {vs : List Value} {ds : List (DataW Hd)} {ps : List MemPlace}, (∀ t ∈ ts, T t) →
    DataW.TrodAll enc P w 0 (fun _ => true) true ts vs ds ps → (∀ p ∈ ps, p.block < w.heap.size) → (∀ p ∈ ps, sp p.block = true) → DataW.TrodAll enc P w' 0 sp true ts vs ds ps
  | [], [], [], _, _, h, _, _ => h
  | _ :: _, _ :: _, _ :: _, _, hT, ⟨p, q, h1, h2, e⟩, hlt, hs => by
    obtain ⟨f, hf⟩ := h1
    refine ⟨p, q, ⟨f, ?_⟩, args_stay K hz hb (fun t ht => hT t (List.mem_cons.2 (Or.inr ht))) h2 (fun x hx => hlt x (by rw [e]; exact List.mem_append_right _ hx)) fun x hx => hs x (by rw [e]; exact List.mem_append_right _ hx), e⟩
    exact DataW.trod_stays K (fun {t e} => hz t e) (by intro h; cases h) (hT _ (List.mem_cons.2 (Or.inl rfl))) hf (fun x hx => hb.same (hlt x (by rw [e]; exact List.mem_append_left _ hx))) fun x hx => hs x (by rw [e]; exact List.mem_append_left _ hx)

theorem post_true {fn : Func} {s : ChangeSpec} {apart fresh handsOn again : Bool} {w' : World} {args : Array Value} {ds gs : List (DataW Hd)} {before : List MemPlace} {tb : TypeId} (K : Kids P T) (hz : ∀ t e, T t → P.underlying t = some (.slice e) → 0 < P.cellsOf e) (hT : ∀ t ∈ fn.params.toList, T t)
    (hvars : s.vars = []) (hfn : s.fn Hd ds = { results := [.lit (.bool true)], args := ds }) (hrt : fn.resultTypes = #[tb]) (htb : P.underlying tb = some .bool)
    (hW : DataW.Whole enc P fn.params.toList s.vars apart w args.toList ds gs before) (hb : Below w.heap.size w w') : s.post enc P fn apart fresh handsOn again w args (.bool true) w' := by
  have hlt := hW.lt
  have hW' := hW
  obtain ⟨p, q, hA, hV, rfl, hfz, hnd⟩ := hW
  rw [hvars] at hV
  obtain ⟨rfl, rfl⟩ := trodVars_none hV
  rw [List.append_nil] at *
  have hv0 : ∀ sp : Nat → Bool, DataW.TrodVars enc P w' sp s.vars ([] : List (DataW Hd)) [] := fun sp => by rw [hvars]; rfl
  have hres : ∀ (b : Nat) (sp : Nat → Bool) (hd : Bool), DataW.TrodAll enc P w' b sp hd fn.resultTypes.toList ((Value.bool true).resultList fn.resultTypes.size) [.lit (.bool true)] [] := fun b sp hd => by
    rw [hrt]
    exact trodAll_cons_mk (shut_bool htb true) trodAll_mk0
  have hargs : ∀ sp : Nat → Bool, (∀ x ∈ p, sp x.block = true) → DataW.TrodAll enc P w' 0 sp true fn.params.toList args.toList ds p := fun sp hs => args_stay K hz hb hT hA hlt hs
  refine ⟨ds, [], p, [], p, [], hW', ?_, ?_, ?_, ?_, fun _ => ⟨?_, [.lit (.bool true)] ++ ds, [], p, ⟨p, [], ?_, hv0 _, by simp, ?_, hnd⟩, fun x hx _ => hx⟩⟩
  · rw [List.append_nil, hfn]; exact hres _ _ _
  · rw [List.append_nil, hfn]; exact hargs _ fun x hx => by simpa using hlt x hx
  · rw [List.append_nil, hfn]; exact hv0 _
  · exact hb.frame _
  · intro j t r hj hr
    rw [hrt] at hj hr
    cases j with
    | zero =>
      simp at hj
      subst hj
      simp [Value.resultList] at hr
      subst hr
      exact okWide_bool_mk htb _
    | succ j => simp at hj
  · simpa using trodAll_append (hargs (fun _ => true) fun _ _ => rfl) (hres 0 (fun _ => true) true)
  · intro b off hp
    have h1 := hlt _ hp
    rw [hb.frozen (p := ⟨b, off, none⟩) h1]
    exact hfz b off hp
end

/-- A law's contract over the small machine gives its row's. -/
theorem law_calls {P : Program} {ext : Exts} {prog : FuncId → Option RFunc} {f : FuncId} {fn : Func} {c : Code} {s : ChangeSpec} {apart fresh handsOn again : Bool} {tb : TypeId} {tabs : List (Nat × List AVal)} {n d : Nat}
    (hmix : P.follows .mixedOrders = true) (hP : ProgOk P ext prog) (hfn : P.funcs[f]? = some fn) (hb : fn.body = some c) (hname : fn.name ≠ "runtime.NumGoroutine")
    (hl : laidOutB P = true) (hm : mapsRowed P = true) (hz : ∀ t e, t < P.types.size → P.underlying t = some (.slice e) → 0 < P.cellsOf e) (hplain : (fn.params.toList.all fun t => decide (t < P.types.size) && plainT P n t) = true)
    (hvars : s.vars = []) (hrt : fn.resultTypes = #[tb]) (htb : P.underlying tb = some .bool) (htabs0 : tablesIn tabs (tableHeap P.globals.size tabs) = true) (htabs : (tabs.all fun t => Nat.blt t.1 P.globals.size && t.2.all plainV) = true)
    (hcon : ∀ (H : AHeap) (avs : List AVal), tablesIn tabs H = true → ArgS P H n fn.params.toList avs → Con ext prog d f avs H fun v H' => v = .bool true ∧ Ext H H')
    (Hd : Type) (enc : TypeId × Value → Hd) (W : World) (base : Nat) (args : Array Value) (ds gs : List (DataW Hd)) (before : List MemPlace)
    (hspec : s.fn Hd ds = { results := [.lit (.bool true)], args := ds })
    (hval : ∀ (j : Nat) t v, fn.params[j]? = some t → args[j]? = some v → Value.okWide P W .any base t v) (hW : DataW.Whole enc P fn.params.toList s.vars apart W args.toList ds gs before)
    (hcells : ∀ t ∈ tabs, ∀ (i : Nat) (v : AVal), t.2[i]? = some v → ∃ x, emb (fun _ => none) v = some x ∧ W.cell? ⟨t.1, i, none⟩ = some x) :
    Calls P f args W fun e W' => ∃ v, e = .returned v ∧ s.post enc P fn apart fresh handsOn again W args v W' := by
  have K := kids_rows (P := P) hl hm
  have hpl := List.all_eq_true.1 hplain
  have hT : ∀ t ∈ fn.params.toList, t < P.types.size ∧ plainT P n t = true := fun t ht => by
    have := hpl t ht
    simpa using this
  have htab := List.all_eq_true.1 htabs
  -- the tables
  have hrel : HRel ⟨W.heap.size, W, P.globals.size, fun _ => False, cCode P⟩ (globMap P.globals.size (longest tabs)) (tableHeap P.globals.size tabs) W := by
    refine ⟨Below.refl _ _, Nat.le_refl _, fun g hg => ⟨longest tabs, by simp only at hg; simp [globMap, hg]⟩, fun r hr => by simp only [tableHeap] at hr; simp [globMap]; omega, fun r hr => hr.elim, ?_, ?_, ⟨fun r R p _ h _ => absurd h tableObj_loop, fun r s R R' p q L L' _ _ _ h => absurd h tableObj_loop⟩⟩
    · intro r cs rw e p hr hg hp
      obtain ⟨hmem, rfl⟩ := tableObj_row hg
      have hT1 := htab _ hmem
      simp only [Bool.and_eq_true] at hT1
      have hrG : r < P.globals.size := by simpa using hT1.1
      have hp' : p = (⟨r, 0, none⟩, longest tabs) := by simp only [globMap, hrG, if_true] at hp; exact (Option.some.inj hp).symm
      subst hp'
      refine ⟨fun i v hi => ?_, le_longest hmem, fun q => by cases q⟩
      obtain ⟨x, h1, h2⟩ := hcells _ hmem i v hi
      have hv : plainV v = true := List.all_eq_true.1 hT1.2 v (List.mem_of_getElem? hi)
      refine ⟨x, by rw [plain_emb hv _ (fun _ => none)]; exact h1, ?_⟩
      cases i <;> simpa [Addr.add] using h2
    · intro r s' cs rw e cs' e' p q hr hs hne hg1 hg2 hp hq
      exact absurd (tableObj_row hg2).2 (by decide)
  have hro : RO (tableHeap P.globals.size tabs) := fun r cs rw e hg => (tableObj_row hg).2
  obtain ⟨p, q, hA, hrest⟩ := hW
  obtain ⟨H', m', avs, e1, l1, r1, o1, b1, s1⟩ := open_args (P := P) (T := (· < P.types.size)) (fun _ h => h) K hz (n := n) (b := base) fn.params.toList args.toList ds p _ _ hT (fun j t v q1 q2 => hval j t v (by simpa using q1) (by simpa using q2)) hA hrel hro
  have htabs' : tablesIn tabs H' = true := by
    refine List.all_eq_true.2 fun t ht => ?_
    have hT1 := htab _ ht
    simp only [Bool.and_eq_true] at hT1 ⊢
    have htG : t.1 < P.globals.size := by simpa using hT1.1
    have hlt : t.1 < (tableHeap P.globals.size tabs).n := htG
    have hn : t.1 < H'.n := Nat.lt_of_lt_of_le hlt e1.n
    have h0 := List.all_eq_true.1 htabs0 t ht
    simp only [Bool.and_eq_true] at h0
    refine ⟨by simpa using hn, ?_⟩
    rw [e1.get _ hlt]
    exact h0.2
  have hc := calls_of_evs hmix hP rfl rfl hfn hb hname r1 (args := avs) (vargs := args) b1 (hcon H' avs htabs' s1).evs
  refine hc.mono fun e W' ⟨x, v, H2, he, ⟨hv, hx2⟩, m2, hl2, hemb, hr2⟩ => ?_
  subst hv
  simp only [emb, Option.some.injEq] at hemb
  subst hemb
  exact ⟨_, he, post_true (T := (· < P.types.size)) K hz (fun t ht => (hT t ht).1) hvars hspec hrt htb ⟨p, q, hA, hrest⟩ hr2.below⟩

/- what a listed variable holds -/
def litV : Lit → Value
  | .bool b => .bool b
  | .int k n => .int k n
  | .float k b => .float k b
  | .string s => .string ⟨s.toArray⟩
  | .nil => .nilFunc
def flatD {Hd : Type} : Nat → DataW Hd → List Value
  | 0, _ => []
  | _ + 1, .lit l => [litV l]
  | n + 1, .agg ds => ds.flatMap (flatD n)
  | _ + 1, _ => []
def flatT (P : Program) : Nat → TypeId → Bool
  | 0, _ => false
  | n + 1, t => match P.underlying t with
    | some .bool => true
    | some .string => true
    | some (.int _) => true
    | some (.struct fs) => fs.toList.all fun f => flatT P n f.type
    | some (.array _ e) => flatT P n e
    | _ => false
section
variable {P : Program} {w : World} {Hd : Type} {enc : TypeId × Value → Hd} {base : Nat} {spare : Nat → Bool} {held : Bool} {T : TypeId → Prop}
theorem flat_pieces {n f : Nat} (ih : ∀ (t : TypeId) (cs : List Value) (x : DataW Hd × List MemPlace), T t → flatT P n t = true → DataW.trod enc P w base spare held f t cs = some x → cs = flatD n x.1) :
    ∀ (l : List (TypeId × List Value)) (xs : List (DataW Hd × List MemPlace)), l.length = xs.length → (∀ (i : Nat) (q : TypeId × List Value) (x : DataW Hd × List MemPlace), l[i]? = some q → xs[i]? = some x → T q.1 ∧ flatT P n q.1 = true ∧ DataW.trod enc P w base spare held f q.1 q.2 = some x) → (l.map (·.2)).flatten = (xs.map (·.1)).flatMap (flatD n) := by
  intro l
  induction l with
  | nil => intro xs h _; have : xs = [] := List.eq_nil_of_length_eq_zero (by simpa using h.symm); subst this; rfl
  | cons q l ihl =>
    intro xs h hx
    cases xs with
    | nil => simp at h
    | cons x xs =>
      obtain ⟨h1, h2, h3⟩ := hx 0 q x rfl rfl
      rw [List.map_cons, List.flatten_cons, List.map_cons, List.flatMap_cons, ← ih _ _ _ h1 h2 h3, ihl xs (by simpa using h) fun i q x a b => hx (i + 1) q x (by simpa using a) (by simpa using b)]
theorem flat_trod (K : Kids P T) : ∀ (n f : Nat) (t : TypeId) (cs : List Value) (x : DataW Hd × List MemPlace), T t → flatT P n t = true → DataW.trod enc P w base spare held f t cs = some x → cs = flatD n x.1 := by
  intro n
  induction n with
  | zero => intro f t cs x _ hp; simp [flatT] at hp
  | succ n ih =>
    intro f t cs x hT hp hx
    unfold flatT at hp
    split at hp <;> rename_i hu
    · obtain ⟨b, rfl, rfl⟩ := DataW.trod_bool hu hx
      rfl
    · obtain ⟨s, rfl, rfl, hs⟩ := DataW.trod_string hu hx
      rfl
    · obtain ⟨i, rfl, rfl, hw⟩ := DataW.trod_int hu hx
      rfl
    · rename_i fs
      obtain ⟨hk1, hk2, hk3⟩ := K.struct hT hu
      obtain ⟨xs, n', hn', rfl, hlen, hxl, hxs⟩ := DataW.trod_struct hu hx
      subst hn'
      have hcut := flatten_cut (fs.toList.map fun f => P.cellsOf f.type) cs (by rw [hlen, hk2])
      simp only [flatD]
      rw [← flat_pieces (T := T) (P := P) (ih n') (fs.toList.map fun f => (f.type, (cs.drop f.offset).take (P.cellsOf f.type))) xs (by simp [hxl]) ?_]
      · rw [← hcut]
        congr 1
        apply List.ext_getElem?
        intro i
        by_cases hi : i < fs.toList.length
        · have hf : fs.toList[i]? = some fs.toList[i] := List.getElem?_eq_getElem hi
          have h5 : (fs.toList.map fun f => P.cellsOf f.type).getD i 0 = P.cellsOf fs.toList[i].type := by simp only [List.getD_eq_getElem?_getD, List.getElem?_map, hf, Option.map_some, Option.getD_some]
          have h6 := hk3 i _ hf
          rw [List.map_take] at h6
          rw [hcut, List.getElem?_map, List.getElem?_range (by simpa using hi), List.map_map, List.getElem?_map, hf]
          simp only [Option.map_some, Function.comp]
          rw [h5, ← h6]
        · rw [List.getElem?_eq_none (by simp at hi ⊢; omega), List.getElem?_eq_none (by simp at hi ⊢; omega)]
      · intro i q x h1 h2
        rw [List.getElem?_map] at h1
        obtain ⟨g, hg, rfl⟩ := some_map h1
        have := hxs i g (by simpa using hg)
        rw [h2] at this
        exact ⟨hk1 g (List.mem_of_getElem? hg), List.all_eq_true.1 hp g (List.mem_of_getElem? hg), this⟩
    · rename_i k e
      obtain ⟨he, hsz⟩ := K.array hT hu
      obtain ⟨xs, n', hn', rfl, hlen, hxl, hxs⟩ := DataW.trod_array hu hx
      subst hn'
      have hcut := flatten_cut (List.replicate k (P.cellsOf e)) cs (by rw [hlen, hsz]; simp)
      simp only [flatD]
      rw [← flat_pieces (T := T) (P := P) (ih n') ((List.range k).map fun i => (e, (cs.drop (i * P.cellsOf e)).take (P.cellsOf e))) xs (by simp [hxl]) ?_]
      · rw [← hcut]
        congr 1
        apply List.ext_getElem?
        intro i
        by_cases hi : i < k
        · have h5 : (List.replicate k (P.cellsOf e)).getD i 0 = P.cellsOf e := by simp [List.getD_eq_getElem?_getD, List.getElem?_replicate, hi]
          have h6 : ((List.replicate k (P.cellsOf e)).take i).sum = i * P.cellsOf e := by simp [List.take_replicate, Nat.min_eq_left (Nat.le_of_lt hi)]
          rw [hcut, List.getElem?_map, List.getElem?_range (by simpa using hi), List.map_map, List.getElem?_map, List.getElem?_range hi]
          simp only [Option.map_some, Function.comp]
          rw [h5, h6]
        · rw [List.getElem?_eq_none (by simp at hi ⊢; omega), List.getElem?_eq_none (by simp at hi ⊢; omega)]
      · intro i q x h1 h2
        have hi : i < k := by have := (List.getElem?_eq_some_iff.1 h2).1; omega
        rw [List.getElem?_map, List.getElem?_range hi] at h1
        simp only [Option.map_some, Option.some.injEq] at h1
        subst h1
        have := hxs i hi
        rw [h2] at this
        exact ⟨he, hp, this⟩
    · cases hp

theorem laid_mem : ∀ {l : List (String × DataW Unit)} {ps : List MemPlace}, DataW.LaidVars P w l ps → ∀ x ∈ l, ∃ g t cs fuel p, P.globalNamed x.1 = some g ∧ (P.globals[g]?).map (·.type) = some t ∧ w.var? P x.1 = some cs ∧ DataW.trod (fun _ => ()) P w 0 (fun _ => true) false fuel t cs.toList = some (x.2, p)
  | [], _, _, x, hx => by simp at hx
  | (n, d) :: r, ps, ⟨g, t, cs, fuel, p, q, h1, h2, h3, h4, h5, _⟩, x, hx => by
    rcases List.mem_cons.1 hx with rfl | hx
    · exact ⟨g, t, cs, fuel, p, h1, h2, h3, h4⟩
    · exact laid_mem h5 x hx

/-- The cells of a listed variable. -/
theorem laid_cells (hl : laidOutB P = true) (hm : mapsRowed P = true) {l : List (String × DataW Unit)} (h : laidMet P l w) {name : String} {d : DataW Unit} (hmem : (name, d) ∈ l) {g : Nat} {t : TypeId} {n : Nat} {vs : List Value}
    (hg : P.globalNamed name = some g) (ht : (P.globals[g]?).map (·.type) = some t) (hlt : t < P.types.size) (hf : flatT P n t = true) (hd : flatD n d = vs) {i : Nat} {v : Value} (hi : vs[i]? = some v) : w.cell? ⟨g, i, none⟩ = some v := by
  obtain ⟨ps, h1, _⟩ := h
  obtain ⟨g', t', cs, fuel, p, h2, h3, h4, h5⟩ := laid_mem h1 _ hmem
  simp only at h2 h4 h5
  obtain rfl := Option.some.inj (hg.symm.trans h2)
  obtain rfl := Option.some.inj (ht.symm.trans h3)
  have := flat_trod (T := (· < P.types.size)) (kids_rows hl hm) n fuel t cs.toList _ hlt hf h5
  simp only at this
  rw [hd] at this
  simp only [World.var?, hg, Option.bind_some] at h4
  split at h4
  · rename_i cs' e' fz hh
    cases h4
    rw [← this] at hi
    have hi' : cs[i]? = some v := by simpa using hi
    simp [World.cell?, hh, hi']
  · cases h4
end
end Go.Am

/- Plain arguments, by their types. -/
namespace Go.Am
open Go Go.RowKit

section
variable {P : Program} {H : AHeap} {n : Nat} {t e : TypeId} {cs : List AVal}
theorem shape_int {k : IntKind} (hu : P.underlying t = some (.int k)) (h : Shape P H (n + 1) t cs) : ∃ i, cs = [.int k i] ∧ (Lit.int k i).wf = true := by simpa only [Shape, hu] using h
theorem shape_struct {fs : Array Field} (hu : P.underlying t = some (.struct fs)) (h : Shape P H (n + 1) t cs) : shapes (Shape P H n) (fs.toList.map fun f => f.type) cs := by simpa only [Shape, hu] using h

theorem u8_of {i : Int} (h : (Lit.int .u8 i).wf = true) : ∃ b : UInt8, i = (b.toNat : Int) := by
  have h1 : 0 ≤ i ∧ i < 256 := by
    simp only [Lit.wf, IntKind.has] at h
    revert h
    simp [IntKind.min, IntKind.max, IntKind.bits, IntKind.signed]
    intro a b
    constructor <;> omega
  refine ⟨UInt8.ofNat i.toNat, ?_⟩
  simp only [UInt8.toNat_ofNat']
  omega
theorem shape_rect {fs : Array Field} {ti : TypeId} (hu : P.underlying t = some (.struct fs)) (hf : (fs.toList.map fun f => f.type) = [ti, ti, ti, ti]) (hi : P.underlying ti = some (.int .i64))
    (h : Shape P H (n + 3) t cs) : ∃ x y u v, cs = [.int .i64 x, .int .i64 y, .int .i64 u, .int .i64 v] := by
  have h1 := shape_struct hu h
  rw [hf] at h1
  obtain ⟨a, r1, rfl, h2, b, r2, rfl, h3, c, r3, rfl, h4, d, r4, rfl, h5, rfl⟩ := h1
  obtain ⟨x, rfl, _⟩ := shape_int hi h2
  obtain ⟨y, rfl, _⟩ := shape_int hi h3
  obtain ⟨u, rfl, _⟩ := shape_int hi h4
  obtain ⟨v, rfl, _⟩ := shape_int hi h5
  exact ⟨x, y, u, v, rfl⟩
theorem shapes_bytes (hu : P.underlying e = some (.int .u8)) : ∀ {len : Nat} {cells : List AVal}, shapes (Shape P H (n + 1)) (List.replicate len e) cells → ∃ l : List UInt8, l.length = len ∧ cells = cellsB l := by
  intro len
  induction len with
  | zero => intro cells h; exact ⟨[], rfl, h⟩
  | succ len ih =>
    intro cells h
    obtain ⟨a, b, rfl, h1, h2⟩ := h
    obtain ⟨i, rfl, hw⟩ := shape_int hu h1
    obtain ⟨x, rfl⟩ := u8_of hw
    obtain ⟨l, hl, rfl⟩ := ih h2
    exact ⟨x :: l, by simp [hl], rfl⟩
theorem shape_bytes (hu : P.underlying t = some (.slice e)) (he : P.underlying e = some (.int .u8)) (hc : P.cellsOf e = 1) (h : Shape P H (n + 2) t cs) : ∃ p l, cs = [p] ∧ BytesI H p l ∧ l.length ≤ maxLen := by
  rw [Shape, hu] at h
  obtain ⟨p, len, cells, rfl, h2, h3, h4⟩ := h
  obtain ⟨l, rfl, rfl⟩ := shapes_bytes he h4
  rw [hc] at h2
  exact ⟨p, l, rfl, h2, h3⟩
/-- An image: two sides and its pixels. -/
theorem shape_img {fs : Array Field} {ti ts tb : TypeId} (hu : P.underlying t = some (.struct fs)) (hf : (fs.toList.map fun f => f.type) = [ti, ti, ts]) (hi : P.underlying ti = some (.int .i64)) (hs : P.underlying ts = some (.slice tb)) (hb : P.underlying tb = some (.int .u8)) (hc : P.cellsOf tb = 1)
    (h : Shape P H (n + 3) t cs) : ∃ w h p l, cs = [.int .i64 w, .int .i64 h, p] ∧ BytesI H p l ∧ l.length ≤ maxLen := by
  have h1 := shape_struct hu h
  rw [hf] at h1
  obtain ⟨a, r1, rfl, h2, b, r2, rfl, h3, c, r3, rfl, h4, rfl⟩ := h1
  obtain ⟨w, rfl, _⟩ := shape_int hi h2
  obtain ⟨hh, rfl, _⟩ := shape_int hi h3
  obtain ⟨p, l, rfl, h5, h6⟩ := shape_bytes hs hb hc h4
  exact ⟨w, hh, p, l, rfl, h5, h6⟩
end
end Go.Am

/- Functions without a body. -/
namespace Go.Am
open Go

/-- What a function makes of the bytes of a slice or a string. -/
def aBytesFn (f : List UInt8 → AVal) : AVal → M AVal
  | .nslice => M.pure (f [])
  | .str s => M.pure (f s.data.toList)
  | .slice r off len _ s => if s ≠ 1 then M.fail else M.bind (aRow r) fun (cs, _) => if off + len ≤ cs.length then match bytesOf ((cs.drop off).take len) with
      | some l => M.pure (f l)
      | none => M.fail
    else M.fail
  | _ => M.fail
def aCount : List AVal → M AVal
  | [x, .int .u8 b] => aBytesFn (fun l => .int .i64 (Lib.countByte l (UInt8.ofNat b.toNat))) x
  | _ => M.fail
def aIndexByte : List AVal → M AVal
  | [x, .int .u8 b] => aBytesFn (fun l => .int .i64 (Lib.indexByte l (UInt8.ofNat b.toNat))) x
  | _ => M.fail
def aSelf : List AVal → M AVal
  | [x] => M.pure x
  | _ => M.fail
end Go.Am

/- Families of closed calls: what the kernel has worked out for each of some plain arguments. -/
namespace Go.Am
open Go Go.RowKit

def dg (n : Nat) : UInt8 := UInt8.ofNat (48 + n)
/-- The digits of a number below 1000. -/
def digs (n : Nat) : List UInt8 := if n < 10 then [dg n] else if n < 100 then [dg (n / 10), dg (n % 10)] else [dg (n / 100), dg (n / 10 % 10), dg (n % 10)]

section
variable {P : Program}
def aFam (T : List (Nat × List AVal)) (F : List AVal → Option AVal) (args : List AVal) : M AVal := fun H => match tablesIn T H, F args with | true, some v => some (v, H) | _, _ => none

theorem plain_embL {l : List AVal} (h : l.all plainV = true) (m m' : RMap) : embL m l = embL m' l := by
  induction l with
  | nil => simp [embL]
  | cons a l ih =>
    rw [List.all_cons, Bool.and_eq_true] at h
    simp only [embL, plain_emb h.1 m m', ih h.2]

theorem ext_fam (hmix : P.follows .mixedOrders = true) {ext0 : Exts} {prog0 : FuncId → Option RFunc} (hP : ProgOk P ext0 prog0) {T : List (Nat × List AVal)} {F : List AVal → Option AVal} {f : FuncId} {fn : Func} (hfn : P.funcs[f]? = some fn)
    {n : Nat} (hT : (T.all fun t => Nat.blt t.1 P.globals.size && t.2.all plainV) = true) (hF : ∀ args v, F args = some v → args.all plainV = true ∧ plainV v = true ∧ ∃ H', callN ext0 prog0 n f args (tableHeap P.globals.size T) = some (v, H'))
    {ext : Exts} {k : Nat} (hk : ext k = aFam T F) : ExtSim P ext f k := by
  intro S args H u H' m w vargs hG hx h ha
  rw [hk] at hx
  unfold aFam at hx
  cases ht : tablesIn T H with
  | false => simp only [ht] at hx; cases hx
  | true =>
  cases hFa : F args with
  | none => simp only [ht, hFa] at hx; cases hx
  | some v =>
      simp only [ht, hFa, Option.some.injEq, Prod.mk.injEq] at hx
      obtain ⟨rfl, rfl⟩ := hx
      obtain ⟨hpa, hv, H1, hrun⟩ := hF _ _ hFa
      simp only [tablesIn, List.all_eq_true, Bool.and_eq_true] at ht hT
      have hrel : HRel ⟨w.heap.size, w, P.globals.size, fun _ => False, cCode P⟩ (globMap P.globals.size (longest T)) (tableHeap P.globals.size T) w := by
        refine ⟨Below.refl _ _, Nat.le_refl _, fun g hg => ⟨longest T, by simp only at hg; simp [globMap, hg]⟩, fun r hr => by simp only [tableHeap] at hr; simp [globMap]; omega, fun r hr => hr.elim, ?_, ?_, ⟨fun r R p _ h _ => absurd h tableObj_loop, fun r s R R' p q L L' _ _ _ h => absurd h tableObj_loop⟩⟩
        · intro r cs rw e p hr hg hp
          obtain ⟨hmem, rfl⟩ := tableObj_row hg
          have hT1 := hT _ hmem
          have ht1 := ht _ hmem
          simp only [] at hT1 ht1
          have hrG : r < P.globals.size := by simpa using hT1.1
          have hp' : p = (⟨r, 0, none⟩, longest T) := by simp only [globMap, hrG, if_true] at hp; exact (Option.some.inj hp).symm
          subst hp'
          obtain ⟨k, hmk⟩ := h.glob r (by rw [hG]; exact hrG)
          have hrn : r < H.n := by simpa using ht1.1
          cases hgr : H.get r with
          | row cs' rw' e' =>
            have ht2 := ht1.2
            rw [hgr] at ht2
            simp only [] at ht2
            have hcs := abeqL_eq ht2
            subst hcs
            have hok := h.row r cs' rw' e' _ hrn hgr hmk
            refine ⟨fun i u hi => ?_, le_longest hmem, fun q => by cases q⟩
            obtain ⟨x, h1, h2⟩ := hok.cell i u hi
            have hpl : plainV u = true := hT1.2 u (List.mem_of_getElem? hi)
            exact ⟨x, by rw [plain_emb hpl _ m]; exact h1, h2⟩
          | _ => have ht2 := ht1.2; rw [hgr] at ht2; cases ht2
        · intro r s cs rw e cs' e' p q hr hs hne hg1 hg2 hp hq
          exact absurd (tableObj_row hg2).2 (by decide)
      have hy := sim_callN hmix hP n ⟨w.heap.size, w, P.globals.size, fun _ => False, cCode P⟩ rfl rfl f args (tableHeap P.globals.size T) v H1 (globMap P.globals.size (longest T)) w vargs hrun hrel (by rw [plain_embL hpa _ m]; exact ha)
      rw [hP.sem hfn] at hy
      refine hy.mono fun x w' ⟨m', _, hx, hrel'⟩ => ?_
      exact ⟨m, Le.refl _, by rw [plain_emb hv m m']; exact hx, h.kept hrel'.below⟩
end
end Go.Am

/- The functions of the program, in the small machine. -/
set_option maxRecDepth 100000
set_option maxHeartbeats 4000000
namespace Go.Am
open Go
def c4 : RFunc := ⟨24, .code (.seq (.region [⟨(some 4), .box 24 (.tmp 0), none⟩,
 ⟨(some 5), .box 24 (.tmp 1), none⟩,
 ⟨(some 6), .box 46 (.tmp 2), none⟩,
 ⟨(some 8), .mov (.val (.bool false)), none⟩])
 (.seq (.region [⟨(some 9), .load (some 3) (.tmp 4), none⟩,
 ⟨(some 10), .load (some 3) (.tmp 5), none⟩,
 ⟨(some 11), .buildSlice 24 3 2 [(.int .i64 0), (.int .i64 0), .nslice, (.int .i64 0), (.int .i64 0), .nslice] [(0, 3, (.tmp 9)), (3, 3, (.tmp 10))], none⟩,
 ⟨(some 12), .call (.val (.func (.func 18) [] [])) [(.tmp 11)], none⟩,
 ⟨(some 13), .un .not (.tmp 12), none⟩,
 ⟨(some 14), .mov (.tmp 13), none⟩,
 ⟨(some 15), .load (some 3) (.tmp 4), some (14, false)⟩,
 ⟨(some 16), .load (some 3) (.tmp 5), some (14, false)⟩,
 ⟨(some 17), .load (some 4) (.tmp 6), some (14, false)⟩,
 ⟨(some 18), .mov (.tmp 3), some (14, false)⟩,
 ⟨(some 19), .call (.val (.func (.func 37) [] [])) [(.tmp 15), (.tmp 16), (.tmp 17), (.tmp 18)], some (14, false)⟩,
 ⟨(some 20), .pick (.tmp 14) (.val (.bool true)) (.tmp 19), none⟩,
 ⟨(some 21), .mov (.tmp 20), none⟩,
 ⟨(some 22), .call (.val (.func (.func 19) [] [])) [], some (21, true)⟩,
 ⟨(some 23), .pick (.tmp 21) (.tmp 22) (.val (.bool false)), none⟩,
 ⟨(some 8), .mov (.tmp 23), none⟩])
 (.ret))), [.tmp 8]⟩
def c18 : RFunc := ⟨6, .code (.seq (.region [⟨(some 2), .mov (.val (.bool false)), none⟩])
 (.seq (.region [⟨(some 3), .mov (.tmp 0), none⟩,
 ⟨(some 4), .call (.val (.func (.func 92) [] [])) [(.tmp 3), (.val (.func (.func 93) [] []))], none⟩,
 ⟨(some 5), .un .not (.tmp 4), none⟩,
 ⟨(some 2), .mov (.tmp 5), none⟩])
 (.ret))), [.tmp 2]⟩
def c19 : RFunc := ⟨77, .code (.seq (.region [⟨(some 0), .mov (.val (.bool false)), none⟩])
 (.seq (.region [⟨(some 12), .call (.val (.func (.func 94) [] [])) [], none⟩,
 ⟨(some 1), .new 24 [(.int .i64 0), (.int .i64 0), .nslice], none⟩,
 ⟨none, .store 3 (.tmp 1) (.tmp 12), none⟩])
 (.seq (.region [⟨(some 14), .load (some 3) (.tmp 1), none⟩,
 ⟨(some 15), .call (.val (.func (.func 60) [] [])) [(.tmp 14), (.val (.bool true))], none⟩,
 ⟨(some 13), .mov (.tmp 15), none⟩,
 ⟨(some 16), .extract (.tmp 13) 0, none⟩,
 ⟨(some 17), .extract (.tmp 13) 1, none⟩,
 ⟨(some 2), .mov (.tmp 16), none⟩,
 ⟨(some 3), .mov (.tmp 17), none⟩])
 (.seq (.region [⟨(some 19), .load (some 3) (.tmp 1), none⟩,
 ⟨(some 20), .call (.val (.func (.func 60) [] [])) [(.tmp 19), (.val (.bool false))], none⟩,
 ⟨(some 18), .mov (.tmp 20), none⟩,
 ⟨(some 21), .extract (.tmp 18) 0, none⟩,
 ⟨(some 22), .extract (.tmp 18) 1, none⟩,
 ⟨(some 4), .mov (.tmp 21), none⟩,
 ⟨(some 5), .mov (.tmp 22), none⟩])
 (.seq (.region [⟨(some 24), .load (some 3) (.tmp 1), none⟩,
 ⟨(some 25), .call (.val (.func (.func 77) [] [])) [(.tmp 24), (.val (.int .i64 1))], none⟩,
 ⟨(some 23), .mov (.tmp 25), none⟩,
 ⟨(some 26), .extract (.tmp 23) 0, none⟩,
 ⟨(some 27), .extract (.tmp 23) 1, none⟩,
 ⟨(some 6), .new 24 [(.int .i64 0), (.int .i64 0), .nslice], none⟩,
 ⟨none, .store 3 (.tmp 6) (.tmp 26), none⟩,
 ⟨(some 7), .mov (.tmp 27), none⟩])
 (.seq (.region [⟨(some 29), .load (some 3) (.tmp 6), none⟩,
 ⟨(some 30), .call (.val (.func (.func 72) [] [])) [(.tmp 29)], none⟩,
 ⟨(some 28), .mov (.tmp 30), none⟩,
 ⟨(some 31), .extract (.tmp 28) 0, none⟩,
 ⟨(some 32), .extract (.tmp 28) 1, none⟩,
 ⟨(some 8), .mov (.tmp 31), none⟩,
 ⟨(some 9), .mov (.tmp 32), none⟩])
 (.seq (.region [⟨(some 34), .buildSlice 5 1 6 [(.int .u8 0), (.int .u8 0), (.int .u8 0), (.int .u8 0), (.int .u8 0), (.int .u8 0)] [(0, 1, (.val (.int .u8 1))), (1, 1, (.val (.int .u8 1))), (2, 1, (.val (.int .u8 1))), (3, 1, (.val (.int .u8 1))), (4, 1, (.val (.int .u8 1))), (5, 1, (.val (.int .u8 1)))], none⟩,
 ⟨(some 35), .build [(.int .i64 0), (.int .i64 0), .nslice] [(0, 1, (.val (.int .i64 2))), (1, 1, (.val (.int .i64 3))), (2, 1, (.tmp 34))], none⟩,
 ⟨(some 36), .call (.val (.func (.func 70) [] [])) [(.tmp 35)], none⟩,
 ⟨(some 33), .mov (.tmp 36), none⟩,
 ⟨(some 37), .extract (.tmp 33) 0, none⟩,
 ⟨(some 38), .extract (.tmp 33) 1, none⟩,
 ⟨(some 10), .new 24 [(.int .i64 0), (.int .i64 0), .nslice], none⟩,
 ⟨none, .store 3 (.tmp 10) (.tmp 37), none⟩,
 ⟨(some 11), .mov (.tmp 38), none⟩])
 (.seq (.region [⟨(some 39), .mov (.tmp 3), none⟩,
 ⟨(some 40), .bin .eql (.tmp 39) (.val (.int .i64 0)), none⟩,
 ⟨(some 41), .mov (.tmp 40), none⟩,
 ⟨(some 42), .mov (.tmp 5), some (41, true)⟩,
 ⟨(some 43), .bin .eql (.tmp 42) (.val (.int .i64 0)), some (41, true)⟩,
 ⟨(some 44), .pick (.tmp 41) (.tmp 43) (.val (.bool false)), none⟩,
 ⟨(some 45), .mov (.tmp 44), none⟩,
 ⟨(some 46), .mov (.tmp 7), some (45, true)⟩,
 ⟨(some 47), .bin .eql (.tmp 46) (.val (.int .i64 0)), some (45, true)⟩,
 ⟨(some 48), .pick (.tmp 45) (.tmp 47) (.val (.bool false)), none⟩,
 ⟨(some 49), .mov (.tmp 48), none⟩,
 ⟨(some 50), .mov (.tmp 9), some (49, true)⟩,
 ⟨(some 51), .bin .eql (.tmp 50) (.val (.int .i64 0)), some (49, true)⟩,
 ⟨(some 52), .pick (.tmp 49) (.tmp 51) (.val (.bool false)), none⟩,
 ⟨(some 53), .mov (.tmp 52), none⟩,
 ⟨(some 54), .mov (.tmp 11), some (53, true)⟩,
 ⟨(some 55), .bin .eql (.tmp 54) (.val (.int .i64 0)), some (53, true)⟩,
 ⟨(some 56), .pick (.tmp 53) (.tmp 55) (.val (.bool false)), none⟩,
 ⟨(some 57), .mov (.tmp 56), none⟩,
 ⟨(some 58), .mov (.tmp 2), some (57, true)⟩,
 ⟨(some 59), .lenS (.tmp 58), some (57, true)⟩,
 ⟨(some 60), .bin .eql (.tmp 59) (.val (.int .i64 1)), some (57, true)⟩,
 ⟨(some 61), .pick (.tmp 57) (.tmp 60) (.val (.bool false)), none⟩,
 ⟨(some 62), .mov (.tmp 61), none⟩,
 ⟨(some 63), .mov (.tmp 4), some (62, true)⟩,
 ⟨(some 64), .lenS (.tmp 63), some (62, true)⟩,
 ⟨(some 65), .bin .eql (.tmp 64) (.val (.int .i64 3)), some (62, true)⟩,
 ⟨(some 66), .pick (.tmp 62) (.tmp 65) (.val (.bool false)), none⟩,
 ⟨(some 67), .mov (.tmp 66), none⟩,
 ⟨(some 68), .mov (.tmp 8), some (67, true)⟩,
 ⟨(some 69), .bin .eql (.tmp 68) (.val (.str ⟨#[50, 32, 51, 10, 46, 35, 10, 35, 46, 10, 46, 35, 10]⟩)), some (67, true)⟩,
 ⟨(some 70), .pick (.tmp 67) (.tmp 69) (.val (.bool false)), none⟩,
 ⟨(some 71), .mov (.tmp 70), none⟩,
 ⟨(some 72), .load (some 3) (.tmp 10), some (71, true)⟩,
 ⟨(some 73), .buildSlice 5 1 6 [(.int .u8 0), (.int .u8 0), (.int .u8 0), (.int .u8 0), (.int .u8 0), (.int .u8 0)] [(0, 1, (.val (.int .u8 0))), (1, 1, (.val (.int .u8 0))), (2, 1, (.val (.int .u8 0))), (3, 1, (.val (.int .u8 0))), (4, 1, (.val (.int .u8 1))), (5, 1, (.val (.int .u8 1)))], some (71, true)⟩,
 ⟨(some 74), .build [(.int .i64 0), (.int .i64 0), .nslice] [(0, 1, (.val (.int .i64 2))), (1, 1, (.val (.int .i64 3))), (2, 1, (.tmp 73))], some (71, true)⟩,
 ⟨(some 75), .call (.val (.func (.func 32) [] [])) [(.tmp 72), (.tmp 74)], some (71, true)⟩,
 ⟨(some 76), .pick (.tmp 71) (.tmp 75) (.val (.bool false)), none⟩,
 ⟨(some 0), .mov (.tmp 76), none⟩])
 (.ret))))))))), [.tmp 0]⟩
def c20 : RFunc := ⟨11, .code (.seq (.region [⟨(some 1), .box 24 (.tmp 0), none⟩,
 ⟨(some 2), .new 24 [(.int .i64 0), (.int .i64 0), .nslice], none⟩])
 (.seq (.dregion [⟨⟨(some 3), .fieldAddr 0 (.tmp 1), none⟩, 0, 0, true⟩,
 ⟨⟨(some 4), .load none (.tmp 3), none⟩, 1, 1, true⟩,
 ⟨⟨(some 5), .fieldAddr 1 (.tmp 1), none⟩, 0, 0, true⟩,
 ⟨⟨(some 6), .load none (.tmp 5), none⟩, 4, 1, true⟩,
 ⟨⟨(some 7), .fieldAddr 2 (.tmp 1), none⟩, 0, 0, true⟩,
 ⟨⟨(some 8), .load none (.tmp 7), none⟩, 16, 1, true⟩,
 ⟨⟨(some 9), .call (.val (.func (.func 95) [] [])) [(.tmp 8)], none⟩, 48, 2, false⟩,
 ⟨⟨(some 10), .build [(.int .i64 0), (.int .i64 0), .nslice] [(0, 1, (.tmp 4)), (1, 1, (.tmp 6)), (2, 1, (.tmp 9))], none⟩, 127, 0, false⟩,
 ⟨⟨none, .store 3 (.tmp 2) (.tmp 10), none⟩, 255, 2, false⟩])
 (.ret))), [.cell 2 (some 3)]⟩
def c21 : RFunc := ⟨42, .code (.seq (.region [⟨(some 1), .box 24 (.tmp 0), none⟩,
 ⟨(some 2), .mov (.val (.int .i64 0)), none⟩])
 (.seq (.seq (.region [⟨(some 4), .fieldAddr 0 (.tmp 1), none⟩,
 ⟨(some 5), .load none (.tmp 4), none⟩,
 ⟨(some 6), .fieldAddr 1 (.tmp 1), none⟩,
 ⟨(some 7), .load none (.tmp 6), none⟩,
 ⟨(some 8), .call (.val (.func (.func 96) [] [])) [(.tmp 5), (.tmp 7)], none⟩,
 ⟨(some 9), .un .not (.tmp 8), none⟩,
 ⟨(some 10), .mov (.tmp 9), none⟩,
 ⟨(some 11), .fieldAddr 2 (.tmp 1), some (10, false)⟩,
 ⟨(some 12), .load none (.tmp 11), some (10, false)⟩,
 ⟨(some 13), .lenS (.tmp 12), some (10, false)⟩,
 ⟨(some 14), .fieldAddr 0 (.tmp 1), some (10, false)⟩,
 ⟨(some 15), .load none (.tmp 14), some (10, false)⟩,
 ⟨(some 16), .fieldAddr 1 (.tmp 1), some (10, false)⟩,
 ⟨(some 17), .load none (.tmp 16), some (10, false)⟩,
 ⟨(some 18), .bin .mul (.tmp 15) (.tmp 17), some (10, false)⟩,
 ⟨(some 19), .bin .neq (.tmp 13) (.tmp 18), some (10, false)⟩,
 ⟨(some 20), .pick (.tmp 10) (.val (.bool true)) (.tmp 19), none⟩])
 (.cond (.tmp 20) (.seq (.region [⟨(some 2), .mov (.val (.int .i64 2)), none⟩])
 (.ret))
 (.skip)))
 (.seq (.seq (.region [⟨(some 3), .mov (.val (.int .i64 0)), none⟩])
 (.block 0 (.loop (.seq (.seq (.region [⟨(some 21), .mov (.tmp 3), none⟩,
 ⟨(some 22), .fieldAddr 2 (.tmp 1), none⟩,
 ⟨(some 23), .load none (.tmp 22), none⟩,
 ⟨(some 24), .lenS (.tmp 23), none⟩,
 ⟨(some 25), .bin .lss (.tmp 21) (.tmp 24), none⟩])
 (.cond (.tmp 25) (.skip)
 (.exit 0)))
 (.seq (.block 1 (.seq (.region [⟨(some 28), .fieldAddr 2 (.tmp 1), none⟩,
 ⟨(some 29), .load none (.tmp 28), none⟩,
 ⟨(some 30), .mov (.tmp 3), none⟩,
 ⟨(some 31), .idxS 1 (.tmp 29) (.tmp 30), none⟩,
 ⟨(some 32), .load none (.tmp 31), none⟩,
 ⟨(some 33), .bin .neq (.tmp 32) (.val (.int .u8 0)), none⟩,
 ⟨(some 34), .mov (.tmp 33), none⟩,
 ⟨(some 35), .fieldAddr 2 (.tmp 1), some (34, true)⟩,
 ⟨(some 36), .load none (.tmp 35), some (34, true)⟩,
 ⟨(some 37), .mov (.tmp 3), some (34, true)⟩,
 ⟨(some 38), .idxS 1 (.tmp 36) (.tmp 37), some (34, true)⟩,
 ⟨(some 39), .load none (.tmp 38), some (34, true)⟩,
 ⟨(some 40), .bin .neq (.tmp 39) (.val (.int .u8 1)), some (34, true)⟩,
 ⟨(some 41), .pick (.tmp 34) (.tmp 40) (.val (.bool false)), none⟩])
 (.cond (.tmp 41) (.seq (.region [⟨(some 2), .mov (.val (.int .i64 3)), none⟩])
 (.ret))
 (.skip))))
 (.region [⟨(some 26), .mov (.tmp 3), none⟩,
 ⟨(some 27), .bin .add (.tmp 26) (.val (.int .i64 1)), none⟩,
 ⟨(some 3), .mov (.tmp 27), none⟩]))))))
 (.seq (.region [⟨(some 2), .mov (.val (.int .i64 0)), none⟩])
 (.ret))))), [.tmp 2]⟩
def c26 : RFunc := ⟨108, .code (.seq (.region [⟨(some 3), .box 24 (.tmp 0), none⟩,
 ⟨(some 4), .box 24 (.tmp 1), none⟩,
 ⟨(some 6), .new 24 [(.int .i64 0), (.int .i64 0), .nslice], none⟩,
 ⟨(some 7), .mov (.val (.int .i64 0)), none⟩])
 (.seq (.seq (.region [⟨(some 15), .load (some 3) (.tmp 3), none⟩,
 ⟨(some 16), .call (.val (.func (.func 21) [] [])) [(.tmp 15)], none⟩,
 ⟨(some 8), .mov (.tmp 16), none⟩])
 (.seq (.region [⟨(some 17), .mov (.tmp 8), none⟩,
 ⟨(some 18), .bin .neq (.tmp 17) (.val (.int .i64 0)), none⟩])
 (.cond (.tmp 18) (.seq (.region [⟨(some 19), .build [(.int .i64 0), (.int .i64 0), .nslice] [], none⟩,
 ⟨(some 20), .mov (.tmp 8), none⟩,
 ⟨none, .store 3 (.tmp 6) (.tmp 19), none⟩,
 ⟨(some 7), .mov (.tmp 20), none⟩])
 (.ret))
 (.skip))))
 (.seq (.seq (.region [⟨(some 21), .load (some 3) (.tmp 4), none⟩,
 ⟨(some 22), .call (.val (.func (.func 21) [] [])) [(.tmp 21)], none⟩,
 ⟨(some 9), .mov (.tmp 22), none⟩])
 (.seq (.region [⟨(some 23), .mov (.tmp 9), none⟩,
 ⟨(some 24), .bin .neq (.tmp 23) (.val (.int .i64 0)), none⟩])
 (.cond (.tmp 24) (.seq (.region [⟨(some 25), .build [(.int .i64 0), (.int .i64 0), .nslice] [], none⟩,
 ⟨(some 26), .mov (.tmp 9), none⟩,
 ⟨none, .store 3 (.tmp 6) (.tmp 25), none⟩,
 ⟨(some 7), .mov (.tmp 26), none⟩])
 (.ret))
 (.skip))))
 (.seq (.seq (.region [⟨(some 27), .fieldAddr 0 (.tmp 3), none⟩,
 ⟨(some 28), .load none (.tmp 27), none⟩,
 ⟨(some 29), .fieldAddr 0 (.tmp 4), none⟩,
 ⟨(some 30), .load none (.tmp 29), none⟩,
 ⟨(some 31), .bin .neq (.tmp 28) (.tmp 30), none⟩,
 ⟨(some 32), .mov (.tmp 31), none⟩,
 ⟨(some 33), .fieldAddr 1 (.tmp 3), some (32, false)⟩,
 ⟨(some 34), .load none (.tmp 33), some (32, false)⟩,
 ⟨(some 35), .fieldAddr 1 (.tmp 4), some (32, false)⟩,
 ⟨(some 36), .load none (.tmp 35), some (32, false)⟩,
 ⟨(some 37), .bin .neq (.tmp 34) (.tmp 36), some (32, false)⟩,
 ⟨(some 38), .pick (.tmp 32) (.val (.bool true)) (.tmp 37), none⟩])
 (.cond (.tmp 38) (.seq (.region [⟨(some 39), .build [(.int .i64 0), (.int .i64 0), .nslice] [], none⟩,
 ⟨none, .store 3 (.tmp 6) (.tmp 39), none⟩,
 ⟨(some 7), .mov (.val (.int .i64 2)), none⟩])
 (.ret))
 (.skip)))
 (.seq (.region [⟨(some 40), .fieldAddr 0 (.tmp 3), none⟩,
 ⟨(some 41), .load none (.tmp 40), none⟩,
 ⟨(some 42), .fieldAddr 1 (.tmp 3), none⟩,
 ⟨(some 43), .load none (.tmp 42), none⟩,
 ⟨(some 44), .call (.val (.func (.func 104) [] [])) [(.tmp 41), (.tmp 43)], none⟩,
 ⟨(some 10), .new 24 [(.int .i64 0), (.int .i64 0), .nslice], none⟩,
 ⟨none, .store 3 (.tmp 10) (.tmp 44), none⟩])
 (.seq (.seq (.region [⟨(some 11), .mov (.val (.int .i64 0)), none⟩])
 (.block 0 (.loop (.seq (.seq (.region [⟨(some 45), .mov (.tmp 11), none⟩,
 ⟨(some 46), .fieldAddr 1 (.tmp 3), none⟩,
 ⟨(some 47), .load none (.tmp 46), none⟩,
 ⟨(some 48), .bin .lss (.tmp 45) (.tmp 47), none⟩])
 (.cond (.tmp 48) (.skip)
 (.exit 0)))
 (.seq (.block 1 (.seq (.region [⟨(some 12), .mov (.val (.int .i64 0)), none⟩])
 (.block 2 (.loop (.seq (.seq (.region [⟨(some 51), .mov (.tmp 12), none⟩,
 ⟨(some 52), .fieldAddr 0 (.tmp 3), none⟩,
 ⟨(some 53), .load none (.tmp 52), none⟩,
 ⟨(some 54), .bin .lss (.tmp 51) (.tmp 53), none⟩])
 (.cond (.tmp 54) (.skip)
 (.exit 2)))
 (.seq (.block 3 (.seq (.dregion [⟨⟨(some 57), .load (some 3) (.tmp 3), none⟩, 0, 1, true⟩,
 ⟨⟨(some 58), .mov (.tmp 12), none⟩, 0, 0, true⟩,
 ⟨⟨(some 59), .mov (.tmp 11), none⟩, 0, 0, true⟩,
 ⟨⟨(some 60), .call (.val (.func (.func 35) [] [])) [(.tmp 57), (.tmp 58), (.tmp 59)], none⟩, 7, 2, false⟩,
 ⟨⟨(some 61), .load (some 3) (.tmp 4), none⟩, 0, 1, true⟩,
 ⟨⟨(some 62), .mov (.tmp 12), none⟩, 0, 0, true⟩,
 ⟨⟨(some 63), .mov (.tmp 11), none⟩, 0, 0, true⟩,
 ⟨⟨(some 64), .call (.val (.func (.func 35) [] [])) [(.tmp 61), (.tmp 62), (.tmp 63)], none⟩, 127, 2, false⟩,
 ⟨⟨(some 13), .mov (.tmp 60), none⟩, 255, 0, false⟩,
 ⟨⟨(some 14), .mov (.tmp 64), none⟩, 511, 0, false⟩])
 (.seq (.region [⟨(some 65), .mov (.tmp 2), none⟩,
 ⟨(some 66), .bin .eql (.tmp 65) (.val (.int .i64 0)), none⟩,
 ⟨(some 67), .mov (.tmp 66), none⟩,
 ⟨(some 68), .mov (.tmp 13), some (67, true)⟩,
 ⟨(some 69), .mov (.tmp 68), some (67, true)⟩,
 ⟨(some 70), .mov (.tmp 14), some (69, false)⟩,
 ⟨(some 71), .pick (.tmp 69) (.val (.bool true)) (.tmp 70), some (67, true)⟩,
 ⟨(some 72), .pick (.tmp 67) (.tmp 71) (.val (.bool false)), none⟩,
 ⟨(some 73), .mov (.tmp 72), none⟩,
 ⟨(some 74), .mov (.tmp 2), some (73, false)⟩,
 ⟨(some 75), .bin .eql (.tmp 74) (.val (.int .i64 1)), some (73, false)⟩,
 ⟨(some 76), .mov (.tmp 75), some (73, false)⟩,
 ⟨(some 77), .mov (.tmp 13), some (76, true)⟩,
 ⟨(some 78), .pick (.tmp 76) (.tmp 77) (.val (.bool false)), some (73, false)⟩,
 ⟨(some 79), .mov (.tmp 78), some (73, false)⟩,
 ⟨(some 80), .mov (.tmp 14), some (79, true)⟩,
 ⟨(some 81), .pick (.tmp 79) (.tmp 80) (.val (.bool false)), some (73, false)⟩,
 ⟨(some 82), .pick (.tmp 73) (.val (.bool true)) (.tmp 81), none⟩,
 ⟨(some 83), .mov (.tmp 82), none⟩,
 ⟨(some 84), .mov (.tmp 2), some (83, false)⟩,
 ⟨(some 85), .bin .eql (.tmp 84) (.val (.int .i64 2)), some (83, false)⟩,
 ⟨(some 86), .mov (.tmp 85), some (83, false)⟩,
 ⟨(some 87), .mov (.tmp 13), some (86, true)⟩,
 ⟨(some 88), .pick (.tmp 86) (.tmp 87) (.val (.bool false)), some (83, false)⟩,
 ⟨(some 89), .mov (.tmp 88), some (83, false)⟩,
 ⟨(some 90), .mov (.tmp 14), some (89, true)⟩,
 ⟨(some 91), .un .not (.tmp 90), some (89, true)⟩,
 ⟨(some 92), .pick (.tmp 89) (.tmp 91) (.val (.bool false)), some (83, false)⟩,
 ⟨(some 93), .pick (.tmp 83) (.val (.bool true)) (.tmp 92), none⟩,
 ⟨(some 94), .mov (.tmp 93), none⟩,
 ⟨(some 95), .mov (.tmp 2), some (94, false)⟩,
 ⟨(some 96), .bin .eql (.tmp 95) (.val (.int .i64 3)), some (94, false)⟩,
 ⟨(some 97), .mov (.tmp 96), some (94, false)⟩,
 ⟨(some 98), .mov (.tmp 13), some (97, true)⟩,
 ⟨(some 99), .mov (.tmp 14), some (97, true)⟩,
 ⟨(some 100), .eq true .bool (.tmp 98) (.tmp 99), some (97, true)⟩,
 ⟨(some 101), .pick (.tmp 97) (.tmp 100) (.val (.bool false)), some (94, false)⟩,
 ⟨(some 102), .pick (.tmp 94) (.val (.bool true)) (.tmp 101), none⟩])
 (.cond (.tmp 102) (.region [⟨(some 103), .load (some 3) (.tmp 10), none⟩,
 ⟨(some 104), .mov (.tmp 12), none⟩,
 ⟨(some 105), .mov (.tmp 11), none⟩,
 ⟨(some 106), .call (.val (.func (.func 105) [] [])) [(.tmp 103), (.tmp 104), (.tmp 105)], none⟩])
 (.skip)))))
 (.region [⟨(some 55), .mov (.tmp 12), none⟩,
 ⟨(some 56), .bin .add (.tmp 55) (.val (.int .i64 1)), none⟩,
 ⟨(some 12), .mov (.tmp 56), none⟩])))))))
 (.region [⟨(some 49), .mov (.tmp 11), none⟩,
 ⟨(some 50), .bin .add (.tmp 49) (.val (.int .i64 1)), none⟩,
 ⟨(some 11), .mov (.tmp 50), none⟩]))))))
 (.seq (.region [⟨(some 107), .load (some 3) (.tmp 10), none⟩,
 ⟨none, .store 3 (.tmp 6) (.tmp 107), none⟩,
 ⟨(some 7), .mov (.val (.int .i64 0)), none⟩])
 (.ret)))))))), [.cell 6 (some 3), .tmp 7]⟩
def c27 : RFunc := ⟨23, .code (.seq (.region [⟨(some 1), .box 24 (.tmp 0), none⟩,
 ⟨(some 2), .mov (.val (.int .i64 0)), none⟩])
 (.seq (.seq (.region [⟨(some 3), .fieldAddr 0 (.tmp 1), none⟩,
 ⟨(some 4), .load none (.tmp 3), none⟩,
 ⟨(some 5), .fieldAddr 1 (.tmp 1), none⟩,
 ⟨(some 6), .load none (.tmp 5), none⟩,
 ⟨(some 7), .fieldAddr 2 (.tmp 1), none⟩,
 ⟨(some 8), .load none (.tmp 7), none⟩,
 ⟨(some 9), .lenS (.tmp 8), none⟩,
 ⟨(some 10), .call (.val (.func (.func 106) [] [])) [(.tmp 4), (.tmp 6), (.tmp 9)], none⟩,
 ⟨(some 11), .un .not (.tmp 10), none⟩])
 (.cond (.tmp 11) (.seq (.region [⟨(some 2), .mov (.val (.int .i64 2)), none⟩])
 (.ret))
 (.skip)))
 (.seq (.seq (.dregion [⟨⟨(some 12), .fieldAddr 2 (.tmp 1), none⟩, 0, 0, true⟩,
 ⟨⟨(some 13), .load none (.tmp 12), none⟩, 1, 1, true⟩,
 ⟨⟨(some 14), .buildSlice 5 1 1 [(.int .u8 0)] [(0, 1, (.val (.int .u8 0)))], none⟩, 0, 3, true⟩,
 ⟨⟨(some 15), .call (.val (.func (.func 107) [] [])) [(.tmp 13), (.tmp 14)], none⟩, 7, 2, false⟩,
 ⟨⟨(some 16), .load (some 3) (.tmp 1), none⟩, 0, 1, true⟩,
 ⟨⟨(some 17), .call (.val (.func (.func 97) [] [])) [(.tmp 16)], none⟩, 31, 2, false⟩,
 ⟨⟨(some 18), .bin .add (.tmp 15) (.tmp 17), none⟩, 63, 0, false⟩,
 ⟨⟨(some 19), .fieldAddr 2 (.tmp 1), none⟩, 0, 0, true⟩,
 ⟨⟨(some 20), .load none (.tmp 19), none⟩, 128, 1, true⟩,
 ⟨⟨(some 21), .lenS (.tmp 20), none⟩, 384, 0, true⟩,
 ⟨⟨(some 22), .bin .neq (.tmp 18) (.tmp 21), none⟩, 1023, 0, false⟩])
 (.cond (.tmp 22) (.seq (.region [⟨(some 2), .mov (.val (.int .i64 3)), none⟩])
 (.ret))
 (.skip)))
 (.seq (.region [⟨(some 2), .mov (.val (.int .i64 0)), none⟩])
 (.ret))))), [.tmp 2]⟩
def c32 : RFunc := ⟨24, .code (.seq (.region [⟨(some 2), .box 24 (.tmp 0), none⟩,
 ⟨(some 3), .box 24 (.tmp 1), none⟩,
 ⟨(some 4), .mov (.val (.bool false)), none⟩])
 (.seq (.region [⟨(some 5), .fieldAddr 0 (.tmp 2), none⟩,
 ⟨(some 6), .load none (.tmp 5), none⟩,
 ⟨(some 7), .fieldAddr 0 (.tmp 3), none⟩,
 ⟨(some 8), .load none (.tmp 7), none⟩,
 ⟨(some 9), .bin .eql (.tmp 6) (.tmp 8), none⟩,
 ⟨(some 10), .mov (.tmp 9), none⟩,
 ⟨(some 11), .fieldAddr 1 (.tmp 2), some (10, true)⟩,
 ⟨(some 12), .load none (.tmp 11), some (10, true)⟩,
 ⟨(some 13), .fieldAddr 1 (.tmp 3), some (10, true)⟩,
 ⟨(some 14), .load none (.tmp 13), some (10, true)⟩,
 ⟨(some 15), .bin .eql (.tmp 12) (.tmp 14), some (10, true)⟩,
 ⟨(some 16), .pick (.tmp 10) (.tmp 15) (.val (.bool false)), none⟩,
 ⟨(some 17), .mov (.tmp 16), none⟩,
 ⟨(some 18), .fieldAddr 2 (.tmp 2), some (17, true)⟩,
 ⟨(some 19), .load none (.tmp 18), some (17, true)⟩,
 ⟨(some 20), .fieldAddr 2 (.tmp 3), some (17, true)⟩,
 ⟨(some 21), .load none (.tmp 20), some (17, true)⟩,
 ⟨(some 22), .call (.val (.func (.func 108) [] [])) [(.tmp 19), (.tmp 21)], some (17, true)⟩,
 ⟨(some 23), .pick (.tmp 17) (.tmp 22) (.val (.bool false)), none⟩,
 ⟨(some 4), .mov (.tmp 23), none⟩])
 (.ret))), [.tmp 4]⟩
def c35 : RFunc := ⟨38, .code (.seq (.region [⟨(some 3), .box 24 (.tmp 0), none⟩,
 ⟨(some 6), .mov (.val (.bool false)), none⟩])
 (.seq (.region [⟨(some 7), .mov (.tmp 1), none⟩,
 ⟨(some 8), .bin .geq (.tmp 7) (.val (.int .i64 0)), none⟩,
 ⟨(some 9), .mov (.tmp 8), none⟩,
 ⟨(some 10), .mov (.tmp 1), some (9, true)⟩,
 ⟨(some 11), .fieldAddr 0 (.tmp 3), some (9, true)⟩,
 ⟨(some 12), .load none (.tmp 11), some (9, true)⟩,
 ⟨(some 13), .bin .lss (.tmp 10) (.tmp 12), some (9, true)⟩,
 ⟨(some 14), .pick (.tmp 9) (.tmp 13) (.val (.bool false)), none⟩,
 ⟨(some 15), .mov (.tmp 14), none⟩,
 ⟨(some 16), .mov (.tmp 2), some (15, true)⟩,
 ⟨(some 17), .bin .geq (.tmp 16) (.val (.int .i64 0)), some (15, true)⟩,
 ⟨(some 18), .pick (.tmp 15) (.tmp 17) (.val (.bool false)), none⟩,
 ⟨(some 19), .mov (.tmp 18), none⟩,
 ⟨(some 20), .mov (.tmp 2), some (19, true)⟩,
 ⟨(some 21), .fieldAddr 1 (.tmp 3), some (19, true)⟩,
 ⟨(some 22), .load none (.tmp 21), some (19, true)⟩,
 ⟨(some 23), .bin .lss (.tmp 20) (.tmp 22), some (19, true)⟩,
 ⟨(some 24), .pick (.tmp 19) (.tmp 23) (.val (.bool false)), none⟩,
 ⟨(some 25), .mov (.tmp 24), none⟩,
 ⟨(some 26), .fieldAddr 2 (.tmp 3), some (25, true)⟩,
 ⟨(some 27), .load none (.tmp 26), some (25, true)⟩,
 ⟨(some 28), .mov (.tmp 2), some (25, true)⟩,
 ⟨(some 29), .fieldAddr 0 (.tmp 3), some (25, true)⟩,
 ⟨(some 30), .load none (.tmp 29), some (25, true)⟩,
 ⟨(some 31), .bin .mul (.tmp 28) (.tmp 30), some (25, true)⟩,
 ⟨(some 32), .mov (.tmp 1), some (25, true)⟩,
 ⟨(some 33), .bin .add (.tmp 31) (.tmp 32), some (25, true)⟩,
 ⟨(some 34), .idxS 1 (.tmp 27) (.tmp 33), some (25, true)⟩,
 ⟨(some 35), .load none (.tmp 34), some (25, true)⟩,
 ⟨(some 36), .bin .eql (.tmp 35) (.val (.int .u8 1)), some (25, true)⟩,
 ⟨(some 37), .pick (.tmp 25) (.tmp 36) (.val (.bool false)), none⟩,
 ⟨(some 6), .mov (.tmp 37), none⟩])
 (.ret))), [.tmp 6]⟩
def c37 : RFunc := ⟨169, .code (.seq (.region [⟨(some 4), .box 24 (.tmp 0), none⟩,
 ⟨(some 5), .box 24 (.tmp 1), none⟩,
 ⟨(some 6), .box 46 (.tmp 2), none⟩,
 ⟨(some 8), .mov (.val (.bool false)), none⟩])
 (.seq (.dregion [⟨⟨(some 35), .load (some 3) (.tmp 4), none⟩, 0, 1, true⟩,
 ⟨⟨(some 36), .call (.val (.func (.func 20) [] [])) [(.tmp 35)], none⟩, 1, 2, false⟩,
 ⟨⟨(some 37), .load (some 3) (.tmp 5), none⟩, 0, 1, true⟩,
 ⟨⟨(some 38), .call (.val (.func (.func 20) [] [])) [(.tmp 37)], none⟩, 7, 2, false⟩,
 ⟨⟨(some 9), .new 24 [(.int .i64 0), (.int .i64 0), .nslice], none⟩, 0, 3, true⟩,
 ⟨⟨(some 10), .new 24 [(.int .i64 0), (.int .i64 0), .nslice], none⟩, 0, 3, true⟩,
 ⟨⟨none, .store 3 (.tmp 9) (.tmp 36), none⟩, 63, 2, false⟩,
 ⟨⟨none, .store 3 (.tmp 10) (.tmp 38), none⟩, 127, 2, false⟩])
 (.seq (.region [⟨(some 40), .load (some 3) (.tmp 9), none⟩,
 ⟨(some 41), .load (some 4) (.tmp 6), none⟩,
 ⟨(some 42), .call (.val (.func (.func 82) [] [])) [(.tmp 40), (.tmp 41)], none⟩,
 ⟨(some 39), .mov (.tmp 42), none⟩,
 ⟨(some 43), .extract (.tmp 39) 0, none⟩,
 ⟨(some 44), .extract (.tmp 39) 1, none⟩,
 ⟨(some 11), .new 24 [(.int .i64 0), (.int .i64 0), .nslice], none⟩,
 ⟨none, .store 3 (.tmp 11) (.tmp 43), none⟩,
 ⟨(some 12), .mov (.tmp 44), none⟩])
 (.seq (.region [⟨(some 46), .load (some 3) (.tmp 4), none⟩,
 ⟨(some 47), .load (some 4) (.tmp 6), none⟩,
 ⟨(some 48), .call (.val (.func (.func 111) [] [])) [(.tmp 46), (.tmp 47)], none⟩,
 ⟨(some 45), .mov (.tmp 48), none⟩,
 ⟨(some 49), .extract (.tmp 45) 0, none⟩,
 ⟨(some 50), .extract (.tmp 45) 1, none⟩,
 ⟨(some 13), .new 24 [(.int .i64 0), (.int .i64 0), .nslice], none⟩,
 ⟨none, .store 3 (.tmp 13) (.tmp 49), none⟩,
 ⟨(some 14), .mov (.tmp 50), none⟩])
 (.seq (.region [⟨(some 52), .load (some 3) (.tmp 9), none⟩,
 ⟨(some 53), .load (some 3) (.tmp 10), none⟩,
 ⟨(some 54), .fieldAddr 0 (.tmp 6), none⟩,
 ⟨(some 55), .load none (.tmp 54), none⟩,
 ⟨(some 56), .fieldAddr 1 (.tmp 6), none⟩,
 ⟨(some 57), .load none (.tmp 56), none⟩,
 ⟨(some 58), .call (.val (.func (.func 83) [] [])) [(.tmp 52), (.tmp 53), (.tmp 55), (.tmp 57)], none⟩,
 ⟨(some 51), .mov (.tmp 58), none⟩,
 ⟨(some 59), .extract (.tmp 51) 0, none⟩,
 ⟨(some 60), .extract (.tmp 51) 1, none⟩,
 ⟨(some 15), .new 24 [(.int .i64 0), (.int .i64 0), .nslice], none⟩,
 ⟨none, .store 3 (.tmp 15) (.tmp 59), none⟩,
 ⟨(some 16), .mov (.tmp 60), none⟩])
 (.seq (.region [⟨(some 62), .load (some 3) (.tmp 4), none⟩,
 ⟨(some 63), .load (some 3) (.tmp 5), none⟩,
 ⟨(some 64), .fieldAddr 0 (.tmp 6), none⟩,
 ⟨(some 65), .load none (.tmp 64), none⟩,
 ⟨(some 66), .fieldAddr 1 (.tmp 6), none⟩,
 ⟨(some 67), .load none (.tmp 66), none⟩,
 ⟨(some 68), .call (.val (.func (.func 112) [] [])) [(.tmp 62), (.tmp 63), (.tmp 65), (.tmp 67)], none⟩,
 ⟨(some 61), .mov (.tmp 68), none⟩,
 ⟨(some 69), .extract (.tmp 61) 0, none⟩,
 ⟨(some 70), .extract (.tmp 61) 1, none⟩,
 ⟨(some 17), .new 24 [(.int .i64 0), (.int .i64 0), .nslice], none⟩,
 ⟨none, .store 3 (.tmp 17) (.tmp 69), none⟩,
 ⟨(some 18), .mov (.tmp 70), none⟩])
 (.seq (.region [⟨(some 72), .load (some 3) (.tmp 9), none⟩,
 ⟨(some 73), .load (some 3) (.tmp 10), none⟩,
 ⟨(some 74), .call (.val (.func (.func 85) [] [])) [(.tmp 72), (.tmp 73)], none⟩,
 ⟨(some 71), .mov (.tmp 74), none⟩,
 ⟨(some 75), .extract (.tmp 71) 0, none⟩,
 ⟨(some 76), .extract (.tmp 71) 1, none⟩,
 ⟨(some 19), .new 24 [(.int .i64 0), (.int .i64 0), .nslice], none⟩,
 ⟨none, .store 3 (.tmp 19) (.tmp 75), none⟩,
 ⟨(some 20), .mov (.tmp 76), none⟩])
 (.seq (.region [⟨(some 78), .load (some 3) (.tmp 4), none⟩,
 ⟨(some 79), .load (some 3) (.tmp 5), none⟩,
 ⟨(some 80), .call (.val (.func (.func 26) [] [])) [(.tmp 78), (.tmp 79), (.val (.int .i64 0))], none⟩,
 ⟨(some 77), .mov (.tmp 80), none⟩,
 ⟨(some 81), .extract (.tmp 77) 0, none⟩,
 ⟨(some 82), .extract (.tmp 77) 1, none⟩,
 ⟨(some 21), .new 24 [(.int .i64 0), (.int .i64 0), .nslice], none⟩,
 ⟨none, .store 3 (.tmp 21) (.tmp 81), none⟩,
 ⟨(some 22), .mov (.tmp 82), none⟩])
 (.seq (.region [⟨(some 84), .load (some 3) (.tmp 9), none⟩,
 ⟨(some 85), .load (some 3) (.tmp 10), none⟩,
 ⟨(some 86), .call (.val (.func (.func 86) [] [])) [(.tmp 84), (.tmp 85)], none⟩,
 ⟨(some 83), .mov (.tmp 86), none⟩,
 ⟨(some 87), .extract (.tmp 83) 0, none⟩,
 ⟨(some 88), .extract (.tmp 83) 1, none⟩,
 ⟨(some 23), .new 24 [(.int .i64 0), (.int .i64 0), .nslice], none⟩,
 ⟨none, .store 3 (.tmp 23) (.tmp 87), none⟩,
 ⟨(some 24), .mov (.tmp 88), none⟩])
 (.seq (.region [⟨(some 90), .load (some 3) (.tmp 4), none⟩,
 ⟨(some 91), .load (some 3) (.tmp 5), none⟩,
 ⟨(some 92), .call (.val (.func (.func 26) [] [])) [(.tmp 90), (.tmp 91), (.val (.int .i64 1))], none⟩,
 ⟨(some 89), .mov (.tmp 92), none⟩,
 ⟨(some 93), .extract (.tmp 89) 0, none⟩,
 ⟨(some 94), .extract (.tmp 89) 1, none⟩,
 ⟨(some 25), .new 24 [(.int .i64 0), (.int .i64 0), .nslice], none⟩,
 ⟨none, .store 3 (.tmp 25) (.tmp 93), none⟩,
 ⟨(some 26), .mov (.tmp 94), none⟩])
 (.seq (.region [⟨(some 96), .load (some 3) (.tmp 9), none⟩,
 ⟨(some 97), .load (some 3) (.tmp 10), none⟩,
 ⟨(some 98), .call (.val (.func (.func 87) [] [])) [(.tmp 96), (.tmp 97)], none⟩,
 ⟨(some 95), .mov (.tmp 98), none⟩,
 ⟨(some 99), .extract (.tmp 95) 0, none⟩,
 ⟨(some 100), .extract (.tmp 95) 1, none⟩,
 ⟨(some 27), .new 24 [(.int .i64 0), (.int .i64 0), .nslice], none⟩,
 ⟨none, .store 3 (.tmp 27) (.tmp 99), none⟩,
 ⟨(some 28), .mov (.tmp 100), none⟩])
 (.seq (.region [⟨(some 102), .load (some 3) (.tmp 4), none⟩,
 ⟨(some 103), .load (some 3) (.tmp 5), none⟩,
 ⟨(some 104), .call (.val (.func (.func 26) [] [])) [(.tmp 102), (.tmp 103), (.val (.int .i64 2))], none⟩,
 ⟨(some 101), .mov (.tmp 104), none⟩,
 ⟨(some 105), .extract (.tmp 101) 0, none⟩,
 ⟨(some 106), .extract (.tmp 101) 1, none⟩,
 ⟨(some 29), .new 24 [(.int .i64 0), (.int .i64 0), .nslice], none⟩,
 ⟨none, .store 3 (.tmp 29) (.tmp 105), none⟩,
 ⟨(some 30), .mov (.tmp 106), none⟩])
 (.seq (.region [⟨(some 108), .load (some 3) (.tmp 9), none⟩,
 ⟨(some 109), .mov (.tmp 3), none⟩,
 ⟨(some 110), .call (.val (.func (.func 77) [] [])) [(.tmp 108), (.tmp 109)], none⟩,
 ⟨(some 107), .mov (.tmp 110), none⟩,
 ⟨(some 111), .extract (.tmp 107) 0, none⟩,
 ⟨(some 112), .extract (.tmp 107) 1, none⟩,
 ⟨(some 31), .new 24 [(.int .i64 0), (.int .i64 0), .nslice], none⟩,
 ⟨none, .store 3 (.tmp 31) (.tmp 111), none⟩,
 ⟨(some 32), .mov (.tmp 112), none⟩])
 (.seq (.region [⟨(some 114), .load (some 3) (.tmp 4), none⟩,
 ⟨(some 115), .mov (.tmp 3), none⟩,
 ⟨(some 116), .call (.val (.func (.func 113) [] [])) [(.tmp 114), (.tmp 115)], none⟩,
 ⟨(some 113), .mov (.tmp 116), none⟩,
 ⟨(some 117), .extract (.tmp 113) 0, none⟩,
 ⟨(some 118), .extract (.tmp 113) 1, none⟩,
 ⟨(some 33), .new 24 [(.int .i64 0), (.int .i64 0), .nslice], none⟩,
 ⟨none, .store 3 (.tmp 33) (.tmp 117), none⟩,
 ⟨(some 34), .mov (.tmp 118), none⟩])
 (.seq (.region [⟨(some 119), .load (some 3) (.tmp 11), none⟩,
 ⟨(some 120), .mov (.tmp 12), none⟩,
 ⟨(some 121), .load (some 3) (.tmp 13), none⟩,
 ⟨(some 122), .mov (.tmp 14), none⟩,
 ⟨(some 123), .call (.val (.func (.func 44) [] [])) [(.tmp 119), (.tmp 120), (.tmp 121), (.tmp 122)], none⟩,
 ⟨(some 124), .mov (.tmp 123), none⟩,
 ⟨(some 125), .load (some 3) (.tmp 15), some (124, true)⟩,
 ⟨(some 126), .mov (.tmp 16), some (124, true)⟩,
 ⟨(some 127), .load (some 3) (.tmp 17), some (124, true)⟩,
 ⟨(some 128), .mov (.tmp 18), some (124, true)⟩,
 ⟨(some 129), .call (.val (.func (.func 44) [] [])) [(.tmp 125), (.tmp 126), (.tmp 127), (.tmp 128)], some (124, true)⟩,
 ⟨(some 130), .pick (.tmp 124) (.tmp 129) (.val (.bool false)), none⟩,
 ⟨(some 131), .mov (.tmp 130), none⟩,
 ⟨(some 132), .load (some 3) (.tmp 19), some (131, true)⟩,
 ⟨(some 133), .mov (.tmp 20), some (131, true)⟩,
 ⟨(some 134), .load (some 3) (.tmp 21), some (131, true)⟩,
 ⟨(some 135), .mov (.tmp 22), some (131, true)⟩,
 ⟨(some 136), .call (.val (.func (.func 44) [] [])) [(.tmp 132), (.tmp 133), (.tmp 134), (.tmp 135)], some (131, true)⟩,
 ⟨(some 137), .pick (.tmp 131) (.tmp 136) (.val (.bool false)), none⟩,
 ⟨(some 138), .mov (.tmp 137), none⟩,
 ⟨(some 139), .load (some 3) (.tmp 23), some (138, true)⟩,
 ⟨(some 140), .mov (.tmp 24), some (138, true)⟩,
 ⟨(some 141), .load (some 3) (.tmp 25), some (138, true)⟩,
 ⟨(some 142), .mov (.tmp 26), some (138, true)⟩,
 ⟨(some 143), .call (.val (.func (.func 44) [] [])) [(.tmp 139), (.tmp 140), (.tmp 141), (.tmp 142)], some (138, true)⟩,
 ⟨(some 144), .pick (.tmp 138) (.tmp 143) (.val (.bool false)), none⟩,
 ⟨(some 145), .mov (.tmp 144), none⟩,
 ⟨(some 146), .load (some 3) (.tmp 27), some (145, true)⟩,
 ⟨(some 147), .mov (.tmp 28), some (145, true)⟩,
 ⟨(some 148), .load (some 3) (.tmp 29), some (145, true)⟩,
 ⟨(some 149), .mov (.tmp 30), some (145, true)⟩,
 ⟨(some 150), .call (.val (.func (.func 44) [] [])) [(.tmp 146), (.tmp 147), (.tmp 148), (.tmp 149)], some (145, true)⟩,
 ⟨(some 151), .pick (.tmp 145) (.tmp 150) (.val (.bool false)), none⟩,
 ⟨(some 152), .mov (.tmp 151), none⟩,
 ⟨(some 153), .load (some 3) (.tmp 31), some (152, true)⟩,
 ⟨(some 154), .mov (.tmp 32), some (152, true)⟩,
 ⟨(some 155), .load (some 3) (.tmp 33), some (152, true)⟩,
 ⟨(some 156), .mov (.tmp 34), some (152, true)⟩,
 ⟨(some 157), .call (.val (.func (.func 44) [] [])) [(.tmp 153), (.tmp 154), (.tmp 155), (.tmp 156)], some (152, true)⟩,
 ⟨(some 158), .pick (.tmp 152) (.tmp 157) (.val (.bool false)), none⟩,
 ⟨(some 159), .mov (.tmp 158), none⟩,
 ⟨(some 160), .load (some 3) (.tmp 9), some (159, true)⟩,
 ⟨(some 161), .load (some 3) (.tmp 4), some (159, true)⟩,
 ⟨(some 162), .call (.val (.func (.func 32) [] [])) [(.tmp 160), (.tmp 161)], some (159, true)⟩,
 ⟨(some 163), .pick (.tmp 159) (.tmp 162) (.val (.bool false)), none⟩,
 ⟨(some 164), .mov (.tmp 163), none⟩,
 ⟨(some 165), .load (some 3) (.tmp 10), some (164, true)⟩,
 ⟨(some 166), .load (some 3) (.tmp 5), some (164, true)⟩,
 ⟨(some 167), .call (.val (.func (.func 32) [] [])) [(.tmp 165), (.tmp 166)], some (164, true)⟩,
 ⟨(some 168), .pick (.tmp 164) (.tmp 167) (.val (.bool false)), none⟩,
 ⟨(some 8), .mov (.tmp 168), none⟩])
 (.ret)))))))))))))))), [.tmp 8]⟩
def c44 : RFunc := ⟨17, .code (.seq (.region [⟨(some 4), .box 24 (.tmp 0), none⟩,
 ⟨(some 6), .box 24 (.tmp 2), none⟩,
 ⟨(some 8), .mov (.val (.bool false)), none⟩])
 (.seq (.region [⟨(some 9), .load (some 3) (.tmp 4), none⟩,
 ⟨(some 10), .load (some 3) (.tmp 6), none⟩,
 ⟨(some 11), .call (.val (.func (.func 32) [] [])) [(.tmp 9), (.tmp 10)], none⟩,
 ⟨(some 12), .mov (.tmp 11), none⟩,
 ⟨(some 13), .mov (.tmp 1), some (12, true)⟩,
 ⟨(some 14), .mov (.tmp 3), some (12, true)⟩,
 ⟨(some 15), .bin .eql (.tmp 13) (.tmp 14), some (12, true)⟩,
 ⟨(some 16), .pick (.tmp 12) (.tmp 15) (.val (.bool false)), none⟩,
 ⟨(some 8), .mov (.tmp 16), none⟩])
 (.ret))), [.tmp 8]⟩
def c60 : RFunc := ⟨70, .code (.seq (.region [⟨(some 2), .box 24 (.tmp 0), none⟩,
 ⟨(some 4), .mov (.val .nslice), none⟩,
 ⟨(some 5), .mov (.val (.int .i64 0)), none⟩])
 (.seq (.seq (.region [⟨(some 14), .load (some 3) (.tmp 2), none⟩,
 ⟨(some 15), .call (.val (.func (.func 27) [] [])) [(.tmp 14)], none⟩,
 ⟨(some 6), .mov (.tmp 15), none⟩])
 (.seq (.region [⟨(some 16), .mov (.tmp 6), none⟩,
 ⟨(some 17), .bin .neq (.tmp 16) (.val (.int .i64 0)), none⟩])
 (.cond (.tmp 17) (.seq (.region [⟨(some 18), .mov (.tmp 6), none⟩,
 ⟨(some 4), .mov (.val .nslice), none⟩,
 ⟨(some 5), .mov (.tmp 18), none⟩])
 (.ret))
 (.skip))))
 (.seq (.region [⟨(some 20), .load (some 3) (.tmp 2), none⟩,
 ⟨(some 21), .mov (.tmp 1), none⟩,
 ⟨(some 22), .call (.val (.func (.func 121) [] [])) [(.tmp 20), (.tmp 21)], none⟩,
 ⟨(some 19), .mov (.tmp 22), none⟩,
 ⟨(some 23), .extract (.tmp 19) 0, none⟩,
 ⟨(some 24), .extract (.tmp 19) 1, none⟩,
 ⟨(some 7), .mov (.tmp 23), none⟩,
 ⟨(some 8), .mov (.tmp 24), none⟩])
 (.seq (.region [⟨(some 25), .mov (.tmp 8), none⟩,
 ⟨(some 26), .makeSlice 84 [(.int .i64 0), (.int .i64 0), (.int .i64 0), (.int .i64 0), .nslice] 56 (.tmp 25) (.tmp 25), none⟩,
 ⟨(some 9), .mov (.tmp 26), none⟩])
 (.seq (.seq (.region [⟨(some 27), .mov (.tmp 7), none⟩,
 ⟨(some 28), .lenS (.tmp 27), none⟩,
 ⟨(some 29), .mov (.val (.int .i64 0)), none⟩])
 (.block 0 (.loop (.seq (.region [⟨(some 30), .bin .lss (.tmp 29) (.tmp 28), none⟩])
 (.seq (.cond (.tmp 30) (.skip)
 (.exit 0))
 (.seq (.block 1 (.seq (.region [⟨(some 31), .mov (.tmp 29), none⟩,
 ⟨(some 32), .idxS 1 (.tmp 27) (.tmp 29), none⟩,
 ⟨(some 33), .load none (.tmp 32), none⟩,
 ⟨(some 10), .mov (.tmp 31), none⟩,
 ⟨(some 11), .mov (.tmp 33), none⟩])
 (.seq (.seq (.region [⟨(some 34), .mov (.tmp 11), none⟩,
 ⟨(some 35), .bin .eql (.tmp 34) (.val (.int .i64 0)), none⟩])
 (.cond (.tmp 35) (.exit 1)
 (.skip)))
 (.seq (.region [⟨(some 36), .mov (.tmp 9), none⟩,
 ⟨(some 37), .mov (.tmp 11), none⟩,
 ⟨(some 38), .bin .sub (.tmp 37) (.val (.int .i64 1)), none⟩,
 ⟨(some 39), .idxS 5 (.tmp 36) (.tmp 38), none⟩,
 ⟨(some 12), .mov (.tmp 39), none⟩])
 (.seq (.dregion [⟨⟨(some 40), .mov (.tmp 10), none⟩, 0, 0, true⟩,
 ⟨⟨(some 41), .fieldAddr 0 (.tmp 2), none⟩, 0, 0, true⟩,
 ⟨⟨(some 42), .load none (.tmp 41), none⟩, 2, 1, true⟩,
 ⟨⟨(some 43), .bin .rem (.tmp 40) (.tmp 42), none⟩, 7, 0, true⟩,
 ⟨⟨(some 44), .mov (.tmp 10), none⟩, 0, 0, true⟩,
 ⟨⟨(some 45), .fieldAddr 0 (.tmp 2), none⟩, 0, 0, true⟩,
 ⟨⟨(some 46), .load none (.tmp 45), none⟩, 32, 1, true⟩,
 ⟨⟨(some 47), .bin .quo (.tmp 44) (.tmp 46), none⟩, 112, 0, true⟩,
 ⟨⟨(some 48), .build [(.int .i64 0), (.int .i64 0)] [(0, 1, (.tmp 43)), (1, 1, (.tmp 47))], none⟩, 255, 0, true⟩,
 ⟨⟨(some 13), .new 88 [(.int .i64 0), (.int .i64 0)], none⟩, 0, 3, true⟩,
 ⟨⟨none, .store 2 (.tmp 13) (.tmp 48), none⟩, 1023, 2, false⟩])
 (.seq (.dregion [⟨⟨(some 49), .mov (.tmp 12), none⟩, 0, 0, true⟩,
 ⟨⟨(some 50), .mov (.tmp 12), none⟩, 0, 0, true⟩,
 ⟨⟨(some 51), .nilCheck (.tmp 50), none⟩, 2, 0, true⟩,
 ⟨⟨(some 52), .fieldAddr 0 (.tmp 51), none⟩, 6, 0, true⟩,
 ⟨⟨(some 53), .load (some 4) (.tmp 52), none⟩, 14, 1, true⟩,
 ⟨⟨(some 54), .load (some 2) (.tmp 13), none⟩, 0, 1, true⟩,
 ⟨⟨(some 55), .call (.val (.func (.func 122) [] [])) [(.tmp 53), (.tmp 54)], none⟩, 62, 2, false⟩,
 ⟨⟨(some 56), .nilCheck (.tmp 49), none⟩, 127, 0, true⟩,
 ⟨⟨(some 57), .fieldAddr 0 (.tmp 56), none⟩, 255, 0, true⟩,
 ⟨⟨none, .store 4 (.tmp 57) (.tmp 55), none⟩, 511, 2, false⟩])
 (.dregion [⟨⟨(some 58), .mov (.tmp 12), none⟩, 0, 0, true⟩,
 ⟨⟨(some 59), .mov (.tmp 12), none⟩, 0, 0, true⟩,
 ⟨⟨(some 60), .nilCheck (.tmp 59), none⟩, 2, 0, true⟩,
 ⟨⟨(some 61), .fieldAddr 4 (.tmp 60), none⟩, 6, 0, true⟩,
 ⟨⟨(some 62), .load none (.tmp 61), none⟩, 14, 1, true⟩,
 ⟨⟨(some 63), .load (some 2) (.tmp 13), none⟩, 0, 1, true⟩,
 ⟨⟨(some 64), .buildSlice 88 2 1 [(.int .i64 0), (.int .i64 0)] [(0, 2, (.tmp 63))], none⟩, 32, 3, true⟩,
 ⟨⟨(some 65), .append 88 2 16 (.tmp 62) (.tmp 64), none⟩, 126, 2, false⟩,
 ⟨⟨(some 66), .nilCheck (.tmp 58), none⟩, 255, 0, true⟩,
 ⟨⟨(some 67), .fieldAddr 4 (.tmp 66), none⟩, 511, 0, true⟩,
 ⟨⟨none, .store 1 (.tmp 67) (.tmp 65), none⟩, 1023, 2, false⟩])))))))
 (.region [⟨(some 68), .bin .add (.tmp 29) (.val (.int .i64 1)), none⟩,
 ⟨(some 29), .mov (.tmp 68), none⟩])))))))
 (.seq (.region [⟨(some 69), .mov (.tmp 9), none⟩,
 ⟨(some 4), .mov (.tmp 69), none⟩,
 ⟨(some 5), .mov (.val (.int .i64 0)), none⟩])
 (.ret))))))), [.tmp 4, .tmp 5]⟩
def c70 : RFunc := ⟨66, .code (.seq (.region [⟨(some 1), .box 24 (.tmp 0), none⟩,
 ⟨(some 2), .new 24 [(.int .i64 0), (.int .i64 0), .nslice], none⟩,
 ⟨(some 3), .mov (.val (.int .i64 0)), none⟩])
 (.scope (.seq (.seq (.region [⟨(some 9), .load (some 3) (.tmp 1), none⟩,
 ⟨(some 10), .call (.val (.func (.func 27) [] [])) [(.tmp 9)], none⟩,
 ⟨(some 4), .mov (.tmp 10), none⟩])
 (.seq (.region [⟨(some 11), .mov (.tmp 4), none⟩,
 ⟨(some 12), .bin .neq (.tmp 11) (.val (.int .i64 0)), none⟩])
 (.cond (.tmp 12) (.seq (.region [⟨(some 13), .build [(.int .i64 0), (.int .i64 0), .nslice] [], none⟩,
 ⟨(some 14), .mov (.tmp 4), none⟩,
 ⟨none, .store 3 (.tmp 2) (.tmp 13), none⟩,
 ⟨(some 3), .mov (.tmp 14), none⟩])
 (.ret))
 (.skip))))
 (.seq (.region [⟨(some 15), .load (some 3) (.tmp 1), none⟩,
 ⟨(some 16), .call (.val (.func (.func 98) [] [])) [(.tmp 15)], none⟩,
 ⟨(some 5), .new 24 [(.int .i64 0), (.int .i64 0), .nslice], none⟩,
 ⟨none, .store 3 (.tmp 5) (.tmp 16), none⟩])
 (.seq (.region [⟨(some 17), .fieldAddr 2 (.tmp 1), none⟩,
 ⟨(some 18), .load none (.tmp 17), none⟩,
 ⟨(some 19), .call (.val (.func (.func 127) [] [])) [(.tmp 18)], none⟩,
 ⟨(some 6), .mov (.tmp 19), none⟩])
 (.seq (.label)
 (.seq (.block 0 (.loop (.block 1 (.seq (.region [⟨(some 7), .mov (.val (.int .i64 0)), none⟩])
 (.block 2 (.loop (.seq (.block 3 (.seq (.region [⟨(some 22), .mov (.tmp 6), none⟩,
 ⟨(some 23), .mov (.tmp 7), none⟩,
 ⟨(some 24), .sliceS 1 (.tmp 22) (some (.tmp 23)) none none, none⟩,
 ⟨(some 25), .call (.val (.func (.func 128) [] [])) [(.tmp 24), (.val (.int .u8 1))], none⟩,
 ⟨(some 8), .mov (.tmp 25), none⟩])
 (.seq (.seq (.region [⟨(some 26), .mov (.tmp 8), none⟩,
 ⟨(some 27), .bin .lss (.tmp 26) (.val (.int .i64 0)), none⟩,
 ⟨(some 28), .mov (.tmp 27), none⟩,
 ⟨(some 29), .mov (.tmp 7), some (28, true)⟩,
 ⟨(some 30), .bin .eql (.tmp 29) (.val (.int .i64 0)), some (28, true)⟩,
 ⟨(some 31), .pick (.tmp 28) (.tmp 30) (.val (.bool false)), none⟩])
 (.cond (.tmp 31) (.exit 0)
 (.skip)))
 (.seq (.seq (.region [⟨(some 32), .mov (.tmp 8), none⟩,
 ⟨(some 33), .bin .lss (.tmp 32) (.val (.int .i64 0)), none⟩])
 (.cond (.tmp 33) (.exit 1)
 (.skip)))
 (.seq (.region [⟨(some 34), .mov (.tmp 7), none⟩,
 ⟨(some 35), .mov (.tmp 8), none⟩,
 ⟨(some 36), .bin .add (.tmp 34) (.tmp 35), none⟩,
 ⟨(some 7), .mov (.tmp 36), none⟩])
 (.seq (.region [⟨(some 37), .mov (.tmp 6), none⟩,
 ⟨(some 38), .mov (.tmp 7), none⟩,
 ⟨(some 39), .idxS 1 (.tmp 37) (.tmp 38), none⟩,
 ⟨none, .store 1 (.tmp 39) (.val (.int .u8 0)), none⟩])
 (.seq (.dregion [⟨⟨(some 40), .load (some 3) (.tmp 5), none⟩, 0, 1, true⟩,
 ⟨⟨(some 41), .mov (.tmp 7), none⟩, 0, 0, true⟩,
 ⟨⟨(some 42), .fieldAddr 0 (.tmp 1), none⟩, 0, 0, true⟩,
 ⟨⟨(some 43), .load none (.tmp 42), none⟩, 4, 1, true⟩,
 ⟨⟨(some 44), .bin .rem (.tmp 41) (.tmp 43), none⟩, 14, 0, true⟩,
 ⟨⟨(some 45), .mov (.tmp 7), none⟩, 0, 0, true⟩,
 ⟨⟨(some 46), .fieldAddr 0 (.tmp 1), none⟩, 0, 0, true⟩,
 ⟨⟨(some 47), .load none (.tmp 46), none⟩, 64, 1, true⟩,
 ⟨⟨(some 48), .bin .quo (.tmp 45) (.tmp 47), none⟩, 224, 0, true⟩,
 ⟨⟨(some 49), .call (.val (.func (.func 129) [] [])) [(.tmp 40), (.tmp 44), (.tmp 48)], none⟩, 511, 2, false⟩])
 (.cond (.tmp 49) (.seq (.region [⟨(some 50), .fieldAddr 2 (.tmp 5), none⟩,
 ⟨(some 51), .load none (.tmp 50), none⟩,
 ⟨(some 52), .mov (.tmp 7), none⟩,
 ⟨(some 53), .idxS 1 (.tmp 51) (.tmp 52), none⟩,
 ⟨none, .store 1 (.tmp 53) (.val (.int .u8 0)), none⟩])
 (.dregion [⟨⟨(some 54), .load (some 3) (.tmp 5), none⟩, 0, 1, true⟩,
 ⟨⟨(some 55), .mov (.tmp 6), none⟩, 0, 0, true⟩,
 ⟨⟨(some 56), .mov (.tmp 7), none⟩, 0, 0, true⟩,
 ⟨⟨(some 57), .fieldAddr 0 (.tmp 1), none⟩, 0, 0, true⟩,
 ⟨⟨(some 58), .load none (.tmp 57), none⟩, 8, 1, true⟩,
 ⟨⟨(some 59), .bin .rem (.tmp 56) (.tmp 58), none⟩, 28, 0, true⟩,
 ⟨⟨(some 60), .mov (.tmp 7), none⟩, 0, 0, true⟩,
 ⟨⟨(some 61), .fieldAddr 0 (.tmp 1), none⟩, 0, 0, true⟩,
 ⟨⟨(some 62), .load none (.tmp 61), none⟩, 128, 1, true⟩,
 ⟨⟨(some 63), .bin .quo (.tmp 60) (.tmp 62), none⟩, 448, 0, true⟩,
 ⟨⟨(some 64), .call (.val (.func (.func 130) [] [])) [(.tmp 54), (.tmp 55), (.tmp 59), (.tmp 63)], none⟩, 1023, 2, false⟩]))
 (.skip)))))))))
 (.region [⟨(some 20), .mov (.tmp 7), none⟩,
 ⟨(some 21), .bin .add (.tmp 20) (.val (.int .i64 1)), none⟩,
 ⟨(some 7), .mov (.tmp 21), none⟩]))))))))
 (.seq (.region [⟨(some 65), .load (some 3) (.tmp 5), none⟩,
 ⟨none, .store 3 (.tmp 2) (.tmp 65), none⟩,
 ⟨(some 3), .mov (.val (.int .i64 0)), none⟩])
 (.ret))))))))), [.cell 2 (some 3), .tmp 3]⟩
def c72 : RFunc := ⟨44, .code (.seq (.region [⟨(some 1), .box 24 (.tmp 0), none⟩,
 ⟨(some 2), .mov (.val (.str ⟨#[]⟩)), none⟩,
 ⟨(some 3), .mov (.val (.int .i64 0)), none⟩])
 (.seq (.seq (.region [⟨(some 9), .load (some 3) (.tmp 1), none⟩,
 ⟨(some 10), .call (.val (.func (.func 27) [] [])) [(.tmp 9)], none⟩,
 ⟨(some 4), .mov (.tmp 10), none⟩])
 (.seq (.region [⟨(some 11), .mov (.tmp 4), none⟩,
 ⟨(some 12), .bin .neq (.tmp 11) (.val (.int .i64 0)), none⟩])
 (.cond (.tmp 12) (.seq (.region [⟨(some 13), .mov (.tmp 4), none⟩,
 ⟨(some 2), .mov (.val (.str ⟨#[]⟩)), none⟩,
 ⟨(some 3), .mov (.tmp 13), none⟩])
 (.ret))
 (.skip))))
 (.seq (.region [⟨(some 5), .new 153 [.nptr, .nslice], none⟩])
 (.seq (.dregion [⟨⟨(some 14), .fieldAddr 0 (.tmp 1), none⟩, 0, 0, true⟩,
 ⟨⟨(some 15), .load none (.tmp 14), none⟩, 1, 1, true⟩,
 ⟨⟨(some 16), .call (.val (.func (.func 133) [] [])) [(.tmp 15)], none⟩, 3, 2, false⟩,
 ⟨⟨(some 17), .bin .add (.tmp 16) (.val (.str ⟨#[32]⟩)), none⟩, 7, 0, false⟩,
 ⟨⟨(some 18), .fieldAddr 1 (.tmp 1), none⟩, 0, 0, true⟩,
 ⟨⟨(some 19), .load none (.tmp 18), none⟩, 16, 1, true⟩,
 ⟨⟨(some 20), .call (.val (.func (.func 133) [] [])) [(.tmp 19)], none⟩, 55, 2, false⟩,
 ⟨⟨(some 21), .bin .add (.tmp 17) (.tmp 20), none⟩, 127, 0, false⟩,
 ⟨⟨(some 22), .bin .add (.tmp 21) (.val (.str ⟨#[10]⟩)), none⟩, 255, 0, false⟩,
 ⟨⟨(some 23), .call (.val (.func (.func 132) [] [])) [(.tmp 5), (.tmp 22)], none⟩, 511, 2, false⟩])
 (.seq (.seq (.region [⟨(some 24), .fieldAddr 1 (.tmp 1), none⟩,
 ⟨(some 25), .load none (.tmp 24), none⟩,
 ⟨(some 26), .mov (.val (.int .i64 0)), none⟩])
 (.block 0 (.loop (.seq (.region [⟨(some 27), .bin .lss (.tmp 26) (.tmp 25), none⟩])
 (.seq (.cond (.tmp 27) (.skip)
 (.exit 0))
 (.seq (.block 1 (.seq (.region [⟨(some 28), .mov (.tmp 26), none⟩,
 ⟨(some 6), .mov (.tmp 28), none⟩])
 (.seq (.seq (.region [⟨(some 29), .load (some 3) (.tmp 1), none⟩,
 ⟨(some 30), .mov (.tmp 6), none⟩,
 ⟨(some 31), .call (.val (.func (.func 118) [] [])) [(.tmp 29), (.tmp 30)], none⟩,
 ⟨(some 32), .lenS (.tmp 31), none⟩,
 ⟨(some 33), .mov (.val (.int .i64 0)), none⟩])
 (.block 2 (.loop (.seq (.region [⟨(some 34), .bin .lss (.tmp 33) (.tmp 32), none⟩])
 (.seq (.cond (.tmp 34) (.skip)
 (.exit 2))
 (.seq (.block 3 (.seq (.region [⟨(some 35), .idxS 1 (.tmp 31) (.tmp 33), none⟩,
 ⟨(some 36), .load none (.tmp 35), none⟩,
 ⟨(some 8), .mov (.tmp 36), none⟩])
 (.region [⟨(some 37), .mov (.tmp 8), none⟩,
 ⟨(some 38), .indexStr (.val (.str ⟨#[46, 35]⟩)) (.tmp 37), none⟩,
 ⟨(some 39), .call (.val (.func (.func 134) [] [])) [(.tmp 5), (.tmp 38)], none⟩])))
 (.region [⟨(some 40), .bin .add (.tmp 33) (.val (.int .i64 1)), none⟩,
 ⟨(some 33), .mov (.tmp 40), none⟩])))))))
 (.region [⟨(some 41), .call (.val (.func (.func 134) [] [])) [(.tmp 5), (.val (.int .u8 10))], none⟩]))))
 (.region [⟨(some 42), .bin .add (.tmp 26) (.val (.int .i64 1)), none⟩,
 ⟨(some 26), .mov (.tmp 42), none⟩])))))))
 (.seq (.region [⟨(some 43), .call (.val (.func (.func 135) [] [])) [(.tmp 5)], none⟩,
 ⟨(some 2), .mov (.tmp 43), none⟩,
 ⟨(some 3), .mov (.val (.int .i64 0)), none⟩])
 (.ret))))))), [.tmp 2, .tmp 3]⟩
def c77 : RFunc := ⟨35, .code (.seq (.region [⟨(some 2), .box 24 (.tmp 0), none⟩,
 ⟨(some 4), .new 24 [(.int .i64 0), (.int .i64 0), .nslice], none⟩,
 ⟨(some 5), .mov (.val (.int .i64 0)), none⟩])
 (.seq (.seq (.region [⟨(some 8), .load (some 3) (.tmp 2), none⟩,
 ⟨(some 9), .call (.val (.func (.func 27) [] [])) [(.tmp 8)], none⟩,
 ⟨(some 6), .mov (.tmp 9), none⟩])
 (.seq (.region [⟨(some 10), .mov (.tmp 6), none⟩,
 ⟨(some 11), .bin .neq (.tmp 10) (.val (.int .i64 0)), none⟩])
 (.cond (.tmp 11) (.seq (.region [⟨(some 12), .build [(.int .i64 0), (.int .i64 0), .nslice] [], none⟩,
 ⟨(some 13), .mov (.tmp 6), none⟩,
 ⟨none, .store 3 (.tmp 4) (.tmp 12), none⟩,
 ⟨(some 5), .mov (.tmp 13), none⟩])
 (.ret))
 (.skip))))
 (.seq (.seq (.region [⟨(some 14), .mov (.tmp 1), none⟩,
 ⟨(some 15), .bin .lss (.tmp 14) (.val (.int .i64 0)), none⟩,
 ⟨(some 16), .mov (.tmp 15), none⟩,
 ⟨(some 17), .mov (.tmp 1), some (16, false)⟩,
 ⟨(some 18), .bin .gtr (.tmp 17) (.val (.int .i64 7)), some (16, false)⟩,
 ⟨(some 19), .pick (.tmp 16) (.val (.bool true)) (.tmp 18), none⟩])
 (.cond (.tmp 19) (.seq (.region [⟨(some 20), .build [(.int .i64 0), (.int .i64 0), .nslice] [], none⟩,
 ⟨none, .store 3 (.tmp 4) (.tmp 20), none⟩,
 ⟨(some 5), .mov (.val (.int .i64 1)), none⟩])
 (.ret))
 (.skip)))
 (.seq (.region [⟨(some 21), .load (some 3) (.tmp 2), none⟩,
 ⟨(some 22), .call (.val (.func (.func 98) [] [])) [(.tmp 21)], none⟩,
 ⟨(some 7), .new 24 [(.int .i64 0), (.int .i64 0), .nslice], none⟩,
 ⟨none, .store 3 (.tmp 7) (.tmp 22), none⟩])
 (.seq (.seq (.region [⟨(some 23), .mov (.tmp 1), none⟩,
 ⟨(some 24), .bin .geq (.tmp 23) (.val (.int .i64 4)), none⟩])
 (.cond (.tmp 24) (.region [⟨(some 25), .load (some 3) (.tmp 7), none⟩,
 ⟨(some 26), .call (.val (.func (.func 142) [] [])) [(.tmp 25)], none⟩])
 (.skip)))
 (.seq (.seq (.region [⟨(some 27), .mov (.tmp 1), none⟩,
 ⟨(some 28), .bin .rem (.tmp 27) (.val (.int .i64 4)), none⟩,
 ⟨(some 29), .mov (.val (.int .i64 0)), none⟩])
 (.block 0 (.loop (.seq (.region [⟨(some 30), .bin .lss (.tmp 29) (.tmp 28), none⟩])
 (.seq (.cond (.tmp 30) (.skip)
 (.exit 0))
 (.seq (.block 1 (.region [⟨(some 31), .load (some 3) (.tmp 7), none⟩,
 ⟨(some 32), .call (.val (.func (.func 143) [] [])) [(.tmp 31)], none⟩,
 ⟨none, .store 3 (.tmp 7) (.tmp 32), none⟩]))
 (.region [⟨(some 33), .bin .add (.tmp 29) (.val (.int .i64 1)), none⟩,
 ⟨(some 29), .mov (.tmp 33), none⟩])))))))
 (.seq (.region [⟨(some 34), .load (some 3) (.tmp 7), none⟩,
 ⟨none, .store 3 (.tmp 4) (.tmp 34), none⟩,
 ⟨(some 5), .mov (.val (.int .i64 0)), none⟩])
 (.ret)))))))), [.cell 4 (some 3), .tmp 5]⟩
def c82 : RFunc := ⟨45, .code (.seq (.region [⟨(some 2), .box 24 (.tmp 0), none⟩,
 ⟨(some 3), .box 46 (.tmp 1), none⟩,
 ⟨(some 4), .new 24 [(.int .i64 0), (.int .i64 0), .nslice], none⟩,
 ⟨(some 5), .mov (.val (.int .i64 0)), none⟩])
 (.seq (.seq (.region [⟨(some 9), .load (some 3) (.tmp 2), none⟩,
 ⟨(some 10), .call (.val (.func (.func 27) [] [])) [(.tmp 9)], none⟩,
 ⟨(some 6), .mov (.tmp 10), none⟩])
 (.seq (.region [⟨(some 11), .mov (.tmp 6), none⟩,
 ⟨(some 12), .bin .neq (.tmp 11) (.val (.int .i64 0)), none⟩])
 (.cond (.tmp 12) (.seq (.region [⟨(some 13), .build [(.int .i64 0), (.int .i64 0), .nslice] [], none⟩,
 ⟨(some 14), .mov (.tmp 6), none⟩,
 ⟨none, .store 3 (.tmp 4) (.tmp 13), none⟩,
 ⟨(some 5), .mov (.tmp 14), none⟩])
 (.ret))
 (.skip))))
 (.seq (.seq (.region [⟨(some 15), .load (some 4) (.tmp 3), none⟩,
 ⟨(some 16), .load (some 3) (.tmp 2), none⟩,
 ⟨(some 17), .call (.val (.func (.func 146) [] [])) [(.tmp 15), (.tmp 16)], none⟩,
 ⟨(some 18), .un .not (.tmp 17), none⟩])
 (.cond (.tmp 18) (.seq (.region [⟨(some 19), .build [(.int .i64 0), (.int .i64 0), .nslice] [], none⟩,
 ⟨none, .store 3 (.tmp 4) (.tmp 19), none⟩,
 ⟨(some 5), .mov (.val (.int .i64 1)), none⟩])
 (.ret))
 (.skip)))
 (.seq (.region [⟨(some 20), .fieldAddr 2 (.tmp 3), none⟩,
 ⟨(some 21), .load none (.tmp 20), none⟩,
 ⟨(some 22), .fieldAddr 3 (.tmp 3), none⟩,
 ⟨(some 23), .load none (.tmp 22), none⟩,
 ⟨(some 24), .call (.val (.func (.func 103) [] [])) [(.tmp 21), (.tmp 23)], none⟩,
 ⟨(some 7), .new 24 [(.int .i64 0), (.int .i64 0), .nslice], none⟩,
 ⟨none, .store 3 (.tmp 7) (.tmp 24), none⟩])
 (.seq (.seq (.region [⟨(some 25), .fieldAddr 3 (.tmp 3), none⟩,
 ⟨(some 26), .load none (.tmp 25), none⟩,
 ⟨(some 27), .mov (.val (.int .i64 0)), none⟩])
 (.block 0 (.loop (.seq (.region [⟨(some 28), .bin .lss (.tmp 27) (.tmp 26), none⟩])
 (.seq (.cond (.tmp 28) (.skip)
 (.exit 0))
 (.seq (.block 1 (.seq (.region [⟨(some 29), .mov (.tmp 27), none⟩,
 ⟨(some 8), .mov (.tmp 29), none⟩])
 (.dregion [⟨⟨(some 30), .load (some 3) (.tmp 7), none⟩, 0, 1, true⟩,
 ⟨⟨(some 31), .mov (.tmp 8), none⟩, 0, 0, true⟩,
 ⟨⟨(some 32), .call (.val (.func (.func 118) [] [])) [(.tmp 30), (.tmp 31)], none⟩, 3, 2, false⟩,
 ⟨⟨(some 33), .load (some 3) (.tmp 2), none⟩, 0, 1, true⟩,
 ⟨⟨(some 34), .fieldAddr 1 (.tmp 3), none⟩, 0, 0, true⟩,
 ⟨⟨(some 35), .load none (.tmp 34), none⟩, 16, 1, true⟩,
 ⟨⟨(some 36), .mov (.tmp 8), none⟩, 0, 0, true⟩,
 ⟨⟨(some 37), .bin .add (.tmp 35) (.tmp 36), none⟩, 112, 0, true⟩,
 ⟨⟨(some 38), .call (.val (.func (.func 118) [] [])) [(.tmp 33), (.tmp 37)], none⟩, 255, 2, false⟩,
 ⟨⟨(some 39), .fieldAddr 0 (.tmp 3), none⟩, 0, 0, true⟩,
 ⟨⟨(some 40), .load none (.tmp 39), none⟩, 512, 1, true⟩,
 ⟨⟨(some 41), .sliceS 1 (.tmp 38) (some (.tmp 40)) none none, none⟩, 2047, 2, false⟩,
 ⟨⟨(some 42), .copy 1 (.tmp 32) (.tmp 41), none⟩, 4095, 2, false⟩])))
 (.region [⟨(some 43), .bin .add (.tmp 27) (.val (.int .i64 1)), none⟩,
 ⟨(some 27), .mov (.tmp 43), none⟩])))))))
 (.seq (.region [⟨(some 44), .load (some 3) (.tmp 7), none⟩,
 ⟨none, .store 3 (.tmp 4) (.tmp 44), none⟩,
 ⟨(some 5), .mov (.val (.int .i64 0)), none⟩])
 (.ret))))))), [.cell 4 (some 3), .tmp 5]⟩
def c83 : RFunc := ⟨57, .code (.seq (.region [⟨(some 4), .box 24 (.tmp 0), none⟩,
 ⟨(some 5), .box 24 (.tmp 1), none⟩,
 ⟨(some 8), .new 24 [(.int .i64 0), (.int .i64 0), .nslice], none⟩,
 ⟨(some 9), .mov (.val (.int .i64 0)), none⟩])
 (.seq (.seq (.region [⟨(some 14), .load (some 3) (.tmp 4), none⟩,
 ⟨(some 15), .call (.val (.func (.func 27) [] [])) [(.tmp 14)], none⟩,
 ⟨(some 10), .mov (.tmp 15), none⟩])
 (.seq (.region [⟨(some 16), .mov (.tmp 10), none⟩,
 ⟨(some 17), .bin .neq (.tmp 16) (.val (.int .i64 0)), none⟩])
 (.cond (.tmp 17) (.seq (.region [⟨(some 18), .build [(.int .i64 0), (.int .i64 0), .nslice] [], none⟩,
 ⟨(some 19), .mov (.tmp 10), none⟩,
 ⟨none, .store 3 (.tmp 8) (.tmp 18), none⟩,
 ⟨(some 9), .mov (.tmp 19), none⟩])
 (.ret))
 (.skip))))
 (.seq (.seq (.region [⟨(some 20), .load (some 3) (.tmp 5), none⟩,
 ⟨(some 21), .call (.val (.func (.func 27) [] [])) [(.tmp 20)], none⟩,
 ⟨(some 11), .mov (.tmp 21), none⟩])
 (.seq (.region [⟨(some 22), .mov (.tmp 11), none⟩,
 ⟨(some 23), .bin .neq (.tmp 22) (.val (.int .i64 0)), none⟩])
 (.cond (.tmp 23) (.seq (.region [⟨(some 24), .build [(.int .i64 0), (.int .i64 0), .nslice] [], none⟩,
 ⟨(some 25), .mov (.tmp 11), none⟩,
 ⟨none, .store 3 (.tmp 8) (.tmp 24), none⟩,
 ⟨(some 9), .mov (.tmp 25), none⟩])
 (.ret))
 (.skip))))
 (.seq (.seq (.region [⟨(some 26), .mov (.tmp 2), none⟩,
 ⟨(some 27), .mov (.tmp 3), none⟩,
 ⟨(some 28), .fieldAddr 0 (.tmp 5), none⟩,
 ⟨(some 29), .load none (.tmp 28), none⟩,
 ⟨(some 30), .fieldAddr 1 (.tmp 5), none⟩,
 ⟨(some 31), .load none (.tmp 30), none⟩,
 ⟨(some 32), .build [(.int .i64 0), (.int .i64 0), (.int .i64 0), (.int .i64 0)] [(0, 1, (.tmp 26)), (1, 1, (.tmp 27)), (2, 1, (.tmp 29)), (3, 1, (.tmp 31))], none⟩,
 ⟨(some 33), .load (some 3) (.tmp 4), none⟩,
 ⟨(some 34), .call (.val (.func (.func 146) [] [])) [(.tmp 32), (.tmp 33)], none⟩,
 ⟨(some 35), .un .not (.tmp 34), none⟩])
 (.cond (.tmp 35) (.seq (.region [⟨(some 36), .build [(.int .i64 0), (.int .i64 0), .nslice] [], none⟩,
 ⟨none, .store 3 (.tmp 8) (.tmp 36), none⟩,
 ⟨(some 9), .mov (.val (.int .i64 1)), none⟩])
 (.ret))
 (.skip)))
 (.seq (.region [⟨(some 37), .load (some 3) (.tmp 4), none⟩,
 ⟨(some 38), .call (.val (.func (.func 98) [] [])) [(.tmp 37)], none⟩,
 ⟨(some 12), .new 24 [(.int .i64 0), (.int .i64 0), .nslice], none⟩,
 ⟨none, .store 3 (.tmp 12) (.tmp 38), none⟩])
 (.seq (.seq (.region [⟨(some 39), .fieldAddr 1 (.tmp 5), none⟩,
 ⟨(some 40), .load none (.tmp 39), none⟩,
 ⟨(some 41), .mov (.val (.int .i64 0)), none⟩])
 (.block 0 (.loop (.seq (.region [⟨(some 42), .bin .lss (.tmp 41) (.tmp 40), none⟩])
 (.seq (.cond (.tmp 42) (.skip)
 (.exit 0))
 (.seq (.block 1 (.seq (.region [⟨(some 43), .mov (.tmp 41), none⟩,
 ⟨(some 13), .mov (.tmp 43), none⟩])
 (.dregion [⟨⟨(some 44), .load (some 3) (.tmp 12), none⟩, 0, 1, true⟩,
 ⟨⟨(some 45), .mov (.tmp 3), none⟩, 0, 0, true⟩,
 ⟨⟨(some 46), .mov (.tmp 13), none⟩, 0, 0, true⟩,
 ⟨⟨(some 47), .bin .add (.tmp 45) (.tmp 46), none⟩, 6, 0, true⟩,
 ⟨⟨(some 48), .call (.val (.func (.func 118) [] [])) [(.tmp 44), (.tmp 47)], none⟩, 15, 2, false⟩,
 ⟨⟨(some 49), .mov (.tmp 2), none⟩, 0, 0, true⟩,
 ⟨⟨(some 50), .sliceS 1 (.tmp 48) (some (.tmp 49)) none none, none⟩, 63, 1, false⟩,
 ⟨⟨(some 51), .load (some 3) (.tmp 5), none⟩, 0, 1, true⟩,
 ⟨⟨(some 52), .mov (.tmp 13), none⟩, 0, 0, true⟩,
 ⟨⟨(some 53), .call (.val (.func (.func 118) [] [])) [(.tmp 51), (.tmp 52)], none⟩, 415, 2, false⟩,
 ⟨⟨(some 54), .copy 1 (.tmp 50) (.tmp 53), none⟩, 1023, 2, false⟩])))
 (.region [⟨(some 55), .bin .add (.tmp 41) (.val (.int .i64 1)), none⟩,
 ⟨(some 41), .mov (.tmp 55), none⟩])))))))
 (.seq (.region [⟨(some 56), .load (some 3) (.tmp 12), none⟩,
 ⟨none, .store 3 (.tmp 8) (.tmp 56), none⟩,
 ⟨(some 9), .mov (.val (.int .i64 0)), none⟩])
 (.ret)))))))), [.cell 8 (some 3), .tmp 9]⟩
def c85 : RFunc := ⟨11, .code (.seq (.region [⟨(some 2), .box 24 (.tmp 0), none⟩,
 ⟨(some 3), .box 24 (.tmp 1), none⟩,
 ⟨(some 4), .new 24 [(.int .i64 0), (.int .i64 0), .nslice], none⟩,
 ⟨(some 5), .mov (.val (.int .i64 0)), none⟩])
 (.seq (.region [⟨(some 6), .load (some 3) (.tmp 2), none⟩,
 ⟨(some 7), .load (some 3) (.tmp 3), none⟩,
 ⟨(some 8), .call (.val (.func (.func 100) [] [])) [(.tmp 6), (.tmp 7), (.val (.func (.func 147) [] []))], none⟩,
 ⟨(some 9), .extract (.tmp 8) 0, none⟩,
 ⟨(some 10), .extract (.tmp 8) 1, none⟩,
 ⟨none, .store 3 (.tmp 4) (.tmp 9), none⟩,
 ⟨(some 5), .mov (.tmp 10), none⟩])
 (.ret))), [.cell 4 (some 3), .tmp 5]⟩
def c86 : RFunc := ⟨11, .code (.seq (.region [⟨(some 2), .box 24 (.tmp 0), none⟩,
 ⟨(some 3), .box 24 (.tmp 1), none⟩,
 ⟨(some 4), .new 24 [(.int .i64 0), (.int .i64 0), .nslice], none⟩,
 ⟨(some 5), .mov (.val (.int .i64 0)), none⟩])
 (.seq (.region [⟨(some 6), .load (some 3) (.tmp 2), none⟩,
 ⟨(some 7), .load (some 3) (.tmp 3), none⟩,
 ⟨(some 8), .call (.val (.func (.func 100) [] [])) [(.tmp 6), (.tmp 7), (.val (.func (.func 148) [] []))], none⟩,
 ⟨(some 9), .extract (.tmp 8) 0, none⟩,
 ⟨(some 10), .extract (.tmp 8) 1, none⟩,
 ⟨none, .store 3 (.tmp 4) (.tmp 9), none⟩,
 ⟨(some 5), .mov (.tmp 10), none⟩])
 (.ret))), [.cell 4 (some 3), .tmp 5]⟩
def c87 : RFunc := ⟨11, .code (.seq (.region [⟨(some 2), .box 24 (.tmp 0), none⟩,
 ⟨(some 3), .box 24 (.tmp 1), none⟩,
 ⟨(some 4), .new 24 [(.int .i64 0), (.int .i64 0), .nslice], none⟩,
 ⟨(some 5), .mov (.val (.int .i64 0)), none⟩])
 (.seq (.region [⟨(some 6), .load (some 3) (.tmp 2), none⟩,
 ⟨(some 7), .load (some 3) (.tmp 3), none⟩,
 ⟨(some 8), .call (.val (.func (.func 100) [] [])) [(.tmp 6), (.tmp 7), (.val (.func (.func 149) [] []))], none⟩,
 ⟨(some 9), .extract (.tmp 8) 0, none⟩,
 ⟨(some 10), .extract (.tmp 8) 1, none⟩,
 ⟨none, .store 3 (.tmp 4) (.tmp 9), none⟩,
 ⟨(some 5), .mov (.tmp 10), none⟩])
 (.ret))), [.cell 4 (some 3), .tmp 5]⟩
def c92 : RFunc := ⟨9, .code (.seq (.region [⟨(some 4), .mov (.val (.bool false)), none⟩])
 (.seq (.region [⟨(some 5), .mov (.tmp 0), none⟩,
 ⟨(some 6), .mov (.tmp 1), none⟩,
 ⟨(some 7), .call (.val (.func (.func 152) [] [])) [(.tmp 5), (.tmp 6)], none⟩,
 ⟨(some 8), .bin .geq (.tmp 7) (.val (.int .i64 0)), none⟩,
 ⟨(some 4), .mov (.tmp 8), none⟩])
 (.ret))), [.tmp 4]⟩
def c93 : RFunc := ⟨7, .code (.seq (.region [⟨(some 1), .box 24 (.tmp 0), none⟩,
 ⟨(some 2), .mov (.val (.bool false)), none⟩])
 (.seq (.region [⟨(some 3), .fieldAddr 2 (.tmp 1), none⟩,
 ⟨(some 4), .load none (.tmp 3), none⟩,
 ⟨(some 5), .lenS (.tmp 4), none⟩,
 ⟨(some 6), .bin .gtr (.tmp 5) (.val (.int .i64 4000)), none⟩,
 ⟨(some 2), .mov (.tmp 6), none⟩])
 (.ret))), [.tmp 2]⟩
def c94 : RFunc := ⟨3, .code (.seq (.region [⟨(some 0), .new 24 [(.int .i64 0), (.int .i64 0), .nslice], none⟩])
 (.seq (.region [⟨(some 1), .buildSlice 5 1 6 [(.int .u8 0), (.int .u8 0), (.int .u8 0), (.int .u8 0), (.int .u8 0), (.int .u8 0)] [(0, 1, (.val (.int .u8 1))), (1, 1, (.val (.int .u8 0))), (2, 1, (.val (.int .u8 1))), (3, 1, (.val (.int .u8 0))), (4, 1, (.val (.int .u8 1))), (5, 1, (.val (.int .u8 0)))], none⟩,
 ⟨(some 2), .build [(.int .i64 0), (.int .i64 0), .nslice] [(0, 1, (.val (.int .i64 3))), (1, 1, (.val (.int .i64 2))), (2, 1, (.tmp 1))], none⟩,
 ⟨none, .store 3 (.tmp 0) (.tmp 2), none⟩])
 (.ret))), [.cell 0 (some 3)]⟩
def c95 : RFunc := ⟨7, .code (.seq (.region [⟨(some 2), .mov (.val .nslice), none⟩])
 (.seq (.region [⟨(some 3), .mov (.val .nslice), none⟩])
 (.seq (.region [⟨(some 4), .mov (.tmp 3), none⟩,
 ⟨(some 5), .mov (.tmp 0), none⟩,
 ⟨(some 6), .append 5 1 1 (.tmp 4) (.tmp 5), none⟩,
 ⟨(some 2), .mov (.tmp 6), none⟩])
 (.ret)))), [.tmp 2]⟩
def c96 : RFunc := ⟨19, .code (.seq (.region [⟨(some 4), .mov (.val (.bool false)), none⟩])
 (.seq (.region [⟨(some 5), .mov (.tmp 0), none⟩,
 ⟨(some 6), .bin .geq (.tmp 5) (.val (.int .i64 0)), none⟩,
 ⟨(some 7), .mov (.tmp 6), none⟩,
 ⟨(some 8), .mov (.tmp 0), some (7, true)⟩,
 ⟨(some 9), .bin .leq (.tmp 8) (.val (.int .i64 640)), some (7, true)⟩,
 ⟨(some 10), .pick (.tmp 7) (.tmp 9) (.val (.bool false)), none⟩,
 ⟨(some 11), .mov (.tmp 10), none⟩,
 ⟨(some 12), .mov (.tmp 1), some (11, true)⟩,
 ⟨(some 13), .bin .geq (.tmp 12) (.val (.int .i64 0)), some (11, true)⟩,
 ⟨(some 14), .pick (.tmp 11) (.tmp 13) (.val (.bool false)), none⟩,
 ⟨(some 15), .mov (.tmp 14), none⟩,
 ⟨(some 16), .mov (.tmp 1), some (15, true)⟩,
 ⟨(some 17), .bin .leq (.tmp 16) (.val (.int .i64 640)), some (15, true)⟩,
 ⟨(some 18), .pick (.tmp 15) (.tmp 17) (.val (.bool false)), none⟩,
 ⟨(some 4), .mov (.tmp 18), none⟩])
 (.ret))), [.tmp 4]⟩
def c97 : RFunc := ⟨7, .code (.seq (.region [⟨(some 1), .box 24 (.tmp 0), none⟩,
 ⟨(some 2), .mov (.val (.int .i64 0)), none⟩])
 (.seq (.region [⟨(some 3), .fieldAddr 2 (.tmp 1), none⟩,
 ⟨(some 4), .load none (.tmp 3), none⟩,
 ⟨(some 5), .buildSlice 5 1 1 [(.int .u8 0)] [(0, 1, (.val (.int .u8 1)))], none⟩,
 ⟨(some 6), .call (.val (.func (.func 107) [] [])) [(.tmp 4), (.tmp 5)], none⟩,
 ⟨(some 2), .mov (.tmp 6), none⟩])
 (.ret))), [.tmp 2]⟩
def c98 : RFunc := ⟨11, .code (.seq (.region [⟨(some 1), .box 24 (.tmp 0), none⟩,
 ⟨(some 2), .new 24 [(.int .i64 0), (.int .i64 0), .nslice], none⟩])
 (.seq (.dregion [⟨⟨(some 3), .fieldAddr 0 (.tmp 1), none⟩, 0, 0, true⟩,
 ⟨⟨(some 4), .load none (.tmp 3), none⟩, 1, 1, true⟩,
 ⟨⟨(some 5), .fieldAddr 1 (.tmp 1), none⟩, 0, 0, true⟩,
 ⟨⟨(some 6), .load none (.tmp 5), none⟩, 4, 1, true⟩,
 ⟨⟨(some 7), .fieldAddr 2 (.tmp 1), none⟩, 0, 0, true⟩,
 ⟨⟨(some 8), .load none (.tmp 7), none⟩, 16, 1, true⟩,
 ⟨⟨(some 9), .call (.val (.func (.func 127) [] [])) [(.tmp 8)], none⟩, 48, 2, false⟩,
 ⟨⟨(some 10), .build [(.int .i64 0), (.int .i64 0), .nslice] [(0, 1, (.tmp 4)), (1, 1, (.tmp 6)), (2, 1, (.tmp 9))], none⟩, 127, 0, false⟩,
 ⟨⟨none, .store 3 (.tmp 2) (.tmp 10), none⟩, 255, 2, false⟩])
 (.ret))), [.cell 2 (some 3)]⟩
def c100 : RFunc := ⟨65, .code (.seq (.region [⟨(some 3), .box 24 (.tmp 0), none⟩,
 ⟨(some 4), .box 24 (.tmp 1), none⟩,
 ⟨(some 6), .new 24 [(.int .i64 0), (.int .i64 0), .nslice], none⟩,
 ⟨(some 7), .mov (.val (.int .i64 0)), none⟩])
 (.seq (.seq (.region [⟨(some 13), .load (some 3) (.tmp 3), none⟩,
 ⟨(some 14), .call (.val (.func (.func 27) [] [])) [(.tmp 13)], none⟩,
 ⟨(some 8), .mov (.tmp 14), none⟩])
 (.seq (.region [⟨(some 15), .mov (.tmp 8), none⟩,
 ⟨(some 16), .bin .neq (.tmp 15) (.val (.int .i64 0)), none⟩])
 (.cond (.tmp 16) (.seq (.region [⟨(some 17), .build [(.int .i64 0), (.int .i64 0), .nslice] [], none⟩,
 ⟨(some 18), .mov (.tmp 8), none⟩,
 ⟨none, .store 3 (.tmp 6) (.tmp 17), none⟩,
 ⟨(some 7), .mov (.tmp 18), none⟩])
 (.ret))
 (.skip))))
 (.seq (.seq (.region [⟨(some 19), .load (some 3) (.tmp 4), none⟩,
 ⟨(some 20), .call (.val (.func (.func 27) [] [])) [(.tmp 19)], none⟩,
 ⟨(some 9), .mov (.tmp 20), none⟩])
 (.seq (.region [⟨(some 21), .mov (.tmp 9), none⟩,
 ⟨(some 22), .bin .neq (.tmp 21) (.val (.int .i64 0)), none⟩])
 (.cond (.tmp 22) (.seq (.region [⟨(some 23), .build [(.int .i64 0), (.int .i64 0), .nslice] [], none⟩,
 ⟨(some 24), .mov (.tmp 9), none⟩,
 ⟨none, .store 3 (.tmp 6) (.tmp 23), none⟩,
 ⟨(some 7), .mov (.tmp 24), none⟩])
 (.ret))
 (.skip))))
 (.seq (.seq (.region [⟨(some 25), .fieldAddr 0 (.tmp 3), none⟩,
 ⟨(some 26), .load none (.tmp 25), none⟩,
 ⟨(some 27), .fieldAddr 0 (.tmp 4), none⟩,
 ⟨(some 28), .load none (.tmp 27), none⟩,
 ⟨(some 29), .bin .neq (.tmp 26) (.tmp 28), none⟩,
 ⟨(some 30), .mov (.tmp 29), none⟩,
 ⟨(some 31), .fieldAddr 1 (.tmp 3), some (30, false)⟩,
 ⟨(some 32), .load none (.tmp 31), some (30, false)⟩,
 ⟨(some 33), .fieldAddr 1 (.tmp 4), some (30, false)⟩,
 ⟨(some 34), .load none (.tmp 33), some (30, false)⟩,
 ⟨(some 35), .bin .neq (.tmp 32) (.tmp 34), some (30, false)⟩,
 ⟨(some 36), .pick (.tmp 30) (.val (.bool true)) (.tmp 35), none⟩])
 (.cond (.tmp 36) (.seq (.region [⟨(some 37), .build [(.int .i64 0), (.int .i64 0), .nslice] [], none⟩,
 ⟨none, .store 3 (.tmp 6) (.tmp 37), none⟩,
 ⟨(some 7), .mov (.val (.int .i64 2)), none⟩])
 (.ret))
 (.skip)))
 (.seq (.region [⟨(some 38), .fieldAddr 0 (.tmp 3), none⟩,
 ⟨(some 39), .load none (.tmp 38), none⟩,
 ⟨(some 40), .fieldAddr 1 (.tmp 3), none⟩,
 ⟨(some 41), .load none (.tmp 40), none⟩,
 ⟨(some 42), .call (.val (.func (.func 103) [] [])) [(.tmp 39), (.tmp 41)], none⟩,
 ⟨(some 10), .new 24 [(.int .i64 0), (.int .i64 0), .nslice], none⟩,
 ⟨none, .store 3 (.tmp 10) (.tmp 42), none⟩])
 (.seq (.seq (.region [⟨(some 43), .fieldAddr 2 (.tmp 3), none⟩,
 ⟨(some 44), .load none (.tmp 43), none⟩,
 ⟨(some 45), .lenS (.tmp 44), none⟩,
 ⟨(some 46), .mov (.val (.int .i64 0)), none⟩])
 (.block 0 (.loop (.seq (.region [⟨(some 47), .bin .lss (.tmp 46) (.tmp 45), none⟩])
 (.seq (.cond (.tmp 47) (.skip)
 (.exit 0))
 (.seq (.block 1 (.seq (.region [⟨(some 48), .mov (.tmp 46), none⟩,
 ⟨(some 49), .idxS 1 (.tmp 44) (.tmp 46), none⟩,
 ⟨(some 50), .load none (.tmp 49), none⟩,
 ⟨(some 11), .mov (.tmp 48), none⟩,
 ⟨(some 12), .mov (.tmp 50), none⟩])
 (.dregion [⟨⟨(some 51), .fieldAddr 2 (.tmp 10), none⟩, 0, 0, true⟩,
 ⟨⟨(some 52), .load none (.tmp 51), none⟩, 1, 1, true⟩,
 ⟨⟨(some 53), .mov (.tmp 11), none⟩, 0, 0, true⟩,
 ⟨⟨(some 54), .mov (.tmp 2), none⟩, 0, 0, true⟩,
 ⟨⟨(some 55), .mov (.tmp 12), none⟩, 0, 0, true⟩,
 ⟨⟨(some 56), .fieldAddr 2 (.tmp 4), none⟩, 0, 0, true⟩,
 ⟨⟨(some 57), .load none (.tmp 56), none⟩, 32, 1, true⟩,
 ⟨⟨(some 58), .mov (.tmp 11), none⟩, 0, 0, true⟩,
 ⟨⟨(some 59), .idxS 1 (.tmp 57) (.tmp 58), none⟩, 224, 0, true⟩,
 ⟨⟨(some 60), .load none (.tmp 59), none⟩, 480, 1, true⟩,
 ⟨⟨(some 61), .call (.tmp 54) [(.tmp 55), (.tmp 60)], none⟩, 1016, 2, false⟩,
 ⟨⟨(some 62), .idxS 1 (.tmp 52) (.tmp 53), none⟩, 2047, 0, true⟩,
 ⟨⟨none, .store 1 (.tmp 62) (.tmp 61), none⟩, 4095, 2, false⟩])))
 (.region [⟨(some 63), .bin .add (.tmp 46) (.val (.int .i64 1)), none⟩,
 ⟨(some 46), .mov (.tmp 63), none⟩])))))))
 (.seq (.region [⟨(some 64), .load (some 3) (.tmp 10), none⟩,
 ⟨none, .store 3 (.tmp 6) (.tmp 64), none⟩,
 ⟨(some 7), .mov (.val (.int .i64 0)), none⟩])
 (.ret)))))))), [.cell 6 (some 3), .tmp 7]⟩
def c101 : RFunc := ⟨8, .code (.seq (.region [⟨(some 4), .mov (.val (.int .u8 0)), none⟩])
 (.seq (.region [⟨(some 5), .mov (.tmp 0), none⟩,
 ⟨(some 6), .mov (.tmp 1), none⟩,
 ⟨(some 7), .bin .xor (.tmp 5) (.tmp 6), none⟩,
 ⟨(some 4), .mov (.tmp 7), none⟩])
 (.ret))), [.tmp 4]⟩
def c102 : RFunc := ⟨9, .code (.seq (.region [⟨(some 2), .mov (.val (.bool false)), none⟩])
 (.seq (.region [⟨(some 3), .mov (.tmp 0), none⟩,
 ⟨(some 4), .bin .geq (.tmp 3) (.val (.int .i64 0)), none⟩,
 ⟨(some 5), .mov (.tmp 4), none⟩,
 ⟨(some 6), .mov (.tmp 0), some (5, true)⟩,
 ⟨(some 7), .bin .leq (.tmp 6) (.val (.int .i64 640)), some (5, true)⟩,
 ⟨(some 8), .pick (.tmp 5) (.tmp 7) (.val (.bool false)), none⟩,
 ⟨(some 2), .mov (.tmp 8), none⟩])
 (.ret))), [.tmp 2]⟩
def c103 : RFunc := ⟨12, .code (.seq (.region [⟨(some 4), .new 24 [(.int .i64 0), (.int .i64 0), .nslice], none⟩])
 (.seq (.region [⟨(some 5), .mov (.tmp 0), none⟩,
 ⟨(some 6), .mov (.tmp 1), none⟩,
 ⟨(some 7), .mov (.tmp 0), none⟩,
 ⟨(some 8), .mov (.tmp 1), none⟩,
 ⟨(some 9), .bin .mul (.tmp 7) (.tmp 8), none⟩,
 ⟨(some 10), .makeSlice 5 [(.int .u8 0)] 1 (.tmp 9) (.tmp 9), none⟩,
 ⟨(some 11), .build [(.int .i64 0), (.int .i64 0), .nslice] [(0, 1, (.tmp 5)), (1, 1, (.tmp 6)), (2, 1, (.tmp 10))], none⟩,
 ⟨none, .store 3 (.tmp 4) (.tmp 11), none⟩])
 (.ret))), [.cell 4 (some 3)]⟩
def c104 : RFunc := ⟨12, .code (.seq (.region [⟨(some 4), .new 24 [(.int .i64 0), (.int .i64 0), .nslice], none⟩])
 (.seq (.region [⟨(some 5), .mov (.tmp 0), none⟩,
 ⟨(some 6), .mov (.tmp 1), none⟩,
 ⟨(some 7), .mov (.tmp 0), none⟩,
 ⟨(some 8), .mov (.tmp 1), none⟩,
 ⟨(some 9), .bin .mul (.tmp 7) (.tmp 8), none⟩,
 ⟨(some 10), .makeSlice 5 [(.int .u8 0)] 1 (.tmp 9) (.tmp 9), none⟩,
 ⟨(some 11), .build [(.int .i64 0), (.int .i64 0), .nslice] [(0, 1, (.tmp 5)), (1, 1, (.tmp 6)), (2, 1, (.tmp 10))], none⟩,
 ⟨none, .store 3 (.tmp 4) (.tmp 11), none⟩])
 (.ret))), [.cell 4 (some 3)]⟩
def c105 : RFunc := ⟨15, .code (.seq (.region [⟨(some 3), .box 24 (.tmp 0), none⟩])
 (.region [⟨(some 6), .fieldAddr 2 (.tmp 3), none⟩,
 ⟨(some 7), .load none (.tmp 6), none⟩,
 ⟨(some 8), .mov (.tmp 2), none⟩,
 ⟨(some 9), .fieldAddr 0 (.tmp 3), none⟩,
 ⟨(some 10), .load none (.tmp 9), none⟩,
 ⟨(some 11), .bin .mul (.tmp 8) (.tmp 10), none⟩,
 ⟨(some 12), .mov (.tmp 1), none⟩,
 ⟨(some 13), .bin .add (.tmp 11) (.tmp 12), none⟩,
 ⟨(some 14), .idxS 1 (.tmp 7) (.tmp 13), none⟩,
 ⟨none, .store 1 (.tmp 14) (.val (.int .u8 1)), none⟩])), []⟩
def c106 : RFunc := ⟨20, .code (.seq (.region [⟨(some 6), .mov (.val (.bool false)), none⟩])
 (.seq (.region [⟨(some 7), .mov (.tmp 0), none⟩,
 ⟨(some 8), .call (.val (.func (.func 102) [] [])) [(.tmp 7)], none⟩,
 ⟨(some 9), .mov (.tmp 8), none⟩,
 ⟨(some 10), .mov (.tmp 1), some (9, true)⟩,
 ⟨(some 11), .call (.val (.func (.func 102) [] [])) [(.tmp 10)], some (9, true)⟩,
 ⟨(some 12), .pick (.tmp 9) (.tmp 11) (.val (.bool false)), none⟩,
 ⟨(some 13), .mov (.tmp 12), none⟩,
 ⟨(some 14), .mov (.tmp 2), some (13, true)⟩,
 ⟨(some 15), .mov (.tmp 0), some (13, true)⟩,
 ⟨(some 16), .mov (.tmp 1), some (13, true)⟩,
 ⟨(some 17), .bin .mul (.tmp 15) (.tmp 16), some (13, true)⟩,
 ⟨(some 18), .bin .eql (.tmp 14) (.tmp 17), some (13, true)⟩,
 ⟨(some 19), .pick (.tmp 13) (.tmp 18) (.val (.bool false)), none⟩,
 ⟨(some 6), .mov (.tmp 19), none⟩])
 (.ret))), [.tmp 6]⟩
def c107 : RFunc := ⟨35, .code (.seq (.region [⟨(some 4), .mov (.val (.int .i64 0)), none⟩])
 (.seq (.seq (.region [⟨(some 7), .mov (.tmp 1), none⟩,
 ⟨(some 8), .lenS (.tmp 7), none⟩,
 ⟨(some 9), .bin .eql (.tmp 8) (.val (.int .i64 0)), none⟩])
 (.cond (.tmp 9) (.seq (.region [⟨(some 10), .mov (.tmp 0), none⟩,
 ⟨(some 11), .call (.val (.func (.func 153) [] [])) [(.tmp 10)], none⟩,
 ⟨(some 12), .bin .add (.tmp 11) (.val (.int .i64 1)), none⟩,
 ⟨(some 4), .mov (.tmp 12), none⟩])
 (.ret))
 (.skip)))
 (.seq (.seq (.region [⟨(some 13), .mov (.tmp 1), none⟩,
 ⟨(some 14), .lenS (.tmp 13), none⟩,
 ⟨(some 15), .bin .eql (.tmp 14) (.val (.int .i64 1)), none⟩])
 (.cond (.tmp 15) (.seq (.region [⟨(some 16), .mov (.tmp 0), none⟩,
 ⟨(some 17), .mov (.tmp 1), none⟩,
 ⟨(some 18), .idxS 1 (.tmp 17) (.val (.int .i64 0)), none⟩,
 ⟨(some 19), .load none (.tmp 18), none⟩,
 ⟨(some 20), .call (.val (.func (.func 154) [] [])) [(.tmp 16), (.tmp 19)], none⟩,
 ⟨(some 4), .mov (.tmp 20), none⟩])
 (.ret))
 (.skip)))
 (.seq (.region [⟨(some 5), .mov (.val (.int .i64 0)), none⟩])
 (.block 0 (.loop (.block 1 (.seq (.region [⟨(some 21), .mov (.tmp 0), none⟩,
 ⟨(some 22), .mov (.tmp 1), none⟩,
 ⟨(some 23), .call (.val (.func (.func 155) [] [])) [(.tmp 21), (.tmp 22)], none⟩,
 ⟨(some 6), .mov (.tmp 23), none⟩])
 (.seq (.seq (.region [⟨(some 24), .mov (.tmp 6), none⟩,
 ⟨(some 25), .bin .eql (.tmp 24) (.val (.int .i64 (-1))), none⟩])
 (.cond (.tmp 25) (.seq (.region [⟨(some 26), .mov (.tmp 5), none⟩,
 ⟨(some 4), .mov (.tmp 26), none⟩])
 (.ret))
 (.skip)))
 (.seq (.region [⟨(some 27), .mov (.tmp 5), none⟩,
 ⟨(some 28), .bin .add (.tmp 27) (.val (.int .i64 1)), none⟩,
 ⟨(some 5), .mov (.tmp 28), none⟩])
 (.region [⟨(some 29), .mov (.tmp 0), none⟩,
 ⟨(some 30), .mov (.tmp 6), none⟩,
 ⟨(some 31), .mov (.tmp 1), none⟩,
 ⟨(some 32), .lenS (.tmp 31), none⟩,
 ⟨(some 33), .bin .add (.tmp 30) (.tmp 32), none⟩,
 ⟨(some 34), .sliceS 1 (.tmp 29) (some (.tmp 33)) none none, none⟩,
 ⟨(some 0), .mov (.tmp 34), none⟩]))))))))))), [.tmp 4]⟩
def c108 : RFunc := ⟨26, .code (.seq (.region [⟨(some 4), .mov (.val (.bool false)), none⟩])
 (.seq (.seq (.region [⟨(some 6), .mov (.tmp 0), none⟩,
 ⟨(some 7), .lenS (.tmp 6), none⟩,
 ⟨(some 8), .mov (.tmp 1), none⟩,
 ⟨(some 9), .lenS (.tmp 8), none⟩,
 ⟨(some 10), .bin .neq (.tmp 7) (.tmp 9), none⟩])
 (.cond (.tmp 10) (.seq (.region [⟨(some 4), .mov (.val (.bool false)), none⟩])
 (.ret))
 (.skip)))
 (.seq (.seq (.region [⟨(some 5), .mov (.val (.int .i64 0)), none⟩])
 (.block 0 (.loop (.seq (.seq (.region [⟨(some 11), .mov (.tmp 5), none⟩,
 ⟨(some 12), .mov (.tmp 0), none⟩,
 ⟨(some 13), .lenS (.tmp 12), none⟩,
 ⟨(some 14), .bin .lss (.tmp 11) (.tmp 13), none⟩])
 (.cond (.tmp 14) (.skip)
 (.exit 0)))
 (.seq (.block 1 (.seq (.dregion [⟨⟨(some 17), .mov (.tmp 0), none⟩, 0, 0, true⟩,
 ⟨⟨(some 18), .mov (.tmp 5), none⟩, 0, 0, true⟩,
 ⟨⟨(some 19), .idxS 1 (.tmp 17) (.tmp 18), none⟩, 3, 0, true⟩,
 ⟨⟨(some 20), .load none (.tmp 19), none⟩, 7, 1, true⟩,
 ⟨⟨(some 21), .mov (.tmp 1), none⟩, 0, 0, true⟩,
 ⟨⟨(some 22), .mov (.tmp 5), none⟩, 0, 0, true⟩,
 ⟨⟨(some 23), .idxS 1 (.tmp 21) (.tmp 22), none⟩, 48, 0, true⟩,
 ⟨⟨(some 24), .load none (.tmp 23), none⟩, 112, 1, true⟩,
 ⟨⟨(some 25), .bin .neq (.tmp 20) (.tmp 24), none⟩, 255, 0, true⟩])
 (.cond (.tmp 25) (.seq (.region [⟨(some 4), .mov (.val (.bool false)), none⟩])
 (.ret))
 (.skip))))
 (.region [⟨(some 15), .mov (.tmp 5), none⟩,
 ⟨(some 16), .bin .add (.tmp 15) (.val (.int .i64 1)), none⟩,
 ⟨(some 5), .mov (.tmp 16), none⟩]))))))
 (.seq (.region [⟨(some 4), .mov (.val (.bool true)), none⟩])
 (.ret))))), [.tmp 4]⟩
def c109 : RFunc := ⟨38, .code (.seq (.region [⟨(some 3), .box 24 (.tmp 0), none⟩,
 ⟨(some 6), .mov (.val (.bool false)), none⟩])
 (.seq (.region [⟨(some 7), .mov (.tmp 1), none⟩,
 ⟨(some 8), .bin .geq (.tmp 7) (.val (.int .i64 0)), none⟩,
 ⟨(some 9), .mov (.tmp 8), none⟩,
 ⟨(some 10), .mov (.tmp 1), some (9, true)⟩,
 ⟨(some 11), .fieldAddr 0 (.tmp 3), some (9, true)⟩,
 ⟨(some 12), .load none (.tmp 11), some (9, true)⟩,
 ⟨(some 13), .bin .lss (.tmp 10) (.tmp 12), some (9, true)⟩,
 ⟨(some 14), .pick (.tmp 9) (.tmp 13) (.val (.bool false)), none⟩,
 ⟨(some 15), .mov (.tmp 14), none⟩,
 ⟨(some 16), .mov (.tmp 2), some (15, true)⟩,
 ⟨(some 17), .bin .geq (.tmp 16) (.val (.int .i64 0)), some (15, true)⟩,
 ⟨(some 18), .pick (.tmp 15) (.tmp 17) (.val (.bool false)), none⟩,
 ⟨(some 19), .mov (.tmp 18), none⟩,
 ⟨(some 20), .mov (.tmp 2), some (19, true)⟩,
 ⟨(some 21), .fieldAddr 1 (.tmp 3), some (19, true)⟩,
 ⟨(some 22), .load none (.tmp 21), some (19, true)⟩,
 ⟨(some 23), .bin .lss (.tmp 20) (.tmp 22), some (19, true)⟩,
 ⟨(some 24), .pick (.tmp 19) (.tmp 23) (.val (.bool false)), none⟩,
 ⟨(some 25), .mov (.tmp 24), none⟩,
 ⟨(some 26), .fieldAddr 2 (.tmp 3), some (25, true)⟩,
 ⟨(some 27), .load none (.tmp 26), some (25, true)⟩,
 ⟨(some 28), .mov (.tmp 2), some (25, true)⟩,
 ⟨(some 29), .fieldAddr 0 (.tmp 3), some (25, true)⟩,
 ⟨(some 30), .load none (.tmp 29), some (25, true)⟩,
 ⟨(some 31), .bin .mul (.tmp 28) (.tmp 30), some (25, true)⟩,
 ⟨(some 32), .mov (.tmp 1), some (25, true)⟩,
 ⟨(some 33), .bin .add (.tmp 31) (.tmp 32), some (25, true)⟩,
 ⟨(some 34), .idxS 1 (.tmp 27) (.tmp 33), some (25, true)⟩,
 ⟨(some 35), .load none (.tmp 34), some (25, true)⟩,
 ⟨(some 36), .bin .eql (.tmp 35) (.val (.int .u8 1)), some (25, true)⟩,
 ⟨(some 37), .pick (.tmp 25) (.tmp 36) (.val (.bool false)), none⟩,
 ⟨(some 6), .mov (.tmp 37), none⟩])
 (.ret))), [.tmp 6]⟩
def c111 : RFunc := ⟨53, .code (.seq (.region [⟨(some 2), .box 24 (.tmp 0), none⟩,
 ⟨(some 3), .box 46 (.tmp 1), none⟩,
 ⟨(some 4), .new 24 [(.int .i64 0), (.int .i64 0), .nslice], none⟩,
 ⟨(some 5), .mov (.val (.int .i64 0)), none⟩])
 (.seq (.seq (.region [⟨(some 10), .load (some 3) (.tmp 2), none⟩,
 ⟨(some 11), .call (.val (.func (.func 21) [] [])) [(.tmp 10)], none⟩,
 ⟨(some 6), .mov (.tmp 11), none⟩])
 (.seq (.region [⟨(some 12), .mov (.tmp 6), none⟩,
 ⟨(some 13), .bin .neq (.tmp 12) (.val (.int .i64 0)), none⟩])
 (.cond (.tmp 13) (.seq (.region [⟨(some 14), .build [(.int .i64 0), (.int .i64 0), .nslice] [], none⟩,
 ⟨(some 15), .mov (.tmp 6), none⟩,
 ⟨none, .store 3 (.tmp 4) (.tmp 14), none⟩,
 ⟨(some 5), .mov (.tmp 15), none⟩])
 (.ret))
 (.skip))))
 (.seq (.seq (.region [⟨(some 16), .load (some 3) (.tmp 2), none⟩,
 ⟨(some 17), .load (some 4) (.tmp 3), none⟩,
 ⟨(some 18), .call (.val (.func (.func 156) [] [])) [(.tmp 16), (.tmp 17)], none⟩,
 ⟨(some 19), .un .not (.tmp 18), none⟩])
 (.cond (.tmp 19) (.seq (.region [⟨(some 20), .build [(.int .i64 0), (.int .i64 0), .nslice] [], none⟩,
 ⟨none, .store 3 (.tmp 4) (.tmp 20), none⟩,
 ⟨(some 5), .mov (.val (.int .i64 1)), none⟩])
 (.ret))
 (.skip)))
 (.seq (.region [⟨(some 21), .fieldAddr 2 (.tmp 3), none⟩,
 ⟨(some 22), .load none (.tmp 21), none⟩,
 ⟨(some 23), .fieldAddr 3 (.tmp 3), none⟩,
 ⟨(some 24), .load none (.tmp 23), none⟩,
 ⟨(some 25), .call (.val (.func (.func 104) [] [])) [(.tmp 22), (.tmp 24)], none⟩,
 ⟨(some 7), .new 24 [(.int .i64 0), (.int .i64 0), .nslice], none⟩,
 ⟨none, .store 3 (.tmp 7) (.tmp 25), none⟩])
 (.seq (.seq (.region [⟨(some 8), .mov (.val (.int .i64 0)), none⟩])
 (.block 0 (.loop (.seq (.seq (.region [⟨(some 26), .mov (.tmp 8), none⟩,
 ⟨(some 27), .fieldAddr 3 (.tmp 3), none⟩,
 ⟨(some 28), .load none (.tmp 27), none⟩,
 ⟨(some 29), .bin .lss (.tmp 26) (.tmp 28), none⟩])
 (.cond (.tmp 29) (.skip)
 (.exit 0)))
 (.seq (.block 1 (.seq (.region [⟨(some 9), .mov (.val (.int .i64 0)), none⟩])
 (.block 2 (.loop (.seq (.seq (.region [⟨(some 32), .mov (.tmp 9), none⟩,
 ⟨(some 33), .fieldAddr 2 (.tmp 3), none⟩,
 ⟨(some 34), .load none (.tmp 33), none⟩,
 ⟨(some 35), .bin .lss (.tmp 32) (.tmp 34), none⟩])
 (.cond (.tmp 35) (.skip)
 (.exit 2)))
 (.seq (.block 3 (.seq (.region [⟨(some 38), .load (some 3) (.tmp 2), none⟩,
 ⟨(some 39), .fieldAddr 0 (.tmp 3), none⟩,
 ⟨(some 40), .load none (.tmp 39), none⟩,
 ⟨(some 41), .mov (.tmp 9), none⟩,
 ⟨(some 42), .bin .add (.tmp 40) (.tmp 41), none⟩,
 ⟨(some 43), .fieldAddr 1 (.tmp 3), none⟩,
 ⟨(some 44), .load none (.tmp 43), none⟩,
 ⟨(some 45), .mov (.tmp 8), none⟩,
 ⟨(some 46), .bin .add (.tmp 44) (.tmp 45), none⟩,
 ⟨(some 47), .call (.val (.func (.func 35) [] [])) [(.tmp 38), (.tmp 42), (.tmp 46)], none⟩])
 (.cond (.tmp 47) (.region [⟨(some 48), .load (some 3) (.tmp 7), none⟩,
 ⟨(some 49), .mov (.tmp 9), none⟩,
 ⟨(some 50), .mov (.tmp 8), none⟩,
 ⟨(some 51), .call (.val (.func (.func 105) [] [])) [(.tmp 48), (.tmp 49), (.tmp 50)], none⟩])
 (.skip))))
 (.region [⟨(some 36), .mov (.tmp 9), none⟩,
 ⟨(some 37), .bin .add (.tmp 36) (.val (.int .i64 1)), none⟩,
 ⟨(some 9), .mov (.tmp 37), none⟩])))))))
 (.region [⟨(some 30), .mov (.tmp 8), none⟩,
 ⟨(some 31), .bin .add (.tmp 30) (.val (.int .i64 1)), none⟩,
 ⟨(some 8), .mov (.tmp 31), none⟩]))))))
 (.seq (.region [⟨(some 52), .load (some 3) (.tmp 7), none⟩,
 ⟨none, .store 3 (.tmp 4) (.tmp 52), none⟩,
 ⟨(some 5), .mov (.val (.int .i64 0)), none⟩])
 (.ret))))))), [.cell 4 (some 3), .tmp 5]⟩
def c112 : RFunc := ⟨106, .code (.seq (.region [⟨(some 4), .box 24 (.tmp 0), none⟩,
 ⟨(some 5), .box 24 (.tmp 1), none⟩,
 ⟨(some 8), .new 24 [(.int .i64 0), (.int .i64 0), .nslice], none⟩,
 ⟨(some 9), .mov (.val (.int .i64 0)), none⟩])
 (.seq (.seq (.region [⟨(some 16), .load (some 3) (.tmp 4), none⟩,
 ⟨(some 17), .call (.val (.func (.func 21) [] [])) [(.tmp 16)], none⟩,
 ⟨(some 10), .mov (.tmp 17), none⟩])
 (.seq (.region [⟨(some 18), .mov (.tmp 10), none⟩,
 ⟨(some 19), .bin .neq (.tmp 18) (.val (.int .i64 0)), none⟩])
 (.cond (.tmp 19) (.seq (.region [⟨(some 20), .build [(.int .i64 0), (.int .i64 0), .nslice] [], none⟩,
 ⟨(some 21), .mov (.tmp 10), none⟩,
 ⟨none, .store 3 (.tmp 8) (.tmp 20), none⟩,
 ⟨(some 9), .mov (.tmp 21), none⟩])
 (.ret))
 (.skip))))
 (.seq (.seq (.region [⟨(some 22), .load (some 3) (.tmp 5), none⟩,
 ⟨(some 23), .call (.val (.func (.func 21) [] [])) [(.tmp 22)], none⟩,
 ⟨(some 11), .mov (.tmp 23), none⟩])
 (.seq (.region [⟨(some 24), .mov (.tmp 11), none⟩,
 ⟨(some 25), .bin .neq (.tmp 24) (.val (.int .i64 0)), none⟩])
 (.cond (.tmp 25) (.seq (.region [⟨(some 26), .build [(.int .i64 0), (.int .i64 0), .nslice] [], none⟩,
 ⟨(some 27), .mov (.tmp 11), none⟩,
 ⟨none, .store 3 (.tmp 8) (.tmp 26), none⟩,
 ⟨(some 9), .mov (.tmp 27), none⟩])
 (.ret))
 (.skip))))
 (.seq (.seq (.region [⟨(some 28), .load (some 3) (.tmp 4), none⟩,
 ⟨(some 29), .mov (.tmp 2), none⟩,
 ⟨(some 30), .mov (.tmp 3), none⟩,
 ⟨(some 31), .fieldAddr 0 (.tmp 5), none⟩,
 ⟨(some 32), .load none (.tmp 31), none⟩,
 ⟨(some 33), .fieldAddr 1 (.tmp 5), none⟩,
 ⟨(some 34), .load none (.tmp 33), none⟩,
 ⟨(some 35), .build [(.int .i64 0), (.int .i64 0), (.int .i64 0), (.int .i64 0)] [(0, 1, (.tmp 29)), (1, 1, (.tmp 30)), (2, 1, (.tmp 32)), (3, 1, (.tmp 34))], none⟩,
 ⟨(some 36), .call (.val (.func (.func 156) [] [])) [(.tmp 28), (.tmp 35)], none⟩,
 ⟨(some 37), .un .not (.tmp 36), none⟩])
 (.cond (.tmp 37) (.seq (.region [⟨(some 38), .build [(.int .i64 0), (.int .i64 0), .nslice] [], none⟩,
 ⟨none, .store 3 (.tmp 8) (.tmp 38), none⟩,
 ⟨(some 9), .mov (.val (.int .i64 1)), none⟩])
 (.ret))
 (.skip)))
 (.seq (.region [⟨(some 39), .fieldAddr 0 (.tmp 4), none⟩,
 ⟨(some 40), .load none (.tmp 39), none⟩,
 ⟨(some 41), .fieldAddr 1 (.tmp 4), none⟩,
 ⟨(some 42), .load none (.tmp 41), none⟩,
 ⟨(some 43), .call (.val (.func (.func 104) [] [])) [(.tmp 40), (.tmp 42)], none⟩,
 ⟨(some 12), .new 24 [(.int .i64 0), (.int .i64 0), .nslice], none⟩,
 ⟨none, .store 3 (.tmp 12) (.tmp 43), none⟩])
 (.seq (.seq (.region [⟨(some 13), .mov (.val (.int .i64 0)), none⟩])
 (.block 0 (.loop (.seq (.seq (.region [⟨(some 44), .mov (.tmp 13), none⟩,
 ⟨(some 45), .fieldAddr 1 (.tmp 4), none⟩,
 ⟨(some 46), .load none (.tmp 45), none⟩,
 ⟨(some 47), .bin .lss (.tmp 44) (.tmp 46), none⟩])
 (.cond (.tmp 47) (.skip)
 (.exit 0)))
 (.seq (.block 1 (.seq (.region [⟨(some 14), .mov (.val (.int .i64 0)), none⟩])
 (.block 2 (.loop (.seq (.seq (.region [⟨(some 50), .mov (.tmp 14), none⟩,
 ⟨(some 51), .fieldAddr 0 (.tmp 4), none⟩,
 ⟨(some 52), .load none (.tmp 51), none⟩,
 ⟨(some 53), .bin .lss (.tmp 50) (.tmp 52), none⟩])
 (.cond (.tmp 53) (.skip)
 (.exit 2)))
 (.seq (.block 3 (.seq (.region [⟨(some 56), .mov (.tmp 14), none⟩,
 ⟨(some 57), .mov (.tmp 2), none⟩,
 ⟨(some 58), .bin .geq (.tmp 56) (.tmp 57), none⟩,
 ⟨(some 59), .mov (.tmp 58), none⟩,
 ⟨(some 60), .mov (.tmp 14), some (59, true)⟩,
 ⟨(some 61), .mov (.tmp 2), some (59, true)⟩,
 ⟨(some 62), .fieldAddr 0 (.tmp 5), some (59, true)⟩,
 ⟨(some 63), .load none (.tmp 62), some (59, true)⟩,
 ⟨(some 64), .bin .add (.tmp 61) (.tmp 63), some (59, true)⟩,
 ⟨(some 65), .bin .lss (.tmp 60) (.tmp 64), some (59, true)⟩,
 ⟨(some 66), .pick (.tmp 59) (.tmp 65) (.val (.bool false)), none⟩,
 ⟨(some 67), .mov (.tmp 66), none⟩,
 ⟨(some 68), .mov (.tmp 13), some (67, true)⟩,
 ⟨(some 69), .mov (.tmp 3), some (67, true)⟩,
 ⟨(some 70), .bin .geq (.tmp 68) (.tmp 69), some (67, true)⟩,
 ⟨(some 71), .pick (.tmp 67) (.tmp 70) (.val (.bool false)), none⟩,
 ⟨(some 72), .mov (.tmp 71), none⟩,
 ⟨(some 73), .mov (.tmp 13), some (72, true)⟩,
 ⟨(some 74), .mov (.tmp 3), some (72, true)⟩,
 ⟨(some 75), .fieldAddr 1 (.tmp 5), some (72, true)⟩,
 ⟨(some 76), .load none (.tmp 75), some (72, true)⟩,
 ⟨(some 77), .bin .add (.tmp 74) (.tmp 76), some (72, true)⟩,
 ⟨(some 78), .bin .lss (.tmp 73) (.tmp 77), some (72, true)⟩,
 ⟨(some 79), .pick (.tmp 72) (.tmp 78) (.val (.bool false)), none⟩,
 ⟨(some 15), .mov (.tmp 79), none⟩])
 (.seq (.region [⟨(some 80), .mov (.tmp 15), none⟩,
 ⟨(some 81), .mov (.tmp 80), none⟩,
 ⟨(some 82), .load (some 3) (.tmp 5), some (81, true)⟩,
 ⟨(some 83), .mov (.tmp 14), some (81, true)⟩,
 ⟨(some 84), .mov (.tmp 2), some (81, true)⟩,
 ⟨(some 85), .bin .sub (.tmp 83) (.tmp 84), some (81, true)⟩,
 ⟨(some 86), .mov (.tmp 13), some (81, true)⟩,
 ⟨(some 87), .mov (.tmp 3), some (81, true)⟩,
 ⟨(some 88), .bin .sub (.tmp 86) (.tmp 87), some (81, true)⟩,
 ⟨(some 89), .call (.val (.func (.func 35) [] [])) [(.tmp 82), (.tmp 85), (.tmp 88)], some (81, true)⟩,
 ⟨(some 90), .pick (.tmp 81) (.tmp 89) (.val (.bool false)), none⟩,
 ⟨(some 91), .mov (.tmp 90), none⟩,
 ⟨(some 92), .mov (.tmp 15), some (91, false)⟩,
 ⟨(some 93), .un .not (.tmp 92), some (91, false)⟩,
 ⟨(some 94), .mov (.tmp 93), some (91, false)⟩,
 ⟨(some 95), .load (some 3) (.tmp 4), some (94, true)⟩,
 ⟨(some 96), .mov (.tmp 14), some (94, true)⟩,
 ⟨(some 97), .mov (.tmp 13), some (94, true)⟩,
 ⟨(some 98), .call (.val (.func (.func 35) [] [])) [(.tmp 95), (.tmp 96), (.tmp 97)], some (94, true)⟩,
 ⟨(some 99), .pick (.tmp 94) (.tmp 98) (.val (.bool false)), some (91, false)⟩,
 ⟨(some 100), .pick (.tmp 91) (.val (.bool true)) (.tmp 99), none⟩])
 (.cond (.tmp 100) (.region [⟨(some 101), .load (some 3) (.tmp 12), none⟩,
 ⟨(some 102), .mov (.tmp 14), none⟩,
 ⟨(some 103), .mov (.tmp 13), none⟩,
 ⟨(some 104), .call (.val (.func (.func 105) [] [])) [(.tmp 101), (.tmp 102), (.tmp 103)], none⟩])
 (.skip)))))
 (.region [⟨(some 54), .mov (.tmp 14), none⟩,
 ⟨(some 55), .bin .add (.tmp 54) (.val (.int .i64 1)), none⟩,
 ⟨(some 14), .mov (.tmp 55), none⟩])))))))
 (.region [⟨(some 48), .mov (.tmp 13), none⟩,
 ⟨(some 49), .bin .add (.tmp 48) (.val (.int .i64 1)), none⟩,
 ⟨(some 13), .mov (.tmp 49), none⟩]))))))
 (.seq (.region [⟨(some 105), .load (some 3) (.tmp 12), none⟩,
 ⟨none, .store 3 (.tmp 8) (.tmp 105), none⟩,
 ⟨(some 9), .mov (.val (.int .i64 0)), none⟩])
 (.ret)))))))), [.cell 8 (some 3), .tmp 9]⟩
def c113 : RFunc := ⟨76, .code (.seq (.region [⟨(some 2), .box 24 (.tmp 0), none⟩,
 ⟨(some 4), .new 24 [(.int .i64 0), (.int .i64 0), .nslice], none⟩,
 ⟨(some 5), .mov (.val (.int .i64 0)), none⟩])
 (.seq (.seq (.region [⟨(some 11), .load (some 3) (.tmp 2), none⟩,
 ⟨(some 12), .call (.val (.func (.func 21) [] [])) [(.tmp 11)], none⟩,
 ⟨(some 6), .mov (.tmp 12), none⟩])
 (.seq (.region [⟨(some 13), .mov (.tmp 6), none⟩,
 ⟨(some 14), .bin .neq (.tmp 13) (.val (.int .i64 0)), none⟩])
 (.cond (.tmp 14) (.seq (.region [⟨(some 15), .build [(.int .i64 0), (.int .i64 0), .nslice] [], none⟩,
 ⟨(some 16), .mov (.tmp 6), none⟩,
 ⟨none, .store 3 (.tmp 4) (.tmp 15), none⟩,
 ⟨(some 5), .mov (.tmp 16), none⟩])
 (.ret))
 (.skip))))
 (.seq (.seq (.region [⟨(some 17), .mov (.tmp 1), none⟩,
 ⟨(some 18), .bin .lss (.tmp 17) (.val (.int .i64 0)), none⟩,
 ⟨(some 19), .mov (.tmp 18), none⟩,
 ⟨(some 20), .mov (.tmp 1), some (19, false)⟩,
 ⟨(some 21), .bin .gtr (.tmp 20) (.val (.int .i64 7)), some (19, false)⟩,
 ⟨(some 22), .pick (.tmp 19) (.val (.bool true)) (.tmp 21), none⟩])
 (.cond (.tmp 22) (.seq (.region [⟨(some 23), .build [(.int .i64 0), (.int .i64 0), .nslice] [], none⟩,
 ⟨none, .store 3 (.tmp 4) (.tmp 23), none⟩,
 ⟨(some 5), .mov (.val (.int .i64 1)), none⟩])
 (.ret))
 (.skip)))
 (.seq (.region [⟨(some 24), .fieldAddr 0 (.tmp 2), none⟩,
 ⟨(some 25), .load none (.tmp 24), none⟩,
 ⟨(some 26), .fieldAddr 1 (.tmp 2), none⟩,
 ⟨(some 27), .load none (.tmp 26), none⟩,
 ⟨(some 28), .call (.val (.func (.func 104) [] [])) [(.tmp 25), (.tmp 27)], none⟩,
 ⟨(some 7), .new 24 [(.int .i64 0), (.int .i64 0), .nslice], none⟩,
 ⟨none, .store 3 (.tmp 7) (.tmp 28), none⟩])
 (.seq (.seq (.region [⟨(some 8), .mov (.val (.int .i64 0)), none⟩])
 (.block 0 (.loop (.seq (.seq (.region [⟨(some 29), .mov (.tmp 8), none⟩,
 ⟨(some 30), .fieldAddr 1 (.tmp 2), none⟩,
 ⟨(some 31), .load none (.tmp 30), none⟩,
 ⟨(some 32), .bin .lss (.tmp 29) (.tmp 31), none⟩])
 (.cond (.tmp 32) (.skip)
 (.exit 0)))
 (.seq (.block 1 (.seq (.region [⟨(some 9), .mov (.val (.int .i64 0)), none⟩])
 (.block 2 (.loop (.seq (.seq (.region [⟨(some 35), .mov (.tmp 9), none⟩,
 ⟨(some 36), .fieldAddr 0 (.tmp 2), none⟩,
 ⟨(some 37), .load none (.tmp 36), none⟩,
 ⟨(some 38), .bin .lss (.tmp 35) (.tmp 37), none⟩])
 (.cond (.tmp 38) (.skip)
 (.exit 2)))
 (.seq (.block 3 (.seq (.region [⟨(some 41), .mov (.tmp 1), none⟩,
 ⟨(some 42), .bin .lss (.tmp 41) (.val (.int .i64 4)), none⟩,
 ⟨(some 43), .mov (.tmp 42), none⟩,
 ⟨(some 44), .load (some 3) (.tmp 2), some (43, true)⟩,
 ⟨(some 45), .mov (.tmp 9), some (43, true)⟩,
 ⟨(some 46), .mov (.tmp 8), some (43, true)⟩,
 ⟨(some 47), .call (.val (.func (.func 35) [] [])) [(.tmp 44), (.tmp 45), (.tmp 46)], some (43, true)⟩,
 ⟨(some 48), .pick (.tmp 43) (.tmp 47) (.val (.bool false)), none⟩,
 ⟨(some 49), .mov (.tmp 48), none⟩,
 ⟨(some 50), .mov (.tmp 1), some (49, false)⟩,
 ⟨(some 51), .bin .geq (.tmp 50) (.val (.int .i64 4)), some (49, false)⟩,
 ⟨(some 52), .mov (.tmp 51), some (49, false)⟩,
 ⟨(some 53), .load (some 3) (.tmp 2), some (52, true)⟩,
 ⟨(some 54), .fieldAddr 0 (.tmp 2), some (52, true)⟩,
 ⟨(some 55), .load none (.tmp 54), some (52, true)⟩,
 ⟨(some 56), .bin .sub (.tmp 55) (.val (.int .i64 1)), some (52, true)⟩,
 ⟨(some 57), .mov (.tmp 9), some (52, true)⟩,
 ⟨(some 58), .bin .sub (.tmp 56) (.tmp 57), some (52, true)⟩,
 ⟨(some 59), .mov (.tmp 8), some (52, true)⟩,
 ⟨(some 60), .call (.val (.func (.func 35) [] [])) [(.tmp 53), (.tmp 58), (.tmp 59)], some (52, true)⟩,
 ⟨(some 61), .pick (.tmp 52) (.tmp 60) (.val (.bool false)), some (49, false)⟩,
 ⟨(some 62), .pick (.tmp 49) (.val (.bool true)) (.tmp 61), none⟩])
 (.cond (.tmp 62) (.region [⟨(some 63), .load (some 3) (.tmp 7), none⟩,
 ⟨(some 64), .mov (.tmp 9), none⟩,
 ⟨(some 65), .mov (.tmp 8), none⟩,
 ⟨(some 66), .call (.val (.func (.func 105) [] [])) [(.tmp 63), (.tmp 64), (.tmp 65)], none⟩])
 (.skip))))
 (.region [⟨(some 39), .mov (.tmp 9), none⟩,
 ⟨(some 40), .bin .add (.tmp 39) (.val (.int .i64 1)), none⟩,
 ⟨(some 9), .mov (.tmp 40), none⟩])))))))
 (.region [⟨(some 33), .mov (.tmp 8), none⟩,
 ⟨(some 34), .bin .add (.tmp 33) (.val (.int .i64 1)), none⟩,
 ⟨(some 8), .mov (.tmp 34), none⟩]))))))
 (.seq (.seq (.region [⟨(some 10), .mov (.val (.int .i64 0)), none⟩])
 (.block 4 (.loop (.seq (.seq (.region [⟨(some 67), .mov (.tmp 10), none⟩,
 ⟨(some 68), .mov (.tmp 1), none⟩,
 ⟨(some 69), .bin .rem (.tmp 68) (.val (.int .i64 4)), none⟩,
 ⟨(some 70), .bin .lss (.tmp 67) (.tmp 69), none⟩])
 (.cond (.tmp 70) (.skip)
 (.exit 4)))
 (.seq (.block 5 (.region [⟨(some 73), .load (some 3) (.tmp 7), none⟩,
 ⟨(some 74), .call (.val (.func (.func 157) [] [])) [(.tmp 73)], none⟩,
 ⟨none, .store 3 (.tmp 7) (.tmp 74), none⟩]))
 (.region [⟨(some 71), .mov (.tmp 10), none⟩,
 ⟨(some 72), .bin .add (.tmp 71) (.val (.int .i64 1)), none⟩,
 ⟨(some 10), .mov (.tmp 72), none⟩]))))))
 (.seq (.region [⟨(some 75), .load (some 3) (.tmp 7), none⟩,
 ⟨none, .store 3 (.tmp 4) (.tmp 75), none⟩,
 ⟨(some 5), .mov (.val (.int .i64 0)), none⟩])
 (.ret)))))))), [.cell 4 (some 3), .tmp 5]⟩
def c118 : RFunc := ⟨17, .code (.seq (.region [⟨(some 2), .box 24 (.tmp 0), none⟩,
 ⟨(some 4), .mov (.val .nslice), none⟩])
 (.seq (.region [⟨(some 5), .fieldAddr 2 (.tmp 2), none⟩,
 ⟨(some 6), .load none (.tmp 5), none⟩,
 ⟨(some 7), .mov (.tmp 1), none⟩,
 ⟨(some 8), .fieldAddr 0 (.tmp 2), none⟩,
 ⟨(some 9), .load none (.tmp 8), none⟩,
 ⟨(some 10), .bin .mul (.tmp 7) (.tmp 9), none⟩,
 ⟨(some 11), .mov (.tmp 1), none⟩,
 ⟨(some 12), .bin .add (.tmp 11) (.val (.int .i64 1)), none⟩,
 ⟨(some 13), .fieldAddr 0 (.tmp 2), none⟩,
 ⟨(some 14), .load none (.tmp 13), none⟩,
 ⟨(some 15), .bin .mul (.tmp 12) (.tmp 14), none⟩,
 ⟨(some 16), .sliceS 1 (.tmp 6) (some (.tmp 10)) (some (.tmp 15)) none, none⟩,
 ⟨(some 4), .mov (.tmp 16), none⟩])
 (.ret))), [.tmp 4]⟩
def c121 : RFunc := ⟨40, .code (.seq (.region [⟨(some 2), .box 24 (.tmp 0), none⟩,
 ⟨(some 4), .mov (.val .nslice), none⟩,
 ⟨(some 5), .mov (.val (.int .i64 0)), none⟩])
 (.seq (.region [⟨(some 8), .fieldAddr 2 (.tmp 2), none⟩,
 ⟨(some 9), .load none (.tmp 8), none⟩,
 ⟨(some 10), .lenS (.tmp 9), none⟩,
 ⟨(some 11), .makeSlice 3 [(.int .i64 0)] 8 (.tmp 10) (.tmp 10), none⟩,
 ⟨(some 4), .mov (.tmp 11), none⟩])
 (.seq (.seq (.region [⟨(some 12), .fieldAddr 2 (.tmp 2), none⟩,
 ⟨(some 13), .load none (.tmp 12), none⟩,
 ⟨(some 14), .lenS (.tmp 13), none⟩,
 ⟨(some 15), .mov (.val (.int .i64 0)), none⟩])
 (.block 0 (.loop (.seq (.region [⟨(some 16), .bin .lss (.tmp 15) (.tmp 14), none⟩])
 (.seq (.cond (.tmp 16) (.skip)
 (.exit 0))
 (.seq (.block 1 (.seq (.region [⟨(some 17), .mov (.tmp 15), none⟩,
 ⟨(some 18), .idxS 1 (.tmp 13) (.tmp 15), none⟩,
 ⟨(some 19), .load none (.tmp 18), none⟩,
 ⟨(some 6), .mov (.tmp 17), none⟩,
 ⟨(some 7), .mov (.tmp 19), none⟩])
 (.seq (.region [⟨(some 20), .mov (.tmp 7), none⟩,
 ⟨(some 21), .bin .eql (.tmp 20) (.val (.int .u8 1)), none⟩,
 ⟨(some 22), .mov (.tmp 21), none⟩,
 ⟨(some 23), .mov (.tmp 4), some (22, true)⟩,
 ⟨(some 24), .mov (.tmp 6), some (22, true)⟩,
 ⟨(some 25), .idxS 1 (.tmp 23) (.tmp 24), some (22, true)⟩,
 ⟨(some 26), .load none (.tmp 25), some (22, true)⟩,
 ⟨(some 27), .bin .eql (.tmp 26) (.val (.int .i64 0)), some (22, true)⟩,
 ⟨(some 28), .pick (.tmp 22) (.tmp 27) (.val (.bool false)), none⟩])
 (.cond (.tmp 28) (.seq (.region [⟨(some 29), .mov (.tmp 5), none⟩,
 ⟨(some 30), .bin .add (.tmp 29) (.val (.int .i64 1)), none⟩,
 ⟨(some 5), .mov (.tmp 30), none⟩])
 (.region [⟨(some 31), .load (some 3) (.tmp 2), none⟩,
 ⟨(some 32), .mov (.tmp 1), none⟩,
 ⟨(some 33), .mov (.tmp 4), none⟩,
 ⟨(some 34), .mov (.tmp 6), none⟩,
 ⟨(some 35), .mov (.tmp 5), none⟩,
 ⟨(some 36), .call (.val (.func (.func 160) [] [])) [(.tmp 31), (.tmp 32), (.tmp 33), (.tmp 34), (.tmp 35)], none⟩]))
 (.skip)))))
 (.region [⟨(some 37), .bin .add (.tmp 15) (.val (.int .i64 1)), none⟩,
 ⟨(some 15), .mov (.tmp 37), none⟩])))))))
 (.seq (.region [⟨(some 38), .mov (.tmp 4), none⟩,
 ⟨(some 39), .mov (.tmp 5), none⟩,
 ⟨(some 4), .mov (.tmp 38), none⟩,
 ⟨(some 5), .mov (.tmp 39), none⟩])
 (.ret))))), [.tmp 4, .tmp 5]⟩
def c122 : RFunc := ⟨50, .code (.seq (.region [⟨(some 2), .box 46 (.tmp 0), none⟩,
 ⟨(some 3), .box 88 (.tmp 1), none⟩,
 ⟨(some 4), .new 46 [(.int .i64 0), (.int .i64 0), (.int .i64 0), (.int .i64 0)], none⟩])
 (.seq (.seq (.region [⟨(some 7), .fieldAddr 2 (.tmp 2), none⟩,
 ⟨(some 8), .load none (.tmp 7), none⟩,
 ⟨(some 9), .bin .eql (.tmp 8) (.val (.int .i64 0)), none⟩])
 (.cond (.tmp 9) (.seq (.region [⟨(some 10), .fieldAddr 0 (.tmp 3), none⟩,
 ⟨(some 11), .load none (.tmp 10), none⟩,
 ⟨(some 12), .fieldAddr 1 (.tmp 3), none⟩,
 ⟨(some 13), .load none (.tmp 12), none⟩,
 ⟨(some 14), .build [(.int .i64 0), (.int .i64 0), (.int .i64 0), (.int .i64 0)] [(0, 1, (.tmp 11)), (1, 1, (.tmp 13)), (2, 1, (.val (.int .i64 1))), (3, 1, (.val (.int .i64 1)))], none⟩,
 ⟨none, .store 4 (.tmp 4) (.tmp 14), none⟩])
 (.ret))
 (.skip)))
 (.seq (.dregion [⟨⟨(some 15), .fieldAddr 0 (.tmp 2), none⟩, 0, 0, true⟩,
 ⟨⟨(some 16), .load none (.tmp 15), none⟩, 1, 1, true⟩,
 ⟨⟨(some 17), .fieldAddr 0 (.tmp 3), none⟩, 0, 0, true⟩,
 ⟨⟨(some 18), .load none (.tmp 17), none⟩, 4, 1, true⟩,
 ⟨⟨(some 19), .minmax false [(.tmp 16), (.tmp 18)], none⟩, 15, 0, true⟩,
 ⟨⟨(some 20), .fieldAddr 1 (.tmp 2), none⟩, 0, 0, true⟩,
 ⟨⟨(some 21), .load none (.tmp 20), none⟩, 32, 1, true⟩,
 ⟨⟨(some 22), .fieldAddr 1 (.tmp 3), none⟩, 0, 0, true⟩,
 ⟨⟨(some 23), .load none (.tmp 22), none⟩, 128, 1, true⟩,
 ⟨⟨(some 24), .minmax false [(.tmp 21), (.tmp 23)], none⟩, 480, 0, true⟩,
 ⟨⟨(some 5), .mov (.tmp 19), none⟩, 31, 0, true⟩,
 ⟨⟨(some 6), .mov (.tmp 24), none⟩, 2047, 0, true⟩])
 (.seq (.region [⟨(some 25), .mov (.tmp 5), none⟩,
 ⟨(some 26), .mov (.tmp 6), none⟩,
 ⟨(some 27), .fieldAddr 0 (.tmp 2), none⟩,
 ⟨(some 28), .load none (.tmp 27), none⟩,
 ⟨(some 29), .fieldAddr 2 (.tmp 2), none⟩,
 ⟨(some 30), .load none (.tmp 29), none⟩,
 ⟨(some 31), .bin .add (.tmp 28) (.tmp 30), none⟩,
 ⟨(some 32), .fieldAddr 0 (.tmp 3), none⟩,
 ⟨(some 33), .load none (.tmp 32), none⟩,
 ⟨(some 34), .bin .add (.tmp 33) (.val (.int .i64 1)), none⟩,
 ⟨(some 35), .minmax true [(.tmp 31), (.tmp 34)], none⟩,
 ⟨(some 36), .mov (.tmp 5), none⟩,
 ⟨(some 37), .bin .sub (.tmp 35) (.tmp 36), none⟩,
 ⟨(some 38), .fieldAddr 1 (.tmp 2), none⟩,
 ⟨(some 39), .load none (.tmp 38), none⟩,
 ⟨(some 40), .fieldAddr 3 (.tmp 2), none⟩,
 ⟨(some 41), .load none (.tmp 40), none⟩,
 ⟨(some 42), .bin .add (.tmp 39) (.tmp 41), none⟩,
 ⟨(some 43), .fieldAddr 1 (.tmp 3), none⟩,
 ⟨(some 44), .load none (.tmp 43), none⟩,
 ⟨(some 45), .bin .add (.tmp 44) (.val (.int .i64 1)), none⟩,
 ⟨(some 46), .minmax true [(.tmp 42), (.tmp 45)], none⟩,
 ⟨(some 47), .mov (.tmp 6), none⟩,
 ⟨(some 48), .bin .sub (.tmp 46) (.tmp 47), none⟩,
 ⟨(some 49), .build [(.int .i64 0), (.int .i64 0), (.int .i64 0), (.int .i64 0)] [(0, 1, (.tmp 25)), (1, 1, (.tmp 26)), (2, 1, (.tmp 37)), (3, 1, (.tmp 48))], none⟩,
 ⟨none, .store 4 (.tmp 4) (.tmp 49), none⟩])
 (.ret))))), [.cell 4 (some 4)]⟩
def c126 : RFunc := ⟨28, .code (.seq (.region [⟨(some 4), .mov (.tmp 0), none⟩,
 ⟨(some 5), .lenS (.tmp 4), none⟩,
 ⟨(some 6), .bin .sub (.tmp 5) (.val (.int .i64 1)), none⟩,
 ⟨(some 2), .mov (.val (.int .i64 0)), none⟩,
 ⟨(some 3), .mov (.tmp 6), none⟩])
 (.block 0 (.loop (.seq (.seq (.region [⟨(some 7), .mov (.tmp 2), none⟩,
 ⟨(some 8), .mov (.tmp 3), none⟩,
 ⟨(some 9), .bin .lss (.tmp 7) (.tmp 8), none⟩])
 (.cond (.tmp 9) (.skip)
 (.exit 0)))
 (.seq (.block 1 (.dregion [⟨⟨(some 14), .mov (.tmp 0), none⟩, 0, 0, true⟩,
 ⟨⟨(some 15), .mov (.tmp 2), none⟩, 0, 0, true⟩,
 ⟨⟨(some 16), .mov (.tmp 0), none⟩, 0, 0, true⟩,
 ⟨⟨(some 17), .mov (.tmp 3), none⟩, 0, 0, true⟩,
 ⟨⟨(some 18), .mov (.tmp 0), none⟩, 0, 0, true⟩,
 ⟨⟨(some 19), .mov (.tmp 3), none⟩, 0, 0, true⟩,
 ⟨⟨(some 20), .idxS 1 (.tmp 18) (.tmp 19), none⟩, 48, 0, true⟩,
 ⟨⟨(some 21), .load none (.tmp 20), none⟩, 112, 1, true⟩,
 ⟨⟨(some 22), .mov (.tmp 0), none⟩, 0, 0, true⟩,
 ⟨⟨(some 23), .mov (.tmp 2), none⟩, 0, 0, true⟩,
 ⟨⟨(some 24), .idxS 1 (.tmp 22) (.tmp 23), none⟩, 768, 0, true⟩,
 ⟨⟨(some 25), .load none (.tmp 24), none⟩, 1792, 1, true⟩,
 ⟨⟨(some 26), .idxS 1 (.tmp 14) (.tmp 15), none⟩, 4083, 0, true⟩,
 ⟨⟨none, .store 1 (.tmp 26) (.tmp 21), none⟩, 8179, 2, false⟩,
 ⟨⟨(some 27), .idxS 1 (.tmp 16) (.tmp 17), none⟩, 16383, 0, true⟩,
 ⟨⟨none, .store 1 (.tmp 27) (.tmp 25), none⟩, 32767, 2, false⟩]))
 (.region [⟨(some 10), .mov (.tmp 2), none⟩,
 ⟨(some 11), .bin .add (.tmp 10) (.val (.int .i64 1)), none⟩,
 ⟨(some 12), .mov (.tmp 3), none⟩,
 ⟨(some 13), .bin .sub (.tmp 12) (.val (.int .i64 1)), none⟩,
 ⟨(some 2), .mov (.tmp 11), none⟩,
 ⟨(some 3), .mov (.tmp 13), none⟩])))))), []⟩
def c127 : RFunc := ⟨8, .code (.seq (.region [⟨(some 2), .mov (.val .nslice), none⟩])
 (.seq (.seq (.region [⟨(some 3), .mov (.tmp 0), none⟩,
 ⟨(some 4), .eq false .slice (.tmp 3) (.val .nslice), none⟩])
 (.cond (.tmp 4) (.seq (.region [⟨(some 2), .mov (.val .nslice), none⟩])
 (.ret))
 (.skip)))
 (.seq (.region [⟨(some 5), .buildSlice 5 1 0 [] [], none⟩,
 ⟨(some 6), .mov (.tmp 0), none⟩,
 ⟨(some 7), .append 5 1 1 (.tmp 5) (.tmp 6), none⟩,
 ⟨(some 2), .mov (.tmp 7), none⟩])
 (.ret)))), [.tmp 2]⟩
def c128 : RFunc := ⟨8, .code (.seq (.region [⟨(some 4), .mov (.val (.int .i64 0)), none⟩])
 (.seq (.region [⟨(some 5), .mov (.tmp 0), none⟩,
 ⟨(some 6), .mov (.tmp 1), none⟩,
 ⟨(some 7), .call (.val (.func (.func 162) [] [])) [(.tmp 5), (.tmp 6)], none⟩,
 ⟨(some 4), .mov (.tmp 7), none⟩])
 (.ret))), [.tmp 4]⟩
def c129 : RFunc := ⟨41, .code (.seq (.region [⟨(some 3), .box 24 (.tmp 0), none⟩,
 ⟨(some 6), .mov (.val (.bool false)), none⟩])
 (.seq (.region [⟨(some 7), .new 181 [(.bool false), (.bool false), (.bool false), (.bool false), (.bool false), (.bool false), (.bool false), (.bool false)], none⟩])
 (.seq (.region [⟨(some 8), .mov (.val (.int .i64 0)), none⟩])
 (.seq (.seq (.region [⟨(some 11), .load (some 16) (.val (.ptr 0 0)), none⟩,
 ⟨(some 12), .mov (.val (.int .i64 0)), none⟩])
 (.block 0 (.loop (.seq (.region [⟨(some 13), .bin .lss (.tmp 12) (.val (.int .i64 8)), none⟩])
 (.seq (.cond (.tmp 13) (.skip)
 (.exit 0))
 (.seq (.block 1 (.seq (.region [⟨(some 14), .mov (.tmp 12), none⟩,
 ⟨(some 15), .indexA 8 2 true (.tmp 11) (.tmp 12), none⟩,
 ⟨(some 10), .new 88 [(.int .i64 0), (.int .i64 0)], none⟩,
 ⟨(some 9), .mov (.tmp 14), none⟩,
 ⟨none, .store 2 (.tmp 10) (.tmp 15), none⟩])
 (.seq (.region [⟨(some 16), .mov (.tmp 9), none⟩,
 ⟨(some 17), .load (some 3) (.tmp 3), none⟩,
 ⟨(some 18), .mov (.tmp 1), none⟩,
 ⟨(some 19), .fieldAddr 0 (.tmp 10), none⟩,
 ⟨(some 20), .load none (.tmp 19), none⟩,
 ⟨(some 21), .bin .add (.tmp 18) (.tmp 20), none⟩,
 ⟨(some 22), .mov (.tmp 2), none⟩,
 ⟨(some 23), .fieldAddr 1 (.tmp 10), none⟩,
 ⟨(some 24), .load none (.tmp 23), none⟩,
 ⟨(some 25), .bin .add (.tmp 22) (.tmp 24), none⟩,
 ⟨(some 26), .call (.val (.func (.func 109) [] [])) [(.tmp 17), (.tmp 21), (.tmp 25)], none⟩,
 ⟨(some 27), .idxA 8 1 (.tmp 7) (.tmp 16), none⟩,
 ⟨none, .store 1 (.tmp 27) (.tmp 26), none⟩])
 (.seq (.region [⟨(some 28), .mov (.tmp 9), none⟩,
 ⟨(some 29), .idxA 8 1 (.tmp 7) (.tmp 28), none⟩,
 ⟨(some 30), .load none (.tmp 29), none⟩])
 (.cond (.tmp 30) (.region [⟨(some 31), .mov (.tmp 8), none⟩,
 ⟨(some 32), .bin .add (.tmp 31) (.val (.int .i64 1)), none⟩,
 ⟨(some 8), .mov (.tmp 32), none⟩])
 (.skip))))))
 (.region [⟨(some 33), .bin .add (.tmp 12) (.val (.int .i64 1)), none⟩,
 ⟨(some 12), .mov (.tmp 33), none⟩])))))))
 (.seq (.region [⟨(some 34), .load (some 8) (.tmp 7), none⟩,
 ⟨(some 35), .call (.val (.func (.func 163) [] [])) [(.tmp 34)], none⟩,
 ⟨(some 36), .bin .eql (.tmp 35) (.val (.int .i64 1)), none⟩,
 ⟨(some 37), .mov (.tmp 36), none⟩,
 ⟨(some 38), .mov (.tmp 8), some (37, true)⟩,
 ⟨(some 39), .bin .gtr (.tmp 38) (.val (.int .i64 1)), some (37, true)⟩,
 ⟨(some 40), .pick (.tmp 37) (.tmp 39) (.val (.bool false)), none⟩,
 ⟨(some 6), .mov (.tmp 40), none⟩])
 (.ret)))))), [.tmp 6]⟩
def c130 : RFunc := ⟨39, .code (.seq (.region [⟨(some 4), .box 24 (.tmp 0), none⟩])
 (.seq (.region [⟨(some 10), .load (some 16) (.val (.ptr 0 0)), none⟩,
 ⟨(some 11), .mov (.val (.int .i64 0)), none⟩])
 (.block 0 (.loop (.seq (.region [⟨(some 12), .bin .lss (.tmp 11) (.val (.int .i64 8)), none⟩])
 (.seq (.cond (.tmp 12) (.skip)
 (.exit 0))
 (.seq (.block 1 (.seq (.region [⟨(some 13), .indexA 8 2 true (.tmp 10) (.tmp 11), none⟩,
 ⟨(some 9), .new 88 [(.int .i64 0), (.int .i64 0)], none⟩,
 ⟨none, .store 2 (.tmp 9) (.tmp 13), none⟩])
 (.seq (.region [⟨(some 14), .load (some 3) (.tmp 4), none⟩,
 ⟨(some 15), .mov (.tmp 2), none⟩,
 ⟨(some 16), .fieldAddr 0 (.tmp 9), none⟩,
 ⟨(some 17), .load none (.tmp 16), none⟩,
 ⟨(some 18), .bin .add (.tmp 15) (.tmp 17), none⟩,
 ⟨(some 19), .mov (.tmp 3), none⟩,
 ⟨(some 20), .fieldAddr 1 (.tmp 9), none⟩,
 ⟨(some 21), .load none (.tmp 20), none⟩,
 ⟨(some 22), .bin .add (.tmp 19) (.tmp 21), none⟩,
 ⟨(some 23), .call (.val (.func (.func 109) [] [])) [(.tmp 14), (.tmp 18), (.tmp 22)], none⟩])
 (.cond (.tmp 23) (.region [⟨(some 24), .mov (.tmp 1), none⟩,
 ⟨(some 25), .mov (.tmp 3), none⟩,
 ⟨(some 26), .fieldAddr 1 (.tmp 9), none⟩,
 ⟨(some 27), .load none (.tmp 26), none⟩,
 ⟨(some 28), .bin .add (.tmp 25) (.tmp 27), none⟩,
 ⟨(some 29), .fieldAddr 0 (.tmp 4), none⟩,
 ⟨(some 30), .load none (.tmp 29), none⟩,
 ⟨(some 31), .bin .mul (.tmp 28) (.tmp 30), none⟩,
 ⟨(some 32), .mov (.tmp 2), none⟩,
 ⟨(some 33), .bin .add (.tmp 31) (.tmp 32), none⟩,
 ⟨(some 34), .fieldAddr 0 (.tmp 9), none⟩,
 ⟨(some 35), .load none (.tmp 34), none⟩,
 ⟨(some 36), .bin .add (.tmp 33) (.tmp 35), none⟩,
 ⟨(some 37), .idxS 1 (.tmp 24) (.tmp 36), none⟩,
 ⟨none, .store 1 (.tmp 37) (.val (.int .u8 1)), none⟩])
 (.skip)))))
 (.region [⟨(some 38), .bin .add (.tmp 11) (.val (.int .i64 1)), none⟩,
 ⟨(some 11), .mov (.tmp 38), none⟩])))))))), []⟩
def c132 : RFunc := ⟨19, .code (.seq (.region [⟨(some 4), .mov (.val (.int .i64 0)), none⟩,
 ⟨(some 5), .mov (.val .niface), none⟩])
 (.seq (.region [⟨(some 6), .mov (.tmp 0), none⟩,
 ⟨(some 7), .call (.val (.func (.func 164) [] [])) [(.tmp 6)], none⟩])
 (.seq (.region [⟨(some 8), .mov (.tmp 0), none⟩,
 ⟨(some 9), .mov (.tmp 0), none⟩,
 ⟨(some 10), .nilCheck (.tmp 9), none⟩,
 ⟨(some 11), .fieldAddr 1 (.tmp 10), none⟩,
 ⟨(some 12), .load none (.tmp 11), none⟩,
 ⟨(some 13), .mov (.tmp 1), none⟩,
 ⟨(some 14), .append 5 1 1 (.tmp 12) (.tmp 13), none⟩,
 ⟨(some 15), .nilCheck (.tmp 8), none⟩,
 ⟨(some 16), .fieldAddr 1 (.tmp 15), none⟩,
 ⟨none, .store 1 (.tmp 16) (.tmp 14), none⟩])
 (.seq (.region [⟨(some 17), .mov (.tmp 1), none⟩,
 ⟨(some 18), .lenStr (.tmp 17), none⟩,
 ⟨(some 4), .mov (.tmp 18), none⟩,
 ⟨(some 5), .mov (.val .niface), none⟩])
 (.ret))))), [.tmp 4, .tmp 5]⟩
def c133 : RFunc := ⟨5, .code (.seq (.region [⟨(some 2), .mov (.val (.str ⟨#[]⟩)), none⟩])
 (.seq (.region [⟨(some 3), .mov (.tmp 0), none⟩,
 ⟨(some 4), .call (.val (.func (.func 165) [] [])) [(.tmp 3)], none⟩,
 ⟨(some 2), .mov (.tmp 4), none⟩])
 (.ret))), [.tmp 2]⟩
def c134 : RFunc := ⟨17, .code (.seq (.region [⟨(some 4), .mov (.val .niface), none⟩])
 (.seq (.region [⟨(some 5), .mov (.tmp 0), none⟩,
 ⟨(some 6), .call (.val (.func (.func 164) [] [])) [(.tmp 5)], none⟩])
 (.seq (.region [⟨(some 7), .mov (.tmp 0), none⟩,
 ⟨(some 8), .mov (.tmp 0), none⟩,
 ⟨(some 9), .nilCheck (.tmp 8), none⟩,
 ⟨(some 10), .fieldAddr 1 (.tmp 9), none⟩,
 ⟨(some 11), .load none (.tmp 10), none⟩,
 ⟨(some 12), .mov (.tmp 1), none⟩,
 ⟨(some 13), .buildSlice 5 1 1 [(.int .u8 0)] [(0, 1, (.tmp 12))], none⟩,
 ⟨(some 14), .append 5 1 1 (.tmp 11) (.tmp 13), none⟩,
 ⟨(some 15), .nilCheck (.tmp 7), none⟩,
 ⟨(some 16), .fieldAddr 1 (.tmp 15), none⟩,
 ⟨none, .store 1 (.tmp 16) (.tmp 14), none⟩])
 (.seq (.region [⟨(some 4), .mov (.val .niface), none⟩])
 (.ret))))), [.tmp 4]⟩
def c135 : RFunc := ⟨14, .code (.seq (.region [⟨(some 2), .mov (.val (.str ⟨#[]⟩)), none⟩])
 (.seq (.dregion [⟨⟨(some 3), .mov (.tmp 0), none⟩, 0, 0, true⟩,
 ⟨⟨(some 4), .nilCheck (.tmp 3), none⟩, 1, 0, true⟩,
 ⟨⟨(some 5), .fieldAddr 1 (.tmp 4), none⟩, 3, 0, true⟩,
 ⟨⟨(some 6), .load none (.tmp 5), none⟩, 7, 1, true⟩,
 ⟨⟨(some 7), .sliceData 1 (.tmp 6), none⟩, 15, 1, true⟩,
 ⟨⟨(some 8), .mov (.tmp 0), none⟩, 0, 0, true⟩,
 ⟨⟨(some 9), .nilCheck (.tmp 8), none⟩, 32, 0, true⟩,
 ⟨⟨(some 10), .fieldAddr 1 (.tmp 9), none⟩, 96, 0, true⟩,
 ⟨⟨(some 11), .load none (.tmp 10), none⟩, 224, 1, true⟩,
 ⟨⟨(some 12), .lenS (.tmp 11), none⟩, 480, 0, true⟩,
 ⟨⟨(some 13), .unsafeStr 5 (.tmp 7) (.tmp 12), none⟩, 1023, 2, false⟩,
 ⟨⟨(some 2), .mov (.tmp 13), none⟩, 2047, 0, false⟩])
 (.ret))), [.tmp 2]⟩
def c142 : RFunc := ⟨13, .code (.seq (.region [⟨(some 1), .box 24 (.tmp 0), none⟩])
 (.seq (.region [⟨(some 3), .fieldAddr 1 (.tmp 1), none⟩,
 ⟨(some 4), .load none (.tmp 3), none⟩,
 ⟨(some 5), .mov (.val (.int .i64 0)), none⟩])
 (.block 0 (.loop (.seq (.region [⟨(some 6), .bin .lss (.tmp 5) (.tmp 4), none⟩])
 (.seq (.cond (.tmp 6) (.skip)
 (.exit 0))
 (.seq (.block 1 (.seq (.region [⟨(some 7), .mov (.tmp 5), none⟩,
 ⟨(some 2), .mov (.tmp 7), none⟩])
 (.region [⟨(some 8), .load (some 3) (.tmp 1), none⟩,
 ⟨(some 9), .mov (.tmp 2), none⟩,
 ⟨(some 10), .call (.val (.func (.func 118) [] [])) [(.tmp 8), (.tmp 9)], none⟩,
 ⟨(some 11), .call (.val (.func (.func 126) [] [])) [(.tmp 10)], none⟩])))
 (.region [⟨(some 12), .bin .add (.tmp 5) (.val (.int .i64 1)), none⟩,
 ⟨(some 5), .mov (.tmp 12), none⟩])))))))), []⟩
def c143 : RFunc := ⟨43, .code (.seq (.region [⟨(some 1), .box 24 (.tmp 0), none⟩,
 ⟨(some 2), .new 24 [(.int .i64 0), (.int .i64 0), .nslice], none⟩])
 (.seq (.region [⟨(some 7), .fieldAddr 1 (.tmp 1), none⟩,
 ⟨(some 8), .load none (.tmp 7), none⟩,
 ⟨(some 9), .fieldAddr 0 (.tmp 1), none⟩,
 ⟨(some 10), .load none (.tmp 9), none⟩,
 ⟨(some 11), .call (.val (.func (.func 103) [] [])) [(.tmp 8), (.tmp 10)], none⟩,
 ⟨(some 3), .new 24 [(.int .i64 0), (.int .i64 0), .nslice], none⟩,
 ⟨none, .store 3 (.tmp 3) (.tmp 11), none⟩])
 (.seq (.seq (.region [⟨(some 12), .fieldAddr 1 (.tmp 1), none⟩,
 ⟨(some 13), .load none (.tmp 12), none⟩,
 ⟨(some 14), .mov (.val (.int .i64 0)), none⟩])
 (.block 0 (.loop (.seq (.region [⟨(some 15), .bin .lss (.tmp 14) (.tmp 13), none⟩])
 (.seq (.cond (.tmp 15) (.skip)
 (.exit 0))
 (.seq (.block 1 (.seq (.region [⟨(some 16), .mov (.tmp 14), none⟩,
 ⟨(some 4), .mov (.tmp 16), none⟩])
 (.seq (.region [⟨(some 17), .load (some 3) (.tmp 1), none⟩,
 ⟨(some 18), .mov (.tmp 4), none⟩,
 ⟨(some 19), .call (.val (.func (.func 118) [] [])) [(.tmp 17), (.tmp 18)], none⟩,
 ⟨(some 20), .lenS (.tmp 19), none⟩,
 ⟨(some 21), .mov (.val (.int .i64 0)), none⟩])
 (.block 2 (.loop (.seq (.region [⟨(some 22), .bin .lss (.tmp 21) (.tmp 20), none⟩])
 (.seq (.cond (.tmp 22) (.skip)
 (.exit 2))
 (.seq (.block 3 (.seq (.region [⟨(some 23), .mov (.tmp 21), none⟩,
 ⟨(some 24), .idxS 1 (.tmp 19) (.tmp 21), none⟩,
 ⟨(some 25), .load none (.tmp 24), none⟩,
 ⟨(some 5), .mov (.tmp 23), none⟩,
 ⟨(some 6), .mov (.tmp 25), none⟩])
 (.region [⟨(some 26), .fieldAddr 2 (.tmp 3), none⟩,
 ⟨(some 27), .load none (.tmp 26), none⟩,
 ⟨(some 28), .mov (.tmp 5), none⟩,
 ⟨(some 29), .fieldAddr 0 (.tmp 3), none⟩,
 ⟨(some 30), .load none (.tmp 29), none⟩,
 ⟨(some 31), .bin .mul (.tmp 28) (.tmp 30), none⟩,
 ⟨(some 32), .fieldAddr 1 (.tmp 1), none⟩,
 ⟨(some 33), .load none (.tmp 32), none⟩,
 ⟨(some 34), .bin .add (.tmp 31) (.tmp 33), none⟩,
 ⟨(some 35), .bin .sub (.tmp 34) (.val (.int .i64 1)), none⟩,
 ⟨(some 36), .mov (.tmp 4), none⟩,
 ⟨(some 37), .bin .sub (.tmp 35) (.tmp 36), none⟩,
 ⟨(some 38), .mov (.tmp 6), none⟩,
 ⟨(some 39), .idxS 1 (.tmp 27) (.tmp 37), none⟩,
 ⟨none, .store 1 (.tmp 39) (.tmp 38), none⟩])))
 (.region [⟨(some 40), .bin .add (.tmp 21) (.val (.int .i64 1)), none⟩,
 ⟨(some 21), .mov (.tmp 40), none⟩])))))))))
 (.region [⟨(some 41), .bin .add (.tmp 14) (.val (.int .i64 1)), none⟩,
 ⟨(some 14), .mov (.tmp 41), none⟩])))))))
 (.seq (.region [⟨(some 42), .load (some 3) (.tmp 3), none⟩,
 ⟨none, .store 3 (.tmp 2) (.tmp 42), none⟩])
 (.ret))))), [.cell 2 (some 3)]⟩
def c146 : RFunc := ⟨21, .code (.seq (.region [⟨(some 2), .box 46 (.tmp 0), none⟩,
 ⟨(some 3), .box 24 (.tmp 1), none⟩,
 ⟨(some 4), .mov (.val (.bool false)), none⟩])
 (.seq (.region [⟨(some 5), .fieldAddr 0 (.tmp 2), none⟩,
 ⟨(some 6), .load none (.tmp 5), none⟩,
 ⟨(some 7), .fieldAddr 2 (.tmp 2), none⟩,
 ⟨(some 8), .load none (.tmp 7), none⟩,
 ⟨(some 9), .fieldAddr 0 (.tmp 3), none⟩,
 ⟨(some 10), .load none (.tmp 9), none⟩,
 ⟨(some 11), .call (.val (.func (.func 169) [] [])) [(.tmp 6), (.tmp 8), (.tmp 10)], none⟩,
 ⟨(some 12), .mov (.tmp 11), none⟩,
 ⟨(some 13), .fieldAddr 1 (.tmp 2), some (12, true)⟩,
 ⟨(some 14), .load none (.tmp 13), some (12, true)⟩,
 ⟨(some 15), .fieldAddr 3 (.tmp 2), some (12, true)⟩,
 ⟨(some 16), .load none (.tmp 15), some (12, true)⟩,
 ⟨(some 17), .fieldAddr 1 (.tmp 3), some (12, true)⟩,
 ⟨(some 18), .load none (.tmp 17), some (12, true)⟩,
 ⟨(some 19), .call (.val (.func (.func 169) [] [])) [(.tmp 14), (.tmp 16), (.tmp 18)], some (12, true)⟩,
 ⟨(some 20), .pick (.tmp 12) (.tmp 19) (.val (.bool false)), none⟩,
 ⟨(some 4), .mov (.tmp 20), none⟩])
 (.ret))), [.tmp 4]⟩
def c147 : RFunc := ⟨8, .code (.seq (.region [⟨(some 4), .mov (.val (.int .u8 0)), none⟩])
 (.seq (.region [⟨(some 5), .mov (.tmp 0), none⟩,
 ⟨(some 6), .mov (.tmp 1), none⟩,
 ⟨(some 7), .bin .or (.tmp 5) (.tmp 6), none⟩,
 ⟨(some 4), .mov (.tmp 7), none⟩])
 (.ret))), [.tmp 4]⟩
def c148 : RFunc := ⟨8, .code (.seq (.region [⟨(some 4), .mov (.val (.int .u8 0)), none⟩])
 (.seq (.region [⟨(some 5), .mov (.tmp 0), none⟩,
 ⟨(some 6), .mov (.tmp 1), none⟩,
 ⟨(some 7), .bin .and (.tmp 5) (.tmp 6), none⟩,
 ⟨(some 4), .mov (.tmp 7), none⟩])
 (.ret))), [.tmp 4]⟩
def c149 : RFunc := ⟨8, .code (.seq (.region [⟨(some 4), .mov (.val (.int .u8 0)), none⟩])
 (.seq (.region [⟨(some 5), .mov (.tmp 0), none⟩,
 ⟨(some 6), .mov (.tmp 1), none⟩,
 ⟨(some 7), .bin .andNot (.tmp 5) (.tmp 6), none⟩,
 ⟨(some 4), .mov (.tmp 7), none⟩])
 (.ret))), [.tmp 4]⟩
def c152 : RFunc := ⟨19, .code (.seq (.region [⟨(some 4), .mov (.val (.int .i64 0)), none⟩])
 (.seq (.seq (.region [⟨(some 6), .mov (.tmp 0), none⟩,
 ⟨(some 7), .lenS (.tmp 6), none⟩,
 ⟨(some 8), .mov (.val (.int .i64 0)), none⟩])
 (.block 0 (.loop (.seq (.region [⟨(some 9), .bin .lss (.tmp 8) (.tmp 7), none⟩])
 (.seq (.cond (.tmp 9) (.skip)
 (.exit 0))
 (.seq (.block 1 (.seq (.region [⟨(some 10), .mov (.tmp 8), none⟩,
 ⟨(some 5), .mov (.tmp 10), none⟩])
 (.seq (.region [⟨(some 11), .mov (.tmp 1), none⟩,
 ⟨(some 12), .mov (.tmp 0), none⟩,
 ⟨(some 13), .mov (.tmp 5), none⟩,
 ⟨(some 14), .idxS 3 (.tmp 12) (.tmp 13), none⟩,
 ⟨(some 15), .load (some 3) (.tmp 14), none⟩,
 ⟨(some 16), .call (.tmp 11) [(.tmp 15)], none⟩])
 (.cond (.tmp 16) (.seq (.region [⟨(some 17), .mov (.tmp 5), none⟩,
 ⟨(some 4), .mov (.tmp 17), none⟩])
 (.ret))
 (.skip)))))
 (.region [⟨(some 18), .bin .add (.tmp 8) (.val (.int .i64 1)), none⟩,
 ⟨(some 8), .mov (.tmp 18), none⟩])))))))
 (.seq (.region [⟨(some 4), .mov (.val (.int .i64 (-1))), none⟩])
 (.ret)))), [.tmp 4]⟩
def c153 : RFunc := ⟨27, .code (.seq (.region [⟨(some 2), .mov (.val (.int .i64 0)), none⟩])
 (.seq (.region [⟨(some 6), .mov (.tmp 0), none⟩,
 ⟨(some 7), .lenS (.tmp 6), none⟩,
 ⟨(some 3), .mov (.tmp 7), none⟩])
 (.seq (.region [⟨(some 4), .mov (.val (.int .i64 0)), none⟩])
 (.seq (.block 0 (.loop (.seq (.seq (.region [⟨(some 8), .mov (.tmp 4), none⟩,
 ⟨(some 9), .mov (.tmp 3), none⟩,
 ⟨(some 10), .bin .lss (.tmp 8) (.tmp 9), none⟩])
 (.cond (.tmp 10) (.skip)
 (.exit 0)))
 (.seq (.block 1 (.seq (.region [⟨(some 13), .mov (.tmp 0), none⟩,
 ⟨(some 14), .mov (.tmp 4), none⟩,
 ⟨(some 15), .idxS 1 (.tmp 13) (.tmp 14), none⟩,
 ⟨(some 16), .load none (.tmp 15), none⟩,
 ⟨(some 5), .mov (.tmp 16), none⟩])
 (.seq (.region [⟨(some 17), .mov (.tmp 5), none⟩,
 ⟨(some 18), .bin .geq (.tmp 17) (.val (.int .u8 128)), none⟩])
 (.cond (.tmp 18) (.seq (.region [⟨(some 19), .mov (.tmp 4), none⟩,
 ⟨(some 20), .mov (.tmp 0), none⟩,
 ⟨(some 21), .mov (.tmp 4), none⟩,
 ⟨(some 22), .sliceS 1 (.tmp 20) (some (.tmp 21)) none none, none⟩,
 ⟨(some 23), .bytesToStr (.tmp 22), none⟩,
 ⟨(some 24), .call (.val (.func (.func 170) [] [])) [(.tmp 23)], none⟩,
 ⟨(some 25), .bin .add (.tmp 19) (.tmp 24), none⟩,
 ⟨(some 2), .mov (.tmp 25), none⟩])
 (.ret))
 (.skip)))))
 (.region [⟨(some 11), .mov (.tmp 4), none⟩,
 ⟨(some 12), .bin .add (.tmp 11) (.val (.int .i64 1)), none⟩,
 ⟨(some 4), .mov (.tmp 12), none⟩])))))
 (.seq (.region [⟨(some 26), .mov (.tmp 4), none⟩,
 ⟨(some 2), .mov (.tmp 26), none⟩])
 (.ret)))))), [.tmp 2]⟩
def c155 : RFunc := ⟨200, .code (.seq (.region [⟨(some 4), .mov (.val (.int .i64 0)), none⟩])
 (.seq (.region [⟨(some 20), .mov (.tmp 1), none⟩,
 ⟨(some 21), .lenS (.tmp 20), none⟩,
 ⟨(some 5), .mov (.tmp 21), none⟩])
 (.seq (.block 0 (.seq (.region [⟨(some 23), .mov (.tmp 5), none⟩,
 ⟨(some 24), .bin .eql (.tmp 23) (.val (.int .i64 0)), none⟩,
 ⟨(some 22), .mov (.tmp 24), none⟩])
 (.cond (.tmp 22) (.seq (.region [⟨(some 4), .mov (.val (.int .i64 0)), none⟩])
 (.ret))
 (.seq (.region [⟨(some 26), .mov (.tmp 5), none⟩,
 ⟨(some 27), .bin .eql (.tmp 26) (.val (.int .i64 1)), none⟩,
 ⟨(some 25), .mov (.tmp 27), none⟩])
 (.cond (.tmp 25) (.seq (.region [⟨(some 28), .mov (.tmp 0), none⟩,
 ⟨(some 29), .mov (.tmp 1), none⟩,
 ⟨(some 30), .idxS 1 (.tmp 29) (.val (.int .i64 0)), none⟩,
 ⟨(some 31), .load none (.tmp 30), none⟩,
 ⟨(some 32), .call (.val (.func (.func 128) [] [])) [(.tmp 28), (.tmp 31)], none⟩,
 ⟨(some 4), .mov (.tmp 32), none⟩])
 (.ret))
 (.seq (.region [⟨(some 34), .mov (.tmp 5), none⟩,
 ⟨(some 35), .mov (.tmp 0), none⟩,
 ⟨(some 36), .lenS (.tmp 35), none⟩,
 ⟨(some 37), .bin .eql (.tmp 34) (.tmp 36), none⟩,
 ⟨(some 33), .mov (.tmp 37), none⟩])
 (.cond (.tmp 33) (.seq (.seq (.region [⟨(some 38), .mov (.tmp 1), none⟩,
 ⟨(some 39), .mov (.tmp 0), none⟩,
 ⟨(some 40), .call (.val (.func (.func 171) [] [])) [(.tmp 38), (.tmp 39)], none⟩])
 (.cond (.tmp 40) (.seq (.region [⟨(some 4), .mov (.val (.int .i64 0)), none⟩])
 (.ret))
 (.skip)))
 (.seq (.region [⟨(some 4), .mov (.val (.int .i64 (-1))), none⟩])
 (.ret)))
 (.seq (.region [⟨(some 42), .mov (.tmp 5), none⟩,
 ⟨(some 43), .mov (.tmp 0), none⟩,
 ⟨(some 44), .lenS (.tmp 43), none⟩,
 ⟨(some 45), .bin .gtr (.tmp 42) (.tmp 44), none⟩,
 ⟨(some 41), .mov (.tmp 45), none⟩])
 (.cond (.tmp 41) (.seq (.region [⟨(some 4), .mov (.val (.int .i64 (-1))), none⟩])
 (.ret))
 (.seq (.region [⟨(some 47), .mov (.tmp 5), none⟩,
 ⟨(some 48), .load none (.val (.ptr 1 0)), none⟩,
 ⟨(some 49), .bin .leq (.tmp 47) (.tmp 48), none⟩,
 ⟨(some 46), .mov (.tmp 49), none⟩])
 (.cond (.tmp 46) (.seq (.seq (.region [⟨(some 50), .mov (.tmp 0), none⟩,
 ⟨(some 51), .lenS (.tmp 50), none⟩,
 ⟨(some 52), .bin .leq (.tmp 51) (.val (.int .i64 64)), none⟩])
 (.cond (.tmp 52) (.seq (.region [⟨(some 53), .mov (.tmp 0), none⟩,
 ⟨(some 54), .mov (.tmp 1), none⟩,
 ⟨(some 55), .call (.val (.func (.func 172) [] [])) [(.tmp 53), (.tmp 54)], none⟩,
 ⟨(some 4), .mov (.tmp 55), none⟩])
 (.ret))
 (.skip)))
 (.seq (.region [⟨(some 56), .mov (.tmp 1), none⟩,
 ⟨(some 57), .idxS 1 (.tmp 56) (.val (.int .i64 0)), none⟩,
 ⟨(some 58), .load none (.tmp 57), none⟩,
 ⟨(some 6), .mov (.tmp 58), none⟩])
 (.seq (.region [⟨(some 59), .mov (.tmp 1), none⟩,
 ⟨(some 60), .idxS 1 (.tmp 59) (.val (.int .i64 1)), none⟩,
 ⟨(some 61), .load none (.tmp 60), none⟩,
 ⟨(some 7), .mov (.tmp 61), none⟩])
 (.seq (.region [⟨(some 8), .mov (.val (.int .i64 0)), none⟩])
 (.seq (.region [⟨(some 62), .mov (.tmp 0), none⟩,
 ⟨(some 63), .lenS (.tmp 62), none⟩,
 ⟨(some 64), .mov (.tmp 5), none⟩,
 ⟨(some 65), .bin .sub (.tmp 63) (.tmp 64), none⟩,
 ⟨(some 66), .bin .add (.tmp 65) (.val (.int .i64 1)), none⟩,
 ⟨(some 9), .mov (.tmp 66), none⟩])
 (.seq (.region [⟨(some 10), .mov (.val (.int .i64 0)), none⟩])
 (.seq (.block 1 (.loop (.seq (.seq (.region [⟨(some 67), .mov (.tmp 8), none⟩,
 ⟨(some 68), .mov (.tmp 9), none⟩,
 ⟨(some 69), .bin .lss (.tmp 67) (.tmp 68), none⟩])
 (.cond (.tmp 69) (.skip)
 (.exit 1)))
 (.block 2 (.seq (.seq (.region [⟨(some 70), .mov (.tmp 0), none⟩,
 ⟨(some 71), .mov (.tmp 8), none⟩,
 ⟨(some 72), .idxS 1 (.tmp 70) (.tmp 71), none⟩,
 ⟨(some 73), .load none (.tmp 72), none⟩,
 ⟨(some 74), .mov (.tmp 6), none⟩,
 ⟨(some 75), .bin .neq (.tmp 73) (.tmp 74), none⟩])
 (.cond (.tmp 75) (.seq (.region [⟨(some 76), .mov (.tmp 0), none⟩,
 ⟨(some 77), .mov (.tmp 8), none⟩,
 ⟨(some 78), .bin .add (.tmp 77) (.val (.int .i64 1)), none⟩,
 ⟨(some 79), .mov (.tmp 9), none⟩,
 ⟨(some 80), .sliceS 1 (.tmp 76) (some (.tmp 78)) (some (.tmp 79)) none, none⟩,
 ⟨(some 81), .mov (.tmp 6), none⟩,
 ⟨(some 82), .call (.val (.func (.func 128) [] [])) [(.tmp 80), (.tmp 81)], none⟩,
 ⟨(some 11), .mov (.tmp 82), none⟩])
 (.seq (.seq (.region [⟨(some 83), .mov (.tmp 11), none⟩,
 ⟨(some 84), .bin .lss (.tmp 83) (.val (.int .i64 0)), none⟩])
 (.cond (.tmp 84) (.seq (.region [⟨(some 4), .mov (.val (.int .i64 (-1))), none⟩])
 (.ret))
 (.skip)))
 (.region [⟨(some 85), .mov (.tmp 8), none⟩,
 ⟨(some 86), .mov (.tmp 11), none⟩,
 ⟨(some 87), .bin .add (.tmp 86) (.val (.int .i64 1)), none⟩,
 ⟨(some 88), .bin .add (.tmp 85) (.tmp 87), none⟩,
 ⟨(some 8), .mov (.tmp 88), none⟩])))
 (.skip)))
 (.seq (.seq (.region [⟨(some 89), .mov (.tmp 0), none⟩,
 ⟨(some 90), .mov (.tmp 8), none⟩,
 ⟨(some 91), .bin .add (.tmp 90) (.val (.int .i64 1)), none⟩,
 ⟨(some 92), .idxS 1 (.tmp 89) (.tmp 91), none⟩,
 ⟨(some 93), .load none (.tmp 92), none⟩,
 ⟨(some 94), .mov (.tmp 7), none⟩,
 ⟨(some 95), .bin .eql (.tmp 93) (.tmp 94), none⟩,
 ⟨(some 96), .mov (.tmp 95), none⟩,
 ⟨(some 97), .mov (.tmp 0), some (96, true)⟩,
 ⟨(some 98), .mov (.tmp 8), some (96, true)⟩,
 ⟨(some 99), .mov (.tmp 8), some (96, true)⟩,
 ⟨(some 100), .mov (.tmp 5), some (96, true)⟩,
 ⟨(some 101), .bin .add (.tmp 99) (.tmp 100), some (96, true)⟩,
 ⟨(some 102), .sliceS 1 (.tmp 97) (some (.tmp 98)) (some (.tmp 101)) none, some (96, true)⟩,
 ⟨(some 103), .mov (.tmp 1), some (96, true)⟩,
 ⟨(some 104), .call (.val (.func (.func 171) [] [])) [(.tmp 102), (.tmp 103)], some (96, true)⟩,
 ⟨(some 105), .pick (.tmp 96) (.tmp 104) (.val (.bool false)), none⟩])
 (.cond (.tmp 105) (.seq (.region [⟨(some 106), .mov (.tmp 8), none⟩,
 ⟨(some 4), .mov (.tmp 106), none⟩])
 (.ret))
 (.skip)))
 (.seq (.region [⟨(some 107), .mov (.tmp 10), none⟩,
 ⟨(some 108), .bin .add (.tmp 107) (.val (.int .i64 1)), none⟩,
 ⟨(some 10), .mov (.tmp 108), none⟩])
 (.seq (.region [⟨(some 109), .mov (.tmp 8), none⟩,
 ⟨(some 110), .bin .add (.tmp 109) (.val (.int .i64 1)), none⟩,
 ⟨(some 8), .mov (.tmp 110), none⟩])
 (.seq (.region [⟨(some 111), .mov (.tmp 10), none⟩,
 ⟨(some 112), .mov (.tmp 8), none⟩,
 ⟨(some 113), .call (.val (.func (.func 173) [] [])) [(.tmp 112)], none⟩,
 ⟨(some 114), .bin .gtr (.tmp 111) (.tmp 113), none⟩])
 (.cond (.tmp 114) (.seq (.region [⟨(some 115), .mov (.tmp 0), none⟩,
 ⟨(some 116), .mov (.tmp 8), none⟩,
 ⟨(some 117), .sliceS 1 (.tmp 115) (some (.tmp 116)) none none, none⟩,
 ⟨(some 118), .mov (.tmp 1), none⟩,
 ⟨(some 119), .call (.val (.func (.func 172) [] [])) [(.tmp 117), (.tmp 118)], none⟩,
 ⟨(some 12), .mov (.tmp 119), none⟩])
 (.seq (.seq (.region [⟨(some 120), .mov (.tmp 12), none⟩,
 ⟨(some 121), .bin .geq (.tmp 120) (.val (.int .i64 0)), none⟩])
 (.cond (.tmp 121) (.seq (.region [⟨(some 122), .mov (.tmp 12), none⟩,
 ⟨(some 123), .mov (.tmp 8), none⟩,
 ⟨(some 124), .bin .add (.tmp 122) (.tmp 123), none⟩,
 ⟨(some 4), .mov (.tmp 124), none⟩])
 (.ret))
 (.skip)))
 (.seq (.region [⟨(some 4), .mov (.val (.int .i64 (-1))), none⟩])
 (.ret))))
 (.skip)))))))))))
 (.seq (.region [⟨(some 4), .mov (.val (.int .i64 (-1))), none⟩])
 (.ret)))))))))
 (.skip))))))))))))
 (.seq (.region [⟨(some 125), .mov (.tmp 1), none⟩,
 ⟨(some 126), .idxS 1 (.tmp 125) (.val (.int .i64 0)), none⟩,
 ⟨(some 127), .load none (.tmp 126), none⟩,
 ⟨(some 13), .mov (.tmp 127), none⟩])
 (.seq (.region [⟨(some 128), .mov (.tmp 1), none⟩,
 ⟨(some 129), .idxS 1 (.tmp 128) (.val (.int .i64 1)), none⟩,
 ⟨(some 130), .load none (.tmp 129), none⟩,
 ⟨(some 14), .mov (.tmp 130), none⟩])
 (.seq (.region [⟨(some 15), .mov (.val (.int .i64 0)), none⟩])
 (.seq (.region [⟨(some 16), .mov (.val (.int .i64 0)), none⟩])
 (.seq (.region [⟨(some 131), .mov (.tmp 0), none⟩,
 ⟨(some 132), .lenS (.tmp 131), none⟩,
 ⟨(some 133), .mov (.tmp 5), none⟩,
 ⟨(some 134), .bin .sub (.tmp 132) (.tmp 133), none⟩,
 ⟨(some 135), .bin .add (.tmp 134) (.val (.int .i64 1)), none⟩,
 ⟨(some 17), .mov (.tmp 135), none⟩])
 (.seq (.block 3 (.loop (.seq (.seq (.region [⟨(some 136), .mov (.tmp 15), none⟩,
 ⟨(some 137), .mov (.tmp 17), none⟩,
 ⟨(some 138), .bin .lss (.tmp 136) (.tmp 137), none⟩])
 (.cond (.tmp 138) (.skip)
 (.exit 3)))
 (.block 4 (.seq (.seq (.region [⟨(some 139), .mov (.tmp 0), none⟩,
 ⟨(some 140), .mov (.tmp 15), none⟩,
 ⟨(some 141), .idxS 1 (.tmp 139) (.tmp 140), none⟩,
 ⟨(some 142), .load none (.tmp 141), none⟩,
 ⟨(some 143), .mov (.tmp 13), none⟩,
 ⟨(some 144), .bin .neq (.tmp 142) (.tmp 143), none⟩])
 (.cond (.tmp 144) (.seq (.region [⟨(some 145), .mov (.tmp 0), none⟩,
 ⟨(some 146), .mov (.tmp 15), none⟩,
 ⟨(some 147), .bin .add (.tmp 146) (.val (.int .i64 1)), none⟩,
 ⟨(some 148), .mov (.tmp 17), none⟩,
 ⟨(some 149), .sliceS 1 (.tmp 145) (some (.tmp 147)) (some (.tmp 148)) none, none⟩,
 ⟨(some 150), .mov (.tmp 13), none⟩,
 ⟨(some 151), .call (.val (.func (.func 128) [] [])) [(.tmp 149), (.tmp 150)], none⟩,
 ⟨(some 18), .mov (.tmp 151), none⟩])
 (.seq (.seq (.region [⟨(some 152), .mov (.tmp 18), none⟩,
 ⟨(some 153), .bin .lss (.tmp 152) (.val (.int .i64 0)), none⟩])
 (.cond (.tmp 153) (.exit 3)
 (.skip)))
 (.region [⟨(some 154), .mov (.tmp 15), none⟩,
 ⟨(some 155), .mov (.tmp 18), none⟩,
 ⟨(some 156), .bin .add (.tmp 155) (.val (.int .i64 1)), none⟩,
 ⟨(some 157), .bin .add (.tmp 154) (.tmp 156), none⟩,
 ⟨(some 15), .mov (.tmp 157), none⟩])))
 (.skip)))
 (.seq (.seq (.region [⟨(some 158), .mov (.tmp 0), none⟩,
 ⟨(some 159), .mov (.tmp 15), none⟩,
 ⟨(some 160), .bin .add (.tmp 159) (.val (.int .i64 1)), none⟩,
 ⟨(some 161), .idxS 1 (.tmp 158) (.tmp 160), none⟩,
 ⟨(some 162), .load none (.tmp 161), none⟩,
 ⟨(some 163), .mov (.tmp 14), none⟩,
 ⟨(some 164), .bin .eql (.tmp 162) (.tmp 163), none⟩,
 ⟨(some 165), .mov (.tmp 164), none⟩,
 ⟨(some 166), .mov (.tmp 0), some (165, true)⟩,
 ⟨(some 167), .mov (.tmp 15), some (165, true)⟩,
 ⟨(some 168), .mov (.tmp 15), some (165, true)⟩,
 ⟨(some 169), .mov (.tmp 5), some (165, true)⟩,
 ⟨(some 170), .bin .add (.tmp 168) (.tmp 169), some (165, true)⟩,
 ⟨(some 171), .sliceS 1 (.tmp 166) (some (.tmp 167)) (some (.tmp 170)) none, some (165, true)⟩,
 ⟨(some 172), .mov (.tmp 1), some (165, true)⟩,
 ⟨(some 173), .call (.val (.func (.func 171) [] [])) [(.tmp 171), (.tmp 172)], some (165, true)⟩,
 ⟨(some 174), .pick (.tmp 165) (.tmp 173) (.val (.bool false)), none⟩])
 (.cond (.tmp 174) (.seq (.region [⟨(some 175), .mov (.tmp 15), none⟩,
 ⟨(some 4), .mov (.tmp 175), none⟩])
 (.ret))
 (.skip)))
 (.seq (.region [⟨(some 176), .mov (.tmp 15), none⟩,
 ⟨(some 177), .bin .add (.tmp 176) (.val (.int .i64 1)), none⟩,
 ⟨(some 15), .mov (.tmp 177), none⟩])
 (.seq (.region [⟨(some 178), .mov (.tmp 16), none⟩,
 ⟨(some 179), .bin .add (.tmp 178) (.val (.int .i64 1)), none⟩,
 ⟨(some 16), .mov (.tmp 179), none⟩])
 (.seq (.region [⟨(some 180), .mov (.tmp 16), none⟩,
 ⟨(some 181), .mov (.tmp 15), none⟩,
 ⟨(some 182), .bin .shr (.tmp 181) (.val (.int .u64 4)), none⟩,
 ⟨(some 183), .bin .add (.val (.int .i64 4)) (.tmp 182), none⟩,
 ⟨(some 184), .bin .geq (.tmp 180) (.tmp 183), none⟩,
 ⟨(some 185), .mov (.tmp 184), none⟩,
 ⟨(some 186), .mov (.tmp 15), some (185, true)⟩,
 ⟨(some 187), .mov (.tmp 17), some (185, true)⟩,
 ⟨(some 188), .bin .lss (.tmp 186) (.tmp 187), some (185, true)⟩,
 ⟨(some 189), .pick (.tmp 185) (.tmp 188) (.val (.bool false)), none⟩])
 (.cond (.tmp 189) (.seq (.region [⟨(some 190), .mov (.tmp 0), none⟩,
 ⟨(some 191), .mov (.tmp 15), none⟩,
 ⟨(some 192), .sliceS 1 (.tmp 190) (some (.tmp 191)) none none, none⟩,
 ⟨(some 193), .mov (.tmp 1), none⟩,
 ⟨(some 194), .call (.val (.func (.func 174) [] [])) [(.tmp 192), (.tmp 193)], none⟩,
 ⟨(some 19), .mov (.tmp 194), none⟩])
 (.seq (.seq (.region [⟨(some 195), .mov (.tmp 19), none⟩,
 ⟨(some 196), .bin .lss (.tmp 195) (.val (.int .i64 0)), none⟩])
 (.cond (.tmp 196) (.seq (.region [⟨(some 4), .mov (.val (.int .i64 (-1))), none⟩])
 (.ret))
 (.skip)))
 (.seq (.region [⟨(some 197), .mov (.tmp 15), none⟩,
 ⟨(some 198), .mov (.tmp 19), none⟩,
 ⟨(some 199), .bin .add (.tmp 197) (.tmp 198), none⟩,
 ⟨(some 4), .mov (.tmp 199), none⟩])
 (.ret))))
 (.skip)))))))))))
 (.seq (.region [⟨(some 4), .mov (.val (.int .i64 (-1))), none⟩])
 (.ret))))))))))), [.tmp 4]⟩
def c156 : RFunc := ⟨57, .code (.seq (.region [⟨(some 2), .box 24 (.tmp 0), none⟩,
 ⟨(some 3), .box 46 (.tmp 1), none⟩,
 ⟨(some 4), .mov (.val (.bool false)), none⟩])
 (.seq (.region [⟨(some 5), .fieldAddr 0 (.tmp 3), none⟩,
 ⟨(some 6), .load none (.tmp 5), none⟩,
 ⟨(some 7), .bin .geq (.tmp 6) (.val (.int .i64 0)), none⟩,
 ⟨(some 8), .mov (.tmp 7), none⟩,
 ⟨(some 9), .fieldAddr 1 (.tmp 3), some (8, true)⟩,
 ⟨(some 10), .load none (.tmp 9), some (8, true)⟩,
 ⟨(some 11), .bin .geq (.tmp 10) (.val (.int .i64 0)), some (8, true)⟩,
 ⟨(some 12), .pick (.tmp 8) (.tmp 11) (.val (.bool false)), none⟩,
 ⟨(some 13), .mov (.tmp 12), none⟩,
 ⟨(some 14), .fieldAddr 2 (.tmp 3), some (13, true)⟩,
 ⟨(some 15), .load none (.tmp 14), some (13, true)⟩,
 ⟨(some 16), .bin .geq (.tmp 15) (.val (.int .i64 0)), some (13, true)⟩,
 ⟨(some 17), .pick (.tmp 13) (.tmp 16) (.val (.bool false)), none⟩,
 ⟨(some 18), .mov (.tmp 17), none⟩,
 ⟨(some 19), .fieldAddr 3 (.tmp 3), some (18, true)⟩,
 ⟨(some 20), .load none (.tmp 19), some (18, true)⟩,
 ⟨(some 21), .bin .geq (.tmp 20) (.val (.int .i64 0)), some (18, true)⟩,
 ⟨(some 22), .pick (.tmp 18) (.tmp 21) (.val (.bool false)), none⟩,
 ⟨(some 23), .mov (.tmp 22), none⟩,
 ⟨(some 24), .fieldAddr 2 (.tmp 3), some (23, true)⟩,
 ⟨(some 25), .load none (.tmp 24), some (23, true)⟩,
 ⟨(some 26), .fieldAddr 0 (.tmp 2), some (23, true)⟩,
 ⟨(some 27), .load none (.tmp 26), some (23, true)⟩,
 ⟨(some 28), .bin .leq (.tmp 25) (.tmp 27), some (23, true)⟩,
 ⟨(some 29), .pick (.tmp 23) (.tmp 28) (.val (.bool false)), none⟩,
 ⟨(some 30), .mov (.tmp 29), none⟩,
 ⟨(some 31), .fieldAddr 3 (.tmp 3), some (30, true)⟩,
 ⟨(some 32), .load none (.tmp 31), some (30, true)⟩,
 ⟨(some 33), .fieldAddr 1 (.tmp 2), some (30, true)⟩,
 ⟨(some 34), .load none (.tmp 33), some (30, true)⟩,
 ⟨(some 35), .bin .leq (.tmp 32) (.tmp 34), some (30, true)⟩,
 ⟨(some 36), .pick (.tmp 30) (.tmp 35) (.val (.bool false)), none⟩,
 ⟨(some 37), .mov (.tmp 36), none⟩,
 ⟨(some 38), .fieldAddr 0 (.tmp 3), some (37, true)⟩,
 ⟨(some 39), .load none (.tmp 38), some (37, true)⟩,
 ⟨(some 40), .fieldAddr 0 (.tmp 2), some (37, true)⟩,
 ⟨(some 41), .load none (.tmp 40), some (37, true)⟩,
 ⟨(some 42), .fieldAddr 2 (.tmp 3), some (37, true)⟩,
 ⟨(some 43), .load none (.tmp 42), some (37, true)⟩,
 ⟨(some 44), .bin .sub (.tmp 41) (.tmp 43), some (37, true)⟩,
 ⟨(some 45), .bin .leq (.tmp 39) (.tmp 44), some (37, true)⟩,
 ⟨(some 46), .pick (.tmp 37) (.tmp 45) (.val (.bool false)), none⟩,
 ⟨(some 47), .mov (.tmp 46), none⟩,
 ⟨(some 48), .fieldAddr 1 (.tmp 3), some (47, true)⟩,
 ⟨(some 49), .load none (.tmp 48), some (47, true)⟩,
 ⟨(some 50), .fieldAddr 1 (.tmp 2), some (47, true)⟩,
 ⟨(some 51), .load none (.tmp 50), some (47, true)⟩,
 ⟨(some 52), .fieldAddr 3 (.tmp 3), some (47, true)⟩,
 ⟨(some 53), .load none (.tmp 52), some (47, true)⟩,
 ⟨(some 54), .bin .sub (.tmp 51) (.tmp 53), some (47, true)⟩,
 ⟨(some 55), .bin .leq (.tmp 49) (.tmp 54), some (47, true)⟩,
 ⟨(some 56), .pick (.tmp 47) (.tmp 55) (.val (.bool false)), none⟩,
 ⟨(some 4), .mov (.tmp 56), none⟩])
 (.ret))), [.tmp 4]⟩
def c157 : RFunc := ⟨36, .code (.seq (.region [⟨(some 1), .box 24 (.tmp 0), none⟩,
 ⟨(some 2), .new 24 [(.int .i64 0), (.int .i64 0), .nslice], none⟩])
 (.seq (.region [⟨(some 6), .fieldAddr 1 (.tmp 1), none⟩,
 ⟨(some 7), .load none (.tmp 6), none⟩,
 ⟨(some 8), .fieldAddr 0 (.tmp 1), none⟩,
 ⟨(some 9), .load none (.tmp 8), none⟩,
 ⟨(some 10), .call (.val (.func (.func 104) [] [])) [(.tmp 7), (.tmp 9)], none⟩,
 ⟨(some 3), .new 24 [(.int .i64 0), (.int .i64 0), .nslice], none⟩,
 ⟨none, .store 3 (.tmp 3) (.tmp 10), none⟩])
 (.seq (.seq (.region [⟨(some 4), .mov (.val (.int .i64 0)), none⟩])
 (.block 0 (.loop (.seq (.seq (.region [⟨(some 11), .mov (.tmp 4), none⟩,
 ⟨(some 12), .fieldAddr 1 (.tmp 1), none⟩,
 ⟨(some 13), .load none (.tmp 12), none⟩,
 ⟨(some 14), .bin .lss (.tmp 11) (.tmp 13), none⟩])
 (.cond (.tmp 14) (.skip)
 (.exit 0)))
 (.seq (.block 1 (.seq (.region [⟨(some 5), .mov (.val (.int .i64 0)), none⟩])
 (.block 2 (.loop (.seq (.seq (.region [⟨(some 17), .mov (.tmp 5), none⟩,
 ⟨(some 18), .fieldAddr 0 (.tmp 1), none⟩,
 ⟨(some 19), .load none (.tmp 18), none⟩,
 ⟨(some 20), .bin .lss (.tmp 17) (.tmp 19), none⟩])
 (.cond (.tmp 20) (.skip)
 (.exit 2)))
 (.seq (.block 3 (.seq (.region [⟨(some 23), .load (some 3) (.tmp 1), none⟩,
 ⟨(some 24), .mov (.tmp 5), none⟩,
 ⟨(some 25), .mov (.tmp 4), none⟩,
 ⟨(some 26), .call (.val (.func (.func 35) [] [])) [(.tmp 23), (.tmp 24), (.tmp 25)], none⟩])
 (.cond (.tmp 26) (.region [⟨(some 27), .load (some 3) (.tmp 3), none⟩,
 ⟨(some 28), .fieldAddr 1 (.tmp 1), none⟩,
 ⟨(some 29), .load none (.tmp 28), none⟩,
 ⟨(some 30), .bin .sub (.tmp 29) (.val (.int .i64 1)), none⟩,
 ⟨(some 31), .mov (.tmp 4), none⟩,
 ⟨(some 32), .bin .sub (.tmp 30) (.tmp 31), none⟩,
 ⟨(some 33), .mov (.tmp 5), none⟩,
 ⟨(some 34), .call (.val (.func (.func 105) [] [])) [(.tmp 27), (.tmp 32), (.tmp 33)], none⟩])
 (.skip))))
 (.region [⟨(some 21), .mov (.tmp 5), none⟩,
 ⟨(some 22), .bin .add (.tmp 21) (.val (.int .i64 1)), none⟩,
 ⟨(some 5), .mov (.tmp 22), none⟩])))))))
 (.region [⟨(some 15), .mov (.tmp 4), none⟩,
 ⟨(some 16), .bin .add (.tmp 15) (.val (.int .i64 1)), none⟩,
 ⟨(some 4), .mov (.tmp 16), none⟩]))))))
 (.seq (.region [⟨(some 35), .load (some 3) (.tmp 3), none⟩,
 ⟨none, .store 3 (.tmp 2) (.tmp 35), none⟩])
 (.ret))))), [.cell 2 (some 3)]⟩
def c160 : RFunc := ⟨94, .code (.seq (.region [⟨(some 5), .box 24 (.tmp 0), none⟩])
 (.seq (.region [⟨(some 10), .mov (.val (.int .i64 2)), none⟩])
 (.seq (.seq (.region [⟨(some 16), .mov (.tmp 1), none⟩])
 (.cond (.tmp 16) (.region [⟨(some 10), .mov (.val (.int .i64 1)), none⟩])
 (.skip)))
 (.seq (.region [⟨(some 17), .mov (.tmp 2), none⟩,
 ⟨(some 18), .mov (.tmp 3), none⟩,
 ⟨(some 19), .mov (.tmp 4), none⟩,
 ⟨(some 20), .idxS 1 (.tmp 17) (.tmp 18), none⟩,
 ⟨none, .store 1 (.tmp 20) (.tmp 19), none⟩])
 (.seq (.region [⟨(some 21), .mov (.tmp 3), none⟩,
 ⟨(some 22), .buildSlice 3 1 1 [(.int .i64 0)] [(0, 1, (.tmp 21))], none⟩,
 ⟨(some 11), .mov (.tmp 22), none⟩])
 (.block 0 (.loop (.seq (.seq (.region [⟨(some 23), .mov (.tmp 11), none⟩,
 ⟨(some 24), .lenS (.tmp 23), none⟩,
 ⟨(some 25), .bin .gtr (.tmp 24) (.val (.int .i64 0)), none⟩])
 (.cond (.tmp 25) (.skip)
 (.exit 0)))
 (.block 1 (.seq (.region [⟨(some 26), .mov (.tmp 11), none⟩,
 ⟨(some 27), .mov (.tmp 11), none⟩,
 ⟨(some 28), .lenS (.tmp 27), none⟩,
 ⟨(some 29), .bin .sub (.tmp 28) (.val (.int .i64 1)), none⟩,
 ⟨(some 30), .idxS 1 (.tmp 26) (.tmp 29), none⟩,
 ⟨(some 31), .load none (.tmp 30), none⟩,
 ⟨(some 12), .mov (.tmp 31), none⟩])
 (.seq (.region [⟨(some 32), .mov (.tmp 11), none⟩,
 ⟨(some 33), .mov (.tmp 11), none⟩,
 ⟨(some 34), .lenS (.tmp 33), none⟩,
 ⟨(some 35), .bin .sub (.tmp 34) (.val (.int .i64 1)), none⟩,
 ⟨(some 36), .sliceS 1 (.tmp 32) none (some (.tmp 35)) none, none⟩,
 ⟨(some 11), .mov (.tmp 36), none⟩])
 (.seq (.region [⟨(some 13), .mov (.val (.int .i64 0)), none⟩])
 (.block 2 (.loop (.seq (.seq (.region [⟨(some 37), .mov (.tmp 13), none⟩,
 ⟨(some 38), .bin .lss (.tmp 37) (.val (.int .i64 8)), none⟩])
 (.cond (.tmp 38) (.skip)
 (.exit 2)))
 (.seq (.block 3 (.seq (.dregion [⟨⟨(some 42), .mov (.tmp 12), none⟩, 0, 0, true⟩,
 ⟨⟨(some 43), .fieldAddr 0 (.tmp 5), none⟩, 0, 0, true⟩,
 ⟨⟨(some 44), .load none (.tmp 43), none⟩, 2, 1, true⟩,
 ⟨⟨(some 45), .bin .rem (.tmp 42) (.tmp 44), none⟩, 7, 0, true⟩,
 ⟨⟨(some 46), .mov (.tmp 13), none⟩, 0, 0, true⟩,
 ⟨⟨(some 47), .idxA 8 2 (.val (.ptr 0 0)) (.tmp 46), none⟩, 16, 0, true⟩,
 ⟨⟨(some 48), .fieldAddr 0 (.tmp 47), none⟩, 48, 0, true⟩,
 ⟨⟨(some 49), .load none (.tmp 48), none⟩, 112, 1, true⟩,
 ⟨⟨(some 50), .bin .add (.tmp 45) (.tmp 49), none⟩, 255, 0, true⟩,
 ⟨⟨(some 51), .mov (.tmp 12), none⟩, 0, 0, true⟩,
 ⟨⟨(some 52), .fieldAddr 0 (.tmp 5), none⟩, 0, 0, true⟩,
 ⟨⟨(some 53), .load none (.tmp 52), none⟩, 1024, 1, true⟩,
 ⟨⟨(some 54), .bin .quo (.tmp 51) (.tmp 53), none⟩, 3584, 0, true⟩,
 ⟨⟨(some 55), .mov (.tmp 13), none⟩, 0, 0, true⟩,
 ⟨⟨(some 56), .idxA 8 2 (.val (.ptr 0 0)) (.tmp 55), none⟩, 8192, 0, true⟩,
 ⟨⟨(some 57), .fieldAddr 1 (.tmp 56), none⟩, 24576, 0, true⟩,
 ⟨⟨(some 58), .load none (.tmp 57), none⟩, 57344, 1, true⟩,
 ⟨⟨(some 59), .bin .add (.tmp 54) (.tmp 58), none⟩, 130560, 0, true⟩,
 ⟨⟨(some 14), .mov (.tmp 50), none⟩, 511, 0, true⟩,
 ⟨⟨(some 15), .mov (.tmp 59), none⟩, 524287, 0, true⟩])
 (.seq (.region [⟨(some 60), .load (some 3) (.tmp 5), none⟩,
 ⟨(some 61), .mov (.tmp 14), none⟩,
 ⟨(some 62), .mov (.tmp 15), none⟩,
 ⟨(some 63), .call (.val (.func (.func 109) [] [])) [(.tmp 60), (.tmp 61), (.tmp 62)], none⟩,
 ⟨(some 64), .mov (.tmp 63), none⟩,
 ⟨(some 65), .mov (.tmp 2), some (64, true)⟩,
 ⟨(some 66), .mov (.tmp 15), some (64, true)⟩,
 ⟨(some 67), .fieldAddr 0 (.tmp 5), some (64, true)⟩,
 ⟨(some 68), .load none (.tmp 67), some (64, true)⟩,
 ⟨(some 69), .bin .mul (.tmp 66) (.tmp 68), some (64, true)⟩,
 ⟨(some 70), .mov (.tmp 14), some (64, true)⟩,
 ⟨(some 71), .bin .add (.tmp 69) (.tmp 70), some (64, true)⟩,
 ⟨(some 72), .idxS 1 (.tmp 65) (.tmp 71), some (64, true)⟩,
 ⟨(some 73), .load none (.tmp 72), some (64, true)⟩,
 ⟨(some 74), .bin .eql (.tmp 73) (.val (.int .i64 0)), some (64, true)⟩,
 ⟨(some 75), .pick (.tmp 64) (.tmp 74) (.val (.bool false)), none⟩])
 (.cond (.tmp 75) (.seq (.region [⟨(some 76), .mov (.tmp 2), none⟩,
 ⟨(some 77), .mov (.tmp 15), none⟩,
 ⟨(some 78), .fieldAddr 0 (.tmp 5), none⟩,
 ⟨(some 79), .load none (.tmp 78), none⟩,
 ⟨(some 80), .bin .mul (.tmp 77) (.tmp 79), none⟩,
 ⟨(some 81), .mov (.tmp 14), none⟩,
 ⟨(some 82), .bin .add (.tmp 80) (.tmp 81), none⟩,
 ⟨(some 83), .mov (.tmp 4), none⟩,
 ⟨(some 84), .idxS 1 (.tmp 76) (.tmp 82), none⟩,
 ⟨none, .store 1 (.tmp 84) (.tmp 83), none⟩])
 (.region [⟨(some 85), .mov (.tmp 11), none⟩,
 ⟨(some 86), .mov (.tmp 15), none⟩,
 ⟨(some 87), .fieldAddr 0 (.tmp 5), none⟩,
 ⟨(some 88), .load none (.tmp 87), none⟩,
 ⟨(some 89), .bin .mul (.tmp 86) (.tmp 88), none⟩,
 ⟨(some 90), .mov (.tmp 14), none⟩,
 ⟨(some 91), .bin .add (.tmp 89) (.tmp 90), none⟩,
 ⟨(some 92), .buildSlice 3 1 1 [(.int .i64 0)] [(0, 1, (.tmp 91))], none⟩,
 ⟨(some 93), .append 3 1 8 (.tmp 85) (.tmp 92), none⟩,
 ⟨(some 11), .mov (.tmp 93), none⟩]))
 (.skip)))))
 (.region [⟨(some 39), .mov (.tmp 13), none⟩,
 ⟨(some 40), .mov (.tmp 10), none⟩,
 ⟨(some 41), .bin .add (.tmp 39) (.tmp 40), none⟩,
 ⟨(some 13), .mov (.tmp 41), none⟩]))))))))))))))))), []⟩
def c163 : RFunc := ⟨29, .code (.seq (.region [⟨(some 1), .box 181 (.tmp 0), none⟩,
 ⟨(some 2), .mov (.val (.int .i64 0)), none⟩])
 (.seq (.region [⟨(some 3), .mov (.val (.int .i64 0)), none⟩])
 (.seq (.seq (.region [⟨(some 4), .mov (.val (.int .i64 0)), none⟩])
 (.block 0 (.loop (.seq (.seq (.region [⟨(some 5), .mov (.tmp 4), none⟩,
 ⟨(some 6), .bin .lss (.tmp 5) (.val (.int .i64 8)), none⟩])
 (.cond (.tmp 6) (.skip)
 (.exit 0)))
 (.seq (.block 1 (.seq (.region [⟨(some 9), .mov (.tmp 4), none⟩,
 ⟨(some 10), .idxA 8 1 (.tmp 1) (.tmp 9), none⟩,
 ⟨(some 11), .load none (.tmp 10), none⟩,
 ⟨(some 12), .un .not (.tmp 11), none⟩,
 ⟨(some 13), .mov (.tmp 12), none⟩,
 ⟨(some 14), .mov (.tmp 4), some (13, true)⟩,
 ⟨(some 15), .bin .add (.tmp 14) (.val (.int .i64 1)), some (13, true)⟩,
 ⟨(some 16), .idxA 8 1 (.tmp 1) (.tmp 15), some (13, true)⟩,
 ⟨(some 17), .load none (.tmp 16), some (13, true)⟩,
 ⟨(some 18), .mov (.tmp 17), some (13, true)⟩,
 ⟨(some 19), .mov (.tmp 4), some (18, false)⟩,
 ⟨(some 20), .bin .add (.tmp 19) (.val (.int .i64 2)), some (18, false)⟩,
 ⟨(some 21), .bin .rem (.tmp 20) (.val (.int .i64 8)), some (18, false)⟩,
 ⟨(some 22), .idxA 8 1 (.tmp 1) (.tmp 21), some (18, false)⟩,
 ⟨(some 23), .load none (.tmp 22), some (18, false)⟩,
 ⟨(some 24), .pick (.tmp 18) (.val (.bool true)) (.tmp 23), some (13, true)⟩,
 ⟨(some 25), .pick (.tmp 13) (.tmp 24) (.val (.bool false)), none⟩])
 (.cond (.tmp 25) (.region [⟨(some 26), .mov (.tmp 3), none⟩,
 ⟨(some 27), .bin .add (.tmp 26) (.val (.int .i64 1)), none⟩,
 ⟨(some 3), .mov (.tmp 27), none⟩])
 (.skip))))
 (.region [⟨(some 7), .mov (.tmp 4), none⟩,
 ⟨(some 8), .bin .add (.tmp 7) (.val (.int .i64 2)), none⟩,
 ⟨(some 4), .mov (.tmp 8), none⟩]))))))
 (.seq (.region [⟨(some 28), .mov (.tmp 3), none⟩,
 ⟨(some 2), .mov (.tmp 28), none⟩])
 (.ret))))), [.tmp 2]⟩
def c164 : RFunc := ⟨20, .code (.seq (.region [⟨(some 2), .mov (.tmp 0), none⟩,
 ⟨(some 3), .nilCheck (.tmp 2), none⟩,
 ⟨(some 4), .fieldAddr 0 (.tmp 3), none⟩,
 ⟨(some 5), .load none (.tmp 4), none⟩,
 ⟨(some 6), .eq false .ptr (.tmp 5) (.val .nptr), none⟩])
 (.cond (.tmp 6) (.region [⟨(some 7), .mov (.tmp 0), none⟩,
 ⟨(some 8), .mov (.tmp 0), none⟩,
 ⟨(some 9), .uptr 153 2 (.tmp 8), none⟩,
 ⟨(some 10), .call (.val (.func (.func 175) [] [])) [(.tmp 9)], none⟩,
 ⟨(some 11), .uptr 153 2 (.tmp 10), none⟩,
 ⟨(some 12), .nilCheck (.tmp 7), none⟩,
 ⟨(some 13), .fieldAddr 0 (.tmp 12), none⟩,
 ⟨none, .store 1 (.tmp 13) (.tmp 11), none⟩])
 (.seq (.region [⟨(some 14), .mov (.tmp 0), none⟩,
 ⟨(some 15), .nilCheck (.tmp 14), none⟩,
 ⟨(some 16), .fieldAddr 0 (.tmp 15), none⟩,
 ⟨(some 17), .load none (.tmp 16), none⟩,
 ⟨(some 18), .mov (.tmp 0), none⟩,
 ⟨(some 19), .eq true .ptr (.tmp 17) (.tmp 18), none⟩])
 (.cond (.tmp 19) (.fail)
 (.skip))))), []⟩
def c165 : RFunc := ⟨5, .code (.seq (.region [⟨(some 2), .mov (.val (.str ⟨#[]⟩)), none⟩])
 (.seq (.region [⟨(some 3), .mov (.tmp 0), none⟩,
 ⟨(some 4), .call (.val (.func (.func 176) [] [])) [(.tmp 3), (.val (.int .i64 10))], none⟩,
 ⟨(some 2), .mov (.tmp 4), none⟩])
 (.ret))), [.tmp 2]⟩
def c169 : RFunc := ⟨25, .code (.seq (.region [⟨(some 6), .mov (.val (.bool false)), none⟩])
 (.seq (.region [⟨(some 7), .mov (.tmp 0), none⟩,
 ⟨(some 8), .bin .geq (.tmp 7) (.val (.int .i64 0)), none⟩,
 ⟨(some 9), .mov (.tmp 8), none⟩,
 ⟨(some 10), .mov (.tmp 1), some (9, true)⟩,
 ⟨(some 11), .bin .geq (.tmp 10) (.val (.int .i64 0)), some (9, true)⟩,
 ⟨(some 12), .pick (.tmp 9) (.tmp 11) (.val (.bool false)), none⟩,
 ⟨(some 13), .mov (.tmp 12), none⟩,
 ⟨(some 14), .mov (.tmp 0), some (13, true)⟩,
 ⟨(some 15), .mov (.tmp 2), some (13, true)⟩,
 ⟨(some 16), .bin .leq (.tmp 14) (.tmp 15), some (13, true)⟩,
 ⟨(some 17), .pick (.tmp 13) (.tmp 16) (.val (.bool false)), none⟩,
 ⟨(some 18), .mov (.tmp 17), none⟩,
 ⟨(some 19), .mov (.tmp 1), some (18, true)⟩,
 ⟨(some 20), .mov (.tmp 2), some (18, true)⟩,
 ⟨(some 21), .mov (.tmp 0), some (18, true)⟩,
 ⟨(some 22), .bin .sub (.tmp 20) (.tmp 21), some (18, true)⟩,
 ⟨(some 23), .bin .leq (.tmp 19) (.tmp 22), some (18, true)⟩,
 ⟨(some 24), .pick (.tmp 18) (.tmp 23) (.val (.bool false)), none⟩,
 ⟨(some 6), .mov (.tmp 24), none⟩])
 (.ret))), [.tmp 6]⟩
def c170 : RFunc := ⟨10, .code (.seq (.region [⟨(some 2), .mov (.val (.int .i64 0)), none⟩])
 (.seq (.seq (.fail)
 (.block 0 (.loop (.seq (.fail)
 (.seq (.cond (.tmp 6) (.skip)
 (.exit 0))
 (.block 1 (.region [⟨(some 7), .mov (.tmp 2), none⟩,
 ⟨(some 8), .bin .add (.tmp 7) (.val (.int .i64 1)), none⟩,
 ⟨(some 2), .mov (.tmp 8), none⟩])))))))
 (.seq (.region [⟨(some 9), .mov (.tmp 2), none⟩,
 ⟨(some 2), .mov (.tmp 9), none⟩])
 (.ret)))), [.tmp 2]⟩
def c171 : RFunc := ⟨10, .code (.seq (.region [⟨(some 4), .mov (.val (.bool false)), none⟩])
 (.seq (.region [⟨(some 5), .mov (.tmp 0), none⟩,
 ⟨(some 6), .bytesToStr (.tmp 5), none⟩,
 ⟨(some 7), .mov (.tmp 1), none⟩,
 ⟨(some 8), .bytesToStr (.tmp 7), none⟩,
 ⟨(some 9), .bin .eql (.tmp 6) (.tmp 8), none⟩,
 ⟨(some 4), .mov (.tmp 9), none⟩])
 (.ret))), [.tmp 4]⟩
def c173 : RFunc := ⟨6, .code (.seq (.region [⟨(some 2), .mov (.val (.int .i64 0)), none⟩])
 (.seq (.region [⟨(some 3), .mov (.tmp 0), none⟩,
 ⟨(some 4), .bin .add (.tmp 3) (.val (.int .i64 16)), none⟩,
 ⟨(some 5), .bin .quo (.tmp 4) (.val (.int .i64 8)), none⟩,
 ⟨(some 2), .mov (.tmp 5), none⟩])
 (.ret))), [.tmp 2]⟩
def c174 : RFunc := ⟨88, .code (.seq (.region [⟨(some 4), .mov (.val (.int .i64 0)), none⟩])
 (.seq (.region [⟨(some 12), .mov (.tmp 1), none⟩,
 ⟨(some 13), .call (.val (.func (.func 179) [] [])) [(.tmp 12)], none⟩,
 ⟨(some 11), .mov (.tmp 13), none⟩,
 ⟨(some 14), .extract (.tmp 11) 0, none⟩,
 ⟨(some 15), .extract (.tmp 11) 1, none⟩,
 ⟨(some 5), .mov (.tmp 14), none⟩,
 ⟨(some 6), .mov (.tmp 15), none⟩])
 (.seq (.region [⟨(some 16), .mov (.tmp 1), none⟩,
 ⟨(some 17), .lenS (.tmp 16), none⟩,
 ⟨(some 7), .mov (.tmp 17), none⟩])
 (.seq (.region [⟨(some 8), .mov (.val (.int .u32 0)), none⟩])
 (.seq (.seq (.region [⟨(some 9), .mov (.val (.int .i64 0)), none⟩])
 (.block 0 (.loop (.seq (.seq (.region [⟨(some 18), .mov (.tmp 9), none⟩,
 ⟨(some 19), .mov (.tmp 7), none⟩,
 ⟨(some 20), .bin .lss (.tmp 18) (.tmp 19), none⟩])
 (.cond (.tmp 20) (.skip)
 (.exit 0)))
 (.seq (.block 1 (.region [⟨(some 23), .mov (.tmp 8), none⟩,
 ⟨(some 24), .bin .mul (.tmp 23) (.val (.int .u32 16777619)), none⟩,
 ⟨(some 25), .mov (.tmp 0), none⟩,
 ⟨(some 26), .mov (.tmp 9), none⟩,
 ⟨(some 27), .idxS 1 (.tmp 25) (.tmp 26), none⟩,
 ⟨(some 28), .load none (.tmp 27), none⟩,
 ⟨(some 29), .convInt .u32 (.tmp 28), none⟩,
 ⟨(some 30), .bin .add (.tmp 24) (.tmp 29), none⟩,
 ⟨(some 8), .mov (.tmp 30), none⟩]))
 (.region [⟨(some 21), .mov (.tmp 9), none⟩,
 ⟨(some 22), .bin .add (.tmp 21) (.val (.int .i64 1)), none⟩,
 ⟨(some 9), .mov (.tmp 22), none⟩]))))))
 (.seq (.seq (.dregion [⟨⟨(some 31), .mov (.tmp 8), none⟩, 0, 0, true⟩,
 ⟨⟨(some 32), .mov (.tmp 5), none⟩, 0, 0, true⟩,
 ⟨⟨(some 33), .bin .eql (.tmp 31) (.tmp 32), none⟩, 3, 0, true⟩,
 ⟨⟨(some 34), .mov (.tmp 33), none⟩, 7, 0, true⟩,
 ⟨⟨(some 35), .mov (.tmp 0), some (34, true)⟩, 15, 0, true⟩,
 ⟨⟨(some 36), .mov (.tmp 7), some (34, true)⟩, 15, 0, true⟩,
 ⟨⟨(some 37), .sliceS 1 (.tmp 35) none (some (.tmp 36)) none, some (34, true)⟩, 63, 1, true⟩,
 ⟨⟨(some 38), .bytesToStr (.tmp 37), some (34, true)⟩, 127, 1, true⟩,
 ⟨⟨(some 39), .mov (.tmp 1), some (34, true)⟩, 15, 0, true⟩,
 ⟨⟨(some 40), .bytesToStr (.tmp 39), some (34, true)⟩, 271, 1, true⟩,
 ⟨⟨(some 41), .bin .eql (.tmp 38) (.tmp 40), some (34, true)⟩, 1023, 0, true⟩,
 ⟨⟨(some 42), .pick (.tmp 34) (.tmp 41) (.val (.bool false)), none⟩, 2047, 0, true⟩])
 (.cond (.tmp 42) (.seq (.region [⟨(some 4), .mov (.val (.int .i64 0)), none⟩])
 (.ret))
 (.skip)))
 (.seq (.seq (.region [⟨(some 43), .mov (.tmp 7), none⟩,
 ⟨(some 10), .mov (.tmp 43), none⟩])
 (.block 2 (.loop (.seq (.seq (.region [⟨(some 44), .mov (.tmp 10), none⟩,
 ⟨(some 45), .mov (.tmp 0), none⟩,
 ⟨(some 46), .lenS (.tmp 45), none⟩,
 ⟨(some 47), .bin .lss (.tmp 44) (.tmp 46), none⟩])
 (.cond (.tmp 47) (.skip)
 (.exit 2)))
 (.block 3 (.seq (.region [⟨(some 48), .mov (.tmp 8), none⟩,
 ⟨(some 49), .bin .mul (.tmp 48) (.val (.int .u32 16777619)), none⟩,
 ⟨(some 8), .mov (.tmp 49), none⟩])
 (.seq (.region [⟨(some 50), .mov (.tmp 8), none⟩,
 ⟨(some 51), .mov (.tmp 0), none⟩,
 ⟨(some 52), .mov (.tmp 10), none⟩,
 ⟨(some 53), .idxS 1 (.tmp 51) (.tmp 52), none⟩,
 ⟨(some 54), .load none (.tmp 53), none⟩,
 ⟨(some 55), .convInt .u32 (.tmp 54), none⟩,
 ⟨(some 56), .bin .add (.tmp 50) (.tmp 55), none⟩,
 ⟨(some 8), .mov (.tmp 56), none⟩])
 (.seq (.region [⟨(some 57), .mov (.tmp 8), none⟩,
 ⟨(some 58), .mov (.tmp 6), none⟩,
 ⟨(some 59), .mov (.tmp 0), none⟩,
 ⟨(some 60), .mov (.tmp 10), none⟩,
 ⟨(some 61), .mov (.tmp 7), none⟩,
 ⟨(some 62), .bin .sub (.tmp 60) (.tmp 61), none⟩,
 ⟨(some 63), .idxS 1 (.tmp 59) (.tmp 62), none⟩,
 ⟨(some 64), .load none (.tmp 63), none⟩,
 ⟨(some 65), .convInt .u32 (.tmp 64), none⟩,
 ⟨(some 66), .bin .mul (.tmp 58) (.tmp 65), none⟩,
 ⟨(some 67), .bin .sub (.tmp 57) (.tmp 66), none⟩,
 ⟨(some 8), .mov (.tmp 67), none⟩])
 (.seq (.region [⟨(some 68), .mov (.tmp 10), none⟩,
 ⟨(some 69), .bin .add (.tmp 68) (.val (.int .i64 1)), none⟩,
 ⟨(some 10), .mov (.tmp 69), none⟩])
 (.seq (.dregion [⟨⟨(some 70), .mov (.tmp 8), none⟩, 0, 0, true⟩,
 ⟨⟨(some 71), .mov (.tmp 5), none⟩, 0, 0, true⟩,
 ⟨⟨(some 72), .bin .eql (.tmp 70) (.tmp 71), none⟩, 3, 0, true⟩,
 ⟨⟨(some 73), .mov (.tmp 72), none⟩, 7, 0, true⟩,
 ⟨⟨(some 74), .mov (.tmp 0), some (73, true)⟩, 15, 0, true⟩,
 ⟨⟨(some 75), .mov (.tmp 10), some (73, true)⟩, 15, 0, true⟩,
 ⟨⟨(some 76), .mov (.tmp 7), some (73, true)⟩, 15, 0, true⟩,
 ⟨⟨(some 77), .bin .sub (.tmp 75) (.tmp 76), some (73, true)⟩, 111, 0, true⟩,
 ⟨⟨(some 78), .mov (.tmp 10), some (73, true)⟩, 15, 0, true⟩,
 ⟨⟨(some 79), .sliceS 1 (.tmp 74) (some (.tmp 77)) (some (.tmp 78)) none, some (73, true)⟩, 511, 1, true⟩,
 ⟨⟨(some 80), .bytesToStr (.tmp 79), some (73, true)⟩, 1023, 1, true⟩,
 ⟨⟨(some 81), .mov (.tmp 1), some (73, true)⟩, 15, 0, true⟩,
 ⟨⟨(some 82), .bytesToStr (.tmp 81), some (73, true)⟩, 2063, 1, true⟩,
 ⟨⟨(some 83), .bin .eql (.tmp 80) (.tmp 82), some (73, true)⟩, 8191, 0, true⟩,
 ⟨⟨(some 84), .pick (.tmp 73) (.tmp 83) (.val (.bool false)), none⟩, 16383, 0, true⟩])
 (.cond (.tmp 84) (.seq (.region [⟨(some 85), .mov (.tmp 10), none⟩,
 ⟨(some 86), .mov (.tmp 7), none⟩,
 ⟨(some 87), .bin .sub (.tmp 85) (.tmp 86), none⟩,
 ⟨(some 4), .mov (.tmp 87), none⟩])
 (.ret))
 (.skip))))))))))))
 (.seq (.region [⟨(some 4), .mov (.val (.int .i64 (-1))), none⟩])
 (.ret))))))))), [.tmp 4]⟩
def c176 : RFunc := ⟨54, .code (.seq (.region [⟨(some 4), .mov (.val (.str ⟨#[]⟩)), none⟩])
 (.seq (.seq (.region [⟨(some 10), .mov (.tmp 1), none⟩,
 ⟨(some 11), .bin .eql (.tmp 10) (.val (.int .i64 10)), none⟩])
 (.cond (.tmp 11) (.seq (.seq (.region [⟨(some 12), .mov (.tmp 0), none⟩,
 ⟨(some 13), .bin .leq (.val (.int .i64 0)) (.tmp 12), none⟩,
 ⟨(some 14), .mov (.tmp 13), none⟩,
 ⟨(some 15), .mov (.tmp 0), some (14, true)⟩,
 ⟨(some 16), .bin .lss (.tmp 15) (.val (.int .i64 100)), some (14, true)⟩,
 ⟨(some 17), .pick (.tmp 14) (.tmp 16) (.val (.bool false)), none⟩])
 (.cond (.tmp 17) (.seq (.region [⟨(some 18), .mov (.tmp 0), none⟩,
 ⟨(some 19), .call (.val (.func (.func 180) [] [])) [(.tmp 18)], none⟩,
 ⟨(some 4), .mov (.tmp 19), none⟩])
 (.ret))
 (.skip)))
 (.seq (.region [⟨(some 5), .new 198 [(.int .u8 0), (.int .u8 0), (.int .u8 0), (.int .u8 0), (.int .u8 0), (.int .u8 0), (.int .u8 0), (.int .u8 0), (.int .u8 0), (.int .u8 0), (.int .u8 0), (.int .u8 0), (.int .u8 0), (.int .u8 0), (.int .u8 0), (.int .u8 0), (.int .u8 0), (.int .u8 0), (.int .u8 0), (.int .u8 0), (.int .u8 0), (.int .u8 0), (.int .u8 0), (.int .u8 0)], none⟩])
 (.seq (.region [⟨(some 20), .mov (.tmp 0), none⟩,
 ⟨(some 21), .convInt .u64 (.tmp 20), none⟩,
 ⟨(some 6), .mov (.tmp 21), none⟩])
 (.seq (.seq (.region [⟨(some 22), .mov (.tmp 0), none⟩,
 ⟨(some 23), .bin .lss (.tmp 22) (.val (.int .i64 0)), none⟩])
 (.cond (.tmp 23) (.region [⟨(some 24), .mov (.tmp 6), none⟩,
 ⟨(some 25), .un .neg (.tmp 24), none⟩,
 ⟨(some 6), .mov (.tmp 25), none⟩])
 (.skip)))
 (.seq (.region [⟨(some 26), .mov (.tmp 6), none⟩,
 ⟨(some 27), .call (.val (.func (.func 181) [] [])) [(.tmp 26)], none⟩,
 ⟨(some 7), .mov (.tmp 27), none⟩])
 (.seq (.region [⟨(some 28), .mov (.tmp 7), none⟩,
 ⟨(some 29), .bin .add (.val (.int .i64 1)) (.tmp 28), none⟩,
 ⟨(some 30), .sliceArr 24 1 (.tmp 5) (some (.val (.int .i64 1))) (some (.tmp 29)) none, none⟩,
 ⟨(some 31), .mov (.tmp 6), none⟩,
 ⟨(some 32), .call (.val (.func (.func 182) [] [])) [(.tmp 30), (.tmp 31)], none⟩])
 (.seq (.seq (.region [⟨(some 33), .mov (.tmp 0), none⟩,
 ⟨(some 34), .bin .lss (.tmp 33) (.val (.int .i64 0)), none⟩])
 (.cond (.tmp 34) (.seq (.region [⟨(some 35), .idxA 24 1 (.tmp 5) (.val (.int .i64 0)), none⟩,
 ⟨none, .store 1 (.tmp 35) (.val (.int .u8 45)), none⟩])
 (.seq (.region [⟨(some 36), .mov (.tmp 7), none⟩,
 ⟨(some 37), .bin .add (.val (.int .i64 1)) (.tmp 36), none⟩,
 ⟨(some 38), .sliceArr 24 1 (.tmp 5) none (some (.tmp 37)) none, none⟩,
 ⟨(some 39), .bytesToStr (.tmp 38), none⟩,
 ⟨(some 4), .mov (.tmp 39), none⟩])
 (.ret)))
 (.skip)))
 (.seq (.region [⟨(some 40), .mov (.tmp 7), none⟩,
 ⟨(some 41), .bin .add (.val (.int .i64 1)) (.tmp 40), none⟩,
 ⟨(some 42), .sliceArr 24 1 (.tmp 5) (some (.val (.int .i64 1))) (some (.tmp 41)) none, none⟩,
 ⟨(some 43), .bytesToStr (.tmp 42), none⟩,
 ⟨(some 4), .mov (.tmp 43), none⟩])
 (.ret)))))))))
 (.skip)))
 (.seq (.region [⟨(some 45), .mov (.tmp 0), none⟩,
 ⟨(some 46), .convInt .u64 (.tmp 45), none⟩,
 ⟨(some 47), .mov (.tmp 1), none⟩,
 ⟨(some 48), .mov (.tmp 0), none⟩,
 ⟨(some 49), .bin .lss (.tmp 48) (.val (.int .i64 0)), none⟩,
 ⟨(some 50), .call (.val (.func (.func 183) [] [])) [(.val .nslice), (.tmp 46), (.tmp 47), (.tmp 49), (.val (.bool false))], none⟩,
 ⟨(some 44), .mov (.tmp 50), none⟩,
 ⟨(some 51), .extract (.tmp 44) 0, none⟩,
 ⟨(some 52), .extract (.tmp 44) 1, none⟩,
 ⟨(some 8), .mov (.tmp 51), none⟩,
 ⟨(some 9), .mov (.tmp 52), none⟩])
 (.seq (.region [⟨(some 53), .mov (.tmp 9), none⟩,
 ⟨(some 4), .mov (.tmp 53), none⟩])
 (.ret))))), [.tmp 4]⟩
def c179 : RFunc := ⟨40, .code (.seq (.region [⟨(some 2), .mov (.val (.int .u32 0)), none⟩,
 ⟨(some 3), .mov (.val (.int .u32 0)), none⟩])
 (.seq (.region [⟨(some 4), .mov (.val (.int .u32 0)), none⟩])
 (.seq (.seq (.region [⟨(some 5), .mov (.val (.int .i64 0)), none⟩])
 (.block 0 (.loop (.seq (.seq (.region [⟨(some 9), .mov (.tmp 5), none⟩,
 ⟨(some 10), .mov (.tmp 0), none⟩,
 ⟨(some 11), .lenS (.tmp 10), none⟩,
 ⟨(some 12), .bin .lss (.tmp 9) (.tmp 11), none⟩])
 (.cond (.tmp 12) (.skip)
 (.exit 0)))
 (.seq (.block 1 (.region [⟨(some 15), .mov (.tmp 4), none⟩,
 ⟨(some 16), .bin .mul (.tmp 15) (.val (.int .u32 16777619)), none⟩,
 ⟨(some 17), .mov (.tmp 0), none⟩,
 ⟨(some 18), .mov (.tmp 5), none⟩,
 ⟨(some 19), .idxS 1 (.tmp 17) (.tmp 18), none⟩,
 ⟨(some 20), .load none (.tmp 19), none⟩,
 ⟨(some 21), .convInt .u32 (.tmp 20), none⟩,
 ⟨(some 22), .bin .add (.tmp 16) (.tmp 21), none⟩,
 ⟨(some 4), .mov (.tmp 22), none⟩]))
 (.region [⟨(some 13), .mov (.tmp 5), none⟩,
 ⟨(some 14), .bin .add (.tmp 13) (.val (.int .i64 1)), none⟩,
 ⟨(some 5), .mov (.tmp 14), none⟩]))))))
 (.seq (.region [⟨(some 6), .mov (.val (.int .u32 1)), none⟩,
 ⟨(some 7), .mov (.val (.int .u32 16777619)), none⟩])
 (.seq (.seq (.region [⟨(some 23), .mov (.tmp 0), none⟩,
 ⟨(some 24), .lenS (.tmp 23), none⟩,
 ⟨(some 8), .mov (.tmp 24), none⟩])
 (.block 2 (.loop (.seq (.seq (.region [⟨(some 25), .mov (.tmp 8), none⟩,
 ⟨(some 26), .bin .gtr (.tmp 25) (.val (.int .i64 0)), none⟩])
 (.cond (.tmp 26) (.skip)
 (.exit 2)))
 (.seq (.block 3 (.seq (.seq (.region [⟨(some 29), .mov (.tmp 8), none⟩,
 ⟨(some 30), .bin .and (.tmp 29) (.val (.int .i64 1)), none⟩,
 ⟨(some 31), .bin .neq (.tmp 30) (.val (.int .i64 0)), none⟩])
 (.cond (.tmp 31) (.region [⟨(some 32), .mov (.tmp 6), none⟩,
 ⟨(some 33), .mov (.tmp 7), none⟩,
 ⟨(some 34), .bin .mul (.tmp 32) (.tmp 33), none⟩,
 ⟨(some 6), .mov (.tmp 34), none⟩])
 (.skip)))
 (.region [⟨(some 35), .mov (.tmp 7), none⟩,
 ⟨(some 36), .mov (.tmp 7), none⟩,
 ⟨(some 37), .bin .mul (.tmp 35) (.tmp 36), none⟩,
 ⟨(some 7), .mov (.tmp 37), none⟩])))
 (.region [⟨(some 27), .mov (.tmp 8), none⟩,
 ⟨(some 28), .bin .shr (.tmp 27) (.val (.int .u64 1)), none⟩,
 ⟨(some 8), .mov (.tmp 28), none⟩]))))))
 (.seq (.region [⟨(some 38), .mov (.tmp 4), none⟩,
 ⟨(some 39), .mov (.tmp 6), none⟩,
 ⟨(some 2), .mov (.tmp 38), none⟩,
 ⟨(some 3), .mov (.tmp 39), none⟩])
 (.ret))))))), [.tmp 2, .tmp 3]⟩
def c180 : RFunc := ⟨15, .code (.seq (.region [⟨(some 2), .mov (.val (.str ⟨#[]⟩)), none⟩])
 (.seq (.seq (.region [⟨(some 3), .mov (.tmp 0), none⟩,
 ⟨(some 4), .bin .lss (.tmp 3) (.val (.int .i64 10)), none⟩])
 (.cond (.tmp 4) (.seq (.region [⟨(some 5), .mov (.tmp 0), none⟩,
 ⟨(some 6), .mov (.tmp 0), none⟩,
 ⟨(some 7), .bin .add (.tmp 6) (.val (.int .i64 1)), none⟩,
 ⟨(some 8), .sliceStr (.val (.str ⟨#[48, 49, 50, 51, 52, 53, 54, 55, 56, 57, 97, 98, 99, 100, 101, 102, 103, 104, 105, 106, 107, 108, 109, 110, 111, 112, 113, 114, 115, 116, 117, 118, 119, 120, 121, 122]⟩)) (some (.tmp 5)) (some (.tmp 7)), none⟩,
 ⟨(some 2), .mov (.tmp 8), none⟩])
 (.ret))
 (.skip)))
 (.seq (.region [⟨(some 9), .mov (.tmp 0), none⟩,
 ⟨(some 10), .bin .mul (.tmp 9) (.val (.int .i64 2)), none⟩,
 ⟨(some 11), .mov (.tmp 0), none⟩,
 ⟨(some 12), .bin .mul (.tmp 11) (.val (.int .i64 2)), none⟩,
 ⟨(some 13), .bin .add (.tmp 12) (.val (.int .i64 2)), none⟩,
 ⟨(some 14), .sliceStr (.val (.str ⟨#[48, 48, 48, 49, 48, 50, 48, 51, 48, 52, 48, 53, 48, 54, 48, 55, 48, 56, 48, 57, 49, 48, 49, 49, 49, 50, 49, 51, 49, 52, 49, 53, 49, 54, 49, 55, 49, 56, 49, 57, 50, 48, 50, 49, 50, 50, 50, 51, 50, 52, 50, 53, 50, 54, 50, 55, 50, 56, 50, 57, 51, 48, 51, 49, 51, 50, 51, 51, 51, 52, 51, 53, 51, 54, 51, 55, 51, 56, 51, 57, 52, 48, 52, 49, 52, 50, 52, 51, 52, 52, 52, 53, 52, 54, 52, 55, 52, 56, 52, 57, 53, 48, 53, 49, 53, 50, 53, 51, 53, 52, 53, 53, 53, 54, 53, 55, 53, 56, 53, 57, 54, 48, 54, 49, 54, 50, 54, 51, 54, 52, 54, 53, 54, 54, 54, 55, 54, 56, 54, 57, 55, 48, 55, 49, 55, 50, 55, 51, 55, 52, 55, 53, 55, 54, 55, 55, 55, 56, 55, 57, 56, 48, 56, 49, 56, 50, 56, 51, 56, 52, 56, 53, 56, 54, 56, 55, 56, 56, 56, 57, 57, 48, 57, 49, 57, 50, 57, 51, 57, 52, 57, 53, 57, 54, 57, 55, 57, 56, 57, 57]⟩)) (some (.tmp 10)) (some (.tmp 13)), none⟩,
 ⟨(some 2), .mov (.tmp 14), none⟩])
 (.ret)))), [.tmp 2]⟩
def c181 : RFunc := ⟨15, .code (.seq (.region [⟨(some 2), .mov (.val (.int .i64 0)), none⟩])
 (.seq (.region [⟨(some 4), .mov (.tmp 0), none⟩,
 ⟨(some 5), .call (.val (.func (.func 188) [] [])) [(.tmp 4)], none⟩,
 ⟨(some 6), .call (.val (.func (.func 187) [] [])) [(.tmp 5)], none⟩,
 ⟨(some 3), .mov (.tmp 6), none⟩])
 (.seq (.region [⟨(some 7), .mov (.tmp 3), none⟩,
 ⟨(some 8), .mov (.tmp 0), none⟩,
 ⟨(some 9), .mov (.tmp 3), none⟩,
 ⟨(some 10), .idxA 20 1 (.val (.ptr 2 0)) (.tmp 9), none⟩,
 ⟨(some 11), .load none (.tmp 10), none⟩,
 ⟨(some 12), .bin .geq (.tmp 8) (.tmp 11), none⟩,
 ⟨(some 13), .call (.val (.func (.func 189) [] [])) [(.tmp 12)], none⟩,
 ⟨(some 14), .bin .add (.tmp 7) (.tmp 13), none⟩,
 ⟨(some 2), .mov (.tmp 14), none⟩])
 (.ret)))), [.tmp 2]⟩
def c182 : RFunc := ⟨167, .code (.seq (.region [⟨(some 17), .mov (.tmp 0), none⟩,
 ⟨(some 18), .lenS (.tmp 17), none⟩,
 ⟨(some 4), .mov (.tmp 18), none⟩])
 (.seq (.block 0 (.loop (.seq (.seq (.region [⟨(some 19), .mov (.tmp 4), none⟩,
 ⟨(some 20), .bin .geq (.tmp 19) (.val (.int .i64 8)), none⟩])
 (.cond (.tmp 20) (.skip)
 (.exit 0)))
 (.block 1 (.seq (.region [⟨(some 21), .mov (.tmp 1), none⟩,
 ⟨(some 22), .bin .rem (.tmp 21) (.val (.int .u64 100000000)), none⟩,
 ⟨(some 23), .convInt .u32 (.tmp 22), none⟩,
 ⟨(some 5), .mov (.tmp 23), none⟩])
 (.seq (.region [⟨(some 24), .mov (.tmp 1), none⟩,
 ⟨(some 25), .bin .quo (.tmp 24) (.val (.int .u64 100000000)), none⟩,
 ⟨(some 1), .mov (.tmp 25), none⟩])
 (.seq (.region [⟨(some 26), .mov (.tmp 5), none⟩,
 ⟨(some 27), .bin .quo (.tmp 26) (.val (.int .u32 10000)), none⟩,
 ⟨(some 28), .mov (.tmp 5), none⟩,
 ⟨(some 29), .bin .rem (.tmp 28) (.val (.int .u32 10000)), none⟩,
 ⟨(some 6), .mov (.tmp 27), none⟩,
 ⟨(some 7), .mov (.tmp 29), none⟩])
 (.seq (.region [⟨(some 30), .mov (.tmp 7), none⟩,
 ⟨(some 31), .bin .quo (.tmp 30) (.val (.int .u32 100)), none⟩,
 ⟨(some 32), .bin .mul (.tmp 31) (.val (.int .u32 2)), none⟩,
 ⟨(some 33), .mov (.tmp 7), none⟩,
 ⟨(some 34), .bin .rem (.tmp 33) (.val (.int .u32 100)), none⟩,
 ⟨(some 35), .bin .mul (.tmp 34) (.val (.int .u32 2)), none⟩,
 ⟨(some 8), .mov (.tmp 32), none⟩,
 ⟨(some 9), .mov (.tmp 35), none⟩])
 (.seq (.region [⟨(some 36), .mov (.tmp 6), none⟩,
 ⟨(some 37), .bin .quo (.tmp 36) (.val (.int .u32 100)), none⟩,
 ⟨(some 38), .bin .mul (.tmp 37) (.val (.int .u32 2)), none⟩,
 ⟨(some 39), .mov (.tmp 6), none⟩,
 ⟨(some 40), .bin .rem (.tmp 39) (.val (.int .u32 100)), none⟩,
 ⟨(some 41), .bin .mul (.tmp 40) (.val (.int .u32 2)), none⟩,
 ⟨(some 10), .mov (.tmp 38), none⟩,
 ⟨(some 11), .mov (.tmp 41), none⟩])
 (.seq (.dregion [⟨⟨(some 42), .mov (.tmp 0), none⟩, 0, 0, true⟩,
 ⟨⟨(some 43), .mov (.tmp 4), none⟩, 0, 0, true⟩,
 ⟨⟨(some 44), .bin .sub (.tmp 43) (.val (.int .i64 1)), none⟩, 2, 0, true⟩,
 ⟨⟨(some 45), .mov (.tmp 0), none⟩, 0, 0, true⟩,
 ⟨⟨(some 46), .mov (.tmp 4), none⟩, 0, 0, true⟩,
 ⟨⟨(some 47), .bin .sub (.tmp 46) (.val (.int .i64 2)), none⟩, 16, 0, true⟩,
 ⟨⟨(some 48), .mov (.tmp 9), none⟩, 0, 0, true⟩,
 ⟨⟨(some 49), .bin .add (.tmp 48) (.val (.int .u32 1)), none⟩, 64, 0, true⟩,
 ⟨⟨(some 50), .indexStr (.val (.str ⟨#[48, 48, 48, 49, 48, 50, 48, 51, 48, 52, 48, 53, 48, 54, 48, 55, 48, 56, 48, 57, 49, 48, 49, 49, 49, 50, 49, 51, 49, 52, 49, 53, 49, 54, 49, 55, 49, 56, 49, 57, 50, 48, 50, 49, 50, 50, 50, 51, 50, 52, 50, 53, 50, 54, 50, 55, 50, 56, 50, 57, 51, 48, 51, 49, 51, 50, 51, 51, 51, 52, 51, 53, 51, 54, 51, 55, 51, 56, 51, 57, 52, 48, 52, 49, 52, 50, 52, 51, 52, 52, 52, 53, 52, 54, 52, 55, 52, 56, 52, 57, 53, 48, 53, 49, 53, 50, 53, 51, 53, 52, 53, 53, 53, 54, 53, 55, 53, 56, 53, 57, 54, 48, 54, 49, 54, 50, 54, 51, 54, 52, 54, 53, 54, 54, 54, 55, 54, 56, 54, 57, 55, 48, 55, 49, 55, 50, 55, 51, 55, 52, 55, 53, 55, 54, 55, 55, 55, 56, 55, 57, 56, 48, 56, 49, 56, 50, 56, 51, 56, 52, 56, 53, 56, 54, 56, 55, 56, 56, 56, 57, 57, 48, 57, 49, 57, 50, 57, 51, 57, 52, 57, 53, 57, 54, 57, 55, 57, 56, 57, 57]⟩)) (.tmp 49), none⟩, 192, 0, true⟩,
 ⟨⟨(some 51), .mov (.tmp 9), none⟩, 0, 0, true⟩,
 ⟨⟨(some 52), .indexStr (.val (.str ⟨#[48, 48, 48, 49, 48, 50, 48, 51, 48, 52, 48, 53, 48, 54, 48, 55, 48, 56, 48, 57, 49, 48, 49, 49, 49, 50, 49, 51, 49, 52, 49, 53, 49, 54, 49, 55, 49, 56, 49, 57, 50, 48, 50, 49, 50, 50, 50, 51, 50, 52, 50, 53, 50, 54, 50, 55, 50, 56, 50, 57, 51, 48, 51, 49, 51, 50, 51, 51, 51, 52, 51, 53, 51, 54, 51, 55, 51, 56, 51, 57, 52, 48, 52, 49, 52, 50, 52, 51, 52, 52, 52, 53, 52, 54, 52, 55, 52, 56, 52, 57, 53, 48, 53, 49, 53, 50, 53, 51, 53, 52, 53, 53, 53, 54, 53, 55, 53, 56, 53, 57, 54, 48, 54, 49, 54, 50, 54, 51, 54, 52, 54, 53, 54, 54, 54, 55, 54, 56, 54, 57, 55, 48, 55, 49, 55, 50, 55, 51, 55, 52, 55, 53, 55, 54, 55, 55, 55, 56, 55, 57, 56, 48, 56, 49, 56, 50, 56, 51, 56, 52, 56, 53, 56, 54, 56, 55, 56, 56, 56, 57, 57, 48, 57, 49, 57, 50, 57, 51, 57, 52, 57, 53, 57, 54, 57, 55, 57, 56, 57, 57]⟩)) (.tmp 51), none⟩, 512, 0, true⟩,
 ⟨⟨(some 53), .idxS 1 (.tmp 42) (.tmp 44), none⟩, 455, 0, true⟩,
 ⟨⟨none, .store 1 (.tmp 53) (.tmp 50), none⟩, 2503, 2, false⟩,
 ⟨⟨(some 54), .idxS 1 (.tmp 45) (.tmp 47), none⟩, 8191, 0, true⟩,
 ⟨⟨none, .store 1 (.tmp 54) (.tmp 52), none⟩, 16383, 2, false⟩])
 (.seq (.dregion [⟨⟨(some 55), .mov (.tmp 0), none⟩, 0, 0, true⟩,
 ⟨⟨(some 56), .mov (.tmp 4), none⟩, 0, 0, true⟩,
 ⟨⟨(some 57), .bin .sub (.tmp 56) (.val (.int .i64 3)), none⟩, 2, 0, true⟩,
 ⟨⟨(some 58), .mov (.tmp 0), none⟩, 0, 0, true⟩,
 ⟨⟨(some 59), .mov (.tmp 4), none⟩, 0, 0, true⟩,
 ⟨⟨(some 60), .bin .sub (.tmp 59) (.val (.int .i64 4)), none⟩, 16, 0, true⟩,
 ⟨⟨(some 61), .mov (.tmp 8), none⟩, 0, 0, true⟩,
 ⟨⟨(some 62), .bin .add (.tmp 61) (.val (.int .u32 1)), none⟩, 64, 0, true⟩,
 ⟨⟨(some 63), .indexStr (.val (.str ⟨#[48, 48, 48, 49, 48, 50, 48, 51, 48, 52, 48, 53, 48, 54, 48, 55, 48, 56, 48, 57, 49, 48, 49, 49, 49, 50, 49, 51, 49, 52, 49, 53, 49, 54, 49, 55, 49, 56, 49, 57, 50, 48, 50, 49, 50, 50, 50, 51, 50, 52, 50, 53, 50, 54, 50, 55, 50, 56, 50, 57, 51, 48, 51, 49, 51, 50, 51, 51, 51, 52, 51, 53, 51, 54, 51, 55, 51, 56, 51, 57, 52, 48, 52, 49, 52, 50, 52, 51, 52, 52, 52, 53, 52, 54, 52, 55, 52, 56, 52, 57, 53, 48, 53, 49, 53, 50, 53, 51, 53, 52, 53, 53, 53, 54, 53, 55, 53, 56, 53, 57, 54, 48, 54, 49, 54, 50, 54, 51, 54, 52, 54, 53, 54, 54, 54, 55, 54, 56, 54, 57, 55, 48, 55, 49, 55, 50, 55, 51, 55, 52, 55, 53, 55, 54, 55, 55, 55, 56, 55, 57, 56, 48, 56, 49, 56, 50, 56, 51, 56, 52, 56, 53, 56, 54, 56, 55, 56, 56, 56, 57, 57, 48, 57, 49, 57, 50, 57, 51, 57, 52, 57, 53, 57, 54, 57, 55, 57, 56, 57, 57]⟩)) (.tmp 62), none⟩, 192, 0, true⟩,
 ⟨⟨(some 64), .mov (.tmp 8), none⟩, 0, 0, true⟩,
 ⟨⟨(some 65), .indexStr (.val (.str ⟨#[48, 48, 48, 49, 48, 50, 48, 51, 48, 52, 48, 53, 48, 54, 48, 55, 48, 56, 48, 57, 49, 48, 49, 49, 49, 50, 49, 51, 49, 52, 49, 53, 49, 54, 49, 55, 49, 56, 49, 57, 50, 48, 50, 49, 50, 50, 50, 51, 50, 52, 50, 53, 50, 54, 50, 55, 50, 56, 50, 57, 51, 48, 51, 49, 51, 50, 51, 51, 51, 52, 51, 53, 51, 54, 51, 55, 51, 56, 51, 57, 52, 48, 52, 49, 52, 50, 52, 51, 52, 52, 52, 53, 52, 54, 52, 55, 52, 56, 52, 57, 53, 48, 53, 49, 53, 50, 53, 51, 53, 52, 53, 53, 53, 54, 53, 55, 53, 56, 53, 57, 54, 48, 54, 49, 54, 50, 54, 51, 54, 52, 54, 53, 54, 54, 54, 55, 54, 56, 54, 57, 55, 48, 55, 49, 55, 50, 55, 51, 55, 52, 55, 53, 55, 54, 55, 55, 55, 56, 55, 57, 56, 48, 56, 49, 56, 50, 56, 51, 56, 52, 56, 53, 56, 54, 56, 55, 56, 56, 56, 57, 57, 48, 57, 49, 57, 50, 57, 51, 57, 52, 57, 53, 57, 54, 57, 55, 57, 56, 57, 57]⟩)) (.tmp 64), none⟩, 512, 0, true⟩,
 ⟨⟨(some 66), .idxS 1 (.tmp 55) (.tmp 57), none⟩, 455, 0, true⟩,
 ⟨⟨none, .store 1 (.tmp 66) (.tmp 63), none⟩, 2503, 2, false⟩,
 ⟨⟨(some 67), .idxS 1 (.tmp 58) (.tmp 60), none⟩, 8191, 0, true⟩,
 ⟨⟨none, .store 1 (.tmp 67) (.tmp 65), none⟩, 16383, 2, false⟩])
 (.seq (.dregion [⟨⟨(some 68), .mov (.tmp 0), none⟩, 0, 0, true⟩,
 ⟨⟨(some 69), .mov (.tmp 4), none⟩, 0, 0, true⟩,
 ⟨⟨(some 70), .bin .sub (.tmp 69) (.val (.int .i64 5)), none⟩, 2, 0, true⟩,
 ⟨⟨(some 71), .mov (.tmp 0), none⟩, 0, 0, true⟩,
 ⟨⟨(some 72), .mov (.tmp 4), none⟩, 0, 0, true⟩,
 ⟨⟨(some 73), .bin .sub (.tmp 72) (.val (.int .i64 6)), none⟩, 16, 0, true⟩,
 ⟨⟨(some 74), .mov (.tmp 11), none⟩, 0, 0, true⟩,
 ⟨⟨(some 75), .bin .add (.tmp 74) (.val (.int .u32 1)), none⟩, 64, 0, true⟩,
 ⟨⟨(some 76), .indexStr (.val (.str ⟨#[48, 48, 48, 49, 48, 50, 48, 51, 48, 52, 48, 53, 48, 54, 48, 55, 48, 56, 48, 57, 49, 48, 49, 49, 49, 50, 49, 51, 49, 52, 49, 53, 49, 54, 49, 55, 49, 56, 49, 57, 50, 48, 50, 49, 50, 50, 50, 51, 50, 52, 50, 53, 50, 54, 50, 55, 50, 56, 50, 57, 51, 48, 51, 49, 51, 50, 51, 51, 51, 52, 51, 53, 51, 54, 51, 55, 51, 56, 51, 57, 52, 48, 52, 49, 52, 50, 52, 51, 52, 52, 52, 53, 52, 54, 52, 55, 52, 56, 52, 57, 53, 48, 53, 49, 53, 50, 53, 51, 53, 52, 53, 53, 53, 54, 53, 55, 53, 56, 53, 57, 54, 48, 54, 49, 54, 50, 54, 51, 54, 52, 54, 53, 54, 54, 54, 55, 54, 56, 54, 57, 55, 48, 55, 49, 55, 50, 55, 51, 55, 52, 55, 53, 55, 54, 55, 55, 55, 56, 55, 57, 56, 48, 56, 49, 56, 50, 56, 51, 56, 52, 56, 53, 56, 54, 56, 55, 56, 56, 56, 57, 57, 48, 57, 49, 57, 50, 57, 51, 57, 52, 57, 53, 57, 54, 57, 55, 57, 56, 57, 57]⟩)) (.tmp 75), none⟩, 192, 0, true⟩,
 ⟨⟨(some 77), .mov (.tmp 11), none⟩, 0, 0, true⟩,
 ⟨⟨(some 78), .indexStr (.val (.str ⟨#[48, 48, 48, 49, 48, 50, 48, 51, 48, 52, 48, 53, 48, 54, 48, 55, 48, 56, 48, 57, 49, 48, 49, 49, 49, 50, 49, 51, 49, 52, 49, 53, 49, 54, 49, 55, 49, 56, 49, 57, 50, 48, 50, 49, 50, 50, 50, 51, 50, 52, 50, 53, 50, 54, 50, 55, 50, 56, 50, 57, 51, 48, 51, 49, 51, 50, 51, 51, 51, 52, 51, 53, 51, 54, 51, 55, 51, 56, 51, 57, 52, 48, 52, 49, 52, 50, 52, 51, 52, 52, 52, 53, 52, 54, 52, 55, 52, 56, 52, 57, 53, 48, 53, 49, 53, 50, 53, 51, 53, 52, 53, 53, 53, 54, 53, 55, 53, 56, 53, 57, 54, 48, 54, 49, 54, 50, 54, 51, 54, 52, 54, 53, 54, 54, 54, 55, 54, 56, 54, 57, 55, 48, 55, 49, 55, 50, 55, 51, 55, 52, 55, 53, 55, 54, 55, 55, 55, 56, 55, 57, 56, 48, 56, 49, 56, 50, 56, 51, 56, 52, 56, 53, 56, 54, 56, 55, 56, 56, 56, 57, 57, 48, 57, 49, 57, 50, 57, 51, 57, 52, 57, 53, 57, 54, 57, 55, 57, 56, 57, 57]⟩)) (.tmp 77), none⟩, 512, 0, true⟩,
 ⟨⟨(some 79), .idxS 1 (.tmp 68) (.tmp 70), none⟩, 455, 0, true⟩,
 ⟨⟨none, .store 1 (.tmp 79) (.tmp 76), none⟩, 2503, 2, false⟩,
 ⟨⟨(some 80), .idxS 1 (.tmp 71) (.tmp 73), none⟩, 8191, 0, true⟩,
 ⟨⟨none, .store 1 (.tmp 80) (.tmp 78), none⟩, 16383, 2, false⟩])
 (.seq (.dregion [⟨⟨(some 81), .mov (.tmp 0), none⟩, 0, 0, true⟩,
 ⟨⟨(some 82), .mov (.tmp 4), none⟩, 0, 0, true⟩,
 ⟨⟨(some 83), .bin .sub (.tmp 82) (.val (.int .i64 7)), none⟩, 2, 0, true⟩,
 ⟨⟨(some 84), .mov (.tmp 0), none⟩, 0, 0, true⟩,
 ⟨⟨(some 85), .mov (.tmp 4), none⟩, 0, 0, true⟩,
 ⟨⟨(some 86), .bin .sub (.tmp 85) (.val (.int .i64 8)), none⟩, 16, 0, true⟩,
 ⟨⟨(some 87), .mov (.tmp 10), none⟩, 0, 0, true⟩,
 ⟨⟨(some 88), .bin .add (.tmp 87) (.val (.int .u32 1)), none⟩, 64, 0, true⟩,
 ⟨⟨(some 89), .indexStr (.val (.str ⟨#[48, 48, 48, 49, 48, 50, 48, 51, 48, 52, 48, 53, 48, 54, 48, 55, 48, 56, 48, 57, 49, 48, 49, 49, 49, 50, 49, 51, 49, 52, 49, 53, 49, 54, 49, 55, 49, 56, 49, 57, 50, 48, 50, 49, 50, 50, 50, 51, 50, 52, 50, 53, 50, 54, 50, 55, 50, 56, 50, 57, 51, 48, 51, 49, 51, 50, 51, 51, 51, 52, 51, 53, 51, 54, 51, 55, 51, 56, 51, 57, 52, 48, 52, 49, 52, 50, 52, 51, 52, 52, 52, 53, 52, 54, 52, 55, 52, 56, 52, 57, 53, 48, 53, 49, 53, 50, 53, 51, 53, 52, 53, 53, 53, 54, 53, 55, 53, 56, 53, 57, 54, 48, 54, 49, 54, 50, 54, 51, 54, 52, 54, 53, 54, 54, 54, 55, 54, 56, 54, 57, 55, 48, 55, 49, 55, 50, 55, 51, 55, 52, 55, 53, 55, 54, 55, 55, 55, 56, 55, 57, 56, 48, 56, 49, 56, 50, 56, 51, 56, 52, 56, 53, 56, 54, 56, 55, 56, 56, 56, 57, 57, 48, 57, 49, 57, 50, 57, 51, 57, 52, 57, 53, 57, 54, 57, 55, 57, 56, 57, 57]⟩)) (.tmp 88), none⟩, 192, 0, true⟩,
 ⟨⟨(some 90), .mov (.tmp 10), none⟩, 0, 0, true⟩,
 ⟨⟨(some 91), .indexStr (.val (.str ⟨#[48, 48, 48, 49, 48, 50, 48, 51, 48, 52, 48, 53, 48, 54, 48, 55, 48, 56, 48, 57, 49, 48, 49, 49, 49, 50, 49, 51, 49, 52, 49, 53, 49, 54, 49, 55, 49, 56, 49, 57, 50, 48, 50, 49, 50, 50, 50, 51, 50, 52, 50, 53, 50, 54, 50, 55, 50, 56, 50, 57, 51, 48, 51, 49, 51, 50, 51, 51, 51, 52, 51, 53, 51, 54, 51, 55, 51, 56, 51, 57, 52, 48, 52, 49, 52, 50, 52, 51, 52, 52, 52, 53, 52, 54, 52, 55, 52, 56, 52, 57, 53, 48, 53, 49, 53, 50, 53, 51, 53, 52, 53, 53, 53, 54, 53, 55, 53, 56, 53, 57, 54, 48, 54, 49, 54, 50, 54, 51, 54, 52, 54, 53, 54, 54, 54, 55, 54, 56, 54, 57, 55, 48, 55, 49, 55, 50, 55, 51, 55, 52, 55, 53, 55, 54, 55, 55, 55, 56, 55, 57, 56, 48, 56, 49, 56, 50, 56, 51, 56, 52, 56, 53, 56, 54, 56, 55, 56, 56, 56, 57, 57, 48, 57, 49, 57, 50, 57, 51, 57, 52, 57, 53, 57, 54, 57, 55, 57, 56, 57, 57]⟩)) (.tmp 90), none⟩, 512, 0, true⟩,
 ⟨⟨(some 92), .idxS 1 (.tmp 81) (.tmp 83), none⟩, 455, 0, true⟩,
 ⟨⟨none, .store 1 (.tmp 92) (.tmp 89), none⟩, 2503, 2, false⟩,
 ⟨⟨(some 93), .idxS 1 (.tmp 84) (.tmp 86), none⟩, 8191, 0, true⟩,
 ⟨⟨none, .store 1 (.tmp 93) (.tmp 91), none⟩, 16383, 2, false⟩])
 (.region [⟨(some 94), .mov (.tmp 4), none⟩,
 ⟨(some 95), .bin .sub (.tmp 94) (.val (.int .i64 8)), none⟩,
 ⟨(some 4), .mov (.tmp 95), none⟩]))))))))))))))
 (.seq (.region [⟨(some 96), .mov (.tmp 1), none⟩,
 ⟨(some 97), .convInt .u32 (.tmp 96), none⟩,
 ⟨(some 12), .mov (.tmp 97), none⟩])
 (.seq (.seq (.region [⟨(some 98), .mov (.tmp 4), none⟩,
 ⟨(some 99), .bin .geq (.tmp 98) (.val (.int .i64 4)), none⟩])
 (.cond (.tmp 99) (.seq (.region [⟨(some 100), .mov (.tmp 12), none⟩,
 ⟨(some 101), .bin .rem (.tmp 100) (.val (.int .u32 10000)), none⟩,
 ⟨(some 13), .mov (.tmp 101), none⟩])
 (.seq (.region [⟨(some 102), .mov (.tmp 12), none⟩,
 ⟨(some 103), .bin .quo (.tmp 102) (.val (.int .u32 10000)), none⟩,
 ⟨(some 12), .mov (.tmp 103), none⟩])
 (.seq (.region [⟨(some 104), .mov (.tmp 13), none⟩,
 ⟨(some 105), .bin .quo (.tmp 104) (.val (.int .u32 100)), none⟩,
 ⟨(some 106), .bin .mul (.tmp 105) (.val (.int .u32 2)), none⟩,
 ⟨(some 107), .mov (.tmp 13), none⟩,
 ⟨(some 108), .bin .rem (.tmp 107) (.val (.int .u32 100)), none⟩,
 ⟨(some 109), .bin .mul (.tmp 108) (.val (.int .u32 2)), none⟩,
 ⟨(some 14), .mov (.tmp 106), none⟩,
 ⟨(some 15), .mov (.tmp 109), none⟩])
 (.seq (.dregion [⟨⟨(some 110), .mov (.tmp 0), none⟩, 0, 0, true⟩,
 ⟨⟨(some 111), .mov (.tmp 4), none⟩, 0, 0, true⟩,
 ⟨⟨(some 112), .bin .sub (.tmp 111) (.val (.int .i64 1)), none⟩, 2, 0, true⟩,
 ⟨⟨(some 113), .mov (.tmp 0), none⟩, 0, 0, true⟩,
 ⟨⟨(some 114), .mov (.tmp 4), none⟩, 0, 0, true⟩,
 ⟨⟨(some 115), .bin .sub (.tmp 114) (.val (.int .i64 2)), none⟩, 16, 0, true⟩,
 ⟨⟨(some 116), .mov (.tmp 15), none⟩, 0, 0, true⟩,
 ⟨⟨(some 117), .bin .add (.tmp 116) (.val (.int .u32 1)), none⟩, 64, 0, true⟩,
 ⟨⟨(some 118), .indexStr (.val (.str ⟨#[48, 48, 48, 49, 48, 50, 48, 51, 48, 52, 48, 53, 48, 54, 48, 55, 48, 56, 48, 57, 49, 48, 49, 49, 49, 50, 49, 51, 49, 52, 49, 53, 49, 54, 49, 55, 49, 56, 49, 57, 50, 48, 50, 49, 50, 50, 50, 51, 50, 52, 50, 53, 50, 54, 50, 55, 50, 56, 50, 57, 51, 48, 51, 49, 51, 50, 51, 51, 51, 52, 51, 53, 51, 54, 51, 55, 51, 56, 51, 57, 52, 48, 52, 49, 52, 50, 52, 51, 52, 52, 52, 53, 52, 54, 52, 55, 52, 56, 52, 57, 53, 48, 53, 49, 53, 50, 53, 51, 53, 52, 53, 53, 53, 54, 53, 55, 53, 56, 53, 57, 54, 48, 54, 49, 54, 50, 54, 51, 54, 52, 54, 53, 54, 54, 54, 55, 54, 56, 54, 57, 55, 48, 55, 49, 55, 50, 55, 51, 55, 52, 55, 53, 55, 54, 55, 55, 55, 56, 55, 57, 56, 48, 56, 49, 56, 50, 56, 51, 56, 52, 56, 53, 56, 54, 56, 55, 56, 56, 56, 57, 57, 48, 57, 49, 57, 50, 57, 51, 57, 52, 57, 53, 57, 54, 57, 55, 57, 56, 57, 57]⟩)) (.tmp 117), none⟩, 192, 0, true⟩,
 ⟨⟨(some 119), .mov (.tmp 15), none⟩, 0, 0, true⟩,
 ⟨⟨(some 120), .indexStr (.val (.str ⟨#[48, 48, 48, 49, 48, 50, 48, 51, 48, 52, 48, 53, 48, 54, 48, 55, 48, 56, 48, 57, 49, 48, 49, 49, 49, 50, 49, 51, 49, 52, 49, 53, 49, 54, 49, 55, 49, 56, 49, 57, 50, 48, 50, 49, 50, 50, 50, 51, 50, 52, 50, 53, 50, 54, 50, 55, 50, 56, 50, 57, 51, 48, 51, 49, 51, 50, 51, 51, 51, 52, 51, 53, 51, 54, 51, 55, 51, 56, 51, 57, 52, 48, 52, 49, 52, 50, 52, 51, 52, 52, 52, 53, 52, 54, 52, 55, 52, 56, 52, 57, 53, 48, 53, 49, 53, 50, 53, 51, 53, 52, 53, 53, 53, 54, 53, 55, 53, 56, 53, 57, 54, 48, 54, 49, 54, 50, 54, 51, 54, 52, 54, 53, 54, 54, 54, 55, 54, 56, 54, 57, 55, 48, 55, 49, 55, 50, 55, 51, 55, 52, 55, 53, 55, 54, 55, 55, 55, 56, 55, 57, 56, 48, 56, 49, 56, 50, 56, 51, 56, 52, 56, 53, 56, 54, 56, 55, 56, 56, 56, 57, 57, 48, 57, 49, 57, 50, 57, 51, 57, 52, 57, 53, 57, 54, 57, 55, 57, 56, 57, 57]⟩)) (.tmp 119), none⟩, 512, 0, true⟩,
 ⟨⟨(some 121), .idxS 1 (.tmp 110) (.tmp 112), none⟩, 455, 0, true⟩,
 ⟨⟨none, .store 1 (.tmp 121) (.tmp 118), none⟩, 2503, 2, false⟩,
 ⟨⟨(some 122), .idxS 1 (.tmp 113) (.tmp 115), none⟩, 8191, 0, true⟩,
 ⟨⟨none, .store 1 (.tmp 122) (.tmp 120), none⟩, 16383, 2, false⟩])
 (.seq (.dregion [⟨⟨(some 123), .mov (.tmp 0), none⟩, 0, 0, true⟩,
 ⟨⟨(some 124), .mov (.tmp 4), none⟩, 0, 0, true⟩,
 ⟨⟨(some 125), .bin .sub (.tmp 124) (.val (.int .i64 3)), none⟩, 2, 0, true⟩,
 ⟨⟨(some 126), .mov (.tmp 0), none⟩, 0, 0, true⟩,
 ⟨⟨(some 127), .mov (.tmp 4), none⟩, 0, 0, true⟩,
 ⟨⟨(some 128), .bin .sub (.tmp 127) (.val (.int .i64 4)), none⟩, 16, 0, true⟩,
 ⟨⟨(some 129), .mov (.tmp 14), none⟩, 0, 0, true⟩,
 ⟨⟨(some 130), .bin .add (.tmp 129) (.val (.int .u32 1)), none⟩, 64, 0, true⟩,
 ⟨⟨(some 131), .indexStr (.val (.str ⟨#[48, 48, 48, 49, 48, 50, 48, 51, 48, 52, 48, 53, 48, 54, 48, 55, 48, 56, 48, 57, 49, 48, 49, 49, 49, 50, 49, 51, 49, 52, 49, 53, 49, 54, 49, 55, 49, 56, 49, 57, 50, 48, 50, 49, 50, 50, 50, 51, 50, 52, 50, 53, 50, 54, 50, 55, 50, 56, 50, 57, 51, 48, 51, 49, 51, 50, 51, 51, 51, 52, 51, 53, 51, 54, 51, 55, 51, 56, 51, 57, 52, 48, 52, 49, 52, 50, 52, 51, 52, 52, 52, 53, 52, 54, 52, 55, 52, 56, 52, 57, 53, 48, 53, 49, 53, 50, 53, 51, 53, 52, 53, 53, 53, 54, 53, 55, 53, 56, 53, 57, 54, 48, 54, 49, 54, 50, 54, 51, 54, 52, 54, 53, 54, 54, 54, 55, 54, 56, 54, 57, 55, 48, 55, 49, 55, 50, 55, 51, 55, 52, 55, 53, 55, 54, 55, 55, 55, 56, 55, 57, 56, 48, 56, 49, 56, 50, 56, 51, 56, 52, 56, 53, 56, 54, 56, 55, 56, 56, 56, 57, 57, 48, 57, 49, 57, 50, 57, 51, 57, 52, 57, 53, 57, 54, 57, 55, 57, 56, 57, 57]⟩)) (.tmp 130), none⟩, 192, 0, true⟩,
 ⟨⟨(some 132), .mov (.tmp 14), none⟩, 0, 0, true⟩,
 ⟨⟨(some 133), .indexStr (.val (.str ⟨#[48, 48, 48, 49, 48, 50, 48, 51, 48, 52, 48, 53, 48, 54, 48, 55, 48, 56, 48, 57, 49, 48, 49, 49, 49, 50, 49, 51, 49, 52, 49, 53, 49, 54, 49, 55, 49, 56, 49, 57, 50, 48, 50, 49, 50, 50, 50, 51, 50, 52, 50, 53, 50, 54, 50, 55, 50, 56, 50, 57, 51, 48, 51, 49, 51, 50, 51, 51, 51, 52, 51, 53, 51, 54, 51, 55, 51, 56, 51, 57, 52, 48, 52, 49, 52, 50, 52, 51, 52, 52, 52, 53, 52, 54, 52, 55, 52, 56, 52, 57, 53, 48, 53, 49, 53, 50, 53, 51, 53, 52, 53, 53, 53, 54, 53, 55, 53, 56, 53, 57, 54, 48, 54, 49, 54, 50, 54, 51, 54, 52, 54, 53, 54, 54, 54, 55, 54, 56, 54, 57, 55, 48, 55, 49, 55, 50, 55, 51, 55, 52, 55, 53, 55, 54, 55, 55, 55, 56, 55, 57, 56, 48, 56, 49, 56, 50, 56, 51, 56, 52, 56, 53, 56, 54, 56, 55, 56, 56, 56, 57, 57, 48, 57, 49, 57, 50, 57, 51, 57, 52, 57, 53, 57, 54, 57, 55, 57, 56, 57, 57]⟩)) (.tmp 132), none⟩, 512, 0, true⟩,
 ⟨⟨(some 134), .idxS 1 (.tmp 123) (.tmp 125), none⟩, 455, 0, true⟩,
 ⟨⟨none, .store 1 (.tmp 134) (.tmp 131), none⟩, 2503, 2, false⟩,
 ⟨⟨(some 135), .idxS 1 (.tmp 126) (.tmp 128), none⟩, 8191, 0, true⟩,
 ⟨⟨none, .store 1 (.tmp 135) (.tmp 133), none⟩, 16383, 2, false⟩])
 (.region [⟨(some 136), .mov (.tmp 4), none⟩,
 ⟨(some 137), .bin .sub (.tmp 136) (.val (.int .i64 4)), none⟩,
 ⟨(some 4), .mov (.tmp 137), none⟩]))))))
 (.skip)))
 (.seq (.seq (.region [⟨(some 138), .mov (.tmp 4), none⟩,
 ⟨(some 139), .bin .geq (.tmp 138) (.val (.int .i64 2)), none⟩])
 (.cond (.tmp 139) (.seq (.region [⟨(some 140), .mov (.tmp 12), none⟩,
 ⟨(some 141), .bin .rem (.tmp 140) (.val (.int .u32 100)), none⟩,
 ⟨(some 142), .bin .mul (.tmp 141) (.val (.int .u32 2)), none⟩,
 ⟨(some 16), .mov (.tmp 142), none⟩])
 (.seq (.region [⟨(some 143), .mov (.tmp 12), none⟩,
 ⟨(some 144), .bin .quo (.tmp 143) (.val (.int .u32 100)), none⟩,
 ⟨(some 12), .mov (.tmp 144), none⟩])
 (.seq (.dregion [⟨⟨(some 145), .mov (.tmp 0), none⟩, 0, 0, true⟩,
 ⟨⟨(some 146), .mov (.tmp 4), none⟩, 0, 0, true⟩,
 ⟨⟨(some 147), .bin .sub (.tmp 146) (.val (.int .i64 1)), none⟩, 2, 0, true⟩,
 ⟨⟨(some 148), .mov (.tmp 0), none⟩, 0, 0, true⟩,
 ⟨⟨(some 149), .mov (.tmp 4), none⟩, 0, 0, true⟩,
 ⟨⟨(some 150), .bin .sub (.tmp 149) (.val (.int .i64 2)), none⟩, 16, 0, true⟩,
 ⟨⟨(some 151), .mov (.tmp 16), none⟩, 0, 0, true⟩,
 ⟨⟨(some 152), .bin .add (.tmp 151) (.val (.int .u32 1)), none⟩, 64, 0, true⟩,
 ⟨⟨(some 153), .indexStr (.val (.str ⟨#[48, 48, 48, 49, 48, 50, 48, 51, 48, 52, 48, 53, 48, 54, 48, 55, 48, 56, 48, 57, 49, 48, 49, 49, 49, 50, 49, 51, 49, 52, 49, 53, 49, 54, 49, 55, 49, 56, 49, 57, 50, 48, 50, 49, 50, 50, 50, 51, 50, 52, 50, 53, 50, 54, 50, 55, 50, 56, 50, 57, 51, 48, 51, 49, 51, 50, 51, 51, 51, 52, 51, 53, 51, 54, 51, 55, 51, 56, 51, 57, 52, 48, 52, 49, 52, 50, 52, 51, 52, 52, 52, 53, 52, 54, 52, 55, 52, 56, 52, 57, 53, 48, 53, 49, 53, 50, 53, 51, 53, 52, 53, 53, 53, 54, 53, 55, 53, 56, 53, 57, 54, 48, 54, 49, 54, 50, 54, 51, 54, 52, 54, 53, 54, 54, 54, 55, 54, 56, 54, 57, 55, 48, 55, 49, 55, 50, 55, 51, 55, 52, 55, 53, 55, 54, 55, 55, 55, 56, 55, 57, 56, 48, 56, 49, 56, 50, 56, 51, 56, 52, 56, 53, 56, 54, 56, 55, 56, 56, 56, 57, 57, 48, 57, 49, 57, 50, 57, 51, 57, 52, 57, 53, 57, 54, 57, 55, 57, 56, 57, 57]⟩)) (.tmp 152), none⟩, 192, 0, true⟩,
 ⟨⟨(some 154), .mov (.tmp 16), none⟩, 0, 0, true⟩,
 ⟨⟨(some 155), .indexStr (.val (.str ⟨#[48, 48, 48, 49, 48, 50, 48, 51, 48, 52, 48, 53, 48, 54, 48, 55, 48, 56, 48, 57, 49, 48, 49, 49, 49, 50, 49, 51, 49, 52, 49, 53, 49, 54, 49, 55, 49, 56, 49, 57, 50, 48, 50, 49, 50, 50, 50, 51, 50, 52, 50, 53, 50, 54, 50, 55, 50, 56, 50, 57, 51, 48, 51, 49, 51, 50, 51, 51, 51, 52, 51, 53, 51, 54, 51, 55, 51, 56, 51, 57, 52, 48, 52, 49, 52, 50, 52, 51, 52, 52, 52, 53, 52, 54, 52, 55, 52, 56, 52, 57, 53, 48, 53, 49, 53, 50, 53, 51, 53, 52, 53, 53, 53, 54, 53, 55, 53, 56, 53, 57, 54, 48, 54, 49, 54, 50, 54, 51, 54, 52, 54, 53, 54, 54, 54, 55, 54, 56, 54, 57, 55, 48, 55, 49, 55, 50, 55, 51, 55, 52, 55, 53, 55, 54, 55, 55, 55, 56, 55, 57, 56, 48, 56, 49, 56, 50, 56, 51, 56, 52, 56, 53, 56, 54, 56, 55, 56, 56, 56, 57, 57, 48, 57, 49, 57, 50, 57, 51, 57, 52, 57, 53, 57, 54, 57, 55, 57, 56, 57, 57]⟩)) (.tmp 154), none⟩, 512, 0, true⟩,
 ⟨⟨(some 156), .idxS 1 (.tmp 145) (.tmp 147), none⟩, 455, 0, true⟩,
 ⟨⟨none, .store 1 (.tmp 156) (.tmp 153), none⟩, 2503, 2, false⟩,
 ⟨⟨(some 157), .idxS 1 (.tmp 148) (.tmp 150), none⟩, 8191, 0, true⟩,
 ⟨⟨none, .store 1 (.tmp 157) (.tmp 155), none⟩, 16383, 2, false⟩])
 (.region [⟨(some 158), .mov (.tmp 4), none⟩,
 ⟨(some 159), .bin .sub (.tmp 158) (.val (.int .i64 2)), none⟩,
 ⟨(some 4), .mov (.tmp 159), none⟩]))))
 (.skip)))
 (.seq (.region [⟨(some 160), .mov (.tmp 4), none⟩,
 ⟨(some 161), .bin .gtr (.tmp 160) (.val (.int .i64 0)), none⟩])
 (.cond (.tmp 161) (.region [⟨(some 162), .mov (.tmp 0), none⟩,
 ⟨(some 163), .mov (.tmp 12), none⟩,
 ⟨(some 164), .bin .add (.val (.int .u32 48)) (.tmp 163), none⟩,
 ⟨(some 165), .convInt .u8 (.tmp 164), none⟩,
 ⟨(some 166), .idxS 1 (.tmp 162) (.val (.int .i64 0)), none⟩,
 ⟨none, .store 1 (.tmp 166) (.tmp 165), none⟩])
 (.skip)))))))), []⟩
def c183 : RFunc := ⟨102, .code (.seq (.region [⟨(some 10), .mov (.val .nslice), none⟩,
 ⟨(some 11), .mov (.val (.str ⟨#[]⟩)), none⟩])
 (.seq (.seq (.region [⟨(some 19), .mov (.tmp 2), none⟩,
 ⟨(some 20), .bin .lss (.tmp 19) (.val (.int .i64 2)), none⟩,
 ⟨(some 21), .mov (.tmp 20), none⟩,
 ⟨(some 22), .mov (.tmp 2), some (21, false)⟩,
 ⟨(some 23), .bin .eql (.tmp 22) (.val (.int .i64 10)), some (21, false)⟩,
 ⟨(some 24), .pick (.tmp 21) (.val (.bool true)) (.tmp 23), none⟩,
 ⟨(some 25), .mov (.tmp 24), none⟩,
 ⟨(some 26), .mov (.tmp 2), some (25, false)⟩,
 ⟨(some 27), .bin .gtr (.tmp 26) (.val (.int .i64 36)), some (25, false)⟩,
 ⟨(some 28), .pick (.tmp 25) (.val (.bool true)) (.tmp 27), none⟩])
 (.cond (.tmp 28) (.fail)
 (.skip)))
 (.seq (.region [⟨(some 12), .new 206 [(.int .u8 0), (.int .u8 0), (.int .u8 0), (.int .u8 0), (.int .u8 0), (.int .u8 0), (.int .u8 0), (.int .u8 0), (.int .u8 0), (.int .u8 0), (.int .u8 0), (.int .u8 0), (.int .u8 0), (.int .u8 0), (.int .u8 0), (.int .u8 0), (.int .u8 0), (.int .u8 0), (.int .u8 0), (.int .u8 0), (.int .u8 0), (.int .u8 0), (.int .u8 0), (.int .u8 0), (.int .u8 0), (.int .u8 0), (.int .u8 0), (.int .u8 0), (.int .u8 0), (.int .u8 0), (.int .u8 0), (.int .u8 0), (.int .u8 0), (.int .u8 0), (.int .u8 0), (.int .u8 0), (.int .u8 0), (.int .u8 0), (.int .u8 0), (.int .u8 0), (.int .u8 0), (.int .u8 0), (.int .u8 0), (.int .u8 0), (.int .u8 0), (.int .u8 0), (.int .u8 0), (.int .u8 0), (.int .u8 0), (.int .u8 0), (.int .u8 0), (.int .u8 0), (.int .u8 0), (.int .u8 0), (.int .u8 0), (.int .u8 0), (.int .u8 0), (.int .u8 0), (.int .u8 0), (.int .u8 0), (.int .u8 0), (.int .u8 0), (.int .u8 0), (.int .u8 0), (.int .u8 0)], none⟩])
 (.seq (.region [⟨(some 13), .mov (.val (.int .i64 65)), none⟩])
 (.seq (.seq (.region [⟨(some 30), .mov (.tmp 3), none⟩])
 (.cond (.tmp 30) (.region [⟨(some 31), .mov (.tmp 1), none⟩,
 ⟨(some 32), .un .neg (.tmp 31), none⟩,
 ⟨(some 1), .mov (.tmp 32), none⟩])
 (.skip)))
 (.seq (.seq (.region [⟨(some 33), .mov (.tmp 2), none⟩,
 ⟨(some 34), .call (.val (.func (.func 190) [] [])) [(.tmp 33)], none⟩])
 (.cond (.tmp 34) (.seq (.region [⟨(some 35), .mov (.tmp 2), none⟩,
 ⟨(some 36), .convInt .u64 (.tmp 35), none⟩,
 ⟨(some 37), .call (.val (.func (.func 191) [] [])) [(.tmp 36)], none⟩,
 ⟨(some 38), .convInt .u64 (.tmp 37), none⟩,
 ⟨(some 14), .mov (.tmp 38), none⟩])
 (.seq (.region [⟨(some 39), .mov (.tmp 2), none⟩,
 ⟨(some 40), .convInt .u64 (.tmp 39), none⟩,
 ⟨(some 15), .mov (.tmp 40), none⟩])
 (.seq (.region [⟨(some 41), .mov (.tmp 2), none⟩,
 ⟨(some 42), .convInt .u64 (.tmp 41), none⟩,
 ⟨(some 43), .bin .sub (.tmp 42) (.val (.int .u64 1)), none⟩,
 ⟨(some 16), .mov (.tmp 43), none⟩])
 (.seq (.block 0 (.loop (.seq (.seq (.region [⟨(some 44), .mov (.tmp 1), none⟩,
 ⟨(some 45), .mov (.tmp 15), none⟩,
 ⟨(some 46), .bin .geq (.tmp 44) (.tmp 45), none⟩])
 (.cond (.tmp 46) (.skip)
 (.exit 0)))
 (.block 1 (.seq (.region [⟨(some 47), .mov (.tmp 13), none⟩,
 ⟨(some 48), .bin .sub (.tmp 47) (.val (.int .i64 1)), none⟩,
 ⟨(some 13), .mov (.tmp 48), none⟩])
 (.seq (.region [⟨(some 49), .mov (.tmp 13), none⟩,
 ⟨(some 50), .mov (.tmp 1), none⟩,
 ⟨(some 51), .mov (.tmp 16), none⟩,
 ⟨(some 52), .bin .and (.tmp 50) (.tmp 51), none⟩,
 ⟨(some 53), .indexStr (.val (.str ⟨#[48, 49, 50, 51, 52, 53, 54, 55, 56, 57, 97, 98, 99, 100, 101, 102, 103, 104, 105, 106, 107, 108, 109, 110, 111, 112, 113, 114, 115, 116, 117, 118, 119, 120, 121, 122]⟩)) (.tmp 52), none⟩,
 ⟨(some 54), .idxA 65 1 (.tmp 12) (.tmp 49), none⟩,
 ⟨none, .store 1 (.tmp 54) (.tmp 53), none⟩])
 (.region [⟨(some 55), .mov (.tmp 1), none⟩,
 ⟨(some 56), .mov (.tmp 14), none⟩,
 ⟨(some 57), .bin .shr (.tmp 55) (.tmp 56), none⟩,
 ⟨(some 1), .mov (.tmp 57), none⟩])))))))
 (.seq (.region [⟨(some 58), .mov (.tmp 13), none⟩,
 ⟨(some 59), .bin .sub (.tmp 58) (.val (.int .i64 1)), none⟩,
 ⟨(some 13), .mov (.tmp 59), none⟩])
 (.region [⟨(some 60), .mov (.tmp 13), none⟩,
 ⟨(some 61), .mov (.tmp 1), none⟩,
 ⟨(some 62), .indexStr (.val (.str ⟨#[48, 49, 50, 51, 52, 53, 54, 55, 56, 57, 97, 98, 99, 100, 101, 102, 103, 104, 105, 106, 107, 108, 109, 110, 111, 112, 113, 114, 115, 116, 117, 118, 119, 120, 121, 122]⟩)) (.tmp 61), none⟩,
 ⟨(some 63), .idxA 65 1 (.tmp 12) (.tmp 60), none⟩,
 ⟨none, .store 1 (.tmp 63) (.tmp 62), none⟩]))))))
 (.seq (.region [⟨(some 64), .mov (.tmp 2), none⟩,
 ⟨(some 65), .convInt .u64 (.tmp 64), none⟩,
 ⟨(some 17), .mov (.tmp 65), none⟩])
 (.seq (.block 2 (.loop (.seq (.seq (.region [⟨(some 66), .mov (.tmp 1), none⟩,
 ⟨(some 67), .mov (.tmp 17), none⟩,
 ⟨(some 68), .bin .geq (.tmp 66) (.tmp 67), none⟩])
 (.cond (.tmp 68) (.skip)
 (.exit 2)))
 (.block 3 (.seq (.region [⟨(some 69), .mov (.tmp 13), none⟩,
 ⟨(some 70), .bin .sub (.tmp 69) (.val (.int .i64 1)), none⟩,
 ⟨(some 13), .mov (.tmp 70), none⟩])
 (.seq (.region [⟨(some 71), .mov (.tmp 1), none⟩,
 ⟨(some 72), .mov (.tmp 17), none⟩,
 ⟨(some 73), .bin .quo (.tmp 71) (.tmp 72), none⟩,
 ⟨(some 18), .mov (.tmp 73), none⟩])
 (.seq (.region [⟨(some 74), .mov (.tmp 13), none⟩,
 ⟨(some 75), .mov (.tmp 1), none⟩,
 ⟨(some 76), .mov (.tmp 18), none⟩,
 ⟨(some 77), .mov (.tmp 17), none⟩,
 ⟨(some 78), .bin .mul (.tmp 76) (.tmp 77), none⟩,
 ⟨(some 79), .bin .sub (.tmp 75) (.tmp 78), none⟩,
 ⟨(some 80), .indexStr (.val (.str ⟨#[48, 49, 50, 51, 52, 53, 54, 55, 56, 57, 97, 98, 99, 100, 101, 102, 103, 104, 105, 106, 107, 108, 109, 110, 111, 112, 113, 114, 115, 116, 117, 118, 119, 120, 121, 122]⟩)) (.tmp 79), none⟩,
 ⟨(some 81), .idxA 65 1 (.tmp 12) (.tmp 74), none⟩,
 ⟨none, .store 1 (.tmp 81) (.tmp 80), none⟩])
 (.region [⟨(some 82), .mov (.tmp 18), none⟩,
 ⟨(some 1), .mov (.tmp 82), none⟩]))))))))
 (.seq (.region [⟨(some 83), .mov (.tmp 13), none⟩,
 ⟨(some 84), .bin .sub (.tmp 83) (.val (.int .i64 1)), none⟩,
 ⟨(some 13), .mov (.tmp 84), none⟩])
 (.region [⟨(some 85), .mov (.tmp 13), none⟩,
 ⟨(some 86), .mov (.tmp 1), none⟩,
 ⟨(some 87), .indexStr (.val (.str ⟨#[48, 49, 50, 51, 52, 53, 54, 55, 56, 57, 97, 98, 99, 100, 101, 102, 103, 104, 105, 106, 107, 108, 109, 110, 111, 112, 113, 114, 115, 116, 117, 118, 119, 120, 121, 122]⟩)) (.tmp 86), none⟩,
 ⟨(some 88), .idxA 65 1 (.tmp 12) (.tmp 85), none⟩,
 ⟨none, .store 1 (.tmp 88) (.tmp 87), none⟩]))))))
 (.seq (.seq (.region [⟨(some 89), .mov (.tmp 3), none⟩])
 (.cond (.tmp 89) (.seq (.region [⟨(some 90), .mov (.tmp 13), none⟩,
 ⟨(some 91), .bin .sub (.tmp 90) (.val (.int .i64 1)), none⟩,
 ⟨(some 13), .mov (.tmp 91), none⟩])
 (.region [⟨(some 92), .mov (.tmp 13), none⟩,
 ⟨(some 93), .idxA 65 1 (.tmp 12) (.tmp 92), none⟩,
 ⟨none, .store 1 (.tmp 93) (.val (.int .u8 45)), none⟩]))
 (.skip)))
 (.seq (.seq (.region [⟨(some 94), .mov (.tmp 4), none⟩])
 (.cond (.tmp 94) (.seq (.region [⟨(some 95), .mov (.tmp 0), none⟩,
 ⟨(some 96), .mov (.tmp 13), none⟩,
 ⟨(some 97), .sliceArr 65 1 (.tmp 12) (some (.tmp 96)) none none, none⟩,
 ⟨(some 98), .append 5 1 1 (.tmp 95) (.tmp 97), none⟩,
 ⟨(some 10), .mov (.tmp 98), none⟩])
 (.ret))
 (.skip)))
 (.seq (.region [⟨(some 99), .mov (.tmp 13), none⟩,
 ⟨(some 100), .sliceArr 65 1 (.tmp 12) (some (.tmp 99)) none none, none⟩,
 ⟨(some 101), .bytesToStr (.tmp 100), none⟩,
 ⟨(some 11), .mov (.tmp 101), none⟩])
 (.ret)))))))))), [.tmp 10, .tmp 11]⟩
def c187 : RFunc := ⟨6, .code (.seq (.region [⟨(some 2), .mov (.val (.int .i64 0)), none⟩])
 (.seq (.region [⟨(some 3), .mov (.tmp 0), none⟩,
 ⟨(some 4), .bin .mul (.tmp 3) (.val (.int .i64 78913)), none⟩,
 ⟨(some 5), .bin .shr (.tmp 4) (.val (.int .u64 18)), none⟩,
 ⟨(some 2), .mov (.tmp 5), none⟩])
 (.ret))), [.tmp 2]⟩
def c188 : RFunc := ⟨25, .code (.seq (.region [⟨(some 2), .mov (.val (.int .i64 0)), none⟩])
 (.seq (.seq (.region [⟨(some 3), .mov (.tmp 0), none⟩,
 ⟨(some 4), .bin .geq (.tmp 3) (.val (.int .u64 4294967296)), none⟩])
 (.cond (.tmp 4) (.seq (.region [⟨(some 5), .mov (.tmp 0), none⟩,
 ⟨(some 6), .bin .shr (.tmp 5) (.val (.int .u64 32)), none⟩,
 ⟨(some 0), .mov (.tmp 6), none⟩])
 (.region [⟨(some 2), .mov (.val (.int .i64 32)), none⟩]))
 (.skip)))
 (.seq (.seq (.region [⟨(some 7), .mov (.tmp 0), none⟩,
 ⟨(some 8), .bin .geq (.tmp 7) (.val (.int .u64 65536)), none⟩])
 (.cond (.tmp 8) (.seq (.region [⟨(some 9), .mov (.tmp 0), none⟩,
 ⟨(some 10), .bin .shr (.tmp 9) (.val (.int .u64 16)), none⟩,
 ⟨(some 0), .mov (.tmp 10), none⟩])
 (.region [⟨(some 11), .mov (.tmp 2), none⟩,
 ⟨(some 12), .bin .add (.tmp 11) (.val (.int .i64 16)), none⟩,
 ⟨(some 2), .mov (.tmp 12), none⟩]))
 (.skip)))
 (.seq (.seq (.region [⟨(some 13), .mov (.tmp 0), none⟩,
 ⟨(some 14), .bin .geq (.tmp 13) (.val (.int .u64 256)), none⟩])
 (.cond (.tmp 14) (.seq (.region [⟨(some 15), .mov (.tmp 0), none⟩,
 ⟨(some 16), .bin .shr (.tmp 15) (.val (.int .u64 8)), none⟩,
 ⟨(some 0), .mov (.tmp 16), none⟩])
 (.region [⟨(some 17), .mov (.tmp 2), none⟩,
 ⟨(some 18), .bin .add (.tmp 17) (.val (.int .i64 8)), none⟩,
 ⟨(some 2), .mov (.tmp 18), none⟩]))
 (.skip)))
 (.seq (.region [⟨(some 19), .mov (.tmp 2), none⟩,
 ⟨(some 20), .mov (.tmp 0), none⟩,
 ⟨(some 21), .convInt .u8 (.tmp 20), none⟩,
 ⟨(some 22), .indexStr (.val (.str ⟨#[0, 1, 2, 2, 3, 3, 3, 3, 4, 4, 4, 4, 4, 4, 4, 4, 5, 5, 5, 5, 5, 5, 5, 5, 5, 5, 5, 5, 5, 5, 5, 5, 6, 6, 6, 6, 6, 6, 6, 6, 6, 6, 6, 6, 6, 6, 6, 6, 6, 6, 6, 6, 6, 6, 6, 6, 6, 6, 6, 6, 6, 6, 6, 6, 7, 7, 7, 7, 7, 7, 7, 7, 7, 7, 7, 7, 7, 7, 7, 7, 7, 7, 7, 7, 7, 7, 7, 7, 7, 7, 7, 7, 7, 7, 7, 7, 7, 7, 7, 7, 7, 7, 7, 7, 7, 7, 7, 7, 7, 7, 7, 7, 7, 7, 7, 7, 7, 7, 7, 7, 7, 7, 7, 7, 7, 7, 7, 7, 8, 8, 8, 8, 8, 8, 8, 8, 8, 8, 8, 8, 8, 8, 8, 8, 8, 8, 8, 8, 8, 8, 8, 8, 8, 8, 8, 8, 8, 8, 8, 8, 8, 8, 8, 8, 8, 8, 8, 8, 8, 8, 8, 8, 8, 8, 8, 8, 8, 8, 8, 8, 8, 8, 8, 8, 8, 8, 8, 8, 8, 8, 8, 8, 8, 8, 8, 8, 8, 8, 8, 8, 8, 8, 8, 8, 8, 8, 8, 8, 8, 8, 8, 8, 8, 8, 8, 8, 8, 8, 8, 8, 8, 8, 8, 8, 8, 8, 8, 8, 8, 8, 8, 8, 8, 8, 8, 8, 8, 8, 8, 8, 8, 8, 8, 8, 8, 8, 8, 8, 8, 8, 8, 8, 8, 8, 8, 8]⟩)) (.tmp 21), none⟩,
 ⟨(some 23), .convInt .i64 (.tmp 22), none⟩,
 ⟨(some 24), .bin .add (.tmp 19) (.tmp 23), none⟩,
 ⟨(some 2), .mov (.tmp 24), none⟩])
 (.ret)))))), [.tmp 2]⟩
def c189 : RFunc := ⟨4, .code (.seq (.region [⟨(some 2), .mov (.val (.int .i64 0)), none⟩])
 (.seq (.seq (.region [⟨(some 3), .mov (.tmp 0), none⟩])
 (.cond (.tmp 3) (.seq (.region [⟨(some 2), .mov (.val (.int .i64 1)), none⟩])
 (.ret))
 (.skip)))
 (.seq (.region [⟨(some 2), .mov (.val (.int .i64 0)), none⟩])
 (.ret)))), [.tmp 2]⟩
def c190 : RFunc := ⟨8, .code (.seq (.region [⟨(some 2), .mov (.val (.bool false)), none⟩])
 (.seq (.region [⟨(some 3), .mov (.tmp 0), none⟩,
 ⟨(some 4), .mov (.tmp 0), none⟩,
 ⟨(some 5), .bin .sub (.tmp 4) (.val (.int .i64 1)), none⟩,
 ⟨(some 6), .bin .and (.tmp 3) (.tmp 5), none⟩,
 ⟨(some 7), .bin .eql (.tmp 6) (.val (.int .i64 0)), none⟩,
 ⟨(some 2), .mov (.tmp 7), none⟩])
 (.ret))), [.tmp 2]⟩
def c191 : RFunc := ⟨8, .code (.seq (.region [⟨(some 2), .mov (.val (.int .i64 0)), none⟩])
 (.seq (.cond (.val (.bool false)) (.seq (.region [⟨(some 3), .mov (.tmp 0), none⟩,
 ⟨(some 4), .convInt .u32 (.tmp 3), none⟩,
 ⟨(some 5), .call (.val (.func (.func 193) [] [])) [(.tmp 4)], none⟩,
 ⟨(some 2), .mov (.tmp 5), none⟩])
 (.ret))
 (.skip))
 (.seq (.region [⟨(some 6), .mov (.tmp 0), none⟩,
 ⟨(some 7), .call (.val (.func (.func 194) [] [])) [(.tmp 6)], none⟩,
 ⟨(some 2), .mov (.tmp 7), none⟩])
 (.ret)))), [.tmp 2]⟩
def c193 : RFunc := ⟨14, .code (.seq (.region [⟨(some 2), .mov (.val (.int .i64 0)), none⟩])
 (.seq (.seq (.region [⟨(some 3), .mov (.tmp 0), none⟩,
 ⟨(some 4), .bin .eql (.tmp 3) (.val (.int .u32 0)), none⟩])
 (.cond (.tmp 4) (.seq (.region [⟨(some 2), .mov (.val (.int .i64 32)), none⟩])
 (.ret))
 (.skip)))
 (.seq (.region [⟨(some 5), .mov (.tmp 0), none⟩,
 ⟨(some 6), .mov (.tmp 0), none⟩,
 ⟨(some 7), .un .neg (.tmp 6), none⟩,
 ⟨(some 8), .bin .and (.tmp 5) (.tmp 7), none⟩,
 ⟨(some 9), .bin .mul (.tmp 8) (.val (.int .u32 125613361)), none⟩,
 ⟨(some 10), .bin .shr (.tmp 9) (.val (.int .u64 27)), none⟩,
 ⟨(some 11), .idxA 32 1 (.val (.ptr 3 0)) (.tmp 10), none⟩,
 ⟨(some 12), .load none (.tmp 11), none⟩,
 ⟨(some 13), .convInt .i64 (.tmp 12), none⟩,
 ⟨(some 2), .mov (.tmp 13), none⟩])
 (.ret)))), [.tmp 2]⟩
def c194 : RFunc := ⟨14, .code (.seq (.region [⟨(some 2), .mov (.val (.int .i64 0)), none⟩])
 (.seq (.seq (.region [⟨(some 3), .mov (.tmp 0), none⟩,
 ⟨(some 4), .bin .eql (.tmp 3) (.val (.int .u64 0)), none⟩])
 (.cond (.tmp 4) (.seq (.region [⟨(some 2), .mov (.val (.int .i64 64)), none⟩])
 (.ret))
 (.skip)))
 (.seq (.region [⟨(some 5), .mov (.tmp 0), none⟩,
 ⟨(some 6), .mov (.tmp 0), none⟩,
 ⟨(some 7), .un .neg (.tmp 6), none⟩,
 ⟨(some 8), .bin .and (.tmp 5) (.tmp 7), none⟩,
 ⟨(some 9), .bin .mul (.tmp 8) (.val (.int .u64 285870213051353865)), none⟩,
 ⟨(some 10), .bin .shr (.tmp 9) (.val (.int .u64 58)), none⟩,
 ⟨(some 11), .idxA 64 1 (.val (.ptr 4 0)) (.tmp 10), none⟩,
 ⟨(some 12), .load none (.tmp 11), none⟩,
 ⟨(some 13), .convInt .i64 (.tmp 12), none⟩,
 ⟨(some 2), .mov (.tmp 13), none⟩])
 (.ret)))), [.tmp 2]⟩
end Go.Am

/- The functions of the program, in the small machine. -/
set_option maxRecDepth 100000
set_option maxHeartbeats 4000000
namespace Go.Am
open Go
/-- The package-level table that the functions read. -/
def aroundT : List (Nat × List AVal) := [(0, [.int .i64 0, .int .i64 (-1), .int .i64 1, .int .i64 (-1), .int .i64 1, .int .i64 0, .int .i64 1, .int .i64 1, .int .i64 0, .int .i64 1, .int .i64 (-1), .int .i64 1, .int .i64 (-1), .int .i64 0, .int .i64 (-1), .int .i64 (-1)])]
def powT : List (Nat × List AVal) := [(2, [.int .u64 1, .int .u64 10, .int .u64 100, .int .u64 1000, .int .u64 10000, .int .u64 100000, .int .u64 1000000, .int .u64 10000000, .int .u64 100000000, .int .u64 1000000000, .int .u64 10000000000, .int .u64 100000000000, .int .u64 1000000000000, .int .u64 10000000000000, .int .u64 100000000000000, .int .u64 1000000000000000, .int .u64 10000000000000000, .int .u64 100000000000000000, .int .u64 1000000000000000000, .int .u64 10000000000000000000])]
def digF : List AVal → Option AVal
  | [.int .i64 n] => if 0 ≤ n ∧ n ≤ 640 then some (.str ⟨(digs n.toNat).toArray⟩) else none
  | _ => none
def ext : Exts := fun k args => match k with
  | 0 => aCount args
  | 1 => aIndexByte args
  | 2 => aSelf args
  | 3 => aClosed aroundT (.bool true) args
  | 4 => aFam powT digF args
  | 5 => aFam [] digF args
  | _ => M.fail
def prog0 : FuncId → Option RFunc := fun f => (cond (Nat.blt f 142) (cond (Nat.blt f 108) (cond (Nat.blt f 94) (cond (Nat.blt f 60) (cond (Nat.blt f 27) (cond (Nat.beq f 19) (some c19) none) (cond (Nat.blt f 32) (cond (Nat.beq f 27) (some c27) none) (cond (Nat.beq f 32) (some c32) none))) (cond (Nat.blt f 72) (cond (Nat.blt f 70) (cond (Nat.beq f 60) (some c60) none) (cond (Nat.beq f 70) (some c70) none)) (cond (Nat.blt f 77) (cond (Nat.beq f 72) (some c72) none) (cond (Nat.beq f 77) (some c77) none)))) (cond (Nat.blt f 102) (cond (Nat.blt f 97) (cond (Nat.beq f 94) (some c94) none) (cond (Nat.blt f 98) (cond (Nat.beq f 97) (some c97) none) (cond (Nat.beq f 98) (some c98) none))) (cond (Nat.blt f 106) (cond (Nat.blt f 103) (cond (Nat.beq f 102) (some c102) none) (cond (Nat.beq f 103) (some c103) none)) (cond (Nat.blt f 107) (cond (Nat.beq f 106) (some c106) none) (cond (Nat.beq f 107) (some c107) none))))) (cond (Nat.blt f 128) (cond (Nat.blt f 121) (cond (Nat.blt f 109) (cond (Nat.beq f 108) (some c108) none) (cond (Nat.blt f 118) (cond (Nat.beq f 109) (some c109) none) (cond (Nat.beq f 118) (some c118) none))) (cond (Nat.blt f 126) (cond (Nat.blt f 122) (cond (Nat.beq f 121) (some c121) none) (cond (Nat.beq f 122) (some c122) none)) (cond (Nat.blt f 127) (cond (Nat.beq f 126) (some c126) none) (cond (Nat.beq f 127) (some c127) none)))) (cond (Nat.blt f 132) (cond (Nat.blt f 129) (cond (Nat.beq f 128) (some c128) none) (cond (Nat.blt f 130) (cond (Nat.beq f 129) (some c129) none) (cond (Nat.beq f 130) (some c130) none))) (cond (Nat.blt f 134) (cond (Nat.blt f 133) (cond (Nat.beq f 132) (some c132) none) (cond (Nat.beq f 133) (some c133) none)) (cond (Nat.blt f 135) (cond (Nat.beq f 134) (some c134) none) (cond (Nat.beq f 135) (some c135) none)))))) (cond (Nat.blt f 175) (cond (Nat.blt f 163) (cond (Nat.blt f 154) (cond (Nat.blt f 143) (cond (Nat.beq f 142) (some c142) none) (cond (Nat.blt f 153) (cond (Nat.beq f 143) (some c143) none) (cond (Nat.beq f 153) (some c153) none))) (cond (Nat.blt f 160) (cond (Nat.blt f 155) (cond (Nat.beq f 154) (some ⟨0, .ext 0, []⟩) none) (cond (Nat.beq f 155) (some c155) none)) (cond (Nat.blt f 162) (cond (Nat.beq f 160) (some c160) none) (cond (Nat.beq f 162) (some ⟨0, .ext 1, []⟩) none)))) (cond (Nat.blt f 170) (cond (Nat.blt f 164) (cond (Nat.beq f 163) (some c163) none) (cond (Nat.blt f 165) (cond (Nat.beq f 164) (some c164) none) (cond (Nat.beq f 165) (some c165) none))) (cond (Nat.blt f 173) (cond (Nat.blt f 171) (cond (Nat.beq f 170) (some c170) none) (cond (Nat.beq f 171) (some c171) none)) (cond (Nat.blt f 174) (cond (Nat.beq f 173) (some c173) none) (cond (Nat.beq f 174) (some c174) none))))) (cond (Nat.blt f 187) (cond (Nat.blt f 180) (cond (Nat.blt f 176) (cond (Nat.beq f 175) (some ⟨0, .ext 2, []⟩) none) (cond (Nat.blt f 179) (cond (Nat.beq f 176) (some c176) none) (cond (Nat.beq f 179) (some c179) none))) (cond (Nat.blt f 182) (cond (Nat.blt f 181) (cond (Nat.beq f 180) (some c180) none) (cond (Nat.beq f 181) (some c181) none)) (cond (Nat.blt f 183) (cond (Nat.beq f 182) (some c182) none) (cond (Nat.beq f 183) (some c183) none)))) (cond (Nat.blt f 190) (cond (Nat.blt f 188) (cond (Nat.beq f 187) (some c187) none) (cond (Nat.blt f 189) (cond (Nat.beq f 188) (some c188) none) (cond (Nat.beq f 189) (some c189) none))) (cond (Nat.blt f 193) (cond (Nat.blt f 191) (cond (Nat.beq f 190) (some c190) none) (cond (Nat.beq f 191) (some c191) none)) (cond (Nat.blt f 194) (cond (Nat.beq f 193) (some c193) none) (cond (Nat.beq f 194) (some c194) none)))))))
def prog : FuncId → Option RFunc := fun f => (cond (Nat.blt f 106) (cond (Nat.blt f 85) (cond (Nat.blt f 32) (cond (Nat.blt f 20) (cond (Nat.blt f 18) (cond (Nat.beq f 4) (some c4) none) (cond (Nat.blt f 19) (cond (Nat.beq f 18) (some c18) none) (cond (Nat.beq f 19) (some ⟨0, .ext 3, []⟩) none))) (cond (Nat.blt f 26) (cond (Nat.blt f 21) (cond (Nat.beq f 20) (some c20) none) (cond (Nat.beq f 21) (some c21) none)) (cond (Nat.blt f 27) (cond (Nat.beq f 26) (some c26) none) (cond (Nat.beq f 27) (some c27) none)))) (cond (Nat.blt f 44) (cond (Nat.blt f 35) (cond (Nat.beq f 32) (some c32) none) (cond (Nat.blt f 37) (cond (Nat.beq f 35) (some c35) none) (cond (Nat.beq f 37) (some c37) none))) (cond (Nat.blt f 82) (cond (Nat.blt f 77) (cond (Nat.beq f 44) (some c44) none) (cond (Nat.beq f 77) (some c77) none)) (cond (Nat.blt f 83) (cond (Nat.beq f 82) (some c82) none) (cond (Nat.beq f 83) (some c83) none))))) (cond (Nat.blt f 97) (cond (Nat.blt f 92) (cond (Nat.blt f 86) (cond (Nat.beq f 85) (some c85) none) (cond (Nat.blt f 87) (cond (Nat.beq f 86) (some c86) none) (cond (Nat.beq f 87) (some c87) none))) (cond (Nat.blt f 95) (cond (Nat.blt f 93) (cond (Nat.beq f 92) (some c92) none) (cond (Nat.beq f 93) (some c93) none)) (cond (Nat.blt f 96) (cond (Nat.beq f 95) (some c95) none) (cond (Nat.beq f 96) (some c96) none)))) (cond (Nat.blt f 102) (cond (Nat.blt f 100) (cond (Nat.blt f 98) (cond (Nat.beq f 97) (some c97) none) (cond (Nat.beq f 98) (some c98) none)) (cond (Nat.blt f 101) (cond (Nat.beq f 100) (some c100) none) (cond (Nat.beq f 101) (some c101) none))) (cond (Nat.blt f 104) (cond (Nat.blt f 103) (cond (Nat.beq f 102) (some c102) none) (cond (Nat.beq f 103) (some c103) none)) (cond (Nat.blt f 105) (cond (Nat.beq f 104) (some c104) none) (cond (Nat.beq f 105) (some c105) none)))))) (cond (Nat.blt f 148) (cond (Nat.blt f 126) (cond (Nat.blt f 111) (cond (Nat.blt f 107) (cond (Nat.beq f 106) (some c106) none) (cond (Nat.blt f 108) (cond (Nat.beq f 107) (some c107) none) (cond (Nat.beq f 108) (some c108) none))) (cond (Nat.blt f 113) (cond (Nat.blt f 112) (cond (Nat.beq f 111) (some c111) none) (cond (Nat.beq f 112) (some c112) none)) (cond (Nat.blt f 118) (cond (Nat.beq f 113) (some c113) none) (cond (Nat.beq f 118) (some c118) none)))) (cond (Nat.blt f 142) (cond (Nat.blt f 127) (cond (Nat.beq f 126) (some c126) none) (cond (Nat.blt f 128) (cond (Nat.beq f 127) (some c127) none) (cond (Nat.beq f 128) (some c128) none))) (cond (Nat.blt f 146) (cond (Nat.blt f 143) (cond (Nat.beq f 142) (some c142) none) (cond (Nat.beq f 143) (some c143) none)) (cond (Nat.blt f 147) (cond (Nat.beq f 146) (some c146) none) (cond (Nat.beq f 147) (some c147) none))))) (cond (Nat.blt f 157) (cond (Nat.blt f 153) (cond (Nat.blt f 149) (cond (Nat.beq f 148) (some c148) none) (cond (Nat.blt f 152) (cond (Nat.beq f 149) (some c149) none) (cond (Nat.beq f 152) (some c152) none))) (cond (Nat.blt f 155) (cond (Nat.blt f 154) (cond (Nat.beq f 153) (some c153) none) (cond (Nat.beq f 154) (some ⟨0, .ext 0, []⟩) none)) (cond (Nat.blt f 156) (cond (Nat.beq f 155) (some c155) none) (cond (Nat.beq f 156) (some c156) none)))) (cond (Nat.blt f 171) (cond (Nat.blt f 169) (cond (Nat.blt f 162) (cond (Nat.beq f 157) (some c157) none) (cond (Nat.beq f 162) (some ⟨0, .ext 1, []⟩) none)) (cond (Nat.blt f 170) (cond (Nat.beq f 169) (some c169) none) (cond (Nat.beq f 170) (some c170) none))) (cond (Nat.blt f 174) (cond (Nat.blt f 173) (cond (Nat.beq f 171) (some c171) none) (cond (Nat.beq f 173) (some c173) none)) (cond (Nat.blt f 179) (cond (Nat.beq f 174) (some c174) none) (cond (Nat.beq f 179) (some c179) none)))))))
end Go.Am

/- Functions without a body do what the small machine says. -/
namespace Go.Am
open Go Go.RowKit

section
variable {P : Program} {S : Base} {m : RMap} {H H' : AHeap} {w : World}

theorem aBytesFn_some {f : List UInt8 → AVal} {e : Array Value → Sem Value} {bv : Value} (hstr : ∀ (s : ByteArray) (w : World), ∃ y, (e #[.string s, bv]).run P w = .ok y w ∧ emb m (f s.data.toList) = some y)
    (hnil : ∀ (l c : Nat) (w : World), ∃ y, (e #[.slice none l c, bv]).run P w = .ok y w ∧ emb m (f []) = some y)
    (hsl : ∀ (a : Addr) (n c : Nat) (xs : List Int) (w : World), xs.length = n → (∀ j x, xs[j]? = some x → w.cell? (a.add j) = some (.int .u8 x)) → ∃ y, (e #[.slice (some a) n c, bv]).run P w = .ok y w ∧ emb m (f (xs.map fun n => UInt8.ofNat n.toNat)) = some y)
    {av u : AVal} {x : Value} (ha : emb m av = some x) (h : HRel S m H w) (hx : aBytesFn f av H = some (u, H')) : ∃ y, (e #[x, bv]).run P w = .ok y w ∧ Out S m u H' y w := by
  cases av with
  | nslice =>
    obtain ⟨rfl, rfl⟩ := pure_some hx
    simp only [emb] at ha; cases ha
    obtain ⟨y, h1, h2⟩ := hnil 0 0 w
    exact ⟨y, h1, Out.same h h2⟩
  | str s =>
    obtain ⟨rfl, rfl⟩ := pure_some hx
    simp only [emb] at ha; cases ha
    obtain ⟨y, h1, h2⟩ := hstr s w
    exact ⟨y, h1, Out.same h h2⟩
  | slice r off len cap s =>
    obtain ⟨p, hp, rfl⟩ := emb_slice_some ha
    simp only [aBytesFn] at hx
    by_cases hs : s ≠ 1
    · rw [if_pos hs] at hx; exact (fail_some hx).elim
    · rw [if_neg hs] at hx
      obtain ⟨⟨cs, rw⟩, H1, h1, h2⟩ := bind_some hx
      obtain ⟨rfl, hr, e', hg⟩ := aRow_some h1
      simp only [] at h2
      by_cases hq : off + len ≤ cs.length
      · rw [if_pos hq] at h2
        cases hb : bytesOf ((cs.drop off).take len) with
        | none => rw [hb] at h2; exact (fail_some h2).elim
        | some l =>
          rw [hb] at h2
          obtain ⟨rfl, rfl⟩ := pure_some h2
          obtain ⟨ns, hns, rfl⟩ := bytesOf_some hb
          have hok := h.row r cs rw e' p hr hg hp
          have hlen : ns.length = len := by
            have h1 : ((cs.drop off).take len).length = len := by simp; omega
            rw [hns] at h1; simpa using h1
          obtain ⟨y, h3, h4⟩ := hsl (p.1.add off) len (capR cap ((p.2 - off) / s)) ns w hlen fun j b hj => by
            have hjn : j < len := by rw [← hlen]; exact (List.getElem?_eq_some_iff.1 hj).1
            have h1 : cs[off + j]? = some (.int .u8 b) := by
              have h2 : ((cs.drop off).take len)[j]? = some (.int .u8 b) := by rw [hns]; simp [hj]
              rw [List.getElem?_take_of_lt hjn, List.getElem?_drop] at h2; exact h2
            obtain ⟨y, h3, h4⟩ := hok.cell _ _ h1
            simp only [emb] at h3; cases h3
            rw [add_add]; exact h4
          exact ⟨y, h3, Out.same h h4⟩
      · rw [if_neg hq] at h2; exact (fail_some h2).elim
  | _ => exact (fail_some (H := H) hx).elim

theorem yields_extern {f : FuncId} {fn : Func} {e : Array Value → Sem Value} (hf : P.funcs[f]? = some fn) (hname : (fn.name == "runtime.NumGoroutine") = false)
    (hb : fn.body.isNone = true) (hn : Extern.findNext fn = none) (he : Extern.find fn = some e) {args : Array Value} {y : Value} {R : Value → World → Prop} (hr : (e args).run P w = .ok y w) (h : R y w) : Yields P (callFunc f args) w R := by
  unfold Yields
  rw [run_callFunc_extern hf hname hb hn he, hr]
  exact h

theorem sem_bind_of {α β : Type} {P : Program} {w : World} {x : Sem α} {f : α → Sem β} {a : α} {w' : World} {r : Result β} (h : x.run P w = .ok a w') (h2 : (x >>= f).run P w = r) : (f a).run P w' = r := by
  rw [← h2]
  simp [h]

theorem ext_count {ext : Exts} {k : Nat} (hk : ext k = aCount) {f : FuncId} {fn : Func} (hf : P.funcs[f]? = some fn) (hname : (fn.name == "runtime.NumGoroutine") = false)
    (hb : fn.body.isNone = true) (hn : Extern.findNext fn = none) (he : Extern.find fn = some Extern.BytealgCount.count) : ExtSim P ext f k := by
  intro S args H v H' m w vargs hG hx h ha
  rw [hk] at hx
  match args, hx, ha with
  | [x, .int .u8 b], hx, ha =>
    obtain ⟨y, ys, h1, h2, rfl⟩ := embL_cons ha
    obtain ⟨z, zs, h3, h4, rfl⟩ := embL_cons h2
    simp only [embL] at h4; cases h4
    simp only [emb] at h3; cases h3
    obtain ⟨q, h5, h6⟩ := aBytesFn_some (P := P) (e := Extern.BytealgCount.count) (bv := .int .u8 b) (f := fun l => .int .i64 (Lib.countByte l (UInt8.ofNat b.toNat)))
      (fun s w => ⟨_, Lib.run_countString s b w, by simp [emb] <;> rfl⟩)
      (fun l c w => ⟨_, Lib.run_countString .empty b w, by simp [emb] <;> rfl⟩)
      (fun a n c xs w hl hc => by
        have hload := Lib.run_loadBytesX (P := P) w xs a .empty hc
        rw [hl] at hload
        have hs := Lib.run_countString (P := P) ⟨(Lib.bytesOf xs).toArray⟩ b w
        have he : (⟨ByteArray.empty.data ++ (Lib.bytesOf xs).toArray⟩ : ByteArray) = ⟨(Lib.bytesOf xs).toArray⟩ := by
          apply ByteArray.ext
          show (#[] : Array UInt8) ++ (Lib.bytesOf xs).toArray = (Lib.bytesOf xs).toArray
          simp
        rw [he] at hload
        refine ⟨.int .i64 (Lib.countByte (Lib.bytesOf xs) b.toNat.toUInt8), ?_, by simp [emb] <;> rfl⟩
        have hb1 : (Extern.Bytes.bytesOf (.slice (some a) n c)).run P w = .ok ⟨(Lib.bytesOf xs).toArray⟩ w := by simpa [Extern.Bytes.bytesOf] using hload
        have hb2 : (Extern.Bytes.bytesOf (.string ⟨(Lib.bytesOf xs).toArray⟩)).run P w = .ok ⟨(Lib.bytesOf xs).toArray⟩ w := by simp [Extern.Bytes.bytesOf]
        refine sem_bind_ok hb1 ?_
        have hs2 := sem_bind_of hb2 hs
        exact hs2) h1 h hx
    exact yields_extern hf hname hb hn he h5 h6

theorem ext_indexByte {ext : Exts} {k : Nat} (hk : ext k = aIndexByte) {f : FuncId} {fn : Func} (hf : P.funcs[f]? = some fn) (hname : (fn.name == "runtime.NumGoroutine") = false)
    (hb : fn.body.isNone = true) (hn : Extern.findNext fn = none) (he : Extern.find fn = some Extern.BytealgIndexByte.indexByte) : ExtSim P ext f k := by
  intro S args H v H' m w vargs hG hx h ha
  rw [hk] at hx
  match args, hx, ha with
  | [x, .int .u8 b], hx, ha =>
    obtain ⟨y, ys, h1, h2, rfl⟩ := embL_cons ha
    obtain ⟨z, zs, h3, h4, rfl⟩ := embL_cons h2
    simp only [embL] at h4; cases h4
    simp only [emb] at h3; cases h3
    obtain ⟨q, h5, h6⟩ := aBytesFn_some (P := P) (e := Extern.BytealgIndexByte.indexByte) (bv := .int .u8 b) (f := fun l => .int .i64 (Lib.indexByte l (UInt8.ofNat b.toNat)))
      (fun s w => ⟨_, Lib.run_indexByteString s b w, by simp [emb] <;> rfl⟩)
      (fun l c w => ⟨_, Lib.run_indexByteNil w l c b, by simp [emb] <;> rfl⟩)
      (fun a n c xs w hl hc => by
        have hload := Lib.run_loadBytesX (P := P) w xs a .empty hc
        rw [hl] at hload
        have hs := Lib.run_indexByteString (P := P) ⟨(Lib.bytesOf xs).toArray⟩ b w
        have he : (⟨ByteArray.empty.data ++ (Lib.bytesOf xs).toArray⟩ : ByteArray) = ⟨(Lib.bytesOf xs).toArray⟩ := by
          apply ByteArray.ext
          show (#[] : Array UInt8) ++ (Lib.bytesOf xs).toArray = (Lib.bytesOf xs).toArray
          simp
        rw [he] at hload
        refine ⟨.int .i64 (Lib.indexByte (Lib.bytesOf xs) b.toNat.toUInt8), ?_, by simp [emb] <;> rfl⟩
        have hb1 : (Extern.Bytes.bytesOf (.slice (some a) n c)).run P w = .ok ⟨(Lib.bytesOf xs).toArray⟩ w := by simpa [Extern.Bytes.bytesOf] using hload
        have hb2 : (Extern.Bytes.bytesOf (.string ⟨(Lib.bytesOf xs).toArray⟩)).run P w = .ok ⟨(Lib.bytesOf xs).toArray⟩ w := by simp [Extern.Bytes.bytesOf]
        refine sem_bind_ok hb1 ?_
        have hs2 := sem_bind_of hb2 hs
        exact hs2) h1 h hx
    exact yields_extern hf hname hb hn he h5 h6

theorem ext_self {ext : Exts} {k : Nat} (hk : ext k = aSelf) {f : FuncId} {fn : Func} (hf : P.funcs[f]? = some fn) (hname : (fn.name == "runtime.NumGoroutine") = false)
    (hb : fn.body.isNone = true) (hn : Extern.findNext fn = none) (he : Extern.find fn = some Extern.AbiNoEscape.same) : ExtSim P ext f k := by
  intro S args H v H' m w vargs hG hx h ha
  rw [hk] at hx
  match args, hx, ha with
  | [x], hx, ha =>
    obtain ⟨y, ys, h1, h2, rfl⟩ := embL_cons ha
    simp only [embL] at h2; cases h2
    obtain ⟨rfl, rfl⟩ := pure_some hx
    have hr : (Extern.AbiNoEscape.same #[y]).run P w = .ok y w := by
      have : Extern.AbiNoEscape.same #[y] = pure y := rfl
      rw [this]; simp
    exact yields_extern hf hname hb hn he hr (Out.same h h1)
end
end Go.Am
