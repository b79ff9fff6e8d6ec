/- Arguments opened: what a reading as data finds, laid in rows that are only read. -/
import Derived.Test.YtofdnhdoblpniaaDoorAmKit2
import Derived.Test.YtofdnhdoblpniaaDoorAmClosed
import Derived.ReadAgain
import Derived.WideShapes
import Derived.ChangeShapes
import Derived.OpenShut
import Derived.ChangeStays
set_option linter.unusedSimpArgs false
set_option linter.unusedVariables false
namespace Go.Am
open Go Go.RowKit

def plainT (P : Program) : Nat → TypeId → Bool
  | 0, _ => false
  | n + 1, t => match P.underlying t with
    | some .bool => true
    | some .string => true
    | some (.int _) => true
    | some (.slice e) => plainT P n e
    | some (.struct fs) => fs.toList.all fun f => plainT P n f.type
    | some (.array _ e) => plainT P n e
    | _ => false

def shapes (S : TypeId → List AVal → Prop) : List TypeId → List AVal → Prop
  | [], cs => cs = []
  | t :: ts, cs => ∃ a b, cs = a ++ b ∧ S t a ∧ shapes S ts b
/-- Cells that hold a value of a plain type. -/
def Shape (P : Program) (H : AHeap) : Nat → TypeId → List AVal → Prop
  | 0, _, _ => False
  | n + 1, t, cs => match P.underlying t with
    | some .bool => ∃ b, cs = [.bool b]
    | some .string => ∃ s : ByteArray, cs = [.str s] ∧ s.size ≤ maxLen
    | some (.int k) => ∃ i, cs = [.int k i] ∧ (Lit.int k i).wf = true
    | some (.slice e) => ∃ p len cells, cs = [p] ∧ SliceAt H p (P.cellsOf e) len cells ∧ len ≤ maxLen ∧ shapes (Shape P H n) (List.replicate len e) cells
    | some (.struct fs) => shapes (Shape P H n) (fs.toList.map fun f => f.type) cs
    | some (.array k e) => shapes (Shape P H n) (List.replicate k e) cs
    | _ => False

theorem shapes_mono {S S' : TypeId → List AVal → Prop} (h : ∀ t a, S t a → S' t a) : ∀ {ts : List TypeId} {cs : List AVal}, shapes S ts cs → shapes S' ts cs := by
  intro ts
  induction ts with
  | nil => intro cs h; exact h
  | cons t ts ih =>
    intro cs hs
    obtain ⟨a, b, e, h1, h2⟩ := hs
    exact ⟨a, b, e, h _ _ h1, ih h2⟩
theorem Shape.ext {P : Program} {H H' : AHeap} (x : Ext H H') : ∀ {n : Nat} {t : TypeId} {cs : List AVal}, Shape P H n t cs → Shape P H' n t cs := by
  intro n
  induction n with
  | zero => intro t cs h; exact h
  | succ n ih =>
    intro t cs h
    cases hu : P.underlying t with
    | none => simp only [Shape, hu] at h
    | some d => cases d with
      | slice e =>
        simp only [Shape, hu] at h ⊢
        obtain ⟨p, len, cells, h1, h2, h3, h4⟩ := h
        haveI : ExtI H H' := ⟨x⟩
        exact ⟨p, len, cells, h1, inferInstance, h3, shapes_mono (fun t a => ih) h4⟩
      | struct fs => simp only [Shape, hu] at h ⊢; exact shapes_mono (fun t a => ih) h
      | array k e => simp only [Shape, hu] at h ⊢; exact shapes_mono (fun t a => ih) h
      | _ => simp only [Shape, hu] at h ⊢ <;> exact h
theorem shapes_ext {P : Program} {H H' : AHeap} (x : Ext H H') {n : Nat} {ts : List TypeId} {cs : List AVal} (h : shapes (Shape P H n) ts cs) : shapes (Shape P H' n) ts cs := shapes_mono (fun _ _ => Shape.ext x) h

def RO (H : AHeap) : Prop := ∀ r cs rw e, H.get r = .row cs rw e → rw = false

section
variable {P : Program} {S : Base} {m : RMap} {H : AHeap} {w : World}

theorem HRel.addRow (h : HRel S m H w) (hro : RO H) (hgh : ∀ r, ¬ S.ghost r) {cs : List AVal} {a : Addr} (hc : ∀ (i : Nat) (v : AVal), cs[i]? = some v → ∃ x, emb m v = some x ∧ w.cell? (a.add i) = some x) :
    Le m (m.add H.n (a, cs.length)) ∧ HRel S (m.add H.n (a, cs.length)) (H.push (.row cs false 0)) w ∧ RO (H.push (.row cs false 0)) := by
  have hm := le_add (m := m) (n := H.n) (a, cs.length) (h.fresh H.n (Nat.le_refl _))
  have hro' : RO (H.push (.row cs false 0)) := by
    intro r cs' rw e hg
    rw [getp] at hg
    split at hg
    · cases hg; rfl
    · exact hro _ _ _ _ hg
  refine ⟨hm, ⟨h.below, h.size, fun g hg => ?_, fun r hr => ?_, fun r hr => absurd hr (hgh r), fun r cs' rw e p hr hg hp => ?_, fun r s cs' rw e cs2 e2 p q hr hs hne hg1 hg2 => ?_⟩, hro'⟩
  · obtain ⟨k, hk⟩ := h.glob g hg
    exact ⟨k, hm _ _ hk⟩
  · have : r ≠ H.n := by simp only [np] at hr; omega
    rw [add_ne this]
    exact h.fresh r (by simp only [np] at hr; omega)
  · rw [getp] at hg
    by_cases hrn : r = H.n
    · rw [if_pos hrn] at hg
      cases hg
      rw [hrn, add_eq] at hp
      cases hp
      refine ⟨fun i v hi => ?_, Nat.le_refl _, fun q => by cases q⟩
      obtain ⟨x, h1, h2⟩ := hc i v hi
      exact ⟨x, emb_mono hm _ _ h1, h2⟩
    · rw [if_neg hrn] at hg
      rw [add_ne hrn] at hp
      exact (h.row r cs' rw e p (by simp only [np] at hr; omega) hg hp).mono hm (Keeps.refl _ _) (fun _ => rfl) fun _ => rfl
  · have := hro' _ _ _ _ hg2
    cases this

theorem some_bind {α β : Type} {x : Option α} {f : α → Option β} {y : β} (h : x.bind f = some y) : ∃ a, x = some a ∧ f a = some y := by
  cases x with
  | none => cases h
  | some a => exact ⟨a, rfl, h⟩
theorem some_map {α β : Type} {x : Option α} {f : α → β} {y : β} (h : x.map f = some y) : ∃ a, x = some a ∧ f a = y := by
  cases x with
  | none => cases h
  | some a => exact ⟨a, rfl, Option.some.inj h⟩
theorem mapM_cons_some {α β : Type} {f : α → Option β} {x : α} {l : List α} {r : List β} (h : (x :: l).mapM f = some r) : ∃ a t, f x = some a ∧ l.mapM f = some t ∧ r = a :: t := by
  rw [List.mapM_cons] at h
  obtain ⟨a, h1, h2⟩ := some_bind h
  obtain ⟨t, h3, h4⟩ := some_bind h2
  exact ⟨a, t, h1, h3, (Option.some.inj h4).symm⟩

theorem embL_cells {m : RMap} {acs : List AVal} {cs : List Value} (h : embL m acs = some cs) {i : Nat} {v : AVal} (hi : acs[i]? = some v) : ∃ x, emb m v = some x ∧ cs[i]? = some x := embL_get h hi

theorem cells?_len {w : World} {base : Nat} {a : Addr} {n : Nat} {cs : List Value} (h : w.cells? base a n = some cs) : cs.length = n ∧ ∀ (i : Nat) (x : Value), cs[i]? = some x → w.cell? (a.add i) = some x := by
  unfold World.cells? at h
  split at h
  · have key : ∀ (l : List Nat) (cs : List Value), l.mapM (fun i => w.cell? (a.add i)) = some cs → cs.length = l.length ∧ ∀ (i : Nat) (x : Value), cs[i]? = some x → ∃ k : Nat, l[i]? = some k ∧ w.cell? (a.add k) = some x := by
      intro l
      induction l with
      | nil => intro cs h; simp at h; subst h; simp
      | cons k l ih =>
        intro cs h
        obtain ⟨v, t, h1, h2, rfl⟩ := mapM_cons_some h
        obtain ⟨h3, h4⟩ := ih t h2
        refine ⟨by simp [h3], fun i x hi => ?_⟩
        cases i with
        | zero => simp at hi; subst hi; exact ⟨k, rfl, h1⟩
        | succ i => simp at hi ⊢; exact h4 i x hi
    obtain ⟨h1, h2⟩ := key _ _ h
    refine ⟨by simpa using h1, fun i x hi => ?_⟩
    obtain ⟨k, h3, h4⟩ := h2 i x hi
    have hlt : i < n := by
      have := (List.getElem?_eq_some_iff.1 h3).1
      simpa using this
    rw [List.getElem?_range hlt] at h3
    cases h3
    exact h4
  · cases h

variable {Hd : Type} {enc : TypeId × Value → Hd} {base : Nat} {spare : Nat → Bool} {held : Bool} {T : TypeId → Prop}

/-- What opening gives. -/
def Opened (P : Program) (S : Base) (w : World) (m : RMap) (H : AHeap) (cs : List Value) (Q : AHeap → List AVal → Prop) : Prop :=
  ∃ H' m' acs, Ext H H' ∧ Le m m' ∧ HRel S m' H' w ∧ RO H' ∧ embL m' acs = some cs ∧ Q H' acs

/-- Pieces one after another. -/
theorem open_pieces {n f : Nat} (hgh : ∀ r, ¬ S.ghost r)
    (ih : ∀ (t : TypeId) (cs : List Value) (x : DataW Hd × List MemPlace) (m : RMap) (H : AHeap), T t → plainT P n t = true → DataW.trod enc P w base spare held f t cs = some x → HRel S m H w → RO H → Opened P S w m H cs fun H' acs => Shape P H' n t acs) :
    ∀ (ts : List TypeId) (pieces : List (List Value)) (m : RMap) (H : AHeap), ts.length = pieces.length → (∀ t ∈ ts, T t ∧ plainT P n t = true) → (∀ (i : Nat) (t : TypeId) (cs : List Value), ts[i]? = some t → pieces[i]? = some cs → ∃ x, DataW.trod enc P w base spare held f t cs = some x) → HRel S m H w → RO H →
    Opened P S w m H pieces.flatten fun H' acs => shapes (Shape P H' n) ts acs := by
  intro ts
  induction ts with
  | nil =>
    intro pieces m H hl _ _ h hro
    have : pieces = [] := List.eq_nil_of_length_eq_zero (by simpa using hl.symm)
    subst this
    exact ⟨H, m, [], Ext.refl H, Le.refl m, h, hro, by simp [embL], rfl⟩
  | cons t ts iht =>
    intro pieces m H hl hT hx h hro
    cases pieces with
    | nil => simp at hl
    | cons cs pieces =>
      obtain ⟨x, hx0⟩ := hx 0 t cs rfl rfl
      obtain ⟨ht, hp⟩ := hT t (by simp)
      obtain ⟨H1, m1, a, e1, l1, r1, o1, b1, s1⟩ := ih t cs x m H ht hp hx0 h hro
      obtain ⟨H2, m2, b, e2, l2, r2, o2, b2, s2⟩ := iht pieces m1 H1 (by simpa using hl) (fun t h => hT t (by simp [h])) (fun i t cs h1 h2 => hx (i + 1) t cs (by simpa using h1) (by simpa using h2)) r1 o1
      exact ⟨H2, m2, a ++ b, e1.trans e2, Le.trans l1 l2, r2, o2, by rw [List.flatten_cons]; exact embL_append (embL_mono l2 _ _ b1) b2, a, b, rfl, s1.ext e2, s2⟩

/-- A list cut into pieces that lie one behind the other. -/
theorem flatten_cut : ∀ (ss : List Nat) (cs : List Value), cs.length = ss.sum → ((List.range ss.length).map fun i => (cs.drop (ss.take i).sum).take (ss.getD i 0)).flatten = cs := by
  intro ss
  induction ss with
  | nil => intro cs h; simp at h; simp [h]
  | cons s ss ih =>
    intro cs h
    simp only [List.sum_cons] at h
    rw [List.length_cons, List.range_succ_eq_map, List.map_cons, List.flatten_cons, List.map_map]
    have : ((List.range ss.length).map ((fun i => (cs.drop ((s :: ss).take i).sum).take ((s :: ss).getD i 0)) ∘ Nat.succ)) = (List.range ss.length).map fun i => ((cs.drop s).drop (ss.take i).sum).take (ss.getD i 0) := by
      apply List.map_congr_left
      intro i _
      simp [List.drop_drop]
    rw [this, ih (cs.drop s) (by simp; omega)]
    simp

theorem open_trod (hgh : ∀ r, ¬ S.ghost r) (K : Kids P T) (hz : ∀ t e, T t → P.underlying t = some (.slice e) → 0 < P.cellsOf e) : ∀ (n f : Nat) (t : TypeId) (cs : List Value) (x : DataW Hd × List MemPlace) (m : RMap) (H : AHeap), T t → plainT P n t = true →
    DataW.trod enc P w base spare held f t cs = some x → HRel S m H w → RO H → Opened P S w m H cs fun H' acs => Shape P H' n t acs := by
  intro n
  induction n with
  | zero => intro f t cs x m H _ hp; simp [plainT] at hp
  | succ n ih =>
    intro f t cs x m H hT hp hx h hro
    unfold plainT at hp
    split at hp <;> rename_i hu
    · obtain ⟨b, rfl, _⟩ := DataW.trod_bool hu hx
      exact ⟨H, m, [.bool b], Ext.refl H, Le.refl m, h, hro, by simp [embL, emb], by simp [Shape, hu]⟩
    · obtain ⟨s, rfl, _, hs⟩ := DataW.trod_string hu hx
      exact ⟨H, m, [.str s], Ext.refl H, Le.refl m, h, hro, by simp [embL, emb], by simp [Shape, hu]; exact hs⟩
    · rename_i k
      obtain ⟨i, rfl, _, hw⟩ := DataW.trod_int hu hx
      exact ⟨H, m, [.int k i], Ext.refl H, Le.refl m, h, hro, by simp [embL, emb], by simp [Shape, hu, hw]⟩
    · -- slice
      rename_i e
      have he := K.slice hT hu
      have hz0 := hz t e hT hu
      rcases DataW.trod_slice hu hx with ⟨rfl, _⟩ | ⟨a, len, cap, elems, rest, n', hn', rfl, _, hb, hcond1, hcond2, hlen0, hel, _, _⟩
      · exact ⟨H, m, [.nslice], Ext.refl H, Le.refl m, h, hro, by simp [embL, emb], by simp only [Shape, hu]; exact ⟨.nslice, 0, [], rfl, ⟨Or.inl ⟨rfl, rfl, rfl⟩⟩, by simp, rfl⟩⟩
      · subst hn'
        have key : ∀ (k : Nat), k ≤ len → ∃ pieces : List (List Value), pieces.length = k ∧ ∀ i, i < k → ∃ cs x, pieces[i]? = some cs ∧ w.cells? base (a.add (i * P.cellsOf e)) (P.cellsOf e) = some cs ∧ DataW.trod enc P w base spare held n' e cs = some x := by
          intro k
          induction k with
          | zero => intro _; exact ⟨[], rfl, fun i h => by omega⟩
          | succ k ihk =>
            intro hk
            obtain ⟨pieces, h7, h8⟩ := ihk (by omega)
            have h9 := hel k (by omega)
            rw [List.getElem?_eq_getElem (by omega)] at h9
            obtain ⟨cs, h10, h11⟩ := some_bind h9
            refine ⟨pieces ++ [cs], by simp [h7], fun i hi => ?_⟩
            by_cases hik : i < k
            · obtain ⟨c, x, q1, q2, q3⟩ := h8 i hik
              exact ⟨c, x, by rw [List.getElem?_append_left (by omega)]; exact q1, q2, q3⟩
            · obtain rfl : i = k := by omega
              exact ⟨cs, _, by rw [List.getElem?_append_right (by omega)]; simp [h7], h10, h11⟩
        obtain ⟨pieces, hpl, hpi'⟩ := key len (Nat.le_refl _)
        skip
        obtain ⟨H1, m1, acs, e1, l1, r1, o1, b1, s1⟩ := open_pieces (P := P) (T := T) (n := n) (f := n') (enc := enc) (base := base) (spare := spare) (held := held) hgh (ih n') (List.replicate len e) pieces m H (by simp [hpl]) (fun t ht => by rw [(List.mem_replicate.1 ht).2]; exact ⟨he, hp⟩)
          (fun i t cs h3 h4 => by
            have hi : i < len := by have := (List.getElem?_eq_some_iff.1 h3).1; simpa using this
            obtain ⟨c, x, q1, q2, q3⟩ := hpi' i hi
            rw [List.getElem?_replicate, if_pos hi] at h3
            cases h3
            rw [q1] at h4; cases h4
            exact ⟨x, q3⟩) h hro
        have hall : ∀ c ∈ pieces, c.length = P.cellsOf e := fun c hc => by
          obtain ⟨i, hi⟩ := List.getElem?_of_mem hc
          have hlt : i < len := by have := (List.getElem?_eq_some_iff.1 hi).1; omega
          obtain ⟨c', x, q1, q2, q3⟩ := hpi' i hlt
          rw [hi] at q1; cases q1
          exact (cells?_len q2).1
        have hcells : ∀ (i : Nat) (x : Value), pieces.flatten[i]? = some x → w.cell? (a.add i) = some x := by
          have gen : ∀ (ps : List (List Value)) (o : Nat), (∀ c ∈ ps, c.length = P.cellsOf e) → (∀ i c, ps[i]? = some c → ∀ k x, c[k]? = some x → w.cell? (a.add ((o + i) * P.cellsOf e + k)) = some x) → ∀ (i : Nat) (x : Value), ps.flatten[i]? = some x → w.cell? (a.add (o * P.cellsOf e + i)) = some x := by
            intro ps
            induction ps with
            | nil => intro o _ _ i x h; simp at h
            | cons c ps ihp =>
              intro o hl hc i x hi
              rw [List.flatten_cons] at hi
              have hcl := hl c (by simp)
              by_cases hic : i < c.length
              · rw [List.getElem?_append_left hic] at hi
                simpa using hc 0 c rfl i x hi
              · rw [List.getElem?_append_right (by omega)] at hi
                have := ihp (o + 1) (fun c h => hl c (by simp [h])) (fun j c hj k x hk => by
                  have := hc (j + 1) c (by simpa using hj) k x hk
                  rwa [show o + (j + 1) = o + 1 + j by omega] at this) (i - c.length) x hi
                have e3 : (o + 1) * P.cellsOf e + (i - c.length) = o * P.cellsOf e + i := by rw [Nat.add_mul]; omega
                rwa [e3] at this
          intro i x hi
          have := gen pieces 0 hall (fun j c hj k x hk => by
            have hlt : j < len := by have := (List.getElem?_eq_some_iff.1 hj).1; omega
            obtain ⟨c', y, q1, q2, q3⟩ := hpi' j hlt
            rw [hj] at q1; cases q1
            have := (cells?_len q2).2 k x hk
            rw [add_add] at this
            simpa using this) i x hi
          simpa using this
        have hflen : acs.length = len * P.cellsOf e := by
          have h3 := embL_length b1
          rw [← h3]
          have : ∀ (ps : List (List Value)), (∀ c ∈ ps, c.length = P.cellsOf e) → ps.flatten.length = ps.length * P.cellsOf e := by
            intro ps
            induction ps with
            | nil => intro _; simp
            | cons c ps ihp => intro hl; rw [List.flatten_cons, List.length_append, hl c (by simp), ihp (fun c h => hl c (by simp [h])), List.length_cons, Nat.add_mul]; omega
          rw [this pieces hall, hpl]
        obtain ⟨g1, g2, g3⟩ := r1.addRow o1 hgh (cs := acs) (a := a) (fun i v hi => by
          obtain ⟨x, q1, q2⟩ := embL_get b1 hi
          exact ⟨x, q1, hcells i x q2⟩)
        refine ⟨H1.push (.row acs false 0), _, [.slice H1.n 0 len (some cap) (P.cellsOf e)], e1.push _, Le.trans l1 g1, g2, g3, ?_, ?_⟩
        · simp [embL, emb, add_eq, capR, Addr.add]
        · simp only [Shape, hu]
          refine ⟨_, len, acs, rfl, ⟨Or.inr ⟨H1.n, 0, some cap, acs, false, 0, rfl, Nat.lt_succ_self _, push_get_eq, by omega, ?_⟩⟩, by omega, shapes_ext ((Ext.refl H1).push _) s1⟩
          rw [List.drop_zero, List.take_of_length_le (by omega)]
    · -- struct
      rename_i fs
      obtain ⟨hk1, hk2, hk3⟩ := K.struct hT hu
      obtain ⟨xs, n', hn', _, hlen, hxl, hxs⟩ := DataW.trod_struct hu hx
      subst hn'
      have key : ∀ (i : Nat) (f : Field), fs.toList[i]? = some f → ∃ x, DataW.trod enc P w base spare held n' f.type ((cs.drop f.offset).take (P.cellsOf f.type)) = some x := fun i f hf => by
        have hlt : i < fs.size := by have := (List.getElem?_eq_some_iff.1 hf).1; simpa using this
        have := hxs i f (by simpa using hf)
        rw [List.getElem?_eq_getElem (by omega)] at this
        exact ⟨_, this⟩
      have hsz : (fs.toList.map fun f => P.cellsOf f.type).length = fs.toList.length := by simp
      have hcut := flatten_cut (fs.toList.map fun f => P.cellsOf f.type) cs (by rw [hlen, hk2])
      obtain ⟨H1, m1, acs, e1, l1, r1, o1, b1, s1⟩ := open_pieces (P := P) (T := T) (n := n) (f := n') (enc := enc) (base := base) (spare := spare) (held := held) hgh (ih n') (fs.toList.map fun f => f.type) _ m H (by simp [hsz] : _ = ((List.range (fs.toList.map fun f => P.cellsOf f.type).length).map fun i => (cs.drop ((fs.toList.map fun f => P.cellsOf f.type).take i).sum).take ((fs.toList.map fun f => P.cellsOf f.type).getD i 0)).length)
        (fun t ht => by
          obtain ⟨f, hf, rfl⟩ := List.mem_map.1 ht
          exact ⟨hk1 f hf, List.all_eq_true.1 hp f hf⟩)
        (fun i t c h3 h4 => by
          rw [List.getElem?_map] at h3
          obtain ⟨f, hf, rfl⟩ := some_map h3
          obtain ⟨x, hx1⟩ := key i f hf
          have hi : i < fs.toList.length := (List.getElem?_eq_some_iff.1 hf).1
          rw [List.getElem?_map, List.getElem?_range (by simpa using hi)] at h4
          simp only [Option.map_some, Option.some.injEq] at h4
          have h5 : (fs.toList.map fun f => P.cellsOf f.type).getD i 0 = P.cellsOf f.type := by simp only [List.getD_eq_getElem?_getD, List.getElem?_map, hf, Option.map_some, Option.getD_some]
          have h6 := hk3 i f hf
          rw [List.map_take] at h6
          rw [h5, ← h6] at h4
          subst h4
          exact ⟨x, hx1⟩) h hro
      rw [hcut] at b1
      exact ⟨H1, m1, acs, e1, l1, r1, o1, b1, by simp only [Shape, hu]; exact s1⟩
    · -- array
      rename_i k e
      obtain ⟨he, hsz⟩ := K.array hT hu
      obtain ⟨xs, n', hn', _, hlen, hxl, hxs⟩ := DataW.trod_array hu hx
      subst hn'
      have key : ∀ (i : Nat), i < k → ∃ x, DataW.trod enc P w base spare held n' e ((cs.drop (i * P.cellsOf e)).take (P.cellsOf e)) = some x := fun i hi => by
        have := hxs i hi
        rw [List.getElem?_eq_getElem (by omega)] at this
        exact ⟨_, this⟩
      have hcut := flatten_cut (List.replicate k (P.cellsOf e)) cs (by rw [hlen, hsz]; simp)
      obtain ⟨H1, m1, acs, e1, l1, r1, o1, b1, s1⟩ := open_pieces (P := P) (T := T) (n := n) (f := n') (enc := enc) (base := base) (spare := spare) (held := held) hgh (ih n') (List.replicate k e) _ m H (by simp : _ = ((List.range (List.replicate k (P.cellsOf e)).length).map fun i => (cs.drop ((List.replicate k (P.cellsOf e)).take i).sum).take ((List.replicate k (P.cellsOf e)).getD i 0)).length)
        (fun t ht => by rw [(List.mem_replicate.1 ht).2]; exact ⟨he, hp⟩)
        (fun i t c h3 h4 => by
          have hi : i < k := by have := (List.getElem?_eq_some_iff.1 h3).1; simpa using this
          rw [List.getElem?_replicate, if_pos hi] at h3
          cases h3
          obtain ⟨x, hx1⟩ := key i hi
          rw [List.getElem?_map, List.getElem?_range (by simpa using hi)] at h4
          simp only [Option.map_some, Option.some.injEq] at h4
          have h5 : (List.replicate k (P.cellsOf e)).getD i 0 = P.cellsOf e := by simp [List.getD_eq_getElem?_getD, List.getElem?_replicate, hi]
          have h6 : ((List.replicate k (P.cellsOf e)).take i).sum = i * P.cellsOf e := by simp [List.take_replicate, Nat.min_eq_left (Nat.le_of_lt hi)]
          rw [h5, h6] at h4
          subst h4
          exact ⟨x, hx1⟩) h hro
      rw [hcut] at b1
      exact ⟨H1, m1, acs, e1, l1, r1, o1, b1, by simp only [Shape, hu]; exact s1⟩
    · cases hp
end
end Go.Am
