/- Regions without order, in contracts: step by step, in the text's order. -/
import Derived.Test.YtofdnhdoblpniaaDoorAmRows
import Derived.Test.YtofdnhdoblpniaaDoorAmDraw
set_option linter.unusedSimpArgs false
set_option linter.unusedVariables false
namespace Go.Am
open Go

mutual
theorem abeq_refl : ∀ (v : AVal), abeq v v = true
  | .bool b => by simp [abeq]
  | .int k n => by simp [abeq]
  | .str s => by simp [abeq]
  | .nptr => by simp [abeq]
  | .ptr r o => by simp [abeq]
  | .nslice => by simp [abeq]
  | .slice r o l c z => by simp [abeq]
  | .nfunc => by simp [abeq]
  | .func f a b => by simp [abeq, abeqL_refl a, abeqL_refl b]
  | .niface => by simp [abeq]
  | .iface t v => by simp [abeq, abeq_refl v]
  | .agg l => by simp [abeq, abeqL_refl l]
  | .tuple l => by simp [abeq, abeqL_refl l]
theorem abeqL_refl : ∀ (l : List AVal), abeqL l l = true
  | [] => by simp [abeqL]
  | v :: l => by simp [abeqL, abeq_refl v, abeqL_refl l]
end

theorem okAt_read {r : DRec} {H : AHeap} (hc : Nat.beq r.cls 3 = false) (hx : r.o.op.exec noCall r.fr H = some (r.v, H)) : r.okAt H = true := by
  simp only [DRec.okAt, hc, hx, abeq_refl, Bool.true_and]
  simp

/-- The check of a read has gone well through these records, and stands so. -/
def Good (r : DRec) (k : Nat) (R0 : List DRec) (H0 cur : AHeap) (may : Bool) : Prop := ∀ rest, r.chk k rest R0.length cur may = true → r.chk k (R0 ++ rest) 0 H0 true = true

theorem Good.nil {r : DRec} {k : Nat} {H0 : AHeap} : Good r k [] H0 H0 true := fun _ h => h
theorem Good.other {r : DRec} {k : Nat} {R0 : List DRec} {H0 cur : AHeap} {may : Bool} {e : DRec} (h : Good r k R0 H0 cur may) (he : e.eff = false) : Good r k (R0 ++ [e]) H0 cur may := fun rest hr => by
  rw [List.append_assoc]
  refine h _ ?_
  simp only [List.singleton_append, DRec.chk, he]
  simpa using hr
theorem Good.effect {r : DRec} {k : Nat} {R0 : List DRec} {H0 cur : AHeap} {may : Bool} {e : DRec} (h : Good r k R0 H0 cur may) (he : e.eff = true) (hok : may = false ∨ r.b.testBit R0.length = true ∨ r.okAt cur = true) : Good r k (R0 ++ [e]) H0 e.hp (!(e.b.testBit k)) := fun rest hr => by
  rw [List.append_assoc]
  refine h _ ?_
  simp only [List.singleton_append, DRec.chk, he, Bool.and_eq_true, Bool.or_eq_true, Bool.not_eq_true']
  refine ⟨?_, by simpa using hr⟩
  rcases hok with h | h | h
  · exact Or.inl (Or.inl h)
  · exact Or.inl (Or.inr h)
  · exact Or.inr h

/-- How things stand behind some records: the effects with the heaps before them, the reads. -/
structure DInv (R0 : List DRec) (H0 H : AHeap) (E : List (Nat × AHeap)) (Rd : List (Nat × DRec)) : Prop where
  good : ∀ r k, (∀ p ∈ E, r.b.testBit p.1 = true ∨ r.okAt p.2 = true) → ∃ m, Good r k R0 H0 H m
  reads : ∀ j r, R0[j]? = some r → r.want = true → (Nat.beq r.cls 1 || Nat.beq r.cls 3) = true → (j, r) ∈ Rd
  ok : ∀ p ∈ Rd, ∃ m, Good p.2 p.1 R0 H0 H m ∧ (m = true → p.2.okAt H = true)

theorem DInv.nil (H0 : AHeap) : DInv [] H0 H0 [] [] := ⟨fun _ _ _ => ⟨true, Good.nil⟩, fun j r h => by simp at h, fun p hp => by simp at hp⟩

theorem DInv.done {R0 : List DRec} {H0 H : AHeap} {E : List (Nat × AHeap)} {Rd : List (Nat × DRec)} (h : DInv R0 H0 H E Rd) : dcheck R0 H0 R0 0 = true := by
  have key : ∀ (rs : List DRec) (k : Nat), (∀ j r, rs[j]? = some r → R0[k + j]? = some r) → dcheck R0 H0 rs k = true := by
    intro rs
    induction rs with
    | nil => intro k _; rfl
    | cons r rs ih =>
      intro k hk
      simp only [dcheck, Bool.and_eq_true]
      refine ⟨?_, ih (k + 1) fun j q hq => by have := hk (j + 1) q (by simpa using hq); rwa [show k + 1 + j = k + (j + 1) by omega]⟩
      cases hc : (r.want && (Nat.beq r.cls 1 || Nat.beq r.cls 3)) with
      | false => rfl
      | true =>
        simp only [Bool.and_eq_true] at hc
        have hr : R0[k]? = some r := by simpa using hk 0 r rfl
        obtain ⟨m, h1, h2⟩ := h.ok _ (h.reads k r hr hc.1 hc.2)
        have h3 := h1 [] (by simp only [DRec.chk, Bool.or_eq_true, Bool.not_eq_true']; cases m <;> simp_all)
        simpa using h3
  exact key R0 0 fun j r hj => by simpa using hj

theorem get_snoc {R0 : List DRec} {e r : DRec} {j : Nat} (h : (R0 ++ [e])[j]? = some r) : R0[j]? = some r ∨ (j = R0.length ∧ r = e) := by
  by_cases hj : j < R0.length
  · rw [List.getElem?_append_left hj] at h; exact Or.inl h
  · rw [List.getElem?_append_right (by omega)] at h
    cases hq : j - R0.length with
    | zero => rw [hq] at h; simp at h; exact Or.inr ⟨by omega, h.symm⟩
    | succ q => rw [hq] at h; simp at h

theorem DInv.plain {R0 : List DRec} {H0 H : AHeap} {E : List (Nat × AHeap)} {Rd : List (Nat × DRec)} {e : DRec} (h : DInv R0 H0 H E Rd) (he : e.eff = false) (hn : (e.want && (Nat.beq e.cls 1 || Nat.beq e.cls 3)) = false) : DInv (R0 ++ [e]) H0 H E Rd := by
  refine ⟨fun r k hr => by obtain ⟨m, hm⟩ := h.good r k hr; exact ⟨m, hm.other he⟩, fun j r hj hw hc => ?_, fun p hp => by obtain ⟨m, h1, h2⟩ := h.ok p hp; exact ⟨m, h1.other he, h2⟩⟩
  rcases get_snoc hj with h1 | ⟨_, rfl⟩
  · exact h.reads j r h1 hw hc
  · rw [hw, hc] at hn; cases hn
theorem DInv.read {R0 : List DRec} {H0 H : AHeap} {E : List (Nat × AHeap)} {Rd : List (Nat × DRec)} {e : DRec} (h : DInv R0 H0 H E Rd) (he : e.eff = false) (hok : e.okAt H = true) (hE : ∀ p ∈ E, e.b.testBit p.1 = true ∨ e.okAt p.2 = true) : DInv (R0 ++ [e]) H0 H E (Rd ++ [(R0.length, e)]) := by
  refine ⟨fun r k hr => by obtain ⟨m, hm⟩ := h.good r k hr; exact ⟨m, hm.other he⟩, fun j r hj hw hc => ?_, fun p hp => ?_⟩
  · rcases get_snoc hj with h1 | ⟨rfl, rfl⟩
    · exact List.mem_append_left _ (h.reads j r h1 hw hc)
    · simp
  · rcases List.mem_append.1 hp with hp | hp
    · obtain ⟨m, h1, h2⟩ := h.ok p hp; exact ⟨m, h1.other he, h2⟩
    · simp only [List.mem_singleton] at hp; subst hp
      obtain ⟨m, hm⟩ := h.good e R0.length hE
      exact ⟨m, hm.other he, fun _ => hok⟩
theorem DInv.effect {R0 : List DRec} {H0 H : AHeap} {E : List (Nat × AHeap)} {Rd : List (Nat × DRec)} {e : DRec} (h : DInv R0 H0 H E Rd) (he : e.eff = true) (hn : (Nat.beq e.cls 1 || Nat.beq e.cls 3) = false)
    (hR : ∀ p ∈ Rd, e.b.testBit p.1 = true ∨ p.2.okAt e.hp = true) : DInv (R0 ++ [e]) H0 e.hp (E ++ [(R0.length, H)]) Rd := by
  refine ⟨fun r k hr => ?_, fun j r hj hw hc => ?_, fun p hp => ?_⟩
  · obtain ⟨m, hm⟩ := h.good r k fun p hp => hr p (List.mem_append_left _ hp)
    exact ⟨_, hm.effect he (Or.inr (hr (R0.length, H) (by simp)))⟩
  · rcases get_snoc hj with h1 | ⟨_, rfl⟩
    · exact h.reads j r h1 hw hc
    · rw [hc] at hn; cases hn
  · obtain ⟨m, h1, h2⟩ := h.ok p hp
    refine ⟨_, h1.effect he (by cases m with | false => exact Or.inl rfl | true => exact Or.inr (Or.inr (h2 rfl))), fun hm => ?_⟩
    rcases hR p hp with h3 | h3
    · rw [h3] at hm; cases hm
    · exact h3

def readOk (op : ROp) (fr : AFrame) (v : AVal) (H : AHeap) : Bool := match op.exec noCall fr H with
  | some (v', H') => abeq v' v && Nat.beq H'.n H.n
  | none => false
theorem readOk_eq {r : DRec} (hc : Nat.beq r.cls 3 = false) : r.okAt = readOk r.o.op r.fr r.v := by
  funext H
  unfold DRec.okAt readOk
  rw [hc]
  rfl
theorem readOk_of {op : ROp} {fr : AFrame} {v : AVal} {H : AHeap} (h : op.exec noCall fr H = some (v, H)) : readOk op fr v H = true := by
  unfold readOk
  rw [h]
  simp [abeq_refl]

/-- The rest of a region without order: n operations are done; E: the effects so far with the heaps before them; Rd: the reads so far. -/
def WpD (call : ACall) (n : Nat) (its : List DItem) (H0 : AHeap) (E : List (Nat × AHeap)) (Rd : List (Nat × (AHeap → Bool))) (fr : AFrame) (H : AHeap) (K : AFrame → AHeap → Prop) : Prop :=
  ∀ R0 Rd0 ref, R0.length = n → (Rd0.map fun (p : Nat × DRec) => (p.1, p.2.okAt)) = Rd → DInv R0 H0 H E Rd0 → ∃ R1 fr' H', dtext call its ref fr H = some (R1, fr', H') ∧ dcheck (R0 ++ R1) H0 (R0 ++ R1) 0 = true ∧ K fr' H'

section
variable {call : ACall} {lf n : Nat} {its : List DItem} {H0 H H1 : AHeap} {E : List (Nat × AHeap)} {Rd : List (Nat × (AHeap → Bool))} {fr : AFrame} {K : AFrame → AHeap → Prop} {Q : RExit → AFrame → AHeap → Prop} {op : ROp} {v : AVal} {b : Nat} {pre : Bool}

theorem WpD.nil (h : K fr H) : WpD call n [] H0 E Rd fr H K := fun R0 Rd0 ref _ _ hI => ⟨[], fr, H, rfl, by rw [List.append_nil]; exact hI.done, h⟩

theorem WpD.next {it : DItem} {R0 : List DRec} {ref : Nat} {r : DRec} {E' : List (Nat × AHeap)} {Rd' : List (Nat × (AHeap → Bool))} {Rd0' : List (Nat × DRec)} {fr1 : AFrame} (hn : R0.length = n) (hrd : (Rd0'.map fun (p : Nat × DRec) => (p.1, p.2.okAt)) = Rd')
    (hI : DInv (R0 ++ [r]) H0 H1 E' Rd0') (hd : ∀ R1 fr' H', dtext call its (nextRef it.cls ref) fr1 H1 = some (R1, fr', H') → dtext call (it :: its) ref fr H = some (r :: R1, fr', H')) (h : WpD call (n + 1) its H0 E' Rd' fr1 H1 K) :
    ∃ R1 fr' H', dtext call (it :: its) ref fr H = some (R1, fr', H') ∧ dcheck (R0 ++ R1) H0 (R0 ++ R1) 0 = true ∧ K fr' H' := by
  obtain ⟨R1, fr', H', h1, h2, h3⟩ := h (R0 ++ [r]) Rd0' (nextRef it.cls ref) (by simp [hn]) hrd hI
  exact ⟨r :: R1, fr', H', hd _ _ _ h1, by rw [List.append_assoc] at h2; exact h2, h3⟩

theorem WpD.pure {d : Option Nat} (hx : op.exec noCall fr H = some (v, H)) (h : WpD call (n + 1) its H0 E Rd (put fr d v) H K) : WpD call n (⟨⟨d, op, none⟩, b, 0, pre⟩ :: its) H0 E Rd fr H K := fun R0 Rd0 ref hn hrd hI =>
  WpD.next (r := ⟨⟨d, op, none⟩, b, 0, fr, v, true, false, H, ref⟩) hn hrd (hI.plain rfl rfl) (fun R1 fr' H' hd => by
    simp only [dtext, ROper.wanted, dstep, hx]
    simp only [Nat.beq, nextRef] at hd ⊢
    simp [hd]) h
theorem WpD.read {d : Option Nat} (hx : op.exec noCall fr H = some (v, H)) (hE : ∀ p ∈ E, b.testBit p.1 = true ∨ op.exec noCall fr p.2 = some (v, p.2)) (h : WpD call (n + 1) its H0 E (Rd ++ [(n, readOk op fr v)]) (put fr d v) H K) : WpD call n (⟨⟨d, op, none⟩, b, 1, pre⟩ :: its) H0 E Rd fr H K := fun R0 Rd0 ref hn hrd hI =>
  WpD.next (r := ⟨⟨d, op, none⟩, b, 1, fr, v, true, false, H, ref⟩) (Rd0' := Rd0 ++ [(R0.length, ⟨⟨d, op, none⟩, b, 1, fr, v, true, false, H, ref⟩)]) hn (by
      rw [List.map_append, hrd]
      simp only [List.map_cons, List.map_nil, hn]
      rw [readOk_eq rfl])
    (hI.read rfl (okAt_read rfl hx) (fun p hp => (hE p hp).imp id fun q => okAt_read rfl q)) (fun R1 fr' H' hd => by
    simp only [dtext, ROper.wanted, dstep, hx]
    simp only [Nat.beq, nextRef] at hd ⊢
    simp [hd]) h
theorem WpD.effect {d : Option Nat} (hx : op.exec call fr H = some (v, H1)) (hR : ∀ p ∈ Rd, b.testBit p.1 = true ∨ p.2 H1 = true) (h : WpD call (n + 1) its H0 (E ++ [(n, H)]) Rd (put fr d v) H1 K) : WpD call n (⟨⟨d, op, none⟩, b, 2, pre⟩ :: its) H0 E Rd fr H K := fun R0 Rd0 ref hn hrd hI =>
  WpD.next (r := ⟨⟨d, op, none⟩, b, 2, fr, v, true, true, H1, ref⟩) (E' := E ++ [(n, H)]) hn hrd (by
      have := hI.effect (e := ⟨⟨d, op, none⟩, b, 2, fr, v, true, true, H1, ref⟩) rfl rfl fun p hp => hR (p.1, p.2.okAt) (by rw [← hrd]; exact List.mem_map.2 ⟨p, hp, rfl⟩)
      rw [hn] at this; exact this) (fun R1 fr' H' hd => by
    simp only [dtext, ROper.wanted, dstep, hx]
    simp only [Nat.beq, nextRef] at hd ⊢
    simp [hd]) h

theorem oracle_none : ∀ (its : List DItem) (ref : Nat) (fr : AFrame) (H : AHeap), (its.all fun it => !(Nat.beq it.cls 3)) = true → oracle its ref fr H = [] := fun its ref fr H h => by
  have hc : cnt3 its = 0 := by
    induction its with
    | nil => rfl
    | cons it its ih =>
      simp only [List.all_cons, Bool.and_eq_true, Bool.not_eq_true'] at h
      simp only [cnt3, h.1, ih h.2]
  exact List.eq_nil_of_length_eq_zero (by rw [oracle_length, hc])

theorem Wp.dregion (hno : (its.all fun it => !(Nat.beq it.cls 3)) = true) (h : WpD call 0 its H [] [] fr H fun fr' H' => Q .normal fr' H') : Wp call lf (.dregion its) fr H Q := by
  obtain ⟨R1, fr', H', h1, h2, h3⟩ := h [] [] H.n rfl rfl (DInv.nil H)
  refine ⟨.normal, fr', H', ?_, h3⟩
  simp only [RCode.exec, oracle_none its H.n fr H hno, pushAll, h1]
  simp only [List.nil_append] at h2
  rw [h2]
end
end Go.Am
