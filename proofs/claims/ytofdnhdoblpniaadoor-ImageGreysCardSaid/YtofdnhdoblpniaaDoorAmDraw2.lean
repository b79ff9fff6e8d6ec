/- Regions that draw their order: the proof. -/
import Derived.Test.YtofdnhdoblpniaaDoorAmDraw
set_option linter.unusedSimpArgs false
set_option linter.unusedVariables false
namespace Go.Am
open Go Go.RowKit

theorem chk_okAt {r : DRec} {k : Nat} : ∀ (es : List DRec) (X : Nat → Bool) (i : Nat) (cur : AHeap) (may : Bool), r.chk k es i cur may = true →
    (∀ j e, es[j]? = some e → e.eff = true → X j = true → e.b.testBit k = false) →
    (∀ j e, es[j]? = some e → e.eff = true → r.b.testBit (i + j) = true → X j = true) →
    (∀ j j' e e', es[j]? = some e → es[j']? = some e' → e.eff = true → e'.eff = true → j < j' → X j' = true → X j = true) →
    (may = true ∨ ∃ j e, es[j]? = some e ∧ e.eff = true ∧ X j = true) → r.okAt (foldH es X cur) = true
  | [], X, i, cur, may, h, _, _, _, h4 => by
    rcases h4 with h4 | ⟨j, e, hj, _⟩
    · subst h4; simpa [DRec.chk, foldH] using h
    · simp at hj
  | e :: es, X, i, cur, may, h, h1, h2, h3, h4 => by
    simp only [DRec.chk] at h
    have h1' : ∀ j e', es[j]? = some e' → e'.eff = true → X (j + 1) = true → e'.b.testBit k = false := fun j e' hj he hX => h1 (j + 1) e' (by simpa using hj) he hX
    have h2' : ∀ j e', es[j]? = some e' → e'.eff = true → r.b.testBit (i + 1 + j) = true → X (j + 1) = true := fun j e' hj he hb => h2 (j + 1) e' (by simpa using hj) he (by rw [show i + (j + 1) = i + 1 + j by omega]; exact hb)
    have h3' : ∀ j j' a b, es[j]? = some a → es[j']? = some b → a.eff = true → b.eff = true → j < j' → X (j' + 1) = true → X (j + 1) = true := fun j j' a b ha hb h5 h6 h7 h8 => h3 (j + 1) (j' + 1) a b (by simpa using ha) (by simpa using hb) h5 h6 (by omega) h8
    cases heff : e.eff with
    | false =>
      rw [heff] at h
      simp only [] at h
      have := chk_okAt es (fun j => X (j + 1)) (i + 1) cur may h h1' h2' h3' (by
        rcases h4 with h4 | ⟨j, e', hj, he, hX⟩
        · exact Or.inl h4
        · cases j with
          | zero => simp only [List.getElem?_cons_zero, Option.some.injEq] at hj; subst hj; rw [heff] at he; cases he
          | succ j => exact Or.inr ⟨j, e', by simpa using hj, he, hX⟩)
      simpa [foldH, heff] using this
    | true =>
      rw [heff] at h
      simp only [Bool.and_eq_true] at h
      cases hX0 : X 0 with
      | true =>
        have := chk_okAt es (fun j => X (j + 1)) (i + 1) e.hp _ h.2 h1' h2' h3' (Or.inl (by rw [h1 0 e rfl heff hX0]; rfl))
        simpa [foldH, heff, hX0] using this
      | false =>
        have hno : ∀ j e', es[j]? = some e' → e'.eff = true → X (j + 1) = false := fun j e' hj he => by
          cases hx : X (j + 1) with
          | false => rfl
          | true =>
            have := h3 0 (j + 1) e e' rfl (by simpa using hj) heff he (by omega) hx
            rw [hX0] at this; cases this
        have hmay : may = true := by
          rcases h4 with h4 | ⟨j, e', hj, he, hX⟩
          · exact h4
          · cases j with
            | zero => rw [hX0] at hX; cases hX
            | succ j => rw [hno j e' (by simpa using hj) he] at hX; cases hX
        have hbit : r.b.testBit i = false := by
          cases hb : r.b.testBit i with
          | false => rfl
          | true => have := h2 0 e rfl heff (by simpa using hb); rw [hX0] at this; cases this
        have h5 := h.1
        rw [hmay, hbit] at h5
        simp only [foldH, hX0, Bool.false_and]
        rw [foldH_none hno]
        simpa using h5

/-- What the compiler has seen to. -/
structure Reg (P : Program) (nt : Nat) (ops : Array Oper) (its : List DItem) : Prop where
  len : its.length = ops.size
  op : ∀ k o, ops[k]? = some o → ∃ it, its[k]? = some it ∧ cOp P nt o = some it.o.op ∧ cDst nt o.dst = some it.o.dst ∧ cGuard nt ops o.guard = some it.o.guard ∧
    (it.cls = it.o.op.kind ∨ (it.o.op.kind = 3 ∧ it.cls = 2)) ∧ (∀ e ∈ o.after, Region.binds .any e = true → e.on < k) ∧
    (∀ i, i < ops.size → it.b.testBit i = true → ∃ e ∈ o.after, Region.binds .any e = true ∧ e.on < k ∧ (e.on = i ∨ ∃ it', its[e.on]? = some it' ∧ it'.b.testBit i = true))
  clash : ∀ i j x y, i < j → its[i]? = some x → its[j]? = some y → clash x y = true → y.b.testBit i = true

theorem Reg.below {P : Program} {nt : Nat} {ops : Array Oper} {its : List DItem} (g : Reg P nt ops its) {X : Nat → Bool} (hX : ∀ k o, X k = true → ops[k]? = some o → ∀ e ∈ o.after, Region.binds .any e = true → X e.on = true) :
    ∀ (k : Nat) (o : Oper) (it : DItem), ops[k]? = some o → its[k]? = some it → (∀ e ∈ o.after, Region.binds .any e = true → X e.on = true) → ∀ i, i < ops.size → it.b.testBit i = true → X i = true := by
  intro k
  induction k using Nat.strongRecOn with
  | _ k ih =>
    intro o it ho hit hedge i hin hi
    obtain ⟨it', hit', _, _, _, _, _, hb⟩ := g.op k o ho
    rw [hit] at hit'; cases hit'
    obtain ⟨e, he, hbind, hlt, hor⟩ := hb i hin hi
    rcases hor with rfl | ⟨it2, hit2, hb2⟩
    · exact hedge e he hbind
    · have hlt2 : e.on < ops.size := by rw [← g.len]; exact (List.getElem?_eq_some_iff.1 hit2).1
      obtain ⟨o2, ho2⟩ : ∃ o2, ops[e.on]? = some o2 := ⟨ops[e.on], by simp [hlt2]⟩
      exact ih e.on hlt o2 it2 ho2 hit2 (hX e.on o2 (hedge e he hbind) ho2) i hin hb2

def leftN (X : Nat → Bool) : Nat → Nat
  | 0 => 0
  | n + 1 => leftN X n + (match X n with | true => 0 | false => 1)
theorem leftN_zero {X : Nat → Bool} : ∀ {n : Nat}, leftN X n = 0 → ∀ i, i < n → X i = true
  | n + 1, h, i, hi => by
    simp only [leftN] at h
    by_cases hin : i = n
    · subst hin
      cases hx : X i with
      | true => rfl
      | false => rw [hx] at h; simp at h
    · exact leftN_zero (n := n) (by omega) i (by omega)
theorem leftN_same {X Y : Nat → Bool} : ∀ {n : Nat}, (∀ i, i < n → X i = Y i) → leftN X n = leftN Y n
  | 0, _ => rfl
  | n + 1, h => by simp only [leftN]; rw [leftN_same (n := n) fun i hi => h i (by omega), h n (by omega)]
theorem leftN_add {X Y : Nat → Bool} {k : Nat} (hX : X k = false) (hY : Y k = true) (hXY : ∀ i, i ≠ k → Y i = X i) : ∀ {n : Nat}, k < n → leftN X n = leftN Y n + 1
  | n + 1, h => by
    simp only [leftN]
    by_cases hk : k = n
    · subst hk
      rw [hX, hY, leftN_same (X := X) (Y := Y) (n := k) fun i hi => (hXY i (by omega)).symm]
      rfl
    · rw [hXY n (by omega), leftN_add hX hY hXY (n := n) (by omega)]
      omega

theorem cOpers_get {P : Program} {nt : Nat} {ops : Array Oper} : ∀ {os : List Oper} {l : List ROper}, cOpers P nt ops os = some l → l.length = os.length ∧
    ∀ (k : Nat) (o : Oper), os[k]? = some o → ∃ ro : ROper, l[k]? = some ro ∧ cOp P nt o = some ro.op ∧ cDst nt o.dst = some ro.dst ∧ cGuard nt ops o.guard = some ro.guard
  | [], l, h => by simp only [cOpers] at h; cases h; exact ⟨rfl, fun k o hk => by simp at hk⟩
  | a :: os, l, h => by
    simp only [cOpers] at h
    split at h
    · rename_i op dst guard l' h1 h2 h3 h4; cases h
      obtain ⟨h5, h6⟩ := cOpers_get h4
      refine ⟨by simp [h5], fun k o hk => ?_⟩
      cases k with
      | zero => simp only [List.getElem?_cons_zero, Option.some.injEq] at hk; subst hk; exact ⟨_, rfl, h1, h2, h3⟩
      | succ k => obtain ⟨ro, h7⟩ := h6 k o (by simpa using hk); exact ⟨ro, by simpa using h7⟩
    · cases h

theorem items_get : ∀ (l : List ROper) (masks : List Nat) (bad : List Nat), masks.length = l.length → (items l masks bad).length = l.length ∧
    ∀ k ro, l[k]? = some ro → ∃ it, (items l masks bad)[k]? = some it ∧ it.o = ro ∧ it.b = masks.getD k 0
  | [], [], bad, _ => ⟨rfl, fun k ro hk => by simp at hk⟩
  | [], _ :: _, bad, h => by simp at h
  | _ :: _, [], bad, h => by simp at h
  | o :: os, b :: bs, bad, h => by
    simp only [items]
    have := items_get os bs (if (!(Nat.beq o.op.kind 2) && o.looks.all fun t => !(bad.contains t)) then bad else match o.dst with | some d => d :: bad | none => bad) (by simpa using h)
    refine ⟨by simp only [List.length_cons]; exact congrArg (· + 1) this.1, fun k ro hk => ?_⟩
    cases k with
    | zero => simp only [List.getElem?_cons_zero, Option.some.injEq] at hk; subst hk; exact ⟨_, rfl, rfl, by simp⟩
    | succ k =>
      obtain ⟨it, h1, h2, h3⟩ := this.2 k ro (by simpa using hk)
      exact ⟨it, by rw [List.getElem?_cons_succ]; exact h1, h2, by simpa using h3⟩

theorem masksOk_get {masks : List Nat} : ∀ {os : List Oper} {j : Nat}, masksOk masks os j = true → ∀ k o, os[k]? = some o → maskOk masks o.after.toList (j + k) = true
  | [], j, _, k, o, hk => by simp at hk
  | a :: os, j, h, k, o, hk => by
    simp only [masksOk, Bool.and_eq_true] at h
    cases k with
    | zero => simp only [List.getElem?_cons_zero, Option.some.injEq] at hk; subst hk; exact h.1
    | succ k => have := masksOk_get h.2 k o (by simpa using hk); rwa [show j + 1 + k = j + (k + 1) by omega] at this

theorem clashes_get {y : DItem} : ∀ {xs : List DItem} {i : Nat}, clashes y xs i = true → ∀ m x, xs[m]? = some x → clash x y = true → y.b.testBit (i + m) = true
  | [], i, _, m, x, hm, _ => by simp at hm
  | a :: xs, i, h, m, x, hm, hc => by
    simp only [clashes, Bool.and_eq_true, Bool.or_eq_true, Bool.not_eq_true'] at h
    cases m with
    | zero =>
      simp only [List.getElem?_cons_zero, Option.some.injEq] at hm; subst hm
      rcases h.1 with h1 | h1
      · rw [hc] at h1; cases h1
      · simpa using h1
    | succ m => have := clashes_get h.2 m x (by simpa using hm) hc; rwa [show i + 1 + m = i + (m + 1) by omega] at this

theorem orderOk_get : ∀ {its before : List DItem}, orderOk its before = true → ∀ j y, its[j]? = some y →
    (y.cls = y.o.op.kind ∨ (y.o.op.kind = 3 ∧ y.cls = 2)) ∧ clashes y (before ++ its.take j) 0 = true
  | [], before, _, j, y, hj => by simp at hj
  | a :: its, before, h, j, y, hj => by
    simp only [orderOk, Bool.and_eq_true, Bool.or_eq_true] at h
    cases j with
    | zero =>
      simp only [List.getElem?_cons_zero, Option.some.injEq] at hj; subst hj
      refine ⟨?_, by simpa using h.1.1⟩
      rcases h.1.2 with h1 | h1
      · exact Or.inl (Nat.eq_of_beq_eq_true h1)
      · exact Or.inr ⟨Nat.eq_of_beq_eq_true h1.1, Nat.eq_of_beq_eq_true h1.2⟩
    | succ j =>
      obtain ⟨h1, h2⟩ := orderOk_get h.2 j y (by simpa using hj)
      exact ⟨h1, by simpa using h2⟩

theorem reg_of {P : Program} {nt : Nat} {ops : Array Oper} {l : List ROper} {masks : List Nat} {rc : RCode} (hl : cOpers P nt ops ops.toList = some l) (h : cDraw ops.toList masks l = some rc) :
    ∃ its, rc = .dregion its ∧ Reg P nt ops its := by
  unfold cDraw at h
  split at h
  · rename_i hc; cases h
    simp only [Bool.and_eq_true] at hc
    obtain ⟨⟨hc1, hc2⟩, hc3⟩ := hc
    have hml : masks.length = ops.size := by have := Nat.eq_of_beq_eq_true hc1; simpa using this
    obtain ⟨h1, h2⟩ := cOpers_get hl
    have hll : l.length = ops.size := by simpa using h1
    obtain ⟨h3, h4⟩ := items_get l masks [] (by omega)
    refine ⟨_, rfl, by rw [h3]; exact hll, ?_, ?_⟩
    · intro k o ho
      have hol : ops.toList[k]? = some o := by simpa using ho
      obtain ⟨ro, h5, h6, h7, h8⟩ := h2 k o hol
      obtain ⟨it, h9, h10, h11⟩ := h4 k ro h5
      obtain ⟨h12, _⟩ := orderOk_get hc3 k it h9
      have hm := masksOk_get hc2 k o hol
      simp only [maskOk, Nat.zero_add, Bool.and_eq_true, List.all_eq_true, Bool.or_eq_true, Bool.not_eq_true', decide_eq_true_eq, List.mem_range, List.any_eq_true] at hm
      subst h10
      refine ⟨it, h9, h6, h7, h8, h12, ?_, ?_⟩
      · intro e he hb
        rcases hm.1 e (by simpa using he) with h | h
        · rw [hb] at h; cases h
        · exact h
      · intro i hi hbit
        rcases hm.2 i (by omega) with h | ⟨e, he, h⟩
        · rw [← h11] at h; rw [hbit] at h; cases h
        · obtain ⟨⟨hb, hlt⟩, hor⟩ := h
          refine ⟨e, by simpa using he, hb, hlt, ?_⟩
          rcases hor with h | h
          · exact Or.inl (Nat.eq_of_beq_eq_true h)
          · right
            have hk : k < ops.size := (Array.getElem?_eq_some_iff.1 ho).1
            obtain ⟨o2, ho2⟩ : ∃ o2, ops.toList[e.on]? = some o2 := ⟨ops.toList[e.on]'(by simp; omega), by simp⟩
            obtain ⟨ro2, h13, _⟩ := h2 e.on o2 ho2
            obtain ⟨it2, h14, _, h16⟩ := h4 e.on ro2 h13
            exact ⟨it2, h14, by rw [h16]; exact h⟩
    · intro i j x y hij hx hy hcl
      obtain ⟨_, h5⟩ := orderOk_get hc3 j y hy
      have := clashes_get h5 i x (by simp [hij, hx]) hcl
      simpa using this
  · cases h
end Go.Am
