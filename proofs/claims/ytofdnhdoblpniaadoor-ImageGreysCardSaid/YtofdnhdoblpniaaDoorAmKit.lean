/- Tools for contracts: slices by instances, loops with frames, calls of pure functions. -/
import Derived.Test.YtofdnhdoblpniaaDoorAmBytes
set_option linter.unusedSimpArgs false
set_option linter.unusedVariables false
namespace Go.Am
open Go

/- ===== frames that a piece of code leaves alone ===== -/
def memN (d : Nat) : List Nat → Bool
  | [] => false
  | x :: xs => cond (Nat.beq d x) true (memN d xs)
def dstIn (D : List Nat) : Option Nat → Bool
  | some d => memN d D
  | none => true
def opsIn (D : List Nat) : List ROper → Bool
  | [] => true
  | o :: os => cond (dstIn D o.dst) (opsIn D os) false
def itsIn (D : List Nat) : List DItem → Bool
  | [] => true
  | o :: os => cond (dstIn D o.o.dst) (itsIn D os) false
def RCode.within (D : List Nat) : RCode → Bool
  | .region ops => opsIn D ops
  | .dregion its => itsIn D its
  | .seq a b => _root_.cond (a.within D) (b.within D) false
  | .cond _ t e => _root_.cond (t.within D) (e.within D) false
  | .block _ b => b.within D
  | .loop b => b.within D
  | .scope b => b.within D
  | _ => true

theorem cond_tt {a b : Bool} (h : cond a b false = true) : a = true ∧ b = true := by cases a <;> simp_all

theorem put_off {D : List Nat} {d : Option Nat} (h : dstIn D d = true) {t : Nat} (ht : memN t D = false) (fr : AFrame) (v : AVal) : put fr d v t = fr t := by
  cases d with
  | none => rfl
  | some d =>
    have hne : Nat.beq t d = false := by
      cases hb : Nat.beq t d with
      | false => rfl
      | true => rw [Nat.eq_of_beq_eq_true hb] at ht; simp only [dstIn] at h; rw [h] at ht; cases ht
    simp only [put, upd, hne, cond_false]

theorem execOps_off {call : ACall} {D : List Nat} : ∀ {ops : List ROper} {fr fr' : AFrame} {H H' : AHeap}, opsIn D ops = true → execOps call ops fr H = some (fr', H') → ∀ t, memN t D = false → fr' t = fr t := by
  intro ops
  induction ops with
  | nil => intro fr fr' H H' _ h t _; cases h; rfl
  | cons o os ih =>
    intro fr fr' H H' hD h t ht
    obtain ⟨hd, hos⟩ := cond_tt hD
    simp only [execOps] at h
    cases hw : o.wanted fr with
    | true =>
      rw [hw] at h
      obtain ⟨v, H1, h1, h2⟩ := bind_some h
      rw [ih hos h2 t ht, put_off hd ht]
    | false =>
      rw [hw] at h
      rw [ih hos h t ht, put_off hd ht]

theorem dtext_off {call : ACall} {D : List Nat} : ∀ {its : List DItem} {ref : Nat} {fr fr' : AFrame} {H H' : AHeap} {R : List DRec}, itsIn D its = true → dtext call its ref fr H = some (R, fr', H') → ∀ t, memN t D = false → fr' t = fr t := by
  intro its
  induction its with
  | nil => intro ref fr fr' H H' R _ h t _; cases h; rfl
  | cons o os ih =>
    intro ref fr fr' H H' R hD h t ht
    obtain ⟨hd, hos⟩ := cond_tt hD
    simp only [dtext] at h
    cases hw : o.o.wanted fr with
    | true =>
      rw [hw] at h
      simp only [] at h
      cases hs : dstep call o ref fr H with
      | none => rw [hs] at h; cases h
      | some p =>
        obtain ⟨v, eff, H1⟩ := p
        rw [hs] at h
        simp only [] at h
        cases hr : dtext call os (nextRef o.cls ref) (put fr o.o.dst v) H1 with
        | none => rw [hr] at h; cases h
        | some q =>
          obtain ⟨R1, f1, H2⟩ := q
          rw [hr] at h
          cases h
          rw [ih hos hr t ht, put_off hd ht]
    | false =>
      rw [hw] at h
      simp only [] at h
      cases hr : dtext call os (nextRef o.cls ref) (put fr o.o.dst aundef) H with
      | none => rw [hr] at h; cases h
      | some q =>
        obtain ⟨R1, f1, H2⟩ := q
        rw [hr] at h
        cases h
        rw [ih hos hr t ht, put_off hd ht]

theorem exec_off {call : ACall} {lf : Nat} {D : List Nat} : ∀ {c : RCode} {fr fr' : AFrame} {H H' : AHeap} {x : RExit}, c.within D = true → c.exec call lf fr H = some ((x, fr'), H') → ∀ t, memN t D = false → fr' t = fr t := by
  intro c
  induction c with
  | skip => intro fr fr' H H' x _ h t _; cases h; rfl
  | label => intro fr fr' H H' x _ h t _; cases h; rfl
  | exit id => intro fr fr' H H' x _ h t _; cases h; rfl
  | ret => intro fr fr' H H' x _ h t _; cases h; rfl
  | fail => intro fr fr' H H' x _ h t _; cases h
  | region ops =>
    intro fr fr' H H' x hD h t ht
    obtain ⟨f1, H1, h1, h2⟩ := bind_some h
    cases h2
    exact execOps_off hD h1 t ht
  | dregion its =>
    intro fr fr' H H' x hD h t ht
    simp only [RCode.exec] at h
    split at h
    · rename_i R f1 H1 hd
      split at h
      · cases h; exact dtext_off hD hd t ht
      · cases h
    · cases h
  | seq a b iha ihb =>
    intro fr fr' H H' x hD h t ht
    obtain ⟨hda, hdb⟩ := cond_tt hD
    obtain ⟨⟨y, f1⟩, H1, h1, h2⟩ := bind_some h
    cases y with
    | normal => rw [ihb hdb h2 t ht, iha hda h1 t ht]
    | exit id => cases h2; exact iha hda h1 t ht
    | ret => cases h2; exact iha hda h1 t ht
  | cond c a b iha ihb =>
    intro fr fr' H H' x hD h t ht
    obtain ⟨hda, hdb⟩ := cond_tt hD
    simp only [RCode.exec] at h
    cases hc : c.ev fr with
    | bool b0 =>
      rw [hc] at h
      cases b0 with
      | true => exact iha hda h t ht
      | false => exact ihb hdb h t ht
    | _ => rw [hc] at h; cases h
  | block id b ih =>
    intro fr fr' H H' x hD h t ht
    obtain ⟨⟨y, f1⟩, H1, h1, h2⟩ := bind_some h
    cases y with
    | normal => cases h2; exact ih hD h1 t ht
    | ret => cases h2; exact ih hD h1 t ht
    | exit i =>
      simp only [] at h2
      cases hb : Nat.beq i id with
      | true => rw [hb] at h2; cases h2; exact ih hD h1 t ht
      | false => rw [hb] at h2; cases h2; exact ih hD h1 t ht
  | scope b ih => intro fr fr' H H' x hD h t ht; exact ih hD h t ht
  | loop b ih =>
    intro fr fr' H H' x hD h t ht
    have key : ∀ (n : Nat) (fr fr' : AFrame) (H H' : AHeap) (x : RExit), loopN (b.exec call lf) n fr H = some ((x, fr'), H') → fr' t = fr t := by
      intro n
      induction n with
      | zero => intro fr fr' H H' x h; cases h
      | succ n ihn =>
        intro fr fr' H H' x h
        obtain ⟨⟨y, f1⟩, H1, h1, h2⟩ := bind_some h
        cases y with
        | normal => rw [ihn _ _ _ _ _ h2, ih hD h1 t ht]
        | exit i => cases h2; exact ih hD h1 t ht
        | ret => cases h2; exact ih hD h1 t ht
    exact key lf fr fr' H H' x h

/-- The frame of a loop's round: the loop's own temporaries are anything, but for those that are named. -/
def mix : List Nat → AFrame → AFrame → AFrame
  | [], _, fr => fr
  | d :: D, g, fr => upd (mix D g fr) d (g d)
def updL : List (Nat × AVal) → AFrame → AFrame
  | [], fr => fr
  | p :: l, fr => upd (updL l fr) p.1 p.2
def agrees : List (Nat × AVal) → AFrame → Prop
  | [], _ => True
  | p :: l, fr => fr p.1 = p.2 ∧ agrees l fr
def keysIn (D : List Nat) : List (Nat × AVal) → Bool
  | [] => true
  | p :: l => cond (memN p.1 D) (keysIn D l) false

theorem mix_off {D : List Nat} {t : Nat} (h : memN t D = false) (g fr : AFrame) : mix D g fr t = fr t := by
  induction D with
  | nil => rfl
  | cons d D ih =>
    simp only [memN] at h
    cases hb : Nat.beq t d with
    | true => rw [hb] at h; cases h
    | false => rw [hb] at h; simp only [mix, upd, hb, cond_false]; exact ih h
theorem mix_on {D : List Nat} {t : Nat} (h : memN t D = true) (g fr : AFrame) : mix D g fr t = g t := by
  induction D with
  | nil => cases h
  | cons d D ih =>
    simp only [memN] at h
    cases hb : Nat.beq t d with
    | true => simp only [mix, upd, hb, cond_true]; rw [Nat.eq_of_beq_eq_true hb]
    | false => rw [hb] at h; simp only [mix, upd, hb, cond_false]; exact ih h
theorem updL_agrees {l : List (Nat × AVal)} {fr : AFrame} (h : agrees l fr) : updL l fr = fr := by
  induction l with
  | nil => rfl
  | cons p l ih =>
    simp only [updL, ih h.2]
    funext i
    cases hb : Nat.beq i p.1 with
    | true => simp only [upd, hb, cond_true]; rw [Nat.eq_of_beq_eq_true hb]; exact h.1.symm
    | false => simp only [upd, hb, cond_false]
theorem updL_off {D : List Nat} {l : List (Nat × AVal)} (hk : keysIn D l = true) {t : Nat} (h : memN t D = false) (fr : AFrame) : updL l fr t = fr t := by
  induction l with
  | nil => rfl
  | cons p l ih =>
    obtain ⟨h1, h2⟩ := cond_tt hk
    cases hb : Nat.beq t p.1 with
    | true => rw [← Nat.eq_of_beq_eq_true hb, h] at h1; cases h1
    | false => simp only [updL, upd, hb, cond_false]; exact ih h2
theorem mix_self {D : List Nat} {f fr : AFrame} (h : ∀ t, memN t D = false → f t = fr t) : mix D f fr = f := by
  funext t
  cases hm : memN t D with
  | true => exact mix_on hm f fr
  | false => rw [mix_off hm, h t hm]

section
variable {call : ACall} {lf : Nat} {fr : AFrame} {H : AHeap} {Q : RExit → AFrame → AHeap → Prop} {K : AFrame → AHeap → Prop}

/-- A loop, by what it carries from round to round. -/
theorem Wp.loopS {σ : Type} {b : RCode} (D : List Nat) (vals : σ → List (Nat × AVal)) (I : AHeap → σ → AHeap → Prop) (μ : σ → Nat) (s0 : σ) (hD : b.within D = true) (hk : ∀ s, keysIn D (vals s) = true)
    (ha : agrees (vals s0) fr) (hi : I H s0 H) (hμ : μ s0 < lf)
    (step : ∀ s g H1, I H s H1 → Wp call lf b (updL (vals s) (mix D g fr)) H1 fun x fr' H' => match x with | .normal => ∃ s', μ s' < μ s ∧ agrees (vals s') fr' ∧ I H s' H' | e => Q e fr' H') : Wp call lf (.loop b) fr H Q := by
  refine Wp.loop (fun k f H1 => ∃ s g, k = μ s ∧ I H s H1 ∧ f = updL (vals s) (mix D g fr)) ?_ hμ ⟨s0, fr, rfl, hi, by rw [mix_self (fun _ _ => rfl), updL_agrees ha]⟩
  rintro k f H0 ⟨s, g, rfl, hI, rfl⟩
  obtain ⟨x, fr', H', h1, h2⟩ := step s g H0 hI
  refine ⟨x, fr', H', h1, ?_⟩
  cases x with
  | normal =>
    obtain ⟨s', h3, h4, h5⟩ := h2
    refine ⟨μ s', h3, s', fr', rfl, h5, ?_⟩
    have hoff : ∀ t, memN t D = false → fr' t = fr t := fun t ht => by rw [exec_off hD h1 t ht, updL_off (hk s) ht, mix_off ht]
    rw [mix_self hoff, updL_agrees h4]
  | exit i => exact h2
  | ret => exact h2
end

/-- A region without order that writes nothing and makes nothing is one in the text's order. -/
theorem dcheck_none {R : List DRec} {H0 : AHeap} (h : ∀ r ∈ R, r.eff = false) (hok : ∀ r ∈ R, r.want = true → (Nat.beq r.cls 1 || Nat.beq r.cls 3) = true → r.okAt H0 = true) : dcheck R H0 R 0 = true := by
  have hchk : ∀ (r : DRec) (k : Nat) (es : List DRec) (i : Nat), (∀ e ∈ es, e.eff = false) → r.okAt H0 = true → r.chk k es i H0 true = true := by
    intro r k es
    induction es with
    | nil => intro i _ h; simp [DRec.chk, h]
    | cons e es ih => intro i he h; simp only [DRec.chk, he e (by simp)]; exact ih _ (fun x hx => he x (by simp [hx])) h
  have key : ∀ (rs : List DRec) (k : Nat), (∀ r ∈ rs, r ∈ R) → dcheck R H0 rs k = true := by
    intro rs
    induction rs with
    | nil => intro k _; rfl
    | cons r rs ih =>
      intro k hm
      simp only [dcheck, Bool.and_eq_true]
      refine ⟨?_, ih _ fun x hx => hm x (by simp [hx])⟩
      cases hc : (r.want && (Nat.beq r.cls 1 || Nat.beq r.cls 3)) with
      | false => rfl
      | true =>
        simp only [Bool.and_eq_true] at hc
        exact hchk r k R 0 h (hok r (hm r (by simp)) hc.1 hc.2)
  exact key R 0 fun _ h => h
def quietOp : ROp → Bool
  | .sliceS .. => false
  | op => Nat.ble op.kind 1
def quiet : List DItem → Bool
  | [] => true
  | o :: os => _root_.cond (quietOp o.o.op && Nat.ble o.cls 1) (quiet os) false
def opsOf : List DItem → List ROper
  | [] => []
  | o :: os => o.o :: opsOf os
theorem quietOp_same {call : ACall} {fr : AFrame} {op : ROp} {H H' : AHeap} {v : AVal} (hq : quietOp op = true) (hx : op.exec call fr H = some (v, H')) : H' = H ∧ ∀ call', op.exec call' fr H = some (v, H) := by
  have hk : op.kind ≤ 1 := by cases op <;> simp_all [quietOp]
  have hn : H'.n = H.n := by
    by_cases h0 : op.kind = 0
    · have := exec_pure h0 hx call H
      rw [hx] at this; cases this; rfl
    · have h1 : op.kind = 1 := by omega
      cases op <;> simp only [ROp.kind] at h0 h1 <;> first | (exact absurd rfl h0) | (cases h1; done) | skip
      · rw [aLoad_same hx]
      · simp [quietOp] at hq
      · rw [aBytesToStr_same hx]
      · rw [aUptr_same hx]
      · rw [aSliceData_same hx]
  exact exec_reads hk hx hn
theorem dtext_quiet {call : ACall} : ∀ {its : List DItem} {ref : Nat} {fr fr' : AFrame} {H H' : AHeap}, quiet its = true → execOps call (opsOf its) fr H = some (fr', H') → H' = H ∧ ∃ R, dtext call its ref fr H = some (R, fr', H) ∧ ∀ r ∈ R, r.eff = false ∧ (r.want = true → (Nat.beq r.cls 1 || Nat.beq r.cls 3) = true → r.okAt H = true) := by
  intro its
  induction its with
  | nil => intro ref fr fr' H H' _ h; cases h; exact ⟨rfl, [], rfl, by simp⟩
  | cons o os ih =>
    intro ref fr fr' H H' hq h
    obtain ⟨hq1, hq2⟩ := cond_tt hq
    simp only [Bool.and_eq_true] at hq1
    have hcls : o.cls ≤ 1 := Nat.le_of_ble_eq_true hq1.2
    have h3 : Nat.beq o.cls 3 = false := by apply nbeq_ne; omega
    have h2 : Nat.beq o.cls 2 = false := by apply nbeq_ne; omega
    simp only [opsOf, execOps] at h
    cases hw : o.o.wanted fr with
    | false =>
      rw [hw] at h
      obtain ⟨e1, R, hR, hall⟩ := ih (ref := nextRef o.cls ref) hq2 h
      refine ⟨e1, ⟨o.o, o.b, o.cls, fr, aundef, false, false, H, ref⟩ :: R, by simp only [dtext, hw, hR], ?_⟩
      intro r hr
      rcases List.mem_cons.1 hr with rfl | hr
      · exact ⟨rfl, fun h => by cases h⟩
      · exact hall r hr
    | true =>
      rw [hw] at h
      obtain ⟨v, H1, hx, hrest⟩ := bind_some h
      obtain ⟨e1, hc⟩ := quietOp_same hq1.1 hx
      subst e1
      obtain ⟨e2, R, hR, hall⟩ := ih (ref := nextRef o.cls ref) hq2 hrest
      refine ⟨e2, ⟨o.o, o.b, o.cls, fr, v, true, false, H1, ref⟩ :: R, ?_, ?_⟩
      · simp only [dtext, hw, dstep, h2, h3, hc noCall]
        simp [hR]
      · intro r hr
        rcases List.mem_cons.1 hr with rfl | hr
        · exact ⟨rfl, fun _ _ => okAt_read h3 (hc noCall)⟩
        · exact hall r hr
theorem quiet_no3 : ∀ {its : List DItem}, quiet its = true → (its.all fun it => !(Nat.beq it.cls 3)) = true := by
  intro its
  induction its with
  | nil => intro _; rfl
  | cons o os ih =>
    intro hq
    obtain ⟨hq1, hq2⟩ := cond_tt hq
    simp only [Bool.and_eq_true] at hq1
    have hcls : o.cls ≤ 1 := Nat.le_of_ble_eq_true hq1.2
    have h3 : Nat.beq o.cls 3 = false := by apply nbeq_ne; omega
    simp only [List.all_cons, h3, ih hq2]; rfl
section
variable {call : ACall} {lf : Nat} {fr : AFrame} {H : AHeap} {Q : RExit → AFrame → AHeap → Prop} {K : AFrame → AHeap → Prop}
theorem Wp.dquiet {its : List DItem} {ops : List ROper} (hq : quiet its = true) (ho : opsOf its = ops) (h : WpO call ops fr H fun fr' H' => Q .normal fr' H') : Wp call lf (.dregion its) fr H Q := by
  subst ho
  obtain ⟨fr', H', h1, h2⟩ := h
  obtain ⟨rfl, R, hR, hall⟩ := dtext_quiet (ref := H.n) hq h1
  refine ⟨.normal, fr', H', ?_, h2⟩
  simp only [RCode.exec, oracle_none its H'.n fr H' (quiet_no3 hq), pushAll, hR]
  rw [dcheck_none (fun r hr => (hall r hr).1) fun r hr => (hall r hr).2]
end
end Go.Am
