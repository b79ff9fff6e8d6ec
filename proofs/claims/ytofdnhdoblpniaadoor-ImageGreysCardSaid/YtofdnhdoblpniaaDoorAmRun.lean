/- Regions, code, functions. -/
import Derived.Test.YtofdnhdoblpniaaDoorAmSim
import Derived.Scope
import Derived.LoopN
set_option linter.unusedSimpArgs false
set_option linter.unusedVariables false
namespace Go.Am
open Go Go.RowKit

section
variable {P : Program} {S : Base} {m : RMap} {H H' : AHeap} {w : World}

theorem wp_of_yields {o : Oper} {a : Act} {R : Value → World → Prop} {next : Act → World → Prop} {Q : Exit → Act → World → Prop} (h : Yields P (execOp a.eval o) w R) (hn : ∀ x w', R x w' → next (a.put o.dst x) w') : o.wp P a w next Q := by
  unfold Oper.wp
  unfold Yields at h
  cases hr : (execOp a.eval o).run P w with
  | halt e w' => rw [hr] at h; exact h.elim
  | ok n w' =>
    rw [hr] at h
    cases n with
    | value v => exact hn _ _ h
    | skip => exact hn _ _ h
    | enter f args =>
      rw [Oper.upon_enter]
      exact h.mono fun e w'' ⟨v, h1, h2⟩ => by subst h1; exact hn _ _ h2
    | _ => exact h.elim

theorem FRel.put {nt : Nat} {fr : AFrame} {a : Act} (h : FRel nt m fr a.tmps) {d : Option Nat} {d' : Option Tmp} (hd : cDst nt d' = some d) {v : AVal} {x : Value} (hv : emb m v = some x) : FRel nt m (put fr d v) (a.put d' x).tmps := by
  cases d' with
  | none => simp only [cDst] at hd; cases hd; exact h
  | some t =>
    simp only [cDst] at hd
    split at hd
    · rename_i ht; cases hd
      refine ⟨by simp [Act.put, h.1], fun i hi => ?_⟩
      by_cases hit : i = t
      · subst hit
        exact ⟨x, by simp [Go.Am.put, upd, hv], by simp [Act.put, h.1, hi]⟩
      · obtain ⟨y, h1, h2⟩ := h.2 i hi
        exact ⟨y, by simp [Go.Am.put, upd, nbeq_ne hit, h1], by simp [Act.put, Ne.symm hit, h2]⟩
    · cases hd

theorem put_defers (a : Act) (d : Option Tmp) (x : Value) : (a.put d x).defers = a.defers := by cases d <;> rfl

theorem emb_bool {v : AVal} {b : Bool} (h : emb m v = some (.bool b)) : v = .bool b := by
  cases v <;> simp only [emb] at h <;> first | (cases h; rfl) | (cases h; done) | (split at h <;> cases h)

theorem wanted_eq {nt : Nat} {fr : AFrame} {a : Act} (h : FRel nt m fr a.tmps) {ops : Array Oper} {o : Oper} {g : Option (Nat × Bool)} (hg : cGuard nt ops o.guard = some g) {ro : ROper} (hro : ro.guard = g) :
    Region.wanted o (yielded ops a.tmps) = ro.wanted fr := by
  unfold ROper.wanted Region.wanted
  rw [hro]
  cases hog : o.guard with
  | none => rw [hog] at hg; simp only [cGuard] at hg; cases hg; rfl
  | some jb =>
    obtain ⟨j, b⟩ := jb
    rw [hog] at hg
    simp only [cGuard] at hg
    cases ht : (ops[j]?).bind (·.dst) with
    | none => rw [ht] at hg; cases hg
    | some t =>
      rw [ht] at hg
      simp only [] at hg
      split at hg
      · rename_i hlt; cases hg
        obtain ⟨x, h1, h2⟩ := h.2 t hlt
        simp only [yielded, ht, Option.bind_some, h2]
        cases hx : fr t with
        | bool c =>
          rw [hx] at h1; simp only [emb] at h1; cases h1
          cases b <;> cases c <;> rfl
        | _ =>
          have : ∀ c, x ≠ .bool c := fun c e => by
            subst e
            have := emb_bool h1
            rw [hx] at this; cases this
          cases x <;> first | rfl | exact absurd rfl (this _)
      · cases hg

theorem undef_emb : emb m aundef = some undef := by simp [aundef, emb, embL, undef]

theorem sim_ops {nt : Nat} {call : ACall} (hG : S.G = P.globals.size) (hcall : CallSim P S call) {ops : Array Oper} {Q : Exit → Act → World → Prop} {fr' : AFrame} (ds : List Deferred)
    (hQ : ∀ (m' : RMap) (a' : Act) (w' : World), FRel nt m' fr' a'.tmps → a'.defers = ds → HRel S m' H' w' → Le m m' → Q .normal a' w') :
    ∀ (l : List Oper) (i : Nat) (rl : List ROper) (fr : AFrame) (H : AHeap) (m0 : RMap) (a : Act) (w : World), ops.toList.drop i = l → cOpers P nt ops l = some rl → execOps call rl fr H = some (fr', H') → FRel nt m0 fr a.tmps → a.defers = ds → HRel S m0 H w → Le m m0 →
      wpOps P ops Q (List.range' i l.length) a w
  | [], i, rl, fr, H, m0, a, w, hl, hc, hx, hf, hd, h, hm => by
    simp only [cOpers] at hc; cases hc
    obtain ⟨rfl, rfl⟩ := pure_some hx
    exact hQ m0 a w hf hd h hm
  | o :: l, i, rl, fr, H, m0, a, w, hl, hc, hx, hf, hd, h, hm => by
    simp only [cOpers] at hc
    split at hc
    · rename_i op dst guard rl' h1 h2 h3 h4; cases hc
      have hoi : ops[i]? = some o := by
        have : (ops.toList.drop i)[0]? = some o := by rw [hl]; rfl
        rw [List.getElem?_drop] at this
        simpa using this
      have hl' : ops.toList.drop (i + 1) = l := by
        have := congrArg (List.drop 1) hl
        simpa [List.drop_drop, Nat.add_comm] using this
      simp only [List.length_cons, List.range'_succ, wpOps, hoi]
      have hw := wanted_eq hf h3 (ro := { dst, op, guard }) rfl
      rw [hw]
      simp only [execOps] at hx
      cases hwant : ROper.wanted fr { dst, op, guard } with
      | true =>
        rw [hwant] at hx
        obtain ⟨v, H1, hx1, hx2⟩ := bind_some hx
        simp only [if_true]
        refine Or.inl (wp_of_yields (sim_op h1 hf h hG hcall hx1) ?_)
        intro x w' ⟨m', hm', hv, hrel⟩
        exact sim_ops hG hcall ds hQ l (i + 1) rl' _ H1 m' _ w' hl' h4 hx2 ((hf.mono hm').put h2 hv) (by rw [put_defers]; exact hd) hrel (Le.trans hm hm')
      | false =>
        rw [hwant] at hx
        simp only [Bool.false_eq_true, if_false]
        exact sim_ops hG hcall ds hQ l (i + 1) rl' _ H m0 _ w hl' h4 hx (hf.put h2 undef_emb) (by rw [put_defers]; exact hd) h hm
    · cases hc

def RExit.to : RExit → Exit
  | .normal => .normal
  | .exit id => .exit id
  | .ret => .ret

/-- What holds behind a piece of code. -/
def Post (S : Base) (nt : Nat) (m : RMap) (x : RExit) (fr' : AFrame) (H' : AHeap) (ds : List Deferred) (Q : Exit → Act → World → Prop) : Prop :=
  ∀ (m' : RMap) (a' : Act) (w' : World), FRel nt m' fr' a'.tmps → a'.defers = ds → HRel S m' H' w' → Le m m' → Q x.to a' w'

/-- Regions that draw their order: given later. -/
def DSim (P : Program) (S : Base) (call : ACall) (lf : Nat) : Prop := ∀ (nt id : Nat) (ops : Array Oper) (rc : RCode) (fr fr' : AFrame) (H H' : AHeap) (x : RExit) (m : RMap) (a : Act) (w : World) (ds : List Deferred) (Q : Exit → Act → World → Prop),
  cCode P nt (.region id ops true) = some rc → rc.exec call lf fr H = some ((x, fr'), H') → FRel nt m fr a.tmps → a.defers = ds → HRel S m H w → Post S nt m x fr' H' ds Q → (Code.region id ops true).wp P Q a w

theorem sim_code {nt : Nat} {call : ACall} {lf : Nat} (hG : S.G = P.globals.size) (hcall : CallSim P S call) (hD : DSim P S call lf) {ds : List Deferred} :
    ∀ (c : Code) (rc : RCode) (fr fr' : AFrame) (H H' : AHeap) (x : RExit) (m : RMap) (a : Act) (w : World) (Q : Exit → Act → World → Prop),
      cCode P nt c = some rc → rc.exec call lf fr H = some ((x, fr'), H') → FRel nt m fr a.tmps → a.defers = ds → HRel S m H w → Post S nt m x fr' H' ds Q → c.wp P Q a w := by
  intro c
  induction c with
  | skip =>
    intro rc fr fr' H H' x m a w Q hc hx hf hd h hQ
    simp only [cCode] at hc; cases hc
    obtain ⟨e, rfl⟩ := pure_some hx; cases e
    exact wp_skip (hQ m a w hf hd h (Le.refl _))
  | label l =>
    intro rc fr fr' H H' x m a w Q hc hx hf hd h hQ
    simp only [cCode] at hc; cases hc
    obtain ⟨e, rfl⟩ := pure_some hx; cases e
    exact wp_label (hQ m a w hf hd h (Le.refl _))
  | region id ops draw =>
    intro rc fr fr' H H' x m a w Q hc hx hf hd h hQ
    cases draw with
    | true => exact hD nt id ops rc fr fr' H H' x m a w ds Q hc hx hf hd h hQ
    | false =>
      simp only [cCode] at hc
      cases hl : cOpers P nt ops ops.toList with
      | none => rw [hl] at hc; cases hc; exact (fail_some hx).elim
      | some l =>
        rw [hl] at hc; cases hc
        simp only [RCode.exec] at hx
        obtain ⟨fr1, H1, h1, h2⟩ := bind_some hx
        obtain ⟨e, rfl⟩ := pure_some h2; cases e
        refine wp_region ?_
        have := sim_ops (Q := Q) hG hcall ds (ops := ops) (m := m) (fun m' a' w' h1 h2 h3 h4 => hQ m' a' w' h1 h2 h3 h4) ops.toList 0 l fr H m a w (by simp) hl h1 hf hd h (Le.refl _)
        rw [List.range_eq_range']
        simpa using this
  | seq c1 c2 ih1 ih2 =>
    intro rc fr fr' H H' x m a w Q hc hx hf hd h hQ
    simp only [cCode] at hc
    split at hc
    · rename_i r1 r2 h1 h2; cases hc
      simp only [RCode.exec] at hx
      obtain ⟨⟨x1, fr1⟩, H1, hx1, hx2⟩ := bind_some hx
      refine wp_seq (ih1 r1 fr fr1 H H1 x1 m a w _ h1 hx1 hf hd h ?_)
      intro m' a' w' hf' hd' hr' hm'
      cases x1 with
      | normal => exact ih2 r2 fr1 fr' H1 H' x m' a' w' Q h2 hx2 hf' hd' hr' (fun m2 a2 w2 q1 q2 q3 q4 => hQ m2 a2 w2 q1 q2 q3 (Le.trans hm' q4))
      | exit id => obtain ⟨e, rfl⟩ := pure_some hx2; cases e; exact hQ m' a' w' hf' hd' hr' hm'
      | ret => obtain ⟨e, rfl⟩ := pure_some hx2; cases e; exact hQ m' a' w' hf' hd' hr' hm'
    · cases hc
  | cond c t e iht ihe =>
    intro rc fr fr' H H' x m a w Q hc hx hf hd h hQ
    simp only [cCode] at hc
    split at hc
    · rename_i c' t' e' h1 h2 h3; cases hc
      have hev := cOpd_ev h1 hf (by rw [← hG]; exact h.glob)
      simp only [RCode.exec] at hx
      cases hv : c'.ev fr with
      | bool b =>
        rw [hv] at hx hev
        simp only [emb] at hev
        have hev' : a.eval c = .bool b := (Option.some.inj hev).symm
        cases b with
        | true => exact wp_cond_true hev' (iht t' fr fr' H H' x m a w Q h2 hx hf hd h hQ)
        | false => exact wp_cond_false hev' (ihe e' fr fr' H H' x m a w Q h3 hx hf hd h hQ)
      | _ => rw [hv] at hx; exact (fail_some hx).elim
    · cases hc
  | block id b ih =>
    intro rc fr fr' H H' x m a w Q hc hx hf hd h hQ
    simp only [cCode] at hc
    cases hb : cCode P nt b with
    | none => rw [hb] at hc; cases hc
    | some b' =>
      rw [hb] at hc; cases hc
      simp only [RCode.exec] at hx
      obtain ⟨⟨x1, fr1⟩, H1, hx1, hx2⟩ := bind_some hx
      refine wp_block (ih b' fr fr1 H H1 x1 m a w _ hb hx1 hf hd h ?_)
      intro m' a' w' hf' hd' hr' hm'
      cases x1 with
      | normal => obtain ⟨e, rfl⟩ := pure_some hx2; cases e; exact hQ m' a' w' hf' hd' hr' hm'
      | ret => obtain ⟨e, rfl⟩ := pure_some hx2; cases e; exact hQ m' a' w' hf' hd' hr' hm'
      | exit id' =>
        simp only [] at hx2
        cases hbeq : Nat.beq id' id with
        | true =>
          rw [hbeq] at hx2
          obtain ⟨e, rfl⟩ := pure_some hx2; cases e
          have := Nat.eq_of_beq_eq_true hbeq
          simp only [RExit.to, Exit.inBlock, this, if_true]
          exact hQ m' a' w' hf' hd' hr' hm'
        | false =>
          rw [hbeq] at hx2
          obtain ⟨e, rfl⟩ := pure_some hx2; cases e
          have hne : id' ≠ id := fun e => by subst e; simp at hbeq
          simp only [RExit.to, Exit.inBlock, hne, if_false]
          exact hQ m' a' w' hf' hd' hr' hm'
  | loop b ih =>
    intro rc fr fr' H H' x m a w Q hc hx hf hd h hQ
    simp only [cCode] at hc
    cases hb : cCode P nt b with
    | none => rw [hb] at hc; cases hc
    | some b' =>
      rw [hb] at hc; cases hc
      simp only [RCode.exec] at hx
      have key : ∀ (n : Nat) (fr : AFrame) (H : AHeap) (m1 : RMap) (a : Act) (w : World), loopN (b'.exec call lf) n fr H = some ((x, fr'), H') → FRel nt m1 fr a.tmps → a.defers = ds → HRel S m1 H w → Le m m1 → Code.rounds P b Q n a w := by
        intro n
        induction n with
        | zero => intro fr H m1 a w hx _ _ _ _; exact (fail_some hx).elim
        | succ n ihn =>
          intro fr H m1 a w hx hf hd h hm
          rw [rounds_succ]
          obtain ⟨⟨x1, fr1⟩, H1, hx1, hx2⟩ := bind_some hx
          refine ih b' fr fr1 H H1 x1 m1 a w _ hb hx1 hf hd h ?_
          intro m' a' w' hf' hd' hr' hm'
          cases x1 with
          | normal => exact ihn fr1 H1 m' a' w' hx2 hf' hd' hr' (Le.trans hm hm')
          | exit id => obtain ⟨e, rfl⟩ := pure_some hx2; cases e; exact hQ m' a' w' hf' hd' hr' (Le.trans hm hm')
          | ret => obtain ⟨e, rfl⟩ := pure_some hx2; cases e; exact hQ m' a' w' hf' hd' hr' (Le.trans hm hm')
      exact wp_loop_rounds lf (key lf fr H m a w hx hf hd h (Le.refl _))
  | scope b ih =>
    intro rc fr fr' H H' x m a w Q hc hx hf hd h hQ
    simp only [cCode] at hc
    cases hb : cCode P nt b with
    | none => rw [hb] at hc; cases hc
    | some b' =>
      rw [hb] at hc; cases hc
      simp only [RCode.exec] at hx
      refine wp_scope_straight (ih b' fr fr' H H' x m a w _ hb hx hf hd h ?_)
      intro m' a' w' hf' hd' hr' hm'
      have := hQ m' a' w' hf' hd' hr' hm'
      cases x <;> exact this
  | exit id =>
    intro rc fr fr' H H' x m a w Q hc hx hf hd h hQ
    simp only [cCode] at hc; cases hc
    obtain ⟨e, rfl⟩ := pure_some hx; cases e
    exact wp_exit (hQ m a w hf hd h (Le.refl _))
  | ret =>
    intro rc fr fr' H H' x m a w Q hc hx hf hd h hQ
    simp only [cCode] at hc; cases hc
    obtain ⟨e, rfl⟩ := pure_some hx; cases e
    exact wp_ret (hQ m a w hf hd h (Le.refl _))
  | goto l => intro rc fr fr' H H' x m a w Q hc hx; simp only [cCode] at hc; cases hc; exact (fail_some hx).elim
  | refuse why => intro rc fr fr' H H' x m a w Q hc hx; simp only [cCode] at hc; cases hc; exact (fail_some hx).elim
  | rangeFunc f ps as b ih1 ih2 => intro rc fr fr' H H' x m a w Q hc hx; simp only [cCode] at hc; cases hc; exact (fail_some hx).elim
end
end Go.Am
