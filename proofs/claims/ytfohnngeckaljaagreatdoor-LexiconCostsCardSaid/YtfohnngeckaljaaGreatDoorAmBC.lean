import Derived.Test.YtfohnngeckaljaaGreatDoorAmBB
import Derived.RangeFuncLeaves
import Derived.ReadAgain
import Derived.WideShapes
import Derived.ChangeShapes
import Derived.OpenShut
import Derived.ChangeStays
import Derived.ChangeSame
import Derived.RowKit
import Derived.ChangeOld
import Derived.SizedLaws
import Derived.Lib.Bytealg
set_option linter.unusedSimpArgs false
set_option linter.unusedVariables false
namespace Go.Am
open Go Go.RowKit
section
variable {P : Program} {S : Base} {m : RMap} {H H' : AHeap} {w : World}
theorem sim_range {g : Operand} {ps : Array Tmp} {assign body : Code} {nt : Nat} {fr : AFrame} {a : Act} {call : ACall} (hC : S.code = cCode P) (hcall : CallSim P S call) (hf : FRel nt m fr a.tmps) (h : HRel S m H w) {gf : FuncId} {fi ca : List AVal} {fn : Func} {c : Code}
    (hg : emb m (.func (.func gf) fi ca) = some (a.eval g)) (hfn : P.funcs[gf]? = some fn) (hb : fn.body = some c) (hname : fn.name ≠ "runtime.NumGoroutine") {ra rb : RCode} (ha : cCode P nt assign = some ra) (hbd : cCode P nt body = some rb)
    {v : AVal} {H2 : AHeap} {R2 : RLoop} (hx : call gf (fi ++ [.yield (H.n + 1)] ++ ca) ((H.push .dead).push (.loop ⟨H.n, nt, fr, ps.toList, ra, rb, 0, .normal⟩)) = some (v, H2)) (hg2 : H2.get (H.n + 1) = .loop R2) (hst : R2.st ≠ 1) (hst4 : R2.st ≠ 4) {Q : Exit → Act → World → Prop}
    (hQ : ∀ (m' : RMap) (w' : World), Le m m' → HRel S m' (H2.set (H.n + 1) (.loop { R2 with st := 3 })) w' → m' H.n = some (⟨w.heap.size, 0, none⟩, 0) → m' (H.n + 1) = some (⟨w.heap.size + 1, 0, none⟩, 0) → Q R2.pend.to { a with defers := { target := .collected w.heap.size, args := #[] } :: a.defers } w') :
    (Code.rangeFunc g ps assign body).wpIn (wid none) 0 P Q a w := by
  refine wpIn_rangeFunc fun f0 _ => ?_
  have hle1 := le_add (m := m) (n := H.n) (⟨w.heap.size, 0, none⟩, 0) (h.fresh H.n (Nat.le_refl _))
  have hd := h.deadRow (⟨w.heap.size, 0, none⟩, 0)
  have hle2 := le_add (m := m.add H.n (⟨w.heap.size, 0, none⟩, 0)) (n := (H.push .dead).n) (⟨w.heap.size + 1, 0, none⟩, 0) (hd.fresh _ (Nat.le_refl _))
  have hle := Le.trans hle1 hle2
  have hp := hd.pushLoop (R := ⟨H.n, nt, fr, ps.toList, ra, rb, 0, .normal⟩) (fn := f0) (tmps := a.tmps) (ps := ps) (assign := assign) (body := body) rfl rfl rfl (hf.mono hle1) (by rw [hC]; exact ha) (by rw [hC]; exact hbd) (k0 := 0) add_eq
  have hg' := emb_mono hle _ _ hg
  simp only [emb] at hg'
  split at hg'
  · rename_i l1 l2 h0 h3 h4
    have e1 : a.eval g = .func (.func gf) l1.toArray l2.toArray := (Option.some.inj hg').symm
    have ey : embL ((m.add H.n (⟨w.heap.size, 0, none⟩, 0)).add (H.push .dead).n (⟨w.heap.size + 1, 0, none⟩, 0)) [.yield (H.n + 1)] = some [.func (.yield (w.heap.size + 1)) #[] #[]] := by
      have : ((m.add H.n (⟨w.heap.size, 0, none⟩, 0)).add (H.push .dead).n (⟨w.heap.size + 1, 0, none⟩, 0)) (H.n + 1) = some (⟨w.heap.size + 1, 0, none⟩, 0) := add_eq
      simp [embL, emb, this]
    have hargs := embL_append (embL_append h3 ey) h4
    have hy := hcall gf _ _ v H2 _ _ _ hx hp hargs
    have hgn : Nat.beq gf yieldId = false := by simpa [fnOk] using h0
    simp only [callSem, hgn] at hy
    have hrun : ∀ w0, (callFunc gf (l1 ++ [Value.func (.yield (w.heap.size + 1)) #[] #[]] ++ l2).toArray).run P w0 = .ok (.enter gf (l1 ++ [Value.func (.yield (w.heap.size + 1)) #[] #[]] ++ l2).toArray) w0 := fun w0 => by
      simp [callFunc, hfn, hb, hname]
    unfold Yields at hy
    rw [hrun] at hy
    simp only [] at hy
    refine ⟨w.heap.size + 1, _, _, { target := .fn (.func gf) l2.toArray, args := l1.toArray ++ #[.func (.yield (w.heap.size + 1)) #[] #[]] }, ((w.alloc (.deferred (some []))).alloc (.loop { state := .ready, pending := none, fn := f0, tmps := a.tmps, params := ps, assign := assign, body := body, defers := w.heap.size })), gf, (l1 ++ [Value.func (.yield (w.heap.size + 1)) #[] #[]] ++ l2).toArray, ((w.alloc (.deferred (some []))).alloc (.loop { state := .ready, pending := none, fn := f0, tmps := a.tmps, params := ps, assign := assign, body := body, defers := w.heap.size })), run_enterLoop_outer f0 a.tmps ps assign body, ?_, fun _ _ => trivial, ?_, fun h => by simp [Fence.wide] at h, ?_⟩
    rotate_left
    rotate_left
    · refine CallsIn.mono (calls_wid hy) fun e w3 ⟨x, he, m3, hm3, hxv, hr3⟩ => ?_
      subst he
      have hl : m3 (H.n + 1) = some (⟨w.heap.size + 1, 0, none⟩, 0) := hm3 _ _ add_eq
      have hd3 : m3 H.n = some (⟨w.heap.size, 0, none⟩, 0) := hm3 _ _ (hle2 _ _ add_eq)
      have hrn : H.n + 1 < H2.n := by
        rcases Nat.lt_or_ge (H.n + 1) H2.n with h' | h'
        · exact h'
        · rw [hr3.fresh _ h'] at hl; cases hl
      obtain ⟨L2, ok2⟩ := hr3.loops.ok _ R2 _ hrn hg2 hl
      have hbusy : L2.state ≠ .busy := by
        rw [ok2.st]
        match hs : R2.st with
        | 0 => simp [stOf]
        | 1 => exact absurd hs hst
        | 2 => simp [stOf]
        | n + 3 => simp [stOf]
      have hr4 := hr3.setLoop (R' := { R2 with st := 3 }) (L' := { L2 with state := .exhausted }) hrn hg2 hl ok2 hst4 (by simp) rfl (by rw [← ok2.pend]; rfl)
      have hq := hQ m3 _ (Le.trans hle hm3) hr4 hd3 hl
      refine ⟨_, _, run_endLoop ok2.obj hbusy, ?_⟩
      rw [ok2.pend] at hq ⊢
      cases hpd : R2.pend with
      | normal => rw [hpd] at hq; exact hq
      | exit id => rw [hpd] at hq; exact wpIn_exit hq
      | ret => rw [hpd] at hq; exact wpIn_ret hq
    · show Sem.run P (Deferred.ofValue (a.eval g) (#[Operand.const (.func (.yield (w.heap.size + 1)) #[] #[])].map a.eval)) _ = _
      rw [e1]
      simp [Deferred.ofValue, Act.eval]
    · show Sem.run P (callFunc gf _) _ = _
      have : (l1.toArray ++ #[Value.func (.yield (w.heap.size + 1)) #[] #[]] ++ l2.toArray) = (l1 ++ [Value.func (.yield (w.heap.size + 1)) #[] #[]] ++ l2).toArray := by apply Array.ext'; simp
      rw [this]
      exact hrun _
  · cases hg'
end
end Go.Am

namespace Go.Am
open Go Go.RowKit
section
variable {P : Program} {S : Base} {m : RMap} {H H' : AHeap} {w : World}
theorem execOps_nt {call : ACall} {nt : Nat} : ∀ {ops : List ROper} {fr fr' : AFrame} {H H' : AHeap}, (∀ o ∈ ops, ∀ d, o.dst = some d → d < nt) → execOps call ops fr H = some (fr', H') → fr' nt = fr nt := by
  intro ops
  induction ops with
  | nil => intro fr fr' H H' _ h; cases h; rfl
  | cons o os ih =>
    intro fr fr' H H' hD h
    have hp : ∀ v, put fr o.dst v nt = fr nt := fun v => by
      cases hd : o.dst with
      | none => rfl
      | some d =>
        have := hD o (by simp) d hd
        simp [put, upd, nbeq_ne (show nt ≠ d by omega)]
    simp only [execOps] at h
    cases hw : o.wanted fr with
    | true =>
      rw [hw] at h
      obtain ⟨v, H1, h1, h2⟩ := bind_some h
      rw [ih (fun o' ho' => hD o' (by simp [ho'])) h2, hp]
    | false =>
      rw [hw] at h
      rw [ih (fun o' ho' => hD o' (by simp [ho'])) h, hp]
theorem dtext_nt {call : ACall} {nt : Nat} : ∀ {its : List DItem} {ref : Nat} {fr fr' : AFrame} {H H' : AHeap} {R : List DRec}, (∀ it ∈ its, ∀ d, it.o.dst = some d → d < nt) → dtext call its ref fr H = some (R, fr', H') → fr' nt = fr nt := by
  intro its
  induction its with
  | nil => intro ref fr fr' H H' R _ h; cases h; rfl
  | cons o os ih =>
    intro ref fr fr' H H' R hD h
    have hp : ∀ v, put fr o.o.dst v nt = fr nt := fun v => by
      cases hd : o.o.dst with
      | none => rfl
      | some d =>
        have := hD o (by simp) d hd
        simp [put, upd, nbeq_ne (show nt ≠ d by omega)]
    have hD' : ∀ it ∈ os, ∀ d, it.o.dst = some d → d < nt := fun o' ho' => hD o' (by simp [ho'])
    simp only [dtext] at h
    cases hw : o.o.wanted fr with
    | false =>
      rw [hw] at h
      simp only [] at h
      split at h
      · rename_i R1 f1 H1 h1
        cases h
        rw [ih hD' h1, hp]
      · cases h
    | true =>
      rw [hw] at h
      simp only [] at h
      split at h
      · cases h
      · split at h
        · rename_i R1 f1 H2 h1
          cases h
          rw [ih hD' h1, hp]
        · cases h
theorem cOpers_dst {nt : Nat} {ops : Array Oper} : ∀ {l : List Oper} {rl : List ROper}, cOpers P nt ops l = some rl → ∀ o ∈ rl, ∀ d, o.dst = some d → d < nt := by
  intro l
  induction l with
  | nil => intro rl h o ho; simp only [cOpers] at h; cases h; cases ho
  | cons x l ih =>
    intro rl h o ho d hd
    simp only [cOpers] at h
    split at h
    · rename_i op dst guard rl' h1 h2 h3 h4; cases h
      rcases List.mem_cons.1 ho with rfl | ho
      · simp only at hd
        subst hd
        cases hx : x.dst with
        | none => rw [hx] at h2; simp only [cDst] at h2; cases h2
        | some t =>
          rw [hx] at h2
          simp only [cDst] at h2
          split at h2
          · cases h2; assumption
          · cases h2
      · exact ih h4 o ho d hd
    · cases h
theorem items_mem {ef : Bool} : ∀ {l : List ROper} {bs bad : List Nat} {it : DItem}, it ∈ items ef l bs bad → it.o ∈ l := by
  intro l
  induction l with
  | nil => intro bs bad it h; simp [items] at h
  | cons o os ih =>
    intro bs bad it h
    cases bs with
    | nil => simp [items] at h
    | cons b bs =>
      simp only [items] at h
      rcases List.mem_cons.1 h with rfl | h
      · simp
      · exact List.mem_cons_of_mem _ (ih h)
theorem leaf_nt {call : ACall} {lf nt id : Nat} {ops : Array Oper} {dr : Bool} {rc : RCode} {fr fr' : AFrame} {x : RExit} (hc : cCode P nt (.region id ops dr) = some rc) (hx : rc.exec call lf fr H = some ((x, fr'), H')) : fr' nt = fr nt := by
  cases dr with
  | false =>
    simp only [cCode] at hc
    cases hl : cOpers P nt ops ops.toList with
    | none => rw [hl] at hc; cases hc; exact (fail_some hx).elim
    | some l =>
      rw [hl] at hc; cases hc
      simp only [RCode.exec] at hx
      obtain ⟨fr1, H1, h1, h2⟩ := bind_some hx
      obtain ⟨e, rfl⟩ := pure_some h2; cases e
      exact execOps_nt (cOpers_dst hl) h1
  | true =>
    simp only [cCode] at hc
    cases hl : cOpers P nt ops ops.toList with
    | none =>
      rw [hl] at hc
      simp only [] at hc
      cases hlt : cLit P nt ops.toList (Region.before ops).toList with
      | none => rw [hlt] at hc; cases hc; exact (fail_some hx).elim
      | some rc' =>
        rw [hlt] at hc; cases hc
        obtain ⟨dm, tm, L, rfl, g⟩ := litRun_of hlt
        simp only [RCode.exec] at hx
        obtain ⟨fr1, H1, h1, h2⟩ := bind_some hx
        obtain ⟨e, rfl⟩ := pure_some h2; cases e
        exact execOps_nt g.rops_dst h1
    | some l =>
      rw [hl] at hc
      simp only [] at hc
      cases hdr : cDraw ops.toList (Region.before ops).toList l with
      | none => rw [hdr] at hc; cases hc; exact (fail_some hx).elim
      | some rc' =>
        rw [hdr] at hc
        cases hc
        have hit : ∃ ef, rc = RCode.dregion (items ef l (Region.before ops).toList []) := by
          unfold cDraw at hdr
          cases h1 : drawOk true ops.toList (Region.before ops).toList l with
          | true => rw [h1] at hdr; cases hdr; exact ⟨_, rfl⟩
          | false =>
            rw [h1] at hdr
            cases h2 : drawOk false ops.toList (Region.before ops).toList l with
            | true => rw [h2] at hdr; cases hdr; exact ⟨_, rfl⟩
            | false => rw [h2] at hdr; cases hdr
        obtain ⟨ef, rfl⟩ := hit
        · simp only [RCode.exec] at hx
          split at hx
          · rename_i R f1 H1 hd
            split at hx
            · cases hx
              exact dtext_nt (fun it hit => cOpers_dst hl _ (items_mem hit)) hd
            · cases hx
          · cases hx
inductive MarkL (m : RMap) : List AVal → List Deferred → Prop
  | nil : MarkL m [] []
  | cons {d l b k : Nat} {p : Addr × Nat} {vs : List AVal} {ds : List Deferred} (hd : m d = some (⟨b, 0, none⟩, k)) (hl : m l = some p) (h : MarkL m vs ds) : MarkL m (.ptr d l :: vs) ({ target := .collected b, args := #[] } :: ds)
theorem MarkL.mono {m m' : RMap} (hm : Le m m') {vs : List AVal} {ds : List Deferred} (h : MarkL m vs ds) : MarkL m' vs ds := by
  induction h with
  | nil => exact .nil
  | cons hd hl _ ih => exact .cons (hm _ _ hd) (hm _ _ hl) ih
def Mk (m : RMap) (v : AVal) (ds : List Deferred) : Prop := ∃ vs, v = .tuple vs ∧ MarkL m vs ds
theorem Mk.mono {m m' : RMap} (hm : Le m m') {v : AVal} {ds : List Deferred} (h : Mk m v ds) : Mk m' v ds := by
  obtain ⟨vs, e, k⟩ := h
  exact ⟨vs, e, k.mono hm⟩
theorem FRel.above {nt : Nat} {fr : AFrame} {tmps : Array Value} (h : FRel nt m fr tmps) (v : AVal) : FRel nt m (Go.Am.upd fr nt v) tmps :=
  ⟨h.1, fun i hi => by obtain ⟨x, h1, h2⟩ := h.2 i hi; exact ⟨x, by simp only [Go.Am.upd, nbeq_ne (show i ≠ nt by omega)]; exact h1, h2⟩⟩
def PostM (S : Base) (nt : Nat) (m : RMap) (x : RExit) (fr' : AFrame) (H' : AHeap) (Q : Exit → Act → World → Prop) : Prop :=
  ∀ (m' : RMap) (a' : Act) (w' : World), FRel nt m' fr' a'.tmps → Mk m' (fr' nt) a'.defers → HRel S m' H' w' → Le m m' → Q x.to a' w'
theorem entered_mem {f : FuncId} (h : (enteredAll P).contains f = true) : ∃ fn c, P.funcs[f]? = some fn ∧ fn.body = some c ∧ fn.name ≠ "runtime.NumGoroutine" := by
  have h1 : f ∈ enteredAll P := by simpa using h
  have h2 := (List.mem_filter.1 h1).2
  unfold entered at h2
  cases hf : P.funcs[f]? with
  | none => rw [hf] at h2; cases h2
  | some fn =>
    rw [hf] at h2
    simp only [Bool.and_eq_true] at h2
    cases hb : fn.body with
    | none => rw [hb] at h2; simp at h2
    | some c => exact ⟨fn, c, rfl, hb, by simpa using h2.2⟩
theorem sim_top {nt : Nat} {call : ACall} {lf : Nat} (hC : S.code = cCode P) (hG : S.G = P.globals.size) (hcall : CallSim P S call) (hD : DSim P S call lf) :
    ∀ (c : Code) (rc : RCode) (fr fr' : AFrame) (H H' : AHeap) (x : RExit) (m : RMap) (a : Act) (w : World) (Q : Exit → Act → World → Prop),
      cTop P nt c = some rc → rc.exec call lf fr H = some ((x, fr'), H') → FRel nt m fr a.tmps → Mk m (fr nt) a.defers → HRel S m H w → PostM S nt m x fr' H' Q → c.wpIn (wid none) 0 P Q a w := by
  have leaf : ∀ (c : Code) (rc : RCode) (fr fr' : AFrame) (H H' : AHeap) (x : RExit) (m : RMap) (a : Act) (w : World) (Q : Exit → Act → World → Prop),
      cCode P nt c = some rc → fr' nt = fr nt → rc.exec call lf fr H = some ((x, fr'), H') → FRel nt m fr a.tmps → Mk m (fr nt) a.defers → HRel S m H w → PostM S nt m x fr' H' Q → c.wpIn (wid none) 0 P Q a w := by
    intro c rc fr fr' H H' x m a w Q hc hn hx hf hk h hQ
    refine sim_code hG hcall hD (ds := a.defers) c rc fr fr' H H' x m a w Q hc hx hf rfl h ?_
    intro m' a' w' h1 h2 h3 h4
    exact hQ m' a' w' h1 (by rw [hn, h2]; exact hk.mono h4) h3 h4
  intro c
  induction c with
  | skip => intro rc fr fr' H H' x m a w Q hc hx hf hd h hQ; exact leaf _ rc fr fr' H H' x m a w Q hc (by simp only [cTop, cCode] at hc; cases hc; obtain ⟨e, rfl⟩ := pure_some hx; cases e; rfl) hx hf hd h hQ
  | label l => intro rc fr fr' H H' x m a w Q hc hx hf hd h hQ; exact leaf _ rc fr fr' H H' x m a w Q hc (by simp only [cTop, cCode] at hc; cases hc; obtain ⟨e, rfl⟩ := pure_some hx; cases e; rfl) hx hf hd h hQ
  | region id ops draw => intro rc fr fr' H H' x m a w Q hc hx hf hd h hQ; exact leaf _ rc fr fr' H H' x m a w Q hc (leaf_nt hc hx) hx hf hd h hQ
  | seq c1 c2 ih1 ih2 =>
    intro rc fr fr' H H' x m a w Q hc hx hf hd h hQ
    simp only [cTop] at hc
    split at hc
    · rename_i r1 r2 h1 h2; cases hc
      simp only [RCode.exec] at hx
      obtain ⟨⟨x1, fr1⟩, H1, hx1, hx2⟩ := bind_some hx
      refine wpIn_seq (ih1 r1 fr fr1 H H1 x1 m a w _ h1 hx1 hf hd h ?_)
      intro m' a' w' hf' hd' hr' hm'
      cases x1 with
      | normal => exact ih2 r2 fr1 fr' H1 H' x m' a' w' Q h2 hx2 hf' hd' hr' (fun m2 a2 w2 q1 q2 q3 q4 => hQ m2 a2 w2 q1 q2 q3 (Le.trans hm' q4))
      | exit id => obtain ⟨e, rfl⟩ := pure_some hx2; cases e; exact hQ m' a' w' hf' hd' hr' hm'
      | ret => obtain ⟨e, rfl⟩ := pure_some hx2; cases e; exact hQ m' a' w' hf' hd' hr' hm'
    · cases hc
  | cond c t e iht ihe =>
    intro rc fr fr' H H' x m a w Q hc hx hf hd h hQ
    simp only [cTop] at hc
    split at hc
    · rename_i c' t' e' h1 h2 h3; cases hc
      have hev := cOpd_ev h1 hf (by rw [← hG]; exact h.glob)
      simp only [RCode.exec] at hx
      cases hv : c'.ev fr with
      | bool b =>
        rw [hv] at hx hev
        simp only [emb] at hev
        have hev' : a.eval c = .bool b := (Option.some.inj hev).symm
        cases b with
        | true => exact wpIn_cond_true hev' (iht t' fr fr' H H' x m a w Q h2 hx hf hd h hQ)
        | false => exact wpIn_cond_false hev' (ihe e' fr fr' H H' x m a w Q h3 hx hf hd h hQ)
      | _ => rw [hv] at hx; exact (fail_some hx).elim
    · cases hc
  | block id b ih =>
    intro rc fr fr' H H' x m a w Q hc hx hf hd h hQ
    simp only [cTop] at hc
    cases hb : cTop P nt b with
    | none => rw [hb] at hc; cases hc
    | some b' =>
      rw [hb] at hc; cases hc
      simp only [RCode.exec] at hx
      obtain ⟨⟨x1, fr1⟩, H1, hx1, hx2⟩ := bind_some hx
      refine wpIn_block (ih b' fr fr1 H H1 x1 m a w _ hb hx1 hf hd h ?_)
      intro m' a' w' hf' hd' hr' hm'
      cases x1 with
      | normal => obtain ⟨e, rfl⟩ := pure_some hx2; cases e; exact hQ m' a' w' hf' hd' hr' hm'
      | ret => obtain ⟨e, rfl⟩ := pure_some hx2; cases e; exact hQ m' a' w' hf' hd' hr' hm'
      | exit id' =>
        simp only [] at hx2
        cases hbeq : Nat.beq id' id with
        | true =>
          rw [hbeq] at hx2
          obtain ⟨e, rfl⟩ := pure_some hx2; cases e
          have := Nat.eq_of_beq_eq_true hbeq
          simp only [RExit.to, Exit.inBlock, this, if_true]
          exact hQ m' a' w' hf' hd' hr' hm'
        | false =>
          rw [hbeq] at hx2
          obtain ⟨e, rfl⟩ := pure_some hx2; cases e
          have hne : id' ≠ id := fun e => by subst e; simp at hbeq
          simp only [RExit.to, Exit.inBlock, hne, if_false]
          exact hQ m' a' w' hf' hd' hr' hm'
  | loop b ih =>
    intro rc fr fr' H H' x m a w Q hc hx hf hd h hQ
    simp only [cTop] at hc
    cases hb : cTop P nt b with
    | none => rw [hb] at hc; cases hc
    | some b' =>
      rw [hb] at hc; cases hc
      simp only [RCode.exec] at hx
      have key : ∀ (n : Nat) (fr : AFrame) (H : AHeap) (m1 : RMap) (a : Act) (w : World), loopN (b'.exec call lf) n fr H = some ((x, fr'), H') → FRel nt m1 fr a.tmps → Mk m1 (fr nt) a.defers → HRel S m1 H w → Le m m1 → Code.roundsIn (wid none) 0 P b Q n a w := by
        intro n
        induction n with
        | zero => intro fr H m1 a w hx _ _ _ _; exact (fail_some hx).elim
        | succ n ihn =>
          intro fr H m1 a w hx hf hd h hm
          rw [roundsIn_succ]
          obtain ⟨⟨x1, fr1⟩, H1, hx1, hx2⟩ := bind_some hx
          refine ih b' fr fr1 H H1 x1 m1 a w _ hb hx1 hf hd h ?_
          intro m' a' w' hf' hd' hr' hm'
          cases x1 with
          | normal => exact ihn fr1 H1 m' a' w' hx2 hf' hd' hr' (Le.trans hm hm')
          | exit id => obtain ⟨e, rfl⟩ := pure_some hx2; cases e; exact hQ m' a' w' hf' hd' hr' (Le.trans hm hm')
          | ret => obtain ⟨e, rfl⟩ := pure_some hx2; cases e; exact hQ m' a' w' hf' hd' hr' (Le.trans hm hm')
      exact wpIn_loop_rounds lf (key lf fr H m a w hx hf hd h (Le.refl _))
  | scope b ih =>
    intro rc fr fr' H H' x m a w Q hc hx hf hd h hQ
    simp only [cTop] at hc
    cases hb : cTop P nt b with
    | none => rw [hb] at hc; cases hc
    | some b' =>
      rw [hb] at hc; cases hc
      simp only [RCode.exec] at hx
      refine wpIn_scope_straight (ih b' fr fr' H H' x m a w _ hb hx hf hd h ?_)
      intro m' a' w' hf' hd' hr' hm'
      have := hQ m' a' w' hf' hd' hr' hm'
      cases x <;> exact this
  | exit id => intro rc fr fr' H H' x m a w Q hc hx hf hd h hQ; exact leaf _ rc fr fr' H H' x m a w Q hc (by simp only [cTop, cCode] at hc; cases hc; obtain ⟨e, rfl⟩ := pure_some hx; cases e; rfl) hx hf hd h hQ
  | ret => intro rc fr fr' H H' x m a w Q hc hx hf hd h hQ; exact leaf _ rc fr fr' H H' x m a w Q hc (by simp only [cTop, cCode] at hc; cases hc; obtain ⟨e, rfl⟩ := pure_some hx; cases e; rfl) hx hf hd h hQ
  | goto l => intro rc fr fr' H H' x m a w Q hc hx; simp only [cTop, cCode] at hc; cases hc; exact (fail_some hx).elim
  | refuse why => intro rc fr fr' H H' x m a w Q hc hx; simp only [cTop, cCode] at hc; cases hc; exact (fail_some hx).elim
  | rangeFunc f ps as b _ _ =>
    intro rc fr fr' H H' x m a w Q hc hx hf hd h hQ
    simp only [cTop] at hc
    split at hc
    · rename_i g ra rb h1 h2 h3; cases hc
      have hev := cOpd_ev h1 hf (by rw [← hG]; exact h.glob)
      simp only [RCode.exec] at hx
      split at hx
      · rename_i gf fi ca vs e1 e2
        rw [e1] at hev
        cases hcon : (enteredAll P).contains gf with
        | false => rw [hcon] at hx; cases hx
        | true =>
        rw [hcon] at hx
        simp only [] at hx
        split at hx
        · rename_i v0 H2 hcl
          split at hx
          · rename_i R2 hg2
            cases hst : (Nat.beq R2.st 1 || Nat.beq R2.st 4) with
            | true => rw [hst] at hx; cases hx
            | false =>
            rw [hst] at hx
            cases hx
            have hs1 : R2.st ≠ 1 := fun e => by rw [e] at hst; simp at hst
            have hs4 : R2.st ≠ 4 := fun e => by rw [e] at hst; simp at hst
            obtain ⟨fn, c, k1, k2, k3⟩ := entered_mem hcon
            refine sim_range hC hcall hf h hev k1 k2 k3 h2 h3 hcl hg2 hs1 hs4 ?_
            intro m' w' hle hr hd0 hl0
            refine hQ m' _ w' ((hf.mono hle).above _) ?_ hr hle
            obtain ⟨vs', e3, hk⟩ := hd
            rw [e2] at e3; cases e3
            exact ⟨_, by simp [upd], .cons hd0 hl0 (hk.mono hle)⟩
          · cases hx
        · cases hx
      · cases hx
    · cases hc
theorem MarkL.inv {v : AVal} {vs : List AVal} {ds : List Deferred} (h : MarkL m (v :: vs) ds) : ∃ (d l b k : Nat) (p : Addr × Nat) (ds' : List Deferred), v = .ptr d l ∧ ds = { target := .collected b, args := #[] } :: ds' ∧ m d = some (⟨b, 0, none⟩, k) ∧ m l = some p ∧ MarkL m vs ds' := by
  cases h with
  | cons hd hl h => exact ⟨_, _, _, _, _, _, rfl, rfl, hd, hl, h⟩
theorem takeMark_ptr {d l : Nat} {r : Unit × AHeap} (h : takeMark (.ptr d l) H = some r) : ∃ R0, l < H.n ∧ H.get l = .loop R0 ∧ R0.st = 3 ∧ R0.d = d ∧ r = ((), H.set l (.loop { R0 with st := 4 })) := by
  have h : (match Nat.blt l H.n, H.get l with
    | true, .loop R => match Nat.beq R.st 3 && Nat.beq R.d d with
      | true => some ((), H.set l (.loop { R with st := 4 }))
      | false => none
    | _, _ => none) = some r := h
  cases hlt : Nat.blt l H.n with
  | false => rw [hlt] at h; cases h
  | true =>
  cases hg : H.get l with
  | loop R0 =>
    rw [hlt, hg] at h
    simp only [] at h
    cases hc : (Nat.beq R0.st 3 && Nat.beq R0.d d) with
    | false => rw [hc] at h; cases h
    | true =>
      rw [hc] at h
      rw [Bool.and_eq_true] at hc
      exact ⟨R0, by simpa using hlt, rfl, Nat.eq_of_beq_eq_true hc.1, Nat.eq_of_beq_eq_true hc.2, (Option.some.inj h).symm⟩
  | _ => rw [hlt, hg] at h; cases h
theorem sim_marks {fn : Func} {tmps : Array Value} {R : Ending → World → Prop} : ∀ (vs : List AVal) (ds : List Deferred) (H : AHeap) (w : World), MarkL m vs ds → takeMarks vs H = some ((), H') → HRel S m H w → (∀ w', HRel S m H' w' → LeavesInM Fence.wide 0 P fn tmps R [] .returning w') → LeavesInM Fence.wide 0 P fn tmps R ds .returning w := by
  intro vs
  induction vs with
  | nil => intro ds H w hk hx h hQ; cases hk; obtain ⟨_, rfl⟩ := pure_some hx; exact hQ w h
  | cons v vs ih =>
    intro ds H w hk hx h hQ
    obtain ⟨d, l, b, k, p, ds', rfl, rfl, hd, hl, hk⟩ := hk.inv
    obtain ⟨_, H1, hx1, hx⟩ := bind_some hx
    obtain ⟨R0, hln, hg, hst, hdd, e⟩ := takeMark_ptr hx1
    cases e
    obtain ⟨L, ok⟩ := h.loops.ok l R0 p hln hg hl
    obtain ⟨k', hb⟩ := ok.blk
    rw [hdd, hd] at hb
    have hbL : b = L.defers := by
      have := congrArg (fun o => (o.map (fun q => q.1.block)).getD 0) hb
      simpa using this
    have hob := ok.defers
    rw [hst, if_neg (by decide), ← hbL] at hob
    have hun : ∀ (d0 : Deferred) (w1 : World), d0.target = .collected b → (Instr.takeDeferred b).run P w = .ok [] w1 → LeavesInM Fence.wide 0 P fn tmps R ds' .returning w1 → LeavesInM Fence.wide 0 P fn tmps R (d0 :: ds') .returning w := fun d0 w1 q1 q2 q3 => by
      unfold LeavesInM
      exact ⟨by simp, Or.inl ⟨b, w1, q1, q2, q3⟩⟩
    refine hun _ (w.putObj b (.deferred none)) rfl (run_takeDeferred hob) ?_
    have hr := h.shutLoop hln hg hl ok hst
    rw [← hbL] at hr
    exact ih ds' _ _ hk hx hr hQ
end
end Go.Am

namespace Go.Am
open Go Go.RowKit
section
variable {P : Program} {S : Base} {m : RMap} {H H' : AHeap} {w : World}
def resOf (tmps : Array Value) : ResultVar → Sem Value
  | .tmp t => pure (tmps.getD t undef)
  | .cell a t => do loadVar t (← asAddr (tmps.getD a undef))
theorem sim_getAll {nt : Nat} {fr : AFrame} {tmps : Array Value} (hf : FRel nt m fr tmps) (h : HRel S m H w) {rs : List ResultVar} {rl : List RRes} {vs : List AVal} (hc : cRes P nt rs = some rl) (hx : getAll fr rl H = some (vs, H')) :
    ∃ xs, (rs.mapM (resOf tmps)).run P w = .ok xs w ∧ embL m vs = some xs ∧ H' = H := by
  induction rs generalizing rl vs H' with
  | nil =>
    simp only [cRes] at hc; cases hc
    obtain ⟨rfl, rfl⟩ := pure_some hx
    exact ⟨[], by simp, by simp [embL], rfl⟩
  | cons r rs ih =>
    cases r with
    | tmp t =>
      simp only [cRes] at hc
      split at hc
      · rename_i l hl
        split at hc
        · rename_i ht; cases hc
          obtain ⟨v, H1, h1, h2⟩ := bind_some hx
          obtain ⟨rfl, rfl⟩ := pure_some h1
          obtain ⟨vs', H2, h3, h4⟩ := bind_some h2
          obtain ⟨rfl, rfl⟩ := pure_some h4
          obtain ⟨xs, h5, h6, h7⟩ := ih hl h3
          obtain ⟨y, hy, hy2⟩ := hf.2 t ht
          refine ⟨y :: xs, ?_, embL_mk hy h6, h7⟩
          have : tmps.getD t undef = y := by simp [Array.getD_eq_getD_getElem?, hy2]
          simp [List.mapM_cons, resOf, this, h5]
        · cases hc
      · cases hc
    | cell b t =>
      simp only [cRes] at hc
      split at hc
      · rename_i g l hg hl
        split at hc
        · rename_i ht; cases hc
          obtain ⟨v, H1, h1, h2⟩ := bind_some hx
          obtain ⟨y, hy, hy2⟩ := hf.2 b ht
          obtain ⟨ad, z, h8, h9, h10, rfl⟩ := sim_load (P := P) hg hy h h1
          obtain ⟨vs', H2, h3, h4⟩ := bind_some h2
          obtain ⟨rfl, rfl⟩ := pure_some h4
          obtain ⟨xs, h5, h6, h7⟩ := ih hl h3
          refine ⟨z :: xs, ?_, embL_mk h10 h6, h7⟩
          have : tmps.getD b undef = .pointer (some ad) := by simp [Array.getD_eq_getD_getElem?, hy2, h8]
          simp [List.mapM_cons, resOf, this, asAddr, h5, h9]
        · cases hc
      · cases hc
theorem sim_results {nt : Nat} {fr : AFrame} {fn : Func} {tmps : Array Value} {rl : List RRes} {vs : List AVal} (hf : FRel nt m fr tmps) (h : HRel S m H w) (hc : cRes P nt fn.results.toList = some rl) (hx : getAll fr rl H = some (vs, H')) :
    ∃ x, (results fn tmps).run P w = .ok x w ∧ emb m (aResult vs) = some x ∧ H' = H := by
  obtain ⟨xs, h1, h2, h3⟩ := sim_getAll hf h hc hx
  have hrun : (fn.results.mapM (resOf tmps)).run P w = .ok xs.toArray w := by
    rw [Array.mapM_eq_mapM_toList]
    simp [h1]
  refine ⟨if h : xs.toArray.size = 1 then xs.toArray[0] else .tuple xs.toArray, ?_, ?_, h3⟩
  · show (do let vs ← fn.results.mapM (resOf tmps); pure (if h : vs.size = 1 then vs[0] else .tuple vs)).run P w = _
    simp [hrun]
  · match vs, xs, h2 with
    | [], xs, h2 => simp [embL] at h2; subst h2; simp [aResult, emb, embL]
    | [v], xs, h2 =>
      obtain ⟨x, ys, h3, h4, rfl⟩ := embL_cons h2
      simp [embL] at h4; subst h4
      simpa [aResult] using h3
    | v :: u :: vs, xs, h2 =>
      have := embL_length h2
      have h5 : xs.toArray.size ≠ 1 := by simp; simp at this; omega
      simp only [h5, dif_neg, not_false_eq_true]
      simp [aResult, emb, h2]
theorem argFrame_get : ∀ {args : List AVal} {i : Nat}, argFrame args i = (args[i]?).getD aundef
  | [], i => rfl
  | v :: vs, 0 => rfl
  | v :: vs, i + 1 => by simp [argFrame, argFrame_get (args := vs)]
theorem FRel.args {nt : Nat} {args : List AVal} {vargs : List Value} (hn : args.length ≤ nt) (h : embL m args = some vargs) : FRel nt m (argFrame args) (vargs.toArray ++ Array.replicate (nt - vargs.toArray.size) undef) := by
  have hl := embL_length h
  refine ⟨by simp; omega, fun i hi => ?_⟩
  rw [argFrame_get]
  by_cases hia : i < args.length
  · obtain ⟨y, hy, hy2⟩ := embL_get h (List.getElem?_eq_getElem hia)
    refine ⟨y, by simp [hia, hy], ?_⟩
    rw [Array.getElem?_append_left (by simp; omega)]
    simpa using hy2
  · have h1 : args[i]? = none := by simp; omega
    refine ⟨undef, by rw [h1]; exact undef_emb, ?_⟩
    rw [Array.getElem?_append_right (by simp; omega)]
    rw [Array.getElem?_replicate, if_pos (by simp; omega)]
def ExtSim (P : Program) (ext : Exts) (f : FuncId) (name : Nat) : Prop := ∀ (S : Base) (args : List AVal) (H : AHeap) (v : AVal) (H' : AHeap) (m : RMap) (w : World) (vargs : List Value), S.G = P.globals.size → ext name args H = some (v, H') → HRel S m H w → embL m args = some vargs →
    Yields P (callFunc f vargs.toArray) w (Out S m v H')
def ProgOk (P : Program) (ext : Exts) (prog : FuncId → Option RFunc) : Prop := prog yieldId = none ∧ P.funcs.size ≤ yieldId ∧ ∀ f rf, prog f = some rf →
  (∃ fn c, P.funcs[f]? = some fn ∧ fn.body = some c ∧ cFunc P fn = some rf) ∨ ∃ name, rf.body = .ext name ∧ ExtSim P ext f name
theorem ProgOk.sem {ext : Exts} {prog : FuncId → Option RFunc} (hP : ProgOk P ext prog) {f : FuncId} {fn : Func} (hfn : P.funcs[f]? = some fn) (vargs : List Value) : callSem f vargs = callFunc f vargs.toArray := by
  have hne : Nat.beq f yieldId = false := by
    cases h' : Nat.beq f yieldId with
    | false => rfl
    | true =>
      have h1 := Nat.eq_of_beq_eq_true h'
      have h2 : f < P.funcs.size := (Array.getElem?_eq_some_iff.1 hfn).1
      have h3 := hP.2.1
      rw [h1] at h2
      exact absurd h2 (Nat.not_lt.2 h3)
  simp only [callSem, hne]
theorem sim_end {nt : Nat} {fn : Func} {fr : AFrame} {a : Act} {m0 : RMap} {rl : List RRes} {v : AVal} (hf : FRel nt m fr a.tmps) (hd : Mk m (fr nt) a.defers) (h : HRel S m H w) (hm0 : Le m0 m) (hc : cRes P nt fn.results.toList = some rl)
    (hx : (M.bind (takeMarks (marksOf (fr nt))) fun _ => M.bind (getAll fr rl) fun vs => M.pure (aResult vs)) H = some (v, H')) :
    LeavesInM Fence.wide 0 P fn a.tmps (fun e w' => ∃ x, e = .returned x ∧ Out S m0 v H' x w') a.defers .returning w := by
  obtain ⟨vs, e, hk⟩ := hd
  rw [e] at hx
  obtain ⟨_, H1, h1, h2⟩ := bind_some hx
  refine sim_marks vs a.defers H w hk h1 h fun w1 hr => ?_
  obtain ⟨ws, H2, h3, h4⟩ := bind_some h2
  obtain ⟨rfl, rfl⟩ := pure_some h4
  obtain ⟨y, h5, h6, rfl⟩ := sim_results (P := P) hf hr hc h3
  exact ⟨y, h5, _, rfl, m, hm0, h6, hr⟩
theorem sim_func (hm : P.follows .mixedOrders = true) (hC : S.code = cCode P) (hG : S.G = P.globals.size) {call : ACall} (hcall : ∀ g, CallSim P { S with ghost := g } call) {ext : Exts} {lf : Nat} {f : FuncId} {fn : Func} {c : Code} {rf : RFunc}
    (hfn : P.funcs[f]? = some fn) (hb : fn.body = some c) (hc : cFunc P fn = some rf) {args : List AVal} {vargs : List Value} {v : AVal} (hx : rf.run ext call lf args H = some (v, H')) (h : HRel S m H w) (ha : embL m args = some vargs) :
    Yields P (callFunc f vargs.toArray) w (Out S m v H') := by
  unfold cFunc at hc
  split at hc
  · cases hc
  · rename_i hname
    rw [hb] at hc
    simp only [] at hc
    cases hrg : ranges c with
    | false =>
    rw [hrg] at hc
    simp only [] at hc
    split at hc
    · rename_i rc rr h1 h2; cases hc
      simp only [RFunc.run] at hx
      split at hx
      · exact (fail_some hx).elim
      · rename_i hnt
        obtain ⟨⟨x, fr'⟩, H1, hx1, hx2⟩ := bind_some hx
        have hrun : (callFunc f vargs.toArray).run P w = .ok (.enter f vargs.toArray) w := by
          have hn : ¬ fn.name = "runtime.NumGoroutine" := by simpa using hname
          simp [callFunc, hfn, hb, hn]
        unfold Yields
        rw [hrun]
        simp only []
        refine calls_of_wp hfn hb ?_
        refine (wpIn_wide (n := 0)).1 ?_
        refine sim_code (ro := none) hG (by have := hcall S.ghost; exact this) (dsim hm hG hcall lf) (ds := []) c rc (argFrame args) fr' H H1 x m _ w _ h1 hx1 (FRel.args (by omega) ha) rfl h ?_
        intro m' a' w' hf' hd' hr' hm'
        cases x with
        | exit id => exact (fail_some hx2).elim
        | normal =>
          obtain ⟨vs, H2, h3, h4⟩ := bind_some hx2
          obtain ⟨rfl, rfl⟩ := pure_some h4
          obtain ⟨y, h5, h6, rfl⟩ := sim_results (P := P) hf' hr' h2 h3
          exact ⟨hd', y, h5, _, rfl, m', hm', h6, hr'⟩
        | ret =>
          obtain ⟨vs, H2, h3, h4⟩ := bind_some hx2
          obtain ⟨rfl, rfl⟩ := pure_some h4
          obtain ⟨y, h5, h6, rfl⟩ := sim_results (P := P) hf' hr' h2 h3
          exact ⟨hd', y, h5, _, rfl, m', hm', h6, hr'⟩
    · cases hc
    | true =>
    rw [hrg] at hc
    simp only [] at hc
    split at hc
    · rename_i rc rr h1 h2; cases hc
      simp only [RFunc.run] at hx
      split at hx
      · exact (fail_some hx).elim
      · rename_i hnt
        obtain ⟨⟨x, fr'⟩, H1, hx1, hx2⟩ := bind_some hx
        have hrun : (callFunc f vargs.toArray).run P w = .ok (.enter f vargs.toArray) w := by
          have hn : ¬ fn.name = "runtime.NumGoroutine" := by simpa using hname
          simp [callFunc, hfn, hb, hn]
        unfold Yields
        rw [hrun]
        simp only []
        refine (callsIn_wide (n := 0)).1 (callsIn_of_wp_marks hfn hb trivial ?_)
        have hm0 : Mk m (argFrame args fn.ntmps) [] := by
          refine ⟨[], ?_, .nil⟩
          rw [argFrame_get]
          have : args[fn.ntmps]? = none := by simp; omega
          rw [this]; rfl
        refine sim_top hC hG (by have := hcall S.ghost; exact this) (dsim hm hG hcall lf) c rc (argFrame args) fr' H H1 x m _ w _ h1 hx1 (FRel.args (by omega) ha) hm0 h ?_
        intro m' a' w' hf' hd' hr' hm'
        cases x with
        | exit id => exact (fail_some hx2).elim
        | normal => exact sim_end hf' hd' hr' hm' h2 hx2
        | ret => exact sim_end hf' hd' hr' hm' h2 hx2
    · cases hc
theorem sim_callN (hm : P.follows .mixedOrders = true) {ext : Exts} {prog : FuncId → Option RFunc} (hP : ProgOk P ext prog) : ∀ (n : Nat) (S : Base), S.G = P.globals.size → S.code = cCode P → CallSim P S (callN ext prog n)
  | 0, S, hG, hC => fun f args H v H' m w vargs hx => (fail_some hx).elim
  | n + 1, S, hG, hC => fun f args H v H' m w vargs hx h ha => by
    simp only [callN] at hx
    cases hp : prog f with
    | none =>
      rw [hp] at hx
      simp only [] at hx
      cases hy : Nat.beq f yieldId with
      | false => rw [hy] at hx; exact (fail_some (H := H) hx).elim
      | true =>
        rw [hy] at hx
        cases args with
        | nil => exact (fail_some (H := H) hx).elim
        | cons a as => cases a with
          | yield r =>
            simp only [] at hx
            obtain ⟨y, ys, h1, h2, rfl⟩ := embL_cons ha
            simp only [emb] at h1
            cases hr : m r with
            | none => rw [hr] at h1; cases h1
            | some p =>
              rw [hr] at h1
              cases h1
              simp only [callSem, hy]
              exact sim_round hm hC hG (fun g => sim_callN hm hP n { S with ghost := g } hG hC) hx h hr h2
          | _ => exact (fail_some (H := H) hx).elim
    | some rf =>
      rw [hp] at hx
      simp only [] at hx
      have hne : Nat.beq f yieldId = false := by
        cases h' : Nat.beq f yieldId with
        | false => rfl
        | true => rw [Nat.eq_of_beq_eq_true h', hP.1] at hp; cases hp
      simp only [callSem, hne]
      rcases hP.2.2 f rf hp with ⟨fn, c, h1, h2, h3⟩ | ⟨name, h1, h2⟩
      · exact sim_func hm hC hG (fun g => sim_callN hm hP n { S with ghost := g } hG hC) h1 h2 h3 hx h ha
      · simp only [RFunc.run, h1] at hx
        exact h2 S args H v H' m w vargs hG hx h ha
theorem callN_sem {ext : Exts} {prog : FuncId → Option RFunc} (hP : ProgOk P ext prog) {n : Nat} {f : FuncId} {r : AVal × AHeap} (h : callN ext prog n f [] H = some r) (vargs : List Value) : callSem f vargs = callFunc f vargs.toArray := by
  have hne : Nat.beq f yieldId = false := by
    cases h' : Nat.beq f yieldId with
    | false => rfl
    | true =>
      cases n with
      | zero => exact (fail_some (H := H) h).elim
      | succ n =>
        rw [Nat.eq_of_beq_eq_true h'] at h
        simp only [callN, hP.1] at h
        exact (fail_some (H := H) h).elim
  simp only [callSem, hne]
end
end Go.Am

namespace Go.Am
open Go Go.RowKit
def Evs (ext : Exts) (prog : FuncId → Option RFunc) (f : FuncId) (args : List AVal) (H : AHeap) (Q : AVal → AHeap → Prop) : Prop :=
  ∃ n0, ∀ n, n0 ≤ n → ∃ v H', callN ext prog n f args H = some (v, H') ∧ Q v H'
theorem Evs.mono {ext : Exts} {prog : FuncId → Option RFunc} {f : FuncId} {args : List AVal} {H : AHeap} {Q Q' : AVal → AHeap → Prop} (h : Evs ext prog f args H Q) (hq : ∀ v H', Q v H' → Q' v H') : Evs ext prog f args H Q' := by
  obtain ⟨n0, hn⟩ := h
  exact ⟨n0, fun n hn0 => by obtain ⟨v, H', h1, h2⟩ := hn n hn0; exact ⟨v, H', h1, hq _ _ h2⟩⟩
section
variable {P : Program} {S : Base} {m : RMap} {H : AHeap} {w : World} {ext : Exts} {prog : FuncId → Option RFunc}
theorem calls_of_evs (hm : P.follows .mixedOrders = true) (hP : ProgOk P ext prog) (hG : S.G = P.globals.size) (hC : S.code = cCode P) {f : FuncId} {fn : Func} {c : Code} (hfn : P.funcs[f]? = some fn) (hb : fn.body = some c) (hname : fn.name ≠ "runtime.NumGoroutine")
    {args : List AVal} {vargs : Array Value} {Q : AVal → AHeap → Prop} (h : HRel S m H w) (ha : embL m args = some vargs.toList) (he : Evs ext prog f args H Q) :
    Calls P f vargs w fun e w' => ∃ x v H', e = .returned x ∧ Q v H' ∧ Out S m v H' x w' := by
  obtain ⟨n0, hn⟩ := he
  obtain ⟨v, H', h1, h2⟩ := hn n0 (Nat.le_refl _)
  have hy := sim_callN hm hP n0 S hG hC f args H v H' m w vargs.toList h1 h ha
  have hrun : (callFunc f vargs.toList.toArray).run P w = .ok (.enter f vargs) w := by simp [callFunc, hfn, hb, hname]
  rw [hP.sem hfn] at hy
  unfold Yields at hy
  rw [hrun] at hy
  simp only [] at hy
  exact hy.mono fun e w' ⟨x, h3, h4⟩ => ⟨x, v, H', h3, h2, h4⟩
end
def Wp (call : ACall) (lf : Nat) (c : RCode) (fr : AFrame) (H : AHeap) (Q : RExit → AFrame → AHeap → Prop) : Prop := ∃ x fr' H', c.exec call lf fr H = some ((x, fr'), H') ∧ Q x fr' H'
def WpO (call : ACall) (ops : List ROper) (fr : AFrame) (H : AHeap) (Q : AFrame → AHeap → Prop) : Prop := ∃ fr' H', execOps call ops fr H = some (fr', H') ∧ Q fr' H'
def WpX (op : ROp) (call : ACall) (fr : AFrame) (H : AHeap) (Q : AVal → AHeap → Prop) : Prop := ∃ v H', op.exec call fr H = some (v, H') ∧ Q v H'
section
variable {call : ACall} {lf : Nat} {fr : AFrame} {H : AHeap} {Q : RExit → AFrame → AHeap → Prop} {K : AFrame → AHeap → Prop}
theorem WpO.nil (h : K fr H) : WpO call [] fr H K := ⟨fr, H, rfl, h⟩
theorem WpO.cons {o : ROper} {os : List ROper} {v : AVal} {H1 : AHeap} (hw : o.wanted fr = true) (hx : o.op.exec call fr H = some (v, H1)) (h : WpO call os (put fr o.dst v) H1 K) : WpO call (o :: os) fr H K := by
  obtain ⟨fr', H', h1, h2⟩ := h
  exact ⟨fr', H', by simp only [execOps, hw, M.bind, hx]; exact h1, h2⟩
theorem WpO.skip {o : ROper} {os : List ROper} (hw : o.wanted fr = false) (h : WpO call os (put fr o.dst aundef) H K) : WpO call (o :: os) fr H K := by
  obtain ⟨fr', H', h1, h2⟩ := h
  exact ⟨fr', H', by simp only [execOps, hw]; exact h1, h2⟩
theorem WpO.step {o : ROper} {os : List ROper} (hw : o.wanted fr = true) (hx : WpX o.op call fr H fun v H1 => WpO call os (put fr o.dst v) H1 K) : WpO call (o :: os) fr H K := by
  obtain ⟨v, H1, h1, h2⟩ := hx
  exact WpO.cons hw h1 h2
theorem Wp.skip (h : Q .normal fr H) : Wp call lf .skip fr H Q := ⟨_, _, _, rfl, h⟩
theorem Wp.ret (h : Q .ret fr H) : Wp call lf .ret fr H Q := ⟨_, _, _, rfl, h⟩
theorem Wp.exit {id : Nat} (h : Q (.exit id) fr H) : Wp call lf (.exit id) fr H Q := ⟨_, _, _, rfl, h⟩
theorem Wp.region {ops : List ROper} (h : WpO call ops fr H fun fr' H' => Q .normal fr' H') : Wp call lf (.region ops) fr H Q := by
  obtain ⟨fr', H', h1, h2⟩ := h
  exact ⟨.normal, fr', H', by simp only [RCode.exec, M.bind, h1, M.pure], h2⟩
theorem Wp.seq {a b : RCode} (h : Wp call lf a fr H fun x fr' H' => match x with | .normal => Wp call lf b fr' H' Q | e => Q e fr' H') : Wp call lf (.seq a b) fr H Q := by
  obtain ⟨x, fr', H', h1, h2⟩ := h
  cases x with
  | normal =>
    obtain ⟨x2, fr2, H2, h3, h4⟩ := h2
    exact ⟨x2, fr2, H2, by simp only [RCode.exec, M.bind, h1]; exact h3, h4⟩
  | exit id => exact ⟨.exit id, fr', H', by simp only [RCode.exec, M.bind, h1, M.pure], h2⟩
  | ret => exact ⟨.ret, fr', H', by simp only [RCode.exec, M.bind, h1, M.pure], h2⟩
theorem Wp.cond {c : ROpd} {t e : RCode} {b : Bool} (hc : c.ev fr = .bool b) (h : Wp call lf (cond b t e) fr H Q) : Wp call lf (.cond c t e) fr H Q := by
  obtain ⟨x, fr', H', h1, h2⟩ := h
  refine ⟨x, fr', H', ?_, h2⟩
  simp only [RCode.exec, hc]
  cases b <;> exact h1
theorem Wp.block {id : Nat} {b : RCode} (h : Wp call lf b fr H fun x fr' H' => match x with | .exit id' => (match Nat.beq id' id with | true => Q .normal fr' H' | false => Q (.exit id') fr' H') | e => Q e fr' H') : Wp call lf (.block id b) fr H Q := by
  obtain ⟨x, fr', H', h1, h2⟩ := h
  cases x with
  | normal => exact ⟨.normal, fr', H', by simp only [RCode.exec, M.bind, h1, M.pure], h2⟩
  | ret => exact ⟨.ret, fr', H', by simp only [RCode.exec, M.bind, h1, M.pure], h2⟩
  | exit i =>
    simp only [] at h2
    cases hb : Nat.beq i id with
    | true => rw [hb] at h2; exact ⟨.normal, fr', H', by simp only [RCode.exec, M.bind, h1, M.pure, hb], h2⟩
    | false => rw [hb] at h2; exact ⟨.exit i, fr', H', by simp only [RCode.exec, M.bind, h1, M.pure, hb], h2⟩
theorem Wp.scope {b : RCode} (h : Wp call lf b fr H Q) : Wp call lf (.scope b) fr H Q := h
theorem Wp.loop {b : RCode} (I : Nat → AFrame → AHeap → Prop) (step : ∀ k fr H, I k fr H → Wp call lf b fr H fun x fr' H' => match x with | .normal => ∃ j, j < k ∧ I j fr' H' | e => Q e fr' H') {k : Nat} (hk : k < lf) (h : I k fr H) : Wp call lf (.loop b) fr H Q := by
  have key : ∀ (n k : Nat) (fr : AFrame) (H : AHeap), k < n → I k fr H → ∃ x fr' H', loopN (b.exec call lf) n fr H = some ((x, fr'), H') ∧ Q x fr' H' := by
    intro n
    induction n with
    | zero => intro k fr H hk; omega
    | succ n ih =>
      intro k fr H hk hi
      obtain ⟨x, fr', H', h1, h2⟩ := step k fr H hi
      cases x with
      | normal =>
        obtain ⟨j, hj, hij⟩ := h2
        obtain ⟨x2, fr2, H2, h3, h4⟩ := ih j fr' H' (by omega) hij
        exact ⟨x2, fr2, H2, by simp only [loopN, M.bind, h1]; exact h3, h4⟩
      | exit i => exact ⟨.exit i, fr', H', by simp only [loopN, M.bind, h1, M.pure], h2⟩
      | ret => exact ⟨.ret, fr', H', by simp only [loopN, M.bind, h1, M.pure], h2⟩
  obtain ⟨x, fr', H', h1, h2⟩ := key lf k fr H hk h
  exact ⟨x, fr', H', h1, h2⟩
theorem Wp.mono {c : RCode} {Q' : RExit → AFrame → AHeap → Prop} (h : Wp call lf c fr H Q) (hq : ∀ x fr' H', Q x fr' H' → Q' x fr' H') : Wp call lf c fr H Q' := by
  obtain ⟨x, fr', H', h1, h2⟩ := h
  exact ⟨x, fr', H', h1, hq _ _ _ h2⟩
theorem WpX.enter {f : FuncId} {o : ROpd} {l : List ROpd} {K : AVal → AHeap → Prop} (hf : o.ev fr = .func (.func f) [] []) (h : ∃ v H', call f (l.map (·.ev fr)) H = some (v, H') ∧ K v H') : WpX (.call o l) call fr H K := by
  obtain ⟨v, H', h1, h2⟩ := h
  exact ⟨v, H', by simp only [ROp.exec, hf, aCallV, List.nil_append, List.append_nil]; exact h1, h2⟩
theorem WpX.now {op : ROp} {K : AVal → AHeap → Prop} {v : AVal} {H1 : AHeap} (hx : op.exec call fr H = some (v, H1)) (h : K v H1) : WpX op call fr H K := ⟨v, H1, hx, h⟩
end
end Go.Am

namespace Go.Am
open Go
theorem getp (H : AHeap) (o : AObj) (r : Nat) : (H.push o).get r = if r = H.n then o else H.get r := by
  by_cases h : r = H.n
  · subst h; simp [push_get_eq]
  · simp [AHeap.push, nbeq_ne h, h]
theorem np (H : AHeap) (o : AObj) : (H.push o).n = H.n + 1 := rfl
theorem ns (H : AHeap) (s : Nat) (o : AObj) : (H.set s o).n = H.n := rfl
structure Ext (H H' : AHeap) : Prop where
  n : H.n ≤ H'.n
  get : ∀ r, r < H.n → H'.get r = H.get r
theorem Ext.refl (H : AHeap) : Ext H H := ⟨Nat.le_refl _, fun _ _ => rfl⟩
theorem Ext.trans {a b c : AHeap} (h : Ext a b) (k : Ext b c) : Ext a c := ⟨Nat.le_trans h.n k.n, fun r hr => by rw [k.get r (Nat.lt_of_lt_of_le hr h.n), h.get r hr]⟩
theorem Ext.push {a b : AHeap} (h : Ext a b) (o : AObj) : Ext a (b.push o) := ⟨Nat.le_succ_of_le h.n, fun r hr => by rw [push_get_lt (Nat.lt_of_lt_of_le hr h.n)]; exact h.get r hr⟩
theorem Ext.set {a b : AHeap} (h : Ext a b) {s : Nat} (hs : a.n ≤ s) (o : AObj) : Ext a (b.set s o) := ⟨h.n, fun r hr => by rw [set_get_ne (by omega)]; exact h.get r hr⟩
section
variable {call : ACall} {fr : AFrame} {H : AHeap} {K : AVal → AHeap → Prop} {KF : AFrame → AHeap → Prop}
theorem WpX.load1 {a : ROpd} {r off : Nat} {cs : List AVal} {rw : Bool} {e : TypeId} {v : AVal} (ha : a.ev fr = .ptr r off) (hr : r < H.n) (hg : H.get r = .row cs rw e) (hv : cs[off]? = some v) (h : K v H) : WpX (.load none a) call fr H K :=
  ⟨v, H, by simp only [ROp.exec, ha, aLoad, M.bind, aRow, if_pos hr, hg, hv, M.pure], h⟩
theorem WpX.loadN {a : ROpd} {n r off : Nat} {cs : List AVal} {rw : Bool} {e : TypeId} (ha : a.ev fr = .ptr r off) (hr : r < H.n) (hg : H.get r = .row cs rw e) (hv : off + n ≤ cs.length) (h : K (.agg ((cs.drop off).take n)) H) : WpX (.load (some n) a) call fr H K :=
  ⟨_, H, by simp only [ROp.exec, ha, aLoad, M.bind, aRow, if_pos hr, hg, if_pos hv, M.pure], h⟩
theorem WpX.store {a x : ROpd} {n r off : Nat} {cs : List AVal} {e : TypeId} {v : AVal} (ha : a.ev fr = .ptr r off) (hx : x.ev fr = v) (hn : v.cells.length = n) (hr : r < H.n) (hg : H.get r = .row cs true e) (hl : off + v.cells.length ≤ cs.length) (ho : v.cells.all AVal.one = true)
    (h : K aundef (H.set r (.row (setAt cs off v.cells) true e))) : WpX (.store n a x) call fr H K :=
  ⟨_, _, by simp only [ROp.exec, ha, hx, aStore, if_pos hn, M.bind, aWrite, if_pos hr, hg, Bool.true_and, decide_eq_true hl, ho, if_true, M.pure], h⟩
theorem WpX.box {e : TypeId} {x : ROpd} (h : K (.ptr H.n 0) (H.push (.row (x.ev fr).cells true (2 * e)))) : WpX (.box e x) call fr H K := ⟨_, _, rfl, h⟩
theorem WpX.new {e : TypeId} {cs : List AVal} (h : K (.ptr H.n 0) (H.push (.row cs true (2 * e)))) : WpX (.new e cs) call fr H K := ⟨_, _, rfl, h⟩
end
theorem upd_at (fr : AFrame) (d : Nat) (v : AVal) (i : Nat) : upd fr d v i = if i = d then v else fr i := by
  by_cases h : i = d
  · subst h; simp [upd]
  · simp [upd, nbeq_ne h, h]
section
variable {call : ACall} {fr : AFrame} {H : AHeap} {K : AVal → AHeap → Prop} {KF : AFrame → AHeap → Prop}
theorem WpO.do {d : Nat} {op : ROp} {os : List ROper} (hx : WpX op call fr H fun v H1 => WpO call os (upd fr d v) H1 KF) : WpO call (⟨some d, op, none⟩ :: os) fr H KF := WpO.step rfl hx
theorem WpO.do' {op : ROp} {os : List ROper} (hx : WpX op call fr H fun _ H1 => WpO call os fr H1 KF) : WpO call (⟨none, op, none⟩ :: os) fr H KF := WpO.step rfl hx
theorem wanted_some {fr : AFrame} {d : Option Nat} {op : ROp} {t : Nat} {want b : Bool} (hb : fr t = .bool b) : ROper.wanted fr ⟨d, op, some (t, want)⟩ = (b == want) := by
  simp only [ROper.wanted, hb]
  cases b <;> cases want <;> rfl
theorem WpO.guard {d : Option Nat} {op : ROp} {t : Nat} {want b : Bool} {os : List ROper} (hb : fr t = .bool b) (h1 : b = want → WpO call (⟨d, op, none⟩ :: os) fr H KF) (h2 : b ≠ want → WpO call os (put fr d aundef) H KF) : WpO call (⟨d, op, some (t, want)⟩ :: os) fr H KF := by
  by_cases h : b = want
  · obtain ⟨fr', H', h3, h4⟩ := h1 h
    refine ⟨fr', H', ?_, h4⟩
    have hw1 : ROper.wanted fr ⟨d, op, some (t, want)⟩ = true := by rw [wanted_some hb, h]; simp
    simp only [execOps, hw1]
    simpa only [execOps, ROper.wanted] using h3
  · exact WpO.skip (by rw [wanted_some hb]; simpa using h) (h2 h)
theorem WpX.mov {x : ROpd} (h : K (x.ev fr) H) : WpX (.mov x) call fr H K := ⟨_, _, rfl, h⟩
theorem WpX.geq {x y : ROpd} {k : IntKind} {a b : Int} (hx : x.ev fr = .int k a) (hy : y.ev fr = .int k b) (h : K (.bool (decide (a ≥ b))) H) : WpX (.bin .geq x y) call fr H K := ⟨_, _, by simp only [ROp.exec, hx, hy, aBin, intBin, ne_eq, not_true, if_false, M.ofOption, M.pure], h⟩
theorem WpX.leq {x y : ROpd} {k : IntKind} {a b : Int} (hx : x.ev fr = .int k a) (hy : y.ev fr = .int k b) (h : K (.bool (decide (a ≤ b))) H) : WpX (.bin .leq x y) call fr H K := ⟨_, _, by simp only [ROp.exec, hx, hy, aBin, intBin, ne_eq, not_true, if_false, M.ofOption, M.pure], h⟩
theorem WpX.lss {x y : ROpd} {k : IntKind} {a b : Int} (hx : x.ev fr = .int k a) (hy : y.ev fr = .int k b) (h : K (.bool (decide (a < b))) H) : WpX (.bin .lss x y) call fr H K := ⟨_, _, by simp only [ROp.exec, hx, hy, aBin, intBin, ne_eq, not_true, if_false, M.ofOption, M.pure], h⟩
theorem WpX.gtr {x y : ROpd} {k : IntKind} {a b : Int} (hx : x.ev fr = .int k a) (hy : y.ev fr = .int k b) (h : K (.bool (decide (a > b))) H) : WpX (.bin .gtr x y) call fr H K := ⟨_, _, by simp only [ROp.exec, hx, hy, aBin, intBin, ne_eq, not_true, if_false, M.ofOption, M.pure], h⟩
theorem WpX.eql {x y : ROpd} {k : IntKind} {a b : Int} (hx : x.ev fr = .int k a) (hy : y.ev fr = .int k b) (h : K (.bool (a == b)) H) : WpX (.bin .eql x y) call fr H K := ⟨_, _, by simp only [ROp.exec, hx, hy, aBin, intBin, ne_eq, not_true, if_false, M.ofOption, M.pure], h⟩
theorem WpX.neq {x y : ROpd} {k : IntKind} {a b : Int} (hx : x.ev fr = .int k a) (hy : y.ev fr = .int k b) (h : K (.bool (a != b)) H) : WpX (.bin .neq x y) call fr H K := ⟨_, _, by simp only [ROp.exec, hx, hy, aBin, intBin, ne_eq, not_true, if_false, M.ofOption, M.pure], h⟩
theorem WpX.add {x y : ROpd} {k : IntKind} {a b : Int} (hx : x.ev fr = .int k a) (hy : y.ev fr = .int k b) (h : K (.int k (k.wrap (a + b))) H) : WpX (.bin .add x y) call fr H K := ⟨_, _, by simp only [ROp.exec, hx, hy, aBin, intBin, ne_eq, not_true, if_false, M.ofOption, M.pure], h⟩
theorem WpX.sub {x y : ROpd} {k : IntKind} {a b : Int} (hx : x.ev fr = .int k a) (hy : y.ev fr = .int k b) (h : K (.int k (k.wrap (a - b))) H) : WpX (.bin .sub x y) call fr H K := ⟨_, _, by simp only [ROp.exec, hx, hy, aBin, intBin, ne_eq, not_true, if_false, M.ofOption, M.pure], h⟩
theorem WpX.mul {x y : ROpd} {k : IntKind} {a b : Int} (hx : x.ev fr = .int k a) (hy : y.ev fr = .int k b) (h : K (.int k (k.wrap (a * b))) H) : WpX (.bin .mul x y) call fr H K := ⟨_, _, by simp only [ROp.exec, hx, hy, aBin, intBin, ne_eq, not_true, if_false, M.ofOption, M.pure], h⟩
theorem WpX.not {x : ROpd} {b : Bool} (hx : x.ev fr = .bool b) (h : K (.bool (!b)) H) : WpX (.un .not x) call fr H K := ⟨_, _, by simp only [ROp.exec, hx, aUn, M.ofOption, M.pure], h⟩
theorem WpX.pick {c x y : ROpd} {b : Bool} (hc : c.ev fr = .bool b) (h : K (bif b then x.ev fr else y.ev fr) H) : WpX (.pick c x y) call fr H K := ⟨_, _, by simp only [ROp.exec, hc, M.pure]; cases b <;> rfl, h⟩
theorem WpX.fieldAddr {x : ROpd} {r o off : Nat} (hx : x.ev fr = .ptr r o) (h : K (.ptr r (o + off)) H) : WpX (.fieldAddr off x) call fr H K := ⟨_, _, by simp only [ROp.exec, hx, aFieldAddr, M.ofOption, M.pure], h⟩
theorem WpX.lenS {x : ROpd} {p v : AVal} (hx : x.ev fr = p) (hp : aLenS p = some v) (h : K v H) : WpX (.lenS x) call fr H K := ⟨_, _, by simp only [ROp.exec, hx, hp, M.ofOption, M.pure], h⟩
theorem WpX.convInt {x : ROpd} {k k' : IntKind} {n : Int} (hx : x.ev fr = .int k' n) (h : K (.int k (k.wrap n)) H) : WpX (.convInt k x) call fr H K := ⟨_, _, by simp only [ROp.exec, hx, M.pure], h⟩
theorem WpX.idxS {x i : ROpd} {sz r off len : Nat} {cap : Option Nat} {k : IntKind} {n : Int} (hx : x.ev fr = .slice r off len cap sz) (hi : i.ev fr = .int k n) (h0 : 0 ≤ n) (h1 : n < len) (h : K (.ptr r (off + n.toNat * sz)) H) : WpX (.idxS sz x i) call fr H K :=
  ⟨_, _, by simp only [ROp.exec, hx, hi, aIdxS, true_and, if_pos (And.intro h0 h1), M.ofOption, M.pure], h⟩
theorem WpX.extract {x : ROpd} {i : Nat} {vs : List AVal} {v : AVal} (hx : x.ev fr = .tuple vs) (hv : vs[i]? = some v) (h : K v H) : WpX (.extract x i) call fr H K := ⟨_, _, by simp only [ROp.exec, hx, aExtract, hv, M.ofOption, M.pure], h⟩
theorem WpX.build {z : List AVal} {ps : List (Nat × Nat × ROpd)} {cs : List AVal} (hf : aFill fr z ps = some cs) (h : K (.agg cs) H) : WpX (.build z ps) call fr H K := ⟨_, _, by simp only [ROp.exec, hf, M.pure], h⟩
end
end Go.Am

namespace Go.Am
open Go
class HasRow (H : AHeap) (r : Nat) (cs : outParam (List AVal)) (rw : outParam Bool) (e : outParam TypeId) : Prop where
  lt : r < H.n
  get : H.get r = .row cs rw e
class LtN (r : Nat) (H : AHeap) : Prop where
  lt : r < H.n
class NeR (r s : Nat) : Prop where
  ne : r ≠ s
class ExtI (H : outParam AHeap) (H' : AHeap) : Prop where
  ext : Ext H H'
class GeN (H : outParam AHeap) (r : Nat) : Prop where
  ge : H.n ≤ r
instance {H : AHeap} {r : Nat} {cs : List AVal} {rw : Bool} {e : TypeId} [h : HasRow H r cs rw e] : LtN r H := ⟨h.lt⟩
instance {H : AHeap} {r : Nat} [h : LtN r H] : NeR r H.n := ⟨Nat.ne_of_lt h.lt⟩
instance {H : AHeap} {r : Nat} [h : LtN r H] : NeR H.n r := ⟨fun e => Nat.ne_of_lt h.lt e.symm⟩
instance {H : AHeap} {r s : Nat} [h : LtN r H] [k : GeN H s] : NeR r s := ⟨Nat.ne_of_lt (Nat.lt_of_lt_of_le h.lt k.ge)⟩
instance {H : AHeap} {r s : Nat} [h : LtN r H] [k : GeN H s] : NeR s r := ⟨fun e => Nat.ne_of_lt (Nat.lt_of_lt_of_le h.lt k.ge) e.symm⟩
instance {H H' : AHeap} {r : Nat} {cs : List AVal} {rw : Bool} {e : TypeId} [x : ExtI H H'] [h : HasRow H r cs rw e] : HasRow H' r cs rw e := ⟨Nat.lt_of_lt_of_le h.lt x.ext.n, by rw [x.ext.get r h.lt]; exact h.get⟩
instance {H : AHeap} {o : AObj} {r : Nat} {cs : List AVal} {rw : Bool} {e : TypeId} [h : HasRow H r cs rw e] : HasRow (H.push o) r cs rw e := ⟨Nat.lt_succ_of_lt h.lt, by rw [push_get_lt h.lt]; exact h.get⟩
instance {H : AHeap} {cs : List AVal} {rw : Bool} {e : TypeId} : HasRow (H.push (.row cs rw e)) H.n cs rw e := ⟨Nat.lt_succ_self _, push_get_eq⟩
instance {H : AHeap} {s : Nat} {o : AObj} {r : Nat} {cs : List AVal} {rw : Bool} {e : TypeId} [h : HasRow H r cs rw e] [k : NeR r s] : HasRow (H.set s o) r cs rw e := ⟨h.lt, by rw [set_get_ne k.ne]; exact h.get⟩
instance {H : AHeap} {r : Nat} {cs cs0 : List AVal} {rw rw0 : Bool} {e e0 : TypeId} [h : HasRow H r cs0 rw0 e0] : HasRow (H.set r (.row cs rw e)) r cs rw e := ⟨h.lt, set_get_eq⟩
section
variable {call : ACall} {fr : AFrame} {H : AHeap} {K : AVal → AHeap → Prop} {KF : AFrame → AHeap → Prop}
theorem WpX.ld {a : ROpd} {r off : Nat} {cs : List AVal} {rw : Bool} {e : TypeId} {v : AVal} (ha : a.ev fr = .ptr r off) [hg : HasRow H r cs rw e] (hv : cs[off]? = some v) (h : K v H) : WpX (.load none a) call fr H K := WpX.load1 ha hg.lt hg.get hv h
theorem WpX.ldN {a : ROpd} {n r off : Nat} {cs : List AVal} {rw : Bool} {e : TypeId} {l : List AVal} (ha : a.ev fr = .ptr r off) [hg : HasRow H r cs rw e] (hv : Nat.ble (off + n) cs.length = true) (hl : (cs.drop off).take n = l) (h : K (.agg l) H) : WpX (.load (some n) a) call fr H K :=
  WpX.loadN ha hg.lt hg.get (Nat.le_of_ble_eq_true hv) (by rw [hl]; exact h)
theorem WpX.st {a x : ROpd} {n r off : Nat} {cs : List AVal} {e : TypeId} {v : AVal} {vs l : List AVal} (ha : a.ev fr = .ptr r off) (hx : x.ev fr = v) (hvs : v.cells = vs) (hn : Nat.beq vs.length n = true) [hg : HasRow H r cs true e] (hl : Nat.ble (off + vs.length) cs.length = true) (ho : vs.all AVal.one = true)
    (hs : setAt cs off vs = l) (h : K aundef (H.set r (.row l true e))) : WpX (.store n a x) call fr H K := by
  subst hvs hs
  exact WpX.store ha hx (Nat.eq_of_beq_eq_true hn) hg.lt hg.get (Nat.le_of_ble_eq_true hl) ho h
end
def fuel0 : Nat := 1125899906842624
def Con (ext : Exts) (prog : FuncId → Option RFunc) (d : Nat) (f : FuncId) (args : List AVal) (H : AHeap) (Q : AVal → AHeap → Prop) : Prop :=
  ∀ n, fuel0 + d ≤ n → ∃ v H', callN ext prog n f args H = some (v, H') ∧ Q v H'
theorem Con.evs {ext : Exts} {prog : FuncId → Option RFunc} {d : Nat} {f : FuncId} {args : List AVal} {H : AHeap} {Q : AVal → AHeap → Prop} (h : Con ext prog d f args H Q) : Evs ext prog f args H Q := ⟨fuel0 + d, h⟩
theorem Con.mono {ext : Exts} {prog : FuncId → Option RFunc} {d : Nat} {f : FuncId} {args : List AVal} {H : AHeap} {Q Q' : AVal → AHeap → Prop} (h : Con ext prog d f args H Q) (hq : ∀ v H', Q v H' → Q' v H') : Con ext prog d f args H Q' := fun n hn => by
  obtain ⟨v, H', h1, h2⟩ := h n hn
  exact ⟨v, H', h1, hq _ _ h2⟩
theorem con_of {ext : Exts} {prog : FuncId → Option RFunc} {d : Nat} {f : FuncId} {rf : RFunc} {c : RCode} {args : List AVal} {H : AHeap} {Q : AVal → AHeap → Prop} (hp : prog f = some rf) (hc : rf.body = .code c) (hn : Nat.ble args.length rf.nt = true)
    (h : ∀ n, fuel0 + d ≤ n → Wp (callN ext prog n) n c (argFrame args) H fun x fr' H' => (match x with | .exit _ => False | _ => True) ∧ ∃ vs, getAll fr' rf.results H' = some (vs, H') ∧ Q (aResult vs) H') : Con ext prog (d + 1) f args H Q := by
  intro n hle
  obtain ⟨k, rfl⟩ : ∃ k, n = k + 1 := ⟨n - 1, by unfold fuel0 at hle; omega⟩
  obtain ⟨nt, body, res⟩ := rf
  simp only [] at hc
  subst hc
  obtain ⟨x, fr', H', h1, h2, vs, h3, h4⟩ := h k (by omega)
  refine ⟨aResult vs, H', ?_, h4⟩
  have hlt : ¬ nt < args.length := by have := Nat.le_of_ble_eq_true hn; simp only at this; omega
  simp only [callN, hp, RFunc.run, if_neg hlt, M.bind, h1]
  cases x with
  | exit i => exact h2.elim
  | normal => simp only [M.bind, h3, M.pure]
  | ret => simp only [M.bind, h3, M.pure]
theorem WpX.con {ext : Exts} {prog : FuncId → Option RFunc} {n d : Nat} {f : FuncId} {o : ROpd} {l : List ROpd} {args : List AVal} {fr : AFrame} {H : AHeap} {K Q : AVal → AHeap → Prop} (hc : Con ext prog d f args H Q) (hd : fuel0 + d ≤ n) (hf : o.ev fr = .func (.func f) [] []) (hl : l.map (·.ev fr) = args)
    (h : ∀ v H', Q v H' → K v H') : WpX (.call o l) (callN ext prog n) fr H K := by
  obtain ⟨v, H', h1, h2⟩ := hc n hd
  exact WpX.enter hf ⟨v, H', by rw [hl]; exact h1, h _ _ h2⟩
end Go.Am

namespace Go.Am
open Go
mutual
theorem abeq_refl : ∀ (v : AVal), abeq v v = true
  | .bool b => by simp [abeq]
  | .int k n => by simp [abeq]
  | .str s => by simp [abeq]
  | .nptr => by simp [abeq]
  | .ptr r o => by simp [abeq]
  | .nslice => by simp [abeq]
  | .slice r o l c z => by simp [abeq]
  | .nfunc => by simp [abeq]
  | .func f a b => by simp [abeq, abeqL_refl a, abeqL_refl b]
  | .niface => by simp [abeq]
  | .iface t v => by simp [abeq, abeq_refl v]
  | .agg l => by simp [abeq, abeqL_refl l]
  | .tuple l => by simp [abeq, abeqL_refl l]
  | .yield r => by simp [abeq]
  | .eslice r o l z => by simp [abeq]
  | .map r => by simp [abeq]
  | .nmap => rfl
theorem abeqL_refl : ∀ (l : List AVal), abeqL l l = true
  | [] => by simp [abeqL]
  | v :: l => by simp [abeqL, abeq_refl v, abeqL_refl l]
end
theorem okAt_look {r : DRec} {H : AHeap} (hc : Nat.beq r.cls 3 = false) (hx : r.o.op.look r.fr H = some r.v) : r.okAt H = true := by
  simp only [DRec.okAt, hc, hx, abeq_refl]
theorem okAt_read {r : DRec} {H : AHeap} (hc : Nat.beq r.cls 3 = false) (hx : r.o.op.exec noCall r.fr H = some (r.v, H)) : r.okAt H = true := okAt_look hc (look_of hx rfl)
def Good (r : DRec) (k : Nat) (R0 : List DRec) (H0 cur : AHeap) (may : Bool) : Prop := ∀ rest, r.chk k rest R0.length cur may = true → r.chk k (R0 ++ rest) 0 H0 true = true
theorem Good.nil {r : DRec} {k : Nat} {H0 : AHeap} : Good r k [] H0 H0 true := fun _ h => h
theorem Good.other {r : DRec} {k : Nat} {R0 : List DRec} {H0 cur : AHeap} {may : Bool} {e : DRec} (h : Good r k R0 H0 cur may) (he : e.eff = false) : Good r k (R0 ++ [e]) H0 cur may := fun rest hr => by
  rw [List.append_assoc]
  refine h _ ?_
  simp only [List.singleton_append, DRec.chk, he]
  simpa using hr
theorem Good.effect {r : DRec} {k : Nat} {R0 : List DRec} {H0 cur : AHeap} {may : Bool} {e : DRec} (h : Good r k R0 H0 cur may) (he : e.eff = true) (hok : may = false ∨ r.b.testBit R0.length = true ∨ r.okAt cur = true) : Good r k (R0 ++ [e]) H0 e.hp (!(e.b.testBit k)) := fun rest hr => by
  rw [List.append_assoc]
  refine h _ ?_
  simp only [List.singleton_append, DRec.chk, he, Bool.and_eq_true, Bool.or_eq_true, Bool.not_eq_true']
  refine ⟨?_, by simpa using hr⟩
  rcases hok with h | h | h
  · exact Or.inl (Or.inl h)
  · exact Or.inl (Or.inr h)
  · exact Or.inr h
structure DInv (R0 : List DRec) (H0 H : AHeap) (E : List (Nat × AHeap)) (Rd : List (Nat × DRec)) : Prop where
  good : ∀ r k, (∀ p ∈ E, r.b.testBit p.1 = true ∨ r.okAt p.2 = true) → ∃ m, Good r k R0 H0 H m
  reads : ∀ j r, R0[j]? = some r → r.want = true → (Nat.beq r.cls 1 || Nat.beq r.cls 3) = true → (j, r) ∈ Rd
  ok : ∀ p ∈ Rd, ∃ m, Good p.2 p.1 R0 H0 H m ∧ (m = true → p.2.okAt H = true)
theorem DInv.nil (H0 : AHeap) : DInv [] H0 H0 [] [] := ⟨fun _ _ _ => ⟨true, Good.nil⟩, fun j r h => by simp at h, fun p hp => by simp at hp⟩
theorem DInv.done {R0 : List DRec} {H0 H : AHeap} {E : List (Nat × AHeap)} {Rd : List (Nat × DRec)} (h : DInv R0 H0 H E Rd) : dcheck R0 H0 R0 0 = true := by
  have key : ∀ (rs : List DRec) (k : Nat), (∀ j r, rs[j]? = some r → R0[k + j]? = some r) → dcheck R0 H0 rs k = true := by
    intro rs
    induction rs with
    | nil => intro k _; rfl
    | cons r rs ih =>
      intro k hk
      simp only [dcheck, Bool.and_eq_true]
      refine ⟨?_, ih (k + 1) fun j q hq => by have := hk (j + 1) q (by simpa using hq); rwa [show k + 1 + j = k + (j + 1) by omega]⟩
      cases hc : (r.want && (Nat.beq r.cls 1 || Nat.beq r.cls 3)) with
      | false => rfl
      | true =>
        simp only [Bool.and_eq_true] at hc
        have hr : R0[k]? = some r := by simpa using hk 0 r rfl
        obtain ⟨m, h1, h2⟩ := h.ok _ (h.reads k r hr hc.1 hc.2)
        have h3 := h1 [] (by simp only [DRec.chk, Bool.or_eq_true, Bool.not_eq_true']; cases m <;> simp_all)
        simpa using h3
  exact key R0 0 fun j r hj => by simpa using hj
theorem get_snoc {R0 : List DRec} {e r : DRec} {j : Nat} (h : (R0 ++ [e])[j]? = some r) : R0[j]? = some r ∨ (j = R0.length ∧ r = e) := by
  by_cases hj : j < R0.length
  · rw [List.getElem?_append_left hj] at h; exact Or.inl h
  · rw [List.getElem?_append_right (by omega)] at h
    cases hq : j - R0.length with
    | zero => rw [hq] at h; simp at h; exact Or.inr ⟨by omega, h.symm⟩
    | succ q => rw [hq] at h; simp at h
theorem DInv.plain {R0 : List DRec} {H0 H : AHeap} {E : List (Nat × AHeap)} {Rd : List (Nat × DRec)} {e : DRec} (h : DInv R0 H0 H E Rd) (he : e.eff = false) (hn : (e.want && (Nat.beq e.cls 1 || Nat.beq e.cls 3)) = false) : DInv (R0 ++ [e]) H0 H E Rd := by
  refine ⟨fun r k hr => by obtain ⟨m, hm⟩ := h.good r k hr; exact ⟨m, hm.other he⟩, fun j r hj hw hc => ?_, fun p hp => by obtain ⟨m, h1, h2⟩ := h.ok p hp; exact ⟨m, h1.other he, h2⟩⟩
  rcases get_snoc hj with h1 | ⟨_, rfl⟩
  · exact h.reads j r h1 hw hc
  · rw [hw, hc] at hn; cases hn
theorem DInv.read {R0 : List DRec} {H0 H : AHeap} {E : List (Nat × AHeap)} {Rd : List (Nat × DRec)} {e : DRec} (h : DInv R0 H0 H E Rd) (he : e.eff = false) (hok : e.okAt H = true) (hE : ∀ p ∈ E, e.b.testBit p.1 = true ∨ e.okAt p.2 = true) : DInv (R0 ++ [e]) H0 H E (Rd ++ [(R0.length, e)]) := by
  refine ⟨fun r k hr => by obtain ⟨m, hm⟩ := h.good r k hr; exact ⟨m, hm.other he⟩, fun j r hj hw hc => ?_, fun p hp => ?_⟩
  · rcases get_snoc hj with h1 | ⟨rfl, rfl⟩
    · exact List.mem_append_left _ (h.reads j r h1 hw hc)
    · simp
  · rcases List.mem_append.1 hp with hp | hp
    · obtain ⟨m, h1, h2⟩ := h.ok p hp; exact ⟨m, h1.other he, h2⟩
    · simp only [List.mem_singleton] at hp; subst hp
      obtain ⟨m, hm⟩ := h.good e R0.length hE
      exact ⟨m, hm.other he, fun _ => hok⟩
theorem DInv.effect {R0 : List DRec} {H0 H : AHeap} {E : List (Nat × AHeap)} {Rd : List (Nat × DRec)} {e : DRec} (h : DInv R0 H0 H E Rd) (he : e.eff = true) (hn : (Nat.beq e.cls 1 || Nat.beq e.cls 3) = false)
    (hR : ∀ p ∈ Rd, e.b.testBit p.1 = true ∨ p.2.okAt e.hp = true) : DInv (R0 ++ [e]) H0 e.hp (E ++ [(R0.length, H)]) Rd := by
  refine ⟨fun r k hr => ?_, fun j r hj hw hc => ?_, fun p hp => ?_⟩
  · obtain ⟨m, hm⟩ := h.good r k fun p hp => hr p (List.mem_append_left _ hp)
    exact ⟨_, hm.effect he (Or.inr (hr (R0.length, H) (by simp)))⟩
  · rcases get_snoc hj with h1 | ⟨_, rfl⟩
    · exact h.reads j r h1 hw hc
    · rw [hc] at hn; cases hn
  · obtain ⟨m, h1, h2⟩ := h.ok p hp
    refine ⟨_, h1.effect he (by cases m with | false => exact Or.inl rfl | true => exact Or.inr (Or.inr (h2 rfl))), fun hm => ?_⟩
    rcases hR p hp with h3 | h3
    · rw [h3] at hm; cases hm
    · exact h3
def readOk (op : ROp) (fr : AFrame) (v : AVal) (H : AHeap) : Bool := match op.look fr H with
  | some v' => abeq v' v
  | none => false
theorem readOk_eq {r : DRec} (hc : Nat.beq r.cls 3 = false) : r.okAt = readOk r.o.op r.fr r.v := by
  funext H
  unfold DRec.okAt readOk
  rw [hc]
  rfl
theorem readOk_look {op : ROp} {fr : AFrame} {v : AVal} {H : AHeap} (h : op.look fr H = some v) : readOk op fr v H = true := by
  unfold readOk
  rw [h]
  simp [abeq_refl]
theorem readOk_of {op : ROp} {fr : AFrame} {v : AVal} {H : AHeap} (h : op.exec noCall fr H = some (v, H)) : readOk op fr v H = true := readOk_look (look_of h rfl)
def WpD (call : ACall) (n : Nat) (its : List DItem) (H0 : AHeap) (E : List (Nat × AHeap)) (Rd : List (Nat × (AHeap → Bool))) (fr : AFrame) (H : AHeap) (K : AFrame → AHeap → Prop) : Prop :=
  ∀ R0 Rd0 ref, R0.length = n → (Rd0.map fun (p : Nat × DRec) => (p.1, p.2.okAt)) = Rd → DInv R0 H0 H E Rd0 → ∃ R1 fr' H', dtext call its ref fr H = some (R1, fr', H') ∧ dcheck (R0 ++ R1) H0 (R0 ++ R1) 0 = true ∧ K fr' H'
section
variable {call : ACall} {lf n : Nat} {its : List DItem} {H0 H H1 : AHeap} {E : List (Nat × AHeap)} {Rd : List (Nat × (AHeap → Bool))} {fr : AFrame} {K : AFrame → AHeap → Prop} {Q : RExit → AFrame → AHeap → Prop} {op : ROp} {v : AVal} {b : Nat} {pre : Bool}
theorem WpD.nil (h : K fr H) : WpD call n [] H0 E Rd fr H K := fun R0 Rd0 ref _ _ hI => ⟨[], fr, H, rfl, by rw [List.append_nil]; exact hI.done, h⟩
theorem WpD.next {it : DItem} {R0 : List DRec} {ref : Nat} {r : DRec} {E' : List (Nat × AHeap)} {Rd' : List (Nat × (AHeap → Bool))} {Rd0' : List (Nat × DRec)} {fr1 : AFrame} (hn : R0.length = n) (hrd : (Rd0'.map fun (p : Nat × DRec) => (p.1, p.2.okAt)) = Rd')
    (hI : DInv (R0 ++ [r]) H0 H1 E' Rd0') (hd : ∀ R1 fr' H', dtext call its (nextRef it.cls ref) fr1 H1 = some (R1, fr', H') → dtext call (it :: its) ref fr H = some (r :: R1, fr', H')) (h : WpD call (n + 1) its H0 E' Rd' fr1 H1 K) :
    ∃ R1 fr' H', dtext call (it :: its) ref fr H = some (R1, fr', H') ∧ dcheck (R0 ++ R1) H0 (R0 ++ R1) 0 = true ∧ K fr' H' := by
  obtain ⟨R1, fr', H', h1, h2, h3⟩ := h (R0 ++ [r]) Rd0' (nextRef it.cls ref) (by simp [hn]) hrd hI
  exact ⟨r :: R1, fr', H', hd _ _ _ h1, by rw [List.append_assoc] at h2; exact h2, h3⟩
theorem WpD.pure {d : Option Nat} (hx : op.exec noCall fr H = some (v, H)) (h : WpD call (n + 1) its H0 E Rd (put fr d v) H K) : WpD call n (⟨⟨d, op, none⟩, b, 0, pre⟩ :: its) H0 E Rd fr H K := fun R0 Rd0 ref hn hrd hI =>
  WpD.next (r := ⟨⟨d, op, none⟩, b, 0, fr, v, true, false, H, ref⟩) hn hrd (hI.plain rfl rfl) (fun R1 fr' H' hd => by
    simp only [dtext, ROper.wanted, dstep, look_of hx rfl]
    simp only [Nat.beq, nextRef] at hd ⊢
    simp [hd]) h
theorem WpD.read {d : Option Nat} (hx : op.exec noCall fr H = some (v, H)) (hE : ∀ p ∈ E, b.testBit p.1 = true ∨ op.exec noCall fr p.2 = some (v, p.2)) (h : WpD call (n + 1) its H0 E (Rd ++ [(n, readOk op fr v)]) (put fr d v) H K) : WpD call n (⟨⟨d, op, none⟩, b, 1, pre⟩ :: its) H0 E Rd fr H K := fun R0 Rd0 ref hn hrd hI =>
  WpD.next (r := ⟨⟨d, op, none⟩, b, 1, fr, v, true, false, H, ref⟩) (Rd0' := Rd0 ++ [(R0.length, ⟨⟨d, op, none⟩, b, 1, fr, v, true, false, H, ref⟩)]) hn (by
      rw [List.map_append, hrd]
      simp only [List.map_cons, List.map_nil, hn]
      rw [readOk_eq rfl])
    (hI.read rfl (okAt_read rfl hx) (fun p hp => (hE p hp).imp id fun q => okAt_read rfl q)) (fun R1 fr' H' hd => by
    simp only [dtext, ROper.wanted, dstep, look_of hx rfl]
    simp only [Nat.beq, nextRef] at hd ⊢
    simp [hd]) h
theorem WpD.effect {d : Option Nat} (hx : op.exec call fr H = some (v, H1)) (hR : ∀ p ∈ Rd, b.testBit p.1 = true ∨ p.2 H1 = true) (h : WpD call (n + 1) its H0 (E ++ [(n, H)]) Rd (put fr d v) H1 K) : WpD call n (⟨⟨d, op, none⟩, b, 2, pre⟩ :: its) H0 E Rd fr H K := fun R0 Rd0 ref hn hrd hI =>
  WpD.next (r := ⟨⟨d, op, none⟩, b, 2, fr, v, true, true, H1, ref⟩) (E' := E ++ [(n, H)]) hn hrd (by
      have := hI.effect (e := ⟨⟨d, op, none⟩, b, 2, fr, v, true, true, H1, ref⟩) rfl rfl fun p hp => hR (p.1, p.2.okAt) (by rw [← hrd]; exact List.mem_map.2 ⟨p, hp, rfl⟩)
      rw [hn] at this; exact this) (fun R1 fr' H' hd => by
    simp only [dtext, ROper.wanted, dstep, hx]
    simp only [Nat.beq, nextRef] at hd ⊢
    simp [hd]) h
theorem oracle_none : ∀ (its : List DItem) (ref : Nat) (fr : AFrame) (H : AHeap), (its.all fun it => !(Nat.beq it.cls 3)) = true → oracle its ref fr H = [] := fun its ref fr H h => by
  have hc : cnt3 its = 0 := by
    induction its with
    | nil => rfl
    | cons it its ih =>
      simp only [List.all_cons, Bool.and_eq_true, Bool.not_eq_true'] at h
      simp only [cnt3, h.1, ih h.2]
  exact List.eq_nil_of_length_eq_zero (by rw [oracle_length, hc])
theorem Wp.dregion (hno : (its.all fun it => !(Nat.beq it.cls 3)) = true) (h : WpD call 0 its H [] [] fr H fun fr' H' => Q .normal fr' H') : Wp call lf (.dregion its) fr H Q := by
  obtain ⟨R1, fr', H', h1, h2, h3⟩ := h [] [] H.n rfl rfl (DInv.nil H)
  refine ⟨.normal, fr', H', ?_, h3⟩
  simp only [RCode.exec, oracle_none its H.n fr H hno, pushAll, h1]
  simp only [List.nil_append] at h2
  rw [h2]
end
end Go.Am

namespace Go.Am
open Go
def cellsB (l : List UInt8) : List AVal := l.map fun b => .int .u8 b.toNat
inductive BytesAt (H : AHeap) : AVal → List UInt8 → Prop
  | nil : BytesAt H .nslice []
  | slice {r off : Nat} {cap : Option Nat} {cs : List AVal} {rw : Bool} {e : TypeId} {l : List UInt8} (hr : r < H.n) (hg : H.get r = .row cs rw e) (hl : off + l.length ≤ cs.length) (hc : (cs.drop off).take l.length = cellsB l) : BytesAt H (.slice r off l.length cap 1) l
theorem BytesAt.ext {H H' : AHeap} {p : AVal} {l : List UInt8} (h : BytesAt H p l) (x : Ext H H') : BytesAt H' p l := by
  cases h with
  | nil => exact .nil
  | slice hr hg hl hc => exact .slice (Nat.lt_of_lt_of_le hr x.n) (by rw [x.get _ hr]; exact hg) hl hc
theorem BytesAt.len {H : AHeap} {p : AVal} {l : List UInt8} (h : BytesAt H p l) : aLenS p = some (.int .i64 l.length) := by
  cases h <;> rfl
theorem cellsB_length (l : List UInt8) : (cellsB l).length = l.length := by simp [cellsB]
def NewS (H : AHeap) (q : AVal) : Prop := ∀ r off len cap sz, q = .slice r off len cap sz → H.n ≤ r
theorem NewS.mono {H H' : AHeap} {q : AVal} (h : NewS H' q) (hn : H.n ≤ H'.n) : NewS H q := fun r off len cap sz e => Nat.le_trans hn (h r off len cap sz e)
theorem BytesAt.set {H : AHeap} {q : AVal} {l : List UInt8} (h : BytesAt H q l) {s : Nat} (hs : ∀ r off len cap sz, q = .slice r off len cap sz → r ≠ s) (o : AObj) : BytesAt (H.set s o) q l := by
  cases h with
  | nil => exact .nil
  | slice hr hg hl hc => exact .slice hr (by rw [set_get_ne (hs _ _ _ _ _ rfl)]; exact hg) hl hc
theorem exec_ld {call : ACall} {fr : AFrame} {H : AHeap} {a : ROpd} {r off : Nat} {cs : List AVal} {rw : Bool} {e : TypeId} {v : AVal} (ha : a.ev fr = .ptr r off) [hg : HasRow H r cs rw e] (hv : cs[off]? = some v) : (ROp.load none a).exec call fr H = some (v, H) := by
  simp only [ROp.exec, ha, aLoad, M.bind, aRow, if_pos hg.lt, hg.get, hv, M.pure]
theorem exec_st {call : ACall} {fr : AFrame} {H : AHeap} {a x : ROpd} {n r off : Nat} {cs : List AVal} {e : TypeId} {v : AVal} {vs l : List AVal} (ha : a.ev fr = .ptr r off) (hx : x.ev fr = v) (hvs : v.cells = vs) (hn : Nat.beq vs.length n = true) [hg : HasRow H r cs true e] (hl : Nat.ble (off + vs.length) cs.length = true) (ho : vs.all AVal.one = true)
    (hs : setAt cs off vs = l) : (ROp.store n a x).exec call fr H = some (aundef, H.set r (.row l true e)) := by
  subst hvs hs
  simp only [ROp.exec, ha, hx, aStore, if_pos (Nat.eq_of_beq_eq_true hn), M.bind, aWrite, if_pos hg.lt, hg.get, Bool.true_and, decide_eq_true (Nat.le_of_ble_eq_true hl), ho, if_true, M.pure]
theorem exec_con {ext : Exts} {prog : FuncId → Option RFunc} {n d : Nat} {f : FuncId} {o : ROpd} {l : List ROpd} {args : List AVal} {fr : AFrame} {H : AHeap} {Q : AVal → AHeap → Prop} (hc : Con ext prog d f args H Q) (hd : fuel0 + d ≤ n) (hf : o.ev fr = .func (.func f) [] []) (hl : l.map (·.ev fr) = args) :
    ∃ v H', (ROp.call o l).exec (callN ext prog n) fr H = some (v, H') ∧ Q v H' := by
  obtain ⟨v, H', h1, h2⟩ := hc n hd
  exact ⟨v, H', by simp only [ROp.exec, hf, hl, aCallV, List.nil_append, List.append_nil]; exact h1, h2⟩
end Go.Am

namespace Go.Am
open Go
def memN (d : Nat) : List Nat → Bool
  | [] => false
  | x :: xs => cond (Nat.beq d x) true (memN d xs)
def dstIn (D : List Nat) : Option Nat → Bool
  | some d => memN d D
  | none => true
def opsIn (D : List Nat) : List ROper → Bool
  | [] => true
  | o :: os => cond (dstIn D o.dst) (opsIn D os) false
def itsIn (D : List Nat) : List DItem → Bool
  | [] => true
  | o :: os => cond (dstIn D o.o.dst) (itsIn D os) false
def RCode.within (D : List Nat) : RCode → Bool
  | .region ops => opsIn D ops
  | .dregion its => itsIn D its
  | .seq a b => _root_.cond (a.within D) (b.within D) false
  | .cond _ t e => _root_.cond (t.within D) (e.within D) false
  | .block _ b => b.within D
  | .loop b => b.within D
  | .scope b => b.within D
  | .rangeFunc .. => false
  | _ => true
theorem cond_tt {a b : Bool} (h : cond a b false = true) : a = true ∧ b = true := by cases a <;> simp_all
theorem put_off {D : List Nat} {d : Option Nat} (h : dstIn D d = true) {t : Nat} (ht : memN t D = false) (fr : AFrame) (v : AVal) : put fr d v t = fr t := by
  cases d with
  | none => rfl
  | some d =>
    have hne : Nat.beq t d = false := by
      cases hb : Nat.beq t d with
      | false => rfl
      | true => rw [Nat.eq_of_beq_eq_true hb] at ht; simp only [dstIn] at h; rw [h] at ht; cases ht
    simp only [put, upd, hne, cond_false]
theorem execOps_off {call : ACall} {D : List Nat} : ∀ {ops : List ROper} {fr fr' : AFrame} {H H' : AHeap}, opsIn D ops = true → execOps call ops fr H = some (fr', H') → ∀ t, memN t D = false → fr' t = fr t := by
  intro ops
  induction ops with
  | nil => intro fr fr' H H' _ h t _; cases h; rfl
  | cons o os ih =>
    intro fr fr' H H' hD h t ht
    obtain ⟨hd, hos⟩ := cond_tt hD
    simp only [execOps] at h
    cases hw : o.wanted fr with
    | true =>
      rw [hw] at h
      obtain ⟨v, H1, h1, h2⟩ := bind_some h
      rw [ih hos h2 t ht, put_off hd ht]
    | false =>
      rw [hw] at h
      rw [ih hos h t ht, put_off hd ht]
theorem dtext_off {call : ACall} {D : List Nat} : ∀ {its : List DItem} {ref : Nat} {fr fr' : AFrame} {H H' : AHeap} {R : List DRec}, itsIn D its = true → dtext call its ref fr H = some (R, fr', H') → ∀ t, memN t D = false → fr' t = fr t := by
  intro its
  induction its with
  | nil => intro ref fr fr' H H' R _ h t _; cases h; rfl
  | cons o os ih =>
    intro ref fr fr' H H' R hD h t ht
    obtain ⟨hd, hos⟩ := cond_tt hD
    simp only [dtext] at h
    cases hw : o.o.wanted fr with
    | true =>
      rw [hw] at h
      simp only [] at h
      cases hs : dstep call o ref fr H with
      | none => rw [hs] at h; cases h
      | some p =>
        obtain ⟨v, eff, H1⟩ := p
        rw [hs] at h
        simp only [] at h
        cases hr : dtext call os (nextRef o.cls ref) (put fr o.o.dst v) H1 with
        | none => rw [hr] at h; cases h
        | some q =>
          obtain ⟨R1, f1, H2⟩ := q
          rw [hr] at h
          cases h
          rw [ih hos hr t ht, put_off hd ht]
    | false =>
      rw [hw] at h
      simp only [] at h
      cases hr : dtext call os (nextRef o.cls ref) (put fr o.o.dst aundef) H with
      | none => rw [hr] at h; cases h
      | some q =>
        obtain ⟨R1, f1, H2⟩ := q
        rw [hr] at h
        cases h
        rw [ih hos hr t ht, put_off hd ht]
theorem exec_off {call : ACall} {lf : Nat} {D : List Nat} : ∀ {c : RCode} {fr fr' : AFrame} {H H' : AHeap} {x : RExit}, c.within D = true → c.exec call lf fr H = some ((x, fr'), H') → ∀ t, memN t D = false → fr' t = fr t := by
  intro c
  induction c with
  | skip => intro fr fr' H H' x _ h t _; cases h; rfl
  | label => intro fr fr' H H' x _ h t _; cases h; rfl
  | exit id => intro fr fr' H H' x _ h t _; cases h; rfl
  | ret => intro fr fr' H H' x _ h t _; cases h; rfl
  | fail => intro fr fr' H H' x _ h t _; cases h
  | region ops =>
    intro fr fr' H H' x hD h t ht
    obtain ⟨f1, H1, h1, h2⟩ := bind_some h
    cases h2
    exact execOps_off hD h1 t ht
  | dregion its =>
    intro fr fr' H H' x hD h t ht
    simp only [RCode.exec] at h
    split at h
    · rename_i R f1 H1 hd
      split at h
      · cases h; exact dtext_off hD hd t ht
      · cases h
    · cases h
  | seq a b iha ihb =>
    intro fr fr' H H' x hD h t ht
    obtain ⟨hda, hdb⟩ := cond_tt hD
    obtain ⟨⟨y, f1⟩, H1, h1, h2⟩ := bind_some h
    cases y with
    | normal => rw [ihb hdb h2 t ht, iha hda h1 t ht]
    | exit id => cases h2; exact iha hda h1 t ht
    | ret => cases h2; exact iha hda h1 t ht
  | cond c a b iha ihb =>
    intro fr fr' H H' x hD h t ht
    obtain ⟨hda, hdb⟩ := cond_tt hD
    simp only [RCode.exec] at h
    cases hc : c.ev fr with
    | bool b0 =>
      rw [hc] at h
      cases b0 with
      | true => exact iha hda h t ht
      | false => exact ihb hdb h t ht
    | _ => rw [hc] at h; cases h
  | block id b ih =>
    intro fr fr' H H' x hD h t ht
    obtain ⟨⟨y, f1⟩, H1, h1, h2⟩ := bind_some h
    cases y with
    | normal => cases h2; exact ih hD h1 t ht
    | ret => cases h2; exact ih hD h1 t ht
    | exit i =>
      simp only [] at h2
      cases hb : Nat.beq i id with
      | true => rw [hb] at h2; cases h2; exact ih hD h1 t ht
      | false => rw [hb] at h2; cases h2; exact ih hD h1 t ht
  | scope b ih => intro fr fr' H H' x hD h t ht; exact ih hD h t ht
  | rangeFunc fns nt g ps a b _ _ => intro fr fr' H H' x hD; cases hD
  | loop b ih =>
    intro fr fr' H H' x hD h t ht
    have key : ∀ (n : Nat) (fr fr' : AFrame) (H H' : AHeap) (x : RExit), loopN (b.exec call lf) n fr H = some ((x, fr'), H') → fr' t = fr t := by
      intro n
      induction n with
      | zero => intro fr fr' H H' x h; cases h
      | succ n ihn =>
        intro fr fr' H H' x h
        obtain ⟨⟨y, f1⟩, H1, h1, h2⟩ := bind_some h
        cases y with
        | normal => rw [ihn _ _ _ _ _ h2, ih hD h1 t ht]
        | exit i => cases h2; exact ih hD h1 t ht
        | ret => cases h2; exact ih hD h1 t ht
    exact key lf fr fr' H H' x h
def mix : List Nat → AFrame → AFrame → AFrame
  | [], _, fr => fr
  | d :: D, g, fr => upd (mix D g fr) d (g d)
def updL : List (Nat × AVal) → AFrame → AFrame
  | [], fr => fr
  | p :: l, fr => upd (updL l fr) p.1 p.2
def agrees : List (Nat × AVal) → AFrame → Prop
  | [], _ => True
  | p :: l, fr => fr p.1 = p.2 ∧ agrees l fr
def keysIn (D : List Nat) : List (Nat × AVal) → Bool
  | [] => true
  | p :: l => cond (memN p.1 D) (keysIn D l) false
theorem mix_off {D : List Nat} {t : Nat} (h : memN t D = false) (g fr : AFrame) : mix D g fr t = fr t := by
  induction D with
  | nil => rfl
  | cons d D ih =>
    simp only [memN] at h
    cases hb : Nat.beq t d with
    | true => rw [hb] at h; cases h
    | false => rw [hb] at h; simp only [mix, upd, hb, cond_false]; exact ih h
theorem mix_on {D : List Nat} {t : Nat} (h : memN t D = true) (g fr : AFrame) : mix D g fr t = g t := by
  induction D with
  | nil => cases h
  | cons d D ih =>
    simp only [memN] at h
    cases hb : Nat.beq t d with
    | true => simp only [mix, upd, hb, cond_true]; rw [Nat.eq_of_beq_eq_true hb]
    | false => rw [hb] at h; simp only [mix, upd, hb, cond_false]; exact ih h
theorem updL_agrees {l : List (Nat × AVal)} {fr : AFrame} (h : agrees l fr) : updL l fr = fr := by
  induction l with
  | nil => rfl
  | cons p l ih =>
    simp only [updL, ih h.2]
    funext i
    cases hb : Nat.beq i p.1 with
    | true => simp only [upd, hb, cond_true]; rw [Nat.eq_of_beq_eq_true hb]; exact h.1.symm
    | false => simp only [upd, hb, cond_false]
theorem updL_off {D : List Nat} {l : List (Nat × AVal)} (hk : keysIn D l = true) {t : Nat} (h : memN t D = false) (fr : AFrame) : updL l fr t = fr t := by
  induction l with
  | nil => rfl
  | cons p l ih =>
    obtain ⟨h1, h2⟩ := cond_tt hk
    cases hb : Nat.beq t p.1 with
    | true => rw [← Nat.eq_of_beq_eq_true hb, h] at h1; cases h1
    | false => simp only [updL, upd, hb, cond_false]; exact ih h2
theorem mix_self {D : List Nat} {f fr : AFrame} (h : ∀ t, memN t D = false → f t = fr t) : mix D f fr = f := by
  funext t
  cases hm : memN t D with
  | true => exact mix_on hm f fr
  | false => rw [mix_off hm, h t hm]
section
variable {call : ACall} {lf : Nat} {fr : AFrame} {H : AHeap} {Q : RExit → AFrame → AHeap → Prop} {K : AFrame → AHeap → Prop}
theorem Wp.loopS {σ : Type} {b : RCode} (D : List Nat) (vals : σ → List (Nat × AVal)) (I : AHeap → σ → AHeap → Prop) (μ : σ → Nat) (s0 : σ) (hD : b.within D = true) (hk : ∀ s, keysIn D (vals s) = true)
    (ha : agrees (vals s0) fr) (hi : I H s0 H) (hμ : μ s0 < lf)
    (step : ∀ s g H1, I H s H1 → Wp call lf b (updL (vals s) (mix D g fr)) H1 fun x fr' H' => match x with | .normal => ∃ s', μ s' < μ s ∧ agrees (vals s') fr' ∧ I H s' H' | e => Q e fr' H') : Wp call lf (.loop b) fr H Q := by
  refine Wp.loop (fun k f H1 => ∃ s g, k = μ s ∧ I H s H1 ∧ f = updL (vals s) (mix D g fr)) ?_ hμ ⟨s0, fr, rfl, hi, by rw [mix_self (fun _ _ => rfl), updL_agrees ha]⟩
  rintro k f H0 ⟨s, g, rfl, hI, rfl⟩
  obtain ⟨x, fr', H', h1, h2⟩ := step s g H0 hI
  refine ⟨x, fr', H', h1, ?_⟩
  cases x with
  | normal =>
    obtain ⟨s', h3, h4, h5⟩ := h2
    refine ⟨μ s', h3, s', fr', rfl, h5, ?_⟩
    have hoff : ∀ t, memN t D = false → fr' t = fr t := fun t ht => by rw [exec_off hD h1 t ht, updL_off (hk s) ht, mix_off ht]
    rw [mix_self hoff, updL_agrees h4]
  | exit i => exact h2
  | ret => exact h2
end
theorem dcheck_none {R : List DRec} {H0 : AHeap} (h : ∀ r ∈ R, r.eff = false) (hok : ∀ r ∈ R, r.want = true → (Nat.beq r.cls 1 || Nat.beq r.cls 3) = true → r.okAt H0 = true) : dcheck R H0 R 0 = true := by
  have hchk : ∀ (r : DRec) (k : Nat) (es : List DRec) (i : Nat), (∀ e ∈ es, e.eff = false) → r.okAt H0 = true → r.chk k es i H0 true = true := by
    intro r k es
    induction es with
    | nil => intro i _ h; simp [DRec.chk, h]
    | cons e es ih => intro i he h; simp only [DRec.chk, he e (by simp)]; exact ih _ (fun x hx => he x (by simp [hx])) h
  have key : ∀ (rs : List DRec) (k : Nat), (∀ r ∈ rs, r ∈ R) → dcheck R H0 rs k = true := by
    intro rs
    induction rs with
    | nil => intro k _; rfl
    | cons r rs ih =>
      intro k hm
      simp only [dcheck, Bool.and_eq_true]
      refine ⟨?_, ih _ fun x hx => hm x (by simp [hx])⟩
      cases hc : (r.want && (Nat.beq r.cls 1 || Nat.beq r.cls 3)) with
      | false => rfl
      | true =>
        simp only [Bool.and_eq_true] at hc
        exact hchk r k R 0 h (hok r (hm r (by simp)) hc.1 hc.2)
  exact key R 0 fun _ h => h
def quietOp : ROp → Bool
  | .sliceS .. => false
  | op => Nat.ble op.kind 1
def quiet : List DItem → Bool
  | [] => true
  | o :: os => _root_.cond (quietOp o.o.op && Nat.ble o.cls 1) (quiet os) false
def opsOf : List DItem → List ROper
  | [] => []
  | o :: os => o.o :: opsOf os
theorem quietOp_same {call : ACall} {fr : AFrame} {op : ROp} {H H' : AHeap} {v : AVal} (hq : quietOp op = true) (hx : op.exec call fr H = some (v, H')) : H' = H ∧ ∀ call', op.exec call' fr H = some (v, H) := by
  have hk : op.kind ≤ 1 := by cases op <;> simp_all [quietOp]
  have hn : H'.n = H.n := by
    by_cases h0 : op.kind = 0
    · have := exec_pure h0 hx call H
      rw [hx] at this; cases this; rfl
    · have h1 : op.kind = 1 := by omega
      cases op <;> simp only [ROp.kind] at h0 h1 <;> first | (exact absurd rfl h0) | (cases h1; done) | skip
      · rw [aLoad_same hx]
      · simp [quietOp] at hq
      · rw [aBytesToStr_same hx]
      · rw [aUptr_same hx]
      · rw [aSliceData_same hx]
      · rw [aLookup_same hx]
      · rw [aLenM_same hx]
  exact exec_reads hk hx hn
theorem dtext_quiet {call : ACall} : ∀ {its : List DItem} {ref : Nat} {fr fr' : AFrame} {H H' : AHeap}, quiet its = true → execOps call (opsOf its) fr H = some (fr', H') → H' = H ∧ ∃ R, dtext call its ref fr H = some (R, fr', H) ∧ ∀ r ∈ R, r.eff = false ∧ (r.want = true → (Nat.beq r.cls 1 || Nat.beq r.cls 3) = true → r.okAt H = true) := by
  intro its
  induction its with
  | nil => intro ref fr fr' H H' _ h; cases h; exact ⟨rfl, [], rfl, by simp⟩
  | cons o os ih =>
    intro ref fr fr' H H' hq h
    obtain ⟨hq1, hq2⟩ := cond_tt hq
    simp only [Bool.and_eq_true] at hq1
    have hcls : o.cls ≤ 1 := Nat.le_of_ble_eq_true hq1.2
    have h3 : Nat.beq o.cls 3 = false := by apply nbeq_ne; omega
    have h2 : Nat.beq o.cls 2 = false := by apply nbeq_ne; omega
    simp only [opsOf, execOps] at h
    cases hw : o.o.wanted fr with
    | false =>
      rw [hw] at h
      obtain ⟨e1, R, hR, hall⟩ := ih (ref := nextRef o.cls ref) hq2 h
      refine ⟨e1, ⟨o.o, o.b, o.cls, fr, aundef, false, false, H, ref⟩ :: R, by simp only [dtext, hw, hR], ?_⟩
      intro r hr
      rcases List.mem_cons.1 hr with rfl | hr
      · exact ⟨rfl, fun h => by cases h⟩
      · exact hall r hr
    | true =>
      rw [hw] at h
      obtain ⟨v, H1, hx, hrest⟩ := bind_some h
      obtain ⟨e1, hc⟩ := quietOp_same hq1.1 hx
      subst e1
      obtain ⟨e2, R, hR, hall⟩ := ih (ref := nextRef o.cls ref) hq2 hrest
      refine ⟨e2, ⟨o.o, o.b, o.cls, fr, v, true, false, H1, ref⟩ :: R, ?_, ?_⟩
      · simp only [dtext, hw, dstep, h2, h3, look_of (hc noCall) rfl]
        simp [hR]
      · intro r hr
        rcases List.mem_cons.1 hr with rfl | hr
        · exact ⟨rfl, fun _ _ => okAt_read h3 (hc noCall)⟩
        · exact hall r hr
theorem quiet_no3 : ∀ {its : List DItem}, quiet its = true → (its.all fun it => !(Nat.beq it.cls 3)) = true := by
  intro its
  induction its with
  | nil => intro _; rfl
  | cons o os ih =>
    intro hq
    obtain ⟨hq1, hq2⟩ := cond_tt hq
    simp only [Bool.and_eq_true] at hq1
    have hcls : o.cls ≤ 1 := Nat.le_of_ble_eq_true hq1.2
    have h3 : Nat.beq o.cls 3 = false := by apply nbeq_ne; omega
    simp only [List.all_cons, h3, ih hq2]; rfl
section
variable {call : ACall} {lf : Nat} {fr : AFrame} {H : AHeap} {Q : RExit → AFrame → AHeap → Prop} {K : AFrame → AHeap → Prop}
theorem Wp.dquiet {its : List DItem} {ops : List ROper} (hq : quiet its = true) (ho : opsOf its = ops) (h : WpO call ops fr H fun fr' H' => Q .normal fr' H') : Wp call lf (.dregion its) fr H Q := by
  subst ho
  obtain ⟨fr', H', h1, h2⟩ := h
  obtain ⟨rfl, R, hR, hall⟩ := dtext_quiet (ref := H.n) hq h1
  refine ⟨.normal, fr', H', ?_, h2⟩
  simp only [RCode.exec, oracle_none its H'.n fr H' (quiet_no3 hq), pushAll, hR]
  rw [dcheck_none (fun r hr => (hall r hr).1) fun r hr => (hall r hr).2]
end
end Go.Am

namespace Go.Am
open Go
def cellsI (l : List Int) : List AVal := l.map fun n => .int .i64 n
theorem cellsI_length (l : List Int) : (cellsI l).length = l.length := by simp [cellsI]
def rowOf : AVal → Nat
  | .slice r _ _ _ _ => r
  | _ => 0
def offOf : AVal → Nat
  | .slice _ off _ _ _ => off
  | _ => 0
class SliceAt (H : AHeap) (p : AVal) (sz : outParam Nat) (n : outParam Nat) (cs : outParam (List AVal)) : Prop where
  it : (p = .nslice ∧ n = 0 ∧ cs = []) ∨ ∃ r off cap row rw e, p = .slice r off n cap sz ∧ r < H.n ∧ H.get r = .row row rw e ∧ off + n * sz ≤ row.length ∧ (row.drop off).take (n * sz) = cs ∧ n ≤ capD n cap
class WrS (H : AHeap) (p : AVal) : Prop where
  it : ∀ r off len cap sz, p = .slice r off len cap sz → ∃ cs e, H.get r = .row cs true e
class RowNe (p : AVal) (s : Nat) : Prop where
  ne : ∀ r off len cap sz, p = .slice r off len cap sz → r ≠ s
class FreshS (H : outParam AHeap) (p : AVal) : Prop where
  ge : ∀ r off len cap sz, p = .slice r off len cap sz → H.n ≤ r
class SepS (p q : AVal) : Prop where
  ne : ∀ r off len cap sz r' off' len' cap' sz', p = .slice r off len cap sz → q = .slice r' off' len' cap' sz' → r ≠ r'
class ExtP (H : outParam AHeap) (H' : AHeap) (p : outParam AVal) : Prop where
  n : H.n ≤ H'.n
  get : ∀ r, r < H.n → RowNe p r → H'.get r = H.get r
class Ext0 (H H' : AHeap) : Prop where
  ext : Ext H H'
class LeN (H : AHeap) (s : Nat) : Prop where
  le : H.n ≤ s
abbrev BytesI (H : AHeap) (p : AVal) (l : List UInt8) : Prop := SliceAt H p 1 l.length (cellsB l)
abbrev IntsI (H : AHeap) (p : AVal) (l : List Int) : Prop := SliceAt H p 1 l.length (cellsI l)
theorem SliceAt.len {H : AHeap} {p : AVal} {sz n : Nat} {cs : List AVal} (h : SliceAt H p sz n cs) : cs.length = n * sz := by
  rcases h.it with ⟨_, rfl, rfl⟩ | ⟨r, off, cap, row, rw, e, _, _, _, hl, hc, _⟩
  · simp
  · rw [← hc, List.length_take, List.length_drop]; omega
theorem SliceAt.lenS {H : AHeap} {p : AVal} {sz n : Nat} {cs : List AVal} (h : SliceAt H p sz n cs) : aLenS p = some (.int .i64 n) := by
  rcases h.it with ⟨rfl, rfl, _⟩ | ⟨r, off, cap, row, rw, e, rfl, _⟩ <;> rfl
theorem SliceAt.lt {H : AHeap} {p : AVal} {sz n : Nat} {cs : List AVal} (h : SliceAt H p sz n cs) {r off len : Nat} {cap : Option Nat} {s : Nat} (e : p = .slice r off len cap s) : r < H.n := by
  rcases h.it with ⟨rfl, _⟩ | ⟨r, off, cap, row, rw, e, rfl, hr, _⟩
  · cases e
  · cases e; exact hr
theorem SliceAt.keep {H H' : AHeap} {p : AVal} {sz n : Nat} {cs : List AVal} (h : SliceAt H p sz n cs) (hn : H.n ≤ H'.n) (hg : ∀ r off len cap sz, p = .slice r off len cap sz → r < H.n → H'.get r = H.get r) : SliceAt H' p sz n cs := by
  rcases h.it with ⟨h1, h2, h3⟩ | ⟨r, off, cap, row, rw, e, h1, h2, h3, h4, h5⟩
  · exact ⟨Or.inl ⟨h1, h2, h3⟩⟩
  · exact ⟨Or.inr ⟨r, off, cap, row, rw, e, h1, by omega, by rw [hg _ _ _ _ _ h1 h2]; exact h3, h4, h5⟩⟩
theorem WrS.keep {H H' : AHeap} {p : AVal} (h : WrS H p) (hg : ∀ r off len cap sz, p = .slice r off len cap sz → H'.get r = H.get r) : WrS H' p := ⟨fun r off len cap sz e => by rw [hg _ _ _ _ _ e]; exact h.it _ _ _ _ _ e⟩
instance {s : Nat} {p : AVal} {K : AHeap} [f : FreshS K p] [l : LtN s K] : RowNe p s := ⟨fun r off len cap sz e => by have := f.ge _ _ _ _ _ e; have := l.lt; omega⟩
instance {H : AHeap} {p : AVal} {sz n : Nat} {cs : List AVal} [h : SliceAt H p sz n cs] : RowNe p H.n := ⟨fun r off len cap s e => Nat.ne_of_lt (h.lt e)⟩
instance {K : AHeap} {s : Nat} {p : AVal} {sz n : Nat} {cs : List AVal} [g : GeN K s] [h : SliceAt K p sz n cs] : RowNe p s := ⟨fun r off len cap sz e => by have := h.lt e; have := g.ge; omega⟩
instance {s : Nat} : RowNe .nslice s := ⟨fun _ _ _ _ _ e => by cases e⟩
instance {K : AHeap} {p q : AVal} {sz n : Nat} {cs : List AVal} [f : FreshS K p] [h : SliceAt K q sz n cs] : SepS p q := ⟨fun r off len cap sz r' off' len' cap' sz' e e' => by have := f.ge _ _ _ _ _ e; have := h.lt e'; omega⟩
instance {K : AHeap} {p q : AVal} {sz n : Nat} {cs : List AVal} [f : FreshS K p] [h : SliceAt K q sz n cs] : SepS q p := ⟨fun r off len cap sz r' off' len' cap' sz' e e' => by have := f.ge _ _ _ _ _ e'; have := h.lt e; omega⟩
instance {q : AVal} : SepS .nslice q := ⟨fun _ _ _ _ _ _ _ _ _ _ e => by cases e⟩
instance {H : AHeap} : SliceAt H .nslice 1 0 [] := ⟨Or.inl ⟨rfl, rfl, rfl⟩⟩
instance {H H' : AHeap} {p : AVal} {sz n : Nat} {cs : List AVal} [x : ExtI H H'] [h : SliceAt H p sz n cs] : SliceAt H' p sz n cs := h.keep x.ext.n fun _ _ _ _ _ _ hr => x.ext.get _ hr
instance {H : AHeap} {o : AObj} {p : AVal} {sz n : Nat} {cs : List AVal} [h : SliceAt H p sz n cs] : SliceAt (H.push o) p sz n cs := h.keep (Nat.le_succ _) fun _ _ _ _ _ _ hr => push_get_lt hr
instance {H : AHeap} {s : Nat} {o : AObj} {p : AVal} {sz n : Nat} {cs : List AVal} [h : SliceAt H p sz n cs] [k : RowNe p s] : SliceAt (H.set s o) p sz n cs := h.keep (Nat.le_refl _) fun _ _ _ _ _ e _ => set_get_ne (k.ne _ _ _ _ _ e)
instance {H H' : AHeap} {p q : AVal} {sz n : Nat} {cs : List AVal} [x : ExtP H H' q] [h : SliceAt H p sz n cs] [k : SepS p q] : SliceAt H' p sz n cs := h.keep x.n fun r _ _ _ _ e hr => x.get r hr ⟨fun r' _ _ _ _ e' => fun hh => k.ne _ _ _ _ _ _ _ _ _ _ e e' hh.symm⟩
instance {H H' : AHeap} {r : Nat} {cs : List AVal} {rw : Bool} {e : TypeId} {q : AVal} [x : ExtP H H' q] [h : HasRow H r cs rw e] [k : RowNe q r] : HasRow H' r cs rw e := ⟨Nat.lt_of_lt_of_le h.lt x.n, by rw [x.get r h.lt k]; exact h.get⟩
instance {H H' : AHeap} {p : AVal} {sz n : Nat} {cs : List AVal} [x : ExtI H H'] [w : WrS H p] [h : SliceAt H p sz n cs] : WrS H' p := w.keep fun _ _ _ _ _ e => x.ext.get _ (h.lt e)
instance {H : AHeap} {o : AObj} {p : AVal} {sz n : Nat} {cs : List AVal} [w : WrS H p] [h : SliceAt H p sz n cs] : WrS (H.push o) p := w.keep fun _ _ _ _ _ e => push_get_lt (h.lt e)
instance {H : AHeap} {s : Nat} {o : AObj} {p : AVal} [w : WrS H p] [k : RowNe p s] : WrS (H.set s o) p := w.keep fun _ _ _ _ _ e => set_get_ne (k.ne _ _ _ _ _ e)
instance {H H' : AHeap} {p q : AVal} {sz n : Nat} {cs : List AVal} [x : ExtP H H' q] [w : WrS H p] [h : SliceAt H p sz n cs] [k : SepS p q] : WrS H' p := w.keep fun r _ _ _ _ e => x.get r (h.lt e) ⟨fun r' _ _ _ _ e' => fun hh => k.ne _ _ _ _ _ _ _ _ _ _ e e' hh.symm⟩
instance {H : AHeap} : Ext0 H H := ⟨Ext.refl H⟩
instance {H H' : AHeap} {o : AObj} [x : Ext0 H H'] : Ext0 H (H'.push o) := ⟨x.ext.push o⟩
instance {H H' : AHeap} {s : Nat} {o : AObj} [x : Ext0 H H'] [l : LeN H s] : Ext0 H (H'.set s o) := ⟨x.ext.set l.le o⟩
instance {H H1 H2 : AHeap} [y : ExtI H1 H2] [x : Ext0 H H1] : Ext0 H H2 := ⟨x.ext.trans y.ext⟩
instance {H K : AHeap} [x : Ext0 H K] : LeN H K.n := ⟨x.ext.n⟩
instance {H K : AHeap} {s : Nat} [g : GeN K s] [x : Ext0 H K] : LeN H s := ⟨Nat.le_trans x.ext.n g.ge⟩
instance {H K H1 H2 : AHeap} {p : AVal} [y : ExtP H1 H2 p] [f : FreshS K p] [z : Ext0 H K] [x : Ext0 H H1] : Ext0 H H2 := ⟨⟨Nat.le_trans x.ext.n y.n, fun r hr => by
  rw [y.get r (Nat.lt_of_lt_of_le hr x.ext.n) ⟨fun r' _ _ _ _ e => by have := f.ge _ _ _ _ _ e; have := z.ext.n; omega⟩]
  exact x.ext.get r hr⟩⟩
theorem FreshS.weak {H K : AHeap} {p : AVal} (f : FreshS K p) [x : Ext0 H K] : FreshS H p := ⟨fun _ _ _ _ _ e => Nat.le_trans x.ext.n (f.ge _ _ _ _ _ e)⟩
theorem ExtP.refl (H : AHeap) (p : AVal) : ExtP H H p := ⟨Nat.le_refl _, fun _ _ _ => rfl⟩
theorem ExtP.trans {a b c : AHeap} {p : AVal} (h : ExtP a b p) (k : ExtP b c p) : ExtP a c p := ⟨Nat.le_trans h.n k.n, fun r hr hp => by rw [k.get r (Nat.lt_of_lt_of_le hr h.n) hp, h.get r hr hp]⟩
theorem ExtP.ext {a b c : AHeap} {p : AVal} (h : ExtP a b p) (k : Ext b c) : ExtP a c p := ⟨Nat.le_trans h.n k.n, fun r hr hp => by rw [k.get r (Nat.lt_of_lt_of_le hr h.n), h.get r hr hp]⟩
class ExtP0 (H H' : AHeap) (p : AVal) : Prop where
  ext : ExtP H H' p
instance {H : AHeap} {p : AVal} : ExtP0 H H p := ⟨ExtP.refl H p⟩
instance {H H' : AHeap} {p : AVal} {o : AObj} [x : ExtP0 H H' p] : ExtP0 H (H'.push o) p := ⟨x.ext.ext ((Ext.refl H').push o)⟩
instance {H H1 H2 : AHeap} {p : AVal} [y : ExtI H1 H2] [x : ExtP0 H H1 p] : ExtP0 H H2 p := ⟨x.ext.ext y.ext⟩
instance {H H1 H2 : AHeap} {p : AVal} [y : ExtP H1 H2 p] [x : ExtP0 H H1 p] : ExtP0 H H2 p := ⟨x.ext.trans y⟩
class LeP (H : AHeap) (p : AVal) (s : Nat) : Prop where
  le : H.n ≤ s
instance {H K : AHeap} {p : AVal} [x : ExtP0 H K p] : LeP H p K.n := ⟨x.ext.n⟩
instance {H H' : AHeap} {p : AVal} {s : Nat} {o : AObj} [x : ExtP0 H H' p] [l : LeP H p s] : ExtP0 H (H'.set s o) p := ⟨x.ext.n, fun r hr hp => by rw [set_get_ne (by have := l.le; omega)]; exact x.ext.get r hr hp⟩
instance {H K H1 H2 : AHeap} {p q : AVal} [y : ExtP H1 H2 q] [f : FreshS K q] [z : ExtP0 H K p] [x : ExtP0 H H1 p] : ExtP0 H H2 p := ⟨Nat.le_trans x.ext.n y.n, fun r hr hp => by
  rw [y.get r (Nat.lt_of_lt_of_le hr x.ext.n) ⟨fun r' _ _ _ _ e => by have := f.ge _ _ _ _ _ e; have := z.ext.n; omega⟩]
  exact x.ext.get r hr hp⟩
section
variable {call : ACall} {fr : AFrame} {H : AHeap} {K : AVal → AHeap → Prop} {KF : AFrame → AHeap → Prop}
def nowOk : ROp → Bool
  | .makeSlice .. => false
  | _ => true
theorem WpO.now {d : Nat} {op : ROp} {os : List ROper} {v : AVal} {H1 : AHeap} (_ : nowOk op = true) (hx : op.exec call fr H = some (v, H1)) (h : WpO call os (upd fr d v) H1 KF) : WpO call (⟨some d, op, none⟩ :: os) fr H KF := WpO.step rfl ⟨v, H1, hx, h⟩
theorem WpX.lenP {x : ROpd} {p : AVal} {sz n : Nat} {cs : List AVal} (hx : x.ev fr = p) [s : SliceAt H p sz n cs] (h : K (.int .i64 n) H) : WpX (.lenS x) call fr H K := ⟨_, _, by simp only [ROp.exec, hx, s.lenS, M.ofOption, M.pure], h⟩
theorem exec_idxP {x i : ROpd} {p : AVal} {sz n : Nat} {cs : List AVal} {k : IntKind} {a : Int} (hx : x.ev fr = p) (hi : i.ev fr = .int k a) [s : SliceAt H p sz n cs] (h0 : 0 ≤ a ∧ a < n) : (ROp.idxS sz x i).exec call fr H = some (.ptr (rowOf p) (offOf p + a.toNat * sz), H) := by
  rcases s.it with ⟨_, rfl, _⟩ | ⟨r, off, cap, row, rw, e, rfl, _, _, hl, hc, _⟩
  · have := h0.1; have := h0.2; omega
  · simp only [ROp.exec, hx, hi, aIdxS, true_and, if_pos h0, M.ofOption, M.pure, rowOf, offOf]
theorem WpX.idxP {x i : ROpd} {p : AVal} {sz n : Nat} {cs : List AVal} {k : IntKind} {a : Int} (hx : x.ev fr = p) (hi : i.ev fr = .int k a) [s : SliceAt H p sz n cs] (h0 : 0 ≤ a ∧ a < n) (h : K (.ptr (rowOf p) (offOf p + a.toNat * sz)) H) : WpX (.idxS sz x i) call fr H K :=
  ⟨_, _, exec_idxP hx hi h0, h⟩
theorem exec_ldP {a : ROpd} {p : AVal} {sz n j : Nat} {cs : List AVal} {v : AVal} (ha : a.ev fr = .ptr (rowOf p) (offOf p + j)) [s : SliceAt H p sz n cs] (hv : cs[j]? = some v) : (ROp.load none a).exec call fr H = some (v, H) := by
  rcases s.it with ⟨_, _, rfl⟩ | ⟨r, off, cap, row, rw, e, rfl, hr, hg, hl, hc, hcap⟩
  · cases hv
  · have hj : j < n * sz := by
      have := (List.getElem?_eq_some_iff.1 hv).1
      have := s.len; omega
    have : row[off + j]? = some v := by
      rw [← hc, List.getElem?_take, if_pos hj, List.getElem?_drop] at hv
      exact hv
    simp only [ROp.exec, ha, aLoad, M.bind, aRow, rowOf, offOf, if_pos hr, hg, this, M.pure]
theorem WpX.ldP {a : ROpd} {p : AVal} {sz n j : Nat} {cs : List AVal} {v : AVal} (ha : a.ev fr = .ptr (rowOf p) (offOf p + j)) [s : SliceAt H p sz n cs] (hv : cs[j]? = some v) (h : K v H) : WpX (.load none a) call fr H K := ⟨_, _, exec_ldP ha hv, h⟩
theorem WpX.ldNP {a : ROpd} {p : AVal} {sz n j m : Nat} {cs l : List AVal} (ha : a.ev fr = .ptr (rowOf p) (offOf p + j)) [s : SliceAt H p sz n cs] (hm : 0 < m) (hv : j + m ≤ cs.length) (hl : (cs.drop j).take m = l) (h : K (.agg l) H) : WpX (.load (some m) a) call fr H K := by
  rcases s.it with ⟨_, _, rfl⟩ | ⟨r, off, cap, row, rw, e, rfl, hr, hg, hl', hc, _⟩
  · simp at hv; omega
  · have hlen := s.len
    refine WpX.loadN ha hr hg (by simp only [offOf]; omega) ?_
    have : (row.drop (offOf (.slice r off n cap sz) + j)).take m = l := by
      rw [← hl, ← hc]
      simp only [offOf]
      rw [List.drop_take, List.take_take, List.drop_drop, Nat.min_eq_left (by omega)]
    rw [this]; exact h
theorem setAt_one (cs : List AVal) (j : Nat) (v : AVal) : setAt cs j [v] = cs.set j v := rfl
theorem WpX.stP {a x : ROpd} {p : AVal} {sz n j : Nat} {cs : List AVal} {v : AVal} (ha : a.ev fr = .ptr (rowOf p) (offOf p + j)) (hx : x.ev fr = v) (hv : v.cells = [v]) (ho : v.one = true) [s : SliceAt H p sz n cs] [w : WrS H p] (hj : j < cs.length)
    (h : ∀ H1, SliceAt H1 p sz n (cs.set j v) → WrS H1 p → ExtP H H1 p → K aundef H1) : WpX (.store 1 a x) call fr H K := by
  rcases s.it with ⟨_, _, rfl⟩ | ⟨r, off, cap, row, rw, e, rfl, hr, hg, hl, hc, hcap⟩
  · simp at hj
  · obtain ⟨cs', e', hg'⟩ := w.it _ _ _ _ _ rfl
    rw [hg] at hg'; cases hg'
    have hlen := s.len
    refine WpX.store ha hx (by rw [hv]; rfl) hr hg (by rw [hv]; simp only [offOf, List.length_singleton]; omega) (by rw [hv]; simp only [List.all_cons, List.all_nil, ho]; rfl) ?_
    rw [hv, setAt_one]
    refine h _ ⟨Or.inr ⟨r, off, cap, row.set (off + j) v, true, e, rfl, hr, set_get_eq, by simpa using hl, ?_, hcap⟩⟩ ⟨fun r' off' len' cap' sz' e' => by cases e'; exact ⟨_, _, set_get_eq⟩⟩ ⟨Nat.le_refl _, fun r' hr' hne => set_get_ne (fun hh => hne.ne _ _ _ _ _ rfl hh.symm)⟩
    rw [← hc]
    apply List.ext_getElem?
    intro i
    simp only [List.getElem?_take, List.getElem?_drop, List.getElem?_set, List.length_take, List.length_drop]
    by_cases hij : j = i
    · subst hij
      have h1 : j < n * sz := by omega
      have h2 : off + j < row.length := by omega
      have h3 : j < min (n * sz) (row.length - off) := by omega
      simp [h1, h2, h3]
    · have : ¬ off + j = off + i := by omega
      simp [hij, this]
theorem mk_ints (n : Nat) : (List.replicate n [AVal.int .i64 0]).flatten = cellsI (List.replicate n 0) := by
  induction n with
  | zero => rfl
  | succ n ih => rw [List.replicate_succ, List.flatten_cons, ih]; rfl
theorem exec_mk {e : TypeId} {b : Nat} {z : AVal} {x y : ROpd} {k k' : IntKind} {a : Int} (hx : x.ev fr = .int k a) (hy : y.ev fr = .int k' a) (h0 : 0 ≤ a ∧ a ≤ a ∧ b * a ≤ 2 ^ 47 ∧ a < 2 ^ 62) : (ROp.makeSlice e [z] b x y).exec call fr H = some (.slice H.n 0 a.toNat (some a.toNat) 1, H.push (.row ((List.replicate a.toNat [z]).flatten) true (2 * e))) := by
  simp only [ROp.exec, hx, hy, aMakeSlice, if_pos h0, M.bind, aNew, M.pure, List.length_singleton]
theorem mk_facts {z : AVal} {n : Nat} {e : TypeId} {l : List AVal} (hl : (List.replicate n [z]).flatten = l) : SliceAt (H.push (.row l true e)) (.slice H.n 0 n (some n) 1) 1 n l ∧ FreshS H (.slice H.n 0 n (some n) 1) ∧ WrS (H.push (.row l true e)) (.slice H.n 0 n (some n) 1) := by
  have hlen : l.length = n := by rw [← hl]; simp
  refine ⟨⟨Or.inr ⟨H.n, 0, some n, l, true, e, rfl, Nat.lt_succ_self _, push_get_eq, by omega, ?_, Nat.le_refl _⟩⟩, ⟨fun r off len cap sz e => by cases e; exact Nat.le_refl _⟩, ⟨fun r off len cap sz e => by cases e; exact ⟨_, _, push_get_eq⟩⟩⟩
  rw [List.drop_zero, List.take_of_length_le (by omega)]
theorem WpX.mkI {e : TypeId} {x y : ROpd} {k k' : IntKind} {a : Int} {n : Nat} (hx : x.ev fr = .int k a) (hy : y.ev fr = .int k' a) (ha : a = n) (hn : n ≤ 2 ^ 40)
    (h : ∀ p H1, H1 = H.push (.row (cellsI (List.replicate n 0)) true (2 * e)) → IntsI H1 p (List.replicate n 0) → FreshS H p → WrS H1 p → ExtI H H1 → K p H1) : WpX (.makeSlice e [.int .i64 0] 8 x y) call fr H K := by
  subst ha
  obtain ⟨h1, h2, h3⟩ := mk_facts (H := H) (e := 2 * e) (mk_ints n)
  refine ⟨_, _, exec_mk hx hy (by omega), ?_⟩
  rw [Int.toNat_natCast, mk_ints]
  refine h _ _ rfl ?_ h2 h3 ⟨(Ext.refl H).push _⟩
  unfold IntsI
  rw [List.length_replicate]
  exact h1
theorem get_bytes {l : List UInt8} {i : Nat} (h : i < l.length) : (cellsB l)[i]? = some (.int .u8 (l[i].toNat : Int)) := by simp [cellsB, h]
theorem get_ints {l : List Int} {i : Nat} (h : i < l.length) : (cellsI l)[i]? = some (.int .i64 l[i]) := by simp [cellsI, h]
theorem set_ints {l : List Int} {i : Nat} {n : Int} : (cellsI l).set i (.int .i64 n) = cellsI (l.set i n) := by simp [cellsI, List.map_set]
end
theorem w64 {x : Int} (h : -9223372036854775808 ≤ x ∧ x < 9223372036854775808) : IntKind.i64.wrap x = x := by
  have h1 : IntKind.i64.wrap x = if (true && decide (x % 2 ^ 64 ≥ 2 ^ 63)) = true then x % 2 ^ 64 - 2 ^ 64 else x % 2 ^ 64 := rfl
  rw [h1]
  by_cases hh : x % 2 ^ 64 ≥ 2 ^ 63
  · simp only [hh, decide_true, Bool.and_true, if_true]; omega
  · simp only [hh, decide_false, Bool.and_false, Bool.false_eq_true, if_false]; omega
theorem nrm : (∀ l, (AVal.agg l).cells = l) ∧ (∀ fr t, ROpd.ev fr (.tmp t) = fr t) ∧ (∀ fr v, ROpd.ev fr (.val v) = v) ∧ (∀ fr d v i, upd fr d v i = if i = d then v else fr i) ∧ (∀ fr d v, put fr (some d) v = upd fr d v) ∧ (∀ fr v, put fr none v = fr) ∧ (∀ v vs, argFrame (v :: vs) 0 = v) ∧ (∀ v w vs, argFrame (v :: w :: vs) 1 = w) ∧ (∀ v w x vs, argFrame (v :: w :: x :: vs) 2 = x) ∧ (∀ v w x y vs, argFrame (v :: w :: x :: y :: vs) 3 = y) ∧ (∀ v w x y z vs, argFrame (v :: w :: x :: y :: z :: vs) 4 = z) ∧ (∀ a b : AVal, (match true with | true => a | false => b) = a) ∧ (∀ a b : AVal, (match false with | true => a | false => b) = b) ∧ (∀ a b : AVal, cond true a b = a) ∧ (∀ a b : AVal, cond false a b = b) ∧ (!true) = false ∧ (!false) = true ∧ (∀ n : Nat, 0 + n = n) ∧ (∀ n : Nat, ((n : Int)).toNat = n) ∧ (∀ n : Nat, n * 1 = n) ∧ (∀ fr, updL [] fr = fr) ∧ (∀ p l fr, updL (p :: l) fr = upd (updL l fr) p.1 p.2) ∧ (∀ g fr, mix [] g fr = fr) ∧ (∀ d D g fr, mix (d :: D) g fr = upd (mix D g fr) d (g d)) ∧ (∀ l, (cellsB l).length = l.length) ∧ (∀ l, (cellsI l).length = l.length) ∧ (∀ (a b : AVal) l, (a :: l).set 0 b = b :: l) ∧ (∀ (a b : AVal) l, (a :: l).set 1 b = a :: l.set 0 b) ∧ (∀ (a b : AVal) l, (a :: l).set 2 b = a :: l.set 1 b) ∧ (∀ (a b : AVal) l, (a :: l).set 3 b = a :: l.set 2 b) ∧ (∀ (a : AVal) l n, List.take (n + 1) (a :: l) = a :: List.take n l) ∧ (∀ l : List AVal, List.take 0 l = []) ∧ (∀ l : List AVal, List.drop 0 l = l) ∧ (∀ (a : AVal) l n, List.drop (n + 1) (a :: l) = List.drop n l) ∧ (∀ k n, (AVal.int k n).cells = [AVal.int k n]) ∧ (∀ b, (AVal.bool b).cells = [AVal.bool b]) ∧ (∀ b, (AVal.str b).cells = [AVal.str b]) ∧ (∀ r o, (AVal.ptr r o).cells = [AVal.ptr r o]) ∧ AVal.nslice.cells = [AVal.nslice] ∧ (∀ r o l c z, (AVal.slice r o l c z).cells = [AVal.slice r o l c z]) ∧ Int.toNat 0 = 0 ∧ (∀ cs off, setAt cs off [] = cs) ∧ (∀ cs off v vs, setAt cs off (v :: vs) = setAt (cs.set off v) (off + 1) vs) := by
  refine ⟨fun _ => rfl, fun _ _ => rfl, fun _ _ => rfl, upd_at, fun _ _ _ => rfl, fun _ _ => rfl, fun _ _ => rfl, fun _ _ _ => rfl, fun _ _ _ _ => rfl, fun _ _ _ _ _ => rfl, fun _ _ _ _ _ _ => rfl, fun _ _ => rfl, fun _ _ => rfl, fun _ _ => rfl, fun _ _ => rfl, rfl, rfl, Nat.zero_add, Int.toNat_natCast, Nat.mul_one, fun _ => rfl, fun _ _ _ => rfl, fun _ _ => rfl, fun _ _ _ _ => rfl, cellsB_length, cellsI_length, fun _ _ _ => rfl, fun _ _ _ => rfl, fun _ _ _ => rfl, fun _ _ _ => rfl, fun _ _ _ => rfl, fun _ => rfl, fun _ => rfl, fun _ _ _ => rfl, fun _ _ => rfl, fun _ => rfl, fun _ => rfl, fun _ _ => rfl, rfl, fun _ _ _ _ _ => rfl, rfl, fun _ _ => rfl, fun _ _ _ _ => rfl⟩
end Go.Am

namespace Go.Am
open Go Go.RowKit
section
variable {P : Program} {S : Base} {m : RMap} {H : AHeap} {w w' : World}
def tablesIn (T : List (Nat × List AVal)) (H : AHeap) : Bool := T.all fun t => Nat.blt t.1 H.n && match H.get t.1 with | .row cs _ _ => abeqL cs t.2 | _ => false
def tableObj : List (Nat × List AVal) → Nat → AObj
  | [], _ => .dead
  | (g, cs) :: T, i => cond (Nat.beq i g) (.row cs false 0) (tableObj T i)
def tableHeap (G : Nat) (T : List (Nat × List AVal)) : AHeap := ⟨G, tableObj T⟩
def globMap (G L : Nat) : RMap := fun g => if g < G then some (⟨g, 0, none⟩, L) else none
def longest : List (Nat × List AVal) → Nat
  | [] => 0
  | t :: T => t.2.length + longest T
theorem le_longest {T : List (Nat × List AVal)} {t : Nat × List AVal} (h : t ∈ T) : t.2.length ≤ longest T := by
  induction T with
  | nil => simp at h
  | cons u T ih =>
    simp only [longest]
    rcases List.mem_cons.1 h with rfl | h
    · omega
    · have := ih h; omega
theorem tableObj_loop {R : RLoop} : ∀ {T : List (Nat × List AVal)} {i : Nat}, tableObj T i ≠ .loop R
  | [], i => fun e => by cases e
  | (g, cs) :: T, i => fun e => by
    simp only [tableObj] at e
    cases h : Nat.beq i g with
    | true => rw [h] at e; cases e
    | false => rw [h] at e; exact tableObj_loop e
theorem tableObj_map {es : List (AVal × AVal)} : ∀ {T : List (Nat × List AVal)} {i : Nat}, tableObj T i ≠ .mapo es
  | [], i => fun e => by cases e
  | (g, cs) :: T, i => fun e => by
    simp only [tableObj] at e
    cases h : Nat.beq i g with
    | true => rw [h] at e; cases e
    | false => rw [h] at e; exact tableObj_map e
theorem tableObj_iter {s : ByteArray} {k : Nat} : ∀ {T : List (Nat × List AVal)} {i : Nat}, tableObj T i ≠ .iter s k
  | [], i => fun e => by cases e
  | (g, cs) :: T, i => fun e => by
    simp only [tableObj] at e
    cases h : Nat.beq i g with
    | true => rw [h] at e; cases e
    | false => rw [h] at e; exact tableObj_iter e
theorem tableObj_row {T : List (Nat × List AVal)} {i : Nat} {cs : List AVal} {rw : Bool} {e : TypeId} (h : tableObj T i = .row cs rw e) : (i, cs) ∈ T ∧ rw = false := by
  induction T with
  | nil => cases h
  | cons t T ih =>
    obtain ⟨g, l⟩ := t
    simp only [tableObj] at h
    cases hb : Nat.beq i g with
    | true =>
      rw [hb] at h; cases h
      have := Nat.eq_of_beq_eq_true hb
      subst this
      exact ⟨by simp, rfl⟩
    | false =>
      rw [hb] at h
      obtain ⟨h1, h2⟩ := ih h
      exact ⟨List.mem_cons_of_mem _ h1, h2⟩
def plainV : AVal → Bool
  | .bool _ | .int _ _ | .str _ | .nptr | .nslice | .nfunc | .niface => true
  | _ => false
theorem plain_emb {v : AVal} (h : plainV v = true) (m m' : RMap) : emb m v = emb m' v := by cases v <;> first | rfl | (simp [plainV] at h)
def aClosed (T : List (Nat × List AVal)) (v : AVal) : List AVal → M AVal
  | [] => fun H => match tablesIn T H with | true => some (v, H) | false => none
  | _ => M.fail
theorem ext_closed (hmix : P.follows .mixedOrders = true) {ext0 : Exts} {prog0 : FuncId → Option RFunc} (hP : ProgOk P ext0 prog0) {T : List (Nat × List AVal)} {f : FuncId} {fn : Func} {c : Code} (hfn : P.funcs[f]? = some fn) (hb : fn.body = some c) (hname : fn.name ≠ "runtime.NumGoroutine")
    {n : Nat} {v : AVal} (hv : plainV v = true) (hT : (T.all fun t => Nat.blt t.1 P.globals.size && t.2.all plainV) = true) (hrun : ∃ H', callN ext0 prog0 n f [] (tableHeap P.globals.size T) = some (v, H'))
    {ext : Exts} {k : Nat} (hk : ext k = aClosed T v) : ExtSim P ext f k := by
  intro S args H u H' m w vargs hG hx h ha
  rw [hk] at hx
  cases args with
  | cons a l => exact (fail_some (H := H) hx).elim
  | nil =>
    simp only [embL] at ha; cases ha
    unfold aClosed at hx
    cases ht : tablesIn T H with
    | false => simp only [ht] at hx; cases hx
    | true =>
      simp only [ht, Option.some.injEq, Prod.mk.injEq] at hx
      obtain ⟨rfl, rfl⟩ := hx
      obtain ⟨H1, hrun⟩ := hrun
      simp only [tablesIn, List.all_eq_true, Bool.and_eq_true] at ht hT
      have hrel : HRel ⟨w.heap.size, w, P.globals.size, fun _ => False, cCode P⟩ (globMap P.globals.size (longest T)) (tableHeap P.globals.size T) w := by
        refine ⟨Below.refl _ _, Nat.le_refl _, fun g hg => ⟨longest T, by simp only at hg; simp [globMap, hg]⟩, fun r hr => by simp only [tableHeap] at hr; simp [globMap]; omega, fun r hr => hr.elim, ?_, ?_, ⟨fun r R p _ h _ => absurd h tableObj_loop, fun r s R R' p q L L' _ _ _ h => absurd h tableObj_loop, ⟨fun r es p _ h _ => absurd h tableObj_map, fun r s es es' p q _ _ _ h => absurd h tableObj_map⟩, ⟨fun r s k p _ h _ => absurd h tableObj_iter, fun r r' s k s' k' p q _ _ _ h => absurd h tableObj_iter⟩⟩⟩
        · intro r cs rw e p hr hg hp
          obtain ⟨hmem, rfl⟩ := tableObj_row hg
          have hT1 := hT _ hmem
          have ht1 := ht _ hmem
          simp only [] at hT1 ht1
          have hrG : r < P.globals.size := by simpa using hT1.1
          have hp' : p = (⟨r, 0, none⟩, longest T) := by simp only [globMap, hrG, if_true] at hp; exact (Option.some.inj hp).symm
          subst hp'
          obtain ⟨k, hmk⟩ := h.glob r (by rw [hG]; exact hrG)
          have hrn : r < H.n := by simpa using ht1.1
          cases hgr : H.get r with
          | row cs' rw' e' =>
            have ht2 := ht1.2
            rw [hgr] at ht2
            simp only [] at ht2
            have hcs := abeqL_eq ht2
            subst hcs
            have hok := h.row r cs' rw' e' _ hrn hgr hmk
            refine ⟨fun i u hi => ?_, le_longest hmem, fun q => by cases q⟩
            obtain ⟨x, h1, h2⟩ := hok.cell i u hi
            have hpl : plainV u = true := hT1.2 u (List.mem_of_getElem? hi)
            exact ⟨x, by rw [plain_emb hpl _ m]; exact h1, h2⟩
          | _ => have ht2 := ht1.2; rw [hgr] at ht2; cases ht2
        · intro r s cs rw e cs' e' p q hr hs hne hg1 hg2 hp hq
          exact absurd (tableObj_row hg2).2 (by decide)
      have hy := sim_callN hmix hP n ⟨w.heap.size, w, P.globals.size, fun _ => False, cCode P⟩ rfl rfl f [] (tableHeap P.globals.size T) v H1 (globMap P.globals.size (longest T)) w [] hrun hrel (by simp [embL])
      rw [callN_sem hP hrun] at hy
      refine hy.mono fun x w' ⟨m', _, hx, hrel'⟩ => ?_
      refine ⟨m, Le.refl _, by rw [plain_emb hv m m']; exact hx, h.kept hrel'.below⟩
end
end Go.Am

namespace Go.Am
open Go Go.RowKit
def plainT (P : Program) : Nat → TypeId → Bool
  | 0, _ => false
  | n + 1, t => match P.underlying t with
    | some .bool => true
    | some .string => true
    | some (.int _) => true
    | some (.slice e) => plainT P n e
    | some (.struct fs) => fs.toList.all fun f => plainT P n f.type
    | some (.array _ e) => plainT P n e
    | _ => false
def shapes (S : TypeId → List AVal → Prop) : List TypeId → List AVal → Prop
  | [], cs => cs = []
  | t :: ts, cs => ∃ a b, cs = a ++ b ∧ S t a ∧ shapes S ts b
def Shape (P : Program) (H : AHeap) : Nat → TypeId → List AVal → Prop
  | 0, _, _ => False
  | n + 1, t, cs => match P.underlying t with
    | some .bool => ∃ b, cs = [.bool b]
    | some .string => ∃ s : ByteArray, cs = [.str s] ∧ s.size ≤ maxLen
    | some (.int k) => ∃ i, cs = [.int k i] ∧ (Lit.int k i).wf = true
    | some (.slice e) => ∃ p len cells, cs = [p] ∧ SliceAt H p (P.cellsOf e) len cells ∧ len ≤ maxLen ∧ shapes (Shape P H n) (List.replicate len e) cells
    | some (.struct fs) => shapes (Shape P H n) (fs.toList.map fun f => f.type) cs
    | some (.array k e) => shapes (Shape P H n) (List.replicate k e) cs
    | _ => False
theorem shapes_mono {S S' : TypeId → List AVal → Prop} (h : ∀ t a, S t a → S' t a) : ∀ {ts : List TypeId} {cs : List AVal}, shapes S ts cs → shapes S' ts cs := by
  intro ts
  induction ts with
  | nil => intro cs h; exact h
  | cons t ts ih =>
    intro cs hs
    obtain ⟨a, b, e, h1, h2⟩ := hs
    exact ⟨a, b, e, h _ _ h1, ih h2⟩
theorem Shape.ext {P : Program} {H H' : AHeap} (x : Ext H H') : ∀ {n : Nat} {t : TypeId} {cs : List AVal}, Shape P H n t cs → Shape P H' n t cs := by
  intro n
  induction n with
  | zero => intro t cs h; exact h
  | succ n ih =>
    intro t cs h
    cases hu : P.underlying t with
    | none => simp only [Shape, hu] at h
    | some d => cases d with
      | slice e =>
        simp only [Shape, hu] at h ⊢
        obtain ⟨p, len, cells, h1, h2, h3, h4⟩ := h
        haveI : ExtI H H' := ⟨x⟩
        exact ⟨p, len, cells, h1, inferInstance, h3, shapes_mono (fun t a => ih) h4⟩
      | struct fs => simp only [Shape, hu] at h ⊢; exact shapes_mono (fun t a => ih) h
      | array k e => simp only [Shape, hu] at h ⊢; exact shapes_mono (fun t a => ih) h
      | _ => simp only [Shape, hu] at h ⊢ <;> exact h
def RO (H : AHeap) : Prop := ∀ r cs rw e, H.get r = .row cs rw e → rw = false
section
variable {P : Program} {S : Base} {m : RMap} {H : AHeap} {w : World}
theorem HRel.addRow (h : HRel S m H w) (hro : RO H) (hgh : ∀ r, ¬ S.ghost r) {cs : List AVal} {a : Addr} (hc : ∀ (i : Nat) (v : AVal), cs[i]? = some v → ∃ x, emb m v = some x ∧ w.cell? (a.add i) = some x) :
    Le m (m.add H.n (a, cs.length)) ∧ HRel S (m.add H.n (a, cs.length)) (H.push (.row cs false 0)) w ∧ RO (H.push (.row cs false 0)) := by
  have hm := le_add (m := m) (n := H.n) (a, cs.length) (h.fresh H.n (Nat.le_refl _))
  have hro' : RO (H.push (.row cs false 0)) := by
    intro r cs' rw e hg
    rw [getp] at hg
    split at hg
    · cases hg; rfl
    · exact hro _ _ _ _ hg
  refine ⟨hm, ⟨h.below, h.size, fun g hg => ?_, fun r hr => ?_, fun r hr => absurd hr (hgh r), fun r cs' rw e p hr hg hp => ?_, fun r s cs' rw e cs2 e2 p q hr hs hne hg1 hg2 => ?_, h.loops.push hm still (fun e => by cases e) fun r hr => add_ne hr⟩, hro'⟩
  · obtain ⟨k, hk⟩ := h.glob g hg
    exact ⟨k, hm _ _ hk⟩
  · have : r ≠ H.n := by simp only [np] at hr; omega
    rw [add_ne this]
    exact h.fresh r (by simp only [np] at hr; omega)
  · rw [getp] at hg
    by_cases hrn : r = H.n
    · rw [if_pos hrn] at hg
      cases hg
      rw [hrn, add_eq] at hp
      cases hp
      refine ⟨fun i v hi => ?_, Nat.le_refl _, fun q => by cases q⟩
      obtain ⟨x, h1, h2⟩ := hc i v hi
      exact ⟨x, emb_mono hm _ _ h1, h2⟩
    · rw [if_neg hrn] at hg
      rw [add_ne hrn] at hp
      exact (h.row r cs' rw e p (by simp only [np] at hr; omega) hg hp).mono hm (Keeps.refl _ _) (fun _ => rfl) fun _ => rfl
  · have := hro' _ _ _ _ hg2
    cases this
theorem some_bind {α β : Type} {x : Option α} {f : α → Option β} {y : β} (h : x.bind f = some y) : ∃ a, x = some a ∧ f a = some y := by
  cases x with
  | none => cases h
  | some a => exact ⟨a, rfl, h⟩
theorem some_map {α β : Type} {x : Option α} {f : α → β} {y : β} (h : x.map f = some y) : ∃ a, x = some a ∧ f a = y := by
  cases x with
  | none => cases h
  | some a => exact ⟨a, rfl, Option.some.inj h⟩
theorem mapM_cons_some {α β : Type} {f : α → Option β} {x : α} {l : List α} {r : List β} (h : (x :: l).mapM f = some r) : ∃ a t, f x = some a ∧ l.mapM f = some t ∧ r = a :: t := by
  rw [List.mapM_cons] at h
  obtain ⟨a, h1, h2⟩ := some_bind h
  obtain ⟨t, h3, h4⟩ := some_bind h2
  exact ⟨a, t, h1, h3, (Option.some.inj h4).symm⟩
theorem cells?_len {w : World} {base : Nat} {a : Addr} {n : Nat} {cs : List Value} (h : w.cells? base a n = some cs) : cs.length = n ∧ ∀ (i : Nat) (x : Value), cs[i]? = some x → w.cell? (a.add i) = some x := by
  unfold World.cells? at h
  split at h
  · have key : ∀ (l : List Nat) (cs : List Value), l.mapM (fun i => w.cell? (a.add i)) = some cs → cs.length = l.length ∧ ∀ (i : Nat) (x : Value), cs[i]? = some x → ∃ k : Nat, l[i]? = some k ∧ w.cell? (a.add k) = some x := by
      intro l
      induction l with
      | nil => intro cs h; simp at h; subst h; simp
      | cons k l ih =>
        intro cs h
        obtain ⟨v, t, h1, h2, rfl⟩ := mapM_cons_some h
        obtain ⟨h3, h4⟩ := ih t h2
        refine ⟨by simp [h3], fun i x hi => ?_⟩
        cases i with
        | zero => simp at hi; subst hi; exact ⟨k, rfl, h1⟩
        | succ i => simp at hi ⊢; exact h4 i x hi
    obtain ⟨h1, h2⟩ := key _ _ h
    refine ⟨by simpa using h1, fun i x hi => ?_⟩
    obtain ⟨k, h3, h4⟩ := h2 i x hi
    have hlt : i < n := by
      have := (List.getElem?_eq_some_iff.1 h3).1
      simpa using this
    rw [List.getElem?_range hlt] at h3
    cases h3
    exact h4
  · cases h
variable {Hd : Type} {enc : TypeId × Value → Hd} {base : Nat} {spare : Nat → Bool} {held : Bool} {T : TypeId → Prop}
def Opened (P : Program) (S : Base) (w : World) (m : RMap) (H : AHeap) (cs : List Value) (Q : AHeap → List AVal → Prop) : Prop :=
  ∃ H' m' acs, Ext H H' ∧ Le m m' ∧ HRel S m' H' w ∧ RO H' ∧ embL m' acs = some cs ∧ Q H' acs
theorem flatten_cut : ∀ (ss : List Nat) (cs : List Value), cs.length = ss.sum → ((List.range ss.length).map fun i => (cs.drop (ss.take i).sum).take (ss.getD i 0)).flatten = cs := by
  intro ss
  induction ss with
  | nil => intro cs h; simp at h; simp [h]
  | cons s ss ih =>
    intro cs h
    simp only [List.sum_cons] at h
    rw [List.length_cons, List.range_succ_eq_map, List.map_cons, List.flatten_cons, List.map_map]
    have : ((List.range ss.length).map ((fun i => (cs.drop ((s :: ss).take i).sum).take ((s :: ss).getD i 0)) ∘ Nat.succ)) = (List.range ss.length).map fun i => ((cs.drop s).drop (ss.take i).sum).take (ss.getD i 0) := by
      apply List.map_congr_left
      intro i _
      simp [List.drop_drop]
    rw [this, ih (cs.drop s) (by simp; omega)]
    simp
end
end Go.Am

namespace Go.Am
open Go
class PureCon (ext : Exts) (prog : FuncId → Option RFunc) (f : FuncId) (args : List AVal) (H : AHeap) (d : outParam Nat) (v : outParam AVal) : Prop where
  con : Con ext prog d f args H fun u H' => u = v ∧ Ext H H'
theorem call_ext {ext : Exts} {prog : FuncId → Option RFunc} {k f nt e : Nat} {args : List AVal} {res : List RRes} (h : prog f = some ⟨nt, .ext e, res⟩) : callN ext prog (k + 1) f args = ext e args := by
  simp only [callN, h, RFunc.run]
section
variable {ext : Exts} {prog : FuncId → Option RFunc} {fr : AFrame} {H : AHeap} {K : AVal → AHeap → Prop} {KF : AFrame → AHeap → Prop}
theorem WpX.pcall {n d D : Nat} {f : FuncId} {o : ROpd} {l : List ROpd} {args : List AVal} {v : AVal} (hn : fuel0 + D ≤ n) (hf : o.ev fr = .func (.func f) [] []) (hl : l.map (·.ev fr) = args) [hc : PureCon ext prog f args H d v] (hd : Nat.ble d D = true)
    (h : ∀ H1, ExtI H H1 → K v H1) : WpX (.call o l) (callN ext prog n) fr H K :=
  WpX.con hc.con (Nat.le_trans (Nat.add_le_add_left (Nat.le_of_ble_eq_true hd) _) hn) hf hl fun u H1 ⟨hu, hx⟩ => by subst hu; exact h H1 ⟨hx⟩
theorem WpX.conD {n d D : Nat} {f : FuncId} {o : ROpd} {l : List ROpd} {args : List AVal} {Q : AVal → AHeap → Prop} (hn : fuel0 + D ≤ n) (hd : Nat.ble d D = true) (hf : o.ev fr = .func (.func f) [] []) (hl : l.map (·.ev fr) = args) (hc : Con ext prog d f args H Q)
    (h : ∀ v H', Q v H' → K v H') : WpX (.call o l) (callN ext prog n) fr H K :=
  WpX.con hc (Nat.le_trans (Nat.add_le_add_left (Nat.le_of_ble_eq_true hd) _) hn) hf hl h
end
section
variable {call : ACall} {fr : AFrame} {H : AHeap} {K : AVal → AHeap → Prop} {KF : AFrame → AHeap → Prop}
theorem WpX.ldB {a : ROpd} {p : AVal} {j : Nat} {l : List UInt8} (ha : a.ev fr = .ptr (rowOf p) (offOf p + j)) [s : BytesI H p l] (hj : j < l.length) (h : K (.int .u8 (l[j].toNat : Int)) H) : WpX (.load none a) call fr H K := WpX.ldP ha (get_bytes hj) h
theorem WpX.ldI {a : ROpd} {p : AVal} {j : Nat} {l : List Int} (ha : a.ev fr = .ptr (rowOf p) (offOf p + j)) [s : IntsI H p l] (hj : j < l.length) (h : K (.int .i64 l[j]) H) : WpX (.load none a) call fr H K := WpX.ldP ha (get_ints hj) h
theorem WpX.stI {a x : ROpd} {p : AVal} {j : Nat} {l : List Int} {b : Int} (ha : a.ev fr = .ptr (rowOf p) (offOf p + j)) (hx : x.ev fr = .int .i64 b) [s : IntsI H p l] [w : WrS H p] (hj : j < l.length)
    (h : ∀ H1, IntsI H1 p (l.set j b) → WrS H1 p → ExtP H H1 p → K aundef H1) : WpX (.store 1 a x) call fr H K := by
  refine WpX.stP ha hx rfl rfl (by rw [cellsI_length]; exact hj) fun H1 h1 h2 h3 => h H1 ?_ h2 h3
  rw [set_ints] at h1
  unfold IntsI
  rw [List.length_set]
  exact h1
class OneV (v : AVal) : Prop where
  cells : v.cells = [v]
  one : v.one = true
instance {k : IntKind} {n : Int} : OneV (.int k n) := ⟨rfl, rfl⟩
instance {b : Bool} : OneV (.bool b) := ⟨rfl, rfl⟩
instance {b : ByteArray} : OneV (.str b) := ⟨rfl, rfl⟩
instance : OneV .nptr := ⟨rfl, rfl⟩
instance {r off : Nat} : OneV (.ptr r off) := ⟨rfl, rfl⟩
instance : OneV .nslice := ⟨rfl, rfl⟩
instance {r off len : Nat} {cap : Option Nat} {sz : Nat} : OneV (.slice r off len cap sz) := ⟨rfl, rfl⟩
instance {f : Fn} {a b : List AVal} : OneV (.func f a b) := ⟨rfl, rfl⟩
instance : OneV .nfunc := ⟨rfl, rfl⟩
instance : OneV .niface := ⟨rfl, rfl⟩
theorem SliceAt.one {H : AHeap} {p : AVal} {sz n : Nat} {cs : List AVal} (h : SliceAt H p sz n cs) : OneV p := by
  rcases h.it with ⟨rfl, _⟩ | ⟨r, off, cap, row, rw, e, rfl, _⟩ <;> infer_instance
theorem aFill1 {cells : List AVal} {off : Nat} {x : ROpd} {v : AVal} {rest : List (Nat × Nat × ROpd)} {r : Option (List AVal)} (hx : x.ev fr = v) [o : OneV v] (ho : Nat.ble (off + 1) cells.length = true) (h : aFill fr (cells.set off v) rest = r) : aFill fr cells ((off, 1, x) :: rest) = r := by
  have h1 : ¬ (off + 1 > cells.length) := by have := Nat.le_of_ble_eq_true ho; omega
  simp only [aFill, hx, o.cells, List.length_singleton, ne_eq, not_true, false_or, if_neg h1, setAt_one]
  exact h
theorem allOne_cons {v : AVal} {l : List AVal} [o : OneV v] (h : l.all AVal.one = true) : (v :: l).all AVal.one = true := by simp only [List.all_cons, o.one, h, Bool.and_self]
theorem getAllT {t : Nat} {rs : List RRes} {v : AVal} {vs : List AVal} (hv : fr t = v) (h : getAll fr rs H = some (vs, H)) : getAll fr (.tmp t :: rs) H = some (v :: vs, H) := by
  subst hv
  simp only [getAll, RRes.get, M.bind, M.pure, h]
theorem getAllC {t m r off : Nat} {cs l : List AVal} {rw : Bool} {e : TypeId} {rs : List RRes} {vs : List AVal} (ha : fr t = .ptr r off) [hg : HasRow H r cs rw e] (hv : Nat.ble (off + m) cs.length = true) (hl : (cs.drop off).take m = l) (h : getAll fr rs H = some (vs, H)) : getAll fr (.cell t (some m) :: rs) H = some (.agg l :: vs, H) := by
  subst hl
  simp only [getAll, RRes.get, ha, aLoad, M.bind, aRow, if_pos hg.lt, hg.get, if_pos (Nat.le_of_ble_eq_true hv), M.pure, h]
theorem getAllC1 {t r off : Nat} {cs : List AVal} {v : AVal} {rw : Bool} {e : TypeId} {rs : List RRes} {vs : List AVal} (ha : fr t = .ptr r off) [hg : HasRow H r cs rw e] (hv : cs[off]? = some v) (h : getAll fr rs H = some (vs, H)) : getAll fr (.cell t none :: rs) H = some (v :: vs, H) := by
  simp only [getAll, RRes.get, ha, aLoad, M.bind, aRow, if_pos hg.lt, hg.get, hv, M.pure, h]
end
end Go.Am

namespace Go.Am
open Go Go.RowKit Go.ChangeShapes Go.WideShapes
def aggTy (P : Program) (t : TypeId) : Bool := match P.underlying t with
  | some (.struct _) => true
  | some (.array _ _) => true
  | _ => false
def argV (P : Program) (t : TypeId) (acs : List AVal) : AVal := bif aggTy P t then .agg acs else acs.headD .nptr
def ArgS (P : Program) (H : AHeap) (n : Nat) : List TypeId → List AVal → Prop
  | [], avs => avs = []
  | t :: ts, avs => ∃ acs rest, avs = argV P t acs :: rest ∧ Shape P H n t acs ∧ ArgS P H n ts rest
theorem ArgS.ext {P : Program} {H H' : AHeap} (x : Ext H H') {n : Nat} : ∀ {ts : List TypeId} {avs : List AVal}, ArgS P H n ts avs → ArgS P H' n ts avs := by
  intro ts
  induction ts with
  | nil => intro avs h; exact h
  | cons t ts ih =>
    intro avs h
    obtain ⟨acs, rest, e, h1, h2⟩ := h
    exact ⟨acs, rest, e, h1.ext x, ih h2⟩
section
variable {P : Program} {S : Base} {m : RMap} {H : AHeap} {w : World} {Hd : Type} {enc : TypeId × Value → Hd} {T : TypeId → Prop}
theorem args_stay (K : Kids P T) (hz : ∀ t e, T t → P.underlying t = some (.slice e) → 0 < P.cellsOf e) {w' : World} (hb : Below w.heap.size w w') {sp : Nat → Bool} : ∀ {ts : List TypeId} {vs : List Value} {ds : List (DataW Hd)} {ps : List MemPlace}, (∀ t ∈ ts, T t) →
    DataW.TrodAll enc P w 0 (fun _ => true) true ts vs ds ps → (∀ p ∈ ps, p.block < w.heap.size) → (∀ p ∈ ps, sp p.block = true) → DataW.TrodAll enc P w' 0 sp true ts vs ds ps
  | [], [], [], _, _, h, _, _ => h
  | _ :: _, _ :: _, _ :: _, _, hT, ⟨p, q, h1, h2, e⟩, hlt, hs => by
    obtain ⟨f, hf⟩ := h1
    refine ⟨p, q, ⟨f, ?_⟩, args_stay K hz hb (fun t ht => hT t (List.mem_cons.2 (Or.inr ht))) h2 (fun x hx => hlt x (by rw [e]; exact List.mem_append_right _ hx)) fun x hx => hs x (by rw [e]; exact List.mem_append_right _ hx), e⟩
    exact DataW.trod_stays K (fun {t e} => hz t e) (by intro h; cases h) (hT _ (List.mem_cons.2 (Or.inl rfl))) hf (fun x hx => hb.same (hlt x (by rw [e]; exact List.mem_append_left _ hx))) fun x hx => hs x (by rw [e]; exact List.mem_append_left _ hx)
theorem post_true {fn : Func} {s : ChangeSpec} {apart fresh handsOn again : Bool} {w' : World} {args : Array Value} {ds gs : List (DataW Hd)} {before : List MemPlace} {tb : TypeId} (K : Kids P T) (hz : ∀ t e, T t → P.underlying t = some (.slice e) → 0 < P.cellsOf e) (hT : ∀ t ∈ fn.params.toList, T t)
    (hvars : s.vars = []) (hfn : s.fn Hd ds = { results := [.lit (.bool true)], args := ds }) (hrt : fn.resultTypes = #[tb]) (htb : P.underlying tb = some .bool)
    (hW : DataW.Whole enc P fn.params.toList s.vars apart w args.toList ds gs before) (hb : Below w.heap.size w w') : s.post enc P fn apart fresh handsOn again w args (.bool true) w' := by
  have hlt := hW.lt
  have hW' := hW
  obtain ⟨p, q, hA, hV, rfl, hfz, hnd⟩ := hW
  rw [hvars] at hV
  obtain ⟨rfl, rfl⟩ := trodVars_none hV
  rw [List.append_nil] at *
  have hv0 : ∀ sp : Nat → Bool, DataW.TrodVars enc P w' sp s.vars ([] : List (DataW Hd)) [] := fun sp => by rw [hvars]; rfl
  have hres : ∀ (b : Nat) (sp : Nat → Bool) (hd : Bool), DataW.TrodAll enc P w' b sp hd fn.resultTypes.toList ((Value.bool true).resultList fn.resultTypes.size) [.lit (.bool true)] [] := fun b sp hd => by
    rw [hrt]
    exact trodAll_cons_mk (shut_bool htb true) trodAll_mk0
  have hargs : ∀ sp : Nat → Bool, (∀ x ∈ p, sp x.block = true) → DataW.TrodAll enc P w' 0 sp true fn.params.toList args.toList ds p := fun sp hs => args_stay K hz hb hT hA hlt hs
  refine ⟨ds, [], p, [], p, [], hW', ?_, ?_, ?_, ?_, fun _ => ⟨?_, [.lit (.bool true)] ++ ds, [], p, ⟨p, [], ?_, hv0 _, by simp, ?_, hnd⟩, fun x hx _ => hx⟩⟩
  · rw [List.append_nil, hfn]; exact hres _ _ _
  · rw [List.append_nil, hfn]; exact hargs _ fun x hx => by simpa using hlt x hx
  · rw [List.append_nil, hfn]; exact hv0 _
  · exact hb.frame _
  · intro j t r hj hr
    rw [hrt] at hj hr
    cases j with
    | zero =>
      simp at hj
      subst hj
      simp [Value.resultList] at hr
      subst hr
      exact okWide_bool_mk htb _
    | succ j => simp at hj
  · simpa using trodAll_append (hargs (fun _ => true) fun _ _ => rfl) (hres 0 (fun _ => true) true)
  · intro b off hp
    have h1 := hlt _ hp
    rw [hb.frozen (p := ⟨b, off, none⟩) h1]
    exact hfz b off hp
end
section
variable {P : Program} {w : World} {Hd : Type} {enc : TypeId × Value → Hd} {base : Nat} {spare : Nat → Bool} {held : Bool} {T : TypeId → Prop}
end
end Go.Am

namespace Go.Am
open Go Go.RowKit
section
variable {P : Program} {H : AHeap} {n : Nat} {t e : TypeId} {cs : List AVal}
end
end Go.Am

namespace Go.Am
open Go Go.RowKit Go.ChangeShapes Go.WideShapes
def ShapeW (P : Program) (H : AHeap) : Nat → TypeId → List AVal → Prop
  | 0, _, _ => False
  | n + 1, t, cs => match P.underlying t with
    | some .bool => ∃ b, cs = [.bool b]
    | some .string => ∃ s : ByteArray, cs = [.str s] ∧ s.size ≤ reachBytes
    | some (.int k) => ∃ i, cs = [.int k i] ∧ (Lit.int k i).wf = true
    | some (.slice e) => ∃ p len cells, cs = [p] ∧ SliceAt H p (P.cellsOf e) len cells ∧ len * P.bytesOf e ≤ reachBytes ∧ shapes (ShapeW P H n) (List.replicate len e) cells
    | some (.struct fs) => shapes (ShapeW P H n) (fs.toList.map fun f => f.type) cs
    | some (.array k e) => shapes (ShapeW P H n) (List.replicate k e) cs
    | _ => False
theorem ShapeW.ext {P : Program} {H H' : AHeap} (x : Ext H H') : ∀ {n : Nat} {t : TypeId} {cs : List AVal}, ShapeW P H n t cs → ShapeW P H' n t cs := by
  intro n
  induction n with
  | zero => intro t cs h; exact h
  | succ n ih =>
    intro t cs h
    cases hu : P.underlying t with
    | none => simp only [ShapeW, hu] at h
    | some d => cases d with
      | slice e =>
        simp only [ShapeW, hu] at h ⊢
        obtain ⟨p, len, cells, h1, h2, h3, h4⟩ := h
        haveI : ExtI H H' := ⟨x⟩
        exact ⟨p, len, cells, h1, inferInstance, h3, shapes_mono (fun t a => ih) h4⟩
      | struct fs => simp only [ShapeW, hu] at h ⊢; exact shapes_mono (fun t a => ih) h
      | array k e => simp only [ShapeW, hu] at h ⊢; exact shapes_mono (fun t a => ih) h
      | _ => simp only [ShapeW, hu] at h ⊢ <;> exact h
theorem shapesW_ext {P : Program} {H H' : AHeap} (x : Ext H H') {n : Nat} {ts : List TypeId} {cs : List AVal} (h : shapes (ShapeW P H n) ts cs) : shapes (ShapeW P H' n) ts cs := shapes_mono (fun _ _ => ShapeW.ext x) h
def Slim (P : Program) {Hd : Type} (t : TypeId) (d : DataW Hd) : Prop := ∀ n ∈ d.weights P t, n ≤ reachBytes
theorem mem_weightsAll {P : Program} {Hd : Type} {e : TypeId} {d : DataW Hd} : ∀ {l : List (DataW Hd)}, d ∈ l → ∀ n ∈ d.weights P e, n ∈ DataW.weightsAll P e l
  | x :: r, h, n, hn => by
    simp only [DataW.weightsAll, List.mem_append]
    rcases List.mem_cons.1 h with rfl | h
    · exact Or.inl hn
    · exact Or.inr (mem_weightsAll h n hn)
section
variable {P : Program} {Hd : Type} {t e : TypeId}
theorem slim_str {s : List UInt8} (h : Slim P t (DataW.lit (H := Hd) (.string s))) : s.length ≤ reachBytes := h _ (by simp [DataW.weights])
theorem slim_slice {es sp : List (DataW Hd)} (hu : P.underlying t = some (.slice e)) (h : Slim P t (.slice es sp)) : (es.length + sp.length) * P.bytesOf e ≤ reachBytes ∧ ∀ d ∈ es, Slim P e d :=
  ⟨h _ (by simp [DataW.weights, hu]), fun d hd n hn => h n (by simp only [DataW.weights, hu, List.mem_cons, List.mem_append]; exact Or.inr (Or.inl (mem_weightsAll hd n hn)))⟩
theorem slim_struct {fs : Array Field} {ds : List (DataW Hd)} (hu : P.underlying t = some (.struct fs)) (h : Slim P t (.agg ds)) {i : Nat} {f : Field} {d : DataW Hd} (hf : fs.toList[i]? = some f) (hd : ds[i]? = some d) : Slim P f.type d :=
  fun n hn => h n (by simp only [DataW.weights, hu]; exact DataW.weights_mem_each (by rw [List.getElem?_map, hf]; rfl) hd n hn)
theorem slim_array {k : Nat} {ds : List (DataW Hd)} (hu : P.underlying t = some (.array k e)) (h : Slim P t (.agg ds)) {i : Nat} {d : DataW Hd} (hd : ds[i]? = some d) : Slim P e d :=
  fun n hn => h n (by simp only [DataW.weights, hu]; exact mem_weightsAll (List.mem_of_getElem? hd) n hn)
end
section
variable {P : Program} {S : Base} {m : RMap} {H : AHeap} {w : World}
variable {Hd : Type} {enc : TypeId × Value → Hd} {base : Nat} {spare : Nat → Bool} {held : Bool} {T : TypeId → Prop}
theorem open_piecesW {n f : Nat} (hgh : ∀ r, ¬ S.ghost r)
    (ih : ∀ (t : TypeId) (cs : List Value) (x : DataW Hd × List MemPlace) (m : RMap) (H : AHeap), T t → plainT P n t = true → DataW.trod enc P w base spare held f t cs = some x → Slim P t x.1 → HRel S m H w → RO H → Opened P S w m H cs fun H' acs => ShapeW P H' n t acs) :
    ∀ (ts : List TypeId) (pieces : List (List Value)) (m : RMap) (H : AHeap), ts.length = pieces.length → (∀ t ∈ ts, T t ∧ plainT P n t = true) → (∀ (i : Nat) (t : TypeId) (cs : List Value), ts[i]? = some t → pieces[i]? = some cs → ∃ x, DataW.trod enc P w base spare held f t cs = some x ∧ Slim P t x.1) → HRel S m H w → RO H →
    Opened P S w m H pieces.flatten fun H' acs => shapes (ShapeW P H' n) ts acs := by
  intro ts
  induction ts with
  | nil =>
    intro pieces m H hl _ _ h hro
    have : pieces = [] := List.eq_nil_of_length_eq_zero (by simpa using hl.symm)
    subst this
    exact ⟨H, m, [], Ext.refl H, Le.refl m, h, hro, by simp [embL], rfl⟩
  | cons t ts iht =>
    intro pieces m H hl hT hx h hro
    cases pieces with
    | nil => simp at hl
    | cons cs pieces =>
      obtain ⟨x, hx0, hs0⟩ := hx 0 t cs rfl rfl
      obtain ⟨ht, hp⟩ := hT t (by simp)
      obtain ⟨H1, m1, a, e1, l1, r1, o1, b1, s1⟩ := ih t cs x m H ht hp hx0 hs0 h hro
      obtain ⟨H2, m2, b, e2, l2, r2, o2, b2, s2⟩ := iht pieces m1 H1 (by simpa using hl) (fun t h => hT t (by simp [h])) (fun i t cs h1 h2 => hx (i + 1) t cs (by simpa using h1) (by simpa using h2)) r1 o1
      exact ⟨H2, m2, a ++ b, e1.trans e2, Le.trans l1 l2, r2, o2, by rw [List.flatten_cons]; exact embL_append (embL_mono l2 _ _ b1) b2, a, b, rfl, s1.ext e2, s2⟩
theorem open_trodW (hgh : ∀ r, ¬ S.ghost r) (K : Kids P T) (hz : ∀ t e, T t → P.underlying t = some (.slice e) → 0 < P.cellsOf e) : ∀ (n f : Nat) (t : TypeId) (cs : List Value) (x : DataW Hd × List MemPlace) (m : RMap) (H : AHeap), T t → plainT P n t = true →
    DataW.trod enc P w base spare held f t cs = some x → Slim P t x.1 → HRel S m H w → RO H → Opened P S w m H cs fun H' acs => ShapeW P H' n t acs := by
  intro n
  induction n with
  | zero => intro f t cs x m H _ hp; simp [plainT] at hp
  | succ n ih =>
    intro f t cs x m H hT hp hx hsl h hro
    unfold plainT at hp
    split at hp <;> rename_i hu
    · obtain ⟨b, rfl, _⟩ := DataW.trod_bool hu hx
      exact ⟨H, m, [.bool b], Ext.refl H, Le.refl m, h, hro, by simp [embL, emb], by simp [ShapeW, hu]⟩
    · obtain ⟨s, rfl, hxe, hs⟩ := DataW.trod_string hu hx
      exact ⟨H, m, [.str s], Ext.refl H, Le.refl m, h, hro, by simp [embL, emb], by simp only [ShapeW, hu]; exact ⟨s, rfl, slim_str (by rw [hxe] at hsl; exact hsl)⟩⟩
    · rename_i k
      obtain ⟨i, rfl, _, hw⟩ := DataW.trod_int hu hx
      exact ⟨H, m, [.int k i], Ext.refl H, Le.refl m, h, hro, by simp [embL, emb], by simp [ShapeW, hu, hw]⟩
    · -- slice
      rename_i e
      have he := K.slice hT hu
      have hz0 := hz t e hT hu
      rcases DataW.trod_slice hu hx with ⟨rfl, _⟩ | ⟨a, len, cap, elems, rest, n', hn', rfl, hxe, hb, hcond1, hcond2, hlen0, hel, _, _⟩
      · exact ⟨H, m, [.nslice], Ext.refl H, Le.refl m, h, hro, by simp [embL, emb], by simp only [ShapeW, hu]; exact ⟨.nslice, 0, [], rfl, ⟨Or.inl ⟨rfl, rfl, rfl⟩⟩, by simp, rfl⟩⟩
      · subst hn'
        rw [hxe] at hsl
        obtain ⟨hwt, hsm⟩ := slim_slice hu hsl
        have key : ∀ (k : Nat), k ≤ len → ∃ pieces : List (List Value), pieces.length = k ∧ ∀ i, i < k → ∃ cs x, pieces[i]? = some cs ∧ w.cells? base (a.add (i * P.cellsOf e)) (P.cellsOf e) = some cs ∧ DataW.trod enc P w base spare held n' e cs = some x ∧ Slim P e x.1 := by
          intro k
          induction k with
          | zero => intro _; exact ⟨[], rfl, fun i h => by omega⟩
          | succ k ihk =>
            intro hk
            obtain ⟨pieces, h7, h8⟩ := ihk (by omega)
            have h9 := hel k (by omega)
            rw [List.getElem?_eq_getElem (by omega)] at h9
            obtain ⟨cs, h10, h11⟩ := some_bind h9
            have h12 : Slim P e (elems[k]'(by omega)).1 := hsm _ (List.mem_map.2 ⟨_, List.getElem_mem (by omega), rfl⟩)
            refine ⟨pieces ++ [cs], by simp [h7], fun i hi => ?_⟩
            by_cases hik : i < k
            · obtain ⟨c, x, q1, q2, q3⟩ := h8 i hik
              exact ⟨c, x, by rw [List.getElem?_append_left (by omega)]; exact q1, q2, q3⟩
            · obtain rfl : i = k := by omega
              exact ⟨cs, _, by rw [List.getElem?_append_right (by omega)]; simp [h7], h10, h11, h12⟩
        obtain ⟨pieces, hpl, hpi'⟩ := key len (Nat.le_refl _)
        skip
        obtain ⟨H1, m1, acs, e1, l1, r1, o1, b1, s1⟩ := open_piecesW (P := P) (T := T) (n := n) (f := n') (enc := enc) (base := base) (spare := spare) (held := held) hgh (ih n') (List.replicate len e) pieces m H (by simp [hpl]) (fun t ht => by rw [(List.mem_replicate.1 ht).2]; exact ⟨he, hp⟩)
          (fun i t cs h3 h4 => by
            have hi : i < len := by have := (List.getElem?_eq_some_iff.1 h3).1; simpa using this
            obtain ⟨c, x, q1, q2, q3⟩ := hpi' i hi
            rw [List.getElem?_replicate, if_pos hi] at h3
            cases h3
            rw [q1] at h4; cases h4
            exact ⟨x, q3.1, q3.2⟩) h hro
        have hall : ∀ c ∈ pieces, c.length = P.cellsOf e := fun c hc => by
          obtain ⟨i, hi⟩ := List.getElem?_of_mem hc
          have hlt : i < len := by have := (List.getElem?_eq_some_iff.1 hi).1; omega
          obtain ⟨c', x, q1, q2, q3⟩ := hpi' i hlt
          rw [hi] at q1; cases q1
          exact (cells?_len q2).1
        have hcells : ∀ (i : Nat) (x : Value), pieces.flatten[i]? = some x → w.cell? (a.add i) = some x := by
          have gen : ∀ (ps : List (List Value)) (o : Nat), (∀ c ∈ ps, c.length = P.cellsOf e) → (∀ i c, ps[i]? = some c → ∀ k x, c[k]? = some x → w.cell? (a.add ((o + i) * P.cellsOf e + k)) = some x) → ∀ (i : Nat) (x : Value), ps.flatten[i]? = some x → w.cell? (a.add (o * P.cellsOf e + i)) = some x := by
            intro ps
            induction ps with
            | nil => intro o _ _ i x h; simp at h
            | cons c ps ihp =>
              intro o hl hc i x hi
              rw [List.flatten_cons] at hi
              have hcl := hl c (by simp)
              by_cases hic : i < c.length
              · rw [List.getElem?_append_left hic] at hi
                simpa using hc 0 c rfl i x hi
              · rw [List.getElem?_append_right (by omega)] at hi
                have := ihp (o + 1) (fun c h => hl c (by simp [h])) (fun j c hj k x hk => by
                  have := hc (j + 1) c (by simpa using hj) k x hk
                  rwa [show o + (j + 1) = o + 1 + j by omega] at this) (i - c.length) x hi
                have e3 : (o + 1) * P.cellsOf e + (i - c.length) = o * P.cellsOf e + i := by rw [Nat.add_mul]; omega
                rwa [e3] at this
          intro i x hi
          have := gen pieces 0 hall (fun j c hj k x hk => by
            have hlt : j < len := by have := (List.getElem?_eq_some_iff.1 hj).1; omega
            obtain ⟨c', y, q1, q2, q3⟩ := hpi' j hlt
            rw [hj] at q1; cases q1
            have := (cells?_len q2).2 k x hk
            rw [add_add] at this
            simpa using this) i x hi
          simpa using this
        have hflen : acs.length = len * P.cellsOf e := by
          have h3 := embL_length b1
          rw [← h3]
          have : ∀ (ps : List (List Value)), (∀ c ∈ ps, c.length = P.cellsOf e) → ps.flatten.length = ps.length * P.cellsOf e := by
            intro ps
            induction ps with
            | nil => intro _; simp
            | cons c ps ihp => intro hl; rw [List.flatten_cons, List.length_append, hl c (by simp), ihp (fun c h => hl c (by simp [h])), List.length_cons, Nat.add_mul]; omega
          rw [this pieces hall, hpl]
        obtain ⟨g1, g2, g3⟩ := r1.addRow o1 hgh (cs := acs) (a := a) (fun i v hi => by
          obtain ⟨x, q1, q2⟩ := embL_get b1 hi
          exact ⟨x, q1, hcells i x q2⟩)
        refine ⟨H1.push (.row acs false 0), _, [.slice H1.n 0 len (some cap) (P.cellsOf e)], e1.push _, Le.trans l1 g1, g2, g3, ?_, ?_⟩
        · simp [embL, emb, add_eq, capR, Addr.add]
        · simp only [ShapeW, hu]
          refine ⟨_, len, acs, rfl, ⟨Or.inr ⟨H1.n, 0, some cap, acs, false, 0, rfl, Nat.lt_succ_self _, push_get_eq, by omega, ?_, by simp only [capD]; omega⟩⟩, by rw [List.length_map, hlen0] at hwt; exact Nat.le_trans (Nat.mul_le_mul_right _ (Nat.le_add_right _ _)) hwt, shapesW_ext ((Ext.refl H1).push _) s1⟩
          rw [List.drop_zero, List.take_of_length_le (by omega)]
    · -- struct
      rename_i fs
      obtain ⟨hk1, hk2, hk3⟩ := K.struct hT hu
      obtain ⟨xs, n', hn', hxe, hlen, hxl, hxs⟩ := DataW.trod_struct hu hx
      subst hn'
      rw [hxe] at hsl
      have key : ∀ (i : Nat) (f : Field), fs.toList[i]? = some f → ∃ x, DataW.trod enc P w base spare held n' f.type ((cs.drop f.offset).take (P.cellsOf f.type)) = some x ∧ Slim P f.type x.1 := fun i f hf => by
        have hlt : i < fs.size := by have := (List.getElem?_eq_some_iff.1 hf).1; simpa using this
        have := hxs i f (by simpa using hf)
        rw [List.getElem?_eq_getElem (by omega)] at this
        exact ⟨_, this, slim_struct hu hsl (i := i) hf (by rw [List.getElem?_map, List.getElem?_eq_getElem (by omega)]; rfl)⟩
      have hsz : (fs.toList.map fun f => P.cellsOf f.type).length = fs.toList.length := by simp
      have hcut := flatten_cut (fs.toList.map fun f => P.cellsOf f.type) cs (by rw [hlen, hk2])
      obtain ⟨H1, m1, acs, e1, l1, r1, o1, b1, s1⟩ := open_piecesW (P := P) (T := T) (n := n) (f := n') (enc := enc) (base := base) (spare := spare) (held := held) hgh (ih n') (fs.toList.map fun f => f.type) _ m H (by simp [hsz] : _ = ((List.range (fs.toList.map fun f => P.cellsOf f.type).length).map fun i => (cs.drop ((fs.toList.map fun f => P.cellsOf f.type).take i).sum).take ((fs.toList.map fun f => P.cellsOf f.type).getD i 0)).length)
        (fun t ht => by
          obtain ⟨f, hf, rfl⟩ := List.mem_map.1 ht
          exact ⟨hk1 f hf, List.all_eq_true.1 hp f hf⟩)
        (fun i t c h3 h4 => by
          rw [List.getElem?_map] at h3
          obtain ⟨f, hf, rfl⟩ := some_map h3
          obtain ⟨x, hx1, hx2⟩ := key i f hf
          have hi : i < fs.toList.length := (List.getElem?_eq_some_iff.1 hf).1
          rw [List.getElem?_map, List.getElem?_range (by simpa using hi)] at h4
          simp only [Option.map_some, Option.some.injEq] at h4
          have h5 : (fs.toList.map fun f => P.cellsOf f.type).getD i 0 = P.cellsOf f.type := by simp only [List.getD_eq_getElem?_getD, List.getElem?_map, hf, Option.map_some, Option.getD_some]
          have h6 := hk3 i f hf
          rw [List.map_take] at h6
          rw [h5, ← h6] at h4
          subst h4
          exact ⟨x, hx1, hx2⟩) h hro
      rw [hcut] at b1
      exact ⟨H1, m1, acs, e1, l1, r1, o1, b1, by simp only [ShapeW, hu]; exact s1⟩
    · -- array
      rename_i k e
      obtain ⟨he, hsz⟩ := K.array hT hu
      obtain ⟨xs, n', hn', hxe, hlen, hxl, hxs⟩ := DataW.trod_array hu hx
      subst hn'
      rw [hxe] at hsl
      have key : ∀ (i : Nat), i < k → ∃ x, DataW.trod enc P w base spare held n' e ((cs.drop (i * P.cellsOf e)).take (P.cellsOf e)) = some x ∧ Slim P e x.1 := fun i hi => by
        have := hxs i hi
        rw [List.getElem?_eq_getElem (by omega)] at this
        exact ⟨_, this, slim_array hu hsl (i := i) (by rw [List.getElem?_map, List.getElem?_eq_getElem (by omega)]; rfl)⟩
      have hcut := flatten_cut (List.replicate k (P.cellsOf e)) cs (by rw [hlen, hsz]; simp)
      obtain ⟨H1, m1, acs, e1, l1, r1, o1, b1, s1⟩ := open_piecesW (P := P) (T := T) (n := n) (f := n') (enc := enc) (base := base) (spare := spare) (held := held) hgh (ih n') (List.replicate k e) _ m H (by simp : _ = ((List.range (List.replicate k (P.cellsOf e)).length).map fun i => (cs.drop ((List.replicate k (P.cellsOf e)).take i).sum).take ((List.replicate k (P.cellsOf e)).getD i 0)).length)
        (fun t ht => by rw [(List.mem_replicate.1 ht).2]; exact ⟨he, hp⟩)
        (fun i t c h3 h4 => by
          have hi : i < k := by have := (List.getElem?_eq_some_iff.1 h3).1; simpa using this
          rw [List.getElem?_replicate, if_pos hi] at h3
          cases h3
          obtain ⟨x, hx1, hx2⟩ := key i hi
          rw [List.getElem?_map, List.getElem?_range (by simpa using hi)] at h4
          simp only [Option.map_some, Option.some.injEq] at h4
          have h5 : (List.replicate k (P.cellsOf e)).getD i 0 = P.cellsOf e := by simp [List.getD_eq_getElem?_getD, List.getElem?_replicate, hi]
          have h6 : ((List.replicate k (P.cellsOf e)).take i).sum = i * P.cellsOf e := by simp [List.take_replicate, Nat.min_eq_left (Nat.le_of_lt hi)]
          rw [h5, h6] at h4
          subst h4
          exact ⟨x, hx1, hx2⟩) h hro
      rw [hcut] at b1
      exact ⟨H1, m1, acs, e1, l1, r1, o1, b1, by simp only [ShapeW, hu]; exact s1⟩
    · cases hp
end
end Go.Am

namespace Go.Am
open Go Go.RowKit Go.ChangeShapes Go.WideShapes
def ArgSW (P : Program) (H : AHeap) (n : Nat) : List TypeId → List AVal → Prop
  | [], avs => avs = []
  | t :: ts, avs => ∃ acs rest, avs = argV P t acs :: rest ∧ ShapeW P H n t acs ∧ ArgSW P H n ts rest
theorem ArgSW.ext {P : Program} {H H' : AHeap} (x : Ext H H') {n : Nat} : ∀ {ts : List TypeId} {avs : List AVal}, ArgSW P H n ts avs → ArgSW P H' n ts avs := by
  intro ts
  induction ts with
  | nil => intro avs h; exact h
  | cons t ts ih =>
    intro avs h
    obtain ⟨acs, rest, e, h1, h2⟩ := h
    exact ⟨acs, rest, e, h1.ext x, ih h2⟩
section
variable {P : Program} {S : Base} {m : RMap} {H : AHeap} {w : World} {Hd : Type} {enc : TypeId × Value → Hd} {T : TypeId → Prop}
theorem open_argW (hgh : ∀ r, ¬ S.ghost r) (K : Kids P T) (hz : ∀ t e, T t → P.underlying t = some (.slice e) → 0 < P.cellsOf e) {n : Nat} {t : TypeId} {v : Value} {d : DataW Hd} {ps : List MemPlace} (hT : T t) (hp : plainT P n t = true)
    (hok : Value.okWide P w .any 0 t v ∨ ∃ b, Value.okWide P w .any b t v) (hd : DataW.Trod enc P w 0 (fun _ => true) true t v d ps) (hsl : Slim P t d) (h : HRel S m H w) (hro : RO H) :
    ∃ H' m' acs, Ext H H' ∧ Le m m' ∧ HRel S m' H' w ∧ RO H' ∧ emb m' (argV P t acs) = some v ∧ ShapeW P H' n t acs := by
  obtain ⟨b, hok⟩ : ∃ b, Value.okWide P w .any b t v := by rcases hok with h | h; exact ⟨0, h⟩; exact h
  obtain ⟨f, hf⟩ := hd
  obtain ⟨H', m', acs, h1, h2, h3, h4, h5, h6⟩ := open_trodW hgh K hz n f t _ _ m H hT hp hf hsl h hro
  refine ⟨H', m', acs, h1, h2, h3, h4, ?_, h6⟩
  have one : v.cells = #[v] → aggTy P t = false → emb m' (argV P t acs) = some v := by
    intro hc ha
    rw [hc] at h5
    have hl := embL_length h5
    match acs, hl with
    | [a], _ =>
      obtain ⟨x, xs, q1, q2, q3⟩ := embL_cons h5
      simp at q3
      simp only [argV, ha, cond_false, List.headD_cons]
      rw [q1, q3.1]
  cases n with
  | zero => simp [plainT] at hp
  | succ n =>
    unfold plainT at hp
    split at hp <;> rename_i hu
    · obtain ⟨b, rfl⟩ := okWide_bool hu hok
      exact one rfl (by simp [aggTy, hu])
    · obtain ⟨b, rfl⟩ := okWide_string hu hok
      exact one rfl (by simp [aggTy, hu])
    · obtain ⟨b, rfl⟩ := okWide_int hu hok
      exact one rfl (by simp [aggTy, hu])
    · obtain ⟨a, len, cap, rfl⟩ := okWide_slice hu hok
      exact one rfl (by simp [aggTy, hu])
    · obtain ⟨cs, rfl, _⟩ := okWide_struct hu hok
      have ha : aggTy P t = true := by simp [aggTy, hu]
      simp only [argV, ha, cond_true, emb]
      simp only [Value.cells] at h5
      rw [h5]
    · have hcs : ∃ cs, v = .agg cs := by
        simp only [Value.okWide, hu] at hok
        obtain ⟨cs, e, _⟩ := hok
        exact ⟨cs, e⟩
      obtain ⟨cs, rfl⟩ := hcs
      have ha : aggTy P t = true := by simp [aggTy, hu]
      simp only [argV, ha, cond_true, emb]
      simp only [Value.cells] at h5
      rw [h5]
    · cases hp
theorem open_argsW (hgh : ∀ r, ¬ S.ghost r) (K : Kids P T) (hz : ∀ t e, T t → P.underlying t = some (.slice e) → 0 < P.cellsOf e) {n b : Nat} : ∀ (ts : List TypeId) (vs : List Value) (ds : List (DataW Hd)) (ps : List MemPlace) (m : RMap) (H : AHeap), (∀ t ∈ ts, T t ∧ plainT P n t = true) →
    (∀ (j : Nat) t v, ts[j]? = some t → vs[j]? = some v → Value.okWide P w .any b t v) → DataW.TrodAll enc P w 0 (fun _ => true) true ts vs ds ps → (∀ (j : Nat) t d, ts[j]? = some t → ds[j]? = some d → Slim P t d) → HRel S m H w → RO H →
    ∃ H' m' avs, Ext H H' ∧ Le m m' ∧ HRel S m' H' w ∧ RO H' ∧ embL m' avs = some vs ∧ ArgSW P H' n ts avs := by
  intro ts
  induction ts with
  | nil =>
    intro vs ds ps m H _ _ hd _ h hro
    obtain ⟨rfl, _, _⟩ := trodAll_nil hd
    exact ⟨H, m, [], Ext.refl H, Le.refl m, h, hro, by simp [embL], rfl⟩
  | cons t ts ih =>
    intro vs ds ps m H hT hok hd hsl h hro
    obtain ⟨v, vs', d, ds', p, q, rfl, rfl, rfl, h1, h2⟩ := trodAll_cons hd
    obtain ⟨hTt, hpt⟩ := hT t (by simp)
    obtain ⟨H1, m1, acs, e1, l1, r1, o1, b1, s1⟩ := open_argW hgh K hz hTt hpt (Or.inr ⟨b, hok 0 t v rfl rfl⟩) h1 (hsl 0 t d rfl rfl) h hro
    obtain ⟨H2, m2, avs, e2, l2, r2, o2, b2, s2⟩ := ih vs' ds' q m1 H1 (fun t h => hT t (by simp [h])) (fun j t v q1 q2 => hok (j + 1) t v (by simpa using q1) (by simpa using q2)) h2 (fun j t d q1 q2 => hsl (j + 1) t d (by simpa using q1) (by simpa using q2)) r1 o1
    exact ⟨H2, m2, argV P t acs :: avs, e1.trans e2, Le.trans l1 l2, r2, o2, embL_mk (emb_mono l2 _ _ b1) b2, acs, avs, rfl, s1.ext e2, s2⟩
end
theorem law_callsW {P : Program} {ext : Exts} {prog : FuncId → Option RFunc} {f : FuncId} {fn : Func} {c : Code} {s : ChangeSpec} {apart fresh handsOn again : Bool} {tb : TypeId} {tabs : List (Nat × List AVal)} {n d : Nat}
    (hmix : P.follows .mixedOrders = true) (hP : ProgOk P ext prog) (hfn : P.funcs[f]? = some fn) (hb : fn.body = some c) (hname : fn.name ≠ "runtime.NumGoroutine")
    (hl : laidOutB P = true) (hm : mapsRowed P = true) (hz : ∀ t e, t < P.types.size → P.underlying t = some (.slice e) → 0 < P.cellsOf e) (hplain : (fn.params.toList.all fun t => decide (t < P.types.size) && plainT P n t) = true)
    (hvars : s.vars = []) (hrt : fn.resultTypes = #[tb]) (htb : P.underlying tb = some .bool) (htabs0 : tablesIn tabs (tableHeap P.globals.size tabs) = true) (htabs : (tabs.all fun t => Nat.blt t.1 P.globals.size && t.2.all plainV) = true)
    (hcon : ∀ (H : AHeap) (avs : List AVal), tablesIn tabs H = true → ArgSW P H n fn.params.toList avs → Con ext prog d f avs H fun v H' => v = .bool true ∧ Ext H H')
    (Hd : Type) (enc : TypeId × Value → Hd) (W : World) (base : Nat) (args : Array Value) (ds gs : List (DataW Hd)) (before : List MemPlace)
    (hspec : s.fn Hd ds = { results := [.lit (.bool true)], args := ds })
    (hval : ∀ (j : Nat) t v, fn.params[j]? = some t → args[j]? = some v → Value.okWide P W .any base t v) (hW : DataW.Whole enc P fn.params.toList s.vars apart W args.toList ds gs before)
    (hsl : ∀ (j : Nat) t d, fn.params.toList[j]? = some t → ds[j]? = some d → Slim P t d)
    (hcells : ∀ t ∈ tabs, ∀ (i : Nat) (v : AVal), t.2[i]? = some v → ∃ x, emb (fun _ => none) v = some x ∧ W.cell? ⟨t.1, i, none⟩ = some x) :
    Calls P f args W fun e W' => ∃ v, e = .returned v ∧ s.post enc P fn apart fresh handsOn again W args v W' := by
  have K := kids_rows (P := P) hl hm
  have hpl := List.all_eq_true.1 hplain
  have hT : ∀ t ∈ fn.params.toList, t < P.types.size ∧ plainT P n t = true := fun t ht => by
    have := hpl t ht
    simpa using this
  have htab := List.all_eq_true.1 htabs
  -- the tables
  have hrel : HRel ⟨W.heap.size, W, P.globals.size, fun _ => False, cCode P⟩ (globMap P.globals.size (longest tabs)) (tableHeap P.globals.size tabs) W := by
    refine ⟨Below.refl _ _, Nat.le_refl _, fun g hg => ⟨longest tabs, by simp only at hg; simp [globMap, hg]⟩, fun r hr => by simp only [tableHeap] at hr; simp [globMap]; omega, fun r hr => hr.elim, ?_, ?_, ⟨fun r R p _ h _ => absurd h tableObj_loop, fun r s R R' p q L L' _ _ _ h => absurd h tableObj_loop, ⟨fun r es p _ h _ => absurd h tableObj_map, fun r s es es' p q _ _ _ h => absurd h tableObj_map⟩, ⟨fun r s k p _ h _ => absurd h tableObj_iter, fun r r' s k s' k' p q _ _ _ h => absurd h tableObj_iter⟩⟩⟩
    · intro r cs rw e p hr hg hp
      obtain ⟨hmem, rfl⟩ := tableObj_row hg
      have hT1 := htab _ hmem
      simp only [Bool.and_eq_true] at hT1
      have hrG : r < P.globals.size := by simpa using hT1.1
      have hp' : p = (⟨r, 0, none⟩, longest tabs) := by simp only [globMap, hrG, if_true] at hp; exact (Option.some.inj hp).symm
      subst hp'
      refine ⟨fun i v hi => ?_, le_longest hmem, fun q => by cases q⟩
      obtain ⟨x, h1, h2⟩ := hcells _ hmem i v hi
      have hv : plainV v = true := List.all_eq_true.1 hT1.2 v (List.mem_of_getElem? hi)
      refine ⟨x, by rw [plain_emb hv _ (fun _ => none)]; exact h1, ?_⟩
      cases i <;> simpa [Addr.add] using h2
    · intro r s' cs rw e cs' e' p q hr hs hne hg1 hg2 hp hq
      exact absurd (tableObj_row hg2).2 (by decide)
  have hro : RO (tableHeap P.globals.size tabs) := fun r cs rw e hg => (tableObj_row hg).2
  obtain ⟨p, q, hA, hrest⟩ := hW
  obtain ⟨H', m', avs, e1, l1, r1, o1, b1, s1⟩ := open_argsW (P := P) (T := (· < P.types.size)) (fun _ h => h) K hz (n := n) (b := base) fn.params.toList args.toList ds p _ _ hT (fun j t v q1 q2 => hval j t v (by simpa using q1) (by simpa using q2)) hA hsl hrel hro
  have htabs' : tablesIn tabs H' = true := by
    refine List.all_eq_true.2 fun t ht => ?_
    have hT1 := htab _ ht
    simp only [Bool.and_eq_true] at hT1 ⊢
    have htG : t.1 < P.globals.size := by simpa using hT1.1
    have hlt : t.1 < (tableHeap P.globals.size tabs).n := htG
    have hn : t.1 < H'.n := Nat.lt_of_lt_of_le hlt e1.n
    have h0 := List.all_eq_true.1 htabs0 t ht
    simp only [Bool.and_eq_true] at h0
    refine ⟨by simpa using hn, ?_⟩
    rw [e1.get _ hlt]
    exact h0.2
  have hc := calls_of_evs hmix hP rfl rfl hfn hb hname r1 (args := avs) (vargs := args) b1 (hcon H' avs htabs' s1).evs
  refine hc.mono fun e W' ⟨x, v, H2, he, ⟨hv, hx2⟩, m2, hl2, hemb, hr2⟩ => ?_
  subst hv
  simp only [emb, Option.some.injEq] at hemb
  subst hemb
  exact ⟨_, he, post_true (T := (· < P.types.size)) K hz (fun t ht => (hT t ht).1) hvars hspec hrt htb ⟨p, q, hA, hrest⟩ hr2.below⟩
section
variable {P : Program} {H : AHeap} {n : Nat} {t e : TypeId} {cs : List AVal}
theorem shapeW_int {k : IntKind} (hu : P.underlying t = some (.int k)) (h : ShapeW P H (n + 1) t cs) : ∃ i, cs = [.int k i] ∧ (Lit.int k i).wf = true := by simpa only [ShapeW, hu] using h
theorem shapeW_str (hu : P.underlying t = some .string) (h : ShapeW P H (n + 1) t cs) : ∃ s : ByteArray, cs = [.str s] ∧ s.size ≤ reachBytes := by simpa only [ShapeW, hu] using h
theorem shapeW_struct {fs : Array Field} (hu : P.underlying t = some (.struct fs)) (h : ShapeW P H (n + 1) t cs) : shapes (ShapeW P H n) (fs.toList.map fun f => f.type) cs := by simpa only [ShapeW, hu] using h
end
section
variable {P : Program} {H : AHeap} {n : Nat} {t e : TypeId} {cs : List AVal}
theorem slim_all {ts : List TypeId} {Hd : Type} {ds : List (DataW Hd)} (h : (DataW.weightsEach P ts ds).all (· ≤ reachBytes) = true) : ∀ (j : Nat) t d, ts[j]? = some t → ds[j]? = some d → Slim P t d := fun j t d h1 h2 n hn => by
  have := List.all_eq_true.1 h n (DataW.weights_mem_each h1 h2 n hn)
  simpa using this
end
end Go.Am

namespace Go.Am
open Go
def aBytesFn (f : List UInt8 → AVal) : AVal → M AVal
  | .nslice => M.pure (f [])
  | .str s => M.pure (f s.data.toList)
  | .slice r off len _ s => if s ≠ 1 then M.fail else M.bind (aRow r) fun (cs, _) => if off + len ≤ cs.length then match bytesOf ((cs.drop off).take len) with
      | some l => M.pure (f l)
      | none => M.fail
    else M.fail
  | _ => M.fail
def aCount : List AVal → M AVal
  | [x, .int .u8 b] => aBytesFn (fun l => .int .i64 (Lib.countByte l (UInt8.ofNat b.toNat))) x
  | _ => M.fail
def aIndexByte : List AVal → M AVal
  | [x, .int .u8 b] => aBytesFn (fun l => .int .i64 (Lib.indexByte l (UInt8.ofNat b.toNat))) x
  | _ => M.fail
def aSelf : List AVal → M AVal
  | [x] => M.pure x
  | _ => M.fail
end Go.Am

namespace Go.Am
open Go Go.RowKit
def dg (n : Nat) : UInt8 := UInt8.ofNat (48 + n)
def digs (n : Nat) : List UInt8 := if n < 10 then [dg n] else if n < 100 then [dg (n / 10), dg (n % 10)] else [dg (n / 100), dg (n / 10 % 10), dg (n % 10)]
section
variable {P : Program}
def aFam (T : List (Nat × List AVal)) (F : List AVal → Option AVal) (args : List AVal) : M AVal := fun H => match tablesIn T H, F args with | true, some v => some (v, H) | _, _ => none
theorem plain_embL {l : List AVal} (h : l.all plainV = true) (m m' : RMap) : embL m l = embL m' l := by
  induction l with
  | nil => simp [embL]
  | cons a l ih =>
    rw [List.all_cons, Bool.and_eq_true] at h
    simp only [embL, plain_emb h.1 m m', ih h.2]
theorem ext_fam (hmix : P.follows .mixedOrders = true) {ext0 : Exts} {prog0 : FuncId → Option RFunc} (hP : ProgOk P ext0 prog0) {T : List (Nat × List AVal)} {F : List AVal → Option AVal} {f : FuncId} {fn : Func} (hfn : P.funcs[f]? = some fn)
    {n : Nat} (hT : (T.all fun t => Nat.blt t.1 P.globals.size && t.2.all plainV) = true) (hF : ∀ args v, F args = some v → args.all plainV = true ∧ plainV v = true ∧ ∃ H', callN ext0 prog0 n f args (tableHeap P.globals.size T) = some (v, H'))
    {ext : Exts} {k : Nat} (hk : ext k = aFam T F) : ExtSim P ext f k := by
  intro S args H u H' m w vargs hG hx h ha
  rw [hk] at hx
  unfold aFam at hx
  cases ht : tablesIn T H with
  | false => simp only [ht] at hx; cases hx
  | true =>
  cases hFa : F args with
  | none => simp only [ht, hFa] at hx; cases hx
  | some v =>
      simp only [ht, hFa, Option.some.injEq, Prod.mk.injEq] at hx
      obtain ⟨rfl, rfl⟩ := hx
      obtain ⟨hpa, hv, H1, hrun⟩ := hF _ _ hFa
      simp only [tablesIn, List.all_eq_true, Bool.and_eq_true] at ht hT
      have hrel : HRel ⟨w.heap.size, w, P.globals.size, fun _ => False, cCode P⟩ (globMap P.globals.size (longest T)) (tableHeap P.globals.size T) w := by
        refine ⟨Below.refl _ _, Nat.le_refl _, fun g hg => ⟨longest T, by simp only at hg; simp [globMap, hg]⟩, fun r hr => by simp only [tableHeap] at hr; simp [globMap]; omega, fun r hr => hr.elim, ?_, ?_, ⟨fun r R p _ h _ => absurd h tableObj_loop, fun r s R R' p q L L' _ _ _ h => absurd h tableObj_loop, ⟨fun r es p _ h _ => absurd h tableObj_map, fun r s es es' p q _ _ _ h => absurd h tableObj_map⟩, ⟨fun r s k p _ h _ => absurd h tableObj_iter, fun r r' s k s' k' p q _ _ _ h => absurd h tableObj_iter⟩⟩⟩
        · intro r cs rw e p hr hg hp
          obtain ⟨hmem, rfl⟩ := tableObj_row hg
          have hT1 := hT _ hmem
          have ht1 := ht _ hmem
          simp only [] at hT1 ht1
          have hrG : r < P.globals.size := by simpa using hT1.1
          have hp' : p = (⟨r, 0, none⟩, longest T) := by simp only [globMap, hrG, if_true] at hp; exact (Option.some.inj hp).symm
          subst hp'
          obtain ⟨k, hmk⟩ := h.glob r (by rw [hG]; exact hrG)
          have hrn : r < H.n := by simpa using ht1.1
          cases hgr : H.get r with
          | row cs' rw' e' =>
            have ht2 := ht1.2
            rw [hgr] at ht2
            simp only [] at ht2
            have hcs := abeqL_eq ht2
            subst hcs
            have hok := h.row r cs' rw' e' _ hrn hgr hmk
            refine ⟨fun i u hi => ?_, le_longest hmem, fun q => by cases q⟩
            obtain ⟨x, h1, h2⟩ := hok.cell i u hi
            have hpl : plainV u = true := hT1.2 u (List.mem_of_getElem? hi)
            exact ⟨x, by rw [plain_emb hpl _ m]; exact h1, h2⟩
          | _ => have ht2 := ht1.2; rw [hgr] at ht2; cases ht2
        · intro r s cs rw e cs' e' p q hr hs hne hg1 hg2 hp hq
          exact absurd (tableObj_row hg2).2 (by decide)
      have hy := sim_callN hmix hP n ⟨w.heap.size, w, P.globals.size, fun _ => False, cCode P⟩ rfl rfl f args (tableHeap P.globals.size T) v H1 (globMap P.globals.size (longest T)) w vargs hrun hrel (by rw [plain_embL hpa _ m]; exact ha)
      rw [hP.sem hfn] at hy
      refine hy.mono fun x w' ⟨m', _, hx, hrel'⟩ => ?_
      exact ⟨m, Le.refl _, by rw [plain_emb hv m m']; exact hx, h.kept hrel'.below⟩
end
end Go.Am
