/- Contracts over the small machine. -/
import Derived.Test.YtofdnhdoblpniaaDoorAmFun
set_option linter.unusedSimpArgs false
set_option linter.unusedVariables false
namespace Go.Am
open Go Go.RowKit

/-- With fuel enough a call ends so. -/
def Evs (ext : Exts) (prog : FuncId → Option RFunc) (f : FuncId) (args : List AVal) (H : AHeap) (Q : AVal → AHeap → Prop) : Prop :=
  ∃ n0, ∀ n, n0 ≤ n → ∃ v H', callN ext prog n f args H = some (v, H') ∧ Q v H'

theorem Evs.mono {ext : Exts} {prog : FuncId → Option RFunc} {f : FuncId} {args : List AVal} {H : AHeap} {Q Q' : AVal → AHeap → Prop} (h : Evs ext prog f args H Q) (hq : ∀ v H', Q v H' → Q' v H') : Evs ext prog f args H Q' := by
  obtain ⟨n0, hn⟩ := h
  exact ⟨n0, fun n hn0 => by obtain ⟨v, H', h1, h2⟩ := hn n hn0; exact ⟨v, H', h1, hq _ _ h2⟩⟩

section
variable {P : Program} {S : Base} {m : RMap} {H : AHeap} {w : World} {ext : Exts} {prog : FuncId → Option RFunc}

/-- What a contract says of the program itself. -/
theorem calls_of_evs (hm : P.follows .mixedOrders = true) (hP : ProgOk P ext prog) (hG : S.G = P.globals.size) {f : FuncId} {fn : Func} {c : Code} (hfn : P.funcs[f]? = some fn) (hb : fn.body = some c) (hname : fn.name ≠ "runtime.NumGoroutine")
    {args : List AVal} {vargs : Array Value} {Q : AVal → AHeap → Prop} (h : HRel S m H w) (ha : embL m args = some vargs.toList) (he : Evs ext prog f args H Q) :
    Calls P f vargs w fun e w' => ∃ x v H', e = .returned x ∧ Q v H' ∧ Out S m v H' x w' := by
  obtain ⟨n0, hn⟩ := he
  obtain ⟨v, H', h1, h2⟩ := hn n0 (Nat.le_refl _)
  have hy := sim_callN hm hP n0 S hG f args H v H' m w vargs.toList h1 h ha
  have hrun : (callFunc f vargs.toList.toArray).run P w = .ok (.enter f vargs) w := by simp [callFunc, hfn, hb, hname]
  unfold Yields at hy
  rw [hrun] at hy
  simp only [] at hy
  exact hy.mono fun e w' ⟨x, h3, h4⟩ => ⟨x, v, H', h3, h2, h4⟩
end

/- pieces of code -/
def Wp (call : ACall) (lf : Nat) (c : RCode) (fr : AFrame) (H : AHeap) (Q : RExit → AFrame → AHeap → Prop) : Prop := ∃ x fr' H', c.exec call lf fr H = some ((x, fr'), H') ∧ Q x fr' H'
def WpO (call : ACall) (ops : List ROper) (fr : AFrame) (H : AHeap) (Q : AFrame → AHeap → Prop) : Prop := ∃ fr' H', execOps call ops fr H = some (fr', H') ∧ Q fr' H'
def WpX (op : ROp) (call : ACall) (fr : AFrame) (H : AHeap) (Q : AVal → AHeap → Prop) : Prop := ∃ v H', op.exec call fr H = some (v, H') ∧ Q v H'

section
variable {call : ACall} {lf : Nat} {fr : AFrame} {H : AHeap} {Q : RExit → AFrame → AHeap → Prop} {K : AFrame → AHeap → Prop}

theorem WpO.nil (h : K fr H) : WpO call [] fr H K := ⟨fr, H, rfl, h⟩
theorem WpO.cons {o : ROper} {os : List ROper} {v : AVal} {H1 : AHeap} (hw : o.wanted fr = true) (hx : o.op.exec call fr H = some (v, H1)) (h : WpO call os (put fr o.dst v) H1 K) : WpO call (o :: os) fr H K := by
  obtain ⟨fr', H', h1, h2⟩ := h
  exact ⟨fr', H', by simp only [execOps, hw, M.bind, hx]; exact h1, h2⟩
theorem WpO.skip {o : ROper} {os : List ROper} (hw : o.wanted fr = false) (h : WpO call os (put fr o.dst aundef) H K) : WpO call (o :: os) fr H K := by
  obtain ⟨fr', H', h1, h2⟩ := h
  exact ⟨fr', H', by simp only [execOps, hw]; exact h1, h2⟩
theorem WpO.step {o : ROper} {os : List ROper} (hw : o.wanted fr = true) (hx : WpX o.op call fr H fun v H1 => WpO call os (put fr o.dst v) H1 K) : WpO call (o :: os) fr H K := by
  obtain ⟨v, H1, h1, h2⟩ := hx
  exact WpO.cons hw h1 h2

theorem Wp.skip (h : Q .normal fr H) : Wp call lf .skip fr H Q := ⟨_, _, _, rfl, h⟩
theorem Wp.ret (h : Q .ret fr H) : Wp call lf .ret fr H Q := ⟨_, _, _, rfl, h⟩
theorem Wp.exit {id : Nat} (h : Q (.exit id) fr H) : Wp call lf (.exit id) fr H Q := ⟨_, _, _, rfl, h⟩
theorem Wp.region {ops : List ROper} (h : WpO call ops fr H fun fr' H' => Q .normal fr' H') : Wp call lf (.region ops) fr H Q := by
  obtain ⟨fr', H', h1, h2⟩ := h
  exact ⟨.normal, fr', H', by simp only [RCode.exec, M.bind, h1, M.pure], h2⟩
theorem Wp.seq {a b : RCode} (h : Wp call lf a fr H fun x fr' H' => match x with | .normal => Wp call lf b fr' H' Q | e => Q e fr' H') : Wp call lf (.seq a b) fr H Q := by
  obtain ⟨x, fr', H', h1, h2⟩ := h
  cases x with
  | normal =>
    obtain ⟨x2, fr2, H2, h3, h4⟩ := h2
    exact ⟨x2, fr2, H2, by simp only [RCode.exec, M.bind, h1]; exact h3, h4⟩
  | exit id => exact ⟨.exit id, fr', H', by simp only [RCode.exec, M.bind, h1, M.pure], h2⟩
  | ret => exact ⟨.ret, fr', H', by simp only [RCode.exec, M.bind, h1, M.pure], h2⟩
theorem Wp.cond {c : ROpd} {t e : RCode} {b : Bool} (hc : c.ev fr = .bool b) (h : Wp call lf (cond b t e) fr H Q) : Wp call lf (.cond c t e) fr H Q := by
  obtain ⟨x, fr', H', h1, h2⟩ := h
  refine ⟨x, fr', H', ?_, h2⟩
  simp only [RCode.exec, hc]
  cases b <;> exact h1
theorem Wp.block {id : Nat} {b : RCode} (h : Wp call lf b fr H fun x fr' H' => match x with | .exit id' => (match Nat.beq id' id with | true => Q .normal fr' H' | false => Q (.exit id') fr' H') | e => Q e fr' H') : Wp call lf (.block id b) fr H Q := by
  obtain ⟨x, fr', H', h1, h2⟩ := h
  cases x with
  | normal => exact ⟨.normal, fr', H', by simp only [RCode.exec, M.bind, h1, M.pure], h2⟩
  | ret => exact ⟨.ret, fr', H', by simp only [RCode.exec, M.bind, h1, M.pure], h2⟩
  | exit i =>
    simp only [] at h2
    cases hb : Nat.beq i id with
    | true => rw [hb] at h2; exact ⟨.normal, fr', H', by simp only [RCode.exec, M.bind, h1, M.pure, hb], h2⟩
    | false => rw [hb] at h2; exact ⟨.exit i, fr', H', by simp only [RCode.exec, M.bind, h1, M.pure, hb], h2⟩
theorem Wp.scope {b : RCode} (h : Wp call lf b fr H Q) : Wp call lf (.scope b) fr H Q := h
/-- A loop: each round goes on with less to do, or leaves it. -/
theorem Wp.loop {b : RCode} (I : Nat → AFrame → AHeap → Prop) (step : ∀ k fr H, I k fr H → Wp call lf b fr H fun x fr' H' => match x with | .normal => ∃ j, j < k ∧ I j fr' H' | e => Q e fr' H') {k : Nat} (hk : k < lf) (h : I k fr H) : Wp call lf (.loop b) fr H Q := by
  have key : ∀ (n k : Nat) (fr : AFrame) (H : AHeap), k < n → I k fr H → ∃ x fr' H', loopN (b.exec call lf) n fr H = some ((x, fr'), H') ∧ Q x fr' H' := by
    intro n
    induction n with
    | zero => intro k fr H hk; omega
    | succ n ih =>
      intro k fr H hk hi
      obtain ⟨x, fr', H', h1, h2⟩ := step k fr H hi
      cases x with
      | normal =>
        obtain ⟨j, hj, hij⟩ := h2
        obtain ⟨x2, fr2, H2, h3, h4⟩ := ih j fr' H' (by omega) hij
        exact ⟨x2, fr2, H2, by simp only [loopN, M.bind, h1]; exact h3, h4⟩
      | exit i => exact ⟨.exit i, fr', H', by simp only [loopN, M.bind, h1, M.pure], h2⟩
      | ret => exact ⟨.ret, fr', H', by simp only [loopN, M.bind, h1, M.pure], h2⟩
  obtain ⟨x, fr', H', h1, h2⟩ := key lf k fr H hk h
  exact ⟨x, fr', H', h1, h2⟩
theorem Wp.mono {c : RCode} {Q' : RExit → AFrame → AHeap → Prop} (h : Wp call lf c fr H Q) (hq : ∀ x fr' H', Q x fr' H' → Q' x fr' H') : Wp call lf c fr H Q' := by
  obtain ⟨x, fr', H', h1, h2⟩ := h
  exact ⟨x, fr', H', h1, hq _ _ _ h2⟩

theorem WpX.enter {f : FuncId} {o : ROpd} {l : List ROpd} {K : AVal → AHeap → Prop} (hf : o.ev fr = .func (.func f) [] []) (h : ∃ v H', call f (l.map (·.ev fr)) H = some (v, H') ∧ K v H') : WpX (.call o l) call fr H K := by
  obtain ⟨v, H', h1, h2⟩ := h
  exact ⟨v, H', by simp only [ROp.exec, hf, aCallV, List.nil_append, List.append_nil]; exact h1, h2⟩
theorem WpX.now {op : ROp} {K : AVal → AHeap → Prop} {v : AVal} {H1 : AHeap} (hx : op.exec call fr H = some (v, H1)) (h : K v H1) : WpX op call fr H K := ⟨v, H1, hx, h⟩
end

/-- A function's body. -/
theorem evs_of_body {ext : Exts} {prog : FuncId → Option RFunc} {f : FuncId} {nt : Nat} {c : RCode} {res : List RRes} {args : List AVal} {H : AHeap} {Q : AVal → AHeap → Prop} (hp : prog f = some ⟨nt, .code c, res⟩) (hn : args.length ≤ nt)
    (h : ∃ n0, ∀ n, n0 ≤ n → Wp (callN ext prog n) n c (argFrame args) H fun x fr' H' => (match x with | .exit _ => False | _ => True) ∧ ∃ vs, getAll fr' res H' = some (vs, H') ∧ Q (aResult vs) H') : Evs ext prog f args H Q := by
  obtain ⟨n0, hn0⟩ := h
  refine ⟨n0 + 1, fun n hle => ?_⟩
  obtain ⟨k, rfl⟩ : ∃ k, n = k + 1 := ⟨n - 1, by omega⟩
  obtain ⟨x, fr', H', h1, h2, vs, h3, h4⟩ := hn0 k (by omega)
  refine ⟨aResult vs, H', ?_, h4⟩
  have hlt : ¬ nt < args.length := by omega
  simp only [callN, hp, RFunc.run, if_neg hlt, M.bind, h1]
  cases x with
  | exit i => exact h2.elim
  | normal => simp only [M.bind, h3, M.pure]
  | ret => simp only [M.bind, h3, M.pure]
theorem evs_of {ext : Exts} {prog : FuncId → Option RFunc} {f : FuncId} {rf : RFunc} {c : RCode} {args : List AVal} {H : AHeap} {Q : AVal → AHeap → Prop} (hp : prog f = some rf) (hc : rf.body = .code c) (hn : Nat.ble args.length rf.nt = true)
    (h : ∃ n0, ∀ n, n0 ≤ n → Wp (callN ext prog n) n c (argFrame args) H fun x fr' H' => (match x with | .exit _ => False | _ => True) ∧ ∃ vs, getAll fr' rf.results H' = some (vs, H') ∧ Q (aResult vs) H') : Evs ext prog f args H Q := by
  obtain ⟨nt, body, res⟩ := rf
  simp only [] at hc
  subst hc
  exact evs_of_body hp (Nat.le_of_ble_eq_true hn) h
end Go.Am
