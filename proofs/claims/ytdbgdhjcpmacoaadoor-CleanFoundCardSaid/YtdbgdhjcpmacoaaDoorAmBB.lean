import Derived.Test.YtdbgdhjcpmacoaaDoorAmBA
import Derived.Scope
import Derived.LoopNIn
import Derived.Orders
import Derived.OrdersIn
import Derived.RangeFuncRecord
import Derived.RangeFuncLeaves
set_option linter.unusedSimpArgs false
set_option linter.unusedVariables false
namespace Go.Am
open Go Go.RowKit
section
variable {P : Program} {S : Base} {m : RMap} {H H' : AHeap} {w : World}
theorem Out.mono {m m' : RMap} {v : AVal} {x : Value} (hm : Le m m') (h : Out S m' v H x w) : Out S m v H x w := by
 obtain ⟨m2, h1, h2⟩ := h
 exact ⟨m2, Le.trans hm h1, h2⟩
def callSem (f : FuncId) (vargs : List Value) : Sem Next := match Nat.beq f yieldId with
 | true => match vargs with
  | .func (.yield l) _ _ :: as => Instr.yield l as.toArray
  | _ => stuck "no round"
 | false => callFunc f vargs.toArray
def CallSim (P : Program) (S : Base) (call : ACall) : Prop :=
 ∀ (f : FuncId) (args : List AVal) (H : AHeap) (v : AVal) (H' : AHeap) (m : RMap) (w : World) (vargs : List Value), call f args H = some (v, H') → HRel S m H w → embL m args = some vargs →
  Yields P (callSem f vargs) w (Out S m v H')
theorem aCallV_some {call : ACall} {fv : AVal} {args : List AVal} {r : AVal × AHeap} (h : aCallV call fv args H = some r) : (∃ g fi ca, fv = .func (.func g) fi ca ∧ call g (fi ++ args ++ ca) H = some r) ∨ ∃ l, fv = .yield l ∧ call yieldId (.yield l :: args) H = some r := by
 cases fv with
 | func fn fi ca => cases fn with
  | func g => exact Or.inl ⟨g, fi, ca, rfl, h⟩
  | _ => exact (fail_some (H := H) h).elim
 | yield l => exact Or.inr ⟨l, rfl, h⟩
 | _ => exact (fail_some (H := H) h).elim
theorem append_congr {argTypes args : _} {ty t t' : TypeId} {x y : Value} (h0 : argTypes[0]? = some t) (h1 : argTypes[1]? = some t') (h2 : args[0]? = some x) (h3 : args[1]? = some y) :
  Builtin.append_ argTypes ty args = Builtin.append_ #[t, t'] ty #[x, y] := by
 unfold Builtin.append_
 simp only [h0, h1, h2, h3]
 rfl
theorem copy_congr {argTypes args : _} {ty t : TypeId} {x y : Value} (h0 : argTypes[0]? = some t) (h2 : args[0]? = some x) (h3 : args[1]? = some y) :
  Builtin.copy_ argTypes ty args = Builtin.copy_ #[t, t] ty #[x, y] := by
 unfold Builtin.copy_
 simp only [h0, h2, h3]
 rfl
theorem len_congr {argTypes args : _} {ty t : TypeId} {x : Value} (h0 : argTypes[0]? = some t) (h2 : args[0]? = some x) :
  Builtin.len_ argTypes ty args = Builtin.len_ #[t] ty #[x] := by
 unfold Builtin.len_
 simp only [h0, h2]
 rfl
theorem args_one {args : Array Operand} {f : Operand → Value} {x : Operand} (h0 : args[0]? = some x) (h1 : args[1]? = none) : args.map f = #[f x] := by
 have hs : args.size = 1 := by
  have := (Array.getElem?_eq_some_iff.1 h0).1
  have := Array.getElem?_eq_none_iff.1 h1
  omega
 apply Array.ext
 ·simp [hs]
 ·intro i h2 h3
  have : i = 0 := by simp at h3; omega
  subst this
  simp [(Array.getElem?_eq_some_iff.1 h0).2]
theorem args_two {args : Array Operand} {f : Operand → Value} {x y : Operand} (h0 : args[0]? = some x) (h1 : args[1]? = some y) (h2 : args[2]? = none) : args.map f = #[f x, f y] := by
 have hs : args.size = 2 := by
  have := (Array.getElem?_eq_some_iff.1 h1).1
  have := Array.getElem?_eq_none_iff.1 h2
  omega
 apply Array.ext
 ·simp [hs]
 ·intro i h3 h4
  have : i = 0 ∨ i = 1 := by simp at h4; omega
  rcases this with rfl | rfl
  ·simp [(Array.getElem?_eq_some_iff.1 h0).2]
  ·simp [(Array.getElem?_eq_some_iff.1 h1).2]
theorem sim_op {nt : Nat} {fr : AFrame} {a : Act} {o : Oper} {ro : ROp} {call : ACall} {v : AVal} (hc : cOp P nt o = some ro) (hf : FRel nt m fr a.tmps) (h : HRel S m H w) (hG : S.G = P.globals.size)
  (hcall : CallSim P S call) (hx : ro.exec call fr H = some (v, H')) : Yields P (execOp a.eval o) w (Out S m v H') := by
 have hg : Globs P.globals.size m := by rw [← hG]; exact h.glob
 obtain ⟨dst, op, ty, pos, after, guard⟩ := o
 cases op with
 | move x =>
  simp only [cOp] at hc
  cases hu : cOpd P.globals.size nt x with
  | none => rw [hu] at hc; cases hc
  | some r => rw [hu] at hc; cases hc; obtain ⟨rfl, rfl⟩ := pure_some hx; exact yields_pure (Out.same h (cOpd_ev hu hf hg))
 | assign x =>
  simp only [cOp] at hc
  cases hu : cOpd P.globals.size nt x with
  | none => rw [hu] at hc; cases hc
  | some r => rw [hu] at hc; cases hc; obtain ⟨rfl, rfl⟩ := pure_some hx; exact yields_pure (Out.same h (cOpd_ev hu hf hg))
 | pick c x y =>
  simp only [cOp] at hc
  split at hc
  ·rename_i c' x' y' h1 h2 h3; cases hc
   have e1 := cOpd_ev h1 hf hg; have e2 := cOpd_ev h2 hf hg; have e3 := cOpd_ev h3 hf hg
   simp only [ROp.exec] at hx
   cases hcv : c'.ev fr with
   | bool t =>
    rw [hcv] at hx e1
    obtain ⟨rfl, rfl⟩ := pure_some hx
    simp only [emb] at e1
    have e1' : a.eval c = .bool t := (Option.some.inj e1).symm
    show Yields P (do pure (.value (if ← asBool (a.eval c) then a.eval x else a.eval y))) w _
    cases t
    ·simpa [Yields, e1', asBool] using Out.same h e3
    ·simpa [Yields, e1', asBool] using Out.same h e2
   | _ => rw [hcv] at hx; exact (fail_some hx).elim
  ·cases hc
 | alloc e =>
  simp only [cOp] at hc
  cases hz : cZero P e with
  | none => rw [hz] at hc; cases hc
  | some z =>
   rw [hz] at hc; cases hc
   simp only [ROp.exec] at hx
   obtain ⟨r, H1, h1, h2⟩ := bind_some hx
   obtain ⟨rfl, rfl⟩ := aNew_some h1
   obtain ⟨rfl, rfl⟩ := pure_some h2
   obtain ⟨x, w', hr, ho⟩ := sim_new hz h
   exact yields_v hr ho
 | box e x =>
  simp only [cOp] at hc
  cases hu : cOpd P.globals.size nt x with
  | none => rw [hu] at hc; cases hc
  | some r =>
   rw [hu] at hc; cases hc
   simp only [ROp.exec] at hx
   obtain ⟨r', H1, h1, h2⟩ := bind_some hx
   obtain ⟨rfl, rfl⟩ := aNew_some h1
   obtain ⟨rfl, rfl⟩ := pure_some h2
   obtain ⟨y, w', hr, ho⟩ := sim_box (P := P) (e := e) (cOpd_ev hu hf hg) h
   exact yields_v hr ho
 | build t ps =>
  obtain ⟨x, hr, he, rfl⟩ := sim_build hf h hg hc hx
  exact yields_v hr (Out.same h he)
 | buildSlice t len ps =>
  simp only [cOp] at hc
  split at hc
  ·rename_i e hu
   split at hc
   ·rename_i s z hs hz
    split at hc
    ·rename_i hcond
     split at hc
     ·rename_i l hl; cases hc
      obtain ⟨x, w', hr, ho⟩ := sim_buildSlice hf h hg hu hs hz hcond hl hx
      exact yields_v hr ho
     ·cases hc
    ·cases hc
   ·cases hc
  ·cases hc
 | insert t m k v => simp [cOp] at hc
 | load t x =>
  simp only [cOp] at hc
  split at hc
  ·rename_i g r hgg hu; cases hc
   obtain ⟨ad, y, he, hr, hy, rfl⟩ := sim_load (P := P) hgg (cOpd_ev hu hf hg) h hx
   refine yields_v (x := y) (w' := w) ?_ (Out.same h hy)
   show (Instr.loadAt t (a.eval x)).run P w = _
   rw [he]
   simp [Instr.loadAt, Instr.sureAddr, hr]
  ·cases hc
 | store t x y =>
  simp only [cOp] at hc
  split at hc
  ·rename_i n r r' hn h1 h2; cases hc
   obtain ⟨w', hr, ho⟩ := sim_store (P := P) hn (cOpd_ev h1 hf hg) (cOpd_ev h2 hf hg) h hx
   exact yields_u hr ho
  ·cases hc
 | ready g => simp [cOp] at hc
 | waits g => simp [cOp] at hc
 | nilCheck x =>
  simp only [cOp] at hc
  cases hu : cOpd P.globals.size nt x with
  | none => rw [hu] at hc; cases hc
  | some r =>
   rw [hu] at hc; cases hc
   obtain ⟨h1, rfl⟩ := ofOption_some hx
   have he := cOpd_ev hu hf hg
   cases hv : r.ev fr <;> rw [hv] at h1 he <;> simp only [aNilCheck] at h1 <;> cases h1
   obtain ⟨p, hp, hxv⟩ := emb_ptr_some he
   have : execOp a.eval { dst, op := .nilCheck x, type := ty, pos, after, guard } = pure (.value (a.eval x)) := by
    unfold execOp
    simp only [hxv]
   rw [this]
   exact yields_pure (Out.same h he)
 | binOp op t x y yt =>
  simp only [cOp] at hc
  have key : ∀ (x' y' : ROpd), cOpd P.globals.size nt x = some x' → cOpd P.globals.size nt y = some y' → (ROp.bin op x' y').exec call fr H = some (v, H') →
    Yields P (execOp a.eval { dst, op := .binOp op t x y yt, type := ty, pos, after, guard }) w (Out S m v H') := by
   intro x' y' h1 h2 hx
   obtain ⟨h3, rfl⟩ := ofOption_some hx
   obtain ⟨z, hz1, hz2⟩ := sim_bin (P := P) (w := w) (t := t) (x := x) (y := y) (cOpd_ev h1 hf hg) (cOpd_ev h2 hf hg) h3
   exact yields_v hz1 (Out.same h hz2)
  have keyE : ∀ (neg : Bool) (q : EqDesc) (x' y' : ROpd), op = (match neg with | true => .neq | false => .eql) → cEq P 60 t = some q → cOpd P.globals.size nt x = some x' → cOpd P.globals.size nt y = some y' → (∀ k, P.underlying t ≠ some (.int k)) → P.underlying t ≠ some .string →
    (ROp.eq neg q x' y').exec call fr H = some (v, H') → Yields P (execOp a.eval { dst, op := .binOp op t x y yt, type := ty, pos, after, guard }) w (Out S m v H') := by
   intro neg q x' y' hop hq h1 h2 hni hns hx
   simp only [ROp.exec] at hx
   cases he : aEq q (x'.ev fr) (y'.ev fr) with
   | none => rw [he] at hx; exact (fail_some hx).elim
   | some r =>
    rw [he] at hx
    obtain ⟨rfl, rfl⟩ := pure_some hx
    have := sim_eq (P := P) (w := w) (neg := neg) (xo := x) (yo := y) hq (cOpd_ev h1 hf hg) (cOpd_ev h2 hf hg) he hni hns
    subst hop
    exact yields_v this (Out.same h (by cases neg <;> simp [emb]))
  cases hu : P.underlying t with
  | none =>
   rw [hu] at hc
   simp only [] at hc
   have : cEq P 60 t = none := by unfold cEq; rw [hu]
   rw [this] at hc
   unfold cEqOp at hc
   split at hc <;> first | (cases hc; done) | (rename_i hq _ _; cases hq)
  | some ds =>
   rw [hu] at hc
   by_cases hint : ∃ k, ds = .int k
   ·obtain ⟨k, rfl⟩ := hint
    simp only [] at hc
    split at hc
    ·rename_i x' y' h1 h2; cases hc; exact key x' y' h1 h2 hx
    ·cases hc
   ·by_cases hstr : ds = .string
    ·subst hstr
     simp only [] at hc
     split at hc
     ·rename_i x' y' h1 h2; cases hc; exact key x' y' h1 h2 hx
     ·cases hc
    ·have hni : ∀ k, P.underlying t ≠ some (.int k) := fun k e => hint ⟨k, by rw [hu] at e; exact Option.some.inj e⟩
     have hns : P.underlying t ≠ some .string := fun e => hstr (by rw [hu] at e; exact Option.some.inj e)
     have hc' : cEqOp op (cEq P 60 t) (cOpd P.globals.size nt x) (cOpd P.globals.size nt y) = some ro := by
      cases ds <;> first | exact hc | exact absurd rfl hstr | exact absurd ⟨_, rfl⟩ hint
     unfold cEqOp at hc'
     split at hc'
     ·rename_i d x' y' hq h1 h2; cases hc'; exact keyE false d x' y' rfl hq h1 h2 hni hns hx
     ·rename_i d x' y' hq h1 h2; cases hc'; exact keyE true d x' y' rfl hq h1 h2 hni hns hx
     ·cases hc'
 | unOp op t x =>
  simp only [cOp] at hc
  cases hu : cOpd P.globals.size nt x with
  | none => rw [hu] at hc; cases hc
  | some r =>
   rw [hu] at hc; cases hc
   obtain ⟨h1, rfl⟩ := ofOption_some hx
   obtain ⟨z, hz1, hz2⟩ := sim_un (P := P) (w := w) (cOpd_ev hu hf hg) h1
   exact yields_v hz1 (Out.same h hz2)
 | convert s d x =>
  simp only [cOp] at hc
  split at hc
  ·rename_i k0 k r hs hd hu; cases hc
   have he := cOpd_ev hu hf hg
   simp only [ROp.exec] at hx
   cases hv : r.ev fr with
   | int k1 n =>
    rw [hv] at hx he
    obtain ⟨rfl, rfl⟩ := pure_some hx
    simp only [emb] at he
    have he' : a.eval x = .int k1 n := (Option.some.inj he).symm
    refine yields_v (s := convert s d (a.eval x)) (x := .int k (k.wrap n)) (w' := w) ?_ (Out.same h (emb_int_mk _ _))
    rw [he']
    exact sim_conv_int hs hd
   | _ => rw [hv] at hx; exact (fail_some hx).elim
  ·rename_i e r hs hd hu
   split at hc
   ·rename_i he hsz; cases hc
    obtain ⟨y, hr, ho⟩ := sim_bytesToStr (P := P) hs hd he (cOpd_ev hu hf hg) h hx
    exact yields_v hr ho
   ·cases hc
  ·rename_i e r hs hd hu
   split at hc
   ·rename_i he hsz; cases hc
    obtain ⟨y, w', hr, ho⟩ := sim_strToBytes (P := P) hs hd he (cOpd_ev hu hf hg) h hx
    exact yields_v hr ho
   ·cases hc
  ·rename_i t r hs hd hu
   cases hz : cSize P t with
   | none => rw [hz] at hc; cases hc
   | some sz =>
    rw [hz] at hc; cases hc
    obtain ⟨hr, he, rfl⟩ := sim_uptr (P := P) hz (Or.inl ⟨hs, hd⟩) (cOpd_ev hu hf hg) h hx
    exact yields_v (s := convert s d (a.eval x)) hr (Out.same h he)
  ·rename_i t r hs hd hu
   cases hz : cSize P t with
   | none => rw [hz] at hc; cases hc
   | some sz =>
    rw [hz] at hc; cases hc
    obtain ⟨hr, he, rfl⟩ := sim_uptr (P := P) hz (Or.inr ⟨hs, hd⟩) (cOpd_ev hu hf hg) h hx
    exact yields_v (s := convert s d (a.eval x)) hr (Out.same h he)
  ·cases hc
 | sliceToArrayPointer d x => simp [cOp] at hc
 | makeInterface t x =>
  simp only [cOp] at hc
  split at hc
  ·cases hc
  ·rename_i ds r hni hut hu; cases hc
   obtain ⟨rfl, rfl⟩ := pure_some hx
   have he := cOpd_ev hu hf hg
   refine yields_v (s := Instr.makeInterface t (a.eval x)) (x := .iface t (a.eval x)) (w' := w) ?_ (Out.same h (by simp [emb, he]))
   simp only [Instr.makeInterface, Sem.run_bind, run_underlying hut, Result.andThen_ok]
   cases ds <;> first | rfl | exact absurd rfl (hni _)
  ·cases hc
 | makeFunc fn x y =>
  simp only [cOp] at hc
  split at hc
  ·rename_i r r' h0 h1 h2; cases hc
   obtain ⟨rfl, rfl⟩ := pure_some hx
   have e1 := cOpds_ev hf hg h1
   have e2 := cOpds_ev hf hg h2
   refine yields_v (s := Instr.makeFunc fn (x.map a.eval) (y.map a.eval)) (x := .func fn (x.map a.eval) (y.map a.eval)) (w' := w) rfl (Out.same h ?_)
   simp only [emb, h0, e1, e2]
   simp only [Option.some.injEq, Value.func.injEq, true_and]
   exact ⟨by apply Array.ext'; simp, by apply Array.ext'; simp⟩
  ·cases hc
 | makeMap t r => simp [cOp] at hc
 | makeChan t s => simp [cOp] at hc
 | makeSlice t l c =>
  simp only [cOp] at hc
  split at hc
  ·rename_i e hu
   split at hc
   ·rename_i s z b l' c' hs hz hb h1 h2
    split at hc
    ·rename_i hcond; cases hc
     obtain ⟨y, w', hr, ho⟩ := sim_makeSlice (P := P) hu hs hz hb hcond.1 hcond.2 (cOpd_ev h1 hf hg) (cOpd_ev h2 hf hg) h hx
     exact yields_v hr ho
    ·cases hc
   ·cases hc
  ·cases hc
 | slice t x lo hi mx =>
  simp only [cOp] at hc
  split at hc
  ·rename_i x' lo' hi' mx' h1 h2 h3 h4
   have o2 := cOpt_ev hf hg h2; have o3 := cOpt_ev hf hg h3; have o4 := cOpt_ev hf hg h4
   split at hc
   ·rename_i hu
    split at hc
    ·cases hc
     obtain ⟨h5, rfl⟩ := ofOption_some hx
     obtain ⟨y, hr, he⟩ := sim_sliceStr (P := P) (w := w) hu (cOpd_ev h1 hf hg) o2 o3 h5
     have : mx.map a.eval = none := by cases mx <;> simp_all [OptE]
     refine yields_v (s := Instr.sliceAt t (a.eval x) (lo.map a.eval) (hi.map a.eval) (mx.map a.eval)) ?_ (Out.same h he)
     rw [this]; exact hr
    ·cases hc
   ·rename_i e hu
    cases hs : cSize P e with
    | none => rw [hs] at hc; cases hc
    | some s =>
     rw [hs] at hc; cases hc
     obtain ⟨y, hr, ho⟩ := sim_sliceS (P := P) hu hs (cOpd_ev h1 hf hg) o2 o3 o4 h hx
     exact yields_v hr ho
   ·rename_i n e hu
    cases hs : cSize P e with
    | none => rw [hs] at hc; cases hc
    | some s =>
     rw [hs] at hc; cases hc
     obtain ⟨h5, rfl⟩ := ofOption_some hx
     obtain ⟨y, hr, he⟩ := sim_sliceArr (P := P) (w := w) hu hs (cOpd_ev h1 hf hg) o2 o3 o4 h5
     exact yields_v hr (Out.same h he)
   ·cases hc
  ·cases hc
 | fieldAddr t x f =>
  simp only [cOp] at hc
  split at hc
  ·rename_i fs r hu h1
   split at hc
   ·rename_i fd hfd
    split at hc
    ·rename_i n hn
     split at hc
     ·cases hc
     ·rename_i hn0; cases hc
      obtain ⟨h5, rfl⟩ := ofOption_some hx
      obtain ⟨y, hr, he⟩ := sim_fieldAddr (P := P) (w := w) hu hfd hn hn0 (cOpd_ev h1 hf hg) h5
      exact yields_v hr (Out.same h he)
    ·cases hc
   ·cases hc
  ·cases hc
 | field t x f =>
  simp only [cOp] at hc
  split at hc
  ·rename_i fs r hu h1
   split at hc
   ·rename_i fd hfd
    split at hc
    ·rename_i g hgg; cases hc
     obtain ⟨h5, rfl⟩ := ofOption_some hx
     obtain ⟨y, hr, he⟩ := sim_field (P := P) (w := w) hu hfd hgg (cOpd_ev h1 hf hg) h5
     exact yields_v hr (Out.same h he)
    ·cases hc
   ·cases hc
  ·cases hc
 | indexAddr t x i =>
  simp only [cOp] at hc
  split at hc
  ·rename_i e x' i' hu h1 h2
   cases hs : cSize P e with
   | none => rw [hs] at hc; cases hc
   | some s =>
    rw [hs] at hc; cases hc
    obtain ⟨h5, rfl⟩ := ofOption_some hx
    obtain ⟨y, hr, he⟩ := sim_idxS (P := P) (w := w) hu hs (cOpd_ev h1 hf hg) (cOpd_ev h2 hf hg) h5
    exact yields_v hr (Out.same h he)
  ·rename_i n e x' i' hu h1 h2
   cases hs : cSize P e with
   | none => rw [hs] at hc; cases hc
   | some s =>
    rw [hs] at hc; cases hc
    obtain ⟨h5, rfl⟩ := ofOption_some hx
    obtain ⟨y, hr, he⟩ := sim_idxA (P := P) (w := w) hu hs (cOpd_ev h1 hf hg) (cOpd_ev h2 hf hg) h5
    exact yields_v hr (Out.same h he)
  ·cases hc
 | index t x i =>
  simp only [cOp] at hc
  split at hc
  ·rename_i x' i' hu h1 h2; cases hc
   obtain ⟨h5, rfl⟩ := ofOption_some hx
   obtain ⟨y, hr, he⟩ := sim_indexStr (P := P) (w := w) hu (cOpd_ev h1 hf hg) (cOpd_ev h2 hf hg) h5
   exact yields_v hr (Out.same h he)
  ·rename_i n e x' i' hu h1 h2
   split at hc
   ·rename_i g s hgg hs; cases hc
    obtain ⟨h5, rfl⟩ := ofOption_some hx
    obtain ⟨y, hr, he⟩ := sim_indexA (P := P) (w := w) hu hs hgg (cOpd_ev h1 hf hg) (cOpd_ev h2 hf hg) h5
    exact yields_v hr (Out.same h he)
   ·cases hc
  ·cases hc
 | lookup t x i ok => simp [cOp] at hc
 | mapUpdate t m k v => simp [cOp] at hc
 | mapEntry t m k => simp [cOp] at hc
 | entryStore t m s v => simp [cOp] at hc
 | range t x => simp [cOp] at hc
 | next it b => simp [cOp] at hc
 | entry it => simp [cOp] at hc
 | typeAssert x t u ok => simp [cOp] at hc
 | extract x i =>
  simp only [cOp] at hc
  cases hu : cOpd P.globals.size nt x with
  | none => rw [hu] at hc; cases hc
  | some r =>
   rw [hu] at hc; cases hc
   obtain ⟨h1, rfl⟩ := ofOption_some hx
   obtain ⟨z, hz1, hz2⟩ := sim_extract (P := P) (w := w) (cOpd_ev hu hf hg) h1
   exact yields_v hz1 (Out.same h hz2)
 | call c =>
  obtain ⟨callee, args, argTypes⟩ := c
  cases callee with
  | invoke r n => simp [cOp] at hc
  | value f =>
   simp only [cOp] at hc
   split at hc
   ·rename_i f' l h1 h2; cases hc
    have e1 := cOpd_ev h1 hf hg
    have e2 := cOpds_ev hf hg h2
    simp only [ROp.exec] at hx
    rcases aCallV_some hx with ⟨g, fi, ca, hfv, hx⟩ | ⟨l, hfv, hx⟩
    ·rw [hfv] at e1
     simp only [emb] at e1
     split at e1
     ·rename_i l1 l2 h0 h3 h4
      have e1' : a.eval f = .func (.func g) l1.toArray l2.toArray := (Option.some.inj e1).symm
      have e3 := embL_append (embL_append h3 e2) h4
      have := hcall g _ H v H' m w _ hx h e3
      have hg' : Nat.beq g yieldId = false := by simpa [fnOk] using h0
      have heq : execOp a.eval { dst, op := .call { callee := .value f, args, argTypes }, type := ty, pos, after, guard } = callFunc g (l1 ++ args.toList.map a.eval ++ l2).toArray := by
       show (do let d ← (Deferred.ofValue (a.eval f) (args.map a.eval)); invoke d.target d.args) = _
       rw [e1']
       simp only [Deferred.ofValue, pure_bind, invoke]
       congr 1
       apply Array.ext'; simp
      rw [heq]
      simp only [callSem, hg'] at this
      exact this
     ·cases e1
    ·rw [hfv] at e1
     simp only [emb] at e1
     split at e1
     ·rename_i p hp
      have e1' : a.eval f = .func (.yield p.1.block) #[] #[] := (Option.some.inj e1).symm
      have e3 : embL m (.yield l :: _) = some (.func (.yield p.1.block) #[] #[] :: _) := embL_mk (by simp [emb, hp]) e2
      have := hcall yieldId _ H v H' m w _ hx h e3
      have heq : execOp a.eval { dst, op := .call { callee := .value f, args, argTypes }, type := ty, pos, after, guard } = Instr.yield p.1.block (args.toList.map a.eval).toArray := by
       show (do let d ← (Deferred.ofValue (a.eval f) (args.map a.eval)); invoke d.target d.args) = _
       rw [e1']
       simp only [Deferred.ofValue, pure_bind, invoke]
       congr 1
       apply Array.ext'; simp
      rw [heq]
      simp only [callSem, nbeq_self] at this
      exact this
     ·cases e1
   ·cases hc
  | builtin b =>
   simp only [cOp] at hc
   cases b <;> simp only [] at hc <;> try (cases hc; done)
   case append =>
    split at hc
    ·rename_i t t' x y ht ht' hx0 hy0
     have hm0 : (args.map a.eval)[0]? = some (a.eval x) := by simp [hx0]
     have hm1 : (args.map a.eval)[1]? = some (a.eval y) := by simp [hy0]
     split at hc
     ·rename_i e x' y' hu hu' h1 h2
      split at hc
      ·rename_i s b z hs hb hz; cases hc
       simp only [ROp.exec] at hx
       obtain ⟨y0, w', hr, ho⟩ := sim_appendZ (P := P) (ty := ty) hu hu' hs hb hz (cOpd_ev h1 hf hg) (cOpd_ev h2 hf hg) h hx
       refine yields_v (s := Builtin.append_ argTypes ty (args.map a.eval)) ?_ ho
       rw [append_congr ht ht' hm0 hm1]; exact hr
      ·cases hc
     ·cases hc
     ·rename_i e d' x' y' hnt0 hnt hu hu' h1 h2
      split at hc
      ·rename_i s b z hs hb hz
       split at hc
       ·rename_i hzl; cases hc
        simp only [ROp.exec] at hx
        obtain ⟨y0, w', hr, ho⟩ := sim_append (P := P) (ty := ty) hu hu' (fun k e => hnt _ e) hs hb hz hzl (cOpd_ev h1 hf hg) (cOpd_ev h2 hf hg) h hx
        refine yields_v (s := Builtin.append_ argTypes ty (args.map a.eval)) ?_ ho
        rw [append_congr ht ht' hm0 hm1]; exact hr
       ·cases hc
      ·cases hc
     ·cases hc
    ·cases hc
   case copy =>
    split at hc
    ·rename_i t x y ht hx0 hy0
     have hm0 : (args.map a.eval)[0]? = some (a.eval x) := by simp [hx0]
     have hm1 : (args.map a.eval)[1]? = some (a.eval y) := by simp [hy0]
     split at hc
     ·rename_i e x' y' hu h1 h2
      cases hs : cSize P e with
      | none => rw [hs] at hc; cases hc
      | some s =>
       rw [hs] at hc; cases hc
       simp only [ROp.exec] at hx
       obtain ⟨y0, w', hr, ho⟩ := sim_copy (P := P) (t' := t) (ty := ty) hu hs (cOpd_ev h1 hf hg) (cOpd_ev h2 hf hg) h hx
       refine yields_v (s := Builtin.copy_ argTypes ty (args.map a.eval)) ?_ ho
       rw [copy_congr ht hm0 hm1]; exact hr
     ·cases hc
    ·cases hc
   case unsafeSliceData =>
    split at hc
    ·rename_i t x ht hx0 hx1
     split at hc
     ·rename_i e x' hu h1
      cases hz : cSize P e with
      | none => rw [hz] at hc; cases hc
      | some sz =>
       rw [hz] at hc; cases hc
       obtain ⟨y, hr, he, rfl⟩ := sim_sliceData (P := P) (at' := argTypes) (ty := ty) (cOpd_ev h1 hf hg) h hx
       refine yields_v (s := Builtin.unsafeSliceData_ argTypes ty (args.map a.eval)) ?_ (Out.same h he)
       rw [args_one hx0 hx1]; exact hr
     ·cases hc
    ·cases hc
   case unsafeString =>
    split at hc
    ·rename_i t x y ht hx0 hx1 hx2
     split at hc
     ·rename_i e x' y' hu h1 h2
      split at hc
      ·rename_i hbt hz; cases hc
       obtain ⟨z, w', hr, he, ho⟩ := sim_unsafeStr (P := P) (at' := argTypes) (ty := ty) ht hu hz (cOpd_ev h1 hf hg) (cOpd_ev h2 hf hg) h hx
       refine yields_v (s := Builtin.unsafeString_ argTypes ty (args.map a.eval)) (x := z) (w' := w') ?_ ⟨m, Le.refl _, he, ho⟩
       rw [args_two hx0 hx1 hx2]; exact hr
      ·cases hc
     ·cases hc
    ·cases hc
   case cap =>
    split at hc
    ·rename_i t x ht hx0
     have hm0 : (args.map a.eval)[0]? = some (a.eval x) := by simp [hx0]
     split at hc
     ·rename_i e x' hu h1; cases hc
      obtain ⟨h5, rfl⟩ := ofOption_some hx
      obtain ⟨y, hr, he⟩ := sim_capS (P := P) (w := w) (ty := ty) ht hm0 hu (cOpd_ev h1 hf hg) h5
      exact yields_v (s := Builtin.cap_ argTypes ty (args.map a.eval)) hr (Out.same h he)
     ·cases hc
    ·cases hc
   case len =>
    split at hc
    ·rename_i t x ht hx0
     have hm0 : (args.map a.eval)[0]? = some (a.eval x) := by simp [hx0]
     split at hc
     ·rename_i x' hu h1; cases hc
      obtain ⟨h5, rfl⟩ := ofOption_some hx
      obtain ⟨y, hr, he⟩ := sim_lenStr (P := P) (w := w) (ty := ty) hu (cOpd_ev h1 hf hg) h5
      refine yields_v (s := Builtin.len_ argTypes ty (args.map a.eval)) ?_ (Out.same h he)
      rw [len_congr ht hm0]; exact hr
     ·rename_i e x' hu h1; cases hc
      obtain ⟨h5, rfl⟩ := ofOption_some hx
      obtain ⟨y, hr, he⟩ := sim_lenS (P := P) (w := w) (ty := ty) hu (cOpd_ev h1 hf hg) h5
      refine yields_v (s := Builtin.len_ argTypes ty (args.map a.eval)) ?_ (Out.same h he)
      rw [len_congr ht hm0]; exact hr
     ·rename_i n e hu; cases hc
      obtain ⟨rfl, rfl⟩ := pure_some hx
      refine yields_v (s := Builtin.len_ argTypes ty (args.map a.eval)) (x := goInt n) (w' := w) ?_ (Out.same h (by simp [emb, goInt]))
      rw [len_congr ht hm0]
      simp [Builtin.len_, run_underlying hu]
     ·cases hc
    ·cases hc
   case max =>
    split at hc
    ·rename_i l h1; cases hc
     have e1 := cOpds_ev hf hg h1
     simp only [ROp.exec] at hx
     cases l with
     | nil => exact (fail_some hx).elim
     | cons r l =>
      obtain ⟨h5, rfl⟩ := ofOption_some hx
      obtain ⟨x, xs, e2, e3, e4⟩ := embL_cons e1
      obtain ⟨y, hr, he⟩ := sim_minmax (P := P) (w := w) _ _ _ _ _ e3 e2 h5
      refine yields_v (s := Builtin.max_ argTypes ty (args.map a.eval)) ?_ (Out.same h he)
      unfold Builtin.max_
      rw [Array.toList_map, e4]
      exact hr
    ·cases hc
   case min =>
    split at hc
    ·rename_i l h1; cases hc
     have e1 := cOpds_ev hf hg h1
     simp only [ROp.exec] at hx
     cases l with
     | nil => exact (fail_some hx).elim
     | cons r l =>
      obtain ⟨h5, rfl⟩ := ofOption_some hx
      obtain ⟨x, xs, e2, e3, e4⟩ := embL_cons e1
      obtain ⟨y, hr, he⟩ := sim_minmax (P := P) (w := w) _ _ _ _ _ e3 e2 h5
      refine yields_v (s := Builtin.min_ argTypes ty (args.map a.eval)) ?_ (Out.same h he)
      unfold Builtin.min_
      rw [Array.toList_map, e4]
      exact hr
    ·cases hc
 | go c => simp [cOp] at hc
 | defer c => simp [cOp] at hc
 | panic x => simp [cOp] at hc
 | send c x => simp [cOp] at hc
 | recv t c ok => simp [cOp] at hc
 | select cs b => simp [cOp] at hc
theorem cOp_slice {nt : Nat} {o : Oper} {sz : Nat} {x : ROpd} {lo hi mx : Option ROpd} (h : cOp P nt o = some (.sliceS sz x lo hi mx)) : ∃ t x' lo' hi' mx', o.op = .slice t x' lo' hi' mx' := by
 obtain ⟨dst, op, ty, pos, after, guard⟩ := o
 cases op with
 | slice t x lo hi mx => exact ⟨_, _, _, _, _, rfl⟩
 | call c =>
  exfalso
  obtain ⟨callee, args, argTypes⟩ := c
  cases callee with
  | builtin b => cases b <;> simp only [cOp] at h <;> (repeat' split at h) <;> first | (cases h; done) | (simp at h; done)
  | _ => simp only [cOp] at h <;> (repeat' split at h) <;> first | (cases h; done) | (simp at h; done)
 | _ =>
  exfalso
  simp only [cOp, cEqOp] at h
  (repeat' split at h) <;> first | (cases h; done) | (simp at h; done)
theorem sim_soft {nt : Nat} {fr : AFrame} {a : Act} {o : Oper} {u v : AVal} {sz : Nat} {x : ROpd} {lo hi mx : Option ROpd} (hc : cOp P nt o = some (.sliceS sz x lo hi mx)) (hf : FRel nt m fr a.tmps) (h : HRel S m H w) (hG : S.G = P.globals.size)
  (hx : (ROp.sliceS sz x lo hi mx).exec noCall fr H = some (u, H')) (hn : H'.n ≠ H.n) (hE : aSliceE sz (x.ev fr) (lo.map (·.ev fr)) (hi.map (·.ev fr)) (mx.map (·.ev fr)) = some v) : Yields P (execOp a.eval o) w (Out S m v H) := by
 have hg : Globs P.globals.size m := by rw [← hG]; exact h.glob
 obtain ⟨t, x', lo', hi', mx', ho⟩ := cOp_slice hc
 obtain ⟨dst, op, ty, pos, after, guard⟩ := o
 simp only at ho
 subst ho
 simp only [cOp] at hc
 split at hc
 ·rename_i x2 lo2 hi2 mx2 h1 h2 h3 h4
  split at hc
  ·split at hc <;> cases hc
  ·rename_i e hu
   cases hs : cSize P e with
   | none => rw [hs] at hc; cases hc
   | some s =>
    rw [hs] at hc; cases hc
    have o2 := cOpt_ev hf hg h2; have o3 := cOpt_ev hf hg h3; have o4 := cOpt_ev hf hg h4
    obtain ⟨y, hr, ho⟩ := sim_sliceE (P := P) hu hs (cOpd_ev h1 hf hg) o2 o3 o4 h hx hn hE
    exact yields_v hr ho
  ·rename_i n e hu
   cases hs : cSize P e with
   | none => rw [hs] at hc; cases hc
   | some s => rw [hs] at hc; cases hc
  ·cases hc
 ·cases hc
end
end Go.Am
namespace Go.Am
open Go Go.RowKit
section
variable {P : Program} {S : Base} {m : RMap} {H H' : AHeap} {w : World}
abbrev wid (ro : Option Nat) : Fence := { Fence.wide with round := ro }
theorem calls_wid {ro : Option Nat} {f : FuncId} {args : Array Value} {n : Nat} {R : Ending → World → Prop} (h : Calls P f args w R) : CallsIn (wid ro) n P f args w R := (callsIn_wide (n := n)).2 h
theorem wpIn_of_yields {ro : Option Nat} {o : Oper} {a : Act} {R : Value → World → Prop} {next : Act → World → Prop} {Q : Exit → Act → World → Prop} (hd : ∀ c, o.op ≠ .defer c) (h : Yields P (execOp a.eval o) w R) (hn : ∀ x w', R x w' → next (a.put o.dst x) w') : o.wpIn (wid ro) 0 P a w next Q := by
 refine ⟨fun _ _ => trivial, ?_⟩
 rw [show (wid ro).round = ro from rfl, Oper.semAt_eq _ _ _ hd]
 unfold Yields at h
 cases hr : (execOp a.eval o).run P w with
 | halt e w' => rw [hr] at h; exact h.elim
 | ok n w' =>
  rw [hr] at h
  cases n with
  | value v => exact hn _ _ h
  | skip => exact hn _ _ h
  | enter f args =>
   rw [Oper.uponIn_enter]
   refine ⟨fun h => by simp [Fence.wide] at h, CallsIn.mono (calls_wid h) fun e w'' ⟨v, h1, h2⟩ => ?_⟩
   subst h1; exact hn _ _ h2
  | round l f tmps assign body =>
   rw [Oper.uponIn_round]
   refine ⟨fun h => by simp [Fence.wide] at h, RoundIn.mono (F := wid ro) (n := 0 - 1) h fun e w'' ⟨v, h1, h2⟩ => ?_⟩
   subst h1; exact hn _ _ h2
  | _ => exact h.elim
theorem cOp_plain {nt : Nat} {o : Oper} {r : ROp} (h : cOp P nt o = some r) : ∀ c, o.op ≠ .defer c := fun c e => by
 unfold cOp at h
 rw [e] at h
 cases h
section
variable {F : Fence} {n : Nat} {b : Frame} {a : Act} {k : List Item} {cs : List Frame} {Q : Exit → Act → World → Prop}
theorem stepR_scope {c : Code} : step P (lone (b.atR a (.code (.scope c) :: k)) cs w) = .next (lone (b.atR a (.code c :: .inScope c :: k)) cs w) :=
 step_lone_go (by simp [stepG, stepG.exec, Frame.atR])
theorem stepR_inScope {c : Code} : step P (lone (b.atR a (.inScope c :: k)) cs w) = .next (lone (b.atR a k) cs w) :=
 step_lone_go (by simp [stepG, stepG.exec, Frame.atR])
theorem wpIn_scope_straight {c : Code} (h : c.wpIn F n P (Exit.noGoto Q) a w) : (Code.scope c).wpIn F n P Q a w := by
 intro b k cs hro hb hr
 have h0 : (lone (b.atR a (.code (.scope c) :: k)) cs w).fenced P F := fenced_calm hb hr rfl
 obtain ⟨e, a₁, w₁, hq, harr⟩ := h b (.inScope c :: k) cs hro hb hr
 cases e with
 | normal => exact ⟨.normal, a₁, w₁, hq, .head h0 stepR_scope (StepsIn.trans harr (.one (fenced_calm hb hr rfl) stepR_inScope))⟩
 | exit id =>
  have hx : exitTo id (.inScope c :: k) = exitTo id k := by simp [exitTo]
  exact ⟨_, a₁, w₁, hq, fun k' hk => .head h0 stepR_scope (harr.1 k' (by rw [hx]; exact hk)),
   fun hr' hk => let ⟨k₁, h1, h2⟩ := harr.2 hr' (by rw [hx]; exact hk); ⟨k₁, h1, .head h0 stepR_scope h2⟩⟩
 | goto l => exact hq.elim
 | ret => exact ⟨_, a₁, w₁, hq, .of_steps (.one h0 stepR_scope) harr⟩
 | panic ch => exact ⟨_, a₁, w₁, hq, .of_steps (.one h0 stepR_scope) harr⟩
 | outgrown => exact ⟨_, a₁, w₁, hq, .of_steps (.one h0 stepR_scope) harr⟩
end
theorem FRel.put {nt : Nat} {fr : AFrame} {a : Act} (h : FRel nt m fr a.tmps) {d : Option Nat} {d' : Option Tmp} (hd : cDst nt d' = some d) {v : AVal} {x : Value} (hv : emb m v = some x) : FRel nt m (put fr d v) (a.put d' x).tmps := by
 cases d' with
 | none => simp only [cDst] at hd; cases hd; exact h
 | some t =>
  simp only [cDst] at hd
  split at hd
  ·rename_i ht; cases hd
   refine ⟨by simp [Act.put, h.1], fun i hi => ?_⟩
   by_cases hit : i = t
   ·subst hit
    exact ⟨x, by simp [Go.Am.put, upd, hv], by simp [Act.put, h.1, hi]⟩
   ·obtain ⟨y, h1, h2⟩ := h.2 i hi
    exact ⟨y, by simp [Go.Am.put, upd, nbeq_ne hit, h1], by simp [Act.put, Ne.symm hit, h2]⟩
  ·cases hd
theorem put_defers (a : Act) (d : Option Tmp) (x : Value) : (a.put d x).defers = a.defers := by cases d <;> rfl
theorem emb_bool {v : AVal} {b : Bool} (h : emb m v = some (.bool b)) : v = .bool b := by
 cases v <;> simp only [emb] at h <;> first | (cases h; rfl) | (cases h; done) | (split at h <;> cases h)
theorem wanted_eq {nt : Nat} {fr : AFrame} {a : Act} (h : FRel nt m fr a.tmps) {ops : Array Oper} {o : Oper} {g : Option (Nat × Bool)} (hg : cGuard nt ops o.guard = some g) {ro : ROper} (hro : ro.guard = g) :
  Region.wanted o (yielded ops a.tmps) = ro.wanted fr := by
 unfold ROper.wanted Region.wanted
 rw [hro]
 cases hog : o.guard with
 | none => rw [hog] at hg; simp only [cGuard] at hg; cases hg; rfl
 | some jb =>
  obtain ⟨j, b⟩ := jb
  rw [hog] at hg
  simp only [cGuard] at hg
  cases ht : (ops[j]?).bind (·.dst) with
  | none => rw [ht] at hg; cases hg
  | some t =>
   rw [ht] at hg
   simp only [] at hg
   split at hg
   ·rename_i hlt; cases hg
    obtain ⟨x, h1, h2⟩ := h.2 t hlt
    simp only [yielded, ht, Option.bind_some, h2]
    cases hx : fr t with
    | bool c =>
     rw [hx] at h1; simp only [emb] at h1; cases h1
     cases b <;> cases c <;> rfl
    | _ =>
     have : ∀ c, x ≠ .bool c := fun c e => by
      subst e
      have := emb_bool h1
      rw [hx] at this; cases this
     cases x <;> first | rfl | exact absurd rfl (this _)
   ·cases hg
theorem undef_emb : emb m aundef = some undef := by simp [aundef, emb, embL, undef]
theorem sim_ops {ro : Option Nat} {nt : Nat} {call : ACall} (hG : S.G = P.globals.size) (hcall : CallSim P S call) {ops : Array Oper} {Q : Exit → Act → World → Prop} {fr' : AFrame} (ds : List Deferred)
  (hQ : ∀ (m' : RMap) (a' : Act) (w' : World), FRel nt m' fr' a'.tmps → a'.defers = ds → HRel S m' H' w' → Le m m' → Q .normal a' w') :
  ∀ (l : List Oper) (i : Nat) (rl : List ROper) (fr : AFrame) (H : AHeap) (m0 : RMap) (a : Act) (w : World), ops.toList.drop i = l → cOpers P nt ops l = some rl → execOps call rl fr H = some (fr', H') → FRel nt m0 fr a.tmps → a.defers = ds → HRel S m0 H w → Le m m0 →
   wpOpsIn (wid ro) 0 P ops Q (List.range' i l.length) a w
 | [], i, rl, fr, H, m0, a, w, hl, hc, hx, hf, hd, h, hm => by
  simp only [cOpers] at hc; cases hc
  obtain ⟨rfl, rfl⟩ := pure_some hx
  exact hQ m0 a w hf hd h hm
 | o :: l, i, rl, fr, H, m0, a, w, hl, hc, hx, hf, hd, h, hm => by
  simp only [cOpers] at hc
  split at hc
  ·rename_i op dst guard rl' h1 h2 h3 h4; cases hc
   have hoi : ops[i]? = some o := by
    have : (ops.toList.drop i)[0]? = some o := by rw [hl]; rfl
    rw [List.getElem?_drop] at this
    simpa using this
   have hl' : ops.toList.drop (i + 1) = l := by
    have := congrArg (List.drop 1) hl
    simpa [List.drop_drop, Nat.add_comm] using this
   simp only [List.length_cons, List.range'_succ, wpOpsIn, hoi]
   have hw := wanted_eq hf h3 (ro := { dst, op, guard }) rfl
   rw [hw]
   simp only [execOps] at hx
   cases hwant : ROper.wanted fr { dst, op, guard } with
   | true =>
    rw [hwant] at hx
    obtain ⟨v, H1, hx1, hx2⟩ := bind_some hx
    simp only [if_true]
    refine wpIn_of_yields (cOp_plain h1) (sim_op h1 hf h hG hcall hx1) ?_
    intro x w' ⟨m', hm', hv, hrel⟩
    exact sim_ops hG hcall ds hQ l (i + 1) rl' _ H1 m' _ w' hl' h4 hx2 ((hf.mono hm').put h2 hv) (by rw [put_defers]; exact hd) hrel (Le.trans hm hm')
   | false =>
    rw [hwant] at hx
    simp only [Bool.false_eq_true, if_false]
    refine ⟨fun _ _ => trivial, ?_⟩
    exact sim_ops hG hcall ds hQ l (i + 1) rl' _ H m0 _ w hl' h4 hx (hf.put h2 undef_emb) (by rw [put_defers]; exact hd) h hm
  ·cases hc
def RExit.to : RExit → Exit
 | .normal => .normal
 | .exit id => .exit id
 | .ret => .ret
def Post (S : Base) (nt : Nat) (m : RMap) (x : RExit) (fr' : AFrame) (H' : AHeap) (ds : List Deferred) (Q : Exit → Act → World → Prop) : Prop :=
 ∀ (m' : RMap) (a' : Act) (w' : World), FRel nt m' fr' a'.tmps → a'.defers = ds → HRel S m' H' w' → Le m m' → Q x.to a' w'
def DSim (P : Program) (S : Base) (call : ACall) (lf : Nat) : Prop := ∀ (ro : Option Nat) (nt id : Nat) (ops : Array Oper) (rc : RCode) (fr fr' : AFrame) (H H' : AHeap) (x : RExit) (m : RMap) (a : Act) (w : World) (ds : List Deferred) (Q : Exit → Act → World → Prop),
 cCode P nt (.region id ops true) = some rc → rc.exec call lf fr H = some ((x, fr'), H') → FRel nt m fr a.tmps → a.defers = ds → HRel S m H w → Post S nt m x fr' H' ds Q → (Code.region id ops true).wpIn (wid ro) 0 P Q a w
theorem sim_code {ro : Option Nat} {nt : Nat} {call : ACall} {lf : Nat} (hG : S.G = P.globals.size) (hcall : CallSim P S call) (hD : DSim P S call lf) {ds : List Deferred} :
  ∀ (c : Code) (rc : RCode) (fr fr' : AFrame) (H H' : AHeap) (x : RExit) (m : RMap) (a : Act) (w : World) (Q : Exit → Act → World → Prop),
   cCode P nt c = some rc → rc.exec call lf fr H = some ((x, fr'), H') → FRel nt m fr a.tmps → a.defers = ds → HRel S m H w → Post S nt m x fr' H' ds Q → c.wpIn (wid ro) 0 P Q a w := by
 intro c
 induction c with
 | skip =>
  intro rc fr fr' H H' x m a w Q hc hx hf hd h hQ
  simp only [cCode] at hc; cases hc
  obtain ⟨e, rfl⟩ := pure_some hx; cases e
  exact wpIn_skip (hQ m a w hf hd h (Le.refl _))
 | label l =>
  intro rc fr fr' H H' x m a w Q hc hx hf hd h hQ
  simp only [cCode] at hc; cases hc
  obtain ⟨e, rfl⟩ := pure_some hx; cases e
  exact wpIn_label (hQ m a w hf hd h (Le.refl _))
 | region id ops draw =>
  intro rc fr fr' H H' x m a w Q hc hx hf hd h hQ
  cases draw with
  | true => exact hD ro nt id ops rc fr fr' H H' x m a w ds Q hc hx hf hd h hQ
  | false =>
   simp only [cCode] at hc
   cases hl : cOpers P nt ops ops.toList with
   | none => rw [hl] at hc; cases hc; exact (fail_some hx).elim
   | some l =>
    rw [hl] at hc; cases hc
    simp only [RCode.exec] at hx
    obtain ⟨fr1, H1, h1, h2⟩ := bind_some hx
    obtain ⟨e, rfl⟩ := pure_some h2; cases e
    refine wpIn_region ?_
    have := sim_ops (ro := ro) (Q := Q) hG hcall ds (ops := ops) (m := m) (fun m' a' w' h1 h2 h3 h4 => hQ m' a' w' h1 h2 h3 h4) ops.toList 0 l fr H m a w (by simp) hl h1 hf hd h (Le.refl _)
    rw [List.range_eq_range']
    simpa using this
 | seq c1 c2 ih1 ih2 =>
  intro rc fr fr' H H' x m a w Q hc hx hf hd h hQ
  simp only [cCode] at hc
  split at hc
  ·rename_i r1 r2 h1 h2; cases hc
   simp only [RCode.exec] at hx
   obtain ⟨⟨x1, fr1⟩, H1, hx1, hx2⟩ := bind_some hx
   refine wpIn_seq (ih1 r1 fr fr1 H H1 x1 m a w _ h1 hx1 hf hd h ?_)
   intro m' a' w' hf' hd' hr' hm'
   cases x1 with
   | normal => exact ih2 r2 fr1 fr' H1 H' x m' a' w' Q h2 hx2 hf' hd' hr' (fun m2 a2 w2 q1 q2 q3 q4 => hQ m2 a2 w2 q1 q2 q3 (Le.trans hm' q4))
   | exit id => obtain ⟨e, rfl⟩ := pure_some hx2; cases e; exact hQ m' a' w' hf' hd' hr' hm'
   | ret => obtain ⟨e, rfl⟩ := pure_some hx2; cases e; exact hQ m' a' w' hf' hd' hr' hm'
  ·cases hc
 | cond c t e iht ihe =>
  intro rc fr fr' H H' x m a w Q hc hx hf hd h hQ
  simp only [cCode] at hc
  split at hc
  ·rename_i c' t' e' h1 h2 h3; cases hc
   have hev := cOpd_ev h1 hf (by rw [← hG]; exact h.glob)
   simp only [RCode.exec] at hx
   cases hv : c'.ev fr with
   | bool b =>
    rw [hv] at hx hev
    simp only [emb] at hev
    have hev' : a.eval c = .bool b := (Option.some.inj hev).symm
    cases b with
    | true => exact wpIn_cond_true hev' (iht t' fr fr' H H' x m a w Q h2 hx hf hd h hQ)
    | false => exact wpIn_cond_false hev' (ihe e' fr fr' H H' x m a w Q h3 hx hf hd h hQ)
   | _ => rw [hv] at hx; exact (fail_some hx).elim
  ·cases hc
 | block id b ih =>
  intro rc fr fr' H H' x m a w Q hc hx hf hd h hQ
  simp only [cCode] at hc
  cases hb : cCode P nt b with
  | none => rw [hb] at hc; cases hc
  | some b' =>
   rw [hb] at hc; cases hc
   simp only [RCode.exec] at hx
   obtain ⟨⟨x1, fr1⟩, H1, hx1, hx2⟩ := bind_some hx
   refine wpIn_block (ih b' fr fr1 H H1 x1 m a w _ hb hx1 hf hd h ?_)
   intro m' a' w' hf' hd' hr' hm'
   cases x1 with
   | normal => obtain ⟨e, rfl⟩ := pure_some hx2; cases e; exact hQ m' a' w' hf' hd' hr' hm'
   | ret => obtain ⟨e, rfl⟩ := pure_some hx2; cases e; exact hQ m' a' w' hf' hd' hr' hm'
   | exit id' =>
    simp only [] at hx2
    cases hbeq : Nat.beq id' id with
    | true =>
     rw [hbeq] at hx2
     obtain ⟨e, rfl⟩ := pure_some hx2; cases e
     have := Nat.eq_of_beq_eq_true hbeq
     simp only [RExit.to, Exit.inBlock, this, if_true]
     exact hQ m' a' w' hf' hd' hr' hm'
    | false =>
     rw [hbeq] at hx2
     obtain ⟨e, rfl⟩ := pure_some hx2; cases e
     have hne : id' ≠ id := fun e => by subst e; simp at hbeq
     simp only [RExit.to, Exit.inBlock, hne, if_false]
     exact hQ m' a' w' hf' hd' hr' hm'
 | loop b ih =>
  intro rc fr fr' H H' x m a w Q hc hx hf hd h hQ
  simp only [cCode] at hc
  cases hb : cCode P nt b with
  | none => rw [hb] at hc; cases hc
  | some b' =>
   rw [hb] at hc; cases hc
   simp only [RCode.exec] at hx
   have key : ∀ (n : Nat) (fr : AFrame) (H : AHeap) (m1 : RMap) (a : Act) (w : World), loopN (b'.exec call lf) n fr H = some ((x, fr'), H') → FRel nt m1 fr a.tmps → a.defers = ds → HRel S m1 H w → Le m m1 → Code.roundsIn (wid ro) 0 P b Q n a w := by
    intro n
    induction n with
    | zero => intro fr H m1 a w hx _ _ _ _; exact (fail_some hx).elim
    | succ n ihn =>
     intro fr H m1 a w hx hf hd h hm
     rw [roundsIn_succ]
     obtain ⟨⟨x1, fr1⟩, H1, hx1, hx2⟩ := bind_some hx
     refine ih b' fr fr1 H H1 x1 m1 a w _ hb hx1 hf hd h ?_
     intro m' a' w' hf' hd' hr' hm'
     cases x1 with
     | normal => exact ihn fr1 H1 m' a' w' hx2 hf' hd' hr' (Le.trans hm hm')
     | exit id => obtain ⟨e, rfl⟩ := pure_some hx2; cases e; exact hQ m' a' w' hf' hd' hr' (Le.trans hm hm')
     | ret => obtain ⟨e, rfl⟩ := pure_some hx2; cases e; exact hQ m' a' w' hf' hd' hr' (Le.trans hm hm')
   exact wpIn_loop_rounds lf (key lf fr H m a w hx hf hd h (Le.refl _))
 | scope b ih =>
  intro rc fr fr' H H' x m a w Q hc hx hf hd h hQ
  simp only [cCode] at hc
  cases hb : cCode P nt b with
  | none => rw [hb] at hc; cases hc
  | some b' =>
   rw [hb] at hc; cases hc
   simp only [RCode.exec] at hx
   refine wpIn_scope_straight (ih b' fr fr' H H' x m a w _ hb hx hf hd h ?_)
   intro m' a' w' hf' hd' hr' hm'
   have := hQ m' a' w' hf' hd' hr' hm'
   cases x <;> exact this
 | exit id =>
  intro rc fr fr' H H' x m a w Q hc hx hf hd h hQ
  simp only [cCode] at hc; cases hc
  obtain ⟨e, rfl⟩ := pure_some hx; cases e
  exact wpIn_exit (hQ m a w hf hd h (Le.refl _))
 | ret =>
  intro rc fr fr' H H' x m a w Q hc hx hf hd h hQ
  simp only [cCode] at hc; cases hc
  obtain ⟨e, rfl⟩ := pure_some hx; cases e
  exact wpIn_ret (hQ m a w hf hd h (Le.refl _))
 | goto l => intro rc fr fr' H H' x m a w Q hc hx; simp only [cCode] at hc; cases hc; exact (fail_some hx).elim
 | refuse why => intro rc fr fr' H H' x m a w Q hc hx; simp only [cCode] at hc; cases hc; exact (fail_some hx).elim
 | rangeFunc f ps as b ih1 ih2 => intro rc fr fr' H H' x m a w Q hc hx; simp only [cCode] at hc; cases hc; exact (fail_some hx).elim
end
end Go.Am
namespace Go.Am
open Go Go.RowKit
section
variable {P : Program} {m : RMap}
def MadeAs (P : Program) (m : RMap) (s : Sem Next) (cs : List AVal) (e : TypeId) (k : Nat → AVal) : Prop :=
 ∃ xs, embL m cs = some xs ∧ ∀ w : World, ∃ x, s.run P w = .ok (.value x) (w.alloc (.cells xs.toArray e)) ∧ ∀ (m' : RMap) (r : Nat), m' r = some (⟨w.heap.size, 0, none⟩, xs.length) → emb m' (k r) = some x
theorem cZero_all {t : TypeId} {z : List AVal} (h : cZero P t = some z) : ∃ v, (∀ w, (zeroValue t).run P w = .ok v w) ∧ ∀ m, embL m z = some v.cells.toList := by
 unfold cZero at h
 split at h
 ·rename_i i hi
  split at h
  ·rename_i v hv
   split at h
   ·rename_i x hx; cases h
    exact ⟨v, fun w => by simp [zeroValue, typeInfo, hi, hv], fun m => emb_cells (ofV_emb m v x hx)⟩
   ·cases h
  ·cases h
 ·cases h
theorem made_new {e : TypeId} {z : List AVal} (hc : cZero P e = some z) : MadeAs P m (do pure (.value (← Instr.alloc e true (.tuple #[])))) z e (fun r => .ptr r 0) := by
 obtain ⟨v, hv, hz⟩ := cZero_all hc
 refine ⟨_, hz m, fun w => ⟨.pointer (some ⟨w.heap.size, 0, none⟩), ?_, fun m' r hr => by simp [emb, hr, Addr.add]⟩⟩
 simp [Instr.alloc, hv, newVar, newRow]
theorem made_box {e : TypeId} {v : AVal} {x : Value} (hv : emb m v = some x) : MadeAs P m (do pure (.value (← Instr.box e x))) v.cells e (fun r => .ptr r 0) := by
 refine ⟨_, emb_cells hv, fun w => ⟨.pointer (some ⟨w.heap.size, 0, none⟩), ?_, fun m' r hr => by simp [emb, hr, Addr.add]⟩⟩
 simp [Instr.box, newVar, newRow]
theorem made_buildSlice {nt : Nat} {fr : AFrame} {a : Act} (hf : FRel nt m fr a.tmps) (hg : Globs P.globals.size m) {t e : TypeId} {len s : Nat} {z cs : List AVal} {ps : Array (Nat × Operand)} {l : List (Nat × Nat × ROpd)}
  (hu : P.underlying t = some (.slice e)) (hs : cSize P e = some s) (hz : cZero P e = some z) (hcond : z.length = s ∧ 0 < s ∧ len * s ≤ 2 ^ 24) (hl : cParts P nt (fun i => some (i * s, s)) ps.toList = some l)
  (hcs : aFill fr (List.replicate len z).flatten l = some cs) : MadeAs P m (do pure (.value (← Instr.buildSlice t len (ps.map fun (i, x) => (i, a.eval x))))) cs e (fun r => .slice r 0 len (some len) s) := by
 obtain ⟨v, hv, hz'⟩ := cZero_all hz
 obtain ⟨hz1, hz2, hz3⟩ := hcond
 have hzl := embL_length (hz' m)
 have hvs : v.cells.size = s := by simp at hzl; omega
 have hrep := embL_replicate (hz' m) len
 rw [← replicate_flatten v.cells len (by omega)] at hrep
 obtain ⟨zs, h3, h4⟩ := sim_fill hf hg (fun _ _ => trivial) hl hcs hrep
 refine ⟨_, h4, fun w => ⟨.slice (some ⟨w.heap.size, 0, none⟩) len len, ?_, fun m' r hr => by simp [emb, hr, Addr.add, capR]⟩⟩
 simp only [hvs] at h3
 have hn0 : len = 0 ∨ len * s ≠ 0 := by
  rcases Nat.eq_zero_or_pos len with h | h
  ·exact Or.inl h
  ·exact Or.inr (Nat.ne_of_gt (Nat.mul_pos h hz2))
 simp only [Instr.buildSlice, Sem.run_bind, run_underlying hu, Result.andThen_ok, run_sizeOf hs]
 rw [if_neg (by omega)]
 rcases hn0 with h0 | h0
 ·subst h0
  have hemp : ∀ (f : Nat → Value), (Array.range 0).map f = #[] := fun f => by simp [Array.range_zero']
  simp only [Nat.zero_mul, hemp] at h3
  simp only [Nat.zero_mul, if_true, Sem.run_bind, Sem.run_pure, Result.andThen_ok, hemp]
  simp [newRow, h3]
 ·rw [if_neg h0]
  simp [hv, hvs, h3, newRow]
theorem made_makeSlice {t e : TypeId} {s b : Nat} {z : List AVal} (hu : P.underlying t = some (.slice e)) (hs : cSize P e = some s) (hz : cZero P e = some z) (hb : cBytes P e = some b) (hzs : z.length = s) (hs0 : 0 < s)
  {k1 k2 : IntKind} {len cap : Int} (hcond : 0 ≤ len ∧ len ≤ cap ∧ b * cap ≤ 2 ^ 47 ∧ cap < 2 ^ 62) :
  MadeAs P m (do pure (.value (← Instr.makeSlice t (.int k1 len) (.int k2 cap)))) (List.replicate cap.toNat z).flatten e (fun r => .slice r 0 len.toNat (some cap.toNat) z.length) := by
 obtain ⟨h0, h1, h2, h3⟩ := hcond
 obtain ⟨i, hi, hib⟩ := run_typeInfo hb
 have wl : IntKind.i64.wrap len = len := by rw [IntKind.wrap_i64]; omega
 have wc : IntKind.i64.wrap cap = cap := by rw [IntKind.wrap_i64]; omega
 obtain ⟨v, hv, hz'⟩ := cZero_all hz
 have hvs : v.cells.size = s := by have := embL_length (hz' m); simp at this; omega
 have hrep := embL_replicate (hz' m) cap.toNat
 rw [← replicate_flatten v.cells cap.toNat (by omega)] at hrep
 refine ⟨_, hrep, fun w => ⟨.slice (some ⟨w.heap.size, 0, none⟩) len.toNat cap.toNat, ?_, fun m' r hr => by simp [emb, hr, Addr.add, capR]⟩⟩
 have hbig : ¬ (b * cap > 2 ^ 48) := by
  have : (b : Int) * cap ≤ 2 ^ 47 := h2
  omega
 simp only [Instr.makeSlice, Sem.run_bind, run_underlying hu, Result.andThen_ok, asInt, asIntOf, Sem.run_pure, hi, hib, wl, wc]
 rw [if_neg (by
  simp only [Bool.or_eq_true, decide_eq_true_eq, not_or]
  refine ⟨⟨⟨by omega, by simpa using hbig⟩, by omega⟩, by omega⟩)]
 simp only [Sem.run_bind, run_askRoom, Result.andThen_ok, run_sizeOf hs]
 by_cases hc0 : cap.toNat * s = 0
 ·have : cap.toNat = 0 := by
   rcases Nat.mul_eq_zero.1 hc0 with h | h
   ·exact h
   ·omega
  rw [if_pos hc0]
  simp only [Sem.run_pure, Result.andThen_ok, newRow, Sem.run_bind, run_newObj, this, Nat.zero_mul]
  have hemp : ∀ (f : Nat → Value), (Array.range 0).map f = #[] := fun f => by simp [Array.range_zero']
  rw [hemp, hemp]
  rfl
 ·rw [if_neg hc0]
  simp only [Sem.run_bind, hv, Sem.run_pure, Result.andThen_ok, newRow, run_newObj, hvs, Array.toArray_toList]
  rfl
theorem cEqOp_shape {op : BinOp} {q : Option EqDesc} {x y : Option ROpd} {ro : ROp} (h : cEqOp op q x y = some ro) : ∃ n d a b, ro = .eq n d a b := by
 unfold cEqOp at h
 split at h
 ·cases h; exact ⟨_, _, _, _, rfl⟩
 ·cases h; exact ⟨_, _, _, _, rfl⟩
 ·cases h
theorem sim_made {nt : Nat} {fr : AFrame} {a : Act} {o : Oper} {ro : ROp} {cs : List AVal} {e : TypeId} {k : Nat → AVal} (hc : cOp P nt o = some ro) (hf : FRel nt m fr a.tmps) (hg : Globs P.globals.size m)
  (hm : ro.made fr = some (cs, e, k)) : MadeAs P m (execOp a.eval o) cs e k := by
 obtain ⟨dst, op, ty, pos, after, guard⟩ := o
 cases op with
 | alloc e' =>
  simp only [cOp] at hc
  cases hz : cZero P e' with
  | none => rw [hz] at hc; cases hc
  | some z => rw [hz] at hc; cases hc; simp only [ROp.made] at hm; cases hm; exact made_new hz
 | box e' x =>
  simp only [cOp] at hc
  cases hu : cOpd P.globals.size nt x with
  | none => rw [hu] at hc; cases hc
  | some r => rw [hu] at hc; cases hc; simp only [ROp.made] at hm; cases hm; exact made_box (cOpd_ev hu hf hg)
 | buildSlice t len ps =>
  simp only [cOp] at hc
  split at hc
  ·rename_i e' hu
   split at hc
   ·rename_i s z hs hz
    split at hc
    ·rename_i hcond
     split at hc
     ·rename_i l hl; cases hc
      simp only [ROp.made] at hm
      cases hcs : aFill fr (List.replicate len z).flatten l with
      | none => rw [hcs] at hm; cases hm
      | some cs' => rw [hcs] at hm; cases hm; exact made_buildSlice hf hg hu hs hz hcond hl hcs
     ·cases hc
    ·cases hc
   ·cases hc
  ·cases hc
 | makeSlice t l c =>
  simp only [cOp] at hc
  split at hc
  ·rename_i e' hu
   split at hc
   ·rename_i s z b l' c' hs hz hb h1 h2
    split at hc
    ·rename_i hcond; cases hc
     have e1 := cOpd_ev h1 hf hg; have e2 := cOpd_ev h2 hf hg
     simp only [ROp.made] at hm
     cases hl : l'.ev fr <;> rw [hl] at hm e1 <;> try (cases hm; done)
     cases hcc : c'.ev fr <;> rw [hcc] at hm e2 <;> try (cases hm; done)
     simp only [] at hm
     split at hm
     ·rename_i hcnd; cases hm
      simp only [emb] at e1 e2
      show MadeAs P m (do pure (.value (← Instr.makeSlice t (a.eval l) (a.eval c)))) _ _ _
      rw [← Option.some.inj e1, ← Option.some.inj e2]
      exact made_makeSlice hu hs hz hb hcond.1 hcond.2 hcnd
     ·cases hm
    ·cases hc
   ·cases hc
  ·cases hc
 | binOp op t x y b =>
  simp only [cOp] at hc
  split at hc
  ·split at hc
   ·cases hc; cases hm
   ·cases hc
  ·split at hc
   ·cases hc; cases hm
   ·cases hc
  ·obtain ⟨n, d, x, y, rfl⟩ := cEqOp_shape hc; cases hm
 | call c =>
  exfalso
  obtain ⟨callee, args, argTypes⟩ := c
  cases callee with
  | invoke r n => simp [cOp] at hc
  | value f =>
   simp only [cOp] at hc
   split at hc
   ·cases hc; cases hm
   ·cases hc
  | builtin b =>
   cases b <;> simp only [cOp] at hc
   all_goals repeat' (split at hc)
   all_goals first
    | (cases hc; done)
    | (cases hc; cases hm; done)
    | (obtain ⟨s, _, rfl⟩ := Option.map_eq_some_iff.1 hc; cases hm; done)
 | _ =>
  exfalso
  simp only [cOp] at hc
  repeat' (split at hc)
  all_goals first
   | (cases hc; done)
   | (cases hc; cases hm; done)
   | (obtain ⟨s, _, rfl⟩ := Option.map_eq_some_iff.1 hc; cases hm; done)
end
end Go.Am
namespace Go.Am
open Go Go.RowKit
mutual
theorem abeq_eq : ∀ {a b : AVal}, abeq a b = true → a = b
 | .bool a, b, h => by cases b <;> simp_all [abeq]
 | .int k n, b, h => by cases b <;> simp_all [abeq]
 | .str s, b, h => by cases b <;> simp_all [abeq]
 | .nptr, b, h => by cases b <;> simp_all [abeq]
 | .ptr r o, b, h => by
  cases b <;> simp only [abeq, Bool.and_eq_true] at h <;> try (cases h; done)
  rw [Nat.eq_of_beq_eq_true h.1, Nat.eq_of_beq_eq_true h.2]
 | .nslice, b, h => by cases b <;> simp_all [abeq]
 | .slice r o l c z, b, h => by
  cases b <;> simp only [abeq, Bool.and_eq_true, decide_eq_true_eq] at h <;> try (cases h; done)
  obtain ⟨⟨⟨⟨h1, h2⟩, h3⟩, h4⟩, h5⟩ := h
  rw [Nat.eq_of_beq_eq_true h1, Nat.eq_of_beq_eq_true h2, Nat.eq_of_beq_eq_true h3, h4, Nat.eq_of_beq_eq_true h5]
 | .nfunc, b, h => by cases b <;> simp_all [abeq]
 | .func f x y, b, h => by
  cases b <;> simp only [abeq, Bool.and_eq_true, decide_eq_true_eq] at h <;> try (cases h; done)
  rw [h.1.1, abeqL_eq h.1.2, abeqL_eq h.2]
 | .niface, b, h => by cases b <;> simp_all [abeq]
 | .iface t v, b, h => by
  cases b <;> simp only [abeq, Bool.and_eq_true] at h <;> try (cases h; done)
  rw [Nat.eq_of_beq_eq_true h.1, abeq_eq h.2]
 | .agg x, b, h => by
  cases b <;> simp only [abeq] at h <;> try (cases h; done)
  rw [abeqL_eq h]
 | .tuple x, b, h => by
  cases b <;> simp only [abeq] at h <;> try (cases h; done)
  rw [abeqL_eq h]
 | .yield x, b, h => by
  cases b <;> simp only [abeq] at h <;> try (cases h; done)
  rw [Nat.eq_of_beq_eq_true h]
 | .eslice r o l z, b, h => by
  cases b <;> simp only [abeq, Bool.and_eq_true] at h <;> try (cases h; done)
  obtain ⟨⟨⟨h1, h2⟩, h3⟩, h4⟩ := h
  rw [Nat.eq_of_beq_eq_true h1, Nat.eq_of_beq_eq_true h2, Nat.eq_of_beq_eq_true h3, Nat.eq_of_beq_eq_true h4]
theorem abeqL_eq : ∀ {a b : List AVal}, abeqL a b = true → a = b
 | [], b, h => by cases b <;> simp_all [abeqL]
 | x :: xs, b, h => by
  cases b <;> simp only [abeqL, Bool.and_eq_true] at h <;> try (cases h; done)
  rw [abeq_eq h.1, abeqL_eq h.2]
end
theorem ev_congr {fr fr' : AFrame} {x : ROpd} (h : ∀ t ∈ x.tmps, fr t = fr' t) : x.ev fr = x.ev fr' := by
 cases x with
 | tmp t => exact h t (by simp [ROpd.tmps])
 | val v => rfl
theorem evs_congr {fr fr' : AFrame} {l : List ROpd} (h : ∀ t ∈ l.flatMap ROpd.tmps, fr t = fr' t) : l.map (·.ev fr) = l.map (·.ev fr') :=
 List.map_congr_left fun x hx => ev_congr fun t ht => h t (List.mem_flatMap.2 ⟨x, hx, ht⟩)
theorem opt_congr {fr fr' : AFrame} {x : Option ROpd} (h : ∀ t ∈ optTmps x, fr t = fr' t) : x.map (·.ev fr) = x.map (·.ev fr') := by
 cases x with
 | none => rfl
 | some x => simp only [Option.map_some]; rw [ev_congr h]
theorem fill_congr {fr fr' : AFrame} : ∀ {ps : List (Nat × Nat × ROpd)} {cells : List AVal}, (∀ t ∈ ps.flatMap fun p => p.2.2.tmps, fr t = fr' t) → aFill fr cells ps = aFill fr' cells ps
 | [], _, _ => rfl
 | (off, size, x) :: rest, cells, h => by
  simp only [aFill]
  have hx : x.ev fr = x.ev fr' := ev_congr fun t ht => h t (by simp [ht])
  rw [hx]
  split
  ·rfl
  ·exact fill_congr fun t ht => h t (by rw [List.flatMap_cons]; exact List.mem_append.2 (Or.inr ht))
theorem exec_congr {call : ACall} {fr fr' : AFrame} {op : ROp} (h : ∀ t ∈ op.tmps, fr t = fr' t) : op.exec call fr = op.exec call fr' := by
 cases op with
 | sliceStr x lo hi =>
  have hx : x.ev fr = x.ev fr' := ev_congr fun t ht => h t (by cases lo <;> cases hi <;> simp [ROp.tmps, ht])
  have h1 : lo.map (·.ev fr) = lo.map (·.ev fr') := opt_congr fun t ht => h t (by cases lo <;> cases hi <;> simp_all [ROp.tmps, optTmps])
  have h2 : hi.map (·.ev fr) = hi.map (·.ev fr') := opt_congr fun t ht => h t (by cases lo <;> cases hi <;> simp_all [ROp.tmps, optTmps])
  simp only [ROp.exec, hx, h1, h2]
 | build z ps => simp only [ROp.exec, fill_congr (fr := fr) (fr' := fr') h]
 | buildSlice e s l z ps => simp only [ROp.exec, fill_congr (fr := fr) (fr' := fr') h]
 | mkFunc fn a b =>
  simp only [ROp.tmps, List.mem_append] at h
  simp only [ROp.exec, evs_congr (l := a) (fun t ht => h t (Or.inl ht)), evs_congr (l := b) (fun t ht => h t (Or.inr ht))]
 | call f l =>
  simp only [ROp.tmps, List.mem_append] at h
  simp only [ROp.exec, ev_congr (x := f) (fun t ht => h t (Or.inl ht)), evs_congr (l := l) (fun t ht => h t (Or.inr ht))]
 | minmax mx l =>
  cases l with
  | nil => rfl
  | cons x l =>
   have hh : ∀ t ∈ x.tmps ++ l.flatMap ROpd.tmps, fr t = fr' t := fun t ht => h t (by simpa [ROp.tmps] using ht)
   simp only [List.mem_append] at hh
   simp only [ROp.exec, ev_congr (x := x) (fun t ht => hh t (Or.inl ht)), evs_congr (l := l) (fun t ht => hh t (Or.inr ht))]
 | sliceS s x lo hi mx =>
  simp only [ROp.tmps, List.mem_append] at h
  simp only [ROp.exec, ev_congr (x := x) (fun t ht => h t (by simp [ht])), opt_congr (x := lo) (fun t ht => h t (by simp [ht])), opt_congr (x := hi) (fun t ht => h t (by simp [ht])), opt_congr (x := mx) (fun t ht => h t (by simp [ht]))]
 | sliceArr n s x lo hi mx =>
  simp only [ROp.tmps, List.mem_append] at h
  simp only [ROp.exec, ev_congr (x := x) (fun t ht => h t (by simp [ht])), opt_congr (x := lo) (fun t ht => h t (by simp [ht])), opt_congr (x := hi) (fun t ht => h t (by simp [ht])), opt_congr (x := mx) (fun t ht => h t (by simp [ht]))]
 | pick c a b =>
  simp only [ROp.tmps, List.mem_append] at h
  simp only [ROp.exec, ev_congr (x := c) (fun t ht => h t (by simp [ht])), ev_congr (x := a) (fun t ht => h t (by simp [ht])), ev_congr (x := b) (fun t ht => h t (by simp [ht]))]
 | store n a b => simp only [ROp.tmps, List.mem_append] at h; simp only [ROp.exec, ev_congr (x := a) (fun t ht => h t (Or.inl ht)), ev_congr (x := b) (fun t ht => h t (Or.inr ht))]
 | bin o a b => simp only [ROp.tmps, List.mem_append] at h; simp only [ROp.exec, ev_congr (x := a) (fun t ht => h t (Or.inl ht)), ev_congr (x := b) (fun t ht => h t (Or.inr ht))]
 | eq n d a b => simp only [ROp.tmps, List.mem_append] at h; simp only [ROp.exec, ev_congr (x := a) (fun t ht => h t (Or.inl ht)), ev_congr (x := b) (fun t ht => h t (Or.inr ht))]
 | makeSlice e z y a b => simp only [ROp.tmps, List.mem_append] at h; simp only [ROp.exec, ev_congr (x := a) (fun t ht => h t (Or.inl ht)), ev_congr (x := b) (fun t ht => h t (Or.inr ht))]
 | idxS s a b => simp only [ROp.tmps, List.mem_append] at h; simp only [ROp.exec, ev_congr (x := a) (fun t ht => h t (Or.inl ht)), ev_congr (x := b) (fun t ht => h t (Or.inr ht))]
 | idxA n s a b => simp only [ROp.tmps, List.mem_append] at h; simp only [ROp.exec, ev_congr (x := a) (fun t ht => h t (Or.inl ht)), ev_congr (x := b) (fun t ht => h t (Or.inr ht))]
 | indexA n s g a b => simp only [ROp.tmps, List.mem_append] at h; simp only [ROp.exec, ev_congr (x := a) (fun t ht => h t (Or.inl ht)), ev_congr (x := b) (fun t ht => h t (Or.inr ht))]
 | indexStr a b => simp only [ROp.tmps, List.mem_append] at h; simp only [ROp.exec, ev_congr (x := a) (fun t ht => h t (Or.inl ht)), ev_congr (x := b) (fun t ht => h t (Or.inr ht))]
 | append e s y a b => simp only [ROp.tmps, List.mem_append] at h; simp only [ROp.exec, ev_congr (x := a) (fun t ht => h t (Or.inl ht)), ev_congr (x := b) (fun t ht => h t (Or.inr ht))]
 | appendZ e s y z a b => simp only [ROp.tmps, List.mem_append] at h; simp only [ROp.exec, ev_congr (x := a) (fun t ht => h t (Or.inl ht)), ev_congr (x := b) (fun t ht => h t (Or.inr ht))]
 | copy s a b => simp only [ROp.tmps, List.mem_append] at h; simp only [ROp.exec, ev_congr (x := a) (fun t ht => h t (Or.inl ht)), ev_congr (x := b) (fun t ht => h t (Or.inr ht))]
 | unsafeStr e a b => simp only [ROp.tmps, List.mem_append] at h; simp only [ROp.exec, ev_congr (x := a) (fun t ht => h t (Or.inl ht)), ev_congr (x := b) (fun t ht => h t (Or.inr ht))]
 | new e cs => rfl
 | lenA n => rfl
 | rangeStr x => rfl
 | nextStr x => rfl
 | _ => simp only [ROp.exec, ev_congr (fr := fr) (fr' := fr') (fun t ht => h t (by simpa [ROp.tmps] using ht))]
theorem made_congr {fr fr' : AFrame} {op : ROp} (h : ∀ t ∈ op.tmps, fr t = fr' t) : op.made fr = op.made fr' := by
 cases op with
 | box e x => simp only [ROp.made, ev_congr (x := x) (fr := fr) (fr' := fr') h]
 | buildSlice e s l z ps => simp only [ROp.made, fill_congr (fr := fr) (fr' := fr') h]
 | makeSlice e z y a b => simp only [ROp.tmps, List.mem_append] at h; simp only [ROp.made, ev_congr (x := a) (fun t ht => h t (Or.inl ht)), ev_congr (x := b) (fun t ht => h t (Or.inr ht))]
 | _ => rfl
theorem push_n_ne {H : AHeap} {o : AObj} : (H.push o).n ≠ H.n := by simp [AHeap.push]
theorem aLoad_same {H H' : AHeap} {g : Option Nat} {a v : AVal} (hx : aLoad g a H = some (v, H')) : H' = H := by
 cases a with
 | ptr r off =>
  obtain ⟨⟨cs, rw⟩, H1, h1, h2⟩ := bind_some hx
  obtain ⟨rfl, _⟩ := aRow_some h1
  cases g with
  | none =>
   simp only [] at h2
   cases hq : cs[off]? with
   | none => rw [hq] at h2; exact (fail_some h2).elim
   | some u => rw [hq] at h2; exact (pure_some h2).2
  | some n =>
   simp only [] at h2
   by_cases hq : off + n ≤ cs.length
   ·rw [if_pos hq] at h2; exact (pure_some h2).2
   ·rw [if_neg hq] at h2; exact (fail_some h2).elim
 | _ => exact (fail_some (H := H) hx).elim
theorem aUptr_same {H H' : AHeap} {t s : Nat} {a v : AVal} (hx : aUptr t s a H = some (v, H')) : H' = H := by
 cases a with
 | nptr => exact (pure_some hx).2
 | ptr r off => exact (aUptr_some hx).1
 | _ => exact (fail_some (H := H) hx).elim
theorem aSliceData_same {H H' : AHeap} {s : Nat} {a v : AVal} (hx : aSliceData s a H = some (v, H')) : H' = H := by
 cases a with
 | nslice => exact (pure_some hx).2
 | slice r off len cap z =>
  cases cap with
  | some c =>
   simp only [aSliceData] at hx
   by_cases hc : c = 0
   ·rw [if_pos hc] at hx; exact (fail_some hx).elim
   ·rw [if_neg hc] at hx; exact (pure_some hx).2
  | none =>
   simp only [aSliceData] at hx
   obtain ⟨⟨cs, rw⟩, H1, h1, h2⟩ := bind_some hx
   obtain ⟨rfl, _⟩ := aRow_some h1
   simp only [] at h2
   by_cases hc : z = s ∧ 0 < s ∧ off + s ≤ cs.length
   ·rw [if_pos hc] at h2; exact (pure_some h2).2
   ·rw [if_neg hc] at h2; exact (fail_some h2).elim
 | _ => exact (fail_some (H := H) hx).elim
theorem aBytesToStr_same {H H' : AHeap} {a v : AVal} (hx : aBytesToStr a H = some (v, H')) : H' = H := by
 cases a with
 | nslice => exact (pure_some hx).2
 | slice r off len cap s =>
  simp only [aBytesToStr] at hx
  by_cases hs : s ≠ 1
  ·rw [if_pos hs] at hx; exact (fail_some hx).elim
  ·rw [if_neg hs] at hx
   obtain ⟨⟨cs, rw⟩, H1, h1, h2⟩ := bind_some hx
   obtain ⟨rfl, _⟩ := aRow_some h1
   simp only [] at h2
   by_cases hq : off + len ≤ cs.length
   ·rw [if_pos hq] at h2
    cases hb : bytesOf ((cs.drop off).take len) with
    | none => rw [hb] at h2; exact (fail_some h2).elim
    | some l => rw [hb] at h2; exact (pure_some h2).2
   ·rw [if_neg hq] at h2; exact (fail_some h2).elim
 | _ => exact (fail_some (H := H) hx).elim
theorem aSliceS_same {H H' : AHeap} {s : Nat} {x v : AVal} {lo hi mx : Option AVal} (hx : aSliceS s x lo hi mx H = some (v, H')) (hn : H'.n = H.n) : H' = H := by
 cases x with
 | nslice =>
  simp only [aSliceS] at hx
  cases hb : aBounds 0 (some 0) lo hi mx with
  | none => rw [hb] at hx; exact (fail_some hx).elim
  | some l => rw [hb] at hx; exact (pure_some hx).2
 | slice r off len cap z =>
  simp only [aSliceS] at hx
  by_cases hs : z ≠ s
  ·rw [if_pos hs] at hx; exact (fail_some hx).elim
  ·rw [if_neg hs] at hx
   cases hb : aBounds len cap lo hi mx with
   | none => rw [hb] at hx; exact (fail_some hx).elim
   | some q =>
    obtain ⟨l, h, mm⟩ := q
    rw [hb] at hx
    simp only [] at hx
    cases cap with
    | some c =>
     cases mm with
     | some m => exact (pure_some hx).2
     | none => exact (fail_some (H := H) hx).elim
    | none =>
     simp only [] at hx
     by_cases hz : s = 0
     ·rw [if_pos hz] at hx; exact (fail_some hx).elim
     ·rw [if_neg hz] at hx
      obtain ⟨⟨cs, rw⟩, H1, h1, h2⟩ := bind_some hx
      obtain ⟨rfl, _⟩ := aRow_some h1
      simp only [] at h2
      by_cases hl : cs.length < off + len * s
      ·rw [if_pos hl] at h2; exact (fail_some h2).elim
      ·rw [if_neg hl] at h2
       cases mm with
       | some m => exact (pure_some h2).2
       | none =>
        simp only [] at h2
        by_cases hlh : l < h ∨ l = 0
        ·rw [if_pos hlh] at h2; exact (pure_some h2).2
        ·rw [if_neg hlh] at h2
         obtain ⟨r', H2, h3, h4⟩ := bind_some h2
         obtain ⟨rfl, rfl⟩ := aNew_some h3
         obtain ⟨_, rfl⟩ := pure_some h4
         exact absurd hn push_n_ne
 | _ => exact (fail_some (H := H) hx).elim
theorem exec_reads {call : ACall} {fr : AFrame} {op : ROp} {H H' : AHeap} {v : AVal} (hk : op.kind ≤ 1) (hx : op.exec call fr H = some (v, H')) (hn : H'.n = H.n) : H' = H ∧ ∀ call', op.exec call' fr H = some (v, H) := by
 have key : H' = H := by
  cases op <;> simp only [ROp.kind] at hk <;> try omega
  all_goals simp only [ROp.exec] at hx
  case pick c a b => cases hc : c.ev fr <;> rw [hc] at hx <;> first | exact (pure_some hx).2 | exact (fail_some hx).elim
  case build z ps => cases hc : aFill fr z ps <;> rw [hc] at hx <;> first | exact (pure_some hx).2 | exact (fail_some hx).elim
  case eq n d a b => cases hc : aEq d (a.ev fr) (b.ev fr) <;> rw [hc] at hx <;> first | exact (pure_some hx).2 | exact (fail_some hx).elim
  case convInt k x => cases hc : x.ev fr <;> rw [hc] at hx <;> first | exact (pure_some hx).2 | exact (fail_some hx).elim
  case minmax mx xs => cases xs <;> first | exact (ofOption_some hx).2 | exact (fail_some hx).elim
  case load g a => exact aLoad_same hx
  case uptr t sz x => exact aUptr_same hx
  case sliceData sz x => exact aSliceData_same hx
  case bytesToStr x => exact aBytesToStr_same hx
  case sliceS s x lo hi mx => exact aSliceS_same hx hn
  all_goals first | exact (pure_some hx).2 | exact (ofOption_some hx).2
 refine ⟨key, fun call' => ?_⟩
 subst key
 cases op <;> simp only [ROp.kind] at hk <;> first | omega | exact hx
theorem exec_pure {call : ACall} {fr : AFrame} {op : ROp} {H H' : AHeap} {v : AVal} (hk : op.kind = 0) (hx : op.exec call fr H = some (v, H')) : ∀ call' H2, op.exec call' fr H2 = some (v, H2) := by
 intro call' H2
 cases op <;> simp only [ROp.kind] at hk <;> try omega
 all_goals simp only [ROp.exec] at hx ⊢
 case pick c a b => cases hc : c.ev fr <;> rw [hc] at hx <;> first | (obtain ⟨rfl, rfl⟩ := pure_some hx; rfl) | exact (fail_some hx).elim
 case build z ps => cases hc : aFill fr z ps <;> rw [hc] at hx <;> first | (obtain ⟨rfl, rfl⟩ := pure_some hx; rfl) | exact (fail_some hx).elim
 case eq n d a b => cases hc : aEq d (a.ev fr) (b.ev fr) <;> rw [hc] at hx <;> first | (obtain ⟨rfl, rfl⟩ := pure_some hx; rfl) | exact (fail_some hx).elim
 case convInt k x => cases hc : x.ev fr <;> rw [hc] at hx <;> first | (obtain ⟨rfl, rfl⟩ := pure_some hx; rfl) | exact (fail_some hx).elim
 case minmax mx xs => cases xs <;> first | (obtain ⟨h, rfl⟩ := ofOption_some hx; simp only [h]; rfl) | exact (fail_some hx).elim
 all_goals first | (obtain ⟨rfl, rfl⟩ := pure_some hx; rfl) | (obtain ⟨h, rfl⟩ := ofOption_some hx; rw [h]; rfl)
theorem kind_le (op : ROp) : op.kind ≤ 3 := by cases op <;> simp [ROp.kind]
def foldF : List DRec → (Nat → Bool) → AFrame → AFrame
 | [], _, fr => fr
 | r :: rs, X, fr => foldF rs (fun i => X (i + 1)) (match X 0 with | true => put fr r.o.dst r.v | false => fr)
def foldH : List DRec → (Nat → Bool) → AHeap → AHeap
 | [], _, H => H
 | r :: rs, X, H => foldH rs (fun i => X (i + 1)) (match X 0 && r.eff with | true => r.hp | false => H)
theorem put_ne {fr : AFrame} {d : Option Nat} {v : AVal} {t : Nat} (h : d ≠ some t) : put fr d v t = fr t := by
 cases d with
 | none => rfl
 | some d =>
  have : t ≠ d := fun e => h (by rw [e])
  simp [put, upd, nbeq_ne this]
theorem put_eq {fr : AFrame} {v : AVal} {t : Nat} : put fr (some t) v t = v := by simp [put, upd]
theorem foldF_agree {t : Nat} : ∀ {R : List DRec} {X Y : Nat → Bool} {fr fr' : AFrame}, fr t = fr' t → (∀ i q, R[i]? = some q → q.o.dst = some t → X i = Y i) → foldF R X fr t = foldF R Y fr' t
 | [], X, Y, fr, fr', h, _ => h
 | r :: rs, X, Y, fr, fr', h, hd => by
  simp only [foldF]
  refine foldF_agree ?_ fun i q hq hqd => hd (i + 1) q (by simpa using hq) hqd
  by_cases hrd : r.o.dst = some t
  ·have := hd 0 r rfl hrd
   rw [this]
   cases Y 0
   ·exact h
   ·simp only []; rw [hrd, put_eq, put_eq]
  ·cases X 0 <;> cases Y 0 <;> simp only [] <;> (try rw [put_ne hrd]) <;> (try rw [put_ne hrd]) <;> exact h
theorem foldF_put {d : Option Nat} {v : AVal} {R : List DRec} {X : Nat → Bool} {fr : AFrame} (h : ∀ i q t, R[i]? = some q → X i = true → d = some t → q.o.dst ≠ some t) : foldF R X (put fr d v) = put (foldF R X fr) d v := by
 induction R generalizing X fr with
 | nil => rfl
 | cons r rs ih =>
  simp only [foldF]
  rw [← ih (fun i q t hq hX hd => h (i + 1) q t (by simpa using hq) hX hd)]
  cases hx0 : X 0 with
  | false => rfl
  | true =>
   simp only []
   congr 1
   cases d with
   | none => rfl
   | some t =>
    have hne := h 0 r t rfl hx0 rfl
    cases hrd : r.o.dst with
    | none => rfl
    | some e =>
     have hte : e ≠ t := fun e' => hne (by rw [hrd, e'])
     funext i
     simp only [put, upd]
     by_cases h1 : i = e
     ·subst h1; simp [nbeq_ne hte]
     ·by_cases h2 : i = t
      ·subst h2; simp [nbeq_ne h1]
      ·simp [nbeq_ne h1, nbeq_ne h2]
theorem foldF_add {R : List DRec} {X Y : Nat → Bool} {fr : AFrame} {k : Nat} {r : DRec} (hk : R[k]? = some r) (hX : X k = false) (hY : Y k = true) (hYX : ∀ i, i ≠ k → Y i = X i)
  (hlast : ∀ i q t, k < i → R[i]? = some q → X i = true → r.o.dst = some t → q.o.dst ≠ some t) : foldF R Y fr = put (foldF R X fr) r.o.dst r.v := by
 induction R generalizing X Y fr k with
 | nil => simp at hk
 | cons a rs ih =>
  cases k with
  | zero =>
   simp at hk; subst hk
   simp only [foldF, hX, hY]
   have : (fun i => Y (i + 1)) = fun i => X (i + 1) := funext fun i => hYX (i + 1) (by omega)
   rw [this]
   exact foldF_put fun i q t hq hx hd => hlast (i + 1) q t (by omega) (by simpa using hq) hx hd
  | succ k =>
   simp only [foldF]
   rw [hYX 0 (by omega)]
   exact ih (by simpa using hk) hX hY (fun i hi => hYX (i + 1) (by omega)) fun i q t hlt hq hx hd => hlast (i + 1) q t (by omega) (by simpa using hq) hx hd
theorem foldH_agree {R : List DRec} {X Y : Nat → Bool} {H : AHeap} (h : ∀ i q, R[i]? = some q → q.eff = true → X i = Y i) : foldH R X H = foldH R Y H := by
 induction R generalizing X Y H with
 | nil => rfl
 | cons a rs ih =>
  simp only [foldH]
  have h0 : (X 0 && a.eff) = (Y 0 && a.eff) := by
   cases ha : a.eff with
   | false => simp
   | true => rw [h 0 a rfl ha]
  rw [h0]
  exact ih fun i q hq he => h (i + 1) q (by simpa using hq) he
theorem foldH_none {R : List DRec} {X : Nat → Bool} {H : AHeap} (h : ∀ i q, R[i]? = some q → q.eff = true → X i = false) : foldH R X H = H := by
 induction R generalizing X H with
 | nil => rfl
 | cons a rs ih =>
  simp only [foldH]
  have h0 : (X 0 && a.eff) = false := by
   cases ha : a.eff with
   | false => simp
   | true => rw [h 0 a rfl ha]; rfl
  rw [h0]
  exact ih fun i q hq he => h (i + 1) q (by simpa using hq) he
theorem foldH_add {R : List DRec} {X : Nat → Bool} {H : AHeap} {k : Nat} {r : DRec} (hk : R[k]? = some r) (hX : X k = true) (he : r.eff = true)
  (hlast : ∀ i q, k < i → R[i]? = some q → q.eff = true → X i = false) : foldH R X H = r.hp := by
 induction R generalizing X H k with
 | nil => simp at hk
 | cons a rs ih =>
  cases k with
  | zero =>
   simp at hk; subst hk
   simp only [foldH, hX, he]
   exact foldH_none fun i q hq he => hlast (i + 1) q (by omega) (by simpa using hq) he
  | succ k =>
   simp only [foldH]
   exact ih (by simpa using hk) hX fun i q hlt hq he => hlast (i + 1) q (by omega) (by simpa using hq) he
def refs : List DItem → Nat → Nat → Nat
 | _, ref, 0 => ref
 | [], ref, _ + 1 => ref
 | it :: rest, ref, k + 1 => refs rest (nextRef it.cls ref) k
def cnt3 : List DItem → Nat
 | [] => 0
 | it :: rest => (match Nat.beq it.cls 3 with | true => 1 | false => 0) + cnt3 rest
theorem le_nextRef (c ref : Nat) : ref ≤ nextRef c ref := by unfold nextRef; cases Nat.beq c 3 <;> simp
theorem nextRef_eq {c ref : Nat} (h : Nat.beq c 3 = true) : nextRef c ref = ref + 1 := by unfold nextRef; rw [h]
theorem nextRef_le (c ref : Nat) : nextRef c ref ≤ ref + (match Nat.beq c 3 with | true => 1 | false => 0) := by unfold nextRef; cases Nat.beq c 3 <;> simp
theorem refs_ge : ∀ (its : List DItem) (ref k : Nat), ref ≤ refs its ref k
 | its, ref, 0 => by cases its <;> simp [refs]
 | [], ref, k + 1 => by simp [refs]
 | it :: rest, ref, k + 1 => by
  simp only [refs]
  exact Nat.le_trans (le_nextRef _ _) (refs_ge rest _ k)
theorem refs_lt : ∀ (its : List DItem) (ref k : Nat) (it : DItem), its[k]? = some it → Nat.beq it.cls 3 = true → refs its ref k < ref + cnt3 its
 | [], ref, k, it, h, _ => by simp at h
 | a :: rest, ref, 0, it, h, hc => by
  simp only [List.getElem?_cons_zero, Option.some.injEq] at h; subst h
  simp only [refs, cnt3, hc]; omega
 | a :: rest, ref, k + 1, it, h, hc => by
  have h' : rest[k]? = some it := by simpa using h
  simp only [refs, cnt3]
  have h1 := refs_lt rest (nextRef a.cls ref) k it h' hc
  have h2 := nextRef_le a.cls ref
  omega
theorem refs_strict : ∀ (its : List DItem) (ref k k' : Nat) (it : DItem), its[k]? = some it → Nat.beq it.cls 3 = true → k < k' → refs its ref k < refs its ref k'
 | [], ref, k, k', it, h, _, _ => by simp at h
 | _ :: _, ref, k, 0, it, h, _, hlt => absurd hlt (Nat.not_lt_zero _)
 | a :: rest, ref, 0, k' + 1, it, h, hc, _ => by
  simp only [List.getElem?_cons_zero, Option.some.injEq] at h; subst h
  simp only [refs, nextRef_eq hc]
  exact refs_ge rest (ref + 1) k'
 | a :: rest, ref, k + 1, k' + 1, it, h, hc, hlt => by
  simp only [refs]
  exact refs_strict rest _ k k' it (by simpa using h) hc (by omega)
theorem oracle_length : ∀ (its : List DItem) (ref : Nat) (fr : AFrame) (H : AHeap), (oracle its ref fr H).length = cnt3 its
 | [], ref, fr, H => rfl
 | it :: rest, ref, fr, H => by
  simp only [oracle, cnt3]
  cases Nat.beq it.cls 3 <;> simp only []
  ·cases it.pre <;> simp only []
   ·rw [oracle_length]; omega
   ·cases it.o.wanted fr <;> simp only []
    ·rw [oracle_length]; omega
    ·cases it.o.op.exec noCall fr H <;> simp only [] <;> rw [oracle_length] <;> omega
  ·cases it.o.wanted fr <;> simp only []
   ·simp only [List.length_cons]; rw [oracle_length]; omega
   ·cases it.o.op.made fr <;> simp only [List.length_cons] <;> rw [oracle_length] <;> omega
theorem pushAll_n : ∀ (os : List AObj) (H : AHeap), (pushAll H os).n = H.n + os.length
 | [], H => rfl
 | o :: os, H => by
  simp only [pushAll, List.length_cons]
  rw [pushAll_n os (H.push o)]
  simp only [AHeap.push]; omega
structure RecOk (call : ACall) (it : DItem) (ref : Nat) (F : AFrame) (H : AHeap) (r : DRec) : Prop where
 o : r.o = it.o
 b : r.b = it.b
 cls : r.cls = it.cls
 fr : r.fr = F
 rf : r.ref = ref
 want : r.want = it.o.wanted F
 no : r.want = false → r.v = aundef ∧ r.eff = false
 yes : r.want = true → dstep call it ref F H = some (r.v, r.eff, r.hp)
theorem look_cases {fr : AFrame} {op : ROp} {H : AHeap} {v : AVal} (h : op.look fr H = some v) : (∃ H1, op.exec noCall fr H = some (v, H1) ∧ H1.n = H.n) ∨
  ∃ sz x lo hi mx u H1, op = .sliceS sz x lo hi mx ∧ op.exec noCall fr H = some (u, H1) ∧ H1.n ≠ H.n ∧ aSliceE sz (x.ev fr) (lo.map (·.ev fr)) (hi.map (·.ev fr)) (mx.map (·.ev fr)) = some v := by
 unfold ROp.look at h
 cases hx : op.exec noCall fr H with
 | none => rw [hx] at h; cases h
 | some q =>
  obtain ⟨u, H1⟩ := q
  rw [hx] at h
  simp only [] at h
  cases hn : Nat.beq H1.n H.n with
  | true => rw [hn] at h; cases h; exact Or.inl ⟨H1, rfl, Nat.eq_of_beq_eq_true hn⟩
  | false =>
   rw [hn] at h
   have hne : H1.n ≠ H.n := fun e => by rw [e, Nat.beq_refl] at hn; cases hn
   cases op <;> simp only [] at h <;> try (cases h; done)
   rename_i sz x lo hi mx
   exact Or.inr ⟨sz, x, lo, hi, mx, u, H1, rfl, rfl, hne, h⟩
theorem look_congr {fr fr' : AFrame} {op : ROp} {H : AHeap} (h : ∀ t ∈ op.tmps, fr t = fr' t) : op.look fr H = op.look fr' H := by
 unfold ROp.look
 rw [exec_congr (call := noCall) h]
 cases op <;> try rfl
 rename_i sz x lo hi mx
 have h1 : x.ev fr = x.ev fr' := ev_congr fun t ht => h t (by simp [ROp.tmps, ht])
 have h2 : lo.map (·.ev fr) = lo.map (·.ev fr') := opt_congr fun t ht => h t (by simp [ROp.tmps, ht])
 have h3 : hi.map (·.ev fr) = hi.map (·.ev fr') := opt_congr fun t ht => h t (by simp [ROp.tmps, ht])
 have h4 : mx.map (·.ev fr) = mx.map (·.ev fr') := opt_congr fun t ht => h t (by simp [ROp.tmps, ht])
 simp only [h1, h2, h3, h4]
theorem dstep_same {call : ACall} {it : DItem} {ref : Nat} {fr : AFrame} {H H1 : AHeap} {v : AVal} (h : dstep call it ref fr H = some (v, false, H1)) : H1 = H := by
 unfold dstep at h
 cases h2 : Nat.beq it.cls 2 with
 | true =>
  rw [h2] at h
  simp only [] at h
  cases hx : it.o.op.exec call fr H with
  | none => rw [hx] at h; cases h
  | some q => obtain ⟨a, b⟩ := q; rw [hx] at h; simp at h
 | false =>
  rw [h2] at h
  simp only [] at h
  cases h3 : Nat.beq it.cls 3 with
  | true =>
   rw [h3] at h
   simp only [] at h
   cases hx : it.o.op.made fr with
   | none => rw [hx] at h; cases h
   | some q =>
    obtain ⟨cs, e, k⟩ := q
    rw [hx] at h
    simp only [] at h
    cases hg : ghostIs H ref cs e with
    | true => rw [hg] at h; cases h; rfl
    | false => rw [hg] at h; cases h
  | false =>
   rw [h3] at h
   simp only [] at h
   cases hx : it.o.op.look fr H with
   | none => rw [hx] at h; cases h
   | some v => rw [hx] at h; cases h; rfl
theorem dtext_get {call : ACall} : ∀ (its : List DItem) (ref : Nat) (fr fr' : AFrame) (H H' : AHeap) (R : List DRec), dtext call its ref fr H = some (R, fr', H') →
  R.length = its.length ∧ fr' = foldF R (fun _ => true) fr ∧ H' = foldH R (fun _ => true) H ∧
  ∀ k it, its[k]? = some it → ∃ r, R[k]? = some r ∧ RecOk call it (refs its ref k) (foldF R (fun i => decide (i < k)) fr) (foldH R (fun i => decide (i < k)) H) r
 | [], ref, fr, fr', H, H', R, h => by
  simp only [dtext] at h; cases h
  exact ⟨rfl, rfl, rfl, fun k it hk => by simp at hk⟩
 | it :: rest, ref, fr, fr', H, H', R, h => by
  simp only [dtext] at h
  have none_at : ∀ (rs : List DRec) (f : AFrame), foldF rs (fun i => decide (i + 1 < 0)) f = f := fun rs => by
   induction rs with
   | nil => intro f; rfl
   | cons r rs ih => intro f; simpa [foldF] using ih f
  have none_f : ∀ (rs : List DRec) (f : AFrame), foldF rs (fun i => decide (i < 0)) f = f := fun rs f => by
   cases rs with
   | nil => rfl
   | cons r rs => simpa [foldF] using none_at rs f
  have none_h : ∀ (rs : List DRec) (h : AHeap), foldH rs (fun i => decide (i < 0)) h = h := fun rs h => foldH_none fun i q _ _ => by simp
  cases hw : it.o.wanted fr with
  | false =>
   rw [hw] at h
   simp only [] at h
   cases hd : dtext call rest (nextRef it.cls ref) (put fr it.o.dst aundef) H with
   | none => rw [hd] at h; cases h
   | some q =>
    obtain ⟨R', f', h'⟩ := q
    rw [hd] at h; cases h
    obtain ⟨h1, h2, h3, h4⟩ := dtext_get rest _ _ _ _ _ _ hd
    refine ⟨by simp [h1], by simpa [foldF] using h2, by simpa [foldH] using h3, fun k it' hk => ?_⟩
    cases k with
    | zero =>
     simp only [List.getElem?_cons_zero, Option.some.injEq] at hk; subst hk
     exact ⟨_, rfl, rfl, rfl, rfl, (none_f _ _).symm, rfl, by rw [none_f]; exact hw.symm, fun _ => ⟨rfl, rfl⟩, fun h => (by cases h)⟩
    | succ k =>
     obtain ⟨r, hr, hok⟩ := h4 k it' (by simpa using hk)
     refine ⟨r, by simpa using hr, ?_⟩
     simpa [foldF, foldH, refs] using hok
  | true =>
   rw [hw] at h
   simp only [] at h
   cases hs : dstep call it ref fr H with
   | none => rw [hs] at h; cases h
   | some q =>
    obtain ⟨v, eff, H1⟩ := q
    rw [hs] at h
    simp only [] at h
    cases hd : dtext call rest (nextRef it.cls ref) (put fr it.o.dst v) H1 with
    | none => rw [hd] at h; cases h
    | some q =>
     obtain ⟨R', f', h'⟩ := q
     rw [hd] at h; cases h
     obtain ⟨h1, h2, h3, h4⟩ := dtext_get rest _ _ _ _ _ _ hd
     refine ⟨by simp [h1], by simpa [foldF] using h2, ?_, fun k it' hk => ?_⟩
     ·cases eff with
      | true => simpa [foldH] using h3
      | false => obtain rfl := dstep_same hs; simpa [foldH] using h3
     cases k with
     | zero =>
      simp only [List.getElem?_cons_zero, Option.some.injEq] at hk; subst hk
      exact ⟨_, rfl, rfl, rfl, rfl, (none_f _ _).symm, rfl, by rw [none_f]; exact hw.symm, fun h => (by cases h), fun _ => by rw [none_f, none_h]; exact hs⟩
     | succ k =>
      obtain ⟨r, hr, hok⟩ := h4 k it' (by simpa using hk)
      refine ⟨r, by simpa using hr, ?_⟩
      cases eff with
      | true => simpa [foldF, foldH, refs] using hok
      | false => obtain rfl := dstep_same hs; simpa [foldF, foldH, refs] using hok
end Go.Am
namespace Go.Am
open Go Go.RowKit
theorem chk_okAt {r : DRec} {k : Nat} : ∀ (es : List DRec) (X : Nat → Bool) (i : Nat) (cur : AHeap) (may : Bool), r.chk k es i cur may = true →
  (∀ j e, es[j]? = some e → e.eff = true → X j = true → e.b.testBit k = false) →
  (∀ j e, es[j]? = some e → e.eff = true → r.b.testBit (i + j) = true → X j = true) →
  (∀ j j' e e', es[j]? = some e → es[j']? = some e' → e.eff = true → e'.eff = true → j < j' → X j' = true → X j = true) →
  (may = true ∨ ∃ j e, es[j]? = some e ∧ e.eff = true ∧ X j = true) → r.okAt (foldH es X cur) = true
 | [], X, i, cur, may, h, _, _, _, h4 => by
  rcases h4 with h4 | ⟨j, e, hj, _⟩
  ·subst h4; simpa [DRec.chk, foldH] using h
  ·simp at hj
 | e :: es, X, i, cur, may, h, h1, h2, h3, h4 => by
  simp only [DRec.chk] at h
  have h1' : ∀ j e', es[j]? = some e' → e'.eff = true → X (j + 1) = true → e'.b.testBit k = false := fun j e' hj he hX => h1 (j + 1) e' (by simpa using hj) he hX
  have h2' : ∀ j e', es[j]? = some e' → e'.eff = true → r.b.testBit (i + 1 + j) = true → X (j + 1) = true := fun j e' hj he hb => h2 (j + 1) e' (by simpa using hj) he (by rw [show i + (j + 1) = i + 1 + j by omega]; exact hb)
  have h3' : ∀ j j' a b, es[j]? = some a → es[j']? = some b → a.eff = true → b.eff = true → j < j' → X (j' + 1) = true → X (j + 1) = true := fun j j' a b ha hb h5 h6 h7 h8 => h3 (j + 1) (j' + 1) a b (by simpa using ha) (by simpa using hb) h5 h6 (by omega) h8
  cases heff : e.eff with
  | false =>
   rw [heff] at h
   simp only [] at h
   have := chk_okAt es (fun j => X (j + 1)) (i + 1) cur may h h1' h2' h3' (by
    rcases h4 with h4 | ⟨j, e', hj, he, hX⟩
    ·exact Or.inl h4
    ·cases j with
     | zero => simp only [List.getElem?_cons_zero, Option.some.injEq] at hj; subst hj; rw [heff] at he; cases he
     | succ j => exact Or.inr ⟨j, e', by simpa using hj, he, hX⟩)
   simpa [foldH, heff] using this
  | true =>
   rw [heff] at h
   simp only [Bool.and_eq_true] at h
   cases hX0 : X 0 with
   | true =>
    have := chk_okAt es (fun j => X (j + 1)) (i + 1) e.hp _ h.2 h1' h2' h3' (Or.inl (by rw [h1 0 e rfl heff hX0]; rfl))
    simpa [foldH, heff, hX0] using this
   | false =>
    have hno : ∀ j e', es[j]? = some e' → e'.eff = true → X (j + 1) = false := fun j e' hj he => by
     cases hx : X (j + 1) with
     | false => rfl
     | true =>
      have := h3 0 (j + 1) e e' rfl (by simpa using hj) heff he (by omega) hx
      rw [hX0] at this; cases this
    have hmay : may = true := by
     rcases h4 with h4 | ⟨j, e', hj, he, hX⟩
     ·exact h4
     ·cases j with
      | zero => rw [hX0] at hX; cases hX
      | succ j => rw [hno j e' (by simpa using hj) he] at hX; cases hX
    have hbit : r.b.testBit i = false := by
     cases hb : r.b.testBit i with
     | false => rfl
     | true => have := h2 0 e rfl heff (by simpa using hb); rw [hX0] at this; cases this
    have h5 := h.1
    rw [hmay, hbit] at h5
    simp only [foldH, hX0, Bool.false_and]
    rw [foldH_none hno]
    simpa using h5
structure Reg (P : Program) (nt : Nat) (ops : Array Oper) (its : List DItem) : Prop where
 len : its.length = ops.size
 op : ∀ k o, ops[k]? = some o → ∃ it, its[k]? = some it ∧ cOp P nt o = some it.o.op ∧ cDst nt o.dst = some it.o.dst ∧ cGuard nt ops o.guard = some it.o.guard ∧
  (it.cls = it.o.op.kind ∨ it.cls = 2) ∧ (∀ e ∈ o.after, Region.binds .any e = true → e.on < k) ∧
  (∀ i, i < ops.size → it.b.testBit i = true → ∃ e ∈ o.after, Region.binds .any e = true ∧ e.on < k ∧ (e.on = i ∨ ∃ it', its[e.on]? = some it' ∧ it'.b.testBit i = true))
 clash : ∀ i j x y, i < j → its[i]? = some x → its[j]? = some y → clash x y = true → y.b.testBit i = true
theorem Reg.below {P : Program} {nt : Nat} {ops : Array Oper} {its : List DItem} (g : Reg P nt ops its) {X : Nat → Bool} (hX : ∀ k o, X k = true → ops[k]? = some o → ∀ e ∈ o.after, Region.binds .any e = true → X e.on = true) :
  ∀ (k : Nat) (o : Oper) (it : DItem), ops[k]? = some o → its[k]? = some it → (∀ e ∈ o.after, Region.binds .any e = true → X e.on = true) → ∀ i, i < ops.size → it.b.testBit i = true → X i = true := by
 intro k
 induction k using Nat.strongRecOn with
 | _ k ih =>
  intro o it ho hit hedge i hin hi
  obtain ⟨it', hit', _, _, _, _, _, hb⟩ := g.op k o ho
  rw [hit] at hit'; cases hit'
  obtain ⟨e, he, hbind, hlt, hor⟩ := hb i hin hi
  rcases hor with rfl | ⟨it2, hit2, hb2⟩
  ·exact hedge e he hbind
  ·have hlt2 : e.on < ops.size := by rw [← g.len]; exact (List.getElem?_eq_some_iff.1 hit2).1
   obtain ⟨o2, ho2⟩ : ∃ o2, ops[e.on]? = some o2 := ⟨ops[e.on], by simp [hlt2]⟩
   exact ih e.on hlt o2 it2 ho2 hit2 (hX e.on o2 (hedge e he hbind) ho2) i hin hb2
def leftN (X : Nat → Bool) : Nat → Nat
 | 0 => 0
 | n + 1 => leftN X n + (match X n with | true => 0 | false => 1)
theorem leftN_zero {X : Nat → Bool} : ∀ {n : Nat}, leftN X n = 0 → ∀ i, i < n → X i = true
 | n + 1, h, i, hi => by
  simp only [leftN] at h
  by_cases hin : i = n
  ·subst hin
   cases hx : X i with
   | true => rfl
   | false => rw [hx] at h; simp at h
  ·exact leftN_zero (n := n) (by omega) i (by omega)
theorem leftN_same {X Y : Nat → Bool} : ∀ {n : Nat}, (∀ i, i < n → X i = Y i) → leftN X n = leftN Y n
 | 0, _ => rfl
 | n + 1, h => by simp only [leftN]; rw [leftN_same (n := n) fun i hi => h i (by omega), h n (by omega)]
theorem leftN_add {X Y : Nat → Bool} {k : Nat} (hX : X k = false) (hY : Y k = true) (hXY : ∀ i, i ≠ k → Y i = X i) : ∀ {n : Nat}, k < n → leftN X n = leftN Y n + 1
 | n + 1, h => by
  simp only [leftN]
  by_cases hk : k = n
  ·subst hk
   rw [hX, hY, leftN_same (X := X) (Y := Y) (n := k) fun i hi => (hXY i (by omega)).symm]
   rfl
  ·rw [hXY n (by omega), leftN_add hX hY hXY (n := n) (by omega)]
   omega
theorem cOpers_get {P : Program} {nt : Nat} {ops : Array Oper} : ∀ {os : List Oper} {l : List ROper}, cOpers P nt ops os = some l → l.length = os.length ∧
  ∀ (k : Nat) (o : Oper), os[k]? = some o → ∃ ro : ROper, l[k]? = some ro ∧ cOp P nt o = some ro.op ∧ cDst nt o.dst = some ro.dst ∧ cGuard nt ops o.guard = some ro.guard
 | [], l, h => by simp only [cOpers] at h; cases h; exact ⟨rfl, fun k o hk => by simp at hk⟩
 | a :: os, l, h => by
  simp only [cOpers] at h
  split at h
  ·rename_i op dst guard l' h1 h2 h3 h4; cases h
   obtain ⟨h5, h6⟩ := cOpers_get h4
   refine ⟨by simp [h5], fun k o hk => ?_⟩
   cases k with
   | zero => simp only [List.getElem?_cons_zero, Option.some.injEq] at hk; subst hk; exact ⟨_, rfl, h1, h2, h3⟩
   | succ k => obtain ⟨ro, h7⟩ := h6 k o (by simpa using hk); exact ⟨ro, by simpa using h7⟩
  ·cases h
theorem items_get {ef : Bool} : ∀ (l : List ROper) (masks : List Nat) (bad : List Nat), masks.length = l.length → (items ef l masks bad).length = l.length ∧
  ∀ k ro, l[k]? = some ro → ∃ it, (items ef l masks bad)[k]? = some it ∧ it.o = ro ∧ it.b = masks.getD k 0
 | [], [], bad, _ => ⟨rfl, fun k ro hk => by simp at hk⟩
 | [], _ :: _, bad, h => by simp at h
 | _ :: _, [], bad, h => by simp at h
 | o :: os, b :: bs, bad, h => by
  simp only [items]
  have := items_get (ef := ef) os bs (if (!(Nat.beq o.op.kind 2) && o.looks.all fun t => !(bad.contains t)) then bad else match o.dst with | some d => d :: bad | none => bad) (by simpa using h)
  refine ⟨by simp only [List.length_cons]; exact congrArg (· + 1) this.1, fun k ro hk => ?_⟩
  cases k with
  | zero => simp only [List.getElem?_cons_zero, Option.some.injEq] at hk; subst hk; exact ⟨_, rfl, rfl, by simp⟩
  | succ k =>
   obtain ⟨it, h1, h2, h3⟩ := this.2 k ro (by simpa using hk)
   exact ⟨it, by rw [List.getElem?_cons_succ]; exact h1, h2, by simpa using h3⟩
theorem masksOk_get {masks : List Nat} : ∀ {os : List Oper} {j : Nat}, masksOk masks os j = true → ∀ k o, os[k]? = some o → maskOk masks o.after.toList (j + k) = true
 | [], j, _, k, o, hk => by simp at hk
 | a :: os, j, h, k, o, hk => by
  simp only [masksOk, Bool.and_eq_true] at h
  cases k with
  | zero => simp only [List.getElem?_cons_zero, Option.some.injEq] at hk; subst hk; exact h.1
  | succ k => have := masksOk_get h.2 k o (by simpa using hk); rwa [show j + 1 + k = j + (k + 1) by omega] at this
theorem clashes_get {y : DItem} : ∀ {xs : List DItem} {i : Nat}, clashes y xs i = true → ∀ m x, xs[m]? = some x → clash x y = true → y.b.testBit (i + m) = true
 | [], i, _, m, x, hm, _ => by simp at hm
 | a :: xs, i, h, m, x, hm, hc => by
  simp only [clashes, Bool.and_eq_true, Bool.or_eq_true, Bool.not_eq_true'] at h
  cases m with
  | zero =>
   simp only [List.getElem?_cons_zero, Option.some.injEq] at hm; subst hm
   rcases h.1 with h1 | h1
   ·rw [hc] at h1; cases h1
   ·simpa using h1
  | succ m => have := clashes_get h.2 m x (by simpa using hm) hc; rwa [show i + 1 + m = i + (m + 1) by omega] at this
theorem orderOk_get : ∀ {its before : List DItem}, orderOk its before = true → ∀ j y, its[j]? = some y →
  (y.cls = y.o.op.kind ∨ y.cls = 2) ∧ clashes y (before ++ its.take j) 0 = true
 | [], before, _, j, y, hj => by simp at hj
 | a :: its, before, h, j, y, hj => by
  simp only [orderOk, Bool.and_eq_true, Bool.or_eq_true] at h
  cases j with
  | zero =>
   simp only [List.getElem?_cons_zero, Option.some.injEq] at hj; subst hj
   refine ⟨?_, by simpa using h.1.1⟩
   rcases h.1.2 with h1 | h1
   ·exact Or.inl (Nat.eq_of_beq_eq_true h1)
   ·exact Or.inr (Nat.eq_of_beq_eq_true h1)
  | succ j =>
   obtain ⟨h1, h2⟩ := orderOk_get h.2 j y (by simpa using hj)
   exact ⟨h1, by simpa using h2⟩
theorem reg_of1 {P : Program} {nt : Nat} {ops : Array Oper} {l : List ROper} {masks : List Nat} {ef : Bool} (hl : cOpers P nt ops ops.toList = some l) (hc : drawOk ef ops.toList masks l = true) : Reg P nt ops (items ef l masks []) := by
  unfold drawOk at hc
  simp only [Bool.and_eq_true] at hc
  obtain ⟨⟨hc1, hc2⟩, hc3⟩ := hc
  have hml : masks.length = ops.size := by have := Nat.eq_of_beq_eq_true hc1; simpa using this
  obtain ⟨h1, h2⟩ := cOpers_get hl
  have hll : l.length = ops.size := by simpa using h1
  obtain ⟨h3, h4⟩ := items_get (ef := ef) l masks [] (by omega)
  refine ⟨by rw [h3]; exact hll, ?_, ?_⟩
  ·intro k o ho
   have hol : ops.toList[k]? = some o := by simpa using ho
   obtain ⟨ro, h5, h6, h7, h8⟩ := h2 k o hol
   obtain ⟨it, h9, h10, h11⟩ := h4 k ro h5
   obtain ⟨h12, _⟩ := orderOk_get hc3 k it h9
   have hm := masksOk_get hc2 k o hol
   simp only [maskOk, Nat.zero_add, Bool.and_eq_true, List.all_eq_true, Bool.or_eq_true, Bool.not_eq_true', decide_eq_true_eq, List.mem_range, List.any_eq_true] at hm
   subst h10
   refine ⟨it, h9, h6, h7, h8, h12, ?_, ?_⟩
   ·intro e he hb
    rcases hm.1 e (by simpa using he) with h | h
    ·rw [hb] at h; cases h
    ·exact h
   ·intro i hi hbit
    rcases hm.2 i (by omega) with h | ⟨e, he, h⟩
    ·rw [← h11] at h; rw [hbit] at h; cases h
    ·obtain ⟨⟨hb, hlt⟩, hor⟩ := h
     refine ⟨e, by simpa using he, hb, hlt, ?_⟩
     rcases hor with h | h
     ·exact Or.inl (Nat.eq_of_beq_eq_true h)
     ·right
      have hk : k < ops.size := (Array.getElem?_eq_some_iff.1 ho).1
      obtain ⟨o2, ho2⟩ : ∃ o2, ops.toList[e.on]? = some o2 := ⟨ops.toList[e.on]'(by simp; omega), by simp⟩
      obtain ⟨ro2, h13, _⟩ := h2 e.on o2 ho2
      obtain ⟨it2, h14, _, h16⟩ := h4 e.on ro2 h13
      exact ⟨it2, h14, by rw [h16]; exact h⟩
  ·intro i j x y hij hx hy hcl
   obtain ⟨_, h5⟩ := orderOk_get hc3 j y hy
   have := clashes_get h5 i x (by simp [hij, hx]) hcl
   simpa using this
theorem reg_of {P : Program} {nt : Nat} {ops : Array Oper} {l : List ROper} {masks : List Nat} {rc : RCode} (hl : cOpers P nt ops ops.toList = some l) (h : cDraw ops.toList masks l = some rc) :
  ∃ its, rc = .dregion its ∧ Reg P nt ops its := by
 unfold cDraw at h
 cases h1 : drawOk true ops.toList masks l with
 | true => rw [h1] at h; cases h; exact ⟨_, rfl, reg_of1 hl h1⟩
 | false =>
  rw [h1] at h
  cases h2 : drawOk false ops.toList masks l with
  | true => rw [h2] at h; cases h; exact ⟨_, rfl, reg_of1 hl h2⟩
  | false => rw [h2] at h; cases h
end Go.Am
namespace Go.Am
open Go Go.RowKit
section
variable {P : Program} {S : Base} {call : ACall} {nt : Nat} {ops : Array Oper} {its : List DItem} {R : List DRec} {fr fr' : AFrame} {H0 H' : AHeap} {ref0 : Nat}
def ghosts (R : List DRec) (X : Nat → Bool) (r : Nat) : Prop := ∃ (k : Nat) (q : DRec), R[k]? = some q ∧ Nat.beq q.cls 3 = true ∧ q.want = true ∧ X k = false ∧ r = q.ref
theorem clash_dst {x y : DItem} {t : Nat} (hx : x.o.dst = some t) (hy : y.o.dst = some t) : clash x y = true := by simp [clash, hx, hy]
theorem clash_look {x y : DItem} {t : Nat} (hx : x.o.dst = some t) (hy : t ∈ y.o.looks) : clash x y = true := by simp [clash, hx, hy]
theorem clash_look' {x y : DItem} {t : Nat} (hx : y.o.dst = some t) (hy : t ∈ x.o.looks) : clash x y = true := by simp [clash, hx, hy]
theorem clash_eff {x y : DItem} (hx : Nat.beq x.cls 2 = true) (hy : Nat.beq y.cls 2 = true) : clash x y = true := by simp [clash, hx, hy]
structure Run (P : Program) (S : Base) (call : ACall) (nt : Nat) (ops : Array Oper) (its : List DItem) (R : List DRec) (fr : AFrame) (H0 : AHeap) (ref0 : Nat) : Prop where
 reg : Reg P nt ops its
 len : R.length = its.length
 get : ∀ (k : Nat) (it : DItem), its[k]? = some it → ∃ r, R[k]? = some r ∧ RecOk call it (refs its ref0 k) (foldF R (fun i => decide (i < k)) fr) (foldH R (fun i => decide (i < k)) H0) r
 chk : ∀ (k : Nat) (r : DRec), R[k]? = some r → r.want = true → (Nat.beq r.cls 1 || Nat.beq r.cls 3) = true → r.chk k R 0 H0 true = true
 base : ∀ r, S.ghost r → r < ref0
theorem Run.item (g : Run P S call nt ops its R fr H0 ref0) {k : Nat} {r : DRec} (hr : R[k]? = some r) : ∃ it, its[k]? = some it ∧ RecOk call it (refs its ref0 k) (foldF R (fun i => decide (i < k)) fr) (foldH R (fun i => decide (i < k)) H0) r := by
 have hk : k < its.length := by rw [← g.len]; exact (List.getElem?_eq_some_iff.1 hr).1
 obtain ⟨it, hit⟩ : ∃ it, its[k]? = some it := ⟨its[k], by simp [hk]⟩
 obtain ⟨r', hr', hok⟩ := g.get k it hit
 rw [hr] at hr'; cases hr'
 exact ⟨it, hit, hok⟩
theorem Run.eff (g : Run P S call nt ops its R fr H0 ref0) {k : Nat} {r : DRec} {it : DItem} (hr : R[k]? = some r) (hit : its[k]? = some it) (he : r.eff = true) : Nat.beq it.cls 2 = true := by
 obtain ⟨it', hit', hok⟩ := g.item hr
 rw [hit] at hit'; cases hit'
 cases hw : r.want with
 | false => have := (hok.no hw).2; rw [he] at this; cases this
 | true =>
  have := hok.yes hw
  rw [he] at this
  cases h2 : Nat.beq it.cls 2 with
  | true => rfl
  | false =>
   exfalso
   unfold dstep at this
   rw [h2] at this
   simp only [] at this
   cases h3 : Nat.beq it.cls 3 with
   | true =>
    rw [h3] at this
    simp only [] at this
    cases hx : it.o.op.made (foldF R (fun i => decide (i < k)) fr) with
    | none => rw [hx] at this; cases this
    | some q =>
     obtain ⟨cs, e, kk⟩ := q
     rw [hx] at this
     simp only [] at this
     cases hg : ghostIs (foldH R (fun i => decide (i < k)) H0) (refs its ref0 k) cs e with
     | true => rw [hg] at this; simp at this
     | false => rw [hg] at this; cases this
   | false =>
    rw [h3] at this
    simp only [] at this
    cases hx : it.o.op.look (foldF R (fun i => decide (i < k)) fr) (foldH R (fun i => decide (i < k)) H0) with
    | none => rw [hx] at this; cases this
    | some v => rw [hx] at this; simp at this
structure At (X : Nat → Bool) (R : List DRec) (fr : AFrame) (H0 : AHeap) (nt : Nat) (S : Base) (m : RMap) (ds : List Deferred) (a : Act) (w : World) : Prop where
 fr : ∃ m', Le m m' ∧ FRel nt m' (foldF R X fr) a.tmps ∧ HRel { S with ghost := fun r => S.ghost r ∨ ghosts R X r } m' (foldH R X H0) w
 ds : a.defers = ds
theorem step_any {ro : Option Nat} (hG : S.G = P.globals.size) (hcall : ∀ g, CallSim P { S with ghost := g } call) (g : Run P S call nt ops its R fr H0 ref0) {X Y : Nat → Bool} {k : Nat} {o : Oper} (ho : ops[k]? = some o) (hXk : X k = false) (hYk : Y k = true) (hYX : ∀ i, i ≠ k → Y i = X i)
  (hclosed : ∀ k o, X k = true → ops[k]? = some o → ∀ e ∈ o.after, Region.binds .any e = true → X e.on = true) (hready : ∀ e ∈ o.after, Region.binds .any e = true → X e.on = true)
  {m : RMap} {ds : List Deferred} {a : Act} {w : World} (hat : At X R fr H0 nt S m ds a w) {K : Act → World → Prop} {Q : Exit → Act → World → Prop} (hK : ∀ a w, At Y R fr H0 nt S m ds a w → K a w) : wpOpIn (wid ro) 0 P ops Q k K a w := by
 obtain ⟨it, hit, hop, hdst, hguard, hcls, -, -⟩ := g.reg.op k o ho
 obtain ⟨r, hr, hok⟩ := g.get k it hit
 have hkn : k < ops.size := (Array.getElem?_eq_some_iff.1 ho).1
 -- below k in X; nothing of X must follow k
 have hb : ∀ i, i < ops.size → it.b.testBit i = true → X i = true := g.reg.below hclosed k o it ho hit hready
 have hnb : ∀ i y, its[i]? = some y → X i = true → y.b.testBit k = false := fun i y hy hXi => by
  cases hbit : y.b.testBit k with
  | false => rfl
  | true =>
   have hin : i < ops.size := by rw [← g.reg.len]; exact (List.getElem?_eq_some_iff.1 hy).1
   obtain ⟨o2, ho2⟩ : ∃ o2, ops[i]? = some o2 := ⟨ops[i], by simp [hin]⟩
   have := g.reg.below hclosed i o2 y ho2 hy (hclosed i o2 hXi ho2) k hkn hbit
   rw [hXk] at this; cases this
 have hxi : ∀ {i q}, R[i]? = some q → i < ops.size := fun hq => by rw [← g.reg.len, ← g.len]; exact (List.getElem?_eq_some_iff.1 hq).1
 -- the temporaries that k looks at
 have hagree : ∀ t ∈ it.o.looks, foldF R X fr t = foldF R (fun i => decide (i < k)) fr t := fun t ht => by
  refine foldF_agree rfl fun i q hq hqd => ?_
  obtain ⟨y, hy, hyok⟩ := g.item hq
  rw [hyok.o] at hqd
  rcases Nat.lt_trichotomy i k with h | h | h
  ·simp only [h, decide_true]
   exact hb i (hxi hq) (g.reg.clash i k y it h hy hit (clash_look hqd ht))
  ·subst h; simp [hXk]
  ·have : ¬ i < k := by omega
   simp only [this, decide_false]
   cases hXi : X i with
   | false => rfl
   | true =>
    have h1 := g.reg.clash k i it y h hit hy (clash_look' hqd ht)
    rw [hnb i y hy hXi] at h1; cases h1
 have hlast : ∀ i q t, k < i → R[i]? = some q → X i = true → r.o.dst = some t → q.o.dst ≠ some t := fun i q t hlt hq hXi hrd hqd => by
  obtain ⟨y, hy, hyok⟩ := g.item hq
  rw [hyok.o] at hqd; rw [hok.o] at hrd
  have h1 := g.reg.clash k i it y hlt hit hy (clash_dst hrd hqd)
  rw [hnb i y hy hXi] at h1; cases h1
 have haddF : foldF R Y fr = put (foldF R X fr) it.o.dst r.v := by rw [foldF_add hr hXk hYk hYX hlast, hok.o]
 have hghost : ∀ x, ghosts R Y x → ghosts R X x := fun x ⟨i, q, h1, h2, h3, h4, h5⟩ => by
  by_cases hik : i = k
  ·subst hik; rw [hYk] at h4; cases h4
  ·exact ⟨i, q, h1, h2, h3, by rw [← hYX i hik]; exact h4, h5⟩
 have haddH : r.eff = false → foldH R Y H0 = foldH R X H0 := fun he => foldH_agree fun i q hq hqe => by
  by_cases hik : i = k
  ·subst hik; rw [hr] at hq; cases hq; rw [he] at hqe; cases hqe
  ·exact hYX i hik
 obtain ⟨⟨m', hm', hfr, hrel⟩, hds⟩ := hat
 have hwant : Region.wanted o (yielded ops a.tmps) = r.want := by
  rw [wanted_eq hfr hguard (ro := it.o) rfl, hok.want]
  unfold ROper.wanted
  cases hgd : it.o.guard with
  | none => rfl
  | some tw =>
   obtain ⟨t, wn⟩ := tw
   simp only []
   rw [hagree t (by simp [ROper.looks, hgd])]
 unfold wpOpIn
 simp only [ho]
 rw [hwant]
 cases hw : r.want with
 | false =>
  simp only [Bool.false_eq_true, if_false]
  refine ⟨fun _ _ => trivial, ?_⟩
  obtain ⟨hv, he⟩ := hok.no hw
  refine hK _ _ ⟨⟨m', hm', ?_, ?_⟩, by rw [put_defers]; exact hds⟩
  ·rw [haddF, hv]; exact hfr.put hdst undef_emb
  ·rw [haddH he]; exact hrel.less _ fun x hx => hx.imp id (hghost x)
 | true =>
  simp only [if_true]
  have hstep := hok.yes hw
  have htm : ∀ t ∈ it.o.op.tmps, foldF R X fr t = foldF R (fun i => decide (i < k)) fr t := fun t ht => hagree t (by simp [ROper.looks, ht])
  unfold dstep at hstep
  cases h2 : Nat.beq it.cls 2 with
  | true =>
   rw [h2] at hstep
   simp only [] at hstep
   have hHX : foldH R X H0 = foldH R (fun i => decide (i < k)) H0 := foldH_agree fun i q hq hqe => by
    obtain ⟨y, hy, hyok⟩ := g.item hq
    have hc2 := g.eff hq hy hqe
    rcases Nat.lt_trichotomy i k with h | h | h
    ·simp only [h, decide_true]
     exact hb i (hxi hq) (g.reg.clash i k y it h hy hit (clash_eff hc2 h2))
    ·subst h; simp [hXk]
    ·have : ¬ i < k := by omega
     simp only [this, decide_false]
     cases hXi : X i with
     | false => rfl
     | true =>
      have h1 := g.reg.clash k i it y h hit hy (clash_eff h2 hc2)
      rw [hnb i y hy hXi] at h1; cases h1
   cases hx : it.o.op.exec call (foldF R (fun i => decide (i < k)) fr) (foldH R (fun i => decide (i < k)) H0) with
   | none => rw [hx] at hstep; cases hstep
   | some q =>
    obtain ⟨v, H1⟩ := q
    rw [hx] at hstep
    simp only [Option.some.injEq, Prod.mk.injEq] at hstep
    obtain ⟨hv, he, hh⟩ := hstep
    rw [← hHX, ← exec_congr (call := call) htm] at hx
    refine wpIn_of_yields (cOp_plain hop) (sim_op hop hfr hrel hG (hcall _) hx) fun x w' ⟨m2, hm2, hxv, hrel2⟩ => hK _ _ ⟨⟨m2, Le.trans hm' hm2, ?_, ?_⟩, by rw [put_defers]; exact hds⟩
    ·rw [haddF, ← hv]; exact (hfr.mono hm2).put hdst hxv
    ·rw [foldH_add hr hYk he.symm fun i q hlt hq hqe => ?_, ← hh]
     ·exact hrel2.less _ fun x hx => hx.imp id (hghost x)
     ·obtain ⟨y, hy, hyok⟩ := g.item hq
      have hc2 := g.eff hq hy hqe
      rw [hYX i (by omega)]
      cases hXi : X i with
      | false => rfl
      | true =>
       have h1 := g.reg.clash k i it y hlt hit hy (clash_eff h2 hc2)
       rw [hnb i y hy hXi] at h1; cases h1
  | false =>
   rw [h2] at hstep
   simp only [] at hstep
   have hckind : it.cls = it.o.op.kind := by
    rcases hcls with h | h
    ·exact h
    ·rw [h] at h2; cases h2
   -- what k reads is there
   have hchk : (Nat.beq r.cls 1 || Nat.beq r.cls 3) = true → r.okAt (foldH R X H0) = true := fun hc => by
    refine chk_okAt (k := k) R X 0 H0 true (g.chk k r hr hw hc) ?_ ?_ ?_ (Or.inl rfl)
    ·intro j e hj he hXj
     obtain ⟨y, hy, hyok⟩ := g.item hj
     rw [hyok.b]; exact hnb j y hy hXj
    ·intro j e hj he hbit
     rw [hok.b] at hbit
     exact hb j (hxi hj) (by simpa using hbit)
    ·intro j j' e e' hj hj' he he' hlt hXj'
     obtain ⟨y, hy, _⟩ := g.item hj
     obtain ⟨y', hy', _⟩ := g.item hj'
     have hbit := g.reg.clash j j' y y' hlt hy hy' (clash_eff (g.eff hj hy he) (g.eff hj' hy' he'))
     have hin := hxi hj'
     obtain ⟨o2, ho2⟩ : ∃ o2, ops[j']? = some o2 := ⟨ops[j'], by simp [hin]⟩
     exact g.reg.below hclosed j' o2 y' ho2 hy' (hclosed j' o2 hXj' ho2) j (hxi hj) hbit
   cases h3 : Nat.beq it.cls 3 with
   | true =>
    rw [h3] at hstep
    simp only [] at hstep
    cases hmd : it.o.op.made (foldF R (fun i => decide (i < k)) fr) with
    | none => rw [hmd] at hstep; cases hstep
    | some q =>
     obtain ⟨cs, e, kk⟩ := q
     rw [hmd] at hstep
     simp only [] at hstep
     cases hg : ghostIs (foldH R (fun i => decide (i < k)) H0) (refs its ref0 k) cs e with
     | false => rw [hg] at hstep; cases hstep
     | true =>
      rw [hg] at hstep
      simp only [Option.some.injEq, Prod.mk.injEq] at hstep
      obtain ⟨hv, he, hh⟩ := hstep
      have hat := hchk (by rw [hok.cls, h3, Bool.or_true])
      unfold DRec.okAt at hat
      rw [hok.cls, h3, hok.o, hok.fr, hmd] at hat
      simp only [] at hat
      rw [hok.rf] at hat
      have hglob : Globs P.globals.size m' := by rw [← hG]; exact hrel.glob
      obtain ⟨xs, hxs, hrun⟩ := sim_made (P := P) (m := m') hop hfr hglob (by rw [made_congr htm]; exact hmd)
      obtain ⟨x, hx1, hx2⟩ := hrun w
      unfold ghostIs at hat
      simp only [Bool.and_eq_true] at hat
      obtain ⟨hlt, hrow⟩ := hat
      have hlt' : refs its ref0 k < (foldH R X H0).n := by simpa [Nat.blt_eq] using hlt
      obtain ⟨e2, hge⟩ : ∃ e2, (foldH R X H0).get (refs its ref0 k) = .row cs true (2 * e2) ∧ e2 = e := by
       cases hq : (foldH R X H0).get (refs its ref0 k) with
       | row cs' rw' e' =>
        rw [hq] at hrow
        cases rw' with
        | false => simp at hrow
        | true =>
         simp only [Bool.and_eq_true] at hrow
         exact ⟨e, by rw [abeqL_eq hrow.1, Nat.eq_of_beq_eq_true hrow.2], rfl⟩
       | _ => rw [hq] at hrow; cases hrow
      obtain ⟨hget, rfl⟩ := hge
      have hgk : ghosts R X (refs its ref0 k) := ⟨k, r, hr, by rw [hok.cls]; exact h3, hw, hXk, hok.rf.symm⟩
      have haway := hrel.away _ (Or.inr hgk)
      have hless := hrel.less (fun x => S.ghost x ∨ ghosts R Y x) fun x hx => hx.imp id (hghost x)
      have hnot : ¬ (S.ghost (refs its ref0 k) ∨ ghosts R Y (refs its ref0 k)) := by
       rintro (h | ⟨i, q, h1, h4, h5, h6, h7⟩)
       ·have := g.base _ h
        have := refs_ge its ref0 k
        omega
       ·obtain ⟨y, hy, hyok⟩ := g.item h1
        rw [hyok.rf] at h7
        rw [hyok.cls] at h4
        rcases Nat.lt_trichotomy i k with h | h | h
        ·have := refs_strict its ref0 i k y hy h4 h; omega
        ·subst h; rw [hYk] at h6; cases h6
        ·have := refs_strict its ref0 k i it hit h3 h; omega
      have hborn := hless.born hlt' hget haway.1 hnot hxs
      have hle := le_add (m := m') (⟨w.heap.size, 0, none⟩, xs.length) haway.1
      refine wpIn_of_yields (cOp_plain hop) (R := fun y w' => y = x ∧ w' = w.alloc (.cells xs.toArray e2)) ?_ ?_
      ·unfold Yields; rw [hx1]; exact ⟨rfl, rfl⟩
      ·rintro y w' ⟨rfl, rfl⟩
       refine hK _ _ ⟨⟨_, Le.trans hm' hle, ?_, ?_⟩, by rw [put_defers]; exact hds⟩
       ·rw [haddF, ← hv]
        exact (hfr.mono hle).put hdst (hx2 _ _ add_eq)
       ·rw [haddH he.symm]; exact hborn
   | false =>
    rw [h3] at hstep
    simp only [] at hstep
    cases hx : it.o.op.look (foldF R (fun i => decide (i < k)) fr) (foldH R (fun i => decide (i < k)) H0) with
    | none => rw [hx] at hstep; cases hstep
    | some v =>
      rw [hx] at hstep
      simp only [Option.some.injEq, Prod.mk.injEq] at hstep
      obtain ⟨hv, he, hh⟩ := hstep
      have h4 := kind_le it.o.op
      have hk1 : it.o.op.kind = 0 ∨ it.o.op.kind = 1 := by
       rw [hckind] at h2 h3
       have h5 : it.o.op.kind ≠ 2 := fun e => by rw [e] at h2; cases h2
       have h6 : it.o.op.kind ≠ 3 := fun e => by rw [e] at h3; cases h3
       omega
      have hlook : it.o.op.look (foldF R X fr) (foldH R X H0) = some r.v := by
       rw [look_congr htm]
       rcases hk1 with hk0 | hk1
       ·rcases look_cases hx with ⟨H1, hx1, hn1⟩ | ⟨_, _, _, _, _, _, _, e, _⟩
        ·rw [← hv]
         exact look_of (exec_pure hk0 hx1 noCall _) rfl
        ·rw [e] at hk0; cases hk0
       ·have hat := hchk (by rw [hok.cls, hckind, hk1]; rfl)
        unfold DRec.okAt at hat
        rw [hok.cls, h3, hok.o, hok.fr] at hat
        simp only [] at hat
        cases hx2 : it.o.op.look (foldF R (fun i => decide (i < k)) fr) (foldH R X H0) with
        | none => rw [hx2] at hat; cases hat
        | some v2 =>
         rw [hx2] at hat
         rw [abeq_eq hat]
      have hsim : Yields P (execOp a.eval o) w (Out { S with ghost := fun r => S.ghost r ∨ ghosts R X r } m' r.v (foldH R X H0)) := by
       rcases look_cases hlook with ⟨H1, hx1, hn1⟩ | ⟨sz, xx, lo, hi, mx, u, H1, e, hx1, hn1, he1⟩
       ·obtain ⟨rfl, hcall1⟩ := exec_reads (by omega) hx1 hn1
        exact sim_op hop hfr hrel hG (hcall _) (hcall1 call)
       ·rw [e] at hop hx1
        exact sim_soft hop hfr hrel hG hx1 hn1 he1
      refine wpIn_of_yields (cOp_plain hop) hsim fun x w' ⟨m2, hm2, hxv, hrel2⟩ => hK _ _ ⟨⟨m2, Le.trans hm' hm2, ?_, ?_⟩, by rw [put_defers]; exact hds⟩
      ·rw [haddF]; exact (hfr.mono hm2).put hdst hxv
      ·rw [haddH he.symm]; exact hrel2.less _ fun x hx => hx.imp id (hghost x)
end
end Go.Am
namespace Go.Am
open Go Go.RowKit
theorem foldF_all {R : List DRec} {X : Nat → Bool} {fr : AFrame} (h : ∀ i, i < R.length → X i = true) : foldF R X fr = foldF R (fun _ => true) fr :=
 funext fun _ => foldF_agree rfl fun i _ hq _ => h i (List.getElem?_eq_some_iff.1 hq).1
theorem foldH_all {R : List DRec} {X : Nat → Bool} {H : AHeap} (h : ∀ i, i < R.length → X i = true) : foldH R X H = foldH R (fun _ => true) H :=
 foldH_agree fun i _ hq _ => h i (List.getElem?_eq_some_iff.1 hq).1
theorem foldF_nothing : ∀ (R : List DRec) (fr : AFrame), foldF R (fun _ => false) fr = fr
 | [], fr => rfl
 | r :: rs, fr => by simp only [foldF]; exact foldF_nothing rs fr
theorem dcheck_get {R : List DRec} {H0 : AHeap} : ∀ {rs : List DRec} {k : Nat}, dcheck R H0 rs k = true → ∀ (j : Nat) (r : DRec), rs[j]? = some r → r.want = true → (Nat.beq r.cls 1 || Nat.beq r.cls 3) = true → r.chk (k + j) R 0 H0 true = true
 | [], k, _, j, r, hj, _, _ => by simp at hj
 | a :: rs, k, h, j, r, hj, hw, hc => by
  simp only [dcheck, Bool.and_eq_true] at h
  cases j with
  | zero =>
   simp only [List.getElem?_cons_zero, Option.some.injEq] at hj; subst hj
   have := h.1
   rw [hw, hc] at this
   exact this
  | succ j => have := dcheck_get h.2 j r (by simpa using hj) hw hc; rwa [show k + 1 + j = k + (j + 1) by omega] at this
section
variable {P : Program} {S : Base} {call : ACall} {nt : Nat} {ops : Array Oper} {its : List DItem} {R : List DRec} {fr fr' : AFrame} {H0 H' : AHeap} {ref0 : Nat}
theorem draw_all {ro : Option Nat} (hG : S.G = P.globals.size) (hcall : ∀ g, CallSim P { S with ghost := g } call) (g : Run P S call nt ops its R fr H0 ref0) {m : RMap} {ds : List Deferred} {Q : Exit → Act → World → Prop}
  (hQ : ∀ X a w, (∀ i, i < ops.size → X i = true) → At X R fr H0 nt S m ds a w → Q .normal a w) :
  ∀ (fuel : Nat) (X : Nat → Bool) (listed : Array Bool) (a : Act) (w : World), listed.size = ops.size → (∀ i, X i = listed.getD i false) →
   (∀ k o, X k = true → ops[k]? = some o → ∀ e ∈ o.after, Region.binds .any e = true → X e.on = true) → At X R fr H0 nt S m ds a w → leftN X ops.size ≤ fuel → wpAnyIn (wid ro) 0 P .any ops Q fuel listed a w := by
 intro fuel
 have hnone : ∀ (X : Nat → Bool) (listed : Array Bool), listed.size = ops.size → (∀ i, X i = listed.getD i false) → (∀ i, i < ops.size → X i = true) → Region.ready .any ops listed = [] := fun X listed hs hX hall => by
  refine List.eq_nil_iff_forall_not_mem.2 fun j hj => ?_
  obtain ⟨h1, o, ho, _⟩ := mem_ready.1 hj
  have hjn : j < ops.size := (Array.getElem?_eq_some_iff.1 ho).1
  have h2 := hall j hjn
  rw [hX] at h2
  have hjl : j < listed.size := by omega
  simp [Array.getD, hjl] at h1 h2
  rw [h1] at h2; cases h2
 induction fuel with
 | zero =>
  intro X listed a w hs hX hcl hat hleft
  have hall := leftN_zero (Nat.le_zero.1 hleft)
  exact ⟨hnone X listed hs hX hall, hQ X a w hall hat⟩
 | succ fuel ih =>
  intro X listed a w hs hX hcl hat hleft
  refine ⟨fun hr => hQ X a w ?_ hat, fun k hk => ?_⟩
  ·intro i
   induction i using Nat.strongRecOn with
   | _ i ihi =>
    intro hi
    cases hXi : X i with
    | true => rfl
    | false =>
     exfalso
     obtain ⟨o, ho⟩ : ∃ o, ops[i]? = some o := ⟨ops[i], by simp [hi]⟩
     obtain ⟨it, hit, _, _, _, _, hedge, _⟩ := g.reg.op i o ho
     have : i ∈ Region.ready .any ops listed := mem_ready.2 ⟨by
      rw [hX] at hXi
      have hil : i < listed.size := by omega
      simp [Array.getD, hil] at hXi ⊢; exact hXi, o, ho, fun e he hb => by
       have hlt := hedge e he hb
       rw [← hX]; exact ihi e.on hlt (by omega)⟩
     rw [hr] at this; cases this
  ·obtain ⟨h1, o, ho, hedge⟩ := mem_ready.1 hk
   have hkn : k < ops.size := (Array.getElem?_eq_some_iff.1 ho).1
   have hkl : k < listed.size := by omega
   have hXk : X k = false := by rw [hX]; simp [Array.getD, hkl] at h1 ⊢; exact h1
   have hY : ∀ i, (if i = k then true else X i) = (listed.setIfInBounds k true).getD i false := fun i => by
    by_cases hik : i = k
    ·subst hik; simp [hkl]
    ·rw [getD_set_ne false (Ne.symm hik), ← hX, if_neg hik]
   have hready : ∀ e ∈ o.after, Region.binds .any e = true → X e.on = true := fun e he hb => by rw [hX]; exact hedge e he hb
   refine step_any hG hcall g (Y := fun i => if i = k then true else X i) ho hXk (by simp) (fun i hi => by simp [hi]) hcl hready hat fun a' w' hat' => ?_
   refine ih _ _ a' w' (by simpa using hs) hY ?_ hat' ?_
   ·intro j o2 hj ho2 e he hb
    by_cases hek : e.on = k
    ·simp [hek]
    ·simp only [hek, if_false]
     by_cases hjk : j = k
     ·subst hjk; rw [ho] at ho2; cases ho2; exact hready e he hb
     ·simp only [hjk, if_false] at hj
      exact hcl j o2 hj ho2 e he hb
   ·have := leftN_add (X := X) (Y := fun i => if i = k then true else X i) hXk (by simp) (fun i hi => by simp [hi]) hkn
    omega
theorem HRel.pushAll {m : RMap} {w : World} : ∀ (os : List AObj) (H : AHeap), HRel S m H w → HRel S m (Go.Am.pushAll H os) w
 | [], H, h => h
 | o :: os, H, h => HRel.pushAll os (H.push o) (h.ghost o)
theorem dsim (hm : P.follows .mixedOrders = true) (hG : S.G = P.globals.size) (hcall : ∀ g, CallSim P { S with ghost := g } call) (lf : Nat) : DSim P S call lf := by
 intro ro nt id ops rc fr fr' H H' x m a w ds Q hc hx hf hd h hQ
 simp only [cCode] at hc
 cases hl : cOpers P nt ops ops.toList with
 | none => rw [hl] at hc; cases hc; exact (fail_some hx).elim
 | some l =>
  rw [hl] at hc
  simp only [] at hc
  cases hdr : cDraw ops.toList (Region.before ops).toList l with
  | none => rw [hdr] at hc; cases hc; exact (fail_some hx).elim
  | some rc' =>
  rw [hdr] at hc
  cases hc
  obtain ⟨its, rfl, hreg⟩ := reg_of hl hdr
  simp only [RCode.exec] at hx
  cases hdt : dtext call its H.n fr (Go.Am.pushAll H (oracle its H.n fr H)) with
  | none => rw [hdt] at hx; cases hx
  | some q =>
   obtain ⟨R, f1, H1⟩ := q
   rw [hdt] at hx
   simp only [] at hx
   cases hck : dcheck R (Go.Am.pushAll H (oracle its H.n fr H)) R 0 with
   | false => rw [hck] at hx; cases hx
   | true =>
    rw [hck] at hx
    cases hx
    obtain ⟨h1, h2, h3, h4⟩ := dtext_get its _ _ _ _ _ _ hdt
    have g : Run P S call nt ops its R fr (Go.Am.pushAll H (oracle its H.n fr H)) H.n :=
     ⟨hreg, h1, h4, fun k r hr hw hcc => by have := dcheck_get hck k r hr hw hcc; simpa using this, fun r hr => (h.away r hr).2⟩
    have hn0 : (Go.Am.pushAll H (oracle its H.n fr H)).n = H.n + cnt3 its := by rw [pushAll_n, oracle_length]
    refine wpIn_region_any hm (draw_all hG hcall g (m := m) (ds := ds) (fun X a w hall hat => ?_) ops.size (fun _ => false) _ a _ (by simp) (fun i => ?_) (fun k o hk => by cases hk) ?_ ?_)
    ·obtain ⟨⟨m', hm', hfr, hrel⟩, hds⟩ := hat
     have hall' : ∀ i, i < R.length → X i = true := fun i hi => hall i (by rw [← hreg.len, ← h1]; exact hi)
     rw [foldF_all hall', ← h2] at hfr
     rw [foldH_all hall', ← h3] at hrel
     have := hrel.less S.ghost fun r hr => Or.inl hr
     exact hQ m' a w hfr hds this hm'
    ·by_cases hi : i < ops.size
     ·simp [Array.getD, hi]
     ·simp [Array.getD, hi]
    ·refine ⟨⟨m, Le.refl _, by rw [foldF_nothing]; exact hf, ?_⟩, hd⟩
     rw [foldH_none fun _ _ _ _ => rfl]
     have hp := (HRel.pushAll (oracle its H.n fr H) H h).drew
     refine hp.more _ fun r hr => ?_
     rcases hr with hr | ⟨k, q, hq1, hq2, hq3, _, rfl⟩
     ·have := h.away r hr
      exact ⟨this.1, by rw [hn0]; omega⟩
     ·obtain ⟨it, hit, hok⟩ := g.item hq1
      rw [hok.rf]
      rw [hok.cls] at hq2
      have hlt := refs_lt its H.n k it hit hq2
      have hge := refs_ge its H.n k
      exact ⟨h.fresh _ hge, by rw [hn0]; exact hlt⟩
    ·have : ∀ n, leftN (fun _ => false) n ≤ n := fun n => by
      induction n with
      | zero => simp [leftN]
      | succ n ih => simp only [leftN]; omega
     exact this _
end
end Go.Am
namespace Go.Am
open Go Go.RowKit
section
variable {P : Program} {S : Base} {m : RMap} {H H' : AHeap} {w : World}
theorem cell_putObj {b : Nat} {L L' : Loop} (hb : w.heap[b]? = some (.loop L)) (a : Addr) : (w.putObj b (.loop L')).cell? a = w.cell? a := by
 unfold World.cell?
 by_cases h : a.block = b
 ·rw [h, World.putObj_heap_same (Array.getElem?_eq_some_iff.1 hb).1, hb]
 ·rw [World.putObj_heap_other h]
theorem frozen_putObj {b : Nat} {L L' : Loop} (hb : w.heap[b]? = some (.loop L)) (a : Addr) : (w.putObj b (.loop L')).frozen? a = w.frozen? a := by
 unfold World.frozen?
 by_cases h : a.block = b
 ·rw [h, World.putObj_heap_same (Array.getElem?_eq_some_iff.1 hb).1, hb]
 ·rw [World.putObj_heap_other h]
theorem keeps_putObj {b : Nat} {L L' : Loop} (hb : w.heap[b]? = some (.loop L)) (k : Nat) : Keeps w (w.putObj b (.loop L')) k := fun c e fz h => by
 have hne : k ≠ b := fun e => by rw [e, hb] at h; cases h
 exact ⟨c, fz, by rw [World.putObj_heap_other hne]; exact h, rfl⟩
theorem HRel.setLoop (h : HRel S m H w) {r : Nat} {R R' : RLoop} {p : Addr × Nat} (hr : r < H.n) (hg : H.get r = .loop R) (hp : m r = some p) {L L' : Loop} (ok : LoopOk S m w p.1.block R L) (h4 : R.st ≠ 4) (h4' : R'.st ≠ 4)
  (e1 : R' = { R with st := R'.st, pend := R'.pend }) (e2 : L' = { L with state := stOf R'.st, pending := R'.pend.jump }) : HRel S m (H.set r (.loop R')) (w.putObj p.1.block (.loop L')) := by
 have hb := ok.obj
 have hlt := (Array.getElem?_eq_some_iff.1 hb).1
 have key : ∀ s cs rw e, (H.set r (.loop R')).get s = .row cs rw e → H.get s = .row cs rw e := fun s cs rw e hs => by
  by_cases hsr : s = r
  ·subst hsr; rw [set_get_eq] at hs; cases hs
  ·rwa [set_get_ne hsr] at hs
 have hd : L.defers ≠ p.1.block := fun e => by
  have := ok.defers
  rw [e, hb] at this; cases this
 have hL' : L'.defers = L.defers := by rw [e2]
 refine ⟨h.below.trans ⟨rfl, rfl, rfl, by simp, fun k hk => World.putObj_heap_other (by have := ok.low; omega)⟩, by simpa using h.size, h.glob, h.fresh, h.away, fun s cs rw e q hs hgs hq => ?_, fun s t cs1 rw1 e1 cs2 e2 q1 q2 hs ht hne hg1 hg2 hq1 hq2 => ?_, ⟨fun s R1 q hs hgs hq => ?_, fun s t R1 R2 q1 q2 L1 L2 hs ht hne hg1 hg2 hq1 hq2 hl1 hl2 => ?_⟩⟩
 ·exact (h.row s cs rw e q hs (key _ _ _ _ hgs) hq).mono (Le.refl _) (keeps_putObj hb _) (fun i => cell_putObj hb _) fun i => frozen_putObj hb _
 ·exact h.apart s t cs1 rw1 e1 cs2 e2 q1 q2 hs ht hne (key _ _ _ _ hg1) (key _ _ _ _ hg2) hq1 hq2
 ·by_cases hsr : s = r
  ·subst hsr
   rw [set_get_eq] at hgs; cases hgs
   rw [hp] at hq; cases hq
   refine ⟨L', World.putObj_heap_same hlt, ok.low, by rw [e2], by rw [e2], ?_, ?_, ?_, ?_, by rw [hL']; exact ok.dlow, ?_, ?_⟩
   ·rw [e2, e1]; exact ok.ps
   ·rw [e2, e1]; exact ok.fr
   ·rw [e2, e1]; exact ok.assign
   ·rw [e2, e1]; exact ok.body
   ·rw [hL', e1]; exact ok.blk
   ·rw [hL', World.putObj_heap_other hd, ok.defers, if_neg h4, if_neg h4']
  ·rw [set_get_ne hsr] at hgs
   obtain ⟨L1, k⟩ := h.loops.ok s R1 q hs hgs hq
   have hap := h.loops.apart s r R1 R q p L1 L hs hr hsr hgs hg hq hp k.obj hb
   have hd1 : L1.defers ≠ p.1.block := fun e => by
    have := k.defers
    rw [e, hb] at this; cases this
   exact ⟨L1, by rw [World.putObj_heap_other hap.1]; exact k.obj, k.low, k.st, k.pend, k.ps, k.fr, k.assign, k.body, k.dlow, k.blk, by rw [World.putObj_heap_other hd1]; exact k.defers⟩
 ·have old : ∀ s R1 q L1, s < H.n → (H.set r (.loop R')).get s = .loop R1 → m s = some q → (w.putObj p.1.block (.loop L')).heap[q.1.block]? = some (.loop L1) → ∃ R0 L0, H.get s = .loop R0 ∧ w.heap[q.1.block]? = some (.loop L0) ∧ L0.defers = L1.defers := by
   intro s R1 q L1 hs hgs hq hl
   by_cases hsr : s = r
   ·subst hsr
    rw [hp] at hq; cases hq
    rw [World.putObj_heap_same hlt] at hl; cases hl
    exact ⟨R, L, hg, hb, hL'.symm⟩
   ·rw [set_get_ne hsr] at hgs
    obtain ⟨L0, k⟩ := h.loops.ok s R1 q hs hgs hq
    have hap := h.loops.apart s r R1 R q p L0 L hs hr hsr hgs hg hq hp k.obj hb
    rw [World.putObj_heap_other hap.1] at hl
    exact ⟨R1, L1, hgs, hl, rfl⟩
  obtain ⟨R3, L3, a1, a2, a3⟩ := old s R1 q1 L1 hs hg1 hq1 hl1
  obtain ⟨R4, L4, b1, b2, b3⟩ := old t R2 q2 L2 ht hg2 hq2 hl2
  have := h.loops.apart s t R3 R4 q1 q2 L3 L4 hs ht hne a1 b1 hq1 hq2 a2 b2
  rw [a3, b3] at this
  exact this
theorem FRel.upd {nt : Nat} {fr : AFrame} {tmps : Array Value} (h : FRel nt m fr tmps) {t : Nat} (ht : t < nt) {v : AVal} {x : Value} (hv : emb m v = some x) : FRel nt m (Go.Am.upd fr t v) (tmps.setIfInBounds t x) := by
 refine ⟨by simp [h.1], fun i hi => ?_⟩
 by_cases hit : i = t
 ·subst hit
  exact ⟨x, by simp [Go.Am.upd, hv], by simp [h.1, hi]⟩
 ·obtain ⟨y, h1, h2⟩ := h.2 i hi
  exact ⟨y, by simp [Go.Am.upd, nbeq_ne hit, h1], by simp [Ne.symm hit, h2]⟩
theorem FRel.setAll {nt : Nat} : ∀ {ps : List Nat} {args : List AVal} {vargs : List Value} {fr : AFrame} {tmps : Array Value}, FRel nt m fr tmps → (∀ t ∈ ps, t < nt) → embL m args = some vargs →
  FRel nt m (Go.Am.setAll fr (ps.zip args)) ((ps.zip vargs).foldl (fun tmps q => tmps.setIfInBounds q.1 q.2) tmps)
 | [], args, vargs, fr, tmps, h, _, _ => by simpa [Go.Am.setAll] using h
 | t :: ps, [], vargs, fr, tmps, h, _, ha => by simp [embL] at ha; subst ha; simpa [Go.Am.setAll] using h
 | t :: ps, v :: args, vargs, fr, tmps, h, hp, ha => by
  obtain ⟨x, xs, h1, h2, rfl⟩ := embL_cons ha
  simp only [List.zip_cons_cons, Go.Am.setAll, List.foldl_cons]
  exact FRel.setAll (h.upd (hp t (by simp)) h1) (fun t ht => hp t (by simp [ht])) h2
theorem sim_round (hm : P.follows .mixedOrders = true) (hC : S.code = cCode P) (hG : S.G = P.globals.size) {call : ACall} (hcall : ∀ g, CallSim P { S with ghost := g } call) {lf r : Nat} {args : List AVal} {vargs : List Value} {v : AVal} {p : Addr × Nat}
  (hx : roundRun call lf r args H = some (v, H')) (h : HRel S m H w) (hp : m r = some p) (ha : embL m args = some vargs) : Yields P (Instr.yield p.1.block vargs.toArray) w (Out S m v H') := by
 unfold roundRun at hx
 cases hlt : Nat.blt r H.n with
 | false => simp only [hlt] at hx; cases hx
 | true =>
 cases hg : H.get r with
 | loop R =>
  simp only [hlt, hg] at hx
  have hrn : r < H.n := by simpa using hlt
  obtain ⟨L, ok⟩ := h.loops.ok r R p hrn hg hp
  cases hck : (Nat.beq args.length R.ps.length && R.ps.all (fun t => Nat.blt t R.nt)) with
  | false => rw [hck] at hx; cases hx
  | true =>
  rw [hck] at hx
  simp only [Bool.and_eq_true] at hck
  have hal : args.length = R.ps.length := Nat.eq_of_beq_eq_true hck.1
  have hps : ∀ t ∈ R.ps, t < R.nt := fun t ht => by have := List.all_eq_true.1 hck.2 t ht; simpa using this
  have hvl := embL_length ha
  have hpl : L.params.size = R.ps.length := by rw [← ok.ps]; simp
  have hrun := run_yield (P := P) (args := vargs.toArray) ok.obj (by simp only [List.size_toArray]; omega)
  have hfr : FRel R.nt m (Go.Am.setAll R.fr (R.ps.zip args)) ((L.params.zip vargs.toArray).foldl (fun tmps (x : Tmp × Value) => tmps.setIfInBounds x.1 x.2) L.tmps) := by
   have := ok.fr.setAll hps ha
   rw [← Array.foldl_toList, Array.toList_zip, ok.ps]
   exact this
  simp only [] at hx
  cases hx1 : R.assign.exec call lf (Go.Am.setAll R.fr (R.ps.zip args)) H with
  | none => rw [hx1] at hx; cases hx
  | some q =>
  obtain ⟨⟨x1, fr1⟩, H1⟩ := q
  rw [hx1] at hx
  cases x1 with
  | exit id => cases hx
  | ret => cases hx
  | normal =>
  simp only [] at hx
  cases hg1 : H1.get r with
  | loop R1 =>
   rw [hg1] at hx
   simp only [] at hx
   cases hs0 : Nat.beq R1.st 0 with
   | false => rw [hs0] at hx; cases hx
   | true =>
   rw [hs0] at hx
   simp only [] at hx
   have hst0 : R1.st = 0 := Nat.eq_of_beq_eq_true hs0
   cases hx2 : R.body.exec call lf fr1 (H1.set r (.loop { R1 with st := 1 })) with
   | none => rw [hx2] at hx; cases hx
   | some q =>
   obtain ⟨⟨x, fr2⟩, H2⟩ := q
   rw [hx2] at hx
   simp only [] at hx
   cases hg2 : H2.get r with
   | loop R2 =>
    rw [hg2] at hx
    simp only [] at hx
    cases hs1 : Nat.beq R2.st 1 with
    | false => rw [hs1] at hx; cases hx
    | true =>
    rw [hs1] at hx
    have hst1 : R2.st = 1 := Nat.eq_of_beq_eq_true hs1
    unfold Yields
    rw [hrun]
    simp only []
    refine roundIn_of_wpIn (F := Fence.wide) (n := 0) trivial ?_
    have hD := dsim (S := S) hm hG hcall lf
    have hc := hcall S.ghost
    refine sim_code (ro := some p.1.block) (nt := R.nt) hG hc hD (ds := []) L.assign R.assign _ fr1 H H1 .normal m _ w _ (by rw [← hC]; exact ok.assign) hx1 hfr rfl h ?_
    intro m1 a1 w1 hf1 hd1 hr1 hm1
    have hp1 := hm1 r p hp
    have hrn1 : r < H1.n := by
     rcases Nat.lt_or_ge r H1.n with h' | h'
     ·exact h'
     ·rw [hr1.fresh r h'] at hp1; cases hp1
    obtain ⟨L1, ok1⟩ := hr1.loops.ok r R1 p hrn1 hg1 hp1
    refine ⟨_, run_beginRound ok1.obj (by rw [ok1.st, hst0]; rfl), ?_⟩
    have hr2 := hr1.setLoop (R' := { R1 with st := 1 }) (L' := { L1 with state := .busy }) hrn1 hg1 hp1 ok1 (by rw [hst0]; decide) (by simp) rfl (by rw [← ok1.pend]; rfl)
    refine sim_code (ro := some p.1.block) (nt := R.nt) hG hc hD (ds := []) L.body R.body fr1 fr2 _ H2 x m1 a1 _ _ (by rw [← hC]; exact ok.body) hx2 hf1 hd1 hr2 ?_
    intro m2 a2 w2 hf2 hd2 hr3 hm2
    have hp2 := hm2 r p hp1
    have hrn2 : r < H2.n := by
     rcases Nat.lt_or_ge r H2.n with h' | h'
     ·exact h'
     ·rw [hr3.fresh r h'] at hp2; cases hp2
    obtain ⟨L2, ok2⟩ := hr3.loops.ok r R2 p hrn2 hg2 hp2
    cases hx
    cases x with
    | normal => exact ⟨_, _, run_endRound none ok2.obj, _, rfl, m2, Le.trans hm1 hm2, rfl, hr3.setLoop hrn2 hg2 hp2 ok2 (by rw [hst1]; decide) (by simp) rfl rfl⟩
    | exit id => exact ⟨_, _, run_endRound (some (.exit id)) ok2.obj, _, rfl, m2, Le.trans hm1 hm2, rfl, hr3.setLoop hrn2 hg2 hp2 ok2 (by rw [hst1]; decide) (by simp) rfl rfl⟩
    | ret => exact ⟨_, _, run_endRound (some .ret) ok2.obj, _, rfl, m2, Le.trans hm1 hm2, rfl, hr3.setLoop hrn2 hg2 hp2 ok2 (by rw [hst1]; decide) (by simp) rfl rfl⟩
   | _ => rw [hg2] at hx; cases hx
  | _ => rw [hg1] at hx; cases hx
 | _ => simp only [hlt, hg] at hx; cases hx
end
end Go.Am
namespace Go.Am
open Go Go.RowKit
section
variable {P : Program} {S : Base} {m : RMap} {H H' : AHeap} {w : World}
theorem HRel.deadRow (h : HRel S m H w) (p : Addr × Nat) : HRel S (m.add H.n p) (H.push .dead) w := by
 have hle := le_add (m := m) p (h.fresh H.n (Nat.le_refl _))
 have key : ∀ r cs rw e, r < (H.push .dead).n → (H.push .dead).get r = .row cs rw e → r < H.n ∧ r ≠ H.n ∧ H.get r = .row cs rw e := fun r cs rw e hr hg => by
  by_cases hrn : r = H.n
  ·subst hrn; rw [push_get_eq] at hg; cases hg
  ·have hr' : r < H.n := by simp [AHeap.push] at hr; omega
   rw [push_get_lt hr'] at hg
   exact ⟨hr', hrn, hg⟩
 refine ⟨h.below, h.size, fun g hg => by obtain ⟨k, hk⟩ := h.glob g hg; exact ⟨k, get_mono hle hk⟩, fun r hr => ?_, fun r hr => ?_, fun r cs rw e q hr hg hq => ?_, fun r s cs rw e cs' e' q1 q2 hr hs hne hg1 hg2 hq1 hq2 => ?_, h.loops.push hle still (fun R e => by cases e) fun r hr => add_ne hr⟩
 ·simp only [AHeap.push] at hr
  rw [add_ne (by omega)]; exact h.fresh r (by omega)
 ·have := h.away r hr
  exact ⟨by rw [add_ne (by omega)]; exact this.1, by simp only [AHeap.push]; omega⟩
 ·obtain ⟨k1, k2, k3⟩ := key r cs rw e hr hg
  rw [add_ne k2] at hq
  exact (h.row r cs rw e q k1 k3 hq).mono hle (Keeps.refl _ _) (fun _ => rfl) fun _ => rfl
 ·obtain ⟨k1, k2, k3⟩ := key r cs rw e hr hg1
  obtain ⟨j1, j2, j3⟩ := key s cs' true e' hs hg2
  rw [add_ne k2] at hq1; rw [add_ne j2] at hq2
  exact h.apart r s cs rw e cs' e' q1 q2 k1 j1 hne k3 j3 hq1 hq2
theorem HRel.pushLoop (h : HRel S m H w) {R : RLoop} {fn : FuncId} {tmps : Array Value} {ps : Array Tmp} {assign body : Code} (hst : R.st = 0) (hpd : R.pend = .normal) (hps : ps.toList = R.ps) (hfr : FRel R.nt m R.fr tmps) (ha : S.code R.nt assign = some R.assign) (hb : S.code R.nt body = some R.body) {k0 : Nat} (hd0 : m R.d = some (⟨w.heap.size, 0, none⟩, k0)) :
  HRel S (m.add H.n (⟨w.heap.size + 1, 0, none⟩, 0)) (H.push (.loop R)) ((w.alloc (.deferred (some []))).alloc (.loop { state := .ready, pending := none, fn, tmps, params := ps, assign, body, defers := w.heap.size })) := by
 have hle := le_add (m := m) (⟨w.heap.size + 1, 0, none⟩, 0) (h.fresh H.n (Nat.le_refl _))
 have hs1 : (w.alloc (.deferred (some []))).heap.size = w.heap.size + 1 := World.size_alloc ..
 have st2 : ∀ (o2 : Obj) (b : Nat) (o : Obj), notCells o → w.heap[b]? = some o → ((w.alloc (.deferred (some []))).alloc o2).heap[b]? = some o := fun o2 b o hn e => still_alloc _ b o hn (still_alloc _ b o hn e)
 have newL : ∀ L : Loop, ((w.alloc (.deferred (some []))).alloc (.loop L)).heap[w.heap.size + 1]? = some (.loop L) := fun L => by
  have := World.alloc_heap_new (w.alloc (.deferred (some []))) (.loop L)
  rwa [hs1] at this
 have newD : ∀ L : Loop, ((w.alloc (.deferred (some []))).alloc (.loop L)).heap[w.heap.size]? = some (.deferred (some [])) := fun L =>
  still_alloc _ _ _ (fun c t fz e => by cases e) (World.alloc_heap_new w _)
 have old : ∀ r R' p, r < H.n → H.get r = .loop R' → m r = some p → ∃ L, LoopOk S m w p.1.block R' L ∧ p.1.block < w.heap.size ∧ L.defers < w.heap.size := fun r R' p h1 h2 h3 => by
  obtain ⟨L, k⟩ := h.loops.ok r R' p h1 h2 h3
  exact ⟨L, k, (Array.getElem?_eq_some_iff.1 k.obj).1, (Array.getElem?_eq_some_iff.1 k.defers).1⟩
 have nl : ∀ L, notCells (.loop L) := fun L c t fz e => by cases e
 have nd : ∀ L, notCells (.deferred L) := fun L c t fz e => by cases e
 refine ⟨(h.below.alloc h.size _).alloc (by rw [hs1]; have := h.size; omega) _, by rw [World.size_alloc, hs1]; have := h.size; omega, fun g hg => by obtain ⟨k, hk⟩ := h.glob g hg; exact ⟨k, get_mono hle hk⟩, fun r hr => ?_, fun r hr => ?_, fun r cs rw e p hr hg hp => ?_, fun r s cs rw e cs' e' p q hr hs hne hg1 hg2 hp hq => ?_, ⟨fun r R' p hr hg hp => ?_, fun r s R1 R2 p q L1 L2 hr hs hne hg1 hg2 hp hq hl1 hl2 => ?_⟩⟩
 ·simp only [AHeap.push] at hr
  rw [add_ne (by omega)]; exact h.fresh r (by omega)
 ·have := h.away r hr
  exact ⟨by rw [add_ne (by omega)]; exact this.1, by simp only [AHeap.push]; omega⟩
 ·by_cases hrn : r = H.n
  ·subst hrn; rw [push_get_eq] at hg; cases hg
  ·have hr' : r < H.n := by simp [AHeap.push] at hr; omega
   rw [push_get_lt hr'] at hg
   rw [add_ne hrn] at hp
   exact ((h.row r cs rw e p hr' hg hp).alloc hle _).alloc (Le.refl _) _
 ·by_cases hrn : r = H.n
  ·subst hrn; rw [push_get_eq] at hg1; cases hg1
  by_cases hsn : s = H.n
  ·subst hsn; rw [push_get_eq] at hg2; cases hg2
  have hr' : r < H.n := by simp [AHeap.push] at hr; omega
  have hs' : s < H.n := by simp [AHeap.push] at hs; omega
  rw [push_get_lt hr'] at hg1; rw [push_get_lt hs'] at hg2
  rw [add_ne hrn] at hp; rw [add_ne hsn] at hq
  exact h.apart r s cs rw e cs' e' p q hr' hs' hne hg1 hg2 hp hq
 ·by_cases hrn : r = H.n
  ·subst hrn
   rw [push_get_eq] at hg; cases hg
   rw [add_eq] at hp; cases hp
   have hB := h.size
   exact ⟨_, newL _, by simp only; omega, by rw [hst]; rfl, by rw [hpd]; rfl, hps, hfr.mono hle, ha, hb, hB, ⟨k0, hle _ _ hd0⟩, by rw [hst]; exact newD _⟩
  ·have hr' : r < H.n := by simp [AHeap.push] at hr; omega
   rw [push_get_lt hr'] at hg
   rw [add_ne hrn] at hp
   obtain ⟨L, k, _, _⟩ := old r R' p hr' hg hp
   exact ⟨L, st2 _ _ _ (nl _) k.obj, k.low, k.st, k.pend, k.ps, k.fr.mono hle, k.assign, k.body, k.dlow, by obtain ⟨k', q⟩ := k.blk; exact ⟨k', hle _ _ q⟩, st2 _ _ _ (nd _) k.defers⟩
 ·by_cases hrn : r = H.n
  ·subst hrn
   have hsn : s ≠ H.n := fun e => hne e.symm
   have hs' : s < H.n := by simp [AHeap.push] at hs; omega
   rw [push_get_lt hs'] at hg2
   rw [add_ne hsn] at hq
   rw [add_eq] at hp; cases hp
   obtain ⟨L, k, k1, k2⟩ := old s R2 q hs' hg2 hq
   simp only at hl1
   rw [newL] at hl1; cases hl1
   rw [st2 _ _ _ (nl _) k.obj] at hl2; cases hl2
   exact ⟨by simp only; omega, by simp only; omega⟩
  ·have hr' : r < H.n := by simp [AHeap.push] at hr; omega
   rw [push_get_lt hr'] at hg1
   rw [add_ne hrn] at hp
   obtain ⟨L, k, k1, k2⟩ := old r R1 p hr' hg1 hp
   rw [st2 _ _ _ (nl _) k.obj] at hl1; cases hl1
   by_cases hsn : s = H.n
   ·subst hsn
    rw [add_eq] at hq; cases hq
    simp only at hl2
    rw [newL] at hl2; cases hl2
    exact ⟨by simp only; omega, by simp only; omega⟩
   ·have hs' : s < H.n := by simp [AHeap.push] at hs; omega
    rw [push_get_lt hs'] at hg2
    rw [add_ne hsn] at hq
    obtain ⟨L', k', _, _⟩ := old s R2 q hs' hg2 hq
    rw [st2 _ _ _ (nl _) k'.obj] at hl2; cases hl2
    exact h.loops.apart r s R1 R2 p q _ _ hr' hs' hne hg1 hg2 hp hq k.obj k'.obj
theorem cell_putDef {b : Nat} {ds ds' : Option (List Deferred)} (hb : w.heap[b]? = some (.deferred ds)) (a : Addr) : (w.putObj b (.deferred ds')).cell? a = w.cell? a := by
 unfold World.cell?
 by_cases h : a.block = b
 ·rw [h, World.putObj_heap_same (Array.getElem?_eq_some_iff.1 hb).1, hb]
 ·rw [World.putObj_heap_other h]
theorem frozen_putDef {b : Nat} {ds ds' : Option (List Deferred)} (hb : w.heap[b]? = some (.deferred ds)) (a : Addr) : (w.putObj b (.deferred ds')).frozen? a = w.frozen? a := by
 unfold World.frozen?
 by_cases h : a.block = b
 ·rw [h, World.putObj_heap_same (Array.getElem?_eq_some_iff.1 hb).1, hb]
 ·rw [World.putObj_heap_other h]
theorem HRel.shutLoop (h : HRel S m H w) {r : Nat} {R : RLoop} {p : Addr × Nat} (hr : r < H.n) (hg : H.get r = .loop R) (hp : m r = some p) {L : Loop} (ok : LoopOk S m w p.1.block R L) (h3 : R.st = 3) :
  HRel S m (H.set r (.loop { R with st := 4 })) (w.putObj L.defers (.deferred none)) := by
 have hd := ok.defers
 rw [h3] at hd
 have hlt := (Array.getElem?_eq_some_iff.1 hd).1
 have key : ∀ s cs rw e, (H.set r (.loop { R with st := 4 })).get s = .row cs rw e → H.get s = .row cs rw e := fun s cs rw e hs => by
  by_cases hsr : s = r
  ·subst hsr; rw [set_get_eq] at hs; cases hs
  ·rwa [set_get_ne hsr] at hs
 have ne : ∀ {b : Nat} {L1 : Loop}, w.heap[b]? = some (.loop L1) → b ≠ L.defers := fun e1 e => by
  rw [e, hd] at e1; cases e1
 have kp : ∀ k, Keeps w (w.putObj L.defers (.deferred none)) k := fun k c e fz hk => by
  have hne : k ≠ L.defers := fun e => by rw [e, hd] at hk; cases hk
  exact ⟨c, fz, by rw [World.putObj_heap_other hne]; exact hk, rfl⟩
 refine ⟨h.below.trans ⟨rfl, rfl, rfl, by simp, fun k hk => World.putObj_heap_other (by have := ok.dlow; omega)⟩, by simpa using h.size, h.glob, h.fresh, h.away, fun s cs rw e q hs hgs hq => ?_, fun s t cs1 rw1 e1 cs2 e2 q1 q2 hs ht hne hg1 hg2 hq1 hq2 => ?_, ⟨fun s R1 q hs hgs hq => ?_, fun s t R1 R2 q1 q2 L1 L2 hs ht hne hg1 hg2 hq1 hq2 hl1 hl2 => ?_⟩⟩
 ·exact (h.row s cs rw e q hs (key _ _ _ _ hgs) hq).mono (Le.refl _) (kp _) (fun i => cell_putDef hd _) fun i => frozen_putDef hd _
 ·exact h.apart s t cs1 rw1 e1 cs2 e2 q1 q2 hs ht hne (key _ _ _ _ hg1) (key _ _ _ _ hg2) hq1 hq2
 ·by_cases hsr : s = r
  ·subst hsr
   rw [set_get_eq] at hgs; cases hgs
   rw [hp] at hq; cases hq
   exact ⟨L, by rw [World.putObj_heap_other (ne ok.obj)]; exact ok.obj, ok.low, by rw [ok.st, h3]; rfl, ok.pend, ok.ps, ok.fr, ok.assign, ok.body, ok.dlow, ok.blk, World.putObj_heap_same hlt⟩
  ·rw [set_get_ne hsr] at hgs
   obtain ⟨L1, k⟩ := h.loops.ok s R1 q hs hgs hq
   have hap := h.loops.apart s r R1 R q p L1 L hs hr hsr hgs hg hq hp k.obj ok.obj
   exact ⟨L1, by rw [World.putObj_heap_other (ne k.obj)]; exact k.obj, k.low, k.st, k.pend, k.ps, k.fr, k.assign, k.body, k.dlow, k.blk, by rw [World.putObj_heap_other hap.2]; exact k.defers⟩
 ·have old : ∀ s R1 q L1, s < H.n → (H.set r (.loop { R with st := 4 })).get s = .loop R1 → m s = some q → (w.putObj L.defers (.deferred none)).heap[q.1.block]? = some (.loop L1) → ∃ R0, H.get s = .loop R0 ∧ w.heap[q.1.block]? = some (.loop L1) := by
   intro s R1 q L1 hs hgs hq hl
   have h0 : ∃ R0, H.get s = .loop R0 := by
    by_cases hsr : s = r
    ·subst hsr; exact ⟨R, hg⟩
    ·rw [set_get_ne hsr] at hgs; exact ⟨R1, hgs⟩
   obtain ⟨R0, hg0⟩ := h0
   obtain ⟨L0, k⟩ := h.loops.ok s R0 q hs hg0 hq
   rw [World.putObj_heap_other (ne k.obj)] at hl
   exact ⟨R0, hg0, hl⟩
  obtain ⟨R3, a1, a2⟩ := old s R1 q1 L1 hs hg1 hq1 hl1
  obtain ⟨R4, b1, b2⟩ := old t R2 q2 L2 ht hg2 hq2 hl2
  exact h.loops.apart s t R3 R4 q1 q2 L1 L2 hs ht hne a1 b1 hq1 hq2 a2 b2
end
end Go.Am
namespace Go.Am
open Go Go.RowKit
section
variable {P : Program} {S : Base} {m : RMap} {H H' : AHeap} {w : World}
theorem sim_range {g : Operand} {ps : Array Tmp} {assign body : Code} {nt : Nat} {fr : AFrame} {a : Act} {call : ACall} (hC : S.code = cCode P) (hcall : CallSim P S call) (hf : FRel nt m fr a.tmps) (h : HRel S m H w) {gf : FuncId} {fi ca : List AVal} {fn : Func} {c : Code}
  (hg : emb m (.func (.func gf) fi ca) = some (a.eval g)) (hfn : P.funcs[gf]? = some fn) (hb : fn.body = some c) (hname : fn.name ≠ "runtime.NumGoroutine") {ra rb : RCode} (ha : cCode P nt assign = some ra) (hbd : cCode P nt body = some rb)
  {v : AVal} {H2 : AHeap} {R2 : RLoop} (hx : call gf (fi ++ [.yield (H.n + 1)] ++ ca) ((H.push .dead).push (.loop ⟨H.n, nt, fr, ps.toList, ra, rb, 0, .normal⟩)) = some (v, H2)) (hg2 : H2.get (H.n + 1) = .loop R2) (hst : R2.st ≠ 1) (hst4 : R2.st ≠ 4) {Q : Exit → Act → World → Prop}
  (hQ : ∀ (m' : RMap) (w' : World), Le m m' → HRel S m' (H2.set (H.n + 1) (.loop { R2 with st := 3 })) w' → m' H.n = some (⟨w.heap.size, 0, none⟩, 0) → m' (H.n + 1) = some (⟨w.heap.size + 1, 0, none⟩, 0) → Q R2.pend.to { a with defers := { target := .collected w.heap.size, args := #[] } :: a.defers } w') :
  (Code.rangeFunc g ps assign body).wpIn (wid none) 0 P Q a w := by
 refine wpIn_rangeFunc fun f0 _ => ?_
 have hle1 := le_add (m := m) (n := H.n) (⟨w.heap.size, 0, none⟩, 0) (h.fresh H.n (Nat.le_refl _))
 have hd := h.deadRow (⟨w.heap.size, 0, none⟩, 0)
 have hle2 := le_add (m := m.add H.n (⟨w.heap.size, 0, none⟩, 0)) (n := (H.push .dead).n) (⟨w.heap.size + 1, 0, none⟩, 0) (hd.fresh _ (Nat.le_refl _))
 have hle := Le.trans hle1 hle2
 have hp := hd.pushLoop (R := ⟨H.n, nt, fr, ps.toList, ra, rb, 0, .normal⟩) (fn := f0) (tmps := a.tmps) (ps := ps) (assign := assign) (body := body) rfl rfl rfl (hf.mono hle1) (by rw [hC]; exact ha) (by rw [hC]; exact hbd) (k0 := 0) add_eq
 have hg' := emb_mono hle _ _ hg
 simp only [emb] at hg'
 split at hg'
 ·rename_i l1 l2 h0 h3 h4
  have e1 : a.eval g = .func (.func gf) l1.toArray l2.toArray := (Option.some.inj hg').symm
  have ey : embL ((m.add H.n (⟨w.heap.size, 0, none⟩, 0)).add (H.push .dead).n (⟨w.heap.size + 1, 0, none⟩, 0)) [.yield (H.n + 1)] = some [.func (.yield (w.heap.size + 1)) #[] #[]] := by
   have : ((m.add H.n (⟨w.heap.size, 0, none⟩, 0)).add (H.push .dead).n (⟨w.heap.size + 1, 0, none⟩, 0)) (H.n + 1) = some (⟨w.heap.size + 1, 0, none⟩, 0) := add_eq
   simp [embL, emb, this]
  have hargs := embL_append (embL_append h3 ey) h4
  have hy := hcall gf _ _ v H2 _ _ _ hx hp hargs
  have hgn : Nat.beq gf yieldId = false := by simpa [fnOk] using h0
  simp only [callSem, hgn] at hy
  have hrun : ∀ w0, (callFunc gf (l1 ++ [Value.func (.yield (w.heap.size + 1)) #[] #[]] ++ l2).toArray).run P w0 = .ok (.enter gf (l1 ++ [Value.func (.yield (w.heap.size + 1)) #[] #[]] ++ l2).toArray) w0 := fun w0 => by
   simp [callFunc, hfn, hb, hname]
  unfold Yields at hy
  rw [hrun] at hy
  simp only [] at hy
  refine ⟨w.heap.size + 1, _, _, { target := .fn (.func gf) l2.toArray, args := l1.toArray ++ #[.func (.yield (w.heap.size + 1)) #[] #[]] }, ((w.alloc (.deferred (some []))).alloc (.loop { state := .ready, pending := none, fn := f0, tmps := a.tmps, params := ps, assign := assign, body := body, defers := w.heap.size })), gf, (l1 ++ [Value.func (.yield (w.heap.size + 1)) #[] #[]] ++ l2).toArray, ((w.alloc (.deferred (some []))).alloc (.loop { state := .ready, pending := none, fn := f0, tmps := a.tmps, params := ps, assign := assign, body := body, defers := w.heap.size })), run_enterLoop_outer f0 a.tmps ps assign body, ?_, fun _ _ => trivial, ?_, fun h => by simp [Fence.wide] at h, ?_⟩
  rotate_left
  rotate_left
  ·refine CallsIn.mono (calls_wid hy) fun e w3 ⟨x, he, m3, hm3, hxv, hr3⟩ => ?_
   subst he
   have hl : m3 (H.n + 1) = some (⟨w.heap.size + 1, 0, none⟩, 0) := hm3 _ _ add_eq
   have hd3 : m3 H.n = some (⟨w.heap.size, 0, none⟩, 0) := hm3 _ _ (hle2 _ _ add_eq)
   have hrn : H.n + 1 < H2.n := by
    rcases Nat.lt_or_ge (H.n + 1) H2.n with h' | h'
    ·exact h'
    ·rw [hr3.fresh _ h'] at hl; cases hl
   obtain ⟨L2, ok2⟩ := hr3.loops.ok _ R2 _ hrn hg2 hl
   have hbusy : L2.state ≠ .busy := by
    rw [ok2.st]
    match hs : R2.st with
    | 0 => simp [stOf]
    | 1 => exact absurd hs hst
    | 2 => simp [stOf]
    | n + 3 => simp [stOf]
   have hr4 := hr3.setLoop (R' := { R2 with st := 3 }) (L' := { L2 with state := .exhausted }) hrn hg2 hl ok2 hst4 (by simp) rfl (by rw [← ok2.pend]; rfl)
   have hq := hQ m3 _ (Le.trans hle hm3) hr4 hd3 hl
   refine ⟨_, _, run_endLoop ok2.obj hbusy, ?_⟩
   rw [ok2.pend] at hq ⊢
   cases hpd : R2.pend with
   | normal => rw [hpd] at hq; exact hq
   | exit id => rw [hpd] at hq; exact wpIn_exit hq
   | ret => rw [hpd] at hq; exact wpIn_ret hq
  ·show Sem.run P (Deferred.ofValue (a.eval g) (#[Operand.const (.func (.yield (w.heap.size + 1)) #[] #[])].map a.eval)) _ = _
   rw [e1]
   simp [Deferred.ofValue, Act.eval]
  ·show Sem.run P (callFunc gf _) _ = _
   have : (l1.toArray ++ #[Value.func (.yield (w.heap.size + 1)) #[] #[]] ++ l2.toArray) = (l1 ++ [Value.func (.yield (w.heap.size + 1)) #[] #[]] ++ l2).toArray := by apply Array.ext'; simp
   rw [this]
   exact hrun _
 ·cases hg'
end
end Go.Am
namespace Go.Am
open Go Go.RowKit
section
variable {P : Program} {S : Base} {m : RMap} {H H' : AHeap} {w : World}
theorem execOps_nt {call : ACall} {nt : Nat} : ∀ {ops : List ROper} {fr fr' : AFrame} {H H' : AHeap}, (∀ o ∈ ops, ∀ d, o.dst = some d → d < nt) → execOps call ops fr H = some (fr', H') → fr' nt = fr nt := by
 intro ops
 induction ops with
 | nil => intro fr fr' H H' _ h; cases h; rfl
 | cons o os ih =>
  intro fr fr' H H' hD h
  have hp : ∀ v, put fr o.dst v nt = fr nt := fun v => by
   cases hd : o.dst with
   | none => rfl
   | some d =>
    have := hD o (by simp) d hd
    simp [put, upd, nbeq_ne (show nt ≠ d by omega)]
  simp only [execOps] at h
  cases hw : o.wanted fr with
  | true =>
   rw [hw] at h
   obtain ⟨v, H1, h1, h2⟩ := bind_some h
   rw [ih (fun o' ho' => hD o' (by simp [ho'])) h2, hp]
  | false =>
   rw [hw] at h
   rw [ih (fun o' ho' => hD o' (by simp [ho'])) h, hp]
theorem dtext_nt {call : ACall} {nt : Nat} : ∀ {its : List DItem} {ref : Nat} {fr fr' : AFrame} {H H' : AHeap} {R : List DRec}, (∀ it ∈ its, ∀ d, it.o.dst = some d → d < nt) → dtext call its ref fr H = some (R, fr', H') → fr' nt = fr nt := by
 intro its
 induction its with
 | nil => intro ref fr fr' H H' R _ h; cases h; rfl
 | cons o os ih =>
  intro ref fr fr' H H' R hD h
  have hp : ∀ v, put fr o.o.dst v nt = fr nt := fun v => by
   cases hd : o.o.dst with
   | none => rfl
   | some d =>
    have := hD o (by simp) d hd
    simp [put, upd, nbeq_ne (show nt ≠ d by omega)]
  have hD' : ∀ it ∈ os, ∀ d, it.o.dst = some d → d < nt := fun o' ho' => hD o' (by simp [ho'])
  simp only [dtext] at h
  cases hw : o.o.wanted fr with
  | false =>
   rw [hw] at h
   simp only [] at h
   split at h
   ·rename_i R1 f1 H1 h1
    cases h
    rw [ih hD' h1, hp]
   ·cases h
  | true =>
   rw [hw] at h
   simp only [] at h
   split at h
   ·cases h
   ·split at h
    ·rename_i R1 f1 H2 h1
     cases h
     rw [ih hD' h1, hp]
    ·cases h
theorem cOpers_dst {nt : Nat} {ops : Array Oper} : ∀ {l : List Oper} {rl : List ROper}, cOpers P nt ops l = some rl → ∀ o ∈ rl, ∀ d, o.dst = some d → d < nt := by
 intro l
 induction l with
 | nil => intro rl h o ho; simp only [cOpers] at h; cases h; cases ho
 | cons x l ih =>
  intro rl h o ho d hd
  simp only [cOpers] at h
  split at h
  ·rename_i op dst guard rl' h1 h2 h3 h4; cases h
   rcases List.mem_cons.1 ho with rfl | ho
   ·simp only at hd
    subst hd
    cases hx : x.dst with
    | none => rw [hx] at h2; simp only [cDst] at h2; cases h2
    | some t =>
     rw [hx] at h2
     simp only [cDst] at h2
     split at h2
     ·cases h2; assumption
     ·cases h2
   ·exact ih h4 o ho d hd
  ·cases h
theorem items_mem {ef : Bool} : ∀ {l : List ROper} {bs bad : List Nat} {it : DItem}, it ∈ items ef l bs bad → it.o ∈ l := by
 intro l
 induction l with
 | nil => intro bs bad it h; simp [items] at h
 | cons o os ih =>
  intro bs bad it h
  cases bs with
  | nil => simp [items] at h
  | cons b bs =>
   simp only [items] at h
   rcases List.mem_cons.1 h with rfl | h
   ·simp
   ·exact List.mem_cons_of_mem _ (ih h)
theorem leaf_nt {call : ACall} {lf nt id : Nat} {ops : Array Oper} {dr : Bool} {rc : RCode} {fr fr' : AFrame} {x : RExit} (hc : cCode P nt (.region id ops dr) = some rc) (hx : rc.exec call lf fr H = some ((x, fr'), H')) : fr' nt = fr nt := by
 cases dr with
 | false =>
  simp only [cCode] at hc
  cases hl : cOpers P nt ops ops.toList with
  | none => rw [hl] at hc; cases hc; exact (fail_some hx).elim
  | some l =>
   rw [hl] at hc; cases hc
   simp only [RCode.exec] at hx
   obtain ⟨fr1, H1, h1, h2⟩ := bind_some hx
   obtain ⟨e, rfl⟩ := pure_some h2; cases e
   exact execOps_nt (cOpers_dst hl) h1
 | true =>
  simp only [cCode] at hc
  cases hl : cOpers P nt ops ops.toList with
  | none => rw [hl] at hc; cases hc; exact (fail_some hx).elim
  | some l =>
   rw [hl] at hc
   simp only [] at hc
   cases hdr : cDraw ops.toList (Region.before ops).toList l with
   | none => rw [hdr] at hc; cases hc; exact (fail_some hx).elim
   | some rc' =>
    rw [hdr] at hc
    cases hc
    have hit : ∃ ef, rc = RCode.dregion (items ef l (Region.before ops).toList []) := by
     unfold cDraw at hdr
     cases h1 : drawOk true ops.toList (Region.before ops).toList l with
     | true => rw [h1] at hdr; cases hdr; exact ⟨_, rfl⟩
     | false =>
      rw [h1] at hdr
      cases h2 : drawOk false ops.toList (Region.before ops).toList l with
      | true => rw [h2] at hdr; cases hdr; exact ⟨_, rfl⟩
      | false => rw [h2] at hdr; cases hdr
    obtain ⟨ef, rfl⟩ := hit
    ·simp only [RCode.exec] at hx
     split at hx
     ·rename_i R f1 H1 hd
      split at hx
      ·cases hx
       exact dtext_nt (fun it hit => cOpers_dst hl _ (items_mem hit)) hd
      ·cases hx
     ·cases hx
inductive MarkL (m : RMap) : List AVal → List Deferred → Prop
 | nil : MarkL m [] []
 | cons {d l b k : Nat} {p : Addr × Nat} {vs : List AVal} {ds : List Deferred} (hd : m d = some (⟨b, 0, none⟩, k)) (hl : m l = some p) (h : MarkL m vs ds) : MarkL m (.ptr d l :: vs) ({ target := .collected b, args := #[] } :: ds)
theorem MarkL.mono {m m' : RMap} (hm : Le m m') {vs : List AVal} {ds : List Deferred} (h : MarkL m vs ds) : MarkL m' vs ds := by
 induction h with
 | nil => exact .nil
 | cons hd hl _ ih => exact .cons (hm _ _ hd) (hm _ _ hl) ih
def Mk (m : RMap) (v : AVal) (ds : List Deferred) : Prop := ∃ vs, v = .tuple vs ∧ MarkL m vs ds
theorem Mk.mono {m m' : RMap} (hm : Le m m') {v : AVal} {ds : List Deferred} (h : Mk m v ds) : Mk m' v ds := by
 obtain ⟨vs, e, k⟩ := h
 exact ⟨vs, e, k.mono hm⟩
theorem FRel.above {nt : Nat} {fr : AFrame} {tmps : Array Value} (h : FRel nt m fr tmps) (v : AVal) : FRel nt m (Go.Am.upd fr nt v) tmps :=
 ⟨h.1, fun i hi => by obtain ⟨x, h1, h2⟩ := h.2 i hi; exact ⟨x, by simp only [Go.Am.upd, nbeq_ne (show i ≠ nt by omega)]; exact h1, h2⟩⟩
def PostM (S : Base) (nt : Nat) (m : RMap) (x : RExit) (fr' : AFrame) (H' : AHeap) (Q : Exit → Act → World → Prop) : Prop :=
 ∀ (m' : RMap) (a' : Act) (w' : World), FRel nt m' fr' a'.tmps → Mk m' (fr' nt) a'.defers → HRel S m' H' w' → Le m m' → Q x.to a' w'
theorem entered_mem {f : FuncId} (h : (enteredAll P).contains f = true) : ∃ fn c, P.funcs[f]? = some fn ∧ fn.body = some c ∧ fn.name ≠ "runtime.NumGoroutine" := by
 have h1 : f ∈ enteredAll P := by simpa using h
 have h2 := (List.mem_filter.1 h1).2
 unfold entered at h2
 cases hf : P.funcs[f]? with
 | none => rw [hf] at h2; cases h2
 | some fn =>
  rw [hf] at h2
  simp only [Bool.and_eq_true] at h2
  cases hb : fn.body with
  | none => rw [hb] at h2; simp at h2
  | some c => exact ⟨fn, c, rfl, hb, by simpa using h2.2⟩
theorem sim_top {nt : Nat} {call : ACall} {lf : Nat} (hC : S.code = cCode P) (hG : S.G = P.globals.size) (hcall : CallSim P S call) (hD : DSim P S call lf) :
  ∀ (c : Code) (rc : RCode) (fr fr' : AFrame) (H H' : AHeap) (x : RExit) (m : RMap) (a : Act) (w : World) (Q : Exit → Act → World → Prop),
   cTop P nt c = some rc → rc.exec call lf fr H = some ((x, fr'), H') → FRel nt m fr a.tmps → Mk m (fr nt) a.defers → HRel S m H w → PostM S nt m x fr' H' Q → c.wpIn (wid none) 0 P Q a w := by
 have leaf : ∀ (c : Code) (rc : RCode) (fr fr' : AFrame) (H H' : AHeap) (x : RExit) (m : RMap) (a : Act) (w : World) (Q : Exit → Act → World → Prop),
   cCode P nt c = some rc → fr' nt = fr nt → rc.exec call lf fr H = some ((x, fr'), H') → FRel nt m fr a.tmps → Mk m (fr nt) a.defers → HRel S m H w → PostM S nt m x fr' H' Q → c.wpIn (wid none) 0 P Q a w := by
  intro c rc fr fr' H H' x m a w Q hc hn hx hf hk h hQ
  refine sim_code hG hcall hD (ds := a.defers) c rc fr fr' H H' x m a w Q hc hx hf rfl h ?_
  intro m' a' w' h1 h2 h3 h4
  exact hQ m' a' w' h1 (by rw [hn, h2]; exact hk.mono h4) h3 h4
 intro c
 induction c with
 | skip => intro rc fr fr' H H' x m a w Q hc hx hf hd h hQ; exact leaf _ rc fr fr' H H' x m a w Q hc (by simp only [cTop, cCode] at hc; cases hc; obtain ⟨e, rfl⟩ := pure_some hx; cases e; rfl) hx hf hd h hQ
 | label l => intro rc fr fr' H H' x m a w Q hc hx hf hd h hQ; exact leaf _ rc fr fr' H H' x m a w Q hc (by simp only [cTop, cCode] at hc; cases hc; obtain ⟨e, rfl⟩ := pure_some hx; cases e; rfl) hx hf hd h hQ
 | region id ops draw => intro rc fr fr' H H' x m a w Q hc hx hf hd h hQ; exact leaf _ rc fr fr' H H' x m a w Q hc (leaf_nt hc hx) hx hf hd h hQ
 | seq c1 c2 ih1 ih2 =>
  intro rc fr fr' H H' x m a w Q hc hx hf hd h hQ
  simp only [cTop] at hc
  split at hc
  ·rename_i r1 r2 h1 h2; cases hc
   simp only [RCode.exec] at hx
   obtain ⟨⟨x1, fr1⟩, H1, hx1, hx2⟩ := bind_some hx
   refine wpIn_seq (ih1 r1 fr fr1 H H1 x1 m a w _ h1 hx1 hf hd h ?_)
   intro m' a' w' hf' hd' hr' hm'
   cases x1 with
   | normal => exact ih2 r2 fr1 fr' H1 H' x m' a' w' Q h2 hx2 hf' hd' hr' (fun m2 a2 w2 q1 q2 q3 q4 => hQ m2 a2 w2 q1 q2 q3 (Le.trans hm' q4))
   | exit id => obtain ⟨e, rfl⟩ := pure_some hx2; cases e; exact hQ m' a' w' hf' hd' hr' hm'
   | ret => obtain ⟨e, rfl⟩ := pure_some hx2; cases e; exact hQ m' a' w' hf' hd' hr' hm'
  ·cases hc
 | cond c t e iht ihe =>
  intro rc fr fr' H H' x m a w Q hc hx hf hd h hQ
  simp only [cTop] at hc
  split at hc
  ·rename_i c' t' e' h1 h2 h3; cases hc
   have hev := cOpd_ev h1 hf (by rw [← hG]; exact h.glob)
   simp only [RCode.exec] at hx
   cases hv : c'.ev fr with
   | bool b =>
    rw [hv] at hx hev
    simp only [emb] at hev
    have hev' : a.eval c = .bool b := (Option.some.inj hev).symm
    cases b with
    | true => exact wpIn_cond_true hev' (iht t' fr fr' H H' x m a w Q h2 hx hf hd h hQ)
    | false => exact wpIn_cond_false hev' (ihe e' fr fr' H H' x m a w Q h3 hx hf hd h hQ)
   | _ => rw [hv] at hx; exact (fail_some hx).elim
  ·cases hc
 | block id b ih =>
  intro rc fr fr' H H' x m a w Q hc hx hf hd h hQ
  simp only [cTop] at hc
  cases hb : cTop P nt b with
  | none => rw [hb] at hc; cases hc
  | some b' =>
   rw [hb] at hc; cases hc
   simp only [RCode.exec] at hx
   obtain ⟨⟨x1, fr1⟩, H1, hx1, hx2⟩ := bind_some hx
   refine wpIn_block (ih b' fr fr1 H H1 x1 m a w _ hb hx1 hf hd h ?_)
   intro m' a' w' hf' hd' hr' hm'
   cases x1 with
   | normal => obtain ⟨e, rfl⟩ := pure_some hx2; cases e; exact hQ m' a' w' hf' hd' hr' hm'
   | ret => obtain ⟨e, rfl⟩ := pure_some hx2; cases e; exact hQ m' a' w' hf' hd' hr' hm'
   | exit id' =>
    simp only [] at hx2
    cases hbeq : Nat.beq id' id with
    | true =>
     rw [hbeq] at hx2
     obtain ⟨e, rfl⟩ := pure_some hx2; cases e
     have := Nat.eq_of_beq_eq_true hbeq
     simp only [RExit.to, Exit.inBlock, this, if_true]
     exact hQ m' a' w' hf' hd' hr' hm'
    | false =>
     rw [hbeq] at hx2
     obtain ⟨e, rfl⟩ := pure_some hx2; cases e
     have hne : id' ≠ id := fun e => by subst e; simp at hbeq
     simp only [RExit.to, Exit.inBlock, hne, if_false]
     exact hQ m' a' w' hf' hd' hr' hm'
 | loop b ih =>
  intro rc fr fr' H H' x m a w Q hc hx hf hd h hQ
  simp only [cTop] at hc
  cases hb : cTop P nt b with
  | none => rw [hb] at hc; cases hc
  | some b' =>
   rw [hb] at hc; cases hc
   simp only [RCode.exec] at hx
   have key : ∀ (n : Nat) (fr : AFrame) (H : AHeap) (m1 : RMap) (a : Act) (w : World), loopN (b'.exec call lf) n fr H = some ((x, fr'), H') → FRel nt m1 fr a.tmps → Mk m1 (fr nt) a.defers → HRel S m1 H w → Le m m1 → Code.roundsIn (wid none) 0 P b Q n a w := by
    intro n
    induction n with
    | zero => intro fr H m1 a w hx _ _ _ _; exact (fail_some hx).elim
    | succ n ihn =>
     intro fr H m1 a w hx hf hd h hm
     rw [roundsIn_succ]
     obtain ⟨⟨x1, fr1⟩, H1, hx1, hx2⟩ := bind_some hx
     refine ih b' fr fr1 H H1 x1 m1 a w _ hb hx1 hf hd h ?_
     intro m' a' w' hf' hd' hr' hm'
     cases x1 with
     | normal => exact ihn fr1 H1 m' a' w' hx2 hf' hd' hr' (Le.trans hm hm')
     | exit id => obtain ⟨e, rfl⟩ := pure_some hx2; cases e; exact hQ m' a' w' hf' hd' hr' (Le.trans hm hm')
     | ret => obtain ⟨e, rfl⟩ := pure_some hx2; cases e; exact hQ m' a' w' hf' hd' hr' (Le.trans hm hm')
   exact wpIn_loop_rounds lf (key lf fr H m a w hx hf hd h (Le.refl _))
 | scope b ih =>
  intro rc fr fr' H H' x m a w Q hc hx hf hd h hQ
  simp only [cTop] at hc
  cases hb : cTop P nt b with
  | none => rw [hb] at hc; cases hc
  | some b' =>
   rw [hb] at hc; cases hc
   simp only [RCode.exec] at hx
   refine wpIn_scope_straight (ih b' fr fr' H H' x m a w _ hb hx hf hd h ?_)
   intro m' a' w' hf' hd' hr' hm'
   have := hQ m' a' w' hf' hd' hr' hm'
   cases x <;> exact this
 | exit id => intro rc fr fr' H H' x m a w Q hc hx hf hd h hQ; exact leaf _ rc fr fr' H H' x m a w Q hc (by simp only [cTop, cCode] at hc; cases hc; obtain ⟨e, rfl⟩ := pure_some hx; cases e; rfl) hx hf hd h hQ
 | ret => intro rc fr fr' H H' x m a w Q hc hx hf hd h hQ; exact leaf _ rc fr fr' H H' x m a w Q hc (by simp only [cTop, cCode] at hc; cases hc; obtain ⟨e, rfl⟩ := pure_some hx; cases e; rfl) hx hf hd h hQ
 | goto l => intro rc fr fr' H H' x m a w Q hc hx; simp only [cTop, cCode] at hc; cases hc; exact (fail_some hx).elim
 | refuse why => intro rc fr fr' H H' x m a w Q hc hx; simp only [cTop, cCode] at hc; cases hc; exact (fail_some hx).elim
 | rangeFunc f ps as b _ _ =>
  intro rc fr fr' H H' x m a w Q hc hx hf hd h hQ
  simp only [cTop] at hc
  split at hc
  ·rename_i g ra rb h1 h2 h3; cases hc
   have hev := cOpd_ev h1 hf (by rw [← hG]; exact h.glob)
   simp only [RCode.exec] at hx
   split at hx
   ·rename_i gf fi ca vs e1 e2
    rw [e1] at hev
    cases hcon : (enteredAll P).contains gf with
    | false => rw [hcon] at hx; cases hx
    | true =>
    rw [hcon] at hx
    simp only [] at hx
    split at hx
    ·rename_i v0 H2 hcl
     split at hx
     ·rename_i R2 hg2
      cases hst : (Nat.beq R2.st 1 || Nat.beq R2.st 4) with
      | true => rw [hst] at hx; cases hx
      | false =>
      rw [hst] at hx
      cases hx
      have hs1 : R2.st ≠ 1 := fun e => by rw [e] at hst; simp at hst
      have hs4 : R2.st ≠ 4 := fun e => by rw [e] at hst; simp at hst
      obtain ⟨fn, c, k1, k2, k3⟩ := entered_mem hcon
      refine sim_range hC hcall hf h hev k1 k2 k3 h2 h3 hcl hg2 hs1 hs4 ?_
      intro m' w' hle hr hd0 hl0
      refine hQ m' _ w' ((hf.mono hle).above _) ?_ hr hle
      obtain ⟨vs', e3, hk⟩ := hd
      rw [e2] at e3; cases e3
      exact ⟨_, by simp [upd], .cons hd0 hl0 (hk.mono hle)⟩
     ·cases hx
    ·cases hx
   ·cases hx
  ·cases hc
theorem MarkL.inv {v : AVal} {vs : List AVal} {ds : List Deferred} (h : MarkL m (v :: vs) ds) : ∃ (d l b k : Nat) (p : Addr × Nat) (ds' : List Deferred), v = .ptr d l ∧ ds = { target := .collected b, args := #[] } :: ds' ∧ m d = some (⟨b, 0, none⟩, k) ∧ m l = some p ∧ MarkL m vs ds' := by
 cases h with
 | cons hd hl h => exact ⟨_, _, _, _, _, _, rfl, rfl, hd, hl, h⟩
theorem takeMark_ptr {d l : Nat} {r : Unit × AHeap} (h : takeMark (.ptr d l) H = some r) : ∃ R0, l < H.n ∧ H.get l = .loop R0 ∧ R0.st = 3 ∧ R0.d = d ∧ r = ((), H.set l (.loop { R0 with st := 4 })) := by
 have h : (match Nat.blt l H.n, H.get l with
  | true, .loop R => match Nat.beq R.st 3 && Nat.beq R.d d with
   | true => some ((), H.set l (.loop { R with st := 4 }))
   | false => none
  | _, _ => none) = some r := h
 cases hlt : Nat.blt l H.n with
 | false => rw [hlt] at h; cases h
 | true =>
 cases hg : H.get l with
 | loop R0 =>
  rw [hlt, hg] at h
  simp only [] at h
  cases hc : (Nat.beq R0.st 3 && Nat.beq R0.d d) with
  | false => rw [hc] at h; cases h
  | true =>
   rw [hc] at h
   rw [Bool.and_eq_true] at hc
   exact ⟨R0, by simpa using hlt, rfl, Nat.eq_of_beq_eq_true hc.1, Nat.eq_of_beq_eq_true hc.2, (Option.some.inj h).symm⟩
 | _ => rw [hlt, hg] at h; cases h
theorem sim_marks {fn : Func} {tmps : Array Value} {R : Ending → World → Prop} : ∀ (vs : List AVal) (ds : List Deferred) (H : AHeap) (w : World), MarkL m vs ds → takeMarks vs H = some ((), H') → HRel S m H w → (∀ w', HRel S m H' w' → LeavesInM Fence.wide 0 P fn tmps R [] .returning w') → LeavesInM Fence.wide 0 P fn tmps R ds .returning w := by
 intro vs
 induction vs with
 | nil => intro ds H w hk hx h hQ; cases hk; obtain ⟨_, rfl⟩ := pure_some hx; exact hQ w h
 | cons v vs ih =>
  intro ds H w hk hx h hQ
  obtain ⟨d, l, b, k, p, ds', rfl, rfl, hd, hl, hk⟩ := hk.inv
  obtain ⟨_, H1, hx1, hx⟩ := bind_some hx
  obtain ⟨R0, hln, hg, hst, hdd, e⟩ := takeMark_ptr hx1
  cases e
  obtain ⟨L, ok⟩ := h.loops.ok l R0 p hln hg hl
  obtain ⟨k', hb⟩ := ok.blk
  rw [hdd, hd] at hb
  have hbL : b = L.defers := by
   have := congrArg (fun o => (o.map (fun q => q.1.block)).getD 0) hb
   simpa using this
  have hob := ok.defers
  rw [hst, if_neg (by decide), ← hbL] at hob
  have hun : ∀ (d0 : Deferred) (w1 : World), d0.target = .collected b → (Instr.takeDeferred b).run P w = .ok [] w1 → LeavesInM Fence.wide 0 P fn tmps R ds' .returning w1 → LeavesInM Fence.wide 0 P fn tmps R (d0 :: ds') .returning w := fun d0 w1 q1 q2 q3 => by
   unfold LeavesInM
   exact ⟨by simp, Or.inl ⟨b, w1, q1, q2, q3⟩⟩
  refine hun _ (w.putObj b (.deferred none)) rfl (run_takeDeferred hob) ?_
  have hr := h.shutLoop hln hg hl ok hst
  rw [← hbL] at hr
  exact ih ds' _ _ hk hx hr hQ
end
end Go.Am
namespace Go.Am
open Go Go.RowKit
section
variable {P : Program} {S : Base} {m : RMap} {H H' : AHeap} {w : World}
def resOf (tmps : Array Value) : ResultVar → Sem Value
 | .tmp t => pure (tmps.getD t undef)
 | .cell a t => do loadVar t (← asAddr (tmps.getD a undef))
theorem sim_getAll {nt : Nat} {fr : AFrame} {tmps : Array Value} (hf : FRel nt m fr tmps) (h : HRel S m H w) {rs : List ResultVar} {rl : List RRes} {vs : List AVal} (hc : cRes P nt rs = some rl) (hx : getAll fr rl H = some (vs, H')) :
  ∃ xs, (rs.mapM (resOf tmps)).run P w = .ok xs w ∧ embL m vs = some xs ∧ H' = H := by
 induction rs generalizing rl vs H' with
 | nil =>
  simp only [cRes] at hc; cases hc
  obtain ⟨rfl, rfl⟩ := pure_some hx
  exact ⟨[], by simp, by simp [embL], rfl⟩
 | cons r rs ih =>
  cases r with
  | tmp t =>
   simp only [cRes] at hc
   split at hc
   ·rename_i l hl
    split at hc
    ·rename_i ht; cases hc
     obtain ⟨v, H1, h1, h2⟩ := bind_some hx
     obtain ⟨rfl, rfl⟩ := pure_some h1
     obtain ⟨vs', H2, h3, h4⟩ := bind_some h2
     obtain ⟨rfl, rfl⟩ := pure_some h4
     obtain ⟨xs, h5, h6, h7⟩ := ih hl h3
     obtain ⟨y, hy, hy2⟩ := hf.2 t ht
     refine ⟨y :: xs, ?_, embL_mk hy h6, h7⟩
     have : tmps.getD t undef = y := by simp [Array.getD_eq_getD_getElem?, hy2]
     simp [List.mapM_cons, resOf, this, h5]
    ·cases hc
   ·cases hc
  | cell b t =>
   simp only [cRes] at hc
   split at hc
   ·rename_i g l hg hl
    split at hc
    ·rename_i ht; cases hc
     obtain ⟨v, H1, h1, h2⟩ := bind_some hx
     obtain ⟨y, hy, hy2⟩ := hf.2 b ht
     obtain ⟨ad, z, h8, h9, h10, rfl⟩ := sim_load (P := P) hg hy h h1
     obtain ⟨vs', H2, h3, h4⟩ := bind_some h2
     obtain ⟨rfl, rfl⟩ := pure_some h4
     obtain ⟨xs, h5, h6, h7⟩ := ih hl h3
     refine ⟨z :: xs, ?_, embL_mk h10 h6, h7⟩
     have : tmps.getD b undef = .pointer (some ad) := by simp [Array.getD_eq_getD_getElem?, hy2, h8]
     simp [List.mapM_cons, resOf, this, asAddr, h5, h9]
    ·cases hc
   ·cases hc
theorem sim_results {nt : Nat} {fr : AFrame} {fn : Func} {tmps : Array Value} {rl : List RRes} {vs : List AVal} (hf : FRel nt m fr tmps) (h : HRel S m H w) (hc : cRes P nt fn.results.toList = some rl) (hx : getAll fr rl H = some (vs, H')) :
  ∃ x, (results fn tmps).run P w = .ok x w ∧ emb m (aResult vs) = some x ∧ H' = H := by
 obtain ⟨xs, h1, h2, h3⟩ := sim_getAll hf h hc hx
 have hrun : (fn.results.mapM (resOf tmps)).run P w = .ok xs.toArray w := by
  rw [Array.mapM_eq_mapM_toList]
  simp [h1]
 refine ⟨if h : xs.toArray.size = 1 then xs.toArray[0] else .tuple xs.toArray, ?_, ?_, h3⟩
 ·show (do let vs ← fn.results.mapM (resOf tmps); pure (if h : vs.size = 1 then vs[0] else .tuple vs)).run P w = _
  simp [hrun]
 ·match vs, xs, h2 with
  | [], xs, h2 => simp [embL] at h2; subst h2; simp [aResult, emb, embL]
  | [v], xs, h2 =>
   obtain ⟨x, ys, h3, h4, rfl⟩ := embL_cons h2
   simp [embL] at h4; subst h4
   simpa [aResult] using h3
  | v :: u :: vs, xs, h2 =>
   have := embL_length h2
   have h5 : xs.toArray.size ≠ 1 := by simp; simp at this; omega
   simp only [h5, dif_neg, not_false_eq_true]
   simp [aResult, emb, h2]
theorem argFrame_get : ∀ {args : List AVal} {i : Nat}, argFrame args i = (args[i]?).getD aundef
 | [], i => rfl
 | v :: vs, 0 => rfl
 | v :: vs, i + 1 => by simp [argFrame, argFrame_get (args := vs)]
theorem FRel.args {nt : Nat} {args : List AVal} {vargs : List Value} (hn : args.length ≤ nt) (h : embL m args = some vargs) : FRel nt m (argFrame args) (vargs.toArray ++ Array.replicate (nt - vargs.toArray.size) undef) := by
 have hl := embL_length h
 refine ⟨by simp; omega, fun i hi => ?_⟩
 rw [argFrame_get]
 by_cases hia : i < args.length
 ·obtain ⟨y, hy, hy2⟩ := embL_get h (List.getElem?_eq_getElem hia)
  refine ⟨y, by simp [hia, hy], ?_⟩
  rw [Array.getElem?_append_left (by simp; omega)]
  simpa using hy2
 ·have h1 : args[i]? = none := by simp; omega
  refine ⟨undef, by rw [h1]; exact undef_emb, ?_⟩
  rw [Array.getElem?_append_right (by simp; omega)]
  rw [Array.getElem?_replicate, if_pos (by simp; omega)]
def ExtSim (P : Program) (ext : Exts) (f : FuncId) (name : Nat) : Prop := ∀ (S : Base) (args : List AVal) (H : AHeap) (v : AVal) (H' : AHeap) (m : RMap) (w : World) (vargs : List Value), S.G = P.globals.size → ext name args H = some (v, H') → HRel S m H w → embL m args = some vargs →
  Yields P (callFunc f vargs.toArray) w (Out S m v H')
def ProgOk (P : Program) (ext : Exts) (prog : FuncId → Option RFunc) : Prop := prog yieldId = none ∧ P.funcs.size ≤ yieldId ∧ ∀ f rf, prog f = some rf →
 (∃ fn c, P.funcs[f]? = some fn ∧ fn.body = some c ∧ cFunc P fn = some rf) ∨ ∃ name, rf.body = .ext name ∧ ExtSim P ext f name
theorem ProgOk.sem {ext : Exts} {prog : FuncId → Option RFunc} (hP : ProgOk P ext prog) {f : FuncId} {fn : Func} (hfn : P.funcs[f]? = some fn) (vargs : List Value) : callSem f vargs = callFunc f vargs.toArray := by
 have hne : Nat.beq f yieldId = false := by
  cases h' : Nat.beq f yieldId with
  | false => rfl
  | true =>
   have h1 := Nat.eq_of_beq_eq_true h'
   have h2 : f < P.funcs.size := (Array.getElem?_eq_some_iff.1 hfn).1
   have h3 := hP.2.1
   rw [h1] at h2
   exact absurd h2 (Nat.not_lt.2 h3)
 simp only [callSem, hne]
theorem sim_end {nt : Nat} {fn : Func} {fr : AFrame} {a : Act} {m0 : RMap} {rl : List RRes} {v : AVal} (hf : FRel nt m fr a.tmps) (hd : Mk m (fr nt) a.defers) (h : HRel S m H w) (hm0 : Le m0 m) (hc : cRes P nt fn.results.toList = some rl)
  (hx : (M.bind (takeMarks (marksOf (fr nt))) fun _ => M.bind (getAll fr rl) fun vs => M.pure (aResult vs)) H = some (v, H')) :
  LeavesInM Fence.wide 0 P fn a.tmps (fun e w' => ∃ x, e = .returned x ∧ Out S m0 v H' x w') a.defers .returning w := by
 obtain ⟨vs, e, hk⟩ := hd
 rw [e] at hx
 obtain ⟨_, H1, h1, h2⟩ := bind_some hx
 refine sim_marks vs a.defers H w hk h1 h fun w1 hr => ?_
 obtain ⟨ws, H2, h3, h4⟩ := bind_some h2
 obtain ⟨rfl, rfl⟩ := pure_some h4
 obtain ⟨y, h5, h6, rfl⟩ := sim_results (P := P) hf hr hc h3
 exact ⟨y, h5, _, rfl, m, hm0, h6, hr⟩
theorem sim_func (hm : P.follows .mixedOrders = true) (hC : S.code = cCode P) (hG : S.G = P.globals.size) {call : ACall} (hcall : ∀ g, CallSim P { S with ghost := g } call) {ext : Exts} {lf : Nat} {f : FuncId} {fn : Func} {c : Code} {rf : RFunc}
  (hfn : P.funcs[f]? = some fn) (hb : fn.body = some c) (hc : cFunc P fn = some rf) {args : List AVal} {vargs : List Value} {v : AVal} (hx : rf.run ext call lf args H = some (v, H')) (h : HRel S m H w) (ha : embL m args = some vargs) :
  Yields P (callFunc f vargs.toArray) w (Out S m v H') := by
 unfold cFunc at hc
 split at hc
 ·cases hc
 ·rename_i hname
  rw [hb] at hc
  simp only [] at hc
  cases hrg : ranges c with
  | false =>
  rw [hrg] at hc
  simp only [] at hc
  split at hc
  ·rename_i rc rr h1 h2; cases hc
   simp only [RFunc.run] at hx
   split at hx
   ·exact (fail_some hx).elim
   ·rename_i hnt
    obtain ⟨⟨x, fr'⟩, H1, hx1, hx2⟩ := bind_some hx
    have hrun : (callFunc f vargs.toArray).run P w = .ok (.enter f vargs.toArray) w := by
     have hn : ¬ fn.name = "runtime.NumGoroutine" := by simpa using hname
     simp [callFunc, hfn, hb, hn]
    unfold Yields
    rw [hrun]
    simp only []
    refine calls_of_wp hfn hb ?_
    refine (wpIn_wide (n := 0)).1 ?_
    refine sim_code (ro := none) hG (by have := hcall S.ghost; exact this) (dsim hm hG hcall lf) (ds := []) c rc (argFrame args) fr' H H1 x m _ w _ h1 hx1 (FRel.args (by omega) ha) rfl h ?_
    intro m' a' w' hf' hd' hr' hm'
    cases x with
    | exit id => exact (fail_some hx2).elim
    | normal =>
     obtain ⟨vs, H2, h3, h4⟩ := bind_some hx2
     obtain ⟨rfl, rfl⟩ := pure_some h4
     obtain ⟨y, h5, h6, rfl⟩ := sim_results (P := P) hf' hr' h2 h3
     exact ⟨hd', y, h5, _, rfl, m', hm', h6, hr'⟩
    | ret =>
     obtain ⟨vs, H2, h3, h4⟩ := bind_some hx2
     obtain ⟨rfl, rfl⟩ := pure_some h4
     obtain ⟨y, h5, h6, rfl⟩ := sim_results (P := P) hf' hr' h2 h3
     exact ⟨hd', y, h5, _, rfl, m', hm', h6, hr'⟩
  ·cases hc
  | true =>
  rw [hrg] at hc
  simp only [] at hc
  split at hc
  ·rename_i rc rr h1 h2; cases hc
   simp only [RFunc.run] at hx
   split at hx
   ·exact (fail_some hx).elim
   ·rename_i hnt
    obtain ⟨⟨x, fr'⟩, H1, hx1, hx2⟩ := bind_some hx
    have hrun : (callFunc f vargs.toArray).run P w = .ok (.enter f vargs.toArray) w := by
     have hn : ¬ fn.name = "runtime.NumGoroutine" := by simpa using hname
     simp [callFunc, hfn, hb, hn]
    unfold Yields
    rw [hrun]
    simp only []
    refine (callsIn_wide (n := 0)).1 (callsIn_of_wp_marks hfn hb trivial ?_)
    have hm0 : Mk m (argFrame args fn.ntmps) [] := by
     refine ⟨[], ?_, .nil⟩
     rw [argFrame_get]
     have : args[fn.ntmps]? = none := by simp; omega
     rw [this]; rfl
    refine sim_top hC hG (by have := hcall S.ghost; exact this) (dsim hm hG hcall lf) c rc (argFrame args) fr' H H1 x m _ w _ h1 hx1 (FRel.args (by omega) ha) hm0 h ?_
    intro m' a' w' hf' hd' hr' hm'
    cases x with
    | exit id => exact (fail_some hx2).elim
    | normal => exact sim_end hf' hd' hr' hm' h2 hx2
    | ret => exact sim_end hf' hd' hr' hm' h2 hx2
  ·cases hc
theorem sim_callN (hm : P.follows .mixedOrders = true) {ext : Exts} {prog : FuncId → Option RFunc} (hP : ProgOk P ext prog) : ∀ (n : Nat) (S : Base), S.G = P.globals.size → S.code = cCode P → CallSim P S (callN ext prog n)
 | 0, S, hG, hC => fun f args H v H' m w vargs hx => (fail_some hx).elim
 | n + 1, S, hG, hC => fun f args H v H' m w vargs hx h ha => by
  simp only [callN] at hx
  cases hp : prog f with
  | none =>
   rw [hp] at hx
   simp only [] at hx
   cases hy : Nat.beq f yieldId with
   | false => rw [hy] at hx; exact (fail_some (H := H) hx).elim
   | true =>
    rw [hy] at hx
    cases args with
    | nil => exact (fail_some (H := H) hx).elim
    | cons a as => cases a with
     | yield r =>
      simp only [] at hx
      obtain ⟨y, ys, h1, h2, rfl⟩ := embL_cons ha
      simp only [emb] at h1
      cases hr : m r with
      | none => rw [hr] at h1; cases h1
      | some p =>
       rw [hr] at h1
       cases h1
       simp only [callSem, hy]
       exact sim_round hm hC hG (fun g => sim_callN hm hP n { S with ghost := g } hG hC) hx h hr h2
     | _ => exact (fail_some (H := H) hx).elim
  | some rf =>
   rw [hp] at hx
   simp only [] at hx
   have hne : Nat.beq f yieldId = false := by
    cases h' : Nat.beq f yieldId with
    | false => rfl
    | true => rw [Nat.eq_of_beq_eq_true h', hP.1] at hp; cases hp
   simp only [callSem, hne]
   rcases hP.2.2 f rf hp with ⟨fn, c, h1, h2, h3⟩ | ⟨name, h1, h2⟩
   ·exact sim_func hm hC hG (fun g => sim_callN hm hP n { S with ghost := g } hG hC) h1 h2 h3 hx h ha
   ·simp only [RFunc.run, h1] at hx
    exact h2 S args H v H' m w vargs hG hx h ha
theorem callN_sem {ext : Exts} {prog : FuncId → Option RFunc} (hP : ProgOk P ext prog) {n : Nat} {f : FuncId} {r : AVal × AHeap} (h : callN ext prog n f [] H = some r) (vargs : List Value) : callSem f vargs = callFunc f vargs.toArray := by
 have hne : Nat.beq f yieldId = false := by
  cases h' : Nat.beq f yieldId with
  | false => rfl
  | true =>
   cases n with
   | zero => exact (fail_some (H := H) h).elim
   | succ n =>
    rw [Nat.eq_of_beq_eq_true h'] at h
    simp only [callN, hP.1] at h
    exact (fail_some (H := H) h).elim
 simp only [callSem, hne]
end
end Go.Am
namespace Go.Am
open Go Go.RowKit
def Evs (ext : Exts) (prog : FuncId → Option RFunc) (f : FuncId) (args : List AVal) (H : AHeap) (Q : AVal → AHeap → Prop) : Prop :=
 ∃ n0, ∀ n, n0 ≤ n → ∃ v H', callN ext prog n f args H = some (v, H') ∧ Q v H'
theorem Evs.mono {ext : Exts} {prog : FuncId → Option RFunc} {f : FuncId} {args : List AVal} {H : AHeap} {Q Q' : AVal → AHeap → Prop} (h : Evs ext prog f args H Q) (hq : ∀ v H', Q v H' → Q' v H') : Evs ext prog f args H Q' := by
 obtain ⟨n0, hn⟩ := h
 exact ⟨n0, fun n hn0 => by obtain ⟨v, H', h1, h2⟩ := hn n hn0; exact ⟨v, H', h1, hq _ _ h2⟩⟩
section
variable {P : Program} {S : Base} {m : RMap} {H : AHeap} {w : World} {ext : Exts} {prog : FuncId → Option RFunc}
theorem calls_of_evs (hm : P.follows .mixedOrders = true) (hP : ProgOk P ext prog) (hG : S.G = P.globals.size) (hC : S.code = cCode P) {f : FuncId} {fn : Func} {c : Code} (hfn : P.funcs[f]? = some fn) (hb : fn.body = some c) (hname : fn.name ≠ "runtime.NumGoroutine")
  {args : List AVal} {vargs : Array Value} {Q : AVal → AHeap → Prop} (h : HRel S m H w) (ha : embL m args = some vargs.toList) (he : Evs ext prog f args H Q) :
  Calls P f vargs w fun e w' => ∃ x v H', e = .returned x ∧ Q v H' ∧ Out S m v H' x w' := by
 obtain ⟨n0, hn⟩ := he
 obtain ⟨v, H', h1, h2⟩ := hn n0 (Nat.le_refl _)
 have hy := sim_callN hm hP n0 S hG hC f args H v H' m w vargs.toList h1 h ha
 have hrun : (callFunc f vargs.toList.toArray).run P w = .ok (.enter f vargs) w := by simp [callFunc, hfn, hb, hname]
 rw [hP.sem hfn] at hy
 unfold Yields at hy
 rw [hrun] at hy
 simp only [] at hy
 exact hy.mono fun e w' ⟨x, h3, h4⟩ => ⟨x, v, H', h3, h2, h4⟩
end
def Wp (call : ACall) (lf : Nat) (c : RCode) (fr : AFrame) (H : AHeap) (Q : RExit → AFrame → AHeap → Prop) : Prop := ∃ x fr' H', c.exec call lf fr H = some ((x, fr'), H') ∧ Q x fr' H'
def WpO (call : ACall) (ops : List ROper) (fr : AFrame) (H : AHeap) (Q : AFrame → AHeap → Prop) : Prop := ∃ fr' H', execOps call ops fr H = some (fr', H') ∧ Q fr' H'
def WpX (op : ROp) (call : ACall) (fr : AFrame) (H : AHeap) (Q : AVal → AHeap → Prop) : Prop := ∃ v H', op.exec call fr H = some (v, H') ∧ Q v H'
section
variable {call : ACall} {lf : Nat} {fr : AFrame} {H : AHeap} {Q : RExit → AFrame → AHeap → Prop} {K : AFrame → AHeap → Prop}
theorem WpO.nil (h : K fr H) : WpO call [] fr H K := ⟨fr, H, rfl, h⟩
theorem WpO.cons {o : ROper} {os : List ROper} {v : AVal} {H1 : AHeap} (hw : o.wanted fr = true) (hx : o.op.exec call fr H = some (v, H1)) (h : WpO call os (put fr o.dst v) H1 K) : WpO call (o :: os) fr H K := by
 obtain ⟨fr', H', h1, h2⟩ := h
 exact ⟨fr', H', by simp only [execOps, hw, M.bind, hx]; exact h1, h2⟩
theorem WpO.skip {o : ROper} {os : List ROper} (hw : o.wanted fr = false) (h : WpO call os (put fr o.dst aundef) H K) : WpO call (o :: os) fr H K := by
 obtain ⟨fr', H', h1, h2⟩ := h
 exact ⟨fr', H', by simp only [execOps, hw]; exact h1, h2⟩
theorem WpO.step {o : ROper} {os : List ROper} (hw : o.wanted fr = true) (hx : WpX o.op call fr H fun v H1 => WpO call os (put fr o.dst v) H1 K) : WpO call (o :: os) fr H K := by
 obtain ⟨v, H1, h1, h2⟩ := hx
 exact WpO.cons hw h1 h2
theorem Wp.skip (h : Q .normal fr H) : Wp call lf .skip fr H Q := ⟨_, _, _, rfl, h⟩
theorem Wp.ret (h : Q .ret fr H) : Wp call lf .ret fr H Q := ⟨_, _, _, rfl, h⟩
theorem Wp.exit {id : Nat} (h : Q (.exit id) fr H) : Wp call lf (.exit id) fr H Q := ⟨_, _, _, rfl, h⟩
theorem Wp.region {ops : List ROper} (h : WpO call ops fr H fun fr' H' => Q .normal fr' H') : Wp call lf (.region ops) fr H Q := by
 obtain ⟨fr', H', h1, h2⟩ := h
 exact ⟨.normal, fr', H', by simp only [RCode.exec, M.bind, h1, M.pure], h2⟩
theorem Wp.seq {a b : RCode} (h : Wp call lf a fr H fun x fr' H' => match x with | .normal => Wp call lf b fr' H' Q | e => Q e fr' H') : Wp call lf (.seq a b) fr H Q := by
 obtain ⟨x, fr', H', h1, h2⟩ := h
 cases x with
 | normal =>
  obtain ⟨x2, fr2, H2, h3, h4⟩ := h2
  exact ⟨x2, fr2, H2, by simp only [RCode.exec, M.bind, h1]; exact h3, h4⟩
 | exit id => exact ⟨.exit id, fr', H', by simp only [RCode.exec, M.bind, h1, M.pure], h2⟩
 | ret => exact ⟨.ret, fr', H', by simp only [RCode.exec, M.bind, h1, M.pure], h2⟩
theorem Wp.cond {c : ROpd} {t e : RCode} {b : Bool} (hc : c.ev fr = .bool b) (h : Wp call lf (cond b t e) fr H Q) : Wp call lf (.cond c t e) fr H Q := by
 obtain ⟨x, fr', H', h1, h2⟩ := h
 refine ⟨x, fr', H', ?_, h2⟩
 simp only [RCode.exec, hc]
 cases b <;> exact h1
theorem Wp.block {id : Nat} {b : RCode} (h : Wp call lf b fr H fun x fr' H' => match x with | .exit id' => (match Nat.beq id' id with | true => Q .normal fr' H' | false => Q (.exit id') fr' H') | e => Q e fr' H') : Wp call lf (.block id b) fr H Q := by
 obtain ⟨x, fr', H', h1, h2⟩ := h
 cases x with
 | normal => exact ⟨.normal, fr', H', by simp only [RCode.exec, M.bind, h1, M.pure], h2⟩
 | ret => exact ⟨.ret, fr', H', by simp only [RCode.exec, M.bind, h1, M.pure], h2⟩
 | exit i =>
  simp only [] at h2
  cases hb : Nat.beq i id with
  | true => rw [hb] at h2; exact ⟨.normal, fr', H', by simp only [RCode.exec, M.bind, h1, M.pure, hb], h2⟩
  | false => rw [hb] at h2; exact ⟨.exit i, fr', H', by simp only [RCode.exec, M.bind, h1, M.pure, hb], h2⟩
theorem Wp.scope {b : RCode} (h : Wp call lf b fr H Q) : Wp call lf (.scope b) fr H Q := h
theorem Wp.loop {b : RCode} (I : Nat → AFrame → AHeap → Prop) (step : ∀ k fr H, I k fr H → Wp call lf b fr H fun x fr' H' => match x with | .normal => ∃ j, j < k ∧ I j fr' H' | e => Q e fr' H') {k : Nat} (hk : k < lf) (h : I k fr H) : Wp call lf (.loop b) fr H Q := by
 have key : ∀ (n k : Nat) (fr : AFrame) (H : AHeap), k < n → I k fr H → ∃ x fr' H', loopN (b.exec call lf) n fr H = some ((x, fr'), H') ∧ Q x fr' H' := by
  intro n
  induction n with
  | zero => intro k fr H hk; omega
  | succ n ih =>
   intro k fr H hk hi
   obtain ⟨x, fr', H', h1, h2⟩ := step k fr H hi
   cases x with
   | normal =>
    obtain ⟨j, hj, hij⟩ := h2
    obtain ⟨x2, fr2, H2, h3, h4⟩ := ih j fr' H' (by omega) hij
    exact ⟨x2, fr2, H2, by simp only [loopN, M.bind, h1]; exact h3, h4⟩
   | exit i => exact ⟨.exit i, fr', H', by simp only [loopN, M.bind, h1, M.pure], h2⟩
   | ret => exact ⟨.ret, fr', H', by simp only [loopN, M.bind, h1, M.pure], h2⟩
 obtain ⟨x, fr', H', h1, h2⟩ := key lf k fr H hk h
 exact ⟨x, fr', H', h1, h2⟩
theorem Wp.mono {c : RCode} {Q' : RExit → AFrame → AHeap → Prop} (h : Wp call lf c fr H Q) (hq : ∀ x fr' H', Q x fr' H' → Q' x fr' H') : Wp call lf c fr H Q' := by
 obtain ⟨x, fr', H', h1, h2⟩ := h
 exact ⟨x, fr', H', h1, hq _ _ _ h2⟩
theorem WpX.enter {f : FuncId} {o : ROpd} {l : List ROpd} {K : AVal → AHeap → Prop} (hf : o.ev fr = .func (.func f) [] []) (h : ∃ v H', call f (l.map (·.ev fr)) H = some (v, H') ∧ K v H') : WpX (.call o l) call fr H K := by
 obtain ⟨v, H', h1, h2⟩ := h
 exact ⟨v, H', by simp only [ROp.exec, hf, aCallV, List.nil_append, List.append_nil]; exact h1, h2⟩
theorem WpX.now {op : ROp} {K : AVal → AHeap → Prop} {v : AVal} {H1 : AHeap} (hx : op.exec call fr H = some (v, H1)) (h : K v H1) : WpX op call fr H K := ⟨v, H1, hx, h⟩
end
theorem getp (H : AHeap) (o : AObj) (r : Nat) : (H.push o).get r = if r = H.n then o else H.get r := by
 by_cases h : r = H.n
 ·subst h; simp [push_get_eq]
 ·simp [AHeap.push, nbeq_ne h, h]
theorem gets (H : AHeap) (s : Nat) (o : AObj) (r : Nat) : (H.set s o).get r = if r = s then o else H.get r := by
 by_cases h : r = s
 ·subst h; simp [set_get_eq]
 ·simp [set_get_ne h, h]
theorem np (H : AHeap) (o : AObj) : (H.push o).n = H.n + 1 := rfl
theorem ns (H : AHeap) (s : Nat) (o : AObj) : (H.set s o).n = H.n := rfl
structure Ext (H H' : AHeap) : Prop where
 n : H.n ≤ H'.n
 get : ∀ r, r < H.n → H'.get r = H.get r
theorem Ext.refl (H : AHeap) : Ext H H := ⟨Nat.le_refl _, fun _ _ => rfl⟩
theorem Ext.trans {a b c : AHeap} (h : Ext a b) (k : Ext b c) : Ext a c := ⟨Nat.le_trans h.n k.n, fun r hr => by rw [k.get r (Nat.lt_of_lt_of_le hr h.n), h.get r hr]⟩
theorem Ext.push {a b : AHeap} (h : Ext a b) (o : AObj) : Ext a (b.push o) := ⟨Nat.le_succ_of_le h.n, fun r hr => by rw [push_get_lt (Nat.lt_of_lt_of_le hr h.n)]; exact h.get r hr⟩
theorem Ext.set {a b : AHeap} (h : Ext a b) {s : Nat} (hs : a.n ≤ s) (o : AObj) : Ext a (b.set s o) := ⟨h.n, fun r hr => by rw [set_get_ne (by omega)]; exact h.get r hr⟩
section
variable {call : ACall} {fr : AFrame} {H : AHeap} {K : AVal → AHeap → Prop} {KF : AFrame → AHeap → Prop}
theorem WpX.load1 {a : ROpd} {r off : Nat} {cs : List AVal} {rw : Bool} {e : TypeId} {v : AVal} (ha : a.ev fr = .ptr r off) (hr : r < H.n) (hg : H.get r = .row cs rw e) (hv : cs[off]? = some v) (h : K v H) : WpX (.load none a) call fr H K :=
 ⟨v, H, by simp only [ROp.exec, ha, aLoad, M.bind, aRow, if_pos hr, hg, hv, M.pure], h⟩
theorem WpX.loadN {a : ROpd} {n r off : Nat} {cs : List AVal} {rw : Bool} {e : TypeId} (ha : a.ev fr = .ptr r off) (hr : r < H.n) (hg : H.get r = .row cs rw e) (hv : off + n ≤ cs.length) (h : K (.agg ((cs.drop off).take n)) H) : WpX (.load (some n) a) call fr H K :=
 ⟨_, H, by simp only [ROp.exec, ha, aLoad, M.bind, aRow, if_pos hr, hg, if_pos hv, M.pure], h⟩
theorem WpX.store {a x : ROpd} {n r off : Nat} {cs : List AVal} {e : TypeId} {v : AVal} (ha : a.ev fr = .ptr r off) (hx : x.ev fr = v) (hn : v.cells.length = n) (hr : r < H.n) (hg : H.get r = .row cs true e) (hl : off + v.cells.length ≤ cs.length) (ho : v.cells.all AVal.one = true)
  (h : K aundef (H.set r (.row (setAt cs off v.cells) true e))) : WpX (.store n a x) call fr H K :=
 ⟨_, _, by simp only [ROp.exec, ha, hx, aStore, if_pos hn, M.bind, aWrite, if_pos hr, hg, Bool.true_and, decide_eq_true hl, ho, if_true, M.pure], h⟩
theorem WpX.box {e : TypeId} {x : ROpd} (h : K (.ptr H.n 0) (H.push (.row (x.ev fr).cells true (2 * e)))) : WpX (.box e x) call fr H K := ⟨_, _, rfl, h⟩
theorem WpX.new {e : TypeId} {cs : List AVal} (h : K (.ptr H.n 0) (H.push (.row cs true (2 * e)))) : WpX (.new e cs) call fr H K := ⟨_, _, rfl, h⟩
end
theorem upd_at (fr : AFrame) (d : Nat) (v : AVal) (i : Nat) : upd fr d v i = if i = d then v else fr i := by
 by_cases h : i = d
 ·subst h; simp [upd]
 ·simp [upd, nbeq_ne h, h]
section
variable {call : ACall} {fr : AFrame} {H : AHeap} {K : AVal → AHeap → Prop} {KF : AFrame → AHeap → Prop}
theorem WpO.do {d : Nat} {op : ROp} {os : List ROper} (hx : WpX op call fr H fun v H1 => WpO call os (upd fr d v) H1 KF) : WpO call (⟨some d, op, none⟩ :: os) fr H KF := WpO.step rfl hx
theorem WpO.do' {op : ROp} {os : List ROper} (hx : WpX op call fr H fun _ H1 => WpO call os fr H1 KF) : WpO call (⟨none, op, none⟩ :: os) fr H KF := WpO.step rfl hx
theorem wanted_some {fr : AFrame} {d : Option Nat} {op : ROp} {t : Nat} {want b : Bool} (hb : fr t = .bool b) : ROper.wanted fr ⟨d, op, some (t, want)⟩ = (b == want) := by
 simp only [ROper.wanted, hb]
 cases b <;> cases want <;> rfl
theorem WpO.guard {d : Option Nat} {op : ROp} {t : Nat} {want b : Bool} {os : List ROper} (hb : fr t = .bool b) (h1 : b = want → WpO call (⟨d, op, none⟩ :: os) fr H KF) (h2 : b ≠ want → WpO call os (put fr d aundef) H KF) : WpO call (⟨d, op, some (t, want)⟩ :: os) fr H KF := by
 by_cases h : b = want
 ·obtain ⟨fr', H', h3, h4⟩ := h1 h
  refine ⟨fr', H', ?_, h4⟩
  have hw1 : ROper.wanted fr ⟨d, op, some (t, want)⟩ = true := by rw [wanted_some hb, h]; simp
  simp only [execOps, hw1]
  simpa only [execOps, ROper.wanted] using h3
 ·exact WpO.skip (by rw [wanted_some hb]; simpa using h) (h2 h)
theorem WpX.mov {x : ROpd} (h : K (x.ev fr) H) : WpX (.mov x) call fr H K := ⟨_, _, rfl, h⟩
theorem WpX.geq {x y : ROpd} {k : IntKind} {a b : Int} (hx : x.ev fr = .int k a) (hy : y.ev fr = .int k b) (h : K (.bool (decide (a ≥ b))) H) : WpX (.bin .geq x y) call fr H K := ⟨_, _, by simp only [ROp.exec, hx, hy, aBin, intBin, ne_eq, not_true, if_false, M.ofOption, M.pure], h⟩
theorem WpX.leq {x y : ROpd} {k : IntKind} {a b : Int} (hx : x.ev fr = .int k a) (hy : y.ev fr = .int k b) (h : K (.bool (decide (a ≤ b))) H) : WpX (.bin .leq x y) call fr H K := ⟨_, _, by simp only [ROp.exec, hx, hy, aBin, intBin, ne_eq, not_true, if_false, M.ofOption, M.pure], h⟩
theorem WpX.lss {x y : ROpd} {k : IntKind} {a b : Int} (hx : x.ev fr = .int k a) (hy : y.ev fr = .int k b) (h : K (.bool (decide (a < b))) H) : WpX (.bin .lss x y) call fr H K := ⟨_, _, by simp only [ROp.exec, hx, hy, aBin, intBin, ne_eq, not_true, if_false, M.ofOption, M.pure], h⟩
theorem WpX.gtr {x y : ROpd} {k : IntKind} {a b : Int} (hx : x.ev fr = .int k a) (hy : y.ev fr = .int k b) (h : K (.bool (decide (a > b))) H) : WpX (.bin .gtr x y) call fr H K := ⟨_, _, by simp only [ROp.exec, hx, hy, aBin, intBin, ne_eq, not_true, if_false, M.ofOption, M.pure], h⟩
theorem WpX.eql {x y : ROpd} {k : IntKind} {a b : Int} (hx : x.ev fr = .int k a) (hy : y.ev fr = .int k b) (h : K (.bool (a == b)) H) : WpX (.bin .eql x y) call fr H K := ⟨_, _, by simp only [ROp.exec, hx, hy, aBin, intBin, ne_eq, not_true, if_false, M.ofOption, M.pure], h⟩
theorem WpX.neq {x y : ROpd} {k : IntKind} {a b : Int} (hx : x.ev fr = .int k a) (hy : y.ev fr = .int k b) (h : K (.bool (a != b)) H) : WpX (.bin .neq x y) call fr H K := ⟨_, _, by simp only [ROp.exec, hx, hy, aBin, intBin, ne_eq, not_true, if_false, M.ofOption, M.pure], h⟩
theorem WpX.add {x y : ROpd} {k : IntKind} {a b : Int} (hx : x.ev fr = .int k a) (hy : y.ev fr = .int k b) (h : K (.int k (k.wrap (a + b))) H) : WpX (.bin .add x y) call fr H K := ⟨_, _, by simp only [ROp.exec, hx, hy, aBin, intBin, ne_eq, not_true, if_false, M.ofOption, M.pure], h⟩
theorem WpX.sub {x y : ROpd} {k : IntKind} {a b : Int} (hx : x.ev fr = .int k a) (hy : y.ev fr = .int k b) (h : K (.int k (k.wrap (a - b))) H) : WpX (.bin .sub x y) call fr H K := ⟨_, _, by simp only [ROp.exec, hx, hy, aBin, intBin, ne_eq, not_true, if_false, M.ofOption, M.pure], h⟩
theorem WpX.mul {x y : ROpd} {k : IntKind} {a b : Int} (hx : x.ev fr = .int k a) (hy : y.ev fr = .int k b) (h : K (.int k (k.wrap (a * b))) H) : WpX (.bin .mul x y) call fr H K := ⟨_, _, by simp only [ROp.exec, hx, hy, aBin, intBin, ne_eq, not_true, if_false, M.ofOption, M.pure], h⟩
theorem WpX.not {x : ROpd} {b : Bool} (hx : x.ev fr = .bool b) (h : K (.bool (!b)) H) : WpX (.un .not x) call fr H K := ⟨_, _, by simp only [ROp.exec, hx, aUn, M.ofOption, M.pure], h⟩
theorem WpX.pick {c x y : ROpd} {b : Bool} (hc : c.ev fr = .bool b) (h : K (bif b then x.ev fr else y.ev fr) H) : WpX (.pick c x y) call fr H K := ⟨_, _, by simp only [ROp.exec, hc, M.pure]; cases b <;> rfl, h⟩
theorem WpX.fieldAddr {x : ROpd} {r o off : Nat} (hx : x.ev fr = .ptr r o) (h : K (.ptr r (o + off)) H) : WpX (.fieldAddr off x) call fr H K := ⟨_, _, by simp only [ROp.exec, hx, aFieldAddr, M.ofOption, M.pure], h⟩
theorem WpX.lenS {x : ROpd} {p v : AVal} (hx : x.ev fr = p) (hp : aLenS p = some v) (h : K v H) : WpX (.lenS x) call fr H K := ⟨_, _, by simp only [ROp.exec, hx, hp, M.ofOption, M.pure], h⟩
theorem WpX.convInt {x : ROpd} {k k' : IntKind} {n : Int} (hx : x.ev fr = .int k' n) (h : K (.int k (k.wrap n)) H) : WpX (.convInt k x) call fr H K := ⟨_, _, by simp only [ROp.exec, hx, M.pure], h⟩
theorem WpX.idxS {x i : ROpd} {sz r off len : Nat} {cap : Option Nat} {k : IntKind} {n : Int} (hx : x.ev fr = .slice r off len cap sz) (hi : i.ev fr = .int k n) (h0 : 0 ≤ n) (h1 : n < len) (h : K (.ptr r (off + n.toNat * sz)) H) : WpX (.idxS sz x i) call fr H K :=
 ⟨_, _, by simp only [ROp.exec, hx, hi, aIdxS, true_and, if_pos (And.intro h0 h1), M.ofOption, M.pure], h⟩
theorem WpX.extract {x : ROpd} {i : Nat} {vs : List AVal} {v : AVal} (hx : x.ev fr = .tuple vs) (hv : vs[i]? = some v) (h : K v H) : WpX (.extract x i) call fr H K := ⟨_, _, by simp only [ROp.exec, hx, aExtract, hv, M.ofOption, M.pure], h⟩
theorem WpX.build {z : List AVal} {ps : List (Nat × Nat × ROpd)} {cs : List AVal} (hf : aFill fr z ps = some cs) (h : K (.agg cs) H) : WpX (.build z ps) call fr H K := ⟨_, _, by simp only [ROp.exec, hf, M.pure], h⟩
end
class HasRow (H : AHeap) (r : Nat) (cs : outParam (List AVal)) (rw : outParam Bool) (e : outParam TypeId) : Prop where
 lt : r < H.n
 get : H.get r = .row cs rw e
class LtN (r : Nat) (H : AHeap) : Prop where
 lt : r < H.n
class NeR (r s : Nat) : Prop where
 ne : r ≠ s
class ExtI (H : outParam AHeap) (H' : AHeap) : Prop where
 ext : Ext H H'
class GeN (H : outParam AHeap) (r : Nat) : Prop where
 ge : H.n ≤ r
instance {H : AHeap} {r : Nat} {cs : List AVal} {rw : Bool} {e : TypeId} [h : HasRow H r cs rw e] : LtN r H := ⟨h.lt⟩
instance {H : AHeap} {r : Nat} [h : LtN r H] : NeR r H.n := ⟨Nat.ne_of_lt h.lt⟩
instance {H : AHeap} {r : Nat} [h : LtN r H] : NeR H.n r := ⟨fun e => Nat.ne_of_lt h.lt e.symm⟩
instance {H : AHeap} {r s : Nat} [h : LtN r H] [k : GeN H s] : NeR r s := ⟨Nat.ne_of_lt (Nat.lt_of_lt_of_le h.lt k.ge)⟩
instance {H : AHeap} {r s : Nat} [h : LtN r H] [k : GeN H s] : NeR s r := ⟨fun e => Nat.ne_of_lt (Nat.lt_of_lt_of_le h.lt k.ge) e.symm⟩
instance {H H' : AHeap} {r : Nat} {cs : List AVal} {rw : Bool} {e : TypeId} [x : ExtI H H'] [h : HasRow H r cs rw e] : HasRow H' r cs rw e := ⟨Nat.lt_of_lt_of_le h.lt x.ext.n, by rw [x.ext.get r h.lt]; exact h.get⟩
instance {H : AHeap} {o : AObj} {r : Nat} {cs : List AVal} {rw : Bool} {e : TypeId} [h : HasRow H r cs rw e] : HasRow (H.push o) r cs rw e := ⟨Nat.lt_succ_of_lt h.lt, by rw [push_get_lt h.lt]; exact h.get⟩
instance {H : AHeap} {cs : List AVal} {rw : Bool} {e : TypeId} : HasRow (H.push (.row cs rw e)) H.n cs rw e := ⟨Nat.lt_succ_self _, push_get_eq⟩
instance {H : AHeap} {s : Nat} {o : AObj} {r : Nat} {cs : List AVal} {rw : Bool} {e : TypeId} [h : HasRow H r cs rw e] [k : NeR r s] : HasRow (H.set s o) r cs rw e := ⟨h.lt, by rw [set_get_ne k.ne]; exact h.get⟩
instance {H : AHeap} {r : Nat} {cs cs0 : List AVal} {rw rw0 : Bool} {e e0 : TypeId} [h : HasRow H r cs0 rw0 e0] : HasRow (H.set r (.row cs rw e)) r cs rw e := ⟨h.lt, set_get_eq⟩
section
variable {call : ACall} {fr : AFrame} {H : AHeap} {K : AVal → AHeap → Prop} {KF : AFrame → AHeap → Prop}
theorem WpX.ld {a : ROpd} {r off : Nat} {cs : List AVal} {rw : Bool} {e : TypeId} {v : AVal} (ha : a.ev fr = .ptr r off) [hg : HasRow H r cs rw e] (hv : cs[off]? = some v) (h : K v H) : WpX (.load none a) call fr H K := WpX.load1 ha hg.lt hg.get hv h
theorem WpX.ldN {a : ROpd} {n r off : Nat} {cs : List AVal} {rw : Bool} {e : TypeId} {l : List AVal} (ha : a.ev fr = .ptr r off) [hg : HasRow H r cs rw e] (hv : Nat.ble (off + n) cs.length = true) (hl : (cs.drop off).take n = l) (h : K (.agg l) H) : WpX (.load (some n) a) call fr H K :=
 WpX.loadN ha hg.lt hg.get (Nat.le_of_ble_eq_true hv) (by rw [hl]; exact h)
theorem WpX.st {a x : ROpd} {n r off : Nat} {cs : List AVal} {e : TypeId} {v : AVal} {vs l : List AVal} (ha : a.ev fr = .ptr r off) (hx : x.ev fr = v) (hvs : v.cells = vs) (hn : Nat.beq vs.length n = true) [hg : HasRow H r cs true e] (hl : Nat.ble (off + vs.length) cs.length = true) (ho : vs.all AVal.one = true)
  (hs : setAt cs off vs = l) (h : K aundef (H.set r (.row l true e))) : WpX (.store n a x) call fr H K := by
 subst hvs hs
 exact WpX.store ha hx (Nat.eq_of_beq_eq_true hn) hg.lt hg.get (Nat.le_of_ble_eq_true hl) ho h
end
def fuel0 : Nat := 1125899906842624
def Con (ext : Exts) (prog : FuncId → Option RFunc) (d : Nat) (f : FuncId) (args : List AVal) (H : AHeap) (Q : AVal → AHeap → Prop) : Prop :=
 ∀ n, fuel0 + d ≤ n → ∃ v H', callN ext prog n f args H = some (v, H') ∧ Q v H'
theorem Con.evs {ext : Exts} {prog : FuncId → Option RFunc} {d : Nat} {f : FuncId} {args : List AVal} {H : AHeap} {Q : AVal → AHeap → Prop} (h : Con ext prog d f args H Q) : Evs ext prog f args H Q := ⟨fuel0 + d, h⟩
theorem Con.mono {ext : Exts} {prog : FuncId → Option RFunc} {d : Nat} {f : FuncId} {args : List AVal} {H : AHeap} {Q Q' : AVal → AHeap → Prop} (h : Con ext prog d f args H Q) (hq : ∀ v H', Q v H' → Q' v H') : Con ext prog d f args H Q' := fun n hn => by
 obtain ⟨v, H', h1, h2⟩ := h n hn
 exact ⟨v, H', h1, hq _ _ h2⟩
theorem con_of {ext : Exts} {prog : FuncId → Option RFunc} {d : Nat} {f : FuncId} {rf : RFunc} {c : RCode} {args : List AVal} {H : AHeap} {Q : AVal → AHeap → Prop} (hp : prog f = some rf) (hc : rf.body = .code c) (hn : Nat.ble args.length rf.nt = true)
  (h : ∀ n, fuel0 + d ≤ n → Wp (callN ext prog n) n c (argFrame args) H fun x fr' H' => (match x with | .exit _ => False | _ => True) ∧ ∃ vs, getAll fr' rf.results H' = some (vs, H') ∧ Q (aResult vs) H') : Con ext prog (d + 1) f args H Q := by
 intro n hle
 obtain ⟨k, rfl⟩ : ∃ k, n = k + 1 := ⟨n - 1, by unfold fuel0 at hle; omega⟩
 obtain ⟨nt, body, res⟩ := rf
 simp only [] at hc
 subst hc
 obtain ⟨x, fr', H', h1, h2, vs, h3, h4⟩ := h k (by omega)
 refine ⟨aResult vs, H', ?_, h4⟩
 have hlt : ¬ nt < args.length := by have := Nat.le_of_ble_eq_true hn; simp only at this; omega
 simp only [callN, hp, RFunc.run, if_neg hlt, M.bind, h1]
 cases x with
 | exit i => exact h2.elim
 | normal => simp only [M.bind, h3, M.pure]
 | ret => simp only [M.bind, h3, M.pure]
theorem WpX.con {ext : Exts} {prog : FuncId → Option RFunc} {n d : Nat} {f : FuncId} {o : ROpd} {l : List ROpd} {args : List AVal} {fr : AFrame} {H : AHeap} {K Q : AVal → AHeap → Prop} (hc : Con ext prog d f args H Q) (hd : fuel0 + d ≤ n) (hf : o.ev fr = .func (.func f) [] []) (hl : l.map (·.ev fr) = args)
  (h : ∀ v H', Q v H' → K v H') : WpX (.call o l) (callN ext prog n) fr H K := by
 obtain ⟨v, H', h1, h2⟩ := hc n hd
 exact WpX.enter hf ⟨v, H', by rw [hl]; exact h1, h _ _ h2⟩
mutual
theorem abeq_refl : ∀ (v : AVal), abeq v v = true
 | .bool b => by simp [abeq]
 | .int k n => by simp [abeq]
 | .str s => by simp [abeq]
 | .nptr => by simp [abeq]
 | .ptr r o => by simp [abeq]
 | .nslice => by simp [abeq]
 | .slice r o l c z => by simp [abeq]
 | .nfunc => by simp [abeq]
 | .func f a b => by simp [abeq, abeqL_refl a, abeqL_refl b]
 | .niface => by simp [abeq]
 | .iface t v => by simp [abeq, abeq_refl v]
 | .agg l => by simp [abeq, abeqL_refl l]
 | .tuple l => by simp [abeq, abeqL_refl l]
 | .yield r => by simp [abeq]
 | .eslice r o l z => by simp [abeq]
theorem abeqL_refl : ∀ (l : List AVal), abeqL l l = true
 | [] => by simp [abeqL]
 | v :: l => by simp [abeqL, abeq_refl v, abeqL_refl l]
end
theorem okAt_look {r : DRec} {H : AHeap} (hc : Nat.beq r.cls 3 = false) (hx : r.o.op.look r.fr H = some r.v) : r.okAt H = true := by
 simp only [DRec.okAt, hc, hx, abeq_refl]
theorem okAt_read {r : DRec} {H : AHeap} (hc : Nat.beq r.cls 3 = false) (hx : r.o.op.exec noCall r.fr H = some (r.v, H)) : r.okAt H = true := okAt_look hc (look_of hx rfl)
def Good (r : DRec) (k : Nat) (R0 : List DRec) (H0 cur : AHeap) (may : Bool) : Prop := ∀ rest, r.chk k rest R0.length cur may = true → r.chk k (R0 ++ rest) 0 H0 true = true
theorem Good.nil {r : DRec} {k : Nat} {H0 : AHeap} : Good r k [] H0 H0 true := fun _ h => h
theorem Good.other {r : DRec} {k : Nat} {R0 : List DRec} {H0 cur : AHeap} {may : Bool} {e : DRec} (h : Good r k R0 H0 cur may) (he : e.eff = false) : Good r k (R0 ++ [e]) H0 cur may := fun rest hr => by
 rw [List.append_assoc]
 refine h _ ?_
 simp only [List.singleton_append, DRec.chk, he]
 simpa using hr
theorem Good.effect {r : DRec} {k : Nat} {R0 : List DRec} {H0 cur : AHeap} {may : Bool} {e : DRec} (h : Good r k R0 H0 cur may) (he : e.eff = true) (hok : may = false ∨ r.b.testBit R0.length = true ∨ r.okAt cur = true) : Good r k (R0 ++ [e]) H0 e.hp (!(e.b.testBit k)) := fun rest hr => by
 rw [List.append_assoc]
 refine h _ ?_
 simp only [List.singleton_append, DRec.chk, he, Bool.and_eq_true, Bool.or_eq_true, Bool.not_eq_true']
 refine ⟨?_, by simpa using hr⟩
 rcases hok with h | h | h
 ·exact Or.inl (Or.inl h)
 ·exact Or.inl (Or.inr h)
 ·exact Or.inr h
structure DInv (R0 : List DRec) (H0 H : AHeap) (E : List (Nat × AHeap)) (Rd : List (Nat × DRec)) : Prop where
 good : ∀ r k, (∀ p ∈ E, r.b.testBit p.1 = true ∨ r.okAt p.2 = true) → ∃ m, Good r k R0 H0 H m
 reads : ∀ j r, R0[j]? = some r → r.want = true → (Nat.beq r.cls 1 || Nat.beq r.cls 3) = true → (j, r) ∈ Rd
 ok : ∀ p ∈ Rd, ∃ m, Good p.2 p.1 R0 H0 H m ∧ (m = true → p.2.okAt H = true)
theorem DInv.nil (H0 : AHeap) : DInv [] H0 H0 [] [] := ⟨fun _ _ _ => ⟨true, Good.nil⟩, fun j r h => by simp at h, fun p hp => by simp at hp⟩
theorem DInv.done {R0 : List DRec} {H0 H : AHeap} {E : List (Nat × AHeap)} {Rd : List (Nat × DRec)} (h : DInv R0 H0 H E Rd) : dcheck R0 H0 R0 0 = true := by
 have key : ∀ (rs : List DRec) (k : Nat), (∀ j r, rs[j]? = some r → R0[k + j]? = some r) → dcheck R0 H0 rs k = true := by
  intro rs
  induction rs with
  | nil => intro k _; rfl
  | cons r rs ih =>
   intro k hk
   simp only [dcheck, Bool.and_eq_true]
   refine ⟨?_, ih (k + 1) fun j q hq => by have := hk (j + 1) q (by simpa using hq); rwa [show k + 1 + j = k + (j + 1) by omega]⟩
   cases hc : (r.want && (Nat.beq r.cls 1 || Nat.beq r.cls 3)) with
   | false => rfl
   | true =>
    simp only [Bool.and_eq_true] at hc
    have hr : R0[k]? = some r := by simpa using hk 0 r rfl
    obtain ⟨m, h1, h2⟩ := h.ok _ (h.reads k r hr hc.1 hc.2)
    have h3 := h1 [] (by simp only [DRec.chk, Bool.or_eq_true, Bool.not_eq_true']; cases m <;> simp_all)
    simpa using h3
 exact key R0 0 fun j r hj => by simpa using hj
theorem get_snoc {R0 : List DRec} {e r : DRec} {j : Nat} (h : (R0 ++ [e])[j]? = some r) : R0[j]? = some r ∨ (j = R0.length ∧ r = e) := by
 by_cases hj : j < R0.length
 ·rw [List.getElem?_append_left hj] at h; exact Or.inl h
 ·rw [List.getElem?_append_right (by omega)] at h
  cases hq : j - R0.length with
  | zero => rw [hq] at h; simp at h; exact Or.inr ⟨by omega, h.symm⟩
  | succ q => rw [hq] at h; simp at h
theorem DInv.plain {R0 : List DRec} {H0 H : AHeap} {E : List (Nat × AHeap)} {Rd : List (Nat × DRec)} {e : DRec} (h : DInv R0 H0 H E Rd) (he : e.eff = false) (hn : (e.want && (Nat.beq e.cls 1 || Nat.beq e.cls 3)) = false) : DInv (R0 ++ [e]) H0 H E Rd := by
 refine ⟨fun r k hr => by obtain ⟨m, hm⟩ := h.good r k hr; exact ⟨m, hm.other he⟩, fun j r hj hw hc => ?_, fun p hp => by obtain ⟨m, h1, h2⟩ := h.ok p hp; exact ⟨m, h1.other he, h2⟩⟩
 rcases get_snoc hj with h1 | ⟨_, rfl⟩
 ·exact h.reads j r h1 hw hc
 ·rw [hw, hc] at hn; cases hn
theorem DInv.read {R0 : List DRec} {H0 H : AHeap} {E : List (Nat × AHeap)} {Rd : List (Nat × DRec)} {e : DRec} (h : DInv R0 H0 H E Rd) (he : e.eff = false) (hok : e.okAt H = true) (hE : ∀ p ∈ E, e.b.testBit p.1 = true ∨ e.okAt p.2 = true) : DInv (R0 ++ [e]) H0 H E (Rd ++ [(R0.length, e)]) := by
 refine ⟨fun r k hr => by obtain ⟨m, hm⟩ := h.good r k hr; exact ⟨m, hm.other he⟩, fun j r hj hw hc => ?_, fun p hp => ?_⟩
 ·rcases get_snoc hj with h1 | ⟨rfl, rfl⟩
  ·exact List.mem_append_left _ (h.reads j r h1 hw hc)
  ·simp
 ·rcases List.mem_append.1 hp with hp | hp
  ·obtain ⟨m, h1, h2⟩ := h.ok p hp; exact ⟨m, h1.other he, h2⟩
  ·simp only [List.mem_singleton] at hp; subst hp
   obtain ⟨m, hm⟩ := h.good e R0.length hE
   exact ⟨m, hm.other he, fun _ => hok⟩
theorem DInv.effect {R0 : List DRec} {H0 H : AHeap} {E : List (Nat × AHeap)} {Rd : List (Nat × DRec)} {e : DRec} (h : DInv R0 H0 H E Rd) (he : e.eff = true) (hn : (Nat.beq e.cls 1 || Nat.beq e.cls 3) = false)
  (hR : ∀ p ∈ Rd, e.b.testBit p.1 = true ∨ p.2.okAt e.hp = true) : DInv (R0 ++ [e]) H0 e.hp (E ++ [(R0.length, H)]) Rd := by
 refine ⟨fun r k hr => ?_, fun j r hj hw hc => ?_, fun p hp => ?_⟩
 ·obtain ⟨m, hm⟩ := h.good r k fun p hp => hr p (List.mem_append_left _ hp)
  exact ⟨_, hm.effect he (Or.inr (hr (R0.length, H) (by simp)))⟩
 ·rcases get_snoc hj with h1 | ⟨_, rfl⟩
  ·exact h.reads j r h1 hw hc
  ·rw [hc] at hn; cases hn
 ·obtain ⟨m, h1, h2⟩ := h.ok p hp
  refine ⟨_, h1.effect he (by cases m with | false => exact Or.inl rfl | true => exact Or.inr (Or.inr (h2 rfl))), fun hm => ?_⟩
  rcases hR p hp with h3 | h3
  ·rw [h3] at hm; cases hm
  ·exact h3
def readOk (op : ROp) (fr : AFrame) (v : AVal) (H : AHeap) : Bool := match op.look fr H with
 | some v' => abeq v' v
 | none => false
theorem readOk_eq {r : DRec} (hc : Nat.beq r.cls 3 = false) : r.okAt = readOk r.o.op r.fr r.v := by
 funext H
 unfold DRec.okAt readOk
 rw [hc]
 rfl
theorem readOk_look {op : ROp} {fr : AFrame} {v : AVal} {H : AHeap} (h : op.look fr H = some v) : readOk op fr v H = true := by
 unfold readOk
 rw [h]
 simp [abeq_refl]
theorem readOk_of {op : ROp} {fr : AFrame} {v : AVal} {H : AHeap} (h : op.exec noCall fr H = some (v, H)) : readOk op fr v H = true := readOk_look (look_of h rfl)
def WpD (call : ACall) (n : Nat) (its : List DItem) (H0 : AHeap) (E : List (Nat × AHeap)) (Rd : List (Nat × (AHeap → Bool))) (fr : AFrame) (H : AHeap) (K : AFrame → AHeap → Prop) : Prop :=
 ∀ R0 Rd0 ref, R0.length = n → (Rd0.map fun (p : Nat × DRec) => (p.1, p.2.okAt)) = Rd → DInv R0 H0 H E Rd0 → ∃ R1 fr' H', dtext call its ref fr H = some (R1, fr', H') ∧ dcheck (R0 ++ R1) H0 (R0 ++ R1) 0 = true ∧ K fr' H'
section
variable {call : ACall} {lf n : Nat} {its : List DItem} {H0 H H1 : AHeap} {E : List (Nat × AHeap)} {Rd : List (Nat × (AHeap → Bool))} {fr : AFrame} {K : AFrame → AHeap → Prop} {Q : RExit → AFrame → AHeap → Prop} {op : ROp} {v : AVal} {b : Nat} {pre : Bool}
theorem WpD.nil (h : K fr H) : WpD call n [] H0 E Rd fr H K := fun R0 Rd0 ref _ _ hI => ⟨[], fr, H, rfl, by rw [List.append_nil]; exact hI.done, h⟩
theorem WpD.next {it : DItem} {R0 : List DRec} {ref : Nat} {r : DRec} {E' : List (Nat × AHeap)} {Rd' : List (Nat × (AHeap → Bool))} {Rd0' : List (Nat × DRec)} {fr1 : AFrame} (hn : R0.length = n) (hrd : (Rd0'.map fun (p : Nat × DRec) => (p.1, p.2.okAt)) = Rd')
  (hI : DInv (R0 ++ [r]) H0 H1 E' Rd0') (hd : ∀ R1 fr' H', dtext call its (nextRef it.cls ref) fr1 H1 = some (R1, fr', H') → dtext call (it :: its) ref fr H = some (r :: R1, fr', H')) (h : WpD call (n + 1) its H0 E' Rd' fr1 H1 K) :
  ∃ R1 fr' H', dtext call (it :: its) ref fr H = some (R1, fr', H') ∧ dcheck (R0 ++ R1) H0 (R0 ++ R1) 0 = true ∧ K fr' H' := by
 obtain ⟨R1, fr', H', h1, h2, h3⟩ := h (R0 ++ [r]) Rd0' (nextRef it.cls ref) (by simp [hn]) hrd hI
 exact ⟨r :: R1, fr', H', hd _ _ _ h1, by rw [List.append_assoc] at h2; exact h2, h3⟩
theorem WpD.pure {d : Option Nat} (hx : op.exec noCall fr H = some (v, H)) (h : WpD call (n + 1) its H0 E Rd (put fr d v) H K) : WpD call n (⟨⟨d, op, none⟩, b, 0, pre⟩ :: its) H0 E Rd fr H K := fun R0 Rd0 ref hn hrd hI =>
 WpD.next (r := ⟨⟨d, op, none⟩, b, 0, fr, v, true, false, H, ref⟩) hn hrd (hI.plain rfl rfl) (fun R1 fr' H' hd => by
  simp only [dtext, ROper.wanted, dstep, look_of hx rfl]
  simp only [Nat.beq, nextRef] at hd ⊢
  simp [hd]) h
theorem WpD.read {d : Option Nat} (hx : op.exec noCall fr H = some (v, H)) (hE : ∀ p ∈ E, b.testBit p.1 = true ∨ op.exec noCall fr p.2 = some (v, p.2)) (h : WpD call (n + 1) its H0 E (Rd ++ [(n, readOk op fr v)]) (put fr d v) H K) : WpD call n (⟨⟨d, op, none⟩, b, 1, pre⟩ :: its) H0 E Rd fr H K := fun R0 Rd0 ref hn hrd hI =>
 WpD.next (r := ⟨⟨d, op, none⟩, b, 1, fr, v, true, false, H, ref⟩) (Rd0' := Rd0 ++ [(R0.length, ⟨⟨d, op, none⟩, b, 1, fr, v, true, false, H, ref⟩)]) hn (by
   rw [List.map_append, hrd]
   simp only [List.map_cons, List.map_nil, hn]
   rw [readOk_eq rfl])
  (hI.read rfl (okAt_read rfl hx) (fun p hp => (hE p hp).imp id fun q => okAt_read rfl q)) (fun R1 fr' H' hd => by
  simp only [dtext, ROper.wanted, dstep, look_of hx rfl]
  simp only [Nat.beq, nextRef] at hd ⊢
  simp [hd]) h
theorem WpD.effect {d : Option Nat} (hx : op.exec call fr H = some (v, H1)) (hR : ∀ p ∈ Rd, b.testBit p.1 = true ∨ p.2 H1 = true) (h : WpD call (n + 1) its H0 (E ++ [(n, H)]) Rd (put fr d v) H1 K) : WpD call n (⟨⟨d, op, none⟩, b, 2, pre⟩ :: its) H0 E Rd fr H K := fun R0 Rd0 ref hn hrd hI =>
 WpD.next (r := ⟨⟨d, op, none⟩, b, 2, fr, v, true, true, H1, ref⟩) (E' := E ++ [(n, H)]) hn hrd (by
   have := hI.effect (e := ⟨⟨d, op, none⟩, b, 2, fr, v, true, true, H1, ref⟩) rfl rfl fun p hp => hR (p.1, p.2.okAt) (by rw [← hrd]; exact List.mem_map.2 ⟨p, hp, rfl⟩)
   rw [hn] at this; exact this) (fun R1 fr' H' hd => by
  simp only [dtext, ROper.wanted, dstep, hx]
  simp only [Nat.beq, nextRef] at hd ⊢
  simp [hd]) h
theorem oracle_none : ∀ (its : List DItem) (ref : Nat) (fr : AFrame) (H : AHeap), (its.all fun it => !(Nat.beq it.cls 3)) = true → oracle its ref fr H = [] := fun its ref fr H h => by
 have hc : cnt3 its = 0 := by
  induction its with
  | nil => rfl
  | cons it its ih =>
   simp only [List.all_cons, Bool.and_eq_true, Bool.not_eq_true'] at h
   simp only [cnt3, h.1, ih h.2]
 exact List.eq_nil_of_length_eq_zero (by rw [oracle_length, hc])
theorem Wp.dregion (hno : (its.all fun it => !(Nat.beq it.cls 3)) = true) (h : WpD call 0 its H [] [] fr H fun fr' H' => Q .normal fr' H') : Wp call lf (.dregion its) fr H Q := by
 obtain ⟨R1, fr', H', h1, h2, h3⟩ := h [] [] H.n rfl rfl (DInv.nil H)
 refine ⟨.normal, fr', H', ?_, h3⟩
 simp only [RCode.exec, oracle_none its H.n fr H hno, pushAll, h1]
 simp only [List.nil_append] at h2
 rw [h2]
end
def cellsB (l : List UInt8) : List AVal := l.map fun b => .int .u8 b.toNat
inductive BytesAt (H : AHeap) : AVal → List UInt8 → Prop
 | nil : BytesAt H .nslice []
 | slice {r off : Nat} {cap : Option Nat} {cs : List AVal} {rw : Bool} {e : TypeId} {l : List UInt8} (hr : r < H.n) (hg : H.get r = .row cs rw e) (hl : off + l.length ≤ cs.length) (hc : (cs.drop off).take l.length = cellsB l) : BytesAt H (.slice r off l.length cap 1) l
theorem BytesAt.ext {H H' : AHeap} {p : AVal} {l : List UInt8} (h : BytesAt H p l) (x : Ext H H') : BytesAt H' p l := by
 cases h with
 | nil => exact .nil
 | slice hr hg hl hc => exact .slice (Nat.lt_of_lt_of_le hr x.n) (by rw [x.get _ hr]; exact hg) hl hc
theorem BytesAt.len {H : AHeap} {p : AVal} {l : List UInt8} (h : BytesAt H p l) : aLenS p = some (.int .i64 l.length) := by
 cases h <;> rfl
theorem cellsB_one (l : List UInt8) : (cellsB l).all AVal.one = true := by simp [cellsB, AVal.one]
theorem cellsB_length (l : List UInt8) : (cellsB l).length = l.length := by simp [cellsB]
def NewS (H : AHeap) (q : AVal) : Prop := ∀ r off len cap sz, q = .slice r off len cap sz → H.n ≤ r
theorem NewS.mono {H H' : AHeap} {q : AVal} (h : NewS H' q) (hn : H.n ≤ H'.n) : NewS H q := fun r off len cap sz e => Nat.le_trans hn (h r off len cap sz e)
theorem BytesAt.set {H : AHeap} {q : AVal} {l : List UInt8} (h : BytesAt H q l) {s : Nat} (hs : ∀ r off len cap sz, q = .slice r off len cap sz → r ≠ s) (o : AObj) : BytesAt (H.set s o) q l := by
 cases h with
 | nil => exact .nil
 | slice hr hg hl hc => exact .slice hr (by rw [set_get_ne (hs _ _ _ _ _ rfl)]; exact hg) hl hc
theorem exec_ld {call : ACall} {fr : AFrame} {H : AHeap} {a : ROpd} {r off : Nat} {cs : List AVal} {rw : Bool} {e : TypeId} {v : AVal} (ha : a.ev fr = .ptr r off) [hg : HasRow H r cs rw e] (hv : cs[off]? = some v) : (ROp.load none a).exec call fr H = some (v, H) := by
 simp only [ROp.exec, ha, aLoad, M.bind, aRow, if_pos hg.lt, hg.get, hv, M.pure]
theorem exec_st {call : ACall} {fr : AFrame} {H : AHeap} {a x : ROpd} {n r off : Nat} {cs : List AVal} {e : TypeId} {v : AVal} {vs l : List AVal} (ha : a.ev fr = .ptr r off) (hx : x.ev fr = v) (hvs : v.cells = vs) (hn : Nat.beq vs.length n = true) [hg : HasRow H r cs true e] (hl : Nat.ble (off + vs.length) cs.length = true) (ho : vs.all AVal.one = true)
  (hs : setAt cs off vs = l) : (ROp.store n a x).exec call fr H = some (aundef, H.set r (.row l true e)) := by
 subst hvs hs
 simp only [ROp.exec, ha, hx, aStore, if_pos (Nat.eq_of_beq_eq_true hn), M.bind, aWrite, if_pos hg.lt, hg.get, Bool.true_and, decide_eq_true (Nat.le_of_ble_eq_true hl), ho, if_true, M.pure]
theorem exec_con {ext : Exts} {prog : FuncId → Option RFunc} {n d : Nat} {f : FuncId} {o : ROpd} {l : List ROpd} {args : List AVal} {fr : AFrame} {H : AHeap} {Q : AVal → AHeap → Prop} (hc : Con ext prog d f args H Q) (hd : fuel0 + d ≤ n) (hf : o.ev fr = .func (.func f) [] []) (hl : l.map (·.ev fr) = args) :
  ∃ v H', (ROp.call o l).exec (callN ext prog n) fr H = some (v, H') ∧ Q v H' := by
 obtain ⟨v, H', h1, h2⟩ := hc n hd
 exact ⟨v, H', by simp only [ROp.exec, hf, hl, aCallV, List.nil_append, List.append_nil]; exact h1, h2⟩
def memN (d : Nat) : List Nat → Bool
 | [] => false
 | x :: xs => cond (Nat.beq d x) true (memN d xs)
def dstIn (D : List Nat) : Option Nat → Bool
 | some d => memN d D
 | none => true
def opsIn (D : List Nat) : List ROper → Bool
 | [] => true
 | o :: os => cond (dstIn D o.dst) (opsIn D os) false
def itsIn (D : List Nat) : List DItem → Bool
 | [] => true
 | o :: os => cond (dstIn D o.o.dst) (itsIn D os) false
def RCode.within (D : List Nat) : RCode → Bool
 | .region ops => opsIn D ops
 | .dregion its => itsIn D its
 | .seq a b => _root_.cond (a.within D) (b.within D) false
 | .cond _ t e => _root_.cond (t.within D) (e.within D) false
 | .block _ b => b.within D
 | .loop b => b.within D
 | .scope b => b.within D
 | .rangeFunc .. => false
 | _ => true
theorem cond_tt {a b : Bool} (h : cond a b false = true) : a = true ∧ b = true := by cases a <;> simp_all
theorem put_off {D : List Nat} {d : Option Nat} (h : dstIn D d = true) {t : Nat} (ht : memN t D = false) (fr : AFrame) (v : AVal) : put fr d v t = fr t := by
 cases d with
 | none => rfl
 | some d =>
  have hne : Nat.beq t d = false := by
   cases hb : Nat.beq t d with
   | false => rfl
   | true => rw [Nat.eq_of_beq_eq_true hb] at ht; simp only [dstIn] at h; rw [h] at ht; cases ht
  simp only [put, upd, hne, cond_false]
theorem execOps_off {call : ACall} {D : List Nat} : ∀ {ops : List ROper} {fr fr' : AFrame} {H H' : AHeap}, opsIn D ops = true → execOps call ops fr H = some (fr', H') → ∀ t, memN t D = false → fr' t = fr t := by
 intro ops
 induction ops with
 | nil => intro fr fr' H H' _ h t _; cases h; rfl
 | cons o os ih =>
  intro fr fr' H H' hD h t ht
  obtain ⟨hd, hos⟩ := cond_tt hD
  simp only [execOps] at h
  cases hw : o.wanted fr with
  | true =>
   rw [hw] at h
   obtain ⟨v, H1, h1, h2⟩ := bind_some h
   rw [ih hos h2 t ht, put_off hd ht]
  | false =>
   rw [hw] at h
   rw [ih hos h t ht, put_off hd ht]
theorem dtext_off {call : ACall} {D : List Nat} : ∀ {its : List DItem} {ref : Nat} {fr fr' : AFrame} {H H' : AHeap} {R : List DRec}, itsIn D its = true → dtext call its ref fr H = some (R, fr', H') → ∀ t, memN t D = false → fr' t = fr t := by
 intro its
 induction its with
 | nil => intro ref fr fr' H H' R _ h t _; cases h; rfl
 | cons o os ih =>
  intro ref fr fr' H H' R hD h t ht
  obtain ⟨hd, hos⟩ := cond_tt hD
  simp only [dtext] at h
  cases hw : o.o.wanted fr with
  | true =>
   rw [hw] at h
   simp only [] at h
   cases hs : dstep call o ref fr H with
   | none => rw [hs] at h; cases h
   | some p =>
    obtain ⟨v, eff, H1⟩ := p
    rw [hs] at h
    simp only [] at h
    cases hr : dtext call os (nextRef o.cls ref) (put fr o.o.dst v) H1 with
    | none => rw [hr] at h; cases h
    | some q =>
     obtain ⟨R1, f1, H2⟩ := q
     rw [hr] at h
     cases h
     rw [ih hos hr t ht, put_off hd ht]
  | false =>
   rw [hw] at h
   simp only [] at h
   cases hr : dtext call os (nextRef o.cls ref) (put fr o.o.dst aundef) H with
   | none => rw [hr] at h; cases h
   | some q =>
    obtain ⟨R1, f1, H2⟩ := q
    rw [hr] at h
    cases h
    rw [ih hos hr t ht, put_off hd ht]
theorem exec_off {call : ACall} {lf : Nat} {D : List Nat} : ∀ {c : RCode} {fr fr' : AFrame} {H H' : AHeap} {x : RExit}, c.within D = true → c.exec call lf fr H = some ((x, fr'), H') → ∀ t, memN t D = false → fr' t = fr t := by
 intro c
 induction c with
 | skip => intro fr fr' H H' x _ h t _; cases h; rfl
 | label => intro fr fr' H H' x _ h t _; cases h; rfl
 | exit id => intro fr fr' H H' x _ h t _; cases h; rfl
 | ret => intro fr fr' H H' x _ h t _; cases h; rfl
 | fail => intro fr fr' H H' x _ h t _; cases h
 | region ops =>
  intro fr fr' H H' x hD h t ht
  obtain ⟨f1, H1, h1, h2⟩ := bind_some h
  cases h2
  exact execOps_off hD h1 t ht
 | dregion its =>
  intro fr fr' H H' x hD h t ht
  simp only [RCode.exec] at h
  split at h
  ·rename_i R f1 H1 hd
   split at h
   ·cases h; exact dtext_off hD hd t ht
   ·cases h
  ·cases h
 | seq a b iha ihb =>
  intro fr fr' H H' x hD h t ht
  obtain ⟨hda, hdb⟩ := cond_tt hD
  obtain ⟨⟨y, f1⟩, H1, h1, h2⟩ := bind_some h
  cases y with
  | normal => rw [ihb hdb h2 t ht, iha hda h1 t ht]
  | exit id => cases h2; exact iha hda h1 t ht
  | ret => cases h2; exact iha hda h1 t ht
 | cond c a b iha ihb =>
  intro fr fr' H H' x hD h t ht
  obtain ⟨hda, hdb⟩ := cond_tt hD
  simp only [RCode.exec] at h
  cases hc : c.ev fr with
  | bool b0 =>
   rw [hc] at h
   cases b0 with
   | true => exact iha hda h t ht
   | false => exact ihb hdb h t ht
  | _ => rw [hc] at h; cases h
 | block id b ih =>
  intro fr fr' H H' x hD h t ht
  obtain ⟨⟨y, f1⟩, H1, h1, h2⟩ := bind_some h
  cases y with
  | normal => cases h2; exact ih hD h1 t ht
  | ret => cases h2; exact ih hD h1 t ht
  | exit i =>
   simp only [] at h2
   cases hb : Nat.beq i id with
   | true => rw [hb] at h2; cases h2; exact ih hD h1 t ht
   | false => rw [hb] at h2; cases h2; exact ih hD h1 t ht
 | scope b ih => intro fr fr' H H' x hD h t ht; exact ih hD h t ht
 | rangeFunc fns nt g ps a b _ _ => intro fr fr' H H' x hD; cases hD
 | loop b ih =>
  intro fr fr' H H' x hD h t ht
  have key : ∀ (n : Nat) (fr fr' : AFrame) (H H' : AHeap) (x : RExit), loopN (b.exec call lf) n fr H = some ((x, fr'), H') → fr' t = fr t := by
   intro n
   induction n with
   | zero => intro fr fr' H H' x h; cases h
   | succ n ihn =>
    intro fr fr' H H' x h
    obtain ⟨⟨y, f1⟩, H1, h1, h2⟩ := bind_some h
    cases y with
    | normal => rw [ihn _ _ _ _ _ h2, ih hD h1 t ht]
    | exit i => cases h2; exact ih hD h1 t ht
    | ret => cases h2; exact ih hD h1 t ht
  exact key lf fr fr' H H' x h
def mix : List Nat → AFrame → AFrame → AFrame
 | [], _, fr => fr
 | d :: D, g, fr => upd (mix D g fr) d (g d)
def updL : List (Nat × AVal) → AFrame → AFrame
 | [], fr => fr
 | p :: l, fr => upd (updL l fr) p.1 p.2
def agrees : List (Nat × AVal) → AFrame → Prop
 | [], _ => True
 | p :: l, fr => fr p.1 = p.2 ∧ agrees l fr
def keysIn (D : List Nat) : List (Nat × AVal) → Bool
 | [] => true
 | p :: l => cond (memN p.1 D) (keysIn D l) false
theorem mix_off {D : List Nat} {t : Nat} (h : memN t D = false) (g fr : AFrame) : mix D g fr t = fr t := by
 induction D with
 | nil => rfl
 | cons d D ih =>
  simp only [memN] at h
  cases hb : Nat.beq t d with
  | true => rw [hb] at h; cases h
  | false => rw [hb] at h; simp only [mix, upd, hb, cond_false]; exact ih h
theorem mix_on {D : List Nat} {t : Nat} (h : memN t D = true) (g fr : AFrame) : mix D g fr t = g t := by
 induction D with
 | nil => cases h
 | cons d D ih =>
  simp only [memN] at h
  cases hb : Nat.beq t d with
  | true => simp only [mix, upd, hb, cond_true]; rw [Nat.eq_of_beq_eq_true hb]
  | false => rw [hb] at h; simp only [mix, upd, hb, cond_false]; exact ih h
theorem updL_agrees {l : List (Nat × AVal)} {fr : AFrame} (h : agrees l fr) : updL l fr = fr := by
 induction l with
 | nil => rfl
 | cons p l ih =>
  simp only [updL, ih h.2]
  funext i
  cases hb : Nat.beq i p.1 with
  | true => simp only [upd, hb, cond_true]; rw [Nat.eq_of_beq_eq_true hb]; exact h.1.symm
  | false => simp only [upd, hb, cond_false]
theorem updL_off {D : List Nat} {l : List (Nat × AVal)} (hk : keysIn D l = true) {t : Nat} (h : memN t D = false) (fr : AFrame) : updL l fr t = fr t := by
 induction l with
 | nil => rfl
 | cons p l ih =>
  obtain ⟨h1, h2⟩ := cond_tt hk
  cases hb : Nat.beq t p.1 with
  | true => rw [← Nat.eq_of_beq_eq_true hb, h] at h1; cases h1
  | false => simp only [updL, upd, hb, cond_false]; exact ih h2
theorem mix_self {D : List Nat} {f fr : AFrame} (h : ∀ t, memN t D = false → f t = fr t) : mix D f fr = f := by
 funext t
 cases hm : memN t D with
 | true => exact mix_on hm f fr
 | false => rw [mix_off hm, h t hm]
section
variable {call : ACall} {lf : Nat} {fr : AFrame} {H : AHeap} {Q : RExit → AFrame → AHeap → Prop} {K : AFrame → AHeap → Prop}
theorem Wp.loopS {σ : Type} {b : RCode} (D : List Nat) (vals : σ → List (Nat × AVal)) (I : AHeap → σ → AHeap → Prop) (μ : σ → Nat) (s0 : σ) (hD : b.within D = true) (hk : ∀ s, keysIn D (vals s) = true)
  (ha : agrees (vals s0) fr) (hi : I H s0 H) (hμ : μ s0 < lf)
  (step : ∀ s g H1, I H s H1 → Wp call lf b (updL (vals s) (mix D g fr)) H1 fun x fr' H' => match x with | .normal => ∃ s', μ s' < μ s ∧ agrees (vals s') fr' ∧ I H s' H' | e => Q e fr' H') : Wp call lf (.loop b) fr H Q := by
 refine Wp.loop (fun k f H1 => ∃ s g, k = μ s ∧ I H s H1 ∧ f = updL (vals s) (mix D g fr)) ?_ hμ ⟨s0, fr, rfl, hi, by rw [mix_self (fun _ _ => rfl), updL_agrees ha]⟩
 rintro k f H0 ⟨s, g, rfl, hI, rfl⟩
 obtain ⟨x, fr', H', h1, h2⟩ := step s g H0 hI
 refine ⟨x, fr', H', h1, ?_⟩
 cases x with
 | normal =>
  obtain ⟨s', h3, h4, h5⟩ := h2
  refine ⟨μ s', h3, s', fr', rfl, h5, ?_⟩
  have hoff : ∀ t, memN t D = false → fr' t = fr t := fun t ht => by rw [exec_off hD h1 t ht, updL_off (hk s) ht, mix_off ht]
  rw [mix_self hoff, updL_agrees h4]
 | exit i => exact h2
 | ret => exact h2
end
theorem dcheck_none {R : List DRec} {H0 : AHeap} (h : ∀ r ∈ R, r.eff = false) (hok : ∀ r ∈ R, r.want = true → (Nat.beq r.cls 1 || Nat.beq r.cls 3) = true → r.okAt H0 = true) : dcheck R H0 R 0 = true := by
 have hchk : ∀ (r : DRec) (k : Nat) (es : List DRec) (i : Nat), (∀ e ∈ es, e.eff = false) → r.okAt H0 = true → r.chk k es i H0 true = true := by
  intro r k es
  induction es with
  | nil => intro i _ h; simp [DRec.chk, h]
  | cons e es ih => intro i he h; simp only [DRec.chk, he e (by simp)]; exact ih _ (fun x hx => he x (by simp [hx])) h
 have key : ∀ (rs : List DRec) (k : Nat), (∀ r ∈ rs, r ∈ R) → dcheck R H0 rs k = true := by
  intro rs
  induction rs with
  | nil => intro k _; rfl
  | cons r rs ih =>
   intro k hm
   simp only [dcheck, Bool.and_eq_true]
   refine ⟨?_, ih _ fun x hx => hm x (by simp [hx])⟩
   cases hc : (r.want && (Nat.beq r.cls 1 || Nat.beq r.cls 3)) with
   | false => rfl
   | true =>
    simp only [Bool.and_eq_true] at hc
    exact hchk r k R 0 h (hok r (hm r (by simp)) hc.1 hc.2)
 exact key R 0 fun _ h => h
def quietOp : ROp → Bool
 | .sliceS .. => false
 | op => Nat.ble op.kind 1
def quiet : List DItem → Bool
 | [] => true
 | o :: os => _root_.cond (quietOp o.o.op && Nat.ble o.cls 1) (quiet os) false
def opsOf : List DItem → List ROper
 | [] => []
 | o :: os => o.o :: opsOf os
theorem quietOp_same {call : ACall} {fr : AFrame} {op : ROp} {H H' : AHeap} {v : AVal} (hq : quietOp op = true) (hx : op.exec call fr H = some (v, H')) : H' = H ∧ ∀ call', op.exec call' fr H = some (v, H) := by
 have hk : op.kind ≤ 1 := by cases op <;> simp_all [quietOp]
 have hn : H'.n = H.n := by
  by_cases h0 : op.kind = 0
  ·have := exec_pure h0 hx call H
   rw [hx] at this; cases this; rfl
  ·have h1 : op.kind = 1 := by omega
   cases op <;> simp only [ROp.kind] at h0 h1 <;> first | (exact absurd rfl h0) | (cases h1; done) | skip
   ·rw [aLoad_same hx]
   ·simp [quietOp] at hq
   ·rw [aBytesToStr_same hx]
   ·rw [aUptr_same hx]
   ·rw [aSliceData_same hx]
 exact exec_reads hk hx hn
theorem dtext_quiet {call : ACall} : ∀ {its : List DItem} {ref : Nat} {fr fr' : AFrame} {H H' : AHeap}, quiet its = true → execOps call (opsOf its) fr H = some (fr', H') → H' = H ∧ ∃ R, dtext call its ref fr H = some (R, fr', H) ∧ ∀ r ∈ R, r.eff = false ∧ (r.want = true → (Nat.beq r.cls 1 || Nat.beq r.cls 3) = true → r.okAt H = true) := by
 intro its
 induction its with
 | nil => intro ref fr fr' H H' _ h; cases h; exact ⟨rfl, [], rfl, by simp⟩
 | cons o os ih =>
  intro ref fr fr' H H' hq h
  obtain ⟨hq1, hq2⟩ := cond_tt hq
  simp only [Bool.and_eq_true] at hq1
  have hcls : o.cls ≤ 1 := Nat.le_of_ble_eq_true hq1.2
  have h3 : Nat.beq o.cls 3 = false := by apply nbeq_ne; omega
  have h2 : Nat.beq o.cls 2 = false := by apply nbeq_ne; omega
  simp only [opsOf, execOps] at h
  cases hw : o.o.wanted fr with
  | false =>
   rw [hw] at h
   obtain ⟨e1, R, hR, hall⟩ := ih (ref := nextRef o.cls ref) hq2 h
   refine ⟨e1, ⟨o.o, o.b, o.cls, fr, aundef, false, false, H, ref⟩ :: R, by simp only [dtext, hw, hR], ?_⟩
   intro r hr
   rcases List.mem_cons.1 hr with rfl | hr
   ·exact ⟨rfl, fun h => by cases h⟩
   ·exact hall r hr
  | true =>
   rw [hw] at h
   obtain ⟨v, H1, hx, hrest⟩ := bind_some h
   obtain ⟨e1, hc⟩ := quietOp_same hq1.1 hx
   subst e1
   obtain ⟨e2, R, hR, hall⟩ := ih (ref := nextRef o.cls ref) hq2 hrest
   refine ⟨e2, ⟨o.o, o.b, o.cls, fr, v, true, false, H1, ref⟩ :: R, ?_, ?_⟩
   ·simp only [dtext, hw, dstep, h2, h3, look_of (hc noCall) rfl]
    simp [hR]
   ·intro r hr
    rcases List.mem_cons.1 hr with rfl | hr
    ·exact ⟨rfl, fun _ _ => okAt_read h3 (hc noCall)⟩
    ·exact hall r hr
theorem quiet_no3 : ∀ {its : List DItem}, quiet its = true → (its.all fun it => !(Nat.beq it.cls 3)) = true := by
 intro its
 induction its with
 | nil => intro _; rfl
 | cons o os ih =>
  intro hq
  obtain ⟨hq1, hq2⟩ := cond_tt hq
  simp only [Bool.and_eq_true] at hq1
  have hcls : o.cls ≤ 1 := Nat.le_of_ble_eq_true hq1.2
  have h3 : Nat.beq o.cls 3 = false := by apply nbeq_ne; omega
  simp only [List.all_cons, h3, ih hq2]; rfl
section
variable {call : ACall} {lf : Nat} {fr : AFrame} {H : AHeap} {Q : RExit → AFrame → AHeap → Prop} {K : AFrame → AHeap → Prop}
theorem Wp.dquiet {its : List DItem} {ops : List ROper} (hq : quiet its = true) (ho : opsOf its = ops) (h : WpO call ops fr H fun fr' H' => Q .normal fr' H') : Wp call lf (.dregion its) fr H Q := by
 subst ho
 obtain ⟨fr', H', h1, h2⟩ := h
 obtain ⟨rfl, R, hR, hall⟩ := dtext_quiet (ref := H.n) hq h1
 refine ⟨.normal, fr', H', ?_, h2⟩
 simp only [RCode.exec, oracle_none its H'.n fr H' (quiet_no3 hq), pushAll, hR]
 rw [dcheck_none (fun r hr => (hall r hr).1) fun r hr => (hall r hr).2]
end
end Go.Am
