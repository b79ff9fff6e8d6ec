/- All operations together; regions; code; functions. -/
import Derived.Test.YtofdnhdoblpniaaDoorAmOps7
set_option linter.unusedSimpArgs false
set_option linter.unusedVariables false
namespace Go.Am
open Go Go.RowKit

section
variable {P : Program} {S : Base} {m : RMap} {H H' : AHeap} {w : World}

theorem Out.mono {m m' : RMap} {v : AVal} {x : Value} (hm : Le m m') (h : Out S m' v H x w) : Out S m v H x w := by
  obtain ⟨m2, h1, h2⟩ := h
  exact ⟨m2, Le.trans hm h1, h2⟩

/-- A call of the small machine is a call. -/
def CallSim (P : Program) (S : Base) (call : ACall) : Prop :=
  ∀ (f : FuncId) (args : List AVal) (H : AHeap) (v : AVal) (H' : AHeap) (m : RMap) (w : World) (vargs : List Value), call f args H = some (v, H') → HRel S m H w → embL m args = some vargs →
    Yields P (callFunc f vargs.toArray) w (Out S m v H')

theorem aCallV_some {call : ACall} {fv : AVal} {args : List AVal} {r : AVal × AHeap} (h : aCallV call fv args H = some r) : ∃ g fi ca, fv = .func (.func g) fi ca ∧ call g (fi ++ args ++ ca) H = some r := by
  cases fv with
  | func fn fi ca => cases fn with
    | func g => exact ⟨g, fi, ca, rfl, h⟩
    | _ => exact (fail_some (H := H) h).elim
  | _ => exact (fail_some (H := H) h).elim

theorem append_congr {argTypes args : _} {ty t t' : TypeId} {x y : Value} (h0 : argTypes[0]? = some t) (h1 : argTypes[1]? = some t') (h2 : args[0]? = some x) (h3 : args[1]? = some y) :
    Builtin.append_ argTypes ty args = Builtin.append_ #[t, t'] ty #[x, y] := by
  unfold Builtin.append_
  simp only [h0, h1, h2, h3]
  rfl
theorem copy_congr {argTypes args : _} {ty t : TypeId} {x y : Value} (h0 : argTypes[0]? = some t) (h2 : args[0]? = some x) (h3 : args[1]? = some y) :
    Builtin.copy_ argTypes ty args = Builtin.copy_ #[t, t] ty #[x, y] := by
  unfold Builtin.copy_
  simp only [h0, h2, h3]
  rfl
theorem len_congr {argTypes args : _} {ty t : TypeId} {x : Value} (h0 : argTypes[0]? = some t) (h2 : args[0]? = some x) :
    Builtin.len_ argTypes ty args = Builtin.len_ #[t] ty #[x] := by
  unfold Builtin.len_
  simp only [h0, h2]
  rfl

theorem args_one {args : Array Operand} {f : Operand → Value} {x : Operand} (h0 : args[0]? = some x) (h1 : args[1]? = none) : args.map f = #[f x] := by
  have hs : args.size = 1 := by
    have := (Array.getElem?_eq_some_iff.1 h0).1
    have := Array.getElem?_eq_none_iff.1 h1
    omega
  apply Array.ext
  · simp [hs]
  · intro i h2 h3
    have : i = 0 := by simp at h3; omega
    subst this
    simp [(Array.getElem?_eq_some_iff.1 h0).2]
theorem args_two {args : Array Operand} {f : Operand → Value} {x y : Operand} (h0 : args[0]? = some x) (h1 : args[1]? = some y) (h2 : args[2]? = none) : args.map f = #[f x, f y] := by
  have hs : args.size = 2 := by
    have := (Array.getElem?_eq_some_iff.1 h1).1
    have := Array.getElem?_eq_none_iff.1 h2
    omega
  apply Array.ext
  · simp [hs]
  · intro i h3 h4
    have : i = 0 ∨ i = 1 := by simp at h4; omega
    rcases this with rfl | rfl
    · simp [(Array.getElem?_eq_some_iff.1 h0).2]
    · simp [(Array.getElem?_eq_some_iff.1 h1).2]

theorem sim_op {nt : Nat} {fr : AFrame} {a : Act} {o : Oper} {ro : ROp} {call : ACall} {v : AVal} (hc : cOp P nt o = some ro) (hf : FRel nt m fr a.tmps) (h : HRel S m H w) (hG : S.G = P.globals.size)
    (hcall : CallSim P S call) (hx : ro.exec call fr H = some (v, H')) : Yields P (execOp a.eval o) w (Out S m v H') := by
  have hg : Globs P.globals.size m := by rw [← hG]; exact h.glob
  obtain ⟨dst, op, ty, pos, after, guard⟩ := o
  cases op with
  | move x =>
    simp only [cOp] at hc
    cases hu : cOpd P.globals.size nt x with
    | none => rw [hu] at hc; cases hc
    | some r => rw [hu] at hc; cases hc; obtain ⟨rfl, rfl⟩ := pure_some hx; exact yields_pure (Out.same h (cOpd_ev hu hf hg))
  | assign x =>
    simp only [cOp] at hc
    cases hu : cOpd P.globals.size nt x with
    | none => rw [hu] at hc; cases hc
    | some r => rw [hu] at hc; cases hc; obtain ⟨rfl, rfl⟩ := pure_some hx; exact yields_pure (Out.same h (cOpd_ev hu hf hg))
  | pick c x y =>
    simp only [cOp] at hc
    split at hc
    · rename_i c' x' y' h1 h2 h3; cases hc
      have e1 := cOpd_ev h1 hf hg; have e2 := cOpd_ev h2 hf hg; have e3 := cOpd_ev h3 hf hg
      simp only [ROp.exec] at hx
      cases hcv : c'.ev fr with
      | bool t =>
        rw [hcv] at hx e1
        obtain ⟨rfl, rfl⟩ := pure_some hx
        simp only [emb] at e1
        have e1' : a.eval c = .bool t := (Option.some.inj e1).symm
        show Yields P (do pure (.value (if ← asBool (a.eval c) then a.eval x else a.eval y))) w _
        cases t
        · simpa [Yields, e1', asBool] using Out.same h e3
        · simpa [Yields, e1', asBool] using Out.same h e2
      | _ => rw [hcv] at hx; exact (fail_some hx).elim
    · cases hc
  | alloc e =>
    simp only [cOp] at hc
    cases hz : cZero P e with
    | none => rw [hz] at hc; cases hc
    | some z =>
      rw [hz] at hc; cases hc
      simp only [ROp.exec] at hx
      obtain ⟨r, H1, h1, h2⟩ := bind_some hx
      obtain ⟨rfl, rfl⟩ := aNew_some h1
      obtain ⟨rfl, rfl⟩ := pure_some h2
      obtain ⟨x, w', hr, ho⟩ := sim_new hz h
      exact yields_v hr ho
  | box e x =>
    simp only [cOp] at hc
    cases hu : cOpd P.globals.size nt x with
    | none => rw [hu] at hc; cases hc
    | some r =>
      rw [hu] at hc; cases hc
      simp only [ROp.exec] at hx
      obtain ⟨r', H1, h1, h2⟩ := bind_some hx
      obtain ⟨rfl, rfl⟩ := aNew_some h1
      obtain ⟨rfl, rfl⟩ := pure_some h2
      obtain ⟨y, w', hr, ho⟩ := sim_box (P := P) (e := e) (cOpd_ev hu hf hg) h
      exact yields_v hr ho
  | build t ps =>
    obtain ⟨x, hr, he, rfl⟩ := sim_build hf h hg hc hx
    exact yields_v hr (Out.same h he)
  | buildSlice t len ps =>
    simp only [cOp] at hc
    split at hc
    · rename_i e hu
      split at hc
      · rename_i s z hs hz
        split at hc
        · rename_i hcond
          split at hc
          · rename_i l hl; cases hc
            obtain ⟨x, w', hr, ho⟩ := sim_buildSlice hf h hg hu hs hz hcond hl hx
            exact yields_v hr ho
          · cases hc
        · cases hc
      · cases hc
    · cases hc
  | insert t m k v => simp [cOp] at hc
  | load t x =>
    simp only [cOp] at hc
    split at hc
    · rename_i g r hgg hu; cases hc
      obtain ⟨ad, y, he, hr, hy, rfl⟩ := sim_load (P := P) hgg (cOpd_ev hu hf hg) h hx
      refine yields_v (x := y) (w' := w) ?_ (Out.same h hy)
      show (Instr.loadAt t (a.eval x)).run P w = _
      rw [he]
      simp [Instr.loadAt, Instr.sureAddr, hr]
    · cases hc
  | store t x y =>
    simp only [cOp] at hc
    split at hc
    · rename_i n r r' hn h1 h2; cases hc
      obtain ⟨w', hr, ho⟩ := sim_store (P := P) hn (cOpd_ev h1 hf hg) (cOpd_ev h2 hf hg) h hx
      exact yields_u hr ho
    · cases hc
  | ready g => simp [cOp] at hc
  | waits g => simp [cOp] at hc
  | nilCheck x =>
    simp only [cOp] at hc
    cases hu : cOpd P.globals.size nt x with
    | none => rw [hu] at hc; cases hc
    | some r =>
      rw [hu] at hc; cases hc
      obtain ⟨h1, rfl⟩ := ofOption_some hx
      have he := cOpd_ev hu hf hg
      cases hv : r.ev fr <;> rw [hv] at h1 he <;> simp only [aNilCheck] at h1 <;> cases h1
      obtain ⟨p, hp, hxv⟩ := emb_ptr_some he
      have : execOp a.eval { dst, op := .nilCheck x, type := ty, pos, after, guard } = pure (.value (a.eval x)) := by
        unfold execOp
        simp only [hxv]
      rw [this]
      exact yields_pure (Out.same h he)
  | binOp op t x y yt =>
    simp only [cOp] at hc
    have key : ∀ (x' y' : ROpd), cOpd P.globals.size nt x = some x' → cOpd P.globals.size nt y = some y' → (ROp.bin op x' y').exec call fr H = some (v, H') →
        Yields P (execOp a.eval { dst, op := .binOp op t x y yt, type := ty, pos, after, guard }) w (Out S m v H') := by
      intro x' y' h1 h2 hx
      obtain ⟨h3, rfl⟩ := ofOption_some hx
      obtain ⟨z, hz1, hz2⟩ := sim_bin (P := P) (w := w) (t := t) (x := x) (y := y) (cOpd_ev h1 hf hg) (cOpd_ev h2 hf hg) h3
      exact yields_v hz1 (Out.same h hz2)
    have keyE : ∀ (neg : Bool) (q : EqDesc) (x' y' : ROpd), op = (match neg with | true => .neq | false => .eql) → cEq P 60 t = some q → cOpd P.globals.size nt x = some x' → cOpd P.globals.size nt y = some y' → (∀ k, P.underlying t ≠ some (.int k)) → P.underlying t ≠ some .string →
        (ROp.eq neg q x' y').exec call fr H = some (v, H') → Yields P (execOp a.eval { dst, op := .binOp op t x y yt, type := ty, pos, after, guard }) w (Out S m v H') := by
      intro neg q x' y' hop hq h1 h2 hni hns hx
      simp only [ROp.exec] at hx
      cases he : aEq q (x'.ev fr) (y'.ev fr) with
      | none => rw [he] at hx; exact (fail_some hx).elim
      | some r =>
        rw [he] at hx
        obtain ⟨rfl, rfl⟩ := pure_some hx
        have := sim_eq (P := P) (w := w) (neg := neg) (xo := x) (yo := y) hq (cOpd_ev h1 hf hg) (cOpd_ev h2 hf hg) he hni hns
        subst hop
        exact yields_v this (Out.same h (by cases neg <;> simp [emb]))
    cases hu : P.underlying t with
    | none =>
      rw [hu] at hc
      simp only [] at hc
      have : cEq P 60 t = none := by unfold cEq; rw [hu]
      rw [this] at hc
      unfold cEqOp at hc
      split at hc <;> first | (cases hc; done) | (rename_i hq _ _; cases hq)
    | some ds =>
      rw [hu] at hc
      by_cases hint : ∃ k, ds = .int k
      · obtain ⟨k, rfl⟩ := hint
        simp only [] at hc
        split at hc
        · rename_i x' y' h1 h2; cases hc; exact key x' y' h1 h2 hx
        · cases hc
      · by_cases hstr : ds = .string
        · subst hstr
          simp only [] at hc
          split at hc
          · rename_i x' y' h1 h2; cases hc; exact key x' y' h1 h2 hx
          · cases hc
        · have hni : ∀ k, P.underlying t ≠ some (.int k) := fun k e => hint ⟨k, by rw [hu] at e; exact Option.some.inj e⟩
          have hns : P.underlying t ≠ some .string := fun e => hstr (by rw [hu] at e; exact Option.some.inj e)
          have hc' : cEqOp op (cEq P 60 t) (cOpd P.globals.size nt x) (cOpd P.globals.size nt y) = some ro := by
            cases ds <;> first | exact hc | exact absurd rfl hstr | exact absurd ⟨_, rfl⟩ hint
          unfold cEqOp at hc'
          split at hc'
          · rename_i d x' y' hq h1 h2; cases hc'; exact keyE false d x' y' rfl hq h1 h2 hni hns hx
          · rename_i d x' y' hq h1 h2; cases hc'; exact keyE true d x' y' rfl hq h1 h2 hni hns hx
          · cases hc'
  | unOp op t x =>
    simp only [cOp] at hc
    cases hu : cOpd P.globals.size nt x with
    | none => rw [hu] at hc; cases hc
    | some r =>
      rw [hu] at hc; cases hc
      obtain ⟨h1, rfl⟩ := ofOption_some hx
      obtain ⟨z, hz1, hz2⟩ := sim_un (P := P) (w := w) (cOpd_ev hu hf hg) h1
      exact yields_v hz1 (Out.same h hz2)
  | convert s d x =>
    simp only [cOp] at hc
    split at hc
    · rename_i k0 k r hs hd hu; cases hc
      have he := cOpd_ev hu hf hg
      simp only [ROp.exec] at hx
      cases hv : r.ev fr with
      | int k1 n =>
        rw [hv] at hx he
        obtain ⟨rfl, rfl⟩ := pure_some hx
        simp only [emb] at he
        have he' : a.eval x = .int k1 n := (Option.some.inj he).symm
        refine yields_v (s := convert s d (a.eval x)) (x := .int k (k.wrap n)) (w' := w) ?_ (Out.same h (emb_int_mk _ _))
        rw [he']
        exact sim_conv_int hs hd
      | _ => rw [hv] at hx; exact (fail_some hx).elim
    · rename_i e r hs hd hu
      split at hc
      · rename_i he hsz; cases hc
        obtain ⟨y, hr, ho⟩ := sim_bytesToStr (P := P) hs hd he (cOpd_ev hu hf hg) h hx
        exact yields_v hr ho
      · cases hc
    · rename_i e r hs hd hu
      split at hc
      · rename_i he hsz; cases hc
        obtain ⟨y, w', hr, ho⟩ := sim_strToBytes (P := P) hs hd he (cOpd_ev hu hf hg) h hx
        exact yields_v hr ho
      · cases hc
    · rename_i t r hs hd hu
      cases hz : cSize P t with
      | none => rw [hz] at hc; cases hc
      | some sz =>
        rw [hz] at hc; cases hc
        obtain ⟨hr, he, rfl⟩ := sim_uptr (P := P) hz (Or.inl ⟨hs, hd⟩) (cOpd_ev hu hf hg) h hx
        exact yields_v (s := convert s d (a.eval x)) hr (Out.same h he)
    · rename_i t r hs hd hu
      cases hz : cSize P t with
      | none => rw [hz] at hc; cases hc
      | some sz =>
        rw [hz] at hc; cases hc
        obtain ⟨hr, he, rfl⟩ := sim_uptr (P := P) hz (Or.inr ⟨hs, hd⟩) (cOpd_ev hu hf hg) h hx
        exact yields_v (s := convert s d (a.eval x)) hr (Out.same h he)
    · cases hc
  | sliceToArrayPointer d x => simp [cOp] at hc
  | makeInterface t x =>
    simp only [cOp] at hc
    split at hc
    · cases hc
    · rename_i ds r hni hut hu; cases hc
      obtain ⟨rfl, rfl⟩ := pure_some hx
      have he := cOpd_ev hu hf hg
      refine yields_v (s := Instr.makeInterface t (a.eval x)) (x := .iface t (a.eval x)) (w' := w) ?_ (Out.same h (by simp [emb, he]))
      simp only [Instr.makeInterface, Sem.run_bind, run_underlying hut, Result.andThen_ok]
      cases ds <;> first | rfl | exact absurd rfl (hni _)
    · cases hc
  | makeFunc fn x y =>
    simp only [cOp] at hc
    split at hc
    · rename_i r r' h1 h2; cases hc
      obtain ⟨rfl, rfl⟩ := pure_some hx
      have e1 := cOpds_ev hf hg h1
      have e2 := cOpds_ev hf hg h2
      refine yields_v (s := Instr.makeFunc fn (x.map a.eval) (y.map a.eval)) (x := .func fn (x.map a.eval) (y.map a.eval)) (w' := w) rfl (Out.same h ?_)
      simp only [emb, e1, e2]
      simp only [Option.some.injEq, Value.func.injEq, true_and]
      exact ⟨by apply Array.ext'; simp, by apply Array.ext'; simp⟩
    · cases hc
  | makeMap t r => simp [cOp] at hc
  | makeChan t s => simp [cOp] at hc
  | makeSlice t l c =>
    simp only [cOp] at hc
    split at hc
    · rename_i e hu
      split at hc
      · rename_i s z b l' c' hs hz hb h1 h2
        split at hc
        · rename_i hcond; cases hc
          obtain ⟨y, w', hr, ho⟩ := sim_makeSlice (P := P) hu hs hz hb hcond.1 hcond.2 (cOpd_ev h1 hf hg) (cOpd_ev h2 hf hg) h hx
          exact yields_v hr ho
        · cases hc
      · cases hc
    · cases hc
  | slice t x lo hi mx =>
    simp only [cOp] at hc
    split at hc
    · rename_i x' lo' hi' mx' h1 h2 h3 h4
      have o2 := cOpt_ev hf hg h2; have o3 := cOpt_ev hf hg h3; have o4 := cOpt_ev hf hg h4
      split at hc
      · rename_i hu
        split at hc
        · cases hc
          obtain ⟨h5, rfl⟩ := ofOption_some hx
          obtain ⟨y, hr, he⟩ := sim_sliceStr (P := P) (w := w) hu (cOpd_ev h1 hf hg) o2 o3 h5
          have : mx.map a.eval = none := by cases mx <;> simp_all [OptE]
          refine yields_v (s := Instr.sliceAt t (a.eval x) (lo.map a.eval) (hi.map a.eval) (mx.map a.eval)) ?_ (Out.same h he)
          rw [this]; exact hr
        · cases hc
      · rename_i e hu
        cases hs : cSize P e with
        | none => rw [hs] at hc; cases hc
        | some s =>
          rw [hs] at hc; cases hc
          obtain ⟨y, hr, ho⟩ := sim_sliceS (P := P) hu hs (cOpd_ev h1 hf hg) o2 o3 o4 h hx
          exact yields_v hr ho
      · rename_i n e hu
        cases hs : cSize P e with
        | none => rw [hs] at hc; cases hc
        | some s =>
          rw [hs] at hc; cases hc
          obtain ⟨h5, rfl⟩ := ofOption_some hx
          obtain ⟨y, hr, he⟩ := sim_sliceArr (P := P) (w := w) hu hs (cOpd_ev h1 hf hg) o2 o3 o4 h5
          exact yields_v hr (Out.same h he)
      · cases hc
    · cases hc
  | fieldAddr t x f =>
    simp only [cOp] at hc
    split at hc
    · rename_i fs r hu h1
      split at hc
      · rename_i fd hfd
        split at hc
        · rename_i n hn
          split at hc
          · cases hc
          · rename_i hn0; cases hc
            obtain ⟨h5, rfl⟩ := ofOption_some hx
            obtain ⟨y, hr, he⟩ := sim_fieldAddr (P := P) (w := w) hu hfd hn hn0 (cOpd_ev h1 hf hg) h5
            exact yields_v hr (Out.same h he)
        · cases hc
      · cases hc
    · cases hc
  | field t x f =>
    simp only [cOp] at hc
    split at hc
    · rename_i fs r hu h1
      split at hc
      · rename_i fd hfd
        split at hc
        · rename_i g hgg; cases hc
          obtain ⟨h5, rfl⟩ := ofOption_some hx
          obtain ⟨y, hr, he⟩ := sim_field (P := P) (w := w) hu hfd hgg (cOpd_ev h1 hf hg) h5
          exact yields_v hr (Out.same h he)
        · cases hc
      · cases hc
    · cases hc
  | indexAddr t x i =>
    simp only [cOp] at hc
    split at hc
    · rename_i e x' i' hu h1 h2
      cases hs : cSize P e with
      | none => rw [hs] at hc; cases hc
      | some s =>
        rw [hs] at hc; cases hc
        obtain ⟨h5, rfl⟩ := ofOption_some hx
        obtain ⟨y, hr, he⟩ := sim_idxS (P := P) (w := w) hu hs (cOpd_ev h1 hf hg) (cOpd_ev h2 hf hg) h5
        exact yields_v hr (Out.same h he)
    · rename_i n e x' i' hu h1 h2
      cases hs : cSize P e with
      | none => rw [hs] at hc; cases hc
      | some s =>
        rw [hs] at hc; cases hc
        obtain ⟨h5, rfl⟩ := ofOption_some hx
        obtain ⟨y, hr, he⟩ := sim_idxA (P := P) (w := w) hu hs (cOpd_ev h1 hf hg) (cOpd_ev h2 hf hg) h5
        exact yields_v hr (Out.same h he)
    · cases hc
  | index t x i =>
    simp only [cOp] at hc
    split at hc
    · rename_i x' i' hu h1 h2; cases hc
      obtain ⟨h5, rfl⟩ := ofOption_some hx
      obtain ⟨y, hr, he⟩ := sim_indexStr (P := P) (w := w) hu (cOpd_ev h1 hf hg) (cOpd_ev h2 hf hg) h5
      exact yields_v hr (Out.same h he)
    · rename_i n e x' i' hu h1 h2
      split at hc
      · rename_i g s hgg hs; cases hc
        obtain ⟨h5, rfl⟩ := ofOption_some hx
        obtain ⟨y, hr, he⟩ := sim_indexA (P := P) (w := w) hu hs hgg (cOpd_ev h1 hf hg) (cOpd_ev h2 hf hg) h5
        exact yields_v hr (Out.same h he)
      · cases hc
    · cases hc
  | lookup t x i ok => simp [cOp] at hc
  | mapUpdate t m k v => simp [cOp] at hc
  | mapEntry t m k => simp [cOp] at hc
  | entryStore t m s v => simp [cOp] at hc
  | range t x => simp [cOp] at hc
  | next it b => simp [cOp] at hc
  | entry it => simp [cOp] at hc
  | typeAssert x t u ok => simp [cOp] at hc
  | extract x i =>
    simp only [cOp] at hc
    cases hu : cOpd P.globals.size nt x with
    | none => rw [hu] at hc; cases hc
    | some r =>
      rw [hu] at hc; cases hc
      obtain ⟨h1, rfl⟩ := ofOption_some hx
      obtain ⟨z, hz1, hz2⟩ := sim_extract (P := P) (w := w) (cOpd_ev hu hf hg) h1
      exact yields_v hz1 (Out.same h hz2)
  | call c =>
    obtain ⟨callee, args, argTypes⟩ := c
    cases callee with
    | invoke r n => simp [cOp] at hc
    | value f =>
      simp only [cOp] at hc
      split at hc
      · rename_i f' l h1 h2; cases hc
        have e1 := cOpd_ev h1 hf hg
        have e2 := cOpds_ev hf hg h2
        simp only [ROp.exec] at hx
        obtain ⟨g, fi, ca, hfv, hx⟩ := aCallV_some hx
        · rw [hfv] at e1
          simp only [emb] at e1
          split at e1
          · rename_i l1 l2 h3 h4
            have e1' : a.eval f = .func (.func g) l1.toArray l2.toArray := (Option.some.inj e1).symm
            have e3 := embL_append (embL_append h3 e2) h4
            have := hcall g _ H v H' m w _ hx h e3
            have heq : execOp a.eval { dst, op := .call { callee := .value f, args, argTypes }, type := ty, pos, after, guard } = callFunc g (l1 ++ args.toList.map a.eval ++ l2).toArray := by
              show (do let d ← (Deferred.ofValue (a.eval f) (args.map a.eval)); invoke d.target d.args) = _
              rw [e1']
              simp only [Deferred.ofValue, pure_bind, invoke]
              congr 1
              apply Array.ext'; simp
            rw [heq]; exact this
          · cases e1
      · cases hc
    | builtin b =>
      simp only [cOp] at hc
      cases b <;> simp only [] at hc <;> try (cases hc; done)
      case append =>
        split at hc
        · rename_i t t' x y ht ht' hx0 hy0
          have hm0 : (args.map a.eval)[0]? = some (a.eval x) := by simp [hx0]
          have hm1 : (args.map a.eval)[1]? = some (a.eval y) := by simp [hy0]
          split at hc
          · cases hc
          · rename_i e d' x' y' hnt hu hu' h1 h2
            split at hc
            · rename_i s b z hs hb hz
              split at hc
              · rename_i hzl; cases hc
                simp only [ROp.exec] at hx
                obtain ⟨y0, w', hr, ho⟩ := sim_append (P := P) (ty := ty) hu hu' (fun k e => hnt _ e) hs hb hz hzl (cOpd_ev h1 hf hg) (cOpd_ev h2 hf hg) h hx
                refine yields_v (s := Builtin.append_ argTypes ty (args.map a.eval)) ?_ ho
                rw [append_congr ht ht' hm0 hm1]; exact hr
              · cases hc
            · cases hc
          · cases hc
        · cases hc
      case copy =>
        split at hc
        · rename_i t x y ht hx0 hy0
          have hm0 : (args.map a.eval)[0]? = some (a.eval x) := by simp [hx0]
          have hm1 : (args.map a.eval)[1]? = some (a.eval y) := by simp [hy0]
          split at hc
          · rename_i e x' y' hu h1 h2
            cases hs : cSize P e with
            | none => rw [hs] at hc; cases hc
            | some s =>
              rw [hs] at hc; cases hc
              simp only [ROp.exec] at hx
              obtain ⟨y0, w', hr, ho⟩ := sim_copy (P := P) (t' := t) (ty := ty) hu hs (cOpd_ev h1 hf hg) (cOpd_ev h2 hf hg) h hx
              refine yields_v (s := Builtin.copy_ argTypes ty (args.map a.eval)) ?_ ho
              rw [copy_congr ht hm0 hm1]; exact hr
          · cases hc
        · cases hc
      case unsafeSliceData =>
        split at hc
        · rename_i t x ht hx0 hx1
          split at hc
          · rename_i e x' hu h1
            cases hz : cSize P e with
            | none => rw [hz] at hc; cases hc
            | some sz =>
              rw [hz] at hc; cases hc
              obtain ⟨y, hr, he, rfl⟩ := sim_sliceData (P := P) (at' := argTypes) (ty := ty) (cOpd_ev h1 hf hg) h hx
              refine yields_v (s := Builtin.unsafeSliceData_ argTypes ty (args.map a.eval)) ?_ (Out.same h he)
              rw [args_one hx0 hx1]; exact hr
          · cases hc
        · cases hc
      case unsafeString =>
        split at hc
        · rename_i t x y ht hx0 hx1 hx2
          split at hc
          · rename_i e x' y' hu h1 h2
            split at hc
            · rename_i hbt hz; cases hc
              obtain ⟨z, w', hr, he, ho⟩ := sim_unsafeStr (P := P) (at' := argTypes) (ty := ty) ht hu hz (cOpd_ev h1 hf hg) (cOpd_ev h2 hf hg) h hx
              refine yields_v (s := Builtin.unsafeString_ argTypes ty (args.map a.eval)) (x := z) (w' := w') ?_ ⟨m, Le.refl _, he, ho⟩
              rw [args_two hx0 hx1 hx2]; exact hr
            · cases hc
          · cases hc
        · cases hc
      case len =>
        split at hc
        · rename_i t x ht hx0
          have hm0 : (args.map a.eval)[0]? = some (a.eval x) := by simp [hx0]
          split at hc
          · rename_i x' hu h1; cases hc
            obtain ⟨h5, rfl⟩ := ofOption_some hx
            obtain ⟨y, hr, he⟩ := sim_lenStr (P := P) (w := w) (ty := ty) hu (cOpd_ev h1 hf hg) h5
            refine yields_v (s := Builtin.len_ argTypes ty (args.map a.eval)) ?_ (Out.same h he)
            rw [len_congr ht hm0]; exact hr
          · rename_i e x' hu h1; cases hc
            obtain ⟨h5, rfl⟩ := ofOption_some hx
            obtain ⟨y, hr, he⟩ := sim_lenS (P := P) (w := w) (ty := ty) hu (cOpd_ev h1 hf hg) h5
            refine yields_v (s := Builtin.len_ argTypes ty (args.map a.eval)) ?_ (Out.same h he)
            rw [len_congr ht hm0]; exact hr
          · rename_i n e hu; cases hc
            obtain ⟨rfl, rfl⟩ := pure_some hx
            refine yields_v (s := Builtin.len_ argTypes ty (args.map a.eval)) (x := goInt n) (w' := w) ?_ (Out.same h (by simp [emb, goInt]))
            rw [len_congr ht hm0]
            simp [Builtin.len_, run_underlying hu]
          · cases hc
        · cases hc
      case max =>
        split at hc
        · rename_i l h1; cases hc
          have e1 := cOpds_ev hf hg h1
          simp only [ROp.exec] at hx
          cases l with
          | nil => exact (fail_some hx).elim
          | cons r l =>
            obtain ⟨h5, rfl⟩ := ofOption_some hx
            obtain ⟨x, xs, e2, e3, e4⟩ := embL_cons e1
            obtain ⟨y, hr, he⟩ := sim_minmax (P := P) (w := w) _ _ _ _ _ e3 e2 h5
            refine yields_v (s := Builtin.max_ argTypes ty (args.map a.eval)) ?_ (Out.same h he)
            unfold Builtin.max_
            rw [Array.toList_map, e4]
            exact hr
        · cases hc
      case min =>
        split at hc
        · rename_i l h1; cases hc
          have e1 := cOpds_ev hf hg h1
          simp only [ROp.exec] at hx
          cases l with
          | nil => exact (fail_some hx).elim
          | cons r l =>
            obtain ⟨h5, rfl⟩ := ofOption_some hx
            obtain ⟨x, xs, e2, e3, e4⟩ := embL_cons e1
            obtain ⟨y, hr, he⟩ := sim_minmax (P := P) (w := w) _ _ _ _ _ e3 e2 h5
            refine yields_v (s := Builtin.min_ argTypes ty (args.map a.eval)) ?_ (Out.same h he)
            unfold Builtin.min_
            rw [Array.toList_map, e4]
            exact hr
        · cases hc
  | go c => simp [cOp] at hc
  | defer c => simp [cOp] at hc
  | panic x => simp [cOp] at hc
  | send c x => simp [cOp] at hc
  | recv t c ok => simp [cOp] at hc
  | select cs b => simp [cOp] at hc
end
end Go.Am
