/- Functions. -/
import Derived.Test.YtofdnhdoblpniaaDoorAmDraw4
set_option linter.unusedSimpArgs false
set_option linter.unusedVariables false
namespace Go.Am
open Go Go.RowKit

section
variable {P : Program} {S : Base} {m : RMap} {H H' : AHeap} {w : World}

def resOf (tmps : Array Value) : ResultVar → Sem Value
  | .tmp t => pure (tmps.getD t undef)
  | .cell a t => do loadVar t (← asAddr (tmps.getD a undef))

theorem sim_getAll {nt : Nat} {fr : AFrame} {tmps : Array Value} (hf : FRel nt m fr tmps) (h : HRel S m H w) {rs : List ResultVar} {rl : List RRes} {vs : List AVal} (hc : cRes P nt rs = some rl) (hx : getAll fr rl H = some (vs, H')) :
    ∃ xs, (rs.mapM (resOf tmps)).run P w = .ok xs w ∧ embL m vs = some xs ∧ H' = H := by
  induction rs generalizing rl vs H' with
  | nil =>
    simp only [cRes] at hc; cases hc
    obtain ⟨rfl, rfl⟩ := pure_some hx
    exact ⟨[], by simp, by simp [embL], rfl⟩
  | cons r rs ih =>
    cases r with
    | tmp t =>
      simp only [cRes] at hc
      split at hc
      · rename_i l hl
        split at hc
        · rename_i ht; cases hc
          obtain ⟨v, H1, h1, h2⟩ := bind_some hx
          obtain ⟨rfl, rfl⟩ := pure_some h1
          obtain ⟨vs', H2, h3, h4⟩ := bind_some h2
          obtain ⟨rfl, rfl⟩ := pure_some h4
          obtain ⟨xs, h5, h6, h7⟩ := ih hl h3
          obtain ⟨y, hy, hy2⟩ := hf.2 t ht
          refine ⟨y :: xs, ?_, embL_mk hy h6, h7⟩
          have : tmps.getD t undef = y := by simp [Array.getD_eq_getD_getElem?, hy2]
          simp [List.mapM_cons, resOf, this, h5]
        · cases hc
      · cases hc
    | cell b t =>
      simp only [cRes] at hc
      split at hc
      · rename_i g l hg hl
        split at hc
        · rename_i ht; cases hc
          obtain ⟨v, H1, h1, h2⟩ := bind_some hx
          obtain ⟨y, hy, hy2⟩ := hf.2 b ht
          obtain ⟨ad, z, h8, h9, h10, rfl⟩ := sim_load (P := P) hg hy h h1
          obtain ⟨vs', H2, h3, h4⟩ := bind_some h2
          obtain ⟨rfl, rfl⟩ := pure_some h4
          obtain ⟨xs, h5, h6, h7⟩ := ih hl h3
          refine ⟨z :: xs, ?_, embL_mk h10 h6, h7⟩
          have : tmps.getD b undef = .pointer (some ad) := by simp [Array.getD_eq_getD_getElem?, hy2, h8]
          simp [List.mapM_cons, resOf, this, asAddr, h5, h9]
        · cases hc
      · cases hc

theorem sim_results {nt : Nat} {fr : AFrame} {fn : Func} {tmps : Array Value} {rl : List RRes} {vs : List AVal} (hf : FRel nt m fr tmps) (h : HRel S m H w) (hc : cRes P nt fn.results.toList = some rl) (hx : getAll fr rl H = some (vs, H')) :
    ∃ x, (results fn tmps).run P w = .ok x w ∧ emb m (aResult vs) = some x ∧ H' = H := by
  obtain ⟨xs, h1, h2, h3⟩ := sim_getAll hf h hc hx
  have hrun : (fn.results.mapM (resOf tmps)).run P w = .ok xs.toArray w := by
    rw [Array.mapM_eq_mapM_toList]
    simp [h1]
  refine ⟨if h : xs.toArray.size = 1 then xs.toArray[0] else .tuple xs.toArray, ?_, ?_, h3⟩
  · show (do let vs ← fn.results.mapM (resOf tmps); pure (if h : vs.size = 1 then vs[0] else .tuple vs)).run P w = _
    simp [hrun]
  · match vs, xs, h2 with
    | [], xs, h2 => simp [embL] at h2; subst h2; simp [aResult, emb, embL]
    | [v], xs, h2 =>
      obtain ⟨x, ys, h3, h4, rfl⟩ := embL_cons h2
      simp [embL] at h4; subst h4
      simpa [aResult] using h3
    | v :: u :: vs, xs, h2 =>
      have := embL_length h2
      have h5 : xs.toArray.size ≠ 1 := by simp; simp at this; omega
      simp only [h5, dif_neg, not_false_eq_true]
      simp [aResult, emb, h2]

theorem argFrame_get : ∀ {args : List AVal} {i : Nat}, argFrame args i = (args[i]?).getD aundef
  | [], i => rfl
  | v :: vs, 0 => rfl
  | v :: vs, i + 1 => by simp [argFrame, argFrame_get (args := vs)]

theorem FRel.args {nt : Nat} {args : List AVal} {vargs : List Value} (hn : args.length ≤ nt) (h : embL m args = some vargs) : FRel nt m (argFrame args) (vargs.toArray ++ Array.replicate (nt - vargs.toArray.size) undef) := by
  have hl := embL_length h
  refine ⟨by simp; omega, fun i hi => ?_⟩
  rw [argFrame_get]
  by_cases hia : i < args.length
  · obtain ⟨y, hy, hy2⟩ := embL_get h (List.getElem?_eq_getElem hia)
    refine ⟨y, by simp [hia, hy], ?_⟩
    rw [Array.getElem?_append_left (by simp; omega)]
    simpa using hy2
  · have h1 : args[i]? = none := by simp; omega
    refine ⟨undef, by rw [h1]; exact undef_emb, ?_⟩
    rw [Array.getElem?_append_right (by simp; omega)]
    rw [Array.getElem?_replicate, if_pos (by simp; omega)]

/-- An extern function does what is said of it. -/
def ExtSim (P : Program) (ext : Exts) (f : FuncId) (name : Nat) : Prop := ∀ (S : Base) (args : List AVal) (H : AHeap) (v : AVal) (H' : AHeap) (m : RMap) (w : World) (vargs : List Value), S.G = P.globals.size → ext name args H = some (v, H') → HRel S m H w → embL m args = some vargs →
    Yields P (callFunc f vargs.toArray) w (Out S m v H')

/-- A table of functions is right. -/
def ProgOk (P : Program) (ext : Exts) (prog : FuncId → Option RFunc) : Prop := ∀ f rf, prog f = some rf →
  (∃ fn c, P.funcs[f]? = some fn ∧ fn.body = some c ∧ cFunc P fn = some rf) ∨ ∃ name, rf.body = .ext name ∧ ExtSim P ext f name

theorem sim_func (hm : P.follows .mixedOrders = true) (hG : S.G = P.globals.size) {call : ACall} (hcall : ∀ g, CallSim P { S with ghost := g } call) {ext : Exts} {lf : Nat} {f : FuncId} {fn : Func} {c : Code} {rf : RFunc}
    (hfn : P.funcs[f]? = some fn) (hb : fn.body = some c) (hc : cFunc P fn = some rf) {args : List AVal} {vargs : List Value} {v : AVal} (hx : rf.run ext call lf args H = some (v, H')) (h : HRel S m H w) (ha : embL m args = some vargs) :
    Yields P (callFunc f vargs.toArray) w (Out S m v H') := by
  unfold cFunc at hc
  split at hc
  · cases hc
  · rename_i hname
    rw [hb] at hc
    simp only [] at hc
    split at hc
    · rename_i rc rr h1 h2; cases hc
      simp only [RFunc.run] at hx
      split at hx
      · exact (fail_some hx).elim
      · rename_i hnt
        obtain ⟨⟨x, fr'⟩, H1, hx1, hx2⟩ := bind_some hx
        have hrun : (callFunc f vargs.toArray).run P w = .ok (.enter f vargs.toArray) w := by
          have hn : ¬ fn.name = "runtime.NumGoroutine" := by simpa using hname
          simp [callFunc, hfn, hb, hn]
        unfold Yields
        rw [hrun]
        simp only []
        refine calls_of_wp hfn hb ?_
        refine sim_code hG (by have := hcall S.ghost; exact this) (dsim hm hG hcall lf) (ds := []) c rc (argFrame args) fr' H H1 x m _ w _ h1 hx1 (FRel.args (by omega) ha) rfl h ?_
        intro m' a' w' hf' hd' hr' hm'
        cases x with
        | exit id => exact (fail_some hx2).elim
        | normal =>
          obtain ⟨vs, H2, h3, h4⟩ := bind_some hx2
          obtain ⟨rfl, rfl⟩ := pure_some h4
          obtain ⟨y, h5, h6, rfl⟩ := sim_results (P := P) hf' hr' h2 h3
          exact ⟨hd', y, h5, _, rfl, m', hm', h6, hr'⟩
        | ret =>
          obtain ⟨vs, H2, h3, h4⟩ := bind_some hx2
          obtain ⟨rfl, rfl⟩ := pure_some h4
          obtain ⟨y, h5, h6, rfl⟩ := sim_results (P := P) hf' hr' h2 h3
          exact ⟨hd', y, h5, _, rfl, m', hm', h6, hr'⟩
    · cases hc

theorem sim_callN (hm : P.follows .mixedOrders = true) {ext : Exts} {prog : FuncId → Option RFunc} (hP : ProgOk P ext prog) : ∀ (n : Nat) (S : Base), S.G = P.globals.size → CallSim P S (callN ext prog n)
  | 0, S, hG => fun f args H v H' m w vargs hx => (fail_some hx).elim
  | n + 1, S, hG => fun f args H v H' m w vargs hx h ha => by
    simp only [callN] at hx
    cases hp : prog f with
    | none => rw [hp] at hx; exact (fail_some hx).elim
    | some rf =>
      rw [hp] at hx
      simp only [] at hx
      rcases hP f rf hp with ⟨fn, c, h1, h2, h3⟩ | ⟨name, h1, h2⟩
      · exact sim_func hm hG (fun g => sim_callN hm hP n { S with ghost := g } hG) h1 h2 h3 hx h ha
      · simp only [RFunc.run, h1] at hx
        exact h2 S args H v H' m w vargs hG hx h ha
end
end Go.Am
