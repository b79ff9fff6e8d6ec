/- Operations without memory. -/
import Derived.Test.YtofdnhdoblpniaaDoorAmOps2
set_option linter.unusedSimpArgs false
set_option linter.unusedVariables false
namespace Go.Am
open Go Go.RowKit

section
variable {P : Program} {S : Base} {m : RMap} {H H' : AHeap} {w : World}

theorem emb_int {v : AVal} {k : IntKind} {n : Int} (h : emb m v = some (.int k n)) : v = .int k n := by
  cases v <;> simp only [emb] at h <;> first | (cases h; rfl) | (cases h; done) | (split at h <;> cases h)
theorem emb_int_mk (k : IntKind) (n : Int) : emb m (.int k n) = some (.int k n) := by simp [emb]
theorem emb_bool_mk (b : Bool) : emb m (.bool b) = some (.bool b) := by simp [emb]

theorem sim_intBin {op : BinOp} {t : TypeId} {k k' : IntKind} {a b : Int} {x y : Operand} {u : AVal} (hx : intBin op k k' a b = some u) :
    ∃ z, (do eqGuard op t x y (.int k a) (.int k' b); binOp op t (.int k a) (.int k' b) : Sem Value).run P w = .ok z w ∧ emb m u = some z := by
  have hg : eqGuard op t x y (.int k a) (.int k' b) = pure () := eqGuard_at_int op t x y _ k a
  rw [hg]
  simp only [Sem.run_bind, Sem.run_pure, Result.andThen_ok]
  cases op <;> simp only [intBin] at hx
  case shl =>
    split at hx
    · cases hx
    · rename_i h; cases hx
      refine ⟨_, ?_, emb_int_mk _ _⟩
      simp only [binOp, Op.shift]
      rw [if_neg h]; rfl
  case shr =>
    split at hx
    · cases hx
    · rename_i h; cases hx
      refine ⟨_, ?_, emb_int_mk _ _⟩
      simp only [binOp, Op.shift]
      rw [if_neg h]; rfl
  all_goals
    split at hx
    · cases hx
    rename_i hk
    simp only [ne_eq, Decidable.not_not] at hk
    subst hk
  case add => cases hx; exact ⟨.int k (k.wrap (a + b)), by rw [binOp_add]; rfl, emb_int_mk _ _⟩
  case sub => cases hx; exact ⟨.int k (k.wrap (a - b)), by rw [binOp_sub]; rfl, emb_int_mk _ _⟩
  case mul => cases hx; exact ⟨.int k (k.wrap (a * b)), by rw [binOp_mul]; rfl, emb_int_mk _ _⟩
  case quo =>
    split at hx
    · cases hx
    · rename_i hb; cases hx
      exact ⟨.int k (k.wrap (a.tdiv b)), by rw [binOp_quo]; simp [Op.intDiv, hb], emb_int_mk _ _⟩
  case rem =>
    split at hx
    · cases hx
    · rename_i hb; cases hx
      exact ⟨.int k (a.tmod b), by rw [binOp_rem]; simp [Op.intDiv, hb], emb_int_mk _ _⟩
  case and => cases hx; exact ⟨.int k (Go.bits .and k a b), by rw [binOp_and, intBits_and]; rfl, emb_int_mk _ _⟩
  case or => cases hx; exact ⟨.int k (Go.bits .or k a b), by rw [binOp_or, intBits_or]; rfl, emb_int_mk _ _⟩
  case xor => cases hx; exact ⟨.int k (Go.bits .xor k a b), by rw [binOp_xor, intBits_xor]; rfl, emb_int_mk _ _⟩
  case andNot => cases hx; exact ⟨.int k (Go.bits .andNot k a b), by rw [binOp_andNot, intBits_andNot]; rfl, emb_int_mk _ _⟩
  case eql => cases hx; exact ⟨.bool (a == b), by rw [binOp_eql]; rfl, emb_bool_mk _⟩
  case neq => cases hx; exact ⟨.bool (a != b), by rw [binOp_neq]; rfl, emb_bool_mk _⟩
  case lss => cases hx; exact ⟨.bool (decide (a < b)), by rw [binOp_lss]; rfl, emb_bool_mk _⟩
  case leq => cases hx; exact ⟨.bool (decide (a ≤ b)), by rw [binOp_leq]; rfl, emb_bool_mk _⟩
  case gtr => cases hx; exact ⟨.bool (decide (a > b)), by rw [binOp_gtr]; rfl, emb_bool_mk _⟩
  case geq => cases hx; exact ⟨.bool (decide (a ≥ b)), by rw [binOp_geq]; rfl, emb_bool_mk _⟩
  all_goals cases hx

theorem sim_strBin {op : BinOp} {t : TypeId} {a b : ByteArray} {x y : Operand} {u : AVal} (hx : strBin op a b = some u) :
    ∃ z, (do eqGuard op t x y (.string a) (.string b); binOp op t (.string a) (.string b) : Sem Value).run P w = .ok z w ∧ emb m u = some z := by
  rw [eqGuard_at_string op t x y _ a]
  simp only [Sem.run_bind, Sem.run_pure, Result.andThen_ok]
  cases op <;> simp only [strBin] at hx
  case add =>
    split at hx
    · cases hx
    · rename_i h; cases hx
      exact ⟨.string (a ++ b), by simp only [binOp, Op.stringOp]; rw [if_neg h]; rfl, by simp [emb]⟩
  all_goals first
    | (cases hx; done)
    | (cases hx; exact ⟨_, rfl, emb_bool_mk _⟩)

theorem sim_bin {op : BinOp} {t : TypeId} {av bv u : AVal} {xv yv : Value} {x y : Operand} (ha : emb m av = some xv) (hb : emb m bv = some yv) (hx : aBin op av bv = some u) :
    ∃ z, (do eqGuard op t x y xv yv; binOp op t xv yv : Sem Value).run P w = .ok z w ∧ emb m u = some z := by
  cases av <;> cases bv <;> simp only [aBin] at hx <;> try (cases hx; done)
  · simp only [emb] at ha hb; cases ha; cases hb; exact sim_intBin hx
  · simp only [emb] at ha hb; cases ha; cases hb; exact sim_strBin hx

theorem sim_un {op : UnOp} {av u : AVal} {x : Value} (ha : emb m av = some x) (hx : aUn op av = some u) : ∃ z, (Op.unary op x).run P w = .ok z w ∧ emb m u = some z := by
  cases av <;> simp only [aUn] at hx <;> try (cases hx; done)
  · simp only [emb] at ha; cases ha
    cases op <;> simp only at hx <;> cases hx
    exact ⟨_, rfl, emb_bool_mk _⟩
  · simp only [emb] at ha; cases ha
    cases op <;> simp only at hx <;> cases hx
    · exact ⟨_, rfl, emb_int_mk _ _⟩
    · exact ⟨_, rfl, emb_int_mk _ _⟩

theorem sim_bound {av : AVal} {x : Value} {y y' n : Nat} {code : BoundsCode} (ha : emb m av = some x) (hx : aBound y av = some n) (hy : y ≤ y') : (Instr.sliceBound x y' code).run P w = .ok n w ∧ n ≤ y := by
  cases av <;> simp only [aBound] at hx <;> try (cases hx; done)
  rename_i k i
  simp only [emb] at ha; cases ha
  split at hx
  · rename_i h; cases hx
    refine ⟨?_, by omega⟩
    simp only [Instr.sliceBound, asIntOf, Sem.run_bind, Sem.run_pure, Result.andThen_ok]
    rw [if_pos ⟨h.1, by omega⟩]; rfl
  · cases hx

def OptE (m : RMap) : Option AVal → Option Value → Prop
  | none, none => True
  | some v, some x => emb m v = some x
  | _, _ => False

theorem cOpt_ev {G nt : Nat} {m : RMap} {fr : AFrame} {a : Act} (hf : FRel nt m fr a.tmps) (hg : Globs G m) {x : Option Operand} {r : Option ROpd} (hc : cOpt G nt x = some r) : OptE m (r.map (·.ev fr)) (x.map a.eval) := by
  cases x with
  | none => simp [cOpt] at hc; subst hc; trivial
  | some x =>
    simp only [cOpt] at hc
    split at hc
    · rename_i y hy; cases hc; exact cOpd_ev hy hf hg
    · cases hc

/-- The bounds of a slice expression. -/
theorem sim_bounds {isSlice : Bool} {len rc : Nat} {cap : Option Nat} {lo hi mx : Option AVal} {lo' hi' mx' : Option Value} {l hh : Nat} {mm : Option Nat}
    (h1 : OptE m lo lo') (h2 : OptE m hi hi') (h3 : OptE m mx mx')
    (hcap : ∀ c, cap = some c → rc = c) (hcap' : cap = none → len ≤ rc) (hx : aBounds len cap lo hi mx = some (l, hh, mm)) :
    ∃ M, (Instr.sliceBounds isSlice len rc lo' hi' mx').run P w = .ok (l, hh, M) w ∧ l ≤ hh ∧ (∀ M', mm = some M' → M = M') ∧ (mm = none → M = rc ∧ cap = none ∧ hh ≤ len ∧ mx = none) := by
  have hcl : capD len cap ≤ rc := by
    cases cap with
    | none => exact hcap' rfl
    | some c => exact Nat.le_of_eq (hcap c rfl).symm
  have low : ∀ (h l : Nat) (code : BoundsCode), aLow h lo = some l → (match lo' with | some v => Instr.sliceBound v h code | none => pure 0).run P w = .ok l w ∧ l ≤ h := by
    intro h l code hl
    cases lo with
    | none => cases lo' with
      | none => simp [aLow] at hl; subst hl; exact ⟨rfl, Nat.zero_le _⟩
      | some _ => exact h1.elim
    | some v => cases lo' with
      | none => exact h1.elim
      | some x => exact sim_bound (P := P) h1 hl (Nat.le_refl _)
  unfold aBounds at hx
  cases mx with
  | some mv =>
    cases mx' with
    | none => exact h3.elim
    | some mx' =>
      cases hi with
      | none => cases hx
      | some hv =>
        cases hi' with
        | none => exact h2.elim
        | some hi' =>
          simp only [] at hx
          cases hm : aBound (capD len cap) mv with
          | none => rw [hm] at hx; cases hx
          | some mm' =>
            rw [hm] at hx
            simp only [] at hx
            cases hb : aBound mm' hv with
            | none => rw [hb] at hx; cases hx
            | some h =>
              rw [hb] at hx
              simp only [] at hx
              cases hl : aLow h lo with
              | none => rw [hl] at hx; cases hx
              | some l' =>
                rw [hl] at hx
                cases hx
                obtain ⟨r1, r1'⟩ := sim_bound (P := P) (w := w) (code := if isSlice then .slice3Acap else .slice3Alen) h3 hm hcl
                obtain ⟨r2, r2'⟩ := sim_bound (P := P) (w := w) (code := .slice3B) h2 hb (Nat.le_refl _)
                obtain ⟨r3, r3'⟩ := low hh l .slice3C hl
                refine ⟨mm', ?_, r3', fun M' e => Option.some.inj e, fun e => by cases e⟩
                simp only [Instr.sliceBounds, Sem.run_bind, r1, Result.andThen_ok, r2, Option.isSome_some, if_true]
                cases lo' with
                | none => simp at r3; subst r3; simp
                | some x => simp only at r3; simp [r3]
  | none =>
    cases mx' with
    | some _ => exact h3.elim
    | none =>
      simp only [] at hx
      cases hb : aHigh len (capD len cap) hi with
      | none => rw [hb] at hx; cases hx
      | some h =>
        rw [hb] at hx
        simp only [] at hx
        cases hl : aLow h lo with
        | none => rw [hl] at hx; cases hx
        | some l' =>
          rw [hl] at hx
          cases hx
          obtain ⟨r3, r3'⟩ := low hh l .sliceB hl
          have r2 : (match hi' with | some v => Instr.sliceBound v rc (if isSlice then .sliceAcap else .sliceAlen) | none => pure len).run P w = .ok hh w ∧ (cap = none → hh ≤ len) := by
            cases hi with
            | none => cases hi' with
              | none => simp [aHigh] at hb; subst hb; exact ⟨rfl, fun _ => Nat.le_refl _⟩
              | some _ => exact h2.elim
            | some v => cases hi' with
              | none => exact h2.elim
              | some x =>
                obtain ⟨q1, q2⟩ := sim_bound (P := P) (w := w) (code := if isSlice then .sliceAcap else .sliceAlen) h2 hb hcl
                exact ⟨q1, fun e => by subst e; exact q2⟩
          refine ⟨rc, ?_, r3', fun M' e => hcap M' e, fun e => by subst e; exact ⟨rfl, rfl, r2.2 rfl, rfl⟩⟩
          simp only [Instr.sliceBounds, Sem.run_bind, Sem.run_pure, Result.andThen_ok]
          cases hi' with
          | none =>
            have r2' := r2.1
            simp only [Sem.run_pure] at r2'
            have e2 : len = hh := by cases r2'; rfl
            subst e2
            cases lo' with
            | none =>
              simp only [Sem.run_pure] at r3
              have e3 : 0 = l := by cases r3; rfl
              subst e3; simp
            | some x => simp only [] at r3; simp [r3]
          | some y =>
            have r2' := r2.1
            simp only [] at r2'
            cases lo' with
            | none =>
              simp only [Sem.run_pure] at r3
              have e3 : 0 = l := by cases r3; rfl
              subst e3; simp [r2']
            | some x => simp only [] at r3; simp [r2', r3]
end
end Go.Am
