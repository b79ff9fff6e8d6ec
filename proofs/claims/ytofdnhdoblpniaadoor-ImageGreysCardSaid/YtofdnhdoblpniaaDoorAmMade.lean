/- The operations that make a row, at a row that is named beforehand. -/
import Derived.Test.YtofdnhdoblpniaaDoorAmSim
set_option linter.unusedSimpArgs false
set_option linter.unusedVariables false
namespace Go.Am
open Go Go.RowKit

section
variable {P : Program} {m : RMap}

def MadeAs (P : Program) (m : RMap) (s : Sem Next) (cs : List AVal) (e : TypeId) (k : Nat → AVal) : Prop :=
  ∃ xs, embL m cs = some xs ∧ ∀ w : World, ∃ x, s.run P w = .ok (.value x) (w.alloc (.cells xs.toArray e)) ∧ ∀ (m' : RMap) (r : Nat), m' r = some (⟨w.heap.size, 0, none⟩, xs.length) → emb m' (k r) = some x

theorem cZero_all {t : TypeId} {z : List AVal} (h : cZero P t = some z) : ∃ v, (∀ w, (zeroValue t).run P w = .ok v w) ∧ ∀ m, embL m z = some v.cells.toList := by
  unfold cZero at h
  split at h
  · rename_i i hi
    split at h
    · rename_i v hv
      split at h
      · rename_i x hx; cases h
        exact ⟨v, fun w => by simp [zeroValue, typeInfo, hi, hv], fun m => emb_cells (ofV_emb m v x hx)⟩
      · cases h
    · cases h
  · cases h

theorem made_new {e : TypeId} {z : List AVal} (hc : cZero P e = some z) : MadeAs P m (do pure (.value (← Instr.alloc e true (.tuple #[])))) z e (fun r => .ptr r 0) := by
  obtain ⟨v, hv, hz⟩ := cZero_all hc
  refine ⟨_, hz m, fun w => ⟨.pointer (some ⟨w.heap.size, 0, none⟩), ?_, fun m' r hr => by simp [emb, hr, Addr.add]⟩⟩
  simp [Instr.alloc, hv, newVar, newRow]

theorem made_box {e : TypeId} {v : AVal} {x : Value} (hv : emb m v = some x) : MadeAs P m (do pure (.value (← Instr.box e x))) v.cells e (fun r => .ptr r 0) := by
  refine ⟨_, emb_cells hv, fun w => ⟨.pointer (some ⟨w.heap.size, 0, none⟩), ?_, fun m' r hr => by simp [emb, hr, Addr.add]⟩⟩
  simp [Instr.box, newVar, newRow]

theorem made_buildSlice {nt : Nat} {fr : AFrame} {a : Act} (hf : FRel nt m fr a.tmps) (hg : Globs P.globals.size m) {t e : TypeId} {len s : Nat} {z cs : List AVal} {ps : Array (Nat × Operand)} {l : List (Nat × Nat × ROpd)}
    (hu : P.underlying t = some (.slice e)) (hs : cSize P e = some s) (hz : cZero P e = some z) (hcond : z.length = s ∧ 0 < s ∧ len * s ≤ 2 ^ 24) (hl : cParts P nt (fun i => some (i * s, s)) ps.toList = some l)
    (hcs : aFill fr (List.replicate len z).flatten l = some cs) : MadeAs P m (do pure (.value (← Instr.buildSlice t len (ps.map fun (i, x) => (i, a.eval x))))) cs e (fun r => .slice r 0 len (some len) s) := by
  obtain ⟨v, hv, hz'⟩ := cZero_all hz
  obtain ⟨hz1, hz2, hz3⟩ := hcond
  have hzl := embL_length (hz' m)
  have hvs : v.cells.size = s := by simp at hzl; omega
  have hrep := embL_replicate (hz' m) len
  rw [← replicate_flatten v.cells len (by omega)] at hrep
  obtain ⟨zs, h3, h4⟩ := sim_fill hf hg (fun _ _ => trivial) hl hcs hrep
  refine ⟨_, h4, fun w => ⟨.slice (some ⟨w.heap.size, 0, none⟩) len len, ?_, fun m' r hr => by simp [emb, hr, Addr.add, capR]⟩⟩
  simp only [hvs] at h3
  have hn0 : len = 0 ∨ len * s ≠ 0 := by
    rcases Nat.eq_zero_or_pos len with h | h
    · exact Or.inl h
    · exact Or.inr (Nat.ne_of_gt (Nat.mul_pos h hz2))
  simp only [Instr.buildSlice, Sem.run_bind, run_underlying hu, Result.andThen_ok, run_sizeOf hs]
  rw [if_neg (by omega)]
  rcases hn0 with h0 | h0
  · subst h0
    have hemp : ∀ (f : Nat → Value), (Array.range 0).map f = #[] := fun f => by simp [Array.range_zero']
    simp only [Nat.zero_mul, hemp] at h3
    simp only [Nat.zero_mul, if_true, Sem.run_bind, Sem.run_pure, Result.andThen_ok, hemp]
    simp [newRow, h3]
  · rw [if_neg h0]
    simp [hv, hvs, h3, newRow]

theorem made_makeSlice {t e : TypeId} {s b : Nat} {z : List AVal} (hu : P.underlying t = some (.slice e)) (hs : cSize P e = some s) (hz : cZero P e = some z) (hb : cBytes P e = some b) (hzs : z.length = s) (hs0 : 0 < s)
    {k1 k2 : IntKind} {len cap : Int} (hcond : 0 ≤ len ∧ len ≤ cap ∧ b * cap ≤ 2 ^ 47 ∧ cap < 2 ^ 62) :
    MadeAs P m (do pure (.value (← Instr.makeSlice t (.int k1 len) (.int k2 cap)))) (List.replicate cap.toNat z).flatten e (fun r => .slice r 0 len.toNat (some cap.toNat) z.length) := by
  obtain ⟨h0, h1, h2, h3⟩ := hcond
  obtain ⟨i, hi, hib⟩ := run_typeInfo hb
  have wl : IntKind.i64.wrap len = len := by rw [IntKind.wrap_i64]; omega
  have wc : IntKind.i64.wrap cap = cap := by rw [IntKind.wrap_i64]; omega
  obtain ⟨v, hv, hz'⟩ := cZero_all hz
  have hvs : v.cells.size = s := by have := embL_length (hz' m); simp at this; omega
  have hrep := embL_replicate (hz' m) cap.toNat
  rw [← replicate_flatten v.cells cap.toNat (by omega)] at hrep
  refine ⟨_, hrep, fun w => ⟨.slice (some ⟨w.heap.size, 0, none⟩) len.toNat cap.toNat, ?_, fun m' r hr => by simp [emb, hr, Addr.add, capR]⟩⟩
  have hbig : ¬ (b * cap > 2 ^ 48) := by
    have : (b : Int) * cap ≤ 2 ^ 47 := h2
    omega
  simp only [Instr.makeSlice, Sem.run_bind, run_underlying hu, Result.andThen_ok, asInt, asIntOf, Sem.run_pure, hi, hib, wl, wc]
  rw [if_neg (by
    simp only [Bool.or_eq_true, decide_eq_true_eq, not_or]
    refine ⟨⟨⟨by omega, by simpa using hbig⟩, by omega⟩, by omega⟩)]
  simp only [Sem.run_bind, run_askRoom, Result.andThen_ok, run_sizeOf hs]
  by_cases hc0 : cap.toNat * s = 0
  · have : cap.toNat = 0 := by
      rcases Nat.mul_eq_zero.1 hc0 with h | h
      · exact h
      · omega
    rw [if_pos hc0]
    simp only [Sem.run_pure, Result.andThen_ok, newRow, Sem.run_bind, run_newObj, this, Nat.zero_mul]
    have hemp : ∀ (f : Nat → Value), (Array.range 0).map f = #[] := fun f => by simp [Array.range_zero']
    rw [hemp, hemp]
    rfl
  · rw [if_neg hc0]
    simp only [Sem.run_bind, hv, Sem.run_pure, Result.andThen_ok, newRow, run_newObj, hvs, Array.toArray_toList]
    rfl

/- which operations these are -/
theorem cEqOp_shape {op : BinOp} {q : Option EqDesc} {x y : Option ROpd} {ro : ROp} (h : cEqOp op q x y = some ro) : ∃ n d a b, ro = .eq n d a b := by
  unfold cEqOp at h
  split at h
  · cases h; exact ⟨_, _, _, _, rfl⟩
  · cases h; exact ⟨_, _, _, _, rfl⟩
  · cases h

theorem sim_made {nt : Nat} {fr : AFrame} {a : Act} {o : Oper} {ro : ROp} {cs : List AVal} {e : TypeId} {k : Nat → AVal} (hc : cOp P nt o = some ro) (hf : FRel nt m fr a.tmps) (hg : Globs P.globals.size m)
    (hm : ro.made fr = some (cs, e, k)) : MadeAs P m (execOp a.eval o) cs e k := by
  obtain ⟨dst, op, ty, pos, after, guard⟩ := o
  cases op with
  | alloc e' =>
    simp only [cOp] at hc
    cases hz : cZero P e' with
    | none => rw [hz] at hc; cases hc
    | some z => rw [hz] at hc; cases hc; simp only [ROp.made] at hm; cases hm; exact made_new hz
  | box e' x =>
    simp only [cOp] at hc
    cases hu : cOpd P.globals.size nt x with
    | none => rw [hu] at hc; cases hc
    | some r => rw [hu] at hc; cases hc; simp only [ROp.made] at hm; cases hm; exact made_box (cOpd_ev hu hf hg)
  | buildSlice t len ps =>
    simp only [cOp] at hc
    split at hc
    · rename_i e' hu
      split at hc
      · rename_i s z hs hz
        split at hc
        · rename_i hcond
          split at hc
          · rename_i l hl; cases hc
            simp only [ROp.made] at hm
            cases hcs : aFill fr (List.replicate len z).flatten l with
            | none => rw [hcs] at hm; cases hm
            | some cs' => rw [hcs] at hm; cases hm; exact made_buildSlice hf hg hu hs hz hcond hl hcs
          · cases hc
        · cases hc
      · cases hc
    · cases hc
  | makeSlice t l c =>
    simp only [cOp] at hc
    split at hc
    · rename_i e' hu
      split at hc
      · rename_i s z b l' c' hs hz hb h1 h2
        split at hc
        · rename_i hcond; cases hc
          have e1 := cOpd_ev h1 hf hg; have e2 := cOpd_ev h2 hf hg
          simp only [ROp.made] at hm
          cases hl : l'.ev fr <;> rw [hl] at hm e1 <;> try (cases hm; done)
          cases hcc : c'.ev fr <;> rw [hcc] at hm e2 <;> try (cases hm; done)
          simp only [] at hm
          split at hm
          · rename_i hcnd; cases hm
            simp only [emb] at e1 e2
            show MadeAs P m (do pure (.value (← Instr.makeSlice t (a.eval l) (a.eval c)))) _ _ _
            rw [← Option.some.inj e1, ← Option.some.inj e2]
            exact made_makeSlice hu hs hz hb hcond.1 hcond.2 hcnd
          · cases hm
        · cases hc
      · cases hc
    · cases hc
  | binOp op t x y b =>
    simp only [cOp] at hc
    split at hc
    · split at hc
      · cases hc; cases hm
      · cases hc
    · split at hc
      · cases hc; cases hm
      · cases hc
    · obtain ⟨n, d, x, y, rfl⟩ := cEqOp_shape hc; cases hm
  | call c =>
    exfalso
    obtain ⟨callee, args, argTypes⟩ := c
    cases callee with
    | invoke r n => simp [cOp] at hc
    | value f =>
      simp only [cOp] at hc
      split at hc
      · cases hc; cases hm
      · cases hc
    | builtin b =>
      cases b <;> simp only [cOp] at hc
      all_goals repeat' (split at hc)
      all_goals first
        | (cases hc; done)
        | (cases hc; cases hm; done)
        | (obtain ⟨s, _, rfl⟩ := Option.map_eq_some_iff.1 hc; cases hm; done)
  | _ =>
    exfalso
    simp only [cOp] at hc
    repeat' (split at hc)
    all_goals first
      | (cases hc; done)
      | (cases hc; cases hm; done)
      | (obtain ⟨s, _, rfl⟩ := Option.map_eq_some_iff.1 hc; cases hm; done)
end
end Go.Am
