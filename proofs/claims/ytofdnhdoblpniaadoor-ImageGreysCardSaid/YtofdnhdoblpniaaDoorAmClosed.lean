/- Closed calls: what the kernel has worked out over the package-level tables alone holds in every world that holds them; such a function may be taken for one without a body. -/
import Derived.Test.YtofdnhdoblpniaaDoorAmHoare
set_option linter.unusedSimpArgs false
set_option linter.unusedVariables false
namespace Go.Am
open Go Go.RowKit

section
variable {P : Program} {S : Base} {m : RMap} {H : AHeap} {w w' : World}

/-- What stood at a call's start stands as it did. -/
theorem HRel.kept (h : HRel S m H w) (hb : Below w.heap.size w w') : HRel S m H w' := by
  have hB : Below S.B S.W0 w' := h.below.trans (hb.mono h.size)
  refine ⟨hB, Nat.le_trans h.size hb.size, h.glob, h.fresh, h.away, fun r cs rw e p hr hg hp => ?_, h.apart⟩
  have hok := h.row r cs rw e p hr hg hp
  refine ⟨fun i v hi => ?_, hok.len, fun hrw => ⟨⟨(hok.own hrw).1.1, ?_⟩, fun i hi => ?_⟩⟩
  · obtain ⟨x, h1, h2⟩ := hok.cell i v hi
    exact ⟨x, h1, by rw [hb.cell (cell_lt h2)]; exact h2⟩
  · obtain ⟨c, fz, hh, hrest⟩ := (hok.own hrw).1.2
    exact ⟨c, fz, by rw [hb.block _ (Array.getElem?_eq_some_iff.1 hh).1]; exact hh, hrest⟩
  · obtain ⟨h1, h2⟩ := (hok.own hrw).2 i hi
    obtain ⟨u, hu⟩ := Option.isSome_iff_exists.1 h1
    have hlt := cell_lt hu
    rw [hb.cell hlt, hb.frozen hlt]
    exact ⟨h1, h2⟩

/-- The rows of a heap that are tables: those of another. -/
def tablesIn (T : List (Nat × List AVal)) (H : AHeap) : Bool := T.all fun t => Nat.blt t.1 H.n && match H.get t.1 with | .row cs _ _ => abeqL cs t.2 | _ => false
def tableObj : List (Nat × List AVal) → Nat → AObj
  | [], _ => .dead
  | (g, cs) :: T, i => cond (Nat.beq i g) (.row cs false 0) (tableObj T i)
def tableHeap (G : Nat) (T : List (Nat × List AVal)) : AHeap := ⟨G, tableObj T⟩

def globMap (G L : Nat) : RMap := fun g => if g < G then some (⟨g, 0, none⟩, L) else none
def longest : List (Nat × List AVal) → Nat
  | [] => 0
  | t :: T => t.2.length + longest T
theorem le_longest {T : List (Nat × List AVal)} {t : Nat × List AVal} (h : t ∈ T) : t.2.length ≤ longest T := by
  induction T with
  | nil => simp at h
  | cons u T ih =>
    simp only [longest]
    rcases List.mem_cons.1 h with rfl | h
    · omega
    · have := ih h; omega

theorem tableObj_row {T : List (Nat × List AVal)} {i : Nat} {cs : List AVal} {rw : Bool} {e : TypeId} (h : tableObj T i = .row cs rw e) : (i, cs) ∈ T ∧ rw = false := by
  induction T with
  | nil => cases h
  | cons t T ih =>
    obtain ⟨g, l⟩ := t
    simp only [tableObj] at h
    cases hb : Nat.beq i g with
    | true =>
      rw [hb] at h; cases h
      have := Nat.eq_of_beq_eq_true hb
      subst this
      exact ⟨by simp, rfl⟩
    | false =>
      rw [hb] at h
      obtain ⟨h1, h2⟩ := ih h
      exact ⟨List.mem_cons_of_mem _ h1, h2⟩

/-- Plain values: they mean the same in every place. -/
def plainV : AVal → Bool
  | .bool _ | .int _ _ | .str _ | .nptr | .nslice | .nfunc | .niface => true
  | _ => false
theorem plain_emb {v : AVal} (h : plainV v = true) (m m' : RMap) : emb m v = emb m' v := by cases v <;> first | rfl | (simp [plainV] at h)

/-- A function of no argument that the kernel has run over the tables alone. -/
def aClosed (T : List (Nat × List AVal)) (v : AVal) : List AVal → M AVal
  | [] => fun H => match tablesIn T H with | true => some (v, H) | false => none
  | _ => M.fail

theorem ext_closed (hmix : P.follows .mixedOrders = true) {ext0 : Exts} {prog0 : FuncId → Option RFunc} (hP : ProgOk P ext0 prog0) {T : List (Nat × List AVal)} {f : FuncId} {fn : Func} {c : Code} (hfn : P.funcs[f]? = some fn) (hb : fn.body = some c) (hname : fn.name ≠ "runtime.NumGoroutine")
    {n : Nat} {v : AVal} (hv : plainV v = true) (hT : (T.all fun t => Nat.blt t.1 P.globals.size && t.2.all plainV) = true) (hrun : ∃ H', callN ext0 prog0 n f [] (tableHeap P.globals.size T) = some (v, H'))
    {ext : Exts} {k : Nat} (hk : ext k = aClosed T v) : ExtSim P ext f k := by
  intro S args H u H' m w vargs hG hx h ha
  rw [hk] at hx
  cases args with
  | cons a l => exact (fail_some (H := H) hx).elim
  | nil =>
    simp only [embL] at ha; cases ha
    unfold aClosed at hx
    cases ht : tablesIn T H with
    | false => simp only [ht] at hx; cases hx
    | true =>
      simp only [ht, Option.some.injEq, Prod.mk.injEq] at hx
      obtain ⟨rfl, rfl⟩ := hx
      obtain ⟨H1, hrun⟩ := hrun
      simp only [tablesIn, List.all_eq_true, Bool.and_eq_true] at ht hT
      have hrel : HRel ⟨w.heap.size, w, P.globals.size, fun _ => False⟩ (globMap P.globals.size (longest T)) (tableHeap P.globals.size T) w := by
        refine ⟨Below.refl _ _, Nat.le_refl _, fun g hg => ⟨longest T, by simp only at hg; simp [globMap, hg]⟩, fun r hr => by simp only [tableHeap] at hr; simp [globMap]; omega, fun r hr => hr.elim, ?_, ?_⟩
        · intro r cs rw e p hr hg hp
          obtain ⟨hmem, rfl⟩ := tableObj_row hg
          have hT1 := hT _ hmem
          have ht1 := ht _ hmem
          simp only [] at hT1 ht1
          have hrG : r < P.globals.size := by simpa using hT1.1
          have hp' : p = (⟨r, 0, none⟩, longest T) := by simp only [globMap, hrG, if_true] at hp; exact (Option.some.inj hp).symm
          subst hp'
          obtain ⟨k, hmk⟩ := h.glob r (by rw [hG]; exact hrG)
          have hrn : r < H.n := by simpa using ht1.1
          cases hgr : H.get r with
          | row cs' rw' e' =>
            have ht2 := ht1.2
            rw [hgr] at ht2
            simp only [] at ht2
            have hcs := abeqL_eq ht2
            subst hcs
            have hok := h.row r cs' rw' e' _ hrn hgr hmk
            refine ⟨fun i u hi => ?_, le_longest hmem, fun q => by cases q⟩
            obtain ⟨x, h1, h2⟩ := hok.cell i u hi
            have hpl : plainV u = true := hT1.2 u (List.mem_of_getElem? hi)
            exact ⟨x, by rw [plain_emb hpl _ m]; exact h1, h2⟩
          | _ => have ht2 := ht1.2; rw [hgr] at ht2; cases ht2
        · intro r s cs rw e cs' e' p q hr hs hne hg1 hg2 hp hq
          exact absurd (tableObj_row hg2).2 (by decide)
      have hy := sim_callN hmix hP n ⟨w.heap.size, w, P.globals.size, fun _ => False⟩ rfl f [] (tableHeap P.globals.size T) v H1 (globMap P.globals.size (longest T)) w [] hrun hrel (by simp [embL])
      refine hy.mono fun x w' ⟨m', _, hx, hrel'⟩ => ?_
      refine ⟨m, Le.refl _, by rw [plain_emb hv m m']; exact hx, h.kept hrel'.below⟩
end
end Go.Am
