/- Each operation of the small machine is the model's. -/
import Derived.Test.YtofdnhdoblpniaaDoorAmRel
set_option linter.unusedSimpArgs false
set_option linter.unusedVariables false
namespace Go.Am
open Go Go.RowKit

theorem bind_some {α β : Type} {x : M α} {f : α → M β} {H : AHeap} {r : β × AHeap} (h : M.bind x f H = some r) : ∃ a H1, x H = some (a, H1) ∧ f a H1 = some r := by
  unfold M.bind at h
  split at h
  · rename_i a H1 h1; exact ⟨a, H1, h1, h⟩
  · cases h
theorem pure_some {α : Type} {a b : α} {H H' : AHeap} (h : M.pure a H = some (b, H')) : b = a ∧ H' = H := by
  unfold M.pure at h; cases h; exact ⟨rfl, rfl⟩
theorem fail_some {α : Type} {H : AHeap} {r : α × AHeap} (h : (M.fail : M α) H = some r) : False := by unfold M.fail at h; cases h
theorem ofOption_some {α : Type} {o : Option α} {a : α} {H H' : AHeap} (h : M.ofOption o H = some (a, H')) : o = some a ∧ H' = H := by
  cases o with
  | none => exact (fail_some (H := H) h).elim
  | some b => obtain ⟨rfl, rfl⟩ := pure_some h; exact ⟨rfl, rfl⟩
theorem aRow_some {r : Nat} {H H' : AHeap} {p : List AVal × Bool} (h : aRow r H = some (p, H')) : H' = H ∧ r < H.n ∧ ∃ e, H.get r = .row p.1 p.2 e := by
  unfold aRow at h
  split at h
  · rename_i hr
    split at h
    · rename_i cs rw e hg; cases h; exact ⟨rfl, hr, e, hg⟩
    · cases h
  · cases h
theorem aNew_some {o : AObj} {r : Nat} {H H' : AHeap} (h : aNew o H = some (r, H')) : r = H.n ∧ H' = H.push o := by
  unfold aNew at h; cases h; exact ⟨rfl, rfl⟩

def FRel (nt : Nat) (m : RMap) (fr : AFrame) (tmps : Array Value) : Prop := tmps.size = nt ∧ ∀ i, i < nt → ∃ x, emb m (fr i) = some x ∧ tmps[i]? = some x

theorem FRel.mono {nt : Nat} {m m' : RMap} {fr : AFrame} {tmps : Array Value} (h : FRel nt m fr tmps) (hm : Le m m') : FRel nt m' fr tmps :=
  ⟨h.1, fun i hi => by obtain ⟨x, h1, h2⟩ := h.2 i hi; exact ⟨x, emb_mono hm _ _ h1, h2⟩⟩

def Globs (G : Nat) (m : RMap) : Prop := ∀ g, g < G → ∃ k, m g = some (⟨g, 0, none⟩, k)

theorem cOpd_ev {G nt : Nat} {x : Operand} {r : ROpd} {m : RMap} {fr : AFrame} {a : Act} (hc : cOpd G nt x = some r) (hf : FRel nt m fr a.tmps) (hg : Globs G m) :
    emb m (r.ev fr) = some (a.eval x) := by
  cases x with
  | tmp t =>
    simp only [cOpd] at hc
    split at hc
    · rename_i ht; cases hc
      obtain ⟨x, h1, h2⟩ := hf.2 t ht
      simp only [ROpd.ev, Act.eval]
      rw [h1]
      simp [Array.getD_eq_getD_getElem?, h2]
    · cases hc
  | const v =>
    simp only [cOpd] at hc
    split at hc
    · rename_i y hy; cases hc; exact ofV_emb m v y hy
    · cases hc
  | global g =>
    simp only [cOpd] at hc
    split at hc
    · rename_i hlt; cases hc
      obtain ⟨k, hk⟩ := hg g hlt
      simp [ROpd.ev, emb, hk, Act.eval, Addr.add]
    · cases hc
  | func f => simp only [cOpd] at hc; cases hc; simp [ROpd.ev, emb, embL, Act.eval]

theorem cOpds_ev {G nt : Nat} {m : RMap} {fr : AFrame} {a : Act} (hf : FRel nt m fr a.tmps) (hg : Globs G m) : ∀ {xs : List Operand} {rs : List ROpd}, cOpds G nt xs = some rs →
    embL m (rs.map (·.ev fr)) = some (xs.map a.eval)
  | [], rs, hc => by simp [cOpds] at hc; subst hc; simp [embL]
  | x :: xs, rs, hc => by
    simp only [cOpds] at hc
    split at hc
    · rename_i r l h1 h2; cases hc
      exact embL_mk (cOpd_ev h1 hf hg) (cOpds_ev hf hg h2)
    · cases hc

/-- What an operation yields: a value and a world. -/
def Yields (P : Program) (s : Sem Next) (w : World) (R : Value → World → Prop) : Prop :=
  match s.run P w with
  | .ok (.value v) w' => R v w'
  | .ok .skip w' => R undef w'
  | .ok (.enter f args) w' => Calls P f args w' fun e w'' => ∃ v, e = .returned v ∧ R v w''
  | _ => False

def vS (s : Sem Value) : Sem Next := do pure (.value (← s))
theorem yields_v {P : Program} {s : Sem Value} {w w' : World} {x : Value} {R : Value → World → Prop} (h : s.run P w = .ok x w') (hr : R x w') : Yields P (do pure (.value (← s))) w R := by
  simp only [Yields, Sem.run_bind, h, Result.andThen_ok, Sem.run_pure]; exact hr
theorem yields_u {P : Program} {s : Sem Unit} {w w' : World} {R : Value → World → Prop} (h : s.run P w = .ok () w') (hr : R undef w') : Yields P (do s; pure .skip) w R := by
  simp only [Yields, Sem.run_bind, h, Result.andThen_ok, Sem.run_pure]; exact hr
theorem yields_pure {P : Program} {x : Value} {w : World} {R : Value → World → Prop} (hr : R x w) : Yields P (pure (.value x)) w R := by
  simp only [Yields, Sem.run_pure]; exact hr
theorem Yields.mono {P : Program} {s : Sem Next} {w : World} {R R' : Value → World → Prop} (h : Yields P s w R) (hr : ∀ v w', R v w' → R' v w') : Yields P s w R' := by
  unfold Yields at h ⊢
  cases hs : s.run P w with
  | halt e w' => rw [hs] at h; exact h.elim
  | ok n w' =>
    rw [hs] at h
    cases n with
    | value v => exact hr _ _ h
    | skip => exact hr _ _ h
    | enter f args => exact h.mono fun e w'' ⟨v, h1, h2⟩ => ⟨v, h1, hr _ _ h2⟩
    | _ => exact h.elim

/-- The outcome of a step: the map has grown, the result and the heap correspond. -/
def Out (S : Base) (m : RMap) (v : AVal) (H' : AHeap) (x : Value) (w' : World) : Prop := ∃ m', Le m m' ∧ emb m' v = some x ∧ HRel S m' H' w'

theorem Out.same {S : Base} {m : RMap} {v : AVal} {H : AHeap} {x : Value} {w : World} (h : HRel S m H w) (hv : emb m v = some x) : Out S m v H x w := ⟨m, Le.refl _, hv, h⟩

section
variable {P : Program} {S : Base} {m : RMap} {H H' : AHeap} {w : World}

theorem run_sizeOf {t : TypeId} {n : Nat} (h : cSize P t = some n) (w : World) : (sizeOf t).run P w = .ok n w := by
  unfold cSize at h
  cases hi : P.info? t with
  | none => rw [hi] at h; cases h
  | some i => rw [hi] at h; cases h; simp [sizeOf, typeInfo, hi]

theorem cAgg_some {t : TypeId} {n : Nat} (h : cAgg P t = some (some n)) (w : World) : (isAgg t).run P w = .ok true w ∧ (sizeOf t).run P w = .ok n w := by
  unfold cAgg at h
  split at h
  · rename_i hu hi; cases h; exact ⟨by simp [isAgg, run_underlying hu], by simp [sizeOf, typeInfo, hi]⟩
  · rename_i hu hi; cases h; exact ⟨by simp [isAgg, run_underlying hu], by simp [sizeOf, typeInfo, hi]⟩
  · split at h <;> cases h
  · cases h
theorem cAgg_none {t : TypeId} (h : cAgg P t = some none) (w : World) : (isAgg t).run P w = .ok false w ∧ (sizeOf t).run P w = .ok 1 w := by
  unfold cAgg at h
  split at h
  · cases h
  · cases h
  · rename_i d i h1 h2 hu hi
    split at h
    · rename_i h3
      refine ⟨?_, by simp [sizeOf, typeInfo, hi, h3]⟩
      simp only [isAgg, Sem.run_bind, run_underlying hu, Result.andThen_ok]
      cases d <;> first | rfl | (exact absurd rfl (h1 _)) | (exact absurd rfl (h2 _ _))
    · cases h
  · cases h
theorem cAgg_size {t : TypeId} {g : Option Nat} (h : cAgg P t = some g) (w : World) : (sizeOf t).run P w = .ok (match g with | some n => n | none => 1) w := by
  cases g with
  | none => exact (cAgg_none h w).2
  | some n => exact (cAgg_some h w).2

/-- A load. -/
theorem sim_load {t : TypeId} {agg : Option Nat} {av u : AVal} {x : Value} (hc : cAgg P t = some agg) (hv : emb m av = some x) (h : HRel S m H w) (hx : aLoad agg av H = some (u, H')) :
    ∃ a y, x = .pointer (some a) ∧ (loadVar t a).run P w = .ok y w ∧ emb m u = some y ∧ H' = H := by
  cases av <;> simp only [aLoad] at hx <;> try exact (fail_some hx).elim
  rename_i r off
  obtain ⟨⟨cs, rw⟩, H1, h1, h2⟩ := bind_some hx
  obtain ⟨rfl, hr, e, hg⟩ := aRow_some h1
  obtain ⟨p, hp, rfl⟩ : ∃ p, m r = some p ∧ x = .pointer (some (p.1.add off)) := by
    simp only [emb] at hv
    split at hv
    · rename_i p hp; cases hv; exact ⟨p, hp, rfl⟩
    · cases hv
  have hok := h.row r cs rw e p hr hg hp
  cases agg with
  | none =>
    simp only [] at h2
    cases hvv : cs[off]? with
    | some v =>
      rw [hvv] at h2
      obtain ⟨rfl, rfl⟩ := pure_some h2
      obtain ⟨y, hy, hcell⟩ := hok.cell off _ hvv
      refine ⟨_, y, rfl, ?_, hy, rfl⟩
      simp [loadVar, (cAgg_none hc w).1, hcell]
    | none => rw [hvv] at h2; exact (fail_some h2).elim
  | some n =>
    simp only [] at h2
    split at h2
    · rename_i hle
      obtain ⟨rfl, rfl⟩ := pure_some h2
      -- the cells
      have hex : ∃ l, embL m ((cs.drop off).take n) = some l ∧ l.length = n ∧ ∀ j v, l[j]? = some v → w.cell? ((p.1.add off).add j) = some v := by
        have hlen : ((cs.drop off).take n).length = n := by simp; omega
        refine ⟨(List.range n).map fun j => ((w.cell? ((p.1.add off).add j)).getD undef), ?_, by simp, ?_⟩
        · refine embL_of_get (by simp; omega) fun i v hi => ?_
          have hin : i < n := by have := (List.getElem?_eq_some_iff.1 hi).1; omega
          have hcs : cs[off + i]? = some v := by
            rw [List.getElem?_take_of_lt hin, List.getElem?_drop] at hi; exact hi
          obtain ⟨y, hy, hcell⟩ := hok.cell _ _ hcs
          exact ⟨y, hy, by simp [hin, add_add, hcell]⟩
        · intro j v hj
          have hjn : j < n := by have := (List.getElem?_eq_some_iff.1 hj).1; simpa using this
          obtain ⟨u, hu⟩ : ∃ u, cs[off + j]? = some u := ⟨cs[off + j], List.getElem?_eq_getElem (by omega)⟩
          obtain ⟨y, hy, hcell⟩ := hok.cell _ _ hu
          simp [hjn, add_add, hcell] at hj
          subst hj
          rw [add_add]; exact hcell
      obtain ⟨l, hl, hln, hcl⟩ := hex
      refine ⟨_, .agg l.toArray, rfl, ?_, by simp [emb, hl], rfl⟩
      have hrun := run_loadCells_list (P := P) w (p.1.add off) l hcl
      rw [hln] at hrun
      simp [loadVar, (cAgg_some hc w).1, (cAgg_some hc w).2, hrun]
    · exact (fail_some h2).elim
end
end Go.Am
