/- The relation between the small machine's heap and the model's world. -/
import Derived.Test.YtofdnhdoblpniaaDoorAmComp
import Derived.Laws.Cells
set_option linter.unusedSimpArgs false
set_option linter.unusedVariables false
namespace Go.Am
open Go Go.RowKit

theorem embL_nil (m : RMap) : embL m [] = some [] := by simp [embL]
theorem embL_cons {m : RMap} {v : AVal} {vs : List AVal} {l : List Value} (h : embL m (v :: vs) = some l) :
    ∃ x xs, emb m v = some x ∧ embL m vs = some xs ∧ l = x :: xs := by
  rw [embL] at h
  split at h
  · rename_i x xs h1 h2
    exact ⟨x, xs, h1, h2, (Option.some.inj h).symm⟩
  · cases h
theorem embL_mk {m : RMap} {v : AVal} {vs : List AVal} {x : Value} {xs : List Value} (h1 : emb m v = some x) (h2 : embL m vs = some xs) :
    embL m (v :: vs) = some (x :: xs) := by simp [embL, h1, h2]

def Le (m m' : RMap) : Prop := ∀ r p, m r = some p → m' r = some p
theorem Le.refl (m : RMap) : Le m m := fun _ _ h => h
theorem Le.trans {a b c : RMap} (h : Le a b) (k : Le b c) : Le a c := fun r p hp => k r p (h r p hp)
theorem get_mono {m m' : RMap} (h : Le m m') {r : Nat} {p : Addr × Nat} (hp : m r = some p) : m' r = some p := h r p hp
def RMap.add (m : RMap) (n : Nat) (x : Addr × Nat) : RMap := fun r => if r = n then some x else m r
theorem add_eq {m : RMap} {n : Nat} {x : Addr × Nat} : (m.add n x) n = some x := by simp [RMap.add]
theorem add_ne {m : RMap} {n r : Nat} {x : Addr × Nat} (h : r ≠ n) : (m.add n x) r = m r := by simp [RMap.add, h]
theorem le_add {m : RMap} {n : Nat} (x : Addr × Nat) (h : m n = none) : Le m (m.add n x) := fun r p hp => by
  by_cases hr : r = n
  · subst hr; rw [h] at hp; cases hp
  · rw [add_ne hr]; exact hp

mutual
theorem emb_mono {m m' : RMap} (h : Le m m') : ∀ (v : AVal) (x : Value), emb m v = some x → emb m' v = some x
  | .bool b, x, hx => by simpa [emb] using hx
  | .int k n, x, hx => by simpa [emb] using hx
  | .str s, x, hx => by simpa [emb] using hx
  | .nptr, x, hx => by simpa [emb] using hx
  | .nslice, x, hx => by simpa [emb] using hx
  | .nfunc, x, hx => by simpa [emb] using hx
  | .niface, x, hx => by simpa [emb] using hx
  | .ptr r off, x, hx => by
    simp only [emb] at hx ⊢
    split at hx
    · rename_i p hp; rw [get_mono h hp]; exact hx
    · cases hx
  | .slice r off len cap sz, x, hx => by
    simp only [emb] at hx ⊢
    split at hx
    · rename_i p hp; rw [get_mono h hp]; exact hx
    · cases hx
  | .func fn fi ca, x, hx => by
    simp only [emb] at hx ⊢
    split at hx
    · rename_i a b h1 h2; rw [embL_mono h _ _ h1, embL_mono h _ _ h2]; exact hx
    · cases hx
  | .iface t v, x, hx => by
    simp only [emb] at hx ⊢
    split at hx
    · rename_i y hy; rw [emb_mono h _ _ hy]; exact hx
    · cases hx
  | .agg cs, x, hx => by
    simp only [emb] at hx ⊢
    split at hx
    · rename_i y hy; rw [embL_mono h _ _ hy]; exact hx
    · cases hx
  | .tuple cs, x, hx => by
    simp only [emb] at hx ⊢
    split at hx
    · rename_i y hy; rw [embL_mono h _ _ hy]; exact hx
    · cases hx
theorem embL_mono {m m' : RMap} (h : Le m m') : ∀ (l : List AVal) (x : List Value), embL m l = some x → embL m' l = some x
  | [], x, hx => by simpa [embL] using hx
  | v :: vs, x, hx => by
    obtain ⟨y, ys, h1, h2, rfl⟩ := embL_cons hx
    exact embL_mk (emb_mono h _ _ h1) (embL_mono h _ _ h2)
end

mutual
theorem ofV_emb (m : RMap) : ∀ (x : Value) (v : AVal), ofV x = some v → emb m v = some x
  | .bool b, v, h => by simp [ofV] at h; subst h; simp [emb]
  | .int k n, v, h => by simp [ofV] at h; subst h; simp [emb]
  | .string s, v, h => by simp [ofV] at h; subst h; simp [emb]
  | .pointer none, v, h => by simp [ofV] at h; subst h; simp [emb]
  | .pointer (some a), v, h => by simp [ofV] at h
  | .slice none 0 0, v, h => by simp [ofV] at h; subst h; simp [emb]
  | .slice none (_ + 1) _, v, h => by simp [ofV] at h
  | .slice none 0 (_ + 1), v, h => by simp [ofV] at h
  | .slice (some _) _ _, v, h => by simp [ofV] at h
  | .nilFunc, v, h => by simp [ofV] at h; subst h; simp [emb]
  | .nilIface, v, h => by simp [ofV] at h; subst h; simp [emb]
  | .agg ⟨cs⟩, v, h => by
    simp only [ofV] at h
    split at h
    · rename_i l hl; cases h; simp [emb, ofVL_emb m cs _ hl]
    · cases h
  | .tuple ⟨cs⟩, v, h => by
    simp only [ofV] at h
    split at h
    · rename_i l hl; cases h; simp [emb, ofVL_emb m cs _ hl]
    · cases h
  | .iface t x, v, h => by
    simp only [ofV] at h
    split at h
    · rename_i l hl; cases h; simp [emb, ofV_emb m x _ hl]
    · cases h
  | .float _ _, v, h => by simp [ofV] at h
  | .complex _ _ _, v, h => by simp [ofV] at h
  | .map _, v, h => by simp [ofV] at h
  | .chan _, v, h => by simp [ofV] at h
  | .func _ _ _, v, h => by simp [ofV] at h
theorem ofVL_emb (m : RMap) : ∀ (x : List Value) (v : List AVal), ofVL x = some v → embL m v = some x
  | [], v, h => by simp [ofVL] at h; subst h; simp [embL]
  | x :: xs, v, h => by
    simp only [ofVL] at h
    split at h
    · rename_i a l h1 h2; cases h; exact embL_mk (ofV_emb m x _ h1) (ofVL_emb m xs _ h2)
    · cases h
end

theorem embL_length {m : RMap} : ∀ {l : List AVal} {x : List Value}, embL m l = some x → x.length = l.length
  | [], x, h => by simp [embL] at h; subst h; rfl
  | v :: vs, x, h => by
    obtain ⟨y, ys, _, h2, rfl⟩ := embL_cons h
    simp [embL_length h2]
theorem embL_get {m : RMap} : ∀ {l : List AVal} {x : List Value}, embL m l = some x → ∀ {i : Nat} {v : AVal}, l[i]? = some v → ∃ y, emb m v = some y ∧ x[i]? = some y
  | [], x, h, i, v, hi => by simp at hi
  | a :: as, x, h, i, v, hi => by
    obtain ⟨y, ys, h1, h2, rfl⟩ := embL_cons h
    cases i with
    | zero => simp at hi; subst hi; exact ⟨y, h1, rfl⟩
    | succ i => simp at hi ⊢; exact embL_get h2 hi
theorem embL_of_get {m : RMap} : ∀ {l : List AVal} {x : List Value}, x.length = l.length → (∀ (i : Nat) (v : AVal), l[i]? = some v → ∃ y, emb m v = some y ∧ x[i]? = some y) → embL m l = some x
  | [], x, hl, _ => by cases x <;> simp_all [embL]
  | a :: as, x, hl, h => by
    cases x with
    | nil => simp at hl
    | cons y ys =>
      obtain ⟨z, hz, hy⟩ := h 0 a rfl
      simp at hy; subst hy
      exact embL_mk hz (embL_of_get (by simpa using hl) fun i v hi => by simpa using h (i + 1) v (by simpa using hi))
theorem embL_append {m : RMap} {a b : List AVal} {x y : List Value} (h1 : embL m a = some x) (h2 : embL m b = some y) : embL m (a ++ b) = some (x ++ y) := by
  induction a generalizing x with
  | nil => simp [embL] at h1; subst h1; simpa using h2
  | cons v vs ih =>
    obtain ⟨z, zs, h3, h4, rfl⟩ := embL_cons h1
    exact embL_mk h3 (ih h4)
theorem embL_take {m : RMap} {a : List AVal} {x : List Value} (h : embL m a = some x) (n : Nat) : embL m (a.take n) = some (x.take n) := by
  induction a generalizing x n with
  | nil => simp [embL] at h; subst h; simp [embL]
  | cons v vs ih =>
    obtain ⟨z, zs, h3, h4, rfl⟩ := embL_cons h
    cases n with
    | zero => simp [embL]
    | succ n => simpa using embL_mk h3 (ih h4 n)
theorem embL_drop {m : RMap} {a : List AVal} {x : List Value} (h : embL m a = some x) (n : Nat) : embL m (a.drop n) = some (x.drop n) := by
  induction a generalizing x n with
  | nil => simp [embL] at h; subst h; simp [embL]
  | cons v vs ih =>
    obtain ⟨z, zs, h3, h4, rfl⟩ := embL_cons h
    cases n with
    | zero => simpa using embL_mk h3 h4
    | succ n => simpa using ih h4 n

theorem emb_cells {m : RMap} {v : AVal} {x : Value} (h : emb m v = some x) : embL m v.cells = some x.cells.toList := by
  cases v <;> simp only [emb] at h
  case agg cs =>
    split at h
    · rename_i l hl; cases h; simpa [AVal.cells, Value.cells] using hl
    · cases h
  case ptr => split at h <;> first | (cases h; done) | (cases h; simp [AVal.cells, Value.cells, embL, emb, *])
  case slice => split at h <;> first | (cases h; done) | (cases h; simp [AVal.cells, Value.cells, embL, emb, *])
  case func => split at h <;> first | (cases h; done) | (cases h; simp [AVal.cells, Value.cells, embL, emb, *])
  case iface => split at h <;> first | (cases h; done) | (cases h; simp [AVal.cells, Value.cells, embL, emb, *])
  case tuple => split at h <;> first | (cases h; done) | (cases h; simp [AVal.cells, Value.cells, embL, emb, *])
  all_goals (cases h; simp [AVal.cells, Value.cells, embL, emb])
theorem emb_one {m : RMap} {v : AVal} {x : Value} (h : emb m v = some x) (h1 : v.one = true) : x.oneCell' = true := by
  cases v <;> simp only [emb] at h <;> first | (simp [AVal.one] at h1; done) | (cases h; rfl) | (split at h <;> first | (cases h; done) | (cases h; rfl))

theorem add_add (a : Addr) (i j : Nat) : (a.add i).add j = a.add (i + j) := by
  unfold Addr.add
  split <;> split <;> simp_all [Nat.add_assoc]
theorem add_block (a : Addr) (i : Nat) : (a.add i).block = a.block := by unfold Addr.add; split <;> rfl
theorem add_spot {a : Addr} (h : a.spot = none) {i : Nat} : (a.add i).spot = none := by unfold Addr.add; split <;> simp_all
theorem add_inj {a : Addr} {i j : Nat} (h : a.add i = a.add j) : i = j := by
  unfold Addr.add at h
  split at h <;> split at h <;> simp_all
  · have := congrArg Addr.off h; simp at this; omega
  · have := congrArg Addr.off h; simp at this; omega

structure RowOk (B : Nat) (m : RMap) (w : World) (a : Addr) (k : Nat) (cs : List AVal) (rw : Bool) (e : TypeId) : Prop where
  cell : ∀ (i : Nat) (v : AVal), cs[i]? = some v → ∃ x, emb m v = some x ∧ w.cell? (a.add i) = some x
  len : cs.length ≤ k
  own : rw = true → (B ≤ a.block ∧ ∃ c fz, w.heap[a.block]? = some (.cells c (e / 2) fz) ∧ a.spot = none ∧ (e % 2 = 0 → a.off = 0 ∧ c.size = k)) ∧ ∀ i, i < k → (w.cell? (a.add i)).isSome = true ∧ w.frozen? (a.add i) = false

structure Base where
  B : Nat
  W0 : World
  G : Nat
  ghost : Nat → Prop

structure HRel (S : Base) (m : RMap) (H : AHeap) (w : World) : Prop where
  below : Below S.B S.W0 w
  size : S.B ≤ w.heap.size
  glob : ∀ g, g < S.G → ∃ k, m g = some (⟨g, 0, none⟩, k)
  fresh : ∀ r, H.n ≤ r → m r = none
  away : ∀ r, S.ghost r → m r = none ∧ r < H.n
  row : ∀ r cs rw e p, r < H.n → H.get r = .row cs rw e → m r = some p → RowOk S.B m w p.1 p.2 cs rw e
  apart : ∀ r s cs rw e cs' e' p q, r < H.n → s < H.n → r ≠ s → H.get r = .row cs rw e → H.get s = .row cs' true e' → m r = some p → m s = some q → (cs = [] ∧ rw = false) ∨ p.1.block ≠ q.1.block

/-- A block of cells stays one of the same type. -/
def Keeps (w w' : World) (b : Nat) : Prop := ∀ c e fz, w.heap[b]? = some (.cells c e fz) → ∃ c' fz', w'.heap[b]? = some (.cells c' e fz') ∧ c'.size = c.size

theorem RowOk.mono {B : Nat} {m m' : RMap} {w w' : World} {a : Addr} {k : Nat} {cs : List AVal} {rw : Bool} {e : TypeId} (h : RowOk B m w a k cs rw e) (hm : Le m m') (hs : Keeps w w' a.block)
    (hc : ∀ i, w'.cell? (a.add i) = w.cell? (a.add i)) (hf : ∀ i, w'.frozen? (a.add i) = w.frozen? (a.add i)) : RowOk B m' w' a k cs rw e :=
  ⟨fun i v hi => by obtain ⟨x, h1, h2⟩ := h.cell i v hi; exact ⟨x, emb_mono hm _ _ h1, by rw [hc]; exact h2⟩, h.len,
   fun hr => ⟨⟨(h.own hr).1.1, by obtain ⟨c, fz, hh, hsp, hz⟩ := (h.own hr).1.2; obtain ⟨c', fz', h1, h2⟩ := hs _ _ _ hh; exact ⟨c', fz', h1, hsp, fun q => by rw [h2]; exact hz q⟩⟩, fun i hi => by rw [hc, hf]; exact (h.own hr).2 i hi⟩⟩

theorem Keeps.refl (w : World) (b : Nat) : Keeps w w b := fun c _ fz h => ⟨c, fz, h, rfl⟩
theorem Keeps.alloc (w : World) (o : Obj) (b : Nat) : Keeps w (w.alloc o) b := fun c e fz h => ⟨c, fz, by
  have hb : b < w.heap.size := (Array.getElem?_eq_some_iff.1 h).1
  rw [Below.heap_alloc _ _ _ hb]; exact ⟨h, rfl⟩⟩
theorem Keeps.setCell (w : World) (a : Addr) (v : Value) (b : Nat) : Keeps w (w.setCell a v) b := fun c e fz h => by
  simp only [World.setCell, Array.getElem?_modify]
  by_cases hb : a.block = b
  · simp [hb, h]; split <;> simp
  · simp [hb, h]

theorem HRel.drew {S : Base} {m : RMap} {H : AHeap} {w : World} (h : HRel S m H w) : HRel S m H w.drew :=
  ⟨h.below.drew, h.size, h.glob, h.fresh, h.away, fun r cs rw e p hr hg hp => (h.row r cs rw e p hr hg hp).mono (Le.refl _) (Keeps.refl _ _) (fun _ => rfl) (fun _ => rfl), h.apart⟩

theorem nbeq_ne {a b : Nat} (h : a ≠ b) : Nat.beq a b = false := by
  cases h' : Nat.beq a b with
  | false => rfl
  | true => exact absurd (Nat.eq_of_beq_eq_true h') h
theorem nbeq_self (a : Nat) : Nat.beq a a = true := by simp
theorem push_get_lt {H : AHeap} {o : AObj} {r : Nat} (h : r < H.n) : (H.push o).get r = H.get r := by
  simp [AHeap.push, nbeq_ne (show r ≠ H.n by omega)]
theorem push_get_eq {H : AHeap} {o : AObj} : (H.push o).get H.n = o := by simp [AHeap.push]
theorem set_get_eq {H : AHeap} {o : AObj} {r : Nat} : (H.set r o).get r = o := by simp [AHeap.set]
theorem set_get_ne {H : AHeap} {o : AObj} {r s : Nat} (h : s ≠ r) : (H.set r o).get s = H.get s := by
  simp [AHeap.set, nbeq_ne h]

theorem cell_alloc_old {w : World} {o : Obj} {a : Addr} (h : a.block < w.heap.size) : (w.alloc o).cell? a = w.cell? a := World.cell?_alloc_lt w o a h
theorem cell_lt {w : World} {a : Addr} {v : Value} (h : w.cell? a = some v) : a.block < w.heap.size := World.block_lt_of_cell? w a h

/-- A live row with cells lies in a block that is there. -/
theorem RowOk.block_lt {B : Nat} {m : RMap} {w : World} {a : Addr} {k : Nat} {cs : List AVal} {rw : Bool} {e : TypeId} (h : RowOk B m w a k cs rw e) (hne : cs ≠ []) : a.block < w.heap.size := by
  cases cs with
  | nil => exact absurd rfl hne
  | cons v vs =>
    obtain ⟨x, _, hx⟩ := h.cell 0 v rfl
    have := cell_lt hx
    rwa [add_block] at this
theorem RowOk.own_lt {B : Nat} {m : RMap} {w : World} {a : Addr} {k : Nat} {cs : List AVal} {e : TypeId} (h : RowOk B m w a k cs true e) : a.block < w.heap.size := by
  obtain ⟨c, fz, hh, _⟩ := (h.own rfl).1.2
  exact (Array.getElem?_eq_some_iff.1 hh).1
theorem RowOk.alloc {B : Nat} {m m' : RMap} {w : World} {a : Addr} {k : Nat} {cs : List AVal} {rw : Bool} {e : TypeId} (h : RowOk B m w a k cs rw e) (hm : Le m m') (o : Obj) : RowOk B m' (w.alloc o) a k cs rw e := by
  refine ⟨fun i v hi => ?_, h.len, fun hr => ⟨⟨(h.own hr).1.1, by obtain ⟨c, fz, hh, hsp, hz⟩ := (h.own hr).1.2; obtain ⟨c', fz', h1, h2⟩ := Keeps.alloc w o _ _ _ _ hh; exact ⟨c', fz', h1, hsp, fun q => by rw [h2]; exact hz q⟩⟩, fun i hi => ?_⟩⟩
  · obtain ⟨x, h1, h2⟩ := h.cell i v hi
    exact ⟨x, emb_mono hm _ _ h1, by rw [cell_alloc_old (cell_lt h2)]; exact h2⟩
  · obtain ⟨h1, h2⟩ := (h.own hr).2 i hi
    obtain ⟨u, hu⟩ := Option.isSome_iff_exists.1 h1
    have hlt := cell_lt hu
    rw [cell_alloc_old hlt]
    refine ⟨h1, ?_⟩
    rw [World.frozen?_alloc_old w o _ (Nat.ne_of_lt hlt)]; exact h2

theorem cell_alloc_fz {w : World} {c : Array Value} {t : TypeId} {fz : Nat × Nat} (i : Nat) : (w.alloc (.cells c t fz)).cell? ⟨w.heap.size, i, none⟩ = c[i]? := by
  show World.cell? { w with heap := w.heap.push _ } _ = _
  simp only [World.cell?]; simp
theorem frozen_alloc_fz {w : World} {c : Array Value} {t : TypeId} {fz : Nat × Nat} (i : Nat) : (w.alloc (.cells c t fz)).frozen? ⟨w.heap.size, i, none⟩ = (fz.1 ≤ i && i < fz.2) := by
  show World.frozen? { w with heap := w.heap.push _ } _ = _
  simp only [World.frozen?]; simp

/-- A new block, whose first cells are a new row's. -/
theorem HRel.allocFz {S : Base} {m : RMap} {H : AHeap} {w : World} (h : HRel S m H w) {cs : List AVal} {xs : List Value} (hx : embL m cs = some xs) (rest : List Value) (e : TypeId) (fz : Nat × Nat) (hfz : ∀ i, i < (xs ++ rest).length → (decide (fz.1 ≤ i) && decide (i < fz.2)) = false) :
    HRel S (m.add H.n (⟨w.heap.size, 0, none⟩, (xs ++ rest).length)) (H.push (.row cs true (2 * e))) (w.alloc (.cells (xs ++ rest).toArray e fz)) := by
  have hlen := embL_length hx
  have hle := le_add (m := m) (⟨w.heap.size, 0, none⟩, (xs ++ rest).length) (h.fresh H.n (Nat.le_refl _))
  refine ⟨h.below.alloc h.size _, by simp; have := h.size; omega, fun g hg => by obtain ⟨k, hk⟩ := h.glob g hg; exact ⟨k, get_mono hle hk⟩, fun r hr => ?_, fun r hr => ?_, ?_, ?_⟩
  · simp only [AHeap.push] at hr
    rw [add_ne (by omega)]; exact h.fresh r (by omega)
  · have := h.away r hr
    exact ⟨by rw [add_ne (by omega)]; exact this.1, by simp only [AHeap.push]; omega⟩
  · intro r cs' rw e' p hr hg hp
    by_cases hrn : r = H.n
    · subst hrn
      rw [push_get_eq] at hg
      cases hg
      rw [add_eq] at hp; cases hp
      refine ⟨fun i v hi => ?_, by simp; omega, fun _ => ⟨⟨h.size, (xs ++ rest).toArray, fz, by show (w.heap.push _)[w.heap.size]? = _; simp, rfl, fun _ => ⟨rfl, by simp⟩⟩, fun i hi => ?_⟩⟩
      · obtain ⟨y, hy, hy2⟩ := embL_get hx hi
        refine ⟨y, emb_mono hle _ _ hy, ?_⟩
        simp only [Addr.add_lit, Nat.zero_add]
        rw [cell_alloc_fz]
        have hil : i < xs.length := (List.getElem?_eq_some_iff.1 hy2).1
        simp [List.getElem?_append_left hil, hy2]
      · simp only [Addr.add_lit, Nat.zero_add]
        rw [cell_alloc_fz, frozen_alloc_fz]
        refine ⟨?_, hfz i hi⟩
        simp only [List.length_append] at hi
        simp; omega
    · have hr' : r < H.n := by simp [AHeap.push] at hr; omega
      rw [push_get_lt hr'] at hg
      rw [add_ne hrn] at hp
      exact (h.row r cs' rw e' p hr' hg hp).alloc hle _
  · intro r s cs1 rw1 e1 cs2 e2 p q hr hs hne hg1 hg2 hp hq
    by_cases hrn : r = H.n
    · subst hrn
      have hs' : s < H.n := by simp [AHeap.push] at hs; omega
      rw [add_eq] at hp
      cases hp
      rw [push_get_lt hs'] at hg2
      rw [add_ne (by omega)] at hq
      have h2 := h.row s cs2 true e2 q hs' hg2 hq
      right
      have := h2.own_lt
      simp only; omega
    · have hr' : r < H.n := by simp [AHeap.push] at hr; omega
      rw [push_get_lt hr'] at hg1
      rw [add_ne hrn] at hp
      by_cases hsn : s = H.n
      · subst hsn
        rw [add_eq] at hq
        cases hq
        have h2 := h.row r cs1 rw1 e1 p hr' hg1 hp
        by_cases hc : cs1 = [] ∧ rw1 = false
        · exact Or.inl hc
        · have hlt : p.1.block < w.heap.size := by
            cases rw1 with
            | true => exact h2.own_lt
            | false => exact h2.block_lt fun e => hc ⟨e, rfl⟩
          exact Or.inr (by simp only; omega)
      · have hs' : s < H.n := by simp [AHeap.push] at hs; omega
        rw [push_get_lt hs'] at hg2
        rw [add_ne hsn] at hq
        exact h.apart r s cs1 rw1 e1 cs2 e2 p q hr' hs' hne hg1 hg2 hp hq

theorem HRel.alloc {S : Base} {m : RMap} {H : AHeap} {w : World} (h : HRel S m H w) {cs : List AVal} {xs : List Value} (hx : embL m cs = some xs) (rest : List Value) (e : TypeId) :
    HRel S (m.add H.n (⟨w.heap.size, 0, none⟩, (xs ++ rest).length)) (H.push (.row cs true (2 * e))) (w.alloc (.cells (xs ++ rest).toArray e)) :=
  h.allocFz hx rest e (0, 0) (fun i _ => by simp)

/-- A new row without cells, at any address (an empty slice). -/
theorem HRel.emptyRow {S : Base} {m : RMap} {H : AHeap} {w : World} (h : HRel S m H w) (p : Addr × Nat) :
    HRel S (m.add H.n p) (H.push (.row [] false 0)) w := by
  have hle := le_add (m := m) p (h.fresh H.n (Nat.le_refl _))
  refine ⟨h.below, h.size, fun g hg => by obtain ⟨k, hk⟩ := h.glob g hg; exact ⟨k, get_mono hle hk⟩, fun r hr => ?_, fun r hr => ?_, ?_, ?_⟩
  · simp only [AHeap.push] at hr
    rw [add_ne (by omega)]; exact h.fresh r (by omega)
  · have := h.away r hr
    exact ⟨by rw [add_ne (by omega)]; exact this.1, by simp only [AHeap.push]; omega⟩
  · intro r cs rw e q hr hg hq
    by_cases hrn : r = H.n
    · subst hrn
      rw [push_get_eq] at hg; cases hg
      exact ⟨fun i v hi => by simp at hi, by simp, fun e => by cases e⟩
    · have hr' : r < H.n := by simp [AHeap.push] at hr; omega
      rw [push_get_lt hr'] at hg
      rw [add_ne hrn] at hq
      exact (h.row r cs rw e q hr' hg hq).mono hle (Keeps.refl _ _) (fun _ => rfl) (fun _ => rfl)
  · intro r s cs1 rw1 e1 cs2 e2 p' q hr hs hne hg1 hg2 hp hq
    by_cases hrn : r = H.n
    · subst hrn
      rw [push_get_eq] at hg1; cases hg1; exact Or.inl ⟨rfl, rfl⟩
    · have hr' : r < H.n := by simp [AHeap.push] at hr; omega
      by_cases hsn : s = H.n
      · subst hsn; rw [push_get_eq] at hg2; cases hg2
      · have hs' : s < H.n := by simp [AHeap.push] at hs; omega
        rw [push_get_lt hr'] at hg1; rw [push_get_lt hs'] at hg2
        rw [add_ne hrn] at hp
        rw [add_ne hsn] at hq
        exact h.apart r s cs1 rw1 e1 cs2 e2 p' q hr' hs' hne hg1 hg2 hp hq

/-- A row that is not there yet: nothing is said of it. -/
theorem HRel.ghost {S : Base} {m : RMap} {H : AHeap} {w : World} (h : HRel S m H w) (o : AObj) : HRel S m (H.push o) w := by
  refine ⟨h.below, h.size, h.glob, fun r hr => h.fresh r (by simp only [AHeap.push] at hr; omega), fun r hr => ⟨(h.away r hr).1, by have := (h.away r hr).2; simp only [AHeap.push]; omega⟩, ?_, ?_⟩
  · intro r cs rw e q hr hg hq
    have hr' : r < H.n := by
      rcases Nat.lt_or_ge r H.n with h' | h'
      · exact h'
      · rw [h.fresh r h'] at hq; cases hq
    rw [push_get_lt hr'] at hg
    exact h.row r cs rw e q hr' hg hq
  · intro r s cs1 rw1 e1 cs2 e2 p q hr hs hne hg1 hg2 hp hq
    have hr' : r < H.n := by
      rcases Nat.lt_or_ge r H.n with h' | h'
      · exact h'
      · rw [h.fresh r h'] at hp; cases hp
    have hs' : s < H.n := by
      rcases Nat.lt_or_ge s H.n with h' | h'
      · exact h'
      · rw [h.fresh s h'] at hq; cases hq
    rw [push_get_lt hr'] at hg1; rw [push_get_lt hs'] at hg2
    exact h.apart r s cs1 rw1 e1 cs2 e2 p q hr' hs' hne hg1 hg2 hp hq

/-- Fewer rows are kept away. -/
theorem HRel.less {S : Base} {m : RMap} {H : AHeap} {w : World} (h : HRel S m H w) (g : Nat → Prop) (hg : ∀ r, g r → S.ghost r) : HRel { S with ghost := g } m H w :=
  ⟨h.below, h.size, h.glob, h.fresh, fun r hr => h.away r (hg r hr), h.row, h.apart⟩
/-- More are. -/
theorem HRel.more {S : Base} {m : RMap} {H : AHeap} {w : World} (h : HRel S m H w) (g : Nat → Prop) (hg : ∀ r, g r → m r = none ∧ r < H.n) : HRel { S with ghost := g } m H w :=
  ⟨h.below, h.size, h.glob, h.fresh, hg, h.row, h.apart⟩

/-- Such a row comes to be. -/
theorem HRel.born {S : Base} {m : RMap} {H : AHeap} {w : World} (h : HRel S m H w) {r0 : Nat} (hr0 : r0 < H.n) {cs : List AVal} {e : TypeId} (hg0 : H.get r0 = .row cs true (2 * e)) (hm0 : m r0 = none) (hng : ¬ S.ghost r0) {xs : List Value} (hx : embL m cs = some xs) :
    HRel S (m.add r0 (⟨w.heap.size, 0, none⟩, xs.length)) H (w.alloc (.cells xs.toArray e)) := by
  have hle := le_add (m := m) (⟨w.heap.size, 0, none⟩, xs.length) hm0
  refine ⟨h.below.alloc h.size _, by simp; have := h.size; omega, fun g hg => by obtain ⟨k, hk⟩ := h.glob g hg; exact ⟨k, get_mono hle hk⟩, fun r hr => ?_, fun r hr => ?_, ?_, ?_⟩
  · rw [add_ne (by omega)]; exact h.fresh r hr
  · have := h.away r hr
    exact ⟨by rw [add_ne (fun e => hng (by rw [← e]; exact hr))]; exact this.1, this.2⟩
  · intro r cs' rw e' p hr hg hp
    by_cases hrn : r = r0
    · subst hrn
      rw [hg0] at hg; cases hg
      rw [add_eq] at hp; cases hp
      refine ⟨fun i v hi => ?_, by simp [embL_length hx], fun _ => ⟨⟨h.size, xs.toArray, (0, 0), by show (w.heap.push _)[w.heap.size]? = _; simp, rfl, fun _ => ⟨rfl, by simp⟩⟩, fun i hi => ?_⟩⟩
      · obtain ⟨y, hy, hy2⟩ := embL_get hx hi
        refine ⟨y, emb_mono hle _ _ hy, ?_⟩
        simp only [Addr.add_lit, Nat.zero_add]
        rw [cell_alloc_fz]
        simpa using hy2
      · simp only [Addr.add_lit, Nat.zero_add]
        rw [cell_alloc_fz, frozen_alloc_fz]
        simp only at hi
        exact ⟨by simp [hi], by simp⟩
    · rw [add_ne hrn] at hp
      exact (h.row r cs' rw e' p hr hg hp).alloc hle _
  · intro r s cs1 rw1 e1 cs2 e2 p q hr hs hne hg1 hg2 hp hq
    by_cases hrn : r = r0
    · subst hrn
      rw [add_eq] at hp; cases hp
      rw [add_ne (Ne.symm hne)] at hq
      have := (h.row s cs2 true e2 q hs hg2 hq).own_lt
      right; simp only; omega
    · rw [add_ne hrn] at hp
      by_cases hsn : s = r0
      · subst hsn
        rw [add_eq] at hq; cases hq
        have h2 := h.row r cs1 rw1 e1 p hr hg1 hp
        by_cases hc : cs1 = [] ∧ rw1 = false
        · exact Or.inl hc
        · have hlt : p.1.block < w.heap.size := by
            cases rw1 with
            | true => exact h2.own_lt
            | false => exact h2.block_lt fun e => hc ⟨e, rfl⟩
          exact Or.inr (by simp only; omega)
      · rw [add_ne hsn] at hq
        exact h.apart r s cs1 rw1 e1 cs2 e2 p q hr hs hne hg1 hg2 hp hq

theorem block_ne_of_setCell {w : World} {a b : Addr} {u : Value} (h : a.block ≠ b.block) : (w.setCell a u).cell? b = w.cell? b :=
  World.cell?_setCell_other w a b u (fun e => h (by rw [e]))

/-- A cell of a row's block, within its room, is written: what is in the row may change so far. -/
theorem setCell_some {w : World} {a : Addr} {u : Value} (h : (w.cell? a).isSome = true) (b : Addr) (hb : (w.cell? b).isSome = true) : ((w.setCell a u).cell? b).isSome = true := by
  by_cases e : b = a
  · subst e
    obtain ⟨y, hy⟩ := Option.isSome_iff_exists.1 h
    rw [World.cell?_setCell_same w _ _ hy]; rfl
  · rw [World.cell?_setCell_other w _ _ _ (Ne.symm e)]; exact hb

/-- One cell of a row is written, or added behind its last one. -/
theorem HRel.setAny {S : Base} {m : RMap} {H : AHeap} {w : World} (h : HRel S m H w) {r i : Nat} {cs cs' : List AVal} {e : TypeId} {p : Addr × Nat} (hr : r < H.n) (hg : H.get r = .row cs true e) (hp : m r = some p)
    {v : AVal} {x : Value} (hik : i < p.2) (hl : cs'.length ≤ p.2) (hcs : ∀ j u, cs'[j]? = some u → (j = i ∧ u = v) ∨ (j ≠ i ∧ cs[j]? = some u)) (hv : emb m v = some x) :
    HRel S m (H.set r (.row cs' true e)) (w.setCell (p.1.add i) x) ∧ (w.cell? (p.1.add i)).isSome = true ∧ w.frozen? (p.1.add i) = false := by
  have hok := h.row r cs true e p hr hg hp
  obtain ⟨⟨hB, hbl⟩, hown⟩ := hok.own rfl
  refine ⟨⟨h.below.setCell (by rw [add_block]; exact hB) _, by simpa using h.size, h.glob, h.fresh, h.away, ?_, ?_⟩, hown i hik⟩
  · intro s cs1 rw e' q hs hgs hq
    by_cases hsr : s = r
    · subst hsr
      rw [set_get_eq] at hgs; cases hgs
      rw [hp] at hq; cases hq
      refine ⟨fun j u hj => ?_, hl, fun _ => ⟨⟨hB, by obtain ⟨c, fz, hh, hsp, hz⟩ := hbl; obtain ⟨c', fz', h1, h2⟩ := Keeps.setCell _ _ _ _ _ _ _ hh; exact ⟨c', fz', h1, hsp, fun q => by rw [h2]; exact hz q⟩⟩, fun j hj => ?_⟩⟩
      · rcases hcs j u hj with ⟨rfl, rfl⟩ | ⟨hji, hj'⟩
        · obtain ⟨y, hy⟩ := Option.isSome_iff_exists.1 (hown j hik).1
          exact ⟨x, hv, World.cell?_setCell_same w _ _ hy⟩
        · obtain ⟨y, h1, h2⟩ := hok.cell j u hj'
          exact ⟨y, h1, by rw [World.cell?_setCell_other w _ _ _ (fun e => hji (add_inj e).symm)]; exact h2⟩
      · obtain ⟨h1, h2⟩ := hown j hj
        exact ⟨setCell_some (hown i hik).1 _ h1, by simpa using h2⟩
    · rw [set_get_ne hsr] at hgs
      have hokq := h.row s cs1 rw e' q hs hgs hq
      have hap := h.apart s r cs1 rw e' cs e q p hs hr hsr hgs hg hq hp
      by_cases hc : cs1 = [] ∧ rw = false
      · obtain ⟨rfl, rfl⟩ := hc
        exact ⟨fun j u hj => by simp at hj, hokq.len, fun hrw => by cases hrw⟩
      · have hb : q.1.block ≠ p.1.block := hap.resolve_left hc
        refine hokq.mono (Le.refl _) (Keeps.setCell _ _ _ _) (fun j => ?_) (fun j => by simp)
        exact block_ne_of_setCell (by rw [add_block, add_block]; exact Ne.symm hb)
  · intro s t cs1 rw1 e1 cs2 e2 q1 q2 hs ht hne hg1 hg2 hq1 hq2
    have key : ∀ s cs1 rw1 e1, (H.set r (.row cs' true e)).get s = .row cs1 rw1 e1 → ∃ cs0, H.get s = .row cs0 rw1 e1 ∧ (cs0 = [] ∧ rw1 = false → cs1 = [] ∧ rw1 = false) := by
      intro s cs1 rw1 e1 hg1
      by_cases hsr : s = r
      · subst hsr; rw [set_get_eq] at hg1; cases hg1
        exact ⟨cs, hg, fun e => by cases e.2⟩
      · rw [set_get_ne hsr] at hg1; exact ⟨cs1, hg1, id⟩
    obtain ⟨c1, k1, k1'⟩ := key s cs1 rw1 e1 hg1
    obtain ⟨c2, k2, _⟩ := key t cs2 true e2 hg2
    exact (h.apart s t c1 rw1 e1 c2 e2 q1 q2 hs ht hne k1 k2 hq1 hq2).imp k1' id

/-- One cell of a row is written. -/
theorem HRel.set1 {S : Base} {m : RMap} {H : AHeap} {w : World} (h : HRel S m H w) {r i : Nat} {cs : List AVal} {e : TypeId} {p : Addr × Nat} (hr : r < H.n) (hg : H.get r = .row cs true e) (hp : m r = some p)
    (hi : i < cs.length) {v : AVal} {x : Value} (hv : emb m v = some x) :
    HRel S m (H.set r (.row (cs.set i v) true e)) (w.setCell (p.1.add i) x) ∧ (w.cell? (p.1.add i)).isSome = true ∧ w.frozen? (p.1.add i) = false := by
  have hok := h.row r cs true e p hr hg hp
  have := hok.len
  refine h.setAny hr hg hp (by omega) (by simpa using this) (fun j u hj => ?_) hv
  by_cases hji : j = i
  · subst hji
    rw [List.getElem?_set_self hi] at hj; cases hj; exact Or.inl ⟨rfl, rfl⟩
  · rw [List.getElem?_set_ne (Ne.symm hji)] at hj; exact Or.inr ⟨hji, hj⟩

/-- A row dies. -/
theorem HRel.kill {S : Base} {m : RMap} {H : AHeap} {w : World} (h : HRel S m H w) (r : Nat) : HRel S m (H.set r .dead) w := by
  have key : ∀ s cs rw e, (H.set r .dead).get s = .row cs rw e → H.get s = .row cs rw e := by
    intro s cs rw e hg
    by_cases hsr : s = r
    · subst hsr; rw [set_get_eq] at hg; cases hg
    · rwa [set_get_ne hsr] at hg
  exact ⟨h.below, h.size, h.glob, h.fresh, h.away, fun s cs rw e p hs hg hp => h.row s cs rw e p hs (key _ _ _ _ hg) hp,
    fun s t cs1 rw1 e1 cs2 e2 q1 q2 hs ht hne hg1 hg2 hq1 hq2 => h.apart s t cs1 rw1 e1 cs2 e2 q1 q2 hs ht hne (key _ _ _ _ hg1) (key _ _ _ _ hg2) hq1 hq2⟩

theorem setAt_length : ∀ (vs cs : List AVal) (off : Nat), (setAt cs off vs).length = cs.length
  | [], _, _ => rfl
  | _ :: vs, cs, off => by simp [setAt, setAt_length vs]

theorem set_set (H : AHeap) (r : Nat) (a b : AObj) : (H.set r a).set r b = H.set r b := by
  simp only [AHeap.set, AHeap.mk.injEq, true_and]
  funext i
  cases Nat.beq i r <;> rfl
theorem set_self {H : AHeap} {r : Nat} {o : AObj} (hg : H.get r = o) : H.set r o = H := by
  simp only [AHeap.set]
  cases H with
  | mk n get =>
    simp only [AHeap.mk.injEq, true_and] at hg ⊢
    funext j
    cases hb : Nat.beq j r with
    | false => rfl
    | true => have := Nat.eq_of_beq_eq_true hb; subst this; exact hg.symm

theorem run_storeCells {P : Program} {S : Base} {m : RMap} : ∀ (vs : List AVal) (xs : List Value) (H : AHeap) (w : World) (r off : Nat) (cs : List AVal) (e : TypeId) (p : Addr × Nat) (a : Addr) (i : Nat),
    HRel S m H w → r < H.n → H.get r = .row cs true e → m r = some p → off + vs.length ≤ cs.length → embL m vs = some xs → vs.all AVal.one = true → (∀ j, a.add (i + j) = p.1.add (off + j)) →
    ∃ w', (storeCells a xs i).run P w = .ok () w' ∧ HRel S m (H.set r (.row (setAt cs off vs) true e)) w'
  | [], xs, H, w, r, off, cs, e, p, a, i, h, hr, hg, hp, hl, hx, ho, _ => by
    simp [embL] at hx; subst hx
    exact ⟨w, by simp [storeCells], by rw [setAt, set_self hg]; exact h⟩
  | v :: vs, xs, H, w, r, off, cs, e, p, a, i, h, hr, hg, hp, hl, hx, ho, haj => by
    obtain ⟨x, ys, hv, hvs, rfl⟩ := embL_cons hx
    simp only [List.all_cons, Bool.and_eq_true] at ho
    simp only [List.length_cons] at hl
    obtain ⟨h', hsome, hfr⟩ := h.set1 hr hg hp (i := off) (by omega) hv
    obtain ⟨u, hu⟩ := Option.isSome_iff_exists.1 hsome
    obtain ⟨w', hw, hrel⟩ := run_storeCells (P := P) vs ys (H.set r (.row (cs.set off v) true e)) (w.setCell (p.1.add off) x) r (off + 1) (cs.set off v) e p a (i + 1) h'
      (by simpa [AHeap.set] using hr) set_get_eq hp (by simp; omega) hvs ho.2
      (fun j => by have := haj (1 + j); simpa [Nat.add_assoc] using this)
    refine ⟨w', ?_, ?_⟩
    · simp only [storeCells, Sem.run_bind]
      have ha := haj 0
      simp only [Nat.add_zero] at ha
      rw [ha, run_store P w _ x _ (emb_one hv ho.1), hu]
      simp only [hfr, Bool.false_eq_true, if_false, Result.andThen_ok]
      exact hw
    · rw [set_set] at hrel
      exact hrel

/-- A row moves: what it held from an offset on is a new row, over the same room. -/
theorem half_moved (n : Nat) : (2 * (n / 2) + 1) / 2 = n / 2 := by omega
theorem odd_moved (n : Nat) : (2 * n + 1) % 2 = 1 := by omega
theorem half_odd (n : Nat) : (2 * n + 1) / 2 = n := by omega
theorem half_even (n : Nat) : (2 * n) / 2 = n := by omega
theorem HRel.retag {S : Base} {m : RMap} {H : AHeap} {w : World} {cs : List AVal} {e : TypeId} (h : HRel S m (H.push (.row cs true (2 * e))) w) : HRel S m (H.push (.row cs true (2 * e + 1))) w := by
  have key : ∀ s cs1 rw1 e1, (H.push (.row cs true (2 * e + 1))).get s = .row cs1 rw1 e1 → ∃ e0, (H.push (.row cs true (2 * e))).get s = .row cs1 rw1 e0 ∧ (e0 = e1 ∨ (e0 = 2 * e ∧ e1 = 2 * e + 1)) := by
    intro s cs1 rw1 e1 hg
    by_cases hs : s = H.n
    · subst hs
      rw [push_get_eq] at hg; cases hg
      exact ⟨2 * e, push_get_eq, Or.inr ⟨rfl, rfl⟩⟩
    · refine ⟨e1, ?_, Or.inl rfl⟩
      simp only [AHeap.push, nbeq_ne hs] at hg ⊢
      exact hg
  refine ⟨h.below, h.size, h.glob, h.fresh, h.away, ?_, ?_⟩
  · intro r cs1 rw1 e1 p hr hg hp
    obtain ⟨e0, hg0, hor⟩ := key _ _ _ _ hg
    have hok := h.row r cs1 rw1 e0 p hr hg0 hp
    rcases hor with rfl | ⟨rfl, rfl⟩
    · exact hok
    · refine ⟨hok.cell, hok.len, fun q => ⟨⟨(hok.own q).1.1, ?_⟩, (hok.own q).2⟩⟩
      obtain ⟨c, fz, hh, hsp, _⟩ := (hok.own q).1.2
      exact ⟨c, fz, by rw [hh, half_even, half_odd], hsp, fun q => absurd q (by rw [odd_moved]; decide)⟩
  · intro r s cs1 rw1 e1 cs2 e2 p q hr hs hne hg1 hg2 hp hq
    obtain ⟨e3, hg3, _⟩ := key _ _ _ _ hg1
    obtain ⟨e4, hg4, _⟩ := key _ _ _ _ hg2
    exact h.apart r s cs1 rw1 e3 cs2 e4 p q hr hs hne hg3 hg4 hp hq

theorem HRel.move {S : Base} {m : RMap} {H : AHeap} {w : World} (h : HRel S m H w) {r off k : Nat} {cs : List AVal} {e : TypeId} {p : Addr × Nat} (hr : r < H.n) (hg : H.get r = .row cs true e) (hp : m r = some p) (hk : off + k ≤ cs.length) :
    HRel S (m.add H.n (p.1.add off, p.2 - off)) ((H.set r .dead).push (.row ((cs.drop off).take k) true (2 * (e / 2) + 1))) w := by
  have hok := h.row r cs true e p hr hg hp
  have hlc := hok.len
  obtain ⟨⟨hB, hbl⟩, hown⟩ := hok.own rfl
  have hn : (H.set r .dead).n = H.n := rfl
  have hle := le_add (m := m) (p.1.add off, p.2 - off) (h.fresh H.n (Nat.le_refl _))
  have live : ∀ s cs1 rw e1, s < H.n → (H.set r .dead).get s = .row cs1 rw e1 → s ≠ r ∧ H.get s = .row cs1 rw e1 := by
    intro s cs1 rw e1 hs hgs
    by_cases hsr : s = r
    · subst hsr; rw [set_get_eq] at hgs; cases hgs
    · rw [set_get_ne hsr] at hgs; exact ⟨hsr, hgs⟩
  refine ⟨h.below, h.size, fun g hg => by obtain ⟨k, hk⟩ := h.glob g hg; exact ⟨k, get_mono hle hk⟩, fun r hr => ?_, fun r hr => ?_, ?_, ?_⟩
  · simp only [AHeap.push, hn] at hr
    rw [add_ne (by omega)]; exact h.fresh r (by omega)
  · have := h.away r hr
    exact ⟨by rw [add_ne (by omega)]; exact this.1, by simp only [AHeap.push, hn]; omega⟩
  · intro s cs1 rw e1 q hs hgs hq
    by_cases hsn : s = H.n
    · subst hsn
      rw [show H.n = (H.set r .dead).n from rfl, push_get_eq] at hgs; cases hgs
      rw [add_eq] at hq; cases hq
      refine ⟨fun i v hi => ?_, by simp; omega, fun _ => ⟨⟨by rw [add_block]; exact hB, by rw [add_block]; obtain ⟨c, fz, hh, hsp, _⟩ := hbl; exact ⟨c, fz, by rw [hh, half_moved], by simp only [add_spot hsp], fun q => absurd q (by rw [odd_moved]; decide)⟩⟩, fun i hi => ?_⟩⟩
      · have hik : i < k := by have := (List.getElem?_eq_some_iff.1 hi).1; simp at this; omega
        rw [List.getElem?_take_of_lt hik, List.getElem?_drop] at hi
        obtain ⟨y, h1, h2⟩ := hok.cell _ _ hi
        exact ⟨y, emb_mono hle _ _ h1, by simp only [add_add]; exact h2⟩
      · simp only [add_add]; exact hown _ (by simp only at hi; omega)
    · have hs' : s < H.n := by simp [AHeap.push, hn] at hs; omega
      rw [push_get_lt (by rw [hn]; exact hs')] at hgs
      obtain ⟨_, hgs'⟩ := live s cs1 rw e1 hs' hgs
      rw [add_ne hsn] at hq
      exact (h.row s cs1 rw e1 q hs' hgs' hq).mono hle (Keeps.refl _ _) (fun _ => rfl) (fun _ => rfl)
  · intro s t cs1 rw1 e1 cs2 e2 q1 q2 hs ht hne hg1 hg2 hq1 hq2
    by_cases hsn : s = H.n
    · subst hsn
      have ht' : t < H.n := by simp [AHeap.push, hn] at ht; omega
      rw [add_eq] at hq1; cases hq1
      rw [push_get_lt (by rw [hn]; exact ht')] at hg2
      obtain ⟨htr, hg2'⟩ := live t cs2 true e2 ht' hg2
      rw [add_ne (by omega)] at hq2
      right
      rw [add_block]
      rcases h.apart r t cs true e cs2 e2 p q2 hr ht' (Ne.symm htr) hg hg2' hp hq2 with hh | hh
      · cases hh.2
      · exact hh
    · have hs' : s < H.n := by simp [AHeap.push, hn] at hs; omega
      rw [push_get_lt (by rw [hn]; exact hs')] at hg1
      obtain ⟨hsr, hg1'⟩ := live s cs1 rw1 e1 hs' hg1
      rw [add_ne hsn] at hq1
      by_cases htn : t = H.n
      · subst htn
        rw [add_eq] at hq2; cases hq2
        rw [add_block]
        exact h.apart s r cs1 rw1 e1 cs e q1 p hs' hr hsr hg1' hg hq1 hp
      · have ht' : t < H.n := by simp [AHeap.push, hn] at ht; omega
        rw [push_get_lt (by rw [hn]; exact ht')] at hg2
        obtain ⟨htr, hg2'⟩ := live t cs2 true e2 ht' hg2
        rw [add_ne htn] at hq2
        exact h.apart s t cs1 rw1 e1 cs2 e2 q1 q2 hs' ht' hne hg1' hg2' hq1 hq2

/-- Cells are added behind a row's last one, within its room. -/
theorem run_extCells {P : Program} {S : Base} {m : RMap} : ∀ (vs : List AVal) (xs : List Value) (H : AHeap) (w : World) (r : Nat) (cs : List AVal) (e : TypeId) (p : Addr × Nat) (a : Addr) (i : Nat),
    HRel S m H w → r < H.n → H.get r = .row cs true e → m r = some p → cs.length + vs.length ≤ p.2 → embL m vs = some xs → vs.all AVal.one = true → (∀ j, a.add (i + j) = p.1.add (cs.length + j)) →
    ∃ w', (storeCells a xs i).run P w = .ok () w' ∧ HRel S m (H.set r (.row (cs ++ vs) true e)) w'
  | [], xs, H, w, r, cs, e, p, a, i, h, hr, hg, hp, hl, hx, ho, _ => by
    simp [embL] at hx; subst hx
    exact ⟨w, by simp [storeCells], by rw [List.append_nil, set_self hg]; exact h⟩
  | v :: vs, xs, H, w, r, cs, e, p, a, i, h, hr, hg, hp, hl, hx, ho, haj => by
    obtain ⟨x, ys, hv, hvs, rfl⟩ := embL_cons hx
    simp only [List.all_cons, Bool.and_eq_true] at ho
    simp only [List.length_cons] at hl
    obtain ⟨h', hsome, hfr⟩ := h.setAny hr hg hp (i := cs.length) (cs' := cs ++ [v]) (by omega) (by simp; omega) (fun j u hj => by
      by_cases hjl : j < cs.length
      · rw [List.getElem?_append_left hjl] at hj; exact Or.inr ⟨by omega, hj⟩
      · rw [List.getElem?_append_right (by omega)] at hj
        have : j - cs.length = 0 := by
          cases hq : j - cs.length with
          | zero => rfl
          | succ q => rw [hq] at hj; simp at hj
        rw [this] at hj; cases hj
        exact Or.inl ⟨by omega, rfl⟩) hv
    obtain ⟨u, hu⟩ := Option.isSome_iff_exists.1 hsome
    obtain ⟨w', hw, hrel⟩ := run_extCells (P := P) vs ys (H.set r (.row (cs ++ [v]) true e)) (w.setCell (p.1.add cs.length) x) r (cs ++ [v]) e p a (i + 1) h'
      (by simpa [AHeap.set] using hr) set_get_eq hp (by simp; omega) hvs ho.2
      (fun j => by have := haj (1 + j); simpa [Nat.add_assoc] using this)
    refine ⟨w', ?_, ?_⟩
    · simp only [storeCells, Sem.run_bind]
      have ha := haj 0
      simp only [Nat.add_zero] at ha
      rw [ha, run_store P w _ x _ (emb_one hv ho.1), hu]
      simp only [hfr, Bool.false_eq_true, if_false, Result.andThen_ok]
      exact hw
    · rw [set_set] at hrel
      simpa using hrel
end Go.Am
