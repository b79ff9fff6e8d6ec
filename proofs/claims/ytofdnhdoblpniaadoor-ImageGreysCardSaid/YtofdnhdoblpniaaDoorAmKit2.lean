/- Slices, by instances; calls of pure functions. -/
import Derived.Test.YtofdnhdoblpniaaDoorAmKit
set_option linter.unusedSimpArgs false
set_option linter.unusedVariables false
namespace Go.Am
open Go

def cellsI (l : List Int) : List AVal := l.map fun n => .int .i64 n
theorem cellsI_length (l : List Int) : (cellsI l).length = l.length := by simp [cellsI]

def rowOf : AVal → Nat
  | .slice r _ _ _ _ => r
  | _ => 0
def offOf : AVal → Nat
  | .slice _ off _ _ _ => off
  | _ => 0

/-- A slice of n elements that holds these cells. -/
class SliceAt (H : AHeap) (p : AVal) (sz : outParam Nat) (n : outParam Nat) (cs : outParam (List AVal)) : Prop where
  it : (p = .nslice ∧ n = 0 ∧ cs = []) ∨ ∃ r off cap row rw e, p = .slice r off n cap sz ∧ r < H.n ∧ H.get r = .row row rw e ∧ off + n * sz ≤ row.length ∧ (row.drop off).take (n * sz) = cs
/-- It may be written. -/
class WrS (H : AHeap) (p : AVal) : Prop where
  it : ∀ r off len cap sz, p = .slice r off len cap sz → ∃ cs e, H.get r = .row cs true e
class RowNe (p : AVal) (s : Nat) : Prop where
  ne : ∀ r off len cap sz, p = .slice r off len cap sz → r ≠ s
class FreshS (H : outParam AHeap) (p : AVal) : Prop where
  ge : ∀ r off len cap sz, p = .slice r off len cap sz → H.n ≤ r
class SepS (p q : AVal) : Prop where
  ne : ∀ r off len cap sz r' off' len' cap' sz', p = .slice r off len cap sz → q = .slice r' off' len' cap' sz' → r ≠ r'
/-- Only the row of a slice has changed. -/
class ExtP (H : outParam AHeap) (H' : AHeap) (p : outParam AVal) : Prop where
  n : H.n ≤ H'.n
  get : ∀ r, r < H.n → RowNe p r → H'.get r = H.get r
/-- What was there stands (both heaps known). -/
class Ext0 (H H' : AHeap) : Prop where
  ext : Ext H H'
class LeN (H : AHeap) (s : Nat) : Prop where
  le : H.n ≤ s

abbrev BytesI (H : AHeap) (p : AVal) (l : List UInt8) : Prop := SliceAt H p 1 l.length (cellsB l)
abbrev IntsI (H : AHeap) (p : AVal) (l : List Int) : Prop := SliceAt H p 1 l.length (cellsI l)

theorem SliceAt.len {H : AHeap} {p : AVal} {sz n : Nat} {cs : List AVal} (h : SliceAt H p sz n cs) : cs.length = n * sz := by
  rcases h.it with ⟨_, rfl, rfl⟩ | ⟨r, off, cap, row, rw, e, _, _, _, hl, hc⟩
  · simp
  · rw [← hc, List.length_take, List.length_drop]; omega
theorem SliceAt.lenS {H : AHeap} {p : AVal} {sz n : Nat} {cs : List AVal} (h : SliceAt H p sz n cs) : aLenS p = some (.int .i64 n) := by
  rcases h.it with ⟨rfl, rfl, _⟩ | ⟨r, off, cap, row, rw, e, rfl, _⟩ <;> rfl
theorem SliceAt.lt {H : AHeap} {p : AVal} {sz n : Nat} {cs : List AVal} (h : SliceAt H p sz n cs) {r off len : Nat} {cap : Option Nat} {s : Nat} (e : p = .slice r off len cap s) : r < H.n := by
  rcases h.it with ⟨rfl, _⟩ | ⟨r, off, cap, row, rw, e, rfl, hr, _⟩
  · cases e
  · cases e; exact hr
theorem SliceAt.keep {H H' : AHeap} {p : AVal} {sz n : Nat} {cs : List AVal} (h : SliceAt H p sz n cs) (hn : H.n ≤ H'.n) (hg : ∀ r off len cap sz, p = .slice r off len cap sz → r < H.n → H'.get r = H.get r) : SliceAt H' p sz n cs := by
  rcases h.it with ⟨h1, h2, h3⟩ | ⟨r, off, cap, row, rw, e, h1, h2, h3, h4, h5⟩
  · exact ⟨Or.inl ⟨h1, h2, h3⟩⟩
  · exact ⟨Or.inr ⟨r, off, cap, row, rw, e, h1, by omega, by rw [hg _ _ _ _ _ h1 h2]; exact h3, h4, h5⟩⟩
theorem WrS.keep {H H' : AHeap} {p : AVal} (h : WrS H p) (hg : ∀ r off len cap sz, p = .slice r off len cap sz → H'.get r = H.get r) : WrS H' p := ⟨fun r off len cap sz e => by rw [hg _ _ _ _ _ e]; exact h.it _ _ _ _ _ e⟩

/- instances -/
instance {s : Nat} {p : AVal} {K : AHeap} [f : FreshS K p] [l : LtN s K] : RowNe p s := ⟨fun r off len cap sz e => by have := f.ge _ _ _ _ _ e; have := l.lt; omega⟩
instance {H : AHeap} {p : AVal} {sz n : Nat} {cs : List AVal} [h : SliceAt H p sz n cs] : RowNe p H.n := ⟨fun r off len cap s e => Nat.ne_of_lt (h.lt e)⟩
instance {K : AHeap} {s : Nat} {p : AVal} {sz n : Nat} {cs : List AVal} [g : GeN K s] [h : SliceAt K p sz n cs] : RowNe p s := ⟨fun r off len cap sz e => by have := h.lt e; have := g.ge; omega⟩
instance {s : Nat} : RowNe .nslice s := ⟨fun _ _ _ _ _ e => by cases e⟩
instance {K : AHeap} {p q : AVal} {sz n : Nat} {cs : List AVal} [f : FreshS K p] [h : SliceAt K q sz n cs] : SepS p q := ⟨fun r off len cap sz r' off' len' cap' sz' e e' => by have := f.ge _ _ _ _ _ e; have := h.lt e'; omega⟩
instance {K : AHeap} {p q : AVal} {sz n : Nat} {cs : List AVal} [f : FreshS K p] [h : SliceAt K q sz n cs] : SepS q p := ⟨fun r off len cap sz r' off' len' cap' sz' e e' => by have := f.ge _ _ _ _ _ e'; have := h.lt e; omega⟩
instance {q : AVal} : SepS .nslice q := ⟨fun _ _ _ _ _ _ _ _ _ _ e => by cases e⟩

instance {H : AHeap} : SliceAt H .nslice 1 0 [] := ⟨Or.inl ⟨rfl, rfl, rfl⟩⟩
instance {H H' : AHeap} {p : AVal} {sz n : Nat} {cs : List AVal} [x : ExtI H H'] [h : SliceAt H p sz n cs] : SliceAt H' p sz n cs := h.keep x.ext.n fun _ _ _ _ _ _ hr => x.ext.get _ hr
instance {H : AHeap} {o : AObj} {p : AVal} {sz n : Nat} {cs : List AVal} [h : SliceAt H p sz n cs] : SliceAt (H.push o) p sz n cs := h.keep (Nat.le_succ _) fun _ _ _ _ _ _ hr => push_get_lt hr
instance {H : AHeap} {s : Nat} {o : AObj} {p : AVal} {sz n : Nat} {cs : List AVal} [h : SliceAt H p sz n cs] [k : RowNe p s] : SliceAt (H.set s o) p sz n cs := h.keep (Nat.le_refl _) fun _ _ _ _ _ e _ => set_get_ne (k.ne _ _ _ _ _ e)
instance {H H' : AHeap} {p q : AVal} {sz n : Nat} {cs : List AVal} [x : ExtP H H' q] [h : SliceAt H p sz n cs] [k : SepS p q] : SliceAt H' p sz n cs := h.keep x.n fun r _ _ _ _ e hr => x.get r hr ⟨fun r' _ _ _ _ e' => fun hh => k.ne _ _ _ _ _ _ _ _ _ _ e e' hh.symm⟩
instance {H H' : AHeap} {r : Nat} {cs : List AVal} {rw : Bool} {e : TypeId} {q : AVal} [x : ExtP H H' q] [h : HasRow H r cs rw e] [k : RowNe q r] : HasRow H' r cs rw e := ⟨Nat.lt_of_lt_of_le h.lt x.n, by rw [x.get r h.lt k]; exact h.get⟩
instance {H H' : AHeap} {p : AVal} {sz n : Nat} {cs : List AVal} [x : ExtI H H'] [w : WrS H p] [h : SliceAt H p sz n cs] : WrS H' p := w.keep fun _ _ _ _ _ e => x.ext.get _ (h.lt e)
instance {H : AHeap} {o : AObj} {p : AVal} {sz n : Nat} {cs : List AVal} [w : WrS H p] [h : SliceAt H p sz n cs] : WrS (H.push o) p := w.keep fun _ _ _ _ _ e => push_get_lt (h.lt e)
instance {H : AHeap} {s : Nat} {o : AObj} {p : AVal} [w : WrS H p] [k : RowNe p s] : WrS (H.set s o) p := w.keep fun _ _ _ _ _ e => set_get_ne (k.ne _ _ _ _ _ e)
instance {H H' : AHeap} {p q : AVal} {sz n : Nat} {cs : List AVal} [x : ExtP H H' q] [w : WrS H p] [h : SliceAt H p sz n cs] [k : SepS p q] : WrS H' p := w.keep fun r _ _ _ _ e => x.get r (h.lt e) ⟨fun r' _ _ _ _ e' => fun hh => k.ne _ _ _ _ _ _ _ _ _ _ e e' hh.symm⟩

instance {H : AHeap} : Ext0 H H := ⟨Ext.refl H⟩
instance {H H' : AHeap} {o : AObj} [x : Ext0 H H'] : Ext0 H (H'.push o) := ⟨x.ext.push o⟩
instance {H H' : AHeap} {s : Nat} {o : AObj} [x : Ext0 H H'] [l : LeN H s] : Ext0 H (H'.set s o) := ⟨x.ext.set l.le o⟩
instance {H H1 H2 : AHeap} [y : ExtI H1 H2] [x : Ext0 H H1] : Ext0 H H2 := ⟨x.ext.trans y.ext⟩
instance {H K : AHeap} [x : Ext0 H K] : LeN H K.n := ⟨x.ext.n⟩
instance {H K : AHeap} {s : Nat} [g : GeN K s] [x : Ext0 H K] : LeN H s := ⟨Nat.le_trans x.ext.n g.ge⟩
instance {H K H1 H2 : AHeap} {p : AVal} [y : ExtP H1 H2 p] [f : FreshS K p] [z : Ext0 H K] [x : Ext0 H H1] : Ext0 H H2 := ⟨⟨Nat.le_trans x.ext.n y.n, fun r hr => by
  rw [y.get r (Nat.lt_of_lt_of_le hr x.ext.n) ⟨fun r' _ _ _ _ e => by have := f.ge _ _ _ _ _ e; have := z.ext.n; omega⟩]
  exact x.ext.get r hr⟩⟩
theorem FreshS.weak {H K : AHeap} {p : AVal} (f : FreshS K p) [x : Ext0 H K] : FreshS H p := ⟨fun _ _ _ _ _ e => Nat.le_trans x.ext.n (f.ge _ _ _ _ _ e)⟩
theorem ExtP.refl (H : AHeap) (p : AVal) : ExtP H H p := ⟨Nat.le_refl _, fun _ _ _ => rfl⟩
theorem ExtP.trans {a b c : AHeap} {p : AVal} (h : ExtP a b p) (k : ExtP b c p) : ExtP a c p := ⟨Nat.le_trans h.n k.n, fun r hr hp => by rw [k.get r (Nat.lt_of_lt_of_le hr h.n) hp, h.get r hr hp]⟩
theorem ExtP.ext {a b c : AHeap} {p : AVal} (h : ExtP a b p) (k : Ext b c) : ExtP a c p := ⟨Nat.le_trans h.n k.n, fun r hr hp => by rw [k.get r (Nat.lt_of_lt_of_le hr h.n), h.get r hr hp]⟩
/-- The same of two known heaps. -/
class ExtP0 (H H' : AHeap) (p : AVal) : Prop where
  ext : ExtP H H' p
instance {H : AHeap} {p : AVal} : ExtP0 H H p := ⟨ExtP.refl H p⟩
instance {H H' : AHeap} {p : AVal} {o : AObj} [x : ExtP0 H H' p] : ExtP0 H (H'.push o) p := ⟨x.ext.ext ((Ext.refl H').push o)⟩
instance {H H1 H2 : AHeap} {p : AVal} [y : ExtI H1 H2] [x : ExtP0 H H1 p] : ExtP0 H H2 p := ⟨x.ext.ext y.ext⟩
instance {H H1 H2 : AHeap} {p : AVal} [y : ExtP H1 H2 p] [x : ExtP0 H H1 p] : ExtP0 H H2 p := ⟨x.ext.trans y⟩
class LeP (H : AHeap) (p : AVal) (s : Nat) : Prop where
  le : H.n ≤ s
instance {H K : AHeap} {p : AVal} [x : ExtP0 H K p] : LeP H p K.n := ⟨x.ext.n⟩
instance {H H' : AHeap} {p : AVal} {s : Nat} {o : AObj} [x : ExtP0 H H' p] [l : LeP H p s] : ExtP0 H (H'.set s o) p := ⟨x.ext.n, fun r hr hp => by rw [set_get_ne (by have := l.le; omega)]; exact x.ext.get r hr hp⟩
instance {H K H1 H2 : AHeap} {p q : AVal} [y : ExtP H1 H2 q] [f : FreshS K q] [z : ExtP0 H K p] [x : ExtP0 H H1 p] : ExtP0 H H2 p := ⟨Nat.le_trans x.ext.n y.n, fun r hr hp => by
  rw [y.get r (Nat.lt_of_lt_of_le hr x.ext.n) ⟨fun r' _ _ _ _ e => by have := f.ge _ _ _ _ _ e; have := z.ext.n; omega⟩]
  exact x.ext.get r hr hp⟩

section
variable {call : ACall} {fr : AFrame} {H : AHeap} {K : AVal → AHeap → Prop} {KF : AFrame → AHeap → Prop}

/-- Made slices are left to those who know what they hold. -/
def nowOk : ROp → Bool
  | .makeSlice .. => false
  | _ => true
theorem WpO.now {d : Nat} {op : ROp} {os : List ROper} {v : AVal} {H1 : AHeap} (_ : nowOk op = true) (hx : op.exec call fr H = some (v, H1)) (h : WpO call os (upd fr d v) H1 KF) : WpO call (⟨some d, op, none⟩ :: os) fr H KF := WpO.step rfl ⟨v, H1, hx, h⟩

theorem WpX.lenP {x : ROpd} {p : AVal} {sz n : Nat} {cs : List AVal} (hx : x.ev fr = p) [s : SliceAt H p sz n cs] (h : K (.int .i64 n) H) : WpX (.lenS x) call fr H K := ⟨_, _, by simp only [ROp.exec, hx, s.lenS, M.ofOption, M.pure], h⟩
theorem exec_idxP {x i : ROpd} {p : AVal} {sz n : Nat} {cs : List AVal} {k : IntKind} {a : Int} (hx : x.ev fr = p) (hi : i.ev fr = .int k a) [s : SliceAt H p sz n cs] (h0 : 0 ≤ a ∧ a < n) : (ROp.idxS sz x i).exec call fr H = some (.ptr (rowOf p) (offOf p + a.toNat * sz), H) := by
  rcases s.it with ⟨_, rfl, _⟩ | ⟨r, off, cap, row, rw, e, rfl, _, _, hl, hc⟩
  · have := h0.1; have := h0.2; omega
  · simp only [ROp.exec, hx, hi, aIdxS, true_and, if_pos h0, M.ofOption, M.pure, rowOf, offOf]
theorem WpX.idxP {x i : ROpd} {p : AVal} {sz n : Nat} {cs : List AVal} {k : IntKind} {a : Int} (hx : x.ev fr = p) (hi : i.ev fr = .int k a) [s : SliceAt H p sz n cs] (h0 : 0 ≤ a ∧ a < n) (h : K (.ptr (rowOf p) (offOf p + a.toNat * sz)) H) : WpX (.idxS sz x i) call fr H K :=
  ⟨_, _, exec_idxP hx hi h0, h⟩
theorem exec_ldP {a : ROpd} {p : AVal} {sz n j : Nat} {cs : List AVal} {v : AVal} (ha : a.ev fr = .ptr (rowOf p) (offOf p + j)) [s : SliceAt H p sz n cs] (hv : cs[j]? = some v) : (ROp.load none a).exec call fr H = some (v, H) := by
  rcases s.it with ⟨_, _, rfl⟩ | ⟨r, off, cap, row, rw, e, rfl, hr, hg, hl, hc⟩
  · cases hv
  · have hj : j < n * sz := by
      have := (List.getElem?_eq_some_iff.1 hv).1
      have := s.len; omega
    have : row[off + j]? = some v := by
      rw [← hc, List.getElem?_take, if_pos hj, List.getElem?_drop] at hv
      exact hv
    simp only [ROp.exec, ha, aLoad, M.bind, aRow, rowOf, offOf, if_pos hr, hg, this, M.pure]
theorem WpX.ldP {a : ROpd} {p : AVal} {sz n j : Nat} {cs : List AVal} {v : AVal} (ha : a.ev fr = .ptr (rowOf p) (offOf p + j)) [s : SliceAt H p sz n cs] (hv : cs[j]? = some v) (h : K v H) : WpX (.load none a) call fr H K := ⟨_, _, exec_ldP ha hv, h⟩
theorem WpX.ldNP {a : ROpd} {p : AVal} {sz n j m : Nat} {cs l : List AVal} (ha : a.ev fr = .ptr (rowOf p) (offOf p + j)) [s : SliceAt H p sz n cs] (hm : 0 < m) (hv : j + m ≤ cs.length) (hl : (cs.drop j).take m = l) (h : K (.agg l) H) : WpX (.load (some m) a) call fr H K := by
  rcases s.it with ⟨_, _, rfl⟩ | ⟨r, off, cap, row, rw, e, rfl, hr, hg, hl', hc⟩
  · simp at hv; omega
  · have hlen := s.len
    refine WpX.loadN ha hr hg (by simp only [offOf]; omega) ?_
    have : (row.drop (offOf (.slice r off n cap sz) + j)).take m = l := by
      rw [← hl, ← hc]
      simp only [offOf]
      rw [List.drop_take, List.take_take, List.drop_drop, Nat.min_eq_left (by omega)]
    rw [this]; exact h

theorem setAt_one (cs : List AVal) (j : Nat) (v : AVal) : setAt cs j [v] = cs.set j v := rfl
theorem WpX.stP {a x : ROpd} {p : AVal} {sz n j : Nat} {cs : List AVal} {v : AVal} (ha : a.ev fr = .ptr (rowOf p) (offOf p + j)) (hx : x.ev fr = v) (hv : v.cells = [v]) (ho : v.one = true) [s : SliceAt H p sz n cs] [w : WrS H p] (hj : j < cs.length)
    (h : ∀ H1, SliceAt H1 p sz n (cs.set j v) → WrS H1 p → ExtP H H1 p → K aundef H1) : WpX (.store 1 a x) call fr H K := by
  rcases s.it with ⟨_, _, rfl⟩ | ⟨r, off, cap, row, rw, e, rfl, hr, hg, hl, hc⟩
  · simp at hj
  · obtain ⟨cs', e', hg'⟩ := w.it _ _ _ _ _ rfl
    rw [hg] at hg'; cases hg'
    have hlen := s.len
    refine WpX.store ha hx (by rw [hv]; rfl) hr hg (by rw [hv]; simp only [offOf, List.length_singleton]; omega) (by rw [hv]; simp only [List.all_cons, List.all_nil, ho]; rfl) ?_
    rw [hv, setAt_one]
    refine h _ ⟨Or.inr ⟨r, off, cap, row.set (off + j) v, true, e, rfl, hr, set_get_eq, by simpa using hl, ?_⟩⟩ ⟨fun r' off' len' cap' sz' e' => by cases e'; exact ⟨_, _, set_get_eq⟩⟩ ⟨Nat.le_refl _, fun r' hr' hne => set_get_ne (fun hh => hne.ne _ _ _ _ _ rfl hh.symm)⟩
    rw [← hc]
    apply List.ext_getElem?
    intro i
    simp only [List.getElem?_take, List.getElem?_drop, List.getElem?_set, List.length_take, List.length_drop]
    by_cases hij : j = i
    · subst hij
      have h1 : j < n * sz := by omega
      have h2 : off + j < row.length := by omega
      have h3 : j < min (n * sz) (row.length - off) := by omega
      simp [h1, h2, h3]
    · have : ¬ off + j = off + i := by omega
      simp [hij, this]

theorem mk_bytes (n : Nat) : (List.replicate n [AVal.int .u8 0]).flatten = cellsB (List.replicate n 0) := by
  induction n with
  | zero => rfl
  | succ n ih => rw [List.replicate_succ, List.flatten_cons, ih]; rfl
theorem mk_ints (n : Nat) : (List.replicate n [AVal.int .i64 0]).flatten = cellsI (List.replicate n 0) := by
  induction n with
  | zero => rfl
  | succ n ih => rw [List.replicate_succ, List.flatten_cons, ih]; rfl
theorem exec_mk {e : TypeId} {b : Nat} {z : AVal} {x y : ROpd} {k k' : IntKind} {a : Int} (hx : x.ev fr = .int k a) (hy : y.ev fr = .int k' a) (h0 : 0 ≤ a ∧ a ≤ a ∧ b * a ≤ 2 ^ 47 ∧ a < 2 ^ 62) : (ROp.makeSlice e [z] b x y).exec call fr H = some (.slice H.n 0 a.toNat (some a.toNat) 1, H.push (.row ((List.replicate a.toNat [z]).flatten) true (2 * e))) := by
  simp only [ROp.exec, hx, hy, aMakeSlice, if_pos h0, M.bind, aNew, M.pure, List.length_singleton]
theorem mk_facts {z : AVal} {n : Nat} {e : TypeId} {l : List AVal} (hl : (List.replicate n [z]).flatten = l) : SliceAt (H.push (.row l true e)) (.slice H.n 0 n (some n) 1) 1 n l ∧ FreshS H (.slice H.n 0 n (some n) 1) ∧ WrS (H.push (.row l true e)) (.slice H.n 0 n (some n) 1) := by
  have hlen : l.length = n := by rw [← hl]; simp
  refine ⟨⟨Or.inr ⟨H.n, 0, some n, l, true, e, rfl, Nat.lt_succ_self _, push_get_eq, by omega, ?_⟩⟩, ⟨fun r off len cap sz e => by cases e; exact Nat.le_refl _⟩, ⟨fun r off len cap sz e => by cases e; exact ⟨_, _, push_get_eq⟩⟩⟩
  rw [List.drop_zero, List.take_of_length_le (by omega)]
theorem WpX.mkB {e : TypeId} {x y : ROpd} {k k' : IntKind} {a : Int} {n : Nat} (hx : x.ev fr = .int k a) (hy : y.ev fr = .int k' a) (ha : a = n) (hn : n ≤ 2 ^ 40)
    (h : ∀ p H1, H1 = H.push (.row (cellsB (List.replicate n 0)) true (2 * e)) → BytesI H1 p (List.replicate n 0) → FreshS H p → WrS H1 p → ExtI H H1 → K p H1) : WpX (.makeSlice e [.int .u8 0] 1 x y) call fr H K := by
  subst ha
  obtain ⟨h1, h2, h3⟩ := mk_facts (H := H) (e := 2 * e) (mk_bytes n)
  refine ⟨_, _, exec_mk hx hy (by omega), ?_⟩
  rw [Int.toNat_natCast, mk_bytes]
  refine h _ _ rfl ?_ h2 h3 ⟨(Ext.refl H).push _⟩
  unfold BytesI
  rw [List.length_replicate]
  exact h1
theorem WpX.mkI {e : TypeId} {x y : ROpd} {k k' : IntKind} {a : Int} {n : Nat} (hx : x.ev fr = .int k a) (hy : y.ev fr = .int k' a) (ha : a = n) (hn : n ≤ 2 ^ 40)
    (h : ∀ p H1, H1 = H.push (.row (cellsI (List.replicate n 0)) true (2 * e)) → IntsI H1 p (List.replicate n 0) → FreshS H p → WrS H1 p → ExtI H H1 → K p H1) : WpX (.makeSlice e [.int .i64 0] 8 x y) call fr H K := by
  subst ha
  obtain ⟨h1, h2, h3⟩ := mk_facts (H := H) (e := 2 * e) (mk_ints n)
  refine ⟨_, _, exec_mk hx hy (by omega), ?_⟩
  rw [Int.toNat_natCast, mk_ints]
  refine h _ _ rfl ?_ h2 h3 ⟨(Ext.refl H).push _⟩
  unfold IntsI
  rw [List.length_replicate]
  exact h1

theorem get_bytes {l : List UInt8} {i : Nat} (h : i < l.length) : (cellsB l)[i]? = some (.int .u8 (l[i].toNat : Int)) := by simp [cellsB, h]
theorem get_ints {l : List Int} {i : Nat} (h : i < l.length) : (cellsI l)[i]? = some (.int .i64 l[i]) := by simp [cellsI, h]
theorem set_bytes {l : List UInt8} {i : Nat} {b : UInt8} : (cellsB l).set i (.int .u8 (b.toNat : Int)) = cellsB (l.set i b) := by simp [cellsB, List.map_set]
theorem set_ints {l : List Int} {i : Nat} {n : Int} : (cellsI l).set i (.int .i64 n) = cellsI (l.set i n) := by simp [cellsI, List.map_set]
end

theorem w64 {x : Int} (h : -9223372036854775808 ≤ x ∧ x < 9223372036854775808) : IntKind.i64.wrap x = x := by
  have h1 : IntKind.i64.wrap x = if (true && decide (x % 2 ^ 64 ≥ 2 ^ 63)) = true then x % 2 ^ 64 - 2 ^ 64 else x % 2 ^ 64 := rfl
  rw [h1]
  by_cases hh : x % 2 ^ 64 ≥ 2 ^ 63
  · simp only [hh, decide_true, Bool.and_true, if_true]; omega
  · simp only [hh, decide_false, Bool.and_false, Bool.false_eq_true, if_false]; omega

/-- What simp puts in order. -/
theorem nrm : (∀ l, (AVal.agg l).cells = l) ∧ (∀ fr t, ROpd.ev fr (.tmp t) = fr t) ∧ (∀ fr v, ROpd.ev fr (.val v) = v) ∧ (∀ fr d v i, upd fr d v i = if i = d then v else fr i) ∧ (∀ fr d v, put fr (some d) v = upd fr d v) ∧ (∀ fr v, put fr none v = fr) ∧ (∀ v vs, argFrame (v :: vs) 0 = v) ∧ (∀ v w vs, argFrame (v :: w :: vs) 1 = w) ∧ (∀ v w x vs, argFrame (v :: w :: x :: vs) 2 = x) ∧ (∀ v w x y vs, argFrame (v :: w :: x :: y :: vs) 3 = y) ∧ (∀ v w x y z vs, argFrame (v :: w :: x :: y :: z :: vs) 4 = z) ∧ (∀ a b : AVal, (match true with | true => a | false => b) = a) ∧ (∀ a b : AVal, (match false with | true => a | false => b) = b) ∧ (∀ a b : AVal, cond true a b = a) ∧ (∀ a b : AVal, cond false a b = b) ∧ (!true) = false ∧ (!false) = true ∧ (∀ n : Nat, 0 + n = n) ∧ (∀ n : Nat, ((n : Int)).toNat = n) ∧ (∀ n : Nat, n * 1 = n) ∧ (∀ fr, updL [] fr = fr) ∧ (∀ p l fr, updL (p :: l) fr = upd (updL l fr) p.1 p.2) ∧ (∀ g fr, mix [] g fr = fr) ∧ (∀ d D g fr, mix (d :: D) g fr = upd (mix D g fr) d (g d)) ∧ (∀ l, (cellsB l).length = l.length) ∧ (∀ l, (cellsI l).length = l.length) ∧ (∀ (a b : AVal) l, (a :: l).set 0 b = b :: l) ∧ (∀ (a b : AVal) l, (a :: l).set 1 b = a :: l.set 0 b) ∧ (∀ (a b : AVal) l, (a :: l).set 2 b = a :: l.set 1 b) ∧ (∀ (a b : AVal) l, (a :: l).set 3 b = a :: l.set 2 b) ∧ (∀ (a : AVal) l n, List.take (n + 1) (a :: l) = a :: List.take n l) ∧ (∀ l : List AVal, List.take 0 l = []) ∧ (∀ l : List AVal, List.drop 0 l = l) ∧ (∀ (a : AVal) l n, List.drop (n + 1) (a :: l) = List.drop n l) ∧ (∀ cs off, setAt cs off [] = cs) ∧ (∀ cs off v vs, setAt cs off (v :: vs) = setAt (cs.set off v) (off + 1) vs) := by
  refine ⟨fun _ => rfl, fun _ _ => rfl, fun _ _ => rfl, upd_at, fun _ _ _ => rfl, fun _ _ => rfl, fun _ _ => rfl, fun _ _ _ => rfl, fun _ _ _ _ => rfl, fun _ _ _ _ _ => rfl, fun _ _ _ _ _ _ => rfl, fun _ _ => rfl, fun _ _ => rfl, fun _ _ => rfl, fun _ _ => rfl, rfl, rfl, Nat.zero_add, Int.toNat_natCast, Nat.mul_one, fun _ => rfl, fun _ _ _ => rfl, fun _ _ => rfl, fun _ _ _ _ => rfl, cellsB_length, cellsI_length, fun _ _ _ => rfl, fun _ _ _ => rfl, fun _ _ _ => rfl, fun _ _ _ => rfl, fun _ _ _ => rfl, fun _ => rfl, fun _ => rfl, fun _ _ _ => rfl, fun _ _ => rfl, fun _ _ _ _ => rfl⟩
end Go.Am
