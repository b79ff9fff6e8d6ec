import Derived.Test.YtdbgdhjcpmacoaaDoorAmBB
import Derived.ReadAgain
import Derived.WideShapes
import Derived.ChangeShapes
import Derived.OpenShut
import Derived.ChangeStays
import Derived.ChangeSame
import Derived.RowKit
import Derived.ChangeOld
import Derived.Lib.Bytealg
import Derived.Lib.BytesEntry
import Derived.Laws.Externs
import Derived.Test.YtdbgdhjcpmacoaaDoorProg
import Derived.Test.YtdbgdhjcpmacoaaDoorCards
import Derived.Test.YtdbgdhjcpmacoaaDoorTie
import Derived.WalkKit
import Derived.ProofKit
import Derived.Deep.DeepHandedRow
import Derived.Lib.LaidTab
set_option linter.unusedSimpArgs false
set_option linter.unusedVariables false
set_option maxRecDepth 100000
set_option maxHeartbeats 4000000
namespace Go.Am
open Go
def cellsI (l : List Int) : List AVal := l.map fun n => .int .i64 n
theorem cellsI_length (l : List Int) : (cellsI l).length = l.length := by simp [cellsI]
def rowOf : AVal → Nat
 | .slice r _ _ _ _ => r
 | _ => 0
def offOf : AVal → Nat
 | .slice _ off _ _ _ => off
 | _ => 0
class SliceAt (H : AHeap) (p : AVal) (sz : outParam Nat) (n : outParam Nat) (cs : outParam (List AVal)) : Prop where
 it : (p = .nslice ∧ n = 0 ∧ cs = []) ∨ ∃ r off cap row rw e, p = .slice r off n cap sz ∧ r < H.n ∧ H.get r = .row row rw e ∧ off + n * sz ≤ row.length ∧ (row.drop off).take (n * sz) = cs ∧ n ≤ capD n cap
class WrS (H : AHeap) (p : AVal) : Prop where
 it : ∀ r off len cap sz, p = .slice r off len cap sz → ∃ cs e, H.get r = .row cs true e
class RowNe (p : AVal) (s : Nat) : Prop where
 ne : ∀ r off len cap sz, p = .slice r off len cap sz → r ≠ s
class FreshS (H : outParam AHeap) (p : AVal) : Prop where
 ge : ∀ r off len cap sz, p = .slice r off len cap sz → H.n ≤ r
class SepS (p q : AVal) : Prop where
 ne : ∀ r off len cap sz r' off' len' cap' sz', p = .slice r off len cap sz → q = .slice r' off' len' cap' sz' → r ≠ r'
class ExtP (H : outParam AHeap) (H' : AHeap) (p : outParam AVal) : Prop where
 n : H.n ≤ H'.n
 get : ∀ r, r < H.n → RowNe p r → H'.get r = H.get r
class Ext0 (H H' : AHeap) : Prop where
 ext : Ext H H'
class LeN (H : AHeap) (s : Nat) : Prop where
 le : H.n ≤ s
abbrev BytesI (H : AHeap) (p : AVal) (l : List UInt8) : Prop := SliceAt H p 1 l.length (cellsB l)
abbrev IntsI (H : AHeap) (p : AVal) (l : List Int) : Prop := SliceAt H p 1 l.length (cellsI l)
theorem SliceAt.len {H : AHeap} {p : AVal} {sz n : Nat} {cs : List AVal} (h : SliceAt H p sz n cs) : cs.length = n * sz := by
 rcases h.it with ⟨_, rfl, rfl⟩ | ⟨r, off, cap, row, rw, e, _, _, _, hl, hc, _⟩
 ·simp
 ·rw [← hc, List.length_take, List.length_drop]; omega
theorem SliceAt.lenS {H : AHeap} {p : AVal} {sz n : Nat} {cs : List AVal} (h : SliceAt H p sz n cs) : aLenS p = some (.int .i64 n) := by
 rcases h.it with ⟨rfl, rfl, _⟩ | ⟨r, off, cap, row, rw, e, rfl, _⟩ <;> rfl
theorem SliceAt.lt {H : AHeap} {p : AVal} {sz n : Nat} {cs : List AVal} (h : SliceAt H p sz n cs) {r off len : Nat} {cap : Option Nat} {s : Nat} (e : p = .slice r off len cap s) : r < H.n := by
 rcases h.it with ⟨rfl, _⟩ | ⟨r, off, cap, row, rw, e, rfl, hr, _⟩
 ·cases e
 ·cases e; exact hr
theorem SliceAt.keep {H H' : AHeap} {p : AVal} {sz n : Nat} {cs : List AVal} (h : SliceAt H p sz n cs) (hn : H.n ≤ H'.n) (hg : ∀ r off len cap sz, p = .slice r off len cap sz → r < H.n → H'.get r = H.get r) : SliceAt H' p sz n cs := by
 rcases h.it with ⟨h1, h2, h3⟩ | ⟨r, off, cap, row, rw, e, h1, h2, h3, h4, h5⟩
 ·exact ⟨Or.inl ⟨h1, h2, h3⟩⟩
 ·exact ⟨Or.inr ⟨r, off, cap, row, rw, e, h1, by omega, by rw [hg _ _ _ _ _ h1 h2]; exact h3, h4, h5⟩⟩
theorem WrS.keep {H H' : AHeap} {p : AVal} (h : WrS H p) (hg : ∀ r off len cap sz, p = .slice r off len cap sz → H'.get r = H.get r) : WrS H' p := ⟨fun r off len cap sz e => by rw [hg _ _ _ _ _ e]; exact h.it _ _ _ _ _ e⟩
instance {s : Nat} {p : AVal} {K : AHeap} [f : FreshS K p] [l : LtN s K] : RowNe p s := ⟨fun r off len cap sz e => by have := f.ge _ _ _ _ _ e; have := l.lt; omega⟩
instance {H : AHeap} {p : AVal} {sz n : Nat} {cs : List AVal} [h : SliceAt H p sz n cs] : RowNe p H.n := ⟨fun r off len cap s e => Nat.ne_of_lt (h.lt e)⟩
instance {K : AHeap} {s : Nat} {p : AVal} {sz n : Nat} {cs : List AVal} [g : GeN K s] [h : SliceAt K p sz n cs] : RowNe p s := ⟨fun r off len cap sz e => by have := h.lt e; have := g.ge; omega⟩
instance {s : Nat} : RowNe .nslice s := ⟨fun _ _ _ _ _ e => by cases e⟩
instance {K : AHeap} {p q : AVal} {sz n : Nat} {cs : List AVal} [f : FreshS K p] [h : SliceAt K q sz n cs] : SepS p q := ⟨fun r off len cap sz r' off' len' cap' sz' e e' => by have := f.ge _ _ _ _ _ e; have := h.lt e'; omega⟩
instance {K : AHeap} {p q : AVal} {sz n : Nat} {cs : List AVal} [f : FreshS K p] [h : SliceAt K q sz n cs] : SepS q p := ⟨fun r off len cap sz r' off' len' cap' sz' e e' => by have := f.ge _ _ _ _ _ e'; have := h.lt e; omega⟩
instance {q : AVal} : SepS .nslice q := ⟨fun _ _ _ _ _ _ _ _ _ _ e => by cases e⟩
instance {H : AHeap} : SliceAt H .nslice 1 0 [] := ⟨Or.inl ⟨rfl, rfl, rfl⟩⟩
instance {H H' : AHeap} {p : AVal} {sz n : Nat} {cs : List AVal} [x : ExtI H H'] [h : SliceAt H p sz n cs] : SliceAt H' p sz n cs := h.keep x.ext.n fun _ _ _ _ _ _ hr => x.ext.get _ hr
instance {H : AHeap} {o : AObj} {p : AVal} {sz n : Nat} {cs : List AVal} [h : SliceAt H p sz n cs] : SliceAt (H.push o) p sz n cs := h.keep (Nat.le_succ _) fun _ _ _ _ _ _ hr => push_get_lt hr
instance {H : AHeap} {s : Nat} {o : AObj} {p : AVal} {sz n : Nat} {cs : List AVal} [h : SliceAt H p sz n cs] [k : RowNe p s] : SliceAt (H.set s o) p sz n cs := h.keep (Nat.le_refl _) fun _ _ _ _ _ e _ => set_get_ne (k.ne _ _ _ _ _ e)
instance {H H' : AHeap} {p q : AVal} {sz n : Nat} {cs : List AVal} [x : ExtP H H' q] [h : SliceAt H p sz n cs] [k : SepS p q] : SliceAt H' p sz n cs := h.keep x.n fun r _ _ _ _ e hr => x.get r hr ⟨fun r' _ _ _ _ e' => fun hh => k.ne _ _ _ _ _ _ _ _ _ _ e e' hh.symm⟩
instance {H H' : AHeap} {r : Nat} {cs : List AVal} {rw : Bool} {e : TypeId} {q : AVal} [x : ExtP H H' q] [h : HasRow H r cs rw e] [k : RowNe q r] : HasRow H' r cs rw e := ⟨Nat.lt_of_lt_of_le h.lt x.n, by rw [x.get r h.lt k]; exact h.get⟩
instance {H H' : AHeap} {p : AVal} {sz n : Nat} {cs : List AVal} [x : ExtI H H'] [w : WrS H p] [h : SliceAt H p sz n cs] : WrS H' p := w.keep fun _ _ _ _ _ e => x.ext.get _ (h.lt e)
instance {H : AHeap} {o : AObj} {p : AVal} {sz n : Nat} {cs : List AVal} [w : WrS H p] [h : SliceAt H p sz n cs] : WrS (H.push o) p := w.keep fun _ _ _ _ _ e => push_get_lt (h.lt e)
instance {H : AHeap} {s : Nat} {o : AObj} {p : AVal} [w : WrS H p] [k : RowNe p s] : WrS (H.set s o) p := w.keep fun _ _ _ _ _ e => set_get_ne (k.ne _ _ _ _ _ e)
instance {H H' : AHeap} {p q : AVal} {sz n : Nat} {cs : List AVal} [x : ExtP H H' q] [w : WrS H p] [h : SliceAt H p sz n cs] [k : SepS p q] : WrS H' p := w.keep fun r _ _ _ _ e => x.get r (h.lt e) ⟨fun r' _ _ _ _ e' => fun hh => k.ne _ _ _ _ _ _ _ _ _ _ e e' hh.symm⟩
instance {H : AHeap} : Ext0 H H := ⟨Ext.refl H⟩
instance {H H' : AHeap} {o : AObj} [x : Ext0 H H'] : Ext0 H (H'.push o) := ⟨x.ext.push o⟩
instance {H H' : AHeap} {s : Nat} {o : AObj} [x : Ext0 H H'] [l : LeN H s] : Ext0 H (H'.set s o) := ⟨x.ext.set l.le o⟩
instance {H H1 H2 : AHeap} [y : ExtI H1 H2] [x : Ext0 H H1] : Ext0 H H2 := ⟨x.ext.trans y.ext⟩
instance {H K : AHeap} [x : Ext0 H K] : LeN H K.n := ⟨x.ext.n⟩
instance {H K : AHeap} {s : Nat} [g : GeN K s] [x : Ext0 H K] : LeN H s := ⟨Nat.le_trans x.ext.n g.ge⟩
instance {H K H1 H2 : AHeap} {p : AVal} [y : ExtP H1 H2 p] [f : FreshS K p] [z : Ext0 H K] [x : Ext0 H H1] : Ext0 H H2 := ⟨⟨Nat.le_trans x.ext.n y.n, fun r hr => by
 rw [y.get r (Nat.lt_of_lt_of_le hr x.ext.n) ⟨fun r' _ _ _ _ e => by have := f.ge _ _ _ _ _ e; have := z.ext.n; omega⟩]
 exact x.ext.get r hr⟩⟩
theorem FreshS.weak {H K : AHeap} {p : AVal} (f : FreshS K p) [x : Ext0 H K] : FreshS H p := ⟨fun _ _ _ _ _ e => Nat.le_trans x.ext.n (f.ge _ _ _ _ _ e)⟩
theorem ExtP.refl (H : AHeap) (p : AVal) : ExtP H H p := ⟨Nat.le_refl _, fun _ _ _ => rfl⟩
theorem ExtP.trans {a b c : AHeap} {p : AVal} (h : ExtP a b p) (k : ExtP b c p) : ExtP a c p := ⟨Nat.le_trans h.n k.n, fun r hr hp => by rw [k.get r (Nat.lt_of_lt_of_le hr h.n) hp, h.get r hr hp]⟩
theorem ExtP.ext {a b c : AHeap} {p : AVal} (h : ExtP a b p) (k : Ext b c) : ExtP a c p := ⟨Nat.le_trans h.n k.n, fun r hr hp => by rw [k.get r (Nat.lt_of_lt_of_le hr h.n), h.get r hr hp]⟩
class ExtP0 (H H' : AHeap) (p : AVal) : Prop where
 ext : ExtP H H' p
instance {H : AHeap} {p : AVal} : ExtP0 H H p := ⟨ExtP.refl H p⟩
instance {H H' : AHeap} {p : AVal} {o : AObj} [x : ExtP0 H H' p] : ExtP0 H (H'.push o) p := ⟨x.ext.ext ((Ext.refl H').push o)⟩
instance {H H1 H2 : AHeap} {p : AVal} [y : ExtI H1 H2] [x : ExtP0 H H1 p] : ExtP0 H H2 p := ⟨x.ext.ext y.ext⟩
instance {H H1 H2 : AHeap} {p : AVal} [y : ExtP H1 H2 p] [x : ExtP0 H H1 p] : ExtP0 H H2 p := ⟨x.ext.trans y⟩
class LeP (H : AHeap) (p : AVal) (s : Nat) : Prop where
 le : H.n ≤ s
instance {H K : AHeap} {p : AVal} [x : ExtP0 H K p] : LeP H p K.n := ⟨x.ext.n⟩
instance {H H' : AHeap} {p : AVal} {s : Nat} {o : AObj} [x : ExtP0 H H' p] [l : LeP H p s] : ExtP0 H (H'.set s o) p := ⟨x.ext.n, fun r hr hp => by rw [set_get_ne (by have := l.le; omega)]; exact x.ext.get r hr hp⟩
instance {H K H1 H2 : AHeap} {p q : AVal} [y : ExtP H1 H2 q] [f : FreshS K q] [z : ExtP0 H K p] [x : ExtP0 H H1 p] : ExtP0 H H2 p := ⟨Nat.le_trans x.ext.n y.n, fun r hr hp => by
 rw [y.get r (Nat.lt_of_lt_of_le hr x.ext.n) ⟨fun r' _ _ _ _ e => by have := f.ge _ _ _ _ _ e; have := z.ext.n; omega⟩]
 exact x.ext.get r hr hp⟩
section
variable {call : ACall} {fr : AFrame} {H : AHeap} {K : AVal → AHeap → Prop} {KF : AFrame → AHeap → Prop}
def nowOk : ROp → Bool
 | .makeSlice .. => false
 | _ => true
theorem WpO.now {d : Nat} {op : ROp} {os : List ROper} {v : AVal} {H1 : AHeap} (_ : nowOk op = true) (hx : op.exec call fr H = some (v, H1)) (h : WpO call os (upd fr d v) H1 KF) : WpO call (⟨some d, op, none⟩ :: os) fr H KF := WpO.step rfl ⟨v, H1, hx, h⟩
theorem WpX.lenP {x : ROpd} {p : AVal} {sz n : Nat} {cs : List AVal} (hx : x.ev fr = p) [s : SliceAt H p sz n cs] (h : K (.int .i64 n) H) : WpX (.lenS x) call fr H K := ⟨_, _, by simp only [ROp.exec, hx, s.lenS, M.ofOption, M.pure], h⟩
theorem exec_idxP {x i : ROpd} {p : AVal} {sz n : Nat} {cs : List AVal} {k : IntKind} {a : Int} (hx : x.ev fr = p) (hi : i.ev fr = .int k a) [s : SliceAt H p sz n cs] (h0 : 0 ≤ a ∧ a < n) : (ROp.idxS sz x i).exec call fr H = some (.ptr (rowOf p) (offOf p + a.toNat * sz), H) := by
 rcases s.it with ⟨_, rfl, _⟩ | ⟨r, off, cap, row, rw, e, rfl, _, _, hl, hc, _⟩
 ·have := h0.1; have := h0.2; omega
 ·simp only [ROp.exec, hx, hi, aIdxS, true_and, if_pos h0, M.ofOption, M.pure, rowOf, offOf]
theorem WpX.idxP {x i : ROpd} {p : AVal} {sz n : Nat} {cs : List AVal} {k : IntKind} {a : Int} (hx : x.ev fr = p) (hi : i.ev fr = .int k a) [s : SliceAt H p sz n cs] (h0 : 0 ≤ a ∧ a < n) (h : K (.ptr (rowOf p) (offOf p + a.toNat * sz)) H) : WpX (.idxS sz x i) call fr H K :=
 ⟨_, _, exec_idxP hx hi h0, h⟩
theorem exec_ldP {a : ROpd} {p : AVal} {sz n j : Nat} {cs : List AVal} {v : AVal} (ha : a.ev fr = .ptr (rowOf p) (offOf p + j)) [s : SliceAt H p sz n cs] (hv : cs[j]? = some v) : (ROp.load none a).exec call fr H = some (v, H) := by
 rcases s.it with ⟨_, _, rfl⟩ | ⟨r, off, cap, row, rw, e, rfl, hr, hg, hl, hc, hcap⟩
 ·cases hv
 ·have hj : j < n * sz := by
   have := (List.getElem?_eq_some_iff.1 hv).1
   have := s.len; omega
  have : row[off + j]? = some v := by
   rw [← hc, List.getElem?_take, if_pos hj, List.getElem?_drop] at hv
   exact hv
  simp only [ROp.exec, ha, aLoad, M.bind, aRow, rowOf, offOf, if_pos hr, hg, this, M.pure]
theorem WpX.ldP {a : ROpd} {p : AVal} {sz n j : Nat} {cs : List AVal} {v : AVal} (ha : a.ev fr = .ptr (rowOf p) (offOf p + j)) [s : SliceAt H p sz n cs] (hv : cs[j]? = some v) (h : K v H) : WpX (.load none a) call fr H K := ⟨_, _, exec_ldP ha hv, h⟩
theorem WpX.ldNP {a : ROpd} {p : AVal} {sz n j m : Nat} {cs l : List AVal} (ha : a.ev fr = .ptr (rowOf p) (offOf p + j)) [s : SliceAt H p sz n cs] (hm : 0 < m) (hv : j + m ≤ cs.length) (hl : (cs.drop j).take m = l) (h : K (.agg l) H) : WpX (.load (some m) a) call fr H K := by
 rcases s.it with ⟨_, _, rfl⟩ | ⟨r, off, cap, row, rw, e, rfl, hr, hg, hl', hc, _⟩
 ·simp at hv; omega
 ·have hlen := s.len
  refine WpX.loadN ha hr hg (by simp only [offOf]; omega) ?_
  have : (row.drop (offOf (.slice r off n cap sz) + j)).take m = l := by
   rw [← hl, ← hc]
   simp only [offOf]
   rw [List.drop_take, List.take_take, List.drop_drop, Nat.min_eq_left (by omega)]
  rw [this]; exact h
theorem setAt_one (cs : List AVal) (j : Nat) (v : AVal) : setAt cs j [v] = cs.set j v := rfl
theorem WpX.stP {a x : ROpd} {p : AVal} {sz n j : Nat} {cs : List AVal} {v : AVal} (ha : a.ev fr = .ptr (rowOf p) (offOf p + j)) (hx : x.ev fr = v) (hv : v.cells = [v]) (ho : v.one = true) [s : SliceAt H p sz n cs] [w : WrS H p] (hj : j < cs.length)
  (h : ∀ H1, SliceAt H1 p sz n (cs.set j v) → WrS H1 p → ExtP H H1 p → K aundef H1) : WpX (.store 1 a x) call fr H K := by
 rcases s.it with ⟨_, _, rfl⟩ | ⟨r, off, cap, row, rw, e, rfl, hr, hg, hl, hc, hcap⟩
 ·simp at hj
 ·obtain ⟨cs', e', hg'⟩ := w.it _ _ _ _ _ rfl
  rw [hg] at hg'; cases hg'
  have hlen := s.len
  refine WpX.store ha hx (by rw [hv]; rfl) hr hg (by rw [hv]; simp only [offOf, List.length_singleton]; omega) (by rw [hv]; simp only [List.all_cons, List.all_nil, ho]; rfl) ?_
  rw [hv, setAt_one]
  refine h _ ⟨Or.inr ⟨r, off, cap, row.set (off + j) v, true, e, rfl, hr, set_get_eq, by simpa using hl, ?_, hcap⟩⟩ ⟨fun r' off' len' cap' sz' e' => by cases e'; exact ⟨_, _, set_get_eq⟩⟩ ⟨Nat.le_refl _, fun r' hr' hne => set_get_ne (fun hh => hne.ne _ _ _ _ _ rfl hh.symm)⟩
  rw [← hc]
  apply List.ext_getElem?
  intro i
  simp only [List.getElem?_take, List.getElem?_drop, List.getElem?_set, List.length_take, List.length_drop]
  by_cases hij : j = i
  ·subst hij
   have h1 : j < n * sz := by omega
   have h2 : off + j < row.length := by omega
   have h3 : j < min (n * sz) (row.length - off) := by omega
   simp [h1, h2, h3]
  ·have : ¬ off + j = off + i := by omega
   simp [hij, this]
theorem mk_bytes (n : Nat) : (List.replicate n [AVal.int .u8 0]).flatten = cellsB (List.replicate n 0) := by
 induction n with
 | zero => rfl
 | succ n ih => rw [List.replicate_succ, List.flatten_cons, ih]; rfl
theorem mk_ints (n : Nat) : (List.replicate n [AVal.int .i64 0]).flatten = cellsI (List.replicate n 0) := by
 induction n with
 | zero => rfl
 | succ n ih => rw [List.replicate_succ, List.flatten_cons, ih]; rfl
theorem exec_mk {e : TypeId} {b : Nat} {z : AVal} {x y : ROpd} {k k' : IntKind} {a : Int} (hx : x.ev fr = .int k a) (hy : y.ev fr = .int k' a) (h0 : 0 ≤ a ∧ a ≤ a ∧ b * a ≤ 2 ^ 47 ∧ a < 2 ^ 62) : (ROp.makeSlice e [z] b x y).exec call fr H = some (.slice H.n 0 a.toNat (some a.toNat) 1, H.push (.row ((List.replicate a.toNat [z]).flatten) true (2 * e))) := by
 simp only [ROp.exec, hx, hy, aMakeSlice, if_pos h0, M.bind, aNew, M.pure, List.length_singleton]
theorem mk_facts {z : AVal} {n : Nat} {e : TypeId} {l : List AVal} (hl : (List.replicate n [z]).flatten = l) : SliceAt (H.push (.row l true e)) (.slice H.n 0 n (some n) 1) 1 n l ∧ FreshS H (.slice H.n 0 n (some n) 1) ∧ WrS (H.push (.row l true e)) (.slice H.n 0 n (some n) 1) := by
 have hlen : l.length = n := by rw [← hl]; simp
 refine ⟨⟨Or.inr ⟨H.n, 0, some n, l, true, e, rfl, Nat.lt_succ_self _, push_get_eq, by omega, ?_, Nat.le_refl _⟩⟩, ⟨fun r off len cap sz e => by cases e; exact Nat.le_refl _⟩, ⟨fun r off len cap sz e => by cases e; exact ⟨_, _, push_get_eq⟩⟩⟩
 rw [List.drop_zero, List.take_of_length_le (by omega)]
theorem WpX.mkB {e : TypeId} {x y : ROpd} {k k' : IntKind} {a : Int} {n : Nat} (hx : x.ev fr = .int k a) (hy : y.ev fr = .int k' a) (ha : a = n) (hn : n ≤ 2 ^ 40)
  (h : ∀ p H1, H1 = H.push (.row (cellsB (List.replicate n 0)) true (2 * e)) → BytesI H1 p (List.replicate n 0) → FreshS H p → WrS H1 p → ExtI H H1 → K p H1) : WpX (.makeSlice e [.int .u8 0] 1 x y) call fr H K := by
 subst ha
 obtain ⟨h1, h2, h3⟩ := mk_facts (H := H) (e := 2 * e) (mk_bytes n)
 refine ⟨_, _, exec_mk hx hy (by omega), ?_⟩
 rw [Int.toNat_natCast, mk_bytes]
 refine h _ _ rfl ?_ h2 h3 ⟨(Ext.refl H).push _⟩
 unfold BytesI
 rw [List.length_replicate]
 exact h1
theorem WpX.mkI {e : TypeId} {x y : ROpd} {k k' : IntKind} {a : Int} {n : Nat} (hx : x.ev fr = .int k a) (hy : y.ev fr = .int k' a) (ha : a = n) (hn : n ≤ 2 ^ 40)
  (h : ∀ p H1, H1 = H.push (.row (cellsI (List.replicate n 0)) true (2 * e)) → IntsI H1 p (List.replicate n 0) → FreshS H p → WrS H1 p → ExtI H H1 → K p H1) : WpX (.makeSlice e [.int .i64 0] 8 x y) call fr H K := by
 subst ha
 obtain ⟨h1, h2, h3⟩ := mk_facts (H := H) (e := 2 * e) (mk_ints n)
 refine ⟨_, _, exec_mk hx hy (by omega), ?_⟩
 rw [Int.toNat_natCast, mk_ints]
 refine h _ _ rfl ?_ h2 h3 ⟨(Ext.refl H).push _⟩
 unfold IntsI
 rw [List.length_replicate]
 exact h1
theorem get_bytes {l : List UInt8} {i : Nat} (h : i < l.length) : (cellsB l)[i]? = some (.int .u8 (l[i].toNat : Int)) := by simp [cellsB, h]
theorem get_ints {l : List Int} {i : Nat} (h : i < l.length) : (cellsI l)[i]? = some (.int .i64 l[i]) := by simp [cellsI, h]
theorem set_bytes {l : List UInt8} {i : Nat} {b : UInt8} : (cellsB l).set i (.int .u8 (b.toNat : Int)) = cellsB (l.set i b) := by simp [cellsB, List.map_set]
theorem set_ints {l : List Int} {i : Nat} {n : Int} : (cellsI l).set i (.int .i64 n) = cellsI (l.set i n) := by simp [cellsI, List.map_set]
end
theorem w64 {x : Int} (h : -9223372036854775808 ≤ x ∧ x < 9223372036854775808) : IntKind.i64.wrap x = x := by
 have h1 : IntKind.i64.wrap x = if (true && decide (x % 2 ^ 64 ≥ 2 ^ 63)) = true then x % 2 ^ 64 - 2 ^ 64 else x % 2 ^ 64 := rfl
 rw [h1]
 by_cases hh : x % 2 ^ 64 ≥ 2 ^ 63
 ·simp only [hh, decide_true, Bool.and_true, if_true]; omega
 ·simp only [hh, decide_false, Bool.and_false, Bool.false_eq_true, if_false]; omega
theorem nrm : (∀ l, (AVal.agg l).cells = l) ∧ (∀ fr t, ROpd.ev fr (.tmp t) = fr t) ∧ (∀ fr v, ROpd.ev fr (.val v) = v) ∧ (∀ fr d v i, upd fr d v i = if i = d then v else fr i) ∧ (∀ fr d v, put fr (some d) v = upd fr d v) ∧ (∀ fr v, put fr none v = fr) ∧ (∀ v vs, argFrame (v :: vs) 0 = v) ∧ (∀ v w vs, argFrame (v :: w :: vs) 1 = w) ∧ (∀ v w x vs, argFrame (v :: w :: x :: vs) 2 = x) ∧ (∀ v w x y vs, argFrame (v :: w :: x :: y :: vs) 3 = y) ∧ (∀ v w x y z vs, argFrame (v :: w :: x :: y :: z :: vs) 4 = z) ∧ (∀ a b : AVal, (match true with | true => a | false => b) = a) ∧ (∀ a b : AVal, (match false with | true => a | false => b) = b) ∧ (∀ a b : AVal, cond true a b = a) ∧ (∀ a b : AVal, cond false a b = b) ∧ (!true) = false ∧ (!false) = true ∧ (∀ n : Nat, 0 + n = n) ∧ (∀ n : Nat, ((n : Int)).toNat = n) ∧ (∀ n : Nat, n * 1 = n) ∧ (∀ fr, updL [] fr = fr) ∧ (∀ p l fr, updL (p :: l) fr = upd (updL l fr) p.1 p.2) ∧ (∀ g fr, mix [] g fr = fr) ∧ (∀ d D g fr, mix (d :: D) g fr = upd (mix D g fr) d (g d)) ∧ (∀ l, (cellsB l).length = l.length) ∧ (∀ l, (cellsI l).length = l.length) ∧ (∀ (a b : AVal) l, (a :: l).set 0 b = b :: l) ∧ (∀ (a b : AVal) l, (a :: l).set 1 b = a :: l.set 0 b) ∧ (∀ (a b : AVal) l, (a :: l).set 2 b = a :: l.set 1 b) ∧ (∀ (a b : AVal) l, (a :: l).set 3 b = a :: l.set 2 b) ∧ (∀ (a : AVal) l n, List.take (n + 1) (a :: l) = a :: List.take n l) ∧ (∀ l : List AVal, List.take 0 l = []) ∧ (∀ l : List AVal, List.drop 0 l = l) ∧ (∀ (a : AVal) l n, List.drop (n + 1) (a :: l) = List.drop n l) ∧ (∀ k n, (AVal.int k n).cells = [AVal.int k n]) ∧ (∀ b, (AVal.bool b).cells = [AVal.bool b]) ∧ (∀ b, (AVal.str b).cells = [AVal.str b]) ∧ (∀ r o, (AVal.ptr r o).cells = [AVal.ptr r o]) ∧ AVal.nslice.cells = [AVal.nslice] ∧ (∀ r o l c z, (AVal.slice r o l c z).cells = [AVal.slice r o l c z]) ∧ Int.toNat 0 = 0 ∧ (∀ cs off, setAt cs off [] = cs) ∧ (∀ cs off v vs, setAt cs off (v :: vs) = setAt (cs.set off v) (off + 1) vs) := by
 refine ⟨fun _ => rfl, fun _ _ => rfl, fun _ _ => rfl, upd_at, fun _ _ _ => rfl, fun _ _ => rfl, fun _ _ => rfl, fun _ _ _ => rfl, fun _ _ _ _ => rfl, fun _ _ _ _ _ => rfl, fun _ _ _ _ _ _ => rfl, fun _ _ => rfl, fun _ _ => rfl, fun _ _ => rfl, fun _ _ => rfl, rfl, rfl, Nat.zero_add, Int.toNat_natCast, Nat.mul_one, fun _ => rfl, fun _ _ _ => rfl, fun _ _ => rfl, fun _ _ _ _ => rfl, cellsB_length, cellsI_length, fun _ _ _ => rfl, fun _ _ _ => rfl, fun _ _ _ => rfl, fun _ _ _ => rfl, fun _ _ _ => rfl, fun _ => rfl, fun _ => rfl, fun _ _ _ => rfl, fun _ _ => rfl, fun _ => rfl, fun _ => rfl, fun _ _ => rfl, rfl, fun _ _ _ _ _ => rfl, rfl, fun _ _ => rfl, fun _ _ _ _ => rfl⟩
end Go.Am
namespace Go.Am
open Go Go.RowKit
section
variable {P : Program} {S : Base} {m : RMap} {H : AHeap} {w w' : World}
theorem HRel.kept (h : HRel S m H w) (hb : Below w.heap.size w w') : HRel S m H w' := by
 have hB : Below S.B S.W0 w' := h.below.trans (hb.mono h.size)
 refine ⟨hB, Nat.le_trans h.size hb.size, h.glob, h.fresh, h.away, fun r cs rw e p hr hg hp => ?_, h.apart, h.loops.move (Le.refl _) (fun b o _ e => by rw [hb.block _ (Array.getElem?_eq_some_iff.1 e).1]; exact e) fun _ _ _ a b c => ⟨a, b, c⟩⟩
 have hok := h.row r cs rw e p hr hg hp
 refine ⟨fun i v hi => ?_, hok.len, fun hrw => ⟨⟨(hok.own hrw).1.1, ?_⟩, fun i hi => ?_⟩⟩
 ·obtain ⟨x, h1, h2⟩ := hok.cell i v hi
  exact ⟨x, h1, by rw [hb.cell (cell_lt h2)]; exact h2⟩
 ·obtain ⟨c, fz, hh, hrest⟩ := (hok.own hrw).1.2
  exact ⟨c, fz, by rw [hb.block _ (Array.getElem?_eq_some_iff.1 hh).1]; exact hh, hrest⟩
 ·obtain ⟨h1, h2⟩ := (hok.own hrw).2 i hi
  obtain ⟨u, hu⟩ := Option.isSome_iff_exists.1 h1
  have hlt := cell_lt hu
  rw [hb.cell hlt, hb.frozen hlt]
  exact ⟨h1, h2⟩
def tablesIn (T : List (Nat × List AVal)) (H : AHeap) : Bool := T.all fun t => Nat.blt t.1 H.n && match H.get t.1 with | .row cs _ _ => abeqL cs t.2 | _ => false
def tableObj : List (Nat × List AVal) → Nat → AObj
 | [], _ => .dead
 | (g, cs) :: T, i => cond (Nat.beq i g) (.row cs false 0) (tableObj T i)
def tableHeap (G : Nat) (T : List (Nat × List AVal)) : AHeap := ⟨G, tableObj T⟩
def globMap (G L : Nat) : RMap := fun g => if g < G then some (⟨g, 0, none⟩, L) else none
def longest : List (Nat × List AVal) → Nat
 | [] => 0
 | t :: T => t.2.length + longest T
theorem le_longest {T : List (Nat × List AVal)} {t : Nat × List AVal} (h : t ∈ T) : t.2.length ≤ longest T := by
 induction T with
 | nil => simp at h
 | cons u T ih =>
  simp only [longest]
  rcases List.mem_cons.1 h with rfl | h
  ·omega
  ·have := ih h; omega
theorem tableObj_loop {R : RLoop} : ∀ {T : List (Nat × List AVal)} {i : Nat}, tableObj T i ≠ .loop R
 | [], i => fun e => by cases e
 | (g, cs) :: T, i => fun e => by
  simp only [tableObj] at e
  cases h : Nat.beq i g with
  | true => rw [h] at e; cases e
  | false => rw [h] at e; exact tableObj_loop e
theorem tableObj_row {T : List (Nat × List AVal)} {i : Nat} {cs : List AVal} {rw : Bool} {e : TypeId} (h : tableObj T i = .row cs rw e) : (i, cs) ∈ T ∧ rw = false := by
 induction T with
 | nil => cases h
 | cons t T ih =>
  obtain ⟨g, l⟩ := t
  simp only [tableObj] at h
  cases hb : Nat.beq i g with
  | true =>
   rw [hb] at h; cases h
   have := Nat.eq_of_beq_eq_true hb
   subst this
   exact ⟨by simp, rfl⟩
  | false =>
   rw [hb] at h
   obtain ⟨h1, h2⟩ := ih h
   exact ⟨List.mem_cons_of_mem _ h1, h2⟩
def plainV : AVal → Bool
 | .bool _ | .int _ _ | .str _ | .nptr | .nslice | .nfunc | .niface => true
 | _ => false
theorem plain_emb {v : AVal} (h : plainV v = true) (m m' : RMap) : emb m v = emb m' v := by cases v <;> first | rfl | (simp [plainV] at h)
def aClosed (T : List (Nat × List AVal)) (v : AVal) : List AVal → M AVal
 | [] => fun H => match tablesIn T H with | true => some (v, H) | false => none
 | _ => M.fail
theorem ext_closed (hmix : P.follows .mixedOrders = true) {ext0 : Exts} {prog0 : FuncId → Option RFunc} (hP : ProgOk P ext0 prog0) {T : List (Nat × List AVal)} {f : FuncId} {fn : Func} {c : Code} (hfn : P.funcs[f]? = some fn) (hb : fn.body = some c) (hname : fn.name ≠ "runtime.NumGoroutine")
  {n : Nat} {v : AVal} (hv : plainV v = true) (hT : (T.all fun t => Nat.blt t.1 P.globals.size && t.2.all plainV) = true) (hrun : ∃ H', callN ext0 prog0 n f [] (tableHeap P.globals.size T) = some (v, H'))
  {ext : Exts} {k : Nat} (hk : ext k = aClosed T v) : ExtSim P ext f k := by
 intro S args H u H' m w vargs hG hx h ha
 rw [hk] at hx
 cases args with
 | cons a l => exact (fail_some (H := H) hx).elim
 | nil =>
  simp only [embL] at ha; cases ha
  unfold aClosed at hx
  cases ht : tablesIn T H with
  | false => simp only [ht] at hx; cases hx
  | true =>
   simp only [ht, Option.some.injEq, Prod.mk.injEq] at hx
   obtain ⟨rfl, rfl⟩ := hx
   obtain ⟨H1, hrun⟩ := hrun
   simp only [tablesIn, List.all_eq_true, Bool.and_eq_true] at ht hT
   have hrel : HRel ⟨w.heap.size, w, P.globals.size, fun _ => False, cCode P⟩ (globMap P.globals.size (longest T)) (tableHeap P.globals.size T) w := by
    refine ⟨Below.refl _ _, Nat.le_refl _, fun g hg => ⟨longest T, by simp only at hg; simp [globMap, hg]⟩, fun r hr => by simp only [tableHeap] at hr; simp [globMap]; omega, fun r hr => hr.elim, ?_, ?_, ⟨fun r R p _ h _ => absurd h tableObj_loop, fun r s R R' p q L L' _ _ _ h => absurd h tableObj_loop⟩⟩
    ·intro r cs rw e p hr hg hp
     obtain ⟨hmem, rfl⟩ := tableObj_row hg
     have hT1 := hT _ hmem
     have ht1 := ht _ hmem
     simp only [] at hT1 ht1
     have hrG : r < P.globals.size := by simpa using hT1.1
     have hp' : p = (⟨r, 0, none⟩, longest T) := by simp only [globMap, hrG, if_true] at hp; exact (Option.some.inj hp).symm
     subst hp'
     obtain ⟨k, hmk⟩ := h.glob r (by rw [hG]; exact hrG)
     have hrn : r < H.n := by simpa using ht1.1
     cases hgr : H.get r with
     | row cs' rw' e' =>
      have ht2 := ht1.2
      rw [hgr] at ht2
      simp only [] at ht2
      have hcs := abeqL_eq ht2
      subst hcs
      have hok := h.row r cs' rw' e' _ hrn hgr hmk
      refine ⟨fun i u hi => ?_, le_longest hmem, fun q => by cases q⟩
      obtain ⟨x, h1, h2⟩ := hok.cell i u hi
      have hpl : plainV u = true := hT1.2 u (List.mem_of_getElem? hi)
      exact ⟨x, by rw [plain_emb hpl _ m]; exact h1, h2⟩
     | _ => have ht2 := ht1.2; rw [hgr] at ht2; cases ht2
    ·intro r s cs rw e cs' e' p q hr hs hne hg1 hg2 hp hq
     exact absurd (tableObj_row hg2).2 (by decide)
   have hy := sim_callN hmix hP n ⟨w.heap.size, w, P.globals.size, fun _ => False, cCode P⟩ rfl rfl f [] (tableHeap P.globals.size T) v H1 (globMap P.globals.size (longest T)) w [] hrun hrel (by simp [embL])
   rw [callN_sem hP hrun] at hy
   refine hy.mono fun x w' ⟨m', _, hx, hrel'⟩ => ?_
   refine ⟨m, Le.refl _, by rw [plain_emb hv m m']; exact hx, h.kept hrel'.below⟩
end
end Go.Am
namespace Go.Am
open Go Go.RowKit
def plainT (P : Program) : Nat → TypeId → Bool
 | 0, _ => false
 | n + 1, t => match P.underlying t with
  | some .bool => true
  | some .string => true
  | some (.int _) => true
  | some (.slice e) => plainT P n e
  | some (.struct fs) => fs.toList.all fun f => plainT P n f.type
  | some (.array _ e) => plainT P n e
  | _ => false
def shapes (S : TypeId → List AVal → Prop) : List TypeId → List AVal → Prop
 | [], cs => cs = []
 | t :: ts, cs => ∃ a b, cs = a ++ b ∧ S t a ∧ shapes S ts b
def Shape (P : Program) (H : AHeap) : Nat → TypeId → List AVal → Prop
 | 0, _, _ => False
 | n + 1, t, cs => match P.underlying t with
  | some .bool => ∃ b, cs = [.bool b]
  | some .string => ∃ s : ByteArray, cs = [.str s] ∧ s.size ≤ maxLen
  | some (.int k) => ∃ i, cs = [.int k i] ∧ (Lit.int k i).wf = true
  | some (.slice e) => ∃ p len cells, cs = [p] ∧ SliceAt H p (P.cellsOf e) len cells ∧ len ≤ maxLen ∧ shapes (Shape P H n) (List.replicate len e) cells
  | some (.struct fs) => shapes (Shape P H n) (fs.toList.map fun f => f.type) cs
  | some (.array k e) => shapes (Shape P H n) (List.replicate k e) cs
  | _ => False
theorem shapes_mono {S S' : TypeId → List AVal → Prop} (h : ∀ t a, S t a → S' t a) : ∀ {ts : List TypeId} {cs : List AVal}, shapes S ts cs → shapes S' ts cs := by
 intro ts
 induction ts with
 | nil => intro cs h; exact h
 | cons t ts ih =>
  intro cs hs
  obtain ⟨a, b, e, h1, h2⟩ := hs
  exact ⟨a, b, e, h _ _ h1, ih h2⟩
theorem Shape.ext {P : Program} {H H' : AHeap} (x : Ext H H') : ∀ {n : Nat} {t : TypeId} {cs : List AVal}, Shape P H n t cs → Shape P H' n t cs := by
 intro n
 induction n with
 | zero => intro t cs h; exact h
 | succ n ih =>
  intro t cs h
  cases hu : P.underlying t with
  | none => simp only [Shape, hu] at h
  | some d => cases d with
   | slice e =>
    simp only [Shape, hu] at h ⊢
    obtain ⟨p, len, cells, h1, h2, h3, h4⟩ := h
    haveI : ExtI H H' := ⟨x⟩
    exact ⟨p, len, cells, h1, inferInstance, h3, shapes_mono (fun t a => ih) h4⟩
   | struct fs => simp only [Shape, hu] at h ⊢; exact shapes_mono (fun t a => ih) h
   | array k e => simp only [Shape, hu] at h ⊢; exact shapes_mono (fun t a => ih) h
   | _ => simp only [Shape, hu] at h ⊢ <;> exact h
theorem shapes_ext {P : Program} {H H' : AHeap} (x : Ext H H') {n : Nat} {ts : List TypeId} {cs : List AVal} (h : shapes (Shape P H n) ts cs) : shapes (Shape P H' n) ts cs := shapes_mono (fun _ _ => Shape.ext x) h
def RO (H : AHeap) : Prop := ∀ r cs rw e, H.get r = .row cs rw e → rw = false
section
variable {P : Program} {S : Base} {m : RMap} {H : AHeap} {w : World}
theorem HRel.addRow (h : HRel S m H w) (hro : RO H) (hgh : ∀ r, ¬ S.ghost r) {cs : List AVal} {a : Addr} (hc : ∀ (i : Nat) (v : AVal), cs[i]? = some v → ∃ x, emb m v = some x ∧ w.cell? (a.add i) = some x) :
  Le m (m.add H.n (a, cs.length)) ∧ HRel S (m.add H.n (a, cs.length)) (H.push (.row cs false 0)) w ∧ RO (H.push (.row cs false 0)) := by
 have hm := le_add (m := m) (n := H.n) (a, cs.length) (h.fresh H.n (Nat.le_refl _))
 have hro' : RO (H.push (.row cs false 0)) := by
  intro r cs' rw e hg
  rw [getp] at hg
  split at hg
  ·cases hg; rfl
  ·exact hro _ _ _ _ hg
 refine ⟨hm, ⟨h.below, h.size, fun g hg => ?_, fun r hr => ?_, fun r hr => absurd hr (hgh r), fun r cs' rw e p hr hg hp => ?_, fun r s cs' rw e cs2 e2 p q hr hs hne hg1 hg2 => ?_, h.loops.push hm still (fun R e => by cases e) fun r hr => add_ne hr⟩, hro'⟩
 ·obtain ⟨k, hk⟩ := h.glob g hg
  exact ⟨k, hm _ _ hk⟩
 ·have : r ≠ H.n := by simp only [np] at hr; omega
  rw [add_ne this]
  exact h.fresh r (by simp only [np] at hr; omega)
 ·rw [getp] at hg
  by_cases hrn : r = H.n
  ·rw [if_pos hrn] at hg
   cases hg
   rw [hrn, add_eq] at hp
   cases hp
   refine ⟨fun i v hi => ?_, Nat.le_refl _, fun q => by cases q⟩
   obtain ⟨x, h1, h2⟩ := hc i v hi
   exact ⟨x, emb_mono hm _ _ h1, h2⟩
  ·rw [if_neg hrn] at hg
   rw [add_ne hrn] at hp
   exact (h.row r cs' rw e p (by simp only [np] at hr; omega) hg hp).mono hm (Keeps.refl _ _) (fun _ => rfl) fun _ => rfl
 ·have := hro' _ _ _ _ hg2
  cases this
theorem some_bind {α β : Type} {x : Option α} {f : α → Option β} {y : β} (h : x.bind f = some y) : ∃ a, x = some a ∧ f a = some y := by
 cases x with
 | none => cases h
 | some a => exact ⟨a, rfl, h⟩
theorem some_map {α β : Type} {x : Option α} {f : α → β} {y : β} (h : x.map f = some y) : ∃ a, x = some a ∧ f a = y := by
 cases x with
 | none => cases h
 | some a => exact ⟨a, rfl, Option.some.inj h⟩
theorem mapM_cons_some {α β : Type} {f : α → Option β} {x : α} {l : List α} {r : List β} (h : (x :: l).mapM f = some r) : ∃ a t, f x = some a ∧ l.mapM f = some t ∧ r = a :: t := by
 rw [List.mapM_cons] at h
 obtain ⟨a, h1, h2⟩ := some_bind h
 obtain ⟨t, h3, h4⟩ := some_bind h2
 exact ⟨a, t, h1, h3, (Option.some.inj h4).symm⟩
theorem cells?_len {w : World} {base : Nat} {a : Addr} {n : Nat} {cs : List Value} (h : w.cells? base a n = some cs) : cs.length = n ∧ ∀ (i : Nat) (x : Value), cs[i]? = some x → w.cell? (a.add i) = some x := by
 unfold World.cells? at h
 split at h
 ·have key : ∀ (l : List Nat) (cs : List Value), l.mapM (fun i => w.cell? (a.add i)) = some cs → cs.length = l.length ∧ ∀ (i : Nat) (x : Value), cs[i]? = some x → ∃ k : Nat, l[i]? = some k ∧ w.cell? (a.add k) = some x := by
   intro l
   induction l with
   | nil => intro cs h; simp at h; subst h; simp
   | cons k l ih =>
    intro cs h
    obtain ⟨v, t, h1, h2, rfl⟩ := mapM_cons_some h
    obtain ⟨h3, h4⟩ := ih t h2
    refine ⟨by simp [h3], fun i x hi => ?_⟩
    cases i with
    | zero => simp at hi; subst hi; exact ⟨k, rfl, h1⟩
    | succ i => simp at hi ⊢; exact h4 i x hi
  obtain ⟨h1, h2⟩ := key _ _ h
  refine ⟨by simpa using h1, fun i x hi => ?_⟩
  obtain ⟨k, h3, h4⟩ := h2 i x hi
  have hlt : i < n := by
   have := (List.getElem?_eq_some_iff.1 h3).1
   simpa using this
  rw [List.getElem?_range hlt] at h3
  cases h3
  exact h4
 ·cases h
variable {Hd : Type} {enc : TypeId × Value → Hd} {base : Nat} {spare : Nat → Bool} {held : Bool} {T : TypeId → Prop}
def Opened (P : Program) (S : Base) (w : World) (m : RMap) (H : AHeap) (cs : List Value) (Q : AHeap → List AVal → Prop) : Prop :=
 ∃ H' m' acs, Ext H H' ∧ Le m m' ∧ HRel S m' H' w ∧ RO H' ∧ embL m' acs = some cs ∧ Q H' acs
theorem open_pieces {n f : Nat} (hgh : ∀ r, ¬ S.ghost r)
  (ih : ∀ (t : TypeId) (cs : List Value) (x : DataW Hd × List MemPlace) (m : RMap) (H : AHeap), T t → plainT P n t = true → DataW.trod enc P w base spare held f t cs = some x → HRel S m H w → RO H → Opened P S w m H cs fun H' acs => Shape P H' n t acs) :
  ∀ (ts : List TypeId) (pieces : List (List Value)) (m : RMap) (H : AHeap), ts.length = pieces.length → (∀ t ∈ ts, T t ∧ plainT P n t = true) → (∀ (i : Nat) (t : TypeId) (cs : List Value), ts[i]? = some t → pieces[i]? = some cs → ∃ x, DataW.trod enc P w base spare held f t cs = some x) → HRel S m H w → RO H →
  Opened P S w m H pieces.flatten fun H' acs => shapes (Shape P H' n) ts acs := by
 intro ts
 induction ts with
 | nil =>
  intro pieces m H hl _ _ h hro
  have : pieces = [] := List.eq_nil_of_length_eq_zero (by simpa using hl.symm)
  subst this
  exact ⟨H, m, [], Ext.refl H, Le.refl m, h, hro, by simp [embL], rfl⟩
 | cons t ts iht =>
  intro pieces m H hl hT hx h hro
  cases pieces with
  | nil => simp at hl
  | cons cs pieces =>
   obtain ⟨x, hx0⟩ := hx 0 t cs rfl rfl
   obtain ⟨ht, hp⟩ := hT t (by simp)
   obtain ⟨H1, m1, a, e1, l1, r1, o1, b1, s1⟩ := ih t cs x m H ht hp hx0 h hro
   obtain ⟨H2, m2, b, e2, l2, r2, o2, b2, s2⟩ := iht pieces m1 H1 (by simpa using hl) (fun t h => hT t (by simp [h])) (fun i t cs h1 h2 => hx (i + 1) t cs (by simpa using h1) (by simpa using h2)) r1 o1
   exact ⟨H2, m2, a ++ b, e1.trans e2, Le.trans l1 l2, r2, o2, by rw [List.flatten_cons]; exact embL_append (embL_mono l2 _ _ b1) b2, a, b, rfl, s1.ext e2, s2⟩
theorem flatten_cut : ∀ (ss : List Nat) (cs : List Value), cs.length = ss.sum → ((List.range ss.length).map fun i => (cs.drop (ss.take i).sum).take (ss.getD i 0)).flatten = cs := by
 intro ss
 induction ss with
 | nil => intro cs h; simp at h; simp [h]
 | cons s ss ih =>
  intro cs h
  simp only [List.sum_cons] at h
  rw [List.length_cons, List.range_succ_eq_map, List.map_cons, List.flatten_cons, List.map_map]
  have : ((List.range ss.length).map ((fun i => (cs.drop ((s :: ss).take i).sum).take ((s :: ss).getD i 0)) ∘ Nat.succ)) = (List.range ss.length).map fun i => ((cs.drop s).drop (ss.take i).sum).take (ss.getD i 0) := by
   apply List.map_congr_left
   intro i _
   simp [List.drop_drop]
  rw [this, ih (cs.drop s) (by simp; omega)]
  simp
theorem open_trod (hgh : ∀ r, ¬ S.ghost r) (K : Kids P T) (hz : ∀ t e, T t → P.underlying t = some (.slice e) → 0 < P.cellsOf e) : ∀ (n f : Nat) (t : TypeId) (cs : List Value) (x : DataW Hd × List MemPlace) (m : RMap) (H : AHeap), T t → plainT P n t = true →
  DataW.trod enc P w base spare held f t cs = some x → HRel S m H w → RO H → Opened P S w m H cs fun H' acs => Shape P H' n t acs := by
 intro n
 induction n with
 | zero => intro f t cs x m H _ hp; simp [plainT] at hp
 | succ n ih =>
  intro f t cs x m H hT hp hx h hro
  unfold plainT at hp
  split at hp <;> rename_i hu
  ·obtain ⟨b, rfl, _⟩ := DataW.trod_bool hu hx
   exact ⟨H, m, [.bool b], Ext.refl H, Le.refl m, h, hro, by simp [embL, emb], by simp [Shape, hu]⟩
  ·obtain ⟨s, rfl, _, hs⟩ := DataW.trod_string hu hx
   exact ⟨H, m, [.str s], Ext.refl H, Le.refl m, h, hro, by simp [embL, emb], by simp [Shape, hu]; exact hs⟩
  ·rename_i k
   obtain ⟨i, rfl, _, hw⟩ := DataW.trod_int hu hx
   exact ⟨H, m, [.int k i], Ext.refl H, Le.refl m, h, hro, by simp [embL, emb], by simp [Shape, hu, hw]⟩
  ·-- slice
   rename_i e
   have he := K.slice hT hu
   have hz0 := hz t e hT hu
   rcases DataW.trod_slice hu hx with ⟨rfl, _⟩ | ⟨a, len, cap, elems, rest, n', hn', rfl, _, hb, hcond1, hcond2, hlen0, hel, _, _⟩
   ·exact ⟨H, m, [.nslice], Ext.refl H, Le.refl m, h, hro, by simp [embL, emb], by simp only [Shape, hu]; exact ⟨.nslice, 0, [], rfl, ⟨Or.inl ⟨rfl, rfl, rfl⟩⟩, by simp, rfl⟩⟩
   ·subst hn'
    have key : ∀ (k : Nat), k ≤ len → ∃ pieces : List (List Value), pieces.length = k ∧ ∀ i, i < k → ∃ cs x, pieces[i]? = some cs ∧ w.cells? base (a.add (i * P.cellsOf e)) (P.cellsOf e) = some cs ∧ DataW.trod enc P w base spare held n' e cs = some x := by
     intro k
     induction k with
     | zero => intro _; exact ⟨[], rfl, fun i h => by omega⟩
     | succ k ihk =>
      intro hk
      obtain ⟨pieces, h7, h8⟩ := ihk (by omega)
      have h9 := hel k (by omega)
      rw [List.getElem?_eq_getElem (by omega)] at h9
      obtain ⟨cs, h10, h11⟩ := some_bind h9
      refine ⟨pieces ++ [cs], by simp [h7], fun i hi => ?_⟩
      by_cases hik : i < k
      ·obtain ⟨c, x, q1, q2, q3⟩ := h8 i hik
       exact ⟨c, x, by rw [List.getElem?_append_left (by omega)]; exact q1, q2, q3⟩
      ·obtain rfl : i = k := by omega
       exact ⟨cs, _, by rw [List.getElem?_append_right (by omega)]; simp [h7], h10, h11⟩
    obtain ⟨pieces, hpl, hpi'⟩ := key len (Nat.le_refl _)
    skip
    obtain ⟨H1, m1, acs, e1, l1, r1, o1, b1, s1⟩ := open_pieces (P := P) (T := T) (n := n) (f := n') (enc := enc) (base := base) (spare := spare) (held := held) hgh (ih n') (List.replicate len e) pieces m H (by simp [hpl]) (fun t ht => by rw [(List.mem_replicate.1 ht).2]; exact ⟨he, hp⟩)
     (fun i t cs h3 h4 => by
      have hi : i < len := by have := (List.getElem?_eq_some_iff.1 h3).1; simpa using this
      obtain ⟨c, x, q1, q2, q3⟩ := hpi' i hi
      rw [List.getElem?_replicate, if_pos hi] at h3
      cases h3
      rw [q1] at h4; cases h4
      exact ⟨x, q3⟩) h hro
    have hall : ∀ c ∈ pieces, c.length = P.cellsOf e := fun c hc => by
     obtain ⟨i, hi⟩ := List.getElem?_of_mem hc
     have hlt : i < len := by have := (List.getElem?_eq_some_iff.1 hi).1; omega
     obtain ⟨c', x, q1, q2, q3⟩ := hpi' i hlt
     rw [hi] at q1; cases q1
     exact (cells?_len q2).1
    have hcells : ∀ (i : Nat) (x : Value), pieces.flatten[i]? = some x → w.cell? (a.add i) = some x := by
     have gen : ∀ (ps : List (List Value)) (o : Nat), (∀ c ∈ ps, c.length = P.cellsOf e) → (∀ i c, ps[i]? = some c → ∀ k x, c[k]? = some x → w.cell? (a.add ((o + i) * P.cellsOf e + k)) = some x) → ∀ (i : Nat) (x : Value), ps.flatten[i]? = some x → w.cell? (a.add (o * P.cellsOf e + i)) = some x := by
      intro ps
      induction ps with
      | nil => intro o _ _ i x h; simp at h
      | cons c ps ihp =>
       intro o hl hc i x hi
       rw [List.flatten_cons] at hi
       have hcl := hl c (by simp)
       by_cases hic : i < c.length
       ·rw [List.getElem?_append_left hic] at hi
        simpa using hc 0 c rfl i x hi
       ·rw [List.getElem?_append_right (by omega)] at hi
        have := ihp (o + 1) (fun c h => hl c (by simp [h])) (fun j c hj k x hk => by
         have := hc (j + 1) c (by simpa using hj) k x hk
         rwa [show o + (j + 1) = o + 1 + j by omega] at this) (i - c.length) x hi
        have e3 : (o + 1) * P.cellsOf e + (i - c.length) = o * P.cellsOf e + i := by rw [Nat.add_mul]; omega
        rwa [e3] at this
     intro i x hi
     have := gen pieces 0 hall (fun j c hj k x hk => by
      have hlt : j < len := by have := (List.getElem?_eq_some_iff.1 hj).1; omega
      obtain ⟨c', y, q1, q2, q3⟩ := hpi' j hlt
      rw [hj] at q1; cases q1
      have := (cells?_len q2).2 k x hk
      rw [add_add] at this
      simpa using this) i x hi
     simpa using this
    have hflen : acs.length = len * P.cellsOf e := by
     have h3 := embL_length b1
     rw [← h3]
     have : ∀ (ps : List (List Value)), (∀ c ∈ ps, c.length = P.cellsOf e) → ps.flatten.length = ps.length * P.cellsOf e := by
      intro ps
      induction ps with
      | nil => intro _; simp
      | cons c ps ihp => intro hl; rw [List.flatten_cons, List.length_append, hl c (by simp), ihp (fun c h => hl c (by simp [h])), List.length_cons, Nat.add_mul]; omega
     rw [this pieces hall, hpl]
    obtain ⟨g1, g2, g3⟩ := r1.addRow o1 hgh (cs := acs) (a := a) (fun i v hi => by
     obtain ⟨x, q1, q2⟩ := embL_get b1 hi
     exact ⟨x, q1, hcells i x q2⟩)
    refine ⟨H1.push (.row acs false 0), _, [.slice H1.n 0 len (some cap) (P.cellsOf e)], e1.push _, Le.trans l1 g1, g2, g3, ?_, ?_⟩
    ·simp [embL, emb, add_eq, capR, Addr.add]
    ·simp only [Shape, hu]
     refine ⟨_, len, acs, rfl, ⟨Or.inr ⟨H1.n, 0, some cap, acs, false, 0, rfl, Nat.lt_succ_self _, push_get_eq, by omega, ?_, by simp only [capD]; omega⟩⟩, by omega, shapes_ext ((Ext.refl H1).push _) s1⟩
     rw [List.drop_zero, List.take_of_length_le (by omega)]
  ·-- struct
   rename_i fs
   obtain ⟨hk1, hk2, hk3⟩ := K.struct hT hu
   obtain ⟨xs, n', hn', _, hlen, hxl, hxs⟩ := DataW.trod_struct hu hx
   subst hn'
   have key : ∀ (i : Nat) (f : Field), fs.toList[i]? = some f → ∃ x, DataW.trod enc P w base spare held n' f.type ((cs.drop f.offset).take (P.cellsOf f.type)) = some x := fun i f hf => by
    have hlt : i < fs.size := by have := (List.getElem?_eq_some_iff.1 hf).1; simpa using this
    have := hxs i f (by simpa using hf)
    rw [List.getElem?_eq_getElem (by omega)] at this
    exact ⟨_, this⟩
   have hsz : (fs.toList.map fun f => P.cellsOf f.type).length = fs.toList.length := by simp
   have hcut := flatten_cut (fs.toList.map fun f => P.cellsOf f.type) cs (by rw [hlen, hk2])
   obtain ⟨H1, m1, acs, e1, l1, r1, o1, b1, s1⟩ := open_pieces (P := P) (T := T) (n := n) (f := n') (enc := enc) (base := base) (spare := spare) (held := held) hgh (ih n') (fs.toList.map fun f => f.type) _ m H (by simp [hsz] : _ = ((List.range (fs.toList.map fun f => P.cellsOf f.type).length).map fun i => (cs.drop ((fs.toList.map fun f => P.cellsOf f.type).take i).sum).take ((fs.toList.map fun f => P.cellsOf f.type).getD i 0)).length)
    (fun t ht => by
     obtain ⟨f, hf, rfl⟩ := List.mem_map.1 ht
     exact ⟨hk1 f hf, List.all_eq_true.1 hp f hf⟩)
    (fun i t c h3 h4 => by
     rw [List.getElem?_map] at h3
     obtain ⟨f, hf, rfl⟩ := some_map h3
     obtain ⟨x, hx1⟩ := key i f hf
     have hi : i < fs.toList.length := (List.getElem?_eq_some_iff.1 hf).1
     rw [List.getElem?_map, List.getElem?_range (by simpa using hi)] at h4
     simp only [Option.map_some, Option.some.injEq] at h4
     have h5 : (fs.toList.map fun f => P.cellsOf f.type).getD i 0 = P.cellsOf f.type := by simp only [List.getD_eq_getElem?_getD, List.getElem?_map, hf, Option.map_some, Option.getD_some]
     have h6 := hk3 i f hf
     rw [List.map_take] at h6
     rw [h5, ← h6] at h4
     subst h4
     exact ⟨x, hx1⟩) h hro
   rw [hcut] at b1
   exact ⟨H1, m1, acs, e1, l1, r1, o1, b1, by simp only [Shape, hu]; exact s1⟩
  ·-- array
   rename_i k e
   obtain ⟨he, hsz⟩ := K.array hT hu
   obtain ⟨xs, n', hn', _, hlen, hxl, hxs⟩ := DataW.trod_array hu hx
   subst hn'
   have key : ∀ (i : Nat), i < k → ∃ x, DataW.trod enc P w base spare held n' e ((cs.drop (i * P.cellsOf e)).take (P.cellsOf e)) = some x := fun i hi => by
    have := hxs i hi
    rw [List.getElem?_eq_getElem (by omega)] at this
    exact ⟨_, this⟩
   have hcut := flatten_cut (List.replicate k (P.cellsOf e)) cs (by rw [hlen, hsz]; simp)
   obtain ⟨H1, m1, acs, e1, l1, r1, o1, b1, s1⟩ := open_pieces (P := P) (T := T) (n := n) (f := n') (enc := enc) (base := base) (spare := spare) (held := held) hgh (ih n') (List.replicate k e) _ m H (by simp : _ = ((List.range (List.replicate k (P.cellsOf e)).length).map fun i => (cs.drop ((List.replicate k (P.cellsOf e)).take i).sum).take ((List.replicate k (P.cellsOf e)).getD i 0)).length)
    (fun t ht => by rw [(List.mem_replicate.1 ht).2]; exact ⟨he, hp⟩)
    (fun i t c h3 h4 => by
     have hi : i < k := by have := (List.getElem?_eq_some_iff.1 h3).1; simpa using this
     rw [List.getElem?_replicate, if_pos hi] at h3
     cases h3
     obtain ⟨x, hx1⟩ := key i hi
     rw [List.getElem?_map, List.getElem?_range (by simpa using hi)] at h4
     simp only [Option.map_some, Option.some.injEq] at h4
     have h5 : (List.replicate k (P.cellsOf e)).getD i 0 = P.cellsOf e := by simp [List.getD_eq_getElem?_getD, List.getElem?_replicate, hi]
     have h6 : ((List.replicate k (P.cellsOf e)).take i).sum = i * P.cellsOf e := by simp [List.take_replicate, Nat.min_eq_left (Nat.le_of_lt hi)]
     rw [h5, h6] at h4
     subst h4
     exact ⟨x, hx1⟩) h hro
   rw [hcut] at b1
   exact ⟨H1, m1, acs, e1, l1, r1, o1, b1, by simp only [Shape, hu]; exact s1⟩
  ·cases hp
end
class PureCon (ext : Exts) (prog : FuncId → Option RFunc) (f : FuncId) (args : List AVal) (H : AHeap) (d : outParam Nat) (v : outParam AVal) : Prop where
 con : Con ext prog d f args H fun u H' => u = v ∧ Ext H H'
theorem call_ext {ext : Exts} {prog : FuncId → Option RFunc} {k f nt e : Nat} {args : List AVal} {res : List RRes} (h : prog f = some ⟨nt, .ext e, res⟩) : callN ext prog (k + 1) f args = ext e args := by
 simp only [callN, h, RFunc.run]
section
variable {ext : Exts} {prog : FuncId → Option RFunc} {fr : AFrame} {H : AHeap} {K : AVal → AHeap → Prop} {KF : AFrame → AHeap → Prop}
theorem WpX.pcall {n d D : Nat} {f : FuncId} {o : ROpd} {l : List ROpd} {args : List AVal} {v : AVal} (hn : fuel0 + D ≤ n) (hf : o.ev fr = .func (.func f) [] []) (hl : l.map (·.ev fr) = args) [hc : PureCon ext prog f args H d v] (hd : Nat.ble d D = true)
  (h : ∀ H1, ExtI H H1 → K v H1) : WpX (.call o l) (callN ext prog n) fr H K :=
 WpX.con hc.con (Nat.le_trans (Nat.add_le_add_left (Nat.le_of_ble_eq_true hd) _) hn) hf hl fun u H1 ⟨hu, hx⟩ => by subst hu; exact h H1 ⟨hx⟩
theorem WpX.conD {n d D : Nat} {f : FuncId} {o : ROpd} {l : List ROpd} {args : List AVal} {Q : AVal → AHeap → Prop} (hn : fuel0 + D ≤ n) (hd : Nat.ble d D = true) (hf : o.ev fr = .func (.func f) [] []) (hl : l.map (·.ev fr) = args) (hc : Con ext prog d f args H Q)
  (h : ∀ v H', Q v H' → K v H') : WpX (.call o l) (callN ext prog n) fr H K :=
 WpX.con hc (Nat.le_trans (Nat.add_le_add_left (Nat.le_of_ble_eq_true hd) _) hn) hf hl h
end
section
variable {call : ACall} {fr : AFrame} {H : AHeap} {K : AVal → AHeap → Prop} {KF : AFrame → AHeap → Prop}
theorem WpX.ldB {a : ROpd} {p : AVal} {j : Nat} {l : List UInt8} (ha : a.ev fr = .ptr (rowOf p) (offOf p + j)) [s : BytesI H p l] (hj : j < l.length) (h : K (.int .u8 (l[j].toNat : Int)) H) : WpX (.load none a) call fr H K := WpX.ldP ha (get_bytes hj) h
theorem WpX.ldI {a : ROpd} {p : AVal} {j : Nat} {l : List Int} (ha : a.ev fr = .ptr (rowOf p) (offOf p + j)) [s : IntsI H p l] (hj : j < l.length) (h : K (.int .i64 l[j]) H) : WpX (.load none a) call fr H K := WpX.ldP ha (get_ints hj) h
theorem WpX.stB {a x : ROpd} {p : AVal} {j : Nat} {l : List UInt8} {k : Int} (b : UInt8) (ha : a.ev fr = .ptr (rowOf p) (offOf p + j)) (hx : x.ev fr = .int .u8 k) (hk : k = (b.toNat : Int)) [s : BytesI H p l] [w : WrS H p] (hj : j < l.length)
  (h : ∀ H1, BytesI H1 p (l.set j b) → WrS H1 p → ExtP H H1 p → K aundef H1) : WpX (.store 1 a x) call fr H K := by
 subst hk
 refine WpX.stP ha hx rfl rfl (by rw [cellsB_length]; exact hj) fun H1 h1 h2 h3 => h H1 ?_ h2 h3
 rw [set_bytes] at h1
 unfold BytesI
 rw [List.length_set]
 exact h1
theorem WpX.stI {a x : ROpd} {p : AVal} {j : Nat} {l : List Int} {b : Int} (ha : a.ev fr = .ptr (rowOf p) (offOf p + j)) (hx : x.ev fr = .int .i64 b) [s : IntsI H p l] [w : WrS H p] (hj : j < l.length)
  (h : ∀ H1, IntsI H1 p (l.set j b) → WrS H1 p → ExtP H H1 p → K aundef H1) : WpX (.store 1 a x) call fr H K := by
 refine WpX.stP ha hx rfl rfl (by rw [cellsI_length]; exact hj) fun H1 h1 h2 h3 => h H1 ?_ h2 h3
 rw [set_ints] at h1
 unfold IntsI
 rw [List.length_set]
 exact h1
class OneV (v : AVal) : Prop where
 cells : v.cells = [v]
 one : v.one = true
instance {k : IntKind} {n : Int} : OneV (.int k n) := ⟨rfl, rfl⟩
instance {b : Bool} : OneV (.bool b) := ⟨rfl, rfl⟩
instance {b : ByteArray} : OneV (.str b) := ⟨rfl, rfl⟩
instance : OneV .nptr := ⟨rfl, rfl⟩
instance {r off : Nat} : OneV (.ptr r off) := ⟨rfl, rfl⟩
instance : OneV .nslice := ⟨rfl, rfl⟩
instance {r off len : Nat} {cap : Option Nat} {sz : Nat} : OneV (.slice r off len cap sz) := ⟨rfl, rfl⟩
instance {f : Fn} {a b : List AVal} : OneV (.func f a b) := ⟨rfl, rfl⟩
instance : OneV .nfunc := ⟨rfl, rfl⟩
instance : OneV .niface := ⟨rfl, rfl⟩
theorem SliceAt.one {H : AHeap} {p : AVal} {sz n : Nat} {cs : List AVal} (h : SliceAt H p sz n cs) : OneV p := by
 rcases h.it with ⟨rfl, _⟩ | ⟨r, off, cap, row, rw, e, rfl, _⟩ <;> infer_instance
theorem aFill1 {cells : List AVal} {off : Nat} {x : ROpd} {v : AVal} {rest : List (Nat × Nat × ROpd)} {r : Option (List AVal)} (hx : x.ev fr = v) [o : OneV v] (ho : Nat.ble (off + 1) cells.length = true) (h : aFill fr (cells.set off v) rest = r) : aFill fr cells ((off, 1, x) :: rest) = r := by
 have h1 : ¬ (off + 1 > cells.length) := by have := Nat.le_of_ble_eq_true ho; omega
 simp only [aFill, hx, o.cells, List.length_singleton, ne_eq, not_true, false_or, if_neg h1, setAt_one]
 exact h
theorem allOne_cons {v : AVal} {l : List AVal} [o : OneV v] (h : l.all AVal.one = true) : (v :: l).all AVal.one = true := by simp only [List.all_cons, o.one, h, Bool.and_self]
theorem getAllT {t : Nat} {rs : List RRes} {v : AVal} {vs : List AVal} (hv : fr t = v) (h : getAll fr rs H = some (vs, H)) : getAll fr (.tmp t :: rs) H = some (v :: vs, H) := by
 subst hv
 simp only [getAll, RRes.get, M.bind, M.pure, h]
theorem getAllC {t m r off : Nat} {cs l : List AVal} {rw : Bool} {e : TypeId} {rs : List RRes} {vs : List AVal} (ha : fr t = .ptr r off) [hg : HasRow H r cs rw e] (hv : Nat.ble (off + m) cs.length = true) (hl : (cs.drop off).take m = l) (h : getAll fr rs H = some (vs, H)) : getAll fr (.cell t (some m) :: rs) H = some (.agg l :: vs, H) := by
 subst hl
 simp only [getAll, RRes.get, ha, aLoad, M.bind, aRow, if_pos hg.lt, hg.get, if_pos (Nat.le_of_ble_eq_true hv), M.pure, h]
theorem getAllC1 {t r off : Nat} {cs : List AVal} {v : AVal} {rw : Bool} {e : TypeId} {rs : List RRes} {vs : List AVal} (ha : fr t = .ptr r off) [hg : HasRow H r cs rw e] (hv : cs[off]? = some v) (h : getAll fr rs H = some (vs, H)) : getAll fr (.cell t none :: rs) H = some (v :: vs, H) := by
 simp only [getAll, RRes.get, ha, aLoad, M.bind, aRow, if_pos hg.lt, hg.get, hv, M.pure, h]
end
end Go.Am
namespace Go.Am
open Go Go.RowKit Go.ChangeShapes Go.WideShapes
def aggTy (P : Program) (t : TypeId) : Bool := match P.underlying t with
 | some (.struct _) => true
 | some (.array _ _) => true
 | _ => false
def argV (P : Program) (t : TypeId) (acs : List AVal) : AVal := bif aggTy P t then .agg acs else acs.headD .nptr
def ArgS (P : Program) (H : AHeap) (n : Nat) : List TypeId → List AVal → Prop
 | [], avs => avs = []
 | t :: ts, avs => ∃ acs rest, avs = argV P t acs :: rest ∧ Shape P H n t acs ∧ ArgS P H n ts rest
theorem ArgS.ext {P : Program} {H H' : AHeap} (x : Ext H H') {n : Nat} : ∀ {ts : List TypeId} {avs : List AVal}, ArgS P H n ts avs → ArgS P H' n ts avs := by
 intro ts
 induction ts with
 | nil => intro avs h; exact h
 | cons t ts ih =>
  intro avs h
  obtain ⟨acs, rest, e, h1, h2⟩ := h
  exact ⟨acs, rest, e, h1.ext x, ih h2⟩
section
variable {P : Program} {S : Base} {m : RMap} {H : AHeap} {w : World} {Hd : Type} {enc : TypeId × Value → Hd} {T : TypeId → Prop}
theorem open_arg (hgh : ∀ r, ¬ S.ghost r) (K : Kids P T) (hz : ∀ t e, T t → P.underlying t = some (.slice e) → 0 < P.cellsOf e) {n : Nat} {t : TypeId} {v : Value} {d : DataW Hd} {ps : List MemPlace} (hT : T t) (hp : plainT P n t = true)
  (hok : Value.okWide P w .any 0 t v ∨ ∃ b, Value.okWide P w .any b t v) (hd : DataW.Trod enc P w 0 (fun _ => true) true t v d ps) (h : HRel S m H w) (hro : RO H) :
  ∃ H' m' acs, Ext H H' ∧ Le m m' ∧ HRel S m' H' w ∧ RO H' ∧ emb m' (argV P t acs) = some v ∧ Shape P H' n t acs := by
 obtain ⟨b, hok⟩ : ∃ b, Value.okWide P w .any b t v := by rcases hok with h | h; exact ⟨0, h⟩; exact h
 obtain ⟨f, hf⟩ := hd
 obtain ⟨H', m', acs, h1, h2, h3, h4, h5, h6⟩ := open_trod hgh K hz n f t _ _ m H hT hp hf h hro
 refine ⟨H', m', acs, h1, h2, h3, h4, ?_, h6⟩
 have one : v.cells = #[v] → aggTy P t = false → emb m' (argV P t acs) = some v := by
  intro hc ha
  rw [hc] at h5
  have hl := embL_length h5
  match acs, hl with
  | [a], _ =>
   obtain ⟨x, xs, q1, q2, q3⟩ := embL_cons h5
   simp at q3
   simp only [argV, ha, cond_false, List.headD_cons]
   rw [q1, q3.1]
 cases n with
 | zero => simp [plainT] at hp
 | succ n =>
  unfold plainT at hp
  split at hp <;> rename_i hu
  ·obtain ⟨b, rfl⟩ := okWide_bool hu hok
   exact one rfl (by simp [aggTy, hu])
  ·obtain ⟨b, rfl⟩ := okWide_string hu hok
   exact one rfl (by simp [aggTy, hu])
  ·obtain ⟨b, rfl⟩ := okWide_int hu hok
   exact one rfl (by simp [aggTy, hu])
  ·obtain ⟨a, len, cap, rfl⟩ := okWide_slice hu hok
   exact one rfl (by simp [aggTy, hu])
  ·obtain ⟨cs, rfl, _⟩ := okWide_struct hu hok
   have ha : aggTy P t = true := by simp [aggTy, hu]
   simp only [argV, ha, cond_true, emb]
   simp only [Value.cells] at h5
   rw [h5]
  ·have hcs : ∃ cs, v = .agg cs := by
    simp only [Value.okWide, hu] at hok
    obtain ⟨cs, e, _⟩ := hok
    exact ⟨cs, e⟩
   obtain ⟨cs, rfl⟩ := hcs
   have ha : aggTy P t = true := by simp [aggTy, hu]
   simp only [argV, ha, cond_true, emb]
   simp only [Value.cells] at h5
   rw [h5]
  ·cases hp
theorem open_args (hgh : ∀ r, ¬ S.ghost r) (K : Kids P T) (hz : ∀ t e, T t → P.underlying t = some (.slice e) → 0 < P.cellsOf e) {n b : Nat} : ∀ (ts : List TypeId) (vs : List Value) (ds : List (DataW Hd)) (ps : List MemPlace) (m : RMap) (H : AHeap), (∀ t ∈ ts, T t ∧ plainT P n t = true) →
  (∀ (j : Nat) t v, ts[j]? = some t → vs[j]? = some v → Value.okWide P w .any b t v) → DataW.TrodAll enc P w 0 (fun _ => true) true ts vs ds ps → HRel S m H w → RO H →
  ∃ H' m' avs, Ext H H' ∧ Le m m' ∧ HRel S m' H' w ∧ RO H' ∧ embL m' avs = some vs ∧ ArgS P H' n ts avs := by
 intro ts
 induction ts with
 | nil =>
  intro vs ds ps m H _ _ hd h hro
  obtain ⟨rfl, _, _⟩ := trodAll_nil hd
  exact ⟨H, m, [], Ext.refl H, Le.refl m, h, hro, by simp [embL], rfl⟩
 | cons t ts ih =>
  intro vs ds ps m H hT hok hd h hro
  obtain ⟨v, vs', d, ds', p, q, rfl, rfl, rfl, h1, h2⟩ := trodAll_cons hd
  obtain ⟨hTt, hpt⟩ := hT t (by simp)
  obtain ⟨H1, m1, acs, e1, l1, r1, o1, b1, s1⟩ := open_arg hgh K hz hTt hpt (Or.inr ⟨b, hok 0 t v rfl rfl⟩) h1 h hro
  obtain ⟨H2, m2, avs, e2, l2, r2, o2, b2, s2⟩ := ih vs' ds' q m1 H1 (fun t h => hT t (by simp [h])) (fun j t v q1 q2 => hok (j + 1) t v (by simpa using q1) (by simpa using q2)) h2 r1 o1
  exact ⟨H2, m2, argV P t acs :: avs, e1.trans e2, Le.trans l1 l2, r2, o2, embL_mk (emb_mono l2 _ _ b1) b2, acs, avs, rfl, s1.ext e2, s2⟩
theorem args_stay (K : Kids P T) (hz : ∀ t e, T t → P.underlying t = some (.slice e) → 0 < P.cellsOf e) {w' : World} (hb : Below w.heap.size w w') {sp : Nat → Bool} : ∀ {ts : List TypeId} {vs : List Value} {ds : List (DataW Hd)} {ps : List MemPlace}, (∀ t ∈ ts, T t) →
  DataW.TrodAll enc P w 0 (fun _ => true) true ts vs ds ps → (∀ p ∈ ps, p.block < w.heap.size) → (∀ p ∈ ps, sp p.block = true) → DataW.TrodAll enc P w' 0 sp true ts vs ds ps
 | [], [], [], _, _, h, _, _ => h
 | _ :: _, _ :: _, _ :: _, _, hT, ⟨p, q, h1, h2, e⟩, hlt, hs => by
  obtain ⟨f, hf⟩ := h1
  refine ⟨p, q, ⟨f, ?_⟩, args_stay K hz hb (fun t ht => hT t (List.mem_cons.2 (Or.inr ht))) h2 (fun x hx => hlt x (by rw [e]; exact List.mem_append_right _ hx)) fun x hx => hs x (by rw [e]; exact List.mem_append_right _ hx), e⟩
  exact DataW.trod_stays K (fun {t e} => hz t e) (by intro h; cases h) (hT _ (List.mem_cons.2 (Or.inl rfl))) hf (fun x hx => hb.same (hlt x (by rw [e]; exact List.mem_append_left _ hx))) fun x hx => hs x (by rw [e]; exact List.mem_append_left _ hx)
theorem post_true {fn : Func} {s : ChangeSpec} {apart fresh handsOn again : Bool} {w' : World} {args : Array Value} {ds gs : List (DataW Hd)} {before : List MemPlace} {tb : TypeId} (K : Kids P T) (hz : ∀ t e, T t → P.underlying t = some (.slice e) → 0 < P.cellsOf e) (hT : ∀ t ∈ fn.params.toList, T t)
  (hvars : s.vars = []) (hfn : s.fn Hd ds = { results := [.lit (.bool true)], args := ds }) (hrt : fn.resultTypes = #[tb]) (htb : P.underlying tb = some .bool)
  (hW : DataW.Whole enc P fn.params.toList s.vars apart w args.toList ds gs before) (hb : Below w.heap.size w w') : s.post enc P fn apart fresh handsOn again w args (.bool true) w' := by
 have hlt := hW.lt
 have hW' := hW
 obtain ⟨p, q, hA, hV, rfl, hfz, hnd⟩ := hW
 rw [hvars] at hV
 obtain ⟨rfl, rfl⟩ := trodVars_none hV
 rw [List.append_nil] at *
 have hv0 : ∀ sp : Nat → Bool, DataW.TrodVars enc P w' sp s.vars ([] : List (DataW Hd)) [] := fun sp => by rw [hvars]; rfl
 have hres : ∀ (b : Nat) (sp : Nat → Bool) (hd : Bool), DataW.TrodAll enc P w' b sp hd fn.resultTypes.toList ((Value.bool true).resultList fn.resultTypes.size) [.lit (.bool true)] [] := fun b sp hd => by
  rw [hrt]
  exact trodAll_cons_mk (shut_bool htb true) trodAll_mk0
 have hargs : ∀ sp : Nat → Bool, (∀ x ∈ p, sp x.block = true) → DataW.TrodAll enc P w' 0 sp true fn.params.toList args.toList ds p := fun sp hs => args_stay K hz hb hT hA hlt hs
 refine ⟨ds, [], p, [], p, [], hW', ?_, ?_, ?_, ?_, fun _ => ⟨?_, [.lit (.bool true)] ++ ds, [], p, ⟨p, [], ?_, hv0 _, by simp, ?_, hnd⟩, fun x hx _ => hx⟩⟩
 ·rw [List.append_nil, hfn]; exact hres _ _ _
 ·rw [List.append_nil, hfn]; exact hargs _ fun x hx => by simpa using hlt x hx
 ·rw [List.append_nil, hfn]; exact hv0 _
 ·exact hb.frame _
 ·intro j t r hj hr
  rw [hrt] at hj hr
  cases j with
  | zero =>
   simp at hj
   subst hj
   simp [Value.resultList] at hr
   subst hr
   exact okWide_bool_mk htb _
  | succ j => simp at hj
 ·simpa using trodAll_append (hargs (fun _ => true) fun _ _ => rfl) (hres 0 (fun _ => true) true)
 ·intro b off hp
  have h1 := hlt _ hp
  rw [hb.frozen (p := ⟨b, off, none⟩) h1]
  exact hfz b off hp
end
theorem law_calls {P : Program} {ext : Exts} {prog : FuncId → Option RFunc} {f : FuncId} {fn : Func} {c : Code} {s : ChangeSpec} {apart fresh handsOn again : Bool} {tb : TypeId} {tabs : List (Nat × List AVal)} {n d : Nat}
  (hmix : P.follows .mixedOrders = true) (hP : ProgOk P ext prog) (hfn : P.funcs[f]? = some fn) (hb : fn.body = some c) (hname : fn.name ≠ "runtime.NumGoroutine")
  (hl : laidOutB P = true) (hm : mapsRowed P = true) (hz : ∀ t e, t < P.types.size → P.underlying t = some (.slice e) → 0 < P.cellsOf e) (hplain : (fn.params.toList.all fun t => decide (t < P.types.size) && plainT P n t) = true)
  (hvars : s.vars = []) (hrt : fn.resultTypes = #[tb]) (htb : P.underlying tb = some .bool) (htabs0 : tablesIn tabs (tableHeap P.globals.size tabs) = true) (htabs : (tabs.all fun t => Nat.blt t.1 P.globals.size && t.2.all plainV) = true)
  (hcon : ∀ (H : AHeap) (avs : List AVal), tablesIn tabs H = true → ArgS P H n fn.params.toList avs → Con ext prog d f avs H fun v H' => v = .bool true ∧ Ext H H')
  (Hd : Type) (enc : TypeId × Value → Hd) (W : World) (base : Nat) (args : Array Value) (ds gs : List (DataW Hd)) (before : List MemPlace)
  (hspec : s.fn Hd ds = { results := [.lit (.bool true)], args := ds })
  (hval : ∀ (j : Nat) t v, fn.params[j]? = some t → args[j]? = some v → Value.okWide P W .any base t v) (hW : DataW.Whole enc P fn.params.toList s.vars apart W args.toList ds gs before)
  (hcells : ∀ t ∈ tabs, ∀ (i : Nat) (v : AVal), t.2[i]? = some v → ∃ x, emb (fun _ => none) v = some x ∧ W.cell? ⟨t.1, i, none⟩ = some x) :
  Calls P f args W fun e W' => ∃ v, e = .returned v ∧ s.post enc P fn apart fresh handsOn again W args v W' := by
 have K := kids_rows (P := P) hl hm
 have hpl := List.all_eq_true.1 hplain
 have hT : ∀ t ∈ fn.params.toList, t < P.types.size ∧ plainT P n t = true := fun t ht => by
  have := hpl t ht
  simpa using this
 have htab := List.all_eq_true.1 htabs
 -- the tables
 have hrel : HRel ⟨W.heap.size, W, P.globals.size, fun _ => False, cCode P⟩ (globMap P.globals.size (longest tabs)) (tableHeap P.globals.size tabs) W := by
  refine ⟨Below.refl _ _, Nat.le_refl _, fun g hg => ⟨longest tabs, by simp only at hg; simp [globMap, hg]⟩, fun r hr => by simp only [tableHeap] at hr; simp [globMap]; omega, fun r hr => hr.elim, ?_, ?_, ⟨fun r R p _ h _ => absurd h tableObj_loop, fun r s R R' p q L L' _ _ _ h => absurd h tableObj_loop⟩⟩
  ·intro r cs rw e p hr hg hp
   obtain ⟨hmem, rfl⟩ := tableObj_row hg
   have hT1 := htab _ hmem
   simp only [Bool.and_eq_true] at hT1
   have hrG : r < P.globals.size := by simpa using hT1.1
   have hp' : p = (⟨r, 0, none⟩, longest tabs) := by simp only [globMap, hrG, if_true] at hp; exact (Option.some.inj hp).symm
   subst hp'
   refine ⟨fun i v hi => ?_, le_longest hmem, fun q => by cases q⟩
   obtain ⟨x, h1, h2⟩ := hcells _ hmem i v hi
   have hv : plainV v = true := List.all_eq_true.1 hT1.2 v (List.mem_of_getElem? hi)
   refine ⟨x, by rw [plain_emb hv _ (fun _ => none)]; exact h1, ?_⟩
   cases i <;> simpa [Addr.add] using h2
  ·intro r s' cs rw e cs' e' p q hr hs hne hg1 hg2 hp hq
   exact absurd (tableObj_row hg2).2 (by decide)
 have hro : RO (tableHeap P.globals.size tabs) := fun r cs rw e hg => (tableObj_row hg).2
 obtain ⟨p, q, hA, hrest⟩ := hW
 obtain ⟨H', m', avs, e1, l1, r1, o1, b1, s1⟩ := open_args (P := P) (T := (· < P.types.size)) (fun _ h => h) K hz (n := n) (b := base) fn.params.toList args.toList ds p _ _ hT (fun j t v q1 q2 => hval j t v (by simpa using q1) (by simpa using q2)) hA hrel hro
 have htabs' : tablesIn tabs H' = true := by
  refine List.all_eq_true.2 fun t ht => ?_
  have hT1 := htab _ ht
  simp only [Bool.and_eq_true] at hT1 ⊢
  have htG : t.1 < P.globals.size := by simpa using hT1.1
  have hlt : t.1 < (tableHeap P.globals.size tabs).n := htG
  have hn : t.1 < H'.n := Nat.lt_of_lt_of_le hlt e1.n
  have h0 := List.all_eq_true.1 htabs0 t ht
  simp only [Bool.and_eq_true] at h0
  refine ⟨by simpa using hn, ?_⟩
  rw [e1.get _ hlt]
  exact h0.2
 have hc := calls_of_evs hmix hP rfl rfl hfn hb hname r1 (args := avs) (vargs := args) b1 (hcon H' avs htabs' s1).evs
 refine hc.mono fun e W' ⟨x, v, H2, he, ⟨hv, hx2⟩, m2, hl2, hemb, hr2⟩ => ?_
 subst hv
 simp only [emb, Option.some.injEq] at hemb
 subst hemb
 exact ⟨_, he, post_true (T := (· < P.types.size)) K hz (fun t ht => (hT t ht).1) hvars hspec hrt htb ⟨p, q, hA, hrest⟩ hr2.below⟩
def litV : Lit → Value
 | .bool b => .bool b
 | .int k n => .int k n
 | .float k b => .float k b
 | .string s => .string ⟨s.toArray⟩
 | .nil => .nilFunc
def flatD {Hd : Type} : Nat → DataW Hd → List Value
 | 0, _ => []
 | _ + 1, .lit l => [litV l]
 | n + 1, .agg ds => ds.flatMap (flatD n)
 | _ + 1, _ => []
def flatT (P : Program) : Nat → TypeId → Bool
 | 0, _ => false
 | n + 1, t => match P.underlying t with
  | some .bool => true
  | some .string => true
  | some (.int _) => true
  | some (.struct fs) => fs.toList.all fun f => flatT P n f.type
  | some (.array _ e) => flatT P n e
  | _ => false
section
variable {P : Program} {w : World} {Hd : Type} {enc : TypeId × Value → Hd} {base : Nat} {spare : Nat → Bool} {held : Bool} {T : TypeId → Prop}
theorem flat_pieces {n f : Nat} (ih : ∀ (t : TypeId) (cs : List Value) (x : DataW Hd × List MemPlace), T t → flatT P n t = true → DataW.trod enc P w base spare held f t cs = some x → cs = flatD n x.1) :
  ∀ (l : List (TypeId × List Value)) (xs : List (DataW Hd × List MemPlace)), l.length = xs.length → (∀ (i : Nat) (q : TypeId × List Value) (x : DataW Hd × List MemPlace), l[i]? = some q → xs[i]? = some x → T q.1 ∧ flatT P n q.1 = true ∧ DataW.trod enc P w base spare held f q.1 q.2 = some x) → (l.map (·.2)).flatten = (xs.map (·.1)).flatMap (flatD n) := by
 intro l
 induction l with
 | nil => intro xs h _; have : xs = [] := List.eq_nil_of_length_eq_zero (by simpa using h.symm); subst this; rfl
 | cons q l ihl =>
  intro xs h hx
  cases xs with
  | nil => simp at h
  | cons x xs =>
   obtain ⟨h1, h2, h3⟩ := hx 0 q x rfl rfl
   rw [List.map_cons, List.flatten_cons, List.map_cons, List.flatMap_cons, ← ih _ _ _ h1 h2 h3, ihl xs (by simpa using h) fun i q x a b => hx (i + 1) q x (by simpa using a) (by simpa using b)]
theorem flat_trod (K : Kids P T) : ∀ (n f : Nat) (t : TypeId) (cs : List Value) (x : DataW Hd × List MemPlace), T t → flatT P n t = true → DataW.trod enc P w base spare held f t cs = some x → cs = flatD n x.1 := by
 intro n
 induction n with
 | zero => intro f t cs x _ hp; simp [flatT] at hp
 | succ n ih =>
  intro f t cs x hT hp hx
  unfold flatT at hp
  split at hp <;> rename_i hu
  ·obtain ⟨b, rfl, rfl⟩ := DataW.trod_bool hu hx
   rfl
  ·obtain ⟨s, rfl, rfl, hs⟩ := DataW.trod_string hu hx
   rfl
  ·obtain ⟨i, rfl, rfl, hw⟩ := DataW.trod_int hu hx
   rfl
  ·rename_i fs
   obtain ⟨hk1, hk2, hk3⟩ := K.struct hT hu
   obtain ⟨xs, n', hn', rfl, hlen, hxl, hxs⟩ := DataW.trod_struct hu hx
   subst hn'
   have hcut := flatten_cut (fs.toList.map fun f => P.cellsOf f.type) cs (by rw [hlen, hk2])
   simp only [flatD]
   rw [← flat_pieces (T := T) (P := P) (ih n') (fs.toList.map fun f => (f.type, (cs.drop f.offset).take (P.cellsOf f.type))) xs (by simp [hxl]) ?_]
   ·rw [← hcut]
    congr 1
    apply List.ext_getElem?
    intro i
    by_cases hi : i < fs.toList.length
    ·have hf : fs.toList[i]? = some fs.toList[i] := List.getElem?_eq_getElem hi
     have h5 : (fs.toList.map fun f => P.cellsOf f.type).getD i 0 = P.cellsOf fs.toList[i].type := by simp only [List.getD_eq_getElem?_getD, List.getElem?_map, hf, Option.map_some, Option.getD_some]
     have h6 := hk3 i _ hf
     rw [List.map_take] at h6
     rw [hcut, List.getElem?_map, List.getElem?_range (by simpa using hi), List.map_map, List.getElem?_map, hf]
     simp only [Option.map_some, Function.comp]
     rw [h5, ← h6]
    ·rw [List.getElem?_eq_none (by simp at hi ⊢; omega), List.getElem?_eq_none (by simp at hi ⊢; omega)]
   ·intro i q x h1 h2
    rw [List.getElem?_map] at h1
    obtain ⟨g, hg, rfl⟩ := some_map h1
    have := hxs i g (by simpa using hg)
    rw [h2] at this
    exact ⟨hk1 g (List.mem_of_getElem? hg), List.all_eq_true.1 hp g (List.mem_of_getElem? hg), this⟩
  ·rename_i k e
   obtain ⟨he, hsz⟩ := K.array hT hu
   obtain ⟨xs, n', hn', rfl, hlen, hxl, hxs⟩ := DataW.trod_array hu hx
   subst hn'
   have hcut := flatten_cut (List.replicate k (P.cellsOf e)) cs (by rw [hlen, hsz]; simp)
   simp only [flatD]
   rw [← flat_pieces (T := T) (P := P) (ih n') ((List.range k).map fun i => (e, (cs.drop (i * P.cellsOf e)).take (P.cellsOf e))) xs (by simp [hxl]) ?_]
   ·rw [← hcut]
    congr 1
    apply List.ext_getElem?
    intro i
    by_cases hi : i < k
    ·have h5 : (List.replicate k (P.cellsOf e)).getD i 0 = P.cellsOf e := by simp [List.getD_eq_getElem?_getD, List.getElem?_replicate, hi]
     have h6 : ((List.replicate k (P.cellsOf e)).take i).sum = i * P.cellsOf e := by simp [List.take_replicate, Nat.min_eq_left (Nat.le_of_lt hi)]
     rw [hcut, List.getElem?_map, List.getElem?_range (by simpa using hi), List.map_map, List.getElem?_map, List.getElem?_range hi]
     simp only [Option.map_some, Function.comp]
     rw [h5, h6]
    ·rw [List.getElem?_eq_none (by simp at hi ⊢; omega), List.getElem?_eq_none (by simp at hi ⊢; omega)]
   ·intro i q x h1 h2
    have hi : i < k := by have := (List.getElem?_eq_some_iff.1 h2).1; omega
    rw [List.getElem?_map, List.getElem?_range hi] at h1
    simp only [Option.map_some, Option.some.injEq] at h1
    subst h1
    have := hxs i hi
    rw [h2] at this
    exact ⟨he, hp, this⟩
  ·cases hp
theorem laid_mem : ∀ {l : List (String × DataW Unit)} {ps : List MemPlace}, DataW.LaidVars P w l ps → ∀ x ∈ l, ∃ g t cs fuel p, P.globalNamed x.1 = some g ∧ (P.globals[g]?).map (·.type) = some t ∧ w.var? P x.1 = some cs ∧ DataW.trod (fun _ => ()) P w 0 (fun _ => true) false fuel t cs.toList = some (x.2, p)
 | [], _, _, x, hx => by simp at hx
 | (n, d) :: r, ps, ⟨g, t, cs, fuel, p, q, h1, h2, h3, h4, h5, _⟩, x, hx => by
  rcases List.mem_cons.1 hx with rfl | hx
  ·exact ⟨g, t, cs, fuel, p, h1, h2, h3, h4⟩
  ·exact laid_mem h5 x hx
theorem laid_cells (hl : laidOutB P = true) (hm : mapsRowed P = true) {l : List (String × DataW Unit)} (h : laidMet P l w) {name : String} {d : DataW Unit} (hmem : (name, d) ∈ l) {g : Nat} {t : TypeId} {n : Nat} {vs : List Value}
  (hg : P.globalNamed name = some g) (ht : (P.globals[g]?).map (·.type) = some t) (hlt : t < P.types.size) (hf : flatT P n t = true) (hd : flatD n d = vs) {i : Nat} {v : Value} (hi : vs[i]? = some v) : w.cell? ⟨g, i, none⟩ = some v := by
 obtain ⟨ps, h1, _⟩ := h
 obtain ⟨g', t', cs, fuel, p, h2, h3, h4, h5⟩ := laid_mem h1 _ hmem
 simp only at h2 h4 h5
 obtain rfl := Option.some.inj (hg.symm.trans h2)
 obtain rfl := Option.some.inj (ht.symm.trans h3)
 have := flat_trod (T := (· < P.types.size)) (kids_rows hl hm) n fuel t cs.toList _ hlt hf h5
 simp only at this
 rw [hd] at this
 simp only [World.var?, hg, Option.bind_some] at h4
 split at h4
 ·rename_i cs' e' fz hh
  cases h4
  rw [← this] at hi
  have hi' : cs[i]? = some v := by simpa using hi
  simp [World.cell?, hh, hi']
 ·cases h4
end
end Go.Am
namespace Go.Am
open Go Go.RowKit
section
variable {P : Program} {H : AHeap} {n : Nat} {t e : TypeId} {cs : List AVal}
theorem shape_int {k : IntKind} (hu : P.underlying t = some (.int k)) (h : Shape P H (n + 1) t cs) : ∃ i, cs = [.int k i] ∧ (Lit.int k i).wf = true := by simpa only [Shape, hu] using h
theorem u8_of {i : Int} (h : (Lit.int .u8 i).wf = true) : ∃ b : UInt8, i = (b.toNat : Int) := by
 have h1 : 0 ≤ i ∧ i < 256 := by
  simp only [Lit.wf, IntKind.has] at h
  revert h
  simp [IntKind.min, IntKind.max, IntKind.bits, IntKind.signed]
  intro a b
  constructor <;> omega
 refine ⟨UInt8.ofNat i.toNat, ?_⟩
 simp only [UInt8.toNat_ofNat']
 omega
theorem u16_of {i : Int} (h : (Lit.int .u16 i).wf = true) : ∃ b : Nat, i = (b : Int) ∧ b < 65536 := by
 have h1 : 0 ≤ i ∧ i < 65536 := by
  simp only [Lit.wf, IntKind.has] at h
  revert h
  simp [IntKind.min, IntKind.max, IntKind.bits, IntKind.signed]
  intro a b
  constructor <;> omega
 exact ⟨i.toNat, by omega, by omega⟩
theorem shapes_bytes (hu : P.underlying e = some (.int .u8)) : ∀ {len : Nat} {cells : List AVal}, shapes (Shape P H (n + 1)) (List.replicate len e) cells → ∃ l : List UInt8, l.length = len ∧ cells = cellsB l := by
 intro len
 induction len with
 | zero => intro cells h; exact ⟨[], rfl, h⟩
 | succ len ih =>
  intro cells h
  obtain ⟨a, b, rfl, h1, h2⟩ := h
  obtain ⟨i, rfl, hw⟩ := shape_int hu h1
  obtain ⟨x, rfl⟩ := u8_of hw
  obtain ⟨l, hl, rfl⟩ := ih h2
  exact ⟨x :: l, by simp [hl], rfl⟩
theorem shape_bytes (hu : P.underlying t = some (.slice e)) (he : P.underlying e = some (.int .u8)) (hc : P.cellsOf e = 1) (h : Shape P H (n + 2) t cs) : ∃ p l, cs = [p] ∧ BytesI H p l ∧ l.length ≤ maxLen := by
 rw [Shape, hu] at h
 obtain ⟨p, len, cells, rfl, h2, h3, h4⟩ := h
 obtain ⟨l, rfl, rfl⟩ := shapes_bytes he h4
 rw [hc] at h2
 exact ⟨p, l, rfl, h2, h3⟩
end
def aBytesFn (f : List UInt8 → AVal) : AVal → M AVal
 | .nslice => M.pure (f [])
 | .str s => M.pure (f s.data.toList)
 | .slice r off len _ s => if s ≠ 1 then M.fail else M.bind (aRow r) fun (cs, _) => if off + len ≤ cs.length then match bytesOf ((cs.drop off).take len) with
   | some l => M.pure (f l)
   | none => M.fail
  else M.fail
 | _ => M.fail
def aCount : List AVal → M AVal
 | [x, .int .u8 b] => aBytesFn (fun l => .int .i64 (Lib.countByte l (UInt8.ofNat b.toNat))) x
 | _ => M.fail
def aIndexByte : List AVal → M AVal
 | [x, .int .u8 b] => aBytesFn (fun l => .int .i64 (Lib.indexByte l (UInt8.ofNat b.toNat))) x
 | _ => M.fail
def aSelf : List AVal → M AVal
 | [x] => M.pure x
 | _ => M.fail
end Go.Am
namespace Go.Am
open Go Go.RowKit
def dg (n : Nat) : UInt8 := UInt8.ofNat (48 + n)
def digs (n : Nat) : List UInt8 := if n < 10 then [dg n] else if n < 100 then [dg (n / 10), dg (n % 10)] else [dg (n / 100), dg (n / 10 % 10), dg (n % 10)]
section
variable {P : Program}
def aFam (T : List (Nat × List AVal)) (F : List AVal → Option AVal) (args : List AVal) : M AVal := fun H => match tablesIn T H, F args with | true, some v => some (v, H) | _, _ => none
theorem plain_embL {l : List AVal} (h : l.all plainV = true) (m m' : RMap) : embL m l = embL m' l := by
 induction l with
 | nil => simp [embL]
 | cons a l ih =>
  rw [List.all_cons, Bool.and_eq_true] at h
  simp only [embL, plain_emb h.1 m m', ih h.2]
theorem ext_fam (hmix : P.follows .mixedOrders = true) {ext0 : Exts} {prog0 : FuncId → Option RFunc} (hP : ProgOk P ext0 prog0) {T : List (Nat × List AVal)} {F : List AVal → Option AVal} {f : FuncId} {fn : Func} (hfn : P.funcs[f]? = some fn)
  {n : Nat} (hT : (T.all fun t => Nat.blt t.1 P.globals.size && t.2.all plainV) = true) (hF : ∀ args v, F args = some v → args.all plainV = true ∧ plainV v = true ∧ ∃ H', callN ext0 prog0 n f args (tableHeap P.globals.size T) = some (v, H'))
  {ext : Exts} {k : Nat} (hk : ext k = aFam T F) : ExtSim P ext f k := by
 intro S args H u H' m w vargs hG hx h ha
 rw [hk] at hx
 unfold aFam at hx
 cases ht : tablesIn T H with
 | false => simp only [ht] at hx; cases hx
 | true =>
 cases hFa : F args with
 | none => simp only [ht, hFa] at hx; cases hx
 | some v =>
   simp only [ht, hFa, Option.some.injEq, Prod.mk.injEq] at hx
   obtain ⟨rfl, rfl⟩ := hx
   obtain ⟨hpa, hv, H1, hrun⟩ := hF _ _ hFa
   simp only [tablesIn, List.all_eq_true, Bool.and_eq_true] at ht hT
   have hrel : HRel ⟨w.heap.size, w, P.globals.size, fun _ => False, cCode P⟩ (globMap P.globals.size (longest T)) (tableHeap P.globals.size T) w := by
    refine ⟨Below.refl _ _, Nat.le_refl _, fun g hg => ⟨longest T, by simp only at hg; simp [globMap, hg]⟩, fun r hr => by simp only [tableHeap] at hr; simp [globMap]; omega, fun r hr => hr.elim, ?_, ?_, ⟨fun r R p _ h _ => absurd h tableObj_loop, fun r s R R' p q L L' _ _ _ h => absurd h tableObj_loop⟩⟩
    ·intro r cs rw e p hr hg hp
     obtain ⟨hmem, rfl⟩ := tableObj_row hg
     have hT1 := hT _ hmem
     have ht1 := ht _ hmem
     simp only [] at hT1 ht1
     have hrG : r < P.globals.size := by simpa using hT1.1
     have hp' : p = (⟨r, 0, none⟩, longest T) := by simp only [globMap, hrG, if_true] at hp; exact (Option.some.inj hp).symm
     subst hp'
     obtain ⟨k, hmk⟩ := h.glob r (by rw [hG]; exact hrG)
     have hrn : r < H.n := by simpa using ht1.1
     cases hgr : H.get r with
     | row cs' rw' e' =>
      have ht2 := ht1.2
      rw [hgr] at ht2
      simp only [] at ht2
      have hcs := abeqL_eq ht2
      subst hcs
      have hok := h.row r cs' rw' e' _ hrn hgr hmk
      refine ⟨fun i u hi => ?_, le_longest hmem, fun q => by cases q⟩
      obtain ⟨x, h1, h2⟩ := hok.cell i u hi
      have hpl : plainV u = true := hT1.2 u (List.mem_of_getElem? hi)
      exact ⟨x, by rw [plain_emb hpl _ m]; exact h1, h2⟩
     | _ => have ht2 := ht1.2; rw [hgr] at ht2; cases ht2
    ·intro r s cs rw e cs' e' p q hr hs hne hg1 hg2 hp hq
     exact absurd (tableObj_row hg2).2 (by decide)
   have hy := sim_callN hmix hP n ⟨w.heap.size, w, P.globals.size, fun _ => False, cCode P⟩ rfl rfl f args (tableHeap P.globals.size T) v H1 (globMap P.globals.size (longest T)) w vargs hrun hrel (by rw [plain_embL hpa _ m]; exact ha)
   rw [hP.sem hfn] at hy
   refine hy.mono fun x w' ⟨m', _, hx, hrel'⟩ => ?_
   exact ⟨m, Le.refl _, by rw [plain_emb hv m m']; exact hx, h.kept hrel'.below⟩
end
def z640 : List AVal := List.replicate 640 (.int .i64 0)
def aroundT : List (Nat × List AVal) := [(1, [.int .i64 0, .int .i64 (-1), .int .i64 1, .int .i64 (-1), .int .i64 1, .int .i64 0, .int .i64 1, .int .i64 1, .int .i64 0, .int .i64 1, .int .i64 (-1), .int .i64 1, .int .i64 (-1), .int .i64 0, .int .i64 (-1), .int .i64 (-1)])]
def c4 : RFunc := ⟨90,.code (.seq (.region [⟨some 10,.mov (.val (.bool false)),none⟩]) (.seq (.region [⟨some 19,.mov (.tmp 0),none⟩,⟨some 20,.mov (.tmp 1),none⟩,⟨some 21,.call (.val (.func (.func 14) [] [])) [.tmp 19,.tmp 20],none⟩,⟨some 11,.new 29 [(.int .i64 0),(.int .i64 0),.nslice],none⟩,⟨none,.store 3 (.tmp 11) (.tmp 21),none⟩]) (.seq (.region [⟨some 22,.mov (.tmp 3),none⟩,⟨some 23,.bin .rem (.tmp 22) (.val (.int .u8 7)),none⟩,⟨some 24,.convInt .i64 (.tmp 23),none⟩,⟨some 25,.bin .sub (.tmp 24) (.val (.int .i64 3)),none⟩,⟨some 12,.mov (.tmp 25),none⟩]) (.seq (.region [⟨some 27,.load (some 3) (.tmp 11),none⟩,⟨some 28,.mov (.tmp 2),none⟩,⟨some 29,.call (.val (.func (.func 16) [] [])) [.tmp 27,.tmp 28],none⟩,⟨some 30,.mov (.tmp 12),none⟩,⟨some 31,.call (.val (.func (.func 15) [] [])) [.tmp 29,.tmp 30],none⟩,⟨some 26,.mov (.tmp 31),none⟩,⟨some 32,.extract (.tmp 26) 0,none⟩,⟨some 33,.extract (.tmp 26) 1,none⟩,⟨some 13,.new 29 [(.int .i64 0),(.int .i64 0),.nslice],none⟩,⟨none,.store 3 (.tmp 13) (.tmp 32),none⟩,⟨some 14,.mov (.tmp 33),none⟩]) (.seq (.seq (.region [⟨some 34,.mov (.tmp 14),none⟩,⟨some 35,.bin .neq (.tmp 34) (.val (.int .i64 0)),none⟩]) (.cond (.tmp 35) (.seq (.region [⟨some 10,.mov (.val (.bool false)),none⟩]) .ret) .skip)) (.seq (.region [⟨some 36,.load (some 3) (.tmp 13),none⟩,⟨some 37,.mov (.tmp 4),none⟩,⟨some 38,.call (.val (.func (.func 17) [] [])) [.tmp 36,.tmp 37],none⟩,⟨some 15,.new 24 [(.int .i64 0),(.int .i64 0),.nslice],none⟩,⟨none,.store 3 (.tmp 15) (.tmp 38),none⟩]) (.seq (.region [⟨some 40,.load (some 3) (.tmp 15),none⟩,⟨some 41,.call (.val (.func (.func 9) [] [])) [.tmp 40],none⟩,⟨some 39,.mov (.tmp 41),none⟩,⟨some 42,.extract (.tmp 39) 0,none⟩,⟨some 43,.extract (.tmp 39) 1,none⟩,⟨some 44,.extract (.tmp 39) 2,none⟩,⟨some 16,.new 29 [(.int .i64 0),(.int .i64 0),.nslice],none⟩,⟨some 17,.new 26 [(.int .i64 0),(.int .i64 0),(.int .i64 0)],none⟩,⟨none,.store 3 (.tmp 16) (.tmp 42),none⟩,⟨none,.store 3 (.tmp 17) (.tmp 43),none⟩,⟨some 14,.mov (.tmp 44),none⟩]) (.seq (.seq (.region [⟨some 45,.mov (.tmp 14),none⟩,⟨some 46,.bin .neq (.tmp 45) (.val (.int .i64 0)),none⟩,⟨some 47,.mov (.tmp 46),none⟩,⟨some 48,.load (some 3) (.tmp 16),some (47,false)⟩,⟨some 49,.load (some 3) (.tmp 11),some (47,false)⟩,⟨some 50,.call (.val (.func (.func 11) [] [])) [.tmp 48,.tmp 49],some (47,false)⟩,⟨some 51,.un .not (.tmp 50),some (47,false)⟩,⟨some 52,.pick (.tmp 47) (.val (.bool true)) (.tmp 51),none⟩,⟨some 53,.mov (.tmp 52),none⟩,⟨some 54,.fieldAddr 1 (.tmp 17),some (53,false)⟩,⟨some 55,.load none (.tmp 54),some (53,false)⟩,⟨some 56,.mov (.tmp 12),some (53,false)⟩,⟨some 57,.bin .neq (.tmp 55) (.tmp 56),some (53,false)⟩,⟨some 58,.pick (.tmp 53) (.val (.bool true)) (.tmp 57),none⟩,⟨some 59,.mov (.tmp 58),none⟩,⟨some 60,.fieldAddr 2 (.tmp 17),some (59,false)⟩,⟨some 61,.load none (.tmp 60),some (59,false)⟩,⟨some 62,.bin .neq (.tmp 61) (.val (.int .i64 2)),some (59,false)⟩,⟨some 63,.pick (.tmp 59) (.val (.bool true)) (.tmp 62),none⟩,⟨some 64,.mov (.tmp 63),none⟩,⟨some 65,.fieldAddr 0 (.tmp 17),some (64,false)⟩,⟨some 66,.load none (.tmp 65),some (64,false)⟩,⟨some 67,.bin .leq (.tmp 66) (.val (.int .i64 60)),some (64,false)⟩,⟨some 68,.pick (.tmp 64) (.val (.bool true)) (.tmp 67),none⟩,⟨some 69,.mov (.tmp 68),none⟩,⟨some 70,.fieldAddr 0 (.tmp 17),some (69,false)⟩,⟨some 71,.load none (.tmp 70),some (69,false)⟩,⟨some 72,.bin .gtr (.tmp 71) (.val (.int .i64 195)),some (69,false)⟩,⟨some 73,.pick (.tmp 69) (.val (.bool true)) (.tmp 72),none⟩]) (.cond (.tmp 73) (.seq (.region [⟨some 10,.mov (.val (.bool false)),none⟩]) .ret) .skip)) (.seq (.region [⟨some 75,.load (some 3) (.tmp 15),none⟩,⟨some 76,.load (some 3) (.tmp 17),none⟩,⟨some 77,.call (.val (.func (.func 7) [] [])) [.tmp 75,.tmp 76],none⟩,⟨some 74,.mov (.tmp 77),none⟩,⟨some 78,.extract (.tmp 74) 0,none⟩,⟨some 79,.extract (.tmp 74) 1,none⟩,⟨some 18,.new 29 [(.int .i64 0),(.int .i64 0),.nslice],none⟩,⟨none,.store 3 (.tmp 18) (.tmp 78),none⟩,⟨some 14,.mov (.tmp 79),none⟩]) (.seq (.region [⟨some 80,.mov (.tmp 14),none⟩,⟨some 81,.bin .eql (.tmp 80) (.val (.int .i64 0)),none⟩,⟨some 82,.mov (.tmp 81),none⟩,⟨some 83,.load (some 3) (.tmp 18),some (82,true)⟩,⟨some 84,.load (some 3) (.tmp 16),some (82,true)⟩,⟨some 85,.call (.val (.func (.func 11) [] [])) [.tmp 83,.tmp 84],some (82,true)⟩,⟨some 86,.pick (.tmp 82) (.tmp 85) (.val (.bool false)),none⟩,⟨some 87,.mov (.tmp 86),none⟩,⟨some 88,.call (.val (.func (.func 5) [] [])) [],some (87,true)⟩,⟨some 89,.pick (.tmp 87) (.tmp 88) (.val (.bool false)),none⟩,⟨some 10,.mov (.tmp 89),none⟩]) .ret)))))))))),[.tmp 10]⟩
def c5 : RFunc := ⟨78,.code (.seq (.region [⟨some 0,.mov (.val (.bool false)),none⟩]) (.seq (.region [⟨some 12,.buildSlice 5 1 4 [(.int .u8 0),(.int .u8 0),(.int .u8 0),(.int .u8 0)] [(0,1,(.val (.int .u8 10))),(1,1,(.val (.int .u8 20))),(2,1,(.val (.int .u8 200))),(3,1,(.val (.int .u8 210)))],none⟩,⟨some 13,.build [(.int .i64 0),(.int .i64 0),.nslice] [(0,1,(.val (.int .i64 4))),(1,1,(.val (.int .i64 1))),(2,1,(.tmp 12))],none⟩,⟨some 14,.call (.val (.func (.func 18) [] [])) [.tmp 13],none⟩,⟨some 11,.mov (.tmp 14),none⟩,⟨some 15,.extract (.tmp 11) 0,none⟩,⟨some 16,.extract (.tmp 11) 1,none⟩,⟨some 1,.mov (.tmp 15),none⟩,⟨some 2,.mov (.tmp 16),none⟩]) (.seq (.region [⟨some 18,.buildSlice 5 1 3 [(.int .u8 0),(.int .u8 0),(.int .u8 0)] [(0,1,(.val (.int .u8 200))),(1,1,(.val (.int .u8 0))),(2,1,(.val (.int .u8 100)))],none⟩,⟨some 19,.build [(.int .i64 0),(.int .i64 0),.nslice] [(0,1,(.val (.int .i64 3))),(1,1,(.val (.int .i64 1))),(2,1,(.tmp 18))],none⟩,⟨some 20,.call (.val (.func (.func 18) [] [])) [.tmp 19],none⟩,⟨some 17,.mov (.tmp 20),none⟩,⟨some 21,.extract (.tmp 17) 0,none⟩,⟨some 22,.extract (.tmp 17) 1,none⟩,⟨some 3,.mov (.tmp 21),none⟩,⟨some 4,.mov (.tmp 22),none⟩]) (.seq (.region [⟨some 24,.call (.val (.func (.func 19) [] [])) [(.val (.int .i64 129))],none⟩,⟨some 25,.call (.val (.func (.func 15) [] [])) [.tmp 24,(.val (.int .i64 (-1)))],none⟩,⟨some 23,.mov (.tmp 25),none⟩,⟨some 26,.extract (.tmp 23) 0,none⟩,⟨some 27,.extract (.tmp 23) 1,none⟩,⟨some 5,.new 29 [(.int .i64 0),(.int .i64 0),.nslice],none⟩,⟨none,.store 3 (.tmp 5) (.tmp 26),none⟩,⟨some 6,.mov (.tmp 27),none⟩]) (.seq (.region [⟨some 29,.load (some 3) (.tmp 5),none⟩,⟨some 30,.call (.val (.func (.func 20) [] [])) [.tmp 29],none⟩,⟨some 28,.mov (.tmp 30),none⟩,⟨some 31,.extract (.tmp 28) 0,none⟩,⟨some 32,.extract (.tmp 28) 1,none⟩,⟨some 7,.mov (.tmp 31),none⟩,⟨some 8,.mov (.tmp 32),none⟩]) (.seq (.region [⟨some 34,.call (.val (.func (.func 19) [] [])) [(.val (.int .i64 64))],none⟩,⟨some 35,.call (.val (.func (.func 15) [] [])) [.tmp 34,(.val (.int .i64 1))],none⟩,⟨some 33,.mov (.tmp 35),none⟩,⟨some 36,.extract (.tmp 33) 0,none⟩,⟨some 37,.extract (.tmp 33) 1,none⟩,⟨some 9,.new 29 [(.int .i64 0),(.int .i64 0),.nslice],none⟩,⟨none,.store 3 (.tmp 9) (.tmp 36),none⟩,⟨some 10,.mov (.tmp 37),none⟩]) (.seq (.dregion [⟨⟨some 38,.mov (.tmp 2),none⟩,0,0,true⟩,⟨⟨some 39,.bin .eql (.tmp 38) (.val (.int .i64 0)),none⟩,1,0,true⟩,⟨⟨some 40,.mov (.tmp 39),none⟩,3,0,true⟩,⟨⟨some 41,.mov (.tmp 4),some (40,true)⟩,7,0,true⟩,⟨⟨some 42,.bin .eql (.tmp 41) (.val (.int .i64 0)),some (40,true)⟩,15,0,true⟩,⟨⟨some 43,.pick (.tmp 40) (.tmp 42) (.val (.bool false)),none⟩,31,0,true⟩,⟨⟨some 44,.mov (.tmp 43),none⟩,63,0,true⟩,⟨⟨some 45,.mov (.tmp 6),some (44,true)⟩,127,0,true⟩,⟨⟨some 46,.bin .eql (.tmp 45) (.val (.int .i64 0)),some (44,true)⟩,255,0,true⟩,⟨⟨some 47,.pick (.tmp 44) (.tmp 46) (.val (.bool false)),none⟩,511,0,true⟩,⟨⟨some 48,.mov (.tmp 47),none⟩,1023,0,true⟩,⟨⟨some 49,.mov (.tmp 8),some (48,true)⟩,2047,0,true⟩,⟨⟨some 50,.bin .eql (.tmp 49) (.val (.int .i64 0)),some (48,true)⟩,4095,0,true⟩,⟨⟨some 51,.pick (.tmp 48) (.tmp 50) (.val (.bool false)),none⟩,8191,0,true⟩,⟨⟨some 52,.mov (.tmp 51),none⟩,16383,0,true⟩,⟨⟨some 53,.mov (.tmp 10),some (52,true)⟩,32767,0,true⟩,⟨⟨some 54,.bin .eql (.tmp 53) (.val (.int .i64 0)),some (52,true)⟩,65535,0,true⟩,⟨⟨some 55,.pick (.tmp 52) (.tmp 54) (.val (.bool false)),none⟩,131071,0,true⟩,⟨⟨some 56,.mov (.tmp 55),none⟩,262143,0,true⟩,⟨⟨some 57,.mov (.tmp 1),some (56,true)⟩,524287,0,true⟩,⟨⟨some 58,.bin .eql (.tmp 57) (.val (.int .i64 110)),some (56,true)⟩,1048575,0,true⟩,⟨⟨some 59,.pick (.tmp 56) (.tmp 58) (.val (.bool false)),none⟩,2097151,0,true⟩,⟨⟨some 60,.mov (.tmp 59),none⟩,4194303,0,true⟩,⟨⟨some 61,.mov (.tmp 3),some (60,true)⟩,8388607,0,true⟩,⟨⟨some 62,.bin .eql (.tmp 61) (.val (.int .i64 50)),some (60,true)⟩,16777215,0,true⟩,⟨⟨some 63,.pick (.tmp 60) (.tmp 62) (.val (.bool false)),none⟩,33554431,0,true⟩,⟨⟨some 64,.mov (.tmp 63),none⟩,67108863,0,true⟩,⟨⟨some 65,.fieldAddr 1 (.tmp 5),some (64,true)⟩,134217727,0,true⟩,⟨⟨some 66,.load none (.tmp 65),some (64,true)⟩,268435455,1,true⟩,⟨⟨some 67,.bin .eql (.tmp 66) (.val (.int .i64 3)),some (64,true)⟩,536870911,0,true⟩,⟨⟨some 68,.pick (.tmp 64) (.tmp 67) (.val (.bool false)),none⟩,1073741823,0,true⟩,⟨⟨some 69,.mov (.tmp 68),none⟩,2147483647,0,true⟩,⟨⟨some 70,.mov (.tmp 7),some (69,true)⟩,4294967295,0,true⟩,⟨⟨some 71,.bin .eql (.tmp 70) (.val (.int .i64 (-1))),some (69,true)⟩,8589934591,0,true⟩,⟨⟨some 72,.pick (.tmp 69) (.tmp 71) (.val (.bool false)),none⟩,17179869183,0,true⟩,⟨⟨some 73,.mov (.tmp 72),none⟩,34359738367,0,true⟩,⟨⟨some 74,.load (some 3) (.tmp 9),some (73,true)⟩,68719476735,1,true⟩,⟨⟨some 75,.call (.val (.func (.func 19) [] [])) [(.val (.int .i64 64))],some (73,true)⟩,68719476735,2,false⟩,⟨⟨some 76,.call (.val (.func (.func 11) [] [])) [.tmp 74,.tmp 75],some (73,true)⟩,274877906943,2,false⟩,⟨⟨some 77,.pick (.tmp 73) (.tmp 76) (.val (.bool false)),none⟩,549755813887,0,false⟩,⟨⟨some 0,.mov (.tmp 77),none⟩,1099511627775,0,false⟩]) .ret))))))),[.tmp 0]⟩
def c7 : RFunc := ⟨41,.code (.seq (.region [⟨some 2,.box 24 (.tmp 0),none⟩,⟨some 3,.box 26 (.tmp 1),none⟩,⟨some 4,.new 29 [(.int .i64 0),(.int .i64 0),.nslice],none⟩,⟨some 5,.mov (.val (.int .i64 0)),none⟩]) (.seq (.seq (.region [⟨some 11,.load (some 3) (.tmp 2),none⟩,⟨some 12,.call (.val (.func (.func 22) [] [])) [.tmp 11],none⟩,⟨some 6,.mov (.tmp 12),none⟩]) (.seq (.region [⟨some 13,.mov (.tmp 6),none⟩,⟨some 14,.bin .neq (.tmp 13) (.val (.int .i64 0)),none⟩]) (.cond (.tmp 14) (.seq (.region [⟨some 15,.build [(.int .i64 0),(.int .i64 0),.nslice] [],none⟩,⟨some 16,.mov (.tmp 6),none⟩,⟨none,.store 3 (.tmp 4) (.tmp 15),none⟩,⟨some 5,.mov (.tmp 16),none⟩]) .ret) .skip))) (.seq (.seq (.region [⟨some 17,.load (some 3) (.tmp 3),none⟩,⟨some 18,.call (.val (.func (.func 23) [] [])) [.tmp 17],none⟩,⟨some 19,.un .not (.tmp 18),none⟩]) (.cond (.tmp 19) (.seq (.region [⟨some 20,.build [(.int .i64 0),(.int .i64 0),.nslice] [],none⟩,⟨none,.store 3 (.tmp 4) (.tmp 20),none⟩,⟨some 5,.mov (.val (.int .i64 1)),none⟩]) .ret) .skip)) (.seq (.region [⟨some 7,.new 29 [(.int .i64 0),(.int .i64 0),.nslice],none⟩]) (.seq (.seq (.region [⟨some 21,.load (some 3) (.tmp 2),none⟩,⟨some 22,.call (.val (.func (.func 24) [] [])) [.tmp 21,.tmp 3],none⟩,⟨some 23,.lenS (.tmp 22),none⟩,⟨some 24,.mov (.val (.int .i64 0)),none⟩]) (.block 0 (.loop (.seq (.region [⟨some 25,.bin .lss (.tmp 24) (.tmp 23),none⟩]) (.seq (.cond (.tmp 25) .skip (.exit 0)) (.seq (.block 1 (.seq (.region [⟨some 26,.idxS 2 (.tmp 22) (.tmp 24),none⟩,⟨some 27,.load (some 2) (.tmp 26),none⟩,⟨some 9,.new 59 [.nfunc,.nfunc],none⟩,⟨none,.store 2 (.tmp 9) (.tmp 27),none⟩]) (.seq (.region [⟨some 10,.mov (.val (.int .i64 0)),none⟩]) (.seq (.region [⟨some 29,.fieldAddr 1 (.tmp 9),none⟩,⟨some 30,.load none (.tmp 29),none⟩,⟨some 31,.load (some 3) (.tmp 7),none⟩,⟨some 32,.call (.tmp 30) [.tmp 31],none⟩,⟨some 28,.mov (.tmp 32),none⟩,⟨some 33,.extract (.tmp 28) 0,none⟩,⟨some 34,.extract (.tmp 28) 1,none⟩,⟨none,.store 3 (.tmp 7) (.tmp 33),none⟩,⟨some 10,.mov (.tmp 34),none⟩]) (.seq (.region [⟨some 35,.mov (.tmp 10),none⟩,⟨some 36,.bin .neq (.tmp 35) (.val (.int .i64 0)),none⟩]) (.cond (.tmp 36) (.seq (.region [⟨some 37,.build [(.int .i64 0),(.int .i64 0),.nslice] [],none⟩,⟨some 38,.mov (.tmp 10),none⟩,⟨none,.store 3 (.tmp 4) (.tmp 37),none⟩,⟨some 5,.mov (.tmp 38),none⟩]) .ret) .skip)))))) (.region [⟨some 39,.bin .add (.tmp 24) (.val (.int .i64 1)),none⟩,⟨some 24,.mov (.tmp 39),none⟩]))))))) (.seq (.region [⟨some 40,.load (some 3) (.tmp 7),none⟩,⟨none,.store 3 (.tmp 4) (.tmp 40),none⟩,⟨some 5,.mov (.val (.int .i64 0)),none⟩]) .ret)))))),[.cell 4 (some 3),.tmp 5]⟩
def c9 : RFunc := ⟨38,.code (.seq (.region [⟨some 1,.box 24 (.tmp 0),none⟩,⟨some 2,.new 29 [(.int .i64 0),(.int .i64 0),.nslice],none⟩,⟨some 3,.new 26 [(.int .i64 0),(.int .i64 0),(.int .i64 0)],none⟩,⟨some 4,.mov (.val (.int .i64 0)),none⟩]) (.seq (.region [⟨some 5,.new 26 [(.int .i64 0),(.int .i64 0),(.int .i64 0)],none⟩]) (.seq (.region [⟨some 6,.new 29 [(.int .i64 0),(.int .i64 0),.nslice],none⟩]) (.seq (.seq (.region [⟨some 10,.load (some 3) (.tmp 1),none⟩,⟨some 11,.call (.val (.func (.func 24) [] [])) [.tmp 10,.tmp 5],none⟩,⟨some 12,.lenS (.tmp 11),none⟩,⟨some 13,.mov (.val (.int .i64 0)),none⟩]) (.block 0 (.loop (.seq (.region [⟨some 14,.bin .lss (.tmp 13) (.tmp 12),none⟩]) (.seq (.cond (.tmp 14) .skip (.exit 0)) (.seq (.block 1 (.seq (.region [⟨some 15,.idxS 2 (.tmp 11) (.tmp 13),none⟩,⟨some 16,.load (some 2) (.tmp 15),none⟩,⟨some 8,.new 59 [.nfunc,.nfunc],none⟩,⟨none,.store 2 (.tmp 8) (.tmp 16),none⟩]) (.seq (.region [⟨some 17,.fieldAddr 0 (.tmp 8),none⟩,⟨some 18,.load none (.tmp 17),none⟩,⟨some 19,.load (some 3) (.tmp 6),none⟩,⟨some 20,.call (.tmp 18) [.tmp 19],none⟩,⟨some 9,.mov (.tmp 20),none⟩]) (.seq (.seq (.region [⟨some 21,.mov (.tmp 9),none⟩,⟨some 22,.bin .eql (.tmp 21) (.val (.int .i64 0)),none⟩]) (.cond (.tmp 22) (.region [⟨some 24,.fieldAddr 1 (.tmp 8),none⟩,⟨some 25,.load none (.tmp 24),none⟩,⟨some 26,.load (some 3) (.tmp 6),none⟩,⟨some 27,.call (.tmp 25) [.tmp 26],none⟩,⟨some 23,.mov (.tmp 27),none⟩,⟨some 28,.extract (.tmp 23) 0,none⟩,⟨some 29,.extract (.tmp 23) 1,none⟩,⟨none,.store 3 (.tmp 6) (.tmp 28),none⟩,⟨some 9,.mov (.tmp 29),none⟩]) .skip)) (.seq (.region [⟨some 30,.mov (.tmp 9),none⟩,⟨some 31,.bin .neq (.tmp 30) (.val (.int .i64 0)),none⟩]) (.cond (.tmp 31) (.seq (.region [⟨some 32,.build [(.int .i64 0),(.int .i64 0),.nslice] [],none⟩,⟨some 33,.build [(.int .i64 0),(.int .i64 0),(.int .i64 0)] [],none⟩,⟨some 34,.mov (.tmp 9),none⟩,⟨none,.store 3 (.tmp 2) (.tmp 32),none⟩,⟨none,.store 3 (.tmp 3) (.tmp 33),none⟩,⟨some 4,.mov (.tmp 34),none⟩]) .ret) .skip)))))) (.region [⟨some 35,.bin .add (.tmp 13) (.val (.int .i64 1)),none⟩,⟨some 13,.mov (.tmp 35),none⟩]))))))) (.seq (.dregion [⟨⟨some 36,.load (some 3) (.tmp 6),none⟩,0,1,true⟩,⟨⟨some 37,.load (some 3) (.tmp 5),none⟩,0,1,true⟩,⟨⟨none,.store 3 (.tmp 2) (.tmp 36),none⟩,1,2,false⟩,⟨⟨none,.store 3 (.tmp 3) (.tmp 37),none⟩,7,2,false⟩,⟨⟨some 4,.mov (.val (.int .i64 0)),none⟩,15,0,true⟩]) .ret))))),[.cell 2 (some 3),.cell 3 (some 3),.tmp 4]⟩
def c11 : RFunc := ⟨24,.code (.seq (.region [⟨some 2,.box 29 (.tmp 0),none⟩,⟨some 3,.box 29 (.tmp 1),none⟩,⟨some 4,.mov (.val (.bool false)),none⟩]) (.seq (.region [⟨some 5,.fieldAddr 0 (.tmp 2),none⟩,⟨some 6,.load none (.tmp 5),none⟩,⟨some 7,.fieldAddr 0 (.tmp 3),none⟩,⟨some 8,.load none (.tmp 7),none⟩,⟨some 9,.bin .eql (.tmp 6) (.tmp 8),none⟩,⟨some 10,.mov (.tmp 9),none⟩,⟨some 11,.fieldAddr 1 (.tmp 2),some (10,true)⟩,⟨some 12,.load none (.tmp 11),some (10,true)⟩,⟨some 13,.fieldAddr 1 (.tmp 3),some (10,true)⟩,⟨some 14,.load none (.tmp 13),some (10,true)⟩,⟨some 15,.bin .eql (.tmp 12) (.tmp 14),some (10,true)⟩,⟨some 16,.pick (.tmp 10) (.tmp 15) (.val (.bool false)),none⟩,⟨some 17,.mov (.tmp 16),none⟩,⟨some 18,.fieldAddr 2 (.tmp 2),some (17,true)⟩,⟨some 19,.load none (.tmp 18),some (17,true)⟩,⟨some 20,.fieldAddr 2 (.tmp 3),some (17,true)⟩,⟨some 21,.load none (.tmp 20),some (17,true)⟩,⟨some 22,.call (.val (.func (.func 29) [] [])) [.tmp 19,.tmp 21],some (17,true)⟩,⟨some 23,.pick (.tmp 17) (.tmp 22) (.val (.bool false)),none⟩,⟨some 4,.mov (.tmp 23),none⟩]) .ret)),[.tmp 4]⟩
def c14 : RFunc := ⟨87,.code (.seq (.region [⟨some 4,.new 29 [(.int .i64 0),(.int .i64 0),.nslice],none⟩]) (.seq (.region [⟨some 14,.mov (.tmp 0),none⟩,⟨some 15,.bin .rem (.tmp 14) (.val (.int .u8 96)),none⟩,⟨some 16,.convInt .i64 (.tmp 15),none⟩,⟨some 17,.bin .add (.val (.int .i64 65)) (.tmp 16),none⟩,⟨some 5,.mov (.tmp 17),none⟩]) (.seq (.region [⟨some 6,.mov (.val .nslice),none⟩]) (.seq (.region [⟨some 7,.mov (.val (.int .i64 0)),none⟩]) (.seq (.seq (.region [⟨some 18,.mov (.tmp 1),none⟩,⟨some 19,.mov (.tmp 1),none⟩,⟨some 20,.lenS (.tmp 19),none⟩,⟨some 21,.minmax false [.tmp 20,(.val (.int .i64 12))],none⟩,⟨some 22,.sliceS 1 (.tmp 18) none (some (.tmp 21)) none,none⟩,⟨some 23,.lenS (.tmp 22),none⟩,⟨some 24,.mov (.val (.int .i64 0)),none⟩]) (.block 0 (.loop (.seq (.region [⟨some 25,.bin .lss (.tmp 24) (.tmp 23),none⟩]) (.seq (.cond (.tmp 25) .skip (.exit 0)) (.seq (.block 1 (.seq (.region [⟨some 26,.mov (.tmp 24),none⟩,⟨some 27,.idxS 1 (.tmp 22) (.tmp 24),none⟩,⟨some 28,.load none (.tmp 27),none⟩,⟨some 8,.mov (.tmp 26),none⟩,⟨some 9,.mov (.tmp 28),none⟩]) (.seq (.seq (.region [⟨some 29,.mov (.tmp 8),none⟩,⟨some 30,.bin .eql (.tmp 29) (.val (.int .i64 0)),none⟩]) (.cond (.tmp 30) (.region [⟨some 31,.mov (.tmp 9),none⟩,⟨some 32,.bin .rem (.tmp 31) (.val (.int .u8 6)),none⟩,⟨some 33,.convInt .i64 (.tmp 32),none⟩,⟨some 7,.mov (.tmp 33),none⟩]) (.region [⟨some 34,.mov (.tmp 7),none⟩,⟨some 35,.mov (.tmp 9),none⟩,⟨some 36,.bin .rem (.tmp 35) (.val (.int .u8 4)),none⟩,⟨some 37,.convInt .i64 (.tmp 36),none⟩,⟨some 38,.bin .add (.val (.int .i64 3)) (.tmp 37),none⟩,⟨some 39,.bin .add (.tmp 34) (.tmp 38),none⟩,⟨some 7,.mov (.tmp 39),none⟩]))) (.region [⟨some 40,.mov (.tmp 6),none⟩,⟨some 41,.mov (.tmp 7),none⟩,⟨some 42,.buildSlice 3 1 1 [(.int .i64 0)] [(0,1,(.tmp 41))],none⟩,⟨some 43,.append 3 1 8 (.tmp 40) (.tmp 42),none⟩,⟨some 6,.mov (.tmp 43),none⟩])))) (.region [⟨some 44,.bin .add (.tmp 24) (.val (.int .i64 1)),none⟩,⟨some 24,.mov (.tmp 44),none⟩]))))))) (.seq (.seq (.region [⟨some 45,.mov (.tmp 6),none⟩,⟨some 46,.lenS (.tmp 45),none⟩,⟨some 47,.bin .eql (.tmp 46) (.val (.int .i64 0)),none⟩]) (.cond (.tmp 47) (.seq (.region [⟨some 48,.buildSlice 3 1 1 [(.int .i64 0)] [(0,1,(.val (.int .i64 2)))],none⟩,⟨some 6,.mov (.tmp 48),none⟩]) (.region [⟨some 7,.mov (.val (.int .i64 2)),none⟩])) .skip)) (.seq (.region [⟨some 49,.mov (.tmp 5),none⟩,⟨some 50,.mov (.tmp 7),none⟩,⟨some 51,.bin .add (.tmp 50) (.val (.int .i64 2)),none⟩,⟨some 52,.mov (.tmp 0),none⟩,⟨some 53,.convInt .i64 (.tmp 52),none⟩,⟨some 54,.bin .rem (.tmp 53) (.val (.int .i64 6)),none⟩,⟨some 55,.bin .add (.tmp 51) (.tmp 54),none⟩,⟨some 56,.mov (.tmp 5),none⟩,⟨some 57,.mov (.tmp 7),none⟩,⟨some 58,.bin .add (.tmp 57) (.val (.int .i64 2)),none⟩,⟨some 59,.mov (.tmp 0),none⟩,⟨some 60,.convInt .i64 (.tmp 59),none⟩,⟨some 61,.bin .rem (.tmp 60) (.val (.int .i64 6)),none⟩,⟨some 62,.bin .add (.tmp 58) (.tmp 61),none⟩,⟨some 63,.bin .mul (.tmp 56) (.tmp 62),none⟩,⟨some 64,.makeSlice 5 [(.int .u8 0)] 1 (.tmp 63) (.tmp 63),none⟩,⟨some 65,.build [(.int .i64 0),(.int .i64 0),.nslice] [(0,1,(.tmp 49)),(1,1,(.tmp 55)),(2,1,(.tmp 64))],none⟩,⟨some 10,.new 29 [(.int .i64 0),(.int .i64 0),.nslice],none⟩,⟨none,.store 3 (.tmp 10) (.tmp 65),none⟩]) (.seq (.seq (.region [⟨some 66,.mov (.tmp 6),none⟩,⟨some 67,.lenS (.tmp 66),none⟩,⟨some 68,.mov (.val (.int .i64 0)),none⟩]) (.block 2 (.loop (.seq (.region [⟨some 69,.bin .lss (.tmp 68) (.tmp 67),none⟩]) (.seq (.cond (.tmp 69) .skip (.exit 2)) (.seq (.block 3 (.seq (.region [⟨some 70,.idxS 1 (.tmp 66) (.tmp 68),none⟩,⟨some 71,.load none (.tmp 70),none⟩,⟨some 12,.mov (.tmp 71),none⟩]) (.seq (.region [⟨some 72,.mov (.tmp 5),none⟩,⟨some 73,.mov (.val (.int .i64 0)),none⟩]) (.block 4 (.loop (.seq (.region [⟨some 74,.bin .lss (.tmp 73) (.tmp 72),none⟩]) (.seq (.cond (.tmp 74) .skip (.exit 4)) (.seq (.block 5 (.seq (.region [⟨some 75,.mov (.tmp 73),none⟩,⟨some 13,.mov (.tmp 75),none⟩]) (.region [⟨some 76,.fieldAddr 2 (.tmp 10),none⟩,⟨some 77,.load none (.tmp 76),none⟩,⟨some 78,.mov (.tmp 12),none⟩,⟨some 79,.mov (.tmp 5),none⟩,⟨some 80,.bin .mul (.tmp 78) (.tmp 79),none⟩,⟨some 81,.mov (.tmp 13),none⟩,⟨some 82,.bin .add (.tmp 80) (.tmp 81),none⟩,⟨some 83,.idxS 1 (.tmp 77) (.tmp 82),none⟩,⟨none,.store 1 (.tmp 83) (.val (.int .u8 1)),none⟩]))) (.region [⟨some 84,.bin .add (.tmp 73) (.val (.int .i64 1)),none⟩,⟨some 73,.mov (.tmp 84),none⟩]))))))))) (.region [⟨some 85,.bin .add (.tmp 68) (.val (.int .i64 1)),none⟩,⟨some 68,.mov (.tmp 85),none⟩]))))))) (.seq (.region [⟨some 86,.load (some 3) (.tmp 10),none⟩,⟨none,.store 3 (.tmp 4) (.tmp 86),none⟩]) .ret))))))))),[.cell 4 (some 3)]⟩
def c15 : RFunc := ⟨77,.code (.seq (.region [⟨some 2,.box 29 (.tmp 0),none⟩,⟨some 4,.new 29 [(.int .i64 0),(.int .i64 0),.nslice],none⟩,⟨some 5,.mov (.val (.int .i64 0)),none⟩]) (.seq (.seq (.region [⟨some 13,.load (some 3) (.tmp 2),none⟩,⟨some 14,.mov (.tmp 1),none⟩,⟨some 15,.call (.val (.func (.func 32) [] [])) [.tmp 13,.tmp 14],none⟩,⟨some 6,.mov (.tmp 15),none⟩]) (.seq (.region [⟨some 16,.mov (.tmp 6),none⟩,⟨some 17,.bin .neq (.tmp 16) (.val (.int .i64 0)),none⟩]) (.cond (.tmp 17) (.seq (.region [⟨some 18,.build [(.int .i64 0),(.int .i64 0),.nslice] [],none⟩,⟨some 19,.mov (.tmp 6),none⟩,⟨none,.store 3 (.tmp 4) (.tmp 18),none⟩,⟨some 5,.mov (.tmp 19),none⟩]) .ret) .skip))) (.seq (.region [⟨some 21,.fieldAddr 0 (.tmp 2),none⟩,⟨some 22,.load none (.tmp 21),none⟩,⟨some 23,.mov (.tmp 1),none⟩,⟨some 24,.call (.val (.func (.func 33) [] [])) [.tmp 22,.tmp 23],none⟩,⟨some 20,.mov (.tmp 24),none⟩,⟨some 25,.extract (.tmp 20) 0,none⟩,⟨some 26,.extract (.tmp 20) 1,none⟩,⟨some 7,.new 68 z640,none⟩,⟨none,.store 640 (.tmp 7) (.tmp 25),none⟩,⟨some 8,.mov (.tmp 26),none⟩]) (.seq (.region [⟨some 28,.fieldAddr 0 (.tmp 2),none⟩,⟨some 29,.load none (.tmp 28),none⟩,⟨some 30,.fieldAddr 1 (.tmp 2),none⟩,⟨some 31,.load none (.tmp 30),none⟩,⟨some 32,.mov (.tmp 8),none⟩,⟨some 33,.bin .add (.tmp 31) (.tmp 32),none⟩,⟨some 34,.call (.val (.func (.func 34) [] [])) [.tmp 29,.tmp 33],none⟩,⟨some 27,.mov (.tmp 34),none⟩,⟨some 35,.extract (.tmp 27) 0,none⟩,⟨some 36,.extract (.tmp 27) 1,none⟩,⟨some 9,.new 29 [(.int .i64 0),(.int .i64 0),.nslice],none⟩,⟨none,.store 3 (.tmp 9) (.tmp 35),none⟩,⟨some 10,.mov (.tmp 36),none⟩]) (.seq (.seq (.region [⟨some 37,.mov (.tmp 10),none⟩,⟨some 38,.bin .neq (.tmp 37) (.val (.int .i64 0)),none⟩]) (.cond (.tmp 38) (.seq (.region [⟨some 39,.build [(.int .i64 0),(.int .i64 0),.nslice] [],none⟩,⟨some 40,.mov (.tmp 10),none⟩,⟨none,.store 3 (.tmp 4) (.tmp 39),none⟩,⟨some 5,.mov (.tmp 40),none⟩]) .ret) .skip)) (.seq (.seq (.region [⟨some 41,.fieldAddr 1 (.tmp 2),none⟩,⟨some 42,.load none (.tmp 41),none⟩,⟨some 43,.mov (.val (.int .i64 0)),none⟩]) (.block 0 (.loop (.seq (.region [⟨some 44,.bin .lss (.tmp 43) (.tmp 42),none⟩]) (.seq (.cond (.tmp 44) .skip (.exit 0)) (.seq (.block 1 (.seq (.region [⟨some 45,.mov (.tmp 43),none⟩,⟨some 11,.mov (.tmp 45),none⟩]) (.seq (.region [⟨some 46,.fieldAddr 0 (.tmp 2),none⟩,⟨some 47,.load none (.tmp 46),none⟩,⟨some 48,.mov (.val (.int .i64 0)),none⟩]) (.block 2 (.loop (.seq (.region [⟨some 49,.bin .lss (.tmp 48) (.tmp 47),none⟩]) (.seq (.cond (.tmp 49) .skip (.exit 2)) (.seq (.block 3 (.seq (.region [⟨some 50,.mov (.tmp 48),none⟩,⟨some 12,.mov (.tmp 50),none⟩]) (.dregion [⟨⟨some 51,.fieldAddr 2 (.tmp 9),none⟩,0,0,true⟩,⟨⟨some 52,.load none (.tmp 51),none⟩,1,1,true⟩,⟨⟨some 53,.mov (.tmp 11),none⟩,0,0,true⟩,⟨⟨some 54,.mov (.tmp 12),none⟩,0,0,true⟩,⟨⟨some 55,.idxA 640 1 (.tmp 7) (.tmp 54),none⟩,8,0,true⟩,⟨⟨some 56,.load none (.tmp 55),none⟩,24,1,true⟩,⟨⟨some 57,.bin .add (.tmp 53) (.tmp 56),none⟩,60,0,true⟩,⟨⟨some 58,.fieldAddr 0 (.tmp 9),none⟩,0,0,true⟩,⟨⟨some 59,.load none (.tmp 58),none⟩,128,1,true⟩,⟨⟨some 60,.bin .mul (.tmp 57) (.tmp 59),none⟩,508,0,true⟩,⟨⟨some 61,.mov (.tmp 12),none⟩,0,0,true⟩,⟨⟨some 62,.bin .add (.tmp 60) (.tmp 61),none⟩,2044,0,true⟩,⟨⟨some 63,.fieldAddr 2 (.tmp 2),none⟩,0,0,true⟩,⟨⟨some 64,.load none (.tmp 63),none⟩,4096,1,true⟩,⟨⟨some 65,.mov (.tmp 11),none⟩,0,0,true⟩,⟨⟨some 66,.fieldAddr 0 (.tmp 2),none⟩,0,0,true⟩,⟨⟨some 67,.load none (.tmp 66),none⟩,32768,1,true⟩,⟨⟨some 68,.bin .mul (.tmp 65) (.tmp 67),none⟩,114688,0,true⟩,⟨⟨some 69,.mov (.tmp 12),none⟩,0,0,true⟩,⟨⟨some 70,.bin .add (.tmp 68) (.tmp 69),none⟩,507904,0,true⟩,⟨⟨some 71,.idxS 1 (.tmp 64) (.tmp 70),none⟩,1044480,0,true⟩,⟨⟨some 72,.load none (.tmp 71),none⟩,2093056,1,true⟩,⟨⟨some 73,.idxS 1 (.tmp 52) (.tmp 62),none⟩,4194303,0,true⟩,⟨⟨none,.store 1 (.tmp 73) (.tmp 72),none⟩,8388607,2,false⟩]))) (.region [⟨some 74,.bin .add (.tmp 48) (.val (.int .i64 1)),none⟩,⟨some 48,.mov (.tmp 74),none⟩]))))))))) (.region [⟨some 75,.bin .add (.tmp 43) (.val (.int .i64 1)),none⟩,⟨some 43,.mov (.tmp 75),none⟩]))))))) (.seq (.region [⟨some 76,.load (some 3) (.tmp 9),none⟩,⟨none,.store 3 (.tmp 4) (.tmp 76),none⟩,⟨some 5,.mov (.val (.int .i64 0)),none⟩]) .ret))))))),[.cell 4 (some 3),.tmp 5]⟩
def c16 : RFunc := ⟨90,.code (.seq (.region [⟨some 2,.box 29 (.tmp 0),none⟩,⟨some 4,.new 29 [(.int .i64 0),(.int .i64 0),.nslice],none⟩]) (.seq (.region [⟨some 13,.load (some 3) (.tmp 2),none⟩,⟨some 14,.call (.val (.func (.func 35) [] [])) [.tmp 13],none⟩,⟨some 5,.new 29 [(.int .i64 0),(.int .i64 0),.nslice],none⟩,⟨none,.store 3 (.tmp 5) (.tmp 14),none⟩]) (.seq (.seq (.region [⟨some 15,.mov (.tmp 1),none⟩,⟨some 16,.mov (.tmp 1),none⟩,⟨some 17,.lenS (.tmp 16),none⟩,⟨some 18,.minmax false [.tmp 17,(.val (.int .i64 40))],none⟩,⟨some 19,.sliceS 1 (.tmp 15) none (some (.tmp 18)) none,none⟩,⟨some 20,.lenS (.tmp 19),none⟩,⟨some 21,.mov (.val (.int .i64 0)),none⟩]) (.block 0 (.loop (.seq (.region [⟨some 22,.bin .lss (.tmp 21) (.tmp 20),none⟩]) (.seq (.cond (.tmp 22) .skip (.exit 0)) (.seq (.block 1 (.seq (.region [⟨some 23,.idxS 1 (.tmp 19) (.tmp 21),none⟩,⟨some 24,.load none (.tmp 23),none⟩,⟨some 7,.mov (.tmp 24),none⟩]) (.seq (.dregion [⟨⟨some 25,.mov (.tmp 7),none⟩,0,0,true⟩,⟨⟨some 26,.convInt .i64 (.tmp 25),none⟩,1,0,true⟩,⟨⟨some 27,.fieldAddr 0 (.tmp 2),none⟩,0,0,true⟩,⟨⟨some 28,.load none (.tmp 27),none⟩,4,1,true⟩,⟨⟨some 29,.bin .rem (.tmp 26) (.tmp 28),none⟩,15,0,true⟩,⟨⟨some 30,.mov (.tmp 7),none⟩,0,0,true⟩,⟨⟨some 31,.convInt .i64 (.tmp 30),none⟩,32,0,true⟩,⟨⟨some 32,.fieldAddr 0 (.tmp 2),none⟩,0,0,true⟩,⟨⟨some 33,.load none (.tmp 32),none⟩,128,1,true⟩,⟨⟨some 34,.bin .quo (.tmp 31) (.tmp 33),none⟩,480,0,true⟩,⟨⟨some 35,.fieldAddr 1 (.tmp 2),none⟩,0,0,true⟩,⟨⟨some 36,.load none (.tmp 35),none⟩,1024,1,true⟩,⟨⟨some 37,.bin .rem (.tmp 34) (.tmp 36),none⟩,4064,0,true⟩,⟨⟨some 8,.mov (.tmp 29),none⟩,31,0,true⟩,⟨⟨some 9,.mov (.tmp 37),none⟩,16383,0,true⟩]) (.seq (.region [⟨some 10,.mov (.val (.bool true)),none⟩]) (.seq (.seq (.region [⟨some 38,.mov (.tmp 9),none⟩,⟨some 39,.bin .sub (.tmp 38) (.val (.int .i64 1)),none⟩,⟨some 40,.minmax true [.tmp 39,(.val (.int .i64 0))],none⟩,⟨some 11,.mov (.tmp 40),none⟩]) (.block 2 (.loop (.seq (.seq (.region [⟨some 41,.mov (.tmp 11),none⟩,⟨some 42,.mov (.tmp 9),none⟩,⟨some 43,.bin .add (.tmp 42) (.val (.int .i64 1)),none⟩,⟨some 44,.fieldAddr 1 (.tmp 2),none⟩,⟨some 45,.load none (.tmp 44),none⟩,⟨some 46,.bin .sub (.tmp 45) (.val (.int .i64 1)),none⟩,⟨some 47,.minmax false [.tmp 43,.tmp 46],none⟩,⟨some 48,.bin .leq (.tmp 41) (.tmp 47),none⟩]) (.cond (.tmp 48) .skip (.exit 2))) (.seq (.block 3 (.seq (.region [⟨some 51,.mov (.tmp 8),none⟩,⟨some 52,.bin .sub (.tmp 51) (.val (.int .i64 1)),none⟩,⟨some 53,.minmax true [.tmp 52,(.val (.int .i64 0))],none⟩,⟨some 12,.mov (.tmp 53),none⟩]) (.block 4 (.loop (.seq (.seq (.region [⟨some 54,.mov (.tmp 12),none⟩,⟨some 55,.mov (.tmp 8),none⟩,⟨some 56,.bin .add (.tmp 55) (.val (.int .i64 1)),none⟩,⟨some 57,.fieldAddr 0 (.tmp 2),none⟩,⟨some 58,.load none (.tmp 57),none⟩,⟨some 59,.bin .sub (.tmp 58) (.val (.int .i64 1)),none⟩,⟨some 60,.minmax false [.tmp 56,.tmp 59],none⟩,⟨some 61,.bin .leq (.tmp 54) (.tmp 60),none⟩]) (.cond (.tmp 61) .skip (.exit 4))) (.seq (.block 5 (.region [⟨some 64,.mov (.tmp 10),none⟩,⟨some 65,.mov (.tmp 64),none⟩,⟨some 66,.fieldAddr 2 (.tmp 5),some (65,true)⟩,⟨some 67,.load none (.tmp 66),some (65,true)⟩,⟨some 68,.mov (.tmp 11),some (65,true)⟩,⟨some 69,.fieldAddr 0 (.tmp 2),some (65,true)⟩,⟨some 70,.load none (.tmp 69),some (65,true)⟩,⟨some 71,.bin .mul (.tmp 68) (.tmp 70),some (65,true)⟩,⟨some 72,.mov (.tmp 12),some (65,true)⟩,⟨some 73,.bin .add (.tmp 71) (.tmp 72),some (65,true)⟩,⟨some 74,.idxS 1 (.tmp 67) (.tmp 73),some (65,true)⟩,⟨some 75,.load none (.tmp 74),some (65,true)⟩,⟨some 76,.bin .eql (.tmp 75) (.val (.int .u8 0)),some (65,true)⟩,⟨some 77,.pick (.tmp 65) (.tmp 76) (.val (.bool false)),none⟩,⟨some 10,.mov (.tmp 77),none⟩])) (.region [⟨some 62,.mov (.tmp 12),none⟩,⟨some 63,.bin .add (.tmp 62) (.val (.int .i64 1)),none⟩,⟨some 12,.mov (.tmp 63),none⟩]))))))) (.region [⟨some 49,.mov (.tmp 11),none⟩,⟨some 50,.bin .add (.tmp 49) (.val (.int .i64 1)),none⟩,⟨some 11,.mov (.tmp 50),none⟩])))))) (.seq (.region [⟨some 78,.mov (.tmp 10),none⟩]) (.cond (.tmp 78) (.region [⟨some 79,.fieldAddr 2 (.tmp 5),none⟩,⟨some 80,.load none (.tmp 79),none⟩,⟨some 81,.mov (.tmp 9),none⟩,⟨some 82,.fieldAddr 0 (.tmp 2),none⟩,⟨some 83,.load none (.tmp 82),none⟩,⟨some 84,.bin .mul (.tmp 81) (.tmp 83),none⟩,⟨some 85,.mov (.tmp 8),none⟩,⟨some 86,.bin .add (.tmp 84) (.tmp 85),none⟩,⟨some 87,.idxS 1 (.tmp 80) (.tmp 86),none⟩,⟨none,.store 1 (.tmp 87) (.val (.int .u8 1)),none⟩]) .skip))))))) (.region [⟨some 88,.bin .add (.tmp 21) (.val (.int .i64 1)),none⟩,⟨some 21,.mov (.tmp 88),none⟩]))))))) (.seq (.region [⟨some 89,.load (some 3) (.tmp 5),none⟩,⟨none,.store 3 (.tmp 4) (.tmp 89),none⟩]) .ret)))),[.cell 4 (some 3)]⟩
def c17 : RFunc := ⟨52,.code (.seq (.region [⟨some 2,.box 29 (.tmp 0),none⟩,⟨some 4,.new 24 [(.int .i64 0),(.int .i64 0),.nslice],none⟩]) (.seq (.dregion [⟨⟨some 9,.fieldAddr 0 (.tmp 2),none⟩,0,0,true⟩,⟨⟨some 10,.load none (.tmp 9),none⟩,1,1,true⟩,⟨⟨some 11,.fieldAddr 1 (.tmp 2),none⟩,0,0,true⟩,⟨⟨some 12,.load none (.tmp 11),none⟩,4,1,true⟩,⟨⟨some 13,.fieldAddr 2 (.tmp 2),none⟩,0,0,true⟩,⟨⟨some 14,.load none (.tmp 13),none⟩,16,1,true⟩,⟨⟨some 15,.lenS (.tmp 14),none⟩,48,0,true⟩,⟨⟨some 16,.makeSlice 5 [(.int .u8 0)] 1 (.tmp 15) (.tmp 15),none⟩,112,3,true⟩,⟨⟨some 17,.build [(.int .i64 0),(.int .i64 0),.nslice] [(0,1,(.tmp 10)),(1,1,(.tmp 12)),(2,1,(.tmp 16))],none⟩,255,0,true⟩,⟨⟨some 5,.new 24 [(.int .i64 0),(.int .i64 0),.nslice],none⟩,0,3,true⟩,⟨⟨none,.store 3 (.tmp 5) (.tmp 17),none⟩,1023,2,false⟩]) (.seq (.seq (.region [⟨some 18,.fieldAddr 2 (.tmp 2),none⟩,⟨some 19,.load none (.tmp 18),none⟩,⟨some 20,.lenS (.tmp 19),none⟩,⟨some 21,.mov (.val (.int .i64 0)),none⟩]) (.block 0 (.loop (.seq (.region [⟨some 22,.bin .lss (.tmp 21) (.tmp 20),none⟩]) (.seq (.cond (.tmp 22) .skip (.exit 0)) (.seq (.block 1 (.seq (.region [⟨some 23,.mov (.tmp 21),none⟩,⟨some 24,.idxS 1 (.tmp 19) (.tmp 21),none⟩,⟨some 25,.load none (.tmp 24),none⟩,⟨some 6,.mov (.tmp 23),none⟩,⟨some 7,.mov (.tmp 25),none⟩]) (.seq (.region [⟨some 8,.mov (.val (.int .u8 0)),none⟩]) (.seq (.seq (.region [⟨some 26,.mov (.tmp 1),none⟩,⟨some 27,.lenS (.tmp 26),none⟩,⟨some 28,.bin .gtr (.tmp 27) (.val (.int .i64 0)),none⟩]) (.cond (.tmp 28) (.region [⟨some 29,.mov (.tmp 1),none⟩,⟨some 30,.mov (.tmp 6),none⟩,⟨some 31,.mov (.tmp 1),none⟩,⟨some 32,.lenS (.tmp 31),none⟩,⟨some 33,.bin .rem (.tmp 30) (.tmp 32),none⟩,⟨some 34,.idxS 1 (.tmp 29) (.tmp 33),none⟩,⟨some 35,.load none (.tmp 34),none⟩,⟨some 36,.bin .rem (.tmp 35) (.val (.int .u8 61)),none⟩,⟨some 8,.mov (.tmp 36),none⟩]) .skip)) (.seq (.region [⟨some 37,.fieldAddr 2 (.tmp 5),none⟩,⟨some 38,.load none (.tmp 37),none⟩,⟨some 39,.mov (.tmp 6),none⟩,⟨some 40,.mov (.tmp 8),none⟩,⟨some 41,.idxS 1 (.tmp 38) (.tmp 39),none⟩,⟨none,.store 1 (.tmp 41) (.tmp 40),none⟩]) (.seq (.region [⟨some 42,.mov (.tmp 7),none⟩,⟨some 43,.bin .eql (.tmp 42) (.val (.int .u8 0)),none⟩]) (.cond (.tmp 43) (.region [⟨some 44,.fieldAddr 2 (.tmp 5),none⟩,⟨some 45,.load none (.tmp 44),none⟩,⟨some 46,.mov (.tmp 6),none⟩,⟨some 47,.mov (.tmp 8),none⟩,⟨some 48,.bin .add (.val (.int .u8 195)) (.tmp 47),none⟩,⟨some 49,.idxS 1 (.tmp 45) (.tmp 46),none⟩,⟨none,.store 1 (.tmp 49) (.tmp 48),none⟩]) .skip))))))) (.region [⟨some 50,.bin .add (.tmp 21) (.val (.int .i64 1)),none⟩,⟨some 21,.mov (.tmp 50),none⟩]))))))) (.seq (.region [⟨some 51,.load (some 3) (.tmp 5),none⟩,⟨none,.store 3 (.tmp 4) (.tmp 51),none⟩]) .ret)))),[.cell 4 (some 3)]⟩
def c18 : RFunc := ⟨50,.code (.seq (.region [⟨some 1,.box 24 (.tmp 0),none⟩,⟨some 2,.mov (.val (.int .i64 0)),none⟩,⟨some 3,.mov (.val (.int .i64 0)),none⟩]) (.seq (.region [⟨some 13,.load (some 3) (.tmp 1),none⟩,⟨some 14,.call (.val (.func (.func 36) [] [])) [.tmp 13],none⟩,⟨some 12,.mov (.tmp 14),none⟩,⟨some 15,.extract (.tmp 12) 0,none⟩,⟨some 16,.extract (.tmp 12) 1,none⟩,⟨some 4,.mov (.tmp 15),none⟩,⟨some 5,.mov (.tmp 16),none⟩]) (.seq (.seq (.region [⟨some 17,.mov (.tmp 5),none⟩,⟨some 18,.bin .neq (.tmp 17) (.val (.int .i64 0)),none⟩]) (.cond (.tmp 18) (.seq (.region [⟨some 19,.mov (.tmp 5),none⟩,⟨some 2,.mov (.val (.int .i64 0)),none⟩,⟨some 3,.mov (.tmp 19),none⟩]) .ret) .skip)) (.seq (.region [⟨some 6,.mov (.val (.int .i64 128)),none⟩,⟨some 7,.mov (.val (.int .i64 0)),none⟩,⟨some 8,.mov (.val (.int .i64 (-1))),none⟩]) (.seq (.seq (.region [⟨some 20,.mov (.tmp 4),none⟩,⟨some 21,.lenS (.tmp 20),none⟩,⟨some 22,.mov (.val (.int .i64 0)),none⟩]) (.block 0 (.loop (.seq (.region [⟨some 23,.bin .lss (.tmp 22) (.tmp 21),none⟩]) (.seq (.cond (.tmp 23) .skip (.exit 0)) (.seq (.block 1 (.seq (.region [⟨some 24,.mov (.tmp 22),none⟩,⟨some 25,.idxS 1 (.tmp 20) (.tmp 22),none⟩,⟨some 26,.load none (.tmp 25),none⟩,⟨some 9,.mov (.tmp 24),none⟩,⟨some 10,.mov (.tmp 26),none⟩]) (.seq (.seq (.region [⟨some 27,.mov (.tmp 10),none⟩,⟨some 28,.bin .eql (.tmp 27) (.val (.int .i64 0)),none⟩]) (.cond (.tmp 28) (.exit 1) .skip)) (.seq (.seq (.region [⟨some 29,.mov (.tmp 8),none⟩,⟨some 11,.mov (.tmp 29),none⟩]) (.seq (.region [⟨some 30,.mov (.tmp 11),none⟩,⟨some 31,.bin .geq (.tmp 30) (.val (.int .i64 0)),none⟩,⟨some 32,.mov (.tmp 31),none⟩,⟨some 33,.mov (.tmp 9),some (32,true)⟩,⟨some 34,.mov (.tmp 11),some (32,true)⟩,⟨some 35,.bin .sub (.tmp 33) (.tmp 34),some (32,true)⟩,⟨some 36,.mov (.tmp 7),some (32,true)⟩,⟨some 37,.bin .gtr (.tmp 35) (.tmp 36),some (32,true)⟩,⟨some 38,.pick (.tmp 32) (.tmp 37) (.val (.bool false)),none⟩]) (.cond (.tmp 38) (.region [⟨some 39,.mov (.tmp 11),none⟩,⟨some 40,.mov (.tmp 9),none⟩,⟨some 41,.bin .add (.tmp 39) (.tmp 40),none⟩,⟨some 42,.bin .add (.tmp 41) (.val (.int .i64 1)),none⟩,⟨some 43,.bin .quo (.tmp 42) (.val (.int .i64 2)),none⟩,⟨some 44,.mov (.tmp 9),none⟩,⟨some 45,.mov (.tmp 11),none⟩,⟨some 46,.bin .sub (.tmp 44) (.tmp 45),none⟩,⟨some 6,.mov (.tmp 43),none⟩,⟨some 7,.mov (.tmp 46),none⟩]) .skip))) (.region [⟨some 47,.mov (.tmp 9),none⟩,⟨some 8,.mov (.tmp 47),none⟩]))))) (.region [⟨some 48,.bin .add (.tmp 22) (.val (.int .i64 1)),none⟩,⟨some 22,.mov (.tmp 48),none⟩]))))))) (.seq (.region [⟨some 49,.mov (.tmp 6),none⟩,⟨some 2,.mov (.tmp 49),none⟩,⟨some 3,.mov (.val (.int .i64 0)),none⟩]) .ret)))))),[.tmp 2,.tmp 3]⟩
def c19 : RFunc := ⟨21,.code (.seq (.region [⟨some 2,.new 29 [(.int .i64 0),(.int .i64 0),.nslice],none⟩]) (.seq (.region [⟨some 5,.mov (.tmp 0),none⟩,⟨some 6,.mov (.tmp 0),none⟩,⟨some 7,.makeSlice 5 [(.int .u8 0)] 1 (.tmp 6) (.tmp 6),none⟩,⟨some 8,.build [(.int .i64 0),(.int .i64 0),.nslice] [(0,1,(.tmp 5)),(1,1,(.val (.int .i64 1))),(2,1,(.tmp 7))],none⟩,⟨some 3,.new 29 [(.int .i64 0),(.int .i64 0),.nslice],none⟩,⟨none,.store 3 (.tmp 3) (.tmp 8),none⟩]) (.seq (.seq (.region [⟨some 9,.fieldAddr 2 (.tmp 3),none⟩,⟨some 10,.load none (.tmp 9),none⟩,⟨some 11,.lenS (.tmp 10),none⟩,⟨some 12,.mov (.val (.int .i64 0)),none⟩]) (.block 0 (.loop (.seq (.region [⟨some 13,.bin .lss (.tmp 12) (.tmp 11),none⟩]) (.seq (.cond (.tmp 13) .skip (.exit 0)) (.seq (.block 1 (.seq (.region [⟨some 14,.mov (.tmp 12),none⟩,⟨some 4,.mov (.tmp 14),none⟩]) (.region [⟨some 15,.fieldAddr 2 (.tmp 3),none⟩,⟨some 16,.load none (.tmp 15),none⟩,⟨some 17,.mov (.tmp 4),none⟩,⟨some 18,.idxS 1 (.tmp 16) (.tmp 17),none⟩,⟨none,.store 1 (.tmp 18) (.val (.int .u8 1)),none⟩]))) (.region [⟨some 19,.bin .add (.tmp 12) (.val (.int .i64 1)),none⟩,⟨some 12,.mov (.tmp 19),none⟩]))))))) (.seq (.region [⟨some 20,.load (some 3) (.tmp 3),none⟩,⟨none,.store 3 (.tmp 2) (.tmp 20),none⟩]) .ret)))),[.cell 2 (some 3)]⟩
def c20 : RFunc := ⟨32,.ranges (.seq (.region [⟨some 1,.box 29 (.tmp 0),none⟩,⟨some 2,.mov (.val (.int .i64 0)),none⟩,⟨some 3,.mov (.val (.int .i64 0)),none⟩]) (.seq (.seq (.region [⟨some 10,.load (some 3) (.tmp 1),none⟩,⟨some 11,.call (.val (.func (.func 37) [] [])) [.tmp 10],none⟩,⟨some 4,.mov (.tmp 11),none⟩]) (.seq (.region [⟨some 12,.mov (.tmp 4),none⟩,⟨some 13,.bin .neq (.tmp 12) (.val (.int .i64 0)),none⟩]) (.cond (.tmp 13) (.seq (.region [⟨some 14,.mov (.tmp 4),none⟩,⟨some 2,.mov (.val (.int .i64 0)),none⟩,⟨some 3,.mov (.tmp 14),none⟩]) .ret) .skip))) (.seq (.region [⟨some 5,.new 3 [(.int .i64 0)],none⟩,⟨some 6,.new 3 [(.int .i64 0)],none⟩,⟨none,.store 1 (.tmp 5) (.val (.int .i64 0)),none⟩,⟨none,.store 1 (.tmp 6) (.val (.int .i64 (-1))),none⟩]) (.seq (.block 0 (.rangeFunc [2,3,4,5,6,7,8,9,10,11,12,13,14,15,16,17,18,19,20,21,22,23,24,25,26,27,28,29,30,31,32,33,34,35,36,37,38,39,40,41,42,43,44,45,46,47,48,49,50,51,52,53,54,55,56,57,58,59,60,61,62,63,64,65,66,67,68,69,70,71,73,74,75,76,77,78,79,80,81,83,84,85,86,88,89,109] 32 (.val (.func (.func 38) [] [])) [15] (.region [⟨some 7,.mov (.tmp 15),none⟩]) (.block 1 (.seq (.region [⟨some 17,.load (some 3) (.tmp 1),none⟩,⟨some 18,.mov (.tmp 7),none⟩,⟨some 19,.call (.val (.func (.func 39) [] [])) [.tmp 17,.tmp 18],none⟩,⟨some 16,.mov (.tmp 19),none⟩,⟨some 20,.extract (.tmp 16) 0,none⟩,⟨some 21,.extract (.tmp 16) 1,none⟩,⟨some 8,.mov (.tmp 20),none⟩,⟨some 9,.mov (.tmp 21),none⟩]) (.seq (.region [⟨some 22,.mov (.tmp 9),none⟩,⟨some 23,.bin .eql (.tmp 22) (.val (.int .i64 0)),none⟩,⟨some 24,.mov (.tmp 23),none⟩,⟨some 25,.mov (.tmp 8),some (24,true)⟩,⟨some 26,.load none (.tmp 6),some (24,true)⟩,⟨some 27,.bin .gtr (.tmp 25) (.tmp 26),some (24,true)⟩,⟨some 28,.pick (.tmp 24) (.tmp 27) (.val (.bool false)),none⟩]) (.cond (.tmp 28) (.region [⟨some 29,.mov (.tmp 7),none⟩,⟨some 30,.mov (.tmp 8),none⟩,⟨none,.store 1 (.tmp 5) (.tmp 29),none⟩,⟨none,.store 1 (.tmp 6) (.tmp 30),none⟩]) .skip)))))) (.seq (.region [⟨some 31,.load none (.tmp 5),none⟩,⟨some 2,.mov (.tmp 31),none⟩,⟨some 3,.mov (.val (.int .i64 0)),none⟩]) .ret))))),[.tmp 2,.tmp 3]⟩
def c21 : RFunc := ⟨7,.code (.seq (.region [⟨some 2,.mov (.val .nslice),none⟩]) (.seq (.region [⟨some 3,.mov (.val .nslice),none⟩]) (.seq (.region [⟨some 4,.mov (.tmp 3),none⟩,⟨some 5,.mov (.tmp 0),none⟩,⟨some 6,.append 5 1 1 (.tmp 4) (.tmp 5),none⟩,⟨some 2,.mov (.tmp 6),none⟩]) .ret))),[.tmp 2]⟩
def c22 : RFunc := ⟨12,.code (.seq (.region [⟨some 1,.box 24 (.tmp 0),none⟩,⟨some 2,.mov (.val (.int .i64 0)),none⟩]) (.seq (.seq (.region [⟨some 3,.fieldAddr 0 (.tmp 1),none⟩,⟨some 4,.load none (.tmp 3),none⟩,⟨some 5,.fieldAddr 1 (.tmp 1),none⟩,⟨some 6,.load none (.tmp 5),none⟩,⟨some 7,.fieldAddr 2 (.tmp 1),none⟩,⟨some 8,.load none (.tmp 7),none⟩,⟨some 9,.lenS (.tmp 8),none⟩,⟨some 10,.call (.val (.func (.func 40) [] [])) [.tmp 4,.tmp 6,.tmp 9],none⟩,⟨some 11,.un .not (.tmp 10),none⟩]) (.cond (.tmp 11) (.seq (.region [⟨some 2,.mov (.val (.int .i64 2)),none⟩]) .ret) .skip)) (.seq (.region [⟨some 2,.mov (.val (.int .i64 0)),none⟩]) .ret))),[.tmp 2]⟩
def c23 : RFunc := ⟨21,.code (.seq (.region [⟨some 1,.box 26 (.tmp 0),none⟩,⟨some 2,.mov (.val (.bool false)),none⟩]) (.seq (.region [⟨some 3,.fieldAddr 0 (.tmp 1),none⟩,⟨some 4,.load none (.tmp 3),none⟩,⟨some 5,.bin .geq (.tmp 4) (.val (.int .i64 0)),none⟩,⟨some 6,.mov (.tmp 5),none⟩,⟨some 7,.fieldAddr 0 (.tmp 1),some (6,true)⟩,⟨some 8,.load none (.tmp 7),some (6,true)⟩,⟨some 9,.bin .leq (.tmp 8) (.val (.int .i64 256)),some (6,true)⟩,⟨some 10,.pick (.tmp 6) (.tmp 9) (.val (.bool false)),none⟩,⟨some 11,.mov (.tmp 10),none⟩,⟨some 12,.fieldAddr 1 (.tmp 1),some (11,true)⟩,⟨some 13,.load none (.tmp 12),some (11,true)⟩,⟨some 14,.call (.val (.func (.func 41) [] [])) [.tmp 13],some (11,true)⟩,⟨some 15,.pick (.tmp 11) (.tmp 14) (.val (.bool false)),none⟩,⟨some 16,.mov (.tmp 15),none⟩,⟨some 17,.fieldAddr 2 (.tmp 1),some (16,true)⟩,⟨some 18,.load none (.tmp 17),some (16,true)⟩,⟨some 19,.bin .geq (.tmp 18) (.val (.int .i64 0)),some (16,true)⟩,⟨some 20,.pick (.tmp 16) (.tmp 19) (.val (.bool false)),none⟩,⟨some 2,.mov (.tmp 20),none⟩]) .ret)),[.tmp 2]⟩
def c24 : RFunc := ⟨15,.code (.seq (.region [⟨some 2,.box 24 (.tmp 0),none⟩,⟨some 3,.box 55 (.tmp 1),none⟩,⟨some 4,.mov (.val .nslice),none⟩]) (.seq (.region [⟨some 5,.mkFunc (.func 42) [] [.tmp 2,.tmp 3],none⟩,⟨some 6,.mkFunc (.func 43) [] [.tmp 2,.tmp 3],none⟩,⟨some 7,.build [.nfunc,.nfunc] [(0,1,(.tmp 5)),(1,1,(.tmp 6))],none⟩,⟨some 8,.mkFunc (.func 45) [] [.tmp 3],none⟩,⟨some 9,.mkFunc (.func 46) [] [.tmp 3],none⟩,⟨some 10,.build [.nfunc,.nfunc] [(0,1,(.tmp 8)),(1,1,(.tmp 9))],none⟩,⟨some 11,.mkFunc (.func 48) [] [.tmp 3],none⟩,⟨some 12,.mkFunc (.func 49) [] [.tmp 3],none⟩,⟨some 13,.build [.nfunc,.nfunc] [(0,1,(.tmp 11)),(1,1,(.tmp 12))],none⟩,⟨some 14,.buildSlice 59 2 3 [.nfunc,.nfunc,.nfunc,.nfunc,.nfunc,.nfunc] [(0,2,(.tmp 7)),(2,2,(.tmp 10)),(4,2,(.tmp 13))],none⟩,⟨some 4,.mov (.tmp 14),none⟩]) .ret)),[.tmp 4]⟩
def c29 : RFunc := ⟨26,.code (.seq (.region [⟨some 4,.mov (.val (.bool false)),none⟩]) (.seq (.seq (.region [⟨some 6,.mov (.tmp 0),none⟩,⟨some 7,.lenS (.tmp 6),none⟩,⟨some 8,.mov (.tmp 1),none⟩,⟨some 9,.lenS (.tmp 8),none⟩,⟨some 10,.bin .neq (.tmp 7) (.tmp 9),none⟩]) (.cond (.tmp 10) (.seq (.region [⟨some 4,.mov (.val (.bool false)),none⟩]) .ret) .skip)) (.seq (.seq (.region [⟨some 5,.mov (.val (.int .i64 0)),none⟩]) (.block 0 (.loop (.seq (.seq (.region [⟨some 11,.mov (.tmp 5),none⟩,⟨some 12,.mov (.tmp 0),none⟩,⟨some 13,.lenS (.tmp 12),none⟩,⟨some 14,.bin .lss (.tmp 11) (.tmp 13),none⟩]) (.cond (.tmp 14) .skip (.exit 0))) (.seq (.block 1 (.seq (.dregion [⟨⟨some 17,.mov (.tmp 0),none⟩,0,0,true⟩,⟨⟨some 18,.mov (.tmp 5),none⟩,0,0,true⟩,⟨⟨some 19,.idxS 1 (.tmp 17) (.tmp 18),none⟩,3,0,true⟩,⟨⟨some 20,.load none (.tmp 19),none⟩,7,1,true⟩,⟨⟨some 21,.mov (.tmp 1),none⟩,0,0,true⟩,⟨⟨some 22,.mov (.tmp 5),none⟩,0,0,true⟩,⟨⟨some 23,.idxS 1 (.tmp 21) (.tmp 22),none⟩,48,0,true⟩,⟨⟨some 24,.load none (.tmp 23),none⟩,112,1,true⟩,⟨⟨some 25,.bin .neq (.tmp 20) (.tmp 24),none⟩,255,0,true⟩]) (.cond (.tmp 25) (.seq (.region [⟨some 4,.mov (.val (.bool false)),none⟩]) .ret) .skip))) (.region [⟨some 15,.mov (.tmp 5),none⟩,⟨some 16,.bin .add (.tmp 15) (.val (.int .i64 1)),none⟩,⟨some 5,.mov (.tmp 16),none⟩])))))) (.seq (.region [⟨some 4,.mov (.val (.bool true)),none⟩]) .ret)))),[.tmp 4]⟩
def c32 : RFunc := ⟨14,.code (.seq (.region [⟨some 2,.box 29 (.tmp 0),none⟩,⟨some 4,.mov (.val (.int .i64 0)),none⟩]) (.seq (.seq (.region [⟨some 6,.load (some 3) (.tmp 2),none⟩,⟨some 7,.call (.val (.func (.func 37) [] [])) [.tmp 6],none⟩,⟨some 5,.mov (.tmp 7),none⟩]) (.seq (.region [⟨some 8,.mov (.tmp 5),none⟩,⟨some 9,.bin .neq (.tmp 8) (.val (.int .i64 0)),none⟩]) (.cond (.tmp 9) (.seq (.region [⟨some 10,.mov (.tmp 5),none⟩,⟨some 4,.mov (.tmp 10),none⟩]) .ret) .skip))) (.seq (.seq (.region [⟨some 11,.mov (.tmp 1),none⟩,⟨some 12,.call (.val (.func (.func 41) [] [])) [.tmp 11],none⟩,⟨some 13,.un .not (.tmp 12),none⟩]) (.cond (.tmp 13) (.seq (.region [⟨some 4,.mov (.val (.int .i64 1)),none⟩]) .ret) .skip)) (.seq (.region [⟨some 4,.mov (.val (.int .i64 0)),none⟩]) .ret)))),[.tmp 4]⟩
def c33 : RFunc := ⟨21,.code (.seq (.region [⟨some 4,.new 68 z640,none⟩,⟨some 5,.mov (.val (.int .i64 0)),none⟩]) (.seq (.seq (.region [⟨some 7,.mov (.tmp 0),none⟩,⟨some 8,.mov (.val (.int .i64 0)),none⟩]) (.block 0 (.loop (.seq (.region [⟨some 9,.bin .lss (.tmp 8) (.tmp 7),none⟩]) (.seq (.cond (.tmp 9) .skip (.exit 0)) (.seq (.block 1 (.seq (.region [⟨some 10,.mov (.tmp 8),none⟩,⟨some 6,.mov (.tmp 10),none⟩]) (.region [⟨some 11,.mov (.tmp 6),none⟩,⟨some 12,.mov (.tmp 0),none⟩,⟨some 13,.mov (.tmp 1),none⟩,⟨some 14,.mov (.tmp 6),none⟩,⟨some 15,.call (.val (.func (.func 60) [] [])) [.tmp 12,.tmp 13,.tmp 14],none⟩,⟨some 16,.idxA 640 1 (.tmp 4) (.tmp 11),none⟩,⟨none,.store 1 (.tmp 16) (.tmp 15),none⟩]))) (.region [⟨some 17,.bin .add (.tmp 8) (.val (.int .i64 1)),none⟩,⟨some 8,.mov (.tmp 17),none⟩]))))))) (.seq (.dregion [⟨⟨some 18,.load (some 640) (.tmp 4),none⟩,0,1,true⟩,⟨⟨some 19,.sliceArr 640 1 (.tmp 4) none none none,none⟩,0,0,true⟩,⟨⟨some 20,.call (.val (.func (.func 61) [] [])) [.tmp 19],none⟩,2,2,false⟩,⟨⟨none,.store 640 (.tmp 4) (.tmp 18),none⟩,7,2,false⟩,⟨⟨some 5,.mov (.tmp 20),none⟩,15,0,false⟩]) .ret))),[.cell 4 (some 640),.tmp 5]⟩
def c34 : RFunc := ⟨18,.code (.seq (.region [⟨some 4,.new 29 [(.int .i64 0),(.int .i64 0),.nslice],none⟩,⟨some 5,.mov (.val (.int .i64 0)),none⟩]) (.seq (.seq (.region [⟨some 6,.mov (.tmp 0),none⟩,⟨some 7,.call (.val (.func (.func 62) [] [])) [.tmp 6],none⟩,⟨some 8,.un .not (.tmp 7),none⟩,⟨some 9,.mov (.tmp 8),none⟩,⟨some 10,.mov (.tmp 1),some (9,false)⟩,⟨some 11,.call (.val (.func (.func 62) [] [])) [.tmp 10],some (9,false)⟩,⟨some 12,.un .not (.tmp 11),some (9,false)⟩,⟨some 13,.pick (.tmp 9) (.val (.bool true)) (.tmp 12),none⟩]) (.cond (.tmp 13) (.seq (.region [⟨some 14,.build [(.int .i64 0),(.int .i64 0),.nslice] [],none⟩,⟨none,.store 3 (.tmp 4) (.tmp 14),none⟩,⟨some 5,.mov (.val (.int .i64 2)),none⟩]) .ret) .skip)) (.seq (.region [⟨some 15,.mov (.tmp 0),none⟩,⟨some 16,.mov (.tmp 1),none⟩,⟨some 17,.call (.val (.func (.func 63) [] [])) [.tmp 15,.tmp 16],none⟩,⟨none,.store 3 (.tmp 4) (.tmp 17),none⟩,⟨some 5,.mov (.val (.int .i64 0)),none⟩]) .ret))),[.cell 4 (some 3),.tmp 5]⟩
def c35 : RFunc := ⟨11,.code (.seq (.region [⟨some 1,.box 29 (.tmp 0),none⟩,⟨some 2,.new 29 [(.int .i64 0),(.int .i64 0),.nslice],none⟩]) (.seq (.dregion [⟨⟨some 3,.fieldAddr 0 (.tmp 1),none⟩,0,0,true⟩,⟨⟨some 4,.load none (.tmp 3),none⟩,1,1,true⟩,⟨⟨some 5,.fieldAddr 1 (.tmp 1),none⟩,0,0,true⟩,⟨⟨some 6,.load none (.tmp 5),none⟩,4,1,true⟩,⟨⟨some 7,.fieldAddr 2 (.tmp 1),none⟩,0,0,true⟩,⟨⟨some 8,.load none (.tmp 7),none⟩,16,1,true⟩,⟨⟨some 9,.call (.val (.func (.func 21) [] [])) [.tmp 8],none⟩,48,2,false⟩,⟨⟨some 10,.build [(.int .i64 0),(.int .i64 0),.nslice] [(0,1,(.tmp 4)),(1,1,(.tmp 6)),(2,1,(.tmp 9))],none⟩,127,0,false⟩,⟨⟨none,.store 3 (.tmp 2) (.tmp 10),none⟩,255,2,false⟩]) .ret)),[.cell 2 (some 3)]⟩
def c36 : RFunc := ⟨29,.code (.seq (.region [⟨some 1,.box 24 (.tmp 0),none⟩,⟨some 2,.mov (.val .nslice),none⟩,⟨some 3,.mov (.val (.int .i64 0)),none⟩]) (.seq (.seq (.region [⟨some 8,.load (some 3) (.tmp 1),none⟩,⟨some 9,.call (.val (.func (.func 22) [] [])) [.tmp 8],none⟩,⟨some 4,.mov (.tmp 9),none⟩]) (.seq (.region [⟨some 10,.mov (.tmp 4),none⟩,⟨some 11,.bin .neq (.tmp 10) (.val (.int .i64 0)),none⟩]) (.cond (.tmp 11) (.seq (.region [⟨some 12,.mov (.tmp 4),none⟩,⟨some 2,.mov (.val .nslice),none⟩,⟨some 3,.mov (.tmp 12),none⟩]) .ret) .skip))) (.seq (.region [⟨some 13,.makeSlice 3 [(.int .i64 0)] 8 (.val (.int .i64 256)) (.val (.int .i64 256)),none⟩,⟨some 5,.mov (.tmp 13),none⟩]) (.seq (.seq (.region [⟨some 14,.fieldAddr 2 (.tmp 1),none⟩,⟨some 15,.load none (.tmp 14),none⟩,⟨some 16,.lenS (.tmp 15),none⟩,⟨some 17,.mov (.val (.int .i64 0)),none⟩]) (.block 0 (.loop (.seq (.region [⟨some 18,.bin .lss (.tmp 17) (.tmp 16),none⟩]) (.seq (.cond (.tmp 18) .skip (.exit 0)) (.seq (.block 1 (.seq (.region [⟨some 19,.idxS 1 (.tmp 15) (.tmp 17),none⟩,⟨some 20,.load none (.tmp 19),none⟩,⟨some 7,.mov (.tmp 20),none⟩]) (.region [⟨some 21,.mov (.tmp 5),none⟩,⟨some 22,.mov (.tmp 7),none⟩,⟨some 23,.idxS 1 (.tmp 21) (.tmp 22),none⟩,⟨some 24,.load none (.tmp 23),none⟩,⟨some 25,.bin .add (.tmp 24) (.val (.int .i64 1)),none⟩,⟨some 26,.idxS 1 (.tmp 21) (.tmp 22),none⟩,⟨none,.store 1 (.tmp 26) (.tmp 25),none⟩]))) (.region [⟨some 27,.bin .add (.tmp 17) (.val (.int .i64 1)),none⟩,⟨some 17,.mov (.tmp 27),none⟩]))))))) (.seq (.region [⟨some 28,.mov (.tmp 5),none⟩,⟨some 2,.mov (.tmp 28),none⟩,⟨some 3,.mov (.val (.int .i64 0)),none⟩]) .ret))))),[.tmp 2,.tmp 3]⟩
def c37 : RFunc := ⟨23,.code (.seq (.region [⟨some 1,.box 29 (.tmp 0),none⟩,⟨some 2,.mov (.val (.int .i64 0)),none⟩]) (.seq (.seq (.region [⟨some 3,.fieldAddr 0 (.tmp 1),none⟩,⟨some 4,.load none (.tmp 3),none⟩,⟨some 5,.fieldAddr 1 (.tmp 1),none⟩,⟨some 6,.load none (.tmp 5),none⟩,⟨some 7,.fieldAddr 2 (.tmp 1),none⟩,⟨some 8,.load none (.tmp 7),none⟩,⟨some 9,.lenS (.tmp 8),none⟩,⟨some 10,.call (.val (.func (.func 40) [] [])) [.tmp 4,.tmp 6,.tmp 9],none⟩,⟨some 11,.un .not (.tmp 10),none⟩]) (.cond (.tmp 11) (.seq (.region [⟨some 2,.mov (.val (.int .i64 2)),none⟩]) .ret) .skip)) (.seq (.seq (.dregion [⟨⟨some 12,.fieldAddr 2 (.tmp 1),none⟩,0,0,true⟩,⟨⟨some 13,.load none (.tmp 12),none⟩,1,1,true⟩,⟨⟨some 14,.buildSlice 5 1 1 [(.int .u8 0)] [(0,1,(.val (.int .u8 0)))],none⟩,0,3,true⟩,⟨⟨some 15,.call (.val (.func (.func 64) [] [])) [.tmp 13,.tmp 14],none⟩,7,2,false⟩,⟨⟨some 16,.load (some 3) (.tmp 1),none⟩,0,1,true⟩,⟨⟨some 17,.call (.val (.func (.func 65) [] [])) [.tmp 16],none⟩,31,2,false⟩,⟨⟨some 18,.bin .add (.tmp 15) (.tmp 17),none⟩,63,0,false⟩,⟨⟨some 19,.fieldAddr 2 (.tmp 1),none⟩,0,0,true⟩,⟨⟨some 20,.load none (.tmp 19),none⟩,128,1,true⟩,⟨⟨some 21,.lenS (.tmp 20),none⟩,384,0,true⟩,⟨⟨some 22,.bin .neq (.tmp 18) (.tmp 21),none⟩,1023,0,false⟩]) (.cond (.tmp 22) (.seq (.region [⟨some 2,.mov (.val (.int .i64 3)),none⟩]) .ret) .skip)) (.seq (.region [⟨some 2,.mov (.val (.int .i64 0)),none⟩]) .ret)))),[.tmp 2]⟩
def c38 : RFunc := ⟨21,.code (.seq (.seq (.region [⟨some 3,.mov (.tmp 0),none⟩,⟨some 4,.call (.tmp 3) [(.val (.int .i64 0))],none⟩,⟨some 5,.un .not (.tmp 4),none⟩]) (.cond (.tmp 5) .ret .skip)) (.seq (.region [⟨some 2,.mov (.val (.int .i64 1)),none⟩]) (.block 0 (.loop (.seq (.seq (.region [⟨some 6,.mov (.tmp 2),none⟩,⟨some 7,.bin .leq (.tmp 6) (.val (.int .i64 3)),none⟩]) (.cond (.tmp 7) .skip (.exit 0))) (.seq (.block 1 (.seq (.region [⟨some 10,.mov (.tmp 0),none⟩,⟨some 11,.mov (.tmp 2),none⟩,⟨some 12,.call (.tmp 10) [.tmp 11],none⟩,⟨some 13,.un .not (.tmp 12),none⟩,⟨some 14,.mov (.tmp 13),none⟩,⟨some 15,.mov (.tmp 0),some (14,false)⟩,⟨some 16,.mov (.tmp 2),some (14,false)⟩,⟨some 17,.un .neg (.tmp 16),some (14,false)⟩,⟨some 18,.call (.tmp 15) [.tmp 17],some (14,false)⟩,⟨some 19,.un .not (.tmp 18),some (14,false)⟩,⟨some 20,.pick (.tmp 14) (.val (.bool true)) (.tmp 19),none⟩]) (.cond (.tmp 20) .ret .skip))) (.region [⟨some 8,.mov (.tmp 2),none⟩,⟨some 9,.bin .add (.tmp 8) (.val (.int .i64 1)),none⟩,⟨some 2,.mov (.tmp 9),none⟩]))))))),[]⟩
def c39 : RFunc := ⟨21,.code (.seq (.region [⟨some 2,.box 29 (.tmp 0),none⟩,⟨some 4,.mov (.val (.int .i64 0)),none⟩,⟨some 5,.mov (.val (.int .i64 0)),none⟩]) (.seq (.region [⟨some 9,.load (some 3) (.tmp 2),none⟩,⟨some 10,.mov (.tmp 1),none⟩,⟨some 11,.call (.val (.func (.func 47) [] [])) [.tmp 9,.tmp 10],none⟩,⟨some 8,.mov (.tmp 11),none⟩,⟨some 12,.extract (.tmp 8) 0,none⟩,⟨some 13,.extract (.tmp 8) 1,none⟩,⟨some 6,.new 29 [(.int .i64 0),(.int .i64 0),.nslice],none⟩,⟨none,.store 3 (.tmp 6) (.tmp 12),none⟩,⟨some 7,.mov (.tmp 13),none⟩]) (.seq (.seq (.region [⟨some 14,.mov (.tmp 7),none⟩,⟨some 15,.bin .neq (.tmp 14) (.val (.int .i64 0)),none⟩]) (.cond (.tmp 15) (.seq (.region [⟨some 16,.mov (.tmp 7),none⟩,⟨some 4,.mov (.val (.int .i64 0)),none⟩,⟨some 5,.mov (.tmp 16),none⟩]) .ret) .skip)) (.seq (.region [⟨some 17,.load (some 3) (.tmp 6),none⟩,⟨some 18,.call (.val (.func (.func 66) [] [])) [.tmp 17],none⟩,⟨some 19,.extract (.tmp 18) 0,none⟩,⟨some 20,.extract (.tmp 18) 1,none⟩,⟨some 4,.mov (.tmp 19),none⟩,⟨some 5,.mov (.tmp 20),none⟩]) .ret)))),[.tmp 4,.tmp 5]⟩
def c40 : RFunc := ⟨20,.code (.seq (.region [⟨some 6,.mov (.val (.bool false)),none⟩]) (.seq (.region [⟨some 7,.mov (.tmp 0),none⟩,⟨some 8,.call (.val (.func (.func 62) [] [])) [.tmp 7],none⟩,⟨some 9,.mov (.tmp 8),none⟩,⟨some 10,.mov (.tmp 1),some (9,true)⟩,⟨some 11,.call (.val (.func (.func 62) [] [])) [.tmp 10],some (9,true)⟩,⟨some 12,.pick (.tmp 9) (.tmp 11) (.val (.bool false)),none⟩,⟨some 13,.mov (.tmp 12),none⟩,⟨some 14,.mov (.tmp 2),some (13,true)⟩,⟨some 15,.mov (.tmp 0),some (13,true)⟩,⟨some 16,.mov (.tmp 1),some (13,true)⟩,⟨some 17,.bin .mul (.tmp 15) (.tmp 16),some (13,true)⟩,⟨some 18,.bin .eql (.tmp 14) (.tmp 17),some (13,true)⟩,⟨some 19,.pick (.tmp 13) (.tmp 18) (.val (.bool false)),none⟩,⟨some 6,.mov (.tmp 19),none⟩]) .ret)),[.tmp 6]⟩
def c41 : RFunc := ⟨9,.code (.seq (.region [⟨some 2,.mov (.val (.bool false)),none⟩]) (.seq (.region [⟨some 3,.mov (.tmp 0),none⟩,⟨some 4,.bin .geq (.tmp 3) (.val (.int .i64 (-3))),none⟩,⟨some 5,.mov (.tmp 4),none⟩,⟨some 6,.mov (.tmp 0),some (5,true)⟩,⟨some 7,.bin .leq (.tmp 6) (.val (.int .i64 3)),some (5,true)⟩,⟨some 8,.pick (.tmp 5) (.tmp 7) (.val (.bool false)),none⟩,⟨some 2,.mov (.tmp 8),none⟩]) .ret)),[.tmp 2]⟩
def c42 : RFunc := ⟨14,.code (.seq (.region [⟨some 3,.box 29 (.tmp 0),none⟩,⟨some 4,.mov (.val (.int .i64 0)),none⟩]) (.seq (.dregion [⟨⟨some 6,.load none (.tmp 2),none⟩,0,1,true⟩,⟨⟨some 7,.load (some 3) (.tmp 1),none⟩,0,1,true⟩,⟨⟨some 8,.call (.val (.func (.func 18) [] [])) [.tmp 7],none⟩,2,2,false⟩,⟨⟨some 5,.mov (.tmp 8),none⟩,6,0,false⟩,⟨⟨some 9,.extract (.tmp 5) 0,none⟩,14,0,false⟩,⟨⟨some 10,.extract (.tmp 5) 1,none⟩,14,0,false⟩,⟨⟨some 11,.nilCheck (.tmp 6),none⟩,31,0,true⟩,⟨⟨some 12,.fieldAddr 0 (.tmp 11),none⟩,95,0,true⟩,⟨⟨none,.store 1 (.tmp 12) (.tmp 9),none⟩,223,2,false⟩,⟨⟨some 4,.mov (.tmp 10),none⟩,511,0,false⟩]) (.seq (.region [⟨some 13,.mov (.tmp 4),none⟩,⟨some 4,.mov (.tmp 13),none⟩]) .ret))),[.tmp 4]⟩
def c43 : RFunc := ⟨14,.code (.seq (.region [⟨some 3,.box 29 (.tmp 0),none⟩,⟨some 4,.new 29 [(.int .i64 0),(.int .i64 0),.nslice],none⟩,⟨some 5,.mov (.val (.int .i64 0)),none⟩]) (.seq (.dregion [⟨⟨some 6,.load (some 3) (.tmp 1),none⟩,0,1,true⟩,⟨⟨some 7,.load none (.tmp 2),none⟩,0,1,true⟩,⟨⟨some 8,.nilCheck (.tmp 7),none⟩,2,0,true⟩,⟨⟨some 9,.fieldAddr 0 (.tmp 8),none⟩,6,0,true⟩,⟨⟨some 10,.load none (.tmp 9),none⟩,14,1,true⟩,⟨⟨some 11,.call (.val (.func (.func 44) [] [])) [.tmp 6,.tmp 10],none⟩,31,2,false⟩,⟨⟨some 12,.extract (.tmp 11) 0,none⟩,63,0,false⟩,⟨⟨some 13,.extract (.tmp 11) 1,none⟩,63,0,false⟩,⟨⟨none,.store 3 (.tmp 4) (.tmp 12),none⟩,255,2,false⟩,⟨⟨some 5,.mov (.tmp 13),none⟩,511,0,false⟩]) .ret)),[.cell 4 (some 3),.tmp 5]⟩
def c44 : RFunc := ⟨46,.code (.seq (.region [⟨some 2,.box 24 (.tmp 0),none⟩,⟨some 4,.new 29 [(.int .i64 0),(.int .i64 0),.nslice],none⟩,⟨some 5,.mov (.val (.int .i64 0)),none⟩]) (.seq (.seq (.region [⟨some 10,.load (some 3) (.tmp 2),none⟩,⟨some 11,.call (.val (.func (.func 22) [] [])) [.tmp 10],none⟩,⟨some 6,.mov (.tmp 11),none⟩]) (.seq (.region [⟨some 12,.mov (.tmp 6),none⟩,⟨some 13,.bin .neq (.tmp 12) (.val (.int .i64 0)),none⟩]) (.cond (.tmp 13) (.seq (.region [⟨some 14,.build [(.int .i64 0),(.int .i64 0),.nslice] [],none⟩,⟨some 15,.mov (.tmp 6),none⟩,⟨none,.store 3 (.tmp 4) (.tmp 14),none⟩,⟨some 5,.mov (.tmp 15),none⟩]) .ret) .skip))) (.seq (.seq (.region [⟨some 16,.mov (.tmp 1),none⟩,⟨some 17,.bin .lss (.tmp 16) (.val (.int .i64 0)),none⟩,⟨some 18,.mov (.tmp 17),none⟩,⟨some 19,.mov (.tmp 1),some (18,false)⟩,⟨some 20,.bin .gtr (.tmp 19) (.val (.int .i64 256)),some (18,false)⟩,⟨some 21,.pick (.tmp 18) (.val (.bool true)) (.tmp 20),none⟩]) (.cond (.tmp 21) (.seq (.region [⟨some 22,.build [(.int .i64 0),(.int .i64 0),.nslice] [],none⟩,⟨none,.store 3 (.tmp 4) (.tmp 22),none⟩,⟨some 5,.mov (.val (.int .i64 1)),none⟩]) .ret) .skip)) (.seq (.region [⟨some 23,.fieldAddr 0 (.tmp 2),none⟩,⟨some 24,.load none (.tmp 23),none⟩,⟨some 25,.fieldAddr 1 (.tmp 2),none⟩,⟨some 26,.load none (.tmp 25),none⟩,⟨some 27,.call (.val (.func (.func 63) [] [])) [.tmp 24,.tmp 26],none⟩,⟨some 7,.new 29 [(.int .i64 0),(.int .i64 0),.nslice],none⟩,⟨none,.store 3 (.tmp 7) (.tmp 27),none⟩]) (.seq (.seq (.region [⟨some 28,.fieldAddr 2 (.tmp 2),none⟩,⟨some 29,.load none (.tmp 28),none⟩,⟨some 30,.lenS (.tmp 29),none⟩,⟨some 31,.mov (.val (.int .i64 0)),none⟩]) (.block 0 (.loop (.seq (.region [⟨some 32,.bin .lss (.tmp 31) (.tmp 30),none⟩]) (.seq (.cond (.tmp 32) .skip (.exit 0)) (.seq (.block 1 (.seq (.region [⟨some 33,.mov (.tmp 31),none⟩,⟨some 34,.idxS 1 (.tmp 29) (.tmp 31),none⟩,⟨some 35,.load none (.tmp 34),none⟩,⟨some 8,.mov (.tmp 33),none⟩,⟨some 9,.mov (.tmp 35),none⟩]) (.seq (.region [⟨some 36,.mov (.tmp 9),none⟩,⟨some 37,.convInt .i64 (.tmp 36),none⟩,⟨some 38,.mov (.tmp 1),none⟩,⟨some 39,.bin .lss (.tmp 37) (.tmp 38),none⟩]) (.cond (.tmp 39) (.region [⟨some 40,.fieldAddr 2 (.tmp 7),none⟩,⟨some 41,.load none (.tmp 40),none⟩,⟨some 42,.mov (.tmp 8),none⟩,⟨some 43,.idxS 1 (.tmp 41) (.tmp 42),none⟩,⟨none,.store 1 (.tmp 43) (.val (.int .u8 1)),none⟩]) .skip)))) (.region [⟨some 44,.bin .add (.tmp 31) (.val (.int .i64 1)),none⟩,⟨some 31,.mov (.tmp 44),none⟩]))))))) (.seq (.region [⟨some 45,.load (some 3) (.tmp 7),none⟩,⟨none,.store 3 (.tmp 4) (.tmp 45),none⟩,⟨some 5,.mov (.val (.int .i64 0)),none⟩]) .ret)))))),[.cell 4 (some 3),.tmp 5]⟩
def c45 : RFunc := ⟨13,.code (.seq (.region [⟨some 2,.box 29 (.tmp 0),none⟩,⟨some 3,.mov (.val (.int .i64 0)),none⟩]) (.seq (.dregion [⟨⟨some 5,.load none (.tmp 1),none⟩,0,1,true⟩,⟨⟨some 6,.load (some 3) (.tmp 2),none⟩,0,1,true⟩,⟨⟨some 7,.call (.val (.func (.func 20) [] [])) [.tmp 6],none⟩,2,2,false⟩,⟨⟨some 4,.mov (.tmp 7),none⟩,6,0,false⟩,⟨⟨some 8,.extract (.tmp 4) 0,none⟩,14,0,false⟩,⟨⟨some 9,.extract (.tmp 4) 1,none⟩,14,0,false⟩,⟨⟨some 10,.nilCheck (.tmp 5),none⟩,31,0,true⟩,⟨⟨some 11,.fieldAddr 1 (.tmp 10),none⟩,95,0,true⟩,⟨⟨none,.store 1 (.tmp 11) (.tmp 8),none⟩,223,2,false⟩,⟨⟨some 3,.mov (.tmp 9),none⟩,511,0,false⟩]) (.seq (.region [⟨some 12,.mov (.tmp 3),none⟩,⟨some 3,.mov (.tmp 12),none⟩]) .ret))),[.tmp 3]⟩
def c46 : RFunc := ⟨13,.code (.seq (.region [⟨some 2,.box 29 (.tmp 0),none⟩,⟨some 3,.new 29 [(.int .i64 0),(.int .i64 0),.nslice],none⟩,⟨some 4,.mov (.val (.int .i64 0)),none⟩]) (.seq (.dregion [⟨⟨some 5,.load (some 3) (.tmp 2),none⟩,0,1,true⟩,⟨⟨some 6,.load none (.tmp 1),none⟩,0,1,true⟩,⟨⟨some 7,.nilCheck (.tmp 6),none⟩,2,0,true⟩,⟨⟨some 8,.fieldAddr 1 (.tmp 7),none⟩,6,0,true⟩,⟨⟨some 9,.load none (.tmp 8),none⟩,14,1,true⟩,⟨⟨some 10,.call (.val (.func (.func 47) [] [])) [.tmp 5,.tmp 9],none⟩,31,2,false⟩,⟨⟨some 11,.extract (.tmp 10) 0,none⟩,63,0,false⟩,⟨⟨some 12,.extract (.tmp 10) 1,none⟩,63,0,false⟩,⟨⟨none,.store 3 (.tmp 3) (.tmp 11),none⟩,255,2,false⟩,⟨⟨some 4,.mov (.tmp 12),none⟩,511,0,false⟩]) .ret)),[.cell 3 (some 3),.tmp 4]⟩
def c47 : RFunc := ⟨77,.code (.seq (.region [⟨some 2,.box 29 (.tmp 0),none⟩,⟨some 4,.new 29 [(.int .i64 0),(.int .i64 0),.nslice],none⟩,⟨some 5,.mov (.val (.int .i64 0)),none⟩]) (.seq (.seq (.region [⟨some 13,.load (some 3) (.tmp 2),none⟩,⟨some 14,.mov (.tmp 1),none⟩,⟨some 15,.call (.val (.func (.func 32) [] [])) [.tmp 13,.tmp 14],none⟩,⟨some 6,.mov (.tmp 15),none⟩]) (.seq (.region [⟨some 16,.mov (.tmp 6),none⟩,⟨some 17,.bin .neq (.tmp 16) (.val (.int .i64 0)),none⟩]) (.cond (.tmp 17) (.seq (.region [⟨some 18,.build [(.int .i64 0),(.int .i64 0),.nslice] [],none⟩,⟨some 19,.mov (.tmp 6),none⟩,⟨none,.store 3 (.tmp 4) (.tmp 18),none⟩,⟨some 5,.mov (.tmp 19),none⟩]) .ret) .skip))) (.seq (.region [⟨some 21,.fieldAddr 0 (.tmp 2),none⟩,⟨some 22,.load none (.tmp 21),none⟩,⟨some 23,.mov (.tmp 1),none⟩,⟨some 24,.call (.val (.func (.func 33) [] [])) [.tmp 22,.tmp 23],none⟩,⟨some 20,.mov (.tmp 24),none⟩,⟨some 25,.extract (.tmp 20) 0,none⟩,⟨some 26,.extract (.tmp 20) 1,none⟩,⟨some 7,.new 68 z640,none⟩,⟨none,.store 640 (.tmp 7) (.tmp 25),none⟩,⟨some 8,.mov (.tmp 26),none⟩]) (.seq (.region [⟨some 28,.fieldAddr 0 (.tmp 2),none⟩,⟨some 29,.load none (.tmp 28),none⟩,⟨some 30,.fieldAddr 1 (.tmp 2),none⟩,⟨some 31,.load none (.tmp 30),none⟩,⟨some 32,.mov (.tmp 8),none⟩,⟨some 33,.bin .sub (.tmp 31) (.tmp 32),none⟩,⟨some 34,.call (.val (.func (.func 34) [] [])) [.tmp 29,.tmp 33],none⟩,⟨some 27,.mov (.tmp 34),none⟩,⟨some 35,.extract (.tmp 27) 0,none⟩,⟨some 36,.extract (.tmp 27) 1,none⟩,⟨some 9,.new 29 [(.int .i64 0),(.int .i64 0),.nslice],none⟩,⟨none,.store 3 (.tmp 9) (.tmp 35),none⟩,⟨some 10,.mov (.tmp 36),none⟩]) (.seq (.seq (.region [⟨some 37,.mov (.tmp 10),none⟩,⟨some 38,.bin .neq (.tmp 37) (.val (.int .i64 0)),none⟩]) (.cond (.tmp 38) (.seq (.region [⟨some 39,.build [(.int .i64 0),(.int .i64 0),.nslice] [],none⟩,⟨some 40,.mov (.tmp 10),none⟩,⟨none,.store 3 (.tmp 4) (.tmp 39),none⟩,⟨some 5,.mov (.tmp 40),none⟩]) .ret) .skip)) (.seq (.seq (.region [⟨some 41,.fieldAddr 1 (.tmp 9),none⟩,⟨some 42,.load none (.tmp 41),none⟩,⟨some 43,.mov (.val (.int .i64 0)),none⟩]) (.block 0 (.loop (.seq (.region [⟨some 44,.bin .lss (.tmp 43) (.tmp 42),none⟩]) (.seq (.cond (.tmp 44) .skip (.exit 0)) (.seq (.block 1 (.seq (.region [⟨some 45,.mov (.tmp 43),none⟩,⟨some 11,.mov (.tmp 45),none⟩]) (.seq (.region [⟨some 46,.fieldAddr 0 (.tmp 9),none⟩,⟨some 47,.load none (.tmp 46),none⟩,⟨some 48,.mov (.val (.int .i64 0)),none⟩]) (.block 2 (.loop (.seq (.region [⟨some 49,.bin .lss (.tmp 48) (.tmp 47),none⟩]) (.seq (.cond (.tmp 49) .skip (.exit 2)) (.seq (.block 3 (.seq (.region [⟨some 50,.mov (.tmp 48),none⟩,⟨some 12,.mov (.tmp 50),none⟩]) (.dregion [⟨⟨some 51,.fieldAddr 2 (.tmp 9),none⟩,0,0,true⟩,⟨⟨some 52,.load none (.tmp 51),none⟩,1,1,true⟩,⟨⟨some 53,.mov (.tmp 11),none⟩,0,0,true⟩,⟨⟨some 54,.fieldAddr 0 (.tmp 9),none⟩,0,0,true⟩,⟨⟨some 55,.load none (.tmp 54),none⟩,8,1,true⟩,⟨⟨some 56,.bin .mul (.tmp 53) (.tmp 55),none⟩,28,0,true⟩,⟨⟨some 57,.mov (.tmp 12),none⟩,0,0,true⟩,⟨⟨some 58,.bin .add (.tmp 56) (.tmp 57),none⟩,124,0,true⟩,⟨⟨some 59,.fieldAddr 2 (.tmp 2),none⟩,0,0,true⟩,⟨⟨some 60,.load none (.tmp 59),none⟩,256,1,true⟩,⟨⟨some 61,.mov (.tmp 11),none⟩,0,0,true⟩,⟨⟨some 62,.mov (.tmp 12),none⟩,0,0,true⟩,⟨⟨some 63,.idxA 640 1 (.tmp 7) (.tmp 62),none⟩,2048,0,true⟩,⟨⟨some 64,.load none (.tmp 63),none⟩,6144,1,true⟩,⟨⟨some 65,.bin .add (.tmp 61) (.tmp 64),none⟩,15360,0,true⟩,⟨⟨some 66,.fieldAddr 0 (.tmp 2),none⟩,0,0,true⟩,⟨⟨some 67,.load none (.tmp 66),none⟩,32768,1,true⟩,⟨⟨some 68,.bin .mul (.tmp 65) (.tmp 67),none⟩,130048,0,true⟩,⟨⟨some 69,.mov (.tmp 12),none⟩,0,0,true⟩,⟨⟨some 70,.bin .add (.tmp 68) (.tmp 69),none⟩,523264,0,true⟩,⟨⟨some 71,.idxS 1 (.tmp 60) (.tmp 70),none⟩,1048320,0,true⟩,⟨⟨some 72,.load none (.tmp 71),none⟩,2096896,1,true⟩,⟨⟨some 73,.idxS 1 (.tmp 52) (.tmp 58),none⟩,4194303,0,true⟩,⟨⟨none,.store 1 (.tmp 73) (.tmp 72),none⟩,8388607,2,false⟩]))) (.region [⟨some 74,.bin .add (.tmp 48) (.val (.int .i64 1)),none⟩,⟨some 48,.mov (.tmp 74),none⟩]))))))))) (.region [⟨some 75,.bin .add (.tmp 43) (.val (.int .i64 1)),none⟩,⟨some 43,.mov (.tmp 75),none⟩]))))))) (.seq (.region [⟨some 76,.load (some 3) (.tmp 9),none⟩,⟨none,.store 3 (.tmp 4) (.tmp 76),none⟩,⟨some 5,.mov (.val (.int .i64 0)),none⟩]) .ret))))))),[.cell 4 (some 3),.tmp 5]⟩
def c48 : RFunc := ⟨7,.code (.seq (.region [⟨some 2,.box 29 (.tmp 0),none⟩,⟨some 3,.mov (.val (.int .i64 0)),none⟩]) (.seq (.region [⟨some 4,.load none (.tmp 1),none⟩,⟨some 5,.nilCheck (.tmp 4),none⟩,⟨some 6,.fieldAddr 2 (.tmp 5),none⟩,⟨none,.store 1 (.tmp 6) (.val (.int .i64 2)),none⟩]) (.seq (.region [⟨some 3,.mov (.val (.int .i64 0)),none⟩]) .ret))),[.tmp 3]⟩
def c49 : RFunc := ⟨13,.code (.seq (.region [⟨some 2,.box 29 (.tmp 0),none⟩,⟨some 3,.new 29 [(.int .i64 0),(.int .i64 0),.nslice],none⟩,⟨some 4,.mov (.val (.int .i64 0)),none⟩]) (.seq (.dregion [⟨⟨some 5,.load (some 3) (.tmp 2),none⟩,0,1,true⟩,⟨⟨some 6,.load none (.tmp 1),none⟩,0,1,true⟩,⟨⟨some 7,.nilCheck (.tmp 6),none⟩,2,0,true⟩,⟨⟨some 8,.fieldAddr 2 (.tmp 7),none⟩,6,0,true⟩,⟨⟨some 9,.load none (.tmp 8),none⟩,14,1,true⟩,⟨⟨some 10,.call (.val (.func (.func 50) [] [])) [.tmp 5,.tmp 9],none⟩,31,2,false⟩,⟨⟨some 11,.extract (.tmp 10) 0,none⟩,63,0,false⟩,⟨⟨some 12,.extract (.tmp 10) 1,none⟩,63,0,false⟩,⟨⟨none,.store 3 (.tmp 3) (.tmp 11),none⟩,255,2,false⟩,⟨⟨some 4,.mov (.tmp 12),none⟩,511,0,false⟩]) .ret)),[.cell 3 (some 3),.tmp 4]⟩
def c50 : RFunc := ⟨56,.code (.seq (.region [⟨some 2,.box 29 (.tmp 0),none⟩,⟨some 4,.new 29 [(.int .i64 0),(.int .i64 0),.nslice],none⟩,⟨some 5,.mov (.val (.int .i64 0)),none⟩]) (.seq (.region [⟨some 14,.load (some 3) (.tmp 2),none⟩,⟨some 15,.call (.val (.func (.func 67) [] [])) [.tmp 14,(.val (.bool true))],none⟩,⟨some 13,.mov (.tmp 15),none⟩,⟨some 16,.extract (.tmp 13) 0,none⟩,⟨some 17,.extract (.tmp 13) 1,none⟩,⟨some 6,.mov (.tmp 16),none⟩,⟨some 7,.mov (.tmp 17),none⟩]) (.seq (.seq (.region [⟨some 18,.mov (.tmp 7),none⟩,⟨some 19,.bin .neq (.tmp 18) (.val (.int .i64 0)),none⟩]) (.cond (.tmp 19) (.seq (.region [⟨some 20,.build [(.int .i64 0),(.int .i64 0),.nslice] [],none⟩,⟨some 21,.mov (.tmp 7),none⟩,⟨none,.store 3 (.tmp 4) (.tmp 20),none⟩,⟨some 5,.mov (.tmp 21),none⟩]) .ret) .skip)) (.seq (.region [⟨some 22,.load (some 3) (.tmp 2),none⟩,⟨some 23,.call (.val (.func (.func 68) [] [])) [.tmp 22],none⟩,⟨some 8,.new 29 [(.int .i64 0),(.int .i64 0),.nslice],none⟩,⟨none,.store 3 (.tmp 8) (.tmp 23),none⟩]) (.seq (.seq (.region [⟨some 24,.mov (.tmp 6),none⟩,⟨some 25,.lenS (.tmp 24),none⟩,⟨some 26,.mov (.val (.int .i64 0)),none⟩]) (.block 0 (.loop (.seq (.region [⟨some 27,.bin .lss (.tmp 26) (.tmp 25),none⟩]) (.seq (.cond (.tmp 27) .skip (.exit 0)) (.seq (.block 1 (.seq (.region [⟨some 28,.idxS 5 (.tmp 24) (.tmp 26),none⟩,⟨some 29,.load (some 5) (.tmp 28),none⟩,⟨some 10,.new 100 [(.int .i64 0),(.int .i64 0),(.int .i64 0),(.int .i64 0),.nslice],none⟩,⟨none,.store 5 (.tmp 10) (.tmp 29),none⟩]) (.seq (.seq (.region [⟨some 30,.fieldAddr 4 (.tmp 10),none⟩,⟨some 31,.load none (.tmp 30),none⟩,⟨some 32,.lenS (.tmp 31),none⟩,⟨some 33,.mov (.tmp 1),none⟩,⟨some 34,.bin .geq (.tmp 32) (.tmp 33),none⟩]) (.cond (.tmp 34) (.exit 1) .skip)) (.seq (.region [⟨some 35,.fieldAddr 4 (.tmp 10),none⟩,⟨some 36,.load none (.tmp 35),none⟩,⟨some 37,.lenS (.tmp 36),none⟩,⟨some 38,.mov (.val (.int .i64 0)),none⟩]) (.block 2 (.loop (.seq (.region [⟨some 39,.bin .lss (.tmp 38) (.tmp 37),none⟩]) (.seq (.cond (.tmp 39) .skip (.exit 2)) (.seq (.block 3 (.seq (.region [⟨some 40,.idxS 2 (.tmp 36) (.tmp 38),none⟩,⟨some 41,.load (some 2) (.tmp 40),none⟩,⟨some 12,.new 93 [(.int .i64 0),(.int .i64 0)],none⟩,⟨none,.store 2 (.tmp 12) (.tmp 41),none⟩]) (.region [⟨some 42,.fieldAddr 2 (.tmp 8),none⟩,⟨some 43,.load none (.tmp 42),none⟩,⟨some 44,.fieldAddr 1 (.tmp 12),none⟩,⟨some 45,.load none (.tmp 44),none⟩,⟨some 46,.fieldAddr 0 (.tmp 8),none⟩,⟨some 47,.load none (.tmp 46),none⟩,⟨some 48,.bin .mul (.tmp 45) (.tmp 47),none⟩,⟨some 49,.fieldAddr 0 (.tmp 12),none⟩,⟨some 50,.load none (.tmp 49),none⟩,⟨some 51,.bin .add (.tmp 48) (.tmp 50),none⟩,⟨some 52,.idxS 1 (.tmp 43) (.tmp 51),none⟩,⟨none,.store 1 (.tmp 52) (.val (.int .u8 0)),none⟩]))) (.region [⟨some 53,.bin .add (.tmp 38) (.val (.int .i64 1)),none⟩,⟨some 38,.mov (.tmp 53),none⟩])))))))))) (.region [⟨some 54,.bin .add (.tmp 26) (.val (.int .i64 1)),none⟩,⟨some 26,.mov (.tmp 54),none⟩]))))))) (.seq (.region [⟨some 55,.load (some 3) (.tmp 8),none⟩,⟨none,.store 3 (.tmp 4) (.tmp 55),none⟩,⟨some 5,.mov (.val (.int .i64 0)),none⟩]) .ret)))))),[.cell 4 (some 3),.tmp 5]⟩
def c60 : RFunc := ⟨21,.code (.seq (.region [⟨some 6,.mov (.val (.int .i64 0)),none⟩]) (.seq (.seq (.region [⟨some 7,.mov (.tmp 1),none⟩,⟨some 8,.bin .lss (.tmp 7) (.val (.int .i64 0)),none⟩]) (.cond (.tmp 8) (.seq (.region [⟨some 9,.mov (.tmp 0),none⟩,⟨some 10,.bin .sub (.tmp 9) (.val (.int .i64 1)),none⟩,⟨some 11,.mov (.tmp 2),none⟩,⟨some 12,.bin .sub (.tmp 10) (.tmp 11),none⟩,⟨some 13,.mov (.tmp 1),none⟩,⟨some 14,.un .neg (.tmp 13),none⟩,⟨some 15,.bin .mul (.tmp 12) (.tmp 14),none⟩,⟨some 16,.bin .quo (.tmp 15) (.val (.int .i64 64)),none⟩,⟨some 6,.mov (.tmp 16),none⟩]) .ret) .skip)) (.seq (.region [⟨some 17,.mov (.tmp 2),none⟩,⟨some 18,.mov (.tmp 1),none⟩,⟨some 19,.bin .mul (.tmp 17) (.tmp 18),none⟩,⟨some 20,.bin .quo (.tmp 19) (.val (.int .i64 64)),none⟩,⟨some 6,.mov (.tmp 20),none⟩]) .ret))),[.tmp 6]⟩
def c61 : RFunc := ⟨25,.code (.seq (.region [⟨some 2,.mov (.val (.int .i64 0)),none⟩]) (.seq (.seq (.region [⟨some 5,.mov (.tmp 0),none⟩,⟨some 6,.lenS (.tmp 5),none⟩,⟨some 7,.bin .lss (.tmp 6) (.val (.int .i64 1)),none⟩]) (.cond (.tmp 7) .fail .skip)) (.seq (.region [⟨some 9,.mov (.tmp 0),none⟩,⟨some 10,.idxS 1 (.tmp 9) (.val (.int .i64 0)),none⟩,⟨some 11,.load none (.tmp 10),none⟩,⟨some 3,.mov (.tmp 11),none⟩]) (.seq (.seq (.region [⟨some 4,.mov (.val (.int .i64 1)),none⟩]) (.block 0 (.loop (.seq (.seq (.region [⟨some 12,.mov (.tmp 4),none⟩,⟨some 13,.mov (.tmp 0),none⟩,⟨some 14,.lenS (.tmp 13),none⟩,⟨some 15,.bin .lss (.tmp 12) (.tmp 14),none⟩]) (.cond (.tmp 15) .skip (.exit 0))) (.seq (.block 1 (.region [⟨some 18,.mov (.tmp 3),none⟩,⟨some 19,.mov (.tmp 0),none⟩,⟨some 20,.mov (.tmp 4),none⟩,⟨some 21,.idxS 1 (.tmp 19) (.tmp 20),none⟩,⟨some 22,.load none (.tmp 21),none⟩,⟨some 23,.minmax true [.tmp 18,.tmp 22],none⟩,⟨some 3,.mov (.tmp 23),none⟩])) (.region [⟨some 16,.mov (.tmp 4),none⟩,⟨some 17,.bin .add (.tmp 16) (.val (.int .i64 1)),none⟩,⟨some 4,.mov (.tmp 17),none⟩])))))) (.seq (.region [⟨some 24,.mov (.tmp 3),none⟩,⟨some 2,.mov (.tmp 24),none⟩]) .ret))))),[.tmp 2]⟩
def c62 : RFunc := ⟨9,.code (.seq (.region [⟨some 2,.mov (.val (.bool false)),none⟩]) (.seq (.region [⟨some 3,.mov (.tmp 0),none⟩,⟨some 4,.bin .geq (.tmp 3) (.val (.int .i64 0)),none⟩,⟨some 5,.mov (.tmp 4),none⟩,⟨some 6,.mov (.tmp 0),some (5,true)⟩,⟨some 7,.bin .leq (.tmp 6) (.val (.int .i64 640)),some (5,true)⟩,⟨some 8,.pick (.tmp 5) (.tmp 7) (.val (.bool false)),none⟩,⟨some 2,.mov (.tmp 8),none⟩]) .ret)),[.tmp 2]⟩
def c63 : RFunc := ⟨12,.code (.seq (.region [⟨some 4,.new 29 [(.int .i64 0),(.int .i64 0),.nslice],none⟩]) (.seq (.region [⟨some 5,.mov (.tmp 0),none⟩,⟨some 6,.mov (.tmp 1),none⟩,⟨some 7,.mov (.tmp 0),none⟩,⟨some 8,.mov (.tmp 1),none⟩,⟨some 9,.bin .mul (.tmp 7) (.tmp 8),none⟩,⟨some 10,.makeSlice 5 [(.int .u8 0)] 1 (.tmp 9) (.tmp 9),none⟩,⟨some 11,.build [(.int .i64 0),(.int .i64 0),.nslice] [(0,1,(.tmp 5)),(1,1,(.tmp 6)),(2,1,(.tmp 10))],none⟩,⟨none,.store 3 (.tmp 4) (.tmp 11),none⟩]) .ret)),[.cell 4 (some 3)]⟩
def c64 : RFunc := ⟨35,.code (.seq (.region [⟨some 4,.mov (.val (.int .i64 0)),none⟩]) (.seq (.seq (.region [⟨some 7,.mov (.tmp 1),none⟩,⟨some 8,.lenS (.tmp 7),none⟩,⟨some 9,.bin .eql (.tmp 8) (.val (.int .i64 0)),none⟩]) (.cond (.tmp 9) (.seq (.region [⟨some 10,.mov (.tmp 0),none⟩,⟨some 11,.call (.val (.func (.func 71) [] [])) [.tmp 10],none⟩,⟨some 12,.bin .add (.tmp 11) (.val (.int .i64 1)),none⟩,⟨some 4,.mov (.tmp 12),none⟩]) .ret) .skip)) (.seq (.seq (.region [⟨some 13,.mov (.tmp 1),none⟩,⟨some 14,.lenS (.tmp 13),none⟩,⟨some 15,.bin .eql (.tmp 14) (.val (.int .i64 1)),none⟩]) (.cond (.tmp 15) (.seq (.region [⟨some 16,.mov (.tmp 0),none⟩,⟨some 17,.mov (.tmp 1),none⟩,⟨some 18,.idxS 1 (.tmp 17) (.val (.int .i64 0)),none⟩,⟨some 19,.load none (.tmp 18),none⟩,⟨some 20,.call (.val (.func (.func 72) [] [])) [.tmp 16,.tmp 19],none⟩,⟨some 4,.mov (.tmp 20),none⟩]) .ret) .skip)) (.seq (.region [⟨some 5,.mov (.val (.int .i64 0)),none⟩]) (.block 0 (.loop (.block 1 (.seq (.region [⟨some 21,.mov (.tmp 0),none⟩,⟨some 22,.mov (.tmp 1),none⟩,⟨some 23,.call (.val (.func (.func 73) [] [])) [.tmp 21,.tmp 22],none⟩,⟨some 6,.mov (.tmp 23),none⟩]) (.seq (.seq (.region [⟨some 24,.mov (.tmp 6),none⟩,⟨some 25,.bin .eql (.tmp 24) (.val (.int .i64 (-1))),none⟩]) (.cond (.tmp 25) (.seq (.region [⟨some 26,.mov (.tmp 5),none⟩,⟨some 4,.mov (.tmp 26),none⟩]) .ret) .skip)) (.seq (.region [⟨some 27,.mov (.tmp 5),none⟩,⟨some 28,.bin .add (.tmp 27) (.val (.int .i64 1)),none⟩,⟨some 5,.mov (.tmp 28),none⟩]) (.region [⟨some 29,.mov (.tmp 0),none⟩,⟨some 30,.mov (.tmp 6),none⟩,⟨some 31,.mov (.tmp 1),none⟩,⟨some 32,.lenS (.tmp 31),none⟩,⟨some 33,.bin .add (.tmp 30) (.tmp 32),none⟩,⟨some 34,.sliceS 1 (.tmp 29) (some (.tmp 33)) none none,none⟩,⟨some 0,.mov (.tmp 34),none⟩]))))))))))),[.tmp 4]⟩
def c65 : RFunc := ⟨7,.code (.seq (.region [⟨some 1,.box 29 (.tmp 0),none⟩,⟨some 2,.mov (.val (.int .i64 0)),none⟩]) (.seq (.region [⟨some 3,.fieldAddr 2 (.tmp 1),none⟩,⟨some 4,.load none (.tmp 3),none⟩,⟨some 5,.buildSlice 5 1 1 [(.int .u8 0)] [(0,1,(.val (.int .u8 1)))],none⟩,⟨some 6,.call (.val (.func (.func 64) [] [])) [.tmp 4,.tmp 5],none⟩,⟨some 2,.mov (.tmp 6),none⟩]) .ret)),[.tmp 2]⟩
def c66 : RFunc := ⟨37,.code (.seq (.region [⟨some 1,.box 29 (.tmp 0),none⟩,⟨some 2,.mov (.val (.int .i64 0)),none⟩,⟨some 3,.mov (.val (.int .i64 0)),none⟩]) (.seq (.region [⟨some 11,.load (some 3) (.tmp 1),none⟩,⟨some 12,.call (.val (.func (.func 74) [] [])) [.tmp 11],none⟩,⟨some 10,.mov (.tmp 12),none⟩,⟨some 13,.extract (.tmp 10) 0,none⟩,⟨some 14,.extract (.tmp 10) 1,none⟩,⟨some 15,.extract (.tmp 10) 2,none⟩,⟨some 4,.mov (.tmp 13),none⟩,⟨some 5,.mov (.tmp 14),none⟩,⟨some 6,.mov (.tmp 15),none⟩]) (.seq (.seq (.region [⟨some 16,.mov (.tmp 6),none⟩,⟨some 17,.bin .neq (.tmp 16) (.val (.int .i64 0)),none⟩]) (.cond (.tmp 17) (.seq (.region [⟨some 18,.mov (.tmp 6),none⟩,⟨some 2,.mov (.val (.int .i64 0)),none⟩,⟨some 3,.mov (.tmp 18),none⟩]) .ret) .skip)) (.seq (.region [⟨some 7,.mov (.val (.int .i64 0)),none⟩]) (.seq (.seq (.region [⟨some 19,.mov (.tmp 4),none⟩,⟨some 20,.lenS (.tmp 19),none⟩,⟨some 21,.mov (.val (.int .i64 0)),none⟩]) (.block 0 (.loop (.seq (.region [⟨some 22,.bin .lss (.tmp 21) (.tmp 20),none⟩]) (.seq (.cond (.tmp 22) .skip (.exit 0)) (.seq (.block 1 (.seq (.region [⟨some 23,.idxS 1 (.tmp 19) (.tmp 21),none⟩,⟨some 24,.load none (.tmp 23),none⟩,⟨some 9,.mov (.tmp 24),none⟩]) (.seq (.region [⟨some 25,.mov (.tmp 9),none⟩,⟨some 26,.fieldAddr 0 (.tmp 1),none⟩,⟨some 27,.load none (.tmp 26),none⟩,⟨some 28,.bin .eql (.tmp 25) (.tmp 27),none⟩,⟨some 29,.mov (.tmp 28),none⟩,⟨some 30,.mov (.tmp 9),some (29,true)⟩,⟨some 31,.bin .gtr (.tmp 30) (.val (.int .i64 0)),some (29,true)⟩,⟨some 32,.pick (.tmp 29) (.tmp 31) (.val (.bool false)),none⟩]) (.cond (.tmp 32) (.region [⟨some 33,.mov (.tmp 7),none⟩,⟨some 34,.bin .add (.tmp 33) (.val (.int .i64 1)),none⟩,⟨some 7,.mov (.tmp 34),none⟩]) .skip)))) (.region [⟨some 35,.bin .add (.tmp 21) (.val (.int .i64 1)),none⟩,⟨some 21,.mov (.tmp 35),none⟩]))))))) (.seq (.region [⟨some 36,.mov (.tmp 7),none⟩,⟨some 2,.mov (.tmp 36),none⟩,⟨some 3,.mov (.val (.int .i64 0)),none⟩]) .ret)))))),[.tmp 2,.tmp 3]⟩
def c67 : RFunc := ⟨70,.code (.seq (.region [⟨some 2,.box 29 (.tmp 0),none⟩,⟨some 4,.mov (.val .nslice),none⟩,⟨some 5,.mov (.val (.int .i64 0)),none⟩]) (.seq (.seq (.region [⟨some 14,.load (some 3) (.tmp 2),none⟩,⟨some 15,.call (.val (.func (.func 37) [] [])) [.tmp 14],none⟩,⟨some 6,.mov (.tmp 15),none⟩]) (.seq (.region [⟨some 16,.mov (.tmp 6),none⟩,⟨some 17,.bin .neq (.tmp 16) (.val (.int .i64 0)),none⟩]) (.cond (.tmp 17) (.seq (.region [⟨some 18,.mov (.tmp 6),none⟩,⟨some 4,.mov (.val .nslice),none⟩,⟨some 5,.mov (.tmp 18),none⟩]) .ret) .skip))) (.seq (.region [⟨some 20,.load (some 3) (.tmp 2),none⟩,⟨some 21,.mov (.tmp 1),none⟩,⟨some 22,.call (.val (.func (.func 75) [] [])) [.tmp 20,.tmp 21],none⟩,⟨some 19,.mov (.tmp 22),none⟩,⟨some 23,.extract (.tmp 19) 0,none⟩,⟨some 24,.extract (.tmp 19) 1,none⟩,⟨some 7,.mov (.tmp 23),none⟩,⟨some 8,.mov (.tmp 24),none⟩]) (.seq (.region [⟨some 25,.mov (.tmp 8),none⟩,⟨some 26,.makeSlice 100 [(.int .i64 0),(.int .i64 0),(.int .i64 0),(.int .i64 0),.nslice] 56 (.tmp 25) (.tmp 25),none⟩,⟨some 9,.mov (.tmp 26),none⟩]) (.seq (.seq (.region [⟨some 27,.mov (.tmp 7),none⟩,⟨some 28,.lenS (.tmp 27),none⟩,⟨some 29,.mov (.val (.int .i64 0)),none⟩]) (.block 0 (.loop (.seq (.region [⟨some 30,.bin .lss (.tmp 29) (.tmp 28),none⟩]) (.seq (.cond (.tmp 30) .skip (.exit 0)) (.seq (.block 1 (.seq (.region [⟨some 31,.mov (.tmp 29),none⟩,⟨some 32,.idxS 1 (.tmp 27) (.tmp 29),none⟩,⟨some 33,.load none (.tmp 32),none⟩,⟨some 10,.mov (.tmp 31),none⟩,⟨some 11,.mov (.tmp 33),none⟩]) (.seq (.seq (.region [⟨some 34,.mov (.tmp 11),none⟩,⟨some 35,.bin .eql (.tmp 34) (.val (.int .i64 0)),none⟩]) (.cond (.tmp 35) (.exit 1) .skip)) (.seq (.region [⟨some 36,.mov (.tmp 9),none⟩,⟨some 37,.mov (.tmp 11),none⟩,⟨some 38,.bin .sub (.tmp 37) (.val (.int .i64 1)),none⟩,⟨some 39,.idxS 5 (.tmp 36) (.tmp 38),none⟩,⟨some 12,.mov (.tmp 39),none⟩]) (.seq (.dregion [⟨⟨some 40,.mov (.tmp 10),none⟩,0,0,true⟩,⟨⟨some 41,.fieldAddr 0 (.tmp 2),none⟩,0,0,true⟩,⟨⟨some 42,.load none (.tmp 41),none⟩,2,1,true⟩,⟨⟨some 43,.bin .rem (.tmp 40) (.tmp 42),none⟩,7,0,true⟩,⟨⟨some 44,.mov (.tmp 10),none⟩,0,0,true⟩,⟨⟨some 45,.fieldAddr 0 (.tmp 2),none⟩,0,0,true⟩,⟨⟨some 46,.load none (.tmp 45),none⟩,32,1,true⟩,⟨⟨some 47,.bin .quo (.tmp 44) (.tmp 46),none⟩,112,0,true⟩,⟨⟨some 48,.build [(.int .i64 0),(.int .i64 0)] [(0,1,(.tmp 43)),(1,1,(.tmp 47))],none⟩,255,0,true⟩,⟨⟨some 13,.new 93 [(.int .i64 0),(.int .i64 0)],none⟩,0,3,true⟩,⟨⟨none,.store 2 (.tmp 13) (.tmp 48),none⟩,1023,2,false⟩]) (.seq (.dregion [⟨⟨some 49,.mov (.tmp 12),none⟩,0,0,true⟩,⟨⟨some 50,.mov (.tmp 12),none⟩,0,0,true⟩,⟨⟨some 51,.nilCheck (.tmp 50),none⟩,2,0,true⟩,⟨⟨some 52,.fieldAddr 0 (.tmp 51),none⟩,6,0,true⟩,⟨⟨some 53,.load (some 4) (.tmp 52),none⟩,14,1,true⟩,⟨⟨some 54,.load (some 2) (.tmp 13),none⟩,0,1,true⟩,⟨⟨some 55,.call (.val (.func (.func 76) [] [])) [.tmp 53,.tmp 54],none⟩,62,2,false⟩,⟨⟨some 56,.nilCheck (.tmp 49),none⟩,127,0,true⟩,⟨⟨some 57,.fieldAddr 0 (.tmp 56),none⟩,255,0,true⟩,⟨⟨none,.store 4 (.tmp 57) (.tmp 55),none⟩,511,2,false⟩]) (.dregion [⟨⟨some 58,.mov (.tmp 12),none⟩,0,0,true⟩,⟨⟨some 59,.mov (.tmp 12),none⟩,0,0,true⟩,⟨⟨some 60,.nilCheck (.tmp 59),none⟩,2,0,true⟩,⟨⟨some 61,.fieldAddr 4 (.tmp 60),none⟩,6,0,true⟩,⟨⟨some 62,.load none (.tmp 61),none⟩,14,1,true⟩,⟨⟨some 63,.load (some 2) (.tmp 13),none⟩,0,1,true⟩,⟨⟨some 64,.buildSlice 93 2 1 [(.int .i64 0),(.int .i64 0)] [(0,2,(.tmp 63))],none⟩,32,3,true⟩,⟨⟨some 65,.append 93 2 16 (.tmp 62) (.tmp 64),none⟩,126,2,false⟩,⟨⟨some 66,.nilCheck (.tmp 58),none⟩,255,0,true⟩,⟨⟨some 67,.fieldAddr 4 (.tmp 66),none⟩,511,0,true⟩,⟨⟨none,.store 1 (.tmp 67) (.tmp 65),none⟩,1023,2,false⟩]))))))) (.region [⟨some 68,.bin .add (.tmp 29) (.val (.int .i64 1)),none⟩,⟨some 29,.mov (.tmp 68),none⟩]))))))) (.seq (.region [⟨some 69,.mov (.tmp 9),none⟩,⟨some 4,.mov (.tmp 69),none⟩,⟨some 5,.mov (.val (.int .i64 0)),none⟩]) .ret)))))),[.tmp 4,.tmp 5]⟩
def c68 : RFunc := ⟨11,.code (.seq (.region [⟨some 1,.box 29 (.tmp 0),none⟩,⟨some 2,.new 29 [(.int .i64 0),(.int .i64 0),.nslice],none⟩]) (.seq (.dregion [⟨⟨some 3,.fieldAddr 0 (.tmp 1),none⟩,0,0,true⟩,⟨⟨some 4,.load none (.tmp 3),none⟩,1,1,true⟩,⟨⟨some 5,.fieldAddr 1 (.tmp 1),none⟩,0,0,true⟩,⟨⟨some 6,.load none (.tmp 5),none⟩,4,1,true⟩,⟨⟨some 7,.fieldAddr 2 (.tmp 1),none⟩,0,0,true⟩,⟨⟨some 8,.load none (.tmp 7),none⟩,16,1,true⟩,⟨⟨some 9,.call (.val (.func (.func 77) [] [])) [.tmp 8],none⟩,48,2,false⟩,⟨⟨some 10,.build [(.int .i64 0),(.int .i64 0),.nslice] [(0,1,(.tmp 4)),(1,1,(.tmp 6)),(2,1,(.tmp 9))],none⟩,127,0,false⟩,⟨⟨none,.store 3 (.tmp 2) (.tmp 10),none⟩,255,2,false⟩]) .ret)),[.cell 2 (some 3)]⟩
def c71 : RFunc := ⟨27,.code (.seq (.region [⟨some 2,.mov (.val (.int .i64 0)),none⟩]) (.seq (.region [⟨some 6,.mov (.tmp 0),none⟩,⟨some 7,.lenS (.tmp 6),none⟩,⟨some 3,.mov (.tmp 7),none⟩]) (.seq (.region [⟨some 4,.mov (.val (.int .i64 0)),none⟩]) (.seq (.block 0 (.loop (.seq (.seq (.region [⟨some 8,.mov (.tmp 4),none⟩,⟨some 9,.mov (.tmp 3),none⟩,⟨some 10,.bin .lss (.tmp 8) (.tmp 9),none⟩]) (.cond (.tmp 10) .skip (.exit 0))) (.seq (.block 1 (.seq (.region [⟨some 13,.mov (.tmp 0),none⟩,⟨some 14,.mov (.tmp 4),none⟩,⟨some 15,.idxS 1 (.tmp 13) (.tmp 14),none⟩,⟨some 16,.load none (.tmp 15),none⟩,⟨some 5,.mov (.tmp 16),none⟩]) (.seq (.region [⟨some 17,.mov (.tmp 5),none⟩,⟨some 18,.bin .geq (.tmp 17) (.val (.int .u8 128)),none⟩]) (.cond (.tmp 18) (.seq (.region [⟨some 19,.mov (.tmp 4),none⟩,⟨some 20,.mov (.tmp 0),none⟩,⟨some 21,.mov (.tmp 4),none⟩,⟨some 22,.sliceS 1 (.tmp 20) (some (.tmp 21)) none none,none⟩,⟨some 23,.bytesToStr (.tmp 22),none⟩,⟨some 24,.call (.val (.func (.func 79) [] [])) [.tmp 23],none⟩,⟨some 25,.bin .add (.tmp 19) (.tmp 24),none⟩,⟨some 2,.mov (.tmp 25),none⟩]) .ret) .skip)))) (.region [⟨some 11,.mov (.tmp 4),none⟩,⟨some 12,.bin .add (.tmp 11) (.val (.int .i64 1)),none⟩,⟨some 4,.mov (.tmp 12),none⟩]))))) (.seq (.region [⟨some 26,.mov (.tmp 4),none⟩,⟨some 2,.mov (.tmp 26),none⟩]) .ret))))),[.tmp 2]⟩
def c73 : RFunc := ⟨200,.code (.seq (.region [⟨some 4,.mov (.val (.int .i64 0)),none⟩]) (.seq (.region [⟨some 20,.mov (.tmp 1),none⟩,⟨some 21,.lenS (.tmp 20),none⟩,⟨some 5,.mov (.tmp 21),none⟩]) (.seq (.block 0 (.seq (.region [⟨some 23,.mov (.tmp 5),none⟩,⟨some 24,.bin .eql (.tmp 23) (.val (.int .i64 0)),none⟩,⟨some 22,.mov (.tmp 24),none⟩]) (.cond (.tmp 22) (.seq (.region [⟨some 4,.mov (.val (.int .i64 0)),none⟩]) .ret) (.seq (.region [⟨some 26,.mov (.tmp 5),none⟩,⟨some 27,.bin .eql (.tmp 26) (.val (.int .i64 1)),none⟩,⟨some 25,.mov (.tmp 27),none⟩]) (.cond (.tmp 25) (.seq (.region [⟨some 28,.mov (.tmp 0),none⟩,⟨some 29,.mov (.tmp 1),none⟩,⟨some 30,.idxS 1 (.tmp 29) (.val (.int .i64 0)),none⟩,⟨some 31,.load none (.tmp 30),none⟩,⟨some 32,.call (.val (.func (.func 80) [] [])) [.tmp 28,.tmp 31],none⟩,⟨some 4,.mov (.tmp 32),none⟩]) .ret) (.seq (.region [⟨some 34,.mov (.tmp 5),none⟩,⟨some 35,.mov (.tmp 0),none⟩,⟨some 36,.lenS (.tmp 35),none⟩,⟨some 37,.bin .eql (.tmp 34) (.tmp 36),none⟩,⟨some 33,.mov (.tmp 37),none⟩]) (.cond (.tmp 33) (.seq (.seq (.region [⟨some 38,.mov (.tmp 1),none⟩,⟨some 39,.mov (.tmp 0),none⟩,⟨some 40,.call (.val (.func (.func 81) [] [])) [.tmp 38,.tmp 39],none⟩]) (.cond (.tmp 40) (.seq (.region [⟨some 4,.mov (.val (.int .i64 0)),none⟩]) .ret) .skip)) (.seq (.region [⟨some 4,.mov (.val (.int .i64 (-1))),none⟩]) .ret)) (.seq (.region [⟨some 42,.mov (.tmp 5),none⟩,⟨some 43,.mov (.tmp 0),none⟩,⟨some 44,.lenS (.tmp 43),none⟩,⟨some 45,.bin .gtr (.tmp 42) (.tmp 44),none⟩,⟨some 41,.mov (.tmp 45),none⟩]) (.cond (.tmp 41) (.seq (.region [⟨some 4,.mov (.val (.int .i64 (-1))),none⟩]) .ret) (.seq (.region [⟨some 47,.mov (.tmp 5),none⟩,⟨some 48,.load none (.val (.ptr 0 0)),none⟩,⟨some 49,.bin .leq (.tmp 47) (.tmp 48),none⟩,⟨some 46,.mov (.tmp 49),none⟩]) (.cond (.tmp 46) (.seq (.seq (.region [⟨some 50,.mov (.tmp 0),none⟩,⟨some 51,.lenS (.tmp 50),none⟩,⟨some 52,.bin .leq (.tmp 51) (.val (.int .i64 64)),none⟩]) (.cond (.tmp 52) (.seq (.region [⟨some 53,.mov (.tmp 0),none⟩,⟨some 54,.mov (.tmp 1),none⟩,⟨some 55,.call (.val (.func (.func 82) [] [])) [.tmp 53,.tmp 54],none⟩,⟨some 4,.mov (.tmp 55),none⟩]) .ret) .skip)) (.seq (.region [⟨some 56,.mov (.tmp 1),none⟩,⟨some 57,.idxS 1 (.tmp 56) (.val (.int .i64 0)),none⟩,⟨some 58,.load none (.tmp 57),none⟩,⟨some 6,.mov (.tmp 58),none⟩]) (.seq (.region [⟨some 59,.mov (.tmp 1),none⟩,⟨some 60,.idxS 1 (.tmp 59) (.val (.int .i64 1)),none⟩,⟨some 61,.load none (.tmp 60),none⟩,⟨some 7,.mov (.tmp 61),none⟩]) (.seq (.region [⟨some 8,.mov (.val (.int .i64 0)),none⟩]) (.seq (.region [⟨some 62,.mov (.tmp 0),none⟩,⟨some 63,.lenS (.tmp 62),none⟩,⟨some 64,.mov (.tmp 5),none⟩,⟨some 65,.bin .sub (.tmp 63) (.tmp 64),none⟩,⟨some 66,.bin .add (.tmp 65) (.val (.int .i64 1)),none⟩,⟨some 9,.mov (.tmp 66),none⟩]) (.seq (.region [⟨some 10,.mov (.val (.int .i64 0)),none⟩]) (.seq (.block 1 (.loop (.seq (.seq (.region [⟨some 67,.mov (.tmp 8),none⟩,⟨some 68,.mov (.tmp 9),none⟩,⟨some 69,.bin .lss (.tmp 67) (.tmp 68),none⟩]) (.cond (.tmp 69) .skip (.exit 1))) (.block 2 (.seq (.seq (.region [⟨some 70,.mov (.tmp 0),none⟩,⟨some 71,.mov (.tmp 8),none⟩,⟨some 72,.idxS 1 (.tmp 70) (.tmp 71),none⟩,⟨some 73,.load none (.tmp 72),none⟩,⟨some 74,.mov (.tmp 6),none⟩,⟨some 75,.bin .neq (.tmp 73) (.tmp 74),none⟩]) (.cond (.tmp 75) (.seq (.region [⟨some 76,.mov (.tmp 0),none⟩,⟨some 77,.mov (.tmp 8),none⟩,⟨some 78,.bin .add (.tmp 77) (.val (.int .i64 1)),none⟩,⟨some 79,.mov (.tmp 9),none⟩,⟨some 80,.sliceS 1 (.tmp 76) (some (.tmp 78)) (some (.tmp 79)) none,none⟩,⟨some 81,.mov (.tmp 6),none⟩,⟨some 82,.call (.val (.func (.func 80) [] [])) [.tmp 80,.tmp 81],none⟩,⟨some 11,.mov (.tmp 82),none⟩]) (.seq (.seq (.region [⟨some 83,.mov (.tmp 11),none⟩,⟨some 84,.bin .lss (.tmp 83) (.val (.int .i64 0)),none⟩]) (.cond (.tmp 84) (.seq (.region [⟨some 4,.mov (.val (.int .i64 (-1))),none⟩]) .ret) .skip)) (.region [⟨some 85,.mov (.tmp 8),none⟩,⟨some 86,.mov (.tmp 11),none⟩,⟨some 87,.bin .add (.tmp 86) (.val (.int .i64 1)),none⟩,⟨some 88,.bin .add (.tmp 85) (.tmp 87),none⟩,⟨some 8,.mov (.tmp 88),none⟩]))) .skip)) (.seq (.seq (.region [⟨some 89,.mov (.tmp 0),none⟩,⟨some 90,.mov (.tmp 8),none⟩,⟨some 91,.bin .add (.tmp 90) (.val (.int .i64 1)),none⟩,⟨some 92,.idxS 1 (.tmp 89) (.tmp 91),none⟩,⟨some 93,.load none (.tmp 92),none⟩,⟨some 94,.mov (.tmp 7),none⟩,⟨some 95,.bin .eql (.tmp 93) (.tmp 94),none⟩,⟨some 96,.mov (.tmp 95),none⟩,⟨some 97,.mov (.tmp 0),some (96,true)⟩,⟨some 98,.mov (.tmp 8),some (96,true)⟩,⟨some 99,.mov (.tmp 8),some (96,true)⟩,⟨some 100,.mov (.tmp 5),some (96,true)⟩,⟨some 101,.bin .add (.tmp 99) (.tmp 100),some (96,true)⟩,⟨some 102,.sliceS 1 (.tmp 97) (some (.tmp 98)) (some (.tmp 101)) none,some (96,true)⟩,⟨some 103,.mov (.tmp 1),some (96,true)⟩,⟨some 104,.call (.val (.func (.func 81) [] [])) [.tmp 102,.tmp 103],some (96,true)⟩,⟨some 105,.pick (.tmp 96) (.tmp 104) (.val (.bool false)),none⟩]) (.cond (.tmp 105) (.seq (.region [⟨some 106,.mov (.tmp 8),none⟩,⟨some 4,.mov (.tmp 106),none⟩]) .ret) .skip)) (.seq (.region [⟨some 107,.mov (.tmp 10),none⟩,⟨some 108,.bin .add (.tmp 107) (.val (.int .i64 1)),none⟩,⟨some 10,.mov (.tmp 108),none⟩]) (.seq (.region [⟨some 109,.mov (.tmp 8),none⟩,⟨some 110,.bin .add (.tmp 109) (.val (.int .i64 1)),none⟩,⟨some 8,.mov (.tmp 110),none⟩]) (.seq (.region [⟨some 111,.mov (.tmp 10),none⟩,⟨some 112,.mov (.tmp 8),none⟩,⟨some 113,.call (.val (.func (.func 83) [] [])) [.tmp 112],none⟩,⟨some 114,.bin .gtr (.tmp 111) (.tmp 113),none⟩]) (.cond (.tmp 114) (.seq (.region [⟨some 115,.mov (.tmp 0),none⟩,⟨some 116,.mov (.tmp 8),none⟩,⟨some 117,.sliceS 1 (.tmp 115) (some (.tmp 116)) none none,none⟩,⟨some 118,.mov (.tmp 1),none⟩,⟨some 119,.call (.val (.func (.func 82) [] [])) [.tmp 117,.tmp 118],none⟩,⟨some 12,.mov (.tmp 119),none⟩]) (.seq (.seq (.region [⟨some 120,.mov (.tmp 12),none⟩,⟨some 121,.bin .geq (.tmp 120) (.val (.int .i64 0)),none⟩]) (.cond (.tmp 121) (.seq (.region [⟨some 122,.mov (.tmp 12),none⟩,⟨some 123,.mov (.tmp 8),none⟩,⟨some 124,.bin .add (.tmp 122) (.tmp 123),none⟩,⟨some 4,.mov (.tmp 124),none⟩]) .ret) .skip)) (.seq (.region [⟨some 4,.mov (.val (.int .i64 (-1))),none⟩]) .ret))) .skip)))))))))) (.seq (.region [⟨some 4,.mov (.val (.int .i64 (-1))),none⟩]) .ret)))))))) .skip))))))))))) (.seq (.region [⟨some 125,.mov (.tmp 1),none⟩,⟨some 126,.idxS 1 (.tmp 125) (.val (.int .i64 0)),none⟩,⟨some 127,.load none (.tmp 126),none⟩,⟨some 13,.mov (.tmp 127),none⟩]) (.seq (.region [⟨some 128,.mov (.tmp 1),none⟩,⟨some 129,.idxS 1 (.tmp 128) (.val (.int .i64 1)),none⟩,⟨some 130,.load none (.tmp 129),none⟩,⟨some 14,.mov (.tmp 130),none⟩]) (.seq (.region [⟨some 15,.mov (.val (.int .i64 0)),none⟩]) (.seq (.region [⟨some 16,.mov (.val (.int .i64 0)),none⟩]) (.seq (.region [⟨some 131,.mov (.tmp 0),none⟩,⟨some 132,.lenS (.tmp 131),none⟩,⟨some 133,.mov (.tmp 5),none⟩,⟨some 134,.bin .sub (.tmp 132) (.tmp 133),none⟩,⟨some 135,.bin .add (.tmp 134) (.val (.int .i64 1)),none⟩,⟨some 17,.mov (.tmp 135),none⟩]) (.seq (.block 3 (.loop (.seq (.seq (.region [⟨some 136,.mov (.tmp 15),none⟩,⟨some 137,.mov (.tmp 17),none⟩,⟨some 138,.bin .lss (.tmp 136) (.tmp 137),none⟩]) (.cond (.tmp 138) .skip (.exit 3))) (.block 4 (.seq (.seq (.region [⟨some 139,.mov (.tmp 0),none⟩,⟨some 140,.mov (.tmp 15),none⟩,⟨some 141,.idxS 1 (.tmp 139) (.tmp 140),none⟩,⟨some 142,.load none (.tmp 141),none⟩,⟨some 143,.mov (.tmp 13),none⟩,⟨some 144,.bin .neq (.tmp 142) (.tmp 143),none⟩]) (.cond (.tmp 144) (.seq (.region [⟨some 145,.mov (.tmp 0),none⟩,⟨some 146,.mov (.tmp 15),none⟩,⟨some 147,.bin .add (.tmp 146) (.val (.int .i64 1)),none⟩,⟨some 148,.mov (.tmp 17),none⟩,⟨some 149,.sliceS 1 (.tmp 145) (some (.tmp 147)) (some (.tmp 148)) none,none⟩,⟨some 150,.mov (.tmp 13),none⟩,⟨some 151,.call (.val (.func (.func 80) [] [])) [.tmp 149,.tmp 150],none⟩,⟨some 18,.mov (.tmp 151),none⟩]) (.seq (.seq (.region [⟨some 152,.mov (.tmp 18),none⟩,⟨some 153,.bin .lss (.tmp 152) (.val (.int .i64 0)),none⟩]) (.cond (.tmp 153) (.exit 3) .skip)) (.region [⟨some 154,.mov (.tmp 15),none⟩,⟨some 155,.mov (.tmp 18),none⟩,⟨some 156,.bin .add (.tmp 155) (.val (.int .i64 1)),none⟩,⟨some 157,.bin .add (.tmp 154) (.tmp 156),none⟩,⟨some 15,.mov (.tmp 157),none⟩]))) .skip)) (.seq (.seq (.region [⟨some 158,.mov (.tmp 0),none⟩,⟨some 159,.mov (.tmp 15),none⟩,⟨some 160,.bin .add (.tmp 159) (.val (.int .i64 1)),none⟩,⟨some 161,.idxS 1 (.tmp 158) (.tmp 160),none⟩,⟨some 162,.load none (.tmp 161),none⟩,⟨some 163,.mov (.tmp 14),none⟩,⟨some 164,.bin .eql (.tmp 162) (.tmp 163),none⟩,⟨some 165,.mov (.tmp 164),none⟩,⟨some 166,.mov (.tmp 0),some (165,true)⟩,⟨some 167,.mov (.tmp 15),some (165,true)⟩,⟨some 168,.mov (.tmp 15),some (165,true)⟩,⟨some 169,.mov (.tmp 5),some (165,true)⟩,⟨some 170,.bin .add (.tmp 168) (.tmp 169),some (165,true)⟩,⟨some 171,.sliceS 1 (.tmp 166) (some (.tmp 167)) (some (.tmp 170)) none,some (165,true)⟩,⟨some 172,.mov (.tmp 1),some (165,true)⟩,⟨some 173,.call (.val (.func (.func 81) [] [])) [.tmp 171,.tmp 172],some (165,true)⟩,⟨some 174,.pick (.tmp 165) (.tmp 173) (.val (.bool false)),none⟩]) (.cond (.tmp 174) (.seq (.region [⟨some 175,.mov (.tmp 15),none⟩,⟨some 4,.mov (.tmp 175),none⟩]) .ret) .skip)) (.seq (.region [⟨some 176,.mov (.tmp 15),none⟩,⟨some 177,.bin .add (.tmp 176) (.val (.int .i64 1)),none⟩,⟨some 15,.mov (.tmp 177),none⟩]) (.seq (.region [⟨some 178,.mov (.tmp 16),none⟩,⟨some 179,.bin .add (.tmp 178) (.val (.int .i64 1)),none⟩,⟨some 16,.mov (.tmp 179),none⟩]) (.seq (.region [⟨some 180,.mov (.tmp 16),none⟩,⟨some 181,.mov (.tmp 15),none⟩,⟨some 182,.bin .shr (.tmp 181) (.val (.int .u64 4)),none⟩,⟨some 183,.bin .add (.val (.int .i64 4)) (.tmp 182),none⟩,⟨some 184,.bin .geq (.tmp 180) (.tmp 183),none⟩,⟨some 185,.mov (.tmp 184),none⟩,⟨some 186,.mov (.tmp 15),some (185,true)⟩,⟨some 187,.mov (.tmp 17),some (185,true)⟩,⟨some 188,.bin .lss (.tmp 186) (.tmp 187),some (185,true)⟩,⟨some 189,.pick (.tmp 185) (.tmp 188) (.val (.bool false)),none⟩]) (.cond (.tmp 189) (.seq (.region [⟨some 190,.mov (.tmp 0),none⟩,⟨some 191,.mov (.tmp 15),none⟩,⟨some 192,.sliceS 1 (.tmp 190) (some (.tmp 191)) none none,none⟩,⟨some 193,.mov (.tmp 1),none⟩,⟨some 194,.call (.val (.func (.func 84) [] [])) [.tmp 192,.tmp 193],none⟩,⟨some 19,.mov (.tmp 194),none⟩]) (.seq (.seq (.region [⟨some 195,.mov (.tmp 19),none⟩,⟨some 196,.bin .lss (.tmp 195) (.val (.int .i64 0)),none⟩]) (.cond (.tmp 196) (.seq (.region [⟨some 4,.mov (.val (.int .i64 (-1))),none⟩]) .ret) .skip)) (.seq (.region [⟨some 197,.mov (.tmp 15),none⟩,⟨some 198,.mov (.tmp 19),none⟩,⟨some 199,.bin .add (.tmp 197) (.tmp 198),none⟩,⟨some 4,.mov (.tmp 199),none⟩]) .ret))) .skip)))))))))) (.seq (.region [⟨some 4,.mov (.val (.int .i64 (-1))),none⟩]) .ret)))))))))),[.tmp 4]⟩
def c74 : RFunc := ⟨54,.code (.seq (.region [⟨some 1,.box 29 (.tmp 0),none⟩,⟨some 2,.mov (.val .nslice),none⟩,⟨some 3,.mov (.val .nslice),none⟩,⟨some 4,.mov (.val (.int .i64 0)),none⟩]) (.seq (.seq (.region [⟨some 9,.load (some 3) (.tmp 1),none⟩,⟨some 10,.call (.val (.func (.func 37) [] [])) [.tmp 9],none⟩,⟨some 5,.mov (.tmp 10),none⟩]) (.seq (.region [⟨some 11,.mov (.tmp 5),none⟩,⟨some 12,.bin .neq (.tmp 11) (.val (.int .i64 0)),none⟩]) (.cond (.tmp 12) (.seq (.region [⟨some 13,.mov (.tmp 5),none⟩,⟨some 2,.mov (.val .nslice),none⟩,⟨some 3,.mov (.val .nslice),none⟩,⟨some 4,.mov (.tmp 13),none⟩]) .ret) .skip))) (.seq (.dregion [⟨⟨some 14,.fieldAddr 1 (.tmp 1),none⟩,0,0,true⟩,⟨⟨some 15,.load none (.tmp 14),none⟩,1,1,true⟩,⟨⟨some 16,.makeSlice 3 [(.int .i64 0)] 8 (.tmp 15) (.tmp 15),none⟩,3,3,true⟩,⟨⟨some 17,.fieldAddr 0 (.tmp 1),none⟩,0,0,true⟩,⟨⟨some 18,.load none (.tmp 17),none⟩,8,1,true⟩,⟨⟨some 19,.makeSlice 3 [(.int .i64 0)] 8 (.tmp 18) (.tmp 18),none⟩,24,3,true⟩,⟨⟨some 2,.mov (.tmp 16),none⟩,7,0,true⟩,⟨⟨some 3,.mov (.tmp 19),none⟩,127,0,true⟩]) (.seq (.seq (.region [⟨some 20,.fieldAddr 1 (.tmp 1),none⟩,⟨some 21,.load none (.tmp 20),none⟩,⟨some 22,.mov (.val (.int .i64 0)),none⟩]) (.block 0 (.loop (.seq (.region [⟨some 23,.bin .lss (.tmp 22) (.tmp 21),none⟩]) (.seq (.cond (.tmp 23) .skip (.exit 0)) (.seq (.block 1 (.seq (.region [⟨some 24,.mov (.tmp 22),none⟩,⟨some 6,.mov (.tmp 24),none⟩]) (.seq (.region [⟨some 25,.load (some 3) (.tmp 1),none⟩,⟨some 26,.mov (.tmp 6),none⟩,⟨some 27,.call (.val (.func (.func 85) [] [])) [.tmp 25,.tmp 26],none⟩,⟨some 28,.lenS (.tmp 27),none⟩,⟨some 29,.mov (.val (.int .i64 0)),none⟩]) (.block 2 (.loop (.seq (.region [⟨some 30,.bin .lss (.tmp 29) (.tmp 28),none⟩]) (.seq (.cond (.tmp 30) .skip (.exit 2)) (.seq (.block 3 (.seq (.region [⟨some 31,.mov (.tmp 29),none⟩,⟨some 32,.idxS 1 (.tmp 27) (.tmp 29),none⟩,⟨some 33,.load none (.tmp 32),none⟩,⟨some 7,.mov (.tmp 31),none⟩,⟨some 8,.mov (.tmp 33),none⟩]) (.seq (.region [⟨some 34,.mov (.tmp 2),none⟩,⟨some 35,.mov (.tmp 6),none⟩,⟨some 36,.idxS 1 (.tmp 34) (.tmp 35),none⟩,⟨some 37,.load none (.tmp 36),none⟩,⟨some 38,.mov (.tmp 8),none⟩,⟨some 39,.convInt .i64 (.tmp 38),none⟩,⟨some 40,.bin .add (.tmp 37) (.tmp 39),none⟩,⟨some 41,.idxS 1 (.tmp 34) (.tmp 35),none⟩,⟨none,.store 1 (.tmp 41) (.tmp 40),none⟩]) (.region [⟨some 42,.mov (.tmp 3),none⟩,⟨some 43,.mov (.tmp 7),none⟩,⟨some 44,.idxS 1 (.tmp 42) (.tmp 43),none⟩,⟨some 45,.load none (.tmp 44),none⟩,⟨some 46,.mov (.tmp 8),none⟩,⟨some 47,.convInt .i64 (.tmp 46),none⟩,⟨some 48,.bin .add (.tmp 45) (.tmp 47),none⟩,⟨some 49,.idxS 1 (.tmp 42) (.tmp 43),none⟩,⟨none,.store 1 (.tmp 49) (.tmp 48),none⟩])))) (.region [⟨some 50,.bin .add (.tmp 29) (.val (.int .i64 1)),none⟩,⟨some 29,.mov (.tmp 50),none⟩]))))))))) (.region [⟨some 51,.bin .add (.tmp 22) (.val (.int .i64 1)),none⟩,⟨some 22,.mov (.tmp 51),none⟩]))))))) (.seq (.region [⟨some 52,.mov (.tmp 2),none⟩,⟨some 53,.mov (.tmp 3),none⟩,⟨some 2,.mov (.tmp 52),none⟩,⟨some 3,.mov (.tmp 53),none⟩,⟨some 4,.mov (.val (.int .i64 0)),none⟩]) .ret))))),[.tmp 2,.tmp 3,.tmp 4]⟩
def c75 : RFunc := ⟨40,.code (.seq (.region [⟨some 2,.box 29 (.tmp 0),none⟩,⟨some 4,.mov (.val .nslice),none⟩,⟨some 5,.mov (.val (.int .i64 0)),none⟩]) (.seq (.region [⟨some 8,.fieldAddr 2 (.tmp 2),none⟩,⟨some 9,.load none (.tmp 8),none⟩,⟨some 10,.lenS (.tmp 9),none⟩,⟨some 11,.makeSlice 3 [(.int .i64 0)] 8 (.tmp 10) (.tmp 10),none⟩,⟨some 4,.mov (.tmp 11),none⟩]) (.seq (.seq (.region [⟨some 12,.fieldAddr 2 (.tmp 2),none⟩,⟨some 13,.load none (.tmp 12),none⟩,⟨some 14,.lenS (.tmp 13),none⟩,⟨some 15,.mov (.val (.int .i64 0)),none⟩]) (.block 0 (.loop (.seq (.region [⟨some 16,.bin .lss (.tmp 15) (.tmp 14),none⟩]) (.seq (.cond (.tmp 16) .skip (.exit 0)) (.seq (.block 1 (.seq (.region [⟨some 17,.mov (.tmp 15),none⟩,⟨some 18,.idxS 1 (.tmp 13) (.tmp 15),none⟩,⟨some 19,.load none (.tmp 18),none⟩,⟨some 6,.mov (.tmp 17),none⟩,⟨some 7,.mov (.tmp 19),none⟩]) (.seq (.region [⟨some 20,.mov (.tmp 7),none⟩,⟨some 21,.bin .eql (.tmp 20) (.val (.int .u8 1)),none⟩,⟨some 22,.mov (.tmp 21),none⟩,⟨some 23,.mov (.tmp 4),some (22,true)⟩,⟨some 24,.mov (.tmp 6),some (22,true)⟩,⟨some 25,.idxS 1 (.tmp 23) (.tmp 24),some (22,true)⟩,⟨some 26,.load none (.tmp 25),some (22,true)⟩,⟨some 27,.bin .eql (.tmp 26) (.val (.int .i64 0)),some (22,true)⟩,⟨some 28,.pick (.tmp 22) (.tmp 27) (.val (.bool false)),none⟩]) (.cond (.tmp 28) (.seq (.region [⟨some 29,.mov (.tmp 5),none⟩,⟨some 30,.bin .add (.tmp 29) (.val (.int .i64 1)),none⟩,⟨some 5,.mov (.tmp 30),none⟩]) (.region [⟨some 31,.load (some 3) (.tmp 2),none⟩,⟨some 32,.mov (.tmp 1),none⟩,⟨some 33,.mov (.tmp 4),none⟩,⟨some 34,.mov (.tmp 6),none⟩,⟨some 35,.mov (.tmp 5),none⟩,⟨some 36,.call (.val (.func (.func 86) [] [])) [.tmp 31,.tmp 32,.tmp 33,.tmp 34,.tmp 35],none⟩])) .skip)))) (.region [⟨some 37,.bin .add (.tmp 15) (.val (.int .i64 1)),none⟩,⟨some 15,.mov (.tmp 37),none⟩]))))))) (.seq (.region [⟨some 38,.mov (.tmp 4),none⟩,⟨some 39,.mov (.tmp 5),none⟩,⟨some 4,.mov (.tmp 38),none⟩,⟨some 5,.mov (.tmp 39),none⟩]) .ret)))),[.tmp 4,.tmp 5]⟩
def c76 : RFunc := ⟨50,.code (.seq (.region [⟨some 2,.box 88 (.tmp 0),none⟩,⟨some 3,.box 93 (.tmp 1),none⟩,⟨some 4,.new 88 [(.int .i64 0),(.int .i64 0),(.int .i64 0),(.int .i64 0)],none⟩]) (.seq (.seq (.region [⟨some 7,.fieldAddr 2 (.tmp 2),none⟩,⟨some 8,.load none (.tmp 7),none⟩,⟨some 9,.bin .eql (.tmp 8) (.val (.int .i64 0)),none⟩]) (.cond (.tmp 9) (.seq (.region [⟨some 10,.fieldAddr 0 (.tmp 3),none⟩,⟨some 11,.load none (.tmp 10),none⟩,⟨some 12,.fieldAddr 1 (.tmp 3),none⟩,⟨some 13,.load none (.tmp 12),none⟩,⟨some 14,.build [(.int .i64 0),(.int .i64 0),(.int .i64 0),(.int .i64 0)] [(0,1,(.tmp 11)),(1,1,(.tmp 13)),(2,1,(.val (.int .i64 1))),(3,1,(.val (.int .i64 1)))],none⟩,⟨none,.store 4 (.tmp 4) (.tmp 14),none⟩]) .ret) .skip)) (.seq (.dregion [⟨⟨some 15,.fieldAddr 0 (.tmp 2),none⟩,0,0,true⟩,⟨⟨some 16,.load none (.tmp 15),none⟩,1,1,true⟩,⟨⟨some 17,.fieldAddr 0 (.tmp 3),none⟩,0,0,true⟩,⟨⟨some 18,.load none (.tmp 17),none⟩,4,1,true⟩,⟨⟨some 19,.minmax false [.tmp 16,.tmp 18],none⟩,15,0,true⟩,⟨⟨some 20,.fieldAddr 1 (.tmp 2),none⟩,0,0,true⟩,⟨⟨some 21,.load none (.tmp 20),none⟩,32,1,true⟩,⟨⟨some 22,.fieldAddr 1 (.tmp 3),none⟩,0,0,true⟩,⟨⟨some 23,.load none (.tmp 22),none⟩,128,1,true⟩,⟨⟨some 24,.minmax false [.tmp 21,.tmp 23],none⟩,480,0,true⟩,⟨⟨some 5,.mov (.tmp 19),none⟩,31,0,true⟩,⟨⟨some 6,.mov (.tmp 24),none⟩,2047,0,true⟩]) (.seq (.region [⟨some 25,.mov (.tmp 5),none⟩,⟨some 26,.mov (.tmp 6),none⟩,⟨some 27,.fieldAddr 0 (.tmp 2),none⟩,⟨some 28,.load none (.tmp 27),none⟩,⟨some 29,.fieldAddr 2 (.tmp 2),none⟩,⟨some 30,.load none (.tmp 29),none⟩,⟨some 31,.bin .add (.tmp 28) (.tmp 30),none⟩,⟨some 32,.fieldAddr 0 (.tmp 3),none⟩,⟨some 33,.load none (.tmp 32),none⟩,⟨some 34,.bin .add (.tmp 33) (.val (.int .i64 1)),none⟩,⟨some 35,.minmax true [.tmp 31,.tmp 34],none⟩,⟨some 36,.mov (.tmp 5),none⟩,⟨some 37,.bin .sub (.tmp 35) (.tmp 36),none⟩,⟨some 38,.fieldAddr 1 (.tmp 2),none⟩,⟨some 39,.load none (.tmp 38),none⟩,⟨some 40,.fieldAddr 3 (.tmp 2),none⟩,⟨some 41,.load none (.tmp 40),none⟩,⟨some 42,.bin .add (.tmp 39) (.tmp 41),none⟩,⟨some 43,.fieldAddr 1 (.tmp 3),none⟩,⟨some 44,.load none (.tmp 43),none⟩,⟨some 45,.bin .add (.tmp 44) (.val (.int .i64 1)),none⟩,⟨some 46,.minmax true [.tmp 42,.tmp 45],none⟩,⟨some 47,.mov (.tmp 6),none⟩,⟨some 48,.bin .sub (.tmp 46) (.tmp 47),none⟩,⟨some 49,.build [(.int .i64 0),(.int .i64 0),(.int .i64 0),(.int .i64 0)] [(0,1,(.tmp 25)),(1,1,(.tmp 26)),(2,1,(.tmp 37)),(3,1,(.tmp 48))],none⟩,⟨none,.store 4 (.tmp 4) (.tmp 49),none⟩]) .ret)))),[.cell 4 (some 4)]⟩
def c77 : RFunc := ⟨8,.code (.seq (.region [⟨some 2,.mov (.val .nslice),none⟩]) (.seq (.seq (.region [⟨some 3,.mov (.tmp 0),none⟩,⟨some 4,.eq false .slice (.tmp 3) (.val .nslice),none⟩]) (.cond (.tmp 4) (.seq (.region [⟨some 2,.mov (.val .nslice),none⟩]) .ret) .skip)) (.seq (.region [⟨some 5,.buildSlice 5 1 0 [] [],none⟩,⟨some 6,.mov (.tmp 0),none⟩,⟨some 7,.append 5 1 1 (.tmp 5) (.tmp 6),none⟩,⟨some 2,.mov (.tmp 7),none⟩]) .ret))),[.tmp 2]⟩
def c79 : RFunc := ⟨10,.code (.seq (.region [⟨some 2,.mov (.val (.int .i64 0)),none⟩]) (.seq (.seq .fail (.block 0 (.loop (.seq .fail (.seq (.cond (.tmp 6) .skip (.exit 0)) (.block 1 (.region [⟨some 7,.mov (.tmp 2),none⟩,⟨some 8,.bin .add (.tmp 7) (.val (.int .i64 1)),none⟩,⟨some 2,.mov (.tmp 8),none⟩]))))))) (.seq (.region [⟨some 9,.mov (.tmp 2),none⟩,⟨some 2,.mov (.tmp 9),none⟩]) .ret))),[.tmp 2]⟩
def c80 : RFunc := ⟨8,.code (.seq (.region [⟨some 4,.mov (.val (.int .i64 0)),none⟩]) (.seq (.region [⟨some 5,.mov (.tmp 0),none⟩,⟨some 6,.mov (.tmp 1),none⟩,⟨some 7,.call (.val (.func (.func 87) [] [])) [.tmp 5,.tmp 6],none⟩,⟨some 4,.mov (.tmp 7),none⟩]) .ret)),[.tmp 4]⟩
def c81 : RFunc := ⟨10,.code (.seq (.region [⟨some 4,.mov (.val (.bool false)),none⟩]) (.seq (.region [⟨some 5,.mov (.tmp 0),none⟩,⟨some 6,.bytesToStr (.tmp 5),none⟩,⟨some 7,.mov (.tmp 1),none⟩,⟨some 8,.bytesToStr (.tmp 7),none⟩,⟨some 9,.bin .eql (.tmp 6) (.tmp 8),none⟩,⟨some 4,.mov (.tmp 9),none⟩]) .ret)),[.tmp 4]⟩
def c83 : RFunc := ⟨6,.code (.seq (.region [⟨some 2,.mov (.val (.int .i64 0)),none⟩]) (.seq (.region [⟨some 3,.mov (.tmp 0),none⟩,⟨some 4,.bin .add (.tmp 3) (.val (.int .i64 16)),none⟩,⟨some 5,.bin .quo (.tmp 4) (.val (.int .i64 8)),none⟩,⟨some 2,.mov (.tmp 5),none⟩]) .ret)),[.tmp 2]⟩
def c84 : RFunc := ⟨88,.code (.seq (.region [⟨some 4,.mov (.val (.int .i64 0)),none⟩]) (.seq (.region [⟨some 12,.mov (.tmp 1),none⟩,⟨some 13,.call (.val (.func (.func 88) [] [])) [.tmp 12],none⟩,⟨some 11,.mov (.tmp 13),none⟩,⟨some 14,.extract (.tmp 11) 0,none⟩,⟨some 15,.extract (.tmp 11) 1,none⟩,⟨some 5,.mov (.tmp 14),none⟩,⟨some 6,.mov (.tmp 15),none⟩]) (.seq (.region [⟨some 16,.mov (.tmp 1),none⟩,⟨some 17,.lenS (.tmp 16),none⟩,⟨some 7,.mov (.tmp 17),none⟩]) (.seq (.region [⟨some 8,.mov (.val (.int .u32 0)),none⟩]) (.seq (.seq (.region [⟨some 9,.mov (.val (.int .i64 0)),none⟩]) (.block 0 (.loop (.seq (.seq (.region [⟨some 18,.mov (.tmp 9),none⟩,⟨some 19,.mov (.tmp 7),none⟩,⟨some 20,.bin .lss (.tmp 18) (.tmp 19),none⟩]) (.cond (.tmp 20) .skip (.exit 0))) (.seq (.block 1 (.region [⟨some 23,.mov (.tmp 8),none⟩,⟨some 24,.bin .mul (.tmp 23) (.val (.int .u32 16777619)),none⟩,⟨some 25,.mov (.tmp 0),none⟩,⟨some 26,.mov (.tmp 9),none⟩,⟨some 27,.idxS 1 (.tmp 25) (.tmp 26),none⟩,⟨some 28,.load none (.tmp 27),none⟩,⟨some 29,.convInt .u32 (.tmp 28),none⟩,⟨some 30,.bin .add (.tmp 24) (.tmp 29),none⟩,⟨some 8,.mov (.tmp 30),none⟩])) (.region [⟨some 21,.mov (.tmp 9),none⟩,⟨some 22,.bin .add (.tmp 21) (.val (.int .i64 1)),none⟩,⟨some 9,.mov (.tmp 22),none⟩])))))) (.seq (.seq (.dregion [⟨⟨some 31,.mov (.tmp 8),none⟩,0,0,true⟩,⟨⟨some 32,.mov (.tmp 5),none⟩,0,0,true⟩,⟨⟨some 33,.bin .eql (.tmp 31) (.tmp 32),none⟩,3,0,true⟩,⟨⟨some 34,.mov (.tmp 33),none⟩,7,0,true⟩,⟨⟨some 35,.mov (.tmp 0),some (34,true)⟩,15,0,true⟩,⟨⟨some 36,.mov (.tmp 7),some (34,true)⟩,15,0,true⟩,⟨⟨some 37,.sliceS 1 (.tmp 35) none (some (.tmp 36)) none,some (34,true)⟩,63,1,true⟩,⟨⟨some 38,.bytesToStr (.tmp 37),some (34,true)⟩,127,1,true⟩,⟨⟨some 39,.mov (.tmp 1),some (34,true)⟩,15,0,true⟩,⟨⟨some 40,.bytesToStr (.tmp 39),some (34,true)⟩,271,1,true⟩,⟨⟨some 41,.bin .eql (.tmp 38) (.tmp 40),some (34,true)⟩,1023,0,true⟩,⟨⟨some 42,.pick (.tmp 34) (.tmp 41) (.val (.bool false)),none⟩,2047,0,true⟩]) (.cond (.tmp 42) (.seq (.region [⟨some 4,.mov (.val (.int .i64 0)),none⟩]) .ret) .skip)) (.seq (.seq (.region [⟨some 43,.mov (.tmp 7),none⟩,⟨some 10,.mov (.tmp 43),none⟩]) (.block 2 (.loop (.seq (.seq (.region [⟨some 44,.mov (.tmp 10),none⟩,⟨some 45,.mov (.tmp 0),none⟩,⟨some 46,.lenS (.tmp 45),none⟩,⟨some 47,.bin .lss (.tmp 44) (.tmp 46),none⟩]) (.cond (.tmp 47) .skip (.exit 2))) (.block 3 (.seq (.region [⟨some 48,.mov (.tmp 8),none⟩,⟨some 49,.bin .mul (.tmp 48) (.val (.int .u32 16777619)),none⟩,⟨some 8,.mov (.tmp 49),none⟩]) (.seq (.region [⟨some 50,.mov (.tmp 8),none⟩,⟨some 51,.mov (.tmp 0),none⟩,⟨some 52,.mov (.tmp 10),none⟩,⟨some 53,.idxS 1 (.tmp 51) (.tmp 52),none⟩,⟨some 54,.load none (.tmp 53),none⟩,⟨some 55,.convInt .u32 (.tmp 54),none⟩,⟨some 56,.bin .add (.tmp 50) (.tmp 55),none⟩,⟨some 8,.mov (.tmp 56),none⟩]) (.seq (.region [⟨some 57,.mov (.tmp 8),none⟩,⟨some 58,.mov (.tmp 6),none⟩,⟨some 59,.mov (.tmp 0),none⟩,⟨some 60,.mov (.tmp 10),none⟩,⟨some 61,.mov (.tmp 7),none⟩,⟨some 62,.bin .sub (.tmp 60) (.tmp 61),none⟩,⟨some 63,.idxS 1 (.tmp 59) (.tmp 62),none⟩,⟨some 64,.load none (.tmp 63),none⟩,⟨some 65,.convInt .u32 (.tmp 64),none⟩,⟨some 66,.bin .mul (.tmp 58) (.tmp 65),none⟩,⟨some 67,.bin .sub (.tmp 57) (.tmp 66),none⟩,⟨some 8,.mov (.tmp 67),none⟩]) (.seq (.region [⟨some 68,.mov (.tmp 10),none⟩,⟨some 69,.bin .add (.tmp 68) (.val (.int .i64 1)),none⟩,⟨some 10,.mov (.tmp 69),none⟩]) (.seq (.dregion [⟨⟨some 70,.mov (.tmp 8),none⟩,0,0,true⟩,⟨⟨some 71,.mov (.tmp 5),none⟩,0,0,true⟩,⟨⟨some 72,.bin .eql (.tmp 70) (.tmp 71),none⟩,3,0,true⟩,⟨⟨some 73,.mov (.tmp 72),none⟩,7,0,true⟩,⟨⟨some 74,.mov (.tmp 0),some (73,true)⟩,15,0,true⟩,⟨⟨some 75,.mov (.tmp 10),some (73,true)⟩,15,0,true⟩,⟨⟨some 76,.mov (.tmp 7),some (73,true)⟩,15,0,true⟩,⟨⟨some 77,.bin .sub (.tmp 75) (.tmp 76),some (73,true)⟩,111,0,true⟩,⟨⟨some 78,.mov (.tmp 10),some (73,true)⟩,15,0,true⟩,⟨⟨some 79,.sliceS 1 (.tmp 74) (some (.tmp 77)) (some (.tmp 78)) none,some (73,true)⟩,511,1,true⟩,⟨⟨some 80,.bytesToStr (.tmp 79),some (73,true)⟩,1023,1,true⟩,⟨⟨some 81,.mov (.tmp 1),some (73,true)⟩,15,0,true⟩,⟨⟨some 82,.bytesToStr (.tmp 81),some (73,true)⟩,2063,1,true⟩,⟨⟨some 83,.bin .eql (.tmp 80) (.tmp 82),some (73,true)⟩,8191,0,true⟩,⟨⟨some 84,.pick (.tmp 73) (.tmp 83) (.val (.bool false)),none⟩,16383,0,true⟩]) (.cond (.tmp 84) (.seq (.region [⟨some 85,.mov (.tmp 10),none⟩,⟨some 86,.mov (.tmp 7),none⟩,⟨some 87,.bin .sub (.tmp 85) (.tmp 86),none⟩,⟨some 4,.mov (.tmp 87),none⟩]) .ret) .skip))))))))))) (.seq (.region [⟨some 4,.mov (.val (.int .i64 (-1))),none⟩]) .ret)))))))),[.tmp 4]⟩
def c85 : RFunc := ⟨17,.code (.seq (.region [⟨some 2,.box 29 (.tmp 0),none⟩,⟨some 4,.mov (.val .nslice),none⟩]) (.seq (.region [⟨some 5,.fieldAddr 2 (.tmp 2),none⟩,⟨some 6,.load none (.tmp 5),none⟩,⟨some 7,.mov (.tmp 1),none⟩,⟨some 8,.fieldAddr 0 (.tmp 2),none⟩,⟨some 9,.load none (.tmp 8),none⟩,⟨some 10,.bin .mul (.tmp 7) (.tmp 9),none⟩,⟨some 11,.mov (.tmp 1),none⟩,⟨some 12,.bin .add (.tmp 11) (.val (.int .i64 1)),none⟩,⟨some 13,.fieldAddr 0 (.tmp 2),none⟩,⟨some 14,.load none (.tmp 13),none⟩,⟨some 15,.bin .mul (.tmp 12) (.tmp 14),none⟩,⟨some 16,.sliceS 1 (.tmp 6) (some (.tmp 10)) (some (.tmp 15)) none,none⟩,⟨some 4,.mov (.tmp 16),none⟩]) .ret)),[.tmp 4]⟩
def c86 : RFunc := ⟨94,.code (.seq (.region [⟨some 5,.box 29 (.tmp 0),none⟩]) (.seq (.region [⟨some 10,.mov (.val (.int .i64 2)),none⟩]) (.seq (.seq (.region [⟨some 16,.mov (.tmp 1),none⟩]) (.cond (.tmp 16) (.region [⟨some 10,.mov (.val (.int .i64 1)),none⟩]) .skip)) (.seq (.region [⟨some 17,.mov (.tmp 2),none⟩,⟨some 18,.mov (.tmp 3),none⟩,⟨some 19,.mov (.tmp 4),none⟩,⟨some 20,.idxS 1 (.tmp 17) (.tmp 18),none⟩,⟨none,.store 1 (.tmp 20) (.tmp 19),none⟩]) (.seq (.region [⟨some 21,.mov (.tmp 3),none⟩,⟨some 22,.buildSlice 3 1 1 [(.int .i64 0)] [(0,1,(.tmp 21))],none⟩,⟨some 11,.mov (.tmp 22),none⟩]) (.block 0 (.loop (.seq (.seq (.region [⟨some 23,.mov (.tmp 11),none⟩,⟨some 24,.lenS (.tmp 23),none⟩,⟨some 25,.bin .gtr (.tmp 24) (.val (.int .i64 0)),none⟩]) (.cond (.tmp 25) .skip (.exit 0))) (.block 1 (.seq (.region [⟨some 26,.mov (.tmp 11),none⟩,⟨some 27,.mov (.tmp 11),none⟩,⟨some 28,.lenS (.tmp 27),none⟩,⟨some 29,.bin .sub (.tmp 28) (.val (.int .i64 1)),none⟩,⟨some 30,.idxS 1 (.tmp 26) (.tmp 29),none⟩,⟨some 31,.load none (.tmp 30),none⟩,⟨some 12,.mov (.tmp 31),none⟩]) (.seq (.region [⟨some 32,.mov (.tmp 11),none⟩,⟨some 33,.mov (.tmp 11),none⟩,⟨some 34,.lenS (.tmp 33),none⟩,⟨some 35,.bin .sub (.tmp 34) (.val (.int .i64 1)),none⟩,⟨some 36,.sliceS 1 (.tmp 32) none (some (.tmp 35)) none,none⟩,⟨some 11,.mov (.tmp 36),none⟩]) (.seq (.region [⟨some 13,.mov (.val (.int .i64 0)),none⟩]) (.block 2 (.loop (.seq (.seq (.region [⟨some 37,.mov (.tmp 13),none⟩,⟨some 38,.bin .lss (.tmp 37) (.val (.int .i64 8)),none⟩]) (.cond (.tmp 38) .skip (.exit 2))) (.seq (.block 3 (.seq (.dregion [⟨⟨some 42,.mov (.tmp 12),none⟩,0,0,true⟩,⟨⟨some 43,.fieldAddr 0 (.tmp 5),none⟩,0,0,true⟩,⟨⟨some 44,.load none (.tmp 43),none⟩,2,1,true⟩,⟨⟨some 45,.bin .rem (.tmp 42) (.tmp 44),none⟩,7,0,true⟩,⟨⟨some 46,.mov (.tmp 13),none⟩,0,0,true⟩,⟨⟨some 47,.idxA 8 2 (.val (.ptr 1 0)) (.tmp 46),none⟩,16,0,true⟩,⟨⟨some 48,.fieldAddr 0 (.tmp 47),none⟩,48,0,true⟩,⟨⟨some 49,.load none (.tmp 48),none⟩,112,1,true⟩,⟨⟨some 50,.bin .add (.tmp 45) (.tmp 49),none⟩,255,0,true⟩,⟨⟨some 51,.mov (.tmp 12),none⟩,0,0,true⟩,⟨⟨some 52,.fieldAddr 0 (.tmp 5),none⟩,0,0,true⟩,⟨⟨some 53,.load none (.tmp 52),none⟩,1024,1,true⟩,⟨⟨some 54,.bin .quo (.tmp 51) (.tmp 53),none⟩,3584,0,true⟩,⟨⟨some 55,.mov (.tmp 13),none⟩,0,0,true⟩,⟨⟨some 56,.idxA 8 2 (.val (.ptr 1 0)) (.tmp 55),none⟩,8192,0,true⟩,⟨⟨some 57,.fieldAddr 1 (.tmp 56),none⟩,24576,0,true⟩,⟨⟨some 58,.load none (.tmp 57),none⟩,57344,1,true⟩,⟨⟨some 59,.bin .add (.tmp 54) (.tmp 58),none⟩,130560,0,true⟩,⟨⟨some 14,.mov (.tmp 50),none⟩,511,0,true⟩,⟨⟨some 15,.mov (.tmp 59),none⟩,524287,0,true⟩]) (.seq (.region [⟨some 60,.load (some 3) (.tmp 5),none⟩,⟨some 61,.mov (.tmp 14),none⟩,⟨some 62,.mov (.tmp 15),none⟩,⟨some 63,.call (.val (.func (.func 89) [] [])) [.tmp 60,.tmp 61,.tmp 62],none⟩,⟨some 64,.mov (.tmp 63),none⟩,⟨some 65,.mov (.tmp 2),some (64,true)⟩,⟨some 66,.mov (.tmp 15),some (64,true)⟩,⟨some 67,.fieldAddr 0 (.tmp 5),some (64,true)⟩,⟨some 68,.load none (.tmp 67),some (64,true)⟩,⟨some 69,.bin .mul (.tmp 66) (.tmp 68),some (64,true)⟩,⟨some 70,.mov (.tmp 14),some (64,true)⟩,⟨some 71,.bin .add (.tmp 69) (.tmp 70),some (64,true)⟩,⟨some 72,.idxS 1 (.tmp 65) (.tmp 71),some (64,true)⟩,⟨some 73,.load none (.tmp 72),some (64,true)⟩,⟨some 74,.bin .eql (.tmp 73) (.val (.int .i64 0)),some (64,true)⟩,⟨some 75,.pick (.tmp 64) (.tmp 74) (.val (.bool false)),none⟩]) (.cond (.tmp 75) (.seq (.region [⟨some 76,.mov (.tmp 2),none⟩,⟨some 77,.mov (.tmp 15),none⟩,⟨some 78,.fieldAddr 0 (.tmp 5),none⟩,⟨some 79,.load none (.tmp 78),none⟩,⟨some 80,.bin .mul (.tmp 77) (.tmp 79),none⟩,⟨some 81,.mov (.tmp 14),none⟩,⟨some 82,.bin .add (.tmp 80) (.tmp 81),none⟩,⟨some 83,.mov (.tmp 4),none⟩,⟨some 84,.idxS 1 (.tmp 76) (.tmp 82),none⟩,⟨none,.store 1 (.tmp 84) (.tmp 83),none⟩]) (.region [⟨some 85,.mov (.tmp 11),none⟩,⟨some 86,.mov (.tmp 15),none⟩,⟨some 87,.fieldAddr 0 (.tmp 5),none⟩,⟨some 88,.load none (.tmp 87),none⟩,⟨some 89,.bin .mul (.tmp 86) (.tmp 88),none⟩,⟨some 90,.mov (.tmp 14),none⟩,⟨some 91,.bin .add (.tmp 89) (.tmp 90),none⟩,⟨some 92,.buildSlice 3 1 1 [(.int .i64 0)] [(0,1,(.tmp 91))],none⟩,⟨some 93,.append 3 1 8 (.tmp 85) (.tmp 92),none⟩,⟨some 11,.mov (.tmp 93),none⟩])) .skip)))) (.region [⟨some 39,.mov (.tmp 13),none⟩,⟨some 40,.mov (.tmp 10),none⟩,⟨some 41,.bin .add (.tmp 39) (.tmp 40),none⟩,⟨some 13,.mov (.tmp 41),none⟩]))))))))))))))))),[]⟩
def c88 : RFunc := ⟨40,.code (.seq (.region [⟨some 2,.mov (.val (.int .u32 0)),none⟩,⟨some 3,.mov (.val (.int .u32 0)),none⟩]) (.seq (.region [⟨some 4,.mov (.val (.int .u32 0)),none⟩]) (.seq (.seq (.region [⟨some 5,.mov (.val (.int .i64 0)),none⟩]) (.block 0 (.loop (.seq (.seq (.region [⟨some 9,.mov (.tmp 5),none⟩,⟨some 10,.mov (.tmp 0),none⟩,⟨some 11,.lenS (.tmp 10),none⟩,⟨some 12,.bin .lss (.tmp 9) (.tmp 11),none⟩]) (.cond (.tmp 12) .skip (.exit 0))) (.seq (.block 1 (.region [⟨some 15,.mov (.tmp 4),none⟩,⟨some 16,.bin .mul (.tmp 15) (.val (.int .u32 16777619)),none⟩,⟨some 17,.mov (.tmp 0),none⟩,⟨some 18,.mov (.tmp 5),none⟩,⟨some 19,.idxS 1 (.tmp 17) (.tmp 18),none⟩,⟨some 20,.load none (.tmp 19),none⟩,⟨some 21,.convInt .u32 (.tmp 20),none⟩,⟨some 22,.bin .add (.tmp 16) (.tmp 21),none⟩,⟨some 4,.mov (.tmp 22),none⟩])) (.region [⟨some 13,.mov (.tmp 5),none⟩,⟨some 14,.bin .add (.tmp 13) (.val (.int .i64 1)),none⟩,⟨some 5,.mov (.tmp 14),none⟩])))))) (.seq (.region [⟨some 6,.mov (.val (.int .u32 1)),none⟩,⟨some 7,.mov (.val (.int .u32 16777619)),none⟩]) (.seq (.seq (.region [⟨some 23,.mov (.tmp 0),none⟩,⟨some 24,.lenS (.tmp 23),none⟩,⟨some 8,.mov (.tmp 24),none⟩]) (.block 2 (.loop (.seq (.seq (.region [⟨some 25,.mov (.tmp 8),none⟩,⟨some 26,.bin .gtr (.tmp 25) (.val (.int .i64 0)),none⟩]) (.cond (.tmp 26) .skip (.exit 2))) (.seq (.block 3 (.seq (.seq (.region [⟨some 29,.mov (.tmp 8),none⟩,⟨some 30,.bin .and (.tmp 29) (.val (.int .i64 1)),none⟩,⟨some 31,.bin .neq (.tmp 30) (.val (.int .i64 0)),none⟩]) (.cond (.tmp 31) (.region [⟨some 32,.mov (.tmp 6),none⟩,⟨some 33,.mov (.tmp 7),none⟩,⟨some 34,.bin .mul (.tmp 32) (.tmp 33),none⟩,⟨some 6,.mov (.tmp 34),none⟩]) .skip)) (.region [⟨some 35,.mov (.tmp 7),none⟩,⟨some 36,.mov (.tmp 7),none⟩,⟨some 37,.bin .mul (.tmp 35) (.tmp 36),none⟩,⟨some 7,.mov (.tmp 37),none⟩]))) (.region [⟨some 27,.mov (.tmp 8),none⟩,⟨some 28,.bin .shr (.tmp 27) (.val (.int .u64 1)),none⟩,⟨some 8,.mov (.tmp 28),none⟩])))))) (.seq (.region [⟨some 38,.mov (.tmp 4),none⟩,⟨some 39,.mov (.tmp 6),none⟩,⟨some 2,.mov (.tmp 38),none⟩,⟨some 3,.mov (.tmp 39),none⟩]) .ret)))))),[.tmp 2,.tmp 3]⟩
def c89 : RFunc := ⟨38,.code (.seq (.region [⟨some 3,.box 29 (.tmp 0),none⟩,⟨some 6,.mov (.val (.bool false)),none⟩]) (.seq (.region [⟨some 7,.mov (.tmp 1),none⟩,⟨some 8,.bin .geq (.tmp 7) (.val (.int .i64 0)),none⟩,⟨some 9,.mov (.tmp 8),none⟩,⟨some 10,.mov (.tmp 1),some (9,true)⟩,⟨some 11,.fieldAddr 0 (.tmp 3),some (9,true)⟩,⟨some 12,.load none (.tmp 11),some (9,true)⟩,⟨some 13,.bin .lss (.tmp 10) (.tmp 12),some (9,true)⟩,⟨some 14,.pick (.tmp 9) (.tmp 13) (.val (.bool false)),none⟩,⟨some 15,.mov (.tmp 14),none⟩,⟨some 16,.mov (.tmp 2),some (15,true)⟩,⟨some 17,.bin .geq (.tmp 16) (.val (.int .i64 0)),some (15,true)⟩,⟨some 18,.pick (.tmp 15) (.tmp 17) (.val (.bool false)),none⟩,⟨some 19,.mov (.tmp 18),none⟩,⟨some 20,.mov (.tmp 2),some (19,true)⟩,⟨some 21,.fieldAddr 1 (.tmp 3),some (19,true)⟩,⟨some 22,.load none (.tmp 21),some (19,true)⟩,⟨some 23,.bin .lss (.tmp 20) (.tmp 22),some (19,true)⟩,⟨some 24,.pick (.tmp 19) (.tmp 23) (.val (.bool false)),none⟩,⟨some 25,.mov (.tmp 24),none⟩,⟨some 26,.fieldAddr 2 (.tmp 3),some (25,true)⟩,⟨some 27,.load none (.tmp 26),some (25,true)⟩,⟨some 28,.mov (.tmp 2),some (25,true)⟩,⟨some 29,.fieldAddr 0 (.tmp 3),some (25,true)⟩,⟨some 30,.load none (.tmp 29),some (25,true)⟩,⟨some 31,.bin .mul (.tmp 28) (.tmp 30),some (25,true)⟩,⟨some 32,.mov (.tmp 1),some (25,true)⟩,⟨some 33,.bin .add (.tmp 31) (.tmp 32),some (25,true)⟩,⟨some 34,.idxS 1 (.tmp 27) (.tmp 33),some (25,true)⟩,⟨some 35,.load none (.tmp 34),some (25,true)⟩,⟨some 36,.bin .eql (.tmp 35) (.val (.int .u8 1)),some (25,true)⟩,⟨some 37,.pick (.tmp 25) (.tmp 36) (.val (.bool false)),none⟩,⟨some 6,.mov (.tmp 37),none⟩]) .ret)),[.tmp 6]⟩
def ext : Exts := fun k args => match k with
  | 0 => aCount args
  | 1 => aIndexByte args
  | _ => M.fail
def prog : FuncId → Option RFunc := fun f => (cond (Nat.blt f 46) (cond (Nat.blt f 24) (cond (Nat.blt f 16) (cond (Nat.blt f 9) (cond (Nat.blt f 5) (cond (Nat.beq f 4) (some c4) none) (cond (Nat.blt f 7) (cond (Nat.beq f 5) (some c5) none) (cond (Nat.beq f 7) (some c7) none))) (cond (Nat.blt f 14) (cond (Nat.blt f 11) (cond (Nat.beq f 9) (some c9) none) (cond (Nat.beq f 11) (some c11) none)) (cond (Nat.blt f 15) (cond (Nat.beq f 14) (some c14) none) (cond (Nat.beq f 15) (some c15) none)))) (cond (Nat.blt f 20) (cond (Nat.blt f 18) (cond (Nat.blt f 17) (cond (Nat.beq f 16) (some c16) none) (cond (Nat.beq f 17) (some c17) none)) (cond (Nat.blt f 19) (cond (Nat.beq f 18) (some c18) none) (cond (Nat.beq f 19) (some c19) none))) (cond (Nat.blt f 22) (cond (Nat.blt f 21) (cond (Nat.beq f 20) (some c20) none) (cond (Nat.beq f 21) (some c21) none)) (cond (Nat.blt f 23) (cond (Nat.beq f 22) (some c22) none) (cond (Nat.beq f 23) (some c23) none))))) (cond (Nat.blt f 38) (cond (Nat.blt f 34) (cond (Nat.blt f 32) (cond (Nat.blt f 29) (cond (Nat.beq f 24) (some c24) none) (cond (Nat.beq f 29) (some c29) none)) (cond (Nat.blt f 33) (cond (Nat.beq f 32) (some c32) none) (cond (Nat.beq f 33) (some c33) none))) (cond (Nat.blt f 36) (cond (Nat.blt f 35) (cond (Nat.beq f 34) (some c34) none) (cond (Nat.beq f 35) (some c35) none)) (cond (Nat.blt f 37) (cond (Nat.beq f 36) (some c36) none) (cond (Nat.beq f 37) (some c37) none)))) (cond (Nat.blt f 42) (cond (Nat.blt f 40) (cond (Nat.blt f 39) (cond (Nat.beq f 38) (some c38) none) (cond (Nat.beq f 39) (some c39) none)) (cond (Nat.blt f 41) (cond (Nat.beq f 40) (some c40) none) (cond (Nat.beq f 41) (some c41) none))) (cond (Nat.blt f 44) (cond (Nat.blt f 43) (cond (Nat.beq f 42) (some c42) none) (cond (Nat.beq f 43) (some c43) none)) (cond (Nat.blt f 45) (cond (Nat.beq f 44) (some c44) none) (cond (Nat.beq f 45) (some c45) none)))))) (cond (Nat.blt f 72) (cond (Nat.blt f 62) (cond (Nat.blt f 49) (cond (Nat.blt f 47) (cond (Nat.beq f 46) (some c46) none) (cond (Nat.blt f 48) (cond (Nat.beq f 47) (some c47) none) (cond (Nat.beq f 48) (some c48) none))) (cond (Nat.blt f 60) (cond (Nat.blt f 50) (cond (Nat.beq f 49) (some c49) none) (cond (Nat.beq f 50) (some c50) none)) (cond (Nat.blt f 61) (cond (Nat.beq f 60) (some c60) none) (cond (Nat.beq f 61) (some c61) none)))) (cond (Nat.blt f 66) (cond (Nat.blt f 64) (cond (Nat.blt f 63) (cond (Nat.beq f 62) (some c62) none) (cond (Nat.beq f 63) (some c63) none)) (cond (Nat.blt f 65) (cond (Nat.beq f 64) (some c64) none) (cond (Nat.beq f 65) (some c65) none))) (cond (Nat.blt f 68) (cond (Nat.blt f 67) (cond (Nat.beq f 66) (some c66) none) (cond (Nat.beq f 67) (some c67) none)) (cond (Nat.blt f 71) (cond (Nat.beq f 68) (some c68) none) (cond (Nat.beq f 71) (some c71) none))))) (cond (Nat.blt f 81) (cond (Nat.blt f 76) (cond (Nat.blt f 74) (cond (Nat.blt f 73) (cond (Nat.beq f 72) (some ⟨0, .ext 0, []⟩) none) (cond (Nat.beq f 73) (some c73) none)) (cond (Nat.blt f 75) (cond (Nat.beq f 74) (some c74) none) (cond (Nat.beq f 75) (some c75) none))) (cond (Nat.blt f 79) (cond (Nat.blt f 77) (cond (Nat.beq f 76) (some c76) none) (cond (Nat.beq f 77) (some c77) none)) (cond (Nat.blt f 80) (cond (Nat.beq f 79) (some c79) none) (cond (Nat.beq f 80) (some c80) none)))) (cond (Nat.blt f 86) (cond (Nat.blt f 84) (cond (Nat.blt f 83) (cond (Nat.beq f 81) (some c81) none) (cond (Nat.beq f 83) (some c83) none)) (cond (Nat.blt f 85) (cond (Nat.beq f 84) (some c84) none) (cond (Nat.beq f 85) (some c85) none))) (cond (Nat.blt f 88) (cond (Nat.blt f 87) (cond (Nat.beq f 86) (some c86) none) (cond (Nat.beq f 87) (some ⟨0, .ext 1, []⟩) none)) (cond (Nat.blt f 89) (cond (Nat.beq f 88) (some c88) none) (cond (Nat.beq f 89) (some c89) none)))))))
end Go.Am
namespace Go.Am
open Go Go.RowKit
section
variable {P : Program} {S : Base} {m : RMap} {H H' : AHeap} {w : World}
theorem aBytesFn_some {f : List UInt8 → AVal} {e : Array Value → Sem Value} {bv : Value} (hstr : ∀ (s : ByteArray) (w : World), ∃ y, (e #[.string s, bv]).run P w = .ok y w ∧ emb m (f s.data.toList) = some y)
  (hnil : ∀ (l c : Nat) (w : World), ∃ y, (e #[.slice none l c, bv]).run P w = .ok y w ∧ emb m (f []) = some y)
  (hsl : ∀ (a : Addr) (n c : Nat) (xs : List Int) (w : World), xs.length = n → (∀ j x, xs[j]? = some x → w.cell? (a.add j) = some (.int .u8 x)) → ∃ y, (e #[.slice (some a) n c, bv]).run P w = .ok y w ∧ emb m (f (xs.map fun n => UInt8.ofNat n.toNat)) = some y)
  {av u : AVal} {x : Value} (ha : emb m av = some x) (h : HRel S m H w) (hx : aBytesFn f av H = some (u, H')) : ∃ y, (e #[x, bv]).run P w = .ok y w ∧ Out S m u H' y w := by
 cases av with
 | nslice =>
  obtain ⟨rfl, rfl⟩ := pure_some hx
  simp only [emb] at ha; cases ha
  obtain ⟨y, h1, h2⟩ := hnil 0 0 w
  exact ⟨y, h1, Out.same h h2⟩
 | str s =>
  obtain ⟨rfl, rfl⟩ := pure_some hx
  simp only [emb] at ha; cases ha
  obtain ⟨y, h1, h2⟩ := hstr s w
  exact ⟨y, h1, Out.same h h2⟩
 | slice r off len cap s =>
  obtain ⟨p, hp, rfl⟩ := emb_slice_some ha
  simp only [aBytesFn] at hx
  by_cases hs : s ≠ 1
  ·rw [if_pos hs] at hx; exact (fail_some hx).elim
  ·rw [if_neg hs] at hx
   obtain ⟨⟨cs, rw⟩, H1, h1, h2⟩ := bind_some hx
   obtain ⟨rfl, hr, e', hg⟩ := aRow_some h1
   simp only [] at h2
   by_cases hq : off + len ≤ cs.length
   ·rw [if_pos hq] at h2
    cases hb : bytesOf ((cs.drop off).take len) with
    | none => rw [hb] at h2; exact (fail_some h2).elim
    | some l =>
     rw [hb] at h2
     obtain ⟨rfl, rfl⟩ := pure_some h2
     obtain ⟨ns, hns, rfl⟩ := bytesOf_some hb
     have hok := h.row r cs rw e' p hr hg hp
     have hlen : ns.length = len := by
      have h1 : ((cs.drop off).take len).length = len := by simp; omega
      rw [hns] at h1; simpa using h1
     obtain ⟨y, h3, h4⟩ := hsl (p.1.add off) len (capR cap ((p.2 - off) / s)) ns w hlen fun j b hj => by
      have hjn : j < len := by rw [← hlen]; exact (List.getElem?_eq_some_iff.1 hj).1
      have h1 : cs[off + j]? = some (.int .u8 b) := by
       have h2 : ((cs.drop off).take len)[j]? = some (.int .u8 b) := by rw [hns]; simp [hj]
       rw [List.getElem?_take_of_lt hjn, List.getElem?_drop] at h2; exact h2
      obtain ⟨y, h3, h4⟩ := hok.cell _ _ h1
      simp only [emb] at h3; cases h3
      rw [add_add]; exact h4
     exact ⟨y, h3, Out.same h h4⟩
   ·rw [if_neg hq] at h2; exact (fail_some h2).elim
 | _ => exact (fail_some (H := H) hx).elim
theorem yields_extern {f : FuncId} {fn : Func} {e : Array Value → Sem Value} (hf : P.funcs[f]? = some fn) (hname : (fn.name == "runtime.NumGoroutine") = false)
  (hb : fn.body.isNone = true) (hn : Extern.findNext fn = none) (he : Extern.find fn = some e) {args : Array Value} {y : Value} {R : Value → World → Prop} (hr : (e args).run P w = .ok y w) (h : R y w) : Yields P (callFunc f args) w R := by
 unfold Yields
 rw [run_callFunc_extern hf hname hb hn he, hr]
 exact h
theorem sem_bind_of {α β : Type} {P : Program} {w : World} {x : Sem α} {f : α → Sem β} {a : α} {w' : World} {r : Result β} (h : x.run P w = .ok a w') (h2 : (x >>= f).run P w = r) : (f a).run P w' = r := by
 rw [← h2]
 simp [h]
theorem ext_count {ext : Exts} {k : Nat} (hk : ext k = aCount) {f : FuncId} {fn : Func} (hf : P.funcs[f]? = some fn) (hname : (fn.name == "runtime.NumGoroutine") = false)
  (hb : fn.body.isNone = true) (hn : Extern.findNext fn = none) (he : Extern.find fn = some Extern.BytealgCount.count) : ExtSim P ext f k := by
 intro S args H v H' m w vargs hG hx h ha
 rw [hk] at hx
 match args, hx, ha with
 | [x, .int .u8 b], hx, ha =>
  obtain ⟨y, ys, h1, h2, rfl⟩ := embL_cons ha
  obtain ⟨z, zs, h3, h4, rfl⟩ := embL_cons h2
  simp only [embL] at h4; cases h4
  simp only [emb] at h3; cases h3
  obtain ⟨q, h5, h6⟩ := aBytesFn_some (P := P) (e := Extern.BytealgCount.count) (bv := .int .u8 b) (f := fun l => .int .i64 (Lib.countByte l (UInt8.ofNat b.toNat)))
   (fun s w => ⟨_, Lib.run_countString s b w, by simp [emb] <;> rfl⟩)
   (fun l c w => ⟨_, Lib.run_countString .empty b w, by simp [emb] <;> rfl⟩)
   (fun a n c xs w hl hc => by
    have hload := Lib.run_loadBytesX (P := P) w xs a .empty hc
    rw [hl] at hload
    have hs := Lib.run_countString (P := P) ⟨(Lib.bytesOf xs).toArray⟩ b w
    have he : (⟨ByteArray.empty.data ++ (Lib.bytesOf xs).toArray⟩ : ByteArray) = ⟨(Lib.bytesOf xs).toArray⟩ := by
     apply ByteArray.ext
     show (#[] : Array UInt8) ++ (Lib.bytesOf xs).toArray = (Lib.bytesOf xs).toArray
     simp
    rw [he] at hload
    refine ⟨.int .i64 (Lib.countByte (Lib.bytesOf xs) b.toNat.toUInt8), ?_, by simp [emb] <;> rfl⟩
    have hb1 : (Extern.Bytes.bytesOf (.slice (some a) n c)).run P w = .ok ⟨(Lib.bytesOf xs).toArray⟩ w := by simpa [Extern.Bytes.bytesOf] using hload
    have hb2 : (Extern.Bytes.bytesOf (.string ⟨(Lib.bytesOf xs).toArray⟩)).run P w = .ok ⟨(Lib.bytesOf xs).toArray⟩ w := by simp [Extern.Bytes.bytesOf]
    refine sem_bind_ok hb1 ?_
    have hs2 := sem_bind_of hb2 hs
    exact hs2) h1 h hx
  exact yields_extern hf hname hb hn he h5 h6
theorem ext_indexByte {ext : Exts} {k : Nat} (hk : ext k = aIndexByte) {f : FuncId} {fn : Func} (hf : P.funcs[f]? = some fn) (hname : (fn.name == "runtime.NumGoroutine") = false)
  (hb : fn.body.isNone = true) (hn : Extern.findNext fn = none) (he : Extern.find fn = some Extern.BytealgIndexByte.indexByte) : ExtSim P ext f k := by
 intro S args H v H' m w vargs hG hx h ha
 rw [hk] at hx
 match args, hx, ha with
 | [x, .int .u8 b], hx, ha =>
  obtain ⟨y, ys, h1, h2, rfl⟩ := embL_cons ha
  obtain ⟨z, zs, h3, h4, rfl⟩ := embL_cons h2
  simp only [embL] at h4; cases h4
  simp only [emb] at h3; cases h3
  obtain ⟨q, h5, h6⟩ := aBytesFn_some (P := P) (e := Extern.BytealgIndexByte.indexByte) (bv := .int .u8 b) (f := fun l => .int .i64 (Lib.indexByte l (UInt8.ofNat b.toNat)))
   (fun s w => ⟨_, Lib.run_indexByteString s b w, by simp [emb] <;> rfl⟩)
   (fun l c w => ⟨_, Lib.run_indexByteNil w l c b, by simp [emb] <;> rfl⟩)
   (fun a n c xs w hl hc => by
    have hload := Lib.run_loadBytesX (P := P) w xs a .empty hc
    rw [hl] at hload
    have hs := Lib.run_indexByteString (P := P) ⟨(Lib.bytesOf xs).toArray⟩ b w
    have he : (⟨ByteArray.empty.data ++ (Lib.bytesOf xs).toArray⟩ : ByteArray) = ⟨(Lib.bytesOf xs).toArray⟩ := by
     apply ByteArray.ext
     show (#[] : Array UInt8) ++ (Lib.bytesOf xs).toArray = (Lib.bytesOf xs).toArray
     simp
    rw [he] at hload
    refine ⟨.int .i64 (Lib.indexByte (Lib.bytesOf xs) b.toNat.toUInt8), ?_, by simp [emb] <;> rfl⟩
    have hb1 : (Extern.Bytes.bytesOf (.slice (some a) n c)).run P w = .ok ⟨(Lib.bytesOf xs).toArray⟩ w := by simpa [Extern.Bytes.bytesOf] using hload
    have hb2 : (Extern.Bytes.bytesOf (.string ⟨(Lib.bytesOf xs).toArray⟩)).run P w = .ok ⟨(Lib.bytesOf xs).toArray⟩ w := by simp [Extern.Bytes.bytesOf]
    refine sem_bind_ok hb1 ?_
    have hs2 := sem_bind_of hb2 hs
    exact hs2) h1 h hx
  exact yields_extern hf hname hb hn he h5 h6
theorem ext_self {ext : Exts} {k : Nat} (hk : ext k = aSelf) {f : FuncId} {fn : Func} (hf : P.funcs[f]? = some fn) (hname : (fn.name == "runtime.NumGoroutine") = false)
  (hb : fn.body.isNone = true) (hn : Extern.findNext fn = none) (he : Extern.find fn = some Extern.AbiNoEscape.same) : ExtSim P ext f k := by
 intro S args H v H' m w vargs hG hx h ha
 rw [hk] at hx
 match args, hx, ha with
 | [x], hx, ha =>
  obtain ⟨y, ys, h1, h2, rfl⟩ := embL_cons ha
  simp only [embL] at h2; cases h2
  obtain ⟨rfl, rfl⟩ := pure_some hx
  have hr : (Extern.AbiNoEscape.same #[y]).run P w = .ok y w := by
   have : Extern.AbiNoEscape.same #[y] = pure y := rfl
   rw [this]; simp
  exact yields_extern hf hname hb hn he hr (Out.same h h1)
end
end Go.Am
namespace Go.Am
open Go Go.Proofs
theorem ext_of {P : Program} {e e' : Exts} {f : FuncId} {k : Nat} (h : ExtSim P e f k) (hk : e' k = e k) : ExtSim P e' f k := fun S args H v H' m w vargs hG hx => h S args H v H' m w vargs hG (by rw [← hk]; exact hx)
theorem k4 : cFunc Tryd.prog Tryd.f4 = some c4 := by kernel_rfl
theorem k5 : cFunc Tryd.prog Tryd.f5 = some c5 := by kernel_rfl
theorem k7 : cFunc Tryd.prog Tryd.f7 = some c7 := by kernel_rfl
theorem k9 : cFunc Tryd.prog Tryd.f9 = some c9 := by kernel_rfl
theorem k11 : cFunc Tryd.prog Tryd.f11 = some c11 := by kernel_rfl
theorem k14 : cFunc Tryd.prog Tryd.f14 = some c14 := by kernel_rfl
theorem k15 : cFunc Tryd.prog Tryd.f15 = some c15 := by kernel_rfl
theorem k16 : cFunc Tryd.prog Tryd.f16 = some c16 := by kernel_rfl
theorem k17 : cFunc Tryd.prog Tryd.f17 = some c17 := by kernel_rfl
theorem k18 : cFunc Tryd.prog Tryd.f18 = some c18 := by kernel_rfl
theorem k19 : cFunc Tryd.prog Tryd.f19 = some c19 := by kernel_rfl
theorem k20 : cFunc Tryd.prog Tryd.f20 = some c20 := by kernel_rfl
theorem k21 : cFunc Tryd.prog Tryd.f21 = some c21 := by kernel_rfl
theorem k22 : cFunc Tryd.prog Tryd.f22 = some c22 := by kernel_rfl
theorem k23 : cFunc Tryd.prog Tryd.f23 = some c23 := by kernel_rfl
theorem k24 : cFunc Tryd.prog Tryd.f24 = some c24 := by kernel_rfl
theorem k29 : cFunc Tryd.prog Tryd.f29 = some c29 := by kernel_rfl
theorem k32 : cFunc Tryd.prog Tryd.f32 = some c32 := by kernel_rfl
theorem k33 : cFunc Tryd.prog Tryd.f33 = some c33 := by kernel_rfl
theorem k34 : cFunc Tryd.prog Tryd.f34 = some c34 := by kernel_rfl
theorem k35 : cFunc Tryd.prog Tryd.f35 = some c35 := by kernel_rfl
theorem k36 : cFunc Tryd.prog Tryd.f36 = some c36 := by kernel_rfl
theorem k37 : cFunc Tryd.prog Tryd.f37 = some c37 := by kernel_rfl
theorem k38 : cFunc Tryd.prog Tryd.f38 = some c38 := by kernel_rfl
theorem k39 : cFunc Tryd.prog Tryd.f39 = some c39 := by kernel_rfl
theorem k40 : cFunc Tryd.prog Tryd.f40 = some c40 := by kernel_rfl
theorem k41 : cFunc Tryd.prog Tryd.f41 = some c41 := by kernel_rfl
theorem k42 : cFunc Tryd.prog Tryd.f42 = some c42 := by kernel_rfl
theorem k43 : cFunc Tryd.prog Tryd.f43 = some c43 := by kernel_rfl
theorem k44 : cFunc Tryd.prog Tryd.f44 = some c44 := by kernel_rfl
theorem k45 : cFunc Tryd.prog Tryd.f45 = some c45 := by kernel_rfl
theorem k46 : cFunc Tryd.prog Tryd.f46 = some c46 := by kernel_rfl
theorem k47 : cFunc Tryd.prog Tryd.f47 = some c47 := by kernel_rfl
theorem k48 : cFunc Tryd.prog Tryd.f48 = some c48 := by kernel_rfl
theorem k49 : cFunc Tryd.prog Tryd.f49 = some c49 := by kernel_rfl
theorem k50 : cFunc Tryd.prog Tryd.f50 = some c50 := by kernel_rfl
theorem k60 : cFunc Tryd.prog Tryd.f60 = some c60 := by kernel_rfl
theorem k61 : cFunc Tryd.prog Tryd.f61 = some c61 := by kernel_rfl
theorem k62 : cFunc Tryd.prog Tryd.f62 = some c62 := by kernel_rfl
theorem k63 : cFunc Tryd.prog Tryd.f63 = some c63 := by kernel_rfl
theorem k64 : cFunc Tryd.prog Tryd.f64 = some c64 := by kernel_rfl
theorem k65 : cFunc Tryd.prog Tryd.f65 = some c65 := by kernel_rfl
theorem k66 : cFunc Tryd.prog Tryd.f66 = some c66 := by kernel_rfl
theorem k67 : cFunc Tryd.prog Tryd.f67 = some c67 := by kernel_rfl
theorem k68 : cFunc Tryd.prog Tryd.f68 = some c68 := by kernel_rfl
theorem k71 : cFunc Tryd.prog Tryd.f71 = some c71 := by kernel_rfl
theorem k72 : ExtSim Tryd.prog ext 72 0 := ext_count rfl Tryd.func72 (by kernel_rfl) (by kernel_rfl) (by kernel_rfl) (by kernel_rfl)
theorem k73 : cFunc Tryd.prog Tryd.f73 = some c73 := by kernel_rfl
theorem k74 : cFunc Tryd.prog Tryd.f74 = some c74 := by kernel_rfl
theorem k75 : cFunc Tryd.prog Tryd.f75 = some c75 := by kernel_rfl
theorem k76 : cFunc Tryd.prog Tryd.f76 = some c76 := by kernel_rfl
theorem k77 : cFunc Tryd.prog Tryd.f77 = some c77 := by kernel_rfl
theorem k79 : cFunc Tryd.prog Tryd.f79 = some c79 := by kernel_rfl
theorem k80 : cFunc Tryd.prog Tryd.f80 = some c80 := by kernel_rfl
theorem k81 : cFunc Tryd.prog Tryd.f81 = some c81 := by kernel_rfl
theorem k83 : cFunc Tryd.prog Tryd.f83 = some c83 := by kernel_rfl
theorem k84 : cFunc Tryd.prog Tryd.f84 = some c84 := by kernel_rfl
theorem k85 : cFunc Tryd.prog Tryd.f85 = some c85 := by kernel_rfl
theorem k86 : cFunc Tryd.prog Tryd.f86 = some c86 := by kernel_rfl
theorem k87 : ExtSim Tryd.prog ext 87 1 := ext_indexByte rfl Tryd.func87 (by kernel_rfl) (by kernel_rfl) (by kernel_rfl) (by kernel_rfl)
theorem k88 : cFunc Tryd.prog Tryd.f88 = some c88 := by kernel_rfl
theorem k89 : cFunc Tryd.prog Tryd.f89 = some c89 := by kernel_rfl
theorem cond_some {α : Type} {b : Bool} {x y : Option α} {v : α} (h : cond b x y = some v) : (b = true ∧ x = some v) ∨ (b = false ∧ y = some v) := by cases b <;> simp_all
theorem mixed : Tryd.prog.follows .mixedOrders = true := by kernel_rfl
theorem progOk : ProgOk Tryd.prog ext prog := by
  refine ⟨rfl, by decide +kernel, ?_⟩
  intro f rf h
  unfold prog at h
  rcases cond_some h with ⟨_, h⟩ | ⟨_, h⟩
  · skip
    rcases cond_some h with ⟨_, h⟩ | ⟨_, h⟩
    · skip
      rcases cond_some h with ⟨_, h⟩ | ⟨_, h⟩
      · skip
        rcases cond_some h with ⟨_, h⟩ | ⟨_, h⟩
        · skip
          rcases cond_some h with ⟨_, h⟩ | ⟨_, h⟩
          · skip
            rcases cond_some h with ⟨hb, h⟩ | ⟨_, h⟩
            · obtain rfl := Nat.eq_of_beq_eq_true hb; cases h; exact Or.inl ⟨Tryd.f4, _, Tryd.func4, rfl, k4⟩
            · cases h
          · skip
            rcases cond_some h with ⟨_, h⟩ | ⟨_, h⟩
            · skip
              rcases cond_some h with ⟨hb, h⟩ | ⟨_, h⟩
              · obtain rfl := Nat.eq_of_beq_eq_true hb; cases h; exact Or.inl ⟨Tryd.f5, _, Tryd.func5, rfl, k5⟩
              · cases h
            · skip
              rcases cond_some h with ⟨hb, h⟩ | ⟨_, h⟩
              · obtain rfl := Nat.eq_of_beq_eq_true hb; cases h; exact Or.inl ⟨Tryd.f7, _, Tryd.func7, rfl, k7⟩
              · cases h
        · skip
          rcases cond_some h with ⟨_, h⟩ | ⟨_, h⟩
          · skip
            rcases cond_some h with ⟨_, h⟩ | ⟨_, h⟩
            · skip
              rcases cond_some h with ⟨hb, h⟩ | ⟨_, h⟩
              · obtain rfl := Nat.eq_of_beq_eq_true hb; cases h; exact Or.inl ⟨Tryd.f9, _, Tryd.func9, rfl, k9⟩
              · cases h
            · skip
              rcases cond_some h with ⟨hb, h⟩ | ⟨_, h⟩
              · obtain rfl := Nat.eq_of_beq_eq_true hb; cases h; exact Or.inl ⟨Tryd.f11, _, Tryd.func11, rfl, k11⟩
              · cases h
          · skip
            rcases cond_some h with ⟨_, h⟩ | ⟨_, h⟩
            · skip
              rcases cond_some h with ⟨hb, h⟩ | ⟨_, h⟩
              · obtain rfl := Nat.eq_of_beq_eq_true hb; cases h; exact Or.inl ⟨Tryd.f14, _, Tryd.func14, rfl, k14⟩
              · cases h
            · skip
              rcases cond_some h with ⟨hb, h⟩ | ⟨_, h⟩
              · obtain rfl := Nat.eq_of_beq_eq_true hb; cases h; exact Or.inl ⟨Tryd.f15, _, Tryd.func15, rfl, k15⟩
              · cases h
      · skip
        rcases cond_some h with ⟨_, h⟩ | ⟨_, h⟩
        · skip
          rcases cond_some h with ⟨_, h⟩ | ⟨_, h⟩
          · skip
            rcases cond_some h with ⟨_, h⟩ | ⟨_, h⟩
            · skip
              rcases cond_some h with ⟨hb, h⟩ | ⟨_, h⟩
              · obtain rfl := Nat.eq_of_beq_eq_true hb; cases h; exact Or.inl ⟨Tryd.f16, _, Tryd.func16, rfl, k16⟩
              · cases h
            · skip
              rcases cond_some h with ⟨hb, h⟩ | ⟨_, h⟩
              · obtain rfl := Nat.eq_of_beq_eq_true hb; cases h; exact Or.inl ⟨Tryd.f17, _, Tryd.func17, rfl, k17⟩
              · cases h
          · skip
            rcases cond_some h with ⟨_, h⟩ | ⟨_, h⟩
            · skip
              rcases cond_some h with ⟨hb, h⟩ | ⟨_, h⟩
              · obtain rfl := Nat.eq_of_beq_eq_true hb; cases h; exact Or.inl ⟨Tryd.f18, _, Tryd.func18, rfl, k18⟩
              · cases h
            · skip
              rcases cond_some h with ⟨hb, h⟩ | ⟨_, h⟩
              · obtain rfl := Nat.eq_of_beq_eq_true hb; cases h; exact Or.inl ⟨Tryd.f19, _, Tryd.func19, rfl, k19⟩
              · cases h
        · skip
          rcases cond_some h with ⟨_, h⟩ | ⟨_, h⟩
          · skip
            rcases cond_some h with ⟨_, h⟩ | ⟨_, h⟩
            · skip
              rcases cond_some h with ⟨hb, h⟩ | ⟨_, h⟩
              · obtain rfl := Nat.eq_of_beq_eq_true hb; cases h; exact Or.inl ⟨Tryd.f20, _, Tryd.func20, rfl, k20⟩
              · cases h
            · skip
              rcases cond_some h with ⟨hb, h⟩ | ⟨_, h⟩
              · obtain rfl := Nat.eq_of_beq_eq_true hb; cases h; exact Or.inl ⟨Tryd.f21, _, Tryd.func21, rfl, k21⟩
              · cases h
          · skip
            rcases cond_some h with ⟨_, h⟩ | ⟨_, h⟩
            · skip
              rcases cond_some h with ⟨hb, h⟩ | ⟨_, h⟩
              · obtain rfl := Nat.eq_of_beq_eq_true hb; cases h; exact Or.inl ⟨Tryd.f22, _, Tryd.func22, rfl, k22⟩
              · cases h
            · skip
              rcases cond_some h with ⟨hb, h⟩ | ⟨_, h⟩
              · obtain rfl := Nat.eq_of_beq_eq_true hb; cases h; exact Or.inl ⟨Tryd.f23, _, Tryd.func23, rfl, k23⟩
              · cases h
    · skip
      rcases cond_some h with ⟨_, h⟩ | ⟨_, h⟩
      · skip
        rcases cond_some h with ⟨_, h⟩ | ⟨_, h⟩
        · skip
          rcases cond_some h with ⟨_, h⟩ | ⟨_, h⟩
          · skip
            rcases cond_some h with ⟨_, h⟩ | ⟨_, h⟩
            · skip
              rcases cond_some h with ⟨hb, h⟩ | ⟨_, h⟩
              · obtain rfl := Nat.eq_of_beq_eq_true hb; cases h; exact Or.inl ⟨Tryd.f24, _, Tryd.func24, rfl, k24⟩
              · cases h
            · skip
              rcases cond_some h with ⟨hb, h⟩ | ⟨_, h⟩
              · obtain rfl := Nat.eq_of_beq_eq_true hb; cases h; exact Or.inl ⟨Tryd.f29, _, Tryd.func29, rfl, k29⟩
              · cases h
          · skip
            rcases cond_some h with ⟨_, h⟩ | ⟨_, h⟩
            · skip
              rcases cond_some h with ⟨hb, h⟩ | ⟨_, h⟩
              · obtain rfl := Nat.eq_of_beq_eq_true hb; cases h; exact Or.inl ⟨Tryd.f32, _, Tryd.func32, rfl, k32⟩
              · cases h
            · skip
              rcases cond_some h with ⟨hb, h⟩ | ⟨_, h⟩
              · obtain rfl := Nat.eq_of_beq_eq_true hb; cases h; exact Or.inl ⟨Tryd.f33, _, Tryd.func33, rfl, k33⟩
              · cases h
        · skip
          rcases cond_some h with ⟨_, h⟩ | ⟨_, h⟩
          · skip
            rcases cond_some h with ⟨_, h⟩ | ⟨_, h⟩
            · skip
              rcases cond_some h with ⟨hb, h⟩ | ⟨_, h⟩
              · obtain rfl := Nat.eq_of_beq_eq_true hb; cases h; exact Or.inl ⟨Tryd.f34, _, Tryd.func34, rfl, k34⟩
              · cases h
            · skip
              rcases cond_some h with ⟨hb, h⟩ | ⟨_, h⟩
              · obtain rfl := Nat.eq_of_beq_eq_true hb; cases h; exact Or.inl ⟨Tryd.f35, _, Tryd.func35, rfl, k35⟩
              · cases h
          · skip
            rcases cond_some h with ⟨_, h⟩ | ⟨_, h⟩
            · skip
              rcases cond_some h with ⟨hb, h⟩ | ⟨_, h⟩
              · obtain rfl := Nat.eq_of_beq_eq_true hb; cases h; exact Or.inl ⟨Tryd.f36, _, Tryd.func36, rfl, k36⟩
              · cases h
            · skip
              rcases cond_some h with ⟨hb, h⟩ | ⟨_, h⟩
              · obtain rfl := Nat.eq_of_beq_eq_true hb; cases h; exact Or.inl ⟨Tryd.f37, _, Tryd.func37, rfl, k37⟩
              · cases h
      · skip
        rcases cond_some h with ⟨_, h⟩ | ⟨_, h⟩
        · skip
          rcases cond_some h with ⟨_, h⟩ | ⟨_, h⟩
          · skip
            rcases cond_some h with ⟨_, h⟩ | ⟨_, h⟩
            · skip
              rcases cond_some h with ⟨hb, h⟩ | ⟨_, h⟩
              · obtain rfl := Nat.eq_of_beq_eq_true hb; cases h; exact Or.inl ⟨Tryd.f38, _, Tryd.func38, rfl, k38⟩
              · cases h
            · skip
              rcases cond_some h with ⟨hb, h⟩ | ⟨_, h⟩
              · obtain rfl := Nat.eq_of_beq_eq_true hb; cases h; exact Or.inl ⟨Tryd.f39, _, Tryd.func39, rfl, k39⟩
              · cases h
          · skip
            rcases cond_some h with ⟨_, h⟩ | ⟨_, h⟩
            · skip
              rcases cond_some h with ⟨hb, h⟩ | ⟨_, h⟩
              · obtain rfl := Nat.eq_of_beq_eq_true hb; cases h; exact Or.inl ⟨Tryd.f40, _, Tryd.func40, rfl, k40⟩
              · cases h
            · skip
              rcases cond_some h with ⟨hb, h⟩ | ⟨_, h⟩
              · obtain rfl := Nat.eq_of_beq_eq_true hb; cases h; exact Or.inl ⟨Tryd.f41, _, Tryd.func41, rfl, k41⟩
              · cases h
        · skip
          rcases cond_some h with ⟨_, h⟩ | ⟨_, h⟩
          · skip
            rcases cond_some h with ⟨_, h⟩ | ⟨_, h⟩
            · skip
              rcases cond_some h with ⟨hb, h⟩ | ⟨_, h⟩
              · obtain rfl := Nat.eq_of_beq_eq_true hb; cases h; exact Or.inl ⟨Tryd.f42, _, Tryd.func42, rfl, k42⟩
              · cases h
            · skip
              rcases cond_some h with ⟨hb, h⟩ | ⟨_, h⟩
              · obtain rfl := Nat.eq_of_beq_eq_true hb; cases h; exact Or.inl ⟨Tryd.f43, _, Tryd.func43, rfl, k43⟩
              · cases h
          · skip
            rcases cond_some h with ⟨_, h⟩ | ⟨_, h⟩
            · skip
              rcases cond_some h with ⟨hb, h⟩ | ⟨_, h⟩
              · obtain rfl := Nat.eq_of_beq_eq_true hb; cases h; exact Or.inl ⟨Tryd.f44, _, Tryd.func44, rfl, k44⟩
              · cases h
            · skip
              rcases cond_some h with ⟨hb, h⟩ | ⟨_, h⟩
              · obtain rfl := Nat.eq_of_beq_eq_true hb; cases h; exact Or.inl ⟨Tryd.f45, _, Tryd.func45, rfl, k45⟩
              · cases h
  · skip
    rcases cond_some h with ⟨_, h⟩ | ⟨_, h⟩
    · skip
      rcases cond_some h with ⟨_, h⟩ | ⟨_, h⟩
      · skip
        rcases cond_some h with ⟨_, h⟩ | ⟨_, h⟩
        · skip
          rcases cond_some h with ⟨_, h⟩ | ⟨_, h⟩
          · skip
            rcases cond_some h with ⟨hb, h⟩ | ⟨_, h⟩
            · obtain rfl := Nat.eq_of_beq_eq_true hb; cases h; exact Or.inl ⟨Tryd.f46, _, Tryd.func46, rfl, k46⟩
            · cases h
          · skip
            rcases cond_some h with ⟨_, h⟩ | ⟨_, h⟩
            · skip
              rcases cond_some h with ⟨hb, h⟩ | ⟨_, h⟩
              · obtain rfl := Nat.eq_of_beq_eq_true hb; cases h; exact Or.inl ⟨Tryd.f47, _, Tryd.func47, rfl, k47⟩
              · cases h
            · skip
              rcases cond_some h with ⟨hb, h⟩ | ⟨_, h⟩
              · obtain rfl := Nat.eq_of_beq_eq_true hb; cases h; exact Or.inl ⟨Tryd.f48, _, Tryd.func48, rfl, k48⟩
              · cases h
        · skip
          rcases cond_some h with ⟨_, h⟩ | ⟨_, h⟩
          · skip
            rcases cond_some h with ⟨_, h⟩ | ⟨_, h⟩
            · skip
              rcases cond_some h with ⟨hb, h⟩ | ⟨_, h⟩
              · obtain rfl := Nat.eq_of_beq_eq_true hb; cases h; exact Or.inl ⟨Tryd.f49, _, Tryd.func49, rfl, k49⟩
              · cases h
            · skip
              rcases cond_some h with ⟨hb, h⟩ | ⟨_, h⟩
              · obtain rfl := Nat.eq_of_beq_eq_true hb; cases h; exact Or.inl ⟨Tryd.f50, _, Tryd.func50, rfl, k50⟩
              · cases h
          · skip
            rcases cond_some h with ⟨_, h⟩ | ⟨_, h⟩
            · skip
              rcases cond_some h with ⟨hb, h⟩ | ⟨_, h⟩
              · obtain rfl := Nat.eq_of_beq_eq_true hb; cases h; exact Or.inl ⟨Tryd.f60, _, Tryd.func60, rfl, k60⟩
              · cases h
            · skip
              rcases cond_some h with ⟨hb, h⟩ | ⟨_, h⟩
              · obtain rfl := Nat.eq_of_beq_eq_true hb; cases h; exact Or.inl ⟨Tryd.f61, _, Tryd.func61, rfl, k61⟩
              · cases h
      · skip
        rcases cond_some h with ⟨_, h⟩ | ⟨_, h⟩
        · skip
          rcases cond_some h with ⟨_, h⟩ | ⟨_, h⟩
          · skip
            rcases cond_some h with ⟨_, h⟩ | ⟨_, h⟩
            · skip
              rcases cond_some h with ⟨hb, h⟩ | ⟨_, h⟩
              · obtain rfl := Nat.eq_of_beq_eq_true hb; cases h; exact Or.inl ⟨Tryd.f62, _, Tryd.func62, rfl, k62⟩
              · cases h
            · skip
              rcases cond_some h with ⟨hb, h⟩ | ⟨_, h⟩
              · obtain rfl := Nat.eq_of_beq_eq_true hb; cases h; exact Or.inl ⟨Tryd.f63, _, Tryd.func63, rfl, k63⟩
              · cases h
          · skip
            rcases cond_some h with ⟨_, h⟩ | ⟨_, h⟩
            · skip
              rcases cond_some h with ⟨hb, h⟩ | ⟨_, h⟩
              · obtain rfl := Nat.eq_of_beq_eq_true hb; cases h; exact Or.inl ⟨Tryd.f64, _, Tryd.func64, rfl, k64⟩
              · cases h
            · skip
              rcases cond_some h with ⟨hb, h⟩ | ⟨_, h⟩
              · obtain rfl := Nat.eq_of_beq_eq_true hb; cases h; exact Or.inl ⟨Tryd.f65, _, Tryd.func65, rfl, k65⟩
              · cases h
        · skip
          rcases cond_some h with ⟨_, h⟩ | ⟨_, h⟩
          · skip
            rcases cond_some h with ⟨_, h⟩ | ⟨_, h⟩
            · skip
              rcases cond_some h with ⟨hb, h⟩ | ⟨_, h⟩
              · obtain rfl := Nat.eq_of_beq_eq_true hb; cases h; exact Or.inl ⟨Tryd.f66, _, Tryd.func66, rfl, k66⟩
              · cases h
            · skip
              rcases cond_some h with ⟨hb, h⟩ | ⟨_, h⟩
              · obtain rfl := Nat.eq_of_beq_eq_true hb; cases h; exact Or.inl ⟨Tryd.f67, _, Tryd.func67, rfl, k67⟩
              · cases h
          · skip
            rcases cond_some h with ⟨_, h⟩ | ⟨_, h⟩
            · skip
              rcases cond_some h with ⟨hb, h⟩ | ⟨_, h⟩
              · obtain rfl := Nat.eq_of_beq_eq_true hb; cases h; exact Or.inl ⟨Tryd.f68, _, Tryd.func68, rfl, k68⟩
              · cases h
            · skip
              rcases cond_some h with ⟨hb, h⟩ | ⟨_, h⟩
              · obtain rfl := Nat.eq_of_beq_eq_true hb; cases h; exact Or.inl ⟨Tryd.f71, _, Tryd.func71, rfl, k71⟩
              · cases h
    · skip
      rcases cond_some h with ⟨_, h⟩ | ⟨_, h⟩
      · skip
        rcases cond_some h with ⟨_, h⟩ | ⟨_, h⟩
        · skip
          rcases cond_some h with ⟨_, h⟩ | ⟨_, h⟩
          · skip
            rcases cond_some h with ⟨_, h⟩ | ⟨_, h⟩
            · skip
              rcases cond_some h with ⟨hb, h⟩ | ⟨_, h⟩
              · obtain rfl := Nat.eq_of_beq_eq_true hb; cases h; exact Or.inr ⟨0, rfl, k72⟩
              · cases h
            · skip
              rcases cond_some h with ⟨hb, h⟩ | ⟨_, h⟩
              · obtain rfl := Nat.eq_of_beq_eq_true hb; cases h; exact Or.inl ⟨Tryd.f73, _, Tryd.func73, rfl, k73⟩
              · cases h
          · skip
            rcases cond_some h with ⟨_, h⟩ | ⟨_, h⟩
            · skip
              rcases cond_some h with ⟨hb, h⟩ | ⟨_, h⟩
              · obtain rfl := Nat.eq_of_beq_eq_true hb; cases h; exact Or.inl ⟨Tryd.f74, _, Tryd.func74, rfl, k74⟩
              · cases h
            · skip
              rcases cond_some h with ⟨hb, h⟩ | ⟨_, h⟩
              · obtain rfl := Nat.eq_of_beq_eq_true hb; cases h; exact Or.inl ⟨Tryd.f75, _, Tryd.func75, rfl, k75⟩
              · cases h
        · skip
          rcases cond_some h with ⟨_, h⟩ | ⟨_, h⟩
          · skip
            rcases cond_some h with ⟨_, h⟩ | ⟨_, h⟩
            · skip
              rcases cond_some h with ⟨hb, h⟩ | ⟨_, h⟩
              · obtain rfl := Nat.eq_of_beq_eq_true hb; cases h; exact Or.inl ⟨Tryd.f76, _, Tryd.func76, rfl, k76⟩
              · cases h
            · skip
              rcases cond_some h with ⟨hb, h⟩ | ⟨_, h⟩
              · obtain rfl := Nat.eq_of_beq_eq_true hb; cases h; exact Or.inl ⟨Tryd.f77, _, Tryd.func77, rfl, k77⟩
              · cases h
          · skip
            rcases cond_some h with ⟨_, h⟩ | ⟨_, h⟩
            · skip
              rcases cond_some h with ⟨hb, h⟩ | ⟨_, h⟩
              · obtain rfl := Nat.eq_of_beq_eq_true hb; cases h; exact Or.inl ⟨Tryd.f79, _, Tryd.func79, rfl, k79⟩
              · cases h
            · skip
              rcases cond_some h with ⟨hb, h⟩ | ⟨_, h⟩
              · obtain rfl := Nat.eq_of_beq_eq_true hb; cases h; exact Or.inl ⟨Tryd.f80, _, Tryd.func80, rfl, k80⟩
              · cases h
      · skip
        rcases cond_some h with ⟨_, h⟩ | ⟨_, h⟩
        · skip
          rcases cond_some h with ⟨_, h⟩ | ⟨_, h⟩
          · skip
            rcases cond_some h with ⟨_, h⟩ | ⟨_, h⟩
            · skip
              rcases cond_some h with ⟨hb, h⟩ | ⟨_, h⟩
              · obtain rfl := Nat.eq_of_beq_eq_true hb; cases h; exact Or.inl ⟨Tryd.f81, _, Tryd.func81, rfl, k81⟩
              · cases h
            · skip
              rcases cond_some h with ⟨hb, h⟩ | ⟨_, h⟩
              · obtain rfl := Nat.eq_of_beq_eq_true hb; cases h; exact Or.inl ⟨Tryd.f83, _, Tryd.func83, rfl, k83⟩
              · cases h
          · skip
            rcases cond_some h with ⟨_, h⟩ | ⟨_, h⟩
            · skip
              rcases cond_some h with ⟨hb, h⟩ | ⟨_, h⟩
              · obtain rfl := Nat.eq_of_beq_eq_true hb; cases h; exact Or.inl ⟨Tryd.f84, _, Tryd.func84, rfl, k84⟩
              · cases h
            · skip
              rcases cond_some h with ⟨hb, h⟩ | ⟨_, h⟩
              · obtain rfl := Nat.eq_of_beq_eq_true hb; cases h; exact Or.inl ⟨Tryd.f85, _, Tryd.func85, rfl, k85⟩
              · cases h
        · skip
          rcases cond_some h with ⟨_, h⟩ | ⟨_, h⟩
          · skip
            rcases cond_some h with ⟨_, h⟩ | ⟨_, h⟩
            · skip
              rcases cond_some h with ⟨hb, h⟩ | ⟨_, h⟩
              · obtain rfl := Nat.eq_of_beq_eq_true hb; cases h; exact Or.inl ⟨Tryd.f86, _, Tryd.func86, rfl, k86⟩
              · cases h
            · skip
              rcases cond_some h with ⟨hb, h⟩ | ⟨_, h⟩
              · obtain rfl := Nat.eq_of_beq_eq_true hb; cases h; exact Or.inr ⟨1, rfl, k87⟩
              · cases h
          · skip
            rcases cond_some h with ⟨_, h⟩ | ⟨_, h⟩
            · skip
              rcases cond_some h with ⟨hb, h⟩ | ⟨_, h⟩
              · obtain rfl := Nat.eq_of_beq_eq_true hb; cases h; exact Or.inl ⟨Tryd.f88, _, Tryd.func88, rfl, k88⟩
              · cases h
            · skip
              rcases cond_some h with ⟨hb, h⟩ | ⟨_, h⟩
              · obtain rfl := Nat.eq_of_beq_eq_true hb; cases h; exact Or.inl ⟨Tryd.f89, _, Tryd.func89, rfl, k89⟩
              · cases h
end Go.Am
namespace Go.Proofs.YtdbgdhjcpmacoaaDoor.Laid
open Go.ChangeShapes Go.WideShapes Go.ChangeAt Go.RowKit Go.Am
theorem own : ownKnob Tryd.prog.godebug = none := by kernel_rfl
theorem laidOut : laidOutB Tryd.prog = true := by kernel_rfl
theorem rowed : mapsRowed Tryd.prog = true := by kernel_rfl
theorem full : ∀ t e, t < Tryd.prog.types.size → Tryd.prog.underlying t = some (.slice e) → 0 < Tryd.prog.cellsOf e := slices_full_of Tryd.prog (by kernel_rfl)
theorem gAround : Tryd.prog.globalNamed "custos/image.around" = some 1 := by kernel_rfl
theorem around_cells {W : World} (h : laidMetH Tryd.prog Rows.cleanRecipesRow.laid W) : ∀ t ∈ aroundT, ∀ (i : Nat) (v : AVal), t.2[i]? = some v → ∃ x, emb (fun _ => none) v = some x ∧ W.cell? ⟨t.1, i, none⟩ = some x := by
  have h1 : laidMet Tryd.prog Rows.cleanRecipesRow.laid W := h
  intro t ht i v hv
  simp only [aroundT, List.mem_singleton] at ht
  subst ht
  have key : ∀ (l : List Value), flatD 3 Rows.laid_custos_image_around (Hd := Unit) = l → embL (fun _ => none) [.int .i64 0, .int .i64 (-1), .int .i64 1, .int .i64 (-1), .int .i64 1, .int .i64 0, .int .i64 1, .int .i64 1, .int .i64 0, .int .i64 1, .int .i64 (-1), .int .i64 1, .int .i64 (-1), .int .i64 0, .int .i64 (-1), .int .i64 (-1)] = some l → ∃ x, emb (fun _ => none) v = some x ∧ W.cell? ⟨1, i, none⟩ = some x := by
    intro l h2 h3
    obtain ⟨x, h4, h5⟩ := embL_get h3 hv
    exact ⟨x, h4, laid_cells laidOut rowed h1 (by simp [Rows.cleanRecipesRow]) (n := 3) gAround (by kernel_rfl : (Tryd.prog.globals[1]?).map (·.type) = some 121) (by decide +kernel) (by kernel_rfl) h2 h5⟩
  exact key _ rfl (by kernel_rfl)
noncomputable def laidWorld (os : Os) : World :=
  let h := (World.holding Tryd.prog os ⟨#[], #[], []⟩).heap
  let h := h.modify 1 fun
    | .cells _ t frozen => .cells #[.int .i64 0, .int .i64 (-1), .int .i64 1, .int .i64 (-1), .int .i64 1, .int .i64 0, .int .i64 1, .int .i64 1, .int .i64 0, .int .i64 1, .int .i64 (-1), .int .i64 1, .int .i64 (-1), .int .i64 0, .int .i64 (-1), .int .i64 (-1)] t frozen
    | o => o
  { World.holding Tryd.prog os ⟨#[], #[], []⟩ with heap := h }
end Go.Proofs.YtdbgdhjcpmacoaaDoor.Laid
