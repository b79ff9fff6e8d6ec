/-
  ImageRuns returns true for all images, all sizes and all lists of runs, and leaves image and list as they were. No condition.
-/
import Derived.Test.YtamgihgnhnfknaaDoorAmBE
set_option linter.unusedSimpArgs false
set_option linter.unusedVariables false
set_option maxHeartbeats 4000000
set_option maxRecDepth 100000
namespace Go.Am
open Go
attribute [local irreducible] Wp WpO WpX WpE

theorem getD_mapA {α : Type} {d : α} {f : Nat → α} {n i : Nat} (h : i < n) : ((List.range n).map f).getD i d = f i := by simp [h]
theorem list_eqA {α : Type} {l m : List α} (d : α) (hl : l.length = m.length) (h : ∀ t, t < l.length → l.getD t d = m.getD t d) : l = m := by
 apply List.ext_getElem hl
 intro i h1 h2
 have := h i h1
 simpa [h1, h2] using this
/-- Ink of a place, as a number. -/
def pd (l : List UInt8) (k : Nat) : Int := bif l.getD k 0 == 1 then 1 else 0
def rc (l : List UInt8) (a j x : Nat) : Int := (((List.range x).filter fun u => l.getD (j * a + u) 0 == 1).length : Nat)
def cc (l : List UInt8) (a i y : Nat) : Int := (((List.range y).filter fun v => l.getD (v * a + i) 0 == 1).length : Nat)
theorem rc_succ (l : List UInt8) (a j x : Nat) : rc l a j (x + 1) = rc l a j x + pd l (j * a + x) := by
 unfold rc pd
 rw [List.range_succ, List.filter_append, List.length_append]
 cases h : (l.getD (j * a + x) 0 == 1)
 ·rw [List.filter_cons_of_neg (by rw [h]; decide)]; simp
 ·rw [List.filter_cons_of_pos (by rw [h])]; simp
theorem cc_succ (l : List UInt8) (a i y : Nat) : cc l a i (y + 1) = cc l a i y + pd l (y * a + i) := by
 unfold cc pd
 rw [List.range_succ, List.filter_append, List.length_append]
 cases h : (l.getD (y * a + i) 0 == 1)
 ·rw [List.filter_cons_of_neg (by rw [h]; decide)]; simp
 ·rw [List.filter_cons_of_pos (by rw [h])]; simp
theorem rc_bd (l : List UInt8) (a j x : Nat) : 0 ≤ rc l a j x ∧ rc l a j x ≤ x := by
 unfold rc
 have := List.length_filter_le (fun u => l.getD (j * a + u) 0 == 1) (List.range x)
 rw [List.length_range] at this
 omega
theorem cc_bd (l : List UInt8) (a i y : Nat) : 0 ≤ cc l a i y ∧ cc l a i y ≤ y := by
 unfold cc
 have := List.length_filter_le (fun v => l.getD (v * a + i) 0 == 1) (List.range y)
 rw [List.length_range] at this
 omega
theorem pd_bd (l : List UInt8) (k : Nat) : 0 ≤ pd l k ∧ pd l k ≤ 1 := by
 unfold pd
 cases (l.getD k 0 == 1) <;> simp
def rowsP (l : List UInt8) (a b y x : Nat) : List Int := (List.range b).map fun j => if j < y then rc l a j a else if j = y then rc l a j x else 0
def colsP (l : List UInt8) (a y x : Nat) : List Int := (List.range a).map fun i => if i < x then cc l a i (y + 1) else cc l a i y
/-- How much ink the rows, and the columns, have. -/
def rowsL (l : List UInt8) (a b : Nat) : List Int := (List.range b).map fun j => rc l a j a
def colsL (l : List UInt8) (a b : Nat) : List Int := (List.range a).map fun i => cc l a i b
theorem rowsP_length (l : List UInt8) (a b y x : Nat) : (rowsP l a b y x).length = b := by simp [rowsP]
theorem colsP_length (l : List UInt8) (a y x : Nat) : (colsP l a y x).length = a := by simp [colsP]
theorem rowsP_zero (l : List UInt8) (a b : Nat) : rowsP l a b 0 0 = List.replicate b 0 := by
 refine list_eqA 0 (by rw [rowsP_length, List.length_replicate]) fun t ht => ?_
 rw [rowsP_length] at ht
 rw [rowsP, getD_mapA ht, if_neg (by omega)]
 have : rc l a t 0 = 0 := rfl
 rw [this]
 simp [ht]
theorem colsP_zero (l : List UInt8) (a : Nat) : colsP l a 0 0 = List.replicate a 0 := by
 refine list_eqA 0 (by rw [colsP_length, List.length_replicate]) fun t ht => ?_
 rw [colsP_length] at ht
 rw [colsP, getD_mapA ht, if_neg (by omega)]
 have : cc l a t 0 = 0 := rfl
 rw [this]
 simp [ht]
theorem rowsP_next (l : List UInt8) (a b y : Nat) : rowsP l a b y a = rowsP l a b (y + 1) 0 := by
 refine list_eqA 0 (by rw [rowsP_length, rowsP_length]) fun t ht => ?_
 rw [rowsP_length] at ht
 rw [rowsP, rowsP, getD_mapA ht, getD_mapA ht]
 by_cases h1 : t < y
 ·rw [if_pos h1, if_pos (by omega)]
 ·rw [if_neg h1]
  by_cases h2 : t = y
  ·rw [if_pos h2, if_pos (by omega)]
  ·rw [if_neg h2, if_neg (by omega)]
   by_cases h3 : t = y + 1
   ·rw [if_pos h3]; rfl
   ·rw [if_neg h3]
theorem colsP_next (l : List UInt8) (a y : Nat) : colsP l a y a = colsP l a (y + 1) 0 := by
 refine list_eqA 0 (by rw [colsP_length, colsP_length]) fun t ht => ?_
 rw [colsP_length] at ht
 rw [colsP, colsP, getD_mapA ht, getD_mapA ht, if_pos ht, if_neg (by omega)]
theorem rowsP_all (l : List UInt8) (a b : Nat) : rowsP l a b b 0 = rowsL l a b := by
 refine list_eqA 0 (by simp [rowsP_length, rowsL]) fun t ht => ?_
 rw [rowsP_length] at ht
 rw [rowsP, rowsL, getD_mapA ht, getD_mapA ht, if_pos ht]
theorem colsP_all (l : List UInt8) (a b : Nat) : colsP l a b 0 = colsL l a b := by
 refine list_eqA 0 (by simp [colsP_length, colsL]) fun t ht => ?_
 rw [colsP_length] at ht
 rw [colsP, colsL, getD_mapA ht, getD_mapA ht, if_neg (by omega)]
theorem rowsP_get {l : List UInt8} {a b y x : Nat} (hy : y < b) : (rowsP l a b y x)[y]'(by rw [rowsP_length]; exact hy) = rc l a y x := by
 simp [rowsP]
theorem colsP_get {l : List UInt8} {a y x : Nat} (hx : x < a) : (colsP l a y x)[x]'(by rw [colsP_length]; exact hx) = cc l a x y := by
 simp [colsP]
theorem rowsP_set {l : List UInt8} {a b y x : Nat} : (rowsP l a b y x).set y (rc l a y x + pd l (y * a + x)) = rowsP l a b y (x + 1) := by
 refine list_eqA 0 (by rw [List.length_set, rowsP_length, rowsP_length]) fun t ht => ?_
 rw [List.length_set, rowsP_length] at ht
 rw [List.getD_eq_getElem?_getD, List.getElem?_set, rowsP_length, rowsP, rowsP, getD_mapA ht]
 by_cases h1 : y = t
 ·subst h1
  rw [if_pos rfl, if_pos ht, if_neg (by omega), if_pos rfl, rc_succ]; rfl
 ·rw [if_neg h1, ← List.getD_eq_getElem?_getD, getD_mapA ht]
  by_cases h2 : t < y
  ·rw [if_pos h2, if_pos h2]
  ·rw [if_neg h2, if_neg h2, if_neg (fun e => h1 e.symm), if_neg (fun e => h1 e.symm)]
theorem colsP_set {l : List UInt8} {a y x : Nat} : (colsP l a y x).set x (cc l a x y + pd l (y * a + x)) = colsP l a y (x + 1) := by
 refine list_eqA 0 (by rw [List.length_set, colsP_length, colsP_length]) fun t ht => ?_
 rw [List.length_set, colsP_length] at ht
 rw [List.getD_eq_getElem?_getD, List.getElem?_set, colsP_length, colsP, colsP, getD_mapA ht]
 by_cases h1 : x = t
 ·subst h1
  rw [if_pos rfl, if_pos ht, if_pos (by omega), cc_succ]; rfl
 ·rw [if_neg h1, ← List.getD_eq_getElem?_getD, getD_mapA ht]
  by_cases h2 : t < x
  ·rw [if_pos h2, if_pos (by omega)]
  ·rw [if_neg h2, if_neg (by omega)]

/- sums -/
theorem sum_set {L : List Int} {i : Nat} {d : Int} (h : i < L.length) : (L.set i (L[i] + d)).sum = L.sum + d := by
 induction L generalizing i with
 | nil => simp at h
 | cons x L ih =>
  cases i with
  | zero => simp; omega
  | succ i =>
   simp only [List.set_cons_succ, List.sum_cons, List.getElem_cons_succ]
   rw [ih (by simpa using h)]; omega
def cnt (l : List UInt8) (k : Nat) : Int := ((l.take k).count 1 : Nat)
theorem cnt_succ {l : List UInt8} {k : Nat} (h : k < l.length) : cnt l (k + 1) = cnt l k + pd l k := by
 unfold cnt pd
 rw [List.take_succ_eq_append_getElem h, List.count_append, List.count_singleton]
 have : l.getD k 0 = l[k] := by simp [h]
 rw [this]
 cases (l[k] == 1) <;> simp
theorem sums {l : List UInt8} {a b : Nat} (hl : l.length = a * b) : ∀ y, y ≤ b → (rowsP l a b y 0).sum = cnt l (y * a) ∧ (colsP l a y 0).sum = cnt l (y * a)
 | 0, _ => by
  rw [rowsP_zero, colsP_zero]
  simp [cnt, List.sum_replicate_int]
 | y + 1, hy => by
  have hr := row_le (a := a) (b := b) (y := y) (by omega)
  have key : ∀ x, x ≤ a → (rowsP l a b y x).sum = cnt l (y * a + x) ∧ (colsP l a y x).sum = cnt l (y * a + x) := by
   intro x
   induction x with
   | zero => intro _; exact sums hl y (by omega)
   | succ x ih =>
    intro hx
    obtain ⟨h1, h2⟩ := ih (by omega)
    have e1 := cnt_succ (l := l) (k := y * a + x) (by omega)
    rw [show y * a + (x + 1) = y * a + x + 1 by omega, e1, ← h1]
    constructor
    ·rw [← rowsP_set, ← rowsP_get (l := l) (a := a) (b := b) (y := y) (x := x) (by omega), sum_set]
    ·rw [← colsP_set, ← colsP_get (l := l) (a := a) (y := y) (x := x) (by omega), sum_set, h2, h1]
  obtain ⟨h1, h2⟩ := key a (Nat.le_refl _)
  rw [← rowsP_next, ← colsP_next, Nat.add_mul, Nat.one_mul]
  exact ⟨h1, h2⟩
theorem rows_sum {l : List UInt8} {a b : Nat} (hl : l.length = a * b) : (rowsL l a b).sum = (l.count 1 : Nat) ∧ (colsL l a b).sum = (l.count 1 : Nat) := by
 have h := sums hl b (Nat.le_refl _)
 rw [rowsP_all, colsP_all] at h
 have e : cnt l (b * a) = (l.count 1 : Nat) := by unfold cnt; rw [Nat.mul_comm, ← hl, List.take_length]
 rw [e] at h
 exact h

/- extents -/
def extS (st : Int × Int) (i : Nat) (v : Int) : Int × Int := if v > 0 then (if st.2 = 0 then ((i : Int), 1) else (st.1, i + 1 - st.1)) else st
def extF (p : List Int) : Nat → Int × Int
 | 0 => (0, 0)
 | k + 1 => extS (extF p k) k (p.getD k 0)
def extL (p : List Int) : Int × Int := extF p p.length
theorem ext_bd (p : List Int) (k : Nat) : 0 ≤ (extF p k).1 ∧ 0 ≤ (extF p k).2 ∧ (extF p k).1 + (extF p k).2 ≤ k := by
 induction k with
 | zero => simp [extF]
 | succ k ih =>
  simp only [extF, extS]
  split
  ·split
   ·simp only; omega
   ·simp only; omega
  ·omega
theorem ext_char (p : List Int) (k : Nat) : ((∀ i, i < k → ¬ p.getD i 0 > 0) ∧ extF p k = (0, 0)) ∨ ∃ f g : Nat, f ≤ g ∧ g < k ∧ p.getD f 0 > 0 ∧ p.getD g 0 > 0 ∧ (∀ i, i < f → ¬ p.getD i 0 > 0) ∧ (∀ i, g < i → i < k → ¬ p.getD i 0 > 0) ∧ extF p k = ((f : Int), (g : Int) + 1 - f) := by
 induction k with
 | zero => exact Or.inl ⟨fun i hi => by omega, rfl⟩
 | succ k ih =>
  simp only [extF, extS]
  by_cases hp : p.getD k 0 > 0
  ·rw [if_pos hp]
   right
   rcases ih with ⟨h1, h2⟩ | ⟨f, g, h1, h2, h3, h4, h5, h6, h7⟩
   ·rw [h2, if_pos rfl]
    exact ⟨k, k, Nat.le_refl _, by omega, hp, hp, h1, fun i h3 h4 => by omega, by simp; omega⟩
   ·rw [h7, if_neg (by simp only; omega)]
    exact ⟨f, k, by omega, by omega, h3, hp, h5, fun i h8 h9 => by omega, rfl⟩
  ·rw [if_neg hp]
   rcases ih with ⟨h1, h2⟩ | ⟨f, g, h1, h2, h3, h4, h5, h6, h7⟩
   ·left
    refine ⟨fun i hi => ?_, h2⟩
    by_cases hik : i = k
    ·subst hik; exact hp
    ·exact h1 i (by omega)
   ·right
    refine ⟨f, g, h1, by omega, h3, h4, h5, fun i h8 h9 => ?_, h7⟩
    by_cases hik : i = k
    ·subst hik; exact hp
    ·exact h6 i h8 (by omega)
theorem sum_pos {p : List Int} (h : ∀ i, 0 ≤ p.getD i 0) : (p.sum > 0 ↔ ∃ i, i < p.length ∧ p.getD i 0 > 0) ∧ 0 ≤ p.sum := by
 induction p with
 | nil => simp
 | cons x p ih =>
  have h0 : 0 ≤ x := by simpa using h 0
  have hi := ih (fun i => by simpa using h (i + 1))
  rw [List.sum_cons]
  refine ⟨⟨fun q => ?_, ?_⟩, by have := hi.2; omega⟩
  ·by_cases hx : x > 0
   ·exact ⟨0, by simp, by simpa using hx⟩
   ·obtain ⟨i, h1, h2⟩ := hi.1.1 (by omega)
    exact ⟨i + 1, by simp; omega, by simpa using h2⟩
  ·rintro ⟨i, h1, h2⟩
   cases i with
   | zero =>
    have : x > 0 := by simpa using h2
    have := hi.2
    omega
   | succ i =>
    have := hi.1.2 ⟨i, by simpa using h1, by simpa using h2⟩
    omega
theorem ext_pos {p : List Int} (h : ∀ i, 0 ≤ p.getD i 0) : (extL p).2 > 0 ↔ p.sum > 0 := by
 rw [(sum_pos h).1]
 unfold extL
 rcases ext_char p p.length with ⟨h1, h2⟩ | ⟨f, g, h1, h2, h3, h4, h5, h6, h7⟩
 ·rw [h2]
  constructor
  ·intro q; exact absurd q (by decide)
  ·rintro ⟨i, h3, h4⟩; exact absurd h4 (h1 i h3)
 ·rw [h7]
  constructor
  ·intro _; exact ⟨f, by omega, h3⟩
  ·intro _; simp only; omega
end Go.Am

set_option maxHeartbeats 4000000
set_option maxRecDepth 100000
namespace Go.Am
open Go
attribute [local irreducible] Wp WpO WpX WpE

/-- The package-level table. -/
abbrev aroundCs : List AVal := [.int .i64 0, .int .i64 (-1), .int .i64 1, .int .i64 (-1), .int .i64 1, .int .i64 0, .int .i64 1, .int .i64 1, .int .i64 0, .int .i64 1, .int .i64 (-1), .int .i64 1, .int .i64 (-1), .int .i64 0, .int .i64 (-1), .int .i64 (-1)]
/-- It is there. -/
class Tabs (H : AHeap) : Prop where
 it : tablesIn aroundT H = true
theorem tabs_iff {H : AHeap} : tablesIn aroundT H = true ↔ 0 < H.n ∧ ∃ rw e, H.get 0 = .row aroundCs rw e := by
 simp only [tablesIn, aroundT, List.all_cons, List.all_nil, Bool.and_true, Bool.and_eq_true]
 constructor
 ·rintro ⟨h1, h2⟩
  refine ⟨by simpa using h1, ?_⟩
  cases hg : H.get 0 with
  | row cs rw e => rw [hg] at h2; exact ⟨rw, e, by rw [abeqL_eq h2]⟩
  | _ => rw [hg] at h2; cases h2
 ·rintro ⟨h1, rw, e, hg⟩
  exact ⟨by simpa using h1, by rw [hg]; exact abeqL_refl _⟩
theorem Tabs.keep {H H' : AHeap} (h : Tabs H) (hn : H.n ≤ H'.n) (hg : H'.get 0 = H.get 0) : Tabs H' := by
 obtain ⟨h1, rw, e, h2⟩ := tabs_iff.1 h.it
 exact ⟨tabs_iff.2 ⟨by omega, rw, e, by rw [hg]; exact h2⟩⟩
theorem Tabs.lt {H : AHeap} (h : Tabs H) : 0 < H.n := (tabs_iff.1 h.it).1
theorem Tabs.ext {H H' : AHeap} (h : Tabs H) (x : Ext H H') : Tabs H' := h.keep x.n (x.get 0 h.lt)
class NeZ (s : Nat) : Prop where
 ne : s ≠ 0
instance {K : AHeap} [h : Tabs K] : NeZ K.n := ⟨by have := h.lt; omega⟩
instance {K : AHeap} {s : Nat} [g : GeN K s] [h : Tabs K] : NeZ s := ⟨by have := h.lt; have := g.ge; omega⟩
instance {H H' : AHeap} [x : ExtI H H'] [h : Tabs H] : Tabs H' := h.ext x.ext
instance {H : AHeap} {o : AObj} [h : Tabs H] : Tabs (H.push o) := h.ext ((Ext.refl H).push o)
instance {H : AHeap} {s : Nat} {o : AObj} [h : Tabs H] [z : NeZ s] : Tabs (H.set s o) := h.keep (Nat.le_refl _) (set_get_ne (fun e => z.ne e.symm))
instance {K H H' : AHeap} {p : AVal} [x : ExtP H H' p] [h : Tabs H] [f : FreshS K p] [k : Tabs K] : Tabs H' := h.keep x.n (x.get 0 h.lt ⟨fun r _ _ _ _ e => by have := f.ge _ _ _ _ _ e; have := k.lt; omega⟩)
theorem aClosed_nil {T : List (Nat × List AVal)} {v : AVal} {H : AHeap} (h : tablesIn T H = true) : aClosed T v [] H = some (v, H) := by
 show (match tablesIn T H with | true => some (v, H) | false => none) = some (v, H)
 rw [h]
instance K_awake {H : AHeap} [h : Tabs H] : PureCon ext prog 15 [] H 0 (.bool true) := ⟨fun n hn => by
 obtain ⟨k, rfl⟩ : ∃ k, n = k + 1 := ⟨n - 1, by unfold fuel0 at hn; omega⟩
 have e1 : prog 15 = some ⟨0, .ext 3, []⟩ := rfl
 refine ⟨.bool true, H, ?_, rfl, Ext.refl H⟩
 rw [call_ext e1]
 exact aClosed_nil h.it⟩

end Go.Am

set_option maxHeartbeats 4000000
set_option maxRecDepth 100000
namespace Go.Am
open Go
attribute [local irreducible] Wp WpO WpX WpE

theorem made_mkI {fr : AFrame} {e : TypeId} {x y : ROpd} {k k' : IntKind} {a : Nat} (hx : x.ev fr = .int k a) (hy : y.ev fr = .int k' a) (h0 : a ≤ 2 ^ 40) : (ROp.makeSlice e [.int .i64 0] 8 x y).made fr = some (cellsI (List.replicate a 0), e, fun r => .slice r 0 a (some a) 1) := by
 rw [← mk_ints]; exact made_mk hx hy (by omega)
end Go.Am

set_option maxHeartbeats 4000000
set_option maxRecDepth 100000
set_option synthInstance.maxHeartbeats 4000000
set_option synthInstance.maxSize 100000
namespace Go.Am
open Go
attribute [local irreducible] Wp WpO WpX WpE

/-- Two new lists of numbers, and no error. -/
def ProfRes (H H' : AHeap) (v : AVal) (r c : List Int) (e : Int) : Prop := ∃ p q, v = .tuple [p, q, .int .i64 e] ∧ NewInts H H' p r ∧ NewInts H H' q c
theorem wpd {l : List UInt8} (h : pxOk l = true) {k : Nat} (hk : k < l.length) : IntKind.i64.wrap ((l[k].toNat : Nat) : Int) = pd l k := by
 rw [wu8]
 unfold pd
 have e : l.getD k 0 = l[k] := by simp [hk]
 rcases px_get h hk with h1 | h1 <;> (rw [e] at h1 ⊢; rw [h1]; rfl)
theorem K_Profile {a b : Nat} {p : AVal} {H : AHeap} {l : List UInt8} [hp : BytesI H p l] (ok : Ok a b l) : Con ext prog 4 46 [.agg [.int .i64 a, .int .i64 b, p]] H fun v H' => ProfRes H H' v (rowsL l a b) (colsL l a b) 0 := by
 refine con_of (show prog 46 = some c46 from rfl) rfl rfl fun n hn => ?_
 haveI := hp.one
 have hwa := ok.wa
 have hhb := ok.hb
 have hm : a * b ≤ 640 * 640 := Nat.mul_le_mul ok.wa ok.hb
 have hl := ok.len
 have he := ok.err
 try simp only [↓nrmL, nrmZ, Nat.reduceEqDiff, ↓reduceIte, Nat.reduceAdd, Int.reduceBEq, Int.reduceBNe, he]
 refine sq ?_
 refine rg fun KF hKF => ?_
 refine Fo.boxA rfl ?_
 refine mN rfl ?_
 refine mN rfl ?_
 refine mI rfl ?_
 refine WpO.nil (hKF _ _ ?_)
 refine sq ?_
 refine sq ?_
 refine rg fun KF hKF => ?_
 refine Fo.ldN rfl rfl (by simp only [↓nrmL, nrmZ, Nat.reduceEqDiff, ↓reduceIte, Nat.reduceAdd, Int.reduceBEq, Int.reduceBNe, he]; rfl) ?_
 refine Fo.pcall (v' := ?_) hn rfl (by simp only [↓nrmL, nrmZ, Nat.reduceEqDiff, ↓reduceIte, Nat.reduceAdd, Int.reduceBEq, Int.reduceBNe, he, List.map]; rfl) rfl ?hv fun _ _ => ?_; case hv => (simp only [↓nrmL, nrmZ, Nat.reduceEqDiff, ↓reduceIte, Nat.reduceAdd, Int.reduceBEq, Int.reduceBNe, he]; rfl)
 refine mI rfl ?_
 refine WpO.nil (hKF _ _ ?_)
 refine sq ?_
 refine rg fun KF hKF => ?_
 refine mI rfl ?_
 refine Fo.bin rfl rfl rfl (by simp only [↓nrmL, nrmZ, Nat.reduceEqDiff, ↓reduceIte, Nat.reduceAdd, Int.reduceBEq, Int.reduceBNe, he]; rfl) ?_
 refine WpO.nil (hKF _ _ ?_)
 refine Wp.cond (b := false) rfl ?_
 refine Wp.skip ?_
 refine sq ?_
 rename_i H1 hx1
 have f1 := mk_facts (H := H1) (e := 2 * 3) (mk_ints b)
 have f2 := mk_facts (H := H1.push (.row (cellsI (List.replicate b 0)) true (2 * 3))) (e := 2 * 3) (mk_ints a)
 obtain ⟨q1, hq1⟩ : ∃ q : AVal, AVal.slice H1.n 0 b (some b) 1 = q := ⟨_, rfl⟩
 obtain ⟨q2, hq2⟩ : ∃ q : AVal, AVal.slice ((H1.push (.row (cellsI (List.replicate b 0)) true (2 * 3))).n) 0 a (some a) 1 = q := ⟨_, rfl⟩
 rw [hq1] at f1
 rw [hq2] at f2
 obtain ⟨m1, fr1, w1⟩ := f1
 obtain ⟨m2, fr2, w2⟩ := f2
 refine Fr.dregionE [.row (cellsI (List.replicate b 0)) true (2 * 3), .row (cellsI (List.replicate a 0)) true (2 * 3)] ?_ fun KF hKF => ?_
 ·skip
  refine oracle_pre rfl rfl rfl rfl ?_; (try simp only [↓nrmL, nrmZ, Nat.reduceEqDiff, ↓reduceIte, Nat.reduceAdd, Int.reduceBEq, Int.reduceBNe])
  refine oracle_pre rfl rfl rfl (exec_ld rfl rfl) ?_; (try simp only [↓nrmL, nrmZ, Nat.reduceEqDiff, ↓reduceIte, Nat.reduceAdd, Int.reduceBEq, Int.reduceBNe])
  refine oracle_made rfl rfl (made_mkI rfl rfl (by omega)) ?_
  refine oracle_pre rfl rfl rfl rfl ?_; (try simp only [↓nrmL, nrmZ, Nat.reduceEqDiff, ↓reduceIte, Nat.reduceAdd, Int.reduceBEq, Int.reduceBNe])
  refine oracle_pre rfl rfl rfl (exec_ld rfl rfl) ?_; (try simp only [↓nrmL, nrmZ, Nat.reduceEqDiff, ↓reduceIte, Nat.reduceAdd, Int.reduceBEq, Int.reduceBNe])
  refine oracle_made rfl rfl (made_mkI rfl rfl (by omega)) ?_
  exact oracle_none _ _ _ _ rfl
 simp only [pushAll]
 haveI := m1.one
 haveI := m2.one
 have i1 : IntsI (H1.push (.row (cellsI (List.replicate b 0)) true (2 * 3))) q1 (List.replicate b 0) := by
  unfold IntsI; rw [List.length_replicate]; exact m1
 have i2 : IntsI ((H1.push (.row (cellsI (List.replicate b 0)) true (2 * 3))).push (.row (cellsI (List.replicate a 0)) true (2 * 3))) q2 (List.replicate a 0) := by
  unfold IntsI; rw [List.length_replicate]; exact m2
 clear m1 m2
 refine Fe.pure rfl rfl (by simp only [↓nrmL, nrmZ, Nat.reduceEqDiff, ↓reduceIte, Nat.reduceAdd, Int.reduceBEq, Int.reduceBNe]; rfl) ?_
 refine Fe.read rfl (exec_ld rfl rfl) rfl (by repeat (first | exact trivial | refine ⟨(by first | exact Or.inl (by dsimp only; decide) | exact Or.inr (exec_ld rfl rfl) | exact Or.inr (exec_ldN rfl rfl rfl) | exact Or.inr (exec_ldB rfl (by omega)) | exact Or.inr (exec_ldI rfl (by omega)) | exact Or.inr ghost_of), ?_⟩)) ?_
 refine Fe.made rfl (made_mkI rfl rfl (by omega)) ghost_of trivial hq1 ?_
 change WpE _ _ (AHeap.n (AHeap.push _ (.row (cellsI (List.replicate b 0)) true (2 * 3)))) _ _ _ _ _ _ _
 refine Fe.pure rfl rfl (by simp only [↓nrmL, nrmZ, Nat.reduceEqDiff, ↓reduceIte, Nat.reduceAdd, Int.reduceBEq, Int.reduceBNe]; rfl) ?_
 refine Fe.read rfl (exec_ld rfl rfl) rfl (by repeat (first | exact trivial | refine ⟨(by first | exact Or.inl (by dsimp only; decide) | exact Or.inr (exec_ld rfl rfl) | exact Or.inr (exec_ldN rfl rfl rfl) | exact Or.inr (exec_ldB rfl (by omega)) | exact Or.inr (exec_ldI rfl (by omega)) | exact Or.inr ghost_of), ?_⟩)) ?_
 refine Fe.made rfl (made_mkI rfl rfl (by omega)) ghost_of trivial hq2 ?_
 refine Fe.pure rfl rfl (by simp only [↓nrmL, nrmZ, Nat.reduceEqDiff, ↓reduceIte, Nat.reduceAdd, Int.reduceBEq, Int.reduceBNe]; rfl) ?_
 refine Fe.pure rfl rfl (by simp only [↓nrmL, nrmZ, Nat.reduceEqDiff, ↓reduceIte, Nat.reduceAdd, Int.reduceBEq, Int.reduceBNe]; rfl) ?_
 refine WpE.nil (hKF _ _ ?_)
 refine sq ?_
 refine sq ?_
 refine rg fun KF hKF => ?_
 refine Fo.fa rfl ?_
 refine Fo.ld rfl rfl ?_
 refine mI rfl ?_
 refine WpO.nil (hKF _ _ ?_)
 refine Wp.block ?_
 dsimp only [cond_true, cond_false]
 refine Wp.loopS [6, 7, 8, 22, 23, 24, 25, 26, 27, 28, 29, 30, 31, 32, 33, 34, 35, 36, 37, 38, 39, 40, 41, 42, 43, 44, 45, 46, 47, 48, 49, 50, 51] (fun y : Nat => [(22, .int .i64 y)]) (fun _ y H2 => y ≤ b ∧ IntsI H2 q1 (rowsP l a b y 0) ∧ WrS H2 q1 ∧ IntsI H2 q2 (colsP l a y 0) ∧ WrS H2 q2 ∧ Ext H1 H2) (fun y => b - y) 0 rfl (fun _ => rfl) ⟨rfl, trivial⟩ ⟨Nat.zero_le _, by rw [rowsP_zero]; infer_instance, inferInstance, by rw [colsP_zero]; infer_instance, inferInstance, Ext0.ext⟩ (by unfold fuel0 at hn; omega) ?_
 rintro y g H2 ⟨hy, hr2, hrw2, hc2, hcw2, hxe⟩
 haveI : ExtI H1 H2 := ⟨hxe⟩
 simp only [↓nrmL, nrmZ, Nat.reduceEqDiff, ↓reduceIte, Nat.reduceAdd, Int.reduceBEq, Int.reduceBNe]
 cases hc : decide ((y : Int) < (b : Int))
 ·have hyb : y = b := by have := of_decide_eq_false hc; omega
  subst hyb
  rw [rowsP_all] at hr2
  rw [colsP_all] at hc2
  try simp only [↓nrmL, nrmZ, Nat.reduceEqDiff, ↓reduceIte, Nat.reduceAdd, Int.reduceBEq, Int.reduceBNe, hc]
  refine sq ?_
  refine rg fun KF hKF => ?_
  refine Fo.bin rfl rfl rfl (by simp only [↓nrmL, nrmZ, Nat.reduceEqDiff, ↓reduceIte, Nat.reduceAdd, Int.reduceBEq, Int.reduceBNe, hc]; rfl) ?_
  refine WpO.nil (hKF _ _ ?_)
  refine sq ?_
  refine Wp.cond (b := false) rfl ?_
  refine Wp.exit ?_
  refine sq ?_
  refine rg fun KF hKF => ?_
  refine Fo.mov (by simp only [↓nrmL, nrmK, Nat.reduceEqDiff, ↓reduceIte]; rfl) ?_
  refine Fo.mov (by simp only [↓nrmL, nrmK, Nat.reduceEqDiff, ↓reduceIte]; rfl) ?_
  refine Fo.mov (by simp only [↓nrmL, nrmK, Nat.reduceEqDiff, ↓reduceIte]; rfl) ?_
  refine Fo.mov (by simp only [↓nrmL, nrmK, Nat.reduceEqDiff, ↓reduceIte]; rfl) ?_
  refine mI rfl ?_
  refine WpO.nil (hKF _ _ ?_)
  refine Wp.ret ?_
  dsimp only [cond_true, cond_false]
  refine ⟨trivial, _, rfl, ?_⟩
  exact ⟨q1, q2, rfl, ⟨inferInstance, fr1.weak, inferInstance, Ext0.ext⟩, ⟨inferInstance, fr2.weak, inferInstance, Ext0.ext⟩⟩
 ·have hyb : y < b := by have := of_decide_eq_true hc; omega
  have hw1 := wa1 (a := y) (by omega)
  have hrl := row_le (a := a) hyb
  try simp only [↓nrmL, nrmZ, Nat.reduceEqDiff, ↓reduceIte, Nat.reduceAdd, Int.reduceBEq, Int.reduceBNe, hc]
  refine sq ?_
  refine rg fun KF hKF => ?_
  refine Fo.bin rfl rfl rfl (by simp only [↓nrmL, nrmZ, Nat.reduceEqDiff, ↓reduceIte, Nat.reduceAdd, Int.reduceBEq, Int.reduceBNe, hc]; rfl) ?_
  refine WpO.nil (hKF _ _ ?_)
  refine sq ?_
  refine Wp.cond (b := true) rfl ?_
  refine Wp.skip ?_
  refine sq ?_
  refine Wp.block ?_
  refine sq ?_
  refine rg fun KF hKF => ?_
  refine mI rfl ?_
  refine mI rfl ?_
  refine WpO.nil (hKF _ _ ?_)
  refine sq ?_
  refine rg fun KF hKF => ?_
  refine Fo.ldN rfl rfl (by simp only [↓nrmL, nrmZ, Nat.reduceEqDiff, ↓reduceIte, Nat.reduceAdd, Int.reduceBEq, Int.reduceBNe, hc]; rfl) ?_
  refine mI rfl ?_
  refine WpO.do (WpX.conD hn rfl rfl (by simp only [↓nrmL, nrmZ, Nat.reduceEqDiff, ↓reduceIte, Nat.reduceAdd, Int.reduceBEq, Int.reduceBNe, List.map] <;> rfl) (K_line (l := l) hl hyb hm hhb) fun v H4 h5 => ?_)
  obtain ⟨hv1, hv2, hx4⟩ := h5
  haveI : ExtI _ H4 := ⟨hx4⟩
  haveI := hv1.one
  refine Fo.lenV (u := ?_) (by simp only [↓nrmL, nrmK, Nat.reduceEqDiff, ↓reduceIte]; rfl) ?hv ?_; case hv => rfl
  refine mI rfl ?_
  refine WpO.nil (hKF _ _ ?_)
  refine Wp.block ?_
  dsimp only [cond_true, cond_false]
  refine Wp.loopS [7, 8, 29, 30, 31, 32, 33, 34, 35, 36, 37, 38, 39, 40, 41, 42, 43, 44, 45, 46, 47, 48, 49, 50] (fun x : Nat => [(29, .int .i64 x)]) (fun _ x H5 => x ≤ a ∧ IntsI H5 q1 (rowsP l a b y x) ∧ WrS H5 q1 ∧ IntsI H5 q2 (colsP l a y x) ∧ WrS H5 q2 ∧ Ext H1 H5) (fun x => a - x) 0 rfl (fun _ => rfl) ⟨rfl, trivial⟩ ⟨Nat.zero_le _, inferInstance, inferInstance, inferInstance, inferInstance, Ext0.ext⟩ (by unfold fuel0 at hn; omega) ?_
  rintro x g2 H5 ⟨hx0, hr5, hrw5, hc5, hcw5, hxe5⟩
  haveI : ExtI H1 H5 := ⟨hxe5⟩
  simp only [↓nrmL, nrmZ, Nat.reduceEqDiff, ↓reduceIte, Nat.reduceAdd, Int.reduceBEq, Int.reduceBNe]
  cases hc2' : decide ((x : Int) < (a : Int))
  ·have hxa : x = a := by have := of_decide_eq_false hc2'; omega
   subst hxa
   rw [rowsP_next] at hr5
   rw [colsP_next] at hc5
   try simp only [↓nrmL, nrmZ, Nat.reduceEqDiff, ↓reduceIte, Nat.reduceAdd, Int.reduceBEq, Int.reduceBNe, hc2']
   refine sq ?_
   refine rg fun KF hKF => ?_
   refine Fo.bin rfl rfl rfl (by simp only [↓nrmL, nrmZ, Nat.reduceEqDiff, ↓reduceIte, Nat.reduceAdd, Int.reduceBEq, Int.reduceBNe, hc2']; rfl) ?_
   refine WpO.nil (hKF _ _ ?_)
   refine sq ?_
   refine Wp.cond (b := false) rfl ?_
   refine Wp.exit ?_
   refine rg fun KF hKF => ?_
   refine Fo.bin rfl rfl rfl rfl ?_
   refine mI rfl ?_
   refine WpO.nil (hKF _ _ ?_)
   dsimp only [cond_true, cond_false]
   refine ⟨y + 1, by omega, ⟨by simp only [↓nrmL, nrmZ, Nat.reduceEqDiff, ↓reduceIte, Nat.reduceAdd, Int.reduceBEq, Int.reduceBNe]; rw [hw1], trivial⟩, hyb, inferInstance, inferInstance, inferInstance, inferInstance, Ext0.ext⟩
  ·have hxa : x < a := by have := of_decide_eq_true hc2'; omega
   have hlt := idx_lt hxa hyb
   have hil : y * a + x < l.length := by omega
   have hw3 := wa1 (a := x) (by omega)
   have hpd := wpd ok.px hil
   have hrlen := rowsP_length l a b y x
   have hclen := colsP_length l a y x
   have hrg := rowsP_get (l := l) (a := a) (b := b) (y := y) (x := x) hyb
   have hcg := colsP_get (l := l) (a := a) (y := y) (x := x) hxa
   have b1 := rc_bd l a y x
   have b2 := cc_bd l a x y
   have b3 := pd_bd l (y * a + x)
   have hs1 : IntKind.i64.wrap (rc l a y x + pd l (y * a + x)) = rc l a y x + pd l (y * a + x) := w64 (by omega)
   have hs2 : IntKind.i64.wrap (cc l a x y + pd l (y * a + x)) = cc l a x y + pd l (y * a + x) := w64 (by omega)
   try simp only [↓nrmL, nrmZ, Nat.reduceEqDiff, ↓reduceIte, Nat.reduceAdd, Int.reduceBEq, Int.reduceBNe, hc2', hpd, hrg, hs1]
   refine sq ?_
   refine rg fun KF hKF => ?_
   refine Fo.bin rfl rfl rfl (by simp only [↓nrmL, nrmZ, Nat.reduceEqDiff, ↓reduceIte, Nat.reduceAdd, Int.reduceBEq, Int.reduceBNe, hc2', hpd, hrg, hs1]; rfl) ?_
   refine WpO.nil (hKF _ _ ?_)
   refine sq ?_
   refine Wp.cond (b := true) rfl ?_
   refine Wp.skip ?_
   refine sq ?_
   refine Wp.block ?_
   refine sq ?_
   refine rg fun KF hKF => ?_
   refine mI rfl ?_
   refine Fo.idxV (by simp only [↓nrmL, nrmK, Nat.reduceEqDiff, ↓reduceIte]; rfl) rfl ?_ (by simp only [↓nrmL, nrmZ, Nat.reduceEqDiff, ↓reduceIte, Nat.reduceAdd, Int.reduceBEq, Int.reduceBNe, hc2', hpd, hrg, hs1]; rfl) ?_; (focus omega)
   refine Fo.ldB rfl ?_ rfl ?_; (focus omega)
   refine mI rfl ?_
   refine mI rfl ?_
   refine WpO.nil (hKF _ _ ?_)
   refine sq ?_
   refine rg fun KF hKF => ?_
   refine Fo.mov (by simp only [↓nrmL, nrmK, Nat.reduceEqDiff, ↓reduceIte]; rfl) ?_
   refine mI rfl ?_
   refine Fo.idx (by simp only [↓nrmL, nrmK, Nat.reduceEqDiff, ↓reduceIte]; rfl) rfl ?_ (by simp only [↓nrmL, nrmZ, Nat.reduceEqDiff, ↓reduceIte, Nat.reduceAdd, Int.reduceBEq, Int.reduceBNe, hc2', hpd, hrg, hs1]; rfl) ?_; (focus omega)
   refine Fo.ldI rfl ?_ (by simp only [↓nrmL, nrmZ, Nat.reduceEqDiff, ↓reduceIte, Nat.reduceAdd, Int.reduceBEq, Int.reduceBNe, hc2', hpd, hrg, hs1]; rfl) ?_; (focus omega)
   refine mI rfl ?_
   refine Fo.now rfl rfl (by simp only [↓nrmL, nrmZ, Nat.reduceEqDiff, ↓reduceIte, Nat.reduceAdd, Int.reduceBEq, Int.reduceBNe, hc2', hpd, hrg, hs1]; rfl) ?_
   refine Fo.bin rfl rfl rfl (by simp only [↓nrmL, nrmZ, Nat.reduceEqDiff, ↓reduceIte, Nat.reduceAdd, Int.reduceBEq, Int.reduceBNe, hc2', hpd, hrg, hs1]; rfl) ?_
   refine Fo.idx (by simp only [↓nrmL, nrmK, Nat.reduceEqDiff, ↓reduceIte]; rfl) rfl ?_ (by simp only [↓nrmL, nrmZ, Nat.reduceEqDiff, ↓reduceIte, Nat.reduceAdd, Int.reduceBEq, Int.reduceBNe, hc2', hpd, hrg, hs1]; rfl) ?_; (focus omega)
   refine WpO.do' (WpX.stI (l := rowsP l a b y x) rfl rfl (by omega) fun H6 hb6 hw6 hx6 => ?_)
   rw [rowsP_set] at hb6
   try simp only [↓nrmL, nrmZ, Nat.reduceEqDiff, ↓reduceIte, Nat.reduceAdd, Int.reduceBEq, Int.reduceBNe, hpd, hcg, hs2]
   refine WpO.nil (hKF _ _ ?_)
   refine rg fun KF hKF => ?_
   refine Fo.mov (by simp only [↓nrmL, nrmK, Nat.reduceEqDiff, ↓reduceIte]; rfl) ?_
   refine mI rfl ?_
   refine Fo.idx (by simp only [↓nrmL, nrmK, Nat.reduceEqDiff, ↓reduceIte]; rfl) rfl ?_ (by simp only [↓nrmL, nrmZ, Nat.reduceEqDiff, ↓reduceIte, Nat.reduceAdd, Int.reduceBEq, Int.reduceBNe, hpd, hcg, hs2]; rfl) ?_; (focus omega)
   refine Fo.ldI rfl ?_ (by simp only [↓nrmL, nrmZ, Nat.reduceEqDiff, ↓reduceIte, Nat.reduceAdd, Int.reduceBEq, Int.reduceBNe, hpd, hcg, hs2]; rfl) ?_; (focus omega)
   refine mI rfl ?_
   refine Fo.now rfl rfl (by simp only [↓nrmL, nrmZ, Nat.reduceEqDiff, ↓reduceIte, Nat.reduceAdd, Int.reduceBEq, Int.reduceBNe, hpd, hcg, hs2]; rfl) ?_
   refine Fo.bin rfl rfl rfl (by simp only [↓nrmL, nrmZ, Nat.reduceEqDiff, ↓reduceIte, Nat.reduceAdd, Int.reduceBEq, Int.reduceBNe, hpd, hcg, hs2]; rfl) ?_
   refine Fo.idx (by simp only [↓nrmL, nrmK, Nat.reduceEqDiff, ↓reduceIte]; rfl) rfl ?_ (by simp only [↓nrmL, nrmZ, Nat.reduceEqDiff, ↓reduceIte, Nat.reduceAdd, Int.reduceBEq, Int.reduceBNe, hpd, hcg, hs2]; rfl) ?_; (focus omega)
   refine WpO.do' (WpX.stI (l := colsP l a y x) rfl rfl (by omega) fun H7 hb7 hw7 hx7 => ?_)
   rw [colsP_set] at hb7
   refine WpO.nil (hKF _ _ ?_)
   refine rg fun KF hKF => ?_
   refine Fo.bin rfl rfl rfl rfl ?_
   refine mI rfl ?_
   refine WpO.nil (hKF _ _ ?_)
   dsimp only [cond_true, cond_false]
   refine ⟨x + 1, by omega, ⟨by simp only [↓nrmL, nrmZ, Nat.reduceEqDiff, ↓reduceIte, Nat.reduceAdd, Int.reduceBEq, Int.reduceBNe]; rw [hw3], trivial⟩, hxa, inferInstance, inferInstance, hb7, hw7, Ext0.ext⟩

theorem extF_get (p : List Int) (k : Nat) (hk : k < p.length) : extF p (k + 1) = extS (extF p k) k p[k] := by
 simp only [extF]
 congr 1
 simp [hk]
instance K_extent {p : AVal} {H : AHeap} {l : List Int} [hp : IntsI H p l] [hs : Short l] : PureCon ext prog 107 [p] H 1 (.tuple [.int .i64 (extL l).1, .int .i64 (extL l).2]) := ⟨by
 refine con_of (show prog 107 = some c107 from rfl) rfl rfl fun n hn => ?_
 haveI := hp.one
 have hsl := hs.le
 refine sq ?_
 refine rg fun KF hKF => ?_
 refine mI rfl ?_
 refine mI rfl ?_
 refine WpO.nil (hKF _ _ ?_)
 refine sq ?_
 refine sq ?_
 refine rg fun KF hKF => ?_
 refine Fo.mov (by simp only [↓nrmL, nrmK, Nat.reduceEqDiff, ↓reduceIte]; rfl) ?_
 refine Fo.len (v := ?_) (by simp only [↓nrmL, nrmK, Nat.reduceEqDiff, ↓reduceIte]; rfl) ?hv ?_; case hv => rfl
 refine mI rfl ?_
 refine WpO.nil (hKF _ _ ?_)
 refine Wp.block ?_
 dsimp only [cond_true, cond_false]
 refine Wp.loopS [2, 3, 4, 5, 8, 9, 10, 11, 12, 13, 14, 15, 16, 17, 18, 19, 20, 21, 22, 23, 24, 25, 26] (fun k : Nat => [(2, .int .i64 (extF l k).1), (3, .int .i64 (extF l k).2), (8, .int .i64 k)]) (fun H3 k H2 => k ≤ l.length ∧ H2 = H3) (fun k => l.length - k) 0 rfl (fun _ => rfl) ⟨rfl, rfl, rfl, trivial⟩ ⟨Nat.zero_le _, rfl⟩ (by unfold fuel0 at hn; omega) ?_
 rintro k g H2 ⟨hk, rfl⟩
 simp only [↓nrmL, nrmZ, Nat.reduceEqDiff, ↓reduceIte]
 cases hc : decide ((k : Int) < (l.length : Int))
 ·have hkl : k = l.length := by have := of_decide_eq_false hc; omega
  subst hkl
  try simp only [↓nrmL, nrmZ, Nat.reduceEqDiff, ↓reduceIte, hc]
  refine sq ?_
  refine rg fun KF hKF => ?_
  refine Fo.bin rfl rfl rfl (by simp only [↓nrmL, nrmZ, Nat.reduceEqDiff, ↓reduceIte, hc]; rfl) ?_
  refine WpO.nil (hKF _ _ ?_)
  refine sq ?_
  refine Wp.cond (b := false) rfl ?_
  refine Wp.exit ?_
  refine sq ?_
  refine rg fun KF hKF => ?_
  refine mI rfl ?_
  refine mI rfl ?_
  refine mI rfl ?_
  refine mI rfl ?_
  refine WpO.nil (hKF _ _ ?_)
  refine Wp.ret ?_
  dsimp only [cond_true, cond_false]
  refine ⟨trivial, _, rfl, ?_⟩
  exact ⟨rfl, Ext0.ext⟩
 ·have hkl : k < l.length := by have := of_decide_eq_true hc; omega
  have hw1 := wa1 (a := k) (by omega)
  have hb := ext_bd l k
  have hg := extF_get l k hkl
  unfold extS at hg
  cases hp0 : decide (l[k] > 0)
  ·rw [if_neg (of_decide_eq_false hp0)] at hg
   try simp only [↓nrmL, nrmZ, Nat.reduceEqDiff, ↓reduceIte, hc, hp0]
   refine sq ?_
   refine rg fun KF hKF => ?_
   refine Fo.bin rfl rfl rfl (by simp only [↓nrmL, nrmZ, Nat.reduceEqDiff, ↓reduceIte, hc, hp0]; rfl) ?_
   refine WpO.nil (hKF _ _ ?_)
   refine sq ?_
   refine Wp.cond (b := true) rfl ?_
   refine Wp.skip ?_
   refine sq ?_
   refine Wp.block ?_
   refine sq ?_
   refine rg fun KF hKF => ?_
   refine mI rfl ?_
   refine Fo.idx (by simp only [↓nrmL, nrmK, Nat.reduceEqDiff, ↓reduceIte]; rfl) rfl ?_ (by simp only [↓nrmL, nrmZ, Nat.reduceEqDiff, ↓reduceIte, hc, hp0]; rfl) ?_; (focus omega)
   refine Fo.ldI rfl ?_ rfl ?_; (focus omega)
   refine mI rfl ?_
   refine mI rfl ?_
   refine WpO.nil (hKF _ _ ?_)
   refine sq ?_
   refine sq ?_
   refine rg fun KF hKF => ?_
   refine mI rfl ?_
   refine Fo.bin rfl rfl rfl (by simp only [↓nrmL, nrmZ, Nat.reduceEqDiff, ↓reduceIte, hc, hp0]; rfl) ?_
   refine mB rfl ?_
   refine Fo.no rfl rfl ?_
   refine Fo.no rfl rfl ?_
   refine fB rfl rfl ?_
   refine WpO.nil (hKF _ _ ?_)
   refine Wp.cond (b := false) rfl ?_
   refine Wp.skip ?_
   refine sq ?_
   refine rg fun KF hKF => ?_
   refine mI rfl ?_
   refine Fo.bin rfl rfl rfl (by simp only [↓nrmL, nrmZ, Nat.reduceEqDiff, ↓reduceIte, hc, hp0]; rfl) ?_
   refine WpO.nil (hKF _ _ ?_)
   refine Wp.cond (b := false) rfl ?_
   refine Wp.skip ?_
   refine rg fun KF hKF => ?_
   refine Fo.bin rfl rfl rfl rfl ?_
   refine mI rfl ?_
   refine WpO.nil (hKF _ _ ?_)
   dsimp only [cond_true, cond_false]
   refine ⟨k + 1, by omega, ⟨by simp only [↓nrmL, nrmZ, Nat.reduceEqDiff, ↓reduceIte]; rw [hg], by simp only [↓nrmL, nrmZ, Nat.reduceEqDiff, ↓reduceIte]; rw [hg], by simp only [↓nrmL, nrmZ, Nat.reduceEqDiff, ↓reduceIte]; rw [hw1], trivial⟩, hkl, rfl⟩
  ·rw [if_pos (of_decide_eq_true hp0)] at hg
   cases h2 : ((extF l k).2 == 0)
   ·have h2' : ¬ (extF l k).2 = 0 := by simpa using h2
    rw [if_neg h2'] at hg
    have hw2 : IntKind.i64.wrap (((k + 1 : Nat) : Int) - (extF l k).1) = (k : Int) + 1 - (extF l k).1 := by rw [w64 (by omega)]; omega
    try simp only [↓nrmL, nrmZ, Nat.reduceEqDiff, ↓reduceIte, hc, hp0, h2, hw1, hw2]
    refine sq ?_
    refine rg fun KF hKF => ?_
    refine Fo.bin rfl rfl rfl (by simp only [↓nrmL, nrmZ, Nat.reduceEqDiff, ↓reduceIte, hc, hp0, h2, hw1, hw2]; rfl) ?_
    refine WpO.nil (hKF _ _ ?_)
    refine sq ?_
    refine Wp.cond (b := true) rfl ?_
    refine Wp.skip ?_
    refine sq ?_
    refine Wp.block ?_
    refine sq ?_
    refine rg fun KF hKF => ?_
    refine mI rfl ?_
    refine Fo.idx (by simp only [↓nrmL, nrmK, Nat.reduceEqDiff, ↓reduceIte]; rfl) rfl ?_ (by simp only [↓nrmL, nrmZ, Nat.reduceEqDiff, ↓reduceIte, hc, hp0, h2, hw1, hw2]; rfl) ?_; (focus omega)
    refine Fo.ldI rfl ?_ rfl ?_; (focus omega)
    refine mI rfl ?_
    refine mI rfl ?_
    refine WpO.nil (hKF _ _ ?_)
    refine sq ?_
    refine sq ?_
    refine rg fun KF hKF => ?_
    refine mI rfl ?_
    refine Fo.bin rfl rfl rfl (by simp only [↓nrmL, nrmZ, Nat.reduceEqDiff, ↓reduceIte, hc, hp0, h2, hw1, hw2]; rfl) ?_
    refine mB rfl ?_
    refine Fo.yes rfl rfl ?_
    refine mI rfl ?_
    refine Fo.yes rfl rfl ?_
    refine Fo.bin rfl rfl rfl (by simp only [↓nrmL, nrmZ, Nat.reduceEqDiff, ↓reduceIte, hc, hp0, h2, hw1, hw2]; rfl) ?_
    refine tB rfl rfl ?_
    refine WpO.nil (hKF _ _ ?_)
    refine Wp.cond (b := false) rfl ?_
    refine Wp.skip ?_
    refine sq ?_
    refine rg fun KF hKF => ?_
    refine mI rfl ?_
    refine Fo.bin rfl rfl rfl (by simp only [↓nrmL, nrmZ, Nat.reduceEqDiff, ↓reduceIte, hc, hp0, h2, hw1, hw2]; rfl) ?_
    refine WpO.nil (hKF _ _ ?_)
    refine Wp.cond (b := true) rfl ?_
    refine rg fun KF hKF => ?_
    refine mI rfl ?_
    refine Fo.bin rfl rfl rfl (by simp only [↓nrmL, nrmZ, Nat.reduceEqDiff, ↓reduceIte, hc, hp0, h2, hw1, hw2]; rfl) ?_
    refine mI rfl ?_
    refine Fo.bin rfl rfl rfl (by simp only [↓nrmL, nrmZ, Nat.reduceEqDiff, ↓reduceIte, hc, hp0, h2, hw1, hw2]; rfl) ?_
    refine mI rfl ?_
    refine WpO.nil (hKF _ _ ?_)
    refine rg fun KF hKF => ?_
    refine Fo.bin rfl rfl rfl (by simp only [↓nrmL, nrmZ, Nat.reduceEqDiff, ↓reduceIte, hc, hp0, h2, hw1, hw2]; rfl) ?_
    refine mI rfl ?_
    refine WpO.nil (hKF _ _ ?_)
    dsimp only [cond_true, cond_false]
    refine ⟨k + 1, by omega, ⟨by simp only [↓nrmL, nrmZ, Nat.reduceEqDiff, ↓reduceIte]; rw [hg], by simp only [↓nrmL, nrmZ, Nat.reduceEqDiff, ↓reduceIte]; rw [hg], by first | (simp only [↓nrmL, nrmZ, Nat.reduceEqDiff, ↓reduceIte]; rw [hw1]; done) | simp only [↓nrmL, nrmZ, Nat.reduceEqDiff, ↓reduceIte], trivial⟩, hkl, rfl⟩
   ·have h2' : (extF l k).2 = 0 := by simpa using h2
    rw [if_pos h2'] at hg
    have hw2 : IntKind.i64.wrap (((k + 1 : Nat) : Int) - (k : Int)) = 1 := by rw [w64 (by omega)]; omega
    try simp only [↓nrmL, nrmZ, Nat.reduceEqDiff, ↓reduceIte, hc, hp0, h2, hw1, hw2]
    refine sq ?_
    refine rg fun KF hKF => ?_
    refine Fo.bin rfl rfl rfl (by simp only [↓nrmL, nrmZ, Nat.reduceEqDiff, ↓reduceIte, hc, hp0, h2, hw1, hw2]; rfl) ?_
    refine WpO.nil (hKF _ _ ?_)
    refine sq ?_
    refine Wp.cond (b := true) rfl ?_
    refine Wp.skip ?_
    refine sq ?_
    refine Wp.block ?_
    refine sq ?_
    refine rg fun KF hKF => ?_
    refine mI rfl ?_
    refine Fo.idx (by simp only [↓nrmL, nrmK, Nat.reduceEqDiff, ↓reduceIte]; rfl) rfl ?_ (by simp only [↓nrmL, nrmZ, Nat.reduceEqDiff, ↓reduceIte, hc, hp0, h2, hw1, hw2]; rfl) ?_; (focus omega)
    refine Fo.ldI rfl ?_ rfl ?_; (focus omega)
    refine mI rfl ?_
    refine mI rfl ?_
    refine WpO.nil (hKF _ _ ?_)
    refine sq ?_
    refine sq ?_
    refine rg fun KF hKF => ?_
    refine mI rfl ?_
    refine Fo.bin rfl rfl rfl (by simp only [↓nrmL, nrmZ, Nat.reduceEqDiff, ↓reduceIte, hc, hp0, h2, hw1, hw2]; rfl) ?_
    refine mB rfl ?_
    refine Fo.yes rfl rfl ?_
    refine mI rfl ?_
    refine Fo.yes rfl rfl ?_
    refine Fo.bin rfl rfl rfl (by simp only [↓nrmL, nrmZ, Nat.reduceEqDiff, ↓reduceIte, hc, hp0, h2, hw1, hw2]; rfl) ?_
    refine tB rfl rfl ?_
    refine WpO.nil (hKF _ _ ?_)
    refine Wp.cond (b := true) rfl ?_
    refine rg fun KF hKF => ?_
    refine mI rfl ?_
    refine mI rfl ?_
    refine WpO.nil (hKF _ _ ?_)
    refine sq ?_
    refine rg fun KF hKF => ?_
    refine mI rfl ?_
    refine Fo.bin rfl rfl rfl (by simp only [↓nrmL, nrmZ, Nat.reduceEqDiff, ↓reduceIte, hc, hp0, h2, hw1, hw2]; rfl) ?_
    refine WpO.nil (hKF _ _ ?_)
    refine Wp.cond (b := true) rfl ?_
    refine rg fun KF hKF => ?_
    refine mI rfl ?_
    refine Fo.bin rfl rfl rfl (by simp only [↓nrmL, nrmZ, Nat.reduceEqDiff, ↓reduceIte, hc, hp0, h2, hw1, hw2]; rfl) ?_
    refine mI rfl ?_
    refine Fo.bin rfl rfl rfl (by simp only [↓nrmL, nrmZ, Nat.reduceEqDiff, ↓reduceIte, hc, hp0, h2, hw1, hw2]; rfl) ?_
    refine mI rfl ?_
    refine WpO.nil (hKF _ _ ?_)
    refine rg fun KF hKF => ?_
    refine Fo.bin rfl rfl rfl (by simp only [↓nrmL, nrmZ, Nat.reduceEqDiff, ↓reduceIte, hc, hp0, h2, hw1, hw2]; rfl) ?_
    refine mI rfl ?_
    refine WpO.nil (hKF _ _ ?_)
    dsimp only [cond_true, cond_false]
    refine ⟨k + 1, by omega, ⟨by simp only [↓nrmL, nrmZ, Nat.reduceEqDiff, ↓reduceIte]; rw [hg], by simp only [↓nrmL, nrmZ, Nat.reduceEqDiff, ↓reduceIte]; rw [hg], by first | (simp only [↓nrmL, nrmZ, Nat.reduceEqDiff, ↓reduceIte]; rw [hw1]; done) | simp only [↓nrmL, nrmZ, Nat.reduceEqDiff, ↓reduceIte], trivial⟩, hkl, rfl⟩⟩

theorem K_Box {a b : Nat} {p : AVal} {H : AHeap} {l : List UInt8} [hp : BytesI H p l] (ok : Ok a b l) : Con ext prog 5 43 [.agg [.int .i64 a, .int .i64 b, p]] H fun v H' => v = .tuple [.agg [.int .i64 (extL (colsL l a b)).1, .int .i64 (extL (rowsL l a b)).1, .int .i64 (extL (colsL l a b)).2, .int .i64 (extL (rowsL l a b)).2], .int .i64 0] ∧ Ext H H' := by
 refine con_of (show prog 43 = some c43 from rfl) rfl rfl fun n hn => ?_
 haveI := hp.one
 have hwa := ok.wa
 have hhb := ok.hb
 refine sq ?_
 refine rg fun KF hKF => ?_
 refine Fo.boxA rfl ?_
 refine Fo.new ?_
 refine mI rfl ?_
 refine WpO.nil (hKF _ _ ?_)
 refine sq ?_
 refine rg fun KF hKF => ?_
 refine Fo.ldN rfl rfl (by simp only [↓nrmL, nrmZ, Nat.reduceEqDiff, ↓reduceIte, Nat.reduceAdd, Int.reduceBEq, Int.reduceBNe]; rfl) ?_
 refine WpO.do (WpX.conD hn rfl rfl (by simp only [↓nrmL, nrmZ, Nat.reduceEqDiff, ↓reduceIte, Nat.reduceAdd, Int.reduceBEq, Int.reduceBNe, List.map] <;> rfl) (K_Profile ok) fun v H1 h5 => ?_)
 obtain ⟨q1, q2, e1, ⟨h1, hf1, hw1, hx1⟩, ⟨h2, hf2, hw2, hx2⟩⟩ := h5
 subst e1
 haveI : ExtI _ H1 := ⟨hx1⟩
 haveI := h1.one
 haveI := h2.one
 haveI : Short (rowsL l a b) := ⟨by simp [rowsL]; omega⟩
 haveI : Short (colsL l a b) := ⟨by simp [colsL]; omega⟩
 refine mT rfl ?_
 refine Fo.extr rfl rfl ?_
 refine Fo.extr rfl rfl ?_
 refine Fo.extr rfl rfl ?_
 refine Fo.mov (by simp only [↓nrmL, nrmK, Nat.reduceEqDiff, ↓reduceIte]; rfl) ?_
 refine Fo.mov (by simp only [↓nrmL, nrmK, Nat.reduceEqDiff, ↓reduceIte]; rfl) ?_
 refine mI rfl ?_
 refine WpO.nil (hKF _ _ ?_)
 refine sq ?_
 refine sq ?_
 refine rg fun KF hKF => ?_
 refine mI rfl ?_
 refine Fo.bin rfl rfl rfl (by simp only [↓nrmL, nrmZ, Nat.reduceEqDiff, ↓reduceIte, Nat.reduceAdd, Int.reduceBEq, Int.reduceBNe]; rfl) ?_
 refine WpO.nil (hKF _ _ ?_)
 refine Wp.cond (b := false) rfl ?_
 refine Wp.skip ?_
 refine sq ?_
 refine rg fun KF hKF => ?_
 refine Fo.mov (by simp only [↓nrmL, nrmK, Nat.reduceEqDiff, ↓reduceIte]; rfl) ?_
 refine Fo.pcall (v' := ?_) hn rfl (by simp only [↓nrmL, nrmZ, Nat.reduceEqDiff, ↓reduceIte, Nat.reduceAdd, Int.reduceBEq, Int.reduceBNe, List.map]; rfl) rfl ?hv fun _ _ => ?_; case hv => rfl
 refine mT rfl ?_
 refine Fo.extr rfl rfl ?_
 refine Fo.extr rfl rfl ?_
 refine mI rfl ?_
 refine mI rfl ?_
 refine WpO.nil (hKF _ _ ?_)
 refine sq ?_
 refine rg fun KF hKF => ?_
 refine Fo.mov (by simp only [↓nrmL, nrmK, Nat.reduceEqDiff, ↓reduceIte]; rfl) ?_
 refine Fo.pcall (v' := ?_) hn rfl (by simp only [↓nrmL, nrmZ, Nat.reduceEqDiff, ↓reduceIte, Nat.reduceAdd, Int.reduceBEq, Int.reduceBNe, List.map]; rfl) rfl ?hv fun _ _ => ?_; case hv => rfl
 refine mT rfl ?_
 refine Fo.extr rfl rfl ?_
 refine Fo.extr rfl rfl ?_
 refine mI rfl ?_
 refine mI rfl ?_
 refine WpO.nil (hKF _ _ ?_)
 refine sq ?_
 refine rg fun KF hKF => ?_
 refine mI rfl ?_
 refine mI rfl ?_
 refine mI rfl ?_
 refine mI rfl ?_
 refine Fo.build (by repeat (first | refine aFill1 (by first | exact (rfl : _ = AVal.int _ _) | exact (rfl : _ = AVal.ptr _ _) | exact (rfl : _ = AVal.bool _) | exact (rfl : _ = AVal.agg _) | exact (rfl : _ = AVal.tuple _) | exact (rfl : _ = AVal.func _ _ _) | exact (rfl : _ = AVal.nslice) | ((try simp only [↓nrmL, nrmK, Nat.reduceEqDiff, ↓reduceIte]); rfl)) rfl ?_ | rfl)) (by simp only [↓nrmL, nrmZ, Nat.reduceEqDiff, ↓reduceIte, Nat.reduceAdd, Int.reduceBEq, Int.reduceBNe]; rfl) ?_
 refine Fo.st rfl (rfl : _ = AVal.agg _) rfl rfl rfl (by repeat (first | rfl | refine allOne_cons ?_)) (by simp only [↓nrmL, nrmZ, Nat.reduceEqDiff, ↓reduceIte, Nat.reduceAdd, Int.reduceBEq, Int.reduceBNe]; rfl) ?_
 refine mI rfl ?_
 refine WpO.nil (hKF _ _ ?_)
 refine Wp.ret ?_
 dsimp only [cond_true, cond_false]
 refine ⟨trivial, _, (getAllC rfl rfl rfl rfl), ?_⟩
 exact ⟨rfl, Ext0.ext⟩
end Go.Am

set_option maxHeartbeats 4000000
set_option maxRecDepth 100000
set_option synthInstance.maxHeartbeats 4000000
set_option synthInstance.maxSize 100000
namespace Go.Am
open Go
attribute [local irreducible] Wp WpO WpX WpE

theorem paint_ok {l : List RunT} {L C : Nat → Nat} {a b : Nat} (ha : a ≤ 640) (hb : b ≤ 640) : Ok a b (paint l L C (a * b)) := by
 refine ⟨ha, hb, by simp [paint], ?_⟩
 unfold pxOk paint
 rw [List.all_eq_true]
 intro c hc
 obtain ⟨k, _, rfl⟩ := List.mem_map.1 hc
 split <;> rfl
theorem flip_paint {l : List RunT} {a b : Nat} : flipL (paint l (fun k => k / b) (fun k => k % b) (b * a)) b a = paint l (fun k => k % a) (fun k => k / a) (a * b) := by
 refine list_eqA 0 (by simp [flipL, paint]) fun t ht => ?_
 have ht : t < a * b := by simpa [flipL] using ht
 have ha : 0 < a := by
  rcases Nat.eq_zero_or_pos a with h | h
  ·subst h; rw [Nat.zero_mul] at ht; omega
  ·exact h
 have h1 : t % a < a := Nat.mod_lt t ha
 have h2 : t / a < b := div_lt' ht
 have hk : (t % a) * b + t / a < b * a := idx_lt h2 h1
 obtain ⟨q1, q2⟩ := (flp_iff (b := b) (x := t % a) (y := t / a) (k := t % a * b + t / a) h2).1 rfl
 unfold flipL paint
 rw [getD_mapA (by omega), getD_mapA hk, getD_mapA ht]
 simp only [q1, q2]
theorem K_refFromColumns {w h : Int} {p : AVal} {H : AHeap} {l : List RunT} [hp : RunsI H p l] [hs : ShortR l] : Con ext prog 4 55 [.int .i64 w, .int .i64 h, p] H fun v H' => InkRes H H' v (colsImg w h l) := by
 refine con_of (show prog 55 = some c55 from rfl) rfl rfl fun n hn => ?_
 haveI := hp.one
 unfold colsImg fromSpec
 cases hside : (sideB w && sideB h)
 ·have hr : rowsImg h w l = (.zero, 2) := by
   unfold rowsImg fromSpec
   rw [Bool.and_comm, hside]; rfl
  refine sq ?_
  refine rg fun KF hKF => ?_
  refine Fo.new ?_
  refine mI rfl ?_
  refine WpO.nil (hKF _ _ ?_)
  refine sq ?_
  refine rg fun KF hKF => ?_
  refine mI rfl ?_
  refine mI rfl ?_
  refine Fo.mov (by simp only [↓nrmL, nrmK, Nat.reduceEqDiff, ↓reduceIte]; rfl) ?_
  refine WpO.do (WpX.conD hn rfl rfl (by simp only [↓nrmL, nrmZ, Nat.reduceEqDiff, ↓reduceIte, List.map] <;> rfl) (K_refFromRows (w := h) (h := w) (l := l)) fun v H1 h5 => ?_)
  rw [hr] at h5
  obtain ⟨q0, e2, q, e3, hq, hf, hwq, hx⟩ := h5
  subst e2
  subst e3
  haveI : ExtI _ H1 := ⟨hx⟩
  haveI := hq.one
  refine mT rfl ?_
  refine Fo.extr rfl rfl ?_
  refine Fo.extr rfl rfl ?_
  refine Fo.new ?_
  refine Fo.st rfl (rfl : _ = AVal.agg _) rfl rfl rfl (by repeat (first | rfl | refine allOne_cons ?_)) (by simp only [↓nrmL, nrmZ, Nat.reduceEqDiff, ↓reduceIte]; rfl) ?_
  refine mI rfl ?_
  refine WpO.nil (hKF _ _ ?_)
  refine sq ?_
  refine sq ?_
  refine rg fun KF hKF => ?_
  refine mI rfl ?_
  refine Fo.bin rfl rfl rfl (by simp only [↓nrmL, nrmZ, Nat.reduceEqDiff, ↓reduceIte]; rfl) ?_
  refine WpO.nil (hKF _ _ ?_)
  refine Wp.cond (b := true) rfl ?_
  refine sq ?_
  refine rg fun KF hKF => ?_
  refine Fo.build (by repeat (first | refine aFill1 (by first | exact (rfl : _ = AVal.int _ _) | exact (rfl : _ = AVal.ptr _ _) | exact (rfl : _ = AVal.bool _) | exact (rfl : _ = AVal.agg _) | exact (rfl : _ = AVal.tuple _) | exact (rfl : _ = AVal.func _ _ _) | exact (rfl : _ = AVal.nslice) | ((try simp only [↓nrmL, nrmK, Nat.reduceEqDiff, ↓reduceIte]); rfl)) rfl ?_ | rfl)) rfl ?_
  refine mI rfl ?_
  refine Fo.st rfl (rfl : _ = AVal.agg _) rfl rfl rfl (by repeat (first | rfl | refine allOne_cons ?_)) (by simp only [↓nrmL, nrmZ, Nat.reduceEqDiff, ↓reduceIte]; rfl) ?_
  refine mI rfl ?_
  refine WpO.nil (hKF _ _ ?_)
  refine Wp.ret ?_
  dsimp only [cond_true, cond_false]
  refine ⟨trivial, _, (getAllC rfl rfl rfl rfl), ?_⟩
  exact ⟨_, rfl, newZero⟩
 obtain ⟨a, b, rfl, rfl, ha, hb⟩ : ∃ a b : Nat, w = a ∧ h = b ∧ a ≤ 640 ∧ b ≤ 640 := by
  simp only [sideB, Bool.and_eq_true, decide_eq_true_eq] at hside
  exact ⟨w.toNat, h.toNat, by omega, by omega, by omega, by omega⟩
 simp only [Int.toNat_natCast, cond_true]
 cases hpr : properB l (a : Int) (b : Int)
 ·have hr : rowsImg (b : Int) (a : Int) l = (.zero, 1) := by
   unfold rowsImg fromSpec
   rw [Bool.and_comm, hside, hpr]; rfl
  refine sq ?_
  refine rg fun KF hKF => ?_
  refine Fo.new ?_
  refine mI rfl ?_
  refine WpO.nil (hKF _ _ ?_)
  refine sq ?_
  refine rg fun KF hKF => ?_
  refine mI rfl ?_
  refine mI rfl ?_
  refine Fo.mov (by simp only [↓nrmL, nrmK, Nat.reduceEqDiff, ↓reduceIte]; rfl) ?_
  refine WpO.do (WpX.conD hn rfl rfl (by simp only [↓nrmL, nrmZ, Nat.reduceEqDiff, ↓reduceIte, List.map] <;> rfl) (K_refFromRows (w := (b : Int)) (h := (a : Int)) (l := l)) fun v H1 h5 => ?_)
  rw [hr] at h5
  obtain ⟨q0, e2, q, e3, hq, hf, hwq, hx⟩ := h5
  subst e2
  subst e3
  haveI : ExtI _ H1 := ⟨hx⟩
  haveI := hq.one
  refine mT rfl ?_
  refine Fo.extr rfl rfl ?_
  refine Fo.extr rfl rfl ?_
  refine Fo.new ?_
  refine Fo.st rfl (rfl : _ = AVal.agg _) rfl rfl rfl (by repeat (first | rfl | refine allOne_cons ?_)) (by simp only [↓nrmL, nrmZ, Nat.reduceEqDiff, ↓reduceIte]; rfl) ?_
  refine mI rfl ?_
  refine WpO.nil (hKF _ _ ?_)
  refine sq ?_
  refine sq ?_
  refine rg fun KF hKF => ?_
  refine mI rfl ?_
  refine Fo.bin rfl rfl rfl (by simp only [↓nrmL, nrmZ, Nat.reduceEqDiff, ↓reduceIte]; rfl) ?_
  refine WpO.nil (hKF _ _ ?_)
  refine Wp.cond (b := true) rfl ?_
  refine sq ?_
  refine rg fun KF hKF => ?_
  refine Fo.build (by repeat (first | refine aFill1 (by first | exact (rfl : _ = AVal.int _ _) | exact (rfl : _ = AVal.ptr _ _) | exact (rfl : _ = AVal.bool _) | exact (rfl : _ = AVal.agg _) | exact (rfl : _ = AVal.tuple _) | exact (rfl : _ = AVal.func _ _ _) | exact (rfl : _ = AVal.nslice) | ((try simp only [↓nrmL, nrmK, Nat.reduceEqDiff, ↓reduceIte]); rfl)) rfl ?_ | rfl)) rfl ?_
  refine mI rfl ?_
  refine Fo.st rfl (rfl : _ = AVal.agg _) rfl rfl rfl (by repeat (first | rfl | refine allOne_cons ?_)) (by simp only [↓nrmL, nrmZ, Nat.reduceEqDiff, ↓reduceIte]; rfl) ?_
  refine mI rfl ?_
  refine WpO.nil (hKF _ _ ?_)
  refine Wp.ret ?_
  dsimp only [cond_true, cond_false]
  refine ⟨trivial, _, (getAllC rfl rfl rfl rfl), ?_⟩
  exact ⟨_, rfl, newZero⟩
 have hr : rowsImg (b : Int) (a : Int) l = (⟨(b : Int), (a : Int), paint l (fun k => k / b) (fun k => k % b) (b * a)⟩, 0) := by
  unfold rowsImg fromSpec
  rw [Bool.and_comm, hside, hpr]; rfl
 refine sq ?_
 refine rg fun KF hKF => ?_
 refine Fo.new ?_
 refine mI rfl ?_
 refine WpO.nil (hKF _ _ ?_)
 refine sq ?_
 refine rg fun KF hKF => ?_
 refine mI rfl ?_
 refine mI rfl ?_
 refine Fo.mov (by simp only [↓nrmL, nrmK, Nat.reduceEqDiff, ↓reduceIte]; rfl) ?_
 refine WpO.do (WpX.conD hn rfl rfl (by simp only [↓nrmL, nrmZ, Nat.reduceEqDiff, ↓reduceIte, List.map] <;> rfl) (K_refFromRows (w := (b : Int)) (h := (a : Int)) (l := l)) fun v H1 h5 => ?_)
 rw [hr] at h5
 obtain ⟨q0, e2, q, e3, hq, hf, hwq, hx⟩ := h5
 subst e2
 subst e3
 haveI : ExtI _ H1 := ⟨hx⟩
 haveI := hq.one
 have hq : BytesI H1 q (paint l (fun k => k / b) (fun k => k % b) (b * a)) := hq
 refine mT rfl ?_
 refine Fo.extr rfl rfl ?_
 refine Fo.extr rfl rfl ?_
 refine Fo.new ?_
 refine Fo.st rfl (rfl : _ = AVal.agg _) rfl rfl rfl (by repeat (first | rfl | refine allOne_cons ?_)) (by simp only [↓nrmL, nrmZ, Nat.reduceEqDiff, ↓reduceIte]; rfl) ?_
 refine mI rfl ?_
 refine WpO.nil (hKF _ _ ?_)
 refine sq ?_
 refine sq ?_
 refine rg fun KF hKF => ?_
 refine mI rfl ?_
 refine Fo.bin rfl rfl rfl (by simp only [↓nrmL, nrmZ, Nat.reduceEqDiff, ↓reduceIte]; rfl) ?_
 refine WpO.nil (hKF _ _ ?_)
 refine Wp.cond (b := false) rfl ?_
 refine Wp.skip ?_
 refine sq ?_
 refine rg fun KF hKF => ?_
 refine Fo.ldN rfl rfl (by simp only [↓nrmL, nrmZ, Nat.reduceEqDiff, ↓reduceIte]; rfl) ?_
 dsimp only [cond_true, cond_false]
 refine WpO.do (WpX.conD hn rfl rfl (by simp only [↓nrmL, nrmZ, Nat.reduceEqDiff, ↓reduceIte, List.map] <;> rfl) (K_refFlip (paint_ok hb ha)) fun v H2 h5 => ?_)
 obtain ⟨q2, e4, hq2, hf2, hw2, hx2⟩ := h5
 subst e4
 have hq2 : BytesI H2 q2 (flipL (paint l (fun k => k / b) (fun k => k % b) (b * a)) b a) := hq2
 rw [flip_paint] at hq2
 haveI : ExtI _ H2 := ⟨hx2⟩
 haveI := hq2.one
 refine Fo.st rfl (rfl : _ = AVal.agg _) rfl rfl rfl (by repeat (first | rfl | refine allOne_cons ?_)) (by simp only [↓nrmL, nrmZ, Nat.reduceEqDiff, ↓reduceIte]; rfl) ?_
 refine mI rfl ?_
 refine WpO.nil (hKF _ _ ?_)
 refine Wp.ret ?_
 dsimp only [cond_true, cond_false]
 refine ⟨trivial, _, (getAllC rfl rfl rfl rfl), ?_⟩
 exact ⟨_, rfl, q2, rfl, (show BytesI _ q2 (paint l (fun k => k % a) (fun k => k / a) (a * b)) from inferInstance), hf2.weak, inferInstance, Ext0.ext⟩
end Go.Am

set_option maxHeartbeats 4000000
set_option maxRecDepth 100000
set_option synthInstance.maxHeartbeats 4000000
set_option synthInstance.maxSize 100000
namespace Go.Am
open Go
attribute [local irreducible] Wp WpO WpX WpE

/-- Two new lists of numbers. -/
def Prof2 (H H' : AHeap) (v : AVal) (r c : List Int) : Prop := ∃ p q, v = .tuple [p, q] ∧ NewInts H H' p r ∧ NewInts H H' q c
theorem rowsP_skip {l : List UInt8} {a b y x : Nat} (hy : y < b) (h : pd l (y * a + x) = 0) : rowsP l a b y (x + 1) = rowsP l a b y x := by
 rw [← rowsP_set, h, Int.add_zero, ← rowsP_get (l := l) (a := a) (b := b) (y := y) (x := x) hy, List.set_getElem_self]
theorem colsP_skip {l : List UInt8} {a y x : Nat} (hx : x < a) (h : pd l (y * a + x) = 0) : colsP l a y (x + 1) = colsP l a y x := by
 rw [← colsP_set, h, Int.add_zero, ← colsP_get (l := l) (a := a) (y := y) (x := x) hx, List.set_getElem_self]
theorem K_refProfile {a b : Nat} {p : AVal} {H : AHeap} {l : List UInt8} [hp : BytesI H p l] (ok : Ok a b l) : Con ext prog 4 47 [.agg [.int .i64 a, .int .i64 b, p]] H fun v H' => Prof2 H H' v (rowsL l a b) (colsL l a b) := by
 refine con_of (show prog 47 = some c47 from rfl) rfl rfl fun n hn => ?_
 haveI := hp.one
 have hwa := ok.wa
 have hhb := ok.hb
 have hm : a * b ≤ 640 * 640 := Nat.mul_le_mul ok.wa ok.hb
 have hl := ok.len
 haveI : Fits a b l := ⟨ok.sized⟩
 obtain ⟨H1, hH1⟩ : ∃ H1 : AHeap, H.push (.row [.int .i64 a, .int .i64 b, p] true (2 * 24)) = H1 := ⟨_, rfl⟩
 refine sq ?_
 refine rg fun KF hKF => ?_
 refine Fo.boxA rfl ?_
 refine mN rfl ?_
 refine mN rfl ?_
 refine WpO.nil (hKF _ _ ?_)
 refine sq ?_
 simp only [hH1]
 haveI hrow : HasRow H1 H.n [.int .i64 a, .int .i64 b, p] true (2 * 24) := by rw [← hH1]; infer_instance
 haveI hpb : BytesI H1 p l := by rw [← hH1]; infer_instance
 haveI hx1 : Ext0 H H1 := by rw [← hH1]; infer_instance
 have f1 := mk_facts (H := H1) (e := 2 * 3) (mk_ints b)
 have f2 := mk_facts (H := H1.push (.row (cellsI (List.replicate b 0)) true (2 * 3))) (e := 2 * 3) (mk_ints a)
 obtain ⟨q1, hq1⟩ : ∃ q : AVal, AVal.slice H1.n 0 b (some b) 1 = q := ⟨_, rfl⟩
 obtain ⟨q2, hq2⟩ : ∃ q : AVal, AVal.slice ((H1.push (.row (cellsI (List.replicate b 0)) true (2 * 3))).n) 0 a (some a) 1 = q := ⟨_, rfl⟩
 rw [hq1] at f1
 rw [hq2] at f2
 obtain ⟨m1, fr1, w1⟩ := f1
 obtain ⟨m2, fr2, w2⟩ := f2
 refine Fr.dregionE [.row (cellsI (List.replicate b 0)) true (2 * 3), .row (cellsI (List.replicate a 0)) true (2 * 3)] ?_ fun KF hKF => ?_
 ·skip
  refine oracle_pre rfl rfl rfl rfl ?_; (try simp only [↓nrmL, nrmZ, Nat.reduceEqDiff, ↓reduceIte])
  refine oracle_pre rfl rfl rfl (exec_ld rfl rfl) ?_; (try simp only [↓nrmL, nrmZ, Nat.reduceEqDiff, ↓reduceIte])
  refine oracle_made rfl rfl (made_mkI rfl rfl (by omega)) ?_
  refine oracle_pre rfl rfl rfl rfl ?_; (try simp only [↓nrmL, nrmZ, Nat.reduceEqDiff, ↓reduceIte])
  refine oracle_pre rfl rfl rfl (exec_ld rfl rfl) ?_; (try simp only [↓nrmL, nrmZ, Nat.reduceEqDiff, ↓reduceIte])
  refine oracle_made rfl rfl (made_mkI rfl rfl (by omega)) ?_
  exact oracle_none _ _ _ _ rfl
 simp only [pushAll]
 haveI := m1.one
 haveI := m2.one
 have i1 : IntsI (H1.push (.row (cellsI (List.replicate b 0)) true (2 * 3))) q1 (List.replicate b 0) := by
  unfold IntsI; rw [List.length_replicate]; exact m1
 have i2 : IntsI ((H1.push (.row (cellsI (List.replicate b 0)) true (2 * 3))).push (.row (cellsI (List.replicate a 0)) true (2 * 3))) q2 (List.replicate a 0) := by
  unfold IntsI; rw [List.length_replicate]; exact m2
 clear m1 m2
 refine Fe.pure rfl rfl (by simp only [↓nrmL, nrmZ, Nat.reduceEqDiff, ↓reduceIte]; rfl) ?_
 refine Fe.read rfl (exec_ld rfl rfl) rfl (by repeat (first | exact trivial | refine ⟨(by first | exact Or.inl (by dsimp only; decide) | exact Or.inr (exec_ld rfl rfl) | exact Or.inr (exec_ldN rfl rfl rfl) | exact Or.inr (exec_ldB rfl (by omega)) | exact Or.inr (exec_ldI rfl (by omega)) | exact Or.inr ghost_of), ?_⟩)) ?_
 refine Fe.made rfl (made_mkI rfl rfl (by omega)) ghost_of trivial hq1 ?_
 change WpE _ _ (AHeap.n (AHeap.push _ (.row (cellsI (List.replicate b 0)) true (2 * 3)))) _ _ _ _ _ _ _
 refine Fe.pure rfl rfl (by simp only [↓nrmL, nrmZ, Nat.reduceEqDiff, ↓reduceIte]; rfl) ?_
 refine Fe.read rfl (exec_ld rfl rfl) rfl (by repeat (first | exact trivial | refine ⟨(by first | exact Or.inl (by dsimp only; decide) | exact Or.inr (exec_ld rfl rfl) | exact Or.inr (exec_ldN rfl rfl rfl) | exact Or.inr (exec_ldB rfl (by omega)) | exact Or.inr (exec_ldI rfl (by omega)) | exact Or.inr ghost_of), ?_⟩)) ?_
 refine Fe.made rfl (made_mkI rfl rfl (by omega)) ghost_of trivial hq2 ?_
 refine Fe.pure rfl rfl (by simp only [↓nrmL, nrmZ, Nat.reduceEqDiff, ↓reduceIte]; rfl) ?_
 refine Fe.pure rfl rfl (by simp only [↓nrmL, nrmZ, Nat.reduceEqDiff, ↓reduceIte]; rfl) ?_
 refine WpE.nil (hKF _ _ ?_)
 refine sq ?_
 refine sq ?_
 refine rg fun KF hKF => ?_
 refine mI rfl ?_
 refine WpO.nil (hKF _ _ ?_)
 refine Wp.block ?_
 dsimp only [cond_true, cond_false]
 refine Wp.loopS [6, 7, 14, 15, 16, 17, 18, 19, 20, 21, 22, 23, 24, 25, 26, 27, 28, 29, 30, 31, 32, 33, 34, 35, 36, 37, 38, 39, 40, 41] (fun y : Nat => [(6, .int .i64 y)]) (fun _ y H2 => y ≤ b ∧ IntsI H2 q1 (rowsP l a b y 0) ∧ WrS H2 q1 ∧ IntsI H2 q2 (colsP l a y 0) ∧ WrS H2 q2 ∧ Ext H1 H2) (fun y => b - y) 0 rfl (fun _ => rfl) ⟨rfl, trivial⟩ ⟨Nat.zero_le _, by rw [rowsP_zero]; infer_instance, inferInstance, by rw [colsP_zero]; infer_instance, inferInstance, Ext0.ext⟩ (by unfold fuel0 at hn; omega) ?_
 rintro y g H2 ⟨hy, hr2, hrw2, hc2, hcw2, hxe⟩
 haveI : ExtI H1 H2 := ⟨hxe⟩
 simp only [↓nrmL, nrmZ, Nat.reduceEqDiff, ↓reduceIte]
 cases hc : decide ((y : Int) < (b : Int))
 ·have hyb : y = b := by have := of_decide_eq_false hc; omega
  subst hyb
  rw [rowsP_all] at hr2
  rw [colsP_all] at hc2
  try simp only [↓nrmL, nrmZ, Nat.reduceEqDiff, ↓reduceIte, hc]
  refine sq ?_
  refine sq ?_
  refine rg fun KF hKF => ?_
  refine mI rfl ?_
  refine Fo.fa rfl ?_
  refine Fo.ld rfl rfl ?_
  refine Fo.bin rfl rfl rfl (by simp only [↓nrmL, nrmZ, Nat.reduceEqDiff, ↓reduceIte, hc]; rfl) ?_
  refine WpO.nil (hKF _ _ ?_)
  refine Wp.cond (b := false) rfl ?_
  refine Wp.exit ?_
  refine sq ?_
  refine rg fun KF hKF => ?_
  refine Fo.mov (by simp only [↓nrmL, nrmK, Nat.reduceEqDiff, ↓reduceIte]; rfl) ?_
  refine Fo.mov (by simp only [↓nrmL, nrmK, Nat.reduceEqDiff, ↓reduceIte]; rfl) ?_
  refine Fo.mov (by simp only [↓nrmL, nrmK, Nat.reduceEqDiff, ↓reduceIte]; rfl) ?_
  refine Fo.mov (by simp only [↓nrmL, nrmK, Nat.reduceEqDiff, ↓reduceIte]; rfl) ?_
  refine WpO.nil (hKF _ _ ?_)
  refine Wp.ret ?_
  dsimp only [cond_true, cond_false]
  refine ⟨trivial, _, rfl, ?_⟩
  exact ⟨q1, q2, rfl, ⟨inferInstance, fr1.weak, inferInstance, Ext0.ext⟩, ⟨inferInstance, fr2.weak, inferInstance, Ext0.ext⟩⟩
 have hyb : y < b := by have := of_decide_eq_true hc; omega
 have hw1 := wa1 (a := y) (by omega)
 have hrl := row_le (a := a) hyb
 try simp only [↓nrmL, nrmZ, Nat.reduceEqDiff, ↓reduceIte, hc]
 refine sq ?_
 refine sq ?_
 refine rg fun KF hKF => ?_
 refine mI rfl ?_
 refine Fo.fa rfl ?_
 refine Fo.ld rfl rfl ?_
 refine Fo.bin rfl rfl rfl (by simp only [↓nrmL, nrmZ, Nat.reduceEqDiff, ↓reduceIte, hc]; rfl) ?_
 refine WpO.nil (hKF _ _ ?_)
 refine Wp.cond (b := true) rfl ?_
 refine Wp.skip ?_
 refine sq ?_
 refine Wp.block ?_
 refine sq ?_
 refine rg fun KF hKF => ?_
 refine mI rfl ?_
 refine WpO.nil (hKF _ _ ?_)
 refine Wp.block ?_
 dsimp only [cond_true, cond_false]
 refine Wp.loopS [7, 20, 21, 22, 23, 24, 25, 26, 27, 28, 29, 30, 31, 32, 33, 34, 35, 36, 37, 38, 39, 40, 41] (fun x : Nat => [(7, .int .i64 x)]) (fun _ x H5 => x ≤ a ∧ IntsI H5 q1 (rowsP l a b y x) ∧ WrS H5 q1 ∧ IntsI H5 q2 (colsP l a y x) ∧ WrS H5 q2 ∧ Ext H1 H5) (fun x => a - x) 0 rfl (fun _ => rfl) ⟨rfl, trivial⟩ ⟨Nat.zero_le _, inferInstance, inferInstance, inferInstance, inferInstance, Ext0.ext⟩ (by unfold fuel0 at hn; omega) ?_
 rintro x g2 H5 ⟨hx0, hr5, hrw5, hc5, hcw5, hxe5⟩
 haveI : ExtI H1 H5 := ⟨hxe5⟩
 simp only [↓nrmL, nrmZ, Nat.reduceEqDiff, ↓reduceIte]
 cases hc2' : decide ((x : Int) < (a : Int))
 ·have hxa : x = a := by have := of_decide_eq_false hc2'; omega
  subst hxa
  rw [rowsP_next] at hr5
  rw [colsP_next] at hc5
  try simp only [↓nrmL, nrmZ, Nat.reduceEqDiff, ↓reduceIte, hc2']
  refine sq ?_
  refine sq ?_
  refine rg fun KF hKF => ?_
  refine mI rfl ?_
  refine Fo.fa rfl ?_
  refine Fo.ld rfl rfl ?_
  refine Fo.bin rfl rfl rfl (by simp only [↓nrmL, nrmZ, Nat.reduceEqDiff, ↓reduceIte, hc2']; rfl) ?_
  refine WpO.nil (hKF _ _ ?_)
  refine Wp.cond (b := false) rfl ?_
  refine Wp.exit ?_
  refine rg fun KF hKF => ?_
  refine mI rfl ?_
  refine Fo.bin rfl rfl rfl rfl ?_
  refine mI rfl ?_
  refine WpO.nil (hKF _ _ ?_)
  dsimp only [cond_true, cond_false]
  refine ⟨y + 1, by omega, ⟨by simp only [↓nrmL, nrmZ, Nat.reduceEqDiff, ↓reduceIte]; rw [hw1], trivial⟩, hyb, inferInstance, inferInstance, inferInstance, inferInstance, Ext0.ext⟩
 have hxa : x < a := by have := of_decide_eq_true hc2'; omega
 have hlt := idx_lt hxa hyb
 have hil : y * a + x < l.length := by omega
 have hw3 := wa1 (a := x) (by omega)
 have hrlen := rowsP_length l a b y x
 have hclen := colsP_length l a y x
 have hrg := rowsP_get (l := l) (a := a) (b := b) (y := y) (x := x) hyb
 have hcg := colsP_get (l := l) (a := a) (y := y) (x := x) hxa
 have b1 := rc_bd l a y x
 have b2 := cc_bd l a x y
 have k1 := inkB_nat (l := l) hxa hyb
 cases ht : inkB a b l x y
 ·rw [k1] at ht
  have h0 : pd l (y * a + x) = 0 := by unfold pd; rw [ht]; rfl
  try simp only [↓nrmL, nrmZ, Nat.reduceEqDiff, ↓reduceIte, hc2', k1, ht]
  refine sq ?_
  refine sq ?_
  refine rg fun KF hKF => ?_
  refine mI rfl ?_
  refine Fo.fa rfl ?_
  refine Fo.ld rfl rfl ?_
  refine Fo.bin rfl rfl rfl (by simp only [↓nrmL, nrmZ, Nat.reduceEqDiff, ↓reduceIte, hc2', k1, ht]; rfl) ?_
  refine WpO.nil (hKF _ _ ?_)
  refine Wp.cond (b := true) rfl ?_
  refine Wp.skip ?_
  refine sq ?_
  refine Wp.block ?_
  refine sq ?_
  refine rg fun KF hKF => ?_
  refine Fo.ldN rfl rfl (by simp only [↓nrmL, nrmZ, Nat.reduceEqDiff, ↓reduceIte, hc2', k1, ht]; rfl) ?_
  refine mI rfl ?_
  refine mI rfl ?_
  refine Fo.pcall (v' := ?_) hn rfl (by simp only [↓nrmL, nrmZ, Nat.reduceEqDiff, ↓reduceIte, hc2', k1, ht, List.map]; rfl) rfl ?hv fun _ _ => ?_; case hv => (simp only [↓nrmL, nrmZ, Nat.reduceEqDiff, ↓reduceIte, hc2', k1, ht]; rfl)
  refine WpO.nil (hKF _ _ ?_)
  refine Wp.cond (b := false) rfl ?_
  refine Wp.skip ?_
  refine rg fun KF hKF => ?_
  refine mI rfl ?_
  refine Fo.bin rfl rfl rfl rfl ?_
  refine mI rfl ?_
  refine WpO.nil (hKF _ _ ?_)
  dsimp only [cond_true, cond_false]
  refine ⟨x + 1, by omega, ⟨by simp only [↓nrmL, nrmZ, Nat.reduceEqDiff, ↓reduceIte]; rw [hw3], trivial⟩, hxa, by rw [rowsP_skip hyb h0]; infer_instance, inferInstance, by rw [colsP_skip hxa h0]; infer_instance, inferInstance, Ext0.ext⟩
 ·rw [k1] at ht
  have h0 : pd l (y * a + x) = 1 := by unfold pd; rw [ht]; rfl
  have hs1 : IntKind.i64.wrap (rc l a y x + 1) = rc l a y x + pd l (y * a + x) := by rw [w64 (by omega), h0]
  have hs2 : IntKind.i64.wrap (cc l a x y + 1) = cc l a x y + pd l (y * a + x) := by rw [w64 (by omega), h0]
  try simp only [↓nrmL, nrmZ, Nat.reduceEqDiff, ↓reduceIte, hc2', k1, ht, hrg, hs1]
  refine sq ?_
  refine sq ?_
  refine rg fun KF hKF => ?_
  refine mI rfl ?_
  refine Fo.fa rfl ?_
  refine Fo.ld rfl rfl ?_
  refine Fo.bin rfl rfl rfl (by simp only [↓nrmL, nrmZ, Nat.reduceEqDiff, ↓reduceIte, hc2', k1, ht, hrg, hs1]; rfl) ?_
  refine WpO.nil (hKF _ _ ?_)
  refine Wp.cond (b := true) rfl ?_
  refine Wp.skip ?_
  refine sq ?_
  refine Wp.block ?_
  refine sq ?_
  refine rg fun KF hKF => ?_
  refine Fo.ldN rfl rfl (by simp only [↓nrmL, nrmZ, Nat.reduceEqDiff, ↓reduceIte, hc2', k1, ht, hrg, hs1]; rfl) ?_
  refine mI rfl ?_
  refine mI rfl ?_
  refine Fo.pcall (v' := ?_) hn rfl (by simp only [↓nrmL, nrmZ, Nat.reduceEqDiff, ↓reduceIte, hc2', k1, ht, hrg, hs1, List.map]; rfl) rfl ?hv fun _ _ => ?_; case hv => (simp only [↓nrmL, nrmZ, Nat.reduceEqDiff, ↓reduceIte, hc2', k1, ht, hrg, hs1]; rfl)
  refine WpO.nil (hKF _ _ ?_)
  refine Wp.cond (b := true) rfl ?_
  refine sq ?_
  refine rg fun KF hKF => ?_
  refine Fo.mov (by simp only [↓nrmL, nrmK, Nat.reduceEqDiff, ↓reduceIte]; rfl) ?_
  refine mI rfl ?_
  refine Fo.idx (by simp only [↓nrmL, nrmK, Nat.reduceEqDiff, ↓reduceIte]; rfl) rfl ?_ (by simp only [↓nrmL, nrmZ, Nat.reduceEqDiff, ↓reduceIte, hc2', k1, ht, hrg, hs1]; rfl) ?_; (focus omega)
  refine Fo.ldI rfl ?_ (by simp only [↓nrmL, nrmZ, Nat.reduceEqDiff, ↓reduceIte, hc2', k1, ht, hrg, hs1]; rfl) ?_; (focus omega)
  refine Fo.bin rfl rfl rfl (by simp only [↓nrmL, nrmZ, Nat.reduceEqDiff, ↓reduceIte, hc2', k1, ht, hrg, hs1]; rfl) ?_
  refine Fo.idx (by simp only [↓nrmL, nrmK, Nat.reduceEqDiff, ↓reduceIte]; rfl) rfl ?_ (by simp only [↓nrmL, nrmZ, Nat.reduceEqDiff, ↓reduceIte, hc2', k1, ht, hrg, hs1]; rfl) ?_; (focus omega)
  refine WpO.do' (WpX.stI (l := rowsP l a b y x) rfl rfl (by omega) fun H6 hb6 hw6 hx6 => ?_)
  rw [rowsP_set] at hb6
  try simp only [↓nrmL, nrmZ, Nat.reduceEqDiff, ↓reduceIte, hcg, hs2]
  refine WpO.nil (hKF _ _ ?_)
  refine rg fun KF hKF => ?_
  refine Fo.mov (by simp only [↓nrmL, nrmK, Nat.reduceEqDiff, ↓reduceIte]; rfl) ?_
  refine mI rfl ?_
  refine Fo.idx (by simp only [↓nrmL, nrmK, Nat.reduceEqDiff, ↓reduceIte]; rfl) rfl ?_ (by simp only [↓nrmL, nrmZ, Nat.reduceEqDiff, ↓reduceIte, hcg, hs2]; rfl) ?_; (focus omega)
  refine Fo.ldI rfl ?_ (by simp only [↓nrmL, nrmZ, Nat.reduceEqDiff, ↓reduceIte, hcg, hs2]; rfl) ?_; (focus omega)
  refine Fo.bin rfl rfl rfl (by simp only [↓nrmL, nrmZ, Nat.reduceEqDiff, ↓reduceIte, hcg, hs2]; rfl) ?_
  refine Fo.idx (by simp only [↓nrmL, nrmK, Nat.reduceEqDiff, ↓reduceIte]; rfl) rfl ?_ (by simp only [↓nrmL, nrmZ, Nat.reduceEqDiff, ↓reduceIte, hcg, hs2]; rfl) ?_; (focus omega)
  refine WpO.do' (WpX.stI (l := colsP l a y x) rfl rfl (by omega) fun H7 hb7 hw7 hx7 => ?_)
  rw [colsP_set] at hb7
  refine WpO.nil (hKF _ _ ?_)
  refine rg fun KF hKF => ?_
  refine mI rfl ?_
  refine Fo.bin rfl rfl rfl rfl ?_
  refine mI rfl ?_
  refine WpO.nil (hKF _ _ ?_)
  dsimp only [cond_true, cond_false]
  refine ⟨x + 1, by omega, ⟨by simp only [↓nrmL, nrmZ, Nat.reduceEqDiff, ↓reduceIte]; rw [hw3], trivial⟩, hxa, inferInstance, inferInstance, hb7, hw7, Ext0.ext⟩
end Go.Am

set_option maxHeartbeats 4000000
set_option maxRecDepth 100000
set_option synthInstance.maxHeartbeats 4000000
set_option synthInstance.maxSize 100000
namespace Go.Am
open Go
attribute [local irreducible] Wp WpO WpX WpE

theorem getD_get {l : List Int} {i : Nat} (h : i < l.length) : l.getD i 0 = l[i] := by simp [h]
theorem rowsL_nn (l : List UInt8) (a b i : Nat) : 0 ≤ (rowsL l a b).getD i 0 := by
 by_cases h : i < b
 ·rw [rowsL, getD_mapA h]; exact (rc_bd l a i a).1
 ·rw [List.getD_eq_getElem?_getD, List.getElem?_eq_none (by simp [rowsL]; omega)]; decide
theorem colsL_nn (l : List UInt8) (a b i : Nat) : 0 ≤ (colsL l a b).getD i 0 := by
 by_cases h : i < a
 ·rw [colsL, getD_mapA h]; exact (cc_bd l a i b).1
 ·rw [List.getD_eq_getElem?_getD, List.getElem?_eq_none (by simp [colsL]; omega)]; decide
theorem K_refBox {a b : Nat} {p : AVal} {H : AHeap} {l : List UInt8} [hp : BytesI H p l] (ok : Ok a b l) : Con ext prog 5 48 [.agg [.int .i64 a, .int .i64 b, p]] H fun v H' => v = .agg [.int .i64 (extL (colsL l a b)).1, .int .i64 (extL (rowsL l a b)).1, .int .i64 (extL (colsL l a b)).2, .int .i64 (extL (rowsL l a b)).2] ∧ Ext H H' := by
 refine con_of (show prog 48 = some c48 from rfl) rfl rfl fun n hn => ?_
 haveI := hp.one
 have hwa := ok.wa
 have hhb := ok.hb
 have hs := rows_sum ok.len
 have hiff : (extL (rowsL l a b)).2 > 0 ↔ (extL (colsL l a b)).2 > 0 := by
  rw [ext_pos (rowsL_nn l a b), ext_pos (colsL_nn l a b), hs.1, hs.2]
 have rn := rowsL_nn l a b
 have cn := colsL_nn l a b
 have rl : (rowsL l a b).length = b := by simp [rowsL]
 have cl : (colsL l a b).length = a := by simp [colsL]
 have hcon : ∀ (K : AHeap) [BytesI K p l], Con ext prog 4 47 [.agg [.int .i64 a, .int .i64 b, p]] K fun v H' => Prof2 K H' v (rowsL l a b) (colsL l a b) := fun K _ => K_refProfile ok
 clear hs
 unfold extL at hiff ⊢
 generalize rowsL l a b = R at *
 generalize colsL l a b = C at *
 rw [rl, cl] at hiff ⊢
 obtain ⟨H0, hH0⟩ : ∃ H0 : AHeap, H.push (.row [.int .i64 a, .int .i64 b, p] true (2 * 24)) = H0 := ⟨_, rfl⟩
 haveI hrow : HasRow H0 H.n [.int .i64 a, .int .i64 b, p] true (2 * 24) := by rw [← hH0]; infer_instance
 haveI hpb : BytesI H0 p l := by rw [← hH0]; infer_instance
 haveI hx0 : Ext0 H H0 := by rw [← hH0]; infer_instance
 refine sq ?_
 refine rg fun KF hKF => ?_
 refine Fo.boxA rfl ?_
 refine Fo.new ?_
 refine WpO.nil (hKF _ _ ?_)
 refine sq ?_
 refine rg fun KF hKF => ?_
 refine Fo.ldN rfl rfl (by simp only [↓nrmL, nrmZ, Nat.reduceEqDiff, ↓reduceIte]; rfl) ?_
 simp only [hH0]
 refine WpO.do (WpX.conD hn rfl rfl (by simp only [↓nrmL, nrmZ, Nat.reduceEqDiff, ↓reduceIte, List.map] <;> rfl) (hcon _) fun v H1 h5 => ?_)
 obtain ⟨q1, q2, e1, ⟨h1, hf1, hw1, hx1⟩, ⟨h2, hf2, hw2, hx2⟩⟩ := h5
 subst e1
 haveI : ExtI _ H1 := ⟨hx1⟩
 haveI := h1.one
 haveI := h2.one
 have hxH1 : Ext H H1 := Ext0.ext
 haveI : LeN H H1.n := ⟨hxH1.n⟩
 haveI hz1 : HasRow H1 H0.n [.int .i64 0, .int .i64 0, .int .i64 0, .int .i64 0] true (2 * 46) := inferInstance
 haveI : NeR H0.n H1.n := ⟨Nat.ne_of_lt hz1.lt⟩
 haveI : RowNe q1 H1.n := inferInstance
 haveI : RowNe q2 H1.n := inferInstance
 clear hcon
 refine mT rfl ?_
 refine Fo.extr rfl rfl ?_
 refine Fo.extr rfl rfl ?_
 refine Fo.mov (by simp only [↓nrmL, nrmK, Nat.reduceEqDiff, ↓reduceIte]; rfl) ?_
 refine Fo.mov (by simp only [↓nrmL, nrmK, Nat.reduceEqDiff, ↓reduceIte]; rfl) ?_
 refine WpO.nil (hKF _ _ ?_)
 refine sq ?_
 refine rg fun KF hKF => ?_
 refine Fo.fa rfl ?_
 refine Fo.ld rfl rfl ?_
 refine Fo.fa rfl ?_
 refine Fo.ld rfl rfl ?_
 refine Fo.build (by repeat (first | refine aFill1 (by first | exact (rfl : _ = AVal.int _ _) | exact (rfl : _ = AVal.ptr _ _) | exact (rfl : _ = AVal.bool _) | exact (rfl : _ = AVal.agg _) | exact (rfl : _ = AVal.tuple _) | exact (rfl : _ = AVal.func _ _ _) | exact (rfl : _ = AVal.nslice) | ((try simp only [↓nrmL, nrmK, Nat.reduceEqDiff, ↓reduceIte]); rfl)) rfl ?_ | rfl)) (by simp only [↓nrmL, nrmZ, Nat.reduceEqDiff, ↓reduceIte]; rfl) ?_
 refine Fo.new ?_
 refine Fo.st rfl (rfl : _ = AVal.agg _) rfl rfl rfl (by repeat (first | rfl | refine allOne_cons ?_)) (by simp only [↓nrmL, nrmZ, Nat.reduceEqDiff, ↓reduceIte]; rfl) ?_
 refine WpO.nil (hKF _ _ ?_)
 refine sq ?_
 refine Wp.block ?_
 dsimp only [cond_true, cond_false]
 refine Wp.loopS [16, 17, 18, 19, 20, 21, 22, 23, 24, 25, 26, 27, 28, 29, 30, 31, 32, 33, 34] (fun _ : Nat => []) (fun _ h H2 => h ≤ b ∧ (∀ i, h ≤ i → i < b → ¬ R.getD i 0 > 0) ∧ HasRow H2 H1.n [.int .i64 0, .int .i64 0, .int .i64 a, .int .i64 h] true (2 * 46) ∧ HasRow H2 H0.n [.int .i64 0, .int .i64 0, .int .i64 0, .int .i64 0] true (2 * 46) ∧ IntsI H2 q1 R ∧ IntsI H2 q2 C ∧ Ext H H2) (fun h => h) b rfl (fun _ => rfl) trivial ⟨Nat.le_refl _, fun i h1 h2 => by omega, inferInstance, inferInstance, inferInstance, inferInstance, Ext0.ext⟩ (by unfold fuel0 at hn; omega) ?_
 rintro h gg H2 ⟨hh, hall, hr2, hz2, hp2, hq2, hx2⟩
 haveI : ExtI H H2 := ⟨hx2⟩
 simp only [↓nrmL, nrmZ, Nat.reduceEqDiff, ↓reduceIte]
 cases hc : decide ((h : Int) > 0)
 ·have h0 : h = 0 := by have := of_decide_eq_false hc; omega
  have z1 : extF R b = (0, 0) := by
   rcases ext_char R b with ⟨e1, e2⟩ | ⟨f, g, e1, e2, e3, e4, e5, e6, e7⟩
   ·exact e2
   ·exact absurd e3 (hall f (by omega) (by omega))
  have z2 : extF C a = (0, 0) := by
   rcases ext_char C a with ⟨e1, e2⟩ | ⟨f, g, e1, e2, e3, e4, e5, e6, e7⟩
   ·exact e2
   ·have : (extF C a).2 > 0 := by rw [e7]; simp only; omega
    have := hiff.2 this
    rw [z1] at this
    exact absurd this (by decide)
  have hz : ((h : Int) == 0) = true := by rw [h0]; rfl
  try simp only [↓nrmL, nrmZ, Nat.reduceEqDiff, ↓reduceIte, hc, hz]
  refine sq ?_
  refine sq ?_
  refine rg fun KF hKF => ?_
  refine Fo.fa rfl ?_
  refine Fo.ld rfl rfl ?_
  refine Fo.bin rfl rfl rfl (by simp only [↓nrmL, nrmZ, Nat.reduceEqDiff, ↓reduceIte, hc, hz]; rfl) ?_
  refine mB rfl ?_
  refine Fo.no rfl rfl ?_
  refine Fo.no rfl rfl ?_
  refine Fo.no rfl rfl ?_
  refine Fo.no rfl rfl ?_
  refine Fo.no rfl rfl ?_
  refine Fo.no rfl rfl ?_
  refine Fo.no rfl rfl ?_
  refine Fo.no rfl rfl ?_
  refine Fo.no rfl rfl ?_
  refine Fo.no rfl rfl ?_
  refine fB rfl rfl ?_
  refine WpO.nil (hKF _ _ ?_)
  refine Wp.cond (b := false) rfl ?_
  refine Wp.exit ?_
  refine sq ?_
  refine sq ?_
  refine rg fun KF hKF => ?_
  refine Fo.fa rfl ?_
  refine Fo.ld rfl rfl ?_
  refine Fo.bin rfl rfl rfl (by simp only [↓nrmL, nrmZ, Nat.reduceEqDiff, ↓reduceIte, hc, hz]; rfl) ?_
  refine WpO.nil (hKF _ _ ?_)
  refine Wp.cond (b := true) rfl ?_
  refine sq ?_
  refine rg fun KF hKF => ?_
  refine Fo.build (by repeat (first | refine aFill1 (by first | exact (rfl : _ = AVal.int _ _) | exact (rfl : _ = AVal.ptr _ _) | exact (rfl : _ = AVal.bool _) | exact (rfl : _ = AVal.agg _) | exact (rfl : _ = AVal.tuple _) | exact (rfl : _ = AVal.func _ _ _) | exact (rfl : _ = AVal.nslice) | ((try simp only [↓nrmL, nrmK, Nat.reduceEqDiff, ↓reduceIte]); rfl)) rfl ?_ | rfl)) rfl ?_
  refine Fo.st rfl (rfl : _ = AVal.agg _) rfl rfl rfl (by repeat (first | rfl | refine allOne_cons ?_)) (by simp only [↓nrmL, nrmZ, Nat.reduceEqDiff, ↓reduceIte, hc, hz]; rfl) ?_
  refine WpO.nil (hKF _ _ ?_)
  refine Wp.ret ?_
  dsimp only [cond_true, cond_false]
  refine ⟨trivial, _, (getAllC rfl rfl rfl rfl), ?_⟩
  refine ⟨?_, Ext0.ext⟩
  rw [z1, z2]
  rfl
 have hpos : h > 0 := by have := of_decide_eq_true hc; omega
 have hz : ((h : Int) == 0) = false := by simp; omega
 have hhr : h - 1 < R.length := by omega
 have e1 : IntKind.i64.wrap (0 + (h : Int)) = (h : Int) := by rw [w64 (by omega)]; omega
 have e1' : IntKind.i64.wrap (h : Int) = (h : Int) := w64 (by omega)
 have e2 : IntKind.i64.wrap ((h : Int) - 1) = ((h - 1 : Nat) : Int) := by rw [w64 (by omega)]; omega
 have hrh := rn (h - 1)
 rw [getD_get hhr] at hrh
 cases h0 : (R[h - 1] == 0)
 ·have h4 : ¬ R[h - 1] = 0 := by simpa using h0
  rcases ext_char R b with ⟨e3, _⟩ | ⟨f, g, e8, e9, e3, e4, e5, e6, e7⟩
  ·have := e3 (h - 1) (by omega)
   rw [getD_get hhr] at this
   omega
  have hgh : h = g + 1 := by
   by_cases q1 : g < h - 1
   ·have := e6 (h - 1) q1 (by omega)
    rw [getD_get hhr] at this
    omega
   ·by_cases q2 : h ≤ g
    ·exact absurd e4 (hall g q2 e9)
    ·omega
  have hC : (extF C a).2 > 0 := hiff.1 (by rw [e7]; simp only; omega)
  rcases ext_char C a with ⟨_, k2⟩ | ⟨f', g', k1, k2, k3, k4, k5, k6, k7⟩
  ·rw [k2] at hC; exact absurd hC (by decide)
  try simp only [↓nrmL, nrmZ, Nat.reduceEqDiff, ↓reduceIte, hc, e1, e1', e2, h0, hz]
  refine sq ?_
  refine sq ?_
  refine rg fun KF hKF => ?_
  refine Fo.fa rfl ?_
  refine Fo.ld rfl rfl ?_
  refine Fo.bin rfl rfl rfl (by simp only [↓nrmL, nrmZ, Nat.reduceEqDiff, ↓reduceIte, hc, e1, e1', e2, h0, hz]; rfl) ?_
  refine mB rfl ?_
  refine Fo.yes rfl rfl ?_
  refine Fo.mov (by simp only [↓nrmL, nrmK, Nat.reduceEqDiff, ↓reduceIte]; rfl) ?_
  refine Fo.yes rfl rfl ?_
  refine Fo.fa rfl ?_
  refine Fo.yes rfl rfl ?_
  refine Fo.ld rfl rfl ?_
  refine Fo.yes rfl rfl ?_
  refine Fo.fa rfl ?_
  refine Fo.yes rfl rfl ?_
  refine Fo.ld rfl rfl ?_
  refine Fo.yes rfl rfl ?_
  refine Fo.bin rfl rfl rfl (by simp only [↓nrmL, nrmZ, Nat.reduceEqDiff, ↓reduceIte, hc, e1, e1', e2, h0, hz]; rfl) ?_
  refine Fo.yes rfl rfl ?_
  refine Fo.bin rfl rfl rfl (by simp only [↓nrmL, nrmZ, Nat.reduceEqDiff, ↓reduceIte, hc, e1, e1', e2, h0, hz]; rfl) ?_
  refine Fo.yes rfl rfl ?_
  refine Fo.idx (by simp only [↓nrmL, nrmK, Nat.reduceEqDiff, ↓reduceIte]; rfl) rfl ?_ (by simp only [↓nrmL, nrmZ, Nat.reduceEqDiff, ↓reduceIte, hc, e1, e1', e2, h0, hz]; rfl) ?_; (focus omega)
  refine Fo.yes rfl rfl ?_
  refine Fo.ldI rfl ?_ rfl ?_; (focus omega)
  refine Fo.yes rfl rfl ?_
  refine Fo.bin rfl rfl rfl (by simp only [↓nrmL, nrmZ, Nat.reduceEqDiff, ↓reduceIte, hc, e1, e1', e2, h0, hz]; rfl) ?_
  refine tB rfl rfl ?_
  refine WpO.nil (hKF _ _ ?_)
  refine Wp.cond (b := false) rfl ?_
  refine Wp.exit ?_
  refine sq ?_
  refine sq ?_
  refine rg fun KF hKF => ?_
  refine Fo.fa rfl ?_
  refine Fo.ld rfl rfl ?_
  refine Fo.bin rfl rfl rfl (by simp only [↓nrmL, nrmZ, Nat.reduceEqDiff, ↓reduceIte, hc, e1, e1', e2, h0, hz]; rfl) ?_
  refine WpO.nil (hKF _ _ ?_)
  refine Wp.cond (b := false) rfl ?_
  refine Wp.skip ?_
  refine sq ?_
  refine Wp.block ?_
  dsimp only [cond_true, cond_false]
  have hst : HasRow H2 H1.n [.int .i64 0, .int .i64 ((0 : Nat) : Int), .int .i64 a, .int .i64 ((g + 1 - 0 : Nat) : Int)] true (2 * 46) := by
   have e9 : ((g + 1 - 0 : Nat) : Int) = (h : Int) := by omega
   rw [e9]
   exact hr2
  refine Wp.loopS [39, 40, 41, 42, 43, 44, 45, 46, 47, 48, 49, 50, 51, 52] (fun _ : Nat => []) (fun _ y H2 => y ≤ f ∧ HasRow H2 H1.n [.int .i64 0, .int .i64 y, .int .i64 a, .int .i64 ((g + 1 - y : Nat) : Int)] true (2 * 46) ∧ HasRow H2 H0.n [.int .i64 0, .int .i64 0, .int .i64 0, .int .i64 0] true (2 * 46) ∧ IntsI H2 q1 R ∧ IntsI H2 q2 C ∧ Ext H H2) (fun y => f - y) 0 rfl (fun _ => rfl) trivial ⟨Nat.zero_le _, hst, inferInstance, inferInstance, inferInstance, Ext0.ext⟩ (by unfold fuel0 at hn; omega) ?_
  rintro y gg H3 ⟨hy, hr3, hz3, hp3, hq3, hx3⟩
  haveI : ExtI H H3 := ⟨hx3⟩
  have hyb : y < R.length := by omega
  have hyw := wa1 (a := y) (by omega)
  have hdw : IntKind.i64.wrap (((g + 1 - y : Nat) : Int) - 1) = ((g + 1 - (y + 1) : Nat) : Int) := by rw [w64 (by omega)]; omega
  have hry := rn y
  rw [getD_get hyb] at hry
  simp only [↓nrmL, nrmZ, Nat.reduceEqDiff, ↓reduceIte]
  cases h2 : (R[y] == 0)
  ·have hyf : y = f := by
    have h4 : ¬ R[y] = 0 := by simpa using h2
    by_cases hh : y = f
    ·exact hh
    ·have := e5 y (by omega)
     rw [getD_get hyb] at this
     omega
   try simp only [↓nrmL, nrmZ, Nat.reduceEqDiff, ↓reduceIte, h2]
   refine sq ?_
   refine sq ?_
   refine rg fun KF hKF => ?_
   refine Fo.mov (by simp only [↓nrmL, nrmK, Nat.reduceEqDiff, ↓reduceIte]; rfl) ?_
   refine Fo.fa rfl ?_
   refine Fo.ld rfl rfl ?_
   refine Fo.idx (by simp only [↓nrmL, nrmK, Nat.reduceEqDiff, ↓reduceIte]; rfl) rfl ?_ (by simp only [↓nrmL, nrmZ, Nat.reduceEqDiff, ↓reduceIte, h2]; rfl) ?_; (focus omega)
   refine Fo.ldI rfl ?_ rfl ?_; (focus omega)
   refine Fo.bin rfl rfl rfl (by simp only [↓nrmL, nrmZ, Nat.reduceEqDiff, ↓reduceIte, h2]; rfl) ?_
   refine WpO.nil (hKF _ _ ?_)
   refine Wp.cond (b := false) rfl ?_
   refine Wp.exit ?_
   refine sq ?_
   refine Wp.block ?_
   dsimp only [cond_true, cond_false]
   refine Wp.loopS [53, 54, 55, 56, 57, 58, 59, 60, 61, 62, 63, 64, 65, 66] (fun _ : Nat => []) (fun _ w H2 => g' < w ∧ w ≤ a ∧ HasRow H2 H1.n [.int .i64 0, .int .i64 f, .int .i64 w, .int .i64 ((g + 1 - f : Nat) : Int)] true (2 * 46) ∧ HasRow H2 H0.n [.int .i64 0, .int .i64 0, .int .i64 0, .int .i64 0] true (2 * 46) ∧ IntsI H2 q1 R ∧ IntsI H2 q2 C ∧ Ext H H2) (fun w => w) a rfl (fun _ => rfl) trivial ⟨by omega, Nat.le_refl _, by rw [← hyf]; infer_instance, inferInstance, inferInstance, inferInstance, Ext0.ext⟩ (by unfold fuel0 at hn; omega) ?_
   rintro w gg H4 ⟨hw0, hwa2, hr4, hz4, hp4, hq4, hx4⟩
   haveI : ExtI H H4 := ⟨hx4⟩
   have hwc : w - 1 < C.length := by omega
   have e1 : IntKind.i64.wrap (0 + (w : Int)) = (w : Int) := by rw [w64 (by omega)]; omega
   have e1' : IntKind.i64.wrap (w : Int) = (w : Int) := w64 (by omega)
   have e2 : IntKind.i64.wrap ((w : Int) - 1) = ((w - 1 : Nat) : Int) := by rw [w64 (by omega)]; omega
   have hcw := cn (w - 1)
   rw [getD_get hwc] at hcw
   simp only [↓nrmL, nrmZ, Nat.reduceEqDiff, ↓reduceIte]
   cases h3 : (C[w - 1] == 0)
   ·have hwg : w = g' + 1 := by
     have h4 : ¬ C[w - 1] = 0 := by simpa using h3
     by_cases hh : w - 1 = g'
     ·omega
     ·have := k6 (w - 1) (by omega) (by omega)
      rw [getD_get hwc] at this
      omega
    try simp only [↓nrmL, nrmZ, Nat.reduceEqDiff, ↓reduceIte, e1, e1', e2, h3]
    refine sq ?_
    refine sq ?_
    refine rg fun KF hKF => ?_
    refine Fo.mov (by simp only [↓nrmL, nrmK, Nat.reduceEqDiff, ↓reduceIte]; rfl) ?_
    refine Fo.fa rfl ?_
    refine Fo.ld rfl rfl ?_
    refine Fo.fa rfl ?_
    refine Fo.ld rfl rfl ?_
    refine Fo.bin rfl rfl rfl (by simp only [↓nrmL, nrmZ, Nat.reduceEqDiff, ↓reduceIte, e1, e1', e2, h3]; rfl) ?_
    refine Fo.bin rfl rfl rfl (by simp only [↓nrmL, nrmZ, Nat.reduceEqDiff, ↓reduceIte, e1, e1', e2, h3]; rfl) ?_
    refine Fo.idx (by simp only [↓nrmL, nrmK, Nat.reduceEqDiff, ↓reduceIte]; rfl) rfl ?_ (by simp only [↓nrmL, nrmZ, Nat.reduceEqDiff, ↓reduceIte, e1, e1', e2, h3]; rfl) ?_; (focus omega)
    refine Fo.ldI rfl ?_ rfl ?_; (focus omega)
    refine Fo.bin rfl rfl rfl (by simp only [↓nrmL, nrmZ, Nat.reduceEqDiff, ↓reduceIte, e1, e1', e2, h3]; rfl) ?_
    refine WpO.nil (hKF _ _ ?_)
    refine Wp.cond (b := false) rfl ?_
    refine Wp.exit ?_
    refine sq ?_
    refine Wp.block ?_
    dsimp only [cond_true, cond_false]
    have hst : HasRow H4 H1.n [.int .i64 ((0 : Nat) : Int), .int .i64 f, .int .i64 ((g' + 1 - 0 : Nat) : Int), .int .i64 ((g + 1 - f : Nat) : Int)] true (2 * 46) := by
     have e9 : ((g' + 1 - 0 : Nat) : Int) = (w : Int) := by omega
     rw [e9]
     exact hr4
    refine Wp.loopS [67, 68, 69, 70, 71, 72, 73, 74, 75, 76, 77, 78, 79, 80] (fun _ : Nat => []) (fun _ x H2 => x ≤ f' ∧ HasRow H2 H1.n [.int .i64 x, .int .i64 f, .int .i64 ((g' + 1 - x : Nat) : Int), .int .i64 ((g + 1 - f : Nat) : Int)] true (2 * 46) ∧ HasRow H2 H0.n [.int .i64 0, .int .i64 0, .int .i64 0, .int .i64 0] true (2 * 46) ∧ IntsI H2 q1 R ∧ IntsI H2 q2 C ∧ Ext H H2) (fun x => f' - x) 0 rfl (fun _ => rfl) trivial ⟨Nat.zero_le _, hst, inferInstance, inferInstance, inferInstance, Ext0.ext⟩ (by unfold fuel0 at hn; omega) ?_
    rintro x gg H5 ⟨hx, hr5, hz5, hp5, hq5, hx5⟩
    haveI : ExtI H H5 := ⟨hx5⟩
    have hxa : x < C.length := by omega
    have hxw := wa1 (a := x) (by omega)
    have hdw : IntKind.i64.wrap (((g' + 1 - x : Nat) : Int) - 1) = ((g' + 1 - (x + 1) : Nat) : Int) := by rw [w64 (by omega)]; omega
    have hcx := cn x
    rw [getD_get hxa] at hcx
    simp only [↓nrmL, nrmZ, Nat.reduceEqDiff, ↓reduceIte]
    cases h3 : (C[x] == 0)
    ·have hxf : x = f' := by
      have h4 : ¬ C[x] = 0 := by simpa using h3
      by_cases hh : x = f'
      ·exact hh
      ·have := k5 x (by omega)
       rw [getD_get hxa] at this
       omega
     try simp only [↓nrmL, nrmZ, Nat.reduceEqDiff, ↓reduceIte, h3]
     refine sq ?_
     refine sq ?_
     refine rg fun KF hKF => ?_
     refine Fo.mov (by simp only [↓nrmL, nrmK, Nat.reduceEqDiff, ↓reduceIte]; rfl) ?_
     refine Fo.fa rfl ?_
     refine Fo.ld rfl rfl ?_
     refine Fo.idx (by simp only [↓nrmL, nrmK, Nat.reduceEqDiff, ↓reduceIte]; rfl) rfl ?_ (by simp only [↓nrmL, nrmZ, Nat.reduceEqDiff, ↓reduceIte, h3]; rfl) ?_; (focus omega)
     refine Fo.ldI rfl ?_ rfl ?_; (focus omega)
     refine Fo.bin rfl rfl rfl (by simp only [↓nrmL, nrmZ, Nat.reduceEqDiff, ↓reduceIte, h3]; rfl) ?_
     refine WpO.nil (hKF _ _ ?_)
     refine Wp.cond (b := false) rfl ?_
     refine Wp.exit ?_
     refine sq ?_
     refine rg fun KF hKF => ?_
     refine Fo.ldN rfl rfl (by simp only [↓nrmL, nrmZ, Nat.reduceEqDiff, ↓reduceIte, h3]; rfl) ?_
     refine Fo.st rfl (rfl : _ = AVal.agg _) rfl rfl rfl (by repeat (first | rfl | refine allOne_cons ?_)) (by simp only [↓nrmL, nrmZ, Nat.reduceEqDiff, ↓reduceIte, h3]; rfl) ?_
     refine WpO.nil (hKF _ _ ?_)
     refine Wp.ret ?_
     dsimp only [cond_true, cond_false]
     refine ⟨trivial, _, (getAllC rfl rfl rfl rfl), ?_⟩
     refine ⟨?_, Ext0.ext⟩
     rw [k7, e7, hxf]
     simp only
     rw [show ((g' + 1 - f' : Nat) : Int) = (g' : Int) + 1 - f' by omega, show ((g + 1 - f : Nat) : Int) = (g : Int) + 1 - f by omega]
     rfl
    ·have h4 : C[x] = 0 := by simpa using h3
     have hxf : x < f' := by
      by_cases hh : x = f'
      ·rw [← hh, getD_get hxa] at k3; omega
      ·omega
     try simp only [↓nrmL, nrmZ, Nat.reduceEqDiff, ↓reduceIte, h3, hxw, hdw]
     refine sq ?_
     refine sq ?_
     refine rg fun KF hKF => ?_
     refine Fo.mov (by simp only [↓nrmL, nrmK, Nat.reduceEqDiff, ↓reduceIte]; rfl) ?_
     refine Fo.fa rfl ?_
     refine Fo.ld rfl rfl ?_
     refine Fo.idx (by simp only [↓nrmL, nrmK, Nat.reduceEqDiff, ↓reduceIte]; rfl) rfl ?_ (by simp only [↓nrmL, nrmZ, Nat.reduceEqDiff, ↓reduceIte, h3, hxw, hdw]; rfl) ?_; (focus omega)
     refine Fo.ldI rfl ?_ rfl ?_; (focus omega)
     refine Fo.bin rfl rfl rfl (by simp only [↓nrmL, nrmZ, Nat.reduceEqDiff, ↓reduceIte, h3, hxw, hdw]; rfl) ?_
     refine WpO.nil (hKF _ _ ?_)
     refine Wp.cond (b := true) rfl ?_
     refine Wp.skip ?_
     refine Wp.block ?_
     refine sq ?_
     refine rg fun KF hKF => ?_
     refine Fo.fa rfl ?_
     refine Fo.ld rfl rfl ?_
     refine Fo.bin rfl rfl rfl (by simp only [↓nrmL, nrmZ, Nat.reduceEqDiff, ↓reduceIte, h3, hxw, hdw]; rfl) ?_
     refine Fo.fa rfl ?_
     refine Fo.st rfl (rfl : _ = AVal.int _ _) rfl rfl rfl (by repeat (first | rfl | refine allOne_cons ?_)) (by simp only [↓nrmL, nrmZ, Nat.reduceEqDiff, ↓reduceIte, h3, hxw, hdw]; rfl) ?_
     refine WpO.nil (hKF _ _ ?_)
     refine rg fun KF hKF => ?_
     refine Fo.fa rfl ?_
     refine Fo.ld rfl rfl ?_
     refine Fo.bin rfl rfl rfl (by simp only [↓nrmL, nrmZ, Nat.reduceEqDiff, ↓reduceIte, h3, hxw, hdw]; rfl) ?_
     refine Fo.fa rfl ?_
     refine Fo.st rfl (rfl : _ = AVal.int _ _) rfl rfl rfl (by repeat (first | rfl | refine allOne_cons ?_)) (by simp only [↓nrmL, nrmZ, Nat.reduceEqDiff, ↓reduceIte, h3, hxw, hdw]; rfl) ?_
     refine WpO.nil (hKF _ _ ?_)
     dsimp only [cond_true, cond_false]
     refine ⟨x + 1, by omega, trivial, by omega, inferInstance, inferInstance, inferInstance, inferInstance, Ext0.ext⟩
   ·have h4 : C[w - 1] = 0 := by simpa using h3
    have hwg : g' < w - 1 := by
     by_cases hh : w - 1 = g'
     ·rw [← hh, getD_get hwc] at k4; omega
     ·omega
    try simp only [↓nrmL, nrmZ, Nat.reduceEqDiff, ↓reduceIte, e1, e1', e2, h3]
    refine sq ?_
    refine sq ?_
    refine rg fun KF hKF => ?_
    refine Fo.mov (by simp only [↓nrmL, nrmK, Nat.reduceEqDiff, ↓reduceIte]; rfl) ?_
    refine Fo.fa rfl ?_
    refine Fo.ld rfl rfl ?_
    refine Fo.fa rfl ?_
    refine Fo.ld rfl rfl ?_
    refine Fo.bin rfl rfl rfl (by simp only [↓nrmL, nrmZ, Nat.reduceEqDiff, ↓reduceIte, e1, e1', e2, h3]; rfl) ?_
    refine Fo.bin rfl rfl rfl (by simp only [↓nrmL, nrmZ, Nat.reduceEqDiff, ↓reduceIte, e1, e1', e2, h3]; rfl) ?_
    refine Fo.idx (by simp only [↓nrmL, nrmK, Nat.reduceEqDiff, ↓reduceIte]; rfl) rfl ?_ (by simp only [↓nrmL, nrmZ, Nat.reduceEqDiff, ↓reduceIte, e1, e1', e2, h3]; rfl) ?_; (focus omega)
    refine Fo.ldI rfl ?_ rfl ?_; (focus omega)
    refine Fo.bin rfl rfl rfl (by simp only [↓nrmL, nrmZ, Nat.reduceEqDiff, ↓reduceIte, e1, e1', e2, h3]; rfl) ?_
    refine WpO.nil (hKF _ _ ?_)
    refine Wp.cond (b := true) rfl ?_
    refine Wp.skip ?_
    refine Wp.block ?_
    refine rg fun KF hKF => ?_
    refine Fo.fa rfl ?_
    refine Fo.ld rfl rfl ?_
    refine Fo.bin rfl rfl rfl (by simp only [↓nrmL, nrmZ, Nat.reduceEqDiff, ↓reduceIte, e1, e1', e2, h3]; rfl) ?_
    refine Fo.fa rfl ?_
    refine Fo.st rfl (rfl : _ = AVal.int _ _) rfl rfl rfl (by repeat (first | rfl | refine allOne_cons ?_)) (by simp only [↓nrmL, nrmZ, Nat.reduceEqDiff, ↓reduceIte, e1, e1', e2, h3]; rfl) ?_
    refine WpO.nil (hKF _ _ ?_)
    dsimp only [cond_true, cond_false]
    refine ⟨w - 1, by omega, trivial, by omega, by omega, inferInstance, inferInstance, inferInstance, inferInstance, Ext0.ext⟩
  ·have h4 : R[y] = 0 := by simpa using h2
   have hyf : y < f := by
    by_cases hh : y = f
    ·rw [← hh, getD_get hyb] at e3; omega
    ·omega
   try simp only [↓nrmL, nrmZ, Nat.reduceEqDiff, ↓reduceIte, h2, hyw, hdw]
   refine sq ?_
   refine sq ?_
   refine rg fun KF hKF => ?_
   refine Fo.mov (by simp only [↓nrmL, nrmK, Nat.reduceEqDiff, ↓reduceIte]; rfl) ?_
   refine Fo.fa rfl ?_
   refine Fo.ld rfl rfl ?_
   refine Fo.idx (by simp only [↓nrmL, nrmK, Nat.reduceEqDiff, ↓reduceIte]; rfl) rfl ?_ (by simp only [↓nrmL, nrmZ, Nat.reduceEqDiff, ↓reduceIte, h2, hyw, hdw]; rfl) ?_; (focus omega)
   refine Fo.ldI rfl ?_ rfl ?_; (focus omega)
   refine Fo.bin rfl rfl rfl (by simp only [↓nrmL, nrmZ, Nat.reduceEqDiff, ↓reduceIte, h2, hyw, hdw]; rfl) ?_
   refine WpO.nil (hKF _ _ ?_)
   refine Wp.cond (b := true) rfl ?_
   refine Wp.skip ?_
   refine Wp.block ?_
   refine sq ?_
   refine rg fun KF hKF => ?_
   refine Fo.fa rfl ?_
   refine Fo.ld rfl rfl ?_
   refine Fo.bin rfl rfl rfl (by simp only [↓nrmL, nrmZ, Nat.reduceEqDiff, ↓reduceIte, h2, hyw, hdw]; rfl) ?_
   refine Fo.fa rfl ?_
   refine Fo.st rfl (rfl : _ = AVal.int _ _) rfl rfl rfl (by repeat (first | rfl | refine allOne_cons ?_)) (by simp only [↓nrmL, nrmZ, Nat.reduceEqDiff, ↓reduceIte, h2, hyw, hdw]; rfl) ?_
   refine WpO.nil (hKF _ _ ?_)
   refine rg fun KF hKF => ?_
   refine Fo.fa rfl ?_
   refine Fo.ld rfl rfl ?_
   refine Fo.bin rfl rfl rfl (by simp only [↓nrmL, nrmZ, Nat.reduceEqDiff, ↓reduceIte, h2, hyw, hdw]; rfl) ?_
   refine Fo.fa rfl ?_
   refine Fo.st rfl (rfl : _ = AVal.int _ _) rfl rfl rfl (by repeat (first | rfl | refine allOne_cons ?_)) (by simp only [↓nrmL, nrmZ, Nat.reduceEqDiff, ↓reduceIte, h2, hyw, hdw]; rfl) ?_
   refine WpO.nil (hKF _ _ ?_)
   dsimp only [cond_true, cond_false]
   refine ⟨y + 1, by omega, trivial, by omega, inferInstance, inferInstance, inferInstance, inferInstance, Ext0.ext⟩
 ·have h4 : R[h - 1] = 0 := by simpa using h0
  try simp only [↓nrmL, nrmZ, Nat.reduceEqDiff, ↓reduceIte, hc, e1, e1', e2, h0]
  refine sq ?_
  refine sq ?_
  refine rg fun KF hKF => ?_
  refine Fo.fa rfl ?_
  refine Fo.ld rfl rfl ?_
  refine Fo.bin rfl rfl rfl (by simp only [↓nrmL, nrmZ, Nat.reduceEqDiff, ↓reduceIte, hc, e1, e1', e2, h0]; rfl) ?_
  refine mB rfl ?_
  refine Fo.yes rfl rfl ?_
  refine Fo.mov (by simp only [↓nrmL, nrmK, Nat.reduceEqDiff, ↓reduceIte]; rfl) ?_
  refine Fo.yes rfl rfl ?_
  refine Fo.fa rfl ?_
  refine Fo.yes rfl rfl ?_
  refine Fo.ld rfl rfl ?_
  refine Fo.yes rfl rfl ?_
  refine Fo.fa rfl ?_
  refine Fo.yes rfl rfl ?_
  refine Fo.ld rfl rfl ?_
  refine Fo.yes rfl rfl ?_
  refine Fo.bin rfl rfl rfl (by simp only [↓nrmL, nrmZ, Nat.reduceEqDiff, ↓reduceIte, hc, e1, e1', e2, h0]; rfl) ?_
  refine Fo.yes rfl rfl ?_
  refine Fo.bin rfl rfl rfl (by simp only [↓nrmL, nrmZ, Nat.reduceEqDiff, ↓reduceIte, hc, e1, e1', e2, h0]; rfl) ?_
  refine Fo.yes rfl rfl ?_
  refine Fo.idx (by simp only [↓nrmL, nrmK, Nat.reduceEqDiff, ↓reduceIte]; rfl) rfl ?_ (by simp only [↓nrmL, nrmZ, Nat.reduceEqDiff, ↓reduceIte, hc, e1, e1', e2, h0]; rfl) ?_; (focus omega)
  refine Fo.yes rfl rfl ?_
  refine Fo.ldI rfl ?_ rfl ?_; (focus omega)
  refine Fo.yes rfl rfl ?_
  refine Fo.bin rfl rfl rfl (by simp only [↓nrmL, nrmZ, Nat.reduceEqDiff, ↓reduceIte, hc, e1, e1', e2, h0]; rfl) ?_
  refine tB rfl rfl ?_
  refine WpO.nil (hKF _ _ ?_)
  refine Wp.cond (b := true) rfl ?_
  refine Wp.skip ?_
  refine Wp.block ?_
  refine rg fun KF hKF => ?_
  refine Fo.fa rfl ?_
  refine Fo.ld rfl rfl ?_
  refine Fo.bin rfl rfl rfl (by simp only [↓nrmL, nrmZ, Nat.reduceEqDiff, ↓reduceIte, hc, e1, e1', e2, h0]; rfl) ?_
  refine Fo.fa rfl ?_
  refine Fo.st rfl (rfl : _ = AVal.int _ _) rfl rfl rfl (by repeat (first | rfl | refine allOne_cons ?_)) (by simp only [↓nrmL, nrmZ, Nat.reduceEqDiff, ↓reduceIte, hc, e1, e1', e2, h0]; rfl) ?_
  refine WpO.nil (hKF _ _ ?_)
  dsimp only [cond_true, cond_false]
  refine ⟨h - 1, by omega, trivial, by omega, fun i q1 q2 => ?_, inferInstance, inferInstance, inferInstance, inferInstance, Ext0.ext⟩
  by_cases hi : i = h - 1
  ·rw [hi, getD_get hhr]; omega
  ·exact hall i (by omega) q2
end Go.Am

/- Append to an empty slice that the call has made. -/
set_option maxHeartbeats 4000000
namespace Go.Am
open Go
theorem exec_emptyN {H : AHeap} {p : AVal} {sz k r bytes : Nat} {new : List AVal} {e0 : TypeId} (h : SliceAt H p sz k new) (g : HasRow H r [] true e0) (hsz : 0 < sz) (hb : 0 < bytes) (hroom : 2 * k * bytes ≤ 2 ^ 48) (hone : new.all AVal.one = true) (e : TypeId) :
    ∃ v H', aAppend e sz bytes (.slice r 0 0 (some 0) sz) p H = some (v, H') ∧ SliceAt H' v sz k new ∧ (∀ r' off len cap s, v = .slice r' off len cap s → r' = r ∨ H.n ≤ r') ∧ WrS H' v ∧ Ext H H' := by
  obtain ⟨hf1, hf2⟩ := aFirst_at h
  have hlen := h.len
  have hg1 := g.get
  have hg0 := g.lt
  have hs0 : ¬ sz = 0 := by omega
  have hb0 : ¬ bytes = 0 := by omega
  have ha : aRow r H = some (([], true), H) := by simp only [aRow, if_pos hg0, hg1]
  have key : aAppend e sz bytes (.slice r 0 0 (some 0) sz) p H = (if k = 0 then M.pure (.slice r 0 0 (some 0) sz) H else M.bind (aNew (.row new true (2 * e))) (fun r' => M.pure (.slice r' 0 (0 + k) none sz)) H) := by
    simp only [aAppend, hf1]
    rw [bind_of hf2]
    simp only [hone, hlen, Bool.not_true, ne_eq, not_true, decide_false, hs0, hb0, Bool.or_false, Bool.false_eq_true, if_false]
    rw [bind_of ha]
    by_cases hk : k = 0
    · simp only [hk, if_true]
      rfl
    · have hcap : ¬ (0 + k ≤ 0) := by omega
      have hcond : 0 + 0 * sz ≤ ([] : List AVal).length ∧ 2 * (0 + k) * bytes ≤ 2 ^ 48 := ⟨by simp, by rw [Nat.zero_add]; exact hroom⟩
      simp only [hk, if_false, if_neg hcap]
      rw [if_pos hcond]
      have : (List.take (0 * sz) (List.drop 0 ([] : List AVal)) ++ new) = new := by simp
      rw [this]
  rw [key]
  by_cases hk : k = 0
  · rw [if_pos hk]
    subst hk
    have hnil : new = [] := List.eq_nil_of_length_eq_zero (by rw [hlen, Nat.zero_mul])
    subst hnil
    exact ⟨_, _, rfl, ⟨Or.inr ⟨r, 0, some 0, [], true, e0, rfl, hg0, hg1, by simp, by simp, Nat.le_refl _⟩⟩, fun r' _ _ _ _ e => by cases e; exact Or.inl rfl, ⟨fun _ _ _ _ _ e => by cases e; exact ⟨_, _, hg1⟩⟩, Ext.refl H⟩
  · rw [if_neg hk]
    refine ⟨.slice H.n 0 (0 + k) none sz, H.push (.row new true (2 * e)), rfl, ?_, fun r' _ _ _ _ e => by cases e; exact Or.inr (Nat.le_refl _), ⟨fun _ _ _ _ _ e => by cases e; exact ⟨_, _, push_get_eq⟩⟩, (Ext.refl H).push _⟩
    rw [Nat.zero_add]
    exact ⟨Or.inr ⟨H.n, 0, none, new, true, 2 * e, rfl, Nat.lt_succ_self _, push_get_eq, by omega, by rw [List.drop_zero, List.take_of_length_le (by omega)], Nat.le_refl _⟩⟩
theorem WpX.emptyN {call : ACall} {fr : AFrame} {H : AHeap} {K : AVal → AHeap → Prop} {e e0 : TypeId} {x y : ROpd} {p : AVal} {sz k r bytes : Nat} {new : List AVal} (hx : x.ev fr = .slice r 0 0 (some 0) sz) (hy : y.ev fr = p) (h : SliceAt H p sz k new) [g : HasRow H r [] true e0] (hsz : 0 < sz) (hb : 0 < bytes) (hroom : 2 * k * bytes ≤ 2 ^ 48) (hone : new.all AVal.one = true)
    (hk : ∀ v H', SliceAt H' v sz k new → (∀ r' off len cap s, v = .slice r' off len cap s → r' = r ∨ H.n ≤ r') → WrS H' v → ExtI H H' → K v H') : WpX (.append e sz bytes x y) call fr H K := by
  obtain ⟨v, H', h1, h2, h3, h4, h5⟩ := exec_emptyN h g hsz hb hroom hone e
  exact ⟨v, H', by simp only [ROp.exec, hx, hy]; exact h1, hk v H' h2 h3 h4 ⟨h5⟩⟩
theorem exec_eqD {call : ACall} {fr : AFrame} {H : AHeap} {neg bb : Bool} {D : EqDesc} {x y : ROpd} {a b v : AVal} (hx : x.ev fr = a) (hy : y.ev fr = b) (he : aEq D a b = some bb) (hv : AVal.bool (match neg with | true => !bb | false => bb) = v) : (ROp.eq neg D x y).exec call fr H = some (v, H) := by
  subst hv
  simp only [ROp.exec, hx, hy, he]
  cases neg <;> rfl
end Go.Am

set_option maxHeartbeats 4000000
set_option maxRecDepth 100000
set_option synthInstance.maxHeartbeats 4000000
set_option synthInstance.maxSize 100000
namespace Go.Am
open Go
attribute [local irreducible] Wp WpO WpX WpE

theorem eq_step {k : IntKind} {x y : Int} {xs ys : List AVal} {off : Nat} {fs : List (Option (Nat × Nat × EqDesc))} {r : Bool} (hx : xs[off]? = some (.int k x)) (hy : ys[off]? = some (.int k y)) (h : aEqs fs xs ys = some r) : aEqs (some (off, 0, .int) :: fs) xs ys = some ((x == y) && r) := by
 have h1 : aPart 0 xs off = some (.int k x) := by unfold aPart; rw [if_pos rfl]; exact hx
 have h2 : aPart 0 ys off = some (.int k y) := by unfold aPart; rw [if_pos rfl]; exact hy
 have h3 : aEq .int (.int k x) (.int k y) = some (x == y) := by simp [aEq]
 simp only [aEqs, h1, h2, h3]
 cases (x == y)
 ·rfl
 ·rw [Bool.true_and]; exact h
theorem eq3 {k : IntKind} {a b c d e f : Int} : aEq (.fields [some (0, 0, .int), some (1, 0, .int), some (2, 0, .int)]) (.agg [.int k a, .int k b, .int k c]) (.agg [.int k d, .int k e, .int k f]) = some ((a == d) && ((b == e) && ((c == f) && true))) := by
 simp only [aEq]
 exact eq_step rfl rfl (eq_step rfl rfl (eq_step rfl rfl (by simp only [aEqs])))
theorem eq4 {k : IntKind} {a b c d e f g h : Int} : aEq (.fields [some (0, 0, .int), some (1, 0, .int), some (2, 0, .int), some (3, 0, .int)]) (.agg [.int k a, .int k b, .int k c, .int k d]) (.agg [.int k e, .int k f, .int k g, .int k h]) = some ((a == e) && ((b == f) && ((c == g) && ((d == h) && true)))) := by
 simp only [aEq]
 exact eq_step rfl rfl (eq_step rfl rfl (eq_step rfl rfl (eq_step rfl rfl (by simp only [aEqs]))))
instance K_EqualRuns {p q : AVal} {H : AHeap} {l m : List RunT} [hp : RunsI H p l] [hq : RunsI H q m] [hs : Short l] : PureCon ext prog 49 [p, q] H 1 (.bool (decide (l = m))) := ⟨by
 refine con_of (show prog 49 = some c49 from rfl) rfl rfl fun n hn => ?_
 have hsl := hs.le
 by_cases hlm : l.length = m.length
 ·have h1 : (((l.length : Nat) : Int) != ((m.length : Nat) : Int)) = false := by simp [hlm]
  try simp only [↓nrmL, nrmZ, Nat.reduceEqDiff, ↓reduceIte, h1]
  refine sq ?_
  refine rg fun KF hKF => ?_
  refine mB rfl ?_
  refine WpO.nil (hKF _ _ ?_)
  refine sq ?_
  refine sq ?_
  refine rg fun KF hKF => ?_
  refine Fo.mov (by simp only [↓nrmL, nrmK, Nat.reduceEqDiff, ↓reduceIte]; rfl) ?_
  refine Fo.len (v := ?_) (by simp only [↓nrmL, nrmK, Nat.reduceEqDiff, ↓reduceIte]; rfl) ?hv ?_; case hv => rfl
  refine Fo.mov (by simp only [↓nrmL, nrmK, Nat.reduceEqDiff, ↓reduceIte]; rfl) ?_
  refine Fo.len (v := ?_) (by simp only [↓nrmL, nrmK, Nat.reduceEqDiff, ↓reduceIte]; rfl) ?hv ?_; case hv => rfl
  refine Fo.bin rfl rfl rfl (by simp only [↓nrmL, nrmZ, Nat.reduceEqDiff, ↓reduceIte, h1]; rfl) ?_
  refine WpO.nil (hKF _ _ ?_)
  refine Wp.cond (b := false) rfl ?_
  refine Wp.skip ?_
  refine sq ?_
  refine sq ?_
  refine rg fun KF hKF => ?_
  refine Fo.mov (by simp only [↓nrmL, nrmK, Nat.reduceEqDiff, ↓reduceIte]; rfl) ?_
  refine Fo.len (v := ?_) (by simp only [↓nrmL, nrmK, Nat.reduceEqDiff, ↓reduceIte]; rfl) ?hv ?_; case hv => rfl
  refine mI rfl ?_
  refine WpO.nil (hKF _ _ ?_)
  refine Wp.block ?_
  dsimp only [cond_true, cond_false]
  refine Wp.loopS [4, 5, 13, 14, 15, 16, 17, 18, 19, 20, 21, 22, 23, 24, 25] (fun i : Nat => [(13, .int .i64 i)]) (fun H3 i H2 => i ≤ l.length ∧ (∀ j, j < i → l[j]? = m[j]?) ∧ H2 = H3) (fun i => l.length - i) 0 rfl (fun _ => rfl) ⟨rfl, trivial⟩ ⟨Nat.zero_le _, fun j hj => by omega, rfl⟩ (by unfold fuel0 at hn; omega) ?_
  rintro i g H2 ⟨hi, heq, rfl⟩
  simp only [↓nrmL, nrmZ, Nat.reduceEqDiff, ↓reduceIte]
  cases hc : decide ((i : Int) < (l.length : Int))
  ·have hil : i = l.length := by have := of_decide_eq_false hc; omega
   subst hil
   have hd : decide (l = m) = true := decide_eq_true (eq_of_gets hlm heq)
   rw [hd]
   try simp only [↓nrmL, nrmZ, Nat.reduceEqDiff, ↓reduceIte, hc]
   refine sq ?_
   refine rg fun KF hKF => ?_
   refine Fo.bin rfl rfl rfl (by simp only [↓nrmL, nrmZ, Nat.reduceEqDiff, ↓reduceIte, hc]; rfl) ?_
   refine WpO.nil (hKF _ _ ?_)
   refine sq ?_
   refine Wp.cond (b := false) rfl ?_
   refine Wp.exit ?_
   refine sq ?_
   refine rg fun KF hKF => ?_
   refine mB rfl ?_
   refine WpO.nil (hKF _ _ ?_)
   refine Wp.ret ?_
   dsimp only [cond_true, cond_false]
   refine ⟨trivial, _, rfl, ?_⟩
   exact ⟨rfl, Ext0.ext⟩
  ·have hil : i < l.length := by have := of_decide_eq_true hc; omega
   have him : i < m.length := by omega
   have hw1 := wa1 (a := i) (by omega)
   have hcg := cellsR_get hil
   have hcg2 := cellsR_get him
   have ha : l[i]? = some (l.getD i run0) := by simp [hil]
   have hb : m[i]? = some (m.getD i run0) := by simp [him]
   generalize l.getD i run0 = r at hcg ha
   generalize m.getD i run0 = s at hcg2 hb
   obtain ⟨r1, r2, r3⟩ := r
   obtain ⟨s1, s2, s3⟩ := s
   cases hne : ((r1 == s1) && ((r2 == s2) && ((r3 == s3) && true)))
   ·have hd : decide (l = m) = false := decide_eq_false (fun e => by rw [e, hb] at ha; cases ha; simp at hne)
    rw [hd]
    try simp only [↓nrmL, nrmZ, Nat.reduceEqDiff, ↓reduceIte, hc]
    refine sq ?_
    refine rg fun KF hKF => ?_
    refine Fo.bin rfl rfl rfl (by simp only [↓nrmL, nrmZ, Nat.reduceEqDiff, ↓reduceIte, hc]; rfl) ?_
    refine WpO.nil (hKF _ _ ?_)
    refine sq ?_
    refine Wp.cond (b := true) rfl ?_
    refine Wp.skip ?_
    refine sq ?_
    refine Wp.block ?_
    refine sq ?_
    refine rg fun KF hKF => ?_
    refine mI rfl ?_
    refine mI rfl ?_
    refine WpO.nil (hKF _ _ ?_)
    refine sq ?_
    refine Fr.quiet rfl rfl fun KF hKF => ?_
    refine Fo.mov (by simp only [↓nrmL, nrmK, Nat.reduceEqDiff, ↓reduceIte]; rfl) ?_
    refine mI rfl ?_
    refine Fo.idx (by simp only [↓nrmL, nrmK, Nat.reduceEqDiff, ↓reduceIte]; rfl) rfl ?_ (by simp only [↓nrmL, nrmZ, Nat.reduceEqDiff, ↓reduceIte, hc]; rfl) ?_; (focus omega)
    refine WpO.do (WpX.ldNP (p := p) (j := i * 3) (m := 3) rfl (by decide) (by rw [cellsR_length]; omega) hcg ?_)
    refine Fo.mov (by simp only [↓nrmL, nrmK, Nat.reduceEqDiff, ↓reduceIte]; rfl) ?_
    refine mI rfl ?_
    refine Fo.idx (by simp only [↓nrmL, nrmK, Nat.reduceEqDiff, ↓reduceIte]; rfl) rfl ?_ (by simp only [↓nrmL, nrmZ, Nat.reduceEqDiff, ↓reduceIte]; rfl) ?_; (focus omega)
    dsimp only [cond_true, cond_false]
    refine WpO.do (WpX.ldNP (p := q) (j := i * 3) (m := 3) rfl (by decide) (by rw [cellsR_length]; omega) hcg2 ?_)
    dsimp only [cond_true, cond_false]
    refine Fo.eqD rfl rfl eq3 (by rw [hne]) ?_
    refine WpO.nil (hKF _ _ ?_)
    refine Wp.cond (b := true) rfl ?_
    refine sq ?_
    refine rg fun KF hKF => ?_
    refine mB rfl ?_
    refine WpO.nil (hKF _ _ ?_)
    refine Wp.ret ?_
    dsimp only [cond_true, cond_false]
    refine ⟨trivial, _, rfl, ?_⟩
    exact ⟨rfl, Ext0.ext⟩
   ·have e : l[i]? = m[i]? := by
     simp only [Bool.and_true, Bool.and_eq_true, beq_iff_eq] at hne
     obtain ⟨rfl, rfl, rfl⟩ := hne
     rw [ha, hb]
    try simp only [↓nrmL, nrmZ, Nat.reduceEqDiff, ↓reduceIte, hc]
    refine sq ?_
    refine rg fun KF hKF => ?_
    refine Fo.bin rfl rfl rfl (by simp only [↓nrmL, nrmZ, Nat.reduceEqDiff, ↓reduceIte, hc]; rfl) ?_
    refine WpO.nil (hKF _ _ ?_)
    refine sq ?_
    refine Wp.cond (b := true) rfl ?_
    refine Wp.skip ?_
    refine sq ?_
    refine Wp.block ?_
    refine sq ?_
    refine rg fun KF hKF => ?_
    refine mI rfl ?_
    refine mI rfl ?_
    refine WpO.nil (hKF _ _ ?_)
    refine sq ?_
    refine Fr.quiet rfl rfl fun KF hKF => ?_
    refine Fo.mov (by simp only [↓nrmL, nrmK, Nat.reduceEqDiff, ↓reduceIte]; rfl) ?_
    refine mI rfl ?_
    refine Fo.idx (by simp only [↓nrmL, nrmK, Nat.reduceEqDiff, ↓reduceIte]; rfl) rfl ?_ (by simp only [↓nrmL, nrmZ, Nat.reduceEqDiff, ↓reduceIte, hc]; rfl) ?_; (focus omega)
    refine WpO.do (WpX.ldNP (p := p) (j := i * 3) (m := 3) rfl (by decide) (by rw [cellsR_length]; omega) hcg ?_)
    refine Fo.mov (by simp only [↓nrmL, nrmK, Nat.reduceEqDiff, ↓reduceIte]; rfl) ?_
    refine mI rfl ?_
    refine Fo.idx (by simp only [↓nrmL, nrmK, Nat.reduceEqDiff, ↓reduceIte]; rfl) rfl ?_ (by simp only [↓nrmL, nrmZ, Nat.reduceEqDiff, ↓reduceIte]; rfl) ?_; (focus omega)
    dsimp only [cond_true, cond_false]
    refine WpO.do (WpX.ldNP (p := q) (j := i * 3) (m := 3) rfl (by decide) (by rw [cellsR_length]; omega) hcg2 ?_)
    dsimp only [cond_true, cond_false]
    refine Fo.eqD rfl rfl eq3 (by rw [hne]) ?_
    refine WpO.nil (hKF _ _ ?_)
    refine Wp.cond (b := false) rfl ?_
    refine Wp.skip ?_
    refine rg fun KF hKF => ?_
    refine Fo.bin rfl rfl rfl rfl ?_
    refine mI rfl ?_
    refine WpO.nil (hKF _ _ ?_)
    dsimp only [cond_true, cond_false]
    refine ⟨i + 1, by omega, ⟨by simp only [↓nrmL, nrmZ, Nat.reduceEqDiff, ↓reduceIte]; rw [hw1], trivial⟩, hil, fun j hj => ?_, rfl⟩
    by_cases hj2 : j < i
    ·exact heq j hj2
    ·rw [show j = i by omega]; exact e
 ·have h1 : (((l.length : Nat) : Int) != ((m.length : Nat) : Int)) = true := by simp; omega
  have hd : decide (l = m) = false := decide_eq_false (fun e => by subst e; exact hlm rfl)
  rw [hd]
  try simp only [↓nrmL, nrmZ, Nat.reduceEqDiff, ↓reduceIte, h1]
  refine sq ?_
  refine rg fun KF hKF => ?_
  refine mB rfl ?_
  refine WpO.nil (hKF _ _ ?_)
  refine sq ?_
  refine sq ?_
  refine rg fun KF hKF => ?_
  refine Fo.mov (by simp only [↓nrmL, nrmK, Nat.reduceEqDiff, ↓reduceIte]; rfl) ?_
  refine Fo.len (v := ?_) (by simp only [↓nrmL, nrmK, Nat.reduceEqDiff, ↓reduceIte]; rfl) ?hv ?_; case hv => rfl
  refine Fo.mov (by simp only [↓nrmL, nrmK, Nat.reduceEqDiff, ↓reduceIte]; rfl) ?_
  refine Fo.len (v := ?_) (by simp only [↓nrmL, nrmK, Nat.reduceEqDiff, ↓reduceIte]; rfl) ?hv ?_; case hv => rfl
  refine Fo.bin rfl rfl rfl (by simp only [↓nrmL, nrmZ, Nat.reduceEqDiff, ↓reduceIte, h1]; rfl) ?_
  refine WpO.nil (hKF _ _ ?_)
  refine Wp.cond (b := true) rfl ?_
  refine sq ?_
  refine rg fun KF hKF => ?_
  refine mB rfl ?_
  refine WpO.nil (hKF _ _ ?_)
  refine Wp.ret ?_
  dsimp only [cond_true, cond_false]
  refine ⟨trivial, _, rfl, ?_⟩
  exact ⟨rfl, Ext0.ext⟩⟩
theorem cellsR_one (l : List RunT) : (cellsR l).all AVal.one = true := by
 induction l with
 | nil => rfl
 | cons r l ih => simp only [cellsR, List.flatMap_cons, List.all_append] at ih ⊢; rw [ih]; rfl
def CopyRuns (H H' : AHeap) (v : AVal) (l : List RunT) : Prop := RunsI H' v l ∧ FreshS H v ∧ Ext H H'
theorem K_CloneRuns {p : AVal} {H : AHeap} {l : List RunT} [hp : RunsI H p l] (hl : l.length < 2 ^ 30) : Con ext prog 1 42 [p] H fun v H' => CopyRuns H H' v l := by
 refine con_of (show prog 42 = some c42 from rfl) rfl rfl fun n hn => ?_
 rcases hp.it with ⟨rfl, h0, _⟩ | ⟨r, off, cap, row, rw, e, rfl, hr, hg, hle, hc, _⟩
 ·have : l = [] := List.eq_nil_of_length_eq_zero h0
  subst this
  refine sq ?_
  refine rg fun KF hKF => ?_
  refine mN rfl ?_
  refine WpO.nil (hKF _ _ ?_)
  refine sq ?_
  refine sq ?_
  refine rg fun KF hKF => ?_
  refine mN rfl ?_
  refine Fo.now rfl rfl (by simp only [↓nrmL, nrmZ, Nat.reduceEqDiff, ↓reduceIte]; rfl) ?_
  refine WpO.nil (hKF _ _ ?_)
  refine Wp.cond (b := true) rfl ?_
  refine sq ?_
  refine rg fun KF hKF => ?_
  refine mN rfl ?_
  refine WpO.nil (hKF _ _ ?_)
  refine Wp.ret ?_
  dsimp only [cond_true, cond_false]
  refine ⟨trivial, _, rfl, ?_⟩
  exact (show CopyRuns H H .nslice [] from ⟨hp, ⟨fun _ _ _ _ _ e => by cases e⟩, Ext0.ext⟩)
 ·skip
  refine sq ?_
  refine rg fun KF hKF => ?_
  refine mN rfl ?_
  refine WpO.nil (hKF _ _ ?_)
  refine sq ?_
  refine sq ?_
  refine rg fun KF hKF => ?_
  refine Fo.mov (by simp only [↓nrmL, nrmK, Nat.reduceEqDiff, ↓reduceIte]; rfl) ?_
  refine Fo.now rfl rfl (by simp only [↓nrmL, nrmZ, Nat.reduceEqDiff, ↓reduceIte]; rfl) ?_
  refine WpO.nil (hKF _ _ ?_)
  refine Wp.cond (b := false) rfl ?_
  refine Wp.skip ?_
  refine sq ?_
  refine rg fun KF hKF => ?_
  refine Fo.bslice rfl rfl ?_
  refine Fo.mov (by simp only [↓nrmL, nrmK, Nat.reduceEqDiff, ↓reduceIte]; rfl) ?_
  refine WpO.do (WpX.emptyN rfl (by simp only [↓nrmL, nrmZ, Nat.reduceEqDiff, ↓reduceIte, List.map] <;> rfl) (inferInstance : RunsI _ _ l) (by decide) (by decide) (by omega) (cellsR_one l) fun v H1 h1 h2 h3 h4 => ?_)
  refine Fo.mov (by simp only [↓nrmL, nrmK, Nat.reduceEqDiff, ↓reduceIte]; rfl) ?_
  refine WpO.nil (hKF _ _ ?_)
  refine Wp.ret ?_
  dsimp only [cond_true, cond_false]
  refine ⟨trivial, _, rfl, ?_⟩
  refine (show CopyRuns H H1 v l from ⟨h1, ⟨fun r' _ _ _ _ e => ?_⟩, Ext0.ext⟩)
  rcases h2 _ _ _ _ _ e with rfl | h5
  ·exact Nat.le_refl _
  ·exact Nat.le_trans (Nat.le_succ _) h5
theorem K_ProfileE {w h : Int} {p : AVal} {H : AHeap} {l : List UInt8} [hp : BytesI H p l] (h0 : (Img.err ⟨w, h, l⟩ == 0) = false) : Con ext prog 4 46 [.agg [.int .i64 w, .int .i64 h, p]] H fun v H' => v = .tuple [.nslice, .nslice, .int .i64 (Img.err ⟨w, h, l⟩)] ∧ Ext H H' := by
 refine con_of (show prog 46 = some c46 from rfl) rfl rfl fun n hn => ?_
 haveI := hp.one
 try simp only [↓nrmL, nrmZ, Nat.reduceEqDiff, ↓reduceIte, h0, bne]
 refine sq ?_
 refine rg fun KF hKF => ?_
 refine Fo.boxA rfl ?_
 refine mN rfl ?_
 refine mN rfl ?_
 refine mI rfl ?_
 refine WpO.nil (hKF _ _ ?_)
 refine sq ?_
 refine sq ?_
 refine rg fun KF hKF => ?_
 refine Fo.ldN rfl rfl (by simp only [↓nrmL, nrmZ, Nat.reduceEqDiff, ↓reduceIte, h0, bne]; rfl) ?_
 refine Fo.pcall (v' := ?_) hn rfl (by simp only [↓nrmL, nrmZ, Nat.reduceEqDiff, ↓reduceIte, h0, bne, List.map]; rfl) rfl ?hv fun _ _ => ?_; case hv => rfl
 refine mI rfl ?_
 refine WpO.nil (hKF _ _ ?_)
 refine sq ?_
 refine rg fun KF hKF => ?_
 refine mI rfl ?_
 refine Fo.bin rfl rfl rfl (by simp only [↓nrmL, nrmZ, Nat.reduceEqDiff, ↓reduceIte, h0, bne]; rfl) ?_
 refine WpO.nil (hKF _ _ ?_)
 refine Wp.cond (b := true) rfl ?_
 refine sq ?_
 refine rg fun KF hKF => ?_
 refine mI rfl ?_
 refine mN rfl ?_
 refine mN rfl ?_
 refine mI rfl ?_
 refine WpO.nil (hKF _ _ ?_)
 refine Wp.ret ?_
 dsimp only [cond_true, cond_false]
 refine ⟨trivial, _, rfl, ?_⟩
 exact ⟨rfl, Ext0.ext⟩
theorem K_BoxE {w h : Int} {p : AVal} {H : AHeap} {l : List UInt8} [hp : BytesI H p l] (h0 : (Img.err ⟨w, h, l⟩ == 0) = false) : Con ext prog 5 43 [.agg [.int .i64 w, .int .i64 h, p]] H fun v H' => v = .tuple [.agg [.int .i64 0, .int .i64 0, .int .i64 0, .int .i64 0], .int .i64 (Img.err ⟨w, h, l⟩)] ∧ Ext H H' := by
 refine con_of (show prog 43 = some c43 from rfl) rfl rfl fun n hn => ?_
 haveI := hp.one
 refine sq ?_
 refine rg fun KF hKF => ?_
 refine Fo.boxA rfl ?_
 refine Fo.new ?_
 refine mI rfl ?_
 refine WpO.nil (hKF _ _ ?_)
 refine sq ?_
 refine rg fun KF hKF => ?_
 refine Fo.ldN rfl rfl (by simp only [↓nrmL, nrmZ, Nat.reduceEqDiff, ↓reduceIte]; rfl) ?_
 refine WpO.do (WpX.conD hn rfl rfl (by simp only [↓nrmL, nrmZ, Nat.reduceEqDiff, ↓reduceIte, List.map] <;> rfl) (K_ProfileE h0) fun v H1 h5 => ?_)
 obtain ⟨e1, hx1⟩ := h5
 subst e1
 haveI : ExtI _ H1 := ⟨hx1⟩
 try simp only [↓nrmL, nrmZ, Nat.reduceEqDiff, ↓reduceIte, h0, bne]
 refine mT rfl ?_
 refine Fo.extr rfl rfl ?_
 refine Fo.extr rfl rfl ?_
 refine Fo.extr rfl rfl ?_
 refine mN rfl ?_
 refine mN rfl ?_
 refine mI rfl ?_
 refine WpO.nil (hKF _ _ ?_)
 refine sq ?_
 refine sq ?_
 refine rg fun KF hKF => ?_
 refine mI rfl ?_
 refine Fo.bin rfl rfl rfl (by simp only [↓nrmL, nrmZ, Nat.reduceEqDiff, ↓reduceIte, h0, bne]; rfl) ?_
 refine WpO.nil (hKF _ _ ?_)
 refine Wp.cond (b := true) rfl ?_
 refine sq ?_
 refine rg fun KF hKF => ?_
 refine Fo.build (by repeat (first | refine aFill1 (by first | exact (rfl : _ = AVal.int _ _) | exact (rfl : _ = AVal.ptr _ _) | exact (rfl : _ = AVal.bool _) | exact (rfl : _ = AVal.agg _) | exact (rfl : _ = AVal.tuple _) | exact (rfl : _ = AVal.func _ _ _) | exact (rfl : _ = AVal.nslice) | ((try simp only [↓nrmL, nrmK, Nat.reduceEqDiff, ↓reduceIte]); rfl)) rfl ?_ | rfl)) rfl ?_
 refine mI rfl ?_
 refine Fo.st rfl (rfl : _ = AVal.agg _) rfl rfl rfl (by repeat (first | rfl | refine allOne_cons ?_)) (by simp only [↓nrmL, nrmZ, Nat.reduceEqDiff, ↓reduceIte, h0, bne]; rfl) ?_
 refine mI rfl ?_
 refine WpO.nil (hKF _ _ ?_)
 refine Wp.ret ?_
 dsimp only [cond_true, cond_false]
 refine ⟨trivial, _, (getAllC rfl rfl rfl rfl), ?_⟩
 exact ⟨rfl, Ext0.ext⟩
end Go.Am

set_option maxHeartbeats 4000000
set_option maxRecDepth 100000
namespace Go.Am
open Go
attribute [local irreducible] Wp WpO WpX WpE

/-- Is a list longer than the statements look at? -/
instance K_few1 {p : AVal} {H : AHeap} {w h : Int} {sz k : Nat} {cs : List AVal} [hp : SliceAt H p sz k cs] : PureCon ext prog 86 [.agg [.int .i64 w, .int .i64 h, p]] H 1 (.bool (decide ((k : Int) > 4000))) := ⟨by
 refine con_of (show prog 86 = some c86 from rfl) rfl rfl fun n hn => ?_
 haveI := hp.one
 refine sq ?_
 refine rg fun KF hKF => ?_
 refine Fo.boxA rfl ?_
 refine mB rfl ?_
 refine WpO.nil (hKF _ _ ?_)
 refine sq ?_
 refine rg fun KF hKF => ?_
 refine Fo.fa rfl ?_
 refine Fo.ld rfl rfl ?_
 refine Fo.len (v := ?_) (by simp only [↓nrmL, nrmK, Nat.reduceEqDiff, ↓reduceIte]; rfl) ?hv ?_; case hv => rfl
 refine Fo.bin rfl rfl rfl rfl ?_
 refine mB rfl ?_
 refine WpO.nil (hKF _ _ ?_)
 refine Wp.ret ?_
 dsimp only [cond_true, cond_false]
 refine ⟨trivial, _, rfl, ?_⟩
 exact ⟨rfl, Ext0.ext⟩⟩

instance K_iff2 {s p q : AVal} {H : AHeap} {w h w' h' : Int} {sz k sz' k' : Nat} {cs cs' : List AVal} [hp : SliceAt H p sz k cs] [hq : SliceAt H q sz' k' cs'] [hs : SliceAt H s 3 2 [.int .i64 w, .int .i64 h, p, .int .i64 w', .int .i64 h', q]] : PureCon ext prog 143 [s, .func (.func 86) [] []] H 2 (.int .i64 (bif decide ((k : Int) > 4000) then 0 else bif decide ((k' : Int) > 4000) then 1 else -1)) := ⟨by
 refine con_of (show prog 143 = some c143 from rfl) rfl rfl fun n hn => ?_
 haveI := hs.one
 refine sq ?_
 refine rg fun KF hKF => ?_
 refine mI rfl ?_
 refine WpO.nil (hKF _ _ ?_)
 refine sq ?_
 refine sq ?_
 refine rg fun KF hKF => ?_
 refine Fo.mov (by simp only [↓nrmL, nrmK, Nat.reduceEqDiff, ↓reduceIte]; rfl) ?_
 refine Fo.len (v := ?_) (by simp only [↓nrmL, nrmK, Nat.reduceEqDiff, ↓reduceIte]; rfl) ?hv ?_; case hv => rfl
 refine mI rfl ?_
 refine WpO.nil (hKF _ _ ?_)
 refine Wp.block ?_
 dsimp only [cond_true, cond_false]
 refine Wp.loopS [4, 5, 8, 9, 10, 11, 12, 13, 14, 15, 16, 17, 18] (fun i : Nat => [(8, .int .i64 i)]) (fun H3 i H2 => i ≤ 2 ∧ (1 ≤ i → decide ((k : Int) > 4000) = false) ∧ (2 ≤ i → decide ((k' : Int) > 4000) = false) ∧ Ext H3 H2) (fun i => 2 - i) 0 rfl (fun _ => rfl) ⟨rfl, trivial⟩ ⟨Nat.zero_le _, fun h => by omega, fun h => by omega, Ext.refl _⟩ (by unfold fuel0 at hn; omega) ?_
 rintro i g H2 ⟨hi, h1, h2, hx2⟩
 haveI : ExtI _ H2 := ⟨hx2⟩
 simp only [↓nrmL, nrmZ, Nat.reduceEqDiff, ↓reduceIte]
 rcases i with _ | i
 ·have hc : decide (((0 : Nat) : Int) < ((2 : Nat) : Int)) = true := rfl
  have hw1 : IntKind.i64.wrap (((0 : Nat) : Int) + 1) = ((1 : Nat) : Int) := rfl
  try simp only [↓nrmL, nrmZ, Nat.reduceEqDiff, ↓reduceIte, hc]
  refine sq ?_
  refine rg fun KF hKF => ?_
  refine Fo.bin rfl rfl rfl (by simp only [↓nrmL, nrmZ, Nat.reduceEqDiff, ↓reduceIte, hc]; rfl) ?_
  refine WpO.nil (hKF _ _ ?_)
  refine sq ?_
  refine Wp.cond (b := true) rfl ?_
  refine Wp.skip ?_
  refine sq ?_
  refine Wp.block ?_
  refine sq ?_
  refine rg fun KF hKF => ?_
  refine mI rfl ?_
  refine mI rfl ?_
  refine WpO.nil (hKF _ _ ?_)
  refine sq ?_
  refine rg fun KF hKF => ?_
  refine mF rfl ?_
  refine Fo.mov (by simp only [↓nrmL, nrmK, Nat.reduceEqDiff, ↓reduceIte]; rfl) ?_
  refine mI rfl ?_
  refine Fo.idx (by simp only [↓nrmL, nrmK, Nat.reduceEqDiff, ↓reduceIte]; rfl) rfl ?_ (by simp only [↓nrmL, nrmZ, Nat.reduceEqDiff, ↓reduceIte, hc]; rfl) ?_; (focus omega)
  refine WpO.do (WpX.ldNP (p := s) (j := 0) (m := 3) rfl (by decide) (by simp) rfl ?_)
  cases hk : decide ((k : Int) > 4000)
  ·skip
   try simp only [↓nrmL, nrmZ, Nat.reduceEqDiff, ↓reduceIte, hk]
   refine Fo.pcall (v' := ?_) hn rfl (by simp only [↓nrmL, nrmZ, Nat.reduceEqDiff, ↓reduceIte, hk, List.map]; rfl) rfl ?hv fun _ _ => ?_; case hv => (simp only [↓nrmL, nrmZ, Nat.reduceEqDiff, ↓reduceIte, hk]; rfl)
   refine WpO.nil (hKF _ _ ?_)
   refine Wp.cond (b := false) rfl ?_
   refine Wp.skip ?_
   refine rg fun KF hKF => ?_
   refine Fo.bin rfl rfl rfl rfl ?_
   refine mI rfl ?_
   refine WpO.nil (hKF _ _ ?_)
   dsimp only [cond_true, cond_false]
   refine ⟨1, by omega, ⟨by simp only [↓nrmL, nrmZ, Nat.reduceEqDiff, ↓reduceIte]; rw [hw1], trivial⟩, by omega, fun _ => hk, fun h => by omega, Ext0.ext⟩
  ·skip
   try simp only [↓nrmL, nrmZ, Nat.reduceEqDiff, ↓reduceIte, hk]
   refine Fo.pcall (v' := ?_) hn rfl (by simp only [↓nrmL, nrmZ, Nat.reduceEqDiff, ↓reduceIte, hk, List.map]; rfl) rfl ?hv fun _ _ => ?_; case hv => (simp only [↓nrmL, nrmZ, Nat.reduceEqDiff, ↓reduceIte, hk]; rfl)
   refine WpO.nil (hKF _ _ ?_)
   refine Wp.cond (b := true) rfl ?_
   refine sq ?_
   refine rg fun KF hKF => ?_
   refine mI rfl ?_
   refine mI rfl ?_
   refine WpO.nil (hKF _ _ ?_)
   refine Wp.ret ?_
   dsimp only [cond_true, cond_false]
   refine ⟨trivial, _, rfl, ?_⟩
   exact ⟨by rw [hk]; rfl, Ext0.ext⟩
 rcases i with _ | i
 ·have hc : decide (((0 + 1 : Nat) : Int) < ((2 : Nat) : Int)) = true := rfl
  have hw1 : IntKind.i64.wrap (((0 + 1 : Nat) : Int) + 1) = ((2 : Nat) : Int) := rfl
  have hk := h1 (by omega)
  try simp only [↓nrmL, nrmZ, Nat.reduceEqDiff, ↓reduceIte, hc]
  refine sq ?_
  refine rg fun KF hKF => ?_
  refine Fo.bin rfl rfl rfl (by simp only [↓nrmL, nrmZ, Nat.reduceEqDiff, ↓reduceIte, hc]; rfl) ?_
  refine WpO.nil (hKF _ _ ?_)
  refine sq ?_
  refine Wp.cond (b := true) rfl ?_
  refine Wp.skip ?_
  refine sq ?_
  refine Wp.block ?_
  refine sq ?_
  refine rg fun KF hKF => ?_
  refine mI rfl ?_
  refine mI rfl ?_
  refine WpO.nil (hKF _ _ ?_)
  refine sq ?_
  refine rg fun KF hKF => ?_
  refine mF rfl ?_
  refine Fo.mov (by simp only [↓nrmL, nrmK, Nat.reduceEqDiff, ↓reduceIte]; rfl) ?_
  refine mI rfl ?_
  refine Fo.idx (by simp only [↓nrmL, nrmK, Nat.reduceEqDiff, ↓reduceIte]; rfl) rfl ?_ (by simp only [↓nrmL, nrmZ, Nat.reduceEqDiff, ↓reduceIte, hc]; rfl) ?_; (focus omega)
  refine WpO.do (WpX.ldNP (p := s) (j := 3) (m := 3) rfl (by decide) (by simp) rfl ?_)
  cases hk2 : decide ((k' : Int) > 4000)
  ·skip
   try simp only [↓nrmL, nrmZ, Nat.reduceEqDiff, ↓reduceIte, hk2]
   refine Fo.pcall (v' := ?_) hn rfl (by simp only [↓nrmL, nrmZ, Nat.reduceEqDiff, ↓reduceIte, hk2, List.map]; rfl) rfl ?hv fun _ _ => ?_; case hv => (simp only [↓nrmL, nrmZ, Nat.reduceEqDiff, ↓reduceIte, hk2]; rfl)
   refine WpO.nil (hKF _ _ ?_)
   refine Wp.cond (b := false) rfl ?_
   refine Wp.skip ?_
   refine rg fun KF hKF => ?_
   refine Fo.bin rfl rfl rfl rfl ?_
   refine mI rfl ?_
   refine WpO.nil (hKF _ _ ?_)
   dsimp only [cond_true, cond_false]
   refine ⟨2, by omega, ⟨by simp only [↓nrmL, nrmZ, Nat.reduceEqDiff, ↓reduceIte]; rw [hw1], trivial⟩, by omega, fun _ => hk, fun _ => hk2, Ext0.ext⟩
  ·skip
   try simp only [↓nrmL, nrmZ, Nat.reduceEqDiff, ↓reduceIte, hk2]
   refine Fo.pcall (v' := ?_) hn rfl (by simp only [↓nrmL, nrmZ, Nat.reduceEqDiff, ↓reduceIte, hk2, List.map]; rfl) rfl ?hv fun _ _ => ?_; case hv => (simp only [↓nrmL, nrmZ, Nat.reduceEqDiff, ↓reduceIte, hk2]; rfl)
   refine WpO.nil (hKF _ _ ?_)
   refine Wp.cond (b := true) rfl ?_
   refine sq ?_
   refine rg fun KF hKF => ?_
   refine mI rfl ?_
   refine mI rfl ?_
   refine WpO.nil (hKF _ _ ?_)
   refine Wp.ret ?_
   dsimp only [cond_true, cond_false]
   refine ⟨trivial, _, rfl, ?_⟩
   exact ⟨by rw [hk, hk2]; rfl, Ext0.ext⟩
 ·obtain rfl : i = 0 := by omega
  have hc : decide (((0 + 1 + 1 : Nat) : Int) < ((2 : Nat) : Int)) = false := rfl
  have hk := h1 (by omega)
  have hk2 := h2 (by omega)
  try simp only [↓nrmL, nrmZ, Nat.reduceEqDiff, ↓reduceIte, hc]
  refine sq ?_
  refine rg fun KF hKF => ?_
  refine Fo.bin rfl rfl rfl (by simp only [↓nrmL, nrmZ, Nat.reduceEqDiff, ↓reduceIte, hc]; rfl) ?_
  refine WpO.nil (hKF _ _ ?_)
  refine sq ?_
  refine Wp.cond (b := false) rfl ?_
  refine Wp.exit ?_
  refine sq ?_
  refine rg fun KF hKF => ?_
  refine mI rfl ?_
  refine WpO.nil (hKF _ _ ?_)
  refine Wp.ret ?_
  dsimp only [cond_true, cond_false]
  refine ⟨trivial, _, rfl, ?_⟩
  exact ⟨by rw [hk, hk2]; rfl, Ext0.ext⟩⟩

instance K_cff2 {s p q : AVal} {H : AHeap} {w h w' h' : Int} {sz k sz' k' : Nat} {cs cs' : List AVal} [hp : SliceAt H p sz k cs] [hq : SliceAt H q sz' k' cs'] [hs : SliceAt H s 3 2 [.int .i64 w, .int .i64 h, p, .int .i64 w', .int .i64 h', q]] : PureCon ext prog 85 [s, .func (.func 86) [] []] H 3 (.bool (decide ((k : Int) > 4000) || decide ((k' : Int) > 4000))) := ⟨by
 refine con_of (show prog 85 = some c85 from rfl) rfl rfl fun n hn => ?_
 haveI := hs.one
 refine sq ?_
 refine rg fun KF hKF => ?_
 refine mB rfl ?_
 refine WpO.nil (hKF _ _ ?_)
 refine sq ?_
 refine rg fun KF hKF => ?_
 refine Fo.mov (by simp only [↓nrmL, nrmK, Nat.reduceEqDiff, ↓reduceIte]; rfl) ?_
 refine mF rfl ?_
 refine Fo.pcall (v' := ?_) hn rfl (by simp only [↓nrmL, nrmZ, Nat.reduceEqDiff, ↓reduceIte, List.map]; rfl) rfl ?hv fun _ _ => ?_; case hv => rfl
 refine Fo.bin rfl rfl rfl rfl ?_
 refine mB rfl ?_
 refine WpO.nil (hKF _ _ ?_)
 refine Wp.ret ?_
 dsimp only [cond_true, cond_false]
 refine ⟨trivial, _, rfl, ?_⟩
 refine ⟨?_, Ext0.ext⟩
 cases decide ((k : Int) > 4000) <;> cases decide ((k' : Int) > 4000) <;> rfl⟩
instance K_Few2 {s p q : AVal} {H : AHeap} {w h w' h' : Int} {sz k sz' k' : Nat} {cs cs' : List AVal} [hp : SliceAt H p sz k cs] [hq : SliceAt H q sz' k' cs'] [hs : SliceAt H s 3 2 [.int .i64 w, .int .i64 h, p, .int .i64 w', .int .i64 h', q]] : PureCon ext prog 14 [s] H 4 (.bool (!(decide ((k : Int) > 4000) || decide ((k' : Int) > 4000)))) := ⟨by
 refine con_of (show prog 14 = some c14 from rfl) rfl rfl fun n hn => ?_
 haveI := hs.one
 refine sq ?_
 refine rg fun KF hKF => ?_
 refine mB rfl ?_
 refine WpO.nil (hKF _ _ ?_)
 refine sq ?_
 refine rg fun KF hKF => ?_
 refine Fo.mov (by simp only [↓nrmL, nrmK, Nat.reduceEqDiff, ↓reduceIte]; rfl) ?_
 refine Fo.pcall (v' := ?_) hn rfl (by simp only [↓nrmL, nrmZ, Nat.reduceEqDiff, ↓reduceIte, List.map]; rfl) rfl ?hv fun _ _ => ?_; case hv => rfl
 refine Fo.now rfl rfl rfl ?_
 refine mB rfl ?_
 refine WpO.nil (hKF _ _ ?_)
 refine Wp.ret ?_
 dsimp only [cond_true, cond_false]
 refine ⟨trivial, _, rfl, ?_⟩
 exact ⟨rfl, Ext0.ext⟩⟩
end Go.Am

set_option maxHeartbeats 4000000
set_option maxRecDepth 100000
namespace Go.Am
open Go
attribute [local irreducible] Wp WpO WpX WpE

end Go.Am

set_option maxHeartbeats 4000000
set_option maxRecDepth 100000
set_option synthInstance.maxHeartbeats 4000000
set_option synthInstance.maxSize 100000
namespace Go.Am
open Go
attribute [local irreducible] Wp WpO WpX WpE

instance K_iff1 {s p : AVal} {H : AHeap} {w h : Int} {sz k : Nat} {cs : List AVal} [hp : SliceAt H p sz k cs] [hs : SliceAt H s 3 1 [.int .i64 w, .int .i64 h, p]] : PureCon ext prog 143 [s, .func (.func 86) [] []] H 2 (.int .i64 (bif decide ((k : Int) > 4000) then 0 else -1)) := ⟨by
 refine con_of (show prog 143 = some c143 from rfl) rfl rfl fun n hn => ?_
 haveI := hs.one
 refine sq ?_
 refine rg fun KF hKF => ?_
 refine mI rfl ?_
 refine WpO.nil (hKF _ _ ?_)
 refine sq ?_
 refine sq ?_
 refine rg fun KF hKF => ?_
 refine Fo.mov (by simp only [↓nrmL, nrmK, Nat.reduceEqDiff, ↓reduceIte]; rfl) ?_
 refine Fo.len (v := ?_) (by simp only [↓nrmL, nrmK, Nat.reduceEqDiff, ↓reduceIte]; rfl) ?hv ?_; case hv => rfl
 refine mI rfl ?_
 refine WpO.nil (hKF _ _ ?_)
 refine Wp.block ?_
 dsimp only [cond_true, cond_false]
 refine Wp.loopS [4, 5, 8, 9, 10, 11, 12, 13, 14, 15, 16, 17, 18] (fun i : Nat => [(8, .int .i64 i)]) (fun H3 i H2 => i ≤ 1 ∧ (1 ≤ i → decide ((k : Int) > 4000) = false) ∧ Ext H3 H2) (fun i => 1 - i) 0 rfl (fun _ => rfl) ⟨rfl, trivial⟩ ⟨Nat.zero_le _, fun h => by omega, Ext.refl _⟩ (by unfold fuel0 at hn; omega) ?_
 rintro i g H2 ⟨hi, h1, hx2⟩
 haveI : ExtI _ H2 := ⟨hx2⟩
 simp only [↓nrmL, nrmZ, Nat.reduceEqDiff, ↓reduceIte]
 rcases i with _ | i
 ·have hc : decide (((0 : Nat) : Int) < ((1 : Nat) : Int)) = true := rfl
  have hw1 : IntKind.i64.wrap (((0 : Nat) : Int) + 1) = ((1 : Nat) : Int) := rfl
  try simp only [↓nrmL, nrmZ, Nat.reduceEqDiff, ↓reduceIte, hc]
  refine sq ?_
  refine rg fun KF hKF => ?_
  refine Fo.bin rfl rfl rfl (by simp only [↓nrmL, nrmZ, Nat.reduceEqDiff, ↓reduceIte, hc]; rfl) ?_
  refine WpO.nil (hKF _ _ ?_)
  refine sq ?_
  refine Wp.cond (b := true) rfl ?_
  refine Wp.skip ?_
  refine sq ?_
  refine Wp.block ?_
  refine sq ?_
  refine rg fun KF hKF => ?_
  refine mI rfl ?_
  refine mI rfl ?_
  refine WpO.nil (hKF _ _ ?_)
  refine sq ?_
  refine rg fun KF hKF => ?_
  refine mF rfl ?_
  refine Fo.mov (by simp only [↓nrmL, nrmK, Nat.reduceEqDiff, ↓reduceIte]; rfl) ?_
  refine mI rfl ?_
  refine Fo.idx (by simp only [↓nrmL, nrmK, Nat.reduceEqDiff, ↓reduceIte]; rfl) rfl ?_ (by simp only [↓nrmL, nrmZ, Nat.reduceEqDiff, ↓reduceIte, hc]; rfl) ?_; (focus omega)
  refine WpO.do (WpX.ldNP (p := s) (j := 0) (m := 3) rfl (by decide) (by simp) rfl ?_)
  cases hk : decide ((k : Int) > 4000)
  ·skip
   try simp only [↓nrmL, nrmZ, Nat.reduceEqDiff, ↓reduceIte, hk]
   refine Fo.pcall (v' := ?_) hn rfl (by simp only [↓nrmL, nrmZ, Nat.reduceEqDiff, ↓reduceIte, hk, List.map]; rfl) rfl ?hv fun _ _ => ?_; case hv => (simp only [↓nrmL, nrmZ, Nat.reduceEqDiff, ↓reduceIte, hk]; rfl)
   refine WpO.nil (hKF _ _ ?_)
   refine Wp.cond (b := false) rfl ?_
   refine Wp.skip ?_
   refine rg fun KF hKF => ?_
   refine Fo.bin rfl rfl rfl rfl ?_
   refine mI rfl ?_
   refine WpO.nil (hKF _ _ ?_)
   dsimp only [cond_true, cond_false]
   refine ⟨1, by omega, ⟨by simp only [↓nrmL, nrmZ, Nat.reduceEqDiff, ↓reduceIte]; rw [hw1], trivial⟩, by omega, fun _ => hk, Ext0.ext⟩
  ·skip
   try simp only [↓nrmL, nrmZ, Nat.reduceEqDiff, ↓reduceIte, hk]
   refine Fo.pcall (v' := ?_) hn rfl (by simp only [↓nrmL, nrmZ, Nat.reduceEqDiff, ↓reduceIte, hk, List.map]; rfl) rfl ?hv fun _ _ => ?_; case hv => (simp only [↓nrmL, nrmZ, Nat.reduceEqDiff, ↓reduceIte, hk]; rfl)
   refine WpO.nil (hKF _ _ ?_)
   refine Wp.cond (b := true) rfl ?_
   refine sq ?_
   refine rg fun KF hKF => ?_
   refine mI rfl ?_
   refine mI rfl ?_
   refine WpO.nil (hKF _ _ ?_)
   refine Wp.ret ?_
   dsimp only [cond_true, cond_false]
   refine ⟨trivial, _, rfl, ?_⟩
   exact ⟨by rw [hk]; rfl, Ext0.ext⟩
 ·obtain rfl : i = 0 := by omega
  have hc : decide (((0 + 1 : Nat) : Int) < ((1 : Nat) : Int)) = false := rfl
  have hk := h1 (by omega)
  try simp only [↓nrmL, nrmZ, Nat.reduceEqDiff, ↓reduceIte, hc]
  refine sq ?_
  refine rg fun KF hKF => ?_
  refine Fo.bin rfl rfl rfl (by simp only [↓nrmL, nrmZ, Nat.reduceEqDiff, ↓reduceIte, hc]; rfl) ?_
  refine WpO.nil (hKF _ _ ?_)
  refine sq ?_
  refine Wp.cond (b := false) rfl ?_
  refine Wp.exit ?_
  refine sq ?_
  refine rg fun KF hKF => ?_
  refine mI rfl ?_
  refine WpO.nil (hKF _ _ ?_)
  refine Wp.ret ?_
  dsimp only [cond_true, cond_false]
  refine ⟨trivial, _, rfl, ?_⟩
  exact ⟨by rw [hk]; rfl, Ext0.ext⟩⟩
instance K_cff1 {s p : AVal} {H : AHeap} {w h : Int} {sz k : Nat} {cs : List AVal} [hp : SliceAt H p sz k cs] [hs : SliceAt H s 3 1 [.int .i64 w, .int .i64 h, p]] : PureCon ext prog 85 [s, .func (.func 86) [] []] H 3 (.bool (decide ((k : Int) > 4000))) := ⟨by
 refine con_of (show prog 85 = some c85 from rfl) rfl rfl fun n hn => ?_
 haveI := hs.one
 refine sq ?_
 refine rg fun KF hKF => ?_
 refine mB rfl ?_
 refine WpO.nil (hKF _ _ ?_)
 refine sq ?_
 refine rg fun KF hKF => ?_
 refine Fo.mov (by simp only [↓nrmL, nrmK, Nat.reduceEqDiff, ↓reduceIte]; rfl) ?_
 refine mF rfl ?_
 refine Fo.pcall (v' := ?_) hn rfl (by simp only [↓nrmL, nrmZ, Nat.reduceEqDiff, ↓reduceIte, List.map]; rfl) rfl ?hv fun _ _ => ?_; case hv => rfl
 refine Fo.bin rfl rfl rfl rfl ?_
 refine mB rfl ?_
 refine WpO.nil (hKF _ _ ?_)
 refine Wp.ret ?_
 dsimp only [cond_true, cond_false]
 refine ⟨trivial, _, rfl, ?_⟩
 refine ⟨?_, Ext0.ext⟩
 cases decide ((k : Int) > 4000) <;> rfl⟩
instance K_Few1 {s p : AVal} {H : AHeap} {w h : Int} {sz k : Nat} {cs : List AVal} [hp : SliceAt H p sz k cs] [hs : SliceAt H s 3 1 [.int .i64 w, .int .i64 h, p]] : PureCon ext prog 14 [s] H 4 (.bool (!(decide ((k : Int) > 4000)))) := ⟨by
 refine con_of (show prog 14 = some c14 from rfl) rfl rfl fun n hn => ?_
 haveI := hs.one
 refine sq ?_
 refine rg fun KF hKF => ?_
 refine mB rfl ?_
 refine WpO.nil (hKF _ _ ?_)
 refine sq ?_
 refine rg fun KF hKF => ?_
 refine Fo.mov (by simp only [↓nrmL, nrmK, Nat.reduceEqDiff, ↓reduceIte]; rfl) ?_
 refine Fo.pcall (v' := ?_) hn rfl (by simp only [↓nrmL, nrmZ, Nat.reduceEqDiff, ↓reduceIte, List.map]; rfl) rfl ?hv fun _ _ => ?_; case hv => rfl
 refine Fo.now rfl rfl rfl ?_
 refine mB rfl ?_
 refine WpO.nil (hKF _ _ ?_)
 refine Wp.ret ?_
 dsimp only [cond_true, cond_false]
 refine ⟨trivial, _, rfl, ?_⟩
 exact ⟨rfl, Ext0.ext⟩⟩
theorem eq4s {a b c d : Int} : aEq (.fields [some (0, 0, .int), some (1, 0, .int), some (2, 0, .int), some (3, 0, .int)]) (.agg [.int .i64 a, .int .i64 b, .int .i64 c, .int .i64 d]) (.agg [.int .i64 a, .int .i64 b, .int .i64 c, .int .i64 d]) = some true := by
 rw [eq4]; simp
theorem upd_eta {fr : AFrame} {t : Nat} {v : AVal} (h : fr t = v) : upd fr t v = fr := by
 funext s
 unfold upd
 cases e : Nat.beq s t
 ·rfl
 ·rw [Nat.eq_of_beq_eq_true e, h]; rfl
theorem eta5 {P : AFrame → Prop} {fr : AFrame} {a b c d e : AVal} (h1 : fr 1 = a) (h2 : fr 2 = b) (h3 : fr 3 = c) (h4 : fr 4 = d) (h5 : fr 51 = e) (h : ∀ g, P (upd (upd (upd (upd (upd g 1 a) 2 b) 3 c) 4 d) 51 e)) : P fr := by
 have := h fr
 rw [upd_eta h1, upd_eta h2, upd_eta h3, upd_eta h4, upd_eta h5] at this
 exact this
theorem fromSpec_len {w h : Int} {l : List RunT} {x y : Int} {L C : Nat → Nat} : (fromSpec w h l x y L C).1.px.length ≤ 999999 := by
 unfold fromSpec
 cases hs : (sideB w && sideB h)
 ·simp [Img.zero]
 ·cases properB l x y
  ·simp [Img.zero]
  ·simp only [sideB, Bool.and_eq_true, decide_eq_true_eq] at hs
   have : w.toNat * h.toNat ≤ 640 * 640 := Nat.mul_le_mul (by omega) (by omega)
   simp only [cond_true, paint, List.length_map, List.length_range]
   omega
theorem K_ImageRuns {w h w1 h1 : Int} {p q : AVal} {H : AHeap} {l0 : List UInt8} {l : List RunT} [hp : BytesI H p l0] [hq : RunsI H q l] [ht : Tabs H] : Con ext prog 9 6 [.agg [.int .i64 w, .int .i64 h, p], .int .i64 w1, .int .i64 h1, q] H fun v H' => v = .bool true ∧ Ext H H' := by
 refine con_of (show prog 6 = some c6 from rfl) rfl rfl fun n hn => ?_
 haveI := hp.one
 haveI := hq.one
 have hral : (rowsImg w1 h1 l).1.px.length ≤ 999999 := fromSpec_len
 have hcal : (colsImg w1 h1 l).1.px.length ≤ 999999 := fromSpec_len
 by_cases hb : l0.length ≤ 4000 ∧ l.length ≤ 400
 rotate_left
 ·cases c1 : decide ((l0.length : Int) > 4000)
  rotate_left
  ·skip
   try simp only [↓nrmL, nrmZ, Nat.reduceEqDiff, ↓reduceIte, Nat.reduceAdd, Int.reduceBEq, Int.reduceBNe, c1]
   refine sq ?_
   refine rg fun KF hKF => ?_
   refine Fo.boxA rfl ?_
   refine mB rfl ?_
   refine WpO.nil (hKF _ _ ?_)
   refine sq ?_
   refine sq ?_
   refine rg fun KF hKF => ?_
   refine Fo.ldN rfl rfl (by simp only [↓nrmL, nrmZ, Nat.reduceEqDiff, ↓reduceIte, Nat.reduceAdd, Int.reduceBEq, Int.reduceBNe, c1]; rfl) ?_
   refine Fo.bslice rfl (by simp only [↓nrmL, nrmZ, Nat.reduceEqDiff, ↓reduceIte, Nat.reduceAdd, Int.reduceBEq, Int.reduceBNe, c1]; rfl) ?_
   refine Fo.pcall (v' := ?_) hn rfl (by simp only [↓nrmL, nrmZ, Nat.reduceEqDiff, ↓reduceIte, Nat.reduceAdd, Int.reduceBEq, Int.reduceBNe, c1, List.map]; rfl) rfl ?hv fun _ _ => ?_; case hv => (simp only [↓nrmL, nrmZ, Nat.reduceEqDiff, ↓reduceIte, Nat.reduceAdd, Int.reduceBEq, Int.reduceBNe, c1]; rfl)
   refine Fo.now rfl rfl (by simp only [↓nrmL, nrmZ, Nat.reduceEqDiff, ↓reduceIte, Nat.reduceAdd, Int.reduceBEq, Int.reduceBNe, c1]; rfl) ?_
   refine mB rfl ?_
   refine Fo.no rfl rfl ?_
   refine Fo.no rfl rfl ?_
   refine Fo.no rfl rfl ?_
   refine tB rfl rfl ?_
   refine mB rfl ?_
   refine Fo.no rfl rfl ?_
   refine Fo.no rfl rfl ?_
   refine Fo.no rfl rfl ?_
   refine Fo.no rfl rfl ?_
   refine Fo.no rfl rfl ?_
   refine Fo.noU rfl ?_
   refine Fo.noU rfl ?_
   refine Fo.noU rfl ?_
   refine Fo.noU rfl ?_
   refine Fo.no rfl rfl ?_
   refine tB rfl rfl ?_
   refine WpO.nil (hKF _ _ ?_)
   refine Wp.cond (b := true) rfl ?_
   refine sq ?_
   refine rg fun KF hKF => ?_
   refine Fo.pcall (v' := ?_) hn rfl (by simp only [↓nrmL, nrmZ, Nat.reduceEqDiff, ↓reduceIte, Nat.reduceAdd, Int.reduceBEq, Int.reduceBNe, c1, List.map]; rfl) rfl ?hv fun _ _ => ?_; case hv => rfl
   refine mB rfl ?_
   refine WpO.nil (hKF _ _ ?_)
   refine Wp.ret ?_
   dsimp only [cond_true, cond_false]
   refine ⟨trivial, _, rfl, ?_⟩
   exact ⟨rfl, Ext0.ext⟩
  cases c2 : decide ((l.length : Int) > 400)
  rotate_left
  ·skip
   try simp only [↓nrmL, nrmZ, Nat.reduceEqDiff, ↓reduceIte, Nat.reduceAdd, Int.reduceBEq, Int.reduceBNe, c1, c2]
   refine sq ?_
   refine rg fun KF hKF => ?_
   refine Fo.boxA rfl ?_
   refine mB rfl ?_
   refine WpO.nil (hKF _ _ ?_)
   refine sq ?_
   refine sq ?_
   refine rg fun KF hKF => ?_
   refine Fo.ldN rfl rfl (by simp only [↓nrmL, nrmZ, Nat.reduceEqDiff, ↓reduceIte, Nat.reduceAdd, Int.reduceBEq, Int.reduceBNe, c1, c2]; rfl) ?_
   refine Fo.bslice rfl (by simp only [↓nrmL, nrmZ, Nat.reduceEqDiff, ↓reduceIte, Nat.reduceAdd, Int.reduceBEq, Int.reduceBNe, c1, c2]; rfl) ?_
   refine Fo.pcall (v' := ?_) hn rfl (by simp only [↓nrmL, nrmZ, Nat.reduceEqDiff, ↓reduceIte, Nat.reduceAdd, Int.reduceBEq, Int.reduceBNe, c1, c2, List.map]; rfl) rfl ?hv fun _ _ => ?_; case hv => (simp only [↓nrmL, nrmZ, Nat.reduceEqDiff, ↓reduceIte, Nat.reduceAdd, Int.reduceBEq, Int.reduceBNe, c1, c2]; rfl)
   refine Fo.now rfl rfl (by simp only [↓nrmL, nrmZ, Nat.reduceEqDiff, ↓reduceIte, Nat.reduceAdd, Int.reduceBEq, Int.reduceBNe, c1, c2]; rfl) ?_
   refine mB rfl ?_
   refine Fo.yes rfl rfl ?_
   refine Fo.mov (by simp only [↓nrmL, nrmK, Nat.reduceEqDiff, ↓reduceIte]; rfl) ?_
   refine Fo.yes rfl rfl ?_
   refine Fo.len (v := ?_) (by simp only [↓nrmL, nrmK, Nat.reduceEqDiff, ↓reduceIte]; rfl) ?hv ?_; case hv => rfl
   refine Fo.yes rfl rfl ?_
   refine Fo.bin rfl rfl rfl (by simp only [↓nrmL, nrmZ, Nat.reduceEqDiff, ↓reduceIte, Nat.reduceAdd, Int.reduceBEq, Int.reduceBNe, c1, c2]; rfl) ?_
   refine fB rfl rfl ?_
   refine mB rfl ?_
   refine Fo.no rfl rfl ?_
   refine Fo.no rfl rfl ?_
   refine Fo.no rfl rfl ?_
   refine Fo.no rfl rfl ?_
   refine Fo.no rfl rfl ?_
   refine Fo.noU rfl ?_
   refine Fo.noU rfl ?_
   refine Fo.noU rfl ?_
   refine Fo.noU rfl ?_
   refine Fo.no rfl rfl ?_
   refine tB rfl rfl ?_
   refine WpO.nil (hKF _ _ ?_)
   refine Wp.cond (b := true) rfl ?_
   refine sq ?_
   refine rg fun KF hKF => ?_
   refine Fo.pcall (v' := ?_) hn rfl (by simp only [↓nrmL, nrmZ, Nat.reduceEqDiff, ↓reduceIte, Nat.reduceAdd, Int.reduceBEq, Int.reduceBNe, c1, c2, List.map]; rfl) rfl ?hv fun _ _ => ?_; case hv => rfl
   refine mB rfl ?_
   refine WpO.nil (hKF _ _ ?_)
   refine Wp.ret ?_
   dsimp only [cond_true, cond_false]
   refine ⟨trivial, _, rfl, ?_⟩
   exact ⟨rfl, Ext0.ext⟩
  ·exact absurd ⟨by have := of_decide_eq_false c1; omega, by have := of_decide_eq_false c2; omega⟩ hb
 have hl0 := hb.1
 have hl1 := hb.2
 have c1 : decide ((l0.length : Int) > 4000) = false := decide_eq_false (by omega)
 have c2 : decide ((l.length : Int) > 400) = false := decide_eq_false (by omega)
 haveI : ShortR l := ⟨by omega⟩
 haveI : Short l := ⟨by omega⟩
 haveI : Short l0 := ⟨by omega⟩
 refine sq ?_
 refine rg fun KF hKF => ?_
 refine Fo.boxA rfl ?_
 refine mB rfl ?_
 refine WpO.nil (hKF _ _ ?_)
 refine sq ?_
 refine sq ?_
 refine rg fun KF hKF => ?_
 refine Fo.ldN rfl rfl (by simp only [↓nrmL, nrmZ, Nat.reduceEqDiff, ↓reduceIte, Nat.reduceAdd, Int.reduceBEq, Int.reduceBNe]; rfl) ?_
 refine Fo.bslice rfl (by simp only [↓nrmL, nrmZ, Nat.reduceEqDiff, ↓reduceIte, Nat.reduceAdd, Int.reduceBEq, Int.reduceBNe]; rfl) ?_
 refine Fo.pcall (v' := ?_) hn rfl (by simp only [↓nrmL, nrmZ, Nat.reduceEqDiff, ↓reduceIte, Nat.reduceAdd, Int.reduceBEq, Int.reduceBNe, List.map]; rfl) rfl ?hv fun _ _ => ?_; case hv => rfl
 refine Fo.now rfl rfl rfl ?_
 refine mB rfl ?_
 rename AHeap => HH
 have hK2 : ∀ g : AFrame, KF (upd (upd (upd (upd (upd g 1 (.int .i64 w1)) 2 (.int .i64 h1)) 3 q) 4 (.ptr H.n 0)) 51 (.bool false)) HH := by
  intro g
  refine hKF _ _ ?_
  cases h0 : (Img.err ⟨w, h, l0⟩ == 0)
  ·have er : rowsSpec ⟨w, h, l0⟩ = ([], Img.err ⟨w, h, l0⟩) := by simp [rowsSpec, h0]
   have ec : colsSpec ⟨w, h, l0⟩ = ([], Img.err ⟨w, h, l0⟩) := by simp [colsSpec, h0]
   refine Wp.cond (b := false) rfl ?_
   refine Wp.skip ?_
   refine sq ?_
   refine rg fun KF hKF => ?_
   refine Fo.ldN rfl rfl (by simp only [↓nrmL, nrmZ, Nat.reduceEqDiff, ↓reduceIte, Nat.reduceAdd, Int.reduceBEq, Int.reduceBNe]; rfl) ?_
   refine WpO.do (WpX.conD hn rfl rfl (by simp only [↓nrmL, nrmZ, Nat.reduceEqDiff, ↓reduceIte, Nat.reduceAdd, Int.reduceBEq, Int.reduceBNe, List.map] <;> rfl) (K_CopyInk (l := l0) (by omega)) fun v H1 h5 => ?_)
   obtain ⟨a0, e1, ha, hfa, hwa, hxa⟩ := h5
   subst e1
   have ha : BytesI H1 a0 l0 := ha
   haveI : ExtI _ H1 := ⟨hxa⟩
   haveI := ha.one
   refine Fo.mov (by simp only [↓nrmL, nrmK, Nat.reduceEqDiff, ↓reduceIte]; rfl) ?_
   dsimp only [cond_true, cond_false]
   refine WpO.do (WpX.conD hn rfl rfl (by simp only [↓nrmL, nrmZ, Nat.reduceEqDiff, ↓reduceIte, Nat.reduceAdd, Int.reduceBEq, Int.reduceBNe, List.map] <;> rfl) (K_CloneRuns (l := l) (by omega)) fun v H2 h5 => ?_)
   obtain ⟨ho, hfo, hxo⟩ := h5
   haveI : ExtI _ H2 := ⟨hxo⟩
   haveI := ho.one
   rename AVal => own
   refine Fo.new ?_
   refine Fo.st rfl (rfl : _ = AVal.agg _) rfl rfl rfl (by repeat (first | rfl | refine allOne_cons ?_)) (by simp only [↓nrmL, nrmZ, Nat.reduceEqDiff, ↓reduceIte, Nat.reduceAdd, Int.reduceBEq, Int.reduceBNe]; rfl) ?_
   refine Fo.mov (by simp only [↓nrmL, nrmK, Nat.reduceEqDiff, ↓reduceIte]; rfl) ?_
   refine WpO.nil (hKF _ _ ?_)
   refine sq ?_
   refine rg fun KF hKF => ?_
   refine Fo.ldN rfl rfl (by simp only [↓nrmL, nrmZ, Nat.reduceEqDiff, ↓reduceIte, Nat.reduceAdd, Int.reduceBEq, Int.reduceBNe]; rfl) ?_
   refine Fo.pcall (v' := ?_) hn rfl (by simp only [↓nrmL, nrmZ, Nat.reduceEqDiff, ↓reduceIte, Nat.reduceAdd, Int.reduceBEq, Int.reduceBNe, List.map]; rfl) rfl ?hv fun _ _ => ?_; case hv => rfl
   refine mI rfl ?_
   refine WpO.nil (hKF _ _ ?_)
   refine sq ?_
   refine rg fun KF hKF => ?_
   refine Fo.ldN rfl rfl (by simp only [↓nrmL, nrmZ, Nat.reduceEqDiff, ↓reduceIte, Nat.reduceAdd, Int.reduceBEq, Int.reduceBNe]; rfl) ?_
   refine WpO.do (WpX.conD hn rfl rfl (by simp only [↓nrmL, nrmZ, Nat.reduceEqDiff, ↓reduceIte, Nat.reduceAdd, Int.reduceBEq, Int.reduceBNe, List.map] <;> rfl) (K_BoxE h0) fun v H3 h5 => ?_)
   obtain ⟨e1, hx3⟩ := h5
   subst e1
   haveI : ExtI _ H3 := ⟨hx3⟩
   refine mT rfl ?_
   refine Fo.extr rfl rfl ?_
   refine Fo.extr rfl rfl ?_
   refine Fo.new ?_
   refine Fo.st rfl (rfl : _ = AVal.agg _) rfl rfl rfl (by repeat (first | rfl | refine allOne_cons ?_)) (by simp only [↓nrmL, nrmZ, Nat.reduceEqDiff, ↓reduceIte, Nat.reduceAdd, Int.reduceBEq, Int.reduceBNe]; rfl) ?_
   refine mI rfl ?_
   refine WpO.nil (hKF _ _ ?_)
   refine sq ?_
   refine rg fun KF hKF => ?_
   refine Fo.ldN rfl rfl (by simp only [↓nrmL, nrmZ, Nat.reduceEqDiff, ↓reduceIte, Nat.reduceAdd, Int.reduceBEq, Int.reduceBNe]; rfl) ?_
   refine WpO.do (WpX.conD hn rfl rfl (by simp only [↓nrmL, nrmZ, Nat.reduceEqDiff, ↓reduceIte, Nat.reduceAdd, Int.reduceBEq, Int.reduceBNe, List.map] <;> rfl) (K_Rows (l := l0)) fun v H4 h5 => ?_)
   rw [er] at h5
   obtain ⟨rw, e1, hr, hfr, hxr⟩ := h5
   subst e1
   haveI : ExtI _ H4 := ⟨hxr⟩
   haveI := hr.sl.one
   haveI : RunsI H4 rw [] := hr.sl
   refine mT rfl ?_
   refine Fo.extr rfl rfl ?_
   refine Fo.extr rfl rfl ?_
   refine Fo.mov (by simp only [↓nrmL, nrmK, Nat.reduceEqDiff, ↓reduceIte]; rfl) ?_
   refine mI rfl ?_
   refine WpO.nil (hKF _ _ ?_)
   refine sq ?_
   refine rg fun KF hKF => ?_
   refine Fo.ldN rfl rfl (by simp only [↓nrmL, nrmZ, Nat.reduceEqDiff, ↓reduceIte, Nat.reduceAdd, Int.reduceBEq, Int.reduceBNe]; rfl) ?_
   dsimp only [cond_true, cond_false]
   refine WpO.do (WpX.conD hn rfl rfl (by simp only [↓nrmL, nrmZ, Nat.reduceEqDiff, ↓reduceIte, Nat.reduceAdd, Int.reduceBEq, Int.reduceBNe, List.map] <;> rfl) (K_Columns (l := l0)) fun v H5 h5 => ?_)
   rw [ec] at h5
   obtain ⟨cl, e1, hc, hfc, hxc⟩ := h5
   subst e1
   haveI : ExtI _ H5 := ⟨hxc⟩
   haveI := hc.sl.one
   haveI : RunsI H5 cl [] := hc.sl
   refine mT rfl ?_
   refine Fo.extr rfl rfl ?_
   refine Fo.extr rfl rfl ?_
   refine Fo.mov (by simp only [↓nrmL, nrmK, Nat.reduceEqDiff, ↓reduceIte]; rfl) ?_
   refine mI rfl ?_
   refine WpO.nil (hKF _ _ ?_)
   refine sq ?_
   refine rg fun KF hKF => ?_
   refine Fo.ldN rfl rfl (by simp only [↓nrmL, nrmZ, Nat.reduceEqDiff, ↓reduceIte, Nat.reduceAdd, Int.reduceBEq, Int.reduceBNe]; rfl) ?_
   dsimp only [cond_true, cond_false]
   refine WpO.do (WpX.conD hn rfl rfl (by simp only [↓nrmL, nrmZ, Nat.reduceEqDiff, ↓reduceIte, Nat.reduceAdd, Int.reduceBEq, Int.reduceBNe, List.map] <;> rfl) (K_ProfileE h0) fun v H5b h5 => ?_)
   obtain ⟨e1, hx5⟩ := h5
   subst e1
   haveI : ExtI _ H5b := ⟨hx5⟩
   try simp only [↓nrmL, nrmZ, Nat.reduceEqDiff, ↓reduceIte, Nat.reduceAdd, Int.reduceBEq, Int.reduceBNe, h0, bne_self_eq_false]
   refine mT rfl ?_
   refine Fo.extr rfl rfl ?_
   refine Fo.extr rfl rfl ?_
   refine Fo.extr rfl rfl ?_
   refine mN rfl ?_
   refine mN rfl ?_
   refine mI rfl ?_
   refine WpO.nil (hKF _ _ ?_)
   refine sq ?_
   refine sq ?_
   refine rg fun KF hKF => ?_
   refine mI rfl ?_
   refine mI rfl ?_
   refine Fo.bin rfl rfl rfl (by simp only [↓nrmL, nrmZ, Nat.reduceEqDiff, ↓reduceIte, Nat.reduceAdd, Int.reduceBEq, Int.reduceBNe, h0, bne_self_eq_false]; rfl) ?_
   refine mB rfl ?_
   refine Fo.yes rfl rfl ?_
   refine mI rfl ?_
   refine Fo.yes rfl rfl ?_
   refine mI rfl ?_
   refine Fo.yes rfl rfl ?_
   refine Fo.bin rfl rfl rfl (by simp only [↓nrmL, nrmZ, Nat.reduceEqDiff, ↓reduceIte, Nat.reduceAdd, Int.reduceBEq, Int.reduceBNe, h0, bne_self_eq_false]; rfl) ?_
   refine fB rfl rfl ?_
   refine mB rfl ?_
   refine Fo.yes rfl rfl ?_
   refine mI rfl ?_
   refine Fo.yes rfl rfl ?_
   refine mI rfl ?_
   refine Fo.yes rfl rfl ?_
   refine Fo.bin rfl rfl rfl (by simp only [↓nrmL, nrmZ, Nat.reduceEqDiff, ↓reduceIte, Nat.reduceAdd, Int.reduceBEq, Int.reduceBNe, h0, bne_self_eq_false]; rfl) ?_
   refine fB rfl rfl ?_
   refine mB rfl ?_
   refine Fo.yes rfl rfl ?_
   refine mI rfl ?_
   refine Fo.yes rfl rfl ?_
   refine mI rfl ?_
   refine Fo.yes rfl rfl ?_
   refine Fo.bin rfl rfl rfl (by simp only [↓nrmL, nrmZ, Nat.reduceEqDiff, ↓reduceIte, Nat.reduceAdd, Int.reduceBEq, Int.reduceBNe, h0, bne_self_eq_false]; rfl) ?_
   refine fB rfl rfl ?_
   refine WpO.nil (hKF _ _ ?_)
   refine Wp.cond (b := false) rfl ?_
   refine Wp.skip ?_
   refine sq ?_
   refine sq ?_
   refine rg fun KF hKF => ?_
   refine mI rfl ?_
   refine Fo.bin rfl rfl rfl (by simp only [↓nrmL, nrmZ, Nat.reduceEqDiff, ↓reduceIte, Nat.reduceAdd, Int.reduceBEq, Int.reduceBNe, h0, bne_self_eq_false]; rfl) ?_
   refine WpO.nil (hKF _ _ ?_)
   refine Wp.cond (b := false) rfl ?_
   refine sq ?_
   refine rg fun KF hKF => ?_
   refine Fo.ldN rfl rfl (by simp only [↓nrmL, nrmZ, Nat.reduceEqDiff, ↓reduceIte, Nat.reduceAdd, Int.reduceBEq, Int.reduceBNe, h0, bne_self_eq_false]; rfl) ?_
   refine Fo.build (by repeat (first | refine aFill1 (by first | exact (rfl : _ = AVal.int _ _) | exact (rfl : _ = AVal.ptr _ _) | exact (rfl : _ = AVal.bool _) | exact (rfl : _ = AVal.agg _) | exact (rfl : _ = AVal.tuple _) | exact (rfl : _ = AVal.func _ _ _) | exact (rfl : _ = AVal.nslice) | ((try simp only [↓nrmL, nrmK, Nat.reduceEqDiff, ↓reduceIte]); rfl)) rfl ?_ | rfl)) rfl ?_
   refine Fo.now rfl rfl (by simp only [↓nrmL, nrmZ, Nat.reduceEqDiff, ↓reduceIte, Nat.reduceAdd, Int.reduceBEq, Int.reduceBNe, h0, bne_self_eq_false]; rfl) ?_
   refine mB rfl ?_
   refine Fo.yes rfl rfl ?_
   refine Fo.mov (by simp only [↓nrmL, nrmK, Nat.reduceEqDiff, ↓reduceIte]; rfl) ?_
   refine Fo.yes rfl rfl ?_
   refine Fo.len (v := ?_) (by simp only [↓nrmL, nrmK, Nat.reduceEqDiff, ↓reduceIte]; rfl) ?hv ?_; case hv => rfl
   refine Fo.yes rfl rfl ?_
   refine Fo.mov (by simp only [↓nrmL, nrmK, Nat.reduceEqDiff, ↓reduceIte]; rfl) ?_
   refine Fo.yes rfl rfl ?_
   refine Fo.len (v := ?_) (by simp only [↓nrmL, nrmK, Nat.reduceEqDiff, ↓reduceIte]; rfl) ?hv ?_; case hv => rfl
   refine Fo.yes rfl rfl ?_
   refine Fo.bin rfl rfl rfl rfl ?_
   refine Fo.yes rfl rfl ?_
   refine mN rfl ?_
   refine Fo.yes rfl rfl ?_
   refine Fo.len (v := ?_) (rfl : _ = AVal.nslice) ?hv ?_; case hv => rfl
   refine Fo.yes rfl rfl ?_
   refine Fo.bin rfl rfl rfl rfl ?_
   refine Fo.yes rfl rfl ?_
   refine mN rfl ?_
   refine Fo.yes rfl rfl ?_
   refine Fo.len (v := ?_) (rfl : _ = AVal.nslice) ?hv ?_; case hv => rfl
   refine Fo.yes rfl rfl ?_
   refine Fo.bin rfl rfl rfl rfl ?_
   refine Fo.yes rfl rfl ?_
   refine Fo.bin rfl rfl rfl rfl ?_
   refine fB rfl rfl ?_
   refine WpO.nil (hKF _ _ ?_)
   refine Wp.cond (b := false) rfl ?_
   refine Wp.skip ?_
   refine sq ?_
   refine rg fun KF hKF => ?_
   refine mI rfl ?_
   refine mI rfl ?_
   refine Fo.mov (by simp only [↓nrmL, nrmK, Nat.reduceEqDiff, ↓reduceIte]; rfl) ?_
   refine WpO.do (WpX.conD hn rfl rfl (by simp only [↓nrmL, nrmZ, Nat.reduceEqDiff, ↓reduceIte, Nat.reduceAdd, Int.reduceBEq, Int.reduceBNe, List.map] <;> rfl) (K_FromRows (w := w1) (h := h1) (l := l)) fun v H6 h5 => ?_)
   obtain ⟨_, e1, x1, e2, hx1, _, _, hxx1⟩ := h5
   subst e1 e2
   haveI : ExtI _ H6 := ⟨hxx1⟩
   haveI := hx1.one
   refine mT rfl ?_
   refine Fo.extr rfl rfl ?_
   refine Fo.extr rfl rfl ?_
   refine Fo.new ?_
   refine Fo.st rfl (rfl : _ = AVal.agg _) rfl rfl rfl (by repeat (first | rfl | refine allOne_cons ?_)) (by simp only [↓nrmL, nrmZ, Nat.reduceEqDiff, ↓reduceIte, Nat.reduceAdd, Int.reduceBEq, Int.reduceBNe]; rfl) ?_
   refine mI rfl ?_
   refine WpO.nil (hKF _ _ ?_)
   refine sq ?_
   refine rg fun KF hKF => ?_
   refine mI rfl ?_
   refine mI rfl ?_
   refine Fo.mov (by simp only [↓nrmL, nrmK, Nat.reduceEqDiff, ↓reduceIte]; rfl) ?_
   refine WpO.do (WpX.conD hn rfl rfl (by simp only [↓nrmL, nrmZ, Nat.reduceEqDiff, ↓reduceIte, Nat.reduceAdd, Int.reduceBEq, Int.reduceBNe, List.map] <;> rfl) (K_refFromRows (w := w1) (h := h1) (l := l)) fun v H7 h5 => ?_)
   obtain ⟨_, e1, y1, e2, hy1, _, _, hyy1⟩ := h5
   subst e1 e2
   haveI : ExtI _ H7 := ⟨hyy1⟩
   haveI := hy1.one
   refine mT rfl ?_
   refine Fo.extr rfl rfl ?_
   refine Fo.extr rfl rfl ?_
   refine Fo.new ?_
   refine Fo.st rfl (rfl : _ = AVal.agg _) rfl rfl rfl (by repeat (first | rfl | refine allOne_cons ?_)) (by simp only [↓nrmL, nrmZ, Nat.reduceEqDiff, ↓reduceIte, Nat.reduceAdd, Int.reduceBEq, Int.reduceBNe]; rfl) ?_
   refine mI rfl ?_
   refine WpO.nil (hKF _ _ ?_)
   refine sq ?_
   refine rg fun KF hKF => ?_
   refine mI rfl ?_
   refine mI rfl ?_
   refine Fo.mov (by simp only [↓nrmL, nrmK, Nat.reduceEqDiff, ↓reduceIte]; rfl) ?_
   refine WpO.do (WpX.conD hn rfl rfl (by simp only [↓nrmL, nrmZ, Nat.reduceEqDiff, ↓reduceIte, Nat.reduceAdd, Int.reduceBEq, Int.reduceBNe, List.map] <;> rfl) (K_FromColumns (w := w1) (h := h1) (l := l)) fun v H8 h5 => ?_)
   obtain ⟨_, e1, x2, e2, hx2, _, _, hxx2⟩ := h5
   subst e1 e2
   haveI : ExtI _ H8 := ⟨hxx2⟩
   haveI := hx2.one
   refine mT rfl ?_
   refine Fo.extr rfl rfl ?_
   refine Fo.extr rfl rfl ?_
   refine Fo.new ?_
   refine Fo.st rfl (rfl : _ = AVal.agg _) rfl rfl rfl (by repeat (first | rfl | refine allOne_cons ?_)) (by simp only [↓nrmL, nrmZ, Nat.reduceEqDiff, ↓reduceIte, Nat.reduceAdd, Int.reduceBEq, Int.reduceBNe]; rfl) ?_
   refine mI rfl ?_
   refine WpO.nil (hKF _ _ ?_)
   refine sq ?_
   refine rg fun KF hKF => ?_
   refine mI rfl ?_
   refine mI rfl ?_
   refine Fo.mov (by simp only [↓nrmL, nrmK, Nat.reduceEqDiff, ↓reduceIte]; rfl) ?_
   refine WpO.do (WpX.conD hn rfl rfl (by simp only [↓nrmL, nrmZ, Nat.reduceEqDiff, ↓reduceIte, Nat.reduceAdd, Int.reduceBEq, Int.reduceBNe, List.map] <;> rfl) (K_refFromColumns (w := w1) (h := h1) (l := l)) fun v H9 h5 => ?_)
   obtain ⟨_, e1, y2, e2, hy2, _, _, hyy2⟩ := h5
   subst e1 e2
   haveI : ExtI _ H9 := ⟨hyy2⟩
   haveI := hy2.one
   generalize rowsImg w1 h1 l = ra at *
   generalize colsImg w1 h1 l = ca at *
   haveI : Short ra.1.px := ⟨hral⟩
   haveI : Short ca.1.px := ⟨hcal⟩
   try simp only [↓nrmL, nrmZ, Nat.reduceEqDiff, ↓reduceIte, Nat.reduceAdd, Int.reduceBEq, Int.reduceBNe, decide_true, beq_self_eq_true, Bool.and_true]
   refine mT rfl ?_
   refine Fo.extr rfl rfl ?_
   refine Fo.extr rfl rfl ?_
   refine Fo.new ?_
   refine Fo.st rfl (rfl : _ = AVal.agg _) rfl rfl rfl (by repeat (first | rfl | refine allOne_cons ?_)) (by simp only [↓nrmL, nrmZ, Nat.reduceEqDiff, ↓reduceIte, Nat.reduceAdd, Int.reduceBEq, Int.reduceBNe, decide_true, beq_self_eq_true, Bool.and_true]; rfl) ?_
   refine mI rfl ?_
   refine WpO.nil (hKF _ _ ?_)
   refine sq ?_
   refine rg fun KF hKF => ?_
   refine Fo.ldN rfl rfl (by simp only [↓nrmL, nrmZ, Nat.reduceEqDiff, ↓reduceIte, Nat.reduceAdd, Int.reduceBEq, Int.reduceBNe, decide_true, beq_self_eq_true, Bool.and_true]; rfl) ?_
   refine mI rfl ?_
   refine Fo.ldN rfl rfl (by simp only [↓nrmL, nrmZ, Nat.reduceEqDiff, ↓reduceIte, Nat.reduceAdd, Int.reduceBEq, Int.reduceBNe, decide_true, beq_self_eq_true, Bool.and_true]; rfl) ?_
   refine mI rfl ?_
   refine Fo.pcall (v' := ?_) hn rfl (by simp only [↓nrmL, nrmZ, Nat.reduceEqDiff, ↓reduceIte, Nat.reduceAdd, Int.reduceBEq, Int.reduceBNe, decide_true, beq_self_eq_true, Bool.and_true, List.map]; rfl) rfl ?hv fun _ _ => ?_; case hv => (simp only [↓nrmL, nrmZ, Nat.reduceEqDiff, ↓reduceIte, Nat.reduceAdd, Int.reduceBEq, Int.reduceBNe, decide_true, beq_self_eq_true, Bool.and_true]; rfl)
   refine mB rfl ?_
   refine Fo.yes rfl rfl ?_
   refine Fo.ldN rfl rfl (by simp only [↓nrmL, nrmZ, Nat.reduceEqDiff, ↓reduceIte, Nat.reduceAdd, Int.reduceBEq, Int.reduceBNe, decide_true, beq_self_eq_true, Bool.and_true]; rfl) ?_
   refine Fo.yes rfl rfl ?_
   refine mI rfl ?_
   refine Fo.yes rfl rfl ?_
   refine Fo.ldN rfl rfl (by simp only [↓nrmL, nrmZ, Nat.reduceEqDiff, ↓reduceIte, Nat.reduceAdd, Int.reduceBEq, Int.reduceBNe, decide_true, beq_self_eq_true, Bool.and_true]; rfl) ?_
   refine Fo.yes rfl rfl ?_
   refine mI rfl ?_
   refine Fo.yes rfl rfl ?_
   refine Fo.pcall (v' := ?_) hn rfl (by simp only [↓nrmL, nrmZ, Nat.reduceEqDiff, ↓reduceIte, Nat.reduceAdd, Int.reduceBEq, Int.reduceBNe, decide_true, beq_self_eq_true, Bool.and_true, List.map]; rfl) rfl ?hv fun _ _ => ?_; case hv => (simp only [↓nrmL, nrmZ, Nat.reduceEqDiff, ↓reduceIte, Nat.reduceAdd, Int.reduceBEq, Int.reduceBNe, decide_true, beq_self_eq_true, Bool.and_true]; rfl)
   refine tB rfl rfl ?_
   refine mB rfl ?_
   refine Fo.yes rfl rfl ?_
   refine Fo.ldN rfl rfl (by simp only [↓nrmL, nrmZ, Nat.reduceEqDiff, ↓reduceIte, Nat.reduceAdd, Int.reduceBEq, Int.reduceBNe, decide_true, beq_self_eq_true, Bool.and_true]; rfl) ?_
   refine Fo.yes rfl rfl ?_
   refine Fo.ldN rfl rfl (by simp only [↓nrmL, nrmZ, Nat.reduceEqDiff, ↓reduceIte, Nat.reduceAdd, Int.reduceBEq, Int.reduceBNe, decide_true, beq_self_eq_true, Bool.and_true]; rfl) ?_
   refine Fo.yes rfl rfl ?_
   refine Fo.pcall (v' := ?_) hn rfl (by simp only [↓nrmL, nrmZ, Nat.reduceEqDiff, ↓reduceIte, Nat.reduceAdd, Int.reduceBEq, Int.reduceBNe, decide_true, beq_self_eq_true, Bool.and_true, List.map]; rfl) rfl ?hv fun _ _ => ?_; case hv => (simp only [↓nrmL, nrmZ, Nat.reduceEqDiff, ↓reduceIte, Nat.reduceAdd, Int.reduceBEq, Int.reduceBNe, decide_true, beq_self_eq_true, Bool.and_true]; rfl)
   refine tB rfl rfl ?_
   refine mB rfl ?_
   refine Fo.yes rfl rfl ?_
   refine Fo.mov (by simp only [↓nrmL, nrmK, Nat.reduceEqDiff, ↓reduceIte]; rfl) ?_
   refine Fo.yes rfl rfl ?_
   refine Fo.mov (by simp only [↓nrmL, nrmK, Nat.reduceEqDiff, ↓reduceIte]; rfl) ?_
   refine Fo.yes rfl rfl ?_
   refine Fo.pcall (v' := ?_) hn rfl (by simp only [↓nrmL, nrmZ, Nat.reduceEqDiff, ↓reduceIte, Nat.reduceAdd, Int.reduceBEq, Int.reduceBNe, decide_true, beq_self_eq_true, Bool.and_true, List.map]; rfl) rfl ?hv fun _ _ => ?_; case hv => (simp only [↓nrmL, nrmZ, Nat.reduceEqDiff, ↓reduceIte, Nat.reduceAdd, Int.reduceBEq, Int.reduceBNe, decide_true, beq_self_eq_true, Bool.and_true]; rfl)
   refine tB rfl rfl ?_
   refine mB rfl ?_
   refine Fo.yes rfl rfl ?_
   refine Fo.pcall (v' := ?_) hn rfl (by simp only [↓nrmL, nrmZ, Nat.reduceEqDiff, ↓reduceIte, Nat.reduceAdd, Int.reduceBEq, Int.reduceBNe, decide_true, beq_self_eq_true, Bool.and_true, List.map]; rfl) rfl ?hv fun _ _ => ?_; case hv => rfl
   refine tB rfl rfl ?_
   refine mB rfl ?_
   refine WpO.nil (hKF _ _ ?_)
   refine Wp.ret ?_
   dsimp only [cond_true, cond_false]
   refine ⟨trivial, _, rfl, ?_⟩
   exact ⟨rfl, Ext0.ext⟩
  obtain ⟨a, b, rfl, rfl, ok⟩ := ok_of h0
  have er : rowsSpec ⟨a, b, l0⟩ = (allR (rowO ⟨a, b, l0⟩) a b, 0) := by simp [rowsSpec, h0]
  have ec : colsSpec ⟨a, b, l0⟩ = (allR (colO ⟨a, b, l0⟩) b a, 0) := by simp [colsSpec, h0]
  have ee := ok.err
  have hwa := ok.wa
  have hhb := ok.hb
  have hm : b * a ≤ 640 * 640 := Nat.mul_le_mul ok.hb ok.wa
  have hm2 : a * b ≤ 640 * 640 := Nat.mul_le_mul ok.wa ok.hb
  have hra := allR_len (rowO ⟨a, b, l0⟩) a b
  have hca := allR_len (colO ⟨a, b, l0⟩) b a
  haveI : Short (allR (rowO ⟨a, b, l0⟩) a b) := ⟨by omega⟩
  haveI : Short (allR (colO ⟨a, b, l0⟩) b a) := ⟨by omega⟩
  haveI : Short (rowsL l0 a b) := ⟨by simp [rowsL]; omega⟩
  haveI : Short (colsL l0 a b) := ⟨by simp [colsL]; omega⟩
  refine Wp.cond (b := false) rfl ?_
  refine Wp.skip ?_
  refine sq ?_
  refine rg fun KF hKF => ?_
  refine Fo.ldN rfl rfl (by simp only [↓nrmL, nrmZ, Nat.reduceEqDiff, ↓reduceIte, Nat.reduceAdd, Int.reduceBEq, Int.reduceBNe]; rfl) ?_
  refine WpO.do (WpX.conD hn rfl rfl (by simp only [↓nrmL, nrmZ, Nat.reduceEqDiff, ↓reduceIte, Nat.reduceAdd, Int.reduceBEq, Int.reduceBNe, List.map] <;> rfl) (K_CopyInk (l := l0) (by omega)) fun v H1 h5 => ?_)
  obtain ⟨a0, e1, ha, hfa, hwa, hxa⟩ := h5
  subst e1
  have ha : BytesI H1 a0 l0 := ha
  haveI : ExtI _ H1 := ⟨hxa⟩
  haveI := ha.one
  refine Fo.mov (by simp only [↓nrmL, nrmK, Nat.reduceEqDiff, ↓reduceIte]; rfl) ?_
  dsimp only [cond_true, cond_false]
  refine WpO.do (WpX.conD hn rfl rfl (by simp only [↓nrmL, nrmZ, Nat.reduceEqDiff, ↓reduceIte, Nat.reduceAdd, Int.reduceBEq, Int.reduceBNe, List.map] <;> rfl) (K_CloneRuns (l := l) (by omega)) fun v H2 h5 => ?_)
  obtain ⟨ho, hfo, hxo⟩ := h5
  haveI : ExtI _ H2 := ⟨hxo⟩
  haveI := ho.one
  rename AVal => own
  refine Fo.new ?_
  refine Fo.st rfl (rfl : _ = AVal.agg _) rfl rfl rfl (by repeat (first | rfl | refine allOne_cons ?_)) (by simp only [↓nrmL, nrmZ, Nat.reduceEqDiff, ↓reduceIte, Nat.reduceAdd, Int.reduceBEq, Int.reduceBNe]; rfl) ?_
  refine Fo.mov (by simp only [↓nrmL, nrmK, Nat.reduceEqDiff, ↓reduceIte]; rfl) ?_
  refine WpO.nil (hKF _ _ ?_)
  refine sq ?_
  refine rg fun KF hKF => ?_
  refine Fo.ldN rfl rfl (by simp only [↓nrmL, nrmZ, Nat.reduceEqDiff, ↓reduceIte, Nat.reduceAdd, Int.reduceBEq, Int.reduceBNe]; rfl) ?_
  refine Fo.pcall (v' := ?_) hn rfl (by simp only [↓nrmL, nrmZ, Nat.reduceEqDiff, ↓reduceIte, Nat.reduceAdd, Int.reduceBEq, Int.reduceBNe, List.map]; rfl) rfl ?hv fun _ _ => ?_; case hv => rfl
  refine mI rfl ?_
  refine WpO.nil (hKF _ _ ?_)
  refine sq ?_
  refine rg fun KF hKF => ?_
  refine Fo.ldN rfl rfl (by simp only [↓nrmL, nrmZ, Nat.reduceEqDiff, ↓reduceIte, Nat.reduceAdd, Int.reduceBEq, Int.reduceBNe]; rfl) ?_
  refine WpO.do (WpX.conD hn rfl rfl (by simp only [↓nrmL, nrmZ, Nat.reduceEqDiff, ↓reduceIte, Nat.reduceAdd, Int.reduceBEq, Int.reduceBNe, List.map] <;> rfl) (K_Box ok) fun v H3 h5 => ?_)
  obtain ⟨e1, hx3⟩ := h5
  subst e1
  haveI : ExtI _ H3 := ⟨hx3⟩
  refine mT rfl ?_
  refine Fo.extr rfl rfl ?_
  refine Fo.extr rfl rfl ?_
  refine Fo.new ?_
  refine Fo.st rfl (rfl : _ = AVal.agg _) rfl rfl rfl (by repeat (first | rfl | refine allOne_cons ?_)) (by simp only [↓nrmL, nrmZ, Nat.reduceEqDiff, ↓reduceIte, Nat.reduceAdd, Int.reduceBEq, Int.reduceBNe]; rfl) ?_
  refine mI rfl ?_
  refine WpO.nil (hKF _ _ ?_)
  refine sq ?_
  refine rg fun KF hKF => ?_
  refine Fo.ldN rfl rfl (by simp only [↓nrmL, nrmZ, Nat.reduceEqDiff, ↓reduceIte, Nat.reduceAdd, Int.reduceBEq, Int.reduceBNe]; rfl) ?_
  refine WpO.do (WpX.conD hn rfl rfl (by simp only [↓nrmL, nrmZ, Nat.reduceEqDiff, ↓reduceIte, Nat.reduceAdd, Int.reduceBEq, Int.reduceBNe, List.map] <;> rfl) (K_Rows (l := l0)) fun v H4 h5 => ?_)
  rw [er] at h5
  obtain ⟨rw, e1, hr, hfr, hxr⟩ := h5
  subst e1
  haveI : ExtI _ H4 := ⟨hxr⟩
  haveI := hr.sl.one
  haveI : RunsI H4 rw (allR (rowO ⟨a, b, l0⟩) a b) := hr.sl
  refine mT rfl ?_
  refine Fo.extr rfl rfl ?_
  refine Fo.extr rfl rfl ?_
  refine Fo.mov (by simp only [↓nrmL, nrmK, Nat.reduceEqDiff, ↓reduceIte]; rfl) ?_
  refine mI rfl ?_
  refine WpO.nil (hKF _ _ ?_)
  refine sq ?_
  refine rg fun KF hKF => ?_
  refine Fo.ldN rfl rfl (by simp only [↓nrmL, nrmZ, Nat.reduceEqDiff, ↓reduceIte, Nat.reduceAdd, Int.reduceBEq, Int.reduceBNe]; rfl) ?_
  dsimp only [cond_true, cond_false]
  refine WpO.do (WpX.conD hn rfl rfl (by simp only [↓nrmL, nrmZ, Nat.reduceEqDiff, ↓reduceIte, Nat.reduceAdd, Int.reduceBEq, Int.reduceBNe, List.map] <;> rfl) (K_Columns (l := l0)) fun v H5 h5 => ?_)
  rw [ec] at h5
  obtain ⟨cl, e1, hc, hfc, hxc⟩ := h5
  subst e1
  haveI : ExtI _ H5 := ⟨hxc⟩
  haveI := hc.sl.one
  haveI : RunsI H5 cl (allR (colO ⟨a, b, l0⟩) b a) := hc.sl
  refine mT rfl ?_
  refine Fo.extr rfl rfl ?_
  refine Fo.extr rfl rfl ?_
  refine Fo.mov (by simp only [↓nrmL, nrmK, Nat.reduceEqDiff, ↓reduceIte]; rfl) ?_
  refine mI rfl ?_
  refine WpO.nil (hKF _ _ ?_)
  refine sq ?_
  refine rg fun KF hKF => ?_
  refine Fo.ldN rfl rfl (by simp only [↓nrmL, nrmZ, Nat.reduceEqDiff, ↓reduceIte, Nat.reduceAdd, Int.reduceBEq, Int.reduceBNe]; rfl) ?_
  dsimp only [cond_true, cond_false]
  refine WpO.do (WpX.conD hn rfl rfl (by simp only [↓nrmL, nrmZ, Nat.reduceEqDiff, ↓reduceIte, Nat.reduceAdd, Int.reduceBEq, Int.reduceBNe, List.map] <;> rfl) (K_Profile ok) fun v H5b h5 => ?_)
  obtain ⟨pr, pc, e1, ⟨hpr, _, _, hx5⟩, ⟨hpc, _, _, _⟩⟩ := h5
  subst e1
  haveI : ExtI _ H5b := ⟨hx5⟩
  haveI := hpr.one
  haveI := hpc.one
  try simp only [↓nrmL, nrmZ, Nat.reduceEqDiff, ↓reduceIte, Nat.reduceAdd, Int.reduceBEq, Int.reduceBNe, ee]
  refine mT rfl ?_
  refine Fo.extr rfl rfl ?_
  refine Fo.extr rfl rfl ?_
  refine Fo.extr rfl rfl ?_
  refine Fo.mov (by simp only [↓nrmL, nrmK, Nat.reduceEqDiff, ↓reduceIte]; rfl) ?_
  refine Fo.mov (by simp only [↓nrmL, nrmK, Nat.reduceEqDiff, ↓reduceIte]; rfl) ?_
  refine mI rfl ?_
  refine WpO.nil (hKF _ _ ?_)
  refine sq ?_
  refine sq ?_
  refine rg fun KF hKF => ?_
  refine mI rfl ?_
  refine mI rfl ?_
  refine Fo.bin rfl rfl rfl (by simp only [↓nrmL, nrmZ, Nat.reduceEqDiff, ↓reduceIte, Nat.reduceAdd, Int.reduceBEq, Int.reduceBNe, ee]; rfl) ?_
  refine mB rfl ?_
  refine Fo.yes rfl rfl ?_
  refine mI rfl ?_
  refine Fo.yes rfl rfl ?_
  refine mI rfl ?_
  refine Fo.yes rfl rfl ?_
  refine Fo.bin rfl rfl rfl (by simp only [↓nrmL, nrmZ, Nat.reduceEqDiff, ↓reduceIte, Nat.reduceAdd, Int.reduceBEq, Int.reduceBNe, ee]; rfl) ?_
  refine fB rfl rfl ?_
  refine mB rfl ?_
  refine Fo.yes rfl rfl ?_
  refine mI rfl ?_
  refine Fo.yes rfl rfl ?_
  refine mI rfl ?_
  refine Fo.yes rfl rfl ?_
  refine Fo.bin rfl rfl rfl (by simp only [↓nrmL, nrmZ, Nat.reduceEqDiff, ↓reduceIte, Nat.reduceAdd, Int.reduceBEq, Int.reduceBNe, ee]; rfl) ?_
  refine fB rfl rfl ?_
  refine mB rfl ?_
  refine Fo.yes rfl rfl ?_
  refine mI rfl ?_
  refine Fo.yes rfl rfl ?_
  refine mI rfl ?_
  refine Fo.yes rfl rfl ?_
  refine Fo.bin rfl rfl rfl (by simp only [↓nrmL, nrmZ, Nat.reduceEqDiff, ↓reduceIte, Nat.reduceAdd, Int.reduceBEq, Int.reduceBNe, ee]; rfl) ?_
  refine fB rfl rfl ?_
  refine WpO.nil (hKF _ _ ?_)
  refine Wp.cond (b := false) rfl ?_
  refine Wp.skip ?_
  refine sq ?_
  refine sq ?_
  refine rg fun KF hKF => ?_
  refine mI rfl ?_
  refine Fo.bin rfl rfl rfl (by simp only [↓nrmL, nrmZ, Nat.reduceEqDiff, ↓reduceIte, Nat.reduceAdd, Int.reduceBEq, Int.reduceBNe, ee]; rfl) ?_
  refine WpO.nil (hKF _ _ ?_)
  refine Wp.cond (b := true) rfl ?_
  refine sq ?_
  refine rg fun KF hKF => ?_
  refine Fo.ldN rfl rfl (by simp only [↓nrmL, nrmZ, Nat.reduceEqDiff, ↓reduceIte, Nat.reduceAdd, Int.reduceBEq, Int.reduceBNe, ee]; rfl) ?_
  refine WpO.do (WpX.conD hn rfl rfl (by simp only [↓nrmL, nrmZ, Nat.reduceEqDiff, ↓reduceIte, Nat.reduceAdd, Int.reduceBEq, Int.reduceBNe, List.map] <;> rfl) (K_refProfile ok) fun v H5c h5 => ?_)
  obtain ⟨qr, qc, e1, ⟨hqr, _, _, hx5c⟩, ⟨hqc, _, _, _⟩⟩ := h5
  subst e1
  haveI : ExtI _ H5c := ⟨hx5c⟩
  haveI := hqr.one
  haveI := hqc.one
  refine mT rfl ?_
  refine Fo.extr rfl rfl ?_
  refine Fo.extr rfl rfl ?_
  refine Fo.mov (by simp only [↓nrmL, nrmK, Nat.reduceEqDiff, ↓reduceIte]; rfl) ?_
  refine Fo.mov (by simp only [↓nrmL, nrmK, Nat.reduceEqDiff, ↓reduceIte]; rfl) ?_
  refine WpO.nil (hKF _ _ ?_)
  refine sq ?_
  refine Fr.dregion0 rfl fun KF hKF => ?_
  refine Fe.read rfl (exec_ldN rfl rfl (by simp only [↓nrmL, nrmZ, Nat.reduceEqDiff, ↓reduceIte, Nat.reduceAdd, Int.reduceBEq, Int.reduceBNe]; rfl)) rfl (by repeat (first | exact trivial | refine ⟨(by first | exact Or.inl (by dsimp only; decide) | exact Or.inr (exec_ld rfl rfl) | exact Or.inr (exec_ldN rfl rfl rfl) | exact Or.inr (exec_ldB rfl (by omega)) | exact Or.inr (exec_ldI rfl (by omega)) | exact Or.inr ghost_of), ?_⟩)) ?_
  refine Fe.read rfl (exec_ldN rfl rfl (by simp only [↓nrmL, nrmZ, Nat.reduceEqDiff, ↓reduceIte, Nat.reduceAdd, Int.reduceBEq, Int.reduceBNe]; rfl)) rfl (by repeat (first | exact trivial | refine ⟨(by first | exact Or.inl (by dsimp only; decide) | exact Or.inr (exec_ld rfl rfl) | exact Or.inr (exec_ldN rfl rfl rfl) | exact Or.inr (exec_ldB rfl (by omega)) | exact Or.inr (exec_ldI rfl (by omega)) | exact Or.inr ghost_of), ?_⟩)) ?_
  refine Fe.con rfl hn rfl rfl (by simp only [↓nrmL, nrmZ, Nat.reduceEqDiff, ↓reduceIte, Nat.reduceAdd, Int.reduceBEq, Int.reduceBNe, List.map] <;> rfl) (K_refBox ok) fun v K1 h5 => ?_
  obtain ⟨e1, hk1⟩ := h5
  subst e1
  haveI : ExtI _ K1 := ⟨hk1⟩
  refine ⟨(by repeat (first | exact trivial | refine ⟨(by first | exact Or.inl (by dsimp only; decide) | exact Or.inr (readOk_of (exec_ld rfl rfl)) | exact Or.inr (readOk_of (exec_ldN rfl rfl rfl)) | exact Or.inr (readOk_of (exec_ldB rfl (by omega))) | exact Or.inr (readOk_of (exec_ldI rfl (by omega))) | exact Or.inr (made_of rfl)), ?_⟩)), ?_⟩
  refine Fe.pure rfl (exec_eqD rfl rfl eq4s rfl) rfl ?_
  refine Fe.pure rfl rfl (by simp only [↓nrmL, nrmZ, Nat.reduceEqDiff, ↓reduceIte, Nat.reduceAdd, Int.reduceBEq, Int.reduceBNe]; rfl) ?_
  refine Fe.pure rfl rfl (by simp only [↓nrmL, nrmZ, Nat.reduceEqDiff, ↓reduceIte, Nat.reduceAdd, Int.reduceBEq, Int.reduceBNe]; rfl) ?_
  refine Fe.read rfl (exec_ldN rfl rfl (by simp only [↓nrmL, nrmZ, Nat.reduceEqDiff, ↓reduceIte, Nat.reduceAdd, Int.reduceBEq, Int.reduceBNe]; rfl)) rfl (by repeat (first | exact trivial | refine ⟨(by first | exact Or.inl (by dsimp only; decide) | exact Or.inr (exec_ld rfl rfl) | exact Or.inr (exec_ldN rfl rfl rfl) | exact Or.inr (exec_ldB rfl (by omega)) | exact Or.inr (exec_ldI rfl (by omega)) | exact Or.inr ghost_of), ?_⟩)) ?_
  refine Fe.con rfl hn rfl rfl (by simp only [↓nrmL, nrmZ, Nat.reduceEqDiff, ↓reduceIte, Nat.reduceAdd, Int.reduceBEq, Int.reduceBNe, List.map] <;> rfl) (K_refRows ok) fun v K2 h5 => ?_
  obtain ⟨ho2, _, hk2⟩ := h5
  haveI : ExtI _ K2 := ⟨hk2⟩
  haveI := ho2.sl.one
  haveI : RunsI K2 v (allR (rowO ⟨a, b, l0⟩) a b) := ho2.sl
  rename AVal => rw2
  refine ⟨(by repeat (first | exact trivial | refine ⟨(by first | exact Or.inl (by dsimp only; decide) | exact Or.inr (readOk_of (exec_ld rfl rfl)) | exact Or.inr (readOk_of (exec_ldN rfl rfl rfl)) | exact Or.inr (readOk_of (exec_ldB rfl (by omega))) | exact Or.inr (readOk_of (exec_ldI rfl (by omega))) | exact Or.inr (made_of rfl)), ?_⟩)), ?_⟩
  try simp only [↓nrmL, nrmZ, Nat.reduceEqDiff, ↓reduceIte, Nat.reduceAdd, Int.reduceBEq, Int.reduceBNe, decide_true]
  refine Fe.pcall (v' := ?_) rfl hn rfl (by simp only [↓nrmL, nrmZ, Nat.reduceEqDiff, ↓reduceIte, Nat.reduceAdd, Int.reduceBEq, Int.reduceBNe, decide_true, List.map]; rfl) rfl ?hv fun _ _ => ⟨(by repeat (first | exact trivial | refine ⟨(by first | exact Or.inl (by dsimp only; decide) | exact Or.inr (readOk_of (exec_ld rfl rfl)) | exact Or.inr (readOk_of (exec_ldN rfl rfl rfl)) | exact Or.inr (readOk_of (exec_ldB rfl (by omega))) | exact Or.inr (readOk_of (exec_ldI rfl (by omega))) | exact Or.inr (made_of rfl)), ?_⟩)), ?_⟩; case hv => (simp only [↓nrmL, nrmZ, Nat.reduceEqDiff, ↓reduceIte, Nat.reduceAdd, Int.reduceBEq, Int.reduceBNe, decide_true]; rfl)
  refine Fe.pure rfl rfl (by simp only [↓nrmL, nrmZ, Nat.reduceEqDiff, ↓reduceIte, Nat.reduceAdd, Int.reduceBEq, Int.reduceBNe, decide_true]; rfl) ?_
  refine Fe.pure rfl rfl (by simp only [↓nrmL, nrmZ, Nat.reduceEqDiff, ↓reduceIte, Nat.reduceAdd, Int.reduceBEq, Int.reduceBNe, decide_true]; rfl) ?_
  refine Fe.pure rfl rfl (by simp only [↓nrmL, nrmZ, Nat.reduceEqDiff, ↓reduceIte, Nat.reduceAdd, Int.reduceBEq, Int.reduceBNe, decide_true]; rfl) ?_
  refine Fe.pure rfl rfl (by simp only [↓nrmL, nrmZ, Nat.reduceEqDiff, ↓reduceIte, Nat.reduceAdd, Int.reduceBEq, Int.reduceBNe, decide_true]; rfl) ?_
  refine Fe.read rfl (exec_ldN rfl rfl (by simp only [↓nrmL, nrmZ, Nat.reduceEqDiff, ↓reduceIte, Nat.reduceAdd, Int.reduceBEq, Int.reduceBNe, decide_true]; rfl)) rfl (by repeat (first | exact trivial | refine ⟨(by first | exact Or.inl (by dsimp only; decide) | exact Or.inr (exec_ld rfl rfl) | exact Or.inr (exec_ldN rfl rfl rfl) | exact Or.inr (exec_ldB rfl (by omega)) | exact Or.inr (exec_ldI rfl (by omega)) | exact Or.inr ghost_of), ?_⟩)) ?_
  refine Fe.con rfl hn rfl rfl (by simp only [↓nrmL, nrmZ, Nat.reduceEqDiff, ↓reduceIte, Nat.reduceAdd, Int.reduceBEq, Int.reduceBNe, List.map] <;> rfl) (K_refColumns ok) fun v K3 h5 => ?_
  obtain ⟨ho3, _, hk3⟩ := h5
  haveI : ExtI _ K3 := ⟨hk3⟩
  haveI := ho3.sl.one
  haveI : RunsI K3 v (allR (colO ⟨a, b, l0⟩) b a) := ho3.sl
  rename AVal => cl2
  refine ⟨(by repeat (first | exact trivial | refine ⟨(by first | exact Or.inl (by dsimp only; decide) | exact Or.inr (readOk_of (exec_ld rfl rfl)) | exact Or.inr (readOk_of (exec_ldN rfl rfl rfl)) | exact Or.inr (readOk_of (exec_ldB rfl (by omega))) | exact Or.inr (readOk_of (exec_ldI rfl (by omega))) | exact Or.inr (made_of rfl)), ?_⟩)), ?_⟩
  try simp only [↓nrmL, nrmZ, Nat.reduceEqDiff, ↓reduceIte, Nat.reduceAdd, Int.reduceBEq, Int.reduceBNe, decide_true]
  refine Fe.pcall (v' := ?_) rfl hn rfl (by simp only [↓nrmL, nrmZ, Nat.reduceEqDiff, ↓reduceIte, Nat.reduceAdd, Int.reduceBEq, Int.reduceBNe, decide_true, List.map]; rfl) rfl ?hv fun _ _ => ⟨(by repeat (first | exact trivial | refine ⟨(by first | exact Or.inl (by dsimp only; decide) | exact Or.inr (readOk_of (exec_ld rfl rfl)) | exact Or.inr (readOk_of (exec_ldN rfl rfl rfl)) | exact Or.inr (readOk_of (exec_ldB rfl (by omega))) | exact Or.inr (readOk_of (exec_ldI rfl (by omega))) | exact Or.inr (made_of rfl)), ?_⟩)), ?_⟩; case hv => (simp only [↓nrmL, nrmZ, Nat.reduceEqDiff, ↓reduceIte, Nat.reduceAdd, Int.reduceBEq, Int.reduceBNe, decide_true]; rfl)
  refine Fe.pure rfl rfl (by simp only [↓nrmL, nrmZ, Nat.reduceEqDiff, ↓reduceIte, Nat.reduceAdd, Int.reduceBEq, Int.reduceBNe, decide_true]; rfl) ?_
  refine Fe.pure rfl rfl (by simp only [↓nrmL, nrmZ, Nat.reduceEqDiff, ↓reduceIte, Nat.reduceAdd, Int.reduceBEq, Int.reduceBNe, decide_true]; rfl) ?_
  refine Fe.pure rfl rfl (by simp only [↓nrmL, nrmZ, Nat.reduceEqDiff, ↓reduceIte, Nat.reduceAdd, Int.reduceBEq, Int.reduceBNe, decide_true]; rfl) ?_
  refine Fe.pure rfl rfl (by simp only [↓nrmL, nrmZ, Nat.reduceEqDiff, ↓reduceIte, Nat.reduceAdd, Int.reduceBEq, Int.reduceBNe, decide_true]; rfl) ?_
  refine Fe.pure rfl rfl (by simp only [↓nrmL, nrmZ, Nat.reduceEqDiff, ↓reduceIte, Nat.reduceAdd, Int.reduceBEq, Int.reduceBNe, decide_true]; rfl) ?_
  refine Fe.pcall (v' := ?_) rfl hn rfl (by simp only [↓nrmL, nrmZ, Nat.reduceEqDiff, ↓reduceIte, Nat.reduceAdd, Int.reduceBEq, Int.reduceBNe, decide_true, List.map]; rfl) rfl ?hv fun _ _ => ⟨(by repeat (first | exact trivial | refine ⟨(by first | exact Or.inl (by dsimp only; decide) | exact Or.inr (readOk_of (exec_ld rfl rfl)) | exact Or.inr (readOk_of (exec_ldN rfl rfl rfl)) | exact Or.inr (readOk_of (exec_ldB rfl (by omega))) | exact Or.inr (readOk_of (exec_ldI rfl (by omega))) | exact Or.inr (made_of rfl)), ?_⟩)), ?_⟩; case hv => (simp only [↓nrmL, nrmZ, Nat.reduceEqDiff, ↓reduceIte, Nat.reduceAdd, Int.reduceBEq, Int.reduceBNe, decide_true]; rfl)
  refine Fe.pure rfl rfl (by simp only [↓nrmL, nrmZ, Nat.reduceEqDiff, ↓reduceIte, Nat.reduceAdd, Int.reduceBEq, Int.reduceBNe, decide_true]; rfl) ?_
  refine Fe.pure rfl rfl (by simp only [↓nrmL, nrmZ, Nat.reduceEqDiff, ↓reduceIte, Nat.reduceAdd, Int.reduceBEq, Int.reduceBNe, decide_true]; rfl) ?_
  refine Fe.pure rfl rfl (by simp only [↓nrmL, nrmZ, Nat.reduceEqDiff, ↓reduceIte, Nat.reduceAdd, Int.reduceBEq, Int.reduceBNe, decide_true]; rfl) ?_
  refine Fe.pure rfl rfl (by simp only [↓nrmL, nrmZ, Nat.reduceEqDiff, ↓reduceIte, Nat.reduceAdd, Int.reduceBEq, Int.reduceBNe, decide_true]; rfl) ?_
  refine Fe.pure rfl rfl (by simp only [↓nrmL, nrmZ, Nat.reduceEqDiff, ↓reduceIte, Nat.reduceAdd, Int.reduceBEq, Int.reduceBNe, decide_true]; rfl) ?_
  refine Fe.pcall (v' := ?_) rfl hn rfl (by simp only [↓nrmL, nrmZ, Nat.reduceEqDiff, ↓reduceIte, Nat.reduceAdd, Int.reduceBEq, Int.reduceBNe, decide_true, List.map]; rfl) rfl ?hv fun _ _ => ⟨(by repeat (first | exact trivial | refine ⟨(by first | exact Or.inl (by dsimp only; decide) | exact Or.inr (readOk_of (exec_ld rfl rfl)) | exact Or.inr (readOk_of (exec_ldN rfl rfl rfl)) | exact Or.inr (readOk_of (exec_ldB rfl (by omega))) | exact Or.inr (readOk_of (exec_ldI rfl (by omega))) | exact Or.inr (made_of rfl)), ?_⟩)), ?_⟩; case hv => (simp only [↓nrmL, nrmZ, Nat.reduceEqDiff, ↓reduceIte, Nat.reduceAdd, Int.reduceBEq, Int.reduceBNe, decide_true]; rfl)
  refine Fe.pure rfl rfl (by simp only [↓nrmL, nrmZ, Nat.reduceEqDiff, ↓reduceIte, Nat.reduceAdd, Int.reduceBEq, Int.reduceBNe, decide_true]; rfl) ?_
  refine Fe.pure rfl rfl (by simp only [↓nrmL, nrmZ, Nat.reduceEqDiff, ↓reduceIte, Nat.reduceAdd, Int.reduceBEq, Int.reduceBNe, decide_true]; rfl) ?_
  refine WpE.nil (hKF _ _ ?_)
  refine Wp.cond (b := false) rfl ?_
  refine Wp.skip ?_
  refine sq ?_
  refine rg fun KF hKF => ?_
  refine mI rfl ?_
  refine mI rfl ?_
  refine Fo.mov (by simp only [↓nrmL, nrmK, Nat.reduceEqDiff, ↓reduceIte]; rfl) ?_
  refine WpO.do (WpX.conD hn rfl rfl (by simp only [↓nrmL, nrmZ, Nat.reduceEqDiff, ↓reduceIte, Nat.reduceAdd, Int.reduceBEq, Int.reduceBNe, List.map] <;> rfl) (K_FromRows (w := w1) (h := h1) (l := l)) fun v H6 h5 => ?_)
  obtain ⟨_, e1, x1, e2, hx1, _, _, hxx1⟩ := h5
  subst e1 e2
  haveI : ExtI _ H6 := ⟨hxx1⟩
  haveI := hx1.one
  refine mT rfl ?_
  refine Fo.extr rfl rfl ?_
  refine Fo.extr rfl rfl ?_
  refine Fo.new ?_
  refine Fo.st rfl (rfl : _ = AVal.agg _) rfl rfl rfl (by repeat (first | rfl | refine allOne_cons ?_)) (by simp only [↓nrmL, nrmZ, Nat.reduceEqDiff, ↓reduceIte, Nat.reduceAdd, Int.reduceBEq, Int.reduceBNe]; rfl) ?_
  refine mI rfl ?_
  refine WpO.nil (hKF _ _ ?_)
  refine sq ?_
  refine rg fun KF hKF => ?_
  refine mI rfl ?_
  refine mI rfl ?_
  refine Fo.mov (by simp only [↓nrmL, nrmK, Nat.reduceEqDiff, ↓reduceIte]; rfl) ?_
  refine WpO.do (WpX.conD hn rfl rfl (by simp only [↓nrmL, nrmZ, Nat.reduceEqDiff, ↓reduceIte, Nat.reduceAdd, Int.reduceBEq, Int.reduceBNe, List.map] <;> rfl) (K_refFromRows (w := w1) (h := h1) (l := l)) fun v H7 h5 => ?_)
  obtain ⟨_, e1, y1, e2, hy1, _, _, hyy1⟩ := h5
  subst e1 e2
  haveI : ExtI _ H7 := ⟨hyy1⟩
  haveI := hy1.one
  refine mT rfl ?_
  refine Fo.extr rfl rfl ?_
  refine Fo.extr rfl rfl ?_
  refine Fo.new ?_
  refine Fo.st rfl (rfl : _ = AVal.agg _) rfl rfl rfl (by repeat (first | rfl | refine allOne_cons ?_)) (by simp only [↓nrmL, nrmZ, Nat.reduceEqDiff, ↓reduceIte, Nat.reduceAdd, Int.reduceBEq, Int.reduceBNe]; rfl) ?_
  refine mI rfl ?_
  refine WpO.nil (hKF _ _ ?_)
  refine sq ?_
  refine rg fun KF hKF => ?_
  refine mI rfl ?_
  refine mI rfl ?_
  refine Fo.mov (by simp only [↓nrmL, nrmK, Nat.reduceEqDiff, ↓reduceIte]; rfl) ?_
  refine WpO.do (WpX.conD hn rfl rfl (by simp only [↓nrmL, nrmZ, Nat.reduceEqDiff, ↓reduceIte, Nat.reduceAdd, Int.reduceBEq, Int.reduceBNe, List.map] <;> rfl) (K_FromColumns (w := w1) (h := h1) (l := l)) fun v H8 h5 => ?_)
  obtain ⟨_, e1, x2, e2, hx2, _, _, hxx2⟩ := h5
  subst e1 e2
  haveI : ExtI _ H8 := ⟨hxx2⟩
  haveI := hx2.one
  refine mT rfl ?_
  refine Fo.extr rfl rfl ?_
  refine Fo.extr rfl rfl ?_
  refine Fo.new ?_
  refine Fo.st rfl (rfl : _ = AVal.agg _) rfl rfl rfl (by repeat (first | rfl | refine allOne_cons ?_)) (by simp only [↓nrmL, nrmZ, Nat.reduceEqDiff, ↓reduceIte, Nat.reduceAdd, Int.reduceBEq, Int.reduceBNe]; rfl) ?_
  refine mI rfl ?_
  refine WpO.nil (hKF _ _ ?_)
  refine sq ?_
  refine rg fun KF hKF => ?_
  refine mI rfl ?_
  refine mI rfl ?_
  refine Fo.mov (by simp only [↓nrmL, nrmK, Nat.reduceEqDiff, ↓reduceIte]; rfl) ?_
  refine WpO.do (WpX.conD hn rfl rfl (by simp only [↓nrmL, nrmZ, Nat.reduceEqDiff, ↓reduceIte, Nat.reduceAdd, Int.reduceBEq, Int.reduceBNe, List.map] <;> rfl) (K_refFromColumns (w := w1) (h := h1) (l := l)) fun v H9 h5 => ?_)
  obtain ⟨_, e1, y2, e2, hy2, _, _, hyy2⟩ := h5
  subst e1 e2
  haveI : ExtI _ H9 := ⟨hyy2⟩
  haveI := hy2.one
  generalize rowsImg w1 h1 l = ra at *
  generalize colsImg w1 h1 l = ca at *
  haveI : Short ra.1.px := ⟨hral⟩
  haveI : Short ca.1.px := ⟨hcal⟩
  try simp only [↓nrmL, nrmZ, Nat.reduceEqDiff, ↓reduceIte, Nat.reduceAdd, Int.reduceBEq, Int.reduceBNe, decide_true, beq_self_eq_true, Bool.and_true]
  refine mT rfl ?_
  refine Fo.extr rfl rfl ?_
  refine Fo.extr rfl rfl ?_
  refine Fo.new ?_
  refine Fo.st rfl (rfl : _ = AVal.agg _) rfl rfl rfl (by repeat (first | rfl | refine allOne_cons ?_)) (by simp only [↓nrmL, nrmZ, Nat.reduceEqDiff, ↓reduceIte, Nat.reduceAdd, Int.reduceBEq, Int.reduceBNe, decide_true, beq_self_eq_true, Bool.and_true]; rfl) ?_
  refine mI rfl ?_
  refine WpO.nil (hKF _ _ ?_)
  refine sq ?_
  refine rg fun KF hKF => ?_
  refine Fo.ldN rfl rfl (by simp only [↓nrmL, nrmZ, Nat.reduceEqDiff, ↓reduceIte, Nat.reduceAdd, Int.reduceBEq, Int.reduceBNe, decide_true, beq_self_eq_true, Bool.and_true]; rfl) ?_
  refine mI rfl ?_
  refine Fo.ldN rfl rfl (by simp only [↓nrmL, nrmZ, Nat.reduceEqDiff, ↓reduceIte, Nat.reduceAdd, Int.reduceBEq, Int.reduceBNe, decide_true, beq_self_eq_true, Bool.and_true]; rfl) ?_
  refine mI rfl ?_
  refine Fo.pcall (v' := ?_) hn rfl (by simp only [↓nrmL, nrmZ, Nat.reduceEqDiff, ↓reduceIte, Nat.reduceAdd, Int.reduceBEq, Int.reduceBNe, decide_true, beq_self_eq_true, Bool.and_true, List.map]; rfl) rfl ?hv fun _ _ => ?_; case hv => (simp only [↓nrmL, nrmZ, Nat.reduceEqDiff, ↓reduceIte, Nat.reduceAdd, Int.reduceBEq, Int.reduceBNe, decide_true, beq_self_eq_true, Bool.and_true]; rfl)
  refine mB rfl ?_
  refine Fo.yes rfl rfl ?_
  refine Fo.ldN rfl rfl (by simp only [↓nrmL, nrmZ, Nat.reduceEqDiff, ↓reduceIte, Nat.reduceAdd, Int.reduceBEq, Int.reduceBNe, decide_true, beq_self_eq_true, Bool.and_true]; rfl) ?_
  refine Fo.yes rfl rfl ?_
  refine mI rfl ?_
  refine Fo.yes rfl rfl ?_
  refine Fo.ldN rfl rfl (by simp only [↓nrmL, nrmZ, Nat.reduceEqDiff, ↓reduceIte, Nat.reduceAdd, Int.reduceBEq, Int.reduceBNe, decide_true, beq_self_eq_true, Bool.and_true]; rfl) ?_
  refine Fo.yes rfl rfl ?_
  refine mI rfl ?_
  refine Fo.yes rfl rfl ?_
  refine Fo.pcall (v' := ?_) hn rfl (by simp only [↓nrmL, nrmZ, Nat.reduceEqDiff, ↓reduceIte, Nat.reduceAdd, Int.reduceBEq, Int.reduceBNe, decide_true, beq_self_eq_true, Bool.and_true, List.map]; rfl) rfl ?hv fun _ _ => ?_; case hv => (simp only [↓nrmL, nrmZ, Nat.reduceEqDiff, ↓reduceIte, Nat.reduceAdd, Int.reduceBEq, Int.reduceBNe, decide_true, beq_self_eq_true, Bool.and_true]; rfl)
  refine tB rfl rfl ?_
  refine mB rfl ?_
  refine Fo.yes rfl rfl ?_
  refine Fo.ldN rfl rfl (by simp only [↓nrmL, nrmZ, Nat.reduceEqDiff, ↓reduceIte, Nat.reduceAdd, Int.reduceBEq, Int.reduceBNe, decide_true, beq_self_eq_true, Bool.and_true]; rfl) ?_
  refine Fo.yes rfl rfl ?_
  refine Fo.ldN rfl rfl (by simp only [↓nrmL, nrmZ, Nat.reduceEqDiff, ↓reduceIte, Nat.reduceAdd, Int.reduceBEq, Int.reduceBNe, decide_true, beq_self_eq_true, Bool.and_true]; rfl) ?_
  refine Fo.yes rfl rfl ?_
  refine Fo.pcall (v' := ?_) hn rfl (by simp only [↓nrmL, nrmZ, Nat.reduceEqDiff, ↓reduceIte, Nat.reduceAdd, Int.reduceBEq, Int.reduceBNe, decide_true, beq_self_eq_true, Bool.and_true, List.map]; rfl) rfl ?hv fun _ _ => ?_; case hv => (simp only [↓nrmL, nrmZ, Nat.reduceEqDiff, ↓reduceIte, Nat.reduceAdd, Int.reduceBEq, Int.reduceBNe, decide_true, beq_self_eq_true, Bool.and_true]; rfl)
  refine tB rfl rfl ?_
  refine mB rfl ?_
  refine Fo.yes rfl rfl ?_
  refine Fo.mov (by simp only [↓nrmL, nrmK, Nat.reduceEqDiff, ↓reduceIte]; rfl) ?_
  refine Fo.yes rfl rfl ?_
  refine Fo.mov (by simp only [↓nrmL, nrmK, Nat.reduceEqDiff, ↓reduceIte]; rfl) ?_
  refine Fo.yes rfl rfl ?_
  refine Fo.pcall (v' := ?_) hn rfl (by simp only [↓nrmL, nrmZ, Nat.reduceEqDiff, ↓reduceIte, Nat.reduceAdd, Int.reduceBEq, Int.reduceBNe, decide_true, beq_self_eq_true, Bool.and_true, List.map]; rfl) rfl ?hv fun _ _ => ?_; case hv => (simp only [↓nrmL, nrmZ, Nat.reduceEqDiff, ↓reduceIte, Nat.reduceAdd, Int.reduceBEq, Int.reduceBNe, decide_true, beq_self_eq_true, Bool.and_true]; rfl)
  refine tB rfl rfl ?_
  refine mB rfl ?_
  refine Fo.yes rfl rfl ?_
  refine Fo.pcall (v' := ?_) hn rfl (by simp only [↓nrmL, nrmZ, Nat.reduceEqDiff, ↓reduceIte, Nat.reduceAdd, Int.reduceBEq, Int.reduceBNe, decide_true, beq_self_eq_true, Bool.and_true, List.map]; rfl) rfl ?hv fun _ _ => ?_; case hv => rfl
  refine tB rfl rfl ?_
  refine mB rfl ?_
  refine WpO.nil (hKF _ _ ?_)
  refine Wp.ret ?_
  dsimp only [cond_true, cond_false]
  refine ⟨trivial, _, rfl, ?_⟩
  exact ⟨rfl, Ext0.ext⟩
 have hKQ := hKF
 clear hKF
 cases c3 : decide ((if h1 > w1 then h1 else w1) > 200)
 ·skip
  try simp only [↓nrmL, nrmZ, Nat.reduceEqDiff, ↓reduceIte, Nat.reduceAdd, Int.reduceBEq, Int.reduceBNe, c1, c2, c3]
  refine Fo.yes rfl rfl ?_
  refine Fo.mov (by simp only [↓nrmL, nrmK, Nat.reduceEqDiff, ↓reduceIte]; rfl) ?_
  refine Fo.yes rfl rfl ?_
  refine Fo.len (v := ?_) (by simp only [↓nrmL, nrmK, Nat.reduceEqDiff, ↓reduceIte]; rfl) ?hv ?_; case hv => rfl
  refine Fo.yes rfl rfl ?_
  refine Fo.bin rfl rfl rfl (by simp only [↓nrmL, nrmZ, Nat.reduceEqDiff, ↓reduceIte, Nat.reduceAdd, Int.reduceBEq, Int.reduceBNe, c1, c2, c3]; rfl) ?_
  refine fB rfl rfl ?_
  refine mB rfl ?_
  refine Fo.yes rfl rfl ?_
  refine mI rfl ?_
  refine Fo.yes rfl rfl ?_
  refine mI rfl ?_
  refine Fo.yes rfl rfl ?_
  refine Fo.now rfl rfl (by simp only [↓nrmL, nrmZ, Nat.reduceEqDiff, ↓reduceIte, Nat.reduceAdd, Int.reduceBEq, Int.reduceBNe, c1, c2, c3]; rfl) ?_
  refine Fo.yes rfl rfl ?_
  refine Fo.bin rfl rfl rfl (by simp only [↓nrmL, nrmZ, Nat.reduceEqDiff, ↓reduceIte, Nat.reduceAdd, Int.reduceBEq, Int.reduceBNe, c1, c2, c3]; rfl) ?_
  refine Fo.yes rfl rfl ?_
  refine mB rfl ?_
  refine Fo.no rfl rfl ?_
  refine Fo.no rfl rfl ?_
  refine Fo.no rfl rfl ?_
  refine Fo.no rfl rfl ?_
  refine Fo.yes rfl rfl ?_
  refine fB rfl rfl ?_
  refine fB rfl rfl ?_
  refine WpO.nil ?_
  exact eta5 (P := fun f => KF f HH) rfl rfl rfl rfl rfl hK2
 cases c4 : decide ((if h1 > w1 then h1 else w1) ≤ 640)
 ·skip
  try simp only [↓nrmL, nrmZ, Nat.reduceEqDiff, ↓reduceIte, Nat.reduceAdd, Int.reduceBEq, Int.reduceBNe, c1, c2, c3, c4]
  refine Fo.yes rfl rfl ?_
  refine Fo.mov (by simp only [↓nrmL, nrmK, Nat.reduceEqDiff, ↓reduceIte]; rfl) ?_
  refine Fo.yes rfl rfl ?_
  refine Fo.len (v := ?_) (by simp only [↓nrmL, nrmK, Nat.reduceEqDiff, ↓reduceIte]; rfl) ?hv ?_; case hv => rfl
  refine Fo.yes rfl rfl ?_
  refine Fo.bin rfl rfl rfl (by simp only [↓nrmL, nrmZ, Nat.reduceEqDiff, ↓reduceIte, Nat.reduceAdd, Int.reduceBEq, Int.reduceBNe, c1, c2, c3, c4]; rfl) ?_
  refine fB rfl rfl ?_
  refine mB rfl ?_
  refine Fo.yes rfl rfl ?_
  refine mI rfl ?_
  refine Fo.yes rfl rfl ?_
  refine mI rfl ?_
  refine Fo.yes rfl rfl ?_
  refine Fo.now rfl rfl (by simp only [↓nrmL, nrmZ, Nat.reduceEqDiff, ↓reduceIte, Nat.reduceAdd, Int.reduceBEq, Int.reduceBNe, c1, c2, c3, c4]; rfl) ?_
  refine Fo.yes rfl rfl ?_
  refine Fo.bin rfl rfl rfl (by simp only [↓nrmL, nrmZ, Nat.reduceEqDiff, ↓reduceIte, Nat.reduceAdd, Int.reduceBEq, Int.reduceBNe, c1, c2, c3, c4]; rfl) ?_
  refine Fo.yes rfl rfl ?_
  refine mB rfl ?_
  refine Fo.yes rfl rfl ?_
  refine mI rfl ?_
  refine Fo.yes rfl rfl ?_
  refine mI rfl ?_
  refine Fo.yes rfl rfl ?_
  refine Fo.now rfl rfl (by simp only [↓nrmL, nrmZ, Nat.reduceEqDiff, ↓reduceIte, Nat.reduceAdd, Int.reduceBEq, Int.reduceBNe, c1, c2, c3, c4]; rfl) ?_
  refine Fo.yes rfl rfl ?_
  refine Fo.bin rfl rfl rfl (by simp only [↓nrmL, nrmZ, Nat.reduceEqDiff, ↓reduceIte, Nat.reduceAdd, Int.reduceBEq, Int.reduceBNe, c1, c2, c3, c4]; rfl) ?_
  refine Fo.yes rfl rfl ?_
  refine tB rfl rfl ?_
  refine fB rfl rfl ?_
  refine WpO.nil ?_
  exact eta5 (P := fun f => KF f HH) rfl rfl rfl rfl rfl hK2
 ·have hKF := hKQ
  try simp only [↓nrmL, nrmZ, Nat.reduceEqDiff, ↓reduceIte, Nat.reduceAdd, Int.reduceBEq, Int.reduceBNe, c1, c2, c3, c4]
  refine Fo.yes rfl rfl ?_
  refine Fo.mov (by simp only [↓nrmL, nrmK, Nat.reduceEqDiff, ↓reduceIte]; rfl) ?_
  refine Fo.yes rfl rfl ?_
  refine Fo.len (v := ?_) (by simp only [↓nrmL, nrmK, Nat.reduceEqDiff, ↓reduceIte]; rfl) ?hv ?_; case hv => rfl
  refine Fo.yes rfl rfl ?_
  refine Fo.bin rfl rfl rfl (by simp only [↓nrmL, nrmZ, Nat.reduceEqDiff, ↓reduceIte, Nat.reduceAdd, Int.reduceBEq, Int.reduceBNe, c1, c2, c3, c4]; rfl) ?_
  refine fB rfl rfl ?_
  refine mB rfl ?_
  refine Fo.yes rfl rfl ?_
  refine mI rfl ?_
  refine Fo.yes rfl rfl ?_
  refine mI rfl ?_
  refine Fo.yes rfl rfl ?_
  refine Fo.now rfl rfl (by simp only [↓nrmL, nrmZ, Nat.reduceEqDiff, ↓reduceIte, Nat.reduceAdd, Int.reduceBEq, Int.reduceBNe, c1, c2, c3, c4]; rfl) ?_
  refine Fo.yes rfl rfl ?_
  refine Fo.bin rfl rfl rfl (by simp only [↓nrmL, nrmZ, Nat.reduceEqDiff, ↓reduceIte, Nat.reduceAdd, Int.reduceBEq, Int.reduceBNe, c1, c2, c3, c4]; rfl) ?_
  refine Fo.yes rfl rfl ?_
  refine mB rfl ?_
  refine Fo.yes rfl rfl ?_
  refine mI rfl ?_
  refine Fo.yes rfl rfl ?_
  refine mI rfl ?_
  refine Fo.yes rfl rfl ?_
  refine Fo.now rfl rfl (by simp only [↓nrmL, nrmZ, Nat.reduceEqDiff, ↓reduceIte, Nat.reduceAdd, Int.reduceBEq, Int.reduceBNe, c1, c2, c3, c4]; rfl) ?_
  refine Fo.yes rfl rfl ?_
  refine Fo.bin rfl rfl rfl (by simp only [↓nrmL, nrmZ, Nat.reduceEqDiff, ↓reduceIte, Nat.reduceAdd, Int.reduceBEq, Int.reduceBNe, c1, c2, c3, c4]; rfl) ?_
  refine Fo.yes rfl rfl ?_
  refine tB rfl rfl ?_
  refine fB rfl rfl ?_
  refine WpO.nil (hKF _ _ ?_)
  refine Wp.cond (b := true) rfl ?_
  refine sq ?_
  refine rg fun KF hKF => ?_
  refine Fo.pcall (v' := ?_) hn rfl (by simp only [↓nrmL, nrmZ, Nat.reduceEqDiff, ↓reduceIte, Nat.reduceAdd, Int.reduceBEq, Int.reduceBNe, c1, c2, c3, c4, List.map]; rfl) rfl ?hv fun _ _ => ?_; case hv => rfl
  refine mB rfl ?_
  refine WpO.nil (hKF _ _ ?_)
  refine Wp.ret ?_
  dsimp only [cond_true, cond_false]
  refine ⟨trivial, _, rfl, ?_⟩
  exact ⟨rfl, Ext0.ext⟩
end Go.Am

/- A list of runs as an argument. -/
namespace Go.Am
open Go Go.RowKit
section
variable {P : Program} {H : AHeap} {n : Nat} {t e : TypeId} {cs : List AVal}
theorem shapes_runs {fs : Array Field} {ti : TypeId} (hu : P.underlying e = some (.struct fs)) (hf : (fs.toList.map fun f => f.type) = [ti, ti, ti]) (hi : P.underlying ti = some (.int .i64)) : ∀ {len : Nat} {cells : List AVal}, shapes (Shape P H (n + 2)) (List.replicate len e) cells → ∃ l : List RunT, l.length = len ∧ cells = cellsR l := by
  intro len
  induction len with
  | zero => intro cells h; exact ⟨[], rfl, h⟩
  | succ len ih =>
    intro cells h
    obtain ⟨a, b, rfl, h1, h2⟩ := h
    have h3 := shape_struct hu h1
    rw [hf] at h3
    obtain ⟨a1, r1, rfl, k1, a2, r2, rfl, k2, a3, r3, rfl, k3, rfl⟩ := h3
    obtain ⟨x, rfl, _⟩ := shape_int hi k1
    obtain ⟨y, rfl, _⟩ := shape_int hi k2
    obtain ⟨z, rfl, _⟩ := shape_int hi k3
    obtain ⟨l, hl, rfl⟩ := ih h2
    exact ⟨(x, y, z) :: l, by simp [hl], rfl⟩
theorem shape_runs {fs : Array Field} {ti : TypeId} (hu : P.underlying t = some (.slice e)) (he : P.underlying e = some (.struct fs)) (hf : (fs.toList.map fun f => f.type) = [ti, ti, ti]) (hi : P.underlying ti = some (.int .i64)) (hc : P.cellsOf e = 3) (h : Shape P H (n + 3) t cs) : ∃ p l, cs = [p] ∧ RunsI H p l ∧ l.length ≤ maxLen := by
  rw [Shape, hu] at h
  obtain ⟨p, len, cells, rfl, h2, h3, h4⟩ := h
  obtain ⟨l, rfl, rfl⟩ := shapes_runs he hf hi h4
  rw [hc] at h2
  exact ⟨p, l, rfl, h2, h3⟩
end
end Go.Am

set_option maxRecDepth 100000
set_option maxHeartbeats 4000000
namespace Go.Proofs.YtamgihgnhnfknaaDoor.ImageRuns
open Go.ChangeShapes Go.WideShapes Go.ChangeAt Go.RowKit Go.Am Go.Proofs.YtamgihgnhnfknaaDoor.Laid

theorem con (H : AHeap) (avs : List AVal) (ht : tablesIn aroundT H = true) (h : ArgS Tryd.prog H 3 [24, 3, 3, 58] avs) : Con ext prog 9 6 avs H fun v H' => v = .bool true ∧ Ext H H' := by
  obtain ⟨a0, r0, rfl, h0, a1, r1, rfl, h1, a2, r2, rfl, h2, a3, r3, rfl, h3, rfl⟩ := h
  obtain ⟨w0, hh0, p0, l0, rfl, k0, _⟩ := shape_img (ti := 3) (ts := 22) (tb := 5) Tryd.underlying24 (by kernel_rfl) Tryd.underlying3 Tryd.underlying22 Tryd.underlying5 (by kernel_rfl) h0
  obtain ⟨i1, rfl, _⟩ := shape_int Tryd.underlying3 h1
  obtain ⟨i2, rfl, _⟩ := shape_int Tryd.underlying3 h2
  obtain ⟨p3, l3, rfl, k3, _⟩ := shape_runs (ti := 3) Tryd.underlying58 Tryd.underlying61 (by kernel_rfl) Tryd.underlying3 (by kernel_rfl) h3
  haveI o3 := k3.one
  have e0 : argV Tryd.prog 24 [.int .i64 w0, .int .i64 hh0, p0] = .agg [.int .i64 w0, .int .i64 hh0, p0] := by simp only [argV, show aggTy Tryd.prog 24 = true by kernel_rfl, cond_true]
  have e1 : argV Tryd.prog 3 [.int .i64 i1] = .int .i64 i1 := by simp only [argV, show aggTy Tryd.prog 3 = false by kernel_rfl, cond_false, List.headD_cons]
  have e2 : argV Tryd.prog 3 [.int .i64 i2] = .int .i64 i2 := by simp only [argV, show aggTy Tryd.prog 3 = false by kernel_rfl, cond_false, List.headD_cons]
  have e3 : argV Tryd.prog 58 [p3] = p3 := by simp only [argV, show aggTy Tryd.prog 58 = false by kernel_rfl, cond_false, List.headD_cons]
  haveI : Tabs H := ⟨ht⟩
  rw [e0, e1, e2, e3]
  exact K_ImageRuns

theorem contract (H : Type) (enc : TypeId × Value → H) (W : World) (base : Nat) (args : Array Value) (ds gs : List (DataW H)) (before : List MemPlace)
    (hval : ∀ (j : Nat) t v, Tryd.f6.params[j]? = some t → args[j]? = some v → Value.okWide Tryd.prog W .any base t v)
    (hW : DataW.Whole enc Tryd.prog Tryd.f6.params.toList Rows.imageRunsSpec.vars false W args.toList ds gs before) (hL : laidMetH Tryd.prog Rows.imageRunsRow.laid W) :
    Calls Tryd.prog 6 args W fun e W' => ∃ v, e = .returned v ∧ Rows.imageRunsSpec.post enc Tryd.prog Tryd.f6 false true false false W args v W' := by
  have hW' := hW
  obtain ⟨p, q, hA, _⟩ := hW'
  rw [Tryd.params6] at hA
  obtain ⟨v0, vs0, d0, ds0, p0, q0, _, rfl, _, _, r0⟩ := trodAll_cons hA
  obtain ⟨v1, vs1, d1, ds1, p1, q1, _, rfl, _, _, r1⟩ := trodAll_cons r0
  obtain ⟨v2, vs2, d2, ds2, p2, q2, _, rfl, _, _, r2⟩ := trodAll_cons r1
  obtain ⟨v3, vs3, d3, ds3, p3, q3, _, rfl, _, _, r3⟩ := trodAll_cons r2
  obtain ⟨_, rfl, _⟩ := trodAll_nil r3
  exact law_calls (tb := 4) (n := 3) (d := 9) (tabs := aroundT) mixed progOk Tryd.func6 rfl (by decide +kernel) laidOut rowed full (by kernel_rfl) rfl (by kernel_rfl) Tryd.underlying4 (by kernel_rfl) (by kernel_rfl)
    (fun H avs ht h => con H avs ht (by rw [Tryd.params6] at h; exact h)) H enc W base args _ gs before rfl hval hW (around_cells hL)

theorem laid_met (os : Os) : laidMet Tryd.prog Rows.imageRunsRow.laid ((laidWorld os).forCall (fun _ _ => 0) ⟨#[], #[.agg #[.int .i64 0, .int .i64 0, .slice none 0 0], .int .i64 0, .int .i64 0, .slice none 0 0], []⟩).memory :=
  laidMet_of_run' 8 (by kernel_rfl) (by kernel_rfl)
theorem reads (os : Os) {H : Type} (enc : TypeId × Value → H) : ∃ places, DataW.whole enc Tryd.prog ((laidWorld os).forCall (fun _ _ => 0) ⟨#[], #[.agg #[.int .i64 0, .int .i64 0, .slice none 0 0], .int .i64 0, .int .i64 0, .slice none 0 0], []⟩).memory Tryd.f6.params.toList Rows.imageRunsSpec.vars false #[Value.agg #[.int .i64 0, .int .i64 0, .slice none 0 0], .int .i64 0, .int .i64 0, .slice none 0 0].toList 8 = some ([.agg [.lit (.int .i64 0), .lit (.int .i64 0), .nil], .lit (.int .i64 0), .lit (.int .i64 0), .nil], [], places) :=
  ⟨[], by kernel_rfl⟩

theorem lifted (os : Os) (started : os.Started) (H : Type) (enc : TypeId × Value → H) (F : Stop.Interp) :
    ReturnsInHanded {} Tryd.checked os 6 .any ((OpenSpec.ofChange Rows.imageRunsSpec).preRow enc Tryd.prog Tryd.f6 Rows.imageRunsRow.domain false Rows.imageRunsRow.laid) (((OpenSpec.ofChange Rows.imageRunsSpec).at F).post enc Tryd.prog Tryd.f6 false true false false) := by
  obtain ⟨places, hx⟩ := reads os enc
  refine returnsInHanded_of_row (C := Tryd.checked) (s := OpenSpec.ofChange Rows.imageRunsSpec) own started (by kernel_rfl) Tryd.func6
    (witness_row_at (enc := enc) (C := Tryd.checked) false (laidWorld os) #[.agg #[.int .i64 0, .int .i64 0, .slice none 0 0], .int .i64 0, .int .i64 0, .slice none 0 0] rfl (by kernel_rfl) (by kernel_rfl) (by kernel_rfl)
      (OpenSpec.preRow_of_cond 8 hx (by kernel_rfl) (fun k hk => by cases hk) (by kernel_rfl) (laid_met os))) ?_
  intro W base args ds gs before hval hW _ _ _ hL _ _
  exact contract H enc W base args ds gs before hval hW hL

theorem said : Rows.ImageRunsSaid :=
  OpenClaim.holds_of_cond 6 Tryd.f6 rfl rfl rfl rfl rfl rfl rfl ⟨rfl, rfl, rfl, rfl, rfl⟩ rfl rfl rfl rfl rfl (by kernel_rfl) Tryd.func6 (by kernel_rfl)
    (of_decide_eq_true (by kernel_rfl)) (by unfold Func.isWrapper; first | (rw [if_pos (by decide +kernel)]; kernel_rfl) | (rw [if_neg (by decide +kernel)]; exact ⟨rfl, rfl⟩))
    (fun os started H enc _ F => by rw [OpenClaim.pre_eq_preRow]; exact lifted os started H enc F)

theorem plain (f : FuncId) (fn : Func) (hf : Tryd.pinned.checked.prog.funcNamed "custos/custoslaw01.ImageRuns" = some f) (hfn : Tryd.pinned.checked.prog.funcs[f]? = some fn) :
    false = Tryd.pinned.checked.prog.looks [] ∧ ∀ (j : Nat) t, fn.params[j]? = some t → Tryd.pinned.checked.prog.wantsStandIn t = false := by
  obtain rfl : f = 6 := Option.some.inj ((show Tryd.prog.funcNamed "custos/custoslaw01.ImageRuns" = some 6 by kernel_rfl).symm.trans hf) |>.symm
  obtain rfl : fn = Tryd.f6 := (Option.some.inj (Tryd.func6.symm.trans hfn)).symm
  refine ⟨by kernel_rfl, fun j t ht => ?_⟩
  have h := List.all_eq_true.1 (show (Tryd.f6.params.toList.all fun t => !(Tryd.prog.wantsStandIn t)) = true by kernel_rfl) t (by simpa using Array.mem_of_getElem? ht)
  have h2 : Tryd.prog.wantsStandIn t = false := by simpa using h
  exact h2

/-- The card. -/
theorem card : Rows.ImageRunsCardSaid :=
  Claim7.holds_tied_plain_at .later [] _ _ _ _ said (fun _ h => by cases h) (by kernel_rfl) (fun _ h => by cases h) imageRuns_row_tie rfl ⟨rfl, rfl⟩ (by kernel_rfl) rfl plain (by kernel_rfl)
end Go.Proofs.YtamgihgnhnfknaaDoor.ImageRuns
