/-
  ImageBrushes returns true for every image and every two numbers, and leaves the image as it was. No condition.
-/
import Derived.Test.YtlbgcpmiedjmoaaDoorAmBF
set_option linter.unusedSimpArgs false
set_option linter.unusedVariables false
set_option maxHeartbeats 4000000
set_option maxRecDepth 100000
namespace Go.Am
open Go
attribute [local irreducible] Wp WpO WpX WpE

/-- How far ink reaches on a line that is gone through from its end: the value at the d-th place from the end. -/
def reach (o : Nat → Bool) (c n : Nat) : Nat → Nat
 | 0 => if o (c - 1) = true then n else 0
 | d + 1 => if o (c - 1 - (d + 1)) = true then n else reach o c n d - 1
theorem reach_iff {o : Nat → Bool} {c n : Nat} : ∀ {d : Nat}, d < c → ∀ t, t < reach o c n d ↔ ∃ e, e + t < n ∧ c - 1 - d + e < c ∧ o (c - 1 - d + e) = true
 | 0, hd, t => by
  simp only [reach]
  split
  ·rename_i h
   exact ⟨fun q => ⟨0, by omega, by omega, h⟩, fun ⟨e, h1, _, _⟩ => by omega⟩
  ·rename_i h
   refine ⟨fun q => by omega, fun ⟨e, h1, h2, h3⟩ => ?_⟩
   obtain rfl : e = 0 := by omega
   exact absurd h3 h
 | d + 1, hd, t => by
  simp only [reach]
  split
  ·rename_i h
   exact ⟨fun q => ⟨0, by omega, by omega, h⟩, fun ⟨e, h1, _, _⟩ => by omega⟩
  ·rename_i h
   have ih := reach_iff (o := o) (c := c) (n := n) (d := d) (by omega) (t + 1)
   constructor
   ·intro q
    obtain ⟨e, h1, h2, h3⟩ := ih.1 (by omega)
    refine ⟨e + 1, by omega, by omega, ?_⟩
    rw [show c - 1 - (d + 1) + (e + 1) = c - 1 - d + e by omega]; exact h3
   ·rintro ⟨e, h1, h2, h3⟩
    cases e with
    | zero => exact absurd h3 h
    | succ e =>
     have := ih.2 ⟨e, by omega, by omega, by rw [show c - 1 - d + e = c - 1 - (d + 1) + (e + 1) by omega]; exact h3⟩
     omega
theorem reach_le {o : Nat → Bool} {c n : Nat} (d : Nat) : reach o c n d ≤ n := by
 induction d with
 | zero => simp only [reach]; split <;> omega
 | succ d ih => simp only [reach]; split <;> omega
/-- What is left behind d places. -/
def leftB (o : Nat → Bool) (c n : Nat) : Nat → Nat
 | 0 => 0
 | d + 1 => reach o c n d - 1
theorem reach_left {o : Nat → Bool} {c n d : Nat} : reach o c n d = if o (c - 1 - d) = true then n else leftB o c n d := by
 cases d with
 | zero => rfl
 | succ d => rfl
theorem left_le {o : Nat → Bool} {c n : Nat} (d : Nat) : leftB o c n d ≤ n := by
 cases d with
 | zero => exact Nat.zero_le _
 | succ d => have := reach_le (o := o) (c := c) (n := n) d; simp only [leftB]; omega

/-- The ink of a line of a list. -/
def lineO (l : List UInt8) (f s : Nat) (j : Nat) : Bool := l.getD (f + j * s) 0 == 1
def onLine (f s c t : Nat) : Bool := decide (f ≤ t ∧ (t - f) % s = 0 ∧ (t - f) / s < c)
def spP (l : List UInt8) (f s c n d : Nat) : List UInt8 := (List.range l.length).map fun t => if onLine f s c t = true ∧ c - 1 - (t - f) / s < d then (if 0 < reach (lineO l f s) c n (c - 1 - (t - f) / s) then 1 else 0) else l.getD t 0
theorem spP_length (l : List UInt8) (f s c n d : Nat) : (spP l f s c n d).length = l.length := by simp [spP]
theorem spP_zero (l : List UInt8) (f s c n : Nat) : spP l f s c n 0 = l := by
 refine list_eq (spP_length _ _ _ _ _ _) fun t ht => ?_
 rw [spP_length] at ht
 rw [spP, getD_map ht, if_neg (by omega)]
theorem line_at {f s c j : Nat} (hs : 0 < s) (hj : j < c) : onLine f s c (f + j * s) = true ∧ (f + j * s - f) / s = j := by
 have h1 : f + j * s - f = j * s := by omega
 have h2 : j * s / s = j := Nat.mul_div_cancel _ hs
 have h3 : j * s % s = 0 := Nat.mul_mod_left _ _
 unfold onLine
 rw [h1, h2, h3]
 exact ⟨decide_eq_true ⟨by omega, rfl, hj⟩, rfl⟩
theorem line_of {f s c t : Nat} (h : onLine f s c t = true) : t = f + (t - f) / s * s ∧ (t - f) / s < c := by
 have h := of_decide_eq_true h
 have h1 := Nat.div_add_mod (t - f) s
 rw [Nat.mul_comm] at h1
 omega
theorem spP_get {l : List UInt8} {f s c n d : Nat} (hs : 0 < s) (hd : d < c) (hi : f + (c - 1 - d) * s < l.length) : (spP l f s c n d)[f + (c - 1 - d) * s]'(by rw [spP_length]; exact hi) = l[f + (c - 1 - d) * s] := by
 obtain ⟨h1, h2⟩ := line_at (f := f) (s := s) (c := c) (j := c - 1 - d) hs (by omega)
 simp only [spP]
 rw [get_map, h2, if_neg (by omega)]
 simp [hi]
theorem spP_on {l : List UInt8} {f s c n d : Nat} (hs : 0 < s) (hd : d < c) (hi : f + (c - 1 - d) * s < l.length) (hr : 0 < reach (lineO l f s) c n d) : (spP l f s c n d).set (f + (c - 1 - d) * s) 1 = spP l f s c n (d + 1) := by
 refine list_eq (by rw [List.length_set, spP_length, spP_length]) fun t ht => ?_
 rw [List.length_set, spP_length] at ht
 rw [List.getD_eq_getElem?_getD, List.getElem?_set, spP_length]
 by_cases h1 : f + (c - 1 - d) * s = t
 ·obtain ⟨h2, h3⟩ := line_at (f := f) (s := s) (c := c) (j := c - 1 - d) hs (by omega)
  rw [if_pos h1, if_pos (by omega), Option.getD_some, spP, getD_map ht, ← h1, h3, if_pos ⟨h2, by omega⟩, show c - 1 - (c - 1 - d) = d by omega, if_pos hr]
 ·rw [if_neg h1, ← List.getD_eq_getElem?_getD, spP, spP, getD_map ht, getD_map ht]
  by_cases h2 : onLine f s c t = true
  ·have h3 := line_of h2
   have hz := Nat.zero_le ((t - f) / s)
   have h4 : c - 1 - (t - f) / s ≠ d := fun e => h1 (by rw [h3.1]; congr 2; omega)
   by_cases h5 : c - 1 - (t - f) / s < d
   ·have c1 : onLine f s c t = true ∧ c - 1 - (t - f) / s < d := ⟨h2, h5⟩
    have c2 : onLine f s c t = true ∧ c - 1 - (t - f) / s < d + 1 := ⟨h2, by omega⟩
    rw [if_pos c1, if_pos c2]
   ·rw [if_neg (fun q => h5 q.2), if_neg (fun q => by have := q.2; omega)]
  ·rw [if_neg (fun q => h2 q.1), if_neg (fun q => h2 q.1)]
theorem spP_off {l : List UInt8} {f s c n d : Nat} (hs : 0 < s) (hd : d < c) (hi : f + (c - 1 - d) * s < l.length) (hr : reach (lineO l f s) c n d = 0) (h0 : l.getD (f + (c - 1 - d) * s) 0 = 0) : spP l f s c n d = spP l f s c n (d + 1) := by
 refine list_eq (by rw [spP_length, spP_length]) fun t ht => ?_
 rw [spP_length] at ht
 rw [spP, spP, getD_map ht, getD_map ht]
 by_cases h2 : onLine f s c t = true
 ·have h3 := line_of h2
  have hz := Nat.zero_le ((t - f) / s)
  by_cases h4 : c - 1 - (t - f) / s = d
  ·rw [if_neg (by omega), if_pos ⟨h2, by omega⟩, h4, hr, if_neg (by omega), h3.1, show (t - f) / s = c - 1 - d by omega, h0]
  ·by_cases h5 : c - 1 - (t - f) / s < d
   ·have c1 : onLine f s c t = true ∧ c - 1 - (t - f) / s < d := ⟨h2, h5⟩
    have c2 : onLine f s c t = true ∧ c - 1 - (t - f) / s < d + 1 := ⟨h2, by omega⟩
    rw [if_pos c1, if_pos c2]
   ·rw [if_neg (fun q => h5 q.2), if_neg (fun q => by have := q.2; omega)]
 ·rw [if_neg (fun q => h2 q.1), if_neg (fun q => h2 q.1)]
/-- A line spread. -/
def spL (l : List UInt8) (f s c n : Nat) : List UInt8 := spP l f s c n c
theorem spL_get {l : List UInt8} {f s c n t : Nat} (ht : t < l.length) : (spL l f s c n).getD t 0 = if onLine f s c t = true then (if ∃ e, e < n ∧ (t - f) / s + e < c ∧ l.getD (t + e * s) 0 = 1 then 1 else 0) else l.getD t 0 := by
 rw [spL, spP, getD_map ht]
 by_cases h2 : onLine f s c t = true
 ·have h3 := line_of h2
  have hz := Nat.zero_le ((t - f) / s)
  rw [if_pos ⟨h2, by omega⟩, if_pos h2]
  have h4 := reach_iff (o := lineO l f s) (c := c) (n := n) (d := c - 1 - (t - f) / s) (by omega) 0
  have h5 : (∃ e, e < n ∧ (t - f) / s + e < c ∧ l.getD (t + e * s) 0 = 1) ↔ 0 < reach (lineO l f s) c n (c - 1 - (t - f) / s) := by
   rw [h4]
   constructor
   ·rintro ⟨e, q1, q2, q3⟩
    refine ⟨e, by omega, by omega, ?_⟩
    unfold lineO
    rw [show c - 1 - (c - 1 - (t - f) / s) + e = (t - f) / s + e by omega, Nat.add_mul, ← Nat.add_assoc, ← h3.1, q3]; rfl
   ·rintro ⟨e, q1, q2, q3⟩
    refine ⟨e, by omega, by omega, ?_⟩
    unfold lineO at q3
    rw [show c - 1 - (c - 1 - (t - f) / s) + e = (t - f) / s + e by omega, Nat.add_mul, ← Nat.add_assoc, ← h3.1] at q3
    simpa using q3
  by_cases h6 : 0 < reach (lineO l f s) c n (c - 1 - (t - f) / s)
  ·rw [if_pos h6, if_pos (h5.2 h6)]
  ·rw [if_neg h6, if_neg (fun q => h6 (h5.1 q))]
 ·rw [if_neg (fun q => h2 q.1), if_neg h2]
theorem spL_length (l : List UInt8) (f s c n : Nat) : (spL l f s c n).length = l.length := spP_length _ _ _ _ _ _

/- rows, then columns -/
def brR (l : List UInt8) (a w y : Nat) : List UInt8 := (List.range l.length).map fun t => if t / a < y then (if ∃ e, e < w ∧ t % a + e < a ∧ l.getD (t + e) 0 = 1 then 1 else 0) else l.getD t 0
def brC (l : List UInt8) (a b h x : Nat) : List UInt8 := (List.range l.length).map fun t => if t % a < x then (if ∃ e, e < h ∧ t / a + e < b ∧ l.getD (t + e * a) 0 = 1 then 1 else 0) else l.getD t 0
theorem brR_length (l : List UInt8) (a w y : Nat) : (brR l a w y).length = l.length := by simp [brR]
theorem brC_length (l : List UInt8) (a b h x : Nat) : (brC l a b h x).length = l.length := by simp [brC]
theorem brR_zero (l : List UInt8) (a w : Nat) : brR l a w 0 = l := by
 refine list_eq (brR_length _ _ _ _) fun t ht => ?_
 rw [brR_length] at ht
 have hz := Nat.zero_le (t / a)
 rw [brR, getD_map ht, if_neg (by omega)]
theorem brC_zero (l : List UInt8) (a b h : Nat) : brC l a b h 0 = l := by
 refine list_eq (brC_length _ _ _ _ _) fun t ht => ?_
 rw [brC_length] at ht
 have hz := Nat.zero_le (t % a)
 rw [brC, getD_map ht, if_neg (by omega)]
theorem ex_congr {n : Nat} {P Q : Nat → Prop} (h : ∀ e, e < n → (P e ↔ Q e)) : (∃ e, e < n ∧ P e) ↔ ∃ e, e < n ∧ Q e :=
 ⟨fun ⟨e, h1, h2⟩ => ⟨e, h1, (h e h1).1 h2⟩, fun ⟨e, h1, h2⟩ => ⟨e, h1, (h e h1).2 h2⟩⟩
theorem pos_of_lt {a b t : Nat} (h : t < a * b) : 0 < a := by
 rcases Nat.eq_zero_or_pos a with h0 | h0
 ·subst h0; rw [Nat.zero_mul] at h; omega
 ·exact h0
theorem brR_succ {l : List UInt8} {a b w y : Nat} (hl : l.length = a * b) (hy : y < b) : spL (brR l a w y) (y * a) 1 a w = brR l a w (y + 1) := by
 refine list_eq (by rw [spL_length, brR_length, brR_length]) fun t ht => ?_
 rw [spL_length, brR_length] at ht
 have ha := pos_of_lt (a := a) (b := b) (t := t) (by omega)
 rw [spL_get (by rw [brR_length]; exact ht)]
 have hri := row_iff (t := t) (y := y) ha
 have hmod := row_mod (a := a) (t := t)
 have hml := Nat.mod_lt t ha
 by_cases h1 : onLine (y * a) 1 a t = true
 ·have h2 := of_decide_eq_true h1
  rw [Nat.mod_one, Nat.div_one] at h2
  have h3 : t / a = y := hri.2 (by omega)
  rw [h3] at hmod
  have e1 : (brR l a w (y + 1)).getD t 0 = if ∃ e, e < w ∧ t % a + e < a ∧ l.getD (t + e) 0 = 1 then 1 else 0 := by
   have c1 : t / a < y + 1 := by omega
   rw [brR, getD_map ht, if_pos c1]
  rw [if_pos h1, e1, brR, Nat.div_one]
  have e : (∃ e, e < w ∧ t - y * a + e < a ∧ ((List.range l.length).map fun t => if t / a < y then (if ∃ e, e < w ∧ t % a + e < a ∧ l.getD (t + e) 0 = 1 then (1 : UInt8) else 0) else l.getD t 0).getD (t + e * 1) 0 = 1) ↔ ∃ e, e < w ∧ t % a + e < a ∧ l.getD (t + e) 0 = 1 := by
   apply ex_congr
   intro e he
   rw [Nat.mul_one, show t - y * a = t % a by omega]
   have hr := row_le (a := a) hy
   constructor
   ·rintro ⟨q1, q2⟩
    have h4 : (t + e) / a = y := (row_iff ha).2 (by omega)
    rw [getD_map (by omega), if_neg (by omega)] at q2
    exact ⟨q1, q2⟩
   ·rintro ⟨q1, q2⟩
    have h4 : (t + e) / a = y := (row_iff ha).2 (by omega)
    rw [getD_map (by omega), if_neg (by omega)]
    exact ⟨q1, q2⟩
  by_cases h5 : ∃ e, e < w ∧ t % a + e < a ∧ l.getD (t + e) 0 = 1
  ·rw [if_pos (e.2 h5), if_pos h5]
  ·rw [if_neg (fun q => h5 (e.1 q)), if_neg h5]
 ·have h2 : t / a ≠ y := fun e => h1 (decide_eq_true (by have := hri.1 e; rw [Nat.mod_one, Nat.div_one]; omega))
  rw [if_neg h1, brR, brR, getD_map ht, getD_map ht]
  by_cases h3 : t / a < y
  ·have c1 : t / a < y + 1 := by omega
   rw [if_pos h3, if_pos c1]
  ·have c1 : ¬ t / a < y + 1 := by omega
   rw [if_neg h3, if_neg c1]
theorem col_on {a b t x : Nat} (ha : 0 < a) (ht : t < a * b) (hx : x < a) : onLine x a b t = true ↔ t % a = x := by
 have hmod := row_mod (a := a) (t := t)
 have hml := Nat.mod_lt t ha
 have hdl := div_lt' ht
 constructor
 ·intro h
  have h1 := line_of h
  have hz := Nat.zero_le ((t - x) / a)
  have h2 := row_at (a := a) (x := x) (y := (t - x) / a) hx
  rw [show (t - x) / a * a + x = t by omega] at h2
  exact h2.2
 ·intro h
  have h1 : t - x = t / a * a := by omega
  have h2 : t / a * a / a = t / a := Nat.mul_div_cancel _ ha
  have h3 : t / a * a % a = 0 := Nat.mul_mod_left _ _
  exact decide_eq_true ⟨by omega, by rw [h1]; exact h3, by rw [h1, h2]; exact hdl⟩
theorem brC_succ {l : List UInt8} {a b h x : Nat} (hl : l.length = a * b) (hx : x < a) : spL (brC l a b h x) x a b h = brC l a b h (x + 1) := by
 refine list_eq (by rw [spL_length, brC_length, brC_length]) fun t ht => ?_
 rw [spL_length, brC_length] at ht
 have ha : 0 < a := by omega
 have hmod := row_mod (a := a) (t := t)
 have hml := Nat.mod_lt t ha
 rw [spL_get (by rw [brC_length]; exact ht)]
 have hon := col_on (a := a) (b := b) (t := t) (x := x) ha (by omega) hx
 by_cases h1 : onLine x a b t = true
 ·have h2 := hon.1 h1
  have h3 : t - x = t / a * a := by omega
  have h4 : (t - x) / a = t / a := by rw [h3]; exact Nat.mul_div_cancel _ ha
  have e1 : (brC l a b h (x + 1)).getD t 0 = if ∃ e, e < h ∧ t / a + e < b ∧ l.getD (t + e * a) 0 = 1 then 1 else 0 := by
   have c1 : t % a < x + 1 := by omega
   rw [brC, getD_map ht, if_pos c1]
  rw [if_pos h1, e1, brC, h4]
  have e : (∃ e, e < h ∧ t / a + e < b ∧ ((List.range l.length).map fun t => if t % a < x then (if ∃ e, e < h ∧ t / a + e < b ∧ l.getD (t + e * a) 0 = 1 then (1 : UInt8) else 0) else l.getD t 0).getD (t + e * a) 0 = 1) ↔ ∃ e, e < h ∧ t / a + e < b ∧ l.getD (t + e * a) 0 = 1 := by
   apply ex_congr
   intro e he
   have key : t / a + e < b → t + e * a < l.length ∧ (t + e * a) % a = x := fun q => by
    have hr := row_le (a := a) (b := b) (y := t / a + e) q
    have h5 : t + e * a = (t / a + e) * a + x := by rw [Nat.add_mul]; omega
    have h6 := row_at (a := a) (x := x) (y := t / a + e) hx
    rw [← h5] at h6
    exact ⟨by rw [h5, hl]; omega, h6.2⟩
   constructor
   ·rintro ⟨q1, q2⟩
    rw [getD_map (key q1).1, (key q1).2, if_neg (by omega)] at q2
    exact ⟨q1, q2⟩
   ·rintro ⟨q1, q2⟩
    rw [getD_map (key q1).1, (key q1).2, if_neg (by omega)]
    exact ⟨q1, q2⟩
  by_cases h5 : ∃ e, e < h ∧ t / a + e < b ∧ l.getD (t + e * a) 0 = 1
  ·rw [if_pos (e.2 h5), if_pos h5]
  ·rw [if_neg (fun q => h5 (e.1 q)), if_neg h5]
 ·have h2 : t % a ≠ x := fun e => h1 (hon.2 e)
  rw [if_neg h1, brC, brC, getD_map ht, getD_map ht]
  by_cases h3 : t % a < x
  ·have c1 : t % a < x + 1 := by omega
   rw [if_pos h3, if_pos c1]
  ·have c1 : ¬ t % a < x + 1 := by omega
   rw [if_neg h3, if_neg c1]
/-- A dilated image. -/
def dilL (l : List UInt8) (a b w h : Nat) : List UInt8 := brC (brR l a w b) a b h a
theorem dilL_length (l : List UInt8) (a b w h : Nat) : (dilL l a b w h).length = l.length := by rw [dilL, brC_length, brR_length]
theorem ok_dil {a b w h : Nat} {l : List UInt8} (ok : Ok a b l) : Ok a b (dilL l a b w h) := by
 refine ⟨ok.wa, ok.hb, by rw [dilL_length, ok.len], ok_map_range fun t => ?_⟩
 split
 ·split
  ·exact Or.inr rfl
  ·exact Or.inl rfl
 ·by_cases ht : t < l.length
  ·rw [brR, getD_map ht]
   split
   ·split
    ·exact Or.inr rfl
    ·exact Or.inl rfl
   ·exact getD01 ok.px t
  ·left; rw [List.getD_eq_getElem?_getD, List.getElem?_eq_none (by rw [brR_length]; omega)]; rfl
/-- Is a place ink? -/
def inkP (l : List UInt8) (a x y : Nat) : Prop := l.getD (y * a + x) 0 = 1
theorem dil_iff {a b w h x y : Nat} {l : List UInt8} (hl : l.length = a * b) (hx : x < a) (hy : y < b) : inkP (dilL l a b w h) a x y ↔ ∃ i j, i < w ∧ j < h ∧ x + i < a ∧ y + j < b ∧ inkP l a (x + i) (y + j) := by
 have hlt := idx_lt hx hy
 have h1 := row_at (a := a) (x := x) (y := y) hx
 unfold inkP
 rw [dilL, brC, getD_map (by rw [brR_length]; omega), h1.1, h1.2, if_pos hx]
 have e : (∃ e, e < h ∧ y + e < b ∧ (brR l a w b).getD (y * a + x + e * a) 0 = 1) ↔ ∃ i j, i < w ∧ j < h ∧ x + i < a ∧ y + j < b ∧ l.getD ((y + j) * a + (x + i)) 0 = 1 := by
  have key : ∀ e, y + e < b → ((brR l a w b).getD (y * a + x + e * a) 0 = 1 ↔ ∃ i, i < w ∧ x + i < a ∧ l.getD ((y + e) * a + (x + i)) 0 = 1) := by
   intro e he
   have hlt2 := idx_lt hx he
   have h2 := row_at (a := a) (x := x) (y := y + e) hx
   have h3 : y * a + x + e * a = (y + e) * a + x := by rw [Nat.add_mul]; omega
   rw [h3, brR, getD_map (by omega), h2.1, h2.2, if_pos he]
   by_cases h4 : ∃ i, i < w ∧ x + i < a ∧ l.getD ((y + e) * a + x + i) 0 = 1
   ·rw [if_pos h4]
    obtain ⟨i, q1, q2, q3⟩ := h4
    exact ⟨fun _ => ⟨i, q1, q2, by rw [← Nat.add_assoc]; exact q3⟩, fun _ => rfl⟩
   ·rw [if_neg h4]
    exact ⟨fun q => (by cases q), fun ⟨i, q1, q2, q3⟩ => absurd ⟨i, q1, q2, by rw [Nat.add_assoc]; exact q3⟩ h4⟩
  constructor
  ·rintro ⟨j, q1, q2, q3⟩
   obtain ⟨i, q4, q5, q6⟩ := (key j q2).1 q3
   exact ⟨i, j, q4, q1, q5, q2, q6⟩
  ·rintro ⟨i, j, q1, q2, q3, q4, q5⟩
   exact ⟨j, q2, q4, (key j q4).2 ⟨i, q1, q3, q5⟩⟩
 by_cases h5 : ∃ e, e < h ∧ y + e < b ∧ (brR l a w b).getD (y * a + x + e * a) 0 = 1
 ·rw [if_pos h5]; exact ⟨fun _ => e.1 h5, fun _ => rfl⟩
 ·rw [if_neg h5]; exact ⟨fun q => (by cases q), fun q => absurd (e.2 q) h5⟩

/- erosion -/
def revAll (l : List UInt8) : List UInt8 := revAt l 0 l.length
theorem revAll_length (l : List UInt8) : (revAll l).length = l.length := revAt_length _ _ _
theorem revAll_get {l : List UInt8} {t : Nat} (ht : t < l.length) : (revAll l).getD t 0 = l.getD (l.length - 1 - t) 0 := by
 rw [revAll, revAt, getD_map ht, if_pos (by omega)]
 congr 1; omega
theorem ok_rev {a b : Nat} {l : List UInt8} (ok : Ok a b l) : Ok a b (revAll l) := by
 refine ⟨ok.wa, ok.hb, by rw [revAll_length, ok.len], ok_map_range fun t => ?_⟩
 split <;> exact getD01 ok.px _
def eroL (l : List UInt8) (a b w h : Nat) : List UInt8 := (revAll (dilL (revAll (l.map (· ^^^ 1))) a b w h)).map (· ^^^ 1)
theorem ok_ero {a b w h : Nat} {l : List UInt8} (ok : Ok a b l) : Ok a b (eroL l a b w h) := ok_map (ok_rev (ok_dil (ok_rev (ok_map ok))))
theorem not_get {l : List UInt8} (h : pxOk l = true) {t : Nat} (ht : t < l.length) : (l.map (· ^^^ 1)).getD t 0 = 1 ↔ ¬ l.getD t 0 = 1 := by
 have e : (l.map (· ^^^ 1)).getD t 0 = l.getD t 0 ^^^ 1 := by simp [ht]
 rw [e]
 rcases px_get h ht with h1 | h1 <;> rw [h1] <;> decide
theorem ero_iff {a b w h x y : Nat} {l : List UInt8} (ok : Ok a b l) (hx : x < a) (hy : y < b) : inkP (eroL l a b w h) a x y ↔ ∀ i j, i < w → j < h → i ≤ x → j ≤ y → inkP l a (x - i) (y - j) := by
 have hlen := ok.len
 have hlt := idx_lt hx hy
 have ok1 := ok_map ok
 have ok2 := ok_rev ok1
 have ok3 := ok_dil (w := w) (h := h) ok2
 have flip : ∀ {x y : Nat}, x < a → y < b → a * b - 1 - (y * a + x) = (b - 1 - y) * a + (a - 1 - x) := by
  intro x y hx hy
  have h1 := idx_lt hx hy
  have h2 : (b - 1 - y) * a + (y + 1) * a = a * b := by
   rw [← Nat.add_mul, show b - 1 - y + (y + 1) = b by omega, Nat.mul_comm]
  rw [Nat.add_mul, Nat.one_mul] at h2
  omega
 unfold inkP
 rw [eroL, not_get (ok_rev ok3).px (by rw [(ok_rev ok3).len]; omega), revAll_get (by rw [ok3.len]; omega), ok3.len, flip hx hy]
 have hd := dil_iff (w := w) (h := h) (l := revAll (l.map (· ^^^ 1))) (x := a - 1 - x) (y := b - 1 - y) ok2.len (by omega) (by omega)
 unfold inkP at hd
 rw [hd]
 constructor
 ·intro q i j h1 h2 h3 h4
  refine Classical.byContradiction fun h5 => q ⟨i, j, h1, h2, by omega, by omega, ?_⟩
  rw [revAll_get (by rw [ok1.len]; exact idx_lt (by omega) (by omega)), ok1.len, flip (by omega) (by omega), not_get ok.px (by rw [ok.len]; exact idx_lt (by omega) (by omega))]
  rw [show a - 1 - (a - 1 - x + i) = x - i by omega, show b - 1 - (b - 1 - y + j) = y - j by omega]
  exact h5
 ·rintro q ⟨i, j, h1, h2, h3, h4, h5⟩
  rw [revAll_get (by rw [ok1.len]; exact idx_lt (by omega) (by omega)), ok1.len, flip (by omega) (by omega), not_get ok.px (by rw [ok.len]; exact idx_lt (by omega) (by omega))] at h5
  rw [show a - 1 - (a - 1 - x + i) = x - i by omega, show b - 1 - (b - 1 - y + j) = y - j by omega] at h5
  exact h5 (q i j h1 h2 (by omega) (by omega))
end Go.Am

set_option maxHeartbeats 4000000
set_option maxRecDepth 100000
set_option synthInstance.maxHeartbeats 4000000
set_option synthInstance.maxSize 100000
namespace Go.Am
open Go
attribute [local irreducible] Wp WpO WpX WpE

/-- The place of a line at which a spread is. -/
def spI (f s c d : Nat) : Int := (f : Int) + ((c : Int) - 1 - (d : Int)) * (s : Int)
theorem spI_nat {f s c d : Nat} (h : d < c) : spI f s c d = ((f + (c - 1 - d) * s : Nat) : Int) := by
 unfold spI
 rw [show (c : Int) - 1 - (d : Int) = ((c - 1 - d : Nat) : Int) by omega]
 rw [← Int.natCast_mul, ← Int.natCast_add]
theorem spI_next (f s c d : Nat) : spI f s c d - (s : Int) = spI f s c (d + 1) := by
 unfold spI
 rw [show (c : Int) - 1 - ((d + 1 : Nat) : Int) = ((c : Int) - 1 - (d : Int)) - 1 by omega, Int.sub_mul ((c : Int) - 1 - (d : Int)) 1, Int.one_mul]
 omega
theorem spI_end (f s c : Nat) : spI f s c c = (f : Int) - s := by
 unfold spI
 rw [show (c : Int) - 1 - (c : Int) = -1 by omega]
 omega
theorem K_spread {p : AVal} {H : AHeap} {l : List UInt8} {f s c n : Nat} [hp : BytesI H p l] [hw : WrS H p] (hpx : pxOk l = true) (hl : l.length ≤ 409600) (hs : 0 < s) (hs2 : s ≤ 640) (hf : f ≤ 409600) (hc : c ≤ 640) (hn1 : 0 < n) (hn2 : n ≤ 64) (hin : ∀ j, j < c → f + j * s < l.length) : Con ext prog 1 161 [p, .int .i64 f, .int .i64 s, .int .i64 c, .int .i64 n] H fun _ H' => BytesI H' p (spL l f s c n) ∧ WrS H' p ∧ ExtP H H' p := by
 refine con_of (show prog 161 = some c161 from rfl) rfl rfl fun nn hn => ?_
 haveI := hp.one
 have hcs : c * s ≤ 640 * 640 := Nat.mul_le_mul hc hs2
 have k0 : ((c : Int) - 1) * (s : Int) = ((c * s : Nat) : Int) - s := by rw [Int.sub_mul, Int.one_mul, Int.natCast_mul]
 have k1 : IntKind.i64.wrap ((c : Int) - 1) = (c : Int) - 1 := w64 (by omega)
 have k2 : IntKind.i64.wrap (((c : Int) - 1) * (s : Int)) = ((c * s : Nat) : Int) - s := by rw [k0]; exact w64 (by omega)
 have k3 : IntKind.i64.wrap ((f : Int) + (((c * s : Nat) : Int) - s)) = spI f s c 0 := by
  rw [w64 (by omega)]
  unfold spI
  rw [← k0]
  congr 2
  omega
 have bd : ∀ d, d ≤ c → -1000000 ≤ spI f s c d ∧ spI f s c d ≤ 1000000 := by
  intro d hd
  by_cases h : d < c
  ·rw [spI_nat h]
   have := hin (c - 1 - d) (by omega)
   omega
  ·obtain rfl : d = c := by omega
   rw [spI_end]; omega
 try simp only [↓nrmL, nrmZ, Nat.reduceEqDiff, ↓reduceIte, Nat.reduceAdd, Int.reduceBEq, Int.reduceBNe, k1, k2, k3]
 refine sq ?_
 refine rg fun KF hKF => ?_
 refine mI rfl ?_
 refine WpO.nil (hKF _ _ ?_)
 refine sq ?_
 refine rg fun KF hKF => ?_
 refine mI rfl ?_
 refine mI rfl ?_
 refine Fo.bin rfl rfl rfl (by simp only [↓nrmL, nrmZ, Nat.reduceEqDiff, ↓reduceIte, Nat.reduceAdd, Int.reduceBEq, Int.reduceBNe, k1, k2, k3]; rfl) ?_
 refine mI rfl ?_
 refine Fo.bin rfl rfl rfl (by simp only [↓nrmL, nrmZ, Nat.reduceEqDiff, ↓reduceIte, Nat.reduceAdd, Int.reduceBEq, Int.reduceBNe, k1, k2, k3]; rfl) ?_
 refine Fo.bin rfl rfl rfl (by simp only [↓nrmL, nrmZ, Nat.reduceEqDiff, ↓reduceIte, Nat.reduceAdd, Int.reduceBEq, Int.reduceBNe, k1, k2, k3]; rfl) ?_
 refine mI rfl ?_
 refine WpO.nil (hKF _ _ ?_)
 refine Wp.block ?_
 dsimp only [cond_true, cond_false]
 refine Wp.loopS [10, 11, 18, 19, 20, 21, 22, 23, 24, 25, 26, 27, 28, 29, 30, 31, 32, 33, 34, 35, 36] (fun d : Nat => [(10, .int .i64 (leftB (lineO l f s) c n d : Nat)), (11, .int .i64 (spI f s c d))]) (fun H3 d H2 => d ≤ c ∧ BytesI H2 p (spP l f s c n d) ∧ WrS H2 p ∧ ExtP0 H3 H2 p) (fun d => c - d) 0 rfl (fun _ => rfl) ⟨rfl, rfl, trivial⟩ ⟨Nat.zero_le _, by rw [spP_zero]; infer_instance, inferInstance, inferInstance⟩ (by unfold fuel0 at hn; omega) ?_
 rintro d g H2 ⟨hd, hb2, hw2, ⟨hx2⟩⟩
 have hbd := bd d hd
 simp only [↓nrmL, nrmZ, Nat.reduceEqDiff, ↓reduceIte, Nat.reduceAdd, Int.reduceBEq, Int.reduceBNe]
 by_cases hdc : d < c
 ·have hge : decide (spI f s c d ≥ (f : Int)) = true := by rw [spI_nat hdc]; exact decide_eq_true (by omega)
  have hil := hin (c - 1 - d) (by omega)
  have hnat := spI_nat (f := f) (s := s) hdc
  have hnx := spI_next f s c d
  have hbd2 := bd (d + 1) (by omega)
  have hwn : IntKind.i64.wrap (((f + (c - 1 - d) * s : Nat) : Int) - (s : Int)) = spI f s c (d + 1) := by rw [← hnat, hnx]; exact w64 (by omega)
  have hwn' : IntKind.i64.wrap (spI f s c d - (s : Int)) = spI f s c (d + 1) := by rw [hnx]; exact w64 (by omega)
  have hget := spP_get (l := l) (n := n) hs hdc hil
  have hfl := spP_length l f s c n d
  have hrl := reach_left (o := lineO l f s) (c := c) (n := n) (d := d)
  have hll := left_le (o := lineO l f s) (c := c) (n := n) d
  have hls : leftB (lineO l f s) c n (d + 1) = reach (lineO l f s) c n d - 1 := rfl
  have hgd : l.getD (f + (c - 1 - d) * s) 0 = l[f + (c - 1 - d) * s] := by simp [hil]
  rw [hnat] at hge
  cases ho : lineO l f s (c - 1 - d)
  ·have hne : (l[f + (c - 1 - d) * s] == 1) = false := by unfold lineO at ho; rw [hgd] at ho; exact ho
   rw [ho, if_neg (by decide)] at hrl
   have h0 : l.getD (f + (c - 1 - d) * s) 0 = 0 := by
    rcases px_get hpx hil with q | q
    ·exact q
    ·rw [hgd] at q; rw [q] at hne; cases hne
   cases hg : decide (((leftB (lineO l f s) c n d : Nat) : Int) > 0)
   ·have hz : leftB (lineO l f s) c n d = 0 := by have := of_decide_eq_false hg; omega
    have hr0 : reach (lineO l f s) c n d = 0 := by rw [hrl, hz]
    have hls0 : leftB (lineO l f s) c n (d + 1) = leftB (lineO l f s) c n d := by rw [hls, hr0, hz]
    try simp only [↓nrmL, nrmZ, Nat.reduceEqDiff, ↓reduceIte, Nat.reduceAdd, Int.reduceBEq, Int.reduceBNe, hnat, hge, hget, u8_one, hne, hg]
    refine sq ?_
    refine sq ?_
    refine rg fun KF hKF => ?_
    refine mI rfl ?_
    refine mI rfl ?_
    refine Fo.bin rfl rfl rfl (by simp only [↓nrmL, nrmZ, Nat.reduceEqDiff, ↓reduceIte, Nat.reduceAdd, Int.reduceBEq, Int.reduceBNe, hnat, hge, hget, u8_one, hne, hg]; rfl) ?_
    refine WpO.nil (hKF _ _ ?_)
    refine Wp.cond (b := true) rfl ?_
    refine Wp.skip ?_
    refine sq ?_
    refine Wp.block ?_
    refine sq ?_
    refine sq ?_
    refine rg fun KF hKF => ?_
    refine Fo.mov (by simp only [↓nrmL, nrmK, Nat.reduceEqDiff, ↓reduceIte]; rfl) ?_
    refine mI rfl ?_
    refine Fo.idx (by simp only [↓nrmL, nrmK, Nat.reduceEqDiff, ↓reduceIte]; rfl) rfl ?_ (by simp only [↓nrmL, nrmZ, Nat.reduceEqDiff, ↓reduceIte, Nat.reduceAdd, Int.reduceBEq, Int.reduceBNe, hnat, hge, hget, u8_one, hne, hg]; rfl) ?_; (focus omega)
    refine Fo.ldB rfl ?_ (by simp only [↓nrmL, nrmZ, Nat.reduceEqDiff, ↓reduceIte, Nat.reduceAdd, Int.reduceBEq, Int.reduceBNe, hnat, hge, hget, u8_one, hne, hg]; rfl) ?_; (focus omega)
    refine Fo.bin rfl rfl rfl (by simp only [↓nrmL, nrmZ, Nat.reduceEqDiff, ↓reduceIte, Nat.reduceAdd, Int.reduceBEq, Int.reduceBNe, hnat, hge, hget, u8_one, hne, hg]; rfl) ?_
    refine WpO.nil (hKF _ _ ?_)
    refine Wp.cond (b := false) rfl ?_
    refine Wp.skip ?_
    refine sq ?_
    refine rg fun KF hKF => ?_
    refine mI rfl ?_
    refine Fo.bin rfl rfl rfl (by simp only [↓nrmL, nrmZ, Nat.reduceEqDiff, ↓reduceIte, Nat.reduceAdd, Int.reduceBEq, Int.reduceBNe, hnat, hge, hget, u8_one, hne, hg]; rfl) ?_
    refine WpO.nil (hKF _ _ ?_)
    refine Wp.cond (b := false) rfl ?_
    refine Wp.skip ?_
    refine rg fun KF hKF => ?_
    refine mI rfl ?_
    refine mI rfl ?_
    refine Fo.bin rfl rfl rfl rfl ?_
    refine mI rfl ?_
    refine WpO.nil (hKF _ _ ?_)
    dsimp only [cond_true, cond_false]
    rw [spP_off hs hdc hil hr0 h0] at hb2
    refine ⟨d + 1, by omega, ⟨by simp only [↓nrmL, nrmZ, Nat.reduceEqDiff, ↓reduceIte, Nat.reduceAdd, Int.reduceBEq, Int.reduceBNe]; rw [hls0], by first | (simp only [↓nrmL, nrmZ, Nat.reduceEqDiff, ↓reduceIte, Nat.reduceAdd, Int.reduceBEq, Int.reduceBNe]; rw [hwn]; done) | (simp only [↓nrmL, nrmZ, Nat.reduceEqDiff, ↓reduceIte, Nat.reduceAdd, Int.reduceBEq, Int.reduceBNe]; rw [hwn']; done), trivial⟩, by omega, inferInstance, inferInstance, inferInstance⟩
   ·have hz : 0 < leftB (lineO l f s) c n d := by have := of_decide_eq_true hg; omega
    have hr0 : 0 < reach (lineO l f s) c n d := by rw [hrl]; exact hz
    have hls1 : IntKind.i64.wrap (((leftB (lineO l f s) c n d : Nat) : Int) - 1) = ((leftB (lineO l f s) c n (d + 1) : Nat) : Int) := by rw [w64 (by omega), hls, hrl]; omega
    try simp only [↓nrmL, nrmZ, Nat.reduceEqDiff, ↓reduceIte, Nat.reduceAdd, Int.reduceBEq, Int.reduceBNe, hnat, hge, hget, u8_one, hne, hg]
    refine sq ?_
    refine sq ?_
    refine rg fun KF hKF => ?_
    refine mI rfl ?_
    refine mI rfl ?_
    refine Fo.bin rfl rfl rfl (by simp only [↓nrmL, nrmZ, Nat.reduceEqDiff, ↓reduceIte, Nat.reduceAdd, Int.reduceBEq, Int.reduceBNe, hnat, hge, hget, u8_one, hne, hg]; rfl) ?_
    refine WpO.nil (hKF _ _ ?_)
    refine Wp.cond (b := true) rfl ?_
    refine Wp.skip ?_
    refine sq ?_
    refine Wp.block ?_
    refine sq ?_
    refine sq ?_
    refine rg fun KF hKF => ?_
    refine Fo.mov (by simp only [↓nrmL, nrmK, Nat.reduceEqDiff, ↓reduceIte]; rfl) ?_
    refine mI rfl ?_
    refine Fo.idx (by simp only [↓nrmL, nrmK, Nat.reduceEqDiff, ↓reduceIte]; rfl) rfl ?_ (by simp only [↓nrmL, nrmZ, Nat.reduceEqDiff, ↓reduceIte, Nat.reduceAdd, Int.reduceBEq, Int.reduceBNe, hnat, hge, hget, u8_one, hne, hg]; rfl) ?_; (focus omega)
    refine Fo.ldB rfl ?_ (by simp only [↓nrmL, nrmZ, Nat.reduceEqDiff, ↓reduceIte, Nat.reduceAdd, Int.reduceBEq, Int.reduceBNe, hnat, hge, hget, u8_one, hne, hg]; rfl) ?_; (focus omega)
    refine Fo.bin rfl rfl rfl (by simp only [↓nrmL, nrmZ, Nat.reduceEqDiff, ↓reduceIte, Nat.reduceAdd, Int.reduceBEq, Int.reduceBNe, hnat, hge, hget, u8_one, hne, hg]; rfl) ?_
    refine WpO.nil (hKF _ _ ?_)
    refine Wp.cond (b := false) rfl ?_
    refine Wp.skip ?_
    refine sq ?_
    refine rg fun KF hKF => ?_
    refine mI rfl ?_
    refine Fo.bin rfl rfl rfl (by simp only [↓nrmL, nrmZ, Nat.reduceEqDiff, ↓reduceIte, Nat.reduceAdd, Int.reduceBEq, Int.reduceBNe, hnat, hge, hget, u8_one, hne, hg]; rfl) ?_
    refine WpO.nil (hKF _ _ ?_)
    refine Wp.cond (b := true) rfl ?_
    refine sq ?_
    refine rg fun KF hKF => ?_
    refine Fo.mov (by simp only [↓nrmL, nrmK, Nat.reduceEqDiff, ↓reduceIte]; rfl) ?_
    refine mI rfl ?_
    refine Fo.idx (by simp only [↓nrmL, nrmK, Nat.reduceEqDiff, ↓reduceIte]; rfl) rfl ?_ (by simp only [↓nrmL, nrmZ, Nat.reduceEqDiff, ↓reduceIte, Nat.reduceAdd, Int.reduceBEq, Int.reduceBNe, hnat, hge, hget, u8_one, hne, hg]; rfl) ?_; (focus omega)
    refine WpO.do' (WpX.stB 1 rfl rfl rfl (by rw [hfl]; exact hil) fun H4 hb4 hw4 hx4 => ?_)
    rw [spP_on hs hdc hil hr0] at hb4
    refine WpO.nil (hKF _ _ ?_)
    refine rg fun KF hKF => ?_
    refine mI rfl ?_
    refine Fo.bin rfl rfl rfl rfl ?_
    refine mI rfl ?_
    refine WpO.nil (hKF _ _ ?_)
    refine rg fun KF hKF => ?_
    refine mI rfl ?_
    refine mI rfl ?_
    refine Fo.bin rfl rfl rfl rfl ?_
    refine mI rfl ?_
    refine WpO.nil (hKF _ _ ?_)
    dsimp only [cond_true, cond_false]
    refine ⟨d + 1, by omega, ⟨by simp only [↓nrmL, nrmZ, Nat.reduceEqDiff, ↓reduceIte, Nat.reduceAdd, Int.reduceBEq, Int.reduceBNe]; rw [hls1], by first | (simp only [↓nrmL, nrmZ, Nat.reduceEqDiff, ↓reduceIte, Nat.reduceAdd, Int.reduceBEq, Int.reduceBNe]; rw [hwn]; done) | (simp only [↓nrmL, nrmZ, Nat.reduceEqDiff, ↓reduceIte, Nat.reduceAdd, Int.reduceBEq, Int.reduceBNe]; rw [hwn']; done), trivial⟩, by omega, inferInstance, inferInstance, inferInstance⟩
  ·have hne : (l[f + (c - 1 - d) * s] == 1) = true := by unfold lineO at ho; rw [hgd] at ho; exact ho
   rw [ho, if_pos rfl] at hrl
   have hr0 : 0 < reach (lineO l f s) c n d := by rw [hrl]; exact hn1
   have hg : decide (((n : Nat) : Int) > 0) = true := decide_eq_true (by omega)
   have hls1 : IntKind.i64.wrap (((n : Nat) : Int) - 1) = ((leftB (lineO l f s) c n (d + 1) : Nat) : Int) := by rw [w64 (by omega), hls, hrl]; omega
   try simp only [↓nrmL, nrmZ, Nat.reduceEqDiff, ↓reduceIte, Nat.reduceAdd, Int.reduceBEq, Int.reduceBNe, hnat, hge, hget, u8_one, hne, hg]
   refine sq ?_
   refine sq ?_
   refine rg fun KF hKF => ?_
   refine mI rfl ?_
   refine mI rfl ?_
   refine Fo.bin rfl rfl rfl (by simp only [↓nrmL, nrmZ, Nat.reduceEqDiff, ↓reduceIte, Nat.reduceAdd, Int.reduceBEq, Int.reduceBNe, hnat, hge, hget, u8_one, hne, hg]; rfl) ?_
   refine WpO.nil (hKF _ _ ?_)
   refine Wp.cond (b := true) rfl ?_
   refine Wp.skip ?_
   refine sq ?_
   refine Wp.block ?_
   refine sq ?_
   refine sq ?_
   refine rg fun KF hKF => ?_
   refine Fo.mov (by simp only [↓nrmL, nrmK, Nat.reduceEqDiff, ↓reduceIte]; rfl) ?_
   refine mI rfl ?_
   refine Fo.idx (by simp only [↓nrmL, nrmK, Nat.reduceEqDiff, ↓reduceIte]; rfl) rfl ?_ (by simp only [↓nrmL, nrmZ, Nat.reduceEqDiff, ↓reduceIte, Nat.reduceAdd, Int.reduceBEq, Int.reduceBNe, hnat, hge, hget, u8_one, hne, hg]; rfl) ?_; (focus omega)
   refine Fo.ldB rfl ?_ (by simp only [↓nrmL, nrmZ, Nat.reduceEqDiff, ↓reduceIte, Nat.reduceAdd, Int.reduceBEq, Int.reduceBNe, hnat, hge, hget, u8_one, hne, hg]; rfl) ?_; (focus omega)
   refine Fo.bin rfl rfl rfl (by simp only [↓nrmL, nrmZ, Nat.reduceEqDiff, ↓reduceIte, Nat.reduceAdd, Int.reduceBEq, Int.reduceBNe, hnat, hge, hget, u8_one, hne, hg]; rfl) ?_
   refine WpO.nil (hKF _ _ ?_)
   refine Wp.cond (b := true) rfl ?_
   refine rg fun KF hKF => ?_
   refine mI rfl ?_
   refine mI rfl ?_
   refine WpO.nil (hKF _ _ ?_)
   refine sq ?_
   refine rg fun KF hKF => ?_
   refine mI rfl ?_
   refine Fo.bin rfl rfl rfl (by simp only [↓nrmL, nrmZ, Nat.reduceEqDiff, ↓reduceIte, Nat.reduceAdd, Int.reduceBEq, Int.reduceBNe, hnat, hge, hget, u8_one, hne, hg]; rfl) ?_
   refine WpO.nil (hKF _ _ ?_)
   refine Wp.cond (b := true) rfl ?_
   refine sq ?_
   refine rg fun KF hKF => ?_
   refine Fo.mov (by simp only [↓nrmL, nrmK, Nat.reduceEqDiff, ↓reduceIte]; rfl) ?_
   refine mI rfl ?_
   refine Fo.idx (by simp only [↓nrmL, nrmK, Nat.reduceEqDiff, ↓reduceIte]; rfl) rfl ?_ (by simp only [↓nrmL, nrmZ, Nat.reduceEqDiff, ↓reduceIte, Nat.reduceAdd, Int.reduceBEq, Int.reduceBNe, hnat, hge, hget, u8_one, hne, hg]; rfl) ?_; (focus omega)
   refine WpO.do' (WpX.stB 1 rfl rfl rfl (by rw [hfl]; exact hil) fun H4 hb4 hw4 hx4 => ?_)
   rw [spP_on hs hdc hil hr0] at hb4
   refine WpO.nil (hKF _ _ ?_)
   refine rg fun KF hKF => ?_
   refine mI rfl ?_
   refine Fo.bin rfl rfl rfl rfl ?_
   refine mI rfl ?_
   refine WpO.nil (hKF _ _ ?_)
   refine rg fun KF hKF => ?_
   refine mI rfl ?_
   refine mI rfl ?_
   refine Fo.bin rfl rfl rfl rfl ?_
   refine mI rfl ?_
   refine WpO.nil (hKF _ _ ?_)
   dsimp only [cond_true, cond_false]
   refine ⟨d + 1, by omega, ⟨by simp only [↓nrmL, nrmZ, Nat.reduceEqDiff, ↓reduceIte, Nat.reduceAdd, Int.reduceBEq, Int.reduceBNe]; rw [hls1], by first | (simp only [↓nrmL, nrmZ, Nat.reduceEqDiff, ↓reduceIte, Nat.reduceAdd, Int.reduceBEq, Int.reduceBNe]; rw [hwn]; done) | (simp only [↓nrmL, nrmZ, Nat.reduceEqDiff, ↓reduceIte, Nat.reduceAdd, Int.reduceBEq, Int.reduceBNe]; rw [hwn']; done), trivial⟩, by omega, inferInstance, inferInstance, inferInstance⟩
 ·obtain rfl : d = c := by omega
  have hge : decide (spI f s d d ≥ (f : Int)) = false := by rw [spI_end]; exact decide_eq_false (by omega)
  try simp only [↓nrmL, nrmZ, Nat.reduceEqDiff, ↓reduceIte, Nat.reduceAdd, Int.reduceBEq, Int.reduceBNe, hge]
  refine sq ?_
  refine sq ?_
  refine rg fun KF hKF => ?_
  refine mI rfl ?_
  refine mI rfl ?_
  refine Fo.bin rfl rfl rfl (by simp only [↓nrmL, nrmZ, Nat.reduceEqDiff, ↓reduceIte, Nat.reduceAdd, Int.reduceBEq, Int.reduceBNe, hge]; rfl) ?_
  refine WpO.nil (hKF _ _ ?_)
  refine Wp.cond (b := false) rfl ?_
  refine Wp.exit ?_
  dsimp only [cond_true, cond_false]
  exact ⟨trivial, _, rfl, hb2, hw2, (inferInstance : ExtP0 H H2 p).ext⟩

theorem px_brR {a w y : Nat} {l : List UInt8} (h : pxOk l = true) : pxOk (brR l a w y) = true := ok_map_range fun t => by
 split
 ·split
  ·exact Or.inr rfl
  ·exact Or.inl rfl
 ·exact getD01 h t
theorem px_brC {a b h x : Nat} {l : List UInt8} (hp : pxOk l = true) : pxOk (brC l a b h x) = true := ok_map_range fun t => by
 split
 ·split
  ·exact Or.inr rfl
  ·exact Or.inl rfl
 ·exact getD01 hp t
theorem K_brush {a b w h : Nat} {p : AVal} {H : AHeap} {l : List UInt8} [hp : BytesI H p l] [hw : WrS H p] (ok : Ok a b l) (hw1 : 0 < w) (hw2 : w ≤ 64) (hh1 : 0 < h) (hh2 : h ≤ 64) : Con ext prog 2 125 [.agg [.int .i64 a, .int .i64 b, p], .int .i64 w, .int .i64 h] H fun _ H' => BytesI H' p (dilL l a b w h) ∧ WrS H' p ∧ ExtP H H' p := by
 refine con_of (show prog 125 = some c125 from rfl) rfl rfl fun n hn => ?_
 haveI := hp.one
 have hwa := ok.wa
 have hhb := ok.hb
 have hm : a * b ≤ 640 * 640 := Nat.mul_le_mul ok.wa ok.hb
 have hl := ok.len
 refine sq ?_
 refine rg fun KF hKF => ?_
 refine Fo.boxA rfl ?_
 refine WpO.nil (hKF _ _ ?_)
 refine sq ?_
 refine sq ?_
 refine rg fun KF hKF => ?_
 refine Fo.fa rfl ?_
 refine Fo.ld rfl rfl ?_
 refine mI rfl ?_
 refine WpO.nil (hKF _ _ ?_)
 refine Wp.block ?_
 dsimp only [cond_true, cond_false]
 refine Wp.loopS [6, 10, 11, 12, 13, 14, 15, 16, 17, 18, 19, 20, 21, 22, 23] (fun y : Nat => [(10, .int .i64 y)]) (fun H3 y H2 => y ≤ b ∧ BytesI H2 p (brR l a w y) ∧ WrS H2 p ∧ ExtP0 H3 H2 p) (fun y => b - y) 0 rfl (fun _ => rfl) ⟨rfl, trivial⟩ ⟨Nat.zero_le _, by rw [brR_zero]; infer_instance, inferInstance, inferInstance⟩ (by unfold fuel0 at hn; omega) ?_
 rintro y g H2 ⟨hy, hb2, hwr2, ⟨hx2⟩⟩
 simp only [↓nrmL, nrmZ, Nat.reduceEqDiff, ↓reduceIte, Nat.reduceAdd, Int.reduceBEq, Int.reduceBNe]
 cases hc : decide ((y : Int) < (b : Int))
 ·have hyb : y = b := by have := of_decide_eq_false hc; omega
  subst hyb
  try simp only [↓nrmL, nrmZ, Nat.reduceEqDiff, ↓reduceIte, Nat.reduceAdd, Int.reduceBEq, Int.reduceBNe, hc]
  refine sq ?_
  refine rg fun KF hKF => ?_
  refine Fo.bin rfl rfl rfl (by simp only [↓nrmL, nrmZ, Nat.reduceEqDiff, ↓reduceIte, Nat.reduceAdd, Int.reduceBEq, Int.reduceBNe, hc]; rfl) ?_
  refine WpO.nil (hKF _ _ ?_)
  refine sq ?_
  refine Wp.cond (b := false) rfl ?_
  refine Wp.exit ?_
  refine sq ?_
  refine rg fun KF hKF => ?_
  refine Fo.fa rfl ?_
  refine Fo.ld rfl rfl ?_
  refine mI rfl ?_
  refine WpO.nil (hKF _ _ ?_)
  refine Wp.block ?_
  dsimp only [cond_true, cond_false]
  refine Wp.loopS [7, 26, 27, 28, 29, 30, 31, 32, 33, 34, 35, 36, 37, 38] (fun x : Nat => [(26, .int .i64 x)]) (fun H3 x H4 => x ≤ a ∧ BytesI H4 p (brC (brR l a w y) a y h x) ∧ WrS H4 p ∧ ExtP0 H3 H4 p) (fun x => a - x) 0 rfl (fun _ => rfl) ⟨rfl, trivial⟩ ⟨Nat.zero_le _, by rw [brC_zero]; infer_instance, inferInstance, inferInstance⟩ (by unfold fuel0 at hn; omega) ?_
  rintro x g2 H4 ⟨hx0, hb4, hwr4, ⟨hx4⟩⟩
  simp only [↓nrmL, nrmZ, Nat.reduceEqDiff, ↓reduceIte, Nat.reduceAdd, Int.reduceBEq, Int.reduceBNe]
  cases hc2 : decide ((x : Int) < (a : Int))
  ·have hxa : x = a := by have := of_decide_eq_false hc2; omega
   subst hxa
   try simp only [↓nrmL, nrmZ, Nat.reduceEqDiff, ↓reduceIte, Nat.reduceAdd, Int.reduceBEq, Int.reduceBNe, hc2]
   refine sq ?_
   refine rg fun KF hKF => ?_
   refine Fo.bin rfl rfl rfl (by simp only [↓nrmL, nrmZ, Nat.reduceEqDiff, ↓reduceIte, Nat.reduceAdd, Int.reduceBEq, Int.reduceBNe, hc2]; rfl) ?_
   refine WpO.nil (hKF _ _ ?_)
   refine sq ?_
   refine Wp.cond (b := false) rfl ?_
   refine Wp.exit ?_
   dsimp only [cond_true, cond_false]
   exact ⟨trivial, _, rfl, hb4, hwr4, (inferInstance : ExtP0 H H4 p).ext⟩
  ·have hxa : x < a := by have := of_decide_eq_true hc2; omega
   have hw3 := wa1 (a := x) (by omega)
   have hlen : (brC (brR l a w y) a y h x).length = a * y := by rw [brC_length, brR_length, hl]
   try simp only [↓nrmL, nrmZ, Nat.reduceEqDiff, ↓reduceIte, Nat.reduceAdd, Int.reduceBEq, Int.reduceBNe, hc2]
   refine sq ?_
   refine rg fun KF hKF => ?_
   refine Fo.bin rfl rfl rfl (by simp only [↓nrmL, nrmZ, Nat.reduceEqDiff, ↓reduceIte, Nat.reduceAdd, Int.reduceBEq, Int.reduceBNe, hc2]; rfl) ?_
   refine WpO.nil (hKF _ _ ?_)
   refine sq ?_
   refine Wp.cond (b := true) rfl ?_
   refine Wp.skip ?_
   refine sq ?_
   refine Wp.block ?_
   refine sq ?_
   refine rg fun KF hKF => ?_
   refine mI rfl ?_
   refine mI rfl ?_
   refine WpO.nil (hKF _ _ ?_)
   refine rg fun KF hKF => ?_
   refine Fo.fa rfl ?_
   refine Fo.ld rfl rfl ?_
   refine mI rfl ?_
   refine Fo.fa rfl ?_
   refine Fo.ld rfl rfl ?_
   refine Fo.fa rfl ?_
   refine Fo.ld rfl rfl ?_
   refine mI rfl ?_
   refine WpO.do (WpX.conD hn rfl rfl (by simp only [↓nrmL, nrmZ, Nat.reduceEqDiff, ↓reduceIte, Nat.reduceAdd, Int.reduceBEq, Int.reduceBNe, List.map] <;> rfl) (K_spread (l := brC (brR l a w y) a y h x) (f := x) (s := a) (c := y) (n := h) (px_brC (px_brR ok.px)) (by omega) (by omega) (by omega) (by omega) (by omega) hh1 hh2 (fun j hj => by rw [hlen]; have := idx_lt hxa hj; omega)) fun v H5 h5 => ?_)
   obtain ⟨hb5, hwr5, hx5⟩ := h5
   rw [brC_succ (by rw [brR_length, hl]) hxa] at hb5
   refine WpO.nil (hKF _ _ ?_)
   refine rg fun KF hKF => ?_
   refine Fo.bin rfl rfl rfl rfl ?_
   refine mI rfl ?_
   refine WpO.nil (hKF _ _ ?_)
   dsimp only [cond_true, cond_false]
   refine ⟨x + 1, by omega, ⟨by simp only [↓nrmL, nrmZ, Nat.reduceEqDiff, ↓reduceIte, Nat.reduceAdd, Int.reduceBEq, Int.reduceBNe]; rw [hw3], trivial⟩, hxa, hb5, hwr5, inferInstance⟩
 ·have hyb : y < b := by have := of_decide_eq_true hc; omega
  have hw3 := wa1 (a := y) (by omega)
  have hr := row_le (a := a) hyb
  have hlen : (brR l a w y).length = a * b := by rw [brR_length, hl]
  have hmul : IntKind.i64.wrap ((y : Int) * (a : Int)) = ((y * a : Nat) : Int) := wm (by omega)
  try simp only [↓nrmL, nrmZ, Nat.reduceEqDiff, ↓reduceIte, Nat.reduceAdd, Int.reduceBEq, Int.reduceBNe, hc, hmul]
  refine sq ?_
  refine rg fun KF hKF => ?_
  refine Fo.bin rfl rfl rfl (by simp only [↓nrmL, nrmZ, Nat.reduceEqDiff, ↓reduceIte, Nat.reduceAdd, Int.reduceBEq, Int.reduceBNe, hc, hmul]; rfl) ?_
  refine WpO.nil (hKF _ _ ?_)
  refine sq ?_
  refine Wp.cond (b := true) rfl ?_
  refine Wp.skip ?_
  refine sq ?_
  refine Wp.block ?_
  refine sq ?_
  refine rg fun KF hKF => ?_
  refine mI rfl ?_
  refine mI rfl ?_
  refine WpO.nil (hKF _ _ ?_)
  refine rg fun KF hKF => ?_
  refine Fo.fa rfl ?_
  refine Fo.ld rfl rfl ?_
  refine mI rfl ?_
  refine Fo.fa rfl ?_
  refine Fo.ld rfl rfl ?_
  refine Fo.bin rfl rfl rfl (by simp only [↓nrmL, nrmZ, Nat.reduceEqDiff, ↓reduceIte, Nat.reduceAdd, Int.reduceBEq, Int.reduceBNe, hc, hmul]; rfl) ?_
  refine Fo.fa rfl ?_
  refine Fo.ld rfl rfl ?_
  refine mI rfl ?_
  refine WpO.do (WpX.conD hn rfl rfl (by simp only [↓nrmL, nrmZ, Nat.reduceEqDiff, ↓reduceIte, Nat.reduceAdd, Int.reduceBEq, Int.reduceBNe, List.map] <;> rfl) (K_spread (l := brR l a w y) (f := y * a) (s := 1) (c := a) (n := w) (px_brR ok.px) (by omega) (by omega) (by omega) (by omega) (by omega) hw1 hw2 (fun j hj => by rw [hlen]; omega)) fun v H5 h5 => ?_)
  obtain ⟨hb5, hwr5, hx5⟩ := h5
  rw [brR_succ hl hyb] at hb5
  refine WpO.nil (hKF _ _ ?_)
  refine rg fun KF hKF => ?_
  refine Fo.bin rfl rfl rfl rfl ?_
  refine mI rfl ?_
  refine WpO.nil (hKF _ _ ?_)
  dsimp only [cond_true, cond_false]
  refine ⟨y + 1, by omega, ⟨by simp only [↓nrmL, nrmZ, Nat.reduceEqDiff, ↓reduceIte, Nat.reduceAdd, Int.reduceBEq, Int.reduceBNe]; rw [hw3], trivial⟩, hyb, hb5, hwr5, inferInstance⟩

instance K_checkBrush {p : AVal} {H : AHeap} {w h x y : Int} {l : List UInt8} [hp : BytesI H p l] : PureCon ext prog 124 [.agg [.int .i64 w, .int .i64 h, p], .int .i64 x, .int .i64 y] H 4 (.int .i64 (bif Img.err ⟨w, h, l⟩ == 0 then (bif decide (x < 1) || decide (x > 64) || decide (y < 1) || decide (y > 64) then 1 else 0) else Img.err ⟨w, h, l⟩)) := ⟨by
 refine con_of (show prog 124 = some c124 from rfl) rfl rfl fun n hn => ?_
 haveI := hp.one
 cases h0 : (Img.err ⟨w, h, l⟩ == 0)
 ·skip
  try simp only [↓nrmL, nrmZ, Nat.reduceEqDiff, ↓reduceIte, Nat.reduceAdd, Int.reduceBEq, Int.reduceBNe, h0, bne]
  refine sq ?_
  refine rg fun KF hKF => ?_
  refine Fo.boxA rfl ?_
  refine mI rfl ?_
  refine WpO.nil (hKF _ _ ?_)
  refine sq ?_
  refine sq ?_
  refine rg fun KF hKF => ?_
  refine Fo.ldN rfl rfl (by simp only [↓nrmL, nrmZ, Nat.reduceEqDiff, ↓reduceIte, Nat.reduceAdd, Int.reduceBEq, Int.reduceBNe, h0, bne]; rfl) ?_
  refine Fo.pcall (v' := ?_) hn rfl (by simp only [↓nrmL, nrmZ, Nat.reduceEqDiff, ↓reduceIte, Nat.reduceAdd, Int.reduceBEq, Int.reduceBNe, h0, bne, List.map]; rfl) rfl ?hv fun _ _ => ?_; case hv => rfl
  refine mI rfl ?_
  refine WpO.nil (hKF _ _ ?_)
  refine sq ?_
  refine rg fun KF hKF => ?_
  refine mI rfl ?_
  refine Fo.bin rfl rfl rfl (by simp only [↓nrmL, nrmZ, Nat.reduceEqDiff, ↓reduceIte, Nat.reduceAdd, Int.reduceBEq, Int.reduceBNe, h0, bne]; rfl) ?_
  refine WpO.nil (hKF _ _ ?_)
  refine Wp.cond (b := true) rfl ?_
  refine sq ?_
  refine rg fun KF hKF => ?_
  refine mI rfl ?_
  refine mI rfl ?_
  refine WpO.nil (hKF _ _ ?_)
  refine Wp.ret ?_
  dsimp only [cond_true, cond_false]
  refine ⟨trivial, _, (by first | rfl | exact getAllC rfl rfl rfl rfl | exact getAllT rfl (getAllC rfl rfl rfl rfl) | exact getAllC rfl rfl rfl (getAllC rfl rfl rfl rfl) | exact getAllC1 rfl rfl rfl), ?_⟩
  exact ⟨rfl, Ext0.ext⟩
 ·cases h1 : decide (x < 1)
  ·cases h2 : decide (x > 64)
   ·cases h3 : decide (y < 1)
    ·cases h4 : decide (y > 64)
     ·skip
      try simp only [↓nrmL, nrmZ, Nat.reduceEqDiff, ↓reduceIte, Nat.reduceAdd, Int.reduceBEq, Int.reduceBNe, h0, bne, h1, h2, h3, h4]
      refine sq ?_
      refine rg fun KF hKF => ?_
      refine Fo.boxA rfl ?_
      refine mI rfl ?_
      refine WpO.nil (hKF _ _ ?_)
      refine sq ?_
      refine sq ?_
      refine rg fun KF hKF => ?_
      refine Fo.ldN rfl rfl (by simp only [↓nrmL, nrmZ, Nat.reduceEqDiff, ↓reduceIte, Nat.reduceAdd, Int.reduceBEq, Int.reduceBNe, h0, bne, h1, h2, h3, h4]; rfl) ?_
      refine Fo.pcall (v' := ?_) hn rfl (by simp only [↓nrmL, nrmZ, Nat.reduceEqDiff, ↓reduceIte, Nat.reduceAdd, Int.reduceBEq, Int.reduceBNe, h0, bne, h1, h2, h3, h4, List.map]; rfl) rfl ?hv fun _ _ => ?_; case hv => rfl
      refine mI rfl ?_
      refine WpO.nil (hKF _ _ ?_)
      refine sq ?_
      refine rg fun KF hKF => ?_
      refine mI rfl ?_
      refine Fo.bin rfl rfl rfl (by simp only [↓nrmL, nrmZ, Nat.reduceEqDiff, ↓reduceIte, Nat.reduceAdd, Int.reduceBEq, Int.reduceBNe, h0, bne, h1, h2, h3, h4]; rfl) ?_
      refine WpO.nil (hKF _ _ ?_)
      refine Wp.cond (b := false) rfl ?_
      refine Wp.skip ?_
      refine sq ?_
      refine sq ?_
      refine rg fun KF hKF => ?_
      refine mI rfl ?_
      refine Fo.bin rfl rfl rfl (by simp only [↓nrmL, nrmZ, Nat.reduceEqDiff, ↓reduceIte, Nat.reduceAdd, Int.reduceBEq, Int.reduceBNe, h0, bne, h1, h2, h3, h4]; rfl) ?_
      refine mB rfl ?_
      refine Fo.yes rfl rfl ?_
      refine mI rfl ?_
      refine Fo.yes rfl rfl ?_
      refine Fo.bin rfl rfl rfl (by simp only [↓nrmL, nrmZ, Nat.reduceEqDiff, ↓reduceIte, Nat.reduceAdd, Int.reduceBEq, Int.reduceBNe, h0, bne, h1, h2, h3, h4]; rfl) ?_
      refine fB rfl rfl ?_
      refine mB rfl ?_
      refine Fo.yes rfl rfl ?_
      refine mI rfl ?_
      refine Fo.yes rfl rfl ?_
      refine Fo.bin rfl rfl rfl (by simp only [↓nrmL, nrmZ, Nat.reduceEqDiff, ↓reduceIte, Nat.reduceAdd, Int.reduceBEq, Int.reduceBNe, h0, bne, h1, h2, h3, h4]; rfl) ?_
      refine fB rfl rfl ?_
      refine mB rfl ?_
      refine Fo.yes rfl rfl ?_
      refine mI rfl ?_
      refine Fo.yes rfl rfl ?_
      refine Fo.bin rfl rfl rfl (by simp only [↓nrmL, nrmZ, Nat.reduceEqDiff, ↓reduceIte, Nat.reduceAdd, Int.reduceBEq, Int.reduceBNe, h0, bne, h1, h2, h3, h4]; rfl) ?_
      refine fB rfl rfl ?_
      refine WpO.nil (hKF _ _ ?_)
      refine Wp.cond (b := false) rfl ?_
      refine Wp.skip ?_
      refine sq ?_
      refine rg fun KF hKF => ?_
      refine mI rfl ?_
      refine WpO.nil (hKF _ _ ?_)
      refine Wp.ret ?_
      dsimp only [cond_true, cond_false]
      refine ⟨trivial, _, (by first | rfl | exact getAllC rfl rfl rfl rfl | exact getAllT rfl (getAllC rfl rfl rfl rfl) | exact getAllC rfl rfl rfl (getAllC rfl rfl rfl rfl) | exact getAllC1 rfl rfl rfl), ?_⟩
      exact ⟨rfl, Ext0.ext⟩
     ·skip
      try simp only [↓nrmL, nrmZ, Nat.reduceEqDiff, ↓reduceIte, Nat.reduceAdd, Int.reduceBEq, Int.reduceBNe, h0, bne, h1, h2, h3, h4]
      refine sq ?_
      refine rg fun KF hKF => ?_
      refine Fo.boxA rfl ?_
      refine mI rfl ?_
      refine WpO.nil (hKF _ _ ?_)
      refine sq ?_
      refine sq ?_
      refine rg fun KF hKF => ?_
      refine Fo.ldN rfl rfl (by simp only [↓nrmL, nrmZ, Nat.reduceEqDiff, ↓reduceIte, Nat.reduceAdd, Int.reduceBEq, Int.reduceBNe, h0, bne, h1, h2, h3, h4]; rfl) ?_
      refine Fo.pcall (v' := ?_) hn rfl (by simp only [↓nrmL, nrmZ, Nat.reduceEqDiff, ↓reduceIte, Nat.reduceAdd, Int.reduceBEq, Int.reduceBNe, h0, bne, h1, h2, h3, h4, List.map]; rfl) rfl ?hv fun _ _ => ?_; case hv => rfl
      refine mI rfl ?_
      refine WpO.nil (hKF _ _ ?_)
      refine sq ?_
      refine rg fun KF hKF => ?_
      refine mI rfl ?_
      refine Fo.bin rfl rfl rfl (by simp only [↓nrmL, nrmZ, Nat.reduceEqDiff, ↓reduceIte, Nat.reduceAdd, Int.reduceBEq, Int.reduceBNe, h0, bne, h1, h2, h3, h4]; rfl) ?_
      refine WpO.nil (hKF _ _ ?_)
      refine Wp.cond (b := false) rfl ?_
      refine Wp.skip ?_
      refine sq ?_
      refine sq ?_
      refine rg fun KF hKF => ?_
      refine mI rfl ?_
      refine Fo.bin rfl rfl rfl (by simp only [↓nrmL, nrmZ, Nat.reduceEqDiff, ↓reduceIte, Nat.reduceAdd, Int.reduceBEq, Int.reduceBNe, h0, bne, h1, h2, h3, h4]; rfl) ?_
      refine mB rfl ?_
      refine Fo.yes rfl rfl ?_
      refine mI rfl ?_
      refine Fo.yes rfl rfl ?_
      refine Fo.bin rfl rfl rfl (by simp only [↓nrmL, nrmZ, Nat.reduceEqDiff, ↓reduceIte, Nat.reduceAdd, Int.reduceBEq, Int.reduceBNe, h0, bne, h1, h2, h3, h4]; rfl) ?_
      refine fB rfl rfl ?_
      refine mB rfl ?_
      refine Fo.yes rfl rfl ?_
      refine mI rfl ?_
      refine Fo.yes rfl rfl ?_
      refine Fo.bin rfl rfl rfl (by simp only [↓nrmL, nrmZ, Nat.reduceEqDiff, ↓reduceIte, Nat.reduceAdd, Int.reduceBEq, Int.reduceBNe, h0, bne, h1, h2, h3, h4]; rfl) ?_
      refine fB rfl rfl ?_
      refine mB rfl ?_
      refine Fo.yes rfl rfl ?_
      refine mI rfl ?_
      refine Fo.yes rfl rfl ?_
      refine Fo.bin rfl rfl rfl (by simp only [↓nrmL, nrmZ, Nat.reduceEqDiff, ↓reduceIte, Nat.reduceAdd, Int.reduceBEq, Int.reduceBNe, h0, bne, h1, h2, h3, h4]; rfl) ?_
      refine fB rfl rfl ?_
      refine WpO.nil (hKF _ _ ?_)
      refine Wp.cond (b := true) rfl ?_
      refine sq ?_
      refine rg fun KF hKF => ?_
      refine mI rfl ?_
      refine WpO.nil (hKF _ _ ?_)
      refine Wp.ret ?_
      dsimp only [cond_true, cond_false]
      refine ⟨trivial, _, (by first | rfl | exact getAllC rfl rfl rfl rfl | exact getAllT rfl (getAllC rfl rfl rfl rfl) | exact getAllC rfl rfl rfl (getAllC rfl rfl rfl rfl) | exact getAllC1 rfl rfl rfl), ?_⟩
      exact ⟨rfl, Ext0.ext⟩
    ·skip
     try simp only [↓nrmL, nrmZ, Nat.reduceEqDiff, ↓reduceIte, Nat.reduceAdd, Int.reduceBEq, Int.reduceBNe, h0, bne, h1, h2, h3]
     refine sq ?_
     refine rg fun KF hKF => ?_
     refine Fo.boxA rfl ?_
     refine mI rfl ?_
     refine WpO.nil (hKF _ _ ?_)
     refine sq ?_
     refine sq ?_
     refine rg fun KF hKF => ?_
     refine Fo.ldN rfl rfl (by simp only [↓nrmL, nrmZ, Nat.reduceEqDiff, ↓reduceIte, Nat.reduceAdd, Int.reduceBEq, Int.reduceBNe, h0, bne, h1, h2, h3]; rfl) ?_
     refine Fo.pcall (v' := ?_) hn rfl (by simp only [↓nrmL, nrmZ, Nat.reduceEqDiff, ↓reduceIte, Nat.reduceAdd, Int.reduceBEq, Int.reduceBNe, h0, bne, h1, h2, h3, List.map]; rfl) rfl ?hv fun _ _ => ?_; case hv => rfl
     refine mI rfl ?_
     refine WpO.nil (hKF _ _ ?_)
     refine sq ?_
     refine rg fun KF hKF => ?_
     refine mI rfl ?_
     refine Fo.bin rfl rfl rfl (by simp only [↓nrmL, nrmZ, Nat.reduceEqDiff, ↓reduceIte, Nat.reduceAdd, Int.reduceBEq, Int.reduceBNe, h0, bne, h1, h2, h3]; rfl) ?_
     refine WpO.nil (hKF _ _ ?_)
     refine Wp.cond (b := false) rfl ?_
     refine Wp.skip ?_
     refine sq ?_
     refine sq ?_
     refine rg fun KF hKF => ?_
     refine mI rfl ?_
     refine Fo.bin rfl rfl rfl (by simp only [↓nrmL, nrmZ, Nat.reduceEqDiff, ↓reduceIte, Nat.reduceAdd, Int.reduceBEq, Int.reduceBNe, h0, bne, h1, h2, h3]; rfl) ?_
     refine mB rfl ?_
     refine Fo.yes rfl rfl ?_
     refine mI rfl ?_
     refine Fo.yes rfl rfl ?_
     refine Fo.bin rfl rfl rfl (by simp only [↓nrmL, nrmZ, Nat.reduceEqDiff, ↓reduceIte, Nat.reduceAdd, Int.reduceBEq, Int.reduceBNe, h0, bne, h1, h2, h3]; rfl) ?_
     refine fB rfl rfl ?_
     refine mB rfl ?_
     refine Fo.yes rfl rfl ?_
     refine mI rfl ?_
     refine Fo.yes rfl rfl ?_
     refine Fo.bin rfl rfl rfl (by simp only [↓nrmL, nrmZ, Nat.reduceEqDiff, ↓reduceIte, Nat.reduceAdd, Int.reduceBEq, Int.reduceBNe, h0, bne, h1, h2, h3]; rfl) ?_
     refine fB rfl rfl ?_
     refine mB rfl ?_
     refine Fo.no rfl rfl ?_
     refine Fo.no rfl rfl ?_
     refine tB rfl rfl ?_
     refine WpO.nil (hKF _ _ ?_)
     refine Wp.cond (b := true) rfl ?_
     refine sq ?_
     refine rg fun KF hKF => ?_
     refine mI rfl ?_
     refine WpO.nil (hKF _ _ ?_)
     refine Wp.ret ?_
     dsimp only [cond_true, cond_false]
     refine ⟨trivial, _, (by first | rfl | exact getAllC rfl rfl rfl rfl | exact getAllT rfl (getAllC rfl rfl rfl rfl) | exact getAllC rfl rfl rfl (getAllC rfl rfl rfl rfl) | exact getAllC1 rfl rfl rfl), ?_⟩
     exact ⟨rfl, Ext0.ext⟩
   ·skip
    try simp only [↓nrmL, nrmZ, Nat.reduceEqDiff, ↓reduceIte, Nat.reduceAdd, Int.reduceBEq, Int.reduceBNe, h0, bne, h1, h2]
    refine sq ?_
    refine rg fun KF hKF => ?_
    refine Fo.boxA rfl ?_
    refine mI rfl ?_
    refine WpO.nil (hKF _ _ ?_)
    refine sq ?_
    refine sq ?_
    refine rg fun KF hKF => ?_
    refine Fo.ldN rfl rfl (by simp only [↓nrmL, nrmZ, Nat.reduceEqDiff, ↓reduceIte, Nat.reduceAdd, Int.reduceBEq, Int.reduceBNe, h0, bne, h1, h2]; rfl) ?_
    refine Fo.pcall (v' := ?_) hn rfl (by simp only [↓nrmL, nrmZ, Nat.reduceEqDiff, ↓reduceIte, Nat.reduceAdd, Int.reduceBEq, Int.reduceBNe, h0, bne, h1, h2, List.map]; rfl) rfl ?hv fun _ _ => ?_; case hv => rfl
    refine mI rfl ?_
    refine WpO.nil (hKF _ _ ?_)
    refine sq ?_
    refine rg fun KF hKF => ?_
    refine mI rfl ?_
    refine Fo.bin rfl rfl rfl (by simp only [↓nrmL, nrmZ, Nat.reduceEqDiff, ↓reduceIte, Nat.reduceAdd, Int.reduceBEq, Int.reduceBNe, h0, bne, h1, h2]; rfl) ?_
    refine WpO.nil (hKF _ _ ?_)
    refine Wp.cond (b := false) rfl ?_
    refine Wp.skip ?_
    refine sq ?_
    refine sq ?_
    refine rg fun KF hKF => ?_
    refine mI rfl ?_
    refine Fo.bin rfl rfl rfl (by simp only [↓nrmL, nrmZ, Nat.reduceEqDiff, ↓reduceIte, Nat.reduceAdd, Int.reduceBEq, Int.reduceBNe, h0, bne, h1, h2]; rfl) ?_
    refine mB rfl ?_
    refine Fo.yes rfl rfl ?_
    refine mI rfl ?_
    refine Fo.yes rfl rfl ?_
    refine Fo.bin rfl rfl rfl (by simp only [↓nrmL, nrmZ, Nat.reduceEqDiff, ↓reduceIte, Nat.reduceAdd, Int.reduceBEq, Int.reduceBNe, h0, bne, h1, h2]; rfl) ?_
    refine fB rfl rfl ?_
    refine mB rfl ?_
    refine Fo.no rfl rfl ?_
    refine Fo.no rfl rfl ?_
    refine tB rfl rfl ?_
    refine mB rfl ?_
    refine Fo.no rfl rfl ?_
    refine Fo.no rfl rfl ?_
    refine tB rfl rfl ?_
    refine WpO.nil (hKF _ _ ?_)
    refine Wp.cond (b := true) rfl ?_
    refine sq ?_
    refine rg fun KF hKF => ?_
    refine mI rfl ?_
    refine WpO.nil (hKF _ _ ?_)
    refine Wp.ret ?_
    dsimp only [cond_true, cond_false]
    refine ⟨trivial, _, (by first | rfl | exact getAllC rfl rfl rfl rfl | exact getAllT rfl (getAllC rfl rfl rfl rfl) | exact getAllC rfl rfl rfl (getAllC rfl rfl rfl rfl) | exact getAllC1 rfl rfl rfl), ?_⟩
    exact ⟨rfl, Ext0.ext⟩
  ·skip
   try simp only [↓nrmL, nrmZ, Nat.reduceEqDiff, ↓reduceIte, Nat.reduceAdd, Int.reduceBEq, Int.reduceBNe, h0, bne, h1]
   refine sq ?_
   refine rg fun KF hKF => ?_
   refine Fo.boxA rfl ?_
   refine mI rfl ?_
   refine WpO.nil (hKF _ _ ?_)
   refine sq ?_
   refine sq ?_
   refine rg fun KF hKF => ?_
   refine Fo.ldN rfl rfl (by simp only [↓nrmL, nrmZ, Nat.reduceEqDiff, ↓reduceIte, Nat.reduceAdd, Int.reduceBEq, Int.reduceBNe, h0, bne, h1]; rfl) ?_
   refine Fo.pcall (v' := ?_) hn rfl (by simp only [↓nrmL, nrmZ, Nat.reduceEqDiff, ↓reduceIte, Nat.reduceAdd, Int.reduceBEq, Int.reduceBNe, h0, bne, h1, List.map]; rfl) rfl ?hv fun _ _ => ?_; case hv => rfl
   refine mI rfl ?_
   refine WpO.nil (hKF _ _ ?_)
   refine sq ?_
   refine rg fun KF hKF => ?_
   refine mI rfl ?_
   refine Fo.bin rfl rfl rfl (by simp only [↓nrmL, nrmZ, Nat.reduceEqDiff, ↓reduceIte, Nat.reduceAdd, Int.reduceBEq, Int.reduceBNe, h0, bne, h1]; rfl) ?_
   refine WpO.nil (hKF _ _ ?_)
   refine Wp.cond (b := false) rfl ?_
   refine Wp.skip ?_
   refine sq ?_
   refine sq ?_
   refine rg fun KF hKF => ?_
   refine mI rfl ?_
   refine Fo.bin rfl rfl rfl (by simp only [↓nrmL, nrmZ, Nat.reduceEqDiff, ↓reduceIte, Nat.reduceAdd, Int.reduceBEq, Int.reduceBNe, h0, bne, h1]; rfl) ?_
   refine mB rfl ?_
   refine Fo.no rfl rfl ?_
   refine Fo.no rfl rfl ?_
   refine tB rfl rfl ?_
   refine mB rfl ?_
   refine Fo.no rfl rfl ?_
   refine Fo.no rfl rfl ?_
   refine tB rfl rfl ?_
   refine mB rfl ?_
   refine Fo.no rfl rfl ?_
   refine Fo.no rfl rfl ?_
   refine tB rfl rfl ?_
   refine WpO.nil (hKF _ _ ?_)
   refine Wp.cond (b := true) rfl ?_
   refine sq ?_
   refine rg fun KF hKF => ?_
   refine mI rfl ?_
   refine WpO.nil (hKF _ _ ?_)
   refine Wp.ret ?_
   dsimp only [cond_true, cond_false]
   refine ⟨trivial, _, (by first | rfl | exact getAllC rfl rfl rfl rfl | exact getAllT rfl (getAllC rfl rfl rfl rfl) | exact getAllC rfl rfl rfl (getAllC rfl rfl rfl rfl) | exact getAllC1 rfl rfl rfl), ?_⟩
   exact ⟨rfl, Ext0.ext⟩⟩
theorem brushOk {w h : Nat} (hw1 : 0 < w) (hw2 : w ≤ 64) (hh1 : 0 < h) (hh2 : h ≤ 64) : (decide ((w : Int) < 1) || decide ((w : Int) > 64) || decide ((h : Int) < 1) || decide ((h : Int) > 64)) = false := by
 simp only [Bool.or_eq_false_iff, decide_eq_false_iff_not]
 omega
theorem K_dilV {a b w h : Nat} {p : AVal} {H : AHeap} {l : List UInt8} [hp : BytesI H p l] (ok : Ok a b l) (hw1 : 0 < w) (hw2 : w ≤ 64) (hh1 : 0 < h) (hh2 : h ≤ 64) : Con ext prog 5 67 [.agg [.int .i64 a, .int .i64 b, p], .int .i64 w, .int .i64 h] H fun v H' => InkRes H H' v (⟨a, b, dilL l a b w h⟩, 0) := by
 refine con_of (show prog 67 = some c67 from rfl) rfl rfl fun n hn => ?_
 haveI := hp.one
 have he := ok.err
 have hbo := brushOk hw1 hw2 hh1 hh2
 have hsh := ok.short
 try simp only [↓nrmL, nrmZ, Nat.reduceEqDiff, ↓reduceIte, Nat.reduceAdd, Int.reduceBEq, Int.reduceBNe, he, hbo, beq_self_eq_true, cond_true, cond_false]
 refine sq ?_
 refine rg fun KF hKF => ?_
 refine Fo.boxA rfl ?_
 refine Fo.new ?_
 refine mI rfl ?_
 refine WpO.nil (hKF _ _ ?_)
 refine sq ?_
 refine sq ?_
 refine rg fun KF hKF => ?_
 refine Fo.ldN rfl rfl (by simp only [↓nrmL, nrmZ, Nat.reduceEqDiff, ↓reduceIte, Nat.reduceAdd, Int.reduceBEq, Int.reduceBNe, he, hbo, beq_self_eq_true, cond_true, cond_false]; rfl) ?_
 refine mI rfl ?_
 refine mI rfl ?_
 refine Fo.pcall (v' := ?_) hn rfl (by simp only [↓nrmL, nrmZ, Nat.reduceEqDiff, ↓reduceIte, Nat.reduceAdd, Int.reduceBEq, Int.reduceBNe, he, hbo, beq_self_eq_true, cond_true, cond_false, List.map]; rfl) rfl ?hv fun _ _ => ?_; case hv => (simp only [↓nrmL, nrmZ, Nat.reduceEqDiff, ↓reduceIte, Nat.reduceAdd, Int.reduceBEq, Int.reduceBNe, he, hbo, beq_self_eq_true, cond_true, cond_false]; rfl)
 refine mI rfl ?_
 refine WpO.nil (hKF _ _ ?_)
 refine sq ?_
 refine rg fun KF hKF => ?_
 refine mI rfl ?_
 refine Fo.bin rfl rfl rfl (by simp only [↓nrmL, nrmZ, Nat.reduceEqDiff, ↓reduceIte, Nat.reduceAdd, Int.reduceBEq, Int.reduceBNe, he, hbo, beq_self_eq_true, cond_true, cond_false]; rfl) ?_
 refine WpO.nil (hKF _ _ ?_)
 refine Wp.cond (b := false) rfl ?_
 refine Wp.skip ?_
 refine sq ?_
 refine rg fun KF hKF => ?_
 refine Fo.ldN rfl rfl (by simp only [↓nrmL, nrmZ, Nat.reduceEqDiff, ↓reduceIte, Nat.reduceAdd, Int.reduceBEq, Int.reduceBNe, he, hbo, beq_self_eq_true, cond_true, cond_false]; rfl) ?_
 refine WpO.do (WpX.conD hn rfl rfl (by simp only [↓nrmL, nrmZ, Nat.reduceEqDiff, ↓reduceIte, Nat.reduceAdd, Int.reduceBEq, Int.reduceBNe, List.map] <;> rfl) (K_twin (l := l) (by omega)) fun v H1 h5 => ?_)
 obtain ⟨q, e1, hq, hfq, hwq, hxq⟩ := h5
 subst e1
 try dsimp only at hq
 haveI : ExtI _ H1 := ⟨hxq⟩
 haveI := hq.one
 refine Fo.new ?_
 refine Fo.st rfl (rfl : _ = AVal.agg _) rfl rfl rfl (by repeat (first | rfl | refine allOne_cons ?_)) (by simp only [↓nrmL, nrmZ, Nat.reduceEqDiff, ↓reduceIte, Nat.reduceAdd, Int.reduceBEq, Int.reduceBNe]; rfl) ?_
 refine WpO.nil (hKF _ _ ?_)
 refine sq ?_
 refine rg fun KF hKF => ?_
 refine Fo.ldN rfl rfl (by simp only [↓nrmL, nrmZ, Nat.reduceEqDiff, ↓reduceIte, Nat.reduceAdd, Int.reduceBEq, Int.reduceBNe]; rfl) ?_
 refine mI rfl ?_
 refine mI rfl ?_
 dsimp only [cond_true, cond_false]
 refine WpO.do (WpX.conD hn rfl rfl (by simp only [↓nrmL, nrmZ, Nat.reduceEqDiff, ↓reduceIte, Nat.reduceAdd, Int.reduceBEq, Int.reduceBNe, List.map] <;> rfl) (K_brush ok hw1 hw2 hh1 hh2) fun v H2 h5 => ?_)
 obtain ⟨hb2, hwr2, hx2⟩ := h5
 refine WpO.nil (hKF _ _ ?_)
 refine sq ?_
 refine rg fun KF hKF => ?_
 refine Fo.ldN rfl rfl (by simp only [↓nrmL, nrmZ, Nat.reduceEqDiff, ↓reduceIte, Nat.reduceAdd, Int.reduceBEq, Int.reduceBNe]; rfl) ?_
 refine Fo.st rfl (rfl : _ = AVal.agg _) rfl rfl rfl (by repeat (first | rfl | refine allOne_cons ?_)) (by simp only [↓nrmL, nrmZ, Nat.reduceEqDiff, ↓reduceIte, Nat.reduceAdd, Int.reduceBEq, Int.reduceBNe]; rfl) ?_
 refine mI rfl ?_
 refine WpO.nil (hKF _ _ ?_)
 refine Wp.ret ?_
 dsimp only [cond_true, cond_false]
 refine ⟨trivial, _, (by first | rfl | exact getAllC rfl rfl rfl rfl | exact getAllT rfl (getAllC rfl rfl rfl rfl) | exact getAllC rfl rfl rfl (getAllC rfl rfl rfl rfl) | exact getAllC1 rfl rfl rfl), ?_⟩
 exact ⟨_, rfl, q, rfl, (show BytesI _ q (dilL l a b w h) from inferInstance), hfq.weak, inferInstance, Ext0.ext⟩
theorem Part.whole {H : AHeap} {p : AVal} {l : List UInt8} (hp : BytesI H p l) : Part p p 0 l.length := by
 rcases hp.it with ⟨rfl, h0, _⟩ | ⟨r, off, cap, row, rw, e, rfl, _⟩
 ·exact ⟨Or.inl ⟨h0, rfl, rfl, rfl⟩⟩
 ·exact ⟨Or.inr ⟨r, off, l.length, cap, cap, rfl, rfl, by omega⟩⟩
theorem K_eroV {a b w h : Nat} {p : AVal} {H : AHeap} {l : List UInt8} [hp : BytesI H p l] (ok : Ok a b l) (hw1 : 0 < w) (hw2 : w ≤ 64) (hh1 : 0 < h) (hh2 : h ≤ 64) : Con ext prog 5 69 [.agg [.int .i64 a, .int .i64 b, p], .int .i64 w, .int .i64 h] H fun v H' => InkRes H H' v (⟨a, b, eroL l a b w h⟩, 0) := by
 refine con_of (show prog 69 = some c69 from rfl) rfl rfl fun n hn => ?_
 haveI := hp.one
 have he := ok.err
 have hbo := brushOk hw1 hw2 hh1 hh2
 have hsh := ok.short
 have ok1 := ok_map ok
 have ok2 := ok_rev ok1
 have ok3 := ok_dil (w := w) (h := h) ok2
 have ok4 := ok_rev ok3
 have s1 := ok1.short
 have s3 := ok3.short
 have s4 := ok4.short
 try simp only [↓nrmL, nrmZ, Nat.reduceEqDiff, ↓reduceIte, Nat.reduceAdd, Int.reduceBEq, Int.reduceBNe, he, hbo, beq_self_eq_true, cond_true, cond_false]
 refine sq ?_
 refine rg fun KF hKF => ?_
 refine Fo.boxA rfl ?_
 refine Fo.new ?_
 refine mI rfl ?_
 refine WpO.nil (hKF _ _ ?_)
 refine sq ?_
 refine sq ?_
 refine rg fun KF hKF => ?_
 refine Fo.ldN rfl rfl (by simp only [↓nrmL, nrmZ, Nat.reduceEqDiff, ↓reduceIte, Nat.reduceAdd, Int.reduceBEq, Int.reduceBNe, he, hbo, beq_self_eq_true, cond_true, cond_false]; rfl) ?_
 refine mI rfl ?_
 refine mI rfl ?_
 refine Fo.pcall (v' := ?_) hn rfl (by simp only [↓nrmL, nrmZ, Nat.reduceEqDiff, ↓reduceIte, Nat.reduceAdd, Int.reduceBEq, Int.reduceBNe, he, hbo, beq_self_eq_true, cond_true, cond_false, List.map]; rfl) rfl ?hv fun _ _ => ?_; case hv => (simp only [↓nrmL, nrmZ, Nat.reduceEqDiff, ↓reduceIte, Nat.reduceAdd, Int.reduceBEq, Int.reduceBNe, he, hbo, beq_self_eq_true, cond_true, cond_false]; rfl)
 refine mI rfl ?_
 refine WpO.nil (hKF _ _ ?_)
 refine sq ?_
 refine rg fun KF hKF => ?_
 refine mI rfl ?_
 refine Fo.bin rfl rfl rfl (by simp only [↓nrmL, nrmZ, Nat.reduceEqDiff, ↓reduceIte, Nat.reduceAdd, Int.reduceBEq, Int.reduceBNe, he, hbo, beq_self_eq_true, cond_true, cond_false]; rfl) ?_
 refine WpO.nil (hKF _ _ ?_)
 refine Wp.cond (b := false) rfl ?_
 refine Wp.skip ?_
 refine sq ?_
 refine rg fun KF hKF => ?_
 refine Fo.ldN rfl rfl (by simp only [↓nrmL, nrmZ, Nat.reduceEqDiff, ↓reduceIte, Nat.reduceAdd, Int.reduceBEq, Int.reduceBNe, he, hbo, beq_self_eq_true, cond_true, cond_false]; rfl) ?_
 refine WpO.do (WpX.conD hn rfl rfl (by simp only [↓nrmL, nrmZ, Nat.reduceEqDiff, ↓reduceIte, Nat.reduceAdd, Int.reduceBEq, Int.reduceBNe, List.map] <;> rfl) (K_twin (l := l) (by omega)) fun v H1 h5 => ?_)
 obtain ⟨q, e1, hq, hfq, hwq, hxq⟩ := h5
 subst e1
 try dsimp only at hq
 haveI : ExtI _ H1 := ⟨hxq⟩
 haveI := hq.one
 refine Fo.new ?_
 refine Fo.st rfl (rfl : _ = AVal.agg _) rfl rfl rfl (by repeat (first | rfl | refine allOne_cons ?_)) (by simp only [↓nrmL, nrmZ, Nat.reduceEqDiff, ↓reduceIte, Nat.reduceAdd, Int.reduceBEq, Int.reduceBNe]; rfl) ?_
 refine WpO.nil (hKF _ _ ?_)
 refine sq ?_
 refine rg fun KF hKF => ?_
 refine Fo.ldN rfl rfl (by simp only [↓nrmL, nrmZ, Nat.reduceEqDiff, ↓reduceIte, Nat.reduceAdd, Int.reduceBEq, Int.reduceBNe]; rfl) ?_
 dsimp only [cond_true, cond_false]
 refine WpO.do (WpX.conD hn rfl rfl (by simp only [↓nrmL, nrmZ, Nat.reduceEqDiff, ↓reduceIte, Nat.reduceAdd, Int.reduceBEq, Int.reduceBNe, List.map] <;> rfl) (K_invert (l := l) (by omega)) fun v H2 h5 => ?_)
 obtain ⟨hb2, hwr2, hx2⟩ := h5
 refine WpO.nil (hKF _ _ ?_)
 refine sq ?_
 refine rg fun KF hKF => ?_
 refine Fo.fa rfl ?_
 refine Fo.ld rfl rfl ?_
 refine WpO.do (WpX.conD hn rfl rfl (by simp only [↓nrmL, nrmZ, Nat.reduceEqDiff, ↓reduceIte, Nat.reduceAdd, Int.reduceBEq, Int.reduceBNe, List.map] <;> rfl) (@K_Reverse q q _ (l.map (· ^^^ 1)) 0 (l.map (· ^^^ 1)).length inferInstance inferInstance (Part.whole hb2) (by omega) (by omega)) fun v H3 h5 => ?_)
 obtain ⟨hb3, hwr3, hx3⟩ := h5
 have hb3 : BytesI H3 q (revAll (l.map (· ^^^ 1))) := hb3
 refine WpO.nil (hKF _ _ ?_)
 refine sq ?_
 refine rg fun KF hKF => ?_
 refine Fo.ldN rfl rfl (by simp only [↓nrmL, nrmZ, Nat.reduceEqDiff, ↓reduceIte, Nat.reduceAdd, Int.reduceBEq, Int.reduceBNe]; rfl) ?_
 refine mI rfl ?_
 refine mI rfl ?_
 refine WpO.do (WpX.conD hn rfl rfl (by simp only [↓nrmL, nrmZ, Nat.reduceEqDiff, ↓reduceIte, Nat.reduceAdd, Int.reduceBEq, Int.reduceBNe, List.map] <;> rfl) (K_brush ok2 hw1 hw2 hh1 hh2) fun v H4 h5 => ?_)
 obtain ⟨hb4, hwr4, hx4⟩ := h5
 refine WpO.nil (hKF _ _ ?_)
 refine sq ?_
 refine rg fun KF hKF => ?_
 refine Fo.fa rfl ?_
 refine Fo.ld rfl rfl ?_
 refine WpO.do (WpX.conD hn rfl rfl (by simp only [↓nrmL, nrmZ, Nat.reduceEqDiff, ↓reduceIte, Nat.reduceAdd, Int.reduceBEq, Int.reduceBNe, List.map] <;> rfl) (@K_Reverse q q _ (dilL (revAll (l.map (· ^^^ 1))) a b w h) 0 (dilL (revAll (l.map (· ^^^ 1))) a b w h).length inferInstance inferInstance (Part.whole hb4) (by omega) (by omega)) fun v H5 h5 => ?_)
 obtain ⟨hb5, hwr5, hx5⟩ := h5
 have hb5 : BytesI H5 q (revAll (dilL (revAll (l.map (· ^^^ 1))) a b w h)) := hb5
 refine WpO.nil (hKF _ _ ?_)
 refine sq ?_
 refine rg fun KF hKF => ?_
 refine Fo.ldN rfl rfl (by simp only [↓nrmL, nrmZ, Nat.reduceEqDiff, ↓reduceIte, Nat.reduceAdd, Int.reduceBEq, Int.reduceBNe]; rfl) ?_
 refine WpO.do (WpX.conD hn rfl rfl (by simp only [↓nrmL, nrmZ, Nat.reduceEqDiff, ↓reduceIte, Nat.reduceAdd, Int.reduceBEq, Int.reduceBNe, List.map] <;> rfl) (K_invert (l := revAll (dilL (revAll (l.map (· ^^^ 1))) a b w h)) (by omega)) fun v H6 h5 => ?_)
 obtain ⟨hb6, hwr6, hx6⟩ := h5
 have hb6 : BytesI H6 q (eroL l a b w h) := hb6
 refine WpO.nil (hKF _ _ ?_)
 refine sq ?_
 refine rg fun KF hKF => ?_
 refine Fo.ldN rfl rfl (by simp only [↓nrmL, nrmZ, Nat.reduceEqDiff, ↓reduceIte, Nat.reduceAdd, Int.reduceBEq, Int.reduceBNe]; rfl) ?_
 refine Fo.st rfl (rfl : _ = AVal.agg _) rfl rfl rfl (by repeat (first | rfl | refine allOne_cons ?_)) (by simp only [↓nrmL, nrmZ, Nat.reduceEqDiff, ↓reduceIte, Nat.reduceAdd, Int.reduceBEq, Int.reduceBNe]; rfl) ?_
 refine mI rfl ?_
 refine WpO.nil (hKF _ _ ?_)
 refine Wp.ret ?_
 dsimp only [cond_true, cond_false]
 refine ⟨trivial, _, (by first | rfl | exact getAllC rfl rfl rfl rfl | exact getAllT rfl (getAllC rfl rfl rfl rfl) | exact getAllC rfl rfl rfl (getAllC rfl rfl rfl rfl) | exact getAllC1 rfl rfl rfl), ?_⟩
 exact ⟨_, rfl, q, rfl, (show BytesI _ q (eroL l a b w h) from inferInstance), hfq.weak, inferInstance, Ext0.ext⟩
end Go.Am

set_option maxHeartbeats 4000000
set_option maxRecDepth 100000
set_option synthInstance.maxHeartbeats 4000000
set_option synthInstance.maxSize 100000
namespace Go.Am
open Go
attribute [local irreducible] Wp WpO WpX WpE

/- What the brush of the reference has seen: rows before j, and i places of row j. -/
def oneC (l : List UInt8) (a b x y j i : Nat) : Bool := inkB a b l ((x + i : Nat) : Int) ((y + j : Nat) : Int)
def allC (l : List UInt8) (a b x y j i : Nat) : Bool := decide ((x : Int) - (i : Int) < 0) || (decide ((y : Int) - (j : Int) < 0) || inkB a b l ((x : Int) - (i : Int)) ((y : Int) - (j : Int)))
def oneP (l : List UInt8) (a b w x y j i : Nat) : Bool := ((List.range j).any fun q => (List.range w).any (oneC l a b x y q)) || (List.range i).any (oneC l a b x y j)
def allP (l : List UInt8) (a b w x y j i : Nat) : Bool := ((List.range j).all fun q => (List.range w).all (allC l a b x y q)) && (List.range i).all (allC l a b x y j)
theorem oneP_succ {l : List UInt8} {a b w x y j i : Nat} : oneP l a b w x y j (i + 1) = (oneP l a b w x y j i || inkB a b l ((x + i : Nat) : Int) ((y + j : Nat) : Int)) := by
 simp only [oneP, List.range_succ, List.any_append, List.any_cons, List.any_nil, Bool.or_false, Bool.or_assoc]; rfl
theorem allP_succ {l : List UInt8} {a b w x y j i : Nat} : allP l a b w x y j (i + 1) = (allP l a b w x y j i && allC l a b x y j i) := by
 simp only [allP, List.range_succ, List.all_append, List.all_cons, List.all_nil, Bool.and_true, Bool.and_assoc]
theorem oneP_row {l : List UInt8} {a b w x y j : Nat} : oneP l a b w x y j w = oneP l a b w x y (j + 1) 0 := by
 simp only [oneP, List.range_succ, List.any_append, List.any_cons, List.any_nil, Bool.or_false, List.range_zero]
theorem allP_row {l : List UInt8} {a b w x y j : Nat} : allP l a b w x y j w = allP l a b w x y (j + 1) 0 := by
 simp only [allP, List.range_succ, List.all_append, List.all_cons, List.all_nil, Bool.and_true, List.range_zero]
theorem one_dil {a b w h x y : Nat} {l : List UInt8} (ok : Ok a b l) (hx : x < a) (hy : y < b) : (dilL l a b w h).getD (y * a + x) 0 = if oneP l a b w x y h 0 = true then 1 else 0 := by
 have h1 := dil_iff (w := w) (h := h) ok.len hx hy
 have h2 := getD01 (ok_dil (w := w) (h := h) ok).px (y * a + x)
 unfold inkP at h1
 have key : oneP l a b w x y h 0 = true ↔ ∃ i j, i < w ∧ j < h ∧ x + i < a ∧ y + j < b ∧ l.getD ((y + j) * a + (x + i)) 0 = 1 := by
  simp only [oneP, List.range_zero, List.any_nil, Bool.or_false, List.any_eq_true, List.mem_range, oneC]
  constructor
  ·rintro ⟨j, hj, i, hi, hk⟩
   have hxa : x + i < a := by
    simp only [inkB, Bool.and_eq_true, decide_eq_true_eq] at hk; omega
   have hyb : y + j < b := by
    simp only [inkB, Bool.and_eq_true, decide_eq_true_eq] at hk; omega
   rw [inkB_nat hxa hyb] at hk
   exact ⟨i, j, hi, hj, hxa, hyb, by simpa using hk⟩
  ·rintro ⟨i, j, hi, hj, hxa, hyb, hk⟩
   exact ⟨j, hj, i, hi, by rw [inkB_nat hxa hyb]; simpa using hk⟩
 by_cases hp : oneP l a b w x y h 0 = true
 ·rw [if_pos hp]; exact h1.2 (key.1 hp)
 ·rw [if_neg hp]
  rcases h2 with h2 | h2
  ·exact h2
  ·exact absurd (key.2 (h1.1 h2)) hp
theorem all_ero {a b w h x y : Nat} {l : List UInt8} (ok : Ok a b l) (hx : x < a) (hy : y < b) : (eroL l a b w h).getD (y * a + x) 0 = if allP l a b w x y h 0 = true then 1 else 0 := by
 have h1 := ero_iff (w := w) (h := h) ok hx hy
 have h2 := getD01 (ok_ero (w := w) (h := h) ok).px (y * a + x)
 unfold inkP at h1
 have key : allP l a b w x y h 0 = true ↔ ∀ i j, i < w → j < h → i ≤ x → j ≤ y → l.getD ((y - j) * a + (x - i)) 0 = 1 := by
  simp only [allP, List.range_zero, List.all_nil, Bool.and_true, List.all_eq_true, List.mem_range]
  constructor
  ·intro hk i j hi hj hix hjy
   have := hk j hj i hi
   unfold allC at this
   rw [decide_eq_false (by omega), decide_eq_false (by omega), Bool.false_or, Bool.false_or, show (x : Int) - (i : Int) = ((x - i : Nat) : Int) by omega, show (y : Int) - (j : Int) = ((y - j : Nat) : Int) by omega, inkB_nat (by omega) (by omega)] at this
   simpa using this
  ·intro hk j hj i hi
   unfold allC
   by_cases q1 : (x : Int) - (i : Int) < 0
   ·rw [decide_eq_true q1]; rfl
   by_cases q2 : (y : Int) - (j : Int) < 0
   ·rw [decide_eq_true q2, Bool.true_or, Bool.or_true]
   have := hk i j hi hj (by omega) (by omega)
   rw [decide_eq_false q1, decide_eq_false q2, Bool.false_or, Bool.false_or, show (x : Int) - (i : Int) = ((x - i : Nat) : Int) by omega, show (y : Int) - (j : Int) = ((y - j : Nat) : Int) by omega, inkB_nat (by omega) (by omega)]
   simpa using this
 by_cases hp : allP l a b w x y h 0 = true
 ·rw [if_pos hp]; exact h1.2 (key.1 hp)
 ·rw [if_neg hp]
  rcases h2 with h2 | h2
  ·exact h2
  ·exact absurd (key.2 (h1.1 h2)) hp
theorem K_refBr {a b w h : Nat} {p : AVal} {H : AHeap} {l : List UInt8} [hp : BytesI H p l] (e : Bool) (G : List UInt8) (ok : Ok a b l) (hw1 : 0 < w) (hw2 : w ≤ 64) (hh1 : 0 < h) (hh2 : h ≤ 64) (hgd : ∀ x y, x < a → y < b → G.getD (y * a + x) 0 = if (bif e then allP l a b w x y h 0 else oneP l a b w x y h 0) = true then 1 else 0) (hGl : G.length = a * b) : Con ext prog 3 68 [.agg [.int .i64 a, .int .i64 b, p], .int .i64 w, .int .i64 h, .bool e] H fun v H' => InkRes H H' v (⟨a, b, G⟩, 0) := by
 refine con_of (show prog 68 = some c68 from rfl) rfl rfl fun n hn => ?_
 haveI := hp.one
 have ee := ok.err
 have ha := ok.wa
 have hb := ok.hb
 have hl := ok.len
 haveI : Fits a b l := ⟨ok.sized⟩
 have hm1 : a * b ≤ 640 * 640 := Nat.mul_le_mul ha hb
 have hmc : a * b = b * a := Nat.mul_comm a b
 have g1 : decide ((w : Int) < 1) = false := decide_eq_false (by omega)
 have g2 : decide ((w : Int) > 64) = false := decide_eq_false (by omega)
 have g3 : decide ((h : Int) < 1) = false := decide_eq_false (by omega)
 have g4 : decide ((h : Int) > 64) = false := decide_eq_false (by omega)
 try simp only [↓nrmL, nrmZ, Nat.reduceEqDiff, ↓reduceIte, Nat.reduceAdd, Int.reduceBEq, Int.reduceBNe, ee, g1, g2, g3, g4]
 refine sq ?_
 refine rg fun KF hKF => ?_
 refine Fo.boxA rfl ?_
 refine Fo.new ?_
 refine mI rfl ?_
 refine WpO.nil (hKF _ _ ?_)
 refine sq ?_
 refine sq ?_
 refine rg fun KF hKF => ?_
 refine Fo.ldN rfl rfl (by simp only [↓nrmL, nrmZ, Nat.reduceEqDiff, ↓reduceIte, Nat.reduceAdd, Int.reduceBEq, Int.reduceBNe, ee, g1, g2, g3, g4]; rfl) ?_
 refine Fo.pcall (v' := ?_) hn rfl (by simp only [↓nrmL, nrmZ, Nat.reduceEqDiff, ↓reduceIte, Nat.reduceAdd, Int.reduceBEq, Int.reduceBNe, ee, g1, g2, g3, g4, List.map]; rfl) rfl ?hv fun _ _ => ?_; case hv => (simp only [↓nrmL, nrmZ, Nat.reduceEqDiff, ↓reduceIte, Nat.reduceAdd, Int.reduceBEq, Int.reduceBNe, ee, g1, g2, g3, g4]; rfl)
 refine mI rfl ?_
 refine WpO.nil (hKF _ _ ?_)
 refine sq ?_
 refine rg fun KF hKF => ?_
 refine mI rfl ?_
 refine Fo.bin rfl rfl rfl (by simp only [↓nrmL, nrmZ, Nat.reduceEqDiff, ↓reduceIte, Nat.reduceAdd, Int.reduceBEq, Int.reduceBNe, ee, g1, g2, g3, g4]; rfl) ?_
 refine WpO.nil (hKF _ _ ?_)
 refine Wp.cond (b := false) rfl ?_
 refine Wp.skip ?_
 refine sq ?_
 refine sq ?_
 refine rg fun KF hKF => ?_
 refine mI rfl ?_
 refine Fo.bin rfl rfl rfl (by simp only [↓nrmL, nrmZ, Nat.reduceEqDiff, ↓reduceIte, Nat.reduceAdd, Int.reduceBEq, Int.reduceBNe, ee, g1, g2, g3, g4]; rfl) ?_
 refine mB rfl ?_
 refine Fo.yes rfl rfl ?_
 refine mI rfl ?_
 refine Fo.yes rfl rfl ?_
 refine Fo.bin rfl rfl rfl (by simp only [↓nrmL, nrmZ, Nat.reduceEqDiff, ↓reduceIte, Nat.reduceAdd, Int.reduceBEq, Int.reduceBNe, ee, g1, g2, g3, g4]; rfl) ?_
 refine fB rfl rfl ?_
 refine mB rfl ?_
 refine Fo.yes rfl rfl ?_
 refine mI rfl ?_
 refine Fo.yes rfl rfl ?_
 refine Fo.bin rfl rfl rfl (by simp only [↓nrmL, nrmZ, Nat.reduceEqDiff, ↓reduceIte, Nat.reduceAdd, Int.reduceBEq, Int.reduceBNe, ee, g1, g2, g3, g4]; rfl) ?_
 refine fB rfl rfl ?_
 refine mB rfl ?_
 refine Fo.yes rfl rfl ?_
 refine mI rfl ?_
 refine Fo.yes rfl rfl ?_
 refine Fo.bin rfl rfl rfl (by simp only [↓nrmL, nrmZ, Nat.reduceEqDiff, ↓reduceIte, Nat.reduceAdd, Int.reduceBEq, Int.reduceBNe, ee, g1, g2, g3, g4]; rfl) ?_
 refine fB rfl rfl ?_
 refine WpO.nil (hKF _ _ ?_)
 refine Wp.cond (b := false) rfl ?_
 refine Wp.skip ?_
 refine sq ?_
 refine rg fun KF hKF => ?_
 refine Fo.fa rfl ?_
 refine Fo.ld rfl rfl ?_
 refine Fo.fa rfl ?_
 refine Fo.ld rfl rfl ?_
 refine WpO.do (WpX.conD hn rfl rfl (by simp only [↓nrmL, nrmZ, Nat.reduceEqDiff, ↓reduceIte, Nat.reduceAdd, Int.reduceBEq, Int.reduceBNe, List.map] <;> rfl) (K_refNew (w := a) (h := b) (by omega) (by omega)) fun r H1 h5 => ?_)
 obtain ⟨q, e2, hq, hf, hwq, hx⟩ := h5
 subst e2
 haveI : ExtI _ H1 := ⟨hx⟩
 haveI := hq.one
 have hq : BytesI H1 q (List.replicate (a * b) 0) := hq
 refine Fo.new ?_
 refine Fo.st rfl (rfl : _ = AVal.agg _) rfl rfl rfl (by repeat (first | rfl | refine allOne_cons ?_)) (by simp only [↓nrmL, nrmZ, Nat.reduceEqDiff, ↓reduceIte, Nat.reduceAdd, Int.reduceBEq, Int.reduceBNe]; rfl) ?_
 refine WpO.nil (hKF _ _ ?_)
 refine sq ?_
 refine sq ?_
 refine rg fun KF hKF => ?_
 refine mI rfl ?_
 refine WpO.nil (hKF _ _ ?_)
 refine Wp.block ?_
 dsimp only [cond_true, cond_false]
 refine Wp.loopS [12, 13, 14, 15, 16, 17, 18, 19, 46, 47, 48, 49, 50, 51, 52, 53, 54, 55, 56, 57, 58, 59, 60, 61, 62, 63, 64, 65, 66, 67, 68, 69, 70, 71, 72, 73, 74, 75, 76, 77, 78, 79, 80, 81, 82, 83, 84, 85, 86, 87, 88, 89, 90, 91, 92, 93, 94, 95, 96, 97, 98, 99, 100, 101, 102, 103, 104, 105, 106, 107, 108, 109, 110, 111, 112, 113, 114] (fun y : Nat => [(12, .int .i64 y)]) (fun H3 y H2 => y ≤ b ∧ BytesI H2 q (fillP (ltP (y * a)) (fun k => G.getD k 0) (a * b)) ∧ WrS H2 q ∧ ExtP0 H3 H2 q) (fun y => b - y) 0 rfl (fun _ => rfl) ⟨rfl, trivial⟩ ⟨Nat.zero_le _, by rw [fillP_none (fun k _ => by simp [ltP])]; infer_instance, inferInstance, inferInstance⟩ (by unfold fuel0 at hn; omega) ?_
 rintro y g H2 ⟨hy, hb2, hw2', ⟨hx2⟩⟩
 simp only [↓nrmL, nrmZ, Nat.reduceEqDiff, ↓reduceIte, Nat.reduceAdd, Int.reduceBEq, Int.reduceBNe]
 cases hc : decide ((y : Int) < (b : Int))
 ·have hyb : y = b := by have := of_decide_eq_false hc; omega
  rw [fillP_all (fun k hk => by simp only [ltP, decide_eq_true_eq]; rw [hyb, ← hmc]; exact hk)] at hb2
  have hGe : (List.range (a * b)).map (fun k => G.getD k 0) = G := list_eq (by simp [hGl]) fun t ht => by rw [List.length_map, List.length_range] at ht; rw [getD_map ht]
  rw [hGe] at hb2
  try simp only [↓nrmL, nrmZ, Nat.reduceEqDiff, ↓reduceIte, Nat.reduceAdd, Int.reduceBEq, Int.reduceBNe, hc]
  refine sq ?_
  refine sq ?_
  refine rg fun KF hKF => ?_
  refine mI rfl ?_
  refine Fo.fa rfl ?_
  refine Fo.ld rfl rfl ?_
  refine Fo.bin rfl rfl rfl (by simp only [↓nrmL, nrmZ, Nat.reduceEqDiff, ↓reduceIte, Nat.reduceAdd, Int.reduceBEq, Int.reduceBNe, hc]; rfl) ?_
  refine WpO.nil (hKF _ _ ?_)
  refine Wp.cond (b := false) rfl ?_
  refine Wp.exit ?_
  refine sq ?_
  refine rg fun KF hKF => ?_
  refine Fo.ldN rfl rfl (by simp only [↓nrmL, nrmZ, Nat.reduceEqDiff, ↓reduceIte, Nat.reduceAdd, Int.reduceBEq, Int.reduceBNe, hc]; rfl) ?_
  refine Fo.st rfl (rfl : _ = AVal.agg _) rfl rfl rfl (by repeat (first | rfl | refine allOne_cons ?_)) (by simp only [↓nrmL, nrmZ, Nat.reduceEqDiff, ↓reduceIte, Nat.reduceAdd, Int.reduceBEq, Int.reduceBNe, hc]; rfl) ?_
  refine mI rfl ?_
  refine WpO.nil (hKF _ _ ?_)
  refine Wp.ret ?_
  dsimp only [cond_true, cond_false]
  refine ⟨trivial, _, (by first | rfl | exact getAllC rfl rfl rfl rfl | exact getAllT rfl (getAllC rfl rfl rfl rfl) | exact getAllC rfl rfl rfl (getAllC rfl rfl rfl rfl) | exact getAllC1 rfl rfl rfl), ?_⟩
  exact ⟨_, rfl, q, rfl, (show BytesI _ q G from inferInstance), hf.weak, inferInstance, Ext0.ext⟩
 have hyb : y < b := by have := of_decide_eq_true hc; omega
 have hw1' := wa1 (a := y) (by omega)
 have hr0 := row_le (a := a) hyb
 try simp only [↓nrmL, nrmZ, Nat.reduceEqDiff, ↓reduceIte, Nat.reduceAdd, Int.reduceBEq, Int.reduceBNe, hc]
 refine sq ?_
 refine sq ?_
 refine rg fun KF hKF => ?_
 refine mI rfl ?_
 refine Fo.fa rfl ?_
 refine Fo.ld rfl rfl ?_
 refine Fo.bin rfl rfl rfl (by simp only [↓nrmL, nrmZ, Nat.reduceEqDiff, ↓reduceIte, Nat.reduceAdd, Int.reduceBEq, Int.reduceBNe, hc]; rfl) ?_
 refine WpO.nil (hKF _ _ ?_)
 refine Wp.cond (b := true) rfl ?_
 refine Wp.skip ?_
 refine sq ?_
 refine Wp.block ?_
 refine sq ?_
 refine rg fun KF hKF => ?_
 refine mI rfl ?_
 refine WpO.nil (hKF _ _ ?_)
 refine Wp.block ?_
 dsimp only [cond_true, cond_false]
 refine Wp.loopS [13, 14, 15, 16, 17, 18, 19, 52, 53, 54, 55, 56, 57, 58, 59, 60, 61, 62, 63, 64, 65, 66, 67, 68, 69, 70, 71, 72, 73, 74, 75, 76, 77, 78, 79, 80, 81, 82, 83, 84, 85, 86, 87, 88, 89, 90, 91, 92, 93, 94, 95, 96, 97, 98, 99, 100, 101, 102, 103, 104, 105, 106, 107, 108, 109, 110, 111, 112, 113, 114] (fun x : Nat => [(13, .int .i64 x)]) (fun H3 x H5 => x ≤ a ∧ BytesI H5 q (fillP (ltP (y * a + x)) (fun k => G.getD k 0) (a * b)) ∧ WrS H5 q ∧ ExtP0 H3 H5 q) (fun x => a - x) 0 rfl (fun _ => rfl) ⟨rfl, trivial⟩ ⟨Nat.zero_le _, inferInstance, inferInstance, inferInstance⟩ (by unfold fuel0 at hn; omega) ?_
 rintro x g2 H5 ⟨hx0, hb5, hw5, ⟨hx5⟩⟩
 simp only [↓nrmL, nrmZ, Nat.reduceEqDiff, ↓reduceIte, Nat.reduceAdd, Int.reduceBEq, Int.reduceBNe]
 cases hc2 : decide ((x : Int) < (a : Int))
 ·have hxa : x = a := by have := of_decide_eq_false hc2; omega
  try simp only [↓nrmL, nrmZ, Nat.reduceEqDiff, ↓reduceIte, Nat.reduceAdd, Int.reduceBEq, Int.reduceBNe, hc2]
  refine sq ?_
  refine sq ?_
  refine rg fun KF hKF => ?_
  refine mI rfl ?_
  refine Fo.fa rfl ?_
  refine Fo.ld rfl rfl ?_
  refine Fo.bin rfl rfl rfl (by simp only [↓nrmL, nrmZ, Nat.reduceEqDiff, ↓reduceIte, Nat.reduceAdd, Int.reduceBEq, Int.reduceBNe, hc2]; rfl) ?_
  refine WpO.nil (hKF _ _ ?_)
  refine Wp.cond (b := false) rfl ?_
  refine Wp.exit ?_
  refine rg fun KF hKF => ?_
  refine mI rfl ?_
  refine Fo.bin rfl rfl rfl rfl ?_
  refine mI rfl ?_
  refine WpO.nil (hKF _ _ ?_)
  dsimp only [cond_true, cond_false]
  refine ⟨y + 1, by omega, ⟨by simp only [↓nrmL, nrmZ, Nat.reduceEqDiff, ↓reduceIte, Nat.reduceAdd, Int.reduceBEq, Int.reduceBNe]; rw [hw1'], trivial⟩, hyb, by rw [show (y + 1) * a = y * a + x by rw [Nat.add_mul, Nat.one_mul, hxa]]; infer_instance, inferInstance, inferInstance⟩
 have hxa : x < a := by have := of_decide_eq_true hc2; omega
 have hlt := idx_lt hxa hyb
 have hw3 := wa1 (a := x) (by omega)
 have hfl := fillP_length (ltP (y * a + x)) (fun k => G.getD k 0) (a * b)
 try simp only [↓nrmL, nrmZ, Nat.reduceEqDiff, ↓reduceIte, Nat.reduceAdd, Int.reduceBEq, Int.reduceBNe, hc2]
 refine sq ?_
 refine sq ?_
 refine rg fun KF hKF => ?_
 refine mI rfl ?_
 refine Fo.fa rfl ?_
 refine Fo.ld rfl rfl ?_
 refine Fo.bin rfl rfl rfl (by simp only [↓nrmL, nrmZ, Nat.reduceEqDiff, ↓reduceIte, Nat.reduceAdd, Int.reduceBEq, Int.reduceBNe, hc2]; rfl) ?_
 refine WpO.nil (hKF _ _ ?_)
 refine Wp.cond (b := true) rfl ?_
 refine Wp.skip ?_
 refine sq ?_
 refine Wp.block ?_
 refine sq ?_
 refine rg fun KF hKF => ?_
 refine mB rfl ?_
 refine mB rfl ?_
 refine WpO.nil (hKF _ _ ?_)
 refine sq ?_
 refine sq ?_
 refine rg fun KF hKF => ?_
 refine mI rfl ?_
 refine WpO.nil (hKF _ _ ?_)
 refine Wp.block ?_
 dsimp only [cond_true, cond_false]
 refine Wp.loopS [14, 15, 16, 17, 18, 19, 58, 59, 60, 61, 62, 63, 64, 65, 66, 67, 68, 69, 70, 71, 72, 73, 74, 75, 76, 77, 78, 79, 80, 81, 82, 83, 84, 85, 86, 87, 88, 89, 90, 91, 92, 93, 94, 95, 96, 97, 98, 99] (fun j : Nat => [(14, .bool (oneP l a b w x y j 0)), (15, .bool (allP l a b w x y j 0)), (16, .int .i64 j)]) (fun H3 j H6 => j ≤ h ∧ Ext H3 H6) (fun j => h - j) 0 rfl (fun _ => rfl) ⟨rfl, rfl, rfl, trivial⟩ ⟨Nat.zero_le _, Ext.refl _⟩ (by unfold fuel0 at hn; omega) ?_
 rintro j g3' H6 ⟨hj, hx6⟩
 haveI : ExtI _ H6 := ⟨hx6⟩
 simp only [↓nrmL, nrmZ, Nat.reduceEqDiff, ↓reduceIte, Nat.reduceAdd, Int.reduceBEq, Int.reduceBNe]
 cases hc3 : decide ((j : Int) < (h : Int))
 ·have hjh : j = h := by have := of_decide_eq_false hc3; omega
  rw [hjh] at hc3 ⊢
  cases e
  ·skip
   have hG : G.getD (y * a + x) 0 = if oneP l a b w x y h 0 = true then 1 else 0 := hgd x y hxa hyb
   cases hr : oneP l a b w x y h 0
   ·rw [hr] at hG
    have h0 : (fun k => G.getD k 0) (y * a + x) = 0 := hG
    try simp only [↓nrmL, nrmZ, Nat.reduceEqDiff, ↓reduceIte, Nat.reduceAdd, Int.reduceBEq, Int.reduceBNe, hc3, hr]
    refine sq ?_
    refine sq ?_
    refine rg fun KF hKF => ?_
    refine mI rfl ?_
    refine mI rfl ?_
    refine Fo.bin rfl rfl rfl (by simp only [↓nrmL, nrmZ, Nat.reduceEqDiff, ↓reduceIte, Nat.reduceAdd, Int.reduceBEq, Int.reduceBNe, hc3, hr]; rfl) ?_
    refine WpO.nil (hKF _ _ ?_)
    refine Wp.cond (b := false) rfl ?_
    refine Wp.exit ?_
    refine sq ?_
    refine rg fun KF hKF => ?_
    refine mB rfl ?_
    refine mB rfl ?_
    refine Fo.no rfl rfl ?_
    refine fB rfl rfl ?_
    refine mB rfl ?_
    refine Fo.yes rfl rfl ?_
    refine mB rfl ?_
    refine Fo.yes rfl rfl ?_
    refine Fo.now rfl rfl (by simp only [↓nrmL, nrmZ, Nat.reduceEqDiff, ↓reduceIte, Nat.reduceAdd, Int.reduceBEq, Int.reduceBNe, hc3, hr]; rfl) ?_
    refine Fo.yes rfl rfl ?_
    refine mB rfl ?_
    refine Fo.yes rfl rfl ?_
    refine mB rfl ?_
    refine Fo.yes rfl rfl ?_
    refine tB rfl rfl ?_
    refine fB rfl rfl ?_
    refine WpO.nil (hKF _ _ ?_)
    refine Wp.cond (b := false) rfl ?_
    refine Wp.skip ?_
    refine rg fun KF hKF => ?_
    refine mI rfl ?_
    refine Fo.bin rfl rfl rfl rfl ?_
    refine mI rfl ?_
    refine WpO.nil (hKF _ _ ?_)
    dsimp only [cond_true, cond_false]
    rw [fillP_skip (Q := ltP (y * a + x + 1)) h0 (fun k _ => ltP_next)] at hb5
    refine ⟨x + 1, by omega, ⟨by simp only [↓nrmL, nrmZ, Nat.reduceEqDiff, ↓reduceIte, Nat.reduceAdd, Int.reduceBEq, Int.reduceBNe]; rw [hw3], trivial⟩, hxa, inferInstance, inferInstance, inferInstance⟩
   ·rw [hr] at hG
    have h0 : (fun k => G.getD k 0) (y * a + x) = 1 := hG
    try simp only [↓nrmL, nrmZ, Nat.reduceEqDiff, ↓reduceIte, Nat.reduceAdd, Int.reduceBEq, Int.reduceBNe, hc3, hr]
    refine sq ?_
    refine sq ?_
    refine rg fun KF hKF => ?_
    refine mI rfl ?_
    refine mI rfl ?_
    refine Fo.bin rfl rfl rfl (by simp only [↓nrmL, nrmZ, Nat.reduceEqDiff, ↓reduceIte, Nat.reduceAdd, Int.reduceBEq, Int.reduceBNe, hc3, hr]; rfl) ?_
    refine WpO.nil (hKF _ _ ?_)
    refine Wp.cond (b := false) rfl ?_
    refine Wp.exit ?_
    refine sq ?_
    refine rg fun KF hKF => ?_
    refine mB rfl ?_
    refine mB rfl ?_
    refine Fo.no rfl rfl ?_
    refine fB rfl rfl ?_
    refine mB rfl ?_
    refine Fo.yes rfl rfl ?_
    refine mB rfl ?_
    refine Fo.yes rfl rfl ?_
    refine Fo.now rfl rfl (by simp only [↓nrmL, nrmZ, Nat.reduceEqDiff, ↓reduceIte, Nat.reduceAdd, Int.reduceBEq, Int.reduceBNe, hc3, hr]; rfl) ?_
    refine Fo.yes rfl rfl ?_
    refine mB rfl ?_
    refine Fo.yes rfl rfl ?_
    refine mB rfl ?_
    refine Fo.yes rfl rfl ?_
    refine tB rfl rfl ?_
    refine fB rfl rfl ?_
    refine WpO.nil (hKF _ _ ?_)
    refine Wp.cond (b := true) rfl ?_
    refine rg fun KF hKF => ?_
    refine Fo.ldN rfl rfl (by simp only [↓nrmL, nrmZ, Nat.reduceEqDiff, ↓reduceIte, Nat.reduceAdd, Int.reduceBEq, Int.reduceBNe, hc3, hr]; rfl) ?_
    refine mI rfl ?_
    refine mI rfl ?_
    refine WpO.do (WpX.conD hn rfl rfl (by simp only [↓nrmL, nrmZ, Nat.reduceEqDiff, ↓reduceIte, Nat.reduceAdd, Int.reduceBEq, Int.reduceBNe, List.map] <;> rfl) (K_refSet (y := y) (x := x) (w := a) (by rw [hfl]; omega) (by rw [hfl]; omega)) fun r H6 h5 => ?_)
    obtain ⟨hb6, hw6, hx6⟩ := h5
    rw [← h0, fillP_set (Q := ltP (y * a + x + 1)) (fun k _ => ltP_next)] at hb6
    refine WpO.nil (hKF _ _ ?_)
    refine rg fun KF hKF => ?_
    refine mI rfl ?_
    refine Fo.bin rfl rfl rfl rfl ?_
    refine mI rfl ?_
    refine WpO.nil (hKF _ _ ?_)
    dsimp only [cond_true, cond_false]
    refine ⟨x + 1, by omega, ⟨by simp only [↓nrmL, nrmZ, Nat.reduceEqDiff, ↓reduceIte, Nat.reduceAdd, Int.reduceBEq, Int.reduceBNe]; rw [hw3], trivial⟩, hxa, hb6, hw6, inferInstance⟩
  ·skip
   have hG : G.getD (y * a + x) 0 = if allP l a b w x y h 0 = true then 1 else 0 := hgd x y hxa hyb
   cases hr : allP l a b w x y h 0
   ·rw [hr] at hG
    have h0 : (fun k => G.getD k 0) (y * a + x) = 0 := hG
    try simp only [↓nrmL, nrmZ, Nat.reduceEqDiff, ↓reduceIte, Nat.reduceAdd, Int.reduceBEq, Int.reduceBNe, hc3, hr]
    refine sq ?_
    refine sq ?_
    refine rg fun KF hKF => ?_
    refine mI rfl ?_
    refine mI rfl ?_
    refine Fo.bin rfl rfl rfl (by simp only [↓nrmL, nrmZ, Nat.reduceEqDiff, ↓reduceIte, Nat.reduceAdd, Int.reduceBEq, Int.reduceBNe, hc3, hr]; rfl) ?_
    refine WpO.nil (hKF _ _ ?_)
    refine Wp.cond (b := false) rfl ?_
    refine Wp.exit ?_
    refine sq ?_
    refine rg fun KF hKF => ?_
    refine mB rfl ?_
    refine mB rfl ?_
    refine Fo.yes rfl rfl ?_
    refine mB rfl ?_
    refine tB rfl rfl ?_
    refine mB rfl ?_
    refine Fo.yes rfl rfl ?_
    refine mB rfl ?_
    refine Fo.yes rfl rfl ?_
    refine Fo.now rfl rfl (by simp only [↓nrmL, nrmZ, Nat.reduceEqDiff, ↓reduceIte, Nat.reduceAdd, Int.reduceBEq, Int.reduceBNe, hc3, hr]; rfl) ?_
    refine Fo.yes rfl rfl ?_
    refine mB rfl ?_
    refine Fo.no rfl rfl ?_
    refine Fo.yes rfl rfl ?_
    refine fB rfl rfl ?_
    refine fB rfl rfl ?_
    refine WpO.nil (hKF _ _ ?_)
    refine Wp.cond (b := false) rfl ?_
    refine Wp.skip ?_
    refine rg fun KF hKF => ?_
    refine mI rfl ?_
    refine Fo.bin rfl rfl rfl rfl ?_
    refine mI rfl ?_
    refine WpO.nil (hKF _ _ ?_)
    dsimp only [cond_true, cond_false]
    rw [fillP_skip (Q := ltP (y * a + x + 1)) h0 (fun k _ => ltP_next)] at hb5
    refine ⟨x + 1, by omega, ⟨by simp only [↓nrmL, nrmZ, Nat.reduceEqDiff, ↓reduceIte, Nat.reduceAdd, Int.reduceBEq, Int.reduceBNe]; rw [hw3], trivial⟩, hxa, inferInstance, inferInstance, inferInstance⟩
   ·rw [hr] at hG
    have h0 : (fun k => G.getD k 0) (y * a + x) = 1 := hG
    try simp only [↓nrmL, nrmZ, Nat.reduceEqDiff, ↓reduceIte, Nat.reduceAdd, Int.reduceBEq, Int.reduceBNe, hc3, hr]
    refine sq ?_
    refine sq ?_
    refine rg fun KF hKF => ?_
    refine mI rfl ?_
    refine mI rfl ?_
    refine Fo.bin rfl rfl rfl (by simp only [↓nrmL, nrmZ, Nat.reduceEqDiff, ↓reduceIte, Nat.reduceAdd, Int.reduceBEq, Int.reduceBNe, hc3, hr]; rfl) ?_
    refine WpO.nil (hKF _ _ ?_)
    refine Wp.cond (b := false) rfl ?_
    refine Wp.exit ?_
    refine sq ?_
    refine rg fun KF hKF => ?_
    refine mB rfl ?_
    refine mB rfl ?_
    refine Fo.yes rfl rfl ?_
    refine mB rfl ?_
    refine tB rfl rfl ?_
    refine mB rfl ?_
    refine Fo.no rfl rfl ?_
    refine Fo.no rfl rfl ?_
    refine Fo.no rfl rfl ?_
    refine Fo.noU rfl ?_
    refine Fo.no rfl rfl ?_
    refine tB rfl rfl ?_
    refine WpO.nil (hKF _ _ ?_)
    refine Wp.cond (b := true) rfl ?_
    refine rg fun KF hKF => ?_
    refine Fo.ldN rfl rfl (by simp only [↓nrmL, nrmZ, Nat.reduceEqDiff, ↓reduceIte, Nat.reduceAdd, Int.reduceBEq, Int.reduceBNe, hc3, hr]; rfl) ?_
    refine mI rfl ?_
    refine mI rfl ?_
    refine WpO.do (WpX.conD hn rfl rfl (by simp only [↓nrmL, nrmZ, Nat.reduceEqDiff, ↓reduceIte, Nat.reduceAdd, Int.reduceBEq, Int.reduceBNe, List.map] <;> rfl) (K_refSet (y := y) (x := x) (w := a) (by rw [hfl]; omega) (by rw [hfl]; omega)) fun r H6 h5 => ?_)
    obtain ⟨hb6, hw6, hx6⟩ := h5
    rw [← h0, fillP_set (Q := ltP (y * a + x + 1)) (fun k _ => ltP_next)] at hb6
    refine WpO.nil (hKF _ _ ?_)
    refine rg fun KF hKF => ?_
    refine mI rfl ?_
    refine Fo.bin rfl rfl rfl rfl ?_
    refine mI rfl ?_
    refine WpO.nil (hKF _ _ ?_)
    dsimp only [cond_true, cond_false]
    refine ⟨x + 1, by omega, ⟨by simp only [↓nrmL, nrmZ, Nat.reduceEqDiff, ↓reduceIte, Nat.reduceAdd, Int.reduceBEq, Int.reduceBNe]; rw [hw3], trivial⟩, hxa, hb6, hw6, inferInstance⟩
 have hjh : j < h := by have := of_decide_eq_true hc3; omega
 have hw6 := wa1 (a := j) (by omega)
 try simp only [↓nrmL, nrmZ, Nat.reduceEqDiff, ↓reduceIte, Nat.reduceAdd, Int.reduceBEq, Int.reduceBNe, hc3]
 refine sq ?_
 refine sq ?_
 refine rg fun KF hKF => ?_
 refine mI rfl ?_
 refine mI rfl ?_
 refine Fo.bin rfl rfl rfl (by simp only [↓nrmL, nrmZ, Nat.reduceEqDiff, ↓reduceIte, Nat.reduceAdd, Int.reduceBEq, Int.reduceBNe, hc3]; rfl) ?_
 refine WpO.nil (hKF _ _ ?_)
 refine Wp.cond (b := true) rfl ?_
 refine Wp.skip ?_
 refine sq ?_
 refine Wp.block ?_
 refine sq ?_
 refine rg fun KF hKF => ?_
 refine mI rfl ?_
 refine WpO.nil (hKF _ _ ?_)
 refine Wp.block ?_
 dsimp only [cond_true, cond_false]
 refine Wp.loopS [14, 15, 17, 18, 19, 63, 64, 65, 66, 67, 68, 69, 70, 71, 72, 73, 74, 75, 76, 77, 78, 79, 80, 81, 82, 83, 84, 85, 86, 87, 88, 89, 90, 91, 92, 93, 94, 95, 96, 97, 98, 99] (fun i : Nat => [(14, .bool (oneP l a b w x y j i)), (15, .bool (allP l a b w x y j i)), (17, .int .i64 i)]) (fun H3 i H7 => i ≤ w ∧ Ext H3 H7) (fun i => w - i) 0 rfl (fun _ => rfl) ⟨rfl, rfl, rfl, trivial⟩ ⟨Nat.zero_le _, Ext.refl _⟩ (by unfold fuel0 at hn; omega) ?_
 rintro i g4' H7 ⟨hi, hx7⟩
 haveI : ExtI _ H7 := ⟨hx7⟩
 simp only [↓nrmL, nrmZ, Nat.reduceEqDiff, ↓reduceIte, Nat.reduceAdd, Int.reduceBEq, Int.reduceBNe]
 cases hc4 : decide ((i : Int) < (w : Int))
 ·have hiw : i = w := by have := of_decide_eq_false hc4; omega
  try simp only [↓nrmL, nrmZ, Nat.reduceEqDiff, ↓reduceIte, Nat.reduceAdd, Int.reduceBEq, Int.reduceBNe, hc4]
  refine sq ?_
  refine sq ?_
  refine rg fun KF hKF => ?_
  refine mI rfl ?_
  refine mI rfl ?_
  refine Fo.bin rfl rfl rfl (by simp only [↓nrmL, nrmZ, Nat.reduceEqDiff, ↓reduceIte, Nat.reduceAdd, Int.reduceBEq, Int.reduceBNe, hc4]; rfl) ?_
  refine WpO.nil (hKF _ _ ?_)
  refine Wp.cond (b := false) rfl ?_
  refine Wp.exit ?_
  refine rg fun KF hKF => ?_
  refine mI rfl ?_
  refine Fo.bin rfl rfl rfl rfl ?_
  refine mI rfl ?_
  refine WpO.nil (hKF _ _ ?_)
  dsimp only [cond_true, cond_false]
  refine ⟨j + 1, by omega, ⟨by simp only [↓nrmL, nrmZ, Nat.reduceEqDiff, ↓reduceIte, Nat.reduceAdd, Int.reduceBEq, Int.reduceBNe]; rw [hiw, oneP_row], by simp only [↓nrmL, nrmZ, Nat.reduceEqDiff, ↓reduceIte, Nat.reduceAdd, Int.reduceBEq, Int.reduceBNe]; rw [hiw, allP_row], by simp only [↓nrmL, nrmZ, Nat.reduceEqDiff, ↓reduceIte, Nat.reduceAdd, Int.reduceBEq, Int.reduceBNe]; rw [hw6], trivial⟩, by omega, Ext0.ext⟩
 have hiw : i < w := by have := of_decide_eq_true hc4; omega
 have hw4 := wa1 (a := i) (by omega)
 have hxi : IntKind.i64.wrap ((x : Int) + (i : Int)) = ((x + i : Nat) : Int) := by rw [w64 (by omega)]; omega
 have hyj : IntKind.i64.wrap ((y : Int) + (j : Int)) = ((y + j : Nat) : Int) := by rw [w64 (by omega)]; omega
 have hxs : IntKind.i64.wrap ((x : Int) - (i : Int)) = (x : Int) - (i : Int) := w64 (by omega)
 have hys : IntKind.i64.wrap ((y : Int) - (j : Int)) = (y : Int) - (j : Int) := w64 (by omega)
 cases ho : oneP l a b w x y j i
 ·have hon : oneP l a b w x y j (i + 1) = inkB a b l ((x + i : Nat) : Int) ((y + j : Nat) : Int) := by rw [oneP_succ, ho, Bool.false_or]
  cases ha0 : allP l a b w x y j i
  ·have hal : allP l a b w x y j (i + 1) = false := by rw [allP_succ, ha0, Bool.false_and]
   try simp only [↓nrmL, nrmZ, Nat.reduceEqDiff, ↓reduceIte, Nat.reduceAdd, Int.reduceBEq, Int.reduceBNe, hc4, hxi, hyj, hxs, hys]
   refine sq ?_
   refine sq ?_
   refine rg fun KF hKF => ?_
   refine mI rfl ?_
   refine mI rfl ?_
   refine Fo.bin rfl rfl rfl (by simp only [↓nrmL, nrmZ, Nat.reduceEqDiff, ↓reduceIte, Nat.reduceAdd, Int.reduceBEq, Int.reduceBNe, hc4, hxi, hyj, hxs, hys]; rfl) ?_
   refine WpO.nil (hKF _ _ ?_)
   refine Wp.cond (b := true) rfl ?_
   refine Wp.skip ?_
   refine sq ?_
   refine Wp.block ?_
   refine sq ?_
   refine rg fun KF hKF => ?_
   refine mB rfl ?_
   refine mB rfl ?_
   refine Fo.yes rfl rfl ?_
   refine Fo.ldN rfl rfl (by simp only [↓nrmL, nrmZ, Nat.reduceEqDiff, ↓reduceIte, Nat.reduceAdd, Int.reduceBEq, Int.reduceBNe, hc4, hxi, hyj, hxs, hys]; rfl) ?_
   refine Fo.yes rfl rfl ?_
   refine mI rfl ?_
   refine Fo.yes rfl rfl ?_
   refine mI rfl ?_
   refine Fo.yes rfl rfl ?_
   refine Fo.bin rfl rfl rfl (by simp only [↓nrmL, nrmZ, Nat.reduceEqDiff, ↓reduceIte, Nat.reduceAdd, Int.reduceBEq, Int.reduceBNe, hc4, hxi, hyj, hxs, hys]; rfl) ?_
   refine Fo.yes rfl rfl ?_
   refine mI rfl ?_
   refine Fo.yes rfl rfl ?_
   refine mI rfl ?_
   refine Fo.yes rfl rfl ?_
   refine Fo.bin rfl rfl rfl (by simp only [↓nrmL, nrmZ, Nat.reduceEqDiff, ↓reduceIte, Nat.reduceAdd, Int.reduceBEq, Int.reduceBNe, hc4, hxi, hyj, hxs, hys]; rfl) ?_
   refine Fo.yes rfl rfl ?_
   refine Fo.pcall (v' := ?_) hn rfl (by simp only [↓nrmL, nrmZ, Nat.reduceEqDiff, ↓reduceIte, Nat.reduceAdd, Int.reduceBEq, Int.reduceBNe, hc4, hxi, hyj, hxs, hys, List.map]; rfl) rfl ?hv fun _ _ => ?_; case hv => rfl
   refine fB rfl rfl ?_
   refine mB rfl ?_
   refine WpO.nil (hKF _ _ ?_)
   refine sq ?_
   refine rg fun KF hKF => ?_
   refine mI rfl ?_
   refine mI rfl ?_
   refine Fo.bin rfl rfl rfl (by simp only [↓nrmL, nrmZ, Nat.reduceEqDiff, ↓reduceIte, Nat.reduceAdd, Int.reduceBEq, Int.reduceBNe, hc4, hxi, hyj, hxs, hys]; rfl) ?_
   refine mI rfl ?_
   refine mI rfl ?_
   refine Fo.bin rfl rfl rfl (by simp only [↓nrmL, nrmZ, Nat.reduceEqDiff, ↓reduceIte, Nat.reduceAdd, Int.reduceBEq, Int.reduceBNe, hc4, hxi, hyj, hxs, hys]; rfl) ?_
   refine mI rfl ?_
   refine mI rfl ?_
   refine WpO.nil (hKF _ _ ?_)
   refine rg fun KF hKF => ?_
   refine mB rfl ?_
   refine mB rfl ?_
   refine Fo.no rfl rfl ?_
   refine Fo.no rfl rfl ?_
   refine Fo.no rfl rfl ?_
   refine Fo.noU rfl ?_
   refine Fo.noU rfl ?_
   refine Fo.no rfl rfl ?_
   refine Fo.no rfl rfl ?_
   refine Fo.noU rfl ?_
   refine Fo.noU rfl ?_
   refine Fo.noU rfl ?_
   refine Fo.noU rfl ?_
   refine Fo.no rfl rfl ?_
   refine fB rfl rfl ?_
   refine mB rfl ?_
   refine WpO.nil (hKF _ _ ?_)
   refine rg fun KF hKF => ?_
   refine mI rfl ?_
   refine Fo.bin rfl rfl rfl rfl ?_
   refine mI rfl ?_
   refine WpO.nil (hKF _ _ ?_)
   dsimp only [cond_true, cond_false]
   refine ⟨i + 1, by omega, ⟨by simp only [↓nrmL, nrmZ, Nat.reduceEqDiff, ↓reduceIte, Nat.reduceAdd, Int.reduceBEq, Int.reduceBNe]; rw [hon], by simp only [↓nrmL, nrmZ, Nat.reduceEqDiff, ↓reduceIte, Nat.reduceAdd, Int.reduceBEq, Int.reduceBNe]; rw [hal], by simp only [↓nrmL, nrmZ, Nat.reduceEqDiff, ↓reduceIte, Nat.reduceAdd, Int.reduceBEq, Int.reduceBNe]; rw [hw4], trivial⟩, by omega, Ext0.ext⟩
  cases hu : decide ((x : Int) - (i : Int) < 0)
  rotate_left
  ·have hal : allP l a b w x y j (i + 1) = true := by rw [allP_succ, ha0, allC, hu]; rfl
   try simp only [↓nrmL, nrmZ, Nat.reduceEqDiff, ↓reduceIte, Nat.reduceAdd, Int.reduceBEq, Int.reduceBNe, hc4, hxi, hyj, hxs, hys, hu]
   refine sq ?_
   refine sq ?_
   refine rg fun KF hKF => ?_
   refine mI rfl ?_
   refine mI rfl ?_
   refine Fo.bin rfl rfl rfl (by simp only [↓nrmL, nrmZ, Nat.reduceEqDiff, ↓reduceIte, Nat.reduceAdd, Int.reduceBEq, Int.reduceBNe, hc4, hxi, hyj, hxs, hys, hu]; rfl) ?_
   refine WpO.nil (hKF _ _ ?_)
   refine Wp.cond (b := true) rfl ?_
   refine Wp.skip ?_
   refine sq ?_
   refine Wp.block ?_
   refine sq ?_
   refine rg fun KF hKF => ?_
   refine mB rfl ?_
   refine mB rfl ?_
   refine Fo.yes rfl rfl ?_
   refine Fo.ldN rfl rfl (by simp only [↓nrmL, nrmZ, Nat.reduceEqDiff, ↓reduceIte, Nat.reduceAdd, Int.reduceBEq, Int.reduceBNe, hc4, hxi, hyj, hxs, hys, hu]; rfl) ?_
   refine Fo.yes rfl rfl ?_
   refine mI rfl ?_
   refine Fo.yes rfl rfl ?_
   refine mI rfl ?_
   refine Fo.yes rfl rfl ?_
   refine Fo.bin rfl rfl rfl (by simp only [↓nrmL, nrmZ, Nat.reduceEqDiff, ↓reduceIte, Nat.reduceAdd, Int.reduceBEq, Int.reduceBNe, hc4, hxi, hyj, hxs, hys, hu]; rfl) ?_
   refine Fo.yes rfl rfl ?_
   refine mI rfl ?_
   refine Fo.yes rfl rfl ?_
   refine mI rfl ?_
   refine Fo.yes rfl rfl ?_
   refine Fo.bin rfl rfl rfl (by simp only [↓nrmL, nrmZ, Nat.reduceEqDiff, ↓reduceIte, Nat.reduceAdd, Int.reduceBEq, Int.reduceBNe, hc4, hxi, hyj, hxs, hys, hu]; rfl) ?_
   refine Fo.yes rfl rfl ?_
   refine Fo.pcall (v' := ?_) hn rfl (by simp only [↓nrmL, nrmZ, Nat.reduceEqDiff, ↓reduceIte, Nat.reduceAdd, Int.reduceBEq, Int.reduceBNe, hc4, hxi, hyj, hxs, hys, hu, List.map]; rfl) rfl ?hv fun _ _ => ?_; case hv => rfl
   refine fB rfl rfl ?_
   refine mB rfl ?_
   refine WpO.nil (hKF _ _ ?_)
   refine sq ?_
   refine rg fun KF hKF => ?_
   refine mI rfl ?_
   refine mI rfl ?_
   refine Fo.bin rfl rfl rfl (by simp only [↓nrmL, nrmZ, Nat.reduceEqDiff, ↓reduceIte, Nat.reduceAdd, Int.reduceBEq, Int.reduceBNe, hc4, hxi, hyj, hxs, hys, hu]; rfl) ?_
   refine mI rfl ?_
   refine mI rfl ?_
   refine Fo.bin rfl rfl rfl (by simp only [↓nrmL, nrmZ, Nat.reduceEqDiff, ↓reduceIte, Nat.reduceAdd, Int.reduceBEq, Int.reduceBNe, hc4, hxi, hyj, hxs, hys, hu]; rfl) ?_
   refine mI rfl ?_
   refine mI rfl ?_
   refine WpO.nil (hKF _ _ ?_)
   refine rg fun KF hKF => ?_
   refine mB rfl ?_
   refine mB rfl ?_
   refine Fo.yes rfl rfl ?_
   refine mI rfl ?_
   refine Fo.yes rfl rfl ?_
   refine Fo.bin rfl rfl rfl (by simp only [↓nrmL, nrmZ, Nat.reduceEqDiff, ↓reduceIte, Nat.reduceAdd, Int.reduceBEq, Int.reduceBNe, hc4, hxi, hyj, hxs, hys, hu]; rfl) ?_
   refine Fo.yes rfl rfl ?_
   refine mB rfl ?_
   refine Fo.no rfl rfl ?_
   refine Fo.no rfl rfl ?_
   refine Fo.yes rfl rfl ?_
   refine tB rfl rfl ?_
   refine Fo.yes rfl rfl ?_
   refine mB rfl ?_
   refine Fo.no rfl rfl ?_
   refine Fo.no rfl rfl ?_
   refine Fo.no rfl rfl ?_
   refine Fo.no rfl rfl ?_
   refine Fo.yes rfl rfl ?_
   refine tB rfl rfl ?_
   refine tB rfl rfl ?_
   refine mB rfl ?_
   refine WpO.nil (hKF _ _ ?_)
   refine rg fun KF hKF => ?_
   refine mI rfl ?_
   refine Fo.bin rfl rfl rfl rfl ?_
   refine mI rfl ?_
   refine WpO.nil (hKF _ _ ?_)
   dsimp only [cond_true, cond_false]
   refine ⟨i + 1, by omega, ⟨by simp only [↓nrmL, nrmZ, Nat.reduceEqDiff, ↓reduceIte, Nat.reduceAdd, Int.reduceBEq, Int.reduceBNe]; rw [hon], by simp only [↓nrmL, nrmZ, Nat.reduceEqDiff, ↓reduceIte, Nat.reduceAdd, Int.reduceBEq, Int.reduceBNe]; rw [hal], by simp only [↓nrmL, nrmZ, Nat.reduceEqDiff, ↓reduceIte, Nat.reduceAdd, Int.reduceBEq, Int.reduceBNe]; rw [hw4], trivial⟩, by omega, Ext0.ext⟩
  cases hv : decide ((y : Int) - (j : Int) < 0)
  rotate_left
  ·have hal : allP l a b w x y j (i + 1) = true := by rw [allP_succ, ha0, allC, hu, hv]; rfl
   try simp only [↓nrmL, nrmZ, Nat.reduceEqDiff, ↓reduceIte, Nat.reduceAdd, Int.reduceBEq, Int.reduceBNe, hc4, hxi, hyj, hxs, hys, hu, hv]
   refine sq ?_
   refine sq ?_
   refine rg fun KF hKF => ?_
   refine mI rfl ?_
   refine mI rfl ?_
   refine Fo.bin rfl rfl rfl (by simp only [↓nrmL, nrmZ, Nat.reduceEqDiff, ↓reduceIte, Nat.reduceAdd, Int.reduceBEq, Int.reduceBNe, hc4, hxi, hyj, hxs, hys, hu, hv]; rfl) ?_
   refine WpO.nil (hKF _ _ ?_)
   refine Wp.cond (b := true) rfl ?_
   refine Wp.skip ?_
   refine sq ?_
   refine Wp.block ?_
   refine sq ?_
   refine rg fun KF hKF => ?_
   refine mB rfl ?_
   refine mB rfl ?_
   refine Fo.yes rfl rfl ?_
   refine Fo.ldN rfl rfl (by simp only [↓nrmL, nrmZ, Nat.reduceEqDiff, ↓reduceIte, Nat.reduceAdd, Int.reduceBEq, Int.reduceBNe, hc4, hxi, hyj, hxs, hys, hu, hv]; rfl) ?_
   refine Fo.yes rfl rfl ?_
   refine mI rfl ?_
   refine Fo.yes rfl rfl ?_
   refine mI rfl ?_
   refine Fo.yes rfl rfl ?_
   refine Fo.bin rfl rfl rfl (by simp only [↓nrmL, nrmZ, Nat.reduceEqDiff, ↓reduceIte, Nat.reduceAdd, Int.reduceBEq, Int.reduceBNe, hc4, hxi, hyj, hxs, hys, hu, hv]; rfl) ?_
   refine Fo.yes rfl rfl ?_
   refine mI rfl ?_
   refine Fo.yes rfl rfl ?_
   refine mI rfl ?_
   refine Fo.yes rfl rfl ?_
   refine Fo.bin rfl rfl rfl (by simp only [↓nrmL, nrmZ, Nat.reduceEqDiff, ↓reduceIte, Nat.reduceAdd, Int.reduceBEq, Int.reduceBNe, hc4, hxi, hyj, hxs, hys, hu, hv]; rfl) ?_
   refine Fo.yes rfl rfl ?_
   refine Fo.pcall (v' := ?_) hn rfl (by simp only [↓nrmL, nrmZ, Nat.reduceEqDiff, ↓reduceIte, Nat.reduceAdd, Int.reduceBEq, Int.reduceBNe, hc4, hxi, hyj, hxs, hys, hu, hv, List.map]; rfl) rfl ?hv fun _ _ => ?_; case hv => rfl
   refine fB rfl rfl ?_
   refine mB rfl ?_
   refine WpO.nil (hKF _ _ ?_)
   refine sq ?_
   refine rg fun KF hKF => ?_
   refine mI rfl ?_
   refine mI rfl ?_
   refine Fo.bin rfl rfl rfl (by simp only [↓nrmL, nrmZ, Nat.reduceEqDiff, ↓reduceIte, Nat.reduceAdd, Int.reduceBEq, Int.reduceBNe, hc4, hxi, hyj, hxs, hys, hu, hv]; rfl) ?_
   refine mI rfl ?_
   refine mI rfl ?_
   refine Fo.bin rfl rfl rfl (by simp only [↓nrmL, nrmZ, Nat.reduceEqDiff, ↓reduceIte, Nat.reduceAdd, Int.reduceBEq, Int.reduceBNe, hc4, hxi, hyj, hxs, hys, hu, hv]; rfl) ?_
   refine mI rfl ?_
   refine mI rfl ?_
   refine WpO.nil (hKF _ _ ?_)
   refine rg fun KF hKF => ?_
   refine mB rfl ?_
   refine mB rfl ?_
   refine Fo.yes rfl rfl ?_
   refine mI rfl ?_
   refine Fo.yes rfl rfl ?_
   refine Fo.bin rfl rfl rfl (by simp only [↓nrmL, nrmZ, Nat.reduceEqDiff, ↓reduceIte, Nat.reduceAdd, Int.reduceBEq, Int.reduceBNe, hc4, hxi, hyj, hxs, hys, hu, hv]; rfl) ?_
   refine Fo.yes rfl rfl ?_
   refine mB rfl ?_
   refine Fo.yes rfl rfl ?_
   refine mI rfl ?_
   refine Fo.yes rfl rfl ?_
   refine Fo.bin rfl rfl rfl (by simp only [↓nrmL, nrmZ, Nat.reduceEqDiff, ↓reduceIte, Nat.reduceAdd, Int.reduceBEq, Int.reduceBNe, hc4, hxi, hyj, hxs, hys, hu, hv]; rfl) ?_
   refine Fo.yes rfl rfl ?_
   refine fB rfl rfl ?_
   refine Fo.yes rfl rfl ?_
   refine mB rfl ?_
   refine Fo.no rfl rfl ?_
   refine Fo.no rfl rfl ?_
   refine Fo.no rfl rfl ?_
   refine Fo.no rfl rfl ?_
   refine Fo.yes rfl rfl ?_
   refine tB rfl rfl ?_
   refine tB rfl rfl ?_
   refine mB rfl ?_
   refine WpO.nil (hKF _ _ ?_)
   refine rg fun KF hKF => ?_
   refine mI rfl ?_
   refine Fo.bin rfl rfl rfl rfl ?_
   refine mI rfl ?_
   refine WpO.nil (hKF _ _ ?_)
   dsimp only [cond_true, cond_false]
   refine ⟨i + 1, by omega, ⟨by simp only [↓nrmL, nrmZ, Nat.reduceEqDiff, ↓reduceIte, Nat.reduceAdd, Int.reduceBEq, Int.reduceBNe]; rw [hon], by simp only [↓nrmL, nrmZ, Nat.reduceEqDiff, ↓reduceIte, Nat.reduceAdd, Int.reduceBEq, Int.reduceBNe]; rw [hal], by simp only [↓nrmL, nrmZ, Nat.reduceEqDiff, ↓reduceIte, Nat.reduceAdd, Int.reduceBEq, Int.reduceBNe]; rw [hw4], trivial⟩, by omega, Ext0.ext⟩
  ·have hal : allP l a b w x y j (i + 1) = inkB a b l ((x : Int) - (i : Int)) ((y : Int) - (j : Int)) := by rw [allP_succ, ha0, allC, hu, hv, Bool.false_or, Bool.false_or, Bool.true_and]
   try simp only [↓nrmL, nrmZ, Nat.reduceEqDiff, ↓reduceIte, Nat.reduceAdd, Int.reduceBEq, Int.reduceBNe, hc4, hxi, hyj, hxs, hys, hu, hv]
   refine sq ?_
   refine sq ?_
   refine rg fun KF hKF => ?_
   refine mI rfl ?_
   refine mI rfl ?_
   refine Fo.bin rfl rfl rfl (by simp only [↓nrmL, nrmZ, Nat.reduceEqDiff, ↓reduceIte, Nat.reduceAdd, Int.reduceBEq, Int.reduceBNe, hc4, hxi, hyj, hxs, hys, hu, hv]; rfl) ?_
   refine WpO.nil (hKF _ _ ?_)
   refine Wp.cond (b := true) rfl ?_
   refine Wp.skip ?_
   refine sq ?_
   refine Wp.block ?_
   refine sq ?_
   refine rg fun KF hKF => ?_
   refine mB rfl ?_
   refine mB rfl ?_
   refine Fo.yes rfl rfl ?_
   refine Fo.ldN rfl rfl (by simp only [↓nrmL, nrmZ, Nat.reduceEqDiff, ↓reduceIte, Nat.reduceAdd, Int.reduceBEq, Int.reduceBNe, hc4, hxi, hyj, hxs, hys, hu, hv]; rfl) ?_
   refine Fo.yes rfl rfl ?_
   refine mI rfl ?_
   refine Fo.yes rfl rfl ?_
   refine mI rfl ?_
   refine Fo.yes rfl rfl ?_
   refine Fo.bin rfl rfl rfl (by simp only [↓nrmL, nrmZ, Nat.reduceEqDiff, ↓reduceIte, Nat.reduceAdd, Int.reduceBEq, Int.reduceBNe, hc4, hxi, hyj, hxs, hys, hu, hv]; rfl) ?_
   refine Fo.yes rfl rfl ?_
   refine mI rfl ?_
   refine Fo.yes rfl rfl ?_
   refine mI rfl ?_
   refine Fo.yes rfl rfl ?_
   refine Fo.bin rfl rfl rfl (by simp only [↓nrmL, nrmZ, Nat.reduceEqDiff, ↓reduceIte, Nat.reduceAdd, Int.reduceBEq, Int.reduceBNe, hc4, hxi, hyj, hxs, hys, hu, hv]; rfl) ?_
   refine Fo.yes rfl rfl ?_
   refine Fo.pcall (v' := ?_) hn rfl (by simp only [↓nrmL, nrmZ, Nat.reduceEqDiff, ↓reduceIte, Nat.reduceAdd, Int.reduceBEq, Int.reduceBNe, hc4, hxi, hyj, hxs, hys, hu, hv, List.map]; rfl) rfl ?hv fun _ _ => ?_; case hv => rfl
   refine fB rfl rfl ?_
   refine mB rfl ?_
   refine WpO.nil (hKF _ _ ?_)
   refine sq ?_
   refine rg fun KF hKF => ?_
   refine mI rfl ?_
   refine mI rfl ?_
   refine Fo.bin rfl rfl rfl (by simp only [↓nrmL, nrmZ, Nat.reduceEqDiff, ↓reduceIte, Nat.reduceAdd, Int.reduceBEq, Int.reduceBNe, hc4, hxi, hyj, hxs, hys, hu, hv]; rfl) ?_
   refine mI rfl ?_
   refine mI rfl ?_
   refine Fo.bin rfl rfl rfl (by simp only [↓nrmL, nrmZ, Nat.reduceEqDiff, ↓reduceIte, Nat.reduceAdd, Int.reduceBEq, Int.reduceBNe, hc4, hxi, hyj, hxs, hys, hu, hv]; rfl) ?_
   refine mI rfl ?_
   refine mI rfl ?_
   refine WpO.nil (hKF _ _ ?_)
   refine rg fun KF hKF => ?_
   refine mB rfl ?_
   refine mB rfl ?_
   refine Fo.yes rfl rfl ?_
   refine mI rfl ?_
   refine Fo.yes rfl rfl ?_
   refine Fo.bin rfl rfl rfl (by simp only [↓nrmL, nrmZ, Nat.reduceEqDiff, ↓reduceIte, Nat.reduceAdd, Int.reduceBEq, Int.reduceBNe, hc4, hxi, hyj, hxs, hys, hu, hv]; rfl) ?_
   refine Fo.yes rfl rfl ?_
   refine mB rfl ?_
   refine Fo.yes rfl rfl ?_
   refine mI rfl ?_
   refine Fo.yes rfl rfl ?_
   refine Fo.bin rfl rfl rfl (by simp only [↓nrmL, nrmZ, Nat.reduceEqDiff, ↓reduceIte, Nat.reduceAdd, Int.reduceBEq, Int.reduceBNe, hc4, hxi, hyj, hxs, hys, hu, hv]; rfl) ?_
   refine Fo.yes rfl rfl ?_
   refine fB rfl rfl ?_
   refine Fo.yes rfl rfl ?_
   refine mB rfl ?_
   refine Fo.yes rfl rfl ?_
   refine Fo.ldN rfl rfl (by simp only [↓nrmL, nrmZ, Nat.reduceEqDiff, ↓reduceIte, Nat.reduceAdd, Int.reduceBEq, Int.reduceBNe, hc4, hxi, hyj, hxs, hys, hu, hv]; rfl) ?_
   refine Fo.yes rfl rfl ?_
   refine mI rfl ?_
   refine Fo.yes rfl rfl ?_
   refine mI rfl ?_
   refine Fo.yes rfl rfl ?_
   refine Fo.pcall (v' := ?_) hn rfl (by simp only [↓nrmL, nrmZ, Nat.reduceEqDiff, ↓reduceIte, Nat.reduceAdd, Int.reduceBEq, Int.reduceBNe, hc4, hxi, hyj, hxs, hys, hu, hv, List.map]; rfl) rfl ?hv fun _ _ => ?_; case hv => rfl
   refine Fo.yes rfl rfl ?_
   refine fB rfl rfl ?_
   refine tB rfl rfl ?_
   refine mB rfl ?_
   refine WpO.nil (hKF _ _ ?_)
   refine rg fun KF hKF => ?_
   refine mI rfl ?_
   refine Fo.bin rfl rfl rfl rfl ?_
   refine mI rfl ?_
   refine WpO.nil (hKF _ _ ?_)
   dsimp only [cond_true, cond_false]
   refine ⟨i + 1, by omega, ⟨by simp only [↓nrmL, nrmZ, Nat.reduceEqDiff, ↓reduceIte, Nat.reduceAdd, Int.reduceBEq, Int.reduceBNe]; rw [hon], by simp only [↓nrmL, nrmZ, Nat.reduceEqDiff, ↓reduceIte, Nat.reduceAdd, Int.reduceBEq, Int.reduceBNe]; rw [hal], by simp only [↓nrmL, nrmZ, Nat.reduceEqDiff, ↓reduceIte, Nat.reduceAdd, Int.reduceBEq, Int.reduceBNe]; rw [hw4], trivial⟩, by omega, Ext0.ext⟩
 ·have hon : oneP l a b w x y j (i + 1) = true := by rw [oneP_succ, ho, Bool.true_or]
  cases ha0 : allP l a b w x y j i
  ·have hal : allP l a b w x y j (i + 1) = false := by rw [allP_succ, ha0, Bool.false_and]
   try simp only [↓nrmL, nrmZ, Nat.reduceEqDiff, ↓reduceIte, Nat.reduceAdd, Int.reduceBEq, Int.reduceBNe, hc4, hxi, hyj, hxs, hys]
   refine sq ?_
   refine sq ?_
   refine rg fun KF hKF => ?_
   refine mI rfl ?_
   refine mI rfl ?_
   refine Fo.bin rfl rfl rfl (by simp only [↓nrmL, nrmZ, Nat.reduceEqDiff, ↓reduceIte, Nat.reduceAdd, Int.reduceBEq, Int.reduceBNe, hc4, hxi, hyj, hxs, hys]; rfl) ?_
   refine WpO.nil (hKF _ _ ?_)
   refine Wp.cond (b := true) rfl ?_
   refine Wp.skip ?_
   refine sq ?_
   refine Wp.block ?_
   refine sq ?_
   refine rg fun KF hKF => ?_
   refine mB rfl ?_
   refine mB rfl ?_
   refine Fo.no rfl rfl ?_
   refine Fo.no rfl rfl ?_
   refine Fo.no rfl rfl ?_
   refine Fo.no rfl rfl ?_
   refine Fo.no rfl rfl ?_
   refine Fo.no rfl rfl ?_
   refine Fo.no rfl rfl ?_
   refine Fo.no rfl rfl ?_
   refine tB rfl rfl ?_
   refine mB rfl ?_
   refine WpO.nil (hKF _ _ ?_)
   refine sq ?_
   refine rg fun KF hKF => ?_
   refine mI rfl ?_
   refine mI rfl ?_
   refine Fo.bin rfl rfl rfl (by simp only [↓nrmL, nrmZ, Nat.reduceEqDiff, ↓reduceIte, Nat.reduceAdd, Int.reduceBEq, Int.reduceBNe, hc4, hxi, hyj, hxs, hys]; rfl) ?_
   refine mI rfl ?_
   refine mI rfl ?_
   refine Fo.bin rfl rfl rfl (by simp only [↓nrmL, nrmZ, Nat.reduceEqDiff, ↓reduceIte, Nat.reduceAdd, Int.reduceBEq, Int.reduceBNe, hc4, hxi, hyj, hxs, hys]; rfl) ?_
   refine mI rfl ?_
   refine mI rfl ?_
   refine WpO.nil (hKF _ _ ?_)
   refine rg fun KF hKF => ?_
   refine mB rfl ?_
   refine mB rfl ?_
   refine Fo.no rfl rfl ?_
   refine Fo.no rfl rfl ?_
   refine Fo.no rfl rfl ?_
   refine Fo.noU rfl ?_
   refine Fo.noU rfl ?_
   refine Fo.no rfl rfl ?_
   refine Fo.no rfl rfl ?_
   refine Fo.noU rfl ?_
   refine Fo.noU rfl ?_
   refine Fo.noU rfl ?_
   refine Fo.noU rfl ?_
   refine Fo.no rfl rfl ?_
   refine fB rfl rfl ?_
   refine mB rfl ?_
   refine WpO.nil (hKF _ _ ?_)
   refine rg fun KF hKF => ?_
   refine mI rfl ?_
   refine Fo.bin rfl rfl rfl rfl ?_
   refine mI rfl ?_
   refine WpO.nil (hKF _ _ ?_)
   dsimp only [cond_true, cond_false]
   refine ⟨i + 1, by omega, ⟨by simp only [↓nrmL, nrmZ, Nat.reduceEqDiff, ↓reduceIte, Nat.reduceAdd, Int.reduceBEq, Int.reduceBNe]; rw [hon], by simp only [↓nrmL, nrmZ, Nat.reduceEqDiff, ↓reduceIte, Nat.reduceAdd, Int.reduceBEq, Int.reduceBNe]; rw [hal], by simp only [↓nrmL, nrmZ, Nat.reduceEqDiff, ↓reduceIte, Nat.reduceAdd, Int.reduceBEq, Int.reduceBNe]; rw [hw4], trivial⟩, by omega, Ext0.ext⟩
  cases hu : decide ((x : Int) - (i : Int) < 0)
  rotate_left
  ·have hal : allP l a b w x y j (i + 1) = true := by rw [allP_succ, ha0, allC, hu]; rfl
   try simp only [↓nrmL, nrmZ, Nat.reduceEqDiff, ↓reduceIte, Nat.reduceAdd, Int.reduceBEq, Int.reduceBNe, hc4, hxi, hyj, hxs, hys, hu]
   refine sq ?_
   refine sq ?_
   refine rg fun KF hKF => ?_
   refine mI rfl ?_
   refine mI rfl ?_
   refine Fo.bin rfl rfl rfl (by simp only [↓nrmL, nrmZ, Nat.reduceEqDiff, ↓reduceIte, Nat.reduceAdd, Int.reduceBEq, Int.reduceBNe, hc4, hxi, hyj, hxs, hys, hu]; rfl) ?_
   refine WpO.nil (hKF _ _ ?_)
   refine Wp.cond (b := true) rfl ?_
   refine Wp.skip ?_
   refine sq ?_
   refine Wp.block ?_
   refine sq ?_
   refine rg fun KF hKF => ?_
   refine mB rfl ?_
   refine mB rfl ?_
   refine Fo.no rfl rfl ?_
   refine Fo.no rfl rfl ?_
   refine Fo.no rfl rfl ?_
   refine Fo.no rfl rfl ?_
   refine Fo.no rfl rfl ?_
   refine Fo.no rfl rfl ?_
   refine Fo.no rfl rfl ?_
   refine Fo.no rfl rfl ?_
   refine tB rfl rfl ?_
   refine mB rfl ?_
   refine WpO.nil (hKF _ _ ?_)
   refine sq ?_
   refine rg fun KF hKF => ?_
   refine mI rfl ?_
   refine mI rfl ?_
   refine Fo.bin rfl rfl rfl (by simp only [↓nrmL, nrmZ, Nat.reduceEqDiff, ↓reduceIte, Nat.reduceAdd, Int.reduceBEq, Int.reduceBNe, hc4, hxi, hyj, hxs, hys, hu]; rfl) ?_
   refine mI rfl ?_
   refine mI rfl ?_
   refine Fo.bin rfl rfl rfl (by simp only [↓nrmL, nrmZ, Nat.reduceEqDiff, ↓reduceIte, Nat.reduceAdd, Int.reduceBEq, Int.reduceBNe, hc4, hxi, hyj, hxs, hys, hu]; rfl) ?_
   refine mI rfl ?_
   refine mI rfl ?_
   refine WpO.nil (hKF _ _ ?_)
   refine rg fun KF hKF => ?_
   refine mB rfl ?_
   refine mB rfl ?_
   refine Fo.yes rfl rfl ?_
   refine mI rfl ?_
   refine Fo.yes rfl rfl ?_
   refine Fo.bin rfl rfl rfl (by simp only [↓nrmL, nrmZ, Nat.reduceEqDiff, ↓reduceIte, Nat.reduceAdd, Int.reduceBEq, Int.reduceBNe, hc4, hxi, hyj, hxs, hys, hu]; rfl) ?_
   refine Fo.yes rfl rfl ?_
   refine mB rfl ?_
   refine Fo.no rfl rfl ?_
   refine Fo.no rfl rfl ?_
   refine Fo.yes rfl rfl ?_
   refine tB rfl rfl ?_
   refine Fo.yes rfl rfl ?_
   refine mB rfl ?_
   refine Fo.no rfl rfl ?_
   refine Fo.no rfl rfl ?_
   refine Fo.no rfl rfl ?_
   refine Fo.no rfl rfl ?_
   refine Fo.yes rfl rfl ?_
   refine tB rfl rfl ?_
   refine tB rfl rfl ?_
   refine mB rfl ?_
   refine WpO.nil (hKF _ _ ?_)
   refine rg fun KF hKF => ?_
   refine mI rfl ?_
   refine Fo.bin rfl rfl rfl rfl ?_
   refine mI rfl ?_
   refine WpO.nil (hKF _ _ ?_)
   dsimp only [cond_true, cond_false]
   refine ⟨i + 1, by omega, ⟨by simp only [↓nrmL, nrmZ, Nat.reduceEqDiff, ↓reduceIte, Nat.reduceAdd, Int.reduceBEq, Int.reduceBNe]; rw [hon], by simp only [↓nrmL, nrmZ, Nat.reduceEqDiff, ↓reduceIte, Nat.reduceAdd, Int.reduceBEq, Int.reduceBNe]; rw [hal], by simp only [↓nrmL, nrmZ, Nat.reduceEqDiff, ↓reduceIte, Nat.reduceAdd, Int.reduceBEq, Int.reduceBNe]; rw [hw4], trivial⟩, by omega, Ext0.ext⟩
  cases hv : decide ((y : Int) - (j : Int) < 0)
  rotate_left
  ·have hal : allP l a b w x y j (i + 1) = true := by rw [allP_succ, ha0, allC, hu, hv]; rfl
   try simp only [↓nrmL, nrmZ, Nat.reduceEqDiff, ↓reduceIte, Nat.reduceAdd, Int.reduceBEq, Int.reduceBNe, hc4, hxi, hyj, hxs, hys, hu, hv]
   refine sq ?_
   refine sq ?_
   refine rg fun KF hKF => ?_
   refine mI rfl ?_
   refine mI rfl ?_
   refine Fo.bin rfl rfl rfl (by simp only [↓nrmL, nrmZ, Nat.reduceEqDiff, ↓reduceIte, Nat.reduceAdd, Int.reduceBEq, Int.reduceBNe, hc4, hxi, hyj, hxs, hys, hu, hv]; rfl) ?_
   refine WpO.nil (hKF _ _ ?_)
   refine Wp.cond (b := true) rfl ?_
   refine Wp.skip ?_
   refine sq ?_
   refine Wp.block ?_
   refine sq ?_
   refine rg fun KF hKF => ?_
   refine mB rfl ?_
   refine mB rfl ?_
   refine Fo.no rfl rfl ?_
   refine Fo.no rfl rfl ?_
   refine Fo.no rfl rfl ?_
   refine Fo.no rfl rfl ?_
   refine Fo.no rfl rfl ?_
   refine Fo.no rfl rfl ?_
   refine Fo.no rfl rfl ?_
   refine Fo.no rfl rfl ?_
   refine tB rfl rfl ?_
   refine mB rfl ?_
   refine WpO.nil (hKF _ _ ?_)
   refine sq ?_
   refine rg fun KF hKF => ?_
   refine mI rfl ?_
   refine mI rfl ?_
   refine Fo.bin rfl rfl rfl (by simp only [↓nrmL, nrmZ, Nat.reduceEqDiff, ↓reduceIte, Nat.reduceAdd, Int.reduceBEq, Int.reduceBNe, hc4, hxi, hyj, hxs, hys, hu, hv]; rfl) ?_
   refine mI rfl ?_
   refine mI rfl ?_
   refine Fo.bin rfl rfl rfl (by simp only [↓nrmL, nrmZ, Nat.reduceEqDiff, ↓reduceIte, Nat.reduceAdd, Int.reduceBEq, Int.reduceBNe, hc4, hxi, hyj, hxs, hys, hu, hv]; rfl) ?_
   refine mI rfl ?_
   refine mI rfl ?_
   refine WpO.nil (hKF _ _ ?_)
   refine rg fun KF hKF => ?_
   refine mB rfl ?_
   refine mB rfl ?_
   refine Fo.yes rfl rfl ?_
   refine mI rfl ?_
   refine Fo.yes rfl rfl ?_
   refine Fo.bin rfl rfl rfl (by simp only [↓nrmL, nrmZ, Nat.reduceEqDiff, ↓reduceIte, Nat.reduceAdd, Int.reduceBEq, Int.reduceBNe, hc4, hxi, hyj, hxs, hys, hu, hv]; rfl) ?_
   refine Fo.yes rfl rfl ?_
   refine mB rfl ?_
   refine Fo.yes rfl rfl ?_
   refine mI rfl ?_
   refine Fo.yes rfl rfl ?_
   refine Fo.bin rfl rfl rfl (by simp only [↓nrmL, nrmZ, Nat.reduceEqDiff, ↓reduceIte, Nat.reduceAdd, Int.reduceBEq, Int.reduceBNe, hc4, hxi, hyj, hxs, hys, hu, hv]; rfl) ?_
   refine Fo.yes rfl rfl ?_
   refine fB rfl rfl ?_
   refine Fo.yes rfl rfl ?_
   refine mB rfl ?_
   refine Fo.no rfl rfl ?_
   refine Fo.no rfl rfl ?_
   refine Fo.no rfl rfl ?_
   refine Fo.no rfl rfl ?_
   refine Fo.yes rfl rfl ?_
   refine tB rfl rfl ?_
   refine tB rfl rfl ?_
   refine mB rfl ?_
   refine WpO.nil (hKF _ _ ?_)
   refine rg fun KF hKF => ?_
   refine mI rfl ?_
   refine Fo.bin rfl rfl rfl rfl ?_
   refine mI rfl ?_
   refine WpO.nil (hKF _ _ ?_)
   dsimp only [cond_true, cond_false]
   refine ⟨i + 1, by omega, ⟨by simp only [↓nrmL, nrmZ, Nat.reduceEqDiff, ↓reduceIte, Nat.reduceAdd, Int.reduceBEq, Int.reduceBNe]; rw [hon], by simp only [↓nrmL, nrmZ, Nat.reduceEqDiff, ↓reduceIte, Nat.reduceAdd, Int.reduceBEq, Int.reduceBNe]; rw [hal], by simp only [↓nrmL, nrmZ, Nat.reduceEqDiff, ↓reduceIte, Nat.reduceAdd, Int.reduceBEq, Int.reduceBNe]; rw [hw4], trivial⟩, by omega, Ext0.ext⟩
  ·have hal : allP l a b w x y j (i + 1) = inkB a b l ((x : Int) - (i : Int)) ((y : Int) - (j : Int)) := by rw [allP_succ, ha0, allC, hu, hv, Bool.false_or, Bool.false_or, Bool.true_and]
   try simp only [↓nrmL, nrmZ, Nat.reduceEqDiff, ↓reduceIte, Nat.reduceAdd, Int.reduceBEq, Int.reduceBNe, hc4, hxi, hyj, hxs, hys, hu, hv]
   refine sq ?_
   refine sq ?_
   refine rg fun KF hKF => ?_
   refine mI rfl ?_
   refine mI rfl ?_
   refine Fo.bin rfl rfl rfl (by simp only [↓nrmL, nrmZ, Nat.reduceEqDiff, ↓reduceIte, Nat.reduceAdd, Int.reduceBEq, Int.reduceBNe, hc4, hxi, hyj, hxs, hys, hu, hv]; rfl) ?_
   refine WpO.nil (hKF _ _ ?_)
   refine Wp.cond (b := true) rfl ?_
   refine Wp.skip ?_
   refine sq ?_
   refine Wp.block ?_
   refine sq ?_
   refine rg fun KF hKF => ?_
   refine mB rfl ?_
   refine mB rfl ?_
   refine Fo.no rfl rfl ?_
   refine Fo.no rfl rfl ?_
   refine Fo.no rfl rfl ?_
   refine Fo.no rfl rfl ?_
   refine Fo.no rfl rfl ?_
   refine Fo.no rfl rfl ?_
   refine Fo.no rfl rfl ?_
   refine Fo.no rfl rfl ?_
   refine tB rfl rfl ?_
   refine mB rfl ?_
   refine WpO.nil (hKF _ _ ?_)
   refine sq ?_
   refine rg fun KF hKF => ?_
   refine mI rfl ?_
   refine mI rfl ?_
   refine Fo.bin rfl rfl rfl (by simp only [↓nrmL, nrmZ, Nat.reduceEqDiff, ↓reduceIte, Nat.reduceAdd, Int.reduceBEq, Int.reduceBNe, hc4, hxi, hyj, hxs, hys, hu, hv]; rfl) ?_
   refine mI rfl ?_
   refine mI rfl ?_
   refine Fo.bin rfl rfl rfl (by simp only [↓nrmL, nrmZ, Nat.reduceEqDiff, ↓reduceIte, Nat.reduceAdd, Int.reduceBEq, Int.reduceBNe, hc4, hxi, hyj, hxs, hys, hu, hv]; rfl) ?_
   refine mI rfl ?_
   refine mI rfl ?_
   refine WpO.nil (hKF _ _ ?_)
   refine rg fun KF hKF => ?_
   refine mB rfl ?_
   refine mB rfl ?_
   refine Fo.yes rfl rfl ?_
   refine mI rfl ?_
   refine Fo.yes rfl rfl ?_
   refine Fo.bin rfl rfl rfl (by simp only [↓nrmL, nrmZ, Nat.reduceEqDiff, ↓reduceIte, Nat.reduceAdd, Int.reduceBEq, Int.reduceBNe, hc4, hxi, hyj, hxs, hys, hu, hv]; rfl) ?_
   refine Fo.yes rfl rfl ?_
   refine mB rfl ?_
   refine Fo.yes rfl rfl ?_
   refine mI rfl ?_
   refine Fo.yes rfl rfl ?_
   refine Fo.bin rfl rfl rfl (by simp only [↓nrmL, nrmZ, Nat.reduceEqDiff, ↓reduceIte, Nat.reduceAdd, Int.reduceBEq, Int.reduceBNe, hc4, hxi, hyj, hxs, hys, hu, hv]; rfl) ?_
   refine Fo.yes rfl rfl ?_
   refine fB rfl rfl ?_
   refine Fo.yes rfl rfl ?_
   refine mB rfl ?_
   refine Fo.yes rfl rfl ?_
   refine Fo.ldN rfl rfl (by simp only [↓nrmL, nrmZ, Nat.reduceEqDiff, ↓reduceIte, Nat.reduceAdd, Int.reduceBEq, Int.reduceBNe, hc4, hxi, hyj, hxs, hys, hu, hv]; rfl) ?_
   refine Fo.yes rfl rfl ?_
   refine mI rfl ?_
   refine Fo.yes rfl rfl ?_
   refine mI rfl ?_
   refine Fo.yes rfl rfl ?_
   refine Fo.pcall (v' := ?_) hn rfl (by simp only [↓nrmL, nrmZ, Nat.reduceEqDiff, ↓reduceIte, Nat.reduceAdd, Int.reduceBEq, Int.reduceBNe, hc4, hxi, hyj, hxs, hys, hu, hv, List.map]; rfl) rfl ?hv fun _ _ => ?_; case hv => rfl
   refine Fo.yes rfl rfl ?_
   refine fB rfl rfl ?_
   refine tB rfl rfl ?_
   refine mB rfl ?_
   refine WpO.nil (hKF _ _ ?_)
   refine rg fun KF hKF => ?_
   refine mI rfl ?_
   refine Fo.bin rfl rfl rfl rfl ?_
   refine mI rfl ?_
   refine WpO.nil (hKF _ _ ?_)
   dsimp only [cond_true, cond_false]
   refine ⟨i + 1, by omega, ⟨by simp only [↓nrmL, nrmZ, Nat.reduceEqDiff, ↓reduceIte, Nat.reduceAdd, Int.reduceBEq, Int.reduceBNe]; rw [hon], by simp only [↓nrmL, nrmZ, Nat.reduceEqDiff, ↓reduceIte, Nat.reduceAdd, Int.reduceBEq, Int.reduceBNe]; rw [hal], by simp only [↓nrmL, nrmZ, Nat.reduceEqDiff, ↓reduceIte, Nat.reduceAdd, Int.reduceBEq, Int.reduceBNe]; rw [hw4], trivial⟩, by omega, Ext0.ext⟩
theorem K_refDil {a b w h : Nat} {p : AVal} {H : AHeap} {l : List UInt8} [hp : BytesI H p l] (ok : Ok a b l) (hw1 : 0 < w) (hw2 : w ≤ 64) (hh1 : 0 < h) (hh2 : h ≤ 64) : Con ext prog 3 68 [.agg [.int .i64 a, .int .i64 b, p], .int .i64 w, .int .i64 h, .bool false] H fun v H' => InkRes H H' v (⟨a, b, dilL l a b w h⟩, 0) :=
 K_refBr false _ ok hw1 hw2 hh1 hh2 (fun x y hx hy => one_dil ok hx hy) (ok_dil ok).len
theorem K_refEro {a b w h : Nat} {p : AVal} {H : AHeap} {l : List UInt8} [hp : BytesI H p l] (ok : Ok a b l) (hw1 : 0 < w) (hw2 : w ≤ 64) (hh1 : 0 < h) (hh2 : h ≤ 64) : Con ext prog 3 68 [.agg [.int .i64 a, .int .i64 b, p], .int .i64 w, .int .i64 h, .bool true] H fun v H' => InkRes H H' v (⟨a, b, eroL l a b w h⟩, 0) :=
 K_refBr true _ ok hw1 hw2 hh1 hh2 (fun x y hx hy => all_ero ok hx hy) (ok_ero ok).len
end Go.Am

set_option maxHeartbeats 4000000
set_option maxRecDepth 100000
set_option synthInstance.maxHeartbeats 4000000
set_option synthInstance.maxSize 100000
namespace Go.Am
open Go
attribute [local irreducible] Wp WpO WpX WpE

/-- What is wrong with an image and a brush. -/
def brushE (g : Img) (x y : Int) : Int := bif g.err == 0 then (bif decide (x < 1) || decide (x > 64) || decide (y < 1) || decide (y > 64) then 1 else 0) else g.err
theorem K_dilE {w h x y : Int} {p : AVal} {H : AHeap} {l : List UInt8} [hp : BytesI H p l] (he : (brushE ⟨w, h, l⟩ x y == 0) = false) : Con ext prog 5 67 [.agg [.int .i64 w, .int .i64 h, p], .int .i64 x, .int .i64 y] H fun v H' => InkRes H H' v (.zero, brushE ⟨w, h, l⟩ x y) := by
 refine con_of (show prog 67 = some c67 from rfl) rfl rfl fun n hn => ?_
 haveI := hp.one
 unfold brushE at he ⊢
 try simp only [↓nrmL, nrmZ, Nat.reduceEqDiff, ↓reduceIte, Nat.reduceAdd, Int.reduceBEq, Int.reduceBNe, he, bne]
 refine sq ?_
 refine rg fun KF hKF => ?_
 refine Fo.boxA rfl ?_
 refine Fo.new ?_
 refine mI rfl ?_
 refine WpO.nil (hKF _ _ ?_)
 refine sq ?_
 refine sq ?_
 refine rg fun KF hKF => ?_
 refine Fo.ldN rfl rfl (by simp only [↓nrmL, nrmZ, Nat.reduceEqDiff, ↓reduceIte, Nat.reduceAdd, Int.reduceBEq, Int.reduceBNe, he, bne]; rfl) ?_
 refine mI rfl ?_
 refine mI rfl ?_
 refine Fo.pcall (v' := ?_) hn rfl (by simp only [↓nrmL, nrmZ, Nat.reduceEqDiff, ↓reduceIte, Nat.reduceAdd, Int.reduceBEq, Int.reduceBNe, he, bne, List.map]; rfl) rfl ?hv fun _ _ => ?_; case hv => rfl
 refine mI rfl ?_
 refine WpO.nil (hKF _ _ ?_)
 refine sq ?_
 refine rg fun KF hKF => ?_
 refine mI rfl ?_
 refine Fo.bin rfl rfl rfl (by simp only [↓nrmL, nrmZ, Nat.reduceEqDiff, ↓reduceIte, Nat.reduceAdd, Int.reduceBEq, Int.reduceBNe, he, bne]; rfl) ?_
 refine WpO.nil (hKF _ _ ?_)
 refine Wp.cond (b := true) rfl ?_
 refine sq ?_
 refine rg fun KF hKF => ?_
 refine Fo.build (by repeat (first | refine aFill1 (by first | exact (rfl : _ = AVal.int _ _) | exact (rfl : _ = AVal.ptr _ _) | exact (rfl : _ = AVal.bool _) | exact (rfl : _ = AVal.agg _) | exact (rfl : _ = AVal.tuple _) | exact (rfl : _ = AVal.func _ _ _) | exact (rfl : _ = AVal.nslice) | ((try simp only [↓nrmL, nrmK, Nat.reduceEqDiff, ↓reduceIte]); rfl)) rfl ?_ | rfl)) rfl ?_
 refine mI rfl ?_
 refine Fo.st rfl (rfl : _ = AVal.agg _) rfl rfl rfl (by repeat (first | rfl | refine allOne_cons ?_)) (by simp only [↓nrmL, nrmZ, Nat.reduceEqDiff, ↓reduceIte, Nat.reduceAdd, Int.reduceBEq, Int.reduceBNe, he, bne]; rfl) ?_
 refine mI rfl ?_
 refine WpO.nil (hKF _ _ ?_)
 refine Wp.ret ?_
 dsimp only [cond_true, cond_false]
 refine ⟨trivial, _, (by first | rfl | exact getAllC rfl rfl rfl rfl | exact getAllT rfl (getAllC rfl rfl rfl rfl) | exact getAllC rfl rfl rfl (getAllC rfl rfl rfl rfl) | exact getAllC1 rfl rfl rfl), ?_⟩
 exact ⟨_, rfl, newZero⟩
theorem K_eroE {w h x y : Int} {p : AVal} {H : AHeap} {l : List UInt8} [hp : BytesI H p l] (he : (brushE ⟨w, h, l⟩ x y == 0) = false) : Con ext prog 5 69 [.agg [.int .i64 w, .int .i64 h, p], .int .i64 x, .int .i64 y] H fun v H' => InkRes H H' v (.zero, brushE ⟨w, h, l⟩ x y) := by
 refine con_of (show prog 69 = some c69 from rfl) rfl rfl fun n hn => ?_
 haveI := hp.one
 unfold brushE at he ⊢
 try simp only [↓nrmL, nrmZ, Nat.reduceEqDiff, ↓reduceIte, Nat.reduceAdd, Int.reduceBEq, Int.reduceBNe, he, bne]
 refine sq ?_
 refine rg fun KF hKF => ?_
 refine Fo.boxA rfl ?_
 refine Fo.new ?_
 refine mI rfl ?_
 refine WpO.nil (hKF _ _ ?_)
 refine sq ?_
 refine sq ?_
 refine rg fun KF hKF => ?_
 refine Fo.ldN rfl rfl (by simp only [↓nrmL, nrmZ, Nat.reduceEqDiff, ↓reduceIte, Nat.reduceAdd, Int.reduceBEq, Int.reduceBNe, he, bne]; rfl) ?_
 refine mI rfl ?_
 refine mI rfl ?_
 refine Fo.pcall (v' := ?_) hn rfl (by simp only [↓nrmL, nrmZ, Nat.reduceEqDiff, ↓reduceIte, Nat.reduceAdd, Int.reduceBEq, Int.reduceBNe, he, bne, List.map]; rfl) rfl ?hv fun _ _ => ?_; case hv => rfl
 refine mI rfl ?_
 refine WpO.nil (hKF _ _ ?_)
 refine sq ?_
 refine rg fun KF hKF => ?_
 refine mI rfl ?_
 refine Fo.bin rfl rfl rfl (by simp only [↓nrmL, nrmZ, Nat.reduceEqDiff, ↓reduceIte, Nat.reduceAdd, Int.reduceBEq, Int.reduceBNe, he, bne]; rfl) ?_
 refine WpO.nil (hKF _ _ ?_)
 refine Wp.cond (b := true) rfl ?_
 refine sq ?_
 refine rg fun KF hKF => ?_
 refine Fo.build (by repeat (first | refine aFill1 (by first | exact (rfl : _ = AVal.int _ _) | exact (rfl : _ = AVal.ptr _ _) | exact (rfl : _ = AVal.bool _) | exact (rfl : _ = AVal.agg _) | exact (rfl : _ = AVal.tuple _) | exact (rfl : _ = AVal.func _ _ _) | exact (rfl : _ = AVal.nslice) | ((try simp only [↓nrmL, nrmK, Nat.reduceEqDiff, ↓reduceIte]); rfl)) rfl ?_ | rfl)) rfl ?_
 refine mI rfl ?_
 refine Fo.st rfl (rfl : _ = AVal.agg _) rfl rfl rfl (by repeat (first | rfl | refine allOne_cons ?_)) (by simp only [↓nrmL, nrmZ, Nat.reduceEqDiff, ↓reduceIte, Nat.reduceAdd, Int.reduceBEq, Int.reduceBNe, he, bne]; rfl) ?_
 refine mI rfl ?_
 refine WpO.nil (hKF _ _ ?_)
 refine Wp.ret ?_
 dsimp only [cond_true, cond_false]
 refine ⟨trivial, _, (by first | rfl | exact getAllC rfl rfl rfl rfl | exact getAllT rfl (getAllC rfl rfl rfl rfl) | exact getAllC rfl rfl rfl (getAllC rfl rfl rfl rfl) | exact getAllC1 rfl rfl rfl), ?_⟩
 exact ⟨_, rfl, newZero⟩
theorem K_refBrE {w h x y : Int} {p : AVal} {H : AHeap} {l : List UInt8} [hp : BytesI H p l] (e : Bool) (he : (brushE ⟨w, h, l⟩ x y == 0) = false) : Con ext prog 3 68 [.agg [.int .i64 w, .int .i64 h, p], .int .i64 x, .int .i64 y, .bool e] H fun v H' => InkRes H H' v (.zero, brushE ⟨w, h, l⟩ x y) := by
 refine con_of (show prog 68 = some c68 from rfl) rfl rfl fun n hn => ?_
 haveI := hp.one
 cases h0 : (Img.err ⟨w, h, l⟩ == 0)
 ·have e1 : brushE ⟨w, h, l⟩ x y = Img.err ⟨w, h, l⟩ := by simp [brushE, h0]
  rw [e1]
  try simp only [↓nrmL, nrmZ, Nat.reduceEqDiff, ↓reduceIte, Nat.reduceAdd, Int.reduceBEq, Int.reduceBNe, h0, bne]
  refine sq ?_
  refine rg fun KF hKF => ?_
  refine Fo.boxA rfl ?_
  refine Fo.new ?_
  refine mI rfl ?_
  refine WpO.nil (hKF _ _ ?_)
  refine sq ?_
  refine sq ?_
  refine rg fun KF hKF => ?_
  refine Fo.ldN rfl rfl (by simp only [↓nrmL, nrmZ, Nat.reduceEqDiff, ↓reduceIte, Nat.reduceAdd, Int.reduceBEq, Int.reduceBNe, h0, bne]; rfl) ?_
  refine Fo.pcall (v' := ?_) hn rfl (by simp only [↓nrmL, nrmZ, Nat.reduceEqDiff, ↓reduceIte, Nat.reduceAdd, Int.reduceBEq, Int.reduceBNe, h0, bne, List.map]; rfl) rfl ?hv fun _ _ => ?_; case hv => rfl
  refine mI rfl ?_
  refine WpO.nil (hKF _ _ ?_)
  refine sq ?_
  refine rg fun KF hKF => ?_
  refine mI rfl ?_
  refine Fo.bin rfl rfl rfl (by simp only [↓nrmL, nrmZ, Nat.reduceEqDiff, ↓reduceIte, Nat.reduceAdd, Int.reduceBEq, Int.reduceBNe, h0, bne]; rfl) ?_
  refine WpO.nil (hKF _ _ ?_)
  refine Wp.cond (b := true) rfl ?_
  refine sq ?_
  refine rg fun KF hKF => ?_
  refine Fo.build (by repeat (first | refine aFill1 (by first | exact (rfl : _ = AVal.int _ _) | exact (rfl : _ = AVal.ptr _ _) | exact (rfl : _ = AVal.bool _) | exact (rfl : _ = AVal.agg _) | exact (rfl : _ = AVal.tuple _) | exact (rfl : _ = AVal.func _ _ _) | exact (rfl : _ = AVal.nslice) | ((try simp only [↓nrmL, nrmK, Nat.reduceEqDiff, ↓reduceIte]); rfl)) rfl ?_ | rfl)) rfl ?_
  refine mI rfl ?_
  refine Fo.st rfl (rfl : _ = AVal.agg _) rfl rfl rfl (by repeat (first | rfl | refine allOne_cons ?_)) (by simp only [↓nrmL, nrmZ, Nat.reduceEqDiff, ↓reduceIte, Nat.reduceAdd, Int.reduceBEq, Int.reduceBNe, h0, bne]; rfl) ?_
  refine mI rfl ?_
  refine WpO.nil (hKF _ _ ?_)
  refine Wp.ret ?_
  dsimp only [cond_true, cond_false]
  refine ⟨trivial, _, (by first | rfl | exact getAllC rfl rfl rfl rfl | exact getAllT rfl (getAllC rfl rfl rfl rfl) | exact getAllC rfl rfl rfl (getAllC rfl rfl rfl rfl) | exact getAllC1 rfl rfl rfl), ?_⟩
  exact ⟨_, rfl, newZero⟩
 have e1 : brushE ⟨w, h, l⟩ x y = 1 := by
  rw [brushE, h0] at he ⊢
  simp only [cond_true] at he ⊢
  cases hd : (decide (x < 1) || decide (x > 64) || decide (y < 1) || decide (y > 64))
  ·rw [hd] at he; cases he
  ·rfl
 rw [e1]
 try simp only [↓nrmL, nrmZ, Nat.reduceEqDiff, ↓reduceIte, Nat.reduceAdd, Int.reduceBEq, Int.reduceBNe, h0, bne]
 refine sq ?_
 refine rg fun KF hKF => ?_
 refine Fo.boxA rfl ?_
 refine Fo.new ?_
 refine mI rfl ?_
 refine WpO.nil (hKF _ _ ?_)
 refine sq ?_
 refine sq ?_
 refine rg fun KF hKF => ?_
 refine Fo.ldN rfl rfl (by simp only [↓nrmL, nrmZ, Nat.reduceEqDiff, ↓reduceIte, Nat.reduceAdd, Int.reduceBEq, Int.reduceBNe, h0, bne]; rfl) ?_
 refine Fo.pcall (v' := ?_) hn rfl (by simp only [↓nrmL, nrmZ, Nat.reduceEqDiff, ↓reduceIte, Nat.reduceAdd, Int.reduceBEq, Int.reduceBNe, h0, bne, List.map]; rfl) rfl ?hv fun _ _ => ?_; case hv => rfl
 refine mI rfl ?_
 refine WpO.nil (hKF _ _ ?_)
 refine sq ?_
 refine rg fun KF hKF => ?_
 refine mI rfl ?_
 refine Fo.bin rfl rfl rfl (by simp only [↓nrmL, nrmZ, Nat.reduceEqDiff, ↓reduceIte, Nat.reduceAdd, Int.reduceBEq, Int.reduceBNe, h0, bne]; rfl) ?_
 refine WpO.nil (hKF _ _ ?_)
 refine Wp.cond (b := false) rfl ?_
 refine Wp.skip ?_
 refine sq ?_
 refine sq ?_
 refine rg fun KF hKF => ?_
 refine mI rfl ?_
 refine Fo.bin rfl rfl rfl rfl ?_
 refine mB rfl ?_
 cases h1 : decide (x < 1)
 rotate_left
 ·skip
  refine Fo.no rfl rfl ?_
  refine Fo.no rfl rfl ?_
  refine tB rfl rfl ?_
  refine mB rfl ?_
  refine Fo.no rfl rfl ?_
  refine Fo.no rfl rfl ?_
  refine tB rfl rfl ?_
  refine mB rfl ?_
  refine Fo.no rfl rfl ?_
  refine Fo.no rfl rfl ?_
  refine tB rfl rfl ?_
  refine WpO.nil (hKF _ _ ?_)
  refine Wp.cond (b := true) rfl ?_
  refine sq ?_
  refine rg fun KF hKF => ?_
  refine Fo.build (by repeat (first | refine aFill1 (by first | exact (rfl : _ = AVal.int _ _) | exact (rfl : _ = AVal.ptr _ _) | exact (rfl : _ = AVal.bool _) | exact (rfl : _ = AVal.agg _) | exact (rfl : _ = AVal.tuple _) | exact (rfl : _ = AVal.func _ _ _) | exact (rfl : _ = AVal.nslice) | ((try simp only [↓nrmL, nrmK, Nat.reduceEqDiff, ↓reduceIte]); rfl)) rfl ?_ | rfl)) rfl ?_
  refine Fo.st rfl (rfl : _ = AVal.agg _) rfl rfl rfl (by repeat (first | rfl | refine allOne_cons ?_)) (by simp only [↓nrmL, nrmZ, Nat.reduceEqDiff, ↓reduceIte, Nat.reduceAdd, Int.reduceBEq, Int.reduceBNe]; rfl) ?_
  refine mI rfl ?_
  refine WpO.nil (hKF _ _ ?_)
  refine Wp.ret ?_
  dsimp only [cond_true, cond_false]
  refine ⟨trivial, _, (by first | rfl | exact getAllC rfl rfl rfl rfl | exact getAllT rfl (getAllC rfl rfl rfl rfl) | exact getAllC rfl rfl rfl (getAllC rfl rfl rfl rfl) | exact getAllC1 rfl rfl rfl), ?_⟩
  exact ⟨_, rfl, newZero⟩
 refine Fo.yes rfl rfl ?_
 refine mI rfl ?_
 refine Fo.yes rfl rfl ?_
 refine Fo.bin rfl rfl rfl rfl ?_
 refine fB rfl rfl ?_
 refine mB rfl ?_
 cases h2 : decide (x > 64)
 rotate_left
 ·skip
  refine Fo.no rfl rfl ?_
  refine Fo.no rfl rfl ?_
  refine tB rfl rfl ?_
  refine mB rfl ?_
  refine Fo.no rfl rfl ?_
  refine Fo.no rfl rfl ?_
  refine tB rfl rfl ?_
  refine WpO.nil (hKF _ _ ?_)
  refine Wp.cond (b := true) rfl ?_
  refine sq ?_
  refine rg fun KF hKF => ?_
  refine Fo.build (by repeat (first | refine aFill1 (by first | exact (rfl : _ = AVal.int _ _) | exact (rfl : _ = AVal.ptr _ _) | exact (rfl : _ = AVal.bool _) | exact (rfl : _ = AVal.agg _) | exact (rfl : _ = AVal.tuple _) | exact (rfl : _ = AVal.func _ _ _) | exact (rfl : _ = AVal.nslice) | ((try simp only [↓nrmL, nrmK, Nat.reduceEqDiff, ↓reduceIte]); rfl)) rfl ?_ | rfl)) rfl ?_
  refine Fo.st rfl (rfl : _ = AVal.agg _) rfl rfl rfl (by repeat (first | rfl | refine allOne_cons ?_)) (by simp only [↓nrmL, nrmZ, Nat.reduceEqDiff, ↓reduceIte, Nat.reduceAdd, Int.reduceBEq, Int.reduceBNe]; rfl) ?_
  refine mI rfl ?_
  refine WpO.nil (hKF _ _ ?_)
  refine Wp.ret ?_
  dsimp only [cond_true, cond_false]
  refine ⟨trivial, _, (by first | rfl | exact getAllC rfl rfl rfl rfl | exact getAllT rfl (getAllC rfl rfl rfl rfl) | exact getAllC rfl rfl rfl (getAllC rfl rfl rfl rfl) | exact getAllC1 rfl rfl rfl), ?_⟩
  exact ⟨_, rfl, newZero⟩
 refine Fo.yes rfl rfl ?_
 refine mI rfl ?_
 refine Fo.yes rfl rfl ?_
 refine Fo.bin rfl rfl rfl rfl ?_
 refine fB rfl rfl ?_
 refine mB rfl ?_
 cases h3 : decide (y < 1)
 rotate_left
 ·skip
  refine Fo.no rfl rfl ?_
  refine Fo.no rfl rfl ?_
  refine tB rfl rfl ?_
  refine WpO.nil (hKF _ _ ?_)
  refine Wp.cond (b := true) rfl ?_
  refine sq ?_
  refine rg fun KF hKF => ?_
  refine Fo.build (by repeat (first | refine aFill1 (by first | exact (rfl : _ = AVal.int _ _) | exact (rfl : _ = AVal.ptr _ _) | exact (rfl : _ = AVal.bool _) | exact (rfl : _ = AVal.agg _) | exact (rfl : _ = AVal.tuple _) | exact (rfl : _ = AVal.func _ _ _) | exact (rfl : _ = AVal.nslice) | ((try simp only [↓nrmL, nrmK, Nat.reduceEqDiff, ↓reduceIte]); rfl)) rfl ?_ | rfl)) rfl ?_
  refine Fo.st rfl (rfl : _ = AVal.agg _) rfl rfl rfl (by repeat (first | rfl | refine allOne_cons ?_)) (by simp only [↓nrmL, nrmZ, Nat.reduceEqDiff, ↓reduceIte, Nat.reduceAdd, Int.reduceBEq, Int.reduceBNe]; rfl) ?_
  refine mI rfl ?_
  refine WpO.nil (hKF _ _ ?_)
  refine Wp.ret ?_
  dsimp only [cond_true, cond_false]
  refine ⟨trivial, _, (by first | rfl | exact getAllC rfl rfl rfl rfl | exact getAllT rfl (getAllC rfl rfl rfl rfl) | exact getAllC rfl rfl rfl (getAllC rfl rfl rfl rfl) | exact getAllC1 rfl rfl rfl), ?_⟩
  exact ⟨_, rfl, newZero⟩
 refine Fo.yes rfl rfl ?_
 refine mI rfl ?_
 refine Fo.yes rfl rfl ?_
 refine Fo.bin rfl rfl rfl rfl ?_
 refine fB rfl rfl ?_
 refine WpO.nil (hKF _ _ ?_)
 dsimp only [cond_true, cond_false]
 cases h4 : decide (y > 64)
 ·exfalso
  rw [brushE, h0, h1, h2, h3, h4] at he
  cases he
 ·skip
  refine Wp.cond (b := true) rfl ?_
  refine sq ?_
  refine rg fun KF hKF => ?_
  refine Fo.build (by repeat (first | refine aFill1 (by first | exact (rfl : _ = AVal.int _ _) | exact (rfl : _ = AVal.ptr _ _) | exact (rfl : _ = AVal.bool _) | exact (rfl : _ = AVal.agg _) | exact (rfl : _ = AVal.tuple _) | exact (rfl : _ = AVal.func _ _ _) | exact (rfl : _ = AVal.nslice) | ((try simp only [↓nrmL, nrmK, Nat.reduceEqDiff, ↓reduceIte]); rfl)) rfl ?_ | rfl)) rfl ?_
  refine Fo.st rfl (rfl : _ = AVal.agg _) rfl rfl rfl (by repeat (first | rfl | refine allOne_cons ?_)) (by simp only [↓nrmL, nrmZ, Nat.reduceEqDiff, ↓reduceIte, Nat.reduceAdd, Int.reduceBEq, Int.reduceBNe]; rfl) ?_
  refine mI rfl ?_
  refine WpO.nil (hKF _ _ ?_)
  refine Wp.ret ?_
  dsimp only [cond_true, cond_false]
  refine ⟨trivial, _, (by first | rfl | exact getAllC rfl rfl rfl rfl | exact getAllT rfl (getAllC rfl rfl rfl rfl) | exact getAllC rfl rfl rfl (getAllC rfl rfl rfl rfl) | exact getAllC1 rfl rfl rfl), ?_⟩
  exact ⟨_, rfl, newZero⟩
theorem K_refDilE {w h x y : Int} {p : AVal} {H : AHeap} {l : List UInt8} [hp : BytesI H p l] (he : (brushE ⟨w, h, l⟩ x y == 0) = false) : Con ext prog 3 68 [.agg [.int .i64 w, .int .i64 h, p], .int .i64 x, .int .i64 y, .bool false] H fun v H' => InkRes H H' v (.zero, brushE ⟨w, h, l⟩ x y) := K_refBrE false he
theorem K_refEroE {w h x y : Int} {p : AVal} {H : AHeap} {l : List UInt8} [hp : BytesI H p l] (he : (brushE ⟨w, h, l⟩ x y == 0) = false) : Con ext prog 3 68 [.agg [.int .i64 w, .int .i64 h, p], .int .i64 x, .int .i64 y, .bool true] H fun v H' => InkRes H H' v (.zero, brushE ⟨w, h, l⟩ x y) := K_refBrE true he
/-- An image and a brush that nothing is wrong with. -/
theorem brush_of {w h x y : Int} {l : List UInt8} (he : (brushE ⟨w, h, l⟩ x y == 0) = true) : ∃ a b c d : Nat, w = a ∧ h = b ∧ x = c ∧ y = d ∧ Ok a b l ∧ 0 < c ∧ c ≤ 64 ∧ 0 < d ∧ d ≤ 64 := by
 cases h0 : (Img.err ⟨w, h, l⟩ == 0)
 ·rw [brushE, h0, cond_false, h0] at he
  cases he
 obtain ⟨a, b, rfl, rfl, ok⟩ := ok_of h0
 cases hb : (decide (x < 1) || decide (x > 64) || decide (y < 1) || decide (y > 64))
 ·simp only [Bool.or_eq_false_iff, decide_eq_false_iff_not] at hb
  exact ⟨a, b, x.toNat, y.toNat, rfl, rfl, by omega, by omega, ok, by omega, by omega, by omega, by omega⟩
 ·rw [brushE, h0, hb] at he
  cases he
end Go.Am

set_option maxHeartbeats 8000000
set_option maxRecDepth 100000
set_option synthInstance.maxHeartbeats 4000000
set_option synthInstance.maxSize 100000
namespace Go.Am
open Go
attribute [local irreducible] Wp WpO WpX WpE

def dilSpec (g : Img) (x y : Int) : Img × Int := bif brushE g x y == 0 then (⟨g.w, g.h, dilL g.px g.w.toNat g.h.toNat x.toNat y.toNat⟩, 0) else (.zero, brushE g x y)
def eroSpec (g : Img) (x y : Int) : Img × Int := bif brushE g x y == 0 then (⟨g.w, g.h, eroL g.px g.w.toNat g.h.toNat x.toNat y.toNat⟩, 0) else (.zero, brushE g x y)
theorem K_dilS {w h x y : Int} {p : AVal} {H : AHeap} {l : List UInt8} [hp : BytesI H p l] : Con ext prog 5 67 [.agg [.int .i64 w, .int .i64 h, p], .int .i64 x, .int .i64 y] H fun v H' => InkRes H H' v (dilSpec ⟨w, h, l⟩ x y) := by
 unfold dilSpec
 cases he : (brushE ⟨w, h, l⟩ x y == 0)
 ·exact K_dilE he
 ·obtain ⟨a, b, c, d, rfl, rfl, rfl, rfl, ok, h1, h2, h3, h4⟩ := brush_of he
  exact K_dilV ok h1 h2 h3 h4
theorem K_eroS {w h x y : Int} {p : AVal} {H : AHeap} {l : List UInt8} [hp : BytesI H p l] : Con ext prog 5 69 [.agg [.int .i64 w, .int .i64 h, p], .int .i64 x, .int .i64 y] H fun v H' => InkRes H H' v (eroSpec ⟨w, h, l⟩ x y) := by
 unfold eroSpec
 cases he : (brushE ⟨w, h, l⟩ x y == 0)
 ·exact K_eroE he
 ·obtain ⟨a, b, c, d, rfl, rfl, rfl, rfl, ok, h1, h2, h3, h4⟩ := brush_of he
  exact K_eroV ok h1 h2 h3 h4
theorem K_refDilS {w h x y : Int} {p : AVal} {H : AHeap} {l : List UInt8} [hp : BytesI H p l] : Con ext prog 3 68 [.agg [.int .i64 w, .int .i64 h, p], .int .i64 x, .int .i64 y, .bool false] H fun v H' => InkRes H H' v (dilSpec ⟨w, h, l⟩ x y) := by
 unfold dilSpec
 cases he : (brushE ⟨w, h, l⟩ x y == 0)
 ·exact K_refDilE he
 ·obtain ⟨a, b, c, d, rfl, rfl, rfl, rfl, ok, h1, h2, h3, h4⟩ := brush_of he
  exact K_refDil ok h1 h2 h3 h4
theorem K_refEroS {w h x y : Int} {p : AVal} {H : AHeap} {l : List UInt8} [hp : BytesI H p l] : Con ext prog 3 68 [.agg [.int .i64 w, .int .i64 h, p], .int .i64 x, .int .i64 y, .bool true] H fun v H' => InkRes H H' v (eroSpec ⟨w, h, l⟩ x y) := by
 unfold eroSpec
 cases he : (brushE ⟨w, h, l⟩ x y == 0)
 ·exact K_refEroE he
 ·obtain ⟨a, b, c, d, rfl, rfl, rfl, rfl, ok, h1, h2, h3, h4⟩ := brush_of he
  exact K_refEro ok h1 h2 h3 h4
theorem eroL_len (l : List UInt8) (a b w h : Nat) : (eroL l a b w h).length = l.length := by
 simp [eroL, revAll, revAt_length, dilL_length]
theorem dil_short {w h x y : Int} {l : List UInt8} (hl : l.length ≤ 1200) : (dilSpec ⟨w, h, l⟩ x y).1.px.length ≤ 999999 := by
 unfold dilSpec
 cases (brushE ⟨w, h, l⟩ x y == 0)
 ·simp [Img.zero]
 ·simp only [cond_true, dilL_length]; omega
theorem ero_short {w h x y : Int} {l : List UInt8} (hl : l.length ≤ 1200) : (eroSpec ⟨w, h, l⟩ x y).1.px.length ≤ 999999 := by
 unfold eroSpec
 cases (brushE ⟨w, h, l⟩ x y == 0)
 ·simp [Img.zero]
 ·simp only [cond_true, eroL_len]; omega
theorem upd_eta2 {fr : AFrame} {t : Nat} {v : AVal} (h : fr t = v) : upd fr t v = fr := by
 funext s
 unfold upd
 cases e : Nat.beq s t
 ·rfl
 ·rw [Nat.eq_of_beq_eq_true e, h]; rfl
theorem eta4 {P : AFrame → Prop} {fr : AFrame} {a b c d : AVal} (h1 : fr 1 = a) (h2 : fr 2 = b) (h3 : fr 3 = c) (h4 : fr 38 = d) (h : ∀ g, P (upd (upd (upd (upd g 1 a) 2 b) 3 c) 38 d)) : P fr := by
 have := h fr
 rw [upd_eta2 h1, upd_eta2 h2, upd_eta2 h3, upd_eta2 h4] at this
 exact this

theorem K_ImageBrushes {w h x y : Int} {p : AVal} {H : AHeap} {l : List UInt8} [hp : BytesI H p l] [ht : Tabs H] : Con ext prog 9 8 [.agg [.int .i64 w, .int .i64 h, p], .int .i64 x, .int .i64 y] H fun v H' => v = .bool true ∧ Ext H H' := by
 refine con_of (show prog 8 = some c8 from rfl) rfl rfl fun n hn => ?_
 haveI := hp.one
 cases c1 : decide (((l.length : Nat) : Int) > 1200)
 rotate_left
 ·skip
  try simp only [↓nrmL, nrmZ, Nat.reduceEqDiff, ↓reduceIte, Nat.reduceAdd, Int.reduceBEq, Int.reduceBNe, c1]
  refine sq ?_
  refine rg fun KF hKF => ?_
  refine Fo.boxA rfl ?_
  refine mB rfl ?_
  refine WpO.nil (hKF _ _ ?_)
  refine sq ?_
  refine sq ?_
  refine rg fun KF hKF => ?_
  refine Fo.fa rfl ?_
  refine Fo.ld rfl rfl ?_
  refine Fo.len (v := ?_) (by simp only [↓nrmL, nrmK, Nat.reduceEqDiff, ↓reduceIte]; rfl) ?hv ?_; case hv => rfl
  refine Fo.bin rfl rfl rfl (by simp only [↓nrmL, nrmZ, Nat.reduceEqDiff, ↓reduceIte, Nat.reduceAdd, Int.reduceBEq, Int.reduceBNe, c1]; rfl) ?_
  refine mB rfl ?_
  refine Fo.no rfl rfl ?_
  refine Fo.no rfl rfl ?_
  refine Fo.no rfl rfl ?_
  refine Fo.noU rfl ?_
  refine Fo.noU rfl ?_
  refine Fo.no rfl rfl ?_
  refine tB rfl rfl ?_
  refine mB rfl ?_
  refine Fo.no rfl rfl ?_
  refine Fo.no rfl rfl ?_
  refine Fo.no rfl rfl ?_
  refine Fo.noU rfl ?_
  refine Fo.noU rfl ?_
  refine Fo.no rfl rfl ?_
  refine tB rfl rfl ?_
  refine WpO.nil (hKF _ _ ?_)
  refine Wp.cond (b := true) rfl ?_
  refine sq ?_
  refine rg fun KF hKF => ?_
  refine Fo.pcall (v' := ?_) hn rfl (by simp only [↓nrmL, nrmZ, Nat.reduceEqDiff, ↓reduceIte, Nat.reduceAdd, Int.reduceBEq, Int.reduceBNe, c1, List.map]; rfl) rfl ?hv fun _ _ => ?_; case hv => rfl
  refine mB rfl ?_
  refine WpO.nil (hKF _ _ ?_)
  refine Wp.ret ?_
  dsimp only [cond_true, cond_false]
  refine ⟨trivial, _, (by first | rfl | exact getAllC rfl rfl rfl rfl | exact getAllT rfl (getAllC rfl rfl rfl rfl) | exact getAllC rfl rfl rfl (getAllC rfl rfl rfl rfl) | exact getAllC1 rfl rfl rfl), ?_⟩
  exact ⟨rfl, Ext0.ext⟩
 have hl12 : l.length ≤ 1200 := by have := of_decide_eq_false c1; omega
 try simp only [↓nrmL, nrmZ, Nat.reduceEqDiff, ↓reduceIte, Nat.reduceAdd, Int.reduceBEq, Int.reduceBNe, c1]
 refine sq ?_
 refine rg fun KF hKF => ?_
 refine Fo.boxA rfl ?_
 refine mB rfl ?_
 refine WpO.nil (hKF _ _ ?_)
 refine sq ?_
 refine sq ?_
 refine rg fun KF hKF => ?_
 refine Fo.fa rfl ?_
 refine Fo.ld rfl rfl ?_
 refine Fo.len (v := ?_) (by simp only [↓nrmL, nrmK, Nat.reduceEqDiff, ↓reduceIte]; rfl) ?hv ?_; case hv => rfl
 refine Fo.bin rfl rfl rfl (by simp only [↓nrmL, nrmZ, Nat.reduceEqDiff, ↓reduceIte, Nat.reduceAdd, Int.reduceBEq, Int.reduceBNe, c1]; rfl) ?_
 refine mB rfl ?_
 refine Fo.yes rfl rfl ?_
 refine mI rfl ?_
 refine Fo.yes rfl rfl ?_
 refine Fo.bin rfl rfl rfl rfl ?_
 refine Fo.yes rfl rfl ?_
 refine mB rfl ?_
 have hK1 : ∀ g : AFrame, KF (upd (upd (upd (upd g 1 (.int .i64 x)) 2 (.int .i64 y)) 3 (.ptr H.n 0)) 38 (.bool true)) (H.push (.row [.int .i64 w, .int .i64 h, p] true (2 * 24))) := by
  intro g
  refine hKF _ _ ?_
  refine Wp.cond (b := true) rfl ?_
  refine sq ?_
  refine rg fun KF hKF => ?_
  refine Fo.pcall (v' := ?_) hn rfl (by simp only [↓nrmL, nrmZ, Nat.reduceEqDiff, ↓reduceIte, Nat.reduceAdd, Int.reduceBEq, Int.reduceBNe, List.map]; rfl) rfl ?hv fun _ _ => ?_; case hv => rfl
  refine mB rfl ?_
  refine WpO.nil (hKF _ _ ?_)
  refine Wp.ret ?_
  dsimp only [cond_true, cond_false]
  refine ⟨trivial, _, (by first | rfl | exact getAllC rfl rfl rfl rfl | exact getAllT rfl (getAllC rfl rfl rfl rfl) | exact getAllC rfl rfl rfl (getAllC rfl rfl rfl rfl) | exact getAllC1 rfl rfl rfl), ?_⟩
  exact ⟨rfl, Ext0.ext⟩
 have hK2 : ∀ g : AFrame, KF (upd (upd (upd (upd g 1 (.int .i64 x)) 2 (.int .i64 y)) 3 (.ptr H.n 0)) 38 (.bool false)) (H.push (.row [.int .i64 w, .int .i64 h, p] true (2 * 24))) := by
  intro g
  refine hKF _ _ ?_
  refine Wp.cond (b := false) rfl ?_
  refine Wp.skip ?_
  refine sq ?_
  refine rg fun KF hKF => ?_
  refine Fo.ldN rfl rfl (by simp only [↓nrmL, nrmZ, Nat.reduceEqDiff, ↓reduceIte, Nat.reduceAdd, Int.reduceBEq, Int.reduceBNe]; rfl) ?_
  refine WpO.do (WpX.conD hn rfl rfl (by simp only [↓nrmL, nrmZ, Nat.reduceEqDiff, ↓reduceIte, Nat.reduceAdd, Int.reduceBEq, Int.reduceBNe, List.map] <;> rfl) (K_CopyInk (l := l) (by omega)) fun v H1 h5 => ?_)
  obtain ⟨a, e1, ha, hfa, hwa, hxa⟩ := h5
  subst e1
  try dsimp only at ha
  haveI : ExtI _ H1 := ⟨hxa⟩
  haveI := ha.one
  refine Fo.new ?_
  refine Fo.st rfl (rfl : _ = AVal.agg _) rfl rfl rfl (by repeat (first | rfl | refine allOne_cons ?_)) (by simp only [↓nrmL, nrmZ, Nat.reduceEqDiff, ↓reduceIte, Nat.reduceAdd, Int.reduceBEq, Int.reduceBNe]; rfl) ?_
  refine WpO.nil (hKF _ _ ?_)
  refine sq ?_
  refine rg fun KF hKF => ?_
  refine Fo.ldN rfl rfl (by simp only [↓nrmL, nrmZ, Nat.reduceEqDiff, ↓reduceIte, Nat.reduceAdd, Int.reduceBEq, Int.reduceBNe]; rfl) ?_
  refine mI rfl ?_
  refine mI rfl ?_
  dsimp only [cond_true, cond_false]
  refine WpO.do (WpX.conD hn rfl rfl (by simp only [↓nrmL, nrmZ, Nat.reduceEqDiff, ↓reduceIte, Nat.reduceAdd, Int.reduceBEq, Int.reduceBNe, List.map] <;> rfl) (K_dilS (l := l)) fun v H2 h5 => ?_)
  obtain ⟨u, e1, i1, e2, hi1, hfi1, hwi1, hxi1⟩ := h5
  subst e1 e2
  try dsimp only at hi1
  haveI : ExtI _ H2 := ⟨hxi1⟩
  haveI := hi1.one
  refine mT rfl ?_
  refine Fo.extr rfl rfl ?_
  refine Fo.extr rfl rfl ?_
  refine Fo.new ?_
  refine Fo.st rfl (rfl : _ = AVal.agg _) rfl rfl rfl (by repeat (first | rfl | refine allOne_cons ?_)) (by simp only [↓nrmL, nrmZ, Nat.reduceEqDiff, ↓reduceIte, Nat.reduceAdd, Int.reduceBEq, Int.reduceBNe]; rfl) ?_
  refine mI rfl ?_
  refine WpO.nil (hKF _ _ ?_)
  refine sq ?_
  refine rg fun KF hKF => ?_
  refine Fo.ldN rfl rfl (by simp only [↓nrmL, nrmZ, Nat.reduceEqDiff, ↓reduceIte, Nat.reduceAdd, Int.reduceBEq, Int.reduceBNe]; rfl) ?_
  refine mI rfl ?_
  refine mI rfl ?_
  refine WpO.do (WpX.conD hn rfl rfl (by simp only [↓nrmL, nrmZ, Nat.reduceEqDiff, ↓reduceIte, Nat.reduceAdd, Int.reduceBEq, Int.reduceBNe, List.map] <;> rfl) (K_refDilS (l := l)) fun v H3 h5 => ?_)
  obtain ⟨u, e1, j1, e2, hj1, hfj1, hwj1, hxj1⟩ := h5
  subst e1 e2
  try dsimp only at hj1
  haveI : ExtI _ H3 := ⟨hxj1⟩
  haveI := hj1.one
  refine mT rfl ?_
  refine Fo.extr rfl rfl ?_
  refine Fo.extr rfl rfl ?_
  refine Fo.new ?_
  refine Fo.st rfl (rfl : _ = AVal.agg _) rfl rfl rfl (by repeat (first | rfl | refine allOne_cons ?_)) (by simp only [↓nrmL, nrmZ, Nat.reduceEqDiff, ↓reduceIte, Nat.reduceAdd, Int.reduceBEq, Int.reduceBNe]; rfl) ?_
  refine mI rfl ?_
  refine WpO.nil (hKF _ _ ?_)
  refine sq ?_
  refine rg fun KF hKF => ?_
  refine Fo.ldN rfl rfl (by simp only [↓nrmL, nrmZ, Nat.reduceEqDiff, ↓reduceIte, Nat.reduceAdd, Int.reduceBEq, Int.reduceBNe]; rfl) ?_
  refine mI rfl ?_
  refine mI rfl ?_
  refine WpO.do (WpX.conD hn rfl rfl (by simp only [↓nrmL, nrmZ, Nat.reduceEqDiff, ↓reduceIte, Nat.reduceAdd, Int.reduceBEq, Int.reduceBNe, List.map] <;> rfl) (K_eroS (l := l)) fun v H4 h5 => ?_)
  obtain ⟨u, e1, i2, e2, hi2, hfi2, hwi2, hxi2⟩ := h5
  subst e1 e2
  try dsimp only at hi2
  haveI : ExtI _ H4 := ⟨hxi2⟩
  haveI := hi2.one
  refine mT rfl ?_
  refine Fo.extr rfl rfl ?_
  refine Fo.extr rfl rfl ?_
  refine Fo.new ?_
  refine Fo.st rfl (rfl : _ = AVal.agg _) rfl rfl rfl (by repeat (first | rfl | refine allOne_cons ?_)) (by simp only [↓nrmL, nrmZ, Nat.reduceEqDiff, ↓reduceIte, Nat.reduceAdd, Int.reduceBEq, Int.reduceBNe]; rfl) ?_
  refine mI rfl ?_
  refine WpO.nil (hKF _ _ ?_)
  refine sq ?_
  refine rg fun KF hKF => ?_
  refine Fo.ldN rfl rfl (by simp only [↓nrmL, nrmZ, Nat.reduceEqDiff, ↓reduceIte, Nat.reduceAdd, Int.reduceBEq, Int.reduceBNe]; rfl) ?_
  refine mI rfl ?_
  refine mI rfl ?_
  refine WpO.do (WpX.conD hn rfl rfl (by simp only [↓nrmL, nrmZ, Nat.reduceEqDiff, ↓reduceIte, Nat.reduceAdd, Int.reduceBEq, Int.reduceBNe, List.map] <;> rfl) (K_refEroS (l := l)) fun v H5 h5 => ?_)
  obtain ⟨u, e1, j2, e2, hj2, hfj2, hwj2, hxj2⟩ := h5
  subst e1 e2
  try dsimp only at hj2
  haveI : ExtI _ H5 := ⟨hxj2⟩
  haveI := hj2.one
  have hsl : l.length ≤ 999999 := by omega
  haveI : Short l := ⟨hsl⟩
  haveI : Short (dilSpec ⟨w, h, l⟩ x y).1.px := ⟨dil_short hl12⟩
  haveI : Short (eroSpec ⟨w, h, l⟩ x y).1.px := ⟨ero_short hl12⟩
  have hs1 : decide ((⟨(dilSpec ⟨w, h, l⟩ x y).1.w, (dilSpec ⟨w, h, l⟩ x y).1.h, (dilSpec ⟨w, h, l⟩ x y).1.px⟩ : Img) = ⟨(dilSpec ⟨w, h, l⟩ x y).1.w, (dilSpec ⟨w, h, l⟩ x y).1.h, (dilSpec ⟨w, h, l⟩ x y).1.px⟩) = true := decide_eq_true rfl
  have hs2 : decide ((⟨(eroSpec ⟨w, h, l⟩ x y).1.w, (eroSpec ⟨w, h, l⟩ x y).1.h, (eroSpec ⟨w, h, l⟩ x y).1.px⟩ : Img) = ⟨(eroSpec ⟨w, h, l⟩ x y).1.w, (eroSpec ⟨w, h, l⟩ x y).1.h, (eroSpec ⟨w, h, l⟩ x y).1.px⟩) = true := decide_eq_true rfl
  have hs3 : decide ((⟨w, h, l⟩ : Img) = ⟨w, h, l⟩) = true := decide_eq_true rfl
  generalize dilSpec ⟨w, h, l⟩ x y = D at *
  generalize eroSpec ⟨w, h, l⟩ x y = E at *
  haveI : Ext0 H H5 := inferInstance
  haveI : BytesI H5 p l := inferInstance
  haveI : BytesI H5 a l := inferInstance
  haveI : HasRow H5 H.n [.int .i64 w, .int .i64 h, p] true (2 * 24) := inferInstance
  refine mT rfl ?_
  refine Fo.extr rfl rfl ?_
  refine Fo.extr rfl rfl ?_
  refine Fo.new ?_
  refine Fo.st rfl (rfl : _ = AVal.agg _) rfl rfl rfl (by repeat (first | rfl | refine allOne_cons ?_)) (by simp only [↓nrmL, nrmZ, Nat.reduceEqDiff, ↓reduceIte, Nat.reduceAdd, Int.reduceBEq, Int.reduceBNe]; rfl) ?_
  refine mI rfl ?_
  refine WpO.nil (hKF _ _ ?_)
  refine sq ?_
  refine rg fun KF hKF => ?_
  refine Fo.ldN rfl rfl (by simp only [↓nrmL, nrmZ, Nat.reduceEqDiff, ↓reduceIte, Nat.reduceAdd, Int.reduceBEq, Int.reduceBNe]; rfl) ?_
  cases h0 : (Img.err ⟨w, h, l⟩ == 0)
  ·have hne : (Img.err ⟨w, h, l⟩ != 0) = true := by unfold bne; rw [h0]; rfl
   have hee : (Img.err ⟨w, h, l⟩ != Img.err ⟨w, h, l⟩) = false := bne_self_eq_false _
   have hz : (((([] : List UInt8).length : Nat) : Int) != 0) = false := rfl
   refine WpO.do (WpX.conD hn rfl rfl (by simp only [↓nrmL, nrmZ, Nat.reduceEqDiff, ↓reduceIte, Nat.reduceAdd, Int.reduceBEq, Int.reduceBNe, List.map] <;> rfl) (K_ThinE h0) fun v H6 h5 => ?_)
   obtain ⟨_, e1, t1, e2, ht1, _, _, hxt⟩ := h5
   subst e1 e2
   haveI : ExtI _ H6 := ⟨hxt⟩
   haveI := ht1.one
   refine mT rfl ?_
   refine Fo.extr rfl rfl ?_
   refine Fo.extr rfl rfl ?_
   refine Fo.new ?_
   refine Fo.st rfl (rfl : _ = AVal.agg _) rfl rfl rfl (by repeat (first | rfl | refine allOne_cons ?_)) (by simp only [↓nrmL, nrmZ, Nat.reduceEqDiff, ↓reduceIte, Nat.reduceAdd, Int.reduceBEq, Int.reduceBNe]; rfl) ?_
   refine mI rfl ?_
   refine WpO.nil (hKF _ _ ?_)
   refine sq ?_
   refine rg fun KF hKF => ?_
   refine Fo.ldN rfl rfl (by simp only [↓nrmL, nrmZ, Nat.reduceEqDiff, ↓reduceIte, Nat.reduceAdd, Int.reduceBEq, Int.reduceBNe]; rfl) ?_
   refine Fo.pcall (v' := ?_) hn rfl (by simp only [↓nrmL, nrmZ, Nat.reduceEqDiff, ↓reduceIte, Nat.reduceAdd, Int.reduceBEq, Int.reduceBNe, List.map]; rfl) rfl ?hv fun _ _ => ?_; case hv => rfl
   refine mI rfl ?_
   refine WpO.nil (hKF _ _ ?_)
   refine sq ?_
   refine sq ?_
   dsimp only [cond_true, cond_false]
   refine Fr.dregion0 rfl fun KF hKF => ?_
   try simp only [↓nrmL, nrmZ, Nat.reduceEqDiff, ↓reduceIte, Nat.reduceAdd, Int.reduceBEq, Int.reduceBNe, hee, h0, hne, hz]
   refine Fe.pure rfl rfl (by simp only [↓nrmL, nrmZ, Nat.reduceEqDiff, ↓reduceIte, Nat.reduceAdd, Int.reduceBEq, Int.reduceBNe, hee, h0, hne, hz]; rfl) ?_
   refine Fe.pure rfl rfl (by simp only [↓nrmL, nrmZ, Nat.reduceEqDiff, ↓reduceIte, Nat.reduceAdd, Int.reduceBEq, Int.reduceBNe, hee, h0, hne, hz]; rfl) ?_
   refine Fe.pure rfl rfl (by simp only [↓nrmL, nrmZ, Nat.reduceEqDiff, ↓reduceIte, Nat.reduceAdd, Int.reduceBEq, Int.reduceBNe, hee, h0, hne, hz]; rfl) ?_
   refine Fe.pure rfl rfl (by simp only [↓nrmL, nrmZ, Nat.reduceEqDiff, ↓reduceIte, Nat.reduceAdd, Int.reduceBEq, Int.reduceBNe, hee, h0, hne, hz]; rfl) ?_
   refine Fe.pure rfl rfl (by simp only [↓nrmL, nrmZ, Nat.reduceEqDiff, ↓reduceIte, Nat.reduceAdd, Int.reduceBEq, Int.reduceBNe, hee, h0, hne, hz]; rfl) ?_
   refine Fe.pure rfl rfl (by simp only [↓nrmL, nrmZ, Nat.reduceEqDiff, ↓reduceIte, Nat.reduceAdd, Int.reduceBEq, Int.reduceBNe, hee, h0, hne, hz]; rfl) ?_
   refine Fe.pure rfl rfl (by simp only [↓nrmL, nrmZ, Nat.reduceEqDiff, ↓reduceIte, Nat.reduceAdd, Int.reduceBEq, Int.reduceBNe, hee, h0, hne, hz]; rfl) ?_
   refine Fe.skip rfl ?_
   refine Fe.skip rfl ?_
   refine Fe.skip rfl ?_
   refine Fe.skip rfl ?_
   refine Fe.skip rfl ?_
   refine Fe.pure rfl rfl (by simp only [↓nrmL, nrmZ, Nat.reduceEqDiff, ↓reduceIte, Nat.reduceAdd, Int.reduceBEq, Int.reduceBNe, hee, h0, hne, hz]; rfl) ?_
   refine Fe.pure rfl rfl (by simp only [↓nrmL, nrmZ, Nat.reduceEqDiff, ↓reduceIte, Nat.reduceAdd, Int.reduceBEq, Int.reduceBNe, hee, h0, hne, hz]; rfl) ?_
   refine Fe.pure rfl rfl (by simp only [↓nrmL, nrmZ, Nat.reduceEqDiff, ↓reduceIte, Nat.reduceAdd, Int.reduceBEq, Int.reduceBNe, hee, h0, hne, hz]; rfl) ?_
   refine Fe.pure rfl rfl (by simp only [↓nrmL, nrmZ, Nat.reduceEqDiff, ↓reduceIte, Nat.reduceAdd, Int.reduceBEq, Int.reduceBNe, hee, h0, hne, hz]; rfl) ?_
   refine Fe.pure rfl rfl (by simp only [↓nrmL, nrmZ, Nat.reduceEqDiff, ↓reduceIte, Nat.reduceAdd, Int.reduceBEq, Int.reduceBNe, hee, h0, hne, hz]; rfl) ?_
   refine Fe.pure rfl rfl (by simp only [↓nrmL, nrmZ, Nat.reduceEqDiff, ↓reduceIte, Nat.reduceAdd, Int.reduceBEq, Int.reduceBNe, hee, h0, hne, hz]; rfl) ?_
   refine Fe.pure rfl rfl (by simp only [↓nrmL, nrmZ, Nat.reduceEqDiff, ↓reduceIte, Nat.reduceAdd, Int.reduceBEq, Int.reduceBNe, hee, h0, hne, hz]; rfl) ?_
   refine Fe.read rfl (exec_ld rfl rfl) rfl (by repeat (first | exact trivial | refine ⟨(by first | exact Or.inl (by dsimp only; decide) | exact Or.inr (exec_ld rfl rfl) | exact Or.inr (exec_ldN rfl rfl rfl) | exact Or.inr (exec_ldB rfl (by omega)) | exact Or.inr (exec_ldI rfl (by omega)) | exact Or.inr ghost_of), ?_⟩)) ?_
   refine Fe.pure rfl (exec_lenP (by (try simp only [↓nrmL, nrmZ, Nat.reduceEqDiff, ↓reduceIte, Nat.reduceAdd, Int.reduceBEq, Int.reduceBNe, hee, h0, hne, hz]); rfl)) (by simp only [↓nrmL, nrmZ, Nat.reduceEqDiff, ↓reduceIte, Nat.reduceAdd, Int.reduceBEq, Int.reduceBNe, hee, h0, hne, hz]; rfl) ?_
   refine Fe.pure rfl rfl rfl ?_
   refine Fe.pure rfl rfl (by simp only [↓nrmL, nrmZ, Nat.reduceEqDiff, ↓reduceIte, Nat.reduceAdd, Int.reduceBEq, Int.reduceBNe, hee, h0, hne, hz]; rfl) ?_
   refine Fe.pure rfl rfl (by simp only [↓nrmL, nrmZ, Nat.reduceEqDiff, ↓reduceIte, Nat.reduceAdd, Int.reduceBEq, Int.reduceBNe, hee, h0, hne, hz]; rfl) ?_
   refine WpE.nil (hKF _ _ ?_)
   try simp only [↓nrmL, nrmZ, Nat.reduceEqDiff, ↓reduceIte, Nat.reduceAdd, Int.reduceBEq, Int.reduceBNe, hs1, hs2, hs3, beq_self_eq_true, Bool.and_true]
   refine Wp.cond (b := false) rfl ?_
   refine Wp.skip ?_
   refine sq ?_
   refine rg fun KF hKF => ?_
   refine Fo.ldN rfl rfl (by simp only [↓nrmL, nrmZ, Nat.reduceEqDiff, ↓reduceIte, Nat.reduceAdd, Int.reduceBEq, Int.reduceBNe, hs1, hs2, hs3, beq_self_eq_true, Bool.and_true]; rfl) ?_
   refine mI rfl ?_
   refine Fo.ldN rfl rfl (by simp only [↓nrmL, nrmZ, Nat.reduceEqDiff, ↓reduceIte, Nat.reduceAdd, Int.reduceBEq, Int.reduceBNe, hs1, hs2, hs3, beq_self_eq_true, Bool.and_true]; rfl) ?_
   refine mI rfl ?_
   refine Fo.pcall (v' := ?_) hn rfl (by simp only [↓nrmL, nrmZ, Nat.reduceEqDiff, ↓reduceIte, Nat.reduceAdd, Int.reduceBEq, Int.reduceBNe, hs1, hs2, hs3, beq_self_eq_true, Bool.and_true, List.map]; rfl) rfl ?hv fun _ _ => ?_; case hv => (simp only [↓nrmL, nrmZ, Nat.reduceEqDiff, ↓reduceIte, Nat.reduceAdd, Int.reduceBEq, Int.reduceBNe, hs1, hs2, hs3, beq_self_eq_true, Bool.and_true]; rfl)
   refine mB rfl ?_
   refine Fo.yes rfl rfl ?_
   refine Fo.ldN rfl rfl (by simp only [↓nrmL, nrmZ, Nat.reduceEqDiff, ↓reduceIte, Nat.reduceAdd, Int.reduceBEq, Int.reduceBNe, hs1, hs2, hs3, beq_self_eq_true, Bool.and_true]; rfl) ?_
   refine Fo.yes rfl rfl ?_
   refine mI rfl ?_
   refine Fo.yes rfl rfl ?_
   refine Fo.ldN rfl rfl (by simp only [↓nrmL, nrmZ, Nat.reduceEqDiff, ↓reduceIte, Nat.reduceAdd, Int.reduceBEq, Int.reduceBNe, hs1, hs2, hs3, beq_self_eq_true, Bool.and_true]; rfl) ?_
   refine Fo.yes rfl rfl ?_
   refine mI rfl ?_
   refine Fo.yes rfl rfl ?_
   refine Fo.pcall (v' := ?_) hn rfl (by simp only [↓nrmL, nrmZ, Nat.reduceEqDiff, ↓reduceIte, Nat.reduceAdd, Int.reduceBEq, Int.reduceBNe, hs1, hs2, hs3, beq_self_eq_true, Bool.and_true, List.map]; rfl) rfl ?hv fun _ _ => ?_; case hv => (simp only [↓nrmL, nrmZ, Nat.reduceEqDiff, ↓reduceIte, Nat.reduceAdd, Int.reduceBEq, Int.reduceBNe, hs1, hs2, hs3, beq_self_eq_true, Bool.and_true]; rfl)
   refine tB rfl rfl ?_
   refine mB rfl ?_
   refine Fo.yes rfl rfl ?_
   refine Fo.ldN rfl rfl (by simp only [↓nrmL, nrmZ, Nat.reduceEqDiff, ↓reduceIte, Nat.reduceAdd, Int.reduceBEq, Int.reduceBNe, hs1, hs2, hs3, beq_self_eq_true, Bool.and_true]; rfl) ?_
   refine Fo.yes rfl rfl ?_
   refine Fo.ldN rfl rfl (by simp only [↓nrmL, nrmZ, Nat.reduceEqDiff, ↓reduceIte, Nat.reduceAdd, Int.reduceBEq, Int.reduceBNe, hs1, hs2, hs3, beq_self_eq_true, Bool.and_true]; rfl) ?_
   refine Fo.yes rfl rfl ?_
   refine Fo.pcall (v' := ?_) hn rfl (by simp only [↓nrmL, nrmZ, Nat.reduceEqDiff, ↓reduceIte, Nat.reduceAdd, Int.reduceBEq, Int.reduceBNe, hs1, hs2, hs3, beq_self_eq_true, Bool.and_true, List.map]; rfl) rfl ?hv fun _ _ => ?_; case hv => (simp only [↓nrmL, nrmZ, Nat.reduceEqDiff, ↓reduceIte, Nat.reduceAdd, Int.reduceBEq, Int.reduceBNe, hs1, hs2, hs3, beq_self_eq_true, Bool.and_true]; rfl)
   refine tB rfl rfl ?_
   refine mB rfl ?_
   refine Fo.yes rfl rfl ?_
   refine Fo.pcall (v' := ?_) hn rfl (by simp only [↓nrmL, nrmZ, Nat.reduceEqDiff, ↓reduceIte, Nat.reduceAdd, Int.reduceBEq, Int.reduceBNe, hs1, hs2, hs3, beq_self_eq_true, Bool.and_true, List.map]; rfl) rfl ?hv fun _ _ => ?_; case hv => rfl
   refine tB rfl rfl ?_
   refine mB rfl ?_
   refine WpO.nil (hKF _ _ ?_)
   refine Wp.ret ?_
   dsimp only [cond_true, cond_false]
   refine ⟨trivial, _, (by first | rfl | exact getAllC rfl rfl rfl rfl | exact getAllT rfl (getAllC rfl rfl rfl rfl) | exact getAllC rfl rfl rfl (getAllC rfl rfl rfl rfl) | exact getAllC1 rfl rfl rfl), ?_⟩
   exact ⟨rfl, Ext0.ext⟩
  ·obtain ⟨wa, hb, rfl, rfl, ok⟩ := ok_of h0
   have ee := ok.err
   have hee : ((0 : Int) != 0) = false := rfl
   refine WpO.do (WpX.conD hn rfl rfl (by simp only [↓nrmL, nrmZ, Nat.reduceEqDiff, ↓reduceIte, Nat.reduceAdd, Int.reduceBEq, Int.reduceBNe, List.map] <;> rfl) (K_ThinV ok) fun v H6 h5 => ?_)
   obtain ⟨r, m1, hr1, hf1, _, e1, t1, e2, ht1, _, _, hxt⟩ := h5
   subst e1 e2
   try dsimp only at ht1
   haveI : ExtI _ H6 := ⟨hxt⟩
   haveI := ht1.one
   have okr : Ok wa hb r := by rw [hr1]; exact ok.thin m1
   have hrs := okr.short
   haveI : Short r := ⟨by omega⟩
   have hs4 : decide ((⟨wa, hb, r⟩ : Img) = ⟨wa, hb, r⟩) = true := decide_eq_true rfl
   try simp only [↓nrmL, nrmZ, Nat.reduceEqDiff, ↓reduceIte, Nat.reduceAdd, Int.reduceBEq, Int.reduceBNe, ee]
   refine mT rfl ?_
   refine Fo.extr rfl rfl ?_
   refine Fo.extr rfl rfl ?_
   refine Fo.new ?_
   refine Fo.st rfl (rfl : _ = AVal.agg _) rfl rfl rfl (by repeat (first | rfl | refine allOne_cons ?_)) (by simp only [↓nrmL, nrmZ, Nat.reduceEqDiff, ↓reduceIte, Nat.reduceAdd, Int.reduceBEq, Int.reduceBNe, ee]; rfl) ?_
   refine mI rfl ?_
   refine WpO.nil (hKF _ _ ?_)
   refine sq ?_
   refine rg fun KF hKF => ?_
   refine Fo.ldN rfl rfl (by simp only [↓nrmL, nrmZ, Nat.reduceEqDiff, ↓reduceIte, Nat.reduceAdd, Int.reduceBEq, Int.reduceBNe, ee]; rfl) ?_
   refine Fo.pcall (v' := ?_) hn rfl (by simp only [↓nrmL, nrmZ, Nat.reduceEqDiff, ↓reduceIte, Nat.reduceAdd, Int.reduceBEq, Int.reduceBNe, ee, List.map]; rfl) rfl ?hv fun _ _ => ?_; case hv => (simp only [↓nrmL, nrmZ, Nat.reduceEqDiff, ↓reduceIte, Nat.reduceAdd, Int.reduceBEq, Int.reduceBNe, ee]; rfl)
   refine mI rfl ?_
   refine WpO.nil (hKF _ _ ?_)
   refine sq ?_
   refine sq ?_
   refine Fr.dregion0 rfl fun KF hKF => ?_
   try simp only [↓nrmL, nrmZ, Nat.reduceEqDiff, ↓reduceIte, Nat.reduceAdd, Int.reduceBEq, Int.reduceBNe, ee, hee, beq_self_eq_true]
   refine Fe.pure rfl rfl (by simp only [↓nrmL, nrmZ, Nat.reduceEqDiff, ↓reduceIte, Nat.reduceAdd, Int.reduceBEq, Int.reduceBNe, ee, hee, beq_self_eq_true]; rfl) ?_
   refine Fe.pure rfl rfl (by simp only [↓nrmL, nrmZ, Nat.reduceEqDiff, ↓reduceIte, Nat.reduceAdd, Int.reduceBEq, Int.reduceBNe, ee, hee, beq_self_eq_true]; rfl) ?_
   refine Fe.pure rfl rfl (by simp only [↓nrmL, nrmZ, Nat.reduceEqDiff, ↓reduceIte, Nat.reduceAdd, Int.reduceBEq, Int.reduceBNe, ee, hee, beq_self_eq_true]; rfl) ?_
   refine Fe.pure rfl rfl (by simp only [↓nrmL, nrmZ, Nat.reduceEqDiff, ↓reduceIte, Nat.reduceAdd, Int.reduceBEq, Int.reduceBNe, ee, hee, beq_self_eq_true]; rfl) ?_
   refine Fe.pure rfl rfl (by simp only [↓nrmL, nrmZ, Nat.reduceEqDiff, ↓reduceIte, Nat.reduceAdd, Int.reduceBEq, Int.reduceBNe, ee, hee, beq_self_eq_true]; rfl) ?_
   refine Fe.pure rfl rfl (by simp only [↓nrmL, nrmZ, Nat.reduceEqDiff, ↓reduceIte, Nat.reduceAdd, Int.reduceBEq, Int.reduceBNe, ee, hee, beq_self_eq_true]; rfl) ?_
   refine Fe.pure rfl rfl (by simp only [↓nrmL, nrmZ, Nat.reduceEqDiff, ↓reduceIte, Nat.reduceAdd, Int.reduceBEq, Int.reduceBNe, ee, hee, beq_self_eq_true]; rfl) ?_
   refine Fe.read rfl (exec_ldN rfl rfl (by simp only [↓nrmL, nrmZ, Nat.reduceEqDiff, ↓reduceIte, Nat.reduceAdd, Int.reduceBEq, Int.reduceBNe, ee, hee, beq_self_eq_true]; rfl)) rfl (by repeat (first | exact trivial | refine ⟨(by first | exact Or.inl (by dsimp only; decide) | exact Or.inr (exec_ld rfl rfl) | exact Or.inr (exec_ldN rfl rfl rfl) | exact Or.inr (exec_ldB rfl (by omega)) | exact Or.inr (exec_ldI rfl (by omega)) | exact Or.inr ghost_of), ?_⟩)) ?_
   refine Fe.read rfl (exec_ldN rfl rfl (by simp only [↓nrmL, nrmZ, Nat.reduceEqDiff, ↓reduceIte, Nat.reduceAdd, Int.reduceBEq, Int.reduceBNe, ee, hee, beq_self_eq_true]; rfl)) rfl (by repeat (first | exact trivial | refine ⟨(by first | exact Or.inl (by dsimp only; decide) | exact Or.inr (exec_ld rfl rfl) | exact Or.inr (exec_ldN rfl rfl rfl) | exact Or.inr (exec_ldB rfl (by omega)) | exact Or.inr (exec_ldI rfl (by omega)) | exact Or.inr ghost_of), ?_⟩)) ?_
   refine Fe.con rfl hn rfl rfl (by simp only [↓nrmL, nrmZ, Nat.reduceEqDiff, ↓reduceIte, Nat.reduceAdd, Int.reduceBEq, Int.reduceBNe, List.map] <;> rfl) (K_refThin ok) fun v H7 h5 => ?_
   obtain ⟨r', m2, hr2, hf2, t2, e2, ht2, _, _, hxt2⟩ := h5
   have hrr : r' = r := by
    rw [hr1, hr2]
    exact thin_unique (by rw [← hr2]; exact hf2) (by rw [← hr1]; exact hf1)
   subst e2
   rw [hrr] at ht2
   try dsimp only at ht2
   haveI : ExtI _ H7 := ⟨hxt2⟩
   haveI := ht2.one
   refine ⟨(by repeat (first | exact trivial | refine ⟨(by first | exact Or.inl (by dsimp only; decide) | exact Or.inr (readOk_of (exec_ld rfl rfl)) | exact Or.inr (readOk_of (exec_ldN rfl rfl rfl)) | exact Or.inr (readOk_of (exec_ldB rfl (by omega))) | exact Or.inr (readOk_of (exec_ldI rfl (by omega))) | exact Or.inr (made_of rfl)), ?_⟩)), ?_⟩
   try simp only [↓nrmL, nrmZ, Nat.reduceEqDiff, ↓reduceIte, Nat.reduceAdd, Int.reduceBEq, Int.reduceBNe, hs4, Bool.not_true, hee]
   refine Fe.pcall (v' := ?_) rfl hn rfl (by simp only [↓nrmL, nrmZ, Nat.reduceEqDiff, ↓reduceIte, Nat.reduceAdd, Int.reduceBEq, Int.reduceBNe, hs4, Bool.not_true, hee, List.map]; rfl) rfl ?hv fun _ _ => ⟨(by repeat (first | exact trivial | refine ⟨(by first | exact Or.inl (by dsimp only; decide) | exact Or.inr (readOk_of (exec_ld rfl rfl)) | exact Or.inr (readOk_of (exec_ldN rfl rfl rfl)) | exact Or.inr (readOk_of (exec_ldB rfl (by omega))) | exact Or.inr (readOk_of (exec_ldI rfl (by omega))) | exact Or.inr (made_of rfl)), ?_⟩)), ?_⟩; case hv => (simp only [↓nrmL, nrmZ, Nat.reduceEqDiff, ↓reduceIte, Nat.reduceAdd, Int.reduceBEq, Int.reduceBNe, hs4, Bool.not_true, hee]; rfl)
   refine Fe.pure rfl rfl rfl ?_
   refine Fe.pure rfl rfl (by simp only [↓nrmL, nrmZ, Nat.reduceEqDiff, ↓reduceIte, Nat.reduceAdd, Int.reduceBEq, Int.reduceBNe, hs4, Bool.not_true, hee]; rfl) ?_
   refine Fe.pure rfl rfl (by simp only [↓nrmL, nrmZ, Nat.reduceEqDiff, ↓reduceIte, Nat.reduceAdd, Int.reduceBEq, Int.reduceBNe, hs4, Bool.not_true, hee]; rfl) ?_
   refine Fe.pure rfl rfl (by simp only [↓nrmL, nrmZ, Nat.reduceEqDiff, ↓reduceIte, Nat.reduceAdd, Int.reduceBEq, Int.reduceBNe, hs4, Bool.not_true, hee]; rfl) ?_
   refine Fe.pure rfl rfl (by simp only [↓nrmL, nrmZ, Nat.reduceEqDiff, ↓reduceIte, Nat.reduceAdd, Int.reduceBEq, Int.reduceBNe, hs4, Bool.not_true, hee]; rfl) ?_
   refine Fe.pure rfl rfl (by simp only [↓nrmL, nrmZ, Nat.reduceEqDiff, ↓reduceIte, Nat.reduceAdd, Int.reduceBEq, Int.reduceBNe, hs4, Bool.not_true, hee]; rfl) ?_
   refine Fe.pure rfl rfl (by simp only [↓nrmL, nrmZ, Nat.reduceEqDiff, ↓reduceIte, Nat.reduceAdd, Int.reduceBEq, Int.reduceBNe, hs4, Bool.not_true, hee]; rfl) ?_
   refine Fe.skip rfl ?_
   refine Fe.skip rfl ?_
   refine Fe.skip rfl ?_
   refine Fe.skip rfl ?_
   refine Fe.pure rfl rfl (by simp only [↓nrmL, nrmZ, Nat.reduceEqDiff, ↓reduceIte, Nat.reduceAdd, Int.reduceBEq, Int.reduceBNe, hs4, Bool.not_true, hee]; rfl) ?_
   refine Fe.pure rfl rfl (by simp only [↓nrmL, nrmZ, Nat.reduceEqDiff, ↓reduceIte, Nat.reduceAdd, Int.reduceBEq, Int.reduceBNe, hs4, Bool.not_true, hee]; rfl) ?_
   refine WpE.nil (hKF _ _ ?_)
   try simp only [↓nrmL, nrmZ, Nat.reduceEqDiff, ↓reduceIte, Nat.reduceAdd, Int.reduceBEq, Int.reduceBNe, hs1, hs2, hs3, beq_self_eq_true, Bool.and_true]
   refine Wp.cond (b := false) rfl ?_
   refine Wp.skip ?_
   refine sq ?_
   refine rg fun KF hKF => ?_
   refine Fo.ldN rfl rfl (by simp only [↓nrmL, nrmZ, Nat.reduceEqDiff, ↓reduceIte, Nat.reduceAdd, Int.reduceBEq, Int.reduceBNe, hs1, hs2, hs3, beq_self_eq_true, Bool.and_true]; rfl) ?_
   refine mI rfl ?_
   refine Fo.ldN rfl rfl (by simp only [↓nrmL, nrmZ, Nat.reduceEqDiff, ↓reduceIte, Nat.reduceAdd, Int.reduceBEq, Int.reduceBNe, hs1, hs2, hs3, beq_self_eq_true, Bool.and_true]; rfl) ?_
   refine mI rfl ?_
   refine Fo.pcall (v' := ?_) hn rfl (by simp only [↓nrmL, nrmZ, Nat.reduceEqDiff, ↓reduceIte, Nat.reduceAdd, Int.reduceBEq, Int.reduceBNe, hs1, hs2, hs3, beq_self_eq_true, Bool.and_true, List.map]; rfl) rfl ?hv fun _ _ => ?_; case hv => (simp only [↓nrmL, nrmZ, Nat.reduceEqDiff, ↓reduceIte, Nat.reduceAdd, Int.reduceBEq, Int.reduceBNe, hs1, hs2, hs3, beq_self_eq_true, Bool.and_true]; rfl)
   refine mB rfl ?_
   refine Fo.yes rfl rfl ?_
   refine Fo.ldN rfl rfl (by simp only [↓nrmL, nrmZ, Nat.reduceEqDiff, ↓reduceIte, Nat.reduceAdd, Int.reduceBEq, Int.reduceBNe, hs1, hs2, hs3, beq_self_eq_true, Bool.and_true]; rfl) ?_
   refine Fo.yes rfl rfl ?_
   refine mI rfl ?_
   refine Fo.yes rfl rfl ?_
   refine Fo.ldN rfl rfl (by simp only [↓nrmL, nrmZ, Nat.reduceEqDiff, ↓reduceIte, Nat.reduceAdd, Int.reduceBEq, Int.reduceBNe, hs1, hs2, hs3, beq_self_eq_true, Bool.and_true]; rfl) ?_
   refine Fo.yes rfl rfl ?_
   refine mI rfl ?_
   refine Fo.yes rfl rfl ?_
   refine Fo.pcall (v' := ?_) hn rfl (by simp only [↓nrmL, nrmZ, Nat.reduceEqDiff, ↓reduceIte, Nat.reduceAdd, Int.reduceBEq, Int.reduceBNe, hs1, hs2, hs3, beq_self_eq_true, Bool.and_true, List.map]; rfl) rfl ?hv fun _ _ => ?_; case hv => (simp only [↓nrmL, nrmZ, Nat.reduceEqDiff, ↓reduceIte, Nat.reduceAdd, Int.reduceBEq, Int.reduceBNe, hs1, hs2, hs3, beq_self_eq_true, Bool.and_true]; rfl)
   refine tB rfl rfl ?_
   refine mB rfl ?_
   refine Fo.yes rfl rfl ?_
   refine Fo.ldN rfl rfl (by simp only [↓nrmL, nrmZ, Nat.reduceEqDiff, ↓reduceIte, Nat.reduceAdd, Int.reduceBEq, Int.reduceBNe, hs1, hs2, hs3, beq_self_eq_true, Bool.and_true]; rfl) ?_
   refine Fo.yes rfl rfl ?_
   refine Fo.ldN rfl rfl (by simp only [↓nrmL, nrmZ, Nat.reduceEqDiff, ↓reduceIte, Nat.reduceAdd, Int.reduceBEq, Int.reduceBNe, hs1, hs2, hs3, beq_self_eq_true, Bool.and_true]; rfl) ?_
   refine Fo.yes rfl rfl ?_
   refine Fo.pcall (v' := ?_) hn rfl (by simp only [↓nrmL, nrmZ, Nat.reduceEqDiff, ↓reduceIte, Nat.reduceAdd, Int.reduceBEq, Int.reduceBNe, hs1, hs2, hs3, beq_self_eq_true, Bool.and_true, List.map]; rfl) rfl ?hv fun _ _ => ?_; case hv => (simp only [↓nrmL, nrmZ, Nat.reduceEqDiff, ↓reduceIte, Nat.reduceAdd, Int.reduceBEq, Int.reduceBNe, hs1, hs2, hs3, beq_self_eq_true, Bool.and_true]; rfl)
   refine tB rfl rfl ?_
   refine mB rfl ?_
   refine Fo.yes rfl rfl ?_
   refine Fo.pcall (v' := ?_) hn rfl (by simp only [↓nrmL, nrmZ, Nat.reduceEqDiff, ↓reduceIte, Nat.reduceAdd, Int.reduceBEq, Int.reduceBNe, hs1, hs2, hs3, beq_self_eq_true, Bool.and_true, List.map]; rfl) rfl ?hv fun _ _ => ?_; case hv => rfl
   refine tB rfl rfl ?_
   refine mB rfl ?_
   refine WpO.nil (hKF _ _ ?_)
   refine Wp.ret ?_
   dsimp only [cond_true, cond_false]
   refine ⟨trivial, _, (by first | rfl | exact getAllC rfl rfl rfl rfl | exact getAllT rfl (getAllC rfl rfl rfl rfl) | exact getAllC rfl rfl rfl (getAllC rfl rfl rfl rfl) | exact getAllC1 rfl rfl rfl), ?_⟩
   exact ⟨rfl, Ext0.ext⟩
 clear hKF
 cases c2 : decide (x > 12)
 ·skip
  try simp only [↓nrmL, nrmZ, Nat.reduceEqDiff, ↓reduceIte, Nat.reduceAdd, Int.reduceBEq, Int.reduceBNe, c2]
  refine Fo.no rfl rfl ?_
  refine Fo.no rfl rfl ?_
  refine Fo.yes rfl rfl ?_
  refine fB rfl rfl ?_
  refine fB rfl rfl ?_
  refine mB rfl ?_
  refine Fo.yes rfl rfl ?_
  refine mI rfl ?_
  refine Fo.yes rfl rfl ?_
  refine Fo.bin rfl rfl rfl rfl ?_
  refine Fo.yes rfl rfl ?_
  refine mB rfl ?_
  cases c4 : decide (y > 12)
  ·skip
   try simp only [↓nrmL, nrmZ, Nat.reduceEqDiff, ↓reduceIte, Nat.reduceAdd, Int.reduceBEq, Int.reduceBNe, c4]
   refine Fo.no rfl rfl ?_
   refine Fo.no rfl rfl ?_
   refine Fo.yes rfl rfl ?_
   refine fB rfl rfl ?_
   refine fB rfl rfl ?_
   refine WpO.nil ?_
   exact eta4 (P := fun f => KF f _) rfl rfl rfl rfl hK2
  ·skip
   try simp only [↓nrmL, nrmZ, Nat.reduceEqDiff, ↓reduceIte, Nat.reduceAdd, Int.reduceBEq, Int.reduceBNe, c4]
   refine Fo.yes rfl rfl ?_
   refine mI rfl ?_
   refine Fo.yes rfl rfl ?_
   refine Fo.bin rfl rfl rfl rfl ?_
   refine Fo.yes rfl rfl ?_
   refine tB rfl rfl ?_
   refine fB rfl rfl ?_
   cases c5 : decide (y < 64)
   ·skip
    try simp only [↓nrmL, nrmZ, Nat.reduceEqDiff, ↓reduceIte, Nat.reduceAdd, Int.reduceBEq, Int.reduceBNe, c5]
    refine WpO.nil ?_
    exact eta4 (P := fun f => KF f _) rfl rfl rfl rfl hK2
   ·skip
    try simp only [↓nrmL, nrmZ, Nat.reduceEqDiff, ↓reduceIte, Nat.reduceAdd, Int.reduceBEq, Int.reduceBNe, c5]
    refine WpO.nil ?_
    exact eta4 (P := fun f => KF f _) rfl rfl rfl rfl hK1
 ·skip
  try simp only [↓nrmL, nrmZ, Nat.reduceEqDiff, ↓reduceIte, Nat.reduceAdd, Int.reduceBEq, Int.reduceBNe, c2]
  refine Fo.yes rfl rfl ?_
  refine mI rfl ?_
  refine Fo.yes rfl rfl ?_
  refine Fo.bin rfl rfl rfl rfl ?_
  refine Fo.yes rfl rfl ?_
  refine tB rfl rfl ?_
  refine fB rfl rfl ?_
  refine mB rfl ?_
  cases c3 : decide (x < 64)
  ·skip
   try simp only [↓nrmL, nrmZ, Nat.reduceEqDiff, ↓reduceIte, Nat.reduceAdd, Int.reduceBEq, Int.reduceBNe, c3]
   refine Fo.yes rfl rfl ?_
   refine mI rfl ?_
   refine Fo.yes rfl rfl ?_
   refine Fo.bin rfl rfl rfl rfl ?_
   refine Fo.yes rfl rfl ?_
   refine mB rfl ?_
   cases c4 : decide (y > 12)
   ·skip
    try simp only [↓nrmL, nrmZ, Nat.reduceEqDiff, ↓reduceIte, Nat.reduceAdd, Int.reduceBEq, Int.reduceBNe, c4]
    refine Fo.no rfl rfl ?_
    refine Fo.no rfl rfl ?_
    refine Fo.yes rfl rfl ?_
    refine fB rfl rfl ?_
    refine fB rfl rfl ?_
    refine WpO.nil ?_
    exact eta4 (P := fun f => KF f _) rfl rfl rfl rfl hK2
   ·skip
    try simp only [↓nrmL, nrmZ, Nat.reduceEqDiff, ↓reduceIte, Nat.reduceAdd, Int.reduceBEq, Int.reduceBNe, c4]
    refine Fo.yes rfl rfl ?_
    refine mI rfl ?_
    refine Fo.yes rfl rfl ?_
    refine Fo.bin rfl rfl rfl rfl ?_
    refine Fo.yes rfl rfl ?_
    refine tB rfl rfl ?_
    refine fB rfl rfl ?_
    cases c5 : decide (y < 64)
    ·skip
     try simp only [↓nrmL, nrmZ, Nat.reduceEqDiff, ↓reduceIte, Nat.reduceAdd, Int.reduceBEq, Int.reduceBNe, c5]
     refine WpO.nil ?_
     exact eta4 (P := fun f => KF f _) rfl rfl rfl rfl hK2
    ·skip
     try simp only [↓nrmL, nrmZ, Nat.reduceEqDiff, ↓reduceIte, Nat.reduceAdd, Int.reduceBEq, Int.reduceBNe, c5]
     refine WpO.nil ?_
     exact eta4 (P := fun f => KF f _) rfl rfl rfl rfl hK1
  ·skip
   try simp only [↓nrmL, nrmZ, Nat.reduceEqDiff, ↓reduceIte, Nat.reduceAdd, Int.reduceBEq, Int.reduceBNe, c3]
   refine Fo.no rfl rfl ?_
   refine Fo.no rfl rfl ?_
   refine Fo.no rfl rfl ?_
   refine Fo.noU rfl ?_
   refine Fo.noU rfl ?_
   refine Fo.no rfl rfl ?_
   refine tB rfl rfl ?_
   refine WpO.nil ?_
   exact eta4 (P := fun f => KF f _) rfl rfl rfl rfl hK1
end Go.Am

set_option maxRecDepth 100000
set_option maxHeartbeats 4000000
namespace Go.Proofs.YtlbgcpmiedjmoaaDoor.ImageBrushes
open Go.ChangeShapes Go.WideShapes Go.ChangeAt Go.RowKit Go.Am Go.Proofs.YtlbgcpmiedjmoaaDoor.Laid

theorem con (H : AHeap) (avs : List AVal) (ht : tablesIn aroundT H = true) (h : ArgS Tryd.prog H 3 [24, 3, 3] avs) : Con ext prog 9 8 avs H fun v H' => v = .bool true ∧ Ext H H' := by
  obtain ⟨a0, r0, rfl, h0, a1, r1, rfl, h1, a2, r2, rfl, h2, rfl⟩ := h
  obtain ⟨w0, hh0, p0, l0, rfl, k0, _⟩ := shape_img (ti := 3) (ts := 22) (tb := 5) Tryd.underlying24 (by kernel_rfl) Tryd.underlying3 Tryd.underlying22 Tryd.underlying5 (by kernel_rfl) h0
  obtain ⟨i1, rfl, _⟩ := shape_int Tryd.underlying3 h1
  obtain ⟨i2, rfl, _⟩ := shape_int Tryd.underlying3 h2
  have e0 : argV Tryd.prog 24 [.int .i64 w0, .int .i64 hh0, p0] = .agg [.int .i64 w0, .int .i64 hh0, p0] := by simp only [argV, show aggTy Tryd.prog 24 = true by kernel_rfl, cond_true]
  have e1 : argV Tryd.prog 3 [.int .i64 i1] = .int .i64 i1 := by simp only [argV, show aggTy Tryd.prog 3 = false by kernel_rfl, cond_false, List.headD_cons]
  have e2 : argV Tryd.prog 3 [.int .i64 i2] = .int .i64 i2 := by simp only [argV, show aggTy Tryd.prog 3 = false by kernel_rfl, cond_false, List.headD_cons]
  haveI : Tabs H := ⟨ht⟩
  rw [e0, e1, e2]
  exact K_ImageBrushes

theorem contract (H : Type) (enc : TypeId × Value → H) (W : World) (base : Nat) (args : Array Value) (ds gs : List (DataW H)) (before : List MemPlace)
    (hval : ∀ (j : Nat) t v, Tryd.f8.params[j]? = some t → args[j]? = some v → Value.okWide Tryd.prog W .any base t v)
    (hW : DataW.Whole enc Tryd.prog Tryd.f8.params.toList Rows.imageBrushesSpec.vars false W args.toList ds gs before) (hL : laidMetH Tryd.prog Rows.imageBrushesRow.laid W) :
    Calls Tryd.prog 8 args W fun e W' => ∃ v, e = .returned v ∧ Rows.imageBrushesSpec.post enc Tryd.prog Tryd.f8 false true false false W args v W' := by
  have hW' := hW
  obtain ⟨p, q, hA, _⟩ := hW'
  rw [Tryd.params8] at hA
  obtain ⟨v0, vs0, d0, ds0, p0, q0, _, rfl, _, _, r0⟩ := trodAll_cons hA
  obtain ⟨v1, vs1, d1, ds1, p1, q1, _, rfl, _, _, r1⟩ := trodAll_cons r0
  obtain ⟨v2, vs2, d2, ds2, p2, q2, _, rfl, _, _, r2⟩ := trodAll_cons r1
  obtain ⟨_, rfl, _⟩ := trodAll_nil r2
  exact law_calls (tb := 4) (n := 3) (d := 9) (tabs := aroundT) mixed progOk Tryd.func8 rfl (by decide +kernel) laidOut rowed full (by kernel_rfl) rfl (by kernel_rfl) Tryd.underlying4 (by kernel_rfl) (by kernel_rfl)
    (fun H avs ht h => con H avs ht (by rw [Tryd.params8] at h; exact h)) H enc W base args _ gs before rfl hval hW (around_cells hL)

theorem laid_met (os : Os) : laidMet Tryd.prog Rows.imageBrushesRow.laid ((laidWorld os).forCall (fun _ _ => 0) ⟨#[], #[.agg #[.int .i64 0, .int .i64 0, .slice none 0 0], .int .i64 0, .int .i64 0], []⟩).memory :=
  laidMet_of_run' 8 (by kernel_rfl) (by kernel_rfl)
theorem reads (os : Os) {H : Type} (enc : TypeId × Value → H) : ∃ places, DataW.whole enc Tryd.prog ((laidWorld os).forCall (fun _ _ => 0) ⟨#[], #[.agg #[.int .i64 0, .int .i64 0, .slice none 0 0], .int .i64 0, .int .i64 0], []⟩).memory Tryd.f8.params.toList Rows.imageBrushesSpec.vars false #[Value.agg #[.int .i64 0, .int .i64 0, .slice none 0 0], .int .i64 0, .int .i64 0].toList 8 = some ([.agg [.lit (.int .i64 0), .lit (.int .i64 0), .nil], .lit (.int .i64 0), .lit (.int .i64 0)], [], places) :=
  ⟨[], by kernel_rfl⟩

theorem lifted (os : Os) (started : os.Started) (H : Type) (enc : TypeId × Value → H) (F : Stop.Interp) :
    ReturnsInHanded {} Tryd.checked os 8 .any ((OpenSpec.ofChange Rows.imageBrushesSpec).preRow enc Tryd.prog Tryd.f8 Rows.imageBrushesRow.domain false Rows.imageBrushesRow.laid) (((OpenSpec.ofChange Rows.imageBrushesSpec).at F).post enc Tryd.prog Tryd.f8 false true false false) := by
  obtain ⟨places, hx⟩ := reads os enc
  refine returnsInHanded_of_row (C := Tryd.checked) (s := OpenSpec.ofChange Rows.imageBrushesSpec) own started (by kernel_rfl) Tryd.func8
    (witness_row_at (enc := enc) (C := Tryd.checked) false (laidWorld os) #[.agg #[.int .i64 0, .int .i64 0, .slice none 0 0], .int .i64 0, .int .i64 0] rfl (by kernel_rfl) (by kernel_rfl) (by kernel_rfl)
      (OpenSpec.preRow_of_cond 8 hx (by kernel_rfl) (fun k hk => by cases hk) (by kernel_rfl) (laid_met os))) ?_
  intro W base args ds gs before hval hW _ _ _ hL _ _
  exact contract H enc W base args ds gs before hval hW hL

theorem said : Rows.ImageBrushesSaid :=
  OpenClaim.holds_of_cond 8 Tryd.f8 rfl rfl rfl rfl rfl rfl rfl ⟨rfl, rfl, rfl, rfl, rfl⟩ rfl rfl rfl rfl rfl (by kernel_rfl) Tryd.func8 (by kernel_rfl)
    (of_decide_eq_true (by kernel_rfl)) (by unfold Func.isWrapper; first | (rw [if_pos (by decide +kernel)]; kernel_rfl) | (rw [if_neg (by decide +kernel)]; exact ⟨rfl, rfl⟩))
    (fun os started H enc _ F => by rw [OpenClaim.pre_eq_preRow]; exact lifted os started H enc F)

theorem plain (f : FuncId) (fn : Func) (hf : Tryd.pinned.checked.prog.funcNamed "custos/custoslaw01.ImageBrushes" = some f) (hfn : Tryd.pinned.checked.prog.funcs[f]? = some fn) :
    false = Tryd.pinned.checked.prog.looks [] ∧ ∀ (j : Nat) t, fn.params[j]? = some t → Tryd.pinned.checked.prog.wantsStandIn t = false := by
  obtain rfl : f = 8 := Option.some.inj ((show Tryd.prog.funcNamed "custos/custoslaw01.ImageBrushes" = some 8 by kernel_rfl).symm.trans hf) |>.symm
  obtain rfl : fn = Tryd.f8 := (Option.some.inj (Tryd.func8.symm.trans hfn)).symm
  refine ⟨by kernel_rfl, fun j t ht => ?_⟩
  have h := List.all_eq_true.1 (show (Tryd.f8.params.toList.all fun t => !(Tryd.prog.wantsStandIn t)) = true by kernel_rfl) t (by simpa using Array.mem_of_getElem? ht)
  have h2 : Tryd.prog.wantsStandIn t = false := by simpa using h
  exact h2

/-- The card. -/
theorem card : Rows.ImageBrushesCardSaid :=
  Claim7.holds_tied_plain_at .later [] _ _ _ _ said (fun _ h => by cases h) (by kernel_rfl) (fun _ h => by cases h) imageBrushes_row_tie rfl ⟨rfl, rfl⟩ (by kernel_rfl) rfl plain (by kernel_rfl)
end Go.Proofs.YtlbgcpmiedjmoaaDoor.ImageBrushes
