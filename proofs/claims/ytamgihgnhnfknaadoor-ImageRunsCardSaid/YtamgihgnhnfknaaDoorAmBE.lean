import Derived.Test.YtamgihgnhnfknaaDoorAmBD
set_option linter.unusedSimpArgs false
set_option linter.unusedVariables false
set_option maxHeartbeats 4000000
set_option maxRecDepth 100000
namespace Go.Am
open Go
attribute [local irreducible] Wp WpO WpX WpE

abbrev RunT := Int × Int × Int
def cellsR (l : List RunT) : List AVal := l.flatMap fun r => [.int .i64 r.1, .int .i64 r.2.1, .int .i64 r.2.2]
theorem cellsR_snoc (l : List RunT) (r : RunT) : cellsR (l ++ [r]) = cellsR l ++ [.int .i64 r.1, .int .i64 r.2.1, .int .i64 r.2.2] := by simp [cellsR]
def startB (p : Nat → Bool) (x : Nat) : Bool := p x && !(decide (0 < x) && p (x - 1))
def endF (p : Nat → Bool) (len : Nat) : Nat → Nat → Nat
 | 0, i => i
 | f + 1, i => if i + 1 < len ∧ p (i + 1) = true then endF p len f (i + 1) else i
def endB (p : Nat → Bool) (len i : Nat) : Nat := endF p len len i
theorem endF_eq {p : Nat → Bool} {len e : Nat} (he : e < len) (hno : e + 1 < len → p (e + 1) = false) : ∀ {f i : Nat}, i ≤ e → e - i ≤ f → (∀ t, i ≤ t → t ≤ e → p t = true) → endF p len f i = e
 | 0, i, h1, h2, _ => by simp only [endF]; omega
 | f + 1, i, h1, h2, h3 => by
  simp only [endF]
  by_cases h : i = e
  ·subst h
   rw [if_neg (fun q => by rw [hno q.1] at q; cases q.2)]
  ·rw [if_pos ⟨by omega, h3 (i + 1) (by omega) (by omega)⟩]
   exact endF_eq he hno (by omega) (by omega) fun t a b => h3 t (by omega) b
theorem endB_eq {p : Nat → Bool} {len i e : Nat} (he : e < len) (hno : e + 1 < len → p (e + 1) = false) (hi : i ≤ e) (hall : ∀ t, i ≤ t → t ≤ e → p t = true) : endB p len i = e := endF_eq he hno hi (by omega) hall
def runV (o : Nat → Nat → Bool) (len a x : Nat) : RunT := ((a : Nat), (x : Nat), (endB (o a) len x : Nat))
/-- The runs of a line that begin before x. -/
def preR (o : Nat → Nat → Bool) (len a x : Nat) : List RunT := ((List.range x).filter (startB (o a))).map (runV o len a)
def allR (o : Nat → Nat → Bool) (len y : Nat) : List RunT := (List.range y).flatMap fun a => preR o len a len
theorem preR_zero (o : Nat → Nat → Bool) (len a : Nat) : preR o len a 0 = [] := rfl
theorem preR_on {o : Nat → Nat → Bool} {len a x : Nat} (h : startB (o a) x = true) : preR o len a (x + 1) = preR o len a x ++ [runV o len a x] := by
 simp [preR, List.range_succ, List.filter_append, h]
theorem preR_off {o : Nat → Nat → Bool} {len a x : Nat} (h : startB (o a) x = false) : preR o len a (x + 1) = preR o len a x := by
 simp [preR, List.range_succ, List.filter_append, h]
theorem preR_skip {o : Nat → Nat → Bool} {len a i : Nat} : ∀ {j : Nat}, i ≤ j → (∀ t, i ≤ t → t < j → startB (o a) t = false) → preR o len a j = preR o len a i
 | 0, h, _ => by rw [show i = 0 by omega]
 | j + 1, h, hn => by
  by_cases hij : i = j + 1
  ·rw [hij]
  ·rw [preR_off (hn j (by omega) (by omega))]
   exact preR_skip (by omega) fun t a b => hn t a (by omega)
theorem preR_len (o : Nat → Nat → Bool) (len a x : Nat) : (preR o len a x).length ≤ x := by
 rw [preR, List.length_map]
 have := List.length_filter_le (startB (o a)) (List.range x)
 simpa using this
theorem allR_succ (o : Nat → Nat → Bool) (len y : Nat) : allR o len (y + 1) = allR o len y ++ preR o len y len := by
 simp [allR, List.range_succ]
theorem allR_len (o : Nat → Nat → Bool) (len : Nat) : ∀ y, (allR o len y).length ≤ y * len
 | 0 => by simp [allR]
 | y + 1 => by
  rw [allR_succ, List.length_append, Nat.add_mul, Nat.one_mul]
  have := allR_len o len y
  have := preR_len o len y len
  omega

theorem K_iter {lines len r r1 r2 r3 : Nat} {F : FuncId} {cap : AVal} {o : Nat → Nat → Bool} {J : List RunT → AHeap → Prop} {H : AHeap} {D : Nat} (hl : lines ≤ 640) (hlen : len ≤ 640)
  (hrow : ∀ acc H, J acc H → HasRow H r1 [.int .i64 lines] true (2 * 3) ∧ HasRow H r2 [.int .i64 len] true (2 * 3) ∧ HasRow H r3 [.func (.func F) [] [cap]] true (2 * 119))
  (hext : ∀ acc H H', J acc H → Ext H H' → J acc H')
  (hink : ∀ acc H, J acc H → ∀ a i : Nat, a < lines → i < len → PureCon ext prog F [.int .i64 a, .int .i64 i, cap] H 2 (.bool (o a i)))
  (hy : ∀ acc H, J acc H → acc.length ≤ 409600 → ∀ (a b c : Int) (n : Nat), fuel0 + D ≤ n → ∃ H', callN ext prog n yieldId [.yield r, .agg [.int .i64 a, .int .i64 b, .int .i64 c]] H = some (.bool true, H') ∧ J (acc ++ [(a, b, c)]) H')
  (hJ : J [] H) : Con ext prog (D + 3) 149 [.yield r, .ptr r1 0, .ptr r2 0, .ptr r3 0] H fun _ H' => J (allR o len lines) H' := by
 refine con_of (show prog 149 = some c149 from rfl) rfl rfl fun n hn => ?_
 obtain ⟨k1, k2, k3⟩ := hrow _ _ hJ
 refine sq ?_
 refine rg fun KF hKF => ?_
 refine Fo.ld rfl rfl ?_
 refine mI rfl ?_
 refine WpO.nil (hKF _ _ ?_)
 refine Wp.block ?_
 dsimp only [cond_true, cond_false]
 refine Wp.loopS [5, 6, 7, 9, 10, 11, 12, 13, 14, 15, 16, 17, 18, 19, 20, 21, 22, 23, 24, 25, 26, 27, 28, 29, 30, 31, 32, 33, 34, 35, 36, 37, 38, 39, 40, 41, 42, 43] (fun y : Nat => [(9, .int .i64 y)]) (fun _ y H2 => y ≤ lines ∧ J (allR o len y) H2) (fun y => lines - y) 0 rfl (fun _ => rfl) ⟨rfl, trivial⟩ ⟨Nat.zero_le _, hJ⟩ (by unfold fuel0 at hn; omega) ?_
 rintro y g H2 ⟨hyl, hJ2⟩
 have hal := allR_len o len y
 have hmul : y * len ≤ 640 * 640 := Nat.mul_le_mul (by omega) hlen
 obtain ⟨j1, j2, j3⟩ := hrow _ _ hJ2
 simp only [↓nrmL, nrmZ, Nat.reduceEqDiff, ↓reduceIte]
 cases hc : decide ((y : Int) < (lines : Int))
 ·have hyb : y = lines := by have := of_decide_eq_false hc; omega
  try simp only [↓nrmL, nrmZ, Nat.reduceEqDiff, ↓reduceIte, hc]
  refine sq ?_
  refine rg fun KF hKF => ?_
  refine Fo.bin rfl rfl rfl (by simp only [↓nrmL, nrmZ, Nat.reduceEqDiff, ↓reduceIte, hc]; rfl) ?_
  refine WpO.nil (hKF _ _ ?_)
  refine sq ?_
  refine Wp.cond (b := false) rfl ?_
  refine Wp.exit ?_
  dsimp only [cond_true, cond_false]
  refine ⟨trivial, _, rfl, ?_⟩
  rw [← hyb]
  exact hJ2
 have hyb : y < lines := by have := of_decide_eq_true hc; omega
 have hw1 := wa1 (a := y) (by omega)
 have hmul2 : (y + 1) * len ≤ 640 * 640 := Nat.mul_le_mul (by omega) hlen
 rw [Nat.add_mul, Nat.one_mul] at hmul2
 try simp only [↓nrmL, nrmZ, Nat.reduceEqDiff, ↓reduceIte, hc]
 refine sq ?_
 refine rg fun KF hKF => ?_
 refine Fo.bin rfl rfl rfl (by simp only [↓nrmL, nrmZ, Nat.reduceEqDiff, ↓reduceIte, hc]; rfl) ?_
 refine WpO.nil (hKF _ _ ?_)
 refine sq ?_
 refine Wp.cond (b := true) rfl ?_
 refine Wp.skip ?_
 refine sq ?_
 refine Wp.block ?_
 refine sq ?_
 refine rg fun KF hKF => ?_
 refine mI rfl ?_
 refine mI rfl ?_
 refine WpO.nil (hKF _ _ ?_)
 refine sq ?_
 refine rg fun KF hKF => ?_
 refine mI rfl ?_
 refine WpO.nil (hKF _ _ ?_)
 refine Wp.block ?_
 dsimp only [cond_true, cond_false]
 refine Wp.loopS [6, 7, 12, 13, 14, 15, 16, 17, 18, 19, 20, 21, 22, 23, 24, 25, 26, 27, 28, 29, 30, 31, 32, 33, 34, 35, 36, 37, 38, 39, 40, 41, 42] (fun i : Nat => [(6, .int .i64 i)]) (fun _ i H3 => i ≤ len ∧ (i = 0 ∨ o y (i - 1) = false ∨ (i < len → o y i = false)) ∧ J (allR o len y ++ preR o len y i) H3) (fun i => len - i) 0 rfl (fun _ => rfl) ⟨rfl, trivial⟩ ⟨Nat.zero_le _, Or.inl rfl, by rw [preR_zero, List.append_nil]; exact hJ2⟩ (by unfold fuel0 at hn; omega) ?_
 rintro i g2 H3 ⟨hil, hinv, hJ3⟩
 have hpl := preR_len o len y i
 obtain ⟨m1, m2, m3⟩ := hrow _ _ hJ3
 simp only [↓nrmL, nrmZ, Nat.reduceEqDiff, ↓reduceIte]
 cases hc2 : decide ((i : Int) < (len : Int))
 ·have hie : i = len := by have := of_decide_eq_false hc2; omega
  try simp only [↓nrmL, nrmZ, Nat.reduceEqDiff, ↓reduceIte, hc2]
  refine sq ?_
  refine sq ?_
  refine rg fun KF hKF => ?_
  refine mI rfl ?_
  refine Fo.ld rfl rfl ?_
  refine Fo.bin rfl rfl rfl (by simp only [↓nrmL, nrmZ, Nat.reduceEqDiff, ↓reduceIte, hc2]; rfl) ?_
  refine WpO.nil (hKF _ _ ?_)
  refine Wp.cond (b := false) rfl ?_
  refine Wp.exit ?_
  refine rg fun KF hKF => ?_
  refine Fo.bin rfl rfl rfl rfl ?_
  refine mI rfl ?_
  refine WpO.nil (hKF _ _ ?_)
  dsimp only [cond_true, cond_false]
  refine ⟨y + 1, by omega, ⟨by simp only [↓nrmL, nrmZ, Nat.reduceEqDiff, ↓reduceIte]; rw [hw1], trivial⟩, hyb, ?_⟩
  rw [allR_succ, ← hie]
  exact hie ▸ hJ3
 have hie : i < len := by have := of_decide_eq_true hc2; omega
 have hw2 := wa1 (a := i) (by omega)
 haveI := hink _ _ hJ3 y i hyb hie
 cases ho : o y i
 ·have hst : startB (o y) i = false := by simp [startB, ho]
  rw [ho] at this
  try simp only [↓nrmL, nrmZ, Nat.reduceEqDiff, ↓reduceIte, hc2]
  refine sq ?_
  refine sq ?_
  refine rg fun KF hKF => ?_
  refine mI rfl ?_
  refine Fo.ld rfl rfl ?_
  refine Fo.bin rfl rfl rfl (by simp only [↓nrmL, nrmZ, Nat.reduceEqDiff, ↓reduceIte, hc2]; rfl) ?_
  refine WpO.nil (hKF _ _ ?_)
  refine Wp.cond (b := true) rfl ?_
  refine Wp.skip ?_
  refine sq ?_
  refine Wp.block ?_
  refine sq ?_
  refine sq ?_
  refine rg fun KF hKF => ?_
  refine Fo.ld rfl rfl ?_
  refine mI rfl ?_
  refine mI rfl ?_
  refine WpO.do (WpX.pcallC (D := D + 2) (d := 2) (args := [.int .i64 (y : Int), .int .i64 (i : Int), cap]) hn rfl (by simp only [↓nrmL, nrmZ, Nat.reduceEqDiff, ↓reduceIte, List.map] <;> rfl) (by rw [Nat.ble_eq]; omega) fun H4 hx4 => ?_)
  refine Fo.now rfl rfl (by simp only [↓nrmL, nrmZ, Nat.reduceEqDiff, ↓reduceIte]; rfl) ?_
  refine WpO.nil (hKF _ _ ?_)
  refine Wp.cond (b := true) rfl ?_
  refine Wp.exit ?_
  refine rg fun KF hKF => ?_
  refine mI rfl ?_
  refine Fo.bin rfl rfl rfl rfl ?_
  refine mI rfl ?_
  refine WpO.nil (hKF _ _ ?_)
  dsimp only [cond_true, cond_false]
  refine ⟨i + 1, by omega, ⟨by simp only [↓nrmL, nrmZ, Nat.reduceEqDiff, ↓reduceIte]; rw [hw2], trivial⟩, hie, Or.inr (Or.inl (by rw [Nat.add_sub_cancel]; exact ho)), ?_⟩
  rw [preR_off hst]
  exact hext _ _ _ hJ3 Ext0.ext
 have hst : startB (o y) i = true := by
  rcases hinv with h | h | h
  ·subst h; simp [startB, ho]
  ·simp [startB, ho, h]
  ·rw [h hie] at ho; cases ho
 rw [ho] at this
 try simp only [↓nrmL, nrmZ, Nat.reduceEqDiff, ↓reduceIte, hc2]
 refine sq ?_
 refine sq ?_
 refine rg fun KF hKF => ?_
 refine mI rfl ?_
 refine Fo.ld rfl rfl ?_
 refine Fo.bin rfl rfl rfl (by simp only [↓nrmL, nrmZ, Nat.reduceEqDiff, ↓reduceIte, hc2]; rfl) ?_
 refine WpO.nil (hKF _ _ ?_)
 refine Wp.cond (b := true) rfl ?_
 refine Wp.skip ?_
 refine sq ?_
 refine Wp.block ?_
 refine sq ?_
 refine sq ?_
 refine rg fun KF hKF => ?_
 refine Fo.ld rfl rfl ?_
 refine mI rfl ?_
 refine mI rfl ?_
 refine WpO.do (WpX.pcallC (D := D + 2) (d := 2) (args := [.int .i64 (y : Int), .int .i64 (i : Int), cap]) hn rfl (by simp only [↓nrmL, nrmZ, Nat.reduceEqDiff, ↓reduceIte, List.map] <;> rfl) (by rw [Nat.ble_eq]; omega) fun H4 hx4 => ?_)
 have hJ4 : J _ H4 := hext _ _ _ hJ3 hx4.ext
 refine Fo.now rfl rfl (by simp only [↓nrmL, nrmZ, Nat.reduceEqDiff, ↓reduceIte]; rfl) ?_
 refine WpO.nil (hKF _ _ ?_)
 refine Wp.cond (b := false) rfl ?_
 refine Wp.skip ?_
 refine sq ?_
 refine rg fun KF hKF => ?_
 refine mI rfl ?_
 refine mI rfl ?_
 refine WpO.nil (hKF _ _ ?_)
 refine sq ?_
 refine Wp.block ?_
 dsimp only [cond_true, cond_false]
 refine Wp.loopS [6, 23, 24, 25, 26, 27, 28, 29, 30, 31, 32, 33, 34, 35] (fun e : Nat => [(6, .int .i64 e)]) (fun _ e H5 => i ≤ e ∧ e < len ∧ (∀ t, i ≤ t → t ≤ e → o y t = true) ∧ J (allR o len y ++ preR o len y i) H5) (fun e => len - e) i rfl (fun _ => rfl) ⟨rfl, trivial⟩ ⟨Nat.le_refl _, hie, fun t a b => by rw [show t = i by omega]; exact ho, hJ4⟩ (by unfold fuel0 at hn; omega) ?_
 rintro e g3 H5 ⟨hie2, hel, hall, hJ5⟩
 obtain ⟨q1, q2, q3⟩ := hrow _ _ hJ5
 have hw3 := wa1 (a := e) (by omega)
 have fin : ∀ H6, J (allR o len y ++ preR o len y i) H6 → (e + 1 < len → o y (e + 1) = false) → ∃ H', callN ext prog n yieldId [.yield r, .agg [.int .i64 (y : Int), .int .i64 (i : Int), .int .i64 (e : Int)]] H6 = some (.bool true, H') ∧ J (allR o len y ++ preR o len y (e + 1)) H' := by
  intro H6 hJ6 hno
  obtain ⟨H', h1, h2⟩ := hy _ _ hJ6 (by rw [List.length_append]; omega) y i e n (by omega)
  refine ⟨H', h1, ?_⟩
  have e1 : preR o len y (e + 1) = preR o len y i ++ [((y : Int), (i : Int), (e : Int))] := by
   rw [preR_skip (i := i + 1) (by omega) (fun t a b => by
    have : o y (t - 1) = true := hall (t - 1) (by omega) (by omega)
    have h0 : 0 < t := by omega
    simp [startB, this, h0]), preR_on hst, runV, endB_eq hel hno hie2 hall]
  rw [e1, ← List.append_assoc]
  exact h2
 simp only [↓nrmL, nrmZ, Nat.reduceEqDiff, ↓reduceIte]
 cases hc3 : decide (((e + 1 : Nat) : Int) < (len : Int))
 ·have hee : ¬ e + 1 < len := by have := of_decide_eq_false hc3; omega
  obtain ⟨H7, y1, y2⟩ := fin H5 hJ5 (fun q => absurd q hee)
  try simp only [↓nrmL, nrmZ, Nat.reduceEqDiff, ↓reduceIte, hw3, hc3]
  refine sq ?_
  refine sq ?_
  refine rg fun KF hKF => ?_
  refine mI rfl ?_
  refine Fo.bin rfl rfl rfl (by simp only [↓nrmL, nrmZ, Nat.reduceEqDiff, ↓reduceIte, hw3, hc3]; rfl) ?_
  refine Fo.ld rfl rfl ?_
  refine Fo.bin rfl rfl rfl (by simp only [↓nrmL, nrmZ, Nat.reduceEqDiff, ↓reduceIte, hw3, hc3]; rfl) ?_
  refine mB rfl ?_
  refine Fo.no rfl rfl ?_
  refine Fo.no rfl rfl ?_
  refine Fo.no rfl rfl ?_
  refine Fo.no rfl rfl ?_
  refine Fo.no rfl rfl ?_
  refine fB rfl rfl ?_
  refine WpO.nil (hKF _ _ ?_)
  refine Wp.cond (b := false) rfl ?_
  refine Wp.exit ?_
  refine sq ?_
  refine rg fun KF hKF => ?_
  refine Fo.mov (by simp only [↓nrmL, nrmK, Nat.reduceEqDiff, ↓reduceIte]; rfl) ?_
  refine mI rfl ?_
  refine mI rfl ?_
  refine mI rfl ?_
  refine Fo.build (by repeat (first | refine aFill1 (by first | exact (rfl : _ = AVal.int _ _) | exact (rfl : _ = AVal.ptr _ _) | exact (rfl : _ = AVal.bool _) | exact (rfl : _ = AVal.agg _) | exact (rfl : _ = AVal.tuple _) | exact (rfl : _ = AVal.func _ _ _) | exact (rfl : _ = AVal.nslice) | ((try simp only [↓nrmL, nrmK, Nat.reduceEqDiff, ↓reduceIte]); rfl)) rfl ?_ | rfl)) (by simp only [↓nrmL, nrmZ, Nat.reduceEqDiff, ↓reduceIte, hw3, hc3]; rfl) ?_
  refine WpO.do (WpX.yield rfl (by simp only [↓nrmL, nrmZ, Nat.reduceEqDiff, ↓reduceIte, List.map] <;> rfl) ⟨_, _, y1, ?_⟩)
  refine Fo.now rfl rfl (by simp only [↓nrmL, nrmZ, Nat.reduceEqDiff, ↓reduceIte]; rfl) ?_
  refine WpO.nil (hKF _ _ ?_)
  refine Wp.cond (b := false) rfl ?_
  refine Wp.skip ?_
  refine rg fun KF hKF => ?_
  refine mI rfl ?_
  refine Fo.bin rfl rfl rfl rfl ?_
  refine mI rfl ?_
  refine WpO.nil (hKF _ _ ?_)
  dsimp only [cond_true, cond_false]
  refine ⟨e + 1, by omega, ⟨by simp only [↓nrmL, nrmZ, Nat.reduceEqDiff, ↓reduceIte]; rw [hw3], trivial⟩, by omega, Or.inr (Or.inr fun q => absurd q hee), y2⟩
 have hee : e + 1 < len := by have := of_decide_eq_true hc3; omega
 haveI := hink _ _ hJ5 y (e + 1) hyb hee
 cases ho2 : o y (e + 1)
 ·rw [ho2] at this
  try simp only [↓nrmL, nrmZ, Nat.reduceEqDiff, ↓reduceIte, hw3, hc3]
  refine sq ?_
  refine sq ?_
  refine rg fun KF hKF => ?_
  refine mI rfl ?_
  refine Fo.bin rfl rfl rfl (by simp only [↓nrmL, nrmZ, Nat.reduceEqDiff, ↓reduceIte, hw3, hc3]; rfl) ?_
  refine Fo.ld rfl rfl ?_
  refine Fo.bin rfl rfl rfl (by simp only [↓nrmL, nrmZ, Nat.reduceEqDiff, ↓reduceIte, hw3, hc3]; rfl) ?_
  refine mB rfl ?_
  refine Fo.yes rfl rfl ?_
  refine Fo.ld rfl rfl ?_
  refine Fo.yes rfl rfl ?_
  refine mI rfl ?_
  refine Fo.yes rfl rfl ?_
  refine mI rfl ?_
  refine Fo.yes rfl rfl ?_
  refine Fo.bin rfl rfl rfl (by simp only [↓nrmL, nrmZ, Nat.reduceEqDiff, ↓reduceIte, hw3, hc3]; rfl) ?_
  refine Fo.yes rfl rfl ?_
  refine WpO.do (WpX.pcallC (D := D + 2) (d := 2) (args := [.int .i64 (y : Int), .int .i64 ((e + 1 : Nat) : Int), cap]) hn rfl (by simp only [↓nrmL, nrmZ, Nat.reduceEqDiff, ↓reduceIte, List.map] <;> rfl) (by rw [Nat.ble_eq]; omega) fun H6 hx6 => ?_)
  obtain ⟨H7, y1, y2⟩ := fin H6 (hext _ _ _ hJ5 hx6.ext) (fun _ => ho2)
  refine tB rfl rfl ?_
  refine WpO.nil (hKF _ _ ?_)
  refine Wp.cond (b := false) rfl ?_
  refine Wp.exit ?_
  refine sq ?_
  refine rg fun KF hKF => ?_
  refine Fo.mov (by simp only [↓nrmL, nrmK, Nat.reduceEqDiff, ↓reduceIte]; rfl) ?_
  refine mI rfl ?_
  refine mI rfl ?_
  refine mI rfl ?_
  refine Fo.build (by repeat (first | refine aFill1 (by first | exact (rfl : _ = AVal.int _ _) | exact (rfl : _ = AVal.ptr _ _) | exact (rfl : _ = AVal.bool _) | exact (rfl : _ = AVal.agg _) | exact (rfl : _ = AVal.tuple _) | exact (rfl : _ = AVal.func _ _ _) | exact (rfl : _ = AVal.nslice) | ((try simp only [↓nrmL, nrmK, Nat.reduceEqDiff, ↓reduceIte]); rfl)) rfl ?_ | rfl)) (by simp only [↓nrmL, nrmZ, Nat.reduceEqDiff, ↓reduceIte]; rfl) ?_
  refine WpO.do (WpX.yield rfl (by simp only [↓nrmL, nrmZ, Nat.reduceEqDiff, ↓reduceIte, List.map] <;> rfl) ⟨_, _, y1, ?_⟩)
  refine Fo.now rfl rfl (by simp only [↓nrmL, nrmZ, Nat.reduceEqDiff, ↓reduceIte]; rfl) ?_
  refine WpO.nil (hKF _ _ ?_)
  refine Wp.cond (b := false) rfl ?_
  refine Wp.skip ?_
  refine rg fun KF hKF => ?_
  refine mI rfl ?_
  refine Fo.bin rfl rfl rfl rfl ?_
  refine mI rfl ?_
  refine WpO.nil (hKF _ _ ?_)
  dsimp only [cond_true, cond_false]
  refine ⟨e + 1, by omega, ⟨by simp only [↓nrmL, nrmZ, Nat.reduceEqDiff, ↓reduceIte]; rw [hw3], trivial⟩, by omega, Or.inr (Or.inr fun _ => ho2), y2⟩
 ·rw [ho2] at this
  try simp only [↓nrmL, nrmZ, Nat.reduceEqDiff, ↓reduceIte, hw3, hc3]
  refine sq ?_
  refine sq ?_
  refine rg fun KF hKF => ?_
  refine mI rfl ?_
  refine Fo.bin rfl rfl rfl (by simp only [↓nrmL, nrmZ, Nat.reduceEqDiff, ↓reduceIte, hw3, hc3]; rfl) ?_
  refine Fo.ld rfl rfl ?_
  refine Fo.bin rfl rfl rfl (by simp only [↓nrmL, nrmZ, Nat.reduceEqDiff, ↓reduceIte, hw3, hc3]; rfl) ?_
  refine mB rfl ?_
  refine Fo.yes rfl rfl ?_
  refine Fo.ld rfl rfl ?_
  refine Fo.yes rfl rfl ?_
  refine mI rfl ?_
  refine Fo.yes rfl rfl ?_
  refine mI rfl ?_
  refine Fo.yes rfl rfl ?_
  refine Fo.bin rfl rfl rfl (by simp only [↓nrmL, nrmZ, Nat.reduceEqDiff, ↓reduceIte, hw3, hc3]; rfl) ?_
  refine Fo.yes rfl rfl ?_
  refine WpO.do (WpX.pcallC (D := D + 2) (d := 2) (args := [.int .i64 (y : Int), .int .i64 ((e + 1 : Nat) : Int), cap]) hn rfl (by simp only [↓nrmL, nrmZ, Nat.reduceEqDiff, ↓reduceIte, List.map] <;> rfl) (by rw [Nat.ble_eq]; omega) fun H6 hx6 => ?_)
  refine tB rfl rfl ?_
  refine WpO.nil (hKF _ _ ?_)
  refine Wp.cond (b := true) rfl ?_
  refine Wp.skip ?_
  refine Wp.block ?_
  refine rg fun KF hKF => ?_
  refine mI rfl ?_
  refine Fo.bin rfl rfl rfl rfl ?_
  refine mI rfl ?_
  refine WpO.nil (hKF _ _ ?_)
  dsimp only [cond_true, cond_false]
  refine ⟨e + 1, by omega, ⟨by simp only [↓nrmL, nrmZ, Nat.reduceEqDiff, ↓reduceIte]; rw [hw3], trivial⟩, by omega, hee, fun t a b => ?_, hext _ _ _ hJ5 Ext0.ext⟩
  by_cases ht : t ≤ e
  ·exact hall t a ht
  ·rw [show t = e + 1 by omega]; exact ho2
end Go.Am

set_option maxHeartbeats 4000000
set_option maxRecDepth 100000
namespace Go.Am
open Go
attribute [local irreducible] Wp WpO WpX WpE

/-- A valid image. -/
structure Ok (a b : Nat) (l : List UInt8) : Prop where
 wa : a ≤ 640
 hb : b ≤ 640
 len : l.length = a * b
 px : pxOk l = true
theorem Ok.sized {a b : Nat} {l : List UInt8} (h : Ok a b l) : sizedB a b l.length = true := by
 have hm : a * b ≤ 640 * 640 := Nat.mul_le_mul h.wa h.hb
 have h1 : sideB a = true := by simp only [sideB, Bool.and_eq_true, decide_eq_true_eq]; have := h.wa; omega
 have h2 : sideB b = true := by simp only [sideB, Bool.and_eq_true, decide_eq_true_eq]; have := h.hb; omega
 unfold sizedB
 rw [h1, h2, wm (by omega), h.len]
 simp
theorem Ok.err {a b : Nat} {l : List UInt8} (h : Ok a b l) : Img.err ⟨a, b, l⟩ = 0 := by
 have h1 : (⟨a, b, l⟩ : Img).sized = true := h.sized
 have h2 := h.px
 unfold Img.err
 rw [h1]
 simp only [h2, cond_true]
end Go.Am

set_option maxHeartbeats 4000000
set_option maxRecDepth 100000
namespace Go.Am
open Go
attribute [local irreducible] Wp WpO WpX WpE

theorem K_line {a b y : Nat} {p : AVal} {H : AHeap} {l : List UInt8} [hp : BytesI H p l] (hl : l.length = a * b) (hy : y < b) (hm : a * b ≤ 640 * 640) (hb : b ≤ 640) : Con ext prog 1 111 [.agg [.int .i64 a, .int .i64 b, p], .int .i64 y] H fun v H' => Part p v (y * a) a ∧ BytesI H' v (rowL l a y) ∧ Ext H H' := by
 refine con_of (show prog 111 = some c111 from rfl) rfl rfl fun n hn => ?_
 haveI := hp.one
 have hr := row_le (a := a) hy
 have e1 : (y + 1) * a = y * a + a := by rw [Nat.add_mul, Nat.one_mul]
 have h3 : IntKind.i64.wrap ((y : Int) * (a : Int)) = ((y * a : Nat) : Int) := wm (by omega)
 have h4 := wa1 (a := y) (by omega)
 have h5 : IntKind.i64.wrap (((y + 1 : Nat) : Int) * (a : Int)) = ((y * a + a : Nat) : Int) := by rw [← e1]; exact wm (by omega)
 try simp only [↓nrmL, nrmZ, Nat.reduceEqDiff, ↓reduceIte, h3, h4, h5]
 refine sq ?_
 refine rg fun KF hKF => ?_
 refine Fo.boxA rfl ?_
 refine mN rfl ?_
 refine WpO.nil (hKF _ _ ?_)
 refine sq ?_
 refine rg fun KF hKF => ?_
 refine Fo.fa rfl ?_
 refine Fo.ld rfl rfl ?_
 refine mI rfl ?_
 refine Fo.fa rfl ?_
 refine Fo.ld rfl rfl ?_
 refine Fo.bin rfl rfl rfl (by simp only [↓nrmL, nrmZ, Nat.reduceEqDiff, ↓reduceIte, h3, h4, h5]; rfl) ?_
 refine mI rfl ?_
 refine Fo.bin rfl rfl rfl (by simp only [↓nrmL, nrmZ, Nat.reduceEqDiff, ↓reduceIte, h3, h4, h5]; rfl) ?_
 refine Fo.fa rfl ?_
 refine Fo.ld rfl rfl ?_
 refine Fo.bin rfl rfl rfl (by simp only [↓nrmL, nrmZ, Nat.reduceEqDiff, ↓reduceIte, h3, h4, h5]; rfl) ?_
 refine Fo.slc (p := p) (l := l) (a := y * a) (b := y * a + a) rfl (Or.inr ⟨_, rfl⟩) (Or.inr ⟨_, rfl⟩) (by omega) (by omega) fun v H1 h6 h7 hx => ?_
 rw [Nat.add_sub_cancel_left] at h6 h7
 haveI := h6.one
 refine Fo.mov (by simp only [↓nrmL, nrmK, Nat.reduceEqDiff, ↓reduceIte]; rfl) ?_
 refine WpO.nil (hKF _ _ ?_)
 refine Wp.ret ?_
 dsimp only [cond_true, cond_false]
 refine ⟨trivial, _, rfl, ?_⟩
 exact ⟨h6, h7, Ext0.ext⟩

theorem getD_map {f : Nat → UInt8} {n i : Nat} (h : i < n) : ((List.range n).map f).getD i 0 = f i := by simp [h]
theorem list_eq {l m : List UInt8} (hl : l.length = m.length) (h : ∀ t, t < l.length → l.getD t 0 = m.getD t 0) : l = m := by
 apply List.ext_getElem hl
 intro i h1 h2
 have := h i h1
 simpa [h1, h2] using this
end Go.Am

set_option maxHeartbeats 4000000
set_option maxRecDepth 100000
namespace Go.Am
open Go
attribute [local irreducible] Wp WpO WpX WpE

theorem div_lt' {a b t : Nat} (h : t < a * b) : t / a < b := Nat.div_lt_of_lt_mul h

/-- Some of the places of a list of zeros have been filled. -/
def fillP (P : Nat → Bool) (f : Nat → UInt8) (n : Nat) : List UInt8 := (List.range n).map fun k => if P k = true then f k else 0
theorem fillP_length (P : Nat → Bool) (f : Nat → UInt8) (n : Nat) : (fillP P f n).length = n := by simp [fillP]
theorem fillP_congr {P Q : Nat → Bool} {f : Nat → UInt8} {n : Nat} (h : ∀ k, k < n → (Q k = true ↔ P k = true)) : fillP P f n = fillP Q f n := by
 refine list_eq (by rw [fillP_length, fillP_length]) fun t ht => ?_
 rw [fillP_length] at ht
 rw [fillP, fillP, getD_map ht, getD_map ht]
 have := h t ht
 by_cases h1 : P t = true
 ·rw [if_pos h1, if_pos (this.2 h1)]
 ·rw [if_neg h1, if_neg (fun q => h1 (this.1 q))]
theorem fillP_none {P : Nat → Bool} {f : Nat → UInt8} {n : Nat} (h : ∀ k, k < n → P k = false) : fillP P f n = List.replicate n 0 := by
 refine list_eq (by rw [fillP_length, List.length_replicate]) fun t ht => ?_
 rw [fillP_length] at ht
 rw [fillP, getD_map ht, h t ht]
 simp [ht]
theorem fillP_all {P : Nat → Bool} {f : Nat → UInt8} {n : Nat} (h : ∀ k, k < n → P k = true) : fillP P f n = (List.range n).map f := by
 refine list_eq (by simp [fillP_length]) fun t ht => ?_
 rw [fillP_length] at ht
 rw [fillP, getD_map ht, getD_map ht, h t ht]
 rfl
theorem fillP_set {P Q : Nat → Bool} {f : Nat → UInt8} {n j : Nat} (h : ∀ k, k < n → (Q k = true ↔ P k = true ∨ k = j)) : (fillP P f n).set j (f j) = fillP Q f n := by
 refine list_eq (by rw [List.length_set, fillP_length, fillP_length]) fun t ht => ?_
 rw [List.length_set, fillP_length] at ht
 rw [List.getD_eq_getElem?_getD, List.getElem?_set, fillP_length, fillP, fillP, getD_map ht]
 have := h t ht
 by_cases h1 : j = t
 ·subst h1
  rw [if_pos rfl, if_pos ht, if_pos (this.2 (Or.inr rfl))]; rfl
 ·rw [if_neg h1, ← List.getD_eq_getElem?_getD, getD_map ht]
  by_cases h2 : P t = true
  ·rw [if_pos h2, if_pos (this.2 (Or.inl h2))]
  ·rw [if_neg h2, if_neg (fun q => by rcases this.1 q with q | q; exact h2 q; exact h1 q.symm)]
theorem fillP_skip {P Q : Nat → Bool} {f : Nat → UInt8} {n j : Nat} (h0 : f j = 0) (h : ∀ k, k < n → (Q k = true ↔ P k = true ∨ k = j)) : fillP P f n = fillP Q f n := by
 rw [← fillP_set h, h0]
 refine list_eq (by rw [List.length_set]) fun t ht => ?_
 rw [List.getD_eq_getElem?_getD (l := List.set _ _ _), List.getElem?_set]
 by_cases h1 : j = t
 ·subst h1
  rw [if_pos rfl, if_pos ht, Option.getD_some]
  rw [fillP_length] at ht
  rw [fillP, getD_map ht, h0]
  split <;> rfl
 ·rw [if_neg h1, ← List.getD_eq_getElem?_getD]

theorem getD01 {l : List UInt8} (h : pxOk l = true) (i : Nat) : l.getD i 0 = 0 ∨ l.getD i 0 = 1 := by
 by_cases hi : i < l.length
 ·exact px_get h hi
 ·left; rw [List.getD_eq_getElem?_getD, List.getElem?_eq_none (by omega)]; rfl
theorem ok_of {w h : Int} {l : List UInt8} (h0 : (Img.err ⟨w, h, l⟩ == 0) = true) : ∃ a b : Nat, w = a ∧ h = b ∧ Ok a b l := by
 obtain ⟨h1, h2⟩ := Img.ok h0
 obtain ⟨a, b, e1, e2, e3, e4, e5⟩ := sized_nat h1
 exact ⟨a, b, e1, e2, e3, e4, e5, h2⟩
end Go.Am

set_option maxHeartbeats 4000000
set_option maxRecDepth 100000
set_option synthInstance.maxHeartbeats 4000000
set_option synthInstance.maxSize 100000
namespace Go.Am
open Go
attribute [local irreducible] Wp WpO WpX WpE

instance {H : AHeap} {r : Nat} {a b c : AVal} {rw : Bool} {ty : TypeId} [h : HasRow H r [a, b, c] rw ty] : SliceAt H (.slice r 0 1 (some 1) 3) 3 1 [a, b, c] := ⟨Or.inr ⟨r, 0, some 1, _, rw, ty, rfl, h.lt, h.get, by simp, rfl, Nat.le_refl _⟩⟩

abbrev rndA : RCode := .region [⟨(some 6), .new 61 [(.int .i64 0), (.int .i64 0), (.int .i64 0)], none⟩, ⟨none, .store 3 (.tmp 6) (.tmp 18), none⟩]
abbrev rndB : RCode := .block 1 (.region [⟨(some 19), .load none (.tmp 5), none⟩,
   ⟨(some 20), .load (some 3) (.tmp 6), none⟩,
   ⟨(some 21), .buildSlice 61 3 1 [(.int .i64 0), (.int .i64 0), (.int .i64 0)] [(0, 3, (.tmp 20))], none⟩,
   ⟨(some 22), .append 61 3 24 (.tmp 19) (.tmp 21), none⟩,
   ⟨none, .store 1 (.tmp 5) (.tmp 22), none⟩])
abbrev rndL (d : Nat) (fr : AFrame) : RLoop := ⟨d, 24, fr, [18], rndA, rndB, 0, .normal⟩
/-- Between two rounds: the list so far in the variable's row. -/
structure JR (Hb : AHeap) (rl r : Nat) (R0 : RLoop) (acc : List RunT) (H : AHeap) : Prop where
 n : Hb.n ≤ H.n
 get : ∀ s, s < Hb.n → s ≠ rl → H.get s = Hb.get s
 cell : ∃ p e, HasRow H rl [p] true e ∧ OwnS H p 3 acc.length (cellsR acc) 61 ∧ RowNe p rl ∧ FreshS Hb p
 loop : HasLoop H r R0
theorem JR.more {Hb H H' : AHeap} {rl r : Nat} {R0 : RLoop} {acc : List RunT} (h : JR Hb rl r R0 acc H) (x : Ext H H') : JR Hb rl r R0 acc H' := by
 obtain ⟨p, e, h1, h2, h3, h4⟩ := h.cell
 haveI : ExtI H H' := ⟨x⟩
 have h5 := h.loop
 have hn := h.n
 exact ⟨Nat.le_trans h.n x.n, fun s hs hne => by rw [x.get s (by omega)]; exact h.get s hs hne, ⟨p, e, inferInstance, inferInstance, h3, h4⟩, inferInstance⟩

theorem round_rows {Hb H : AHeap} {rl r d n : Nat} {fr : AFrame} {acc : List RunT} {a b c : Int} (h5 : fr 5 = .ptr rl 0) (hrl : rl < Hb.n) (hr : Hb.n ≤ r) (hJ : JR Hb rl r (rndL d fr) acc H) (hlen : acc.length ≤ 409600) (hn : fuel0 + 1 ≤ n) :
  ∃ H', callN ext prog n yieldId [.yield r, .agg [.int .i64 a, .int .i64 b, .int .i64 c]] H = some (.bool true, H') ∧ JR Hb rl r (rndL d fr) (acc ++ [(a, b, c)]) H' := by
 obtain ⟨k, rfl⟩ : ∃ k, n = k + 1 := ⟨n - 1, by omega⟩
 obtain ⟨p, e, h1, ho, hpr, hpf⟩ := hJ.cell
 haveI := hJ.loop
 haveI hne1 : NeR rl r := ⟨by omega⟩
 haveI hne2 : NeR r rl := ⟨by omega⟩
 haveI := ho.sl
 haveI := ho.sl.one
 haveI hpne : RowNe p r := ⟨fun r' off len cap sz q => by
  rcases ho.it with ⟨rfl, _⟩ | ⟨r2, e', rfl, h2, h3, _⟩
  ·cases q
  ·cases q
   intro q; subst q
   have := hJ.loop.get
   rw [h3] at this; cases this⟩
 refine round_next (R := rndL d fr) rfl hJ.loop rfl rfl rfl ?_
 show Wp (callN ext prog k) k rndA (upd fr 18 (.agg [.int .i64 a, .int .i64 b, .int .i64 c])) H _
 try simp only [↓nrmL, nrmZ, Nat.reduceEqDiff, ↓reduceIte, Nat.reduceAdd, Int.reduceBEq, Int.reduceBNe, h5]
 refine rg fun KF hKF => ?_
 refine Fo.new ?_
 refine Fo.st rfl (rfl : _ = AVal.agg _) rfl rfl rfl (by repeat (first | rfl | refine allOne_cons ?_)) (by simp only [↓nrmL, nrmZ, Nat.reduceEqDiff, ↓reduceIte, Nat.reduceAdd, Int.reduceBEq, Int.reduceBNe, h5]; rfl) ?_
 refine WpO.nil (hKF _ _ ?_)
 refine ⟨rfl, inferInstance, ?_⟩
 show Wp (callN ext prog k) k rndB _ _ _
 refine Wp.block ?_
 refine rg fun KF hKF => ?_
 refine Fo.ld (r := rl) (off := 0) h5 rfl ?_
 refine Fo.ldN rfl rfl (by simp only [↓nrmL, nrmZ, Nat.reduceEqDiff, ↓reduceIte, Nat.reduceAdd, Int.reduceBEq, Int.reduceBNe]; rfl) ?_
 refine Fo.bslice rfl (by simp only [↓nrmL, nrmZ, Nat.reduceEqDiff, ↓reduceIte, Nat.reduceAdd, Int.reduceBEq, Int.reduceBNe]; rfl) ?_
 refine WpO.do (WpX.growX (p := p) (q := .slice (AHeap.n (AHeap.set (AHeap.set (AHeap.push H _) H.n _) r _)) 0 1 (some 1) 3) (k := 1) (new := [.int .i64 a, .int .i64 b, .int .i64 c]) rfl rfl (by infer_instance) (by infer_instance) (by decide) (by decide) (by decide) (by omega) (by rfl) fun p' H2 ho2 hf2 hx2 => ?_)
 haveI := ho2.sl.one
 try simp only [↓nrmL, nrmZ, Nat.reduceEqDiff, ↓reduceIte, Nat.reduceAdd, Int.reduceBEq, Int.reduceBNe, h5]
 refine Fo.stO (v := p') (r := rl) (off := 0) h5 rfl rfl rfl ?_
 refine WpO.nil (hKF _ _ ?_)
 dsimp only [cond_true, cond_false]
 have hHn := hJ.n
 have hrn := hJ.loop.lt
 have hp'r : RowNe p' r := ⟨fun r' _ _ _ _ q => by have := hf2.ge _ _ _ _ _ q; simp only [AHeap.push, AHeap.set] at this; omega⟩
 have hp'l : RowNe p' rl := ⟨fun r' _ _ _ _ q => by have := hf2.ge _ _ _ _ _ q; simp only [AHeap.push, AHeap.set] at this; omega⟩
 refine ⟨rfl, inferInstance, ?_, ?_, ⟨p', e, ?_, ?_, hp'l, ?_⟩, ?_⟩
 ·have := hx2.n
  simp only [AHeap.push, AHeap.set] at this ⊢
  omega
 ·intro s hs hne
  have hsr : s ≠ r := by omega
  rw [set_get_ne hsr, set_get_ne hne, hx2.get s (by simp only [AHeap.push, AHeap.set]; omega) ⟨fun r' _ _ _ _ q => by have := hpf.ge _ _ _ _ _ q; omega⟩]
  rw [push_get_lt (by simp only [AHeap.push, AHeap.set]; omega), set_get_ne hsr, set_get_ne (by omega), push_get_lt (by omega)]
  exact hJ.get s hs hne
 ·infer_instance
 ·rw [List.length_append, cellsR_snoc]
  infer_instance
 ·refine ⟨fun r' _ _ _ _ q => ?_⟩
  have := hf2.ge _ _ _ _ _ q
  simp only [AHeap.push, AHeap.set] at this
  omega
 ·infer_instance
end Go.Am

set_option maxHeartbeats 4000000
set_option maxRecDepth 100000
set_option synthInstance.maxHeartbeats 4000000
set_option synthInstance.maxSize 100000
namespace Go.Am
open Go
attribute [local irreducible] Wp WpO WpX WpE

theorem K_runs {x y : Int} {F : FuncId} {cap : AVal} {H : AHeap} : Con ext prog 1 108 [.int .i64 x, .int .i64 y, .func (.func F) [] [cap]] H fun v H' => ∃ r1 r2 r3, v = .func (.func 149) [] [.ptr r1 0, .ptr r2 0, .ptr r3 0] ∧ HasRow H' r1 [.int .i64 x] true (2 * 3) ∧ HasRow H' r2 [.int .i64 y] true (2 * 3) ∧ HasRow H' r3 [.func (.func F) [] [cap]] true (2 * 119) ∧ Ext H H' ∧ H.n ≤ r1 ∧ H.n ≤ r2 ∧ H.n ≤ r3 := by
 refine con_of (show prog 108 = some c108 from rfl) rfl rfl fun n hn => ?_
 refine sq ?_
 refine rg fun KF hKF => ?_
 refine Fo.box1 (rfl : _ = AVal.int _ _) ?_
 refine Fo.box1 (rfl : _ = AVal.int _ _) ?_
 refine Fo.box1 (rfl : _ = AVal.func _ _ _) ?_
 refine Fo.mov (by simp only [↓nrmL, nrmK, Nat.reduceEqDiff, ↓reduceIte]; rfl) ?_
 refine WpO.nil (hKF _ _ ?_)
 refine sq ?_
 refine rg fun KF hKF => ?_
 refine Fo.now rfl rfl rfl ?_
 refine mF rfl ?_
 refine WpO.nil (hKF _ _ ?_)
 refine Wp.ret ?_
 dsimp only [cond_true, cond_false]
 refine ⟨trivial, _, rfl, ?_⟩
 exact ⟨_, _, _, rfl, inferInstance, inferInstance, inferInstance, Ext0.ext, Nat.le_refl _, by simp only [AHeap.push]; omega, by simp only [AHeap.push]; omega⟩
instance K_rowInk {r : Nat} {p : AVal} {H : AHeap} {w h a i : Int} {l : List UInt8} {rw : Bool} {e : TypeId} [hr : HasRow H r [.int .i64 w, .int .i64 h, p] rw e] [hp : BytesI H p l] [hs : Fits w h l] : PureCon ext prog 109 [.int .i64 a, .int .i64 i, .ptr r 0] H 2 (.bool (inkB w h l i a)) := ⟨by
 refine con_of (show prog 109 = some c109 from rfl) rfl rfl fun n hn => ?_
 haveI := hp.one
 refine sq ?_
 refine rg fun KF hKF => ?_
 refine mB rfl ?_
 refine WpO.nil (hKF _ _ ?_)
 refine sq ?_
 refine rg fun KF hKF => ?_
 refine Fo.ldN rfl rfl (by simp only [↓nrmL, nrmZ, Nat.reduceEqDiff, ↓reduceIte]; rfl) ?_
 refine mI rfl ?_
 refine mI rfl ?_
 refine Fo.pcall (v' := ?_) hn rfl (by simp only [↓nrmL, nrmZ, Nat.reduceEqDiff, ↓reduceIte, List.map]; rfl) rfl ?hv fun _ _ => ?_; case hv => rfl
 refine mB rfl ?_
 refine WpO.nil (hKF _ _ ?_)
 refine Wp.ret ?_
 dsimp only [cond_true, cond_false]
 refine ⟨trivial, _, rfl, ?_⟩
 exact ⟨rfl, Ext0.ext⟩⟩
instance K_colInk {r : Nat} {p : AVal} {H : AHeap} {w h a i : Int} {l : List UInt8} {rw : Bool} {e : TypeId} [hr : HasRow H r [.int .i64 w, .int .i64 h, p] rw e] [hp : BytesI H p l] [hs : Fits w h l] : PureCon ext prog 110 [.int .i64 a, .int .i64 i, .ptr r 0] H 2 (.bool (inkB w h l a i)) := ⟨by
 refine con_of (show prog 110 = some c110 from rfl) rfl rfl fun n hn => ?_
 haveI := hp.one
 refine sq ?_
 refine rg fun KF hKF => ?_
 refine mB rfl ?_
 refine WpO.nil (hKF _ _ ?_)
 refine sq ?_
 refine rg fun KF hKF => ?_
 refine Fo.ldN rfl rfl (by simp only [↓nrmL, nrmZ, Nat.reduceEqDiff, ↓reduceIte]; rfl) ?_
 refine mI rfl ?_
 refine mI rfl ?_
 refine Fo.pcall (v' := ?_) hn rfl (by simp only [↓nrmL, nrmZ, Nat.reduceEqDiff, ↓reduceIte, List.map]; rfl) rfl ?hv fun _ _ => ?_; case hv => rfl
 refine mB rfl ?_
 refine WpO.nil (hKF _ _ ?_)
 refine Wp.ret ?_
 dsimp only [cond_true, cond_false]
 refine ⟨trivial, _, rfl, ?_⟩
 exact ⟨rfl, Ext0.ext⟩⟩

theorem JR.row {Hb H : AHeap} {rl r s : Nat} {R0 : RLoop} {acc : List RunT} {cs : List AVal} {rw : Bool} {e : TypeId} (h : JR Hb rl r R0 acc H) (k : HasRow Hb s cs rw e) (hne : s ≠ rl) : HasRow H s cs rw e := ⟨Nat.lt_of_lt_of_le k.lt h.n, by rw [h.get s k.lt hne]; exact k.get⟩
theorem JR.bytes {Hb H : AHeap} {rl r : Nat} {R0 : RLoop} {acc : List RunT} {p : AVal} {l : List UInt8} (h : JR Hb rl r R0 acc H) (k : BytesI Hb p l) (hne : RowNe p rl) : BytesI H p l := k.keep h.n fun s _ _ _ _ e hs => h.get s hs (hne.ne _ _ _ _ _ e)
theorem JR.ext {Hh Hb H : AHeap} {rl r : Nat} {R0 : RLoop} {acc : List RunT} (h : JR Hb rl r R0 acc H) (x : Ext Hh Hb) (hrl : Hh.n ≤ rl) : Ext Hh H := ⟨Nat.le_trans x.n h.n, fun s hs => by have := x.n; rw [h.get s (by omega) (by omega), x.get s hs]⟩
theorem JR.start {Hb : AHeap} {rl : Nat} {R0 : RLoop} {e : TypeId} (k : HasRow Hb rl [.nslice] true e) : JR Hb rl (Hb.n + 1) R0 [] ((Hb.push .dead).push (.loop R0)) := by
 have hlt := k.lt
 refine ⟨by simp only [AHeap.push]; omega, fun s hs _ => ?_, ⟨.nslice, e, inferInstance, ⟨Or.inl ⟨rfl, rfl, rfl⟩⟩, inferInstance, ⟨fun _ _ _ _ _ q => by cases q⟩⟩, (inferInstance : HasLoop ((Hb.push .dead).push (.loop R0)) (Hb.push .dead).n R0)⟩
 rw [push_get_lt (by simp only [AHeap.push]; omega), push_get_lt hs]
theorem own_ne {H : AHeap} {p : AVal} {sz n r : Nat} {cs : List AVal} {e : TypeId} {R0 : RLoop} (ho : OwnS H p sz n cs e) (hl : HasLoop H r R0) : RowNe p r := ⟨fun r' off len cap sz q => by
 rcases ho.it with ⟨rfl, _⟩ | ⟨r2, e', rfl, h2, h3, _⟩
 ·cases q
 ·cases q
  intro q; subst q
  have := hl.get
  rw [h3] at this; cases this⟩

/-- A new list of runs as a result. -/
def NewRuns (H H' : AHeap) (v : AVal) (l : List RunT) : Prop := OwnS H' v 3 l.length (cellsR l) 61 ∧ FreshS H v ∧ Ext H H'
def RunsRes (H H' : AHeap) (v : AVal) (r : List RunT × Int) : Prop := ∃ q, v = .tuple [q, .int .i64 r.2] ∧ NewRuns H H' q r.1
theorem newRuns0 {H H' : AHeap} [x : Ext0 H H'] : NewRuns H H' .nslice [] := ⟨⟨Or.inl ⟨rfl, rfl, rfl⟩⟩, ⟨fun _ _ _ _ _ e => by cases e⟩, x.ext⟩
def rowO (g : Img) (y x : Nat) : Bool := inkB g.w g.h g.px x y
def colO (g : Img) (x y : Nat) : Bool := inkB g.w g.h g.px x y
def rowsSpec (g : Img) : List RunT × Int := bif g.err == 0 then (allR (rowO g) g.w.toNat g.h.toNat, 0) else ([], g.err)
def colsSpec (g : Img) : List RunT × Int := bif g.err == 0 then (allR (colO g) g.h.toNat g.w.toNat, 0) else ([], g.err)

theorem K_Rows {p : AVal} {H : AHeap} {w h : Int} {l : List UInt8} [hp : BytesI H p l] : Con ext prog 7 44 [.agg [.int .i64 w, .int .i64 h, p]] H fun v H' => RunsRes H H' v (rowsSpec ⟨w, h, l⟩) := by
 refine con_ofR (show prog 44 = some c44 from rfl) rfl rfl fun n hn => ?_
 haveI := hp.one
 cases h0 : (Img.err ⟨w, h, l⟩ == 0)
 ·have e1 : rowsSpec ⟨w, h, l⟩ = ([], Img.err ⟨w, h, l⟩) := by simp [rowsSpec, h0]
  rw [e1]
  try simp only [↓nrmL, nrmZ, Nat.reduceEqDiff, ↓reduceIte, h0, bne]
  refine sq ?_
  refine rg fun KF hKF => ?_
  refine Fo.boxA rfl ?_
  refine mN rfl ?_
  refine mI rfl ?_
  refine WpO.nil (hKF _ _ ?_)
  refine sq ?_
  refine sq ?_
  refine rg fun KF hKF => ?_
  refine Fo.ldN rfl rfl (by simp only [↓nrmL, nrmZ, Nat.reduceEqDiff, ↓reduceIte, h0, bne]; rfl) ?_
  refine Fo.pcall (v' := ?_) hn rfl (by simp only [↓nrmL, nrmZ, Nat.reduceEqDiff, ↓reduceIte, h0, bne, List.map]; rfl) rfl ?hv fun _ _ => ?_; case hv => rfl
  refine mI rfl ?_
  refine WpO.nil (hKF _ _ ?_)
  refine sq ?_
  refine rg fun KF hKF => ?_
  refine mI rfl ?_
  refine Fo.bin rfl rfl rfl (by simp only [↓nrmL, nrmZ, Nat.reduceEqDiff, ↓reduceIte, h0, bne]; rfl) ?_
  refine WpO.nil (hKF _ _ ?_)
  refine Wp.cond (b := true) rfl ?_
  refine sq ?_
  refine rg fun KF hKF => ?_
  refine mI rfl ?_
  refine mN rfl ?_
  refine mI rfl ?_
  refine WpO.nil (hKF _ _ ?_)
  refine Wp.ret ?_
  dsimp only [cond_true, cond_false]
  exact ⟨trivial, _, rfl, _, rfl, _, rfl, newRuns0⟩
 obtain ⟨a, b, rfl, rfl, ok⟩ := ok_of h0
 have e1 : rowsSpec ⟨a, b, l⟩ = (allR (rowO ⟨a, b, l⟩) a b, 0) := by simp [rowsSpec, h0]
 rw [e1]
 have ha := ok.wa
 have hb := ok.hb
 haveI : Fits a b l := ⟨ok.sized⟩
 try simp only [↓nrmL, nrmZ, Nat.reduceEqDiff, ↓reduceIte, h0, bne]
 refine sq ?_
 refine rg fun KF hKF => ?_
 refine Fo.boxA rfl ?_
 refine mN rfl ?_
 refine mI rfl ?_
 refine WpO.nil (hKF _ _ ?_)
 refine sq ?_
 refine sq ?_
 refine rg fun KF hKF => ?_
 refine Fo.ldN rfl rfl (by simp only [↓nrmL, nrmZ, Nat.reduceEqDiff, ↓reduceIte, h0, bne]; rfl) ?_
 refine Fo.pcall (v' := ?_) hn rfl (by simp only [↓nrmL, nrmZ, Nat.reduceEqDiff, ↓reduceIte, h0, bne, List.map]; rfl) rfl ?hv fun _ _ => ?_; case hv => rfl
 refine mI rfl ?_
 refine WpO.nil (hKF _ _ ?_)
 refine sq ?_
 refine rg fun KF hKF => ?_
 refine mI rfl ?_
 refine Fo.bin rfl rfl rfl (by simp only [↓nrmL, nrmZ, Nat.reduceEqDiff, ↓reduceIte, h0, bne]; rfl) ?_
 refine WpO.nil (hKF _ _ ?_)
 refine Wp.cond (b := false) rfl ?_
 refine Wp.skip ?_
 refine sq ?_
 refine rg fun KF hKF => ?_
 refine Fo.new ?_
 refine WpO.nil (hKF _ _ ?_)
 refine sq ?_
 refine sq ?_
 refine rg fun KF hKF => ?_
 refine Fo.fa rfl ?_
 refine Fo.ld rfl rfl ?_
 refine Fo.fa rfl ?_
 refine Fo.ld rfl rfl ?_
 refine Fo.now rfl rfl (by simp only [↓nrmL, nrmZ, Nat.reduceEqDiff, ↓reduceIte, h0, bne]; rfl) ?_
 rename AHeap => H1
 refine WpO.do (WpX.conD hn rfl rfl (by simp only [↓nrmL, nrmZ, Nat.reduceEqDiff, ↓reduceIte, List.map] <;> rfl) (K_runs (x := b) (y := a) (F := 109) (cap := .ptr H.n 0)) fun v H2 h5 => ?_)
 obtain ⟨r1, r2, r3, e2, k1, k2, k3, hx2, g1, g2, g3⟩ := h5
 subst e2
 haveI : ExtI _ H2 := ⟨hx2⟩
 have hH1 : H.n < H1.n := (inferInstance : LtN H.n H1).lt
 have kl : HasRow H2 H1.n [.nslice] true (2 * 58) := inferInstance
 have kg : HasRow H2 H.n [.int .i64 a, .int .i64 b, p] true (2 * 24) := inferInstance
 have kb : BytesI H2 p l := inferInstance
 have kne : RowNe p H1.n := inferInstance
 have hx02 : Ext H H2 := Ext0.ext
 simp only [AHeap.push] at g1 g2 g3
 have key : ∀ fr : AFrame, fr 5 = .ptr H1.n 0 → ∃ v H3, callN ext prog n 149 [.yield (H2.n + 1), .ptr r1 0, .ptr r2 0, .ptr r3 0] ((H2.push .dead).push (.loop (rndL H2.n fr))) = some (v, H3) ∧ JR H2 H1.n (H2.n + 1) (rndL H2.n fr) (allR (rowO ⟨a, b, l⟩) a b) H3 := fun fr h5 =>
  K_iter (lines := b) (len := a) (r := H2.n + 1) (F := 109) (cap := .ptr H.n 0) (o := rowO ⟨a, b, l⟩) (J := JR H2 H1.n (H2.n + 1) (rndL H2.n fr)) (D := 1) (by omega) (by omega)
   (fun acc H4 hJ => ⟨hJ.row k1 (by omega), hJ.row k2 (by omega), hJ.row k3 (by omega)⟩)
   (fun acc H4 H5 hJ x => hJ.more x)
   (fun acc H4 hJ c i _ _ => by
    haveI := hJ.row kg (by omega)
    haveI := hJ.bytes kb kne
    exact (inferInstance : PureCon ext prog 109 [.int .i64 c, .int .i64 i, .ptr H.n 0] H4 2 (.bool (inkB a b l i c))))
   (fun acc H4 hJ hlen c d e m hm => round_rows h5 kl.lt (Nat.le_succ _) hJ hlen hm)
   (JR.start kl) n (by omega)
 have key2 : ∀ (fr : AFrame) (P : AVal → AHeap → RLoop → Prop), fr 5 = .ptr H1.n 0 → (∀ v H3, JR H2 H1.n (H2.n + 1) (rndL H2.n fr) (allR (rowO ⟨a, b, l⟩) a b) H3 → P v H3 (rndL H2.n fr)) →
   ∃ v H3 R, callN ext prog n 149 ([] ++ [.yield (H2.n + 1)] ++ [.ptr r1 0, .ptr r2 0, .ptr r3 0]) ((H2.push .dead).push (.loop ⟨H2.n, 24, fr, [18], rndA, rndB, 0, .normal⟩)) = some (v, H3) ∧ H3.get (H2.n + 1) = .loop R ∧ (Nat.beq R.st 1 || Nat.beq R.st 4) = false ∧ P v H3 R := fun fr P h5 hP => by
  obtain ⟨v, H3, e3, hJ⟩ := key fr h5
  exact ⟨v, H3, rndL H2.n fr, e3, hJ.loop.get, rfl, hP v H3 hJ⟩
 refine WpO.nil (hKF _ _ ?_)
 refine Wp.block ?_
 dsimp only [cond_true, cond_false]
 refine Wp.range (gf := 149) (fi := []) (ca := [.ptr r1 0, .ptr r2 0, .ptr r3 0]) (vs := []) rfl rfl rfl ?_
 refine key2 _ _ rfl fun v H3 hJ => ?_
 obtain ⟨q, e, c1, c2, c3, c4⟩ := hJ.cell
 haveI := hJ.loop
 haveI hnq := own_ne c2 hJ.loop
 haveI := c2.sl.one
 haveI : NeR H1.n (H2.n + 1) := ⟨by have := kl.lt; omega⟩
 have hx03 := hJ.ext hx02 (by omega)
 have hHn := hx02.n
 refine sq ?_
 refine rg fun KF hKF => ?_
 refine Fo.ld rfl rfl ?_
 refine Fo.mov (by simp only [↓nrmL, nrmK, Nat.reduceEqDiff, ↓reduceIte]; rfl) ?_
 refine mI rfl ?_
 refine WpO.nil (hKF _ _ ?_)
 refine Wp.ret ?_
 dsimp only [cond_true, cond_false]
 refine ⟨trivial, _, takeMarks1 (d := H2.n) (l := H2.n + 1) inferInstance rfl rfl, _, rfl, q, rfl, inferInstance, c4.weak, ?_⟩
 refine ⟨hx03.n, fun s hs => ?_⟩
 rw [set_get_ne (by omega), set_get_ne (by omega)]
 exact hx03.get s hs
theorem K_Columns {p : AVal} {H : AHeap} {w h : Int} {l : List UInt8} [hp : BytesI H p l] : Con ext prog 7 45 [.agg [.int .i64 w, .int .i64 h, p]] H fun v H' => RunsRes H H' v (colsSpec ⟨w, h, l⟩) := by
 refine con_ofR (show prog 45 = some c45 from rfl) rfl rfl fun n hn => ?_
 haveI := hp.one
 cases h0 : (Img.err ⟨w, h, l⟩ == 0)
 ·have e1 : colsSpec ⟨w, h, l⟩ = ([], Img.err ⟨w, h, l⟩) := by simp [colsSpec, h0]
  rw [e1]
  try simp only [↓nrmL, nrmZ, Nat.reduceEqDiff, ↓reduceIte, h0, bne]
  refine sq ?_
  refine rg fun KF hKF => ?_
  refine Fo.boxA rfl ?_
  refine mN rfl ?_
  refine mI rfl ?_
  refine WpO.nil (hKF _ _ ?_)
  refine sq ?_
  refine sq ?_
  refine rg fun KF hKF => ?_
  refine Fo.ldN rfl rfl (by simp only [↓nrmL, nrmZ, Nat.reduceEqDiff, ↓reduceIte, h0, bne]; rfl) ?_
  refine Fo.pcall (v' := ?_) hn rfl (by simp only [↓nrmL, nrmZ, Nat.reduceEqDiff, ↓reduceIte, h0, bne, List.map]; rfl) rfl ?hv fun _ _ => ?_; case hv => rfl
  refine mI rfl ?_
  refine WpO.nil (hKF _ _ ?_)
  refine sq ?_
  refine rg fun KF hKF => ?_
  refine mI rfl ?_
  refine Fo.bin rfl rfl rfl (by simp only [↓nrmL, nrmZ, Nat.reduceEqDiff, ↓reduceIte, h0, bne]; rfl) ?_
  refine WpO.nil (hKF _ _ ?_)
  refine Wp.cond (b := true) rfl ?_
  refine sq ?_
  refine rg fun KF hKF => ?_
  refine mI rfl ?_
  refine mN rfl ?_
  refine mI rfl ?_
  refine WpO.nil (hKF _ _ ?_)
  refine Wp.ret ?_
  dsimp only [cond_true, cond_false]
  exact ⟨trivial, _, rfl, _, rfl, _, rfl, newRuns0⟩
 obtain ⟨a, b, rfl, rfl, ok⟩ := ok_of h0
 have e1 : colsSpec ⟨a, b, l⟩ = (allR (colO ⟨a, b, l⟩) b a, 0) := by simp [colsSpec, h0]
 rw [e1]
 have ha := ok.wa
 have hb := ok.hb
 haveI : Fits a b l := ⟨ok.sized⟩
 try simp only [↓nrmL, nrmZ, Nat.reduceEqDiff, ↓reduceIte, h0, bne]
 refine sq ?_
 refine rg fun KF hKF => ?_
 refine Fo.boxA rfl ?_
 refine mN rfl ?_
 refine mI rfl ?_
 refine WpO.nil (hKF _ _ ?_)
 refine sq ?_
 refine sq ?_
 refine rg fun KF hKF => ?_
 refine Fo.ldN rfl rfl (by simp only [↓nrmL, nrmZ, Nat.reduceEqDiff, ↓reduceIte, h0, bne]; rfl) ?_
 refine Fo.pcall (v' := ?_) hn rfl (by simp only [↓nrmL, nrmZ, Nat.reduceEqDiff, ↓reduceIte, h0, bne, List.map]; rfl) rfl ?hv fun _ _ => ?_; case hv => rfl
 refine mI rfl ?_
 refine WpO.nil (hKF _ _ ?_)
 refine sq ?_
 refine rg fun KF hKF => ?_
 refine mI rfl ?_
 refine Fo.bin rfl rfl rfl (by simp only [↓nrmL, nrmZ, Nat.reduceEqDiff, ↓reduceIte, h0, bne]; rfl) ?_
 refine WpO.nil (hKF _ _ ?_)
 refine Wp.cond (b := false) rfl ?_
 refine Wp.skip ?_
 refine sq ?_
 refine rg fun KF hKF => ?_
 refine Fo.new ?_
 refine WpO.nil (hKF _ _ ?_)
 refine sq ?_
 refine sq ?_
 refine rg fun KF hKF => ?_
 refine Fo.fa rfl ?_
 refine Fo.ld rfl rfl ?_
 refine Fo.fa rfl ?_
 refine Fo.ld rfl rfl ?_
 refine Fo.now rfl rfl (by simp only [↓nrmL, nrmZ, Nat.reduceEqDiff, ↓reduceIte, h0, bne]; rfl) ?_
 rename AHeap => H1
 refine WpO.do (WpX.conD hn rfl rfl (by simp only [↓nrmL, nrmZ, Nat.reduceEqDiff, ↓reduceIte, List.map] <;> rfl) (K_runs (x := a) (y := b) (F := 110) (cap := .ptr H.n 0)) fun v H2 h5 => ?_)
 obtain ⟨r1, r2, r3, e2, k1, k2, k3, hx2, g1, g2, g3⟩ := h5
 subst e2
 haveI : ExtI _ H2 := ⟨hx2⟩
 have hH1 : H.n < H1.n := (inferInstance : LtN H.n H1).lt
 have kl : HasRow H2 H1.n [.nslice] true (2 * 58) := inferInstance
 have kg : HasRow H2 H.n [.int .i64 a, .int .i64 b, p] true (2 * 24) := inferInstance
 have kb : BytesI H2 p l := inferInstance
 have kne : RowNe p H1.n := inferInstance
 have hx02 : Ext H H2 := Ext0.ext
 simp only [AHeap.push] at g1 g2 g3
 have key : ∀ fr : AFrame, fr 5 = .ptr H1.n 0 → ∃ v H3, callN ext prog n 149 [.yield (H2.n + 1), .ptr r1 0, .ptr r2 0, .ptr r3 0] ((H2.push .dead).push (.loop (rndL H2.n fr))) = some (v, H3) ∧ JR H2 H1.n (H2.n + 1) (rndL H2.n fr) (allR (colO ⟨a, b, l⟩) b a) H3 := fun fr h5 =>
  K_iter (lines := a) (len := b) (r := H2.n + 1) (F := 110) (cap := .ptr H.n 0) (o := colO ⟨a, b, l⟩) (J := JR H2 H1.n (H2.n + 1) (rndL H2.n fr)) (D := 1) (by omega) (by omega)
   (fun acc H4 hJ => ⟨hJ.row k1 (by omega), hJ.row k2 (by omega), hJ.row k3 (by omega)⟩)
   (fun acc H4 H5 hJ x => hJ.more x)
   (fun acc H4 hJ c i _ _ => by
    haveI := hJ.row kg (by omega)
    haveI := hJ.bytes kb kne
    exact (inferInstance : PureCon ext prog 110 [.int .i64 c, .int .i64 i, .ptr H.n 0] H4 2 (.bool (inkB a b l c i))))
   (fun acc H4 hJ hlen c d e m hm => round_rows h5 kl.lt (Nat.le_succ _) hJ hlen hm)
   (JR.start kl) n (by omega)
 have key2 : ∀ (fr : AFrame) (P : AVal → AHeap → RLoop → Prop), fr 5 = .ptr H1.n 0 → (∀ v H3, JR H2 H1.n (H2.n + 1) (rndL H2.n fr) (allR (colO ⟨a, b, l⟩) b a) H3 → P v H3 (rndL H2.n fr)) →
   ∃ v H3 R, callN ext prog n 149 ([] ++ [.yield (H2.n + 1)] ++ [.ptr r1 0, .ptr r2 0, .ptr r3 0]) ((H2.push .dead).push (.loop ⟨H2.n, 24, fr, [18], rndA, rndB, 0, .normal⟩)) = some (v, H3) ∧ H3.get (H2.n + 1) = .loop R ∧ (Nat.beq R.st 1 || Nat.beq R.st 4) = false ∧ P v H3 R := fun fr P h5 hP => by
  obtain ⟨v, H3, e3, hJ⟩ := key fr h5
  exact ⟨v, H3, rndL H2.n fr, e3, hJ.loop.get, rfl, hP v H3 hJ⟩
 refine WpO.nil (hKF _ _ ?_)
 refine Wp.block ?_
 dsimp only [cond_true, cond_false]
 refine Wp.range (gf := 149) (fi := []) (ca := [.ptr r1 0, .ptr r2 0, .ptr r3 0]) (vs := []) rfl rfl rfl ?_
 refine key2 _ _ rfl fun v H3 hJ => ?_
 obtain ⟨q, e, c1, c2, c3, c4⟩ := hJ.cell
 haveI := hJ.loop
 haveI hnq := own_ne c2 hJ.loop
 haveI := c2.sl.one
 haveI : NeR H1.n (H2.n + 1) := ⟨by have := kl.lt; omega⟩
 have hx03 := hJ.ext hx02 (by omega)
 have hHn := hx02.n
 refine sq ?_
 refine rg fun KF hKF => ?_
 refine Fo.ld rfl rfl ?_
 refine Fo.mov (by simp only [↓nrmL, nrmK, Nat.reduceEqDiff, ↓reduceIte]; rfl) ?_
 refine mI rfl ?_
 refine WpO.nil (hKF _ _ ?_)
 refine Wp.ret ?_
 dsimp only [cond_true, cond_false]
 refine ⟨trivial, _, takeMarks1 (d := H2.n) (l := H2.n + 1) inferInstance rfl rfl, _, rfl, q, rfl, inferInstance, c4.weak, ?_⟩
 refine ⟨hx03.n, fun s hs => ?_⟩
 rw [set_get_ne (by omega), set_get_ne (by omega)]
 exact hx03.get s hs
end Go.Am

set_option maxHeartbeats 4000000
set_option maxRecDepth 100000
set_option synthInstance.maxHeartbeats 4000000
set_option synthInstance.maxSize 100000
namespace Go.Am
open Go
attribute [local irreducible] Wp WpO WpX WpE

/-- Ink at the pixel before. -/
theorem ink_before {a b x y : Nat} {l : List UInt8} (hx : x < a) (hy : y < b) : inkB a b l ((x : Int) - 1) y = (decide (0 < x) && inkB a b l ((x - 1 : Nat) : Int) y) := by
 cases x with
 | zero =>
  have h1 : decide (((0 : Nat) : Int) - 1 ≥ 0) = false := rfl
  simp only [inkB, h1, Bool.false_and]
  rfl
 | succ x =>
  rw [show (((x + 1 : Nat) : Int) - 1) = ((x + 1 - 1 : Nat) : Int) by omega]
  simp
theorem ink_out {a b x y : Nat} {l : List UInt8} (hx : ¬ x < a) : inkB a b l x y = false := by
 have h1 : decide ((x : Int) < (a : Int)) = false := decide_eq_false (by omega)
 simp only [inkB, h1, Bool.false_and, Bool.and_false]
theorem K_refRows {a b : Nat} {p : AVal} {H : AHeap} {l : List UInt8} [hp : BytesI H p l] (ok : Ok a b l) : Con ext prog 3 50 [.agg [.int .i64 a, .int .i64 b, p]] H fun v H' => NewRuns H H' v (allR (rowO ⟨a, b, l⟩) a b) := by
 refine con_of (show prog 50 = some c50 from rfl) rfl rfl fun n hn => ?_
 haveI := hp.one
 have ha := ok.wa
 have hb := ok.hb
 haveI : Fits a b l := ⟨ok.sized⟩
 refine sq ?_
 refine rg fun KF hKF => ?_
 refine Fo.boxA rfl ?_
 refine mN rfl ?_
 refine WpO.nil (hKF _ _ ?_)
 refine sq ?_
 refine rg fun KF hKF => ?_
 refine mN rfl ?_
 refine WpO.nil (hKF _ _ ?_)
 refine sq ?_
 refine sq ?_
 refine rg fun KF hKF => ?_
 refine mI rfl ?_
 refine WpO.nil (hKF _ _ ?_)
 refine Wp.block ?_
 dsimp only [cond_true, cond_false]
 generalize hHh : H.push (.row [.int .i64 a, .int .i64 b, p] true (2 * 24)) = Hh
 haveI hx0 : ExtI H Hh := ⟨by rw [← hHh]; exact (Ext.refl H).push _⟩
 haveI hrow : HasRow Hh H.n [.int .i64 a, .int .i64 b, p] true (2 * 24) := by rw [← hHh]; infer_instance
 refine Wp.loopS [3, 4, 5, 6, 7, 8, 9, 10, 11, 12, 13, 14, 15, 16, 17, 18, 19, 20, 21, 22, 23, 24, 25, 26, 27, 28, 29, 30, 31, 32, 33, 34, 35, 36, 37, 38, 39, 40, 41, 42, 43, 44, 45] (fun s : Nat × AVal => [(4, .int .i64 s.1), (3, s.2)]) (fun _ s H2 => s.1 ≤ b ∧ OwnS H2 s.2 3 (allR (rowO ⟨a, b, l⟩) a s.1).length (cellsR (allR (rowO ⟨a, b, l⟩) a s.1)) 61 ∧ FreshS Hh s.2 ∧ Ext Hh H2) (fun s => b - s.1) (0, .nslice) rfl (fun _ => rfl) ⟨rfl, rfl, trivial⟩ ⟨Nat.zero_le _, ⟨Or.inl ⟨rfl, rfl, rfl⟩⟩, ⟨fun _ _ _ _ _ e => by cases e⟩, Ext.refl _⟩ (by unfold fuel0 at hn; omega) ?_
 rintro ⟨y, q⟩ g H2 ⟨hy, ho, hf, hx2⟩
 dsimp only at hy ho hf ⊢
 haveI : ExtI Hh H2 := ⟨hx2⟩
 haveI := ho.sl.one
 have hal := allR_len (rowO ⟨a, b, l⟩) a y
 simp only [↓nrmL, nrmZ, Nat.reduceEqDiff, ↓reduceIte, Nat.reduceAdd, Int.reduceBEq, Int.reduceBNe]
 cases hc : decide ((y : Int) < (b : Int))
 ·have hyb : y = b := by have := of_decide_eq_false hc; omega
  subst hyb
  try simp only [↓nrmL, nrmZ, Nat.reduceEqDiff, ↓reduceIte, Nat.reduceAdd, Int.reduceBEq, Int.reduceBNe, hc]
  refine sq ?_
  refine sq ?_
  refine rg fun KF hKF => ?_
  refine mI rfl ?_
  refine Fo.fa rfl ?_
  refine Fo.ld rfl rfl ?_
  refine Fo.bin rfl rfl rfl (by simp only [↓nrmL, nrmZ, Nat.reduceEqDiff, ↓reduceIte, Nat.reduceAdd, Int.reduceBEq, Int.reduceBNe, hc]; rfl) ?_
  refine WpO.nil (hKF _ _ ?_)
  refine Wp.cond (b := false) rfl ?_
  refine Wp.exit ?_
  refine sq ?_
  refine rg fun KF hKF => ?_
  refine Fo.mov (by simp only [↓nrmL, nrmK, Nat.reduceEqDiff, ↓reduceIte]; rfl) ?_
  refine Fo.mov (by simp only [↓nrmL, nrmK, Nat.reduceEqDiff, ↓reduceIte]; rfl) ?_
  refine WpO.nil (hKF _ _ ?_)
  refine Wp.ret ?_
  dsimp only [cond_true, cond_false]
  refine ⟨trivial, _, rfl, ?_⟩
  exact ⟨ho, hf.weak, Ext0.ext⟩
 have hyb : y < b := by have := of_decide_eq_true hc; omega
 have hw1 := wa1 (a := y) (by omega)
 have hmul : (y + 1) * a ≤ 640 * 640 := Nat.mul_le_mul (by omega) ha
 rw [Nat.add_mul, Nat.one_mul] at hmul
 try simp only [↓nrmL, nrmZ, Nat.reduceEqDiff, ↓reduceIte, Nat.reduceAdd, Int.reduceBEq, Int.reduceBNe, hc]
 refine sq ?_
 refine sq ?_
 refine rg fun KF hKF => ?_
 refine mI rfl ?_
 refine Fo.fa rfl ?_
 refine Fo.ld rfl rfl ?_
 refine Fo.bin rfl rfl rfl (by simp only [↓nrmL, nrmZ, Nat.reduceEqDiff, ↓reduceIte, Nat.reduceAdd, Int.reduceBEq, Int.reduceBNe, hc]; rfl) ?_
 refine WpO.nil (hKF _ _ ?_)
 refine Wp.cond (b := true) rfl ?_
 refine Wp.skip ?_
 refine sq ?_
 refine Wp.block ?_
 refine sq ?_
 refine rg fun KF hKF => ?_
 refine mI rfl ?_
 refine WpO.nil (hKF _ _ ?_)
 refine Wp.block ?_
 dsimp only [cond_true, cond_false]
 refine Wp.loopS [3, 5, 6, 13, 14, 15, 16, 17, 18, 19, 20, 21, 22, 23, 24, 25, 26, 27, 28, 29, 30, 31, 32, 33, 34, 35, 36, 37, 38, 39, 40, 41, 42, 43, 44, 45] (fun s : Nat × AVal => [(5, .int .i64 s.1), (3, s.2)]) (fun _ s H3 => s.1 ≤ a ∧ OwnS H3 s.2 3 (allR (rowO ⟨a, b, l⟩) a y ++ preR (rowO ⟨a, b, l⟩) a y s.1).length (cellsR (allR (rowO ⟨a, b, l⟩) a y ++ preR (rowO ⟨a, b, l⟩) a y s.1)) 61 ∧ FreshS Hh s.2 ∧ Ext Hh H3) (fun s => a - s.1) (0, q) rfl (fun _ => rfl) ⟨rfl, rfl, trivial⟩ ⟨Nat.zero_le _, by rw [preR_zero, List.append_nil]; exact ho, hf, hx2⟩ (by unfold fuel0 at hn; omega) ?_
 rintro ⟨x, q2⟩ g2 H3 ⟨hx, ho3, hf3, hx3⟩
 dsimp only at hx ho3 hf3 ⊢
 haveI : ExtI Hh H3 := ⟨hx3⟩
 haveI := ho3.sl.one
 have hpl := preR_len (rowO ⟨a, b, l⟩) a y x
 simp only [↓nrmL, nrmZ, Nat.reduceEqDiff, ↓reduceIte, Nat.reduceAdd, Int.reduceBEq, Int.reduceBNe]
 cases hc2 : decide ((x : Int) < (a : Int))
 ·have hxa : x = a := by have := of_decide_eq_false hc2; omega
  try simp only [↓nrmL, nrmZ, Nat.reduceEqDiff, ↓reduceIte, Nat.reduceAdd, Int.reduceBEq, Int.reduceBNe, hc2]
  refine sq ?_
  refine sq ?_
  refine rg fun KF hKF => ?_
  refine mI rfl ?_
  refine Fo.fa rfl ?_
  refine Fo.ld rfl rfl ?_
  refine Fo.bin rfl rfl rfl (by simp only [↓nrmL, nrmZ, Nat.reduceEqDiff, ↓reduceIte, Nat.reduceAdd, Int.reduceBEq, Int.reduceBNe, hc2]; rfl) ?_
  refine WpO.nil (hKF _ _ ?_)
  refine Wp.cond (b := false) rfl ?_
  refine Wp.exit ?_
  refine rg fun KF hKF => ?_
  refine mI rfl ?_
  refine Fo.bin rfl rfl rfl rfl ?_
  refine mI rfl ?_
  refine WpO.nil (hKF _ _ ?_)
  dsimp only [cond_true, cond_false]
  refine ⟨(y + 1, q2), by dsimp only; omega, ⟨by simp only [↓nrmL, nrmZ, Nat.reduceEqDiff, ↓reduceIte, Nat.reduceAdd, Int.reduceBEq, Int.reduceBNe]; rw [hw1], rfl, trivial⟩, hyb, ?_, hf3, hx3⟩
  dsimp only
  rw [allR_succ]
  exact hxa ▸ ho3
 have hxa : x < a := by have := of_decide_eq_true hc2; omega
 have hw2 := wa1 (a := x) (by omega)
 have hw0 : IntKind.i64.wrap ((x : Int) - 1) = (x : Int) - 1 := w64 (by omega)
 have hbef := ink_before (l := l) hxa hyb
 cases h1 : inkB a b l x y
 ·have hst : startB (rowO ⟨a, b, l⟩ y) x = false := by unfold startB; rw [show rowO ⟨a, b, l⟩ y x = false from h1]; rfl
  try simp only [↓nrmL, nrmZ, Nat.reduceEqDiff, ↓reduceIte, Nat.reduceAdd, Int.reduceBEq, Int.reduceBNe, hc2, h1]
  refine sq ?_
  refine sq ?_
  refine rg fun KF hKF => ?_
  refine mI rfl ?_
  refine Fo.fa rfl ?_
  refine Fo.ld rfl rfl ?_
  refine Fo.bin rfl rfl rfl (by simp only [↓nrmL, nrmZ, Nat.reduceEqDiff, ↓reduceIte, Nat.reduceAdd, Int.reduceBEq, Int.reduceBNe, hc2, h1]; rfl) ?_
  refine WpO.nil (hKF _ _ ?_)
  refine Wp.cond (b := true) rfl ?_
  refine Wp.skip ?_
  refine sq ?_
  refine Wp.block ?_
  refine sq ?_
  refine sq ?_
  refine rg fun KF hKF => ?_
  refine Fo.ldN rfl rfl (by simp only [↓nrmL, nrmZ, Nat.reduceEqDiff, ↓reduceIte, Nat.reduceAdd, Int.reduceBEq, Int.reduceBNe, hc2, h1]; rfl) ?_
  refine mI rfl ?_
  refine mI rfl ?_
  refine Fo.pcall (v' := ?_) hn rfl (by simp only [↓nrmL, nrmZ, Nat.reduceEqDiff, ↓reduceIte, Nat.reduceAdd, Int.reduceBEq, Int.reduceBNe, hc2, h1, List.map]; rfl) rfl ?hv fun _ _ => ?_; case hv => (simp only [↓nrmL, nrmZ, Nat.reduceEqDiff, ↓reduceIte, Nat.reduceAdd, Int.reduceBEq, Int.reduceBNe, hc2, h1]; rfl)
  refine Fo.now rfl rfl (by simp only [↓nrmL, nrmZ, Nat.reduceEqDiff, ↓reduceIte, Nat.reduceAdd, Int.reduceBEq, Int.reduceBNe, hc2, h1]; rfl) ?_
  refine mB rfl ?_
  refine Fo.no rfl rfl ?_
  refine Fo.no rfl rfl ?_
  refine Fo.no rfl rfl ?_
  refine Fo.no rfl rfl ?_
  refine Fo.no rfl rfl ?_
  refine tB rfl rfl ?_
  refine WpO.nil (hKF _ _ ?_)
  refine Wp.cond (b := true) rfl ?_
  refine Wp.exit ?_
  refine rg fun KF hKF => ?_
  refine mI rfl ?_
  refine Fo.bin rfl rfl rfl rfl ?_
  refine mI rfl ?_
  refine WpO.nil (hKF _ _ ?_)
  dsimp only [cond_true, cond_false]
  refine ⟨(x + 1, q2), by dsimp only; omega, ⟨by simp only [↓nrmL, nrmZ, Nat.reduceEqDiff, ↓reduceIte, Nat.reduceAdd, Int.reduceBEq, Int.reduceBNe]; rw [hw2], rfl, trivial⟩, hxa, ?_, hf3, (inferInstance : Ext0 Hh _).ext⟩
  dsimp only
  rw [preR_off hst]
  infer_instance
 cases h2 : inkB a b l ((x : Int) - 1) y
 rotate_left
 ·have hst : startB (rowO ⟨a, b, l⟩ y) x = false := by
   rw [h2] at hbef
   unfold startB
   rw [show (decide (0 < x) && rowO ⟨a, b, l⟩ y (x - 1)) = true from hbef.symm]
   simp
  try simp only [↓nrmL, nrmZ, Nat.reduceEqDiff, ↓reduceIte, Nat.reduceAdd, Int.reduceBEq, Int.reduceBNe, hc2, h1, hw0, h2]
  refine sq ?_
  refine sq ?_
  refine rg fun KF hKF => ?_
  refine mI rfl ?_
  refine Fo.fa rfl ?_
  refine Fo.ld rfl rfl ?_
  refine Fo.bin rfl rfl rfl (by simp only [↓nrmL, nrmZ, Nat.reduceEqDiff, ↓reduceIte, Nat.reduceAdd, Int.reduceBEq, Int.reduceBNe, hc2, h1, hw0, h2]; rfl) ?_
  refine WpO.nil (hKF _ _ ?_)
  refine Wp.cond (b := true) rfl ?_
  refine Wp.skip ?_
  refine sq ?_
  refine Wp.block ?_
  refine sq ?_
  refine sq ?_
  refine rg fun KF hKF => ?_
  refine Fo.ldN rfl rfl (by simp only [↓nrmL, nrmZ, Nat.reduceEqDiff, ↓reduceIte, Nat.reduceAdd, Int.reduceBEq, Int.reduceBNe, hc2, h1, hw0, h2]; rfl) ?_
  refine mI rfl ?_
  refine mI rfl ?_
  refine Fo.pcall (v' := ?_) hn rfl (by simp only [↓nrmL, nrmZ, Nat.reduceEqDiff, ↓reduceIte, Nat.reduceAdd, Int.reduceBEq, Int.reduceBNe, hc2, h1, hw0, h2, List.map]; rfl) rfl ?hv fun _ _ => ?_; case hv => (simp only [↓nrmL, nrmZ, Nat.reduceEqDiff, ↓reduceIte, Nat.reduceAdd, Int.reduceBEq, Int.reduceBNe, hc2, h1, hw0, h2]; rfl)
  refine Fo.now rfl rfl (by simp only [↓nrmL, nrmZ, Nat.reduceEqDiff, ↓reduceIte, Nat.reduceAdd, Int.reduceBEq, Int.reduceBNe, hc2, h1, hw0, h2]; rfl) ?_
  refine mB rfl ?_
  refine Fo.yes rfl rfl ?_
  refine Fo.ldN rfl rfl (by simp only [↓nrmL, nrmZ, Nat.reduceEqDiff, ↓reduceIte, Nat.reduceAdd, Int.reduceBEq, Int.reduceBNe, hc2, h1, hw0, h2]; rfl) ?_
  refine Fo.yes rfl rfl ?_
  refine mI rfl ?_
  refine Fo.yes rfl rfl ?_
  refine Fo.bin rfl rfl rfl (by simp only [↓nrmL, nrmZ, Nat.reduceEqDiff, ↓reduceIte, Nat.reduceAdd, Int.reduceBEq, Int.reduceBNe, hc2, h1, hw0, h2]; rfl) ?_
  refine Fo.yes rfl rfl ?_
  refine mI rfl ?_
  refine Fo.yes rfl rfl ?_
  refine Fo.pcall (v' := ?_) hn rfl (by simp only [↓nrmL, nrmZ, Nat.reduceEqDiff, ↓reduceIte, Nat.reduceAdd, Int.reduceBEq, Int.reduceBNe, hc2, h1, hw0, h2, List.map]; rfl) rfl ?hv fun _ _ => ?_; case hv => (simp only [↓nrmL, nrmZ, Nat.reduceEqDiff, ↓reduceIte, Nat.reduceAdd, Int.reduceBEq, Int.reduceBNe, hc2, h1, hw0, h2]; rfl)
  refine fB rfl rfl ?_
  refine WpO.nil (hKF _ _ ?_)
  refine Wp.cond (b := true) rfl ?_
  refine Wp.exit ?_
  refine rg fun KF hKF => ?_
  refine mI rfl ?_
  refine Fo.bin rfl rfl rfl rfl ?_
  refine mI rfl ?_
  refine WpO.nil (hKF _ _ ?_)
  dsimp only [cond_true, cond_false]
  refine ⟨(x + 1, q2), by dsimp only; omega, ⟨by simp only [↓nrmL, nrmZ, Nat.reduceEqDiff, ↓reduceIte, Nat.reduceAdd, Int.reduceBEq, Int.reduceBNe]; rw [hw2], rfl, trivial⟩, hxa, ?_, hf3, (inferInstance : Ext0 Hh _).ext⟩
  dsimp only
  rw [preR_off hst]
  infer_instance
 have hst : startB (rowO ⟨a, b, l⟩ y) x = true := by
  rw [h2] at hbef
  unfold startB
  rw [show (decide (0 < x) && rowO ⟨a, b, l⟩ y (x - 1)) = false from hbef.symm, show rowO ⟨a, b, l⟩ y x = true from h1]
  rfl
 try simp only [↓nrmL, nrmZ, Nat.reduceEqDiff, ↓reduceIte, Nat.reduceAdd, Int.reduceBEq, Int.reduceBNe, hc2, h1, hw0, h2]
 refine sq ?_
 refine sq ?_
 refine rg fun KF hKF => ?_
 refine mI rfl ?_
 refine Fo.fa rfl ?_
 refine Fo.ld rfl rfl ?_
 refine Fo.bin rfl rfl rfl (by simp only [↓nrmL, nrmZ, Nat.reduceEqDiff, ↓reduceIte, Nat.reduceAdd, Int.reduceBEq, Int.reduceBNe, hc2, h1, hw0, h2]; rfl) ?_
 refine WpO.nil (hKF _ _ ?_)
 refine Wp.cond (b := true) rfl ?_
 refine Wp.skip ?_
 refine sq ?_
 refine Wp.block ?_
 refine sq ?_
 refine sq ?_
 refine rg fun KF hKF => ?_
 refine Fo.ldN rfl rfl (by simp only [↓nrmL, nrmZ, Nat.reduceEqDiff, ↓reduceIte, Nat.reduceAdd, Int.reduceBEq, Int.reduceBNe, hc2, h1, hw0, h2]; rfl) ?_
 refine mI rfl ?_
 refine mI rfl ?_
 refine Fo.pcall (v' := ?_) hn rfl (by simp only [↓nrmL, nrmZ, Nat.reduceEqDiff, ↓reduceIte, Nat.reduceAdd, Int.reduceBEq, Int.reduceBNe, hc2, h1, hw0, h2, List.map]; rfl) rfl ?hv fun _ _ => ?_; case hv => (simp only [↓nrmL, nrmZ, Nat.reduceEqDiff, ↓reduceIte, Nat.reduceAdd, Int.reduceBEq, Int.reduceBNe, hc2, h1, hw0, h2]; rfl)
 refine Fo.now rfl rfl (by simp only [↓nrmL, nrmZ, Nat.reduceEqDiff, ↓reduceIte, Nat.reduceAdd, Int.reduceBEq, Int.reduceBNe, hc2, h1, hw0, h2]; rfl) ?_
 refine mB rfl ?_
 refine Fo.yes rfl rfl ?_
 refine Fo.ldN rfl rfl (by simp only [↓nrmL, nrmZ, Nat.reduceEqDiff, ↓reduceIte, Nat.reduceAdd, Int.reduceBEq, Int.reduceBNe, hc2, h1, hw0, h2]; rfl) ?_
 refine Fo.yes rfl rfl ?_
 refine mI rfl ?_
 refine Fo.yes rfl rfl ?_
 refine Fo.bin rfl rfl rfl (by simp only [↓nrmL, nrmZ, Nat.reduceEqDiff, ↓reduceIte, Nat.reduceAdd, Int.reduceBEq, Int.reduceBNe, hc2, h1, hw0, h2]; rfl) ?_
 refine Fo.yes rfl rfl ?_
 refine mI rfl ?_
 refine Fo.yes rfl rfl ?_
 refine Fo.pcall (v' := ?_) hn rfl (by simp only [↓nrmL, nrmZ, Nat.reduceEqDiff, ↓reduceIte, Nat.reduceAdd, Int.reduceBEq, Int.reduceBNe, hc2, h1, hw0, h2, List.map]; rfl) rfl ?hv fun _ _ => ?_; case hv => (simp only [↓nrmL, nrmZ, Nat.reduceEqDiff, ↓reduceIte, Nat.reduceAdd, Int.reduceBEq, Int.reduceBNe, hc2, h1, hw0, h2]; rfl)
 refine fB rfl rfl ?_
 refine WpO.nil (hKF _ _ ?_)
 refine Wp.cond (b := false) rfl ?_
 refine Wp.skip ?_
 refine sq ?_
 refine rg fun KF hKF => ?_
 refine mI rfl ?_
 refine mI rfl ?_
 refine WpO.nil (hKF _ _ ?_)
 refine sq ?_
 refine Wp.block ?_
 dsimp only [cond_true, cond_false]
 refine Wp.loopS [6, 32, 33, 34, 35, 36, 37, 38] (fun e : Nat => [(6, .int .i64 e)]) (fun _ e H5 => x ≤ e ∧ e < a ∧ (∀ t, x ≤ t → t ≤ e → rowO ⟨a, b, l⟩ y t = true) ∧ OwnS H5 q2 3 (allR (rowO ⟨a, b, l⟩) a y ++ preR (rowO ⟨a, b, l⟩) a y x).length (cellsR (allR (rowO ⟨a, b, l⟩) a y ++ preR (rowO ⟨a, b, l⟩) a y x)) 61 ∧ Ext Hh H5) (fun e => a - e) x rfl (fun _ => rfl) ⟨rfl, trivial⟩ ⟨Nat.le_refl _, hxa, fun t p q => by rw [show t = x by omega]; exact h1, inferInstance, (inferInstance : Ext0 Hh _).ext⟩ (by unfold fuel0 at hn; omega) ?_
 rintro e g3 H5 ⟨hxe, hea, hall, ho5, hx5⟩
 haveI : ExtI Hh H5 := ⟨hx5⟩
 have hw3 := wa1 (a := e) (by omega)
 simp only [↓nrmL, nrmZ, Nat.reduceEqDiff, ↓reduceIte, Nat.reduceAdd, Int.reduceBEq, Int.reduceBNe]
 cases h3 : inkB a b l ((e + 1 : Nat) : Int) y
 ·have hno : e + 1 < a → rowO ⟨a, b, l⟩ y (e + 1) = false := fun _ => h3
  try simp only [↓nrmL, nrmZ, Nat.reduceEqDiff, ↓reduceIte, Nat.reduceAdd, Int.reduceBEq, Int.reduceBNe, hw3, h3]
  refine sq ?_
  refine sq ?_
  refine rg fun KF hKF => ?_
  refine Fo.ldN rfl rfl (by simp only [↓nrmL, nrmZ, Nat.reduceEqDiff, ↓reduceIte, Nat.reduceAdd, Int.reduceBEq, Int.reduceBNe, hw3, h3]; rfl) ?_
  refine mI rfl ?_
  refine Fo.bin rfl rfl rfl (by simp only [↓nrmL, nrmZ, Nat.reduceEqDiff, ↓reduceIte, Nat.reduceAdd, Int.reduceBEq, Int.reduceBNe, hw3, h3]; rfl) ?_
  refine mI rfl ?_
  refine Fo.pcall (v' := ?_) hn rfl (by simp only [↓nrmL, nrmZ, Nat.reduceEqDiff, ↓reduceIte, Nat.reduceAdd, Int.reduceBEq, Int.reduceBNe, hw3, h3, List.map]; rfl) rfl ?hv fun _ _ => ?_; case hv => (simp only [↓nrmL, nrmZ, Nat.reduceEqDiff, ↓reduceIte, Nat.reduceAdd, Int.reduceBEq, Int.reduceBNe, hw3, h3]; rfl)
  refine WpO.nil (hKF _ _ ?_)
  refine Wp.cond (b := false) rfl ?_
  refine Wp.exit ?_
  refine rg fun KF hKF => ?_
  refine Fo.mov (by simp only [↓nrmL, nrmK, Nat.reduceEqDiff, ↓reduceIte]; rfl) ?_
  refine mI rfl ?_
  refine mI rfl ?_
  refine mI rfl ?_
  refine Fo.build (by repeat (first | refine aFill1 (by first | exact (rfl : _ = AVal.int _ _) | exact (rfl : _ = AVal.ptr _ _) | exact (rfl : _ = AVal.bool _) | exact (rfl : _ = AVal.agg _) | exact (rfl : _ = AVal.tuple _) | exact (rfl : _ = AVal.func _ _ _) | exact (rfl : _ = AVal.nslice) | ((try simp only [↓nrmL, nrmK, Nat.reduceEqDiff, ↓reduceIte]); rfl)) rfl ?_ | rfl)) (by simp only [↓nrmL, nrmZ, Nat.reduceEqDiff, ↓reduceIte, Nat.reduceAdd, Int.reduceBEq, Int.reduceBNe, hw3, h3]; rfl) ?_
  refine Fo.bslice rfl (by simp only [↓nrmL, nrmZ, Nat.reduceEqDiff, ↓reduceIte, Nat.reduceAdd, Int.reduceBEq, Int.reduceBNe, hw3, h3]; rfl) ?_
  rename AHeap => H6
  refine WpO.do (WpX.growX (p := q2) (q := .slice H6.n 0 1 (some 1) 3) (k := 1) (new := [.int .i64 y, .int .i64 x, .int .i64 e]) rfl rfl (by infer_instance) (by infer_instance) (by decide) (by decide) (by decide) (by rw [List.length_append]; omega) (by rfl) fun p' H7 ho7 hf7 hx7 => ?_)
  haveI := ho7.sl.one
  refine Fo.mov (by simp only [↓nrmL, nrmK, Nat.reduceEqDiff, ↓reduceIte]; rfl) ?_
  refine WpO.nil (hKF _ _ ?_)
  refine rg fun KF hKF => ?_
  refine mI rfl ?_
  refine Fo.bin rfl rfl rfl rfl ?_
  refine mI rfl ?_
  refine WpO.nil (hKF _ _ ?_)
  dsimp only [cond_true, cond_false]
  have hx06 : Ext Hh H6 := (inferInstance : Ext0 Hh H6).ext
  refine ⟨(x + 1, p'), by dsimp only; omega, ⟨by simp only [↓nrmL, nrmZ, Nat.reduceEqDiff, ↓reduceIte, Nat.reduceAdd, Int.reduceBEq, Int.reduceBNe]; rw [hw2], rfl, trivial⟩, hxa, ?_, ⟨fun _ _ _ _ _ q => ?_⟩, ⟨?_, fun s hs => ?_⟩⟩
  ·dsimp only
   rw [preR_on hst, runV, endB_eq hea hno hxe hall, ← List.append_assoc, List.length_append, cellsR_snoc]
   exact ho7
  ·have := hf7.ge _ _ _ _ _ q
   have := hx06.n
   simp only [AHeap.push] at *
   omega
  ·have := hx7.n
   have := hx06.n
   simp only [AHeap.push] at *
   omega
  ·have := hx06.n
   rw [hx7.get s (by simp only [AHeap.push]; omega) ⟨fun r' _ _ _ _ q => by have := hf3.ge _ _ _ _ _ q; omega⟩, push_get_lt (by omega), hx06.get s hs]
 ·have hlt : e + 1 < a := by
   by_cases q : e + 1 < a
   ·exact q
   ·rw [ink_out q] at h3; cases h3
  try simp only [↓nrmL, nrmZ, Nat.reduceEqDiff, ↓reduceIte, Nat.reduceAdd, Int.reduceBEq, Int.reduceBNe, hw3, h3]
  refine sq ?_
  refine sq ?_
  refine rg fun KF hKF => ?_
  refine Fo.ldN rfl rfl (by simp only [↓nrmL, nrmZ, Nat.reduceEqDiff, ↓reduceIte, Nat.reduceAdd, Int.reduceBEq, Int.reduceBNe, hw3, h3]; rfl) ?_
  refine mI rfl ?_
  refine Fo.bin rfl rfl rfl (by simp only [↓nrmL, nrmZ, Nat.reduceEqDiff, ↓reduceIte, Nat.reduceAdd, Int.reduceBEq, Int.reduceBNe, hw3, h3]; rfl) ?_
  refine mI rfl ?_
  refine Fo.pcall (v' := ?_) hn rfl (by simp only [↓nrmL, nrmZ, Nat.reduceEqDiff, ↓reduceIte, Nat.reduceAdd, Int.reduceBEq, Int.reduceBNe, hw3, h3, List.map]; rfl) rfl ?hv fun _ _ => ?_; case hv => (simp only [↓nrmL, nrmZ, Nat.reduceEqDiff, ↓reduceIte, Nat.reduceAdd, Int.reduceBEq, Int.reduceBNe, hw3, h3]; rfl)
  refine WpO.nil (hKF _ _ ?_)
  refine Wp.cond (b := true) rfl ?_
  refine Wp.skip ?_
  refine Wp.block ?_
  refine rg fun KF hKF => ?_
  refine mI rfl ?_
  refine Fo.bin rfl rfl rfl (by simp only [↓nrmL, nrmZ, Nat.reduceEqDiff, ↓reduceIte, Nat.reduceAdd, Int.reduceBEq, Int.reduceBNe, hw3, h3]; rfl) ?_
  refine mI rfl ?_
  refine WpO.nil (hKF _ _ ?_)
  dsimp only [cond_true, cond_false]
  refine ⟨e + 1, by omega, ⟨rfl, trivial⟩, by omega, hlt, fun t p q => ?_, inferInstance, (inferInstance : Ext0 Hh _).ext⟩
  by_cases ht : t ≤ e
  ·exact hall t p ht
  ·rw [show t = e + 1 by omega]; exact h3

/- rows and columns exchanged -/
def flpP (b y x k : Nat) : Bool := decide (k % b < y ∨ (k % b = y ∧ k / b < x))
def flipL (l : List UInt8) (a b : Nat) : List UInt8 := (List.range (b * a)).map fun k => l.getD ((k % b) * a + k / b) 0
theorem flpP_zero (b k : Nat) : flpP b 0 0 k = false := by
 have hz := Nat.zero_le (k / b)
 unfold flpP
 exact decide_eq_false (by omega)
theorem flp_iff {b x y k : Nat} (hy : y < b) : (k = x * b + y) ↔ (k % b = y ∧ k / b = x) := by
 constructor
 ·intro h
  subst h
  rw [Nat.mul_comm x b]
  exact ⟨by rw [Nat.mul_add_mod]; exact Nat.mod_eq_of_lt hy, by rw [Nat.mul_add_div (by omega), Nat.div_eq_of_lt hy, Nat.add_zero]⟩
 ·rintro ⟨h1, h2⟩
  have := Nat.div_add_mod k b
  rw [h1, h2, Nat.mul_comm] at this
  omega
theorem flpP_next {b x y k : Nat} (hy : y < b) : flpP b y (x + 1) k = true ↔ flpP b y x k = true ∨ k = x * b + y := by
 rw [flp_iff hy]
 have hz := Nat.zero_le (k / b)
 unfold flpP
 simp only [decide_eq_true_eq]
 omega
theorem flpP_row {a b y k : Nat} (hk : k < b * a) : flpP b (y + 1) 0 k = true ↔ flpP b y a k = true := by
 have hd : k / b < a := Nat.div_lt_of_lt_mul hk
 have hz := Nat.zero_le (k / b)
 unfold flpP
 simp only [decide_eq_true_eq]
 omega
theorem flpP_all {a b k : Nat} (hk : k < b * a) : flpP b b 0 k = true := by
 have hb : 0 < b := by
  rcases Nat.eq_zero_or_pos b with h0 | h0
  ·subst h0; rw [Nat.zero_mul] at hk; omega
  ·exact h0
 unfold flpP
 exact decide_eq_true (Or.inl (Nat.mod_lt k hb))
theorem K_refFlip {a b : Nat} {p : AVal} {H : AHeap} {l : List UInt8} [hp : BytesI H p l] (ok : Ok a b l) : Con ext prog 3 112 [.agg [.int .i64 a, .int .i64 b, p]] H fun v H' => NewInk H H' v ⟨b, a, flipL l a b⟩ := by
 refine con_of (show prog 112 = some c112 from rfl) rfl rfl fun n hn => ?_
 haveI := hp.one
 have ha := ok.wa
 have hb := ok.hb
 have hl := ok.len
 haveI : Fits a b l := ⟨ok.sized⟩
 have hm : a * b ≤ 640 * 640 := Nat.mul_le_mul ha hb
 have hmc : a * b = b * a := Nat.mul_comm a b
 refine sq ?_
 refine rg fun KF hKF => ?_
 refine Fo.boxA rfl ?_
 refine Fo.new ?_
 refine WpO.nil (hKF _ _ ?_)
 refine sq ?_
 refine rg fun KF hKF => ?_
 refine Fo.fa rfl ?_
 refine Fo.ld rfl rfl ?_
 refine Fo.fa rfl ?_
 refine Fo.ld rfl rfl ?_
 refine WpO.do (WpX.conD hn rfl rfl (by simp only [↓nrmL, nrmZ, Nat.reduceEqDiff, ↓reduceIte, List.map] <;> rfl) (K_refNew (w := b) (h := a) (by omega) (by omega)) fun v H1 h5 => ?_)
 obtain ⟨q, e2, hq, hf, hw, hx⟩ := h5
 subst e2
 haveI : ExtI _ H1 := ⟨hx⟩
 haveI := hq.one
 have hq : BytesI H1 q (List.replicate (b * a) 0) := hq
 refine Fo.new ?_
 refine Fo.st rfl (rfl : _ = AVal.agg _) rfl rfl rfl (by repeat (first | rfl | refine allOne_cons ?_)) (by simp only [↓nrmL, nrmZ, Nat.reduceEqDiff, ↓reduceIte]; rfl) ?_
 refine WpO.nil (hKF _ _ ?_)
 refine sq ?_
 refine sq ?_
 refine rg fun KF hKF => ?_
 refine mI rfl ?_
 refine WpO.nil (hKF _ _ ?_)
 refine Wp.block ?_
 dsimp only [cond_true, cond_false]
 refine Wp.loopS [4, 5, 11, 12, 13, 14, 15, 16, 17, 18, 19, 20, 21, 22, 23, 24, 25, 26, 27, 28, 29, 30] (fun y : Nat => [(4, .int .i64 y)]) (fun H3 y H2 => y ≤ b ∧ BytesI H2 q (fillP (flpP b y 0) (fun k => l.getD ((k % b) * a + k / b) 0) (b * a)) ∧ WrS H2 q ∧ ExtP0 H3 H2 q) (fun y => b - y) 0 rfl (fun _ => rfl) ⟨rfl, trivial⟩ ⟨Nat.zero_le _, by rw [fillP_none (fun k _ => flpP_zero b k)]; infer_instance, inferInstance, inferInstance⟩ (by unfold fuel0 at hn; omega) ?_
 rintro y g H2 ⟨hy, hb2, hw2, ⟨hx2⟩⟩
 simp only [↓nrmL, nrmZ, Nat.reduceEqDiff, ↓reduceIte]
 cases hc : decide ((y : Int) < (b : Int))
 ·have hyb : y = b := by have := of_decide_eq_false hc; omega
  subst hyb
  rw [fillP_all (fun k hk => flpP_all hk)] at hb2
  try simp only [↓nrmL, nrmZ, Nat.reduceEqDiff, ↓reduceIte, hc]
  refine sq ?_
  refine sq ?_
  refine rg fun KF hKF => ?_
  refine mI rfl ?_
  refine Fo.fa rfl ?_
  refine Fo.ld rfl rfl ?_
  refine Fo.bin rfl rfl rfl (by simp only [↓nrmL, nrmZ, Nat.reduceEqDiff, ↓reduceIte, hc]; rfl) ?_
  refine WpO.nil (hKF _ _ ?_)
  refine Wp.cond (b := false) rfl ?_
  refine Wp.exit ?_
  refine sq ?_
  refine rg fun KF hKF => ?_
  refine Fo.ldN rfl rfl (by simp only [↓nrmL, nrmZ, Nat.reduceEqDiff, ↓reduceIte, hc]; rfl) ?_
  refine Fo.st rfl (rfl : _ = AVal.agg _) rfl rfl rfl (by repeat (first | rfl | refine allOne_cons ?_)) (by simp only [↓nrmL, nrmZ, Nat.reduceEqDiff, ↓reduceIte, hc]; rfl) ?_
  refine WpO.nil (hKF _ _ ?_)
  refine Wp.ret ?_
  dsimp only [cond_true, cond_false]
  refine ⟨trivial, _, (getAllC rfl rfl rfl rfl), ?_⟩
  exact ⟨q, rfl, (show BytesI _ q (flipL l a y) from (inferInstance : BytesI _ q ((List.range (y * a)).map fun k => l.getD ((k % y) * a + k / y) 0))), hf.weak, inferInstance, Ext0.ext⟩
 ·have hyb : y < b := by have := of_decide_eq_true hc; omega
  have hw1 := wa1 (a := y) (by omega)
  have hr := row_le (a := a) hyb
  try simp only [↓nrmL, nrmZ, Nat.reduceEqDiff, ↓reduceIte, hc]
  refine sq ?_
  refine sq ?_
  refine rg fun KF hKF => ?_
  refine mI rfl ?_
  refine Fo.fa rfl ?_
  refine Fo.ld rfl rfl ?_
  refine Fo.bin rfl rfl rfl (by simp only [↓nrmL, nrmZ, Nat.reduceEqDiff, ↓reduceIte, hc]; rfl) ?_
  refine WpO.nil (hKF _ _ ?_)
  refine Wp.cond (b := true) rfl ?_
  refine Wp.skip ?_
  refine sq ?_
  refine Wp.block ?_
  refine sq ?_
  refine rg fun KF hKF => ?_
  refine mI rfl ?_
  refine WpO.nil (hKF _ _ ?_)
  refine Wp.block ?_
  dsimp only [cond_true, cond_false]
  refine Wp.loopS [5, 17, 18, 19, 20, 21, 22, 23, 24, 25, 26, 27, 28, 29, 30] (fun x : Nat => [(5, .int .i64 x)]) (fun H3 x H5 => x ≤ a ∧ BytesI H5 q (fillP (flpP b y x) (fun k => l.getD ((k % b) * a + k / b) 0) (b * a)) ∧ WrS H5 q ∧ ExtP0 H3 H5 q) (fun x => a - x) 0 rfl (fun _ => rfl) ⟨rfl, trivial⟩ ⟨Nat.zero_le _, inferInstance, inferInstance, inferInstance⟩ (by unfold fuel0 at hn; omega) ?_
  rintro x g2 H5 ⟨hx0, hb5, hw5, ⟨hx5⟩⟩
  simp only [↓nrmL, nrmZ, Nat.reduceEqDiff, ↓reduceIte]
  cases hc2 : decide ((x : Int) < (a : Int))
  ·have hxa : x = a := by have := of_decide_eq_false hc2; omega
   subst hxa
   try simp only [↓nrmL, nrmZ, Nat.reduceEqDiff, ↓reduceIte, hc2]
   refine sq ?_
   refine sq ?_
   refine rg fun KF hKF => ?_
   refine mI rfl ?_
   refine Fo.fa rfl ?_
   refine Fo.ld rfl rfl ?_
   refine Fo.bin rfl rfl rfl (by simp only [↓nrmL, nrmZ, Nat.reduceEqDiff, ↓reduceIte, hc2]; rfl) ?_
   refine WpO.nil (hKF _ _ ?_)
   refine Wp.cond (b := false) rfl ?_
   refine Wp.exit ?_
   refine rg fun KF hKF => ?_
   refine mI rfl ?_
   refine Fo.bin rfl rfl rfl rfl ?_
   refine mI rfl ?_
   refine WpO.nil (hKF _ _ ?_)
   dsimp only [cond_true, cond_false]
   refine ⟨y + 1, by omega, ⟨by simp only [↓nrmL, nrmZ, Nat.reduceEqDiff, ↓reduceIte]; rw [hw1], trivial⟩, hyb, by rw [fillP_congr (P := flpP b (y + 1) 0) (Q := flpP b y x) (fun k hk => (flpP_row hk).symm)]; infer_instance, inferInstance, inferInstance⟩
  ·have hxa : x < a := by have := of_decide_eq_true hc2; omega
   have hlt := idx_lt hxa hyb
   have hr2 := row_le (a := b) (b := a) (y := x) hxa
   have hil : y * a + x < l.length := by omega
   have hw3 := wa1 (a := x) (by omega)
   have hfl := fillP_length (flpP b y x) (fun k => l.getD ((k % b) * a + k / b) 0) (b * a)
   have e1 : (fun k => l.getD ((k % b) * a + k / b) 0) (x * b + y) = l.getD (y * a + x) 0 := by
    obtain ⟨q1, q2⟩ := (flp_iff (b := b) (x := x) (k := x * b + y) hyb).1 rfl
    dsimp only
    rw [q1, q2]
   have k1 := inkB_nat (l := l) hxa hyb
   cases ht : inkB a b l x y
   ·rw [k1] at ht
    have h0 : (fun k => l.getD ((k % b) * a + k / b) 0) (x * b + y) = 0 := by
     rw [e1]
     rcases getD01 ok.px (y * a + x) with q1 | q1
     ·exact q1
     ·rw [q1] at ht; cases ht
    try simp only [↓nrmL, nrmZ, Nat.reduceEqDiff, ↓reduceIte, hc2, k1, ht]
    refine sq ?_
    refine sq ?_
    refine rg fun KF hKF => ?_
    refine mI rfl ?_
    refine Fo.fa rfl ?_
    refine Fo.ld rfl rfl ?_
    refine Fo.bin rfl rfl rfl (by simp only [↓nrmL, nrmZ, Nat.reduceEqDiff, ↓reduceIte, hc2, k1, ht]; rfl) ?_
    refine WpO.nil (hKF _ _ ?_)
    refine Wp.cond (b := true) rfl ?_
    refine Wp.skip ?_
    refine sq ?_
    refine Wp.block ?_
    refine sq ?_
    refine rg fun KF hKF => ?_
    refine Fo.ldN rfl rfl (by simp only [↓nrmL, nrmZ, Nat.reduceEqDiff, ↓reduceIte, hc2, k1, ht]; rfl) ?_
    refine mI rfl ?_
    refine mI rfl ?_
    refine Fo.pcall (v' := ?_) hn rfl (by simp only [↓nrmL, nrmZ, Nat.reduceEqDiff, ↓reduceIte, hc2, k1, ht, List.map]; rfl) rfl ?hv fun _ _ => ?_; case hv => (simp only [↓nrmL, nrmZ, Nat.reduceEqDiff, ↓reduceIte, hc2, k1, ht]; rfl)
    refine WpO.nil (hKF _ _ ?_)
    refine Wp.cond (b := false) rfl ?_
    refine Wp.skip ?_
    refine rg fun KF hKF => ?_
    refine mI rfl ?_
    refine Fo.bin rfl rfl rfl rfl ?_
    refine mI rfl ?_
    refine WpO.nil (hKF _ _ ?_)
    dsimp only [cond_true, cond_false]
    rw [fillP_skip (Q := flpP b y (x + 1)) h0 (fun k _ => flpP_next hyb)] at hb5
    refine ⟨x + 1, by omega, ⟨by simp only [↓nrmL, nrmZ, Nat.reduceEqDiff, ↓reduceIte]; rw [hw3], trivial⟩, hxa, inferInstance, inferInstance, inferInstance⟩
   ·rw [k1] at ht
    have h0 : (fun k => l.getD ((k % b) * a + k / b) 0) (x * b + y) = 1 := by
     rw [e1]; simpa using ht
    try simp only [↓nrmL, nrmZ, Nat.reduceEqDiff, ↓reduceIte, hc2, k1, ht]
    refine sq ?_
    refine sq ?_
    refine rg fun KF hKF => ?_
    refine mI rfl ?_
    refine Fo.fa rfl ?_
    refine Fo.ld rfl rfl ?_
    refine Fo.bin rfl rfl rfl (by simp only [↓nrmL, nrmZ, Nat.reduceEqDiff, ↓reduceIte, hc2, k1, ht]; rfl) ?_
    refine WpO.nil (hKF _ _ ?_)
    refine Wp.cond (b := true) rfl ?_
    refine Wp.skip ?_
    refine sq ?_
    refine Wp.block ?_
    refine sq ?_
    refine rg fun KF hKF => ?_
    refine Fo.ldN rfl rfl (by simp only [↓nrmL, nrmZ, Nat.reduceEqDiff, ↓reduceIte, hc2, k1, ht]; rfl) ?_
    refine mI rfl ?_
    refine mI rfl ?_
    refine Fo.pcall (v' := ?_) hn rfl (by simp only [↓nrmL, nrmZ, Nat.reduceEqDiff, ↓reduceIte, hc2, k1, ht, List.map]; rfl) rfl ?hv fun _ _ => ?_; case hv => (simp only [↓nrmL, nrmZ, Nat.reduceEqDiff, ↓reduceIte, hc2, k1, ht]; rfl)
    refine WpO.nil (hKF _ _ ?_)
    refine Wp.cond (b := true) rfl ?_
    refine rg fun KF hKF => ?_
    refine Fo.ldN rfl rfl (by simp only [↓nrmL, nrmZ, Nat.reduceEqDiff, ↓reduceIte, hc2, k1, ht]; rfl) ?_
    refine mI rfl ?_
    refine mI rfl ?_
    refine WpO.do (WpX.conD hn rfl rfl (by simp only [↓nrmL, nrmZ, Nat.reduceEqDiff, ↓reduceIte, List.map] <;> rfl) (K_refSet (y := x) (x := y) (w := b) (by rw [hfl]; omega) (by rw [hfl]; omega)) fun v H6 h5 => ?_)
    obtain ⟨hb6, hw6, hx6⟩ := h5
    rw [← h0, fillP_set (Q := flpP b y (x + 1)) (fun k _ => flpP_next hyb)] at hb6
    refine WpO.nil (hKF _ _ ?_)
    refine rg fun KF hKF => ?_
    refine mI rfl ?_
    refine Fo.bin rfl rfl rfl rfl ?_
    refine mI rfl ?_
    refine WpO.nil (hKF _ _ ?_)
    dsimp only [cond_true, cond_false]
    refine ⟨x + 1, by omega, ⟨by simp only [↓nrmL, nrmZ, Nat.reduceEqDiff, ↓reduceIte]; rw [hw3], trivial⟩, hxa, hb6, hw6, inferInstance⟩
theorem flip_ok {a b : Nat} {l : List UInt8} (ok : Ok a b l) : Ok b a (flipL l a b) := by
 refine ⟨ok.hb, ok.wa, by simp [flipL], ?_⟩
 unfold pxOk
 rw [List.all_eq_true]
 intro c hc
 obtain ⟨k, _, rfl⟩ := List.mem_map.1 hc
 rcases getD01 ok.px ((k % b) * a + k / b) with h | h <;> rw [h] <;> rfl
theorem endF_congr {p q : Nat → Bool} {len : Nat} (h : ∀ t, t < len → p t = q t) : ∀ (f i : Nat), endF p len f i = endF q len f i
 | 0, i => rfl
 | f + 1, i => by
  simp only [endF]
  by_cases hi : i + 1 < len
  ·rw [h (i + 1) hi, endF_congr h f (i + 1)]
  ·rw [if_neg (fun q => hi q.1), if_neg (fun q => hi q.1)]
theorem allR_congr {o o' : Nat → Nat → Bool} {len lines : Nat} (h : ∀ y x, y < lines → x < len → o y x = o' y x) : ∀ y, y ≤ lines → allR o len y = allR o' len y
 | 0, _ => rfl
 | y + 1, hy => by
  rw [allR_succ, allR_succ, allR_congr h y (by omega)]
  congr 1
  unfold preR
  have h1 : (List.range len).filter (startB (o y)) = (List.range len).filter (startB (o' y)) := by
   apply List.filter_congr
   intro x hx
   have hx := List.mem_range.1 hx
   unfold startB
   rw [h y x (by omega) hx, h y (x - 1) (by omega) (by omega)]
  rw [h1]
  apply List.map_congr_left
  intro x hx
  unfold runV endB
  rw [endF_congr (fun t ht => h y t (by omega) ht)]
theorem flip_rows {a b : Nat} {l : List UInt8} : allR (rowO ⟨b, a, flipL l a b⟩) b a = allR (colO ⟨a, b, l⟩) b a := by
 refine allR_congr (lines := a) (fun y x hy hx => ?_) a (Nat.le_refl _)
 show inkB b a (flipL l a b) x y = inkB a b l y x
 rw [inkB_nat hx hy, inkB_nat hy hx]
 have hk : y * b + x < b * a := by
  have := row_le (a := b) (b := a) hy
  rw [Nat.mul_comm b a]
  have h2 : y * b + b ≤ a * b := by rw [← Nat.succ_mul]; exact Nat.mul_le_mul_right b hy
  omega
 obtain ⟨q1, q2⟩ := (flp_iff (b := b) (x := y) (y := x) (k := y * b + x) hx).1 rfl
 unfold flipL
 rw [getD_map hk, q1, q2]
theorem K_refColumns {a b : Nat} {p : AVal} {H : AHeap} {l : List UInt8} [hp : BytesI H p l] (ok : Ok a b l) : Con ext prog 5 51 [.agg [.int .i64 a, .int .i64 b, p]] H fun v H' => NewRuns H H' v (allR (colO ⟨a, b, l⟩) b a) := by
 refine con_of (show prog 51 = some c51 from rfl) rfl rfl fun n hn => ?_
 haveI := hp.one
 refine sq ?_
 refine rg fun KF hKF => ?_
 refine Fo.boxA rfl ?_
 refine mN rfl ?_
 refine WpO.nil (hKF _ _ ?_)
 refine sq ?_
 refine rg fun KF hKF => ?_
 refine Fo.ldN rfl rfl (by simp only [↓nrmL, nrmZ, Nat.reduceEqDiff, ↓reduceIte]; rfl) ?_
 refine WpO.do (WpX.conD hn rfl rfl (by simp only [↓nrmL, nrmZ, Nat.reduceEqDiff, ↓reduceIte, List.map] <;> rfl) (K_refFlip ok) fun v H1 h5 => ?_)
 obtain ⟨q, e2, hq, hf, hw, hx⟩ := h5
 subst e2
 have hq : BytesI H1 q (flipL l a b) := hq
 haveI : ExtI _ H1 := ⟨hx⟩
 haveI := hq.one
 dsimp only [cond_true, cond_false]
 refine WpO.do (WpX.conD hn rfl rfl (by simp only [↓nrmL, nrmZ, Nat.reduceEqDiff, ↓reduceIte, List.map] <;> rfl) (K_refRows (flip_ok ok)) fun v H2 h5 => ?_)
 obtain ⟨ho, hf2, hx2⟩ := h5
 haveI : ExtI _ H2 := ⟨hx2⟩
 haveI := ho.sl.one
 rw [flip_rows] at ho
 refine Fo.mov (by simp only [↓nrmL, nrmK, Nat.reduceEqDiff, ↓reduceIte]; rfl) ?_
 refine WpO.nil (hKF _ _ ?_)
 refine Wp.ret ?_
 dsimp only [cond_true, cond_false]
 refine ⟨trivial, _, rfl, ?_⟩
 exact ⟨ho, hf2.weak, Ext0.ext⟩
end Go.Am

set_option maxHeartbeats 4000000
set_option maxRecDepth 100000
set_option synthInstance.maxHeartbeats 4000000
set_option synthInstance.maxSize 100000
namespace Go.Am
open Go
attribute [local irreducible] Wp WpO WpX WpE

abbrev RunsI (H : AHeap) (p : AVal) (l : List RunT) : Prop := SliceAt H p 3 l.length (cellsR l)
def run0 : RunT := (0, 0, 0)
theorem cellsR_length (l : List RunT) : (cellsR l).length = 3 * l.length := by
 induction l with
 | nil => rfl
 | cons r l ih => simp only [cellsR, List.flatMap_cons, List.length_append, List.length_cons, List.length_nil] at *; omega
theorem cellsR_get : ∀ {l : List RunT} {i : Nat}, i < l.length → ((cellsR l).drop (i * 3)).take 3 = [.int .i64 (l.getD i run0).1, .int .i64 (l.getD i run0).2.1, .int .i64 (l.getD i run0).2.2]
 | r :: l, 0, _ => by simp [cellsR]
 | r :: l, i + 1, h => by
  have ih := cellsR_get (l := l) (i := i) (by simpa using h)
  have e : (cellsR (r :: l)).drop ((i + 1) * 3) = (cellsR l).drop (i * 3) := by
   rw [show (i + 1) * 3 = 3 + i * 3 by omega, ← List.drop_drop]
   rfl
  rw [e, ih]
  simp
def okRun (r : RunT) (lines len : Int) : Bool := !(decide (r.1 < 0)) && !(decide (r.1 ≥ lines)) && !(decide (r.2.1 < 0)) && !(decide (r.2.1 > r.2.2)) && !(decide (r.2.2 ≥ len))
def apartB (a b : RunT) : Bool := decide (b.1 > a.1) || ((b.1 == a.1) && decide (b.2.1 > IntKind.i64.wrap (a.2.2 + 1)))
def okAt (l : List RunT) (lines len : Int) (i : Nat) : Bool := okRun (l.getD i run0) lines len && (decide (i = 0) || apartB (l.getD (i - 1) run0) (l.getD i run0))
/-- The first i runs are proper. -/
def properTo (l : List RunT) (lines len : Int) : Nat → Bool
 | 0 => true
 | i + 1 => properTo l lines len i && okAt l lines len i
theorem properTo_no {l : List RunT} {lines len : Int} {i : Nat} (h : okAt l lines len i = false) : ∀ j, i < j → properTo l lines len j = false
 | j + 1, hj => by
  simp only [properTo]
  by_cases hij : i = j
  ·rw [← hij, h, Bool.and_false]
  ·rw [properTo_no h j (by omega), Bool.false_and]
theorem properTo_get {l : List RunT} {lines len : Int} : ∀ {j : Nat}, properTo l lines len j = true → ∀ i, i < j → okAt l lines len i = true
 | j + 1, h, i, hi => by
  simp only [properTo, Bool.and_eq_true] at h
  by_cases hij : i = j
  ·rw [hij]; exact h.2
  ·exact properTo_get h.1 i (by omega)
def properB (l : List RunT) (lines len : Int) : Bool := properTo l lines len l.length
class ShortR (l : List RunT) : Prop where
 le : l.length ≤ 409600

instance K_apart {a b c d e f : Int} {H : AHeap} : PureCon ext prog 150 [.agg [.int .i64 a, .int .i64 b, .int .i64 c], .agg [.int .i64 d, .int .i64 e, .int .i64 f]] H 1 (.bool (apartB (a, b, c) (d, e, f))) := ⟨by
 refine con_of (show prog 150 = some c150 from rfl) rfl rfl fun n hn => ?_
 unfold apartB
 cases h1 : decide (d > a)
 ·cases h2 : (d == a)
  ·skip
   try simp only [↓nrmL, nrmZ, Nat.reduceEqDiff, ↓reduceIte, h1, h2]
   refine sq ?_
   refine rg fun KF hKF => ?_
   refine Fo.boxA rfl ?_
   refine Fo.boxA rfl ?_
   refine mB rfl ?_
   refine WpO.nil (hKF _ _ ?_)
   refine sq ?_
   refine rg fun KF hKF => ?_
   refine Fo.fa rfl ?_
   refine Fo.ld rfl rfl ?_
   refine Fo.fa rfl ?_
   refine Fo.ld rfl rfl ?_
   refine Fo.bin rfl rfl rfl (by simp only [↓nrmL, nrmZ, Nat.reduceEqDiff, ↓reduceIte, h1, h2]; rfl) ?_
   refine mB rfl ?_
   refine Fo.yes rfl rfl ?_
   refine Fo.fa rfl ?_
   refine Fo.yes rfl rfl ?_
   refine Fo.ld rfl rfl ?_
   refine Fo.yes rfl rfl ?_
   refine Fo.fa rfl ?_
   refine Fo.yes rfl rfl ?_
   refine Fo.ld rfl rfl ?_
   refine Fo.yes rfl rfl ?_
   refine Fo.bin rfl rfl rfl (by simp only [↓nrmL, nrmZ, Nat.reduceEqDiff, ↓reduceIte, h1, h2]; rfl) ?_
   refine Fo.yes rfl rfl ?_
   refine mB rfl ?_
   refine Fo.no rfl rfl ?_
   refine Fo.no rfl rfl ?_
   refine Fo.no rfl rfl ?_
   refine Fo.no rfl rfl ?_
   refine Fo.no rfl rfl ?_
   refine Fo.no rfl rfl ?_
   refine Fo.yes rfl rfl ?_
   refine fB rfl rfl ?_
   refine fB rfl rfl ?_
   refine mB rfl ?_
   refine WpO.nil (hKF _ _ ?_)
   refine Wp.ret ?_
   dsimp only [cond_true, cond_false]
   refine ⟨trivial, _, rfl, ?_⟩
   exact ⟨rfl, Ext0.ext⟩
  ·skip
   try simp only [↓nrmL, nrmZ, Nat.reduceEqDiff, ↓reduceIte, h1, h2]
   refine sq ?_
   refine rg fun KF hKF => ?_
   refine Fo.boxA rfl ?_
   refine Fo.boxA rfl ?_
   refine mB rfl ?_
   refine WpO.nil (hKF _ _ ?_)
   refine sq ?_
   refine rg fun KF hKF => ?_
   refine Fo.fa rfl ?_
   refine Fo.ld rfl rfl ?_
   refine Fo.fa rfl ?_
   refine Fo.ld rfl rfl ?_
   refine Fo.bin rfl rfl rfl (by simp only [↓nrmL, nrmZ, Nat.reduceEqDiff, ↓reduceIte, h1, h2]; rfl) ?_
   refine mB rfl ?_
   refine Fo.yes rfl rfl ?_
   refine Fo.fa rfl ?_
   refine Fo.yes rfl rfl ?_
   refine Fo.ld rfl rfl ?_
   refine Fo.yes rfl rfl ?_
   refine Fo.fa rfl ?_
   refine Fo.yes rfl rfl ?_
   refine Fo.ld rfl rfl ?_
   refine Fo.yes rfl rfl ?_
   refine Fo.bin rfl rfl rfl (by simp only [↓nrmL, nrmZ, Nat.reduceEqDiff, ↓reduceIte, h1, h2]; rfl) ?_
   refine Fo.yes rfl rfl ?_
   refine mB rfl ?_
   refine Fo.yes rfl rfl ?_
   refine Fo.fa rfl ?_
   refine Fo.yes rfl rfl ?_
   refine Fo.ld rfl rfl ?_
   refine Fo.yes rfl rfl ?_
   refine Fo.fa rfl ?_
   refine Fo.yes rfl rfl ?_
   refine Fo.ld rfl rfl ?_
   refine Fo.yes rfl rfl ?_
   refine Fo.bin rfl rfl rfl rfl ?_
   refine Fo.yes rfl rfl ?_
   refine Fo.bin rfl rfl rfl rfl ?_
   refine Fo.yes rfl rfl ?_
   refine tB rfl rfl ?_
   refine fB rfl rfl ?_
   refine mB rfl ?_
   refine WpO.nil (hKF _ _ ?_)
   refine Wp.ret ?_
   dsimp only [cond_true, cond_false]
   refine ⟨trivial, _, rfl, ?_⟩
   exact ⟨rfl, Ext0.ext⟩
 ·skip
  try simp only [↓nrmL, nrmZ, Nat.reduceEqDiff, ↓reduceIte, h1]
  refine sq ?_
  refine rg fun KF hKF => ?_
  refine Fo.boxA rfl ?_
  refine Fo.boxA rfl ?_
  refine mB rfl ?_
  refine WpO.nil (hKF _ _ ?_)
  refine sq ?_
  refine rg fun KF hKF => ?_
  refine Fo.fa rfl ?_
  refine Fo.ld rfl rfl ?_
  refine Fo.fa rfl ?_
  refine Fo.ld rfl rfl ?_
  refine Fo.bin rfl rfl rfl (by simp only [↓nrmL, nrmZ, Nat.reduceEqDiff, ↓reduceIte, h1]; rfl) ?_
  refine mB rfl ?_
  refine Fo.no rfl rfl ?_
  refine Fo.no rfl rfl ?_
  refine Fo.no rfl rfl ?_
  refine Fo.no rfl rfl ?_
  refine Fo.no rfl rfl ?_
  refine Fo.no rfl rfl ?_
  refine Fo.noU rfl ?_
  refine Fo.noU rfl ?_
  refine Fo.noU rfl ?_
  refine Fo.noU rfl ?_
  refine Fo.noU rfl ?_
  refine Fo.noU rfl ?_
  refine Fo.no rfl rfl ?_
  refine tB rfl rfl ?_
  refine mB rfl ?_
  refine WpO.nil (hKF _ _ ?_)
  refine Wp.ret ?_
  dsimp only [cond_true, cond_false]
  refine ⟨trivial, _, rfl, ?_⟩
  exact ⟨rfl, Ext0.ext⟩⟩

instance K_proper {p : AVal} {H : AHeap} {l : List RunT} {lines len : Int} [hp : RunsI H p l] [hs : ShortR l] : PureCon ext prog 113 [p, .int .i64 lines, .int .i64 len] H 2 (.bool (properB l lines len)) := ⟨by
 refine con_of (show prog 113 = some c113 from rfl) rfl rfl fun n hn => ?_
 haveI := hp.one
 have hsl := hs.le
 refine sq ?_
 refine rg fun KF hKF => ?_
 refine mB rfl ?_
 refine WpO.nil (hKF _ _ ?_)
 refine sq ?_
 refine sq ?_
 refine rg fun KF hKF => ?_
 refine Fo.mov (by simp only [↓nrmL, nrmK, Nat.reduceEqDiff, ↓reduceIte]; rfl) ?_
 refine Fo.len (v := ?_) (by simp only [↓nrmL, nrmK, Nat.reduceEqDiff, ↓reduceIte]; rfl) ?hv ?_; case hv => rfl
 refine mI rfl ?_
 refine WpO.nil (hKF _ _ ?_)
 refine Wp.block ?_
 dsimp only [cond_true, cond_false]
 refine Wp.loopS [6, 7, 8, 11, 12, 13, 14, 15, 16, 17, 18, 19, 20, 21, 22, 23, 24, 25, 26, 27, 28, 29, 30, 31, 32, 33, 34, 35, 36, 37, 38, 39, 40, 41, 42, 43, 44, 45, 46, 47, 48, 49, 50, 51, 52, 53, 54, 55] (fun i : Nat => [(11, .int .i64 i)]) (fun H3 i H2 => i ≤ l.length ∧ properTo l lines len i = true ∧ Ext H3 H2) (fun i => l.length - i) 0 rfl (fun _ => rfl) ⟨rfl, trivial⟩ ⟨Nat.zero_le _, rfl, Ext.refl _⟩ (by unfold fuel0 at hn; omega) ?_
 rintro i g H2 ⟨hi, hpr, hx2⟩
 haveI : ExtI _ H2 := ⟨hx2⟩
 simp only [↓nrmL, nrmZ, Nat.reduceEqDiff, ↓reduceIte, Nat.reduceAdd, Int.reduceBEq, Int.reduceBNe]
 cases hc : decide ((i : Int) < (l.length : Int))
 ·have hil : i = l.length := by have := of_decide_eq_false hc; omega
  have hpt : properB l lines len = true := by unfold properB; rw [← hil]; exact hpr
  rw [hpt]
  try simp only [↓nrmL, nrmZ, Nat.reduceEqDiff, ↓reduceIte, Nat.reduceAdd, Int.reduceBEq, Int.reduceBNe, hc]
  refine sq ?_
  refine rg fun KF hKF => ?_
  refine Fo.bin rfl rfl rfl (by simp only [↓nrmL, nrmZ, Nat.reduceEqDiff, ↓reduceIte, Nat.reduceAdd, Int.reduceBEq, Int.reduceBNe, hc]; rfl) ?_
  refine WpO.nil (hKF _ _ ?_)
  refine sq ?_
  refine Wp.cond (b := false) rfl ?_
  refine Wp.exit ?_
  refine sq ?_
  refine rg fun KF hKF => ?_
  refine mB rfl ?_
  refine WpO.nil (hKF _ _ ?_)
  refine Wp.ret ?_
  dsimp only [cond_true, cond_false]
  refine ⟨trivial, _, rfl, ?_⟩
  exact ⟨rfl, Ext0.ext⟩
 have hil : i < l.length := by have := of_decide_eq_true hc; omega
 have hw1 := wa1 (a := i) (by omega)
 have hcg := cellsR_get (l := l) (i := i) hil
 generalize hre : l.getD i run0 = r at hcg
 cases g1 : decide (r.1 < 0)
 ·skip
  cases g2 : decide (r.1 ≥ lines)
  ·skip
   cases g3 : decide (r.2.1 < 0)
   ·skip
    cases g4 : decide (r.2.1 > r.2.2)
    ·skip
     cases g5 : decide (r.2.2 ≥ len)
     ·skip
      have hok : okRun r lines len = true := by unfold okRun; rw [g1, g2, g3, g4, g5]; rfl
      by_cases hi0 : i = 0
      ·have e0 : decide (((i : Nat) : Int) > 0) = false := decide_eq_false (by omega)
       have hoa : okAt l lines len i = true := by unfold okAt; rw [hre, hok, decide_eq_true hi0]; rfl
       try simp only [↓nrmL, nrmZ, Nat.reduceEqDiff, ↓reduceIte, Nat.reduceAdd, Int.reduceBEq, Int.reduceBNe, hc]
       refine sq ?_
       refine rg fun KF hKF => ?_
       refine Fo.bin rfl rfl rfl (by simp only [↓nrmL, nrmZ, Nat.reduceEqDiff, ↓reduceIte, Nat.reduceAdd, Int.reduceBEq, Int.reduceBNe, hc]; rfl) ?_
       refine WpO.nil (hKF _ _ ?_)
       refine sq ?_
       refine Wp.cond (b := true) rfl ?_
       refine Wp.skip ?_
       refine sq ?_
       refine Wp.block ?_
       refine sq ?_
       refine rg fun KF hKF => ?_
       refine mI rfl ?_
       refine Fo.idx (by simp only [↓nrmL, nrmK, Nat.reduceEqDiff, ↓reduceIte]; rfl) rfl ?_ (by simp only [↓nrmL, nrmZ, Nat.reduceEqDiff, ↓reduceIte, Nat.reduceAdd, Int.reduceBEq, Int.reduceBNe, hc]; rfl) ?_; (focus omega)
       refine WpO.do (WpX.ldNP (p := p) (j := i * 3) (m := 3) rfl (by decide) (by rw [cellsR_length]; omega) hcg ?_)
       try simp only [↓nrmL, nrmZ, Nat.reduceEqDiff, ↓reduceIte, Nat.reduceAdd, Int.reduceBEq, Int.reduceBNe, g1, g2, g3, g4, g5, e0]
       refine Fo.new ?_
       refine mI rfl ?_
       refine Fo.st rfl (rfl : _ = AVal.agg _) rfl rfl rfl (by repeat (first | rfl | refine allOne_cons ?_)) (by simp only [↓nrmL, nrmZ, Nat.reduceEqDiff, ↓reduceIte, Nat.reduceAdd, Int.reduceBEq, Int.reduceBNe, g1, g2, g3, g4, g5, e0]; rfl) ?_
       refine WpO.nil (hKF _ _ ?_)
       refine sq ?_
       refine sq ?_
       refine rg fun KF hKF => ?_
       refine Fo.fa rfl ?_
       refine Fo.ld rfl rfl ?_
       refine Fo.bin rfl rfl rfl (by simp only [↓nrmL, nrmZ, Nat.reduceEqDiff, ↓reduceIte, Nat.reduceAdd, Int.reduceBEq, Int.reduceBNe, g1, g2, g3, g4, g5, e0]; rfl) ?_
       refine mB rfl ?_
       refine Fo.yes rfl rfl ?_
       refine Fo.fa rfl ?_
       refine Fo.yes rfl rfl ?_
       refine Fo.ld rfl rfl ?_
       refine Fo.yes rfl rfl ?_
       refine mI rfl ?_
       refine Fo.yes rfl rfl ?_
       refine Fo.bin rfl rfl rfl (by simp only [↓nrmL, nrmZ, Nat.reduceEqDiff, ↓reduceIte, Nat.reduceAdd, Int.reduceBEq, Int.reduceBNe, g1, g2, g3, g4, g5, e0]; rfl) ?_
       refine fB rfl rfl ?_
       refine mB rfl ?_
       refine Fo.yes rfl rfl ?_
       refine Fo.fa rfl ?_
       refine Fo.yes rfl rfl ?_
       refine Fo.ld rfl rfl ?_
       refine Fo.yes rfl rfl ?_
       refine Fo.bin rfl rfl rfl (by simp only [↓nrmL, nrmZ, Nat.reduceEqDiff, ↓reduceIte, Nat.reduceAdd, Int.reduceBEq, Int.reduceBNe, g1, g2, g3, g4, g5, e0]; rfl) ?_
       refine fB rfl rfl ?_
       refine mB rfl ?_
       refine Fo.yes rfl rfl ?_
       refine Fo.fa rfl ?_
       refine Fo.yes rfl rfl ?_
       refine Fo.ld rfl rfl ?_
       refine Fo.yes rfl rfl ?_
       refine Fo.fa rfl ?_
       refine Fo.yes rfl rfl ?_
       refine Fo.ld rfl rfl ?_
       refine Fo.yes rfl rfl ?_
       refine Fo.bin rfl rfl rfl (by simp only [↓nrmL, nrmZ, Nat.reduceEqDiff, ↓reduceIte, Nat.reduceAdd, Int.reduceBEq, Int.reduceBNe, g1, g2, g3, g4, g5, e0]; rfl) ?_
       refine fB rfl rfl ?_
       refine mB rfl ?_
       refine Fo.yes rfl rfl ?_
       refine Fo.fa rfl ?_
       refine Fo.yes rfl rfl ?_
       refine Fo.ld rfl rfl ?_
       refine Fo.yes rfl rfl ?_
       refine mI rfl ?_
       refine Fo.yes rfl rfl ?_
       refine Fo.bin rfl rfl rfl (by simp only [↓nrmL, nrmZ, Nat.reduceEqDiff, ↓reduceIte, Nat.reduceAdd, Int.reduceBEq, Int.reduceBNe, g1, g2, g3, g4, g5, e0]; rfl) ?_
       refine fB rfl rfl ?_
       refine WpO.nil (hKF _ _ ?_)
       refine Wp.cond (b := false) rfl ?_
       refine Wp.skip ?_
       refine sq ?_
       dsimp only [cond_true, cond_false]
       refine Fr.dregion0 rfl fun KF hKF => ?_
       try simp only [↓nrmL, nrmZ, Nat.reduceEqDiff, ↓reduceIte, Nat.reduceAdd, Int.reduceBEq, Int.reduceBNe, e0]
       refine Fe.pure rfl rfl (by simp only [↓nrmL, nrmZ, Nat.reduceEqDiff, ↓reduceIte, Nat.reduceAdd, Int.reduceBEq, Int.reduceBNe, e0]; rfl) ?_
       refine Fe.pure rfl rfl (by simp only [↓nrmL, nrmZ, Nat.reduceEqDiff, ↓reduceIte, Nat.reduceAdd, Int.reduceBEq, Int.reduceBNe, e0]; rfl) ?_
       refine Fe.pure rfl rfl (by simp only [↓nrmL, nrmZ, Nat.reduceEqDiff, ↓reduceIte, Nat.reduceAdd, Int.reduceBEq, Int.reduceBNe, e0]; rfl) ?_
       refine Fe.skip rfl ?_
       refine Fe.skip rfl ?_
       refine Fe.skip rfl ?_
       refine Fe.skip rfl ?_
       refine Fe.skip rfl ?_
       refine Fe.skip rfl ?_
       refine Fe.skip rfl ?_
       refine Fe.skip rfl ?_
       refine Fe.pure rfl rfl (by simp only [↓nrmL, nrmZ, Nat.reduceEqDiff, ↓reduceIte, Nat.reduceAdd, Int.reduceBEq, Int.reduceBNe, e0]; rfl) ?_
       refine WpE.nil (hKF _ _ ?_)
       refine Wp.cond (b := false) rfl ?_
       refine Wp.skip ?_
       refine rg fun KF hKF => ?_
       refine Fo.bin rfl rfl rfl rfl ?_
       refine mI rfl ?_
       refine WpO.nil (hKF _ _ ?_)
       dsimp only [cond_true, cond_false]
       refine ⟨i + 1, by omega, ⟨by simp only [↓nrmL, nrmZ, Nat.reduceEqDiff, ↓reduceIte, Nat.reduceAdd, Int.reduceBEq, Int.reduceBNe]; rw [hw1], trivial⟩, hil, by simp only [properTo, hpr, hoa]; rfl, Ext0.ext⟩
      ·have e0 : decide (((i : Nat) : Int) > 0) = true := decide_eq_true (by omega)
       have hwm : IntKind.i64.wrap ((i : Int) - 1) = ((i - 1 : Nat) : Int) := by rw [w64 (by omega)]; omega
       have hcg2 := cellsR_get (l := l) (i := i - 1) (by omega)
       cases hap : apartB (l.getD (i - 1) run0) (l.getD i run0)
       ·have hap2 : apartB ((l.getD (i - 1) run0).1, (l.getD (i - 1) run0).2.1, (l.getD (i - 1) run0).2.2) (r.1, r.2.1, r.2.2) = false := by rw [← hre]; exact hap
        have hoa : okAt l lines len i = false := by unfold okAt; rw [hap, hre, hok, decide_eq_false hi0]; rfl
        have hpf : properB l lines len = false := properTo_no hoa _ hil
        rw [hpf]
        try simp only [↓nrmL, nrmZ, Nat.reduceEqDiff, ↓reduceIte, Nat.reduceAdd, Int.reduceBEq, Int.reduceBNe, hc]
        refine sq ?_
        refine rg fun KF hKF => ?_
        refine Fo.bin rfl rfl rfl (by simp only [↓nrmL, nrmZ, Nat.reduceEqDiff, ↓reduceIte, Nat.reduceAdd, Int.reduceBEq, Int.reduceBNe, hc]; rfl) ?_
        refine WpO.nil (hKF _ _ ?_)
        refine sq ?_
        refine Wp.cond (b := true) rfl ?_
        refine Wp.skip ?_
        refine sq ?_
        refine Wp.block ?_
        refine sq ?_
        refine rg fun KF hKF => ?_
        refine mI rfl ?_
        refine Fo.idx (by simp only [↓nrmL, nrmK, Nat.reduceEqDiff, ↓reduceIte]; rfl) rfl ?_ (by simp only [↓nrmL, nrmZ, Nat.reduceEqDiff, ↓reduceIte, Nat.reduceAdd, Int.reduceBEq, Int.reduceBNe, hc]; rfl) ?_; (focus omega)
        refine WpO.do (WpX.ldNP (p := p) (j := i * 3) (m := 3) rfl (by decide) (by rw [cellsR_length]; omega) hcg ?_)
        try simp only [↓nrmL, nrmZ, Nat.reduceEqDiff, ↓reduceIte, Nat.reduceAdd, Int.reduceBEq, Int.reduceBNe, g1, g2, g3, g4, g5, e0]
        refine Fo.new ?_
        refine mI rfl ?_
        refine Fo.st rfl (rfl : _ = AVal.agg _) rfl rfl rfl (by repeat (first | rfl | refine allOne_cons ?_)) (by simp only [↓nrmL, nrmZ, Nat.reduceEqDiff, ↓reduceIte, Nat.reduceAdd, Int.reduceBEq, Int.reduceBNe, g1, g2, g3, g4, g5, e0]; rfl) ?_
        refine WpO.nil (hKF _ _ ?_)
        refine sq ?_
        refine sq ?_
        refine rg fun KF hKF => ?_
        refine Fo.fa rfl ?_
        refine Fo.ld rfl rfl ?_
        refine Fo.bin rfl rfl rfl (by simp only [↓nrmL, nrmZ, Nat.reduceEqDiff, ↓reduceIte, Nat.reduceAdd, Int.reduceBEq, Int.reduceBNe, g1, g2, g3, g4, g5, e0]; rfl) ?_
        refine mB rfl ?_
        refine Fo.yes rfl rfl ?_
        refine Fo.fa rfl ?_
        refine Fo.yes rfl rfl ?_
        refine Fo.ld rfl rfl ?_
        refine Fo.yes rfl rfl ?_
        refine mI rfl ?_
        refine Fo.yes rfl rfl ?_
        refine Fo.bin rfl rfl rfl (by simp only [↓nrmL, nrmZ, Nat.reduceEqDiff, ↓reduceIte, Nat.reduceAdd, Int.reduceBEq, Int.reduceBNe, g1, g2, g3, g4, g5, e0]; rfl) ?_
        refine fB rfl rfl ?_
        refine mB rfl ?_
        refine Fo.yes rfl rfl ?_
        refine Fo.fa rfl ?_
        refine Fo.yes rfl rfl ?_
        refine Fo.ld rfl rfl ?_
        refine Fo.yes rfl rfl ?_
        refine Fo.bin rfl rfl rfl (by simp only [↓nrmL, nrmZ, Nat.reduceEqDiff, ↓reduceIte, Nat.reduceAdd, Int.reduceBEq, Int.reduceBNe, g1, g2, g3, g4, g5, e0]; rfl) ?_
        refine fB rfl rfl ?_
        refine mB rfl ?_
        refine Fo.yes rfl rfl ?_
        refine Fo.fa rfl ?_
        refine Fo.yes rfl rfl ?_
        refine Fo.ld rfl rfl ?_
        refine Fo.yes rfl rfl ?_
        refine Fo.fa rfl ?_
        refine Fo.yes rfl rfl ?_
        refine Fo.ld rfl rfl ?_
        refine Fo.yes rfl rfl ?_
        refine Fo.bin rfl rfl rfl (by simp only [↓nrmL, nrmZ, Nat.reduceEqDiff, ↓reduceIte, Nat.reduceAdd, Int.reduceBEq, Int.reduceBNe, g1, g2, g3, g4, g5, e0]; rfl) ?_
        refine fB rfl rfl ?_
        refine mB rfl ?_
        refine Fo.yes rfl rfl ?_
        refine Fo.fa rfl ?_
        refine Fo.yes rfl rfl ?_
        refine Fo.ld rfl rfl ?_
        refine Fo.yes rfl rfl ?_
        refine mI rfl ?_
        refine Fo.yes rfl rfl ?_
        refine Fo.bin rfl rfl rfl (by simp only [↓nrmL, nrmZ, Nat.reduceEqDiff, ↓reduceIte, Nat.reduceAdd, Int.reduceBEq, Int.reduceBNe, g1, g2, g3, g4, g5, e0]; rfl) ?_
        refine fB rfl rfl ?_
        refine WpO.nil (hKF _ _ ?_)
        refine Wp.cond (b := false) rfl ?_
        refine Wp.skip ?_
        refine sq ?_
        dsimp only [cond_true, cond_false]
        refine Fr.dregion0 rfl fun KF hKF => ?_
        try simp only [↓nrmL, nrmZ, Nat.reduceEqDiff, ↓reduceIte, Nat.reduceAdd, Int.reduceBEq, Int.reduceBNe, e0, hwm]
        refine Fe.pure rfl rfl (by simp only [↓nrmL, nrmZ, Nat.reduceEqDiff, ↓reduceIte, Nat.reduceAdd, Int.reduceBEq, Int.reduceBNe, e0, hwm]; rfl) ?_
        refine Fe.pure rfl rfl (by simp only [↓nrmL, nrmZ, Nat.reduceEqDiff, ↓reduceIte, Nat.reduceAdd, Int.reduceBEq, Int.reduceBNe, e0, hwm]; rfl) ?_
        refine Fe.pure rfl rfl (by simp only [↓nrmL, nrmZ, Nat.reduceEqDiff, ↓reduceIte, Nat.reduceAdd, Int.reduceBEq, Int.reduceBNe, e0, hwm]; rfl) ?_
        refine Fe.pure rfl rfl (by simp only [↓nrmL, nrmZ, Nat.reduceEqDiff, ↓reduceIte, Nat.reduceAdd, Int.reduceBEq, Int.reduceBNe, e0, hwm]; rfl) ?_
        refine Fe.pure rfl rfl (by simp only [↓nrmL, nrmZ, Nat.reduceEqDiff, ↓reduceIte, Nat.reduceAdd, Int.reduceBEq, Int.reduceBNe, e0, hwm]; rfl) ?_
        refine Fe.pure rfl rfl (by simp only [↓nrmL, nrmZ, Nat.reduceEqDiff, ↓reduceIte, Nat.reduceAdd, Int.reduceBEq, Int.reduceBNe, e0, hwm]; rfl) ?_
        refine Fe.pure rfl (exec_idxP (by (try simp only [↓nrmL, nrmZ, Nat.reduceEqDiff, ↓reduceIte, Nat.reduceAdd, Int.reduceBEq, Int.reduceBNe, e0, hwm]); rfl) rfl ?_) (by simp only [↓nrmL, nrmZ, Nat.reduceEqDiff, ↓reduceIte, Nat.reduceAdd, Int.reduceBEq, Int.reduceBNe, e0, hwm]; rfl) ?_; (focus omega)
        refine Fe.read rfl (exec_ldNP (p := p) (j := (i - 1) * 3) (m := 3) rfl (by decide) (by rw [cellsR_length]; omega) hcg2) rfl (by repeat (first | exact trivial | refine ⟨(by first | exact Or.inl (by dsimp only; decide)), ?_⟩)) ?_
        try simp only [↓nrmL, nrmZ, Nat.reduceEqDiff, ↓reduceIte, Nat.reduceAdd, Int.reduceBEq, Int.reduceBNe, hap2]
        refine Fe.read rfl (exec_ldN rfl rfl (by simp only [↓nrmL, nrmZ, Nat.reduceEqDiff, ↓reduceIte, Nat.reduceAdd, Int.reduceBEq, Int.reduceBNe, hap2]; rfl)) rfl (by repeat (first | exact trivial | refine ⟨(by first | exact Or.inl (by dsimp only; decide) | exact Or.inr (exec_ld rfl rfl) | exact Or.inr (exec_ldN rfl rfl rfl) | exact Or.inr (exec_ldB rfl (by omega)) | exact Or.inr (exec_ldI rfl (by omega)) | exact Or.inr ghost_of), ?_⟩)) ?_
        refine Fe.pcall (v' := ?_) rfl hn rfl (by simp only [↓nrmL, nrmZ, Nat.reduceEqDiff, ↓reduceIte, Nat.reduceAdd, Int.reduceBEq, Int.reduceBNe, hap2, List.map]; rfl) rfl ?hv fun _ _ => ⟨(by repeat (first | exact trivial | refine ⟨(by first | exact Or.inl (by dsimp only; decide) | exact Or.inr (readOk_of (exec_ld rfl rfl)) | exact Or.inr (readOk_of (exec_ldN rfl rfl rfl)) | exact Or.inr (readOk_of (exec_ldB rfl (by omega))) | exact Or.inr (readOk_of (exec_ldI rfl (by omega))) | exact Or.inr (made_of rfl)), ?_⟩)), ?_⟩; case hv => (simp only [↓nrmL, nrmZ, Nat.reduceEqDiff, ↓reduceIte, Nat.reduceAdd, Int.reduceBEq, Int.reduceBNe, hap2]; rfl)
        refine Fe.pure rfl rfl (by simp only [↓nrmL, nrmZ, Nat.reduceEqDiff, ↓reduceIte, Nat.reduceAdd, Int.reduceBEq, Int.reduceBNe, hap2]; rfl) ?_
        refine Fe.pure rfl rfl (by simp only [↓nrmL, nrmZ, Nat.reduceEqDiff, ↓reduceIte, Nat.reduceAdd, Int.reduceBEq, Int.reduceBNe, hap2]; rfl) ?_
        refine WpE.nil (hKF _ _ ?_)
        refine Wp.cond (b := true) rfl ?_
        refine sq ?_
        refine rg fun KF hKF => ?_
        refine mB rfl ?_
        refine WpO.nil (hKF _ _ ?_)
        refine Wp.ret ?_
        dsimp only [cond_true, cond_false]
        refine ⟨trivial, _, rfl, ?_⟩
        exact ⟨rfl, Ext0.ext⟩
       ·have hap2 : apartB ((l.getD (i - 1) run0).1, (l.getD (i - 1) run0).2.1, (l.getD (i - 1) run0).2.2) (r.1, r.2.1, r.2.2) = true := by rw [← hre]; exact hap
        have hoa : okAt l lines len i = true := by unfold okAt; rw [hap, hre, hok]; simp
        try simp only [↓nrmL, nrmZ, Nat.reduceEqDiff, ↓reduceIte, Nat.reduceAdd, Int.reduceBEq, Int.reduceBNe, hc]
        refine sq ?_
        refine rg fun KF hKF => ?_
        refine Fo.bin rfl rfl rfl (by simp only [↓nrmL, nrmZ, Nat.reduceEqDiff, ↓reduceIte, Nat.reduceAdd, Int.reduceBEq, Int.reduceBNe, hc]; rfl) ?_
        refine WpO.nil (hKF _ _ ?_)
        refine sq ?_
        refine Wp.cond (b := true) rfl ?_
        refine Wp.skip ?_
        refine sq ?_
        refine Wp.block ?_
        refine sq ?_
        refine rg fun KF hKF => ?_
        refine mI rfl ?_
        refine Fo.idx (by simp only [↓nrmL, nrmK, Nat.reduceEqDiff, ↓reduceIte]; rfl) rfl ?_ (by simp only [↓nrmL, nrmZ, Nat.reduceEqDiff, ↓reduceIte, Nat.reduceAdd, Int.reduceBEq, Int.reduceBNe, hc]; rfl) ?_; (focus omega)
        refine WpO.do (WpX.ldNP (p := p) (j := i * 3) (m := 3) rfl (by decide) (by rw [cellsR_length]; omega) hcg ?_)
        try simp only [↓nrmL, nrmZ, Nat.reduceEqDiff, ↓reduceIte, Nat.reduceAdd, Int.reduceBEq, Int.reduceBNe, g1, g2, g3, g4, g5, e0]
        refine Fo.new ?_
        refine mI rfl ?_
        refine Fo.st rfl (rfl : _ = AVal.agg _) rfl rfl rfl (by repeat (first | rfl | refine allOne_cons ?_)) (by simp only [↓nrmL, nrmZ, Nat.reduceEqDiff, ↓reduceIte, Nat.reduceAdd, Int.reduceBEq, Int.reduceBNe, g1, g2, g3, g4, g5, e0]; rfl) ?_
        refine WpO.nil (hKF _ _ ?_)
        refine sq ?_
        refine sq ?_
        refine rg fun KF hKF => ?_
        refine Fo.fa rfl ?_
        refine Fo.ld rfl rfl ?_
        refine Fo.bin rfl rfl rfl (by simp only [↓nrmL, nrmZ, Nat.reduceEqDiff, ↓reduceIte, Nat.reduceAdd, Int.reduceBEq, Int.reduceBNe, g1, g2, g3, g4, g5, e0]; rfl) ?_
        refine mB rfl ?_
        refine Fo.yes rfl rfl ?_
        refine Fo.fa rfl ?_
        refine Fo.yes rfl rfl ?_
        refine Fo.ld rfl rfl ?_
        refine Fo.yes rfl rfl ?_
        refine mI rfl ?_
        refine Fo.yes rfl rfl ?_
        refine Fo.bin rfl rfl rfl (by simp only [↓nrmL, nrmZ, Nat.reduceEqDiff, ↓reduceIte, Nat.reduceAdd, Int.reduceBEq, Int.reduceBNe, g1, g2, g3, g4, g5, e0]; rfl) ?_
        refine fB rfl rfl ?_
        refine mB rfl ?_
        refine Fo.yes rfl rfl ?_
        refine Fo.fa rfl ?_
        refine Fo.yes rfl rfl ?_
        refine Fo.ld rfl rfl ?_
        refine Fo.yes rfl rfl ?_
        refine Fo.bin rfl rfl rfl (by simp only [↓nrmL, nrmZ, Nat.reduceEqDiff, ↓reduceIte, Nat.reduceAdd, Int.reduceBEq, Int.reduceBNe, g1, g2, g3, g4, g5, e0]; rfl) ?_
        refine fB rfl rfl ?_
        refine mB rfl ?_
        refine Fo.yes rfl rfl ?_
        refine Fo.fa rfl ?_
        refine Fo.yes rfl rfl ?_
        refine Fo.ld rfl rfl ?_
        refine Fo.yes rfl rfl ?_
        refine Fo.fa rfl ?_
        refine Fo.yes rfl rfl ?_
        refine Fo.ld rfl rfl ?_
        refine Fo.yes rfl rfl ?_
        refine Fo.bin rfl rfl rfl (by simp only [↓nrmL, nrmZ, Nat.reduceEqDiff, ↓reduceIte, Nat.reduceAdd, Int.reduceBEq, Int.reduceBNe, g1, g2, g3, g4, g5, e0]; rfl) ?_
        refine fB rfl rfl ?_
        refine mB rfl ?_
        refine Fo.yes rfl rfl ?_
        refine Fo.fa rfl ?_
        refine Fo.yes rfl rfl ?_
        refine Fo.ld rfl rfl ?_
        refine Fo.yes rfl rfl ?_
        refine mI rfl ?_
        refine Fo.yes rfl rfl ?_
        refine Fo.bin rfl rfl rfl (by simp only [↓nrmL, nrmZ, Nat.reduceEqDiff, ↓reduceIte, Nat.reduceAdd, Int.reduceBEq, Int.reduceBNe, g1, g2, g3, g4, g5, e0]; rfl) ?_
        refine fB rfl rfl ?_
        refine WpO.nil (hKF _ _ ?_)
        refine Wp.cond (b := false) rfl ?_
        refine Wp.skip ?_
        refine sq ?_
        dsimp only [cond_true, cond_false]
        refine Fr.dregion0 rfl fun KF hKF => ?_
        try simp only [↓nrmL, nrmZ, Nat.reduceEqDiff, ↓reduceIte, Nat.reduceAdd, Int.reduceBEq, Int.reduceBNe, e0, hwm]
        refine Fe.pure rfl rfl (by simp only [↓nrmL, nrmZ, Nat.reduceEqDiff, ↓reduceIte, Nat.reduceAdd, Int.reduceBEq, Int.reduceBNe, e0, hwm]; rfl) ?_
        refine Fe.pure rfl rfl (by simp only [↓nrmL, nrmZ, Nat.reduceEqDiff, ↓reduceIte, Nat.reduceAdd, Int.reduceBEq, Int.reduceBNe, e0, hwm]; rfl) ?_
        refine Fe.pure rfl rfl (by simp only [↓nrmL, nrmZ, Nat.reduceEqDiff, ↓reduceIte, Nat.reduceAdd, Int.reduceBEq, Int.reduceBNe, e0, hwm]; rfl) ?_
        refine Fe.pure rfl rfl (by simp only [↓nrmL, nrmZ, Nat.reduceEqDiff, ↓reduceIte, Nat.reduceAdd, Int.reduceBEq, Int.reduceBNe, e0, hwm]; rfl) ?_
        refine Fe.pure rfl rfl (by simp only [↓nrmL, nrmZ, Nat.reduceEqDiff, ↓reduceIte, Nat.reduceAdd, Int.reduceBEq, Int.reduceBNe, e0, hwm]; rfl) ?_
        refine Fe.pure rfl rfl (by simp only [↓nrmL, nrmZ, Nat.reduceEqDiff, ↓reduceIte, Nat.reduceAdd, Int.reduceBEq, Int.reduceBNe, e0, hwm]; rfl) ?_
        refine Fe.pure rfl (exec_idxP (by (try simp only [↓nrmL, nrmZ, Nat.reduceEqDiff, ↓reduceIte, Nat.reduceAdd, Int.reduceBEq, Int.reduceBNe, e0, hwm]); rfl) rfl ?_) (by simp only [↓nrmL, nrmZ, Nat.reduceEqDiff, ↓reduceIte, Nat.reduceAdd, Int.reduceBEq, Int.reduceBNe, e0, hwm]; rfl) ?_; (focus omega)
        refine Fe.read rfl (exec_ldNP (p := p) (j := (i - 1) * 3) (m := 3) rfl (by decide) (by rw [cellsR_length]; omega) hcg2) rfl (by repeat (first | exact trivial | refine ⟨(by first | exact Or.inl (by dsimp only; decide)), ?_⟩)) ?_
        try simp only [↓nrmL, nrmZ, Nat.reduceEqDiff, ↓reduceIte, Nat.reduceAdd, Int.reduceBEq, Int.reduceBNe, hap2]
        refine Fe.read rfl (exec_ldN rfl rfl (by simp only [↓nrmL, nrmZ, Nat.reduceEqDiff, ↓reduceIte, Nat.reduceAdd, Int.reduceBEq, Int.reduceBNe, hap2]; rfl)) rfl (by repeat (first | exact trivial | refine ⟨(by first | exact Or.inl (by dsimp only; decide) | exact Or.inr (exec_ld rfl rfl) | exact Or.inr (exec_ldN rfl rfl rfl) | exact Or.inr (exec_ldB rfl (by omega)) | exact Or.inr (exec_ldI rfl (by omega)) | exact Or.inr ghost_of), ?_⟩)) ?_
        refine Fe.pcall (v' := ?_) rfl hn rfl (by simp only [↓nrmL, nrmZ, Nat.reduceEqDiff, ↓reduceIte, Nat.reduceAdd, Int.reduceBEq, Int.reduceBNe, hap2, List.map]; rfl) rfl ?hv fun _ _ => ⟨(by repeat (first | exact trivial | refine ⟨(by first | exact Or.inl (by dsimp only; decide) | exact Or.inr (readOk_of (exec_ld rfl rfl)) | exact Or.inr (readOk_of (exec_ldN rfl rfl rfl)) | exact Or.inr (readOk_of (exec_ldB rfl (by omega))) | exact Or.inr (readOk_of (exec_ldI rfl (by omega))) | exact Or.inr (made_of rfl)), ?_⟩)), ?_⟩; case hv => (simp only [↓nrmL, nrmZ, Nat.reduceEqDiff, ↓reduceIte, Nat.reduceAdd, Int.reduceBEq, Int.reduceBNe, hap2]; rfl)
        refine Fe.pure rfl rfl (by simp only [↓nrmL, nrmZ, Nat.reduceEqDiff, ↓reduceIte, Nat.reduceAdd, Int.reduceBEq, Int.reduceBNe, hap2]; rfl) ?_
        refine Fe.pure rfl rfl (by simp only [↓nrmL, nrmZ, Nat.reduceEqDiff, ↓reduceIte, Nat.reduceAdd, Int.reduceBEq, Int.reduceBNe, hap2]; rfl) ?_
        refine WpE.nil (hKF _ _ ?_)
        refine Wp.cond (b := false) rfl ?_
        refine Wp.skip ?_
        refine rg fun KF hKF => ?_
        refine Fo.bin rfl rfl rfl rfl ?_
        refine mI rfl ?_
        refine WpO.nil (hKF _ _ ?_)
        dsimp only [cond_true, cond_false]
        refine ⟨i + 1, by omega, ⟨by simp only [↓nrmL, nrmZ, Nat.reduceEqDiff, ↓reduceIte, Nat.reduceAdd, Int.reduceBEq, Int.reduceBNe]; rw [hw1], trivial⟩, hil, by simp only [properTo, hpr, hoa]; rfl, Ext0.ext⟩
     ·have hok : okRun r lines len = false := by unfold okRun; rw [g1, g2, g3, g4, g5]; simp
      have hoa : okAt l lines len i = false := by unfold okAt; rw [hre, hok]; rfl
      have hpf : properB l lines len = false := properTo_no hoa _ hil
      rw [hpf]
      try simp only [↓nrmL, nrmZ, Nat.reduceEqDiff, ↓reduceIte, Nat.reduceAdd, Int.reduceBEq, Int.reduceBNe, hc]
      refine sq ?_
      refine rg fun KF hKF => ?_
      refine Fo.bin rfl rfl rfl (by simp only [↓nrmL, nrmZ, Nat.reduceEqDiff, ↓reduceIte, Nat.reduceAdd, Int.reduceBEq, Int.reduceBNe, hc]; rfl) ?_
      refine WpO.nil (hKF _ _ ?_)
      refine sq ?_
      refine Wp.cond (b := true) rfl ?_
      refine Wp.skip ?_
      refine sq ?_
      refine Wp.block ?_
      refine sq ?_
      refine rg fun KF hKF => ?_
      refine mI rfl ?_
      refine Fo.idx (by simp only [↓nrmL, nrmK, Nat.reduceEqDiff, ↓reduceIte]; rfl) rfl ?_ (by simp only [↓nrmL, nrmZ, Nat.reduceEqDiff, ↓reduceIte, Nat.reduceAdd, Int.reduceBEq, Int.reduceBNe, hc]; rfl) ?_; (focus omega)
      refine WpO.do (WpX.ldNP (p := p) (j := i * 3) (m := 3) rfl (by decide) (by rw [cellsR_length]; omega) hcg ?_)
      try simp only [↓nrmL, nrmZ, Nat.reduceEqDiff, ↓reduceIte, Nat.reduceAdd, Int.reduceBEq, Int.reduceBNe, g1, g2, g3, g4, g5]
      refine Fo.new ?_
      refine mI rfl ?_
      refine Fo.st rfl (rfl : _ = AVal.agg _) rfl rfl rfl (by repeat (first | rfl | refine allOne_cons ?_)) (by simp only [↓nrmL, nrmZ, Nat.reduceEqDiff, ↓reduceIte, Nat.reduceAdd, Int.reduceBEq, Int.reduceBNe, g1, g2, g3, g4, g5]; rfl) ?_
      refine WpO.nil (hKF _ _ ?_)
      refine sq ?_
      refine sq ?_
      refine rg fun KF hKF => ?_
      refine Fo.fa rfl ?_
      refine Fo.ld rfl rfl ?_
      refine Fo.bin rfl rfl rfl (by simp only [↓nrmL, nrmZ, Nat.reduceEqDiff, ↓reduceIte, Nat.reduceAdd, Int.reduceBEq, Int.reduceBNe, g1, g2, g3, g4, g5]; rfl) ?_
      refine mB rfl ?_
      refine Fo.yes rfl rfl ?_
      refine Fo.fa rfl ?_
      refine Fo.yes rfl rfl ?_
      refine Fo.ld rfl rfl ?_
      refine Fo.yes rfl rfl ?_
      refine mI rfl ?_
      refine Fo.yes rfl rfl ?_
      refine Fo.bin rfl rfl rfl (by simp only [↓nrmL, nrmZ, Nat.reduceEqDiff, ↓reduceIte, Nat.reduceAdd, Int.reduceBEq, Int.reduceBNe, g1, g2, g3, g4, g5]; rfl) ?_
      refine fB rfl rfl ?_
      refine mB rfl ?_
      refine Fo.yes rfl rfl ?_
      refine Fo.fa rfl ?_
      refine Fo.yes rfl rfl ?_
      refine Fo.ld rfl rfl ?_
      refine Fo.yes rfl rfl ?_
      refine Fo.bin rfl rfl rfl (by simp only [↓nrmL, nrmZ, Nat.reduceEqDiff, ↓reduceIte, Nat.reduceAdd, Int.reduceBEq, Int.reduceBNe, g1, g2, g3, g4, g5]; rfl) ?_
      refine fB rfl rfl ?_
      refine mB rfl ?_
      refine Fo.yes rfl rfl ?_
      refine Fo.fa rfl ?_
      refine Fo.yes rfl rfl ?_
      refine Fo.ld rfl rfl ?_
      refine Fo.yes rfl rfl ?_
      refine Fo.fa rfl ?_
      refine Fo.yes rfl rfl ?_
      refine Fo.ld rfl rfl ?_
      refine Fo.yes rfl rfl ?_
      refine Fo.bin rfl rfl rfl (by simp only [↓nrmL, nrmZ, Nat.reduceEqDiff, ↓reduceIte, Nat.reduceAdd, Int.reduceBEq, Int.reduceBNe, g1, g2, g3, g4, g5]; rfl) ?_
      refine fB rfl rfl ?_
      refine mB rfl ?_
      refine Fo.yes rfl rfl ?_
      refine Fo.fa rfl ?_
      refine Fo.yes rfl rfl ?_
      refine Fo.ld rfl rfl ?_
      refine Fo.yes rfl rfl ?_
      refine mI rfl ?_
      refine Fo.yes rfl rfl ?_
      refine Fo.bin rfl rfl rfl (by simp only [↓nrmL, nrmZ, Nat.reduceEqDiff, ↓reduceIte, Nat.reduceAdd, Int.reduceBEq, Int.reduceBNe, g1, g2, g3, g4, g5]; rfl) ?_
      refine fB rfl rfl ?_
      refine WpO.nil (hKF _ _ ?_)
      refine Wp.cond (b := true) rfl ?_
      refine sq ?_
      refine rg fun KF hKF => ?_
      refine mB rfl ?_
      refine WpO.nil (hKF _ _ ?_)
      refine Wp.ret ?_
      dsimp only [cond_true, cond_false]
      refine ⟨trivial, _, rfl, ?_⟩
      exact ⟨rfl, Ext0.ext⟩
    ·have hok : okRun r lines len = false := by unfold okRun; rw [g1, g2, g3, g4]; simp
     have hoa : okAt l lines len i = false := by unfold okAt; rw [hre, hok]; rfl
     have hpf : properB l lines len = false := properTo_no hoa _ hil
     rw [hpf]
     try simp only [↓nrmL, nrmZ, Nat.reduceEqDiff, ↓reduceIte, Nat.reduceAdd, Int.reduceBEq, Int.reduceBNe, hc]
     refine sq ?_
     refine rg fun KF hKF => ?_
     refine Fo.bin rfl rfl rfl (by simp only [↓nrmL, nrmZ, Nat.reduceEqDiff, ↓reduceIte, Nat.reduceAdd, Int.reduceBEq, Int.reduceBNe, hc]; rfl) ?_
     refine WpO.nil (hKF _ _ ?_)
     refine sq ?_
     refine Wp.cond (b := true) rfl ?_
     refine Wp.skip ?_
     refine sq ?_
     refine Wp.block ?_
     refine sq ?_
     refine rg fun KF hKF => ?_
     refine mI rfl ?_
     refine Fo.idx (by simp only [↓nrmL, nrmK, Nat.reduceEqDiff, ↓reduceIte]; rfl) rfl ?_ (by simp only [↓nrmL, nrmZ, Nat.reduceEqDiff, ↓reduceIte, Nat.reduceAdd, Int.reduceBEq, Int.reduceBNe, hc]; rfl) ?_; (focus omega)
     refine WpO.do (WpX.ldNP (p := p) (j := i * 3) (m := 3) rfl (by decide) (by rw [cellsR_length]; omega) hcg ?_)
     try simp only [↓nrmL, nrmZ, Nat.reduceEqDiff, ↓reduceIte, Nat.reduceAdd, Int.reduceBEq, Int.reduceBNe, g1, g2, g3, g4]
     refine Fo.new ?_
     refine mI rfl ?_
     refine Fo.st rfl (rfl : _ = AVal.agg _) rfl rfl rfl (by repeat (first | rfl | refine allOne_cons ?_)) (by simp only [↓nrmL, nrmZ, Nat.reduceEqDiff, ↓reduceIte, Nat.reduceAdd, Int.reduceBEq, Int.reduceBNe, g1, g2, g3, g4]; rfl) ?_
     refine WpO.nil (hKF _ _ ?_)
     refine sq ?_
     refine sq ?_
     refine rg fun KF hKF => ?_
     refine Fo.fa rfl ?_
     refine Fo.ld rfl rfl ?_
     refine Fo.bin rfl rfl rfl (by simp only [↓nrmL, nrmZ, Nat.reduceEqDiff, ↓reduceIte, Nat.reduceAdd, Int.reduceBEq, Int.reduceBNe, g1, g2, g3, g4]; rfl) ?_
     refine mB rfl ?_
     refine Fo.yes rfl rfl ?_
     refine Fo.fa rfl ?_
     refine Fo.yes rfl rfl ?_
     refine Fo.ld rfl rfl ?_
     refine Fo.yes rfl rfl ?_
     refine mI rfl ?_
     refine Fo.yes rfl rfl ?_
     refine Fo.bin rfl rfl rfl (by simp only [↓nrmL, nrmZ, Nat.reduceEqDiff, ↓reduceIte, Nat.reduceAdd, Int.reduceBEq, Int.reduceBNe, g1, g2, g3, g4]; rfl) ?_
     refine fB rfl rfl ?_
     refine mB rfl ?_
     refine Fo.yes rfl rfl ?_
     refine Fo.fa rfl ?_
     refine Fo.yes rfl rfl ?_
     refine Fo.ld rfl rfl ?_
     refine Fo.yes rfl rfl ?_
     refine Fo.bin rfl rfl rfl (by simp only [↓nrmL, nrmZ, Nat.reduceEqDiff, ↓reduceIte, Nat.reduceAdd, Int.reduceBEq, Int.reduceBNe, g1, g2, g3, g4]; rfl) ?_
     refine fB rfl rfl ?_
     refine mB rfl ?_
     refine Fo.yes rfl rfl ?_
     refine Fo.fa rfl ?_
     refine Fo.yes rfl rfl ?_
     refine Fo.ld rfl rfl ?_
     refine Fo.yes rfl rfl ?_
     refine Fo.fa rfl ?_
     refine Fo.yes rfl rfl ?_
     refine Fo.ld rfl rfl ?_
     refine Fo.yes rfl rfl ?_
     refine Fo.bin rfl rfl rfl (by simp only [↓nrmL, nrmZ, Nat.reduceEqDiff, ↓reduceIte, Nat.reduceAdd, Int.reduceBEq, Int.reduceBNe, g1, g2, g3, g4]; rfl) ?_
     refine fB rfl rfl ?_
     refine mB rfl ?_
     refine Fo.no rfl rfl ?_
     refine Fo.no rfl rfl ?_
     refine Fo.no rfl rfl ?_
     refine Fo.no rfl rfl ?_
     refine tB rfl rfl ?_
     refine WpO.nil (hKF _ _ ?_)
     refine Wp.cond (b := true) rfl ?_
     refine sq ?_
     refine rg fun KF hKF => ?_
     refine mB rfl ?_
     refine WpO.nil (hKF _ _ ?_)
     refine Wp.ret ?_
     dsimp only [cond_true, cond_false]
     refine ⟨trivial, _, rfl, ?_⟩
     exact ⟨rfl, Ext0.ext⟩
   ·have hok : okRun r lines len = false := by unfold okRun; rw [g1, g2, g3]; simp
    have hoa : okAt l lines len i = false := by unfold okAt; rw [hre, hok]; rfl
    have hpf : properB l lines len = false := properTo_no hoa _ hil
    rw [hpf]
    try simp only [↓nrmL, nrmZ, Nat.reduceEqDiff, ↓reduceIte, Nat.reduceAdd, Int.reduceBEq, Int.reduceBNe, hc]
    refine sq ?_
    refine rg fun KF hKF => ?_
    refine Fo.bin rfl rfl rfl (by simp only [↓nrmL, nrmZ, Nat.reduceEqDiff, ↓reduceIte, Nat.reduceAdd, Int.reduceBEq, Int.reduceBNe, hc]; rfl) ?_
    refine WpO.nil (hKF _ _ ?_)
    refine sq ?_
    refine Wp.cond (b := true) rfl ?_
    refine Wp.skip ?_
    refine sq ?_
    refine Wp.block ?_
    refine sq ?_
    refine rg fun KF hKF => ?_
    refine mI rfl ?_
    refine Fo.idx (by simp only [↓nrmL, nrmK, Nat.reduceEqDiff, ↓reduceIte]; rfl) rfl ?_ (by simp only [↓nrmL, nrmZ, Nat.reduceEqDiff, ↓reduceIte, Nat.reduceAdd, Int.reduceBEq, Int.reduceBNe, hc]; rfl) ?_; (focus omega)
    refine WpO.do (WpX.ldNP (p := p) (j := i * 3) (m := 3) rfl (by decide) (by rw [cellsR_length]; omega) hcg ?_)
    try simp only [↓nrmL, nrmZ, Nat.reduceEqDiff, ↓reduceIte, Nat.reduceAdd, Int.reduceBEq, Int.reduceBNe, g1, g2, g3]
    refine Fo.new ?_
    refine mI rfl ?_
    refine Fo.st rfl (rfl : _ = AVal.agg _) rfl rfl rfl (by repeat (first | rfl | refine allOne_cons ?_)) (by simp only [↓nrmL, nrmZ, Nat.reduceEqDiff, ↓reduceIte, Nat.reduceAdd, Int.reduceBEq, Int.reduceBNe, g1, g2, g3]; rfl) ?_
    refine WpO.nil (hKF _ _ ?_)
    refine sq ?_
    refine sq ?_
    refine rg fun KF hKF => ?_
    refine Fo.fa rfl ?_
    refine Fo.ld rfl rfl ?_
    refine Fo.bin rfl rfl rfl (by simp only [↓nrmL, nrmZ, Nat.reduceEqDiff, ↓reduceIte, Nat.reduceAdd, Int.reduceBEq, Int.reduceBNe, g1, g2, g3]; rfl) ?_
    refine mB rfl ?_
    refine Fo.yes rfl rfl ?_
    refine Fo.fa rfl ?_
    refine Fo.yes rfl rfl ?_
    refine Fo.ld rfl rfl ?_
    refine Fo.yes rfl rfl ?_
    refine mI rfl ?_
    refine Fo.yes rfl rfl ?_
    refine Fo.bin rfl rfl rfl (by simp only [↓nrmL, nrmZ, Nat.reduceEqDiff, ↓reduceIte, Nat.reduceAdd, Int.reduceBEq, Int.reduceBNe, g1, g2, g3]; rfl) ?_
    refine fB rfl rfl ?_
    refine mB rfl ?_
    refine Fo.yes rfl rfl ?_
    refine Fo.fa rfl ?_
    refine Fo.yes rfl rfl ?_
    refine Fo.ld rfl rfl ?_
    refine Fo.yes rfl rfl ?_
    refine Fo.bin rfl rfl rfl (by simp only [↓nrmL, nrmZ, Nat.reduceEqDiff, ↓reduceIte, Nat.reduceAdd, Int.reduceBEq, Int.reduceBNe, g1, g2, g3]; rfl) ?_
    refine fB rfl rfl ?_
    refine mB rfl ?_
    refine Fo.no rfl rfl ?_
    refine Fo.no rfl rfl ?_
    refine Fo.no rfl rfl ?_
    refine Fo.no rfl rfl ?_
    refine Fo.no rfl rfl ?_
    refine tB rfl rfl ?_
    refine mB rfl ?_
    refine Fo.no rfl rfl ?_
    refine Fo.no rfl rfl ?_
    refine Fo.no rfl rfl ?_
    refine Fo.no rfl rfl ?_
    refine tB rfl rfl ?_
    refine WpO.nil (hKF _ _ ?_)
    refine Wp.cond (b := true) rfl ?_
    refine sq ?_
    refine rg fun KF hKF => ?_
    refine mB rfl ?_
    refine WpO.nil (hKF _ _ ?_)
    refine Wp.ret ?_
    dsimp only [cond_true, cond_false]
    refine ⟨trivial, _, rfl, ?_⟩
    exact ⟨rfl, Ext0.ext⟩
  ·have hok : okRun r lines len = false := by unfold okRun; rw [g1, g2]; simp
   have hoa : okAt l lines len i = false := by unfold okAt; rw [hre, hok]; rfl
   have hpf : properB l lines len = false := properTo_no hoa _ hil
   rw [hpf]
   try simp only [↓nrmL, nrmZ, Nat.reduceEqDiff, ↓reduceIte, Nat.reduceAdd, Int.reduceBEq, Int.reduceBNe, hc]
   refine sq ?_
   refine rg fun KF hKF => ?_
   refine Fo.bin rfl rfl rfl (by simp only [↓nrmL, nrmZ, Nat.reduceEqDiff, ↓reduceIte, Nat.reduceAdd, Int.reduceBEq, Int.reduceBNe, hc]; rfl) ?_
   refine WpO.nil (hKF _ _ ?_)
   refine sq ?_
   refine Wp.cond (b := true) rfl ?_
   refine Wp.skip ?_
   refine sq ?_
   refine Wp.block ?_
   refine sq ?_
   refine rg fun KF hKF => ?_
   refine mI rfl ?_
   refine Fo.idx (by simp only [↓nrmL, nrmK, Nat.reduceEqDiff, ↓reduceIte]; rfl) rfl ?_ (by simp only [↓nrmL, nrmZ, Nat.reduceEqDiff, ↓reduceIte, Nat.reduceAdd, Int.reduceBEq, Int.reduceBNe, hc]; rfl) ?_; (focus omega)
   refine WpO.do (WpX.ldNP (p := p) (j := i * 3) (m := 3) rfl (by decide) (by rw [cellsR_length]; omega) hcg ?_)
   try simp only [↓nrmL, nrmZ, Nat.reduceEqDiff, ↓reduceIte, Nat.reduceAdd, Int.reduceBEq, Int.reduceBNe, g1, g2]
   refine Fo.new ?_
   refine mI rfl ?_
   refine Fo.st rfl (rfl : _ = AVal.agg _) rfl rfl rfl (by repeat (first | rfl | refine allOne_cons ?_)) (by simp only [↓nrmL, nrmZ, Nat.reduceEqDiff, ↓reduceIte, Nat.reduceAdd, Int.reduceBEq, Int.reduceBNe, g1, g2]; rfl) ?_
   refine WpO.nil (hKF _ _ ?_)
   refine sq ?_
   refine sq ?_
   refine rg fun KF hKF => ?_
   refine Fo.fa rfl ?_
   refine Fo.ld rfl rfl ?_
   refine Fo.bin rfl rfl rfl (by simp only [↓nrmL, nrmZ, Nat.reduceEqDiff, ↓reduceIte, Nat.reduceAdd, Int.reduceBEq, Int.reduceBNe, g1, g2]; rfl) ?_
   refine mB rfl ?_
   refine Fo.yes rfl rfl ?_
   refine Fo.fa rfl ?_
   refine Fo.yes rfl rfl ?_
   refine Fo.ld rfl rfl ?_
   refine Fo.yes rfl rfl ?_
   refine mI rfl ?_
   refine Fo.yes rfl rfl ?_
   refine Fo.bin rfl rfl rfl (by simp only [↓nrmL, nrmZ, Nat.reduceEqDiff, ↓reduceIte, Nat.reduceAdd, Int.reduceBEq, Int.reduceBNe, g1, g2]; rfl) ?_
   refine fB rfl rfl ?_
   refine mB rfl ?_
   refine Fo.no rfl rfl ?_
   refine Fo.no rfl rfl ?_
   refine Fo.no rfl rfl ?_
   refine tB rfl rfl ?_
   refine mB rfl ?_
   refine Fo.no rfl rfl ?_
   refine Fo.no rfl rfl ?_
   refine Fo.no rfl rfl ?_
   refine Fo.no rfl rfl ?_
   refine Fo.no rfl rfl ?_
   refine tB rfl rfl ?_
   refine mB rfl ?_
   refine Fo.no rfl rfl ?_
   refine Fo.no rfl rfl ?_
   refine Fo.no rfl rfl ?_
   refine Fo.no rfl rfl ?_
   refine tB rfl rfl ?_
   refine WpO.nil (hKF _ _ ?_)
   refine Wp.cond (b := true) rfl ?_
   refine sq ?_
   refine rg fun KF hKF => ?_
   refine mB rfl ?_
   refine WpO.nil (hKF _ _ ?_)
   refine Wp.ret ?_
   dsimp only [cond_true, cond_false]
   refine ⟨trivial, _, rfl, ?_⟩
   exact ⟨rfl, Ext0.ext⟩
 ·have hok : okRun r lines len = false := by unfold okRun; rw [g1]; simp
  have hoa : okAt l lines len i = false := by unfold okAt; rw [hre, hok]; rfl
  have hpf : properB l lines len = false := properTo_no hoa _ hil
  rw [hpf]
  try simp only [↓nrmL, nrmZ, Nat.reduceEqDiff, ↓reduceIte, Nat.reduceAdd, Int.reduceBEq, Int.reduceBNe, hc]
  refine sq ?_
  refine rg fun KF hKF => ?_
  refine Fo.bin rfl rfl rfl (by simp only [↓nrmL, nrmZ, Nat.reduceEqDiff, ↓reduceIte, Nat.reduceAdd, Int.reduceBEq, Int.reduceBNe, hc]; rfl) ?_
  refine WpO.nil (hKF _ _ ?_)
  refine sq ?_
  refine Wp.cond (b := true) rfl ?_
  refine Wp.skip ?_
  refine sq ?_
  refine Wp.block ?_
  refine sq ?_
  refine rg fun KF hKF => ?_
  refine mI rfl ?_
  refine Fo.idx (by simp only [↓nrmL, nrmK, Nat.reduceEqDiff, ↓reduceIte]; rfl) rfl ?_ (by simp only [↓nrmL, nrmZ, Nat.reduceEqDiff, ↓reduceIte, Nat.reduceAdd, Int.reduceBEq, Int.reduceBNe, hc]; rfl) ?_; (focus omega)
  refine WpO.do (WpX.ldNP (p := p) (j := i * 3) (m := 3) rfl (by decide) (by rw [cellsR_length]; omega) hcg ?_)
  try simp only [↓nrmL, nrmZ, Nat.reduceEqDiff, ↓reduceIte, Nat.reduceAdd, Int.reduceBEq, Int.reduceBNe, g1]
  refine Fo.new ?_
  refine mI rfl ?_
  refine Fo.st rfl (rfl : _ = AVal.agg _) rfl rfl rfl (by repeat (first | rfl | refine allOne_cons ?_)) (by simp only [↓nrmL, nrmZ, Nat.reduceEqDiff, ↓reduceIte, Nat.reduceAdd, Int.reduceBEq, Int.reduceBNe, g1]; rfl) ?_
  refine WpO.nil (hKF _ _ ?_)
  refine sq ?_
  refine sq ?_
  refine rg fun KF hKF => ?_
  refine Fo.fa rfl ?_
  refine Fo.ld rfl rfl ?_
  refine Fo.bin rfl rfl rfl (by simp only [↓nrmL, nrmZ, Nat.reduceEqDiff, ↓reduceIte, Nat.reduceAdd, Int.reduceBEq, Int.reduceBNe, g1]; rfl) ?_
  refine mB rfl ?_
  refine Fo.no rfl rfl ?_
  refine Fo.no rfl rfl ?_
  refine Fo.no rfl rfl ?_
  refine Fo.no rfl rfl ?_
  refine tB rfl rfl ?_
  refine mB rfl ?_
  refine Fo.no rfl rfl ?_
  refine Fo.no rfl rfl ?_
  refine Fo.no rfl rfl ?_
  refine tB rfl rfl ?_
  refine mB rfl ?_
  refine Fo.no rfl rfl ?_
  refine Fo.no rfl rfl ?_
  refine Fo.no rfl rfl ?_
  refine Fo.no rfl rfl ?_
  refine Fo.no rfl rfl ?_
  refine tB rfl rfl ?_
  refine mB rfl ?_
  refine Fo.no rfl rfl ?_
  refine Fo.no rfl rfl ?_
  refine Fo.no rfl rfl ?_
  refine Fo.no rfl rfl ?_
  refine tB rfl rfl ?_
  refine WpO.nil (hKF _ _ ?_)
  refine Wp.cond (b := true) rfl ?_
  refine sq ?_
  refine rg fun KF hKF => ?_
  refine mB rfl ?_
  refine WpO.nil (hKF _ _ ?_)
  refine Wp.ret ?_
  dsimp only [cond_true, cond_false]
  refine ⟨trivial, _, rfl, ?_⟩
  exact ⟨rfl, Ext0.ext⟩⟩
end Go.Am

set_option maxHeartbeats 4000000
set_option maxRecDepth 100000
set_option synthInstance.maxHeartbeats 4000000
set_option synthInstance.maxSize 100000
namespace Go.Am
open Go
attribute [local irreducible] Wp WpO WpX WpE

def inRun (r : RunT) (y c : Nat) : Bool := decide (r.1 = (y : Int)) && decide (r.2.1 ≤ (c : Int)) && decide ((c : Int) ≤ r.2.2)
def prt (r : RunT) (y c x : Nat) : Bool := decide (r.1 = (y : Int)) && decide (r.2.1 ≤ (c : Int)) && decide (c < x)
/-- What the first i runs cover; and the next one, up to x. -/
def pB (l : List RunT) (L C : Nat → Nat) (i k : Nat) : Bool := (l.take i).any fun r => inRun r (L k) (C k)
def pP (l : List RunT) (L C : Nat → Nat) (i x k : Nat) : Bool := pB l L C i k || prt (l.getD i run0) (L k) (C k) x
def paint (l : List RunT) (L C : Nat → Nat) (n : Nat) : List UInt8 := (List.range n).map fun k => if (l.any fun r => inRun r (L k) (C k)) = true then 1 else 0
theorem pP_start {l : List RunT} {L C : Nat → Nat} {i f k : Nat} (h : (l.getD i run0).2.1 = (f : Int)) : pP l L C i f k = pB l L C i k := by
 have : prt (l.getD i run0) (L k) (C k) f = false := by
  unfold prt
  rw [h]
  by_cases h1 : C k < f
  ·have h2 : ¬ ((f : Int) ≤ (C k : Int)) := by omega
   rw [decide_eq_false h2]; simp
  ·rw [decide_eq_false h1]; simp
 unfold pP
 rw [this, Bool.or_false]
theorem pP_next {l : List RunT} {L C : Nat → Nat} {i m x j k : Nat} (h1 : (l.getD i run0).1 = (m : Int)) (h2 : (l.getD i run0).2.1 ≤ (x : Int)) (hj : k = j ↔ (L k = m ∧ C k = x)) : pP l L C i (x + 1) k = true ↔ pP l L C i x k = true ∨ k = j := by
 rw [hj]
 unfold pP prt
 rw [h1]
 cases hb : pB l L C i k
 ·simp only [Bool.false_or, Bool.and_eq_true, decide_eq_true_eq]
  constructor
  ·rintro ⟨⟨a, b⟩, c⟩
   by_cases hc : C k < x
   ·exact Or.inl ⟨⟨a, b⟩, hc⟩
   ·exact Or.inr ⟨by omega, by omega⟩
  ·rintro (⟨⟨a, b⟩, c⟩ | ⟨a, b⟩)
   ·exact ⟨⟨a, b⟩, by omega⟩
   ·exact ⟨⟨by omega, by rw [b]; exact h2⟩, by omega⟩
 ·simp
theorem pB_succ {l : List RunT} {L C : Nat → Nat} {i k : Nat} (hi : i < l.length) : pB l L C (i + 1) k = (pB l L C i k || inRun (l.getD i run0) (L k) (C k)) := by
 unfold pB
 have e : l.getD i run0 = l[i] := by simp [hi]
 rw [List.take_succ_eq_append_getElem hi, List.any_append, e]
 simp
theorem pP_end {l : List RunT} {L C : Nat → Nat} {i t k : Nat} (hi : i < l.length) (h : (l.getD i run0).2.2 = (t : Int)) : pP l L C i (t + 1) k = pB l L C (i + 1) k := by
 rw [pB_succ hi]
 unfold pP prt inRun
 rw [h]
 have : decide (C k < t + 1) = decide ((C k : Int) ≤ (t : Int)) := by
  by_cases h1 : C k < t + 1
  ·rw [decide_eq_true h1, decide_eq_true (by omega)]
  ·rw [decide_eq_false h1, decide_eq_false (by omega)]
 rw [this]
theorem okRun_facts {r : RunT} {lines len : Nat} (h : okRun r lines len = true) : ∃ m f t : Nat, r.1 = m ∧ r.2.1 = f ∧ r.2.2 = t ∧ m < lines ∧ f ≤ t ∧ t < len := by
 unfold okRun at h
 simp only [Bool.and_eq_true, Bool.not_eq_true', decide_eq_false_iff_not] at h
 exact ⟨r.1.toNat, r.2.1.toNat, r.2.2.toNat, by omega, by omega, by omega, by omega, by omega, by omega⟩
theorem okAt_run {l : List RunT} {lines len : Int} {i : Nat} (h : okAt l lines len i = true) : okRun (l.getD i run0) lines len = true := by
 unfold okAt at h
 rw [Bool.and_eq_true] at h
 exact h.1
def fromSpec (w h : Int) (l : List RunT) (lines len : Int) (L C : Nat → Nat) : Img × Int := bif sideB w && sideB h then (bif properB l lines len then (⟨w, h, paint l L C (w.toNat * h.toNat)⟩, 0) else (.zero, 1)) else (.zero, 2)
def rowsImg (w h : Int) (l : List RunT) : Img × Int := fromSpec w h l h w (fun k => k / w.toNat) (fun k => k % w.toNat)
def colsImg (w h : Int) (l : List RunT) : Img × Int := fromSpec w h l w h (fun k => k % w.toNat) (fun k => k / w.toNat)

theorem K_FromRows {w h : Int} {p : AVal} {H : AHeap} {l : List RunT} [hp : RunsI H p l] [hs : ShortR l] : Con ext prog 5 52 [.int .i64 w, .int .i64 h, p] H fun v H' => InkRes H H' v (rowsImg w h l) := by
 refine con_of (show prog 52 = some c52 from rfl) rfl rfl fun n hn => ?_
 haveI := hp.one
 have hsl := hs.le
 unfold rowsImg fromSpec
 cases hside : (sideB w && sideB h)
 ·skip
  refine sq ?_
  refine rg fun KF hKF => ?_
  refine Fo.new ?_
  refine mI rfl ?_
  refine WpO.nil (hKF _ _ ?_)
  refine sq ?_
  refine rg fun KF hKF => ?_
  refine mI rfl ?_
  refine mI rfl ?_
  refine WpO.do (WpX.conD hn rfl rfl (by simp only [↓nrmL, nrmZ, Nat.reduceEqDiff, ↓reduceIte, List.map] <;> rfl) (K_New (w := w) (h := h)) fun v H1 h5 => ?_)
  rw [hside] at h5
  obtain ⟨u, e1, q, e2, hq, hf, hw, hx⟩ := h5
  subst e1 e2
  haveI : ExtI _ H1 := ⟨hx⟩
  haveI := hq.one
  refine mT rfl ?_
  refine Fo.extr rfl rfl ?_
  refine Fo.extr rfl rfl ?_
  refine Fo.new ?_
  refine Fo.st rfl (rfl : _ = AVal.agg _) rfl rfl rfl (by repeat (first | rfl | refine allOne_cons ?_)) (by simp only [↓nrmL, nrmZ, Nat.reduceEqDiff, ↓reduceIte]; rfl) ?_
  refine mI rfl ?_
  refine WpO.nil (hKF _ _ ?_)
  refine sq ?_
  refine sq ?_
  refine rg fun KF hKF => ?_
  refine mI rfl ?_
  refine Fo.bin rfl rfl rfl rfl ?_
  refine WpO.nil (hKF _ _ ?_)
  refine Wp.cond (b := true) rfl ?_
  refine sq ?_
  refine rg fun KF hKF => ?_
  refine Fo.build (by repeat (first | refine aFill1 (by first | exact (rfl : _ = AVal.int _ _) | exact (rfl : _ = AVal.ptr _ _) | exact (rfl : _ = AVal.bool _) | exact (rfl : _ = AVal.agg _) | exact (rfl : _ = AVal.tuple _) | exact (rfl : _ = AVal.func _ _ _) | exact (rfl : _ = AVal.nslice) | ((try simp only [↓nrmL, nrmK, Nat.reduceEqDiff, ↓reduceIte]); rfl)) rfl ?_ | rfl)) rfl ?_
  refine mI rfl ?_
  refine Fo.st rfl (rfl : _ = AVal.agg _) rfl rfl rfl (by repeat (first | rfl | refine allOne_cons ?_)) (by simp only [↓nrmL, nrmZ, Nat.reduceEqDiff, ↓reduceIte]; rfl) ?_
  refine mI rfl ?_
  refine WpO.nil (hKF _ _ ?_)
  refine Wp.ret ?_
  dsimp only [cond_true, cond_false]
  refine ⟨trivial, _, (getAllC rfl rfl rfl rfl), ?_⟩
  exact ⟨_, rfl, newZero⟩
 obtain ⟨a, b, rfl, rfl, ha, hb⟩ : ∃ a b : Nat, w = a ∧ h = b ∧ a ≤ 640 ∧ b ≤ 640 := by
  simp only [sideB, Bool.and_eq_true, decide_eq_true_eq] at hside
  exact ⟨w.toNat, h.toNat, by omega, by omega, by omega, by omega⟩
 have hm : a * b ≤ 640 * 640 := Nat.mul_le_mul ha hb
 simp only [Int.toNat_natCast, cond_true]
 cases hpr : properB l (b : Nat) (a : Nat)
 ·skip
  refine sq ?_
  refine rg fun KF hKF => ?_
  refine Fo.new ?_
  refine mI rfl ?_
  refine WpO.nil (hKF _ _ ?_)
  refine sq ?_
  refine rg fun KF hKF => ?_
  refine mI rfl ?_
  refine mI rfl ?_
  refine WpO.do (WpX.conD hn rfl rfl (by simp only [↓nrmL, nrmZ, Nat.reduceEqDiff, ↓reduceIte, List.map] <;> rfl) (K_New (w := a) (h := b)) fun v H1 h5 => ?_)
  rw [hside] at h5
  obtain ⟨u, e1, q, e2, hq, hf, hwq, hx⟩ := h5
  subst e1 e2
  haveI : ExtI _ H1 := ⟨hx⟩
  haveI := hq.one
  try simp only [↓nrmL, nrmZ, Nat.reduceEqDiff, ↓reduceIte, hpr]
  refine mT rfl ?_
  refine Fo.extr rfl rfl ?_
  refine Fo.extr rfl rfl ?_
  refine Fo.new ?_
  refine Fo.st rfl (rfl : _ = AVal.agg _) rfl rfl rfl (by repeat (first | rfl | refine allOne_cons ?_)) (by simp only [↓nrmL, nrmZ, Nat.reduceEqDiff, ↓reduceIte, hpr]; rfl) ?_
  refine mI rfl ?_
  refine WpO.nil (hKF _ _ ?_)
  refine sq ?_
  refine sq ?_
  refine rg fun KF hKF => ?_
  refine mI rfl ?_
  refine Fo.bin rfl rfl rfl rfl ?_
  refine WpO.nil (hKF _ _ ?_)
  refine Wp.cond (b := false) rfl ?_
  refine Wp.skip ?_
  refine sq ?_
  refine sq ?_
  refine rg fun KF hKF => ?_
  refine Fo.mov (by simp only [↓nrmL, nrmK, Nat.reduceEqDiff, ↓reduceIte]; rfl) ?_
  refine mI rfl ?_
  refine mI rfl ?_
  refine Fo.pcall (v' := ?_) hn rfl (by simp only [↓nrmL, nrmZ, Nat.reduceEqDiff, ↓reduceIte, hpr, List.map]; rfl) rfl ?hv fun _ _ => ?_; case hv => (simp only [↓nrmL, nrmZ, Nat.reduceEqDiff, ↓reduceIte, hpr]; rfl)
  refine Fo.now rfl rfl (by simp only [↓nrmL, nrmZ, Nat.reduceEqDiff, ↓reduceIte, hpr]; rfl) ?_
  refine WpO.nil (hKF _ _ ?_)
  refine Wp.cond (b := true) rfl ?_
  refine sq ?_
  refine rg fun KF hKF => ?_
  refine Fo.build (by repeat (first | refine aFill1 (by first | exact (rfl : _ = AVal.int _ _) | exact (rfl : _ = AVal.ptr _ _) | exact (rfl : _ = AVal.bool _) | exact (rfl : _ = AVal.agg _) | exact (rfl : _ = AVal.tuple _) | exact (rfl : _ = AVal.func _ _ _) | exact (rfl : _ = AVal.nslice) | ((try simp only [↓nrmL, nrmK, Nat.reduceEqDiff, ↓reduceIte]); rfl)) rfl ?_ | rfl)) rfl ?_
  refine Fo.st rfl (rfl : _ = AVal.agg _) rfl rfl rfl (by repeat (first | rfl | refine allOne_cons ?_)) (by simp only [↓nrmL, nrmZ, Nat.reduceEqDiff, ↓reduceIte, hpr]; rfl) ?_
  refine mI rfl ?_
  refine WpO.nil (hKF _ _ ?_)
  refine Wp.ret ?_
  dsimp only [cond_true, cond_false]
  refine ⟨trivial, _, (getAllC rfl rfl rfl rfl), ?_⟩
  exact ⟨_, rfl, newZero⟩
 refine sq ?_
 refine rg fun KF hKF => ?_
 refine Fo.new ?_
 refine mI rfl ?_
 refine WpO.nil (hKF _ _ ?_)
 refine sq ?_
 refine rg fun KF hKF => ?_
 refine mI rfl ?_
 refine mI rfl ?_
 refine WpO.do (WpX.conD hn rfl rfl (by simp only [↓nrmL, nrmZ, Nat.reduceEqDiff, ↓reduceIte, List.map] <;> rfl) (K_New (w := a) (h := b)) fun v H1 h5 => ?_)
 rw [hside] at h5
 obtain ⟨u, e1, q, e2, hq, hf, hwq, hx⟩ := h5
 subst e1 e2
 have hq : BytesI H1 q (List.replicate (a * b) 0) := by
  have := hq
  simp only [cond_true, Int.toNat_natCast] at this
  exact this
 haveI : ExtI _ H1 := ⟨hx⟩
 haveI := hq.one
 try simp only [↓nrmL, nrmZ, Nat.reduceEqDiff, ↓reduceIte, hpr]
 refine mT rfl ?_
 refine Fo.extr rfl rfl ?_
 refine Fo.extr rfl rfl ?_
 refine Fo.new ?_
 refine Fo.st rfl (rfl : _ = AVal.agg _) rfl rfl rfl (by repeat (first | rfl | refine allOne_cons ?_)) (by simp only [↓nrmL, nrmZ, Nat.reduceEqDiff, ↓reduceIte, hpr]; rfl) ?_
 refine mI rfl ?_
 refine WpO.nil (hKF _ _ ?_)
 refine sq ?_
 refine sq ?_
 refine rg fun KF hKF => ?_
 refine mI rfl ?_
 refine Fo.bin rfl rfl rfl rfl ?_
 refine WpO.nil (hKF _ _ ?_)
 refine Wp.cond (b := false) rfl ?_
 refine Wp.skip ?_
 refine sq ?_
 refine sq ?_
 refine rg fun KF hKF => ?_
 refine Fo.mov (by simp only [↓nrmL, nrmK, Nat.reduceEqDiff, ↓reduceIte]; rfl) ?_
 refine mI rfl ?_
 refine mI rfl ?_
 refine Fo.pcall (v' := ?_) hn rfl (by simp only [↓nrmL, nrmZ, Nat.reduceEqDiff, ↓reduceIte, hpr, List.map]; rfl) rfl ?hv fun _ _ => ?_; case hv => (simp only [↓nrmL, nrmZ, Nat.reduceEqDiff, ↓reduceIte, hpr]; rfl)
 refine Fo.now rfl rfl (by simp only [↓nrmL, nrmZ, Nat.reduceEqDiff, ↓reduceIte, hpr]; rfl) ?_
 refine WpO.nil (hKF _ _ ?_)
 refine Wp.cond (b := false) rfl ?_
 refine Wp.skip ?_
 refine sq ?_
 refine sq ?_
 refine rg fun KF hKF => ?_
 refine Fo.mov (by simp only [↓nrmL, nrmK, Nat.reduceEqDiff, ↓reduceIte]; rfl) ?_
 refine Fo.len (v := ?_) (by simp only [↓nrmL, nrmK, Nat.reduceEqDiff, ↓reduceIte]; rfl) ?hv ?_; case hv => rfl
 refine mI rfl ?_
 refine WpO.nil (hKF _ _ ?_)
 refine Wp.block ?_
 dsimp only [cond_true, cond_false]
 refine Wp.loopS [11, 12, 31, 32, 33, 34, 35, 36, 37, 38, 39, 40, 41, 42, 43, 44, 45, 46, 47, 48, 49, 50, 51, 52] (fun i : Nat => [(31, .int .i64 i)]) (fun H3 i H2 => i ≤ l.length ∧ BytesI H2 q (fillP (pB l (fun k => k / a) (fun k => k % a) i) (fun _ => 1) (a * b)) ∧ WrS H2 q ∧ ExtP0 H3 H2 q) (fun i => l.length - i) 0 rfl (fun _ => rfl) ⟨rfl, trivial⟩ ⟨Nat.zero_le _, by rw [fillP_none (P := pB l (fun k => k / a) (fun k => k % a) 0) (fun k _ => by simp [pB])]; infer_instance, inferInstance, inferInstance⟩ (by unfold fuel0 at hn; omega) ?_
 rintro i g H2 ⟨hi, hb2, hw2, ⟨hx2⟩⟩
 simp only [↓nrmL, nrmZ, Nat.reduceEqDiff, ↓reduceIte]
 cases hc : decide ((i : Int) < (l.length : Int))
 ·have hil : i = l.length := by have := of_decide_eq_false hc; omega
  try simp only [↓nrmL, nrmZ, Nat.reduceEqDiff, ↓reduceIte, hc]
  refine sq ?_
  refine rg fun KF hKF => ?_
  refine Fo.bin rfl rfl rfl (by simp only [↓nrmL, nrmZ, Nat.reduceEqDiff, ↓reduceIte, hc]; rfl) ?_
  refine WpO.nil (hKF _ _ ?_)
  refine sq ?_
  refine Wp.cond (b := false) rfl ?_
  refine Wp.exit ?_
  refine sq ?_
  refine rg fun KF hKF => ?_
  refine Fo.ldN rfl rfl (by simp only [↓nrmL, nrmZ, Nat.reduceEqDiff, ↓reduceIte, hc]; rfl) ?_
  refine Fo.st rfl (rfl : _ = AVal.agg _) rfl rfl rfl (by repeat (first | rfl | refine allOne_cons ?_)) (by simp only [↓nrmL, nrmZ, Nat.reduceEqDiff, ↓reduceIte, hc]; rfl) ?_
  refine mI rfl ?_
  refine WpO.nil (hKF _ _ ?_)
  refine Wp.ret ?_
  dsimp only [cond_true, cond_false]
  refine ⟨trivial, _, (getAllC rfl rfl rfl rfl), ?_⟩
  refine ⟨_, rfl, q, rfl, (show BytesI _ q (paint l (fun k => k / a) (fun k => k % a) (a * b)) from ?_), hf.weak, inferInstance, Ext0.ext⟩
  have e : fillP (pB l (fun k => k / a) (fun k => k % a) i) (fun _ => 1) (a * b) = paint l (fun k => k / a) (fun k => k % a) (a * b) := by
   unfold fillP paint pB
   rw [hil, List.take_length]
  rw [← e]
  infer_instance
 have hil : i < l.length := by have := of_decide_eq_true hc; omega
 have hw1 := wa1 (a := i) (by omega)
 have hcg := cellsR_get (l := l) (i := i) hil
 obtain ⟨m, f, t, em, ef, et, hmb, hft, hta⟩ := okRun_facts (okAt_run (properTo_get hpr i hil))
 rw [em, ef, et] at hcg
 try simp only [↓nrmL, nrmZ, Nat.reduceEqDiff, ↓reduceIte, hc]
 refine sq ?_
 refine rg fun KF hKF => ?_
 refine Fo.bin rfl rfl rfl (by simp only [↓nrmL, nrmZ, Nat.reduceEqDiff, ↓reduceIte, hc]; rfl) ?_
 refine WpO.nil (hKF _ _ ?_)
 refine sq ?_
 refine Wp.cond (b := true) rfl ?_
 refine Wp.skip ?_
 refine sq ?_
 refine Wp.block ?_
 refine sq ?_
 refine rg fun KF hKF => ?_
 refine Fo.idx (by simp only [↓nrmL, nrmK, Nat.reduceEqDiff, ↓reduceIte]; rfl) rfl ?_ (by simp only [↓nrmL, nrmZ, Nat.reduceEqDiff, ↓reduceIte, hc]; rfl) ?_; (focus omega)
 refine WpO.do (WpX.ldNP (p := p) (j := i * 3) (m := 3) rfl (by decide) (by rw [cellsR_length]; omega) hcg ?_)
 refine Fo.new ?_
 refine Fo.st rfl (rfl : _ = AVal.agg _) rfl rfl rfl (by repeat (first | rfl | refine allOne_cons ?_)) (by simp only [↓nrmL, nrmZ, Nat.reduceEqDiff, ↓reduceIte]; rfl) ?_
 refine WpO.nil (hKF _ _ ?_)
 refine sq ?_
 refine rg fun KF hKF => ?_
 refine Fo.fa rfl ?_
 refine Fo.ld rfl rfl ?_
 refine mI rfl ?_
 refine WpO.nil (hKF _ _ ?_)
 refine Wp.block ?_
 dsimp only [cond_true, cond_false]
 refine Wp.loopS [12, 37, 38, 39, 40, 41, 42, 43, 44, 45, 46, 47, 48, 49, 50, 51] (fun x : Nat => [(12, .int .i64 x)]) (fun H3 x H4 => f ≤ x ∧ x ≤ t + 1 ∧ BytesI H4 q (fillP (pP l (fun k => k / a) (fun k => k % a) i x) (fun _ => 1) (a * b)) ∧ WrS H4 q ∧ ExtP0 H3 H4 q) (fun x => t + 1 - x) f rfl (fun _ => rfl) ⟨rfl, trivial⟩ ⟨Nat.le_refl _, by omega, by rw [show fillP (pP l (fun k => k / a) (fun k => k % a) i f) (fun _ => 1) (a * b) = fillP (pB l (fun k => k / a) (fun k => k % a) i) (fun _ => 1) (a * b) from by unfold fillP; simp only [pP_start ef]]; infer_instance, inferInstance, inferInstance⟩ (by unfold fuel0 at hn; omega) ?_
 rintro x g2 H4 ⟨hfx, hxt, hb4, hw4, ⟨hx4⟩⟩
 have hw3 := wa1 (a := x) (by omega)
 simp only [↓nrmL, nrmZ, Nat.reduceEqDiff, ↓reduceIte]
 cases hc2 : decide ((x : Int) ≤ (t : Int))
 ·have hxe : x = t + 1 := by have := of_decide_eq_false hc2; omega
  have e : fillP (pP l (fun k => k / a) (fun k => k % a) i x) (fun _ => 1) (a * b) = fillP (pB l (fun k => k / a) (fun k => k % a) (i + 1)) (fun _ => 1) (a * b) := by
   rw [hxe]; unfold fillP; simp only [pP_end hil et]
  rw [e] at hb4
  try simp only [↓nrmL, nrmZ, Nat.reduceEqDiff, ↓reduceIte, hc2]
  refine sq ?_
  refine sq ?_
  refine rg fun KF hKF => ?_
  refine mI rfl ?_
  refine Fo.fa rfl ?_
  refine Fo.ld rfl rfl ?_
  refine Fo.bin rfl rfl rfl (by simp only [↓nrmL, nrmZ, Nat.reduceEqDiff, ↓reduceIte, hc2]; rfl) ?_
  refine WpO.nil (hKF _ _ ?_)
  refine Wp.cond (b := false) rfl ?_
  refine Wp.exit ?_
  refine rg fun KF hKF => ?_
  refine Fo.bin rfl rfl rfl rfl ?_
  refine mI rfl ?_
  refine WpO.nil (hKF _ _ ?_)
  dsimp only [cond_true, cond_false]
  refine ⟨i + 1, by omega, ⟨by simp only [↓nrmL, nrmZ, Nat.reduceEqDiff, ↓reduceIte]; rw [hw1], trivial⟩, hil, inferInstance, inferInstance, inferInstance⟩
 ·have hxl : x ≤ t := by have := of_decide_eq_true hc2; omega
  have hlt := idx_lt (x := x) (y := m) (w := a) (h := b) (by omega) (by omega)
  have hfl := fillP_length (pP l (fun k => k / a) (fun k => k % a) i x) (fun _ => 1) (a * b)
  have hmu : m * a ≤ 640 * 640 := Nat.mul_le_mul (by omega) ha
  have k1 : IntKind.i64.wrap (((m : Nat) : Int) * (a : Int)) = ((m * a : Nat) : Int) := wm (by omega)
  have k2 : IntKind.i64.wrap (((m * a : Nat) : Int) + ((x : Nat) : Int)) = ((m * a + x : Nat) : Int) := wa (by omega)
  try simp only [↓nrmL, nrmZ, Nat.reduceEqDiff, ↓reduceIte, hc2, k1, k2]
  refine sq ?_
  refine sq ?_
  refine rg fun KF hKF => ?_
  refine mI rfl ?_
  refine Fo.fa rfl ?_
  refine Fo.ld rfl rfl ?_
  refine Fo.bin rfl rfl rfl (by simp only [↓nrmL, nrmZ, Nat.reduceEqDiff, ↓reduceIte, hc2, k1, k2]; rfl) ?_
  refine WpO.nil (hKF _ _ ?_)
  refine Wp.cond (b := true) rfl ?_
  refine Wp.skip ?_
  refine sq ?_
  refine Wp.block ?_
  refine rg fun KF hKF => ?_
  refine Fo.fa rfl ?_
  refine Fo.ld rfl rfl ?_
  refine Fo.fa rfl ?_
  refine Fo.ld rfl rfl ?_
  refine mI rfl ?_
  refine Fo.bin rfl rfl rfl (by simp only [↓nrmL, nrmZ, Nat.reduceEqDiff, ↓reduceIte, hc2, k1, k2]; rfl) ?_
  refine mI rfl ?_
  refine Fo.bin rfl rfl rfl (by simp only [↓nrmL, nrmZ, Nat.reduceEqDiff, ↓reduceIte, hc2, k1, k2]; rfl) ?_
  refine Fo.idx (by simp only [↓nrmL, nrmK, Nat.reduceEqDiff, ↓reduceIte]; rfl) rfl ?_ (by simp only [↓nrmL, nrmZ, Nat.reduceEqDiff, ↓reduceIte, hc2, k1, k2]; rfl) ?_; (focus omega)
  refine WpO.do' (WpX.stB (p := q) (j := m * a + x) (l := fillP (pP l (fun k => k / a) (fun k => k % a) i x) (fun _ => 1) (a * b)) 1 rfl rfl rfl (by rw [hfl]; exact hlt) fun H6 hb6 hw6 hx6 => ?_)
  rw [fillP_set (Q := pP l (fun k => k / a) (fun k => k % a) i (x + 1)) (f := fun _ => 1) (fun k _ => pP_next em (by rw [ef]; omega) ((flp_iff (b := a) (x := m) (y := x) (by omega)).trans And.comm))] at hb6
  refine WpO.nil (hKF _ _ ?_)
  refine rg fun KF hKF => ?_
  refine mI rfl ?_
  refine Fo.bin rfl rfl rfl rfl ?_
  refine mI rfl ?_
  refine WpO.nil (hKF _ _ ?_)
  dsimp only [cond_true, cond_false]
  refine ⟨x + 1, by omega, ⟨by simp only [↓nrmL, nrmZ, Nat.reduceEqDiff, ↓reduceIte]; rw [hw3], trivial⟩, by omega, by omega, hb6, hw6, inferInstance⟩

theorem K_FromColumns {w h : Int} {p : AVal} {H : AHeap} {l : List RunT} [hp : RunsI H p l] [hs : ShortR l] : Con ext prog 5 54 [.int .i64 w, .int .i64 h, p] H fun v H' => InkRes H H' v (colsImg w h l) := by
 refine con_of (show prog 54 = some c54 from rfl) rfl rfl fun n hn => ?_
 haveI := hp.one
 have hsl := hs.le
 unfold colsImg fromSpec
 cases hside : (sideB w && sideB h)
 ·skip
  refine sq ?_
  refine rg fun KF hKF => ?_
  refine Fo.new ?_
  refine mI rfl ?_
  refine WpO.nil (hKF _ _ ?_)
  refine sq ?_
  refine rg fun KF hKF => ?_
  refine mI rfl ?_
  refine mI rfl ?_
  refine WpO.do (WpX.conD hn rfl rfl (by simp only [↓nrmL, nrmZ, Nat.reduceEqDiff, ↓reduceIte, List.map] <;> rfl) (K_New (w := w) (h := h)) fun v H1 h5 => ?_)
  rw [hside] at h5
  obtain ⟨u, e1, q, e2, hq, hf, hw, hx⟩ := h5
  subst e1 e2
  haveI : ExtI _ H1 := ⟨hx⟩
  haveI := hq.one
  refine mT rfl ?_
  refine Fo.extr rfl rfl ?_
  refine Fo.extr rfl rfl ?_
  refine Fo.new ?_
  refine Fo.st rfl (rfl : _ = AVal.agg _) rfl rfl rfl (by repeat (first | rfl | refine allOne_cons ?_)) (by simp only [↓nrmL, nrmZ, Nat.reduceEqDiff, ↓reduceIte]; rfl) ?_
  refine mI rfl ?_
  refine WpO.nil (hKF _ _ ?_)
  refine sq ?_
  refine sq ?_
  refine rg fun KF hKF => ?_
  refine mI rfl ?_
  refine Fo.bin rfl rfl rfl rfl ?_
  refine WpO.nil (hKF _ _ ?_)
  refine Wp.cond (b := true) rfl ?_
  refine sq ?_
  refine rg fun KF hKF => ?_
  refine Fo.build (by repeat (first | refine aFill1 (by first | exact (rfl : _ = AVal.int _ _) | exact (rfl : _ = AVal.ptr _ _) | exact (rfl : _ = AVal.bool _) | exact (rfl : _ = AVal.agg _) | exact (rfl : _ = AVal.tuple _) | exact (rfl : _ = AVal.func _ _ _) | exact (rfl : _ = AVal.nslice) | ((try simp only [↓nrmL, nrmK, Nat.reduceEqDiff, ↓reduceIte]); rfl)) rfl ?_ | rfl)) rfl ?_
  refine mI rfl ?_
  refine Fo.st rfl (rfl : _ = AVal.agg _) rfl rfl rfl (by repeat (first | rfl | refine allOne_cons ?_)) (by simp only [↓nrmL, nrmZ, Nat.reduceEqDiff, ↓reduceIte]; rfl) ?_
  refine mI rfl ?_
  refine WpO.nil (hKF _ _ ?_)
  refine Wp.ret ?_
  dsimp only [cond_true, cond_false]
  refine ⟨trivial, _, (getAllC rfl rfl rfl rfl), ?_⟩
  exact ⟨_, rfl, newZero⟩
 obtain ⟨a, b, rfl, rfl, ha, hb⟩ : ∃ a b : Nat, w = a ∧ h = b ∧ a ≤ 640 ∧ b ≤ 640 := by
  simp only [sideB, Bool.and_eq_true, decide_eq_true_eq] at hside
  exact ⟨w.toNat, h.toNat, by omega, by omega, by omega, by omega⟩
 have hm : a * b ≤ 640 * 640 := Nat.mul_le_mul ha hb
 simp only [Int.toNat_natCast, cond_true]
 cases hpr : properB l (a : Nat) (b : Nat)
 ·skip
  refine sq ?_
  refine rg fun KF hKF => ?_
  refine Fo.new ?_
  refine mI rfl ?_
  refine WpO.nil (hKF _ _ ?_)
  refine sq ?_
  refine rg fun KF hKF => ?_
  refine mI rfl ?_
  refine mI rfl ?_
  refine WpO.do (WpX.conD hn rfl rfl (by simp only [↓nrmL, nrmZ, Nat.reduceEqDiff, ↓reduceIte, List.map] <;> rfl) (K_New (w := a) (h := b)) fun v H1 h5 => ?_)
  rw [hside] at h5
  obtain ⟨u, e1, q, e2, hq, hf, hwq, hx⟩ := h5
  subst e1 e2
  haveI : ExtI _ H1 := ⟨hx⟩
  haveI := hq.one
  try simp only [↓nrmL, nrmZ, Nat.reduceEqDiff, ↓reduceIte, hpr]
  refine mT rfl ?_
  refine Fo.extr rfl rfl ?_
  refine Fo.extr rfl rfl ?_
  refine Fo.new ?_
  refine Fo.st rfl (rfl : _ = AVal.agg _) rfl rfl rfl (by repeat (first | rfl | refine allOne_cons ?_)) (by simp only [↓nrmL, nrmZ, Nat.reduceEqDiff, ↓reduceIte, hpr]; rfl) ?_
  refine mI rfl ?_
  refine WpO.nil (hKF _ _ ?_)
  refine sq ?_
  refine sq ?_
  refine rg fun KF hKF => ?_
  refine mI rfl ?_
  refine Fo.bin rfl rfl rfl rfl ?_
  refine WpO.nil (hKF _ _ ?_)
  refine Wp.cond (b := false) rfl ?_
  refine Wp.skip ?_
  refine sq ?_
  refine sq ?_
  refine rg fun KF hKF => ?_
  refine Fo.mov (by simp only [↓nrmL, nrmK, Nat.reduceEqDiff, ↓reduceIte]; rfl) ?_
  refine mI rfl ?_
  refine mI rfl ?_
  refine Fo.pcall (v' := ?_) hn rfl (by simp only [↓nrmL, nrmZ, Nat.reduceEqDiff, ↓reduceIte, hpr, List.map]; rfl) rfl ?hv fun _ _ => ?_; case hv => (simp only [↓nrmL, nrmZ, Nat.reduceEqDiff, ↓reduceIte, hpr]; rfl)
  refine Fo.now rfl rfl (by simp only [↓nrmL, nrmZ, Nat.reduceEqDiff, ↓reduceIte, hpr]; rfl) ?_
  refine WpO.nil (hKF _ _ ?_)
  refine Wp.cond (b := true) rfl ?_
  refine sq ?_
  refine rg fun KF hKF => ?_
  refine Fo.build (by repeat (first | refine aFill1 (by first | exact (rfl : _ = AVal.int _ _) | exact (rfl : _ = AVal.ptr _ _) | exact (rfl : _ = AVal.bool _) | exact (rfl : _ = AVal.agg _) | exact (rfl : _ = AVal.tuple _) | exact (rfl : _ = AVal.func _ _ _) | exact (rfl : _ = AVal.nslice) | ((try simp only [↓nrmL, nrmK, Nat.reduceEqDiff, ↓reduceIte]); rfl)) rfl ?_ | rfl)) rfl ?_
  refine Fo.st rfl (rfl : _ = AVal.agg _) rfl rfl rfl (by repeat (first | rfl | refine allOne_cons ?_)) (by simp only [↓nrmL, nrmZ, Nat.reduceEqDiff, ↓reduceIte, hpr]; rfl) ?_
  refine mI rfl ?_
  refine WpO.nil (hKF _ _ ?_)
  refine Wp.ret ?_
  dsimp only [cond_true, cond_false]
  refine ⟨trivial, _, (getAllC rfl rfl rfl rfl), ?_⟩
  exact ⟨_, rfl, newZero⟩
 refine sq ?_
 refine rg fun KF hKF => ?_
 refine Fo.new ?_
 refine mI rfl ?_
 refine WpO.nil (hKF _ _ ?_)
 refine sq ?_
 refine rg fun KF hKF => ?_
 refine mI rfl ?_
 refine mI rfl ?_
 refine WpO.do (WpX.conD hn rfl rfl (by simp only [↓nrmL, nrmZ, Nat.reduceEqDiff, ↓reduceIte, List.map] <;> rfl) (K_New (w := a) (h := b)) fun v H1 h5 => ?_)
 rw [hside] at h5
 obtain ⟨u, e1, q, e2, hq, hf, hwq, hx⟩ := h5
 subst e1 e2
 have hq : BytesI H1 q (List.replicate (a * b) 0) := by
  have := hq
  simp only [cond_true, Int.toNat_natCast] at this
  exact this
 haveI : ExtI _ H1 := ⟨hx⟩
 haveI := hq.one
 try simp only [↓nrmL, nrmZ, Nat.reduceEqDiff, ↓reduceIte, hpr]
 refine mT rfl ?_
 refine Fo.extr rfl rfl ?_
 refine Fo.extr rfl rfl ?_
 refine Fo.new ?_
 refine Fo.st rfl (rfl : _ = AVal.agg _) rfl rfl rfl (by repeat (first | rfl | refine allOne_cons ?_)) (by simp only [↓nrmL, nrmZ, Nat.reduceEqDiff, ↓reduceIte, hpr]; rfl) ?_
 refine mI rfl ?_
 refine WpO.nil (hKF _ _ ?_)
 refine sq ?_
 refine sq ?_
 refine rg fun KF hKF => ?_
 refine mI rfl ?_
 refine Fo.bin rfl rfl rfl rfl ?_
 refine WpO.nil (hKF _ _ ?_)
 refine Wp.cond (b := false) rfl ?_
 refine Wp.skip ?_
 refine sq ?_
 refine sq ?_
 refine rg fun KF hKF => ?_
 refine Fo.mov (by simp only [↓nrmL, nrmK, Nat.reduceEqDiff, ↓reduceIte]; rfl) ?_
 refine mI rfl ?_
 refine mI rfl ?_
 refine Fo.pcall (v' := ?_) hn rfl (by simp only [↓nrmL, nrmZ, Nat.reduceEqDiff, ↓reduceIte, hpr, List.map]; rfl) rfl ?hv fun _ _ => ?_; case hv => (simp only [↓nrmL, nrmZ, Nat.reduceEqDiff, ↓reduceIte, hpr]; rfl)
 refine Fo.now rfl rfl (by simp only [↓nrmL, nrmZ, Nat.reduceEqDiff, ↓reduceIte, hpr]; rfl) ?_
 refine WpO.nil (hKF _ _ ?_)
 refine Wp.cond (b := false) rfl ?_
 refine Wp.skip ?_
 refine sq ?_
 refine sq ?_
 refine rg fun KF hKF => ?_
 refine Fo.mov (by simp only [↓nrmL, nrmK, Nat.reduceEqDiff, ↓reduceIte]; rfl) ?_
 refine Fo.len (v := ?_) (by simp only [↓nrmL, nrmK, Nat.reduceEqDiff, ↓reduceIte]; rfl) ?hv ?_; case hv => rfl
 refine mI rfl ?_
 refine WpO.nil (hKF _ _ ?_)
 refine Wp.block ?_
 dsimp only [cond_true, cond_false]
 refine Wp.loopS [11, 12, 31, 32, 33, 34, 35, 36, 37, 38, 39, 40, 41, 42, 43, 44, 45, 46, 47, 48, 49, 50, 51, 52] (fun i : Nat => [(31, .int .i64 i)]) (fun H3 i H2 => i ≤ l.length ∧ BytesI H2 q (fillP (pB l (fun k => k % a) (fun k => k / a) i) (fun _ => 1) (a * b)) ∧ WrS H2 q ∧ ExtP0 H3 H2 q) (fun i => l.length - i) 0 rfl (fun _ => rfl) ⟨rfl, trivial⟩ ⟨Nat.zero_le _, by rw [fillP_none (P := pB l (fun k => k % a) (fun k => k / a) 0) (fun k _ => by simp [pB])]; infer_instance, inferInstance, inferInstance⟩ (by unfold fuel0 at hn; omega) ?_
 rintro i g H2 ⟨hi, hb2, hw2, ⟨hx2⟩⟩
 simp only [↓nrmL, nrmZ, Nat.reduceEqDiff, ↓reduceIte]
 cases hc : decide ((i : Int) < (l.length : Int))
 ·have hil : i = l.length := by have := of_decide_eq_false hc; omega
  try simp only [↓nrmL, nrmZ, Nat.reduceEqDiff, ↓reduceIte, hc]
  refine sq ?_
  refine rg fun KF hKF => ?_
  refine Fo.bin rfl rfl rfl (by simp only [↓nrmL, nrmZ, Nat.reduceEqDiff, ↓reduceIte, hc]; rfl) ?_
  refine WpO.nil (hKF _ _ ?_)
  refine sq ?_
  refine Wp.cond (b := false) rfl ?_
  refine Wp.exit ?_
  refine sq ?_
  refine rg fun KF hKF => ?_
  refine Fo.ldN rfl rfl (by simp only [↓nrmL, nrmZ, Nat.reduceEqDiff, ↓reduceIte, hc]; rfl) ?_
  refine Fo.st rfl (rfl : _ = AVal.agg _) rfl rfl rfl (by repeat (first | rfl | refine allOne_cons ?_)) (by simp only [↓nrmL, nrmZ, Nat.reduceEqDiff, ↓reduceIte, hc]; rfl) ?_
  refine mI rfl ?_
  refine WpO.nil (hKF _ _ ?_)
  refine Wp.ret ?_
  dsimp only [cond_true, cond_false]
  refine ⟨trivial, _, (getAllC rfl rfl rfl rfl), ?_⟩
  refine ⟨_, rfl, q, rfl, (show BytesI _ q (paint l (fun k => k % a) (fun k => k / a) (a * b)) from ?_), hf.weak, inferInstance, Ext0.ext⟩
  have e : fillP (pB l (fun k => k % a) (fun k => k / a) i) (fun _ => 1) (a * b) = paint l (fun k => k % a) (fun k => k / a) (a * b) := by
   unfold fillP paint pB
   rw [hil, List.take_length]
  rw [← e]
  infer_instance
 have hil : i < l.length := by have := of_decide_eq_true hc; omega
 have hw1 := wa1 (a := i) (by omega)
 have hcg := cellsR_get (l := l) (i := i) hil
 obtain ⟨m, f, t, em, ef, et, hmb, hft, hta⟩ := okRun_facts (okAt_run (properTo_get hpr i hil))
 rw [em, ef, et] at hcg
 try simp only [↓nrmL, nrmZ, Nat.reduceEqDiff, ↓reduceIte, hc]
 refine sq ?_
 refine rg fun KF hKF => ?_
 refine Fo.bin rfl rfl rfl (by simp only [↓nrmL, nrmZ, Nat.reduceEqDiff, ↓reduceIte, hc]; rfl) ?_
 refine WpO.nil (hKF _ _ ?_)
 refine sq ?_
 refine Wp.cond (b := true) rfl ?_
 refine Wp.skip ?_
 refine sq ?_
 refine Wp.block ?_
 refine sq ?_
 refine rg fun KF hKF => ?_
 refine Fo.idx (by simp only [↓nrmL, nrmK, Nat.reduceEqDiff, ↓reduceIte]; rfl) rfl ?_ (by simp only [↓nrmL, nrmZ, Nat.reduceEqDiff, ↓reduceIte, hc]; rfl) ?_; (focus omega)
 refine WpO.do (WpX.ldNP (p := p) (j := i * 3) (m := 3) rfl (by decide) (by rw [cellsR_length]; omega) hcg ?_)
 refine Fo.new ?_
 refine Fo.st rfl (rfl : _ = AVal.agg _) rfl rfl rfl (by repeat (first | rfl | refine allOne_cons ?_)) (by simp only [↓nrmL, nrmZ, Nat.reduceEqDiff, ↓reduceIte]; rfl) ?_
 refine WpO.nil (hKF _ _ ?_)
 refine sq ?_
 refine rg fun KF hKF => ?_
 refine Fo.fa rfl ?_
 refine Fo.ld rfl rfl ?_
 refine mI rfl ?_
 refine WpO.nil (hKF _ _ ?_)
 refine Wp.block ?_
 dsimp only [cond_true, cond_false]
 refine Wp.loopS [12, 37, 38, 39, 40, 41, 42, 43, 44, 45, 46, 47, 48, 49, 50, 51] (fun x : Nat => [(12, .int .i64 x)]) (fun H3 x H4 => f ≤ x ∧ x ≤ t + 1 ∧ BytesI H4 q (fillP (pP l (fun k => k % a) (fun k => k / a) i x) (fun _ => 1) (a * b)) ∧ WrS H4 q ∧ ExtP0 H3 H4 q) (fun x => t + 1 - x) f rfl (fun _ => rfl) ⟨rfl, trivial⟩ ⟨Nat.le_refl _, by omega, by rw [show fillP (pP l (fun k => k % a) (fun k => k / a) i f) (fun _ => 1) (a * b) = fillP (pB l (fun k => k % a) (fun k => k / a) i) (fun _ => 1) (a * b) from by unfold fillP; simp only [pP_start ef]]; infer_instance, inferInstance, inferInstance⟩ (by unfold fuel0 at hn; omega) ?_
 rintro x g2 H4 ⟨hfx, hxt, hb4, hw4, ⟨hx4⟩⟩
 have hw3 := wa1 (a := x) (by omega)
 simp only [↓nrmL, nrmZ, Nat.reduceEqDiff, ↓reduceIte]
 cases hc2 : decide ((x : Int) ≤ (t : Int))
 ·have hxe : x = t + 1 := by have := of_decide_eq_false hc2; omega
  have e : fillP (pP l (fun k => k % a) (fun k => k / a) i x) (fun _ => 1) (a * b) = fillP (pB l (fun k => k % a) (fun k => k / a) (i + 1)) (fun _ => 1) (a * b) := by
   rw [hxe]; unfold fillP; simp only [pP_end hil et]
  rw [e] at hb4
  try simp only [↓nrmL, nrmZ, Nat.reduceEqDiff, ↓reduceIte, hc2]
  refine sq ?_
  refine sq ?_
  refine rg fun KF hKF => ?_
  refine mI rfl ?_
  refine Fo.fa rfl ?_
  refine Fo.ld rfl rfl ?_
  refine Fo.bin rfl rfl rfl (by simp only [↓nrmL, nrmZ, Nat.reduceEqDiff, ↓reduceIte, hc2]; rfl) ?_
  refine WpO.nil (hKF _ _ ?_)
  refine Wp.cond (b := false) rfl ?_
  refine Wp.exit ?_
  refine rg fun KF hKF => ?_
  refine Fo.bin rfl rfl rfl rfl ?_
  refine mI rfl ?_
  refine WpO.nil (hKF _ _ ?_)
  dsimp only [cond_true, cond_false]
  refine ⟨i + 1, by omega, ⟨by simp only [↓nrmL, nrmZ, Nat.reduceEqDiff, ↓reduceIte]; rw [hw1], trivial⟩, hil, inferInstance, inferInstance, inferInstance⟩
 ·have hxl : x ≤ t := by have := of_decide_eq_true hc2; omega
  have hlt := idx_lt (x := m) (y := x) (w := a) (h := b) (by omega) (by omega)
  have hfl := fillP_length (pP l (fun k => k % a) (fun k => k / a) i x) (fun _ => 1) (a * b)
  have hmu : x * a ≤ 640 * 640 := Nat.mul_le_mul (by omega) ha
  have k1 : IntKind.i64.wrap (((x : Nat) : Int) * (a : Int)) = ((x * a : Nat) : Int) := wm (by omega)
  have k2 : IntKind.i64.wrap (((x * a : Nat) : Int) + ((m : Nat) : Int)) = ((x * a + m : Nat) : Int) := wa (by omega)
  try simp only [↓nrmL, nrmZ, Nat.reduceEqDiff, ↓reduceIte, hc2, k1, k2]
  refine sq ?_
  refine sq ?_
  refine rg fun KF hKF => ?_
  refine mI rfl ?_
  refine Fo.fa rfl ?_
  refine Fo.ld rfl rfl ?_
  refine Fo.bin rfl rfl rfl (by simp only [↓nrmL, nrmZ, Nat.reduceEqDiff, ↓reduceIte, hc2, k1, k2]; rfl) ?_
  refine WpO.nil (hKF _ _ ?_)
  refine Wp.cond (b := true) rfl ?_
  refine Wp.skip ?_
  refine sq ?_
  refine Wp.block ?_
  refine rg fun KF hKF => ?_
  refine Fo.fa rfl ?_
  refine Fo.ld rfl rfl ?_
  refine mI rfl ?_
  refine mI rfl ?_
  refine Fo.bin rfl rfl rfl (by simp only [↓nrmL, nrmZ, Nat.reduceEqDiff, ↓reduceIte, hc2, k1, k2]; rfl) ?_
  refine Fo.fa rfl ?_
  refine Fo.ld rfl rfl ?_
  refine Fo.bin rfl rfl rfl (by simp only [↓nrmL, nrmZ, Nat.reduceEqDiff, ↓reduceIte, hc2, k1, k2]; rfl) ?_
  refine Fo.idx (by simp only [↓nrmL, nrmK, Nat.reduceEqDiff, ↓reduceIte]; rfl) rfl ?_ (by simp only [↓nrmL, nrmZ, Nat.reduceEqDiff, ↓reduceIte, hc2, k1, k2]; rfl) ?_; (focus omega)
  refine WpO.do' (WpX.stB (p := q) (j := x * a + m) (l := fillP (pP l (fun k => k % a) (fun k => k / a) i x) (fun _ => 1) (a * b)) 1 rfl rfl rfl (by rw [hfl]; exact hlt) fun H6 hb6 hw6 hx6 => ?_)
  rw [fillP_set (Q := pP l (fun k => k % a) (fun k => k / a) i (x + 1)) (f := fun _ => 1) (fun k _ => pP_next em (by rw [ef]; omega) ((flp_iff (b := a) (x := x) (y := m) (by omega))))] at hb6
  refine WpO.nil (hKF _ _ ?_)
  refine rg fun KF hKF => ?_
  refine mI rfl ?_
  refine Fo.bin rfl rfl rfl rfl ?_
  refine mI rfl ?_
  refine WpO.nil (hKF _ _ ?_)
  dsimp only [cond_true, cond_false]
  refine ⟨x + 1, by omega, ⟨by simp only [↓nrmL, nrmZ, Nat.reduceEqDiff, ↓reduceIte]; rw [hw3], trivial⟩, by omega, by omega, hb6, hw6, inferInstance⟩
end Go.Am

set_option maxHeartbeats 4000000
set_option maxRecDepth 100000
set_option synthInstance.maxHeartbeats 4000000
set_option synthInstance.maxSize 100000
namespace Go.Am
open Go
attribute [local irreducible] Wp WpO WpX WpE

theorem K_refFromRows {w h : Int} {p : AVal} {H : AHeap} {l : List RunT} [hp : RunsI H p l] [hs : ShortR l] : Con ext prog 3 53 [.int .i64 w, .int .i64 h, p] H fun v H' => InkRes H H' v (rowsImg w h l) := by
 refine con_of (show prog 53 = some c53 from rfl) rfl rfl fun n hn => ?_
 haveI := hp.one
 have hsl := hs.le
 unfold rowsImg fromSpec
 cases hside : (sideB w && sideB h)
 ·skip
  try simp only [↓nrmL, nrmZ, Nat.reduceEqDiff, ↓reduceIte, hside]
  refine sq ?_
  refine rg fun KF hKF => ?_
  refine Fo.new ?_
  refine mI rfl ?_
  refine WpO.nil (hKF _ _ ?_)
  refine sq ?_
  refine sq ?_
  refine rg fun KF hKF => ?_
  refine mI rfl ?_
  refine mI rfl ?_
  refine Fo.pcall (v' := ?_) hn rfl (by simp only [↓nrmL, nrmZ, Nat.reduceEqDiff, ↓reduceIte, hside, List.map]; rfl) rfl ?hv fun _ _ => ?_; case hv => (simp only [↓nrmL, nrmZ, Nat.reduceEqDiff, ↓reduceIte, hside]; rfl)
  refine Fo.now rfl rfl (by simp only [↓nrmL, nrmZ, Nat.reduceEqDiff, ↓reduceIte, hside]; rfl) ?_
  refine WpO.nil (hKF _ _ ?_)
  refine Wp.cond (b := true) rfl ?_
  refine sq ?_
  refine rg fun KF hKF => ?_
  refine Fo.build (by repeat (first | refine aFill1 (by first | exact (rfl : _ = AVal.int _ _) | exact (rfl : _ = AVal.ptr _ _) | exact (rfl : _ = AVal.bool _) | exact (rfl : _ = AVal.agg _) | exact (rfl : _ = AVal.tuple _) | exact (rfl : _ = AVal.func _ _ _) | exact (rfl : _ = AVal.nslice) | ((try simp only [↓nrmL, nrmK, Nat.reduceEqDiff, ↓reduceIte]); rfl)) rfl ?_ | rfl)) rfl ?_
  refine Fo.st rfl (rfl : _ = AVal.agg _) rfl rfl rfl (by repeat (first | rfl | refine allOne_cons ?_)) (by simp only [↓nrmL, nrmZ, Nat.reduceEqDiff, ↓reduceIte, hside]; rfl) ?_
  refine mI rfl ?_
  refine WpO.nil (hKF _ _ ?_)
  refine Wp.ret ?_
  dsimp only [cond_true, cond_false]
  refine ⟨trivial, _, (getAllC rfl rfl rfl rfl), ?_⟩
  exact ⟨_, rfl, newZero⟩
 obtain ⟨a, b, rfl, rfl, ha, hb⟩ : ∃ a b : Nat, w = a ∧ h = b ∧ a ≤ 640 ∧ b ≤ 640 := by
  simp only [sideB, Bool.and_eq_true, decide_eq_true_eq] at hside
  exact ⟨w.toNat, h.toNat, by omega, by omega, by omega, by omega⟩
 have hm : a * b ≤ 640 * 640 := Nat.mul_le_mul ha hb
 simp only [Int.toNat_natCast, cond_true]
 try simp only [↓nrmL, nrmZ, Nat.reduceEqDiff, ↓reduceIte, hside]
 refine sq ?_
 refine rg fun KF hKF => ?_
 refine Fo.new ?_
 refine mI rfl ?_
 refine WpO.nil (hKF _ _ ?_)
 refine sq ?_
 refine sq ?_
 refine rg fun KF hKF => ?_
 refine mI rfl ?_
 refine mI rfl ?_
 refine Fo.pcall (v' := ?_) hn rfl (by simp only [↓nrmL, nrmZ, Nat.reduceEqDiff, ↓reduceIte, hside, List.map]; rfl) rfl ?hv fun _ _ => ?_; case hv => (simp only [↓nrmL, nrmZ, Nat.reduceEqDiff, ↓reduceIte, hside]; rfl)
 refine Fo.now rfl rfl (by simp only [↓nrmL, nrmZ, Nat.reduceEqDiff, ↓reduceIte, hside]; rfl) ?_
 refine WpO.nil (hKF _ _ ?_)
 refine Wp.cond (b := false) rfl ?_
 refine Wp.skip ?_
 refine sq ?_
 refine rg fun KF hKF => ?_
 refine mI rfl ?_
 refine mI rfl ?_
 refine WpO.do (WpX.conD hn rfl rfl (by simp only [↓nrmL, nrmZ, Nat.reduceEqDiff, ↓reduceIte, List.map] <;> rfl) (K_refNew (w := a) (h := b) ha hb) fun v H1 h5 => ?_)
 obtain ⟨q, e2, hq, hf, hwq, hx⟩ := h5
 subst e2
 have hq : BytesI H1 q (List.replicate (a * b) 0) := hq
 haveI : ExtI _ H1 := ⟨hx⟩
 haveI := hq.one
 refine Fo.new ?_
 refine Fo.st rfl (rfl : _ = AVal.agg _) rfl rfl rfl (by repeat (first | rfl | refine allOne_cons ?_)) (by simp only [↓nrmL, nrmZ, Nat.reduceEqDiff, ↓reduceIte]; rfl) ?_
 refine WpO.nil (hKF _ _ ?_)
 refine sq ?_
 refine sq ?_
 refine rg fun KF hKF => ?_
 refine mI rfl ?_
 refine WpO.nil (hKF _ _ ?_)
 refine Wp.block ?_
 dsimp only [cond_true, cond_false]
 refine Wp.loopS [7, 9, 10, 11, 12, 21, 22, 23, 24, 25, 26, 27, 28, 29, 30, 31, 32, 33, 34, 35, 36, 37, 38, 39, 40, 41, 42, 43, 44, 45, 46, 47, 48, 49, 50, 51, 52, 53, 54, 55, 56, 57, 58, 59, 60, 61, 62, 63, 64, 65, 66, 67, 68, 69, 70, 71, 72, 73, 74, 75, 76, 77, 78, 79, 80, 81, 82, 83, 84, 85, 86, 87, 88, 89, 90, 91, 92, 93, 94, 95, 96, 97, 98, 99, 100, 101, 102, 103, 104, 105, 106, 107, 108, 109, 110] (fun i : Nat => [(9, .int .i64 i)]) (fun H3 i H2 => i ≤ l.length ∧ properTo l (b : Nat) (a : Nat) i = true ∧ BytesI H2 q (fillP (pB l (fun k => k / a) (fun k => k % a) i) (fun _ => 1) (a * b)) ∧ WrS H2 q ∧ ExtP0 H3 H2 q) (fun i => l.length - i) 0 rfl (fun _ => rfl) ⟨rfl, trivial⟩ ⟨Nat.zero_le _, rfl, by rw [fillP_none (P := pB l (fun k => k / a) (fun k => k % a) 0) (fun k _ => by simp [pB])]; infer_instance, inferInstance, inferInstance⟩ (by unfold fuel0 at hn; omega) ?_
 rintro i g H2 ⟨hi, hpr, hb2, hw2, ⟨hx2⟩⟩
 simp only [↓nrmL, nrmZ, Nat.reduceEqDiff, ↓reduceIte]
 cases hc : decide ((i : Int) < (l.length : Int))
 ·have hil : i = l.length := by have := of_decide_eq_false hc; omega
  have hpt : properB l (b : Nat) (a : Nat) = true := by unfold properB; rw [← hil]; exact hpr
  rw [hpt]
  try simp only [↓nrmL, nrmZ, Nat.reduceEqDiff, ↓reduceIte, hc]
  refine sq ?_
  refine sq ?_
  refine rg fun KF hKF => ?_
  refine mI rfl ?_
  refine Fo.mov (by simp only [↓nrmL, nrmK, Nat.reduceEqDiff, ↓reduceIte]; rfl) ?_
  refine Fo.len (v := ?_) (by simp only [↓nrmL, nrmK, Nat.reduceEqDiff, ↓reduceIte]; rfl) ?hv ?_; case hv => rfl
  refine Fo.bin rfl rfl rfl (by simp only [↓nrmL, nrmZ, Nat.reduceEqDiff, ↓reduceIte, hc]; rfl) ?_
  refine WpO.nil (hKF _ _ ?_)
  refine Wp.cond (b := false) rfl ?_
  refine Wp.exit ?_
  refine sq ?_
  refine rg fun KF hKF => ?_
  refine Fo.ldN rfl rfl (by simp only [↓nrmL, nrmZ, Nat.reduceEqDiff, ↓reduceIte, hc]; rfl) ?_
  refine Fo.st rfl (rfl : _ = AVal.agg _) rfl rfl rfl (by repeat (first | rfl | refine allOne_cons ?_)) (by simp only [↓nrmL, nrmZ, Nat.reduceEqDiff, ↓reduceIte, hc]; rfl) ?_
  refine mI rfl ?_
  refine WpO.nil (hKF _ _ ?_)
  refine Wp.ret ?_
  dsimp only [cond_true, cond_false]
  refine ⟨trivial, _, (getAllC rfl rfl rfl rfl), ?_⟩
  refine ⟨_, rfl, q, rfl, (show BytesI _ q (paint l (fun k => k / a) (fun k => k % a) (a * b)) from ?_), hf.weak, inferInstance, Ext0.ext⟩
  have e : fillP (pB l (fun k => k / a) (fun k => k % a) i) (fun _ => 1) (a * b) = paint l (fun k => k / a) (fun k => k % a) (a * b) := by
   unfold fillP paint pB
   rw [hil, List.take_length]
  rw [← e]
  infer_instance
 have hil : i < l.length := by have := of_decide_eq_true hc; omega
 have hw1 := wa1 (a := i) (by omega)
 have hcg := cellsR_get (l := l) (i := i) hil
 generalize hre : l.getD i run0 = r at hcg
 cases g1 : decide (r.1 < 0)
 rotate_left
 ·have hno : okRun r (b : Nat) (a : Nat) = false := by
   cases ho : okRun r (b : Nat) (a : Nat)
   ·rfl
   ·obtain ⟨m, f, t, em, ef, et, hmb, hft, hta⟩ := okRun_facts ho
    have := of_decide_eq_true g1
    omega
  have hoa : okAt l (b : Nat) (a : Nat) i = false := by unfold okAt; rw [hre, hno]; rfl
  have hpf : properB l (b : Nat) (a : Nat) = false := properTo_no hoa _ hil
  rw [hpf]
  try simp only [↓nrmL, nrmZ, Nat.reduceEqDiff, ↓reduceIte, hc]
  refine sq ?_
  refine sq ?_
  refine rg fun KF hKF => ?_
  refine mI rfl ?_
  refine Fo.mov (by simp only [↓nrmL, nrmK, Nat.reduceEqDiff, ↓reduceIte]; rfl) ?_
  refine Fo.len (v := ?_) (by simp only [↓nrmL, nrmK, Nat.reduceEqDiff, ↓reduceIte]; rfl) ?hv ?_; case hv => rfl
  refine Fo.bin rfl rfl rfl (by simp only [↓nrmL, nrmZ, Nat.reduceEqDiff, ↓reduceIte, hc]; rfl) ?_
  refine WpO.nil (hKF _ _ ?_)
  refine Wp.cond (b := true) rfl ?_
  refine Wp.skip ?_
  refine sq ?_
  refine Wp.block ?_
  refine sq ?_
  refine rg fun KF hKF => ?_
  refine Fo.mov (by simp only [↓nrmL, nrmK, Nat.reduceEqDiff, ↓reduceIte]; rfl) ?_
  refine mI rfl ?_
  refine Fo.idx (by simp only [↓nrmL, nrmK, Nat.reduceEqDiff, ↓reduceIte]; rfl) rfl ?_ (by simp only [↓nrmL, nrmZ, Nat.reduceEqDiff, ↓reduceIte, hc]; rfl) ?_; (focus omega)
  refine WpO.do (WpX.ldNP (p := p) (j := i * 3) (m := 3) rfl (by decide) (by rw [cellsR_length]; omega) hcg ?_)
  try simp only [↓nrmL, nrmZ, Nat.reduceEqDiff, ↓reduceIte, g1]
  refine Fo.new ?_
  refine Fo.st rfl (rfl : _ = AVal.agg _) rfl rfl rfl (by repeat (first | rfl | refine allOne_cons ?_)) (by simp only [↓nrmL, nrmZ, Nat.reduceEqDiff, ↓reduceIte, g1]; rfl) ?_
  refine WpO.nil (hKF _ _ ?_)
  refine sq ?_
  refine sq ?_
  refine rg fun KF hKF => ?_
  refine Fo.fa rfl ?_
  refine Fo.ld rfl rfl ?_
  refine Fo.bin rfl rfl rfl (by simp only [↓nrmL, nrmZ, Nat.reduceEqDiff, ↓reduceIte, g1]; rfl) ?_
  refine mB rfl ?_
  refine Fo.no rfl rfl ?_
  refine Fo.no rfl rfl ?_
  refine Fo.no rfl rfl ?_
  refine Fo.no rfl rfl ?_
  refine tB rfl rfl ?_
  refine mB rfl ?_
  refine Fo.no rfl rfl ?_
  refine Fo.no rfl rfl ?_
  refine Fo.no rfl rfl ?_
  refine tB rfl rfl ?_
  refine mB rfl ?_
  refine Fo.no rfl rfl ?_
  refine Fo.no rfl rfl ?_
  refine Fo.no rfl rfl ?_
  refine Fo.no rfl rfl ?_
  refine tB rfl rfl ?_
  refine mB rfl ?_
  refine Fo.no rfl rfl ?_
  refine Fo.no rfl rfl ?_
  refine Fo.no rfl rfl ?_
  refine tB rfl rfl ?_
  refine mB rfl ?_
  refine Fo.no rfl rfl ?_
  refine Fo.no rfl rfl ?_
  refine Fo.no rfl rfl ?_
  refine Fo.no rfl rfl ?_
  refine tB rfl rfl ?_
  refine mB rfl ?_
  refine Fo.no rfl rfl ?_
  refine Fo.no rfl rfl ?_
  refine Fo.no rfl rfl ?_
  refine Fo.no rfl rfl ?_
  refine Fo.no rfl rfl ?_
  refine tB rfl rfl ?_
  refine WpO.nil (hKF _ _ ?_)
  refine Wp.cond (b := true) rfl ?_
  refine sq ?_
  refine rg fun KF hKF => ?_
  refine Fo.build (by repeat (first | refine aFill1 (by first | exact (rfl : _ = AVal.int _ _) | exact (rfl : _ = AVal.ptr _ _) | exact (rfl : _ = AVal.bool _) | exact (rfl : _ = AVal.agg _) | exact (rfl : _ = AVal.tuple _) | exact (rfl : _ = AVal.func _ _ _) | exact (rfl : _ = AVal.nslice) | ((try simp only [↓nrmL, nrmK, Nat.reduceEqDiff, ↓reduceIte]); rfl)) rfl ?_ | rfl)) rfl ?_
  refine Fo.st rfl (rfl : _ = AVal.agg _) rfl rfl rfl (by repeat (first | rfl | refine allOne_cons ?_)) (by simp only [↓nrmL, nrmZ, Nat.reduceEqDiff, ↓reduceIte, g1]; rfl) ?_
  refine mI rfl ?_
  refine WpO.nil (hKF _ _ ?_)
  refine Wp.ret ?_
  dsimp only [cond_true, cond_false]
  refine ⟨trivial, _, (getAllC rfl rfl rfl rfl), ?_⟩
  exact ⟨_, rfl, newZero⟩
 cases g2 : decide (r.1 ≥ (b : Int))
 rotate_left
 ·have hno : okRun r (b : Nat) (a : Nat) = false := by
   cases ho : okRun r (b : Nat) (a : Nat)
   ·rfl
   ·obtain ⟨m, f, t, em, ef, et, hmb, hft, hta⟩ := okRun_facts ho
    have := of_decide_eq_true g2
    omega
  have hoa : okAt l (b : Nat) (a : Nat) i = false := by unfold okAt; rw [hre, hno]; rfl
  have hpf : properB l (b : Nat) (a : Nat) = false := properTo_no hoa _ hil
  rw [hpf]
  try simp only [↓nrmL, nrmZ, Nat.reduceEqDiff, ↓reduceIte, hc]
  refine sq ?_
  refine sq ?_
  refine rg fun KF hKF => ?_
  refine mI rfl ?_
  refine Fo.mov (by simp only [↓nrmL, nrmK, Nat.reduceEqDiff, ↓reduceIte]; rfl) ?_
  refine Fo.len (v := ?_) (by simp only [↓nrmL, nrmK, Nat.reduceEqDiff, ↓reduceIte]; rfl) ?hv ?_; case hv => rfl
  refine Fo.bin rfl rfl rfl (by simp only [↓nrmL, nrmZ, Nat.reduceEqDiff, ↓reduceIte, hc]; rfl) ?_
  refine WpO.nil (hKF _ _ ?_)
  refine Wp.cond (b := true) rfl ?_
  refine Wp.skip ?_
  refine sq ?_
  refine Wp.block ?_
  refine sq ?_
  refine rg fun KF hKF => ?_
  refine Fo.mov (by simp only [↓nrmL, nrmK, Nat.reduceEqDiff, ↓reduceIte]; rfl) ?_
  refine mI rfl ?_
  refine Fo.idx (by simp only [↓nrmL, nrmK, Nat.reduceEqDiff, ↓reduceIte]; rfl) rfl ?_ (by simp only [↓nrmL, nrmZ, Nat.reduceEqDiff, ↓reduceIte, hc]; rfl) ?_; (focus omega)
  refine WpO.do (WpX.ldNP (p := p) (j := i * 3) (m := 3) rfl (by decide) (by rw [cellsR_length]; omega) hcg ?_)
  try simp only [↓nrmL, nrmZ, Nat.reduceEqDiff, ↓reduceIte, g1, g2]
  refine Fo.new ?_
  refine Fo.st rfl (rfl : _ = AVal.agg _) rfl rfl rfl (by repeat (first | rfl | refine allOne_cons ?_)) (by simp only [↓nrmL, nrmZ, Nat.reduceEqDiff, ↓reduceIte, g1, g2]; rfl) ?_
  refine WpO.nil (hKF _ _ ?_)
  refine sq ?_
  refine sq ?_
  refine rg fun KF hKF => ?_
  refine Fo.fa rfl ?_
  refine Fo.ld rfl rfl ?_
  refine Fo.bin rfl rfl rfl (by simp only [↓nrmL, nrmZ, Nat.reduceEqDiff, ↓reduceIte, g1, g2]; rfl) ?_
  refine mB rfl ?_
  refine Fo.yes rfl rfl ?_
  refine Fo.fa rfl ?_
  refine Fo.yes rfl rfl ?_
  refine Fo.ld rfl rfl ?_
  refine Fo.yes rfl rfl ?_
  refine mI rfl ?_
  refine Fo.yes rfl rfl ?_
  refine Fo.bin rfl rfl rfl (by simp only [↓nrmL, nrmZ, Nat.reduceEqDiff, ↓reduceIte, g1, g2]; rfl) ?_
  refine fB rfl rfl ?_
  refine mB rfl ?_
  refine Fo.no rfl rfl ?_
  refine Fo.no rfl rfl ?_
  refine Fo.no rfl rfl ?_
  refine tB rfl rfl ?_
  refine mB rfl ?_
  refine Fo.no rfl rfl ?_
  refine Fo.no rfl rfl ?_
  refine Fo.no rfl rfl ?_
  refine Fo.no rfl rfl ?_
  refine tB rfl rfl ?_
  refine mB rfl ?_
  refine Fo.no rfl rfl ?_
  refine Fo.no rfl rfl ?_
  refine Fo.no rfl rfl ?_
  refine tB rfl rfl ?_
  refine mB rfl ?_
  refine Fo.no rfl rfl ?_
  refine Fo.no rfl rfl ?_
  refine Fo.no rfl rfl ?_
  refine Fo.no rfl rfl ?_
  refine tB rfl rfl ?_
  refine mB rfl ?_
  refine Fo.no rfl rfl ?_
  refine Fo.no rfl rfl ?_
  refine Fo.no rfl rfl ?_
  refine Fo.no rfl rfl ?_
  refine Fo.no rfl rfl ?_
  refine tB rfl rfl ?_
  refine WpO.nil (hKF _ _ ?_)
  refine Wp.cond (b := true) rfl ?_
  refine sq ?_
  refine rg fun KF hKF => ?_
  refine Fo.build (by repeat (first | refine aFill1 (by first | exact (rfl : _ = AVal.int _ _) | exact (rfl : _ = AVal.ptr _ _) | exact (rfl : _ = AVal.bool _) | exact (rfl : _ = AVal.agg _) | exact (rfl : _ = AVal.tuple _) | exact (rfl : _ = AVal.func _ _ _) | exact (rfl : _ = AVal.nslice) | ((try simp only [↓nrmL, nrmK, Nat.reduceEqDiff, ↓reduceIte]); rfl)) rfl ?_ | rfl)) rfl ?_
  refine Fo.st rfl (rfl : _ = AVal.agg _) rfl rfl rfl (by repeat (first | rfl | refine allOne_cons ?_)) (by simp only [↓nrmL, nrmZ, Nat.reduceEqDiff, ↓reduceIte, g1, g2]; rfl) ?_
  refine mI rfl ?_
  refine WpO.nil (hKF _ _ ?_)
  refine Wp.ret ?_
  dsimp only [cond_true, cond_false]
  refine ⟨trivial, _, (getAllC rfl rfl rfl rfl), ?_⟩
  exact ⟨_, rfl, newZero⟩
 cases g3 : decide (r.2.1 < 0)
 rotate_left
 ·have hno : okRun r (b : Nat) (a : Nat) = false := by
   cases ho : okRun r (b : Nat) (a : Nat)
   ·rfl
   ·obtain ⟨m, f, t, em, ef, et, hmb, hft, hta⟩ := okRun_facts ho
    have := of_decide_eq_true g3
    omega
  have hoa : okAt l (b : Nat) (a : Nat) i = false := by unfold okAt; rw [hre, hno]; rfl
  have hpf : properB l (b : Nat) (a : Nat) = false := properTo_no hoa _ hil
  rw [hpf]
  try simp only [↓nrmL, nrmZ, Nat.reduceEqDiff, ↓reduceIte, hc]
  refine sq ?_
  refine sq ?_
  refine rg fun KF hKF => ?_
  refine mI rfl ?_
  refine Fo.mov (by simp only [↓nrmL, nrmK, Nat.reduceEqDiff, ↓reduceIte]; rfl) ?_
  refine Fo.len (v := ?_) (by simp only [↓nrmL, nrmK, Nat.reduceEqDiff, ↓reduceIte]; rfl) ?hv ?_; case hv => rfl
  refine Fo.bin rfl rfl rfl (by simp only [↓nrmL, nrmZ, Nat.reduceEqDiff, ↓reduceIte, hc]; rfl) ?_
  refine WpO.nil (hKF _ _ ?_)
  refine Wp.cond (b := true) rfl ?_
  refine Wp.skip ?_
  refine sq ?_
  refine Wp.block ?_
  refine sq ?_
  refine rg fun KF hKF => ?_
  refine Fo.mov (by simp only [↓nrmL, nrmK, Nat.reduceEqDiff, ↓reduceIte]; rfl) ?_
  refine mI rfl ?_
  refine Fo.idx (by simp only [↓nrmL, nrmK, Nat.reduceEqDiff, ↓reduceIte]; rfl) rfl ?_ (by simp only [↓nrmL, nrmZ, Nat.reduceEqDiff, ↓reduceIte, hc]; rfl) ?_; (focus omega)
  refine WpO.do (WpX.ldNP (p := p) (j := i * 3) (m := 3) rfl (by decide) (by rw [cellsR_length]; omega) hcg ?_)
  try simp only [↓nrmL, nrmZ, Nat.reduceEqDiff, ↓reduceIte, g1, g2, g3]
  refine Fo.new ?_
  refine Fo.st rfl (rfl : _ = AVal.agg _) rfl rfl rfl (by repeat (first | rfl | refine allOne_cons ?_)) (by simp only [↓nrmL, nrmZ, Nat.reduceEqDiff, ↓reduceIte, g1, g2, g3]; rfl) ?_
  refine WpO.nil (hKF _ _ ?_)
  refine sq ?_
  refine sq ?_
  refine rg fun KF hKF => ?_
  refine Fo.fa rfl ?_
  refine Fo.ld rfl rfl ?_
  refine Fo.bin rfl rfl rfl (by simp only [↓nrmL, nrmZ, Nat.reduceEqDiff, ↓reduceIte, g1, g2, g3]; rfl) ?_
  refine mB rfl ?_
  refine Fo.yes rfl rfl ?_
  refine Fo.fa rfl ?_
  refine Fo.yes rfl rfl ?_
  refine Fo.ld rfl rfl ?_
  refine Fo.yes rfl rfl ?_
  refine mI rfl ?_
  refine Fo.yes rfl rfl ?_
  refine Fo.bin rfl rfl rfl (by simp only [↓nrmL, nrmZ, Nat.reduceEqDiff, ↓reduceIte, g1, g2, g3]; rfl) ?_
  refine fB rfl rfl ?_
  refine mB rfl ?_
  refine Fo.yes rfl rfl ?_
  refine Fo.fa rfl ?_
  refine Fo.yes rfl rfl ?_
  refine Fo.ld rfl rfl ?_
  refine Fo.yes rfl rfl ?_
  refine Fo.bin rfl rfl rfl (by simp only [↓nrmL, nrmZ, Nat.reduceEqDiff, ↓reduceIte, g1, g2, g3]; rfl) ?_
  refine fB rfl rfl ?_
  refine mB rfl ?_
  refine Fo.no rfl rfl ?_
  refine Fo.no rfl rfl ?_
  refine Fo.no rfl rfl ?_
  refine Fo.no rfl rfl ?_
  refine tB rfl rfl ?_
  refine mB rfl ?_
  refine Fo.no rfl rfl ?_
  refine Fo.no rfl rfl ?_
  refine Fo.no rfl rfl ?_
  refine tB rfl rfl ?_
  refine mB rfl ?_
  refine Fo.no rfl rfl ?_
  refine Fo.no rfl rfl ?_
  refine Fo.no rfl rfl ?_
  refine Fo.no rfl rfl ?_
  refine tB rfl rfl ?_
  refine mB rfl ?_
  refine Fo.no rfl rfl ?_
  refine Fo.no rfl rfl ?_
  refine Fo.no rfl rfl ?_
  refine Fo.no rfl rfl ?_
  refine Fo.no rfl rfl ?_
  refine tB rfl rfl ?_
  refine WpO.nil (hKF _ _ ?_)
  refine Wp.cond (b := true) rfl ?_
  refine sq ?_
  refine rg fun KF hKF => ?_
  refine Fo.build (by repeat (first | refine aFill1 (by first | exact (rfl : _ = AVal.int _ _) | exact (rfl : _ = AVal.ptr _ _) | exact (rfl : _ = AVal.bool _) | exact (rfl : _ = AVal.agg _) | exact (rfl : _ = AVal.tuple _) | exact (rfl : _ = AVal.func _ _ _) | exact (rfl : _ = AVal.nslice) | ((try simp only [↓nrmL, nrmK, Nat.reduceEqDiff, ↓reduceIte]); rfl)) rfl ?_ | rfl)) rfl ?_
  refine Fo.st rfl (rfl : _ = AVal.agg _) rfl rfl rfl (by repeat (first | rfl | refine allOne_cons ?_)) (by simp only [↓nrmL, nrmZ, Nat.reduceEqDiff, ↓reduceIte, g1, g2, g3]; rfl) ?_
  refine mI rfl ?_
  refine WpO.nil (hKF _ _ ?_)
  refine Wp.ret ?_
  dsimp only [cond_true, cond_false]
  refine ⟨trivial, _, (getAllC rfl rfl rfl rfl), ?_⟩
  exact ⟨_, rfl, newZero⟩
 cases g4 : decide (r.2.1 ≥ (a : Int))
 rotate_left
 ·have hno : okRun r (b : Nat) (a : Nat) = false := by
   cases ho : okRun r (b : Nat) (a : Nat)
   ·rfl
   ·obtain ⟨m, f, t, em, ef, et, hmb, hft, hta⟩ := okRun_facts ho
    have := of_decide_eq_true g4
    omega
  have hoa : okAt l (b : Nat) (a : Nat) i = false := by unfold okAt; rw [hre, hno]; rfl
  have hpf : properB l (b : Nat) (a : Nat) = false := properTo_no hoa _ hil
  rw [hpf]
  try simp only [↓nrmL, nrmZ, Nat.reduceEqDiff, ↓reduceIte, hc]
  refine sq ?_
  refine sq ?_
  refine rg fun KF hKF => ?_
  refine mI rfl ?_
  refine Fo.mov (by simp only [↓nrmL, nrmK, Nat.reduceEqDiff, ↓reduceIte]; rfl) ?_
  refine Fo.len (v := ?_) (by simp only [↓nrmL, nrmK, Nat.reduceEqDiff, ↓reduceIte]; rfl) ?hv ?_; case hv => rfl
  refine Fo.bin rfl rfl rfl (by simp only [↓nrmL, nrmZ, Nat.reduceEqDiff, ↓reduceIte, hc]; rfl) ?_
  refine WpO.nil (hKF _ _ ?_)
  refine Wp.cond (b := true) rfl ?_
  refine Wp.skip ?_
  refine sq ?_
  refine Wp.block ?_
  refine sq ?_
  refine rg fun KF hKF => ?_
  refine Fo.mov (by simp only [↓nrmL, nrmK, Nat.reduceEqDiff, ↓reduceIte]; rfl) ?_
  refine mI rfl ?_
  refine Fo.idx (by simp only [↓nrmL, nrmK, Nat.reduceEqDiff, ↓reduceIte]; rfl) rfl ?_ (by simp only [↓nrmL, nrmZ, Nat.reduceEqDiff, ↓reduceIte, hc]; rfl) ?_; (focus omega)
  refine WpO.do (WpX.ldNP (p := p) (j := i * 3) (m := 3) rfl (by decide) (by rw [cellsR_length]; omega) hcg ?_)
  try simp only [↓nrmL, nrmZ, Nat.reduceEqDiff, ↓reduceIte, g1, g2, g3, g4]
  refine Fo.new ?_
  refine Fo.st rfl (rfl : _ = AVal.agg _) rfl rfl rfl (by repeat (first | rfl | refine allOne_cons ?_)) (by simp only [↓nrmL, nrmZ, Nat.reduceEqDiff, ↓reduceIte, g1, g2, g3, g4]; rfl) ?_
  refine WpO.nil (hKF _ _ ?_)
  refine sq ?_
  refine sq ?_
  refine rg fun KF hKF => ?_
  refine Fo.fa rfl ?_
  refine Fo.ld rfl rfl ?_
  refine Fo.bin rfl rfl rfl (by simp only [↓nrmL, nrmZ, Nat.reduceEqDiff, ↓reduceIte, g1, g2, g3, g4]; rfl) ?_
  refine mB rfl ?_
  refine Fo.yes rfl rfl ?_
  refine Fo.fa rfl ?_
  refine Fo.yes rfl rfl ?_
  refine Fo.ld rfl rfl ?_
  refine Fo.yes rfl rfl ?_
  refine mI rfl ?_
  refine Fo.yes rfl rfl ?_
  refine Fo.bin rfl rfl rfl (by simp only [↓nrmL, nrmZ, Nat.reduceEqDiff, ↓reduceIte, g1, g2, g3, g4]; rfl) ?_
  refine fB rfl rfl ?_
  refine mB rfl ?_
  refine Fo.yes rfl rfl ?_
  refine Fo.fa rfl ?_
  refine Fo.yes rfl rfl ?_
  refine Fo.ld rfl rfl ?_
  refine Fo.yes rfl rfl ?_
  refine Fo.bin rfl rfl rfl (by simp only [↓nrmL, nrmZ, Nat.reduceEqDiff, ↓reduceIte, g1, g2, g3, g4]; rfl) ?_
  refine fB rfl rfl ?_
  refine mB rfl ?_
  refine Fo.yes rfl rfl ?_
  refine Fo.fa rfl ?_
  refine Fo.yes rfl rfl ?_
  refine Fo.ld rfl rfl ?_
  refine Fo.yes rfl rfl ?_
  refine mI rfl ?_
  refine Fo.yes rfl rfl ?_
  refine Fo.bin rfl rfl rfl (by simp only [↓nrmL, nrmZ, Nat.reduceEqDiff, ↓reduceIte, g1, g2, g3, g4]; rfl) ?_
  refine fB rfl rfl ?_
  refine mB rfl ?_
  refine Fo.no rfl rfl ?_
  refine Fo.no rfl rfl ?_
  refine Fo.no rfl rfl ?_
  refine tB rfl rfl ?_
  refine mB rfl ?_
  refine Fo.no rfl rfl ?_
  refine Fo.no rfl rfl ?_
  refine Fo.no rfl rfl ?_
  refine Fo.no rfl rfl ?_
  refine tB rfl rfl ?_
  refine mB rfl ?_
  refine Fo.no rfl rfl ?_
  refine Fo.no rfl rfl ?_
  refine Fo.no rfl rfl ?_
  refine Fo.no rfl rfl ?_
  refine Fo.no rfl rfl ?_
  refine tB rfl rfl ?_
  refine WpO.nil (hKF _ _ ?_)
  refine Wp.cond (b := true) rfl ?_
  refine sq ?_
  refine rg fun KF hKF => ?_
  refine Fo.build (by repeat (first | refine aFill1 (by first | exact (rfl : _ = AVal.int _ _) | exact (rfl : _ = AVal.ptr _ _) | exact (rfl : _ = AVal.bool _) | exact (rfl : _ = AVal.agg _) | exact (rfl : _ = AVal.tuple _) | exact (rfl : _ = AVal.func _ _ _) | exact (rfl : _ = AVal.nslice) | ((try simp only [↓nrmL, nrmK, Nat.reduceEqDiff, ↓reduceIte]); rfl)) rfl ?_ | rfl)) rfl ?_
  refine Fo.st rfl (rfl : _ = AVal.agg _) rfl rfl rfl (by repeat (first | rfl | refine allOne_cons ?_)) (by simp only [↓nrmL, nrmZ, Nat.reduceEqDiff, ↓reduceIte, g1, g2, g3, g4]; rfl) ?_
  refine mI rfl ?_
  refine WpO.nil (hKF _ _ ?_)
  refine Wp.ret ?_
  dsimp only [cond_true, cond_false]
  refine ⟨trivial, _, (getAllC rfl rfl rfl rfl), ?_⟩
  exact ⟨_, rfl, newZero⟩
 cases g5 : decide (r.2.2 < 0)
 rotate_left
 ·have hno : okRun r (b : Nat) (a : Nat) = false := by
   cases ho : okRun r (b : Nat) (a : Nat)
   ·rfl
   ·obtain ⟨m, f, t, em, ef, et, hmb, hft, hta⟩ := okRun_facts ho
    have := of_decide_eq_true g5
    omega
  have hoa : okAt l (b : Nat) (a : Nat) i = false := by unfold okAt; rw [hre, hno]; rfl
  have hpf : properB l (b : Nat) (a : Nat) = false := properTo_no hoa _ hil
  rw [hpf]
  try simp only [↓nrmL, nrmZ, Nat.reduceEqDiff, ↓reduceIte, hc]
  refine sq ?_
  refine sq ?_
  refine rg fun KF hKF => ?_
  refine mI rfl ?_
  refine Fo.mov (by simp only [↓nrmL, nrmK, Nat.reduceEqDiff, ↓reduceIte]; rfl) ?_
  refine Fo.len (v := ?_) (by simp only [↓nrmL, nrmK, Nat.reduceEqDiff, ↓reduceIte]; rfl) ?hv ?_; case hv => rfl
  refine Fo.bin rfl rfl rfl (by simp only [↓nrmL, nrmZ, Nat.reduceEqDiff, ↓reduceIte, hc]; rfl) ?_
  refine WpO.nil (hKF _ _ ?_)
  refine Wp.cond (b := true) rfl ?_
  refine Wp.skip ?_
  refine sq ?_
  refine Wp.block ?_
  refine sq ?_
  refine rg fun KF hKF => ?_
  refine Fo.mov (by simp only [↓nrmL, nrmK, Nat.reduceEqDiff, ↓reduceIte]; rfl) ?_
  refine mI rfl ?_
  refine Fo.idx (by simp only [↓nrmL, nrmK, Nat.reduceEqDiff, ↓reduceIte]; rfl) rfl ?_ (by simp only [↓nrmL, nrmZ, Nat.reduceEqDiff, ↓reduceIte, hc]; rfl) ?_; (focus omega)
  refine WpO.do (WpX.ldNP (p := p) (j := i * 3) (m := 3) rfl (by decide) (by rw [cellsR_length]; omega) hcg ?_)
  try simp only [↓nrmL, nrmZ, Nat.reduceEqDiff, ↓reduceIte, g1, g2, g3, g4, g5]
  refine Fo.new ?_
  refine Fo.st rfl (rfl : _ = AVal.agg _) rfl rfl rfl (by repeat (first | rfl | refine allOne_cons ?_)) (by simp only [↓nrmL, nrmZ, Nat.reduceEqDiff, ↓reduceIte, g1, g2, g3, g4, g5]; rfl) ?_
  refine WpO.nil (hKF _ _ ?_)
  refine sq ?_
  refine sq ?_
  refine rg fun KF hKF => ?_
  refine Fo.fa rfl ?_
  refine Fo.ld rfl rfl ?_
  refine Fo.bin rfl rfl rfl (by simp only [↓nrmL, nrmZ, Nat.reduceEqDiff, ↓reduceIte, g1, g2, g3, g4, g5]; rfl) ?_
  refine mB rfl ?_
  refine Fo.yes rfl rfl ?_
  refine Fo.fa rfl ?_
  refine Fo.yes rfl rfl ?_
  refine Fo.ld rfl rfl ?_
  refine Fo.yes rfl rfl ?_
  refine mI rfl ?_
  refine Fo.yes rfl rfl ?_
  refine Fo.bin rfl rfl rfl (by simp only [↓nrmL, nrmZ, Nat.reduceEqDiff, ↓reduceIte, g1, g2, g3, g4, g5]; rfl) ?_
  refine fB rfl rfl ?_
  refine mB rfl ?_
  refine Fo.yes rfl rfl ?_
  refine Fo.fa rfl ?_
  refine Fo.yes rfl rfl ?_
  refine Fo.ld rfl rfl ?_
  refine Fo.yes rfl rfl ?_
  refine Fo.bin rfl rfl rfl (by simp only [↓nrmL, nrmZ, Nat.reduceEqDiff, ↓reduceIte, g1, g2, g3, g4, g5]; rfl) ?_
  refine fB rfl rfl ?_
  refine mB rfl ?_
  refine Fo.yes rfl rfl ?_
  refine Fo.fa rfl ?_
  refine Fo.yes rfl rfl ?_
  refine Fo.ld rfl rfl ?_
  refine Fo.yes rfl rfl ?_
  refine mI rfl ?_
  refine Fo.yes rfl rfl ?_
  refine Fo.bin rfl rfl rfl (by simp only [↓nrmL, nrmZ, Nat.reduceEqDiff, ↓reduceIte, g1, g2, g3, g4, g5]; rfl) ?_
  refine fB rfl rfl ?_
  refine mB rfl ?_
  refine Fo.yes rfl rfl ?_
  refine Fo.fa rfl ?_
  refine Fo.yes rfl rfl ?_
  refine Fo.ld rfl rfl ?_
  refine Fo.yes rfl rfl ?_
  refine Fo.bin rfl rfl rfl (by simp only [↓nrmL, nrmZ, Nat.reduceEqDiff, ↓reduceIte, g1, g2, g3, g4, g5]; rfl) ?_
  refine fB rfl rfl ?_
  refine mB rfl ?_
  refine Fo.no rfl rfl ?_
  refine Fo.no rfl rfl ?_
  refine Fo.no rfl rfl ?_
  refine Fo.no rfl rfl ?_
  refine tB rfl rfl ?_
  refine mB rfl ?_
  refine Fo.no rfl rfl ?_
  refine Fo.no rfl rfl ?_
  refine Fo.no rfl rfl ?_
  refine Fo.no rfl rfl ?_
  refine Fo.no rfl rfl ?_
  refine tB rfl rfl ?_
  refine WpO.nil (hKF _ _ ?_)
  refine Wp.cond (b := true) rfl ?_
  refine sq ?_
  refine rg fun KF hKF => ?_
  refine Fo.build (by repeat (first | refine aFill1 (by first | exact (rfl : _ = AVal.int _ _) | exact (rfl : _ = AVal.ptr _ _) | exact (rfl : _ = AVal.bool _) | exact (rfl : _ = AVal.agg _) | exact (rfl : _ = AVal.tuple _) | exact (rfl : _ = AVal.func _ _ _) | exact (rfl : _ = AVal.nslice) | ((try simp only [↓nrmL, nrmK, Nat.reduceEqDiff, ↓reduceIte]); rfl)) rfl ?_ | rfl)) rfl ?_
  refine Fo.st rfl (rfl : _ = AVal.agg _) rfl rfl rfl (by repeat (first | rfl | refine allOne_cons ?_)) (by simp only [↓nrmL, nrmZ, Nat.reduceEqDiff, ↓reduceIte, g1, g2, g3, g4, g5]; rfl) ?_
  refine mI rfl ?_
  refine WpO.nil (hKF _ _ ?_)
  refine Wp.ret ?_
  dsimp only [cond_true, cond_false]
  refine ⟨trivial, _, (getAllC rfl rfl rfl rfl), ?_⟩
  exact ⟨_, rfl, newZero⟩
 cases g6 : decide (r.2.2 ≥ (a : Int))
 rotate_left
 ·have hno : okRun r (b : Nat) (a : Nat) = false := by
   cases ho : okRun r (b : Nat) (a : Nat)
   ·rfl
   ·obtain ⟨m, f, t, em, ef, et, hmb, hft, hta⟩ := okRun_facts ho
    have := of_decide_eq_true g6
    omega
  have hoa : okAt l (b : Nat) (a : Nat) i = false := by unfold okAt; rw [hre, hno]; rfl
  have hpf : properB l (b : Nat) (a : Nat) = false := properTo_no hoa _ hil
  rw [hpf]
  try simp only [↓nrmL, nrmZ, Nat.reduceEqDiff, ↓reduceIte, hc]
  refine sq ?_
  refine sq ?_
  refine rg fun KF hKF => ?_
  refine mI rfl ?_
  refine Fo.mov (by simp only [↓nrmL, nrmK, Nat.reduceEqDiff, ↓reduceIte]; rfl) ?_
  refine Fo.len (v := ?_) (by simp only [↓nrmL, nrmK, Nat.reduceEqDiff, ↓reduceIte]; rfl) ?hv ?_; case hv => rfl
  refine Fo.bin rfl rfl rfl (by simp only [↓nrmL, nrmZ, Nat.reduceEqDiff, ↓reduceIte, hc]; rfl) ?_
  refine WpO.nil (hKF _ _ ?_)
  refine Wp.cond (b := true) rfl ?_
  refine Wp.skip ?_
  refine sq ?_
  refine Wp.block ?_
  refine sq ?_
  refine rg fun KF hKF => ?_
  refine Fo.mov (by simp only [↓nrmL, nrmK, Nat.reduceEqDiff, ↓reduceIte]; rfl) ?_
  refine mI rfl ?_
  refine Fo.idx (by simp only [↓nrmL, nrmK, Nat.reduceEqDiff, ↓reduceIte]; rfl) rfl ?_ (by simp only [↓nrmL, nrmZ, Nat.reduceEqDiff, ↓reduceIte, hc]; rfl) ?_; (focus omega)
  refine WpO.do (WpX.ldNP (p := p) (j := i * 3) (m := 3) rfl (by decide) (by rw [cellsR_length]; omega) hcg ?_)
  try simp only [↓nrmL, nrmZ, Nat.reduceEqDiff, ↓reduceIte, g1, g2, g3, g4, g5, g6]
  refine Fo.new ?_
  refine Fo.st rfl (rfl : _ = AVal.agg _) rfl rfl rfl (by repeat (first | rfl | refine allOne_cons ?_)) (by simp only [↓nrmL, nrmZ, Nat.reduceEqDiff, ↓reduceIte, g1, g2, g3, g4, g5, g6]; rfl) ?_
  refine WpO.nil (hKF _ _ ?_)
  refine sq ?_
  refine sq ?_
  refine rg fun KF hKF => ?_
  refine Fo.fa rfl ?_
  refine Fo.ld rfl rfl ?_
  refine Fo.bin rfl rfl rfl (by simp only [↓nrmL, nrmZ, Nat.reduceEqDiff, ↓reduceIte, g1, g2, g3, g4, g5, g6]; rfl) ?_
  refine mB rfl ?_
  refine Fo.yes rfl rfl ?_
  refine Fo.fa rfl ?_
  refine Fo.yes rfl rfl ?_
  refine Fo.ld rfl rfl ?_
  refine Fo.yes rfl rfl ?_
  refine mI rfl ?_
  refine Fo.yes rfl rfl ?_
  refine Fo.bin rfl rfl rfl (by simp only [↓nrmL, nrmZ, Nat.reduceEqDiff, ↓reduceIte, g1, g2, g3, g4, g5, g6]; rfl) ?_
  refine fB rfl rfl ?_
  refine mB rfl ?_
  refine Fo.yes rfl rfl ?_
  refine Fo.fa rfl ?_
  refine Fo.yes rfl rfl ?_
  refine Fo.ld rfl rfl ?_
  refine Fo.yes rfl rfl ?_
  refine Fo.bin rfl rfl rfl (by simp only [↓nrmL, nrmZ, Nat.reduceEqDiff, ↓reduceIte, g1, g2, g3, g4, g5, g6]; rfl) ?_
  refine fB rfl rfl ?_
  refine mB rfl ?_
  refine Fo.yes rfl rfl ?_
  refine Fo.fa rfl ?_
  refine Fo.yes rfl rfl ?_
  refine Fo.ld rfl rfl ?_
  refine Fo.yes rfl rfl ?_
  refine mI rfl ?_
  refine Fo.yes rfl rfl ?_
  refine Fo.bin rfl rfl rfl (by simp only [↓nrmL, nrmZ, Nat.reduceEqDiff, ↓reduceIte, g1, g2, g3, g4, g5, g6]; rfl) ?_
  refine fB rfl rfl ?_
  refine mB rfl ?_
  refine Fo.yes rfl rfl ?_
  refine Fo.fa rfl ?_
  refine Fo.yes rfl rfl ?_
  refine Fo.ld rfl rfl ?_
  refine Fo.yes rfl rfl ?_
  refine Fo.bin rfl rfl rfl (by simp only [↓nrmL, nrmZ, Nat.reduceEqDiff, ↓reduceIte, g1, g2, g3, g4, g5, g6]; rfl) ?_
  refine fB rfl rfl ?_
  refine mB rfl ?_
  refine Fo.yes rfl rfl ?_
  refine Fo.fa rfl ?_
  refine Fo.yes rfl rfl ?_
  refine Fo.ld rfl rfl ?_
  refine Fo.yes rfl rfl ?_
  refine mI rfl ?_
  refine Fo.yes rfl rfl ?_
  refine Fo.bin rfl rfl rfl (by simp only [↓nrmL, nrmZ, Nat.reduceEqDiff, ↓reduceIte, g1, g2, g3, g4, g5, g6]; rfl) ?_
  refine fB rfl rfl ?_
  refine mB rfl ?_
  refine Fo.no rfl rfl ?_
  refine Fo.no rfl rfl ?_
  refine Fo.no rfl rfl ?_
  refine Fo.no rfl rfl ?_
  refine Fo.no rfl rfl ?_
  refine tB rfl rfl ?_
  refine WpO.nil (hKF _ _ ?_)
  refine Wp.cond (b := true) rfl ?_
  refine sq ?_
  refine rg fun KF hKF => ?_
  refine Fo.build (by repeat (first | refine aFill1 (by first | exact (rfl : _ = AVal.int _ _) | exact (rfl : _ = AVal.ptr _ _) | exact (rfl : _ = AVal.bool _) | exact (rfl : _ = AVal.agg _) | exact (rfl : _ = AVal.tuple _) | exact (rfl : _ = AVal.func _ _ _) | exact (rfl : _ = AVal.nslice) | ((try simp only [↓nrmL, nrmK, Nat.reduceEqDiff, ↓reduceIte]); rfl)) rfl ?_ | rfl)) rfl ?_
  refine Fo.st rfl (rfl : _ = AVal.agg _) rfl rfl rfl (by repeat (first | rfl | refine allOne_cons ?_)) (by simp only [↓nrmL, nrmZ, Nat.reduceEqDiff, ↓reduceIte, g1, g2, g3, g4, g5, g6]; rfl) ?_
  refine mI rfl ?_
  refine WpO.nil (hKF _ _ ?_)
  refine Wp.ret ?_
  dsimp only [cond_true, cond_false]
  refine ⟨trivial, _, (getAllC rfl rfl rfl rfl), ?_⟩
  exact ⟨_, rfl, newZero⟩
 cases g7 : decide (r.2.1 > r.2.2)
 rotate_left
 ·have hno : okRun r (b : Nat) (a : Nat) = false := by
   cases ho : okRun r (b : Nat) (a : Nat)
   ·rfl
   ·obtain ⟨m, f, t, em, ef, et, hmb, hft, hta⟩ := okRun_facts ho
    have := of_decide_eq_true g7
    omega
  have hoa : okAt l (b : Nat) (a : Nat) i = false := by unfold okAt; rw [hre, hno]; rfl
  have hpf : properB l (b : Nat) (a : Nat) = false := properTo_no hoa _ hil
  rw [hpf]
  try simp only [↓nrmL, nrmZ, Nat.reduceEqDiff, ↓reduceIte, hc]
  refine sq ?_
  refine sq ?_
  refine rg fun KF hKF => ?_
  refine mI rfl ?_
  refine Fo.mov (by simp only [↓nrmL, nrmK, Nat.reduceEqDiff, ↓reduceIte]; rfl) ?_
  refine Fo.len (v := ?_) (by simp only [↓nrmL, nrmK, Nat.reduceEqDiff, ↓reduceIte]; rfl) ?hv ?_; case hv => rfl
  refine Fo.bin rfl rfl rfl (by simp only [↓nrmL, nrmZ, Nat.reduceEqDiff, ↓reduceIte, hc]; rfl) ?_
  refine WpO.nil (hKF _ _ ?_)
  refine Wp.cond (b := true) rfl ?_
  refine Wp.skip ?_
  refine sq ?_
  refine Wp.block ?_
  refine sq ?_
  refine rg fun KF hKF => ?_
  refine Fo.mov (by simp only [↓nrmL, nrmK, Nat.reduceEqDiff, ↓reduceIte]; rfl) ?_
  refine mI rfl ?_
  refine Fo.idx (by simp only [↓nrmL, nrmK, Nat.reduceEqDiff, ↓reduceIte]; rfl) rfl ?_ (by simp only [↓nrmL, nrmZ, Nat.reduceEqDiff, ↓reduceIte, hc]; rfl) ?_; (focus omega)
  refine WpO.do (WpX.ldNP (p := p) (j := i * 3) (m := 3) rfl (by decide) (by rw [cellsR_length]; omega) hcg ?_)
  try simp only [↓nrmL, nrmZ, Nat.reduceEqDiff, ↓reduceIte, g1, g2, g3, g4, g5, g6, g7]
  refine Fo.new ?_
  refine Fo.st rfl (rfl : _ = AVal.agg _) rfl rfl rfl (by repeat (first | rfl | refine allOne_cons ?_)) (by simp only [↓nrmL, nrmZ, Nat.reduceEqDiff, ↓reduceIte, g1, g2, g3, g4, g5, g6, g7]; rfl) ?_
  refine WpO.nil (hKF _ _ ?_)
  refine sq ?_
  refine sq ?_
  refine rg fun KF hKF => ?_
  refine Fo.fa rfl ?_
  refine Fo.ld rfl rfl ?_
  refine Fo.bin rfl rfl rfl (by simp only [↓nrmL, nrmZ, Nat.reduceEqDiff, ↓reduceIte, g1, g2, g3, g4, g5, g6, g7]; rfl) ?_
  refine mB rfl ?_
  refine Fo.yes rfl rfl ?_
  refine Fo.fa rfl ?_
  refine Fo.yes rfl rfl ?_
  refine Fo.ld rfl rfl ?_
  refine Fo.yes rfl rfl ?_
  refine mI rfl ?_
  refine Fo.yes rfl rfl ?_
  refine Fo.bin rfl rfl rfl (by simp only [↓nrmL, nrmZ, Nat.reduceEqDiff, ↓reduceIte, g1, g2, g3, g4, g5, g6, g7]; rfl) ?_
  refine fB rfl rfl ?_
  refine mB rfl ?_
  refine Fo.yes rfl rfl ?_
  refine Fo.fa rfl ?_
  refine Fo.yes rfl rfl ?_
  refine Fo.ld rfl rfl ?_
  refine Fo.yes rfl rfl ?_
  refine Fo.bin rfl rfl rfl (by simp only [↓nrmL, nrmZ, Nat.reduceEqDiff, ↓reduceIte, g1, g2, g3, g4, g5, g6, g7]; rfl) ?_
  refine fB rfl rfl ?_
  refine mB rfl ?_
  refine Fo.yes rfl rfl ?_
  refine Fo.fa rfl ?_
  refine Fo.yes rfl rfl ?_
  refine Fo.ld rfl rfl ?_
  refine Fo.yes rfl rfl ?_
  refine mI rfl ?_
  refine Fo.yes rfl rfl ?_
  refine Fo.bin rfl rfl rfl (by simp only [↓nrmL, nrmZ, Nat.reduceEqDiff, ↓reduceIte, g1, g2, g3, g4, g5, g6, g7]; rfl) ?_
  refine fB rfl rfl ?_
  refine mB rfl ?_
  refine Fo.yes rfl rfl ?_
  refine Fo.fa rfl ?_
  refine Fo.yes rfl rfl ?_
  refine Fo.ld rfl rfl ?_
  refine Fo.yes rfl rfl ?_
  refine Fo.bin rfl rfl rfl (by simp only [↓nrmL, nrmZ, Nat.reduceEqDiff, ↓reduceIte, g1, g2, g3, g4, g5, g6, g7]; rfl) ?_
  refine fB rfl rfl ?_
  refine mB rfl ?_
  refine Fo.yes rfl rfl ?_
  refine Fo.fa rfl ?_
  refine Fo.yes rfl rfl ?_
  refine Fo.ld rfl rfl ?_
  refine Fo.yes rfl rfl ?_
  refine mI rfl ?_
  refine Fo.yes rfl rfl ?_
  refine Fo.bin rfl rfl rfl (by simp only [↓nrmL, nrmZ, Nat.reduceEqDiff, ↓reduceIte, g1, g2, g3, g4, g5, g6, g7]; rfl) ?_
  refine fB rfl rfl ?_
  refine mB rfl ?_
  refine Fo.yes rfl rfl ?_
  refine Fo.fa rfl ?_
  refine Fo.yes rfl rfl ?_
  refine Fo.ld rfl rfl ?_
  refine Fo.yes rfl rfl ?_
  refine Fo.fa rfl ?_
  refine Fo.yes rfl rfl ?_
  refine Fo.ld rfl rfl ?_
  refine Fo.yes rfl rfl ?_
  refine Fo.bin rfl rfl rfl (by simp only [↓nrmL, nrmZ, Nat.reduceEqDiff, ↓reduceIte, g1, g2, g3, g4, g5, g6, g7]; rfl) ?_
  refine fB rfl rfl ?_
  refine WpO.nil (hKF _ _ ?_)
  refine Wp.cond (b := true) rfl ?_
  refine sq ?_
  refine rg fun KF hKF => ?_
  refine Fo.build (by repeat (first | refine aFill1 (by first | exact (rfl : _ = AVal.int _ _) | exact (rfl : _ = AVal.ptr _ _) | exact (rfl : _ = AVal.bool _) | exact (rfl : _ = AVal.agg _) | exact (rfl : _ = AVal.tuple _) | exact (rfl : _ = AVal.func _ _ _) | exact (rfl : _ = AVal.nslice) | ((try simp only [↓nrmL, nrmK, Nat.reduceEqDiff, ↓reduceIte]); rfl)) rfl ?_ | rfl)) rfl ?_
  refine Fo.st rfl (rfl : _ = AVal.agg _) rfl rfl rfl (by repeat (first | rfl | refine allOne_cons ?_)) (by simp only [↓nrmL, nrmZ, Nat.reduceEqDiff, ↓reduceIte, g1, g2, g3, g4, g5, g6, g7]; rfl) ?_
  refine mI rfl ?_
  refine WpO.nil (hKF _ _ ?_)
  refine Wp.ret ?_
  dsimp only [cond_true, cond_false]
  refine ⟨trivial, _, (getAllC rfl rfl rfl rfl), ?_⟩
  exact ⟨_, rfl, newZero⟩
 have hok : okRun r (b : Nat) (a : Nat) = true := by
  have f1 := of_decide_eq_false g1; have f2 := of_decide_eq_false g2; have f3 := of_decide_eq_false g3; have f6 := of_decide_eq_false g6; have f7 := of_decide_eq_false g7
  unfold okRun
  simp only [Bool.and_eq_true, Bool.not_eq_true', decide_eq_false_iff_not]
  exact ⟨⟨⟨⟨f1, f2⟩, f3⟩, f7⟩, f6⟩
 by_cases hi0 : i = 0
 ·have e0 : decide (((i : Nat) : Int) > 0) = false := decide_eq_false (by omega)
  have hoa : okAt l (b : Nat) (a : Nat) i = true := by unfold okAt; rw [hre, hok, decide_eq_true hi0]; rfl
  try simp only [↓nrmL, nrmZ, Nat.reduceEqDiff, ↓reduceIte, hc]
  refine sq ?_
  refine sq ?_
  refine rg fun KF hKF => ?_
  refine mI rfl ?_
  refine Fo.mov (by simp only [↓nrmL, nrmK, Nat.reduceEqDiff, ↓reduceIte]; rfl) ?_
  refine Fo.len (v := ?_) (by simp only [↓nrmL, nrmK, Nat.reduceEqDiff, ↓reduceIte]; rfl) ?hv ?_; case hv => rfl
  refine Fo.bin rfl rfl rfl (by simp only [↓nrmL, nrmZ, Nat.reduceEqDiff, ↓reduceIte, hc]; rfl) ?_
  refine WpO.nil (hKF _ _ ?_)
  refine Wp.cond (b := true) rfl ?_
  refine Wp.skip ?_
  refine sq ?_
  refine Wp.block ?_
  refine sq ?_
  refine rg fun KF hKF => ?_
  refine Fo.mov (by simp only [↓nrmL, nrmK, Nat.reduceEqDiff, ↓reduceIte]; rfl) ?_
  refine mI rfl ?_
  refine Fo.idx (by simp only [↓nrmL, nrmK, Nat.reduceEqDiff, ↓reduceIte]; rfl) rfl ?_ (by simp only [↓nrmL, nrmZ, Nat.reduceEqDiff, ↓reduceIte, hc]; rfl) ?_; (focus omega)
  refine WpO.do (WpX.ldNP (p := p) (j := i * 3) (m := 3) rfl (by decide) (by rw [cellsR_length]; omega) hcg ?_)
  try simp only [↓nrmL, nrmZ, Nat.reduceEqDiff, ↓reduceIte, g1, g2, g3, g4, g5, g6, g7, e0]
  refine Fo.new ?_
  refine Fo.st rfl (rfl : _ = AVal.agg _) rfl rfl rfl (by repeat (first | rfl | refine allOne_cons ?_)) (by simp only [↓nrmL, nrmZ, Nat.reduceEqDiff, ↓reduceIte, g1, g2, g3, g4, g5, g6, g7, e0]; rfl) ?_
  refine WpO.nil (hKF _ _ ?_)
  refine sq ?_
  refine sq ?_
  refine rg fun KF hKF => ?_
  refine Fo.fa rfl ?_
  refine Fo.ld rfl rfl ?_
  refine Fo.bin rfl rfl rfl (by simp only [↓nrmL, nrmZ, Nat.reduceEqDiff, ↓reduceIte, g1, g2, g3, g4, g5, g6, g7, e0]; rfl) ?_
  refine mB rfl ?_
  refine Fo.yes rfl rfl ?_
  refine Fo.fa rfl ?_
  refine Fo.yes rfl rfl ?_
  refine Fo.ld rfl rfl ?_
  refine Fo.yes rfl rfl ?_
  refine mI rfl ?_
  refine Fo.yes rfl rfl ?_
  refine Fo.bin rfl rfl rfl (by simp only [↓nrmL, nrmZ, Nat.reduceEqDiff, ↓reduceIte, g1, g2, g3, g4, g5, g6, g7, e0]; rfl) ?_
  refine fB rfl rfl ?_
  refine mB rfl ?_
  refine Fo.yes rfl rfl ?_
  refine Fo.fa rfl ?_
  refine Fo.yes rfl rfl ?_
  refine Fo.ld rfl rfl ?_
  refine Fo.yes rfl rfl ?_
  refine Fo.bin rfl rfl rfl (by simp only [↓nrmL, nrmZ, Nat.reduceEqDiff, ↓reduceIte, g1, g2, g3, g4, g5, g6, g7, e0]; rfl) ?_
  refine fB rfl rfl ?_
  refine mB rfl ?_
  refine Fo.yes rfl rfl ?_
  refine Fo.fa rfl ?_
  refine Fo.yes rfl rfl ?_
  refine Fo.ld rfl rfl ?_
  refine Fo.yes rfl rfl ?_
  refine mI rfl ?_
  refine Fo.yes rfl rfl ?_
  refine Fo.bin rfl rfl rfl (by simp only [↓nrmL, nrmZ, Nat.reduceEqDiff, ↓reduceIte, g1, g2, g3, g4, g5, g6, g7, e0]; rfl) ?_
  refine fB rfl rfl ?_
  refine mB rfl ?_
  refine Fo.yes rfl rfl ?_
  refine Fo.fa rfl ?_
  refine Fo.yes rfl rfl ?_
  refine Fo.ld rfl rfl ?_
  refine Fo.yes rfl rfl ?_
  refine Fo.bin rfl rfl rfl (by simp only [↓nrmL, nrmZ, Nat.reduceEqDiff, ↓reduceIte, g1, g2, g3, g4, g5, g6, g7, e0]; rfl) ?_
  refine fB rfl rfl ?_
  refine mB rfl ?_
  refine Fo.yes rfl rfl ?_
  refine Fo.fa rfl ?_
  refine Fo.yes rfl rfl ?_
  refine Fo.ld rfl rfl ?_
  refine Fo.yes rfl rfl ?_
  refine mI rfl ?_
  refine Fo.yes rfl rfl ?_
  refine Fo.bin rfl rfl rfl (by simp only [↓nrmL, nrmZ, Nat.reduceEqDiff, ↓reduceIte, g1, g2, g3, g4, g5, g6, g7, e0]; rfl) ?_
  refine fB rfl rfl ?_
  refine mB rfl ?_
  refine Fo.yes rfl rfl ?_
  refine Fo.fa rfl ?_
  refine Fo.yes rfl rfl ?_
  refine Fo.ld rfl rfl ?_
  refine Fo.yes rfl rfl ?_
  refine Fo.fa rfl ?_
  refine Fo.yes rfl rfl ?_
  refine Fo.ld rfl rfl ?_
  refine Fo.yes rfl rfl ?_
  refine Fo.bin rfl rfl rfl (by simp only [↓nrmL, nrmZ, Nat.reduceEqDiff, ↓reduceIte, g1, g2, g3, g4, g5, g6, g7, e0]; rfl) ?_
  refine fB rfl rfl ?_
  refine WpO.nil (hKF _ _ ?_)
  refine Wp.cond (b := false) rfl ?_
  refine Wp.skip ?_
  refine sq ?_
  refine sq ?_
  refine rg fun KF hKF => ?_
  refine mI rfl ?_
  refine Fo.bin rfl rfl rfl (by simp only [↓nrmL, nrmZ, Nat.reduceEqDiff, ↓reduceIte, g1, g2, g3, g4, g5, g6, g7, e0]; rfl) ?_
  refine WpO.nil (hKF _ _ ?_)
  refine Wp.cond (b := false) rfl ?_
  refine Wp.skip ?_
  refine sq ?_
  refine rg fun KF hKF => ?_
  refine Fo.fa rfl ?_
  refine Fo.ld rfl rfl ?_
  refine mI rfl ?_
  refine WpO.nil (hKF _ _ ?_)
  refine Wp.block ?_
  dsimp only [cond_true, cond_false]
  obtain ⟨m, f, t, em, ef, et, hmb, hft, hta⟩ := okRun_facts hok
  rw [← hre] at em ef et
  refine Wp.loopS [12, 100, 101, 102, 103, 104, 105, 106, 107, 108, 109, 110] (fun x : Nat => [(12, .int .i64 x)]) (fun H3 x H4 => f ≤ x ∧ x ≤ t + 1 ∧ BytesI H4 q (fillP (pP l (fun k => k / a) (fun k => k % a) i x) (fun _ => 1) (a * b)) ∧ WrS H4 q ∧ ExtP0 H3 H4 q) (fun x => t + 1 - x) f rfl (fun _ => rfl) ⟨by simp only [↓nrmL, nrmZ, Nat.reduceEqDiff, ↓reduceIte]; rw [← hre, ef], trivial⟩ ⟨Nat.le_refl _, by omega, by rw [show fillP (pP l (fun k => k / a) (fun k => k % a) i f) (fun _ => 1) (a * b) = fillP (pB l (fun k => k / a) (fun k => k % a) i) (fun _ => 1) (a * b) from by unfold fillP; simp only [pP_start ef]]; infer_instance, inferInstance, inferInstance⟩ (by unfold fuel0 at hn; omega) ?_
  rintro x g2 H4 ⟨hfx, hxt, hb4, hw4, ⟨hx4⟩⟩
  have hw3 := wa1 (a := x) (by omega)
  have er1 : r.1 = (m : Int) := by rw [← hre, em]
  have er2 : r.2.2 = (t : Int) := by rw [← hre, et]
  simp only [↓nrmL, nrmZ, Nat.reduceEqDiff, ↓reduceIte]
  cases hc2 : decide ((x : Int) ≤ (t : Int))
  ·have hxe : x = t + 1 := by have := of_decide_eq_false hc2; omega
   have e : fillP (pP l (fun k => k / a) (fun k => k % a) i x) (fun _ => 1) (a * b) = fillP (pB l (fun k => k / a) (fun k => k % a) (i + 1)) (fun _ => 1) (a * b) := by
    rw [hxe]; unfold fillP; simp only [pP_end hil et]
   rw [e] at hb4
   try simp only [↓nrmL, nrmZ, Nat.reduceEqDiff, ↓reduceIte, er2, hc2]
   refine sq ?_
   refine sq ?_
   refine rg fun KF hKF => ?_
   refine mI rfl ?_
   refine Fo.fa rfl ?_
   refine Fo.ld rfl rfl ?_
   refine Fo.bin rfl rfl rfl (by simp only [↓nrmL, nrmZ, Nat.reduceEqDiff, ↓reduceIte, er2, hc2]; rfl) ?_
   refine WpO.nil (hKF _ _ ?_)
   refine Wp.cond (b := false) rfl ?_
   refine Wp.exit ?_
   refine rg fun KF hKF => ?_
   refine mI rfl ?_
   refine Fo.bin rfl rfl rfl rfl ?_
   refine mI rfl ?_
   refine WpO.nil (hKF _ _ ?_)
   dsimp only [cond_true, cond_false]
   refine ⟨i + 1, by omega, ⟨by simp only [↓nrmL, nrmZ, Nat.reduceEqDiff, ↓reduceIte]; rw [hw1], trivial⟩, hil, by simp only [properTo, hpr, hoa]; rfl, inferInstance, inferInstance, inferInstance⟩
  ·have hxl : x ≤ t := by have := of_decide_eq_true hc2; omega
   have hlt := idx_lt (x := x) (y := m) (w := a) (h := b) (by omega) (by omega)
   have hfl := fillP_length (pP l (fun k => k / a) (fun k => k % a) i x) (fun _ => 1) (a * b)
   simp only [er1, er2] at hx4
   try simp only [↓nrmL, nrmZ, Nat.reduceEqDiff, ↓reduceIte, er1, er2, hc2]
   refine sq ?_
   refine sq ?_
   refine rg fun KF hKF => ?_
   refine mI rfl ?_
   refine Fo.fa rfl ?_
   refine Fo.ld rfl rfl ?_
   refine Fo.bin rfl rfl rfl (by simp only [↓nrmL, nrmZ, Nat.reduceEqDiff, ↓reduceIte, er1, er2, hc2]; rfl) ?_
   refine WpO.nil (hKF _ _ ?_)
   refine Wp.cond (b := true) rfl ?_
   refine Wp.skip ?_
   refine sq ?_
   refine Wp.block ?_
   refine rg fun KF hKF => ?_
   refine Fo.ldN rfl rfl (by simp only [↓nrmL, nrmZ, Nat.reduceEqDiff, ↓reduceIte, er1, er2, hc2]; rfl) ?_
   refine mI rfl ?_
   refine Fo.fa rfl ?_
   refine Fo.ld rfl rfl ?_
   refine WpO.do (WpX.conD hn rfl rfl (by simp only [↓nrmL, nrmZ, Nat.reduceEqDiff, ↓reduceIte, List.map, er1] <;> rfl) (K_refSet (y := m) (x := x) (w := a) (p := q) (l := fillP (pP l (fun k => k / a) (fun k => k % a) i x) (fun _ => 1) (a * b)) (by rw [hfl]; exact hlt) (by rw [hfl]; omega)) fun v6 H6 h5 => ?_)
   obtain ⟨hb6, hw6, hx6⟩ := h5
   rw [fillP_set (Q := pP l (fun k => k / a) (fun k => k % a) i (x + 1)) (f := fun _ => 1) (fun k _ => pP_next em (by rw [ef]; omega) ((flp_iff (b := a) (x := m) (y := x) (by omega)).trans And.comm))] at hb6
   refine WpO.nil (hKF _ _ ?_)
   refine rg fun KF hKF => ?_
   refine mI rfl ?_
   refine Fo.bin rfl rfl rfl rfl ?_
   refine mI rfl ?_
   refine WpO.nil (hKF _ _ ?_)
   dsimp only [cond_true, cond_false]
   refine ⟨x + 1, by omega, ⟨by simp only [↓nrmL, nrmZ, Nat.reduceEqDiff, ↓reduceIte]; rw [hw3], trivial⟩, by omega, by omega, hb6, hw6, inferInstance⟩
 have e0 : decide (((i : Nat) : Int) > 0) = true := decide_eq_true (by omega)
 have hwm : IntKind.i64.wrap ((i : Int) - 1) = ((i - 1 : Nat) : Int) := by rw [w64 (by omega)]; omega
 have hcg2 := cellsR_get (l := l) (i := i - 1) (by omega)
 generalize hrs : l.getD (i - 1) run0 = s at hcg2
 cases v1 : decide (s.1 > r.1)
 rotate_left
 ·have hap : apartB s r = false := by
   have := of_decide_eq_true v1
   unfold apartB
   rw [decide_eq_false (show ¬ r.1 > s.1 by omega), show (r.1 == s.1) = false by simp; omega]
   rfl
  have hoa : okAt l (b : Nat) (a : Nat) i = false := by unfold okAt; rw [hre, hrs, hap, decide_eq_false hi0]; simp
  have hpf : properB l (b : Nat) (a : Nat) = false := properTo_no hoa _ hil
  rw [hpf]
  try simp only [↓nrmL, nrmZ, Nat.reduceEqDiff, ↓reduceIte, hc]
  refine sq ?_
  refine sq ?_
  refine rg fun KF hKF => ?_
  refine mI rfl ?_
  refine Fo.mov (by simp only [↓nrmL, nrmK, Nat.reduceEqDiff, ↓reduceIte]; rfl) ?_
  refine Fo.len (v := ?_) (by simp only [↓nrmL, nrmK, Nat.reduceEqDiff, ↓reduceIte]; rfl) ?hv ?_; case hv => rfl
  refine Fo.bin rfl rfl rfl (by simp only [↓nrmL, nrmZ, Nat.reduceEqDiff, ↓reduceIte, hc]; rfl) ?_
  refine WpO.nil (hKF _ _ ?_)
  refine Wp.cond (b := true) rfl ?_
  refine Wp.skip ?_
  refine sq ?_
  refine Wp.block ?_
  refine sq ?_
  refine rg fun KF hKF => ?_
  refine Fo.mov (by simp only [↓nrmL, nrmK, Nat.reduceEqDiff, ↓reduceIte]; rfl) ?_
  refine mI rfl ?_
  refine Fo.idx (by simp only [↓nrmL, nrmK, Nat.reduceEqDiff, ↓reduceIte]; rfl) rfl ?_ (by simp only [↓nrmL, nrmZ, Nat.reduceEqDiff, ↓reduceIte, hc]; rfl) ?_; (focus omega)
  refine WpO.do (WpX.ldNP (p := p) (j := i * 3) (m := 3) rfl (by decide) (by rw [cellsR_length]; omega) hcg ?_)
  try simp only [↓nrmL, nrmZ, Nat.reduceEqDiff, ↓reduceIte, g1, g2, g3, g4, g5, g6, g7, e0, hwm]
  refine Fo.new ?_
  refine Fo.st rfl (rfl : _ = AVal.agg _) rfl rfl rfl (by repeat (first | rfl | refine allOne_cons ?_)) (by simp only [↓nrmL, nrmZ, Nat.reduceEqDiff, ↓reduceIte, g1, g2, g3, g4, g5, g6, g7, e0, hwm]; rfl) ?_
  refine WpO.nil (hKF _ _ ?_)
  refine sq ?_
  refine sq ?_
  refine rg fun KF hKF => ?_
  refine Fo.fa rfl ?_
  refine Fo.ld rfl rfl ?_
  refine Fo.bin rfl rfl rfl (by simp only [↓nrmL, nrmZ, Nat.reduceEqDiff, ↓reduceIte, g1, g2, g3, g4, g5, g6, g7, e0, hwm]; rfl) ?_
  refine mB rfl ?_
  refine Fo.yes rfl rfl ?_
  refine Fo.fa rfl ?_
  refine Fo.yes rfl rfl ?_
  refine Fo.ld rfl rfl ?_
  refine Fo.yes rfl rfl ?_
  refine mI rfl ?_
  refine Fo.yes rfl rfl ?_
  refine Fo.bin rfl rfl rfl (by simp only [↓nrmL, nrmZ, Nat.reduceEqDiff, ↓reduceIte, g1, g2, g3, g4, g5, g6, g7, e0, hwm]; rfl) ?_
  refine fB rfl rfl ?_
  refine mB rfl ?_
  refine Fo.yes rfl rfl ?_
  refine Fo.fa rfl ?_
  refine Fo.yes rfl rfl ?_
  refine Fo.ld rfl rfl ?_
  refine Fo.yes rfl rfl ?_
  refine Fo.bin rfl rfl rfl (by simp only [↓nrmL, nrmZ, Nat.reduceEqDiff, ↓reduceIte, g1, g2, g3, g4, g5, g6, g7, e0, hwm]; rfl) ?_
  refine fB rfl rfl ?_
  refine mB rfl ?_
  refine Fo.yes rfl rfl ?_
  refine Fo.fa rfl ?_
  refine Fo.yes rfl rfl ?_
  refine Fo.ld rfl rfl ?_
  refine Fo.yes rfl rfl ?_
  refine mI rfl ?_
  refine Fo.yes rfl rfl ?_
  refine Fo.bin rfl rfl rfl (by simp only [↓nrmL, nrmZ, Nat.reduceEqDiff, ↓reduceIte, g1, g2, g3, g4, g5, g6, g7, e0, hwm]; rfl) ?_
  refine fB rfl rfl ?_
  refine mB rfl ?_
  refine Fo.yes rfl rfl ?_
  refine Fo.fa rfl ?_
  refine Fo.yes rfl rfl ?_
  refine Fo.ld rfl rfl ?_
  refine Fo.yes rfl rfl ?_
  refine Fo.bin rfl rfl rfl (by simp only [↓nrmL, nrmZ, Nat.reduceEqDiff, ↓reduceIte, g1, g2, g3, g4, g5, g6, g7, e0, hwm]; rfl) ?_
  refine fB rfl rfl ?_
  refine mB rfl ?_
  refine Fo.yes rfl rfl ?_
  refine Fo.fa rfl ?_
  refine Fo.yes rfl rfl ?_
  refine Fo.ld rfl rfl ?_
  refine Fo.yes rfl rfl ?_
  refine mI rfl ?_
  refine Fo.yes rfl rfl ?_
  refine Fo.bin rfl rfl rfl (by simp only [↓nrmL, nrmZ, Nat.reduceEqDiff, ↓reduceIte, g1, g2, g3, g4, g5, g6, g7, e0, hwm]; rfl) ?_
  refine fB rfl rfl ?_
  refine mB rfl ?_
  refine Fo.yes rfl rfl ?_
  refine Fo.fa rfl ?_
  refine Fo.yes rfl rfl ?_
  refine Fo.ld rfl rfl ?_
  refine Fo.yes rfl rfl ?_
  refine Fo.fa rfl ?_
  refine Fo.yes rfl rfl ?_
  refine Fo.ld rfl rfl ?_
  refine Fo.yes rfl rfl ?_
  refine Fo.bin rfl rfl rfl (by simp only [↓nrmL, nrmZ, Nat.reduceEqDiff, ↓reduceIte, g1, g2, g3, g4, g5, g6, g7, e0, hwm]; rfl) ?_
  refine fB rfl rfl ?_
  refine WpO.nil (hKF _ _ ?_)
  refine Wp.cond (b := false) rfl ?_
  refine Wp.skip ?_
  refine sq ?_
  refine sq ?_
  refine rg fun KF hKF => ?_
  refine mI rfl ?_
  refine Fo.bin rfl rfl rfl (by simp only [↓nrmL, nrmZ, Nat.reduceEqDiff, ↓reduceIte, g1, g2, g3, g4, g5, g6, g7, e0, hwm]; rfl) ?_
  refine WpO.nil (hKF _ _ ?_)
  refine Wp.cond (b := true) rfl ?_
  refine sq ?_
  refine rg fun KF hKF => ?_
  refine Fo.mov (by simp only [↓nrmL, nrmK, Nat.reduceEqDiff, ↓reduceIte]; rfl) ?_
  refine mI rfl ?_
  refine Fo.bin rfl rfl rfl (by simp only [↓nrmL, nrmZ, Nat.reduceEqDiff, ↓reduceIte, g1, g2, g3, g4, g5, g6, g7, e0, hwm]; rfl) ?_
  refine Fo.idx (by simp only [↓nrmL, nrmK, Nat.reduceEqDiff, ↓reduceIte]; rfl) rfl ?_ (by simp only [↓nrmL, nrmZ, Nat.reduceEqDiff, ↓reduceIte, g1, g2, g3, g4, g5, g6, g7, e0, hwm]; rfl) ?_; (focus omega)
  refine WpO.do (WpX.ldNP (p := p) (j := (i - 1) * 3) (m := 3) rfl (by decide) (by rw [cellsR_length]; omega) hcg2 ?_)
  try simp only [↓nrmL, nrmZ, Nat.reduceEqDiff, ↓reduceIte, v1]
  refine Fo.new ?_
  refine Fo.st rfl (rfl : _ = AVal.agg _) rfl rfl rfl (by repeat (first | rfl | refine allOne_cons ?_)) (by simp only [↓nrmL, nrmZ, Nat.reduceEqDiff, ↓reduceIte, v1]; rfl) ?_
  refine WpO.nil (hKF _ _ ?_)
  refine sq ?_
  refine rg fun KF hKF => ?_
  refine Fo.fa rfl ?_
  refine Fo.ld rfl rfl ?_
  refine Fo.fa rfl ?_
  refine Fo.ld rfl rfl ?_
  refine Fo.bin rfl rfl rfl (by simp only [↓nrmL, nrmZ, Nat.reduceEqDiff, ↓reduceIte, v1]; rfl) ?_
  refine mB rfl ?_
  refine Fo.no rfl rfl ?_
  refine Fo.no rfl rfl ?_
  refine Fo.no rfl rfl ?_
  refine Fo.no rfl rfl ?_
  refine Fo.no rfl rfl ?_
  refine Fo.no rfl rfl ?_
  refine Fo.noU rfl ?_
  refine Fo.noU rfl ?_
  refine Fo.noU rfl ?_
  refine Fo.noU rfl ?_
  refine Fo.noU rfl ?_
  refine Fo.noU rfl ?_
  refine Fo.no rfl rfl ?_
  refine tB rfl rfl ?_
  refine WpO.nil (hKF _ _ ?_)
  refine Wp.cond (b := true) rfl ?_
  refine sq ?_
  refine rg fun KF hKF => ?_
  refine Fo.build (by repeat (first | refine aFill1 (by first | exact (rfl : _ = AVal.int _ _) | exact (rfl : _ = AVal.ptr _ _) | exact (rfl : _ = AVal.bool _) | exact (rfl : _ = AVal.agg _) | exact (rfl : _ = AVal.tuple _) | exact (rfl : _ = AVal.func _ _ _) | exact (rfl : _ = AVal.nslice) | ((try simp only [↓nrmL, nrmK, Nat.reduceEqDiff, ↓reduceIte]); rfl)) rfl ?_ | rfl)) rfl ?_
  refine Fo.st rfl (rfl : _ = AVal.agg _) rfl rfl rfl (by repeat (first | rfl | refine allOne_cons ?_)) (by simp only [↓nrmL, nrmZ, Nat.reduceEqDiff, ↓reduceIte, v1]; rfl) ?_
  refine mI rfl ?_
  refine WpO.nil (hKF _ _ ?_)
  refine Wp.ret ?_
  dsimp only [cond_true, cond_false]
  refine ⟨trivial, _, (getAllC rfl rfl rfl rfl), ?_⟩
  exact ⟨_, rfl, newZero⟩
 cases v2 : (s.1 == r.1)
 ·have hap : apartB s r = true := by
   have h1 := of_decide_eq_false v1
   have h2 : ¬ s.1 = r.1 := by simpa using v2
   unfold apartB
   rw [decide_eq_true (show r.1 > s.1 by omega)]
   rfl
  have hoa : okAt l (b : Nat) (a : Nat) i = true := by unfold okAt; rw [hre, hrs, hok, hap]; simp
  try simp only [↓nrmL, nrmZ, Nat.reduceEqDiff, ↓reduceIte, hc]
  refine sq ?_
  refine sq ?_
  refine rg fun KF hKF => ?_
  refine mI rfl ?_
  refine Fo.mov (by simp only [↓nrmL, nrmK, Nat.reduceEqDiff, ↓reduceIte]; rfl) ?_
  refine Fo.len (v := ?_) (by simp only [↓nrmL, nrmK, Nat.reduceEqDiff, ↓reduceIte]; rfl) ?hv ?_; case hv => rfl
  refine Fo.bin rfl rfl rfl (by simp only [↓nrmL, nrmZ, Nat.reduceEqDiff, ↓reduceIte, hc]; rfl) ?_
  refine WpO.nil (hKF _ _ ?_)
  refine Wp.cond (b := true) rfl ?_
  refine Wp.skip ?_
  refine sq ?_
  refine Wp.block ?_
  refine sq ?_
  refine rg fun KF hKF => ?_
  refine Fo.mov (by simp only [↓nrmL, nrmK, Nat.reduceEqDiff, ↓reduceIte]; rfl) ?_
  refine mI rfl ?_
  refine Fo.idx (by simp only [↓nrmL, nrmK, Nat.reduceEqDiff, ↓reduceIte]; rfl) rfl ?_ (by simp only [↓nrmL, nrmZ, Nat.reduceEqDiff, ↓reduceIte, hc]; rfl) ?_; (focus omega)
  refine WpO.do (WpX.ldNP (p := p) (j := i * 3) (m := 3) rfl (by decide) (by rw [cellsR_length]; omega) hcg ?_)
  try simp only [↓nrmL, nrmZ, Nat.reduceEqDiff, ↓reduceIte, g1, g2, g3, g4, g5, g6, g7, e0, hwm]
  refine Fo.new ?_
  refine Fo.st rfl (rfl : _ = AVal.agg _) rfl rfl rfl (by repeat (first | rfl | refine allOne_cons ?_)) (by simp only [↓nrmL, nrmZ, Nat.reduceEqDiff, ↓reduceIte, g1, g2, g3, g4, g5, g6, g7, e0, hwm]; rfl) ?_
  refine WpO.nil (hKF _ _ ?_)
  refine sq ?_
  refine sq ?_
  refine rg fun KF hKF => ?_
  refine Fo.fa rfl ?_
  refine Fo.ld rfl rfl ?_
  refine Fo.bin rfl rfl rfl (by simp only [↓nrmL, nrmZ, Nat.reduceEqDiff, ↓reduceIte, g1, g2, g3, g4, g5, g6, g7, e0, hwm]; rfl) ?_
  refine mB rfl ?_
  refine Fo.yes rfl rfl ?_
  refine Fo.fa rfl ?_
  refine Fo.yes rfl rfl ?_
  refine Fo.ld rfl rfl ?_
  refine Fo.yes rfl rfl ?_
  refine mI rfl ?_
  refine Fo.yes rfl rfl ?_
  refine Fo.bin rfl rfl rfl (by simp only [↓nrmL, nrmZ, Nat.reduceEqDiff, ↓reduceIte, g1, g2, g3, g4, g5, g6, g7, e0, hwm]; rfl) ?_
  refine fB rfl rfl ?_
  refine mB rfl ?_
  refine Fo.yes rfl rfl ?_
  refine Fo.fa rfl ?_
  refine Fo.yes rfl rfl ?_
  refine Fo.ld rfl rfl ?_
  refine Fo.yes rfl rfl ?_
  refine Fo.bin rfl rfl rfl (by simp only [↓nrmL, nrmZ, Nat.reduceEqDiff, ↓reduceIte, g1, g2, g3, g4, g5, g6, g7, e0, hwm]; rfl) ?_
  refine fB rfl rfl ?_
  refine mB rfl ?_
  refine Fo.yes rfl rfl ?_
  refine Fo.fa rfl ?_
  refine Fo.yes rfl rfl ?_
  refine Fo.ld rfl rfl ?_
  refine Fo.yes rfl rfl ?_
  refine mI rfl ?_
  refine Fo.yes rfl rfl ?_
  refine Fo.bin rfl rfl rfl (by simp only [↓nrmL, nrmZ, Nat.reduceEqDiff, ↓reduceIte, g1, g2, g3, g4, g5, g6, g7, e0, hwm]; rfl) ?_
  refine fB rfl rfl ?_
  refine mB rfl ?_
  refine Fo.yes rfl rfl ?_
  refine Fo.fa rfl ?_
  refine Fo.yes rfl rfl ?_
  refine Fo.ld rfl rfl ?_
  refine Fo.yes rfl rfl ?_
  refine Fo.bin rfl rfl rfl (by simp only [↓nrmL, nrmZ, Nat.reduceEqDiff, ↓reduceIte, g1, g2, g3, g4, g5, g6, g7, e0, hwm]; rfl) ?_
  refine fB rfl rfl ?_
  refine mB rfl ?_
  refine Fo.yes rfl rfl ?_
  refine Fo.fa rfl ?_
  refine Fo.yes rfl rfl ?_
  refine Fo.ld rfl rfl ?_
  refine Fo.yes rfl rfl ?_
  refine mI rfl ?_
  refine Fo.yes rfl rfl ?_
  refine Fo.bin rfl rfl rfl (by simp only [↓nrmL, nrmZ, Nat.reduceEqDiff, ↓reduceIte, g1, g2, g3, g4, g5, g6, g7, e0, hwm]; rfl) ?_
  refine fB rfl rfl ?_
  refine mB rfl ?_
  refine Fo.yes rfl rfl ?_
  refine Fo.fa rfl ?_
  refine Fo.yes rfl rfl ?_
  refine Fo.ld rfl rfl ?_
  refine Fo.yes rfl rfl ?_
  refine Fo.fa rfl ?_
  refine Fo.yes rfl rfl ?_
  refine Fo.ld rfl rfl ?_
  refine Fo.yes rfl rfl ?_
  refine Fo.bin rfl rfl rfl (by simp only [↓nrmL, nrmZ, Nat.reduceEqDiff, ↓reduceIte, g1, g2, g3, g4, g5, g6, g7, e0, hwm]; rfl) ?_
  refine fB rfl rfl ?_
  refine WpO.nil (hKF _ _ ?_)
  refine Wp.cond (b := false) rfl ?_
  refine Wp.skip ?_
  refine sq ?_
  refine sq ?_
  refine rg fun KF hKF => ?_
  refine mI rfl ?_
  refine Fo.bin rfl rfl rfl (by simp only [↓nrmL, nrmZ, Nat.reduceEqDiff, ↓reduceIte, g1, g2, g3, g4, g5, g6, g7, e0, hwm]; rfl) ?_
  refine WpO.nil (hKF _ _ ?_)
  refine Wp.cond (b := true) rfl ?_
  refine sq ?_
  refine rg fun KF hKF => ?_
  refine Fo.mov (by simp only [↓nrmL, nrmK, Nat.reduceEqDiff, ↓reduceIte]; rfl) ?_
  refine mI rfl ?_
  refine Fo.bin rfl rfl rfl (by simp only [↓nrmL, nrmZ, Nat.reduceEqDiff, ↓reduceIte, g1, g2, g3, g4, g5, g6, g7, e0, hwm]; rfl) ?_
  refine Fo.idx (by simp only [↓nrmL, nrmK, Nat.reduceEqDiff, ↓reduceIte]; rfl) rfl ?_ (by simp only [↓nrmL, nrmZ, Nat.reduceEqDiff, ↓reduceIte, g1, g2, g3, g4, g5, g6, g7, e0, hwm]; rfl) ?_; (focus omega)
  refine WpO.do (WpX.ldNP (p := p) (j := (i - 1) * 3) (m := 3) rfl (by decide) (by rw [cellsR_length]; omega) hcg2 ?_)
  try simp only [↓nrmL, nrmZ, Nat.reduceEqDiff, ↓reduceIte, v1, v2]
  refine Fo.new ?_
  refine Fo.st rfl (rfl : _ = AVal.agg _) rfl rfl rfl (by repeat (first | rfl | refine allOne_cons ?_)) (by simp only [↓nrmL, nrmZ, Nat.reduceEqDiff, ↓reduceIte, v1, v2]; rfl) ?_
  refine WpO.nil (hKF _ _ ?_)
  refine sq ?_
  refine rg fun KF hKF => ?_
  refine Fo.fa rfl ?_
  refine Fo.ld rfl rfl ?_
  refine Fo.fa rfl ?_
  refine Fo.ld rfl rfl ?_
  refine Fo.bin rfl rfl rfl (by simp only [↓nrmL, nrmZ, Nat.reduceEqDiff, ↓reduceIte, v1, v2]; rfl) ?_
  refine mB rfl ?_
  refine Fo.yes rfl rfl ?_
  refine Fo.fa rfl ?_
  refine Fo.yes rfl rfl ?_
  refine Fo.ld rfl rfl ?_
  refine Fo.yes rfl rfl ?_
  refine Fo.fa rfl ?_
  refine Fo.yes rfl rfl ?_
  refine Fo.ld rfl rfl ?_
  refine Fo.yes rfl rfl ?_
  refine Fo.bin rfl rfl rfl (by simp only [↓nrmL, nrmZ, Nat.reduceEqDiff, ↓reduceIte, v1, v2]; rfl) ?_
  refine Fo.yes rfl rfl ?_
  refine mB rfl ?_
  refine Fo.no rfl rfl ?_
  refine Fo.no rfl rfl ?_
  refine Fo.no rfl rfl ?_
  refine Fo.no rfl rfl ?_
  refine Fo.no rfl rfl ?_
  refine Fo.no rfl rfl ?_
  refine Fo.yes rfl rfl ?_
  refine fB rfl rfl ?_
  refine fB rfl rfl ?_
  refine WpO.nil (hKF _ _ ?_)
  refine Wp.cond (b := false) rfl ?_
  refine Wp.skip ?_
  refine sq ?_
  refine rg fun KF hKF => ?_
  refine Fo.fa rfl ?_
  refine Fo.ld rfl rfl ?_
  refine mI rfl ?_
  refine WpO.nil (hKF _ _ ?_)
  refine Wp.block ?_
  dsimp only [cond_true, cond_false]
  obtain ⟨m, f, t, em, ef, et, hmb, hft, hta⟩ := okRun_facts hok
  rw [← hre] at em ef et
  refine Wp.loopS [12, 100, 101, 102, 103, 104, 105, 106, 107, 108, 109, 110] (fun x : Nat => [(12, .int .i64 x)]) (fun H3 x H4 => f ≤ x ∧ x ≤ t + 1 ∧ BytesI H4 q (fillP (pP l (fun k => k / a) (fun k => k % a) i x) (fun _ => 1) (a * b)) ∧ WrS H4 q ∧ ExtP0 H3 H4 q) (fun x => t + 1 - x) f rfl (fun _ => rfl) ⟨by simp only [↓nrmL, nrmZ, Nat.reduceEqDiff, ↓reduceIte]; rw [← hre, ef], trivial⟩ ⟨Nat.le_refl _, by omega, by rw [show fillP (pP l (fun k => k / a) (fun k => k % a) i f) (fun _ => 1) (a * b) = fillP (pB l (fun k => k / a) (fun k => k % a) i) (fun _ => 1) (a * b) from by unfold fillP; simp only [pP_start ef]]; infer_instance, inferInstance, inferInstance⟩ (by unfold fuel0 at hn; omega) ?_
  rintro x g2 H4 ⟨hfx, hxt, hb4, hw4, ⟨hx4⟩⟩
  have hw3 := wa1 (a := x) (by omega)
  have er1 : r.1 = (m : Int) := by rw [← hre, em]
  have er2 : r.2.2 = (t : Int) := by rw [← hre, et]
  simp only [↓nrmL, nrmZ, Nat.reduceEqDiff, ↓reduceIte]
  cases hc2 : decide ((x : Int) ≤ (t : Int))
  ·have hxe : x = t + 1 := by have := of_decide_eq_false hc2; omega
   have e : fillP (pP l (fun k => k / a) (fun k => k % a) i x) (fun _ => 1) (a * b) = fillP (pB l (fun k => k / a) (fun k => k % a) (i + 1)) (fun _ => 1) (a * b) := by
    rw [hxe]; unfold fillP; simp only [pP_end hil et]
   rw [e] at hb4
   try simp only [↓nrmL, nrmZ, Nat.reduceEqDiff, ↓reduceIte, er2, hc2]
   refine sq ?_
   refine sq ?_
   refine rg fun KF hKF => ?_
   refine mI rfl ?_
   refine Fo.fa rfl ?_
   refine Fo.ld rfl rfl ?_
   refine Fo.bin rfl rfl rfl (by simp only [↓nrmL, nrmZ, Nat.reduceEqDiff, ↓reduceIte, er2, hc2]; rfl) ?_
   refine WpO.nil (hKF _ _ ?_)
   refine Wp.cond (b := false) rfl ?_
   refine Wp.exit ?_
   refine rg fun KF hKF => ?_
   refine mI rfl ?_
   refine Fo.bin rfl rfl rfl rfl ?_
   refine mI rfl ?_
   refine WpO.nil (hKF _ _ ?_)
   dsimp only [cond_true, cond_false]
   refine ⟨i + 1, by omega, ⟨by simp only [↓nrmL, nrmZ, Nat.reduceEqDiff, ↓reduceIte]; rw [hw1], trivial⟩, hil, by simp only [properTo, hpr, hoa]; rfl, inferInstance, inferInstance, inferInstance⟩
  ·have hxl : x ≤ t := by have := of_decide_eq_true hc2; omega
   have hlt := idx_lt (x := x) (y := m) (w := a) (h := b) (by omega) (by omega)
   have hfl := fillP_length (pP l (fun k => k / a) (fun k => k % a) i x) (fun _ => 1) (a * b)
   simp only [er1, er2] at hx4
   try simp only [↓nrmL, nrmZ, Nat.reduceEqDiff, ↓reduceIte, er1, er2, hc2]
   refine sq ?_
   refine sq ?_
   refine rg fun KF hKF => ?_
   refine mI rfl ?_
   refine Fo.fa rfl ?_
   refine Fo.ld rfl rfl ?_
   refine Fo.bin rfl rfl rfl (by simp only [↓nrmL, nrmZ, Nat.reduceEqDiff, ↓reduceIte, er1, er2, hc2]; rfl) ?_
   refine WpO.nil (hKF _ _ ?_)
   refine Wp.cond (b := true) rfl ?_
   refine Wp.skip ?_
   refine sq ?_
   refine Wp.block ?_
   refine rg fun KF hKF => ?_
   refine Fo.ldN rfl rfl (by simp only [↓nrmL, nrmZ, Nat.reduceEqDiff, ↓reduceIte, er1, er2, hc2]; rfl) ?_
   refine mI rfl ?_
   refine Fo.fa rfl ?_
   refine Fo.ld rfl rfl ?_
   refine WpO.do (WpX.conD hn rfl rfl (by simp only [↓nrmL, nrmZ, Nat.reduceEqDiff, ↓reduceIte, List.map, er1] <;> rfl) (K_refSet (y := m) (x := x) (w := a) (p := q) (l := fillP (pP l (fun k => k / a) (fun k => k % a) i x) (fun _ => 1) (a * b)) (by rw [hfl]; exact hlt) (by rw [hfl]; omega)) fun v6 H6 h5 => ?_)
   obtain ⟨hb6, hw6, hx6⟩ := h5
   rw [fillP_set (Q := pP l (fun k => k / a) (fun k => k % a) i (x + 1)) (f := fun _ => 1) (fun k _ => pP_next em (by rw [ef]; omega) ((flp_iff (b := a) (x := m) (y := x) (by omega)).trans And.comm))] at hb6
   refine WpO.nil (hKF _ _ ?_)
   refine rg fun KF hKF => ?_
   refine mI rfl ?_
   refine Fo.bin rfl rfl rfl rfl ?_
   refine mI rfl ?_
   refine WpO.nil (hKF _ _ ?_)
   dsimp only [cond_true, cond_false]
   refine ⟨x + 1, by omega, ⟨by simp only [↓nrmL, nrmZ, Nat.reduceEqDiff, ↓reduceIte]; rw [hw3], trivial⟩, by omega, by omega, hb6, hw6, inferInstance⟩
 have h2 : s.1 = r.1 := by simpa using v2
 cases v3 : decide (IntKind.i64.wrap (s.2.2 + 1) ≥ r.2.1)
 ·have hap : apartB s r = true := by
   have := of_decide_eq_false v3
   unfold apartB
   rw [show (r.1 == s.1) = true by simp [h2], decide_eq_true (show r.2.1 > IntKind.i64.wrap (s.2.2 + 1) by omega)]
   simp
  have hoa : okAt l (b : Nat) (a : Nat) i = true := by unfold okAt; rw [hre, hrs, hok, hap]; simp
  try simp only [↓nrmL, nrmZ, Nat.reduceEqDiff, ↓reduceIte, hc]
  refine sq ?_
  refine sq ?_
  refine rg fun KF hKF => ?_
  refine mI rfl ?_
  refine Fo.mov (by simp only [↓nrmL, nrmK, Nat.reduceEqDiff, ↓reduceIte]; rfl) ?_
  refine Fo.len (v := ?_) (by simp only [↓nrmL, nrmK, Nat.reduceEqDiff, ↓reduceIte]; rfl) ?hv ?_; case hv => rfl
  refine Fo.bin rfl rfl rfl (by simp only [↓nrmL, nrmZ, Nat.reduceEqDiff, ↓reduceIte, hc]; rfl) ?_
  refine WpO.nil (hKF _ _ ?_)
  refine Wp.cond (b := true) rfl ?_
  refine Wp.skip ?_
  refine sq ?_
  refine Wp.block ?_
  refine sq ?_
  refine rg fun KF hKF => ?_
  refine Fo.mov (by simp only [↓nrmL, nrmK, Nat.reduceEqDiff, ↓reduceIte]; rfl) ?_
  refine mI rfl ?_
  refine Fo.idx (by simp only [↓nrmL, nrmK, Nat.reduceEqDiff, ↓reduceIte]; rfl) rfl ?_ (by simp only [↓nrmL, nrmZ, Nat.reduceEqDiff, ↓reduceIte, hc]; rfl) ?_; (focus omega)
  refine WpO.do (WpX.ldNP (p := p) (j := i * 3) (m := 3) rfl (by decide) (by rw [cellsR_length]; omega) hcg ?_)
  try simp only [↓nrmL, nrmZ, Nat.reduceEqDiff, ↓reduceIte, g1, g2, g3, g4, g5, g6, g7, e0, hwm]
  refine Fo.new ?_
  refine Fo.st rfl (rfl : _ = AVal.agg _) rfl rfl rfl (by repeat (first | rfl | refine allOne_cons ?_)) (by simp only [↓nrmL, nrmZ, Nat.reduceEqDiff, ↓reduceIte, g1, g2, g3, g4, g5, g6, g7, e0, hwm]; rfl) ?_
  refine WpO.nil (hKF _ _ ?_)
  refine sq ?_
  refine sq ?_
  refine rg fun KF hKF => ?_
  refine Fo.fa rfl ?_
  refine Fo.ld rfl rfl ?_
  refine Fo.bin rfl rfl rfl (by simp only [↓nrmL, nrmZ, Nat.reduceEqDiff, ↓reduceIte, g1, g2, g3, g4, g5, g6, g7, e0, hwm]; rfl) ?_
  refine mB rfl ?_
  refine Fo.yes rfl rfl ?_
  refine Fo.fa rfl ?_
  refine Fo.yes rfl rfl ?_
  refine Fo.ld rfl rfl ?_
  refine Fo.yes rfl rfl ?_
  refine mI rfl ?_
  refine Fo.yes rfl rfl ?_
  refine Fo.bin rfl rfl rfl (by simp only [↓nrmL, nrmZ, Nat.reduceEqDiff, ↓reduceIte, g1, g2, g3, g4, g5, g6, g7, e0, hwm]; rfl) ?_
  refine fB rfl rfl ?_
  refine mB rfl ?_
  refine Fo.yes rfl rfl ?_
  refine Fo.fa rfl ?_
  refine Fo.yes rfl rfl ?_
  refine Fo.ld rfl rfl ?_
  refine Fo.yes rfl rfl ?_
  refine Fo.bin rfl rfl rfl (by simp only [↓nrmL, nrmZ, Nat.reduceEqDiff, ↓reduceIte, g1, g2, g3, g4, g5, g6, g7, e0, hwm]; rfl) ?_
  refine fB rfl rfl ?_
  refine mB rfl ?_
  refine Fo.yes rfl rfl ?_
  refine Fo.fa rfl ?_
  refine Fo.yes rfl rfl ?_
  refine Fo.ld rfl rfl ?_
  refine Fo.yes rfl rfl ?_
  refine mI rfl ?_
  refine Fo.yes rfl rfl ?_
  refine Fo.bin rfl rfl rfl (by simp only [↓nrmL, nrmZ, Nat.reduceEqDiff, ↓reduceIte, g1, g2, g3, g4, g5, g6, g7, e0, hwm]; rfl) ?_
  refine fB rfl rfl ?_
  refine mB rfl ?_
  refine Fo.yes rfl rfl ?_
  refine Fo.fa rfl ?_
  refine Fo.yes rfl rfl ?_
  refine Fo.ld rfl rfl ?_
  refine Fo.yes rfl rfl ?_
  refine Fo.bin rfl rfl rfl (by simp only [↓nrmL, nrmZ, Nat.reduceEqDiff, ↓reduceIte, g1, g2, g3, g4, g5, g6, g7, e0, hwm]; rfl) ?_
  refine fB rfl rfl ?_
  refine mB rfl ?_
  refine Fo.yes rfl rfl ?_
  refine Fo.fa rfl ?_
  refine Fo.yes rfl rfl ?_
  refine Fo.ld rfl rfl ?_
  refine Fo.yes rfl rfl ?_
  refine mI rfl ?_
  refine Fo.yes rfl rfl ?_
  refine Fo.bin rfl rfl rfl (by simp only [↓nrmL, nrmZ, Nat.reduceEqDiff, ↓reduceIte, g1, g2, g3, g4, g5, g6, g7, e0, hwm]; rfl) ?_
  refine fB rfl rfl ?_
  refine mB rfl ?_
  refine Fo.yes rfl rfl ?_
  refine Fo.fa rfl ?_
  refine Fo.yes rfl rfl ?_
  refine Fo.ld rfl rfl ?_
  refine Fo.yes rfl rfl ?_
  refine Fo.fa rfl ?_
  refine Fo.yes rfl rfl ?_
  refine Fo.ld rfl rfl ?_
  refine Fo.yes rfl rfl ?_
  refine Fo.bin rfl rfl rfl (by simp only [↓nrmL, nrmZ, Nat.reduceEqDiff, ↓reduceIte, g1, g2, g3, g4, g5, g6, g7, e0, hwm]; rfl) ?_
  refine fB rfl rfl ?_
  refine WpO.nil (hKF _ _ ?_)
  refine Wp.cond (b := false) rfl ?_
  refine Wp.skip ?_
  refine sq ?_
  refine sq ?_
  refine rg fun KF hKF => ?_
  refine mI rfl ?_
  refine Fo.bin rfl rfl rfl (by simp only [↓nrmL, nrmZ, Nat.reduceEqDiff, ↓reduceIte, g1, g2, g3, g4, g5, g6, g7, e0, hwm]; rfl) ?_
  refine WpO.nil (hKF _ _ ?_)
  refine Wp.cond (b := true) rfl ?_
  refine sq ?_
  refine rg fun KF hKF => ?_
  refine Fo.mov (by simp only [↓nrmL, nrmK, Nat.reduceEqDiff, ↓reduceIte]; rfl) ?_
  refine mI rfl ?_
  refine Fo.bin rfl rfl rfl (by simp only [↓nrmL, nrmZ, Nat.reduceEqDiff, ↓reduceIte, g1, g2, g3, g4, g5, g6, g7, e0, hwm]; rfl) ?_
  refine Fo.idx (by simp only [↓nrmL, nrmK, Nat.reduceEqDiff, ↓reduceIte]; rfl) rfl ?_ (by simp only [↓nrmL, nrmZ, Nat.reduceEqDiff, ↓reduceIte, g1, g2, g3, g4, g5, g6, g7, e0, hwm]; rfl) ?_; (focus omega)
  refine WpO.do (WpX.ldNP (p := p) (j := (i - 1) * 3) (m := 3) rfl (by decide) (by rw [cellsR_length]; omega) hcg2 ?_)
  try simp only [↓nrmL, nrmZ, Nat.reduceEqDiff, ↓reduceIte, v1, v2, v3]
  refine Fo.new ?_
  refine Fo.st rfl (rfl : _ = AVal.agg _) rfl rfl rfl (by repeat (first | rfl | refine allOne_cons ?_)) (by simp only [↓nrmL, nrmZ, Nat.reduceEqDiff, ↓reduceIte, v1, v2, v3]; rfl) ?_
  refine WpO.nil (hKF _ _ ?_)
  refine sq ?_
  refine rg fun KF hKF => ?_
  refine Fo.fa rfl ?_
  refine Fo.ld rfl rfl ?_
  refine Fo.fa rfl ?_
  refine Fo.ld rfl rfl ?_
  refine Fo.bin rfl rfl rfl (by simp only [↓nrmL, nrmZ, Nat.reduceEqDiff, ↓reduceIte, v1, v2, v3]; rfl) ?_
  refine mB rfl ?_
  refine Fo.yes rfl rfl ?_
  refine Fo.fa rfl ?_
  refine Fo.yes rfl rfl ?_
  refine Fo.ld rfl rfl ?_
  refine Fo.yes rfl rfl ?_
  refine Fo.fa rfl ?_
  refine Fo.yes rfl rfl ?_
  refine Fo.ld rfl rfl ?_
  refine Fo.yes rfl rfl ?_
  refine Fo.bin rfl rfl rfl (by simp only [↓nrmL, nrmZ, Nat.reduceEqDiff, ↓reduceIte, v1, v2, v3]; rfl) ?_
  refine Fo.yes rfl rfl ?_
  refine mB rfl ?_
  refine Fo.yes rfl rfl ?_
  refine Fo.fa rfl ?_
  refine Fo.yes rfl rfl ?_
  refine Fo.ld rfl rfl ?_
  refine Fo.yes rfl rfl ?_
  refine Fo.bin rfl rfl rfl rfl ?_
  refine Fo.yes rfl rfl ?_
  refine Fo.fa rfl ?_
  refine Fo.yes rfl rfl ?_
  refine Fo.ld rfl rfl ?_
  refine Fo.yes rfl rfl ?_
  refine Fo.bin rfl rfl rfl (by simp only [↓nrmL, nrmZ, Nat.reduceEqDiff, ↓reduceIte, v1, v2, v3]; rfl) ?_
  refine Fo.yes rfl rfl ?_
  refine tB rfl rfl ?_
  refine fB rfl rfl ?_
  refine WpO.nil (hKF _ _ ?_)
  refine Wp.cond (b := false) rfl ?_
  refine Wp.skip ?_
  refine sq ?_
  refine rg fun KF hKF => ?_
  refine Fo.fa rfl ?_
  refine Fo.ld rfl rfl ?_
  refine mI rfl ?_
  refine WpO.nil (hKF _ _ ?_)
  refine Wp.block ?_
  dsimp only [cond_true, cond_false]
  obtain ⟨m, f, t, em, ef, et, hmb, hft, hta⟩ := okRun_facts hok
  rw [← hre] at em ef et
  refine Wp.loopS [12, 100, 101, 102, 103, 104, 105, 106, 107, 108, 109, 110] (fun x : Nat => [(12, .int .i64 x)]) (fun H3 x H4 => f ≤ x ∧ x ≤ t + 1 ∧ BytesI H4 q (fillP (pP l (fun k => k / a) (fun k => k % a) i x) (fun _ => 1) (a * b)) ∧ WrS H4 q ∧ ExtP0 H3 H4 q) (fun x => t + 1 - x) f rfl (fun _ => rfl) ⟨by simp only [↓nrmL, nrmZ, Nat.reduceEqDiff, ↓reduceIte]; rw [← hre, ef], trivial⟩ ⟨Nat.le_refl _, by omega, by rw [show fillP (pP l (fun k => k / a) (fun k => k % a) i f) (fun _ => 1) (a * b) = fillP (pB l (fun k => k / a) (fun k => k % a) i) (fun _ => 1) (a * b) from by unfold fillP; simp only [pP_start ef]]; infer_instance, inferInstance, inferInstance⟩ (by unfold fuel0 at hn; omega) ?_
  rintro x g2 H4 ⟨hfx, hxt, hb4, hw4, ⟨hx4⟩⟩
  have hw3 := wa1 (a := x) (by omega)
  have er1 : r.1 = (m : Int) := by rw [← hre, em]
  have er2 : r.2.2 = (t : Int) := by rw [← hre, et]
  simp only [↓nrmL, nrmZ, Nat.reduceEqDiff, ↓reduceIte]
  cases hc2 : decide ((x : Int) ≤ (t : Int))
  ·have hxe : x = t + 1 := by have := of_decide_eq_false hc2; omega
   have e : fillP (pP l (fun k => k / a) (fun k => k % a) i x) (fun _ => 1) (a * b) = fillP (pB l (fun k => k / a) (fun k => k % a) (i + 1)) (fun _ => 1) (a * b) := by
    rw [hxe]; unfold fillP; simp only [pP_end hil et]
   rw [e] at hb4
   try simp only [↓nrmL, nrmZ, Nat.reduceEqDiff, ↓reduceIte, er2, hc2]
   refine sq ?_
   refine sq ?_
   refine rg fun KF hKF => ?_
   refine mI rfl ?_
   refine Fo.fa rfl ?_
   refine Fo.ld rfl rfl ?_
   refine Fo.bin rfl rfl rfl (by simp only [↓nrmL, nrmZ, Nat.reduceEqDiff, ↓reduceIte, er2, hc2]; rfl) ?_
   refine WpO.nil (hKF _ _ ?_)
   refine Wp.cond (b := false) rfl ?_
   refine Wp.exit ?_
   refine rg fun KF hKF => ?_
   refine mI rfl ?_
   refine Fo.bin rfl rfl rfl rfl ?_
   refine mI rfl ?_
   refine WpO.nil (hKF _ _ ?_)
   dsimp only [cond_true, cond_false]
   refine ⟨i + 1, by omega, ⟨by simp only [↓nrmL, nrmZ, Nat.reduceEqDiff, ↓reduceIte]; rw [hw1], trivial⟩, hil, by simp only [properTo, hpr, hoa]; rfl, inferInstance, inferInstance, inferInstance⟩
  ·have hxl : x ≤ t := by have := of_decide_eq_true hc2; omega
   have hlt := idx_lt (x := x) (y := m) (w := a) (h := b) (by omega) (by omega)
   have hfl := fillP_length (pP l (fun k => k / a) (fun k => k % a) i x) (fun _ => 1) (a * b)
   simp only [er1, er2] at hx4
   try simp only [↓nrmL, nrmZ, Nat.reduceEqDiff, ↓reduceIte, er1, er2, hc2]
   refine sq ?_
   refine sq ?_
   refine rg fun KF hKF => ?_
   refine mI rfl ?_
   refine Fo.fa rfl ?_
   refine Fo.ld rfl rfl ?_
   refine Fo.bin rfl rfl rfl (by simp only [↓nrmL, nrmZ, Nat.reduceEqDiff, ↓reduceIte, er1, er2, hc2]; rfl) ?_
   refine WpO.nil (hKF _ _ ?_)
   refine Wp.cond (b := true) rfl ?_
   refine Wp.skip ?_
   refine sq ?_
   refine Wp.block ?_
   refine rg fun KF hKF => ?_
   refine Fo.ldN rfl rfl (by simp only [↓nrmL, nrmZ, Nat.reduceEqDiff, ↓reduceIte, er1, er2, hc2]; rfl) ?_
   refine mI rfl ?_
   refine Fo.fa rfl ?_
   refine Fo.ld rfl rfl ?_
   refine WpO.do (WpX.conD hn rfl rfl (by simp only [↓nrmL, nrmZ, Nat.reduceEqDiff, ↓reduceIte, List.map, er1] <;> rfl) (K_refSet (y := m) (x := x) (w := a) (p := q) (l := fillP (pP l (fun k => k / a) (fun k => k % a) i x) (fun _ => 1) (a * b)) (by rw [hfl]; exact hlt) (by rw [hfl]; omega)) fun v6 H6 h5 => ?_)
   obtain ⟨hb6, hw6, hx6⟩ := h5
   rw [fillP_set (Q := pP l (fun k => k / a) (fun k => k % a) i (x + 1)) (f := fun _ => 1) (fun k _ => pP_next em (by rw [ef]; omega) ((flp_iff (b := a) (x := m) (y := x) (by omega)).trans And.comm))] at hb6
   refine WpO.nil (hKF _ _ ?_)
   refine rg fun KF hKF => ?_
   refine mI rfl ?_
   refine Fo.bin rfl rfl rfl rfl ?_
   refine mI rfl ?_
   refine WpO.nil (hKF _ _ ?_)
   dsimp only [cond_true, cond_false]
   refine ⟨x + 1, by omega, ⟨by simp only [↓nrmL, nrmZ, Nat.reduceEqDiff, ↓reduceIte]; rw [hw3], trivial⟩, by omega, by omega, hb6, hw6, inferInstance⟩
 ·have hap : apartB s r = false := by
   have := of_decide_eq_true v3
   unfold apartB
   rw [decide_eq_false (show ¬ r.1 > s.1 by omega), decide_eq_false (show ¬ r.2.1 > IntKind.i64.wrap (s.2.2 + 1) by omega)]
   simp
  have hoa : okAt l (b : Nat) (a : Nat) i = false := by unfold okAt; rw [hre, hrs, hap, decide_eq_false hi0]; simp
  have hpf : properB l (b : Nat) (a : Nat) = false := properTo_no hoa _ hil
  rw [hpf]
  try simp only [↓nrmL, nrmZ, Nat.reduceEqDiff, ↓reduceIte, hc]
  refine sq ?_
  refine sq ?_
  refine rg fun KF hKF => ?_
  refine mI rfl ?_
  refine Fo.mov (by simp only [↓nrmL, nrmK, Nat.reduceEqDiff, ↓reduceIte]; rfl) ?_
  refine Fo.len (v := ?_) (by simp only [↓nrmL, nrmK, Nat.reduceEqDiff, ↓reduceIte]; rfl) ?hv ?_; case hv => rfl
  refine Fo.bin rfl rfl rfl (by simp only [↓nrmL, nrmZ, Nat.reduceEqDiff, ↓reduceIte, hc]; rfl) ?_
  refine WpO.nil (hKF _ _ ?_)
  refine Wp.cond (b := true) rfl ?_
  refine Wp.skip ?_
  refine sq ?_
  refine Wp.block ?_
  refine sq ?_
  refine rg fun KF hKF => ?_
  refine Fo.mov (by simp only [↓nrmL, nrmK, Nat.reduceEqDiff, ↓reduceIte]; rfl) ?_
  refine mI rfl ?_
  refine Fo.idx (by simp only [↓nrmL, nrmK, Nat.reduceEqDiff, ↓reduceIte]; rfl) rfl ?_ (by simp only [↓nrmL, nrmZ, Nat.reduceEqDiff, ↓reduceIte, hc]; rfl) ?_; (focus omega)
  refine WpO.do (WpX.ldNP (p := p) (j := i * 3) (m := 3) rfl (by decide) (by rw [cellsR_length]; omega) hcg ?_)
  try simp only [↓nrmL, nrmZ, Nat.reduceEqDiff, ↓reduceIte, g1, g2, g3, g4, g5, g6, g7, e0, hwm]
  refine Fo.new ?_
  refine Fo.st rfl (rfl : _ = AVal.agg _) rfl rfl rfl (by repeat (first | rfl | refine allOne_cons ?_)) (by simp only [↓nrmL, nrmZ, Nat.reduceEqDiff, ↓reduceIte, g1, g2, g3, g4, g5, g6, g7, e0, hwm]; rfl) ?_
  refine WpO.nil (hKF _ _ ?_)
  refine sq ?_
  refine sq ?_
  refine rg fun KF hKF => ?_
  refine Fo.fa rfl ?_
  refine Fo.ld rfl rfl ?_
  refine Fo.bin rfl rfl rfl (by simp only [↓nrmL, nrmZ, Nat.reduceEqDiff, ↓reduceIte, g1, g2, g3, g4, g5, g6, g7, e0, hwm]; rfl) ?_
  refine mB rfl ?_
  refine Fo.yes rfl rfl ?_
  refine Fo.fa rfl ?_
  refine Fo.yes rfl rfl ?_
  refine Fo.ld rfl rfl ?_
  refine Fo.yes rfl rfl ?_
  refine mI rfl ?_
  refine Fo.yes rfl rfl ?_
  refine Fo.bin rfl rfl rfl (by simp only [↓nrmL, nrmZ, Nat.reduceEqDiff, ↓reduceIte, g1, g2, g3, g4, g5, g6, g7, e0, hwm]; rfl) ?_
  refine fB rfl rfl ?_
  refine mB rfl ?_
  refine Fo.yes rfl rfl ?_
  refine Fo.fa rfl ?_
  refine Fo.yes rfl rfl ?_
  refine Fo.ld rfl rfl ?_
  refine Fo.yes rfl rfl ?_
  refine Fo.bin rfl rfl rfl (by simp only [↓nrmL, nrmZ, Nat.reduceEqDiff, ↓reduceIte, g1, g2, g3, g4, g5, g6, g7, e0, hwm]; rfl) ?_
  refine fB rfl rfl ?_
  refine mB rfl ?_
  refine Fo.yes rfl rfl ?_
  refine Fo.fa rfl ?_
  refine Fo.yes rfl rfl ?_
  refine Fo.ld rfl rfl ?_
  refine Fo.yes rfl rfl ?_
  refine mI rfl ?_
  refine Fo.yes rfl rfl ?_
  refine Fo.bin rfl rfl rfl (by simp only [↓nrmL, nrmZ, Nat.reduceEqDiff, ↓reduceIte, g1, g2, g3, g4, g5, g6, g7, e0, hwm]; rfl) ?_
  refine fB rfl rfl ?_
  refine mB rfl ?_
  refine Fo.yes rfl rfl ?_
  refine Fo.fa rfl ?_
  refine Fo.yes rfl rfl ?_
  refine Fo.ld rfl rfl ?_
  refine Fo.yes rfl rfl ?_
  refine Fo.bin rfl rfl rfl (by simp only [↓nrmL, nrmZ, Nat.reduceEqDiff, ↓reduceIte, g1, g2, g3, g4, g5, g6, g7, e0, hwm]; rfl) ?_
  refine fB rfl rfl ?_
  refine mB rfl ?_
  refine Fo.yes rfl rfl ?_
  refine Fo.fa rfl ?_
  refine Fo.yes rfl rfl ?_
  refine Fo.ld rfl rfl ?_
  refine Fo.yes rfl rfl ?_
  refine mI rfl ?_
  refine Fo.yes rfl rfl ?_
  refine Fo.bin rfl rfl rfl (by simp only [↓nrmL, nrmZ, Nat.reduceEqDiff, ↓reduceIte, g1, g2, g3, g4, g5, g6, g7, e0, hwm]; rfl) ?_
  refine fB rfl rfl ?_
  refine mB rfl ?_
  refine Fo.yes rfl rfl ?_
  refine Fo.fa rfl ?_
  refine Fo.yes rfl rfl ?_
  refine Fo.ld rfl rfl ?_
  refine Fo.yes rfl rfl ?_
  refine Fo.fa rfl ?_
  refine Fo.yes rfl rfl ?_
  refine Fo.ld rfl rfl ?_
  refine Fo.yes rfl rfl ?_
  refine Fo.bin rfl rfl rfl (by simp only [↓nrmL, nrmZ, Nat.reduceEqDiff, ↓reduceIte, g1, g2, g3, g4, g5, g6, g7, e0, hwm]; rfl) ?_
  refine fB rfl rfl ?_
  refine WpO.nil (hKF _ _ ?_)
  refine Wp.cond (b := false) rfl ?_
  refine Wp.skip ?_
  refine sq ?_
  refine sq ?_
  refine rg fun KF hKF => ?_
  refine mI rfl ?_
  refine Fo.bin rfl rfl rfl (by simp only [↓nrmL, nrmZ, Nat.reduceEqDiff, ↓reduceIte, g1, g2, g3, g4, g5, g6, g7, e0, hwm]; rfl) ?_
  refine WpO.nil (hKF _ _ ?_)
  refine Wp.cond (b := true) rfl ?_
  refine sq ?_
  refine rg fun KF hKF => ?_
  refine Fo.mov (by simp only [↓nrmL, nrmK, Nat.reduceEqDiff, ↓reduceIte]; rfl) ?_
  refine mI rfl ?_
  refine Fo.bin rfl rfl rfl (by simp only [↓nrmL, nrmZ, Nat.reduceEqDiff, ↓reduceIte, g1, g2, g3, g4, g5, g6, g7, e0, hwm]; rfl) ?_
  refine Fo.idx (by simp only [↓nrmL, nrmK, Nat.reduceEqDiff, ↓reduceIte]; rfl) rfl ?_ (by simp only [↓nrmL, nrmZ, Nat.reduceEqDiff, ↓reduceIte, g1, g2, g3, g4, g5, g6, g7, e0, hwm]; rfl) ?_; (focus omega)
  refine WpO.do (WpX.ldNP (p := p) (j := (i - 1) * 3) (m := 3) rfl (by decide) (by rw [cellsR_length]; omega) hcg2 ?_)
  try simp only [↓nrmL, nrmZ, Nat.reduceEqDiff, ↓reduceIte, v1, v2, v3]
  refine Fo.new ?_
  refine Fo.st rfl (rfl : _ = AVal.agg _) rfl rfl rfl (by repeat (first | rfl | refine allOne_cons ?_)) (by simp only [↓nrmL, nrmZ, Nat.reduceEqDiff, ↓reduceIte, v1, v2, v3]; rfl) ?_
  refine WpO.nil (hKF _ _ ?_)
  refine sq ?_
  refine rg fun KF hKF => ?_
  refine Fo.fa rfl ?_
  refine Fo.ld rfl rfl ?_
  refine Fo.fa rfl ?_
  refine Fo.ld rfl rfl ?_
  refine Fo.bin rfl rfl rfl (by simp only [↓nrmL, nrmZ, Nat.reduceEqDiff, ↓reduceIte, v1, v2, v3]; rfl) ?_
  refine mB rfl ?_
  refine Fo.yes rfl rfl ?_
  refine Fo.fa rfl ?_
  refine Fo.yes rfl rfl ?_
  refine Fo.ld rfl rfl ?_
  refine Fo.yes rfl rfl ?_
  refine Fo.fa rfl ?_
  refine Fo.yes rfl rfl ?_
  refine Fo.ld rfl rfl ?_
  refine Fo.yes rfl rfl ?_
  refine Fo.bin rfl rfl rfl (by simp only [↓nrmL, nrmZ, Nat.reduceEqDiff, ↓reduceIte, v1, v2, v3]; rfl) ?_
  refine Fo.yes rfl rfl ?_
  refine mB rfl ?_
  refine Fo.yes rfl rfl ?_
  refine Fo.fa rfl ?_
  refine Fo.yes rfl rfl ?_
  refine Fo.ld rfl rfl ?_
  refine Fo.yes rfl rfl ?_
  refine Fo.bin rfl rfl rfl rfl ?_
  refine Fo.yes rfl rfl ?_
  refine Fo.fa rfl ?_
  refine Fo.yes rfl rfl ?_
  refine Fo.ld rfl rfl ?_
  refine Fo.yes rfl rfl ?_
  refine Fo.bin rfl rfl rfl (by simp only [↓nrmL, nrmZ, Nat.reduceEqDiff, ↓reduceIte, v1, v2, v3]; rfl) ?_
  refine Fo.yes rfl rfl ?_
  refine tB rfl rfl ?_
  refine fB rfl rfl ?_
  refine WpO.nil (hKF _ _ ?_)
  refine Wp.cond (b := true) rfl ?_
  refine sq ?_
  refine rg fun KF hKF => ?_
  refine Fo.build (by repeat (first | refine aFill1 (by first | exact (rfl : _ = AVal.int _ _) | exact (rfl : _ = AVal.ptr _ _) | exact (rfl : _ = AVal.bool _) | exact (rfl : _ = AVal.agg _) | exact (rfl : _ = AVal.tuple _) | exact (rfl : _ = AVal.func _ _ _) | exact (rfl : _ = AVal.nslice) | ((try simp only [↓nrmL, nrmK, Nat.reduceEqDiff, ↓reduceIte]); rfl)) rfl ?_ | rfl)) rfl ?_
  refine Fo.st rfl (rfl : _ = AVal.agg _) rfl rfl rfl (by repeat (first | rfl | refine allOne_cons ?_)) (by simp only [↓nrmL, nrmZ, Nat.reduceEqDiff, ↓reduceIte, v1, v2, v3]; rfl) ?_
  refine mI rfl ?_
  refine WpO.nil (hKF _ _ ?_)
  refine Wp.ret ?_
  dsimp only [cond_true, cond_false]
  refine ⟨trivial, _, (getAllC rfl rfl rfl rfl), ?_⟩
  exact ⟨_, rfl, newZero⟩
end Go.Am
