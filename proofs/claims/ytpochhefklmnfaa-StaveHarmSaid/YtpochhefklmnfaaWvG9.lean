/-
  StaveHarm returns true for all numbers, bends and bits, and leaves them as they were. No condition.
-/
import Derived.Test.YtpochhefklmnfaaAmBE
set_option linter.unusedSimpArgs false
set_option linter.unusedVariables false
set_option maxHeartbeats 32000000
set_option maxRecDepth 100000
set_option synthInstance.maxHeartbeats 4000000
set_option synthInstance.maxSize 1000000000

namespace Go.Am
open Go
attribute [local irreducible] Wp WpO WpX WpE
abbrev RunT := Int × Int × Int
def cellsR (l : List RunT) : List AVal := l.flatMap fun r => [.int .i64 r.1, .int .i64 r.2.1, .int .i64 r.2.2]
theorem cellsR_snoc (l : List RunT) (r : RunT) : cellsR (l ++ [r]) = cellsR l ++ [.int .i64 r.1, .int .i64 r.2.1, .int .i64 r.2.2] := by simp [cellsR]
def startB (p : Nat → Bool) (x : Nat) : Bool := p x && !(decide (0 < x) && p (x - 1))
def endF (p : Nat → Bool) (len : Nat) : Nat → Nat → Nat
 | 0, i => i
 | f + 1, i => if i + 1 < len ∧ p (i + 1) = true then endF p len f (i + 1) else i
def endB (p : Nat → Bool) (len i : Nat) : Nat := endF p len len i
theorem endF_eq {p : Nat → Bool} {len e : Nat} (he : e < len) (hno : e + 1 < len → p (e + 1) = false) : ∀ {f i : Nat}, i ≤ e → e - i ≤ f → (∀ t, i ≤ t → t ≤ e → p t = true) → endF p len f i = e
 | 0, i, h1, h2, _ => by simp only [endF]; omega
 | f + 1, i, h1, h2, h3 => by
  simp only [endF]
  by_cases h : i = e
  ·subst h
   rw [if_neg (fun q => by rw [hno q.1] at q; cases q.2)]
  ·rw [if_pos ⟨by omega, h3 (i + 1) (by omega) (by omega)⟩]
   exact endF_eq he hno (by omega) (by omega) fun t a b => h3 t (by omega) b
theorem endB_eq {p : Nat → Bool} {len i e : Nat} (he : e < len) (hno : e + 1 < len → p (e + 1) = false) (hi : i ≤ e) (hall : ∀ t, i ≤ t → t ≤ e → p t = true) : endB p len i = e := endF_eq he hno hi (by omega) hall
def runV (o : Nat → Nat → Bool) (len a x : Nat) : RunT := ((a : Nat), (x : Nat), (endB (o a) len x : Nat))
def preR (o : Nat → Nat → Bool) (len a x : Nat) : List RunT := ((List.range x).filter (startB (o a))).map (runV o len a)
def allR (o : Nat → Nat → Bool) (len y : Nat) : List RunT := (List.range y).flatMap fun a => preR o len a len
theorem preR_zero (o : Nat → Nat → Bool) (len a : Nat) : preR o len a 0 = [] := rfl
theorem preR_on {o : Nat → Nat → Bool} {len a x : Nat} (h : startB (o a) x = true) : preR o len a (x + 1) = preR o len a x ++ [runV o len a x] := by
 simp [preR, List.range_succ, List.filter_append, h]
theorem preR_off {o : Nat → Nat → Bool} {len a x : Nat} (h : startB (o a) x = false) : preR o len a (x + 1) = preR o len a x := by
 simp [preR, List.range_succ, List.filter_append, h]
theorem preR_skip {o : Nat → Nat → Bool} {len a i : Nat} : ∀ {j : Nat}, i ≤ j → (∀ t, i ≤ t → t < j → startB (o a) t = false) → preR o len a j = preR o len a i
 | 0, h, _ => by rw [show i = 0 by omega]
 | j + 1, h, hn => by
  by_cases hij : i = j + 1
  ·rw [hij]
  ·rw [preR_off (hn j (by omega) (by omega))]
   exact preR_skip (by omega) fun t a b => hn t a (by omega)
theorem preR_len (o : Nat → Nat → Bool) (len a x : Nat) : (preR o len a x).length ≤ x := by
 rw [preR, List.length_map]
 have := List.length_filter_le (startB (o a)) (List.range x)
 simpa using this
theorem allR_succ (o : Nat → Nat → Bool) (len y : Nat) : allR o len (y + 1) = allR o len y ++ preR o len y len := by
 simp [allR, List.range_succ]
theorem allR_len (o : Nat → Nat → Bool) (len : Nat) : ∀ y, (allR o len y).length ≤ y * len
 | 0 => by simp [allR]
 | y + 1 => by
  rw [allR_succ, List.length_append, Nat.add_mul, Nat.one_mul]
  have := allR_len o len y
  have := preR_len o len y len
  omega
theorem K_iter {lines len r r1 r2 r3 : Nat} {F : FuncId} {cap : AVal} {o : Nat → Nat → Bool} {J : List RunT → AHeap → Prop} {H : AHeap} {D : Nat} (hl : lines ≤ 640) (hlen : len ≤ 640)
  (hrow : ∀ acc H, J acc H → HasRow H r1 [.int .i64 lines] true (2 * 3) ∧ HasRow H r2 [.int .i64 len] true (2 * 3) ∧ HasRow H r3 [.func (.func F) [] [cap]] true (2 * 90))
  (hext : ∀ acc H H', J acc H → Ext H H' → J acc H')
  (hink : ∀ acc H, J acc H → ∀ a i : Nat, a < lines → i < len → PureCon ext prog F [.int .i64 a, .int .i64 i, cap] H 2 (.bool (o a i)))
  (hy : ∀ acc H, J acc H → acc.length ≤ 409600 → ∀ (a b c : Int) (n : Nat), fuel0 + D ≤ n → ∃ H', callN ext prog n yieldId [.yield r, .agg [.int .i64 a, .int .i64 b, .int .i64 c]] H = some (.bool true, H') ∧ J (acc ++ [(a, b, c)]) H')
  (hJ : J [] H) : Con ext prog (D + 3) 139 [.yield r, .ptr r1 0, .ptr r2 0, .ptr r3 0] H fun _ H' => J (allR o len lines) H' := by
 refine con_of (show prog 139 = some c139 from rfl) rfl rfl fun n hn => ?_
 obtain ⟨k1, k2, k3⟩ := hrow _ _ hJ
 refine sq ?_
 refine rg fun KF hKF => ?_
 refine Fo.ld rfl rfl ?_
 refine mI ?_
 refine nl hKF ?_
 refine Wp.block ?_
 dsimp only [cond_true, cond_false]
 refine Wp.loopS [5, 6, 7, 9, 10, 11, 12, 13, 14, 15, 16, 17, 18, 19, 20, 21, 22, 23, 24, 25, 26, 27, 28, 29, 30, 31, 32, 33, 34, 35, 36, 37, 38, 39, 40, 41, 42, 43] (fun y : Nat => [(9, .int .i64 y)]) (fun _ y H2 => y ≤ lines ∧ J (allR o len y) H2) (fun y => lines - y) 0 rfl (fun _ => rfl) ⟨rfl, trivial⟩ ⟨Nat.zero_le _, hJ⟩ (by unfold fuel0 at hn; omega) ?_
 rintro y g H2 ⟨hyl, hJ2⟩
 have hal := allR_len o len y
 have hmul : y * len ≤ 640 * 640 := Nat.mul_le_mul (by omega) hlen
 obtain ⟨j1, j2, j3⟩ := hrow _ _ hJ2
 simp only [↓nrmL, nrmZ, Nat.reduceEqDiff, ↓reduceIte, Nat.reduceAdd, Int.reduceBEq, Int.reduceBNe]
 cases hc : decide ((y : Int) < (lines : Int))
 ·have hyb : y = lines := by have := of_decide_eq_false hc; omega
  refine sq ?_
  refine rg fun KF hKF => ?_
  refine bn rfl rfl rfl (by simp only [hc]; rfl) ?_
  refine nl hKF ?_
  refine sq ?_
  refine cf rfl ?_
  refine xi ?_
  dsimp only [cond_true, cond_false]
  refine rz trivial ?_
  rw [← hyb]
  exact hJ2
 have hyb : y < lines := by have := of_decide_eq_true hc; omega
 have hw1 := wa1 (a := y) (by omega)
 have hmul2 : (y + 1) * len ≤ 640 * 640 := Nat.mul_le_mul (by omega) hlen
 rw [Nat.add_mul, Nat.one_mul] at hmul2
 repeat first
  | refine mI ?_
  | (refine bn rfl rfl rfl (by simp only [hc]; rfl) ?_)
  | refine nl hKF ?_
  | refine sq ?_
  | refine rg fun KF hKF => ?_
  | refine ct rfl ?_
  | refine sk ?_
  | refine Wp.block ?_
  | dsimp only [cond_true, cond_false]
 refine Wp.loopS [6, 7, 12, 13, 14, 15, 16, 17, 18, 19, 20, 21, 22, 23, 24, 25, 26, 27, 28, 29, 30, 31, 32, 33, 34, 35, 36, 37, 38, 39, 40, 41, 42] (fun i : Nat => [(6, .int .i64 i)]) (fun _ i H3 => i ≤ len ∧ (i = 0 ∨ o y (i - 1) = false ∨ (i < len → o y i = false)) ∧ J (allR o len y ++ preR o len y i) H3) (fun i => len - i) 0 rfl (fun _ => rfl) ⟨rfl, trivial⟩ ⟨Nat.zero_le _, Or.inl rfl, by rw [preR_zero, List.append_nil]; exact hJ2⟩ (by unfold fuel0 at hn; omega) ?_
 rintro i g2 H3 ⟨hil, hinv, hJ3⟩
 have hpl := preR_len o len y i
 obtain ⟨m1, m2, m3⟩ := hrow _ _ hJ3
 simp only [↓nrmL, nrmZ, Nat.reduceEqDiff, ↓reduceIte, Nat.reduceAdd, Int.reduceBEq, Int.reduceBNe]
 cases hc2 : decide ((i : Int) < (len : Int))
 ·have hie : i = len := by have := of_decide_eq_false hc2; omega
  repeat first
   | refine mI ?_
   | refine Fo.ld rfl rfl ?_
   | (refine bn rfl rfl rfl (by simp only [hc2]; rfl) ?_)
   | refine b0 ?_
   | refine nl hKF ?_
   | refine sq ?_
   | refine rg fun KF hKF => ?_
   | refine cf rfl ?_
   | refine xi ?_
   | dsimp only [cond_true, cond_false]
  refine ⟨y + 1, by omega, ⟨by simp only [↓nrmL, nrmZ, Nat.reduceEqDiff, ↓reduceIte, Nat.reduceAdd, Int.reduceBEq, Int.reduceBNe]; rw [hw1], trivial⟩, hyb, ?_⟩
  rw [allR_succ, ← hie]
  exact hie ▸ hJ3
 have hie : i < len := by have := of_decide_eq_true hc2; omega
 have hw2 := wa1 (a := i) (by omega)
 haveI := hink _ _ hJ3 y i hyb hie
 cases ho : o y i
 ·have hst : startB (o y) i = false := by simp [startB, ho]
  rw [ho] at this
  repeat first
   | refine mI ?_
   | refine Fo.ld rfl rfl ?_
   | (refine bn rfl rfl rfl (by simp only [hc2]; rfl) ?_)
   | refine nl hKF ?_
   | refine sq ?_
   | refine rg fun KF hKF => ?_
   | refine ct rfl ?_
   | refine sk ?_
   | refine Wp.block ?_
  refine WpO.do (WpX.pcallC (D := D + 2) (d := 2) (args := [.int .i64 (y : Int), .int .i64 (i : Int), cap]) hn rfl (by simp only [↓nrmL, nrmZ, Nat.reduceEqDiff, ↓reduceIte, Nat.reduceAdd, Int.reduceBEq, Int.reduceBNe, List.map] <;> rfl) (by rw [Nat.ble_eq]; omega) fun H4 hx4 => ?_)
  repeat first
   | refine mI ?_
   | refine b0 ?_
   | (refine Fo.now rfl rfl (by simp only [↓nrmL, nrmZ, Nat.reduceEqDiff, ↓reduceIte, Nat.reduceAdd, Int.reduceBEq, Int.reduceBNe]; rfl) ?_)
   | refine nl hKF ?_
   | refine rg fun KF hKF => ?_
   | refine ct rfl ?_
   | refine xi ?_
   | dsimp only [cond_true, cond_false]
  refine ⟨i + 1, by omega, ⟨by simp only [↓nrmL, nrmZ, Nat.reduceEqDiff, ↓reduceIte, Nat.reduceAdd, Int.reduceBEq, Int.reduceBNe]; rw [hw2], trivial⟩, hie, Or.inr (Or.inl (by rw [Nat.add_sub_cancel]; exact ho)), ?_⟩
  rw [preR_off hst]
  exact hext _ _ _ hJ3 Ext0.ext
 have hst : startB (o y) i = true := by
  rcases hinv with h | h | h
  ·subst h; simp [startB, ho]
  ·simp [startB, ho, h]
  ·rw [h hie] at ho; cases ho
 rw [ho] at this
 repeat first
  | refine mI ?_
  | refine Fo.ld rfl rfl ?_
  | (refine bn rfl rfl rfl (by simp only [hc2]; rfl) ?_)
  | refine nl hKF ?_
  | refine sq ?_
  | refine rg fun KF hKF => ?_
  | refine ct rfl ?_
  | refine sk ?_
  | refine Wp.block ?_
 refine WpO.do (WpX.pcallC (D := D + 2) (d := 2) (args := [.int .i64 (y : Int), .int .i64 (i : Int), cap]) hn rfl (by simp only [↓nrmL, nrmZ, Nat.reduceEqDiff, ↓reduceIte, Nat.reduceAdd, Int.reduceBEq, Int.reduceBNe, List.map] <;> rfl) (by rw [Nat.ble_eq]; omega) fun H4 hx4 => ?_)
 have hJ4 : J _ H4 := hext _ _ _ hJ3 hx4.ext
 repeat first
  | refine mI ?_
  | (refine Fo.now rfl rfl (by simp only [↓nrmL, nrmZ, Nat.reduceEqDiff, ↓reduceIte, Nat.reduceAdd, Int.reduceBEq, Int.reduceBNe]; rfl) ?_)
  | refine nl hKF ?_
  | refine sq ?_
  | refine rg fun KF hKF => ?_
  | refine cf rfl ?_
  | refine sk ?_
  | refine Wp.block ?_
  | dsimp only [cond_true, cond_false]
 refine Wp.loopS [6, 23, 24, 25, 26, 27, 28, 29, 30, 31, 32, 33, 34, 35] (fun e : Nat => [(6, .int .i64 e)]) (fun _ e H5 => i ≤ e ∧ e < len ∧ (∀ t, i ≤ t → t ≤ e → o y t = true) ∧ J (allR o len y ++ preR o len y i) H5) (fun e => len - e) i rfl (fun _ => rfl) ⟨rfl, trivial⟩ ⟨Nat.le_refl _, hie, fun t a b => by rw [show t = i by omega]; exact ho, hJ4⟩ (by unfold fuel0 at hn; omega) ?_
 rintro e g3 H5 ⟨hie2, hel, hall, hJ5⟩
 obtain ⟨q1, q2, q3⟩ := hrow _ _ hJ5
 have hw3 := wa1 (a := e) (by omega)
 have fin : ∀ H6, J (allR o len y ++ preR o len y i) H6 → (e + 1 < len → o y (e + 1) = false) → ∃ H', callN ext prog n yieldId [.yield r, .agg [.int .i64 (y : Int), .int .i64 (i : Int), .int .i64 (e : Int)]] H6 = some (.bool true, H') ∧ J (allR o len y ++ preR o len y (e + 1)) H' := by
  intro H6 hJ6 hno
  obtain ⟨H', h1, h2⟩ := hy _ _ hJ6 (by rw [List.length_append]; omega) y i e n (by omega)
  refine ⟨H', h1, ?_⟩
  have e1 : preR o len y (e + 1) = preR o len y i ++ [((y : Int), (i : Int), (e : Int))] := by
   rw [preR_skip (i := i + 1) (by omega) (fun t a b => by
    have : o y (t - 1) = true := hall (t - 1) (by omega) (by omega)
    have h0 : 0 < t := by omega
    simp [startB, this, h0]), preR_on hst, runV, endB_eq hel hno hie2 hall]
  rw [e1, ← List.append_assoc]
  exact h2
 simp only [↓nrmL, nrmZ, Nat.reduceEqDiff, ↓reduceIte, Nat.reduceAdd, Int.reduceBEq, Int.reduceBNe]
 cases hc3 : decide (((e + 1 : Nat) : Int) < (len : Int))
 ·have hee : ¬ e + 1 < len := by have := of_decide_eq_false hc3; omega
  obtain ⟨H7, y1, y2⟩ := fin H5 hJ5 (fun q => absurd q hee)
  repeat first
   | refine ox ?_
   | refine mI ?_
   | refine mB ?_
   | (refine mv ?_)
   | refine Fo.ld rfl rfl ?_
   | (refine bn rfl rfl rfl (by simp only [hw3, hc3]; rfl) ?_)
   | refine fB ?_
   | (refine ob (cs' := ?_) ?hc ?_; case hc => (simp only [↓nrmL, nrmZ, Nat.reduceEqDiff, ↓reduceIte, Nat.reduceAdd, Int.reduceBEq, Int.reduceBNe, hw3, hc3]; rfl))
   | refine nl hKF ?_
   | refine sq ?_
   | refine rg fun KF hKF => ?_
   | refine cf rfl ?_
   | refine xi ?_
  refine WpO.do (WpX.yield rfl (by simp only [↓nrmL, nrmZ, Nat.reduceEqDiff, ↓reduceIte, Nat.reduceAdd, Int.reduceBEq, Int.reduceBNe, List.map] <;> rfl) ⟨_, _, y1, ?_⟩)
  repeat first
   | refine mI ?_
   | refine b0 ?_
   | (refine Fo.now rfl rfl (by simp only [↓nrmL, nrmZ, Nat.reduceEqDiff, ↓reduceIte, Nat.reduceAdd, Int.reduceBEq, Int.reduceBNe]; rfl) ?_)
   | refine nl hKF ?_
   | refine rg fun KF hKF => ?_
   | refine cf rfl ?_
   | refine sk ?_
   | dsimp only [cond_true, cond_false]
  refine ⟨e + 1, by omega, ⟨by simp only [↓nrmL, nrmZ, Nat.reduceEqDiff, ↓reduceIte, Nat.reduceAdd, Int.reduceBEq, Int.reduceBNe]; rw [hw3], trivial⟩, by omega, Or.inr (Or.inr fun q => absurd q hee), y2⟩
 have hee : e + 1 < len := by have := of_decide_eq_true hc3; omega
 haveI := hink _ _ hJ5 y (e + 1) hyb hee
 cases ho2 : o y (e + 1)
 ·rw [ho2] at this
  repeat first
   | refine oy ?_
   | refine mI ?_
   | refine mB ?_
   | refine Fo.ld rfl rfl ?_
   | (refine bn rfl rfl rfl (by simp only [hw3, hc3]; rfl) ?_)
   | refine sq ?_
   | refine rg fun KF hKF => ?_
  refine WpO.do (WpX.pcallC (D := D + 2) (d := 2) (args := [.int .i64 (y : Int), .int .i64 ((e + 1 : Nat) : Int), cap]) hn rfl (by simp only [↓nrmL, nrmZ, Nat.reduceEqDiff, ↓reduceIte, Nat.reduceAdd, Int.reduceBEq, Int.reduceBNe, List.map] <;> rfl) (by rw [Nat.ble_eq]; omega) fun H6 hx6 => ?_)
  obtain ⟨H7, y1, y2⟩ := fin H6 (hext _ _ _ hJ5 hx6.ext) (fun _ => ho2)
  refine tB ?_
  refine nl hKF ?_
  refine cf rfl ?_
  refine xi ?_
  refine sq ?_
  refine rg fun KF hKF => ?_
  refine mv ?_
  refine mI ?_
  refine mI ?_
  refine mI ?_
  refine ob (cs' := ?_) ?hc ?_; case hc => (simp only [↓nrmL, nrmZ, Nat.reduceEqDiff, ↓reduceIte, Nat.reduceAdd, Int.reduceBEq, Int.reduceBNe]; rfl)
  refine WpO.do (WpX.yield rfl (by simp only [↓nrmL, nrmZ, Nat.reduceEqDiff, ↓reduceIte, Nat.reduceAdd, Int.reduceBEq, Int.reduceBNe, List.map] <;> rfl) ⟨_, _, y1, ?_⟩)
  repeat first
   | refine mI ?_
   | refine b0 ?_
   | (refine Fo.now rfl rfl (by simp only [↓nrmL, nrmZ, Nat.reduceEqDiff, ↓reduceIte, Nat.reduceAdd, Int.reduceBEq, Int.reduceBNe]; rfl) ?_)
   | refine nl hKF ?_
   | refine rg fun KF hKF => ?_
   | refine cf rfl ?_
   | refine sk ?_
   | dsimp only [cond_true, cond_false]
  refine ⟨e + 1, by omega, ⟨by simp only [↓nrmL, nrmZ, Nat.reduceEqDiff, ↓reduceIte, Nat.reduceAdd, Int.reduceBEq, Int.reduceBNe]; rw [hw3], trivial⟩, by omega, Or.inr (Or.inr fun _ => ho2), y2⟩
 ·rw [ho2] at this
  repeat first
   | refine oy ?_
   | refine mI ?_
   | refine mB ?_
   | refine Fo.ld rfl rfl ?_
   | (refine bn rfl rfl rfl (by simp only [hw3, hc3]; rfl) ?_)
   | refine sq ?_
   | refine rg fun KF hKF => ?_
  refine WpO.do (WpX.pcallC (D := D + 2) (d := 2) (args := [.int .i64 (y : Int), .int .i64 ((e + 1 : Nat) : Int), cap]) hn rfl (by simp only [↓nrmL, nrmZ, Nat.reduceEqDiff, ↓reduceIte, Nat.reduceAdd, Int.reduceBEq, Int.reduceBNe, List.map] <;> rfl) (by rw [Nat.ble_eq]; omega) fun H6 hx6 => ?_)
  repeat first
   | refine mI ?_
   | refine b0 ?_
   | refine tB ?_
   | refine nl hKF ?_
   | refine rg fun KF hKF => ?_
   | refine ct rfl ?_
   | refine sk ?_
   | refine Wp.block ?_
   | dsimp only [cond_true, cond_false]
  refine ⟨e + 1, by omega, ⟨by simp only [↓nrmL, nrmZ, Nat.reduceEqDiff, ↓reduceIte, Nat.reduceAdd, Int.reduceBEq, Int.reduceBNe]; rw [hw3], trivial⟩, by omega, hee, fun t a b => ?_, hext _ _ _ hJ5 Ext0.ext⟩
  by_cases ht : t ≤ e
  ·exact hall t a ht
  ·rw [show t = e + 1 by omega]; exact ho2
end Go.Am


namespace Go.Am
open Go
attribute [local irreducible] Wp WpO WpX WpE
instance {H : AHeap} {r : Nat} {a b c : AVal} {rw : Bool} {ty : TypeId} [h : HasRow H r [a, b, c] rw ty] : SliceAt H (.slice r 0 1 (some 1) 3) 3 1 [a, b, c] := ⟨Or.inr ⟨r, 0, some 1, _, rw, ty, rfl, h.lt, h.get, by simp, rfl, Nat.le_refl _⟩⟩
abbrev rndA : RCode := .region [⟨(some 6), .new 110 [(.int .i64 0), (.int .i64 0), (.int .i64 0)], none⟩, ⟨none, .store 3 (.tmp 6) (.tmp 18), none⟩]
abbrev rndB : RCode := .block 1 (.region [⟨(some 19), .load none (.tmp 5), none⟩,
   ⟨(some 20), .load (some 3) (.tmp 6), none⟩,
   ⟨(some 21), .buildSlice 110 3 1 [(.int .i64 0), (.int .i64 0), (.int .i64 0)] [(0, 3, (.tmp 20))], none⟩,
   ⟨(some 22), .append 110 3 24 (.tmp 19) (.tmp 21), none⟩,
   ⟨none, .store 1 (.tmp 5) (.tmp 22), none⟩])
abbrev rndL (d : Nat) (fr : AFrame) : RLoop := ⟨d, 24, fr, [18], rndA, rndB, 0, .normal⟩
structure JR (Hb : AHeap) (rl r : Nat) (R0 : RLoop) (acc : List RunT) (H : AHeap) : Prop where
 n : Hb.n ≤ H.n
 get : ∀ s, s < Hb.n → s ≠ rl → H.get s = Hb.get s
 cell : ∃ p e, HasRow H rl [p] true e ∧ OwnS H p 3 acc.length (cellsR acc) 110 ∧ RowNe p rl ∧ FreshS Hb p
 loop : HasLoop H r R0
theorem JR.more {Hb H H' : AHeap} {rl r : Nat} {R0 : RLoop} {acc : List RunT} (h : JR Hb rl r R0 acc H) (x : Ext H H') : JR Hb rl r R0 acc H' := by
 obtain ⟨p, e, h1, h2, h3, h4⟩ := h.cell
 haveI : ExtI H H' := ⟨x⟩
 have h5 := h.loop
 have hn := h.n
 exact ⟨Nat.le_trans h.n x.n, fun s hs hne => by rw [x.get s (by omega)]; exact h.get s hs hne, ⟨p, e, inferInstance, inferInstance, h3, h4⟩, inferInstance⟩
theorem round_rows {Hb H : AHeap} {rl r d n : Nat} {fr : AFrame} {acc : List RunT} {a b c : Int} (h5 : fr 5 = .ptr rl 0) (hrl : rl < Hb.n) (hr : Hb.n ≤ r) (hJ : JR Hb rl r (rndL d fr) acc H) (hlen : acc.length ≤ 409600) (hn : fuel0 + 1 ≤ n) :
  ∃ H', callN ext prog n yieldId [.yield r, .agg [.int .i64 a, .int .i64 b, .int .i64 c]] H = some (.bool true, H') ∧ JR Hb rl r (rndL d fr) (acc ++ [(a, b, c)]) H' := by
 obtain ⟨k, rfl⟩ : ∃ k, n = k + 1 := ⟨n - 1, by omega⟩
 obtain ⟨p, e, h1, ho, hpr, hpf⟩ := hJ.cell
 haveI := hJ.loop
 haveI hne1 : NeR rl r := ⟨by omega⟩
 haveI hne2 : NeR r rl := ⟨by omega⟩
 haveI := ho.sl
 haveI := ho.sl.one
 haveI hpne : RowNe p r := ⟨fun r' off len cap sz q => by
  rcases ho.it with ⟨rfl, _⟩ | ⟨r2, e', rfl, h2, h3, _⟩
  ·cases q
  ·cases q
   intro q; subst q
   have := hJ.loop.get
   rw [h3] at this; cases this⟩
 refine round_next (R := rndL d fr) rfl hJ.loop rfl rfl rfl ?_
 show Wp (callN ext prog k) k rndA (upd fr 18 (.agg [.int .i64 a, .int .i64 b, .int .i64 c])) H _
 simp only [h5]
 refine rg fun KF hKF => ?_
 refine nw ?_
 refine so rfl (rfl : _ = AVal.agg _) rfl rfl rfl (by simp only [↓nrmL, nrmZ, Nat.reduceEqDiff, ↓reduceIte, Nat.reduceAdd, Int.reduceBEq, Int.reduceBNe, h5]; rfl) ?_
 refine nl hKF ?_
 refine ⟨rfl, inferInstance, ?_⟩
 show Wp (callN ext prog k) k rndB _ _ _
 refine Wp.block ?_
 refine rg fun KF hKF => ?_
 refine Fo.ld (r := rl) (off := 0) h5 rfl ?_
 refine Fo.ldN rfl rfl (by simp only [↓nrmL, nrmZ, Nat.reduceEqDiff, ↓reduceIte, Nat.reduceAdd, Int.reduceBEq, Int.reduceBNe]; rfl) ?_
 refine Fo.bslice rfl (by simp only [↓nrmL, nrmZ, Nat.reduceEqDiff, ↓reduceIte, Nat.reduceAdd, Int.reduceBEq, Int.reduceBNe]; rfl) ?_
 refine WpO.do (WpX.growX (p := p) (q := .slice (AHeap.n (AHeap.set (AHeap.set (AHeap.push H _) H.n _) r _)) 0 1 (some 1) 3) (k := 1) (new := [.int .i64 a, .int .i64 b, .int .i64 c]) rfl rfl (by infer_instance) (by infer_instance) (by decide) (by decide) (by decide) (by omega) (by rfl) fun p' H2 ho2 hf2 hx2 => ?_)
 haveI := ho2.sl.one
 skip
 refine Fo.stO (v := p') (r := rl) (off := 0) h5 rfl rfl rfl ?_
 refine nl hKF ?_
 dsimp only [cond_true, cond_false]
 have hHn := hJ.n
 have hrn := hJ.loop.lt
 have hp'r : RowNe p' r := ⟨fun r' _ _ _ _ q => by have := hf2.ge _ _ _ _ _ q; simp only [AHeap.push, AHeap.set] at this; omega⟩
 have hp'l : RowNe p' rl := ⟨fun r' _ _ _ _ q => by have := hf2.ge _ _ _ _ _ q; simp only [AHeap.push, AHeap.set] at this; omega⟩
 refine ⟨rfl, inferInstance, ?_, ?_, ⟨p', e, ?_, ?_, hp'l, ?_⟩, ?_⟩
 ·have := hx2.n
  simp only [AHeap.push, AHeap.set] at this ⊢
  omega
 ·intro s hs hne
  have hsr : s ≠ r := by omega
  rw [set_get_ne hsr, set_get_ne hne, hx2.get s (by simp only [AHeap.push, AHeap.set]; omega) ⟨fun r' _ _ _ _ q => by have := hpf.ge _ _ _ _ _ q; omega⟩]
  rw [push_get_lt (by simp only [AHeap.push, AHeap.set]; omega), set_get_ne hsr, set_get_ne (by omega), push_get_lt (by omega)]
  exact hJ.get s hs hne
 ·infer_instance
 ·rw [List.length_append, cellsR_snoc]
  infer_instance
 ·refine ⟨fun r' _ _ _ _ q => ?_⟩
  have := hf2.ge _ _ _ _ _ q
  simp only [AHeap.push, AHeap.set] at this
  omega
 ·infer_instance
end Go.Am


namespace Go.Am
open Go
attribute [local irreducible] Wp WpO WpX WpE
theorem K_runs {x y : Int} {F : FuncId} {cap : AVal} {H : AHeap} : Con ext prog 1 124 [.int .i64 x, .int .i64 y, .func (.func F) [] [cap]] H fun v H' => ∃ r1 r2 r3, v = .func (.func 139) [] [.ptr r1 0, .ptr r2 0, .ptr r3 0] ∧ HasRow H' r1 [.int .i64 x] true (2 * 3) ∧ HasRow H' r2 [.int .i64 y] true (2 * 3) ∧ HasRow H' r3 [.func (.func F) [] [cap]] true (2 * 90) ∧ Ext H H' ∧ H.n ≤ r1 ∧ H.n ≤ r2 ∧ H.n ≤ r3 := by
 refine con_of (show prog 124 = some c124 from rfl) rfl rfl fun n hn => ?_
 repeat first
  | refine mF ?_
  | (refine mv ?_)
  | refine Fo.box1 (rfl : _ = AVal.int _ _) ?_
  | refine Fo.box1 (rfl : _ = AVal.func _ _ _) ?_
  | refine Fo.now rfl rfl rfl ?_
  | refine nl hKF ?_
  | refine sq ?_
  | refine rg fun KF hKF => ?_
  | refine rt ?_
  | dsimp only [cond_true, cond_false]
 refine rz trivial ?_
 exact ⟨_, _, _, rfl, inferInstance, inferInstance, inferInstance, Ext0.ext, Nat.le_refl _, by simp only [AHeap.push]; omega, by simp only [AHeap.push]; omega⟩
instance K_colInk {r : Nat} {p : AVal} {H : AHeap} {w h a i : Int} {l : List UInt8} {rw : Bool} {e : TypeId} [hr : HasRow H r [.int .i64 w, .int .i64 h, p] rw e] [hp : BytesI H p l] [hs : Fits w h l] : PureCon ext prog 125 [.int .i64 a, .int .i64 i, .ptr r 0] H 2 (.bool (inkB w h l a i)) := ⟨by
 refine con_of (show prog 125 = some c125 from rfl) rfl rfl fun n hn => ?_
 haveI := hp.one
 repeat first
  | refine mI ?_
  | refine mB ?_
  | (refine Fo.ldN rfl rfl (by simp only [↓nrmL, nrmZ, Nat.reduceEqDiff, ↓reduceIte, Nat.reduceAdd, Int.reduceBEq, Int.reduceBNe]; rfl) ?_)
  | (refine Fo.pcall (v' := ?_) hn rfl (by simp only [↓nrmL, nrmZ, Nat.reduceEqDiff, ↓reduceIte, Nat.reduceAdd, Int.reduceBEq, Int.reduceBNe, List.map]; rfl) rfl ?hv fun _ _ => ?_; case hv => rfl)
  | refine nl hKF ?_
  | refine sq ?_
  | refine rg fun KF hKF => ?_
  | refine rt ?_
  | dsimp only [cond_true, cond_false]
 refine rz trivial ?_
 exact ⟨rfl, Ext0.ext⟩⟩
theorem JR.row {Hb H : AHeap} {rl r s : Nat} {R0 : RLoop} {acc : List RunT} {cs : List AVal} {rw : Bool} {e : TypeId} (h : JR Hb rl r R0 acc H) (k : HasRow Hb s cs rw e) (hne : s ≠ rl) : HasRow H s cs rw e := ⟨Nat.lt_of_lt_of_le k.lt h.n, by rw [h.get s k.lt hne]; exact k.get⟩
theorem JR.bytes {Hb H : AHeap} {rl r : Nat} {R0 : RLoop} {acc : List RunT} {p : AVal} {l : List UInt8} (h : JR Hb rl r R0 acc H) (k : BytesI Hb p l) (hne : RowNe p rl) : BytesI H p l := k.keep h.n fun s _ _ _ _ e hs => h.get s hs (hne.ne _ _ _ _ _ e)
theorem JR.ext {Hh Hb H : AHeap} {rl r : Nat} {R0 : RLoop} {acc : List RunT} (h : JR Hb rl r R0 acc H) (x : Ext Hh Hb) (hrl : Hh.n ≤ rl) : Ext Hh H := ⟨Nat.le_trans x.n h.n, fun s hs => by have := x.n; rw [h.get s (by omega) (by omega), x.get s hs]⟩
theorem JR.start {Hb : AHeap} {rl : Nat} {R0 : RLoop} {e : TypeId} (k : HasRow Hb rl [.nslice] true e) : JR Hb rl (Hb.n + 1) R0 [] ((Hb.push .dead).push (.loop R0)) := by
 have hlt := k.lt
 refine ⟨by simp only [AHeap.push]; omega, fun s hs _ => ?_, ⟨.nslice, e, inferInstance, ⟨Or.inl ⟨rfl, rfl, rfl⟩⟩, inferInstance, ⟨fun _ _ _ _ _ q => by cases q⟩⟩, (inferInstance : HasLoop ((Hb.push .dead).push (.loop R0)) (Hb.push .dead).n R0)⟩
 rw [push_get_lt (by simp only [AHeap.push]; omega), push_get_lt hs]
theorem own_ne {H : AHeap} {p : AVal} {sz n r : Nat} {cs : List AVal} {e : TypeId} {R0 : RLoop} (ho : OwnS H p sz n cs e) (hl : HasLoop H r R0) : RowNe p r := ⟨fun r' off len cap sz q => by
 rcases ho.it with ⟨rfl, _⟩ | ⟨r2, e', rfl, h2, h3, _⟩
 ·cases q
 ·cases q
  intro q; subst q
  have := hl.get
  rw [h3] at this; cases this⟩
def NewRuns (H H' : AHeap) (v : AVal) (l : List RunT) : Prop := OwnS H' v 3 l.length (cellsR l) 110 ∧ FreshS H v ∧ Ext H H'
def RunsRes (H H' : AHeap) (v : AVal) (r : List RunT × Int) : Prop := ∃ q, v = .tuple [q, .int .i64 r.2] ∧ NewRuns H H' q r.1
theorem newRuns0 {H H' : AHeap} [x : Ext0 H H'] : NewRuns H H' .nslice [] := ⟨⟨Or.inl ⟨rfl, rfl, rfl⟩⟩, ⟨fun _ _ _ _ _ e => by cases e⟩, x.ext⟩
def colO (g : Img) (x y : Nat) : Bool := inkB g.w g.h g.px x y
def colsSpec (g : Img) : List RunT × Int := bif g.err == 0 then (allR (colO g) g.h.toNat g.w.toNat, 0) else ([], g.err)
theorem K_Columns {p : AVal} {H : AHeap} {w h : Int} {l : List UInt8} [hp : BytesI H p l] : Con ext prog 7 106 [.agg [.int .i64 w, .int .i64 h, p]] H fun v H' => RunsRes H H' v (colsSpec ⟨w, h, l⟩) := by
 refine con_ofR (show prog 106 = some c106 from rfl) rfl rfl fun n hn => ?_
 haveI := hp.one
 cases h0 : (Img.err ⟨w, h, l⟩ == 0)
 ·have e1 : colsSpec ⟨w, h, l⟩ = ([], Img.err ⟨w, h, l⟩) := by simp [colsSpec, h0]
  rw [e1]
  simp only [h0, bne]
  repeat first
   | refine mI ?_
   | refine mN ?_
   | (refine Fo.ldN rfl rfl (by simp only [↓nrmL, nrmZ, Nat.reduceEqDiff, ↓reduceIte, Nat.reduceAdd, Int.reduceBEq, Int.reduceBNe, h0, bne]; rfl) ?_)
   | (refine bn rfl rfl rfl (by simp only [h0, bne]; rfl) ?_)
   | (refine Fo.pcall (v' := ?_) hn rfl (by simp only [↓nrmL, nrmZ, Nat.reduceEqDiff, ↓reduceIte, Nat.reduceAdd, Int.reduceBEq, Int.reduceBNe, h0, bne, List.map]; rfl) rfl ?hv fun _ _ => ?_; case hv => rfl)
   | refine bA ?_
   | refine nl hKF ?_
   | refine sq ?_
   | refine rg fun KF hKF => ?_
   | refine ct rfl ?_
   | refine rt ?_
   | dsimp only [cond_true, cond_false]
  exact ⟨trivial, _, rfl, _, rfl, _, rfl, newRuns0⟩
 obtain ⟨a, b, rfl, rfl, ok⟩ := ok_of h0
 have e1 : colsSpec ⟨a, b, l⟩ = (allR (colO ⟨a, b, l⟩) b a, 0) := by simp [colsSpec, h0]
 rw [e1]
 have ha := ok.wa
 have hb := ok.hb
 haveI : Fits a b l := ⟨ok.sized⟩
 simp only [h0, bne]
 repeat first
  | refine mI ?_
  | refine mN ?_
  | refine fd ?_
  | refine Fo.ld rfl rfl ?_
  | (refine Fo.ldN rfl rfl (by simp only [↓nrmL, nrmZ, Nat.reduceEqDiff, ↓reduceIte, Nat.reduceAdd, Int.reduceBEq, Int.reduceBNe, h0, bne]; rfl) ?_)
  | (refine bn rfl rfl rfl (by simp only [h0, bne]; rfl) ?_)
  | (refine Fo.pcall (v' := ?_) hn rfl (by simp only [↓nrmL, nrmZ, Nat.reduceEqDiff, ↓reduceIte, Nat.reduceAdd, Int.reduceBEq, Int.reduceBNe, h0, bne, List.map]; rfl) rfl ?hv fun _ _ => ?_; case hv => rfl)
  | refine bA ?_
  | refine nw ?_
  | (refine Fo.now rfl rfl (by simp only [↓nrmL, nrmZ, Nat.reduceEqDiff, ↓reduceIte, Nat.reduceAdd, Int.reduceBEq, Int.reduceBNe, h0, bne]; rfl) ?_)
  | refine nl hKF ?_
  | refine sq ?_
  | refine rg fun KF hKF => ?_
  | refine cf rfl ?_
  | refine sk ?_
 rename AHeap => H1
 refine WpO.do (WpX.conD hn rfl rfl (by simp only [↓nrmL, nrmZ, Nat.reduceEqDiff, ↓reduceIte, Nat.reduceAdd, Int.reduceBEq, Int.reduceBNe, List.map] <;> rfl) (K_runs (x := a) (y := b) (F := 125) (cap := .ptr H.n 0)) fun v H2 h5 => ?_)
 obtain ⟨r1, r2, r3, e2, k1, k2, k3, hx2, g1, g2, g3⟩ := h5
 subst e2
 haveI : ExtI _ H2 := ⟨hx2⟩
 have hH1 : H.n < H1.n := (inferInstance : LtN H.n H1).lt
 have kl : HasRow H2 H1.n [.nslice] true (2 * 106) := inferInstance
 have kg : HasRow H2 H.n [.int .i64 a, .int .i64 b, p] true (2 * 24) := inferInstance
 have kb : BytesI H2 p l := inferInstance
 have kne : RowNe p H1.n := inferInstance
 have hx02 : Ext H H2 := Ext0.ext
 simp only [AHeap.push] at g1 g2 g3
 have key : ∀ fr : AFrame, fr 5 = .ptr H1.n 0 → ∃ v H3, callN ext prog n 139 [.yield (H2.n + 1), .ptr r1 0, .ptr r2 0, .ptr r3 0] ((H2.push .dead).push (.loop (rndL H2.n fr))) = some (v, H3) ∧ JR H2 H1.n (H2.n + 1) (rndL H2.n fr) (allR (colO ⟨a, b, l⟩) b a) H3 := fun fr h5 =>
  K_iter (lines := a) (len := b) (r := H2.n + 1) (F := 125) (cap := .ptr H.n 0) (o := colO ⟨a, b, l⟩) (J := JR H2 H1.n (H2.n + 1) (rndL H2.n fr)) (D := 1) (by omega) (by omega)
   (fun acc H4 hJ => ⟨hJ.row k1 (by omega), hJ.row k2 (by omega), hJ.row k3 (by omega)⟩)
   (fun acc H4 H5 hJ x => hJ.more x)
   (fun acc H4 hJ c i _ _ => by
    haveI := hJ.row kg (by omega)
    haveI := hJ.bytes kb kne
    exact (inferInstance : PureCon ext prog 125 [.int .i64 c, .int .i64 i, .ptr H.n 0] H4 2 (.bool (inkB a b l c i))))
   (fun acc H4 hJ hlen c d e m hm => round_rows h5 kl.lt (Nat.le_succ _) hJ hlen hm)
   (JR.start kl) n (by omega)
 have key2 : ∀ (fr : AFrame) (P : AVal → AHeap → RLoop → Prop), fr 5 = .ptr H1.n 0 → (∀ v H3, JR H2 H1.n (H2.n + 1) (rndL H2.n fr) (allR (colO ⟨a, b, l⟩) b a) H3 → P v H3 (rndL H2.n fr)) →
   ∃ v H3 R, callN ext prog n 139 ([] ++ [.yield (H2.n + 1)] ++ [.ptr r1 0, .ptr r2 0, .ptr r3 0]) ((H2.push .dead).push (.loop ⟨H2.n, 24, fr, [18], rndA, rndB, 0, .normal⟩)) = some (v, H3) ∧ H3.get (H2.n + 1) = .loop R ∧ (Nat.beq R.st 1 || Nat.beq R.st 4) = false ∧ P v H3 R := fun fr P h5 hP => by
  obtain ⟨v, H3, e3, hJ⟩ := key fr h5
  exact ⟨v, H3, rndL H2.n fr, e3, hJ.loop.get, rfl, hP v H3 hJ⟩
 refine nl hKF ?_
 refine Wp.block ?_
 dsimp only [cond_true, cond_false]
 refine Wp.range (gf := 139) (fi := []) (ca := [.ptr r1 0, .ptr r2 0, .ptr r3 0]) (vs := []) rfl rfl rfl ?_
 refine key2 _ _ rfl fun v H3 hJ => ?_
 obtain ⟨q, e, c1, c2, c3, c4⟩ := hJ.cell
 haveI := hJ.loop
 haveI hnq := own_ne c2 hJ.loop
 haveI := c2.sl.one
 haveI : NeR H1.n (H2.n + 1) := ⟨by have := kl.lt; omega⟩
 have hx03 := hJ.ext hx02 (by omega)
 have hHn := hx02.n
 refine sq ?_
 refine rg fun KF hKF => ?_
 refine Fo.ld rfl rfl ?_
 refine mv ?_
 refine mI ?_
 refine nl hKF ?_
 refine rt ?_
 dsimp only [cond_true, cond_false]
 refine ⟨trivial, _, takeMarks1 (d := H2.n) (l := H2.n + 1) inferInstance rfl rfl, _, rfl, q, rfl, inferInstance, c4.weak, ?_⟩
 refine ⟨hx03.n, fun s hs => ?_⟩
 rw [set_get_ne (by omega), set_get_ne (by omega)]
 exact hx03.get s hs
end Go.Am

namespace Go.Am
open Go
attribute [local irreducible] Wp WpO WpX WpE
class StavesI (H : AHeap) (p : AVal) (n : outParam Nat) (cells : outParam (List AVal)) (sts : outParam (List (List (List Int)))) : Prop where
 len : sts.length = n
 sl : SliceAt H p 1 n cells
 it : ∀ (i : Nat) (h : i < sts.length), ∃ q, cells[i]? = some q ∧ LinesI H q sts[i]
theorem StavesI.ext {H H' : AHeap} {p : AVal} {n : Nat} {cells : List AVal} {sts : List (List (List Int))} (h : StavesI H p n cells sts) (x : Ext H H') : StavesI H' p n cells sts := by
 haveI := h.sl
 haveI : ExtI H H' := ⟨x⟩
 refine ⟨h.len, inferInstance, fun i hi => ?_⟩
 obtain ⟨q, h1, h2⟩ := h.it i hi
 exact ⟨q, h1, h2.ext x⟩
def Dr (a : Nat) (sts : List (List (List Int))) (i k x j : Nat) : Prop := ∃ i' k', ∃ (h1 : i' < sts.length) (h2 : k' < sts[i'].length), (i' < i ∨ (i' = i ∧ (k' < k ∨ (k' = k ∧ j % a < x)))) ∧ sts[i'][k'].getD (j % a) 0 = ((j / a : Nat) : Int)
theorem Dr.line {a i k j : Nat} {sts : List (List (List Int))} (ha : 0 < a) : Dr a sts i k a j ↔ Dr a sts i (k + 1) 0 j := by
 have := Nat.mod_lt j ha
 constructor
 ·rintro ⟨i', k', h1, h2, h3, h4⟩; exact ⟨i', k', h1, h2, by omega, h4⟩
 ·rintro ⟨i', k', h1, h2, h3, h4⟩; exact ⟨i', k', h1, h2, by omega, h4⟩
theorem Dr.stave {a i j : Nat} {sts : List (List (List Int))} (hi : i < sts.length) : Dr a sts i sts[i].length 0 j ↔ Dr a sts (i + 1) 0 0 j := by
 constructor
 ·rintro ⟨i', k', h1, h2, h3, h4⟩; exact ⟨i', k', h1, h2, by omega, h4⟩
 ·rintro ⟨i', k', h1, h2, h3, h4⟩
  refine ⟨i', k', h1, h2, ?_, h4⟩
  by_cases e : i' = i
  ·subst e; exact Or.inr ⟨rfl, Or.inl h2⟩
  ·exact Or.inl (by omega)
theorem Dr.none {a j : Nat} {sts : List (List (List Int))} : ¬ Dr a sts 0 0 0 j := by
 rintro ⟨i', k', h1, h2, h3, h4⟩; omega
theorem Dr.next {a i k x y j : Nat} {sts : List (List (List Int))} (hi : i < sts.length) (hk : k < sts[i].length) (hx : x < a) (hy : sts[i][k].getD x 0 = (y : Int)) : Dr a sts i k (x + 1) j ↔ Dr a sts i k x j ∨ j = y * a + x := by
 constructor
 ·rintro ⟨i', k', h1, h2, h3, h4⟩
  by_cases e : i' = i ∧ k' = k ∧ j % a = x
  ·obtain ⟨rfl, rfl, e⟩ := e
   right
   rw [e, hy] at h4
   obtain ⟨d1, d2⟩ := rct_at (y := y) hx
   exact div_inj (a := a) (by rw [e, d1]) (by rw [d2]; omega)
  ·exact Or.inl ⟨i', k', h1, h2, by omega, h4⟩
 ·rintro (⟨i', k', h1, h2, h3, h4⟩ | rfl)
  ·exact ⟨i', k', h1, h2, by omega, h4⟩
  ·obtain ⟨d1, d2⟩ := rct_at (y := y) hx
   exact ⟨i, k, hi, hk, Or.inr ⟨rfl, Or.inr ⟨rfl, by omega⟩⟩, by rw [d1, d2]; exact hy⟩
structure Drawn (L : List UInt8) (n : Nat) (D : Nat → Prop) : Prop where
 len : L.length = n
 it : ∀ j, j < n → (L.getD j 0 = 1 ∧ D j) ∨ (L.getD j 0 = 0 ∧ ¬ D j)
theorem Drawn.congr {L : List UInt8} {n : Nat} {D E : Nat → Prop} (h : Drawn L n D) (hE : ∀ j, D j ↔ E j) : Drawn L n E := ⟨h.len, fun j hj => by rw [← hE j]; exact h.it j hj⟩
theorem Drawn.set {L : List UInt8} {n k : Nat} {D E : Nat → Prop} (h : Drawn L n D) (hk : k < n) (hE : ∀ j, E j ↔ D j ∨ j = k) : Drawn (L.set k 1) n E := by
 refine ⟨by rw [List.length_set]; exact h.len, fun j hj => ?_⟩
 rw [hE j]
 by_cases e : j = k
 ·subst e
  left
  exact ⟨by rw [List.getD_eq_getElem?_getD, List.getElem?_set_self (by rw [h.len]; exact hk)]; rfl, Or.inr rfl⟩
 ·rw [List.getD_eq_getElem?_getD, List.getElem?_set_ne (fun q => e q.symm), ← List.getD_eq_getElem?_getD]
  rcases h.it j hj with ⟨h1, h2⟩ | ⟨h1, h2⟩
  ·exact Or.inl ⟨h1, Or.inl h2⟩
  ·exact Or.inr ⟨h1, fun q => q.elim h2 e⟩
theorem Drawn.zero {n a : Nat} {sts : List (List (List Int))} : Drawn (List.replicate n 0) n (Dr a sts 0 0 0) := ⟨List.length_replicate, fun j hj => Or.inr ⟨by rw [List.getD_eq_getElem?_getD, List.getElem?_replicate, if_pos hj]; rfl, Dr.none⟩⟩
theorem take_one {cells : List AVal} {j : Nat} {q : AVal} (h : cells[j]? = some q) : (cells.drop j).take 1 = [q] := by
 apply List.ext_getElem?
 intro t
 rw [List.getElem?_take, List.getElem?_drop]
 cases t with
 | zero => rw [if_pos (by omega), Nat.add_zero]; exact h
 | succ t => rw [if_neg (by omega)]; rfl
theorem K_draw {a b m : Nat} {p : AVal} {H : AHeap} {cells : List AVal} {sts : List (List (List Int))} [hp : StavesI H p m cells sts] (ha : a ≤ 640) (hb : b ≤ 640) (hm : m ≤ 1000) (hfit : ∀ (i : Nat) (h : i < sts.length), fitsB a b sts[i] = true) : Con ext prog 1 107 [.int .i64 (a : Int), .int .i64 (b : Int), p] H fun v H' => ∃ L, NewInk H H' v ⟨a, b, L⟩ ∧ Drawn L (a * b) (Dr a sts m 0 0) := by
 refine con_of (show prog 107 = some c107 from rfl) rfl rfl fun n hn => ?_
 have hsl := hp.sl
 haveI := hsl
 haveI := hsl.one
 have hml := hp.len
 have hcl : cells.length = m := by have := hsl.len; omega
 have hab : a * b ≤ 640 * 640 := Nat.mul_le_mul ha hb
 have h1 : IntKind.i64.wrap ((a : Int) * (b : Int)) = ((a * b : Nat) : Int) := wm (by omega)
 repeat first
  | refine mI ?_
  | (refine bn rfl rfl rfl (by simp only [h1]; rfl) ?_)
  | refine nw ?_
  | refine nl hKF ?_
  | refine sq ?_
  | refine rg fun KF hKF => ?_
 refine WpO.do (WpX.mkB rfl rfl rfl (by omega) fun o H1 e1 hb1 hf1 hw1 hx1 => ?_)
 haveI := hb1.one
 refine ob (cs' := ?_) ?hc ?_; case hc => (simp only [↓nrmL, nrmZ, Nat.reduceEqDiff, ↓reduceIte, Nat.reduceAdd, Int.reduceBEq, Int.reduceBNe]; rfl)
 refine nw ?_
 refine so rfl (rfl : _ = AVal.agg _) rfl rfl rfl (by simp only [↓nrmL, nrmZ, Nat.reduceEqDiff, ↓reduceIte, Nat.reduceAdd, Int.reduceBEq, Int.reduceBNe]; rfl) ?_
 refine nl hKF ?_
 refine sq ?_
 refine sq ?_
 refine rg fun KF hKF => ?_
 refine mv ?_
 refine ln (by simp only [↓nrmL, nrmK, Nat.reduceEqDiff, ↓reduceIte]; rfl) ?_
 refine mI ?_
 refine nl hKF ?_
 refine Wp.block ?_
 dsimp only [cond_true, cond_false]
 refine Wp.loopS [9, 11, 12, 13, 23, 24, 25, 26, 27, 28, 29, 30, 31, 32, 33, 34, 35, 36, 37, 38, 39, 40, 41, 42, 43, 44, 45, 46, 47, 48, 49, 50, 51] (fun i : Nat => [(23, .int .i64 i)]) (fun H3 i H2 => i ≤ m ∧ ∃ L, BytesI H2 o L ∧ Drawn L (a * b) (Dr a sts i 0 0) ∧ WrS H2 o ∧ ExtP0 H3 H2 o) (fun i => m - i) 0 rfl (fun _ => rfl) ⟨rfl, trivial⟩ ⟨Nat.zero_le _, _, inferInstance, Drawn.zero, inferInstance, inferInstance⟩ (by unfold fuel0 at hn; omega) ?_
 rintro i g H2 ⟨hi, L, hL, hD, hw2, ⟨hx2⟩⟩
 haveI := hx2
 simp only [↓nrmL, nrmZ, Nat.reduceEqDiff, ↓reduceIte, Nat.reduceAdd, Int.reduceBEq, Int.reduceBNe]
 cases hc : decide ((i : Int) < (m : Int))
 ·have him : i = m := by have := of_decide_eq_false hc; omega
  subst him
  repeat first
   | (refine Fo.ldN rfl rfl (by simp only [↓nrmL, nrmZ, Nat.reduceEqDiff, ↓reduceIte, Nat.reduceAdd, Int.reduceBEq, Int.reduceBNe, hc]; rfl) ?_)
   | (refine bn rfl rfl rfl (by simp only [hc]; rfl) ?_)
   | (refine so rfl (rfl : _ = AVal.agg _) rfl rfl rfl (by simp only [↓nrmL, nrmZ, Nat.reduceEqDiff, ↓reduceIte, Nat.reduceAdd, Int.reduceBEq, Int.reduceBNe, hc]; rfl) ?_)
   | refine nl hKF ?_
   | refine sq ?_
   | refine rg fun KF hKF => ?_
   | refine cf rfl ?_
   | refine rt ?_
   | refine xi ?_
   | dsimp only [cond_true, cond_false]
  refine rz trivial ?_
  exact ⟨L, ⟨o, rfl, inferInstance, hf1.weak, inferInstance, Ext0.ext⟩, hD⟩
 have him : i < m := by have := of_decide_eq_true hc; omega
 have his : i < sts.length := by omega
 have hwi := wa1 (a := i) (by omega)
 obtain ⟨q, hq, hLq⟩ := hp.it i his
 obtain ⟨qs, hqs, hqr⟩ := hLq.it
 have hfi := hfit i his
 obtain ⟨hl5, hpaths⟩ := fitsB_iff hfi
 haveI := hqs
 haveI := hqs.one
 repeat first
  | (refine bn rfl rfl rfl (by simp only [hc]; rfl) ?_)
  | (refine Fo.idx (by simp only [↓nrmL, nrmK, Nat.reduceEqDiff, ↓reduceIte]; rfl) rfl ?_ (by simp only [↓nrmL, nrmZ, Nat.reduceEqDiff, ↓reduceIte, Nat.reduceAdd, Int.reduceBEq, Int.reduceBNe, hc]; rfl) ?_; (focus omega))
  | refine nl hKF ?_
  | refine sq ?_
  | refine rg fun KF hKF => ?_
  | refine ct rfl ?_
  | refine sk ?_
  | refine Wp.block ?_
 refine WpO.do (WpX.ldNP (p := p) (j := i) (m := 1) (l := [q]) rfl (by decide) (by omega) (take_one hq) ?_)
 refine nw ?_
 refine so rfl (rfl : _ = AVal.agg _) rfl rfl rfl (by simp only [↓nrmL, nrmZ, Nat.reduceEqDiff, ↓reduceIte, Nat.reduceAdd, Int.reduceBEq, Int.reduceBNe]; rfl) ?_
 refine nl hKF ?_
 refine sq ?_
 refine rg fun KF hKF => ?_
 refine fd ?_
 refine Fo.ld rfl rfl ?_
 refine ln (by simp only [↓nrmL, nrmK, Nat.reduceEqDiff, ↓reduceIte]; rfl) ?_
 refine mI ?_
 refine nl hKF ?_
 refine Wp.block ?_
 dsimp only [cond_true, cond_false]
 refine Wp.loopS [11, 12, 13, 30, 31, 32, 33, 34, 35, 36, 37, 38, 39, 40, 41, 42, 43, 44, 45, 46, 47, 48, 49, 50] (fun k : Nat => [(30, .int .i64 k)]) (fun H3 k H2 => k ≤ sts[i].length ∧ ∃ L, BytesI H2 o L ∧ Drawn L (a * b) (Dr a sts i k 0) ∧ WrS H2 o ∧ ExtP0 H3 H2 o) (fun k => sts[i].length - k) 0 rfl (fun _ => rfl) ⟨rfl, trivial⟩ ⟨Nat.zero_le _, L, inferInstance, hD, inferInstance, inferInstance⟩ (by unfold fuel0 at hn; omega) ?_
 rintro k g2 H4 ⟨hk, L4, hL4, hD4, hw4, ⟨hx4⟩⟩
 haveI := hx4
 simp only [↓nrmL, nrmZ, Nat.reduceEqDiff, ↓reduceIte, Nat.reduceAdd, Int.reduceBEq, Int.reduceBNe]
 cases hck : decide ((k : Int) < ((sts[i].length : Nat) : Int))
 ·have hkl : k = sts[i].length := by have := of_decide_eq_false hck; omega
  subst hkl
  repeat first
   | refine mI ?_
   | (refine bn rfl rfl rfl (by simp only [hck]; rfl) ?_)
   | refine b0 ?_
   | refine nl hKF ?_
   | refine sq ?_
   | refine rg fun KF hKF => ?_
   | refine cf rfl ?_
   | refine xi ?_
   | dsimp only [cond_true, cond_false]
  exact ⟨i + 1, by omega, ⟨by simp only [↓nrmL, nrmZ, Nat.reduceEqDiff, ↓reduceIte, Nat.reduceAdd, Int.reduceBEq, Int.reduceBNe]; rw [hwi], trivial⟩, by omega, L4, inferInstance, hD4.congr fun j => Dr.stave his, inferInstance, inferInstance⟩
 have hkl : k < sts[i].length := by have := of_decide_eq_true hck; omega
 have hwk := wa1 (a := k) (by omega)
 obtain ⟨q2, hq2, hI2⟩ := hqr.it k hkl
 have hpk := hpaths k hkl
 obtain ⟨hml2, ha0⟩ := pathB_len hpk
 haveI := hI2
 haveI := hI2.one
 repeat first
  | (refine bn rfl rfl rfl (by simp only [hck]; rfl) ?_)
  | (refine Fo.idx (by simp only [↓nrmL, nrmK, Nat.reduceEqDiff, ↓reduceIte]; rfl) rfl ?_ (by simp only [↓nrmL, nrmZ, Nat.reduceEqDiff, ↓reduceIte, Nat.reduceAdd, Int.reduceBEq, Int.reduceBNe, hck]; rfl) ?_; (focus omega))
  | refine nl hKF ?_
  | refine sq ?_
  | refine rg fun KF hKF => ?_
  | refine ct rfl ?_
  | refine sk ?_
  | refine Wp.block ?_
 refine Fo.now rfl (exec_ldP (p := q) (j := k) rfl hq2) rfl ?_
 refine mv ?_
 refine nl hKF ?_
 refine sq ?_
 refine rg fun KF hKF => ?_
 refine mv ?_
 refine ln (by simp only [↓nrmL, nrmK, Nat.reduceEqDiff, ↓reduceIte]; rfl) ?_
 refine mI ?_
 refine nl hKF ?_
 refine Wp.block ?_
 dsimp only [cond_true, cond_false]
 refine Wp.loopS [12, 13, 36, 37, 38, 39, 40, 41, 42, 43, 44, 45, 46, 47, 48, 49] (fun x : Nat => [(36, .int .i64 x)]) (fun H3 x H2 => x ≤ a ∧ ∃ L, BytesI H2 o L ∧ Drawn L (a * b) (Dr a sts i k x) ∧ WrS H2 o ∧ ExtP0 H3 H2 o) (fun x => a - x) 0 rfl (fun _ => rfl) ⟨rfl, trivial⟩ ⟨Nat.zero_le _, L4, inferInstance, hD4, inferInstance, inferInstance⟩ (by unfold fuel0 at hn; omega) ?_
 rintro x g3 H5 ⟨hx5, L5, hL5, hD5, hw5, ⟨hx5'⟩⟩
 haveI := hx5'
 simp only [↓nrmL, nrmZ, Nat.reduceEqDiff, ↓reduceIte, Nat.reduceAdd, Int.reduceBEq, Int.reduceBNe]
 cases hcx : decide ((x : Int) < ((sts[i][k].length : Nat) : Int))
 ·have hxa : x = a := by have := of_decide_eq_false hcx; omega
  subst hxa
  repeat first
   | refine mI ?_
   | (refine bn rfl rfl rfl (by simp only [hcx]; rfl) ?_)
   | refine b0 ?_
   | refine nl hKF ?_
   | refine sq ?_
   | refine rg fun KF hKF => ?_
   | refine cf rfl ?_
   | refine xi ?_
   | dsimp only [cond_true, cond_false]
  exact ⟨k + 1, by omega, ⟨by simp only [↓nrmL, nrmZ, Nat.reduceEqDiff, ↓reduceIte, Nat.reduceAdd, Int.reduceBEq, Int.reduceBNe]; rw [hwk], trivial⟩, by omega, L5, inferInstance, hD5.congr fun j => Dr.line ha0, inferInstance, inferInstance⟩
 have hxl : x < sts[i][k].length := by have := of_decide_eq_true hcx; omega
 have hxa : x < a := by omega
 have hwx := wa1 (a := x) (by omega)
 obtain ⟨hm0, hmb⟩ := pathB_range hpk hxl
 obtain ⟨y, hy⟩ : ∃ y : Nat, sts[i][k][x] = (y : Int) := ⟨sts[i][k][x].toNat, by omega⟩
 have hlt := idx_lt hxa (show y < b by omega)
 have m1 : IntKind.i64.wrap ((y : Int) * (a : Int)) = ((y * a : Nat) : Int) := wm (by omega)
 have m2 : IntKind.i64.wrap (((y * a : Nat) : Int) + (x : Int)) = ((y * a + x : Nat) : Int) := wa (by omega)
 have hLl := hD5.len
 repeat first
  | refine mI ?_
  | refine fd ?_
  | refine Fo.ld rfl rfl ?_
  | (refine bn rfl rfl rfl (by simp only [hcx, hy, m1, m2]; rfl) ?_)
  | (refine Fo.idx (by simp only [↓nrmL, nrmK, Nat.reduceEqDiff, ↓reduceIte]; rfl) rfl ?_ (by simp only [↓nrmL, nrmZ, Nat.reduceEqDiff, ↓reduceIte, Nat.reduceAdd, Int.reduceBEq, Int.reduceBNe, hcx, hy, m1, m2]; rfl) ?_; (focus omega))
  | (refine Fo.ldI rfl ?_ (by simp only [hcx, hy, m1, m2]; rfl) ?_; (focus omega))
  | refine nl hKF ?_
  | refine sq ?_
  | refine rg fun KF hKF => ?_
  | refine ct rfl ?_
  | refine sk ?_
  | refine Wp.block ?_
 refine WpO.do' (WpX.stB (1 : UInt8) rfl rfl rfl (by omega) fun H6 hb6 hw6 hx6 => ?_)
 haveI := hx6
 refine nl hKF ?_
 refine rg fun KF hKF => ?_
 refine b0 ?_
 refine mI ?_
 refine nl hKF ?_
 dsimp only [cond_true, cond_false]
 exact ⟨x + 1, by omega, ⟨by simp only [↓nrmL, nrmZ, Nat.reduceEqDiff, ↓reduceIte, Nat.reduceAdd, Int.reduceBEq, Int.reduceBNe]; rw [hwx], trivial⟩, by omega, _, hb6, hD5.set hlt fun j => Dr.next his hkl hxa (by rw [getD_at hxl]; exact hy), hw6, inferInstance⟩
end Go.Am

namespace Go.Am
open Go
abbrev RunsI (H : AHeap) (p : AVal) (l : List RunT) : Prop := SliceAt H p 3 l.length (cellsR l)
def run0 : RunT := (0, 0, 0)
theorem cellsR_length (l : List RunT) : (cellsR l).length = 3 * l.length := by
  induction l with
  | nil => rfl
  | cons r l ih => simp only [cellsR, List.flatMap_cons, List.length_append, List.length_cons, List.length_nil] at *; omega
theorem cellsR_get : ∀ {l : List RunT} {i : Nat}, i < l.length → ((cellsR l).drop (i * 3)).take 3 = [.int .i64 (l.getD i run0).1, .int .i64 (l.getD i run0).2.1, .int .i64 (l.getD i run0).2.2]
  | r :: l, 0, _ => by simp [cellsR]
  | r :: l, i + 1, h => by
    have ih := cellsR_get (l := l) (i := i) (by simpa using h)
    have e : (cellsR (r :: l)).drop ((i + 1) * 3) = (cellsR l).drop (i * 3) := by
      rw [show (i + 1) * 3 = 3 + i * 3 by omega, ← List.drop_drop]
      rfl
    rw [e, ih]
    simp
theorem endF_spec {p : Nat → Bool} {len : Nat} : ∀ (f i : Nat), i < len → p i = true → len ≤ i + f + 1 →
    i ≤ endF p len f i ∧ endF p len f i < len ∧ (∀ t, i ≤ t → t ≤ endF p len f i → p t = true) ∧ (endF p len f i + 1 < len → p (endF p len f i + 1) = false)
  | 0, i, hi, hp, hl => by
    simp only [endF]
    refine ⟨Nat.le_refl _, hi, fun t h1 h2 => ?_, fun h => by omega⟩
    obtain rfl : t = i := by omega
    exact hp
  | f + 1, i, hi, hp, hl => by
    simp only [endF]
    by_cases h : i + 1 < len ∧ p (i + 1) = true
    · rw [if_pos h]
      obtain ⟨h1, h2, h3, h4⟩ := endF_spec f (i + 1) h.1 h.2 (by omega)
      refine ⟨by omega, h2, fun t h5 h6 => ?_, h4⟩
      by_cases h7 : t = i
      · rw [h7]; exact hp
      · exact h3 t (by omega) h6
    · rw [if_neg h]
      refine ⟨Nat.le_refl _, hi, fun t h1 h2 => ?_, fun h1 => ?_⟩
      · obtain rfl : t = i := by omega
        exact hp
      · cases hq : p (i + 1)
        · rfl
        · exact absurd ⟨h1, hq⟩ h
theorem endB_spec {p : Nat → Bool} {len i : Nat} (hi : i < len) (hp : p i = true) :
    i ≤ endB p len i ∧ endB p len i < len ∧ (∀ t, i ≤ t → t ≤ endB p len i → p t = true) ∧ (endB p len i + 1 < len → p (endB p len i + 1) = false) := endF_spec len i hi hp (by omega)
theorem start_below {p : Nat → Bool} : ∀ y : Nat, p y = true → ∃ s, s ≤ y ∧ startB p s = true ∧ ∀ t, s ≤ t → t ≤ y → p t = true
  | 0, h => ⟨0, Nat.le_refl _, by simp [startB, h], fun t _ h2 => by rw [show t = 0 by omega]; exact h⟩
  | y + 1, h => by
    cases hq : p y
    · refine ⟨y + 1, Nat.le_refl _, by simp [startB, h, hq], fun t h1 h2 => by rw [show t = y + 1 by omega]; exact h⟩
    · obtain ⟨s, h1, h2, h3⟩ := start_below y hq
      refine ⟨s, by omega, h2, fun t h4 h5 => ?_⟩
      by_cases h6 : t = y + 1
      · rw [h6]; exact h
      · exact h3 t h4 (by omega)
theorem start_p {p : Nat → Bool} {s : Nat} (h : startB p s = true) : p s = true ∧ (0 < s → p (s - 1) = false) := by
  unfold startB at h
  simp only [Bool.and_eq_true, Bool.not_eq_true', Bool.and_eq_false_iff, decide_eq_false_iff_not] at h
  exact ⟨h.1, fun h0 => h.2.resolve_left (fun k => k h0)⟩
theorem mem_preR {o : Nat → Nat → Bool} {len a x : Nat} {r : RunT} : r ∈ preR o len a x ↔ ∃ s, s < x ∧ startB (o a) s = true ∧ r = runV o len a s := by
  unfold preR
  simp only [List.mem_map, List.mem_filter, List.mem_range]
  constructor
  · rintro ⟨s, ⟨h1, h2⟩, h3⟩; exact ⟨s, h1, h2, h3.symm⟩
  · rintro ⟨s, h1, h2, h3⟩; exact ⟨s, ⟨h1, h2⟩, h3.symm⟩
theorem mem_allR {o : Nat → Nat → Bool} {len n : Nat} {r : RunT} : r ∈ allR o len n ↔ ∃ a s, a < n ∧ s < len ∧ startB (o a) s = true ∧ r = runV o len a s := by
  unfold allR
  simp only [List.mem_flatMap, List.mem_range, mem_preR]
  constructor
  · rintro ⟨a, h1, s, h2, h3, h4⟩; exact ⟨a, s, h1, h2, h3, h4⟩
  · rintro ⟨a, s, h1, h2, h3, h4⟩; exact ⟨a, h1, s, h2, h3, h4⟩
theorem run_unique {p : Nat → Bool} {len s s' y : Nat} (hs : startB p s = true) (hs' : startB p s' = true) (hl : s < len) (hl' : s' < len) (h1 : s ≤ y) (h2 : y ≤ endB p len s) (h1' : s' ≤ y) (h2' : y ≤ endB p len s') : s = s' := by
  obtain ⟨_, _, k3, _⟩ := endB_spec (p := p) hl (start_p hs).1
  obtain ⟨_, _, k3', _⟩ := endB_spec (p := p) hl' (start_p hs').1
  rcases Nat.lt_trichotomy s s' with h | h | h
  · have a := (start_p hs').2 (by omega)
    rw [k3 (s' - 1) (by omega) (by omega)] at a; cases a
  · exact h
  · have a := (start_p hs).2 (by omega)
    rw [k3' (s - 1) (by omega) (by omega)] at a; cases a
theorem run_at {p : Nat → Bool} {len y : Nat} (hy : y < len) (hp : p y = true) : ∃ s, s ≤ y ∧ startB p s = true ∧ y ≤ endB p len s ∧ ∀ t, s ≤ t → t ≤ y → p t = true := by
  obtain ⟨s, h1, h2, h3⟩ := start_below y hp
  refine ⟨s, h1, h2, ?_, h3⟩
  obtain ⟨k1, k2, k3, k4⟩ := endB_spec (p := p) (len := len) (i := s) (by omega) (start_p h2).1
  by_cases h : y ≤ endB p len s
  · exact h
  · have := k4 (by omega)
    rw [h3 (endB p len s + 1) (by omega) (by omega)] at this; cases this
def Kept (p : Nat → Bool) (sel : Nat → Nat → Bool) (len : Nat) (q : Nat → Bool) : Prop := ∀ y, y < len → (q y = true ↔ p y = true ∧ ∀ s, startB p s = true → s < len → s ≤ y → y ≤ endB p len s → sel s (endB p len s) = false)
theorem kept_none {p q : Nat → Bool} {sel : Nat → Nat → Bool} {len s : Nat} (hq : Kept p sel len q) (hs : startB q s = true) (hl : s < len) : sel s (endB q len s) = false := by
  obtain ⟨b1, b2⟩ := start_p hs
  obtain ⟨c1, c2⟩ := (hq s hl).1 b1
  obtain ⟨s0, d1, d2, d3, d4⟩ := run_at hl c1
  have hl0 : s0 < len := by omega
  obtain ⟨k1, k2, k3, k4⟩ := endB_spec (p := p) hl0 (start_p d2).1
  have hsel := c2 s0 d2 hl0 d1 d3
  have all : ∀ t, s0 ≤ t → t ≤ endB p len s0 → q t = true := fun t h1 h2 => (hq t (by omega)).2 ⟨k3 t h1 h2, fun s' e1 e2 e3 e4 => by
    have := run_unique d2 e1 hl0 e2 h1 h2 e3 e4
    subst this; exact hsel⟩
  have e : s0 = s := by
    by_cases h : s0 = s
    · exact h
    · have := b2 (by omega)
      rw [all (s - 1) (by omega) (by omega)] at this; cases this
  subst e
  have : endB q len s0 = endB p len s0 := endB_eq k2 (fun h => by
    have := k4 h
    cases hh : q (endB p len s0 + 1)
    · rfl
    · have := ((hq _ h).1 hh).1
      rw [k4 h] at this; cases this) k1 all
  rw [this]; exact hsel
end Go.Am

namespace Go.Am
open Go
attribute [local irreducible] Wp WpO WpX WpE
def touchB (L : List UInt8) (a x s t : Nat) : Bool := (List.range (t + 1)).any fun y => decide (s ≤ y) && (L.getD (y * a + x) 0 == 1)
theorem touch_no {L : List UInt8} {a x s t : Nat} (h : ∀ z, s ≤ z → z ≤ t → (L.getD (z * a + x) 0 == 1) = false) : touchB L a x s t = false := by
 unfold touchB
 rw [List.any_eq_false]
 intro y hy
 have := List.mem_range.1 hy
 by_cases hs : s ≤ y
 ·rw [h y hs (by omega)]; simp
 ·simp [hs]
theorem touch_yes {L : List UInt8} {a x s t y : Nat} (h1 : s ≤ y) (h2 : y ≤ t) (h : (L.getD (y * a + x) 0 == 1) = true) : touchB L a x s t = true := by
 unfold touchB
 rw [List.any_eq_true]
 exact ⟨y, List.mem_range.2 (by omega), by rw [h]; simp [h1]⟩
theorem K_touches {a b x s t : Nat} {p : AVal} {H : AHeap} {L : List UInt8} [hp : BytesI H p L] (ha : a ≤ 640) (hb : b ≤ 640) (hx : x < a) (ht : t < b) (hl : L.length = a * b) : Con ext prog 1 108 [.agg [.int .i64 (a : Int), .int .i64 (b : Int), p], .agg [.int .i64 (x : Int), .int .i64 (s : Int), .int .i64 (t : Int)]] H fun v H' => v = .bool (touchB L a x s t) ∧ Ext H H' := by
 refine con_of (show prog 108 = some c108 from rfl) rfl rfl fun n hn => ?_
 haveI := hp.one
 repeat first
  | refine mI ?_
  | refine mB ?_
  | refine fd ?_
  | refine Fo.ld rfl rfl ?_
  | refine bA ?_
  | refine nl hKF ?_
  | refine sq ?_
  | refine rg fun KF hKF => ?_
  | refine Wp.block ?_
  | dsimp only [cond_true, cond_false]
 by_cases hst : s ≤ t
 ·refine Wp.loopS [4, 5, 8, 9, 10, 11, 12, 13, 14, 15, 16, 17, 18, 19, 20, 21, 22, 23, 24, 25] (fun y : Nat => [(5, .int .i64 y)]) (fun H3 y H2 => s ≤ y ∧ y ≤ t + 1 ∧ (∀ z, s ≤ z → z < y → (L.getD (z * a + x) 0 == 1) = false) ∧ H2 = H3) (fun y => t + 1 - y) s rfl (fun _ => rfl) ⟨rfl, trivial⟩ ⟨Nat.le_refl _, by omega, fun z h1 h2 => by omega, rfl⟩ (by unfold fuel0 at hn; omega) ?_
  rintro y g H2 ⟨hy1, hy2, hno, rfl⟩
  simp only [↓nrmL, nrmZ, Nat.reduceEqDiff, ↓reduceIte, Nat.reduceAdd, Int.reduceBEq, Int.reduceBNe]
  cases hc : decide ((y : Int) ≤ (t : Int))
  ·have hyt : y = t + 1 := by have := of_decide_eq_false hc; omega
   have e1 : touchB L a x s t = false := touch_no fun z h1 h2 => hno z h1 (by omega)
   rw [e1]
   repeat first
    | refine mI ?_
    | refine mB ?_
    | refine fd ?_
    | refine Fo.ld rfl rfl ?_
    | (refine bn rfl rfl rfl (by simp only [hc]; rfl) ?_)
    | refine nl hKF ?_
    | refine sq ?_
    | refine rg fun KF hKF => ?_
    | refine cf rfl ?_
    | refine rt ?_
    | refine xi ?_
    | dsimp only [cond_true, cond_false]
   refine rz trivial ?_
   exact ⟨rfl, Ext0.ext⟩
  have hyt : y ≤ t := by have := of_decide_eq_true hc; omega
  have hlt := idx_lt hx (show y < b by omega)
  have hle : a * b ≤ 640 * 640 := Nat.mul_le_mul ha hb
  have m1 : IntKind.i64.wrap ((y : Int) * (a : Int)) = ((y * a : Nat) : Int) := wm (by omega)
  have m2 : IntKind.i64.wrap (((y * a : Nat) : Int) + (x : Int)) = ((y * a + x : Nat) : Int) := wa (by omega)
  have hwy := wa1 (a := y) (by omega)
  have hi : y * a + x < L.length := by omega
  have hg : L.getD (y * a + x) 0 = L[y * a + x] := by rw [List.getD_eq_getElem?_getD, List.getElem?_eq_getElem hi, Option.getD_some]
  cases h1 : (L[y * a + x] == 1)
  ·have h1' : ((((L[y * a + x]).toNat : Nat) : Int) == 1) = false := by rw [u8_one]; exact h1
   repeat first
    | refine mI ?_
    | refine fd ?_
    | refine Fo.ld rfl rfl ?_
    | (refine bn rfl rfl rfl (by simp only [hc, m1, m2, h1']; rfl) ?_)
    | refine b0 ?_
    | (refine Fo.idx (by simp only [↓nrmL, nrmK, Nat.reduceEqDiff, ↓reduceIte]; rfl) rfl ?_ (by simp only [↓nrmL, nrmZ, Nat.reduceEqDiff, ↓reduceIte, Nat.reduceAdd, Int.reduceBEq, Int.reduceBNe, hc, m1, m2, h1']; rfl) ?_; (focus omega))
    | (refine Fo.ldB rfl ?_ rfl ?_; (focus omega))
    | refine nl hKF ?_
    | refine sq ?_
    | refine rg fun KF hKF => ?_
    | refine ct rfl ?_
    | refine cf rfl ?_
    | refine sk ?_
    | refine Wp.block ?_
    | dsimp only [cond_true, cond_false]
   refine ⟨y + 1, by omega, ⟨by simp only [↓nrmL, nrmZ, Nat.reduceEqDiff, ↓reduceIte, Nat.reduceAdd, Int.reduceBEq, Int.reduceBNe]; rw [hwy], trivial⟩, by omega, by omega, fun z z1 z2 => ?_, rfl⟩
   by_cases e : z = y
   ·rw [e, hg]; exact h1
   ·exact hno z z1 (by omega)
  ·have h1' : ((((L[y * a + x]).toNat : Nat) : Int) == 1) = true := by rw [u8_one]; exact h1
   have e1 : touchB L a x s t = true := touch_yes hy1 hyt (by rw [hg]; exact h1)
   rw [e1]
   repeat first
    | refine mI ?_
    | refine mB ?_
    | refine fd ?_
    | refine Fo.ld rfl rfl ?_
    | (refine bn rfl rfl rfl (by simp only [hc, m1, m2, h1']; rfl) ?_)
    | (refine Fo.idx (by simp only [↓nrmL, nrmK, Nat.reduceEqDiff, ↓reduceIte]; rfl) rfl ?_ (by simp only [↓nrmL, nrmZ, Nat.reduceEqDiff, ↓reduceIte, Nat.reduceAdd, Int.reduceBEq, Int.reduceBNe, hc, m1, m2, h1']; rfl) ?_; (focus omega))
    | (refine Fo.ldB rfl ?_ rfl ?_; (focus omega))
    | refine nl hKF ?_
    | refine sq ?_
    | refine rg fun KF hKF => ?_
    | refine ct rfl ?_
    | refine sk ?_
    | refine rt ?_
    | refine Wp.block ?_
    | dsimp only [cond_true, cond_false]
   refine rz trivial ?_
   exact ⟨rfl, Ext0.ext⟩
 ·refine Wp.loopS [4, 5, 8, 9, 10, 11, 12, 13, 14, 15, 16, 17, 18, 19, 20, 21, 22, 23, 24, 25] (fun y : Nat => [(5, .int .i64 y)]) (fun H3 y H2 => y = s ∧ H2 = H3) (fun y => 0) s rfl (fun _ => rfl) ⟨rfl, trivial⟩ ⟨rfl, rfl⟩ (by unfold fuel0 at hn; omega) ?_
  rintro y g H2 ⟨rfl, rfl⟩
  simp only [↓nrmL, nrmZ, Nat.reduceEqDiff, ↓reduceIte, Nat.reduceAdd, Int.reduceBEq, Int.reduceBNe]
  have hc : decide ((y : Int) ≤ (t : Int)) = false := decide_eq_false (by omega)
  have e1 : touchB L a x y t = false := touch_no fun z h1 h2 => by omega
  rw [e1]
  repeat first
   | refine mI ?_
   | refine mB ?_
   | refine fd ?_
   | refine Fo.ld rfl rfl ?_
   | (refine bn rfl rfl rfl (by simp only [hc]; rfl) ?_)
   | refine nl hKF ?_
   | refine sq ?_
   | refine rg fun KF hKF => ?_
   | refine cf rfl ?_
   | refine rt ?_
   | refine xi ?_
   | dsimp only [cond_true, cond_false]
  refine rz trivial ?_
  exact ⟨rfl, Ext0.ext⟩
noncomputable def drawL (a b : Nat) (sts : List (List (List Int))) : List UInt8 := by
 classical
 exact (List.range (a * b)).map fun j => if Dr a sts sts.length 0 0 j then 1 else 0
theorem drawn_eq {a b : Nat} {sts : List (List (List Int))} {L : List UInt8} (h : Drawn L (a * b) (Dr a sts sts.length 0 0)) : L = drawL a b sts := by
 classical
 unfold drawL
 apply List.ext_getElem
 ·simp [h.len]
 ·intro i h1 h2
  have hi : i < a * b := by rw [← h.len]; exact h1
  simp only [List.getElem_map, List.getElem_range]
  have hg : L.getD i 0 = L[i] := by rw [List.getD_eq_getElem?_getD, List.getElem?_eq_getElem h1, Option.getD_some]
  rcases h.it i hi with ⟨a1, a2⟩ | ⟨a1, a2⟩
  ·rw [if_pos a2, ← hg, a1]
  ·rw [if_neg a2, ← hg, a1]
def selR (L : List UInt8) (a : Nat) (most : Int) (r : RunT) : Bool := decide (r.2.2 - r.2.1 < most) && touchB L a r.1.toNat r.2.1.toNat r.2.2.toNat
noncomputable def runsS (g : Img) (sts : List (List (List Int))) (most : Int) : List RunT × Int :=
 bif g.err == 0 then (bif sts.all (fitsB g.w.toNat g.h.toNat) then ((allR (colO g) g.h.toNat g.w.toNat).filter (selR (drawL g.w.toNat g.h.toNat sts) g.w.toNat most), 0) else ([], 10)) else ([], g.err)
theorem filter_snoc {α : Type} {l : List α} {f : α → Bool} {i : Nat} (h : i < l.length) : (l.take (i + 1)).filter f = (l.take i).filter f ++ (if f l[i] = true then [l[i]] else []) := by
 rw [List.take_succ_eq_append_getElem h, List.filter_append]
 cases h2 : f l[i] <;> simp [h2]
theorem row_one3 {H : AHeap} {r : Nat} {a b c : AVal} {rw : Bool} {ty : TypeId} (h : HasRow H r [a, b, c] rw ty) : SliceAt H (.slice r 0 1 (some 1) 3) 3 1 [a, b, c] := ⟨Or.inr ⟨r, 0, some 1, _, rw, ty, rfl, h.lt, h.get, by simp, rfl, Nat.le_refl _⟩⟩
theorem K_Runs {w h most : Int} {m : Nat} {p q : AVal} {H : AHeap} {l : List UInt8} {cells : List AVal} {sts : List (List (List Int))} [hp : BytesI H p l] [hq : StavesI H q m cells sts] (hm : m ≤ 1000) : Con ext prog 9 84 [.agg [.int .i64 w, .int .i64 h, p], q, .int .i64 most] H fun v H' => RunsRes H H' v (runsS ⟨w, h, l⟩ sts most) := by
 refine con_of (show prog 84 = some c84 from rfl) rfl rfl fun n hn => ?_
 have hsl := hq.sl
 haveI := hsl
 haveI := hsl.one
 haveI := hp.one
 have hml := hq.len
 have hcl : cells.length = m := by have := hsl.len; omega
 obtain ⟨R, hR⟩ : ∃ R, runsS ⟨w, h, l⟩ sts most = R := ⟨_, rfl⟩
 rw [hR]
 repeat first
  | refine mI ?_
  | refine mN ?_
  | (refine Fo.ldN rfl rfl (by simp only [↓nrmL, nrmZ, Nat.reduceEqDiff, ↓reduceIte, Nat.reduceAdd, Int.reduceBEq, Int.reduceBNe]; rfl) ?_)
  | refine bA ?_
  | refine nl hKF ?_
  | refine sq ?_
  | refine rg fun KF hKF => ?_
 refine WpO.do (WpX.conD hn rfl rfl (by simp only [↓nrmL, nrmZ, Nat.reduceEqDiff, ↓reduceIte, Nat.reduceAdd, Int.reduceBEq, Int.reduceBNe, List.map] <;> rfl) (K_Columns (l := l)) fun v H3 h5 => ?_)
 obtain ⟨q2, e1, hq2, hfq2, hxq2⟩ := h5
 subst e1
 haveI : ExtI _ H3 := ⟨hxq2⟩
 haveI := hq2.sl.one
 cases h0 : (Img.err ⟨w, h, l⟩ == 0)
 ·have e1 : runsS ⟨w, h, l⟩ sts most = ([], Img.err ⟨w, h, l⟩) := by simp only [runsS, h0, cond_false]
  have e2 : colsSpec ⟨w, h, l⟩ = ([], Img.err ⟨w, h, l⟩) := by simp only [colsSpec, h0, cond_false]
  rw [e1] at hR
  subst hR
  rw [e2] at hq2
  simp only [e2, bne, h0]
  repeat first
   | refine mI ?_
   | refine mT ?_
   | refine mN ?_
   | (refine mv ?_)
   | (refine bn rfl rfl rfl (by simp only [e2, bne, h0]; rfl) ?_)
   | refine xt ?_
   | refine nl hKF ?_
   | refine sq ?_
   | refine rg fun KF hKF => ?_
   | refine ct rfl ?_
   | refine rt ?_
   | dsimp only [cond_true, cond_false]
  refine rz trivial ?_
  exact ⟨_, rfl, newRuns0⟩
 obtain ⟨a, b, rfl, rfl, ok⟩ := ok_of h0
 have ha := ok.wa
 have hb := ok.hb
 haveI : Side a := ⟨ha⟩
 haveI : Side b := ⟨hb⟩
 have e2 : colsSpec ⟨a, b, l⟩ = (allR (colO ⟨a, b, l⟩) b a, 0) := by simp only [colsSpec, h0, cond_true, Int.toNat_natCast]
 obtain ⟨C, hC⟩ : ∃ C, allR (colO ⟨a, b, l⟩) b a = C := ⟨_, rfl⟩
 rw [hC] at e2
 rw [e2] at hq2
 have hClen : C.length ≤ 409600 := by
  have h7 := allR_len (colO ⟨a, b, l⟩) b a
  have h8 := Nat.mul_le_mul ha hb
  rw [← hC]; omega
 have hbne : ((0 : Int) != 0) = false := rfl
 simp only [e2, hbne]
 repeat first
  | refine mI ?_
  | refine mT ?_
  | (refine mv ?_)
  | (refine bn rfl rfl rfl (by simp only [e2, hbne]; rfl) ?_)
  | refine xt ?_
  | (refine ln (by simp only [↓nrmL, nrmK, Nat.reduceEqDiff, ↓reduceIte]; rfl) ?_)
  | refine nl hKF ?_
  | refine sq ?_
  | refine rg fun KF hKF => ?_
  | refine cf rfl ?_
  | refine sk ?_
  | refine Wp.block ?_
  | dsimp only [cond_true, cond_false]
 refine Wp.loopS [6, 7, 11, 26, 27, 28, 29, 30, 31, 32, 33, 34] (fun i : Nat => [(26, .int .i64 i)]) (fun H4 i H5 => i ≤ m ∧ (∀ j (h : j < sts.length), j < i → fitsB a b sts[j] = true) ∧ Ext0 H4 H5) (fun i => m - i) 0 rfl (fun _ => rfl) ⟨rfl, trivial⟩ ⟨Nat.zero_le _, fun j _ hj => by omega, inferInstance⟩ (by unfold fuel0 at hn; omega) ?_
 rintro i g H5 ⟨hi, hok, ⟨hx5⟩⟩
 haveI : ExtI _ H5 := ⟨hx5⟩
 simp only [↓nrmL, nrmZ, Nat.reduceEqDiff, ↓reduceIte, Nat.reduceAdd, Int.reduceBEq, Int.reduceBNe]
 cases hc : decide ((i : Int) < (m : Int))
 rotate_left
 ·have him : i < m := by have := of_decide_eq_true hc; omega
  have his : i < sts.length := by omega
  have hwi := wa1 (a := i) (by omega)
  obtain ⟨qi, hqi, hLq⟩ := hq.it i his
  obtain ⟨qs, hqs, hqr⟩ := hLq.it
  haveI := hqs
  haveI := hqs.one
  repeat first
   | (refine bn rfl rfl rfl (by simp only [hc]; rfl) ?_)
   | (refine Fo.idx (by simp only [↓nrmL, nrmK, Nat.reduceEqDiff, ↓reduceIte]; rfl) rfl ?_ (by simp only [↓nrmL, nrmZ, Nat.reduceEqDiff, ↓reduceIte, Nat.reduceAdd, Int.reduceBEq, Int.reduceBNe, hc]; rfl) ?_; (focus omega))
   | refine nl hKF ?_
   | refine sq ?_
   | refine rg fun KF hKF => ?_
   | refine ct rfl ?_
   | refine sk ?_
   | refine Wp.block ?_
  refine WpO.do (WpX.ldNP (p := q) (j := i) (m := 1) (l := [qi]) rfl (by decide) (by omega) (take_one hqi) ?_)
  repeat first
   | (refine Fo.ldN rfl rfl (by simp only [↓nrmL, nrmZ, Nat.reduceEqDiff, ↓reduceIte, Nat.reduceAdd, Int.reduceBEq, Int.reduceBNe]; rfl) ?_)
   | refine nw ?_
   | (refine so rfl (rfl : _ = AVal.agg _) rfl rfl rfl (by simp only [↓nrmL, nrmZ, Nat.reduceEqDiff, ↓reduceIte, Nat.reduceAdd, Int.reduceBEq, Int.reduceBNe]; rfl) ?_)
   | refine nl hKF ?_
   | refine sq ?_
   | refine rg fun KF hKF => ?_
  refine WpO.do (WpX.conD hn rfl rfl (by simp only [↓nrmL, nrmZ, Nat.reduceEqDiff, ↓reduceIte, Nat.reduceAdd, Int.reduceBEq, Int.reduceBNe, List.map] <;> rfl) (K_fits (a := a) (b := b) (p := p) (q := qi) (g := l) (ls := sts[i]) (hq := hLq.ext Ext0.ext)).con fun v H6 h5 => ?_)
  obtain ⟨rfl, hx6⟩ := h5
  haveI : ExtI _ H6 := ⟨hx6⟩
  cases hf : fitsB a b sts[i]
  ·have e1 : runsS ⟨a, b, l⟩ sts most = ([], 10) := by
    have : sts.all (fitsB a b) = false := by
     cases hh : sts.all (fitsB a b) with
     | false => rfl
     | true =>
      have := List.all_eq_true.1 hh _ (List.getElem_mem his)
      rw [hf] at this; cases this
    simp only [runsS, h0, cond_true, Int.toNat_natCast, this, cond_false]
   rw [e1] at hR
   subst hR
   refine Fo.now rfl rfl (by simp only [↓nrmL, nrmZ, Nat.reduceEqDiff, ↓reduceIte, Nat.reduceAdd, Int.reduceBEq, Int.reduceBNe, hf]; rfl) ?_
   refine nl hKF ?_
   refine ct rfl ?_
   refine sq ?_
   refine rg fun KF hKF => ?_
   refine mN ?_
   refine mI ?_
   refine nl hKF ?_
   refine rt ?_
   dsimp only [cond_true, cond_false]
   refine rz trivial ?_
   exact ⟨_, rfl, newRuns0⟩
  ·skip
   refine Fo.now rfl rfl (by simp only [↓nrmL, nrmZ, Nat.reduceEqDiff, ↓reduceIte, Nat.reduceAdd, Int.reduceBEq, Int.reduceBNe, hf]; rfl) ?_
   refine nl hKF ?_
   refine cf rfl ?_
   refine sk ?_
   refine rg fun KF hKF => ?_
   refine b0 ?_
   refine mI ?_
   refine nl hKF ?_
   dsimp only [cond_true, cond_false]
   refine ⟨i + 1, by omega, ⟨by simp only [↓nrmL, nrmZ, Nat.reduceEqDiff, ↓reduceIte, Nat.reduceAdd, Int.reduceBEq, Int.reduceBNe]; rw [hwi], trivial⟩, by omega, fun j h1 h2 => ?_, inferInstance⟩
   by_cases e : j = i
   ·subst e; exact hf
   ·exact hok j h1 (by omega)
 have him : i = m := by have := of_decide_eq_false hc; omega
 have hfit : ∀ (j : Nat) (h : j < sts.length), fitsB a b sts[j] = true := fun j h => hok j h (by omega)
 have hall : sts.all (fitsB a b) = true := by
  rw [List.all_eq_true]
  intro s hs
  obtain ⟨j, hj, rfl⟩ := List.getElem_of_mem hs
  exact hfit j hj
 obtain ⟨L, hL⟩ : ∃ L, drawL a b sts = L := ⟨_, rfl⟩
 have e1 : runsS ⟨a, b, l⟩ sts most = (C.filter (selR L a most), 0) := by simp only [runsS, h0, cond_true, Int.toNat_natCast, hall, hC, hL]
 rw [e1] at hR
 subst hR
 repeat first
  | (refine mv ?_)
  | refine fd ?_
  | refine Fo.ld rfl rfl ?_
  | (refine bn rfl rfl rfl (by simp only [hc]; rfl) ?_)
  | refine nl hKF ?_
  | refine sq ?_
  | refine rg fun KF hKF => ?_
  | refine cf rfl ?_
  | refine xi ?_
 refine WpO.do (WpX.conD hn rfl rfl (by simp only [↓nrmL, nrmZ, Nat.reduceEqDiff, ↓reduceIte, Nat.reduceAdd, Int.reduceBEq, Int.reduceBNe, List.map] <;> rfl) (K_draw (a := a) (b := b) (p := q) (sts := sts) (hp := hq.ext Ext0.ext) ha hb hm hfit) fun v H6 h5 => ?_)
 obtain ⟨L', ⟨o, e4, ho, hfo, hwo, hxo⟩, hD⟩ := h5
 subst e4
 rw [← hml] at hD
 have hL' := drawn_eq hD
 rw [hL] at hL'
 subst hL'
 have hLl := hD.len
 dsimp only at ho
 haveI : ExtI _ H6 := ⟨hxo⟩
 haveI := ho.one
 haveI : RunsI H3 q2 C := hq2.sl
 repeat first
  | refine mI ?_
  | refine mN ?_
  | (refine mv ?_)
  | (refine ln (by simp only [↓nrmL, nrmK, Nat.reduceEqDiff, ↓reduceIte]; rfl) ?_)
  | refine nw ?_
  | (refine so rfl (rfl : _ = AVal.agg _) rfl rfl rfl (by simp only [↓nrmL, nrmZ, Nat.reduceEqDiff, ↓reduceIte, Nat.reduceAdd, Int.reduceBEq, Int.reduceBNe]; rfl) ?_)
  | refine nl hKF ?_
  | refine sq ?_
  | refine rg fun KF hKF => ?_
  | refine Wp.block ?_
  | dsimp only [cond_true, cond_false]
 refine Wp.loopS (σ := Nat × AVal) [13, 15, 43, 44, 45, 46, 47, 48, 49, 50, 51, 52, 53, 54, 55, 56, 57, 58, 59, 60, 61, 62, 63] (fun s => [(43, .int .i64 (s.1 : Int)), (13, s.2)]) (fun K s H7 => s.1 ≤ C.length ∧ OwnS H7 s.2 3 ((C.take s.1).filter (selR L' a most)).length (cellsR ((C.take s.1).filter (selR L' a most))) 110 ∧ FreshS K s.2 ∧ Ext0 K H7) (fun s => C.length - s.1) (0, .nslice) rfl (fun _ => rfl) ⟨rfl, rfl, trivial⟩ ⟨Nat.zero_le _, ⟨Or.inl ⟨rfl, rfl, rfl⟩⟩, ⟨fun _ _ _ _ _ e => by cases e⟩, inferInstance⟩ (by unfold fuel0 at hn; dsimp only; omega) ?_
 rintro ⟨j, op⟩ g2 H7 ⟨hj, hop, hopf, ⟨hx7⟩⟩
 dsimp only at hj hop hopf
 haveI : ExtI _ H7 := ⟨hx7⟩
 haveI := hop.sl
 haveI := hop.sl.one
 simp only [↓nrmL, nrmZ, Nat.reduceEqDiff, ↓reduceIte, Nat.reduceAdd, Int.reduceBEq, Int.reduceBNe]
 cases hcj : decide ((j : Int) < (C.length : Int))
 ·have hjl : j = C.length := by have := of_decide_eq_false hcj; omega
  subst hjl
  rw [List.take_length] at hop
  repeat first
   | refine mI ?_
   | (refine mv ?_)
   | (refine bn rfl rfl rfl (by simp only [hcj]; rfl) ?_)
   | refine nl hKF ?_
   | refine sq ?_
   | refine rg fun KF hKF => ?_
   | refine cf rfl ?_
   | refine rt ?_
   | refine xi ?_
   | dsimp only [cond_true, cond_false]
  refine rz trivial ?_
  exact ⟨op, rfl, hop, hopf.weak, Ext0.ext⟩
 have hjl : j < C.length := by have := of_decide_eq_true hcj; omega
 have hwj := wa1 (a := j) (by omega)
 have hmem : C[j] ∈ allR (colO ⟨a, b, l⟩) b a := by rw [hC]; exact List.getElem_mem hjl
 obtain ⟨x, s, hxa, hsb, hst, hr⟩ := mem_allR.1 hmem
 obtain ⟨k1, k2, k3, k4⟩ := endB_spec (p := colO ⟨a, b, l⟩ x) hsb (start_p hst).1
 obtain ⟨t, htd⟩ : ∃ t, endB (colO ⟨a, b, l⟩ x) b s = t := ⟨_, rfl⟩
 rw [htd] at k1 k2
 have hr2 : C[j] = ((x : Int), (s : Int), (t : Int)) := by rw [hr, runV, htd]
 have hcg := cellsR_get (l := C) (i := j) hjl
 have hget : C.getD j run0 = C[j] := by simp [hjl]
 rw [hget, hr2] at hcg
 have hsel : selR L' a most C[j] = (decide ((t : Int) - (s : Int) < most) && touchB L' a x s t) := by rw [hr2]; rfl
 have hsn := filter_snoc (f := selR L' a most) hjl
 have w1 : IntKind.i64.wrap ((t : Int) - (s : Int)) = (t : Int) - (s : Int) := w64 (by omega)
 have hfl : ((C.take j).filter (selR L' a most)).length ≤ j := Nat.le_trans (List.length_filter_le _ _) (by rw [List.length_take]; omega)
 repeat first
  | (refine bn rfl rfl rfl (by simp only [hcj]; rfl) ?_)
  | (refine Fo.idx (by simp only [↓nrmL, nrmK, Nat.reduceEqDiff, ↓reduceIte]; rfl) rfl ?_ (by simp only [↓nrmL, nrmZ, Nat.reduceEqDiff, ↓reduceIte, Nat.reduceAdd, Int.reduceBEq, Int.reduceBNe, hcj]; rfl) ?_; (focus omega))
  | refine nl hKF ?_
  | refine sq ?_
  | refine rg fun KF hKF => ?_
  | refine ct rfl ?_
  | refine sk ?_
  | refine Wp.block ?_
 refine WpO.do (WpX.ldNP (p := q2) (j := j * 3) (m := 3) rfl (by decide) (by rw [cellsR_length]; omega) hcg ?_)
 cases hd : decide ((t : Int) - (s : Int) < most)
 ·have hs0 : selR L' a most C[j] = false := by rw [hsel, hd]; rfl
  rw [hs0] at hsn
  simp only [Bool.false_eq_true, if_false, List.append_nil] at hsn
  simp only [w1, hd]
  repeat first
   | refine ox ?_
   | refine mI ?_
   | refine mB ?_
   | refine fd ?_
   | refine Fo.ld rfl rfl ?_
   | (refine bn rfl rfl rfl (by simp only [w1, hd]; rfl) ?_)
   | refine b0 ?_
   | refine fB ?_
   | refine nw ?_
   | (refine so rfl (rfl : _ = AVal.agg _) rfl rfl rfl (by simp only [↓nrmL, nrmZ, Nat.reduceEqDiff, ↓reduceIte, Nat.reduceAdd, Int.reduceBEq, Int.reduceBNe, w1, hd]; rfl) ?_)
   | refine nl hKF ?_
   | refine sq ?_
   | refine rg fun KF hKF => ?_
   | refine cf rfl ?_
   | refine sk ?_
   | dsimp only [cond_true, cond_false]
  refine ⟨(j + 1, op), by dsimp only; omega, ⟨by simp only [↓nrmL, nrmZ, Nat.reduceEqDiff, ↓reduceIte, Nat.reduceAdd, Int.reduceBEq, Int.reduceBNe]; rw [hwj], rfl, trivial⟩, by dsimp only; omega, ?_, hopf, inferInstance⟩
  dsimp only
  rw [hsn]; infer_instance
 simp only [w1, hd]
 repeat first
  | refine oy ?_
  | refine mI ?_
  | refine mB ?_
  | refine fd ?_
  | refine Fo.ld rfl rfl ?_
  | (refine Fo.ldN rfl rfl (by simp only [↓nrmL, nrmZ, Nat.reduceEqDiff, ↓reduceIte, Nat.reduceAdd, Int.reduceBEq, Int.reduceBNe, w1, hd]; rfl) ?_)
  | (refine bn rfl rfl rfl (by simp only [w1, hd]; rfl) ?_)
  | refine nw ?_
  | (refine so rfl (rfl : _ = AVal.agg _) rfl rfl rfl (by simp only [↓nrmL, nrmZ, Nat.reduceEqDiff, ↓reduceIte, Nat.reduceAdd, Int.reduceBEq, Int.reduceBNe, w1, hd]; rfl) ?_)
  | refine nl hKF ?_
  | refine sq ?_
  | refine rg fun KF hKF => ?_
 refine WpO.do (WpX.conD hn rfl rfl (by simp only [↓nrmL, nrmZ, Nat.reduceEqDiff, ↓reduceIte, Nat.reduceAdd, Int.reduceBEq, Int.reduceBNe, List.map] <;> rfl) (K_touches (a := a) (b := b) (x := x) (s := s) (t := t) (p := o) (L := L') ha hb hxa k2 hLl) fun v H8 h5 => ?_)
 obtain ⟨rfl, hx8⟩ := h5
 haveI : ExtI _ H8 := ⟨hx8⟩
 cases htt : touchB L' a x s t
 ·have hs0 : selR L' a most C[j] = false := by rw [hsel, hd, htt]; rfl
  rw [hs0] at hsn
  simp only [Bool.false_eq_true, if_false, List.append_nil] at hsn
  simp only [↓nrmL, nrmZ, Nat.reduceEqDiff, ↓reduceIte, Nat.reduceAdd, Int.reduceBEq, Int.reduceBNe, htt]
  refine tB ?_
  refine nl hKF ?_
  refine cf rfl ?_
  refine sk ?_
  refine rg fun KF hKF => ?_
  refine b0 ?_
  refine mI ?_
  refine nl hKF ?_
  dsimp only [cond_true, cond_false]
  refine ⟨(j + 1, op), by dsimp only; omega, ⟨by simp only [↓nrmL, nrmZ, Nat.reduceEqDiff, ↓reduceIte, Nat.reduceAdd, Int.reduceBEq, Int.reduceBNe]; rw [hwj], rfl, trivial⟩, by dsimp only; omega, ?_, hopf, inferInstance⟩
  dsimp only
  rw [hsn]; infer_instance
 have hs1 : selR L' a most C[j] = true := by rw [hsel, hd, htt]; rfl
 rw [hs1, if_pos rfl, hr2] at hsn
 have hop8 : OwnS (H8.push (.row [.int .i64 (x : Int), .int .i64 (s : Int), .int .i64 (t : Int)] true (2 * 110))) op 3 ((C.take j).filter (selR L' a most)).length (cellsR ((C.take j).filter (selR L' a most))) 110 := inferInstance
 simp only [↓nrmL, nrmZ, Nat.reduceEqDiff, ↓reduceIte, Nat.reduceAdd, Int.reduceBEq, Int.reduceBNe, htt]
 refine tB ?_
 refine nl hKF ?_
 refine ct rfl ?_
 refine rg fun KF hKF => ?_
 refine mv ?_
 refine Fo.ldN rfl rfl (by simp only [↓nrmL, nrmZ, Nat.reduceEqDiff, ↓reduceIte, Nat.reduceAdd, Int.reduceBEq, Int.reduceBNe, htt]; rfl) ?_
 refine Fo.bslice rfl (by simp only [↓nrmL, nrmZ, Nat.reduceEqDiff, ↓reduceIte, Nat.reduceAdd, Int.reduceBEq, Int.reduceBNe, htt]; rfl) ?_
 refine WpO.do (WpX.growX (p := op) (q := .slice H8.n 0 1 (some 1) 3) (k := 1) (new := [.int .i64 (x : Int), .int .i64 (s : Int), .int .i64 (t : Int)]) rfl rfl hop8 (row_one3 (inferInstance : HasRow _ H8.n [.int .i64 (x : Int), .int .i64 (s : Int), .int .i64 (t : Int)] true (2 * 110))) (by decide) (by decide) (by decide) (by omega) rfl fun op' H9 ho2 hf2 hx2 => ?_)
 haveI := ho2.sl.one
 have hx78 := (inferInstance : Ext0 H7 H8).ext
 have hn9 := hx2.n
 simp only [AHeap.push] at hn9
 have hKn := hx7.n
 refine mv ?_
 refine nl hKF ?_
 refine rg fun KF hKF => ?_
 refine b0 ?_
 refine mI ?_
 refine nl hKF ?_
 dsimp only [cond_true, cond_false]
 refine ⟨(j + 1, op'), by dsimp only; omega, ⟨by simp only [↓nrmL, nrmZ, Nat.reduceEqDiff, ↓reduceIte, Nat.reduceAdd, Int.reduceBEq, Int.reduceBNe]; rw [hwj], rfl, trivial⟩, by dsimp only; omega, ?_, ?_, ?_⟩
 ·dsimp only
  rw [hsn, cellsR_snoc, List.length_append]
  exact ho2
 ·exact ⟨fun r _ _ _ _ e => by have h1 := hf2.ge _ _ _ _ _ e; have h2 := hx78.n; simp only [AHeap.push, AHeap.set] at h1 h2 hKn ⊢; omega⟩
 ·refine ⟨by have h2 := hx78.n; omega, fun r hr => ?_⟩
  have h2 := hx78.n
  rw [hx2.get r (by simp only [AHeap.push]; omega) ⟨fun r' _ _ _ _ e => by have := hopf.ge _ _ _ _ _ e; omega⟩, push_get_lt (by omega), hx78.get r (by omega), hx7.get r hr]
end Go.Am

namespace Go.Am
open Go
attribute [local irreducible] Wp WpO WpX WpE
def inR (r : RunT) (x y : Nat) : Bool := r.1 == (x : Int) && (decide (r.2.1 ≤ (y : Int)) && decide ((y : Int) ≤ r.2.2))
def cutL (l : List UInt8) (a n : Nat) (rs : List RunT) : List UInt8 := mixP (fun k => rs.any fun r => inR r (k % a) (k / a)) (fun _ => 0) (fun k => l.getD k 0) n
noncomputable def remS (g : Img) (sts : List (List (List Int))) (most : Int) : Img × Int :=
 bif (runsS g sts most).2 == 0 then (⟨g.w, g.h, cutL g.px g.w.toNat (g.w.toNat * g.h.toNat) (runsS g sts most).1⟩, 0) else (.zero, (runsS g sts most).2)
theorem runsS_mem {g : Img} {sts : List (List (List Int))} {most : Int} {r : RunT} (h : r ∈ (runsS g sts most).1) : r ∈ allR (colO g) g.h.toNat g.w.toNat := by
 unfold runsS at h
 cases h1 : (g.err == 0) with
 | false => rw [h1] at h; cases h
 | true =>
  cases h2 : sts.all (fitsB g.w.toNat g.h.toNat) with
  | false => rw [h1, h2] at h; cases h
  | true =>
   rw [h1, h2] at h
   exact (List.mem_filter.1 h).1
theorem runsS_len (g : Img) (sts : List (List (List Int))) (most : Int) (h : g.h.toNat ≤ 640) (hw : g.w.toNat ≤ 640) : (runsS g sts most).1.length ≤ 409600 := by
 unfold runsS
 cases h1 : (g.err == 0)
 ·simp
 cases h2 : sts.all (fitsB g.w.toNat g.h.toNat)
 ·simp
 ·have h3 := allR_len (colO g) g.h.toNat g.w.toNat
  have h4 := Nat.mul_le_mul hw h
  have h5 := List.length_filter_le (selR (drawL g.w.toNat g.h.toNat sts) g.w.toNat most) (allR (colO g) g.h.toNat g.w.toNat)
  simp only [cond_true]
  omega
theorem runsS_bad {g : Img} {sts : List (List (List Int))} {most : Int} (h : (g.err == 0) = false) : ((runsS g sts most).2 == 0) = false := by
 unfold runsS
 rw [h]
 exact h
def cutP (rs : List RunT) (a i x s y k : Nat) : Bool := ((rs.take i).any fun r => inR r (k % a) (k / a)) || (k % a == x && (decide (s ≤ k / a) && decide (k / a < y)))
theorem cutP_next {rs : List RunT} {a i x s y : Nat} (hx : x < a) (hs : s ≤ y) (k : Nat) : cutP rs a i x s (y + 1) k = true ↔ cutP rs a i x s y k = true ∨ k = y * a + x := by
 simp only [cutP, Bool.or_eq_true, Bool.and_eq_true, decide_eq_true_eq, beq_iff_eq]
 obtain ⟨e1, e2⟩ := rct_at (y := y) hx
 constructor
 ·rintro (h | ⟨h1, h2, h3⟩)
  ·exact Or.inl (Or.inl h)
  ·by_cases h4 : k / a < y
   ·exact Or.inl (Or.inr ⟨h1, h2, h4⟩)
   ·exact Or.inr (div_inj (a := a) (by rw [e1, h1]) (by rw [e2]; omega))
 ·rintro ((h | ⟨h1, h2, h3⟩) | h)
  ·exact Or.inl h
  ·exact Or.inr ⟨h1, h2, by omega⟩
  ·subst h; exact Or.inr ⟨e1, by rw [e2]; exact hs, by rw [e2]; omega⟩
theorem cutP_start (rs : List RunT) (a i x s k : Nat) : cutP rs a i x s s k = ((rs.take i).any fun r => inR r (k % a) (k / a)) := by
 unfold cutP
 have : (k % a == x && (decide (s ≤ k / a) && decide (k / a < s))) = false := by
  by_cases h : s ≤ k / a
  ·rw [decide_eq_false (p := k / a < s) (by omega)]; simp
  ·rw [decide_eq_false h]; simp
 rw [this, Bool.or_false]
theorem cutP_done {rs : List RunT} {a i x s t : Nat} (hi : i < rs.length) (hr : rs[i] = ((x : Int), (s : Int), (t : Int))) (k : Nat) : cutP rs a i x s (t + 1) k = ((rs.take (i + 1)).any fun r => inR r (k % a) (k / a)) := by
 unfold cutP
 rw [List.take_succ_eq_append_getElem hi, List.any_append, hr]
 simp only [List.any_cons, List.any_nil, Bool.or_false, inR]
 congr 1
 rw [Bool.eq_iff_iff]
 simp only [Bool.and_eq_true, decide_eq_true_eq, beq_iff_eq]
 omega
theorem K_Remove {w h most : Int} {m : Nat} {p q : AVal} {H : AHeap} {l : List UInt8} {cells : List AVal} {sts : List (List (List Int))} [hp : BytesI H p l] [hq : StavesI H q m cells sts] (hm : m ≤ 1000) : Con ext prog 10 38 [.agg [.int .i64 w, .int .i64 h, p], q, .int .i64 most] H fun v H' => InkRes H H' v (remS ⟨w, h, l⟩ sts most) := by
 refine con_of (show prog 38 = some c38 from rfl) rfl rfl fun n hn => ?_
 have hsl := hq.sl
 haveI := hsl.one
 haveI := hp.one
 obtain ⟨R, hR⟩ : ∃ R, remS ⟨w, h, l⟩ sts most = R := ⟨_, rfl⟩
 rw [hR]
 repeat first
  | refine mI ?_
  | (refine mv ?_)
  | (refine Fo.ldN rfl rfl (by simp only [↓nrmL, nrmZ, Nat.reduceEqDiff, ↓reduceIte, Nat.reduceAdd, Int.reduceBEq, Int.reduceBNe]; rfl) ?_)
  | refine bA ?_
  | refine nw ?_
  | refine nl hKF ?_
  | refine sq ?_
  | refine rg fun KF hKF => ?_
 refine WpO.do (WpX.conD hn rfl rfl (by simp only [↓nrmL, nrmZ, Nat.reduceEqDiff, ↓reduceIte, Nat.reduceAdd, Int.reduceBEq, Int.reduceBNe, List.map] <;> rfl) (K_Runs (p := p) (q := q) (l := l) (sts := sts) (hq := hq.ext Ext0.ext) hm) fun v H3 h5 => ?_)
 obtain ⟨q2, e1, hq2, hfq2, hxq2⟩ := h5
 subst e1
 haveI : ExtI _ H3 := ⟨hxq2⟩
 haveI := hq2.sl.one
 cases h0 : ((runsS ⟨w, h, l⟩ sts most).2 == 0)
 ·have e1 : remS ⟨w, h, l⟩ sts most = (.zero, (runsS ⟨w, h, l⟩ sts most).2) := by simp only [remS, h0, cond_false]
  rw [e1] at hR
  subst hR
  repeat first
   | refine mI ?_
   | refine mT ?_
   | (refine mv ?_)
   | (refine bn rfl rfl rfl (by simp only [h0, bne]; rfl) ?_)
   | refine xt ?_
   | (refine ob (cs' := ?_) ?hc ?_; case hc => rfl)
   | (refine so rfl (rfl : _ = AVal.agg _) rfl rfl rfl (by simp only [↓nrmL, nrmZ, Nat.reduceEqDiff, ↓reduceIte, Nat.reduceAdd, Int.reduceBEq, Int.reduceBNe, h0, bne]; rfl) ?_)
   | refine nl hKF ?_
   | refine sq ?_
   | refine rg fun KF hKF => ?_
   | refine ct rfl ?_
   | refine rt ?_
   | dsimp only [cond_true, cond_false]
  refine rz trivial ?_
  exact ⟨_, rfl, newZero⟩
 have he0 : (Img.err ⟨w, h, l⟩ == 0) = true := by
  cases hh : (Img.err ⟨w, h, l⟩ == 0)
  ·have := runsS_bad (sts := sts) (most := most) hh
   rw [h0] at this; cases this
  ·rfl
 obtain ⟨a, b, rfl, rfl, ok⟩ := ok_of he0
 have ha := ok.wa
 have hb := ok.hb
 have hlen := ok.len
 have hab : a * b ≤ 640 * 640 := Nat.mul_le_mul ha hb
 obtain ⟨C, hC⟩ : ∃ C, (runsS ⟨a, b, l⟩ sts most).1 = C := ⟨_, rfl⟩
 have hCl : C.length ≤ 409600 := by rw [← hC]; exact runsS_len _ _ _ (by simpa using hb) (by simpa using ha)
 have hCm : ∀ r ∈ C, r ∈ allR (colO ⟨a, b, l⟩) b a := fun r hr => by rw [← hC] at hr; exact runsS_mem hr
 have e1 : remS ⟨a, b, l⟩ sts most = (⟨a, b, cutL l a (a * b) C⟩, 0) := by simp only [remS, h0, cond_true, Int.toNat_natCast, hC]
 rw [e1] at hR
 subst hR
 rw [hC] at hq2
 have hbne : ((0 : Int) != 0) = false := rfl
 have hz : (runsS ⟨a, b, l⟩ sts most).2 = 0 := by simpa using h0
 simp only [hz, hbne]
 repeat first
  | refine mI ?_
  | refine mT ?_
  | (refine mv ?_)
  | (refine Fo.ldN rfl rfl (by simp only [↓nrmL, nrmZ, Nat.reduceEqDiff, ↓reduceIte, Nat.reduceAdd, Int.reduceBEq, Int.reduceBNe, hz, hbne]; rfl) ?_)
  | (refine bn rfl rfl rfl (by simp only [hz, hbne]; rfl) ?_)
  | refine xt ?_
  | refine nl hKF ?_
  | refine sq ?_
  | refine rg fun KF hKF => ?_
  | refine cf rfl ?_
  | refine sk ?_
 refine WpO.do (WpX.conD hn rfl rfl (by simp only [↓nrmL, nrmZ, Nat.reduceEqDiff, ↓reduceIte, Nat.reduceAdd, Int.reduceBEq, Int.reduceBNe, List.map] <;> rfl) (K_stTwin (l := l) (by omega)) fun v H6 h5 => ?_)
 obtain ⟨o, e2, ho, hfo, hwo, hxo⟩ := h5
 subst e2
 dsimp only at ho
 haveI : ExtI _ H6 := ⟨hxo⟩
 haveI := ho.one
 haveI : RunsI H3 q2 C := hq2.sl
 refine nw ?_
 refine so rfl (rfl : _ = AVal.agg _) rfl rfl rfl (by simp only [↓nrmL, nrmZ, Nat.reduceEqDiff, ↓reduceIte, Nat.reduceAdd, Int.reduceBEq, Int.reduceBNe]; rfl) ?_
 refine nl hKF ?_
 refine sq ?_
 refine sq ?_
 refine rg fun KF hKF => ?_
 refine mv ?_
 refine ln (by simp only [↓nrmL, nrmK, Nat.reduceEqDiff, ↓reduceIte]; rfl) ?_
 refine mI ?_
 refine nl hKF ?_
 refine Wp.block ?_
 dsimp only [cond_true, cond_false]
 refine Wp.loopS [12, 13, 29, 30, 31, 32, 33, 34, 35, 36, 37, 38, 39, 40, 41, 42, 43, 44, 45, 46, 47, 48, 49, 50, 51] (fun i : Nat => [(29, .int .i64 i)]) (fun K i H7 => i ≤ C.length ∧ BytesI H7 o (mixP (fun k => (C.take i).any fun r => inR r (k % a) (k / a)) (fun _ => 0) (fun k => l.getD k 0) (a * b)) ∧ WrS H7 o ∧ ExtP0 K H7 o) (fun i => C.length - i) 0 rfl (fun _ => rfl) ⟨rfl, trivial⟩ ⟨Nat.zero_le _, ?_, inferInstance, inferInstance⟩ (by unfold fuel0 at hn; omega) ?_
 ·have e0 : mixP (fun k => (C.take 0).any fun r => inR r (k % a) (k / a)) (fun _ => 0) (fun k => l.getD k 0) (a * b) = l := by
   apply List.ext_getElem
   ·simp [mixP, hlen]
   ·intro j h1 h2
    simp [mixP, List.getD_eq_getElem?_getD, List.getElem?_eq_getElem h2]
  rw [e0]; infer_instance
 rintro i g H7 ⟨hi, hb7, hw7, ⟨hx7⟩⟩
 haveI := hx7
 simp only [↓nrmL, nrmZ, Nat.reduceEqDiff, ↓reduceIte, Nat.reduceAdd, Int.reduceBEq, Int.reduceBNe]
 cases hc : decide ((i : Int) < (C.length : Int))
 ·have hil : i = C.length := by have := of_decide_eq_false hc; omega
  rw [hil, List.take_length] at hb7
  repeat first
   | refine mI ?_
   | (refine Fo.ldN rfl rfl (by simp only [↓nrmL, nrmZ, Nat.reduceEqDiff, ↓reduceIte, Nat.reduceAdd, Int.reduceBEq, Int.reduceBNe, hc]; rfl) ?_)
   | (refine bn rfl rfl rfl (by simp only [hc]; rfl) ?_)
   | (refine so rfl (rfl : _ = AVal.agg _) rfl rfl rfl (by simp only [↓nrmL, nrmZ, Nat.reduceEqDiff, ↓reduceIte, Nat.reduceAdd, Int.reduceBEq, Int.reduceBNe, hc]; rfl) ?_)
   | refine nl hKF ?_
   | refine sq ?_
   | refine rg fun KF hKF => ?_
   | refine cf rfl ?_
   | refine rt ?_
   | refine xi ?_
   | dsimp only [cond_true, cond_false]
  refine rz trivial ?_
  exact ⟨_, rfl, o, rfl, (show BytesI _ o (cutL l a (a * b) C) from inferInstance), hfo.weak, inferInstance, Ext0.ext⟩
 have hil : i < C.length := by have := of_decide_eq_true hc; omega
 have hwi := wa1 (a := i) (by omega)
 obtain ⟨x, s, hxa, hsb, hst, hr⟩ := mem_allR.1 (hCm _ (List.getElem_mem hil))
 obtain ⟨k1, k2, k3, k4⟩ := endB_spec (p := colO ⟨a, b, l⟩ x) hsb (start_p hst).1
 obtain ⟨t, htd⟩ : ∃ t, endB (colO ⟨a, b, l⟩ x) b s = t := ⟨_, rfl⟩
 rw [htd] at k1 k2
 have hr2 : C[i] = ((x : Int), (s : Int), (t : Int)) := by rw [hr, runV, htd]
 have hcg := cellsR_get (l := C) (i := i) hil
 have hget : C.getD i run0 = C[i] := by simp [hil]
 rw [hget, hr2] at hcg
 repeat first
  | (refine bn rfl rfl rfl (by simp only [hc]; rfl) ?_)
  | (refine Fo.idx (by simp only [↓nrmL, nrmK, Nat.reduceEqDiff, ↓reduceIte]; rfl) rfl ?_ (by simp only [↓nrmL, nrmZ, Nat.reduceEqDiff, ↓reduceIte, Nat.reduceAdd, Int.reduceBEq, Int.reduceBNe, hc]; rfl) ?_; (focus omega))
  | refine nl hKF ?_
  | refine sq ?_
  | refine rg fun KF hKF => ?_
  | refine ct rfl ?_
  | refine sk ?_
  | refine Wp.block ?_
 refine WpO.do (WpX.ldNP (p := q2) (j := i * 3) (m := 3) rfl (by decide) (by rw [cellsR_length]; omega) hcg ?_)
 refine nw ?_
 refine so rfl (rfl : _ = AVal.agg _) rfl rfl rfl (by simp only [↓nrmL, nrmZ, Nat.reduceEqDiff, ↓reduceIte, Nat.reduceAdd, Int.reduceBEq, Int.reduceBNe]; rfl) ?_
 refine nl hKF ?_
 refine sq ?_
 refine rg fun KF hKF => ?_
 refine fd ?_
 refine Fo.ld rfl rfl ?_
 refine mI ?_
 refine nl hKF ?_
 refine Wp.block ?_
 dsimp only [cond_true, cond_false]
 refine Wp.loopS [13, 35, 36, 37, 38, 39, 40, 41, 42, 43, 44, 45, 46, 47, 48, 49, 50] (fun y : Nat => [(13, .int .i64 y)]) (fun K y H8 => s ≤ y ∧ y ≤ t + 1 ∧ BytesI H8 o (mixP (cutP C a i x s y) (fun _ => 0) (fun k => l.getD k 0) (a * b)) ∧ WrS H8 o ∧ ExtP0 K H8 o) (fun y => t + 1 - y) s rfl (fun _ => rfl) ⟨rfl, trivial⟩ ⟨Nat.le_refl _, by omega, by rw [show (cutP C a i x s s) = (fun k => (C.take i).any fun r => inR r (k % a) (k / a)) from funext (cutP_start C a i x s)]; infer_instance, inferInstance, inferInstance⟩ (by unfold fuel0 at hn; omega) ?_
 rintro y g2 H8 ⟨hy1, hy2, hb8, hw8, ⟨hx8⟩⟩
 haveI := hx8
 simp only [↓nrmL, nrmZ, Nat.reduceEqDiff, ↓reduceIte, Nat.reduceAdd, Int.reduceBEq, Int.reduceBNe]
 cases hcy : decide ((y : Int) ≤ (t : Int))
 ·have hyt : y = t + 1 := by have := of_decide_eq_false hcy; omega
  subst hyt
  rw [show (cutP C a i x s (t + 1)) = (fun k => (C.take (i + 1)).any fun r => inR r (k % a) (k / a)) from funext (cutP_done hil hr2)] at hb8
  repeat first
   | refine mI ?_
   | refine fd ?_
   | refine Fo.ld rfl rfl ?_
   | (refine bn rfl rfl rfl (by simp only [hcy]; rfl) ?_)
   | refine b0 ?_
   | refine nl hKF ?_
   | refine sq ?_
   | refine rg fun KF hKF => ?_
   | refine cf rfl ?_
   | refine xi ?_
   | dsimp only [cond_true, cond_false]
  exact ⟨i + 1, by omega, ⟨by simp only [↓nrmL, nrmZ, Nat.reduceEqDiff, ↓reduceIte, Nat.reduceAdd, Int.reduceBEq, Int.reduceBNe]; rw [hwi], trivial⟩, by omega, inferInstance, inferInstance, inferInstance⟩
 have hyt : y ≤ t := by have := of_decide_eq_true hcy; omega
 have hlt := idx_lt hxa (show y < b by omega)
 have m1 : IntKind.i64.wrap ((y : Int) * (a : Int)) = ((y * a : Nat) : Int) := wm (by omega)
 have m2 : IntKind.i64.wrap (((y * a : Nat) : Int) + (x : Int)) = ((y * a + x : Nat) : Int) := wa (by omega)
 have hwy := wa1 (a := y) (by omega)
 have hml := mixP_length (cutP C a i x s y) (fun _ => 0) (fun k => l.getD k 0) (a * b)
 repeat first
  | refine mI ?_
  | refine fd ?_
  | refine Fo.ld rfl rfl ?_
  | (refine bn rfl rfl rfl (by simp only [hcy, m1, m2]; rfl) ?_)
  | (refine Fo.idx (by simp only [↓nrmL, nrmK, Nat.reduceEqDiff, ↓reduceIte]; rfl) rfl ?_ (by simp only [↓nrmL, nrmZ, Nat.reduceEqDiff, ↓reduceIte, Nat.reduceAdd, Int.reduceBEq, Int.reduceBNe, hcy, m1, m2]; rfl) ?_; (focus omega))
  | refine nl hKF ?_
  | refine sq ?_
  | refine rg fun KF hKF => ?_
  | refine ct rfl ?_
  | refine sk ?_
  | refine Wp.block ?_
 refine WpO.do' (WpX.stB (0 : UInt8) rfl rfl rfl (by rw [hml]; omega) fun H9 hb9 hw9 hx9 => ?_)
 haveI := hx9
 rw [show (0 : UInt8) = (fun _ : Nat => (0 : UInt8)) (y * a + x) from rfl, mixP_set (Q := cutP C a i x s (y + 1)) fun k _ => cutP_next hxa hy1 k] at hb9
 repeat first
  | refine mI ?_
  | refine b0 ?_
  | refine nl hKF ?_
  | refine rg fun KF hKF => ?_
  | dsimp only [cond_true, cond_false]
 exact ⟨y + 1, by omega, ⟨by simp only [↓nrmL, nrmZ, Nat.reduceEqDiff, ↓reduceIte, Nat.reduceAdd, Int.reduceBEq, Int.reduceBNe]; rw [hwy], trivial⟩, by omega, by omega, hb9, hw9, inferInstance⟩
end Go.Am

namespace Go.Am
open Go
theorem inR_run {o : Nat → Nat → Bool} {len a x y s : Nat} : inR (runV o len a s) x y = true ↔ a = x ∧ s ≤ y ∧ y ≤ endB (o a) len s := by
  unfold inR runV
  simp only [Bool.and_eq_true, beq_iff_eq, decide_eq_true_eq]
  omega
theorem colO_nat {a b x y : Nat} {l : List UInt8} (hx : x < a) (hy : y < b) : colO ⟨a, b, l⟩ x y = (l.getD (y * a + x) 0 == 1) := inkB_nat hx hy
def selB (L : List UInt8) (a : Nat) (most : Int) (x s t : Nat) : Bool := decide ((t : Int) - (s : Int) < most) && touchB L a x s t
theorem selR_run {o : Nat → Nat → Bool} {L : List UInt8} {len a x s : Nat} {most : Int} : selR L a most (runV o len x s) = selB L a most x s (endB (o x) len s) := by
  unfold selR runV selB
  simp
theorem cut_at {a b x y : Nat} {l : List UInt8} {f : RunT → Bool} (hx : x < a) (hy : y < b) : (cutL l a (a * b) ((allR (colO ⟨a, b, l⟩) b a).filter f)).getD (y * a + x) 0 = if (∃ s, s < b ∧ startB (colO ⟨a, b, l⟩ x) s = true ∧ s ≤ y ∧ y ≤ endB (colO ⟨a, b, l⟩ x) b s ∧ f (runV (colO ⟨a, b, l⟩) b x s) = true) then 0 else l.getD (y * a + x) 0 := by
  have hlt := idx_lt hx hy
  obtain ⟨e1, e2⟩ := rct_at (y := y) hx
  unfold cutL mixP
  rw [List.getD_eq_getElem?_getD, List.getElem?_eq_getElem (by simpa using hlt), Option.getD_some]
  simp only [List.getElem_map, List.getElem_range, e1, e2]
  have key : (((allR (colO ⟨a, b, l⟩) b a).filter f).any fun r => inR r x y) = true ↔ (∃ s, s < b ∧ startB (colO ⟨a, b, l⟩ x) s = true ∧ s ≤ y ∧ y ≤ endB (colO ⟨a, b, l⟩ x) b s ∧ f (runV (colO ⟨a, b, l⟩) b x s) = true) := by
    rw [List.any_eq_true]
    constructor
    · rintro ⟨r, hr, h2⟩
      obtain ⟨h3, h4⟩ := List.mem_filter.1 hr
      obtain ⟨x', s, h5, h6, h7, rfl⟩ := mem_allR.1 h3
      obtain ⟨rfl, h8, h9⟩ := inR_run.1 h2
      exact ⟨s, h6, h7, h8, h9, h4⟩
    · rintro ⟨s, h1, h2, h3, h4, h5⟩
      exact ⟨_, List.mem_filter.2 ⟨mem_allR.2 ⟨x, s, hx, h1, h2, rfl⟩, h5⟩, inR_run.2 ⟨rfl, h3, h4⟩⟩
  by_cases h : (∃ s, s < b ∧ startB (colO ⟨a, b, l⟩ x) s = true ∧ s ≤ y ∧ y ≤ endB (colO ⟨a, b, l⟩ x) b s ∧ f (runV (colO ⟨a, b, l⟩) b x s) = true)
  · rw [if_pos h, if_pos (key.2 h)]
  · rw [if_neg h, if_neg (fun q => h (key.1 q))]
theorem cut_len (l : List UInt8) (a n : Nat) (rs : List RunT) : (cutL l a n rs).length = n := mixP_length _ _ _ _
theorem cut_ok {a b : Nat} {l : List UInt8} {rs : List RunT} (h : Ok a b l) : Ok a b (cutL l a (a * b) rs) := by
  refine ⟨h.wa, h.hb, cut_len _ _ _ _, ?_⟩
  unfold cutL mixP
  exact pxOk_map fun k hk => by
    split
    · exact Or.inl rfl
    · exact px_01 h.px k
theorem cut_run {a b x y s : Nat} {l L : List UInt8} {most : Int} (hok : Ok a b l) (hx : x < a) (hs : startB (colO ⟨a, b, l⟩ x) s = true) (hsb : s < b) (h1 : s ≤ y) (h2 : y ≤ endB (colO ⟨a, b, l⟩ x) b s) : (cutL l a (a * b) ((allR (colO ⟨a, b, l⟩) b a).filter (selR L a most))).getD (y * a + x) 0 = if selB L a most x s (endB (colO ⟨a, b, l⟩ x) b s) = true then 0 else 1 := by
  obtain ⟨k1, k2, k3, k4⟩ := endB_spec (p := colO ⟨a, b, l⟩ x) hsb (start_p hs).1
  have hy : y < b := by omega
  rw [cut_at hx hy]
  have hp := k3 y h1 h2
  rw [colO_nat hx hy] at hp
  have hp1 : l.getD (y * a + x) 0 = 1 := by simpa using hp
  by_cases h : selB L a most x s (endB (colO ⟨a, b, l⟩ x) b s) = true
  · rw [if_pos h, if_pos ⟨s, hsb, hs, h1, h2, by rw [selR_run]; exact h⟩]
  · rw [if_neg h, if_neg, hp1]
    rintro ⟨s', a1, a2, a3, a4, a5⟩
    obtain rfl := run_unique hs a2 hsb a1 h1 h2 a3 a4
    rw [selR_run] at a5
    exact h a5
theorem cut_paper {a b x y : Nat} {l L : List UInt8} {most : Int} (hx : x < a) (hy : y < b) (h : l.getD (y * a + x) 0 = 0) : (cutL l a (a * b) ((allR (colO ⟨a, b, l⟩) b a).filter (selR L a most))).getD (y * a + x) 0 = 0 := by
  rw [cut_at hx hy]
  split
  · rfl
  · exact h
theorem cut_kept {a b x : Nat} {l L : List UInt8} {most : Int} (hok : Ok a b l) (hx : x < a) : Kept (colO ⟨a, b, l⟩ x) (selB L a most x) b (colO ⟨a, b, cutL l a (a * b) ((allR (colO ⟨a, b, l⟩) b a).filter (selR L a most))⟩ x) := by
  intro y hy
  rw [colO_nat hx hy, cut_at hx hy, colO_nat hx hy]
  constructor
  · intro h
    by_cases hh : (∃ s, s < b ∧ startB (colO ⟨a, b, l⟩ x) s = true ∧ s ≤ y ∧ y ≤ endB (colO ⟨a, b, l⟩ x) b s ∧ selR L a most (runV (colO ⟨a, b, l⟩) b x s) = true)
    · rw [if_pos hh] at h; exact absurd h (by decide)
    · rw [if_neg hh] at h
      refine ⟨h, fun s h1 h2 h3 h4 => ?_⟩
      cases h5 : selB L a most x s (endB (colO ⟨a, b, l⟩ x) b s)
      · rfl
      · exact absurd ⟨s, h2, h1, h3, h4, by rw [selR_run]; exact h5⟩ hh
  · rintro ⟨h1, h2⟩
    rw [if_neg]
    · exact h1
    · rintro ⟨s, b1, b2, b3, b4, b5⟩
      rw [selR_run, h2 s b2 b1 b3 b4] at b5
      cases b5
theorem cut_twice {a b : Nat} {l L : List UInt8} {most : Int} (hok : Ok a b l) {C : List UInt8} (hC : cutL l a (a * b) ((allR (colO ⟨a, b, l⟩) b a).filter (selR L a most)) = C) : cutL C a (a * b) ((allR (colO ⟨a, b, C⟩) b a).filter (selR L a most)) = C := by
  have hk := cut_kept (L := L) (most := most) hok (x := 0)
  have hno : (allR (colO ⟨a, b, C⟩) b a).filter (selR L a most) = [] := by
    rw [List.filter_eq_nil_iff]
    intro r hr
    obtain ⟨x, s, h1, h2, h3, rfl⟩ := mem_allR.1 hr
    have hk := cut_kept (L := L) (most := most) hok h1
    rw [hC] at hk
    rw [selR_run, kept_none hk h3 h2]
    decide
  rw [hno]
  have hl : C.length = a * b := by rw [← hC]; exact cut_len _ _ _ _
  unfold cutL mixP
  apply List.ext_getElem
  · simp [hl]
  · intro j h1 h2
    simp [List.getD_eq_getElem?_getD, List.getElem?_eq_getElem h2]
theorem end_of {p : Nat → Bool} {len s t : Nat} (hs : s < t) (ht : t ≤ len) (hall : ∀ z, s ≤ z → z < t → p z = true) (hno : t < len → p t = false) : endB p len s + 1 = t := by
  have : endB p len s = t - 1 := endB_eq (by omega) (fun h => by rw [show t - 1 + 1 = t by omega]; exact hno (by omega)) (by omega) (fun z h1 h2 => hall z h1 (by omega))
  omega
end Go.Am

namespace Go.Am
open Go
def cellsO (l : List Bool) : List AVal := l.map .bool
theorem mk_bools (n : Nat) : (List.replicate n [AVal.bool false]).flatten = cellsO (List.replicate n false) := by
  induction n with
  | zero => rfl
  | succ n ih => rw [List.replicate_succ, List.flatten_cons, ih]; rfl
abbrev BoolsI (H : AHeap) (p : AVal) (l : List Bool) : Prop := SliceAt H p 1 l.length (cellsO l)
theorem get_bools {l : List Bool} {i : Nat} (h : i < l.length) : (cellsO l)[i]? = some (.bool (l.getD i false)) := by simp [cellsO, h]
section
variable {call : ACall} {fr : AFrame} {H : AHeap} {K : AVal → AHeap → Prop}
theorem WpX.mkO {e : TypeId} {x y : ROpd} {k k' : IntKind} {a : Int} {n : Nat} (hx : x.ev fr = .int k a) (hy : y.ev fr = .int k' a) (ha : a = n) (hn : n ≤ 2 ^ 40)
    (h : ∀ p H1, BoolsI H1 p (List.replicate n false) → FreshS H p → WrS H1 p → ExtI H H1 → K p H1) : WpX (.makeSlice e [.bool false] 1 x y) call fr H K := by
  subst ha
  obtain ⟨h1, h2, h3⟩ := mk_facts (H := H) (e := 2 * e) (mk_bools n)
  refine ⟨_, _, exec_mk hx hy (by omega), ?_⟩
  rw [Int.toNat_natCast, mk_bools]
  refine h _ _ ?_ h2 h3 ⟨(Ext.refl H).push _⟩
  unfold BoolsI
  rw [List.length_replicate]
  exact h1
theorem WpX.stO {a x : ROpd} {p : AVal} {j : Nat} {l : List Bool} {b : Bool} (ha : a.ev fr = .ptr (rowOf p) (offOf p + j)) (hx : x.ev fr = .bool b) [s : BoolsI H p l] [w : WrS H p] (hj : j < l.length)
    (h : ∀ H1, BoolsI H1 p (l.set j b) → WrS H1 p → ExtP H H1 p → K aundef H1) : WpX (.store 1 a x) call fr H K := by
  refine WpX.stP ha hx rfl rfl (by rw [cellsO, List.length_map]; exact hj) fun H1 h1 h2 h3 => h H1 ?_ h2 h3
  have e : (cellsO l).set j (.bool b) = cellsO (l.set j b) := by simp [cellsO, List.map_set]
  rw [e] at h1
  unfold BoolsI
  rw [List.length_set]
  exact h1
end
end Go.Am

namespace Go.Am
open Go
structure DrawnB (L : List Bool) (n : Nat) (D : Nat → Prop) : Prop where
  len : L.length = n
  it : ∀ j, j < n → (L.getD j false = true ∧ D j) ∨ (L.getD j false = false ∧ ¬ D j)
theorem DrawnB.congr {L : List Bool} {n : Nat} {D E : Nat → Prop} (h : DrawnB L n D) (hE : ∀ j, D j ↔ E j) : DrawnB L n E := ⟨h.len, fun j hj => by rw [← hE j]; exact h.it j hj⟩
theorem DrawnB.set {L : List Bool} {n k : Nat} {D E : Nat → Prop} (h : DrawnB L n D) (hk : k < n) (hE : ∀ j, E j ↔ D j ∨ j = k) : DrawnB (L.set k true) n E := by
  refine ⟨by rw [List.length_set]; exact h.len, fun j hj => ?_⟩
  rw [hE j]
  by_cases e : j = k
  · subst e
    left
    exact ⟨by rw [List.getD_eq_getElem?_getD, List.getElem?_set_self (by rw [h.len]; exact hk)]; rfl, Or.inr rfl⟩
  · rw [List.getD_eq_getElem?_getD, List.getElem?_set_ne (fun q => e q.symm), ← List.getD_eq_getElem?_getD]
    rcases h.it j hj with ⟨h1, h2⟩ | ⟨h1, h2⟩
    · exact Or.inl ⟨h1, Or.inl h2⟩
    · exact Or.inr ⟨h1, fun q => q.elim h2 e⟩
theorem DrawnB.zero {n a : Nat} {sts : List (List (List Int))} : DrawnB (List.replicate n false) n (Dr a sts 0 0 0) := ⟨List.length_replicate, fun j hj => Or.inr ⟨by rw [List.getD_eq_getElem?_getD, List.getElem?_replicate, if_pos hj]; rfl, Dr.none⟩⟩
theorem drawL_drawn (a b : Nat) (sts : List (List (List Int))) : Drawn (drawL a b sts) (a * b) (Dr a sts sts.length 0 0) := by
  classical
  refine ⟨by simp [drawL], fun j hj => ?_⟩
  have : (drawL a b sts).getD j 0 = if Dr a sts sts.length 0 0 j then 1 else 0 := by
    unfold drawL
    rw [List.getD_eq_getElem?_getD, List.getElem?_eq_getElem (by simpa using hj), Option.getD_some]
    simp
  rw [this]
  by_cases h : Dr a sts sts.length 0 0 j
  · exact Or.inl ⟨by rw [if_pos h], h⟩
  · exact Or.inr ⟨by rw [if_neg h], h⟩
theorem touch_met {a b x y to : Nat} {L : List UInt8} {B : List Bool} {D : Nat → Prop} {met : Bool} (hL : Drawn L (a * b) D) (hB : DrawnB B (a * b) D) (hx : x < a) (hy : y < to) (hto : to ≤ b) (hm : met = true ↔ ∃ z, y ≤ z ∧ z < to ∧ B.getD (z * a + x) false = true) : touchB L a x y (to - 1) = met := by
  cases met with
  | true =>
    obtain ⟨z, h1, h2, h3⟩ := hm.1 rfl
    have hlt := idx_lt hx (show z < b by omega)
    refine touch_yes h1 (by omega) ?_
    rcases hB.it _ hlt with ⟨a1, a2⟩ | ⟨a1, a2⟩
    · rcases hL.it _ hlt with ⟨b1, b2⟩ | ⟨b1, b2⟩
      · rw [b1]; rfl
      · exact absurd a2 b2
    · rw [h3] at a1; cases a1
  | false =>
    refine touch_no fun z h1 h2 => ?_
    have hlt := idx_lt hx (show z < b by omega)
    rcases hL.it _ hlt with ⟨b1, b2⟩ | ⟨b1, b2⟩
    · rcases hB.it _ hlt with ⟨a1, a2⟩ | ⟨a1, a2⟩
      · have := hm.2 ⟨z, h1, by omega, a1⟩
        cases this
      · exact absurd b2 a2
    · rw [b1]; rfl
theorem remS_ok {a b : Nat} {l : List UInt8} {sts : List (List (List Int))} {most : Int} (h : Ok a b l) (hf : sts.all (fitsB a b) = true) : remS ⟨a, b, l⟩ sts most = (⟨a, b, cutL l a (a * b) ((allR (colO ⟨a, b, l⟩) b a).filter (selR (drawL a b sts) a most))⟩, 0) := by
  have h1 : runsS ⟨a, b, l⟩ sts most = ((allR (colO ⟨a, b, l⟩) b a).filter (selR (drawL a b sts) a most), 0) := by
    simp only [runsS, err_ok h, cond_true, Int.toNat_natCast, hf]
  simp only [remS, h1, Int.toNat_natCast]
  rfl
theorem px_or {a b : UInt8} (ha : a = 0 ∨ a = 1) (hb : b = 0 ∨ b = 1) : a ||| b = 0 ∨ a ||| b = 1 := by
  rcases ha with rfl | rfl <;> rcases hb with rfl | rfl <;> decide
end Go.Am

namespace Go.Am
open Go
attribute [local irreducible] Wp WpO WpX WpE
theorem stv_ext {H K H2 : AHeap} {sp gp : AVal} {ls : List (List Int)} {B : Nat} (h : StvR H sp ls B) (x : Ext H K) (hB : RowLt gp B) (y : ExtP K H2 gp) : StvR H2 sp ls B := h.keep (Nat.le_trans x.n y.n) fun s cs e hs hb hg he => by
 have := x.n
 rw [y.get s (by omega) ⟨fun r _ _ _ _ e => by have := hB.lt _ _ _ _ _ e; omega⟩, x.get s hs]
end Go.Am

namespace Go.Am
open Go
attribute [local irreducible] Wp WpO WpX WpE
theorem u8m41 (c : UInt8) : IntKind.i64.wrap ((c.toNat : Int).tmod 41) = ((c.toNat % 41 : Nat) : Int) := u8m c 41 (by decide)
theorem get_b' {LB : List Bool} {x y w n : Nat} (hl : LB.length = n) (h : y * w + x < n) : (cellsO LB)[y * w + x]? = some (.bool (LB.getD (y * w + x) false)) := get_bools (by omega)
theorem K_StaveHarm {c1 c2 c5 : UInt8} {pb pc : AVal} {H : AHeap} {bends bits : List UInt8} [hpb : BytesI H pb bends] [hpc : BytesI H pc bits] : Con ext prog 12 9 [.int .u8 (c1.toNat : Int), .int .u8 (c2.toNat : Int), pb, pc, .int .u8 (c5.toNat : Int)] H fun v H' => v = .bool true ∧ Ext H H' := by
 refine con_of (show prog 9 = some c9 from rfl) rfl rfl fun n0 hn => ?_
 haveI := hpb.one
 haveI := hpc.one
 repeat first
  | refine mI ?_
  | refine mB ?_
  | (refine mv ?_)
  | refine nl hKF ?_
  | refine sq ?_
  | refine rg fun KF hKF => ?_
 refine WpO.do (WpX.conD hn rfl rfl (by simp only [↓nrmL, nrmZ, Nat.reduceEqDiff, ↓reduceIte, Nat.reduceAdd, Int.reduceBEq, Int.reduceBNe, List.map] <;> rfl) (K_Wavy (c := c1) (c2 := c2) (p := pb) (bends := bends)) fun v H1 h5 => ?_)
 obtain ⟨w, h, n, L, lo, hi, P, gp, op, cells, B, R⟩ := h5
 obtain ⟨rfl, w1, w2, n1, n2, hW, lo1, hi1, lo2, hi2, eh, ok, hgp, hwr, hfr, hop, hst, B1, B2, B3, hext⟩ := R
 haveI : ExtI H H1 := ⟨hext⟩
 haveI := hgp
 haveI := hwr
 haveI := hfr
 haveI := hgp.one
 haveI := hop
 haveI := hop.one
 have hlenP := ok.len
 have hpxP := ok.px
 have hm1 : w * h ≤ 159 * 640 := Nat.mul_le_mul (by omega) ok.hb
 refine mT ?_
 refine xt ?_
 refine xt ?_
 refine nw ?_
 refine so rfl (rfl : _ = AVal.agg _) rfl rfl rfl (by simp only [↓nrmL, nrmZ, Nat.reduceEqDiff, ↓reduceIte, Nat.reduceAdd, Int.reduceBEq, Int.reduceBNe]; rfl) ?_
 refine mv ?_
 refine nl hKF ?_
 refine sq ?_
 refine sq ?_
 refine rg fun KF hKF => ?_
 refine fd ?_
 refine Fo.ld rfl rfl ?_
 refine ln (by simp only [↓nrmL, nrmK, Nat.reduceEqDiff, ↓reduceIte]; rfl) ?_
 refine mI ?_
 refine nl hKF ?_
 refine Wp.block ?_
 dsimp only [cond_true, cond_false]
 refine Wp.loopS [13, 14, 41, 42, 43, 44, 45, 46, 47, 48, 49, 50, 51, 52, 53, 54, 55, 56, 57, 58, 59, 60, 61, 62, 63, 64, 65, 66, 67] (fun i : Nat => [(41, .int .i64 i)]) (fun K i H2 => i ≤ w * h ∧ ∃ P, BytesI H2 gp P ∧ P.length = w * h ∧ pxOk P = true ∧ WrS H2 gp ∧ ExtP0 K H2 gp) (fun i => w * h - i) 0 rfl (fun _ => rfl) ⟨rfl, trivial⟩ ⟨Nat.zero_le _, P, inferInstance, hlenP, hpxP, inferInstance, inferInstance⟩ (by unfold fuel0 at hn; omega) ?_
 rintro i g2 H2 ⟨hi2', P2, hP2, hPl2, hPo2, hPw2, ⟨hx2⟩⟩
 haveI := hx2
 simp only [↓nrmL, nrmZ, Nat.reduceEqDiff, ↓reduceIte, Nat.reduceAdd, Int.reduceBEq, Int.reduceBNe]
 cases hc : decide ((i : Int) < ((P.length : Nat) : Int))
 rotate_left
 ·have hil : i < P.length := by have := of_decide_eq_true hc; omega
  have hwi := wa1 (a := i) (by omega)
  have r1 : (i : Int).tmod 1201 = ((i % 1201 : Nat) : Int) := rfl
  obtain ⟨k, hk⟩ : ∃ k, i % 1201 = k := ⟨_, rfl⟩
  have q1 := wq8 (i := k) (by omega)
  cases hc2 : decide (((k / 8 : Nat) : Int) < ((bits.length : Nat) : Int))
  ·skip
   repeat first
    | refine mI ?_
    | (refine mv ?_)
    | (refine bn rfl rfl rfl (by simp only [↓nrmL, nrmZ, Nat.reduceEqDiff, ↓reduceIte, Nat.reduceAdd, Int.reduceBEq, Int.reduceBNe, hc, r1, hk, q1, hc2]; rfl) ?_)
    | refine b0 ?_
    | (refine ln (by simp only [↓nrmL, nrmK, Nat.reduceEqDiff, ↓reduceIte]; rfl) ?_)
    | refine nl hKF ?_
    | refine sq ?_
    | refine rg fun KF hKF => ?_
    | refine ct rfl ?_
    | refine cf rfl ?_
    | refine sk ?_
    | refine Wp.block ?_
    | dsimp only [cond_true, cond_false]
   refine ⟨i + 1, by omega, ⟨by simp only [↓nrmL, nrmZ, Nat.reduceEqDiff, ↓reduceIte, Nat.reduceAdd, Int.reduceBEq, Int.reduceBNe]; rw [hwi], trivial⟩, by omega, P2, inferInstance, hPl2, hPo2, inferInstance, inferInstance⟩
  have hkb : k / 8 < bits.length := by have := of_decide_eq_true hc2; omega
  have hil2 : i < P2.length := by omega
  repeat first
   | refine mI ?_
   | (refine mv ?_)
   | (refine bn rfl rfl rfl (by simp only [↓nrmL, nrmZ, Nat.reduceEqDiff, ↓reduceIte, Nat.reduceAdd, Int.reduceBEq, Int.reduceBNe, hc, r1, hk, q1, hc2]; rfl) ?_)
   | (refine ln (by simp only [↓nrmL, nrmK, Nat.reduceEqDiff, ↓reduceIte]; rfl) ?_)
   | refine nl hKF ?_
   | refine sq ?_
   | refine rg fun KF hKF => ?_
   | refine ct rfl ?_
   | refine sk ?_
   | refine Wp.block ?_
   | dsimp only [cond_true, cond_false]
  refine Fr.dregion0 rfl fun KF hKF => ?_
  repeat first
   | (refine Er rfl (exec_ld rfl rfl) rfl ?_)
   | (refine Fe.pure rfl rfl (by simp only [↓nrmL, nrmZ, Nat.reduceEqDiff, ↓reduceIte, Nat.reduceAdd, Int.reduceBEq, Int.reduceBNe, q1, wr8, bitC_eq]; rfl) ?_)
   | refine Fe.pure rfl rfl rfl ?_
   | (refine Fe.pure rfl (exec_idxP (by (try simp only [↓nrmL, nrmZ, Nat.reduceEqDiff, ↓reduceIte, Nat.reduceAdd, Int.reduceBEq, Int.reduceBNe, q1, wr8, bitC_eq]); rfl) rfl ?_) (by simp only [↓nrmL, nrmZ, Nat.reduceEqDiff, ↓reduceIte, Nat.reduceAdd, Int.reduceBEq, Int.reduceBNe, q1, wr8, bitC_eq]; rfl) ?_; (focus omega))
   | (refine Er rfl (exec_ldB rfl (by omega)) rfl ?_)
  refine WpE.stB (P2[i] ||| bitC _) rfl rfl rfl (bits_or _ _) hil2 fun H4 hb4 hw4 hx4 => ar ?_
  haveI := hx4
  refine WpE.nil (hKF _ _ ?_)
  refine rg fun KF hKF => ?_
  refine b0 ?_
  refine mI ?_
  refine nl hKF ?_
  dsimp only [cond_true, cond_false]
  exact ⟨i + 1, by omega, ⟨by simp only [↓nrmL, nrmZ, Nat.reduceEqDiff, ↓reduceIte, Nat.reduceAdd, Int.reduceBEq, Int.reduceBNe]; rw [hwi], trivial⟩, by omega, _, hb4, by rw [List.length_set]; exact hPl2, pxOk_set hPo2 (px_or (by have := px_01 hPo2 i; rwa [List.getD_eq_getElem?_getD, List.getElem?_eq_getElem hil2, Option.getD_some] at this) (bitC_01 _)), hw4, inferInstance⟩
 have hil : i = P.length := by have := of_decide_eq_false hc; omega
 haveI sopgp : SepS op gp := ⟨fun r off len cap sz r' off' len' cap' sz' e e' => by have := B3 _ _ _ _ _ e; have := B2.lt _ _ _ _ _ e'; omega⟩
 obtain ⟨sts, hsts⟩ : ∃ sts, (List.range n).map (staveL lo L) = sts := ⟨_, rfl⟩
 have hstl : sts.length = n := by rw [← hsts]; simp
 have hsti : ∀ j (h : j < sts.length), sts[j] = staveL lo L j := fun j hj => by subst hsts; simp
 have hSt : StavesI H2 op n cells sts := ⟨hstl, inferInstance, fun j hj => by
  obtain ⟨sp, a1, a2⟩ := hst j (by omega)
  rw [hsti j hj]
  exact ⟨sp, a1, (stv_ext a2 Ext0.ext B2 hx2).lines⟩⟩
 have hfit : ∀ (j : Nat) (h' : j < sts.length), fitsB w h sts[j] = true := fun j hj => by
  rw [hsti j hj]; exact stave_fits w1 hW lo2 hi2 eh (by omega)
 have hall : sts.all (fitsB w h) = true := by
  rw [List.all_eq_true]
  intro s hs
  obtain ⟨j, hj, rfl⟩ := List.getElem_of_mem hs
  exact hfit j hj
 have hok2 : Ok w h P2 := ⟨ok.wa, ok.hb, hPl2, hPo2⟩
 obtain ⟨N, hN⟩ : ∃ N, c5.toNat % 41 = N := ⟨_, rfl⟩
 have hN41 : N < 41 := by rw [← hN]; exact Nat.mod_lt _ (by decide)
 have t41 := u8m41 c5
 rw [hN] at t41
 have eR := remS_ok (most := (N : Int)) hok2 hall
 obtain ⟨LL, hLL⟩ : ∃ LL, drawL w h sts = LL := ⟨_, rfl⟩
 have hDL := drawL_drawn w h sts
 rw [hLL] at eR hDL
 obtain ⟨C, hC⟩ : ∃ C, cutL P2 w (w * h) ((allR (colO ⟨w, h, P2⟩) h w).filter (selR LL w (N : Int))) = C := ⟨_, rfl⟩
 have hCl : C.length = w * h := by rw [← hC]; exact cut_len _ _ _ _
 have hCok : Ok w h C := by rw [← hC]; exact cut_ok hok2
 have htw := cut_twice hok2 hC
 have eR2 := remS_ok (most := (N : Int)) hCok hall
 rw [hLL, htw] at eR2
 rw [hC] at eR
 have b3 : ((w : Int) != (w : Int)) = false := by simp
 have b4 : ((h : Int) != (h : Int)) = false := by simp
 have b5 : (((C.length : Nat) : Int) != ((P2.length : Nat) : Int)) = false := by rw [hCl, hPl2]; simp
 repeat first
  | refine mI ?_
  | (refine mv ?_)
  | (refine Fo.ldN rfl rfl (by simp only [↓nrmL, nrmZ, Nat.reduceEqDiff, ↓reduceIte, Nat.reduceAdd, Int.reduceBEq, Int.reduceBNe, hc, t41]; rfl) ?_)
  | (refine bn rfl rfl rfl (by simp only [↓nrmL, nrmZ, Nat.reduceEqDiff, ↓reduceIte, Nat.reduceAdd, Int.reduceBEq, Int.reduceBNe, hc, t41]; rfl) ?_)
  | refine b0 ?_
  | (refine Fo.now rfl rfl (by simp only [↓nrmL, nrmZ, Nat.reduceEqDiff, ↓reduceIte, Nat.reduceAdd, Int.reduceBEq, Int.reduceBNe, hc, t41]; rfl) ?_)
  | refine nl hKF ?_
  | refine sq ?_
  | refine rg fun KF hKF => ?_
  | refine cf rfl ?_
  | refine xi ?_
 refine WpO.do (WpX.conD hn rfl rfl (by simp only [↓nrmL, nrmZ, Nat.reduceEqDiff, ↓reduceIte, Nat.reduceAdd, Int.reduceBEq, Int.reduceBNe, List.map] <;> rfl) (K_Remove (w := w) (h := h) (most := N) (p := gp) (q := op) (l := P2) (sts := sts) (hq := hSt.ext Ext0.ext) (by omega)) fun v H3 h5 => ?_)
 rw [eR] at h5
 obtain ⟨x3, e1, p3, e2, hp3, hf3, hw3, hx3⟩ := h5
 subst e1 e2
 dsimp only at hp3
 haveI : ExtI _ H3 := ⟨hx3⟩
 haveI := hp3.one
 simp only [b3, b4, b5]
 repeat first
  | refine oy ?_
  | refine mI ?_
  | refine mB ?_
  | refine mT ?_
  | refine fd ?_
  | refine Fo.ld rfl rfl ?_
  | (refine bn rfl rfl rfl (by simp only [↓nrmL, nrmZ, Nat.reduceEqDiff, ↓reduceIte, Nat.reduceAdd, Int.reduceBEq, Int.reduceBNe, b3, b4, b5]; rfl) ?_)
  | refine fB ?_
  | refine xt ?_
  | (refine ln (by simp only [↓nrmL, nrmK, Nat.reduceEqDiff, ↓reduceIte]; rfl) ?_)
  | refine nw ?_
  | (refine so rfl (rfl : _ = AVal.agg _) rfl rfl rfl (by simp only [↓nrmL, nrmZ, Nat.reduceEqDiff, ↓reduceIte, Nat.reduceAdd, Int.reduceBEq, Int.reduceBNe, b3, b4, b5]; rfl) ?_)
  | refine nl hKF ?_
  | refine sq ?_
  | refine rg fun KF hKF => ?_
  | refine cf rfl ?_
  | refine sk ?_
 refine WpO.do (WpX.mkO rfl rfl rfl (by omega) fun lp H4 hb4 hf4 hw4 hx4 => ?_)
 haveI := hb4.one
 repeat first
  | refine mI ?_
  | (refine mv ?_)
  | (refine ln (by simp only [↓nrmL, nrmK, Nat.reduceEqDiff, ↓reduceIte]; rfl) ?_)
  | refine nl hKF ?_
  | refine sq ?_
  | refine rg fun KF hKF => ?_
  | refine Wp.block ?_
  | dsimp only [cond_true, cond_false]
 refine Wp.loopS [20, 22, 23, 24, 109, 110, 111, 112, 113, 114, 115, 116, 117, 118, 119, 120, 121, 122, 123, 124, 125, 126, 127, 128, 129, 130, 131, 132, 133, 134, 135, 136, 137] (fun i : Nat => [(109, .int .i64 i)]) (fun K i H5 => i ≤ n ∧ ∃ LB, BoolsI H5 lp LB ∧ DrawnB LB (w * h) (Dr w sts i 0 0) ∧ WrS H5 lp ∧ ExtP0 K H5 lp) (fun i => n - i) 0 rfl (fun _ => rfl) ⟨rfl, trivial⟩ ⟨Nat.zero_le _, _, inferInstance, (by rw [hPl2]; exact DrawnB.zero), inferInstance, inferInstance⟩ (by unfold fuel0 at hn; omega) ?_
 rintro i g3 H5 ⟨hi5, LB, hLB, hDB, hw5, ⟨hx5⟩⟩
 haveI := hx5
 simp only [↓nrmL, nrmZ, Nat.reduceEqDiff, ↓reduceIte, Nat.reduceAdd, Int.reduceBEq, Int.reduceBNe]
 cases hci : decide ((i : Int) < (n : Int))
 rotate_left
 ·have hin : i < n := by have := of_decide_eq_true hci; omega
  have his : i < sts.length := by omega
  have hwi := wa1 (a := i) (by omega)
  obtain ⟨q, hq, hLq⟩ := hSt.it i his
  obtain ⟨qs, hqs, hqr⟩ := hLq.it
  have hfi := hfit i his
  obtain ⟨hl5, hpaths⟩ := fitsB_iff hfi
  haveI := hqs
  haveI := hqs.one
  have hcl : cells.length = n := by have := hop.len; omega
  repeat first
   | (refine bn rfl rfl rfl (by simp only [↓nrmL, nrmZ, Nat.reduceEqDiff, ↓reduceIte, Nat.reduceAdd, Int.reduceBEq, Int.reduceBNe, hci]; rfl) ?_)
   | (refine Fo.idx (by simp only [↓nrmL, nrmK, Nat.reduceEqDiff, ↓reduceIte]; rfl) rfl ?_ (by simp only [↓nrmL, nrmZ, Nat.reduceEqDiff, ↓reduceIte, Nat.reduceAdd, Int.reduceBEq, Int.reduceBNe, hci]; rfl) ?_; (focus omega))
   | refine nl hKF ?_
   | refine sq ?_
   | refine rg fun KF hKF => ?_
   | refine ct rfl ?_
   | refine sk ?_
   | refine Wp.block ?_
  refine WpO.do (WpX.ldNP (p := op) (j := i) (m := 1) (l := [q]) rfl (by decide) (by omega) (take_one hq) ?_)
  refine nw ?_
  refine so rfl (rfl : _ = AVal.agg _) rfl rfl rfl (by simp only [↓nrmL, nrmZ, Nat.reduceEqDiff, ↓reduceIte, Nat.reduceAdd, Int.reduceBEq, Int.reduceBNe]; rfl) ?_
  refine nl hKF ?_
  refine sq ?_
  refine rg fun KF hKF => ?_
  refine fd ?_
  refine Fo.ld rfl rfl ?_
  refine ln (by simp only [↓nrmL, nrmK, Nat.reduceEqDiff, ↓reduceIte]; rfl) ?_
  refine mI ?_
  refine nl hKF ?_
  refine Wp.block ?_
  dsimp only [cond_true, cond_false]
  refine Wp.loopS [22, 23, 24, 116, 117, 118, 119, 120, 121, 122, 123, 124, 125, 126, 127, 128, 129, 130, 131, 132, 133, 134, 135, 136] (fun k : Nat => [(116, .int .i64 k)]) (fun K k H6 => k ≤ sts[i].length ∧ ∃ LB, BoolsI H6 lp LB ∧ DrawnB LB (w * h) (Dr w sts i k 0) ∧ WrS H6 lp ∧ ExtP0 K H6 lp) (fun k => sts[i].length - k) 0 rfl (fun _ => rfl) ⟨rfl, trivial⟩ ⟨Nat.zero_le _, LB, inferInstance, hDB, inferInstance, inferInstance⟩ (by unfold fuel0 at hn; omega) ?_
  rintro k g4 H6 ⟨hk6, LB6, hLB6, hDB6, hw6, ⟨hx6⟩⟩
  haveI := hx6
  simp only [↓nrmL, nrmZ, Nat.reduceEqDiff, ↓reduceIte, Nat.reduceAdd, Int.reduceBEq, Int.reduceBNe]
  cases hck : decide ((k : Int) < ((sts[i].length : Nat) : Int))
  ·have hkl : k = sts[i].length := by have := of_decide_eq_false hck; omega
   subst hkl
   repeat first
    | refine mI ?_
    | (refine bn rfl rfl rfl (by simp only [↓nrmL, nrmZ, Nat.reduceEqDiff, ↓reduceIte, Nat.reduceAdd, Int.reduceBEq, Int.reduceBNe, hck]; rfl) ?_)
    | refine b0 ?_
    | refine nl hKF ?_
    | refine sq ?_
    | refine rg fun KF hKF => ?_
    | refine cf rfl ?_
    | refine xi ?_
    | dsimp only [cond_true, cond_false]
   exact ⟨i + 1, by omega, ⟨by simp only [↓nrmL, nrmZ, Nat.reduceEqDiff, ↓reduceIte, Nat.reduceAdd, Int.reduceBEq, Int.reduceBNe]; rw [hwi], trivial⟩, by omega, LB6, inferInstance, hDB6.congr fun j => Dr.stave his, inferInstance, inferInstance⟩
  have hkl : k < sts[i].length := by have := of_decide_eq_true hck; omega
  have hwk := wa1 (a := k) (by omega)
  obtain ⟨q2, hq2, hI2⟩ := hqr.it k hkl
  have hpk := hpaths k hkl
  obtain ⟨hml2, ha0⟩ := pathB_len hpk
  haveI := hI2
  haveI := hI2.one
  repeat first
   | (refine bn rfl rfl rfl (by simp only [↓nrmL, nrmZ, Nat.reduceEqDiff, ↓reduceIte, Nat.reduceAdd, Int.reduceBEq, Int.reduceBNe, hck]; rfl) ?_)
   | (refine Fo.idx (by simp only [↓nrmL, nrmK, Nat.reduceEqDiff, ↓reduceIte]; rfl) rfl ?_ (by simp only [↓nrmL, nrmZ, Nat.reduceEqDiff, ↓reduceIte, Nat.reduceAdd, Int.reduceBEq, Int.reduceBNe, hck]; rfl) ?_; (focus omega))
   | refine nl hKF ?_
   | refine sq ?_
   | refine rg fun KF hKF => ?_
   | refine ct rfl ?_
   | refine sk ?_
   | refine Wp.block ?_
  refine Fo.now rfl (exec_ldP (p := q) (j := k) rfl hq2) rfl ?_
  refine mv ?_
  refine nl hKF ?_
  refine sq ?_
  refine rg fun KF hKF => ?_
  refine mv ?_
  refine ln (by simp only [↓nrmL, nrmK, Nat.reduceEqDiff, ↓reduceIte]; rfl) ?_
  refine mI ?_
  refine nl hKF ?_
  refine Wp.block ?_
  dsimp only [cond_true, cond_false]
  refine Wp.loopS [23, 24, 122, 123, 124, 125, 126, 127, 128, 129, 130, 131, 132, 133, 134, 135] (fun x : Nat => [(122, .int .i64 x)]) (fun K x H7 => x ≤ w ∧ ∃ LB, BoolsI H7 lp LB ∧ DrawnB LB (w * h) (Dr w sts i k x) ∧ WrS H7 lp ∧ ExtP0 K H7 lp) (fun x => w - x) 0 rfl (fun _ => rfl) ⟨rfl, trivial⟩ ⟨Nat.zero_le _, LB6, inferInstance, hDB6, inferInstance, inferInstance⟩ (by unfold fuel0 at hn; omega) ?_
  rintro x g5 H7 ⟨hx7, LB7, hLB7, hDB7, hw7, ⟨hx7'⟩⟩
  haveI := hx7'
  simp only [↓nrmL, nrmZ, Nat.reduceEqDiff, ↓reduceIte, Nat.reduceAdd, Int.reduceBEq, Int.reduceBNe]
  cases hcx : decide ((x : Int) < ((sts[i][k].length : Nat) : Int))
  ·have hxa : x = w := by have := of_decide_eq_false hcx; omega
   subst hxa
   repeat first
    | refine mI ?_
    | (refine bn rfl rfl rfl (by simp only [↓nrmL, nrmZ, Nat.reduceEqDiff, ↓reduceIte, Nat.reduceAdd, Int.reduceBEq, Int.reduceBNe, hcx]; rfl) ?_)
    | refine b0 ?_
    | refine nl hKF ?_
    | refine sq ?_
    | refine rg fun KF hKF => ?_
    | refine cf rfl ?_
    | refine xi ?_
    | dsimp only [cond_true, cond_false]
   exact ⟨k + 1, by omega, ⟨by simp only [↓nrmL, nrmZ, Nat.reduceEqDiff, ↓reduceIte, Nat.reduceAdd, Int.reduceBEq, Int.reduceBNe]; rw [hwk], trivial⟩, by omega, LB7, inferInstance, hDB7.congr fun j => Dr.line ha0, inferInstance, inferInstance⟩
  have hxl : x < sts[i][k].length := by have := of_decide_eq_true hcx; omega
  have hxa : x < w := by omega
  have hwx := wa1 (a := x) (by omega)
  obtain ⟨hm0, hmb⟩ := pathB_range hpk hxl
  obtain ⟨y, hy⟩ : ∃ y : Nat, sts[i][k][x] = (y : Int) := ⟨sts[i][k][x].toNat, by omega⟩
  have hlt := idx_lt hxa (show y < h by omega)
  have m1 : IntKind.i64.wrap ((y : Int) * (w : Int)) = ((y * w : Nat) : Int) := wm (by omega)
  have m2 : IntKind.i64.wrap (((y * w : Nat) : Int) + (x : Int)) = ((y * w + x : Nat) : Int) := wa (by omega)
  have hLl := hDB7.len
  repeat first
   | refine mI ?_
   | (refine mv ?_)
   | refine fd ?_
   | refine Fo.ld rfl rfl ?_
   | (refine bn rfl rfl rfl (by simp only [↓nrmL, nrmZ, Nat.reduceEqDiff, ↓reduceIte, Nat.reduceAdd, Int.reduceBEq, Int.reduceBNe, hcx, hy, m1, m2]; rfl) ?_)
   | (refine Fo.idx (by simp only [↓nrmL, nrmK, Nat.reduceEqDiff, ↓reduceIte]; rfl) rfl ?_ (by simp only [↓nrmL, nrmZ, Nat.reduceEqDiff, ↓reduceIte, Nat.reduceAdd, Int.reduceBEq, Int.reduceBNe, hcx, hy, m1, m2]; rfl) ?_; (focus omega))
   | (refine Fo.ldI rfl ?_ (by simp only [↓nrmL, nrmZ, Nat.reduceEqDiff, ↓reduceIte, Nat.reduceAdd, Int.reduceBEq, Int.reduceBNe, hcx, hy, m1, m2]; rfl) ?_; (focus omega))
   | refine nl hKF ?_
   | refine sq ?_
   | refine rg fun KF hKF => ?_
   | refine ct rfl ?_
   | refine sk ?_
   | refine Wp.block ?_
  refine WpO.do' (WpX.stO (b := true) rfl rfl (by omega) fun H8 hb8 hw8 hx8 => ?_)
  haveI := hx8
  refine nl hKF ?_
  refine rg fun KF hKF => ?_
  refine b0 ?_
  refine mI ?_
  refine nl hKF ?_
  dsimp only [cond_true, cond_false]
  exact ⟨x + 1, by omega, ⟨by simp only [↓nrmL, nrmZ, Nat.reduceEqDiff, ↓reduceIte, Nat.reduceAdd, Int.reduceBEq, Int.reduceBNe]; rw [hwx], trivial⟩, by omega, _, hb8, hDB7.set hlt fun j => Dr.next his hkl hxa (by rw [getD_at hxl]; exact hy), hw8, inferInstance⟩
 have hin : i = n := by have := of_decide_eq_false hci; omega
 subst hin
 rw [← hstl] at hDB
 have hLBl := hDB.len
 haveI := hLB.one
 have hwh := ok.hb
 repeat first
  | refine mI ?_
  | refine fd ?_
  | refine Fo.ld rfl rfl ?_
  | (refine bn rfl rfl rfl (by simp only [↓nrmL, nrmZ, Nat.reduceEqDiff, ↓reduceIte, Nat.reduceAdd, Int.reduceBEq, Int.reduceBNe, hci]; rfl) ?_)
  | refine nl hKF ?_
  | refine sq ?_
  | refine rg fun KF hKF => ?_
  | refine cf rfl ?_
  | refine Wp.block ?_
  | refine xi ?_
  | dsimp only [cond_true, cond_false]
 refine Wp.loopS [10, 25, 26, 27, 28, 29, 140, 141, 142, 143, 144, 145, 146, 147, 148, 149, 150, 151, 152, 153, 154, 155, 156, 157, 158, 159, 160, 161, 162, 163, 164, 165, 166, 167, 168, 169, 170, 171, 172, 173, 174, 175, 176, 177, 178, 179, 180, 181, 182, 183, 184, 185, 186, 187, 188, 189, 190, 191, 192, 193, 194, 195, 196, 197, 198, 199, 200, 201, 202, 203, 204, 205, 206, 207, 208, 209, 210, 211, 212, 213, 214, 215, 216, 217, 218, 219, 220, 221, 222, 223, 224, 225, 226, 227, 228, 229, 230, 231] (fun x : Nat => [(140, .int .i64 x)]) (fun K x H6 => x ≤ w ∧ H6 = K) (fun x => w - x) 0 rfl (fun _ => rfl) ⟨rfl, trivial⟩ ⟨Nat.zero_le _, rfl⟩ (by unfold fuel0 at hn; omega) ?_
 rintro x g4 H6 ⟨hx6, rfl⟩
 simp only [↓nrmL, nrmZ, Nat.reduceEqDiff, ↓reduceIte, Nat.reduceAdd, Int.reduceBEq, Int.reduceBNe]
 cases hcx : decide ((x : Int) < (w : Int))
 ·have hsame : decide ((⟨(w : Int), (h : Int), C⟩ : Img) = ⟨w, h, C⟩) = true := decide_eq_true rfl
  haveI : Short C := ⟨by omega⟩
  have b6 : ((0 : Int) == 0) = true := rfl
  repeat first
   | refine mI ?_
   | (refine mv ?_)
   | (refine Fo.ldN rfl rfl (by simp only [↓nrmL, nrmZ, Nat.reduceEqDiff, ↓reduceIte, Nat.reduceAdd, Int.reduceBEq, Int.reduceBNe, hcx]; rfl) ?_)
   | (refine bn rfl rfl rfl (by simp only [↓nrmL, nrmZ, Nat.reduceEqDiff, ↓reduceIte, Nat.reduceAdd, Int.reduceBEq, Int.reduceBNe, hcx]; rfl) ?_)
   | refine nl hKF ?_
   | refine sq ?_
   | refine rg fun KF hKF => ?_
   | refine cf rfl ?_
   | refine xi ?_
  refine WpO.do (WpX.conD hn rfl rfl (by simp only [↓nrmL, nrmZ, Nat.reduceEqDiff, ↓reduceIte, Nat.reduceAdd, Int.reduceBEq, Int.reduceBNe, List.map] <;> rfl) (K_Remove (w := w) (h := h) (most := N) (p := p3) (q := op) (l := C) (sts := sts) (hq := hSt.ext Ext0.ext) (by omega)) fun v H7 h5 => ?_)
  rw [eR2] at h5
  obtain ⟨x7, e1, p7, e2, hp7, hf7, hw7, hx7⟩ := h5
  subst e1 e2
  dsimp only at hp7
  haveI : ExtI _ H7 := ⟨hx7⟩
  haveI := hp7.one
  simp only [b6, hsame]
  repeat first
   | refine oy ?_
   | refine mI ?_
   | refine mB ?_
   | refine mT ?_
   | (refine Fo.ldN rfl rfl (by simp only [↓nrmL, nrmZ, Nat.reduceEqDiff, ↓reduceIte, Nat.reduceAdd, Int.reduceBEq, Int.reduceBNe, b6, hsame]; rfl) ?_)
   | (refine bn rfl rfl rfl (by simp only [↓nrmL, nrmZ, Nat.reduceEqDiff, ↓reduceIte, Nat.reduceAdd, Int.reduceBEq, Int.reduceBNe, b6, hsame]; rfl) ?_)
   | refine tB ?_
   | refine xt ?_
   | (refine Fo.pcall (v' := ?_) hn rfl (by simp only [↓nrmL, nrmZ, Nat.reduceEqDiff, ↓reduceIte, Nat.reduceAdd, Int.reduceBEq, Int.reduceBNe, b6, hsame, List.map]; rfl) rfl ?hv fun _ _ => ?_; case hv => (simp only [↓nrmL, nrmZ, Nat.reduceEqDiff, ↓reduceIte, Nat.reduceAdd, Int.reduceBEq, Int.reduceBNe, b6, hsame]; rfl))
   | (refine Fo.pcall (v' := ?_) hn rfl (by simp only [↓nrmL, nrmZ, Nat.reduceEqDiff, ↓reduceIte, Nat.reduceAdd, Int.reduceBEq, Int.reduceBNe, b6, hsame, List.map]; rfl) rfl ?hv fun _ _ => ?_; case hv => rfl)
   | refine nw ?_
   | (refine so rfl (rfl : _ = AVal.agg _) rfl rfl rfl (by simp only [↓nrmL, nrmZ, Nat.reduceEqDiff, ↓reduceIte, Nat.reduceAdd, Int.reduceBEq, Int.reduceBNe, b6, hsame]; rfl) ?_)
   | refine nl hKF ?_
   | refine sq ?_
   | refine rg fun KF hKF => ?_
   | refine rt ?_
   | dsimp only [cond_true, cond_false]
  refine rz trivial ?_
  exact ⟨rfl, Ext0.ext⟩
 have hxa : x < w := by have := of_decide_eq_true hcx; omega
 have hwx := wa1 (a := x) (by omega)
 repeat first
  | refine mI ?_
  | (refine bn rfl rfl rfl (by simp only [↓nrmL, nrmZ, Nat.reduceEqDiff, ↓reduceIte, Nat.reduceAdd, Int.reduceBEq, Int.reduceBNe, hcx]; rfl) ?_)
  | refine nl hKF ?_
  | refine sq ?_
  | refine rg fun KF hKF => ?_
  | refine ct rfl ?_
  | refine sk ?_
  | refine Wp.block ?_
  | dsimp only [cond_true, cond_false]
 refine Wp.loopS [10, 26, 27, 28, 29, 143, 144, 145, 146, 147, 148, 149, 150, 151, 152, 153, 154, 155, 156, 157, 158, 159, 160, 161, 162, 163, 164, 165, 166, 167, 168, 169, 170, 171, 172, 173, 174, 175, 176, 177, 178, 179, 180, 181, 182, 183, 184, 185, 186, 187, 188, 189, 190, 191, 192, 193, 194, 195, 196, 197, 198, 199, 200, 201, 202, 203, 204, 205, 206, 207, 208, 209, 210, 211, 212, 213, 214, 215, 216, 217, 218, 219, 220, 221, 222, 223, 224, 225, 226, 227, 228, 229, 230] (fun y : Nat => [(26, .int .i64 y)]) (fun K y H7 => y ≤ h ∧ (y < h → colO ⟨w, h, P2⟩ x y = true → 0 < y → colO ⟨w, h, P2⟩ x (y - 1) = false) ∧ H7 = K) (fun y => h - y) 0 rfl (fun _ => rfl) ⟨rfl, trivial⟩ ⟨Nat.zero_le _, fun _ _ h0 => by omega, rfl⟩ (by unfold fuel0 at hn; omega) ?_
 rintro y g5 H7 ⟨hy7, hst7, rfl⟩
 simp only [↓nrmL, nrmZ, Nat.reduceEqDiff, ↓reduceIte, Nat.reduceAdd, Int.reduceBEq, Int.reduceBNe]
 cases hcy : decide ((y : Int) < (h : Int))
 ·skip
  repeat first
   | refine mI ?_
   | refine fd ?_
   | refine Fo.ld rfl rfl ?_
   | (refine bn rfl rfl rfl (by simp only [↓nrmL, nrmZ, Nat.reduceEqDiff, ↓reduceIte, Nat.reduceAdd, Int.reduceBEq, Int.reduceBNe, hcy]; rfl) ?_)
   | refine b0 ?_
   | refine nl hKF ?_
   | refine sq ?_
   | refine rg fun KF hKF => ?_
   | refine cf rfl ?_
   | refine xi ?_
   | dsimp only [cond_true, cond_false]
  refine ⟨x + 1, by omega, ⟨by simp only [↓nrmL, nrmZ, Nat.reduceEqDiff, ↓reduceIte, Nat.reduceAdd, Int.reduceBEq, Int.reduceBNe]; rw [hwx], trivial⟩, by omega, rfl⟩
 have hyh : y < h := by have := of_decide_eq_true hcy; omega
 have hlt := idx_lt hxa hyh
 have m1 : IntKind.i64.wrap ((y : Int) * (w : Int)) = ((y * w : Nat) : Int) := wm (by omega)
 have m2 : IntKind.i64.wrap (((y * w : Nat) : Int) + (x : Int)) = ((y * w + x : Nat) : Int) := wa (by omega)
 have hwy := wa1 (a := y) (by omega)
 have hiP : y * w + x < P2.length := by omega
 have hiC : y * w + x < C.length := by omega
 have hgP : P2.getD (y * w + x) 0 = P2[y * w + x] := by rw [List.getD_eq_getElem?_getD, List.getElem?_eq_getElem hiP, Option.getD_some]
 have hgC : C.getD (y * w + x) 0 = C[y * w + x] := by rw [List.getD_eq_getElem?_getD, List.getElem?_eq_getElem hiC, Option.getD_some]
 have hpy := colO_nat (l := P2) hxa hyh
 cases h0 : (P2[y * w + x] == 0)
 rotate_left
 ·have hP0 : P2.getD (y * w + x) 0 = 0 := by rw [hgP]; simpa using h0
  have hC0 : C[y * w + x] = 0 := by rw [← hgC, ← hC]; exact cut_paper hxa hyh hP0
  have h0' : ((((P2[y * w + x]).toNat : Nat) : Int) == 0) = true := by rw [u8_zero]; exact h0
  have z1 : ((((C[y * w + x]).toNat : Nat) : Int) != 0) = false := by rw [hC0]; rfl
  repeat first
   | refine mI ?_
   | refine fd ?_
   | refine Fo.ld rfl rfl ?_
   | (refine bn rfl rfl rfl (by simp only [↓nrmL, nrmZ, Nat.reduceEqDiff, ↓reduceIte, Nat.reduceAdd, Int.reduceBEq, Int.reduceBNe, hcy, m1, m2, h0', z1]; rfl) ?_)
   | refine b0 ?_
   | (refine Fo.idx (by simp only [↓nrmL, nrmK, Nat.reduceEqDiff, ↓reduceIte]; rfl) rfl ?_ (by simp only [↓nrmL, nrmZ, Nat.reduceEqDiff, ↓reduceIte, Nat.reduceAdd, Int.reduceBEq, Int.reduceBNe, hcy, m1, m2, h0', z1]; rfl) ?_; (focus omega))
   | (refine Fo.ldB rfl ?_ rfl ?_; (focus omega))
   | refine nl hKF ?_
   | refine sq ?_
   | refine rg fun KF hKF => ?_
   | refine ct rfl ?_
   | refine cf rfl ?_
   | refine sk ?_
   | refine Wp.block ?_
   | refine xi ?_
   | dsimp only [cond_true, cond_false]
  refine ⟨y + 1, by omega, ⟨by simp only [↓nrmL, nrmZ, Nat.reduceEqDiff, ↓reduceIte, Nat.reduceAdd, Int.reduceBEq, Int.reduceBNe]; rw [hwy], trivial⟩, by omega, fun _ _ _ => ?_, rfl⟩
  rw [Nat.add_sub_cancel, hpy, hP0]; rfl
 have h0' : ((((P2[y * w + x]).toNat : Nat) : Int) == 0) = false := by rw [u8_zero]; exact h0
 have hp1 : colO ⟨w, h, P2⟩ x y = true := by
  rw [hpy, hgP]
  have := px_01 hPo2 (y * w + x)
  rw [hgP] at this
  rcases this with e | e
  ·rw [e] at h0; exact absurd h0 (by decide)
  ·rw [e]; rfl
 have hstart : startB (colO ⟨w, h, P2⟩ x) y = true := by
  unfold startB
  rw [hp1]
  by_cases hy0 : 0 < y
  ·rw [hst7 hyh hp1 hy0]; simp
  ·rw [decide_eq_false hy0]; rfl
 repeat first
  | refine mI ?_
  | refine mB ?_
  | refine fd ?_
  | refine Fo.ld rfl rfl ?_
  | (refine bn rfl rfl rfl (by simp only [↓nrmL, nrmZ, Nat.reduceEqDiff, ↓reduceIte, Nat.reduceAdd, Int.reduceBEq, Int.reduceBNe, hcy, m1, m2, h0']; rfl) ?_)
  | (refine Fo.idx (by simp only [↓nrmL, nrmK, Nat.reduceEqDiff, ↓reduceIte]; rfl) rfl ?_ (by simp only [↓nrmL, nrmZ, Nat.reduceEqDiff, ↓reduceIte, Nat.reduceAdd, Int.reduceBEq, Int.reduceBNe, hcy, m1, m2, h0']; rfl) ?_; (focus omega))
  | (refine Fo.ldB rfl ?_ rfl ?_; (focus omega))
  | refine nl hKF ?_
  | refine sq ?_
  | refine rg fun KF hKF => ?_
  | refine ct rfl ?_
  | refine cf rfl ?_
  | refine sk ?_
  | refine Wp.block ?_
  | dsimp only [cond_true, cond_false]
 refine Wp.loopS (σ := Nat × Bool) [27, 28, 172, 173, 174, 175, 176, 177, 178, 179, 180, 181, 182, 183, 184, 185, 186, 187, 188, 189, 190, 191, 192, 193, 194, 195, 196, 197, 198, 199, 200, 201, 202] (fun s => [(27, .int .i64 (s.1 : Int)), (28, .bool s.2)]) (fun K s H8 => y ≤ s.1 ∧ s.1 ≤ h ∧ (∀ z, y ≤ z → z < s.1 → colO ⟨w, h, P2⟩ x z = true) ∧ (s.2 = true ↔ ∃ z, y ≤ z ∧ z < s.1 ∧ LB.getD (z * w + x) false = true) ∧ H8 = K) (fun s => h - s.1) (y, false) rfl (fun _ => rfl) ⟨rfl, rfl, trivial⟩ ⟨Nat.le_refl _, by omega, fun z a b => by dsimp only at b; omega, ⟨fun e => (by cases e), fun ⟨z, a, b, _⟩ => (by dsimp only at b; omega)⟩, rfl⟩ (by unfold fuel0 at hn; dsimp only; omega) ?_
 rintro ⟨to, met⟩ g6 H8 ⟨hto1, hto2, hrun, hmet, rfl⟩
 dsimp only at hto1 hto2 hrun hmet
 simp only [↓nrmL, nrmZ, Nat.reduceEqDiff, ↓reduceIte, Nat.reduceAdd, Int.reduceBEq, Int.reduceBNe]
 have hend : (to < h → colO ⟨w, h, P2⟩ x to = false) → y < to → endB (colO ⟨w, h, P2⟩ x) h y = to - 1 := fun hno hlt' => by
  have := end_of (p := colO ⟨w, h, P2⟩ x) (len := h) hlt' hto2 hrun hno
  omega
 have fin : ∀ (G : Bool), (to < h → colO ⟨w, h, P2⟩ x to = false) → y < to → (G = (met && decide ((to : Int) - (y : Int) ≤ (N : Int)))) → ∀ z, y ≤ z → z < to → C.getD (z * w + x) 0 = if G = true then 0 else 1 := fun G hno hlt' hG z hz1 hz2 => by
  have he := hend hno hlt'
  have h8 := cut_run (L := LL) (most := (N : Int)) hok2 hxa hstart hyh hz1 (by rw [he]; omega)
  rw [hC, he] at h8
  have h9 := touch_met hDL hDB hxa hlt' hto2 hmet
  have h10 : selB LL w (N : Int) x y (to - 1) = G := by
   unfold selB
   rw [h9, hG, Bool.and_comm]
   congr 1
   rw [decide_eq_decide]
   omega
  rw [h10] at h8
  exact h8
 cases hct : decide ((to : Int) < (h : Int))
 ·have hth : to = h := by have := of_decide_eq_false hct; omega
  have hno : to < h → colO ⟨w, h, P2⟩ x to = false := fun q => by omega
  have hyt : y < to := by omega
  cases met
  ·skip
   repeat first
    | refine ox ?_
    | refine mI ?_
    | refine mB ?_
    | refine fd ?_
    | refine Fo.ld rfl rfl ?_
    | (refine bn rfl rfl rfl (by simp only [↓nrmL, nrmZ, Nat.reduceEqDiff, ↓reduceIte, Nat.reduceAdd, Int.reduceBEq, Int.reduceBNe, hct]; rfl) ?_)
    | refine fB ?_
    | refine nl hKF ?_
    | refine sq ?_
    | refine rg fun KF hKF => ?_
    | refine cf rfl ?_
    | refine Wp.block ?_
    | refine xi ?_
    | dsimp only [cond_true, cond_false]
   refine Wp.loopS [10, 26, 211, 212, 213, 214, 215, 216, 217, 218, 219, 220, 221, 222, 223, 224, 225, 226, 227, 228] (fun z : Nat => [(26, .int .i64 (z : Int))]) (fun K z H9 => y ≤ z ∧ z ≤ to ∧ H9 = K) (fun z => to - z) y rfl (fun _ => rfl) ⟨rfl, trivial⟩ ⟨Nat.le_refl _, by omega, rfl⟩ (by unfold fuel0 at hn; omega) ?_
   rintro z g7 H9 ⟨hz1, hz2, rfl⟩
   simp only [↓nrmL, nrmZ, Nat.reduceEqDiff, ↓reduceIte, Nat.reduceAdd, Int.reduceBEq, Int.reduceBNe]
   cases hcz : decide ((z : Int) < (to : Int))
   ·have hzt : z = to := by have := of_decide_eq_false hcz; omega
    subst hzt
    have hws := ws1 (a := z) (by omega) (by omega)
    have hwz := wa1 (a := z - 1) (by omega)
    rw [show z - 1 + 1 = z by omega] at hwz
    repeat first
     | refine mI ?_
     | (refine bn rfl rfl rfl (by simp only [↓nrmL, nrmZ, Nat.reduceEqDiff, ↓reduceIte, Nat.reduceAdd, Int.reduceBEq, Int.reduceBNe, hcz, hws]; rfl) ?_)
     | refine b0 ?_
     | refine nl hKF ?_
     | refine sq ?_
     | refine rg fun KF hKF => ?_
     | refine cf rfl ?_
     | refine xi ?_
     | dsimp only [cond_true, cond_false]
    refine ⟨z, by omega, ⟨by simp only [↓nrmL, nrmZ, Nat.reduceEqDiff, ↓reduceIte, Nat.reduceAdd, Int.reduceBEq, Int.reduceBNe]; rw [hwz], trivial⟩, hto2, fun h1 h2 _ => ?_, rfl⟩
    rw [hno h1] at h2; cases h2
   have hzt : z < to := by have := of_decide_eq_true hcz; omega
   have hzl := idx_lt hxa (show z < h by omega)
   have n1' : IntKind.i64.wrap ((z : Int) * (w : Int)) = ((z * w : Nat) : Int) := wm (by omega)
   have n2' : IntKind.i64.wrap (((z * w : Nat) : Int) + (x : Int)) = ((z * w + x : Nat) : Int) := wa (by omega)
   have hwz := wa1 (a := z) (by omega)
   have hiz : z * w + x < C.length := by omega
   have hz0 := fin false hno hyt (by rfl) z hz1 hzt
   rw [List.getD_eq_getElem?_getD, List.getElem?_eq_getElem hiz, Option.getD_some] at hz0
   have z1 : ((((C[z * w + x]).toNat : Nat) : Int) == 0) = false := by rw [hz0]; rfl
   repeat first
    | refine mI ?_
    | refine mB ?_
    | refine fd ?_
    | refine Fo.ld rfl rfl ?_
    | (refine bn rfl rfl rfl (by simp only [↓nrmL, nrmZ, Nat.reduceEqDiff, ↓reduceIte, Nat.reduceAdd, Int.reduceBEq, Int.reduceBNe, hcz, n1', n2', z1]; rfl) ?_)
    | refine b0 ?_
    | (refine Fo.idx (by simp only [↓nrmL, nrmK, Nat.reduceEqDiff, ↓reduceIte]; rfl) rfl ?_ (by simp only [↓nrmL, nrmZ, Nat.reduceEqDiff, ↓reduceIte, Nat.reduceAdd, Int.reduceBEq, Int.reduceBNe, hcz, n1', n2', z1]; rfl) ?_; (focus omega))
    | (refine Fo.ldB rfl ?_ rfl ?_; (focus omega))
    | (refine Fo.now rfl rfl (by simp only [↓nrmL, nrmZ, Nat.reduceEqDiff, ↓reduceIte, Nat.reduceAdd, Int.reduceBEq, Int.reduceBNe, hcz, n1', n2', z1]; rfl) ?_)
    | refine nl hKF ?_
    | refine sq ?_
    | refine rg fun KF hKF => ?_
    | refine ct rfl ?_
    | refine cf rfl ?_
    | refine sk ?_
    | refine Wp.block ?_
    | dsimp only [cond_true, cond_false]
   refine ⟨z + 1, by omega, ⟨by simp only [↓nrmL, nrmZ, Nat.reduceEqDiff, ↓reduceIte, Nat.reduceAdd, Int.reduceBEq, Int.reduceBNe]; rw [hwz], trivial⟩, by omega, by omega, rfl⟩
  obtain ⟨G, hG⟩ : ∃ G, decide ((to : Int) - (y : Int) ≤ (N : Int)) = G := ⟨_, rfl⟩
  have s1 : IntKind.i64.wrap ((to : Int) - (y : Int)) = (to : Int) - (y : Int) := w64 (by omega)
  repeat first
   | refine oy ?_
   | refine ox ?_
   | refine mI ?_
   | refine mB ?_
   | refine fd ?_
   | refine Fo.ld rfl rfl ?_
   | (refine bn rfl rfl rfl (by simp only [↓nrmL, nrmZ, Nat.reduceEqDiff, ↓reduceIte, Nat.reduceAdd, Int.reduceBEq, Int.reduceBNe, hct, s1, hG]; rfl) ?_)
   | refine tB ?_
   | refine fB ?_
   | refine nl hKF ?_
   | refine sq ?_
   | refine rg fun KF hKF => ?_
   | refine cf rfl ?_
   | refine Wp.block ?_
   | refine xi ?_
   | dsimp only [cond_true, cond_false]
  refine Wp.loopS [10, 26, 211, 212, 213, 214, 215, 216, 217, 218, 219, 220, 221, 222, 223, 224, 225, 226, 227, 228] (fun z : Nat => [(26, .int .i64 (z : Int))]) (fun K z H9 => y ≤ z ∧ z ≤ to ∧ H9 = K) (fun z => to - z) y rfl (fun _ => rfl) ⟨rfl, trivial⟩ ⟨Nat.le_refl _, by omega, rfl⟩ (by unfold fuel0 at hn; omega) ?_
  rintro z g7 H9 ⟨hz1, hz2, rfl⟩
  simp only [↓nrmL, nrmZ, Nat.reduceEqDiff, ↓reduceIte, Nat.reduceAdd, Int.reduceBEq, Int.reduceBNe]
  cases hcz : decide ((z : Int) < (to : Int))
  ·have hzt : z = to := by have := of_decide_eq_false hcz; omega
   subst hzt
   have hws := ws1 (a := z) (by omega) (by omega)
   have hwz := wa1 (a := z - 1) (by omega)
   rw [show z - 1 + 1 = z by omega] at hwz
   repeat first
    | refine mI ?_
    | (refine bn rfl rfl rfl (by simp only [↓nrmL, nrmZ, Nat.reduceEqDiff, ↓reduceIte, Nat.reduceAdd, Int.reduceBEq, Int.reduceBNe, hcz, hws]; rfl) ?_)
    | refine b0 ?_
    | refine nl hKF ?_
    | refine sq ?_
    | refine rg fun KF hKF => ?_
    | refine cf rfl ?_
    | refine xi ?_
    | dsimp only [cond_true, cond_false]
   refine ⟨z, by omega, ⟨by simp only [↓nrmL, nrmZ, Nat.reduceEqDiff, ↓reduceIte, Nat.reduceAdd, Int.reduceBEq, Int.reduceBNe]; rw [hwz], trivial⟩, hto2, fun h1 h2 _ => ?_, rfl⟩
   rw [hno h1] at h2; cases h2
  have hzt : z < to := by have := of_decide_eq_true hcz; omega
  have hzl := idx_lt hxa (show z < h by omega)
  have n1' : IntKind.i64.wrap ((z : Int) * (w : Int)) = ((z * w : Nat) : Int) := wm (by omega)
  have n2' : IntKind.i64.wrap (((z * w : Nat) : Int) + (x : Int)) = ((z * w + x : Nat) : Int) := wa (by omega)
  have hwz := wa1 (a := z) (by omega)
  have hiz : z * w + x < C.length := by omega
  have hz0 := fin G hno hyt (by rw [hG]; rfl) z hz1 hzt
  rw [List.getD_eq_getElem?_getD, List.getElem?_eq_getElem hiz, Option.getD_some] at hz0
  clear hG
  cases G
  ·have z1 : ((((C[z * w + x]).toNat : Nat) : Int) == 0) = false := by rw [hz0]; rfl
   repeat first
    | refine mI ?_
    | refine mB ?_
    | refine fd ?_
    | refine Fo.ld rfl rfl ?_
    | (refine bn rfl rfl rfl (by simp only [↓nrmL, nrmZ, Nat.reduceEqDiff, ↓reduceIte, Nat.reduceAdd, Int.reduceBEq, Int.reduceBNe, hcz, n1', n2', z1]; rfl) ?_)
    | refine b0 ?_
    | (refine Fo.idx (by simp only [↓nrmL, nrmK, Nat.reduceEqDiff, ↓reduceIte]; rfl) rfl ?_ (by simp only [↓nrmL, nrmZ, Nat.reduceEqDiff, ↓reduceIte, Nat.reduceAdd, Int.reduceBEq, Int.reduceBNe, hcz, n1', n2', z1]; rfl) ?_; (focus omega))
    | (refine Fo.ldB rfl ?_ rfl ?_; (focus omega))
    | (refine Fo.now rfl rfl (by simp only [↓nrmL, nrmZ, Nat.reduceEqDiff, ↓reduceIte, Nat.reduceAdd, Int.reduceBEq, Int.reduceBNe, hcz, n1', n2', z1]; rfl) ?_)
    | refine nl hKF ?_
    | refine sq ?_
    | refine rg fun KF hKF => ?_
    | refine ct rfl ?_
    | refine cf rfl ?_
    | refine sk ?_
    | refine Wp.block ?_
    | dsimp only [cond_true, cond_false]
   refine ⟨z + 1, by omega, ⟨by simp only [↓nrmL, nrmZ, Nat.reduceEqDiff, ↓reduceIte, Nat.reduceAdd, Int.reduceBEq, Int.reduceBNe]; rw [hwz], trivial⟩, by omega, by omega, rfl⟩
  ·have z1 : ((((C[z * w + x]).toNat : Nat) : Int) == 0) = true := by rw [hz0]; rfl
   repeat first
    | refine mI ?_
    | refine mB ?_
    | refine fd ?_
    | refine Fo.ld rfl rfl ?_
    | (refine bn rfl rfl rfl (by simp only [↓nrmL, nrmZ, Nat.reduceEqDiff, ↓reduceIte, Nat.reduceAdd, Int.reduceBEq, Int.reduceBNe, hcz, n1', n2', z1]; rfl) ?_)
    | refine b0 ?_
    | (refine Fo.idx (by simp only [↓nrmL, nrmK, Nat.reduceEqDiff, ↓reduceIte]; rfl) rfl ?_ (by simp only [↓nrmL, nrmZ, Nat.reduceEqDiff, ↓reduceIte, Nat.reduceAdd, Int.reduceBEq, Int.reduceBNe, hcz, n1', n2', z1]; rfl) ?_; (focus omega))
    | (refine Fo.ldB rfl ?_ rfl ?_; (focus omega))
    | (refine Fo.now rfl rfl (by simp only [↓nrmL, nrmZ, Nat.reduceEqDiff, ↓reduceIte, Nat.reduceAdd, Int.reduceBEq, Int.reduceBNe, hcz, n1', n2', z1]; rfl) ?_)
    | refine nl hKF ?_
    | refine sq ?_
    | refine rg fun KF hKF => ?_
    | refine ct rfl ?_
    | refine cf rfl ?_
    | refine sk ?_
    | refine Wp.block ?_
    | dsimp only [cond_true, cond_false]
   refine ⟨z + 1, by omega, ⟨by simp only [↓nrmL, nrmZ, Nat.reduceEqDiff, ↓reduceIte, Nat.reduceAdd, Int.reduceBEq, Int.reduceBNe]; rw [hwz], trivial⟩, by omega, by omega, rfl⟩
 have hth : to < h := by have := of_decide_eq_true hct; omega
 have hlt2 := idx_lt hxa hth
 have k1 : IntKind.i64.wrap ((to : Int) * (w : Int)) = ((to * w : Nat) : Int) := wm (by omega)
 have k2 : IntKind.i64.wrap (((to * w : Nat) : Int) + (x : Int)) = ((to * w + x : Nat) : Int) := wa (by omega)
 have hit : to * w + x < P2.length := by omega
 have hgt : P2.getD (to * w + x) 0 = P2[to * w + x] := by rw [List.getD_eq_getElem?_getD, List.getElem?_eq_getElem hit, Option.getD_some]
 have hpt := colO_nat (l := P2) hxa hth
 rw [hgt] at hpt
 cases h1 : (P2[to * w + x] == 1)
 ·have h1' : ((((P2[to * w + x]).toNat : Nat) : Int) == 1) = false := by rw [u8_one]; exact h1
  have hno : to < h → colO ⟨w, h, P2⟩ x to = false := fun _ => by rw [hpt]; exact h1
  have hyt : y < to := by
   by_cases e : y = to
   ·rw [e] at hp1; rw [hno hth] at hp1; cases hp1
   ·omega
  cases met
  ·skip
   repeat first
    | refine oy ?_
    | refine ox ?_
    | refine mI ?_
    | refine mB ?_
    | refine fd ?_
    | refine Fo.ld rfl rfl ?_
    | (refine bn rfl rfl rfl (by simp only [↓nrmL, nrmZ, Nat.reduceEqDiff, ↓reduceIte, Nat.reduceAdd, Int.reduceBEq, Int.reduceBNe, hct, k1, k2, h1']; rfl) ?_)
    | refine tB ?_
    | refine fB ?_
    | (refine Fo.idx (by simp only [↓nrmL, nrmK, Nat.reduceEqDiff, ↓reduceIte]; rfl) rfl ?_ (by simp only [↓nrmL, nrmZ, Nat.reduceEqDiff, ↓reduceIte, Nat.reduceAdd, Int.reduceBEq, Int.reduceBNe, hct, k1, k2, h1']; rfl) ?_; (focus omega))
    | (refine Fo.ldB rfl ?_ rfl ?_; (focus omega))
    | refine nl hKF ?_
    | refine sq ?_
    | refine rg fun KF hKF => ?_
    | refine cf rfl ?_
    | refine Wp.block ?_
    | refine xi ?_
    | dsimp only [cond_true, cond_false]
   refine Wp.loopS [10, 26, 211, 212, 213, 214, 215, 216, 217, 218, 219, 220, 221, 222, 223, 224, 225, 226, 227, 228] (fun z : Nat => [(26, .int .i64 (z : Int))]) (fun K z H9 => y ≤ z ∧ z ≤ to ∧ H9 = K) (fun z => to - z) y rfl (fun _ => rfl) ⟨rfl, trivial⟩ ⟨Nat.le_refl _, by omega, rfl⟩ (by unfold fuel0 at hn; omega) ?_
   rintro z g7 H9 ⟨hz1, hz2, rfl⟩
   simp only [↓nrmL, nrmZ, Nat.reduceEqDiff, ↓reduceIte, Nat.reduceAdd, Int.reduceBEq, Int.reduceBNe]
   cases hcz : decide ((z : Int) < (to : Int))
   ·have hzt : z = to := by have := of_decide_eq_false hcz; omega
    subst hzt
    have hws := ws1 (a := z) (by omega) (by omega)
    have hwz := wa1 (a := z - 1) (by omega)
    rw [show z - 1 + 1 = z by omega] at hwz
    repeat first
     | refine mI ?_
     | (refine bn rfl rfl rfl (by simp only [↓nrmL, nrmZ, Nat.reduceEqDiff, ↓reduceIte, Nat.reduceAdd, Int.reduceBEq, Int.reduceBNe, hcz, hws]; rfl) ?_)
     | refine b0 ?_
     | refine nl hKF ?_
     | refine sq ?_
     | refine rg fun KF hKF => ?_
     | refine cf rfl ?_
     | refine xi ?_
     | dsimp only [cond_true, cond_false]
    refine ⟨z, by omega, ⟨by simp only [↓nrmL, nrmZ, Nat.reduceEqDiff, ↓reduceIte, Nat.reduceAdd, Int.reduceBEq, Int.reduceBNe]; rw [hwz], trivial⟩, hto2, fun h1 h2 _ => ?_, rfl⟩
    rw [hno h1] at h2; cases h2
   have hzt : z < to := by have := of_decide_eq_true hcz; omega
   have hzl := idx_lt hxa (show z < h by omega)
   have n1' : IntKind.i64.wrap ((z : Int) * (w : Int)) = ((z * w : Nat) : Int) := wm (by omega)
   have n2' : IntKind.i64.wrap (((z * w : Nat) : Int) + (x : Int)) = ((z * w + x : Nat) : Int) := wa (by omega)
   have hwz := wa1 (a := z) (by omega)
   have hiz : z * w + x < C.length := by omega
   have hz0 := fin false hno hyt (by rfl) z hz1 hzt
   rw [List.getD_eq_getElem?_getD, List.getElem?_eq_getElem hiz, Option.getD_some] at hz0
   have z1 : ((((C[z * w + x]).toNat : Nat) : Int) == 0) = false := by rw [hz0]; rfl
   repeat first
    | refine mI ?_
    | refine mB ?_
    | refine fd ?_
    | refine Fo.ld rfl rfl ?_
    | (refine bn rfl rfl rfl (by simp only [↓nrmL, nrmZ, Nat.reduceEqDiff, ↓reduceIte, Nat.reduceAdd, Int.reduceBEq, Int.reduceBNe, hcz, n1', n2', z1]; rfl) ?_)
    | refine b0 ?_
    | (refine Fo.idx (by simp only [↓nrmL, nrmK, Nat.reduceEqDiff, ↓reduceIte]; rfl) rfl ?_ (by simp only [↓nrmL, nrmZ, Nat.reduceEqDiff, ↓reduceIte, Nat.reduceAdd, Int.reduceBEq, Int.reduceBNe, hcz, n1', n2', z1]; rfl) ?_; (focus omega))
    | (refine Fo.ldB rfl ?_ rfl ?_; (focus omega))
    | (refine Fo.now rfl rfl (by simp only [↓nrmL, nrmZ, Nat.reduceEqDiff, ↓reduceIte, Nat.reduceAdd, Int.reduceBEq, Int.reduceBNe, hcz, n1', n2', z1]; rfl) ?_)
    | refine nl hKF ?_
    | refine sq ?_
    | refine rg fun KF hKF => ?_
    | refine ct rfl ?_
    | refine cf rfl ?_
    | refine sk ?_
    | refine Wp.block ?_
    | dsimp only [cond_true, cond_false]
   refine ⟨z + 1, by omega, ⟨by simp only [↓nrmL, nrmZ, Nat.reduceEqDiff, ↓reduceIte, Nat.reduceAdd, Int.reduceBEq, Int.reduceBNe]; rw [hwz], trivial⟩, by omega, by omega, rfl⟩
  obtain ⟨G, hG⟩ : ∃ G, decide ((to : Int) - (y : Int) ≤ (N : Int)) = G := ⟨_, rfl⟩
  have s1 : IntKind.i64.wrap ((to : Int) - (y : Int)) = (to : Int) - (y : Int) := w64 (by omega)
  repeat first
   | refine oy ?_
   | refine mI ?_
   | refine mB ?_
   | refine fd ?_
   | refine Fo.ld rfl rfl ?_
   | (refine bn rfl rfl rfl (by simp only [↓nrmL, nrmZ, Nat.reduceEqDiff, ↓reduceIte, Nat.reduceAdd, Int.reduceBEq, Int.reduceBNe, hct, k1, k2, h1', s1, hG]; rfl) ?_)
   | refine tB ?_
   | (refine Fo.idx (by simp only [↓nrmL, nrmK, Nat.reduceEqDiff, ↓reduceIte]; rfl) rfl ?_ (by simp only [↓nrmL, nrmZ, Nat.reduceEqDiff, ↓reduceIte, Nat.reduceAdd, Int.reduceBEq, Int.reduceBNe, hct, k1, k2, h1', s1, hG]; rfl) ?_; (focus omega))
   | (refine Fo.ldB rfl ?_ rfl ?_; (focus omega))
   | refine nl hKF ?_
   | refine sq ?_
   | refine rg fun KF hKF => ?_
   | refine cf rfl ?_
   | refine Wp.block ?_
   | refine xi ?_
   | dsimp only [cond_true, cond_false]
  refine Wp.loopS [10, 26, 211, 212, 213, 214, 215, 216, 217, 218, 219, 220, 221, 222, 223, 224, 225, 226, 227, 228] (fun z : Nat => [(26, .int .i64 (z : Int))]) (fun K z H9 => y ≤ z ∧ z ≤ to ∧ H9 = K) (fun z => to - z) y rfl (fun _ => rfl) ⟨rfl, trivial⟩ ⟨Nat.le_refl _, by omega, rfl⟩ (by unfold fuel0 at hn; omega) ?_
  rintro z g7 H9 ⟨hz1, hz2, rfl⟩
  simp only [↓nrmL, nrmZ, Nat.reduceEqDiff, ↓reduceIte, Nat.reduceAdd, Int.reduceBEq, Int.reduceBNe]
  cases hcz : decide ((z : Int) < (to : Int))
  ·have hzt : z = to := by have := of_decide_eq_false hcz; omega
   subst hzt
   have hws := ws1 (a := z) (by omega) (by omega)
   have hwz := wa1 (a := z - 1) (by omega)
   rw [show z - 1 + 1 = z by omega] at hwz
   repeat first
    | refine mI ?_
    | (refine bn rfl rfl rfl (by simp only [↓nrmL, nrmZ, Nat.reduceEqDiff, ↓reduceIte, Nat.reduceAdd, Int.reduceBEq, Int.reduceBNe, hcz, hws]; rfl) ?_)
    | refine b0 ?_
    | refine nl hKF ?_
    | refine sq ?_
    | refine rg fun KF hKF => ?_
    | refine cf rfl ?_
    | refine xi ?_
    | dsimp only [cond_true, cond_false]
   refine ⟨z, by omega, ⟨by simp only [↓nrmL, nrmZ, Nat.reduceEqDiff, ↓reduceIte, Nat.reduceAdd, Int.reduceBEq, Int.reduceBNe]; rw [hwz], trivial⟩, hto2, fun h1 h2 _ => ?_, rfl⟩
   rw [hno h1] at h2; cases h2
  have hzt : z < to := by have := of_decide_eq_true hcz; omega
  have hzl := idx_lt hxa (show z < h by omega)
  have n1' : IntKind.i64.wrap ((z : Int) * (w : Int)) = ((z * w : Nat) : Int) := wm (by omega)
  have n2' : IntKind.i64.wrap (((z * w : Nat) : Int) + (x : Int)) = ((z * w + x : Nat) : Int) := wa (by omega)
  have hwz := wa1 (a := z) (by omega)
  have hiz : z * w + x < C.length := by omega
  have hz0 := fin G hno hyt (by rw [hG]; rfl) z hz1 hzt
  rw [List.getD_eq_getElem?_getD, List.getElem?_eq_getElem hiz, Option.getD_some] at hz0
  clear hG
  cases G
  ·have z1 : ((((C[z * w + x]).toNat : Nat) : Int) == 0) = false := by rw [hz0]; rfl
   repeat first
    | refine mI ?_
    | refine mB ?_
    | refine fd ?_
    | refine Fo.ld rfl rfl ?_
    | (refine bn rfl rfl rfl (by simp only [↓nrmL, nrmZ, Nat.reduceEqDiff, ↓reduceIte, Nat.reduceAdd, Int.reduceBEq, Int.reduceBNe, hcz, n1', n2', z1]; rfl) ?_)
    | refine b0 ?_
    | (refine Fo.idx (by simp only [↓nrmL, nrmK, Nat.reduceEqDiff, ↓reduceIte]; rfl) rfl ?_ (by simp only [↓nrmL, nrmZ, Nat.reduceEqDiff, ↓reduceIte, Nat.reduceAdd, Int.reduceBEq, Int.reduceBNe, hcz, n1', n2', z1]; rfl) ?_; (focus omega))
    | (refine Fo.ldB rfl ?_ rfl ?_; (focus omega))
    | (refine Fo.now rfl rfl (by simp only [↓nrmL, nrmZ, Nat.reduceEqDiff, ↓reduceIte, Nat.reduceAdd, Int.reduceBEq, Int.reduceBNe, hcz, n1', n2', z1]; rfl) ?_)
    | refine nl hKF ?_
    | refine sq ?_
    | refine rg fun KF hKF => ?_
    | refine ct rfl ?_
    | refine cf rfl ?_
    | refine sk ?_
    | refine Wp.block ?_
    | dsimp only [cond_true, cond_false]
   refine ⟨z + 1, by omega, ⟨by simp only [↓nrmL, nrmZ, Nat.reduceEqDiff, ↓reduceIte, Nat.reduceAdd, Int.reduceBEq, Int.reduceBNe]; rw [hwz], trivial⟩, by omega, by omega, rfl⟩
  ·have z1 : ((((C[z * w + x]).toNat : Nat) : Int) == 0) = true := by rw [hz0]; rfl
   repeat first
    | refine mI ?_
    | refine mB ?_
    | refine fd ?_
    | refine Fo.ld rfl rfl ?_
    | (refine bn rfl rfl rfl (by simp only [↓nrmL, nrmZ, Nat.reduceEqDiff, ↓reduceIte, Nat.reduceAdd, Int.reduceBEq, Int.reduceBNe, hcz, n1', n2', z1]; rfl) ?_)
    | refine b0 ?_
    | (refine Fo.idx (by simp only [↓nrmL, nrmK, Nat.reduceEqDiff, ↓reduceIte]; rfl) rfl ?_ (by simp only [↓nrmL, nrmZ, Nat.reduceEqDiff, ↓reduceIte, Nat.reduceAdd, Int.reduceBEq, Int.reduceBNe, hcz, n1', n2', z1]; rfl) ?_; (focus omega))
    | (refine Fo.ldB rfl ?_ rfl ?_; (focus omega))
    | (refine Fo.now rfl rfl (by simp only [↓nrmL, nrmZ, Nat.reduceEqDiff, ↓reduceIte, Nat.reduceAdd, Int.reduceBEq, Int.reduceBNe, hcz, n1', n2', z1]; rfl) ?_)
    | refine nl hKF ?_
    | refine sq ?_
    | refine rg fun KF hKF => ?_
    | refine ct rfl ?_
    | refine cf rfl ?_
    | refine sk ?_
    | refine Wp.block ?_
    | dsimp only [cond_true, cond_false]
   refine ⟨z + 1, by omega, ⟨by simp only [↓nrmL, nrmZ, Nat.reduceEqDiff, ↓reduceIte, Nat.reduceAdd, Int.reduceBEq, Int.reduceBNe]; rw [hwz], trivial⟩, by omega, by omega, rfl⟩
 have h1' : ((((P2[to * w + x]).toNat : Nat) : Int) == 1) = true := by rw [u8_one]; exact h1
 have hwt := wa1 (a := to) (by omega)
 have hrun2 : ∀ z, y ≤ z → z < to + 1 → colO ⟨w, h, P2⟩ x z = true := fun z a b => by
  by_cases e : z = to
  ·rw [e, hpt]; exact h1
  ·exact hrun z a (by omega)
 cases met
 ·obtain ⟨bt, hbt⟩ : ∃ bt, LB.getD (to * w + x) false = bt := ⟨_, rfl⟩
  repeat first
   | refine oy ?_
   | refine mI ?_
   | refine mB ?_
   | (refine mv ?_)
   | refine fd ?_
   | refine Fo.ld rfl rfl ?_
   | (refine bn rfl rfl rfl (by simp only [↓nrmL, nrmZ, Nat.reduceEqDiff, ↓reduceIte, Nat.reduceAdd, Int.reduceBEq, Int.reduceBNe, hct, k1, k2, h1']; rfl) ?_)
   | refine tB ?_
   | (refine Fo.idx (by simp only [↓nrmL, nrmK, Nat.reduceEqDiff, ↓reduceIte]; rfl) rfl ?_ (by simp only [↓nrmL, nrmZ, Nat.reduceEqDiff, ↓reduceIte, Nat.reduceAdd, Int.reduceBEq, Int.reduceBNe, hct, k1, k2, h1']; rfl) ?_; (focus omega))
   | (refine Fo.ldB rfl ?_ rfl ?_; (focus omega))
   | refine nl hKF ?_
   | refine sq ?_
   | refine rg fun KF hKF => ?_
   | refine ct rfl ?_
   | refine sk ?_
   | refine Wp.block ?_
  refine WpO.do (WpX.ldP (p := lp) (j := to * w + x) rfl (get_b' hLBl hlt2) ?_)
  rw [hbt]
  repeat first
   | refine mI ?_
   | refine mB ?_
   | refine b0 ?_
   | refine fB ?_
   | refine nl hKF ?_
   | refine rg fun KF hKF => ?_
   | dsimp only [cond_true, cond_false]
  refine ⟨(to + 1, bt), by dsimp only; omega, ⟨by simp only [↓nrmL, nrmZ, Nat.reduceEqDiff, ↓reduceIte, Nat.reduceAdd, Int.reduceBEq, Int.reduceBNe]; rw [hwt], rfl, trivial⟩, by dsimp only; omega, by dsimp only; omega, hrun2, ⟨fun e => ⟨to, hto1, by dsimp only; omega, by dsimp only at e; rw [hbt]; exact e⟩, fun ⟨z, a, b, c⟩ => ?_⟩, rfl⟩
  dsimp only at b ⊢
  by_cases e : z = to
  ·rw [e, hbt] at c; exact c
  ·exact absurd (hmet.2 ⟨z, a, by omega, c⟩) (by decide)
 repeat first
  | refine oy ?_
  | refine ox ?_
  | refine mI ?_
  | refine mB ?_
  | refine fd ?_
  | refine Fo.ld rfl rfl ?_
  | (refine bn rfl rfl rfl (by simp only [↓nrmL, nrmZ, Nat.reduceEqDiff, ↓reduceIte, Nat.reduceAdd, Int.reduceBEq, Int.reduceBNe, hct, k1, k2, h1']; rfl) ?_)
  | refine b0 ?_
  | refine tB ?_
  | (refine Fo.idx (by simp only [↓nrmL, nrmK, Nat.reduceEqDiff, ↓reduceIte]; rfl) rfl ?_ (by simp only [↓nrmL, nrmZ, Nat.reduceEqDiff, ↓reduceIte, Nat.reduceAdd, Int.reduceBEq, Int.reduceBNe, hct, k1, k2, h1']; rfl) ?_; (focus omega))
  | (refine Fo.ldB rfl ?_ rfl ?_; (focus omega))
  | refine nl hKF ?_
  | refine sq ?_
  | refine rg fun KF hKF => ?_
  | refine ct rfl ?_
  | refine sk ?_
  | refine Wp.block ?_
  | dsimp only [cond_true, cond_false]
 obtain ⟨z0, y1, y2, y3⟩ := hmet.1 rfl
 refine ⟨(to + 1, true), by dsimp only; omega, ⟨by simp only [↓nrmL, nrmZ, Nat.reduceEqDiff, ↓reduceIte, Nat.reduceAdd, Int.reduceBEq, Int.reduceBNe]; rw [hwt], rfl, trivial⟩, by dsimp only; omega, by dsimp only; omega, hrun2, ⟨fun _ => ⟨z0, y1, by dsimp only; omega, y3⟩, fun _ => rfl⟩, rfl⟩
end Go.Am

namespace Go.Proofs.Ytpochhefklmnfaa.StaveHarm
open Go.ChangeShapes Go.WideShapes Go.ChangeAt Go.RowKit Go.Am Go.Proofs.Ytpochhefklmnfaa.Laid

theorem con (H : AHeap) (avs : List AVal) (ht : tablesIn aroundT H = true) (h : ArgS Try.prog H 3 [5, 5, 22, 22, 5] avs) : Con ext prog 12 9 avs H fun v H' => v = .bool true ∧ Ext H H' := by
  obtain ⟨a0, r0, rfl, h0, a1, r1, rfl, h1, a2, r2, rfl, h2, a3, r3, rfl, h3, a4, r4, rfl, h4, rfl⟩ := h
  obtain ⟨i0, rfl, wf0⟩ := shape_int Try.underlying5 h0
  obtain ⟨s0, rfl⟩ := u8_of wf0
  obtain ⟨i1, rfl, wf1⟩ := shape_int Try.underlying5 h1
  obtain ⟨s1, rfl⟩ := u8_of wf1
  obtain ⟨p2, l2, rfl, k2, _⟩ := shape_bytes Try.underlying22 Try.underlying5 (by kernel_rfl) h2
  haveI o2 := k2.one
  obtain ⟨p3, l3, rfl, k3, _⟩ := shape_bytes Try.underlying22 Try.underlying5 (by kernel_rfl) h3
  haveI o3 := k3.one
  obtain ⟨i4, rfl, wf4⟩ := shape_int Try.underlying5 h4
  obtain ⟨s4, rfl⟩ := u8_of wf4
  have e0 : argV Try.prog 5 [.int .u8 (s0.toNat : Int)] = .int .u8 (s0.toNat : Int) := by simp only [argV, show aggTy Try.prog 5 = false by kernel_rfl, cond_false, List.headD_cons]
  have e1 : argV Try.prog 5 [.int .u8 (s1.toNat : Int)] = .int .u8 (s1.toNat : Int) := by simp only [argV, show aggTy Try.prog 5 = false by kernel_rfl, cond_false, List.headD_cons]
  have e2 : argV Try.prog 22 [p2] = p2 := by simp only [argV, show aggTy Try.prog 22 = false by kernel_rfl, cond_false, List.headD_cons]
  have e3 : argV Try.prog 22 [p3] = p3 := by simp only [argV, show aggTy Try.prog 22 = false by kernel_rfl, cond_false, List.headD_cons]
  have e4 : argV Try.prog 5 [.int .u8 (s4.toNat : Int)] = .int .u8 (s4.toNat : Int) := by simp only [argV, show aggTy Try.prog 5 = false by kernel_rfl, cond_false, List.headD_cons]
  rw [e0, e1, e2, e3, e4]
  exact K_StaveHarm (c1 := s0) (c2 := s1) (pb := p2) (pc := p3) (bends := l2) (bits := l3) (c5 := s4)

theorem contract (H : Type) (enc : TypeId × Value → H) (W : World) (base : Nat) (args : Array Value) (ds gs : List (DataW H)) (before : List MemPlace)
    (hval : ∀ (j : Nat) t v, Try.f9.params[j]? = some t → args[j]? = some v → Value.okWide Try.prog W .any base t v)
    (hW : DataW.Whole enc Try.prog Try.f9.params.toList Rows.staveHarmSpec.vars false W args.toList ds gs before) (hL : laidMetH Try.prog Rows.staveHarmRow.laid W) :
    Calls Try.prog 9 args W fun e W' => ∃ v, e = .returned v ∧ Rows.staveHarmSpec.post enc Try.prog Try.f9 false true false false W args v W' := by
  have hW' := hW
  obtain ⟨p, q, hA, _⟩ := hW'
  rw [Try.params9] at hA
  obtain ⟨v0, vs0, d0, ds0, p0, q0, _, rfl, _, _, r0⟩ := trodAll_cons hA
  obtain ⟨v1, vs1, d1, ds1, p1, q1, _, rfl, _, _, r1⟩ := trodAll_cons r0
  obtain ⟨v2, vs2, d2, ds2, p2, q2, _, rfl, _, _, r2⟩ := trodAll_cons r1
  obtain ⟨v3, vs3, d3, ds3, p3, q3, _, rfl, _, _, r3⟩ := trodAll_cons r2
  obtain ⟨v4, vs4, d4, ds4, p4, q4, _, rfl, _, _, r4⟩ := trodAll_cons r3
  obtain ⟨_, rfl, _⟩ := trodAll_nil r4
  exact law_calls (tb := 4) (n := 3) (d := 12) (tabs := aroundT) mixed progOk Try.func9 rfl (by decide +kernel) laidOut rowed full (by kernel_rfl) rfl (by kernel_rfl) Try.underlying4 (by kernel_rfl) (by kernel_rfl)
    (fun H avs ht h => con H avs ht (by rw [Try.params9] at h; exact h)) H enc W base args _ gs before rfl hval hW around_cells

theorem laid_met (os : Os) : laidMet Try.prog Rows.staveHarmRow.laid ((laidWorld os).forCall (fun _ _ => 0) ⟨#[], #[.int .u8 0, .int .u8 0, .slice none 0 0, .slice none 0 0, .int .u8 0], []⟩).memory :=
  laidMet_of_run' 8 (by kernel_rfl) (by kernel_rfl)
theorem reads (os : Os) {H : Type} (enc : TypeId × Value → H) : ∃ places, DataW.whole enc Try.prog ((laidWorld os).forCall (fun _ _ => 0) ⟨#[], #[.int .u8 0, .int .u8 0, .slice none 0 0, .slice none 0 0, .int .u8 0], []⟩).memory Try.f9.params.toList Rows.staveHarmSpec.vars false #[Value.int .u8 0, .int .u8 0, .slice none 0 0, .slice none 0 0, .int .u8 0].toList 8 = some ([.lit (.int .u8 0), .lit (.int .u8 0), .nil, .nil, .lit (.int .u8 0)], [], places) :=
  ⟨[], by kernel_rfl⟩

theorem lifted (os : Os) (started : os.Started) (H : Type) (enc : TypeId × Value → H) (F : Stop.Interp) :
    ReturnsInHanded {} Try.checked os 9 .any ((OpenSpec.ofChange Rows.staveHarmSpec).preRow enc Try.prog Try.f9 Rows.staveHarmRow.domain false Rows.staveHarmRow.laid) (((OpenSpec.ofChange Rows.staveHarmSpec).at F).post enc Try.prog Try.f9 false true false false) := by
  obtain ⟨places, hx⟩ := reads os enc
  refine returnsInHanded_of_row (C := Try.checked) (s := OpenSpec.ofChange Rows.staveHarmSpec) own started (by kernel_rfl) Try.func9
    (witness_row_at (enc := enc) (C := Try.checked) false (laidWorld os) #[.int .u8 0, .int .u8 0, .slice none 0 0, .slice none 0 0, .int .u8 0] rfl (by kernel_rfl) (by kernel_rfl) (by kernel_rfl)
      (OpenSpec.preRow_of_cond 8 hx (by kernel_rfl) (fun k hk => by cases hk) (by kernel_rfl) (laid_met os))) ?_
  intro W base args ds gs before hval hW _ _ _ hL _ _
  exact contract H enc W base args ds gs before hval hW hL

theorem said : Rows.StaveHarmSaid :=
  OpenClaim.holds_of_cond 9 Try.f9 rfl rfl rfl rfl rfl rfl rfl ⟨rfl, rfl, rfl, rfl, rfl⟩ rfl rfl rfl rfl rfl (by kernel_rfl) Try.func9 (by kernel_rfl)
    (of_decide_eq_true (by kernel_rfl)) (by unfold Func.isWrapper; first | (rw [if_pos (by decide +kernel)]; kernel_rfl) | (rw [if_neg (by decide +kernel)]; exact ⟨rfl, rfl⟩))
    (fun os started H enc _ F => by rw [OpenClaim.pre_eq_preRow]; exact lifted os started H enc F)
end Go.Proofs.Ytpochhefklmnfaa.StaveHarm
