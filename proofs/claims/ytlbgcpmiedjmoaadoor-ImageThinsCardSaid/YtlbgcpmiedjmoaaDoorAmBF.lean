import Derived.Test.YtlbgcpmiedjmoaaDoorAmBE
import Derived.Lib.Strings
set_option linter.unusedSimpArgs false
set_option linter.unusedVariables false
set_option maxHeartbeats 8000000
set_option maxRecDepth 100000
set_option synthInstance.maxHeartbeats 4000000
set_option synthInstance.maxSize 100000
namespace Go.Am
open Go
attribute [local irreducible] Wp WpO WpX WpE

theorem dst_on {a b u v : Nat} {r : List UInt8} {x y : Int} {D : List UInt8} {t : Nat} (h : ringF a b r x y t = true) (hx : x + dxN t = u) (hy : y + dyN t = v) : dstL a b r x y (t + 1) D = (dstL a b r x y t D).set (v * a + u) 1 := by
 show (if ringF a b r x y t = true then _ else _) = _
 rw [if_pos h, hx, hy, idx_of]
theorem dst_off {a b : Nat} {r : List UInt8} {x y : Int} {D : List UInt8} {t : Nat} (h : ringF a b r x y t = false) : dstL a b r x y (t + 1) D = dstL a b r x y t D := by
 show (if ringF a b r x y t = true then _ else _) = _
 rw [if_neg (by rw [h]; decide)]
theorem K_disturb {a b x y : Nat} {p d : AVal} {H : AHeap} {l D : List UInt8} [hp : BytesI H p l] [hd : BytesI H d D] [hw : WrS H d] [hsep : SepS p d] [hs : Fits a b l] [ht : Tabs H] (hz : RowNe d 0) (hD : D.length = a * b) (ha : a ≤ 640) (hb : b ≤ 640) (hx : x ≤ 640) (hy : y ≤ 640) : Con ext prog 2 130 [.agg [.int .i64 a, .int .i64 b, p], d, .int .i64 x, .int .i64 y] H fun _ H' => BytesI H' d (dstL a b l x y 8 D) ∧ WrS H' d ∧ ExtP H H' d := by
 refine con_of (show prog 130 = some c130 from rfl) rfl rfl fun n hn => ?_
 haveI := hp.one
 haveI := hd.one
 have hm : a * b ≤ 640 * 640 := Nat.mul_le_mul ha hb
 refine sq ?_
 refine rg fun KF hKF => ?_
 refine Fo.boxA rfl ?_
 refine WpO.nil (hKF _ _ ?_)
 refine sq ?_
 refine rg fun KF hKF => ?_
 refine WpO.do (WpX.tab ?_)
 refine mI rfl ?_
 refine WpO.nil (hKF _ _ ?_)
 refine Wp.block ?_
 dsimp only [cond_true, cond_false]
 refine Wp.loopS [9, 11, 12, 13, 14, 15, 16, 17, 18, 19, 20, 21, 22, 23, 24, 25, 26, 27, 28, 29, 30, 31, 32, 33, 34, 35, 36, 37, 38] (fun t : Nat => [(11, .int .i64 (t : Int))]) (fun H3 t H2 => t ≤ 8 ∧ BytesI H2 d (dstL a b l x y t D) ∧ WrS H2 d ∧ HasRow H2 H.n [.int .i64 a, .int .i64 b, p] true (2 * 24) ∧ BytesI H2 p l ∧ ExtP H H2 d) (fun t => 8 - t) 0 rfl (fun _ => rfl) ⟨rfl, trivial⟩ ⟨Nat.zero_le _, (inferInstance : BytesI _ d D), inferInstance, inferInstance, inferInstance, ExtP0.ext⟩ (by unfold fuel0 at hn; omega) ?_
 rintro t g H2 ⟨htl, hb2, hw2, hbox, hp2, hx2⟩
 haveI : ExtP0 H H2 d := ⟨hx2⟩
 simp only [↓nrmL, nrmZ, Nat.reduceEqDiff, ↓reduceIte, Nat.reduceAdd, Int.reduceBEq, Int.reduceBNe]
 have hnd : RowNe d H.n := ⟨fun r off len cap sz e => Nat.ne_of_lt (hd.lt e)⟩
 obtain rfl | rfl | rfl | rfl | rfl | rfl | rfl | rfl | rfl : t = 0 ∨ t = 1 ∨ t = 2 ∨ t = 3 ∨ t = 4 ∨ t = 5 ∨ t = 6 ∨ t = 7 ∨ t = 8 := by omega
 ·have hc : decide (((0 : Nat) : Int) < 8) = true := rfl
  have wx : IntKind.i64.wrap ((x : Int) + 0) = (x : Int) + 0 := w64 (by omega)
  have wy : IntKind.i64.wrap ((y : Int) + (-1)) = (y : Int) + (-1) := w64 (by omega)
  have hi : inkB a b l ((x : Int) + 0) ((y : Int) + (-1)) = ringF a b l x y 0 := rfl
  try simp only [↓nrmL, nrmZ, Nat.reduceEqDiff, ↓reduceIte, Nat.reduceAdd, Int.reduceBEq, Int.reduceBNe, hc, wx, wy, hi]
  refine sq ?_
  refine rg fun KF hKF => ?_
  refine Fo.bin rfl rfl rfl (by simp only [↓nrmL, nrmZ, Nat.reduceEqDiff, ↓reduceIte, Nat.reduceAdd, Int.reduceBEq, Int.reduceBNe, hc, wx, wy, hi]; rfl) ?_
  refine WpO.nil (hKF _ _ ?_)
  refine sq ?_
  refine Wp.cond (b := true) rfl ?_
  refine Wp.skip ?_
  refine sq ?_
  refine Wp.block ?_
  refine sq ?_
  refine rg fun KF hKF => ?_
  refine Fo.now rfl rfl (by simp only [↓nrmL, nrmZ, Nat.reduceEqDiff, ↓reduceIte, Nat.reduceAdd, Int.reduceBEq, Int.reduceBNe, hc, wx, wy, hi]; rfl) ?_
  refine Fo.new ?_
  refine Fo.st rfl (rfl : _ = AVal.agg _) rfl rfl rfl (by repeat (first | rfl | refine allOne_cons ?_)) (by simp only [↓nrmL, nrmZ, Nat.reduceEqDiff, ↓reduceIte, Nat.reduceAdd, Int.reduceBEq, Int.reduceBNe, hc, wx, wy, hi]; rfl) ?_
  refine WpO.nil (hKF _ _ ?_)
  refine sq ?_
  refine rg fun KF hKF => ?_
  refine Fo.ldN rfl rfl (by simp only [↓nrmL, nrmZ, Nat.reduceEqDiff, ↓reduceIte, Nat.reduceAdd, Int.reduceBEq, Int.reduceBNe, hc, wx, wy, hi]; rfl) ?_
  refine mI rfl ?_
  refine Fo.fa rfl ?_
  refine Fo.ld rfl rfl ?_
  refine Fo.bin rfl rfl rfl (by simp only [↓nrmL, nrmZ, Nat.reduceEqDiff, ↓reduceIte, Nat.reduceAdd, Int.reduceBEq, Int.reduceBNe, hc, wx, wy, hi]; rfl) ?_
  refine mI rfl ?_
  refine Fo.fa rfl ?_
  refine Fo.ld rfl rfl ?_
  refine Fo.bin rfl rfl rfl (by simp only [↓nrmL, nrmZ, Nat.reduceEqDiff, ↓reduceIte, Nat.reduceAdd, Int.reduceBEq, Int.reduceBNe, hc, wx, wy, hi]; rfl) ?_
  refine Fo.pcall (v' := ?_) hn rfl (by simp only [↓nrmL, nrmZ, Nat.reduceEqDiff, ↓reduceIte, Nat.reduceAdd, Int.reduceBEq, Int.reduceBNe, hc, wx, wy, hi, List.map]; rfl) rfl ?hv fun _ _ => ?_; case hv => (simp only [↓nrmL, nrmZ, Nat.reduceEqDiff, ↓reduceIte, Nat.reduceAdd, Int.reduceBEq, Int.reduceBNe, hc, wx, wy, hi]; rfl)
  refine WpO.nil (hKF _ _ ?_)
  dsimp only [cond_true, cond_false]
  cases hv : ringF a b l x y 0
  ·skip
   refine Wp.cond (b := false) rfl ?_
   refine Wp.skip ?_
   refine rg fun KF hKF => ?_
   refine Fo.bin rfl rfl rfl rfl ?_
   refine mI rfl ?_
   refine WpO.nil (hKF _ _ ?_)
   dsimp only [cond_true, cond_false]
   refine ⟨0 + 1, by omega, ⟨rfl, trivial⟩, by omega, by rw [dst_off hv]; infer_instance, inferInstance, inferInstance, inferInstance, ExtP0.ext⟩
  ·obtain ⟨u, v, e1, e2, hu, hvb, _⟩ := inkB_true hv
   have e1' : (x : Int) + 0 = (u : Int) := e1
   have e2' : (y : Int) + (-1) = (v : Int) := e2
   have hidx := idx_lt hu hvb
   have hva : v * a ≤ 640 * 640 := Nat.mul_le_mul (by omega) ha
   have m1 : IntKind.i64.wrap (((y : Int) + (-1)) * (a : Int)) = ((v * a : Nat) : Int) := by rw [e2']; exact wm (by omega)
   have m2 : IntKind.i64.wrap (((v * a : Nat) : Int) + (x : Int)) = ((v * a + x : Nat) : Int) := wa (by omega)
   have m3 : IntKind.i64.wrap (((v * a + x : Nat) : Int) + 0) = ((v * a + u : Nat) : Int) := by rw [w64 (by omega)]; omega
   have hlen := dst_length (a := a) (b := b) (r := l) (x := (x : Int)) (y := (y : Int)) (d := D) 0
   try simp only [↓nrmL, nrmZ, Nat.reduceEqDiff, ↓reduceIte, Nat.reduceAdd, Int.reduceBEq, Int.reduceBNe, wy, m1, m2, m3]
   refine Wp.cond (b := true) rfl ?_
   refine rg fun KF hKF => ?_
   refine Fo.mov (by simp only [↓nrmL, nrmK, Nat.reduceEqDiff, ↓reduceIte]; rfl) ?_
   refine mI rfl ?_
   refine Fo.fa rfl ?_
   refine Fo.ld rfl rfl ?_
   refine Fo.bin rfl rfl rfl (by simp only [↓nrmL, nrmZ, Nat.reduceEqDiff, ↓reduceIte, Nat.reduceAdd, Int.reduceBEq, Int.reduceBNe, wy, m1, m2, m3]; rfl) ?_
   refine Fo.fa rfl ?_
   refine Fo.ld rfl rfl ?_
   refine Fo.bin rfl rfl rfl (by simp only [↓nrmL, nrmZ, Nat.reduceEqDiff, ↓reduceIte, Nat.reduceAdd, Int.reduceBEq, Int.reduceBNe, wy, m1, m2, m3]; rfl) ?_
   refine mI rfl ?_
   refine Fo.bin rfl rfl rfl (by simp only [↓nrmL, nrmZ, Nat.reduceEqDiff, ↓reduceIte, Nat.reduceAdd, Int.reduceBEq, Int.reduceBNe, wy, m1, m2, m3]; rfl) ?_
   refine Fo.fa rfl ?_
   refine Fo.ld rfl rfl ?_
   refine Fo.bin rfl rfl rfl (by simp only [↓nrmL, nrmZ, Nat.reduceEqDiff, ↓reduceIte, Nat.reduceAdd, Int.reduceBEq, Int.reduceBNe, wy, m1, m2, m3]; rfl) ?_
   refine Fo.idx (by simp only [↓nrmL, nrmK, Nat.reduceEqDiff, ↓reduceIte]; rfl) rfl ?_ (by simp only [↓nrmL, nrmZ, Nat.reduceEqDiff, ↓reduceIte, Nat.reduceAdd, Int.reduceBEq, Int.reduceBNe, wy, m1, m2, m3]; rfl) ?_; (focus omega)
   refine WpO.do' (WpX.stB (p := d) (j := v * a + u) (l := dstL a b l x y 0 D) 1 rfl rfl rfl (by rw [hlen, hD]; exact hidx) fun H6 hb6 hw6 hx6 => ?_)
   rw [← dst_on hv e1 e2] at hb6
   refine WpO.nil (hKF _ _ ?_)
   refine rg fun KF hKF => ?_
   refine Fo.bin rfl rfl rfl rfl ?_
   refine mI rfl ?_
   refine WpO.nil (hKF _ _ ?_)
   dsimp only [cond_true, cond_false]
   refine ⟨0 + 1, by omega, ⟨rfl, trivial⟩, by omega, hb6, hw6, inferInstance, inferInstance, ExtP0.ext⟩
 ·have hc : decide (((1 : Nat) : Int) < 8) = true := rfl
  have wx : IntKind.i64.wrap ((x : Int) + 1) = (x : Int) + 1 := w64 (by omega)
  have wy : IntKind.i64.wrap ((y : Int) + (-1)) = (y : Int) + (-1) := w64 (by omega)
  have hi : inkB a b l ((x : Int) + 1) ((y : Int) + (-1)) = ringF a b l x y 1 := rfl
  try simp only [↓nrmL, nrmZ, Nat.reduceEqDiff, ↓reduceIte, Nat.reduceAdd, Int.reduceBEq, Int.reduceBNe, hc, wx, wy, hi]
  refine sq ?_
  refine rg fun KF hKF => ?_
  refine Fo.bin rfl rfl rfl (by simp only [↓nrmL, nrmZ, Nat.reduceEqDiff, ↓reduceIte, Nat.reduceAdd, Int.reduceBEq, Int.reduceBNe, hc, wx, wy, hi]; rfl) ?_
  refine WpO.nil (hKF _ _ ?_)
  refine sq ?_
  refine Wp.cond (b := true) rfl ?_
  refine Wp.skip ?_
  refine sq ?_
  refine Wp.block ?_
  refine sq ?_
  refine rg fun KF hKF => ?_
  refine Fo.now rfl rfl (by simp only [↓nrmL, nrmZ, Nat.reduceEqDiff, ↓reduceIte, Nat.reduceAdd, Int.reduceBEq, Int.reduceBNe, hc, wx, wy, hi]; rfl) ?_
  refine Fo.new ?_
  refine Fo.st rfl (rfl : _ = AVal.agg _) rfl rfl rfl (by repeat (first | rfl | refine allOne_cons ?_)) (by simp only [↓nrmL, nrmZ, Nat.reduceEqDiff, ↓reduceIte, Nat.reduceAdd, Int.reduceBEq, Int.reduceBNe, hc, wx, wy, hi]; rfl) ?_
  refine WpO.nil (hKF _ _ ?_)
  refine sq ?_
  refine rg fun KF hKF => ?_
  refine Fo.ldN rfl rfl (by simp only [↓nrmL, nrmZ, Nat.reduceEqDiff, ↓reduceIte, Nat.reduceAdd, Int.reduceBEq, Int.reduceBNe, hc, wx, wy, hi]; rfl) ?_
  refine mI rfl ?_
  refine Fo.fa rfl ?_
  refine Fo.ld rfl rfl ?_
  refine Fo.bin rfl rfl rfl (by simp only [↓nrmL, nrmZ, Nat.reduceEqDiff, ↓reduceIte, Nat.reduceAdd, Int.reduceBEq, Int.reduceBNe, hc, wx, wy, hi]; rfl) ?_
  refine mI rfl ?_
  refine Fo.fa rfl ?_
  refine Fo.ld rfl rfl ?_
  refine Fo.bin rfl rfl rfl (by simp only [↓nrmL, nrmZ, Nat.reduceEqDiff, ↓reduceIte, Nat.reduceAdd, Int.reduceBEq, Int.reduceBNe, hc, wx, wy, hi]; rfl) ?_
  refine Fo.pcall (v' := ?_) hn rfl (by simp only [↓nrmL, nrmZ, Nat.reduceEqDiff, ↓reduceIte, Nat.reduceAdd, Int.reduceBEq, Int.reduceBNe, hc, wx, wy, hi, List.map]; rfl) rfl ?hv fun _ _ => ?_; case hv => (simp only [↓nrmL, nrmZ, Nat.reduceEqDiff, ↓reduceIte, Nat.reduceAdd, Int.reduceBEq, Int.reduceBNe, hc, wx, wy, hi]; rfl)
  refine WpO.nil (hKF _ _ ?_)
  dsimp only [cond_true, cond_false]
  cases hv : ringF a b l x y 1
  ·skip
   refine Wp.cond (b := false) rfl ?_
   refine Wp.skip ?_
   refine rg fun KF hKF => ?_
   refine Fo.bin rfl rfl rfl rfl ?_
   refine mI rfl ?_
   refine WpO.nil (hKF _ _ ?_)
   dsimp only [cond_true, cond_false]
   refine ⟨1 + 1, by omega, ⟨rfl, trivial⟩, by omega, by rw [dst_off hv]; infer_instance, inferInstance, inferInstance, inferInstance, ExtP0.ext⟩
  ·obtain ⟨u, v, e1, e2, hu, hvb, _⟩ := inkB_true hv
   have e1' : (x : Int) + 1 = (u : Int) := e1
   have e2' : (y : Int) + (-1) = (v : Int) := e2
   have hidx := idx_lt hu hvb
   have hva : v * a ≤ 640 * 640 := Nat.mul_le_mul (by omega) ha
   have m1 : IntKind.i64.wrap (((y : Int) + (-1)) * (a : Int)) = ((v * a : Nat) : Int) := by rw [e2']; exact wm (by omega)
   have m2 : IntKind.i64.wrap (((v * a : Nat) : Int) + (x : Int)) = ((v * a + x : Nat) : Int) := wa (by omega)
   have m3 : IntKind.i64.wrap (((v * a + x : Nat) : Int) + 1) = ((v * a + u : Nat) : Int) := by rw [w64 (by omega)]; omega
   have hlen := dst_length (a := a) (b := b) (r := l) (x := (x : Int)) (y := (y : Int)) (d := D) 1
   try simp only [↓nrmL, nrmZ, Nat.reduceEqDiff, ↓reduceIte, Nat.reduceAdd, Int.reduceBEq, Int.reduceBNe, wy, m1, m2, m3]
   refine Wp.cond (b := true) rfl ?_
   refine rg fun KF hKF => ?_
   refine Fo.mov (by simp only [↓nrmL, nrmK, Nat.reduceEqDiff, ↓reduceIte]; rfl) ?_
   refine mI rfl ?_
   refine Fo.fa rfl ?_
   refine Fo.ld rfl rfl ?_
   refine Fo.bin rfl rfl rfl (by simp only [↓nrmL, nrmZ, Nat.reduceEqDiff, ↓reduceIte, Nat.reduceAdd, Int.reduceBEq, Int.reduceBNe, wy, m1, m2, m3]; rfl) ?_
   refine Fo.fa rfl ?_
   refine Fo.ld rfl rfl ?_
   refine Fo.bin rfl rfl rfl (by simp only [↓nrmL, nrmZ, Nat.reduceEqDiff, ↓reduceIte, Nat.reduceAdd, Int.reduceBEq, Int.reduceBNe, wy, m1, m2, m3]; rfl) ?_
   refine mI rfl ?_
   refine Fo.bin rfl rfl rfl (by simp only [↓nrmL, nrmZ, Nat.reduceEqDiff, ↓reduceIte, Nat.reduceAdd, Int.reduceBEq, Int.reduceBNe, wy, m1, m2, m3]; rfl) ?_
   refine Fo.fa rfl ?_
   refine Fo.ld rfl rfl ?_
   refine Fo.bin rfl rfl rfl (by simp only [↓nrmL, nrmZ, Nat.reduceEqDiff, ↓reduceIte, Nat.reduceAdd, Int.reduceBEq, Int.reduceBNe, wy, m1, m2, m3]; rfl) ?_
   refine Fo.idx (by simp only [↓nrmL, nrmK, Nat.reduceEqDiff, ↓reduceIte]; rfl) rfl ?_ (by simp only [↓nrmL, nrmZ, Nat.reduceEqDiff, ↓reduceIte, Nat.reduceAdd, Int.reduceBEq, Int.reduceBNe, wy, m1, m2, m3]; rfl) ?_; (focus omega)
   refine WpO.do' (WpX.stB (p := d) (j := v * a + u) (l := dstL a b l x y 1 D) 1 rfl rfl rfl (by rw [hlen, hD]; exact hidx) fun H6 hb6 hw6 hx6 => ?_)
   rw [← dst_on hv e1 e2] at hb6
   refine WpO.nil (hKF _ _ ?_)
   refine rg fun KF hKF => ?_
   refine Fo.bin rfl rfl rfl rfl ?_
   refine mI rfl ?_
   refine WpO.nil (hKF _ _ ?_)
   dsimp only [cond_true, cond_false]
   refine ⟨1 + 1, by omega, ⟨rfl, trivial⟩, by omega, hb6, hw6, inferInstance, inferInstance, ExtP0.ext⟩
 ·have hc : decide (((2 : Nat) : Int) < 8) = true := rfl
  have wx : IntKind.i64.wrap ((x : Int) + 1) = (x : Int) + 1 := w64 (by omega)
  have wy : IntKind.i64.wrap ((y : Int) + 0) = (y : Int) + 0 := w64 (by omega)
  have hi : inkB a b l ((x : Int) + 1) ((y : Int) + 0) = ringF a b l x y 2 := rfl
  try simp only [↓nrmL, nrmZ, Nat.reduceEqDiff, ↓reduceIte, Nat.reduceAdd, Int.reduceBEq, Int.reduceBNe, hc, wx, wy, hi]
  refine sq ?_
  refine rg fun KF hKF => ?_
  refine Fo.bin rfl rfl rfl (by simp only [↓nrmL, nrmZ, Nat.reduceEqDiff, ↓reduceIte, Nat.reduceAdd, Int.reduceBEq, Int.reduceBNe, hc, wx, wy, hi]; rfl) ?_
  refine WpO.nil (hKF _ _ ?_)
  refine sq ?_
  refine Wp.cond (b := true) rfl ?_
  refine Wp.skip ?_
  refine sq ?_
  refine Wp.block ?_
  refine sq ?_
  refine rg fun KF hKF => ?_
  refine Fo.now rfl rfl (by simp only [↓nrmL, nrmZ, Nat.reduceEqDiff, ↓reduceIte, Nat.reduceAdd, Int.reduceBEq, Int.reduceBNe, hc, wx, wy, hi]; rfl) ?_
  refine Fo.new ?_
  refine Fo.st rfl (rfl : _ = AVal.agg _) rfl rfl rfl (by repeat (first | rfl | refine allOne_cons ?_)) (by simp only [↓nrmL, nrmZ, Nat.reduceEqDiff, ↓reduceIte, Nat.reduceAdd, Int.reduceBEq, Int.reduceBNe, hc, wx, wy, hi]; rfl) ?_
  refine WpO.nil (hKF _ _ ?_)
  refine sq ?_
  refine rg fun KF hKF => ?_
  refine Fo.ldN rfl rfl (by simp only [↓nrmL, nrmZ, Nat.reduceEqDiff, ↓reduceIte, Nat.reduceAdd, Int.reduceBEq, Int.reduceBNe, hc, wx, wy, hi]; rfl) ?_
  refine mI rfl ?_
  refine Fo.fa rfl ?_
  refine Fo.ld rfl rfl ?_
  refine Fo.bin rfl rfl rfl (by simp only [↓nrmL, nrmZ, Nat.reduceEqDiff, ↓reduceIte, Nat.reduceAdd, Int.reduceBEq, Int.reduceBNe, hc, wx, wy, hi]; rfl) ?_
  refine mI rfl ?_
  refine Fo.fa rfl ?_
  refine Fo.ld rfl rfl ?_
  refine Fo.bin rfl rfl rfl (by simp only [↓nrmL, nrmZ, Nat.reduceEqDiff, ↓reduceIte, Nat.reduceAdd, Int.reduceBEq, Int.reduceBNe, hc, wx, wy, hi]; rfl) ?_
  refine Fo.pcall (v' := ?_) hn rfl (by simp only [↓nrmL, nrmZ, Nat.reduceEqDiff, ↓reduceIte, Nat.reduceAdd, Int.reduceBEq, Int.reduceBNe, hc, wx, wy, hi, List.map]; rfl) rfl ?hv fun _ _ => ?_; case hv => (simp only [↓nrmL, nrmZ, Nat.reduceEqDiff, ↓reduceIte, Nat.reduceAdd, Int.reduceBEq, Int.reduceBNe, hc, wx, wy, hi]; rfl)
  refine WpO.nil (hKF _ _ ?_)
  dsimp only [cond_true, cond_false]
  cases hv : ringF a b l x y 2
  ·skip
   refine Wp.cond (b := false) rfl ?_
   refine Wp.skip ?_
   refine rg fun KF hKF => ?_
   refine Fo.bin rfl rfl rfl rfl ?_
   refine mI rfl ?_
   refine WpO.nil (hKF _ _ ?_)
   dsimp only [cond_true, cond_false]
   refine ⟨2 + 1, by omega, ⟨rfl, trivial⟩, by omega, by rw [dst_off hv]; infer_instance, inferInstance, inferInstance, inferInstance, ExtP0.ext⟩
  ·obtain ⟨u, v, e1, e2, hu, hvb, _⟩ := inkB_true hv
   have e1' : (x : Int) + 1 = (u : Int) := e1
   have e2' : (y : Int) + 0 = (v : Int) := e2
   have hidx := idx_lt hu hvb
   have hva : v * a ≤ 640 * 640 := Nat.mul_le_mul (by omega) ha
   have m1 : IntKind.i64.wrap (((y : Int) + 0) * (a : Int)) = ((v * a : Nat) : Int) := by rw [e2']; exact wm (by omega)
   have m2 : IntKind.i64.wrap (((v * a : Nat) : Int) + (x : Int)) = ((v * a + x : Nat) : Int) := wa (by omega)
   have m3 : IntKind.i64.wrap (((v * a + x : Nat) : Int) + 1) = ((v * a + u : Nat) : Int) := by rw [w64 (by omega)]; omega
   have hlen := dst_length (a := a) (b := b) (r := l) (x := (x : Int)) (y := (y : Int)) (d := D) 2
   try simp only [↓nrmL, nrmZ, Nat.reduceEqDiff, ↓reduceIte, Nat.reduceAdd, Int.reduceBEq, Int.reduceBNe, wy, m1, m2, m3]
   refine Wp.cond (b := true) rfl ?_
   refine rg fun KF hKF => ?_
   refine Fo.mov (by simp only [↓nrmL, nrmK, Nat.reduceEqDiff, ↓reduceIte]; rfl) ?_
   refine mI rfl ?_
   refine Fo.fa rfl ?_
   refine Fo.ld rfl rfl ?_
   refine Fo.bin rfl rfl rfl (by simp only [↓nrmL, nrmZ, Nat.reduceEqDiff, ↓reduceIte, Nat.reduceAdd, Int.reduceBEq, Int.reduceBNe, wy, m1, m2, m3]; rfl) ?_
   refine Fo.fa rfl ?_
   refine Fo.ld rfl rfl ?_
   refine Fo.bin rfl rfl rfl (by simp only [↓nrmL, nrmZ, Nat.reduceEqDiff, ↓reduceIte, Nat.reduceAdd, Int.reduceBEq, Int.reduceBNe, wy, m1, m2, m3]; rfl) ?_
   refine mI rfl ?_
   refine Fo.bin rfl rfl rfl (by simp only [↓nrmL, nrmZ, Nat.reduceEqDiff, ↓reduceIte, Nat.reduceAdd, Int.reduceBEq, Int.reduceBNe, wy, m1, m2, m3]; rfl) ?_
   refine Fo.fa rfl ?_
   refine Fo.ld rfl rfl ?_
   refine Fo.bin rfl rfl rfl (by simp only [↓nrmL, nrmZ, Nat.reduceEqDiff, ↓reduceIte, Nat.reduceAdd, Int.reduceBEq, Int.reduceBNe, wy, m1, m2, m3]; rfl) ?_
   refine Fo.idx (by simp only [↓nrmL, nrmK, Nat.reduceEqDiff, ↓reduceIte]; rfl) rfl ?_ (by simp only [↓nrmL, nrmZ, Nat.reduceEqDiff, ↓reduceIte, Nat.reduceAdd, Int.reduceBEq, Int.reduceBNe, wy, m1, m2, m3]; rfl) ?_; (focus omega)
   refine WpO.do' (WpX.stB (p := d) (j := v * a + u) (l := dstL a b l x y 2 D) 1 rfl rfl rfl (by rw [hlen, hD]; exact hidx) fun H6 hb6 hw6 hx6 => ?_)
   rw [← dst_on hv e1 e2] at hb6
   refine WpO.nil (hKF _ _ ?_)
   refine rg fun KF hKF => ?_
   refine Fo.bin rfl rfl rfl rfl ?_
   refine mI rfl ?_
   refine WpO.nil (hKF _ _ ?_)
   dsimp only [cond_true, cond_false]
   refine ⟨2 + 1, by omega, ⟨rfl, trivial⟩, by omega, hb6, hw6, inferInstance, inferInstance, ExtP0.ext⟩
 ·have hc : decide (((3 : Nat) : Int) < 8) = true := rfl
  have wx : IntKind.i64.wrap ((x : Int) + 1) = (x : Int) + 1 := w64 (by omega)
  have wy : IntKind.i64.wrap ((y : Int) + 1) = (y : Int) + 1 := w64 (by omega)
  have hi : inkB a b l ((x : Int) + 1) ((y : Int) + 1) = ringF a b l x y 3 := rfl
  try simp only [↓nrmL, nrmZ, Nat.reduceEqDiff, ↓reduceIte, Nat.reduceAdd, Int.reduceBEq, Int.reduceBNe, hc, wx, wy, hi]
  refine sq ?_
  refine rg fun KF hKF => ?_
  refine Fo.bin rfl rfl rfl (by simp only [↓nrmL, nrmZ, Nat.reduceEqDiff, ↓reduceIte, Nat.reduceAdd, Int.reduceBEq, Int.reduceBNe, hc, wx, wy, hi]; rfl) ?_
  refine WpO.nil (hKF _ _ ?_)
  refine sq ?_
  refine Wp.cond (b := true) rfl ?_
  refine Wp.skip ?_
  refine sq ?_
  refine Wp.block ?_
  refine sq ?_
  refine rg fun KF hKF => ?_
  refine Fo.now rfl rfl (by simp only [↓nrmL, nrmZ, Nat.reduceEqDiff, ↓reduceIte, Nat.reduceAdd, Int.reduceBEq, Int.reduceBNe, hc, wx, wy, hi]; rfl) ?_
  refine Fo.new ?_
  refine Fo.st rfl (rfl : _ = AVal.agg _) rfl rfl rfl (by repeat (first | rfl | refine allOne_cons ?_)) (by simp only [↓nrmL, nrmZ, Nat.reduceEqDiff, ↓reduceIte, Nat.reduceAdd, Int.reduceBEq, Int.reduceBNe, hc, wx, wy, hi]; rfl) ?_
  refine WpO.nil (hKF _ _ ?_)
  refine sq ?_
  refine rg fun KF hKF => ?_
  refine Fo.ldN rfl rfl (by simp only [↓nrmL, nrmZ, Nat.reduceEqDiff, ↓reduceIte, Nat.reduceAdd, Int.reduceBEq, Int.reduceBNe, hc, wx, wy, hi]; rfl) ?_
  refine mI rfl ?_
  refine Fo.fa rfl ?_
  refine Fo.ld rfl rfl ?_
  refine Fo.bin rfl rfl rfl (by simp only [↓nrmL, nrmZ, Nat.reduceEqDiff, ↓reduceIte, Nat.reduceAdd, Int.reduceBEq, Int.reduceBNe, hc, wx, wy, hi]; rfl) ?_
  refine mI rfl ?_
  refine Fo.fa rfl ?_
  refine Fo.ld rfl rfl ?_
  refine Fo.bin rfl rfl rfl (by simp only [↓nrmL, nrmZ, Nat.reduceEqDiff, ↓reduceIte, Nat.reduceAdd, Int.reduceBEq, Int.reduceBNe, hc, wx, wy, hi]; rfl) ?_
  refine Fo.pcall (v' := ?_) hn rfl (by simp only [↓nrmL, nrmZ, Nat.reduceEqDiff, ↓reduceIte, Nat.reduceAdd, Int.reduceBEq, Int.reduceBNe, hc, wx, wy, hi, List.map]; rfl) rfl ?hv fun _ _ => ?_; case hv => (simp only [↓nrmL, nrmZ, Nat.reduceEqDiff, ↓reduceIte, Nat.reduceAdd, Int.reduceBEq, Int.reduceBNe, hc, wx, wy, hi]; rfl)
  refine WpO.nil (hKF _ _ ?_)
  dsimp only [cond_true, cond_false]
  cases hv : ringF a b l x y 3
  ·skip
   refine Wp.cond (b := false) rfl ?_
   refine Wp.skip ?_
   refine rg fun KF hKF => ?_
   refine Fo.bin rfl rfl rfl rfl ?_
   refine mI rfl ?_
   refine WpO.nil (hKF _ _ ?_)
   dsimp only [cond_true, cond_false]
   refine ⟨3 + 1, by omega, ⟨rfl, trivial⟩, by omega, by rw [dst_off hv]; infer_instance, inferInstance, inferInstance, inferInstance, ExtP0.ext⟩
  ·obtain ⟨u, v, e1, e2, hu, hvb, _⟩ := inkB_true hv
   have e1' : (x : Int) + 1 = (u : Int) := e1
   have e2' : (y : Int) + 1 = (v : Int) := e2
   have hidx := idx_lt hu hvb
   have hva : v * a ≤ 640 * 640 := Nat.mul_le_mul (by omega) ha
   have m1 : IntKind.i64.wrap (((y : Int) + 1) * (a : Int)) = ((v * a : Nat) : Int) := by rw [e2']; exact wm (by omega)
   have m2 : IntKind.i64.wrap (((v * a : Nat) : Int) + (x : Int)) = ((v * a + x : Nat) : Int) := wa (by omega)
   have m3 : IntKind.i64.wrap (((v * a + x : Nat) : Int) + 1) = ((v * a + u : Nat) : Int) := by rw [w64 (by omega)]; omega
   have hlen := dst_length (a := a) (b := b) (r := l) (x := (x : Int)) (y := (y : Int)) (d := D) 3
   try simp only [↓nrmL, nrmZ, Nat.reduceEqDiff, ↓reduceIte, Nat.reduceAdd, Int.reduceBEq, Int.reduceBNe, wy, m1, m2, m3]
   refine Wp.cond (b := true) rfl ?_
   refine rg fun KF hKF => ?_
   refine Fo.mov (by simp only [↓nrmL, nrmK, Nat.reduceEqDiff, ↓reduceIte]; rfl) ?_
   refine mI rfl ?_
   refine Fo.fa rfl ?_
   refine Fo.ld rfl rfl ?_
   refine Fo.bin rfl rfl rfl (by simp only [↓nrmL, nrmZ, Nat.reduceEqDiff, ↓reduceIte, Nat.reduceAdd, Int.reduceBEq, Int.reduceBNe, wy, m1, m2, m3]; rfl) ?_
   refine Fo.fa rfl ?_
   refine Fo.ld rfl rfl ?_
   refine Fo.bin rfl rfl rfl (by simp only [↓nrmL, nrmZ, Nat.reduceEqDiff, ↓reduceIte, Nat.reduceAdd, Int.reduceBEq, Int.reduceBNe, wy, m1, m2, m3]; rfl) ?_
   refine mI rfl ?_
   refine Fo.bin rfl rfl rfl (by simp only [↓nrmL, nrmZ, Nat.reduceEqDiff, ↓reduceIte, Nat.reduceAdd, Int.reduceBEq, Int.reduceBNe, wy, m1, m2, m3]; rfl) ?_
   refine Fo.fa rfl ?_
   refine Fo.ld rfl rfl ?_
   refine Fo.bin rfl rfl rfl (by simp only [↓nrmL, nrmZ, Nat.reduceEqDiff, ↓reduceIte, Nat.reduceAdd, Int.reduceBEq, Int.reduceBNe, wy, m1, m2, m3]; rfl) ?_
   refine Fo.idx (by simp only [↓nrmL, nrmK, Nat.reduceEqDiff, ↓reduceIte]; rfl) rfl ?_ (by simp only [↓nrmL, nrmZ, Nat.reduceEqDiff, ↓reduceIte, Nat.reduceAdd, Int.reduceBEq, Int.reduceBNe, wy, m1, m2, m3]; rfl) ?_; (focus omega)
   refine WpO.do' (WpX.stB (p := d) (j := v * a + u) (l := dstL a b l x y 3 D) 1 rfl rfl rfl (by rw [hlen, hD]; exact hidx) fun H6 hb6 hw6 hx6 => ?_)
   rw [← dst_on hv e1 e2] at hb6
   refine WpO.nil (hKF _ _ ?_)
   refine rg fun KF hKF => ?_
   refine Fo.bin rfl rfl rfl rfl ?_
   refine mI rfl ?_
   refine WpO.nil (hKF _ _ ?_)
   dsimp only [cond_true, cond_false]
   refine ⟨3 + 1, by omega, ⟨rfl, trivial⟩, by omega, hb6, hw6, inferInstance, inferInstance, ExtP0.ext⟩
 ·have hc : decide (((4 : Nat) : Int) < 8) = true := rfl
  have wx : IntKind.i64.wrap ((x : Int) + 0) = (x : Int) + 0 := w64 (by omega)
  have wy : IntKind.i64.wrap ((y : Int) + 1) = (y : Int) + 1 := w64 (by omega)
  have hi : inkB a b l ((x : Int) + 0) ((y : Int) + 1) = ringF a b l x y 4 := rfl
  try simp only [↓nrmL, nrmZ, Nat.reduceEqDiff, ↓reduceIte, Nat.reduceAdd, Int.reduceBEq, Int.reduceBNe, hc, wx, wy, hi]
  refine sq ?_
  refine rg fun KF hKF => ?_
  refine Fo.bin rfl rfl rfl (by simp only [↓nrmL, nrmZ, Nat.reduceEqDiff, ↓reduceIte, Nat.reduceAdd, Int.reduceBEq, Int.reduceBNe, hc, wx, wy, hi]; rfl) ?_
  refine WpO.nil (hKF _ _ ?_)
  refine sq ?_
  refine Wp.cond (b := true) rfl ?_
  refine Wp.skip ?_
  refine sq ?_
  refine Wp.block ?_
  refine sq ?_
  refine rg fun KF hKF => ?_
  refine Fo.now rfl rfl (by simp only [↓nrmL, nrmZ, Nat.reduceEqDiff, ↓reduceIte, Nat.reduceAdd, Int.reduceBEq, Int.reduceBNe, hc, wx, wy, hi]; rfl) ?_
  refine Fo.new ?_
  refine Fo.st rfl (rfl : _ = AVal.agg _) rfl rfl rfl (by repeat (first | rfl | refine allOne_cons ?_)) (by simp only [↓nrmL, nrmZ, Nat.reduceEqDiff, ↓reduceIte, Nat.reduceAdd, Int.reduceBEq, Int.reduceBNe, hc, wx, wy, hi]; rfl) ?_
  refine WpO.nil (hKF _ _ ?_)
  refine sq ?_
  refine rg fun KF hKF => ?_
  refine Fo.ldN rfl rfl (by simp only [↓nrmL, nrmZ, Nat.reduceEqDiff, ↓reduceIte, Nat.reduceAdd, Int.reduceBEq, Int.reduceBNe, hc, wx, wy, hi]; rfl) ?_
  refine mI rfl ?_
  refine Fo.fa rfl ?_
  refine Fo.ld rfl rfl ?_
  refine Fo.bin rfl rfl rfl (by simp only [↓nrmL, nrmZ, Nat.reduceEqDiff, ↓reduceIte, Nat.reduceAdd, Int.reduceBEq, Int.reduceBNe, hc, wx, wy, hi]; rfl) ?_
  refine mI rfl ?_
  refine Fo.fa rfl ?_
  refine Fo.ld rfl rfl ?_
  refine Fo.bin rfl rfl rfl (by simp only [↓nrmL, nrmZ, Nat.reduceEqDiff, ↓reduceIte, Nat.reduceAdd, Int.reduceBEq, Int.reduceBNe, hc, wx, wy, hi]; rfl) ?_
  refine Fo.pcall (v' := ?_) hn rfl (by simp only [↓nrmL, nrmZ, Nat.reduceEqDiff, ↓reduceIte, Nat.reduceAdd, Int.reduceBEq, Int.reduceBNe, hc, wx, wy, hi, List.map]; rfl) rfl ?hv fun _ _ => ?_; case hv => (simp only [↓nrmL, nrmZ, Nat.reduceEqDiff, ↓reduceIte, Nat.reduceAdd, Int.reduceBEq, Int.reduceBNe, hc, wx, wy, hi]; rfl)
  refine WpO.nil (hKF _ _ ?_)
  dsimp only [cond_true, cond_false]
  cases hv : ringF a b l x y 4
  ·skip
   refine Wp.cond (b := false) rfl ?_
   refine Wp.skip ?_
   refine rg fun KF hKF => ?_
   refine Fo.bin rfl rfl rfl rfl ?_
   refine mI rfl ?_
   refine WpO.nil (hKF _ _ ?_)
   dsimp only [cond_true, cond_false]
   refine ⟨4 + 1, by omega, ⟨rfl, trivial⟩, by omega, by rw [dst_off hv]; infer_instance, inferInstance, inferInstance, inferInstance, ExtP0.ext⟩
  ·obtain ⟨u, v, e1, e2, hu, hvb, _⟩ := inkB_true hv
   have e1' : (x : Int) + 0 = (u : Int) := e1
   have e2' : (y : Int) + 1 = (v : Int) := e2
   have hidx := idx_lt hu hvb
   have hva : v * a ≤ 640 * 640 := Nat.mul_le_mul (by omega) ha
   have m1 : IntKind.i64.wrap (((y : Int) + 1) * (a : Int)) = ((v * a : Nat) : Int) := by rw [e2']; exact wm (by omega)
   have m2 : IntKind.i64.wrap (((v * a : Nat) : Int) + (x : Int)) = ((v * a + x : Nat) : Int) := wa (by omega)
   have m3 : IntKind.i64.wrap (((v * a + x : Nat) : Int) + 0) = ((v * a + u : Nat) : Int) := by rw [w64 (by omega)]; omega
   have hlen := dst_length (a := a) (b := b) (r := l) (x := (x : Int)) (y := (y : Int)) (d := D) 4
   try simp only [↓nrmL, nrmZ, Nat.reduceEqDiff, ↓reduceIte, Nat.reduceAdd, Int.reduceBEq, Int.reduceBNe, wy, m1, m2, m3]
   refine Wp.cond (b := true) rfl ?_
   refine rg fun KF hKF => ?_
   refine Fo.mov (by simp only [↓nrmL, nrmK, Nat.reduceEqDiff, ↓reduceIte]; rfl) ?_
   refine mI rfl ?_
   refine Fo.fa rfl ?_
   refine Fo.ld rfl rfl ?_
   refine Fo.bin rfl rfl rfl (by simp only [↓nrmL, nrmZ, Nat.reduceEqDiff, ↓reduceIte, Nat.reduceAdd, Int.reduceBEq, Int.reduceBNe, wy, m1, m2, m3]; rfl) ?_
   refine Fo.fa rfl ?_
   refine Fo.ld rfl rfl ?_
   refine Fo.bin rfl rfl rfl (by simp only [↓nrmL, nrmZ, Nat.reduceEqDiff, ↓reduceIte, Nat.reduceAdd, Int.reduceBEq, Int.reduceBNe, wy, m1, m2, m3]; rfl) ?_
   refine mI rfl ?_
   refine Fo.bin rfl rfl rfl (by simp only [↓nrmL, nrmZ, Nat.reduceEqDiff, ↓reduceIte, Nat.reduceAdd, Int.reduceBEq, Int.reduceBNe, wy, m1, m2, m3]; rfl) ?_
   refine Fo.fa rfl ?_
   refine Fo.ld rfl rfl ?_
   refine Fo.bin rfl rfl rfl (by simp only [↓nrmL, nrmZ, Nat.reduceEqDiff, ↓reduceIte, Nat.reduceAdd, Int.reduceBEq, Int.reduceBNe, wy, m1, m2, m3]; rfl) ?_
   refine Fo.idx (by simp only [↓nrmL, nrmK, Nat.reduceEqDiff, ↓reduceIte]; rfl) rfl ?_ (by simp only [↓nrmL, nrmZ, Nat.reduceEqDiff, ↓reduceIte, Nat.reduceAdd, Int.reduceBEq, Int.reduceBNe, wy, m1, m2, m3]; rfl) ?_; (focus omega)
   refine WpO.do' (WpX.stB (p := d) (j := v * a + u) (l := dstL a b l x y 4 D) 1 rfl rfl rfl (by rw [hlen, hD]; exact hidx) fun H6 hb6 hw6 hx6 => ?_)
   rw [← dst_on hv e1 e2] at hb6
   refine WpO.nil (hKF _ _ ?_)
   refine rg fun KF hKF => ?_
   refine Fo.bin rfl rfl rfl rfl ?_
   refine mI rfl ?_
   refine WpO.nil (hKF _ _ ?_)
   dsimp only [cond_true, cond_false]
   refine ⟨4 + 1, by omega, ⟨rfl, trivial⟩, by omega, hb6, hw6, inferInstance, inferInstance, ExtP0.ext⟩
 ·have hc : decide (((5 : Nat) : Int) < 8) = true := rfl
  have wx : IntKind.i64.wrap ((x : Int) + (-1)) = (x : Int) + (-1) := w64 (by omega)
  have wy : IntKind.i64.wrap ((y : Int) + 1) = (y : Int) + 1 := w64 (by omega)
  have hi : inkB a b l ((x : Int) + (-1)) ((y : Int) + 1) = ringF a b l x y 5 := rfl
  try simp only [↓nrmL, nrmZ, Nat.reduceEqDiff, ↓reduceIte, Nat.reduceAdd, Int.reduceBEq, Int.reduceBNe, hc, wx, wy, hi]
  refine sq ?_
  refine rg fun KF hKF => ?_
  refine Fo.bin rfl rfl rfl (by simp only [↓nrmL, nrmZ, Nat.reduceEqDiff, ↓reduceIte, Nat.reduceAdd, Int.reduceBEq, Int.reduceBNe, hc, wx, wy, hi]; rfl) ?_
  refine WpO.nil (hKF _ _ ?_)
  refine sq ?_
  refine Wp.cond (b := true) rfl ?_
  refine Wp.skip ?_
  refine sq ?_
  refine Wp.block ?_
  refine sq ?_
  refine rg fun KF hKF => ?_
  refine Fo.now rfl rfl (by simp only [↓nrmL, nrmZ, Nat.reduceEqDiff, ↓reduceIte, Nat.reduceAdd, Int.reduceBEq, Int.reduceBNe, hc, wx, wy, hi]; rfl) ?_
  refine Fo.new ?_
  refine Fo.st rfl (rfl : _ = AVal.agg _) rfl rfl rfl (by repeat (first | rfl | refine allOne_cons ?_)) (by simp only [↓nrmL, nrmZ, Nat.reduceEqDiff, ↓reduceIte, Nat.reduceAdd, Int.reduceBEq, Int.reduceBNe, hc, wx, wy, hi]; rfl) ?_
  refine WpO.nil (hKF _ _ ?_)
  refine sq ?_
  refine rg fun KF hKF => ?_
  refine Fo.ldN rfl rfl (by simp only [↓nrmL, nrmZ, Nat.reduceEqDiff, ↓reduceIte, Nat.reduceAdd, Int.reduceBEq, Int.reduceBNe, hc, wx, wy, hi]; rfl) ?_
  refine mI rfl ?_
  refine Fo.fa rfl ?_
  refine Fo.ld rfl rfl ?_
  refine Fo.bin rfl rfl rfl (by simp only [↓nrmL, nrmZ, Nat.reduceEqDiff, ↓reduceIte, Nat.reduceAdd, Int.reduceBEq, Int.reduceBNe, hc, wx, wy, hi]; rfl) ?_
  refine mI rfl ?_
  refine Fo.fa rfl ?_
  refine Fo.ld rfl rfl ?_
  refine Fo.bin rfl rfl rfl (by simp only [↓nrmL, nrmZ, Nat.reduceEqDiff, ↓reduceIte, Nat.reduceAdd, Int.reduceBEq, Int.reduceBNe, hc, wx, wy, hi]; rfl) ?_
  refine Fo.pcall (v' := ?_) hn rfl (by simp only [↓nrmL, nrmZ, Nat.reduceEqDiff, ↓reduceIte, Nat.reduceAdd, Int.reduceBEq, Int.reduceBNe, hc, wx, wy, hi, List.map]; rfl) rfl ?hv fun _ _ => ?_; case hv => (simp only [↓nrmL, nrmZ, Nat.reduceEqDiff, ↓reduceIte, Nat.reduceAdd, Int.reduceBEq, Int.reduceBNe, hc, wx, wy, hi]; rfl)
  refine WpO.nil (hKF _ _ ?_)
  dsimp only [cond_true, cond_false]
  cases hv : ringF a b l x y 5
  ·skip
   refine Wp.cond (b := false) rfl ?_
   refine Wp.skip ?_
   refine rg fun KF hKF => ?_
   refine Fo.bin rfl rfl rfl rfl ?_
   refine mI rfl ?_
   refine WpO.nil (hKF _ _ ?_)
   dsimp only [cond_true, cond_false]
   refine ⟨5 + 1, by omega, ⟨rfl, trivial⟩, by omega, by rw [dst_off hv]; infer_instance, inferInstance, inferInstance, inferInstance, ExtP0.ext⟩
  ·obtain ⟨u, v, e1, e2, hu, hvb, _⟩ := inkB_true hv
   have e1' : (x : Int) + (-1) = (u : Int) := e1
   have e2' : (y : Int) + 1 = (v : Int) := e2
   have hidx := idx_lt hu hvb
   have hva : v * a ≤ 640 * 640 := Nat.mul_le_mul (by omega) ha
   have m1 : IntKind.i64.wrap (((y : Int) + 1) * (a : Int)) = ((v * a : Nat) : Int) := by rw [e2']; exact wm (by omega)
   have m2 : IntKind.i64.wrap (((v * a : Nat) : Int) + (x : Int)) = ((v * a + x : Nat) : Int) := wa (by omega)
   have m3 : IntKind.i64.wrap (((v * a + x : Nat) : Int) + (-1)) = ((v * a + u : Nat) : Int) := by rw [w64 (by omega)]; omega
   have hlen := dst_length (a := a) (b := b) (r := l) (x := (x : Int)) (y := (y : Int)) (d := D) 5
   try simp only [↓nrmL, nrmZ, Nat.reduceEqDiff, ↓reduceIte, Nat.reduceAdd, Int.reduceBEq, Int.reduceBNe, wy, m1, m2, m3]
   refine Wp.cond (b := true) rfl ?_
   refine rg fun KF hKF => ?_
   refine Fo.mov (by simp only [↓nrmL, nrmK, Nat.reduceEqDiff, ↓reduceIte]; rfl) ?_
   refine mI rfl ?_
   refine Fo.fa rfl ?_
   refine Fo.ld rfl rfl ?_
   refine Fo.bin rfl rfl rfl (by simp only [↓nrmL, nrmZ, Nat.reduceEqDiff, ↓reduceIte, Nat.reduceAdd, Int.reduceBEq, Int.reduceBNe, wy, m1, m2, m3]; rfl) ?_
   refine Fo.fa rfl ?_
   refine Fo.ld rfl rfl ?_
   refine Fo.bin rfl rfl rfl (by simp only [↓nrmL, nrmZ, Nat.reduceEqDiff, ↓reduceIte, Nat.reduceAdd, Int.reduceBEq, Int.reduceBNe, wy, m1, m2, m3]; rfl) ?_
   refine mI rfl ?_
   refine Fo.bin rfl rfl rfl (by simp only [↓nrmL, nrmZ, Nat.reduceEqDiff, ↓reduceIte, Nat.reduceAdd, Int.reduceBEq, Int.reduceBNe, wy, m1, m2, m3]; rfl) ?_
   refine Fo.fa rfl ?_
   refine Fo.ld rfl rfl ?_
   refine Fo.bin rfl rfl rfl (by simp only [↓nrmL, nrmZ, Nat.reduceEqDiff, ↓reduceIte, Nat.reduceAdd, Int.reduceBEq, Int.reduceBNe, wy, m1, m2, m3]; rfl) ?_
   refine Fo.idx (by simp only [↓nrmL, nrmK, Nat.reduceEqDiff, ↓reduceIte]; rfl) rfl ?_ (by simp only [↓nrmL, nrmZ, Nat.reduceEqDiff, ↓reduceIte, Nat.reduceAdd, Int.reduceBEq, Int.reduceBNe, wy, m1, m2, m3]; rfl) ?_; (focus omega)
   refine WpO.do' (WpX.stB (p := d) (j := v * a + u) (l := dstL a b l x y 5 D) 1 rfl rfl rfl (by rw [hlen, hD]; exact hidx) fun H6 hb6 hw6 hx6 => ?_)
   rw [← dst_on hv e1 e2] at hb6
   refine WpO.nil (hKF _ _ ?_)
   refine rg fun KF hKF => ?_
   refine Fo.bin rfl rfl rfl rfl ?_
   refine mI rfl ?_
   refine WpO.nil (hKF _ _ ?_)
   dsimp only [cond_true, cond_false]
   refine ⟨5 + 1, by omega, ⟨rfl, trivial⟩, by omega, hb6, hw6, inferInstance, inferInstance, ExtP0.ext⟩
 ·have hc : decide (((6 : Nat) : Int) < 8) = true := rfl
  have wx : IntKind.i64.wrap ((x : Int) + (-1)) = (x : Int) + (-1) := w64 (by omega)
  have wy : IntKind.i64.wrap ((y : Int) + 0) = (y : Int) + 0 := w64 (by omega)
  have hi : inkB a b l ((x : Int) + (-1)) ((y : Int) + 0) = ringF a b l x y 6 := rfl
  try simp only [↓nrmL, nrmZ, Nat.reduceEqDiff, ↓reduceIte, Nat.reduceAdd, Int.reduceBEq, Int.reduceBNe, hc, wx, wy, hi]
  refine sq ?_
  refine rg fun KF hKF => ?_
  refine Fo.bin rfl rfl rfl (by simp only [↓nrmL, nrmZ, Nat.reduceEqDiff, ↓reduceIte, Nat.reduceAdd, Int.reduceBEq, Int.reduceBNe, hc, wx, wy, hi]; rfl) ?_
  refine WpO.nil (hKF _ _ ?_)
  refine sq ?_
  refine Wp.cond (b := true) rfl ?_
  refine Wp.skip ?_
  refine sq ?_
  refine Wp.block ?_
  refine sq ?_
  refine rg fun KF hKF => ?_
  refine Fo.now rfl rfl (by simp only [↓nrmL, nrmZ, Nat.reduceEqDiff, ↓reduceIte, Nat.reduceAdd, Int.reduceBEq, Int.reduceBNe, hc, wx, wy, hi]; rfl) ?_
  refine Fo.new ?_
  refine Fo.st rfl (rfl : _ = AVal.agg _) rfl rfl rfl (by repeat (first | rfl | refine allOne_cons ?_)) (by simp only [↓nrmL, nrmZ, Nat.reduceEqDiff, ↓reduceIte, Nat.reduceAdd, Int.reduceBEq, Int.reduceBNe, hc, wx, wy, hi]; rfl) ?_
  refine WpO.nil (hKF _ _ ?_)
  refine sq ?_
  refine rg fun KF hKF => ?_
  refine Fo.ldN rfl rfl (by simp only [↓nrmL, nrmZ, Nat.reduceEqDiff, ↓reduceIte, Nat.reduceAdd, Int.reduceBEq, Int.reduceBNe, hc, wx, wy, hi]; rfl) ?_
  refine mI rfl ?_
  refine Fo.fa rfl ?_
  refine Fo.ld rfl rfl ?_
  refine Fo.bin rfl rfl rfl (by simp only [↓nrmL, nrmZ, Nat.reduceEqDiff, ↓reduceIte, Nat.reduceAdd, Int.reduceBEq, Int.reduceBNe, hc, wx, wy, hi]; rfl) ?_
  refine mI rfl ?_
  refine Fo.fa rfl ?_
  refine Fo.ld rfl rfl ?_
  refine Fo.bin rfl rfl rfl (by simp only [↓nrmL, nrmZ, Nat.reduceEqDiff, ↓reduceIte, Nat.reduceAdd, Int.reduceBEq, Int.reduceBNe, hc, wx, wy, hi]; rfl) ?_
  refine Fo.pcall (v' := ?_) hn rfl (by simp only [↓nrmL, nrmZ, Nat.reduceEqDiff, ↓reduceIte, Nat.reduceAdd, Int.reduceBEq, Int.reduceBNe, hc, wx, wy, hi, List.map]; rfl) rfl ?hv fun _ _ => ?_; case hv => (simp only [↓nrmL, nrmZ, Nat.reduceEqDiff, ↓reduceIte, Nat.reduceAdd, Int.reduceBEq, Int.reduceBNe, hc, wx, wy, hi]; rfl)
  refine WpO.nil (hKF _ _ ?_)
  dsimp only [cond_true, cond_false]
  cases hv : ringF a b l x y 6
  ·skip
   refine Wp.cond (b := false) rfl ?_
   refine Wp.skip ?_
   refine rg fun KF hKF => ?_
   refine Fo.bin rfl rfl rfl rfl ?_
   refine mI rfl ?_
   refine WpO.nil (hKF _ _ ?_)
   dsimp only [cond_true, cond_false]
   refine ⟨6 + 1, by omega, ⟨rfl, trivial⟩, by omega, by rw [dst_off hv]; infer_instance, inferInstance, inferInstance, inferInstance, ExtP0.ext⟩
  ·obtain ⟨u, v, e1, e2, hu, hvb, _⟩ := inkB_true hv
   have e1' : (x : Int) + (-1) = (u : Int) := e1
   have e2' : (y : Int) + 0 = (v : Int) := e2
   have hidx := idx_lt hu hvb
   have hva : v * a ≤ 640 * 640 := Nat.mul_le_mul (by omega) ha
   have m1 : IntKind.i64.wrap (((y : Int) + 0) * (a : Int)) = ((v * a : Nat) : Int) := by rw [e2']; exact wm (by omega)
   have m2 : IntKind.i64.wrap (((v * a : Nat) : Int) + (x : Int)) = ((v * a + x : Nat) : Int) := wa (by omega)
   have m3 : IntKind.i64.wrap (((v * a + x : Nat) : Int) + (-1)) = ((v * a + u : Nat) : Int) := by rw [w64 (by omega)]; omega
   have hlen := dst_length (a := a) (b := b) (r := l) (x := (x : Int)) (y := (y : Int)) (d := D) 6
   try simp only [↓nrmL, nrmZ, Nat.reduceEqDiff, ↓reduceIte, Nat.reduceAdd, Int.reduceBEq, Int.reduceBNe, wy, m1, m2, m3]
   refine Wp.cond (b := true) rfl ?_
   refine rg fun KF hKF => ?_
   refine Fo.mov (by simp only [↓nrmL, nrmK, Nat.reduceEqDiff, ↓reduceIte]; rfl) ?_
   refine mI rfl ?_
   refine Fo.fa rfl ?_
   refine Fo.ld rfl rfl ?_
   refine Fo.bin rfl rfl rfl (by simp only [↓nrmL, nrmZ, Nat.reduceEqDiff, ↓reduceIte, Nat.reduceAdd, Int.reduceBEq, Int.reduceBNe, wy, m1, m2, m3]; rfl) ?_
   refine Fo.fa rfl ?_
   refine Fo.ld rfl rfl ?_
   refine Fo.bin rfl rfl rfl (by simp only [↓nrmL, nrmZ, Nat.reduceEqDiff, ↓reduceIte, Nat.reduceAdd, Int.reduceBEq, Int.reduceBNe, wy, m1, m2, m3]; rfl) ?_
   refine mI rfl ?_
   refine Fo.bin rfl rfl rfl (by simp only [↓nrmL, nrmZ, Nat.reduceEqDiff, ↓reduceIte, Nat.reduceAdd, Int.reduceBEq, Int.reduceBNe, wy, m1, m2, m3]; rfl) ?_
   refine Fo.fa rfl ?_
   refine Fo.ld rfl rfl ?_
   refine Fo.bin rfl rfl rfl (by simp only [↓nrmL, nrmZ, Nat.reduceEqDiff, ↓reduceIte, Nat.reduceAdd, Int.reduceBEq, Int.reduceBNe, wy, m1, m2, m3]; rfl) ?_
   refine Fo.idx (by simp only [↓nrmL, nrmK, Nat.reduceEqDiff, ↓reduceIte]; rfl) rfl ?_ (by simp only [↓nrmL, nrmZ, Nat.reduceEqDiff, ↓reduceIte, Nat.reduceAdd, Int.reduceBEq, Int.reduceBNe, wy, m1, m2, m3]; rfl) ?_; (focus omega)
   refine WpO.do' (WpX.stB (p := d) (j := v * a + u) (l := dstL a b l x y 6 D) 1 rfl rfl rfl (by rw [hlen, hD]; exact hidx) fun H6 hb6 hw6 hx6 => ?_)
   rw [← dst_on hv e1 e2] at hb6
   refine WpO.nil (hKF _ _ ?_)
   refine rg fun KF hKF => ?_
   refine Fo.bin rfl rfl rfl rfl ?_
   refine mI rfl ?_
   refine WpO.nil (hKF _ _ ?_)
   dsimp only [cond_true, cond_false]
   refine ⟨6 + 1, by omega, ⟨rfl, trivial⟩, by omega, hb6, hw6, inferInstance, inferInstance, ExtP0.ext⟩
 ·have hc : decide (((7 : Nat) : Int) < 8) = true := rfl
  have wx : IntKind.i64.wrap ((x : Int) + (-1)) = (x : Int) + (-1) := w64 (by omega)
  have wy : IntKind.i64.wrap ((y : Int) + (-1)) = (y : Int) + (-1) := w64 (by omega)
  have hi : inkB a b l ((x : Int) + (-1)) ((y : Int) + (-1)) = ringF a b l x y 7 := rfl
  try simp only [↓nrmL, nrmZ, Nat.reduceEqDiff, ↓reduceIte, Nat.reduceAdd, Int.reduceBEq, Int.reduceBNe, hc, wx, wy, hi]
  refine sq ?_
  refine rg fun KF hKF => ?_
  refine Fo.bin rfl rfl rfl (by simp only [↓nrmL, nrmZ, Nat.reduceEqDiff, ↓reduceIte, Nat.reduceAdd, Int.reduceBEq, Int.reduceBNe, hc, wx, wy, hi]; rfl) ?_
  refine WpO.nil (hKF _ _ ?_)
  refine sq ?_
  refine Wp.cond (b := true) rfl ?_
  refine Wp.skip ?_
  refine sq ?_
  refine Wp.block ?_
  refine sq ?_
  refine rg fun KF hKF => ?_
  refine Fo.now rfl rfl (by simp only [↓nrmL, nrmZ, Nat.reduceEqDiff, ↓reduceIte, Nat.reduceAdd, Int.reduceBEq, Int.reduceBNe, hc, wx, wy, hi]; rfl) ?_
  refine Fo.new ?_
  refine Fo.st rfl (rfl : _ = AVal.agg _) rfl rfl rfl (by repeat (first | rfl | refine allOne_cons ?_)) (by simp only [↓nrmL, nrmZ, Nat.reduceEqDiff, ↓reduceIte, Nat.reduceAdd, Int.reduceBEq, Int.reduceBNe, hc, wx, wy, hi]; rfl) ?_
  refine WpO.nil (hKF _ _ ?_)
  refine sq ?_
  refine rg fun KF hKF => ?_
  refine Fo.ldN rfl rfl (by simp only [↓nrmL, nrmZ, Nat.reduceEqDiff, ↓reduceIte, Nat.reduceAdd, Int.reduceBEq, Int.reduceBNe, hc, wx, wy, hi]; rfl) ?_
  refine mI rfl ?_
  refine Fo.fa rfl ?_
  refine Fo.ld rfl rfl ?_
  refine Fo.bin rfl rfl rfl (by simp only [↓nrmL, nrmZ, Nat.reduceEqDiff, ↓reduceIte, Nat.reduceAdd, Int.reduceBEq, Int.reduceBNe, hc, wx, wy, hi]; rfl) ?_
  refine mI rfl ?_
  refine Fo.fa rfl ?_
  refine Fo.ld rfl rfl ?_
  refine Fo.bin rfl rfl rfl (by simp only [↓nrmL, nrmZ, Nat.reduceEqDiff, ↓reduceIte, Nat.reduceAdd, Int.reduceBEq, Int.reduceBNe, hc, wx, wy, hi]; rfl) ?_
  refine Fo.pcall (v' := ?_) hn rfl (by simp only [↓nrmL, nrmZ, Nat.reduceEqDiff, ↓reduceIte, Nat.reduceAdd, Int.reduceBEq, Int.reduceBNe, hc, wx, wy, hi, List.map]; rfl) rfl ?hv fun _ _ => ?_; case hv => (simp only [↓nrmL, nrmZ, Nat.reduceEqDiff, ↓reduceIte, Nat.reduceAdd, Int.reduceBEq, Int.reduceBNe, hc, wx, wy, hi]; rfl)
  refine WpO.nil (hKF _ _ ?_)
  dsimp only [cond_true, cond_false]
  cases hv : ringF a b l x y 7
  ·skip
   refine Wp.cond (b := false) rfl ?_
   refine Wp.skip ?_
   refine rg fun KF hKF => ?_
   refine Fo.bin rfl rfl rfl rfl ?_
   refine mI rfl ?_
   refine WpO.nil (hKF _ _ ?_)
   dsimp only [cond_true, cond_false]
   refine ⟨7 + 1, by omega, ⟨rfl, trivial⟩, by omega, by rw [dst_off hv]; infer_instance, inferInstance, inferInstance, inferInstance, ExtP0.ext⟩
  ·obtain ⟨u, v, e1, e2, hu, hvb, _⟩ := inkB_true hv
   have e1' : (x : Int) + (-1) = (u : Int) := e1
   have e2' : (y : Int) + (-1) = (v : Int) := e2
   have hidx := idx_lt hu hvb
   have hva : v * a ≤ 640 * 640 := Nat.mul_le_mul (by omega) ha
   have m1 : IntKind.i64.wrap (((y : Int) + (-1)) * (a : Int)) = ((v * a : Nat) : Int) := by rw [e2']; exact wm (by omega)
   have m2 : IntKind.i64.wrap (((v * a : Nat) : Int) + (x : Int)) = ((v * a + x : Nat) : Int) := wa (by omega)
   have m3 : IntKind.i64.wrap (((v * a + x : Nat) : Int) + (-1)) = ((v * a + u : Nat) : Int) := by rw [w64 (by omega)]; omega
   have hlen := dst_length (a := a) (b := b) (r := l) (x := (x : Int)) (y := (y : Int)) (d := D) 7
   try simp only [↓nrmL, nrmZ, Nat.reduceEqDiff, ↓reduceIte, Nat.reduceAdd, Int.reduceBEq, Int.reduceBNe, wy, m1, m2, m3]
   refine Wp.cond (b := true) rfl ?_
   refine rg fun KF hKF => ?_
   refine Fo.mov (by simp only [↓nrmL, nrmK, Nat.reduceEqDiff, ↓reduceIte]; rfl) ?_
   refine mI rfl ?_
   refine Fo.fa rfl ?_
   refine Fo.ld rfl rfl ?_
   refine Fo.bin rfl rfl rfl (by simp only [↓nrmL, nrmZ, Nat.reduceEqDiff, ↓reduceIte, Nat.reduceAdd, Int.reduceBEq, Int.reduceBNe, wy, m1, m2, m3]; rfl) ?_
   refine Fo.fa rfl ?_
   refine Fo.ld rfl rfl ?_
   refine Fo.bin rfl rfl rfl (by simp only [↓nrmL, nrmZ, Nat.reduceEqDiff, ↓reduceIte, Nat.reduceAdd, Int.reduceBEq, Int.reduceBNe, wy, m1, m2, m3]; rfl) ?_
   refine mI rfl ?_
   refine Fo.bin rfl rfl rfl (by simp only [↓nrmL, nrmZ, Nat.reduceEqDiff, ↓reduceIte, Nat.reduceAdd, Int.reduceBEq, Int.reduceBNe, wy, m1, m2, m3]; rfl) ?_
   refine Fo.fa rfl ?_
   refine Fo.ld rfl rfl ?_
   refine Fo.bin rfl rfl rfl (by simp only [↓nrmL, nrmZ, Nat.reduceEqDiff, ↓reduceIte, Nat.reduceAdd, Int.reduceBEq, Int.reduceBNe, wy, m1, m2, m3]; rfl) ?_
   refine Fo.idx (by simp only [↓nrmL, nrmK, Nat.reduceEqDiff, ↓reduceIte]; rfl) rfl ?_ (by simp only [↓nrmL, nrmZ, Nat.reduceEqDiff, ↓reduceIte, Nat.reduceAdd, Int.reduceBEq, Int.reduceBNe, wy, m1, m2, m3]; rfl) ?_; (focus omega)
   refine WpO.do' (WpX.stB (p := d) (j := v * a + u) (l := dstL a b l x y 7 D) 1 rfl rfl rfl (by rw [hlen, hD]; exact hidx) fun H6 hb6 hw6 hx6 => ?_)
   rw [← dst_on hv e1 e2] at hb6
   refine WpO.nil (hKF _ _ ?_)
   refine rg fun KF hKF => ?_
   refine Fo.bin rfl rfl rfl rfl ?_
   refine mI rfl ?_
   refine WpO.nil (hKF _ _ ?_)
   dsimp only [cond_true, cond_false]
   refine ⟨7 + 1, by omega, ⟨rfl, trivial⟩, by omega, hb6, hw6, inferInstance, inferInstance, ExtP0.ext⟩
 ·have hc : decide (((8 : Nat) : Int) < 8) = false := rfl
  try simp only [↓nrmL, nrmZ, Nat.reduceEqDiff, ↓reduceIte, Nat.reduceAdd, Int.reduceBEq, Int.reduceBNe, hc]
  refine sq ?_
  refine rg fun KF hKF => ?_
  refine Fo.bin rfl rfl rfl (by simp only [↓nrmL, nrmZ, Nat.reduceEqDiff, ↓reduceIte, Nat.reduceAdd, Int.reduceBEq, Int.reduceBNe, hc]; rfl) ?_
  refine WpO.nil (hKF _ _ ?_)
  refine sq ?_
  refine Wp.cond (b := false) rfl ?_
  refine Wp.exit ?_
  dsimp only [cond_true, cond_false]
  refine ⟨trivial, _, (by first | rfl | exact getAllC rfl rfl rfl rfl | exact getAllT rfl (getAllC rfl rfl rfl rfl) | exact getAllC rfl rfl rfl (getAllC rfl rfl rfl rfl) | exact getAllC1 rfl rfl rfl), ?_⟩
  exact ⟨inferInstance, inferInstance, ExtP0.ext⟩
end Go.Am

/- A stack of numbers: a list that is cut at its end, and grows there. -/
set_option maxHeartbeats 4000000
namespace Go.Am
open Go

/-- A stack of numbers, which nobody else holds; its row's type is e. -/
structure Stk (H : AHeap) (p : AVal) (e : TypeId) (l : List Int) : Prop where
  it : ∃ r cap row e', p = .slice r 0 l.length cap 1 ∧ r < H.n ∧ H.get r = .row row true e' ∧ e' / 2 = e ∧ l.length ≤ row.length ∧ row.take l.length = cellsI l ∧ (cap = none ∨ ∃ c, cap = some c ∧ 0 < c ∧ c ≤ row.length ∧ l.length ≤ c)
theorem Stk.ints {H : AHeap} {p : AVal} {e : TypeId} {l : List Int} (h : Stk H p e l) : IntsI H p l := by
  obtain ⟨r, cap, row, e', rfl, h1, h2, h3, h4, h5, h6⟩ := h.it
  refine ⟨Or.inr ⟨r, 0, cap, row, true, e', rfl, h1, h2, by omega, by rw [Nat.mul_one, List.drop_zero]; exact h5, ?_⟩⟩
  rcases h6 with rfl | ⟨c, rfl, h6, h7, h8⟩
  · exact Nat.le_refl _
  · exact h8
theorem Stk.keep {H H' : AHeap} {p : AVal} {e : TypeId} {l : List Int} (h : Stk H p e l) (hn : H.n ≤ H'.n) (hg : ∀ r off len cap sz, p = .slice r off len cap sz → r < H.n → H'.get r = H.get r) : Stk H' p e l := by
  obtain ⟨r, cap, row, e', rfl, h1, h2, h3⟩ := h.it
  exact ⟨r, cap, row, e', rfl, Nat.lt_of_lt_of_le h1 hn, by rw [hg _ _ _ _ _ rfl h1]; exact h2, h3⟩
/-- The stack without its last number. -/
theorem exec_cut {H : AHeap} {p : AVal} {e : TypeId} {l : List Int} {k : Int} (h : Stk H p e (l ++ [k])) :
    ∃ p', aSliceS 1 p none (some (.int .i64 (l.length : Int))) none H = some (p', H) ∧ Stk H p' e l ∧ (∀ r off len cap sz, p' = .slice r off len cap sz → ∃ len' cap', p = .slice r off len' cap' sz) := by
  obtain ⟨r, cap, row, e', rfl, h1, h2, h3, h4, h5, h6⟩ := h.it
  rw [List.length_append, List.length_singleton] at h4 h5
  have ht : row.take l.length = cellsI l := by
    have := congrArg (List.take l.length) h5
    rw [List.take_take, Nat.min_eq_left (Nat.le_succ _)] at this
    rw [this]
    simp only [cellsI, List.map_append]
    rw [List.take_left' (by simp)]
  rw [List.length_append, List.length_singleton]
  have hrow : aRow r H = some ((row, true), H) := by simp only [aRow, if_pos h1, h2]
  rcases h6 with rfl | ⟨c, rfl, h6, h7, h8⟩
  · refine ⟨.slice r 0 l.length none 1, ?_, ⟨r, none, row, e', rfl, h1, h2, h3, by omega, ht, Or.inl rfl⟩, fun r' off len cap sz q => by cases q; exact ⟨_, _, rfl⟩⟩
    have hb : aBounds (l.length + 1) none none (some (.int .i64 (l.length : Int))) none = some (0, l.length, none) := by
      have g1 : (0 : Int) ≤ (l.length : Int) ∧ (l.length : Int) ≤ ((capD (l.length + 1) none : Nat) : Int) := by simp only [capD]; omega
      simp only [aBounds, aHigh, aBound, aLow, Int.toNat_natCast]
      rw [if_pos g1]
    have g2 : ¬ row.length < 0 + (l.length + 1) := by omega
    simp only [aSliceS, ne_eq, not_true, if_false, hb, Nat.mul_one, Nat.one_ne_zero, M.bind, hrow, if_neg g2, or_true, if_true, M.pure, Nat.add_zero, Nat.sub_zero]
  · rw [List.length_append, List.length_singleton] at h8
    refine ⟨.slice r 0 l.length (some c) 1, ?_, ⟨r, some c, row, e', rfl, h1, h2, h3, by omega, ht, Or.inr ⟨c, rfl, h6, h7, by omega⟩⟩, fun r' off len cap sz q => by cases q; exact ⟨_, _, rfl⟩⟩
    have hb : aBounds (l.length + 1) (some c) none (some (.int .i64 (l.length : Int))) none = some (0, l.length, some c) := by
      have g1 : (0 : Int) ≤ (l.length : Int) ∧ (l.length : Int) ≤ ((capD (l.length + 1) (some c) : Nat) : Int) := by simp only [capD]; omega
      simp only [aBounds, aHigh, aBound, aLow, Int.toNat_natCast]
      rw [if_pos g1]
    have g2 : ¬ c = 0 := by omega
    simp only [aSliceS, ne_eq, not_true, if_false, hb, if_neg g2, M.pure, Nat.zero_mul, Nat.add_zero, Nat.sub_zero]
/-- The stack with one number more. -/
theorem exec_push {H : AHeap} {p q : AVal} {e : TypeId} {l : List Int} {k : Int} (h : Stk H p e l) (hq : IntsI H q [k]) (hl : 2 * (l.length + 1) * 8 ≤ 2 ^ 48) :
    ∃ p' H', aAppend e 1 8 p q H = some (p', H') ∧ Stk H' p' e (l ++ [k]) ∧ ExtP H H' p ∧ (∀ K : AHeap, K.n ≤ H.n → FreshS K p → FreshS K p') := by
  obtain ⟨hf1, hf2⟩ := aFirst_at hq
  obtain ⟨r, cap, row, e', rfl, h1, h2, h3, h4, h5, h6⟩ := h.it
  have hf1' : aLenOf q = some 1 := hf1
  have hf2' : aFirst 1 1 q H = some ([.int .i64 k], H) := hf2
  have hrow : aRow r H = some ((row, true), H) := by simp only [aRow, if_pos h1, h2]
  have hone : ([AVal.int .i64 k].all AVal.one) = true := rfl
  have hcond : (!([AVal.int .i64 k].all AVal.one) || decide ([AVal.int .i64 k].length ≠ 1 * 1) || decide (1 = 0) || decide (8 = 0)) = false := rfl
  have hput : ∀ row : List AVal, l.length + 1 ≤ row.length → row.take l.length = cellsI l → (setAt row (0 + l.length * 1) [.int .i64 k]).take (l ++ [k]).length = cellsI (l ++ [k]) := by
    intro row g1 g2
    rw [Nat.zero_add, Nat.mul_one]
    show (row.set l.length _).take _ = _
    rw [List.length_append, List.length_singleton]
    apply List.ext_getElem?
    intro i
    rw [List.getElem?_take]
    by_cases hi : i < l.length
    · have g3 := congrArg (fun z => z[i]?) g2
      simp only [List.getElem?_take, if_pos hi] at g3
      rw [if_pos (by omega), List.getElem?_set_ne (by omega), g3]
      simp only [cellsI, List.map_append]
      rw [List.getElem?_append_left (by simp; exact hi)]
    · by_cases hi' : i = l.length
      · subst hi'
        rw [if_pos (Nat.lt_succ_self _), List.getElem?_set_self (by omega)]
        simp [cellsI]
      · rw [if_neg (by omega), List.getElem?_eq_none (by simp [cellsI]; omega)]
  have hnew : (row.take l.length ++ [AVal.int .i64 k]) = cellsI (l ++ [k]) := by rw [h5]; simp [cellsI]
  have hw : ∀ _ : l.length + 1 ≤ row.length, aWrite r (0 + l.length * 1) [.int .i64 k] H = some ((), H.set r (.row (setAt row (0 + l.length * 1) [.int .i64 k]) true e')) := by
    intro g
    simp only [aWrite, if_pos h1, h2, hone, Bool.and_true, Bool.true_and]
    rw [if_pos (decide_eq_true (by simp only [List.length_singleton]; omega))]
  have hin : ∀ cap', (cap' = none ∨ ∃ c, cap' = some c ∧ 0 < c ∧ c ≤ row.length ∧ l.length + 1 ≤ c) → l.length + 1 ≤ row.length → Stk (H.set r (.row (setAt row (0 + l.length * 1) [.int .i64 k]) true e')) (.slice r 0 (l.length + 1) cap' 1) e (l ++ [k]) := by
    intro cap' g1 g2
    refine ⟨r, cap', _, e', by rw [List.length_append, List.length_singleton], h1, set_get_eq, h3, by rw [setAt_length, List.length_append, List.length_singleton]; exact g2, hput row g2 h5, ?_⟩
    rcases g1 with g1 | ⟨c, g1, g3, g4, g5⟩
    · exact Or.inl g1
    · exact Or.inr ⟨c, g1, g3, by rw [setAt_length]; exact g4, by rw [List.length_append, List.length_singleton]; exact g5⟩
  have hout : ∀ e'', e'' / 2 = e → ∀ H2 : AHeap, H2.n = H.n → Stk (H2.push (.row (cellsI (l ++ [k])) true e'')) (.slice H.n 0 (l.length + 1) none 1) e (l ++ [k]) := by
    intro e'' g H2 g2
    have hq0 : (cellsI (l ++ [k])).length = (l ++ [k]).length := cellsI_length _
    refine ⟨H.n, none, _, e'', by rw [List.length_append, List.length_singleton], by rw [← g2]; exact Nat.lt_succ_self _, by rw [← g2]; exact push_get_eq, g, by rw [hq0]; exact Nat.le_refl _, by rw [← hq0, List.take_length], Or.inl rfl⟩
  have hx : ∀ o, ExtP H (H.set r o) (.slice r 0 l.length cap 1) := fun o => ⟨Nat.le_refl _, fun s hs hne => set_get_ne (fun hh => hne.ne _ _ _ _ _ rfl hh.symm)⟩
  rcases h6 with rfl | ⟨c, rfl, h6, h7, h8⟩
  · by_cases g : l.length + 1 ≤ row.length
    · refine ⟨_, _, ?_, hin none (Or.inl rfl) g, hx _, fun K hK f => ⟨fun r' off len cap sz q => by cases q; exact f.ge _ _ _ _ _ rfl⟩⟩
      have hle : 0 + (l.length + 1) * 1 ≤ row.length := by omega
      simp only [aAppend, hf1', M.bind, hf2', hcond, Bool.false_eq_true, if_false]
      simp only [M.bind, if_false, Bool.false_eq_true, ne_eq, not_true, hrow, Nat.one_ne_zero, if_pos hle, hw g]
      rfl
    · refine ⟨.slice H.n 0 (l.length + 1) none 1, (H.set r .dead).push (.row (cellsI (l ++ [k])) true (2 * e + 1)), ?_, hout _ (half_odd _) (H.set r .dead) rfl, ⟨Nat.le_succ _, fun s hs hne => by
        rw [push_get_lt (H := H.set r .dead) hs, set_get_ne (fun hh => hne.ne _ _ _ _ _ rfl hh.symm)]⟩, fun K hK f => ⟨fun r' off len cap sz q => by cases q; exact hK⟩⟩
      have hno : ¬ 0 + (l.length + 1) * 1 ≤ row.length := by omega
      have hcl : 0 + l.length * 1 ≤ row.length := by omega
      have hmv : aMove r e (.row (((row.drop 0).take (l.length * 1)) ++ [.int .i64 k]) true (2 * e + 1)) H = some (H.n, (H.set r .dead).push (.row (cellsI (l ++ [k])) true (2 * e + 1))) := by
        simp only [aMove, h2, h3, nbeq_self]
        rw [List.drop_zero, Nat.mul_one, hnew]
      simp only [aAppend, hf1', M.bind, hf2', hcond, Bool.false_eq_true, if_false]
      simp only [M.bind, if_false, Bool.false_eq_true, ne_eq, not_true, hrow, Nat.one_ne_zero, hno, Bool.true_and, decide_eq_true hcl, decide_eq_true hl, Bool.and_true, if_true, hmv]
      rfl
  · by_cases g : l.length + 1 ≤ c
    · refine ⟨_, _, ?_, hin (some c) (Or.inr ⟨c, rfl, h6, h7, g⟩) (by omega), hx _, fun K hK f => ⟨fun r' off len cap sz q => by cases q; exact f.ge _ _ _ _ _ rfl⟩⟩
      simp only [aAppend, hf1', M.bind, hf2', hcond, Bool.false_eq_true, if_false]
      simp only [M.bind, if_false, Bool.false_eq_true, ne_eq, not_true, hrow, Nat.one_ne_zero, if_pos g, hw (by omega)]
      rfl
    · refine ⟨.slice H.n 0 (l.length + 1) none 1, H.push (.row (cellsI (l ++ [k])) true (2 * e)), ?_, hout _ (half_even _) H rfl, ⟨Nat.le_succ _, fun s hs _ => push_get_lt hs⟩, fun K hK f => ⟨fun r' off len cap sz q => by cases q; exact hK⟩⟩
      have hcl : 0 + l.length * 1 ≤ row.length := by omega
      have hand : 0 + l.length * 1 ≤ row.length ∧ 2 * (l.length + 1) * 8 ≤ 2 ^ 48 := ⟨hcl, hl⟩
      have hnw : aNew (.row (((row.drop 0).take (l.length * 1)) ++ [.int .i64 k]) true (2 * e)) H = some (H.n, H.push (.row (cellsI (l ++ [k])) true (2 * e))) := by
        rw [List.drop_zero, Nat.mul_one, hnew]; rfl
      simp only [aAppend, hf1', M.bind, hf2', hcond, Bool.false_eq_true, if_false]
      simp only [M.bind, if_false, Bool.false_eq_true, ne_eq, not_true, hrow, Nat.one_ne_zero, if_neg g, if_pos hand, hnw]
      rfl

def cN (l : List Nat) : List Int := l.map fun n : Nat => (n : Int)
theorem cN_length (l : List Nat) : (cN l).length = l.length := by simp [cN]
theorem cN_snoc (l : List Nat) (k : Nat) : cN (l ++ [k]) = cN l ++ [(k : Int)] := by simp [cN]
theorem cN_set (l : List Nat) (i k : Nat) : (cN l).set i (k : Int) = cN (l.set i k) := by simp [cN, List.map_set]
theorem cN_get {l : List Nat} {i : Nat} (h : i < (cN l).length) : (cN l)[i] = ((l.getD i 0 : Nat) : Int) := by
  have h' : i < l.length := by rw [cN_length] at h; exact h
  simp only [cN, List.getElem_map, List.getD_eq_getElem?_getD, List.getElem?_eq_getElem h', Option.getD_some]
section
variable {call : ACall} {fr : AFrame} {H : AHeap} {K : AVal → AHeap → Prop}
theorem WpX.cut {x : ROpd} {hi : Option ROpd} {p : AVal} {e : TypeId} {l : List Nat} {k : Nat} (hx : x.ev fr = p) (hhi : hi.map (·.ev fr) = some (.int .i64 (l.length : Int))) (h : Stk H p e (cN (l ++ [k])))
    (hK : ∀ p', Stk H p' e (cN l) → (∀ r off len cap sz, p' = .slice r off len cap sz → ∃ len' cap', p = .slice r off len' cap' sz) → K p' H) : WpX (.sliceS 1 x none hi none) call fr H K := by
  rw [cN_snoc] at h
  obtain ⟨p', h1, h2, h3⟩ := exec_cut h
  rw [cN_length] at h1
  exact ⟨_, _, by simp only [ROp.exec, hx, hhi, Option.map_none]; exact h1, hK p' h2 h3⟩
theorem WpX.push {e : TypeId} {x y : ROpd} {p q : AVal} {l : List Nat} {k : Nat} (hx : x.ev fr = p) (hy : y.ev fr = q) (h : Stk H p e (cN l)) (hq : IntsI H q [(k : Int)]) (hl : 2 * (l.length + 1) * 8 ≤ 2 ^ 48)
    (hK : ∀ p' H', Stk H' p' e (cN (l ++ [k])) → ExtP H H' p → (∀ K : AHeap, K.n ≤ H.n → FreshS K p → FreshS K p') → K p' H') : WpX (.append e 1 8 x y) call fr H K := by
  obtain ⟨p', H', h1, h2, h3, h4⟩ := exec_push h hq (by rw [cN_length]; exact hl)
  rw [← cN_snoc] at h2
  exact ⟨_, _, by simp only [ROp.exec, hx, hy]; exact h1, hK p' H' h2 h3 h4⟩
end
theorem ExtP.fresh {H H2 H3 : AHeap} {p q : AVal} (x : ExtP H H2 p) (y : ExtP H2 H3 q) (f : FreshS H q) : ExtP H H3 p :=
  ⟨Nat.le_trans x.n y.n, fun r hr hn => by
    rw [y.get r (Nat.lt_of_lt_of_le hr x.n) ⟨fun r' off len cap sz e => by have := f.ge _ _ _ _ _ e; omega⟩]
    exact x.get r hr hn⟩
theorem Stk.pushed {H : AHeap} {p : AVal} {e : TypeId} {l : List Int} {o : AObj} (h : Stk H p e l) : Stk (H.push o) p e l := h.keep (Nat.le_succ _) fun _ _ _ _ _ _ hr => push_get_lt hr
theorem Stk.other {H H' : AHeap} {p q : AVal} {e : TypeId} {l : List Int} (h : Stk H p e l) (x : ExtP H H' q) (k : SepS p q) : Stk H' p e l := h.keep x.n fun r _ _ _ _ e hr => x.get r hr ⟨fun r' _ _ _ _ e' => fun hh => k.ne _ _ _ _ _ _ _ _ _ _ e e' hh.symm⟩
/-- How the heap stands while a component is marked: K is the heap at the beginning, mk the marks, r5 the box with the image, wt the stack. -/
structure FHp (K : AHeap) (mk : AVal) (img : List AVal) (r5 : Nat) (wt : AVal) (W M : List Nat) (H2 : AHeap) : Prop where
  bm : IntsI H2 mk (cN M)
  wm : WrS H2 mk
  st : Stk H2 wt 3 (cN W)
  fs : FreshS K wt
  g5 : HasRow H2 r5 img true (2 * 24)
  x : ExtP K H2 mk
/-- The steps between the neighbours that count. -/
def stp (e : Bool) : Nat := bif e then 1 else 2
theorem Wp.set2 {call : ACall} {lf : Nat} {fr : AFrame} {H : AHeap} {Q : RExit → AFrame → AHeap → Prop} {d : Nat} {c : ROpd} {x y : Int} {e : Bool} (hc : c.ev fr = .bool e) (hd : fr d = .int .i64 y) (h : Q .normal (upd fr d (.int .i64 (bif e then x else y))) H) : Wp call lf (.cond c (.region [⟨some d, .mov (.val (.int .i64 x)), none⟩]) .skip) fr H Q := by
  refine Wp.cond hc ?_
  cases e
  · refine Wp.skip ?_
    have : upd fr d (.int .i64 y) = fr := by
      funext i
      rw [upd_at]
      split
      · next q => rw [q, hd]
      · rfl
    rwa [show (bif false then x else y) = y from rfl, this] at h
  · exact Wp.region (WpO.do (WpX.mov (WpO.nil h)))
/-- The table of the neighbours, as a row. -/
theorem tab_row {H : AHeap} (h : Tabs H) : ∃ rw e, HasRow H 0 aroundCs rw e := by
  obtain ⟨h1, rw, e, h2⟩ := tabs_iff.1 h.it
  exact ⟨rw, e, ⟨h1, h2⟩⟩
theorem getD_setN {M : List Nat} {k v : Nat} (h : k < M.length) : (fun i => (M.set k v).getD i 0) = fun i => if i = k then v else M.getD i 0 := by
  funext i
  simp only [List.getD_eq_getElem?_getD]
  by_cases hi : i = k
  · subst hi; rw [if_pos rfl, List.getElem?_set_self h]; rfl
  · rw [if_neg hi, List.getElem?_set_ne (fun e => hi e.symm)]
theorem count_setN {M : List Nat} {k v : Nat} (h : k < M.length) (h0 : M.getD k 0 = 0) (hv : 0 < v) : (M.set k v).count 0 + 1 = M.count 0 := by
  have hk : M[k] = 0 := by
    rw [List.getD_eq_getElem?_getD, List.getElem?_eq_getElem h, Option.getD_some] at h0; exact h0
  have hm : 0 < M.count 0 := List.count_pos_iff.2 (hk ▸ List.getElem_mem h)
  have hvz : (v == 0) = false := by simpa using (by omega : v ≠ 0)
  rw [List.count_set h, hk, hvz]
  simp only [beq_self_eq_true, if_true, Bool.false_eq_true, if_false]
  omega
theorem Fits.len {a b : Nat} {l : List UInt8} (h : Fits a b l) : l.length = a * b := by
  have := h.it
  simp only [sizedB, sideB, Bool.and_eq_true, beq_iff_eq, decide_eq_true_eq] at this
  obtain ⟨⟨⟨h1, h2⟩, h3, h4⟩, h5⟩ := this
  have := Nat.mul_le_mul (show a ≤ 640 by omega) (show b ≤ 640 by omega)
  rw [wm (by omega)] at h5
  omega
theorem snoc_cases (W : List Nat) : W = [] ∨ ∃ W' w, W = W' ++ [w] := by
  rcases List.eq_nil_or_concat W with h | ⟨W', w, h⟩
  · exact Or.inl h
  · exact Or.inr ⟨W', w, by rw [h, List.concat_eq_append]⟩
section
variable {l : List UInt8} {a b : Nat} {e : Bool} {M0 : Nat → Nat} {s n w T : Nat} {W M : List Nat}
theorem ring_nb {t j : Nat} (h : isNb a b w t j) : ringF a b l ((w % a : Nat) : Int) ((w / a : Nat) : Int) t = (l.getD j 0 == 1) := by
  obtain ⟨u, v, hu, hv, e1, e2, rfl⟩ := h
  show inkB a b l (_ + _) (_ + _) = _
  rw [← e1, ← e2]; exact inkB_mk hu hv
theorem nb_unique {t j k : Nat} (h : isNb a b w t j) (g : isNb a b w t k) : j = k := by
  obtain ⟨u, v, _, _, e1, e2, rfl⟩ := h
  obtain ⟨u', v', _, _, e1', e2', rfl⟩ := g
  have h1 : u = u' := by omega
  have h2 : v = v' := by omega
  rw [h1, h2]
theorem stp_even (h : T % stp e = 0) : e = true ∨ T % 2 = 0 := by
  cases e
  · exact Or.inr h
  · exact Or.inl rfl
theorem Flood.next0 {M : Nat → Nat} (h : Flood l a b e M0 s n M W (some (w, T))) (he : T % stp e = 0) (hk : ∀ j, isNb a b w T j → l.getD j 0 = 1 → M j ≠ 0) : Flood l a b e M0 s n M W (some (w, T + stp e)) := by
  refine h.keep fun t h1 h2 h3 j hj hl => ?_
  rcases Nat.lt_or_eq_of_le h1 with h4 | rfl
  · cases e
    · have h5 : T % 2 = 0 := he
      have h6 : t < T + 2 := h2
      rcases h3 with h3 | h3
      · cases h3
      · omega
    · have h6 : t < T + 1 := h2
      omega
  · exact hk j hj hl
theorem Flood.off (h : Flood l a b e M0 s n (fun i => M.getD i 0) W (some (w, T))) (he : T % stp e = 0) (hv : ringF a b l ((w % a : Nat) : Int) ((w / a : Nat) : Int) T = false) : Flood l a b e M0 s n (fun i => M.getD i 0) W (some (w, T + stp e)) :=
  h.next0 he fun j hj hl => by rw [ring_nb hj, hl] at hv; cases hv
theorem Flood.been (h : Flood l a b e M0 s n (fun i => M.getD i 0) W (some (w, T))) (he : T % stp e = 0) {k : Nat} (hk : isNb a b w T k) (h0 : M.getD k 0 ≠ 0) : Flood l a b e M0 s n (fun i => M.getD i 0) W (some (w, T + stp e)) :=
  h.next0 he fun j hj _ => by rw [nb_unique hj hk]; exact h0
theorem Flood.add (h : Flood l a b e M0 s n (fun i => M.getD i 0) W (some (w, T))) (he : T % stp e = 0) {k : Nat} (hT : T < 8) (hk : isNb a b w T k) (hl : l.getD k 0 = 1) (h0 : M.getD k 0 = 0) (hm : Whole l a b e M0 n) (hn : 0 < n) (hkM : k < M.length) : Flood l a b e M0 s n (fun i => (M.set k n).getD i 0) (W ++ [k]) (some (w, T + stp e)) := by
  have h1 := h.mark hn hT (stp_even he) hk hl h0 hm
  rw [← getD_setN hkM] at h1
  refine h1.next0 he fun j hj _ => ?_
  rw [nb_unique hj hk, congrFun (getD_setN hkM) k, if_pos rfl]; omega
end
theorem wd {x : Nat} {d : Int} (h : x ≤ 640) (hd : -1 ≤ d ∧ d ≤ 1) : IntKind.i64.wrap ((x : Int) + d) = (x : Int) + d := w64 (by omega)
theorem one_ints {H : AHeap} {k : Int} {e : TypeId} : IntsI (H.push (.row [.int .i64 k] true e)) (.slice H.n 0 1 (some 1) 1) [k] := ⟨Or.inr ⟨H.n, 0, some 1, _, true, e, rfl, Nat.lt_succ_self _, push_get_eq, Nat.le_refl _, rfl, Nat.le_refl _⟩⟩
end Go.Am

/- Components with numbers: in the order of their first pixels. -/
set_option maxHeartbeats 4000000
namespace Go.Am
open Go
/-- The components that begin before i are marked, with the numbers of their first pixels in L, from 1. -/
structure Lab (l : List UInt8) (a b : Nat) (e : Bool) (M : List Nat) (L : List Nat) (i : Nat) : Prop where
  len : M.length = a * b
  whole : Whole l a b e (fun j => M.getD j 0) (L.length + 1)
  seen : ∀ j, j < i → l.getD j 0 = 1 → M.getD j 0 ≠ 0
  lead : ∀ m ∈ L, m < i ∧ Lead l a b e m m
  inc : L.Pairwise (· < ·)
  num : ∀ j, M.getD j 0 ≠ 0 → ∃ m, L[M.getD j 0 - 1]? = some m ∧ Reach l a b e m j
theorem getD_zeros (n i : Nat) : (List.replicate n 0).getD i 0 = 0 := by
  rw [List.getD_eq_getElem?_getD, List.getElem?_replicate]
  split <;> rfl
section
variable {l : List UInt8} {a b : Nat} {e : Bool} {M L : List Nat} {i : Nat}
theorem Lab.begin : Lab l a b e (List.replicate (a * b) 0) [] 0 :=
  ⟨List.length_replicate .., ⟨fun i => by show (List.replicate (a * b) 0).getD i 0 < _; rw [getD_zeros]; exact Nat.one_pos, fun i h => absurd (getD_zeros _ _) h, fun i j h => absurd (getD_zeros _ _) h⟩, fun j h => absurd h (Nat.not_lt_zero _), fun m h => (by cases h), List.Pairwise.nil, fun j h => absurd (getD_zeros _ _) h⟩
theorem Lab.skip (h : Lab l a b e M L i) (hi : l.getD i 0 = 1 → M.getD i 0 ≠ 0) : Lab l a b e M L (i + 1) :=
  ⟨h.len, h.whole, fun j hj hl => by
    rcases Nat.lt_succ_iff_lt_or_eq.1 hj with q | rfl
    · exact h.seen j q hl
    · exact hi hl, fun m hm => ⟨Nat.lt_succ_of_lt (h.lead m hm).1, (h.lead m hm).2⟩, h.inc, h.num⟩
theorem Lab.fresh (h : Lab l a b e M L i) (hi : i < a * b) (hl : l.getD i 0 = 1) (h0 : M.getD i 0 = 0) : Lead l a b e i i := by
  refine ⟨.refl hi hl, fun j hj => Nat.le_of_not_lt fun hlt => ?_⟩
  have h1 := h.seen j hlt hj.end_ok.2
  have h2 := h.whole.same j i h1 hj.symm
  exact h1 (by rw [← h2]; exact h0)
theorem Lab.next {M' : List Nat} (h : Lab l a b e M L i) (hi : i < a * b) (hl : l.getD i 0 = 1) (h0 : M.getD i 0 = 0) (hM : M'.length = a * b) (hm : ∀ j, (Reach l a b e i j → M'.getD j 0 = L.length + 1) ∧ (¬ Reach l a b e i j → M'.getD j 0 = M.getD j 0)) : Lab l a b e M' (L ++ [i]) (i + 1) := by
  classical
  have hlen : (L ++ [i]).length = L.length + 1 := by simp
  refine ⟨hM, by rw [hlen]; exact h.whole.next (Nat.succ_pos _) hi hl hm, fun j hj hlj => ?_, fun m hmm => ?_, ?_, fun j hj => ?_⟩
  · by_cases q : Reach l a b e i j
    · rw [(hm j).1 q]; exact Nat.succ_ne_zero _
    · rw [(hm j).2 q]
      rcases Nat.lt_succ_iff_lt_or_eq.1 hj with q' | rfl
      · exact h.seen j q' hlj
      · exact absurd (.refl hi hl) q
  · rcases List.mem_append.1 hmm with q | q
    · exact ⟨Nat.lt_succ_of_lt (h.lead m q).1, (h.lead m q).2⟩
    · rw [List.mem_singleton] at q; subst q
      exact ⟨Nat.lt_succ_self _, h.fresh hi hl h0⟩
  · rw [List.pairwise_append]
    exact ⟨h.inc, List.pairwise_singleton _ _, fun x hx y hy => by
      rw [List.mem_singleton] at hy; subst hy; exact (h.lead x hx).1⟩
  · by_cases q : Reach l a b e i j
    · refine ⟨i, ?_, q⟩
      rw [(hm j).1 q, Nat.add_sub_cancel, List.getElem?_append_right (Nat.le_refl _), Nat.sub_self]; rfl
    · rw [(hm j).2 q] at hj ⊢
      obtain ⟨m, h1, h2⟩ := h.num j hj
      refine ⟨m, ?_, h2⟩
      rw [List.getElem?_append_left (by
        rcases Nat.lt_or_ge (M.getD j 0 - 1) L.length with q' | q'
        · exact q'
        · rw [List.getElem?_eq_none q'] at h1; cases h1)]
      exact h1
theorem Lab.few (h : Lab l a b e M L i) : L.length ≤ i := by
  have h1 : ∀ m ∈ L, m < i := fun m hm => (h.lead m hm).1
  have h2 := h.inc
  clear h
  induction i generalizing L with
  | zero =>
    cases L with
    | nil => exact Nat.le_refl _
    | cons x _ => exact absurd (h1 x (List.mem_cons_self ..)) (Nat.not_lt_zero _)
  | succ i ih =>
    rcases snoc_cases L with rfl | ⟨L', w, rfl⟩
    · exact Nat.zero_le _
    · rw [List.pairwise_append] at h2
      rw [List.length_append, List.length_singleton]
      refine Nat.succ_le_succ (ih (fun m hm => ?_) h2.1)
      have h3 := h2.2.2 m hm w (List.mem_singleton.2 rfl)
      have h4 := h1 w (List.mem_append_right _ (List.mem_singleton.2 rfl))
      omega
end
end Go.Am

/- copy: bytes into a part of a slice. -/
set_option maxHeartbeats 4000000
namespace Go.Am
open Go
theorem setAt_get : ∀ (vs cs : List AVal) (off i : Nat), off + vs.length ≤ cs.length → (setAt cs off vs)[i]? = if off ≤ i ∧ i < off + vs.length then vs[i - off]? else cs[i]?
  | [], cs, off, i, _ => by
    rw [if_neg (by simp only [List.length_nil]; omega)]; rfl
  | v :: vs, cs, off, i, h => by
    rw [List.length_cons] at h
    rw [setAt, setAt_get vs (cs.set off v) (off + 1) i (by rw [List.length_set]; omega), List.length_cons]
    by_cases h1 : off = i
    · subst h1
      rw [if_neg (by omega), if_pos (by omega), List.getElem?_set, if_pos rfl, if_pos (by omega), Nat.sub_self]; rfl
    · by_cases h2 : off + 1 ≤ i ∧ i < off + 1 + vs.length
      · rw [if_pos h2, if_pos (by omega), show i - off = (i - (off + 1)) + 1 by omega]; rfl
      · rw [if_neg h2, if_neg (by omega), List.getElem?_set, if_neg h1]
section
variable {call : ACall} {n ref : Nat} {its : List DItem} {H0 H : AHeap} {E : List (Nat × AHeap)} {Rd : List (Nat × (AHeap → Bool))} {fr : AFrame} {K : AFrame → AHeap → Prop} {bm d : Nat} {pre : Bool} {g : Option (Nat × Bool)}
theorem Fe.slc {x : ROpd} {lo hi : Option ROpd} {p : AVal} {l : List UInt8} {a b : Nat} (hw : ROper.wanted fr ⟨some d, .sliceS 1 x lo hi none, g⟩ = true) (hx : x.ev fr = p) (hlo : bnd (lo.map (·.ev fr)) 0 a) (hhi : bnd (hi.map (·.ev fr)) l.length b) (hab : a ≤ b) (hbl : b ≤ l.length) [s : BytesI H p l]
    (h : ∀ v H1, Part p v a (b - a) → BytesI H1 v ((l.drop a).take (b - a)) → ExtI H H1 → AllR bm H1 Rd ∧ WpE call (n + 1) ref its H0 ((n, H) :: E) Rd (upd fr d v) H1 K) : WpE call n ref (⟨⟨some d, .sliceS 1 x lo hi none, g⟩, bm, 2, pre⟩ :: its) H0 E Rd fr H K := by
  obtain ⟨v, H1, h1, h2, h3, h4⟩ := exec_slc (call := call) hx hlo hhi hab hbl (s := s)
  obtain ⟨h5, h6⟩ := h v H1 h2 h3 ⟨h4⟩
  exact WpE.effect hw h1 h5 h6
end
end Go.Am

/- Stores of some cells into a slice; stores and growth as effects of a region without order. -/
set_option maxHeartbeats 4000000
namespace Go.Am
open Go
section
variable {call : ACall} {fr : AFrame} {H : AHeap} {K : AVal → AHeap → Prop}
theorem WpX.stPN {a x : ROpd} {p : AVal} {sz n j m : Nat} {cs vs : List AVal} {v : AVal} (ha : a.ev fr = .ptr (rowOf p) (offOf p + j)) (hx : x.ev fr = v) (hv : v.cells = vs) (hm : vs.length = m) (hm0 : 0 < m) (ho : vs.all AVal.one = true) [s : SliceAt H p sz n cs] [w : WrS H p] (hj : j + m ≤ cs.length)
    (h : ∀ H1, SliceAt H1 p sz n (setAt cs j vs) → WrS H1 p → ExtP H H1 p → K aundef H1) : WpX (.store m a x) call fr H K := by
  rcases s.it with ⟨_, _, rfl⟩ | ⟨r, off, cap, row, rw, e, rfl, hr, hg, hl, hc, hcap⟩
  · simp at hj; omega
  · obtain ⟨cs', e', hg'⟩ := w.it _ _ _ _ _ rfl
    rw [hg] at hg'; cases hg'
    have hlen := s.len
    refine WpX.store ha hx (by rw [hv]; exact hm) hr hg (by rw [hv, hm]; simp only [offOf]; omega) (by rw [hv]; exact ho) ?_
    rw [hv]
    refine h _ ⟨Or.inr ⟨r, off, cap, setAt row (off + j) vs, true, e, rfl, hr, set_get_eq, by rw [setAt_length]; exact hl, ?_, hcap⟩⟩ ⟨fun r' off' len' cap' sz' e' => by cases e'; exact ⟨_, _, set_get_eq⟩⟩ ⟨Nat.le_refl _, fun r' hr' hne => set_get_ne (fun hh => hne.ne _ _ _ _ _ rfl hh.symm)⟩
    have hcl : cs.length = n * sz := hlen
    rw [← hc] at hj ⊢
    rw [List.length_take, List.length_drop] at hj
    apply List.ext_getElem?
    intro i
    rw [setAt_get _ _ _ _ (by rw [List.length_take, List.length_drop]; omega)]
    rw [List.getElem?_take, List.getElem?_drop, setAt_get _ _ _ _ (by omega), List.getElem?_take, List.getElem?_drop]
    by_cases hi : i < n * sz
    · rw [if_pos hi]
      by_cases hij : j ≤ i ∧ i < j + vs.length
      · rw [if_pos hij, if_pos (by omega), show off + i - (off + j) = i - j by omega]
      · rw [if_neg hij, if_neg (by omega), if_pos hi]
    · rw [if_neg hi, if_neg (by omega), if_neg hi]
end
section
variable {call : ACall} {its : List DItem} {H0 : AHeap} {n ref : Nat} {E : List (Nat × AHeap)} {Rd : List (Nat × (AHeap → Bool))} {fr : AFrame} {H : AHeap} {K : AFrame → AHeap → Prop} {g : Option (Nat × Bool)} {b : Nat} {pre : Bool}
theorem WpE.stPN {d : Option Nat} {a x : ROpd} {p : AVal} {sz k j m : Nat} {cs vs : List AVal} {v : AVal} (hw : ROper.wanted fr ⟨d, .store m a x, g⟩ = true) (ha : a.ev fr = .ptr (rowOf p) (offOf p + j)) (hx : x.ev fr = v) (hv : v.cells = vs) (hm : vs.length = m) (hm0 : 0 < m) (ho : vs.all AVal.one = true) [s : SliceAt H p sz k cs] [w : WrS H p] (hj : j + m ≤ cs.length)
    (h : ∀ H1, SliceAt H1 p sz k (setAt cs j vs) → WrS H1 p → ExtP H H1 p → AllR b H1 Rd ∧ WpE call (n + 1) ref its H0 ((n, H) :: E) Rd (put fr d aundef) H1 K) : WpE call n ref (⟨⟨d, .store m a x, g⟩, b, 2, pre⟩ :: its) H0 E Rd fr H K := by
  obtain ⟨v', H1, h1, rfl, h2, h3, h4⟩ := WpX.stPN (call := call) (K := fun v H1 => v = aundef ∧ SliceAt H1 p sz k (setAt cs j vs) ∧ WrS H1 p ∧ ExtP H H1 p) ha hx hv hm hm0 ho hj fun H1 q1 q2 q3 => ⟨rfl, q1, q2, q3⟩
  obtain ⟨h5, h6⟩ := h H1 h2 h3 h4
  exact WpE.effect hw h1 h5 h6
theorem WpE.grow {d : Option Nat} {e : TypeId} {x y : ROpd} {p q : AVal} {sz m k bytes : Nat} {cs new : List AVal} (hw : ROper.wanted fr ⟨d, .append e sz bytes x y, g⟩ = true) (hx : x.ev fr = p) (hy : y.ev fr = q) [h : OwnS H p sz m cs e] [hq : SliceAt H q sz k new] (hsz : 0 < sz) (hb : 0 < bytes) (hk : 0 < k) (hroom : 2 * (m + k) * bytes ≤ 2 ^ 48) (hone : new.all AVal.one = true)
    (hK : ∀ p' H', OwnS H' p' sz (m + k) (cs ++ new) e → FreshS H p' → ExtP H H' p → AllR b H' Rd ∧ WpE call (n + 1) ref its H0 ((n, H) :: E) Rd (put fr d p') H' K) : WpE call n ref (⟨⟨d, .append e sz bytes x y, g⟩, b, 2, pre⟩ :: its) H0 E Rd fr H K := by
  obtain ⟨p', H1, h1, h2, h3, h4⟩ := WpX.grow (call := call) (K := fun v H1 => OwnS H1 v sz (m + k) (cs ++ new) e ∧ FreshS H v ∧ ExtP H H1 p) hx hy hsz hb hk hroom hone fun p' H' q1 q2 q3 => ⟨q1, q2, q3⟩
  obtain ⟨h5, h6⟩ := hK p' H1 h2 h3 h4
  exact WpE.effect hw h1 h5 h6
end
end Go.Am

/- Lists of components: each with its box and a list of its pixels. -/
set_option maxHeartbeats 4000000
namespace Go.Am
open Go
structure Bx where
  x : Int
  y : Int
  w : Int
  h : Int
def Bx.cells (b : Bx) : List AVal := [.int .i64 b.x, .int .i64 b.y, .int .i64 b.w, .int .i64 b.h]
/-- Boxes with their lists, as cells. -/
def cellsC : List (Bx × AVal) → List AVal
  | [] => []
  | c :: C => (c.1.cells ++ [c.2]) ++ cellsC C
theorem cellsC_length : ∀ C : List (Bx × AVal), (cellsC C).length = C.length * 5
  | [] => rfl
  | c :: C => by
    have := cellsC_length C
    simp only [cellsC, Bx.cells, List.length_append, List.length_cons, List.length_nil, this]
    omega
theorem setAt_right (u cs : List AVal) : ∀ (vs : List AVal) (j : Nat), setAt (u ++ cs) (u.length + j) vs = u ++ setAt cs j vs := by
  intro vs
  induction vs generalizing cs with
  | nil => intro j; rfl
  | cons v vs ih =>
    intro j
    show setAt ((u ++ cs).set (u.length + j) v) (u.length + j + 1) vs = u ++ setAt (cs.set j v) (j + 1) vs
    rw [← ih (cs.set j v) (j + 1)]
    congr 1
    apply List.ext_getElem?
    intro i
    by_cases hi : i < u.length
    · rw [List.getElem?_set_ne (by omega), List.getElem?_append_left hi, List.getElem?_append_left hi]
    · rw [List.getElem?_append_right (Nat.le_of_not_lt hi)]
      by_cases hj : u.length + j = i
      · subst hj
        rw [show u.length + j - u.length = j by omega]
        by_cases hc : j < cs.length
        · rw [List.getElem?_set_self (by rw [List.length_append]; omega), List.getElem?_set_self hc]
        · rw [List.getElem?_eq_none (by simp; omega), List.getElem?_eq_none (by simp; omega)]
      · rw [List.getElem?_set_ne hj, List.getElem?_append_right (Nat.le_of_not_lt hi), List.getElem?_set_ne (by omega)]
theorem cellsC_box : ∀ (C : List (Bx × AVal)) (k : Nat) (c : Bx × AVal) (b : Bx), C[k]? = some c → setAt (cellsC C) (k * 5) b.cells = cellsC (C.set k (b, c.2))
  | [], k, c, b, h => by simp at h
  | d :: C, 0, c, b, h => by
    simp only [List.getElem?_cons_zero, Option.some.injEq] at h
    subst h; rfl
  | d :: C, k + 1, c, b, h => by
    have ih := cellsC_box C k c b (by simpa using h)
    have hl : (d.1.cells ++ [d.2]).length = 5 := rfl
    show setAt ((d.1.cells ++ [d.2]) ++ cellsC C) ((k + 1) * 5) b.cells = (d.1.cells ++ [d.2]) ++ cellsC (C.set k (b, c.2))
    rw [show (k + 1) * 5 = (d.1.cells ++ [d.2]).length + k * 5 by rw [hl]; omega, setAt_right, ih]
theorem cellsC_px : ∀ (C : List (Bx × AVal)) (k : Nat) (c : Bx × AVal) (p : AVal), C[k]? = some c → (cellsC C).set (k * 5 + 4) p = cellsC (C.set k (c.1, p))
  | [], k, c, b, h => by simp at h
  | d :: C, 0, c, b, h => by
    simp only [List.getElem?_cons_zero, Option.some.injEq] at h
    subst h; rfl
  | d :: C, k + 1, c, p, h => by
    have ih := cellsC_px C k c p (by simpa using h)
    have hl : (d.1.cells ++ [d.2]).length = 5 := rfl
    have hs := setAt_right (d.1.cells ++ [d.2]) (cellsC C) [p] (k * 5 + 4)
    rw [setAt_one, setAt_one, hl, ih] at hs
    rw [show (k + 1) * 5 + 4 = 5 + (k * 5 + 4) by omega]
    exact hs
theorem cellsC_drop : ∀ (C : List (Bx × AVal)) (k : Nat) (c : Bx × AVal), C[k]? = some c → ∃ r, (cellsC C).drop (k * 5) = c.1.cells ++ [c.2] ++ r
  | [], k, c, h => by simp at h
  | d :: C, 0, c, h => by
    simp only [List.getElem?_cons_zero, Option.some.injEq] at h
    subst h; exact ⟨cellsC C, rfl⟩
  | d :: C, k + 1, c, h => by
    obtain ⟨r, hr⟩ := cellsC_drop C k c (by simpa using h)
    refine ⟨r, ?_⟩
    rw [← hr]
    show ((d.1.cells ++ [d.2]) ++ cellsC C).drop ((k + 1) * 5) = _
    rw [show (k + 1) * 5 = (d.1.cells ++ [d.2]).length + k * 5 by rw [show (d.1.cells ++ [d.2]).length = 5 from rfl]; omega, ← List.drop_drop, List.drop_left]
theorem cellsC_at {C : List (Bx × AVal)} {k : Nat} {c : Bx × AVal} (h : C[k]? = some c) : ((cellsC C).drop (k * 5)).take 4 = c.1.cells ∧ (cellsC C)[k * 5 + 4]? = some c.2 := by
  obtain ⟨r, hr⟩ := cellsC_drop C k c h
  refine ⟨by rw [hr]; rfl, ?_⟩
  have : ((cellsC C).drop (k * 5))[4]? = some c.2 := by rw [hr]; rfl
  rwa [List.getElem?_drop] at this
/-- Pixels of an image of the width a, as points. -/
def cellsK (a : Nat) (l : List Nat) : List AVal := l.flatMap fun k => [.int .i64 ((k % a : Nat) : Int), .int .i64 ((k / a : Nat) : Int)]
theorem cellsK_snoc (a : Nat) (l : List Nat) (k : Nat) : cellsK a (l ++ [k]) = cellsK a l ++ [.int .i64 ((k % a : Nat) : Int), .int .i64 ((k / a : Nat) : Int)] := by simp [cellsK]
/-- A list of components in the heap, each of which alone holds its list of pixels: P; K is an earlier heap. -/
structure Cmps (K H : AHeap) (q : AVal) (a : Nat) (C : List (Bx × AVal)) (P : List (List Nat)) : Prop where
  len : P.length = C.length
  row : SliceAt H q 5 C.length (cellsC C)
  wr : WrS H q
  own : ∀ (k : Nat) c l, C[k]? = some c → P[k]? = some l → OwnS H c.2 2 l.length (cellsK a l) 88
  fresh : ∀ (k : Nat) c, C[k]? = some c → FreshS K c.2
  sep : ∀ (i j : Nat) c d, C[i]? = some c → C[j]? = some d → i ≠ j → SepS c.2 d.2
  sepq : ∀ (k : Nat) c, C[k]? = some c → SepS c.2 q
theorem set_at {α : Type} {C : List α} {k j : Nat} {x y : α} (h : (C.set k x)[j]? = some y) : (j = k ∧ y = x) ∨ (j ≠ k ∧ C[j]? = some y) := by
  by_cases hj : j = k
  · subst hj
    have hlt : j < C.length := by
      rcases Nat.lt_or_ge j C.length with q | q
      · exact q
      · rw [List.getElem?_eq_none (by rw [List.length_set]; exact q)] at h; cases h
    rw [List.getElem?_set_self hlt] at h
    exact Or.inl ⟨rfl, (Option.some.inj h).symm⟩
  · rw [List.getElem?_set_ne (fun e => hj e.symm)] at h
    exact Or.inr ⟨hj, h⟩
theorem SepS.symm {p q : AVal} (h : SepS p q) : SepS q p := ⟨fun r off len cap sz r' off' len' cap' sz' e e' hh => h.ne _ _ _ _ _ _ _ _ _ _ e' e hh.symm⟩
/-- One component has a new box and one pixel more; the other ones stand. -/
theorem Cmps.step {K H H3 : AHeap} {q p' : AVal} {a k i : Nat} {C : List (Bx × AVal)} {P : List (List Nat)} {l : List Nat} {b : Bx} (h : Cmps K H q a C P) (hl : P[k]? = some l) (hs : SliceAt H3 q 5 C.length (cellsC (C.set k (b, p')))) (hw : WrS H3 q) (ho : OwnS H3 p' 2 (l.length + 1) (cellsK a (l ++ [i])) 88) (hf : FreshS K p') (hn : ∀ (j : Nat) d, C[j]? = some d → j ≠ k → SepS d.2 p') (hq : SepS p' q)
    (hkeep : ∀ (j : Nat) d l', j ≠ k → C[j]? = some d → P[j]? = some l' → OwnS H3 d.2 2 l'.length (cellsK a l') 88) : Cmps K H3 q a (C.set k (b, p')) (P.set k (l ++ [i])) := by
  refine ⟨by rw [List.length_set, List.length_set]; exact h.len, by rw [List.length_set]; exact hs, hw, fun j c l' h1 h2 => ?_, fun j c h1 => ?_, fun i' j c d h1 h2 hne => ?_, fun j c h1 => ?_⟩
  · rcases set_at h1 with ⟨rfl, rfl⟩ | ⟨e1, h1⟩
    · rcases set_at h2 with ⟨_, rfl⟩ | ⟨e2, _⟩
      · rw [List.length_append, List.length_singleton]; exact ho
      · exact absurd rfl e2
    · rcases set_at h2 with ⟨e2, _⟩ | ⟨_, h2⟩
      · exact absurd e2 e1
      · exact hkeep j c l' e1 h1 h2
  · rcases set_at h1 with ⟨_, rfl⟩ | ⟨_, h1⟩
    · exact hf
    · exact h.fresh j c h1
  · rcases set_at h1 with ⟨rfl, rfl⟩ | ⟨e1, g1⟩
    · rcases set_at h2 with ⟨e2, _⟩ | ⟨e2, h2⟩
      · exact absurd e2.symm hne
      · exact (hn j d h2 e2).symm
    · rcases set_at h2 with ⟨rfl, rfl⟩ | ⟨_, h2⟩
      · exact hn i' c g1 e1
      · exact h.sep i' j c d g1 h2 hne
  · rcases set_at h1 with ⟨_, rfl⟩ | ⟨_, h1⟩
    · exact hq
    · exact h.sepq j c h1
/-- Components without pixels. -/
def noC (n : Nat) : List (Bx × AVal) := List.replicate n (⟨0, 0, 0, 0⟩, .nslice)
theorem noC_cells (n : Nat) : (List.replicate n [AVal.int .i64 0, .int .i64 0, .int .i64 0, .int .i64 0, .nslice]).flatten = cellsC (noC n) := by
  induction n with
  | zero => rfl
  | succ n ih => rw [List.replicate_succ, List.flatten_cons, ih]; rfl
theorem rep_at {α : Type} {n k : Nat} {x y : α} (h : (List.replicate n x)[k]? = some y) : y = x := by
  rw [List.getElem?_replicate] at h
  split at h
  · exact (Option.some.inj h).symm
  · cases h
theorem WpX.mkC {call : ACall} {fr : AFrame} {H : AHeap} {K : AVal → AHeap → Prop} {e : TypeId} {x y : ROpd} {k k' : IntKind} {n m : Nat} (a : Nat) {K0 : AHeap} (hx : x.ev fr = .int k (n : Int)) (hy : y.ev fr = .int k' (n : Int)) (hm : m ≤ 64) (hn : n ≤ 2 ^ 40) (hK0 : K0.n ≤ H.n)
    (h : ∀ p H1, Cmps K0 H1 p a (noC n) (List.replicate n []) → FreshS H p → ExtI H H1 → K p H1) : WpX (.makeSlice e [.int .i64 0, .int .i64 0, .int .i64 0, .int .i64 0, .nslice] m x y) call fr H K := by
  have h0 : 0 ≤ (n : Int) ∧ (n : Int) ≤ (n : Int) ∧ (m : Int) * (n : Int) ≤ 2 ^ 47 ∧ (n : Int) < 2 ^ 62 := by
    have h1 : m * n ≤ 64 * 2 ^ 40 := Nat.mul_le_mul hm hn
    have h2 : ((m * n : Nat) : Int) = (m : Int) * (n : Int) := Int.natCast_mul m n
    refine ⟨by omega, by omega, by rw [← h2]; omega, by omega⟩
  refine ⟨.slice H.n 0 n (some n) 5, H.push (.row (cellsC (noC n)) true (2 * e)), ?_, h _ _ ?_ ⟨fun r off len cap sz q => by cases q; exact Nat.le_refl _⟩ ⟨(Ext.refl H).push _⟩⟩
  · simp only [ROp.exec, hx, hy, aMakeSlice, if_pos h0, M.bind, aNew, M.pure, Int.toNat_natCast, noC_cells]
    rfl
  · have hlen : (noC n).length = n := List.length_replicate ..
    have hcl := cellsC_length (noC n)
    rw [hlen] at hcl
    refine ⟨by rw [hlen, List.length_replicate], ?_, ⟨fun r off len cap sz q => by cases q; exact ⟨_, _, push_get_eq⟩⟩, fun k c l h1 h2 => ?_, fun k c h1 => ?_, fun i j c d h1 h2 _ => ?_, fun k c h1 => ?_⟩
    · rw [hlen]
      exact ⟨Or.inr ⟨H.n, 0, some n, _, true, _, rfl, Nat.lt_succ_self _, push_get_eq, by omega, by rw [List.drop_zero, List.take_of_length_le (by omega)], Nat.le_refl _⟩⟩
    · rw [rep_at h1, rep_at h2]; exact ⟨Or.inl ⟨rfl, rfl, rfl⟩⟩
    · rw [rep_at h1]; exact ⟨fun _ _ _ _ _ q => by cases q⟩
    · rw [rep_at h1]; exact ⟨fun _ _ _ _ _ _ _ _ _ _ q => by cases q⟩
    · rw [rep_at h1]; exact ⟨fun _ _ _ _ _ _ _ _ _ _ q => by cases q⟩
end Go.Am

set_option maxHeartbeats 4000000
set_option maxRecDepth 100000
namespace Go.Am
open Go
attribute [local irreducible] Wp WpO WpX WpE

/-- The least rectangle with a rectangle and a pixel. -/
def strX (x px : Int) : Int := if px < x then px else x
def strW (x w px : Int) : Int := IntKind.i64.wrap ((if IntKind.i64.wrap (px + 1) > IntKind.i64.wrap (x + w) then IntKind.i64.wrap (px + 1) else IntKind.i64.wrap (x + w)) - strX x px)
instance K_stretch0 {x y h px py : Int} {H : AHeap} : PureCon ext prog 122 [.agg [.int .i64 x, .int .i64 y, .int .i64 0, .int .i64 h], .agg [.int .i64 px, .int .i64 py]] H 1 (.agg [.int .i64 px, .int .i64 py, .int .i64 1, .int .i64 1]) := ⟨by
 refine con_of (show prog 122 = some c122 from rfl) rfl rfl fun n hn => ?_
 refine sq ?_
 refine rg fun KF hKF => ?_
 refine Fo.boxA rfl ?_
 refine Fo.boxA rfl ?_
 refine Fo.new ?_
 refine WpO.nil (hKF _ _ ?_)
 refine sq ?_
 refine sq ?_
 refine rg fun KF hKF => ?_
 refine Fo.fa rfl ?_
 refine Fo.ld rfl rfl ?_
 refine Fo.bin rfl rfl rfl (by simp only [↓nrmL, nrmZ, Nat.reduceEqDiff, ↓reduceIte, Nat.reduceAdd, Int.reduceBEq, Int.reduceBNe]; rfl) ?_
 refine WpO.nil (hKF _ _ ?_)
 refine Wp.cond (b := true) rfl ?_
 refine sq ?_
 refine rg fun KF hKF => ?_
 refine Fo.fa rfl ?_
 refine Fo.ld rfl rfl ?_
 refine Fo.fa rfl ?_
 refine Fo.ld rfl rfl ?_
 refine Fo.build (by repeat (first | refine aFill1 (by first | exact (rfl : _ = AVal.int _ _) | exact (rfl : _ = AVal.ptr _ _) | exact (rfl : _ = AVal.bool _) | exact (rfl : _ = AVal.agg _) | exact (rfl : _ = AVal.tuple _) | exact (rfl : _ = AVal.func _ _ _) | exact (rfl : _ = AVal.nslice) | ((try simp only [↓nrmL, nrmK, Nat.reduceEqDiff, ↓reduceIte]); rfl)) rfl ?_ | rfl)) (by simp only [↓nrmL, nrmZ, Nat.reduceEqDiff, ↓reduceIte, Nat.reduceAdd, Int.reduceBEq, Int.reduceBNe]; rfl) ?_
 refine Fo.st rfl (rfl : _ = AVal.agg _) rfl rfl rfl (by repeat (first | rfl | refine allOne_cons ?_)) (by simp only [↓nrmL, nrmZ, Nat.reduceEqDiff, ↓reduceIte, Nat.reduceAdd, Int.reduceBEq, Int.reduceBNe]; rfl) ?_
 refine WpO.nil (hKF _ _ ?_)
 refine Wp.ret ?_
 dsimp only [cond_true, cond_false]
 refine ⟨trivial, _, (by first | rfl | exact getAllC rfl rfl rfl rfl | exact getAllT rfl (getAllC rfl rfl rfl rfl) | exact getAllC rfl rfl rfl (getAllC rfl rfl rfl rfl) | exact getAllC1 rfl rfl rfl), ?_⟩
 exact ⟨rfl, Ext0.ext⟩⟩
theorem K_stretch {x y w h px py : Int} {H : AHeap} (hw : (w == 0) = false) : PureCon ext prog 122 [.agg [.int .i64 x, .int .i64 y, .int .i64 w, .int .i64 h], .agg [.int .i64 px, .int .i64 py]] H 1 (.agg [.int .i64 (strX x px), .int .i64 (strX y py), .int .i64 (strW x w px), .int .i64 (strW y h py)]) := ⟨by
 refine con_of (show prog 122 = some c122 from rfl) rfl rfl fun n hn => ?_
 unfold strW strX
 try simp only [↓nrmL, nrmZ, Nat.reduceEqDiff, ↓reduceIte, Nat.reduceAdd, Int.reduceBEq, Int.reduceBNe, hw]
 refine sq ?_
 refine rg fun KF hKF => ?_
 refine Fo.boxA rfl ?_
 refine Fo.boxA rfl ?_
 refine Fo.new ?_
 refine WpO.nil (hKF _ _ ?_)
 refine sq ?_
 refine sq ?_
 refine rg fun KF hKF => ?_
 refine Fo.fa rfl ?_
 refine Fo.ld rfl rfl ?_
 refine Fo.bin rfl rfl rfl (by simp only [↓nrmL, nrmZ, Nat.reduceEqDiff, ↓reduceIte, Nat.reduceAdd, Int.reduceBEq, Int.reduceBNe, hw]; rfl) ?_
 refine WpO.nil (hKF _ _ ?_)
 refine Wp.cond (b := false) rfl ?_
 refine Wp.skip ?_
 refine sq ?_
 refine Fr.quiet rfl rfl fun KF hKF => ?_
 refine Fo.fa rfl ?_
 refine Fo.ld rfl rfl ?_
 refine Fo.fa rfl ?_
 refine Fo.ld rfl rfl ?_
 refine Fo.now rfl rfl rfl ?_
 refine Fo.fa rfl ?_
 refine Fo.ld rfl rfl ?_
 refine Fo.fa rfl ?_
 refine Fo.ld rfl rfl ?_
 refine Fo.now rfl rfl rfl ?_
 refine mI rfl ?_
 refine mI rfl ?_
 refine WpO.nil (hKF _ _ ?_)
 refine sq ?_
 refine rg fun KF hKF => ?_
 refine mI rfl ?_
 refine mI rfl ?_
 refine Fo.fa rfl ?_
 refine Fo.ld rfl rfl ?_
 refine Fo.fa rfl ?_
 refine Fo.ld rfl rfl ?_
 refine Fo.bin rfl rfl rfl rfl ?_
 refine Fo.fa rfl ?_
 refine Fo.ld rfl rfl ?_
 refine Fo.bin rfl rfl rfl rfl ?_
 refine Fo.now rfl rfl (by simp only [↓nrmL, nrmZ, Nat.reduceEqDiff, ↓reduceIte, Nat.reduceAdd, Int.reduceBEq, Int.reduceBNe, hw]; rfl) ?_
 refine mI rfl ?_
 refine Fo.bin rfl rfl rfl rfl ?_
 refine Fo.fa rfl ?_
 refine Fo.ld rfl rfl ?_
 refine Fo.fa rfl ?_
 refine Fo.ld rfl rfl ?_
 refine Fo.bin rfl rfl rfl rfl ?_
 refine Fo.fa rfl ?_
 refine Fo.ld rfl rfl ?_
 refine Fo.bin rfl rfl rfl rfl ?_
 refine Fo.now rfl rfl (by simp only [↓nrmL, nrmZ, Nat.reduceEqDiff, ↓reduceIte, Nat.reduceAdd, Int.reduceBEq, Int.reduceBNe, hw]; rfl) ?_
 refine mI rfl ?_
 refine Fo.bin rfl rfl rfl rfl ?_
 refine Fo.build (by repeat (first | refine aFill1 (by first | exact (rfl : _ = AVal.int _ _) | exact (rfl : _ = AVal.ptr _ _) | exact (rfl : _ = AVal.bool _) | exact (rfl : _ = AVal.agg _) | exact (rfl : _ = AVal.tuple _) | exact (rfl : _ = AVal.func _ _ _) | exact (rfl : _ = AVal.nslice) | ((try simp only [↓nrmL, nrmK, Nat.reduceEqDiff, ↓reduceIte]); rfl)) rfl ?_ | rfl)) (by simp only [↓nrmL, nrmZ, Nat.reduceEqDiff, ↓reduceIte, Nat.reduceAdd, Int.reduceBEq, Int.reduceBNe, hw]; rfl) ?_
 refine Fo.st rfl (rfl : _ = AVal.agg _) rfl rfl rfl (by repeat (first | rfl | refine allOne_cons ?_)) (by simp only [↓nrmL, nrmZ, Nat.reduceEqDiff, ↓reduceIte, Nat.reduceAdd, Int.reduceBEq, Int.reduceBNe, hw]; rfl) ?_
 refine WpO.nil (hKF _ _ ?_)
 refine Wp.ret ?_
 dsimp only [cond_true, cond_false]
 refine ⟨trivial, _, (by first | rfl | exact getAllC rfl rfl rfl rfl | exact getAllT rfl (getAllC rfl rfl rfl rfl) | exact getAllC rfl rfl rfl (getAllC rfl rfl rfl rfl) | exact getAllC1 rfl rfl rfl), ?_⟩
 exact ⟨rfl, Ext0.ext⟩⟩
end Go.Am

/- The pixels of each component, and their boxes. -/
set_option maxHeartbeats 4000000
namespace Go.Am
open Go
/-- The pixels before i that are marked with k + 1. -/
def pxs (M : List Nat) (i k : Nat) : List Nat := (List.range i).filter fun j => M.getD j 0 == k + 1
theorem pxs_hit {M : List Nat} {i k : Nat} (h : M.getD i 0 = k + 1) : pxs M (i + 1) k = pxs M i k ++ [i] := by
  unfold pxs
  have hb : (M.getD i 0 == k + 1) = true := by rw [h]; exact beq_self_eq_true _
  rw [List.range_succ, List.filter_append]
  simp only [List.filter_cons, hb, if_true, List.filter_nil]
theorem pxs_miss {M : List Nat} {i k : Nat} (h : M.getD i 0 ≠ k + 1) : pxs M (i + 1) k = pxs M i k := by
  unfold pxs
  have hb : (M.getD i 0 == k + 1) = false := beq_eq_false_iff_ne.2 h
  rw [List.range_succ, List.filter_append]
  simp only [List.filter_cons, hb, Bool.false_eq_true, if_false, List.filter_nil, List.append_nil]
def pxAll (M : List Nat) (n i : Nat) : List (List Nat) := (List.range n).map (pxs M i)
theorem pxAll_length (M : List Nat) (n i : Nat) : (pxAll M n i).length = n := by simp [pxAll]
theorem pxAll_zero (M : List Nat) (n : Nat) : pxAll M n 0 = List.replicate n [] := by
  unfold pxAll
  apply List.ext_getElem?
  intro k
  rw [List.getElem?_map, List.getElem?_replicate]
  by_cases h : k < n
  · rw [List.getElem?_range h, if_pos h]; rfl
  · rw [List.getElem?_eq_none (by simp; omega), if_neg h]; rfl
theorem pxAll_at {M : List Nat} {n i k : Nat} (h : k < n) : (pxAll M n i)[k]? = some (pxs M i k) := by
  unfold pxAll
  rw [List.getElem?_map, List.getElem?_range h]; rfl
theorem pxAll_skip {M : List Nat} {n i : Nat} (h : M.getD i 0 = 0) : pxAll M n (i + 1) = pxAll M n i := by
  unfold pxAll
  apply List.map_congr_left
  intro k _
  exact pxs_miss (by omega)
theorem pxAll_next {M : List Nat} {n i k : Nat} (h : M.getD i 0 = k + 1) : pxAll M n (i + 1) = (pxAll M n i).set k (pxs M i k ++ [i]) := by
  apply List.ext_getElem?
  intro j
  by_cases hj : j < n
  · rw [pxAll_at hj]
    by_cases hk : k = j
    · subst hk
      rw [List.getElem?_set_self (by rw [pxAll_length]; exact hj), pxs_hit h]
    · rw [List.getElem?_set_ne hk, pxAll_at hj, pxs_miss (by omega)]
  · rw [List.getElem?_eq_none (by rw [pxAll_length]; omega), List.getElem?_eq_none (by rw [List.length_set, pxAll_length]; omega)]
theorem pxs_le (M : List Nat) (i k : Nat) : (pxs M i k).length ≤ i := by
  unfold pxs
  exact Nat.le_trans (List.length_filter_le _ _) (by simp)
/-- A box stretched to a pixel. -/
def bxS (b : Bx) (px py : Int) : Bx := bif b.w == 0 then ⟨px, py, 1, 1⟩ else ⟨strX b.x px, strX b.y py, strW b.x b.w px, strW b.y b.h py⟩
def bxL (a : Nat) (l : List Nat) : Bx := l.foldl (fun b k => bxS b ((k % a : Nat) : Int) ((k / a : Nat) : Int)) ⟨0, 0, 0, 0⟩
theorem bxL_snoc (a : Nat) (l : List Nat) (k : Nat) : bxL a (l ++ [k]) = bxS (bxL a l) ((k % a : Nat) : Int) ((k / a : Nat) : Int) := by
  unfold bxL
  rw [List.foldl_append]; rfl
instance K_stretchB {b : Bx} {px py : Int} {H : AHeap} : PureCon ext prog 122 [.agg b.cells, .agg [.int .i64 px, .int .i64 py]] H 1 (.agg (bxS b px py).cells) := by
  obtain ⟨x, y, w, h⟩ := b
  unfold bxS Bx.cells
  cases hw : w == 0
  · exact K_stretch hw
  · have : w = 0 := eq_of_beq hw
    subst this
    exact K_stretch0
theorem bx_cells (b : Bx) : b.cells.length = 4 ∧ b.cells.all AVal.one = true := ⟨rfl, rfl⟩
/-- What image.Components answers: components in the order of their first pixels, with their boxes. -/
structure CmpsR (K H : AHeap) (q : AVal) (l : List UInt8) (a b : Nat) (e : Bool) (M L : List Nat) (C : List (Bx × AVal)) : Prop where
  lab : Lab l a b e M L (a * b)
  cmps : Cmps K H q a C (pxAll M L.length (a * b))
  box : ∀ (k : Nat) c, C[k]? = some c → c.1 = bxL a (pxs M (a * b) k)
  num : C.length = L.length
end Go.Am

/- The reference's numbers: neighbours take the lesser one, until nothing changes. -/
set_option maxHeartbeats 4000000
namespace Go.Am
open Go
section
variable {l : List UInt8} {a b : Nat} {e : Bool} {N : List Nat}
end
end Go.Am

set_option maxHeartbeats 4000000
set_option maxRecDepth 100000
namespace Go.Am
open Go
attribute [local irreducible] Wp WpO WpX WpE

end Go.Am

set_option maxHeartbeats 4000000
set_option maxRecDepth 100000
namespace Go.Am
open Go
attribute [local irreducible] Wp WpO WpX WpE

end Go.Am

set_option maxHeartbeats 4000000
set_option maxRecDepth 100000
namespace Go.Am
open Go
attribute [local irreducible] Wp WpO WpX WpE

def rc (l : List UInt8) (a j x : Nat) : Int := (((List.range x).filter fun u => l.getD (j * a + u) 0 == 1).length : Nat)
def cc (l : List UInt8) (a i y : Nat) : Int := (((List.range y).filter fun v => l.getD (v * a + i) 0 == 1).length : Nat)
/-- How much ink the rows, and the columns, have. -/
def rowsL (l : List UInt8) (a b : Nat) : List Int := (List.range b).map fun j => rc l a j a
def colsL (l : List UInt8) (a b : Nat) : List Int := (List.range a).map fun i => cc l a i b
/- extents -/
def extS (st : Int × Int) (i : Nat) (v : Int) : Int × Int := if v > 0 then (if st.2 = 0 then ((i : Int), 1) else (st.1, i + 1 - st.1)) else st
def extF (p : List Int) : Nat → Int × Int
 | 0 => (0, 0)
 | k + 1 => extS (extF p k) k (p.getD k 0)
def extL (p : List Int) : Int × Int := extF p p.length
theorem ext_char (p : List Int) (k : Nat) : ((∀ i, i < k → ¬ p.getD i 0 > 0) ∧ extF p k = (0, 0)) ∨ ∃ f g : Nat, f ≤ g ∧ g < k ∧ p.getD f 0 > 0 ∧ p.getD g 0 > 0 ∧ (∀ i, i < f → ¬ p.getD i 0 > 0) ∧ (∀ i, g < i → i < k → ¬ p.getD i 0 > 0) ∧ extF p k = ((f : Int), (g : Int) + 1 - f) := by
 induction k with
 | zero => exact Or.inl ⟨fun i hi => by omega, rfl⟩
 | succ k ih =>
  simp only [extF, extS]
  by_cases hp : p.getD k 0 > 0
  ·rw [if_pos hp]
   right
   rcases ih with ⟨h1, h2⟩ | ⟨f, g, h1, h2, h3, h4, h5, h6, h7⟩
   ·rw [h2, if_pos rfl]
    exact ⟨k, k, Nat.le_refl _, by omega, hp, hp, h1, fun i h3 h4 => by omega, by simp; omega⟩
   ·rw [h7, if_neg (by simp only; omega)]
    exact ⟨f, k, by omega, by omega, h3, hp, h5, fun i h8 h9 => by omega, rfl⟩
  ·rw [if_neg hp]
   rcases ih with ⟨h1, h2⟩ | ⟨f, g, h1, h2, h3, h4, h5, h6, h7⟩
   ·left
    refine ⟨fun i hi => ?_, h2⟩
    by_cases hik : i = k
    ·subst hik; exact hp
    ·exact h1 i (by omega)
   ·right
    refine ⟨f, g, h1, by omega, h3, h4, h5, fun i h8 h9 => ?_, h7⟩
    by_cases hik : i = k
    ·subst hik; exact hp
    ·exact h6 i h8 (by omega)
end Go.Am

set_option maxHeartbeats 4000000
set_option maxRecDepth 100000
namespace Go.Am
open Go
attribute [local irreducible] Wp WpO WpX WpE

end Go.Am

set_option maxHeartbeats 4000000
set_option maxRecDepth 100000
set_option synthInstance.maxHeartbeats 4000000
set_option synthInstance.maxSize 100000
namespace Go.Am
open Go
attribute [local irreducible] Wp WpO WpX WpE

end Go.Am

/- Texts as values, and the steps that use them. -/
set_option maxHeartbeats 4000000
set_option maxRecDepth 100000
namespace Go.Am
open Go
/- ===== texts as lists of bytes ===== -/
abbrev Bs := List UInt8
abbrev strV (l : Bs) : AVal := .str ⟨l.toArray⟩
theorem str_size (l : Bs) : (⟨l.toArray⟩ : ByteArray).size = l.length := by
  show l.toArray.size = l.length
  simp
section
variable {call : ACall} {fr : AFrame} {H : AHeap} {KF : AFrame → AHeap → Prop} {os : List ROper} {d : Nat}
theorem exec_lenStr {x : ROpd} {l : Bs} (hx : x.ev fr = strV l) : (ROp.lenStr x).exec call fr H = some (.int .i64 l.length, H) := by
  simp only [ROp.exec, hx, aLenStr, str_size, M.ofOption, M.pure]
theorem Fo.lenStr {x : ROpd} {l : Bs} {v : AVal} (hx : x.ev fr = strV l) (hv : AVal.int .i64 l.length = v) (h : WpO call os (upd fr d v) H KF) : WpO call (⟨some d, .lenStr x, none⟩ :: os) fr H KF := by
  subst hv; exact WpO.step rfl ⟨_, _, exec_lenStr hx, h⟩
end

theorem Fo.uptr {call : ACall} {fr : AFrame} {H : AHeap} {KF : AFrame → AHeap → Prop} {os : List ROper} {d : Nat} {t s r : Nat} {x : ROpd} {cs : List AVal} (hx : x.ev fr = .ptr r 0) [h : HasRow H r cs true (2 * t)] (hs : Nat.ble s cs.length = true) (h0 : Nat.blt 0 s = true) (hK : WpO call os (upd fr d (.ptr r 0)) H KF) :
    WpO call (⟨some d, .uptr t s x, none⟩ :: os) fr H KF := by
  refine WpO.step rfl ⟨.ptr r 0, H, ?_, hK⟩
  have h1 : Nat.blt r H.n = true := by simpa using h.lt
  have h2 : (Nat.blt r H.n && Nat.beq 0 0 && Nat.blt 0 s) = true := by rw [h1, h0]; rfl
  have h3 : (Nat.beq (2 * t) (2 * t) && Nat.ble s cs.length) = true := by rw [hs]; simp
  have h4 : aUptr t s (.ptr r 0) H = some (.ptr r 0, H) := by
    show (match Nat.blt r H.n && Nat.beq 0 0 && Nat.blt 0 s with
      | true => (match H.get r with
        | .row cs true e => (match Nat.beq e (2 * t) && Nat.ble s cs.length with
          | true => some (AVal.ptr r 0, H)
          | false => none)
        | _ => none)
      | false => none) = _
    rw [h2, h.get]
    simp only [h3]
  show aUptr t s (x.ev fr) H = _
  rw [hx, h4]
theorem WpX.yield {call : ACall} {fr : AFrame} {H : AHeap} {K : AVal → AHeap → Prop} {r : Nat} {o : ROpd} {l : List ROpd} {args : List AVal} (hf : o.ev fr = .yield r) (hl : l.map (·.ev fr) = args) (h : ∃ v H', call yieldId (.yield r :: args) H = some (v, H') ∧ K v H') : WpX (.call o l) call fr H K := by
  obtain ⟨v, H', h1, h2⟩ := h
  refine ⟨v, H', ?_, h2⟩
  simp only [ROp.exec, hf, hl, aCallV]
  exact h1
theorem exec_ldNP {call : ACall} {fr : AFrame} {H : AHeap} {a : ROpd} {p : AVal} {sz n j m : Nat} {cs l : List AVal} (ha : a.ev fr = .ptr (rowOf p) (offOf p + j)) [s : SliceAt H p sz n cs] (hm : 0 < m) (hv : j + m ≤ cs.length) (hl : (cs.drop j).take m = l) : (ROp.load (some m) a).exec call fr H = some (.agg l, H) := by
  obtain ⟨v, H', h1, h2, h3⟩ := WpX.ldNP (call := call) (K := fun v H' => v = .agg l ∧ H' = H) ha hm hv hl ⟨rfl, rfl⟩
  rw [h1, h2, h3]
end Go.Am

set_option maxHeartbeats 4000000
set_option maxRecDepth 100000
namespace Go.Am
open Go
attribute [local irreducible] Wp WpO WpX WpE

abbrev RunT := Int × Int × Int
def cellsR (l : List RunT) : List AVal := l.flatMap fun r => [.int .i64 r.1, .int .i64 r.2.1, .int .i64 r.2.2]
end Go.Am

set_option maxHeartbeats 4000000
set_option maxRecDepth 100000
set_option synthInstance.maxHeartbeats 4000000
set_option synthInstance.maxSize 100000
namespace Go.Am
open Go
attribute [local irreducible] Wp WpO WpX WpE

instance {H : AHeap} {r : Nat} {a b c : AVal} {rw : Bool} {ty : TypeId} [h : HasRow H r [a, b, c] rw ty] : SliceAt H (.slice r 0 1 (some 1) 3) 3 1 [a, b, c] := ⟨Or.inr ⟨r, 0, some 1, _, rw, ty, rfl, h.lt, h.get, by simp, rfl, Nat.le_refl _⟩⟩

/-- Between two rounds: the list so far in the variable's row. -/
structure JR (Hb : AHeap) (rl r : Nat) (R0 : RLoop) (acc : List RunT) (H : AHeap) : Prop where
 n : Hb.n ≤ H.n
 get : ∀ s, s < Hb.n → s ≠ rl → H.get s = Hb.get s
 cell : ∃ p e, HasRow H rl [p] true e ∧ OwnS H p 3 acc.length (cellsR acc) 61 ∧ RowNe p rl ∧ FreshS Hb p
 loop : HasLoop H r R0
theorem JR.more {Hb H H' : AHeap} {rl r : Nat} {R0 : RLoop} {acc : List RunT} (h : JR Hb rl r R0 acc H) (x : Ext H H') : JR Hb rl r R0 acc H' := by
 obtain ⟨p, e, h1, h2, h3, h4⟩ := h.cell
 haveI : ExtI H H' := ⟨x⟩
 have h5 := h.loop
 have hn := h.n
 exact ⟨Nat.le_trans h.n x.n, fun s hs hne => by rw [x.get s (by omega)]; exact h.get s hs hne, ⟨p, e, inferInstance, inferInstance, h3, h4⟩, inferInstance⟩

end Go.Am

set_option maxHeartbeats 4000000
set_option maxRecDepth 100000
set_option synthInstance.maxHeartbeats 4000000
set_option synthInstance.maxSize 100000
namespace Go.Am
open Go
attribute [local irreducible] Wp WpO WpX WpE

theorem JR.row {Hb H : AHeap} {rl r s : Nat} {R0 : RLoop} {acc : List RunT} {cs : List AVal} {rw : Bool} {e : TypeId} (h : JR Hb rl r R0 acc H) (k : HasRow Hb s cs rw e) (hne : s ≠ rl) : HasRow H s cs rw e := ⟨Nat.lt_of_lt_of_le k.lt h.n, by rw [h.get s k.lt hne]; exact k.get⟩
theorem JR.bytes {Hb H : AHeap} {rl r : Nat} {R0 : RLoop} {acc : List RunT} {p : AVal} {l : List UInt8} (h : JR Hb rl r R0 acc H) (k : BytesI Hb p l) (hne : RowNe p rl) : BytesI H p l := k.keep h.n fun s _ _ _ _ e hs => h.get s hs (hne.ne _ _ _ _ _ e)
theorem JR.ext {Hh Hb H : AHeap} {rl r : Nat} {R0 : RLoop} {acc : List RunT} (h : JR Hb rl r R0 acc H) (x : Ext Hh Hb) (hrl : Hh.n ≤ rl) : Ext Hh H := ⟨Nat.le_trans x.n h.n, fun s hs => by have := x.n; rw [h.get s (by omega) (by omega), x.get s hs]⟩
theorem JR.start {Hb : AHeap} {rl : Nat} {R0 : RLoop} {e : TypeId} (k : HasRow Hb rl [.nslice] true e) : JR Hb rl (Hb.n + 1) R0 [] ((Hb.push .dead).push (.loop R0)) := by
 have hlt := k.lt
 refine ⟨by simp only [AHeap.push]; omega, fun s hs _ => ?_, ⟨.nslice, e, inferInstance, ⟨Or.inl ⟨rfl, rfl, rfl⟩⟩, inferInstance, ⟨fun _ _ _ _ _ q => by cases q⟩⟩, (inferInstance : HasLoop ((Hb.push .dead).push (.loop R0)) (Hb.push .dead).n R0)⟩
 rw [push_get_lt (by simp only [AHeap.push]; omega), push_get_lt hs]
end Go.Am

set_option maxHeartbeats 4000000
set_option maxRecDepth 100000
set_option synthInstance.maxHeartbeats 4000000
set_option synthInstance.maxSize 100000
namespace Go.Am
open Go
attribute [local irreducible] Wp WpO WpX WpE

end Go.Am

set_option maxHeartbeats 4000000
set_option maxRecDepth 100000
set_option synthInstance.maxHeartbeats 4000000
set_option synthInstance.maxSize 100000
namespace Go.Am
open Go
attribute [local irreducible] Wp WpO WpX WpE

end Go.Am

set_option maxHeartbeats 4000000
set_option maxRecDepth 100000
set_option synthInstance.maxHeartbeats 4000000
set_option synthInstance.maxSize 100000
namespace Go.Am
open Go
attribute [local irreducible] Wp WpO WpX WpE

end Go.Am

/- The reference's components: pixels with one number. -/
set_option maxHeartbeats 4000000
namespace Go.Am
open Go
/-- An image whose ink are some pixels. -/
def inkOf (n : Nat) (ps : List Nat) : List UInt8 := (List.range n).map fun j => if j ∈ ps then 1 else 0
/-- The pixels before k that have the number i. -/
def pxr (l : List UInt8) (N : List Nat) (i k : Nat) : List Nat := (List.range k).filter fun j => l.getD j 0 == 1 && N.getD j 0 == i
theorem pxr_le (l : List UInt8) (N : List Nat) (i k : Nat) : (pxr l N i k).length ≤ k := by
  unfold pxr
  exact Nat.le_trans (List.length_filter_le _ _) (by simp)
/-- The first pixels before i. -/
def fls (l : List UInt8) (N : List Nat) (i : Nat) : List Nat := (List.range i).filter fun m => l.getD m 0 == 1 && N.getD m 0 == m
theorem fls_hit {l : List UInt8} {N : List Nat} {i : Nat} (h : l.getD i 0 = 1) (g : N.getD i 0 = i) : fls l N (i + 1) = fls l N i ++ [i] := by
  have hb : (l.getD i 0 == 1 && N.getD i 0 == i) = true := by rw [h, g]; simp
  unfold fls
  rw [List.range_succ, List.filter_append]
  simp only [List.filter_cons, hb, if_true, List.filter_nil]
theorem fls_miss {l : List UInt8} {N : List Nat} {i : Nat} (h : (l.getD i 0 == 1 && N.getD i 0 == i) = false) : fls l N (i + 1) = fls l N i := by
  unfold fls
  rw [List.range_succ, List.filter_append]
  simp only [List.filter_cons, h, Bool.false_eq_true, if_false, List.filter_nil, List.append_nil]
theorem fls_le (l : List UInt8) (N : List Nat) (i : Nat) : (fls l N i).length ≤ i := by
  unfold fls
  exact Nat.le_trans (List.length_filter_le _ _) (by simp)
/-- The box of an image, as the reference finds it. -/
def boxR (l : List UInt8) (a b : Nat) : Bx := ⟨(extL (colsL l a b)).1, (extL (rowsL l a b)).1, (extL (colsL l a b)).2, (extL (rowsL l a b)).2⟩
theorem cellsC_snoc (C : List (Bx × AVal)) (c : Bx × AVal) : cellsC (C ++ [c]) = cellsC C ++ (c.1.cells ++ [c.2]) := by
  induction C with
  | nil => rfl
  | cons d C ih => show (d.1.cells ++ [d.2]) ++ cellsC (C ++ [c]) = ((d.1.cells ++ [d.2]) ++ cellsC C) ++ (c.1.cells ++ [c.2]); rw [ih]; simp only [List.append_assoc]
/-- The list that grows: o; each component's list stands for itself. -/
structure RefC (K H : AHeap) (l : List UInt8) (N : List Nat) (a b i : Nat) (o : AVal) (C : List (Bx × AVal)) : Prop where
  own : OwnS H o 5 C.length (cellsC C) 85
  fresh : FreshS K o
  num : C.length = (fls l N i).length
  box : ∀ (k : Nat) c m, C[k]? = some c → (fls l N i)[k]? = some m → c.1 = boxR (inkOf (a * b) (pxr l N m (a * b))) a b
  px : ∀ (k : Nat) c m, C[k]? = some c → (fls l N i)[k]? = some m → SliceAt H c.2 2 (pxr l N m (a * b)).length (cellsK a (pxr l N m (a * b)))
  sep : ∀ (k : Nat) c, C[k]? = some c → SepS c.2 o
  fr : ∀ (k : Nat) c, C[k]? = some c → FreshS K c.2
theorem RefC.begin {K H : AHeap} {l : List UInt8} {N : List Nat} {a b : Nat} : RefC K H l N a b 0 .nslice [] :=
  ⟨⟨Or.inl ⟨rfl, rfl, rfl⟩⟩, ⟨fun _ _ _ _ _ q => by cases q⟩, rfl, fun k c m h => (by simp at h), fun k c m h => (by simp at h), fun k c h => (by simp at h), fun k c h => (by simp at h)⟩
theorem RefC.skip {K H : AHeap} {l : List UInt8} {N : List Nat} {a b i : Nat} {o : AVal} {C : List (Bx × AVal)} (h : RefC K H l N a b i o C) (g : (l.getD i 0 == 1 && N.getD i 0 == i) = false) : RefC K H l N a b (i + 1) o C := by
  obtain ⟨h1, h2, h3, h4, h5, h6, h7⟩ := h
  exact ⟨h1, h2, by rw [fls_miss g]; exact h3, by rw [fls_miss g]; exact h4, by rw [fls_miss g]; exact h5, h6, h7⟩
theorem RefC.ext {K H H' : AHeap} {l : List UInt8} {N : List Nat} {a b i : Nat} {o : AVal} {C : List (Bx × AVal)} (h : RefC K H l N a b i o C) (x : Ext H H') : RefC K H' l N a b i o C := by
  obtain ⟨h1, h2, h3, h4, h5, h6, h7⟩ := h
  haveI : ExtI H H' := ⟨x⟩
  exact ⟨inferInstance, h2, h3, h4, fun k c m q r => by haveI := h5 k c m q r; infer_instance, h6, h7⟩
theorem snoc_at {α : Type} {C : List α} {x y : α} {k : Nat} (h : (C ++ [x])[k]? = some y) : (k < C.length ∧ C[k]? = some y) ∨ (k = C.length ∧ y = x) := by
  by_cases hk : k < C.length
  · rw [List.getElem?_append_left hk] at h; exact Or.inl ⟨hk, h⟩
  · rw [List.getElem?_append_right (by omega)] at h
    cases hj : k - C.length with
    | zero => rw [hj] at h; simp at h; exact Or.inr ⟨by omega, h.symm⟩
    | succ j => rw [hj] at h; simp at h
/-- One component more. -/
theorem RefC.next {K H H' : AHeap} {l : List UInt8} {N : List Nat} {a b i : Nat} {o o' pl : AVal} {C : List (Bx × AVal)} {bx : Bx} (h : RefC K H l N a b i o C) (hl : l.getD i 0 = 1) (hN : N.getD i 0 = i) (ho : OwnS H' o' 5 (C.length + 1) (cellsC C ++ (bx.cells ++ [pl])) 85) (hf : FreshS H o') (hK : Ext K H ∨ FreshS K o') (hx : ExtP H H' o) (hb : bx = boxR (inkOf (a * b) (pxr l N i (a * b))) a b)
    (hp : SliceAt H pl 2 (pxr l N i (a * b)).length (cellsK a (pxr l N i (a * b)))) (hs : SepS pl o) (hg : FreshS K pl) : RefC K H' l N a b (i + 1) o' (C ++ [(bx, pl)]) := by
  refine ⟨by rw [List.length_append, List.length_singleton, cellsC_snoc]; exact ho, ?_, by rw [fls_hit hl hN, List.length_append, List.length_append, h.num]; rfl, fun k c m h1 h2 => ?_, fun k c m h1 h2 => ?_, fun k c h1 => ?_, fun k c h1 => ?_⟩
  · rcases hK with hK | hK
    · exact ⟨fun _ _ _ _ _ q => Nat.le_trans hK.n (hf.ge _ _ _ _ _ q)⟩
    · exact hK
  · rw [fls_hit hl hN] at h2
    rcases snoc_at h1 with ⟨q1, h1⟩ | ⟨q1, rfl⟩
    · rcases snoc_at h2 with ⟨_, h2⟩ | ⟨q2, _⟩
      · exact h.box k c m h1 h2
      · rw [q2, ← h.num] at q1; exact absurd q1 (Nat.lt_irrefl _)
    · rcases snoc_at h2 with ⟨q2, _⟩ | ⟨_, rfl⟩
      · rw [q1, h.num] at q2; exact absurd q2 (Nat.lt_irrefl _)
      · exact hb
  · rw [fls_hit hl hN] at h2
    rcases snoc_at h1 with ⟨q1, h1⟩ | ⟨q1, rfl⟩
    · rcases snoc_at h2 with ⟨_, h2⟩ | ⟨q2, _⟩
      · haveI := h.px k c m h1 h2
        haveI := h.sep k c h1
        infer_instance
      · rw [q2, ← h.num] at q1; exact absurd q1 (Nat.lt_irrefl _)
    · rcases snoc_at h2 with ⟨q2, _⟩ | ⟨_, rfl⟩
      · rw [q1, h.num] at q2; exact absurd q2 (Nat.lt_irrefl _)
      · infer_instance
  · rcases snoc_at h1 with ⟨q1, h1⟩ | ⟨q1, rfl⟩
    · obtain ⟨m, h2⟩ : ∃ m, (fls l N i)[k]? = some m := ⟨_, List.getElem?_eq_getElem (by rw [← h.num]; exact q1)⟩
      haveI := h.px k c m h1 h2
      infer_instance
    · infer_instance
  · rcases snoc_at h1 with ⟨_, h1⟩ | ⟨_, rfl⟩
    · exact h.fr k c h1
    · exact hg
instance {H : AHeap} {r : Nat} {c0 c1 : AVal} {rw : Bool} {e : TypeId} [h : HasRow H r [c0, c1] rw e] : SliceAt H (.slice r 0 1 (some 1) 2) 2 1 [c0, c1] := ⟨Or.inr ⟨r, 0, some 1, _, rw, e, rfl, h.lt, h.get, Nat.le_refl _, rfl, Nat.le_refl _⟩⟩
instance {H : AHeap} {r : Nat} {c0 c1 c2 c3 c4 : AVal} {rw : Bool} {e : TypeId} [h : HasRow H r [c0, c1, c2, c3, c4] rw e] : SliceAt H (.slice r 0 1 (some 1) 5) 5 1 [c0, c1, c2, c3, c4] := ⟨Or.inr ⟨r, 0, some 1, _, rw, e, rfl, h.lt, h.get, Nat.le_refl _, rfl, Nat.le_refl _⟩⟩
end Go.Am

/- Both sides' components are the same: first pixels, pixels, boxes. -/
set_option maxHeartbeats 4000000
namespace Go.Am
open Go
/- ===== strictly increasing lists ===== -/
theorem inc_eq : ∀ {l m : List Nat}, l.Pairwise (· < ·) → m.Pairwise (· < ·) → (∀ x, x ∈ l ↔ x ∈ m) → l = m
  | [], [], _, _, _ => rfl
  | [], y :: m, _, _, h => by have := (h y).2 (List.mem_cons_self ..); cases this
  | x :: l, [], _, _, h => by have := (h x).1 (List.mem_cons_self ..); cases this
  | x :: l, y :: m, h1, h2, h => by
    rw [List.pairwise_cons] at h1 h2
    have hxy : x = y := by
      rcases List.mem_cons.1 ((h x).1 (List.mem_cons_self ..)) with q | q
      · exact q
      · rcases List.mem_cons.1 ((h y).2 (List.mem_cons_self ..)) with r | r
        · exact r.symm
        · have := h2.1 x q; have := h1.1 y r; omega
    subst hxy
    rw [inc_eq h1.2 h2.2 fun z => ?_]
    constructor
    · intro hz
      rcases List.mem_cons.1 ((h z).1 (List.mem_cons_of_mem _ hz)) with q | q
      · have := h1.1 z hz; omega
      · exact q
    · intro hz
      rcases List.mem_cons.1 ((h z).2 (List.mem_cons_of_mem _ hz)) with q | q
      · have := h2.1 z hz; omega
      · exact q
theorem inc_inj {L : List Nat} (h : L.Pairwise (· < ·)) {i k m : Nat} (h1 : L[i]? = some m) (h2 : L[k]? = some m) : i = k := by
  obtain ⟨g1, e1⟩ := List.getElem?_eq_some_iff.1 h1
  obtain ⟨g2, e2⟩ := List.getElem?_eq_some_iff.1 h2
  rw [List.pairwise_iff_getElem] at h
  rcases Nat.lt_trichotomy i k with q | q | q
  · have := h i k g1 g2 q; omega
  · exact q
  · have := h k i g2 g1 q; omega
section
variable {l : List UInt8} {a b : Nat} {e : Bool} {M L N : List Nat}
theorem fls_inc (l : List UInt8) (N : List Nat) (i : Nat) : (fls l N i).Pairwise (· < ·) := by
  unfold fls
  exact List.Pairwise.filter _ List.pairwise_lt_range
theorem fls_eq (h : Lab l a b e M L (a * b)) (hld : ∀ i, i < a * b → l.getD i 0 = 1 → Lead l a b e i (N.getD i 0)) : L = fls l N (a * b) := by
  refine inc_eq h.inc (fls_inc _ _ _) fun m => ?_
  unfold fls
  rw [List.mem_filter, List.mem_range, Bool.and_eq_true, beq_iff_eq, beq_iff_eq]
  constructor
  · intro hm
    obtain ⟨h1, h2⟩ := h.lead m hm
    have h3 := h2.1.start_ok.2
    exact ⟨h1, h3, (hld m h1 h3).unique h2⟩
  · rintro ⟨h1, h2, h3⟩
    have h4 := hld m h1 h2
    rw [h3] at h4
    obtain ⟨m', h5, h6⟩ := h.num m (h.seen m h1 h2)
    have h7 := (h.lead m' (List.mem_of_getElem? h5)).2
    have h8 : m' = m := (h7.same h6).unique h4
    rw [← h8]; exact List.mem_of_getElem? h5
theorem pxs_eq (h : Lab l a b e M L (a * b)) (hld : ∀ i, i < a * b → l.getD i 0 = 1 → Lead l a b e i (N.getD i 0)) {k m : Nat} (hk : L[k]? = some m) : pxs M (a * b) k = pxr l N m (a * b) := by
  unfold pxs pxr
  apply List.filter_congr
  intro j hj
  have hj := List.mem_range.1 hj
  have hm := (h.lead m (List.mem_of_getElem? hk)).2
  rw [Bool.eq_iff_iff, Bool.and_eq_true, beq_iff_eq, beq_iff_eq, beq_iff_eq]
  constructor
  · intro q
    obtain ⟨m', h5, h6⟩ := h.num j (by omega)
    rw [q, Nat.add_sub_cancel, hk] at h5
    cases h5
    have h7 := h6.end_ok.2
    exact ⟨h7, (hld j hj h7).unique (hm.same h6)⟩
  · rintro ⟨q1, q2⟩
    have h4 := hld j hj q1
    rw [q2] at h4
    have h0 := h.seen j hj q1
    obtain ⟨m', h5, h6⟩ := h.num j h0
    have h7 := (h.lead m' (List.mem_of_getElem? h5)).2
    have h8 : m' = m := (h7.same h6).unique h4
    subst h8
    have := inc_inj h.inc h5 hk
    omega
theorem pxr_ne (hld : ∀ i, i < a * b → l.getD i 0 = 1 → Lead l a b e i (N.getD i 0)) {k m : Nat} (hk : (fls l N (a * b))[k]? = some m) : pxr l N m (a * b) ≠ [] ∧ ∀ j ∈ pxr l N m (a * b), j < a * b := by
  have hm := List.mem_of_getElem? hk
  unfold fls at hm
  rw [List.mem_filter, List.mem_range, Bool.and_eq_true, beq_iff_eq, beq_iff_eq] at hm
  refine ⟨fun q => ?_, fun j hj => ?_⟩
  · have : m ∈ pxr l N m (a * b) := by
      unfold pxr
      rw [List.mem_filter, List.mem_range, Bool.and_eq_true, beq_iff_eq, beq_iff_eq]
      exact hm
    rw [q] at this; cases this
  · unfold pxr at hj
    exact List.mem_range.1 (List.mem_filter.1 hj).1
end
/- ===== boxes ===== -/
/-- The least and the greatest value of a function on a list. -/
def Span (f : Nat → Nat) (ps : List Nat) (lo hi : Nat) : Prop := (∀ k ∈ ps, lo ≤ f k ∧ f k ≤ hi) ∧ (∃ k ∈ ps, f k = lo) ∧ ∃ k ∈ ps, f k = hi
theorem Span.unique {f : Nat → Nat} {ps : List Nat} {lo hi lo' hi' : Nat} (h : Span f ps lo hi) (g : Span f ps lo' hi') : lo = lo' ∧ hi = hi' := by
  obtain ⟨h1, ⟨k1, m1, e1⟩, ⟨k2, m2, e2⟩⟩ := h
  obtain ⟨g1, ⟨j1, n1, d1⟩, ⟨j2, n2, d2⟩⟩ := g
  have := h1 j1 n1; have := h1 j2 n2; have := g1 k1 m1; have := g1 k2 m2
  omega
theorem Span.snoc {f : Nat → Nat} {ps : List Nat} {lo hi : Nat} (h : Span f ps lo hi) (k : Nat) : Span f (ps ++ [k]) (min lo (f k)) (max hi (f k)) := by
  obtain ⟨h1, ⟨k1, m1, e1⟩, ⟨k2, m2, e2⟩⟩ := h
  refine ⟨fun j hj => ?_, ?_, ?_⟩
  · rcases List.mem_append.1 hj with q | q
    · have := h1 j q; omega
    · rw [List.mem_singleton] at q; subst q; omega
  · by_cases q : lo ≤ f k
    · exact ⟨k1, List.mem_append_left _ m1, by omega⟩
    · exact ⟨k, List.mem_append_right _ (List.mem_singleton.2 rfl), by omega⟩
  · by_cases q : f k ≤ hi
    · exact ⟨k2, List.mem_append_left _ m2, by omega⟩
    · exact ⟨k, List.mem_append_right _ (List.mem_singleton.2 rfl), by omega⟩
theorem str_nat {lo hi p : Nat} (h : lo ≤ hi) (h1 : hi < 409600) (h2 : p < 409600) : strX (lo : Int) (p : Int) = ((min lo p : Nat) : Int) ∧ strW (lo : Int) ((hi : Int) + 1 - lo) (p : Int) = ((max hi p : Nat) : Int) + 1 - ((min lo p : Nat) : Int) := by
  have e1 : strX (lo : Int) (p : Int) = ((min lo p : Nat) : Int) := by
    unfold strX
    by_cases q : (p : Int) < (lo : Int)
    · rw [if_pos q]; omega
    · rw [if_neg q]; omega
  refine ⟨e1, ?_⟩
  unfold strW
  rw [e1, w64 (show _ ≤ (p : Int) + 1 ∧ _ by omega), w64 (show _ ≤ (lo : Int) + ((hi : Int) + 1 - lo) ∧ _ by omega)]
  by_cases q : (p : Int) + 1 > (lo : Int) + ((hi : Int) + 1 - lo)
  · rw [if_pos q, w64 (by omega)]; omega
  · rw [if_neg q, w64 (by omega)]; omega
theorem bxL_span {a b : Nat} (hab : a * b ≤ 409600) : ∀ {n : Nat} {ps : List Nat}, ps.length = n → ps ≠ [] → (∀ j ∈ ps, j < a * b) → ∃ x1 x2 y1 y2 : Nat, Span (· % a) ps x1 x2 ∧ Span (· / a) ps y1 y2 ∧ x1 ≤ x2 ∧ x2 < 409600 ∧ y1 ≤ y2 ∧ y2 < 409600 ∧ bxL a ps = ⟨x1, y1, (x2 : Int) + 1 - x1, (y2 : Int) + 1 - y1⟩ := by
  intro n
  induction n with
  | zero => intro ps h1 h2; exact absurd (List.eq_nil_of_length_eq_zero h1) h2
  | succ n ih =>
    intro ps h1 _ h3
    rcases snoc_cases ps with rfl | ⟨qs, k, rfl⟩
    · simp at h1
    rw [List.length_append, List.length_singleton] at h1
    have hk : k < a * b := h3 k (List.mem_append_right _ (List.mem_singleton.2 rfl))
    have hm : k % a ≤ k := Nat.mod_le _ _
    have hd : k / a ≤ k := Nat.div_le_self _ _
    rw [bxL_snoc]
    by_cases hq : qs = []
    · subst hq
      refine ⟨k % a, k % a, k / a, k / a, ⟨fun j hj => ?_, ⟨k, List.mem_singleton.2 rfl, rfl⟩, ⟨k, List.mem_singleton.2 rfl, rfl⟩⟩, ⟨fun j hj => ?_, ⟨k, List.mem_singleton.2 rfl, rfl⟩, ⟨k, List.mem_singleton.2 rfl, rfl⟩⟩, Nat.le_refl _, by omega, Nat.le_refl _, by omega, ?_⟩
      · rw [List.nil_append, List.mem_singleton] at hj; subst hj; exact ⟨Nat.le_refl _, Nat.le_refl _⟩
      · rw [List.nil_append, List.mem_singleton] at hj; subst hj; exact ⟨Nat.le_refl _, Nat.le_refl _⟩
      · have e1 : ((k % a : Nat) : Int) + 1 - ((k % a : Nat) : Int) = 1 := by omega
        have e2 : ((k / a : Nat) : Int) + 1 - ((k / a : Nat) : Int) = 1 := by omega
        rw [e1, e2]; rfl
    · obtain ⟨x1, x2, y1, y2, s1, s2, b1, b2, b3, b4, e⟩ := ih (by omega) hq fun j hj => h3 j (List.mem_append_left _ hj)
      refine ⟨min x1 (k % a), max x2 (k % a), min y1 (k / a), max y2 (k / a), s1.snoc k, s2.snoc k, by omega, by omega, by omega, by omega, ?_⟩
      rw [e]
      have hw : ((x2 : Int) + 1 - (x1 : Int) == 0) = false := beq_eq_false_iff_ne.2 (by omega)
      obtain ⟨g1, g2⟩ := str_nat (p := k % a) b1 b2 (by omega)
      obtain ⟨g3, g4⟩ := str_nat (p := k / a) b3 b4 (by omega)
      unfold bxS
      simp only [hw, cond_false, g1, g2, g3, g4]
theorem inkOf_get {n j : Nat} {ps : List Nat} : (inkOf n ps).getD j 0 = 1 ↔ j < n ∧ j ∈ ps := by
  unfold inkOf
  rw [List.getD_eq_getElem?_getD, List.getElem?_map]
  by_cases h : j < n
  · rw [List.getElem?_range h]
    by_cases q : j ∈ ps <;> simp [h, q]
  · rw [List.getElem?_eq_none (by simp; omega)]; simp [h]
theorem filter_pos {P : Nat → Bool} {n : Nat} : ((((List.range n).filter P).length : Nat) : Int) > 0 ↔ ∃ v, v < n ∧ P v = true := by
  have h : 0 < ((List.range n).filter P).length ↔ ∃ v, v < n ∧ P v = true := by
    rw [List.length_pos_iff_exists_mem]
    constructor
    · rintro ⟨v, hv⟩
      rw [List.mem_filter, List.mem_range] at hv
      exact ⟨v, hv⟩
    · rintro ⟨v, hv⟩
      exact ⟨v, by rw [List.mem_filter, List.mem_range]; exact hv⟩
  rw [← h]; omega
theorem getD_mapR {f : Nat → Int} {n i : Nat} : ((List.range n).map f).getD i 0 = if i < n then f i else 0 := by
  rw [List.getD_eq_getElem?_getD, List.getElem?_map]
  by_cases h : i < n
  · rw [List.getElem?_range h, if_pos h]; rfl
  · rw [List.getElem?_eq_none (by simp; omega), if_neg h]; rfl
theorem cols_pos {a b i : Nat} {ps : List Nat} (hps : ∀ j ∈ ps, j < a * b) : (colsL (inkOf (a * b) ps) a b).getD i 0 > 0 ↔ i < a ∧ ∃ j ∈ ps, j % a = i := by
  unfold colsL
  rw [getD_mapR]
  by_cases h : i < a
  · rw [if_pos h]
    unfold cc
    rw [filter_pos]
    constructor
    · rintro ⟨v, hv, hq⟩
      have := inkOf_get.1 (eq_of_beq hq)
      exact ⟨h, v * a + i, this.2, (at_div (v := v) h).1⟩
    · rintro ⟨_, j, hj, hm⟩
      have hlt := hps j hj
      obtain ⟨_, h1, h2, h3⟩ := div_lt hlt
      refine ⟨j / a, h2, ?_⟩
      have e : j / a * a + i = j := by rw [← hm]; exact h3.symm
      rw [e]
      have := inkOf_get.2 ⟨hlt, hj⟩
      rw [this]; rfl
  · rw [if_neg h]
    exact ⟨fun q => absurd q (by decide), fun q => absurd q.1 h⟩
theorem rows_pos {a b i : Nat} {ps : List Nat} (hps : ∀ j ∈ ps, j < a * b) : (rowsL (inkOf (a * b) ps) a b).getD i 0 > 0 ↔ i < b ∧ ∃ j ∈ ps, j / a = i := by
  unfold rowsL
  rw [getD_mapR]
  by_cases h : i < b
  · rw [if_pos h]
    unfold rc
    rw [filter_pos]
    constructor
    · rintro ⟨v, hv, hq⟩
      have := inkOf_get.1 (eq_of_beq hq)
      exact ⟨h, i * a + v, this.2, (at_div (v := i) hv).2⟩
    · rintro ⟨_, j, hj, hm⟩
      have hlt := hps j hj
      obtain ⟨_, h1, h2, h3⟩ := div_lt hlt
      refine ⟨j % a, h1, ?_⟩
      have e : i * a + j % a = j := by rw [← hm]; exact h3.symm
      rw [e]
      have := inkOf_get.2 ⟨hlt, hj⟩
      rw [this]; rfl
  · rw [if_neg h]
    exact ⟨fun q => absurd q (by decide), fun q => absurd q.1 h⟩
theorem ext_span {p : List Int} {n : Nat} {f : Nat → Nat} {ps : List Nat} (hl : p.length = n) (hne : ps ≠ []) (hf : ∀ j ∈ ps, f j < n) (hp : ∀ i, p.getD i 0 > 0 ↔ i < n ∧ ∃ j ∈ ps, f j = i) : ∃ lo hi : Nat, Span f ps lo hi ∧ lo ≤ hi ∧ extL p = ((lo : Int), (hi : Int) + 1 - lo) := by
  obtain ⟨j0, hj0⟩ := List.exists_mem_of_ne_nil ps hne
  unfold extL
  rw [hl]
  rcases ext_char p n with ⟨h, _⟩ | ⟨lo, hi, h1, h2, h3, h4, h5, h6, h7⟩
  · exact absurd ((hp (f j0)).2 ⟨hf j0 hj0, j0, hj0, rfl⟩) (h _ (hf j0 hj0))
  · refine ⟨lo, hi, ⟨fun k hk => ?_, ?_, ?_⟩, h1, h7⟩
    · have hk1 := (hp (f k)).2 ⟨hf k hk, k, hk, rfl⟩
      refine ⟨Nat.le_of_not_lt fun q => h5 _ q hk1, Nat.le_of_not_lt fun q => h6 _ q (hf k hk) hk1⟩
    · obtain ⟨_, j, hj, e⟩ := (hp lo).1 h3; exact ⟨j, hj, e⟩
    · obtain ⟨_, j, hj, e⟩ := (hp hi).1 h4; exact ⟨j, hj, e⟩
/-- Both boxes are the same. -/
theorem boxR_eq {a b : Nat} (hab : a * b ≤ 409600) {ps : List Nat} (hne : ps ≠ []) (hps : ∀ j ∈ ps, j < a * b) : boxR (inkOf (a * b) ps) a b = bxL a ps := by
  obtain ⟨x1, x2, y1, y2, s1, s2, b1, b2, b3, b4, e⟩ := bxL_span hab rfl hne hps
  obtain ⟨u1, u2, t1, _, e1⟩ := ext_span (p := colsL (inkOf (a * b) ps) a b) (n := a) (f := (· % a)) (by simp [colsL]) hne (fun j hj => (div_lt (hps j hj)).2.1) fun i => cols_pos hps
  obtain ⟨v1, v2, t2, _, e2⟩ := ext_span (p := rowsL (inkOf (a * b) ps) a b) (n := b) (f := (· / a)) (by simp [rowsL]) hne (fun j hj => (div_lt (hps j hj)).2.2.1) fun i => rows_pos hps
  obtain ⟨rfl, rfl⟩ := s1.unique t1
  obtain ⟨rfl, rfl⟩ := s2.unique t2
  unfold boxR
  rw [e, e1, e2]
end Go.Am

/- Append to an empty slice that the call has made. -/
set_option maxHeartbeats 4000000
namespace Go.Am
open Go
end Go.Am

set_option maxHeartbeats 8000000
set_option maxRecDepth 100000
set_option synthInstance.maxHeartbeats 4000000
set_option synthInstance.maxSize 1000000000
namespace Go.Am
open Go
attribute [local irreducible] Wp WpO WpX WpE

class Few6 (n : Nat) : Prop where
 le : n ≤ 409600
/-- A list of components that may be read: their pixels are P. -/
structure CL (H : AHeap) (q : AVal) (a : Nat) (C : List (Bx × AVal)) (P : List (List Nat)) : Prop where
 row : SliceAt H q 5 C.length (cellsC C)
 len : C.length = P.length
 it : ∀ (k : Nat) c l, C[k]? = some c → P[k]? = some l → c.1 = bxL a l ∧ SliceAt H c.2 2 l.length (cellsK a l)
 few : P.length ≤ 409600 ∧ ∀ l ∈ P, l.length ≤ 409600
theorem CL.ext {H H' : AHeap} {q : AVal} {a : Nat} {C : List (Bx × AVal)} {P : List (List Nat)} (h : CL H q a C P) (x : Ext H H') : CL H' q a C P := by
 haveI : ExtI H H' := ⟨x⟩
 haveI := h.row
 exact ⟨inferInstance, h.len, fun k c l h1 h2 => by
  obtain ⟨h3, h4⟩ := h.it k c l h1 h2
  exact ⟨h3, inferInstance⟩, h.few⟩
theorem CL.at {H : AHeap} {q : AVal} {a : Nat} {C : List (Bx × AVal)} {P : List (List Nat)} (h : CL H q a C P) {k : Nat} (hk : k < P.length) : ∃ p, C[k]? = some (bxL a P[k], p) ∧ SliceAt H p 2 P[k].length (cellsK a P[k]) ∧ P[k].length ≤ 409600 := by
 have hC : k < C.length := by rw [h.len]; exact hk
 obtain ⟨h1, h2⟩ := h.it k C[k] P[k] (List.getElem?_eq_getElem hC) (List.getElem?_eq_getElem hk)
 refine ⟨C[k].2, ?_, h2, h.few.2 _ (List.getElem_mem _)⟩
 rw [List.getElem?_eq_getElem hC, ← h1]
end Go.Am

/- Components of both sides as one list; an image whose small components are cleared. -/
set_option maxHeartbeats 4000000
namespace Go.Am
open Go
section
variable {l : List UInt8} {a b : Nat} {e : Bool} {M L N : List Nat}
/-- The pixels of the components, as the reference's numbers tell. -/
def pcs (l : List UInt8) (N : List Nat) (n : Nat) : List (List Nat) := (fls l N n).map fun m => pxr l N m n
theorem pxAll_fls (h : Lab l a b e M L (a * b)) (hld : ∀ i, i < a * b → l.getD i 0 = 1 → Lead l a b e i (N.getD i 0)) : pxAll M L.length (a * b) = pcs l N (a * b) := by
  unfold pcs
  rw [← fls_eq h hld]
  apply List.ext_getElem?
  intro k
  rw [List.getElem?_map]
  by_cases hk : k < L.length
  · rw [pxAll_at hk, List.getElem?_eq_getElem hk, Option.map_some, ← pxs_eq h hld (List.getElem?_eq_getElem hk)]
  · rw [List.getElem?_eq_none (by rw [pxAll_length]; omega), List.getElem?_eq_none (by omega)]; rfl
theorem CmpsR.cl {K H : AHeap} {q : AVal} {C : List (Bx × AVal)} (h : CmpsR K H q l a b e M L C) (hab : a * b ≤ 409600) : CL H q a C (pxAll M L.length (a * b)) := by
  have hfew := h.lab.few
  refine ⟨h.cmps.row, by rw [pxAll_length, h.num], fun k c ps h1 h2 => ⟨?_, (h.cmps.own k c ps h1 h2).sl⟩, by rw [pxAll_length]; omega, fun ps hps => ?_⟩
  · have hk : k < L.length := by
      rw [← h.num]
      rcases Nat.lt_or_ge k C.length with q | q
      · exact q
      · rw [List.getElem?_eq_none q] at h1; cases h1
    rw [pxAll_at hk] at h2
    rw [← Option.some.inj h2]
    exact h.box k c h1
  · obtain ⟨k, hk, rfl⟩ := List.mem_map.1 hps
    have := pxs_le M (a * b) k
    omega
theorem RefC.cl {K H : AHeap} {v : AVal} {C : List (Bx × AVal)} (h : RefC K H l N a b (a * b) v C) (hld : ∀ i, i < a * b → l.getD i 0 = 1 → Lead l a b e i (N.getD i 0)) (hab : a * b ≤ 409600) : CL H v a C (pcs l N (a * b)) := by
  have hfew := fls_le l N (a * b)
  unfold pcs
  refine ⟨h.own.sl, by rw [List.length_map, h.num], fun k c ps h1 h2 => ?_, by rw [List.length_map]; omega, fun ps hps => ?_⟩
  · rw [List.getElem?_map] at h2
    obtain ⟨m, hm, rfl⟩ := Option.map_eq_some_iff.1 h2
    obtain ⟨n1, n2⟩ := pxr_ne hld hm
    exact ⟨by rw [h.box k c m h1 hm, boxR_eq hab n1 n2], h.px k c m h1 hm⟩
  · obtain ⟨k, hk, rfl⟩ := List.mem_map.1 hps
    have := pxr_le l N k (a * b)
    omega
end
section
variable {l : List UInt8} {a b : Nat} {e : Bool} {N : List Nat}
end
end Go.Am

set_option maxHeartbeats 4000000
set_option maxRecDepth 100000
namespace Go.Am
open Go
attribute [local irreducible] Wp WpO WpX WpE

/-- All ink of an image is ink of another one. -/
def inkIn (l m : List UInt8) : Bool := ((List.zipWith (fun a b => a &&& ~~~b) l m).count 1 : Nat) == 0
theorem less01 (x y : UInt8) (h : x = 0 ∨ x = 1) (k : y = 0 ∨ y = 1) : x &&& ~~~y = 0 ∨ x &&& ~~~y = 1 := by rcases h with rfl | rfl <;> rcases k with rfl | rfl <;> decide
class OkI (a b : outParam Nat) (l : List UInt8) : Prop where
 ok : Ok a b l
theorem K_lessV {p q : AVal} {H : AHeap} {a b : Nat} {l m : List UInt8} [hp : BytesI H p l] [hq : BytesI H q m] (h : Ok a b l) (k : Ok a b m) : Con ext prog 5 87 [.agg [.int .i64 a, .int .i64 b, p], .agg [.int .i64 a, .int .i64 b, q]] H fun v H' => InkRes H H' v (⟨a, b, List.zipWith (fun a b => a &&& ~~~b) l m⟩, 0) := by
 rw [← combOk (op := fun a b => a &&& ~~~b) h k]; exact K_Less
theorem K_within {p q : AVal} {H : AHeap} {a b : Nat} {l m : List UInt8} [hp : BytesI H p l] [hq : BytesI H q m] (h : Ok a b l) (k : Ok a b m) : Con ext prog 6 88 [.agg [.int .i64 a, .int .i64 b, p], .agg [.int .i64 a, .int .i64 b, q]] H fun v H' => v = .bool (inkIn l m) ∧ Ext H H' := by
 refine con_of (show prog 88 = some c88 from rfl) rfl rfl fun n hn => ?_
 haveI := hp.one
 haveI := hq.one
 have hz := ok_zip h k less01
 unfold inkIn
 refine sq ?_
 refine rg fun KF hKF => ?_
 refine Fo.boxA rfl ?_
 refine Fo.boxA rfl ?_
 refine mB rfl ?_
 refine WpO.nil (hKF _ _ ?_)
 refine sq ?_
 refine rg fun KF hKF => ?_
 refine Fo.ldN rfl rfl (by simp only [↓nrmL, nrmZ, Nat.reduceEqDiff, ↓reduceIte, Nat.reduceAdd, Int.reduceBEq, Int.reduceBNe]; rfl) ?_
 refine Fo.ldN rfl rfl (by simp only [↓nrmL, nrmZ, Nat.reduceEqDiff, ↓reduceIte, Nat.reduceAdd, Int.reduceBEq, Int.reduceBNe]; rfl) ?_
 refine WpO.do (WpX.conD hn rfl rfl (by simp only [↓nrmL, nrmZ, Nat.reduceEqDiff, ↓reduceIte, Nat.reduceAdd, Int.reduceBEq, Int.reduceBNe, List.map] <;> rfl) (K_lessV h k) fun v H1 h5 => ?_)
 obtain ⟨u, e1, c, e2, hc, hfc, hwc, hxc⟩ := h5
 subst e1 e2
 try dsimp only at hc
 haveI : ExtI _ H1 := ⟨hxc⟩
 haveI := hc.one
 try simp only [↓nrmL, nrmZ, Nat.reduceEqDiff, ↓reduceIte, Nat.reduceAdd, Int.reduceBEq, Int.reduceBNe, hz.err, beq_self_eq_true, cond_true]
 refine mT rfl ?_
 refine Fo.extr rfl rfl ?_
 refine Fo.extr rfl rfl ?_
 refine Fo.new ?_
 refine Fo.st rfl (rfl : _ = AVal.agg _) rfl rfl rfl (by repeat (first | rfl | refine allOne_cons ?_)) (by simp only [↓nrmL, nrmZ, Nat.reduceEqDiff, ↓reduceIte, Nat.reduceAdd, Int.reduceBEq, Int.reduceBNe, hz.err, beq_self_eq_true, cond_true]; rfl) ?_
 refine mI rfl ?_
 refine WpO.nil (hKF _ _ ?_)
 refine sq ?_
 refine rg fun KF hKF => ?_
 refine Fo.ldN rfl rfl (by simp only [↓nrmL, nrmZ, Nat.reduceEqDiff, ↓reduceIte, Nat.reduceAdd, Int.reduceBEq, Int.reduceBNe, hz.err, beq_self_eq_true, cond_true]; rfl) ?_
 refine Fo.pcall (v' := ?_) hn rfl (by simp only [↓nrmL, nrmZ, Nat.reduceEqDiff, ↓reduceIte, Nat.reduceAdd, Int.reduceBEq, Int.reduceBNe, hz.err, beq_self_eq_true, cond_true, List.map]; rfl) rfl ?hv fun _ _ => ?_; case hv => (simp only [↓nrmL, nrmZ, Nat.reduceEqDiff, ↓reduceIte, Nat.reduceAdd, Int.reduceBEq, Int.reduceBNe, hz.err, beq_self_eq_true, cond_true]; rfl)
 refine mT rfl ?_
 refine Fo.extr rfl rfl ?_
 refine Fo.extr rfl rfl ?_
 refine mI rfl ?_
 refine mI rfl ?_
 refine WpO.nil (hKF _ _ ?_)
 refine sq ?_
 refine rg fun KF hKF => ?_
 refine mI rfl ?_
 refine Fo.bin rfl rfl rfl (by simp only [↓nrmL, nrmZ, Nat.reduceEqDiff, ↓reduceIte, Nat.reduceAdd, Int.reduceBEq, Int.reduceBNe, hz.err, beq_self_eq_true, cond_true]; rfl) ?_
 refine mB rfl ?_
 refine Fo.yes rfl rfl ?_
 refine mI rfl ?_
 refine Fo.yes rfl rfl ?_
 refine Fo.bin rfl rfl rfl (by simp only [↓nrmL, nrmZ, Nat.reduceEqDiff, ↓reduceIte, Nat.reduceAdd, Int.reduceBEq, Int.reduceBNe, hz.err, beq_self_eq_true, cond_true]; rfl) ?_
 refine tB rfl rfl ?_
 refine mB rfl ?_
 refine Fo.yes rfl rfl ?_
 refine mI rfl ?_
 refine Fo.yes rfl rfl ?_
 refine Fo.bin rfl rfl rfl rfl ?_
 refine tB rfl rfl ?_
 refine mB rfl ?_
 refine WpO.nil (hKF _ _ ?_)
 refine Wp.ret ?_
 dsimp only [cond_true, cond_false]
 cases h0 : (((List.zipWith (fun a b => a &&& ~~~b) l m).count 1 : Nat) == 0)
 ·have h1 : ((((List.zipWith (fun a b => a &&& ~~~b) l m).count 1 : Nat) : Int) == 0) = false := by simp at h0 ⊢; omega
  try simp only [↓nrmL, nrmZ, Nat.reduceEqDiff, ↓reduceIte, Nat.reduceAdd, Int.reduceBEq, Int.reduceBNe, hz.err, beq_self_eq_true, cond_true, h1]
  refine ⟨trivial, _, (by first | rfl | exact getAllC rfl rfl rfl rfl | exact getAllT rfl (getAllC rfl rfl rfl rfl) | exact getAllC rfl rfl rfl (getAllC rfl rfl rfl rfl) | exact getAllC1 rfl rfl rfl), ?_⟩
  exact ⟨rfl, Ext0.ext⟩
 ·have h1 : ((((List.zipWith (fun a b => a &&& ~~~b) l m).count 1 : Nat) : Int) == 0) = true := by simp at h0 ⊢; omega
  try simp only [↓nrmL, nrmZ, Nat.reduceEqDiff, ↓reduceIte, Nat.reduceAdd, Int.reduceBEq, Int.reduceBNe, hz.err, beq_self_eq_true, cond_true, h1]
  refine ⟨trivial, _, (by first | rfl | exact getAllC rfl rfl rfl rfl | exact getAllT rfl (getAllC rfl rfl rfl rfl) | exact getAllC rfl rfl rfl (getAllC rfl rfl rfl rfl) | exact getAllC1 rfl rfl rfl), ?_⟩
  exact ⟨rfl, Ext0.ext⟩

end Go.Am

/- Despeckle leaves whole components alone. -/
set_option maxHeartbeats 4000000
namespace Go.Am
open Go
section
variable {l : List UInt8} {a b : Nat} {N : List Nat} {f : Nat → Bool}
/-- Numbers that tell the first pixel of each component. -/
theorem lead_list (l : List UInt8) (a b : Nat) (e : Bool) : ∃ N : List Nat, ∀ i, i < a * b → l.getD i 0 = 1 → Lead l a b e i (N.getD i 0) := by
  classical
  refine ⟨(List.range (a * b)).map (fun i => if h : ∃ m, Lead l a b e i m then h.choose else 0), fun i hi h1 => ?_⟩
  have h := lead_exists (e := e) hi h1
  rw [List.getD_eq_getElem?_getD, List.getElem?_map, List.getElem?_range hi]
  show Lead l a b e i (if h : ∃ m, Lead l a b e i m then h.choose else 0)
  rw [dif_pos h]
  exact h.choose_spec
theorem reach_sub {x : List UInt8} {e : Bool} (h : ∀ j, x.getD j 0 = 1 → l.getD j 0 = 1) {i j : Nat} (g : Reach x a b e i j) : Reach l a b e i j := by
  induction g with
  | refl h1 h2 => exact .refl h1 (h _ h2)
  | step _ h2 h3 ih => exact ih.step h2 (h _ h3)
theorem inkIn_of {x : List UInt8} (hx : pxOk x = true) (hl : pxOk l = true) (h : ∀ j, x.getD j 0 = 1 → l.getD j 0 = 1) : inkIn x l = true := by
  unfold inkIn
  rw [beq_iff_eq, List.count_eq_zero]
  intro hm
  obtain ⟨j, hj, e⟩ := List.getElem_of_mem hm
  rw [List.length_zipWith] at hj
  rw [List.getElem_zipWith] at e
  have h1 : j < x.length := by omega
  have h2 : j < l.length := by omega
  have e1 : x.getD j 0 = x[j] := by rw [List.getD_eq_getElem?_getD, List.getElem?_eq_getElem h1]; rfl
  have e2 : l.getD j 0 = l[j] := by rw [List.getD_eq_getElem?_getD, List.getElem?_eq_getElem h2]; rfl
  have hxj := List.all_eq_true.1 hx x[j] (List.getElem_mem _)
  have hlj := List.all_eq_true.1 hl l[j] (List.getElem_mem _)
  have h3 := h j
  rw [e1, e2] at h3
  simp only [Bool.or_eq_true, beq_iff_eq] at hxj hlj
  rcases hxj with q | q
  · rw [q] at e
    rcases hlj with q2 | q2 <;> rw [q2] at e <;> revert e <;> decide
  · rw [q, h3 q] at e; revert e; decide
end
end Go.Am

/- Thinning keeps the number of components. -/
set_option maxHeartbeats 4000000
namespace Go.Am
open Go
/-- Places of the ring that are beside each other. -/
def adjC (t s : Nat) : Bool := s == (t + 1) % 8 || t == (s + 1) % 8 || (t % 2 == 0 && s % 2 == 0 && (s == (t + 2) % 8 || t == (s + 2) % 8))
def ringS (f : Nat → Bool) (t : Nat) : Nat → List Nat
  | 0 => [t]
  | n + 1 => (List.range 8).filter fun s => (ringS f t n).contains s || (f s && (ringS f t n).any fun w => adjC w s)
def ringAll (f : Nat → Bool) : Bool := (List.range 8).all fun t => !f t || (let S := ringS f t 5; (List.range 8).all fun s => !f s || S.contains s)
def of8' (b0 b1 b2 b3 b4 b5 b6 b7 : Bool) (k : Nat) : Bool := match k with | 0 => b0 | 1 => b1 | 2 => b2 | 3 => b3 | 4 => b4 | 5 => b5 | 6 => b6 | _ => b7
theorem ring_all8 : ∀ b0 b1 b2 b3 b4 b5 b6 b7 : Bool, goesB (of8' b0 b1 b2 b3 b4 b5 b6 b7) = true → ringAll (of8' b0 b1 b2 b3 b4 b5 b6 b7) = true := by decide +kernel
theorem adj_dir : ∀ t < 8, ∀ s < 8, adjC t s = true → ∃ r < 8, dxN r = dxN s - dxN t ∧ dyN r = dyN s - dyN t := by decide +kernel
theorem ringS_congr {f g : Nat → Bool} (h : ∀ t < 8, f t = g t) (t n : Nat) : ringS f t n = ringS g t n := by
  induction n with
  | zero => rfl
  | succ n ih =>
    show (List.range 8).filter _ = (List.range 8).filter _
    rw [ih]
    apply List.filter_congr
    intro s hs
    rw [h s (List.mem_range.1 hs)]
theorem ring_conn {f : Nat → Bool} (hg : goesB f = true) {t s : Nat} (ht : t < 8) (hs : s < 8) (h1 : f t = true) (h2 : f s = true) : s ∈ ringS f t 5 := by
  have hfg : ∀ t < 8, f t = of8' (f 0) (f 1) (f 2) (f 3) (f 4) (f 5) (f 6) (f 7) t := fun t ht => by
    rcases t with _ | _ | _ | _ | _ | _ | _ | _ | t
    all_goals first | rfl | omega
  rw [goes_congr hfg] at hg
  have h3 := ring_all8 _ _ _ _ _ _ _ _ hg
  rw [ringS_congr hfg]
  rw [hfg t ht] at h1
  rw [hfg s hs] at h2
  generalize of8' (f 0) (f 1) (f 2) (f 3) (f 4) (f 5) (f 6) (f 7) = g at *
  unfold ringAll at h3
  have h4 := List.all_eq_true.1 h3 t (List.mem_range.2 ht)
  rw [h1, Bool.not_true, Bool.false_or] at h4
  have h5 := List.all_eq_true.1 h4 s (List.mem_range.2 hs)
  rw [h2, Bool.not_true, Bool.false_or] at h5
  exact List.contains_iff_mem.1 h5
theorem ring_mem {f : Nat → Bool} {t : Nat} (ht : t < 8) (h1 : f t = true) : ∀ n s, s ∈ ringS f t n → s < 8 ∧ f s = true := by
  intro n
  induction n with
  | zero =>
    intro s hm
    have : s = t := by simpa [ringS] using hm
    subst this
    exact ⟨ht, h1⟩
  | succ n ih =>
    intro s hm
    have h3 := List.mem_filter.1 hm
    have h4 := h3.2
    rw [Bool.or_eq_true, Bool.and_eq_true] at h4
    rcases h4 with h4 | ⟨h4, _⟩
    · exact ih s (List.contains_iff_mem.1 h4)
    · exact ⟨List.mem_range.1 h3.1, h4⟩
section
variable {l : List UInt8} {a b k : Nat}
theorem isNb_ne {t u : Nat} (ht : t < 8) (h : isNb a b k t u) : u ≠ k := by
  obtain ⟨x, y, hx, hy, e1, e2, rfl⟩ := h
  intro e
  obtain ⟨d1, d2⟩ := at_div (v := y) hx
  rw [e] at d1 d2
  have h0 : ∀ t < 8, ¬ (dxN t = 0 ∧ dyN t = 0) := by decide
  exact h0 t ht ⟨by omega, by omega⟩
theorem isNb_uniq {t u v : Nat} (h : isNb a b k t u) (g : isNb a b k t v) : u = v := by
  obtain ⟨x, y, _, _, e1, e2, rfl⟩ := h
  obtain ⟨x', y', _, _, e1', e2', rfl⟩ := g
  rw [show x = x' by omega, show y = y' by omega]
theorem ring_at {t : Nat} : ringF a b l ((k % a : Nat) : Int) ((k / a : Nat) : Int) t = true ↔ ∃ u, isNb a b k t u ∧ l.getD u 0 = 1 := by
  unfold ringF
  constructor
  · intro h
    obtain ⟨u, v, h1, h2, h3, h4, h5⟩ := inkB_true h
    exact ⟨v * a + u, ⟨u, v, h3, h4, h1.symm, h2.symm, rfl⟩, h5⟩
  · rintro ⟨_, ⟨u, v, h3, h4, h1, h2, rfl⟩, h5⟩
    rw [← h1, ← h2, inkB_mk h3 h4, h5]; rfl
theorem nb_ring {t s u v : Nat} (ht : t < 8) (hs : s < 8) (h : adjC t s = true) (hu : isNb a b k t u) (hv : isNb a b k s v) : Nb a b true u v := by
  obtain ⟨r, hr, r1, r2⟩ := adj_dir t ht s hs h
  obtain ⟨x, y, hx, hy, e1, e2, rfl⟩ := hu
  obtain ⟨x', y', hx', hy', e1', e2', rfl⟩ := hv
  obtain ⟨d1, d2⟩ := at_div (v := y) hx
  exact ⟨r, hr, Or.inl rfl, x', y', hx', hy', by rw [d1, r1]; omega, by rw [d2, r2]; omega, rfl⟩
theorem set_ink {j : Nat} (h : j ≠ k) : (l.set k 0).getD j 0 = l.getD j 0 := by
  rw [List.getD_eq_getElem?_getD, List.getElem?_set_ne (fun e => h e.symm), ← List.getD_eq_getElem?_getD]
theorem ring_reach {t u : Nat} (ht : t < 8) (hu : isNb a b k t u) (h1 : l.getD u 0 = 1) : ∀ n s v, s < 8 → s ∈ ringS (ringF a b l ((k % a : Nat) : Int) ((k / a : Nat) : Int)) t n → isNb a b k s v → l.getD v 0 = 1 → Reach (l.set k 0) a b true u v := by
  intro n
  induction n with
  | zero =>
    intro s v hs hm hv h2
    have : s = t := by simpa [ringS] using hm
    subst this
    rw [isNb_uniq hv hu]
    exact .refl (isNb_lt hu) (by rw [set_ink (isNb_ne ht hu)]; exact h1)
  | succ n ih =>
    intro s v hs hm hv h2
    have hm' := (List.mem_filter.1 hm).2
    rw [Bool.or_eq_true, Bool.and_eq_true, List.any_eq_true] at hm'
    rcases hm' with hm' | ⟨_, w, hw, hadj⟩
    · exact ih s v hs (List.contains_iff_mem.1 hm') hv h2
    · have hw8 := ring_mem ht (ring_at.2 ⟨u, hu, h1⟩) n w hw
      obtain ⟨v', hv', h3⟩ := ring_at.1 hw8.2
      exact (ih w v' hw8.1 hw hv' h3).step (nb_ring hw8.1 hs hadj hv' hv) (by rw [set_ink (isNb_ne hs hv)]; exact h2)
theorem thin_path (hk : k < a * b) (hg : goesAt a b l k = true) {i j : Nat} (hi : i ≠ k) (h : Reach l a b true i j) : (j ≠ k → Reach (l.set k 0) a b true i j) ∧ (j = k → ∀ t < 8, ∀ v, isNb a b k t v → l.getD v 0 = 1 → Reach (l.set k 0) a b true i v) := by
  induction h with
  | refl h1 h2 => exact ⟨fun _ => .refl h1 (by rw [set_ink hi]; exact h2), fun e => absurd e hi⟩
  | @step j m h1 h2 h3 ih =>
    have hjl := h1.end_ok
    by_cases hj : j = k
    · subst hj
      obtain ⟨t, ht, _, hn⟩ := h2
      have h4 := ih.2 rfl t ht m hn h3
      refine ⟨fun _ => h4, fun e => absurd e (isNb_ne ht hn)⟩
    · have h4 := ih.1 hj
      refine ⟨fun hm => h4.step h2 (by rw [set_ink hm]; exact h3), fun e s hs v hv hv1 => ?_⟩
      subst e
      obtain ⟨t, ht, _, hn⟩ := h2
      have hn2 := isNb_symm hjl.1 ht hn
      have ht2 : (t + 4) % 8 < 8 := Nat.mod_lt _ (by decide)
      have hf1 := ring_at.2 ⟨j, hn2, hjl.2⟩
      have hf2 := ring_at.2 ⟨v, hv, hv1⟩
      exact h4.trans (ring_reach ht2 hn2 hjl.2 5 s v hs (ring_conn hg ht2 hs hf1 hf2) hv hv1)
/-- A pixel that goes has a neighbour. -/
theorem goes_nb (hg : goesAt a b l k = true) : ∃ t < 8, ∃ v, isNb a b k t v ∧ l.getD v 0 = 1 := by
  unfold goesAt goesB at hg
  rw [Bool.and_eq_true, decide_eq_true_eq] at hg
  have h1 := hg.2
  by_cases h : ∃ t < 8, ringF a b l ((k % a : Nat) : Int) ((k / a : Nat) : Int) t = true
  · obtain ⟨t, ht, h2⟩ := h
    exact ⟨t, ht, ring_at.1 h2⟩
  · have h3 : ∀ t < 8, bN (ringF a b l ((k % a : Nat) : Int) ((k / a : Nat) : Int) t) = 0 := fun t ht => by
      cases hf : ringF a b l ((k % a : Nat) : Int) ((k / a : Nat) : Int) t
      · rfl
      · exact absurd ⟨t, ht, hf⟩ h
    unfold nbN at h1
    rw [h3 0 (by decide), h3 1 (by decide), h3 2 (by decide), h3 3 (by decide), h3 4 (by decide), h3 5 (by decide), h3 6 (by decide), h3 7 (by decide)] at h1
    exact absurd h1 (by decide)
end
theorem len_le : ∀ {L M : List Nat} (g : Nat → Nat), L.Pairwise (· ≠ ·) → (∀ x ∈ L, g x ∈ M) → (∀ x ∈ L, ∀ y ∈ L, g x = g y → x = y) → L.length ≤ M.length
  | [], _, _, _, _, _ => Nat.zero_le _
  | x :: L, M, g, hp, hm, hi => by
    obtain ⟨p1, p2⟩ := List.pairwise_cons.1 hp
    have h1 := hm x List.mem_cons_self
    have h2 := len_le (L := L) (M := M.erase (g x)) g p2 (fun y hy => by
      refine (List.mem_erase_of_ne fun e => ?_).2 (hm y (List.mem_cons_of_mem _ hy))
      exact p1 y hy (hi x List.mem_cons_self y (List.mem_cons_of_mem _ hy) e.symm)) (fun y hy z hz => hi y (List.mem_cons_of_mem _ hy) z (List.mem_cons_of_mem _ hz))
    rw [List.length_erase_of_mem h1] at h2
    have h3 := List.length_pos_of_mem h1
    rw [List.length_cons]; omega
section
variable {l : List UInt8} {a b k : Nat} {N N' : List Nat}
theorem fls_ne (l : List UInt8) (N : List Nat) (i : Nat) : (fls l N i).Pairwise (· ≠ ·) := (fls_inc l N i).imp fun h => Nat.ne_of_lt h
theorem fls_mem {m : Nat} : m ∈ fls l N (a * b) ↔ m < a * b ∧ l.getD m 0 = 1 ∧ N.getD m 0 = m := by
  unfold fls
  rw [List.mem_filter, List.mem_range, Bool.and_eq_true, beq_iff_eq, beq_iff_eq]
theorem lead_mem {e : Bool} (hld : ∀ i, i < a * b → l.getD i 0 = 1 → Lead l a b e i (N.getD i 0)) {i : Nat} (hi : i < a * b) (h1 : l.getD i 0 = 1) : N.getD i 0 ∈ fls l N (a * b) := by
  have h2 := hld i hi h1
  have h3 := h2.1.end_ok
  exact fls_mem.2 ⟨h3.1, h3.2, ((h2.same h2.1).unique (hld _ h3.1 h3.2)).symm⟩
theorem lead_eq {e : Bool} (hld : ∀ i, i < a * b → l.getD i 0 = 1 → Lead l a b e i (N.getD i 0)) {i j : Nat} (h : Reach l a b e i j) : N.getD i 0 = N.getD j 0 :=
  ((hld i h.start_ok.1 h.start_ok.2).same h).unique (hld j h.end_ok.1 h.end_ok.2)
theorem eq_lead {e : Bool} (hld : ∀ i, i < a * b → l.getD i 0 = 1 → Lead l a b e i (N.getD i 0)) {i j : Nat} (hi : i < a * b) (h1 : l.getD i 0 = 1) (hj : j < a * b) (h2 : l.getD j 0 = 1) (h : N.getD i 0 = N.getD j 0) : Reach l a b e i j := by
  have h3 := (hld j hj h2).1.symm
  rw [← h] at h3
  exact (hld i hi h1).1.trans h3
theorem fls_len {e : Bool} (hld : ∀ i, i < a * b → l.getD i 0 = 1 → Lead l a b e i (N.getD i 0)) (hld' : ∀ i, i < a * b → l.getD i 0 = 1 → Lead l a b e i (N'.getD i 0)) : (fls l N (a * b)).length = (fls l N' (a * b)).length := by
  unfold fls
  congr 1
  apply List.filter_congr
  intro m hm
  have hm := List.mem_range.1 hm
  by_cases h1 : l.getD m 0 = 1
  · rw [(hld m hm h1).unique (hld' m hm h1)]
  · have : (l.getD m 0 == 1) = false := beq_eq_false_iff_ne.2 h1
    rw [this]; rfl
theorem goes_len (hk : k < a * b) (h1 : l.getD k 0 = 1) (hg : goesAt a b l k = true) (hld : ∀ i, i < a * b → l.getD i 0 = 1 → Lead l a b true i (N.getD i 0)) (hld' : ∀ i, i < a * b → (l.set k 0).getD i 0 = 1 → Lead (l.set k 0) a b true i (N'.getD i 0)) : (fls l N (a * b)).length = (fls (l.set k 0) N' (a * b)).length := by
  have hsub : ∀ j, (l.set k 0).getD j 0 = 1 → l.getD j 0 = 1 := fun j hj => (set_ne hj (by decide)).2
  have hne : ∀ j, (l.set k 0).getD j 0 = 1 → j ≠ k := fun j hj => (set_ne hj (by decide)).1
  obtain ⟨t, ht, u, hu, hu1⟩ := goes_nb hg
  have huk := isNb_ne ht hu
  have hu' : (l.set k 0).getD u 0 = 1 := by rw [set_ink huk]; exact hu1
  have hku : Reach l a b true k u := (Reach.refl hk h1).step ⟨t, ht, Or.inl rfl, hu⟩ hu1
  refine Nat.le_antisymm ?_ ?_
  · refine len_le (fun m => if m = k then N'.getD u 0 else N'.getD m 0) (fls_ne _ _ _) (fun m hm => ?_) (fun m hm m' hm' e => ?_)
    · obtain ⟨q1, q2, q3⟩ := fls_mem.1 hm
      split
      · exact lead_mem hld' (isNb_lt hu) hu'
      · rename_i h
        exact lead_mem hld' q1 (by rw [set_ink h]; exact q2)
    · obtain ⟨q1, q2, q3⟩ := fls_mem.1 hm
      obtain ⟨r1, r2, r3⟩ := fls_mem.1 hm'
      have key : Reach l a b true m m' := by
        by_cases c1 : m = k
        · rw [if_pos c1] at e
          by_cases c2 : m' = k
          · rw [c1, c2]; exact .refl hk h1
          · rw [if_neg c2] at e
            rw [c1]
            exact hku.trans (reach_sub hsub (eq_lead hld' (isNb_lt hu) hu' r1 (by rw [set_ink c2]; exact r2) e))
        · rw [if_neg c1] at e
          by_cases c2 : m' = k
          · rw [if_pos c2] at e
            rw [c2]
            exact (reach_sub hsub (eq_lead hld' q1 (by rw [set_ink c1]; exact q2) (isNb_lt hu) hu' e)).trans hku.symm
          · rw [if_neg c2] at e
            exact reach_sub hsub (eq_lead hld' q1 (by rw [set_ink c1]; exact q2) r1 (by rw [set_ink c2]; exact r2) e)
      have := lead_eq hld key
      rw [q3, r3] at this; exact this
  · refine len_le (fun m => N.getD m 0) (fls_ne _ _ _) (fun m hm => ?_) (fun m hm m' hm' e => ?_)
    · obtain ⟨q1, q2, q3⟩ := fls_mem.1 hm
      exact lead_mem hld q1 (hsub _ q2)
    · obtain ⟨q1, q2, q3⟩ := fls_mem.1 hm
      obtain ⟨r1, r2, r3⟩ := fls_mem.1 hm'
      have key := (thin_path hk hg (hne _ q2) (eq_lead hld q1 (hsub _ q2) r1 (hsub _ r2) e)).1 (hne _ r2)
      have := lead_eq hld' key
      rw [q3, r3] at this; exact this
end
/-- As many components, whatever their numbers. -/
def Kept (a b : Nat) (l m : List UInt8) : Prop := ∀ N N' : List Nat, (∀ i, i < a * b → l.getD i 0 = 1 → Lead l a b true i (N.getD i 0)) → (∀ i, i < a * b → m.getD i 0 = 1 → Lead m a b true i (N'.getD i 0)) → (fls l N (a * b)).length = (fls m N' (a * b)).length
theorem Kept.refl (a b : Nat) (l : List UInt8) : Kept a b l l := fun _ _ h h' => fls_len h h'
theorem Kept.trans {a b : Nat} {l m r : List UInt8} (h : Kept a b l m) (g : Kept a b m r) : Kept a b l r := fun N N' h1 h2 => by
  obtain ⟨N2, h3⟩ := lead_list m a b true
  rw [h N N2 h1 h3, g N2 N' h3 h2]
theorem kept_step {a b k : Nat} (l : List UInt8) (hk : k < a * b) : Kept a b l (stepT a b l k) := by
  unfold stepT
  split
  · rename_i h
    exact fun N N' h1 h2 => goes_len hk h.1 h.2 h1 h2
  · exact Kept.refl _ _ _
theorem kept_pass {a b : Nat} (l : List UInt8) : ∀ k, k ≤ a * b → Kept a b l (passT a b l k)
  | 0, _ => Kept.refl _ _ _
  | k + 1, h => (kept_pass l k (by omega)).trans (kept_step _ (by omega))
theorem kept_thin {a b : Nat} (l : List UInt8) : ∀ m, Kept a b l (thinN a b l m)
  | 0 => Kept.refl _ _ _
  | m + 1 => (kept_thin l m).trans (kept_pass _ _ (Nat.le_refl _))
/-- Thinning takes ink away only. -/
theorem ink_step {a b k j : Nat} {l : List UInt8} (h : (stepT a b l k).getD j 0 = 1) : l.getD j 0 = 1 := by
  unfold stepT at h
  split at h
  · exact (set_ne h (by decide)).2
  · exact h
theorem ink_pass {a b j : Nat} {l : List UInt8} : ∀ k, (passT a b l k).getD j 0 = 1 → l.getD j 0 = 1
  | 0, h => h
  | k + 1, h => ink_pass k (ink_step h)
theorem ink_thin {a b j : Nat} {l : List UInt8} : ∀ m, (thinN a b l m).getD j 0 = 1 → l.getD j 0 = 1
  | 0, h => h
  | m + 1, h => ink_thin m (ink_pass _ h)
theorem thin_self {a b : Nat} {r : List UInt8} (h : passT a b r (a * b) = r) : ∀ m, thinN a b r m = r
  | 0 => rfl
  | m + 1 => by
    show passT a b (thinN a b r m) (a * b) = r
    rw [thin_self h m]; exact h
end Go.Am

set_option maxHeartbeats 8000000
set_option maxRecDepth 100000
set_option synthInstance.maxHeartbeats 4000000
set_option synthInstance.maxSize 100000
namespace Go.Am
open Go
attribute [local irreducible] Wp WpO WpX WpE

theorem exec_ringA {call : ACall} {fr : AFrame} {H : AHeap} {x : ROpd} {t : Nat} (hx : x.ev fr = .int .i64 (t : Int)) (ht : t < 8) : (ROp.idxA 8 2 (.val (.ptr 0 0)) x).exec call fr H = some (.ptr 0 (2 * t), H) := by
 have h : (0 : Int) ≤ (t : Int) ∧ (t : Int) < ((8 : Nat) : Int) := by omega
 have e : aIdxA 8 2 (.ptr 0 0) (.int .i64 (t : Int)) = some (.ptr 0 (2 * t)) := by
  show (if 0 ≤ (t : Int) ∧ (t : Int) < ((8 : Nat) : Int) then some (AVal.ptr 0 (0 + (t : Int).toNat * 2)) else none) = _
  rw [if_pos h, Int.toNat_natCast, Nat.zero_add, Nat.mul_comm]
 show M.ofOption (aIdxA 8 2 (.ptr 0 0) (x.ev fr)) H = _
 rw [hx, e]; rfl
theorem around_x : ∀ t < 8, aroundCs[2 * t + 0]? = some (.int .i64 (dxN t))
 | 0, _ | 1, _ | 2, _ | 3, _ | 4, _ | 5, _ | 6, _ | 7, _ => rfl
theorem around_y : ∀ t < 8, aroundCs[2 * t + 1]? = some (.int .i64 (dyN t))
 | 0, _ | 1, _ | 2, _ | 3, _ | 4, _ | 5, _ | 6, _ | 7, _ => rfl

theorem K_flood {a b s0 n0 : Nat} {e : Bool} {p mk : AVal} {H : AHeap} {l : List UInt8} {M0 : List Nat} [hp : BytesI H p l] [hm : IntsI H mk (cN M0)] [hw : WrS H mk] [hsep : SepS p mk] [hs : Fits a b l] [ht : Tabs H] (hz : RowNe mk 0) (hM : M0.length = a * b) (ha : a ≤ 640) (hb : b ≤ 640) (hsl : s0 < a * b) (h1 : l.getD s0 0 = 1) (h0 : M0.getD s0 0 = 0) (hwh : Whole l a b e (fun i => M0.getD i 0) n0) (hn0 : 0 < n0) : Con ext prog 2 160 [.agg [.int .i64 a, .int .i64 b, p], .bool e, mk, .int .i64 s0, .int .i64 n0] H fun _ H' => ∃ M : List Nat, IntsI H' mk (cN M) ∧ WrS H' mk ∧ ExtP H H' mk ∧ M.length = a * b ∧ ∀ i, (Reach l a b e s0 i → M.getD i 0 = n0) ∧ (¬ Reach l a b e s0 i → M.getD i 0 = M0.getD i 0) := by
 refine con_of (show prog 160 = some c160 from rfl) rfl rfl fun n hn => ?_
 haveI := hp.one
 haveI := hm.one
 have hab : a * b ≤ 640 * 640 := Nat.mul_le_mul ha hb
 obtain ⟨a, rfl⟩ : ∃ a', a = a' + 1 := ⟨a - 1, by have := (div_lt hsl).1; omega⟩
 have hsl' : s0 < (cN M0).length := by rw [cN_length]; omega
 refine sq ?_
 refine rg fun KF hKF => ?_
 refine Fo.boxA rfl ?_
 refine WpO.nil (hKF _ _ ?_)
 refine sq ?_
 refine rg fun KF hKF => ?_
 refine mI rfl ?_
 refine WpO.nil (hKF _ _ ?_)
 refine sq ?_
 refine sq ?_
 refine rg fun KF hKF => ?_
 refine mB rfl ?_
 refine WpO.nil (hKF _ _ ?_)
 dsimp only [cond_true, cond_false]
 refine Wp.set2 (y := 2) (x := 1) rfl rfl ?_
 have hst : (bif e then (1 : Int) else 2) = ((stp e : Nat) : Int) := by cases e <;> rfl
 have hst1 : 1 ≤ stp e ∧ stp e ≤ 2 := by cases e <;> decide
 simp only [hst]
 refine sq ?_
 refine rg fun KF hKF => ?_
 refine Fo.mov (by simp only [↓nrmL, nrmK, Nat.reduceEqDiff, ↓reduceIte]; rfl) ?_
 refine mI rfl ?_
 refine mI rfl ?_
 refine Fo.idx (by simp only [↓nrmL, nrmK, Nat.reduceEqDiff, ↓reduceIte]; rfl) rfl ?_ (by simp only [↓nrmL, nrmZ, Nat.reduceEqDiff, ↓reduceIte, Nat.reduceAdd, Int.reduceBEq, Int.reduceBNe]; rfl) ?_; (focus omega)
 refine WpO.do' (WpX.stI (p := mk) (j := s0) (l := cN M0) rfl rfl hsl' fun H1 hb1 hw1 hx1 => ?_)
 rw [cN_set] at hb1
 haveI := hx1
 refine WpO.nil (hKF _ _ ?_)
 refine sq ?_
 refine rg fun KF hKF => ?_
 refine mI rfl ?_
 refine Fo.bslice rfl (by simp only [↓nrmL, nrmZ, Nat.reduceEqDiff, ↓reduceIte, Nat.reduceAdd, Int.reduceBEq, Int.reduceBNe]; rfl) ?_
 refine Fo.mov (by simp only [↓nrmL, nrmK, Nat.reduceEqDiff, ↓reduceIte]; rfl) ?_
 refine WpO.nil (hKF _ _ ?_)
 refine Wp.block ?_
 dsimp only [cond_true, cond_false]
 have hfl := Flood.begin (e := e) hsl h1 h0 hwh
 have hsM : s0 < M0.length := by omega
 rw [← getD_setN hsM] at hfl
 have hc0 := count_setN hsM h0 hn0
 have hcl := List.count_le_length (a := 0) (l := M0)
 have hfh0 : FHp (H.push (.row [.int .i64 ((a + 1 : Nat) : Int), .int .i64 b, p] true (2 * 24))) mk [.int .i64 ((a + 1 : Nat) : Int), .int .i64 b, p] H.n (.slice H1.n 0 1 (some 1) 1) [s0] (M0.set s0 n0) (H1.push (.row [.int .i64 (s0 : Int)] true (2 * 3))) := ⟨inferInstance, inferInstance, ⟨H1.n, some 1, _, 2 * 3, rfl, Nat.lt_succ_self _, push_get_eq, rfl, Nat.le_refl _, rfl, Or.inr ⟨1, rfl, Nat.one_pos, Nat.le_refl _, Nat.le_refl _⟩⟩, ⟨fun _ _ _ _ _ q => by cases q; exact hx1.n⟩, inferInstance, ExtP0.ext⟩
 refine Wp.loopS [11, 12, 13, 14, 15, 23, 24, 25, 26, 27, 28, 29, 30, 31, 32, 33, 34, 35, 36, 37, 38, 39, 40, 41, 42, 43, 44, 45, 46, 47, 48, 49, 50, 51, 52, 53, 54, 55, 56, 57, 58, 59, 60, 61, 62, 63, 64, 65, 66, 67, 68, 69, 70, 71, 72, 73, 74, 75, 76, 77, 78, 79, 80, 81, 82, 83, 84, 85, 86, 87, 88, 89, 90, 91, 92, 93] (fun s : AVal × List Nat × List Nat => [(11, s.1)]) (fun _ s H2 => FHp (H.push (.row [.int .i64 ((a + 1 : Nat) : Int), .int .i64 b, p] true (2 * 24))) mk [.int .i64 ((a + 1 : Nat) : Int), .int .i64 b, p] H.n s.1 s.2.1 s.2.2 H2 ∧ Flood l (a + 1) b e (fun i => M0.getD i 0) s0 n0 (fun i => s.2.2.getD i 0) s.2.1 none ∧ s.2.1.length + s.2.2.count 0 ≤ (a + 1) * b ∧ s.2.2.length = (a + 1) * b) (fun s => s.2.1.length + 2 * s.2.2.count 0) (.slice H1.n 0 1 (some 1) 1, [s0], M0.set s0 n0) rfl (fun _ => rfl) ⟨rfl, trivial⟩ ⟨hfh0, hfl, by dsimp only [List.length_singleton]; omega, by dsimp only; rw [List.length_set]; exact hM⟩ (by
  unfold fuel0 at hn
  dsimp only [List.length_singleton]
  omega) ?_
 rintro ⟨wt, W, M⟩ g H2 ⟨hfh, hfl2, hbd, hML⟩
 dsimp only at hfh hfl2 hbd hML
 clear hfl hfh0 hx1 hb1 hw1
 obtain ⟨bm, wm, st, fs, g5, hx2⟩ := hfh
 haveI := hx2
 simp only [↓nrmL, nrmZ, Nat.reduceEqDiff, ↓reduceIte, Nat.reduceAdd, Int.reduceBEq, Int.reduceBNe]
 rcases snoc_cases W with rfl | ⟨W', w, rfl⟩
 ·haveI : IntsI H2 wt [] := st.ints
  have hc : decide (((([] : List Int).length : Nat) : Int) > 0) = false := rfl
  try simp only [↓nrmL, nrmZ, Nat.reduceEqDiff, ↓reduceIte, Nat.reduceAdd, Int.reduceBEq, Int.reduceBNe, hc]
  refine sq ?_
  refine sq ?_
  refine rg fun KF hKF => ?_
  refine Fo.mov (by simp only [↓nrmL, nrmK, Nat.reduceEqDiff, ↓reduceIte]; rfl) ?_
  refine Fo.len (v := ?_) (by simp only [↓nrmL, nrmK, Nat.reduceEqDiff, ↓reduceIte]; rfl) ?hv ?_; case hv => rfl
  refine Fo.bin rfl rfl rfl (by simp only [↓nrmL, nrmZ, Nat.reduceEqDiff, ↓reduceIte, Nat.reduceAdd, Int.reduceBEq, Int.reduceBNe, hc]; rfl) ?_
  refine WpO.nil (hKF _ _ ?_)
  refine Wp.cond (b := false) rfl ?_
  refine Wp.exit ?_
  dsimp only [cond_true, cond_false]
  refine ⟨trivial, _, (by first | rfl | exact getAllC rfl rfl rfl rfl | exact getAllT rfl (getAllC rfl rfl rfl rfl) | exact getAllC rfl rfl rfl (getAllC rfl rfl rfl rfl) | exact getAllC1 rfl rfl rfl), ?_⟩
  exact ⟨M, inferInstance, wm, ⟨Nat.le_trans (Nat.le_succ _) hx2.n, fun r hr hne => by rw [hx2.get r (Nat.lt_succ_of_lt hr) hne]; exact push_get_lt hr⟩, hML, hfl2.end hwh hsl h1 h0⟩
 ·haveI := st.ints
  have hlW : (cN (W' ++ [w])).length = W'.length + 1 := by rw [cN_length, List.length_append]; rfl
  have hc : decide ((((cN (W' ++ [w])).length : Nat) : Int) > 0) = true := decide_eq_true (by rw [hlW]; omega)
  rw [List.length_append, List.length_singleton] at hbd
  have hwr : IntKind.i64.wrap ((((cN (W' ++ [w])).length : Nat) : Int) - 1) = (W'.length : Int) := by rw [hlW, w64 (by omega)]; omega
  have hge : (cN (W' ++ [w]))[W'.length]'(by rw [hlW]; exact Nat.lt_succ_self _) = (w : Int) := by
   rw [cN_get, List.getD_eq_getElem?_getD, List.getElem?_append_right (Nat.le_refl _), Nat.sub_self]; rfl
  have hwlt : W'.length < (cN (W' ++ [w])).length := by rw [hlW]; exact Nat.lt_succ_self _
  try simp only [↓nrmL, nrmZ, Nat.reduceEqDiff, ↓reduceIte, Nat.reduceAdd, Int.reduceBEq, Int.reduceBNe, hc, hwr, hge]
  refine sq ?_
  refine sq ?_
  refine rg fun KF hKF => ?_
  refine Fo.mov (by simp only [↓nrmL, nrmK, Nat.reduceEqDiff, ↓reduceIte]; rfl) ?_
  refine Fo.len (v := ?_) (by simp only [↓nrmL, nrmK, Nat.reduceEqDiff, ↓reduceIte]; rfl) ?hv ?_; case hv => rfl
  refine Fo.bin rfl rfl rfl (by simp only [↓nrmL, nrmZ, Nat.reduceEqDiff, ↓reduceIte, Nat.reduceAdd, Int.reduceBEq, Int.reduceBNe, hc, hwr, hge]; rfl) ?_
  refine WpO.nil (hKF _ _ ?_)
  refine Wp.cond (b := true) rfl ?_
  refine Wp.skip ?_
  refine Wp.block ?_
  refine sq ?_
  refine rg fun KF hKF => ?_
  refine Fo.mov (by simp only [↓nrmL, nrmK, Nat.reduceEqDiff, ↓reduceIte]; rfl) ?_
  refine Fo.mov (by simp only [↓nrmL, nrmK, Nat.reduceEqDiff, ↓reduceIte]; rfl) ?_
  refine Fo.len (v := ?_) (by simp only [↓nrmL, nrmK, Nat.reduceEqDiff, ↓reduceIte]; rfl) ?hv ?_; case hv => rfl
  refine Fo.bin rfl rfl rfl (by simp only [↓nrmL, nrmZ, Nat.reduceEqDiff, ↓reduceIte, Nat.reduceAdd, Int.reduceBEq, Int.reduceBNe, hc, hwr, hge]; rfl) ?_
  refine Fo.idx (by simp only [↓nrmL, nrmK, Nat.reduceEqDiff, ↓reduceIte]; rfl) rfl ?_ (by simp only [↓nrmL, nrmZ, Nat.reduceEqDiff, ↓reduceIte, Nat.reduceAdd, Int.reduceBEq, Int.reduceBNe, hc, hwr, hge]; rfl) ?_; (focus omega)
  refine Fo.ldI rfl ?_ (by simp only [↓nrmL, nrmZ, Nat.reduceEqDiff, ↓reduceIte, Nat.reduceAdd, Int.reduceBEq, Int.reduceBNe, hc, hwr, hge]; rfl) ?_; (focus omega)
  refine mI rfl ?_
  refine WpO.nil (hKF _ _ ?_)
  refine sq ?_
  refine rg fun KF hKF => ?_
  refine Fo.mov (by simp only [↓nrmL, nrmK, Nat.reduceEqDiff, ↓reduceIte]; rfl) ?_
  refine Fo.mov (by simp only [↓nrmL, nrmK, Nat.reduceEqDiff, ↓reduceIte]; rfl) ?_
  refine Fo.len (v := ?_) (by simp only [↓nrmL, nrmK, Nat.reduceEqDiff, ↓reduceIte]; rfl) ?hv ?_; case hv => rfl
  refine Fo.bin rfl rfl rfl (by simp only [↓nrmL, nrmZ, Nat.reduceEqDiff, ↓reduceIte, Nat.reduceAdd, Int.reduceBEq, Int.reduceBNe, hc, hwr, hge]; rfl) ?_
  refine WpO.do (WpX.cut (p := wt) (l := W') (k := w) rfl rfl st fun wt1 st1 hsub => ?_)
  have fs1 : FreshS (H.push (.row [.int .i64 ((a + 1 : Nat) : Int), .int .i64 b, p] true (2 * 24))) wt1 := ⟨fun r off len cap sz q => by obtain ⟨_, _, q'⟩ := hsub _ _ _ _ _ q; exact fs.ge _ _ _ _ _ q'⟩
  haveI := st1.ints.one
  refine Fo.mov (by simp only [↓nrmL, nrmK, Nat.reduceEqDiff, ↓reduceIte]; rfl) ?_
  refine WpO.nil (hKF _ _ ?_)
  refine sq ?_
  refine rg fun KF hKF => ?_
  refine mI rfl ?_
  refine WpO.nil (hKF _ _ ?_)
  refine Wp.block ?_
  dsimp only [cond_true, cond_false]
  obtain ⟨_, _, hrw, _⟩ := hfl2.pop.hand w 0 rfl
  have hwl := hrw.end_ok.1
  obtain ⟨_, hwm, hwd, _⟩ := div_lt hwl
  have t3 : ∀ y : Nat, y < b → IntKind.i64.wrap ((y : Nat) : Int) = ((y : Nat) : Int) := fun y hy => w64 (by omega)
  have t1 : ((w : Nat) : Int).tmod ((a + 1 : Nat) : Int) = ((w % (a + 1) : Nat) : Int) := rfl
  have t2 : IntKind.i64.wrap (((w : Nat) : Int).tdiv ((a + 1 : Nat) : Int)) = ((w / (a + 1) : Nat) : Int) := by
   rw [show ((w : Nat) : Int).tdiv ((a + 1 : Nat) : Int) = ((w / (a + 1) : Nat) : Int) from rfl]
   exact t3 _ hwd
  refine Wp.loopS [11, 13, 14, 15, 37, 38, 39, 40, 41, 42, 43, 44, 45, 46, 47, 48, 49, 50, 51, 52, 53, 54, 55, 56, 57, 58, 59, 60, 61, 62, 63, 64, 65, 66, 67, 68, 69, 70, 71, 72, 73, 74, 75, 76, 77, 78, 79, 80, 81, 82, 83, 84, 85, 86, 87, 88, 89, 90, 91, 92, 93] (fun s : AVal × List Nat × List Nat × Nat => [(11, s.1), (13, .int .i64 (s.2.2.2 : Int))]) (fun _ s H3 => FHp (H.push (.row [.int .i64 ((a + 1 : Nat) : Int), .int .i64 b, p] true (2 * 24))) mk [.int .i64 ((a + 1 : Nat) : Int), .int .i64 b, p] H.n s.1 s.2.1 s.2.2.1 H3 ∧ Flood l (a + 1) b e (fun i => M0.getD i 0) s0 n0 (fun i => s.2.2.1.getD i 0) s.2.1 (some (w, s.2.2.2)) ∧ (s.2.1.length + s.2.2.1.count 0 ≤ (a + 1) * b ∧ s.2.1.length + 2 * s.2.2.1.count 0 ≤ W'.length + 2 * M.count 0) ∧ s.2.2.1.length = (a + 1) * b ∧ s.2.2.2 ≤ 8 ∧ s.2.2.2 % stp e = 0) (fun s => 8 - s.2.2.2) (wt1, W', M, 0) rfl (fun _ => rfl) ⟨rfl, rfl, trivial⟩ ⟨⟨bm, wm, st1, fs1, g5, hx2⟩, hfl2.pop, ⟨by dsimp only; omega, Nat.le_refl _⟩, hML, Nat.zero_le _, Nat.zero_mod _⟩ (by unfold fuel0 at hn; dsimp only; omega) ?_
  rintro ⟨wt2, W2, M2, t⟩ gg H3 ⟨hfh3, hfl3, ⟨hbd3, hbe3⟩, hML3, ht8, hts⟩
  dsimp only at hfh3 hfl3 hbd3 hbe3 hML3 ht8 hts
  clear hfl2 hx2 bm wm st fs g5
  obtain ⟨bm, wmk, st, fs, g5, hx3⟩ := hfh3
  haveI := hx3
  haveI : IntsI H3 wt2 (cN W2) := st.ints
  haveI := st.ints.one
  obtain ⟨rwt, et, htab⟩ := tab_row ((inferInstance : Tabs (H.push (.row [.int .i64 ((a + 1 : Nat) : Int), .int .i64 b, p] true (2 * 24)))).keep hx3.n (hx3.get 0 (inferInstance : Tabs (H.push (.row [.int .i64 ((a + 1 : Nat) : Int), .int .i64 b, p] true (2 * 24)))).lt hz))
  haveI := htab
  have hM2 : (cN M2).length = (a + 1) * b := by rw [cN_length]; exact hML3
  simp only [↓nrmL, nrmZ, Nat.reduceEqDiff, ↓reduceIte, Nat.reduceAdd, Int.reduceBEq, Int.reduceBNe]
  by_cases ht : t < 8
  ·have hc : decide (((t : Nat) : Int) < 8) = true := decide_eq_true (by omega)
   have wx : IntKind.i64.wrap (((w % (a + 1) : Nat) : Int) + dxN t) = ((w % (a + 1) : Nat) : Int) + dxN t := wd (Nat.le_trans (Nat.le_of_lt hwm) ha) (dN_bd t ht).1
   have wy : IntKind.i64.wrap (((w / (a + 1) : Nat) : Int) + dyN t) = ((w / (a + 1) : Nat) : Int) + dyN t := wd (Nat.le_trans (Nat.le_of_lt hwd) hb) (dN_bd t ht).2
   have hi : inkB (a + 1 : Nat) b l (((w % (a + 1) : Nat) : Int) + dxN t) (((w / (a + 1) : Nat) : Int) + dyN t) = ringF (a + 1) b l ((w % (a + 1) : Nat) : Int) ((w / (a + 1) : Nat) : Int) t := rfl
   have ws : IntKind.i64.wrap (((t : Nat) : Int) + ((stp e : Nat) : Int)) = ((t + stp e : Nat) : Int) := by rw [wa (by omega)]
   have hse : t + stp e ≤ 8 ∧ (t + stp e) % stp e = 0 := by
    cases e
    ·simp only [stp, cond_false] at hts ⊢; omega
    ·simp only [stp, cond_true] at hts ⊢; omega
   try simp only [↓nrmL, nrmZ, Nat.reduceEqDiff, ↓reduceIte, Nat.reduceAdd, Int.reduceBEq, Int.reduceBNe, hc, t1, t2, wx, wy, hi]
   refine sq ?_
   refine sq ?_
   refine rg fun KF hKF => ?_
   refine mI rfl ?_
   refine Fo.bin rfl rfl rfl (by simp only [↓nrmL, nrmZ, Nat.reduceEqDiff, ↓reduceIte, Nat.reduceAdd, Int.reduceBEq, Int.reduceBNe, hc, t1, t2, wx, wy, hi]; rfl) ?_
   refine WpO.nil (hKF _ _ ?_)
   refine Wp.cond (b := true) rfl ?_
   refine Wp.skip ?_
   refine sq ?_
   refine Wp.block ?_
   refine sq ?_
   refine Fr.quiet rfl rfl fun KF hKF => ?_
   refine mI rfl ?_
   refine Fo.fa rfl ?_
   refine Fo.ld rfl rfl ?_
   refine Fo.bin rfl rfl rfl (by simp only [↓nrmL, nrmZ, Nat.reduceEqDiff, ↓reduceIte, Nat.reduceAdd, Int.reduceBEq, Int.reduceBNe, hc, t1, t2, wx, wy, hi]; rfl) ?_
   refine mI rfl ?_
   refine Fo.now rfl (exec_ringA rfl ht) rfl ?_
   try simp only [↓nrmL, nrmZ, Nat.reduceEqDiff, ↓reduceIte, Nat.reduceAdd, Int.reduceBEq, Int.reduceBNe, hc, t1, t2, wx, wy, hi]
   refine Fo.fa rfl ?_
   refine Fo.now rfl (exec_ld rfl (around_x t ht)) rfl ?_
   try simp only [↓nrmL, nrmZ, Nat.reduceEqDiff, ↓reduceIte, Nat.reduceAdd, Int.reduceBEq, Int.reduceBNe, hc, t1, t2, wx, wy, hi]
   refine Fo.bin rfl rfl rfl (by simp only [↓nrmL, nrmZ, Nat.reduceEqDiff, ↓reduceIte, Nat.reduceAdd, Int.reduceBEq, Int.reduceBNe, hc, t1, t2, wx, wy, hi]; rfl) ?_
   refine mI rfl ?_
   refine Fo.fa rfl ?_
   refine Fo.ld rfl rfl ?_
   refine Fo.bin rfl rfl rfl (by simp only [↓nrmL, nrmZ, Nat.reduceEqDiff, ↓reduceIte, Nat.reduceAdd, Int.reduceBEq, Int.reduceBNe, hc, t1, t2, wx, wy, hi]; rfl) ?_
   refine mI rfl ?_
   refine Fo.now rfl (exec_ringA rfl ht) rfl ?_
   try simp only [↓nrmL, nrmZ, Nat.reduceEqDiff, ↓reduceIte, Nat.reduceAdd, Int.reduceBEq, Int.reduceBNe, hc, t1, t2, wx, wy, hi]
   refine Fo.fa rfl ?_
   refine Fo.now rfl (exec_ld rfl (around_y t ht)) rfl ?_
   try simp only [↓nrmL, nrmZ, Nat.reduceEqDiff, ↓reduceIte, Nat.reduceAdd, Int.reduceBEq, Int.reduceBNe, hc, t1, t2, wx, wy, hi]
   refine Fo.bin rfl rfl rfl (by simp only [↓nrmL, nrmZ, Nat.reduceEqDiff, ↓reduceIte, Nat.reduceAdd, Int.reduceBEq, Int.reduceBNe, hc, t1, t2, wx, wy, hi]; rfl) ?_
   refine mI rfl ?_
   refine mI rfl ?_
   refine WpO.nil (hKF _ _ ?_)
   refine sq ?_
   refine rg fun KF hKF => ?_
   refine Fo.ldN rfl rfl (by simp only [↓nrmL, nrmZ, Nat.reduceEqDiff, ↓reduceIte, Nat.reduceAdd, Int.reduceBEq, Int.reduceBNe, hc, t1, t2, wx, wy, hi]; rfl) ?_
   refine mI rfl ?_
   refine mI rfl ?_
   refine Fo.pcall (v' := ?_) hn rfl (by simp only [↓nrmL, nrmZ, Nat.reduceEqDiff, ↓reduceIte, Nat.reduceAdd, Int.reduceBEq, Int.reduceBNe, hc, t1, t2, wx, wy, hi, List.map]; rfl) rfl ?hv fun _ _ => ?_; case hv => (simp only [↓nrmL, nrmZ, Nat.reduceEqDiff, ↓reduceIte, Nat.reduceAdd, Int.reduceBEq, Int.reduceBNe, hc, t1, t2, wx, wy, hi]; rfl)
   refine mB rfl ?_
   rename AHeap => H4
   rename ExtI H3 H4 => hx4
   have st4 : Stk H4 wt2 3 (cN W2) := st.keep hx4.ext.n fun _ _ _ _ _ _ hr => hx4.ext.get _ hr
   have hx34 : ExtP (H.push (.row [.int .i64 ((a + 1 : Nat) : Int), .int .i64 b, p] true (2 * 24))) H4 mk := hx3.ext hx4.ext
   cases hv : ringF (a + 1) b l ((w % (a + 1) : Nat) : Int) ((w / (a + 1) : Nat) : Int) t
   ·skip
    try simp only [↓nrmL, nrmZ, Nat.reduceEqDiff, ↓reduceIte, Nat.reduceAdd, Int.reduceBEq, Int.reduceBNe, ws]
    refine Fo.no rfl rfl ?_
    refine Fo.no rfl rfl ?_
    refine Fo.no rfl rfl ?_
    refine Fo.no rfl rfl ?_
    refine Fo.no rfl rfl ?_
    refine Fo.no rfl rfl ?_
    refine Fo.no rfl rfl ?_
    refine Fo.no rfl rfl ?_
    refine Fo.no rfl rfl ?_
    refine Fo.no rfl rfl ?_
    refine fB rfl rfl ?_
    refine WpO.nil (hKF _ _ ?_)
    refine Wp.cond (b := false) rfl ?_
    refine Wp.skip ?_
    refine rg fun KF hKF => ?_
    refine mI rfl ?_
    refine mI rfl ?_
    refine Fo.bin rfl rfl rfl (by simp only [↓nrmL, nrmZ, Nat.reduceEqDiff, ↓reduceIte, Nat.reduceAdd, Int.reduceBEq, Int.reduceBNe, ws]; rfl) ?_
    refine mI rfl ?_
    refine WpO.nil (hKF _ _ ?_)
    dsimp only [cond_true, cond_false]
    refine ⟨(wt2, W2, M2, t + stp e), by dsimp only; omega, ⟨rfl, rfl, trivial⟩, ⟨inferInstance, inferInstance, st4, fs, inferInstance, hx34⟩, (by have hq := hfl3.off hts hv; exact hq), ⟨hbd3, hbe3⟩, hML3, hse⟩
   ·obtain ⟨u, v, e1, e2, hu, hvb, hl1⟩ := inkB_true hv
    have e1' : ((w % (a + 1) : Nat) : Int) + dxN t = (u : Int) := e1
    have e2' : ((w / (a + 1) : Nat) : Int) + dyN t = (v : Int) := e2
    have hnb : isNb (a + 1) b w t (v * (a + 1) + u) := ⟨u, v, hu, hvb, e1.symm, e2.symm, rfl⟩
    have hidx := isNb_lt hnb
    have hva : v * (a + 1) ≤ 640 * 640 := Nat.mul_le_mul (by omega) ha
    have m1 : IntKind.i64.wrap ((((w / (a + 1) : Nat) : Int) + dyN t) * ((a + 1 : Nat) : Int)) = ((v * (a + 1) : Nat) : Int) := by rw [e2']; exact wm (by omega)
    have m2 : IntKind.i64.wrap (((v * (a + 1) : Nat) : Int) + (((w % (a + 1) : Nat) : Int) + dxN t)) = ((v * (a + 1) + u : Nat) : Int) := by rw [e1']; exact wa (by omega)
    have hix : v * (a + 1) + u < (cN M2).length := by rw [hM2]; exact hidx
    have hge2 : (cN M2)[v * (a + 1) + u]'hix = ((M2.getD (v * (a + 1) + u) 0 : Nat) : Int) := cN_get hix
    try simp only [↓nrmL, nrmZ, Nat.reduceEqDiff, ↓reduceIte, Nat.reduceAdd, Int.reduceBEq, Int.reduceBNe, m1, m2, hge2]
    refine Fo.yes rfl rfl ?_
    refine Fo.mov (by simp only [↓nrmL, nrmK, Nat.reduceEqDiff, ↓reduceIte]; rfl) ?_
    refine Fo.yes rfl rfl ?_
    refine mI rfl ?_
    refine Fo.yes rfl rfl ?_
    refine Fo.fa rfl ?_
    refine Fo.yes rfl rfl ?_
    refine Fo.ld rfl rfl ?_
    refine Fo.yes rfl rfl ?_
    refine Fo.bin rfl rfl rfl (by simp only [↓nrmL, nrmZ, Nat.reduceEqDiff, ↓reduceIte, Nat.reduceAdd, Int.reduceBEq, Int.reduceBNe, m1, m2, hge2]; rfl) ?_
    refine Fo.yes rfl rfl ?_
    refine mI rfl ?_
    refine Fo.yes rfl rfl ?_
    refine Fo.bin rfl rfl rfl (by simp only [↓nrmL, nrmZ, Nat.reduceEqDiff, ↓reduceIte, Nat.reduceAdd, Int.reduceBEq, Int.reduceBNe, m1, m2, hge2]; rfl) ?_
    refine Fo.yes rfl rfl ?_
    refine Fo.idx (by simp only [↓nrmL, nrmK, Nat.reduceEqDiff, ↓reduceIte]; rfl) rfl ?_ (by simp only [↓nrmL, nrmZ, Nat.reduceEqDiff, ↓reduceIte, Nat.reduceAdd, Int.reduceBEq, Int.reduceBNe, m1, m2, hge2]; rfl) ?_; (focus omega)
    refine Fo.yes rfl rfl ?_
    refine Fo.ldI rfl ?_ (by simp only [↓nrmL, nrmZ, Nat.reduceEqDiff, ↓reduceIte, Nat.reduceAdd, Int.reduceBEq, Int.reduceBNe, m1, m2, hge2]; rfl) ?_; (focus omega)
    refine Fo.yes rfl rfl ?_
    refine Fo.bin rfl rfl rfl rfl ?_
    refine tB rfl rfl ?_
    refine WpO.nil (hKF _ _ ?_)
    dsimp only [cond_true, cond_false]
    cases hz0 : (((M2.getD (v * (a + 1) + u) 0 : Nat) : Int) == 0)
    ·skip
     try simp only [↓nrmL, nrmZ, Nat.reduceEqDiff, ↓reduceIte, Nat.reduceAdd, Int.reduceBEq, Int.reduceBNe, ws]
     refine Wp.cond (b := false) rfl ?_
     refine Wp.skip ?_
     refine rg fun KF hKF => ?_
     refine mI rfl ?_
     refine mI rfl ?_
     refine Fo.bin rfl rfl rfl (by simp only [↓nrmL, nrmZ, Nat.reduceEqDiff, ↓reduceIte, Nat.reduceAdd, Int.reduceBEq, Int.reduceBNe, ws]; rfl) ?_
     refine mI rfl ?_
     refine WpO.nil (hKF _ _ ?_)
     dsimp only [cond_true, cond_false]
     refine ⟨(wt2, W2, M2, t + stp e), by dsimp only; omega, ⟨rfl, rfl, trivial⟩, ⟨inferInstance, inferInstance, st4, fs, inferInstance, hx34⟩, (by have hq := hfl3.been hts hnb (fun q => by rw [q] at hz0; cases hz0); exact hq), ⟨hbd3, hbe3⟩, hML3, hse⟩
    ·have hz1 : M2.getD (v * (a + 1) + u) 0 = 0 := by have := eq_of_beq hz0; omega
     try simp only [↓nrmL, nrmZ, Nat.reduceEqDiff, ↓reduceIte, Nat.reduceAdd, Int.reduceBEq, Int.reduceBNe, m1, m2]
     refine Wp.cond (b := true) rfl ?_
     refine sq ?_
     refine rg fun KF hKF => ?_
     refine Fo.mov (by simp only [↓nrmL, nrmK, Nat.reduceEqDiff, ↓reduceIte]; rfl) ?_
     refine mI rfl ?_
     refine Fo.fa rfl ?_
     refine Fo.ld rfl rfl ?_
     refine Fo.bin rfl rfl rfl (by simp only [↓nrmL, nrmZ, Nat.reduceEqDiff, ↓reduceIte, Nat.reduceAdd, Int.reduceBEq, Int.reduceBNe, m1, m2]; rfl) ?_
     refine mI rfl ?_
     refine Fo.bin rfl rfl rfl (by simp only [↓nrmL, nrmZ, Nat.reduceEqDiff, ↓reduceIte, Nat.reduceAdd, Int.reduceBEq, Int.reduceBNe, m1, m2]; rfl) ?_
     refine mI rfl ?_
     refine Fo.idx (by simp only [↓nrmL, nrmK, Nat.reduceEqDiff, ↓reduceIte]; rfl) rfl ?_ (by simp only [↓nrmL, nrmZ, Nat.reduceEqDiff, ↓reduceIte, Nat.reduceAdd, Int.reduceBEq, Int.reduceBNe, m1, m2]; rfl) ?_; (focus omega)
     refine WpO.do' (WpX.stI (p := mk) (j := v * (a + 1) + u) (l := cN M2) rfl rfl hix fun H5 hb5 hw5 hx5 => ?_)
     rw [cN_set] at hb5
     haveI := hx5
     have hsep5 : SepS wt2 mk := inferInstance
     have st5 : Stk H5 wt2 3 (cN W2) := st4.other hx5 hsep5
     try simp only [↓nrmL, nrmZ, Nat.reduceEqDiff, ↓reduceIte, Nat.reduceAdd, Int.reduceBEq, Int.reduceBNe, m1, m2]
     refine WpO.nil (hKF _ _ ?_)
     refine rg fun KF hKF => ?_
     refine Fo.mov (by simp only [↓nrmL, nrmK, Nat.reduceEqDiff, ↓reduceIte]; rfl) ?_
     refine mI rfl ?_
     refine Fo.fa rfl ?_
     refine Fo.ld rfl rfl ?_
     refine Fo.bin rfl rfl rfl (by simp only [↓nrmL, nrmZ, Nat.reduceEqDiff, ↓reduceIte, Nat.reduceAdd, Int.reduceBEq, Int.reduceBNe, m1, m2]; rfl) ?_
     refine mI rfl ?_
     refine Fo.bin rfl rfl rfl (by simp only [↓nrmL, nrmZ, Nat.reduceEqDiff, ↓reduceIte, Nat.reduceAdd, Int.reduceBEq, Int.reduceBNe, m1, m2]; rfl) ?_
     refine Fo.bslice rfl (by simp only [↓nrmL, nrmZ, Nat.reduceEqDiff, ↓reduceIte, Nat.reduceAdd, Int.reduceBEq, Int.reduceBNe, m1, m2]; rfl) ?_
     refine WpO.do (WpX.push (p := wt2) (l := W2) (k := v * (a + 1) + u) rfl rfl st5.pushed one_ints (by omega) fun wt6 H6 st6 hx6 hfr6 => ?_)
     haveI := hx6
     haveI : RowNe wt2 H.n := ⟨fun r off len cap sz q => by
      have h6 := fs.ge _ _ _ _ _ q
      have h7 : (H.push (.row [.int .i64 ((a + 1 : Nat) : Int), .int .i64 b, p] true (2 * 24))).n = H.n + 1 := rfl
      omega⟩
     haveI : ExtP0 (H.push (.row [.int .i64 ((a + 1 : Nat) : Int), .int .i64 b, p] true (2 * 24))) H4 mk := ⟨hx34⟩
     have hcs := count_setN (M := M2) (k := v * (a + 1) + u) (v := n0) (by omega) hz1 hn0
     have hxx : ExtP (H.push (.row [.int .i64 ((a + 1 : Nat) : Int), .int .i64 b, p] true (2 * 24))) (H5.push (.row [.int .i64 ((v * (a + 1) + u : Nat) : Int)] true (2 * 3))) mk := ExtP0.ext
     haveI := st6.ints.one
     try simp only [↓nrmL, nrmZ, Nat.reduceEqDiff, ↓reduceIte, Nat.reduceAdd, Int.reduceBEq, Int.reduceBNe, ws]
     refine Fo.mov (by simp only [↓nrmL, nrmK, Nat.reduceEqDiff, ↓reduceIte]; rfl) ?_
     refine WpO.nil (hKF _ _ ?_)
     refine rg fun KF hKF => ?_
     refine mI rfl ?_
     refine mI rfl ?_
     refine Fo.bin rfl rfl rfl (by simp only [↓nrmL, nrmZ, Nat.reduceEqDiff, ↓reduceIte, Nat.reduceAdd, Int.reduceBEq, Int.reduceBNe, ws]; rfl) ?_
     refine mI rfl ?_
     refine WpO.nil (hKF _ _ ?_)
     dsimp only [cond_true, cond_false]
     refine ⟨(wt6, W2 ++ [v * (a + 1) + u], M2.set (v * (a + 1) + u) n0, t + stp e), by dsimp only; omega, ⟨rfl, rfl, trivial⟩, ⟨inferInstance, inferInstance, st6, hfr6 _ hxx.n fs, inferInstance, hxx.fresh hx6 fs⟩, (by have hq := hfl3.add hts ht hnb hl1 hz1 hwh hn0 (by omega); exact hq), ⟨by dsimp only; rw [List.length_append, List.length_singleton]; omega, by dsimp only; rw [List.length_append, List.length_singleton]; omega⟩, by dsimp only; rw [List.length_set]; exact hML3, hse⟩
  ·obtain rfl : t = 8 := by omega
   have hc : decide (((8 : Nat) : Int) < 8) = false := rfl
   try simp only [↓nrmL, nrmZ, Nat.reduceEqDiff, ↓reduceIte, Nat.reduceAdd, Int.reduceBEq, Int.reduceBNe, hc]
   refine sq ?_
   refine sq ?_
   refine rg fun KF hKF => ?_
   refine mI rfl ?_
   refine Fo.bin rfl rfl rfl (by simp only [↓nrmL, nrmZ, Nat.reduceEqDiff, ↓reduceIte, Nat.reduceAdd, Int.reduceBEq, Int.reduceBNe, hc]; rfl) ?_
   refine WpO.nil (hKF _ _ ?_)
   refine Wp.cond (b := false) rfl ?_
   refine Wp.exit ?_
   dsimp only [cond_true, cond_false]
   refine ⟨(wt2, W2, M2), by dsimp only; rw [List.length_append, List.length_singleton]; omega, ⟨rfl, trivial⟩, ⟨bm, wmk, st, fs, g5, hx3⟩, hfl3.drop, hbd3, hML3⟩
end Go.Am

set_option maxHeartbeats 8000000
set_option maxRecDepth 100000
set_option synthInstance.maxHeartbeats 4000000
set_option synthInstance.maxSize 100000
namespace Go.Am
open Go
attribute [local irreducible] Wp WpO WpX WpE

theorem K_label {a b : Nat} {e : Bool} {p : AVal} {H : AHeap} {l : List UInt8} [hp : BytesI H p l] [hs : Fits a b l] [ht : Tabs H] (ha : a ≤ 640) (hb : b ≤ 640) : Con ext prog 3 121 [.agg [.int .i64 a, .int .i64 b, p], .bool e] H fun v H' => ∃ mk M L, v = .tuple [mk, .int .i64 ((L : List Nat).length : Nat)] ∧ IntsI H' mk (cN M) ∧ FreshS H mk ∧ WrS H' mk ∧ Ext H H' ∧ Lab l a b e M L (a * b) := by
 refine con_of (show prog 121 = some c121 from rfl) rfl rfl fun n hn => ?_
 haveI := hp.one
 have hab : a * b ≤ 640 * 640 := Nat.mul_le_mul ha hb
 have hlen := hs.len
 refine sq ?_
 refine rg fun KF hKF => ?_
 refine Fo.boxA rfl ?_
 refine mN rfl ?_
 refine mI rfl ?_
 refine WpO.nil (hKF _ _ ?_)
 refine sq ?_
 refine rg fun KF hKF => ?_
 refine Fo.fa rfl ?_
 refine Fo.ld rfl rfl ?_
 refine Fo.len (v := ?_) (by simp only [↓nrmL, nrmK, Nat.reduceEqDiff, ↓reduceIte]; rfl) ?hv ?_; case hv => rfl
 refine WpO.do (WpX.mkI (n := l.length) rfl rfl rfl (by omega) fun q H1 e1 hq hf hw hx => ?_); try simp only [↓nrmL, nrmZ, Nat.reduceEqDiff, ↓reduceIte, Nat.reduceAdd, Int.reduceBEq, Int.reduceBNe]
 haveI := hq.one
 have hzr : cN (List.replicate (a * b) 0) = List.replicate l.length 0 := by simp [cN, hlen]
 have hq2 : IntsI H1 q (cN (List.replicate (a * b) 0)) := by rw [hzr]; exact hq
 have hz : RowNe q 0 := ⟨fun r off len cap sz e => by
  have h1 := hf.ge _ _ _ _ _ e
  have h2 : (H.push (.row [.int .i64 (a : Int), .int .i64 (b : Int), p] true (2 * 24))).n = H.n + 1 := rfl
  omega⟩
 refine Fo.mov (by simp only [↓nrmL, nrmK, Nat.reduceEqDiff, ↓reduceIte]; rfl) ?_
 refine WpO.nil (hKF _ _ ?_)
 refine sq ?_
 refine sq ?_
 refine rg fun KF hKF => ?_
 refine Fo.fa rfl ?_
 refine Fo.ld rfl rfl ?_
 refine Fo.len (v := ?_) (by simp only [↓nrmL, nrmK, Nat.reduceEqDiff, ↓reduceIte]; rfl) ?hv ?_; case hv => rfl
 refine mI rfl ?_
 refine WpO.nil (hKF _ _ ?_)
 refine Wp.block ?_
 dsimp only [cond_true, cond_false]
 refine Wp.loopS [5, 6, 7, 15, 16, 17, 18, 19, 20, 21, 22, 23, 24, 25, 26, 27, 28, 29, 30, 31, 32, 33, 34, 35, 36, 37] (fun s : Nat × List Nat × List Nat => [(5, .int .i64 ((s.2.2.length : Nat) : Int)), (15, .int .i64 (s.1 : Int))]) (fun H3 s H2 => s.1 ≤ a * b ∧ Lab l a b e s.2.1 s.2.2 s.1 ∧ IntsI H2 q (cN s.2.1) ∧ WrS H2 q ∧ ExtP0 H3 H2 q) (fun s => a * b - s.1) (0, List.replicate (a * b) 0, []) rfl (fun _ => rfl) ⟨rfl, rfl, trivial⟩ ⟨Nat.zero_le _, Lab.begin, hq2, inferInstance, inferInstance⟩ (by unfold fuel0 at hn; dsimp only; omega) ?_
 rintro ⟨i, M, L⟩ g H2 ⟨hi, hlab, hb2, hw2, ⟨hx2⟩⟩
 dsimp only at hi hlab hb2
 simp only [↓nrmL, nrmZ, Nat.reduceEqDiff, ↓reduceIte, Nat.reduceAdd, Int.reduceBEq, Int.reduceBNe]
 have hML : (cN M).length = a * b := by rw [cN_length]; exact hlab.len
 cases hc : decide ((i : Int) < (l.length : Int))
 ·have hil : i = a * b := by have := of_decide_eq_false hc; omega
  subst hil
  try simp only [↓nrmL, nrmZ, Nat.reduceEqDiff, ↓reduceIte, Nat.reduceAdd, Int.reduceBEq, Int.reduceBNe, hc]
  refine sq ?_
  refine rg fun KF hKF => ?_
  refine Fo.bin rfl rfl rfl (by simp only [↓nrmL, nrmZ, Nat.reduceEqDiff, ↓reduceIte, Nat.reduceAdd, Int.reduceBEq, Int.reduceBNe, hc]; rfl) ?_
  refine WpO.nil (hKF _ _ ?_)
  refine sq ?_
  refine Wp.cond (b := false) rfl ?_
  refine Wp.exit ?_
  refine sq ?_
  refine rg fun KF hKF => ?_
  refine Fo.mov (by simp only [↓nrmL, nrmK, Nat.reduceEqDiff, ↓reduceIte]; rfl) ?_
  refine mI rfl ?_
  refine Fo.mov (by simp only [↓nrmL, nrmK, Nat.reduceEqDiff, ↓reduceIte]; rfl) ?_
  refine mI rfl ?_
  refine WpO.nil (hKF _ _ ?_)
  refine Wp.ret ?_
  dsimp only [cond_true, cond_false]
  refine ⟨trivial, _, (by first | rfl | exact getAllC rfl rfl rfl rfl | exact getAllT rfl (getAllC rfl rfl rfl rfl) | exact getAllC rfl rfl rfl (getAllC rfl rfl rfl rfl) | exact getAllC1 rfl rfl rfl), ?_⟩
  exact ⟨q, M, L, rfl, inferInstance, hf.weak, inferInstance, Ext0.ext, hlab⟩
 ·have hil : i < l.length := by have := of_decide_eq_true hc; omega
  have hiab : i < a * b := by omega
  have hw1 := wa1 (a := i) (by omega)
  have hfew := hlab.few
  have hw3 := wa1 (a := L.length) (by omega)
  have hge : (cN M)[i]'(by omega) = ((M.getD i 0 : Nat) : Int) := cN_get _
  have hiM : i < (cN M).length := by omega
  have hld : l.getD i 0 = l[i] := by rw [List.getD_eq_getElem?_getD, List.getElem?_eq_getElem hil]; rfl
  cases hv : (l[i] == 1)
  ·skip
   try simp only [↓nrmL, nrmZ, Nat.reduceEqDiff, ↓reduceIte, Nat.reduceAdd, Int.reduceBEq, Int.reduceBNe, hc, u8_one, hv]
   refine sq ?_
   refine rg fun KF hKF => ?_
   refine Fo.bin rfl rfl rfl (by simp only [↓nrmL, nrmZ, Nat.reduceEqDiff, ↓reduceIte, Nat.reduceAdd, Int.reduceBEq, Int.reduceBNe, hc, u8_one, hv]; rfl) ?_
   refine WpO.nil (hKF _ _ ?_)
   refine sq ?_
   refine Wp.cond (b := true) rfl ?_
   refine Wp.skip ?_
   refine sq ?_
   refine Wp.block ?_
   refine sq ?_
   refine rg fun KF hKF => ?_
   refine mI rfl ?_
   refine Fo.idx (by simp only [↓nrmL, nrmK, Nat.reduceEqDiff, ↓reduceIte]; rfl) rfl ?_ (by simp only [↓nrmL, nrmZ, Nat.reduceEqDiff, ↓reduceIte, Nat.reduceAdd, Int.reduceBEq, Int.reduceBNe, hc, u8_one, hv]; rfl) ?_; (focus omega)
   refine Fo.ldB rfl ?_ rfl ?_; (focus omega)
   refine mI rfl ?_
   refine mI rfl ?_
   refine WpO.nil (hKF _ _ ?_)
   refine sq ?_
   refine rg fun KF hKF => ?_
   refine mI rfl ?_
   refine Fo.bin rfl rfl rfl (by simp only [↓nrmL, nrmZ, Nat.reduceEqDiff, ↓reduceIte, Nat.reduceAdd, Int.reduceBEq, Int.reduceBNe, hc, u8_one, hv]; rfl) ?_
   refine mB rfl ?_
   refine Fo.no rfl rfl ?_
   refine Fo.no rfl rfl ?_
   refine Fo.no rfl rfl ?_
   refine Fo.no rfl rfl ?_
   refine Fo.no rfl rfl ?_
   refine fB rfl rfl ?_
   refine WpO.nil (hKF _ _ ?_)
   refine Wp.cond (b := false) rfl ?_
   refine Wp.skip ?_
   refine rg fun KF hKF => ?_
   refine Fo.bin rfl rfl rfl rfl ?_
   refine mI rfl ?_
   refine WpO.nil (hKF _ _ ?_)
   dsimp only [cond_true, cond_false]
   refine ⟨(i + 1, M, L), by dsimp only; omega, ⟨rfl, by simp only [↓nrmL, nrmZ, Nat.reduceEqDiff, ↓reduceIte, Nat.reduceAdd, Int.reduceBEq, Int.reduceBNe]; rw [hw1], trivial⟩, hiab, hlab.skip (fun q => by rw [← hld, q] at hv; cases hv), inferInstance, inferInstance, inferInstance⟩
  ·have hl1 : l.getD i 0 = 1 := by rw [hld]; exact eq_of_beq hv
   try simp only [↓nrmL, nrmZ, Nat.reduceEqDiff, ↓reduceIte, Nat.reduceAdd, Int.reduceBEq, Int.reduceBNe, hc, u8_one, hv, hge]
   refine sq ?_
   refine rg fun KF hKF => ?_
   refine Fo.bin rfl rfl rfl (by simp only [↓nrmL, nrmZ, Nat.reduceEqDiff, ↓reduceIte, Nat.reduceAdd, Int.reduceBEq, Int.reduceBNe, hc, u8_one, hv, hge]; rfl) ?_
   refine WpO.nil (hKF _ _ ?_)
   refine sq ?_
   refine Wp.cond (b := true) rfl ?_
   refine Wp.skip ?_
   refine sq ?_
   refine Wp.block ?_
   refine sq ?_
   refine rg fun KF hKF => ?_
   refine mI rfl ?_
   refine Fo.idx (by simp only [↓nrmL, nrmK, Nat.reduceEqDiff, ↓reduceIte]; rfl) rfl ?_ (by simp only [↓nrmL, nrmZ, Nat.reduceEqDiff, ↓reduceIte, Nat.reduceAdd, Int.reduceBEq, Int.reduceBNe, hc, u8_one, hv, hge]; rfl) ?_; (focus omega)
   refine Fo.ldB rfl ?_ rfl ?_; (focus omega)
   refine mI rfl ?_
   refine mI rfl ?_
   refine WpO.nil (hKF _ _ ?_)
   refine sq ?_
   refine rg fun KF hKF => ?_
   refine mI rfl ?_
   refine Fo.bin rfl rfl rfl (by simp only [↓nrmL, nrmZ, Nat.reduceEqDiff, ↓reduceIte, Nat.reduceAdd, Int.reduceBEq, Int.reduceBNe, hc, u8_one, hv, hge]; rfl) ?_
   refine mB rfl ?_
   refine Fo.yes rfl rfl ?_
   refine Fo.mov (by simp only [↓nrmL, nrmK, Nat.reduceEqDiff, ↓reduceIte]; rfl) ?_
   refine Fo.yes rfl rfl ?_
   refine mI rfl ?_
   refine Fo.yes rfl rfl ?_
   refine Fo.idx (by simp only [↓nrmL, nrmK, Nat.reduceEqDiff, ↓reduceIte]; rfl) rfl ?_ (by simp only [↓nrmL, nrmZ, Nat.reduceEqDiff, ↓reduceIte, Nat.reduceAdd, Int.reduceBEq, Int.reduceBNe, hc, u8_one, hv, hge]; rfl) ?_; (focus omega)
   refine Fo.yes rfl rfl ?_
   refine Fo.ldI rfl ?_ (by simp only [↓nrmL, nrmZ, Nat.reduceEqDiff, ↓reduceIte, Nat.reduceAdd, Int.reduceBEq, Int.reduceBNe, hc, u8_one, hv, hge]; rfl) ?_; (focus omega)
   refine Fo.yes rfl rfl ?_
   refine Fo.bin rfl rfl rfl rfl ?_
   refine tB rfl rfl ?_
   refine WpO.nil (hKF _ _ ?_)
   dsimp only [cond_true, cond_false]
   cases hz0 : (((M.getD i 0 : Nat) : Int) == 0)
   ·skip
    refine Wp.cond (b := false) rfl ?_
    refine Wp.skip ?_
    refine rg fun KF hKF => ?_
    refine Fo.bin rfl rfl rfl rfl ?_
    refine mI rfl ?_
    refine WpO.nil (hKF _ _ ?_)
    dsimp only [cond_true, cond_false]
    refine ⟨(i + 1, M, L), by dsimp only; omega, ⟨rfl, by simp only [↓nrmL, nrmZ, Nat.reduceEqDiff, ↓reduceIte, Nat.reduceAdd, Int.reduceBEq, Int.reduceBNe]; rw [hw1], trivial⟩, hiab, hlab.skip (fun _ q => by rw [q] at hz0; cases hz0), inferInstance, inferInstance, inferInstance⟩
   ·have h0 : M.getD i 0 = 0 := by have := eq_of_beq hz0; omega
    try simp only [↓nrmL, nrmZ, Nat.reduceEqDiff, ↓reduceIte, Nat.reduceAdd, Int.reduceBEq, Int.reduceBNe, hw3]
    refine Wp.cond (b := true) rfl ?_
    refine sq ?_
    refine rg fun KF hKF => ?_
    refine mI rfl ?_
    refine Fo.bin rfl rfl rfl (by simp only [↓nrmL, nrmZ, Nat.reduceEqDiff, ↓reduceIte, Nat.reduceAdd, Int.reduceBEq, Int.reduceBNe, hw3]; rfl) ?_
    refine mI rfl ?_
    refine WpO.nil (hKF _ _ ?_)
    refine rg fun KF hKF => ?_
    refine Fo.ldN rfl rfl (by simp only [↓nrmL, nrmZ, Nat.reduceEqDiff, ↓reduceIte, Nat.reduceAdd, Int.reduceBEq, Int.reduceBNe, hw3]; rfl) ?_
    refine mB rfl ?_
    refine Fo.mov (by simp only [↓nrmL, nrmK, Nat.reduceEqDiff, ↓reduceIte]; rfl) ?_
    refine mI rfl ?_
    refine mI rfl ?_
    refine WpO.do (WpX.conD hn rfl rfl (by simp only [↓nrmL, nrmZ, Nat.reduceEqDiff, ↓reduceIte, Nat.reduceAdd, Int.reduceBEq, Int.reduceBNe, List.map] <;> rfl) (K_flood (e := e) (l := l) (M0 := M) (s0 := i) (n0 := L.length + 1) hz hlab.len ha hb hiab hl1 h0 hlab.whole (Nat.succ_pos _)) fun v H5 h5 => ?_)
    obtain ⟨M', hb5, hw5, hx5, hM', hm'⟩ := h5
    haveI := hx5
    refine WpO.nil (hKF _ _ ?_)
    refine rg fun KF hKF => ?_
    refine Fo.bin rfl rfl rfl rfl ?_
    refine mI rfl ?_
    refine WpO.nil (hKF _ _ ?_)
    dsimp only [cond_true, cond_false]
    refine ⟨(i + 1, M', L ++ [i]), by dsimp only; omega, ⟨by dsimp only; rw [List.length_append, List.length_singleton]; rfl, by simp only [↓nrmL, nrmZ, Nat.reduceEqDiff, ↓reduceIte, Nat.reduceAdd, Int.reduceBEq, Int.reduceBNe]; rw [hw1], trivial⟩, hiab, hlab.next hiab hl1 h0 hM' hm', hb5, hw5, inferInstance⟩
end Go.Am

set_option maxHeartbeats 8000000
set_option maxRecDepth 100000
set_option synthInstance.maxHeartbeats 4000000
set_option synthInstance.maxSize 1000000000
namespace Go.Am
open Go
attribute [local irreducible] Wp WpO WpX WpE

theorem K_Components {a b : Nat} {e : Bool} {p : AVal} {H : AHeap} {l : List UInt8} [hp : BytesI H p l] [ht : Tabs H] (ok : Ok a b l) : Con ext prog 5 60 [.agg [.int .i64 a, .int .i64 b, p], .bool e] H fun v H' => ∃ q K M L C, v = .tuple [q, .int .i64 0] ∧ Ext H K ∧ CmpsR K H' q l a b e M L C ∧ FreshS K q ∧ Ext H H' := by
 refine con_of (show prog 60 = some c60 from rfl) rfl rfl fun n hn => ?_
 haveI := hp.one
 haveI : Fits a b l := ⟨ok.sized⟩
 have ee := ok.err
 have ha := ok.wa
 have hb := ok.hb
 have hab : a * b ≤ 640 * 640 := Nat.mul_le_mul ha hb
 try simp only [↓nrmL, nrmZ, Nat.reduceEqDiff, ↓reduceIte, Nat.reduceAdd, Int.reduceBEq, Int.reduceBNe, ee]
 refine sq ?_
 refine rg fun KF hKF => ?_
 refine Fo.boxA rfl ?_
 refine mN rfl ?_
 refine mI rfl ?_
 refine WpO.nil (hKF _ _ ?_)
 refine sq ?_
 refine sq ?_
 refine rg fun KF hKF => ?_
 refine Fo.ldN rfl rfl (by simp only [↓nrmL, nrmZ, Nat.reduceEqDiff, ↓reduceIte, Nat.reduceAdd, Int.reduceBEq, Int.reduceBNe, ee]; rfl) ?_
 refine Fo.pcall (v' := ?_) hn rfl (by simp only [↓nrmL, nrmZ, Nat.reduceEqDiff, ↓reduceIte, Nat.reduceAdd, Int.reduceBEq, Int.reduceBNe, ee, List.map]; rfl) rfl ?hv fun _ _ => ?_; case hv => (simp only [↓nrmL, nrmZ, Nat.reduceEqDiff, ↓reduceIte, Nat.reduceAdd, Int.reduceBEq, Int.reduceBNe, ee]; rfl)
 refine mI rfl ?_
 refine WpO.nil (hKF _ _ ?_)
 refine sq ?_
 refine rg fun KF hKF => ?_
 refine mI rfl ?_
 refine Fo.bin rfl rfl rfl (by simp only [↓nrmL, nrmZ, Nat.reduceEqDiff, ↓reduceIte, Nat.reduceAdd, Int.reduceBEq, Int.reduceBNe, ee]; rfl) ?_
 refine WpO.nil (hKF _ _ ?_)
 refine Wp.cond (b := false) rfl ?_
 refine Wp.skip ?_
 refine sq ?_
 refine rg fun KF hKF => ?_
 refine Fo.ldN rfl rfl (by simp only [↓nrmL, nrmZ, Nat.reduceEqDiff, ↓reduceIte, Nat.reduceAdd, Int.reduceBEq, Int.reduceBNe, ee]; rfl) ?_
 refine mB rfl ?_
 rename AHeap => Hc
 rename ExtI _ Hc => hxc
 refine WpO.do (WpX.conD hn rfl rfl (by simp only [↓nrmL, nrmZ, Nat.reduceEqDiff, ↓reduceIte, Nat.reduceAdd, Int.reduceBEq, Int.reduceBNe, List.map] <;> rfl) (K_label (e := e) (l := l) ha hb) fun v H1 h5 => ?_)
 obtain ⟨mk, M, L, rfl, hm1, hfm, hwm, hx1, hlab⟩ := h5
 haveI : ExtI _ H1 := ⟨hx1⟩
 haveI := hm1.one
 have hE1 : Ext H H1 := Ext0.ext
 haveI hrI : HasRow H1 H.n [.int .i64 (a : Int), .int .i64 (b : Int), p] true (2 * 24) := inferInstance
 have hML : (cN M).length = a * b := by rw [cN_length]; exact hlab.len
 refine mT rfl ?_
 refine Fo.extr rfl rfl ?_
 refine Fo.extr rfl rfl ?_
 refine Fo.mov (by simp only [↓nrmL, nrmK, Nat.reduceEqDiff, ↓reduceIte]; rfl) ?_
 refine mI rfl ?_
 refine WpO.nil (hKF _ _ ?_)
 refine sq ?_
 refine rg fun KF hKF => ?_
 refine mI rfl ?_
 refine WpO.do (WpX.mkC (n := L.length) (K0 := H1) a rfl rfl (by decide) (by have := hlab.few; omega) (Nat.le_refl _) fun q H2 hq hf hx2 => ?_)
 haveI := hq.row.one
 refine Fo.mov (by simp only [↓nrmL, nrmK, Nat.reduceEqDiff, ↓reduceIte]; rfl) ?_
 refine WpO.nil (hKF _ _ ?_)
 refine sq ?_
 refine sq ?_
 refine rg fun KF hKF => ?_
 refine Fo.mov (by simp only [↓nrmL, nrmK, Nat.reduceEqDiff, ↓reduceIte]; rfl) ?_
 refine Fo.len (v := ?_) (by simp only [↓nrmL, nrmK, Nat.reduceEqDiff, ↓reduceIte]; rfl) ?hv ?_; case hv => rfl
 refine mI rfl ?_
 refine WpO.nil (hKF _ _ ?_)
 refine Wp.block ?_
 dsimp only [cond_true, cond_false]
 refine Wp.loopS [10, 11, 12, 13, 29, 30, 31, 32, 33, 34, 35, 36, 37, 38, 39, 40, 41, 42, 43, 44, 45, 46, 47, 48, 49, 50, 51, 52, 53, 54, 55, 56, 57, 58, 59, 60, 61, 62, 63, 64, 65, 66, 67, 68] (fun i : Nat => [(29, .int .i64 (i : Int))]) (fun _ i H4 => i ≤ a * b ∧ (∃ C, C.length = L.length ∧ Cmps H1 H4 q a C (pxAll M L.length i) ∧ ∀ (k : Nat) c, C[k]? = some c → c.1 = bxL a (pxs M i k)) ∧ IntsI H4 mk (cN M) ∧ HasRow H4 H.n [.int .i64 (a : Int), .int .i64 (b : Int), p] true (2 * 24) ∧ Ext0 H1 H4) (fun i => a * b - i) 0 rfl (fun _ => rfl) ⟨rfl, trivial⟩ ⟨Nat.zero_le _, ⟨noC L.length, List.length_replicate .., by rw [pxAll_zero]; exact hq, fun k c hc => by rw [rep_at hc]; rfl⟩, inferInstance, inferInstance, inferInstance⟩ (by unfold fuel0 at hn; omega) ?_
 rintro i g H4 ⟨hi, ⟨C, hCL, hC, hbx⟩, hb4, hr4, hx4⟩
 simp only [↓nrmL, nrmZ, Nat.reduceEqDiff, ↓reduceIte, Nat.reduceAdd, Int.reduceBEq, Int.reduceBNe]
 cases hc : decide ((i : Int) < ((cN M).length : Int))
 ·have hil : i = a * b := by have := of_decide_eq_false hc; omega
  subst hil
  try simp only [↓nrmL, nrmZ, Nat.reduceEqDiff, ↓reduceIte, Nat.reduceAdd, Int.reduceBEq, Int.reduceBNe, hc]
  refine sq ?_
  refine rg fun KF hKF => ?_
  refine Fo.bin rfl rfl rfl (by simp only [↓nrmL, nrmZ, Nat.reduceEqDiff, ↓reduceIte, Nat.reduceAdd, Int.reduceBEq, Int.reduceBNe, hc]; rfl) ?_
  refine WpO.nil (hKF _ _ ?_)
  refine sq ?_
  refine Wp.cond (b := false) rfl ?_
  refine Wp.exit ?_
  refine sq ?_
  refine rg fun KF hKF => ?_
  refine Fo.mov (by simp only [↓nrmL, nrmK, Nat.reduceEqDiff, ↓reduceIte]; rfl) ?_
  refine Fo.mov (by simp only [↓nrmL, nrmK, Nat.reduceEqDiff, ↓reduceIte]; rfl) ?_
  refine mI rfl ?_
  refine WpO.nil (hKF _ _ ?_)
  refine Wp.ret ?_
  dsimp only [cond_true, cond_false]
  refine ⟨trivial, _, (by first | rfl | exact getAllC rfl rfl rfl rfl | exact getAllT rfl (getAllC rfl rfl rfl rfl) | exact getAllC rfl rfl rfl (getAllC rfl rfl rfl rfl) | exact getAllC1 rfl rfl rfl), ?_⟩
  exact ⟨q, H1, M, L, C, rfl, hE1, ⟨hlab, hC, hbx, hCL⟩, hf, hE1.trans Ext0.ext⟩
 have hil : i < a * b := by have := of_decide_eq_true hc; omega
 have hw1 := wa1 (a := i) (by omega)
 have hiM : i < (cN M).length := by omega
 have hge : (cN M)[i]'hiM = ((M.getD i 0 : Nat) : Int) := cN_get _
 cases hz0 : (((M.getD i 0 : Nat) : Int) == 0)
 rotate_left
 ·have h0 : M.getD i 0 = 0 := by have := eq_of_beq hz0; omega
  try simp only [↓nrmL, nrmZ, Nat.reduceEqDiff, ↓reduceIte, Nat.reduceAdd, Int.reduceBEq, Int.reduceBNe, hc, hge, hz0]
  refine sq ?_
  refine rg fun KF hKF => ?_
  refine Fo.bin rfl rfl rfl (by simp only [↓nrmL, nrmZ, Nat.reduceEqDiff, ↓reduceIte, Nat.reduceAdd, Int.reduceBEq, Int.reduceBNe, hc, hge, hz0]; rfl) ?_
  refine WpO.nil (hKF _ _ ?_)
  refine sq ?_
  refine Wp.cond (b := true) rfl ?_
  refine Wp.skip ?_
  refine sq ?_
  refine Wp.block ?_
  refine sq ?_
  refine rg fun KF hKF => ?_
  refine mI rfl ?_
  refine Fo.idx (by simp only [↓nrmL, nrmK, Nat.reduceEqDiff, ↓reduceIte]; rfl) rfl ?_ (by simp only [↓nrmL, nrmZ, Nat.reduceEqDiff, ↓reduceIte, Nat.reduceAdd, Int.reduceBEq, Int.reduceBNe, hc, hge, hz0]; rfl) ?_; (focus omega)
  refine Fo.ldI rfl ?_ (by simp only [↓nrmL, nrmZ, Nat.reduceEqDiff, ↓reduceIte, Nat.reduceAdd, Int.reduceBEq, Int.reduceBNe, hc, hge, hz0]; rfl) ?_; (focus omega)
  refine mI rfl ?_
  refine mI rfl ?_
  refine WpO.nil (hKF _ _ ?_)
  refine sq ?_
  refine sq ?_
  refine rg fun KF hKF => ?_
  refine mI rfl ?_
  refine Fo.bin rfl rfl rfl (by simp only [↓nrmL, nrmZ, Nat.reduceEqDiff, ↓reduceIte, Nat.reduceAdd, Int.reduceBEq, Int.reduceBNe, hc, hge, hz0]; rfl) ?_
  refine WpO.nil (hKF _ _ ?_)
  refine Wp.cond (b := true) rfl ?_
  refine Wp.exit ?_
  refine rg fun KF hKF => ?_
  refine Fo.bin rfl rfl rfl rfl ?_
  refine mI rfl ?_
  refine WpO.nil (hKF _ _ ?_)
  dsimp only [cond_true, cond_false]
  refine ⟨i + 1, by omega, ⟨by simp only [↓nrmL, nrmZ, Nat.reduceEqDiff, ↓reduceIte, Nat.reduceAdd, Int.reduceBEq, Int.reduceBNe]; rw [hw1], trivial⟩, hil, ⟨C, hCL, by rw [pxAll_skip h0]; exact hC, fun k c hk => by rw [pxs_miss (by omega)]; exact hbx k c hk⟩, inferInstance, inferInstance, inferInstance⟩
 have h0 : M.getD i 0 ≠ 0 := by have := ne_of_beq_false hz0; omega
 have hlt := hlab.whole.lt i
 try dsimp only at hlt
 obtain ⟨k, hk⟩ : ∃ k, M.getD i 0 = k + 1 := ⟨M.getD i 0 - 1, by omega⟩
 have hkL : k < L.length := by omega
 have hkC : k < C.length := by omega
 obtain ⟨c, hck⟩ : ∃ c, C[k]? = some c := ⟨C[k], List.getElem?_eq_getElem hkC⟩
 have hPk := pxAll_at (M := M) (i := i) hkL
 have hown := hC.own k c _ hck hPk
 have hcr := hC.row
 rw [hk] at hge
 have hs1 : IntKind.i64.wrap (((k + 1 : Nat) : Int) - 1) = (k : Int) := by rw [w64 (by have := hlab.few; omega)]; omega
 have hi6 : i < 640 * 640 := by omega
 have hL6 := hlab.few
 obtain ⟨a', rfl⟩ : ∃ a', a = a' + 1 := ⟨a - 1, by have := (div_lt hil).1; omega⟩
 have t1 : (i : Int).tmod ((a' + 1 : Nat) : Int) = ((i % (a' + 1) : Nat) : Int) := rfl
 have t2 : IntKind.i64.wrap ((i : Int).tdiv ((a' + 1 : Nat) : Int)) = ((i / (a' + 1) : Nat) : Int) := by
  show IntKind.i64.wrap ((i / (a' + 1) : Nat) : Int) = _
  have h9 := Nat.div_le_self i (a' + 1)
  generalize i / (a' + 1) = z at h9
  exact w64 (by omega)
 try simp only [↓nrmL, nrmZ, Nat.reduceEqDiff, ↓reduceIte, Nat.reduceAdd, Int.reduceBEq, Int.reduceBNe, hc, hge, hz0, hs1]
 refine sq ?_
 refine rg fun KF hKF => ?_
 refine Fo.bin rfl rfl rfl (by simp only [↓nrmL, nrmZ, Nat.reduceEqDiff, ↓reduceIte, Nat.reduceAdd, Int.reduceBEq, Int.reduceBNe, hc, hge, hz0, hs1]; rfl) ?_
 refine WpO.nil (hKF _ _ ?_)
 refine sq ?_
 refine Wp.cond (b := true) rfl ?_
 refine Wp.skip ?_
 refine sq ?_
 refine Wp.block ?_
 refine sq ?_
 refine rg fun KF hKF => ?_
 refine mI rfl ?_
 refine Fo.idx (by simp only [↓nrmL, nrmK, Nat.reduceEqDiff, ↓reduceIte]; rfl) rfl ?_ (by simp only [↓nrmL, nrmZ, Nat.reduceEqDiff, ↓reduceIte, Nat.reduceAdd, Int.reduceBEq, Int.reduceBNe, hc, hge, hz0, hs1]; rfl) ?_; (focus omega)
 refine Fo.ldI rfl ?_ (by simp only [↓nrmL, nrmZ, Nat.reduceEqDiff, ↓reduceIte, Nat.reduceAdd, Int.reduceBEq, Int.reduceBNe, hc, hge, hz0, hs1]; rfl) ?_; (focus omega)
 refine mI rfl ?_
 refine mI rfl ?_
 refine WpO.nil (hKF _ _ ?_)
 refine sq ?_
 refine sq ?_
 refine rg fun KF hKF => ?_
 refine mI rfl ?_
 refine Fo.bin rfl rfl rfl rfl ?_
 refine WpO.nil (hKF _ _ ?_)
 refine Wp.cond (b := false) rfl ?_
 refine Wp.skip ?_
 refine sq ?_
 refine rg fun KF hKF => ?_
 refine Fo.mov (by simp only [↓nrmL, nrmK, Nat.reduceEqDiff, ↓reduceIte]; rfl) ?_
 refine mI rfl ?_
 refine Fo.bin rfl rfl rfl (by simp only [↓nrmL, nrmZ, Nat.reduceEqDiff, ↓reduceIte, Nat.reduceAdd, Int.reduceBEq, Int.reduceBNe, hc, hge, hz0, hs1]; rfl) ?_
 refine Fo.idx (by simp only [↓nrmL, nrmK, Nat.reduceEqDiff, ↓reduceIte]; rfl) rfl ?_ (by simp only [↓nrmL, nrmZ, Nat.reduceEqDiff, ↓reduceIte, Nat.reduceAdd, Int.reduceBEq, Int.reduceBNe, hc, hge, hz0, hs1]; rfl) ?_; (focus omega)
 refine mP rfl ?_
 refine WpO.nil (hKF _ _ ?_)
 refine sq ?_
 dsimp only [cond_true, cond_false]
 refine Fr.dregionE [.row [.int .i64 0, .int .i64 0] true (2 * 88)] ?_ fun KF hKF => ?_
 ·skip
  refine oracle_pre rfl rfl rfl rfl ?_; (try simp only [↓nrmL, nrmZ, Nat.reduceEqDiff, ↓reduceIte, Nat.reduceAdd, Int.reduceBEq, Int.reduceBNe, t1, t2])
  refine oracle_pre rfl rfl rfl rfl ?_; (try simp only [↓nrmL, nrmZ, Nat.reduceEqDiff, ↓reduceIte, Nat.reduceAdd, Int.reduceBEq, Int.reduceBNe, t1, t2])
  refine oracle_pre rfl rfl rfl (exec_ld rfl rfl) ?_; (try simp only [↓nrmL, nrmZ, Nat.reduceEqDiff, ↓reduceIte, Nat.reduceAdd, Int.reduceBEq, Int.reduceBNe, t1, t2])
  refine oracle_pre rfl rfl rfl rfl ?_; (try simp only [↓nrmL, nrmZ, Nat.reduceEqDiff, ↓reduceIte, Nat.reduceAdd, Int.reduceBEq, Int.reduceBNe, t1, t2])
  refine oracle_pre rfl rfl rfl rfl ?_; (try simp only [↓nrmL, nrmZ, Nat.reduceEqDiff, ↓reduceIte, Nat.reduceAdd, Int.reduceBEq, Int.reduceBNe, t1, t2])
  refine oracle_pre rfl rfl rfl rfl ?_; (try simp only [↓nrmL, nrmZ, Nat.reduceEqDiff, ↓reduceIte, Nat.reduceAdd, Int.reduceBEq, Int.reduceBNe, t1, t2])
  refine oracle_pre rfl rfl rfl (exec_ld rfl rfl) ?_; (try simp only [↓nrmL, nrmZ, Nat.reduceEqDiff, ↓reduceIte, Nat.reduceAdd, Int.reduceBEq, Int.reduceBNe, t1, t2])
  refine oracle_pre rfl rfl rfl rfl ?_; (try simp only [↓nrmL, nrmZ, Nat.reduceEqDiff, ↓reduceIte, Nat.reduceAdd, Int.reduceBEq, Int.reduceBNe, t1, t2])
  refine oracle_pre rfl rfl rfl rfl ?_; (try simp only [↓nrmL, nrmZ, Nat.reduceEqDiff, ↓reduceIte, Nat.reduceAdd, Int.reduceBEq, Int.reduceBNe, t1, t2])
  refine oracle_made rfl rfl rfl ?_; (try simp only [↓nrmL, nrmZ, Nat.reduceEqDiff, ↓reduceIte, Nat.reduceAdd, Int.reduceBEq, Int.reduceBNe, t1, t2])
  exact oracle_none _ _ _ _ rfl
 simp only [pushAll]
 try simp only [↓nrmL, nrmZ, Nat.reduceEqDiff, ↓reduceIte, Nat.reduceAdd, Int.reduceBEq, Int.reduceBNe, t1, t2]
 refine Fe.pure rfl rfl (by simp only [↓nrmL, nrmZ, Nat.reduceEqDiff, ↓reduceIte, Nat.reduceAdd, Int.reduceBEq, Int.reduceBNe, t1, t2]; rfl) ?_
 refine Fe.pure rfl rfl (by simp only [↓nrmL, nrmZ, Nat.reduceEqDiff, ↓reduceIte, Nat.reduceAdd, Int.reduceBEq, Int.reduceBNe, t1, t2]; rfl) ?_
 refine Fe.read rfl (exec_ld rfl rfl) rfl (by repeat (first | exact trivial | refine ⟨(by first | exact Or.inl (by dsimp only; decide) | exact Or.inr (exec_ld rfl rfl) | exact Or.inr (exec_ldN rfl rfl rfl) | exact Or.inr (exec_ldB rfl (by omega)) | exact Or.inr (exec_ldI rfl (by omega)) | exact Or.inr ghost_of), ?_⟩)) ?_
 refine Fe.pure rfl rfl (by simp only [↓nrmL, nrmZ, Nat.reduceEqDiff, ↓reduceIte, Nat.reduceAdd, Int.reduceBEq, Int.reduceBNe, t1, t2]; rfl) ?_
 refine Fe.pure rfl rfl (by simp only [↓nrmL, nrmZ, Nat.reduceEqDiff, ↓reduceIte, Nat.reduceAdd, Int.reduceBEq, Int.reduceBNe, t1, t2]; rfl) ?_
 refine Fe.pure rfl rfl (by simp only [↓nrmL, nrmZ, Nat.reduceEqDiff, ↓reduceIte, Nat.reduceAdd, Int.reduceBEq, Int.reduceBNe, t1, t2]; rfl) ?_
 refine Fe.read rfl (exec_ld rfl rfl) rfl (by repeat (first | exact trivial | refine ⟨(by first | exact Or.inl (by dsimp only; decide) | exact Or.inr (exec_ld rfl rfl) | exact Or.inr (exec_ldN rfl rfl rfl) | exact Or.inr (exec_ldB rfl (by omega)) | exact Or.inr (exec_ldI rfl (by omega)) | exact Or.inr ghost_of), ?_⟩)) ?_
 refine Fe.pure rfl rfl (by simp only [↓nrmL, nrmZ, Nat.reduceEqDiff, ↓reduceIte, Nat.reduceAdd, Int.reduceBEq, Int.reduceBNe, t1, t2]; rfl) ?_
 refine Fe.pure rfl rfl (by simp only [↓nrmL, nrmZ, Nat.reduceEqDiff, ↓reduceIte, Nat.reduceAdd, Int.reduceBEq, Int.reduceBNe, t1, t2]; rfl) ?_
 refine Fe.made rfl rfl ghost_of (by repeat (first | exact trivial | refine ⟨(by first | exact Or.inl (by dsimp only; decide) | exact Or.inr (exec_ld rfl rfl) | exact Or.inr (exec_ldN rfl rfl rfl) | exact Or.inr (exec_ldB rfl (by omega)) | exact Or.inr (exec_ldI rfl (by omega)) | exact Or.inr ghost_of), ?_⟩)) rfl ?_
 refine Fe.effect0 rfl (exec_st rfl (by (try simp only [↓nrmL, nrmZ, Nat.reduceEqDiff, ↓reduceIte, Nat.reduceAdd, Int.reduceBEq, Int.reduceBNe, t1, t2]); rfl) rfl rfl rfl (by repeat (first | rfl | refine allOne_cons ?_)) (by (try simp only [↓nrmL, nrmZ, Nat.reduceEqDiff, ↓reduceIte, Nat.reduceAdd, Int.reduceBEq, Int.reduceBNe, t1, t2]); rfl)) (by repeat (first | exact trivial | refine ⟨(by first | exact Or.inl (by dsimp only; decide) | exact Or.inr (readOk_of (exec_ld rfl rfl)) | exact Or.inr (readOk_of (exec_ldN rfl rfl rfl)) | exact Or.inr (readOk_of (exec_ldB rfl (by omega))) | exact Or.inr (readOk_of (exec_ldI rfl (by omega))) | exact Or.inr (made_of rfl)), ?_⟩)) ?_
 refine WpE.nil (hKF _ _ ?_)
 refine sq ?_
 obtain ⟨hq4, hq5⟩ := cellsC_at hck
 refine Fr.dregion0 rfl fun KF hKF => ?_
 refine Fe.pure rfl rfl (by simp only [↓nrmL, nrmZ, Nat.reduceEqDiff, ↓reduceIte, Nat.reduceAdd, Int.reduceBEq, Int.reduceBNe]; rfl) ?_
 refine Fe.pure rfl rfl (by simp only [↓nrmL, nrmZ, Nat.reduceEqDiff, ↓reduceIte, Nat.reduceAdd, Int.reduceBEq, Int.reduceBNe]; rfl) ?_
 refine Fe.pure rfl rfl rfl ?_
 refine Fe.pure rfl rfl rfl ?_
 refine Fe.read rfl (exec_ldNP (p := q) (j := k * 5) rfl (by decide) (by rw [cellsC_length]; omega) hq4) rfl trivial ?_
 refine Fe.read rfl (exec_ldN rfl rfl (by simp only [↓nrmL, nrmZ, Nat.reduceEqDiff, ↓reduceIte, Nat.reduceAdd, Int.reduceBEq, Int.reduceBNe]; rfl)) rfl (by repeat (first | exact trivial | refine ⟨(by first | exact Or.inl (by dsimp only; decide) | exact Or.inr (exec_ld rfl rfl) | exact Or.inr (exec_ldN rfl rfl rfl) | exact Or.inr (exec_ldB rfl (by omega)) | exact Or.inr (exec_ldI rfl (by omega)) | exact Or.inr ghost_of), ?_⟩)) ?_
 refine Fe.pcall (v' := ?_) rfl hn rfl (by simp only [↓nrmL, nrmZ, Nat.reduceEqDiff, ↓reduceIte, Nat.reduceAdd, Int.reduceBEq, Int.reduceBNe, List.map]; rfl) rfl ?hv fun _ _ => ⟨(by repeat (first | exact trivial | refine ⟨(by first | exact Or.inl (by dsimp only; decide) | exact Or.inr (readOk_of (exec_ld rfl rfl)) | exact Or.inr (readOk_of (exec_ldN rfl rfl rfl)) | exact Or.inr (readOk_of (exec_ldB rfl (by omega))) | exact Or.inr (readOk_of (exec_ldI rfl (by omega))) | exact Or.inr (made_of rfl)), ?_⟩)), ?_⟩; case hv => rfl
 refine Fe.pure rfl rfl rfl ?_
 refine Fe.pure rfl rfl rfl ?_
 haveI := hC.wr
 refine WpE.stPN (p := q) (j := k * 5) (m := 4) (vs := (bxS c.1 ((i % (a' + 1) : Nat) : Int) ((i / (a' + 1) : Nat) : Int)).cells) rfl rfl rfl rfl (bx_cells _).1 (by decide) (bx_cells _).2 (by rw [cellsC_length]; omega) fun H5 s5 w5 x5 => ⟨(by repeat (first | exact trivial | refine ⟨(by first | exact Or.inl (by dsimp only; decide) | exact Or.inr (readOk_of (exec_ld rfl rfl)) | exact Or.inr (readOk_of (exec_ldN rfl rfl rfl)) | exact Or.inr (readOk_of (exec_ldB rfl (by omega))) | exact Or.inr (readOk_of (exec_ldI rfl (by omega))) | exact Or.inr (made_of rfl)), ?_⟩)), ?_⟩
 rw [cellsC_box _ _ _ (bxS c.1 ((i % (a' + 1) : Nat) : Int) ((i / (a' + 1) : Nat) : Int)) hck] at s5
 refine WpE.nil (hKF _ _ ?_)
 dsimp only [cond_true, cond_false]
 have hck2 : (C.set k (bxS c.1 ((i % (a' + 1) : Nat) : Int) ((i / (a' + 1) : Nat) : Int), c.2))[k]? = some (bxS c.1 ((i % (a' + 1) : Nat) : Int) ((i / (a' + 1) : Nat) : Int), c.2) := List.getElem?_set_self hkC
 obtain ⟨_, hq6⟩ := cellsC_at hck2
 haveI := w5
 haveI : SepS c.2 q := hC.sepq k c hck
 haveI : FreshS H1 c.2 := hC.fresh k c hck
 have hcsl := hown.sl
 haveI : OneV c.2 := hcsl.one
 have hpl := pxs_le M i k
 refine Fr.dregionE [.row [.int .i64 ((i % (a' + 1) : Nat) : Int), .int .i64 ((i / (a' + 1) : Nat) : Int)] true (2 * 88)] ?_ fun KF hKF => ?_
 ·skip
  refine oracle_pre rfl rfl rfl rfl ?_; (try simp only [↓nrmL, nrmZ, Nat.reduceEqDiff, ↓reduceIte, Nat.reduceAdd, Int.reduceBEq, Int.reduceBNe])
  refine oracle_pre rfl rfl rfl rfl ?_; (try simp only [↓nrmL, nrmZ, Nat.reduceEqDiff, ↓reduceIte, Nat.reduceAdd, Int.reduceBEq, Int.reduceBNe])
  refine oracle_pre rfl rfl rfl rfl ?_; (try simp only [↓nrmL, nrmZ, Nat.reduceEqDiff, ↓reduceIte, Nat.reduceAdd, Int.reduceBEq, Int.reduceBNe])
  refine oracle_pre rfl rfl rfl rfl ?_; (try simp only [↓nrmL, nrmZ, Nat.reduceEqDiff, ↓reduceIte, Nat.reduceAdd, Int.reduceBEq, Int.reduceBNe])
  refine oracle_pre rfl rfl rfl (exec_ldP (p := q) (j := k * 5 + 4) rfl hq6) ?_
  refine oracle_pre rfl rfl rfl (exec_ldN rfl rfl rfl) ?_; (try simp only [↓nrmL, nrmZ, Nat.reduceEqDiff, ↓reduceIte, Nat.reduceAdd, Int.reduceBEq, Int.reduceBNe])
  refine oracle_made rfl rfl rfl ?_; (try simp only [↓nrmL, nrmZ, Nat.reduceEqDiff, ↓reduceIte, Nat.reduceAdd, Int.reduceBEq, Int.reduceBNe])
  exact oracle_none _ _ _ _ rfl
 simp only [pushAll]
 refine Fe.pure rfl rfl (by simp only [↓nrmL, nrmZ, Nat.reduceEqDiff, ↓reduceIte, Nat.reduceAdd, Int.reduceBEq, Int.reduceBNe]; rfl) ?_
 refine Fe.pure rfl rfl (by simp only [↓nrmL, nrmZ, Nat.reduceEqDiff, ↓reduceIte, Nat.reduceAdd, Int.reduceBEq, Int.reduceBNe]; rfl) ?_
 refine Fe.pure rfl rfl rfl ?_
 refine Fe.pure rfl rfl rfl ?_
 refine Fe.read rfl (exec_ldP (p := q) (j := k * 5 + 4) rfl hq6) rfl trivial ?_
 refine Fe.read rfl (exec_ldN rfl rfl (by simp only [↓nrmL, nrmZ, Nat.reduceEqDiff, ↓reduceIte, Nat.reduceAdd, Int.reduceBEq, Int.reduceBNe]; rfl)) rfl (by repeat (first | exact trivial | refine ⟨(by first | exact Or.inl (by dsimp only; decide) | exact Or.inr (exec_ld rfl rfl) | exact Or.inr (exec_ldN rfl rfl rfl) | exact Or.inr (exec_ldB rfl (by omega)) | exact Or.inr (exec_ldI rfl (by omega)) | exact Or.inr ghost_of), ?_⟩)) ?_
 refine Fe.made rfl rfl ghost_of (by repeat (first | exact trivial | refine ⟨(by first | exact Or.inl (by dsimp only; decide) | exact Or.inr (exec_ld rfl rfl) | exact Or.inr (exec_ldN rfl rfl rfl) | exact Or.inr (exec_ldB rfl (by omega)) | exact Or.inr (exec_ldI rfl (by omega)) | exact Or.inr ghost_of), ?_⟩)) rfl ?_
 haveI : SepS q c.2 := (hC.sepq k c hck).symm
 haveI hnew : SliceAt (H5.push (.row [.int .i64 ((i % (a' + 1) : Nat) : Int), .int .i64 ((i / (a' + 1) : Nat) : Int)] true (2 * 88))) (.slice H5.n 0 1 (some 1) 2) 2 1 [.int .i64 ((i % (a' + 1) : Nat) : Int), .int .i64 ((i / (a' + 1) : Nat) : Int)] := ⟨Or.inr ⟨H5.n, 0, some 1, _, true, _, rfl, Nat.lt_succ_self _, push_get_eq, Nat.le_refl _, rfl, Nat.le_refl _⟩⟩
 refine WpE.grow (p := c.2) (q := .slice H5.n 0 1 (some 1) 2) (cs := cellsK (a' + 1) (pxs M i k)) (new := [.int .i64 ((i % (a' + 1) : Nat) : Int), .int .i64 ((i / (a' + 1) : Nat) : Int)]) rfl rfl rfl (by decide) (by decide) (by decide) (by omega) rfl fun p' H7 o7 f7 x7 => ⟨(by repeat (first | exact trivial | refine ⟨(by first | exact Or.inl (by dsimp only; decide) | exact Or.inr (readOk_of (exec_ld rfl rfl)) | exact Or.inr (readOk_of (exec_ldN rfl rfl rfl)) | exact Or.inr (readOk_of (exec_ldB rfl (by omega))) | exact Or.inr (readOk_of (exec_ldI rfl (by omega))) | exact Or.inr (made_of rfl)), ?_⟩)), ?_⟩
 rw [← cellsK_snoc] at o7
 haveI := o7.sl.one
 have s7 : SliceAt H7 q 5 C.length (cellsC (C.set k (bxS c.1 ((i % (a' + 1) : Nat) : Int) ((i / (a' + 1) : Nat) : Int), c.2))) := inferInstance
 have w7 : WrS H7 q := inferInstance
 have hp'q : SepS p' q := inferInstance
 have hx7 : Ext0 H1 H7 := inferInstance
 have hb7 : IntsI H7 mk (cN M) := inferInstance
 have hr7 : HasRow H7 H.n [.int .i64 ((a' + 1 : Nat) : Int), .int .i64 (b : Int), p] true (2 * 24) := inferInstance
 refine Fe.pure rfl rfl rfl ?_
 refine Fe.pure rfl rfl rfl ?_
 refine WpE.stPN (p := q) (j := k * 5 + 4) (m := 1) (v := p') (vs := [p']) rfl rfl rfl (OneV.cells (v := p')) rfl (by decide) (by rw [List.all_cons, OneV.one (v := p')]; rfl) (by rw [cellsC_length, List.length_set]; omega) fun H9 s9 w9 x9 => ⟨(by repeat (first | exact trivial | refine ⟨(by first | exact Or.inl (by dsimp only; decide) | exact Or.inr (readOk_of (exec_ld rfl rfl)) | exact Or.inr (readOk_of (exec_ldN rfl rfl rfl)) | exact Or.inr (readOk_of (exec_ldB rfl (by omega))) | exact Or.inr (readOk_of (exec_ldI rfl (by omega))) | exact Or.inr (made_of rfl)), ?_⟩)), ?_⟩
 rw [setAt_one, cellsC_px _ _ _ _ hck2, List.set_set] at s9
 refine WpE.nil (hKF _ _ ?_)
 refine rg fun KF hKF => ?_
 refine Fo.bin rfl rfl rfl rfl ?_
 refine mI rfl ?_
 refine WpO.nil (hKF _ _ ?_)
 dsimp only [cond_true, cond_false]
 have hmv : (C.set k (bxS c.1 ((i % (a' + 1) : Nat) : Int) ((i / (a' + 1) : Nat) : Int), p')).length = L.length := by rw [List.length_set]; exact hCL
 refine ⟨i + 1, by omega, ⟨by simp only [↓nrmL, nrmZ, Nat.reduceEqDiff, ↓reduceIte, Nat.reduceAdd, Int.reduceBEq, Int.reduceBNe]; rw [hw1], trivial⟩, hil, ⟨C.set k (bxS c.1 ((i % (a' + 1) : Nat) : Int) ((i / (a' + 1) : Nat) : Int), p'), hmv, ?_, ?_⟩, inferInstance, inferInstance, inferInstance⟩
 ·rw [pxAll_next hk]
  refine hC.step hPk s9 w9 (OwnS.keep (H := H7) (by simpa using o7) (ExtP.n (p := q) (H := H7)) fun r off len cap sz e1 hr => ExtP.get (p := q) (H := H7) r hr ⟨fun r' off' len' cap' sz' e2 => fun h => hp'q.ne _ _ _ _ _ _ _ _ _ _ e1 e2 h.symm⟩) f7.weak (fun j d h1 h2 => ?_) hp'q (fun j d l' h1 h2 h3 => ?_)
  ·have hjL : j < L.length := by
    rw [← hCL]
    exact (List.getElem?_eq_some_iff.1 h1).1
   haveI o4 := hC.own j d _ h1 (pxAll_at hjL)
   haveI := o4.sl
   haveI : SepS d.2 q := hC.sepq j d h1
   have s5 : SliceAt (H5.push (.row [.int .i64 ((i % (a' + 1) : Nat) : Int), .int .i64 ((i / (a' + 1) : Nat) : Int)] true (2 * 88))) d.2 2 _ _ := inferInstance
   infer_instance
  ·haveI o4 := hC.own j d l' h2 h3
   haveI := o4.sl
   haveI : SepS d.2 q := hC.sepq j d h2
   haveI : SepS d.2 c.2 := hC.sep j k d c h2 hck h1
   have o7 : OwnS H7 d.2 2 l'.length (cellsK (a' + 1) l') 88 := inferInstance
   infer_instance
 ·intro j d hj
  rcases set_at hj with ⟨rfl, rfl⟩ | ⟨hne, hj⟩
  ·rw [pxs_hit hk, bxL_snoc, ← hbx j c hck]
  ·rw [pxs_miss (by omega)]; exact hbx j d hj
end Go.Am

set_option maxHeartbeats 8000000
set_option maxRecDepth 100000
set_option synthInstance.maxHeartbeats 4000000
set_option synthInstance.maxSize 1000000000
namespace Go.Am
open Go
attribute [local irreducible] Wp WpO WpX WpE

end Go.Am

set_option maxHeartbeats 8000000
set_option maxRecDepth 100000
set_option synthInstance.maxHeartbeats 4000000
set_option synthInstance.maxSize 100000
namespace Go.Am
open Go
attribute [local irreducible] Wp WpO WpX WpE

instance K_blIB {p : AVal} {H : AHeap} {l : List UInt8} {k : Int} {b : UInt8} [hp : BytesI H p l] [hb : IsU8 k b] : PureCon ext prog 162 [p, .int .u8 k] H 0 (.int .i64 (Lib.indexByte l b)) := ⟨fun n hn => by
 obtain ⟨k', rfl⟩ : ∃ k, n = k + 1 := ⟨n - 1, by unfold fuel0 at hn; omega⟩
 have e1 : prog 162 = some ⟨0, .ext 1, []⟩ := rfl
 refine ⟨_, H, ?_, rfl, Ext.refl H⟩
 rw [call_ext e1]
 show aIndexByte [p, .int .u8 k] H = _
 rw [hb.eq]
 show aBytesFn (fun l => .int .i64 (Lib.indexByte l (UInt8.ofNat ((b.toNat : Int)).toNat))) p H = _
 rw [aBytesFn_at]
 simp⟩
instance K_bytesIB {p : AVal} {H : AHeap} {l : List UInt8} {k : Int} {b : UInt8} [hp : BytesI H p l] [hb : IsU8 k b] : PureCon ext prog 128 [p, .int .u8 k] H 1 (.int .i64 (Lib.indexByte l b)) := ⟨by
 refine con_of (show prog 128 = some c128 from rfl) rfl rfl fun n hn => ?_
 haveI := hp.one
 refine sq ?_
 refine rg fun KF hKF => ?_
 refine mI rfl ?_
 refine WpO.nil (hKF _ _ ?_)
 refine sq ?_
 refine rg fun KF hKF => ?_
 refine Fo.mov (by simp only [↓nrmL, nrmK, Nat.reduceEqDiff, ↓reduceIte]; rfl) ?_
 refine mI rfl ?_
 refine Fo.pcall (v' := ?_) hn rfl (by simp only [↓nrmL, nrmZ, Nat.reduceEqDiff, ↓reduceIte, Nat.reduceAdd, Int.reduceBEq, Int.reduceBNe, List.map]; rfl) rfl ?hv fun _ _ => ?_; case hv => rfl
 refine mI rfl ?_
 refine WpO.nil (hKF _ _ ?_)
 refine Wp.ret ?_
 dsimp only [cond_true, cond_false]
 refine ⟨trivial, _, (by first | rfl | exact getAllC rfl rfl rfl rfl | exact getAllT rfl (getAllC rfl rfl rfl rfl) | exact getAllC rfl rfl rfl (getAllC rfl rfl rfl rfl) | exact getAllC1 rfl rfl rfl), ?_⟩
 exact ⟨rfl, Ext0.ext⟩⟩
theorem ib_some {c : UInt8} : ∀ {l : List UInt8} {i : Nat}, Lib.indexByte l c = (i : Int) → l[i]? = some c ∧ ∀ j, j < i → l[j]? ≠ some c
 | [], i, h => by simp [Lib.indexByte] at h
 | x :: l, i, h => by
  unfold Lib.indexByte at h
  split at h
  ·rename_i hx
   have : i = 0 := by omega
   subst this
   exact ⟨by rw [eq_of_beq hx]; rfl, fun j hj => by omega⟩
  ·rename_i hx
   split at h
   ·omega
   ·rename_i h1
    have h2 : Lib.indexByte l c = ((i - 1 : Nat) : Int) ∧ 0 < i := by
     have := Lib.indexByte_ge l c
     have h3 : Lib.indexByte l c ≠ -1 := fun e => h1 (by rw [e]; rfl)
     omega
    obtain ⟨g1, g2⟩ := ib_some h2.1
    obtain ⟨k, rfl⟩ : ∃ k, i = k + 1 := ⟨i - 1, by omega⟩
    refine ⟨g1, fun j hj => ?_⟩
    cases j with
    | zero => intro e; simp at e; rw [e] at hx; simp at hx
    | succ j => exact g2 j (by omega)
theorem ib_none {c : UInt8} : ∀ {l : List UInt8}, Lib.indexByte l c < 0 → ∀ j : Nat, l[j]? ≠ some c
 | [], _, j => by simp
 | x :: l, h, j => by
  unfold Lib.indexByte at h
  split at h
  ·omega
  ·rename_i hx
   split at h
   ·rename_i h1
    have h2 : Lib.indexByte l c < 0 := by rw [eq_of_beq h1]; decide
    cases j with
    | zero => intro e; simp at e; rw [e] at hx; simp at hx
    | succ j => exact ib_none h2 j
   ·rename_i h1
    have := Lib.indexByte_ge l c
    have h3 : Lib.indexByte l c ≠ -1 := fun e => h1 (by rw [e]; rfl)
    omega
theorem getD_some {l : List UInt8} {j : Nat} {c : UInt8} : l[j]? = some c → l.getD j 0 = c := fun h => by rw [List.getD_eq_getElem?_getD, h]; rfl
theorem getD_one {l : List UInt8} {j : Nat} (h : l[j]? ≠ some 1) : l.getD j 0 ≠ 1 := fun e => by
 rw [List.getD_eq_getElem?_getD] at e
 cases hj : l[j]? with
 | none => rw [hj] at e; cases e
 | some x => rw [hj] at e; exact h (by rw [hj]; exact congrArg some e)
theorem drop_get {l : List UInt8} {i n j : Nat} (h : i + n = l.length) : ((l.drop i).take n)[j]? = l[i + j]? := by
 rw [List.getElem?_take, List.getElem?_drop]
 split
 ·rfl
 ·rw [List.getElem?_eq_none (by omega)]
end Go.Am

set_option maxHeartbeats 8000000
set_option maxRecDepth 100000
set_option synthInstance.maxHeartbeats 4000000
set_option synthInstance.maxSize 100000
namespace Go.Am
open Go
attribute [local irreducible] Wp WpO WpX WpE

/-- How the heap stands while an image is thinned. -/
structure TH (H : AHeap) (a b : Nat) (p q d : AVal) (r1 r2 r5 : Nat) (r D : List UInt8) (H2 : AHeap) : Prop where
 bq : BytesI H2 q r
 wq : WrS H2 q
 bd : BytesI H2 d D
 wd : WrS H2 d
 g1 : HasRow H2 r1 [.int .i64 a, .int .i64 b, p] true (2 * 24)
 g2 : HasRow H2 r2 [.int .i64 0, .int .i64 0, .nslice] true (2 * 24)
 g5 : HasRow H2 r5 [.int .i64 a, .int .i64 b, q] true (2 * 24)
 ext : Ext H H2

theorem K_ThinV {a b : Nat} {p : AVal} {H : AHeap} {l : List UInt8} [hp : BytesI H p l] [ht : Tabs H] (ok : Ok a b l) : Con ext prog 5 70 [.agg [.int .i64 a, .int .i64 b, p]] H fun v H' => ∃ r m, r = thinN a b l m ∧ passT a b r (a * b) = r ∧ InkRes H H' v (⟨a, b, r⟩, 0) := by
 refine con_of (show prog 70 = some c70 from rfl) rfl rfl fun n hn => ?_
 haveI := hp.one
 have ee := ok.err
 have hsh := ok.short
 have hwa := ok.wa
 have hhb := ok.hb
 have hab : a * b ≤ 640 * 640 := Nat.mul_le_mul hwa hhb
 refine sq ?_
 refine rg fun KF hKF => ?_
 refine Fo.boxA rfl ?_
 refine Fo.new ?_
 refine mI rfl ?_
 refine WpO.nil (hKF _ _ ?_)
 dsimp only [cond_true, cond_false]
 refine Wp.scope ?_
 try simp only [↓nrmL, nrmZ, Nat.reduceEqDiff, ↓reduceIte, Nat.reduceAdd, Int.reduceBEq, Int.reduceBNe, ee]
 refine sq ?_
 refine sq ?_
 refine rg fun KF hKF => ?_
 refine Fo.ldN rfl rfl (by simp only [↓nrmL, nrmZ, Nat.reduceEqDiff, ↓reduceIte, Nat.reduceAdd, Int.reduceBEq, Int.reduceBNe, ee]; rfl) ?_
 refine Fo.pcall (v' := ?_) hn rfl (by simp only [↓nrmL, nrmZ, Nat.reduceEqDiff, ↓reduceIte, Nat.reduceAdd, Int.reduceBEq, Int.reduceBNe, ee, List.map]; rfl) rfl ?hv fun _ _ => ?_; case hv => (simp only [↓nrmL, nrmZ, Nat.reduceEqDiff, ↓reduceIte, Nat.reduceAdd, Int.reduceBEq, Int.reduceBNe, ee]; rfl)
 refine mI rfl ?_
 refine WpO.nil (hKF _ _ ?_)
 refine sq ?_
 refine rg fun KF hKF => ?_
 refine mI rfl ?_
 refine Fo.bin rfl rfl rfl (by simp only [↓nrmL, nrmZ, Nat.reduceEqDiff, ↓reduceIte, Nat.reduceAdd, Int.reduceBEq, Int.reduceBNe, ee]; rfl) ?_
 refine WpO.nil (hKF _ _ ?_)
 refine Wp.cond (b := false) rfl ?_
 refine Wp.skip ?_
 refine sq ?_
 refine rg fun KF hKF => ?_
 refine Fo.ldN rfl rfl (by simp only [↓nrmL, nrmZ, Nat.reduceEqDiff, ↓reduceIte, Nat.reduceAdd, Int.reduceBEq, Int.reduceBNe, ee]; rfl) ?_
 rename AHeap => Hc
 rename ExtI _ Hc => hxc
 have hc2 : (H.push (.row [.int .i64 a, .int .i64 b, p] true (2 * 24))).n < Hc.n := hxc.ext.n
 refine WpO.do (WpX.conD hn rfl rfl (by simp only [↓nrmL, nrmZ, Nat.reduceEqDiff, ↓reduceIte, Nat.reduceAdd, Int.reduceBEq, Int.reduceBNe, List.map] <;> rfl) (K_twin (l := l) (by omega)) fun v H1 h5 => ?_)
 obtain ⟨q, e1, hq, hfq, hwq, hxq⟩ := h5
 subst e1
 try dsimp only at hq
 haveI : ExtI _ H1 := ⟨hxq⟩
 haveI := hq.one
 refine Fo.new ?_
 refine Fo.st rfl (rfl : _ = AVal.agg _) rfl rfl rfl (by repeat (first | rfl | refine allOne_cons ?_)) (by simp only [↓nrmL, nrmZ, Nat.reduceEqDiff, ↓reduceIte, Nat.reduceAdd, Int.reduceBEq, Int.reduceBNe]; rfl) ?_
 refine WpO.nil (hKF _ _ ?_)
 refine sq ?_
 refine rg fun KF hKF => ?_
 refine Fo.fa rfl ?_
 refine Fo.ld rfl rfl ?_
 dsimp only [cond_true, cond_false]
 refine WpO.do (WpX.conD hn rfl rfl (by simp only [↓nrmL, nrmZ, Nat.reduceEqDiff, ↓reduceIte, Nat.reduceAdd, Int.reduceBEq, Int.reduceBNe, List.map] <;> rfl) (K_Clone (l := l) (by omega)) fun d H2 h5 => ?_)
 obtain ⟨hd, hfd, hwd, hxd⟩ := h5
 haveI : ExtI _ H2 := ⟨hxd⟩
 haveI := hd.one
 have hlt1 : H.n < (H.push (.row [.int .i64 a, .int .i64 b, p] true (2 * 24))).n := Nat.lt_succ_self _
 have hqn : ∀ r off len cap sz, q = .slice r off len cap sz → (H.push (.row [.int .i64 a, .int .i64 b, p] true (2 * 24))).n < r ∧ r < H1.n := fun r off len cap sz e => ⟨Nat.lt_of_lt_of_le hc2 (hfq.ge _ _ _ _ _ e), hq.lt e⟩
 have hdn : ∀ r off len cap sz, d = .slice r off len cap sz → H1.n < r := fun r off len cap sz e => hfd.ge _ _ _ _ _ e
 haveI : SepS q d := ⟨fun r off len cap sz r' off' len' cap' sz' e e' => by have := hqn _ _ _ _ _ e; have := hdn _ _ _ _ _ e'; omega⟩
 haveI : SepS d q := ⟨fun r off len cap sz r' off' len' cap' sz' e e' => by have := hqn _ _ _ _ _ e'; have := hdn _ _ _ _ _ e; omega⟩
 haveI : RowNe q H.n := ⟨fun r off len cap sz e => by have := hqn _ _ _ _ _ e; omega⟩
 haveI : RowNe q (H.push (.row [.int .i64 a, .int .i64 b, p] true (2 * 24))).n := ⟨fun r off len cap sz e => by have := hqn _ _ _ _ _ e; omega⟩
 haveI : RowNe q H1.n := ⟨fun r off len cap sz e => by have := hqn _ _ _ _ _ e; omega⟩
 have hH1 : (H.push (.row [.int .i64 a, .int .i64 b, p] true (2 * 24))).n < H1.n := by
  exact Nat.lt_of_lt_of_le hc2 hxq.n
 haveI : RowNe d H.n := ⟨fun r off len cap sz e => by have := hdn _ _ _ _ _ e; omega⟩
 haveI : RowNe d (H.push (.row [.int .i64 a, .int .i64 b, p] true (2 * 24))).n := ⟨fun r off len cap sz e => by have := hdn _ _ _ _ _ e; omega⟩
 haveI : RowNe d H1.n := ⟨fun r off len cap sz e => by have := hdn _ _ _ _ _ e; omega⟩
 have hz : RowNe d 0 := ⟨fun r off len cap sz e => by have := hdn _ _ _ _ _ e; omega⟩
 haveI : FreshS H q := ⟨fun r off len cap sz e => by have := hqn _ _ _ _ _ e; omega⟩
 haveI : FreshS H d := ⟨fun r off len cap sz e => by have := hdn _ _ _ _ _ e; omega⟩
 clear hqn hdn hfq hfd
 have hth0 : TH H a b p q d H.n (H.push (.row [.int .i64 a, .int .i64 b, p] true (2 * 24))).n H1.n l l H2 := ⟨inferInstance, inferInstance, inferInstance, inferInstance, inferInstance, inferInstance, inferInstance, Ext0.ext⟩
 refine Fo.mov (by simp only [↓nrmL, nrmK, Nat.reduceEqDiff, ↓reduceIte]; rfl) ?_
 refine WpO.nil (hKF _ _ ?_)
 refine sq ?_
 refine Wp.label ?_
 refine sq ?_
 refine Wp.block ?_
 dsimp only [cond_true, cond_false]
 refine Wp.loopS [7, 8, 20, 21, 22, 23, 24, 25, 26, 27, 28, 29, 30, 31, 32, 33, 34, 35, 36, 37, 38, 39, 40, 41, 42, 43, 44, 45, 46, 47, 48, 49, 50, 51, 52, 53, 54, 55, 56, 57, 58, 59, 60, 61, 62, 63, 64] (fun _ : List UInt8 × List UInt8 => []) (fun _ s H3 => (∃ m, s.1 = thinN a b l m) ∧ TInv a b s.1 s.1 s.2 0 ∧ TH H a b p q d H.n (H.push (.row [.int .i64 a, .int .i64 b, p] true (2 * 24))).n H1.n s.1 s.2 H3) (fun s => 2 * s.1.count 1 + (if 1 ∈ s.2 then 1 else 0)) (l, l) rfl (fun _ => rfl) trivial ⟨⟨0, rfl⟩, TInv.first ok, hth0⟩ (by
  have := List.count_le_length (a := (1 : UInt8)) (l := l)
  unfold fuel0 at hn
  dsimp only
  split <;> omega) ?_
 rintro ⟨r0, D0⟩ g H3 ⟨⟨m0, hm0⟩, hinv0, hth⟩
 dsimp only at hm0 hinv0 hth
 clear hth0
 simp only [↓nrmL, nrmZ, Nat.reduceEqDiff, ↓reduceIte, Nat.reduceAdd, Int.reduceBEq, Int.reduceBNe]
 refine Wp.block ?_
 refine sq ?_
 refine rg fun KF hKF => ?_
 refine mI rfl ?_
 refine WpO.nil (hKF _ _ ?_)
 refine Wp.block ?_
 dsimp only [cond_true, cond_false]
 refine Wp.loopS [7, 8, 20, 21, 22, 23, 24, 25, 26, 27, 28, 29, 30, 31, 32, 33, 34, 35, 36, 37, 38, 39, 40, 41, 42, 43, 44, 45, 46, 47, 48, 49, 50, 51, 52, 53, 54, 55, 56, 57, 58, 59, 60, 61, 62, 63, 64] (fun s : Nat × List UInt8 × List UInt8 => [(7, .int .i64 (s.1 : Int))]) (fun _ s H4 => TInv a b r0 s.2.1 s.2.2 s.1 ∧ (s.1 = 0 ∧ s.2.1 = r0 ∧ s.2.2 = D0 ∨ 1 ∈ D0) ∧ TH H a b p q d H.n (H.push (.row [.int .i64 a, .int .i64 b, p] true (2 * 24))).n H1.n s.2.1 s.2.2 H4) (fun s => a * b + 1 - s.1) (0, r0, D0) rfl (fun _ => rfl) ⟨rfl, trivial⟩ ⟨hinv0, Or.inl ⟨rfl, rfl, rfl⟩, hth⟩ (by unfold fuel0 at hn; dsimp only; omega) ?_
 rintro ⟨i, r, D⟩ gg H4 ⟨hti, hdue, hth4⟩
 dsimp only at hti hdue hth4
 clear hth hinv0
 obtain ⟨bq, wq, bd, wd, g1, g2, g5, hx⟩ := hth4
 haveI : Ext0 H H4 := ⟨hx⟩
 haveI : ExtI H H4 := ⟨hx⟩
 have hDl := hti.len
 have hile := hti.hi
 simp only [↓nrmL, nrmZ, Nat.reduceEqDiff, ↓reduceIte, Nat.reduceAdd, Int.reduceBEq, Int.reduceBNe]
 refine sq ?_
 refine Wp.block ?_
 refine sq ?_
 refine rg fun KF hKF => ?_
 refine Fo.mov (by simp only [↓nrmL, nrmK, Nat.reduceEqDiff, ↓reduceIte]; rfl) ?_
 refine mI rfl ?_
 refine Fo.slc (p := d) (l := D) (a := i) (b := D.length) rfl (Or.inr ⟨_, rfl⟩) (Or.inl ⟨rfl, rfl⟩) (by omega) (Nat.le_refl _) fun v H5 k1 k2 hx5 => ?_
 haveI := k2.one
 obtain ⟨N, hN⟩ : ∃ N, Lib.indexByte ((D.drop i).take (D.length - i)) 1 = N := ⟨_, rfl⟩
 have hget : ∀ j, ((D.drop i).take (D.length - i))[j]? = D[i + j]? := fun j => drop_get (by omega)
 cases hneg : decide (N < 0)
 ·obtain ⟨kk, rfl⟩ : ∃ kk : Nat, N = kk := ⟨N.toNat, by have := of_decide_eq_false hneg; omega⟩
  obtain ⟨h1, h2⟩ := ib_some hN
  rw [hget] at h1
  obtain ⟨j, hj⟩ : ∃ j, i + kk = j := ⟨_, rfl⟩
  rw [hj] at h1
  have hDj : D.getD j 0 = 1 := getD_some h1
  have hbef : ∀ k, i ≤ k → k < j → D.getD k 0 ≠ 1 := fun k g1' g2' => getD_one (by
   have := h2 (k - i) (by omega)
   rw [hget, show i + (k - i) = k by omega] at this
   exact this)
  obtain ⟨hjl, hrj⟩ := hti.skip (by omega) hDj hbef
  have hd0 : 1 ∈ D0 := by
   rcases hdue with ⟨_, _, e⟩ | e
   ·rw [← e]; exact List.mem_of_getElem? h1
   ·exact e
  have wij : IntKind.i64.wrap ((i : Int) + (kk : Int)) = (j : Int) := by rw [w64 (by omega)]; omega
  have hw1 := wa1 (a := j) (by omega)
  have hjs : j < D.length := by omega
  have hrl := hti.ok.len
  try simp only [↓nrmL, nrmZ, Nat.reduceEqDiff, ↓reduceIte, Nat.reduceAdd, Int.reduceBEq, Int.reduceBNe, hN, hneg, wij]
  refine Fo.pcall (v' := ?_) hn rfl (by simp only [↓nrmL, nrmZ, Nat.reduceEqDiff, ↓reduceIte, Nat.reduceAdd, Int.reduceBEq, Int.reduceBNe, hN, hneg, wij, List.map]; rfl) rfl ?hv fun _ _ => ?_; case hv => (simp only [↓nrmL, nrmZ, Nat.reduceEqDiff, ↓reduceIte, Nat.reduceAdd, Int.reduceBEq, Int.reduceBNe, hN, hneg, wij]; rfl)
  refine mI rfl ?_
  refine WpO.nil (hKF _ _ ?_)
  refine sq ?_
  refine sq ?_
  refine rg fun KF hKF => ?_
  refine mI rfl ?_
  refine Fo.bin rfl rfl rfl (by simp only [↓nrmL, nrmZ, Nat.reduceEqDiff, ↓reduceIte, Nat.reduceAdd, Int.reduceBEq, Int.reduceBNe, hN, hneg, wij]; rfl) ?_
  refine mB rfl ?_
  refine Fo.no rfl rfl ?_
  refine Fo.no rfl rfl ?_
  refine fB rfl rfl ?_
  refine WpO.nil (hKF _ _ ?_)
  refine Wp.cond (b := false) rfl ?_
  refine Wp.skip ?_
  refine sq ?_
  refine sq ?_
  refine rg fun KF hKF => ?_
  refine mI rfl ?_
  refine Fo.bin rfl rfl rfl (by simp only [↓nrmL, nrmZ, Nat.reduceEqDiff, ↓reduceIte, Nat.reduceAdd, Int.reduceBEq, Int.reduceBNe, hN, hneg, wij]; rfl) ?_
  refine WpO.nil (hKF _ _ ?_)
  refine Wp.cond (b := false) rfl ?_
  refine Wp.skip ?_
  refine sq ?_
  refine rg fun KF hKF => ?_
  refine mI rfl ?_
  refine mI rfl ?_
  refine Fo.bin rfl rfl rfl (by simp only [↓nrmL, nrmZ, Nat.reduceEqDiff, ↓reduceIte, Nat.reduceAdd, Int.reduceBEq, Int.reduceBNe, hN, hneg, wij]; rfl) ?_
  refine mI rfl ?_
  refine WpO.nil (hKF _ _ ?_)
  refine sq ?_
  refine rg fun KF hKF => ?_
  refine Fo.mov (by simp only [↓nrmL, nrmK, Nat.reduceEqDiff, ↓reduceIte]; rfl) ?_
  refine mI rfl ?_
  refine Fo.idx (by simp only [↓nrmL, nrmK, Nat.reduceEqDiff, ↓reduceIte]; rfl) rfl ?_ (by simp only [↓nrmL, nrmZ, Nat.reduceEqDiff, ↓reduceIte, Nat.reduceAdd, Int.reduceBEq, Int.reduceBNe, hN, hneg, wij]; rfl) ?_; (focus omega)
  refine WpO.do' (WpX.stB (p := d) (j := j) (l := D) 0 rfl rfl rfl hjs fun H6 hb6 hw6 hx6 => ?_)
  refine WpO.nil (hKF _ _ ?_)
  refine sq ?_
  dsimp only [cond_true, cond_false]
  obtain ⟨ha0, hjm, hjd, _⟩ := div_lt hjl
  obtain ⟨a, rfl⟩ : ∃ a', a = a' + 1 := ⟨a - 1, by omega⟩
  have t1 : ((j : Nat) : Int).tmod ((a + 1 : Nat) : Int) = ((j % (a + 1) : Nat) : Int) := rfl
  have t3 : ∀ y : Nat, y < b → IntKind.i64.wrap ((y : Nat) : Int) = ((y : Nat) : Int) := fun y hy => w64 (by omega)
  have t2 : IntKind.i64.wrap (((j : Nat) : Int).tdiv ((a + 1 : Nat) : Int)) = ((j / (a + 1) : Nat) : Int) := by
   rw [show ((j : Nat) : Int).tdiv ((a + 1 : Nat) : Int) = ((j / (a + 1) : Nat) : Int) from rfl]
   exact t3 _ hjd
  haveI : Fits (a + 1 : Nat) b r := ⟨hti.ok.sized⟩
  haveI : Fits (a + 1 : Nat) b (r.set j 0) := ⟨hti.ok.set0.sized⟩
  refine Fr.dregion0 rfl fun KF hKF => ?_
  try simp only [↓nrmL, nrmZ, Nat.reduceEqDiff, ↓reduceIte, Nat.reduceAdd, Int.reduceBEq, Int.reduceBNe, t1, t2]
  refine Fe.read rfl (exec_ldN rfl rfl (by simp only [↓nrmL, nrmZ, Nat.reduceEqDiff, ↓reduceIte, Nat.reduceAdd, Int.reduceBEq, Int.reduceBNe, t1, t2]; rfl)) rfl (by repeat (first | exact trivial | refine ⟨(by first | exact Or.inl (by dsimp only; decide) | exact Or.inr (exec_ld rfl rfl) | exact Or.inr (exec_ldN rfl rfl rfl) | exact Or.inr (exec_ldB rfl (by omega)) | exact Or.inr (exec_ldI rfl (by omega)) | exact Or.inr ghost_of), ?_⟩)) ?_
  refine Fe.pure rfl rfl (by simp only [↓nrmL, nrmZ, Nat.reduceEqDiff, ↓reduceIte, Nat.reduceAdd, Int.reduceBEq, Int.reduceBNe, t1, t2]; rfl) ?_
  refine Fe.pure rfl rfl (by simp only [↓nrmL, nrmZ, Nat.reduceEqDiff, ↓reduceIte, Nat.reduceAdd, Int.reduceBEq, Int.reduceBNe, t1, t2]; rfl) ?_
  refine Fe.read rfl (exec_ld rfl rfl) rfl (by repeat (first | exact trivial | refine ⟨(by first | exact Or.inl (by dsimp only; decide) | exact Or.inr (exec_ld rfl rfl) | exact Or.inr (exec_ldN rfl rfl rfl) | exact Or.inr (exec_ldB rfl (by omega)) | exact Or.inr (exec_ldI rfl (by omega)) | exact Or.inr ghost_of), ?_⟩)) ?_
  refine Fe.pure rfl rfl (by simp only [↓nrmL, nrmZ, Nat.reduceEqDiff, ↓reduceIte, Nat.reduceAdd, Int.reduceBEq, Int.reduceBNe, t1, t2]; rfl) ?_
  refine Fe.pure rfl rfl (by simp only [↓nrmL, nrmZ, Nat.reduceEqDiff, ↓reduceIte, Nat.reduceAdd, Int.reduceBEq, Int.reduceBNe, t1, t2]; rfl) ?_
  refine Fe.pure rfl rfl (by simp only [↓nrmL, nrmZ, Nat.reduceEqDiff, ↓reduceIte, Nat.reduceAdd, Int.reduceBEq, Int.reduceBNe, t1, t2]; rfl) ?_
  refine Fe.read rfl (exec_ld rfl rfl) rfl (by repeat (first | exact trivial | refine ⟨(by first | exact Or.inl (by dsimp only; decide) | exact Or.inr (exec_ld rfl rfl) | exact Or.inr (exec_ldN rfl rfl rfl) | exact Or.inr (exec_ldB rfl (by omega)) | exact Or.inr (exec_ldI rfl (by omega)) | exact Or.inr ghost_of), ?_⟩)) ?_
  refine Fe.pure rfl rfl (by simp only [↓nrmL, nrmZ, Nat.reduceEqDiff, ↓reduceIte, Nat.reduceAdd, Int.reduceBEq, Int.reduceBNe, t1, t2]; rfl) ?_
  refine Fe.con rfl hn rfl rfl (by simp only [↓nrmL, nrmZ, Nat.reduceEqDiff, ↓reduceIte, Nat.reduceAdd, Int.reduceBEq, Int.reduceBNe, List.map, t1, t2] <;> rfl) (K_goes (a := a + 1) (b := b) (l := r) (x := j % (a + 1)) (y := j / (a + 1)) (by omega) (by omega)) fun v2 H7 h5 => ?_
  obtain ⟨e2, hx7⟩ := h5
  haveI : ExtI _ H7 := ⟨hx7⟩
  subst e2
  refine ⟨(by repeat (first | exact trivial | refine ⟨(by first | exact Or.inl (by dsimp only; decide) | exact Or.inr (readOk_of (exec_ld rfl rfl)) | exact Or.inr (readOk_of (exec_ldN rfl rfl rfl)) | exact Or.inr (readOk_of (exec_ldB rfl (by omega))) | exact Or.inr (readOk_of (exec_ldI rfl (by omega))) | exact Or.inr (made_of rfl)), ?_⟩)), ?_⟩
  refine WpE.nil (hKF _ _ ?_)
  cases hg : goesB (ringF (a + 1) b r ((j % (a + 1) : Nat) : Int) ((j / (a + 1) : Nat) : Int))
  ·skip
   refine Wp.cond (b := false) rfl ?_
   refine Wp.skip ?_
   refine rg fun KF hKF => ?_
   refine mI rfl ?_
   refine Fo.bin rfl rfl rfl rfl ?_
   refine mI rfl ?_
   refine WpO.nil (hKF _ _ ?_)
   dsimp only [cond_true, cond_false]
   refine ⟨(j + 1, r, D.set j 0), by dsimp only; omega, ⟨by simp only [↓nrmL, nrmZ, Nat.reduceEqDiff, ↓reduceIte, Nat.reduceAdd, Int.reduceBEq, Int.reduceBNe]; rw [hw1], trivial⟩, hti.stay (by omega) hDj hbef hg, Or.inr hd0, ⟨inferInstance, inferInstance, inferInstance, inferInstance, inferInstance, inferInstance, inferInstance, Ext0.ext⟩⟩
  ·skip
   refine Wp.cond (b := true) rfl ?_
   refine sq ?_
   refine rg fun KF hKF => ?_
   refine Fo.fa rfl ?_
   refine Fo.ld rfl rfl ?_
   refine mI rfl ?_
   refine Fo.idx (by simp only [↓nrmL, nrmK, Nat.reduceEqDiff, ↓reduceIte]; rfl) rfl ?_ (by simp only [↓nrmL, nrmZ, Nat.reduceEqDiff, ↓reduceIte, Nat.reduceAdd, Int.reduceBEq, Int.reduceBNe]; rfl) ?_; (focus omega)
   refine WpO.do' (WpX.stB (p := q) (j := j) (l := r) 0 rfl rfl rfl (by omega) fun H8 hb8 hw8 hx8 => ?_)
   refine WpO.nil (hKF _ _ ?_)
   dsimp only [cond_true, cond_false]
   refine Fr.dregion0 rfl fun KF hKF => ?_
   try simp only [↓nrmL, nrmZ, Nat.reduceEqDiff, ↓reduceIte, Nat.reduceAdd, Int.reduceBEq, Int.reduceBNe, t1, t2]
   refine Fe.read rfl (exec_ldN rfl rfl (by simp only [↓nrmL, nrmZ, Nat.reduceEqDiff, ↓reduceIte, Nat.reduceAdd, Int.reduceBEq, Int.reduceBNe, t1, t2]; rfl)) rfl (by repeat (first | exact trivial | refine ⟨(by first | exact Or.inl (by dsimp only; decide) | exact Or.inr (exec_ld rfl rfl) | exact Or.inr (exec_ldN rfl rfl rfl) | exact Or.inr (exec_ldB rfl (by omega)) | exact Or.inr (exec_ldI rfl (by omega)) | exact Or.inr ghost_of), ?_⟩)) ?_
   refine Fe.pure rfl rfl (by simp only [↓nrmL, nrmZ, Nat.reduceEqDiff, ↓reduceIte, Nat.reduceAdd, Int.reduceBEq, Int.reduceBNe, t1, t2]; rfl) ?_
   refine Fe.pure rfl rfl (by simp only [↓nrmL, nrmZ, Nat.reduceEqDiff, ↓reduceIte, Nat.reduceAdd, Int.reduceBEq, Int.reduceBNe, t1, t2]; rfl) ?_
   refine Fe.pure rfl rfl (by simp only [↓nrmL, nrmZ, Nat.reduceEqDiff, ↓reduceIte, Nat.reduceAdd, Int.reduceBEq, Int.reduceBNe, t1, t2]; rfl) ?_
   refine Fe.read rfl (exec_ld rfl rfl) rfl (by repeat (first | exact trivial | refine ⟨(by first | exact Or.inl (by dsimp only; decide) | exact Or.inr (exec_ld rfl rfl) | exact Or.inr (exec_ldN rfl rfl rfl) | exact Or.inr (exec_ldB rfl (by omega)) | exact Or.inr (exec_ldI rfl (by omega)) | exact Or.inr ghost_of), ?_⟩)) ?_
   refine Fe.pure rfl rfl (by simp only [↓nrmL, nrmZ, Nat.reduceEqDiff, ↓reduceIte, Nat.reduceAdd, Int.reduceBEq, Int.reduceBNe, t1, t2]; rfl) ?_
   refine Fe.pure rfl rfl (by simp only [↓nrmL, nrmZ, Nat.reduceEqDiff, ↓reduceIte, Nat.reduceAdd, Int.reduceBEq, Int.reduceBNe, t1, t2]; rfl) ?_
   refine Fe.pure rfl rfl (by simp only [↓nrmL, nrmZ, Nat.reduceEqDiff, ↓reduceIte, Nat.reduceAdd, Int.reduceBEq, Int.reduceBNe, t1, t2]; rfl) ?_
   refine Fe.read rfl (exec_ld rfl rfl) rfl (by repeat (first | exact trivial | refine ⟨(by first | exact Or.inl (by dsimp only; decide) | exact Or.inr (exec_ld rfl rfl) | exact Or.inr (exec_ldN rfl rfl rfl) | exact Or.inr (exec_ldB rfl (by omega)) | exact Or.inr (exec_ldI rfl (by omega)) | exact Or.inr ghost_of), ?_⟩)) ?_
   refine Fe.pure rfl rfl (by simp only [↓nrmL, nrmZ, Nat.reduceEqDiff, ↓reduceIte, Nat.reduceAdd, Int.reduceBEq, Int.reduceBNe, t1, t2]; rfl) ?_
   refine Fe.con rfl hn rfl rfl (by simp only [↓nrmL, nrmZ, Nat.reduceEqDiff, ↓reduceIte, Nat.reduceAdd, Int.reduceBEq, Int.reduceBNe, List.map, t1, t2] <;> rfl) (K_disturb (a := a + 1) (b := b) (l := r.set j 0) (D := D.set j 0) (x := j % (a + 1)) (y := j / (a + 1)) hz (by rw [List.length_set]; exact hDl) hwa hhb (by omega) (by omega)) fun v3 H9 h5 => ?_
   obtain ⟨hb9, hw9, hx9⟩ := h5
   refine ⟨(by repeat (first | exact trivial | refine ⟨(by first | exact Or.inl (by dsimp only; decide) | exact Or.inr (readOk_of (exec_ld rfl rfl)) | exact Or.inr (readOk_of (exec_ldN rfl rfl rfl)) | exact Or.inr (readOk_of (exec_ldB rfl (by omega))) | exact Or.inr (readOk_of (exec_ldI rfl (by omega))) | exact Or.inr (made_of rfl)), ?_⟩)), ?_⟩
   refine WpE.nil (hKF _ _ ?_)
   refine rg fun KF hKF => ?_
   refine mI rfl ?_
   refine Fo.bin rfl rfl rfl rfl ?_
   refine mI rfl ?_
   refine WpO.nil (hKF _ _ ?_)
   dsimp only [cond_true, cond_false]
   refine ⟨(j + 1, r.set j 0, dstL (a + 1) b (r.set j 0) ((j % (a + 1) : Nat) : Int) ((j / (a + 1) : Nat) : Int) 8 (D.set j 0)), by dsimp only; omega, ⟨by simp only [↓nrmL, nrmZ, Nat.reduceEqDiff, ↓reduceIte, Nat.reduceAdd, Int.reduceBEq, Int.reduceBNe]; rw [hw1], trivial⟩, hti.gone (by omega) hDj hbef hg, Or.inr hd0, ⟨inferInstance, inferInstance, inferInstance, inferInstance, inferInstance, inferInstance, inferInstance, Ext0.ext⟩⟩
 ·have hno : ∀ k, i ≤ k → D.getD k 0 ≠ 1 := fun k hk => getD_one (by
   have := ib_none (l := (D.drop i).take (D.length - i)) (c := 1) (by rw [hN]; exact of_decide_eq_true hneg) (k - i)
   rw [hget, show i + (k - i) = k by omega] at this
   exact this)
  cases hiz : ((i : Int) == 0)
  ·have hi0 : i ≠ 0 := fun e => by rw [e] at hiz; cases hiz
   obtain ⟨f1, f2, f3⟩ := hti.round hno
   try simp only [↓nrmL, nrmZ, Nat.reduceEqDiff, ↓reduceIte, Nat.reduceAdd, Int.reduceBEq, Int.reduceBNe, hN, hneg, hiz]
   refine Fo.pcall (v' := ?_) hn rfl (by simp only [↓nrmL, nrmZ, Nat.reduceEqDiff, ↓reduceIte, Nat.reduceAdd, Int.reduceBEq, Int.reduceBNe, hN, hneg, hiz, List.map]; rfl) rfl ?hv fun _ _ => ?_; case hv => (simp only [↓nrmL, nrmZ, Nat.reduceEqDiff, ↓reduceIte, Nat.reduceAdd, Int.reduceBEq, Int.reduceBNe, hN, hneg, hiz]; rfl)
   refine mI rfl ?_
   refine WpO.nil (hKF _ _ ?_)
   refine sq ?_
   refine sq ?_
   refine rg fun KF hKF => ?_
   refine mI rfl ?_
   refine Fo.bin rfl rfl rfl (by simp only [↓nrmL, nrmZ, Nat.reduceEqDiff, ↓reduceIte, Nat.reduceAdd, Int.reduceBEq, Int.reduceBNe, hN, hneg, hiz]; rfl) ?_
   refine mB rfl ?_
   refine Fo.yes rfl rfl ?_
   refine mI rfl ?_
   refine Fo.yes rfl rfl ?_
   refine Fo.bin rfl rfl rfl (by simp only [↓nrmL, nrmZ, Nat.reduceEqDiff, ↓reduceIte, Nat.reduceAdd, Int.reduceBEq, Int.reduceBNe, hN, hneg, hiz]; rfl) ?_
   refine tB rfl rfl ?_
   refine WpO.nil (hKF _ _ ?_)
   refine Wp.cond (b := false) rfl ?_
   refine Wp.skip ?_
   refine sq ?_
   refine sq ?_
   refine rg fun KF hKF => ?_
   refine mI rfl ?_
   refine Fo.bin rfl rfl rfl (by simp only [↓nrmL, nrmZ, Nat.reduceEqDiff, ↓reduceIte, Nat.reduceAdd, Int.reduceBEq, Int.reduceBNe, hN, hneg, hiz]; rfl) ?_
   refine WpO.nil (hKF _ _ ?_)
   refine Wp.cond (b := true) rfl ?_
   refine Wp.exit ?_
   dsimp only [cond_true, cond_false]
   refine ⟨(r, D), ?_, trivial, ⟨m0 + 1, ?_⟩, f2, ⟨inferInstance, inferInstance, inferInstance, inferInstance, inferInstance, inferInstance, inferInstance, Ext0.ext⟩⟩
   ·dsimp only
    have hd0 : 1 ∈ D0 := hdue.resolve_left (fun e => hi0 e.1)
    rw [if_pos hd0]
    rcases f3 with f3 | ⟨rfl, f3⟩
    ·split <;> omega
    ·rw [if_neg]
     ·omega
     ·intro hmem
      obtain ⟨k, hk⟩ := List.getElem?_of_mem hmem
      exact f3 k (getD_some hk)
   ·show r = passT a b (thinN a b l m0) (a * b)
    rw [← hm0]; exact f1.symm
  ·have hi0 : i = 0 := by have := eq_of_beq hiz; omega
   subst hi0
   have hr : r = r0 := hti.eq
   try simp only [↓nrmL, nrmZ, Nat.reduceEqDiff, ↓reduceIte, Nat.reduceAdd, Int.reduceBEq, Int.reduceBNe, hN, hneg, hiz]
   refine Fo.pcall (v' := ?_) hn rfl (by simp only [↓nrmL, nrmZ, Nat.reduceEqDiff, ↓reduceIte, Nat.reduceAdd, Int.reduceBEq, Int.reduceBNe, hN, hneg, hiz, List.map]; rfl) rfl ?hv fun _ _ => ?_; case hv => (simp only [↓nrmL, nrmZ, Nat.reduceEqDiff, ↓reduceIte, Nat.reduceAdd, Int.reduceBEq, Int.reduceBNe, hN, hneg, hiz]; rfl)
   refine mI rfl ?_
   refine WpO.nil (hKF _ _ ?_)
   refine sq ?_
   refine sq ?_
   refine rg fun KF hKF => ?_
   refine mI rfl ?_
   refine Fo.bin rfl rfl rfl (by simp only [↓nrmL, nrmZ, Nat.reduceEqDiff, ↓reduceIte, Nat.reduceAdd, Int.reduceBEq, Int.reduceBNe, hN, hneg, hiz]; rfl) ?_
   refine mB rfl ?_
   refine Fo.yes rfl rfl ?_
   refine mI rfl ?_
   refine Fo.yes rfl rfl ?_
   refine Fo.bin rfl rfl rfl (by simp only [↓nrmL, nrmZ, Nat.reduceEqDiff, ↓reduceIte, Nat.reduceAdd, Int.reduceBEq, Int.reduceBNe, hN, hneg, hiz]; rfl) ?_
   refine tB rfl rfl ?_
   refine WpO.nil (hKF _ _ ?_)
   refine Wp.cond (b := true) rfl ?_
   refine Wp.exit ?_
   refine sq ?_
   refine rg fun KF hKF => ?_
   refine Fo.ldN rfl rfl (by simp only [↓nrmL, nrmZ, Nat.reduceEqDiff, ↓reduceIte, Nat.reduceAdd, Int.reduceBEq, Int.reduceBNe, hN, hneg, hiz]; rfl) ?_
   refine Fo.st rfl (rfl : _ = AVal.agg _) rfl rfl rfl (by repeat (first | rfl | refine allOne_cons ?_)) (by simp only [↓nrmL, nrmZ, Nat.reduceEqDiff, ↓reduceIte, Nat.reduceAdd, Int.reduceBEq, Int.reduceBNe, hN, hneg, hiz]; rfl) ?_
   refine mI rfl ?_
   refine WpO.nil (hKF _ _ ?_)
   refine Wp.ret ?_
   dsimp only [cond_true, cond_false]
   refine ⟨trivial, _, (by first | rfl | exact getAllC rfl rfl rfl rfl | exact getAllT rfl (getAllC rfl rfl rfl rfl) | exact getAllC rfl rfl rfl (getAllC rfl rfl rfl rfl) | exact getAllC1 rfl rfl rfl), ?_⟩
   exact ⟨r, m0, by rw [hr]; exact hm0, hti.done (fun k => hno k (Nat.zero_le _)), _, rfl, q, rfl, inferInstance, inferInstance, inferInstance, Ext0.ext⟩
end Go.Am

set_option maxHeartbeats 8000000
set_option maxRecDepth 100000
set_option synthInstance.maxHeartbeats 4000000
set_option synthInstance.maxSize 1000000000
namespace Go.Am
open Go
attribute [local irreducible] Wp WpO WpX WpE

theorem K_ImageThins {s : Nat} {p : AVal} {H : AHeap} {bits : List UInt8} [hp : BytesI H p bits] [ht : Tabs H] (hs : s < 65536) : Con ext prog 9 14 [.int .u16 s, p] H fun v H' => v = .bool true ∧ Ext H H' := by
 refine con_of (show prog 14 = some c14 from rfl) rfl rfl fun n hn => ?_
 haveI := hp.one
 refine sq ?_
 refine rg fun KF hKF => ?_
 refine mB rfl ?_
 refine WpO.nil (hKF _ _ ?_)
 refine sq ?_
 refine rg fun KF hKF => ?_
 refine mI rfl ?_
 refine Fo.mov (by simp only [↓nrmL, nrmK, Nat.reduceEqDiff, ↓reduceIte]; rfl) ?_
 refine WpO.do (WpX.conD hn rfl rfl (by simp only [↓nrmL, nrmZ, Nat.reduceEqDiff, ↓reduceIte, Nat.reduceAdd, Int.reduceBEq, Int.reduceBNe, List.map] <;> rfl) (K_Made (bits := bits) hs) fun v H1 h5 => ?_)
 obtain ⟨a, b, l, _, _, ok, g, e5, hg, _, _, hx1⟩ := h5
 subst e5
 try dsimp only at hg
 haveI : ExtI _ H1 := ⟨hx1⟩
 haveI := hg.one
 have hll := ok.len
 have hab : a * b ≤ 640 * 640 := Nat.mul_le_mul ok.wa ok.hb
 obtain ⟨N, hld⟩ := lead_list l a b true
 refine Fo.new ?_
 refine Fo.st rfl (rfl : _ = AVal.agg _) rfl rfl rfl (by repeat (first | rfl | refine allOne_cons ?_)) (by simp only [↓nrmL, nrmZ, Nat.reduceEqDiff, ↓reduceIte, Nat.reduceAdd, Int.reduceBEq, Int.reduceBNe]; rfl) ?_
 refine WpO.nil (hKF _ _ ?_)
 refine sq ?_
 refine rg fun KF hKF => ?_
 refine Fo.ldN rfl rfl (by simp only [↓nrmL, nrmZ, Nat.reduceEqDiff, ↓reduceIte, Nat.reduceAdd, Int.reduceBEq, Int.reduceBNe]; rfl) ?_
 dsimp only [cond_true, cond_false]
 refine WpO.do (WpX.conD hn rfl rfl (by simp only [↓nrmL, nrmZ, Nat.reduceEqDiff, ↓reduceIte, Nat.reduceAdd, Int.reduceBEq, Int.reduceBNe, List.map] <;> rfl) (K_ThinV ok) fun v H2 h5 => ?_)
 obtain ⟨x, m1, hr1, hf1, _, e5, d2, e6, hd2, _, _, hx2⟩ := h5
 subst e5 e6
 try dsimp only at hd2
 haveI : ExtI _ H2 := ⟨hx2⟩
 haveI := hd2.one
 have okx : Ok a b x := by rw [hr1]; exact ok.thin m1
 have hlx := okx.len
 have hkept : Kept a b l x := by rw [hr1]; exact kept_thin l m1
 have hin1 : inkIn x l = true := inkIn_of okx.px ok.px fun j hj => by
  rw [hr1] at hj
  exact ink_thin m1 hj
 obtain ⟨N', hld'⟩ := lead_list x a b true
 have hlen := hkept N N' hld hld'
 refine mT rfl ?_
 refine Fo.extr rfl rfl ?_
 refine Fo.extr rfl rfl ?_
 refine Fo.new ?_
 refine Fo.st rfl (rfl : _ = AVal.agg _) rfl rfl rfl (by repeat (first | rfl | refine allOne_cons ?_)) (by simp only [↓nrmL, nrmZ, Nat.reduceEqDiff, ↓reduceIte, Nat.reduceAdd, Int.reduceBEq, Int.reduceBNe]; rfl) ?_
 refine mI rfl ?_
 refine WpO.nil (hKF _ _ ?_)
 refine sq ?_
 refine rg fun KF hKF => ?_
 refine Fo.ldN rfl rfl (by simp only [↓nrmL, nrmZ, Nat.reduceEqDiff, ↓reduceIte, Nat.reduceAdd, Int.reduceBEq, Int.reduceBNe]; rfl) ?_
 dsimp only [cond_true, cond_false]
 refine WpO.do (WpX.conD hn rfl rfl (by simp only [↓nrmL, nrmZ, Nat.reduceEqDiff, ↓reduceIte, Nat.reduceAdd, Int.reduceBEq, Int.reduceBNe, List.map] <;> rfl) (K_ThinV okx) fun v H3 h5 => ?_)
 obtain ⟨y, m2, hr2, _, _, e5, d3, e6, hd3, _, _, hx3⟩ := h5
 subst e5 e6
 try dsimp only at hd3
 haveI : ExtI _ H3 := ⟨hx3⟩
 haveI := hd3.one
 rw [hr2, thin_self hf1 m2] at hd3
 refine mT rfl ?_
 refine Fo.extr rfl rfl ?_
 refine Fo.extr rfl rfl ?_
 refine Fo.new ?_
 refine Fo.st rfl (rfl : _ = AVal.agg _) rfl rfl rfl (by repeat (first | rfl | refine allOne_cons ?_)) (by simp only [↓nrmL, nrmZ, Nat.reduceEqDiff, ↓reduceIte, Nat.reduceAdd, Int.reduceBEq, Int.reduceBNe]; rfl) ?_
 refine mI rfl ?_
 refine WpO.nil (hKF _ _ ?_)
 refine sq ?_
 refine rg fun KF hKF => ?_
 refine Fo.ldN rfl rfl (by simp only [↓nrmL, nrmZ, Nat.reduceEqDiff, ↓reduceIte, Nat.reduceAdd, Int.reduceBEq, Int.reduceBNe]; rfl) ?_
 dsimp only [cond_true, cond_false]
 refine WpO.do (WpX.conD hn rfl rfl (by simp only [↓nrmL, nrmZ, Nat.reduceEqDiff, ↓reduceIte, Nat.reduceAdd, Int.reduceBEq, Int.reduceBNe, List.map] <;> rfl) (K_Components (e := true) ok) fun v H5 h5 => ?_)
 obtain ⟨q1, K1, M5, L5, C1, e5, _, hcr1, _, hx5⟩ := h5
 subst e5
 haveI : ExtI _ H5 := ⟨hx5⟩
 have hcl1 := hcr1.cl (by omega)
 rw [pxAll_fls hcr1.lab hld] at hcl1
 haveI := hcl1.row
 haveI := hcl1.row.one
 clear hcr1
 refine mT rfl ?_
 refine Fo.extr rfl rfl ?_
 refine Fo.extr rfl rfl ?_
 refine Fo.mov (by simp only [↓nrmL, nrmK, Nat.reduceEqDiff, ↓reduceIte]; rfl) ?_
 refine mI rfl ?_
 refine WpO.nil (hKF _ _ ?_)
 refine sq ?_
 refine rg fun KF hKF => ?_
 refine Fo.ldN rfl rfl (by simp only [↓nrmL, nrmZ, Nat.reduceEqDiff, ↓reduceIte, Nat.reduceAdd, Int.reduceBEq, Int.reduceBNe]; rfl) ?_
 refine WpO.do (WpX.conD hn rfl rfl (by simp only [↓nrmL, nrmZ, Nat.reduceEqDiff, ↓reduceIte, Nat.reduceAdd, Int.reduceBEq, Int.reduceBNe, List.map] <;> rfl) (K_Components (e := true) okx) fun v H6 h5 => ?_)
 obtain ⟨q2, K2, M6, L6, C2, e5, _, hcr2, _, hx6⟩ := h5
 subst e5
 haveI : ExtI _ H6 := ⟨hx6⟩
 have hcl2 := hcr2.cl (by omega)
 rw [pxAll_fls hcr2.lab hld'] at hcl2
 haveI := hcl2.row
 haveI := hcl2.row.one
 clear hcr2
 have hshx : x.length ≤ 999999 := by omega
 haveI : Short x := ⟨hshx⟩
 have hs4 : decide ((⟨a, b, x⟩ : Img) = ⟨a, b, x⟩) = true := decide_eq_true rfl
 have heq : ((0 : Int) == 0) = true := rfl
 have hq : (((C1.length : Nat) : Int) == ((C2.length : Nat) : Int)) = true := by
  have k1 := hcl1.len
  have k2 := hcl2.len
  unfold pcs at k1 k2
  rw [List.length_map] at k1 k2
  rw [k1, k2, hlen]; exact beq_self_eq_true _
 try simp only [↓nrmL, nrmZ, Nat.reduceEqDiff, ↓reduceIte, Nat.reduceAdd, Int.reduceBEq, Int.reduceBNe, heq, hs4, hq]
 refine mT rfl ?_
 refine Fo.extr rfl rfl ?_
 refine Fo.extr rfl rfl ?_
 refine Fo.mov (by simp only [↓nrmL, nrmK, Nat.reduceEqDiff, ↓reduceIte]; rfl) ?_
 refine mI rfl ?_
 refine WpO.nil (hKF _ _ ?_)
 refine sq ?_
 refine rg fun KF hKF => ?_
 refine mI rfl ?_
 refine Fo.bin rfl rfl rfl (by simp only [↓nrmL, nrmZ, Nat.reduceEqDiff, ↓reduceIte, Nat.reduceAdd, Int.reduceBEq, Int.reduceBNe, heq, hs4, hq]; rfl) ?_
 refine mB rfl ?_
 refine Fo.yes rfl rfl ?_
 refine mI rfl ?_
 refine Fo.yes rfl rfl ?_
 refine Fo.bin rfl rfl rfl (by simp only [↓nrmL, nrmZ, Nat.reduceEqDiff, ↓reduceIte, Nat.reduceAdd, Int.reduceBEq, Int.reduceBNe, heq, hs4, hq]; rfl) ?_
 refine tB rfl rfl ?_
 refine mB rfl ?_
 refine Fo.yes rfl rfl ?_
 refine mI rfl ?_
 refine Fo.yes rfl rfl ?_
 refine Fo.bin rfl rfl rfl (by simp only [↓nrmL, nrmZ, Nat.reduceEqDiff, ↓reduceIte, Nat.reduceAdd, Int.reduceBEq, Int.reduceBNe, heq, hs4, hq]; rfl) ?_
 refine tB rfl rfl ?_
 refine mB rfl ?_
 refine Fo.yes rfl rfl ?_
 refine mI rfl ?_
 refine Fo.yes rfl rfl ?_
 refine Fo.bin rfl rfl rfl (by simp only [↓nrmL, nrmZ, Nat.reduceEqDiff, ↓reduceIte, Nat.reduceAdd, Int.reduceBEq, Int.reduceBNe, heq, hs4, hq]; rfl) ?_
 refine tB rfl rfl ?_
 refine mB rfl ?_
 refine Fo.yes rfl rfl ?_
 refine Fo.ldN rfl rfl (by simp only [↓nrmL, nrmZ, Nat.reduceEqDiff, ↓reduceIte, Nat.reduceAdd, Int.reduceBEq, Int.reduceBNe, heq, hs4, hq]; rfl) ?_
 refine Fo.yes rfl rfl ?_
 refine Fo.ldN rfl rfl (by simp only [↓nrmL, nrmZ, Nat.reduceEqDiff, ↓reduceIte, Nat.reduceAdd, Int.reduceBEq, Int.reduceBNe, heq, hs4, hq]; rfl) ?_
 refine Fo.yes rfl rfl ?_
 dsimp only [cond_true, cond_false]
 refine WpO.do (WpX.conD hn rfl rfl (by simp only [↓nrmL, nrmZ, Nat.reduceEqDiff, ↓reduceIte, Nat.reduceAdd, Int.reduceBEq, Int.reduceBNe, List.map] <;> rfl) (K_within okx ok) fun v H7 h5 => ?_)
 obtain ⟨rfl, hx7⟩ := h5
 haveI : ExtI _ H7 := ⟨hx7⟩
 rw [hin1]
 try simp only [↓nrmL, nrmZ, Nat.reduceEqDiff, ↓reduceIte, Nat.reduceAdd, Int.reduceBEq, Int.reduceBNe, heq, hs4, hq]
 refine tB rfl rfl ?_
 refine mB rfl ?_
 refine Fo.yes rfl rfl ?_
 refine Fo.ldN rfl rfl (by simp only [↓nrmL, nrmZ, Nat.reduceEqDiff, ↓reduceIte, Nat.reduceAdd, Int.reduceBEq, Int.reduceBNe, heq, hs4, hq]; rfl) ?_
 refine Fo.yes rfl rfl ?_
 refine Fo.ldN rfl rfl (by simp only [↓nrmL, nrmZ, Nat.reduceEqDiff, ↓reduceIte, Nat.reduceAdd, Int.reduceBEq, Int.reduceBNe, heq, hs4, hq]; rfl) ?_
 refine Fo.yes rfl rfl ?_
 refine Fo.pcall (v' := ?_) hn rfl (by simp only [↓nrmL, nrmZ, Nat.reduceEqDiff, ↓reduceIte, Nat.reduceAdd, Int.reduceBEq, Int.reduceBNe, heq, hs4, hq, List.map]; rfl) rfl ?hv fun _ _ => ?_; case hv => (simp only [↓nrmL, nrmZ, Nat.reduceEqDiff, ↓reduceIte, Nat.reduceAdd, Int.reduceBEq, Int.reduceBNe, heq, hs4, hq]; rfl)
 refine tB rfl rfl ?_
 refine mB rfl ?_
 refine Fo.yes rfl rfl ?_
 refine Fo.mov (by simp only [↓nrmL, nrmK, Nat.reduceEqDiff, ↓reduceIte]; rfl) ?_
 refine Fo.yes rfl rfl ?_
 refine Fo.len (v := ?_) (by simp only [↓nrmL, nrmK, Nat.reduceEqDiff, ↓reduceIte]; rfl) ?hv ?_; case hv => rfl
 refine Fo.yes rfl rfl ?_
 refine Fo.mov (by simp only [↓nrmL, nrmK, Nat.reduceEqDiff, ↓reduceIte]; rfl) ?_
 refine Fo.yes rfl rfl ?_
 refine Fo.len (v := ?_) (by simp only [↓nrmL, nrmK, Nat.reduceEqDiff, ↓reduceIte]; rfl) ?hv ?_; case hv => rfl
 refine Fo.yes rfl rfl ?_
 refine Fo.bin rfl rfl rfl (by simp only [↓nrmL, nrmZ, Nat.reduceEqDiff, ↓reduceIte, Nat.reduceAdd, Int.reduceBEq, Int.reduceBNe, heq, hs4, hq]; rfl) ?_
 refine tB rfl rfl ?_
 refine mB rfl ?_
 refine Fo.yes rfl rfl ?_
 refine Fo.pcall (v' := ?_) hn rfl (by simp only [↓nrmL, nrmZ, Nat.reduceEqDiff, ↓reduceIte, Nat.reduceAdd, Int.reduceBEq, Int.reduceBNe, heq, hs4, hq, List.map]; rfl) rfl ?hv fun _ _ => ?_; case hv => rfl
 refine tB rfl rfl ?_
 refine mB rfl ?_
 refine WpO.nil (hKF _ _ ?_)
 refine Wp.ret ?_
 dsimp only [cond_true, cond_false]
 refine ⟨trivial, _, (by first | rfl | exact getAllC rfl rfl rfl rfl | exact getAllT rfl (getAllC rfl rfl rfl rfl) | exact getAllC rfl rfl rfl (getAllC rfl rfl rfl rfl) | exact getAllC1 rfl rfl rfl), ?_⟩
 exact ⟨rfl, Ext0.ext⟩
end Go.Am
