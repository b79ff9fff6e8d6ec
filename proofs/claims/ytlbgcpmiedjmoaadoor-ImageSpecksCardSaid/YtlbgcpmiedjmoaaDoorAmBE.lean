import Derived.Test.YtlbgcpmiedjmoaaDoorAmBD
import Derived.Lib.Strings
set_option linter.unusedSimpArgs false
set_option linter.unusedVariables false
set_option maxHeartbeats 4000000
set_option maxRecDepth 100000
namespace Go.Am
open Go
attribute [local irreducible] Wp WpO WpX WpE
/-- sides -/
def sideB (a : Int) : Bool := decide (a ≥ 0) && decide (a ≤ 640)
instance K_side (a : Int) (H : AHeap) : PureCon ext prog 102 [.int .i64 a] H 1 (.bool (sideB a)) := ⟨by
 refine con_of (show prog 102 = some c102 from rfl) rfl rfl fun n hn => ?_
 unfold sideB
 cases h1 : decide (a ≥ 0) <;> cases h2 : decide (a ≤ 640)
 ·skip
  try simp only [↓nrmL, nrmZ, Nat.reduceEqDiff, ↓reduceIte, Nat.reduceAdd, Int.reduceBEq, Int.reduceBNe, h1, h2]
  refine sq ?_
  refine rg fun KF hKF => ?_
  refine mB rfl ?_
  refine WpO.nil (hKF _ _ ?_)
  refine sq ?_
  refine rg fun KF hKF => ?_
  refine mI rfl ?_
  refine Fo.bin rfl rfl rfl (by simp only [↓nrmL, nrmZ, Nat.reduceEqDiff, ↓reduceIte, Nat.reduceAdd, Int.reduceBEq, Int.reduceBNe, h1, h2]; rfl) ?_
  refine mB rfl ?_
  refine Fo.no rfl rfl ?_
  refine Fo.no rfl rfl ?_
  refine fB rfl rfl ?_
  refine mB rfl ?_
  refine WpO.nil (hKF _ _ ?_)
  refine Wp.ret ?_
  dsimp only [cond_true, cond_false]
  exact ⟨trivial, _, rfl, rfl, Ext0.ext⟩
 ·skip
  try simp only [↓nrmL, nrmZ, Nat.reduceEqDiff, ↓reduceIte, Nat.reduceAdd, Int.reduceBEq, Int.reduceBNe, h1, h2]
  refine sq ?_
  refine rg fun KF hKF => ?_
  refine mB rfl ?_
  refine WpO.nil (hKF _ _ ?_)
  refine sq ?_
  refine rg fun KF hKF => ?_
  refine mI rfl ?_
  refine Fo.bin rfl rfl rfl (by simp only [↓nrmL, nrmZ, Nat.reduceEqDiff, ↓reduceIte, Nat.reduceAdd, Int.reduceBEq, Int.reduceBNe, h1, h2]; rfl) ?_
  refine mB rfl ?_
  refine Fo.no rfl rfl ?_
  refine Fo.no rfl rfl ?_
  refine fB rfl rfl ?_
  refine mB rfl ?_
  refine WpO.nil (hKF _ _ ?_)
  refine Wp.ret ?_
  dsimp only [cond_true, cond_false]
  exact ⟨trivial, _, rfl, rfl, Ext0.ext⟩
 ·skip
  try simp only [↓nrmL, nrmZ, Nat.reduceEqDiff, ↓reduceIte, Nat.reduceAdd, Int.reduceBEq, Int.reduceBNe, h1, h2]
  refine sq ?_
  refine rg fun KF hKF => ?_
  refine mB rfl ?_
  refine WpO.nil (hKF _ _ ?_)
  refine sq ?_
  refine rg fun KF hKF => ?_
  refine mI rfl ?_
  refine Fo.bin rfl rfl rfl (by simp only [↓nrmL, nrmZ, Nat.reduceEqDiff, ↓reduceIte, Nat.reduceAdd, Int.reduceBEq, Int.reduceBNe, h1, h2]; rfl) ?_
  refine mB rfl ?_
  refine Fo.yes rfl rfl ?_
  refine mI rfl ?_
  refine Fo.yes rfl rfl ?_
  refine Fo.bin rfl rfl rfl (by simp only [↓nrmL, nrmZ, Nat.reduceEqDiff, ↓reduceIte, Nat.reduceAdd, Int.reduceBEq, Int.reduceBNe, h1, h2]; rfl) ?_
  refine tB rfl rfl ?_
  refine mB rfl ?_
  refine WpO.nil (hKF _ _ ?_)
  refine Wp.ret ?_
  dsimp only [cond_true, cond_false]
  exact ⟨trivial, _, rfl, rfl, Ext0.ext⟩
 ·skip
  try simp only [↓nrmL, nrmZ, Nat.reduceEqDiff, ↓reduceIte, Nat.reduceAdd, Int.reduceBEq, Int.reduceBNe, h1, h2]
  refine sq ?_
  refine rg fun KF hKF => ?_
  refine mB rfl ?_
  refine WpO.nil (hKF _ _ ?_)
  refine sq ?_
  refine rg fun KF hKF => ?_
  refine mI rfl ?_
  refine Fo.bin rfl rfl rfl (by simp only [↓nrmL, nrmZ, Nat.reduceEqDiff, ↓reduceIte, Nat.reduceAdd, Int.reduceBEq, Int.reduceBNe, h1, h2]; rfl) ?_
  refine mB rfl ?_
  refine Fo.yes rfl rfl ?_
  refine mI rfl ?_
  refine Fo.yes rfl rfl ?_
  refine Fo.bin rfl rfl rfl (by simp only [↓nrmL, nrmZ, Nat.reduceEqDiff, ↓reduceIte, Nat.reduceAdd, Int.reduceBEq, Int.reduceBNe, h1, h2]; rfl) ?_
  refine tB rfl rfl ?_
  refine mB rfl ?_
  refine WpO.nil (hKF _ _ ?_)
  refine Wp.ret ?_
  dsimp only [cond_true, cond_false]
  exact ⟨trivial, _, rfl, rfl, Ext0.ext⟩⟩
instance K_sized (a b k : Int) (H : AHeap) : PureCon ext prog 106 [.int .i64 a, .int .i64 b, .int .i64 k] H 2 (.bool (sideB a && sideB b && (k == IntKind.i64.wrap (a * b)))) := ⟨by
 refine con_of (show prog 106 = some c106 from rfl) rfl rfl fun n hn => ?_
 cases h1 : sideB a
 ·skip
  try simp only [↓nrmL, nrmZ, Nat.reduceEqDiff, ↓reduceIte, Nat.reduceAdd, Int.reduceBEq, Int.reduceBNe, h1]
  refine sq ?_
  refine rg fun KF hKF => ?_
  refine mB rfl ?_
  refine WpO.nil (hKF _ _ ?_)
  refine sq ?_
  refine rg fun KF hKF => ?_
  refine mI rfl ?_
  refine Fo.pcall (v' := ?_) hn rfl (by simp only [↓nrmL, nrmZ, Nat.reduceEqDiff, ↓reduceIte, Nat.reduceAdd, Int.reduceBEq, Int.reduceBNe, h1, List.map]; rfl) rfl ?hv fun _ _ => ?_; case hv => (simp only [↓nrmL, nrmZ, Nat.reduceEqDiff, ↓reduceIte, Nat.reduceAdd, Int.reduceBEq, Int.reduceBNe, h1]; rfl)
  refine mB rfl ?_
  refine Fo.no rfl rfl ?_
  refine Fo.no rfl rfl ?_
  refine fB rfl rfl ?_
  refine mB rfl ?_
  refine Fo.no rfl rfl ?_
  refine Fo.no rfl rfl ?_
  refine Fo.no rfl rfl ?_
  refine Fo.no rfl rfl ?_
  refine Fo.no rfl rfl ?_
  refine fB rfl rfl ?_
  refine mB rfl ?_
  refine WpO.nil (hKF _ _ ?_)
  refine Wp.ret ?_
  dsimp only [cond_true, cond_false]
  exact ⟨trivial, _, rfl, rfl, Ext0.ext⟩
 cases h2 : sideB b
 ·skip
  try simp only [↓nrmL, nrmZ, Nat.reduceEqDiff, ↓reduceIte, Nat.reduceAdd, Int.reduceBEq, Int.reduceBNe, h1, h2]
  refine sq ?_
  refine rg fun KF hKF => ?_
  refine mB rfl ?_
  refine WpO.nil (hKF _ _ ?_)
  refine sq ?_
  refine rg fun KF hKF => ?_
  refine mI rfl ?_
  refine Fo.pcall (v' := ?_) hn rfl (by simp only [↓nrmL, nrmZ, Nat.reduceEqDiff, ↓reduceIte, Nat.reduceAdd, Int.reduceBEq, Int.reduceBNe, h1, h2, List.map]; rfl) rfl ?hv fun _ _ => ?_; case hv => (simp only [↓nrmL, nrmZ, Nat.reduceEqDiff, ↓reduceIte, Nat.reduceAdd, Int.reduceBEq, Int.reduceBNe, h1, h2]; rfl)
  refine mB rfl ?_
  refine Fo.yes rfl rfl ?_
  refine mI rfl ?_
  refine Fo.yes rfl rfl ?_
  refine Fo.pcall (v' := ?_) hn rfl (by simp only [↓nrmL, nrmZ, Nat.reduceEqDiff, ↓reduceIte, Nat.reduceAdd, Int.reduceBEq, Int.reduceBNe, h1, h2, List.map]; rfl) rfl ?hv fun _ _ => ?_; case hv => (simp only [↓nrmL, nrmZ, Nat.reduceEqDiff, ↓reduceIte, Nat.reduceAdd, Int.reduceBEq, Int.reduceBNe, h1, h2]; rfl)
  refine tB rfl rfl ?_
  refine mB rfl ?_
  refine Fo.no rfl rfl ?_
  refine Fo.no rfl rfl ?_
  refine Fo.no rfl rfl ?_
  refine Fo.no rfl rfl ?_
  refine Fo.no rfl rfl ?_
  refine fB rfl rfl ?_
  refine mB rfl ?_
  refine WpO.nil (hKF _ _ ?_)
  refine Wp.ret ?_
  dsimp only [cond_true, cond_false]
  exact ⟨trivial, _, rfl, rfl, Ext0.ext⟩
 ·skip
  try simp only [↓nrmL, nrmZ, Nat.reduceEqDiff, ↓reduceIte, Nat.reduceAdd, Int.reduceBEq, Int.reduceBNe, h1, h2]
  refine sq ?_
  refine rg fun KF hKF => ?_
  refine mB rfl ?_
  refine WpO.nil (hKF _ _ ?_)
  refine sq ?_
  refine rg fun KF hKF => ?_
  refine mI rfl ?_
  refine Fo.pcall (v' := ?_) hn rfl (by simp only [↓nrmL, nrmZ, Nat.reduceEqDiff, ↓reduceIte, Nat.reduceAdd, Int.reduceBEq, Int.reduceBNe, h1, h2, List.map]; rfl) rfl ?hv fun _ _ => ?_; case hv => (simp only [↓nrmL, nrmZ, Nat.reduceEqDiff, ↓reduceIte, Nat.reduceAdd, Int.reduceBEq, Int.reduceBNe, h1, h2]; rfl)
  refine mB rfl ?_
  refine Fo.yes rfl rfl ?_
  refine mI rfl ?_
  refine Fo.yes rfl rfl ?_
  refine Fo.pcall (v' := ?_) hn rfl (by simp only [↓nrmL, nrmZ, Nat.reduceEqDiff, ↓reduceIte, Nat.reduceAdd, Int.reduceBEq, Int.reduceBNe, h1, h2, List.map]; rfl) rfl ?hv fun _ _ => ?_; case hv => (simp only [↓nrmL, nrmZ, Nat.reduceEqDiff, ↓reduceIte, Nat.reduceAdd, Int.reduceBEq, Int.reduceBNe, h1, h2]; rfl)
  refine tB rfl rfl ?_
  refine mB rfl ?_
  refine Fo.yes rfl rfl ?_
  refine mI rfl ?_
  refine Fo.yes rfl rfl ?_
  refine mI rfl ?_
  refine Fo.yes rfl rfl ?_
  refine mI rfl ?_
  refine Fo.yes rfl rfl ?_
  refine Fo.bin rfl rfl rfl rfl ?_
  refine Fo.yes rfl rfl ?_
  refine Fo.bin rfl rfl rfl rfl ?_
  refine tB rfl rfl ?_
  refine mB rfl ?_
  refine WpO.nil (hKF _ _ ?_)
  refine Wp.ret ?_
  dsimp only [cond_true, cond_false]
  exact ⟨trivial, _, rfl, rfl, Ext0.ext⟩⟩
end Go.Am

set_option maxHeartbeats 4000000
set_option maxRecDepth 100000
namespace Go.Am
open Go
attribute [local irreducible] Wp WpO WpX WpE

structure Img where
 w : Int
 h : Int
 px : List UInt8
 deriving DecidableEq
def Img.zero : Img := ⟨0, 0, []⟩
def sizedB (a b k : Int) : Bool := sideB a && sideB b && (k == IntKind.i64.wrap (a * b))
def Img.sized (g : Img) : Bool := sizedB g.w g.h g.px.length
/-- A new image as a result. -/
def NewInk (H H' : AHeap) (v : AVal) (g : Img) : Prop := ∃ p, v = .agg [.int .i64 g.w, .int .i64 g.h, p] ∧ BytesI H' p g.px ∧ FreshS H p ∧ WrS H' p ∧ Ext H H'

theorem K_blank {w h : Nat} {H : AHeap} (hw : w ≤ 640) (hh : h ≤ 640) : Con ext prog 1 103 [.int .i64 w, .int .i64 h] H fun v H' => NewInk H H' v ⟨w, h, List.replicate (w * h) 0⟩ := by
 refine con_of (show prog 103 = some c103 from rfl) rfl rfl fun n hn => ?_
 have hm : w * h ≤ 640 * 640 := Nat.mul_le_mul hw hh
 have hc : IntKind.i64.wrap ((w : Int) * (h : Int)) = ((w * h : Nat) : Int) := by rw [← Int.natCast_mul]; exact w64 (by omega)
 try simp only [↓nrmL, nrmZ, Nat.reduceEqDiff, ↓reduceIte, Nat.reduceAdd, Int.reduceBEq, Int.reduceBNe, hc]
 refine sq ?_
 refine rg fun KF hKF => ?_
 refine Fo.new ?_
 refine WpO.nil (hKF _ _ ?_)
 refine sq ?_
 refine rg fun KF hKF => ?_
 refine mI rfl ?_
 refine mI rfl ?_
 refine mI rfl ?_
 refine mI rfl ?_
 refine Fo.bin rfl rfl rfl (by simp only [↓nrmL, nrmZ, Nat.reduceEqDiff, ↓reduceIte, Nat.reduceAdd, Int.reduceBEq, Int.reduceBNe, hc]; rfl) ?_
 refine WpO.do (WpX.mkB rfl rfl rfl (by omega) fun p H1 e1 hb hf hw' hx => ?_); try simp only [↓nrmL, nrmZ, Nat.reduceEqDiff, ↓reduceIte, Nat.reduceAdd, Int.reduceBEq, Int.reduceBNe, hc]
 haveI := hb.one
 refine Fo.build (by repeat (first | refine aFill1 (by first | exact (rfl : _ = AVal.int _ _) | exact (rfl : _ = AVal.ptr _ _) | exact (rfl : _ = AVal.bool _) | exact (rfl : _ = AVal.agg _) | exact (rfl : _ = AVal.tuple _) | exact (rfl : _ = AVal.func _ _ _) | exact (rfl : _ = AVal.nslice) | ((try simp only [↓nrmL, nrmK, Nat.reduceEqDiff, ↓reduceIte]); rfl)) rfl ?_ | rfl)) (by simp only [↓nrmL, nrmZ, Nat.reduceEqDiff, ↓reduceIte, Nat.reduceAdd, Int.reduceBEq, Int.reduceBNe]; rfl) ?_
 refine Fo.st rfl (rfl : _ = AVal.agg _) rfl rfl rfl (by repeat (first | rfl | refine allOne_cons ?_)) (by simp only [↓nrmL, nrmZ, Nat.reduceEqDiff, ↓reduceIte, Nat.reduceAdd, Int.reduceBEq, Int.reduceBNe]; rfl) ?_
 refine WpO.nil (hKF _ _ ?_)
 refine Wp.ret ?_
 dsimp only [cond_true, cond_false]
 refine ⟨trivial, _, (by first | rfl | exact getAllC rfl rfl rfl rfl | exact getAllT rfl (getAllC rfl rfl rfl rfl) | exact getAllC rfl rfl rfl (getAllC rfl rfl rfl rfl) | exact getAllC1 rfl rfl rfl), ?_⟩
 exact ⟨p, rfl, inferInstance, hf.weak, inferInstance, Ext0.ext⟩
end Go.Am

set_option maxHeartbeats 4000000
set_option maxRecDepth 100000
namespace Go.Am
open Go
attribute [local irreducible] Wp WpO WpX WpE

theorem sized_nat {w h : Int} {n : Nat} (hs : sizedB w h n = true) : ∃ a b : Nat, w = a ∧ h = b ∧ a ≤ 640 ∧ b ≤ 640 ∧ n = a * b := by
 simp only [sizedB, sideB, Bool.and_eq_true, decide_eq_true_eq, beq_iff_eq] at hs
 obtain ⟨⟨⟨h1, h2⟩, h3, h4⟩, h5⟩ := hs
 refine ⟨w.toNat, h.toNat, by omega, by omega, by omega, by omega, ?_⟩
 obtain ⟨a, rfl⟩ : ∃ a : Nat, w = a := ⟨w.toNat, by omega⟩
 obtain ⟨b, rfl⟩ : ∃ b : Nat, h = b := ⟨h.toNat, by omega⟩
 have hm : a * b ≤ 640 * 640 := Nat.mul_le_mul (by omega) (by omega)
 rw [← Int.natCast_mul, w64 (by omega)] at h5
 simp only [Int.toNat_natCast]
 omega

/-- A new image and an error as a result. -/
def InkRes (H H' : AHeap) (v : AVal) (r : Img × Int) : Prop := ∃ q, v = .tuple [q, .int .i64 r.2] ∧ NewInk H H' q r.1
theorem newZero {H H' : AHeap} [x : Ext0 H H'] : NewInk H H' (.agg [.int .i64 0, .int .i64 0, .nslice]) Img.zero := ⟨.nslice, rfl, ⟨Or.inl ⟨rfl, rfl, rfl⟩⟩, ⟨fun _ _ _ _ _ e => by cases e⟩, ⟨fun _ _ _ _ _ e => by cases e⟩, x.ext⟩

end Go.Am

set_option maxHeartbeats 4000000
set_option maxRecDepth 100000
namespace Go.Am
open Go
attribute [local irreducible] Wp WpO WpX WpE

/-- A copy as a result. -/
def NewBytes (H H' : AHeap) (v : AVal) (l : List UInt8) : Prop := BytesI H' v l ∧ FreshS H v ∧ WrS H' v ∧ Ext H H'
end Go.Am

set_option maxHeartbeats 4000000
set_option maxRecDepth 100000
namespace Go.Am
open Go
attribute [local irreducible] Wp WpO WpX WpE

theorem wm {a b : Nat} (h : a * b < 9223372036854775808) : IntKind.i64.wrap ((a : Int) * (b : Int)) = ((a * b : Nat) : Int) := by rw [← Int.natCast_mul]; exact w64 (by omega)
theorem wa {a b : Nat} (h : a + b < 9223372036854775808) : IntKind.i64.wrap ((a : Int) + (b : Int)) = ((a + b : Nat) : Int) := by rw [← Int.natCast_add]; exact w64 (by omega)
theorem wa1 {a : Nat} (h : a < 9223372036854775807) : IntKind.i64.wrap ((a : Int) + 1) = ((a + 1 : Nat) : Int) := by rw [w64 (by omega)]; omega
theorem idx_lt {x y w h : Nat} (hx : x < w) (hy : y < h) : y * w + x < w * h := by
 have : (y + 1) * w ≤ h * w := Nat.mul_le_mul_right _ hy
 rw [Nat.mul_comm w h]
 rw [Nat.add_mul] at this
 omega

/-- What has been filled in of n zeros. -/
def filled (f : Nat → UInt8) (k n : Nat) : List UInt8 := (List.range n).map fun i => if i < k then f i else 0
theorem filled_length (f : Nat → UInt8) (k n : Nat) : (filled f k n).length = n := by simp [filled]
theorem filled_zero (f : Nat → UInt8) (n : Nat) : filled f 0 n = List.replicate n 0 := by
 apply List.ext_getElem <;> simp [filled]
theorem filled_all (f : Nat → UInt8) (n : Nat) : filled f n n = (List.range n).map f := by
 apply List.ext_getElem
 ·simp [filled]
 ·intro i h1 h2
  simp [filled] at h1 ⊢
  intro h; omega
theorem filled_succ (f : Nat → UInt8) {k n : Nat} : (filled f k n).set k (f k) = filled f (k + 1) n := by
 apply List.ext_getElem
 ·simp [filled]
 ·intro i h1 h2
  simp only [filled, List.getElem_set, List.getElem_map, List.getElem_range]
  by_cases hik : k = i
  ·subst hik; simp
  ·have : i < k + 1 ↔ i < k := by omega
   simp [hik, this]
end Go.Am

set_option maxHeartbeats 4000000
set_option maxRecDepth 100000
namespace Go.Am
open Go
attribute [local irreducible] Wp WpO WpX WpE

end Go.Am

set_option maxHeartbeats 4000000
set_option maxRecDepth 100000
namespace Go.Am
open Go
attribute [local irreducible] Wp WpO WpX WpE

def lvStep (acc : List Int) (b : UInt8) : List Int := acc.set b.toNat (acc.getD b.toNat 0 + 1)
def lv (l : List UInt8) : List Int := l.foldl lvStep (List.replicate 256 0)
instance intsNil {H : AHeap} : IntsI H .nslice [] := ⟨Or.inl ⟨rfl, rfl, rfl⟩⟩
instance bytesNil {H : AHeap} : BytesI H .nslice [] := ⟨Or.inl ⟨rfl, rfl, rfl⟩⟩

end Go.Am

set_option maxHeartbeats 4000000
set_option maxRecDepth 100000
namespace Go.Am
open Go
attribute [local irreducible] Wp WpO WpX WpE

theorem eq_of_gets {α : Type} {l m : List α} (hl : l.length = m.length) (h : ∀ j, j < l.length → l[j]? = m[j]?) : l = m := by
 apply List.ext_getElem?
 intro i
 by_cases hi : i < l.length
 ·exact h i hi
 ·rw [List.getElem?_eq_none (by omega), List.getElem?_eq_none (by omega)]

/-- Short enough for the loops. -/
class Short {α : Type} (l : List α) : Prop where
 le : l.length ≤ 999999

instance K_SameBytes {p q : AVal} {H : AHeap} {l m : List UInt8} [hp : BytesI H p l] [hq : BytesI H q m] [hs : Short l] : PureCon ext prog 108 [p, q] H 1 (.bool (decide (l = m))) := ⟨by
 refine con_of (show prog 108 = some c108 from rfl) rfl rfl fun n hn => ?_
 have hsl := hs.le
 by_cases hlm : l.length = m.length
 ·have h1 : (((l.length : Nat) : Int) != ((m.length : Nat) : Int)) = false := by simp [hlm]
  try simp only [↓nrmL, nrmZ, Nat.reduceEqDiff, ↓reduceIte, h1]
  refine sq ?_
  refine rg fun KF hKF => ?_
  refine mB rfl ?_
  refine WpO.nil (hKF _ _ ?_)
  refine sq ?_
  refine sq ?_
  refine rg fun KF hKF => ?_
  refine Fo.mov (by simp only [↓nrmL, nrmK, Nat.reduceEqDiff, ↓reduceIte]; rfl) ?_
  refine Fo.len (v := ?_) (by simp only [↓nrmL, nrmK, Nat.reduceEqDiff, ↓reduceIte]; rfl) ?hv ?_; case hv => rfl
  refine Fo.mov (by simp only [↓nrmL, nrmK, Nat.reduceEqDiff, ↓reduceIte]; rfl) ?_
  refine Fo.len (v := ?_) (by simp only [↓nrmL, nrmK, Nat.reduceEqDiff, ↓reduceIte]; rfl) ?hv ?_; case hv => rfl
  refine Fo.bin rfl rfl rfl (by simp only [↓nrmL, nrmZ, Nat.reduceEqDiff, ↓reduceIte, h1]; rfl) ?_
  refine WpO.nil (hKF _ _ ?_)
  refine Wp.cond (b := false) rfl ?_
  refine Wp.skip ?_
  refine sq ?_
  refine sq ?_
  refine rg fun KF hKF => ?_
  refine mI rfl ?_
  refine WpO.nil (hKF _ _ ?_)
  refine Wp.block ?_
  dsimp only [cond_true, cond_false]
  refine Wp.loopS [4, 5, 11, 12, 13, 14, 15, 16, 17, 18, 19, 20, 21, 22, 23, 24, 25] (fun i : Nat => [(5, .int .i64 i)]) (fun H3 i H2 => i ≤ l.length ∧ (∀ j, j < i → l[j]? = m[j]?) ∧ H2 = H3) (fun i => l.length - i) 0 rfl (fun _ => rfl) ⟨rfl, trivial⟩ ⟨Nat.zero_le _, fun j hj => by omega, rfl⟩ (by unfold fuel0 at hn; omega) ?_
  rintro i g H2 ⟨hi, heq, rfl⟩
  simp only [↓nrmL, nrmZ, Nat.reduceEqDiff, ↓reduceIte]
  cases hc : decide ((i : Int) < (l.length : Int))
  ·have hil : i = l.length := by have := of_decide_eq_false hc; omega
   subst hil
   have hd : decide (l = m) = true := decide_eq_true (eq_of_gets hlm heq)
   rw [hd]
   try simp only [↓nrmL, nrmZ, Nat.reduceEqDiff, ↓reduceIte, hc]
   refine sq ?_
   refine sq ?_
   refine rg fun KF hKF => ?_
   refine mI rfl ?_
   refine Fo.mov (by simp only [↓nrmL, nrmK, Nat.reduceEqDiff, ↓reduceIte]; rfl) ?_
   refine Fo.len (v := ?_) (by simp only [↓nrmL, nrmK, Nat.reduceEqDiff, ↓reduceIte]; rfl) ?hv ?_; case hv => rfl
   refine Fo.bin rfl rfl rfl (by simp only [↓nrmL, nrmZ, Nat.reduceEqDiff, ↓reduceIte, hc]; rfl) ?_
   refine WpO.nil (hKF _ _ ?_)
   refine Wp.cond (b := false) rfl ?_
   refine Wp.exit ?_
   refine sq ?_
   refine rg fun KF hKF => ?_
   refine mB rfl ?_
   refine WpO.nil (hKF _ _ ?_)
   refine Wp.ret ?_
   dsimp only [cond_true, cond_false]
   refine ⟨trivial, _, rfl, ?_⟩
   exact ⟨rfl, Ext0.ext⟩
  ·have hil : i < l.length := by have := of_decide_eq_true hc; omega
   have him : i < m.length := by omega
   have hw1 := wa1 (a := i) (by omega)
   cases hne : (((l[i].toNat : Nat) : Int) != ((m[i].toNat : Nat) : Int))
   ·skip
    try simp only [↓nrmL, nrmZ, Nat.reduceEqDiff, ↓reduceIte, hc, hne]
    refine sq ?_
    refine sq ?_
    refine rg fun KF hKF => ?_
    refine mI rfl ?_
    refine Fo.mov (by simp only [↓nrmL, nrmK, Nat.reduceEqDiff, ↓reduceIte]; rfl) ?_
    refine Fo.len (v := ?_) (by simp only [↓nrmL, nrmK, Nat.reduceEqDiff, ↓reduceIte]; rfl) ?hv ?_; case hv => rfl
    refine Fo.bin rfl rfl rfl (by simp only [↓nrmL, nrmZ, Nat.reduceEqDiff, ↓reduceIte, hc, hne]; rfl) ?_
    refine WpO.nil (hKF _ _ ?_)
    refine Wp.cond (b := true) rfl ?_
    refine Wp.skip ?_
    refine sq ?_
    refine Wp.block ?_
    refine sq ?_
    refine Fr.quiet rfl rfl fun KF hKF => ?_
    refine Fo.mov (by simp only [↓nrmL, nrmK, Nat.reduceEqDiff, ↓reduceIte]; rfl) ?_
    refine mI rfl ?_
    refine Fo.idx (by simp only [↓nrmL, nrmK, Nat.reduceEqDiff, ↓reduceIte]; rfl) rfl ?_ (by simp only [↓nrmL, nrmZ, Nat.reduceEqDiff, ↓reduceIte, hc, hne]; rfl) ?_; (focus omega)
    refine Fo.ldB rfl ?_ rfl ?_; (focus omega)
    refine Fo.mov (by simp only [↓nrmL, nrmK, Nat.reduceEqDiff, ↓reduceIte]; rfl) ?_
    refine mI rfl ?_
    refine Fo.idx (by simp only [↓nrmL, nrmK, Nat.reduceEqDiff, ↓reduceIte]; rfl) rfl ?_ (by simp only [↓nrmL, nrmZ, Nat.reduceEqDiff, ↓reduceIte, hc, hne]; rfl) ?_; (focus omega)
    refine Fo.ldB rfl ?_ rfl ?_; (focus omega)
    refine Fo.bin rfl rfl rfl (by simp only [↓nrmL, nrmZ, Nat.reduceEqDiff, ↓reduceIte, hc, hne]; rfl) ?_
    refine WpO.nil (hKF _ _ ?_)
    refine Wp.cond (b := false) rfl ?_
    refine Wp.skip ?_
    refine rg fun KF hKF => ?_
    refine mI rfl ?_
    refine Fo.bin rfl rfl rfl rfl ?_
    refine mI rfl ?_
    refine WpO.nil (hKF _ _ ?_)
    dsimp only [cond_true, cond_false]
    refine ⟨i + 1, by omega, ⟨by simp only [↓nrmL, nrmZ, Nat.reduceEqDiff, ↓reduceIte]; rw [hw1], trivial⟩, hil, fun j hj => ?_, rfl⟩
    by_cases hj2 : j < i
    ·exact heq j hj2
    ·have : j = i := by omega
     subst this
     have h2 : l[j].toNat = m[j].toNat := by simp at hne; omega
     have : l[j] = m[j] := UInt8.toNat_inj.1 h2
     simp [hil, him, this]
   ·have hd : decide (l = m) = false := decide_eq_false (fun e => by subst e; simp at hne)
    rw [hd]
    try simp only [↓nrmL, nrmZ, Nat.reduceEqDiff, ↓reduceIte, hc, hne]
    refine sq ?_
    refine sq ?_
    refine rg fun KF hKF => ?_
    refine mI rfl ?_
    refine Fo.mov (by simp only [↓nrmL, nrmK, Nat.reduceEqDiff, ↓reduceIte]; rfl) ?_
    refine Fo.len (v := ?_) (by simp only [↓nrmL, nrmK, Nat.reduceEqDiff, ↓reduceIte]; rfl) ?hv ?_; case hv => rfl
    refine Fo.bin rfl rfl rfl (by simp only [↓nrmL, nrmZ, Nat.reduceEqDiff, ↓reduceIte, hc, hne]; rfl) ?_
    refine WpO.nil (hKF _ _ ?_)
    refine Wp.cond (b := true) rfl ?_
    refine Wp.skip ?_
    refine sq ?_
    refine Wp.block ?_
    refine sq ?_
    refine Fr.quiet rfl rfl fun KF hKF => ?_
    refine Fo.mov (by simp only [↓nrmL, nrmK, Nat.reduceEqDiff, ↓reduceIte]; rfl) ?_
    refine mI rfl ?_
    refine Fo.idx (by simp only [↓nrmL, nrmK, Nat.reduceEqDiff, ↓reduceIte]; rfl) rfl ?_ (by simp only [↓nrmL, nrmZ, Nat.reduceEqDiff, ↓reduceIte, hc, hne]; rfl) ?_; (focus omega)
    refine Fo.ldB rfl ?_ rfl ?_; (focus omega)
    refine Fo.mov (by simp only [↓nrmL, nrmK, Nat.reduceEqDiff, ↓reduceIte]; rfl) ?_
    refine mI rfl ?_
    refine Fo.idx (by simp only [↓nrmL, nrmK, Nat.reduceEqDiff, ↓reduceIte]; rfl) rfl ?_ (by simp only [↓nrmL, nrmZ, Nat.reduceEqDiff, ↓reduceIte, hc, hne]; rfl) ?_; (focus omega)
    refine Fo.ldB rfl ?_ rfl ?_; (focus omega)
    refine Fo.bin rfl rfl rfl (by simp only [↓nrmL, nrmZ, Nat.reduceEqDiff, ↓reduceIte, hc, hne]; rfl) ?_
    refine WpO.nil (hKF _ _ ?_)
    refine Wp.cond (b := true) rfl ?_
    refine sq ?_
    refine rg fun KF hKF => ?_
    refine mB rfl ?_
    refine WpO.nil (hKF _ _ ?_)
    refine Wp.ret ?_
    dsimp only [cond_true, cond_false]
    refine ⟨trivial, _, rfl, ?_⟩
    exact ⟨rfl, Ext0.ext⟩
 ·have h1 : (((l.length : Nat) : Int) != ((m.length : Nat) : Int)) = true := by simp; omega
  have hd : decide (l = m) = false := decide_eq_false (fun e => by subst e; exact hlm rfl)
  rw [hd]
  try simp only [↓nrmL, nrmZ, Nat.reduceEqDiff, ↓reduceIte, h1]
  refine sq ?_
  refine rg fun KF hKF => ?_
  refine mB rfl ?_
  refine WpO.nil (hKF _ _ ?_)
  refine sq ?_
  refine sq ?_
  refine rg fun KF hKF => ?_
  refine Fo.mov (by simp only [↓nrmL, nrmK, Nat.reduceEqDiff, ↓reduceIte]; rfl) ?_
  refine Fo.len (v := ?_) (by simp only [↓nrmL, nrmK, Nat.reduceEqDiff, ↓reduceIte]; rfl) ?hv ?_; case hv => rfl
  refine Fo.mov (by simp only [↓nrmL, nrmK, Nat.reduceEqDiff, ↓reduceIte]; rfl) ?_
  refine Fo.len (v := ?_) (by simp only [↓nrmL, nrmK, Nat.reduceEqDiff, ↓reduceIte]; rfl) ?hv ?_; case hv => rfl
  refine Fo.bin rfl rfl rfl (by simp only [↓nrmL, nrmZ, Nat.reduceEqDiff, ↓reduceIte, h1]; rfl) ?_
  refine WpO.nil (hKF _ _ ?_)
  refine Wp.cond (b := true) rfl ?_
  refine sq ?_
  refine rg fun KF hKF => ?_
  refine mB rfl ?_
  refine WpO.nil (hKF _ _ ?_)
  refine Wp.ret ?_
  dsimp only [cond_true, cond_false]
  refine ⟨trivial, _, rfl, ?_⟩
  exact ⟨rfl, Ext0.ext⟩⟩

/-- Two images are the same. -/
instance K_SameInk {p q : AVal} {H : AHeap} {w h w' h' : Int} {l m : List UInt8} [hp : BytesI H p l] [hq : BytesI H q m] [hs : Short l] : PureCon ext prog 32 [.agg [.int .i64 w, .int .i64 h, p], .agg [.int .i64 w', .int .i64 h', q]] H 2 (.bool (decide ((⟨w, h, l⟩ : Img) = ⟨w', h', m⟩))) := ⟨by
 refine con_of (show prog 32 = some c32 from rfl) rfl rfl fun n hn => ?_
 haveI := hp.one
 haveI := hq.one
 have e : decide ((⟨w, h, l⟩ : Img) = ⟨w', h', m⟩) = ((w == w') && (h == h') && decide (l = m)) := by
  by_cases h1 : w = w' <;> by_cases h2 : h = h' <;> by_cases h3 : l = m <;> simp [h1, h2, h3]
 rw [e]
 cases h1 : (w == w')
 ·skip
  try simp only [↓nrmL, nrmZ, Nat.reduceEqDiff, ↓reduceIte, h1]
  refine sq ?_
  refine rg fun KF hKF => ?_
  refine Fo.boxA rfl ?_
  refine Fo.boxA rfl ?_
  refine mB rfl ?_
  refine WpO.nil (hKF _ _ ?_)
  refine sq ?_
  refine rg fun KF hKF => ?_
  refine Fo.fa rfl ?_
  refine Fo.ld rfl rfl ?_
  refine Fo.fa rfl ?_
  refine Fo.ld rfl rfl ?_
  refine Fo.bin rfl rfl rfl (by simp only [↓nrmL, nrmZ, Nat.reduceEqDiff, ↓reduceIte, h1]; rfl) ?_
  refine mB rfl ?_
  refine Fo.no rfl rfl ?_
  refine Fo.no rfl rfl ?_
  refine Fo.no rfl rfl ?_
  refine Fo.no rfl rfl ?_
  refine Fo.no rfl rfl ?_
  refine fB rfl rfl ?_
  refine mB rfl ?_
  refine Fo.no rfl rfl ?_
  refine Fo.no rfl rfl ?_
  refine Fo.no rfl rfl ?_
  refine Fo.no rfl rfl ?_
  refine Fo.no rfl rfl ?_
  refine fB rfl rfl ?_
  refine mB rfl ?_
  refine WpO.nil (hKF _ _ ?_)
  refine Wp.ret ?_
  dsimp only [cond_true, cond_false]
  refine ⟨trivial, _, rfl, ?_⟩
  exact ⟨rfl, Ext0.ext⟩
 cases h2 : (h == h')
 ·skip
  try simp only [↓nrmL, nrmZ, Nat.reduceEqDiff, ↓reduceIte, h1, h2]
  refine sq ?_
  refine rg fun KF hKF => ?_
  refine Fo.boxA rfl ?_
  refine Fo.boxA rfl ?_
  refine mB rfl ?_
  refine WpO.nil (hKF _ _ ?_)
  refine sq ?_
  refine rg fun KF hKF => ?_
  refine Fo.fa rfl ?_
  refine Fo.ld rfl rfl ?_
  refine Fo.fa rfl ?_
  refine Fo.ld rfl rfl ?_
  refine Fo.bin rfl rfl rfl (by simp only [↓nrmL, nrmZ, Nat.reduceEqDiff, ↓reduceIte, h1, h2]; rfl) ?_
  refine mB rfl ?_
  refine Fo.yes rfl rfl ?_
  refine Fo.fa rfl ?_
  refine Fo.yes rfl rfl ?_
  refine Fo.ld rfl rfl ?_
  refine Fo.yes rfl rfl ?_
  refine Fo.fa rfl ?_
  refine Fo.yes rfl rfl ?_
  refine Fo.ld rfl rfl ?_
  refine Fo.yes rfl rfl ?_
  refine Fo.bin rfl rfl rfl (by simp only [↓nrmL, nrmZ, Nat.reduceEqDiff, ↓reduceIte, h1, h2]; rfl) ?_
  refine tB rfl rfl ?_
  refine mB rfl ?_
  refine Fo.no rfl rfl ?_
  refine Fo.no rfl rfl ?_
  refine Fo.no rfl rfl ?_
  refine Fo.no rfl rfl ?_
  refine Fo.no rfl rfl ?_
  refine fB rfl rfl ?_
  refine mB rfl ?_
  refine WpO.nil (hKF _ _ ?_)
  refine Wp.ret ?_
  dsimp only [cond_true, cond_false]
  refine ⟨trivial, _, rfl, ?_⟩
  exact ⟨rfl, Ext0.ext⟩
 ·skip
  try simp only [↓nrmL, nrmZ, Nat.reduceEqDiff, ↓reduceIte, h1, h2]
  refine sq ?_
  refine rg fun KF hKF => ?_
  refine Fo.boxA rfl ?_
  refine Fo.boxA rfl ?_
  refine mB rfl ?_
  refine WpO.nil (hKF _ _ ?_)
  refine sq ?_
  refine rg fun KF hKF => ?_
  refine Fo.fa rfl ?_
  refine Fo.ld rfl rfl ?_
  refine Fo.fa rfl ?_
  refine Fo.ld rfl rfl ?_
  refine Fo.bin rfl rfl rfl (by simp only [↓nrmL, nrmZ, Nat.reduceEqDiff, ↓reduceIte, h1, h2]; rfl) ?_
  refine mB rfl ?_
  refine Fo.yes rfl rfl ?_
  refine Fo.fa rfl ?_
  refine Fo.yes rfl rfl ?_
  refine Fo.ld rfl rfl ?_
  refine Fo.yes rfl rfl ?_
  refine Fo.fa rfl ?_
  refine Fo.yes rfl rfl ?_
  refine Fo.ld rfl rfl ?_
  refine Fo.yes rfl rfl ?_
  refine Fo.bin rfl rfl rfl (by simp only [↓nrmL, nrmZ, Nat.reduceEqDiff, ↓reduceIte, h1, h2]; rfl) ?_
  refine tB rfl rfl ?_
  refine mB rfl ?_
  refine Fo.yes rfl rfl ?_
  refine Fo.fa rfl ?_
  refine Fo.yes rfl rfl ?_
  refine Fo.ld rfl rfl ?_
  refine Fo.yes rfl rfl ?_
  refine Fo.fa rfl ?_
  refine Fo.yes rfl rfl ?_
  refine Fo.ld rfl rfl ?_
  refine Fo.yes rfl rfl ?_
  refine Fo.pcall (v' := ?_) hn rfl (by simp only [↓nrmL, nrmZ, Nat.reduceEqDiff, ↓reduceIte, h1, h2, List.map]; rfl) rfl ?hv fun _ _ => ?_; case hv => rfl
  refine tB rfl rfl ?_
  refine mB rfl ?_
  refine WpO.nil (hKF _ _ ?_)
  refine Wp.ret ?_
  dsimp only [cond_true, cond_false]
  refine ⟨trivial, _, rfl, ?_⟩
  exact ⟨rfl, Ext0.ext⟩⟩
end Go.Am

set_option maxHeartbeats 4000000
set_option maxRecDepth 100000
namespace Go.Am
open Go
attribute [local irreducible] Wp WpO WpX WpE

/-- bytealg.Count -/
instance K_bCount {p : AVal} {H : AHeap} {l : List UInt8} {k : Int} {b : UInt8} [hp : BytesI H p l] [hb : IsU8 k b] : PureCon ext prog 154 [p, .int .u8 k] H 0 (.int .i64 (l.count b : Nat)) := ⟨fun n hn => by
 obtain ⟨m, rfl⟩ : ∃ m, n = m + 1 := ⟨n - 1, by unfold fuel0 at hn; omega⟩
 have e1 : prog 154 = some ⟨0, .ext 0, []⟩ := rfl
 refine ⟨_, H, ?_, rfl, Ext.refl H⟩
 rw [call_ext e1]
 have hb' := hb.eq
 subst hb'
 show aBytesFn (fun l => .int .i64 (Lib.countByte l (UInt8.ofNat ((b.toNat : Int)).toNat))) p H = _
 rw [aBytesFn_at]
 simp [Lib.countByte]⟩
/-- bytes.Count of one byte -/
instance K_bytesCount {p q : AVal} {H : AHeap} {l : List UInt8} {b : UInt8} [hp : BytesI H p l] [hq : BytesI H q [b]] : PureCon ext prog 107 [p, q] H 1 (.int .i64 (l.count b : Nat)) := ⟨by
 refine con_of (show prog 107 = some c107 from rfl) rfl rfl fun n hn => ?_
 have e0 : [b].length = 1 := rfl
 try simp only [↓nrmL, nrmZ, Nat.reduceEqDiff, ↓reduceIte, Nat.reduceAdd, Int.reduceBEq, Int.reduceBNe, e0]
 refine sq ?_
 refine rg fun KF hKF => ?_
 refine mI rfl ?_
 refine WpO.nil (hKF _ _ ?_)
 refine sq ?_
 refine sq ?_
 refine rg fun KF hKF => ?_
 refine Fo.mov (by simp only [↓nrmL, nrmK, Nat.reduceEqDiff, ↓reduceIte]; rfl) ?_
 refine Fo.len (v := ?_) (by simp only [↓nrmL, nrmK, Nat.reduceEqDiff, ↓reduceIte]; rfl) ?hv ?_; case hv => (simp only [↓nrmL, nrmZ, Nat.reduceEqDiff, ↓reduceIte, Nat.reduceAdd, Int.reduceBEq, Int.reduceBNe, e0]; rfl)
 refine Fo.bin rfl rfl rfl rfl ?_
 refine WpO.nil (hKF _ _ ?_)
 refine Wp.cond (b := false) rfl ?_
 refine Wp.skip ?_
 refine sq ?_
 refine sq ?_
 refine rg fun KF hKF => ?_
 refine Fo.mov (by simp only [↓nrmL, nrmK, Nat.reduceEqDiff, ↓reduceIte]; rfl) ?_
 refine Fo.len (v := ?_) (by simp only [↓nrmL, nrmK, Nat.reduceEqDiff, ↓reduceIte]; rfl) ?hv ?_; case hv => (simp only [↓nrmL, nrmZ, Nat.reduceEqDiff, ↓reduceIte, Nat.reduceAdd, Int.reduceBEq, Int.reduceBNe, e0]; rfl)
 refine Fo.bin rfl rfl rfl rfl ?_
 refine WpO.nil (hKF _ _ ?_)
 refine Wp.cond (b := true) rfl ?_
 refine sq ?_
 refine rg fun KF hKF => ?_
 refine Fo.mov (by simp only [↓nrmL, nrmK, Nat.reduceEqDiff, ↓reduceIte]; rfl) ?_
 refine Fo.mov (by simp only [↓nrmL, nrmK, Nat.reduceEqDiff, ↓reduceIte]; rfl) ?_
 refine Fo.idx (by simp only [↓nrmL, nrmK, Nat.reduceEqDiff, ↓reduceIte]; rfl) rfl ?_ (by simp only [↓nrmL, nrmZ, Nat.reduceEqDiff, ↓reduceIte, Nat.reduceAdd, Int.reduceBEq, Int.reduceBNe, e0]; rfl) ?_; (focus omega)
 refine Fo.ldB rfl ?_ rfl ?_; (focus omega)
 refine Fo.pcall (v' := ?_) hn rfl (by simp only [↓nrmL, nrmZ, Nat.reduceEqDiff, ↓reduceIte, Nat.reduceAdd, Int.reduceBEq, Int.reduceBNe, e0, List.map]; rfl) rfl ?hv fun _ _ => ?_; case hv => rfl
 refine mI rfl ?_
 refine WpO.nil (hKF _ _ ?_)
 refine Wp.ret ?_
 dsimp only [cond_true, cond_false]
 refine ⟨trivial, _, (by first | rfl | exact getAllC rfl rfl rfl rfl | exact getAllT rfl (getAllC rfl rfl rfl rfl) | exact getAllC rfl rfl rfl (getAllC rfl rfl rfl rfl) | exact getAllC1 rfl rfl rfl), ?_⟩
 exact ⟨rfl, Ext0.ext⟩⟩
end Go.Am

set_option maxHeartbeats 4000000
set_option maxRecDepth 100000
namespace Go.Am
open Go
attribute [local irreducible] Wp WpO WpX WpE

instance K_count {p : AVal} {H : AHeap} {w h : Int} {l : List UInt8} [hp : BytesI H p l] : PureCon ext prog 97 [.agg [.int .i64 w, .int .i64 h, p]] H 2 (.int .i64 (l.count 1 : Nat)) := ⟨by
 refine con_of (show prog 97 = some c97 from rfl) rfl rfl fun n hn => ?_
 haveI := hp.one
 refine sq ?_
 refine rg fun KF hKF => ?_
 refine Fo.boxA rfl ?_
 refine mI rfl ?_
 refine WpO.nil (hKF _ _ ?_)
 refine sq ?_
 refine rg fun KF hKF => ?_
 refine Fo.fa rfl ?_
 refine Fo.ld rfl rfl ?_
 refine Fo.bslice rfl (by simp only [↓nrmL, nrmZ, Nat.reduceEqDiff, ↓reduceIte, Nat.reduceAdd, Int.reduceBEq, Int.reduceBNe]; rfl) ?_
 refine Fo.pcall (v' := ?_) hn rfl (by simp only [↓nrmL, nrmZ, Nat.reduceEqDiff, ↓reduceIte, Nat.reduceAdd, Int.reduceBEq, Int.reduceBNe, List.map]; rfl) rfl ?hv fun _ _ => ?_; case hv => rfl
 refine mI rfl ?_
 refine WpO.nil (hKF _ _ ?_)
 refine Wp.ret ?_
 dsimp only [cond_true, cond_false]
 refine ⟨trivial, _, (by first | rfl | exact getAllC rfl rfl rfl rfl | exact getAllT rfl (getAllC rfl rfl rfl rfl) | exact getAllC rfl rfl rfl (getAllC rfl rfl rfl rfl) | exact getAllC1 rfl rfl rfl), ?_⟩
 exact ⟨rfl, Ext0.ext⟩⟩

/-- The error of an image. -/
def Img.err (g : Img) : Int := bif g.sized then bif pxOk g.px then 0 else 3 else 2
instance K_Check {p : AVal} {H : AHeap} {w h : Int} {l : List UInt8} [hp : BytesI H p l] : PureCon ext prog 27 [.agg [.int .i64 w, .int .i64 h, p]] H 3 (.int .i64 (Img.err ⟨w, h, l⟩)) := ⟨by
 refine con_of (show prog 27 = some c27 from rfl) rfl rfl fun n hn => ?_
 haveI := hp.one
 unfold Img.err Img.sized sizedB
 cases h1 : (sideB w && sideB h && ((l.length : Nat) == IntKind.i64.wrap (w * h)))
 ·skip
  try simp only [↓nrmL, nrmZ, Nat.reduceEqDiff, ↓reduceIte, Nat.reduceAdd, Int.reduceBEq, Int.reduceBNe, h1]
  refine sq ?_
  refine rg fun KF hKF => ?_
  refine Fo.boxA rfl ?_
  refine mI rfl ?_
  refine WpO.nil (hKF _ _ ?_)
  refine sq ?_
  refine sq ?_
  refine rg fun KF hKF => ?_
  refine Fo.fa rfl ?_
  refine Fo.ld rfl rfl ?_
  refine Fo.fa rfl ?_
  refine Fo.ld rfl rfl ?_
  refine Fo.fa rfl ?_
  refine Fo.ld rfl rfl ?_
  refine Fo.len (v := ?_) (by simp only [↓nrmL, nrmK, Nat.reduceEqDiff, ↓reduceIte]; rfl) ?hv ?_; case hv => rfl
  refine Fo.pcall (v' := ?_) hn rfl (by simp only [↓nrmL, nrmZ, Nat.reduceEqDiff, ↓reduceIte, Nat.reduceAdd, Int.reduceBEq, Int.reduceBNe, h1, List.map]; rfl) rfl ?hv fun _ _ => ?_; case hv => (simp only [↓nrmL, nrmZ, Nat.reduceEqDiff, ↓reduceIte, Nat.reduceAdd, Int.reduceBEq, Int.reduceBNe, h1]; rfl)
  refine Fo.now rfl rfl (by simp only [↓nrmL, nrmZ, Nat.reduceEqDiff, ↓reduceIte, Nat.reduceAdd, Int.reduceBEq, Int.reduceBNe, h1]; rfl) ?_
  refine WpO.nil (hKF _ _ ?_)
  refine Wp.cond (b := true) rfl ?_
  refine sq ?_
  refine rg fun KF hKF => ?_
  refine mI rfl ?_
  refine WpO.nil (hKF _ _ ?_)
  refine Wp.ret ?_
  dsimp only [cond_true, cond_false]
  refine ⟨trivial, _, (by first | rfl | exact getAllC rfl rfl rfl rfl | exact getAllT rfl (getAllC rfl rfl rfl rfl) | exact getAllC rfl rfl rfl (getAllC rfl rfl rfl rfl) | exact getAllC1 rfl rfl rfl), ?_⟩
  exact ⟨rfl, Ext0.ext⟩
 ·obtain ⟨a, b, rfl, rfl, ha, hb, hl⟩ := sized_nat (n := l.length) h1
  have hm : a * b ≤ 640 * 640 := Nat.mul_le_mul ha hb
  have hc0 := count_le l 0
  have hc1 := count_le l 1
  have hw := wa (a := l.count 0) (b := l.count 1) (by omega)
  have h2 : (((l.count 0 + l.count 1 : Nat) : Int) != ((l.length : Nat) : Int)) = !(pxOk l) := by
   have := count01 l
   cases hp : pxOk l
   ·have : l.count 0 + l.count 1 ≠ l.length := fun e => by rw [this] at e; rw [hp] at e; cases e
    simp; omega
   ·have := this.2 hp
    simp [this]
  try simp only [↓nrmL, nrmZ, Nat.reduceEqDiff, ↓reduceIte, Nat.reduceAdd, Int.reduceBEq, Int.reduceBNe, h1]
  refine sq ?_
  refine rg fun KF hKF => ?_
  refine Fo.boxA rfl ?_
  refine mI rfl ?_
  refine WpO.nil (hKF _ _ ?_)
  refine sq ?_
  refine sq ?_
  refine rg fun KF hKF => ?_
  refine Fo.fa rfl ?_
  refine Fo.ld rfl rfl ?_
  refine Fo.fa rfl ?_
  refine Fo.ld rfl rfl ?_
  refine Fo.fa rfl ?_
  refine Fo.ld rfl rfl ?_
  refine Fo.len (v := ?_) (by simp only [↓nrmL, nrmK, Nat.reduceEqDiff, ↓reduceIte]; rfl) ?hv ?_; case hv => rfl
  refine Fo.pcall (v' := ?_) hn rfl (by simp only [↓nrmL, nrmZ, Nat.reduceEqDiff, ↓reduceIte, Nat.reduceAdd, Int.reduceBEq, Int.reduceBNe, h1, List.map]; rfl) rfl ?hv fun _ _ => ?_; case hv => (simp only [↓nrmL, nrmZ, Nat.reduceEqDiff, ↓reduceIte, Nat.reduceAdd, Int.reduceBEq, Int.reduceBNe, h1]; rfl)
  refine Fo.now rfl rfl (by simp only [↓nrmL, nrmZ, Nat.reduceEqDiff, ↓reduceIte, Nat.reduceAdd, Int.reduceBEq, Int.reduceBNe, h1]; rfl) ?_
  refine WpO.nil (hKF _ _ ?_)
  refine Wp.cond (b := false) rfl ?_
  refine Wp.skip ?_
  refine sq ?_
  refine sq ?_
  dsimp only [cond_true, cond_false]
  refine Fr.dregionE [.row [.int .u8 0] true (2 * 5)] ?_ fun KF hKF => ?_
  ·skip
   refine oracle_pre rfl rfl rfl rfl ?_; (try simp only [↓nrmL, nrmZ, Nat.reduceEqDiff, ↓reduceIte, Nat.reduceAdd, Int.reduceBEq, Int.reduceBNe])
   refine oracle_pre rfl rfl rfl (exec_ld rfl rfl) ?_; (try simp only [↓nrmL, nrmZ, Nat.reduceEqDiff, ↓reduceIte, Nat.reduceAdd, Int.reduceBEq, Int.reduceBNe])
   refine oracle_made rfl rfl rfl ?_; (try simp only [↓nrmL, nrmZ, Nat.reduceEqDiff, ↓reduceIte, Nat.reduceAdd, Int.reduceBEq, Int.reduceBNe])
   exact oracle_none _ _ _ _ rfl
  simp only [pushAll]
  try simp only [↓nrmL, nrmZ, Nat.reduceEqDiff, ↓reduceIte, Nat.reduceAdd, Int.reduceBEq, Int.reduceBNe, hw]
  refine Fe.pure rfl rfl (by simp only [↓nrmL, nrmZ, Nat.reduceEqDiff, ↓reduceIte, Nat.reduceAdd, Int.reduceBEq, Int.reduceBNe, hw]; rfl) ?_
  refine Fe.read rfl (exec_ld rfl rfl) rfl (by repeat (first | exact trivial | refine ⟨(by first | exact Or.inl (by dsimp only; decide) | exact Or.inr (exec_ld rfl rfl) | exact Or.inr (exec_ldN rfl rfl rfl) | exact Or.inr (exec_ldB rfl (by omega)) | exact Or.inr (exec_ldI rfl (by omega)) | exact Or.inr ghost_of), ?_⟩)) ?_
  refine Fe.made rfl rfl ghost_of (by repeat (first | exact trivial | refine ⟨(by first | exact Or.inl (by dsimp only; decide) | exact Or.inr (exec_ld rfl rfl) | exact Or.inr (exec_ldN rfl rfl rfl) | exact Or.inr (exec_ldB rfl (by omega)) | exact Or.inr (exec_ldI rfl (by omega)) | exact Or.inr ghost_of), ?_⟩)) rfl ?_
  refine Fe.pcall (v' := ?_) rfl hn rfl (by simp only [↓nrmL, nrmZ, Nat.reduceEqDiff, ↓reduceIte, Nat.reduceAdd, Int.reduceBEq, Int.reduceBNe, hw, List.map]; rfl) rfl ?hv fun _ _ => ⟨(by repeat (first | exact trivial | refine ⟨(by first | exact Or.inl (by dsimp only; decide) | exact Or.inr (readOk_of (exec_ld rfl rfl)) | exact Or.inr (readOk_of (exec_ldN rfl rfl rfl)) | exact Or.inr (readOk_of (exec_ldB rfl (by omega))) | exact Or.inr (readOk_of (exec_ldI rfl (by omega))) | exact Or.inr (made_of rfl)), ?_⟩)), ?_⟩; case hv => rfl
  refine Fe.read rfl (exec_ldN rfl rfl (by simp only [↓nrmL, nrmZ, Nat.reduceEqDiff, ↓reduceIte, Nat.reduceAdd, Int.reduceBEq, Int.reduceBNe, hw]; rfl)) rfl (by repeat (first | exact trivial | refine ⟨(by first | exact Or.inl (by dsimp only; decide) | exact Or.inr (exec_ld rfl rfl) | exact Or.inr (exec_ldN rfl rfl rfl) | exact Or.inr (exec_ldB rfl (by omega)) | exact Or.inr (exec_ldI rfl (by omega)) | exact Or.inr ghost_of), ?_⟩)) ?_
  refine Fe.pcall (v' := ?_) rfl hn rfl (by simp only [↓nrmL, nrmZ, Nat.reduceEqDiff, ↓reduceIte, Nat.reduceAdd, Int.reduceBEq, Int.reduceBNe, hw, List.map]; rfl) rfl ?hv fun _ _ => ⟨(by repeat (first | exact trivial | refine ⟨(by first | exact Or.inl (by dsimp only; decide) | exact Or.inr (readOk_of (exec_ld rfl rfl)) | exact Or.inr (readOk_of (exec_ldN rfl rfl rfl)) | exact Or.inr (readOk_of (exec_ldB rfl (by omega))) | exact Or.inr (readOk_of (exec_ldI rfl (by omega))) | exact Or.inr (made_of rfl)), ?_⟩)), ?_⟩; case hv => rfl
  refine Fe.pure rfl rfl (by simp only [↓nrmL, nrmZ, Nat.reduceEqDiff, ↓reduceIte, Nat.reduceAdd, Int.reduceBEq, Int.reduceBNe, hw]; rfl) ?_
  refine Fe.pure rfl rfl (by simp only [↓nrmL, nrmZ, Nat.reduceEqDiff, ↓reduceIte, Nat.reduceAdd, Int.reduceBEq, Int.reduceBNe, hw]; rfl) ?_
  refine Fe.read rfl (exec_ld rfl rfl) rfl (by repeat (first | exact trivial | refine ⟨(by first | exact Or.inl (by dsimp only; decide) | exact Or.inr (exec_ld rfl rfl) | exact Or.inr (exec_ldN rfl rfl rfl) | exact Or.inr (exec_ldB rfl (by omega)) | exact Or.inr (exec_ldI rfl (by omega)) | exact Or.inr ghost_of), ?_⟩)) ?_
  refine Fe.pure rfl (exec_lenP (by (try simp only [↓nrmL, nrmZ, Nat.reduceEqDiff, ↓reduceIte, Nat.reduceAdd, Int.reduceBEq, Int.reduceBNe, hw]); rfl)) rfl ?_
  refine Fe.pure rfl rfl rfl ?_
  refine WpE.nil (hKF _ _ ?_)
  cases hp2 : pxOk l
  ·rw [hp2] at h2
   try simp only [↓nrmL, nrmZ, Nat.reduceEqDiff, ↓reduceIte, Nat.reduceAdd, Int.reduceBEq, Int.reduceBNe, hw, h2]
   refine Wp.cond (b := true) rfl ?_
   refine sq ?_
   refine rg fun KF hKF => ?_
   refine mI rfl ?_
   refine WpO.nil (hKF _ _ ?_)
   refine Wp.ret ?_
   dsimp only [cond_true, cond_false]
   refine ⟨trivial, _, (by first | rfl | exact getAllC rfl rfl rfl rfl | exact getAllT rfl (getAllC rfl rfl rfl rfl) | exact getAllC rfl rfl rfl (getAllC rfl rfl rfl rfl) | exact getAllC1 rfl rfl rfl), ?_⟩
   exact ⟨rfl, Ext0.ext⟩
  ·rw [hp2] at h2
   try simp only [↓nrmL, nrmZ, Nat.reduceEqDiff, ↓reduceIte, Nat.reduceAdd, Int.reduceBEq, Int.reduceBNe, hw, h2]
   refine Wp.cond (b := false) rfl ?_
   refine Wp.skip ?_
   refine sq ?_
   refine rg fun KF hKF => ?_
   refine mI rfl ?_
   refine WpO.nil (hKF _ _ ?_)
   refine Wp.ret ?_
   dsimp only [cond_true, cond_false]
   refine ⟨trivial, _, (by first | rfl | exact getAllC rfl rfl rfl rfl | exact getAllT rfl (getAllC rfl rfl rfl rfl) | exact getAllC rfl rfl rfl (getAllC rfl rfl rfl rfl) | exact getAllC1 rfl rfl rfl), ?_⟩
   exact ⟨rfl, Ext0.ext⟩⟩
end Go.Am

set_option maxHeartbeats 4000000
set_option maxRecDepth 100000
namespace Go.Am
open Go
attribute [local irreducible] Wp WpO WpX WpE

theorem K_Clone {H : AHeap} {p : AVal} {l : List UInt8} [hp : BytesI H p l] (hl : l.length < 2 ^ 40) : Con ext prog 1 127 [p] H fun v H' => NewBytes H H' v l := by
 refine con_of (show prog 127 = some c127 from rfl) rfl rfl fun n hn => ?_
 rcases hp.it with ⟨rfl, h0, _⟩ | ⟨r, off, cap, row, rw, e, rfl, hr, hg, hle, hc, _⟩
 ·have : l = [] := List.eq_nil_of_length_eq_zero h0
  subst this
  refine sq ?_
  refine rg fun KF hKF => ?_
  refine mN rfl ?_
  refine WpO.nil (hKF _ _ ?_)
  refine sq ?_
  refine sq ?_
  refine rg fun KF hKF => ?_
  refine mN rfl ?_
  refine Fo.now rfl rfl (by simp only [↓nrmL, nrmZ, Nat.reduceEqDiff, ↓reduceIte]; rfl) ?_
  refine WpO.nil (hKF _ _ ?_)
  refine Wp.cond (b := true) rfl ?_
  refine sq ?_
  refine rg fun KF hKF => ?_
  refine mN rfl ?_
  refine WpO.nil (hKF _ _ ?_)
  refine Wp.ret ?_
  dsimp only [cond_true, cond_false]
  refine ⟨trivial, _, rfl, ?_⟩
  exact (show NewBytes H H .nslice [] from ⟨inferInstance, ⟨fun _ _ _ _ _ e => by cases e⟩, ⟨fun _ _ _ _ _ e => by cases e⟩, Ext0.ext⟩)
 ·skip
  refine sq ?_
  refine rg fun KF hKF => ?_
  refine mN rfl ?_
  refine WpO.nil (hKF _ _ ?_)
  refine sq ?_
  refine sq ?_
  refine rg fun KF hKF => ?_
  refine Fo.mov (by simp only [↓nrmL, nrmK, Nat.reduceEqDiff, ↓reduceIte]; rfl) ?_
  refine Fo.now rfl rfl (by simp only [↓nrmL, nrmZ, Nat.reduceEqDiff, ↓reduceIte]; rfl) ?_
  refine WpO.nil (hKF _ _ ?_)
  refine Wp.cond (b := false) rfl ?_
  refine Wp.skip ?_
  refine sq ?_
  refine rg fun KF hKF => ?_
  refine Fo.bslice rfl rfl ?_
  refine Fo.mov (by simp only [↓nrmL, nrmK, Nat.reduceEqDiff, ↓reduceIte]; rfl) ?_
  refine WpO.do (WpX.appendE rfl (by simp only [↓nrmL, nrmZ, Nat.reduceEqDiff, ↓reduceIte, List.map] <;> rfl) hl fun v H1 h1 h2 h3 h4 => ?_)
  refine Fo.mov (by simp only [↓nrmL, nrmK, Nat.reduceEqDiff, ↓reduceIte]; rfl) ?_
  refine WpO.nil (hKF _ _ ?_)
  refine Wp.ret ?_
  dsimp only [cond_true, cond_false]
  refine ⟨trivial, _, rfl, ?_⟩
  refine (show NewBytes H H1 v l from ⟨h1, ⟨fun r' _ _ _ _ e => ?_⟩, h3, Ext0.ext⟩)
  rcases h2 _ _ _ _ _ e with rfl | h5
  ·exact Nat.le_refl _
  ·exact Nat.le_trans (Nat.le_succ _) h5

theorem K_twin {H : AHeap} {a b : Int} {p : AVal} {l : List UInt8} [hp : BytesI H p l] (hl : l.length < 2 ^ 40) : Con ext prog 2 98 [.agg [.int .i64 a, .int .i64 b, p]] H fun v H' => NewInk H H' v ⟨a, b, l⟩ := by
 refine con_of (show prog 98 = some c98 from rfl) rfl rfl fun n hn => ?_
 haveI := hp.one
 refine sq ?_
 refine rg fun KF hKF => ?_
 refine Fo.boxA rfl ?_
 refine Fo.new ?_
 refine WpO.nil (hKF _ _ ?_)
 refine sq ?_
 refine Fr.dregion0 rfl fun KF hKF => ?_
 refine Fe.pure rfl rfl (by simp only [↓nrmL, nrmZ, Nat.reduceEqDiff, ↓reduceIte]; rfl) ?_
 refine Fe.read rfl (exec_ld rfl rfl) rfl (by repeat (first | exact trivial | refine ⟨(by first | exact Or.inl (by dsimp only; decide) | exact Or.inr (exec_ld rfl rfl) | exact Or.inr (exec_ldN rfl rfl rfl) | exact Or.inr (exec_ldB rfl (by omega)) | exact Or.inr (exec_ldI rfl (by omega)) | exact Or.inr ghost_of), ?_⟩)) ?_
 refine Fe.pure rfl rfl (by simp only [↓nrmL, nrmZ, Nat.reduceEqDiff, ↓reduceIte]; rfl) ?_
 refine Fe.read rfl (exec_ld rfl rfl) rfl (by repeat (first | exact trivial | refine ⟨(by first | exact Or.inl (by dsimp only; decide) | exact Or.inr (exec_ld rfl rfl) | exact Or.inr (exec_ldN rfl rfl rfl) | exact Or.inr (exec_ldB rfl (by omega)) | exact Or.inr (exec_ldI rfl (by omega)) | exact Or.inr ghost_of), ?_⟩)) ?_
 refine Fe.pure rfl rfl (by simp only [↓nrmL, nrmZ, Nat.reduceEqDiff, ↓reduceIte]; rfl) ?_
 refine Fe.read rfl (exec_ld rfl rfl) rfl (by repeat (first | exact trivial | refine ⟨(by first | exact Or.inl (by dsimp only; decide) | exact Or.inr (exec_ld rfl rfl) | exact Or.inr (exec_ldN rfl rfl rfl) | exact Or.inr (exec_ldB rfl (by omega)) | exact Or.inr (exec_ldI rfl (by omega)) | exact Or.inr ghost_of), ?_⟩)) ?_
 refine Fe.con rfl hn rfl rfl (by simp only [↓nrmL, nrmZ, Nat.reduceEqDiff, ↓reduceIte, List.map] <;> rfl) (K_Clone hl) fun v H1 ⟨h1, h2, h3, h4⟩ => ?_
 haveI : ExtI _ H1 := ⟨h4⟩
 haveI := h1.one
 refine ⟨(by repeat (first | exact trivial | refine ⟨(by first | exact Or.inl (by dsimp only; decide) | exact Or.inr (readOk_of (exec_ld rfl rfl)) | exact Or.inr (readOk_of (exec_ldN rfl rfl rfl)) | exact Or.inr (readOk_of (exec_ldB rfl (by omega))) | exact Or.inr (readOk_of (exec_ldI rfl (by omega))) | exact Or.inr (made_of rfl)), ?_⟩)), ?_⟩
 refine Fe.pure rfl (exec_build (by repeat (first | refine aFill1 (by (try simp only [↓nrmL, nrmZ, Nat.reduceEqDiff, ↓reduceIte]); rfl) rfl ?_ | rfl))) (by simp only [↓nrmL, nrmZ, Nat.reduceEqDiff, ↓reduceIte]; rfl) ?_
 refine Fe.effect0 rfl (exec_st rfl (by (try simp only [↓nrmL, nrmZ, Nat.reduceEqDiff, ↓reduceIte]); rfl) rfl rfl rfl (by repeat (first | rfl | refine allOne_cons ?_)) (by (try simp only [↓nrmL, nrmZ, Nat.reduceEqDiff, ↓reduceIte]); rfl)) (by repeat (first | exact trivial | refine ⟨(by first | exact Or.inl (by dsimp only; decide) | exact Or.inr (readOk_of (exec_ld rfl rfl)) | exact Or.inr (readOk_of (exec_ldN rfl rfl rfl)) | exact Or.inr (readOk_of (exec_ldB rfl (by omega))) | exact Or.inr (readOk_of (exec_ldI rfl (by omega))) | exact Or.inr (made_of rfl)), ?_⟩)) ?_
 refine WpE.nil (hKF _ _ ?_)
 refine Wp.ret ?_
 dsimp only [cond_true, cond_false]
 refine ⟨trivial, _, (getAllC rfl rfl rfl rfl), ?_⟩
 exact ⟨v, rfl, inferInstance, h2.weak, inferInstance, Ext0.ext⟩
/-- The amount of ink, or the error. -/
instance K_Count {p : AVal} {H : AHeap} {w h : Int} {l : List UInt8} [hp : BytesI H p l] : PureCon ext prog 22 [.agg [.int .i64 w, .int .i64 h, p]] H 4 (.tuple [.int .i64 (bif (Img.err ⟨w, h, l⟩ == 0) then (l.count 1 : Nat) else 0), .int .i64 (Img.err ⟨w, h, l⟩)]) := ⟨by
 refine con_of (show prog 22 = some c22 from rfl) rfl rfl fun n hn => ?_
 haveI := hp.one
 generalize he : Img.err ⟨w, h, l⟩ = e
 cases h0 : (e == 0)
 ·skip
  try simp only [↓nrmL, nrmZ, Nat.reduceEqDiff, ↓reduceIte, h0, he, bne]
  refine sq ?_
  refine rg fun KF hKF => ?_
  refine Fo.boxA rfl ?_
  refine mI rfl ?_
  refine mI rfl ?_
  refine WpO.nil (hKF _ _ ?_)
  refine sq ?_
  refine sq ?_
  refine rg fun KF hKF => ?_
  refine Fo.ldN rfl rfl (by simp only [↓nrmL, nrmZ, Nat.reduceEqDiff, ↓reduceIte, h0, he, bne]; rfl) ?_
  refine Fo.pcall (v' := ?_) hn rfl (by simp only [↓nrmL, nrmZ, Nat.reduceEqDiff, ↓reduceIte, h0, he, bne, List.map]; rfl) rfl ?hv fun _ _ => ?_; case hv => (simp only [↓nrmL, nrmZ, Nat.reduceEqDiff, ↓reduceIte, h0, he, bne]; rfl)
  refine mI rfl ?_
  refine WpO.nil (hKF _ _ ?_)
  refine sq ?_
  refine rg fun KF hKF => ?_
  refine mI rfl ?_
  refine Fo.bin rfl rfl rfl (by simp only [↓nrmL, nrmZ, Nat.reduceEqDiff, ↓reduceIte, h0, he, bne]; rfl) ?_
  refine WpO.nil (hKF _ _ ?_)
  refine Wp.cond (b := true) rfl ?_
  refine sq ?_
  refine rg fun KF hKF => ?_
  refine mI rfl ?_
  refine mI rfl ?_
  refine mI rfl ?_
  refine WpO.nil (hKF _ _ ?_)
  refine Wp.ret ?_
  dsimp only [cond_true, cond_false]
  refine ⟨trivial, _, rfl, ?_⟩
  exact ⟨rfl, Ext0.ext⟩
 ·have : e = 0 := by simpa using h0
  subst this
  try simp only [↓nrmL, nrmZ, Nat.reduceEqDiff, ↓reduceIte, h0, he, bne]
  refine sq ?_
  refine rg fun KF hKF => ?_
  refine Fo.boxA rfl ?_
  refine mI rfl ?_
  refine mI rfl ?_
  refine WpO.nil (hKF _ _ ?_)
  refine sq ?_
  refine sq ?_
  refine rg fun KF hKF => ?_
  refine Fo.ldN rfl rfl (by simp only [↓nrmL, nrmZ, Nat.reduceEqDiff, ↓reduceIte, h0, he, bne]; rfl) ?_
  refine Fo.pcall (v' := ?_) hn rfl (by simp only [↓nrmL, nrmZ, Nat.reduceEqDiff, ↓reduceIte, h0, he, bne, List.map]; rfl) rfl ?hv fun _ _ => ?_; case hv => (simp only [↓nrmL, nrmZ, Nat.reduceEqDiff, ↓reduceIte, h0, he, bne]; rfl)
  refine mI rfl ?_
  refine WpO.nil (hKF _ _ ?_)
  refine sq ?_
  refine rg fun KF hKF => ?_
  refine mI rfl ?_
  refine Fo.bin rfl rfl rfl (by simp only [↓nrmL, nrmZ, Nat.reduceEqDiff, ↓reduceIte, h0, he, bne]; rfl) ?_
  refine WpO.nil (hKF _ _ ?_)
  refine Wp.cond (b := false) rfl ?_
  refine Wp.skip ?_
  refine sq ?_
  refine rg fun KF hKF => ?_
  refine Fo.ldN rfl rfl (by simp only [↓nrmL, nrmZ, Nat.reduceEqDiff, ↓reduceIte, h0, he, bne]; rfl) ?_
  refine Fo.pcall (v' := ?_) hn rfl (by simp only [↓nrmL, nrmZ, Nat.reduceEqDiff, ↓reduceIte, h0, he, bne, List.map]; rfl) rfl ?hv fun _ _ => ?_; case hv => rfl
  refine mI rfl ?_
  refine mI rfl ?_
  refine WpO.nil (hKF _ _ ?_)
  refine Wp.ret ?_
  dsimp only [cond_true, cond_false]
  refine ⟨trivial, _, rfl, ?_⟩
  exact ⟨rfl, Ext0.ext⟩⟩
end Go.Am

set_option maxHeartbeats 4000000
set_option maxRecDepth 100000
namespace Go.Am
open Go
attribute [local irreducible] Wp WpO WpX WpE

theorem Img.ok {g : Img} (h : (g.err == 0) = true) : g.sized = true ∧ pxOk g.px = true := by
 unfold Img.err at h
 cases h1 : g.sized
 ·rw [h1] at h; cases h
 ·cases h2 : pxOk g.px
  ·rw [h1, h2] at h; cases h
  ·exact ⟨rfl, rfl⟩

end Go.Am

set_option maxHeartbeats 4000000
set_option maxRecDepth 100000
namespace Go.Am
open Go
attribute [local irreducible] Wp WpO WpX WpE

/-- What two images are combined to. -/
def combSpec (op : UInt8 → UInt8 → UInt8) (g h : Img) : Img × Int :=
 bif g.err == 0 then bif h.err == 0 then bif g.w == h.w && g.h == h.h then (⟨g.w, g.h, List.zipWith op g.px h.px⟩, 0) else (.zero, 2) else (.zero, h.err) else (.zero, g.err)
/-- A function of two pixels. -/
class PixFn (F : FuncId) (op : outParam (UInt8 → UInt8 → UInt8)) : Prop where
 con : ∀ (a b : UInt8) (H : AHeap), PureCon ext prog F [.int .u8 (a.toNat : Int), .int .u8 (b.toNat : Int)] H 1 (.int .u8 ((op a b).toNat : Int))
instance {F : FuncId} {op : UInt8 → UInt8 → UInt8} {a b : UInt8} {H : AHeap} [h : PixFn F op] : PureCon ext prog F [.int .u8 (a.toNat : Int), .int .u8 (b.toNat : Int)] H 1 (.int .u8 ((op a b).toNat : Int)) := h.con a b H

instance pixDistance : PixFn 101 (· ^^^ ·) := ⟨fun a b H => ⟨by
 refine con_of (show prog 101 = some c101 from rfl) rfl rfl fun n hn => ?_
 have h1 := bits_xor a b
 try simp only [↓nrmL, nrmZ, Nat.reduceEqDiff, ↓reduceIte, h1]
 refine sq ?_
 refine rg fun KF hKF => ?_
 refine mI rfl ?_
 refine WpO.nil (hKF _ _ ?_)
 refine sq ?_
 refine rg fun KF hKF => ?_
 refine mI rfl ?_
 refine mI rfl ?_
 refine Fo.bin rfl rfl rfl (by simp only [↓nrmL, nrmZ, Nat.reduceEqDiff, ↓reduceIte, h1]; rfl) ?_
 refine mI rfl ?_
 refine WpO.nil (hKF _ _ ?_)
 refine Wp.ret ?_
 dsimp only [cond_true, cond_false]
 refine ⟨trivial, _, rfl, ?_⟩
 exact ⟨rfl, Ext0.ext⟩⟩⟩
instance pixOr : PixFn 147 (· ||| ·) := ⟨fun a b H => ⟨by
 refine con_of (show prog 147 = some c147 from rfl) rfl rfl fun n hn => ?_
 have h1 := bits_or a b
 try simp only [↓nrmL, nrmZ, Nat.reduceEqDiff, ↓reduceIte, h1]
 refine sq ?_
 refine rg fun KF hKF => ?_
 refine mI rfl ?_
 refine WpO.nil (hKF _ _ ?_)
 refine sq ?_
 refine rg fun KF hKF => ?_
 refine mI rfl ?_
 refine mI rfl ?_
 refine Fo.bin rfl rfl rfl (by simp only [↓nrmL, nrmZ, Nat.reduceEqDiff, ↓reduceIte, h1]; rfl) ?_
 refine mI rfl ?_
 refine WpO.nil (hKF _ _ ?_)
 refine Wp.ret ?_
 dsimp only [cond_true, cond_false]
 refine ⟨trivial, _, rfl, ?_⟩
 exact ⟨rfl, Ext0.ext⟩⟩⟩
instance pixAnd : PixFn 148 (· &&& ·) := ⟨fun a b H => ⟨by
 refine con_of (show prog 148 = some c148 from rfl) rfl rfl fun n hn => ?_
 have h1 := bits_and a b
 try simp only [↓nrmL, nrmZ, Nat.reduceEqDiff, ↓reduceIte, h1]
 refine sq ?_
 refine rg fun KF hKF => ?_
 refine mI rfl ?_
 refine WpO.nil (hKF _ _ ?_)
 refine sq ?_
 refine rg fun KF hKF => ?_
 refine mI rfl ?_
 refine mI rfl ?_
 refine Fo.bin rfl rfl rfl (by simp only [↓nrmL, nrmZ, Nat.reduceEqDiff, ↓reduceIte, h1]; rfl) ?_
 refine mI rfl ?_
 refine WpO.nil (hKF _ _ ?_)
 refine Wp.ret ?_
 dsimp only [cond_true, cond_false]
 refine ⟨trivial, _, rfl, ?_⟩
 exact ⟨rfl, Ext0.ext⟩⟩⟩
instance pixLess : PixFn 149 (fun a b => a &&& ~~~b) := ⟨fun a b H => ⟨by
 refine con_of (show prog 149 = some c149 from rfl) rfl rfl fun n hn => ?_
 have h1 := bits_andNot a b
 try simp only [↓nrmL, nrmZ, Nat.reduceEqDiff, ↓reduceIte, h1]
 refine sq ?_
 refine rg fun KF hKF => ?_
 refine mI rfl ?_
 refine WpO.nil (hKF _ _ ?_)
 refine sq ?_
 refine rg fun KF hKF => ?_
 refine mI rfl ?_
 refine mI rfl ?_
 refine Fo.bin rfl rfl rfl (by simp only [↓nrmL, nrmZ, Nat.reduceEqDiff, ↓reduceIte, h1]; rfl) ?_
 refine mI rfl ?_
 refine WpO.nil (hKF _ _ ?_)
 refine Wp.ret ?_
 dsimp only [cond_true, cond_false]
 refine ⟨trivial, _, rfl, ?_⟩
 exact ⟨rfl, Ext0.ext⟩⟩⟩

theorem K_combine {p q : AVal} {H : AHeap} {w h w' h' : Int} {l m : List UInt8} {F : FuncId} {op : UInt8 → UInt8 → UInt8} [hp : BytesI H p l] [hq : BytesI H q m] [hF : PixFn F op] : Con ext prog 4 100 [.agg [.int .i64 w, .int .i64 h, p], .agg [.int .i64 w', .int .i64 h', q], .func (.func F) [] []] H fun v H' => InkRes H H' v (combSpec op ⟨w, h, l⟩ ⟨w', h', m⟩) := by
 refine con_of (show prog 100 = some c100 from rfl) rfl rfl fun n hn => ?_
 haveI := hp.one
 haveI := hq.one
 unfold combSpec
 cases h0 : (Img.err ⟨w, h, l⟩ == 0)
 ·skip
  try simp only [↓nrmL, nrmZ, Nat.reduceEqDiff, ↓reduceIte, h0, bne]
  refine sq ?_
  refine rg fun KF hKF => ?_
  refine Fo.boxA rfl ?_
  refine Fo.boxA rfl ?_
  refine Fo.new ?_
  refine mI rfl ?_
  refine WpO.nil (hKF _ _ ?_)
  refine sq ?_
  refine sq ?_
  refine rg fun KF hKF => ?_
  refine Fo.ldN rfl rfl (by simp only [↓nrmL, nrmZ, Nat.reduceEqDiff, ↓reduceIte, h0, bne]; rfl) ?_
  refine Fo.pcall (v' := ?_) hn rfl (by simp only [↓nrmL, nrmZ, Nat.reduceEqDiff, ↓reduceIte, h0, bne, List.map]; rfl) rfl ?hv fun _ _ => ?_; case hv => rfl
  refine mI rfl ?_
  refine WpO.nil (hKF _ _ ?_)
  refine sq ?_
  refine rg fun KF hKF => ?_
  refine mI rfl ?_
  refine Fo.bin rfl rfl rfl (by simp only [↓nrmL, nrmZ, Nat.reduceEqDiff, ↓reduceIte, h0, bne]; rfl) ?_
  refine WpO.nil (hKF _ _ ?_)
  refine Wp.cond (b := true) rfl ?_
  refine sq ?_
  refine rg fun KF hKF => ?_
  refine Fo.build (by repeat (first | refine aFill1 (by first | exact (rfl : _ = AVal.int _ _) | exact (rfl : _ = AVal.ptr _ _) | exact (rfl : _ = AVal.bool _) | exact (rfl : _ = AVal.agg _) | exact (rfl : _ = AVal.tuple _) | exact (rfl : _ = AVal.func _ _ _) | exact (rfl : _ = AVal.nslice) | ((try simp only [↓nrmL, nrmK, Nat.reduceEqDiff, ↓reduceIte]); rfl)) rfl ?_ | rfl)) rfl ?_
  refine mI rfl ?_
  refine Fo.st rfl (rfl : _ = AVal.agg _) rfl rfl rfl (by repeat (first | rfl | refine allOne_cons ?_)) (by simp only [↓nrmL, nrmZ, Nat.reduceEqDiff, ↓reduceIte, h0, bne]; rfl) ?_
  refine mI rfl ?_
  refine WpO.nil (hKF _ _ ?_)
  refine Wp.ret ?_
  dsimp only [cond_true, cond_false]
  refine ⟨trivial, _, (getAllC rfl rfl rfl rfl), ?_⟩
  exact ⟨_, rfl, newZero⟩
 cases h1 : (Img.err ⟨w', h', m⟩ == 0)
 ·skip
  try simp only [↓nrmL, nrmZ, Nat.reduceEqDiff, ↓reduceIte, h0, h1, bne]
  refine sq ?_
  refine rg fun KF hKF => ?_
  refine Fo.boxA rfl ?_
  refine Fo.boxA rfl ?_
  refine Fo.new ?_
  refine mI rfl ?_
  refine WpO.nil (hKF _ _ ?_)
  refine sq ?_
  refine sq ?_
  refine rg fun KF hKF => ?_
  refine Fo.ldN rfl rfl (by simp only [↓nrmL, nrmZ, Nat.reduceEqDiff, ↓reduceIte, h0, h1, bne]; rfl) ?_
  refine Fo.pcall (v' := ?_) hn rfl (by simp only [↓nrmL, nrmZ, Nat.reduceEqDiff, ↓reduceIte, h0, h1, bne, List.map]; rfl) rfl ?hv fun _ _ => ?_; case hv => rfl
  refine mI rfl ?_
  refine WpO.nil (hKF _ _ ?_)
  refine sq ?_
  refine rg fun KF hKF => ?_
  refine mI rfl ?_
  refine Fo.bin rfl rfl rfl (by simp only [↓nrmL, nrmZ, Nat.reduceEqDiff, ↓reduceIte, h0, h1, bne]; rfl) ?_
  refine WpO.nil (hKF _ _ ?_)
  refine Wp.cond (b := false) rfl ?_
  refine Wp.skip ?_
  refine sq ?_
  refine sq ?_
  refine rg fun KF hKF => ?_
  refine Fo.ldN rfl rfl (by simp only [↓nrmL, nrmZ, Nat.reduceEqDiff, ↓reduceIte, h0, h1, bne]; rfl) ?_
  refine Fo.pcall (v' := ?_) hn rfl (by simp only [↓nrmL, nrmZ, Nat.reduceEqDiff, ↓reduceIte, h0, h1, bne, List.map]; rfl) rfl ?hv fun _ _ => ?_; case hv => rfl
  refine mI rfl ?_
  refine WpO.nil (hKF _ _ ?_)
  refine sq ?_
  refine rg fun KF hKF => ?_
  refine mI rfl ?_
  refine Fo.bin rfl rfl rfl (by simp only [↓nrmL, nrmZ, Nat.reduceEqDiff, ↓reduceIte, h0, h1, bne]; rfl) ?_
  refine WpO.nil (hKF _ _ ?_)
  refine Wp.cond (b := true) rfl ?_
  refine sq ?_
  refine rg fun KF hKF => ?_
  refine Fo.build (by repeat (first | refine aFill1 (by first | exact (rfl : _ = AVal.int _ _) | exact (rfl : _ = AVal.ptr _ _) | exact (rfl : _ = AVal.bool _) | exact (rfl : _ = AVal.agg _) | exact (rfl : _ = AVal.tuple _) | exact (rfl : _ = AVal.func _ _ _) | exact (rfl : _ = AVal.nslice) | ((try simp only [↓nrmL, nrmK, Nat.reduceEqDiff, ↓reduceIte]); rfl)) rfl ?_ | rfl)) rfl ?_
  refine mI rfl ?_
  refine Fo.st rfl (rfl : _ = AVal.agg _) rfl rfl rfl (by repeat (first | rfl | refine allOne_cons ?_)) (by simp only [↓nrmL, nrmZ, Nat.reduceEqDiff, ↓reduceIte, h0, h1, bne]; rfl) ?_
  refine mI rfl ?_
  refine WpO.nil (hKF _ _ ?_)
  refine Wp.ret ?_
  dsimp only [cond_true, cond_false]
  refine ⟨trivial, _, (getAllC rfl rfl rfl rfl), ?_⟩
  exact ⟨_, rfl, newZero⟩
 cases h2 : (w == w')
 ·simp only [cond_true, Bool.false_and, cond_false]
  try simp only [↓nrmL, nrmZ, Nat.reduceEqDiff, ↓reduceIte, h0, h1, h2, bne]
  refine sq ?_
  refine rg fun KF hKF => ?_
  refine Fo.boxA rfl ?_
  refine Fo.boxA rfl ?_
  refine Fo.new ?_
  refine mI rfl ?_
  refine WpO.nil (hKF _ _ ?_)
  refine sq ?_
  refine sq ?_
  refine rg fun KF hKF => ?_
  refine Fo.ldN rfl rfl (by simp only [↓nrmL, nrmZ, Nat.reduceEqDiff, ↓reduceIte, h0, h1, h2, bne]; rfl) ?_
  refine Fo.pcall (v' := ?_) hn rfl (by simp only [↓nrmL, nrmZ, Nat.reduceEqDiff, ↓reduceIte, h0, h1, h2, bne, List.map]; rfl) rfl ?hv fun _ _ => ?_; case hv => rfl
  refine mI rfl ?_
  refine WpO.nil (hKF _ _ ?_)
  refine sq ?_
  refine rg fun KF hKF => ?_
  refine mI rfl ?_
  refine Fo.bin rfl rfl rfl (by simp only [↓nrmL, nrmZ, Nat.reduceEqDiff, ↓reduceIte, h0, h1, h2, bne]; rfl) ?_
  refine WpO.nil (hKF _ _ ?_)
  refine Wp.cond (b := false) rfl ?_
  refine Wp.skip ?_
  refine sq ?_
  refine sq ?_
  refine rg fun KF hKF => ?_
  refine Fo.ldN rfl rfl (by simp only [↓nrmL, nrmZ, Nat.reduceEqDiff, ↓reduceIte, h0, h1, h2, bne]; rfl) ?_
  refine Fo.pcall (v' := ?_) hn rfl (by simp only [↓nrmL, nrmZ, Nat.reduceEqDiff, ↓reduceIte, h0, h1, h2, bne, List.map]; rfl) rfl ?hv fun _ _ => ?_; case hv => rfl
  refine mI rfl ?_
  refine WpO.nil (hKF _ _ ?_)
  refine sq ?_
  refine rg fun KF hKF => ?_
  refine mI rfl ?_
  refine Fo.bin rfl rfl rfl (by simp only [↓nrmL, nrmZ, Nat.reduceEqDiff, ↓reduceIte, h0, h1, h2, bne]; rfl) ?_
  refine WpO.nil (hKF _ _ ?_)
  refine Wp.cond (b := false) rfl ?_
  refine Wp.skip ?_
  refine sq ?_
  refine sq ?_
  refine rg fun KF hKF => ?_
  refine Fo.fa rfl ?_
  refine Fo.ld rfl rfl ?_
  refine Fo.fa rfl ?_
  refine Fo.ld rfl rfl ?_
  refine Fo.bin rfl rfl rfl (by simp only [↓nrmL, nrmZ, Nat.reduceEqDiff, ↓reduceIte, h0, h1, h2, bne]; rfl) ?_
  refine mB rfl ?_
  refine Fo.no rfl rfl ?_
  refine Fo.no rfl rfl ?_
  refine Fo.no rfl rfl ?_
  refine Fo.no rfl rfl ?_
  refine Fo.no rfl rfl ?_
  refine tB rfl rfl ?_
  refine WpO.nil (hKF _ _ ?_)
  refine Wp.cond (b := true) rfl ?_
  refine sq ?_
  refine rg fun KF hKF => ?_
  refine Fo.build (by repeat (first | refine aFill1 (by first | exact (rfl : _ = AVal.int _ _) | exact (rfl : _ = AVal.ptr _ _) | exact (rfl : _ = AVal.bool _) | exact (rfl : _ = AVal.agg _) | exact (rfl : _ = AVal.tuple _) | exact (rfl : _ = AVal.func _ _ _) | exact (rfl : _ = AVal.nslice) | ((try simp only [↓nrmL, nrmK, Nat.reduceEqDiff, ↓reduceIte]); rfl)) rfl ?_ | rfl)) rfl ?_
  refine Fo.st rfl (rfl : _ = AVal.agg _) rfl rfl rfl (by repeat (first | rfl | refine allOne_cons ?_)) (by simp only [↓nrmL, nrmZ, Nat.reduceEqDiff, ↓reduceIte, h0, h1, h2, bne]; rfl) ?_
  refine mI rfl ?_
  refine WpO.nil (hKF _ _ ?_)
  refine Wp.ret ?_
  dsimp only [cond_true, cond_false]
  refine ⟨trivial, _, (getAllC rfl rfl rfl rfl), ?_⟩
  exact ⟨_, rfl, newZero⟩
 cases h3 : (h == h')
 ·simp only [cond_true, Bool.and_false, cond_false]
  try simp only [↓nrmL, nrmZ, Nat.reduceEqDiff, ↓reduceIte, h0, h1, h2, h3, bne]
  refine sq ?_
  refine rg fun KF hKF => ?_
  refine Fo.boxA rfl ?_
  refine Fo.boxA rfl ?_
  refine Fo.new ?_
  refine mI rfl ?_
  refine WpO.nil (hKF _ _ ?_)
  refine sq ?_
  refine sq ?_
  refine rg fun KF hKF => ?_
  refine Fo.ldN rfl rfl (by simp only [↓nrmL, nrmZ, Nat.reduceEqDiff, ↓reduceIte, h0, h1, h2, h3, bne]; rfl) ?_
  refine Fo.pcall (v' := ?_) hn rfl (by simp only [↓nrmL, nrmZ, Nat.reduceEqDiff, ↓reduceIte, h0, h1, h2, h3, bne, List.map]; rfl) rfl ?hv fun _ _ => ?_; case hv => rfl
  refine mI rfl ?_
  refine WpO.nil (hKF _ _ ?_)
  refine sq ?_
  refine rg fun KF hKF => ?_
  refine mI rfl ?_
  refine Fo.bin rfl rfl rfl (by simp only [↓nrmL, nrmZ, Nat.reduceEqDiff, ↓reduceIte, h0, h1, h2, h3, bne]; rfl) ?_
  refine WpO.nil (hKF _ _ ?_)
  refine Wp.cond (b := false) rfl ?_
  refine Wp.skip ?_
  refine sq ?_
  refine sq ?_
  refine rg fun KF hKF => ?_
  refine Fo.ldN rfl rfl (by simp only [↓nrmL, nrmZ, Nat.reduceEqDiff, ↓reduceIte, h0, h1, h2, h3, bne]; rfl) ?_
  refine Fo.pcall (v' := ?_) hn rfl (by simp only [↓nrmL, nrmZ, Nat.reduceEqDiff, ↓reduceIte, h0, h1, h2, h3, bne, List.map]; rfl) rfl ?hv fun _ _ => ?_; case hv => rfl
  refine mI rfl ?_
  refine WpO.nil (hKF _ _ ?_)
  refine sq ?_
  refine rg fun KF hKF => ?_
  refine mI rfl ?_
  refine Fo.bin rfl rfl rfl (by simp only [↓nrmL, nrmZ, Nat.reduceEqDiff, ↓reduceIte, h0, h1, h2, h3, bne]; rfl) ?_
  refine WpO.nil (hKF _ _ ?_)
  refine Wp.cond (b := false) rfl ?_
  refine Wp.skip ?_
  refine sq ?_
  refine sq ?_
  refine rg fun KF hKF => ?_
  refine Fo.fa rfl ?_
  refine Fo.ld rfl rfl ?_
  refine Fo.fa rfl ?_
  refine Fo.ld rfl rfl ?_
  refine Fo.bin rfl rfl rfl (by simp only [↓nrmL, nrmZ, Nat.reduceEqDiff, ↓reduceIte, h0, h1, h2, h3, bne]; rfl) ?_
  refine mB rfl ?_
  refine Fo.yes rfl rfl ?_
  refine Fo.fa rfl ?_
  refine Fo.yes rfl rfl ?_
  refine Fo.ld rfl rfl ?_
  refine Fo.yes rfl rfl ?_
  refine Fo.fa rfl ?_
  refine Fo.yes rfl rfl ?_
  refine Fo.ld rfl rfl ?_
  refine Fo.yes rfl rfl ?_
  refine Fo.bin rfl rfl rfl (by simp only [↓nrmL, nrmZ, Nat.reduceEqDiff, ↓reduceIte, h0, h1, h2, h3, bne]; rfl) ?_
  refine fB rfl rfl ?_
  refine WpO.nil (hKF _ _ ?_)
  refine Wp.cond (b := true) rfl ?_
  refine sq ?_
  refine rg fun KF hKF => ?_
  refine Fo.build (by repeat (first | refine aFill1 (by first | exact (rfl : _ = AVal.int _ _) | exact (rfl : _ = AVal.ptr _ _) | exact (rfl : _ = AVal.bool _) | exact (rfl : _ = AVal.agg _) | exact (rfl : _ = AVal.tuple _) | exact (rfl : _ = AVal.func _ _ _) | exact (rfl : _ = AVal.nslice) | ((try simp only [↓nrmL, nrmK, Nat.reduceEqDiff, ↓reduceIte]); rfl)) rfl ?_ | rfl)) rfl ?_
  refine Fo.st rfl (rfl : _ = AVal.agg _) rfl rfl rfl (by repeat (first | rfl | refine allOne_cons ?_)) (by simp only [↓nrmL, nrmZ, Nat.reduceEqDiff, ↓reduceIte, h0, h1, h2, h3, bne]; rfl) ?_
  refine mI rfl ?_
  refine WpO.nil (hKF _ _ ?_)
  refine Wp.ret ?_
  dsimp only [cond_true, cond_false]
  refine ⟨trivial, _, (getAllC rfl rfl rfl rfl), ?_⟩
  exact ⟨_, rfl, newZero⟩
 simp only [cond_true, Bool.and_self]
 obtain rfl : w = w' := by simpa using h2
 obtain rfl : h = h' := by simpa using h3
 obtain ⟨a, b, hwa, hhb, ha, hb, hl⟩ := sized_nat (Img.ok h0).1
 obtain ⟨a', b', hwa', hhb', _, _, hl'⟩ := sized_nat (Img.ok h1).1
 simp only at hwa hhb hwa' hhb' hl hl'
 subst hwa hhb
 obtain rfl : a = a' := by omega
 obtain rfl : b = b' := by omega
 have hm : a * b ≤ 640 * 640 := Nat.mul_le_mul ha hb
 try simp only [↓nrmL, nrmZ, Nat.reduceEqDiff, ↓reduceIte, h0, h1, h2, h3, bne]
 refine sq ?_
 refine rg fun KF hKF => ?_
 refine Fo.boxA rfl ?_
 refine Fo.boxA rfl ?_
 refine Fo.new ?_
 refine mI rfl ?_
 refine WpO.nil (hKF _ _ ?_)
 refine sq ?_
 refine sq ?_
 refine rg fun KF hKF => ?_
 refine Fo.ldN rfl rfl (by simp only [↓nrmL, nrmZ, Nat.reduceEqDiff, ↓reduceIte, h0, h1, h2, h3, bne]; rfl) ?_
 refine Fo.pcall (v' := ?_) hn rfl (by simp only [↓nrmL, nrmZ, Nat.reduceEqDiff, ↓reduceIte, h0, h1, h2, h3, bne, List.map]; rfl) rfl ?hv fun _ _ => ?_; case hv => rfl
 refine mI rfl ?_
 refine WpO.nil (hKF _ _ ?_)
 refine sq ?_
 refine rg fun KF hKF => ?_
 refine mI rfl ?_
 refine Fo.bin rfl rfl rfl (by simp only [↓nrmL, nrmZ, Nat.reduceEqDiff, ↓reduceIte, h0, h1, h2, h3, bne]; rfl) ?_
 refine WpO.nil (hKF _ _ ?_)
 refine Wp.cond (b := false) rfl ?_
 refine Wp.skip ?_
 refine sq ?_
 refine sq ?_
 refine rg fun KF hKF => ?_
 refine Fo.ldN rfl rfl (by simp only [↓nrmL, nrmZ, Nat.reduceEqDiff, ↓reduceIte, h0, h1, h2, h3, bne]; rfl) ?_
 refine Fo.pcall (v' := ?_) hn rfl (by simp only [↓nrmL, nrmZ, Nat.reduceEqDiff, ↓reduceIte, h0, h1, h2, h3, bne, List.map]; rfl) rfl ?hv fun _ _ => ?_; case hv => rfl
 refine mI rfl ?_
 refine WpO.nil (hKF _ _ ?_)
 refine sq ?_
 refine rg fun KF hKF => ?_
 refine mI rfl ?_
 refine Fo.bin rfl rfl rfl (by simp only [↓nrmL, nrmZ, Nat.reduceEqDiff, ↓reduceIte, h0, h1, h2, h3, bne]; rfl) ?_
 refine WpO.nil (hKF _ _ ?_)
 refine Wp.cond (b := false) rfl ?_
 refine Wp.skip ?_
 refine sq ?_
 refine sq ?_
 refine rg fun KF hKF => ?_
 refine Fo.fa rfl ?_
 refine Fo.ld rfl rfl ?_
 refine Fo.fa rfl ?_
 refine Fo.ld rfl rfl ?_
 refine Fo.bin rfl rfl rfl (by simp only [↓nrmL, nrmZ, Nat.reduceEqDiff, ↓reduceIte, h0, h1, h2, h3, bne]; rfl) ?_
 refine mB rfl ?_
 refine Fo.yes rfl rfl ?_
 refine Fo.fa rfl ?_
 refine Fo.yes rfl rfl ?_
 refine Fo.ld rfl rfl ?_
 refine Fo.yes rfl rfl ?_
 refine Fo.fa rfl ?_
 refine Fo.yes rfl rfl ?_
 refine Fo.ld rfl rfl ?_
 refine Fo.yes rfl rfl ?_
 refine Fo.bin rfl rfl rfl (by simp only [↓nrmL, nrmZ, Nat.reduceEqDiff, ↓reduceIte, h0, h1, h2, h3, bne]; rfl) ?_
 refine fB rfl rfl ?_
 refine WpO.nil (hKF _ _ ?_)
 refine Wp.cond (b := false) rfl ?_
 refine Wp.skip ?_
 refine sq ?_
 refine rg fun KF hKF => ?_
 refine Fo.fa rfl ?_
 refine Fo.ld rfl rfl ?_
 refine Fo.fa rfl ?_
 refine Fo.ld rfl rfl ?_
 refine WpO.do (WpX.conD hn rfl rfl (by simp only [↓nrmL, nrmZ, Nat.reduceEqDiff, ↓reduceIte, List.map] <;> rfl) (K_blank (w := a) (h := b) (by omega) (by omega)) fun v H1 h5 => ?_)
 obtain ⟨o, e2, ho, hf, hw3, hx⟩ := h5
 subst e2
 haveI : ExtI _ H1 := ⟨hx⟩
 haveI := ho.one
 have ho : BytesI H1 o (List.replicate (a * b) 0) := ho
 refine Fo.new ?_
 refine Fo.st rfl (rfl : _ = AVal.agg _) rfl rfl rfl (by repeat (first | rfl | refine allOne_cons ?_)) (by simp only [↓nrmL, nrmZ, Nat.reduceEqDiff, ↓reduceIte]; rfl) ?_
 refine WpO.nil (hKF _ _ ?_)
 refine sq ?_
 refine sq ?_
 refine rg fun KF hKF => ?_
 refine Fo.fa rfl ?_
 refine Fo.ld rfl rfl ?_
 refine Fo.len (v := ?_) (by simp only [↓nrmL, nrmK, Nat.reduceEqDiff, ↓reduceIte]; rfl) ?hv ?_; case hv => rfl
 refine mI rfl ?_
 refine WpO.nil (hKF _ _ ?_)
 refine Wp.block ?_
 dsimp only [cond_true, cond_false]
 refine Wp.loopS [11, 12, 46, 47, 48, 49, 50, 51, 52, 53, 54, 55, 56, 57, 58, 59, 60, 61, 62, 63] (fun i : Nat => [(46, .int .i64 i)]) (fun H3 i H2 => i ≤ l.length ∧ BytesI H2 o (filled (fun i => op (l.getD i 0) (m.getD i 0)) i l.length) ∧ WrS H2 o ∧ ExtP0 H3 H2 o) (fun i => l.length - i) 0 rfl (fun _ => rfl) ⟨rfl, trivial⟩ ⟨Nat.zero_le _, by rw [filled_zero, hl]; infer_instance, inferInstance, inferInstance⟩ (by unfold fuel0 at hn; omega) ?_
 rintro i g H2 ⟨hi, hb2, hw2, ⟨hx2⟩⟩
 simp only [↓nrmL, nrmZ, Nat.reduceEqDiff, ↓reduceIte]
 cases hc : decide ((i : Int) < (l.length : Int))
 ·have hil : i = l.length := by have := of_decide_eq_false hc; omega
  subst hil
  rw [filled_all, zip_range (by omega)] at hb2
  try simp only [↓nrmL, nrmZ, Nat.reduceEqDiff, ↓reduceIte, hc]
  refine sq ?_
  refine rg fun KF hKF => ?_
  refine Fo.bin rfl rfl rfl (by simp only [↓nrmL, nrmZ, Nat.reduceEqDiff, ↓reduceIte, hc]; rfl) ?_
  refine WpO.nil (hKF _ _ ?_)
  refine sq ?_
  refine Wp.cond (b := false) rfl ?_
  refine Wp.exit ?_
  refine sq ?_
  refine rg fun KF hKF => ?_
  refine Fo.ldN rfl rfl (by simp only [↓nrmL, nrmZ, Nat.reduceEqDiff, ↓reduceIte, hc]; rfl) ?_
  refine Fo.st rfl (rfl : _ = AVal.agg _) rfl rfl rfl (by repeat (first | rfl | refine allOne_cons ?_)) (by simp only [↓nrmL, nrmZ, Nat.reduceEqDiff, ↓reduceIte, hc]; rfl) ?_
  refine mI rfl ?_
  refine WpO.nil (hKF _ _ ?_)
  refine Wp.ret ?_
  dsimp only [cond_true, cond_false]
  refine ⟨trivial, _, (getAllC rfl rfl rfl rfl), ?_⟩
  exact ⟨_, rfl, o, rfl, inferInstance, hf.weak, inferInstance, Ext0.ext⟩
 ·have hil : i < l.length := by have := of_decide_eq_true hc; omega
  have him : i < m.length := by omega
  have hfl := filled_length (fun i => op (l.getD i 0) (m.getD i 0)) i l.length
  have hw1 := wa1 (a := i) (by omega)
  have hgl : l.getD i 0 = l[i] := by simp [hil]
  have hgm : m.getD i 0 = m[i] := by simp [him]
  try simp only [↓nrmL, nrmZ, Nat.reduceEqDiff, ↓reduceIte, hc]
  refine sq ?_
  refine rg fun KF hKF => ?_
  refine Fo.bin rfl rfl rfl (by simp only [↓nrmL, nrmZ, Nat.reduceEqDiff, ↓reduceIte, hc]; rfl) ?_
  refine WpO.nil (hKF _ _ ?_)
  refine sq ?_
  refine Wp.cond (b := true) rfl ?_
  refine Wp.skip ?_
  refine sq ?_
  refine Wp.block ?_
  refine sq ?_
  refine rg fun KF hKF => ?_
  refine mI rfl ?_
  refine Fo.idx (by simp only [↓nrmL, nrmK, Nat.reduceEqDiff, ↓reduceIte]; rfl) rfl ?_ (by simp only [↓nrmL, nrmZ, Nat.reduceEqDiff, ↓reduceIte, hc]; rfl) ?_; (focus omega)
  refine Fo.ldB rfl ?_ rfl ?_; (focus omega)
  refine mI rfl ?_
  refine mI rfl ?_
  refine WpO.nil (hKF _ _ ?_)
  dsimp only [cond_true, cond_false]
  refine Fr.dregion0 rfl fun KF hKF => ?_
  refine Fe.pure rfl rfl (by simp only [↓nrmL, nrmZ, Nat.reduceEqDiff, ↓reduceIte]; rfl) ?_
  refine Fe.read rfl (exec_ld rfl rfl) rfl (by repeat (first | exact trivial | refine ⟨(by first | exact Or.inl (by dsimp only; decide) | exact Or.inr (exec_ld rfl rfl) | exact Or.inr (exec_ldN rfl rfl rfl) | exact Or.inr (exec_ldB rfl (by omega)) | exact Or.inr (exec_ldI rfl (by omega)) | exact Or.inr ghost_of), ?_⟩)) ?_
  refine Fe.pure rfl rfl (by simp only [↓nrmL, nrmZ, Nat.reduceEqDiff, ↓reduceIte]; rfl) ?_
  refine Fe.pure rfl rfl (by simp only [↓nrmL, nrmZ, Nat.reduceEqDiff, ↓reduceIte]; rfl) ?_
  refine Fe.pure rfl rfl (by simp only [↓nrmL, nrmZ, Nat.reduceEqDiff, ↓reduceIte]; rfl) ?_
  refine Fe.pure rfl rfl (by simp only [↓nrmL, nrmZ, Nat.reduceEqDiff, ↓reduceIte]; rfl) ?_
  refine Fe.read rfl (exec_ld rfl rfl) rfl (by repeat (first | exact trivial | refine ⟨(by first | exact Or.inl (by dsimp only; decide) | exact Or.inr (exec_ld rfl rfl) | exact Or.inr (exec_ldN rfl rfl rfl) | exact Or.inr (exec_ldB rfl (by omega)) | exact Or.inr (exec_ldI rfl (by omega)) | exact Or.inr ghost_of), ?_⟩)) ?_
  refine Fe.pure rfl rfl (by simp only [↓nrmL, nrmZ, Nat.reduceEqDiff, ↓reduceIte]; rfl) ?_
  refine Fe.pure rfl (exec_idxP (by (try simp only [↓nrmL, nrmZ, Nat.reduceEqDiff, ↓reduceIte]); rfl) rfl ?_) (by simp only [↓nrmL, nrmZ, Nat.reduceEqDiff, ↓reduceIte]; rfl) ?_; (focus omega)
  refine Fe.read rfl (exec_ldB rfl (by omega)) rfl (by repeat (first | exact trivial | refine ⟨(by first | exact Or.inl (by dsimp only; decide) | exact Or.inr (exec_ld rfl rfl) | exact Or.inr (exec_ldN rfl rfl rfl) | exact Or.inr (exec_ldB rfl (by omega)) | exact Or.inr (exec_ldI rfl (by omega)) | exact Or.inr ghost_of), ?_⟩)) ?_
  refine Fe.pcall (v' := ?_) rfl hn rfl (by simp only [↓nrmL, nrmZ, Nat.reduceEqDiff, ↓reduceIte, List.map]; rfl) rfl ?hv fun _ _ => ⟨(by repeat (first | exact trivial | refine ⟨(by first | exact Or.inl (by dsimp only; decide) | exact Or.inr (readOk_of (exec_ld rfl rfl)) | exact Or.inr (readOk_of (exec_ldN rfl rfl rfl)) | exact Or.inr (readOk_of (exec_ldB rfl (by omega))) | exact Or.inr (readOk_of (exec_ldI rfl (by omega))) | exact Or.inr (made_of rfl)), ?_⟩)), ?_⟩; case hv => rfl
  refine Fe.pure rfl (exec_idxP (by (try simp only [↓nrmL, nrmZ, Nat.reduceEqDiff, ↓reduceIte]); rfl) rfl ?_) (by simp only [↓nrmL, nrmZ, Nat.reduceEqDiff, ↓reduceIte]; rfl) ?_; (focus omega)
  refine WpE.stB (op l[i] m[i]) rfl rfl rfl rfl (by rw [hfl]; exact hil) fun H4 hb4 hw4 hx4 => ⟨(by repeat (first | exact trivial | refine ⟨(by first | exact Or.inl (by dsimp only; decide) | exact Or.inr (readOk_of (exec_ld rfl rfl)) | exact Or.inr (readOk_of (exec_ldN rfl rfl rfl)) | exact Or.inr (readOk_of (exec_ldB rfl (by omega))) | exact Or.inr (readOk_of (exec_ldI rfl (by omega))) | exact Or.inr (made_of rfl)), ?_⟩)), ?_⟩
  refine WpE.nil (hKF _ _ ?_)
  refine rg fun KF hKF => ?_
  refine Fo.bin rfl rfl rfl rfl ?_
  refine mI rfl ?_
  refine WpO.nil (hKF _ _ ?_)
  dsimp only [cond_true, cond_false]
  refine ⟨i + 1, by omega, ⟨by simp only [↓nrmL, nrmZ, Nat.reduceEqDiff, ↓reduceIte]; rw [hw1], trivial⟩, hil, by rw [← filled_succ, hgl, hgm]; infer_instance, inferInstance, inferInstance⟩
end Go.Am

set_option maxHeartbeats 4000000
set_option maxRecDepth 100000
namespace Go.Am
open Go
attribute [local irreducible] Wp WpO WpX WpE

/-- Is a pixel ink? -/
def inkB (w h : Int) (l : List UInt8) (x y : Int) : Bool := decide (x ≥ 0) && (decide (x < w) && (decide (y ≥ 0) && (decide (y < h) && (l.getD (y * w + x).toNat 0 == 1))))
theorem inkB_nat {a b x y : Nat} {l : List UInt8} (hx : x < a) (hy : y < b) : inkB a b l x y = (l.getD (y * a + x) 0 == 1) := by
 have e : ((y : Int) * (a : Int) + (x : Int)).toNat = y * a + x := by rw [← Int.natCast_mul, ← Int.natCast_add]; rfl
 have h1 : decide ((x : Int) ≥ 0) = true := decide_eq_true (by omega)
 have h2 : decide ((x : Int) < (a : Int)) = true := decide_eq_true (by omega)
 have h3 : decide ((y : Int) ≥ 0) = true := decide_eq_true (by omega)
 have h4 : decide ((y : Int) < (b : Int)) = true := decide_eq_true (by omega)
 simp only [inkB, h1, h2, h3, h4, e, Bool.true_and]
/-- The sides and the number of pixels fit. -/
class Fits (w h : Int) (l : List UInt8) : Prop where
 it : sizedB w h l.length = true
theorem u8_one (c : UInt8) : (((c.toNat : Nat) : Int) == 1) = (c == 1) := by
 by_cases h : c = 1
 ·subst h; rfl
 ·have h2 : c.toNat ≠ 1 := fun e => h (UInt8.toNat_inj.1 e)
  have h1 : (c == 1) = false := by simpa using h
  rw [h1]
  simp only [beq_eq_false_iff_ne, ne_eq]
  omega
instance K_ink {p : AVal} {H : AHeap} {w h x y : Int} {l : List UInt8} [hp : BytesI H p l] [hs : Fits w h l] : PureCon ext prog 109 [.agg [.int .i64 w, .int .i64 h, p], .int .i64 x, .int .i64 y] H 1 (.bool (inkB w h l x y)) := ⟨by
 refine con_of (show prog 109 = some c109 from rfl) rfl rfl fun n hn => ?_
 haveI := hp.one
 obtain ⟨a, b, rfl, rfl, ha, hb, hl⟩ := sized_nat hs.it
 have hm : a * b ≤ 640 * 640 := Nat.mul_le_mul ha hb
 cases h1 : decide (x ≥ 0)
 ·have e : inkB a b l x y = false := by simp only [inkB, h1, Bool.false_and]
  rw [e]
  try simp only [↓nrmL, nrmZ, Nat.reduceEqDiff, ↓reduceIte, h1]
  refine sq ?_
  refine rg fun KF hKF => ?_
  refine Fo.boxA rfl ?_
  refine mB rfl ?_
  refine WpO.nil (hKF _ _ ?_)
  refine sq ?_
  refine rg fun KF hKF => ?_
  refine mI rfl ?_
  refine Fo.bin rfl rfl rfl (by simp only [↓nrmL, nrmZ, Nat.reduceEqDiff, ↓reduceIte, h1]; rfl) ?_
  refine mB rfl ?_
  refine Fo.no rfl rfl ?_
  refine Fo.no rfl rfl ?_
  refine Fo.no rfl rfl ?_
  refine Fo.no rfl rfl ?_
  refine fB rfl rfl ?_
  refine mB rfl ?_
  refine Fo.no rfl rfl ?_
  refine Fo.no rfl rfl ?_
  refine fB rfl rfl ?_
  refine mB rfl ?_
  refine Fo.no rfl rfl ?_
  refine Fo.no rfl rfl ?_
  refine Fo.no rfl rfl ?_
  refine Fo.no rfl rfl ?_
  refine fB rfl rfl ?_
  refine mB rfl ?_
  refine Fo.no rfl rfl ?_
  refine Fo.no rfl rfl ?_
  refine Fo.no rfl rfl ?_
  refine Fo.no rfl rfl ?_
  refine Fo.no rfl rfl ?_
  refine Fo.no rfl rfl ?_
  refine Fo.no rfl rfl ?_
  refine Fo.no rfl rfl ?_
  refine Fo.no rfl rfl ?_
  refine Fo.no rfl rfl ?_
  refine Fo.no rfl rfl ?_
  refine fB rfl rfl ?_
  refine mB rfl ?_
  refine WpO.nil (hKF _ _ ?_)
  refine Wp.ret ?_
  dsimp only [cond_true, cond_false]
  refine ⟨trivial, _, rfl, ?_⟩
  exact ⟨rfl, Ext0.ext⟩
 cases h2 : decide (x < (a : Int))
 ·have e : inkB a b l x y = false := by simp only [inkB, h1, h2, Bool.false_and, Bool.and_false]
  rw [e]
  try simp only [↓nrmL, nrmZ, Nat.reduceEqDiff, ↓reduceIte, h1, h2]
  refine sq ?_
  refine rg fun KF hKF => ?_
  refine Fo.boxA rfl ?_
  refine mB rfl ?_
  refine WpO.nil (hKF _ _ ?_)
  refine sq ?_
  refine rg fun KF hKF => ?_
  refine mI rfl ?_
  refine Fo.bin rfl rfl rfl (by simp only [↓nrmL, nrmZ, Nat.reduceEqDiff, ↓reduceIte, h1, h2]; rfl) ?_
  refine mB rfl ?_
  refine Fo.yes rfl rfl ?_
  refine mI rfl ?_
  refine Fo.yes rfl rfl ?_
  refine Fo.fa rfl ?_
  refine Fo.yes rfl rfl ?_
  refine Fo.ld rfl rfl ?_
  refine Fo.yes rfl rfl ?_
  refine Fo.bin rfl rfl rfl (by simp only [↓nrmL, nrmZ, Nat.reduceEqDiff, ↓reduceIte, h1, h2]; rfl) ?_
  refine tB rfl rfl ?_
  refine mB rfl ?_
  refine Fo.no rfl rfl ?_
  refine Fo.no rfl rfl ?_
  refine fB rfl rfl ?_
  refine mB rfl ?_
  refine Fo.no rfl rfl ?_
  refine Fo.no rfl rfl ?_
  refine Fo.no rfl rfl ?_
  refine Fo.no rfl rfl ?_
  refine fB rfl rfl ?_
  refine mB rfl ?_
  refine Fo.no rfl rfl ?_
  refine Fo.no rfl rfl ?_
  refine Fo.no rfl rfl ?_
  refine Fo.no rfl rfl ?_
  refine Fo.no rfl rfl ?_
  refine Fo.no rfl rfl ?_
  refine Fo.no rfl rfl ?_
  refine Fo.no rfl rfl ?_
  refine Fo.no rfl rfl ?_
  refine Fo.no rfl rfl ?_
  refine Fo.no rfl rfl ?_
  refine fB rfl rfl ?_
  refine mB rfl ?_
  refine WpO.nil (hKF _ _ ?_)
  refine Wp.ret ?_
  dsimp only [cond_true, cond_false]
  refine ⟨trivial, _, rfl, ?_⟩
  exact ⟨rfl, Ext0.ext⟩
 cases h3 : decide (y ≥ 0)
 ·have e : inkB a b l x y = false := by simp only [inkB, h1, h2, h3, Bool.false_and, Bool.and_false]
  rw [e]
  try simp only [↓nrmL, nrmZ, Nat.reduceEqDiff, ↓reduceIte, h1, h2, h3]
  refine sq ?_
  refine rg fun KF hKF => ?_
  refine Fo.boxA rfl ?_
  refine mB rfl ?_
  refine WpO.nil (hKF _ _ ?_)
  refine sq ?_
  refine rg fun KF hKF => ?_
  refine mI rfl ?_
  refine Fo.bin rfl rfl rfl (by simp only [↓nrmL, nrmZ, Nat.reduceEqDiff, ↓reduceIte, h1, h2, h3]; rfl) ?_
  refine mB rfl ?_
  refine Fo.yes rfl rfl ?_
  refine mI rfl ?_
  refine Fo.yes rfl rfl ?_
  refine Fo.fa rfl ?_
  refine Fo.yes rfl rfl ?_
  refine Fo.ld rfl rfl ?_
  refine Fo.yes rfl rfl ?_
  refine Fo.bin rfl rfl rfl (by simp only [↓nrmL, nrmZ, Nat.reduceEqDiff, ↓reduceIte, h1, h2, h3]; rfl) ?_
  refine tB rfl rfl ?_
  refine mB rfl ?_
  refine Fo.yes rfl rfl ?_
  refine mI rfl ?_
  refine Fo.yes rfl rfl ?_
  refine Fo.bin rfl rfl rfl (by simp only [↓nrmL, nrmZ, Nat.reduceEqDiff, ↓reduceIte, h1, h2, h3]; rfl) ?_
  refine tB rfl rfl ?_
  refine mB rfl ?_
  refine Fo.no rfl rfl ?_
  refine Fo.no rfl rfl ?_
  refine Fo.no rfl rfl ?_
  refine Fo.no rfl rfl ?_
  refine fB rfl rfl ?_
  refine mB rfl ?_
  refine Fo.no rfl rfl ?_
  refine Fo.no rfl rfl ?_
  refine Fo.no rfl rfl ?_
  refine Fo.no rfl rfl ?_
  refine Fo.no rfl rfl ?_
  refine Fo.no rfl rfl ?_
  refine Fo.no rfl rfl ?_
  refine Fo.no rfl rfl ?_
  refine Fo.no rfl rfl ?_
  refine Fo.no rfl rfl ?_
  refine Fo.no rfl rfl ?_
  refine fB rfl rfl ?_
  refine mB rfl ?_
  refine WpO.nil (hKF _ _ ?_)
  refine Wp.ret ?_
  dsimp only [cond_true, cond_false]
  refine ⟨trivial, _, rfl, ?_⟩
  exact ⟨rfl, Ext0.ext⟩
 cases h4 : decide (y < (b : Int))
 ·have e : inkB a b l x y = false := by simp only [inkB, h1, h2, h3, h4, Bool.false_and, Bool.and_false]
  rw [e]
  try simp only [↓nrmL, nrmZ, Nat.reduceEqDiff, ↓reduceIte, h1, h2, h3, h4]
  refine sq ?_
  refine rg fun KF hKF => ?_
  refine Fo.boxA rfl ?_
  refine mB rfl ?_
  refine WpO.nil (hKF _ _ ?_)
  refine sq ?_
  refine rg fun KF hKF => ?_
  refine mI rfl ?_
  refine Fo.bin rfl rfl rfl (by simp only [↓nrmL, nrmZ, Nat.reduceEqDiff, ↓reduceIte, h1, h2, h3, h4]; rfl) ?_
  refine mB rfl ?_
  refine Fo.yes rfl rfl ?_
  refine mI rfl ?_
  refine Fo.yes rfl rfl ?_
  refine Fo.fa rfl ?_
  refine Fo.yes rfl rfl ?_
  refine Fo.ld rfl rfl ?_
  refine Fo.yes rfl rfl ?_
  refine Fo.bin rfl rfl rfl (by simp only [↓nrmL, nrmZ, Nat.reduceEqDiff, ↓reduceIte, h1, h2, h3, h4]; rfl) ?_
  refine tB rfl rfl ?_
  refine mB rfl ?_
  refine Fo.yes rfl rfl ?_
  refine mI rfl ?_
  refine Fo.yes rfl rfl ?_
  refine Fo.bin rfl rfl rfl (by simp only [↓nrmL, nrmZ, Nat.reduceEqDiff, ↓reduceIte, h1, h2, h3, h4]; rfl) ?_
  refine tB rfl rfl ?_
  refine mB rfl ?_
  refine Fo.yes rfl rfl ?_
  refine mI rfl ?_
  refine Fo.yes rfl rfl ?_
  refine Fo.fa rfl ?_
  refine Fo.yes rfl rfl ?_
  refine Fo.ld rfl rfl ?_
  refine Fo.yes rfl rfl ?_
  refine Fo.bin rfl rfl rfl (by simp only [↓nrmL, nrmZ, Nat.reduceEqDiff, ↓reduceIte, h1, h2, h3, h4]; rfl) ?_
  refine tB rfl rfl ?_
  refine mB rfl ?_
  refine Fo.no rfl rfl ?_
  refine Fo.no rfl rfl ?_
  refine Fo.no rfl rfl ?_
  refine Fo.no rfl rfl ?_
  refine Fo.no rfl rfl ?_
  refine Fo.no rfl rfl ?_
  refine Fo.no rfl rfl ?_
  refine Fo.no rfl rfl ?_
  refine Fo.no rfl rfl ?_
  refine Fo.no rfl rfl ?_
  refine Fo.no rfl rfl ?_
  refine fB rfl rfl ?_
  refine mB rfl ?_
  refine WpO.nil (hKF _ _ ?_)
  refine Wp.ret ?_
  dsimp only [cond_true, cond_false]
  refine ⟨trivial, _, rfl, ?_⟩
  exact ⟨rfl, Ext0.ext⟩
 obtain ⟨x, rfl⟩ : ∃ k : Nat, x = k := ⟨x.toNat, by have := of_decide_eq_true h1; omega⟩
 obtain ⟨y, rfl⟩ : ∃ k : Nat, y = k := ⟨y.toNat, by have := of_decide_eq_true h3; omega⟩
 have hx : x < a := by have := of_decide_eq_true h2; omega
 have hy : y < b := by have := of_decide_eq_true h4; omega
 have hlt := idx_lt hx hy
 have hil : y * a + x < l.length := by omega
 have h5 : IntKind.i64.wrap ((y : Int) * (a : Int)) = ((y * a : Nat) : Int) := wm (by omega)
 have h6 : IntKind.i64.wrap (((y * a : Nat) : Int) + (x : Int)) = ((y * a + x : Nat) : Int) := wa (by omega)
 have e : inkB a b l x y = (l[y * a + x] == 1) := by rw [inkB_nat hx hy]; simp [hil]
 rw [e]
 try simp only [↓nrmL, nrmZ, Nat.reduceEqDiff, ↓reduceIte, h1, h2, h3, h4, h5, h6, u8_one]
 refine sq ?_
 refine rg fun KF hKF => ?_
 refine Fo.boxA rfl ?_
 refine mB rfl ?_
 refine WpO.nil (hKF _ _ ?_)
 refine sq ?_
 refine rg fun KF hKF => ?_
 refine mI rfl ?_
 refine Fo.bin rfl rfl rfl (by simp only [↓nrmL, nrmZ, Nat.reduceEqDiff, ↓reduceIte, h1, h2, h3, h4, h5, h6, u8_one]; rfl) ?_
 refine mB rfl ?_
 refine Fo.yes rfl rfl ?_
 refine mI rfl ?_
 refine Fo.yes rfl rfl ?_
 refine Fo.fa rfl ?_
 refine Fo.yes rfl rfl ?_
 refine Fo.ld rfl rfl ?_
 refine Fo.yes rfl rfl ?_
 refine Fo.bin rfl rfl rfl (by simp only [↓nrmL, nrmZ, Nat.reduceEqDiff, ↓reduceIte, h1, h2, h3, h4, h5, h6, u8_one]; rfl) ?_
 refine tB rfl rfl ?_
 refine mB rfl ?_
 refine Fo.yes rfl rfl ?_
 refine mI rfl ?_
 refine Fo.yes rfl rfl ?_
 refine Fo.bin rfl rfl rfl (by simp only [↓nrmL, nrmZ, Nat.reduceEqDiff, ↓reduceIte, h1, h2, h3, h4, h5, h6, u8_one]; rfl) ?_
 refine tB rfl rfl ?_
 refine mB rfl ?_
 refine Fo.yes rfl rfl ?_
 refine mI rfl ?_
 refine Fo.yes rfl rfl ?_
 refine Fo.fa rfl ?_
 refine Fo.yes rfl rfl ?_
 refine Fo.ld rfl rfl ?_
 refine Fo.yes rfl rfl ?_
 refine Fo.bin rfl rfl rfl (by simp only [↓nrmL, nrmZ, Nat.reduceEqDiff, ↓reduceIte, h1, h2, h3, h4, h5, h6, u8_one]; rfl) ?_
 refine tB rfl rfl ?_
 refine mB rfl ?_
 refine Fo.yes rfl rfl ?_
 refine Fo.fa rfl ?_
 refine Fo.yes rfl rfl ?_
 refine Fo.ld rfl rfl ?_
 refine Fo.yes rfl rfl ?_
 refine mI rfl ?_
 refine Fo.yes rfl rfl ?_
 refine Fo.fa rfl ?_
 refine Fo.yes rfl rfl ?_
 refine Fo.ld rfl rfl ?_
 refine Fo.yes rfl rfl ?_
 refine Fo.bin rfl rfl rfl (by simp only [↓nrmL, nrmZ, Nat.reduceEqDiff, ↓reduceIte, h1, h2, h3, h4, h5, h6, u8_one]; rfl) ?_
 refine Fo.yes rfl rfl ?_
 refine mI rfl ?_
 refine Fo.yes rfl rfl ?_
 refine Fo.bin rfl rfl rfl (by simp only [↓nrmL, nrmZ, Nat.reduceEqDiff, ↓reduceIte, h1, h2, h3, h4, h5, h6, u8_one]; rfl) ?_
 refine Fo.yes rfl rfl ?_
 refine Fo.idx (by simp only [↓nrmL, nrmK, Nat.reduceEqDiff, ↓reduceIte]; rfl) rfl ?_ (by simp only [↓nrmL, nrmZ, Nat.reduceEqDiff, ↓reduceIte, h1, h2, h3, h4, h5, h6, u8_one]; rfl) ?_; (focus omega)
 refine Fo.yes rfl rfl ?_
 refine Fo.ldB rfl ?_ rfl ?_; (focus omega)
 refine Fo.yes rfl rfl ?_
 refine Fo.bin rfl rfl rfl (by simp only [↓nrmL, nrmZ, Nat.reduceEqDiff, ↓reduceIte, h1, h2, h3, h4, h5, h6, u8_one]; rfl) ?_
 refine tB rfl rfl ?_
 refine mB rfl ?_
 refine WpO.nil (hKF _ _ ?_)
 refine Wp.ret ?_
 dsimp only [cond_true, cond_false]
 refine ⟨trivial, _, rfl, ?_⟩
 exact ⟨rfl, Ext0.ext⟩⟩

end Go.Am

set_option maxHeartbeats 4000000
set_option maxRecDepth 100000
namespace Go.Am
open Go
attribute [local irreducible] Wp WpO WpX WpE

theorem px_get {l : List UInt8} (h : pxOk l = true) {i : Nat} (hi : i < l.length) : l.getD i 0 = 0 ∨ l.getD i 0 = 1 := by
 have := List.all_eq_true.1 h l[i] (List.getElem_mem hi)
 simp only [Bool.or_eq_true, beq_iff_eq] at this
 simpa [hi] using this

end Go.Am

set_option maxHeartbeats 4000000
set_option maxRecDepth 100000
namespace Go.Am
open Go
attribute [local irreducible] Wp WpO WpX WpE

theorem K_Less {p q : AVal} {H : AHeap} {w h w' h' : Int} {l m : List UInt8} [hp : BytesI H p l] [hq : BytesI H q m] : Con ext prog 5 87 [.agg [.int .i64 w, .int .i64 h, p], .agg [.int .i64 w', .int .i64 h', q]] H fun v H' => InkRes H H' v (combSpec (fun a b => a &&& ~~~b) ⟨w, h, l⟩ ⟨w', h', m⟩) := by
 refine con_of (show prog 87 = some c87 from rfl) rfl rfl fun n hn => ?_
 haveI := hp.one
 haveI := hq.one
 refine sq ?_
 refine rg fun KF hKF => ?_
 refine Fo.boxA rfl ?_
 refine Fo.boxA rfl ?_
 refine Fo.new ?_
 refine mI rfl ?_
 refine WpO.nil (hKF _ _ ?_)
 refine sq ?_
 refine rg fun KF hKF => ?_
 refine Fo.ldN rfl rfl (by simp only [↓nrmL, nrmZ, Nat.reduceEqDiff, ↓reduceIte]; rfl) ?_
 refine Fo.ldN rfl rfl (by simp only [↓nrmL, nrmZ, Nat.reduceEqDiff, ↓reduceIte]; rfl) ?_
 refine WpO.do (WpX.conD hn rfl rfl (by simp only [↓nrmL, nrmZ, Nat.reduceEqDiff, ↓reduceIte, List.map] <;> rfl) (K_combine (F := 149) (l := l) (m := m)) fun v H1 h5 => ?_)
 obtain ⟨u, e1, o, e2, ho, hf, hw3, hx⟩ := h5
 subst e1 e2
 haveI : ExtI _ H1 := ⟨hx⟩
 haveI := ho.one
 refine Fo.extr rfl rfl ?_
 refine Fo.extr rfl rfl ?_
 refine Fo.st rfl (rfl : _ = AVal.agg _) rfl rfl rfl (by repeat (first | rfl | refine allOne_cons ?_)) (by simp only [↓nrmL, nrmZ, Nat.reduceEqDiff, ↓reduceIte]; rfl) ?_
 refine mI rfl ?_
 refine WpO.nil (hKF _ _ ?_)
 refine Wp.ret ?_
 dsimp only [cond_true, cond_false]
 refine ⟨trivial, _, (getAllC rfl rfl rfl rfl), ?_⟩
 exact ⟨_, rfl, o, rfl, inferInstance, hf.weak, inferInstance, Ext0.ext⟩

end Go.Am

set_option maxHeartbeats 4000000
set_option maxRecDepth 100000
namespace Go.Am
open Go
attribute [local irreducible] Wp WpO WpX WpE

/-- The lowest bit of a number. -/
def bitC (z : Int) : UInt8 := ⟨BitVec.ofInt 8 z &&& 1⟩
theorem bitC_eq (z : Int) : Go.bits .and .u8 z 1 = ((bitC z).toNat : Int) := by
 show IntKind.u8.wrap ((BitVec.ofInt 8 z &&& BitVec.ofInt 8 1).toNat : Int) = _
 exact wrap_u8 (by have := (bitC z).toNat_lt; exact this)
theorem bitC_01 (z : Int) : bitC z = 0 ∨ bitC z = 1 := by
 have h : (bitC z).toNat = (BitVec.ofInt 8 z).toNat % 2 := by
  show (BitVec.ofInt 8 z &&& 1#8).toNat = _
  rw [BitVec.toNat_and]
  exact Nat.and_one_is_mod _
 rcases Nat.mod_two_eq_zero_or_one (BitVec.ofInt 8 z).toNat with h0 | h0
 ·exact Or.inl (UInt8.toNat_inj.1 (by rw [h, h0]; rfl))
 ·exact Or.inr (UInt8.toNat_inj.1 (by rw [h, h0]; rfl))
theorem wq8 {i : Nat} (h : i < 9223372036854775808) : IntKind.i64.wrap ((i : Int).tdiv 8) = ((i / 8 : Nat) : Int) := by
 have e : (i : Int).tdiv 8 = ((i / 8 : Nat) : Int) := rfl
 rw [e]; exact w64 (by omega)
theorem wr8 {i : Nat} : (i : Int).tmod 8 = ((i % 8 : Nat) : Int) := rfl
theorem pxOk_rep (n : Nat) : pxOk (List.replicate n 0) = true := by
 simp [pxOk, List.all_replicate]
theorem pxOk_set {l : List UInt8} {i : Nat} {c : UInt8} (h : pxOk l = true) (hc : c = 0 ∨ c = 1) : pxOk (l.set i c) = true := by
 unfold pxOk at h ⊢
 rw [List.all_eq_true] at h ⊢
 intro x hx
 rcases List.mem_or_eq_of_mem_set hx with h1 | rfl
 ·exact h x h1
 ·rcases hc with rfl | rfl <;> rfl

/-- A valid image. -/
structure Ok (a b : Nat) (l : List UInt8) : Prop where
 wa : a ≤ 640
 hb : b ≤ 640
 len : l.length = a * b
 px : pxOk l = true
theorem Ok.sized {a b : Nat} {l : List UInt8} (h : Ok a b l) : sizedB a b l.length = true := by
 have hm : a * b ≤ 640 * 640 := Nat.mul_le_mul h.wa h.hb
 have h1 : sideB a = true := by simp only [sideB, Bool.and_eq_true, decide_eq_true_eq]; have := h.wa; omega
 have h2 : sideB b = true := by simp only [sideB, Bool.and_eq_true, decide_eq_true_eq]; have := h.hb; omega
 unfold sizedB
 rw [h1, h2, wm (by omega), h.len]
 simp
theorem Ok.err {a b : Nat} {l : List UInt8} (h : Ok a b l) : Img.err ⟨a, b, l⟩ = 0 := by
 have h1 : (⟨a, b, l⟩ : Img).sized = true := h.sized
 have h2 := h.px
 unfold Img.err
 rw [h1]
 simp only [h2, cond_true]
theorem ok_zip {a b : Nat} {l m : List UInt8} {op : UInt8 → UInt8 → UInt8} (h : Ok a b l) (k : Ok a b m) (ho : ∀ x y, (x = 0 ∨ x = 1) → (y = 0 ∨ y = 1) → op x y = 0 ∨ op x y = 1) : Ok a b (List.zipWith op l m) := by
 refine ⟨h.wa, h.hb, by rw [List.length_zipWith, h.len, k.len, Nat.min_self], ?_⟩
 unfold pxOk
 rw [List.all_eq_true]
 intro x hx
 obtain ⟨i, hi, rfl⟩ := List.mem_iff_getElem.1 hx
 rw [List.length_zipWith] at hi
 rw [List.getElem_zipWith]
 have h1 := px_get h.px (show i < l.length by omega)
 have h2 := px_get k.px (show i < m.length by omega)
 rw [List.getD_eq_getElem?_getD, List.getElem?_eq_getElem (by omega)] at h1 h2
 simp only [Option.getD_some] at h1 h2
 rcases ho _ _ h1 h2 with h3 | h3 <;> rw [h3] <;> rfl
theorem combOk {a b : Nat} {l m : List UInt8} {op : UInt8 → UInt8 → UInt8} (h : Ok a b l) (k : Ok a b m) : combSpec op ⟨a, b, l⟩ ⟨a, b, m⟩ = (⟨a, b, List.zipWith op l m⟩, 0) := by
 simp only [combSpec, h.err, k.err, beq_self_eq_true, cond_true, Bool.and_self]
/-- A valid new image of some sides. -/
def NewOk (H H' : AHeap) (v : AVal) (wm hm : Nat) : Prop := ∃ (a b : Nat) (l : List UInt8), a ≤ wm ∧ b ≤ hm ∧ Ok a b l ∧ NewInk H H' v ⟨a, b, l⟩
theorem K_Made {s : Nat} {p : AVal} {H : AHeap} {bits : List UInt8} [hp : BytesI H p bits] (hs : s < 65536) : Con ext prog 1 76 [.int .u16 s, p] H fun v H' => NewOk H H' v 40 30 := by
 refine con_of (show prog 76 = some c76 from rfl) rfl rfl fun n hn => ?_
 haveI := hp.one
 have e1 : IntKind.i64.wrap ((s : Int).tmod 41) = ((s % 41 : Nat) : Int) := by
  have e : (s : Int).tmod 41 = ((s % 41 : Nat) : Int) := rfl
  rw [e]; exact w64 (by omega)
 have e2 : IntKind.u16.wrap ((s : Int).tdiv 41) = ((s / 41 : Nat) : Int) := by
  have e : (s : Int).tdiv 41 = ((s / 41 : Nat) : Int) := rfl
  have h1 : IntKind.u16.wrap ((s / 41 : Nat) : Int) = if (false && decide (((s / 41 : Nat) : Int) % 2 ^ 16 ≥ 2 ^ 15)) = true then ((s / 41 : Nat) : Int) % 2 ^ 16 - 2 ^ 16 else ((s / 41 : Nat) : Int) % 2 ^ 16 := rfl
  rw [e, h1]
  simp only [Bool.false_and, Bool.false_eq_true, if_false]
  omega
 have e3 : IntKind.i64.wrap (((s / 41 : Nat) : Int).tmod 31) = ((s / 41 % 31 : Nat) : Int) := by
  have e : ((s / 41 : Nat) : Int).tmod 31 = ((s / 41 % 31 : Nat) : Int) := rfl
  rw [e]; exact w64 (by omega)
 obtain ⟨a, ha⟩ : ∃ a, s % 41 = a := ⟨_, rfl⟩
 obtain ⟨b, hb⟩ : ∃ b, s / 41 % 31 = b := ⟨_, rfl⟩
 rw [ha] at e1
 rw [hb] at e3
 have ha : a ≤ 40 := by omega
 have hb : b ≤ 30 := by omega
 have hm : a * b ≤ 40 * 30 := Nat.mul_le_mul ha hb
 have hc : IntKind.i64.wrap ((a : Int) * (b : Int)) = ((a * b : Nat) : Int) := wm (by omega)
 try simp only [↓nrmL, nrmZ, Nat.reduceEqDiff, ↓reduceIte, e1, e2, e3, hc]
 refine sq ?_
 refine rg fun KF hKF => ?_
 refine Fo.new ?_
 refine WpO.nil (hKF _ _ ?_)
 refine sq ?_
 refine rg fun KF hKF => ?_
 refine mI rfl ?_
 refine Fo.bin rfl rfl rfl rfl ?_
 refine Fo.now rfl rfl (by simp only [↓nrmL, nrmZ, Nat.reduceEqDiff, ↓reduceIte, e1, e2, e3, hc]; rfl) ?_
 refine mI rfl ?_
 refine Fo.bin rfl rfl rfl (by simp only [↓nrmL, nrmZ, Nat.reduceEqDiff, ↓reduceIte, e1, e2, e3, hc]; rfl) ?_
 refine Fo.bin rfl rfl rfl rfl ?_
 refine Fo.now rfl rfl (by simp only [↓nrmL, nrmZ, Nat.reduceEqDiff, ↓reduceIte, e1, e2, e3, hc]; rfl) ?_
 refine mI rfl ?_
 refine mI rfl ?_
 refine WpO.nil (hKF _ _ ?_)
 refine sq ?_
 refine rg fun KF hKF => ?_
 refine mI rfl ?_
 refine mI rfl ?_
 refine mI rfl ?_
 refine mI rfl ?_
 refine Fo.bin rfl rfl rfl (by simp only [↓nrmL, nrmZ, Nat.reduceEqDiff, ↓reduceIte, e1, e2, e3, hc]; rfl) ?_
 refine WpO.do (WpX.mkB rfl rfl rfl (by omega) fun q H1 e1 hq hf hw' hx => ?_); try simp only [↓nrmL, nrmZ, Nat.reduceEqDiff, ↓reduceIte, hc]
 haveI := hq.one
 refine Fo.build (by repeat (first | refine aFill1 (by first | exact (rfl : _ = AVal.int _ _) | exact (rfl : _ = AVal.ptr _ _) | exact (rfl : _ = AVal.bool _) | exact (rfl : _ = AVal.agg _) | exact (rfl : _ = AVal.tuple _) | exact (rfl : _ = AVal.func _ _ _) | exact (rfl : _ = AVal.nslice) | ((try simp only [↓nrmL, nrmK, Nat.reduceEqDiff, ↓reduceIte]); rfl)) rfl ?_ | rfl)) (by simp only [↓nrmL, nrmZ, Nat.reduceEqDiff, ↓reduceIte]; rfl) ?_
 refine Fo.new ?_
 refine Fo.st rfl (rfl : _ = AVal.agg _) rfl rfl rfl (by repeat (first | rfl | refine allOne_cons ?_)) (by simp only [↓nrmL, nrmZ, Nat.reduceEqDiff, ↓reduceIte]; rfl) ?_
 refine WpO.nil (hKF _ _ ?_)
 refine sq ?_
 refine sq ?_
 refine rg fun KF hKF => ?_
 refine Fo.fa rfl ?_
 refine Fo.ld rfl rfl ?_
 refine Fo.len (v := ?_) (by simp only [↓nrmL, nrmK, Nat.reduceEqDiff, ↓reduceIte]; rfl) ?hv ?_; case hv => rfl
 refine mI rfl ?_
 refine WpO.nil (hKF _ _ ?_)
 refine Wp.block ?_
 dsimp only [cond_true, cond_false]
 refine Wp.loopS [8, 26, 27, 28, 29, 30, 31, 32, 33, 34, 35, 36, 37, 38, 39, 40, 41, 42, 43, 44, 45, 46, 47] (fun t : Nat × List UInt8 => [(26, .int .i64 t.1)]) (fun H3 t H2 => t.1 ≤ a * b ∧ t.2.length = a * b ∧ pxOk t.2 = true ∧ BytesI H2 q t.2 ∧ WrS H2 q ∧ ExtP0 H3 H2 q) (fun t => a * b - t.1) (0, List.replicate (a * b) 0) rfl (fun _ => rfl) ⟨rfl, trivial⟩ ⟨Nat.zero_le _, List.length_replicate, pxOk_rep _, inferInstance, inferInstance, inferInstance⟩ (by unfold fuel0 at hn; omega) ?_
 rintro ⟨i, t⟩ g H2 ⟨hi, hlen, hpx, hb2, hw2, ⟨hx2⟩⟩
 dsimp only at hi hlen hpx hb2
 simp only [↓nrmL, nrmZ, Nat.reduceEqDiff, ↓reduceIte, List.length_replicate]
 cases hcc : decide ((i : Int) < ((a * b : Nat) : Int))
 ·have hil : i = a * b := by have := of_decide_eq_false hcc; omega
  subst hil
  try simp only [↓nrmL, nrmZ, Nat.reduceEqDiff, ↓reduceIte, hcc]
  refine sq ?_
  refine rg fun KF hKF => ?_
  refine Fo.bin rfl rfl rfl (by simp only [↓nrmL, nrmZ, Nat.reduceEqDiff, ↓reduceIte, hcc]; rfl) ?_
  refine WpO.nil (hKF _ _ ?_)
  refine sq ?_
  refine Wp.cond (b := false) rfl ?_
  refine Wp.exit ?_
  refine sq ?_
  refine rg fun KF hKF => ?_
  refine Fo.ldN rfl rfl (by simp only [↓nrmL, nrmZ, Nat.reduceEqDiff, ↓reduceIte, hcc]; rfl) ?_
  refine Fo.st rfl (rfl : _ = AVal.agg _) rfl rfl rfl (by repeat (first | rfl | refine allOne_cons ?_)) (by simp only [↓nrmL, nrmZ, Nat.reduceEqDiff, ↓reduceIte, hcc]; rfl) ?_
  refine WpO.nil (hKF _ _ ?_)
  refine Wp.ret ?_
  dsimp only [cond_true, cond_false]
  refine ⟨trivial, _, (getAllC rfl rfl rfl rfl), ?_⟩
  exact ⟨a, b, t, ha, hb, ⟨by omega, by omega, hlen, hpx⟩, q, rfl, (show BytesI _ q t from inferInstance), hf.weak, inferInstance, Ext0.ext⟩
 ·have hil : i < a * b := by have := of_decide_eq_true hcc; omega
  have hw1 := wa1 (a := i) (by omega)
  have hq8 := wq8 (i := i) (by omega)
  cases ht : decide (((i / 8 : Nat) : Int) < ((bits.length : Nat) : Int))
  ·skip
   try simp only [↓nrmL, nrmZ, Nat.reduceEqDiff, ↓reduceIte, hcc, hq8, ht]
   refine sq ?_
   refine rg fun KF hKF => ?_
   refine Fo.bin rfl rfl rfl (by simp only [↓nrmL, nrmZ, Nat.reduceEqDiff, ↓reduceIte, hcc, hq8, ht]; rfl) ?_
   refine WpO.nil (hKF _ _ ?_)
   refine sq ?_
   refine Wp.cond (b := true) rfl ?_
   refine Wp.skip ?_
   refine sq ?_
   refine Wp.block ?_
   refine sq ?_
   refine rg fun KF hKF => ?_
   refine mI rfl ?_
   refine mI rfl ?_
   refine WpO.nil (hKF _ _ ?_)
   refine sq ?_
   refine rg fun KF hKF => ?_
   refine mI rfl ?_
   refine Fo.bin rfl rfl rfl (by simp only [↓nrmL, nrmZ, Nat.reduceEqDiff, ↓reduceIte, hcc, hq8, ht]; rfl) ?_
   refine Fo.mov (by simp only [↓nrmL, nrmK, Nat.reduceEqDiff, ↓reduceIte]; rfl) ?_
   refine Fo.len (v := ?_) (by simp only [↓nrmL, nrmK, Nat.reduceEqDiff, ↓reduceIte]; rfl) ?hv ?_; case hv => rfl
   refine Fo.bin rfl rfl rfl (by simp only [↓nrmL, nrmZ, Nat.reduceEqDiff, ↓reduceIte, hcc, hq8, ht]; rfl) ?_
   refine WpO.nil (hKF _ _ ?_)
   refine Wp.cond (b := false) rfl ?_
   refine Wp.skip ?_
   refine rg fun KF hKF => ?_
   refine Fo.bin rfl rfl rfl rfl ?_
   refine mI rfl ?_
   refine WpO.nil (hKF _ _ ?_)
   dsimp only [cond_true, cond_false]
   exact ⟨(i + 1, t), by dsimp only; omega, ⟨by simp only [↓nrmL, nrmZ, Nat.reduceEqDiff, ↓reduceIte]; rw [hw1], trivial⟩, hil, hlen, hpx, hb2, hw2, inferInstance⟩
  ·have hbi : i / 8 < bits.length := by have := of_decide_eq_true ht; omega
   try simp only [↓nrmL, nrmZ, Nat.reduceEqDiff, ↓reduceIte, hcc, hq8, ht]
   refine sq ?_
   refine rg fun KF hKF => ?_
   refine Fo.bin rfl rfl rfl (by simp only [↓nrmL, nrmZ, Nat.reduceEqDiff, ↓reduceIte, hcc, hq8, ht]; rfl) ?_
   refine WpO.nil (hKF _ _ ?_)
   refine sq ?_
   refine Wp.cond (b := true) rfl ?_
   refine Wp.skip ?_
   refine sq ?_
   refine Wp.block ?_
   refine sq ?_
   refine rg fun KF hKF => ?_
   refine mI rfl ?_
   refine mI rfl ?_
   refine WpO.nil (hKF _ _ ?_)
   refine sq ?_
   refine rg fun KF hKF => ?_
   refine mI rfl ?_
   refine Fo.bin rfl rfl rfl (by simp only [↓nrmL, nrmZ, Nat.reduceEqDiff, ↓reduceIte, hcc, hq8, ht]; rfl) ?_
   refine Fo.mov (by simp only [↓nrmL, nrmK, Nat.reduceEqDiff, ↓reduceIte]; rfl) ?_
   refine Fo.len (v := ?_) (by simp only [↓nrmL, nrmK, Nat.reduceEqDiff, ↓reduceIte]; rfl) ?hv ?_; case hv => rfl
   refine Fo.bin rfl rfl rfl (by simp only [↓nrmL, nrmZ, Nat.reduceEqDiff, ↓reduceIte, hcc, hq8, ht]; rfl) ?_
   refine WpO.nil (hKF _ _ ?_)
   refine Wp.cond (b := true) rfl ?_
   dsimp only [cond_true, cond_false]
   refine Fr.dregion0 rfl fun KF hKF => ?_
   try simp only [↓nrmL, nrmZ, Nat.reduceEqDiff, ↓reduceIte, hq8, wr8]
   refine Fe.pure rfl rfl (by simp only [↓nrmL, nrmZ, Nat.reduceEqDiff, ↓reduceIte, hq8, wr8]; rfl) ?_
   refine Fe.read rfl (exec_ld rfl rfl) rfl (by repeat (first | exact trivial | refine ⟨(by first | exact Or.inl (by dsimp only; decide) | exact Or.inr (exec_ld rfl rfl) | exact Or.inr (exec_ldN rfl rfl rfl) | exact Or.inr (exec_ldB rfl (by omega)) | exact Or.inr (exec_ldI rfl (by omega)) | exact Or.inr ghost_of), ?_⟩)) ?_
   refine Fe.pure rfl rfl (by simp only [↓nrmL, nrmZ, Nat.reduceEqDiff, ↓reduceIte, hq8, wr8]; rfl) ?_
   refine Fe.pure rfl rfl (by simp only [↓nrmL, nrmZ, Nat.reduceEqDiff, ↓reduceIte, hq8, wr8]; rfl) ?_
   refine Fe.pure rfl rfl (by simp only [↓nrmL, nrmZ, Nat.reduceEqDiff, ↓reduceIte, hq8, wr8]; rfl) ?_
   refine Fe.pure rfl rfl (by simp only [↓nrmL, nrmZ, Nat.reduceEqDiff, ↓reduceIte, hq8, wr8]; rfl) ?_
   refine Fe.pure rfl (exec_idxP (by (try simp only [↓nrmL, nrmZ, Nat.reduceEqDiff, ↓reduceIte, hq8, wr8]); rfl) rfl ?_) (by simp only [↓nrmL, nrmZ, Nat.reduceEqDiff, ↓reduceIte, hq8, wr8]; rfl) ?_; (focus omega)
   refine Fe.read rfl (exec_ldB rfl (by omega)) rfl (by repeat (first | exact trivial | refine ⟨(by first | exact Or.inl (by dsimp only; decide) | exact Or.inr (exec_ld rfl rfl) | exact Or.inr (exec_ldN rfl rfl rfl) | exact Or.inr (exec_ldB rfl (by omega)) | exact Or.inr (exec_ldI rfl (by omega)) | exact Or.inr ghost_of), ?_⟩)) ?_
   refine Fe.pure rfl rfl (by simp only [↓nrmL, nrmZ, Nat.reduceEqDiff, ↓reduceIte, hq8, wr8]; rfl) ?_
   refine Fe.pure rfl rfl (by simp only [↓nrmL, nrmZ, Nat.reduceEqDiff, ↓reduceIte, hq8, wr8]; rfl) ?_
   refine Fe.pure rfl rfl (by simp only [↓nrmL, nrmZ, Nat.reduceEqDiff, ↓reduceIte, hq8, wr8]; rfl) ?_
   refine Fe.pure rfl rfl rfl ?_
   refine Fe.pure rfl (exec_idxP (by (try simp only [↓nrmL, nrmZ, Nat.reduceEqDiff, ↓reduceIte, hq8, wr8]); rfl) rfl ?_) (by simp only [↓nrmL, nrmZ, Nat.reduceEqDiff, ↓reduceIte, hq8, wr8]; rfl) ?_; (focus omega)
   refine WpE.stB (bitC _) rfl rfl rfl (bitC_eq _) (by rw [hlen]; exact hil) fun H4 hb4 hw4 hx4 => ⟨(by repeat (first | exact trivial | refine ⟨(by first | exact Or.inl (by dsimp only; decide) | exact Or.inr (readOk_of (exec_ld rfl rfl)) | exact Or.inr (readOk_of (exec_ldN rfl rfl rfl)) | exact Or.inr (readOk_of (exec_ldB rfl (by omega))) | exact Or.inr (readOk_of (exec_ldI rfl (by omega))) | exact Or.inr (made_of rfl)), ?_⟩)), ?_⟩
   refine WpE.nil (hKF _ _ ?_)
   refine rg fun KF hKF => ?_
   refine Fo.bin rfl rfl rfl rfl ?_
   refine mI rfl ?_
   refine WpO.nil (hKF _ _ ?_)
   dsimp only [cond_true, cond_false]
   exact ⟨(i + 1, _), by dsimp only; omega, ⟨by simp only [↓nrmL, nrmZ, Nat.reduceEqDiff, ↓reduceIte]; rw [hw1], trivial⟩, hil, by rw [List.length_set]; exact hlen, pxOk_set hpx (bitC_01 _), hb4, hw4, inferInstance⟩
end Go.Am

/- Thinning: passes over an image, and a list of pixels that are due. -/
set_option maxHeartbeats 4000000
namespace Go.Am
open Go

/-- The eight neighbours, clockwise from the upper one. -/
def dxN : Nat → Int
  | 0 => 0 | 1 => 1 | 2 => 1 | 3 => 1 | 4 => 0 | 5 => -1 | 6 => -1 | _ => -1
def dyN : Nat → Int
  | 0 => -1 | 1 => -1 | 2 => 0 | 3 => 1 | 4 => 1 | 5 => 1 | 6 => 0 | _ => -1
theorem dN_opp : ∀ t < 8, dxN ((t + 4) % 8) = -dxN t ∧ dyN ((t + 4) % 8) = -dyN t := by decide
theorem dN_bd : ∀ t < 8, (-1 ≤ dxN t ∧ dxN t ≤ 1) ∧ (-1 ≤ dyN t ∧ dyN t ≤ 1) := by decide
/-- Is there ink beside a place? -/
def ringF (a b : Nat) (l : List UInt8) (x y : Int) (k : Nat) : Bool := inkB a b l (x + dxN k) (y + dyN k)
def bN (c : Bool) : Nat := bif c then 1 else 0
def pcN (f : Nat → Bool) : Nat := bN (!f 0 && (f 1 || f 2)) + bN (!f 2 && (f 3 || f 4)) + bN (!f 4 && (f 5 || f 6)) + bN (!f 6 && (f 7 || f 0))
def nbN (f : Nat → Bool) : Nat := bN (f 0) + bN (f 1) + bN (f 2) + bN (f 3) + bN (f 4) + bN (f 5) + bN (f 6) + bN (f 7)
def goesB (f : Nat → Bool) : Bool := (pcN f == 1) && decide (nbN f > 1)
def goesAt (a b : Nat) (l : List UInt8) (k : Nat) : Bool := goesB (ringF a b l ((k % a : Nat) : Int) ((k / a : Nat) : Int))

theorem inkB_true {a b : Nat} {l : List UInt8} {x y : Int} (h : inkB a b l x y = true) : ∃ u v : Nat, x = u ∧ y = v ∧ u < a ∧ v < b ∧ l.getD (v * a + u) 0 = 1 := by
  unfold inkB at h
  simp only [Bool.and_eq_true, decide_eq_true_eq, beq_iff_eq] at h
  obtain ⟨h1, h2, h3, h4, h5⟩ := h
  refine ⟨x.toNat, y.toNat, by omega, by omega, by omega, by omega, ?_⟩
  have e : (y * (a : Int) + x).toNat = y.toNat * a + x.toNat := by
    obtain ⟨u, rfl⟩ : ∃ u : Nat, x = u := ⟨x.toNat, by omega⟩
    obtain ⟨v, rfl⟩ : ∃ v : Nat, y = v := ⟨y.toNat, by omega⟩
    rw [← Int.natCast_mul, ← Int.natCast_add, Int.toNat_natCast, Int.toNat_natCast, Int.toNat_natCast]
  rw [← e]; exact h5
theorem inkB_mk {a b u v : Nat} {l : List UInt8} (hu : u < a) (hv : v < b) : inkB a b l (u : Int) (v : Int) = (l.getD (v * a + u) 0 == 1) := inkB_nat hu hv
/-- k is the neighbour t of j. -/
def isNb (a b j t k : Nat) : Prop := ∃ u v : Nat, u < a ∧ v < b ∧ (u : Int) = ((j % a : Nat) : Int) + dxN t ∧ (v : Int) = ((j / a : Nat) : Int) + dyN t ∧ k = v * a + u
theorem div_lt {a b k : Nat} (hk : k < a * b) : 0 < a ∧ k % a < a ∧ k / a < b ∧ k = k / a * a + k % a := by
  have ha : 0 < a := by
    rcases Nat.eq_zero_or_pos a with h | h
    · rw [h, Nat.zero_mul] at hk; omega
    · exact h
  refine ⟨ha, Nat.mod_lt _ ha, Nat.div_lt_of_lt_mul hk, ?_⟩
  have := Nat.div_add_mod k a
  rw [Nat.mul_comm] at this
  exact this.symm
theorem at_div {a u v : Nat} (hu : u < a) : (v * a + u) % a = u ∧ (v * a + u) / a = v := by
  constructor
  · rw [Nat.add_comm, Nat.add_mul_mod_self_right, Nat.mod_eq_of_lt hu]
  · rw [Nat.add_comm, Nat.add_mul_div_right _ _ (by omega), Nat.div_eq_of_lt hu, Nat.zero_add]
/-- One pixel looked at; the first ones; whole passes. -/
def stepT (a b : Nat) (l : List UInt8) (k : Nat) : List UInt8 := if l.getD k 0 = 1 ∧ goesAt a b l k = true then l.set k 0 else l
theorem Ok.set0 {a b k : Nat} {l : List UInt8} (h : Ok a b l) : Ok a b (l.set k 0) := by
  refine ⟨h.wa, h.hb, by rw [List.length_set]; exact h.len, ?_⟩
  have hp := h.px
  unfold pxOk at hp ⊢
  rw [List.all_eq_true] at hp ⊢
  intro x hx
  rcases List.mem_or_eq_of_mem_set hx with h1 | h1
  · exact hp x h1
  · rw [h1]; rfl
theorem Ok.step {a b k : Nat} {l : List UInt8} (h : Ok a b l) : Ok a b (stepT a b l k) := by
  unfold stepT
  split
  · exact h.set0
  · exact h
end Go.Am

/- Components of an image: pixels that lead to each other by neighbours with ink. -/
set_option maxHeartbeats 4000000
namespace Go.Am
open Go

/-- k is a neighbour of j: one of eight, or one of four. -/
def Nb (a b : Nat) (e : Bool) (j k : Nat) : Prop := ∃ t < 8, (e = true ∨ t % 2 = 0) ∧ isNb a b j t k
theorem isNb_lt {a b j t k : Nat} (h : isNb a b j t k) : k < a * b := by
  obtain ⟨u, v, hu, hv, _, _, rfl⟩ := h
  have : (v + 1) * a ≤ b * a := Nat.mul_le_mul_right _ hv
  rw [Nat.add_mul, Nat.one_mul, Nat.mul_comm b a] at this
  omega
theorem Nb.lt {a b j k : Nat} {e : Bool} (h : Nb a b e j k) : k < a * b := by
  obtain ⟨t, _, _, h⟩ := h; exact isNb_lt h
theorem isNb_symm {a b j t k : Nat} (hj : j < a * b) (ht : t < 8) (h : isNb a b j t k) : isNb a b k ((t + 4) % 8) j := by
  obtain ⟨u, v, hu, hv, e1, e2, rfl⟩ := h
  obtain ⟨ha, h1, h2, h3⟩ := div_lt hj
  obtain ⟨o1, o2⟩ := dN_opp t ht
  obtain ⟨d1, d2⟩ := at_div (v := v) hu
  refine ⟨j % a, j / a, h1, h2, ?_, ?_, h3⟩
  · rw [d1, o1]; omega
  · rw [d2, o2]; omega
theorem Nb.symm {a b j k : Nat} {e : Bool} (hj : j < a * b) (h : Nb a b e j k) : Nb a b e k j := by
  obtain ⟨t, ht, he, h⟩ := h
  exact ⟨(t + 4) % 8, Nat.mod_lt _ (by decide), he.imp id (fun q => by omega), isNb_symm hj ht h⟩

theorem least_of (P : Nat → Prop) (n : Nat) : P n → ∃ m, P m ∧ ∀ j, P j → m ≤ j := by
  induction n using Nat.strongRecOn with
  | ind n ih =>
    intro hn
    by_cases h : ∃ k, k < n ∧ P k
    · obtain ⟨k, hk, pk⟩ := h
      exact ih k hk pk
    · exact ⟨n, hn, fun j hj => Nat.le_of_not_lt fun hlt => h ⟨j, hlt, hj⟩⟩
/-- From i one comes to j over ink. -/
inductive Reach (l : List UInt8) (a b : Nat) (e : Bool) (i : Nat) : Nat → Prop
  | refl : i < a * b → l.getD i 0 = 1 → Reach l a b e i i
  | step {j k : Nat} : Reach l a b e i j → Nb a b e j k → l.getD k 0 = 1 → Reach l a b e i k
section
variable {l : List UInt8} {a b : Nat} {e : Bool}
theorem Reach.end_ok {i j : Nat} (h : Reach l a b e i j) : j < a * b ∧ l.getD j 0 = 1 := by
  cases h with
  | refl h1 h2 => exact ⟨h1, h2⟩
  | step _ h2 h3 => exact ⟨h2.lt, h3⟩
theorem Reach.start_ok {i j : Nat} (h : Reach l a b e i j) : i < a * b ∧ l.getD i 0 = 1 := by
  induction h with
  | refl h1 h2 => exact ⟨h1, h2⟩
  | step _ _ _ ih => exact ih
theorem Reach.trans {i j k : Nat} (h : Reach l a b e i j) (g : Reach l a b e j k) : Reach l a b e i k := by
  induction g with
  | refl _ _ => exact h
  | step _ h2 h3 ih => exact ih.step h2 h3
theorem Reach.symm {i j : Nat} (h : Reach l a b e i j) : Reach l a b e j i := by
  induction h with
  | refl h1 h2 => exact .refl h1 h2
  | step h1 h2 h3 ih =>
    obtain ⟨k1, k2⟩ := h1.end_ok
    exact ((Reach.refl h2.lt h3).step (h2.symm k1) k2).trans ih
theorem Reach.eight {i j : Nat} (h : Reach l a b e i j) : Reach l a b true i j := by
  induction h with
  | refl h1 h2 => exact .refl h1 h2
  | step _ h2 h3 ih =>
    obtain ⟨t, ht, _, h⟩ := h2
    exact ih.step ⟨t, ht, Or.inl rfl, h⟩ h3

/-- m is the first pixel of i's component. -/
def Lead (l : List UInt8) (a b : Nat) (e : Bool) (i m : Nat) : Prop := Reach l a b e i m ∧ ∀ j, Reach l a b e i j → m ≤ j
theorem lead_exists {i : Nat} (hi : i < a * b) (h1 : l.getD i 0 = 1) : ∃ m, Lead l a b e i m := by
  obtain ⟨m, h2, h3⟩ := least_of (Reach l a b e i) i (.refl hi h1)
  exact ⟨m, h2, h3⟩
theorem Lead.unique {i m m' : Nat} (h : Lead l a b e i m) (g : Lead l a b e i m') : m = m' := Nat.le_antisymm (h.2 _ g.1) (g.2 _ h.1)
theorem Lead.same {i j m : Nat} (h : Lead l a b e i m) (g : Reach l a b e i j) : Lead l a b e j m := ⟨g.symm.trans h.1, fun k hk => h.2 k (g.trans hk)⟩
/-- Marks of whole components, with numbers below n. -/
structure Whole (l : List UInt8) (a b : Nat) (e : Bool) (M : Nat → Nat) (n : Nat) : Prop where
  lt : ∀ i, M i < n
  ink : ∀ i, M i ≠ 0 → i < a * b ∧ l.getD i 0 = 1
  same : ∀ i j, M i ≠ 0 → Reach l a b e i j → M j = M i
/-- How things stand while a component is marked with n: W is waiting; of the pixel at hand, x, the neighbours in P are looked at. -/
structure Flood (l : List UInt8) (a b : Nat) (e : Bool) (M0 : Nat → Nat) (s n : Nat) (M : Nat → Nat) (W : List Nat) (x : Option (Nat × Nat)) : Prop where
  old : ∀ i, M i = M0 i ∨ (M i = n ∧ M0 i = 0 ∧ Reach l a b e s i)
  start : M s = n
  wait : ∀ w ∈ W, M w = n ∧ M0 w = 0 ∧ Reach l a b e s w
  hand : ∀ w c, x = some (w, c) → M w = n ∧ M0 w = 0 ∧ Reach l a b e s w ∧ ∀ t < c, (e = true ∨ t % 2 = 0) → ∀ j, isNb a b w t j → l.getD j 0 = 1 → M j ≠ 0
  done : ∀ i, M i = n → M0 i = 0 → i ∈ W ∨ (∃ c, x = some (i, c)) ∨ ∀ j, Nb a b e i j → l.getD j 0 = 1 → M j ≠ 0
theorem Flood.begin {M0 : Nat → Nat} {s n : Nat} (hs : s < a * b) (h1 : l.getD s 0 = 1) (h0 : M0 s = 0) (hn : Whole l a b e M0 n) : Flood l a b e M0 s n (fun i => if i = s then n else M0 i) [s] none := by
  refine ⟨fun i => ?_, if_pos rfl, fun w hw => ?_, (fun w c h => by cases h), fun i hi h2 => ?_⟩
  · by_cases h : i = s
    · subst h; exact Or.inr ⟨if_pos rfl, h0, .refl hs h1⟩
    · exact Or.inl (if_neg h)
  · rw [List.mem_singleton] at hw; subst hw
    exact ⟨if_pos rfl, h0, .refl hs h1⟩
  · by_cases h : i = s
    · subst h; exact Or.inl (List.mem_singleton.2 rfl)
    · try dsimp only at hi
      rw [if_neg h] at hi
      have := hn.lt i
      omega
theorem Flood.pop {M0 M : Nat → Nat} {s n w : Nat} {W : List Nat} (h : Flood l a b e M0 s n M (W ++ [w]) none) : Flood l a b e M0 s n M W (some (w, 0)) := by
  refine ⟨h.old, h.start, fun v hv => h.wait v (List.mem_append_left _ hv), fun v c hc => ?_, fun i h1 h2 => ?_⟩
  · cases hc
    obtain ⟨g1, g2, g3⟩ := h.wait w (List.mem_append_right _ (List.mem_singleton.2 rfl))
    exact ⟨g1, g2, g3, fun t ht => by omega⟩
  · rcases h.done i h1 h2 with g | ⟨c, g⟩ | g
    · rcases List.mem_append.1 g with g | g
      · exact Or.inl g
      · rw [List.mem_singleton] at g; subst g
        exact Or.inr (Or.inl ⟨0, rfl⟩)
    · cases g
    · exact Or.inr (Or.inr g)
theorem Flood.keep {M0 M : Nat → Nat} {s n w c c' : Nat} {W : List Nat} (h : Flood l a b e M0 s n M W (some (w, c))) (hc : ∀ t, c ≤ t → t < c' → (e = true ∨ t % 2 = 0) → ∀ j, isNb a b w t j → l.getD j 0 = 1 → M j ≠ 0) : Flood l a b e M0 s n M W (some (w, c')) := by
  refine ⟨h.old, h.start, h.wait, fun v d hd => ?_, fun i h1 h2 => ?_⟩
  · cases hd
    obtain ⟨g1, g2, g3, g4⟩ := h.hand w c rfl
    refine ⟨g1, g2, g3, fun t ht he j hj hl => ?_⟩
    rcases Nat.lt_or_ge t c with hlt | hge
    · exact g4 t hlt he j hj hl
    · exact hc t hge ht he j hj hl
  · rcases h.done i h1 h2 with g | ⟨d, g⟩ | g
    · exact Or.inl g
    · cases g; exact Or.inr (Or.inl ⟨c', rfl⟩)
    · exact Or.inr (Or.inr g)
theorem Flood.mark {M0 M : Nat → Nat} {s n w c k t : Nat} {W : List Nat} (hn : 0 < n) (h : Flood l a b e M0 s n M W (some (w, c))) (ht : t < 8) (he : e = true ∨ t % 2 = 0) (hk : isNb a b w t k) (hl : l.getD k 0 = 1) (h0 : M k = 0) (hm : Whole l a b e M0 n) : Flood l a b e M0 s n (fun i => if i = k then n else M i) (W ++ [k]) (some (w, c)) := by
  obtain ⟨g1, g2, g3, g4⟩ := h.hand w c rfl
  have hrk : Reach l a b e s k := g3.step ⟨t, ht, he, hk⟩ hl
  have hk0 : M0 k = 0 := by
    rcases h.old k with q | ⟨q, _⟩
    · rw [← q]; exact h0
    · omega
  have hmono : ∀ i, M i ≠ 0 → (if i = k then n else M i) ≠ 0 := fun i hi => by split <;> omega
  refine ⟨fun i => ?_, ?_, fun v hv => ?_, fun v d hd => ?_, fun i h1 h2 => ?_⟩
  · try dsimp only
    by_cases q : i = k
    · subst q; rw [if_pos rfl]; exact Or.inr ⟨rfl, hk0, hrk⟩
    · rw [if_neg q]; exact h.old i
  · try dsimp only
    split
    · rfl
    · exact h.start
  · try dsimp only
    rcases List.mem_append.1 hv with q | q
    · obtain ⟨f1, f2, f3⟩ := h.wait v q
      refine ⟨?_, f2, f3⟩
      split
      · rfl
      · exact f1
    · rw [List.mem_singleton] at q; subst q
      exact ⟨if_pos rfl, hk0, hrk⟩
  · cases hd
    try dsimp only
    refine ⟨?_, g2, g3, fun t' ht' he' j hj hlj => hmono j (g4 t' ht' he' j hj hlj)⟩
    split
    · rfl
    · exact g1
  · try dsimp only at h1
    by_cases q : i = k
    · subst q; exact Or.inl (List.mem_append_right _ (List.mem_singleton.2 rfl))
    · rw [if_neg q] at h1
      rcases h.done i h1 h2 with f | f | f
      · exact Or.inl (List.mem_append_left _ f)
      · exact Or.inr (Or.inl f)
      · exact Or.inr (Or.inr fun j hj hlj => hmono j (f j hj hlj))
theorem Flood.drop {M0 M : Nat → Nat} {s n w : Nat} {W : List Nat} (h : Flood l a b e M0 s n M W (some (w, 8))) : Flood l a b e M0 s n M W none := by
  obtain ⟨g1, g2, g3, g4⟩ := h.hand w 8 rfl
  refine ⟨h.old, h.start, h.wait, (fun v d hd => by cases hd), fun i h1 h2 => ?_⟩
  rcases h.done i h1 h2 with f | ⟨c, f⟩ | f
  · exact Or.inl f
  · cases f
    exact Or.inr (Or.inr fun j hj hlj => by
      obtain ⟨t, ht, he, hj⟩ := hj
      exact g4 t ht he j hj hlj)
  · exact Or.inr (Or.inr f)
/-- The component is marked, and nothing else. -/
theorem Flood.end {M0 M : Nat → Nat} {s n : Nat} (h : Flood l a b e M0 s n M [] none) (hm : Whole l a b e M0 n) (hs : s < a * b) (h1 : l.getD s 0 = 1) (h0 : M0 s = 0) : ∀ i, (Reach l a b e s i → M i = n) ∧ (¬ Reach l a b e s i → M i = M0 i) := by
  have hz : ∀ i, Reach l a b e s i → M0 i = 0 := by
    intro i hi
    cases hq : M0 i with
    | zero => rfl
    | succ q =>
      have := hm.same i s (by rw [hq]; exact Nat.succ_ne_zero q) hi.symm
      omega
  have hall : ∀ i, Reach l a b e s i → M i = n := by
    intro i hi
    induction hi with
    | refl _ _ => exact h.start
    | step g1 g2 g3 ih =>
      rcases h.done _ ih (hz _ g1) with f | ⟨c, f⟩ | f
      · cases f
      · cases f
      · have hne := f _ g2 g3
        rcases h.old _ with q | ⟨q, _⟩
        · rw [q, hz _ (g1.step g2 g3)] at hne; exact absurd rfl hne
        · exact q
  refine fun i => ⟨hall i, fun hno => ?_⟩
  rcases h.old i with q | ⟨_, _, q⟩
  · exact q
  · exact absurd q hno
theorem Whole.next {M0 M : Nat → Nat} {s n : Nat} (hm : Whole l a b e M0 n) (hn : 0 < n) (hs : s < a * b) (h1 : l.getD s 0 = 1) (h : ∀ i, (Reach l a b e s i → M i = n) ∧ (¬ Reach l a b e s i → M i = M0 i)) : Whole l a b e M (n + 1) := by
  classical
  refine ⟨fun i => ?_, fun i hi => ?_, fun i j hi hr => ?_⟩
  · by_cases q : Reach l a b e s i
    · rw [(h i).1 q]; omega
    · rw [(h i).2 q]; have := hm.lt i; omega
  · by_cases q : Reach l a b e s i
    · exact q.end_ok
    · rw [(h i).2 q] at hi; exact hm.ink i hi
  · by_cases q : Reach l a b e s i
    · rw [(h i).1 q, (h j).1 (q.trans hr)]
    · have q' : ¬ Reach l a b e s j := fun k => q (k.trans hr.symm)
      rw [(h i).2 q] at hi ⊢
      rw [(h j).2 q']
      exact hm.same i j hi hr
end
end Go.Am

/- Parts of slices of bytes. -/
namespace Go.Am
open Go

/-- v is a part of the slice p: n bytes from a on. -/
class Part (p : outParam AVal) (v : AVal) (a n : outParam Nat) : Prop where
  it : (n = 0 ∧ aLenS v = some (.int .i64 0) ∧ v.cells = [v] ∧ v.one = true) ∨ ∃ r off len cap cap', p = .slice r off len cap 1 ∧ v = .slice r (off + a) n cap' 1 ∧ a + n ≤ len
theorem Part.one {p v : AVal} {a n : Nat} (h : Part p v a n) : OneV v := by
  rcases h.it with ⟨_, _, h1, h2⟩ | ⟨r, off, len, cap, cap', _, rfl, _⟩
  · exact ⟨h1, h2⟩
  · infer_instance
theorem Part.lenS {p v : AVal} {a n : Nat} (h : Part p v a n) : aLenS v = some (.int .i64 n) := by
  rcases h.it with ⟨rfl, h1, _⟩ | ⟨r, off, len, cap, cap', _, rfl, _⟩
  · exact h1
  · rfl
section
variable {call : ACall} {fr : AFrame} {H : AHeap} {KF : AFrame → AHeap → Prop} {os : List ROper} {d : Nat}
theorem cells_sub {row : List AVal} {l : List UInt8} {off a b : Nat} (hc : (row.drop off).take l.length = cellsB l) (hb : b ≤ l.length) : (row.drop (off + a)).take (b - a) = cellsB ((l.drop a).take (b - a)) := by
  have h1 : (cellsB l).drop a = cellsB (l.drop a) := by simp [cellsB, List.map_drop]
  have h2 : ∀ (k : Nat) (m : List UInt8), (cellsB m).take k = cellsB (m.take k) := fun k m => by simp [cellsB, List.map_take]
  rw [← h2, ← h1, ← hc, List.drop_take, List.drop_drop, List.take_take]
  congr 1
  omega
/-- What a slice expression's bound says. -/
def bnd (o : Option AVal) (dflt n : Nat) : Prop := (o = none ∧ n = dflt) ∨ ∃ k, o = some (.int k n)
theorem exec_slc {x : ROpd} {lo hi : Option ROpd} {p : AVal} {l : List UInt8} {a b : Nat} (hx : x.ev fr = p) (hlo : bnd (lo.map (·.ev fr)) 0 a) (hhi : bnd (hi.map (·.ev fr)) l.length b) (hab : a ≤ b) (hbl : b ≤ l.length) [s : BytesI H p l] :
    ∃ v H', (ROp.sliceS 1 x lo hi none).exec call fr H = some (v, H') ∧ Part p v a (b - a) ∧ BytesI H' v ((l.drop a).take (b - a)) ∧ Ext H H' := by
  have hlen : ((l.drop a).take (b - a)).length = b - a := by rw [List.length_take, List.length_drop]; omega
  have hl1 : ∀ h, a ≤ h → aLow h (lo.map (·.ev fr)) = some a := by
    intro h hh
    rcases hlo with ⟨h1, rfl⟩ | ⟨k, h1⟩
    · rw [h1]; rfl
    · rw [h1]
      have : (0 : Int) ≤ (a : Int) ∧ (a : Int) ≤ (h : Int) := by omega
      simp only [aLow, aBound, if_pos this, Int.toNat_natCast]
  have hh1 : ∀ y, b ≤ y → aHigh l.length y (hi.map (·.ev fr)) = some b := by
    intro y hy
    rcases hhi with ⟨h1, rfl⟩ | ⟨k, h1⟩
    · rw [h1]; rfl
    · rw [h1]
      have : (0 : Int) ≤ (b : Int) ∧ (b : Int) ≤ (y : Int) := by omega
      simp only [aHigh, aBound, if_pos this, Int.toNat_natCast]
  rcases s.it with ⟨rfl, h0, _⟩ | ⟨r, off, cap, row, rw, e, rfl, hr, hg, hl, hc, hcap⟩
  · have e1 : b = 0 := by omega
    have e2 : a = 0 := by omega
    subst e1 e2
    have hb0 : aBounds 0 (some 0) (lo.map (·.ev fr)) (hi.map (·.ev fr)) none = some (0, 0, some 0) := by
      have h1 := hh1 (capD 0 (some 0)) (Nat.zero_le _)
      rw [h0] at h1
      simp only [aBounds, h1, hl1 0 (Nat.zero_le _)]
    refine ⟨.nslice, H, by simp only [ROp.exec, hx, Option.map_none, aSliceS, hb0, M.pure], ⟨Or.inl ⟨rfl, rfl, rfl, rfl⟩⟩, ?_, Ext.refl H⟩
    have e3 : (l.drop 0).take (0 - 0) = [] := by simp
    rw [e3]
    exact ⟨Or.inl ⟨rfl, rfl, rfl⟩⟩
  · rw [Nat.mul_one] at hl hc
    have hb0 : aBounds l.length cap (lo.map (·.ev fr)) (hi.map (·.ev fr)) none = some (a, b, cap) := by
      simp only [aBounds, hh1 _ (Nat.le_trans hbl hcap), hl1 b hab]
    have hsub := cells_sub (a := a) hc hbl
    have full : ∀ cap', (b - a ≤ capD (b - a) cap') → BytesI H (.slice r (off + a) (b - a) cap' 1) ((l.drop a).take (b - a)) := by
      intro cap' hc'
      unfold BytesI
      rw [hlen]
      exact ⟨Or.inr ⟨r, off + a, cap', row, rw, e, rfl, hr, hg, by omega, by rw [Nat.mul_one]; exact hsub, hc'⟩⟩
    have none0 : a = b → ∀ cap', BytesI H (.slice r off (b - a) cap' 1) ((l.drop a).take (b - a)) := by
      intro hE cap'
      subst hE
      have e3 : (l.drop a).take (a - a) = [] := by simp
      rw [e3, Nat.sub_self]
      exact ⟨Or.inr ⟨r, off, cap', row, rw, e, rfl, hr, hg, by simp; omega, by simp [cellsB], Nat.zero_le _⟩⟩
    cases cap with
    | some c =>
      simp only [capD] at hcap
      by_cases hca : c = a
      · have hE : a = b := by omega
        refine ⟨.slice r off (b - a) (some 0) 1, H, by simp only [ROp.exec, hx, Option.map_none, aSliceS, ne_eq, not_true, if_false, hb0, M.pure, if_pos hca], ⟨Or.inl ⟨by omega, by rw [hE, Nat.sub_self]; rfl, rfl, rfl⟩⟩, none0 hE _, Ext.refl H⟩
      · refine ⟨.slice r (off + a) (b - a) (some (c - a)) 1, H, by simp only [ROp.exec, hx, Option.map_none, aSliceS, ne_eq, not_true, if_false, hb0, M.pure, if_neg hca, Nat.mul_one], ⟨Or.inr ⟨r, off, l.length, some c, some (c - a), rfl, rfl, by omega⟩⟩, full _ (by simp only [capD]; omega), Ext.refl H⟩
    | none =>
      have h2 : ¬ row.length < off + l.length := by omega
      have hrow : aRow r H = some ((row, rw), H) := by simp only [aRow, if_pos hr, hg]
      by_cases hcd : a < b ∨ a = 0
      · refine ⟨.slice r (off + a) (b - a) none 1, H, ?_, ⟨Or.inr ⟨r, off, l.length, none, none, rfl, rfl, by omega⟩⟩, full _ (Nat.le_refl _), Ext.refl H⟩
        simp only [ROp.exec, hx, Option.map_none, aSliceS, ne_eq, not_true, if_false, hb0, Nat.mul_one, Nat.one_ne_zero, M.bind, hrow, if_neg h2, if_pos hcd, M.pure]
      · have hE : a = b := by omega
        refine ⟨.slice H.n 0 0 none 1, H.push (.row [] false 0), ?_, ⟨Or.inl ⟨by omega, rfl, rfl, rfl⟩⟩, ?_, (Ext.refl H).push _⟩
        · simp only [ROp.exec, hx, Option.map_none, aSliceS, ne_eq, not_true, if_false, hb0, Nat.mul_one, Nat.one_ne_zero, M.bind, hrow, if_neg h2, if_neg hcd, M.pure, aNew]
        · have e3 : (l.drop a).take (b - a) = [] := by rw [hE, Nat.sub_self]; simp
          rw [e3]
          exact ⟨Or.inr ⟨H.n, 0, none, [], false, 0, rfl, Nat.lt_succ_self _, push_get_eq, by simp, by simp [cellsB], Nat.zero_le _⟩⟩
theorem Fo.slc {x : ROpd} {lo hi : Option ROpd} {p : AVal} {l : List UInt8} {a b : Nat} (hx : x.ev fr = p) (hlo : bnd (lo.map (·.ev fr)) 0 a) (hhi : bnd (hi.map (·.ev fr)) l.length b) (hab : a ≤ b) (hbl : b ≤ l.length) [s : BytesI H p l]
    (h : ∀ v H1, Part p v a (b - a) → BytesI H1 v ((l.drop a).take (b - a)) → ExtI H H1 → WpO call os (upd fr d v) H1 KF) : WpO call (⟨some d, .sliceS 1 x lo hi none, none⟩ :: os) fr H KF := by
  obtain ⟨v, H1, h1, h2, h3, h4⟩ := exec_slc (call := call) hx hlo hhi hab hbl (s := s)
  exact WpO.step rfl ⟨v, H1, h1, h v H1 h2 h3 ⟨h4⟩⟩
end
end Go.Am

/- Slices that grow: append to a slice that the function alone holds. Loops over functions: the rules for contracts. -/
set_option maxHeartbeats 4000000
namespace Go.Am
open Go

/-- A slice that nobody else holds, with all of its row. -/
class OwnS (H : AHeap) (p : AVal) (sz : outParam Nat) (n : outParam Nat) (cs : outParam (List AVal)) (e : outParam TypeId) : Prop where
  it : (p = .nslice ∧ n = 0 ∧ cs = []) ∨ ∃ r e', p = .slice r 0 n none sz ∧ r < H.n ∧ H.get r = .row cs true e' ∧ e' / 2 = e ∧ cs.length = n * sz ∧ 0 < n
theorem OwnS.sl {H : AHeap} {p : AVal} {sz n : Nat} {cs : List AVal} {e : TypeId} (h : OwnS H p sz n cs e) : SliceAt H p sz n cs := by
  rcases h.it with ⟨h1, h2, h3⟩ | ⟨r, e', h1, h2, h3, h4, h5, h6⟩
  · exact ⟨Or.inl ⟨h1, h2, h3⟩⟩
  · exact ⟨Or.inr ⟨r, 0, none, cs, true, e', h1, h2, h3, by omega, by rw [List.drop_zero, List.take_of_length_le (by omega)], Nat.le_refl _⟩⟩
theorem OwnS.wr {H : AHeap} {p : AVal} {sz n : Nat} {cs : List AVal} {e : TypeId} (h : OwnS H p sz n cs e) : WrS H p := ⟨fun r off len cap s q => by
  rcases h.it with ⟨h1, _⟩ | ⟨r', e', h1, h2, h3, _⟩
  · rw [h1] at q; cases q
  · rw [h1] at q; cases q; exact ⟨cs, e', h3⟩⟩
theorem OwnS.keep {H H' : AHeap} {p : AVal} {sz n : Nat} {cs : List AVal} {e : TypeId} (h : OwnS H p sz n cs e) (hn : H.n ≤ H'.n) (hg : ∀ r off len cap sz, p = .slice r off len cap sz → r < H.n → H'.get r = H.get r) : OwnS H' p sz n cs e := by
  rcases h.it with ⟨h1, h2, h3⟩ | ⟨r, e', h1, h2, h3, h4⟩
  · exact ⟨Or.inl ⟨h1, h2, h3⟩⟩
  · exact ⟨Or.inr ⟨r, e', h1, by omega, by rw [hg _ _ _ _ _ h1 h2]; exact h3, h4⟩⟩
instance {H H' : AHeap} {p : AVal} {sz n : Nat} {cs : List AVal} {e : TypeId} [x : ExtI H H'] [h : OwnS H p sz n cs e] : OwnS H' p sz n cs e := h.keep x.ext.n fun _ _ _ _ _ _ hr => x.ext.get _ hr
instance {H : AHeap} {o : AObj} {p : AVal} {sz n : Nat} {cs : List AVal} {e : TypeId} [h : OwnS H p sz n cs e] : OwnS (H.push o) p sz n cs e := h.keep (Nat.le_succ _) fun _ _ _ _ _ _ hr => push_get_lt hr
instance {H : AHeap} {s : Nat} {o : AObj} {p : AVal} {sz n : Nat} {cs : List AVal} {e : TypeId} [h : OwnS H p sz n cs e] [k : RowNe p s] : OwnS (H.set s o) p sz n cs e := h.keep (Nat.le_refl _) fun _ _ _ _ _ e _ => set_get_ne (k.ne _ _ _ _ _ e)
instance {H H' : AHeap} {p q : AVal} {sz n : Nat} {cs : List AVal} {e : TypeId} [x : ExtP H H' q] [h : OwnS H p sz n cs e] [k : SepS p q] : OwnS H' p sz n cs e := h.keep x.n fun r _ _ _ _ e hr => x.get r hr ⟨fun r' _ _ _ _ e' => fun hh => k.ne _ _ _ _ _ _ _ _ _ _ e e' hh.symm⟩

theorem exec_grow {H : AHeap} {p q : AVal} {sz n k bytes : Nat} {cs new : List AVal} {e : TypeId} (h : OwnS H p sz n cs e) (hf : aLenOf q = some k ∧ aFirst sz k q H = some (new, H)) (hnl : new.length = k * sz) (hsz : 0 < sz) (hb : 0 < bytes) (hk : 0 < k) (hroom : 2 * (n + k) * bytes ≤ 2 ^ 48) (hone : new.all AVal.one = true) :
    ∃ p' H', aAppend e sz bytes p q H = some (p', H') ∧ OwnS H' p' sz (n + k) (cs ++ new) e ∧ FreshS H p' ∧ ExtP H H' p := by
  have hk0 : ¬ k = 0 := by omega
  have hs0 : ¬ sz = 0 := by omega
  have hb0 : ¬ bytes = 0 := by omega
  rcases h.it with ⟨rfl, rfl, rfl⟩ | ⟨r, e', rfl, h2, h3, h4, h5, h6⟩
  · refine ⟨.slice H.n 0 k none sz, H.push (.row new true (2 * e)), ?_, ⟨Or.inr ⟨H.n, 2 * e, by rw [Nat.zero_add], Nat.lt_succ_self _, by rw [List.nil_append]; exact push_get_eq, half_even _, by rw [List.nil_append, Nat.zero_add]; exact hnl, by omega⟩⟩, ⟨fun _ _ _ _ _ q => by cases q; exact Nat.le_refl _⟩, ⟨Nat.le_succ _, fun r hr _ => push_get_lt hr⟩⟩
    rw [Nat.zero_add] at hroom
    simp only [aAppend, hf.1]
    rw [bind_of hf.2]
    simp only [hone, hnl, Bool.not_true, ne_eq, not_true, decide_false, hs0, hb0, Bool.or_false, Bool.false_eq_true, if_false, hk0, if_pos hroom, M.bind, aNew, M.pure]
  · have hcl : 0 + n * sz ≤ cs.length := by omega
    have hno : ¬ (0 + (n + k) * sz ≤ cs.length) := by
      have : 0 < k * sz := Nat.mul_pos hk hsz
      rw [Nat.add_mul]; omega
    refine ⟨.slice H.n 0 (n + k) none sz, (H.set r .dead).push (.row (cs ++ new) true (2 * e + 1)), ?_, ⟨Or.inr ⟨H.n, 2 * e + 1, rfl, Nat.lt_succ_self _, push_get_eq (H := H.set r .dead), half_odd _, by rw [List.length_append, hnl, h5, Nat.add_mul], by omega⟩⟩, ⟨fun _ _ _ _ _ q => by cases q; exact Nat.le_refl _⟩, ⟨Nat.le_succ _, fun s hs hne => by
      have hsr : s ≠ r := fun q => hne.ne _ _ _ _ _ rfl q.symm
      rw [push_get_lt (H := H.set r .dead) hs, set_get_ne hsr]⟩⟩
    have ha : aRow r H = some ((cs, true), H) := by simp only [aRow, if_pos h2, h3]
    have hmv : aMove r e (.row (((cs.drop 0).take (n * sz)) ++ new) true (2 * e + 1)) H = some (H.n, (H.set r .dead).push (.row (cs ++ new) true (2 * e + 1))) := by
      simp only [aMove, h3, h4, nbeq_self]
      rw [List.drop_zero, List.take_of_length_le (by omega)]
    simp only [aAppend, hf.1]
    rw [bind_of hf.2]
    simp only [hone, hnl, Bool.not_true, ne_eq, not_true, decide_false, hs0, hb0, Bool.or_false, Bool.false_eq_true, if_false]
    rw [bind_of ha]
    simp only [hk0, if_false, hno, Bool.true_and, decide_eq_true hcl, decide_eq_true hroom, Bool.and_true, if_true]
    rw [bind_of hmv]
    rfl

theorem aFirst_at {H : AHeap} {q : AVal} {sz k : Nat} {new : List AVal} (h : SliceAt H q sz k new) : aLenOf q = some k ∧ aFirst sz k q H = some (new, H) := by
  rcases h.it with ⟨rfl, rfl, rfl⟩ | ⟨r, off, cap, row, rw, e0, rfl, hr, hg, hle, hc, _⟩
  · exact ⟨rfl, rfl⟩
  · exact ⟨rfl, by simp only [aFirst, ne_eq, not_true, if_false, M.bind, aRow, if_pos hr, hg, if_pos hle, hc, M.pure]⟩
section
variable {call : ACall} {fr : AFrame} {H : AHeap} {K : AVal → AHeap → Prop}
theorem WpX.grow {e : TypeId} {x y : ROpd} {p q : AVal} {sz n k bytes : Nat} {cs new : List AVal} (hx : x.ev fr = p) (hy : y.ev fr = q) [h : OwnS H p sz n cs e] [hq : SliceAt H q sz k new] (hsz : 0 < sz) (hb : 0 < bytes) (hk : 0 < k) (hroom : 2 * (n + k) * bytes ≤ 2 ^ 48) (hone : new.all AVal.one = true)
    (hK : ∀ p' H', OwnS H' p' sz (n + k) (cs ++ new) e → FreshS H p' → ExtP H H' p → K p' H') : WpX (.append e sz bytes x y) call fr H K := by
  obtain ⟨p', H', h1, h2, h3, h4⟩ := exec_grow h (aFirst_at hq) hq.len hsz hb hk hroom hone
  exact ⟨p', H', by simp only [ROp.exec, hx, hy]; exact h1, hK p' H' h2 h3 h4⟩
end

/- ===== loops over functions ===== -/
class HasLoop (H : AHeap) (r : Nat) (R : outParam RLoop) : Prop where
  lt : r < H.n
  get : H.get r = .loop R
instance {H : AHeap} {r : Nat} {R : RLoop} [h : HasLoop H r R] : LtN r H := ⟨h.lt⟩
theorem HasLoop.ext {H H' : AHeap} {r : Nat} {R : RLoop} (h : HasLoop H r R) (x : Ext H H') : HasLoop H' r R := ⟨Nat.lt_of_lt_of_le h.lt x.n, by rw [x.get r h.lt]; exact h.get⟩
instance {H H' : AHeap} {r : Nat} {R : RLoop} [x : ExtI H H'] [h : HasLoop H r R] : HasLoop H' r R := h.ext x.ext
instance {H : AHeap} {o : AObj} {r : Nat} {R : RLoop} [h : HasLoop H r R] : HasLoop (H.push o) r R := ⟨Nat.lt_succ_of_lt h.lt, by rw [push_get_lt h.lt]; exact h.get⟩
instance {H : AHeap} {R : RLoop} : HasLoop (H.push (.loop R)) H.n R := ⟨Nat.lt_succ_self _, push_get_eq⟩
instance {H : AHeap} {s : Nat} {o : AObj} {r : Nat} {R : RLoop} [h : HasLoop H r R] [k : NeR r s] : HasLoop (H.set s o) r R := ⟨h.lt, by rw [set_get_ne k.ne]; exact h.get⟩
instance {H : AHeap} {r : Nat} {R R' : RLoop} [h : HasLoop H r R'] : HasLoop (H.set r (.loop R)) r R := ⟨h.lt, set_get_eq⟩
instance {H H' : AHeap} {r : Nat} {R : RLoop} {q : AVal} [x : ExtP H H' q] [h : HasLoop H r R] [k : RowNe q r] : HasLoop H' r R := ⟨Nat.lt_of_lt_of_le h.lt x.n, by rw [x.get r h.lt k]; exact h.get⟩

section
variable {call : ACall} {lf : Nat} {fr : AFrame} {H : AHeap} {Q : RExit → AFrame → AHeap → Prop}
theorem Wp.range {fns : List FuncId} {nt : Nat} {g : ROpd} {ps : List Nat} {a b : RCode} {gf : FuncId} {fi ca vs : List AVal} (hg : g.ev fr = .func (.func gf) fi ca) (hv : fr nt = .tuple vs) (hf : fns.contains gf = true)
    (h : ∃ v H2 R, call gf (fi ++ [.yield (H.n + 1)] ++ ca) ((H.push .dead).push (.loop ⟨H.n, nt, fr, ps, a, b, 0, .normal⟩)) = some (v, H2) ∧ H2.get (H.n + 1) = .loop R ∧ (Nat.beq R.st 1 || Nat.beq R.st 4) = false ∧
      Q R.pend (upd fr nt (.tuple (.ptr H.n (H.n + 1) :: vs))) (H2.set (H.n + 1) (.loop { R with st := 3 }))) : Wp call lf (.rangeFunc fns nt g ps a b) fr H Q := by
  obtain ⟨v, H2, R, h1, h2, h3, h4⟩ := h
  refine ⟨_, _, _, ?_, h4⟩
  simp only [RCode.exec, hg, hv, hf, h1, h2, h3]
end

end Go.Am

set_option maxHeartbeats 4000000
set_option maxRecDepth 100000
namespace Go.Am
open Go
attribute [local irreducible] Wp WpO WpX WpE

/-- The package-level table. -/
abbrev aroundCs : List AVal := [.int .i64 0, .int .i64 (-1), .int .i64 1, .int .i64 (-1), .int .i64 1, .int .i64 0, .int .i64 1, .int .i64 1, .int .i64 0, .int .i64 1, .int .i64 (-1), .int .i64 1, .int .i64 (-1), .int .i64 0, .int .i64 (-1), .int .i64 (-1)]
/-- It is there. -/
class Tabs (H : AHeap) : Prop where
 it : tablesIn aroundT H = true
theorem tabs_iff {H : AHeap} : tablesIn aroundT H = true ↔ 0 < H.n ∧ ∃ rw e, H.get 0 = .row aroundCs rw e := by
 simp only [tablesIn, aroundT, List.all_cons, List.all_nil, Bool.and_true, Bool.and_eq_true]
 constructor
 ·rintro ⟨h1, h2⟩
  refine ⟨by simpa using h1, ?_⟩
  cases hg : H.get 0 with
  | row cs rw e => rw [hg] at h2; exact ⟨rw, e, by rw [abeqL_eq h2]⟩
  | _ => rw [hg] at h2; cases h2
 ·rintro ⟨h1, rw, e, hg⟩
  exact ⟨by simpa using h1, by rw [hg]; exact abeqL_refl _⟩
theorem Tabs.keep {H H' : AHeap} (h : Tabs H) (hn : H.n ≤ H'.n) (hg : H'.get 0 = H.get 0) : Tabs H' := by
 obtain ⟨h1, rw, e, h2⟩ := tabs_iff.1 h.it
 exact ⟨tabs_iff.2 ⟨by omega, rw, e, by rw [hg]; exact h2⟩⟩
theorem Tabs.lt {H : AHeap} (h : Tabs H) : 0 < H.n := (tabs_iff.1 h.it).1
theorem Tabs.ext {H H' : AHeap} (h : Tabs H) (x : Ext H H') : Tabs H' := h.keep x.n (x.get 0 h.lt)
class NeZ (s : Nat) : Prop where
 ne : s ≠ 0
instance {K : AHeap} [h : Tabs K] : NeZ K.n := ⟨by have := h.lt; omega⟩
instance {K : AHeap} {s : Nat} [g : GeN K s] [h : Tabs K] : NeZ s := ⟨by have := h.lt; have := g.ge; omega⟩
instance {H H' : AHeap} [x : ExtI H H'] [h : Tabs H] : Tabs H' := h.ext x.ext
instance {H : AHeap} {o : AObj} [h : Tabs H] : Tabs (H.push o) := h.ext ((Ext.refl H).push o)
instance {H : AHeap} {s : Nat} {o : AObj} [h : Tabs H] [z : NeZ s] : Tabs (H.set s o) := h.keep (Nat.le_refl _) (set_get_ne (fun e => z.ne e.symm))
instance {K H H' : AHeap} {p : AVal} [x : ExtP H H' p] [h : Tabs H] [f : FreshS K p] [k : Tabs K] : Tabs H' := h.keep x.n (x.get 0 h.lt ⟨fun r _ _ _ _ e => by have := f.ge _ _ _ _ _ e; have := k.lt; omega⟩)
theorem aClosed_nil {T : List (Nat × List AVal)} {v : AVal} {H : AHeap} (h : tablesIn T H = true) : aClosed T v [] H = some (v, H) := by
 show (match tablesIn T H with | true => some (v, H) | false => none) = some (v, H)
 rw [h]
instance K_awake {H : AHeap} [h : Tabs H] : PureCon ext prog 19 [] H 0 (.bool true) := ⟨fun n hn => by
 obtain ⟨k, rfl⟩ : ∃ k, n = k + 1 := ⟨n - 1, by unfold fuel0 at hn; omega⟩
 have e1 : prog 19 = some ⟨0, .ext 3, []⟩ := rfl
 refine ⟨.bool true, H, ?_, rfl, Ext.refl H⟩
 rw [call_ext e1]
 exact aClosed_nil h.it⟩

end Go.Am

set_option maxHeartbeats 8000000
set_option maxRecDepth 100000
set_option synthInstance.maxHeartbeats 4000000
set_option synthInstance.maxSize 100000
namespace Go.Am
open Go
attribute [local irreducible] Wp WpO WpX WpE

end Go.Am

/- The table of the neighbours. -/
set_option maxHeartbeats 4000000
namespace Go.Am
open Go
theorem Wp.label {call : ACall} {lf : Nat} {fr : AFrame} {H : AHeap} {Q : RExit → AFrame → AHeap → Prop} (h : Q .normal fr H) : Wp call lf .label fr H Q := ⟨_, _, _, rfl, h⟩
end Go.Am

set_option maxHeartbeats 8000000
set_option maxRecDepth 100000
set_option synthInstance.maxHeartbeats 4000000
set_option synthInstance.maxSize 100000
namespace Go.Am
open Go
attribute [local irreducible] Wp WpO WpX WpE

end Go.Am

set_option maxHeartbeats 8000000
set_option maxRecDepth 100000
set_option synthInstance.maxHeartbeats 4000000
set_option synthInstance.maxSize 100000
namespace Go.Am
open Go
attribute [local irreducible] Wp WpO WpX WpE

end Go.Am

/- A stack of numbers: a list that is cut at its end, and grows there. -/
set_option maxHeartbeats 4000000
namespace Go.Am
open Go

/-- A stack of numbers, which nobody else holds; its row's type is e. -/
structure Stk (H : AHeap) (p : AVal) (e : TypeId) (l : List Int) : Prop where
  it : ∃ r cap row e', p = .slice r 0 l.length cap 1 ∧ r < H.n ∧ H.get r = .row row true e' ∧ e' / 2 = e ∧ l.length ≤ row.length ∧ row.take l.length = cellsI l ∧ (cap = none ∨ ∃ c, cap = some c ∧ 0 < c ∧ c ≤ row.length ∧ l.length ≤ c)
theorem Stk.ints {H : AHeap} {p : AVal} {e : TypeId} {l : List Int} (h : Stk H p e l) : IntsI H p l := by
  obtain ⟨r, cap, row, e', rfl, h1, h2, h3, h4, h5, h6⟩ := h.it
  refine ⟨Or.inr ⟨r, 0, cap, row, true, e', rfl, h1, h2, by omega, by rw [Nat.mul_one, List.drop_zero]; exact h5, ?_⟩⟩
  rcases h6 with rfl | ⟨c, rfl, h6, h7, h8⟩
  · exact Nat.le_refl _
  · exact h8
theorem Stk.keep {H H' : AHeap} {p : AVal} {e : TypeId} {l : List Int} (h : Stk H p e l) (hn : H.n ≤ H'.n) (hg : ∀ r off len cap sz, p = .slice r off len cap sz → r < H.n → H'.get r = H.get r) : Stk H' p e l := by
  obtain ⟨r, cap, row, e', rfl, h1, h2, h3⟩ := h.it
  exact ⟨r, cap, row, e', rfl, Nat.lt_of_lt_of_le h1 hn, by rw [hg _ _ _ _ _ rfl h1]; exact h2, h3⟩
/-- The stack without its last number. -/
theorem exec_cut {H : AHeap} {p : AVal} {e : TypeId} {l : List Int} {k : Int} (h : Stk H p e (l ++ [k])) :
    ∃ p', aSliceS 1 p none (some (.int .i64 (l.length : Int))) none H = some (p', H) ∧ Stk H p' e l ∧ (∀ r off len cap sz, p' = .slice r off len cap sz → ∃ len' cap', p = .slice r off len' cap' sz) := by
  obtain ⟨r, cap, row, e', rfl, h1, h2, h3, h4, h5, h6⟩ := h.it
  rw [List.length_append, List.length_singleton] at h4 h5
  have ht : row.take l.length = cellsI l := by
    have := congrArg (List.take l.length) h5
    rw [List.take_take, Nat.min_eq_left (Nat.le_succ _)] at this
    rw [this]
    simp only [cellsI, List.map_append]
    rw [List.take_left' (by simp)]
  rw [List.length_append, List.length_singleton]
  have hrow : aRow r H = some ((row, true), H) := by simp only [aRow, if_pos h1, h2]
  rcases h6 with rfl | ⟨c, rfl, h6, h7, h8⟩
  · refine ⟨.slice r 0 l.length none 1, ?_, ⟨r, none, row, e', rfl, h1, h2, h3, by omega, ht, Or.inl rfl⟩, fun r' off len cap sz q => by cases q; exact ⟨_, _, rfl⟩⟩
    have hb : aBounds (l.length + 1) none none (some (.int .i64 (l.length : Int))) none = some (0, l.length, none) := by
      have g1 : (0 : Int) ≤ (l.length : Int) ∧ (l.length : Int) ≤ ((capD (l.length + 1) none : Nat) : Int) := by simp only [capD]; omega
      simp only [aBounds, aHigh, aBound, aLow, Int.toNat_natCast]
      rw [if_pos g1]
    have g2 : ¬ row.length < 0 + (l.length + 1) := by omega
    simp only [aSliceS, ne_eq, not_true, if_false, hb, Nat.mul_one, Nat.one_ne_zero, M.bind, hrow, if_neg g2, or_true, if_true, M.pure, Nat.add_zero, Nat.sub_zero]
  · rw [List.length_append, List.length_singleton] at h8
    refine ⟨.slice r 0 l.length (some c) 1, ?_, ⟨r, some c, row, e', rfl, h1, h2, h3, by omega, ht, Or.inr ⟨c, rfl, h6, h7, by omega⟩⟩, fun r' off len cap sz q => by cases q; exact ⟨_, _, rfl⟩⟩
    have hb : aBounds (l.length + 1) (some c) none (some (.int .i64 (l.length : Int))) none = some (0, l.length, some c) := by
      have g1 : (0 : Int) ≤ (l.length : Int) ∧ (l.length : Int) ≤ ((capD (l.length + 1) (some c) : Nat) : Int) := by simp only [capD]; omega
      simp only [aBounds, aHigh, aBound, aLow, Int.toNat_natCast]
      rw [if_pos g1]
    have g2 : ¬ c = 0 := by omega
    simp only [aSliceS, ne_eq, not_true, if_false, hb, if_neg g2, M.pure, Nat.zero_mul, Nat.add_zero, Nat.sub_zero]
/-- The stack with one number more. -/
theorem exec_push {H : AHeap} {p q : AVal} {e : TypeId} {l : List Int} {k : Int} (h : Stk H p e l) (hq : IntsI H q [k]) (hl : 2 * (l.length + 1) * 8 ≤ 2 ^ 48) :
    ∃ p' H', aAppend e 1 8 p q H = some (p', H') ∧ Stk H' p' e (l ++ [k]) ∧ ExtP H H' p ∧ (∀ K : AHeap, K.n ≤ H.n → FreshS K p → FreshS K p') := by
  obtain ⟨hf1, hf2⟩ := aFirst_at hq
  obtain ⟨r, cap, row, e', rfl, h1, h2, h3, h4, h5, h6⟩ := h.it
  have hf1' : aLenOf q = some 1 := hf1
  have hf2' : aFirst 1 1 q H = some ([.int .i64 k], H) := hf2
  have hrow : aRow r H = some ((row, true), H) := by simp only [aRow, if_pos h1, h2]
  have hone : ([AVal.int .i64 k].all AVal.one) = true := rfl
  have hcond : (!([AVal.int .i64 k].all AVal.one) || decide ([AVal.int .i64 k].length ≠ 1 * 1) || decide (1 = 0) || decide (8 = 0)) = false := rfl
  have hput : ∀ row : List AVal, l.length + 1 ≤ row.length → row.take l.length = cellsI l → (setAt row (0 + l.length * 1) [.int .i64 k]).take (l ++ [k]).length = cellsI (l ++ [k]) := by
    intro row g1 g2
    rw [Nat.zero_add, Nat.mul_one]
    show (row.set l.length _).take _ = _
    rw [List.length_append, List.length_singleton]
    apply List.ext_getElem?
    intro i
    rw [List.getElem?_take]
    by_cases hi : i < l.length
    · have g3 := congrArg (fun z => z[i]?) g2
      simp only [List.getElem?_take, if_pos hi] at g3
      rw [if_pos (by omega), List.getElem?_set_ne (by omega), g3]
      simp only [cellsI, List.map_append]
      rw [List.getElem?_append_left (by simp; exact hi)]
    · by_cases hi' : i = l.length
      · subst hi'
        rw [if_pos (Nat.lt_succ_self _), List.getElem?_set_self (by omega)]
        simp [cellsI]
      · rw [if_neg (by omega), List.getElem?_eq_none (by simp [cellsI]; omega)]
  have hnew : (row.take l.length ++ [AVal.int .i64 k]) = cellsI (l ++ [k]) := by rw [h5]; simp [cellsI]
  have hw : ∀ _ : l.length + 1 ≤ row.length, aWrite r (0 + l.length * 1) [.int .i64 k] H = some ((), H.set r (.row (setAt row (0 + l.length * 1) [.int .i64 k]) true e')) := by
    intro g
    simp only [aWrite, if_pos h1, h2, hone, Bool.and_true, Bool.true_and]
    rw [if_pos (decide_eq_true (by simp only [List.length_singleton]; omega))]
  have hin : ∀ cap', (cap' = none ∨ ∃ c, cap' = some c ∧ 0 < c ∧ c ≤ row.length ∧ l.length + 1 ≤ c) → l.length + 1 ≤ row.length → Stk (H.set r (.row (setAt row (0 + l.length * 1) [.int .i64 k]) true e')) (.slice r 0 (l.length + 1) cap' 1) e (l ++ [k]) := by
    intro cap' g1 g2
    refine ⟨r, cap', _, e', by rw [List.length_append, List.length_singleton], h1, set_get_eq, h3, by rw [setAt_length, List.length_append, List.length_singleton]; exact g2, hput row g2 h5, ?_⟩
    rcases g1 with g1 | ⟨c, g1, g3, g4, g5⟩
    · exact Or.inl g1
    · exact Or.inr ⟨c, g1, g3, by rw [setAt_length]; exact g4, by rw [List.length_append, List.length_singleton]; exact g5⟩
  have hout : ∀ e'', e'' / 2 = e → ∀ H2 : AHeap, H2.n = H.n → Stk (H2.push (.row (cellsI (l ++ [k])) true e'')) (.slice H.n 0 (l.length + 1) none 1) e (l ++ [k]) := by
    intro e'' g H2 g2
    have hq0 : (cellsI (l ++ [k])).length = (l ++ [k]).length := cellsI_length _
    refine ⟨H.n, none, _, e'', by rw [List.length_append, List.length_singleton], by rw [← g2]; exact Nat.lt_succ_self _, by rw [← g2]; exact push_get_eq, g, by rw [hq0]; exact Nat.le_refl _, by rw [← hq0, List.take_length], Or.inl rfl⟩
  have hx : ∀ o, ExtP H (H.set r o) (.slice r 0 l.length cap 1) := fun o => ⟨Nat.le_refl _, fun s hs hne => set_get_ne (fun hh => hne.ne _ _ _ _ _ rfl hh.symm)⟩
  rcases h6 with rfl | ⟨c, rfl, h6, h7, h8⟩
  · by_cases g : l.length + 1 ≤ row.length
    · refine ⟨_, _, ?_, hin none (Or.inl rfl) g, hx _, fun K hK f => ⟨fun r' off len cap sz q => by cases q; exact f.ge _ _ _ _ _ rfl⟩⟩
      have hle : 0 + (l.length + 1) * 1 ≤ row.length := by omega
      simp only [aAppend, hf1', M.bind, hf2', hcond, Bool.false_eq_true, if_false]
      simp only [M.bind, if_false, Bool.false_eq_true, ne_eq, not_true, hrow, Nat.one_ne_zero, if_pos hle, hw g]
      rfl
    · refine ⟨.slice H.n 0 (l.length + 1) none 1, (H.set r .dead).push (.row (cellsI (l ++ [k])) true (2 * e + 1)), ?_, hout _ (half_odd _) (H.set r .dead) rfl, ⟨Nat.le_succ _, fun s hs hne => by
        rw [push_get_lt (H := H.set r .dead) hs, set_get_ne (fun hh => hne.ne _ _ _ _ _ rfl hh.symm)]⟩, fun K hK f => ⟨fun r' off len cap sz q => by cases q; exact hK⟩⟩
      have hno : ¬ 0 + (l.length + 1) * 1 ≤ row.length := by omega
      have hcl : 0 + l.length * 1 ≤ row.length := by omega
      have hmv : aMove r e (.row (((row.drop 0).take (l.length * 1)) ++ [.int .i64 k]) true (2 * e + 1)) H = some (H.n, (H.set r .dead).push (.row (cellsI (l ++ [k])) true (2 * e + 1))) := by
        simp only [aMove, h2, h3, nbeq_self]
        rw [List.drop_zero, Nat.mul_one, hnew]
      simp only [aAppend, hf1', M.bind, hf2', hcond, Bool.false_eq_true, if_false]
      simp only [M.bind, if_false, Bool.false_eq_true, ne_eq, not_true, hrow, Nat.one_ne_zero, hno, Bool.true_and, decide_eq_true hcl, decide_eq_true hl, Bool.and_true, if_true, hmv]
      rfl
  · by_cases g : l.length + 1 ≤ c
    · refine ⟨_, _, ?_, hin (some c) (Or.inr ⟨c, rfl, h6, h7, g⟩) (by omega), hx _, fun K hK f => ⟨fun r' off len cap sz q => by cases q; exact f.ge _ _ _ _ _ rfl⟩⟩
      simp only [aAppend, hf1', M.bind, hf2', hcond, Bool.false_eq_true, if_false]
      simp only [M.bind, if_false, Bool.false_eq_true, ne_eq, not_true, hrow, Nat.one_ne_zero, if_pos g, hw (by omega)]
      rfl
    · refine ⟨.slice H.n 0 (l.length + 1) none 1, H.push (.row (cellsI (l ++ [k])) true (2 * e)), ?_, hout _ (half_even _) H rfl, ⟨Nat.le_succ _, fun s hs _ => push_get_lt hs⟩, fun K hK f => ⟨fun r' off len cap sz q => by cases q; exact hK⟩⟩
      have hcl : 0 + l.length * 1 ≤ row.length := by omega
      have hand : 0 + l.length * 1 ≤ row.length ∧ 2 * (l.length + 1) * 8 ≤ 2 ^ 48 := ⟨hcl, hl⟩
      have hnw : aNew (.row (((row.drop 0).take (l.length * 1)) ++ [.int .i64 k]) true (2 * e)) H = some (H.n, H.push (.row (cellsI (l ++ [k])) true (2 * e))) := by
        rw [List.drop_zero, Nat.mul_one, hnew]; rfl
      simp only [aAppend, hf1', M.bind, hf2', hcond, Bool.false_eq_true, if_false]
      simp only [M.bind, if_false, Bool.false_eq_true, ne_eq, not_true, hrow, Nat.one_ne_zero, if_neg g, if_pos hand, hnw]
      rfl

def cN (l : List Nat) : List Int := l.map fun n : Nat => (n : Int)
theorem cN_length (l : List Nat) : (cN l).length = l.length := by simp [cN]
theorem cN_snoc (l : List Nat) (k : Nat) : cN (l ++ [k]) = cN l ++ [(k : Int)] := by simp [cN]
theorem cN_set (l : List Nat) (i k : Nat) : (cN l).set i (k : Int) = cN (l.set i k) := by simp [cN, List.map_set]
theorem cN_get {l : List Nat} {i : Nat} (h : i < (cN l).length) : (cN l)[i] = ((l.getD i 0 : Nat) : Int) := by
  have h' : i < l.length := by rw [cN_length] at h; exact h
  simp only [cN, List.getElem_map, List.getD_eq_getElem?_getD, List.getElem?_eq_getElem h', Option.getD_some]
section
variable {call : ACall} {fr : AFrame} {H : AHeap} {K : AVal → AHeap → Prop}
theorem WpX.cut {x : ROpd} {hi : Option ROpd} {p : AVal} {e : TypeId} {l : List Nat} {k : Nat} (hx : x.ev fr = p) (hhi : hi.map (·.ev fr) = some (.int .i64 (l.length : Int))) (h : Stk H p e (cN (l ++ [k])))
    (hK : ∀ p', Stk H p' e (cN l) → (∀ r off len cap sz, p' = .slice r off len cap sz → ∃ len' cap', p = .slice r off len' cap' sz) → K p' H) : WpX (.sliceS 1 x none hi none) call fr H K := by
  rw [cN_snoc] at h
  obtain ⟨p', h1, h2, h3⟩ := exec_cut h
  rw [cN_length] at h1
  exact ⟨_, _, by simp only [ROp.exec, hx, hhi, Option.map_none]; exact h1, hK p' h2 h3⟩
theorem WpX.push {e : TypeId} {x y : ROpd} {p q : AVal} {l : List Nat} {k : Nat} (hx : x.ev fr = p) (hy : y.ev fr = q) (h : Stk H p e (cN l)) (hq : IntsI H q [(k : Int)]) (hl : 2 * (l.length + 1) * 8 ≤ 2 ^ 48)
    (hK : ∀ p' H', Stk H' p' e (cN (l ++ [k])) → ExtP H H' p → (∀ K : AHeap, K.n ≤ H.n → FreshS K p → FreshS K p') → K p' H') : WpX (.append e 1 8 x y) call fr H K := by
  obtain ⟨p', H', h1, h2, h3, h4⟩ := exec_push h hq (by rw [cN_length]; exact hl)
  rw [← cN_snoc] at h2
  exact ⟨_, _, by simp only [ROp.exec, hx, hy]; exact h1, hK p' H' h2 h3 h4⟩
end
theorem ExtP.fresh {H H2 H3 : AHeap} {p q : AVal} (x : ExtP H H2 p) (y : ExtP H2 H3 q) (f : FreshS H q) : ExtP H H3 p :=
  ⟨Nat.le_trans x.n y.n, fun r hr hn => by
    rw [y.get r (Nat.lt_of_lt_of_le hr x.n) ⟨fun r' off len cap sz e => by have := f.ge _ _ _ _ _ e; omega⟩]
    exact x.get r hr hn⟩
theorem Stk.pushed {H : AHeap} {p : AVal} {e : TypeId} {l : List Int} {o : AObj} (h : Stk H p e l) : Stk (H.push o) p e l := h.keep (Nat.le_succ _) fun _ _ _ _ _ _ hr => push_get_lt hr
theorem Stk.other {H H' : AHeap} {p q : AVal} {e : TypeId} {l : List Int} (h : Stk H p e l) (x : ExtP H H' q) (k : SepS p q) : Stk H' p e l := h.keep x.n fun r _ _ _ _ e hr => x.get r hr ⟨fun r' _ _ _ _ e' => fun hh => k.ne _ _ _ _ _ _ _ _ _ _ e e' hh.symm⟩
/-- How the heap stands while a component is marked: K is the heap at the beginning, mk the marks, r5 the box with the image, wt the stack. -/
structure FHp (K : AHeap) (mk : AVal) (img : List AVal) (r5 : Nat) (wt : AVal) (W M : List Nat) (H2 : AHeap) : Prop where
  bm : IntsI H2 mk (cN M)
  wm : WrS H2 mk
  st : Stk H2 wt 3 (cN W)
  fs : FreshS K wt
  g5 : HasRow H2 r5 img true (2 * 24)
  x : ExtP K H2 mk
/-- The steps between the neighbours that count. -/
def stp (e : Bool) : Nat := bif e then 1 else 2
theorem Wp.set2 {call : ACall} {lf : Nat} {fr : AFrame} {H : AHeap} {Q : RExit → AFrame → AHeap → Prop} {d : Nat} {c : ROpd} {x y : Int} {e : Bool} (hc : c.ev fr = .bool e) (hd : fr d = .int .i64 y) (h : Q .normal (upd fr d (.int .i64 (bif e then x else y))) H) : Wp call lf (.cond c (.region [⟨some d, .mov (.val (.int .i64 x)), none⟩]) .skip) fr H Q := by
  refine Wp.cond hc ?_
  cases e
  · refine Wp.skip ?_
    have : upd fr d (.int .i64 y) = fr := by
      funext i
      rw [upd_at]
      split
      · next q => rw [q, hd]
      · rfl
    rwa [show (bif false then x else y) = y from rfl, this] at h
  · exact Wp.region (WpO.do (WpX.mov (WpO.nil h)))
/-- The table of the neighbours, as a row. -/
theorem tab_row {H : AHeap} (h : Tabs H) : ∃ rw e, HasRow H 0 aroundCs rw e := by
  obtain ⟨h1, rw, e, h2⟩ := tabs_iff.1 h.it
  exact ⟨rw, e, ⟨h1, h2⟩⟩
theorem getD_setN {M : List Nat} {k v : Nat} (h : k < M.length) : (fun i => (M.set k v).getD i 0) = fun i => if i = k then v else M.getD i 0 := by
  funext i
  simp only [List.getD_eq_getElem?_getD]
  by_cases hi : i = k
  · subst hi; rw [if_pos rfl, List.getElem?_set_self h]; rfl
  · rw [if_neg hi, List.getElem?_set_ne (fun e => hi e.symm)]
theorem count_setN {M : List Nat} {k v : Nat} (h : k < M.length) (h0 : M.getD k 0 = 0) (hv : 0 < v) : (M.set k v).count 0 + 1 = M.count 0 := by
  have hk : M[k] = 0 := by
    rw [List.getD_eq_getElem?_getD, List.getElem?_eq_getElem h, Option.getD_some] at h0; exact h0
  have hm : 0 < M.count 0 := List.count_pos_iff.2 (hk ▸ List.getElem_mem h)
  have hvz : (v == 0) = false := by simpa using (by omega : v ≠ 0)
  rw [List.count_set h, hk, hvz]
  simp only [beq_self_eq_true, if_true, Bool.false_eq_true, if_false]
  omega
theorem Fits.len {a b : Nat} {l : List UInt8} (h : Fits a b l) : l.length = a * b := by
  have := h.it
  simp only [sizedB, sideB, Bool.and_eq_true, beq_iff_eq, decide_eq_true_eq] at this
  obtain ⟨⟨⟨h1, h2⟩, h3, h4⟩, h5⟩ := this
  have := Nat.mul_le_mul (show a ≤ 640 by omega) (show b ≤ 640 by omega)
  rw [wm (by omega)] at h5
  omega
theorem snoc_cases (W : List Nat) : W = [] ∨ ∃ W' w, W = W' ++ [w] := by
  rcases List.eq_nil_or_concat W with h | ⟨W', w, h⟩
  · exact Or.inl h
  · exact Or.inr ⟨W', w, by rw [h, List.concat_eq_append]⟩
section
variable {l : List UInt8} {a b : Nat} {e : Bool} {M0 : Nat → Nat} {s n w T : Nat} {W M : List Nat}
theorem ring_nb {t j : Nat} (h : isNb a b w t j) : ringF a b l ((w % a : Nat) : Int) ((w / a : Nat) : Int) t = (l.getD j 0 == 1) := by
  obtain ⟨u, v, hu, hv, e1, e2, rfl⟩ := h
  show inkB a b l (_ + _) (_ + _) = _
  rw [← e1, ← e2]; exact inkB_mk hu hv
theorem nb_unique {t j k : Nat} (h : isNb a b w t j) (g : isNb a b w t k) : j = k := by
  obtain ⟨u, v, _, _, e1, e2, rfl⟩ := h
  obtain ⟨u', v', _, _, e1', e2', rfl⟩ := g
  have h1 : u = u' := by omega
  have h2 : v = v' := by omega
  rw [h1, h2]
theorem stp_even (h : T % stp e = 0) : e = true ∨ T % 2 = 0 := by
  cases e
  · exact Or.inr h
  · exact Or.inl rfl
theorem Flood.next0 {M : Nat → Nat} (h : Flood l a b e M0 s n M W (some (w, T))) (he : T % stp e = 0) (hk : ∀ j, isNb a b w T j → l.getD j 0 = 1 → M j ≠ 0) : Flood l a b e M0 s n M W (some (w, T + stp e)) := by
  refine h.keep fun t h1 h2 h3 j hj hl => ?_
  rcases Nat.lt_or_eq_of_le h1 with h4 | rfl
  · cases e
    · have h5 : T % 2 = 0 := he
      have h6 : t < T + 2 := h2
      rcases h3 with h3 | h3
      · cases h3
      · omega
    · have h6 : t < T + 1 := h2
      omega
  · exact hk j hj hl
theorem Flood.off (h : Flood l a b e M0 s n (fun i => M.getD i 0) W (some (w, T))) (he : T % stp e = 0) (hv : ringF a b l ((w % a : Nat) : Int) ((w / a : Nat) : Int) T = false) : Flood l a b e M0 s n (fun i => M.getD i 0) W (some (w, T + stp e)) :=
  h.next0 he fun j hj hl => by rw [ring_nb hj, hl] at hv; cases hv
theorem Flood.been (h : Flood l a b e M0 s n (fun i => M.getD i 0) W (some (w, T))) (he : T % stp e = 0) {k : Nat} (hk : isNb a b w T k) (h0 : M.getD k 0 ≠ 0) : Flood l a b e M0 s n (fun i => M.getD i 0) W (some (w, T + stp e)) :=
  h.next0 he fun j hj _ => by rw [nb_unique hj hk]; exact h0
theorem Flood.add (h : Flood l a b e M0 s n (fun i => M.getD i 0) W (some (w, T))) (he : T % stp e = 0) {k : Nat} (hT : T < 8) (hk : isNb a b w T k) (hl : l.getD k 0 = 1) (h0 : M.getD k 0 = 0) (hm : Whole l a b e M0 n) (hn : 0 < n) (hkM : k < M.length) : Flood l a b e M0 s n (fun i => (M.set k n).getD i 0) (W ++ [k]) (some (w, T + stp e)) := by
  have h1 := h.mark hn hT (stp_even he) hk hl h0 hm
  rw [← getD_setN hkM] at h1
  refine h1.next0 he fun j hj _ => ?_
  rw [nb_unique hj hk, congrFun (getD_setN hkM) k, if_pos rfl]; omega
end
theorem wd {x : Nat} {d : Int} (h : x ≤ 640) (hd : -1 ≤ d ∧ d ≤ 1) : IntKind.i64.wrap ((x : Int) + d) = (x : Int) + d := w64 (by omega)
theorem one_ints {H : AHeap} {k : Int} {e : TypeId} : IntsI (H.push (.row [.int .i64 k] true e)) (.slice H.n 0 1 (some 1) 1) [k] := ⟨Or.inr ⟨H.n, 0, some 1, _, true, e, rfl, Nat.lt_succ_self _, push_get_eq, Nat.le_refl _, rfl, Nat.le_refl _⟩⟩
end Go.Am

/- Components with numbers: in the order of their first pixels. -/
set_option maxHeartbeats 4000000
namespace Go.Am
open Go
/-- The components that begin before i are marked, with the numbers of their first pixels in L, from 1. -/
structure Lab (l : List UInt8) (a b : Nat) (e : Bool) (M : List Nat) (L : List Nat) (i : Nat) : Prop where
  len : M.length = a * b
  whole : Whole l a b e (fun j => M.getD j 0) (L.length + 1)
  seen : ∀ j, j < i → l.getD j 0 = 1 → M.getD j 0 ≠ 0
  lead : ∀ m ∈ L, m < i ∧ Lead l a b e m m
  inc : L.Pairwise (· < ·)
  num : ∀ j, M.getD j 0 ≠ 0 → ∃ m, L[M.getD j 0 - 1]? = some m ∧ Reach l a b e m j
theorem getD_zeros (n i : Nat) : (List.replicate n 0).getD i 0 = 0 := by
  rw [List.getD_eq_getElem?_getD, List.getElem?_replicate]
  split <;> rfl
section
variable {l : List UInt8} {a b : Nat} {e : Bool} {M L : List Nat} {i : Nat}
theorem Lab.begin : Lab l a b e (List.replicate (a * b) 0) [] 0 :=
  ⟨List.length_replicate .., ⟨fun i => by show (List.replicate (a * b) 0).getD i 0 < _; rw [getD_zeros]; exact Nat.one_pos, fun i h => absurd (getD_zeros _ _) h, fun i j h => absurd (getD_zeros _ _) h⟩, fun j h => absurd h (Nat.not_lt_zero _), fun m h => (by cases h), List.Pairwise.nil, fun j h => absurd (getD_zeros _ _) h⟩
theorem Lab.skip (h : Lab l a b e M L i) (hi : l.getD i 0 = 1 → M.getD i 0 ≠ 0) : Lab l a b e M L (i + 1) :=
  ⟨h.len, h.whole, fun j hj hl => by
    rcases Nat.lt_succ_iff_lt_or_eq.1 hj with q | rfl
    · exact h.seen j q hl
    · exact hi hl, fun m hm => ⟨Nat.lt_succ_of_lt (h.lead m hm).1, (h.lead m hm).2⟩, h.inc, h.num⟩
theorem Lab.fresh (h : Lab l a b e M L i) (hi : i < a * b) (hl : l.getD i 0 = 1) (h0 : M.getD i 0 = 0) : Lead l a b e i i := by
  refine ⟨.refl hi hl, fun j hj => Nat.le_of_not_lt fun hlt => ?_⟩
  have h1 := h.seen j hlt hj.end_ok.2
  have h2 := h.whole.same j i h1 hj.symm
  exact h1 (by rw [← h2]; exact h0)
theorem Lab.next {M' : List Nat} (h : Lab l a b e M L i) (hi : i < a * b) (hl : l.getD i 0 = 1) (h0 : M.getD i 0 = 0) (hM : M'.length = a * b) (hm : ∀ j, (Reach l a b e i j → M'.getD j 0 = L.length + 1) ∧ (¬ Reach l a b e i j → M'.getD j 0 = M.getD j 0)) : Lab l a b e M' (L ++ [i]) (i + 1) := by
  classical
  have hlen : (L ++ [i]).length = L.length + 1 := by simp
  refine ⟨hM, by rw [hlen]; exact h.whole.next (Nat.succ_pos _) hi hl hm, fun j hj hlj => ?_, fun m hmm => ?_, ?_, fun j hj => ?_⟩
  · by_cases q : Reach l a b e i j
    · rw [(hm j).1 q]; exact Nat.succ_ne_zero _
    · rw [(hm j).2 q]
      rcases Nat.lt_succ_iff_lt_or_eq.1 hj with q' | rfl
      · exact h.seen j q' hlj
      · exact absurd (.refl hi hl) q
  · rcases List.mem_append.1 hmm with q | q
    · exact ⟨Nat.lt_succ_of_lt (h.lead m q).1, (h.lead m q).2⟩
    · rw [List.mem_singleton] at q; subst q
      exact ⟨Nat.lt_succ_self _, h.fresh hi hl h0⟩
  · rw [List.pairwise_append]
    exact ⟨h.inc, List.pairwise_singleton _ _, fun x hx y hy => by
      rw [List.mem_singleton] at hy; subst hy; exact (h.lead x hx).1⟩
  · by_cases q : Reach l a b e i j
    · refine ⟨i, ?_, q⟩
      rw [(hm j).1 q, Nat.add_sub_cancel, List.getElem?_append_right (Nat.le_refl _), Nat.sub_self]; rfl
    · rw [(hm j).2 q] at hj ⊢
      obtain ⟨m, h1, h2⟩ := h.num j hj
      refine ⟨m, ?_, h2⟩
      rw [List.getElem?_append_left (by
        rcases Nat.lt_or_ge (M.getD j 0 - 1) L.length with q' | q'
        · exact q'
        · rw [List.getElem?_eq_none q'] at h1; cases h1)]
      exact h1
theorem Lab.few (h : Lab l a b e M L i) : L.length ≤ i := by
  have h1 : ∀ m ∈ L, m < i := fun m hm => (h.lead m hm).1
  have h2 := h.inc
  clear h
  induction i generalizing L with
  | zero =>
    cases L with
    | nil => exact Nat.le_refl _
    | cons x _ => exact absurd (h1 x (List.mem_cons_self ..)) (Nat.not_lt_zero _)
  | succ i ih =>
    rcases snoc_cases L with rfl | ⟨L', w, rfl⟩
    · exact Nat.zero_le _
    · rw [List.pairwise_append] at h2
      rw [List.length_append, List.length_singleton]
      refine Nat.succ_le_succ (ih (fun m hm => ?_) h2.1)
      have h3 := h2.2.2 m hm w (List.mem_singleton.2 rfl)
      have h4 := h1 w (List.mem_append_right _ (List.mem_singleton.2 rfl))
      omega
end
end Go.Am

/- copy: bytes into a part of a slice. -/
set_option maxHeartbeats 4000000
namespace Go.Am
open Go
theorem setAt_get : ∀ (vs cs : List AVal) (off i : Nat), off + vs.length ≤ cs.length → (setAt cs off vs)[i]? = if off ≤ i ∧ i < off + vs.length then vs[i - off]? else cs[i]?
  | [], cs, off, i, _ => by
    rw [if_neg (by simp only [List.length_nil]; omega)]; rfl
  | v :: vs, cs, off, i, h => by
    rw [List.length_cons] at h
    rw [setAt, setAt_get vs (cs.set off v) (off + 1) i (by rw [List.length_set]; omega), List.length_cons]
    by_cases h1 : off = i
    · subst h1
      rw [if_neg (by omega), if_pos (by omega), List.getElem?_set, if_pos rfl, if_pos (by omega), Nat.sub_self]; rfl
    · by_cases h2 : off + 1 ≤ i ∧ i < off + 1 + vs.length
      · rw [if_pos h2, if_pos (by omega), show i - off = (i - (off + 1)) + 1 by omega]; rfl
      · rw [if_neg h2, if_neg (by omega), List.getElem?_set, if_neg h1]
section
variable {call : ACall} {n ref : Nat} {its : List DItem} {H0 H : AHeap} {E : List (Nat × AHeap)} {Rd : List (Nat × (AHeap → Bool))} {fr : AFrame} {K : AFrame → AHeap → Prop} {bm d : Nat} {pre : Bool} {g : Option (Nat × Bool)}
theorem Fe.slc {x : ROpd} {lo hi : Option ROpd} {p : AVal} {l : List UInt8} {a b : Nat} (hw : ROper.wanted fr ⟨some d, .sliceS 1 x lo hi none, g⟩ = true) (hx : x.ev fr = p) (hlo : bnd (lo.map (·.ev fr)) 0 a) (hhi : bnd (hi.map (·.ev fr)) l.length b) (hab : a ≤ b) (hbl : b ≤ l.length) [s : BytesI H p l]
    (h : ∀ v H1, Part p v a (b - a) → BytesI H1 v ((l.drop a).take (b - a)) → ExtI H H1 → AllR bm H1 Rd ∧ WpE call (n + 1) ref its H0 ((n, H) :: E) Rd (upd fr d v) H1 K) : WpE call n ref (⟨⟨some d, .sliceS 1 x lo hi none, g⟩, bm, 2, pre⟩ :: its) H0 E Rd fr H K := by
  obtain ⟨v, H1, h1, h2, h3, h4⟩ := exec_slc (call := call) hx hlo hhi hab hbl (s := s)
  obtain ⟨h5, h6⟩ := h v H1 h2 h3 ⟨h4⟩
  exact WpE.effect hw h1 h5 h6
end
end Go.Am

/- Stores of some cells into a slice; stores and growth as effects of a region without order. -/
set_option maxHeartbeats 4000000
namespace Go.Am
open Go
section
variable {call : ACall} {fr : AFrame} {H : AHeap} {K : AVal → AHeap → Prop}
theorem WpX.stPN {a x : ROpd} {p : AVal} {sz n j m : Nat} {cs vs : List AVal} {v : AVal} (ha : a.ev fr = .ptr (rowOf p) (offOf p + j)) (hx : x.ev fr = v) (hv : v.cells = vs) (hm : vs.length = m) (hm0 : 0 < m) (ho : vs.all AVal.one = true) [s : SliceAt H p sz n cs] [w : WrS H p] (hj : j + m ≤ cs.length)
    (h : ∀ H1, SliceAt H1 p sz n (setAt cs j vs) → WrS H1 p → ExtP H H1 p → K aundef H1) : WpX (.store m a x) call fr H K := by
  rcases s.it with ⟨_, _, rfl⟩ | ⟨r, off, cap, row, rw, e, rfl, hr, hg, hl, hc, hcap⟩
  · simp at hj; omega
  · obtain ⟨cs', e', hg'⟩ := w.it _ _ _ _ _ rfl
    rw [hg] at hg'; cases hg'
    have hlen := s.len
    refine WpX.store ha hx (by rw [hv]; exact hm) hr hg (by rw [hv, hm]; simp only [offOf]; omega) (by rw [hv]; exact ho) ?_
    rw [hv]
    refine h _ ⟨Or.inr ⟨r, off, cap, setAt row (off + j) vs, true, e, rfl, hr, set_get_eq, by rw [setAt_length]; exact hl, ?_, hcap⟩⟩ ⟨fun r' off' len' cap' sz' e' => by cases e'; exact ⟨_, _, set_get_eq⟩⟩ ⟨Nat.le_refl _, fun r' hr' hne => set_get_ne (fun hh => hne.ne _ _ _ _ _ rfl hh.symm)⟩
    have hcl : cs.length = n * sz := hlen
    rw [← hc] at hj ⊢
    rw [List.length_take, List.length_drop] at hj
    apply List.ext_getElem?
    intro i
    rw [setAt_get _ _ _ _ (by rw [List.length_take, List.length_drop]; omega)]
    rw [List.getElem?_take, List.getElem?_drop, setAt_get _ _ _ _ (by omega), List.getElem?_take, List.getElem?_drop]
    by_cases hi : i < n * sz
    · rw [if_pos hi]
      by_cases hij : j ≤ i ∧ i < j + vs.length
      · rw [if_pos hij, if_pos (by omega), show off + i - (off + j) = i - j by omega]
      · rw [if_neg hij, if_neg (by omega), if_pos hi]
    · rw [if_neg hi, if_neg (by omega), if_neg hi]
end
section
variable {call : ACall} {its : List DItem} {H0 : AHeap} {n ref : Nat} {E : List (Nat × AHeap)} {Rd : List (Nat × (AHeap → Bool))} {fr : AFrame} {H : AHeap} {K : AFrame → AHeap → Prop} {g : Option (Nat × Bool)} {b : Nat} {pre : Bool}
theorem WpE.stPN {d : Option Nat} {a x : ROpd} {p : AVal} {sz k j m : Nat} {cs vs : List AVal} {v : AVal} (hw : ROper.wanted fr ⟨d, .store m a x, g⟩ = true) (ha : a.ev fr = .ptr (rowOf p) (offOf p + j)) (hx : x.ev fr = v) (hv : v.cells = vs) (hm : vs.length = m) (hm0 : 0 < m) (ho : vs.all AVal.one = true) [s : SliceAt H p sz k cs] [w : WrS H p] (hj : j + m ≤ cs.length)
    (h : ∀ H1, SliceAt H1 p sz k (setAt cs j vs) → WrS H1 p → ExtP H H1 p → AllR b H1 Rd ∧ WpE call (n + 1) ref its H0 ((n, H) :: E) Rd (put fr d aundef) H1 K) : WpE call n ref (⟨⟨d, .store m a x, g⟩, b, 2, pre⟩ :: its) H0 E Rd fr H K := by
  obtain ⟨v', H1, h1, rfl, h2, h3, h4⟩ := WpX.stPN (call := call) (K := fun v H1 => v = aundef ∧ SliceAt H1 p sz k (setAt cs j vs) ∧ WrS H1 p ∧ ExtP H H1 p) ha hx hv hm hm0 ho hj fun H1 q1 q2 q3 => ⟨rfl, q1, q2, q3⟩
  obtain ⟨h5, h6⟩ := h H1 h2 h3 h4
  exact WpE.effect hw h1 h5 h6
theorem WpE.grow {d : Option Nat} {e : TypeId} {x y : ROpd} {p q : AVal} {sz m k bytes : Nat} {cs new : List AVal} (hw : ROper.wanted fr ⟨d, .append e sz bytes x y, g⟩ = true) (hx : x.ev fr = p) (hy : y.ev fr = q) [h : OwnS H p sz m cs e] [hq : SliceAt H q sz k new] (hsz : 0 < sz) (hb : 0 < bytes) (hk : 0 < k) (hroom : 2 * (m + k) * bytes ≤ 2 ^ 48) (hone : new.all AVal.one = true)
    (hK : ∀ p' H', OwnS H' p' sz (m + k) (cs ++ new) e → FreshS H p' → ExtP H H' p → AllR b H' Rd ∧ WpE call (n + 1) ref its H0 ((n, H) :: E) Rd (put fr d p') H' K) : WpE call n ref (⟨⟨d, .append e sz bytes x y, g⟩, b, 2, pre⟩ :: its) H0 E Rd fr H K := by
  obtain ⟨p', H1, h1, h2, h3, h4⟩ := WpX.grow (call := call) (K := fun v H1 => OwnS H1 v sz (m + k) (cs ++ new) e ∧ FreshS H v ∧ ExtP H H1 p) hx hy hsz hb hk hroom hone fun p' H' q1 q2 q3 => ⟨q1, q2, q3⟩
  obtain ⟨h5, h6⟩ := hK p' H1 h2 h3 h4
  exact WpE.effect hw h1 h5 h6
end
end Go.Am

/- Lists of components: each with its box and a list of its pixels. -/
set_option maxHeartbeats 4000000
namespace Go.Am
open Go
structure Bx where
  x : Int
  y : Int
  w : Int
  h : Int
def Bx.cells (b : Bx) : List AVal := [.int .i64 b.x, .int .i64 b.y, .int .i64 b.w, .int .i64 b.h]
/-- Boxes with their lists, as cells. -/
def cellsC : List (Bx × AVal) → List AVal
  | [] => []
  | c :: C => (c.1.cells ++ [c.2]) ++ cellsC C
theorem cellsC_length : ∀ C : List (Bx × AVal), (cellsC C).length = C.length * 5
  | [] => rfl
  | c :: C => by
    have := cellsC_length C
    simp only [cellsC, Bx.cells, List.length_append, List.length_cons, List.length_nil, this]
    omega
theorem setAt_right (u cs : List AVal) : ∀ (vs : List AVal) (j : Nat), setAt (u ++ cs) (u.length + j) vs = u ++ setAt cs j vs := by
  intro vs
  induction vs generalizing cs with
  | nil => intro j; rfl
  | cons v vs ih =>
    intro j
    show setAt ((u ++ cs).set (u.length + j) v) (u.length + j + 1) vs = u ++ setAt (cs.set j v) (j + 1) vs
    rw [← ih (cs.set j v) (j + 1)]
    congr 1
    apply List.ext_getElem?
    intro i
    by_cases hi : i < u.length
    · rw [List.getElem?_set_ne (by omega), List.getElem?_append_left hi, List.getElem?_append_left hi]
    · rw [List.getElem?_append_right (Nat.le_of_not_lt hi)]
      by_cases hj : u.length + j = i
      · subst hj
        rw [show u.length + j - u.length = j by omega]
        by_cases hc : j < cs.length
        · rw [List.getElem?_set_self (by rw [List.length_append]; omega), List.getElem?_set_self hc]
        · rw [List.getElem?_eq_none (by simp; omega), List.getElem?_eq_none (by simp; omega)]
      · rw [List.getElem?_set_ne hj, List.getElem?_append_right (Nat.le_of_not_lt hi), List.getElem?_set_ne (by omega)]
theorem cellsC_box : ∀ (C : List (Bx × AVal)) (k : Nat) (c : Bx × AVal) (b : Bx), C[k]? = some c → setAt (cellsC C) (k * 5) b.cells = cellsC (C.set k (b, c.2))
  | [], k, c, b, h => by simp at h
  | d :: C, 0, c, b, h => by
    simp only [List.getElem?_cons_zero, Option.some.injEq] at h
    subst h; rfl
  | d :: C, k + 1, c, b, h => by
    have ih := cellsC_box C k c b (by simpa using h)
    have hl : (d.1.cells ++ [d.2]).length = 5 := rfl
    show setAt ((d.1.cells ++ [d.2]) ++ cellsC C) ((k + 1) * 5) b.cells = (d.1.cells ++ [d.2]) ++ cellsC (C.set k (b, c.2))
    rw [show (k + 1) * 5 = (d.1.cells ++ [d.2]).length + k * 5 by rw [hl]; omega, setAt_right, ih]
theorem cellsC_px : ∀ (C : List (Bx × AVal)) (k : Nat) (c : Bx × AVal) (p : AVal), C[k]? = some c → (cellsC C).set (k * 5 + 4) p = cellsC (C.set k (c.1, p))
  | [], k, c, b, h => by simp at h
  | d :: C, 0, c, b, h => by
    simp only [List.getElem?_cons_zero, Option.some.injEq] at h
    subst h; rfl
  | d :: C, k + 1, c, p, h => by
    have ih := cellsC_px C k c p (by simpa using h)
    have hl : (d.1.cells ++ [d.2]).length = 5 := rfl
    have hs := setAt_right (d.1.cells ++ [d.2]) (cellsC C) [p] (k * 5 + 4)
    rw [setAt_one, setAt_one, hl, ih] at hs
    rw [show (k + 1) * 5 + 4 = 5 + (k * 5 + 4) by omega]
    exact hs
theorem cellsC_drop : ∀ (C : List (Bx × AVal)) (k : Nat) (c : Bx × AVal), C[k]? = some c → ∃ r, (cellsC C).drop (k * 5) = c.1.cells ++ [c.2] ++ r
  | [], k, c, h => by simp at h
  | d :: C, 0, c, h => by
    simp only [List.getElem?_cons_zero, Option.some.injEq] at h
    subst h; exact ⟨cellsC C, rfl⟩
  | d :: C, k + 1, c, h => by
    obtain ⟨r, hr⟩ := cellsC_drop C k c (by simpa using h)
    refine ⟨r, ?_⟩
    rw [← hr]
    show ((d.1.cells ++ [d.2]) ++ cellsC C).drop ((k + 1) * 5) = _
    rw [show (k + 1) * 5 = (d.1.cells ++ [d.2]).length + k * 5 by rw [show (d.1.cells ++ [d.2]).length = 5 from rfl]; omega, ← List.drop_drop, List.drop_left]
theorem cellsC_at {C : List (Bx × AVal)} {k : Nat} {c : Bx × AVal} (h : C[k]? = some c) : ((cellsC C).drop (k * 5)).take 4 = c.1.cells ∧ (cellsC C)[k * 5 + 4]? = some c.2 := by
  obtain ⟨r, hr⟩ := cellsC_drop C k c h
  refine ⟨by rw [hr]; rfl, ?_⟩
  have : ((cellsC C).drop (k * 5))[4]? = some c.2 := by rw [hr]; rfl
  rwa [List.getElem?_drop] at this
/-- Pixels of an image of the width a, as points. -/
def cellsK (a : Nat) (l : List Nat) : List AVal := l.flatMap fun k => [.int .i64 ((k % a : Nat) : Int), .int .i64 ((k / a : Nat) : Int)]
theorem cellsK_snoc (a : Nat) (l : List Nat) (k : Nat) : cellsK a (l ++ [k]) = cellsK a l ++ [.int .i64 ((k % a : Nat) : Int), .int .i64 ((k / a : Nat) : Int)] := by simp [cellsK]
/-- A list of components in the heap, each of which alone holds its list of pixels: P; K is an earlier heap. -/
structure Cmps (K H : AHeap) (q : AVal) (a : Nat) (C : List (Bx × AVal)) (P : List (List Nat)) : Prop where
  len : P.length = C.length
  row : SliceAt H q 5 C.length (cellsC C)
  wr : WrS H q
  own : ∀ (k : Nat) c l, C[k]? = some c → P[k]? = some l → OwnS H c.2 2 l.length (cellsK a l) 88
  fresh : ∀ (k : Nat) c, C[k]? = some c → FreshS K c.2
  sep : ∀ (i j : Nat) c d, C[i]? = some c → C[j]? = some d → i ≠ j → SepS c.2 d.2
  sepq : ∀ (k : Nat) c, C[k]? = some c → SepS c.2 q
theorem set_at {α : Type} {C : List α} {k j : Nat} {x y : α} (h : (C.set k x)[j]? = some y) : (j = k ∧ y = x) ∨ (j ≠ k ∧ C[j]? = some y) := by
  by_cases hj : j = k
  · subst hj
    have hlt : j < C.length := by
      rcases Nat.lt_or_ge j C.length with q | q
      · exact q
      · rw [List.getElem?_eq_none (by rw [List.length_set]; exact q)] at h; cases h
    rw [List.getElem?_set_self hlt] at h
    exact Or.inl ⟨rfl, (Option.some.inj h).symm⟩
  · rw [List.getElem?_set_ne (fun e => hj e.symm)] at h
    exact Or.inr ⟨hj, h⟩
theorem SepS.symm {p q : AVal} (h : SepS p q) : SepS q p := ⟨fun r off len cap sz r' off' len' cap' sz' e e' hh => h.ne _ _ _ _ _ _ _ _ _ _ e' e hh.symm⟩
/-- One component has a new box and one pixel more; the other ones stand. -/
theorem Cmps.step {K H H3 : AHeap} {q p' : AVal} {a k i : Nat} {C : List (Bx × AVal)} {P : List (List Nat)} {l : List Nat} {b : Bx} (h : Cmps K H q a C P) (hl : P[k]? = some l) (hs : SliceAt H3 q 5 C.length (cellsC (C.set k (b, p')))) (hw : WrS H3 q) (ho : OwnS H3 p' 2 (l.length + 1) (cellsK a (l ++ [i])) 88) (hf : FreshS K p') (hn : ∀ (j : Nat) d, C[j]? = some d → j ≠ k → SepS d.2 p') (hq : SepS p' q)
    (hkeep : ∀ (j : Nat) d l', j ≠ k → C[j]? = some d → P[j]? = some l' → OwnS H3 d.2 2 l'.length (cellsK a l') 88) : Cmps K H3 q a (C.set k (b, p')) (P.set k (l ++ [i])) := by
  refine ⟨by rw [List.length_set, List.length_set]; exact h.len, by rw [List.length_set]; exact hs, hw, fun j c l' h1 h2 => ?_, fun j c h1 => ?_, fun i' j c d h1 h2 hne => ?_, fun j c h1 => ?_⟩
  · rcases set_at h1 with ⟨rfl, rfl⟩ | ⟨e1, h1⟩
    · rcases set_at h2 with ⟨_, rfl⟩ | ⟨e2, _⟩
      · rw [List.length_append, List.length_singleton]; exact ho
      · exact absurd rfl e2
    · rcases set_at h2 with ⟨e2, _⟩ | ⟨_, h2⟩
      · exact absurd e2 e1
      · exact hkeep j c l' e1 h1 h2
  · rcases set_at h1 with ⟨_, rfl⟩ | ⟨_, h1⟩
    · exact hf
    · exact h.fresh j c h1
  · rcases set_at h1 with ⟨rfl, rfl⟩ | ⟨e1, g1⟩
    · rcases set_at h2 with ⟨e2, _⟩ | ⟨e2, h2⟩
      · exact absurd e2.symm hne
      · exact (hn j d h2 e2).symm
    · rcases set_at h2 with ⟨rfl, rfl⟩ | ⟨_, h2⟩
      · exact hn i' c g1 e1
      · exact h.sep i' j c d g1 h2 hne
  · rcases set_at h1 with ⟨_, rfl⟩ | ⟨_, h1⟩
    · exact hq
    · exact h.sepq j c h1
/-- Components without pixels. -/
def noC (n : Nat) : List (Bx × AVal) := List.replicate n (⟨0, 0, 0, 0⟩, .nslice)
theorem noC_cells (n : Nat) : (List.replicate n [AVal.int .i64 0, .int .i64 0, .int .i64 0, .int .i64 0, .nslice]).flatten = cellsC (noC n) := by
  induction n with
  | zero => rfl
  | succ n ih => rw [List.replicate_succ, List.flatten_cons, ih]; rfl
theorem rep_at {α : Type} {n k : Nat} {x y : α} (h : (List.replicate n x)[k]? = some y) : y = x := by
  rw [List.getElem?_replicate] at h
  split at h
  · exact (Option.some.inj h).symm
  · cases h
theorem WpX.mkC {call : ACall} {fr : AFrame} {H : AHeap} {K : AVal → AHeap → Prop} {e : TypeId} {x y : ROpd} {k k' : IntKind} {n m : Nat} (a : Nat) {K0 : AHeap} (hx : x.ev fr = .int k (n : Int)) (hy : y.ev fr = .int k' (n : Int)) (hm : m ≤ 64) (hn : n ≤ 2 ^ 40) (hK0 : K0.n ≤ H.n)
    (h : ∀ p H1, Cmps K0 H1 p a (noC n) (List.replicate n []) → FreshS H p → ExtI H H1 → K p H1) : WpX (.makeSlice e [.int .i64 0, .int .i64 0, .int .i64 0, .int .i64 0, .nslice] m x y) call fr H K := by
  have h0 : 0 ≤ (n : Int) ∧ (n : Int) ≤ (n : Int) ∧ (m : Int) * (n : Int) ≤ 2 ^ 47 ∧ (n : Int) < 2 ^ 62 := by
    have h1 : m * n ≤ 64 * 2 ^ 40 := Nat.mul_le_mul hm hn
    have h2 : ((m * n : Nat) : Int) = (m : Int) * (n : Int) := Int.natCast_mul m n
    refine ⟨by omega, by omega, by rw [← h2]; omega, by omega⟩
  refine ⟨.slice H.n 0 n (some n) 5, H.push (.row (cellsC (noC n)) true (2 * e)), ?_, h _ _ ?_ ⟨fun r off len cap sz q => by cases q; exact Nat.le_refl _⟩ ⟨(Ext.refl H).push _⟩⟩
  · simp only [ROp.exec, hx, hy, aMakeSlice, if_pos h0, M.bind, aNew, M.pure, Int.toNat_natCast, noC_cells]
    rfl
  · have hlen : (noC n).length = n := List.length_replicate ..
    have hcl := cellsC_length (noC n)
    rw [hlen] at hcl
    refine ⟨by rw [hlen, List.length_replicate], ?_, ⟨fun r off len cap sz q => by cases q; exact ⟨_, _, push_get_eq⟩⟩, fun k c l h1 h2 => ?_, fun k c h1 => ?_, fun i j c d h1 h2 _ => ?_, fun k c h1 => ?_⟩
    · rw [hlen]
      exact ⟨Or.inr ⟨H.n, 0, some n, _, true, _, rfl, Nat.lt_succ_self _, push_get_eq, by omega, by rw [List.drop_zero, List.take_of_length_le (by omega)], Nat.le_refl _⟩⟩
    · rw [rep_at h1, rep_at h2]; exact ⟨Or.inl ⟨rfl, rfl, rfl⟩⟩
    · rw [rep_at h1]; exact ⟨fun _ _ _ _ _ q => by cases q⟩
    · rw [rep_at h1]; exact ⟨fun _ _ _ _ _ _ _ _ _ _ q => by cases q⟩
    · rw [rep_at h1]; exact ⟨fun _ _ _ _ _ _ _ _ _ _ q => by cases q⟩
end Go.Am

set_option maxHeartbeats 4000000
set_option maxRecDepth 100000
namespace Go.Am
open Go
attribute [local irreducible] Wp WpO WpX WpE

/-- The least rectangle with a rectangle and a pixel. -/
def strX (x px : Int) : Int := if px < x then px else x
def strW (x w px : Int) : Int := IntKind.i64.wrap ((if IntKind.i64.wrap (px + 1) > IntKind.i64.wrap (x + w) then IntKind.i64.wrap (px + 1) else IntKind.i64.wrap (x + w)) - strX x px)
instance K_stretch0 {x y h px py : Int} {H : AHeap} : PureCon ext prog 122 [.agg [.int .i64 x, .int .i64 y, .int .i64 0, .int .i64 h], .agg [.int .i64 px, .int .i64 py]] H 1 (.agg [.int .i64 px, .int .i64 py, .int .i64 1, .int .i64 1]) := ⟨by
 refine con_of (show prog 122 = some c122 from rfl) rfl rfl fun n hn => ?_
 refine sq ?_
 refine rg fun KF hKF => ?_
 refine Fo.boxA rfl ?_
 refine Fo.boxA rfl ?_
 refine Fo.new ?_
 refine WpO.nil (hKF _ _ ?_)
 refine sq ?_
 refine sq ?_
 refine rg fun KF hKF => ?_
 refine Fo.fa rfl ?_
 refine Fo.ld rfl rfl ?_
 refine Fo.bin rfl rfl rfl (by simp only [↓nrmL, nrmZ, Nat.reduceEqDiff, ↓reduceIte, Nat.reduceAdd, Int.reduceBEq, Int.reduceBNe]; rfl) ?_
 refine WpO.nil (hKF _ _ ?_)
 refine Wp.cond (b := true) rfl ?_
 refine sq ?_
 refine rg fun KF hKF => ?_
 refine Fo.fa rfl ?_
 refine Fo.ld rfl rfl ?_
 refine Fo.fa rfl ?_
 refine Fo.ld rfl rfl ?_
 refine Fo.build (by repeat (first | refine aFill1 (by first | exact (rfl : _ = AVal.int _ _) | exact (rfl : _ = AVal.ptr _ _) | exact (rfl : _ = AVal.bool _) | exact (rfl : _ = AVal.agg _) | exact (rfl : _ = AVal.tuple _) | exact (rfl : _ = AVal.func _ _ _) | exact (rfl : _ = AVal.nslice) | ((try simp only [↓nrmL, nrmK, Nat.reduceEqDiff, ↓reduceIte]); rfl)) rfl ?_ | rfl)) (by simp only [↓nrmL, nrmZ, Nat.reduceEqDiff, ↓reduceIte, Nat.reduceAdd, Int.reduceBEq, Int.reduceBNe]; rfl) ?_
 refine Fo.st rfl (rfl : _ = AVal.agg _) rfl rfl rfl (by repeat (first | rfl | refine allOne_cons ?_)) (by simp only [↓nrmL, nrmZ, Nat.reduceEqDiff, ↓reduceIte, Nat.reduceAdd, Int.reduceBEq, Int.reduceBNe]; rfl) ?_
 refine WpO.nil (hKF _ _ ?_)
 refine Wp.ret ?_
 dsimp only [cond_true, cond_false]
 refine ⟨trivial, _, (by first | rfl | exact getAllC rfl rfl rfl rfl | exact getAllT rfl (getAllC rfl rfl rfl rfl) | exact getAllC rfl rfl rfl (getAllC rfl rfl rfl rfl) | exact getAllC1 rfl rfl rfl), ?_⟩
 exact ⟨rfl, Ext0.ext⟩⟩
theorem K_stretch {x y w h px py : Int} {H : AHeap} (hw : (w == 0) = false) : PureCon ext prog 122 [.agg [.int .i64 x, .int .i64 y, .int .i64 w, .int .i64 h], .agg [.int .i64 px, .int .i64 py]] H 1 (.agg [.int .i64 (strX x px), .int .i64 (strX y py), .int .i64 (strW x w px), .int .i64 (strW y h py)]) := ⟨by
 refine con_of (show prog 122 = some c122 from rfl) rfl rfl fun n hn => ?_
 unfold strW strX
 try simp only [↓nrmL, nrmZ, Nat.reduceEqDiff, ↓reduceIte, Nat.reduceAdd, Int.reduceBEq, Int.reduceBNe, hw]
 refine sq ?_
 refine rg fun KF hKF => ?_
 refine Fo.boxA rfl ?_
 refine Fo.boxA rfl ?_
 refine Fo.new ?_
 refine WpO.nil (hKF _ _ ?_)
 refine sq ?_
 refine sq ?_
 refine rg fun KF hKF => ?_
 refine Fo.fa rfl ?_
 refine Fo.ld rfl rfl ?_
 refine Fo.bin rfl rfl rfl (by simp only [↓nrmL, nrmZ, Nat.reduceEqDiff, ↓reduceIte, Nat.reduceAdd, Int.reduceBEq, Int.reduceBNe, hw]; rfl) ?_
 refine WpO.nil (hKF _ _ ?_)
 refine Wp.cond (b := false) rfl ?_
 refine Wp.skip ?_
 refine sq ?_
 refine Fr.quiet rfl rfl fun KF hKF => ?_
 refine Fo.fa rfl ?_
 refine Fo.ld rfl rfl ?_
 refine Fo.fa rfl ?_
 refine Fo.ld rfl rfl ?_
 refine Fo.now rfl rfl rfl ?_
 refine Fo.fa rfl ?_
 refine Fo.ld rfl rfl ?_
 refine Fo.fa rfl ?_
 refine Fo.ld rfl rfl ?_
 refine Fo.now rfl rfl rfl ?_
 refine mI rfl ?_
 refine mI rfl ?_
 refine WpO.nil (hKF _ _ ?_)
 refine sq ?_
 refine rg fun KF hKF => ?_
 refine mI rfl ?_
 refine mI rfl ?_
 refine Fo.fa rfl ?_
 refine Fo.ld rfl rfl ?_
 refine Fo.fa rfl ?_
 refine Fo.ld rfl rfl ?_
 refine Fo.bin rfl rfl rfl rfl ?_
 refine Fo.fa rfl ?_
 refine Fo.ld rfl rfl ?_
 refine Fo.bin rfl rfl rfl rfl ?_
 refine Fo.now rfl rfl (by simp only [↓nrmL, nrmZ, Nat.reduceEqDiff, ↓reduceIte, Nat.reduceAdd, Int.reduceBEq, Int.reduceBNe, hw]; rfl) ?_
 refine mI rfl ?_
 refine Fo.bin rfl rfl rfl rfl ?_
 refine Fo.fa rfl ?_
 refine Fo.ld rfl rfl ?_
 refine Fo.fa rfl ?_
 refine Fo.ld rfl rfl ?_
 refine Fo.bin rfl rfl rfl rfl ?_
 refine Fo.fa rfl ?_
 refine Fo.ld rfl rfl ?_
 refine Fo.bin rfl rfl rfl rfl ?_
 refine Fo.now rfl rfl (by simp only [↓nrmL, nrmZ, Nat.reduceEqDiff, ↓reduceIte, Nat.reduceAdd, Int.reduceBEq, Int.reduceBNe, hw]; rfl) ?_
 refine mI rfl ?_
 refine Fo.bin rfl rfl rfl rfl ?_
 refine Fo.build (by repeat (first | refine aFill1 (by first | exact (rfl : _ = AVal.int _ _) | exact (rfl : _ = AVal.ptr _ _) | exact (rfl : _ = AVal.bool _) | exact (rfl : _ = AVal.agg _) | exact (rfl : _ = AVal.tuple _) | exact (rfl : _ = AVal.func _ _ _) | exact (rfl : _ = AVal.nslice) | ((try simp only [↓nrmL, nrmK, Nat.reduceEqDiff, ↓reduceIte]); rfl)) rfl ?_ | rfl)) (by simp only [↓nrmL, nrmZ, Nat.reduceEqDiff, ↓reduceIte, Nat.reduceAdd, Int.reduceBEq, Int.reduceBNe, hw]; rfl) ?_
 refine Fo.st rfl (rfl : _ = AVal.agg _) rfl rfl rfl (by repeat (first | rfl | refine allOne_cons ?_)) (by simp only [↓nrmL, nrmZ, Nat.reduceEqDiff, ↓reduceIte, Nat.reduceAdd, Int.reduceBEq, Int.reduceBNe, hw]; rfl) ?_
 refine WpO.nil (hKF _ _ ?_)
 refine Wp.ret ?_
 dsimp only [cond_true, cond_false]
 refine ⟨trivial, _, (by first | rfl | exact getAllC rfl rfl rfl rfl | exact getAllT rfl (getAllC rfl rfl rfl rfl) | exact getAllC rfl rfl rfl (getAllC rfl rfl rfl rfl) | exact getAllC1 rfl rfl rfl), ?_⟩
 exact ⟨rfl, Ext0.ext⟩⟩
end Go.Am

/- The pixels of each component, and their boxes. -/
set_option maxHeartbeats 4000000
namespace Go.Am
open Go
/-- The pixels before i that are marked with k + 1. -/
def pxs (M : List Nat) (i k : Nat) : List Nat := (List.range i).filter fun j => M.getD j 0 == k + 1
theorem pxs_hit {M : List Nat} {i k : Nat} (h : M.getD i 0 = k + 1) : pxs M (i + 1) k = pxs M i k ++ [i] := by
  unfold pxs
  have hb : (M.getD i 0 == k + 1) = true := by rw [h]; exact beq_self_eq_true _
  rw [List.range_succ, List.filter_append]
  simp only [List.filter_cons, hb, if_true, List.filter_nil]
theorem pxs_miss {M : List Nat} {i k : Nat} (h : M.getD i 0 ≠ k + 1) : pxs M (i + 1) k = pxs M i k := by
  unfold pxs
  have hb : (M.getD i 0 == k + 1) = false := beq_eq_false_iff_ne.2 h
  rw [List.range_succ, List.filter_append]
  simp only [List.filter_cons, hb, Bool.false_eq_true, if_false, List.filter_nil, List.append_nil]
def pxAll (M : List Nat) (n i : Nat) : List (List Nat) := (List.range n).map (pxs M i)
theorem pxAll_length (M : List Nat) (n i : Nat) : (pxAll M n i).length = n := by simp [pxAll]
theorem pxAll_zero (M : List Nat) (n : Nat) : pxAll M n 0 = List.replicate n [] := by
  unfold pxAll
  apply List.ext_getElem?
  intro k
  rw [List.getElem?_map, List.getElem?_replicate]
  by_cases h : k < n
  · rw [List.getElem?_range h, if_pos h]; rfl
  · rw [List.getElem?_eq_none (by simp; omega), if_neg h]; rfl
theorem pxAll_at {M : List Nat} {n i k : Nat} (h : k < n) : (pxAll M n i)[k]? = some (pxs M i k) := by
  unfold pxAll
  rw [List.getElem?_map, List.getElem?_range h]; rfl
theorem pxAll_skip {M : List Nat} {n i : Nat} (h : M.getD i 0 = 0) : pxAll M n (i + 1) = pxAll M n i := by
  unfold pxAll
  apply List.map_congr_left
  intro k _
  exact pxs_miss (by omega)
theorem pxAll_next {M : List Nat} {n i k : Nat} (h : M.getD i 0 = k + 1) : pxAll M n (i + 1) = (pxAll M n i).set k (pxs M i k ++ [i]) := by
  apply List.ext_getElem?
  intro j
  by_cases hj : j < n
  · rw [pxAll_at hj]
    by_cases hk : k = j
    · subst hk
      rw [List.getElem?_set_self (by rw [pxAll_length]; exact hj), pxs_hit h]
    · rw [List.getElem?_set_ne hk, pxAll_at hj, pxs_miss (by omega)]
  · rw [List.getElem?_eq_none (by rw [pxAll_length]; omega), List.getElem?_eq_none (by rw [List.length_set, pxAll_length]; omega)]
theorem pxs_le (M : List Nat) (i k : Nat) : (pxs M i k).length ≤ i := by
  unfold pxs
  exact Nat.le_trans (List.length_filter_le _ _) (by simp)
/-- A box stretched to a pixel. -/
def bxS (b : Bx) (px py : Int) : Bx := bif b.w == 0 then ⟨px, py, 1, 1⟩ else ⟨strX b.x px, strX b.y py, strW b.x b.w px, strW b.y b.h py⟩
def bxL (a : Nat) (l : List Nat) : Bx := l.foldl (fun b k => bxS b ((k % a : Nat) : Int) ((k / a : Nat) : Int)) ⟨0, 0, 0, 0⟩
theorem bxL_snoc (a : Nat) (l : List Nat) (k : Nat) : bxL a (l ++ [k]) = bxS (bxL a l) ((k % a : Nat) : Int) ((k / a : Nat) : Int) := by
  unfold bxL
  rw [List.foldl_append]; rfl
instance K_stretchB {b : Bx} {px py : Int} {H : AHeap} : PureCon ext prog 122 [.agg b.cells, .agg [.int .i64 px, .int .i64 py]] H 1 (.agg (bxS b px py).cells) := by
  obtain ⟨x, y, w, h⟩ := b
  unfold bxS Bx.cells
  cases hw : w == 0
  · exact K_stretch hw
  · have : w = 0 := eq_of_beq hw
    subst this
    exact K_stretch0
theorem bx_cells (b : Bx) : b.cells.length = 4 ∧ b.cells.all AVal.one = true := ⟨rfl, rfl⟩
/-- What image.Components answers: components in the order of their first pixels, with their boxes. -/
structure CmpsR (K H : AHeap) (q : AVal) (l : List UInt8) (a b : Nat) (e : Bool) (M L : List Nat) (C : List (Bx × AVal)) : Prop where
  lab : Lab l a b e M L (a * b)
  cmps : Cmps K H q a C (pxAll M L.length (a * b))
  box : ∀ (k : Nat) c, C[k]? = some c → c.1 = bxL a (pxs M (a * b) k)
  num : C.length = L.length
end Go.Am

/- The reference's numbers: neighbours take the lesser one, until nothing changes. -/
set_option maxHeartbeats 4000000
namespace Go.Am
open Go
section
variable {l : List UInt8} {a b : Nat} {e : Bool} {N : List Nat}
end
end Go.Am

set_option maxHeartbeats 4000000
set_option maxRecDepth 100000
namespace Go.Am
open Go
attribute [local irreducible] Wp WpO WpX WpE

end Go.Am

set_option maxHeartbeats 4000000
set_option maxRecDepth 100000
namespace Go.Am
open Go
attribute [local irreducible] Wp WpO WpX WpE

end Go.Am

set_option maxHeartbeats 4000000
set_option maxRecDepth 100000
namespace Go.Am
open Go
attribute [local irreducible] Wp WpO WpX WpE

def rc (l : List UInt8) (a j x : Nat) : Int := (((List.range x).filter fun u => l.getD (j * a + u) 0 == 1).length : Nat)
def cc (l : List UInt8) (a i y : Nat) : Int := (((List.range y).filter fun v => l.getD (v * a + i) 0 == 1).length : Nat)
/-- How much ink the rows, and the columns, have. -/
def rowsL (l : List UInt8) (a b : Nat) : List Int := (List.range b).map fun j => rc l a j a
def colsL (l : List UInt8) (a b : Nat) : List Int := (List.range a).map fun i => cc l a i b
/- extents -/
def extS (st : Int × Int) (i : Nat) (v : Int) : Int × Int := if v > 0 then (if st.2 = 0 then ((i : Int), 1) else (st.1, i + 1 - st.1)) else st
def extF (p : List Int) : Nat → Int × Int
 | 0 => (0, 0)
 | k + 1 => extS (extF p k) k (p.getD k 0)
def extL (p : List Int) : Int × Int := extF p p.length
theorem ext_char (p : List Int) (k : Nat) : ((∀ i, i < k → ¬ p.getD i 0 > 0) ∧ extF p k = (0, 0)) ∨ ∃ f g : Nat, f ≤ g ∧ g < k ∧ p.getD f 0 > 0 ∧ p.getD g 0 > 0 ∧ (∀ i, i < f → ¬ p.getD i 0 > 0) ∧ (∀ i, g < i → i < k → ¬ p.getD i 0 > 0) ∧ extF p k = ((f : Int), (g : Int) + 1 - f) := by
 induction k with
 | zero => exact Or.inl ⟨fun i hi => by omega, rfl⟩
 | succ k ih =>
  simp only [extF, extS]
  by_cases hp : p.getD k 0 > 0
  ·rw [if_pos hp]
   right
   rcases ih with ⟨h1, h2⟩ | ⟨f, g, h1, h2, h3, h4, h5, h6, h7⟩
   ·rw [h2, if_pos rfl]
    exact ⟨k, k, Nat.le_refl _, by omega, hp, hp, h1, fun i h3 h4 => by omega, by simp; omega⟩
   ·rw [h7, if_neg (by simp only; omega)]
    exact ⟨f, k, by omega, by omega, h3, hp, h5, fun i h8 h9 => by omega, rfl⟩
  ·rw [if_neg hp]
   rcases ih with ⟨h1, h2⟩ | ⟨f, g, h1, h2, h3, h4, h5, h6, h7⟩
   ·left
    refine ⟨fun i hi => ?_, h2⟩
    by_cases hik : i = k
    ·subst hik; exact hp
    ·exact h1 i (by omega)
   ·right
    refine ⟨f, g, h1, by omega, h3, h4, h5, fun i h8 h9 => ?_, h7⟩
    by_cases hik : i = k
    ·subst hik; exact hp
    ·exact h6 i h8 (by omega)
end Go.Am

set_option maxHeartbeats 4000000
set_option maxRecDepth 100000
namespace Go.Am
open Go
attribute [local irreducible] Wp WpO WpX WpE

end Go.Am

set_option maxHeartbeats 4000000
set_option maxRecDepth 100000
set_option synthInstance.maxHeartbeats 4000000
set_option synthInstance.maxSize 100000
namespace Go.Am
open Go
attribute [local irreducible] Wp WpO WpX WpE

end Go.Am

/- Texts as values, and the steps that use them. -/
set_option maxHeartbeats 4000000
set_option maxRecDepth 100000
namespace Go.Am
open Go
/- ===== texts as lists of bytes ===== -/
abbrev Bs := List UInt8
abbrev strV (l : Bs) : AVal := .str ⟨l.toArray⟩
theorem str_size (l : Bs) : (⟨l.toArray⟩ : ByteArray).size = l.length := by
  show l.toArray.size = l.length
  simp
section
variable {call : ACall} {fr : AFrame} {H : AHeap} {KF : AFrame → AHeap → Prop} {os : List ROper} {d : Nat}
theorem exec_lenStr {x : ROpd} {l : Bs} (hx : x.ev fr = strV l) : (ROp.lenStr x).exec call fr H = some (.int .i64 l.length, H) := by
  simp only [ROp.exec, hx, aLenStr, str_size, M.ofOption, M.pure]
theorem Fo.lenStr {x : ROpd} {l : Bs} {v : AVal} (hx : x.ev fr = strV l) (hv : AVal.int .i64 l.length = v) (h : WpO call os (upd fr d v) H KF) : WpO call (⟨some d, .lenStr x, none⟩ :: os) fr H KF := by
  subst hv; exact WpO.step rfl ⟨_, _, exec_lenStr hx, h⟩
end

theorem Fo.uptr {call : ACall} {fr : AFrame} {H : AHeap} {KF : AFrame → AHeap → Prop} {os : List ROper} {d : Nat} {t s r : Nat} {x : ROpd} {cs : List AVal} (hx : x.ev fr = .ptr r 0) [h : HasRow H r cs true (2 * t)] (hs : Nat.ble s cs.length = true) (h0 : Nat.blt 0 s = true) (hK : WpO call os (upd fr d (.ptr r 0)) H KF) :
    WpO call (⟨some d, .uptr t s x, none⟩ :: os) fr H KF := by
  refine WpO.step rfl ⟨.ptr r 0, H, ?_, hK⟩
  have h1 : Nat.blt r H.n = true := by simpa using h.lt
  have h2 : (Nat.blt r H.n && Nat.beq 0 0 && Nat.blt 0 s) = true := by rw [h1, h0]; rfl
  have h3 : (Nat.beq (2 * t) (2 * t) && Nat.ble s cs.length) = true := by rw [hs]; simp
  have h4 : aUptr t s (.ptr r 0) H = some (.ptr r 0, H) := by
    show (match Nat.blt r H.n && Nat.beq 0 0 && Nat.blt 0 s with
      | true => (match H.get r with
        | .row cs true e => (match Nat.beq e (2 * t) && Nat.ble s cs.length with
          | true => some (AVal.ptr r 0, H)
          | false => none)
        | _ => none)
      | false => none) = _
    rw [h2, h.get]
    simp only [h3]
  show aUptr t s (x.ev fr) H = _
  rw [hx, h4]
theorem WpX.pcallC {ext : Exts} {prog : FuncId → Option RFunc} {fr : AFrame} {H : AHeap} {K : AVal → AHeap → Prop} {n d D : Nat} {f : FuncId} {o : ROpd} {l : List ROpd} {args caps : List AVal} {v : AVal} (hn : fuel0 + D ≤ n) (hf : o.ev fr = .func (.func f) [] caps) (hl : l.map (·.ev fr) ++ caps = args) [hc : PureCon ext prog f args H d v] (hd : Nat.ble d D = true) (h : ∀ H1, ExtI H H1 → K v H1) : WpX (.call o l) (callN ext prog n) fr H K := by
  obtain ⟨u, H', h1, rfl, h2⟩ := hc.con n (by have := Nat.le_of_ble_eq_true hd; omega)
  refine ⟨u, H', ?_, h H' ⟨h2⟩⟩
  simp only [ROp.exec, hf, aCallV, List.nil_append, hl]
  exact h1
theorem WpX.yield {call : ACall} {fr : AFrame} {H : AHeap} {K : AVal → AHeap → Prop} {r : Nat} {o : ROpd} {l : List ROpd} {args : List AVal} (hf : o.ev fr = .yield r) (hl : l.map (·.ev fr) = args) (h : ∃ v H', call yieldId (.yield r :: args) H = some (v, H') ∧ K v H') : WpX (.call o l) call fr H K := by
  obtain ⟨v, H', h1, h2⟩ := h
  refine ⟨v, H', ?_, h2⟩
  simp only [ROp.exec, hf, hl, aCallV]
  exact h1
theorem exec_ldNP {call : ACall} {fr : AFrame} {H : AHeap} {a : ROpd} {p : AVal} {sz n j m : Nat} {cs l : List AVal} (ha : a.ev fr = .ptr (rowOf p) (offOf p + j)) [s : SliceAt H p sz n cs] (hm : 0 < m) (hv : j + m ≤ cs.length) (hl : (cs.drop j).take m = l) : (ROp.load (some m) a).exec call fr H = some (.agg l, H) := by
  obtain ⟨v, H', h1, h2, h3⟩ := WpX.ldNP (call := call) (K := fun v H' => v = .agg l ∧ H' = H) ha hm hv hl ⟨rfl, rfl⟩
  rw [h1, h2, h3]
end Go.Am

set_option maxHeartbeats 4000000
set_option maxRecDepth 100000
namespace Go.Am
open Go
attribute [local irreducible] Wp WpO WpX WpE

abbrev RunT := Int × Int × Int
def cellsR (l : List RunT) : List AVal := l.flatMap fun r => [.int .i64 r.1, .int .i64 r.2.1, .int .i64 r.2.2]
end Go.Am

set_option maxHeartbeats 4000000
set_option maxRecDepth 100000
set_option synthInstance.maxHeartbeats 4000000
set_option synthInstance.maxSize 100000
namespace Go.Am
open Go
attribute [local irreducible] Wp WpO WpX WpE

instance {H : AHeap} {r : Nat} {a b c : AVal} {rw : Bool} {ty : TypeId} [h : HasRow H r [a, b, c] rw ty] : SliceAt H (.slice r 0 1 (some 1) 3) 3 1 [a, b, c] := ⟨Or.inr ⟨r, 0, some 1, _, rw, ty, rfl, h.lt, h.get, by simp, rfl, Nat.le_refl _⟩⟩

/-- Between two rounds: the list so far in the variable's row. -/
structure JR (Hb : AHeap) (rl r : Nat) (R0 : RLoop) (acc : List RunT) (H : AHeap) : Prop where
 n : Hb.n ≤ H.n
 get : ∀ s, s < Hb.n → s ≠ rl → H.get s = Hb.get s
 cell : ∃ p e, HasRow H rl [p] true e ∧ OwnS H p 3 acc.length (cellsR acc) 61 ∧ RowNe p rl ∧ FreshS Hb p
 loop : HasLoop H r R0
theorem JR.more {Hb H H' : AHeap} {rl r : Nat} {R0 : RLoop} {acc : List RunT} (h : JR Hb rl r R0 acc H) (x : Ext H H') : JR Hb rl r R0 acc H' := by
 obtain ⟨p, e, h1, h2, h3, h4⟩ := h.cell
 haveI : ExtI H H' := ⟨x⟩
 have h5 := h.loop
 have hn := h.n
 exact ⟨Nat.le_trans h.n x.n, fun s hs hne => by rw [x.get s (by omega)]; exact h.get s hs hne, ⟨p, e, inferInstance, inferInstance, h3, h4⟩, inferInstance⟩

end Go.Am

set_option maxHeartbeats 4000000
set_option maxRecDepth 100000
set_option synthInstance.maxHeartbeats 4000000
set_option synthInstance.maxSize 100000
namespace Go.Am
open Go
attribute [local irreducible] Wp WpO WpX WpE

theorem JR.row {Hb H : AHeap} {rl r s : Nat} {R0 : RLoop} {acc : List RunT} {cs : List AVal} {rw : Bool} {e : TypeId} (h : JR Hb rl r R0 acc H) (k : HasRow Hb s cs rw e) (hne : s ≠ rl) : HasRow H s cs rw e := ⟨Nat.lt_of_lt_of_le k.lt h.n, by rw [h.get s k.lt hne]; exact k.get⟩
theorem JR.bytes {Hb H : AHeap} {rl r : Nat} {R0 : RLoop} {acc : List RunT} {p : AVal} {l : List UInt8} (h : JR Hb rl r R0 acc H) (k : BytesI Hb p l) (hne : RowNe p rl) : BytesI H p l := k.keep h.n fun s _ _ _ _ e hs => h.get s hs (hne.ne _ _ _ _ _ e)
theorem JR.ext {Hh Hb H : AHeap} {rl r : Nat} {R0 : RLoop} {acc : List RunT} (h : JR Hb rl r R0 acc H) (x : Ext Hh Hb) (hrl : Hh.n ≤ rl) : Ext Hh H := ⟨Nat.le_trans x.n h.n, fun s hs => by have := x.n; rw [h.get s (by omega) (by omega), x.get s hs]⟩
theorem JR.start {Hb : AHeap} {rl : Nat} {R0 : RLoop} {e : TypeId} (k : HasRow Hb rl [.nslice] true e) : JR Hb rl (Hb.n + 1) R0 [] ((Hb.push .dead).push (.loop R0)) := by
 have hlt := k.lt
 refine ⟨by simp only [AHeap.push]; omega, fun s hs _ => ?_, ⟨.nslice, e, inferInstance, ⟨Or.inl ⟨rfl, rfl, rfl⟩⟩, inferInstance, ⟨fun _ _ _ _ _ q => by cases q⟩⟩, (inferInstance : HasLoop ((Hb.push .dead).push (.loop R0)) (Hb.push .dead).n R0)⟩
 rw [push_get_lt (by simp only [AHeap.push]; omega), push_get_lt hs]
end Go.Am

set_option maxHeartbeats 4000000
set_option maxRecDepth 100000
set_option synthInstance.maxHeartbeats 4000000
set_option synthInstance.maxSize 100000
namespace Go.Am
open Go
attribute [local irreducible] Wp WpO WpX WpE

end Go.Am

set_option maxHeartbeats 4000000
set_option maxRecDepth 100000
set_option synthInstance.maxHeartbeats 4000000
set_option synthInstance.maxSize 100000
namespace Go.Am
open Go
attribute [local irreducible] Wp WpO WpX WpE

end Go.Am

set_option maxHeartbeats 4000000
set_option maxRecDepth 100000
set_option synthInstance.maxHeartbeats 4000000
set_option synthInstance.maxSize 100000
namespace Go.Am
open Go
attribute [local irreducible] Wp WpO WpX WpE

end Go.Am

/- The reference's components: pixels with one number. -/
set_option maxHeartbeats 4000000
namespace Go.Am
open Go
/-- An image whose ink are some pixels. -/
def inkOf (n : Nat) (ps : List Nat) : List UInt8 := (List.range n).map fun j => if j ∈ ps then 1 else 0
/-- The pixels before k that have the number i. -/
def pxr (l : List UInt8) (N : List Nat) (i k : Nat) : List Nat := (List.range k).filter fun j => l.getD j 0 == 1 && N.getD j 0 == i
theorem pxr_le (l : List UInt8) (N : List Nat) (i k : Nat) : (pxr l N i k).length ≤ k := by
  unfold pxr
  exact Nat.le_trans (List.length_filter_le _ _) (by simp)
/-- The first pixels before i. -/
def fls (l : List UInt8) (N : List Nat) (i : Nat) : List Nat := (List.range i).filter fun m => l.getD m 0 == 1 && N.getD m 0 == m
theorem fls_hit {l : List UInt8} {N : List Nat} {i : Nat} (h : l.getD i 0 = 1) (g : N.getD i 0 = i) : fls l N (i + 1) = fls l N i ++ [i] := by
  have hb : (l.getD i 0 == 1 && N.getD i 0 == i) = true := by rw [h, g]; simp
  unfold fls
  rw [List.range_succ, List.filter_append]
  simp only [List.filter_cons, hb, if_true, List.filter_nil]
theorem fls_miss {l : List UInt8} {N : List Nat} {i : Nat} (h : (l.getD i 0 == 1 && N.getD i 0 == i) = false) : fls l N (i + 1) = fls l N i := by
  unfold fls
  rw [List.range_succ, List.filter_append]
  simp only [List.filter_cons, h, Bool.false_eq_true, if_false, List.filter_nil, List.append_nil]
theorem fls_le (l : List UInt8) (N : List Nat) (i : Nat) : (fls l N i).length ≤ i := by
  unfold fls
  exact Nat.le_trans (List.length_filter_le _ _) (by simp)
/-- The box of an image, as the reference finds it. -/
def boxR (l : List UInt8) (a b : Nat) : Bx := ⟨(extL (colsL l a b)).1, (extL (rowsL l a b)).1, (extL (colsL l a b)).2, (extL (rowsL l a b)).2⟩
theorem cellsC_snoc (C : List (Bx × AVal)) (c : Bx × AVal) : cellsC (C ++ [c]) = cellsC C ++ (c.1.cells ++ [c.2]) := by
  induction C with
  | nil => rfl
  | cons d C ih => show (d.1.cells ++ [d.2]) ++ cellsC (C ++ [c]) = ((d.1.cells ++ [d.2]) ++ cellsC C) ++ (c.1.cells ++ [c.2]); rw [ih]; simp only [List.append_assoc]
/-- The list that grows: o; each component's list stands for itself. -/
structure RefC (K H : AHeap) (l : List UInt8) (N : List Nat) (a b i : Nat) (o : AVal) (C : List (Bx × AVal)) : Prop where
  own : OwnS H o 5 C.length (cellsC C) 85
  fresh : FreshS K o
  num : C.length = (fls l N i).length
  box : ∀ (k : Nat) c m, C[k]? = some c → (fls l N i)[k]? = some m → c.1 = boxR (inkOf (a * b) (pxr l N m (a * b))) a b
  px : ∀ (k : Nat) c m, C[k]? = some c → (fls l N i)[k]? = some m → SliceAt H c.2 2 (pxr l N m (a * b)).length (cellsK a (pxr l N m (a * b)))
  sep : ∀ (k : Nat) c, C[k]? = some c → SepS c.2 o
  fr : ∀ (k : Nat) c, C[k]? = some c → FreshS K c.2
theorem RefC.begin {K H : AHeap} {l : List UInt8} {N : List Nat} {a b : Nat} : RefC K H l N a b 0 .nslice [] :=
  ⟨⟨Or.inl ⟨rfl, rfl, rfl⟩⟩, ⟨fun _ _ _ _ _ q => by cases q⟩, rfl, fun k c m h => (by simp at h), fun k c m h => (by simp at h), fun k c h => (by simp at h), fun k c h => (by simp at h)⟩
theorem RefC.skip {K H : AHeap} {l : List UInt8} {N : List Nat} {a b i : Nat} {o : AVal} {C : List (Bx × AVal)} (h : RefC K H l N a b i o C) (g : (l.getD i 0 == 1 && N.getD i 0 == i) = false) : RefC K H l N a b (i + 1) o C := by
  obtain ⟨h1, h2, h3, h4, h5, h6, h7⟩ := h
  exact ⟨h1, h2, by rw [fls_miss g]; exact h3, by rw [fls_miss g]; exact h4, by rw [fls_miss g]; exact h5, h6, h7⟩
theorem RefC.ext {K H H' : AHeap} {l : List UInt8} {N : List Nat} {a b i : Nat} {o : AVal} {C : List (Bx × AVal)} (h : RefC K H l N a b i o C) (x : Ext H H') : RefC K H' l N a b i o C := by
  obtain ⟨h1, h2, h3, h4, h5, h6, h7⟩ := h
  haveI : ExtI H H' := ⟨x⟩
  exact ⟨inferInstance, h2, h3, h4, fun k c m q r => by haveI := h5 k c m q r; infer_instance, h6, h7⟩
theorem snoc_at {α : Type} {C : List α} {x y : α} {k : Nat} (h : (C ++ [x])[k]? = some y) : (k < C.length ∧ C[k]? = some y) ∨ (k = C.length ∧ y = x) := by
  by_cases hk : k < C.length
  · rw [List.getElem?_append_left hk] at h; exact Or.inl ⟨hk, h⟩
  · rw [List.getElem?_append_right (by omega)] at h
    cases hj : k - C.length with
    | zero => rw [hj] at h; simp at h; exact Or.inr ⟨by omega, h.symm⟩
    | succ j => rw [hj] at h; simp at h
/-- One component more. -/
theorem RefC.next {K H H' : AHeap} {l : List UInt8} {N : List Nat} {a b i : Nat} {o o' pl : AVal} {C : List (Bx × AVal)} {bx : Bx} (h : RefC K H l N a b i o C) (hl : l.getD i 0 = 1) (hN : N.getD i 0 = i) (ho : OwnS H' o' 5 (C.length + 1) (cellsC C ++ (bx.cells ++ [pl])) 85) (hf : FreshS H o') (hK : Ext K H ∨ FreshS K o') (hx : ExtP H H' o) (hb : bx = boxR (inkOf (a * b) (pxr l N i (a * b))) a b)
    (hp : SliceAt H pl 2 (pxr l N i (a * b)).length (cellsK a (pxr l N i (a * b)))) (hs : SepS pl o) (hg : FreshS K pl) : RefC K H' l N a b (i + 1) o' (C ++ [(bx, pl)]) := by
  refine ⟨by rw [List.length_append, List.length_singleton, cellsC_snoc]; exact ho, ?_, by rw [fls_hit hl hN, List.length_append, List.length_append, h.num]; rfl, fun k c m h1 h2 => ?_, fun k c m h1 h2 => ?_, fun k c h1 => ?_, fun k c h1 => ?_⟩
  · rcases hK with hK | hK
    · exact ⟨fun _ _ _ _ _ q => Nat.le_trans hK.n (hf.ge _ _ _ _ _ q)⟩
    · exact hK
  · rw [fls_hit hl hN] at h2
    rcases snoc_at h1 with ⟨q1, h1⟩ | ⟨q1, rfl⟩
    · rcases snoc_at h2 with ⟨_, h2⟩ | ⟨q2, _⟩
      · exact h.box k c m h1 h2
      · rw [q2, ← h.num] at q1; exact absurd q1 (Nat.lt_irrefl _)
    · rcases snoc_at h2 with ⟨q2, _⟩ | ⟨_, rfl⟩
      · rw [q1, h.num] at q2; exact absurd q2 (Nat.lt_irrefl _)
      · exact hb
  · rw [fls_hit hl hN] at h2
    rcases snoc_at h1 with ⟨q1, h1⟩ | ⟨q1, rfl⟩
    · rcases snoc_at h2 with ⟨_, h2⟩ | ⟨q2, _⟩
      · haveI := h.px k c m h1 h2
        haveI := h.sep k c h1
        infer_instance
      · rw [q2, ← h.num] at q1; exact absurd q1 (Nat.lt_irrefl _)
    · rcases snoc_at h2 with ⟨q2, _⟩ | ⟨_, rfl⟩
      · rw [q1, h.num] at q2; exact absurd q2 (Nat.lt_irrefl _)
      · infer_instance
  · rcases snoc_at h1 with ⟨q1, h1⟩ | ⟨q1, rfl⟩
    · obtain ⟨m, h2⟩ : ∃ m, (fls l N i)[k]? = some m := ⟨_, List.getElem?_eq_getElem (by rw [← h.num]; exact q1)⟩
      haveI := h.px k c m h1 h2
      infer_instance
    · infer_instance
  · rcases snoc_at h1 with ⟨_, h1⟩ | ⟨_, rfl⟩
    · exact h.fr k c h1
    · exact hg
instance {H : AHeap} {r : Nat} {c0 c1 : AVal} {rw : Bool} {e : TypeId} [h : HasRow H r [c0, c1] rw e] : SliceAt H (.slice r 0 1 (some 1) 2) 2 1 [c0, c1] := ⟨Or.inr ⟨r, 0, some 1, _, rw, e, rfl, h.lt, h.get, Nat.le_refl _, rfl, Nat.le_refl _⟩⟩
instance {H : AHeap} {r : Nat} {c0 c1 c2 c3 c4 : AVal} {rw : Bool} {e : TypeId} [h : HasRow H r [c0, c1, c2, c3, c4] rw e] : SliceAt H (.slice r 0 1 (some 1) 5) 5 1 [c0, c1, c2, c3, c4] := ⟨Or.inr ⟨r, 0, some 1, _, rw, e, rfl, h.lt, h.get, Nat.le_refl _, rfl, Nat.le_refl _⟩⟩
end Go.Am

/- Both sides' components are the same: first pixels, pixels, boxes. -/
set_option maxHeartbeats 4000000
namespace Go.Am
open Go
/- ===== strictly increasing lists ===== -/
theorem inc_eq : ∀ {l m : List Nat}, l.Pairwise (· < ·) → m.Pairwise (· < ·) → (∀ x, x ∈ l ↔ x ∈ m) → l = m
  | [], [], _, _, _ => rfl
  | [], y :: m, _, _, h => by have := (h y).2 (List.mem_cons_self ..); cases this
  | x :: l, [], _, _, h => by have := (h x).1 (List.mem_cons_self ..); cases this
  | x :: l, y :: m, h1, h2, h => by
    rw [List.pairwise_cons] at h1 h2
    have hxy : x = y := by
      rcases List.mem_cons.1 ((h x).1 (List.mem_cons_self ..)) with q | q
      · exact q
      · rcases List.mem_cons.1 ((h y).2 (List.mem_cons_self ..)) with r | r
        · exact r.symm
        · have := h2.1 x q; have := h1.1 y r; omega
    subst hxy
    rw [inc_eq h1.2 h2.2 fun z => ?_]
    constructor
    · intro hz
      rcases List.mem_cons.1 ((h z).1 (List.mem_cons_of_mem _ hz)) with q | q
      · have := h1.1 z hz; omega
      · exact q
    · intro hz
      rcases List.mem_cons.1 ((h z).2 (List.mem_cons_of_mem _ hz)) with q | q
      · have := h2.1 z hz; omega
      · exact q
theorem inc_inj {L : List Nat} (h : L.Pairwise (· < ·)) {i k m : Nat} (h1 : L[i]? = some m) (h2 : L[k]? = some m) : i = k := by
  obtain ⟨g1, e1⟩ := List.getElem?_eq_some_iff.1 h1
  obtain ⟨g2, e2⟩ := List.getElem?_eq_some_iff.1 h2
  rw [List.pairwise_iff_getElem] at h
  rcases Nat.lt_trichotomy i k with q | q | q
  · have := h i k g1 g2 q; omega
  · exact q
  · have := h k i g2 g1 q; omega
section
variable {l : List UInt8} {a b : Nat} {e : Bool} {M L N : List Nat}
theorem fls_inc (l : List UInt8) (N : List Nat) (i : Nat) : (fls l N i).Pairwise (· < ·) := by
  unfold fls
  exact List.Pairwise.filter _ List.pairwise_lt_range
theorem fls_eq (h : Lab l a b e M L (a * b)) (hld : ∀ i, i < a * b → l.getD i 0 = 1 → Lead l a b e i (N.getD i 0)) : L = fls l N (a * b) := by
  refine inc_eq h.inc (fls_inc _ _ _) fun m => ?_
  unfold fls
  rw [List.mem_filter, List.mem_range, Bool.and_eq_true, beq_iff_eq, beq_iff_eq]
  constructor
  · intro hm
    obtain ⟨h1, h2⟩ := h.lead m hm
    have h3 := h2.1.start_ok.2
    exact ⟨h1, h3, (hld m h1 h3).unique h2⟩
  · rintro ⟨h1, h2, h3⟩
    have h4 := hld m h1 h2
    rw [h3] at h4
    obtain ⟨m', h5, h6⟩ := h.num m (h.seen m h1 h2)
    have h7 := (h.lead m' (List.mem_of_getElem? h5)).2
    have h8 : m' = m := (h7.same h6).unique h4
    rw [← h8]; exact List.mem_of_getElem? h5
theorem pxs_eq (h : Lab l a b e M L (a * b)) (hld : ∀ i, i < a * b → l.getD i 0 = 1 → Lead l a b e i (N.getD i 0)) {k m : Nat} (hk : L[k]? = some m) : pxs M (a * b) k = pxr l N m (a * b) := by
  unfold pxs pxr
  apply List.filter_congr
  intro j hj
  have hj := List.mem_range.1 hj
  have hm := (h.lead m (List.mem_of_getElem? hk)).2
  rw [Bool.eq_iff_iff, Bool.and_eq_true, beq_iff_eq, beq_iff_eq, beq_iff_eq]
  constructor
  · intro q
    obtain ⟨m', h5, h6⟩ := h.num j (by omega)
    rw [q, Nat.add_sub_cancel, hk] at h5
    cases h5
    have h7 := h6.end_ok.2
    exact ⟨h7, (hld j hj h7).unique (hm.same h6)⟩
  · rintro ⟨q1, q2⟩
    have h4 := hld j hj q1
    rw [q2] at h4
    have h0 := h.seen j hj q1
    obtain ⟨m', h5, h6⟩ := h.num j h0
    have h7 := (h.lead m' (List.mem_of_getElem? h5)).2
    have h8 : m' = m := (h7.same h6).unique h4
    subst h8
    have := inc_inj h.inc h5 hk
    omega
theorem pxr_ne (hld : ∀ i, i < a * b → l.getD i 0 = 1 → Lead l a b e i (N.getD i 0)) {k m : Nat} (hk : (fls l N (a * b))[k]? = some m) : pxr l N m (a * b) ≠ [] ∧ ∀ j ∈ pxr l N m (a * b), j < a * b := by
  have hm := List.mem_of_getElem? hk
  unfold fls at hm
  rw [List.mem_filter, List.mem_range, Bool.and_eq_true, beq_iff_eq, beq_iff_eq] at hm
  refine ⟨fun q => ?_, fun j hj => ?_⟩
  · have : m ∈ pxr l N m (a * b) := by
      unfold pxr
      rw [List.mem_filter, List.mem_range, Bool.and_eq_true, beq_iff_eq, beq_iff_eq]
      exact hm
    rw [q] at this; cases this
  · unfold pxr at hj
    exact List.mem_range.1 (List.mem_filter.1 hj).1
end
/- ===== boxes ===== -/
/-- The least and the greatest value of a function on a list. -/
def Span (f : Nat → Nat) (ps : List Nat) (lo hi : Nat) : Prop := (∀ k ∈ ps, lo ≤ f k ∧ f k ≤ hi) ∧ (∃ k ∈ ps, f k = lo) ∧ ∃ k ∈ ps, f k = hi
theorem Span.unique {f : Nat → Nat} {ps : List Nat} {lo hi lo' hi' : Nat} (h : Span f ps lo hi) (g : Span f ps lo' hi') : lo = lo' ∧ hi = hi' := by
  obtain ⟨h1, ⟨k1, m1, e1⟩, ⟨k2, m2, e2⟩⟩ := h
  obtain ⟨g1, ⟨j1, n1, d1⟩, ⟨j2, n2, d2⟩⟩ := g
  have := h1 j1 n1; have := h1 j2 n2; have := g1 k1 m1; have := g1 k2 m2
  omega
theorem Span.snoc {f : Nat → Nat} {ps : List Nat} {lo hi : Nat} (h : Span f ps lo hi) (k : Nat) : Span f (ps ++ [k]) (min lo (f k)) (max hi (f k)) := by
  obtain ⟨h1, ⟨k1, m1, e1⟩, ⟨k2, m2, e2⟩⟩ := h
  refine ⟨fun j hj => ?_, ?_, ?_⟩
  · rcases List.mem_append.1 hj with q | q
    · have := h1 j q; omega
    · rw [List.mem_singleton] at q; subst q; omega
  · by_cases q : lo ≤ f k
    · exact ⟨k1, List.mem_append_left _ m1, by omega⟩
    · exact ⟨k, List.mem_append_right _ (List.mem_singleton.2 rfl), by omega⟩
  · by_cases q : f k ≤ hi
    · exact ⟨k2, List.mem_append_left _ m2, by omega⟩
    · exact ⟨k, List.mem_append_right _ (List.mem_singleton.2 rfl), by omega⟩
theorem str_nat {lo hi p : Nat} (h : lo ≤ hi) (h1 : hi < 409600) (h2 : p < 409600) : strX (lo : Int) (p : Int) = ((min lo p : Nat) : Int) ∧ strW (lo : Int) ((hi : Int) + 1 - lo) (p : Int) = ((max hi p : Nat) : Int) + 1 - ((min lo p : Nat) : Int) := by
  have e1 : strX (lo : Int) (p : Int) = ((min lo p : Nat) : Int) := by
    unfold strX
    by_cases q : (p : Int) < (lo : Int)
    · rw [if_pos q]; omega
    · rw [if_neg q]; omega
  refine ⟨e1, ?_⟩
  unfold strW
  rw [e1, w64 (show _ ≤ (p : Int) + 1 ∧ _ by omega), w64 (show _ ≤ (lo : Int) + ((hi : Int) + 1 - lo) ∧ _ by omega)]
  by_cases q : (p : Int) + 1 > (lo : Int) + ((hi : Int) + 1 - lo)
  · rw [if_pos q, w64 (by omega)]; omega
  · rw [if_neg q, w64 (by omega)]; omega
theorem bxL_span {a b : Nat} (hab : a * b ≤ 409600) : ∀ {n : Nat} {ps : List Nat}, ps.length = n → ps ≠ [] → (∀ j ∈ ps, j < a * b) → ∃ x1 x2 y1 y2 : Nat, Span (· % a) ps x1 x2 ∧ Span (· / a) ps y1 y2 ∧ x1 ≤ x2 ∧ x2 < 409600 ∧ y1 ≤ y2 ∧ y2 < 409600 ∧ bxL a ps = ⟨x1, y1, (x2 : Int) + 1 - x1, (y2 : Int) + 1 - y1⟩ := by
  intro n
  induction n with
  | zero => intro ps h1 h2; exact absurd (List.eq_nil_of_length_eq_zero h1) h2
  | succ n ih =>
    intro ps h1 _ h3
    rcases snoc_cases ps with rfl | ⟨qs, k, rfl⟩
    · simp at h1
    rw [List.length_append, List.length_singleton] at h1
    have hk : k < a * b := h3 k (List.mem_append_right _ (List.mem_singleton.2 rfl))
    have hm : k % a ≤ k := Nat.mod_le _ _
    have hd : k / a ≤ k := Nat.div_le_self _ _
    rw [bxL_snoc]
    by_cases hq : qs = []
    · subst hq
      refine ⟨k % a, k % a, k / a, k / a, ⟨fun j hj => ?_, ⟨k, List.mem_singleton.2 rfl, rfl⟩, ⟨k, List.mem_singleton.2 rfl, rfl⟩⟩, ⟨fun j hj => ?_, ⟨k, List.mem_singleton.2 rfl, rfl⟩, ⟨k, List.mem_singleton.2 rfl, rfl⟩⟩, Nat.le_refl _, by omega, Nat.le_refl _, by omega, ?_⟩
      · rw [List.nil_append, List.mem_singleton] at hj; subst hj; exact ⟨Nat.le_refl _, Nat.le_refl _⟩
      · rw [List.nil_append, List.mem_singleton] at hj; subst hj; exact ⟨Nat.le_refl _, Nat.le_refl _⟩
      · have e1 : ((k % a : Nat) : Int) + 1 - ((k % a : Nat) : Int) = 1 := by omega
        have e2 : ((k / a : Nat) : Int) + 1 - ((k / a : Nat) : Int) = 1 := by omega
        rw [e1, e2]; rfl
    · obtain ⟨x1, x2, y1, y2, s1, s2, b1, b2, b3, b4, e⟩ := ih (by omega) hq fun j hj => h3 j (List.mem_append_left _ hj)
      refine ⟨min x1 (k % a), max x2 (k % a), min y1 (k / a), max y2 (k / a), s1.snoc k, s2.snoc k, by omega, by omega, by omega, by omega, ?_⟩
      rw [e]
      have hw : ((x2 : Int) + 1 - (x1 : Int) == 0) = false := beq_eq_false_iff_ne.2 (by omega)
      obtain ⟨g1, g2⟩ := str_nat (p := k % a) b1 b2 (by omega)
      obtain ⟨g3, g4⟩ := str_nat (p := k / a) b3 b4 (by omega)
      unfold bxS
      simp only [hw, cond_false, g1, g2, g3, g4]
theorem inkOf_get {n j : Nat} {ps : List Nat} : (inkOf n ps).getD j 0 = 1 ↔ j < n ∧ j ∈ ps := by
  unfold inkOf
  rw [List.getD_eq_getElem?_getD, List.getElem?_map]
  by_cases h : j < n
  · rw [List.getElem?_range h]
    by_cases q : j ∈ ps <;> simp [h, q]
  · rw [List.getElem?_eq_none (by simp; omega)]; simp [h]
theorem filter_pos {P : Nat → Bool} {n : Nat} : ((((List.range n).filter P).length : Nat) : Int) > 0 ↔ ∃ v, v < n ∧ P v = true := by
  have h : 0 < ((List.range n).filter P).length ↔ ∃ v, v < n ∧ P v = true := by
    rw [List.length_pos_iff_exists_mem]
    constructor
    · rintro ⟨v, hv⟩
      rw [List.mem_filter, List.mem_range] at hv
      exact ⟨v, hv⟩
    · rintro ⟨v, hv⟩
      exact ⟨v, by rw [List.mem_filter, List.mem_range]; exact hv⟩
  rw [← h]; omega
theorem getD_mapR {f : Nat → Int} {n i : Nat} : ((List.range n).map f).getD i 0 = if i < n then f i else 0 := by
  rw [List.getD_eq_getElem?_getD, List.getElem?_map]
  by_cases h : i < n
  · rw [List.getElem?_range h, if_pos h]; rfl
  · rw [List.getElem?_eq_none (by simp; omega), if_neg h]; rfl
theorem cols_pos {a b i : Nat} {ps : List Nat} (hps : ∀ j ∈ ps, j < a * b) : (colsL (inkOf (a * b) ps) a b).getD i 0 > 0 ↔ i < a ∧ ∃ j ∈ ps, j % a = i := by
  unfold colsL
  rw [getD_mapR]
  by_cases h : i < a
  · rw [if_pos h]
    unfold cc
    rw [filter_pos]
    constructor
    · rintro ⟨v, hv, hq⟩
      have := inkOf_get.1 (eq_of_beq hq)
      exact ⟨h, v * a + i, this.2, (at_div (v := v) h).1⟩
    · rintro ⟨_, j, hj, hm⟩
      have hlt := hps j hj
      obtain ⟨_, h1, h2, h3⟩ := div_lt hlt
      refine ⟨j / a, h2, ?_⟩
      have e : j / a * a + i = j := by rw [← hm]; exact h3.symm
      rw [e]
      have := inkOf_get.2 ⟨hlt, hj⟩
      rw [this]; rfl
  · rw [if_neg h]
    exact ⟨fun q => absurd q (by decide), fun q => absurd q.1 h⟩
theorem rows_pos {a b i : Nat} {ps : List Nat} (hps : ∀ j ∈ ps, j < a * b) : (rowsL (inkOf (a * b) ps) a b).getD i 0 > 0 ↔ i < b ∧ ∃ j ∈ ps, j / a = i := by
  unfold rowsL
  rw [getD_mapR]
  by_cases h : i < b
  · rw [if_pos h]
    unfold rc
    rw [filter_pos]
    constructor
    · rintro ⟨v, hv, hq⟩
      have := inkOf_get.1 (eq_of_beq hq)
      exact ⟨h, i * a + v, this.2, (at_div (v := i) hv).2⟩
    · rintro ⟨_, j, hj, hm⟩
      have hlt := hps j hj
      obtain ⟨_, h1, h2, h3⟩ := div_lt hlt
      refine ⟨j % a, h1, ?_⟩
      have e : i * a + j % a = j := by rw [← hm]; exact h3.symm
      rw [e]
      have := inkOf_get.2 ⟨hlt, hj⟩
      rw [this]; rfl
  · rw [if_neg h]
    exact ⟨fun q => absurd q (by decide), fun q => absurd q.1 h⟩
theorem ext_span {p : List Int} {n : Nat} {f : Nat → Nat} {ps : List Nat} (hl : p.length = n) (hne : ps ≠ []) (hf : ∀ j ∈ ps, f j < n) (hp : ∀ i, p.getD i 0 > 0 ↔ i < n ∧ ∃ j ∈ ps, f j = i) : ∃ lo hi : Nat, Span f ps lo hi ∧ lo ≤ hi ∧ extL p = ((lo : Int), (hi : Int) + 1 - lo) := by
  obtain ⟨j0, hj0⟩ := List.exists_mem_of_ne_nil ps hne
  unfold extL
  rw [hl]
  rcases ext_char p n with ⟨h, _⟩ | ⟨lo, hi, h1, h2, h3, h4, h5, h6, h7⟩
  · exact absurd ((hp (f j0)).2 ⟨hf j0 hj0, j0, hj0, rfl⟩) (h _ (hf j0 hj0))
  · refine ⟨lo, hi, ⟨fun k hk => ?_, ?_, ?_⟩, h1, h7⟩
    · have hk1 := (hp (f k)).2 ⟨hf k hk, k, hk, rfl⟩
      refine ⟨Nat.le_of_not_lt fun q => h5 _ q hk1, Nat.le_of_not_lt fun q => h6 _ q (hf k hk) hk1⟩
    · obtain ⟨_, j, hj, e⟩ := (hp lo).1 h3; exact ⟨j, hj, e⟩
    · obtain ⟨_, j, hj, e⟩ := (hp hi).1 h4; exact ⟨j, hj, e⟩
/-- Both boxes are the same. -/
theorem boxR_eq {a b : Nat} (hab : a * b ≤ 409600) {ps : List Nat} (hne : ps ≠ []) (hps : ∀ j ∈ ps, j < a * b) : boxR (inkOf (a * b) ps) a b = bxL a ps := by
  obtain ⟨x1, x2, y1, y2, s1, s2, b1, b2, b3, b4, e⟩ := bxL_span hab rfl hne hps
  obtain ⟨u1, u2, t1, _, e1⟩ := ext_span (p := colsL (inkOf (a * b) ps) a b) (n := a) (f := (· % a)) (by simp [colsL]) hne (fun j hj => (div_lt (hps j hj)).2.1) fun i => cols_pos hps
  obtain ⟨v1, v2, t2, _, e2⟩ := ext_span (p := rowsL (inkOf (a * b) ps) a b) (n := b) (f := (· / a)) (by simp [rowsL]) hne (fun j hj => (div_lt (hps j hj)).2.2.1) fun i => rows_pos hps
  obtain ⟨rfl, rfl⟩ := s1.unique t1
  obtain ⟨rfl, rfl⟩ := s2.unique t2
  unfold boxR
  rw [e, e1, e2]
end Go.Am

/- Append to an empty slice that the call has made. -/
set_option maxHeartbeats 4000000
namespace Go.Am
open Go
end Go.Am

set_option maxHeartbeats 8000000
set_option maxRecDepth 100000
set_option synthInstance.maxHeartbeats 4000000
set_option synthInstance.maxSize 1000000000
namespace Go.Am
open Go
attribute [local irreducible] Wp WpO WpX WpE

theorem cellsK_length (a : Nat) (l : List Nat) : (cellsK a l).length = l.length * 2 := by
 induction l with
 | nil => rfl
 | cons k l ih => simp only [cellsK, List.flatMap_cons, List.length_append, List.length_cons, List.length_nil] at ih ⊢; omega
theorem cellsK_at {a : Nat} {l : List Nat} {i : Nat} (h : i < l.length) : ((cellsK a l).drop (i * 2)).take 2 = [.int .i64 ((l[i] % a : Nat) : Int), .int .i64 ((l[i] / a : Nat) : Int)] := by
 induction l generalizing i with
 | nil => simp at h
 | cons k l ih =>
  cases i with
  | zero => simp [cellsK]
  | succ i =>
   have : (cellsK a (k :: l)).drop ((i + 1) * 2) = (cellsK a l).drop (i * 2) := by
    rw [show (i + 1) * 2 = 2 + i * 2 by omega, ← List.drop_drop]
    simp [cellsK]
   rw [this]
   simpa using ih (by simpa using h)
theorem cellsC_all {C : List (Bx × AVal)} {k : Nat} {c : Bx × AVal} (h : C[k]? = some c) : ((cellsC C).drop (k * 5)).take 5 = c.1.cells ++ [c.2] := by
 obtain ⟨r, hr⟩ := cellsC_drop C k c h
 rw [hr]; rfl
class Few6 (n : Nat) : Prop where
 le : n ≤ 409600
/-- A list of components that may be read: their pixels are P. -/
structure CL (H : AHeap) (q : AVal) (a : Nat) (C : List (Bx × AVal)) (P : List (List Nat)) : Prop where
 row : SliceAt H q 5 C.length (cellsC C)
 len : C.length = P.length
 it : ∀ (k : Nat) c l, C[k]? = some c → P[k]? = some l → c.1 = bxL a l ∧ SliceAt H c.2 2 l.length (cellsK a l)
 few : P.length ≤ 409600 ∧ ∀ l ∈ P, l.length ≤ 409600
theorem CL.ext {H H' : AHeap} {q : AVal} {a : Nat} {C : List (Bx × AVal)} {P : List (List Nat)} (h : CL H q a C P) (x : Ext H H') : CL H' q a C P := by
 haveI : ExtI H H' := ⟨x⟩
 haveI := h.row
 exact ⟨inferInstance, h.len, fun k c l h1 h2 => by
  obtain ⟨h3, h4⟩ := h.it k c l h1 h2
  exact ⟨h3, inferInstance⟩, h.few⟩
theorem CL.at {H : AHeap} {q : AVal} {a : Nat} {C : List (Bx × AVal)} {P : List (List Nat)} (h : CL H q a C P) {k : Nat} (hk : k < P.length) : ∃ p, C[k]? = some (bxL a P[k], p) ∧ SliceAt H p 2 P[k].length (cellsK a P[k]) ∧ P[k].length ≤ 409600 := by
 have hC : k < C.length := by rw [h.len]; exact hk
 obtain ⟨h1, h2⟩ := h.it k C[k] P[k] (List.getElem?_eq_getElem hC) (List.getElem?_eq_getElem hk)
 refine ⟨C[k].2, ?_, h2, h.few.2 _ (List.getElem_mem _)⟩
 rw [List.getElem?_eq_getElem hC, ← h1]
end Go.Am

/- Components of both sides as one list; an image whose small components are cleared. -/
set_option maxHeartbeats 4000000
namespace Go.Am
open Go
section
variable {l : List UInt8} {a b : Nat} {e : Bool} {M L N : List Nat}
/-- The pixels of the components, as the reference's numbers tell. -/
def pcs (l : List UInt8) (N : List Nat) (n : Nat) : List (List Nat) := (fls l N n).map fun m => pxr l N m n
theorem pxAll_fls (h : Lab l a b e M L (a * b)) (hld : ∀ i, i < a * b → l.getD i 0 = 1 → Lead l a b e i (N.getD i 0)) : pxAll M L.length (a * b) = pcs l N (a * b) := by
  unfold pcs
  rw [← fls_eq h hld]
  apply List.ext_getElem?
  intro k
  rw [List.getElem?_map]
  by_cases hk : k < L.length
  · rw [pxAll_at hk, List.getElem?_eq_getElem hk, Option.map_some, ← pxs_eq h hld (List.getElem?_eq_getElem hk)]
  · rw [List.getElem?_eq_none (by rw [pxAll_length]; omega), List.getElem?_eq_none (by omega)]; rfl
theorem CmpsR.cl {K H : AHeap} {q : AVal} {C : List (Bx × AVal)} (h : CmpsR K H q l a b e M L C) (hab : a * b ≤ 409600) : CL H q a C (pxAll M L.length (a * b)) := by
  have hfew := h.lab.few
  refine ⟨h.cmps.row, by rw [pxAll_length, h.num], fun k c ps h1 h2 => ⟨?_, (h.cmps.own k c ps h1 h2).sl⟩, by rw [pxAll_length]; omega, fun ps hps => ?_⟩
  · have hk : k < L.length := by
      rw [← h.num]
      rcases Nat.lt_or_ge k C.length with q | q
      · exact q
      · rw [List.getElem?_eq_none q] at h1; cases h1
    rw [pxAll_at hk] at h2
    rw [← Option.some.inj h2]
    exact h.box k c h1
  · obtain ⟨k, hk, rfl⟩ := List.mem_map.1 hps
    have := pxs_le M (a * b) k
    omega
theorem RefC.cl {K H : AHeap} {v : AVal} {C : List (Bx × AVal)} (h : RefC K H l N a b (a * b) v C) (hld : ∀ i, i < a * b → l.getD i 0 = 1 → Lead l a b e i (N.getD i 0)) (hab : a * b ≤ 409600) : CL H v a C (pcs l N (a * b)) := by
  have hfew := fls_le l N (a * b)
  unfold pcs
  refine ⟨h.own.sl, by rw [List.length_map, h.num], fun k c ps h1 h2 => ?_, by rw [List.length_map]; omega, fun ps hps => ?_⟩
  · rw [List.getElem?_map] at h2
    obtain ⟨m, hm, rfl⟩ := Option.map_eq_some_iff.1 h2
    obtain ⟨n1, n2⟩ := pxr_ne hld hm
    exact ⟨by rw [h.box k c m h1 hm, boxR_eq hab n1 n2], h.px k c m h1 hm⟩
  · obtain ⟨k, hk, rfl⟩ := List.mem_map.1 hps
    have := pxr_le l N k (a * b)
    omega
end
/-- Some pixels are set to one value. -/
def setPx (v : UInt8) (l : List UInt8) (ps : List Nat) : List UInt8 := ps.foldl (fun l k => l.set k v) l
theorem setPx_snoc (v : UInt8) (l : List UInt8) (ps : List Nat) (k : Nat) : setPx v l (ps ++ [k]) = (setPx v l ps).set k v := by
  unfold setPx
  rw [List.foldl_append]; rfl
theorem setPx_length (v : UInt8) (l : List UInt8) (ps : List Nat) : (setPx v l ps).length = l.length := by
  unfold setPx
  induction ps generalizing l with
  | nil => rfl
  | cons k ps ih => rw [List.foldl_cons, ih, List.length_set]
theorem setPx_get {v : UInt8} {l : List UInt8} {ps : List Nat} {j : Nat} (hj : j < l.length) : (setPx v l ps).getD j 0 = if j ∈ ps then v else l.getD j 0 := by
  unfold setPx
  induction ps generalizing l with
  | nil => simp
  | cons k ps ih =>
    rw [List.foldl_cons, ih (by rw [List.length_set]; exact hj)]
    by_cases h1 : j ∈ ps
    · rw [if_pos h1, if_pos (List.mem_cons_of_mem _ h1)]
    · rw [if_neg h1]
      by_cases h2 : k = j
      · subst h2
        rw [if_pos (List.mem_cons_self), List.getD_eq_getElem?_getD, List.getElem?_set_self hj]; rfl
      · rw [if_neg (by rw [List.mem_cons]; rintro (q | q); exact h2 q.symm; exact h1 q), List.getD_eq_getElem?_getD, List.getElem?_set_ne h2, ← List.getD_eq_getElem?_getD]
theorem take_snoc {α : Type} {l : List α} {i : Nat} {x : α} (h : l[i]? = some x) : l.take (i + 1) = l.take i ++ [x] := by
  rw [List.take_add_one, h]; rfl
/-- The components that a test picks out are set to a value. -/
def spk (v : UInt8) (f : Nat → Bool) (l : List UInt8) (P : List (List Nat)) : List UInt8 := P.foldl (fun l ps => bif f ps.length then setPx v l ps else l) l
theorem spk_snoc (v : UInt8) (f : Nat → Bool) (l : List UInt8) (P : List (List Nat)) (ps : List Nat) : spk v f l (P ++ [ps]) = bif f ps.length then setPx v (spk v f l P) ps else spk v f l P := by
  unfold spk
  rw [List.foldl_append]; rfl
theorem spk_length (v : UInt8) (f : Nat → Bool) (l : List UInt8) (P : List (List Nat)) : (spk v f l P).length = l.length := by
  unfold spk
  induction P generalizing l with
  | nil => rfl
  | cons ps P ih =>
    rw [List.foldl_cons, ih]
    cases f ps.length
    · rfl
    · exact setPx_length ..
theorem spk_get {v : UInt8} {f : Nat → Bool} {l : List UInt8} {P : List (List Nat)} {j : Nat} (hj : j < l.length) : (spk v f l P).getD j 0 = if ∃ ps ∈ P, j ∈ ps ∧ f ps.length = true then v else l.getD j 0 := by
  unfold spk
  induction P generalizing l with
  | nil => simp
  | cons ps P ih =>
    rw [List.foldl_cons, ih (by cases f ps.length; exact hj; show j < (setPx v l ps).length; rw [setPx_length]; exact hj)]
    by_cases h1 : ∃ ps ∈ P, j ∈ ps ∧ f ps.length = true
    · rw [if_pos h1, if_pos (by obtain ⟨q, h2, h3⟩ := h1; exact ⟨q, List.mem_cons_of_mem _ h2, h3⟩)]
    · rw [if_neg h1]
      cases h2 : f ps.length
      · rw [if_neg (by
          rintro ⟨q, h3, h4, h5⟩
          rcases List.mem_cons.1 h3 with rfl | h3
          · rw [h2] at h5; cases h5
          · exact h1 ⟨q, h3, h4, h5⟩)]; rfl
      · show (setPx v l ps).getD j 0 = _
        rw [setPx_get hj]
        by_cases h3 : j ∈ ps
        · rw [if_pos h3, if_pos ⟨ps, List.mem_cons_self, h3, h2⟩]
        · rw [if_neg h3, if_neg (by
            rintro ⟨q, h4, h5, h6⟩
            rcases List.mem_cons.1 h4 with rfl | h4
            · exact h3 h5
            · exact h1 ⟨q, h4, h5, h6⟩)]
section
variable {l : List UInt8} {a b : Nat} {e : Bool} {N : List Nat}
theorem pcs_mem (hld : ∀ i, i < a * b → l.getD i 0 = 1 → Lead l a b e i (N.getD i 0)) {j : Nat} (hj : j < a * b) (h1 : l.getD j 0 = 1) : pxr l N (N.getD j 0) (a * b) ∈ pcs l N (a * b) := by
  unfold pcs
  refine List.mem_map.2 ⟨N.getD j 0, ?_, rfl⟩
  have h2 := hld j hj h1
  have h3 := h2.1.end_ok
  have h4 := hld _ h3.1 h3.2
  have h5 := (h2.same h2.1).unique h4
  unfold fls
  rw [List.mem_filter, List.mem_range, Bool.and_eq_true, beq_iff_eq, beq_iff_eq]
  exact ⟨h3.1, h3.2, h5.symm⟩
theorem pcs_of {j : Nat} {ps : List Nat} (h : ps ∈ pcs l N (a * b)) (hj : j ∈ ps) : l.getD j 0 = 1 ∧ ps = pxr l N (N.getD j 0) (a * b) := by
  obtain ⟨m, _, rfl⟩ := List.mem_map.1 h
  have h2 := hj
  unfold pxr at h2
  rw [List.mem_filter, Bool.and_eq_true, beq_iff_eq, beq_iff_eq] at h2
  exact ⟨h2.2.1, by rw [h2.2.2]⟩
theorem pxAll_lt {M ps : List Nat} {m n j : Nat} (h : ps ∈ pxAll M m n) (hj : j ∈ ps) : j < n := by
  obtain ⟨m, _, rfl⟩ := List.mem_map.1 h
  unfold pxs at hj
  exact List.mem_range.1 (List.mem_filter.1 hj).1
end
end Go.Am

set_option maxHeartbeats 4000000
set_option maxRecDepth 100000
namespace Go.Am
open Go
attribute [local irreducible] Wp WpO WpX WpE

/-- All ink of an image is ink of another one. -/
def inkIn (l m : List UInt8) : Bool := ((List.zipWith (fun a b => a &&& ~~~b) l m).count 1 : Nat) == 0
theorem less01 (x y : UInt8) (h : x = 0 ∨ x = 1) (k : y = 0 ∨ y = 1) : x &&& ~~~y = 0 ∨ x &&& ~~~y = 1 := by rcases h with rfl | rfl <;> rcases k with rfl | rfl <;> decide
class OkI (a b : outParam Nat) (l : List UInt8) : Prop where
 ok : Ok a b l
theorem K_lessV {p q : AVal} {H : AHeap} {a b : Nat} {l m : List UInt8} [hp : BytesI H p l] [hq : BytesI H q m] (h : Ok a b l) (k : Ok a b m) : Con ext prog 5 87 [.agg [.int .i64 a, .int .i64 b, p], .agg [.int .i64 a, .int .i64 b, q]] H fun v H' => InkRes H H' v (⟨a, b, List.zipWith (fun a b => a &&& ~~~b) l m⟩, 0) := by
 rw [← combOk (op := fun a b => a &&& ~~~b) h k]; exact K_Less
theorem K_within {p q : AVal} {H : AHeap} {a b : Nat} {l m : List UInt8} [hp : BytesI H p l] [hq : BytesI H q m] (h : Ok a b l) (k : Ok a b m) : Con ext prog 6 88 [.agg [.int .i64 a, .int .i64 b, p], .agg [.int .i64 a, .int .i64 b, q]] H fun v H' => v = .bool (inkIn l m) ∧ Ext H H' := by
 refine con_of (show prog 88 = some c88 from rfl) rfl rfl fun n hn => ?_
 haveI := hp.one
 haveI := hq.one
 have hz := ok_zip h k less01
 unfold inkIn
 refine sq ?_
 refine rg fun KF hKF => ?_
 refine Fo.boxA rfl ?_
 refine Fo.boxA rfl ?_
 refine mB rfl ?_
 refine WpO.nil (hKF _ _ ?_)
 refine sq ?_
 refine rg fun KF hKF => ?_
 refine Fo.ldN rfl rfl (by simp only [↓nrmL, nrmZ, Nat.reduceEqDiff, ↓reduceIte, Nat.reduceAdd, Int.reduceBEq, Int.reduceBNe]; rfl) ?_
 refine Fo.ldN rfl rfl (by simp only [↓nrmL, nrmZ, Nat.reduceEqDiff, ↓reduceIte, Nat.reduceAdd, Int.reduceBEq, Int.reduceBNe]; rfl) ?_
 refine WpO.do (WpX.conD hn rfl rfl (by simp only [↓nrmL, nrmZ, Nat.reduceEqDiff, ↓reduceIte, Nat.reduceAdd, Int.reduceBEq, Int.reduceBNe, List.map] <;> rfl) (K_lessV h k) fun v H1 h5 => ?_)
 obtain ⟨u, e1, c, e2, hc, hfc, hwc, hxc⟩ := h5
 subst e1 e2
 try dsimp only at hc
 haveI : ExtI _ H1 := ⟨hxc⟩
 haveI := hc.one
 try simp only [↓nrmL, nrmZ, Nat.reduceEqDiff, ↓reduceIte, Nat.reduceAdd, Int.reduceBEq, Int.reduceBNe, hz.err, beq_self_eq_true, cond_true]
 refine mT rfl ?_
 refine Fo.extr rfl rfl ?_
 refine Fo.extr rfl rfl ?_
 refine Fo.new ?_
 refine Fo.st rfl (rfl : _ = AVal.agg _) rfl rfl rfl (by repeat (first | rfl | refine allOne_cons ?_)) (by simp only [↓nrmL, nrmZ, Nat.reduceEqDiff, ↓reduceIte, Nat.reduceAdd, Int.reduceBEq, Int.reduceBNe, hz.err, beq_self_eq_true, cond_true]; rfl) ?_
 refine mI rfl ?_
 refine WpO.nil (hKF _ _ ?_)
 refine sq ?_
 refine rg fun KF hKF => ?_
 refine Fo.ldN rfl rfl (by simp only [↓nrmL, nrmZ, Nat.reduceEqDiff, ↓reduceIte, Nat.reduceAdd, Int.reduceBEq, Int.reduceBNe, hz.err, beq_self_eq_true, cond_true]; rfl) ?_
 refine Fo.pcall (v' := ?_) hn rfl (by simp only [↓nrmL, nrmZ, Nat.reduceEqDiff, ↓reduceIte, Nat.reduceAdd, Int.reduceBEq, Int.reduceBNe, hz.err, beq_self_eq_true, cond_true, List.map]; rfl) rfl ?hv fun _ _ => ?_; case hv => (simp only [↓nrmL, nrmZ, Nat.reduceEqDiff, ↓reduceIte, Nat.reduceAdd, Int.reduceBEq, Int.reduceBNe, hz.err, beq_self_eq_true, cond_true]; rfl)
 refine mT rfl ?_
 refine Fo.extr rfl rfl ?_
 refine Fo.extr rfl rfl ?_
 refine mI rfl ?_
 refine mI rfl ?_
 refine WpO.nil (hKF _ _ ?_)
 refine sq ?_
 refine rg fun KF hKF => ?_
 refine mI rfl ?_
 refine Fo.bin rfl rfl rfl (by simp only [↓nrmL, nrmZ, Nat.reduceEqDiff, ↓reduceIte, Nat.reduceAdd, Int.reduceBEq, Int.reduceBNe, hz.err, beq_self_eq_true, cond_true]; rfl) ?_
 refine mB rfl ?_
 refine Fo.yes rfl rfl ?_
 refine mI rfl ?_
 refine Fo.yes rfl rfl ?_
 refine Fo.bin rfl rfl rfl (by simp only [↓nrmL, nrmZ, Nat.reduceEqDiff, ↓reduceIte, Nat.reduceAdd, Int.reduceBEq, Int.reduceBNe, hz.err, beq_self_eq_true, cond_true]; rfl) ?_
 refine tB rfl rfl ?_
 refine mB rfl ?_
 refine Fo.yes rfl rfl ?_
 refine mI rfl ?_
 refine Fo.yes rfl rfl ?_
 refine Fo.bin rfl rfl rfl rfl ?_
 refine tB rfl rfl ?_
 refine mB rfl ?_
 refine WpO.nil (hKF _ _ ?_)
 refine Wp.ret ?_
 dsimp only [cond_true, cond_false]
 cases h0 : (((List.zipWith (fun a b => a &&& ~~~b) l m).count 1 : Nat) == 0)
 ·have h1 : ((((List.zipWith (fun a b => a &&& ~~~b) l m).count 1 : Nat) : Int) == 0) = false := by simp at h0 ⊢; omega
  try simp only [↓nrmL, nrmZ, Nat.reduceEqDiff, ↓reduceIte, Nat.reduceAdd, Int.reduceBEq, Int.reduceBNe, hz.err, beq_self_eq_true, cond_true, h1]
  refine ⟨trivial, _, (by first | rfl | exact getAllC rfl rfl rfl rfl | exact getAllT rfl (getAllC rfl rfl rfl rfl) | exact getAllC rfl rfl rfl (getAllC rfl rfl rfl rfl) | exact getAllC1 rfl rfl rfl), ?_⟩
  exact ⟨rfl, Ext0.ext⟩
 ·have h1 : ((((List.zipWith (fun a b => a &&& ~~~b) l m).count 1 : Nat) : Int) == 0) = true := by simp at h0 ⊢; omega
  try simp only [↓nrmL, nrmZ, Nat.reduceEqDiff, ↓reduceIte, Nat.reduceAdd, Int.reduceBEq, Int.reduceBNe, hz.err, beq_self_eq_true, cond_true, h1]
  refine ⟨trivial, _, (by first | rfl | exact getAllC rfl rfl rfl rfl | exact getAllT rfl (getAllC rfl rfl rfl rfl) | exact getAllC rfl rfl rfl (getAllC rfl rfl rfl rfl) | exact getAllC1 rfl rfl rfl), ?_⟩
  exact ⟨rfl, Ext0.ext⟩

end Go.Am

/- Despeckle leaves whole components alone. -/
set_option maxHeartbeats 4000000
namespace Go.Am
open Go
section
variable {l : List UInt8} {a b : Nat} {N : List Nat} {f : Nat → Bool}
/-- Numbers that tell the first pixel of each component. -/
theorem lead_list (l : List UInt8) (a b : Nat) (e : Bool) : ∃ N : List Nat, ∀ i, i < a * b → l.getD i 0 = 1 → Lead l a b e i (N.getD i 0) := by
  classical
  refine ⟨(List.range (a * b)).map (fun i => if h : ∃ m, Lead l a b e i m then h.choose else 0), fun i hi h1 => ?_⟩
  have h := lead_exists (e := e) hi h1
  rw [List.getD_eq_getElem?_getD, List.getElem?_map, List.getElem?_range hi]
  show Lead l a b e i (if h : ∃ m, Lead l a b e i m then h.choose else 0)
  rw [dif_pos h]
  exact h.choose_spec
theorem spk_ink {e : Bool} (hl : l.length = a * b) (hld : ∀ i, i < a * b → l.getD i 0 = 1 → Lead l a b e i (N.getD i 0)) (f : Nat → Bool) (j : Nat) : (spk 0 f l (pcs l N (a * b))).getD j 0 = 1 ↔ l.getD j 0 = 1 ∧ f (pxr l N (N.getD j 0) (a * b)).length = false := by
  by_cases hj : j < l.length
  · rw [spk_get hj]
    constructor
    · intro h
      by_cases q : ∃ ps ∈ pcs l N (a * b), j ∈ ps ∧ f ps.length = true
      · rw [if_pos q] at h; cases h
      · rw [if_neg q] at h
        refine ⟨h, ?_⟩
        cases hf : f (pxr l N (N.getD j 0) (a * b)).length
        · rfl
        · refine absurd ⟨_, pcs_mem hld (by omega) h, ?_, hf⟩ q
          unfold pxr
          rw [List.mem_filter, List.mem_range, Bool.and_eq_true, beq_iff_eq, beq_iff_eq]
          exact ⟨by omega, h, rfl⟩
    · rintro ⟨h1, h2⟩
      rw [if_neg (by
        rintro ⟨ps, g1, g2, g3⟩
        rw [(pcs_of g1 g2).2, h2] at g3; cases g3)]
      exact h1
  · have e1 : (spk 0 f l (pcs l N (a * b))).getD j 0 = 0 := by
      rw [List.getD_eq_getElem?_getD, List.getElem?_eq_none (by rw [spk_length]; omega)]; rfl
    have e2 : l.getD j 0 = 0 := by
      rw [List.getD_eq_getElem?_getD, List.getElem?_eq_none (by omega)]; rfl
    rw [e1, e2]
    constructor
    · intro h; cases h
    · rintro ⟨h, _⟩; cases h
theorem reach_sub {x : List UInt8} {e : Bool} (h : ∀ j, x.getD j 0 = 1 → l.getD j 0 = 1) {i j : Nat} (g : Reach x a b e i j) : Reach l a b e i j := by
  induction g with
  | refl h1 h2 => exact .refl h1 (h _ h2)
  | step _ h2 h3 ih => exact ih.step h2 (h _ h3)
theorem spk_lead {e : Bool} (hl : l.length = a * b) (hld : ∀ i, i < a * b → l.getD i 0 = 1 → Lead l a b e i (N.getD i 0)) (f : Nat → Bool) : ∀ i, i < a * b → (spk 0 f l (pcs l N (a * b))).getD i 0 = 1 → Lead (spk 0 f l (pcs l N (a * b))) a b e i (N.getD i 0) := by
  intro i hi h1
  have hink := spk_ink (e := e) hl hld f
  obtain ⟨g1, g2⟩ := (hink i).1 h1
  have h2 := hld i hi g1
  have hback : ∀ j, Reach l a b e i j → Reach (spk 0 f l (pcs l N (a * b))) a b e i j := by
    intro j hj
    induction hj with
    | refl q1 q2 => exact .refl q1 h1
    | @step j k q1 q2 q3 ih =>
      refine ih.step q2 ((hink k).2 ⟨q3, ?_⟩)
      have h3 := h2.same (q1.step q2 q3)
      have h4 := (hld k q2.lt q3).unique h3
      rw [h4]; exact g2
  exact ⟨hback _ h2.1, fun j hj => h2.2 j (reach_sub (fun k hk => ((hink k).1 hk).1) hj)⟩
theorem filter_map' {α β : Type} (g : α → β) (p : β → Bool) (L : List α) : (L.map g).filter p = (L.filter (fun x => p (g x))).map g := by
  induction L with
  | nil => rfl
  | cons x L ih =>
    rw [List.map_cons, List.filter_cons, List.filter_cons]
    cases p (g x)
    · exact ih
    · show g x :: (L.map g).filter p = g x :: _
      rw [ih]
theorem spk_pcs {e : Bool} (hl : l.length = a * b) (hld : ∀ i, i < a * b → l.getD i 0 = 1 → Lead l a b e i (N.getD i 0)) (f : Nat → Bool) : pcs (spk 0 f l (pcs l N (a * b))) N (a * b) = (pcs l N (a * b)).filter fun ps => !f ps.length := by
  have hink := spk_ink (e := e) hl hld f
  generalize hx : spk 0 f l (pcs l N (a * b)) = x at hink
  unfold pcs
  rw [filter_map']
  have h1 : fls x N (a * b) = (fls l N (a * b)).filter fun m => !f (pxr l N m (a * b)).length := by
    unfold fls
    rw [List.filter_filter]
    apply List.filter_congr
    intro m _
    rw [Bool.eq_iff_iff, Bool.and_eq_true, beq_iff_eq, beq_iff_eq, Bool.and_eq_true, Bool.and_eq_true, beq_iff_eq, beq_iff_eq, hink m, Bool.not_eq_true']
    constructor
    · rintro ⟨⟨q1, q2⟩, q3⟩
      rw [q3] at q2
      exact ⟨q2, q1, q3⟩
    · rintro ⟨q2, q1, q3⟩
      exact ⟨⟨q1, by rw [q3]; exact q2⟩, q3⟩
  rw [h1]
  apply List.map_congr_left
  intro m hm
  have hm := (List.mem_filter.1 hm).2
  rw [Bool.not_eq_true'] at hm
  unfold pxr at hm ⊢
  apply List.filter_congr
  intro j _
  rw [Bool.eq_iff_iff, Bool.and_eq_true, beq_iff_eq, beq_iff_eq, Bool.and_eq_true, beq_iff_eq, beq_iff_eq, hink j]
  constructor
  · rintro ⟨⟨q1, _⟩, q2⟩; exact ⟨q1, q2⟩
  · rintro ⟨q1, q2⟩
    refine ⟨⟨q1, ?_⟩, q2⟩
    rw [q2]; exact hm
theorem spk_none {v : UInt8} {x : List UInt8} {P : List (List Nat)} (h : ∀ ps ∈ P, f ps.length = false) : spk v f x P = x := by
  unfold spk
  induction P with
  | nil => rfl
  | cons ps P ih =>
    rw [List.foldl_cons, h ps (List.mem_cons_self)]
    exact ih fun q hq => h q (List.mem_cons_of_mem _ hq)
theorem ok_spk {P : List (List Nat)} (ok : Ok a b l) : Ok a b (spk 0 f l P) := by
  refine ⟨ok.wa, ok.hb, by rw [spk_length]; exact ok.len, ?_⟩
  unfold pxOk
  rw [List.all_eq_true]
  intro y hy
  obtain ⟨j, hj, rfl⟩ := List.getElem_of_mem hy
  have hjl : j < l.length := by rw [spk_length] at hj; exact hj
  have h1 := spk_get (v := 0) (f := f) (P := P) hjl
  rw [List.getD_eq_getElem?_getD, List.getElem?_eq_getElem hj, Option.getD_some] at h1
  rw [h1]
  split
  · rfl
  · rw [List.getD_eq_getElem?_getD, List.getElem?_eq_getElem hjl, Option.getD_some]
    exact List.all_eq_true.1 ok.px _ (List.getElem_mem _)
theorem inkIn_of {x : List UInt8} (hx : pxOk x = true) (hl : pxOk l = true) (h : ∀ j, x.getD j 0 = 1 → l.getD j 0 = 1) : inkIn x l = true := by
  unfold inkIn
  rw [beq_iff_eq, List.count_eq_zero]
  intro hm
  obtain ⟨j, hj, e⟩ := List.getElem_of_mem hm
  rw [List.length_zipWith] at hj
  rw [List.getElem_zipWith] at e
  have h1 : j < x.length := by omega
  have h2 : j < l.length := by omega
  have e1 : x.getD j 0 = x[j] := by rw [List.getD_eq_getElem?_getD, List.getElem?_eq_getElem h1]; rfl
  have e2 : l.getD j 0 = l[j] := by rw [List.getD_eq_getElem?_getD, List.getElem?_eq_getElem h2]; rfl
  have hxj := List.all_eq_true.1 hx x[j] (List.getElem_mem _)
  have hlj := List.all_eq_true.1 hl l[j] (List.getElem_mem _)
  have h3 := h j
  rw [e1, e2] at h3
  simp only [Bool.or_eq_true, beq_iff_eq] at hxj hlj
  rcases hxj with q | q
  · rw [q] at e
    rcases hlj with q2 | q2 <;> rw [q2] at e <;> revert e <;> decide
  · rw [q, h3 q] at e; revert e; decide
end
end Go.Am

set_option maxHeartbeats 8000000
set_option maxRecDepth 100000
set_option synthInstance.maxHeartbeats 4000000
set_option synthInstance.maxSize 1000000000
namespace Go.Am
open Go
attribute [local irreducible] Wp WpO WpX WpE

theorem K_SpeckC {x y w h t : Int} {p : AVal} {H : AHeap} {m r : Nat} {cs : List AVal} [hp : SliceAt H p 2 m cs] [hr : HasRow H r [.int .i64 t] true (2 * 3)] (hf : decide (((m : Nat) : Int) < t) = false) : PureCon ext prog 91 [.agg [.int .i64 x, .int .i64 y, .int .i64 w, .int .i64 h, p], .ptr r 0] H 1 (.bool false) := ⟨by
 refine con_of (show prog 91 = some c91 from rfl) rfl rfl fun n hn => ?_
 haveI := hp.one
 try simp only [↓nrmL, nrmZ, Nat.reduceEqDiff, ↓reduceIte, Nat.reduceAdd, Int.reduceBEq, Int.reduceBNe, hf]
 refine sq ?_
 refine rg fun KF hKF => ?_
 refine Fo.boxA rfl ?_
 refine mB rfl ?_
 refine WpO.nil (hKF _ _ ?_)
 refine sq ?_
 refine rg fun KF hKF => ?_
 refine Fo.fa rfl ?_
 refine Fo.ld rfl rfl ?_
 refine Fo.len (v := ?_) (by simp only [↓nrmL, nrmK, Nat.reduceEqDiff, ↓reduceIte]; rfl) ?hv ?_; case hv => rfl
 refine Fo.ld rfl rfl ?_
 refine Fo.bin rfl rfl rfl (by simp only [↓nrmL, nrmZ, Nat.reduceEqDiff, ↓reduceIte, Nat.reduceAdd, Int.reduceBEq, Int.reduceBNe, hf]; rfl) ?_
 refine mB rfl ?_
 refine WpO.nil (hKF _ _ ?_)
 refine Wp.ret ?_
 dsimp only [cond_true, cond_false]
 refine ⟨trivial, _, (by first | rfl | exact getAllC rfl rfl rfl rfl | exact getAllT rfl (getAllC rfl rfl rfl rfl) | exact getAllC rfl rfl rfl (getAllC rfl rfl rfl rfl) | exact getAllC1 rfl rfl rfl), ?_⟩
 exact ⟨rfl, Ext0.ext⟩⟩
theorem K_IndexSpeck {a r : Nat} {t : Int} {P : List (List Nat)} {C : List (Bx × AVal)} {q : AVal} {H : AHeap} (h1 : CL H q a C P) [hr : HasRow H r [.int .i64 t] true (2 * 3)] (hall : ∀ ps ∈ P, decide (((ps.length : Nat) : Int) < t) = false) : PureCon ext prog 151 [q, .func (.func 91) [] [.ptr r 0]] H 3 (.int .i64 (-1)) := ⟨by
 refine con_of (show prog 151 = some c151 from rfl) rfl rfl fun n hn => ?_
 haveI r1 := h1.row
 haveI := r1.one
 have l1 := h1.len
 have hf := h1.few.1
 refine sq ?_
 refine rg fun KF hKF => ?_
 refine mI rfl ?_
 refine WpO.nil (hKF _ _ ?_)
 refine sq ?_
 refine sq ?_
 refine rg fun KF hKF => ?_
 refine Fo.mov (by simp only [↓nrmL, nrmK, Nat.reduceEqDiff, ↓reduceIte]; rfl) ?_
 refine Fo.len (v := ?_) (by simp only [↓nrmL, nrmK, Nat.reduceEqDiff, ↓reduceIte]; rfl) ?hv ?_; case hv => rfl
 refine mI rfl ?_
 refine WpO.nil (hKF _ _ ?_)
 refine Wp.block ?_
 dsimp only [cond_true, cond_false]
 refine Wp.loopS [4, 5, 8, 9, 10, 11, 12, 13, 14, 15, 16, 17, 18] (fun i : Nat => [(8, .int .i64 (i : Int))]) (fun _ i H2 => i ≤ P.length ∧ Ext0 H H2) (fun i => P.length - i) 0 rfl (fun _ => rfl) ⟨rfl, trivial⟩ ⟨Nat.zero_le _, inferInstance⟩ (by unfold fuel0 at hn; omega) ?_
 rintro i g H2 ⟨hi, ⟨hx⟩⟩
 haveI : ExtI H H2 := ⟨hx⟩
 simp only [↓nrmL, nrmZ, Nat.reduceEqDiff, ↓reduceIte, Nat.reduceAdd, Int.reduceBEq, Int.reduceBNe]
 cases hc : decide ((i : Int) < ((C.length : Nat) : Int))
 ·skip
  try simp only [↓nrmL, nrmZ, Nat.reduceEqDiff, ↓reduceIte, Nat.reduceAdd, Int.reduceBEq, Int.reduceBNe, hc]
  refine sq ?_
  refine rg fun KF hKF => ?_
  refine Fo.bin rfl rfl rfl (by simp only [↓nrmL, nrmZ, Nat.reduceEqDiff, ↓reduceIte, Nat.reduceAdd, Int.reduceBEq, Int.reduceBNe, hc]; rfl) ?_
  refine WpO.nil (hKF _ _ ?_)
  refine sq ?_
  refine Wp.cond (b := false) rfl ?_
  refine Wp.exit ?_
  refine sq ?_
  refine rg fun KF hKF => ?_
  refine mI rfl ?_
  refine WpO.nil (hKF _ _ ?_)
  refine Wp.ret ?_
  dsimp only [cond_true, cond_false]
  refine ⟨trivial, _, (by first | rfl | exact getAllC rfl rfl rfl rfl | exact getAllT rfl (getAllC rfl rfl rfl rfl) | exact getAllC rfl rfl rfl (getAllC rfl rfl rfl rfl) | exact getAllC1 rfl rfl rfl), ?_⟩
  exact ⟨rfl, Ext0.ext⟩
 have hil : i < P.length := by have := of_decide_eq_true hc; omega
 have hw := wa1 (a := i) (by omega)
 obtain ⟨p1, e1, s1, f1⟩ := (h1.ext hx).at hil
 have g1 := cellsC_all e1
 dsimp only at g1
 haveI := s1.one
 have k1 := cellsC_length C
 have hno := hall P[i] (List.getElem_mem _)
 generalize bxL a P[i] = bx at g1
 obtain ⟨x, y, w, h⟩ := bx
 unfold Bx.cells at g1
 simp only [List.cons_append, List.nil_append] at g1
 try simp only [↓nrmL, nrmZ, Nat.reduceEqDiff, ↓reduceIte, Nat.reduceAdd, Int.reduceBEq, Int.reduceBNe, hc]
 refine sq ?_
 refine rg fun KF hKF => ?_
 refine Fo.bin rfl rfl rfl (by simp only [↓nrmL, nrmZ, Nat.reduceEqDiff, ↓reduceIte, Nat.reduceAdd, Int.reduceBEq, Int.reduceBNe, hc]; rfl) ?_
 refine WpO.nil (hKF _ _ ?_)
 refine sq ?_
 refine Wp.cond (b := true) rfl ?_
 refine Wp.skip ?_
 refine sq ?_
 refine Wp.block ?_
 refine sq ?_
 refine rg fun KF hKF => ?_
 refine mI rfl ?_
 refine mI rfl ?_
 refine WpO.nil (hKF _ _ ?_)
 refine sq ?_
 refine rg fun KF hKF => ?_
 refine mF rfl ?_
 refine Fo.mov (by simp only [↓nrmL, nrmK, Nat.reduceEqDiff, ↓reduceIte]; rfl) ?_
 refine mI rfl ?_
 refine Fo.idx (by simp only [↓nrmL, nrmK, Nat.reduceEqDiff, ↓reduceIte]; rfl) rfl ?_ (by simp only [↓nrmL, nrmZ, Nat.reduceEqDiff, ↓reduceIte, Nat.reduceAdd, Int.reduceBEq, Int.reduceBNe, hc]; rfl) ?_; (focus omega)
 refine Fo.now rfl (exec_ldNP (p := q) (j := i * 5) rfl (by decide) (by omega) g1) rfl ?_
 skip
 refine WpO.do (WpX.pcallC (d := 1) (args := [.agg [.int .i64 x, .int .i64 y, .int .i64 w, .int .i64 h, p1], .ptr r 0]) (hc := K_SpeckC hno) hn rfl (by simp only [↓nrmL, nrmZ, Nat.reduceEqDiff, ↓reduceIte, Nat.reduceAdd, Int.reduceBEq, Int.reduceBNe, List.map] <;> rfl) rfl fun H4 hx4 => ?_)
 refine WpO.nil (hKF _ _ ?_)
 refine Wp.cond (b := false) rfl ?_
 refine Wp.skip ?_
 refine rg fun KF hKF => ?_
 refine Fo.bin rfl rfl rfl rfl ?_
 refine mI rfl ?_
 refine WpO.nil (hKF _ _ ?_)
 dsimp only [cond_true, cond_false]
 refine ⟨i + 1, by omega, ⟨by simp only [↓nrmL, nrmZ, Nat.reduceEqDiff, ↓reduceIte, Nat.reduceAdd, Int.reduceBEq, Int.reduceBNe]; rw [hw], trivial⟩, hil, inferInstance⟩⟩
theorem K_ContainsSpeck {a r : Nat} {t : Int} {P : List (List Nat)} {C : List (Bx × AVal)} {q : AVal} {H : AHeap} (h1 : CL H q a C P) [hr : HasRow H r [.int .i64 t] true (2 * 3)] (hall : ∀ ps ∈ P, decide (((ps.length : Nat) : Int) < t) = false) : PureCon ext prog 90 [q, .func (.func 91) [] [.ptr r 0]] H 4 (.bool false) := ⟨by
 refine con_of (show prog 90 = some c90 from rfl) rfl rfl fun n hn => ?_
 haveI := h1.row.one
 refine sq ?_
 refine rg fun KF hKF => ?_
 refine mB rfl ?_
 refine WpO.nil (hKF _ _ ?_)
 refine sq ?_
 refine rg fun KF hKF => ?_
 refine Fo.mov (by simp only [↓nrmL, nrmK, Nat.reduceEqDiff, ↓reduceIte]; rfl) ?_
 refine mF rfl ?_
 refine Fo.pcall (hc := K_IndexSpeck h1 hall) hn rfl (by simp only [↓nrmL, nrmZ, Nat.reduceEqDiff, ↓reduceIte, Nat.reduceAdd, Int.reduceBEq, Int.reduceBNe, List.map] <;> rfl) rfl rfl fun H4 hx4 => ?_
 refine Fo.bin rfl rfl rfl rfl ?_
 refine mB rfl ?_
 refine WpO.nil (hKF _ _ ?_)
 refine Wp.ret ?_
 dsimp only [cond_true, cond_false]
 refine ⟨trivial, _, (by first | rfl | exact getAllC rfl rfl rfl rfl | exact getAllT rfl (getAllC rfl rfl rfl rfl) | exact getAllC rfl rfl rfl (getAllC rfl rfl rfl rfl) | exact getAllC1 rfl rfl rfl), ?_⟩
 exact ⟨rfl, Ext0.ext⟩⟩
end Go.Am
