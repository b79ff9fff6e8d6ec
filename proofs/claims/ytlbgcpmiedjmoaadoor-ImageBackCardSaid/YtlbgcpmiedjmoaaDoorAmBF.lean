import Derived.Test.YtlbgcpmiedjmoaaDoorAmBE
set_option linter.unusedSimpArgs false
set_option linter.unusedVariables false
set_option maxHeartbeats 4000000
set_option maxRecDepth 100000
set_option synthInstance.maxHeartbeats 4000000
set_option synthInstance.maxSize 100000
namespace Go.Am
open Go
attribute [local irreducible] Wp WpO WpX WpE

abbrev RunsI (H : AHeap) (p : AVal) (l : List RunT) : Prop := SliceAt H p 3 l.length (cellsR l)
def run0 : RunT := (0, 0, 0)
theorem cellsR_length (l : List RunT) : (cellsR l).length = 3 * l.length := by
 induction l with
 | nil => rfl
 | cons r l ih => simp only [cellsR, List.flatMap_cons, List.length_append, List.length_cons, List.length_nil] at *; omega
theorem cellsR_get : ∀ {l : List RunT} {i : Nat}, i < l.length → ((cellsR l).drop (i * 3)).take 3 = [.int .i64 (l.getD i run0).1, .int .i64 (l.getD i run0).2.1, .int .i64 (l.getD i run0).2.2]
 | r :: l, 0, _ => by simp [cellsR]
 | r :: l, i + 1, h => by
  have ih := cellsR_get (l := l) (i := i) (by simpa using h)
  have e : (cellsR (r :: l)).drop ((i + 1) * 3) = (cellsR l).drop (i * 3) := by
   rw [show (i + 1) * 3 = 3 + i * 3 by omega, ← List.drop_drop]
   rfl
  rw [e, ih]
  simp
def okRun (r : RunT) (lines len : Int) : Bool := !(decide (r.1 < 0)) && !(decide (r.1 ≥ lines)) && !(decide (r.2.1 < 0)) && !(decide (r.2.1 > r.2.2)) && !(decide (r.2.2 ≥ len))
def apartB (a b : RunT) : Bool := decide (b.1 > a.1) || ((b.1 == a.1) && decide (b.2.1 > IntKind.i64.wrap (a.2.2 + 1)))
def okAt (l : List RunT) (lines len : Int) (i : Nat) : Bool := okRun (l.getD i run0) lines len && (decide (i = 0) || apartB (l.getD (i - 1) run0) (l.getD i run0))
/-- The first i runs are proper. -/
def properTo (l : List RunT) (lines len : Int) : Nat → Bool
 | 0 => true
 | i + 1 => properTo l lines len i && okAt l lines len i
theorem properTo_no {l : List RunT} {lines len : Int} {i : Nat} (h : okAt l lines len i = false) : ∀ j, i < j → properTo l lines len j = false
 | j + 1, hj => by
  simp only [properTo]
  by_cases hij : i = j
  ·rw [← hij, h, Bool.and_false]
  ·rw [properTo_no h j (by omega), Bool.false_and]
theorem properTo_get {l : List RunT} {lines len : Int} : ∀ {j : Nat}, properTo l lines len j = true → ∀ i, i < j → okAt l lines len i = true
 | j + 1, h, i, hi => by
  simp only [properTo, Bool.and_eq_true] at h
  by_cases hij : i = j
  ·rw [hij]; exact h.2
  ·exact properTo_get h.1 i (by omega)
def properB (l : List RunT) (lines len : Int) : Bool := properTo l lines len l.length
class ShortR (l : List RunT) : Prop where
 le : l.length ≤ 409600

instance K_apart {a b c d e f : Int} {H : AHeap} : PureCon ext prog 159 [.agg [.int .i64 a, .int .i64 b, .int .i64 c], .agg [.int .i64 d, .int .i64 e, .int .i64 f]] H 1 (.bool (apartB (a, b, c) (d, e, f))) := ⟨by
 refine con_of (show prog 159 = some c159 from rfl) rfl rfl fun n hn => ?_
 unfold apartB
 cases h1 : decide (d > a)
 ·cases h2 : (d == a)
  ·skip
   try simp only [↓nrmL, nrmZ, Nat.reduceEqDiff, ↓reduceIte, Nat.reduceAdd, Int.reduceBEq, Int.reduceBNe, h1, h2]
   refine sq ?_
   refine rg fun KF hKF => ?_
   refine Fo.boxA rfl ?_
   refine Fo.boxA rfl ?_
   refine mB rfl ?_
   refine WpO.nil (hKF _ _ ?_)
   refine sq ?_
   refine rg fun KF hKF => ?_
   refine Fo.fa rfl ?_
   refine Fo.ld rfl rfl ?_
   refine Fo.fa rfl ?_
   refine Fo.ld rfl rfl ?_
   refine Fo.bin rfl rfl rfl (by simp only [↓nrmL, nrmZ, Nat.reduceEqDiff, ↓reduceIte, Nat.reduceAdd, Int.reduceBEq, Int.reduceBNe, h1, h2]; rfl) ?_
   refine mB rfl ?_
   refine Fo.yes rfl rfl ?_
   refine Fo.fa rfl ?_
   refine Fo.yes rfl rfl ?_
   refine Fo.ld rfl rfl ?_
   refine Fo.yes rfl rfl ?_
   refine Fo.fa rfl ?_
   refine Fo.yes rfl rfl ?_
   refine Fo.ld rfl rfl ?_
   refine Fo.yes rfl rfl ?_
   refine Fo.bin rfl rfl rfl (by simp only [↓nrmL, nrmZ, Nat.reduceEqDiff, ↓reduceIte, Nat.reduceAdd, Int.reduceBEq, Int.reduceBNe, h1, h2]; rfl) ?_
   refine Fo.yes rfl rfl ?_
   refine mB rfl ?_
   refine Fo.no rfl rfl ?_
   refine Fo.no rfl rfl ?_
   refine Fo.no rfl rfl ?_
   refine Fo.no rfl rfl ?_
   refine Fo.no rfl rfl ?_
   refine Fo.no rfl rfl ?_
   refine Fo.yes rfl rfl ?_
   refine fB rfl rfl ?_
   refine fB rfl rfl ?_
   refine mB rfl ?_
   refine WpO.nil (hKF _ _ ?_)
   refine Wp.ret ?_
   dsimp only [cond_true, cond_false]
   refine ⟨trivial, _, (by first | rfl | exact getAllC rfl rfl rfl rfl | exact getAllT rfl (getAllC rfl rfl rfl rfl) | exact getAllC rfl rfl rfl (getAllC rfl rfl rfl rfl) | exact getAllC1 rfl rfl rfl), ?_⟩
   exact ⟨rfl, Ext0.ext⟩
  ·skip
   try simp only [↓nrmL, nrmZ, Nat.reduceEqDiff, ↓reduceIte, Nat.reduceAdd, Int.reduceBEq, Int.reduceBNe, h1, h2]
   refine sq ?_
   refine rg fun KF hKF => ?_
   refine Fo.boxA rfl ?_
   refine Fo.boxA rfl ?_
   refine mB rfl ?_
   refine WpO.nil (hKF _ _ ?_)
   refine sq ?_
   refine rg fun KF hKF => ?_
   refine Fo.fa rfl ?_
   refine Fo.ld rfl rfl ?_
   refine Fo.fa rfl ?_
   refine Fo.ld rfl rfl ?_
   refine Fo.bin rfl rfl rfl (by simp only [↓nrmL, nrmZ, Nat.reduceEqDiff, ↓reduceIte, Nat.reduceAdd, Int.reduceBEq, Int.reduceBNe, h1, h2]; rfl) ?_
   refine mB rfl ?_
   refine Fo.yes rfl rfl ?_
   refine Fo.fa rfl ?_
   refine Fo.yes rfl rfl ?_
   refine Fo.ld rfl rfl ?_
   refine Fo.yes rfl rfl ?_
   refine Fo.fa rfl ?_
   refine Fo.yes rfl rfl ?_
   refine Fo.ld rfl rfl ?_
   refine Fo.yes rfl rfl ?_
   refine Fo.bin rfl rfl rfl (by simp only [↓nrmL, nrmZ, Nat.reduceEqDiff, ↓reduceIte, Nat.reduceAdd, Int.reduceBEq, Int.reduceBNe, h1, h2]; rfl) ?_
   refine Fo.yes rfl rfl ?_
   refine mB rfl ?_
   refine Fo.yes rfl rfl ?_
   refine Fo.fa rfl ?_
   refine Fo.yes rfl rfl ?_
   refine Fo.ld rfl rfl ?_
   refine Fo.yes rfl rfl ?_
   refine Fo.fa rfl ?_
   refine Fo.yes rfl rfl ?_
   refine Fo.ld rfl rfl ?_
   refine Fo.yes rfl rfl ?_
   refine Fo.bin rfl rfl rfl rfl ?_
   refine Fo.yes rfl rfl ?_
   refine Fo.bin rfl rfl rfl rfl ?_
   refine Fo.yes rfl rfl ?_
   refine tB rfl rfl ?_
   refine fB rfl rfl ?_
   refine mB rfl ?_
   refine WpO.nil (hKF _ _ ?_)
   refine Wp.ret ?_
   dsimp only [cond_true, cond_false]
   refine ⟨trivial, _, (by first | rfl | exact getAllC rfl rfl rfl rfl | exact getAllT rfl (getAllC rfl rfl rfl rfl) | exact getAllC rfl rfl rfl (getAllC rfl rfl rfl rfl) | exact getAllC1 rfl rfl rfl), ?_⟩
   exact ⟨rfl, Ext0.ext⟩
 ·skip
  try simp only [↓nrmL, nrmZ, Nat.reduceEqDiff, ↓reduceIte, Nat.reduceAdd, Int.reduceBEq, Int.reduceBNe, h1]
  refine sq ?_
  refine rg fun KF hKF => ?_
  refine Fo.boxA rfl ?_
  refine Fo.boxA rfl ?_
  refine mB rfl ?_
  refine WpO.nil (hKF _ _ ?_)
  refine sq ?_
  refine rg fun KF hKF => ?_
  refine Fo.fa rfl ?_
  refine Fo.ld rfl rfl ?_
  refine Fo.fa rfl ?_
  refine Fo.ld rfl rfl ?_
  refine Fo.bin rfl rfl rfl (by simp only [↓nrmL, nrmZ, Nat.reduceEqDiff, ↓reduceIte, Nat.reduceAdd, Int.reduceBEq, Int.reduceBNe, h1]; rfl) ?_
  refine mB rfl ?_
  refine Fo.no rfl rfl ?_
  refine Fo.no rfl rfl ?_
  refine Fo.no rfl rfl ?_
  refine Fo.no rfl rfl ?_
  refine Fo.no rfl rfl ?_
  refine Fo.no rfl rfl ?_
  refine Fo.noU rfl ?_
  refine Fo.noU rfl ?_
  refine Fo.noU rfl ?_
  refine Fo.noU rfl ?_
  refine Fo.noU rfl ?_
  refine Fo.noU rfl ?_
  refine Fo.no rfl rfl ?_
  refine tB rfl rfl ?_
  refine mB rfl ?_
  refine WpO.nil (hKF _ _ ?_)
  refine Wp.ret ?_
  dsimp only [cond_true, cond_false]
  refine ⟨trivial, _, (by first | rfl | exact getAllC rfl rfl rfl rfl | exact getAllT rfl (getAllC rfl rfl rfl rfl) | exact getAllC rfl rfl rfl (getAllC rfl rfl rfl rfl) | exact getAllC1 rfl rfl rfl), ?_⟩
  exact ⟨rfl, Ext0.ext⟩⟩

instance K_proper {p : AVal} {H : AHeap} {l : List RunT} {lines len : Int} [hp : RunsI H p l] [hs : ShortR l] : PureCon ext prog 120 [p, .int .i64 lines, .int .i64 len] H 2 (.bool (properB l lines len)) := ⟨by
 refine con_of (show prog 120 = some c120 from rfl) rfl rfl fun n hn => ?_
 haveI := hp.one
 have hsl := hs.le
 refine sq ?_
 refine rg fun KF hKF => ?_
 refine mB rfl ?_
 refine WpO.nil (hKF _ _ ?_)
 refine sq ?_
 refine sq ?_
 refine rg fun KF hKF => ?_
 refine Fo.mov (by simp only [↓nrmL, nrmK, Nat.reduceEqDiff, ↓reduceIte]; rfl) ?_
 refine Fo.len (v := ?_) (by simp only [↓nrmL, nrmK, Nat.reduceEqDiff, ↓reduceIte]; rfl) ?hv ?_; case hv => rfl
 refine mI rfl ?_
 refine WpO.nil (hKF _ _ ?_)
 refine Wp.block ?_
 dsimp only [cond_true, cond_false]
 refine Wp.loopS [6, 7, 8, 11, 12, 13, 14, 15, 16, 17, 18, 19, 20, 21, 22, 23, 24, 25, 26, 27, 28, 29, 30, 31, 32, 33, 34, 35, 36, 37, 38, 39, 40, 41, 42, 43, 44, 45, 46, 47, 48, 49, 50, 51, 52, 53, 54, 55] (fun i : Nat => [(11, .int .i64 i)]) (fun H3 i H2 => i ≤ l.length ∧ properTo l lines len i = true ∧ Ext H3 H2) (fun i => l.length - i) 0 rfl (fun _ => rfl) ⟨rfl, trivial⟩ ⟨Nat.zero_le _, rfl, Ext.refl _⟩ (by unfold fuel0 at hn; omega) ?_
 rintro i g H2 ⟨hi, hpr, hx2⟩
 haveI : ExtI _ H2 := ⟨hx2⟩
 simp only [↓nrmL, nrmZ, Nat.reduceEqDiff, ↓reduceIte, Nat.reduceAdd, Int.reduceBEq, Int.reduceBNe]
 cases hc : decide ((i : Int) < (l.length : Int))
 ·have hil : i = l.length := by have := of_decide_eq_false hc; omega
  have hpt : properB l lines len = true := by unfold properB; rw [← hil]; exact hpr
  rw [hpt]
  try simp only [↓nrmL, nrmZ, Nat.reduceEqDiff, ↓reduceIte, Nat.reduceAdd, Int.reduceBEq, Int.reduceBNe, hc]
  refine sq ?_
  refine rg fun KF hKF => ?_
  refine Fo.bin rfl rfl rfl (by simp only [↓nrmL, nrmZ, Nat.reduceEqDiff, ↓reduceIte, Nat.reduceAdd, Int.reduceBEq, Int.reduceBNe, hc]; rfl) ?_
  refine WpO.nil (hKF _ _ ?_)
  refine sq ?_
  refine Wp.cond (b := false) rfl ?_
  refine Wp.exit ?_
  refine sq ?_
  refine rg fun KF hKF => ?_
  refine mB rfl ?_
  refine WpO.nil (hKF _ _ ?_)
  refine Wp.ret ?_
  dsimp only [cond_true, cond_false]
  refine ⟨trivial, _, (by first | rfl | exact getAllC rfl rfl rfl rfl | exact getAllT rfl (getAllC rfl rfl rfl rfl) | exact getAllC rfl rfl rfl (getAllC rfl rfl rfl rfl) | exact getAllC1 rfl rfl rfl), ?_⟩
  exact ⟨rfl, Ext0.ext⟩
 have hil : i < l.length := by have := of_decide_eq_true hc; omega
 have hw1 := wa1 (a := i) (by omega)
 have hcg := cellsR_get (l := l) (i := i) hil
 generalize hre : l.getD i run0 = r at hcg
 cases g1 : decide (r.1 < 0)
 ·skip
  cases g2 : decide (r.1 ≥ lines)
  ·skip
   cases g3 : decide (r.2.1 < 0)
   ·skip
    cases g4 : decide (r.2.1 > r.2.2)
    ·skip
     cases g5 : decide (r.2.2 ≥ len)
     ·skip
      have hok : okRun r lines len = true := by unfold okRun; rw [g1, g2, g3, g4, g5]; rfl
      by_cases hi0 : i = 0
      ·have e0 : decide (((i : Nat) : Int) > 0) = false := decide_eq_false (by omega)
       have hoa : okAt l lines len i = true := by unfold okAt; rw [hre, hok, decide_eq_true hi0]; rfl
       try simp only [↓nrmL, nrmZ, Nat.reduceEqDiff, ↓reduceIte, Nat.reduceAdd, Int.reduceBEq, Int.reduceBNe, hc]
       refine sq ?_
       refine rg fun KF hKF => ?_
       refine Fo.bin rfl rfl rfl (by simp only [↓nrmL, nrmZ, Nat.reduceEqDiff, ↓reduceIte, Nat.reduceAdd, Int.reduceBEq, Int.reduceBNe, hc]; rfl) ?_
       refine WpO.nil (hKF _ _ ?_)
       refine sq ?_
       refine Wp.cond (b := true) rfl ?_
       refine Wp.skip ?_
       refine sq ?_
       refine Wp.block ?_
       refine sq ?_
       refine rg fun KF hKF => ?_
       refine mI rfl ?_
       refine Fo.idx (by simp only [↓nrmL, nrmK, Nat.reduceEqDiff, ↓reduceIte]; rfl) rfl ?_ (by simp only [↓nrmL, nrmZ, Nat.reduceEqDiff, ↓reduceIte, Nat.reduceAdd, Int.reduceBEq, Int.reduceBNe, hc]; rfl) ?_; (focus omega)
       refine WpO.do (WpX.ldNP (p := p) (j := i * 3) (m := 3) rfl (by decide) (by rw [cellsR_length]; omega) hcg ?_)
       try simp only [↓nrmL, nrmZ, Nat.reduceEqDiff, ↓reduceIte, Nat.reduceAdd, Int.reduceBEq, Int.reduceBNe, g1, g2, g3, g4, g5, e0]
       refine Fo.new ?_
       refine mI rfl ?_
       refine Fo.st rfl (rfl : _ = AVal.agg _) rfl rfl rfl (by repeat (first | rfl | refine allOne_cons ?_)) (by simp only [↓nrmL, nrmZ, Nat.reduceEqDiff, ↓reduceIte, Nat.reduceAdd, Int.reduceBEq, Int.reduceBNe, g1, g2, g3, g4, g5, e0]; rfl) ?_
       refine WpO.nil (hKF _ _ ?_)
       refine sq ?_
       refine sq ?_
       refine rg fun KF hKF => ?_
       refine Fo.fa rfl ?_
       refine Fo.ld rfl rfl ?_
       refine Fo.bin rfl rfl rfl (by simp only [↓nrmL, nrmZ, Nat.reduceEqDiff, ↓reduceIte, Nat.reduceAdd, Int.reduceBEq, Int.reduceBNe, g1, g2, g3, g4, g5, e0]; rfl) ?_
       refine mB rfl ?_
       refine Fo.yes rfl rfl ?_
       refine Fo.fa rfl ?_
       refine Fo.yes rfl rfl ?_
       refine Fo.ld rfl rfl ?_
       refine Fo.yes rfl rfl ?_
       refine mI rfl ?_
       refine Fo.yes rfl rfl ?_
       refine Fo.bin rfl rfl rfl (by simp only [↓nrmL, nrmZ, Nat.reduceEqDiff, ↓reduceIte, Nat.reduceAdd, Int.reduceBEq, Int.reduceBNe, g1, g2, g3, g4, g5, e0]; rfl) ?_
       refine fB rfl rfl ?_
       refine mB rfl ?_
       refine Fo.yes rfl rfl ?_
       refine Fo.fa rfl ?_
       refine Fo.yes rfl rfl ?_
       refine Fo.ld rfl rfl ?_
       refine Fo.yes rfl rfl ?_
       refine Fo.bin rfl rfl rfl (by simp only [↓nrmL, nrmZ, Nat.reduceEqDiff, ↓reduceIte, Nat.reduceAdd, Int.reduceBEq, Int.reduceBNe, g1, g2, g3, g4, g5, e0]; rfl) ?_
       refine fB rfl rfl ?_
       refine mB rfl ?_
       refine Fo.yes rfl rfl ?_
       refine Fo.fa rfl ?_
       refine Fo.yes rfl rfl ?_
       refine Fo.ld rfl rfl ?_
       refine Fo.yes rfl rfl ?_
       refine Fo.fa rfl ?_
       refine Fo.yes rfl rfl ?_
       refine Fo.ld rfl rfl ?_
       refine Fo.yes rfl rfl ?_
       refine Fo.bin rfl rfl rfl (by simp only [↓nrmL, nrmZ, Nat.reduceEqDiff, ↓reduceIte, Nat.reduceAdd, Int.reduceBEq, Int.reduceBNe, g1, g2, g3, g4, g5, e0]; rfl) ?_
       refine fB rfl rfl ?_
       refine mB rfl ?_
       refine Fo.yes rfl rfl ?_
       refine Fo.fa rfl ?_
       refine Fo.yes rfl rfl ?_
       refine Fo.ld rfl rfl ?_
       refine Fo.yes rfl rfl ?_
       refine mI rfl ?_
       refine Fo.yes rfl rfl ?_
       refine Fo.bin rfl rfl rfl (by simp only [↓nrmL, nrmZ, Nat.reduceEqDiff, ↓reduceIte, Nat.reduceAdd, Int.reduceBEq, Int.reduceBNe, g1, g2, g3, g4, g5, e0]; rfl) ?_
       refine fB rfl rfl ?_
       refine WpO.nil (hKF _ _ ?_)
       refine Wp.cond (b := false) rfl ?_
       refine Wp.skip ?_
       refine sq ?_
       dsimp only [cond_true, cond_false]
       refine Fr.dregion0 rfl fun KF hKF => ?_
       try simp only [↓nrmL, nrmZ, Nat.reduceEqDiff, ↓reduceIte, Nat.reduceAdd, Int.reduceBEq, Int.reduceBNe, e0]
       refine Fe.pure rfl rfl (by simp only [↓nrmL, nrmZ, Nat.reduceEqDiff, ↓reduceIte, Nat.reduceAdd, Int.reduceBEq, Int.reduceBNe, e0]; rfl) ?_
       refine Fe.pure rfl rfl (by simp only [↓nrmL, nrmZ, Nat.reduceEqDiff, ↓reduceIte, Nat.reduceAdd, Int.reduceBEq, Int.reduceBNe, e0]; rfl) ?_
       refine Fe.pure rfl rfl (by simp only [↓nrmL, nrmZ, Nat.reduceEqDiff, ↓reduceIte, Nat.reduceAdd, Int.reduceBEq, Int.reduceBNe, e0]; rfl) ?_
       refine Fe.skip rfl ?_
       refine Fe.skip rfl ?_
       refine Fe.skip rfl ?_
       refine Fe.skip rfl ?_
       refine Fe.skip rfl ?_
       refine Fe.skip rfl ?_
       refine Fe.skip rfl ?_
       refine Fe.skip rfl ?_
       refine Fe.pure rfl rfl (by simp only [↓nrmL, nrmZ, Nat.reduceEqDiff, ↓reduceIte, Nat.reduceAdd, Int.reduceBEq, Int.reduceBNe, e0]; rfl) ?_
       refine WpE.nil (hKF _ _ ?_)
       refine Wp.cond (b := false) rfl ?_
       refine Wp.skip ?_
       refine rg fun KF hKF => ?_
       refine Fo.bin rfl rfl rfl rfl ?_
       refine mI rfl ?_
       refine WpO.nil (hKF _ _ ?_)
       dsimp only [cond_true, cond_false]
       refine ⟨i + 1, by omega, ⟨by simp only [↓nrmL, nrmZ, Nat.reduceEqDiff, ↓reduceIte, Nat.reduceAdd, Int.reduceBEq, Int.reduceBNe]; rw [hw1], trivial⟩, hil, by simp only [properTo, hpr, hoa]; rfl, Ext0.ext⟩
      ·have e0 : decide (((i : Nat) : Int) > 0) = true := decide_eq_true (by omega)
       have hwm : IntKind.i64.wrap ((i : Int) - 1) = ((i - 1 : Nat) : Int) := by rw [w64 (by omega)]; omega
       have hcg2 := cellsR_get (l := l) (i := i - 1) (by omega)
       cases hap : apartB (l.getD (i - 1) run0) (l.getD i run0)
       ·have hap2 : apartB ((l.getD (i - 1) run0).1, (l.getD (i - 1) run0).2.1, (l.getD (i - 1) run0).2.2) (r.1, r.2.1, r.2.2) = false := by rw [← hre]; exact hap
        have hoa : okAt l lines len i = false := by unfold okAt; rw [hap, hre, hok, decide_eq_false hi0]; rfl
        have hpf : properB l lines len = false := properTo_no hoa _ hil
        rw [hpf]
        try simp only [↓nrmL, nrmZ, Nat.reduceEqDiff, ↓reduceIte, Nat.reduceAdd, Int.reduceBEq, Int.reduceBNe, hc]
        refine sq ?_
        refine rg fun KF hKF => ?_
        refine Fo.bin rfl rfl rfl (by simp only [↓nrmL, nrmZ, Nat.reduceEqDiff, ↓reduceIte, Nat.reduceAdd, Int.reduceBEq, Int.reduceBNe, hc]; rfl) ?_
        refine WpO.nil (hKF _ _ ?_)
        refine sq ?_
        refine Wp.cond (b := true) rfl ?_
        refine Wp.skip ?_
        refine sq ?_
        refine Wp.block ?_
        refine sq ?_
        refine rg fun KF hKF => ?_
        refine mI rfl ?_
        refine Fo.idx (by simp only [↓nrmL, nrmK, Nat.reduceEqDiff, ↓reduceIte]; rfl) rfl ?_ (by simp only [↓nrmL, nrmZ, Nat.reduceEqDiff, ↓reduceIte, Nat.reduceAdd, Int.reduceBEq, Int.reduceBNe, hc]; rfl) ?_; (focus omega)
        refine WpO.do (WpX.ldNP (p := p) (j := i * 3) (m := 3) rfl (by decide) (by rw [cellsR_length]; omega) hcg ?_)
        try simp only [↓nrmL, nrmZ, Nat.reduceEqDiff, ↓reduceIte, Nat.reduceAdd, Int.reduceBEq, Int.reduceBNe, g1, g2, g3, g4, g5, e0]
        refine Fo.new ?_
        refine mI rfl ?_
        refine Fo.st rfl (rfl : _ = AVal.agg _) rfl rfl rfl (by repeat (first | rfl | refine allOne_cons ?_)) (by simp only [↓nrmL, nrmZ, Nat.reduceEqDiff, ↓reduceIte, Nat.reduceAdd, Int.reduceBEq, Int.reduceBNe, g1, g2, g3, g4, g5, e0]; rfl) ?_
        refine WpO.nil (hKF _ _ ?_)
        refine sq ?_
        refine sq ?_
        refine rg fun KF hKF => ?_
        refine Fo.fa rfl ?_
        refine Fo.ld rfl rfl ?_
        refine Fo.bin rfl rfl rfl (by simp only [↓nrmL, nrmZ, Nat.reduceEqDiff, ↓reduceIte, Nat.reduceAdd, Int.reduceBEq, Int.reduceBNe, g1, g2, g3, g4, g5, e0]; rfl) ?_
        refine mB rfl ?_
        refine Fo.yes rfl rfl ?_
        refine Fo.fa rfl ?_
        refine Fo.yes rfl rfl ?_
        refine Fo.ld rfl rfl ?_
        refine Fo.yes rfl rfl ?_
        refine mI rfl ?_
        refine Fo.yes rfl rfl ?_
        refine Fo.bin rfl rfl rfl (by simp only [↓nrmL, nrmZ, Nat.reduceEqDiff, ↓reduceIte, Nat.reduceAdd, Int.reduceBEq, Int.reduceBNe, g1, g2, g3, g4, g5, e0]; rfl) ?_
        refine fB rfl rfl ?_
        refine mB rfl ?_
        refine Fo.yes rfl rfl ?_
        refine Fo.fa rfl ?_
        refine Fo.yes rfl rfl ?_
        refine Fo.ld rfl rfl ?_
        refine Fo.yes rfl rfl ?_
        refine Fo.bin rfl rfl rfl (by simp only [↓nrmL, nrmZ, Nat.reduceEqDiff, ↓reduceIte, Nat.reduceAdd, Int.reduceBEq, Int.reduceBNe, g1, g2, g3, g4, g5, e0]; rfl) ?_
        refine fB rfl rfl ?_
        refine mB rfl ?_
        refine Fo.yes rfl rfl ?_
        refine Fo.fa rfl ?_
        refine Fo.yes rfl rfl ?_
        refine Fo.ld rfl rfl ?_
        refine Fo.yes rfl rfl ?_
        refine Fo.fa rfl ?_
        refine Fo.yes rfl rfl ?_
        refine Fo.ld rfl rfl ?_
        refine Fo.yes rfl rfl ?_
        refine Fo.bin rfl rfl rfl (by simp only [↓nrmL, nrmZ, Nat.reduceEqDiff, ↓reduceIte, Nat.reduceAdd, Int.reduceBEq, Int.reduceBNe, g1, g2, g3, g4, g5, e0]; rfl) ?_
        refine fB rfl rfl ?_
        refine mB rfl ?_
        refine Fo.yes rfl rfl ?_
        refine Fo.fa rfl ?_
        refine Fo.yes rfl rfl ?_
        refine Fo.ld rfl rfl ?_
        refine Fo.yes rfl rfl ?_
        refine mI rfl ?_
        refine Fo.yes rfl rfl ?_
        refine Fo.bin rfl rfl rfl (by simp only [↓nrmL, nrmZ, Nat.reduceEqDiff, ↓reduceIte, Nat.reduceAdd, Int.reduceBEq, Int.reduceBNe, g1, g2, g3, g4, g5, e0]; rfl) ?_
        refine fB rfl rfl ?_
        refine WpO.nil (hKF _ _ ?_)
        refine Wp.cond (b := false) rfl ?_
        refine Wp.skip ?_
        refine sq ?_
        dsimp only [cond_true, cond_false]
        refine Fr.dregion0 rfl fun KF hKF => ?_
        try simp only [↓nrmL, nrmZ, Nat.reduceEqDiff, ↓reduceIte, Nat.reduceAdd, Int.reduceBEq, Int.reduceBNe, e0, hwm]
        refine Fe.pure rfl rfl (by simp only [↓nrmL, nrmZ, Nat.reduceEqDiff, ↓reduceIte, Nat.reduceAdd, Int.reduceBEq, Int.reduceBNe, e0, hwm]; rfl) ?_
        refine Fe.pure rfl rfl (by simp only [↓nrmL, nrmZ, Nat.reduceEqDiff, ↓reduceIte, Nat.reduceAdd, Int.reduceBEq, Int.reduceBNe, e0, hwm]; rfl) ?_
        refine Fe.pure rfl rfl (by simp only [↓nrmL, nrmZ, Nat.reduceEqDiff, ↓reduceIte, Nat.reduceAdd, Int.reduceBEq, Int.reduceBNe, e0, hwm]; rfl) ?_
        refine Fe.pure rfl rfl (by simp only [↓nrmL, nrmZ, Nat.reduceEqDiff, ↓reduceIte, Nat.reduceAdd, Int.reduceBEq, Int.reduceBNe, e0, hwm]; rfl) ?_
        refine Fe.pure rfl rfl (by simp only [↓nrmL, nrmZ, Nat.reduceEqDiff, ↓reduceIte, Nat.reduceAdd, Int.reduceBEq, Int.reduceBNe, e0, hwm]; rfl) ?_
        refine Fe.pure rfl rfl (by simp only [↓nrmL, nrmZ, Nat.reduceEqDiff, ↓reduceIte, Nat.reduceAdd, Int.reduceBEq, Int.reduceBNe, e0, hwm]; rfl) ?_
        refine Fe.pure rfl (exec_idxP (by (try simp only [↓nrmL, nrmZ, Nat.reduceEqDiff, ↓reduceIte, Nat.reduceAdd, Int.reduceBEq, Int.reduceBNe, e0, hwm]); rfl) rfl ?_) (by simp only [↓nrmL, nrmZ, Nat.reduceEqDiff, ↓reduceIte, Nat.reduceAdd, Int.reduceBEq, Int.reduceBNe, e0, hwm]; rfl) ?_; (focus omega)
        refine Fe.read rfl (exec_ldNP (p := p) (j := (i - 1) * 3) (m := 3) rfl (by decide) (by rw [cellsR_length]; omega) hcg2) rfl (by repeat (first | exact trivial | refine ⟨(by first | exact Or.inl (by dsimp only; decide)), ?_⟩)) ?_
        try simp only [↓nrmL, nrmZ, Nat.reduceEqDiff, ↓reduceIte, Nat.reduceAdd, Int.reduceBEq, Int.reduceBNe, hap2]
        refine Fe.read rfl (exec_ldN rfl rfl (by simp only [↓nrmL, nrmZ, Nat.reduceEqDiff, ↓reduceIte, Nat.reduceAdd, Int.reduceBEq, Int.reduceBNe, hap2]; rfl)) rfl (by repeat (first | exact trivial | refine ⟨(by first | exact Or.inl (by dsimp only; decide) | exact Or.inr (exec_ld rfl rfl) | exact Or.inr (exec_ldN rfl rfl rfl) | exact Or.inr (exec_ldB rfl (by omega)) | exact Or.inr (exec_ldI rfl (by omega)) | exact Or.inr ghost_of), ?_⟩)) ?_
        refine Fe.pcall (v' := ?_) rfl hn rfl (by simp only [↓nrmL, nrmZ, Nat.reduceEqDiff, ↓reduceIte, Nat.reduceAdd, Int.reduceBEq, Int.reduceBNe, hap2, List.map]; rfl) rfl ?hv fun _ _ => ⟨(by repeat (first | exact trivial | refine ⟨(by first | exact Or.inl (by dsimp only; decide) | exact Or.inr (readOk_of (exec_ld rfl rfl)) | exact Or.inr (readOk_of (exec_ldN rfl rfl rfl)) | exact Or.inr (readOk_of (exec_ldB rfl (by omega))) | exact Or.inr (readOk_of (exec_ldI rfl (by omega))) | exact Or.inr (made_of rfl)), ?_⟩)), ?_⟩; case hv => (simp only [↓nrmL, nrmZ, Nat.reduceEqDiff, ↓reduceIte, Nat.reduceAdd, Int.reduceBEq, Int.reduceBNe, hap2]; rfl)
        refine Fe.pure rfl rfl (by simp only [↓nrmL, nrmZ, Nat.reduceEqDiff, ↓reduceIte, Nat.reduceAdd, Int.reduceBEq, Int.reduceBNe, hap2]; rfl) ?_
        refine Fe.pure rfl rfl (by simp only [↓nrmL, nrmZ, Nat.reduceEqDiff, ↓reduceIte, Nat.reduceAdd, Int.reduceBEq, Int.reduceBNe, hap2]; rfl) ?_
        refine WpE.nil (hKF _ _ ?_)
        refine Wp.cond (b := true) rfl ?_
        refine sq ?_
        refine rg fun KF hKF => ?_
        refine mB rfl ?_
        refine WpO.nil (hKF _ _ ?_)
        refine Wp.ret ?_
        dsimp only [cond_true, cond_false]
        refine ⟨trivial, _, (by first | rfl | exact getAllC rfl rfl rfl rfl | exact getAllT rfl (getAllC rfl rfl rfl rfl) | exact getAllC rfl rfl rfl (getAllC rfl rfl rfl rfl) | exact getAllC1 rfl rfl rfl), ?_⟩
        exact ⟨rfl, Ext0.ext⟩
       ·have hap2 : apartB ((l.getD (i - 1) run0).1, (l.getD (i - 1) run0).2.1, (l.getD (i - 1) run0).2.2) (r.1, r.2.1, r.2.2) = true := by rw [← hre]; exact hap
        have hoa : okAt l lines len i = true := by unfold okAt; rw [hap, hre, hok]; simp
        try simp only [↓nrmL, nrmZ, Nat.reduceEqDiff, ↓reduceIte, Nat.reduceAdd, Int.reduceBEq, Int.reduceBNe, hc]
        refine sq ?_
        refine rg fun KF hKF => ?_
        refine Fo.bin rfl rfl rfl (by simp only [↓nrmL, nrmZ, Nat.reduceEqDiff, ↓reduceIte, Nat.reduceAdd, Int.reduceBEq, Int.reduceBNe, hc]; rfl) ?_
        refine WpO.nil (hKF _ _ ?_)
        refine sq ?_
        refine Wp.cond (b := true) rfl ?_
        refine Wp.skip ?_
        refine sq ?_
        refine Wp.block ?_
        refine sq ?_
        refine rg fun KF hKF => ?_
        refine mI rfl ?_
        refine Fo.idx (by simp only [↓nrmL, nrmK, Nat.reduceEqDiff, ↓reduceIte]; rfl) rfl ?_ (by simp only [↓nrmL, nrmZ, Nat.reduceEqDiff, ↓reduceIte, Nat.reduceAdd, Int.reduceBEq, Int.reduceBNe, hc]; rfl) ?_; (focus omega)
        refine WpO.do (WpX.ldNP (p := p) (j := i * 3) (m := 3) rfl (by decide) (by rw [cellsR_length]; omega) hcg ?_)
        try simp only [↓nrmL, nrmZ, Nat.reduceEqDiff, ↓reduceIte, Nat.reduceAdd, Int.reduceBEq, Int.reduceBNe, g1, g2, g3, g4, g5, e0]
        refine Fo.new ?_
        refine mI rfl ?_
        refine Fo.st rfl (rfl : _ = AVal.agg _) rfl rfl rfl (by repeat (first | rfl | refine allOne_cons ?_)) (by simp only [↓nrmL, nrmZ, Nat.reduceEqDiff, ↓reduceIte, Nat.reduceAdd, Int.reduceBEq, Int.reduceBNe, g1, g2, g3, g4, g5, e0]; rfl) ?_
        refine WpO.nil (hKF _ _ ?_)
        refine sq ?_
        refine sq ?_
        refine rg fun KF hKF => ?_
        refine Fo.fa rfl ?_
        refine Fo.ld rfl rfl ?_
        refine Fo.bin rfl rfl rfl (by simp only [↓nrmL, nrmZ, Nat.reduceEqDiff, ↓reduceIte, Nat.reduceAdd, Int.reduceBEq, Int.reduceBNe, g1, g2, g3, g4, g5, e0]; rfl) ?_
        refine mB rfl ?_
        refine Fo.yes rfl rfl ?_
        refine Fo.fa rfl ?_
        refine Fo.yes rfl rfl ?_
        refine Fo.ld rfl rfl ?_
        refine Fo.yes rfl rfl ?_
        refine mI rfl ?_
        refine Fo.yes rfl rfl ?_
        refine Fo.bin rfl rfl rfl (by simp only [↓nrmL, nrmZ, Nat.reduceEqDiff, ↓reduceIte, Nat.reduceAdd, Int.reduceBEq, Int.reduceBNe, g1, g2, g3, g4, g5, e0]; rfl) ?_
        refine fB rfl rfl ?_
        refine mB rfl ?_
        refine Fo.yes rfl rfl ?_
        refine Fo.fa rfl ?_
        refine Fo.yes rfl rfl ?_
        refine Fo.ld rfl rfl ?_
        refine Fo.yes rfl rfl ?_
        refine Fo.bin rfl rfl rfl (by simp only [↓nrmL, nrmZ, Nat.reduceEqDiff, ↓reduceIte, Nat.reduceAdd, Int.reduceBEq, Int.reduceBNe, g1, g2, g3, g4, g5, e0]; rfl) ?_
        refine fB rfl rfl ?_
        refine mB rfl ?_
        refine Fo.yes rfl rfl ?_
        refine Fo.fa rfl ?_
        refine Fo.yes rfl rfl ?_
        refine Fo.ld rfl rfl ?_
        refine Fo.yes rfl rfl ?_
        refine Fo.fa rfl ?_
        refine Fo.yes rfl rfl ?_
        refine Fo.ld rfl rfl ?_
        refine Fo.yes rfl rfl ?_
        refine Fo.bin rfl rfl rfl (by simp only [↓nrmL, nrmZ, Nat.reduceEqDiff, ↓reduceIte, Nat.reduceAdd, Int.reduceBEq, Int.reduceBNe, g1, g2, g3, g4, g5, e0]; rfl) ?_
        refine fB rfl rfl ?_
        refine mB rfl ?_
        refine Fo.yes rfl rfl ?_
        refine Fo.fa rfl ?_
        refine Fo.yes rfl rfl ?_
        refine Fo.ld rfl rfl ?_
        refine Fo.yes rfl rfl ?_
        refine mI rfl ?_
        refine Fo.yes rfl rfl ?_
        refine Fo.bin rfl rfl rfl (by simp only [↓nrmL, nrmZ, Nat.reduceEqDiff, ↓reduceIte, Nat.reduceAdd, Int.reduceBEq, Int.reduceBNe, g1, g2, g3, g4, g5, e0]; rfl) ?_
        refine fB rfl rfl ?_
        refine WpO.nil (hKF _ _ ?_)
        refine Wp.cond (b := false) rfl ?_
        refine Wp.skip ?_
        refine sq ?_
        dsimp only [cond_true, cond_false]
        refine Fr.dregion0 rfl fun KF hKF => ?_
        try simp only [↓nrmL, nrmZ, Nat.reduceEqDiff, ↓reduceIte, Nat.reduceAdd, Int.reduceBEq, Int.reduceBNe, e0, hwm]
        refine Fe.pure rfl rfl (by simp only [↓nrmL, nrmZ, Nat.reduceEqDiff, ↓reduceIte, Nat.reduceAdd, Int.reduceBEq, Int.reduceBNe, e0, hwm]; rfl) ?_
        refine Fe.pure rfl rfl (by simp only [↓nrmL, nrmZ, Nat.reduceEqDiff, ↓reduceIte, Nat.reduceAdd, Int.reduceBEq, Int.reduceBNe, e0, hwm]; rfl) ?_
        refine Fe.pure rfl rfl (by simp only [↓nrmL, nrmZ, Nat.reduceEqDiff, ↓reduceIte, Nat.reduceAdd, Int.reduceBEq, Int.reduceBNe, e0, hwm]; rfl) ?_
        refine Fe.pure rfl rfl (by simp only [↓nrmL, nrmZ, Nat.reduceEqDiff, ↓reduceIte, Nat.reduceAdd, Int.reduceBEq, Int.reduceBNe, e0, hwm]; rfl) ?_
        refine Fe.pure rfl rfl (by simp only [↓nrmL, nrmZ, Nat.reduceEqDiff, ↓reduceIte, Nat.reduceAdd, Int.reduceBEq, Int.reduceBNe, e0, hwm]; rfl) ?_
        refine Fe.pure rfl rfl (by simp only [↓nrmL, nrmZ, Nat.reduceEqDiff, ↓reduceIte, Nat.reduceAdd, Int.reduceBEq, Int.reduceBNe, e0, hwm]; rfl) ?_
        refine Fe.pure rfl (exec_idxP (by (try simp only [↓nrmL, nrmZ, Nat.reduceEqDiff, ↓reduceIte, Nat.reduceAdd, Int.reduceBEq, Int.reduceBNe, e0, hwm]); rfl) rfl ?_) (by simp only [↓nrmL, nrmZ, Nat.reduceEqDiff, ↓reduceIte, Nat.reduceAdd, Int.reduceBEq, Int.reduceBNe, e0, hwm]; rfl) ?_; (focus omega)
        refine Fe.read rfl (exec_ldNP (p := p) (j := (i - 1) * 3) (m := 3) rfl (by decide) (by rw [cellsR_length]; omega) hcg2) rfl (by repeat (first | exact trivial | refine ⟨(by first | exact Or.inl (by dsimp only; decide)), ?_⟩)) ?_
        try simp only [↓nrmL, nrmZ, Nat.reduceEqDiff, ↓reduceIte, Nat.reduceAdd, Int.reduceBEq, Int.reduceBNe, hap2]
        refine Fe.read rfl (exec_ldN rfl rfl (by simp only [↓nrmL, nrmZ, Nat.reduceEqDiff, ↓reduceIte, Nat.reduceAdd, Int.reduceBEq, Int.reduceBNe, hap2]; rfl)) rfl (by repeat (first | exact trivial | refine ⟨(by first | exact Or.inl (by dsimp only; decide) | exact Or.inr (exec_ld rfl rfl) | exact Or.inr (exec_ldN rfl rfl rfl) | exact Or.inr (exec_ldB rfl (by omega)) | exact Or.inr (exec_ldI rfl (by omega)) | exact Or.inr ghost_of), ?_⟩)) ?_
        refine Fe.pcall (v' := ?_) rfl hn rfl (by simp only [↓nrmL, nrmZ, Nat.reduceEqDiff, ↓reduceIte, Nat.reduceAdd, Int.reduceBEq, Int.reduceBNe, hap2, List.map]; rfl) rfl ?hv fun _ _ => ⟨(by repeat (first | exact trivial | refine ⟨(by first | exact Or.inl (by dsimp only; decide) | exact Or.inr (readOk_of (exec_ld rfl rfl)) | exact Or.inr (readOk_of (exec_ldN rfl rfl rfl)) | exact Or.inr (readOk_of (exec_ldB rfl (by omega))) | exact Or.inr (readOk_of (exec_ldI rfl (by omega))) | exact Or.inr (made_of rfl)), ?_⟩)), ?_⟩; case hv => (simp only [↓nrmL, nrmZ, Nat.reduceEqDiff, ↓reduceIte, Nat.reduceAdd, Int.reduceBEq, Int.reduceBNe, hap2]; rfl)
        refine Fe.pure rfl rfl (by simp only [↓nrmL, nrmZ, Nat.reduceEqDiff, ↓reduceIte, Nat.reduceAdd, Int.reduceBEq, Int.reduceBNe, hap2]; rfl) ?_
        refine Fe.pure rfl rfl (by simp only [↓nrmL, nrmZ, Nat.reduceEqDiff, ↓reduceIte, Nat.reduceAdd, Int.reduceBEq, Int.reduceBNe, hap2]; rfl) ?_
        refine WpE.nil (hKF _ _ ?_)
        refine Wp.cond (b := false) rfl ?_
        refine Wp.skip ?_
        refine rg fun KF hKF => ?_
        refine Fo.bin rfl rfl rfl rfl ?_
        refine mI rfl ?_
        refine WpO.nil (hKF _ _ ?_)
        dsimp only [cond_true, cond_false]
        refine ⟨i + 1, by omega, ⟨by simp only [↓nrmL, nrmZ, Nat.reduceEqDiff, ↓reduceIte, Nat.reduceAdd, Int.reduceBEq, Int.reduceBNe]; rw [hw1], trivial⟩, hil, by simp only [properTo, hpr, hoa]; rfl, Ext0.ext⟩
     ·have hok : okRun r lines len = false := by unfold okRun; rw [g1, g2, g3, g4, g5]; simp
      have hoa : okAt l lines len i = false := by unfold okAt; rw [hre, hok]; rfl
      have hpf : properB l lines len = false := properTo_no hoa _ hil
      rw [hpf]
      try simp only [↓nrmL, nrmZ, Nat.reduceEqDiff, ↓reduceIte, Nat.reduceAdd, Int.reduceBEq, Int.reduceBNe, hc]
      refine sq ?_
      refine rg fun KF hKF => ?_
      refine Fo.bin rfl rfl rfl (by simp only [↓nrmL, nrmZ, Nat.reduceEqDiff, ↓reduceIte, Nat.reduceAdd, Int.reduceBEq, Int.reduceBNe, hc]; rfl) ?_
      refine WpO.nil (hKF _ _ ?_)
      refine sq ?_
      refine Wp.cond (b := true) rfl ?_
      refine Wp.skip ?_
      refine sq ?_
      refine Wp.block ?_
      refine sq ?_
      refine rg fun KF hKF => ?_
      refine mI rfl ?_
      refine Fo.idx (by simp only [↓nrmL, nrmK, Nat.reduceEqDiff, ↓reduceIte]; rfl) rfl ?_ (by simp only [↓nrmL, nrmZ, Nat.reduceEqDiff, ↓reduceIte, Nat.reduceAdd, Int.reduceBEq, Int.reduceBNe, hc]; rfl) ?_; (focus omega)
      refine WpO.do (WpX.ldNP (p := p) (j := i * 3) (m := 3) rfl (by decide) (by rw [cellsR_length]; omega) hcg ?_)
      try simp only [↓nrmL, nrmZ, Nat.reduceEqDiff, ↓reduceIte, Nat.reduceAdd, Int.reduceBEq, Int.reduceBNe, g1, g2, g3, g4, g5]
      refine Fo.new ?_
      refine mI rfl ?_
      refine Fo.st rfl (rfl : _ = AVal.agg _) rfl rfl rfl (by repeat (first | rfl | refine allOne_cons ?_)) (by simp only [↓nrmL, nrmZ, Nat.reduceEqDiff, ↓reduceIte, Nat.reduceAdd, Int.reduceBEq, Int.reduceBNe, g1, g2, g3, g4, g5]; rfl) ?_
      refine WpO.nil (hKF _ _ ?_)
      refine sq ?_
      refine sq ?_
      refine rg fun KF hKF => ?_
      refine Fo.fa rfl ?_
      refine Fo.ld rfl rfl ?_
      refine Fo.bin rfl rfl rfl (by simp only [↓nrmL, nrmZ, Nat.reduceEqDiff, ↓reduceIte, Nat.reduceAdd, Int.reduceBEq, Int.reduceBNe, g1, g2, g3, g4, g5]; rfl) ?_
      refine mB rfl ?_
      refine Fo.yes rfl rfl ?_
      refine Fo.fa rfl ?_
      refine Fo.yes rfl rfl ?_
      refine Fo.ld rfl rfl ?_
      refine Fo.yes rfl rfl ?_
      refine mI rfl ?_
      refine Fo.yes rfl rfl ?_
      refine Fo.bin rfl rfl rfl (by simp only [↓nrmL, nrmZ, Nat.reduceEqDiff, ↓reduceIte, Nat.reduceAdd, Int.reduceBEq, Int.reduceBNe, g1, g2, g3, g4, g5]; rfl) ?_
      refine fB rfl rfl ?_
      refine mB rfl ?_
      refine Fo.yes rfl rfl ?_
      refine Fo.fa rfl ?_
      refine Fo.yes rfl rfl ?_
      refine Fo.ld rfl rfl ?_
      refine Fo.yes rfl rfl ?_
      refine Fo.bin rfl rfl rfl (by simp only [↓nrmL, nrmZ, Nat.reduceEqDiff, ↓reduceIte, Nat.reduceAdd, Int.reduceBEq, Int.reduceBNe, g1, g2, g3, g4, g5]; rfl) ?_
      refine fB rfl rfl ?_
      refine mB rfl ?_
      refine Fo.yes rfl rfl ?_
      refine Fo.fa rfl ?_
      refine Fo.yes rfl rfl ?_
      refine Fo.ld rfl rfl ?_
      refine Fo.yes rfl rfl ?_
      refine Fo.fa rfl ?_
      refine Fo.yes rfl rfl ?_
      refine Fo.ld rfl rfl ?_
      refine Fo.yes rfl rfl ?_
      refine Fo.bin rfl rfl rfl (by simp only [↓nrmL, nrmZ, Nat.reduceEqDiff, ↓reduceIte, Nat.reduceAdd, Int.reduceBEq, Int.reduceBNe, g1, g2, g3, g4, g5]; rfl) ?_
      refine fB rfl rfl ?_
      refine mB rfl ?_
      refine Fo.yes rfl rfl ?_
      refine Fo.fa rfl ?_
      refine Fo.yes rfl rfl ?_
      refine Fo.ld rfl rfl ?_
      refine Fo.yes rfl rfl ?_
      refine mI rfl ?_
      refine Fo.yes rfl rfl ?_
      refine Fo.bin rfl rfl rfl (by simp only [↓nrmL, nrmZ, Nat.reduceEqDiff, ↓reduceIte, Nat.reduceAdd, Int.reduceBEq, Int.reduceBNe, g1, g2, g3, g4, g5]; rfl) ?_
      refine fB rfl rfl ?_
      refine WpO.nil (hKF _ _ ?_)
      refine Wp.cond (b := true) rfl ?_
      refine sq ?_
      refine rg fun KF hKF => ?_
      refine mB rfl ?_
      refine WpO.nil (hKF _ _ ?_)
      refine Wp.ret ?_
      dsimp only [cond_true, cond_false]
      refine ⟨trivial, _, (by first | rfl | exact getAllC rfl rfl rfl rfl | exact getAllT rfl (getAllC rfl rfl rfl rfl) | exact getAllC rfl rfl rfl (getAllC rfl rfl rfl rfl) | exact getAllC1 rfl rfl rfl), ?_⟩
      exact ⟨rfl, Ext0.ext⟩
    ·have hok : okRun r lines len = false := by unfold okRun; rw [g1, g2, g3, g4]; simp
     have hoa : okAt l lines len i = false := by unfold okAt; rw [hre, hok]; rfl
     have hpf : properB l lines len = false := properTo_no hoa _ hil
     rw [hpf]
     try simp only [↓nrmL, nrmZ, Nat.reduceEqDiff, ↓reduceIte, Nat.reduceAdd, Int.reduceBEq, Int.reduceBNe, hc]
     refine sq ?_
     refine rg fun KF hKF => ?_
     refine Fo.bin rfl rfl rfl (by simp only [↓nrmL, nrmZ, Nat.reduceEqDiff, ↓reduceIte, Nat.reduceAdd, Int.reduceBEq, Int.reduceBNe, hc]; rfl) ?_
     refine WpO.nil (hKF _ _ ?_)
     refine sq ?_
     refine Wp.cond (b := true) rfl ?_
     refine Wp.skip ?_
     refine sq ?_
     refine Wp.block ?_
     refine sq ?_
     refine rg fun KF hKF => ?_
     refine mI rfl ?_
     refine Fo.idx (by simp only [↓nrmL, nrmK, Nat.reduceEqDiff, ↓reduceIte]; rfl) rfl ?_ (by simp only [↓nrmL, nrmZ, Nat.reduceEqDiff, ↓reduceIte, Nat.reduceAdd, Int.reduceBEq, Int.reduceBNe, hc]; rfl) ?_; (focus omega)
     refine WpO.do (WpX.ldNP (p := p) (j := i * 3) (m := 3) rfl (by decide) (by rw [cellsR_length]; omega) hcg ?_)
     try simp only [↓nrmL, nrmZ, Nat.reduceEqDiff, ↓reduceIte, Nat.reduceAdd, Int.reduceBEq, Int.reduceBNe, g1, g2, g3, g4]
     refine Fo.new ?_
     refine mI rfl ?_
     refine Fo.st rfl (rfl : _ = AVal.agg _) rfl rfl rfl (by repeat (first | rfl | refine allOne_cons ?_)) (by simp only [↓nrmL, nrmZ, Nat.reduceEqDiff, ↓reduceIte, Nat.reduceAdd, Int.reduceBEq, Int.reduceBNe, g1, g2, g3, g4]; rfl) ?_
     refine WpO.nil (hKF _ _ ?_)
     refine sq ?_
     refine sq ?_
     refine rg fun KF hKF => ?_
     refine Fo.fa rfl ?_
     refine Fo.ld rfl rfl ?_
     refine Fo.bin rfl rfl rfl (by simp only [↓nrmL, nrmZ, Nat.reduceEqDiff, ↓reduceIte, Nat.reduceAdd, Int.reduceBEq, Int.reduceBNe, g1, g2, g3, g4]; rfl) ?_
     refine mB rfl ?_
     refine Fo.yes rfl rfl ?_
     refine Fo.fa rfl ?_
     refine Fo.yes rfl rfl ?_
     refine Fo.ld rfl rfl ?_
     refine Fo.yes rfl rfl ?_
     refine mI rfl ?_
     refine Fo.yes rfl rfl ?_
     refine Fo.bin rfl rfl rfl (by simp only [↓nrmL, nrmZ, Nat.reduceEqDiff, ↓reduceIte, Nat.reduceAdd, Int.reduceBEq, Int.reduceBNe, g1, g2, g3, g4]; rfl) ?_
     refine fB rfl rfl ?_
     refine mB rfl ?_
     refine Fo.yes rfl rfl ?_
     refine Fo.fa rfl ?_
     refine Fo.yes rfl rfl ?_
     refine Fo.ld rfl rfl ?_
     refine Fo.yes rfl rfl ?_
     refine Fo.bin rfl rfl rfl (by simp only [↓nrmL, nrmZ, Nat.reduceEqDiff, ↓reduceIte, Nat.reduceAdd, Int.reduceBEq, Int.reduceBNe, g1, g2, g3, g4]; rfl) ?_
     refine fB rfl rfl ?_
     refine mB rfl ?_
     refine Fo.yes rfl rfl ?_
     refine Fo.fa rfl ?_
     refine Fo.yes rfl rfl ?_
     refine Fo.ld rfl rfl ?_
     refine Fo.yes rfl rfl ?_
     refine Fo.fa rfl ?_
     refine Fo.yes rfl rfl ?_
     refine Fo.ld rfl rfl ?_
     refine Fo.yes rfl rfl ?_
     refine Fo.bin rfl rfl rfl (by simp only [↓nrmL, nrmZ, Nat.reduceEqDiff, ↓reduceIte, Nat.reduceAdd, Int.reduceBEq, Int.reduceBNe, g1, g2, g3, g4]; rfl) ?_
     refine fB rfl rfl ?_
     refine mB rfl ?_
     refine Fo.no rfl rfl ?_
     refine Fo.no rfl rfl ?_
     refine Fo.no rfl rfl ?_
     refine Fo.no rfl rfl ?_
     refine tB rfl rfl ?_
     refine WpO.nil (hKF _ _ ?_)
     refine Wp.cond (b := true) rfl ?_
     refine sq ?_
     refine rg fun KF hKF => ?_
     refine mB rfl ?_
     refine WpO.nil (hKF _ _ ?_)
     refine Wp.ret ?_
     dsimp only [cond_true, cond_false]
     refine ⟨trivial, _, (by first | rfl | exact getAllC rfl rfl rfl rfl | exact getAllT rfl (getAllC rfl rfl rfl rfl) | exact getAllC rfl rfl rfl (getAllC rfl rfl rfl rfl) | exact getAllC1 rfl rfl rfl), ?_⟩
     exact ⟨rfl, Ext0.ext⟩
   ·have hok : okRun r lines len = false := by unfold okRun; rw [g1, g2, g3]; simp
    have hoa : okAt l lines len i = false := by unfold okAt; rw [hre, hok]; rfl
    have hpf : properB l lines len = false := properTo_no hoa _ hil
    rw [hpf]
    try simp only [↓nrmL, nrmZ, Nat.reduceEqDiff, ↓reduceIte, Nat.reduceAdd, Int.reduceBEq, Int.reduceBNe, hc]
    refine sq ?_
    refine rg fun KF hKF => ?_
    refine Fo.bin rfl rfl rfl (by simp only [↓nrmL, nrmZ, Nat.reduceEqDiff, ↓reduceIte, Nat.reduceAdd, Int.reduceBEq, Int.reduceBNe, hc]; rfl) ?_
    refine WpO.nil (hKF _ _ ?_)
    refine sq ?_
    refine Wp.cond (b := true) rfl ?_
    refine Wp.skip ?_
    refine sq ?_
    refine Wp.block ?_
    refine sq ?_
    refine rg fun KF hKF => ?_
    refine mI rfl ?_
    refine Fo.idx (by simp only [↓nrmL, nrmK, Nat.reduceEqDiff, ↓reduceIte]; rfl) rfl ?_ (by simp only [↓nrmL, nrmZ, Nat.reduceEqDiff, ↓reduceIte, Nat.reduceAdd, Int.reduceBEq, Int.reduceBNe, hc]; rfl) ?_; (focus omega)
    refine WpO.do (WpX.ldNP (p := p) (j := i * 3) (m := 3) rfl (by decide) (by rw [cellsR_length]; omega) hcg ?_)
    try simp only [↓nrmL, nrmZ, Nat.reduceEqDiff, ↓reduceIte, Nat.reduceAdd, Int.reduceBEq, Int.reduceBNe, g1, g2, g3]
    refine Fo.new ?_
    refine mI rfl ?_
    refine Fo.st rfl (rfl : _ = AVal.agg _) rfl rfl rfl (by repeat (first | rfl | refine allOne_cons ?_)) (by simp only [↓nrmL, nrmZ, Nat.reduceEqDiff, ↓reduceIte, Nat.reduceAdd, Int.reduceBEq, Int.reduceBNe, g1, g2, g3]; rfl) ?_
    refine WpO.nil (hKF _ _ ?_)
    refine sq ?_
    refine sq ?_
    refine rg fun KF hKF => ?_
    refine Fo.fa rfl ?_
    refine Fo.ld rfl rfl ?_
    refine Fo.bin rfl rfl rfl (by simp only [↓nrmL, nrmZ, Nat.reduceEqDiff, ↓reduceIte, Nat.reduceAdd, Int.reduceBEq, Int.reduceBNe, g1, g2, g3]; rfl) ?_
    refine mB rfl ?_
    refine Fo.yes rfl rfl ?_
    refine Fo.fa rfl ?_
    refine Fo.yes rfl rfl ?_
    refine Fo.ld rfl rfl ?_
    refine Fo.yes rfl rfl ?_
    refine mI rfl ?_
    refine Fo.yes rfl rfl ?_
    refine Fo.bin rfl rfl rfl (by simp only [↓nrmL, nrmZ, Nat.reduceEqDiff, ↓reduceIte, Nat.reduceAdd, Int.reduceBEq, Int.reduceBNe, g1, g2, g3]; rfl) ?_
    refine fB rfl rfl ?_
    refine mB rfl ?_
    refine Fo.yes rfl rfl ?_
    refine Fo.fa rfl ?_
    refine Fo.yes rfl rfl ?_
    refine Fo.ld rfl rfl ?_
    refine Fo.yes rfl rfl ?_
    refine Fo.bin rfl rfl rfl (by simp only [↓nrmL, nrmZ, Nat.reduceEqDiff, ↓reduceIte, Nat.reduceAdd, Int.reduceBEq, Int.reduceBNe, g1, g2, g3]; rfl) ?_
    refine fB rfl rfl ?_
    refine mB rfl ?_
    refine Fo.no rfl rfl ?_
    refine Fo.no rfl rfl ?_
    refine Fo.no rfl rfl ?_
    refine Fo.no rfl rfl ?_
    refine Fo.no rfl rfl ?_
    refine tB rfl rfl ?_
    refine mB rfl ?_
    refine Fo.no rfl rfl ?_
    refine Fo.no rfl rfl ?_
    refine Fo.no rfl rfl ?_
    refine Fo.no rfl rfl ?_
    refine tB rfl rfl ?_
    refine WpO.nil (hKF _ _ ?_)
    refine Wp.cond (b := true) rfl ?_
    refine sq ?_
    refine rg fun KF hKF => ?_
    refine mB rfl ?_
    refine WpO.nil (hKF _ _ ?_)
    refine Wp.ret ?_
    dsimp only [cond_true, cond_false]
    refine ⟨trivial, _, (by first | rfl | exact getAllC rfl rfl rfl rfl | exact getAllT rfl (getAllC rfl rfl rfl rfl) | exact getAllC rfl rfl rfl (getAllC rfl rfl rfl rfl) | exact getAllC1 rfl rfl rfl), ?_⟩
    exact ⟨rfl, Ext0.ext⟩
  ·have hok : okRun r lines len = false := by unfold okRun; rw [g1, g2]; simp
   have hoa : okAt l lines len i = false := by unfold okAt; rw [hre, hok]; rfl
   have hpf : properB l lines len = false := properTo_no hoa _ hil
   rw [hpf]
   try simp only [↓nrmL, nrmZ, Nat.reduceEqDiff, ↓reduceIte, Nat.reduceAdd, Int.reduceBEq, Int.reduceBNe, hc]
   refine sq ?_
   refine rg fun KF hKF => ?_
   refine Fo.bin rfl rfl rfl (by simp only [↓nrmL, nrmZ, Nat.reduceEqDiff, ↓reduceIte, Nat.reduceAdd, Int.reduceBEq, Int.reduceBNe, hc]; rfl) ?_
   refine WpO.nil (hKF _ _ ?_)
   refine sq ?_
   refine Wp.cond (b := true) rfl ?_
   refine Wp.skip ?_
   refine sq ?_
   refine Wp.block ?_
   refine sq ?_
   refine rg fun KF hKF => ?_
   refine mI rfl ?_
   refine Fo.idx (by simp only [↓nrmL, nrmK, Nat.reduceEqDiff, ↓reduceIte]; rfl) rfl ?_ (by simp only [↓nrmL, nrmZ, Nat.reduceEqDiff, ↓reduceIte, Nat.reduceAdd, Int.reduceBEq, Int.reduceBNe, hc]; rfl) ?_; (focus omega)
   refine WpO.do (WpX.ldNP (p := p) (j := i * 3) (m := 3) rfl (by decide) (by rw [cellsR_length]; omega) hcg ?_)
   try simp only [↓nrmL, nrmZ, Nat.reduceEqDiff, ↓reduceIte, Nat.reduceAdd, Int.reduceBEq, Int.reduceBNe, g1, g2]
   refine Fo.new ?_
   refine mI rfl ?_
   refine Fo.st rfl (rfl : _ = AVal.agg _) rfl rfl rfl (by repeat (first | rfl | refine allOne_cons ?_)) (by simp only [↓nrmL, nrmZ, Nat.reduceEqDiff, ↓reduceIte, Nat.reduceAdd, Int.reduceBEq, Int.reduceBNe, g1, g2]; rfl) ?_
   refine WpO.nil (hKF _ _ ?_)
   refine sq ?_
   refine sq ?_
   refine rg fun KF hKF => ?_
   refine Fo.fa rfl ?_
   refine Fo.ld rfl rfl ?_
   refine Fo.bin rfl rfl rfl (by simp only [↓nrmL, nrmZ, Nat.reduceEqDiff, ↓reduceIte, Nat.reduceAdd, Int.reduceBEq, Int.reduceBNe, g1, g2]; rfl) ?_
   refine mB rfl ?_
   refine Fo.yes rfl rfl ?_
   refine Fo.fa rfl ?_
   refine Fo.yes rfl rfl ?_
   refine Fo.ld rfl rfl ?_
   refine Fo.yes rfl rfl ?_
   refine mI rfl ?_
   refine Fo.yes rfl rfl ?_
   refine Fo.bin rfl rfl rfl (by simp only [↓nrmL, nrmZ, Nat.reduceEqDiff, ↓reduceIte, Nat.reduceAdd, Int.reduceBEq, Int.reduceBNe, g1, g2]; rfl) ?_
   refine fB rfl rfl ?_
   refine mB rfl ?_
   refine Fo.no rfl rfl ?_
   refine Fo.no rfl rfl ?_
   refine Fo.no rfl rfl ?_
   refine tB rfl rfl ?_
   refine mB rfl ?_
   refine Fo.no rfl rfl ?_
   refine Fo.no rfl rfl ?_
   refine Fo.no rfl rfl ?_
   refine Fo.no rfl rfl ?_
   refine Fo.no rfl rfl ?_
   refine tB rfl rfl ?_
   refine mB rfl ?_
   refine Fo.no rfl rfl ?_
   refine Fo.no rfl rfl ?_
   refine Fo.no rfl rfl ?_
   refine Fo.no rfl rfl ?_
   refine tB rfl rfl ?_
   refine WpO.nil (hKF _ _ ?_)
   refine Wp.cond (b := true) rfl ?_
   refine sq ?_
   refine rg fun KF hKF => ?_
   refine mB rfl ?_
   refine WpO.nil (hKF _ _ ?_)
   refine Wp.ret ?_
   dsimp only [cond_true, cond_false]
   refine ⟨trivial, _, (by first | rfl | exact getAllC rfl rfl rfl rfl | exact getAllT rfl (getAllC rfl rfl rfl rfl) | exact getAllC rfl rfl rfl (getAllC rfl rfl rfl rfl) | exact getAllC1 rfl rfl rfl), ?_⟩
   exact ⟨rfl, Ext0.ext⟩
 ·have hok : okRun r lines len = false := by unfold okRun; rw [g1]; simp
  have hoa : okAt l lines len i = false := by unfold okAt; rw [hre, hok]; rfl
  have hpf : properB l lines len = false := properTo_no hoa _ hil
  rw [hpf]
  try simp only [↓nrmL, nrmZ, Nat.reduceEqDiff, ↓reduceIte, Nat.reduceAdd, Int.reduceBEq, Int.reduceBNe, hc]
  refine sq ?_
  refine rg fun KF hKF => ?_
  refine Fo.bin rfl rfl rfl (by simp only [↓nrmL, nrmZ, Nat.reduceEqDiff, ↓reduceIte, Nat.reduceAdd, Int.reduceBEq, Int.reduceBNe, hc]; rfl) ?_
  refine WpO.nil (hKF _ _ ?_)
  refine sq ?_
  refine Wp.cond (b := true) rfl ?_
  refine Wp.skip ?_
  refine sq ?_
  refine Wp.block ?_
  refine sq ?_
  refine rg fun KF hKF => ?_
  refine mI rfl ?_
  refine Fo.idx (by simp only [↓nrmL, nrmK, Nat.reduceEqDiff, ↓reduceIte]; rfl) rfl ?_ (by simp only [↓nrmL, nrmZ, Nat.reduceEqDiff, ↓reduceIte, Nat.reduceAdd, Int.reduceBEq, Int.reduceBNe, hc]; rfl) ?_; (focus omega)
  refine WpO.do (WpX.ldNP (p := p) (j := i * 3) (m := 3) rfl (by decide) (by rw [cellsR_length]; omega) hcg ?_)
  try simp only [↓nrmL, nrmZ, Nat.reduceEqDiff, ↓reduceIte, Nat.reduceAdd, Int.reduceBEq, Int.reduceBNe, g1]
  refine Fo.new ?_
  refine mI rfl ?_
  refine Fo.st rfl (rfl : _ = AVal.agg _) rfl rfl rfl (by repeat (first | rfl | refine allOne_cons ?_)) (by simp only [↓nrmL, nrmZ, Nat.reduceEqDiff, ↓reduceIte, Nat.reduceAdd, Int.reduceBEq, Int.reduceBNe, g1]; rfl) ?_
  refine WpO.nil (hKF _ _ ?_)
  refine sq ?_
  refine sq ?_
  refine rg fun KF hKF => ?_
  refine Fo.fa rfl ?_
  refine Fo.ld rfl rfl ?_
  refine Fo.bin rfl rfl rfl (by simp only [↓nrmL, nrmZ, Nat.reduceEqDiff, ↓reduceIte, Nat.reduceAdd, Int.reduceBEq, Int.reduceBNe, g1]; rfl) ?_
  refine mB rfl ?_
  refine Fo.no rfl rfl ?_
  refine Fo.no rfl rfl ?_
  refine Fo.no rfl rfl ?_
  refine Fo.no rfl rfl ?_
  refine tB rfl rfl ?_
  refine mB rfl ?_
  refine Fo.no rfl rfl ?_
  refine Fo.no rfl rfl ?_
  refine Fo.no rfl rfl ?_
  refine tB rfl rfl ?_
  refine mB rfl ?_
  refine Fo.no rfl rfl ?_
  refine Fo.no rfl rfl ?_
  refine Fo.no rfl rfl ?_
  refine Fo.no rfl rfl ?_
  refine Fo.no rfl rfl ?_
  refine tB rfl rfl ?_
  refine mB rfl ?_
  refine Fo.no rfl rfl ?_
  refine Fo.no rfl rfl ?_
  refine Fo.no rfl rfl ?_
  refine Fo.no rfl rfl ?_
  refine tB rfl rfl ?_
  refine WpO.nil (hKF _ _ ?_)
  refine Wp.cond (b := true) rfl ?_
  refine sq ?_
  refine rg fun KF hKF => ?_
  refine mB rfl ?_
  refine WpO.nil (hKF _ _ ?_)
  refine Wp.ret ?_
  dsimp only [cond_true, cond_false]
  refine ⟨trivial, _, (by first | rfl | exact getAllC rfl rfl rfl rfl | exact getAllT rfl (getAllC rfl rfl rfl rfl) | exact getAllC rfl rfl rfl (getAllC rfl rfl rfl rfl) | exact getAllC1 rfl rfl rfl), ?_⟩
  exact ⟨rfl, Ext0.ext⟩⟩
end Go.Am

set_option maxHeartbeats 4000000
set_option maxRecDepth 100000
set_option synthInstance.maxHeartbeats 4000000
set_option synthInstance.maxSize 100000
namespace Go.Am
open Go
attribute [local irreducible] Wp WpO WpX WpE

def inRun (r : RunT) (y c : Nat) : Bool := decide (r.1 = (y : Int)) && decide (r.2.1 ≤ (c : Int)) && decide ((c : Int) ≤ r.2.2)
def prt (r : RunT) (y c x : Nat) : Bool := decide (r.1 = (y : Int)) && decide (r.2.1 ≤ (c : Int)) && decide (c < x)
/-- What the first i runs cover; and the next one, up to x. -/
def pB (l : List RunT) (L C : Nat → Nat) (i k : Nat) : Bool := (l.take i).any fun r => inRun r (L k) (C k)
def pP (l : List RunT) (L C : Nat → Nat) (i x k : Nat) : Bool := pB l L C i k || prt (l.getD i run0) (L k) (C k) x
def paint (l : List RunT) (L C : Nat → Nat) (n : Nat) : List UInt8 := (List.range n).map fun k => if (l.any fun r => inRun r (L k) (C k)) = true then 1 else 0
theorem pP_start {l : List RunT} {L C : Nat → Nat} {i f k : Nat} (h : (l.getD i run0).2.1 = (f : Int)) : pP l L C i f k = pB l L C i k := by
 have : prt (l.getD i run0) (L k) (C k) f = false := by
  unfold prt
  rw [h]
  by_cases h1 : C k < f
  ·have h2 : ¬ ((f : Int) ≤ (C k : Int)) := by omega
   rw [decide_eq_false h2]; simp
  ·rw [decide_eq_false h1]; simp
 unfold pP
 rw [this, Bool.or_false]
theorem pP_next {l : List RunT} {L C : Nat → Nat} {i m x j k : Nat} (h1 : (l.getD i run0).1 = (m : Int)) (h2 : (l.getD i run0).2.1 ≤ (x : Int)) (hj : k = j ↔ (L k = m ∧ C k = x)) : pP l L C i (x + 1) k = true ↔ pP l L C i x k = true ∨ k = j := by
 rw [hj]
 unfold pP prt
 rw [h1]
 cases hb : pB l L C i k
 ·simp only [Bool.false_or, Bool.and_eq_true, decide_eq_true_eq]
  constructor
  ·rintro ⟨⟨a, b⟩, c⟩
   by_cases hc : C k < x
   ·exact Or.inl ⟨⟨a, b⟩, hc⟩
   ·exact Or.inr ⟨by omega, by omega⟩
  ·rintro (⟨⟨a, b⟩, c⟩ | ⟨a, b⟩)
   ·exact ⟨⟨a, b⟩, by omega⟩
   ·exact ⟨⟨by omega, by rw [b]; exact h2⟩, by omega⟩
 ·simp
theorem pB_succ {l : List RunT} {L C : Nat → Nat} {i k : Nat} (hi : i < l.length) : pB l L C (i + 1) k = (pB l L C i k || inRun (l.getD i run0) (L k) (C k)) := by
 unfold pB
 have e : l.getD i run0 = l[i] := by simp [hi]
 rw [List.take_succ_eq_append_getElem hi, List.any_append, e]
 simp
theorem pP_end {l : List RunT} {L C : Nat → Nat} {i t k : Nat} (hi : i < l.length) (h : (l.getD i run0).2.2 = (t : Int)) : pP l L C i (t + 1) k = pB l L C (i + 1) k := by
 rw [pB_succ hi]
 unfold pP prt inRun
 rw [h]
 have : decide (C k < t + 1) = decide ((C k : Int) ≤ (t : Int)) := by
  by_cases h1 : C k < t + 1
  ·rw [decide_eq_true h1, decide_eq_true (by omega)]
  ·rw [decide_eq_false h1, decide_eq_false (by omega)]
 rw [this]
theorem okRun_facts {r : RunT} {lines len : Nat} (h : okRun r lines len = true) : ∃ m f t : Nat, r.1 = m ∧ r.2.1 = f ∧ r.2.2 = t ∧ m < lines ∧ f ≤ t ∧ t < len := by
 unfold okRun at h
 simp only [Bool.and_eq_true, Bool.not_eq_true', decide_eq_false_iff_not] at h
 exact ⟨r.1.toNat, r.2.1.toNat, r.2.2.toNat, by omega, by omega, by omega, by omega, by omega, by omega⟩
theorem okAt_run {l : List RunT} {lines len : Int} {i : Nat} (h : okAt l lines len i = true) : okRun (l.getD i run0) lines len = true := by
 unfold okAt at h
 rw [Bool.and_eq_true] at h
 exact h.1
def fromSpec (w h : Int) (l : List RunT) (lines len : Int) (L C : Nat → Nat) : Img × Int := bif sideB w && sideB h then (bif properB l lines len then (⟨w, h, paint l L C (w.toNat * h.toNat)⟩, 0) else (.zero, 1)) else (.zero, 2)
def rowsImg (w h : Int) (l : List RunT) : Img × Int := fromSpec w h l h w (fun k => k / w.toNat) (fun k => k % w.toNat)
def colsImg (w h : Int) (l : List RunT) : Img × Int := fromSpec w h l w h (fun k => k % w.toNat) (fun k => k / w.toNat)

theorem K_FromRows {w h : Int} {p : AVal} {H : AHeap} {l : List RunT} [hp : RunsI H p l] [hs : ShortR l] : Con ext prog 5 56 [.int .i64 w, .int .i64 h, p] H fun v H' => InkRes H H' v (rowsImg w h l) := by
 refine con_of (show prog 56 = some c56 from rfl) rfl rfl fun n hn => ?_
 haveI := hp.one
 have hsl := hs.le
 unfold rowsImg fromSpec
 cases hside : (sideB w && sideB h)
 ·skip
  refine sq ?_
  refine rg fun KF hKF => ?_
  refine Fo.new ?_
  refine mI rfl ?_
  refine WpO.nil (hKF _ _ ?_)
  refine sq ?_
  refine rg fun KF hKF => ?_
  refine mI rfl ?_
  refine mI rfl ?_
  refine WpO.do (WpX.conD hn rfl rfl (by simp only [↓nrmL, nrmZ, Nat.reduceEqDiff, ↓reduceIte, Nat.reduceAdd, Int.reduceBEq, Int.reduceBNe, List.map] <;> rfl) (K_New (w := w) (h := h)) fun v H1 h5 => ?_)
  rw [hside] at h5
  obtain ⟨u, e1, q, e2, hq, hf, hw, hx⟩ := h5
  subst e1 e2
  haveI : ExtI _ H1 := ⟨hx⟩
  haveI := hq.one
  refine mT rfl ?_
  refine Fo.extr rfl rfl ?_
  refine Fo.extr rfl rfl ?_
  refine Fo.new ?_
  refine Fo.st rfl (rfl : _ = AVal.agg _) rfl rfl rfl (by repeat (first | rfl | refine allOne_cons ?_)) (by simp only [↓nrmL, nrmZ, Nat.reduceEqDiff, ↓reduceIte, Nat.reduceAdd, Int.reduceBEq, Int.reduceBNe]; rfl) ?_
  refine mI rfl ?_
  refine WpO.nil (hKF _ _ ?_)
  refine sq ?_
  refine sq ?_
  refine rg fun KF hKF => ?_
  refine mI rfl ?_
  refine Fo.bin rfl rfl rfl rfl ?_
  refine WpO.nil (hKF _ _ ?_)
  refine Wp.cond (b := true) rfl ?_
  refine sq ?_
  refine rg fun KF hKF => ?_
  refine Fo.build (by repeat (first | refine aFill1 (by first | exact (rfl : _ = AVal.int _ _) | exact (rfl : _ = AVal.ptr _ _) | exact (rfl : _ = AVal.bool _) | exact (rfl : _ = AVal.agg _) | exact (rfl : _ = AVal.tuple _) | exact (rfl : _ = AVal.func _ _ _) | exact (rfl : _ = AVal.nslice) | ((try simp only [↓nrmL, nrmK, Nat.reduceEqDiff, ↓reduceIte]); rfl)) rfl ?_ | rfl)) rfl ?_
  refine mI rfl ?_
  refine Fo.st rfl (rfl : _ = AVal.agg _) rfl rfl rfl (by repeat (first | rfl | refine allOne_cons ?_)) (by simp only [↓nrmL, nrmZ, Nat.reduceEqDiff, ↓reduceIte, Nat.reduceAdd, Int.reduceBEq, Int.reduceBNe]; rfl) ?_
  refine mI rfl ?_
  refine WpO.nil (hKF _ _ ?_)
  refine Wp.ret ?_
  dsimp only [cond_true, cond_false]
  refine ⟨trivial, _, (by first | rfl | exact getAllC rfl rfl rfl rfl | exact getAllT rfl (getAllC rfl rfl rfl rfl) | exact getAllC rfl rfl rfl (getAllC rfl rfl rfl rfl) | exact getAllC1 rfl rfl rfl), ?_⟩
  exact ⟨_, rfl, newZero⟩
 obtain ⟨a, b, rfl, rfl, ha, hb⟩ : ∃ a b : Nat, w = a ∧ h = b ∧ a ≤ 640 ∧ b ≤ 640 := by
  simp only [sideB, Bool.and_eq_true, decide_eq_true_eq] at hside
  exact ⟨w.toNat, h.toNat, by omega, by omega, by omega, by omega⟩
 have hm : a * b ≤ 640 * 640 := Nat.mul_le_mul ha hb
 simp only [Int.toNat_natCast, cond_true]
 cases hpr : properB l (b : Nat) (a : Nat)
 ·skip
  refine sq ?_
  refine rg fun KF hKF => ?_
  refine Fo.new ?_
  refine mI rfl ?_
  refine WpO.nil (hKF _ _ ?_)
  refine sq ?_
  refine rg fun KF hKF => ?_
  refine mI rfl ?_
  refine mI rfl ?_
  refine WpO.do (WpX.conD hn rfl rfl (by simp only [↓nrmL, nrmZ, Nat.reduceEqDiff, ↓reduceIte, Nat.reduceAdd, Int.reduceBEq, Int.reduceBNe, List.map] <;> rfl) (K_New (w := a) (h := b)) fun v H1 h5 => ?_)
  rw [hside] at h5
  obtain ⟨u, e1, q, e2, hq, hf, hwq, hx⟩ := h5
  subst e1 e2
  haveI : ExtI _ H1 := ⟨hx⟩
  haveI := hq.one
  try simp only [↓nrmL, nrmZ, Nat.reduceEqDiff, ↓reduceIte, Nat.reduceAdd, Int.reduceBEq, Int.reduceBNe, hpr]
  refine mT rfl ?_
  refine Fo.extr rfl rfl ?_
  refine Fo.extr rfl rfl ?_
  refine Fo.new ?_
  refine Fo.st rfl (rfl : _ = AVal.agg _) rfl rfl rfl (by repeat (first | rfl | refine allOne_cons ?_)) (by simp only [↓nrmL, nrmZ, Nat.reduceEqDiff, ↓reduceIte, Nat.reduceAdd, Int.reduceBEq, Int.reduceBNe, hpr]; rfl) ?_
  refine mI rfl ?_
  refine WpO.nil (hKF _ _ ?_)
  refine sq ?_
  refine sq ?_
  refine rg fun KF hKF => ?_
  refine mI rfl ?_
  refine Fo.bin rfl rfl rfl rfl ?_
  refine WpO.nil (hKF _ _ ?_)
  refine Wp.cond (b := false) rfl ?_
  refine Wp.skip ?_
  refine sq ?_
  refine sq ?_
  refine rg fun KF hKF => ?_
  refine Fo.mov (by simp only [↓nrmL, nrmK, Nat.reduceEqDiff, ↓reduceIte]; rfl) ?_
  refine mI rfl ?_
  refine mI rfl ?_
  refine Fo.pcall (v' := ?_) hn rfl (by simp only [↓nrmL, nrmZ, Nat.reduceEqDiff, ↓reduceIte, Nat.reduceAdd, Int.reduceBEq, Int.reduceBNe, hpr, List.map]; rfl) rfl ?hv fun _ _ => ?_; case hv => (simp only [↓nrmL, nrmZ, Nat.reduceEqDiff, ↓reduceIte, Nat.reduceAdd, Int.reduceBEq, Int.reduceBNe, hpr]; rfl)
  refine Fo.now rfl rfl (by simp only [↓nrmL, nrmZ, Nat.reduceEqDiff, ↓reduceIte, Nat.reduceAdd, Int.reduceBEq, Int.reduceBNe, hpr]; rfl) ?_
  refine WpO.nil (hKF _ _ ?_)
  refine Wp.cond (b := true) rfl ?_
  refine sq ?_
  refine rg fun KF hKF => ?_
  refine Fo.build (by repeat (first | refine aFill1 (by first | exact (rfl : _ = AVal.int _ _) | exact (rfl : _ = AVal.ptr _ _) | exact (rfl : _ = AVal.bool _) | exact (rfl : _ = AVal.agg _) | exact (rfl : _ = AVal.tuple _) | exact (rfl : _ = AVal.func _ _ _) | exact (rfl : _ = AVal.nslice) | ((try simp only [↓nrmL, nrmK, Nat.reduceEqDiff, ↓reduceIte]); rfl)) rfl ?_ | rfl)) rfl ?_
  refine Fo.st rfl (rfl : _ = AVal.agg _) rfl rfl rfl (by repeat (first | rfl | refine allOne_cons ?_)) (by simp only [↓nrmL, nrmZ, Nat.reduceEqDiff, ↓reduceIte, Nat.reduceAdd, Int.reduceBEq, Int.reduceBNe, hpr]; rfl) ?_
  refine mI rfl ?_
  refine WpO.nil (hKF _ _ ?_)
  refine Wp.ret ?_
  dsimp only [cond_true, cond_false]
  refine ⟨trivial, _, (by first | rfl | exact getAllC rfl rfl rfl rfl | exact getAllT rfl (getAllC rfl rfl rfl rfl) | exact getAllC rfl rfl rfl (getAllC rfl rfl rfl rfl) | exact getAllC1 rfl rfl rfl), ?_⟩
  exact ⟨_, rfl, newZero⟩
 refine sq ?_
 refine rg fun KF hKF => ?_
 refine Fo.new ?_
 refine mI rfl ?_
 refine WpO.nil (hKF _ _ ?_)
 refine sq ?_
 refine rg fun KF hKF => ?_
 refine mI rfl ?_
 refine mI rfl ?_
 refine WpO.do (WpX.conD hn rfl rfl (by simp only [↓nrmL, nrmZ, Nat.reduceEqDiff, ↓reduceIte, Nat.reduceAdd, Int.reduceBEq, Int.reduceBNe, List.map] <;> rfl) (K_New (w := a) (h := b)) fun v H1 h5 => ?_)
 rw [hside] at h5
 obtain ⟨u, e1, q, e2, hq, hf, hwq, hx⟩ := h5
 subst e1 e2
 have hq : BytesI H1 q (List.replicate (a * b) 0) := by
  have := hq
  simp only [cond_true, Int.toNat_natCast] at this
  exact this
 haveI : ExtI _ H1 := ⟨hx⟩
 haveI := hq.one
 try simp only [↓nrmL, nrmZ, Nat.reduceEqDiff, ↓reduceIte, Nat.reduceAdd, Int.reduceBEq, Int.reduceBNe, hpr]
 refine mT rfl ?_
 refine Fo.extr rfl rfl ?_
 refine Fo.extr rfl rfl ?_
 refine Fo.new ?_
 refine Fo.st rfl (rfl : _ = AVal.agg _) rfl rfl rfl (by repeat (first | rfl | refine allOne_cons ?_)) (by simp only [↓nrmL, nrmZ, Nat.reduceEqDiff, ↓reduceIte, Nat.reduceAdd, Int.reduceBEq, Int.reduceBNe, hpr]; rfl) ?_
 refine mI rfl ?_
 refine WpO.nil (hKF _ _ ?_)
 refine sq ?_
 refine sq ?_
 refine rg fun KF hKF => ?_
 refine mI rfl ?_
 refine Fo.bin rfl rfl rfl rfl ?_
 refine WpO.nil (hKF _ _ ?_)
 refine Wp.cond (b := false) rfl ?_
 refine Wp.skip ?_
 refine sq ?_
 refine sq ?_
 refine rg fun KF hKF => ?_
 refine Fo.mov (by simp only [↓nrmL, nrmK, Nat.reduceEqDiff, ↓reduceIte]; rfl) ?_
 refine mI rfl ?_
 refine mI rfl ?_
 refine Fo.pcall (v' := ?_) hn rfl (by simp only [↓nrmL, nrmZ, Nat.reduceEqDiff, ↓reduceIte, Nat.reduceAdd, Int.reduceBEq, Int.reduceBNe, hpr, List.map]; rfl) rfl ?hv fun _ _ => ?_; case hv => (simp only [↓nrmL, nrmZ, Nat.reduceEqDiff, ↓reduceIte, Nat.reduceAdd, Int.reduceBEq, Int.reduceBNe, hpr]; rfl)
 refine Fo.now rfl rfl (by simp only [↓nrmL, nrmZ, Nat.reduceEqDiff, ↓reduceIte, Nat.reduceAdd, Int.reduceBEq, Int.reduceBNe, hpr]; rfl) ?_
 refine WpO.nil (hKF _ _ ?_)
 refine Wp.cond (b := false) rfl ?_
 refine Wp.skip ?_
 refine sq ?_
 refine sq ?_
 refine rg fun KF hKF => ?_
 refine Fo.mov (by simp only [↓nrmL, nrmK, Nat.reduceEqDiff, ↓reduceIte]; rfl) ?_
 refine Fo.len (v := ?_) (by simp only [↓nrmL, nrmK, Nat.reduceEqDiff, ↓reduceIte]; rfl) ?hv ?_; case hv => rfl
 refine mI rfl ?_
 refine WpO.nil (hKF _ _ ?_)
 refine Wp.block ?_
 dsimp only [cond_true, cond_false]
 refine Wp.loopS [11, 12, 31, 32, 33, 34, 35, 36, 37, 38, 39, 40, 41, 42, 43, 44, 45, 46, 47, 48, 49, 50, 51, 52] (fun i : Nat => [(31, .int .i64 i)]) (fun H3 i H2 => i ≤ l.length ∧ BytesI H2 q (fillP (pB l (fun k => k / a) (fun k => k % a) i) (fun _ => 1) (a * b)) ∧ WrS H2 q ∧ ExtP0 H3 H2 q) (fun i => l.length - i) 0 rfl (fun _ => rfl) ⟨rfl, trivial⟩ ⟨Nat.zero_le _, by rw [fillP_none (P := pB l (fun k => k / a) (fun k => k % a) 0) (fun k _ => by simp [pB])]; infer_instance, inferInstance, inferInstance⟩ (by unfold fuel0 at hn; omega) ?_
 rintro i g H2 ⟨hi, hb2, hw2, ⟨hx2⟩⟩
 simp only [↓nrmL, nrmZ, Nat.reduceEqDiff, ↓reduceIte, Nat.reduceAdd, Int.reduceBEq, Int.reduceBNe]
 cases hc : decide ((i : Int) < (l.length : Int))
 ·have hil : i = l.length := by have := of_decide_eq_false hc; omega
  try simp only [↓nrmL, nrmZ, Nat.reduceEqDiff, ↓reduceIte, Nat.reduceAdd, Int.reduceBEq, Int.reduceBNe, hc]
  refine sq ?_
  refine rg fun KF hKF => ?_
  refine Fo.bin rfl rfl rfl (by simp only [↓nrmL, nrmZ, Nat.reduceEqDiff, ↓reduceIte, Nat.reduceAdd, Int.reduceBEq, Int.reduceBNe, hc]; rfl) ?_
  refine WpO.nil (hKF _ _ ?_)
  refine sq ?_
  refine Wp.cond (b := false) rfl ?_
  refine Wp.exit ?_
  refine sq ?_
  refine rg fun KF hKF => ?_
  refine Fo.ldN rfl rfl (by simp only [↓nrmL, nrmZ, Nat.reduceEqDiff, ↓reduceIte, Nat.reduceAdd, Int.reduceBEq, Int.reduceBNe, hc]; rfl) ?_
  refine Fo.st rfl (rfl : _ = AVal.agg _) rfl rfl rfl (by repeat (first | rfl | refine allOne_cons ?_)) (by simp only [↓nrmL, nrmZ, Nat.reduceEqDiff, ↓reduceIte, Nat.reduceAdd, Int.reduceBEq, Int.reduceBNe, hc]; rfl) ?_
  refine mI rfl ?_
  refine WpO.nil (hKF _ _ ?_)
  refine Wp.ret ?_
  dsimp only [cond_true, cond_false]
  refine ⟨trivial, _, (by first | rfl | exact getAllC rfl rfl rfl rfl | exact getAllT rfl (getAllC rfl rfl rfl rfl) | exact getAllC rfl rfl rfl (getAllC rfl rfl rfl rfl) | exact getAllC1 rfl rfl rfl), ?_⟩
  refine ⟨_, rfl, q, rfl, (show BytesI _ q (paint l (fun k => k / a) (fun k => k % a) (a * b)) from ?_), hf.weak, inferInstance, Ext0.ext⟩
  have e : fillP (pB l (fun k => k / a) (fun k => k % a) i) (fun _ => 1) (a * b) = paint l (fun k => k / a) (fun k => k % a) (a * b) := by
   unfold fillP paint pB
   rw [hil, List.take_length]
  rw [← e]
  infer_instance
 have hil : i < l.length := by have := of_decide_eq_true hc; omega
 have hw1 := wa1 (a := i) (by omega)
 have hcg := cellsR_get (l := l) (i := i) hil
 obtain ⟨m, f, t, em, ef, et, hmb, hft, hta⟩ := okRun_facts (okAt_run (properTo_get hpr i hil))
 rw [em, ef, et] at hcg
 try simp only [↓nrmL, nrmZ, Nat.reduceEqDiff, ↓reduceIte, Nat.reduceAdd, Int.reduceBEq, Int.reduceBNe, hc]
 refine sq ?_
 refine rg fun KF hKF => ?_
 refine Fo.bin rfl rfl rfl (by simp only [↓nrmL, nrmZ, Nat.reduceEqDiff, ↓reduceIte, Nat.reduceAdd, Int.reduceBEq, Int.reduceBNe, hc]; rfl) ?_
 refine WpO.nil (hKF _ _ ?_)
 refine sq ?_
 refine Wp.cond (b := true) rfl ?_
 refine Wp.skip ?_
 refine sq ?_
 refine Wp.block ?_
 refine sq ?_
 refine rg fun KF hKF => ?_
 refine Fo.idx (by simp only [↓nrmL, nrmK, Nat.reduceEqDiff, ↓reduceIte]; rfl) rfl ?_ (by simp only [↓nrmL, nrmZ, Nat.reduceEqDiff, ↓reduceIte, Nat.reduceAdd, Int.reduceBEq, Int.reduceBNe, hc]; rfl) ?_; (focus omega)
 refine WpO.do (WpX.ldNP (p := p) (j := i * 3) (m := 3) rfl (by decide) (by rw [cellsR_length]; omega) hcg ?_)
 refine Fo.new ?_
 refine Fo.st rfl (rfl : _ = AVal.agg _) rfl rfl rfl (by repeat (first | rfl | refine allOne_cons ?_)) (by simp only [↓nrmL, nrmZ, Nat.reduceEqDiff, ↓reduceIte, Nat.reduceAdd, Int.reduceBEq, Int.reduceBNe]; rfl) ?_
 refine WpO.nil (hKF _ _ ?_)
 refine sq ?_
 refine rg fun KF hKF => ?_
 refine Fo.fa rfl ?_
 refine Fo.ld rfl rfl ?_
 refine mI rfl ?_
 refine WpO.nil (hKF _ _ ?_)
 refine Wp.block ?_
 dsimp only [cond_true, cond_false]
 refine Wp.loopS [12, 37, 38, 39, 40, 41, 42, 43, 44, 45, 46, 47, 48, 49, 50, 51] (fun x : Nat => [(12, .int .i64 x)]) (fun H3 x H4 => f ≤ x ∧ x ≤ t + 1 ∧ BytesI H4 q (fillP (pP l (fun k => k / a) (fun k => k % a) i x) (fun _ => 1) (a * b)) ∧ WrS H4 q ∧ ExtP0 H3 H4 q) (fun x => t + 1 - x) f rfl (fun _ => rfl) ⟨rfl, trivial⟩ ⟨Nat.le_refl _, by omega, by rw [show fillP (pP l (fun k => k / a) (fun k => k % a) i f) (fun _ => 1) (a * b) = fillP (pB l (fun k => k / a) (fun k => k % a) i) (fun _ => 1) (a * b) from by unfold fillP; simp only [pP_start ef]]; infer_instance, inferInstance, inferInstance⟩ (by unfold fuel0 at hn; omega) ?_
 rintro x g2 H4 ⟨hfx, hxt, hb4, hw4, ⟨hx4⟩⟩
 have hw3 := wa1 (a := x) (by omega)
 simp only [↓nrmL, nrmZ, Nat.reduceEqDiff, ↓reduceIte, Nat.reduceAdd, Int.reduceBEq, Int.reduceBNe]
 cases hc2 : decide ((x : Int) ≤ (t : Int))
 ·have hxe : x = t + 1 := by have := of_decide_eq_false hc2; omega
  have e : fillP (pP l (fun k => k / a) (fun k => k % a) i x) (fun _ => 1) (a * b) = fillP (pB l (fun k => k / a) (fun k => k % a) (i + 1)) (fun _ => 1) (a * b) := by
   rw [hxe]; unfold fillP; simp only [pP_end hil et]
  rw [e] at hb4
  try simp only [↓nrmL, nrmZ, Nat.reduceEqDiff, ↓reduceIte, Nat.reduceAdd, Int.reduceBEq, Int.reduceBNe, hc2]
  refine sq ?_
  refine sq ?_
  refine rg fun KF hKF => ?_
  refine mI rfl ?_
  refine Fo.fa rfl ?_
  refine Fo.ld rfl rfl ?_
  refine Fo.bin rfl rfl rfl (by simp only [↓nrmL, nrmZ, Nat.reduceEqDiff, ↓reduceIte, Nat.reduceAdd, Int.reduceBEq, Int.reduceBNe, hc2]; rfl) ?_
  refine WpO.nil (hKF _ _ ?_)
  refine Wp.cond (b := false) rfl ?_
  refine Wp.exit ?_
  refine rg fun KF hKF => ?_
  refine Fo.bin rfl rfl rfl rfl ?_
  refine mI rfl ?_
  refine WpO.nil (hKF _ _ ?_)
  dsimp only [cond_true, cond_false]
  refine ⟨i + 1, by omega, ⟨by simp only [↓nrmL, nrmZ, Nat.reduceEqDiff, ↓reduceIte, Nat.reduceAdd, Int.reduceBEq, Int.reduceBNe]; rw [hw1], trivial⟩, hil, inferInstance, inferInstance, inferInstance⟩
 ·have hxl : x ≤ t := by have := of_decide_eq_true hc2; omega
  have hlt := idx_lt (x := x) (y := m) (w := a) (h := b) (by omega) (by omega)
  have hfl := fillP_length (pP l (fun k => k / a) (fun k => k % a) i x) (fun _ => 1) (a * b)
  have hmu : m * a ≤ 640 * 640 := Nat.mul_le_mul (by omega) ha
  have k1 : IntKind.i64.wrap (((m : Nat) : Int) * (a : Int)) = ((m * a : Nat) : Int) := wm (by omega)
  have k2 : IntKind.i64.wrap (((m * a : Nat) : Int) + ((x : Nat) : Int)) = ((m * a + x : Nat) : Int) := wa (by omega)
  try simp only [↓nrmL, nrmZ, Nat.reduceEqDiff, ↓reduceIte, Nat.reduceAdd, Int.reduceBEq, Int.reduceBNe, hc2, k1, k2]
  refine sq ?_
  refine sq ?_
  refine rg fun KF hKF => ?_
  refine mI rfl ?_
  refine Fo.fa rfl ?_
  refine Fo.ld rfl rfl ?_
  refine Fo.bin rfl rfl rfl (by simp only [↓nrmL, nrmZ, Nat.reduceEqDiff, ↓reduceIte, Nat.reduceAdd, Int.reduceBEq, Int.reduceBNe, hc2, k1, k2]; rfl) ?_
  refine WpO.nil (hKF _ _ ?_)
  refine Wp.cond (b := true) rfl ?_
  refine Wp.skip ?_
  refine sq ?_
  refine Wp.block ?_
  refine rg fun KF hKF => ?_
  refine Fo.fa rfl ?_
  refine Fo.ld rfl rfl ?_
  refine Fo.fa rfl ?_
  refine Fo.ld rfl rfl ?_
  refine mI rfl ?_
  refine Fo.bin rfl rfl rfl (by simp only [↓nrmL, nrmZ, Nat.reduceEqDiff, ↓reduceIte, Nat.reduceAdd, Int.reduceBEq, Int.reduceBNe, hc2, k1, k2]; rfl) ?_
  refine mI rfl ?_
  refine Fo.bin rfl rfl rfl (by simp only [↓nrmL, nrmZ, Nat.reduceEqDiff, ↓reduceIte, Nat.reduceAdd, Int.reduceBEq, Int.reduceBNe, hc2, k1, k2]; rfl) ?_
  refine Fo.idx (by simp only [↓nrmL, nrmK, Nat.reduceEqDiff, ↓reduceIte]; rfl) rfl ?_ (by simp only [↓nrmL, nrmZ, Nat.reduceEqDiff, ↓reduceIte, Nat.reduceAdd, Int.reduceBEq, Int.reduceBNe, hc2, k1, k2]; rfl) ?_; (focus omega)
  refine WpO.do' (WpX.stB (p := q) (j := m * a + x) (l := fillP (pP l (fun k => k / a) (fun k => k % a) i x) (fun _ => 1) (a * b)) 1 rfl rfl rfl (by rw [hfl]; exact hlt) fun H6 hb6 hw6 hx6 => ?_)
  rw [fillP_set (Q := pP l (fun k => k / a) (fun k => k % a) i (x + 1)) (f := fun _ => 1) (fun k _ => pP_next em (by rw [ef]; omega) ((flp_iff (b := a) (x := m) (y := x) (by omega)).trans And.comm))] at hb6
  refine WpO.nil (hKF _ _ ?_)
  refine rg fun KF hKF => ?_
  refine mI rfl ?_
  refine Fo.bin rfl rfl rfl rfl ?_
  refine mI rfl ?_
  refine WpO.nil (hKF _ _ ?_)
  dsimp only [cond_true, cond_false]
  refine ⟨x + 1, by omega, ⟨by simp only [↓nrmL, nrmZ, Nat.reduceEqDiff, ↓reduceIte, Nat.reduceAdd, Int.reduceBEq, Int.reduceBNe]; rw [hw3], trivial⟩, by omega, by omega, hb6, hw6, inferInstance⟩

theorem K_FromColumns {w h : Int} {p : AVal} {H : AHeap} {l : List RunT} [hp : RunsI H p l] [hs : ShortR l] : Con ext prog 5 58 [.int .i64 w, .int .i64 h, p] H fun v H' => InkRes H H' v (colsImg w h l) := by
 refine con_of (show prog 58 = some c58 from rfl) rfl rfl fun n hn => ?_
 haveI := hp.one
 have hsl := hs.le
 unfold colsImg fromSpec
 cases hside : (sideB w && sideB h)
 ·skip
  refine sq ?_
  refine rg fun KF hKF => ?_
  refine Fo.new ?_
  refine mI rfl ?_
  refine WpO.nil (hKF _ _ ?_)
  refine sq ?_
  refine rg fun KF hKF => ?_
  refine mI rfl ?_
  refine mI rfl ?_
  refine WpO.do (WpX.conD hn rfl rfl (by simp only [↓nrmL, nrmZ, Nat.reduceEqDiff, ↓reduceIte, Nat.reduceAdd, Int.reduceBEq, Int.reduceBNe, List.map] <;> rfl) (K_New (w := w) (h := h)) fun v H1 h5 => ?_)
  rw [hside] at h5
  obtain ⟨u, e1, q, e2, hq, hf, hw, hx⟩ := h5
  subst e1 e2
  haveI : ExtI _ H1 := ⟨hx⟩
  haveI := hq.one
  refine mT rfl ?_
  refine Fo.extr rfl rfl ?_
  refine Fo.extr rfl rfl ?_
  refine Fo.new ?_
  refine Fo.st rfl (rfl : _ = AVal.agg _) rfl rfl rfl (by repeat (first | rfl | refine allOne_cons ?_)) (by simp only [↓nrmL, nrmZ, Nat.reduceEqDiff, ↓reduceIte, Nat.reduceAdd, Int.reduceBEq, Int.reduceBNe]; rfl) ?_
  refine mI rfl ?_
  refine WpO.nil (hKF _ _ ?_)
  refine sq ?_
  refine sq ?_
  refine rg fun KF hKF => ?_
  refine mI rfl ?_
  refine Fo.bin rfl rfl rfl rfl ?_
  refine WpO.nil (hKF _ _ ?_)
  refine Wp.cond (b := true) rfl ?_
  refine sq ?_
  refine rg fun KF hKF => ?_
  refine Fo.build (by repeat (first | refine aFill1 (by first | exact (rfl : _ = AVal.int _ _) | exact (rfl : _ = AVal.ptr _ _) | exact (rfl : _ = AVal.bool _) | exact (rfl : _ = AVal.agg _) | exact (rfl : _ = AVal.tuple _) | exact (rfl : _ = AVal.func _ _ _) | exact (rfl : _ = AVal.nslice) | ((try simp only [↓nrmL, nrmK, Nat.reduceEqDiff, ↓reduceIte]); rfl)) rfl ?_ | rfl)) rfl ?_
  refine mI rfl ?_
  refine Fo.st rfl (rfl : _ = AVal.agg _) rfl rfl rfl (by repeat (first | rfl | refine allOne_cons ?_)) (by simp only [↓nrmL, nrmZ, Nat.reduceEqDiff, ↓reduceIte, Nat.reduceAdd, Int.reduceBEq, Int.reduceBNe]; rfl) ?_
  refine mI rfl ?_
  refine WpO.nil (hKF _ _ ?_)
  refine Wp.ret ?_
  dsimp only [cond_true, cond_false]
  refine ⟨trivial, _, (by first | rfl | exact getAllC rfl rfl rfl rfl | exact getAllT rfl (getAllC rfl rfl rfl rfl) | exact getAllC rfl rfl rfl (getAllC rfl rfl rfl rfl) | exact getAllC1 rfl rfl rfl), ?_⟩
  exact ⟨_, rfl, newZero⟩
 obtain ⟨a, b, rfl, rfl, ha, hb⟩ : ∃ a b : Nat, w = a ∧ h = b ∧ a ≤ 640 ∧ b ≤ 640 := by
  simp only [sideB, Bool.and_eq_true, decide_eq_true_eq] at hside
  exact ⟨w.toNat, h.toNat, by omega, by omega, by omega, by omega⟩
 have hm : a * b ≤ 640 * 640 := Nat.mul_le_mul ha hb
 simp only [Int.toNat_natCast, cond_true]
 cases hpr : properB l (a : Nat) (b : Nat)
 ·skip
  refine sq ?_
  refine rg fun KF hKF => ?_
  refine Fo.new ?_
  refine mI rfl ?_
  refine WpO.nil (hKF _ _ ?_)
  refine sq ?_
  refine rg fun KF hKF => ?_
  refine mI rfl ?_
  refine mI rfl ?_
  refine WpO.do (WpX.conD hn rfl rfl (by simp only [↓nrmL, nrmZ, Nat.reduceEqDiff, ↓reduceIte, Nat.reduceAdd, Int.reduceBEq, Int.reduceBNe, List.map] <;> rfl) (K_New (w := a) (h := b)) fun v H1 h5 => ?_)
  rw [hside] at h5
  obtain ⟨u, e1, q, e2, hq, hf, hwq, hx⟩ := h5
  subst e1 e2
  haveI : ExtI _ H1 := ⟨hx⟩
  haveI := hq.one
  try simp only [↓nrmL, nrmZ, Nat.reduceEqDiff, ↓reduceIte, Nat.reduceAdd, Int.reduceBEq, Int.reduceBNe, hpr]
  refine mT rfl ?_
  refine Fo.extr rfl rfl ?_
  refine Fo.extr rfl rfl ?_
  refine Fo.new ?_
  refine Fo.st rfl (rfl : _ = AVal.agg _) rfl rfl rfl (by repeat (first | rfl | refine allOne_cons ?_)) (by simp only [↓nrmL, nrmZ, Nat.reduceEqDiff, ↓reduceIte, Nat.reduceAdd, Int.reduceBEq, Int.reduceBNe, hpr]; rfl) ?_
  refine mI rfl ?_
  refine WpO.nil (hKF _ _ ?_)
  refine sq ?_
  refine sq ?_
  refine rg fun KF hKF => ?_
  refine mI rfl ?_
  refine Fo.bin rfl rfl rfl rfl ?_
  refine WpO.nil (hKF _ _ ?_)
  refine Wp.cond (b := false) rfl ?_
  refine Wp.skip ?_
  refine sq ?_
  refine sq ?_
  refine rg fun KF hKF => ?_
  refine Fo.mov (by simp only [↓nrmL, nrmK, Nat.reduceEqDiff, ↓reduceIte]; rfl) ?_
  refine mI rfl ?_
  refine mI rfl ?_
  refine Fo.pcall (v' := ?_) hn rfl (by simp only [↓nrmL, nrmZ, Nat.reduceEqDiff, ↓reduceIte, Nat.reduceAdd, Int.reduceBEq, Int.reduceBNe, hpr, List.map]; rfl) rfl ?hv fun _ _ => ?_; case hv => (simp only [↓nrmL, nrmZ, Nat.reduceEqDiff, ↓reduceIte, Nat.reduceAdd, Int.reduceBEq, Int.reduceBNe, hpr]; rfl)
  refine Fo.now rfl rfl (by simp only [↓nrmL, nrmZ, Nat.reduceEqDiff, ↓reduceIte, Nat.reduceAdd, Int.reduceBEq, Int.reduceBNe, hpr]; rfl) ?_
  refine WpO.nil (hKF _ _ ?_)
  refine Wp.cond (b := true) rfl ?_
  refine sq ?_
  refine rg fun KF hKF => ?_
  refine Fo.build (by repeat (first | refine aFill1 (by first | exact (rfl : _ = AVal.int _ _) | exact (rfl : _ = AVal.ptr _ _) | exact (rfl : _ = AVal.bool _) | exact (rfl : _ = AVal.agg _) | exact (rfl : _ = AVal.tuple _) | exact (rfl : _ = AVal.func _ _ _) | exact (rfl : _ = AVal.nslice) | ((try simp only [↓nrmL, nrmK, Nat.reduceEqDiff, ↓reduceIte]); rfl)) rfl ?_ | rfl)) rfl ?_
  refine Fo.st rfl (rfl : _ = AVal.agg _) rfl rfl rfl (by repeat (first | rfl | refine allOne_cons ?_)) (by simp only [↓nrmL, nrmZ, Nat.reduceEqDiff, ↓reduceIte, Nat.reduceAdd, Int.reduceBEq, Int.reduceBNe, hpr]; rfl) ?_
  refine mI rfl ?_
  refine WpO.nil (hKF _ _ ?_)
  refine Wp.ret ?_
  dsimp only [cond_true, cond_false]
  refine ⟨trivial, _, (by first | rfl | exact getAllC rfl rfl rfl rfl | exact getAllT rfl (getAllC rfl rfl rfl rfl) | exact getAllC rfl rfl rfl (getAllC rfl rfl rfl rfl) | exact getAllC1 rfl rfl rfl), ?_⟩
  exact ⟨_, rfl, newZero⟩
 refine sq ?_
 refine rg fun KF hKF => ?_
 refine Fo.new ?_
 refine mI rfl ?_
 refine WpO.nil (hKF _ _ ?_)
 refine sq ?_
 refine rg fun KF hKF => ?_
 refine mI rfl ?_
 refine mI rfl ?_
 refine WpO.do (WpX.conD hn rfl rfl (by simp only [↓nrmL, nrmZ, Nat.reduceEqDiff, ↓reduceIte, Nat.reduceAdd, Int.reduceBEq, Int.reduceBNe, List.map] <;> rfl) (K_New (w := a) (h := b)) fun v H1 h5 => ?_)
 rw [hside] at h5
 obtain ⟨u, e1, q, e2, hq, hf, hwq, hx⟩ := h5
 subst e1 e2
 have hq : BytesI H1 q (List.replicate (a * b) 0) := by
  have := hq
  simp only [cond_true, Int.toNat_natCast] at this
  exact this
 haveI : ExtI _ H1 := ⟨hx⟩
 haveI := hq.one
 try simp only [↓nrmL, nrmZ, Nat.reduceEqDiff, ↓reduceIte, Nat.reduceAdd, Int.reduceBEq, Int.reduceBNe, hpr]
 refine mT rfl ?_
 refine Fo.extr rfl rfl ?_
 refine Fo.extr rfl rfl ?_
 refine Fo.new ?_
 refine Fo.st rfl (rfl : _ = AVal.agg _) rfl rfl rfl (by repeat (first | rfl | refine allOne_cons ?_)) (by simp only [↓nrmL, nrmZ, Nat.reduceEqDiff, ↓reduceIte, Nat.reduceAdd, Int.reduceBEq, Int.reduceBNe, hpr]; rfl) ?_
 refine mI rfl ?_
 refine WpO.nil (hKF _ _ ?_)
 refine sq ?_
 refine sq ?_
 refine rg fun KF hKF => ?_
 refine mI rfl ?_
 refine Fo.bin rfl rfl rfl rfl ?_
 refine WpO.nil (hKF _ _ ?_)
 refine Wp.cond (b := false) rfl ?_
 refine Wp.skip ?_
 refine sq ?_
 refine sq ?_
 refine rg fun KF hKF => ?_
 refine Fo.mov (by simp only [↓nrmL, nrmK, Nat.reduceEqDiff, ↓reduceIte]; rfl) ?_
 refine mI rfl ?_
 refine mI rfl ?_
 refine Fo.pcall (v' := ?_) hn rfl (by simp only [↓nrmL, nrmZ, Nat.reduceEqDiff, ↓reduceIte, Nat.reduceAdd, Int.reduceBEq, Int.reduceBNe, hpr, List.map]; rfl) rfl ?hv fun _ _ => ?_; case hv => (simp only [↓nrmL, nrmZ, Nat.reduceEqDiff, ↓reduceIte, Nat.reduceAdd, Int.reduceBEq, Int.reduceBNe, hpr]; rfl)
 refine Fo.now rfl rfl (by simp only [↓nrmL, nrmZ, Nat.reduceEqDiff, ↓reduceIte, Nat.reduceAdd, Int.reduceBEq, Int.reduceBNe, hpr]; rfl) ?_
 refine WpO.nil (hKF _ _ ?_)
 refine Wp.cond (b := false) rfl ?_
 refine Wp.skip ?_
 refine sq ?_
 refine sq ?_
 refine rg fun KF hKF => ?_
 refine Fo.mov (by simp only [↓nrmL, nrmK, Nat.reduceEqDiff, ↓reduceIte]; rfl) ?_
 refine Fo.len (v := ?_) (by simp only [↓nrmL, nrmK, Nat.reduceEqDiff, ↓reduceIte]; rfl) ?hv ?_; case hv => rfl
 refine mI rfl ?_
 refine WpO.nil (hKF _ _ ?_)
 refine Wp.block ?_
 dsimp only [cond_true, cond_false]
 refine Wp.loopS [11, 12, 31, 32, 33, 34, 35, 36, 37, 38, 39, 40, 41, 42, 43, 44, 45, 46, 47, 48, 49, 50, 51, 52] (fun i : Nat => [(31, .int .i64 i)]) (fun H3 i H2 => i ≤ l.length ∧ BytesI H2 q (fillP (pB l (fun k => k % a) (fun k => k / a) i) (fun _ => 1) (a * b)) ∧ WrS H2 q ∧ ExtP0 H3 H2 q) (fun i => l.length - i) 0 rfl (fun _ => rfl) ⟨rfl, trivial⟩ ⟨Nat.zero_le _, by rw [fillP_none (P := pB l (fun k => k % a) (fun k => k / a) 0) (fun k _ => by simp [pB])]; infer_instance, inferInstance, inferInstance⟩ (by unfold fuel0 at hn; omega) ?_
 rintro i g H2 ⟨hi, hb2, hw2, ⟨hx2⟩⟩
 simp only [↓nrmL, nrmZ, Nat.reduceEqDiff, ↓reduceIte, Nat.reduceAdd, Int.reduceBEq, Int.reduceBNe]
 cases hc : decide ((i : Int) < (l.length : Int))
 ·have hil : i = l.length := by have := of_decide_eq_false hc; omega
  try simp only [↓nrmL, nrmZ, Nat.reduceEqDiff, ↓reduceIte, Nat.reduceAdd, Int.reduceBEq, Int.reduceBNe, hc]
  refine sq ?_
  refine rg fun KF hKF => ?_
  refine Fo.bin rfl rfl rfl (by simp only [↓nrmL, nrmZ, Nat.reduceEqDiff, ↓reduceIte, Nat.reduceAdd, Int.reduceBEq, Int.reduceBNe, hc]; rfl) ?_
  refine WpO.nil (hKF _ _ ?_)
  refine sq ?_
  refine Wp.cond (b := false) rfl ?_
  refine Wp.exit ?_
  refine sq ?_
  refine rg fun KF hKF => ?_
  refine Fo.ldN rfl rfl (by simp only [↓nrmL, nrmZ, Nat.reduceEqDiff, ↓reduceIte, Nat.reduceAdd, Int.reduceBEq, Int.reduceBNe, hc]; rfl) ?_
  refine Fo.st rfl (rfl : _ = AVal.agg _) rfl rfl rfl (by repeat (first | rfl | refine allOne_cons ?_)) (by simp only [↓nrmL, nrmZ, Nat.reduceEqDiff, ↓reduceIte, Nat.reduceAdd, Int.reduceBEq, Int.reduceBNe, hc]; rfl) ?_
  refine mI rfl ?_
  refine WpO.nil (hKF _ _ ?_)
  refine Wp.ret ?_
  dsimp only [cond_true, cond_false]
  refine ⟨trivial, _, (by first | rfl | exact getAllC rfl rfl rfl rfl | exact getAllT rfl (getAllC rfl rfl rfl rfl) | exact getAllC rfl rfl rfl (getAllC rfl rfl rfl rfl) | exact getAllC1 rfl rfl rfl), ?_⟩
  refine ⟨_, rfl, q, rfl, (show BytesI _ q (paint l (fun k => k % a) (fun k => k / a) (a * b)) from ?_), hf.weak, inferInstance, Ext0.ext⟩
  have e : fillP (pB l (fun k => k % a) (fun k => k / a) i) (fun _ => 1) (a * b) = paint l (fun k => k % a) (fun k => k / a) (a * b) := by
   unfold fillP paint pB
   rw [hil, List.take_length]
  rw [← e]
  infer_instance
 have hil : i < l.length := by have := of_decide_eq_true hc; omega
 have hw1 := wa1 (a := i) (by omega)
 have hcg := cellsR_get (l := l) (i := i) hil
 obtain ⟨m, f, t, em, ef, et, hmb, hft, hta⟩ := okRun_facts (okAt_run (properTo_get hpr i hil))
 rw [em, ef, et] at hcg
 try simp only [↓nrmL, nrmZ, Nat.reduceEqDiff, ↓reduceIte, Nat.reduceAdd, Int.reduceBEq, Int.reduceBNe, hc]
 refine sq ?_
 refine rg fun KF hKF => ?_
 refine Fo.bin rfl rfl rfl (by simp only [↓nrmL, nrmZ, Nat.reduceEqDiff, ↓reduceIte, Nat.reduceAdd, Int.reduceBEq, Int.reduceBNe, hc]; rfl) ?_
 refine WpO.nil (hKF _ _ ?_)
 refine sq ?_
 refine Wp.cond (b := true) rfl ?_
 refine Wp.skip ?_
 refine sq ?_
 refine Wp.block ?_
 refine sq ?_
 refine rg fun KF hKF => ?_
 refine Fo.idx (by simp only [↓nrmL, nrmK, Nat.reduceEqDiff, ↓reduceIte]; rfl) rfl ?_ (by simp only [↓nrmL, nrmZ, Nat.reduceEqDiff, ↓reduceIte, Nat.reduceAdd, Int.reduceBEq, Int.reduceBNe, hc]; rfl) ?_; (focus omega)
 refine WpO.do (WpX.ldNP (p := p) (j := i * 3) (m := 3) rfl (by decide) (by rw [cellsR_length]; omega) hcg ?_)
 refine Fo.new ?_
 refine Fo.st rfl (rfl : _ = AVal.agg _) rfl rfl rfl (by repeat (first | rfl | refine allOne_cons ?_)) (by simp only [↓nrmL, nrmZ, Nat.reduceEqDiff, ↓reduceIte, Nat.reduceAdd, Int.reduceBEq, Int.reduceBNe]; rfl) ?_
 refine WpO.nil (hKF _ _ ?_)
 refine sq ?_
 refine rg fun KF hKF => ?_
 refine Fo.fa rfl ?_
 refine Fo.ld rfl rfl ?_
 refine mI rfl ?_
 refine WpO.nil (hKF _ _ ?_)
 refine Wp.block ?_
 dsimp only [cond_true, cond_false]
 refine Wp.loopS [12, 37, 38, 39, 40, 41, 42, 43, 44, 45, 46, 47, 48, 49, 50, 51] (fun x : Nat => [(12, .int .i64 x)]) (fun H3 x H4 => f ≤ x ∧ x ≤ t + 1 ∧ BytesI H4 q (fillP (pP l (fun k => k % a) (fun k => k / a) i x) (fun _ => 1) (a * b)) ∧ WrS H4 q ∧ ExtP0 H3 H4 q) (fun x => t + 1 - x) f rfl (fun _ => rfl) ⟨rfl, trivial⟩ ⟨Nat.le_refl _, by omega, by rw [show fillP (pP l (fun k => k % a) (fun k => k / a) i f) (fun _ => 1) (a * b) = fillP (pB l (fun k => k % a) (fun k => k / a) i) (fun _ => 1) (a * b) from by unfold fillP; simp only [pP_start ef]]; infer_instance, inferInstance, inferInstance⟩ (by unfold fuel0 at hn; omega) ?_
 rintro x g2 H4 ⟨hfx, hxt, hb4, hw4, ⟨hx4⟩⟩
 have hw3 := wa1 (a := x) (by omega)
 simp only [↓nrmL, nrmZ, Nat.reduceEqDiff, ↓reduceIte, Nat.reduceAdd, Int.reduceBEq, Int.reduceBNe]
 cases hc2 : decide ((x : Int) ≤ (t : Int))
 ·have hxe : x = t + 1 := by have := of_decide_eq_false hc2; omega
  have e : fillP (pP l (fun k => k % a) (fun k => k / a) i x) (fun _ => 1) (a * b) = fillP (pB l (fun k => k % a) (fun k => k / a) (i + 1)) (fun _ => 1) (a * b) := by
   rw [hxe]; unfold fillP; simp only [pP_end hil et]
  rw [e] at hb4
  try simp only [↓nrmL, nrmZ, Nat.reduceEqDiff, ↓reduceIte, Nat.reduceAdd, Int.reduceBEq, Int.reduceBNe, hc2]
  refine sq ?_
  refine sq ?_
  refine rg fun KF hKF => ?_
  refine mI rfl ?_
  refine Fo.fa rfl ?_
  refine Fo.ld rfl rfl ?_
  refine Fo.bin rfl rfl rfl (by simp only [↓nrmL, nrmZ, Nat.reduceEqDiff, ↓reduceIte, Nat.reduceAdd, Int.reduceBEq, Int.reduceBNe, hc2]; rfl) ?_
  refine WpO.nil (hKF _ _ ?_)
  refine Wp.cond (b := false) rfl ?_
  refine Wp.exit ?_
  refine rg fun KF hKF => ?_
  refine Fo.bin rfl rfl rfl rfl ?_
  refine mI rfl ?_
  refine WpO.nil (hKF _ _ ?_)
  dsimp only [cond_true, cond_false]
  refine ⟨i + 1, by omega, ⟨by simp only [↓nrmL, nrmZ, Nat.reduceEqDiff, ↓reduceIte, Nat.reduceAdd, Int.reduceBEq, Int.reduceBNe]; rw [hw1], trivial⟩, hil, inferInstance, inferInstance, inferInstance⟩
 ·have hxl : x ≤ t := by have := of_decide_eq_true hc2; omega
  have hlt := idx_lt (x := m) (y := x) (w := a) (h := b) (by omega) (by omega)
  have hfl := fillP_length (pP l (fun k => k % a) (fun k => k / a) i x) (fun _ => 1) (a * b)
  have hmu : x * a ≤ 640 * 640 := Nat.mul_le_mul (by omega) ha
  have k1 : IntKind.i64.wrap (((x : Nat) : Int) * (a : Int)) = ((x * a : Nat) : Int) := wm (by omega)
  have k2 : IntKind.i64.wrap (((x * a : Nat) : Int) + ((m : Nat) : Int)) = ((x * a + m : Nat) : Int) := wa (by omega)
  try simp only [↓nrmL, nrmZ, Nat.reduceEqDiff, ↓reduceIte, Nat.reduceAdd, Int.reduceBEq, Int.reduceBNe, hc2, k1, k2]
  refine sq ?_
  refine sq ?_
  refine rg fun KF hKF => ?_
  refine mI rfl ?_
  refine Fo.fa rfl ?_
  refine Fo.ld rfl rfl ?_
  refine Fo.bin rfl rfl rfl (by simp only [↓nrmL, nrmZ, Nat.reduceEqDiff, ↓reduceIte, Nat.reduceAdd, Int.reduceBEq, Int.reduceBNe, hc2, k1, k2]; rfl) ?_
  refine WpO.nil (hKF _ _ ?_)
  refine Wp.cond (b := true) rfl ?_
  refine Wp.skip ?_
  refine sq ?_
  refine Wp.block ?_
  refine rg fun KF hKF => ?_
  refine Fo.fa rfl ?_
  refine Fo.ld rfl rfl ?_
  refine mI rfl ?_
  refine mI rfl ?_
  refine Fo.bin rfl rfl rfl (by simp only [↓nrmL, nrmZ, Nat.reduceEqDiff, ↓reduceIte, Nat.reduceAdd, Int.reduceBEq, Int.reduceBNe, hc2, k1, k2]; rfl) ?_
  refine Fo.fa rfl ?_
  refine Fo.ld rfl rfl ?_
  refine Fo.bin rfl rfl rfl (by simp only [↓nrmL, nrmZ, Nat.reduceEqDiff, ↓reduceIte, Nat.reduceAdd, Int.reduceBEq, Int.reduceBNe, hc2, k1, k2]; rfl) ?_
  refine Fo.idx (by simp only [↓nrmL, nrmK, Nat.reduceEqDiff, ↓reduceIte]; rfl) rfl ?_ (by simp only [↓nrmL, nrmZ, Nat.reduceEqDiff, ↓reduceIte, Nat.reduceAdd, Int.reduceBEq, Int.reduceBNe, hc2, k1, k2]; rfl) ?_; (focus omega)
  refine WpO.do' (WpX.stB (p := q) (j := x * a + m) (l := fillP (pP l (fun k => k % a) (fun k => k / a) i x) (fun _ => 1) (a * b)) 1 rfl rfl rfl (by rw [hfl]; exact hlt) fun H6 hb6 hw6 hx6 => ?_)
  rw [fillP_set (Q := pP l (fun k => k % a) (fun k => k / a) i (x + 1)) (f := fun _ => 1) (fun k _ => pP_next em (by rw [ef]; omega) ((flp_iff (b := a) (x := x) (y := m) (by omega))))] at hb6
  refine WpO.nil (hKF _ _ ?_)
  refine rg fun KF hKF => ?_
  refine mI rfl ?_
  refine Fo.bin rfl rfl rfl rfl ?_
  refine mI rfl ?_
  refine WpO.nil (hKF _ _ ?_)
  dsimp only [cond_true, cond_false]
  refine ⟨x + 1, by omega, ⟨by simp only [↓nrmL, nrmZ, Nat.reduceEqDiff, ↓reduceIte, Nat.reduceAdd, Int.reduceBEq, Int.reduceBNe]; rw [hw3], trivial⟩, by omega, by omega, hb6, hw6, inferInstance⟩
end Go.Am

set_option maxHeartbeats 4000000
set_option maxRecDepth 100000
namespace Go.Am
open Go
attribute [local irreducible] Wp WpO WpX WpE

theorem getD_mapA {α : Type} {d : α} {f : Nat → α} {n i : Nat} (h : i < n) : ((List.range n).map f).getD i d = f i := by simp [h]
theorem list_eqA {α : Type} {l m : List α} (d : α) (hl : l.length = m.length) (h : ∀ t, t < l.length → l.getD t d = m.getD t d) : l = m := by
 apply List.ext_getElem hl
 intro i h1 h2
 have := h i h1
 simpa [h1, h2] using this
/-- Ink of a place, as a number. -/
def pd (l : List UInt8) (k : Nat) : Int := bif l.getD k 0 == 1 then 1 else 0
def rc (l : List UInt8) (a j x : Nat) : Int := (((List.range x).filter fun u => l.getD (j * a + u) 0 == 1).length : Nat)
def cc (l : List UInt8) (a i y : Nat) : Int := (((List.range y).filter fun v => l.getD (v * a + i) 0 == 1).length : Nat)
theorem rc_succ (l : List UInt8) (a j x : Nat) : rc l a j (x + 1) = rc l a j x + pd l (j * a + x) := by
 unfold rc pd
 rw [List.range_succ, List.filter_append, List.length_append]
 cases h : (l.getD (j * a + x) 0 == 1)
 ·rw [List.filter_cons_of_neg (by rw [h]; decide)]; simp
 ·rw [List.filter_cons_of_pos (by rw [h])]; simp
theorem cc_succ (l : List UInt8) (a i y : Nat) : cc l a i (y + 1) = cc l a i y + pd l (y * a + i) := by
 unfold cc pd
 rw [List.range_succ, List.filter_append, List.length_append]
 cases h : (l.getD (y * a + i) 0 == 1)
 ·rw [List.filter_cons_of_neg (by rw [h]; decide)]; simp
 ·rw [List.filter_cons_of_pos (by rw [h])]; simp
theorem rc_bd (l : List UInt8) (a j x : Nat) : 0 ≤ rc l a j x ∧ rc l a j x ≤ x := by
 unfold rc
 have := List.length_filter_le (fun u => l.getD (j * a + u) 0 == 1) (List.range x)
 rw [List.length_range] at this
 omega
theorem cc_bd (l : List UInt8) (a i y : Nat) : 0 ≤ cc l a i y ∧ cc l a i y ≤ y := by
 unfold cc
 have := List.length_filter_le (fun v => l.getD (v * a + i) 0 == 1) (List.range y)
 rw [List.length_range] at this
 omega
theorem pd_bd (l : List UInt8) (k : Nat) : 0 ≤ pd l k ∧ pd l k ≤ 1 := by
 unfold pd
 cases (l.getD k 0 == 1) <;> simp
def rowsP (l : List UInt8) (a b y x : Nat) : List Int := (List.range b).map fun j => if j < y then rc l a j a else if j = y then rc l a j x else 0
def colsP (l : List UInt8) (a y x : Nat) : List Int := (List.range a).map fun i => if i < x then cc l a i (y + 1) else cc l a i y
/-- How much ink the rows, and the columns, have. -/
def rowsL (l : List UInt8) (a b : Nat) : List Int := (List.range b).map fun j => rc l a j a
def colsL (l : List UInt8) (a b : Nat) : List Int := (List.range a).map fun i => cc l a i b
theorem rowsP_length (l : List UInt8) (a b y x : Nat) : (rowsP l a b y x).length = b := by simp [rowsP]
theorem colsP_length (l : List UInt8) (a y x : Nat) : (colsP l a y x).length = a := by simp [colsP]
theorem rowsP_zero (l : List UInt8) (a b : Nat) : rowsP l a b 0 0 = List.replicate b 0 := by
 refine list_eqA 0 (by rw [rowsP_length, List.length_replicate]) fun t ht => ?_
 rw [rowsP_length] at ht
 rw [rowsP, getD_mapA ht, if_neg (by omega)]
 have : rc l a t 0 = 0 := rfl
 rw [this]
 simp [ht]
theorem colsP_zero (l : List UInt8) (a : Nat) : colsP l a 0 0 = List.replicate a 0 := by
 refine list_eqA 0 (by rw [colsP_length, List.length_replicate]) fun t ht => ?_
 rw [colsP_length] at ht
 rw [colsP, getD_mapA ht, if_neg (by omega)]
 have : cc l a t 0 = 0 := rfl
 rw [this]
 simp [ht]
theorem rowsP_next (l : List UInt8) (a b y : Nat) : rowsP l a b y a = rowsP l a b (y + 1) 0 := by
 refine list_eqA 0 (by rw [rowsP_length, rowsP_length]) fun t ht => ?_
 rw [rowsP_length] at ht
 rw [rowsP, rowsP, getD_mapA ht, getD_mapA ht]
 by_cases h1 : t < y
 ·rw [if_pos h1, if_pos (by omega)]
 ·rw [if_neg h1]
  by_cases h2 : t = y
  ·rw [if_pos h2, if_pos (by omega)]
  ·rw [if_neg h2, if_neg (by omega)]
   by_cases h3 : t = y + 1
   ·rw [if_pos h3]; rfl
   ·rw [if_neg h3]
theorem colsP_next (l : List UInt8) (a y : Nat) : colsP l a y a = colsP l a (y + 1) 0 := by
 refine list_eqA 0 (by rw [colsP_length, colsP_length]) fun t ht => ?_
 rw [colsP_length] at ht
 rw [colsP, colsP, getD_mapA ht, getD_mapA ht, if_pos ht, if_neg (by omega)]
theorem rowsP_all (l : List UInt8) (a b : Nat) : rowsP l a b b 0 = rowsL l a b := by
 refine list_eqA 0 (by simp [rowsP_length, rowsL]) fun t ht => ?_
 rw [rowsP_length] at ht
 rw [rowsP, rowsL, getD_mapA ht, getD_mapA ht, if_pos ht]
theorem colsP_all (l : List UInt8) (a b : Nat) : colsP l a b 0 = colsL l a b := by
 refine list_eqA 0 (by simp [colsP_length, colsL]) fun t ht => ?_
 rw [colsP_length] at ht
 rw [colsP, colsL, getD_mapA ht, getD_mapA ht, if_neg (by omega)]
theorem rowsP_get {l : List UInt8} {a b y x : Nat} (hy : y < b) : (rowsP l a b y x)[y]'(by rw [rowsP_length]; exact hy) = rc l a y x := by
 simp [rowsP]
theorem colsP_get {l : List UInt8} {a y x : Nat} (hx : x < a) : (colsP l a y x)[x]'(by rw [colsP_length]; exact hx) = cc l a x y := by
 simp [colsP]
theorem rowsP_set {l : List UInt8} {a b y x : Nat} : (rowsP l a b y x).set y (rc l a y x + pd l (y * a + x)) = rowsP l a b y (x + 1) := by
 refine list_eqA 0 (by rw [List.length_set, rowsP_length, rowsP_length]) fun t ht => ?_
 rw [List.length_set, rowsP_length] at ht
 rw [List.getD_eq_getElem?_getD, List.getElem?_set, rowsP_length, rowsP, rowsP, getD_mapA ht]
 by_cases h1 : y = t
 ·subst h1
  rw [if_pos rfl, if_pos ht, if_neg (by omega), if_pos rfl, rc_succ]; rfl
 ·rw [if_neg h1, ← List.getD_eq_getElem?_getD, getD_mapA ht]
  by_cases h2 : t < y
  ·rw [if_pos h2, if_pos h2]
  ·rw [if_neg h2, if_neg h2, if_neg (fun e => h1 e.symm), if_neg (fun e => h1 e.symm)]
theorem colsP_set {l : List UInt8} {a y x : Nat} : (colsP l a y x).set x (cc l a x y + pd l (y * a + x)) = colsP l a y (x + 1) := by
 refine list_eqA 0 (by rw [List.length_set, colsP_length, colsP_length]) fun t ht => ?_
 rw [List.length_set, colsP_length] at ht
 rw [List.getD_eq_getElem?_getD, List.getElem?_set, colsP_length, colsP, colsP, getD_mapA ht]
 by_cases h1 : x = t
 ·subst h1
  rw [if_pos rfl, if_pos ht, if_pos (by omega), cc_succ]; rfl
 ·rw [if_neg h1, ← List.getD_eq_getElem?_getD, getD_mapA ht]
  by_cases h2 : t < x
  ·rw [if_pos h2, if_pos (by omega)]
  ·rw [if_neg h2, if_neg (by omega)]

/- sums -/
theorem sum_set {L : List Int} {i : Nat} {d : Int} (h : i < L.length) : (L.set i (L[i] + d)).sum = L.sum + d := by
 induction L generalizing i with
 | nil => simp at h
 | cons x L ih =>
  cases i with
  | zero => simp; omega
  | succ i =>
   simp only [List.set_cons_succ, List.sum_cons, List.getElem_cons_succ]
   rw [ih (by simpa using h)]; omega
def cnt (l : List UInt8) (k : Nat) : Int := ((l.take k).count 1 : Nat)
theorem cnt_succ {l : List UInt8} {k : Nat} (h : k < l.length) : cnt l (k + 1) = cnt l k + pd l k := by
 unfold cnt pd
 rw [List.take_succ_eq_append_getElem h, List.count_append, List.count_singleton]
 have : l.getD k 0 = l[k] := by simp [h]
 rw [this]
 cases (l[k] == 1) <;> simp
theorem sums {l : List UInt8} {a b : Nat} (hl : l.length = a * b) : ∀ y, y ≤ b → (rowsP l a b y 0).sum = cnt l (y * a) ∧ (colsP l a y 0).sum = cnt l (y * a)
 | 0, _ => by
  rw [rowsP_zero, colsP_zero]
  simp [cnt, List.sum_replicate_int]
 | y + 1, hy => by
  have hr := row_le (a := a) (b := b) (y := y) (by omega)
  have key : ∀ x, x ≤ a → (rowsP l a b y x).sum = cnt l (y * a + x) ∧ (colsP l a y x).sum = cnt l (y * a + x) := by
   intro x
   induction x with
   | zero => intro _; exact sums hl y (by omega)
   | succ x ih =>
    intro hx
    obtain ⟨h1, h2⟩ := ih (by omega)
    have e1 := cnt_succ (l := l) (k := y * a + x) (by omega)
    rw [show y * a + (x + 1) = y * a + x + 1 by omega, e1, ← h1]
    constructor
    ·rw [← rowsP_set, ← rowsP_get (l := l) (a := a) (b := b) (y := y) (x := x) (by omega), sum_set]
    ·rw [← colsP_set, ← colsP_get (l := l) (a := a) (y := y) (x := x) (by omega), sum_set, h2, h1]
  obtain ⟨h1, h2⟩ := key a (Nat.le_refl _)
  rw [← rowsP_next, ← colsP_next, Nat.add_mul, Nat.one_mul]
  exact ⟨h1, h2⟩
end Go.Am

/- The runs of lines: proper, they cover the ink, and their lengths sum up to it. -/
set_option maxHeartbeats 4000000
namespace Go.Am
open Go

theorem endF_spec {p : Nat → Bool} {len : Nat} : ∀ (f i : Nat), i < len → p i = true → len ≤ i + f + 1 →
    i ≤ endF p len f i ∧ endF p len f i < len ∧ (∀ t, i ≤ t → t ≤ endF p len f i → p t = true) ∧ (endF p len f i + 1 < len → p (endF p len f i + 1) = false)
  | 0, i, hi, hp, hl => by
    simp only [endF]
    refine ⟨Nat.le_refl _, hi, fun t h1 h2 => ?_, fun h => by omega⟩
    obtain rfl : t = i := by omega
    exact hp
  | f + 1, i, hi, hp, hl => by
    simp only [endF]
    by_cases h : i + 1 < len ∧ p (i + 1) = true
    · rw [if_pos h]
      obtain ⟨h1, h2, h3, h4⟩ := endF_spec f (i + 1) h.1 h.2 (by omega)
      refine ⟨by omega, h2, fun t h5 h6 => ?_, h4⟩
      by_cases h7 : t = i
      · rw [h7]; exact hp
      · exact h3 t (by omega) h6
    · rw [if_neg h]
      refine ⟨Nat.le_refl _, hi, fun t h1 h2 => ?_, fun h1 => ?_⟩
      · obtain rfl : t = i := by omega
        exact hp
      · cases hq : p (i + 1)
        · rfl
        · exact absurd ⟨h1, hq⟩ h
theorem endB_spec {p : Nat → Bool} {len i : Nat} (hi : i < len) (hp : p i = true) :
    i ≤ endB p len i ∧ endB p len i < len ∧ (∀ t, i ≤ t → t ≤ endB p len i → p t = true) ∧ (endB p len i + 1 < len → p (endB p len i + 1) = false) := endF_spec len i hi hp (by omega)

theorem start_below {p : Nat → Bool} : ∀ y : Nat, p y = true → ∃ s, s ≤ y ∧ startB p s = true ∧ ∀ t, s ≤ t → t ≤ y → p t = true
  | 0, h => ⟨0, Nat.le_refl _, by simp [startB, h], fun t _ h2 => by rw [show t = 0 by omega]; exact h⟩
  | y + 1, h => by
    cases hq : p y
    · refine ⟨y + 1, Nat.le_refl _, by simp [startB, h, hq], fun t h1 h2 => by rw [show t = y + 1 by omega]; exact h⟩
    · obtain ⟨s, h1, h2, h3⟩ := start_below y hq
      refine ⟨s, by omega, h2, fun t h4 h5 => ?_⟩
      by_cases h6 : t = y + 1
      · rw [h6]; exact h
      · exact h3 t h4 (by omega)
theorem start_p {p : Nat → Bool} {s : Nat} (h : startB p s = true) : p s = true ∧ (0 < s → p (s - 1) = false) := by
  unfold startB at h
  simp only [Bool.and_eq_true, Bool.not_eq_true', Bool.and_eq_false_iff, decide_eq_false_iff_not] at h
  exact ⟨h.1, fun h0 => h.2.resolve_left (fun k => k h0)⟩

theorem mem_preR {o : Nat → Nat → Bool} {len a x : Nat} {r : RunT} : r ∈ preR o len a x ↔ ∃ s, s < x ∧ startB (o a) s = true ∧ r = runV o len a s := by
  unfold preR
  simp only [List.mem_map, List.mem_filter, List.mem_range]
  constructor
  · rintro ⟨s, ⟨h1, h2⟩, h3⟩; exact ⟨s, h1, h2, h3.symm⟩
  · rintro ⟨s, h1, h2, h3⟩; exact ⟨s, ⟨h1, h2⟩, h3.symm⟩
theorem mem_allR {o : Nat → Nat → Bool} {len n : Nat} {r : RunT} : r ∈ allR o len n ↔ ∃ a s, a < n ∧ s < len ∧ startB (o a) s = true ∧ r = runV o len a s := by
  unfold allR
  simp only [List.mem_flatMap, List.mem_range, mem_preR]
  constructor
  · rintro ⟨a, h1, s, h2, h3, h4⟩; exact ⟨a, s, h1, h2, h3, h4⟩
  · rintro ⟨a, s, h1, h2, h3, h4⟩; exact ⟨a, h1, s, h2, h3, h4⟩
/-- The runs cover the ink. -/
theorem all_cover {o : Nat → Nat → Bool} {len n a x : Nat} (ha : a < n) (hx : x < len) : ((allR o len n).any fun r => inRun r a x) = o a x := by
  cases ho : o a x
  · rw [List.any_eq_false]
    intro r hr hin
    obtain ⟨a', s, h1, h2, h3, rfl⟩ := mem_allR.1 hr
    unfold inRun runV at hin
    simp only [Bool.and_eq_true, decide_eq_true_eq] at hin
    obtain ⟨⟨h4, h5⟩, h6⟩ := hin
    obtain rfl : a' = a := by omega
    have := (endB_spec h2 (start_p h3).1).2.2.1 x (by omega) (by omega)
    rw [this] at ho; cases ho
  · rw [List.any_eq_true]
    obtain ⟨s, h1, h2, h3⟩ := start_below x ho
    have hs : s < len := by omega
    refine ⟨runV o len a s, mem_allR.2 ⟨a, s, ha, hs, h2, rfl⟩, ?_⟩
    obtain ⟨k1, k2, k3, k4⟩ := endB_spec hs (start_p h2).1
    unfold inRun runV
    simp only [Bool.and_eq_true, decide_eq_true_eq]
    refine ⟨⟨trivial, by omega⟩, ?_⟩
    by_cases h : x ≤ endB (o a) len s
    · omega
    · have h5 := k4 (by omega)
      rw [h3 _ (by omega) (by omega)] at h5; cases h5

/-- One run comes before another one, with a gap between them. -/
def before (r q : RunT) : Prop := r.1 < q.1 ∨ (r.1 = q.1 ∧ r.2.2 + 1 < q.2.1)
theorem preR_pair {o : Nat → Nat → Bool} {len a : Nat} : ∀ x, x ≤ len → (preR o len a x).Pairwise before
  | 0, _ => by rw [preR_zero]; exact List.Pairwise.nil
  | x + 1, hx => by
    cases h : startB (o a) x
    · rw [preR_off h]; exact preR_pair x (by omega)
    · rw [preR_on h, List.pairwise_append]
      refine ⟨preR_pair x (by omega), List.pairwise_singleton _ _, fun r hr q hq => ?_⟩
      rw [List.mem_singleton] at hq
      subst hq
      obtain ⟨s, h1, h2, rfl⟩ := mem_preR.1 hr
      obtain ⟨k1, k2, k3, k4⟩ := endB_spec (p := o a) (len := len) (i := s) (by omega) (start_p h2).1
      have h5 := (start_p h).2 (by omega)
      refine Or.inr ⟨rfl, ?_⟩
      show ((endB (o a) len s : Nat) : Int) + 1 < ((x : Nat) : Int)
      by_cases h6 : x - 1 ≤ endB (o a) len s
      · rw [k3 (x - 1) (by omega) h6] at h5; cases h5
      · omega
theorem allR_pair {o : Nat → Nat → Bool} {len : Nat} : ∀ n, (allR o len n).Pairwise before
  | 0 => List.Pairwise.nil
  | n + 1 => by
    rw [allR_succ, List.pairwise_append]
    refine ⟨allR_pair n, preR_pair len (Nat.le_refl _), fun r hr q hq => ?_⟩
    obtain ⟨a, s, h1, h2, h3, rfl⟩ := mem_allR.1 hr
    obtain ⟨s', h4, h5, rfl⟩ := mem_preR.1 hq
    refine Or.inl ?_
    show ((a : Nat) : Int) < ((n : Nat) : Int)
    omega
theorem allR_ok {o : Nat → Nat → Bool} {len n : Nat} {r : RunT} (hr : r ∈ allR o len n) : okRun r (n : Nat) (len : Nat) = true := by
  obtain ⟨a, s, h1, h2, h3, rfl⟩ := mem_allR.1 hr
  obtain ⟨k1, k2, k3, k4⟩ := endB_spec (p := o a) h2 (start_p h3).1
  unfold okRun runV
  simp only [Bool.and_eq_true, Bool.not_eq_true', decide_eq_false_iff_not]
  refine ⟨⟨⟨⟨?_, ?_⟩, ?_⟩, ?_⟩, ?_⟩ <;> omega
theorem properTo_pair {l : List RunT} {n len : Nat} (hlen : len ≤ 640) (hok : ∀ r ∈ l, okRun r (n : Nat) (len : Nat) = true) (hp : l.Pairwise before) : ∀ i, i ≤ l.length → properTo l (n : Nat) (len : Nat) i = true
  | 0, _ => rfl
  | i + 1, hi => by
    simp only [properTo, properTo_pair hlen hok hp i (by omega), Bool.true_and]
    have hil : i < l.length := hi
    have e : l.getD i run0 = l[i] := by simp [hil]
    unfold okAt
    rw [e, hok _ (List.getElem_mem hil), Bool.true_and]
    cases h0 : decide (i = 0)
    · have hi0 : 0 < i := by have := of_decide_eq_false h0; omega
      have hil2 : i - 1 < l.length := by omega
      have e2 : l.getD (i - 1) run0 = l[i - 1] := by simp [hil2]
      have hb := List.pairwise_iff_getElem.1 hp (i - 1) i hil2 hil (by omega)
      obtain ⟨m, f, t, q1, q2, q3, q4, q5, q6⟩ := okRun_facts (hok _ (List.getElem_mem hil2))
      rw [Bool.false_or, e2]
      unfold apartB
      have hw : IntKind.i64.wrap (l[i - 1].2.2 + 1) = l[i - 1].2.2 + 1 := by
        rw [q3]; exact w64 (by omega)
      rw [hw]
      simp only [Bool.or_eq_true, Bool.and_eq_true, decide_eq_true_eq, beq_iff_eq]
      rcases hb with hb | hb
      · exact Or.inl hb
      · exact Or.inr ⟨hb.1.symm, hb.2⟩
    · rfl
theorem allR_proper {o : Nat → Nat → Bool} {len n : Nat} (hlen : len ≤ 640) : properB (allR o len n) (n : Nat) (len : Nat) = true :=
  properTo_pair hlen (fun _ h => allR_ok h) (allR_pair n) _ (Nat.le_refl _)

/-- How many of the first n say yes. -/
def cntB (p : Nat → Bool) (n : Nat) : Int := (((List.range n).filter p).length : Nat)
theorem cntB_succ (p : Nat → Bool) (n : Nat) : cntB p (n + 1) = cntB p n + (if p n = true then 1 else 0) := by
  unfold cntB
  rw [List.range_succ, List.filter_append, List.length_append]
  cases h : p n
  · rw [List.filter_cons_of_neg (by rw [h]; decide)]; simp
  · rw [List.filter_cons_of_pos (by rw [h])]; simp
theorem cntB_run {p : Nat → Bool} {x : Nat} : ∀ k, (∀ t, x ≤ t → t < x + k → p t = true) → cntB p (x + k) = cntB p x + k
  | 0, _ => by simp
  | k + 1, h => by
    rw [show x + (k + 1) = x + k + 1 by omega, cntB_succ, cntB_run k (fun t h1 h2 => h t h1 (by omega)), if_pos (h _ (by omega) (by omega))]
    omega
def runLen (r : RunT) : Int := r.2.2 - r.2.1 + 1
def sumLen (l : List RunT) : Int := (l.map runLen).sum
theorem sumLen_snoc (l : List RunT) (r : RunT) : sumLen (l ++ [r]) = sumLen l + runLen r := by simp [sumLen]
/-- Where the runs that begin before x end. -/
def lastE (p : Nat → Bool) (len x : Nat) : Nat := if 0 < x ∧ p (x - 1) = true then endB p len (x - 1) + 1 else x
theorem sum_preR {o : Nat → Nat → Bool} {len a : Nat} : ∀ x, x ≤ len → sumLen (preR o len a x) = cntB (o a) (lastE (o a) len x)
  | 0, _ => by simp [preR_zero, sumLen, lastE, cntB]
  | x + 1, hx => by
    have ih := sum_preR (o := o) (len := len) (a := a) x (by omega)
    have hxl : x < len := hx
    cases hp : o a x
    · have hs : startB (o a) x = false := by simp [startB, hp]
      rw [preR_off hs, ih]
      have e1 : lastE (o a) len (x + 1) = x + 1 := by simp [lastE, hp]
      rw [e1, cntB_succ, if_neg (by rw [hp]; decide)]
      have e2 : lastE (o a) len x = x := by
        unfold lastE
        by_cases h : 0 < x ∧ o a (x - 1) = true
        · rw [if_pos h]
          have := endB_eq (p := o a) (len := len) (i := x - 1) (e := x - 1) (by omega) (fun _ => by rw [show x - 1 + 1 = x by omega]; exact hp) (Nat.le_refl _) (fun t h1 h2 => by rw [show t = x - 1 by omega]; exact h.2)
          omega
        · rw [if_neg h]
      rw [e2]; omega
    · have e1 : lastE (o a) len (x + 1) = endB (o a) len x + 1 := by simp [lastE, hp]
      obtain ⟨k1, k2, k3, k4⟩ := endB_spec (p := o a) hxl hp
      cases hs : startB (o a) x
      · rw [preR_off hs, ih, e1]
        have hq : 0 < x ∧ o a (x - 1) = true := by
          unfold startB at hs
          rw [hp] at hs
          simpa using hs
        have e2 : lastE (o a) len x = endB (o a) len (x - 1) + 1 := by unfold lastE; rw [if_pos hq]
        have e3 : endB (o a) len (x - 1) = endB (o a) len x := endB_eq k2 k4 (by omega) (fun t h1 h2 => by
          by_cases h3 : t = x - 1
          · rw [h3]; exact hq.2
          · exact k3 t (by omega) h2)
        rw [e2, e3]
      · have hq := start_p hs
        have e2 : lastE (o a) len x = x := by
          unfold lastE
          rw [if_neg (fun h => by rw [hq.2 h.1] at h; cases h.2)]
        rw [preR_on hs, sumLen_snoc, ih, e1, e2]
        have := cntB_run (p := o a) (x := x) (endB (o a) len x + 1 - x) (fun t h1 h2 => k3 t h1 (by omega))
        rw [show x + (endB (o a) len x + 1 - x) = endB (o a) len x + 1 by omega] at this
        rw [this]
        show _ + (((endB (o a) len x : Nat) : Int) - ((x : Nat) : Int) + 1) = _
        omega
theorem sum_preR_all {o : Nat → Nat → Bool} {len a : Nat} : sumLen (preR o len a len) = cntB (o a) len := by
  rw [sum_preR len (Nat.le_refl _)]
  unfold lastE
  by_cases h : 0 < len ∧ o a (len - 1) = true
  · rw [if_pos h]
    obtain ⟨k1, k2, _⟩ := endB_spec (p := o a) (len := len) (i := len - 1) (by omega) h.2
    rw [show endB (o a) len (len - 1) + 1 = len by omega]
  · rw [if_neg h]

/-- What is left of the sums of the lines when the lengths of the first runs are taken away. -/
def takeRun (l : List Int) (r : RunT) : List Int := l.set r.1.toNat (l.getD r.1.toNat 0 - runLen r)
def takeRuns (l : List Int) (rs : List RunT) : List Int := rs.foldl takeRun l
theorem takeRun_length (l : List Int) (r : RunT) : (takeRun l r).length = l.length := by simp [takeRun]
theorem takeRuns_length : ∀ (rs : List RunT) (l : List Int), (takeRuns l rs).length = l.length
  | [], _ => rfl
  | r :: rs, l => by rw [takeRuns, List.foldl_cons, ← takeRuns, takeRuns_length rs, takeRun_length]
theorem takeRuns_append (l : List Int) (a b : List RunT) : takeRuns l (a ++ b) = takeRuns (takeRuns l a) b := by simp [takeRuns]
theorem takeRuns_line {y : Nat} : ∀ (rs : List RunT) (l : List Int), (∀ r ∈ rs, r.1 = (y : Int)) → y < l.length → takeRuns l rs = l.set y (l.getD y 0 - sumLen rs)
  | [], l, _, hy => by
    have e : l.getD y 0 = l[y] := by simp [hy]
    show l = l.set y (l.getD y 0 - 0)
    rw [e, Int.sub_zero, List.set_getElem_self]
  | r :: rs, l, h, hy => by
    have hr : r.1.toNat = y := by have := h r List.mem_cons_self; omega
    rw [takeRuns, List.foldl_cons, ← takeRuns, takeRuns_line rs _ (fun q hq => h q (List.mem_cons_of_mem _ hq)) (by rw [takeRun_length]; exact hy)]
    unfold takeRun
    rw [hr]
    simp only [List.set_set]
    congr 1
    have e : (l.set y (l.getD y 0 - runLen r)).getD y 0 = l.getD y 0 - runLen r := by simp [hy]
    rw [e]
    simp only [sumLen, List.map_cons, List.sum_cons]
    omega
theorem takeRuns_all {o : Nat → Nat → Bool} {len : Nat} : ∀ (n : Nat) (l : List Int), n ≤ l.length → ∀ j, j < l.length → (takeRuns l (allR o len n)).getD j 0 = if j < n then l.getD j 0 - cntB (o j) len else l.getD j 0
  | 0, l, _, j, _ => by rw [if_neg (by omega)]; rfl
  | n + 1, l, hn, j, hj => by
    rw [allR_succ, takeRuns_append, takeRuns_line (y := n) _ _ (fun r hr => by obtain ⟨s, _, _, rfl⟩ := mem_preR.1 hr; rfl) (by rw [takeRuns_length]; omega), sum_preR_all]
    have ih := takeRuns_all (o := o) (len := len) n l (by omega)
    have hl : j < (takeRuns l (allR o len n)).length := by rw [takeRuns_length]; exact hj
    by_cases h : j = n
    · subst h
      rw [if_pos (by omega), List.getD_eq_getElem?_getD, List.getElem?_set_self hl, Option.getD_some, ih j hj, if_neg (by omega)]
    · rw [List.getD_eq_getElem?_getD, List.getElem?_set_ne (fun e => h e.symm), ← List.getD_eq_getElem?_getD, ih j hj]
      by_cases h2 : j < n
      · rw [if_pos h2, if_pos (by omega)]
      · rw [if_neg h2, if_neg (by omega)]
end Go.Am

/- copy: bytes into a part of a slice. -/
set_option maxHeartbeats 4000000
namespace Go.Am
open Go
theorem setAt_get : ∀ (vs cs : List AVal) (off i : Nat), off + vs.length ≤ cs.length → (setAt cs off vs)[i]? = if off ≤ i ∧ i < off + vs.length then vs[i - off]? else cs[i]?
  | [], cs, off, i, _ => by
    rw [if_neg (by simp only [List.length_nil]; omega)]; rfl
  | v :: vs, cs, off, i, h => by
    rw [List.length_cons] at h
    rw [setAt, setAt_get vs (cs.set off v) (off + 1) i (by rw [List.length_set]; omega), List.length_cons]
    by_cases h1 : off = i
    · subst h1
      rw [if_neg (by omega), if_pos (by omega), List.getElem?_set, if_pos rfl, if_pos (by omega), Nat.sub_self]; rfl
    · by_cases h2 : off + 1 ≤ i ∧ i < off + 1 + vs.length
      · rw [if_pos h2, if_pos (by omega), show i - off = (i - (off + 1)) + 1 by omega]; rfl
      · rw [if_neg h2, if_neg (by omega), List.getElem?_set, if_neg h1]
theorem cellsB_get (l : List UInt8) (i : Nat) : (cellsB l)[i]? = l[i]?.map fun b => AVal.int .u8 (b.toNat : Int) := by simp [cellsB]
/-- The list after a copy. -/
def copyL (l m : List UInt8) (a k : Nat) : List UInt8 := l.take a ++ (m.take k ++ l.drop (a + k))
theorem copyL_get {l m : List UInt8} {a k : Nat} (hk : k ≤ m.length) (ha : a + k ≤ l.length) (i : Nat) : (copyL l m a k)[i]? = if a ≤ i ∧ i < a + k then m[i - a]? else l[i]? := by
  unfold copyL
  rw [List.getElem?_append, List.length_take, Nat.min_eq_left (by omega)]
  by_cases h1 : i < a
  · rw [if_pos h1, if_neg (by omega), List.getElem?_take, if_pos h1]
  · rw [if_neg h1, List.getElem?_append, List.length_take, Nat.min_eq_left hk]
    by_cases h2 : i - a < k
    · rw [if_pos h2, if_pos (by omega), List.getElem?_take, if_pos h2]
    · rw [if_neg h2, if_neg (by omega), List.getElem?_drop]
      congr 1; omega
theorem copyL_length {l m : List UInt8} {a k : Nat} (hk : k ≤ m.length) (ha : a + k ≤ l.length) : (copyL l m a k).length = l.length := by
  unfold copyL
  simp only [List.length_append, List.length_take, List.length_drop]
  omega
theorem exec_copyP {call : ACall} {fr : AFrame} {H : AHeap} {x y : ROpd} {p v s : AVal} {l lv m : List UInt8} {a n k : Nat} (hx : x.ev fr = v) (hy : y.ev fr = s) [hp : BytesI H p l] [w : WrS H p] (hv : Part p v a n) (hb : BytesI H v lv) (hbl : lv.length = n) [hs : BytesI H s m] (han : a + n ≤ l.length) (hk : k = min m.length n) :
    ∃ H', (ROp.copy 1 x y).exec call fr H = some (.int .i64 k, H') ∧ BytesI H' p (copyL l m a k) ∧ WrS H' p ∧ ExtP H H' p := by
  have hkm : k ≤ m.length := by omega
  have hkn : k ≤ n := by omega
  have hf : aLenOf s = some m.length ∧ aFirst 1 k s H = some (cellsB (m.take k), H) := by
    have e1 : (cellsB m).take k = cellsB (m.take k) := by simp [cellsB, List.map_take]
    rcases hs.it with ⟨rfl, h0, _⟩ | ⟨r, off, cap, row, rw, e0, rfl, hr, hg, hle, hc, _⟩
    · have : m = [] := List.eq_nil_of_length_eq_zero h0
      subst this
      exact ⟨rfl, by simp [aFirst, M.pure, cellsB]⟩
    · rw [Nat.mul_one] at hle hc
      refine ⟨rfl, ?_⟩
      simp only [aFirst, ne_eq, not_true, if_false, M.bind, aRow, if_pos hr, hg, Nat.mul_one]
      rw [if_pos (by omega), ← e1, ← hc, List.take_take, Nat.min_eq_left hkm]; rfl
  have hlen : (cellsB (m.take k)).length = k := by simp [cellsB]; omega
  have hdv : aLenOf v = some n := by
    rcases hb.it with ⟨rfl, h0, _⟩ | ⟨r, off, cap, row, rw, e0, rfl, _⟩
    · rw [hbl] at h0; rw [h0]; rfl
    · rw [← hbl]; rfl
  have hsame : k = 0 → copyL l m a k = l := fun h => by
    subst h; simp [copyL]
  have head : (ROp.copy 1 x y).exec call fr H = (match v with
    | .nslice => M.pure (AVal.int .i64 k)
    | .eslice .. => M.pure (AVal.int .i64 k)
    | .slice r off _ _ s' => if s' ≠ 1 then M.fail else if (cellsB (m.take k)).isEmpty then M.pure (AVal.int .i64 k) else M.bind (aWrite r off (cellsB (m.take k))) fun _ => M.pure (AVal.int .i64 k)
    | _ => M.fail) H := by
    simp only [ROp.exec, hx, hy, aCopy, hf.1, hdv, ← hk]
    rw [bind_of hf.2]
    rw [if_neg (by simp [hlen])]
    cases v <;> rfl
  rw [head]
  by_cases h0 : k = 0
  · refine ⟨H, ?_, by rw [hsame h0]; exact hp, w, ExtP.refl H p⟩
    rcases hb.it with ⟨rfl, _⟩ | ⟨r, off, cap, row, rw, e0, rfl, _⟩
    · rfl
    · simp only [ne_eq, not_true, if_false]
      rw [if_pos (by rw [h0]; simp [cellsB])]; rfl
  · rcases hv.it with ⟨h1, _⟩ | ⟨r, off, len, cap, cap', rfl, rfl, hle⟩
    · omega
    · rcases hp.it with ⟨e, _⟩ | ⟨r', off', cap0, row, rw, e0, e, hr, hg, hl, hc, hcap⟩
      · cases e
      · cases e
        obtain ⟨cs', e', hg'⟩ := w.it _ _ _ _ _ rfl
        rw [hg] at hg'; cases hg'
        rw [Nat.mul_one] at hl hc
        have hne : (cellsB (m.take k)).isEmpty = false := by
          cases hh : cellsB (m.take k) with
          | nil => rw [hh] at hlen; simp at hlen; omega
          | cons _ _ => rfl
        have hone := cellsB_one (m.take k)
        refine ⟨H.set r (.row (setAt row (off + a) (cellsB (m.take k))) true e0), ?_, ⟨Or.inr ⟨r, off, cap, setAt row (off + a) (cellsB (m.take k)), true, e0, ?_, hr, set_get_eq, ?_, ?_, ?_⟩⟩, ⟨fun r' off' len' cap' sz' q => by cases q; exact ⟨_, _, set_get_eq⟩⟩, ⟨Nat.le_refl _, fun r' hr' hne => set_get_ne (fun hh => hne.ne _ _ _ _ _ rfl hh.symm)⟩⟩
        · simp only [ne_eq, not_true, if_false, hne, Bool.false_eq_true]
          have hw : aWrite r (off + a) (cellsB (m.take k)) H = some ((), H.set r (.row (setAt row (off + a) (cellsB (m.take k))) true e0)) := by
            simp only [aWrite, if_pos hr, hg, hone, Bool.and_true, Bool.true_and]
            rw [if_pos (decide_eq_true (by rw [hlen]; omega))]
          rw [bind_of hw]; rfl
        · rw [copyL_length hkm (by omega)]
        · rw [copyL_length hkm (by omega), setAt_length, Nat.mul_one]; exact hl
        · rw [copyL_length hkm (by omega), Nat.mul_one]
          apply List.ext_getElem?
          intro i
          have hci : ∀ j, j < l.length → row[off + j]? = (l[j]?).map fun b => AVal.int .u8 (b.toNat : Int) := fun j hj => by
            rw [← cellsB_get, ← hc, List.getElem?_take, if_pos hj, List.getElem?_drop]
          rw [cellsB_get, copyL_get hkm (by omega), List.getElem?_take]
          by_cases hi : i < l.length
          · rw [if_pos hi, List.getElem?_drop, setAt_get _ _ _ _ (by rw [hlen]; omega), hlen]
            by_cases h2 : a ≤ i ∧ i < a + k
            · rw [if_pos h2, if_pos (by omega), cellsB_get, List.getElem?_take, if_pos (by omega)]
              congr 2; omega
            · rw [if_neg h2, if_neg (by omega), hci i hi]
          · rw [if_neg hi, if_neg (by omega), List.getElem?_eq_none (by omega)]; rfl
        · rw [copyL_length hkm (by omega)]; exact hcap
section
variable {call : ACall} {n ref : Nat} {its : List DItem} {H0 H : AHeap} {E : List (Nat × AHeap)} {Rd : List (Nat × (AHeap → Bool))} {fr : AFrame} {K : AFrame → AHeap → Prop} {bm d : Nat} {pre : Bool} {g : Option (Nat × Bool)}
theorem Fe.slc {x : ROpd} {lo hi : Option ROpd} {p : AVal} {l : List UInt8} {a b : Nat} (hw : ROper.wanted fr ⟨some d, .sliceS 1 x lo hi none, g⟩ = true) (hx : x.ev fr = p) (hlo : bnd (lo.map (·.ev fr)) 0 a) (hhi : bnd (hi.map (·.ev fr)) l.length b) (hab : a ≤ b) (hbl : b ≤ l.length) [s : BytesI H p l]
    (h : ∀ v H1, Part p v a (b - a) → BytesI H1 v ((l.drop a).take (b - a)) → ExtI H H1 → AllR bm H1 Rd ∧ WpE call (n + 1) ref its H0 ((n, H) :: E) Rd (upd fr d v) H1 K) : WpE call n ref (⟨⟨some d, .sliceS 1 x lo hi none, g⟩, bm, 2, pre⟩ :: its) H0 E Rd fr H K := by
  obtain ⟨v, H1, h1, h2, h3, h4⟩ := exec_slc (call := call) hx hlo hhi hab hbl (s := s)
  obtain ⟨h5, h6⟩ := h v H1 h2 h3 ⟨h4⟩
  exact WpE.effect hw h1 h5 h6
theorem Fe.copyP {x y : ROpd} {p v s : AVal} {l lv m : List UInt8} {a k c : Nat} (hw : ROper.wanted fr ⟨some d, .copy 1 x y, g⟩ = true) (hx : x.ev fr = v) (hy : y.ev fr = s) [hp : BytesI H p l] [w : WrS H p] (hv : Part p v a k) (hb : BytesI H v lv) (hbl : lv.length = k) [hs : BytesI H s m] (han : a + k ≤ l.length) (hc : c = min m.length k)
    (h : ∀ H1, BytesI H1 p (copyL l m a c) → WrS H1 p → ExtP H H1 p → AllR bm H1 Rd ∧ WpE call (n + 1) ref its H0 ((n, H) :: E) Rd (upd fr d (.int .i64 c)) H1 K) : WpE call n ref (⟨⟨some d, .copy 1 x y, g⟩, bm, 2, pre⟩ :: its) H0 E Rd fr H K := by
  obtain ⟨H1, h1, h2, h3, h4⟩ := exec_copyP (call := call) hx hy hv hb hbl han hc
  obtain ⟨h5, h6⟩ := h H1 h2 h3 h4
  exact WpE.effect hw h1 h5 h6
theorem Fe.slcE {x : ROpd} {lo hi : Option ROpd} {p : AVal} {l : List UInt8} {a b : Nat} (hw : ROper.wanted fr ⟨some d, .sliceS 1 x lo hi none, g⟩ = true) (hx : x.ev fr = p) (hlo : bnd (lo.map (·.ev fr)) 0 a) (hhi : bnd (hi.map (·.ev fr)) l.length b) (hab : a ≤ b) (hbl : b ≤ l.length) [s : BytesI H p l]
    (hE : AllE bm (fun H2 => (ROp.sliceS 1 x lo hi none).look fr H2 = some (slcV p a b)) E) (h : WpE call (n + 1) ref its H0 E ((n, readOk (.sliceS 1 x lo hi none) fr (slcV p a b)) :: Rd) (upd fr d (slcV p a b)) H K) : WpE call n ref (⟨⟨some d, .sliceS 1 x lo hi none, g⟩, bm, 1, pre⟩ :: its) H0 E Rd fr H K :=
  WpE.look hw (look_slc hx hlo hhi hab hbl (s := s)) hE h
theorem exec_copyE {x y : ROpd} {s : AVal} {m : List UInt8} {r o l z : Nat} (hx : x.ev fr = .eslice r o l z) (hy : y.ev fr = s) [hs : BytesI H s m] : (ROp.copy 1 x y).exec call fr H = some (.int .i64 0, H) := by
  have hf : aLenOf s = some m.length ∧ aFirst 1 0 s H = some ([], H) := by
    rcases hs.it with ⟨rfl, h0, _⟩ | ⟨r, off, cap, row, rw, e0, rfl, hr, hg, hle, hc, _⟩
    · have : m = [] := List.eq_nil_of_length_eq_zero h0
      subst this
      exact ⟨rfl, by simp [aFirst, M.pure]⟩
    · rw [Nat.mul_one] at hle
      refine ⟨rfl, ?_⟩
      simp only [aFirst, ne_eq, not_true, if_false, M.bind, aRow, if_pos hr, hg, Nat.zero_mul]
      rw [if_pos (by omega)]; simp [M.pure]
  have hz : aLenOf (.eslice r o l z) = some 0 := rfl
  simp only [ROp.exec, hx, hy, aCopy, hf.1, hz, Nat.min_zero]
  rw [bind_of hf.2]
  simp [M.pure]
theorem Fe.copyE {x y : ROpd} {s : AVal} {m : List UInt8} {r o l z : Nat} (hw : ROper.wanted fr ⟨some d, .copy 1 x y, g⟩ = true) (hx : x.ev fr = .eslice r o l z) (hy : y.ev fr = s) [hs : BytesI H s m] (h : AllR bm H Rd ∧ WpE call (n + 1) ref its H0 ((n, H) :: E) Rd (upd fr d (.int .i64 0)) H K) : WpE call n ref (⟨⟨some d, .copy 1 x y, g⟩, bm, 2, pre⟩ :: its) H0 E Rd fr H K :=
  WpE.effect hw (exec_copyE hx hy) h.1 h.2
end
end Go.Am

set_option maxHeartbeats 4000000
set_option maxRecDepth 100000
set_option synthInstance.maxHeartbeats 4000000
set_option synthInstance.maxSize 100000
namespace Go.Am
open Go

section
variable {call : ACall} {fr : AFrame} {H : AHeap} {K : AVal → AHeap → Prop}
theorem WpX.appendZ {e : TypeId} {sz b n : Nat} {z : List AVal} {x y : ROpd} (hx : x.ev fr = .nslice) (hy : y.ev fr = .int .i64 (n : Int)) (h0 : 0 < n) (hr : 2 * n * b ≤ 2 ^ 48) (hb : 0 < b) (hs : 0 < sz) (hz : z.length = sz)
    (h : K (.slice H.n 0 n none sz) (H.push (.row (List.replicate n z).flatten true (2 * e)))) : WpX (.appendZ e sz b z x y) call fr H K := by
  refine ⟨_, _, ?_, h⟩
  have hc : 0 < (n : Int) ∧ 2 * n * b ≤ 2 ^ 48 ∧ 0 < b ∧ 0 < sz ∧ z.length = sz := ⟨by omega, hr, hb, hs, hz⟩
  simp only [ROp.exec, hx, hy, aAppendZ, Int.toNat_natCast]
  rw [if_pos hc]
  rfl
theorem WpX.slc0 {x : ROpd} {hi : Option ROpd} {r n : Nat} {cs : List AVal} {rw : Bool} {e : TypeId} (hx : x.ev fr = .slice r 0 n none 1) (hhi : hi.map (·.ev fr) = some (.int .i64 0)) (hr : r < H.n) (hg : H.get r = .row cs rw e) (hl : n ≤ cs.length)
    (h : K (.slice r 0 0 none 1) H) : WpX (.sliceS 1 x none hi none) call fr H K := by
  refine ⟨_, _, ?_, h⟩
  have hb : aBounds n none none (some (.int .i64 0)) none = some (0, 0, none) := by
    have h1 : (0 : Int) ≤ 0 ∧ (0 : Int) ≤ ((n : Nat) : Int) := by omega
    simp only [aBounds, aHigh, capD, aBound, if_pos h1, aLow]
    rfl
  have h2 : ¬ cs.length < 0 + n := by omega
  have hrow : aRow r H = some ((cs, rw), H) := by simp only [aRow, if_pos hr, hg]
  simp only [ROp.exec, hx, hhi, Option.map_none, aSliceS, ne_eq, not_true, if_false, hb, Nat.mul_one, Nat.one_ne_zero, M.bind, hrow, if_neg h2, Nat.lt_irrefl, or_true, if_true, M.pure, Nat.add_zero, Nat.sub_self]
theorem WpX.appendAt {e : TypeId} {sz b : Nat} {x y : ROpd} {p q p' : AVal} {H' : AHeap} (hx : x.ev fr = p) (hy : y.ev fr = q) (h1 : aAppend e sz b p q H = some (p', H')) (h : K p' H') : WpX (.append e sz b x y) call fr H K :=
  ⟨_, _, by simp only [ROp.exec, hx, hy]; exact h1, h⟩
end

/-- A list with room for n numbers. -/
def Room (H : AHeap) (p : AVal) (n : Nat) (l : List Int) : Prop :=
  (n = 0 ∧ l = [] ∧ p = .nslice) ∨ ∃ r row e, p = .slice r 0 l.length none 1 ∧ r < H.n ∧ H.get r = .row row true e ∧ row.length = n ∧ l.length ≤ n ∧ row.take l.length = cellsI l
theorem Room.ints {H : AHeap} {p : AVal} {n : Nat} {l : List Int} (h : Room H p n l) : IntsI H p l := by
  rcases h with ⟨_, rfl, rfl⟩ | ⟨r, row, e, rfl, h1, h2, h3, h4, h5⟩
  · exact ⟨Or.inl ⟨rfl, rfl, rfl⟩⟩
  · exact ⟨Or.inr ⟨r, 0, none, row, true, e, rfl, h1, h2, by rw [Nat.mul_one]; omega, by rw [Nat.mul_one, List.drop_zero]; exact h5, Nat.le_refl _⟩⟩
theorem Room.ext {H H' : AHeap} {p : AVal} {n : Nat} {l : List Int} (h : Room H p n l) (x : Ext H H') : Room H' p n l := by
  rcases h with h | ⟨r, row, e, h0, h1, h2, h3⟩
  · exact Or.inl h
  · exact Or.inr ⟨r, row, e, h0, Nat.lt_of_lt_of_le h1 x.n, by rw [x.get _ h1]; exact h2, h3⟩
theorem exec_room {H : AHeap} {p q : AVal} {n : Nat} {l m : List Int} {e : TypeId} (h : Room H p n l) (hq : IntsI H q m) (hn : l.length + m.length ≤ n) :
    ∃ p' H', aAppend e 1 8 p q H = some (p', H') ∧ Room H' p' n (l ++ m) ∧ H'.n = H.n ∧ (∀ r, (∀ off len cap sz, p ≠ .slice r off len cap sz) → H'.get r = H.get r) ∧ (∀ K : AHeap, (∀ r off len cap sz, p = .slice r off len cap sz → K.n ≤ r) → ∀ r off len cap sz, p' = .slice r off len cap sz → K.n ≤ r) := by
  obtain ⟨hf1, hf2⟩ := aFirst_at hq
  have hone : (cellsI m).all AVal.one = true := by
    rw [List.all_eq_true]; intro v hv
    simp only [cellsI, List.mem_map] at hv
    obtain ⟨k, _, rfl⟩ := hv; rfl
  have hlen : (cellsI m).length = m.length * 1 := by simp [cellsI]
  have hcond : (!((cellsI m).all AVal.one) || decide ((cellsI m).length ≠ m.length * 1) || decide (1 = 0) || decide (8 = 0)) = false := by
    rw [hone]; simp [hlen]
  rcases h with ⟨rfl, rfl, rfl⟩ | ⟨r, row, e0, rfl, h1, h2, h3, h4, h5⟩
  · have hm : m = [] := by simpa using hn
    have hm0 : m.length = 0 := by rw [hm]; rfl
    refine ⟨.nslice, H, ?_, Or.inl ⟨rfl, by rw [hm]; rfl, rfl⟩, rfl, fun _ _ => rfl, fun K hK => hK⟩
    rw [hm0] at hf1 hf2 hcond
    simp only [aAppend, hf1, M.bind, hf2, hcond]
    rfl
  · by_cases hm0 : m.length = 0
    · have hm : m = [] := List.eq_nil_of_length_eq_zero hm0
      refine ⟨.slice r 0 l.length none 1, H, ?_, ?_, rfl, fun _ _ => rfl, fun K hK => hK⟩
      · have hle : 0 + l.length * 1 ≤ row.length := by omega
        have hrow : aRow r H = some ((row, true), H) := by simp only [aRow, if_pos h1, h2]
        rw [hm0] at hf1 hf2 hcond
        simp only [aAppend, hf1, M.bind, hf2, hcond, Bool.false_eq_true, if_false, ne_eq, not_true, hrow, if_true, if_pos hle]
        rfl
      · rw [hm, List.append_nil]; exact Or.inr ⟨r, row, e0, rfl, h1, h2, h3, h4, h5⟩
    · have hrow : aRow r H = some ((row, true), H) := by simp only [aRow, if_pos h1, h2]
      have hle : 0 + (l.length + m.length) * 1 ≤ row.length := by omega
      have hw : aWrite r (0 + l.length * 1) (cellsI m) H = some ((), H.set r (.row (setAt row (0 + l.length * 1) (cellsI m)) true e0)) := by
        simp only [aWrite, if_pos h1, h2, hone, Bool.and_true, Bool.true_and]
        rw [if_pos (decide_eq_true (by rw [hlen]; omega))]
      refine ⟨.slice r 0 (l.length + m.length) none 1, H.set r (.row (setAt row (0 + l.length * 1) (cellsI m)) true e0), ?_, ?_, rfl, fun r' hr' => set_get_ne (fun hh => hr' 0 l.length none 1 (by rw [hh])), fun K hK r' off len cap sz q => by cases q; exact hK _ _ _ _ _ rfl⟩
      · simp only [aAppend, hf1, M.bind, hf2, hcond, Bool.false_eq_true, if_false, ne_eq, not_true, hrow, hm0, if_pos hle, hw]
        rfl
      · rw [show l.length + m.length = (l ++ m).length by simp]
        refine Or.inr ⟨r, _, e0, rfl, h1, set_get_eq, by rw [setAt_length]; exact h3, by rw [List.length_append]; omega, ?_⟩
        apply List.ext_getElem?
        intro i
        rw [List.getElem?_take, List.length_append]
        by_cases hi : i < l.length + m.length
        · rw [if_pos hi, setAt_get _ _ _ _ (by rw [hlen]; omega), hlen]
          by_cases h6 : 0 + l.length * 1 ≤ i ∧ i < 0 + l.length * 1 + m.length * 1
          · rw [if_pos h6]
            have h7 : (cellsI (l ++ m))[i]? = (cellsI m)[i - (0 + l.length * 1)]? := by
              simp only [cellsI, List.map_append]
              rw [List.getElem?_append_right (by simp; omega)]
              simp
            rw [h7]
          · rw [if_neg h6]
            have h8 : i < l.length := by omega
            have h9 := congrArg (fun q => q[i]?) h5
            simp only [List.getElem?_take, if_pos h8] at h9
            rw [h9]
            simp only [cellsI, List.map_append]
            rw [List.getElem?_append_left (by simp; exact h8)]
        · rw [if_neg hi, List.getElem?_eq_none (by simp [cellsI]; omega)]
end Go.Am

set_option maxHeartbeats 4000000
set_option maxRecDepth 100000
set_option synthInstance.maxHeartbeats 4000000
set_option synthInstance.maxSize 100000
namespace Go.Am
open Go
attribute [local irreducible] Wp WpO WpX WpE

instance K_back1 {k : Int} {H : AHeap} : PureCon ext prog 81 [.int .i64 k] H 1 (.bool (k != 0)) := ⟨by
 refine con_of (show prog 81 = some c81 from rfl) rfl rfl fun n hn => ?_
 refine sq ?_
 refine rg fun KF hKF => ?_
 refine mB rfl ?_
 refine WpO.nil (hKF _ _ ?_)
 refine sq ?_
 refine rg fun KF hKF => ?_
 refine mI rfl ?_
 refine Fo.bin rfl rfl rfl rfl ?_
 refine mB rfl ?_
 refine WpO.nil (hKF _ _ ?_)
 refine Wp.ret ?_
 dsimp only [cond_true, cond_false]
 refine ⟨trivial, _, (by first | rfl | exact getAllC rfl rfl rfl rfl | exact getAllT rfl (getAllC rfl rfl rfl rfl) | exact getAllC rfl rfl rfl (getAllC rfl rfl rfl rfl) | exact getAllC1 rfl rfl rfl), ?_⟩
 exact ⟨rfl, Ext0.ext⟩⟩
class AllZ (l : List Int) : Prop where
 z : ∀ j (h : j < l.length), l[j] = 0
 le : l.length ≤ 999999
instance K_IndexFuncZ {p : AVal} {H : AHeap} {l : List Int} [hp : IntsI H p l] [hz : AllZ l] : PureCon ext prog 144 [p, .func (.func 81) [] []] H 2 (.int .i64 (-1)) := ⟨by
 refine con_of (show prog 144 = some c144 from rfl) rfl rfl fun n hn => ?_
 haveI := hp.one
 have hsl := hz.le
 refine sq ?_
 refine rg fun KF hKF => ?_
 refine mI rfl ?_
 refine WpO.nil (hKF _ _ ?_)
 refine sq ?_
 refine sq ?_
 refine rg fun KF hKF => ?_
 refine Fo.mov (by simp only [↓nrmL, nrmK, Nat.reduceEqDiff, ↓reduceIte]; rfl) ?_
 refine Fo.len (v := ?_) (by simp only [↓nrmL, nrmK, Nat.reduceEqDiff, ↓reduceIte]; rfl) ?hv ?_; case hv => rfl
 refine mI rfl ?_
 refine WpO.nil (hKF _ _ ?_)
 refine Wp.block ?_
 dsimp only [cond_true, cond_false]
 refine Wp.loopS [4, 5, 8, 9, 10, 11, 12, 13, 14, 15, 16, 17, 18] (fun i : Nat => [(8, .int .i64 i)]) (fun H3 i H2 => i ≤ l.length ∧ Ext H3 H2) (fun i => l.length - i) 0 rfl (fun _ => rfl) ⟨rfl, trivial⟩ ⟨Nat.zero_le _, Ext.refl _⟩ (by unfold fuel0 at hn; omega) ?_
 rintro i g H2 ⟨hi, hx2⟩
 haveI : ExtI _ H2 := ⟨hx2⟩
 simp only [↓nrmL, nrmZ, Nat.reduceEqDiff, ↓reduceIte, Nat.reduceAdd, Int.reduceBEq, Int.reduceBNe]
 cases hc : decide ((i : Int) < (l.length : Int))
 ·skip
  try simp only [↓nrmL, nrmZ, Nat.reduceEqDiff, ↓reduceIte, Nat.reduceAdd, Int.reduceBEq, Int.reduceBNe, hc]
  refine sq ?_
  refine rg fun KF hKF => ?_
  refine Fo.bin rfl rfl rfl (by simp only [↓nrmL, nrmZ, Nat.reduceEqDiff, ↓reduceIte, Nat.reduceAdd, Int.reduceBEq, Int.reduceBNe, hc]; rfl) ?_
  refine WpO.nil (hKF _ _ ?_)
  refine sq ?_
  refine Wp.cond (b := false) rfl ?_
  refine Wp.exit ?_
  refine sq ?_
  refine rg fun KF hKF => ?_
  refine mI rfl ?_
  refine WpO.nil (hKF _ _ ?_)
  refine Wp.ret ?_
  dsimp only [cond_true, cond_false]
  refine ⟨trivial, _, (by first | rfl | exact getAllC rfl rfl rfl rfl | exact getAllT rfl (getAllC rfl rfl rfl rfl) | exact getAllC rfl rfl rfl (getAllC rfl rfl rfl rfl) | exact getAllC1 rfl rfl rfl), ?_⟩
  exact ⟨rfl, Ext0.ext⟩
 ·have hil : i < l.length := by have := of_decide_eq_true hc; omega
  have hw1 := wa1 (a := i) (by omega)
  have h0 := hz.z i hil
  have hne : (l[i] != 0) = false := by rw [h0]; rfl
  try simp only [↓nrmL, nrmZ, Nat.reduceEqDiff, ↓reduceIte, Nat.reduceAdd, Int.reduceBEq, Int.reduceBNe, hc, hne]
  refine sq ?_
  refine rg fun KF hKF => ?_
  refine Fo.bin rfl rfl rfl (by simp only [↓nrmL, nrmZ, Nat.reduceEqDiff, ↓reduceIte, Nat.reduceAdd, Int.reduceBEq, Int.reduceBNe, hc, hne]; rfl) ?_
  refine WpO.nil (hKF _ _ ?_)
  refine sq ?_
  refine Wp.cond (b := true) rfl ?_
  refine Wp.skip ?_
  refine sq ?_
  refine Wp.block ?_
  refine sq ?_
  refine rg fun KF hKF => ?_
  refine mI rfl ?_
  refine mI rfl ?_
  refine WpO.nil (hKF _ _ ?_)
  refine sq ?_
  refine rg fun KF hKF => ?_
  refine mF rfl ?_
  refine Fo.mov (by simp only [↓nrmL, nrmK, Nat.reduceEqDiff, ↓reduceIte]; rfl) ?_
  refine mI rfl ?_
  refine Fo.idx (by simp only [↓nrmL, nrmK, Nat.reduceEqDiff, ↓reduceIte]; rfl) rfl ?_ (by simp only [↓nrmL, nrmZ, Nat.reduceEqDiff, ↓reduceIte, Nat.reduceAdd, Int.reduceBEq, Int.reduceBNe, hc, hne]; rfl) ?_; (focus omega)
  refine Fo.ldI rfl ?_ rfl ?_; (focus omega)
  refine Fo.pcall (v' := ?_) hn rfl (by simp only [↓nrmL, nrmZ, Nat.reduceEqDiff, ↓reduceIte, Nat.reduceAdd, Int.reduceBEq, Int.reduceBNe, hc, hne, List.map]; rfl) rfl ?hv fun _ _ => ?_; case hv => (simp only [↓nrmL, nrmZ, Nat.reduceEqDiff, ↓reduceIte, Nat.reduceAdd, Int.reduceBEq, Int.reduceBNe, hc, hne]; rfl)
  refine WpO.nil (hKF _ _ ?_)
  refine Wp.cond (b := false) rfl ?_
  refine Wp.skip ?_
  refine rg fun KF hKF => ?_
  refine Fo.bin rfl rfl rfl rfl ?_
  refine mI rfl ?_
  refine WpO.nil (hKF _ _ ?_)
  dsimp only [cond_true, cond_false]
  refine ⟨i + 1, by omega, ⟨by simp only [↓nrmL, nrmZ, Nat.reduceEqDiff, ↓reduceIte, Nat.reduceAdd, Int.reduceBEq, Int.reduceBNe]; rw [hw1], trivial⟩, hil, Ext0.ext⟩⟩
instance K_ContainsFuncZ {p : AVal} {H : AHeap} {l : List Int} [hp : IntsI H p l] [hz : AllZ l] : PureCon ext prog 79 [p, .func (.func 81) [] []] H 3 (.bool false) := ⟨by
 refine con_of (show prog 79 = some c79 from rfl) rfl rfl fun n hn => ?_
 haveI := hp.one
 refine sq ?_
 refine rg fun KF hKF => ?_
 refine mB rfl ?_
 refine WpO.nil (hKF _ _ ?_)
 refine sq ?_
 refine rg fun KF hKF => ?_
 refine Fo.mov (by simp only [↓nrmL, nrmK, Nat.reduceEqDiff, ↓reduceIte]; rfl) ?_
 refine mF rfl ?_
 refine Fo.pcall (v' := ?_) hn rfl (by simp only [↓nrmL, nrmZ, Nat.reduceEqDiff, ↓reduceIte, Nat.reduceAdd, Int.reduceBEq, Int.reduceBNe, List.map]; rfl) rfl ?hv fun _ _ => ?_; case hv => rfl
 refine Fo.bin rfl rfl rfl rfl ?_
 refine mB rfl ?_
 refine WpO.nil (hKF _ _ ?_)
 refine Wp.ret ?_
 dsimp only [cond_true, cond_false]
 refine ⟨trivial, _, (by first | rfl | exact getAllC rfl rfl rfl rfl | exact getAllT rfl (getAllC rfl rfl rfl rfl) | exact getAllC rfl rfl rfl (getAllC rfl rfl rfl rfl) | exact getAllC1 rfl rfl rfl), ?_⟩
 exact ⟨rfl, Ext0.ext⟩⟩

theorem K_Grow {n0 : Nat} {H : AHeap} (hn0 : n0 ≤ 2000) : Con ext prog 1 145 [.nslice, .int .i64 n0] H fun v H' => Room H' v n0 [] ∧ FreshS H v ∧ Ext H H' := by
 refine con_of (show prog 145 = some c145 from rfl) rfl rfl fun n hn => ?_
 have e1 : decide ((n0 : Int) < 0) = false := decide_eq_false (by omega)
 have e2 : IntKind.i64.wrap ((0 : Int) - 0) = 0 := rfl
 have e4 : ((([] : List Int).length : Nat) : Int) = 0 := rfl
 have e5 : ((([] : List UInt8).length : Nat) : Int) = 0 := rfl
 have e6 : ((([] : List AVal).length : Nat) : Int) = 0 := rfl
 have e3 : IntKind.i64.wrap ((n0 : Int) - 0) = (n0 : Int) := by rw [w64 (by omega)]; omega
 cases h0 : decide ((n0 : Int) > 0)
 ·have hz : n0 = 0 := by have := of_decide_eq_false h0; omega
  subst hz
  try simp only [↓nrmL, nrmZ, Nat.reduceEqDiff, ↓reduceIte, Nat.reduceAdd, Int.reduceBEq, Int.reduceBNe, e1, e4, e5, e6, e2, e3, h0]
  refine sq ?_
  refine rg fun KF hKF => ?_
  refine mN rfl ?_
  refine WpO.nil (hKF _ _ ?_)
  refine sq ?_
  refine sq ?_
  refine rg fun KF hKF => ?_
  refine mI rfl ?_
  refine Fo.bin rfl rfl rfl (by simp only [↓nrmL, nrmZ, Nat.reduceEqDiff, ↓reduceIte, Nat.reduceAdd, Int.reduceBEq, Int.reduceBNe, e1, e4, e5, e6, e2, e3, h0]; rfl) ?_
  refine WpO.nil (hKF _ _ ?_)
  refine Wp.cond (b := false) rfl ?_
  refine Wp.skip ?_
  refine sq ?_
  refine sq ?_
  refine rg fun KF hKF => ?_
  refine mI rfl ?_
  refine mN rfl ?_
  refine Fo.now rfl rfl rfl ?_
  refine mN rfl ?_
  refine Fo.len (v := ?_) (rfl : _ = AVal.nslice) ?hv ?_; case hv => (simp only [↓nrmL, nrmZ, Nat.reduceEqDiff, ↓reduceIte, Nat.reduceAdd, Int.reduceBEq, Int.reduceBNe, e1, e4, e5, e6, e2, e3, h0]; rfl)
  refine Fo.bin rfl rfl rfl (by simp only [↓nrmL, nrmZ, Nat.reduceEqDiff, ↓reduceIte, Nat.reduceAdd, Int.reduceBEq, Int.reduceBNe, e1, e4, e5, e6, e2, e3, h0]; rfl) ?_
  refine Fo.bin rfl rfl rfl (by simp only [↓nrmL, nrmZ, Nat.reduceEqDiff, ↓reduceIte, Nat.reduceAdd, Int.reduceBEq, Int.reduceBNe, e1, e4, e5, e6, e2, e3, h0]; rfl) ?_
  refine mI rfl ?_
  refine WpO.nil (hKF _ _ ?_)
  refine sq ?_
  refine rg fun KF hKF => ?_
  refine mI rfl ?_
  refine Fo.bin rfl rfl rfl (by simp only [↓nrmL, nrmZ, Nat.reduceEqDiff, ↓reduceIte, Nat.reduceAdd, Int.reduceBEq, Int.reduceBNe, e1, e4, e5, e6, e2, e3, h0]; rfl) ?_
  refine WpO.nil (hKF _ _ ?_)
  refine Wp.cond (b := false) rfl ?_
  refine Wp.skip ?_
  refine sq ?_
  refine rg fun KF hKF => ?_
  refine mN rfl ?_
  refine mN rfl ?_
  refine WpO.nil (hKF _ _ ?_)
  refine Wp.ret ?_
  dsimp only [cond_true, cond_false]
  refine ⟨trivial, _, (by first | rfl | exact getAllC rfl rfl rfl rfl | exact getAllT rfl (getAllC rfl rfl rfl rfl) | exact getAllC rfl rfl rfl (getAllC rfl rfl rfl rfl) | exact getAllC1 rfl rfl rfl), ?_⟩
  exact ⟨Or.inl ⟨rfl, rfl, rfl⟩, ⟨fun _ _ _ _ _ e => by cases e⟩, Ext0.ext⟩
 ·have hp0 : 0 < n0 := by have := of_decide_eq_true h0; omega
  try simp only [↓nrmL, nrmZ, Nat.reduceEqDiff, ↓reduceIte, Nat.reduceAdd, Int.reduceBEq, Int.reduceBNe, e1, e4, e5, e6, e2, e3, h0]
  refine sq ?_
  refine rg fun KF hKF => ?_
  refine mN rfl ?_
  refine WpO.nil (hKF _ _ ?_)
  refine sq ?_
  refine sq ?_
  refine rg fun KF hKF => ?_
  refine mI rfl ?_
  refine Fo.bin rfl rfl rfl (by simp only [↓nrmL, nrmZ, Nat.reduceEqDiff, ↓reduceIte, Nat.reduceAdd, Int.reduceBEq, Int.reduceBNe, e1, e4, e5, e6, e2, e3, h0]; rfl) ?_
  refine WpO.nil (hKF _ _ ?_)
  refine Wp.cond (b := false) rfl ?_
  refine Wp.skip ?_
  refine sq ?_
  refine sq ?_
  refine rg fun KF hKF => ?_
  refine mI rfl ?_
  refine mN rfl ?_
  refine Fo.now rfl rfl rfl ?_
  refine mN rfl ?_
  refine Fo.len (v := ?_) (rfl : _ = AVal.nslice) ?hv ?_; case hv => (simp only [↓nrmL, nrmZ, Nat.reduceEqDiff, ↓reduceIte, Nat.reduceAdd, Int.reduceBEq, Int.reduceBNe, e1, e4, e5, e6, e2, e3, h0]; rfl)
  refine Fo.bin rfl rfl rfl (by simp only [↓nrmL, nrmZ, Nat.reduceEqDiff, ↓reduceIte, Nat.reduceAdd, Int.reduceBEq, Int.reduceBNe, e1, e4, e5, e6, e2, e3, h0]; rfl) ?_
  refine Fo.bin rfl rfl rfl (by simp only [↓nrmL, nrmZ, Nat.reduceEqDiff, ↓reduceIte, Nat.reduceAdd, Int.reduceBEq, Int.reduceBNe, e1, e4, e5, e6, e2, e3, h0]; rfl) ?_
  refine mI rfl ?_
  refine WpO.nil (hKF _ _ ?_)
  refine sq ?_
  refine rg fun KF hKF => ?_
  refine mI rfl ?_
  refine Fo.bin rfl rfl rfl (by simp only [↓nrmL, nrmZ, Nat.reduceEqDiff, ↓reduceIte, Nat.reduceAdd, Int.reduceBEq, Int.reduceBNe, e1, e4, e5, e6, e2, e3, h0]; rfl) ?_
  refine WpO.nil (hKF _ _ ?_)
  refine Wp.cond (b := true) rfl ?_
  refine rg fun KF hKF => ?_
  refine mN rfl ?_
  refine mN rfl ?_
  refine Fo.now rfl rfl rfl ?_
  refine Fo.now rfl rfl rfl ?_
  refine mI rfl ?_
  refine WpO.do (WpX.appendZ (e := 3) (sz := 1) (b := 8) (n := n0) (z := [.int .i64 0]) rfl rfl hp0 (by omega) (by decide) (by decide) rfl ?_)
  refine mN rfl ?_
  refine Fo.len (v := ?_) (rfl : _ = AVal.nslice) ?hv ?_; case hv => rfl
  refine WpO.do (WpX.slc0 (r := H.n) (n := n0) rfl rfl (Nat.lt_succ_self _) push_get_eq (by simp) ?_)
  refine Fo.mov (by simp only [↓nrmL, nrmK, Nat.reduceEqDiff, ↓reduceIte]; rfl) ?_
  refine WpO.nil (hKF _ _ ?_)
  refine sq ?_
  refine rg fun KF hKF => ?_
  refine Fo.mov (by simp only [↓nrmL, nrmK, Nat.reduceEqDiff, ↓reduceIte]; rfl) ?_
  refine Fo.mov (by simp only [↓nrmL, nrmK, Nat.reduceEqDiff, ↓reduceIte]; rfl) ?_
  refine WpO.nil (hKF _ _ ?_)
  refine Wp.ret ?_
  dsimp only [cond_true, cond_false]
  refine ⟨trivial, _, (by first | rfl | exact getAllC rfl rfl rfl rfl | exact getAllT rfl (getAllC rfl rfl rfl rfl) | exact getAllC rfl rfl rfl (getAllC rfl rfl rfl rfl) | exact getAllC1 rfl rfl rfl), ?_⟩
  refine ⟨Or.inr ⟨H.n, _, _, rfl, Nat.lt_succ_self _, push_get_eq, by simp, Nat.zero_le _, rfl⟩, ⟨fun _ _ _ _ _ e => by cases e; exact Nat.le_refl _⟩, Ext0.ext⟩

def upTo (l m : List Int) : Nat → List Int
 | 0 => []
 | 1 => l
 | _ => l ++ m
theorem K_Concat {s p q : AVal} {H : AHeap} {l m : List Int} [hs : SliceAt H s 1 2 [p, q]] [hp : IntsI H p l] [hq : IntsI H q m] (hl : l.length ≤ 640) (hm : m.length ≤ 640) : Con ext prog 2 80 [s] H fun v H' => IntsI H' v (l ++ m) ∧ Ext H H' := by
 refine con_of (show prog 80 = some c80 from rfl) rfl rfl fun n hn => ?_
 haveI := hs.one
 haveI := hp.one
 haveI := hq.one
 have u1 : (upTo l m 1).length = l.length := rfl
 have u2 : (upTo l m 2).length = l.length + m.length := by simp [upTo]
 have hw0 : IntKind.i64.wrap ((((upTo l m 0).length : Nat) : Int) + (l.length : Int)) = (((upTo l m 1).length : Nat) : Int) := by
  rw [u1, show (upTo l m 0).length = 0 from rfl, w64 (by omega)]; omega
 have hw1 : IntKind.i64.wrap ((((upTo l m 1).length : Nat) : Int) + (m.length : Int)) = (((upTo l m 2).length : Nat) : Int) := by
  rw [u1, u2, w64 (by omega)]; omega
 have hn1 : decide ((((upTo l m 1).length : Nat) : Int) < 0) = false := decide_eq_false (by omega)
 have hn2 : decide ((((upTo l m 2).length : Nat) : Int) < 0) = false := decide_eq_false (by omega)
 have hi1 : IntKind.i64.wrap (((0 : Nat) : Int) + 1) = ((1 : Nat) : Int) := rfl
 have hi2 : IntKind.i64.wrap (((1 : Nat) : Int) + 1) = ((2 : Nat) : Int) := rfl
 have hc0 : decide (((0 : Nat) : Int) < ((2 : Nat) : Int)) = true := rfl
 have hc1 : decide (((1 : Nat) : Int) < ((2 : Nat) : Int)) = true := rfl
 have hc2 : decide (((2 : Nat) : Int) < ((2 : Nat) : Int)) = false := rfl
 refine sq ?_
 refine rg fun KF hKF => ?_
 refine mN rfl ?_
 refine WpO.nil (hKF _ _ ?_)
 refine sq ?_
 refine rg fun KF hKF => ?_
 refine mI rfl ?_
 refine WpO.nil (hKF _ _ ?_)
 refine sq ?_
 refine sq ?_
 refine rg fun KF hKF => ?_
 refine Fo.mov (by simp only [↓nrmL, nrmK, Nat.reduceEqDiff, ↓reduceIte]; rfl) ?_
 refine Fo.len (v := ?_) (by simp only [↓nrmL, nrmK, Nat.reduceEqDiff, ↓reduceIte]; rfl) ?hv ?_; case hv => rfl
 refine mI rfl ?_
 refine WpO.nil (hKF _ _ ?_)
 refine Wp.block ?_
 dsimp only [cond_true, cond_false]
 refine Wp.loopS [3, 5, 11, 12, 13, 14, 15, 16, 17, 18, 19, 20, 22] (fun i : Nat => [(3, .int .i64 ((upTo l m i).length : Nat)), (11, .int .i64 i)]) (fun H3 i H2 => i ≤ 2 ∧ H2 = H3) (fun i => 2 - i) 0 rfl (fun _ => rfl) ⟨rfl, rfl, trivial⟩ ⟨Nat.zero_le _, rfl⟩ (by unfold fuel0 at hn; omega) ?_
 rintro i g H2 ⟨hi, hE⟩
 obtain rfl := hE.symm
 simp only [↓nrmL, nrmZ, Nat.reduceEqDiff, ↓reduceIte, Nat.reduceAdd, Int.reduceBEq, Int.reduceBNe]
 obtain rfl | rfl | rfl : i = 0 ∨ i = 1 ∨ i = 2 := by omega
 ·skip
  try simp only [↓nrmL, nrmZ, Nat.reduceEqDiff, ↓reduceIte, Nat.reduceAdd, Int.reduceBEq, Int.reduceBNe, hc0]
  refine sq ?_
  refine rg fun KF hKF => ?_
  refine Fo.bin rfl rfl rfl (by simp only [↓nrmL, nrmZ, Nat.reduceEqDiff, ↓reduceIte, Nat.reduceAdd, Int.reduceBEq, Int.reduceBNe, hc0]; rfl) ?_
  refine WpO.nil (hKF _ _ ?_)
  refine sq ?_
  refine Wp.cond (b := true) rfl ?_
  refine Wp.skip ?_
  refine sq ?_
  refine Wp.block ?_
  refine sq ?_
  refine rg fun KF hKF => ?_
  refine Fo.idx (by simp only [↓nrmL, nrmK, Nat.reduceEqDiff, ↓reduceIte]; rfl) rfl ?_ (by simp only [↓nrmL, nrmZ, Nat.reduceEqDiff, ↓reduceIte, Nat.reduceAdd, Int.reduceBEq, Int.reduceBNe, hc0]; rfl) ?_; (focus omega)
  refine WpO.do (WpX.ldP (p := s) (j := 0) (v := p) rfl rfl ?_)
  try simp only [↓nrmL, nrmZ, Nat.reduceEqDiff, ↓reduceIte, Nat.reduceAdd, Int.reduceBEq, Int.reduceBNe, hw0, hn1]
  refine Fo.mov (by simp only [↓nrmL, nrmK, Nat.reduceEqDiff, ↓reduceIte]; rfl) ?_
  refine WpO.nil (hKF _ _ ?_)
  refine sq ?_
  refine rg fun KF hKF => ?_
  refine mI rfl ?_
  refine Fo.mov (by simp only [↓nrmL, nrmK, Nat.reduceEqDiff, ↓reduceIte]; rfl) ?_
  refine Fo.len (v := ?_) (by simp only [↓nrmL, nrmK, Nat.reduceEqDiff, ↓reduceIte]; rfl) ?hv ?_; case hv => rfl
  refine Fo.bin rfl rfl rfl (by simp only [↓nrmL, nrmZ, Nat.reduceEqDiff, ↓reduceIte, Nat.reduceAdd, Int.reduceBEq, Int.reduceBNe, hw0, hn1]; rfl) ?_
  refine mI rfl ?_
  refine WpO.nil (hKF _ _ ?_)
  refine sq ?_
  refine rg fun KF hKF => ?_
  refine mI rfl ?_
  refine Fo.bin rfl rfl rfl (by simp only [↓nrmL, nrmZ, Nat.reduceEqDiff, ↓reduceIte, Nat.reduceAdd, Int.reduceBEq, Int.reduceBNe, hw0, hn1]; rfl) ?_
  refine WpO.nil (hKF _ _ ?_)
  refine Wp.cond (b := false) rfl ?_
  refine Wp.skip ?_
  refine rg fun KF hKF => ?_
  refine Fo.bin rfl rfl rfl rfl ?_
  refine mI rfl ?_
  refine WpO.nil (hKF _ _ ?_)
  dsimp only [cond_true, cond_false]
  refine ⟨1, by omega, ⟨by simp only [↓nrmL, nrmZ, Nat.reduceEqDiff, ↓reduceIte, Nat.reduceAdd, Int.reduceBEq, Int.reduceBNe], by simp only [↓nrmL, nrmZ, Nat.reduceEqDiff, ↓reduceIte, Nat.reduceAdd, Int.reduceBEq, Int.reduceBNe]; rw [hi1], trivial⟩, by omega, rfl⟩
 ·skip
  try simp only [↓nrmL, nrmZ, Nat.reduceEqDiff, ↓reduceIte, Nat.reduceAdd, Int.reduceBEq, Int.reduceBNe, hc1]
  refine sq ?_
  refine rg fun KF hKF => ?_
  refine Fo.bin rfl rfl rfl (by simp only [↓nrmL, nrmZ, Nat.reduceEqDiff, ↓reduceIte, Nat.reduceAdd, Int.reduceBEq, Int.reduceBNe, hc1]; rfl) ?_
  refine WpO.nil (hKF _ _ ?_)
  refine sq ?_
  refine Wp.cond (b := true) rfl ?_
  refine Wp.skip ?_
  refine sq ?_
  refine Wp.block ?_
  refine sq ?_
  refine rg fun KF hKF => ?_
  refine Fo.idx (by simp only [↓nrmL, nrmK, Nat.reduceEqDiff, ↓reduceIte]; rfl) rfl ?_ (by simp only [↓nrmL, nrmZ, Nat.reduceEqDiff, ↓reduceIte, Nat.reduceAdd, Int.reduceBEq, Int.reduceBNe, hc1]; rfl) ?_; (focus omega)
  refine WpO.do (WpX.ldP (p := s) (j := 1) (v := q) rfl rfl ?_)
  try simp only [↓nrmL, nrmZ, Nat.reduceEqDiff, ↓reduceIte, Nat.reduceAdd, Int.reduceBEq, Int.reduceBNe, hw1, hn2]
  refine Fo.mov (by simp only [↓nrmL, nrmK, Nat.reduceEqDiff, ↓reduceIte]; rfl) ?_
  refine WpO.nil (hKF _ _ ?_)
  refine sq ?_
  refine rg fun KF hKF => ?_
  refine mI rfl ?_
  refine Fo.mov (by simp only [↓nrmL, nrmK, Nat.reduceEqDiff, ↓reduceIte]; rfl) ?_
  refine Fo.len (v := ?_) (by simp only [↓nrmL, nrmK, Nat.reduceEqDiff, ↓reduceIte]; rfl) ?hv ?_; case hv => rfl
  refine Fo.bin rfl rfl rfl (by simp only [↓nrmL, nrmZ, Nat.reduceEqDiff, ↓reduceIte, Nat.reduceAdd, Int.reduceBEq, Int.reduceBNe, hw1, hn2]; rfl) ?_
  refine mI rfl ?_
  refine WpO.nil (hKF _ _ ?_)
  refine sq ?_
  refine rg fun KF hKF => ?_
  refine mI rfl ?_
  refine Fo.bin rfl rfl rfl (by simp only [↓nrmL, nrmZ, Nat.reduceEqDiff, ↓reduceIte, Nat.reduceAdd, Int.reduceBEq, Int.reduceBNe, hw1, hn2]; rfl) ?_
  refine WpO.nil (hKF _ _ ?_)
  refine Wp.cond (b := false) rfl ?_
  refine Wp.skip ?_
  refine rg fun KF hKF => ?_
  refine Fo.bin rfl rfl rfl rfl ?_
  refine mI rfl ?_
  refine WpO.nil (hKF _ _ ?_)
  dsimp only [cond_true, cond_false]
  refine ⟨2, by omega, ⟨by simp only [↓nrmL, nrmZ, Nat.reduceEqDiff, ↓reduceIte, Nat.reduceAdd, Int.reduceBEq, Int.reduceBNe], by simp only [↓nrmL, nrmZ, Nat.reduceEqDiff, ↓reduceIte, Nat.reduceAdd, Int.reduceBEq, Int.reduceBNe]; rw [hi2], trivial⟩, by omega, rfl⟩
 ·have hlen : ((upTo l m 2).length : Int) = ((l.length + m.length : Nat) : Int) := by rw [u2]
  try simp only [↓nrmL, nrmZ, Nat.reduceEqDiff, ↓reduceIte, Nat.reduceAdd, Int.reduceBEq, Int.reduceBNe, hc2, hlen]
  refine sq ?_
  refine rg fun KF hKF => ?_
  refine Fo.bin rfl rfl rfl (by simp only [↓nrmL, nrmZ, Nat.reduceEqDiff, ↓reduceIte, Nat.reduceAdd, Int.reduceBEq, Int.reduceBNe, hc2, hlen]; rfl) ?_
  refine WpO.nil (hKF _ _ ?_)
  refine sq ?_
  refine Wp.cond (b := false) rfl ?_
  refine Wp.exit ?_
  refine sq ?_
  refine rg fun KF hKF => ?_
  refine mI rfl ?_
  refine WpO.do (WpX.conD hn rfl rfl (by simp only [↓nrmL, nrmZ, Nat.reduceEqDiff, ↓reduceIte, Nat.reduceAdd, Int.reduceBEq, Int.reduceBNe, List.map, hlen] <;> rfl) (K_Grow (n0 := l.length + m.length) (by omega)) fun v H1 h5 => ?_)
  obtain ⟨r1, r2, r3⟩ := h5
  haveI : ExtI _ H1 := ⟨r3⟩
  haveI := r1.ints.one
  refine Fo.mov (by simp only [↓nrmL, nrmK, Nat.reduceEqDiff, ↓reduceIte]; rfl) ?_
  refine WpO.nil (hKF _ _ ?_)
  refine sq ?_
  refine sq ?_
  refine rg fun KF hKF => ?_
  refine Fo.mov (by simp only [↓nrmL, nrmK, Nat.reduceEqDiff, ↓reduceIte]; rfl) ?_
  refine Fo.len (v := ?_) (by simp only [↓nrmL, nrmK, Nat.reduceEqDiff, ↓reduceIte]; rfl) ?hv ?_; case hv => rfl
  refine mI rfl ?_
  refine WpO.nil (hKF _ _ ?_)
  refine Wp.block ?_
  dsimp only [cond_true, cond_false]
  refine Wp.loopS [6, 8, 27, 28, 29, 30, 31, 32, 33, 34] (fun i : Nat × AVal => [(6, i.2), (27, .int .i64 i.1)]) (fun H3 i H2 => i.1 ≤ 2 ∧ Room H2 i.2 (l.length + m.length) (upTo l m i.1) ∧ FreshS H i.2 ∧ Ext H H2) (fun i => 2 - i.1) (0, v) rfl (fun _ => rfl) ⟨rfl, rfl, trivial⟩ ⟨Nat.zero_le _, r1, r2, Ext0.ext⟩ (by unfold fuel0 at hn; omega) ?_
  rintro ⟨i, v2⟩ g2 H4 ⟨hi4, k1, k2, k3⟩
  dsimp only at hi4 k1 k2 k3
  haveI : Ext0 H H4 := ⟨k3⟩
  haveI : ExtI H H4 := ⟨k3⟩
  haveI := k1.ints.one
  simp only [↓nrmL, nrmZ, Nat.reduceEqDiff, ↓reduceIte, Nat.reduceAdd, Int.reduceBEq, Int.reduceBNe]
  have hstep : ∀ (w : AVal) (x : List Int), IntsI H4 w x → (upTo l m i).length + x.length ≤ l.length + m.length → ∃ p' H', aAppend 3 1 8 v2 w H4 = some (p', H') ∧ Room H' p' (l.length + m.length) (upTo l m i ++ x) ∧ FreshS H p' ∧ Ext H H' := by
   intro w x hw hle
   obtain ⟨p', H', g1, g2, g3, g4, g5⟩ := exec_room (e := 3) k1 hw hle
   refine ⟨p', H', g1, g2, ⟨fun r off len cap sz e => g5 H (fun r off len cap sz e => k2.ge r off len cap sz e) r off len cap sz e⟩, ⟨by rw [g3]; exact k3.n, fun r hr => ?_⟩⟩
   rw [g4 r (fun off len cap sz e => by have := k2.ge _ _ _ _ _ e; omega), k3.get r hr]
  obtain rfl | rfl | rfl : i = 0 ∨ i = 1 ∨ i = 2 := by omega
  ·skip
   try simp only [↓nrmL, nrmZ, Nat.reduceEqDiff, ↓reduceIte, Nat.reduceAdd, Int.reduceBEq, Int.reduceBNe, hc0]
   refine sq ?_
   refine rg fun KF hKF => ?_
   refine Fo.bin rfl rfl rfl (by simp only [↓nrmL, nrmZ, Nat.reduceEqDiff, ↓reduceIte, Nat.reduceAdd, Int.reduceBEq, Int.reduceBNe, hc0]; rfl) ?_
   refine WpO.nil (hKF _ _ ?_)
   refine sq ?_
   refine Wp.cond (b := true) rfl ?_
   refine Wp.skip ?_
   refine sq ?_
   refine Wp.block ?_
   refine sq ?_
   refine rg fun KF hKF => ?_
   refine Fo.idx (by simp only [↓nrmL, nrmK, Nat.reduceEqDiff, ↓reduceIte]; rfl) rfl ?_ (by simp only [↓nrmL, nrmZ, Nat.reduceEqDiff, ↓reduceIte, Nat.reduceAdd, Int.reduceBEq, Int.reduceBNe, hc0]; rfl) ?_; (focus omega)
   refine WpO.do (WpX.ldP (p := s) (j := 0) (v := p) rfl rfl ?_)
   refine Fo.mov (by simp only [↓nrmL, nrmK, Nat.reduceEqDiff, ↓reduceIte]; rfl) ?_
   refine WpO.nil (hKF _ _ ?_)
   refine rg fun KF hKF => ?_
   refine Fo.mov (by simp only [↓nrmL, nrmK, Nat.reduceEqDiff, ↓reduceIte]; rfl) ?_
   refine Fo.mov (by simp only [↓nrmL, nrmK, Nat.reduceEqDiff, ↓reduceIte]; rfl) ?_
   obtain ⟨p', H', g1, g2, g3, g4⟩ := hstep p l inferInstance (by simp [upTo])
   haveI := g2.ints.one
   refine WpO.do (WpX.appendAt rfl rfl g1 ?_)
   refine Fo.mov (by simp only [↓nrmL, nrmK, Nat.reduceEqDiff, ↓reduceIte]; rfl) ?_
   refine WpO.nil (hKF _ _ ?_)
   refine rg fun KF hKF => ?_
   refine Fo.bin rfl rfl rfl rfl ?_
   refine mI rfl ?_
   refine WpO.nil (hKF _ _ ?_)
   dsimp only [cond_true, cond_false]
   refine ⟨(1, p'), by omega, ⟨by simp only [↓nrmL, nrmZ, Nat.reduceEqDiff, ↓reduceIte, Nat.reduceAdd, Int.reduceBEq, Int.reduceBNe], by simp only [↓nrmL, nrmZ, Nat.reduceEqDiff, ↓reduceIte, Nat.reduceAdd, Int.reduceBEq, Int.reduceBNe]; rw [hi1], trivial⟩, by omega, by simpa [upTo] using g2, g3, g4⟩
  ·skip
   try simp only [↓nrmL, nrmZ, Nat.reduceEqDiff, ↓reduceIte, Nat.reduceAdd, Int.reduceBEq, Int.reduceBNe, hc1]
   refine sq ?_
   refine rg fun KF hKF => ?_
   refine Fo.bin rfl rfl rfl (by simp only [↓nrmL, nrmZ, Nat.reduceEqDiff, ↓reduceIte, Nat.reduceAdd, Int.reduceBEq, Int.reduceBNe, hc1]; rfl) ?_
   refine WpO.nil (hKF _ _ ?_)
   refine sq ?_
   refine Wp.cond (b := true) rfl ?_
   refine Wp.skip ?_
   refine sq ?_
   refine Wp.block ?_
   refine sq ?_
   refine rg fun KF hKF => ?_
   refine Fo.idx (by simp only [↓nrmL, nrmK, Nat.reduceEqDiff, ↓reduceIte]; rfl) rfl ?_ (by simp only [↓nrmL, nrmZ, Nat.reduceEqDiff, ↓reduceIte, Nat.reduceAdd, Int.reduceBEq, Int.reduceBNe, hc1]; rfl) ?_; (focus omega)
   refine WpO.do (WpX.ldP (p := s) (j := 1) (v := q) rfl rfl ?_)
   refine Fo.mov (by simp only [↓nrmL, nrmK, Nat.reduceEqDiff, ↓reduceIte]; rfl) ?_
   refine WpO.nil (hKF _ _ ?_)
   refine rg fun KF hKF => ?_
   refine Fo.mov (by simp only [↓nrmL, nrmK, Nat.reduceEqDiff, ↓reduceIte]; rfl) ?_
   refine Fo.mov (by simp only [↓nrmL, nrmK, Nat.reduceEqDiff, ↓reduceIte]; rfl) ?_
   obtain ⟨p', H', g1, g2, g3, g4⟩ := hstep q m inferInstance (by simp [upTo])
   haveI := g2.ints.one
   refine WpO.do (WpX.appendAt rfl rfl g1 ?_)
   refine Fo.mov (by simp only [↓nrmL, nrmK, Nat.reduceEqDiff, ↓reduceIte]; rfl) ?_
   refine WpO.nil (hKF _ _ ?_)
   refine rg fun KF hKF => ?_
   refine Fo.bin rfl rfl rfl rfl ?_
   refine mI rfl ?_
   refine WpO.nil (hKF _ _ ?_)
   dsimp only [cond_true, cond_false]
   refine ⟨(2, p'), by omega, ⟨by simp only [↓nrmL, nrmZ, Nat.reduceEqDiff, ↓reduceIte, Nat.reduceAdd, Int.reduceBEq, Int.reduceBNe], by simp only [↓nrmL, nrmZ, Nat.reduceEqDiff, ↓reduceIte, Nat.reduceAdd, Int.reduceBEq, Int.reduceBNe]; rw [hi2], trivial⟩, by omega, g2, g3, g4⟩
  ·skip
   try simp only [↓nrmL, nrmZ, Nat.reduceEqDiff, ↓reduceIte, Nat.reduceAdd, Int.reduceBEq, Int.reduceBNe, hc2]
   refine sq ?_
   refine rg fun KF hKF => ?_
   refine Fo.bin rfl rfl rfl (by simp only [↓nrmL, nrmZ, Nat.reduceEqDiff, ↓reduceIte, Nat.reduceAdd, Int.reduceBEq, Int.reduceBNe, hc2]; rfl) ?_
   refine WpO.nil (hKF _ _ ?_)
   refine sq ?_
   refine Wp.cond (b := false) rfl ?_
   refine Wp.exit ?_
   refine sq ?_
   refine rg fun KF hKF => ?_
   refine Fo.mov (by simp only [↓nrmL, nrmK, Nat.reduceEqDiff, ↓reduceIte]; rfl) ?_
   refine Fo.mov (by simp only [↓nrmL, nrmK, Nat.reduceEqDiff, ↓reduceIte]; rfl) ?_
   refine WpO.nil (hKF _ _ ?_)
   refine Wp.ret ?_
   dsimp only [cond_true, cond_false]
   refine ⟨trivial, _, (by first | rfl | exact getAllC rfl rfl rfl rfl | exact getAllT rfl (getAllC rfl rfl rfl rfl) | exact getAllC rfl rfl rfl (getAllC rfl rfl rfl rfl) | exact getAllC1 rfl rfl rfl), ?_⟩
   exact ⟨k1.ints, k3⟩
end Go.Am

set_option maxHeartbeats 4000000
set_option maxRecDepth 100000
namespace Go.Am
open Go
attribute [local irreducible] Wp WpO WpX WpE

end Go.Am

set_option maxHeartbeats 4000000
set_option maxRecDepth 100000
namespace Go.Am
open Go
attribute [local irreducible] Wp WpO WpX WpE

end Go.Am

set_option maxHeartbeats 4000000
set_option maxRecDepth 100000
set_option synthInstance.maxHeartbeats 4000000
set_option synthInstance.maxSize 100000
namespace Go.Am
open Go
attribute [local irreducible] Wp WpO WpX WpE

/-- Do n pixels from one on lie in a line? -/
def withinB (f n len : Int) : Bool := decide (f ≥ 0) && decide (n ≥ 0) && decide (f ≤ len) && decide (n ≤ IntKind.i64.wrap (len - f))
instance K_imgWithin {f k len : Int} {H : AHeap} : PureCon ext prog 169 [.int .i64 f, .int .i64 k, .int .i64 len] H 1 (.bool (withinB f k len)) := ⟨by
 refine con_of (show prog 169 = some c169 from rfl) rfl rfl fun n hn => ?_
 unfold withinB
 cases h1 : decide (f ≥ 0)
 ·skip
  try simp only [↓nrmL, nrmZ, Nat.reduceEqDiff, ↓reduceIte, Nat.reduceAdd, Int.reduceBEq, Int.reduceBNe, h1]
  refine sq ?_
  refine rg fun KF hKF => ?_
  refine mB rfl ?_
  refine WpO.nil (hKF _ _ ?_)
  refine sq ?_
  refine rg fun KF hKF => ?_
  refine mI rfl ?_
  refine Fo.bin rfl rfl rfl (by simp only [↓nrmL, nrmZ, Nat.reduceEqDiff, ↓reduceIte, Nat.reduceAdd, Int.reduceBEq, Int.reduceBNe, h1]; rfl) ?_
  refine mB rfl ?_
  refine Fo.no rfl rfl ?_
  refine Fo.no rfl rfl ?_
  refine fB rfl rfl ?_
  refine mB rfl ?_
  refine Fo.no rfl rfl ?_
  refine Fo.no rfl rfl ?_
  refine Fo.no rfl rfl ?_
  refine fB rfl rfl ?_
  refine mB rfl ?_
  refine Fo.no rfl rfl ?_
  refine Fo.no rfl rfl ?_
  refine Fo.no rfl rfl ?_
  refine Fo.no rfl rfl ?_
  refine Fo.no rfl rfl ?_
  refine fB rfl rfl ?_
  refine mB rfl ?_
  refine WpO.nil (hKF _ _ ?_)
  refine Wp.ret ?_
  dsimp only [cond_true, cond_false]
  refine ⟨trivial, _, (by first | rfl | exact getAllC rfl rfl rfl rfl | exact getAllT rfl (getAllC rfl rfl rfl rfl) | exact getAllC rfl rfl rfl (getAllC rfl rfl rfl rfl) | exact getAllC1 rfl rfl rfl), ?_⟩
  exact ⟨rfl, Ext0.ext⟩
 cases h2 : decide (k ≥ 0)
 ·skip
  try simp only [↓nrmL, nrmZ, Nat.reduceEqDiff, ↓reduceIte, Nat.reduceAdd, Int.reduceBEq, Int.reduceBNe, h1, h2]
  refine sq ?_
  refine rg fun KF hKF => ?_
  refine mB rfl ?_
  refine WpO.nil (hKF _ _ ?_)
  refine sq ?_
  refine rg fun KF hKF => ?_
  refine mI rfl ?_
  refine Fo.bin rfl rfl rfl (by simp only [↓nrmL, nrmZ, Nat.reduceEqDiff, ↓reduceIte, Nat.reduceAdd, Int.reduceBEq, Int.reduceBNe, h1, h2]; rfl) ?_
  refine mB rfl ?_
  refine Fo.yes rfl rfl ?_
  refine mI rfl ?_
  refine Fo.yes rfl rfl ?_
  refine Fo.bin rfl rfl rfl (by simp only [↓nrmL, nrmZ, Nat.reduceEqDiff, ↓reduceIte, Nat.reduceAdd, Int.reduceBEq, Int.reduceBNe, h1, h2]; rfl) ?_
  refine tB rfl rfl ?_
  refine mB rfl ?_
  refine Fo.no rfl rfl ?_
  refine Fo.no rfl rfl ?_
  refine Fo.no rfl rfl ?_
  refine fB rfl rfl ?_
  refine mB rfl ?_
  refine Fo.no rfl rfl ?_
  refine Fo.no rfl rfl ?_
  refine Fo.no rfl rfl ?_
  refine Fo.no rfl rfl ?_
  refine Fo.no rfl rfl ?_
  refine fB rfl rfl ?_
  refine mB rfl ?_
  refine WpO.nil (hKF _ _ ?_)
  refine Wp.ret ?_
  dsimp only [cond_true, cond_false]
  refine ⟨trivial, _, (by first | rfl | exact getAllC rfl rfl rfl rfl | exact getAllT rfl (getAllC rfl rfl rfl rfl) | exact getAllC rfl rfl rfl (getAllC rfl rfl rfl rfl) | exact getAllC1 rfl rfl rfl), ?_⟩
  exact ⟨rfl, Ext0.ext⟩
 cases h3 : decide (f ≤ len)
 ·skip
  try simp only [↓nrmL, nrmZ, Nat.reduceEqDiff, ↓reduceIte, Nat.reduceAdd, Int.reduceBEq, Int.reduceBNe, h1, h2, h3]
  refine sq ?_
  refine rg fun KF hKF => ?_
  refine mB rfl ?_
  refine WpO.nil (hKF _ _ ?_)
  refine sq ?_
  refine rg fun KF hKF => ?_
  refine mI rfl ?_
  refine Fo.bin rfl rfl rfl (by simp only [↓nrmL, nrmZ, Nat.reduceEqDiff, ↓reduceIte, Nat.reduceAdd, Int.reduceBEq, Int.reduceBNe, h1, h2, h3]; rfl) ?_
  refine mB rfl ?_
  refine Fo.yes rfl rfl ?_
  refine mI rfl ?_
  refine Fo.yes rfl rfl ?_
  refine Fo.bin rfl rfl rfl (by simp only [↓nrmL, nrmZ, Nat.reduceEqDiff, ↓reduceIte, Nat.reduceAdd, Int.reduceBEq, Int.reduceBNe, h1, h2, h3]; rfl) ?_
  refine tB rfl rfl ?_
  refine mB rfl ?_
  refine Fo.yes rfl rfl ?_
  refine mI rfl ?_
  refine Fo.yes rfl rfl ?_
  refine mI rfl ?_
  refine Fo.yes rfl rfl ?_
  refine Fo.bin rfl rfl rfl (by simp only [↓nrmL, nrmZ, Nat.reduceEqDiff, ↓reduceIte, Nat.reduceAdd, Int.reduceBEq, Int.reduceBNe, h1, h2, h3]; rfl) ?_
  refine tB rfl rfl ?_
  refine mB rfl ?_
  refine Fo.no rfl rfl ?_
  refine Fo.no rfl rfl ?_
  refine Fo.no rfl rfl ?_
  refine Fo.no rfl rfl ?_
  refine Fo.no rfl rfl ?_
  refine fB rfl rfl ?_
  refine mB rfl ?_
  refine WpO.nil (hKF _ _ ?_)
  refine Wp.ret ?_
  dsimp only [cond_true, cond_false]
  refine ⟨trivial, _, (by first | rfl | exact getAllC rfl rfl rfl rfl | exact getAllT rfl (getAllC rfl rfl rfl rfl) | exact getAllC rfl rfl rfl (getAllC rfl rfl rfl rfl) | exact getAllC1 rfl rfl rfl), ?_⟩
  exact ⟨rfl, Ext0.ext⟩
 ·skip
  try simp only [↓nrmL, nrmZ, Nat.reduceEqDiff, ↓reduceIte, Nat.reduceAdd, Int.reduceBEq, Int.reduceBNe, h1, h2, h3]
  refine sq ?_
  refine rg fun KF hKF => ?_
  refine mB rfl ?_
  refine WpO.nil (hKF _ _ ?_)
  refine sq ?_
  refine rg fun KF hKF => ?_
  refine mI rfl ?_
  refine Fo.bin rfl rfl rfl (by simp only [↓nrmL, nrmZ, Nat.reduceEqDiff, ↓reduceIte, Nat.reduceAdd, Int.reduceBEq, Int.reduceBNe, h1, h2, h3]; rfl) ?_
  refine mB rfl ?_
  refine Fo.yes rfl rfl ?_
  refine mI rfl ?_
  refine Fo.yes rfl rfl ?_
  refine Fo.bin rfl rfl rfl (by simp only [↓nrmL, nrmZ, Nat.reduceEqDiff, ↓reduceIte, Nat.reduceAdd, Int.reduceBEq, Int.reduceBNe, h1, h2, h3]; rfl) ?_
  refine tB rfl rfl ?_
  refine mB rfl ?_
  refine Fo.yes rfl rfl ?_
  refine mI rfl ?_
  refine Fo.yes rfl rfl ?_
  refine mI rfl ?_
  refine Fo.yes rfl rfl ?_
  refine Fo.bin rfl rfl rfl (by simp only [↓nrmL, nrmZ, Nat.reduceEqDiff, ↓reduceIte, Nat.reduceAdd, Int.reduceBEq, Int.reduceBNe, h1, h2, h3]; rfl) ?_
  refine tB rfl rfl ?_
  refine mB rfl ?_
  refine Fo.yes rfl rfl ?_
  refine mI rfl ?_
  refine Fo.yes rfl rfl ?_
  refine mI rfl ?_
  refine Fo.yes rfl rfl ?_
  refine mI rfl ?_
  refine Fo.yes rfl rfl ?_
  refine Fo.bin rfl rfl rfl rfl ?_
  refine Fo.yes rfl rfl ?_
  refine Fo.bin rfl rfl rfl rfl ?_
  refine tB rfl rfl ?_
  refine mB rfl ?_
  refine WpO.nil (hKF _ _ ?_)
  refine Wp.ret ?_
  dsimp only [cond_true, cond_false]
  refine ⟨trivial, _, (by first | rfl | exact getAllC rfl rfl rfl rfl | exact getAllT rfl (getAllC rfl rfl rfl rfl) | exact getAllC rfl rfl rfl (getAllC rfl rfl rfl rfl) | exact getAllC1 rfl rfl rfl), ?_⟩
  exact ⟨rfl, Ext0.ext⟩⟩
instance K_lies {x y u v w h : Int} {p : AVal} [OneV p] {H : AHeap} : PureCon ext prog 146 [.agg [.int .i64 x, .int .i64 y, .int .i64 u, .int .i64 v], .agg [.int .i64 w, .int .i64 h, p]] H 2 (.bool (withinB x u w && withinB y v h)) := ⟨by
 refine con_of (show prog 146 = some c146 from rfl) rfl rfl fun n hn => ?_
 cases h1 : withinB x u w
 ·skip
  try simp only [↓nrmL, nrmZ, Nat.reduceEqDiff, ↓reduceIte, Nat.reduceAdd, Int.reduceBEq, Int.reduceBNe, h1]
  refine sq ?_
  refine rg fun KF hKF => ?_
  refine Fo.boxA rfl ?_
  refine Fo.boxA rfl ?_
  refine mB rfl ?_
  refine WpO.nil (hKF _ _ ?_)
  refine sq ?_
  refine rg fun KF hKF => ?_
  refine Fo.fa rfl ?_
  refine Fo.ld rfl rfl ?_
  refine Fo.fa rfl ?_
  refine Fo.ld rfl rfl ?_
  refine Fo.fa rfl ?_
  refine Fo.ld rfl rfl ?_
  refine Fo.pcall (v' := ?_) hn rfl (by simp only [↓nrmL, nrmZ, Nat.reduceEqDiff, ↓reduceIte, Nat.reduceAdd, Int.reduceBEq, Int.reduceBNe, h1, List.map]; rfl) rfl ?hv fun _ _ => ?_; case hv => (simp only [↓nrmL, nrmZ, Nat.reduceEqDiff, ↓reduceIte, Nat.reduceAdd, Int.reduceBEq, Int.reduceBNe, h1]; rfl)
  refine mB rfl ?_
  refine Fo.no rfl rfl ?_
  refine Fo.no rfl rfl ?_
  refine Fo.no rfl rfl ?_
  refine Fo.no rfl rfl ?_
  refine Fo.no rfl rfl ?_
  refine Fo.no rfl rfl ?_
  refine Fo.no rfl rfl ?_
  refine fB rfl rfl ?_
  refine mB rfl ?_
  refine WpO.nil (hKF _ _ ?_)
  refine Wp.ret ?_
  dsimp only [cond_true, cond_false]
  refine ⟨trivial, _, (by first | rfl | exact getAllC rfl rfl rfl rfl | exact getAllT rfl (getAllC rfl rfl rfl rfl) | exact getAllC rfl rfl rfl (getAllC rfl rfl rfl rfl) | exact getAllC1 rfl rfl rfl), ?_⟩
  exact ⟨rfl, Ext0.ext⟩
 ·skip
  try simp only [↓nrmL, nrmZ, Nat.reduceEqDiff, ↓reduceIte, Nat.reduceAdd, Int.reduceBEq, Int.reduceBNe, h1]
  refine sq ?_
  refine rg fun KF hKF => ?_
  refine Fo.boxA rfl ?_
  refine Fo.boxA rfl ?_
  refine mB rfl ?_
  refine WpO.nil (hKF _ _ ?_)
  refine sq ?_
  refine rg fun KF hKF => ?_
  refine Fo.fa rfl ?_
  refine Fo.ld rfl rfl ?_
  refine Fo.fa rfl ?_
  refine Fo.ld rfl rfl ?_
  refine Fo.fa rfl ?_
  refine Fo.ld rfl rfl ?_
  refine Fo.pcall (v' := ?_) hn rfl (by simp only [↓nrmL, nrmZ, Nat.reduceEqDiff, ↓reduceIte, Nat.reduceAdd, Int.reduceBEq, Int.reduceBNe, h1, List.map]; rfl) rfl ?hv fun _ _ => ?_; case hv => (simp only [↓nrmL, nrmZ, Nat.reduceEqDiff, ↓reduceIte, Nat.reduceAdd, Int.reduceBEq, Int.reduceBNe, h1]; rfl)
  refine mB rfl ?_
  refine Fo.yes rfl rfl ?_
  refine Fo.fa rfl ?_
  refine Fo.yes rfl rfl ?_
  refine Fo.ld rfl rfl ?_
  refine Fo.yes rfl rfl ?_
  refine Fo.fa rfl ?_
  refine Fo.yes rfl rfl ?_
  refine Fo.ld rfl rfl ?_
  refine Fo.yes rfl rfl ?_
  refine Fo.fa rfl ?_
  refine Fo.yes rfl rfl ?_
  refine Fo.ld rfl rfl ?_
  refine Fo.yes rfl rfl ?_
  refine Fo.pcall (v' := ?_) hn rfl (by simp only [↓nrmL, nrmZ, Nat.reduceEqDiff, ↓reduceIte, Nat.reduceAdd, Int.reduceBEq, Int.reduceBNe, h1, List.map]; rfl) rfl ?hv fun _ _ => ?_; case hv => rfl
  refine tB rfl rfl ?_
  refine mB rfl ?_
  refine WpO.nil (hKF _ _ ?_)
  refine Wp.ret ?_
  dsimp only [cond_true, cond_false]
  refine ⟨trivial, _, (by first | rfl | exact getAllC rfl rfl rfl rfl | exact getAllT rfl (getAllC rfl rfl rfl rfl) | exact getAllC rfl rfl rfl (getAllC rfl rfl rfl rfl) | exact getAllC1 rfl rfl rfl), ?_⟩
  exact ⟨rfl, Ext0.ext⟩⟩
end Go.Am

set_option maxHeartbeats 4000000
set_option maxRecDepth 100000
set_option synthInstance.maxHeartbeats 4000000
set_option synthInstance.maxSize 100000
namespace Go.Am
open Go
attribute [local irreducible] Wp WpO WpX WpE

theorem within_nat {f k : Int} {a : Nat} (ha : a ≤ 640) (h : withinB f k a = true) : ∃ x u : Nat, f = x ∧ k = u ∧ x + u ≤ a := by
 simp only [withinB, Bool.and_eq_true, decide_eq_true_eq] at h
 obtain ⟨⟨⟨h1, h3⟩, h5⟩, h7⟩ := h
 rw [w64 (by omega)] at h7
 exact ⟨f.toNat, k.toNat, by omega, by omega, by omega⟩
/-- A part of an image. -/
def cropL (l : List UInt8) (a x y u v : Nat) : List UInt8 := (List.range (u * v)).map fun k => l.getD ((y + k / u) * a + (x + k % u)) 0
def cropSpec (g : Img) (x y u v : Int) : Img × Int := bif g.err == 0 then (bif withinB x u g.w && withinB y v g.h then (⟨u, v, cropL g.px g.w.toNat x.toNat y.toNat u.toNat v.toNat⟩, 0) else (.zero, 1)) else (.zero, g.err)
def ltP (n k : Nat) : Bool := decide (k < n)
end Go.Am

set_option maxHeartbeats 4000000
set_option maxRecDepth 100000
set_option synthInstance.maxHeartbeats 4000000
set_option synthInstance.maxSize 100000
namespace Go.Am
open Go
attribute [local irreducible] Wp WpO WpX WpE

theorem crop_row {l m : List UInt8} {a b x y u v j : Nat} (hl : l.length = a * b) (hj : j < v) (hxu : x + u ≤ a) (hyb : y + j < b) (hm : m = ((rowL l a (y + j)).drop x).take (a - x)) : copyL (fillP (ltP (j * u)) (fun k => l.getD ((y + k / u) * a + (x + k % u)) 0) (u * v)) m (j * u) u = fillP (ltP ((j + 1) * u)) (fun k => l.getD ((y + k / u) * a + (x + k % u)) 0) (u * v) := by
 have hr := row_le (a := u) (b := v) hj
 have hrl := rowL_length hl hyb
 have hml : m.length = a - x := by rw [hm, List.length_take, List.length_drop, hrl]; omega
 have hfl := fillP_length (ltP (j * u)) (fun k => l.getD ((y + k / u) * a + (x + k % u)) 0) (u * v)
 refine list_eq (by rw [copyL_length (by omega) (by omega), fillP_length, fillP_length]) fun t ht => ?_
 rw [copyL_length (by omega) (by omega), hfl] at ht
 rw [List.getD_eq_getElem?_getD, copyL_get (by omega) (by omega)]
 have e1 : (j + 1) * u = j * u + u := by rw [Nat.add_mul, Nat.one_mul]
 unfold fillP
 rw [getD_map ht]
 by_cases h1 : j * u ≤ t ∧ t < j * u + u
 ·rw [if_pos h1, if_pos (by simp only [ltP, decide_eq_true_eq]; omega)]
  have hra := row_at (a := u) (x := t - j * u) (y := j) (by omega)
  rw [show j * u + (t - j * u) = t by omega] at hra
  show m[t - j * u]?.getD 0 = l.getD ((y + t / u) * a + (x + t % u)) 0
  rw [hra.1, hra.2, hm, List.getElem?_take, if_pos (by omega), List.getElem?_drop]
  have hidx := row_le (a := a) hyb
  unfold rowL
  rw [List.getElem?_take, if_pos (by omega), List.getElem?_drop, ← List.getD_eq_getElem?_getD]
 ·rw [if_neg h1, ← List.getD_eq_getElem?_getD, getD_map ht]
  by_cases h2 : t < j * u
  ·rw [if_pos (by simp only [ltP, decide_eq_true_eq]; omega), if_pos (by simp only [ltP, decide_eq_true_eq]; omega)]
  ·rw [if_neg (by simp only [ltP, decide_eq_true_eq]; omega), if_neg (by simp only [ltP, decide_eq_true_eq]; omega)]
theorem K_Crop {w h x y u v : Int} {p : AVal} {H : AHeap} {l : List UInt8} [hp : BytesI H p l] : Con ext prog 4 82 [.agg [.int .i64 w, .int .i64 h, p], .agg [.int .i64 x, .int .i64 y, .int .i64 u, .int .i64 v]] H fun r H' => InkRes H H' r (cropSpec ⟨w, h, l⟩ x y u v) := by
 refine con_of (show prog 82 = some c82 from rfl) rfl rfl fun n hn => ?_
 haveI := hp.one
 cases h0 : (Img.err ⟨w, h, l⟩ == 0)
 ·have e1 : cropSpec ⟨w, h, l⟩ x y u v = (.zero, Img.err ⟨w, h, l⟩) := by simp [cropSpec, h0]
  rw [e1]
  try simp only [↓nrmL, nrmZ, Nat.reduceEqDiff, ↓reduceIte, Nat.reduceAdd, Int.reduceBEq, Int.reduceBNe, h0, bne]
  refine sq ?_
  refine rg fun KF hKF => ?_
  refine Fo.boxA rfl ?_
  refine Fo.boxA rfl ?_
  refine Fo.new ?_
  refine mI rfl ?_
  refine WpO.nil (hKF _ _ ?_)
  refine sq ?_
  refine sq ?_
  refine rg fun KF hKF => ?_
  refine Fo.ldN rfl rfl (by simp only [↓nrmL, nrmZ, Nat.reduceEqDiff, ↓reduceIte, Nat.reduceAdd, Int.reduceBEq, Int.reduceBNe, h0, bne]; rfl) ?_
  refine Fo.pcall (v' := ?_) hn rfl (by simp only [↓nrmL, nrmZ, Nat.reduceEqDiff, ↓reduceIte, Nat.reduceAdd, Int.reduceBEq, Int.reduceBNe, h0, bne, List.map]; rfl) rfl ?hv fun _ _ => ?_; case hv => rfl
  refine mI rfl ?_
  refine WpO.nil (hKF _ _ ?_)
  refine sq ?_
  refine rg fun KF hKF => ?_
  refine mI rfl ?_
  refine Fo.bin rfl rfl rfl (by simp only [↓nrmL, nrmZ, Nat.reduceEqDiff, ↓reduceIte, Nat.reduceAdd, Int.reduceBEq, Int.reduceBNe, h0, bne]; rfl) ?_
  refine WpO.nil (hKF _ _ ?_)
  refine Wp.cond (b := true) rfl ?_
  refine sq ?_
  refine rg fun KF hKF => ?_
  refine Fo.build (by repeat (first | refine aFill1 (by first | exact (rfl : _ = AVal.int _ _) | exact (rfl : _ = AVal.ptr _ _) | exact (rfl : _ = AVal.bool _) | exact (rfl : _ = AVal.agg _) | exact (rfl : _ = AVal.tuple _) | exact (rfl : _ = AVal.func _ _ _) | exact (rfl : _ = AVal.nslice) | ((try simp only [↓nrmL, nrmK, Nat.reduceEqDiff, ↓reduceIte]); rfl)) rfl ?_ | rfl)) rfl ?_
  refine mI rfl ?_
  refine Fo.st rfl (rfl : _ = AVal.agg _) rfl rfl rfl (by repeat (first | rfl | refine allOne_cons ?_)) (by simp only [↓nrmL, nrmZ, Nat.reduceEqDiff, ↓reduceIte, Nat.reduceAdd, Int.reduceBEq, Int.reduceBNe, h0, bne]; rfl) ?_
  refine mI rfl ?_
  refine WpO.nil (hKF _ _ ?_)
  refine Wp.ret ?_
  dsimp only [cond_true, cond_false]
  refine ⟨trivial, _, (getAllC rfl rfl rfl rfl), ?_⟩
  exact ⟨_, rfl, newZero⟩
 obtain ⟨a, b, rfl, rfl, ok⟩ := ok_of h0
 have ee := ok.err
 have ha := ok.wa
 have hb := ok.hb
 have hl := ok.len
 cases hw : (withinB x u a && withinB y v b)
 ·have e1 : cropSpec ⟨a, b, l⟩ x y u v = (.zero, 1) := by simp [cropSpec, h0, hw]
  rw [e1]
  try simp only [↓nrmL, nrmZ, Nat.reduceEqDiff, ↓reduceIte, Nat.reduceAdd, Int.reduceBEq, Int.reduceBNe, ee, hw]
  refine sq ?_
  refine rg fun KF hKF => ?_
  refine Fo.boxA rfl ?_
  refine Fo.boxA rfl ?_
  refine Fo.new ?_
  refine mI rfl ?_
  refine WpO.nil (hKF _ _ ?_)
  refine sq ?_
  refine sq ?_
  refine rg fun KF hKF => ?_
  refine Fo.ldN rfl rfl (by simp only [↓nrmL, nrmZ, Nat.reduceEqDiff, ↓reduceIte, Nat.reduceAdd, Int.reduceBEq, Int.reduceBNe, ee, hw]; rfl) ?_
  refine Fo.pcall (v' := ?_) hn rfl (by simp only [↓nrmL, nrmZ, Nat.reduceEqDiff, ↓reduceIte, Nat.reduceAdd, Int.reduceBEq, Int.reduceBNe, ee, hw, List.map]; rfl) rfl ?hv fun _ _ => ?_; case hv => (simp only [↓nrmL, nrmZ, Nat.reduceEqDiff, ↓reduceIte, Nat.reduceAdd, Int.reduceBEq, Int.reduceBNe, ee, hw]; rfl)
  refine mI rfl ?_
  refine WpO.nil (hKF _ _ ?_)
  refine sq ?_
  refine rg fun KF hKF => ?_
  refine mI rfl ?_
  refine Fo.bin rfl rfl rfl (by simp only [↓nrmL, nrmZ, Nat.reduceEqDiff, ↓reduceIte, Nat.reduceAdd, Int.reduceBEq, Int.reduceBNe, ee, hw]; rfl) ?_
  refine WpO.nil (hKF _ _ ?_)
  refine Wp.cond (b := false) rfl ?_
  refine Wp.skip ?_
  refine sq ?_
  refine sq ?_
  refine rg fun KF hKF => ?_
  refine Fo.ldN rfl rfl (by simp only [↓nrmL, nrmZ, Nat.reduceEqDiff, ↓reduceIte, Nat.reduceAdd, Int.reduceBEq, Int.reduceBNe, ee, hw]; rfl) ?_
  refine Fo.ldN rfl rfl (by simp only [↓nrmL, nrmZ, Nat.reduceEqDiff, ↓reduceIte, Nat.reduceAdd, Int.reduceBEq, Int.reduceBNe, ee, hw]; rfl) ?_
  refine Fo.pcall (v' := ?_) hn rfl (by simp only [↓nrmL, nrmZ, Nat.reduceEqDiff, ↓reduceIte, Nat.reduceAdd, Int.reduceBEq, Int.reduceBNe, ee, hw, List.map]; rfl) rfl ?hv fun _ _ => ?_; case hv => (simp only [↓nrmL, nrmZ, Nat.reduceEqDiff, ↓reduceIte, Nat.reduceAdd, Int.reduceBEq, Int.reduceBNe, ee, hw]; rfl)
  refine Fo.now rfl rfl (by simp only [↓nrmL, nrmZ, Nat.reduceEqDiff, ↓reduceIte, Nat.reduceAdd, Int.reduceBEq, Int.reduceBNe, ee, hw]; rfl) ?_
  refine WpO.nil (hKF _ _ ?_)
  refine Wp.cond (b := true) rfl ?_
  refine sq ?_
  refine rg fun KF hKF => ?_
  refine Fo.build (by repeat (first | refine aFill1 (by first | exact (rfl : _ = AVal.int _ _) | exact (rfl : _ = AVal.ptr _ _) | exact (rfl : _ = AVal.bool _) | exact (rfl : _ = AVal.agg _) | exact (rfl : _ = AVal.tuple _) | exact (rfl : _ = AVal.func _ _ _) | exact (rfl : _ = AVal.nslice) | ((try simp only [↓nrmL, nrmK, Nat.reduceEqDiff, ↓reduceIte]); rfl)) rfl ?_ | rfl)) rfl ?_
  refine Fo.st rfl (rfl : _ = AVal.agg _) rfl rfl rfl (by repeat (first | rfl | refine allOne_cons ?_)) (by simp only [↓nrmL, nrmZ, Nat.reduceEqDiff, ↓reduceIte, Nat.reduceAdd, Int.reduceBEq, Int.reduceBNe, ee, hw]; rfl) ?_
  refine mI rfl ?_
  refine WpO.nil (hKF _ _ ?_)
  refine Wp.ret ?_
  dsimp only [cond_true, cond_false]
  refine ⟨trivial, _, (getAllC rfl rfl rfl rfl), ?_⟩
  exact ⟨_, rfl, newZero⟩
 have hw2 := hw
 rw [Bool.and_eq_true] at hw2
 obtain ⟨x, u, rfl, rfl, hxu⟩ := within_nat ha hw2.1
 obtain ⟨y, v, rfl, rfl, hyv⟩ := within_nat hb hw2.2
 have e1 : cropSpec ⟨a, b, l⟩ x y u v = (⟨u, v, cropL l a x y u v⟩, 0) := by simp [cropSpec, h0, hw]
 rw [e1]
 have hm : u * v ≤ 640 * 640 := Nat.mul_le_mul (by omega) (by omega)
 have hm2 : a * b ≤ 640 * 640 := Nat.mul_le_mul ha hb
 have hmc : u * v = v * u := Nat.mul_comm u v
 try simp only [↓nrmL, nrmZ, Nat.reduceEqDiff, ↓reduceIte, Nat.reduceAdd, Int.reduceBEq, Int.reduceBNe, ee, hw]
 refine sq ?_
 refine rg fun KF hKF => ?_
 refine Fo.boxA rfl ?_
 refine Fo.boxA rfl ?_
 refine Fo.new ?_
 refine mI rfl ?_
 refine WpO.nil (hKF _ _ ?_)
 refine sq ?_
 refine sq ?_
 refine rg fun KF hKF => ?_
 refine Fo.ldN rfl rfl (by simp only [↓nrmL, nrmZ, Nat.reduceEqDiff, ↓reduceIte, Nat.reduceAdd, Int.reduceBEq, Int.reduceBNe, ee, hw]; rfl) ?_
 refine Fo.pcall (v' := ?_) hn rfl (by simp only [↓nrmL, nrmZ, Nat.reduceEqDiff, ↓reduceIte, Nat.reduceAdd, Int.reduceBEq, Int.reduceBNe, ee, hw, List.map]; rfl) rfl ?hv fun _ _ => ?_; case hv => (simp only [↓nrmL, nrmZ, Nat.reduceEqDiff, ↓reduceIte, Nat.reduceAdd, Int.reduceBEq, Int.reduceBNe, ee, hw]; rfl)
 refine mI rfl ?_
 refine WpO.nil (hKF _ _ ?_)
 refine sq ?_
 refine rg fun KF hKF => ?_
 refine mI rfl ?_
 refine Fo.bin rfl rfl rfl (by simp only [↓nrmL, nrmZ, Nat.reduceEqDiff, ↓reduceIte, Nat.reduceAdd, Int.reduceBEq, Int.reduceBNe, ee, hw]; rfl) ?_
 refine WpO.nil (hKF _ _ ?_)
 refine Wp.cond (b := false) rfl ?_
 refine Wp.skip ?_
 refine sq ?_
 refine sq ?_
 refine rg fun KF hKF => ?_
 refine Fo.ldN rfl rfl (by simp only [↓nrmL, nrmZ, Nat.reduceEqDiff, ↓reduceIte, Nat.reduceAdd, Int.reduceBEq, Int.reduceBNe, ee, hw]; rfl) ?_
 refine Fo.ldN rfl rfl (by simp only [↓nrmL, nrmZ, Nat.reduceEqDiff, ↓reduceIte, Nat.reduceAdd, Int.reduceBEq, Int.reduceBNe, ee, hw]; rfl) ?_
 refine Fo.pcall (v' := ?_) hn rfl (by simp only [↓nrmL, nrmZ, Nat.reduceEqDiff, ↓reduceIte, Nat.reduceAdd, Int.reduceBEq, Int.reduceBNe, ee, hw, List.map]; rfl) rfl ?hv fun _ _ => ?_; case hv => (simp only [↓nrmL, nrmZ, Nat.reduceEqDiff, ↓reduceIte, Nat.reduceAdd, Int.reduceBEq, Int.reduceBNe, ee, hw]; rfl)
 refine Fo.now rfl rfl (by simp only [↓nrmL, nrmZ, Nat.reduceEqDiff, ↓reduceIte, Nat.reduceAdd, Int.reduceBEq, Int.reduceBNe, ee, hw]; rfl) ?_
 refine WpO.nil (hKF _ _ ?_)
 refine Wp.cond (b := false) rfl ?_
 refine Wp.skip ?_
 refine sq ?_
 refine rg fun KF hKF => ?_
 refine Fo.fa rfl ?_
 refine Fo.ld rfl rfl ?_
 refine Fo.fa rfl ?_
 refine Fo.ld rfl rfl ?_
 refine WpO.do (WpX.conD hn rfl rfl (by simp only [↓nrmL, nrmZ, Nat.reduceEqDiff, ↓reduceIte, Nat.reduceAdd, Int.reduceBEq, Int.reduceBNe, List.map] <;> rfl) (K_blank (w := u) (h := v) (by omega) (by omega)) fun r H1 h5 => ?_)
 obtain ⟨q, e2, hq, hf, hwq, hx⟩ := h5
 subst e2
 haveI : ExtI _ H1 := ⟨hx⟩
 haveI := hq.one
 have hq : BytesI H1 q (List.replicate (u * v) 0) := hq
 refine Fo.new ?_
 refine Fo.st rfl (rfl : _ = AVal.agg _) rfl rfl rfl (by repeat (first | rfl | refine allOne_cons ?_)) (by simp only [↓nrmL, nrmZ, Nat.reduceEqDiff, ↓reduceIte, Nat.reduceAdd, Int.reduceBEq, Int.reduceBNe]; rfl) ?_
 refine WpO.nil (hKF _ _ ?_)
 refine sq ?_
 refine sq ?_
 refine rg fun KF hKF => ?_
 refine Fo.fa rfl ?_
 refine Fo.ld rfl rfl ?_
 refine mI rfl ?_
 refine WpO.nil (hKF _ _ ?_)
 refine Wp.block ?_
 dsimp only [cond_true, cond_false]
 refine Wp.loopS [8, 27, 28, 29, 30, 31, 32, 33, 34, 35, 36, 37, 38, 39, 40, 41, 42, 43] (fun j : Nat => [(27, .int .i64 j)]) (fun H3 j H2 => j ≤ v ∧ BytesI H2 q (fillP (ltP (j * u)) (fun k => l.getD ((y + k / u) * a + (x + k % u)) 0) (u * v)) ∧ WrS H2 q ∧ ExtP0 H3 H2 q) (fun j => v - j) 0 rfl (fun _ => rfl) ⟨rfl, trivial⟩ ⟨Nat.zero_le _, by rw [fillP_none (fun k _ => by simp [ltP])]; infer_instance, inferInstance, inferInstance⟩ (by unfold fuel0 at hn; omega) ?_
 rintro j g H2 ⟨hj, hb2, hw2, ⟨hx2⟩⟩
 simp only [↓nrmL, nrmZ, Nat.reduceEqDiff, ↓reduceIte, Nat.reduceAdd, Int.reduceBEq, Int.reduceBNe]
 cases hc : decide ((j : Int) < (v : Int))
 ·have hjv : j = v := by have := of_decide_eq_false hc; omega
  rw [fillP_all (fun k hk => by simp only [ltP, decide_eq_true_eq]; rw [hjv, ← hmc]; exact hk)] at hb2
  try simp only [↓nrmL, nrmZ, Nat.reduceEqDiff, ↓reduceIte, Nat.reduceAdd, Int.reduceBEq, Int.reduceBNe, hc]
  refine sq ?_
  refine rg fun KF hKF => ?_
  refine Fo.bin rfl rfl rfl (by simp only [↓nrmL, nrmZ, Nat.reduceEqDiff, ↓reduceIte, Nat.reduceAdd, Int.reduceBEq, Int.reduceBNe, hc]; rfl) ?_
  refine WpO.nil (hKF _ _ ?_)
  refine sq ?_
  refine Wp.cond (b := false) rfl ?_
  refine Wp.exit ?_
  refine sq ?_
  refine rg fun KF hKF => ?_
  refine Fo.ldN rfl rfl (by simp only [↓nrmL, nrmZ, Nat.reduceEqDiff, ↓reduceIte, Nat.reduceAdd, Int.reduceBEq, Int.reduceBNe, hc]; rfl) ?_
  refine Fo.st rfl (rfl : _ = AVal.agg _) rfl rfl rfl (by repeat (first | rfl | refine allOne_cons ?_)) (by simp only [↓nrmL, nrmZ, Nat.reduceEqDiff, ↓reduceIte, Nat.reduceAdd, Int.reduceBEq, Int.reduceBNe, hc]; rfl) ?_
  refine mI rfl ?_
  refine WpO.nil (hKF _ _ ?_)
  refine Wp.ret ?_
  dsimp only [cond_true, cond_false]
  refine ⟨trivial, _, (getAllC rfl rfl rfl rfl), ?_⟩
  exact ⟨_, rfl, q, rfl, (show BytesI _ q (cropL l a x y u v) from (inferInstance : BytesI _ q ((List.range (u * v)).map fun k => l.getD ((y + k / u) * a + (x + k % u)) 0))), hf.weak, inferInstance, Ext0.ext⟩
 have hjv : j < v := by have := of_decide_eq_true hc; omega
 have hw1 := wa1 (a := j) (by omega)
 have hr := row_le (a := u) hjv
 have hyj : y + j < b := by omega
 have hyw : IntKind.i64.wrap ((y : Int) + (j : Int)) = ((y + j : Nat) : Int) := by rw [w64 (by omega)]; omega
 have hfl := fillP_length (ltP (j * u)) (fun k => l.getD ((y + k / u) * a + (x + k % u)) 0) (u * v)
 have hrl := rowL_length hl hyj
 try simp only [↓nrmL, nrmZ, Nat.reduceEqDiff, ↓reduceIte, Nat.reduceAdd, Int.reduceBEq, Int.reduceBNe, hc]
 refine sq ?_
 refine rg fun KF hKF => ?_
 refine Fo.bin rfl rfl rfl (by simp only [↓nrmL, nrmZ, Nat.reduceEqDiff, ↓reduceIte, Nat.reduceAdd, Int.reduceBEq, Int.reduceBNe, hc]; rfl) ?_
 refine WpO.nil (hKF _ _ ?_)
 refine sq ?_
 refine Wp.cond (b := true) rfl ?_
 refine Wp.skip ?_
 refine sq ?_
 refine Wp.block ?_
 refine sq ?_
 refine rg fun KF hKF => ?_
 refine mI rfl ?_
 refine mI rfl ?_
 refine WpO.nil (hKF _ _ ?_)
 dsimp only [cond_true, cond_false]
 refine Fr.dregion0 rfl fun KF hKF => ?_
 refine Fe.read rfl (exec_ldN rfl rfl (by simp only [↓nrmL, nrmZ, Nat.reduceEqDiff, ↓reduceIte, Nat.reduceAdd, Int.reduceBEq, Int.reduceBNe]; rfl)) rfl (by repeat (first | exact trivial | refine ⟨(by first | exact Or.inl (by dsimp only; decide) | exact Or.inr (exec_ld rfl rfl) | exact Or.inr (exec_ldN rfl rfl rfl) | exact Or.inr (exec_ldB rfl (by omega)) | exact Or.inr (exec_ldI rfl (by omega)) | exact Or.inr ghost_of), ?_⟩)) ?_
 refine Fe.pure rfl rfl (by simp only [↓nrmL, nrmZ, Nat.reduceEqDiff, ↓reduceIte, Nat.reduceAdd, Int.reduceBEq, Int.reduceBNe]; rfl) ?_
 refine Fe.con rfl hn rfl rfl (by simp only [↓nrmL, nrmZ, Nat.reduceEqDiff, ↓reduceIte, Nat.reduceAdd, Int.reduceBEq, Int.reduceBNe, List.map] <;> rfl) (K_line (l := fillP (ltP (j * u)) (fun k => l.getD ((y + k / u) * a + (x + k % u)) 0) (u * v)) (a := u) (b := v) (y := j) hfl hjv hm (by omega)) fun v1 K1 h5 => ?_
 obtain ⟨g1, g2, g3⟩ := h5
 haveI : ExtI _ K1 := ⟨g3⟩
 haveI := g2.one
 refine ⟨(by repeat (first | exact trivial | refine ⟨(by first | exact Or.inl (by dsimp only; decide) | exact Or.inr (readOk_of (exec_ld rfl rfl)) | exact Or.inr (readOk_of (exec_ldN rfl rfl rfl)) | exact Or.inr (readOk_of (exec_ldB rfl (by omega))) | exact Or.inr (readOk_of (exec_ldI rfl (by omega))) | exact Or.inr (made_of rfl)), ?_⟩)), ?_⟩
 try simp only [↓nrmL, nrmZ, Nat.reduceEqDiff, ↓reduceIte, Nat.reduceAdd, Int.reduceBEq, Int.reduceBNe, hyw]
 refine Fe.read rfl (exec_ldN rfl rfl (by simp only [↓nrmL, nrmZ, Nat.reduceEqDiff, ↓reduceIte, Nat.reduceAdd, Int.reduceBEq, Int.reduceBNe, hyw]; rfl)) rfl (by repeat (first | exact trivial | refine ⟨(by first | exact Or.inl (by dsimp only; decide) | exact Or.inr (exec_ld rfl rfl) | exact Or.inr (exec_ldN rfl rfl rfl) | exact Or.inr (exec_ldB rfl (by omega)) | exact Or.inr (exec_ldI rfl (by omega)) | exact Or.inr ghost_of), ?_⟩)) ?_
 refine Fe.pure rfl rfl (by simp only [↓nrmL, nrmZ, Nat.reduceEqDiff, ↓reduceIte, Nat.reduceAdd, Int.reduceBEq, Int.reduceBNe, hyw]; rfl) ?_
 refine Fe.read rfl (exec_ld rfl rfl) rfl (by repeat (first | exact trivial | refine ⟨(by first | exact Or.inl (by dsimp only; decide) | exact Or.inr (exec_ld rfl rfl) | exact Or.inr (exec_ldN rfl rfl rfl) | exact Or.inr (exec_ldB rfl (by omega)) | exact Or.inr (exec_ldI rfl (by omega)) | exact Or.inr ghost_of), ?_⟩)) ?_
 refine Fe.pure rfl rfl (by simp only [↓nrmL, nrmZ, Nat.reduceEqDiff, ↓reduceIte, Nat.reduceAdd, Int.reduceBEq, Int.reduceBNe, hyw]; rfl) ?_
 refine Fe.pure rfl rfl (by simp only [↓nrmL, nrmZ, Nat.reduceEqDiff, ↓reduceIte, Nat.reduceAdd, Int.reduceBEq, Int.reduceBNe, hyw]; rfl) ?_
 refine Fe.con rfl hn rfl rfl (by simp only [↓nrmL, nrmZ, Nat.reduceEqDiff, ↓reduceIte, Nat.reduceAdd, Int.reduceBEq, Int.reduceBNe, List.map] <;> rfl) (K_line (l := l) (a := a) (b := b) (y := y + j) hl hyj hm2 hb) fun v2 K2 h5 => ?_
 obtain ⟨g4, g5, g6⟩ := h5
 haveI : ExtI _ K2 := ⟨g6⟩
 haveI := g5.one
 refine ⟨(by repeat (first | exact trivial | refine ⟨(by first | exact Or.inl (by dsimp only; decide) | exact Or.inr (readOk_of (exec_ld rfl rfl)) | exact Or.inr (readOk_of (exec_ldN rfl rfl rfl)) | exact Or.inr (readOk_of (exec_ldB rfl (by omega))) | exact Or.inr (readOk_of (exec_ldI rfl (by omega))) | exact Or.inr (made_of rfl)), ?_⟩)), ?_⟩
 refine Fe.pure rfl rfl (by simp only [↓nrmL, nrmZ, Nat.reduceEqDiff, ↓reduceIte, Nat.reduceAdd, Int.reduceBEq, Int.reduceBNe]; rfl) ?_
 refine Fe.read rfl (exec_ld rfl rfl) rfl (by repeat (first | exact trivial | refine ⟨(by first | exact Or.inl (by dsimp only; decide) | exact Or.inr (exec_ld rfl rfl) | exact Or.inr (exec_ldN rfl rfl rfl) | exact Or.inr (exec_ldB rfl (by omega)) | exact Or.inr (exec_ldI rfl (by omega)) | exact Or.inr ghost_of), ?_⟩)) ?_
 refine Fe.slc (p := v2) (l := rowL l a (y + j)) (a := x) (b := a) rfl rfl (Or.inr ⟨_, rfl⟩) (Or.inl ⟨rfl, hrl.symm⟩) (by omega) (by omega) fun v3 K3 g7 g8 hx3 => ?_
 haveI := g8.one
 refine ⟨(by repeat (first | exact trivial | refine ⟨(by first | exact Or.inl (by dsimp only; decide) | exact Or.inr (readOk_of (exec_ld rfl rfl)) | exact Or.inr (readOk_of (exec_ldN rfl rfl rfl)) | exact Or.inr (readOk_of (exec_ldB rfl (by omega))) | exact Or.inr (readOk_of (exec_ldI rfl (by omega))) | exact Or.inr (made_of rfl)), ?_⟩)), ?_⟩
 skip
 refine Fe.copyP (p := q) (v := v1) (s := v3) (k := u) (c := u) rfl rfl rfl g1 (inferInstance : BytesI _ v1 (rowL (fillP (ltP (j * u)) (fun k => l.getD ((y + k / u) * a + (x + k % u)) 0) (u * v)) u j)) (rowL_length hfl hjv) (by rw [hfl]; omega) (by rw [List.length_take, List.length_drop, hrl]; omega) fun K4 g9 gw gx => ?_
 rw [crop_row hl hjv hxu hyj rfl] at g9
 refine ⟨(by repeat (first | exact trivial | refine ⟨(by first | exact Or.inl (by dsimp only; decide) | exact Or.inr (readOk_of (exec_ld rfl rfl)) | exact Or.inr (readOk_of (exec_ldN rfl rfl rfl)) | exact Or.inr (readOk_of (exec_ldB rfl (by omega))) | exact Or.inr (readOk_of (exec_ldI rfl (by omega))) | exact Or.inr (made_of rfl)), ?_⟩)), ?_⟩
 refine WpE.nil (hKF _ _ ?_)
 refine rg fun KF hKF => ?_
 refine Fo.bin rfl rfl rfl rfl ?_
 refine mI rfl ?_
 refine WpO.nil (hKF _ _ ?_)
 dsimp only [cond_true, cond_false]
 refine ⟨j + 1, by omega, ⟨by simp only [↓nrmL, nrmZ, Nat.reduceEqDiff, ↓reduceIte, Nat.reduceAdd, Int.reduceBEq, Int.reduceBNe]; rw [hw1], trivial⟩, hjv, g9, gw, inferInstance⟩
end Go.Am

set_option maxHeartbeats 4000000
set_option maxRecDepth 100000
set_option synthInstance.maxHeartbeats 4000000
set_option synthInstance.maxSize 100000
namespace Go.Am
open Go
attribute [local irreducible] Wp WpO WpX WpE

/-- An image with a part in it. -/
def pasteF (l m : List UInt8) (a c d x y k : Nat) : UInt8 := if x ≤ k % a ∧ k % a < x + c ∧ y ≤ k / a ∧ k / a < y + d then m.getD ((k / a - y) * c + (k % a - x)) 0 else l.getD k 0
def pasteSpec (g h : Img) (x y : Int) : Img × Int := bif g.err == 0 then (bif h.err == 0 then (bif withinB x h.w g.w && withinB y h.h g.h then (⟨g.w, g.h, (List.range (g.w.toNat * g.h.toNat)).map (pasteF g.px h.px g.w.toNat h.w.toNat h.h.toNat x.toNat y.toNat)⟩, 0) else (.zero, 1)) else (.zero, h.err)) else (.zero, g.err)
end Go.Am

set_option maxHeartbeats 4000000
set_option maxRecDepth 100000
namespace Go.Am
open Go
attribute [local irreducible] Wp WpO WpX WpE

/-- No row pasted: the image itself. -/
theorem paste_zero {l m : List UInt8} {a b c x y : Nat} (hl : l.length = a * b) : (List.range (a * b)).map (pasteF l m a c 0 x y) = l := by
 refine list_eq (by simp [hl]) fun t ht => ?_
 rw [List.length_map, List.length_range] at ht
 rw [getD_map ht]
 unfold pasteF
 rw [if_neg (by omega)]
/-- One more row pasted. -/
theorem paste_row {l m : List UInt8} {a b c d x y j : Nat} (hm : m.length = c * d) (hj : j < d) (hxc : x + c ≤ a) (hyd : y + d ≤ b) : copyL ((List.range (a * b)).map (pasteF l m a c j x y)) (rowL m c j) ((y + j) * a + x) c = (List.range (a * b)).map (pasteF l m a c (j + 1) x y) := by
 have hrl := rowL_length hm hj
 have hrow := row_le (a := a) (b := b) (y := y + j) (by omega)
 have hlen : ((List.range (a * b)).map (pasteF l m a c j x y)).length = a * b := by simp
 refine list_eq (by rw [copyL_length (by omega) (by omega), hlen]; simp) fun t ht => ?_
 rw [copyL_length (by omega) (by omega), hlen] at ht
 rw [List.getD_eq_getElem?_getD, copyL_get (by omega) (by omega), getD_map ht]
 by_cases h1 : (y + j) * a + x ≤ t ∧ t < (y + j) * a + x + c
 ·rw [if_pos h1]
  obtain ⟨i, hi⟩ : ∃ i, t = (y + j) * a + (x + i) := ⟨t - ((y + j) * a + x), by omega⟩
  have hra := row_at (a := a) (x := x + i) (y := y + j) (by omega)
  rw [← hi] at hra
  unfold pasteF
  rw [hra.1, hra.2, if_pos (by omega)]
  unfold rowL
  rw [List.getElem?_take, if_pos (by omega), List.getElem?_drop, ← List.getD_eq_getElem?_getD]
  congr 1
  rw [show y + j - y = j by omega]
  omega
 ·rw [if_neg h1, ← List.getD_eq_getElem?_getD, getD_map ht]
  have hdm := row_mod (a := a) (t := t)
  unfold pasteF
  by_cases h2 : x ≤ t % a ∧ t % a < x + c ∧ y ≤ t / a ∧ t / a < y + j
  ·rw [if_pos h2, if_pos (by omega)]
  ·rw [if_neg h2]
   by_cases h3 : x ≤ t % a ∧ t % a < x + c ∧ t / a = y + j
   ·exfalso
    rw [h3.2.2] at hdm
    exact h1 ⟨by omega, by omega⟩
   ·rw [if_neg (by omega)]
end Go.Am

set_option maxHeartbeats 4000000
set_option maxRecDepth 100000
set_option synthInstance.maxHeartbeats 4000000
set_option synthInstance.maxSize 100000
namespace Go.Am
open Go
attribute [local irreducible] Wp WpO WpX WpE

theorem Part.trans {p v u : AVal} {a n b k : Nat} (h : Part p v a n) (g : Part v u b k) (hbk : b + k ≤ n) : Part p u (a + b) k := by
 rcases g.it with h1 | ⟨r, off, len, cap, cap', rfl, rfl, h2⟩
 ·exact ⟨Or.inl h1⟩
 ·rcases h.it with ⟨h3, h4, _⟩ | ⟨r0, off0, len0, cap0, cap0', rfl, h5, h6⟩
  ·refine ⟨Or.inl ⟨by omega, ?_, rfl, rfl⟩⟩
   have : k = 0 := by omega
   subst this; rfl
  ·cases h5
   exact ⟨Or.inr ⟨_, off0, len0, cap0, cap', rfl, by rw [Nat.add_assoc], by omega⟩⟩
theorem K_Paste {w h w2 h2 x y : Int} {p p2 : AVal} {H : AHeap} {l m : List UInt8} [hp : BytesI H p l] [hp2 : BytesI H p2 m] : Con ext prog 4 83 [.agg [.int .i64 w, .int .i64 h, p], .agg [.int .i64 w2, .int .i64 h2, p2], .int .i64 x, .int .i64 y] H fun r H' => InkRes H H' r (pasteSpec ⟨w, h, l⟩ ⟨w2, h2, m⟩ x y) := by
 refine con_of (show prog 83 = some c83 from rfl) rfl rfl fun n hn => ?_
 haveI := hp.one
 haveI := hp2.one
 cases h0 : (Img.err ⟨w, h, l⟩ == 0)
 ·have e1 : pasteSpec ⟨w, h, l⟩ ⟨w2, h2, m⟩ x y = (.zero, Img.err ⟨w, h, l⟩) := by simp [pasteSpec, h0]
  rw [e1]
  try simp only [↓nrmL, nrmZ, Nat.reduceEqDiff, ↓reduceIte, Nat.reduceAdd, Int.reduceBEq, Int.reduceBNe, h0, bne]
  refine sq ?_
  refine rg fun KF hKF => ?_
  refine Fo.boxA rfl ?_
  refine Fo.boxA rfl ?_
  refine Fo.new ?_
  refine mI rfl ?_
  refine WpO.nil (hKF _ _ ?_)
  refine sq ?_
  refine sq ?_
  refine rg fun KF hKF => ?_
  refine Fo.ldN rfl rfl (by simp only [↓nrmL, nrmZ, Nat.reduceEqDiff, ↓reduceIte, Nat.reduceAdd, Int.reduceBEq, Int.reduceBNe, h0, bne]; rfl) ?_
  refine Fo.pcall (v' := ?_) hn rfl (by simp only [↓nrmL, nrmZ, Nat.reduceEqDiff, ↓reduceIte, Nat.reduceAdd, Int.reduceBEq, Int.reduceBNe, h0, bne, List.map]; rfl) rfl ?hv fun _ _ => ?_; case hv => rfl
  refine mI rfl ?_
  refine WpO.nil (hKF _ _ ?_)
  refine sq ?_
  refine rg fun KF hKF => ?_
  refine mI rfl ?_
  refine Fo.bin rfl rfl rfl (by simp only [↓nrmL, nrmZ, Nat.reduceEqDiff, ↓reduceIte, Nat.reduceAdd, Int.reduceBEq, Int.reduceBNe, h0, bne]; rfl) ?_
  refine WpO.nil (hKF _ _ ?_)
  refine Wp.cond (b := true) rfl ?_
  refine sq ?_
  refine rg fun KF hKF => ?_
  refine Fo.build (by repeat (first | refine aFill1 (by first | exact (rfl : _ = AVal.int _ _) | exact (rfl : _ = AVal.ptr _ _) | exact (rfl : _ = AVal.bool _) | exact (rfl : _ = AVal.agg _) | exact (rfl : _ = AVal.tuple _) | exact (rfl : _ = AVal.func _ _ _) | exact (rfl : _ = AVal.nslice) | ((try simp only [↓nrmL, nrmK, Nat.reduceEqDiff, ↓reduceIte]); rfl)) rfl ?_ | rfl)) rfl ?_
  refine mI rfl ?_
  refine Fo.st rfl (rfl : _ = AVal.agg _) rfl rfl rfl (by repeat (first | rfl | refine allOne_cons ?_)) (by simp only [↓nrmL, nrmZ, Nat.reduceEqDiff, ↓reduceIte, Nat.reduceAdd, Int.reduceBEq, Int.reduceBNe, h0, bne]; rfl) ?_
  refine mI rfl ?_
  refine WpO.nil (hKF _ _ ?_)
  refine Wp.ret ?_
  dsimp only [cond_true, cond_false]
  refine ⟨trivial, _, (getAllC rfl rfl rfl rfl), ?_⟩
  exact ⟨_, rfl, newZero⟩
 cases h02 : (Img.err ⟨w2, h2, m⟩ == 0)
 ·have e1 : pasteSpec ⟨w, h, l⟩ ⟨w2, h2, m⟩ x y = (.zero, Img.err ⟨w2, h2, m⟩) := by simp [pasteSpec, h0, h02]
  rw [e1]
  try simp only [↓nrmL, nrmZ, Nat.reduceEqDiff, ↓reduceIte, Nat.reduceAdd, Int.reduceBEq, Int.reduceBNe, h0, h02, bne]
  refine sq ?_
  refine rg fun KF hKF => ?_
  refine Fo.boxA rfl ?_
  refine Fo.boxA rfl ?_
  refine Fo.new ?_
  refine mI rfl ?_
  refine WpO.nil (hKF _ _ ?_)
  refine sq ?_
  refine sq ?_
  refine rg fun KF hKF => ?_
  refine Fo.ldN rfl rfl (by simp only [↓nrmL, nrmZ, Nat.reduceEqDiff, ↓reduceIte, Nat.reduceAdd, Int.reduceBEq, Int.reduceBNe, h0, h02, bne]; rfl) ?_
  refine Fo.pcall (v' := ?_) hn rfl (by simp only [↓nrmL, nrmZ, Nat.reduceEqDiff, ↓reduceIte, Nat.reduceAdd, Int.reduceBEq, Int.reduceBNe, h0, h02, bne, List.map]; rfl) rfl ?hv fun _ _ => ?_; case hv => rfl
  refine mI rfl ?_
  refine WpO.nil (hKF _ _ ?_)
  refine sq ?_
  refine rg fun KF hKF => ?_
  refine mI rfl ?_
  refine Fo.bin rfl rfl rfl (by simp only [↓nrmL, nrmZ, Nat.reduceEqDiff, ↓reduceIte, Nat.reduceAdd, Int.reduceBEq, Int.reduceBNe, h0, h02, bne]; rfl) ?_
  refine WpO.nil (hKF _ _ ?_)
  refine Wp.cond (b := false) rfl ?_
  refine Wp.skip ?_
  refine sq ?_
  refine sq ?_
  refine rg fun KF hKF => ?_
  refine Fo.ldN rfl rfl (by simp only [↓nrmL, nrmZ, Nat.reduceEqDiff, ↓reduceIte, Nat.reduceAdd, Int.reduceBEq, Int.reduceBNe, h0, h02, bne]; rfl) ?_
  refine Fo.pcall (v' := ?_) hn rfl (by simp only [↓nrmL, nrmZ, Nat.reduceEqDiff, ↓reduceIte, Nat.reduceAdd, Int.reduceBEq, Int.reduceBNe, h0, h02, bne, List.map]; rfl) rfl ?hv fun _ _ => ?_; case hv => rfl
  refine mI rfl ?_
  refine WpO.nil (hKF _ _ ?_)
  refine sq ?_
  refine rg fun KF hKF => ?_
  refine mI rfl ?_
  refine Fo.bin rfl rfl rfl (by simp only [↓nrmL, nrmZ, Nat.reduceEqDiff, ↓reduceIte, Nat.reduceAdd, Int.reduceBEq, Int.reduceBNe, h0, h02, bne]; rfl) ?_
  refine WpO.nil (hKF _ _ ?_)
  refine Wp.cond (b := true) rfl ?_
  refine sq ?_
  refine rg fun KF hKF => ?_
  refine Fo.build (by repeat (first | refine aFill1 (by first | exact (rfl : _ = AVal.int _ _) | exact (rfl : _ = AVal.ptr _ _) | exact (rfl : _ = AVal.bool _) | exact (rfl : _ = AVal.agg _) | exact (rfl : _ = AVal.tuple _) | exact (rfl : _ = AVal.func _ _ _) | exact (rfl : _ = AVal.nslice) | ((try simp only [↓nrmL, nrmK, Nat.reduceEqDiff, ↓reduceIte]); rfl)) rfl ?_ | rfl)) rfl ?_
  refine mI rfl ?_
  refine Fo.st rfl (rfl : _ = AVal.agg _) rfl rfl rfl (by repeat (first | rfl | refine allOne_cons ?_)) (by simp only [↓nrmL, nrmZ, Nat.reduceEqDiff, ↓reduceIte, Nat.reduceAdd, Int.reduceBEq, Int.reduceBNe, h0, h02, bne]; rfl) ?_
  refine mI rfl ?_
  refine WpO.nil (hKF _ _ ?_)
  refine Wp.ret ?_
  dsimp only [cond_true, cond_false]
  refine ⟨trivial, _, (getAllC rfl rfl rfl rfl), ?_⟩
  exact ⟨_, rfl, newZero⟩
 obtain ⟨a, b, rfl, rfl, ok⟩ := ok_of h0
 obtain ⟨c, d, rfl, rfl, ok2⟩ := ok_of h02
 have ee := ok.err
 have ee2 := ok2.err
 have ha := ok.wa
 have hb := ok.hb
 have hl := ok.len
 have hm := ok2.len
 have hdb := ok2.hb
 have hcb := ok2.wa
 cases hw : (withinB x c a && withinB y d b)
 ·have e1 : pasteSpec ⟨a, b, l⟩ ⟨c, d, m⟩ x y = (.zero, 1) := by simp [pasteSpec, h0, h02, hw]
  rw [e1]
  try simp only [↓nrmL, nrmZ, Nat.reduceEqDiff, ↓reduceIte, Nat.reduceAdd, Int.reduceBEq, Int.reduceBNe, ee, ee2, hw]
  refine sq ?_
  refine rg fun KF hKF => ?_
  refine Fo.boxA rfl ?_
  refine Fo.boxA rfl ?_
  refine Fo.new ?_
  refine mI rfl ?_
  refine WpO.nil (hKF _ _ ?_)
  refine sq ?_
  refine sq ?_
  refine rg fun KF hKF => ?_
  refine Fo.ldN rfl rfl (by simp only [↓nrmL, nrmZ, Nat.reduceEqDiff, ↓reduceIte, Nat.reduceAdd, Int.reduceBEq, Int.reduceBNe, ee, ee2, hw]; rfl) ?_
  refine Fo.pcall (v' := ?_) hn rfl (by simp only [↓nrmL, nrmZ, Nat.reduceEqDiff, ↓reduceIte, Nat.reduceAdd, Int.reduceBEq, Int.reduceBNe, ee, ee2, hw, List.map]; rfl) rfl ?hv fun _ _ => ?_; case hv => (simp only [↓nrmL, nrmZ, Nat.reduceEqDiff, ↓reduceIte, Nat.reduceAdd, Int.reduceBEq, Int.reduceBNe, ee, ee2, hw]; rfl)
  refine mI rfl ?_
  refine WpO.nil (hKF _ _ ?_)
  refine sq ?_
  refine rg fun KF hKF => ?_
  refine mI rfl ?_
  refine Fo.bin rfl rfl rfl (by simp only [↓nrmL, nrmZ, Nat.reduceEqDiff, ↓reduceIte, Nat.reduceAdd, Int.reduceBEq, Int.reduceBNe, ee, ee2, hw]; rfl) ?_
  refine WpO.nil (hKF _ _ ?_)
  refine Wp.cond (b := false) rfl ?_
  refine Wp.skip ?_
  refine sq ?_
  refine sq ?_
  refine rg fun KF hKF => ?_
  refine Fo.ldN rfl rfl (by simp only [↓nrmL, nrmZ, Nat.reduceEqDiff, ↓reduceIte, Nat.reduceAdd, Int.reduceBEq, Int.reduceBNe, ee, ee2, hw]; rfl) ?_
  refine Fo.pcall (v' := ?_) hn rfl (by simp only [↓nrmL, nrmZ, Nat.reduceEqDiff, ↓reduceIte, Nat.reduceAdd, Int.reduceBEq, Int.reduceBNe, ee, ee2, hw, List.map]; rfl) rfl ?hv fun _ _ => ?_; case hv => (simp only [↓nrmL, nrmZ, Nat.reduceEqDiff, ↓reduceIte, Nat.reduceAdd, Int.reduceBEq, Int.reduceBNe, ee, ee2, hw]; rfl)
  refine mI rfl ?_
  refine WpO.nil (hKF _ _ ?_)
  refine sq ?_
  refine rg fun KF hKF => ?_
  refine mI rfl ?_
  refine Fo.bin rfl rfl rfl (by simp only [↓nrmL, nrmZ, Nat.reduceEqDiff, ↓reduceIte, Nat.reduceAdd, Int.reduceBEq, Int.reduceBNe, ee, ee2, hw]; rfl) ?_
  refine WpO.nil (hKF _ _ ?_)
  refine Wp.cond (b := false) rfl ?_
  refine Wp.skip ?_
  refine sq ?_
  refine sq ?_
  refine rg fun KF hKF => ?_
  refine mI rfl ?_
  refine mI rfl ?_
  refine Fo.fa rfl ?_
  refine Fo.ld rfl rfl ?_
  refine Fo.fa rfl ?_
  refine Fo.ld rfl rfl ?_
  refine Fo.build (by repeat (first | refine aFill1 (by first | exact (rfl : _ = AVal.int _ _) | exact (rfl : _ = AVal.ptr _ _) | exact (rfl : _ = AVal.bool _) | exact (rfl : _ = AVal.agg _) | exact (rfl : _ = AVal.tuple _) | exact (rfl : _ = AVal.func _ _ _) | exact (rfl : _ = AVal.nslice) | ((try simp only [↓nrmL, nrmK, Nat.reduceEqDiff, ↓reduceIte]); rfl)) rfl ?_ | rfl)) (by simp only [↓nrmL, nrmZ, Nat.reduceEqDiff, ↓reduceIte, Nat.reduceAdd, Int.reduceBEq, Int.reduceBNe, ee, ee2, hw]; rfl) ?_
  refine Fo.ldN rfl rfl (by simp only [↓nrmL, nrmZ, Nat.reduceEqDiff, ↓reduceIte, Nat.reduceAdd, Int.reduceBEq, Int.reduceBNe, ee, ee2, hw]; rfl) ?_
  refine Fo.pcall (v' := ?_) hn rfl (by simp only [↓nrmL, nrmZ, Nat.reduceEqDiff, ↓reduceIte, Nat.reduceAdd, Int.reduceBEq, Int.reduceBNe, ee, ee2, hw, List.map]; rfl) rfl ?hv fun _ _ => ?_; case hv => (simp only [↓nrmL, nrmZ, Nat.reduceEqDiff, ↓reduceIte, Nat.reduceAdd, Int.reduceBEq, Int.reduceBNe, ee, ee2, hw]; rfl)
  refine Fo.now rfl rfl (by simp only [↓nrmL, nrmZ, Nat.reduceEqDiff, ↓reduceIte, Nat.reduceAdd, Int.reduceBEq, Int.reduceBNe, ee, ee2, hw]; rfl) ?_
  refine WpO.nil (hKF _ _ ?_)
  refine Wp.cond (b := true) rfl ?_
  refine sq ?_
  refine rg fun KF hKF => ?_
  refine Fo.build (by repeat (first | refine aFill1 (by first | exact (rfl : _ = AVal.int _ _) | exact (rfl : _ = AVal.ptr _ _) | exact (rfl : _ = AVal.bool _) | exact (rfl : _ = AVal.agg _) | exact (rfl : _ = AVal.tuple _) | exact (rfl : _ = AVal.func _ _ _) | exact (rfl : _ = AVal.nslice) | ((try simp only [↓nrmL, nrmK, Nat.reduceEqDiff, ↓reduceIte]); rfl)) rfl ?_ | rfl)) rfl ?_
  refine Fo.st rfl (rfl : _ = AVal.agg _) rfl rfl rfl (by repeat (first | rfl | refine allOne_cons ?_)) (by simp only [↓nrmL, nrmZ, Nat.reduceEqDiff, ↓reduceIte, Nat.reduceAdd, Int.reduceBEq, Int.reduceBNe, ee, ee2, hw]; rfl) ?_
  refine mI rfl ?_
  refine WpO.nil (hKF _ _ ?_)
  refine Wp.ret ?_
  dsimp only [cond_true, cond_false]
  refine ⟨trivial, _, (getAllC rfl rfl rfl rfl), ?_⟩
  exact ⟨_, rfl, newZero⟩
 have hw2 := hw
 rw [Bool.and_eq_true] at hw2
 obtain ⟨x, c', rfl, e8, hxc0⟩ := within_nat ha hw2.1
 obtain ⟨y, d', rfl, e9, hyd0⟩ := within_nat hb hw2.2
 have hcc : c = c' := by omega
 have hdd : d = d' := by omega
 subst hcc hdd
 have e1 : pasteSpec ⟨a, b, l⟩ ⟨c, d, m⟩ x y = (⟨a, b, (List.range (a * b)).map (pasteF l m a c d x y)⟩, 0) := by simp [pasteSpec, h0, h02, hw]
 rw [e1]
 have hm1 : a * b ≤ 640 * 640 := Nat.mul_le_mul ha hb
 have hm2 : c * d ≤ 640 * 640 := Nat.mul_le_mul hcb hdb
 try simp only [↓nrmL, nrmZ, Nat.reduceEqDiff, ↓reduceIte, Nat.reduceAdd, Int.reduceBEq, Int.reduceBNe, ee, ee2, hw]
 refine sq ?_
 refine rg fun KF hKF => ?_
 refine Fo.boxA rfl ?_
 refine Fo.boxA rfl ?_
 refine Fo.new ?_
 refine mI rfl ?_
 refine WpO.nil (hKF _ _ ?_)
 refine sq ?_
 refine sq ?_
 refine rg fun KF hKF => ?_
 refine Fo.ldN rfl rfl (by simp only [↓nrmL, nrmZ, Nat.reduceEqDiff, ↓reduceIte, Nat.reduceAdd, Int.reduceBEq, Int.reduceBNe, ee, ee2, hw]; rfl) ?_
 refine Fo.pcall (v' := ?_) hn rfl (by simp only [↓nrmL, nrmZ, Nat.reduceEqDiff, ↓reduceIte, Nat.reduceAdd, Int.reduceBEq, Int.reduceBNe, ee, ee2, hw, List.map]; rfl) rfl ?hv fun _ _ => ?_; case hv => (simp only [↓nrmL, nrmZ, Nat.reduceEqDiff, ↓reduceIte, Nat.reduceAdd, Int.reduceBEq, Int.reduceBNe, ee, ee2, hw]; rfl)
 refine mI rfl ?_
 refine WpO.nil (hKF _ _ ?_)
 refine sq ?_
 refine rg fun KF hKF => ?_
 refine mI rfl ?_
 refine Fo.bin rfl rfl rfl (by simp only [↓nrmL, nrmZ, Nat.reduceEqDiff, ↓reduceIte, Nat.reduceAdd, Int.reduceBEq, Int.reduceBNe, ee, ee2, hw]; rfl) ?_
 refine WpO.nil (hKF _ _ ?_)
 refine Wp.cond (b := false) rfl ?_
 refine Wp.skip ?_
 refine sq ?_
 refine sq ?_
 refine rg fun KF hKF => ?_
 refine Fo.ldN rfl rfl (by simp only [↓nrmL, nrmZ, Nat.reduceEqDiff, ↓reduceIte, Nat.reduceAdd, Int.reduceBEq, Int.reduceBNe, ee, ee2, hw]; rfl) ?_
 refine Fo.pcall (v' := ?_) hn rfl (by simp only [↓nrmL, nrmZ, Nat.reduceEqDiff, ↓reduceIte, Nat.reduceAdd, Int.reduceBEq, Int.reduceBNe, ee, ee2, hw, List.map]; rfl) rfl ?hv fun _ _ => ?_; case hv => (simp only [↓nrmL, nrmZ, Nat.reduceEqDiff, ↓reduceIte, Nat.reduceAdd, Int.reduceBEq, Int.reduceBNe, ee, ee2, hw]; rfl)
 refine mI rfl ?_
 refine WpO.nil (hKF _ _ ?_)
 refine sq ?_
 refine rg fun KF hKF => ?_
 refine mI rfl ?_
 refine Fo.bin rfl rfl rfl (by simp only [↓nrmL, nrmZ, Nat.reduceEqDiff, ↓reduceIte, Nat.reduceAdd, Int.reduceBEq, Int.reduceBNe, ee, ee2, hw]; rfl) ?_
 refine WpO.nil (hKF _ _ ?_)
 refine Wp.cond (b := false) rfl ?_
 refine Wp.skip ?_
 refine sq ?_
 refine sq ?_
 refine rg fun KF hKF => ?_
 refine mI rfl ?_
 refine mI rfl ?_
 refine Fo.fa rfl ?_
 refine Fo.ld rfl rfl ?_
 refine Fo.fa rfl ?_
 refine Fo.ld rfl rfl ?_
 refine Fo.build (by repeat (first | refine aFill1 (by first | exact (rfl : _ = AVal.int _ _) | exact (rfl : _ = AVal.ptr _ _) | exact (rfl : _ = AVal.bool _) | exact (rfl : _ = AVal.agg _) | exact (rfl : _ = AVal.tuple _) | exact (rfl : _ = AVal.func _ _ _) | exact (rfl : _ = AVal.nslice) | ((try simp only [↓nrmL, nrmK, Nat.reduceEqDiff, ↓reduceIte]); rfl)) rfl ?_ | rfl)) (by simp only [↓nrmL, nrmZ, Nat.reduceEqDiff, ↓reduceIte, Nat.reduceAdd, Int.reduceBEq, Int.reduceBNe, ee, ee2, hw]; rfl) ?_
 refine Fo.ldN rfl rfl (by simp only [↓nrmL, nrmZ, Nat.reduceEqDiff, ↓reduceIte, Nat.reduceAdd, Int.reduceBEq, Int.reduceBNe, ee, ee2, hw]; rfl) ?_
 refine Fo.pcall (v' := ?_) hn rfl (by simp only [↓nrmL, nrmZ, Nat.reduceEqDiff, ↓reduceIte, Nat.reduceAdd, Int.reduceBEq, Int.reduceBNe, ee, ee2, hw, List.map]; rfl) rfl ?hv fun _ _ => ?_; case hv => (simp only [↓nrmL, nrmZ, Nat.reduceEqDiff, ↓reduceIte, Nat.reduceAdd, Int.reduceBEq, Int.reduceBNe, ee, ee2, hw]; rfl)
 refine Fo.now rfl rfl (by simp only [↓nrmL, nrmZ, Nat.reduceEqDiff, ↓reduceIte, Nat.reduceAdd, Int.reduceBEq, Int.reduceBNe, ee, ee2, hw]; rfl) ?_
 refine WpO.nil (hKF _ _ ?_)
 refine Wp.cond (b := false) rfl ?_
 refine Wp.skip ?_
 refine sq ?_
 refine rg fun KF hKF => ?_
 refine Fo.ldN rfl rfl (by simp only [↓nrmL, nrmZ, Nat.reduceEqDiff, ↓reduceIte, Nat.reduceAdd, Int.reduceBEq, Int.reduceBNe, ee, ee2, hw]; rfl) ?_
 refine WpO.do (WpX.conD hn rfl rfl (by simp only [↓nrmL, nrmZ, Nat.reduceEqDiff, ↓reduceIte, Nat.reduceAdd, Int.reduceBEq, Int.reduceBNe, List.map] <;> rfl) (K_twin (l := l) (by omega)) fun v H1 h5 => ?_)
 obtain ⟨q, e1, hq, hfq, hwq, hxq⟩ := h5
 subst e1
 try dsimp only at hq
 haveI : ExtI _ H1 := ⟨hxq⟩
 haveI := hq.one
 refine Fo.new ?_
 refine Fo.st rfl (rfl : _ = AVal.agg _) rfl rfl rfl (by repeat (first | rfl | refine allOne_cons ?_)) (by simp only [↓nrmL, nrmZ, Nat.reduceEqDiff, ↓reduceIte, Nat.reduceAdd, Int.reduceBEq, Int.reduceBNe]; rfl) ?_
 refine WpO.nil (hKF _ _ ?_)
 refine sq ?_
 refine sq ?_
 refine rg fun KF hKF => ?_
 refine Fo.fa rfl ?_
 refine Fo.ld rfl rfl ?_
 refine mI rfl ?_
 refine WpO.nil (hKF _ _ ?_)
 refine Wp.block ?_
 dsimp only [cond_true, cond_false]
 refine Wp.loopS [13, 41, 42, 43, 44, 45, 46, 47, 48, 49, 50, 51, 52, 53, 54, 55] (fun j : Nat => [(41, .int .i64 j)]) (fun H3 j H2 => j ≤ d ∧ BytesI H2 q ((List.range (a * b)).map (pasteF l m a c j x y)) ∧ WrS H2 q ∧ ExtP0 H3 H2 q) (fun j => d - j) 0 rfl (fun _ => rfl) ⟨rfl, trivial⟩ ⟨Nat.zero_le _, by rw [paste_zero hl]; infer_instance, inferInstance, inferInstance⟩ (by unfold fuel0 at hn; omega) ?_
 rintro j g H2 ⟨hj, hb2, hw2, ⟨hx2⟩⟩
 simp only [↓nrmL, nrmZ, Nat.reduceEqDiff, ↓reduceIte, Nat.reduceAdd, Int.reduceBEq, Int.reduceBNe]
 cases hc : decide ((j : Int) < (d : Int))
 ·have hjd : j = d := by have := of_decide_eq_false hc; omega
  rw [hjd] at hb2
  try simp only [↓nrmL, nrmZ, Nat.reduceEqDiff, ↓reduceIte, Nat.reduceAdd, Int.reduceBEq, Int.reduceBNe, hc]
  refine sq ?_
  refine rg fun KF hKF => ?_
  refine Fo.bin rfl rfl rfl (by simp only [↓nrmL, nrmZ, Nat.reduceEqDiff, ↓reduceIte, Nat.reduceAdd, Int.reduceBEq, Int.reduceBNe, hc]; rfl) ?_
  refine WpO.nil (hKF _ _ ?_)
  refine sq ?_
  refine Wp.cond (b := false) rfl ?_
  refine Wp.exit ?_
  refine sq ?_
  refine rg fun KF hKF => ?_
  refine Fo.ldN rfl rfl (by simp only [↓nrmL, nrmZ, Nat.reduceEqDiff, ↓reduceIte, Nat.reduceAdd, Int.reduceBEq, Int.reduceBNe, hc]; rfl) ?_
  refine Fo.st rfl (rfl : _ = AVal.agg _) rfl rfl rfl (by repeat (first | rfl | refine allOne_cons ?_)) (by simp only [↓nrmL, nrmZ, Nat.reduceEqDiff, ↓reduceIte, Nat.reduceAdd, Int.reduceBEq, Int.reduceBNe, hc]; rfl) ?_
  refine mI rfl ?_
  refine WpO.nil (hKF _ _ ?_)
  refine Wp.ret ?_
  dsimp only [cond_true, cond_false]
  refine ⟨trivial, _, (getAllC rfl rfl rfl rfl), ?_⟩
  exact ⟨_, rfl, q, rfl, (show BytesI _ q ((List.range (a * b)).map (pasteF l m a c d x y)) from inferInstance), hfq.weak, inferInstance, Ext0.ext⟩
 have hjd : j < d := by have := of_decide_eq_true hc; omega
 have hw1 := wa1 (a := j) (by omega)
 have hyj : y + j < b := by omega
 have hr := row_le (a := a) hyj
 have hyw : IntKind.i64.wrap ((y : Int) + (j : Int)) = ((y + j : Nat) : Int) := by rw [w64 (by omega)]; omega
 have hfl : ((List.range (a * b)).map (pasteF l m a c j x y)).length = a * b := by simp
 have hrl := rowL_length hfl hyj
 have hrm := rowL_length hm hjd
 try simp only [↓nrmL, nrmZ, Nat.reduceEqDiff, ↓reduceIte, Nat.reduceAdd, Int.reduceBEq, Int.reduceBNe, hc]
 refine sq ?_
 refine rg fun KF hKF => ?_
 refine Fo.bin rfl rfl rfl (by simp only [↓nrmL, nrmZ, Nat.reduceEqDiff, ↓reduceIte, Nat.reduceAdd, Int.reduceBEq, Int.reduceBNe, hc]; rfl) ?_
 refine WpO.nil (hKF _ _ ?_)
 refine sq ?_
 refine Wp.cond (b := true) rfl ?_
 refine Wp.skip ?_
 refine sq ?_
 refine Wp.block ?_
 refine sq ?_
 refine rg fun KF hKF => ?_
 refine mI rfl ?_
 refine mI rfl ?_
 refine WpO.nil (hKF _ _ ?_)
 dsimp only [cond_true, cond_false]
 refine Fr.dregion0 rfl fun KF hKF => ?_
 try simp only [↓nrmL, nrmZ, Nat.reduceEqDiff, ↓reduceIte, Nat.reduceAdd, Int.reduceBEq, Int.reduceBNe, hyw]
 refine Fe.read rfl (exec_ldN rfl rfl (by simp only [↓nrmL, nrmZ, Nat.reduceEqDiff, ↓reduceIte, Nat.reduceAdd, Int.reduceBEq, Int.reduceBNe, hyw]; rfl)) rfl (by repeat (first | exact trivial | refine ⟨(by first | exact Or.inl (by dsimp only; decide) | exact Or.inr (exec_ld rfl rfl) | exact Or.inr (exec_ldN rfl rfl rfl) | exact Or.inr (exec_ldB rfl (by omega)) | exact Or.inr (exec_ldI rfl (by omega)) | exact Or.inr ghost_of), ?_⟩)) ?_
 refine Fe.pure rfl rfl (by simp only [↓nrmL, nrmZ, Nat.reduceEqDiff, ↓reduceIte, Nat.reduceAdd, Int.reduceBEq, Int.reduceBNe, hyw]; rfl) ?_
 refine Fe.pure rfl rfl (by simp only [↓nrmL, nrmZ, Nat.reduceEqDiff, ↓reduceIte, Nat.reduceAdd, Int.reduceBEq, Int.reduceBNe, hyw]; rfl) ?_
 refine Fe.pure rfl rfl (by simp only [↓nrmL, nrmZ, Nat.reduceEqDiff, ↓reduceIte, Nat.reduceAdd, Int.reduceBEq, Int.reduceBNe, hyw]; rfl) ?_
 refine Fe.con rfl hn rfl rfl (by simp only [↓nrmL, nrmZ, Nat.reduceEqDiff, ↓reduceIte, Nat.reduceAdd, Int.reduceBEq, Int.reduceBNe, List.map, hyw] <;> rfl) (K_line (l := (List.range (a * b)).map (pasteF l m a c j x y)) (a := a) (b := b) (y := y + j) hfl hyj hm1 hb) fun v1 K1 h5 => ?_
 obtain ⟨g1, g2, g3⟩ := h5
 haveI : ExtI _ K1 := ⟨g3⟩
 haveI := g2.one
 refine ⟨(by repeat (first | exact trivial | refine ⟨(by first | exact Or.inl (by dsimp only; decide) | exact Or.inr (readOk_of (exec_ld rfl rfl)) | exact Or.inr (readOk_of (exec_ldN rfl rfl rfl)) | exact Or.inr (readOk_of (exec_ldB rfl (by omega))) | exact Or.inr (readOk_of (exec_ldI rfl (by omega))) | exact Or.inr (made_of rfl)), ?_⟩)), ?_⟩
 refine Fe.pure rfl rfl (by simp only [↓nrmL, nrmZ, Nat.reduceEqDiff, ↓reduceIte, Nat.reduceAdd, Int.reduceBEq, Int.reduceBNe]; rfl) ?_
 refine Fe.slcE (p := v1) (l := rowL ((List.range (a * b)).map (pasteF l m a c j x y)) a (y + j)) (a := x) (b := a) rfl rfl (Or.inr ⟨_, rfl⟩) (Or.inl ⟨rfl, hrl.symm⟩) (by omega) (by omega) ⟨Or.inl (by dsimp only; decide), trivial⟩ ?_
 have hsp := slcV_part (p := v1) (a := x) (b := a) (by omega) (by omega) g2
 haveI h1v : OneV (slcV v1 x a) := by
  rcases hsp with ⟨k1, k2⟩ | ⟨_, r, off, k1⟩
  ·exact k1.one
  ·rw [k1]; exact ⟨rfl, rfl⟩
 refine Fe.read rfl (exec_ldN rfl rfl (by simp only [↓nrmL, nrmZ, Nat.reduceEqDiff, ↓reduceIte, Nat.reduceAdd, Int.reduceBEq, Int.reduceBNe]; rfl)) rfl (by repeat (first | exact trivial | refine ⟨(by first | exact Or.inl (by dsimp only; decide) | exact Or.inr (exec_ld rfl rfl) | exact Or.inr (exec_ldN rfl rfl rfl) | exact Or.inr (exec_ldB rfl (by omega)) | exact Or.inr (exec_ldI rfl (by omega)) | exact Or.inr ghost_of), ?_⟩)) ?_
 refine Fe.pure rfl rfl (by simp only [↓nrmL, nrmZ, Nat.reduceEqDiff, ↓reduceIte, Nat.reduceAdd, Int.reduceBEq, Int.reduceBNe]; rfl) ?_
 refine Fe.con rfl hn rfl rfl (by simp only [↓nrmL, nrmZ, Nat.reduceEqDiff, ↓reduceIte, Nat.reduceAdd, Int.reduceBEq, Int.reduceBNe, List.map] <;> rfl) (K_line (l := m) (a := c) (b := d) (y := j) hm hjd hm2 hdb) fun v2 K2 h5 => ?_
 obtain ⟨g4, g5, g6⟩ := h5
 haveI : ExtI _ K2 := ⟨g6⟩
 haveI := g5.one
 refine ⟨⟨Or.inl (by dsimp only; decide), ⟨Or.inr (readOk_look (look_slc (l := rowL ((List.range (a * b)).map (pasteF l m a c j x y)) a (y + j)) rfl (Or.inr ⟨_, rfl⟩) (Or.inl ⟨rfl, hrl.symm⟩) (by omega) (by omega))), (by repeat (first | exact trivial | refine ⟨(by first | exact Or.inl (by dsimp only; decide) | exact Or.inr (readOk_of (exec_ld rfl rfl)) | exact Or.inr (readOk_of (exec_ldN rfl rfl rfl)) | exact Or.inr (readOk_of (exec_ldB rfl (by omega))) | exact Or.inr (readOk_of (exec_ldI rfl (by omega))) | exact Or.inr (made_of rfl)), ?_⟩))⟩⟩, ?_⟩
 rcases hsp with ⟨k1, k2⟩ | ⟨hxa, r, off, k1⟩
 ·haveI := k2
  refine Fe.copyP (p := q) (v := slcV v1 x a) (s := v2) (l := (List.range (a * b)).map (pasteF l m a c j x y)) (a := (y + j) * a + x) (k := a - x) (c := c) rfl rfl rfl (g1.trans k1 (by omega)) (inferInstance : BytesI _ (slcV v1 x a) (((rowL ((List.range (a * b)).map (pasteF l m a c j x y)) a (y + j)).drop x).take (a - x))) (by rw [List.length_take, List.length_drop, hrl]; omega) (by rw [hfl]; omega) (by rw [hrm]; omega) fun K4 g9 gw gx => ?_
  rw [paste_row hm hjd hxc0 hyd0] at g9
  refine ⟨(by repeat (first | exact trivial | refine ⟨(by first | exact Or.inl (by dsimp only; decide) | exact Or.inr (readOk_of (exec_ld rfl rfl)) | exact Or.inr (readOk_of (exec_ldN rfl rfl rfl)) | exact Or.inr (readOk_of (exec_ldB rfl (by omega))) | exact Or.inr (readOk_of (exec_ldI rfl (by omega))) | exact Or.inr (made_of rfl)), ?_⟩)), ?_⟩
  refine WpE.nil (hKF _ _ ?_)
  refine rg fun KF hKF => ?_
  refine Fo.bin rfl rfl rfl rfl ?_
  refine mI rfl ?_
  refine WpO.nil (hKF _ _ ?_)
  dsimp only [cond_true, cond_false]
  refine ⟨j + 1, by omega, ⟨by simp only [↓nrmL, nrmZ, Nat.reduceEqDiff, ↓reduceIte, Nat.reduceAdd, Int.reduceBEq, Int.reduceBNe]; rw [hw1], trivial⟩, hjd, g9, gw, inferInstance⟩
 ·have hc0 : c = 0 := by omega
  have hpr := paste_row (a := a) (b := b) (l := l) (x := x) hm hjd hxc0 hyd0
  have hz : ∀ (A B : List UInt8) (k : Nat), copyL A B k 0 = A := fun A B k => by simp [copyL]
  refine Fe.copyE (s := v2) (m := rowL m c j) rfl k1 rfl ⟨(by repeat (first | exact trivial | refine ⟨(by first | exact Or.inl (by dsimp only; decide) | exact Or.inr (readOk_of (exec_ld rfl rfl)) | exact Or.inr (readOk_of (exec_ldN rfl rfl rfl)) | exact Or.inr (readOk_of (exec_ldB rfl (by omega))) | exact Or.inr (readOk_of (exec_ldI rfl (by omega))) | exact Or.inr (made_of rfl)), ?_⟩)), ?_⟩
  refine WpE.nil (hKF _ _ ?_)
  refine rg fun KF hKF => ?_
  refine Fo.bin rfl rfl rfl rfl ?_
  refine mI rfl ?_
  refine WpO.nil (hKF _ _ ?_)
  dsimp only [cond_true, cond_false]
  refine ⟨j + 1, by omega, ⟨by simp only [↓nrmL, nrmZ, Nat.reduceEqDiff, ↓reduceIte, Nat.reduceAdd, Int.reduceBEq, Int.reduceBNe]; rw [hw1], trivial⟩, hjd, ?_, inferInstance, inferInstance⟩
  rw [← hpr, hc0, hz]
  rw [hc0] at hb2
  infer_instance
end Go.Am

/- Images and their runs, there and back; parts there and back. -/
set_option maxHeartbeats 4000000
namespace Go.Am
open Go

theorem px01 {l : List UInt8} (h : pxOk l = true) {k : Nat} (hk : k < l.length) (c : (l.getD k 0 == 1) = false) : l.getD k 0 = 0 := by
  rcases px_get h hk with h1 | h1
  · exact h1
  · rw [h1] at c; cases c
theorem paint_back {l : List UInt8} {n : Nat} {R : List RunT} {L C : Nat → Nat} (hl : l.length = n) (hp : pxOk l = true) (h : ∀ k, k < n → (R.any fun r => inRun r (L k) (C k)) = (l.getD k 0 == 1)) : paint R L C n = l := by
  refine list_eqA 0 (by simp [paint, hl]) fun t ht => ?_
  simp only [paint, List.length_map, List.length_range] at ht
  unfold paint
  rw [getD_mapA ht, h t ht]
  cases hc : (l.getD t 0 == 1)
  · rw [if_neg (by decide), px01 hp (by omega) hc]
  · rw [if_pos rfl]; exact (eq_of_beq hc).symm
theorem rows_back {a b : Nat} {l : List UInt8} (ok : Ok a b l) : rowsImg a b (allR (rowO ⟨a, b, l⟩) a b) = (⟨a, b, l⟩, 0) := by
  have hs : (sideB (a : Int) && sideB (b : Int)) = true := by
    simp only [sideB, Bool.and_eq_true, decide_eq_true_eq]
    have := ok.wa; have := ok.hb
    omega
  unfold rowsImg fromSpec
  rw [hs, allR_proper ok.wa]
  simp only [cond_true, Int.toNat_natCast]
  rw [paint_back ok.len ok.px fun k hk => ?_]
  obtain ⟨ha, h1, h2, h3⟩ := (show 0 < a ∧ k % a < a ∧ k / a < b ∧ k / a * a + k % a = k from by
    have ha : 0 < a := by
      rcases Nat.eq_zero_or_pos a with h | h
      · rw [h, Nat.zero_mul] at hk; omega
      · exact h
    exact ⟨ha, Nat.mod_lt _ ha, Nat.div_lt_of_lt_mul hk, by have := Nat.div_add_mod k a; rw [Nat.mul_comm] at this; exact this⟩)
  rw [all_cover h2 h1]
  unfold rowO
  rw [inkB_nat h1 h2, h3]
theorem cols_back {a b : Nat} {l : List UInt8} (ok : Ok a b l) : colsImg a b (allR (colO ⟨a, b, l⟩) b a) = (⟨a, b, l⟩, 0) := by
  have hs : (sideB (a : Int) && sideB (b : Int)) = true := by
    simp only [sideB, Bool.and_eq_true, decide_eq_true_eq]
    have := ok.wa; have := ok.hb
    omega
  unfold colsImg fromSpec
  rw [hs, allR_proper ok.hb]
  simp only [cond_true, Int.toNat_natCast]
  rw [paint_back ok.len ok.px fun k hk => ?_]
  obtain ⟨ha, h1, h2, h3⟩ := (show 0 < a ∧ k % a < a ∧ k / a < b ∧ k / a * a + k % a = k from by
    have ha : 0 < a := by
      rcases Nat.eq_zero_or_pos a with h | h
      · rw [h, Nat.zero_mul] at hk; omega
      · exact h
    exact ⟨ha, Nat.mod_lt _ ha, Nat.div_lt_of_lt_mul hk, by have := Nat.div_add_mod k a; rw [Nat.mul_comm] at this; exact this⟩)
  rw [all_cover h1 h2]
  unfold colO
  rw [inkB_nat h1 h2, h3]
theorem rows_sums {a b : Nat} {l : List UInt8} (j : Nat) (h : j < (takeRuns (rowsL l a b) (allR (rowO ⟨a, b, l⟩) a b)).length) : (takeRuns (rowsL l a b) (allR (rowO ⟨a, b, l⟩) a b))[j] = 0 := by
  have hlen : (rowsL l a b).length = b := by simp [rowsL]
  have hj : j < b := by rw [takeRuns_length, hlen] at h; exact h
  have h1 := takeRuns_all (o := rowO ⟨a, b, l⟩) (len := a) b (rowsL l a b) (by omega) j (by omega)
  rw [if_pos hj] at h1
  have e : (takeRuns (rowsL l a b) (allR (rowO ⟨a, b, l⟩) a b)).getD j 0 = (takeRuns (rowsL l a b) (allR (rowO ⟨a, b, l⟩) a b))[j] := by simp [h]
  rw [← e, h1]
  have h2 : (rowsL l a b).getD j 0 = rc l a j a := by unfold rowsL; rw [getD_mapA hj]
  have h3 : rc l a j a = cntB (rowO ⟨a, b, l⟩ j) a := by
    unfold rc cntB
    congr 2
    apply List.filter_congr
    intro u hu
    rw [List.mem_range] at hu
    show _ = inkB a b l u j
    rw [inkB_nat hu hj]
  rw [h2, h3]; omega
theorem cols_sums {a b : Nat} {l : List UInt8} (j : Nat) (h : j < (takeRuns (colsL l a b) (allR (colO ⟨a, b, l⟩) b a)).length) : (takeRuns (colsL l a b) (allR (colO ⟨a, b, l⟩) b a))[j] = 0 := by
  have hlen : (colsL l a b).length = a := by simp [colsL]
  have hj : j < a := by rw [takeRuns_length, hlen] at h; exact h
  have h1 := takeRuns_all (o := colO ⟨a, b, l⟩) (len := b) a (colsL l a b) (by omega) j (by omega)
  rw [if_pos hj] at h1
  have e : (takeRuns (colsL l a b) (allR (colO ⟨a, b, l⟩) b a)).getD j 0 = (takeRuns (colsL l a b) (allR (colO ⟨a, b, l⟩) b a))[j] := by simp [h]
  rw [← e, h1]
  have h2 : (colsL l a b).getD j 0 = cc l a j b := by unfold colsL; rw [getD_mapA hj]
  have h3 : cc l a j b = cntB (colO ⟨a, b, l⟩ j) b := by
    unfold cc cntB
    congr 2
    apply List.filter_congr
    intro u hu
    rw [List.mem_range] at hu
    show _ = inkB a b l j u
    rw [inkB_nat hj hu]
  rw [h2, h3]; omega
theorem paste_crop {a b x y u v : Nat} {l : List UInt8} (ok : Ok a b l) (hx : x + u ≤ a) (hy : y + v ≤ b) : (List.range (a * b)).map (pasteF l (cropL l a x y u v) a u v x y) = l := by
  refine list_eqA 0 (by simp [ok.len]) fun t ht => ?_
  rw [List.length_map, List.length_range] at ht
  rw [getD_mapA ht]
  unfold pasteF
  split
  · rename_i h
    obtain ⟨h1, h2, h3, h4⟩ := h
    have hk : (t / a - y) * u + (t % a - x) < u * v := by
      have : (t / a - y + 1) * u ≤ v * u := Nat.mul_le_mul_right _ (by omega)
      rw [Nat.add_mul, Nat.one_mul, Nat.mul_comm v u] at this
      omega
    unfold cropL
    rw [getD_mapA hk]
    obtain ⟨e1, e2⟩ := row_at (a := u) (x := t % a - x) (y := t / a - y) (by omega)
    rw [e1, e2]
    congr 1
    have h5 := Nat.div_add_mod t a
    rw [Nat.mul_comm] at h5
    rw [show y + (t / a - y) = t / a by omega, show x + (t % a - x) = t % a by omega]
    exact h5
  · rfl
end Go.Am

set_option maxHeartbeats 4000000
set_option maxRecDepth 100000
namespace Go.Am
open Go
attribute [local irreducible] Wp WpO WpX WpE

/-- The package-level table. -/
abbrev aroundCs : List AVal := [.int .i64 0, .int .i64 (-1), .int .i64 1, .int .i64 (-1), .int .i64 1, .int .i64 0, .int .i64 1, .int .i64 1, .int .i64 0, .int .i64 1, .int .i64 (-1), .int .i64 1, .int .i64 (-1), .int .i64 0, .int .i64 (-1), .int .i64 (-1)]
/-- It is there. -/
class Tabs (H : AHeap) : Prop where
 it : tablesIn aroundT H = true
theorem tabs_iff {H : AHeap} : tablesIn aroundT H = true ↔ 0 < H.n ∧ ∃ rw e, H.get 0 = .row aroundCs rw e := by
 simp only [tablesIn, aroundT, List.all_cons, List.all_nil, Bool.and_true, Bool.and_eq_true]
 constructor
 ·rintro ⟨h1, h2⟩
  refine ⟨by simpa using h1, ?_⟩
  cases hg : H.get 0 with
  | row cs rw e => rw [hg] at h2; exact ⟨rw, e, by rw [abeqL_eq h2]⟩
  | _ => rw [hg] at h2; cases h2
 ·rintro ⟨h1, rw, e, hg⟩
  exact ⟨by simpa using h1, by rw [hg]; exact abeqL_refl _⟩
theorem Tabs.keep {H H' : AHeap} (h : Tabs H) (hn : H.n ≤ H'.n) (hg : H'.get 0 = H.get 0) : Tabs H' := by
 obtain ⟨h1, rw, e, h2⟩ := tabs_iff.1 h.it
 exact ⟨tabs_iff.2 ⟨by omega, rw, e, by rw [hg]; exact h2⟩⟩
theorem Tabs.lt {H : AHeap} (h : Tabs H) : 0 < H.n := (tabs_iff.1 h.it).1
theorem Tabs.ext {H H' : AHeap} (h : Tabs H) (x : Ext H H') : Tabs H' := h.keep x.n (x.get 0 h.lt)
class NeZ (s : Nat) : Prop where
 ne : s ≠ 0
instance {K : AHeap} [h : Tabs K] : NeZ K.n := ⟨by have := h.lt; omega⟩
instance {K : AHeap} {s : Nat} [g : GeN K s] [h : Tabs K] : NeZ s := ⟨by have := h.lt; have := g.ge; omega⟩
instance {H H' : AHeap} [x : ExtI H H'] [h : Tabs H] : Tabs H' := h.ext x.ext
instance {H : AHeap} {o : AObj} [h : Tabs H] : Tabs (H.push o) := h.ext ((Ext.refl H).push o)
instance {H : AHeap} {s : Nat} {o : AObj} [h : Tabs H] [z : NeZ s] : Tabs (H.set s o) := h.keep (Nat.le_refl _) (set_get_ne (fun e => z.ne e.symm))
instance {K H H' : AHeap} {p : AVal} [x : ExtP H H' p] [h : Tabs H] [f : FreshS K p] [k : Tabs K] : Tabs H' := h.keep x.n (x.get 0 h.lt ⟨fun r _ _ _ _ e => by have := f.ge _ _ _ _ _ e; have := k.lt; omega⟩)
theorem aClosed_nil {T : List (Nat × List AVal)} {v : AVal} {H : AHeap} (h : tablesIn T H = true) : aClosed T v [] H = some (v, H) := by
 show (match tablesIn T H with | true => some (v, H) | false => none) = some (v, H)
 rw [h]
instance K_awake {H : AHeap} [h : Tabs H] : PureCon ext prog 19 [] H 0 (.bool true) := ⟨fun n hn => by
 obtain ⟨k, rfl⟩ : ∃ k, n = k + 1 := ⟨n - 1, by unfold fuel0 at hn; omega⟩
 have e1 : prog 19 = some ⟨0, .ext 3, []⟩ := rfl
 refine ⟨.bool true, H, ?_, rfl, Ext.refl H⟩
 rw [call_ext e1]
 exact aClosed_nil h.it⟩

end Go.Am

set_option maxHeartbeats 4000000
set_option maxRecDepth 100000
namespace Go.Am
open Go
attribute [local irreducible] Wp WpO WpX WpE

theorem made_mkI {fr : AFrame} {e : TypeId} {x y : ROpd} {k k' : IntKind} {a : Nat} (hx : x.ev fr = .int k a) (hy : y.ev fr = .int k' a) (h0 : a ≤ 2 ^ 40) : (ROp.makeSlice e [.int .i64 0] 8 x y).made fr = some (cellsI (List.replicate a 0), e, fun r => .slice r 0 a (some a) 1) := by
 rw [← mk_ints]; exact made_mk hx hy (by omega)
end Go.Am

set_option maxHeartbeats 4000000
set_option maxRecDepth 100000
set_option synthInstance.maxHeartbeats 4000000
set_option synthInstance.maxSize 100000
namespace Go.Am
open Go
attribute [local irreducible] Wp WpO WpX WpE

theorem wpd {l : List UInt8} (h : pxOk l = true) {k : Nat} (hk : k < l.length) : IntKind.i64.wrap ((l[k].toNat : Nat) : Int) = pd l k := by
 rw [wu8]
 unfold pd
 have e : l.getD k 0 = l[k] := by simp [hk]
 rcases px_get h hk with h1 | h1 <;> (rw [e] at h1 ⊢; rw [h1]; rfl)
end Go.Am
