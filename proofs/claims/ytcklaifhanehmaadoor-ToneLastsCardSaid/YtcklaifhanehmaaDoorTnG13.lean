/-
  ToneLasts returns true for any value, beats and unit. No condition.
-/
import Derived.Test.YtcklaifhanehmaaDoorAmBD
set_option linter.unusedSimpArgs false
set_option linter.unusedVariables false
set_option maxHeartbeats 4000000
set_option maxRecDepth 100000
set_option synthInstance.maxHeartbeats 2000000
set_option synthInstance.maxSize 4096
namespace Go.Am
open Go
attribute [local irreducible] Wp WpO WpX WpE

instance : R64 1 := ⟨by omega, by omega⟩
instance : R64 2 := ⟨by omega, by omega⟩
instance : R64 3 := ⟨by omega, by omega⟩
instance : R64 4 := ⟨by omega, by omega⟩
instance : R64 8 := ⟨by omega, by omega⟩
instance : R64 16 := ⟨by omega, by omega⟩
def lengthS (v : Int) (dot tri : Bool) : Int × Int × Int :=
 if v = 1 ∨ v = 2 ∨ v = 4 ∨ v = 8 ∨ v = 16 then ratioS ((bif dot then 3 else 1) * (bif tri then 2 else 1)) (v * (bif dot then 2 else 1) * (bif tri then 3 else 1)) else (0, 0, 33)
instance K_Length {v : Int} {dot tri : Bool} {H : AHeap} : PureCon ext prog 16 [.int .i64 v, .bool dot, .bool tri] H 3 (rT (lengthS v dot tri)) := ⟨by
 refine con_of (show prog 16 = some c16 from rfl) rfl rfl fun m hn => ?_
 by_cases hv : v = 1 ∨ v = 2 ∨ v = 4 ∨ v = 8 ∨ v = 16
 ·rcases hv with rfl | rfl | rfl | rfl | rfl
  ·skip
   have e1_1 : ((1 : Int) == 1) = true := rfl
   have f1_1 : ((1 : Int) != 1) = false := rfl
   have e1_2 : ((1 : Int) == 2) = false := rfl
   have f1_2 : ((1 : Int) != 2) = true := rfl
   have e1_4 : ((1 : Int) == 4) = false := rfl
   have f1_4 : ((1 : Int) != 4) = true := rfl
   have e1_8 : ((1 : Int) == 8) = false := rfl
   have f1_8 : ((1 : Int) != 8) = true := rfl
   have e1_16 : ((1 : Int) == 16) = false := rfl
   have f1_16 : ((1 : Int) != 16) = true := rfl
   cases dot
   ·cases tri
    ·skip
     try simp only [↓nrmL, nrmZ, Nat.reduceEqDiff, ↓reduceIte, Nat.reduceAdd, Int.reduceBEq, Int.reduceBNe, e1_1, f1_1, e1_2, f1_2, e1_4, f1_4, e1_8, f1_8, e1_16, f1_16]
     refine sq ?_
     refine rg fun KF hKF => ?_
     refine Fo.new ?_
     refine mI rfl ?_
     refine WpO.nil (hKF _ _ ?_)
     refine sq ?_
     refine sq ?_
     refine rg fun KF hKF => ?_
     refine mI rfl ?_
     refine WpO.nil (hKF _ _ ?_)
     refine Wp.block ?_
     refine sq ?_
     refine sq ?_
     refine rg fun KF hKF => ?_
     refine Fo.bin rfl rfl rfl (by simp only [↓nrmL, nrmZ, Nat.reduceEqDiff, ↓reduceIte, Nat.reduceAdd, Int.reduceBEq, Int.reduceBNe, e1_1, f1_1, e1_2, f1_2, e1_4, f1_4, e1_8, f1_8, e1_16, f1_16]; rfl) ?_
     refine mB rfl ?_
     refine WpO.nil (hKF _ _ ?_)
     refine Wp.cond (b := true) rfl ?_
     refine Wp.skip ?_
     refine Wp.cond (b := true) rfl ?_
     refine Wp.skip ?_
     refine sq ?_
     refine rg fun KF hKF => ?_
     refine mI rfl ?_
     refine mI rfl ?_
     refine mI rfl ?_
     refine WpO.nil (hKF _ _ ?_)
     refine sq ?_
     refine sq ?_
     refine rg fun KF hKF => ?_
     refine mB rfl ?_
     refine WpO.nil (hKF _ _ ?_)
     refine Wp.cond (b := false) rfl ?_
     refine Wp.skip ?_
     refine sq ?_
     refine sq ?_
     refine rg fun KF hKF => ?_
     refine mB rfl ?_
     refine WpO.nil (hKF _ _ ?_)
     refine Wp.cond (b := false) rfl ?_
     refine Wp.skip ?_
     refine sq ?_
     refine rg fun KF hKF => ?_
     refine mI rfl ?_
     refine mI rfl ?_
     refine Fo.pcall (v' := ?_) hn rfl (by simp only [↓nrmL, nrmZ, Nat.reduceEqDiff, ↓reduceIte, Nat.reduceAdd, Int.reduceBEq, Int.reduceBNe, e1_1, f1_1, e1_2, f1_2, e1_4, f1_4, e1_8, f1_8, e1_16, f1_16, List.map]; rfl) rfl ?hv fun _ _ => ?_; case hv => rfl
     refine Fo.extr rfl rfl ?_
     refine Fo.extr rfl rfl ?_
     refine Fo.st rfl (rfl : _ = AVal.agg _) rfl rfl rfl (by repeat (first | rfl | refine allOne_cons ?_)) (by simp only [↓nrmL, nrmZ, Nat.reduceEqDiff, ↓reduceIte, Nat.reduceAdd, Int.reduceBEq, Int.reduceBNe, e1_1, f1_1, e1_2, f1_2, e1_4, f1_4, e1_8, f1_8, e1_16, f1_16]; rfl) ?_
     refine mI rfl ?_
     refine WpO.nil (hKF _ _ ?_)
     refine Wp.ret ?_
     dsimp only [cond_true, cond_false]
     refine ⟨trivial, _, (by first | rfl | exact getAllC rfl rfl rfl rfl | exact getAllT rfl (getAllC rfl rfl rfl rfl) | exact getAllC rfl rfl rfl (getAllC rfl rfl rfl rfl) | exact getAllC1 rfl rfl rfl), ?_⟩
     exact ⟨congrArg rT (by decide +kernel : ratioS _ _ = lengthS _ _ _), Ext0.ext⟩
    ·skip
     try simp only [↓nrmL, nrmZ, Nat.reduceEqDiff, ↓reduceIte, Nat.reduceAdd, Int.reduceBEq, Int.reduceBNe, e1_1, f1_1, e1_2, f1_2, e1_4, f1_4, e1_8, f1_8, e1_16, f1_16]
     refine sq ?_
     refine rg fun KF hKF => ?_
     refine Fo.new ?_
     refine mI rfl ?_
     refine WpO.nil (hKF _ _ ?_)
     refine sq ?_
     refine sq ?_
     refine rg fun KF hKF => ?_
     refine mI rfl ?_
     refine WpO.nil (hKF _ _ ?_)
     refine Wp.block ?_
     refine sq ?_
     refine sq ?_
     refine rg fun KF hKF => ?_
     refine Fo.bin rfl rfl rfl (by simp only [↓nrmL, nrmZ, Nat.reduceEqDiff, ↓reduceIte, Nat.reduceAdd, Int.reduceBEq, Int.reduceBNe, e1_1, f1_1, e1_2, f1_2, e1_4, f1_4, e1_8, f1_8, e1_16, f1_16]; rfl) ?_
     refine mB rfl ?_
     refine WpO.nil (hKF _ _ ?_)
     refine Wp.cond (b := true) rfl ?_
     refine Wp.skip ?_
     refine Wp.cond (b := true) rfl ?_
     refine Wp.skip ?_
     refine sq ?_
     refine rg fun KF hKF => ?_
     refine mI rfl ?_
     refine mI rfl ?_
     refine mI rfl ?_
     refine WpO.nil (hKF _ _ ?_)
     refine sq ?_
     refine sq ?_
     refine rg fun KF hKF => ?_
     refine mB rfl ?_
     refine WpO.nil (hKF _ _ ?_)
     refine Wp.cond (b := false) rfl ?_
     refine Wp.skip ?_
     refine sq ?_
     refine sq ?_
     refine rg fun KF hKF => ?_
     refine mB rfl ?_
     refine WpO.nil (hKF _ _ ?_)
     refine Wp.cond (b := true) rfl ?_
     refine rg fun KF hKF => ?_
     refine mI rfl ?_
     refine Fo.bin rfl rfl rfl rfl ?_
     refine mI rfl ?_
     refine Fo.bin rfl rfl rfl rfl ?_
     refine mI rfl ?_
     refine mI rfl ?_
     refine WpO.nil (hKF _ _ ?_)
     refine sq ?_
     refine rg fun KF hKF => ?_
     refine mI rfl ?_
     refine mI rfl ?_
     refine Fo.pcall (v' := ?_) hn rfl (by simp only [↓nrmL, nrmZ, Nat.reduceEqDiff, ↓reduceIte, Nat.reduceAdd, Int.reduceBEq, Int.reduceBNe, e1_1, f1_1, e1_2, f1_2, e1_4, f1_4, e1_8, f1_8, e1_16, f1_16, List.map]; rfl) rfl ?hv fun _ _ => ?_; case hv => rfl
     refine Fo.extr rfl rfl ?_
     refine Fo.extr rfl rfl ?_
     refine Fo.st rfl (rfl : _ = AVal.agg _) rfl rfl rfl (by repeat (first | rfl | refine allOne_cons ?_)) (by simp only [↓nrmL, nrmZ, Nat.reduceEqDiff, ↓reduceIte, Nat.reduceAdd, Int.reduceBEq, Int.reduceBNe, e1_1, f1_1, e1_2, f1_2, e1_4, f1_4, e1_8, f1_8, e1_16, f1_16]; rfl) ?_
     refine mI rfl ?_
     refine WpO.nil (hKF _ _ ?_)
     refine Wp.ret ?_
     dsimp only [cond_true, cond_false]
     refine ⟨trivial, _, (by first | rfl | exact getAllC rfl rfl rfl rfl | exact getAllT rfl (getAllC rfl rfl rfl rfl) | exact getAllC rfl rfl rfl (getAllC rfl rfl rfl rfl) | exact getAllC1 rfl rfl rfl), ?_⟩
     exact ⟨congrArg rT (by decide +kernel : ratioS _ _ = lengthS _ _ _), Ext0.ext⟩
   ·cases tri
    ·skip
     try simp only [↓nrmL, nrmZ, Nat.reduceEqDiff, ↓reduceIte, Nat.reduceAdd, Int.reduceBEq, Int.reduceBNe, e1_1, f1_1, e1_2, f1_2, e1_4, f1_4, e1_8, f1_8, e1_16, f1_16]
     refine sq ?_
     refine rg fun KF hKF => ?_
     refine Fo.new ?_
     refine mI rfl ?_
     refine WpO.nil (hKF _ _ ?_)
     refine sq ?_
     refine sq ?_
     refine rg fun KF hKF => ?_
     refine mI rfl ?_
     refine WpO.nil (hKF _ _ ?_)
     refine Wp.block ?_
     refine sq ?_
     refine sq ?_
     refine rg fun KF hKF => ?_
     refine Fo.bin rfl rfl rfl (by simp only [↓nrmL, nrmZ, Nat.reduceEqDiff, ↓reduceIte, Nat.reduceAdd, Int.reduceBEq, Int.reduceBNe, e1_1, f1_1, e1_2, f1_2, e1_4, f1_4, e1_8, f1_8, e1_16, f1_16]; rfl) ?_
     refine mB rfl ?_
     refine WpO.nil (hKF _ _ ?_)
     refine Wp.cond (b := true) rfl ?_
     refine Wp.skip ?_
     refine Wp.cond (b := true) rfl ?_
     refine Wp.skip ?_
     refine sq ?_
     refine rg fun KF hKF => ?_
     refine mI rfl ?_
     refine mI rfl ?_
     refine mI rfl ?_
     refine WpO.nil (hKF _ _ ?_)
     refine sq ?_
     refine sq ?_
     refine rg fun KF hKF => ?_
     refine mB rfl ?_
     refine WpO.nil (hKF _ _ ?_)
     refine Wp.cond (b := true) rfl ?_
     refine rg fun KF hKF => ?_
     refine mI rfl ?_
     refine Fo.bin rfl rfl rfl rfl ?_
     refine mI rfl ?_
     refine Fo.bin rfl rfl rfl rfl ?_
     refine mI rfl ?_
     refine mI rfl ?_
     refine WpO.nil (hKF _ _ ?_)
     refine sq ?_
     refine sq ?_
     refine rg fun KF hKF => ?_
     refine mB rfl ?_
     refine WpO.nil (hKF _ _ ?_)
     refine Wp.cond (b := false) rfl ?_
     refine Wp.skip ?_
     refine sq ?_
     refine rg fun KF hKF => ?_
     refine mI rfl ?_
     refine mI rfl ?_
     refine Fo.pcall (v' := ?_) hn rfl (by simp only [↓nrmL, nrmZ, Nat.reduceEqDiff, ↓reduceIte, Nat.reduceAdd, Int.reduceBEq, Int.reduceBNe, e1_1, f1_1, e1_2, f1_2, e1_4, f1_4, e1_8, f1_8, e1_16, f1_16, List.map]; rfl) rfl ?hv fun _ _ => ?_; case hv => rfl
     refine Fo.extr rfl rfl ?_
     refine Fo.extr rfl rfl ?_
     refine Fo.st rfl (rfl : _ = AVal.agg _) rfl rfl rfl (by repeat (first | rfl | refine allOne_cons ?_)) (by simp only [↓nrmL, nrmZ, Nat.reduceEqDiff, ↓reduceIte, Nat.reduceAdd, Int.reduceBEq, Int.reduceBNe, e1_1, f1_1, e1_2, f1_2, e1_4, f1_4, e1_8, f1_8, e1_16, f1_16]; rfl) ?_
     refine mI rfl ?_
     refine WpO.nil (hKF _ _ ?_)
     refine Wp.ret ?_
     dsimp only [cond_true, cond_false]
     refine ⟨trivial, _, (by first | rfl | exact getAllC rfl rfl rfl rfl | exact getAllT rfl (getAllC rfl rfl rfl rfl) | exact getAllC rfl rfl rfl (getAllC rfl rfl rfl rfl) | exact getAllC1 rfl rfl rfl), ?_⟩
     exact ⟨congrArg rT (by decide +kernel : ratioS _ _ = lengthS _ _ _), Ext0.ext⟩
    ·skip
     try simp only [↓nrmL, nrmZ, Nat.reduceEqDiff, ↓reduceIte, Nat.reduceAdd, Int.reduceBEq, Int.reduceBNe, e1_1, f1_1, e1_2, f1_2, e1_4, f1_4, e1_8, f1_8, e1_16, f1_16]
     refine sq ?_
     refine rg fun KF hKF => ?_
     refine Fo.new ?_
     refine mI rfl ?_
     refine WpO.nil (hKF _ _ ?_)
     refine sq ?_
     refine sq ?_
     refine rg fun KF hKF => ?_
     refine mI rfl ?_
     refine WpO.nil (hKF _ _ ?_)
     refine Wp.block ?_
     refine sq ?_
     refine sq ?_
     refine rg fun KF hKF => ?_
     refine Fo.bin rfl rfl rfl (by simp only [↓nrmL, nrmZ, Nat.reduceEqDiff, ↓reduceIte, Nat.reduceAdd, Int.reduceBEq, Int.reduceBNe, e1_1, f1_1, e1_2, f1_2, e1_4, f1_4, e1_8, f1_8, e1_16, f1_16]; rfl) ?_
     refine mB rfl ?_
     refine WpO.nil (hKF _ _ ?_)
     refine Wp.cond (b := true) rfl ?_
     refine Wp.skip ?_
     refine Wp.cond (b := true) rfl ?_
     refine Wp.skip ?_
     refine sq ?_
     refine rg fun KF hKF => ?_
     refine mI rfl ?_
     refine mI rfl ?_
     refine mI rfl ?_
     refine WpO.nil (hKF _ _ ?_)
     refine sq ?_
     refine sq ?_
     refine rg fun KF hKF => ?_
     refine mB rfl ?_
     refine WpO.nil (hKF _ _ ?_)
     refine Wp.cond (b := true) rfl ?_
     refine rg fun KF hKF => ?_
     refine mI rfl ?_
     refine Fo.bin rfl rfl rfl rfl ?_
     refine mI rfl ?_
     refine Fo.bin rfl rfl rfl rfl ?_
     refine mI rfl ?_
     refine mI rfl ?_
     refine WpO.nil (hKF _ _ ?_)
     refine sq ?_
     refine sq ?_
     refine rg fun KF hKF => ?_
     refine mB rfl ?_
     refine WpO.nil (hKF _ _ ?_)
     refine Wp.cond (b := true) rfl ?_
     refine rg fun KF hKF => ?_
     refine mI rfl ?_
     refine Fo.bin rfl rfl rfl rfl ?_
     refine mI rfl ?_
     refine Fo.bin rfl rfl rfl rfl ?_
     refine mI rfl ?_
     refine mI rfl ?_
     refine WpO.nil (hKF _ _ ?_)
     refine sq ?_
     refine rg fun KF hKF => ?_
     refine mI rfl ?_
     refine mI rfl ?_
     refine Fo.pcall (v' := ?_) hn rfl (by simp only [↓nrmL, nrmZ, Nat.reduceEqDiff, ↓reduceIte, Nat.reduceAdd, Int.reduceBEq, Int.reduceBNe, e1_1, f1_1, e1_2, f1_2, e1_4, f1_4, e1_8, f1_8, e1_16, f1_16, List.map]; rfl) rfl ?hv fun _ _ => ?_; case hv => rfl
     refine Fo.extr rfl rfl ?_
     refine Fo.extr rfl rfl ?_
     refine Fo.st rfl (rfl : _ = AVal.agg _) rfl rfl rfl (by repeat (first | rfl | refine allOne_cons ?_)) (by simp only [↓nrmL, nrmZ, Nat.reduceEqDiff, ↓reduceIte, Nat.reduceAdd, Int.reduceBEq, Int.reduceBNe, e1_1, f1_1, e1_2, f1_2, e1_4, f1_4, e1_8, f1_8, e1_16, f1_16]; rfl) ?_
     refine mI rfl ?_
     refine WpO.nil (hKF _ _ ?_)
     refine Wp.ret ?_
     dsimp only [cond_true, cond_false]
     refine ⟨trivial, _, (by first | rfl | exact getAllC rfl rfl rfl rfl | exact getAllT rfl (getAllC rfl rfl rfl rfl) | exact getAllC rfl rfl rfl (getAllC rfl rfl rfl rfl) | exact getAllC1 rfl rfl rfl), ?_⟩
     exact ⟨congrArg rT (by decide +kernel : ratioS _ _ = lengthS _ _ _), Ext0.ext⟩
  ·skip
   have e2_1 : ((2 : Int) == 1) = false := rfl
   have f2_1 : ((2 : Int) != 1) = true := rfl
   have e2_2 : ((2 : Int) == 2) = true := rfl
   have f2_2 : ((2 : Int) != 2) = false := rfl
   have e2_4 : ((2 : Int) == 4) = false := rfl
   have f2_4 : ((2 : Int) != 4) = true := rfl
   have e2_8 : ((2 : Int) == 8) = false := rfl
   have f2_8 : ((2 : Int) != 8) = true := rfl
   have e2_16 : ((2 : Int) == 16) = false := rfl
   have f2_16 : ((2 : Int) != 16) = true := rfl
   cases dot
   ·cases tri
    ·skip
     try simp only [↓nrmL, nrmZ, Nat.reduceEqDiff, ↓reduceIte, Nat.reduceAdd, Int.reduceBEq, Int.reduceBNe, e2_1, f2_1, e2_2, f2_2, e2_4, f2_4, e2_8, f2_8, e2_16, f2_16]
     refine sq ?_
     refine rg fun KF hKF => ?_
     refine Fo.new ?_
     refine mI rfl ?_
     refine WpO.nil (hKF _ _ ?_)
     refine sq ?_
     refine sq ?_
     refine rg fun KF hKF => ?_
     refine mI rfl ?_
     refine WpO.nil (hKF _ _ ?_)
     refine Wp.block ?_
     refine sq ?_
     refine sq ?_
     refine rg fun KF hKF => ?_
     refine Fo.bin rfl rfl rfl (by simp only [↓nrmL, nrmZ, Nat.reduceEqDiff, ↓reduceIte, Nat.reduceAdd, Int.reduceBEq, Int.reduceBNe, e2_1, f2_1, e2_2, f2_2, e2_4, f2_4, e2_8, f2_8, e2_16, f2_16]; rfl) ?_
     refine mB rfl ?_
     refine WpO.nil (hKF _ _ ?_)
     refine Wp.cond (b := false) rfl ?_
     refine sq ?_
     refine rg fun KF hKF => ?_
     refine Fo.bin rfl rfl rfl (by simp only [↓nrmL, nrmZ, Nat.reduceEqDiff, ↓reduceIte, Nat.reduceAdd, Int.reduceBEq, Int.reduceBNe, e2_1, f2_1, e2_2, f2_2, e2_4, f2_4, e2_8, f2_8, e2_16, f2_16]; rfl) ?_
     refine mB rfl ?_
     refine WpO.nil (hKF _ _ ?_)
     refine Wp.cond (b := true) rfl ?_
     refine Wp.skip ?_
     refine Wp.cond (b := true) rfl ?_
     refine Wp.skip ?_
     refine sq ?_
     refine rg fun KF hKF => ?_
     refine mI rfl ?_
     refine mI rfl ?_
     refine mI rfl ?_
     refine WpO.nil (hKF _ _ ?_)
     refine sq ?_
     refine sq ?_
     refine rg fun KF hKF => ?_
     refine mB rfl ?_
     refine WpO.nil (hKF _ _ ?_)
     refine Wp.cond (b := false) rfl ?_
     refine Wp.skip ?_
     refine sq ?_
     refine sq ?_
     refine rg fun KF hKF => ?_
     refine mB rfl ?_
     refine WpO.nil (hKF _ _ ?_)
     refine Wp.cond (b := false) rfl ?_
     refine Wp.skip ?_
     refine sq ?_
     refine rg fun KF hKF => ?_
     refine mI rfl ?_
     refine mI rfl ?_
     refine Fo.pcall (v' := ?_) hn rfl (by simp only [↓nrmL, nrmZ, Nat.reduceEqDiff, ↓reduceIte, Nat.reduceAdd, Int.reduceBEq, Int.reduceBNe, e2_1, f2_1, e2_2, f2_2, e2_4, f2_4, e2_8, f2_8, e2_16, f2_16, List.map]; rfl) rfl ?hv fun _ _ => ?_; case hv => rfl
     refine Fo.extr rfl rfl ?_
     refine Fo.extr rfl rfl ?_
     refine Fo.st rfl (rfl : _ = AVal.agg _) rfl rfl rfl (by repeat (first | rfl | refine allOne_cons ?_)) (by simp only [↓nrmL, nrmZ, Nat.reduceEqDiff, ↓reduceIte, Nat.reduceAdd, Int.reduceBEq, Int.reduceBNe, e2_1, f2_1, e2_2, f2_2, e2_4, f2_4, e2_8, f2_8, e2_16, f2_16]; rfl) ?_
     refine mI rfl ?_
     refine WpO.nil (hKF _ _ ?_)
     refine Wp.ret ?_
     dsimp only [cond_true, cond_false]
     refine ⟨trivial, _, (by first | rfl | exact getAllC rfl rfl rfl rfl | exact getAllT rfl (getAllC rfl rfl rfl rfl) | exact getAllC rfl rfl rfl (getAllC rfl rfl rfl rfl) | exact getAllC1 rfl rfl rfl), ?_⟩
     exact ⟨congrArg rT (by decide +kernel : ratioS _ _ = lengthS _ _ _), Ext0.ext⟩
    ·skip
     try simp only [↓nrmL, nrmZ, Nat.reduceEqDiff, ↓reduceIte, Nat.reduceAdd, Int.reduceBEq, Int.reduceBNe, e2_1, f2_1, e2_2, f2_2, e2_4, f2_4, e2_8, f2_8, e2_16, f2_16]
     refine sq ?_
     refine rg fun KF hKF => ?_
     refine Fo.new ?_
     refine mI rfl ?_
     refine WpO.nil (hKF _ _ ?_)
     refine sq ?_
     refine sq ?_
     refine rg fun KF hKF => ?_
     refine mI rfl ?_
     refine WpO.nil (hKF _ _ ?_)
     refine Wp.block ?_
     refine sq ?_
     refine sq ?_
     refine rg fun KF hKF => ?_
     refine Fo.bin rfl rfl rfl (by simp only [↓nrmL, nrmZ, Nat.reduceEqDiff, ↓reduceIte, Nat.reduceAdd, Int.reduceBEq, Int.reduceBNe, e2_1, f2_1, e2_2, f2_2, e2_4, f2_4, e2_8, f2_8, e2_16, f2_16]; rfl) ?_
     refine mB rfl ?_
     refine WpO.nil (hKF _ _ ?_)
     refine Wp.cond (b := false) rfl ?_
     refine sq ?_
     refine rg fun KF hKF => ?_
     refine Fo.bin rfl rfl rfl (by simp only [↓nrmL, nrmZ, Nat.reduceEqDiff, ↓reduceIte, Nat.reduceAdd, Int.reduceBEq, Int.reduceBNe, e2_1, f2_1, e2_2, f2_2, e2_4, f2_4, e2_8, f2_8, e2_16, f2_16]; rfl) ?_
     refine mB rfl ?_
     refine WpO.nil (hKF _ _ ?_)
     refine Wp.cond (b := true) rfl ?_
     refine Wp.skip ?_
     refine Wp.cond (b := true) rfl ?_
     refine Wp.skip ?_
     refine sq ?_
     refine rg fun KF hKF => ?_
     refine mI rfl ?_
     refine mI rfl ?_
     refine mI rfl ?_
     refine WpO.nil (hKF _ _ ?_)
     refine sq ?_
     refine sq ?_
     refine rg fun KF hKF => ?_
     refine mB rfl ?_
     refine WpO.nil (hKF _ _ ?_)
     refine Wp.cond (b := false) rfl ?_
     refine Wp.skip ?_
     refine sq ?_
     refine sq ?_
     refine rg fun KF hKF => ?_
     refine mB rfl ?_
     refine WpO.nil (hKF _ _ ?_)
     refine Wp.cond (b := true) rfl ?_
     refine rg fun KF hKF => ?_
     refine mI rfl ?_
     refine Fo.bin rfl rfl rfl rfl ?_
     refine mI rfl ?_
     refine Fo.bin rfl rfl rfl rfl ?_
     refine mI rfl ?_
     refine mI rfl ?_
     refine WpO.nil (hKF _ _ ?_)
     refine sq ?_
     refine rg fun KF hKF => ?_
     refine mI rfl ?_
     refine mI rfl ?_
     refine Fo.pcall (v' := ?_) hn rfl (by simp only [↓nrmL, nrmZ, Nat.reduceEqDiff, ↓reduceIte, Nat.reduceAdd, Int.reduceBEq, Int.reduceBNe, e2_1, f2_1, e2_2, f2_2, e2_4, f2_4, e2_8, f2_8, e2_16, f2_16, List.map]; rfl) rfl ?hv fun _ _ => ?_; case hv => rfl
     refine Fo.extr rfl rfl ?_
     refine Fo.extr rfl rfl ?_
     refine Fo.st rfl (rfl : _ = AVal.agg _) rfl rfl rfl (by repeat (first | rfl | refine allOne_cons ?_)) (by simp only [↓nrmL, nrmZ, Nat.reduceEqDiff, ↓reduceIte, Nat.reduceAdd, Int.reduceBEq, Int.reduceBNe, e2_1, f2_1, e2_2, f2_2, e2_4, f2_4, e2_8, f2_8, e2_16, f2_16]; rfl) ?_
     refine mI rfl ?_
     refine WpO.nil (hKF _ _ ?_)
     refine Wp.ret ?_
     dsimp only [cond_true, cond_false]
     refine ⟨trivial, _, (by first | rfl | exact getAllC rfl rfl rfl rfl | exact getAllT rfl (getAllC rfl rfl rfl rfl) | exact getAllC rfl rfl rfl (getAllC rfl rfl rfl rfl) | exact getAllC1 rfl rfl rfl), ?_⟩
     exact ⟨congrArg rT (by decide +kernel : ratioS _ _ = lengthS _ _ _), Ext0.ext⟩
   ·cases tri
    ·skip
     try simp only [↓nrmL, nrmZ, Nat.reduceEqDiff, ↓reduceIte, Nat.reduceAdd, Int.reduceBEq, Int.reduceBNe, e2_1, f2_1, e2_2, f2_2, e2_4, f2_4, e2_8, f2_8, e2_16, f2_16]
     refine sq ?_
     refine rg fun KF hKF => ?_
     refine Fo.new ?_
     refine mI rfl ?_
     refine WpO.nil (hKF _ _ ?_)
     refine sq ?_
     refine sq ?_
     refine rg fun KF hKF => ?_
     refine mI rfl ?_
     refine WpO.nil (hKF _ _ ?_)
     refine Wp.block ?_
     refine sq ?_
     refine sq ?_
     refine rg fun KF hKF => ?_
     refine Fo.bin rfl rfl rfl (by simp only [↓nrmL, nrmZ, Nat.reduceEqDiff, ↓reduceIte, Nat.reduceAdd, Int.reduceBEq, Int.reduceBNe, e2_1, f2_1, e2_2, f2_2, e2_4, f2_4, e2_8, f2_8, e2_16, f2_16]; rfl) ?_
     refine mB rfl ?_
     refine WpO.nil (hKF _ _ ?_)
     refine Wp.cond (b := false) rfl ?_
     refine sq ?_
     refine rg fun KF hKF => ?_
     refine Fo.bin rfl rfl rfl (by simp only [↓nrmL, nrmZ, Nat.reduceEqDiff, ↓reduceIte, Nat.reduceAdd, Int.reduceBEq, Int.reduceBNe, e2_1, f2_1, e2_2, f2_2, e2_4, f2_4, e2_8, f2_8, e2_16, f2_16]; rfl) ?_
     refine mB rfl ?_
     refine WpO.nil (hKF _ _ ?_)
     refine Wp.cond (b := true) rfl ?_
     refine Wp.skip ?_
     refine Wp.cond (b := true) rfl ?_
     refine Wp.skip ?_
     refine sq ?_
     refine rg fun KF hKF => ?_
     refine mI rfl ?_
     refine mI rfl ?_
     refine mI rfl ?_
     refine WpO.nil (hKF _ _ ?_)
     refine sq ?_
     refine sq ?_
     refine rg fun KF hKF => ?_
     refine mB rfl ?_
     refine WpO.nil (hKF _ _ ?_)
     refine Wp.cond (b := true) rfl ?_
     refine rg fun KF hKF => ?_
     refine mI rfl ?_
     refine Fo.bin rfl rfl rfl rfl ?_
     refine mI rfl ?_
     refine Fo.bin rfl rfl rfl rfl ?_
     refine mI rfl ?_
     refine mI rfl ?_
     refine WpO.nil (hKF _ _ ?_)
     refine sq ?_
     refine sq ?_
     refine rg fun KF hKF => ?_
     refine mB rfl ?_
     refine WpO.nil (hKF _ _ ?_)
     refine Wp.cond (b := false) rfl ?_
     refine Wp.skip ?_
     refine sq ?_
     refine rg fun KF hKF => ?_
     refine mI rfl ?_
     refine mI rfl ?_
     refine Fo.pcall (v' := ?_) hn rfl (by simp only [↓nrmL, nrmZ, Nat.reduceEqDiff, ↓reduceIte, Nat.reduceAdd, Int.reduceBEq, Int.reduceBNe, e2_1, f2_1, e2_2, f2_2, e2_4, f2_4, e2_8, f2_8, e2_16, f2_16, List.map]; rfl) rfl ?hv fun _ _ => ?_; case hv => rfl
     refine Fo.extr rfl rfl ?_
     refine Fo.extr rfl rfl ?_
     refine Fo.st rfl (rfl : _ = AVal.agg _) rfl rfl rfl (by repeat (first | rfl | refine allOne_cons ?_)) (by simp only [↓nrmL, nrmZ, Nat.reduceEqDiff, ↓reduceIte, Nat.reduceAdd, Int.reduceBEq, Int.reduceBNe, e2_1, f2_1, e2_2, f2_2, e2_4, f2_4, e2_8, f2_8, e2_16, f2_16]; rfl) ?_
     refine mI rfl ?_
     refine WpO.nil (hKF _ _ ?_)
     refine Wp.ret ?_
     dsimp only [cond_true, cond_false]
     refine ⟨trivial, _, (by first | rfl | exact getAllC rfl rfl rfl rfl | exact getAllT rfl (getAllC rfl rfl rfl rfl) | exact getAllC rfl rfl rfl (getAllC rfl rfl rfl rfl) | exact getAllC1 rfl rfl rfl), ?_⟩
     exact ⟨congrArg rT (by decide +kernel : ratioS _ _ = lengthS _ _ _), Ext0.ext⟩
    ·skip
     try simp only [↓nrmL, nrmZ, Nat.reduceEqDiff, ↓reduceIte, Nat.reduceAdd, Int.reduceBEq, Int.reduceBNe, e2_1, f2_1, e2_2, f2_2, e2_4, f2_4, e2_8, f2_8, e2_16, f2_16]
     refine sq ?_
     refine rg fun KF hKF => ?_
     refine Fo.new ?_
     refine mI rfl ?_
     refine WpO.nil (hKF _ _ ?_)
     refine sq ?_
     refine sq ?_
     refine rg fun KF hKF => ?_
     refine mI rfl ?_
     refine WpO.nil (hKF _ _ ?_)
     refine Wp.block ?_
     refine sq ?_
     refine sq ?_
     refine rg fun KF hKF => ?_
     refine Fo.bin rfl rfl rfl (by simp only [↓nrmL, nrmZ, Nat.reduceEqDiff, ↓reduceIte, Nat.reduceAdd, Int.reduceBEq, Int.reduceBNe, e2_1, f2_1, e2_2, f2_2, e2_4, f2_4, e2_8, f2_8, e2_16, f2_16]; rfl) ?_
     refine mB rfl ?_
     refine WpO.nil (hKF _ _ ?_)
     refine Wp.cond (b := false) rfl ?_
     refine sq ?_
     refine rg fun KF hKF => ?_
     refine Fo.bin rfl rfl rfl (by simp only [↓nrmL, nrmZ, Nat.reduceEqDiff, ↓reduceIte, Nat.reduceAdd, Int.reduceBEq, Int.reduceBNe, e2_1, f2_1, e2_2, f2_2, e2_4, f2_4, e2_8, f2_8, e2_16, f2_16]; rfl) ?_
     refine mB rfl ?_
     refine WpO.nil (hKF _ _ ?_)
     refine Wp.cond (b := true) rfl ?_
     refine Wp.skip ?_
     refine Wp.cond (b := true) rfl ?_
     refine Wp.skip ?_
     refine sq ?_
     refine rg fun KF hKF => ?_
     refine mI rfl ?_
     refine mI rfl ?_
     refine mI rfl ?_
     refine WpO.nil (hKF _ _ ?_)
     refine sq ?_
     refine sq ?_
     refine rg fun KF hKF => ?_
     refine mB rfl ?_
     refine WpO.nil (hKF _ _ ?_)
     refine Wp.cond (b := true) rfl ?_
     refine rg fun KF hKF => ?_
     refine mI rfl ?_
     refine Fo.bin rfl rfl rfl rfl ?_
     refine mI rfl ?_
     refine Fo.bin rfl rfl rfl rfl ?_
     refine mI rfl ?_
     refine mI rfl ?_
     refine WpO.nil (hKF _ _ ?_)
     refine sq ?_
     refine sq ?_
     refine rg fun KF hKF => ?_
     refine mB rfl ?_
     refine WpO.nil (hKF _ _ ?_)
     refine Wp.cond (b := true) rfl ?_
     refine rg fun KF hKF => ?_
     refine mI rfl ?_
     refine Fo.bin rfl rfl rfl rfl ?_
     refine mI rfl ?_
     refine Fo.bin rfl rfl rfl rfl ?_
     refine mI rfl ?_
     refine mI rfl ?_
     refine WpO.nil (hKF _ _ ?_)
     refine sq ?_
     refine rg fun KF hKF => ?_
     refine mI rfl ?_
     refine mI rfl ?_
     refine Fo.pcall (v' := ?_) hn rfl (by simp only [↓nrmL, nrmZ, Nat.reduceEqDiff, ↓reduceIte, Nat.reduceAdd, Int.reduceBEq, Int.reduceBNe, e2_1, f2_1, e2_2, f2_2, e2_4, f2_4, e2_8, f2_8, e2_16, f2_16, List.map]; rfl) rfl ?hv fun _ _ => ?_; case hv => rfl
     refine Fo.extr rfl rfl ?_
     refine Fo.extr rfl rfl ?_
     refine Fo.st rfl (rfl : _ = AVal.agg _) rfl rfl rfl (by repeat (first | rfl | refine allOne_cons ?_)) (by simp only [↓nrmL, nrmZ, Nat.reduceEqDiff, ↓reduceIte, Nat.reduceAdd, Int.reduceBEq, Int.reduceBNe, e2_1, f2_1, e2_2, f2_2, e2_4, f2_4, e2_8, f2_8, e2_16, f2_16]; rfl) ?_
     refine mI rfl ?_
     refine WpO.nil (hKF _ _ ?_)
     refine Wp.ret ?_
     dsimp only [cond_true, cond_false]
     refine ⟨trivial, _, (by first | rfl | exact getAllC rfl rfl rfl rfl | exact getAllT rfl (getAllC rfl rfl rfl rfl) | exact getAllC rfl rfl rfl (getAllC rfl rfl rfl rfl) | exact getAllC1 rfl rfl rfl), ?_⟩
     exact ⟨congrArg rT (by decide +kernel : ratioS _ _ = lengthS _ _ _), Ext0.ext⟩
  ·skip
   have e4_1 : ((4 : Int) == 1) = false := rfl
   have f4_1 : ((4 : Int) != 1) = true := rfl
   have e4_2 : ((4 : Int) == 2) = false := rfl
   have f4_2 : ((4 : Int) != 2) = true := rfl
   have e4_4 : ((4 : Int) == 4) = true := rfl
   have f4_4 : ((4 : Int) != 4) = false := rfl
   have e4_8 : ((4 : Int) == 8) = false := rfl
   have f4_8 : ((4 : Int) != 8) = true := rfl
   have e4_16 : ((4 : Int) == 16) = false := rfl
   have f4_16 : ((4 : Int) != 16) = true := rfl
   cases dot
   ·cases tri
    ·skip
     try simp only [↓nrmL, nrmZ, Nat.reduceEqDiff, ↓reduceIte, Nat.reduceAdd, Int.reduceBEq, Int.reduceBNe, e4_1, f4_1, e4_2, f4_2, e4_4, f4_4, e4_8, f4_8, e4_16, f4_16]
     refine sq ?_
     refine rg fun KF hKF => ?_
     refine Fo.new ?_
     refine mI rfl ?_
     refine WpO.nil (hKF _ _ ?_)
     refine sq ?_
     refine sq ?_
     refine rg fun KF hKF => ?_
     refine mI rfl ?_
     refine WpO.nil (hKF _ _ ?_)
     refine Wp.block ?_
     refine sq ?_
     refine sq ?_
     refine rg fun KF hKF => ?_
     refine Fo.bin rfl rfl rfl (by simp only [↓nrmL, nrmZ, Nat.reduceEqDiff, ↓reduceIte, Nat.reduceAdd, Int.reduceBEq, Int.reduceBNe, e4_1, f4_1, e4_2, f4_2, e4_4, f4_4, e4_8, f4_8, e4_16, f4_16]; rfl) ?_
     refine mB rfl ?_
     refine WpO.nil (hKF _ _ ?_)
     refine Wp.cond (b := false) rfl ?_
     refine sq ?_
     refine rg fun KF hKF => ?_
     refine Fo.bin rfl rfl rfl (by simp only [↓nrmL, nrmZ, Nat.reduceEqDiff, ↓reduceIte, Nat.reduceAdd, Int.reduceBEq, Int.reduceBNe, e4_1, f4_1, e4_2, f4_2, e4_4, f4_4, e4_8, f4_8, e4_16, f4_16]; rfl) ?_
     refine mB rfl ?_
     refine WpO.nil (hKF _ _ ?_)
     refine Wp.cond (b := false) rfl ?_
     refine sq ?_
     refine rg fun KF hKF => ?_
     refine Fo.bin rfl rfl rfl (by simp only [↓nrmL, nrmZ, Nat.reduceEqDiff, ↓reduceIte, Nat.reduceAdd, Int.reduceBEq, Int.reduceBNe, e4_1, f4_1, e4_2, f4_2, e4_4, f4_4, e4_8, f4_8, e4_16, f4_16]; rfl) ?_
     refine mB rfl ?_
     refine WpO.nil (hKF _ _ ?_)
     refine Wp.cond (b := true) rfl ?_
     refine Wp.skip ?_
     refine Wp.cond (b := true) rfl ?_
     refine Wp.skip ?_
     refine sq ?_
     refine rg fun KF hKF => ?_
     refine mI rfl ?_
     refine mI rfl ?_
     refine mI rfl ?_
     refine WpO.nil (hKF _ _ ?_)
     refine sq ?_
     refine sq ?_
     refine rg fun KF hKF => ?_
     refine mB rfl ?_
     refine WpO.nil (hKF _ _ ?_)
     refine Wp.cond (b := false) rfl ?_
     refine Wp.skip ?_
     refine sq ?_
     refine sq ?_
     refine rg fun KF hKF => ?_
     refine mB rfl ?_
     refine WpO.nil (hKF _ _ ?_)
     refine Wp.cond (b := false) rfl ?_
     refine Wp.skip ?_
     refine sq ?_
     refine rg fun KF hKF => ?_
     refine mI rfl ?_
     refine mI rfl ?_
     refine Fo.pcall (v' := ?_) hn rfl (by simp only [↓nrmL, nrmZ, Nat.reduceEqDiff, ↓reduceIte, Nat.reduceAdd, Int.reduceBEq, Int.reduceBNe, e4_1, f4_1, e4_2, f4_2, e4_4, f4_4, e4_8, f4_8, e4_16, f4_16, List.map]; rfl) rfl ?hv fun _ _ => ?_; case hv => rfl
     refine Fo.extr rfl rfl ?_
     refine Fo.extr rfl rfl ?_
     refine Fo.st rfl (rfl : _ = AVal.agg _) rfl rfl rfl (by repeat (first | rfl | refine allOne_cons ?_)) (by simp only [↓nrmL, nrmZ, Nat.reduceEqDiff, ↓reduceIte, Nat.reduceAdd, Int.reduceBEq, Int.reduceBNe, e4_1, f4_1, e4_2, f4_2, e4_4, f4_4, e4_8, f4_8, e4_16, f4_16]; rfl) ?_
     refine mI rfl ?_
     refine WpO.nil (hKF _ _ ?_)
     refine Wp.ret ?_
     dsimp only [cond_true, cond_false]
     refine ⟨trivial, _, (by first | rfl | exact getAllC rfl rfl rfl rfl | exact getAllT rfl (getAllC rfl rfl rfl rfl) | exact getAllC rfl rfl rfl (getAllC rfl rfl rfl rfl) | exact getAllC1 rfl rfl rfl), ?_⟩
     exact ⟨congrArg rT (by decide +kernel : ratioS _ _ = lengthS _ _ _), Ext0.ext⟩
    ·skip
     try simp only [↓nrmL, nrmZ, Nat.reduceEqDiff, ↓reduceIte, Nat.reduceAdd, Int.reduceBEq, Int.reduceBNe, e4_1, f4_1, e4_2, f4_2, e4_4, f4_4, e4_8, f4_8, e4_16, f4_16]
     refine sq ?_
     refine rg fun KF hKF => ?_
     refine Fo.new ?_
     refine mI rfl ?_
     refine WpO.nil (hKF _ _ ?_)
     refine sq ?_
     refine sq ?_
     refine rg fun KF hKF => ?_
     refine mI rfl ?_
     refine WpO.nil (hKF _ _ ?_)
     refine Wp.block ?_
     refine sq ?_
     refine sq ?_
     refine rg fun KF hKF => ?_
     refine Fo.bin rfl rfl rfl (by simp only [↓nrmL, nrmZ, Nat.reduceEqDiff, ↓reduceIte, Nat.reduceAdd, Int.reduceBEq, Int.reduceBNe, e4_1, f4_1, e4_2, f4_2, e4_4, f4_4, e4_8, f4_8, e4_16, f4_16]; rfl) ?_
     refine mB rfl ?_
     refine WpO.nil (hKF _ _ ?_)
     refine Wp.cond (b := false) rfl ?_
     refine sq ?_
     refine rg fun KF hKF => ?_
     refine Fo.bin rfl rfl rfl (by simp only [↓nrmL, nrmZ, Nat.reduceEqDiff, ↓reduceIte, Nat.reduceAdd, Int.reduceBEq, Int.reduceBNe, e4_1, f4_1, e4_2, f4_2, e4_4, f4_4, e4_8, f4_8, e4_16, f4_16]; rfl) ?_
     refine mB rfl ?_
     refine WpO.nil (hKF _ _ ?_)
     refine Wp.cond (b := false) rfl ?_
     refine sq ?_
     refine rg fun KF hKF => ?_
     refine Fo.bin rfl rfl rfl (by simp only [↓nrmL, nrmZ, Nat.reduceEqDiff, ↓reduceIte, Nat.reduceAdd, Int.reduceBEq, Int.reduceBNe, e4_1, f4_1, e4_2, f4_2, e4_4, f4_4, e4_8, f4_8, e4_16, f4_16]; rfl) ?_
     refine mB rfl ?_
     refine WpO.nil (hKF _ _ ?_)
     refine Wp.cond (b := true) rfl ?_
     refine Wp.skip ?_
     refine Wp.cond (b := true) rfl ?_
     refine Wp.skip ?_
     refine sq ?_
     refine rg fun KF hKF => ?_
     refine mI rfl ?_
     refine mI rfl ?_
     refine mI rfl ?_
     refine WpO.nil (hKF _ _ ?_)
     refine sq ?_
     refine sq ?_
     refine rg fun KF hKF => ?_
     refine mB rfl ?_
     refine WpO.nil (hKF _ _ ?_)
     refine Wp.cond (b := false) rfl ?_
     refine Wp.skip ?_
     refine sq ?_
     refine sq ?_
     refine rg fun KF hKF => ?_
     refine mB rfl ?_
     refine WpO.nil (hKF _ _ ?_)
     refine Wp.cond (b := true) rfl ?_
     refine rg fun KF hKF => ?_
     refine mI rfl ?_
     refine Fo.bin rfl rfl rfl rfl ?_
     refine mI rfl ?_
     refine Fo.bin rfl rfl rfl rfl ?_
     refine mI rfl ?_
     refine mI rfl ?_
     refine WpO.nil (hKF _ _ ?_)
     refine sq ?_
     refine rg fun KF hKF => ?_
     refine mI rfl ?_
     refine mI rfl ?_
     refine Fo.pcall (v' := ?_) hn rfl (by simp only [↓nrmL, nrmZ, Nat.reduceEqDiff, ↓reduceIte, Nat.reduceAdd, Int.reduceBEq, Int.reduceBNe, e4_1, f4_1, e4_2, f4_2, e4_4, f4_4, e4_8, f4_8, e4_16, f4_16, List.map]; rfl) rfl ?hv fun _ _ => ?_; case hv => rfl
     refine Fo.extr rfl rfl ?_
     refine Fo.extr rfl rfl ?_
     refine Fo.st rfl (rfl : _ = AVal.agg _) rfl rfl rfl (by repeat (first | rfl | refine allOne_cons ?_)) (by simp only [↓nrmL, nrmZ, Nat.reduceEqDiff, ↓reduceIte, Nat.reduceAdd, Int.reduceBEq, Int.reduceBNe, e4_1, f4_1, e4_2, f4_2, e4_4, f4_4, e4_8, f4_8, e4_16, f4_16]; rfl) ?_
     refine mI rfl ?_
     refine WpO.nil (hKF _ _ ?_)
     refine Wp.ret ?_
     dsimp only [cond_true, cond_false]
     refine ⟨trivial, _, (by first | rfl | exact getAllC rfl rfl rfl rfl | exact getAllT rfl (getAllC rfl rfl rfl rfl) | exact getAllC rfl rfl rfl (getAllC rfl rfl rfl rfl) | exact getAllC1 rfl rfl rfl), ?_⟩
     exact ⟨congrArg rT (by decide +kernel : ratioS _ _ = lengthS _ _ _), Ext0.ext⟩
   ·cases tri
    ·skip
     try simp only [↓nrmL, nrmZ, Nat.reduceEqDiff, ↓reduceIte, Nat.reduceAdd, Int.reduceBEq, Int.reduceBNe, e4_1, f4_1, e4_2, f4_2, e4_4, f4_4, e4_8, f4_8, e4_16, f4_16]
     refine sq ?_
     refine rg fun KF hKF => ?_
     refine Fo.new ?_
     refine mI rfl ?_
     refine WpO.nil (hKF _ _ ?_)
     refine sq ?_
     refine sq ?_
     refine rg fun KF hKF => ?_
     refine mI rfl ?_
     refine WpO.nil (hKF _ _ ?_)
     refine Wp.block ?_
     refine sq ?_
     refine sq ?_
     refine rg fun KF hKF => ?_
     refine Fo.bin rfl rfl rfl (by simp only [↓nrmL, nrmZ, Nat.reduceEqDiff, ↓reduceIte, Nat.reduceAdd, Int.reduceBEq, Int.reduceBNe, e4_1, f4_1, e4_2, f4_2, e4_4, f4_4, e4_8, f4_8, e4_16, f4_16]; rfl) ?_
     refine mB rfl ?_
     refine WpO.nil (hKF _ _ ?_)
     refine Wp.cond (b := false) rfl ?_
     refine sq ?_
     refine rg fun KF hKF => ?_
     refine Fo.bin rfl rfl rfl (by simp only [↓nrmL, nrmZ, Nat.reduceEqDiff, ↓reduceIte, Nat.reduceAdd, Int.reduceBEq, Int.reduceBNe, e4_1, f4_1, e4_2, f4_2, e4_4, f4_4, e4_8, f4_8, e4_16, f4_16]; rfl) ?_
     refine mB rfl ?_
     refine WpO.nil (hKF _ _ ?_)
     refine Wp.cond (b := false) rfl ?_
     refine sq ?_
     refine rg fun KF hKF => ?_
     refine Fo.bin rfl rfl rfl (by simp only [↓nrmL, nrmZ, Nat.reduceEqDiff, ↓reduceIte, Nat.reduceAdd, Int.reduceBEq, Int.reduceBNe, e4_1, f4_1, e4_2, f4_2, e4_4, f4_4, e4_8, f4_8, e4_16, f4_16]; rfl) ?_
     refine mB rfl ?_
     refine WpO.nil (hKF _ _ ?_)
     refine Wp.cond (b := true) rfl ?_
     refine Wp.skip ?_
     refine Wp.cond (b := true) rfl ?_
     refine Wp.skip ?_
     refine sq ?_
     refine rg fun KF hKF => ?_
     refine mI rfl ?_
     refine mI rfl ?_
     refine mI rfl ?_
     refine WpO.nil (hKF _ _ ?_)
     refine sq ?_
     refine sq ?_
     refine rg fun KF hKF => ?_
     refine mB rfl ?_
     refine WpO.nil (hKF _ _ ?_)
     refine Wp.cond (b := true) rfl ?_
     refine rg fun KF hKF => ?_
     refine mI rfl ?_
     refine Fo.bin rfl rfl rfl rfl ?_
     refine mI rfl ?_
     refine Fo.bin rfl rfl rfl rfl ?_
     refine mI rfl ?_
     refine mI rfl ?_
     refine WpO.nil (hKF _ _ ?_)
     refine sq ?_
     refine sq ?_
     refine rg fun KF hKF => ?_
     refine mB rfl ?_
     refine WpO.nil (hKF _ _ ?_)
     refine Wp.cond (b := false) rfl ?_
     refine Wp.skip ?_
     refine sq ?_
     refine rg fun KF hKF => ?_
     refine mI rfl ?_
     refine mI rfl ?_
     refine Fo.pcall (v' := ?_) hn rfl (by simp only [↓nrmL, nrmZ, Nat.reduceEqDiff, ↓reduceIte, Nat.reduceAdd, Int.reduceBEq, Int.reduceBNe, e4_1, f4_1, e4_2, f4_2, e4_4, f4_4, e4_8, f4_8, e4_16, f4_16, List.map]; rfl) rfl ?hv fun _ _ => ?_; case hv => rfl
     refine Fo.extr rfl rfl ?_
     refine Fo.extr rfl rfl ?_
     refine Fo.st rfl (rfl : _ = AVal.agg _) rfl rfl rfl (by repeat (first | rfl | refine allOne_cons ?_)) (by simp only [↓nrmL, nrmZ, Nat.reduceEqDiff, ↓reduceIte, Nat.reduceAdd, Int.reduceBEq, Int.reduceBNe, e4_1, f4_1, e4_2, f4_2, e4_4, f4_4, e4_8, f4_8, e4_16, f4_16]; rfl) ?_
     refine mI rfl ?_
     refine WpO.nil (hKF _ _ ?_)
     refine Wp.ret ?_
     dsimp only [cond_true, cond_false]
     refine ⟨trivial, _, (by first | rfl | exact getAllC rfl rfl rfl rfl | exact getAllT rfl (getAllC rfl rfl rfl rfl) | exact getAllC rfl rfl rfl (getAllC rfl rfl rfl rfl) | exact getAllC1 rfl rfl rfl), ?_⟩
     exact ⟨congrArg rT (by decide +kernel : ratioS _ _ = lengthS _ _ _), Ext0.ext⟩
    ·skip
     try simp only [↓nrmL, nrmZ, Nat.reduceEqDiff, ↓reduceIte, Nat.reduceAdd, Int.reduceBEq, Int.reduceBNe, e4_1, f4_1, e4_2, f4_2, e4_4, f4_4, e4_8, f4_8, e4_16, f4_16]
     refine sq ?_
     refine rg fun KF hKF => ?_
     refine Fo.new ?_
     refine mI rfl ?_
     refine WpO.nil (hKF _ _ ?_)
     refine sq ?_
     refine sq ?_
     refine rg fun KF hKF => ?_
     refine mI rfl ?_
     refine WpO.nil (hKF _ _ ?_)
     refine Wp.block ?_
     refine sq ?_
     refine sq ?_
     refine rg fun KF hKF => ?_
     refine Fo.bin rfl rfl rfl (by simp only [↓nrmL, nrmZ, Nat.reduceEqDiff, ↓reduceIte, Nat.reduceAdd, Int.reduceBEq, Int.reduceBNe, e4_1, f4_1, e4_2, f4_2, e4_4, f4_4, e4_8, f4_8, e4_16, f4_16]; rfl) ?_
     refine mB rfl ?_
     refine WpO.nil (hKF _ _ ?_)
     refine Wp.cond (b := false) rfl ?_
     refine sq ?_
     refine rg fun KF hKF => ?_
     refine Fo.bin rfl rfl rfl (by simp only [↓nrmL, nrmZ, Nat.reduceEqDiff, ↓reduceIte, Nat.reduceAdd, Int.reduceBEq, Int.reduceBNe, e4_1, f4_1, e4_2, f4_2, e4_4, f4_4, e4_8, f4_8, e4_16, f4_16]; rfl) ?_
     refine mB rfl ?_
     refine WpO.nil (hKF _ _ ?_)
     refine Wp.cond (b := false) rfl ?_
     refine sq ?_
     refine rg fun KF hKF => ?_
     refine Fo.bin rfl rfl rfl (by simp only [↓nrmL, nrmZ, Nat.reduceEqDiff, ↓reduceIte, Nat.reduceAdd, Int.reduceBEq, Int.reduceBNe, e4_1, f4_1, e4_2, f4_2, e4_4, f4_4, e4_8, f4_8, e4_16, f4_16]; rfl) ?_
     refine mB rfl ?_
     refine WpO.nil (hKF _ _ ?_)
     refine Wp.cond (b := true) rfl ?_
     refine Wp.skip ?_
     refine Wp.cond (b := true) rfl ?_
     refine Wp.skip ?_
     refine sq ?_
     refine rg fun KF hKF => ?_
     refine mI rfl ?_
     refine mI rfl ?_
     refine mI rfl ?_
     refine WpO.nil (hKF _ _ ?_)
     refine sq ?_
     refine sq ?_
     refine rg fun KF hKF => ?_
     refine mB rfl ?_
     refine WpO.nil (hKF _ _ ?_)
     refine Wp.cond (b := true) rfl ?_
     refine rg fun KF hKF => ?_
     refine mI rfl ?_
     refine Fo.bin rfl rfl rfl rfl ?_
     refine mI rfl ?_
     refine Fo.bin rfl rfl rfl rfl ?_
     refine mI rfl ?_
     refine mI rfl ?_
     refine WpO.nil (hKF _ _ ?_)
     refine sq ?_
     refine sq ?_
     refine rg fun KF hKF => ?_
     refine mB rfl ?_
     refine WpO.nil (hKF _ _ ?_)
     refine Wp.cond (b := true) rfl ?_
     refine rg fun KF hKF => ?_
     refine mI rfl ?_
     refine Fo.bin rfl rfl rfl rfl ?_
     refine mI rfl ?_
     refine Fo.bin rfl rfl rfl rfl ?_
     refine mI rfl ?_
     refine mI rfl ?_
     refine WpO.nil (hKF _ _ ?_)
     refine sq ?_
     refine rg fun KF hKF => ?_
     refine mI rfl ?_
     refine mI rfl ?_
     refine Fo.pcall (v' := ?_) hn rfl (by simp only [↓nrmL, nrmZ, Nat.reduceEqDiff, ↓reduceIte, Nat.reduceAdd, Int.reduceBEq, Int.reduceBNe, e4_1, f4_1, e4_2, f4_2, e4_4, f4_4, e4_8, f4_8, e4_16, f4_16, List.map]; rfl) rfl ?hv fun _ _ => ?_; case hv => rfl
     refine Fo.extr rfl rfl ?_
     refine Fo.extr rfl rfl ?_
     refine Fo.st rfl (rfl : _ = AVal.agg _) rfl rfl rfl (by repeat (first | rfl | refine allOne_cons ?_)) (by simp only [↓nrmL, nrmZ, Nat.reduceEqDiff, ↓reduceIte, Nat.reduceAdd, Int.reduceBEq, Int.reduceBNe, e4_1, f4_1, e4_2, f4_2, e4_4, f4_4, e4_8, f4_8, e4_16, f4_16]; rfl) ?_
     refine mI rfl ?_
     refine WpO.nil (hKF _ _ ?_)
     refine Wp.ret ?_
     dsimp only [cond_true, cond_false]
     refine ⟨trivial, _, (by first | rfl | exact getAllC rfl rfl rfl rfl | exact getAllT rfl (getAllC rfl rfl rfl rfl) | exact getAllC rfl rfl rfl (getAllC rfl rfl rfl rfl) | exact getAllC1 rfl rfl rfl), ?_⟩
     exact ⟨congrArg rT (by decide +kernel : ratioS _ _ = lengthS _ _ _), Ext0.ext⟩
  ·skip
   have e8_1 : ((8 : Int) == 1) = false := rfl
   have f8_1 : ((8 : Int) != 1) = true := rfl
   have e8_2 : ((8 : Int) == 2) = false := rfl
   have f8_2 : ((8 : Int) != 2) = true := rfl
   have e8_4 : ((8 : Int) == 4) = false := rfl
   have f8_4 : ((8 : Int) != 4) = true := rfl
   have e8_8 : ((8 : Int) == 8) = true := rfl
   have f8_8 : ((8 : Int) != 8) = false := rfl
   have e8_16 : ((8 : Int) == 16) = false := rfl
   have f8_16 : ((8 : Int) != 16) = true := rfl
   cases dot
   ·cases tri
    ·skip
     try simp only [↓nrmL, nrmZ, Nat.reduceEqDiff, ↓reduceIte, Nat.reduceAdd, Int.reduceBEq, Int.reduceBNe, e8_1, f8_1, e8_2, f8_2, e8_4, f8_4, e8_8, f8_8, e8_16, f8_16]
     refine sq ?_
     refine rg fun KF hKF => ?_
     refine Fo.new ?_
     refine mI rfl ?_
     refine WpO.nil (hKF _ _ ?_)
     refine sq ?_
     refine sq ?_
     refine rg fun KF hKF => ?_
     refine mI rfl ?_
     refine WpO.nil (hKF _ _ ?_)
     refine Wp.block ?_
     refine sq ?_
     refine sq ?_
     refine rg fun KF hKF => ?_
     refine Fo.bin rfl rfl rfl (by simp only [↓nrmL, nrmZ, Nat.reduceEqDiff, ↓reduceIte, Nat.reduceAdd, Int.reduceBEq, Int.reduceBNe, e8_1, f8_1, e8_2, f8_2, e8_4, f8_4, e8_8, f8_8, e8_16, f8_16]; rfl) ?_
     refine mB rfl ?_
     refine WpO.nil (hKF _ _ ?_)
     refine Wp.cond (b := false) rfl ?_
     refine sq ?_
     refine rg fun KF hKF => ?_
     refine Fo.bin rfl rfl rfl (by simp only [↓nrmL, nrmZ, Nat.reduceEqDiff, ↓reduceIte, Nat.reduceAdd, Int.reduceBEq, Int.reduceBNe, e8_1, f8_1, e8_2, f8_2, e8_4, f8_4, e8_8, f8_8, e8_16, f8_16]; rfl) ?_
     refine mB rfl ?_
     refine WpO.nil (hKF _ _ ?_)
     refine Wp.cond (b := false) rfl ?_
     refine sq ?_
     refine rg fun KF hKF => ?_
     refine Fo.bin rfl rfl rfl (by simp only [↓nrmL, nrmZ, Nat.reduceEqDiff, ↓reduceIte, Nat.reduceAdd, Int.reduceBEq, Int.reduceBNe, e8_1, f8_1, e8_2, f8_2, e8_4, f8_4, e8_8, f8_8, e8_16, f8_16]; rfl) ?_
     refine mB rfl ?_
     refine WpO.nil (hKF _ _ ?_)
     refine Wp.cond (b := false) rfl ?_
     refine sq ?_
     refine rg fun KF hKF => ?_
     refine Fo.bin rfl rfl rfl (by simp only [↓nrmL, nrmZ, Nat.reduceEqDiff, ↓reduceIte, Nat.reduceAdd, Int.reduceBEq, Int.reduceBNe, e8_1, f8_1, e8_2, f8_2, e8_4, f8_4, e8_8, f8_8, e8_16, f8_16]; rfl) ?_
     refine mB rfl ?_
     refine WpO.nil (hKF _ _ ?_)
     refine Wp.cond (b := true) rfl ?_
     refine Wp.skip ?_
     refine Wp.cond (b := true) rfl ?_
     refine Wp.skip ?_
     refine sq ?_
     refine rg fun KF hKF => ?_
     refine mI rfl ?_
     refine mI rfl ?_
     refine mI rfl ?_
     refine WpO.nil (hKF _ _ ?_)
     refine sq ?_
     refine sq ?_
     refine rg fun KF hKF => ?_
     refine mB rfl ?_
     refine WpO.nil (hKF _ _ ?_)
     refine Wp.cond (b := false) rfl ?_
     refine Wp.skip ?_
     refine sq ?_
     refine sq ?_
     refine rg fun KF hKF => ?_
     refine mB rfl ?_
     refine WpO.nil (hKF _ _ ?_)
     refine Wp.cond (b := false) rfl ?_
     refine Wp.skip ?_
     refine sq ?_
     refine rg fun KF hKF => ?_
     refine mI rfl ?_
     refine mI rfl ?_
     refine Fo.pcall (v' := ?_) hn rfl (by simp only [↓nrmL, nrmZ, Nat.reduceEqDiff, ↓reduceIte, Nat.reduceAdd, Int.reduceBEq, Int.reduceBNe, e8_1, f8_1, e8_2, f8_2, e8_4, f8_4, e8_8, f8_8, e8_16, f8_16, List.map]; rfl) rfl ?hv fun _ _ => ?_; case hv => rfl
     refine Fo.extr rfl rfl ?_
     refine Fo.extr rfl rfl ?_
     refine Fo.st rfl (rfl : _ = AVal.agg _) rfl rfl rfl (by repeat (first | rfl | refine allOne_cons ?_)) (by simp only [↓nrmL, nrmZ, Nat.reduceEqDiff, ↓reduceIte, Nat.reduceAdd, Int.reduceBEq, Int.reduceBNe, e8_1, f8_1, e8_2, f8_2, e8_4, f8_4, e8_8, f8_8, e8_16, f8_16]; rfl) ?_
     refine mI rfl ?_
     refine WpO.nil (hKF _ _ ?_)
     refine Wp.ret ?_
     dsimp only [cond_true, cond_false]
     refine ⟨trivial, _, (by first | rfl | exact getAllC rfl rfl rfl rfl | exact getAllT rfl (getAllC rfl rfl rfl rfl) | exact getAllC rfl rfl rfl (getAllC rfl rfl rfl rfl) | exact getAllC1 rfl rfl rfl), ?_⟩
     exact ⟨congrArg rT (by decide +kernel : ratioS _ _ = lengthS _ _ _), Ext0.ext⟩
    ·skip
     try simp only [↓nrmL, nrmZ, Nat.reduceEqDiff, ↓reduceIte, Nat.reduceAdd, Int.reduceBEq, Int.reduceBNe, e8_1, f8_1, e8_2, f8_2, e8_4, f8_4, e8_8, f8_8, e8_16, f8_16]
     refine sq ?_
     refine rg fun KF hKF => ?_
     refine Fo.new ?_
     refine mI rfl ?_
     refine WpO.nil (hKF _ _ ?_)
     refine sq ?_
     refine sq ?_
     refine rg fun KF hKF => ?_
     refine mI rfl ?_
     refine WpO.nil (hKF _ _ ?_)
     refine Wp.block ?_
     refine sq ?_
     refine sq ?_
     refine rg fun KF hKF => ?_
     refine Fo.bin rfl rfl rfl (by simp only [↓nrmL, nrmZ, Nat.reduceEqDiff, ↓reduceIte, Nat.reduceAdd, Int.reduceBEq, Int.reduceBNe, e8_1, f8_1, e8_2, f8_2, e8_4, f8_4, e8_8, f8_8, e8_16, f8_16]; rfl) ?_
     refine mB rfl ?_
     refine WpO.nil (hKF _ _ ?_)
     refine Wp.cond (b := false) rfl ?_
     refine sq ?_
     refine rg fun KF hKF => ?_
     refine Fo.bin rfl rfl rfl (by simp only [↓nrmL, nrmZ, Nat.reduceEqDiff, ↓reduceIte, Nat.reduceAdd, Int.reduceBEq, Int.reduceBNe, e8_1, f8_1, e8_2, f8_2, e8_4, f8_4, e8_8, f8_8, e8_16, f8_16]; rfl) ?_
     refine mB rfl ?_
     refine WpO.nil (hKF _ _ ?_)
     refine Wp.cond (b := false) rfl ?_
     refine sq ?_
     refine rg fun KF hKF => ?_
     refine Fo.bin rfl rfl rfl (by simp only [↓nrmL, nrmZ, Nat.reduceEqDiff, ↓reduceIte, Nat.reduceAdd, Int.reduceBEq, Int.reduceBNe, e8_1, f8_1, e8_2, f8_2, e8_4, f8_4, e8_8, f8_8, e8_16, f8_16]; rfl) ?_
     refine mB rfl ?_
     refine WpO.nil (hKF _ _ ?_)
     refine Wp.cond (b := false) rfl ?_
     refine sq ?_
     refine rg fun KF hKF => ?_
     refine Fo.bin rfl rfl rfl (by simp only [↓nrmL, nrmZ, Nat.reduceEqDiff, ↓reduceIte, Nat.reduceAdd, Int.reduceBEq, Int.reduceBNe, e8_1, f8_1, e8_2, f8_2, e8_4, f8_4, e8_8, f8_8, e8_16, f8_16]; rfl) ?_
     refine mB rfl ?_
     refine WpO.nil (hKF _ _ ?_)
     refine Wp.cond (b := true) rfl ?_
     refine Wp.skip ?_
     refine Wp.cond (b := true) rfl ?_
     refine Wp.skip ?_
     refine sq ?_
     refine rg fun KF hKF => ?_
     refine mI rfl ?_
     refine mI rfl ?_
     refine mI rfl ?_
     refine WpO.nil (hKF _ _ ?_)
     refine sq ?_
     refine sq ?_
     refine rg fun KF hKF => ?_
     refine mB rfl ?_
     refine WpO.nil (hKF _ _ ?_)
     refine Wp.cond (b := false) rfl ?_
     refine Wp.skip ?_
     refine sq ?_
     refine sq ?_
     refine rg fun KF hKF => ?_
     refine mB rfl ?_
     refine WpO.nil (hKF _ _ ?_)
     refine Wp.cond (b := true) rfl ?_
     refine rg fun KF hKF => ?_
     refine mI rfl ?_
     refine Fo.bin rfl rfl rfl rfl ?_
     refine mI rfl ?_
     refine Fo.bin rfl rfl rfl rfl ?_
     refine mI rfl ?_
     refine mI rfl ?_
     refine WpO.nil (hKF _ _ ?_)
     refine sq ?_
     refine rg fun KF hKF => ?_
     refine mI rfl ?_
     refine mI rfl ?_
     refine Fo.pcall (v' := ?_) hn rfl (by simp only [↓nrmL, nrmZ, Nat.reduceEqDiff, ↓reduceIte, Nat.reduceAdd, Int.reduceBEq, Int.reduceBNe, e8_1, f8_1, e8_2, f8_2, e8_4, f8_4, e8_8, f8_8, e8_16, f8_16, List.map]; rfl) rfl ?hv fun _ _ => ?_; case hv => rfl
     refine Fo.extr rfl rfl ?_
     refine Fo.extr rfl rfl ?_
     refine Fo.st rfl (rfl : _ = AVal.agg _) rfl rfl rfl (by repeat (first | rfl | refine allOne_cons ?_)) (by simp only [↓nrmL, nrmZ, Nat.reduceEqDiff, ↓reduceIte, Nat.reduceAdd, Int.reduceBEq, Int.reduceBNe, e8_1, f8_1, e8_2, f8_2, e8_4, f8_4, e8_8, f8_8, e8_16, f8_16]; rfl) ?_
     refine mI rfl ?_
     refine WpO.nil (hKF _ _ ?_)
     refine Wp.ret ?_
     dsimp only [cond_true, cond_false]
     refine ⟨trivial, _, (by first | rfl | exact getAllC rfl rfl rfl rfl | exact getAllT rfl (getAllC rfl rfl rfl rfl) | exact getAllC rfl rfl rfl (getAllC rfl rfl rfl rfl) | exact getAllC1 rfl rfl rfl), ?_⟩
     exact ⟨congrArg rT (by decide +kernel : ratioS _ _ = lengthS _ _ _), Ext0.ext⟩
   ·cases tri
    ·skip
     try simp only [↓nrmL, nrmZ, Nat.reduceEqDiff, ↓reduceIte, Nat.reduceAdd, Int.reduceBEq, Int.reduceBNe, e8_1, f8_1, e8_2, f8_2, e8_4, f8_4, e8_8, f8_8, e8_16, f8_16]
     refine sq ?_
     refine rg fun KF hKF => ?_
     refine Fo.new ?_
     refine mI rfl ?_
     refine WpO.nil (hKF _ _ ?_)
     refine sq ?_
     refine sq ?_
     refine rg fun KF hKF => ?_
     refine mI rfl ?_
     refine WpO.nil (hKF _ _ ?_)
     refine Wp.block ?_
     refine sq ?_
     refine sq ?_
     refine rg fun KF hKF => ?_
     refine Fo.bin rfl rfl rfl (by simp only [↓nrmL, nrmZ, Nat.reduceEqDiff, ↓reduceIte, Nat.reduceAdd, Int.reduceBEq, Int.reduceBNe, e8_1, f8_1, e8_2, f8_2, e8_4, f8_4, e8_8, f8_8, e8_16, f8_16]; rfl) ?_
     refine mB rfl ?_
     refine WpO.nil (hKF _ _ ?_)
     refine Wp.cond (b := false) rfl ?_
     refine sq ?_
     refine rg fun KF hKF => ?_
     refine Fo.bin rfl rfl rfl (by simp only [↓nrmL, nrmZ, Nat.reduceEqDiff, ↓reduceIte, Nat.reduceAdd, Int.reduceBEq, Int.reduceBNe, e8_1, f8_1, e8_2, f8_2, e8_4, f8_4, e8_8, f8_8, e8_16, f8_16]; rfl) ?_
     refine mB rfl ?_
     refine WpO.nil (hKF _ _ ?_)
     refine Wp.cond (b := false) rfl ?_
     refine sq ?_
     refine rg fun KF hKF => ?_
     refine Fo.bin rfl rfl rfl (by simp only [↓nrmL, nrmZ, Nat.reduceEqDiff, ↓reduceIte, Nat.reduceAdd, Int.reduceBEq, Int.reduceBNe, e8_1, f8_1, e8_2, f8_2, e8_4, f8_4, e8_8, f8_8, e8_16, f8_16]; rfl) ?_
     refine mB rfl ?_
     refine WpO.nil (hKF _ _ ?_)
     refine Wp.cond (b := false) rfl ?_
     refine sq ?_
     refine rg fun KF hKF => ?_
     refine Fo.bin rfl rfl rfl (by simp only [↓nrmL, nrmZ, Nat.reduceEqDiff, ↓reduceIte, Nat.reduceAdd, Int.reduceBEq, Int.reduceBNe, e8_1, f8_1, e8_2, f8_2, e8_4, f8_4, e8_8, f8_8, e8_16, f8_16]; rfl) ?_
     refine mB rfl ?_
     refine WpO.nil (hKF _ _ ?_)
     refine Wp.cond (b := true) rfl ?_
     refine Wp.skip ?_
     refine Wp.cond (b := true) rfl ?_
     refine Wp.skip ?_
     refine sq ?_
     refine rg fun KF hKF => ?_
     refine mI rfl ?_
     refine mI rfl ?_
     refine mI rfl ?_
     refine WpO.nil (hKF _ _ ?_)
     refine sq ?_
     refine sq ?_
     refine rg fun KF hKF => ?_
     refine mB rfl ?_
     refine WpO.nil (hKF _ _ ?_)
     refine Wp.cond (b := true) rfl ?_
     refine rg fun KF hKF => ?_
     refine mI rfl ?_
     refine Fo.bin rfl rfl rfl rfl ?_
     refine mI rfl ?_
     refine Fo.bin rfl rfl rfl rfl ?_
     refine mI rfl ?_
     refine mI rfl ?_
     refine WpO.nil (hKF _ _ ?_)
     refine sq ?_
     refine sq ?_
     refine rg fun KF hKF => ?_
     refine mB rfl ?_
     refine WpO.nil (hKF _ _ ?_)
     refine Wp.cond (b := false) rfl ?_
     refine Wp.skip ?_
     refine sq ?_
     refine rg fun KF hKF => ?_
     refine mI rfl ?_
     refine mI rfl ?_
     refine Fo.pcall (v' := ?_) hn rfl (by simp only [↓nrmL, nrmZ, Nat.reduceEqDiff, ↓reduceIte, Nat.reduceAdd, Int.reduceBEq, Int.reduceBNe, e8_1, f8_1, e8_2, f8_2, e8_4, f8_4, e8_8, f8_8, e8_16, f8_16, List.map]; rfl) rfl ?hv fun _ _ => ?_; case hv => rfl
     refine Fo.extr rfl rfl ?_
     refine Fo.extr rfl rfl ?_
     refine Fo.st rfl (rfl : _ = AVal.agg _) rfl rfl rfl (by repeat (first | rfl | refine allOne_cons ?_)) (by simp only [↓nrmL, nrmZ, Nat.reduceEqDiff, ↓reduceIte, Nat.reduceAdd, Int.reduceBEq, Int.reduceBNe, e8_1, f8_1, e8_2, f8_2, e8_4, f8_4, e8_8, f8_8, e8_16, f8_16]; rfl) ?_
     refine mI rfl ?_
     refine WpO.nil (hKF _ _ ?_)
     refine Wp.ret ?_
     dsimp only [cond_true, cond_false]
     refine ⟨trivial, _, (by first | rfl | exact getAllC rfl rfl rfl rfl | exact getAllT rfl (getAllC rfl rfl rfl rfl) | exact getAllC rfl rfl rfl (getAllC rfl rfl rfl rfl) | exact getAllC1 rfl rfl rfl), ?_⟩
     exact ⟨congrArg rT (by decide +kernel : ratioS _ _ = lengthS _ _ _), Ext0.ext⟩
    ·skip
     try simp only [↓nrmL, nrmZ, Nat.reduceEqDiff, ↓reduceIte, Nat.reduceAdd, Int.reduceBEq, Int.reduceBNe, e8_1, f8_1, e8_2, f8_2, e8_4, f8_4, e8_8, f8_8, e8_16, f8_16]
     refine sq ?_
     refine rg fun KF hKF => ?_
     refine Fo.new ?_
     refine mI rfl ?_
     refine WpO.nil (hKF _ _ ?_)
     refine sq ?_
     refine sq ?_
     refine rg fun KF hKF => ?_
     refine mI rfl ?_
     refine WpO.nil (hKF _ _ ?_)
     refine Wp.block ?_
     refine sq ?_
     refine sq ?_
     refine rg fun KF hKF => ?_
     refine Fo.bin rfl rfl rfl (by simp only [↓nrmL, nrmZ, Nat.reduceEqDiff, ↓reduceIte, Nat.reduceAdd, Int.reduceBEq, Int.reduceBNe, e8_1, f8_1, e8_2, f8_2, e8_4, f8_4, e8_8, f8_8, e8_16, f8_16]; rfl) ?_
     refine mB rfl ?_
     refine WpO.nil (hKF _ _ ?_)
     refine Wp.cond (b := false) rfl ?_
     refine sq ?_
     refine rg fun KF hKF => ?_
     refine Fo.bin rfl rfl rfl (by simp only [↓nrmL, nrmZ, Nat.reduceEqDiff, ↓reduceIte, Nat.reduceAdd, Int.reduceBEq, Int.reduceBNe, e8_1, f8_1, e8_2, f8_2, e8_4, f8_4, e8_8, f8_8, e8_16, f8_16]; rfl) ?_
     refine mB rfl ?_
     refine WpO.nil (hKF _ _ ?_)
     refine Wp.cond (b := false) rfl ?_
     refine sq ?_
     refine rg fun KF hKF => ?_
     refine Fo.bin rfl rfl rfl (by simp only [↓nrmL, nrmZ, Nat.reduceEqDiff, ↓reduceIte, Nat.reduceAdd, Int.reduceBEq, Int.reduceBNe, e8_1, f8_1, e8_2, f8_2, e8_4, f8_4, e8_8, f8_8, e8_16, f8_16]; rfl) ?_
     refine mB rfl ?_
     refine WpO.nil (hKF _ _ ?_)
     refine Wp.cond (b := false) rfl ?_
     refine sq ?_
     refine rg fun KF hKF => ?_
     refine Fo.bin rfl rfl rfl (by simp only [↓nrmL, nrmZ, Nat.reduceEqDiff, ↓reduceIte, Nat.reduceAdd, Int.reduceBEq, Int.reduceBNe, e8_1, f8_1, e8_2, f8_2, e8_4, f8_4, e8_8, f8_8, e8_16, f8_16]; rfl) ?_
     refine mB rfl ?_
     refine WpO.nil (hKF _ _ ?_)
     refine Wp.cond (b := true) rfl ?_
     refine Wp.skip ?_
     refine Wp.cond (b := true) rfl ?_
     refine Wp.skip ?_
     refine sq ?_
     refine rg fun KF hKF => ?_
     refine mI rfl ?_
     refine mI rfl ?_
     refine mI rfl ?_
     refine WpO.nil (hKF _ _ ?_)
     refine sq ?_
     refine sq ?_
     refine rg fun KF hKF => ?_
     refine mB rfl ?_
     refine WpO.nil (hKF _ _ ?_)
     refine Wp.cond (b := true) rfl ?_
     refine rg fun KF hKF => ?_
     refine mI rfl ?_
     refine Fo.bin rfl rfl rfl rfl ?_
     refine mI rfl ?_
     refine Fo.bin rfl rfl rfl rfl ?_
     refine mI rfl ?_
     refine mI rfl ?_
     refine WpO.nil (hKF _ _ ?_)
     refine sq ?_
     refine sq ?_
     refine rg fun KF hKF => ?_
     refine mB rfl ?_
     refine WpO.nil (hKF _ _ ?_)
     refine Wp.cond (b := true) rfl ?_
     refine rg fun KF hKF => ?_
     refine mI rfl ?_
     refine Fo.bin rfl rfl rfl rfl ?_
     refine mI rfl ?_
     refine Fo.bin rfl rfl rfl rfl ?_
     refine mI rfl ?_
     refine mI rfl ?_
     refine WpO.nil (hKF _ _ ?_)
     refine sq ?_
     refine rg fun KF hKF => ?_
     refine mI rfl ?_
     refine mI rfl ?_
     refine Fo.pcall (v' := ?_) hn rfl (by simp only [↓nrmL, nrmZ, Nat.reduceEqDiff, ↓reduceIte, Nat.reduceAdd, Int.reduceBEq, Int.reduceBNe, e8_1, f8_1, e8_2, f8_2, e8_4, f8_4, e8_8, f8_8, e8_16, f8_16, List.map]; rfl) rfl ?hv fun _ _ => ?_; case hv => rfl
     refine Fo.extr rfl rfl ?_
     refine Fo.extr rfl rfl ?_
     refine Fo.st rfl (rfl : _ = AVal.agg _) rfl rfl rfl (by repeat (first | rfl | refine allOne_cons ?_)) (by simp only [↓nrmL, nrmZ, Nat.reduceEqDiff, ↓reduceIte, Nat.reduceAdd, Int.reduceBEq, Int.reduceBNe, e8_1, f8_1, e8_2, f8_2, e8_4, f8_4, e8_8, f8_8, e8_16, f8_16]; rfl) ?_
     refine mI rfl ?_
     refine WpO.nil (hKF _ _ ?_)
     refine Wp.ret ?_
     dsimp only [cond_true, cond_false]
     refine ⟨trivial, _, (by first | rfl | exact getAllC rfl rfl rfl rfl | exact getAllT rfl (getAllC rfl rfl rfl rfl) | exact getAllC rfl rfl rfl (getAllC rfl rfl rfl rfl) | exact getAllC1 rfl rfl rfl), ?_⟩
     exact ⟨congrArg rT (by decide +kernel : ratioS _ _ = lengthS _ _ _), Ext0.ext⟩
  ·skip
   have e16_1 : ((16 : Int) == 1) = false := rfl
   have f16_1 : ((16 : Int) != 1) = true := rfl
   have e16_2 : ((16 : Int) == 2) = false := rfl
   have f16_2 : ((16 : Int) != 2) = true := rfl
   have e16_4 : ((16 : Int) == 4) = false := rfl
   have f16_4 : ((16 : Int) != 4) = true := rfl
   have e16_8 : ((16 : Int) == 8) = false := rfl
   have f16_8 : ((16 : Int) != 8) = true := rfl
   have e16_16 : ((16 : Int) == 16) = true := rfl
   have f16_16 : ((16 : Int) != 16) = false := rfl
   cases dot
   ·cases tri
    ·skip
     try simp only [↓nrmL, nrmZ, Nat.reduceEqDiff, ↓reduceIte, Nat.reduceAdd, Int.reduceBEq, Int.reduceBNe, e16_1, f16_1, e16_2, f16_2, e16_4, f16_4, e16_8, f16_8, e16_16, f16_16]
     refine sq ?_
     refine rg fun KF hKF => ?_
     refine Fo.new ?_
     refine mI rfl ?_
     refine WpO.nil (hKF _ _ ?_)
     refine sq ?_
     refine sq ?_
     refine rg fun KF hKF => ?_
     refine mI rfl ?_
     refine WpO.nil (hKF _ _ ?_)
     refine Wp.block ?_
     refine sq ?_
     refine sq ?_
     refine rg fun KF hKF => ?_
     refine Fo.bin rfl rfl rfl (by simp only [↓nrmL, nrmZ, Nat.reduceEqDiff, ↓reduceIte, Nat.reduceAdd, Int.reduceBEq, Int.reduceBNe, e16_1, f16_1, e16_2, f16_2, e16_4, f16_4, e16_8, f16_8, e16_16, f16_16]; rfl) ?_
     refine mB rfl ?_
     refine WpO.nil (hKF _ _ ?_)
     refine Wp.cond (b := false) rfl ?_
     refine sq ?_
     refine rg fun KF hKF => ?_
     refine Fo.bin rfl rfl rfl (by simp only [↓nrmL, nrmZ, Nat.reduceEqDiff, ↓reduceIte, Nat.reduceAdd, Int.reduceBEq, Int.reduceBNe, e16_1, f16_1, e16_2, f16_2, e16_4, f16_4, e16_8, f16_8, e16_16, f16_16]; rfl) ?_
     refine mB rfl ?_
     refine WpO.nil (hKF _ _ ?_)
     refine Wp.cond (b := false) rfl ?_
     refine sq ?_
     refine rg fun KF hKF => ?_
     refine Fo.bin rfl rfl rfl (by simp only [↓nrmL, nrmZ, Nat.reduceEqDiff, ↓reduceIte, Nat.reduceAdd, Int.reduceBEq, Int.reduceBNe, e16_1, f16_1, e16_2, f16_2, e16_4, f16_4, e16_8, f16_8, e16_16, f16_16]; rfl) ?_
     refine mB rfl ?_
     refine WpO.nil (hKF _ _ ?_)
     refine Wp.cond (b := false) rfl ?_
     refine sq ?_
     refine rg fun KF hKF => ?_
     refine Fo.bin rfl rfl rfl (by simp only [↓nrmL, nrmZ, Nat.reduceEqDiff, ↓reduceIte, Nat.reduceAdd, Int.reduceBEq, Int.reduceBNe, e16_1, f16_1, e16_2, f16_2, e16_4, f16_4, e16_8, f16_8, e16_16, f16_16]; rfl) ?_
     refine mB rfl ?_
     refine WpO.nil (hKF _ _ ?_)
     refine Wp.cond (b := false) rfl ?_
     refine rg fun KF hKF => ?_
     refine Fo.bin rfl rfl rfl (by simp only [↓nrmL, nrmZ, Nat.reduceEqDiff, ↓reduceIte, Nat.reduceAdd, Int.reduceBEq, Int.reduceBNe, e16_1, f16_1, e16_2, f16_2, e16_4, f16_4, e16_8, f16_8, e16_16, f16_16]; rfl) ?_
     refine mB rfl ?_
     refine WpO.nil (hKF _ _ ?_)
     refine Wp.cond (b := true) rfl ?_
     refine Wp.skip ?_
     refine sq ?_
     refine rg fun KF hKF => ?_
     refine mI rfl ?_
     refine mI rfl ?_
     refine mI rfl ?_
     refine WpO.nil (hKF _ _ ?_)
     refine sq ?_
     refine sq ?_
     refine rg fun KF hKF => ?_
     refine mB rfl ?_
     refine WpO.nil (hKF _ _ ?_)
     refine Wp.cond (b := false) rfl ?_
     refine Wp.skip ?_
     refine sq ?_
     refine sq ?_
     refine rg fun KF hKF => ?_
     refine mB rfl ?_
     refine WpO.nil (hKF _ _ ?_)
     refine Wp.cond (b := false) rfl ?_
     refine Wp.skip ?_
     refine sq ?_
     refine rg fun KF hKF => ?_
     refine mI rfl ?_
     refine mI rfl ?_
     refine Fo.pcall (v' := ?_) hn rfl (by simp only [↓nrmL, nrmZ, Nat.reduceEqDiff, ↓reduceIte, Nat.reduceAdd, Int.reduceBEq, Int.reduceBNe, e16_1, f16_1, e16_2, f16_2, e16_4, f16_4, e16_8, f16_8, e16_16, f16_16, List.map]; rfl) rfl ?hv fun _ _ => ?_; case hv => rfl
     refine Fo.extr rfl rfl ?_
     refine Fo.extr rfl rfl ?_
     refine Fo.st rfl (rfl : _ = AVal.agg _) rfl rfl rfl (by repeat (first | rfl | refine allOne_cons ?_)) (by simp only [↓nrmL, nrmZ, Nat.reduceEqDiff, ↓reduceIte, Nat.reduceAdd, Int.reduceBEq, Int.reduceBNe, e16_1, f16_1, e16_2, f16_2, e16_4, f16_4, e16_8, f16_8, e16_16, f16_16]; rfl) ?_
     refine mI rfl ?_
     refine WpO.nil (hKF _ _ ?_)
     refine Wp.ret ?_
     dsimp only [cond_true, cond_false]
     refine ⟨trivial, _, (by first | rfl | exact getAllC rfl rfl rfl rfl | exact getAllT rfl (getAllC rfl rfl rfl rfl) | exact getAllC rfl rfl rfl (getAllC rfl rfl rfl rfl) | exact getAllC1 rfl rfl rfl), ?_⟩
     exact ⟨congrArg rT (by decide +kernel : ratioS _ _ = lengthS _ _ _), Ext0.ext⟩
    ·skip
     try simp only [↓nrmL, nrmZ, Nat.reduceEqDiff, ↓reduceIte, Nat.reduceAdd, Int.reduceBEq, Int.reduceBNe, e16_1, f16_1, e16_2, f16_2, e16_4, f16_4, e16_8, f16_8, e16_16, f16_16]
     refine sq ?_
     refine rg fun KF hKF => ?_
     refine Fo.new ?_
     refine mI rfl ?_
     refine WpO.nil (hKF _ _ ?_)
     refine sq ?_
     refine sq ?_
     refine rg fun KF hKF => ?_
     refine mI rfl ?_
     refine WpO.nil (hKF _ _ ?_)
     refine Wp.block ?_
     refine sq ?_
     refine sq ?_
     refine rg fun KF hKF => ?_
     refine Fo.bin rfl rfl rfl (by simp only [↓nrmL, nrmZ, Nat.reduceEqDiff, ↓reduceIte, Nat.reduceAdd, Int.reduceBEq, Int.reduceBNe, e16_1, f16_1, e16_2, f16_2, e16_4, f16_4, e16_8, f16_8, e16_16, f16_16]; rfl) ?_
     refine mB rfl ?_
     refine WpO.nil (hKF _ _ ?_)
     refine Wp.cond (b := false) rfl ?_
     refine sq ?_
     refine rg fun KF hKF => ?_
     refine Fo.bin rfl rfl rfl (by simp only [↓nrmL, nrmZ, Nat.reduceEqDiff, ↓reduceIte, Nat.reduceAdd, Int.reduceBEq, Int.reduceBNe, e16_1, f16_1, e16_2, f16_2, e16_4, f16_4, e16_8, f16_8, e16_16, f16_16]; rfl) ?_
     refine mB rfl ?_
     refine WpO.nil (hKF _ _ ?_)
     refine Wp.cond (b := false) rfl ?_
     refine sq ?_
     refine rg fun KF hKF => ?_
     refine Fo.bin rfl rfl rfl (by simp only [↓nrmL, nrmZ, Nat.reduceEqDiff, ↓reduceIte, Nat.reduceAdd, Int.reduceBEq, Int.reduceBNe, e16_1, f16_1, e16_2, f16_2, e16_4, f16_4, e16_8, f16_8, e16_16, f16_16]; rfl) ?_
     refine mB rfl ?_
     refine WpO.nil (hKF _ _ ?_)
     refine Wp.cond (b := false) rfl ?_
     refine sq ?_
     refine rg fun KF hKF => ?_
     refine Fo.bin rfl rfl rfl (by simp only [↓nrmL, nrmZ, Nat.reduceEqDiff, ↓reduceIte, Nat.reduceAdd, Int.reduceBEq, Int.reduceBNe, e16_1, f16_1, e16_2, f16_2, e16_4, f16_4, e16_8, f16_8, e16_16, f16_16]; rfl) ?_
     refine mB rfl ?_
     refine WpO.nil (hKF _ _ ?_)
     refine Wp.cond (b := false) rfl ?_
     refine rg fun KF hKF => ?_
     refine Fo.bin rfl rfl rfl (by simp only [↓nrmL, nrmZ, Nat.reduceEqDiff, ↓reduceIte, Nat.reduceAdd, Int.reduceBEq, Int.reduceBNe, e16_1, f16_1, e16_2, f16_2, e16_4, f16_4, e16_8, f16_8, e16_16, f16_16]; rfl) ?_
     refine mB rfl ?_
     refine WpO.nil (hKF _ _ ?_)
     refine Wp.cond (b := true) rfl ?_
     refine Wp.skip ?_
     refine sq ?_
     refine rg fun KF hKF => ?_
     refine mI rfl ?_
     refine mI rfl ?_
     refine mI rfl ?_
     refine WpO.nil (hKF _ _ ?_)
     refine sq ?_
     refine sq ?_
     refine rg fun KF hKF => ?_
     refine mB rfl ?_
     refine WpO.nil (hKF _ _ ?_)
     refine Wp.cond (b := false) rfl ?_
     refine Wp.skip ?_
     refine sq ?_
     refine sq ?_
     refine rg fun KF hKF => ?_
     refine mB rfl ?_
     refine WpO.nil (hKF _ _ ?_)
     refine Wp.cond (b := true) rfl ?_
     refine rg fun KF hKF => ?_
     refine mI rfl ?_
     refine Fo.bin rfl rfl rfl rfl ?_
     refine mI rfl ?_
     refine Fo.bin rfl rfl rfl rfl ?_
     refine mI rfl ?_
     refine mI rfl ?_
     refine WpO.nil (hKF _ _ ?_)
     refine sq ?_
     refine rg fun KF hKF => ?_
     refine mI rfl ?_
     refine mI rfl ?_
     refine Fo.pcall (v' := ?_) hn rfl (by simp only [↓nrmL, nrmZ, Nat.reduceEqDiff, ↓reduceIte, Nat.reduceAdd, Int.reduceBEq, Int.reduceBNe, e16_1, f16_1, e16_2, f16_2, e16_4, f16_4, e16_8, f16_8, e16_16, f16_16, List.map]; rfl) rfl ?hv fun _ _ => ?_; case hv => rfl
     refine Fo.extr rfl rfl ?_
     refine Fo.extr rfl rfl ?_
     refine Fo.st rfl (rfl : _ = AVal.agg _) rfl rfl rfl (by repeat (first | rfl | refine allOne_cons ?_)) (by simp only [↓nrmL, nrmZ, Nat.reduceEqDiff, ↓reduceIte, Nat.reduceAdd, Int.reduceBEq, Int.reduceBNe, e16_1, f16_1, e16_2, f16_2, e16_4, f16_4, e16_8, f16_8, e16_16, f16_16]; rfl) ?_
     refine mI rfl ?_
     refine WpO.nil (hKF _ _ ?_)
     refine Wp.ret ?_
     dsimp only [cond_true, cond_false]
     refine ⟨trivial, _, (by first | rfl | exact getAllC rfl rfl rfl rfl | exact getAllT rfl (getAllC rfl rfl rfl rfl) | exact getAllC rfl rfl rfl (getAllC rfl rfl rfl rfl) | exact getAllC1 rfl rfl rfl), ?_⟩
     exact ⟨congrArg rT (by decide +kernel : ratioS _ _ = lengthS _ _ _), Ext0.ext⟩
   ·cases tri
    ·skip
     try simp only [↓nrmL, nrmZ, Nat.reduceEqDiff, ↓reduceIte, Nat.reduceAdd, Int.reduceBEq, Int.reduceBNe, e16_1, f16_1, e16_2, f16_2, e16_4, f16_4, e16_8, f16_8, e16_16, f16_16]
     refine sq ?_
     refine rg fun KF hKF => ?_
     refine Fo.new ?_
     refine mI rfl ?_
     refine WpO.nil (hKF _ _ ?_)
     refine sq ?_
     refine sq ?_
     refine rg fun KF hKF => ?_
     refine mI rfl ?_
     refine WpO.nil (hKF _ _ ?_)
     refine Wp.block ?_
     refine sq ?_
     refine sq ?_
     refine rg fun KF hKF => ?_
     refine Fo.bin rfl rfl rfl (by simp only [↓nrmL, nrmZ, Nat.reduceEqDiff, ↓reduceIte, Nat.reduceAdd, Int.reduceBEq, Int.reduceBNe, e16_1, f16_1, e16_2, f16_2, e16_4, f16_4, e16_8, f16_8, e16_16, f16_16]; rfl) ?_
     refine mB rfl ?_
     refine WpO.nil (hKF _ _ ?_)
     refine Wp.cond (b := false) rfl ?_
     refine sq ?_
     refine rg fun KF hKF => ?_
     refine Fo.bin rfl rfl rfl (by simp only [↓nrmL, nrmZ, Nat.reduceEqDiff, ↓reduceIte, Nat.reduceAdd, Int.reduceBEq, Int.reduceBNe, e16_1, f16_1, e16_2, f16_2, e16_4, f16_4, e16_8, f16_8, e16_16, f16_16]; rfl) ?_
     refine mB rfl ?_
     refine WpO.nil (hKF _ _ ?_)
     refine Wp.cond (b := false) rfl ?_
     refine sq ?_
     refine rg fun KF hKF => ?_
     refine Fo.bin rfl rfl rfl (by simp only [↓nrmL, nrmZ, Nat.reduceEqDiff, ↓reduceIte, Nat.reduceAdd, Int.reduceBEq, Int.reduceBNe, e16_1, f16_1, e16_2, f16_2, e16_4, f16_4, e16_8, f16_8, e16_16, f16_16]; rfl) ?_
     refine mB rfl ?_
     refine WpO.nil (hKF _ _ ?_)
     refine Wp.cond (b := false) rfl ?_
     refine sq ?_
     refine rg fun KF hKF => ?_
     refine Fo.bin rfl rfl rfl (by simp only [↓nrmL, nrmZ, Nat.reduceEqDiff, ↓reduceIte, Nat.reduceAdd, Int.reduceBEq, Int.reduceBNe, e16_1, f16_1, e16_2, f16_2, e16_4, f16_4, e16_8, f16_8, e16_16, f16_16]; rfl) ?_
     refine mB rfl ?_
     refine WpO.nil (hKF _ _ ?_)
     refine Wp.cond (b := false) rfl ?_
     refine rg fun KF hKF => ?_
     refine Fo.bin rfl rfl rfl (by simp only [↓nrmL, nrmZ, Nat.reduceEqDiff, ↓reduceIte, Nat.reduceAdd, Int.reduceBEq, Int.reduceBNe, e16_1, f16_1, e16_2, f16_2, e16_4, f16_4, e16_8, f16_8, e16_16, f16_16]; rfl) ?_
     refine mB rfl ?_
     refine WpO.nil (hKF _ _ ?_)
     refine Wp.cond (b := true) rfl ?_
     refine Wp.skip ?_
     refine sq ?_
     refine rg fun KF hKF => ?_
     refine mI rfl ?_
     refine mI rfl ?_
     refine mI rfl ?_
     refine WpO.nil (hKF _ _ ?_)
     refine sq ?_
     refine sq ?_
     refine rg fun KF hKF => ?_
     refine mB rfl ?_
     refine WpO.nil (hKF _ _ ?_)
     refine Wp.cond (b := true) rfl ?_
     refine rg fun KF hKF => ?_
     refine mI rfl ?_
     refine Fo.bin rfl rfl rfl rfl ?_
     refine mI rfl ?_
     refine Fo.bin rfl rfl rfl rfl ?_
     refine mI rfl ?_
     refine mI rfl ?_
     refine WpO.nil (hKF _ _ ?_)
     refine sq ?_
     refine sq ?_
     refine rg fun KF hKF => ?_
     refine mB rfl ?_
     refine WpO.nil (hKF _ _ ?_)
     refine Wp.cond (b := false) rfl ?_
     refine Wp.skip ?_
     refine sq ?_
     refine rg fun KF hKF => ?_
     refine mI rfl ?_
     refine mI rfl ?_
     refine Fo.pcall (v' := ?_) hn rfl (by simp only [↓nrmL, nrmZ, Nat.reduceEqDiff, ↓reduceIte, Nat.reduceAdd, Int.reduceBEq, Int.reduceBNe, e16_1, f16_1, e16_2, f16_2, e16_4, f16_4, e16_8, f16_8, e16_16, f16_16, List.map]; rfl) rfl ?hv fun _ _ => ?_; case hv => rfl
     refine Fo.extr rfl rfl ?_
     refine Fo.extr rfl rfl ?_
     refine Fo.st rfl (rfl : _ = AVal.agg _) rfl rfl rfl (by repeat (first | rfl | refine allOne_cons ?_)) (by simp only [↓nrmL, nrmZ, Nat.reduceEqDiff, ↓reduceIte, Nat.reduceAdd, Int.reduceBEq, Int.reduceBNe, e16_1, f16_1, e16_2, f16_2, e16_4, f16_4, e16_8, f16_8, e16_16, f16_16]; rfl) ?_
     refine mI rfl ?_
     refine WpO.nil (hKF _ _ ?_)
     refine Wp.ret ?_
     dsimp only [cond_true, cond_false]
     refine ⟨trivial, _, (by first | rfl | exact getAllC rfl rfl rfl rfl | exact getAllT rfl (getAllC rfl rfl rfl rfl) | exact getAllC rfl rfl rfl (getAllC rfl rfl rfl rfl) | exact getAllC1 rfl rfl rfl), ?_⟩
     exact ⟨congrArg rT (by decide +kernel : ratioS _ _ = lengthS _ _ _), Ext0.ext⟩
    ·skip
     try simp only [↓nrmL, nrmZ, Nat.reduceEqDiff, ↓reduceIte, Nat.reduceAdd, Int.reduceBEq, Int.reduceBNe, e16_1, f16_1, e16_2, f16_2, e16_4, f16_4, e16_8, f16_8, e16_16, f16_16]
     refine sq ?_
     refine rg fun KF hKF => ?_
     refine Fo.new ?_
     refine mI rfl ?_
     refine WpO.nil (hKF _ _ ?_)
     refine sq ?_
     refine sq ?_
     refine rg fun KF hKF => ?_
     refine mI rfl ?_
     refine WpO.nil (hKF _ _ ?_)
     refine Wp.block ?_
     refine sq ?_
     refine sq ?_
     refine rg fun KF hKF => ?_
     refine Fo.bin rfl rfl rfl (by simp only [↓nrmL, nrmZ, Nat.reduceEqDiff, ↓reduceIte, Nat.reduceAdd, Int.reduceBEq, Int.reduceBNe, e16_1, f16_1, e16_2, f16_2, e16_4, f16_4, e16_8, f16_8, e16_16, f16_16]; rfl) ?_
     refine mB rfl ?_
     refine WpO.nil (hKF _ _ ?_)
     refine Wp.cond (b := false) rfl ?_
     refine sq ?_
     refine rg fun KF hKF => ?_
     refine Fo.bin rfl rfl rfl (by simp only [↓nrmL, nrmZ, Nat.reduceEqDiff, ↓reduceIte, Nat.reduceAdd, Int.reduceBEq, Int.reduceBNe, e16_1, f16_1, e16_2, f16_2, e16_4, f16_4, e16_8, f16_8, e16_16, f16_16]; rfl) ?_
     refine mB rfl ?_
     refine WpO.nil (hKF _ _ ?_)
     refine Wp.cond (b := false) rfl ?_
     refine sq ?_
     refine rg fun KF hKF => ?_
     refine Fo.bin rfl rfl rfl (by simp only [↓nrmL, nrmZ, Nat.reduceEqDiff, ↓reduceIte, Nat.reduceAdd, Int.reduceBEq, Int.reduceBNe, e16_1, f16_1, e16_2, f16_2, e16_4, f16_4, e16_8, f16_8, e16_16, f16_16]; rfl) ?_
     refine mB rfl ?_
     refine WpO.nil (hKF _ _ ?_)
     refine Wp.cond (b := false) rfl ?_
     refine sq ?_
     refine rg fun KF hKF => ?_
     refine Fo.bin rfl rfl rfl (by simp only [↓nrmL, nrmZ, Nat.reduceEqDiff, ↓reduceIte, Nat.reduceAdd, Int.reduceBEq, Int.reduceBNe, e16_1, f16_1, e16_2, f16_2, e16_4, f16_4, e16_8, f16_8, e16_16, f16_16]; rfl) ?_
     refine mB rfl ?_
     refine WpO.nil (hKF _ _ ?_)
     refine Wp.cond (b := false) rfl ?_
     refine rg fun KF hKF => ?_
     refine Fo.bin rfl rfl rfl (by simp only [↓nrmL, nrmZ, Nat.reduceEqDiff, ↓reduceIte, Nat.reduceAdd, Int.reduceBEq, Int.reduceBNe, e16_1, f16_1, e16_2, f16_2, e16_4, f16_4, e16_8, f16_8, e16_16, f16_16]; rfl) ?_
     refine mB rfl ?_
     refine WpO.nil (hKF _ _ ?_)
     refine Wp.cond (b := true) rfl ?_
     refine Wp.skip ?_
     refine sq ?_
     refine rg fun KF hKF => ?_
     refine mI rfl ?_
     refine mI rfl ?_
     refine mI rfl ?_
     refine WpO.nil (hKF _ _ ?_)
     refine sq ?_
     refine sq ?_
     refine rg fun KF hKF => ?_
     refine mB rfl ?_
     refine WpO.nil (hKF _ _ ?_)
     refine Wp.cond (b := true) rfl ?_
     refine rg fun KF hKF => ?_
     refine mI rfl ?_
     refine Fo.bin rfl rfl rfl rfl ?_
     refine mI rfl ?_
     refine Fo.bin rfl rfl rfl rfl ?_
     refine mI rfl ?_
     refine mI rfl ?_
     refine WpO.nil (hKF _ _ ?_)
     refine sq ?_
     refine sq ?_
     refine rg fun KF hKF => ?_
     refine mB rfl ?_
     refine WpO.nil (hKF _ _ ?_)
     refine Wp.cond (b := true) rfl ?_
     refine rg fun KF hKF => ?_
     refine mI rfl ?_
     refine Fo.bin rfl rfl rfl rfl ?_
     refine mI rfl ?_
     refine Fo.bin rfl rfl rfl rfl ?_
     refine mI rfl ?_
     refine mI rfl ?_
     refine WpO.nil (hKF _ _ ?_)
     refine sq ?_
     refine rg fun KF hKF => ?_
     refine mI rfl ?_
     refine mI rfl ?_
     refine Fo.pcall (v' := ?_) hn rfl (by simp only [↓nrmL, nrmZ, Nat.reduceEqDiff, ↓reduceIte, Nat.reduceAdd, Int.reduceBEq, Int.reduceBNe, e16_1, f16_1, e16_2, f16_2, e16_4, f16_4, e16_8, f16_8, e16_16, f16_16, List.map]; rfl) rfl ?hv fun _ _ => ?_; case hv => rfl
     refine Fo.extr rfl rfl ?_
     refine Fo.extr rfl rfl ?_
     refine Fo.st rfl (rfl : _ = AVal.agg _) rfl rfl rfl (by repeat (first | rfl | refine allOne_cons ?_)) (by simp only [↓nrmL, nrmZ, Nat.reduceEqDiff, ↓reduceIte, Nat.reduceAdd, Int.reduceBEq, Int.reduceBNe, e16_1, f16_1, e16_2, f16_2, e16_4, f16_4, e16_8, f16_8, e16_16, f16_16]; rfl) ?_
     refine mI rfl ?_
     refine WpO.nil (hKF _ _ ?_)
     refine Wp.ret ?_
     dsimp only [cond_true, cond_false]
     refine ⟨trivial, _, (by first | rfl | exact getAllC rfl rfl rfl rfl | exact getAllT rfl (getAllC rfl rfl rfl rfl) | exact getAllC rfl rfl rfl (getAllC rfl rfl rfl rfl) | exact getAllC1 rfl rfl rfl), ?_⟩
     exact ⟨congrArg rT (by decide +kernel : ratioS _ _ = lengthS _ _ _), Ext0.ext⟩
 ·have hn : lengthS v dot tri = (0, 0, 33) := by unfold lengthS; rw [if_neg hv]
  simp only [not_or] at hv
  obtain ⟨h1, h2, h3, h4, h5⟩ := hv
  have e1 : (v == 1) = false := by simpa using h1
  have e2 : (v == 2) = false := by simpa using h2
  have e3 : (v == 4) = false := by simpa using h3
  have e4 : (v == 8) = false := by simpa using h4
  have e5 : (v == 16) = false := by simpa using h5
  have f1 : (v != 1) = true := by simpa using h1
  have f2 : (v != 2) = true := by simpa using h2
  have f3 : (v != 4) = true := by simpa using h3
  have f4 : (v != 8) = true := by simpa using h4
  have f5 : (v != 16) = true := by simpa using h5
  try simp only [↓nrmL, nrmZ, Nat.reduceEqDiff, ↓reduceIte, Nat.reduceAdd, Int.reduceBEq, Int.reduceBNe, e1, e2, e3, e4, e5, f1, f2, f3, f4, f5]
  refine sq ?_
  refine rg fun KF hKF => ?_
  refine Fo.new ?_
  refine mI rfl ?_
  refine WpO.nil (hKF _ _ ?_)
  refine sq ?_
  refine sq ?_
  refine rg fun KF hKF => ?_
  refine mI rfl ?_
  refine WpO.nil (hKF _ _ ?_)
  refine Wp.block ?_
  refine sq ?_
  refine sq ?_
  refine rg fun KF hKF => ?_
  refine Fo.bin rfl rfl rfl (by simp only [↓nrmL, nrmZ, Nat.reduceEqDiff, ↓reduceIte, Nat.reduceAdd, Int.reduceBEq, Int.reduceBNe, e1, e2, e3, e4, e5, f1, f2, f3, f4, f5]; rfl) ?_
  refine mB rfl ?_
  refine WpO.nil (hKF _ _ ?_)
  refine Wp.cond (b := false) rfl ?_
  refine sq ?_
  refine rg fun KF hKF => ?_
  refine Fo.bin rfl rfl rfl (by simp only [↓nrmL, nrmZ, Nat.reduceEqDiff, ↓reduceIte, Nat.reduceAdd, Int.reduceBEq, Int.reduceBNe, e1, e2, e3, e4, e5, f1, f2, f3, f4, f5]; rfl) ?_
  refine mB rfl ?_
  refine WpO.nil (hKF _ _ ?_)
  refine Wp.cond (b := false) rfl ?_
  refine sq ?_
  refine rg fun KF hKF => ?_
  refine Fo.bin rfl rfl rfl (by simp only [↓nrmL, nrmZ, Nat.reduceEqDiff, ↓reduceIte, Nat.reduceAdd, Int.reduceBEq, Int.reduceBNe, e1, e2, e3, e4, e5, f1, f2, f3, f4, f5]; rfl) ?_
  refine mB rfl ?_
  refine WpO.nil (hKF _ _ ?_)
  refine Wp.cond (b := false) rfl ?_
  refine sq ?_
  refine rg fun KF hKF => ?_
  refine Fo.bin rfl rfl rfl (by simp only [↓nrmL, nrmZ, Nat.reduceEqDiff, ↓reduceIte, Nat.reduceAdd, Int.reduceBEq, Int.reduceBNe, e1, e2, e3, e4, e5, f1, f2, f3, f4, f5]; rfl) ?_
  refine mB rfl ?_
  refine WpO.nil (hKF _ _ ?_)
  refine Wp.cond (b := false) rfl ?_
  refine rg fun KF hKF => ?_
  refine Fo.bin rfl rfl rfl (by simp only [↓nrmL, nrmZ, Nat.reduceEqDiff, ↓reduceIte, Nat.reduceAdd, Int.reduceBEq, Int.reduceBNe, e1, e2, e3, e4, e5, f1, f2, f3, f4, f5]; rfl) ?_
  refine mB rfl ?_
  refine WpO.nil (hKF _ _ ?_)
  refine Wp.cond (b := false) rfl ?_
  refine sq ?_
  refine rg fun KF hKF => ?_
  refine Fo.build (by repeat (first | refine aFill1 (by first | exact (rfl : _ = AVal.int _ _) | exact (rfl : _ = AVal.ptr _ _) | exact (rfl : _ = AVal.bool _) | exact (rfl : _ = AVal.agg _) | exact (rfl : _ = AVal.tuple _) | exact (rfl : _ = AVal.func _ _ _) | exact (rfl : _ = AVal.nslice) | ((try simp only [↓nrmL, nrmK, Nat.reduceEqDiff, ↓reduceIte]); rfl)) rfl ?_ | rfl)) rfl ?_
  refine Fo.st rfl (rfl : _ = AVal.agg _) rfl rfl rfl (by repeat (first | rfl | refine allOne_cons ?_)) (by simp only [↓nrmL, nrmZ, Nat.reduceEqDiff, ↓reduceIte, Nat.reduceAdd, Int.reduceBEq, Int.reduceBNe, e1, e2, e3, e4, e5, f1, f2, f3, f4, f5]; rfl) ?_
  refine mI rfl ?_
  refine WpO.nil (hKF _ _ ?_)
  refine Wp.ret ?_
  dsimp only [cond_true, cond_false]
  refine ⟨trivial, _, (by first | rfl | exact getAllC rfl rfl rfl rfl | exact getAllT rfl (getAllC rfl rfl rfl rfl) | exact getAllC rfl rfl rfl (getAllC rfl rfl rfl rfl) | exact getAllC1 rfl rfl rfl), ?_⟩
  exact ⟨by rw [hn]; rfl, Ext0.ext⟩⟩
def unitB (u : Int) : Bool := u == 2 || u == 4 || u == 8
def barS (b u : Int) : Int × Int × Int := bif withinB b 1 9 && unitB u then ratioS b u else (0, 0, 32)
instance K_Bar {b u : Int} {H : AHeap} [hu : R64 u] : PureCon ext prog 18 [.agg [.int .i64 b, .int .i64 u]] H 3 (rT (barS b u)) := ⟨by
 refine con_of (show prog 18 = some c18 from rfl) rfl rfl fun m hn => ?_
 cases h0 : withinB b 1 9
 ·have e : barS b u = (0, 0, 32) := by unfold barS; rw [h0]; rfl
  try simp only [↓nrmL, nrmZ, Nat.reduceEqDiff, ↓reduceIte, Nat.reduceAdd, Int.reduceBEq, Int.reduceBNe, h0]
  refine sq ?_
  refine rg fun KF hKF => ?_
  refine Fo.boxA rfl ?_
  refine Fo.new ?_
  refine mI rfl ?_
  refine WpO.nil (hKF _ _ ?_)
  refine sq ?_
  refine sq ?_
  refine rg fun KF hKF => ?_
  refine Fo.fa rfl ?_
  refine Fo.ld rfl rfl ?_
  refine Fo.pcall (v' := ?_) hn rfl (by simp only [↓nrmL, nrmZ, Nat.reduceEqDiff, ↓reduceIte, Nat.reduceAdd, Int.reduceBEq, Int.reduceBNe, h0, List.map]; rfl) rfl ?hv fun _ _ => ?_; case hv => (simp only [↓nrmL, nrmZ, Nat.reduceEqDiff, ↓reduceIte, Nat.reduceAdd, Int.reduceBEq, Int.reduceBNe, h0]; rfl)
  refine Fo.now rfl rfl (by simp only [↓nrmL, nrmZ, Nat.reduceEqDiff, ↓reduceIte, Nat.reduceAdd, Int.reduceBEq, Int.reduceBNe, h0]; rfl) ?_
  refine mB rfl ?_
  refine Fo.no rfl rfl ?_
  refine Fo.no rfl rfl ?_
  refine Fo.no rfl rfl ?_
  refine Fo.no rfl rfl ?_
  refine Fo.noU rfl ?_
  refine Fo.noU rfl ?_
  refine Fo.noU rfl ?_
  refine Fo.no rfl rfl ?_
  refine Fo.no rfl rfl ?_
  refine Fo.noU rfl ?_
  refine Fo.noU rfl ?_
  refine Fo.noU rfl ?_
  refine Fo.no rfl rfl ?_
  refine tB rfl rfl ?_
  refine WpO.nil (hKF _ _ ?_)
  refine Wp.cond (b := true) rfl ?_
  refine sq ?_
  refine rg fun KF hKF => ?_
  refine Fo.build (by repeat (first | refine aFill1 (by first | exact (rfl : _ = AVal.int _ _) | exact (rfl : _ = AVal.ptr _ _) | exact (rfl : _ = AVal.bool _) | exact (rfl : _ = AVal.agg _) | exact (rfl : _ = AVal.tuple _) | exact (rfl : _ = AVal.func _ _ _) | exact (rfl : _ = AVal.nslice) | ((try simp only [↓nrmL, nrmK, Nat.reduceEqDiff, ↓reduceIte]); rfl)) rfl ?_ | rfl)) rfl ?_
  refine Fo.st rfl (rfl : _ = AVal.agg _) rfl rfl rfl (by repeat (first | rfl | refine allOne_cons ?_)) (by simp only [↓nrmL, nrmZ, Nat.reduceEqDiff, ↓reduceIte, Nat.reduceAdd, Int.reduceBEq, Int.reduceBNe, h0]; rfl) ?_
  refine mI rfl ?_
  refine WpO.nil (hKF _ _ ?_)
  refine Wp.ret ?_
  dsimp only [cond_true, cond_false]
  refine ⟨trivial, _, (by first | rfl | exact getAllC rfl rfl rfl rfl | exact getAllT rfl (getAllC rfl rfl rfl rfl) | exact getAllC rfl rfl rfl (getAllC rfl rfl rfl rfl) | exact getAllC1 rfl rfl rfl), ?_⟩
  exact ⟨by rw [e]; rfl, Ext0.ext⟩
 by_cases k1 : u = 2
 ·subst k1
  have hu2 : unitB 2 = true := rfl
  have e : barS b 2 = ratioS b 2 := by unfold barS; rw [h0, hu2]; rfl
  have f1 : ((2 : Int) != 2) = false := rfl
  try simp only [↓nrmL, nrmZ, Nat.reduceEqDiff, ↓reduceIte, Nat.reduceAdd, Int.reduceBEq, Int.reduceBNe, h0, f1]
  refine sq ?_
  refine rg fun KF hKF => ?_
  refine Fo.boxA rfl ?_
  refine Fo.new ?_
  refine mI rfl ?_
  refine WpO.nil (hKF _ _ ?_)
  refine sq ?_
  refine sq ?_
  refine rg fun KF hKF => ?_
  refine Fo.fa rfl ?_
  refine Fo.ld rfl rfl ?_
  refine Fo.pcall (v' := ?_) hn rfl (by simp only [↓nrmL, nrmZ, Nat.reduceEqDiff, ↓reduceIte, Nat.reduceAdd, Int.reduceBEq, Int.reduceBNe, h0, f1, List.map]; rfl) rfl ?hv fun _ _ => ?_; case hv => (simp only [↓nrmL, nrmZ, Nat.reduceEqDiff, ↓reduceIte, Nat.reduceAdd, Int.reduceBEq, Int.reduceBNe, h0, f1]; rfl)
  refine Fo.now rfl rfl (by simp only [↓nrmL, nrmZ, Nat.reduceEqDiff, ↓reduceIte, Nat.reduceAdd, Int.reduceBEq, Int.reduceBNe, h0, f1]; rfl) ?_
  refine mB rfl ?_
  refine Fo.yes rfl rfl ?_
  refine Fo.fa rfl ?_
  refine Fo.yes rfl rfl ?_
  refine Fo.ld rfl rfl ?_
  refine Fo.yes rfl rfl ?_
  refine Fo.bin rfl rfl rfl (by simp only [↓nrmL, nrmZ, Nat.reduceEqDiff, ↓reduceIte, Nat.reduceAdd, Int.reduceBEq, Int.reduceBNe, h0, f1]; rfl) ?_
  refine Fo.yes rfl rfl ?_
  refine mB rfl ?_
  refine Fo.no rfl rfl ?_
  refine Fo.no rfl rfl ?_
  refine Fo.no rfl rfl ?_
  refine Fo.yes rfl rfl ?_
  refine fB rfl rfl ?_
  refine Fo.yes rfl rfl ?_
  refine mB rfl ?_
  refine Fo.no rfl rfl ?_
  refine Fo.no rfl rfl ?_
  refine Fo.no rfl rfl ?_
  refine Fo.yes rfl rfl ?_
  refine fB rfl rfl ?_
  refine fB rfl rfl ?_
  refine WpO.nil (hKF _ _ ?_)
  refine Wp.cond (b := false) rfl ?_
  refine Wp.skip ?_
  refine sq ?_
  refine rg fun KF hKF => ?_
  refine Fo.fa rfl ?_
  refine Fo.ld rfl rfl ?_
  refine Fo.fa rfl ?_
  refine Fo.ld rfl rfl ?_
  refine Fo.pcall (v' := ?_) hn rfl (by simp only [↓nrmL, nrmZ, Nat.reduceEqDiff, ↓reduceIte, Nat.reduceAdd, Int.reduceBEq, Int.reduceBNe, h0, f1, List.map]; rfl) rfl ?hv fun _ _ => ?_; case hv => rfl
  refine Fo.extr rfl rfl ?_
  refine Fo.extr rfl rfl ?_
  refine Fo.st rfl (rfl : _ = AVal.agg _) rfl rfl rfl (by repeat (first | rfl | refine allOne_cons ?_)) (by simp only [↓nrmL, nrmZ, Nat.reduceEqDiff, ↓reduceIte, Nat.reduceAdd, Int.reduceBEq, Int.reduceBNe, h0, f1]; rfl) ?_
  refine mI rfl ?_
  refine WpO.nil (hKF _ _ ?_)
  refine Wp.ret ?_
  dsimp only [cond_true, cond_false]
  refine ⟨trivial, _, (by first | rfl | exact getAllC rfl rfl rfl rfl | exact getAllT rfl (getAllC rfl rfl rfl rfl) | exact getAllC rfl rfl rfl (getAllC rfl rfl rfl rfl) | exact getAllC1 rfl rfl rfl), ?_⟩
  exact ⟨by rw [e]; rfl, Ext0.ext⟩
 by_cases k2 : u = 4
 ·subst k2
  have hu2 : unitB 4 = true := rfl
  have e : barS b 4 = ratioS b 4 := by unfold barS; rw [h0, hu2]; rfl
  have f1 : ((4 : Int) != 2) = true := rfl
  have f2 : ((4 : Int) != 4) = false := rfl
  try simp only [↓nrmL, nrmZ, Nat.reduceEqDiff, ↓reduceIte, Nat.reduceAdd, Int.reduceBEq, Int.reduceBNe, h0, f1, f2]
  refine sq ?_
  refine rg fun KF hKF => ?_
  refine Fo.boxA rfl ?_
  refine Fo.new ?_
  refine mI rfl ?_
  refine WpO.nil (hKF _ _ ?_)
  refine sq ?_
  refine sq ?_
  refine rg fun KF hKF => ?_
  refine Fo.fa rfl ?_
  refine Fo.ld rfl rfl ?_
  refine Fo.pcall (v' := ?_) hn rfl (by simp only [↓nrmL, nrmZ, Nat.reduceEqDiff, ↓reduceIte, Nat.reduceAdd, Int.reduceBEq, Int.reduceBNe, h0, f1, f2, List.map]; rfl) rfl ?hv fun _ _ => ?_; case hv => (simp only [↓nrmL, nrmZ, Nat.reduceEqDiff, ↓reduceIte, Nat.reduceAdd, Int.reduceBEq, Int.reduceBNe, h0, f1, f2]; rfl)
  refine Fo.now rfl rfl (by simp only [↓nrmL, nrmZ, Nat.reduceEqDiff, ↓reduceIte, Nat.reduceAdd, Int.reduceBEq, Int.reduceBNe, h0, f1, f2]; rfl) ?_
  refine mB rfl ?_
  refine Fo.yes rfl rfl ?_
  refine Fo.fa rfl ?_
  refine Fo.yes rfl rfl ?_
  refine Fo.ld rfl rfl ?_
  refine Fo.yes rfl rfl ?_
  refine Fo.bin rfl rfl rfl (by simp only [↓nrmL, nrmZ, Nat.reduceEqDiff, ↓reduceIte, Nat.reduceAdd, Int.reduceBEq, Int.reduceBNe, h0, f1, f2]; rfl) ?_
  refine Fo.yes rfl rfl ?_
  refine mB rfl ?_
  refine Fo.yes rfl rfl ?_
  refine Fo.fa rfl ?_
  refine Fo.yes rfl rfl ?_
  refine Fo.ld rfl rfl ?_
  refine Fo.yes rfl rfl ?_
  refine Fo.bin rfl rfl rfl (by simp only [↓nrmL, nrmZ, Nat.reduceEqDiff, ↓reduceIte, Nat.reduceAdd, Int.reduceBEq, Int.reduceBNe, h0, f1, f2]; rfl) ?_
  refine Fo.yes rfl rfl ?_
  refine tB rfl rfl ?_
  refine Fo.yes rfl rfl ?_
  refine mB rfl ?_
  refine Fo.no rfl rfl ?_
  refine Fo.no rfl rfl ?_
  refine Fo.no rfl rfl ?_
  refine Fo.yes rfl rfl ?_
  refine fB rfl rfl ?_
  refine fB rfl rfl ?_
  refine WpO.nil (hKF _ _ ?_)
  refine Wp.cond (b := false) rfl ?_
  refine Wp.skip ?_
  refine sq ?_
  refine rg fun KF hKF => ?_
  refine Fo.fa rfl ?_
  refine Fo.ld rfl rfl ?_
  refine Fo.fa rfl ?_
  refine Fo.ld rfl rfl ?_
  refine Fo.pcall (v' := ?_) hn rfl (by simp only [↓nrmL, nrmZ, Nat.reduceEqDiff, ↓reduceIte, Nat.reduceAdd, Int.reduceBEq, Int.reduceBNe, h0, f1, f2, List.map]; rfl) rfl ?hv fun _ _ => ?_; case hv => rfl
  refine Fo.extr rfl rfl ?_
  refine Fo.extr rfl rfl ?_
  refine Fo.st rfl (rfl : _ = AVal.agg _) rfl rfl rfl (by repeat (first | rfl | refine allOne_cons ?_)) (by simp only [↓nrmL, nrmZ, Nat.reduceEqDiff, ↓reduceIte, Nat.reduceAdd, Int.reduceBEq, Int.reduceBNe, h0, f1, f2]; rfl) ?_
  refine mI rfl ?_
  refine WpO.nil (hKF _ _ ?_)
  refine Wp.ret ?_
  dsimp only [cond_true, cond_false]
  refine ⟨trivial, _, (by first | rfl | exact getAllC rfl rfl rfl rfl | exact getAllT rfl (getAllC rfl rfl rfl rfl) | exact getAllC rfl rfl rfl (getAllC rfl rfl rfl rfl) | exact getAllC1 rfl rfl rfl), ?_⟩
  exact ⟨by rw [e]; rfl, Ext0.ext⟩
 by_cases k3 : u = 8
 ·subst k3
  have hu2 : unitB 8 = true := rfl
  have e : barS b 8 = ratioS b 8 := by unfold barS; rw [h0, hu2]; rfl
  have f1 : ((8 : Int) != 2) = true := rfl
  have f2 : ((8 : Int) != 4) = true := rfl
  have f3 : ((8 : Int) != 8) = false := rfl
  try simp only [↓nrmL, nrmZ, Nat.reduceEqDiff, ↓reduceIte, Nat.reduceAdd, Int.reduceBEq, Int.reduceBNe, h0, f1, f2, f3]
  refine sq ?_
  refine rg fun KF hKF => ?_
  refine Fo.boxA rfl ?_
  refine Fo.new ?_
  refine mI rfl ?_
  refine WpO.nil (hKF _ _ ?_)
  refine sq ?_
  refine sq ?_
  refine rg fun KF hKF => ?_
  refine Fo.fa rfl ?_
  refine Fo.ld rfl rfl ?_
  refine Fo.pcall (v' := ?_) hn rfl (by simp only [↓nrmL, nrmZ, Nat.reduceEqDiff, ↓reduceIte, Nat.reduceAdd, Int.reduceBEq, Int.reduceBNe, h0, f1, f2, f3, List.map]; rfl) rfl ?hv fun _ _ => ?_; case hv => (simp only [↓nrmL, nrmZ, Nat.reduceEqDiff, ↓reduceIte, Nat.reduceAdd, Int.reduceBEq, Int.reduceBNe, h0, f1, f2, f3]; rfl)
  refine Fo.now rfl rfl (by simp only [↓nrmL, nrmZ, Nat.reduceEqDiff, ↓reduceIte, Nat.reduceAdd, Int.reduceBEq, Int.reduceBNe, h0, f1, f2, f3]; rfl) ?_
  refine mB rfl ?_
  refine Fo.yes rfl rfl ?_
  refine Fo.fa rfl ?_
  refine Fo.yes rfl rfl ?_
  refine Fo.ld rfl rfl ?_
  refine Fo.yes rfl rfl ?_
  refine Fo.bin rfl rfl rfl (by simp only [↓nrmL, nrmZ, Nat.reduceEqDiff, ↓reduceIte, Nat.reduceAdd, Int.reduceBEq, Int.reduceBNe, h0, f1, f2, f3]; rfl) ?_
  refine Fo.yes rfl rfl ?_
  refine mB rfl ?_
  refine Fo.yes rfl rfl ?_
  refine Fo.fa rfl ?_
  refine Fo.yes rfl rfl ?_
  refine Fo.ld rfl rfl ?_
  refine Fo.yes rfl rfl ?_
  refine Fo.bin rfl rfl rfl (by simp only [↓nrmL, nrmZ, Nat.reduceEqDiff, ↓reduceIte, Nat.reduceAdd, Int.reduceBEq, Int.reduceBNe, h0, f1, f2, f3]; rfl) ?_
  refine Fo.yes rfl rfl ?_
  refine tB rfl rfl ?_
  refine Fo.yes rfl rfl ?_
  refine mB rfl ?_
  refine Fo.yes rfl rfl ?_
  refine Fo.fa rfl ?_
  refine Fo.yes rfl rfl ?_
  refine Fo.ld rfl rfl ?_
  refine Fo.yes rfl rfl ?_
  refine Fo.bin rfl rfl rfl (by simp only [↓nrmL, nrmZ, Nat.reduceEqDiff, ↓reduceIte, Nat.reduceAdd, Int.reduceBEq, Int.reduceBNe, h0, f1, f2, f3]; rfl) ?_
  refine Fo.yes rfl rfl ?_
  refine tB rfl rfl ?_
  refine fB rfl rfl ?_
  refine WpO.nil (hKF _ _ ?_)
  refine Wp.cond (b := false) rfl ?_
  refine Wp.skip ?_
  refine sq ?_
  refine rg fun KF hKF => ?_
  refine Fo.fa rfl ?_
  refine Fo.ld rfl rfl ?_
  refine Fo.fa rfl ?_
  refine Fo.ld rfl rfl ?_
  refine Fo.pcall (v' := ?_) hn rfl (by simp only [↓nrmL, nrmZ, Nat.reduceEqDiff, ↓reduceIte, Nat.reduceAdd, Int.reduceBEq, Int.reduceBNe, h0, f1, f2, f3, List.map]; rfl) rfl ?hv fun _ _ => ?_; case hv => rfl
  refine Fo.extr rfl rfl ?_
  refine Fo.extr rfl rfl ?_
  refine Fo.st rfl (rfl : _ = AVal.agg _) rfl rfl rfl (by repeat (first | rfl | refine allOne_cons ?_)) (by simp only [↓nrmL, nrmZ, Nat.reduceEqDiff, ↓reduceIte, Nat.reduceAdd, Int.reduceBEq, Int.reduceBNe, h0, f1, f2, f3]; rfl) ?_
  refine mI rfl ?_
  refine WpO.nil (hKF _ _ ?_)
  refine Wp.ret ?_
  dsimp only [cond_true, cond_false]
  refine ⟨trivial, _, (by first | rfl | exact getAllC rfl rfl rfl rfl | exact getAllT rfl (getAllC rfl rfl rfl rfl) | exact getAllC rfl rfl rfl (getAllC rfl rfl rfl rfl) | exact getAllC1 rfl rfl rfl), ?_⟩
  exact ⟨by rw [e]; rfl, Ext0.ext⟩
 ·have f1 : (u != 2) = true := by simpa using k1
  have f2 : (u != 4) = true := by simpa using k2
  have f3 : (u != 8) = true := by simpa using k3
  have hu2 : unitB u = false := by unfold unitB; simp [k1, k2, k3]
  have e : barS b u = (0, 0, 32) := by unfold barS; rw [hu2, Bool.and_false]; rfl
  try simp only [↓nrmL, nrmZ, Nat.reduceEqDiff, ↓reduceIte, Nat.reduceAdd, Int.reduceBEq, Int.reduceBNe, h0, f1, f2, f3]
  refine sq ?_
  refine rg fun KF hKF => ?_
  refine Fo.boxA rfl ?_
  refine Fo.new ?_
  refine mI rfl ?_
  refine WpO.nil (hKF _ _ ?_)
  refine sq ?_
  refine sq ?_
  refine rg fun KF hKF => ?_
  refine Fo.fa rfl ?_
  refine Fo.ld rfl rfl ?_
  refine Fo.pcall (v' := ?_) hn rfl (by simp only [↓nrmL, nrmZ, Nat.reduceEqDiff, ↓reduceIte, Nat.reduceAdd, Int.reduceBEq, Int.reduceBNe, h0, f1, f2, f3, List.map]; rfl) rfl ?hv fun _ _ => ?_; case hv => (simp only [↓nrmL, nrmZ, Nat.reduceEqDiff, ↓reduceIte, Nat.reduceAdd, Int.reduceBEq, Int.reduceBNe, h0, f1, f2, f3]; rfl)
  refine Fo.now rfl rfl (by simp only [↓nrmL, nrmZ, Nat.reduceEqDiff, ↓reduceIte, Nat.reduceAdd, Int.reduceBEq, Int.reduceBNe, h0, f1, f2, f3]; rfl) ?_
  refine mB rfl ?_
  refine Fo.yes rfl rfl ?_
  refine Fo.fa rfl ?_
  refine Fo.yes rfl rfl ?_
  refine Fo.ld rfl rfl ?_
  refine Fo.yes rfl rfl ?_
  refine Fo.bin rfl rfl rfl (by simp only [↓nrmL, nrmZ, Nat.reduceEqDiff, ↓reduceIte, Nat.reduceAdd, Int.reduceBEq, Int.reduceBNe, h0, f1, f2, f3]; rfl) ?_
  refine Fo.yes rfl rfl ?_
  refine mB rfl ?_
  refine Fo.yes rfl rfl ?_
  refine Fo.fa rfl ?_
  refine Fo.yes rfl rfl ?_
  refine Fo.ld rfl rfl ?_
  refine Fo.yes rfl rfl ?_
  refine Fo.bin rfl rfl rfl (by simp only [↓nrmL, nrmZ, Nat.reduceEqDiff, ↓reduceIte, Nat.reduceAdd, Int.reduceBEq, Int.reduceBNe, h0, f1, f2, f3]; rfl) ?_
  refine Fo.yes rfl rfl ?_
  refine tB rfl rfl ?_
  refine Fo.yes rfl rfl ?_
  refine mB rfl ?_
  refine Fo.yes rfl rfl ?_
  refine Fo.fa rfl ?_
  refine Fo.yes rfl rfl ?_
  refine Fo.ld rfl rfl ?_
  refine Fo.yes rfl rfl ?_
  refine Fo.bin rfl rfl rfl (by simp only [↓nrmL, nrmZ, Nat.reduceEqDiff, ↓reduceIte, Nat.reduceAdd, Int.reduceBEq, Int.reduceBNe, h0, f1, f2, f3]; rfl) ?_
  refine Fo.yes rfl rfl ?_
  refine tB rfl rfl ?_
  refine fB rfl rfl ?_
  refine WpO.nil (hKF _ _ ?_)
  refine Wp.cond (b := true) rfl ?_
  refine sq ?_
  refine rg fun KF hKF => ?_
  refine Fo.build (by repeat (first | refine aFill1 (by first | exact (rfl : _ = AVal.int _ _) | exact (rfl : _ = AVal.ptr _ _) | exact (rfl : _ = AVal.bool _) | exact (rfl : _ = AVal.agg _) | exact (rfl : _ = AVal.tuple _) | exact (rfl : _ = AVal.func _ _ _) | exact (rfl : _ = AVal.nslice) | ((try simp only [↓nrmL, nrmK, Nat.reduceEqDiff, ↓reduceIte]); rfl)) rfl ?_ | rfl)) rfl ?_
  refine Fo.st rfl (rfl : _ = AVal.agg _) rfl rfl rfl (by repeat (first | rfl | refine allOne_cons ?_)) (by simp only [↓nrmL, nrmZ, Nat.reduceEqDiff, ↓reduceIte, Nat.reduceAdd, Int.reduceBEq, Int.reduceBNe, h0, f1, f2, f3]; rfl) ?_
  refine mI rfl ?_
  refine WpO.nil (hKF _ _ ?_)
  refine Wp.ret ?_
  dsimp only [cond_true, cond_false]
  refine ⟨trivial, _, (by first | rfl | exact getAllC rfl rfl rfl rfl | exact getAllT rfl (getAllC rfl rfl rfl rfl) | exact getAllC rfl rfl rfl (getAllC rfl rfl rfl rfl) | exact getAllC1 rfl rfl rfl), ?_⟩
  exact ⟨by rw [e]; rfl, Ext0.ext⟩⟩
end Go.Am

set_option maxHeartbeats 8000000
set_option maxRecDepth 100000
set_option synthInstance.maxHeartbeats 4000000
set_option synthInstance.maxSize 100000
namespace Go.Am
open Go
attribute [local irreducible] Wp WpO WpX WpE

theorem lastsF (k : Nat) (hk : k < 5) : ∃ v dn dd tn td hn hd wn wd v2 : Int, IntKind.i64.wrap (1 * 2 ^ (min k IntKind.i64.bits)) = v ∧ lengthS v false false = (1, v, 0) ∧ lengthS v true false = (dn, dd, 0) ∧ lengthS v false true = (tn, td, 0) ∧ lengthS v true true = (1, v, 0) ∧
  divS 1 v 2 1 = (hn, hd, 0) ∧ addS 1 v hn hd = (dn, dd, 0) ∧ mulS tn td 3 1 = (wn, wd, 0) ∧ addS 1 v 1 v = (wn, wd, 0) ∧ IntKind.i64.wrap (v.tdiv 2) = v2 ∧ (decide (v > 1) = false ∨ (decide (v > 1) = true ∧ lengthS v2 false false = (wn, wd, 0))) := by
 rcases (show k = 0 ∨ k = 1 ∨ k = 2 ∨ k = 3 ∨ k = 4 by omega) with rfl | rfl | rfl | rfl | rfl
 ·exact ⟨1, 3, 2, 2, 3, 1, 2, 2, 1, 0, rfl, by decide +kernel, by decide +kernel, by decide +kernel, by decide +kernel, by decide +kernel, by decide +kernel, by decide +kernel, by decide +kernel, rfl, Or.inl rfl⟩
 ·exact ⟨2, 3, 4, 1, 3, 1, 4, 1, 1, 1, rfl, by decide +kernel, by decide +kernel, by decide +kernel, by decide +kernel, by decide +kernel, by decide +kernel, by decide +kernel, by decide +kernel, rfl, Or.inr ⟨rfl, by decide +kernel⟩⟩
 ·exact ⟨4, 3, 8, 1, 6, 1, 8, 1, 2, 2, rfl, by decide +kernel, by decide +kernel, by decide +kernel, by decide +kernel, by decide +kernel, by decide +kernel, by decide +kernel, by decide +kernel, rfl, Or.inr ⟨rfl, by decide +kernel⟩⟩
 ·exact ⟨8, 3, 16, 1, 12, 1, 16, 1, 4, 4, rfl, by decide +kernel, by decide +kernel, by decide +kernel, by decide +kernel, by decide +kernel, by decide +kernel, by decide +kernel, by decide +kernel, rfl, Or.inr ⟨rfl, by decide +kernel⟩⟩
 ·exact ⟨16, 3, 32, 1, 24, 1, 32, 1, 8, 8, rfl, by decide +kernel, by decide +kernel, by decide +kernel, by decide +kernel, by decide +kernel, by decide +kernel, by decide +kernel, by decide +kernel, rfl, Or.inr ⟨rfl, by decide +kernel⟩⟩

theorem unitF (k : Nat) (hk : k < 3) : ∃ u : Int, IntKind.i64.wrap (2 * 2 ^ (min k IntKind.i64.bits)) = u ∧ R64 u ∧ lengthS u false false = (1, u, 0) ∧ ratioS 0 u = (0, 1, 0) ∧ (∀ j : Nat, j < 9 → addS (ratioS (j : Int) u).1 (ratioS (j : Int) u).2.1 1 u = ratioS ((j + 1 : Nat) : Int) u ∧ (ratioS ((j + 1 : Nat) : Int) u).2.2 = 0) ∧ (∀ b : Nat, b < 9 → barS ((b + 1 : Nat) : Int) u = ratioS ((b + 1 : Nat) : Int) u) := by
 have key : ∀ u : Int, ((List.range 9).all fun j => decide (addS (ratioS (j : Int) u).1 (ratioS (j : Int) u).2.1 1 u = ratioS ((j + 1 : Nat) : Int) u ∧ (ratioS ((j + 1 : Nat) : Int) u).2.2 = 0)) = true → ∀ j : Nat, j < 9 → addS (ratioS (j : Int) u).1 (ratioS (j : Int) u).2.1 1 u = ratioS ((j + 1 : Nat) : Int) u ∧ (ratioS ((j + 1 : Nat) : Int) u).2.2 = 0 := fun u h j hj => of_decide_eq_true (List.all_eq_true.1 h j (List.mem_range.2 hj))
 have key2 : ∀ u : Int, ((List.range 9).all fun b => decide (barS ((b + 1 : Nat) : Int) u = ratioS ((b + 1 : Nat) : Int) u)) = true → ∀ b : Nat, b < 9 → barS ((b + 1 : Nat) : Int) u = ratioS ((b + 1 : Nat) : Int) u := fun u h j hj => of_decide_eq_true (List.all_eq_true.1 h j (List.mem_range.2 hj))
 rcases (show k = 0 ∨ k = 1 ∨ k = 2 by omega) with rfl | rfl | rfl
 ·exact ⟨2, rfl, inferInstance, by decide +kernel, by decide +kernel, key 2 (by decide +kernel), key2 2 (by decide +kernel)⟩
 ·exact ⟨4, rfl, inferInstance, by decide +kernel, by decide +kernel, key 4 (by decide +kernel), key2 4 (by decide +kernel)⟩
 ·exact ⟨8, rfl, inferInstance, by decide +kernel, by decide +kernel, key 8 (by decide +kernel), key2 8 (by decide +kernel)⟩
theorem tmodN (a b : Nat) : ((a : Int)).tmod (b : Int) = ((a % b : Nat) : Int) := tmod_nat

instance K_ToneLasts {a b c : Nat} {H : AHeap} : PureCon ext prog 13 [.int .u8 (a : Int), .int .u8 (b : Int), .int .u8 (c : Int)] H 5 (.bool true) := ⟨by
 refine con_of (show prog 13 = some c13 from rfl) rfl rfl fun m hn => ?_
 have r1 : (a : Int).tmod 5 = ((a % 5 : Nat) : Int) := tmodN a 5
 have r2 : (b : Int).tmod 9 = ((b % 9 : Nat) : Int) := tmodN b 9
 have r3 : (c : Int).tmod 3 = ((c % 3 : Nat) : Int) := tmodN c 3
 have hb9 : b % 9 < 9 := Nat.mod_lt _ (by omega)
 have w1 : IntKind.i64.wrap ((b % 9 : Nat) : Int) = ((b % 9 : Nat) : Int) := w64r (by omega) (by omega)
 have w2 : IntKind.i64.wrap (1 + ((b % 9 : Nat) : Int)) = ((b % 9 + 1 : Nat) : Int) := by rw [w64r (by omega) (by omega)]; omega
 obtain ⟨v, dn, dd, tn, td, hn', hd, wn, wd, v2, f1, f2, f3, f4, f5, f6, f7, f8, f9, f10, f11⟩ := lastsF (a % 5) (Nat.mod_lt _ (by omega))
 obtain ⟨u, u1, u2, u3, u4, u5, u6⟩ := unitF (c % 3) (Nat.mod_lt _ (by omega))
 have u7 := u6 (b % 9) hb9
 have u8 := (u5 (b % 9) hb9).2
 try simp only [↓nrmL, nrmZ, Nat.reduceEqDiff, ↓reduceIte, Nat.reduceAdd, Int.reduceBEq, Int.reduceBNe, r1, f1, f2, f3, f4, f5, f6, f7, f8, f9]
 refine sq ?_
 refine rg fun KF hKF => ?_
 refine mB rfl ?_
 refine WpO.nil (hKF _ _ ?_)
 refine sq ?_
 refine rg fun KF hKF => ?_
 refine mI rfl ?_
 refine Fo.bin rfl rfl rfl (by simp only [↓nrmL, nrmZ, Nat.reduceEqDiff, ↓reduceIte, Nat.reduceAdd, Int.reduceBEq, Int.reduceBNe, r1, f1, f2, f3, f4, f5, f6, f7, f8, f9]; rfl) ?_
 refine Fo.bin rfl rfl rfl (by simp only [↓nrmL, nrmZ, Nat.reduceEqDiff, ↓reduceIte, Nat.reduceAdd, Int.reduceBEq, Int.reduceBNe, r1, f1, f2, f3, f4, f5, f6, f7, f8, f9]; rfl) ?_
 refine mI rfl ?_
 refine WpO.nil (hKF _ _ ?_)
 refine sq ?_
 refine rg fun KF hKF => ?_
 refine mI rfl ?_
 refine Fo.pcall (v' := ?_) hn rfl (by simp only [↓nrmL, nrmZ, Nat.reduceEqDiff, ↓reduceIte, Nat.reduceAdd, Int.reduceBEq, Int.reduceBNe, r1, f1, f2, f3, f4, f5, f6, f7, f8, f9, List.map]; rfl) rfl ?hv fun _ _ => ?_; case hv => (simp only [↓nrmL, nrmZ, Nat.reduceEqDiff, ↓reduceIte, Nat.reduceAdd, Int.reduceBEq, Int.reduceBNe, r1, f1, f2, f3, f4, f5, f6, f7, f8, f9]; rfl)
 refine mT rfl ?_
 refine Fo.extr rfl rfl ?_
 refine Fo.extr rfl rfl ?_
 refine Fo.new ?_
 refine Fo.st rfl (rfl : _ = AVal.agg _) rfl rfl rfl (by repeat (first | rfl | refine allOne_cons ?_)) (by simp only [↓nrmL, nrmZ, Nat.reduceEqDiff, ↓reduceIte, Nat.reduceAdd, Int.reduceBEq, Int.reduceBNe, r1, f1, f2, f3, f4, f5, f6, f7, f8, f9]; rfl) ?_
 refine mI rfl ?_
 refine WpO.nil (hKF _ _ ?_)
 refine sq ?_
 refine rg fun KF hKF => ?_
 refine mI rfl ?_
 refine Fo.pcall (v' := ?_) hn rfl (by simp only [↓nrmL, nrmZ, Nat.reduceEqDiff, ↓reduceIte, Nat.reduceAdd, Int.reduceBEq, Int.reduceBNe, r1, f1, f2, f3, f4, f5, f6, f7, f8, f9, List.map]; rfl) rfl ?hv fun _ _ => ?_; case hv => (simp only [↓nrmL, nrmZ, Nat.reduceEqDiff, ↓reduceIte, Nat.reduceAdd, Int.reduceBEq, Int.reduceBNe, r1, f1, f2, f3, f4, f5, f6, f7, f8, f9]; rfl)
 refine mT rfl ?_
 refine Fo.extr rfl rfl ?_
 refine Fo.extr rfl rfl ?_
 refine Fo.new ?_
 refine Fo.st rfl (rfl : _ = AVal.agg _) rfl rfl rfl (by repeat (first | rfl | refine allOne_cons ?_)) (by simp only [↓nrmL, nrmZ, Nat.reduceEqDiff, ↓reduceIte, Nat.reduceAdd, Int.reduceBEq, Int.reduceBNe, r1, f1, f2, f3, f4, f5, f6, f7, f8, f9]; rfl) ?_
 refine mI rfl ?_
 refine WpO.nil (hKF _ _ ?_)
 refine sq ?_
 refine rg fun KF hKF => ?_
 refine mI rfl ?_
 refine Fo.pcall (v' := ?_) hn rfl (by simp only [↓nrmL, nrmZ, Nat.reduceEqDiff, ↓reduceIte, Nat.reduceAdd, Int.reduceBEq, Int.reduceBNe, r1, f1, f2, f3, f4, f5, f6, f7, f8, f9, List.map]; rfl) rfl ?hv fun _ _ => ?_; case hv => (simp only [↓nrmL, nrmZ, Nat.reduceEqDiff, ↓reduceIte, Nat.reduceAdd, Int.reduceBEq, Int.reduceBNe, r1, f1, f2, f3, f4, f5, f6, f7, f8, f9]; rfl)
 refine mT rfl ?_
 refine Fo.extr rfl rfl ?_
 refine Fo.extr rfl rfl ?_
 refine Fo.new ?_
 refine Fo.st rfl (rfl : _ = AVal.agg _) rfl rfl rfl (by repeat (first | rfl | refine allOne_cons ?_)) (by simp only [↓nrmL, nrmZ, Nat.reduceEqDiff, ↓reduceIte, Nat.reduceAdd, Int.reduceBEq, Int.reduceBNe, r1, f1, f2, f3, f4, f5, f6, f7, f8, f9]; rfl) ?_
 refine mI rfl ?_
 refine WpO.nil (hKF _ _ ?_)
 refine sq ?_
 refine rg fun KF hKF => ?_
 refine mI rfl ?_
 refine Fo.pcall (v' := ?_) hn rfl (by simp only [↓nrmL, nrmZ, Nat.reduceEqDiff, ↓reduceIte, Nat.reduceAdd, Int.reduceBEq, Int.reduceBNe, r1, f1, f2, f3, f4, f5, f6, f7, f8, f9, List.map]; rfl) rfl ?hv fun _ _ => ?_; case hv => (simp only [↓nrmL, nrmZ, Nat.reduceEqDiff, ↓reduceIte, Nat.reduceAdd, Int.reduceBEq, Int.reduceBNe, r1, f1, f2, f3, f4, f5, f6, f7, f8, f9]; rfl)
 refine mT rfl ?_
 refine Fo.extr rfl rfl ?_
 refine Fo.extr rfl rfl ?_
 refine Fo.new ?_
 refine Fo.st rfl (rfl : _ = AVal.agg _) rfl rfl rfl (by repeat (first | rfl | refine allOne_cons ?_)) (by simp only [↓nrmL, nrmZ, Nat.reduceEqDiff, ↓reduceIte, Nat.reduceAdd, Int.reduceBEq, Int.reduceBNe, r1, f1, f2, f3, f4, f5, f6, f7, f8, f9]; rfl) ?_
 refine mI rfl ?_
 refine WpO.nil (hKF _ _ ?_)
 refine sq ?_
 refine rg fun KF hKF => ?_
 refine Fo.ldN rfl rfl (by simp only [↓nrmL, nrmZ, Nat.reduceEqDiff, ↓reduceIte, Nat.reduceAdd, Int.reduceBEq, Int.reduceBNe, r1, f1, f2, f3, f4, f5, f6, f7, f8, f9]; rfl) ?_
 refine Fo.build (by repeat (first | refine aFill1 (by first | exact (rfl : _ = AVal.int _ _) | exact (rfl : _ = AVal.ptr _ _) | exact (rfl : _ = AVal.bool _) | exact (rfl : _ = AVal.agg _) | exact (rfl : _ = AVal.tuple _) | exact (rfl : _ = AVal.func _ _ _) | exact (rfl : _ = AVal.nslice) | ((try simp only [↓nrmL, nrmK, Nat.reduceEqDiff, ↓reduceIte]); rfl)) rfl ?_ | rfl)) (by simp only [↓nrmL, nrmZ, Nat.reduceEqDiff, ↓reduceIte, Nat.reduceAdd, Int.reduceBEq, Int.reduceBNe, r1, f1, f2, f3, f4, f5, f6, f7, f8, f9]; rfl) ?_
 refine Fo.pcall (v' := ?_) hn rfl (by simp only [↓nrmL, nrmZ, Nat.reduceEqDiff, ↓reduceIte, Nat.reduceAdd, Int.reduceBEq, Int.reduceBNe, r1, f1, f2, f3, f4, f5, f6, f7, f8, f9, List.map]; rfl) rfl ?hv fun _ _ => ?_; case hv => (simp only [↓nrmL, nrmZ, Nat.reduceEqDiff, ↓reduceIte, Nat.reduceAdd, Int.reduceBEq, Int.reduceBNe, r1, f1, f2, f3, f4, f5, f6, f7, f8, f9]; rfl)
 refine mT rfl ?_
 refine Fo.extr rfl rfl ?_
 refine Fo.extr rfl rfl ?_
 refine Fo.new ?_
 refine Fo.st rfl (rfl : _ = AVal.agg _) rfl rfl rfl (by repeat (first | rfl | refine allOne_cons ?_)) (by simp only [↓nrmL, nrmZ, Nat.reduceEqDiff, ↓reduceIte, Nat.reduceAdd, Int.reduceBEq, Int.reduceBNe, r1, f1, f2, f3, f4, f5, f6, f7, f8, f9]; rfl) ?_
 refine mI rfl ?_
 refine WpO.nil (hKF _ _ ?_)
 refine sq ?_
 refine rg fun KF hKF => ?_
 refine Fo.ldN rfl rfl (by simp only [↓nrmL, nrmZ, Nat.reduceEqDiff, ↓reduceIte, Nat.reduceAdd, Int.reduceBEq, Int.reduceBNe, r1, f1, f2, f3, f4, f5, f6, f7, f8, f9]; rfl) ?_
 refine Fo.ldN rfl rfl (by simp only [↓nrmL, nrmZ, Nat.reduceEqDiff, ↓reduceIte, Nat.reduceAdd, Int.reduceBEq, Int.reduceBNe, r1, f1, f2, f3, f4, f5, f6, f7, f8, f9]; rfl) ?_
 refine Fo.pcall (v' := ?_) hn rfl (by simp only [↓nrmL, nrmZ, Nat.reduceEqDiff, ↓reduceIte, Nat.reduceAdd, Int.reduceBEq, Int.reduceBNe, r1, f1, f2, f3, f4, f5, f6, f7, f8, f9, List.map]; rfl) rfl ?hv fun _ _ => ?_; case hv => (simp only [↓nrmL, nrmZ, Nat.reduceEqDiff, ↓reduceIte, Nat.reduceAdd, Int.reduceBEq, Int.reduceBNe, r1, f1, f2, f3, f4, f5, f6, f7, f8, f9]; rfl)
 refine mT rfl ?_
 refine Fo.extr rfl rfl ?_
 refine Fo.extr rfl rfl ?_
 refine Fo.new ?_
 refine Fo.st rfl (rfl : _ = AVal.agg _) rfl rfl rfl (by repeat (first | rfl | refine allOne_cons ?_)) (by simp only [↓nrmL, nrmZ, Nat.reduceEqDiff, ↓reduceIte, Nat.reduceAdd, Int.reduceBEq, Int.reduceBNe, r1, f1, f2, f3, f4, f5, f6, f7, f8, f9]; rfl) ?_
 refine mI rfl ?_
 refine WpO.nil (hKF _ _ ?_)
 refine sq ?_
 refine rg fun KF hKF => ?_
 refine Fo.ldN rfl rfl (by simp only [↓nrmL, nrmZ, Nat.reduceEqDiff, ↓reduceIte, Nat.reduceAdd, Int.reduceBEq, Int.reduceBNe, r1, f1, f2, f3, f4, f5, f6, f7, f8, f9]; rfl) ?_
 refine Fo.build (by repeat (first | refine aFill1 (by first | exact (rfl : _ = AVal.int _ _) | exact (rfl : _ = AVal.ptr _ _) | exact (rfl : _ = AVal.bool _) | exact (rfl : _ = AVal.agg _) | exact (rfl : _ = AVal.tuple _) | exact (rfl : _ = AVal.func _ _ _) | exact (rfl : _ = AVal.nslice) | ((try simp only [↓nrmL, nrmK, Nat.reduceEqDiff, ↓reduceIte]); rfl)) rfl ?_ | rfl)) (by simp only [↓nrmL, nrmZ, Nat.reduceEqDiff, ↓reduceIte, Nat.reduceAdd, Int.reduceBEq, Int.reduceBNe, r1, f1, f2, f3, f4, f5, f6, f7, f8, f9]; rfl) ?_
 refine Fo.pcall (v' := ?_) hn rfl (by simp only [↓nrmL, nrmZ, Nat.reduceEqDiff, ↓reduceIte, Nat.reduceAdd, Int.reduceBEq, Int.reduceBNe, r1, f1, f2, f3, f4, f5, f6, f7, f8, f9, List.map]; rfl) rfl ?hv fun _ _ => ?_; case hv => (simp only [↓nrmL, nrmZ, Nat.reduceEqDiff, ↓reduceIte, Nat.reduceAdd, Int.reduceBEq, Int.reduceBNe, r1, f1, f2, f3, f4, f5, f6, f7, f8, f9]; rfl)
 refine mT rfl ?_
 refine Fo.extr rfl rfl ?_
 refine Fo.extr rfl rfl ?_
 refine Fo.new ?_
 refine Fo.st rfl (rfl : _ = AVal.agg _) rfl rfl rfl (by repeat (first | rfl | refine allOne_cons ?_)) (by simp only [↓nrmL, nrmZ, Nat.reduceEqDiff, ↓reduceIte, Nat.reduceAdd, Int.reduceBEq, Int.reduceBNe, r1, f1, f2, f3, f4, f5, f6, f7, f8, f9]; rfl) ?_
 refine mI rfl ?_
 refine WpO.nil (hKF _ _ ?_)
 refine sq ?_
 refine rg fun KF hKF => ?_
 refine Fo.ldN rfl rfl (by simp only [↓nrmL, nrmZ, Nat.reduceEqDiff, ↓reduceIte, Nat.reduceAdd, Int.reduceBEq, Int.reduceBNe, r1, f1, f2, f3, f4, f5, f6, f7, f8, f9]; rfl) ?_
 refine Fo.ldN rfl rfl (by simp only [↓nrmL, nrmZ, Nat.reduceEqDiff, ↓reduceIte, Nat.reduceAdd, Int.reduceBEq, Int.reduceBNe, r1, f1, f2, f3, f4, f5, f6, f7, f8, f9]; rfl) ?_
 refine Fo.pcall (v' := ?_) hn rfl (by simp only [↓nrmL, nrmZ, Nat.reduceEqDiff, ↓reduceIte, Nat.reduceAdd, Int.reduceBEq, Int.reduceBNe, r1, f1, f2, f3, f4, f5, f6, f7, f8, f9, List.map]; rfl) rfl ?hv fun _ _ => ?_; case hv => (simp only [↓nrmL, nrmZ, Nat.reduceEqDiff, ↓reduceIte, Nat.reduceAdd, Int.reduceBEq, Int.reduceBNe, r1, f1, f2, f3, f4, f5, f6, f7, f8, f9]; rfl)
 refine mT rfl ?_
 refine Fo.extr rfl rfl ?_
 refine Fo.extr rfl rfl ?_
 refine Fo.new ?_
 refine Fo.st rfl (rfl : _ = AVal.agg _) rfl rfl rfl (by repeat (first | rfl | refine allOne_cons ?_)) (by simp only [↓nrmL, nrmZ, Nat.reduceEqDiff, ↓reduceIte, Nat.reduceAdd, Int.reduceBEq, Int.reduceBNe, r1, f1, f2, f3, f4, f5, f6, f7, f8, f9]; rfl) ?_
 refine mI rfl ?_
 refine WpO.nil (hKF _ _ ?_)
 refine sq ?_
 refine sq ?_
 refine rg fun KF hKF => ?_
 refine mI rfl ?_
 refine Fo.bin rfl rfl rfl (by simp only [↓nrmL, nrmZ, Nat.reduceEqDiff, ↓reduceIte, Nat.reduceAdd, Int.reduceBEq, Int.reduceBNe, r1, f1, f2, f3, f4, f5, f6, f7, f8, f9]; rfl) ?_
 refine mB rfl ?_
 refine Fo.yes rfl rfl ?_
 refine mI rfl ?_
 refine Fo.yes rfl rfl ?_
 refine Fo.bin rfl rfl rfl (by simp only [↓nrmL, nrmZ, Nat.reduceEqDiff, ↓reduceIte, Nat.reduceAdd, Int.reduceBEq, Int.reduceBNe, r1, f1, f2, f3, f4, f5, f6, f7, f8, f9]; rfl) ?_
 refine fB rfl rfl ?_
 refine mB rfl ?_
 refine Fo.yes rfl rfl ?_
 refine mI rfl ?_
 refine Fo.yes rfl rfl ?_
 refine Fo.bin rfl rfl rfl (by simp only [↓nrmL, nrmZ, Nat.reduceEqDiff, ↓reduceIte, Nat.reduceAdd, Int.reduceBEq, Int.reduceBNe, r1, f1, f2, f3, f4, f5, f6, f7, f8, f9]; rfl) ?_
 refine fB rfl rfl ?_
 refine mB rfl ?_
 refine Fo.yes rfl rfl ?_
 refine mI rfl ?_
 refine Fo.yes rfl rfl ?_
 refine Fo.bin rfl rfl rfl (by simp only [↓nrmL, nrmZ, Nat.reduceEqDiff, ↓reduceIte, Nat.reduceAdd, Int.reduceBEq, Int.reduceBNe, r1, f1, f2, f3, f4, f5, f6, f7, f8, f9]; rfl) ?_
 refine fB rfl rfl ?_
 refine mB rfl ?_
 refine Fo.yes rfl rfl ?_
 refine mI rfl ?_
 refine Fo.yes rfl rfl ?_
 refine Fo.bin rfl rfl rfl (by simp only [↓nrmL, nrmZ, Nat.reduceEqDiff, ↓reduceIte, Nat.reduceAdd, Int.reduceBEq, Int.reduceBNe, r1, f1, f2, f3, f4, f5, f6, f7, f8, f9]; rfl) ?_
 refine fB rfl rfl ?_
 refine mB rfl ?_
 refine Fo.yes rfl rfl ?_
 refine mI rfl ?_
 refine Fo.yes rfl rfl ?_
 refine Fo.bin rfl rfl rfl (by simp only [↓nrmL, nrmZ, Nat.reduceEqDiff, ↓reduceIte, Nat.reduceAdd, Int.reduceBEq, Int.reduceBNe, r1, f1, f2, f3, f4, f5, f6, f7, f8, f9]; rfl) ?_
 refine fB rfl rfl ?_
 refine mB rfl ?_
 refine Fo.yes rfl rfl ?_
 refine mI rfl ?_
 refine Fo.yes rfl rfl ?_
 refine Fo.bin rfl rfl rfl (by simp only [↓nrmL, nrmZ, Nat.reduceEqDiff, ↓reduceIte, Nat.reduceAdd, Int.reduceBEq, Int.reduceBNe, r1, f1, f2, f3, f4, f5, f6, f7, f8, f9]; rfl) ?_
 refine fB rfl rfl ?_
 refine mB rfl ?_
 refine Fo.yes rfl rfl ?_
 refine mI rfl ?_
 refine Fo.yes rfl rfl ?_
 refine Fo.bin rfl rfl rfl (by simp only [↓nrmL, nrmZ, Nat.reduceEqDiff, ↓reduceIte, Nat.reduceAdd, Int.reduceBEq, Int.reduceBNe, r1, f1, f2, f3, f4, f5, f6, f7, f8, f9]; rfl) ?_
 refine fB rfl rfl ?_
 refine mB rfl ?_
 refine Fo.yes rfl rfl ?_
 refine Fo.ldN rfl rfl (by simp only [↓nrmL, nrmZ, Nat.reduceEqDiff, ↓reduceIte, Nat.reduceAdd, Int.reduceBEq, Int.reduceBNe, r1, f1, f2, f3, f4, f5, f6, f7, f8, f9]; rfl) ?_
 refine Fo.yes rfl rfl ?_
 refine Fo.ldN rfl rfl (by simp only [↓nrmL, nrmZ, Nat.reduceEqDiff, ↓reduceIte, Nat.reduceAdd, Int.reduceBEq, Int.reduceBNe, r1, f1, f2, f3, f4, f5, f6, f7, f8, f9]; rfl) ?_
 refine Fo.yes rfl rfl ?_
 dsimp only [cond_true, cond_false]
 refine Fo.now rfl (exec_eqT rfl rfl (aEq_same _ _)) rfl ?_
 refine fB rfl rfl ?_
 refine mB rfl ?_
 refine Fo.yes rfl rfl ?_
 refine Fo.ldN rfl rfl (by simp only [↓nrmL, nrmZ, Nat.reduceEqDiff, ↓reduceIte, Nat.reduceAdd, Int.reduceBEq, Int.reduceBNe]; rfl) ?_
 refine Fo.yes rfl rfl ?_
 refine Fo.ldN rfl rfl (by simp only [↓nrmL, nrmZ, Nat.reduceEqDiff, ↓reduceIte, Nat.reduceAdd, Int.reduceBEq, Int.reduceBNe]; rfl) ?_
 refine Fo.yes rfl rfl ?_
 dsimp only [cond_true, cond_false]
 refine Fo.now rfl (exec_eqT rfl rfl (aEq_same _ _)) rfl ?_
 refine fB rfl rfl ?_
 refine mB rfl ?_
 refine Fo.yes rfl rfl ?_
 refine Fo.ldN rfl rfl (by simp only [↓nrmL, nrmZ, Nat.reduceEqDiff, ↓reduceIte, Nat.reduceAdd, Int.reduceBEq, Int.reduceBNe]; rfl) ?_
 refine Fo.yes rfl rfl ?_
 refine Fo.ldN rfl rfl (by simp only [↓nrmL, nrmZ, Nat.reduceEqDiff, ↓reduceIte, Nat.reduceAdd, Int.reduceBEq, Int.reduceBNe]; rfl) ?_
 refine Fo.yes rfl rfl ?_
 dsimp only [cond_true, cond_false]
 refine Fo.now rfl (exec_eqT rfl rfl (aEq_same _ _)) rfl ?_
 haveI := u2
 rcases f11 with g1 | ⟨g1, g2⟩
 ·skip
  try simp only [↓nrmL, nrmZ, Nat.reduceEqDiff, ↓reduceIte, Nat.reduceAdd, Int.reduceBEq, Int.reduceBNe, g1, r2, w1, w2, r3, u1, u7, u8]
  refine fB rfl rfl ?_
  refine WpO.nil (hKF _ _ ?_)
  refine Wp.cond (b := false) rfl ?_
  refine Wp.skip ?_
  refine sq ?_
  refine sq ?_
  refine rg fun KF hKF => ?_
  refine mI rfl ?_
  refine Fo.bin rfl rfl rfl (by simp only [↓nrmL, nrmZ, Nat.reduceEqDiff, ↓reduceIte, Nat.reduceAdd, Int.reduceBEq, Int.reduceBNe, g1, r2, w1, w2, r3, u1, u7, u8]; rfl) ?_
  refine WpO.nil (hKF _ _ ?_)
  refine Wp.cond (b := false) rfl ?_
  refine Wp.skip ?_
  refine sq ?_
  refine rg fun KF hKF => ?_
  refine mI rfl ?_
  refine Fo.bin rfl rfl rfl (by simp only [↓nrmL, nrmZ, Nat.reduceEqDiff, ↓reduceIte, Nat.reduceAdd, Int.reduceBEq, Int.reduceBNe, g1, r2, w1, w2, r3, u1, u7, u8]; rfl) ?_
  refine Fo.now rfl rfl (by simp only [↓nrmL, nrmZ, Nat.reduceEqDiff, ↓reduceIte, Nat.reduceAdd, Int.reduceBEq, Int.reduceBNe, g1, r2, w1, w2, r3, u1, u7, u8]; rfl) ?_
  refine Fo.bin rfl rfl rfl (by simp only [↓nrmL, nrmZ, Nat.reduceEqDiff, ↓reduceIte, Nat.reduceAdd, Int.reduceBEq, Int.reduceBNe, g1, r2, w1, w2, r3, u1, u7, u8]; rfl) ?_
  refine mI rfl ?_
  refine Fo.bin rfl rfl rfl (by simp only [↓nrmL, nrmZ, Nat.reduceEqDiff, ↓reduceIte, Nat.reduceAdd, Int.reduceBEq, Int.reduceBNe, g1, r2, w1, w2, r3, u1, u7, u8]; rfl) ?_
  refine Fo.bin rfl rfl rfl (by simp only [↓nrmL, nrmZ, Nat.reduceEqDiff, ↓reduceIte, Nat.reduceAdd, Int.reduceBEq, Int.reduceBNe, g1, r2, w1, w2, r3, u1, u7, u8]; rfl) ?_
  refine Fo.build (by repeat (first | refine aFill1 (by first | exact (rfl : _ = AVal.int _ _) | exact (rfl : _ = AVal.ptr _ _) | exact (rfl : _ = AVal.bool _) | exact (rfl : _ = AVal.agg _) | exact (rfl : _ = AVal.tuple _) | exact (rfl : _ = AVal.func _ _ _) | exact (rfl : _ = AVal.nslice) | ((try simp only [↓nrmL, nrmK, Nat.reduceEqDiff, ↓reduceIte]); rfl)) rfl ?_ | rfl)) (by simp only [↓nrmL, nrmZ, Nat.reduceEqDiff, ↓reduceIte, Nat.reduceAdd, Int.reduceBEq, Int.reduceBNe, g1, r2, w1, w2, r3, u1, u7, u8]; rfl) ?_
  refine Fo.new ?_
  refine Fo.st rfl (rfl : _ = AVal.agg _) rfl rfl rfl (by repeat (first | rfl | refine allOne_cons ?_)) (by simp only [↓nrmL, nrmZ, Nat.reduceEqDiff, ↓reduceIte, Nat.reduceAdd, Int.reduceBEq, Int.reduceBNe, g1, r2, w1, w2, r3, u1, u7, u8]; rfl) ?_
  refine WpO.nil (hKF _ _ ?_)
  refine sq ?_
  refine rg fun KF hKF => ?_
  refine Fo.ldN rfl rfl (by simp only [↓nrmL, nrmZ, Nat.reduceEqDiff, ↓reduceIte, Nat.reduceAdd, Int.reduceBEq, Int.reduceBNe, g1, r2, w1, w2, r3, u1, u7, u8]; rfl) ?_
  refine Fo.pcall (v' := ?_) hn rfl (by simp only [↓nrmL, nrmZ, Nat.reduceEqDiff, ↓reduceIte, Nat.reduceAdd, Int.reduceBEq, Int.reduceBNe, g1, r2, w1, w2, r3, u1, u7, u8, List.map]; rfl) rfl ?hv fun _ _ => ?_; case hv => (simp only [↓nrmL, nrmZ, Nat.reduceEqDiff, ↓reduceIte, Nat.reduceAdd, Int.reduceBEq, Int.reduceBNe, g1, r2, w1, w2, r3, u1, u7, u8]; rfl)
  refine mT rfl ?_
  refine Fo.extr rfl rfl ?_
  refine Fo.extr rfl rfl ?_
  refine Fo.new ?_
  refine Fo.st rfl (rfl : _ = AVal.agg _) rfl rfl rfl (by repeat (first | rfl | refine allOne_cons ?_)) (by simp only [↓nrmL, nrmZ, Nat.reduceEqDiff, ↓reduceIte, Nat.reduceAdd, Int.reduceBEq, Int.reduceBNe, g1, r2, w1, w2, r3, u1, u7, u8]; rfl) ?_
  refine mI rfl ?_
  refine WpO.nil (hKF _ _ ?_)
  refine sq ?_
  refine sq ?_
  refine rg fun KF hKF => ?_
  refine mI rfl ?_
  refine Fo.bin rfl rfl rfl (by simp only [↓nrmL, nrmZ, Nat.reduceEqDiff, ↓reduceIte, Nat.reduceAdd, Int.reduceBEq, Int.reduceBNe, g1, r2, w1, w2, r3, u1, u7, u8]; rfl) ?_
  refine WpO.nil (hKF _ _ ?_)
  refine Wp.cond (b := false) rfl ?_
  refine Wp.skip ?_
  refine sq ?_
  refine rg fun KF hKF => ?_
  refine Fo.build (by repeat (first | refine aFill1 (by first | exact (rfl : _ = AVal.int _ _) | exact (rfl : _ = AVal.ptr _ _) | exact (rfl : _ = AVal.bool _) | exact (rfl : _ = AVal.agg _) | exact (rfl : _ = AVal.tuple _) | exact (rfl : _ = AVal.func _ _ _) | exact (rfl : _ = AVal.nslice) | ((try simp only [↓nrmL, nrmK, Nat.reduceEqDiff, ↓reduceIte]); rfl)) rfl ?_ | rfl)) (by simp only [↓nrmL, nrmZ, Nat.reduceEqDiff, ↓reduceIte, Nat.reduceAdd, Int.reduceBEq, Int.reduceBNe, g1, r2, w1, w2, r3, u1, u7, u8]; rfl) ?_
  refine Fo.new ?_
  refine Fo.st rfl (rfl : _ = AVal.agg _) rfl rfl rfl (by repeat (first | rfl | refine allOne_cons ?_)) (by simp only [↓nrmL, nrmZ, Nat.reduceEqDiff, ↓reduceIte, Nat.reduceAdd, Int.reduceBEq, Int.reduceBNe, g1, r2, w1, w2, r3, u1, u7, u8]; rfl) ?_
  refine WpO.nil (hKF _ _ ?_)
  refine sq ?_
  refine sq ?_
  refine rg fun KF hKF => ?_
  refine Fo.fa rfl ?_
  refine Fo.ld rfl rfl ?_
  refine mI rfl ?_
  refine WpO.nil (hKF _ _ ?_)
  refine Wp.block ?_
  dsimp only [cond_true, cond_false]
  refine Wp.loopF [6, 30, 31, 157, 158, 159, 160, 161, 162, 163, 164, 165, 166, 167, 168, 169, 170, 171, 172, 173, 174, 175] (fun j : Nat => [(157, .int .i64 (j : Int))]) (fun fr H3 j H2 => j ≤ b % 9 + 1 ∧ ∃ r26 r27 r29, fr 26 = .ptr r26 0 ∧ fr 27 = .ptr r27 0 ∧ fr 29 = .ptr r29 0 ∧ HasRow H2 r26 [.int .i64 ((b % 9 + 1 : Nat) : Int), .int .i64 u] true (2 * 28) ∧ HasRow H2 r27 [.int .i64 (ratioS ((b % 9 + 1 : Nat) : Int) u).1, .int .i64 (ratioS ((b % 9 + 1 : Nat) : Int) u).2.1] true (2 * 23) ∧ HasRow H2 r29 [.int .i64 (ratioS (j : Int) u).1, .int .i64 (ratioS (j : Int) u).2.1] true (2 * 23) ∧ Ext0 H H2 ∧ LeN H r29 ∧ NeR r26 r29 ∧ NeR r27 r29) (fun j => b % 9 + 1 - j) 0 rfl (fun _ => rfl) ⟨rfl, trivial⟩ ?hi (by unfold fuel0 at hn; omega) ?step
  case hi =>
   refine ⟨Nat.zero_le _, ?r26_0, ?r27_0, ?r29_0, ?a_0, ?b_0, ?c_0, ?rest_0⟩
   case a_0 => first | rfl | (simp only [↓nrmL, nrmZ, Nat.reduceEqDiff, ↓reduceIte] <;> rfl)
   case b_0 => first | rfl | (simp only [↓nrmL, nrmZ, Nat.reduceEqDiff, ↓reduceIte] <;> rfl)
   case c_0 => first | rfl | (simp only [↓nrmL, nrmZ, Nat.reduceEqDiff, ↓reduceIte] <;> rfl)
   case rest_0 =>
    refine ⟨inferInstance, inferInstance, ?_, inferInstance, inferInstance, inferInstance, inferInstance⟩
    rw [show ratioS ((0 : Nat) : Int) u = (0, 1, 0) from u4]
    infer_instance
  case step =>
   rintro j g H2 ⟨hj, r26, r27, r29, e26, e27, e29, h26, h27, h29, hx0, hle, hn1, hn2⟩
   simp only [↓nrmL, nrmZ, Nat.reduceEqDiff, ↓reduceIte, AVal.ptr.injEq, and_true] at e26 e27 e29
   subst e26 e27 e29
   simp only [↓nrmL, nrmZ, Nat.reduceEqDiff, ↓reduceIte, Nat.reduceAdd, Int.reduceBEq, Int.reduceBNe]
   by_cases hjb : j < b % 9 + 1
   ·have k1 : decide ((j : Int) < ((b % 9 + 1 : Nat) : Int)) = true := decide_eq_true (by omega)
    have wk : IntKind.i64.wrap ((j : Int) + 1) = ((j + 1 : Nat) : Int) := by rw [w64r (by omega) (by omega)]; omega
    obtain ⟨k2, k3⟩ := u5 j (by omega)
    try simp only [↓nrmL, nrmZ, Nat.reduceEqDiff, ↓reduceIte, Nat.reduceAdd, Int.reduceBEq, Int.reduceBNe, k1, u3, k2, k3, wk]
    refine sq ?_
    refine rg fun KF hKF => ?_
    refine Fo.bin rfl rfl rfl (by simp only [↓nrmL, nrmZ, Nat.reduceEqDiff, ↓reduceIte, Nat.reduceAdd, Int.reduceBEq, Int.reduceBNe, k1, u3, k2, k3, wk]; rfl) ?_
    refine WpO.nil (hKF _ _ ?_)
    refine sq ?_
    refine Wp.cond (b := true) rfl ?_
    refine Wp.skip ?_
    refine sq ?_
    refine Wp.block ?_
    refine sq ?_
    refine rg fun KF hKF => ?_
    refine Fo.fa rfl ?_
    refine Fo.ld rfl rfl ?_
    refine Fo.pcall (v' := ?_) hn rfl (by simp only [↓nrmL, nrmZ, Nat.reduceEqDiff, ↓reduceIte, Nat.reduceAdd, Int.reduceBEq, Int.reduceBNe, k1, u3, k2, k3, wk, List.map]; rfl) rfl ?hv fun _ _ => ?_; case hv => (simp only [↓nrmL, nrmZ, Nat.reduceEqDiff, ↓reduceIte, Nat.reduceAdd, Int.reduceBEq, Int.reduceBNe, k1, u3, k2, k3, wk]; rfl)
    refine mT rfl ?_
    refine Fo.extr rfl rfl ?_
    refine Fo.extr rfl rfl ?_
    refine Fo.new ?_
    refine Fo.st rfl (rfl : _ = AVal.agg _) rfl rfl rfl (by repeat (first | rfl | refine allOne_cons ?_)) (by simp only [↓nrmL, nrmZ, Nat.reduceEqDiff, ↓reduceIte, Nat.reduceAdd, Int.reduceBEq, Int.reduceBNe, k1, u3, k2, k3, wk]; rfl) ?_
    refine mI rfl ?_
    refine WpO.nil (hKF _ _ ?_)
    refine sq ?_
    refine sq ?_
    refine rg fun KF hKF => ?_
    refine mI rfl ?_
    refine Fo.bin rfl rfl rfl (by simp only [↓nrmL, nrmZ, Nat.reduceEqDiff, ↓reduceIte, Nat.reduceAdd, Int.reduceBEq, Int.reduceBNe, k1, u3, k2, k3, wk]; rfl) ?_
    refine WpO.nil (hKF _ _ ?_)
    refine Wp.cond (b := false) rfl ?_
    refine Wp.skip ?_
    refine sq ?_
    refine rg fun KF hKF => ?_
    refine Fo.ldN rfl rfl (by simp only [↓nrmL, nrmZ, Nat.reduceEqDiff, ↓reduceIte, Nat.reduceAdd, Int.reduceBEq, Int.reduceBNe, k1, u3, k2, k3, wk]; rfl) ?_
    refine Fo.ldN rfl rfl (by simp only [↓nrmL, nrmZ, Nat.reduceEqDiff, ↓reduceIte, Nat.reduceAdd, Int.reduceBEq, Int.reduceBNe, k1, u3, k2, k3, wk]; rfl) ?_
    refine Fo.pcall (v' := ?_) hn rfl (by simp only [↓nrmL, nrmZ, Nat.reduceEqDiff, ↓reduceIte, Nat.reduceAdd, Int.reduceBEq, Int.reduceBNe, k1, u3, k2, k3, wk, List.map]; rfl) rfl ?hv fun _ _ => ?_; case hv => (simp only [↓nrmL, nrmZ, Nat.reduceEqDiff, ↓reduceIte, Nat.reduceAdd, Int.reduceBEq, Int.reduceBNe, k1, u3, k2, k3, wk]; rfl)
    refine mT rfl ?_
    refine Fo.extr rfl rfl ?_
    refine Fo.extr rfl rfl ?_
    refine Fo.st rfl (rfl : _ = AVal.agg _) rfl rfl rfl (by repeat (first | rfl | refine allOne_cons ?_)) (by simp only [↓nrmL, nrmZ, Nat.reduceEqDiff, ↓reduceIte, Nat.reduceAdd, Int.reduceBEq, Int.reduceBNe, k1, u3, k2, k3, wk]; rfl) ?_
    refine mI rfl ?_
    refine WpO.nil (hKF _ _ ?_)
    refine sq ?_
    refine rg fun KF hKF => ?_
    refine mI rfl ?_
    refine Fo.bin rfl rfl rfl (by simp only [↓nrmL, nrmZ, Nat.reduceEqDiff, ↓reduceIte, Nat.reduceAdd, Int.reduceBEq, Int.reduceBNe, k1, u3, k2, k3, wk]; rfl) ?_
    refine WpO.nil (hKF _ _ ?_)
    refine Wp.cond (b := false) rfl ?_
    refine Wp.skip ?_
    refine rg fun KF hKF => ?_
    refine Fo.bin rfl rfl rfl (by simp only [↓nrmL, nrmZ, Nat.reduceEqDiff, ↓reduceIte, Nat.reduceAdd, Int.reduceBEq, Int.reduceBNe, k1, u3, k2, k3, wk]; rfl) ?_
    refine mI rfl ?_
    refine WpO.nil (hKF _ _ ?_)
    dsimp only [cond_true, cond_false]
    refine ⟨j + 1, by omega, ⟨rfl, trivial⟩, by omega, ?r26_1, ?r27_1, ?r29_1, ?a_1, ?b_1, ?c_1, ?rest_1⟩
    case a_1 => first | rfl | (simp only [↓nrmL, nrmZ, Nat.reduceEqDiff, ↓reduceIte] <;> rfl)
    case b_1 => first | rfl | (simp only [↓nrmL, nrmZ, Nat.reduceEqDiff, ↓reduceIte] <;> rfl)
    case c_1 => first | rfl | (simp only [↓nrmL, nrmZ, Nat.reduceEqDiff, ↓reduceIte] <;> rfl)
    case rest_1 => exact ⟨inferInstance, inferInstance, inferInstance, inferInstance, inferInstance, inferInstance, inferInstance⟩
   ·have hje : j = b % 9 + 1 := by omega
    subst hje
    have k1 : decide (((b % 9 + 1 : Nat) : Int) < ((b % 9 + 1 : Nat) : Int)) = false := decide_eq_false (by omega)
    try simp only [↓nrmL, nrmZ, Nat.reduceEqDiff, ↓reduceIte, Nat.reduceAdd, Int.reduceBEq, Int.reduceBNe, k1]
    refine sq ?_
    refine rg fun KF hKF => ?_
    refine Fo.bin rfl rfl rfl (by simp only [↓nrmL, nrmZ, Nat.reduceEqDiff, ↓reduceIte, Nat.reduceAdd, Int.reduceBEq, Int.reduceBNe, k1]; rfl) ?_
    refine WpO.nil (hKF _ _ ?_)
    refine sq ?_
    refine Wp.cond (b := false) rfl ?_
    refine Wp.exit ?_
    refine sq ?_
    refine rg fun KF hKF => ?_
    refine Fo.ldN rfl rfl (by simp only [↓nrmL, nrmZ, Nat.reduceEqDiff, ↓reduceIte, Nat.reduceAdd, Int.reduceBEq, Int.reduceBNe, k1]; rfl) ?_
    refine Fo.ldN rfl rfl (by simp only [↓nrmL, nrmZ, Nat.reduceEqDiff, ↓reduceIte, Nat.reduceAdd, Int.reduceBEq, Int.reduceBNe, k1]; rfl) ?_
    refine Fo.now rfl (exec_eqT rfl rfl (aEq_same _ _)) rfl ?_
    refine mB rfl ?_
    refine Fo.yes rfl rfl ?_
    refine Fo.pcall (v' := ?_) hn rfl (by simp only [↓nrmL, nrmZ, Nat.reduceEqDiff, ↓reduceIte, Nat.reduceAdd, Int.reduceBEq, Int.reduceBNe, List.map]; rfl) rfl ?hv fun _ _ => ?_; case hv => rfl
    refine tB rfl rfl ?_
    refine mB rfl ?_
    refine WpO.nil (hKF _ _ ?_)
    refine Wp.ret ?_
    dsimp only [cond_true, cond_false]
    refine ⟨trivial, _, (by first | rfl | exact getAllC rfl rfl rfl rfl | exact getAllT rfl (getAllC rfl rfl rfl rfl) | exact getAllC rfl rfl rfl (getAllC rfl rfl rfl rfl) | exact getAllC1 rfl rfl rfl), ?_⟩
    exact ⟨rfl, Ext0.ext⟩
 ·skip
  try simp only [↓nrmL, nrmZ, Nat.reduceEqDiff, ↓reduceIte, Nat.reduceAdd, Int.reduceBEq, Int.reduceBNe, g1, f10, g2]
  refine fB rfl rfl ?_
  refine WpO.nil (hKF _ _ ?_)
  refine Wp.cond (b := false) rfl ?_
  refine Wp.skip ?_
  refine sq ?_
  refine sq ?_
  refine rg fun KF hKF => ?_
  refine mI rfl ?_
  refine Fo.bin rfl rfl rfl (by simp only [↓nrmL, nrmZ, Nat.reduceEqDiff, ↓reduceIte, Nat.reduceAdd, Int.reduceBEq, Int.reduceBNe, g1, f10, g2]; rfl) ?_
  refine WpO.nil (hKF _ _ ?_)
  refine Wp.cond (b := true) rfl ?_
  refine sq ?_
  refine rg fun KF hKF => ?_
  refine mI rfl ?_
  refine Fo.bin rfl rfl rfl (by simp only [↓nrmL, nrmZ, Nat.reduceEqDiff, ↓reduceIte, Nat.reduceAdd, Int.reduceBEq, Int.reduceBNe, g1, f10, g2]; rfl) ?_
  refine Fo.pcall (v' := ?_) hn rfl (by simp only [↓nrmL, nrmZ, Nat.reduceEqDiff, ↓reduceIte, Nat.reduceAdd, Int.reduceBEq, Int.reduceBNe, g1, f10, g2, List.map]; rfl) rfl ?hv fun _ _ => ?_; case hv => (simp only [↓nrmL, nrmZ, Nat.reduceEqDiff, ↓reduceIte, Nat.reduceAdd, Int.reduceBEq, Int.reduceBNe, g1, f10, g2]; rfl)
  refine mT rfl ?_
  refine Fo.extr rfl rfl ?_
  refine Fo.extr rfl rfl ?_
  refine Fo.new ?_
  refine Fo.st rfl (rfl : _ = AVal.agg _) rfl rfl rfl (by repeat (first | rfl | refine allOne_cons ?_)) (by simp only [↓nrmL, nrmZ, Nat.reduceEqDiff, ↓reduceIte, Nat.reduceAdd, Int.reduceBEq, Int.reduceBNe, g1, f10, g2]; rfl) ?_
  refine mI rfl ?_
  refine WpO.nil (hKF _ _ ?_)
  refine sq ?_
  refine rg fun KF hKF => ?_
  refine mI rfl ?_
  refine Fo.bin rfl rfl rfl (by simp only [↓nrmL, nrmZ, Nat.reduceEqDiff, ↓reduceIte, Nat.reduceAdd, Int.reduceBEq, Int.reduceBNe, g1, f10, g2]; rfl) ?_
  refine mB rfl ?_
  refine Fo.yes rfl rfl ?_
  refine Fo.ldN rfl rfl (by simp only [↓nrmL, nrmZ, Nat.reduceEqDiff, ↓reduceIte, Nat.reduceAdd, Int.reduceBEq, Int.reduceBNe, g1, f10, g2]; rfl) ?_
  refine Fo.yes rfl rfl ?_
  refine Fo.ldN rfl rfl (by simp only [↓nrmL, nrmZ, Nat.reduceEqDiff, ↓reduceIte, Nat.reduceAdd, Int.reduceBEq, Int.reduceBNe, g1, f10, g2]; rfl) ?_
  refine Fo.yes rfl rfl ?_
  dsimp only [cond_true, cond_false]
  refine Fo.now rfl (exec_eqT rfl rfl (aEq_same _ _)) rfl ?_
  try simp only [↓nrmL, nrmZ, Nat.reduceEqDiff, ↓reduceIte, Nat.reduceAdd, Int.reduceBEq, Int.reduceBNe, r2, w1, w2, r3, u1, u7, u8]
  refine fB rfl rfl ?_
  refine WpO.nil (hKF _ _ ?_)
  refine Wp.cond (b := false) rfl ?_
  refine Wp.skip ?_
  refine sq ?_
  refine rg fun KF hKF => ?_
  refine mI rfl ?_
  refine Fo.bin rfl rfl rfl (by simp only [↓nrmL, nrmZ, Nat.reduceEqDiff, ↓reduceIte, Nat.reduceAdd, Int.reduceBEq, Int.reduceBNe, r2, w1, w2, r3, u1, u7, u8]; rfl) ?_
  refine Fo.now rfl rfl (by simp only [↓nrmL, nrmZ, Nat.reduceEqDiff, ↓reduceIte, Nat.reduceAdd, Int.reduceBEq, Int.reduceBNe, r2, w1, w2, r3, u1, u7, u8]; rfl) ?_
  refine Fo.bin rfl rfl rfl (by simp only [↓nrmL, nrmZ, Nat.reduceEqDiff, ↓reduceIte, Nat.reduceAdd, Int.reduceBEq, Int.reduceBNe, r2, w1, w2, r3, u1, u7, u8]; rfl) ?_
  refine mI rfl ?_
  refine Fo.bin rfl rfl rfl (by simp only [↓nrmL, nrmZ, Nat.reduceEqDiff, ↓reduceIte, Nat.reduceAdd, Int.reduceBEq, Int.reduceBNe, r2, w1, w2, r3, u1, u7, u8]; rfl) ?_
  refine Fo.bin rfl rfl rfl (by simp only [↓nrmL, nrmZ, Nat.reduceEqDiff, ↓reduceIte, Nat.reduceAdd, Int.reduceBEq, Int.reduceBNe, r2, w1, w2, r3, u1, u7, u8]; rfl) ?_
  refine Fo.build (by repeat (first | refine aFill1 (by first | exact (rfl : _ = AVal.int _ _) | exact (rfl : _ = AVal.ptr _ _) | exact (rfl : _ = AVal.bool _) | exact (rfl : _ = AVal.agg _) | exact (rfl : _ = AVal.tuple _) | exact (rfl : _ = AVal.func _ _ _) | exact (rfl : _ = AVal.nslice) | ((try simp only [↓nrmL, nrmK, Nat.reduceEqDiff, ↓reduceIte]); rfl)) rfl ?_ | rfl)) (by simp only [↓nrmL, nrmZ, Nat.reduceEqDiff, ↓reduceIte, Nat.reduceAdd, Int.reduceBEq, Int.reduceBNe, r2, w1, w2, r3, u1, u7, u8]; rfl) ?_
  refine Fo.new ?_
  refine Fo.st rfl (rfl : _ = AVal.agg _) rfl rfl rfl (by repeat (first | rfl | refine allOne_cons ?_)) (by simp only [↓nrmL, nrmZ, Nat.reduceEqDiff, ↓reduceIte, Nat.reduceAdd, Int.reduceBEq, Int.reduceBNe, r2, w1, w2, r3, u1, u7, u8]; rfl) ?_
  refine WpO.nil (hKF _ _ ?_)
  refine sq ?_
  refine rg fun KF hKF => ?_
  refine Fo.ldN rfl rfl (by simp only [↓nrmL, nrmZ, Nat.reduceEqDiff, ↓reduceIte, Nat.reduceAdd, Int.reduceBEq, Int.reduceBNe, r2, w1, w2, r3, u1, u7, u8]; rfl) ?_
  refine Fo.pcall (v' := ?_) hn rfl (by simp only [↓nrmL, nrmZ, Nat.reduceEqDiff, ↓reduceIte, Nat.reduceAdd, Int.reduceBEq, Int.reduceBNe, r2, w1, w2, r3, u1, u7, u8, List.map]; rfl) rfl ?hv fun _ _ => ?_; case hv => (simp only [↓nrmL, nrmZ, Nat.reduceEqDiff, ↓reduceIte, Nat.reduceAdd, Int.reduceBEq, Int.reduceBNe, r2, w1, w2, r3, u1, u7, u8]; rfl)
  refine mT rfl ?_
  refine Fo.extr rfl rfl ?_
  refine Fo.extr rfl rfl ?_
  refine Fo.new ?_
  refine Fo.st rfl (rfl : _ = AVal.agg _) rfl rfl rfl (by repeat (first | rfl | refine allOne_cons ?_)) (by simp only [↓nrmL, nrmZ, Nat.reduceEqDiff, ↓reduceIte, Nat.reduceAdd, Int.reduceBEq, Int.reduceBNe, r2, w1, w2, r3, u1, u7, u8]; rfl) ?_
  refine mI rfl ?_
  refine WpO.nil (hKF _ _ ?_)
  refine sq ?_
  refine sq ?_
  refine rg fun KF hKF => ?_
  refine mI rfl ?_
  refine Fo.bin rfl rfl rfl (by simp only [↓nrmL, nrmZ, Nat.reduceEqDiff, ↓reduceIte, Nat.reduceAdd, Int.reduceBEq, Int.reduceBNe, r2, w1, w2, r3, u1, u7, u8]; rfl) ?_
  refine WpO.nil (hKF _ _ ?_)
  refine Wp.cond (b := false) rfl ?_
  refine Wp.skip ?_
  refine sq ?_
  refine rg fun KF hKF => ?_
  refine Fo.build (by repeat (first | refine aFill1 (by first | exact (rfl : _ = AVal.int _ _) | exact (rfl : _ = AVal.ptr _ _) | exact (rfl : _ = AVal.bool _) | exact (rfl : _ = AVal.agg _) | exact (rfl : _ = AVal.tuple _) | exact (rfl : _ = AVal.func _ _ _) | exact (rfl : _ = AVal.nslice) | ((try simp only [↓nrmL, nrmK, Nat.reduceEqDiff, ↓reduceIte]); rfl)) rfl ?_ | rfl)) (by simp only [↓nrmL, nrmZ, Nat.reduceEqDiff, ↓reduceIte, Nat.reduceAdd, Int.reduceBEq, Int.reduceBNe, r2, w1, w2, r3, u1, u7, u8]; rfl) ?_
  refine Fo.new ?_
  refine Fo.st rfl (rfl : _ = AVal.agg _) rfl rfl rfl (by repeat (first | rfl | refine allOne_cons ?_)) (by simp only [↓nrmL, nrmZ, Nat.reduceEqDiff, ↓reduceIte, Nat.reduceAdd, Int.reduceBEq, Int.reduceBNe, r2, w1, w2, r3, u1, u7, u8]; rfl) ?_
  refine WpO.nil (hKF _ _ ?_)
  refine sq ?_
  refine sq ?_
  refine rg fun KF hKF => ?_
  refine Fo.fa rfl ?_
  refine Fo.ld rfl rfl ?_
  refine mI rfl ?_
  refine WpO.nil (hKF _ _ ?_)
  refine Wp.block ?_
  dsimp only [cond_true, cond_false]
  refine Wp.loopF [6, 30, 31, 157, 158, 159, 160, 161, 162, 163, 164, 165, 166, 167, 168, 169, 170, 171, 172, 173, 174, 175] (fun j : Nat => [(157, .int .i64 (j : Int))]) (fun fr H3 j H2 => j ≤ b % 9 + 1 ∧ ∃ r26 r27 r29, fr 26 = .ptr r26 0 ∧ fr 27 = .ptr r27 0 ∧ fr 29 = .ptr r29 0 ∧ HasRow H2 r26 [.int .i64 ((b % 9 + 1 : Nat) : Int), .int .i64 u] true (2 * 28) ∧ HasRow H2 r27 [.int .i64 (ratioS ((b % 9 + 1 : Nat) : Int) u).1, .int .i64 (ratioS ((b % 9 + 1 : Nat) : Int) u).2.1] true (2 * 23) ∧ HasRow H2 r29 [.int .i64 (ratioS (j : Int) u).1, .int .i64 (ratioS (j : Int) u).2.1] true (2 * 23) ∧ Ext0 H H2 ∧ LeN H r29 ∧ NeR r26 r29 ∧ NeR r27 r29) (fun j => b % 9 + 1 - j) 0 rfl (fun _ => rfl) ⟨rfl, trivial⟩ ?hi (by unfold fuel0 at hn; omega) ?step
  case hi =>
   refine ⟨Nat.zero_le _, ?r26_2, ?r27_2, ?r29_2, ?a_2, ?b_2, ?c_2, ?rest_2⟩
   case a_2 => first | rfl | (simp only [↓nrmL, nrmZ, Nat.reduceEqDiff, ↓reduceIte] <;> rfl)
   case b_2 => first | rfl | (simp only [↓nrmL, nrmZ, Nat.reduceEqDiff, ↓reduceIte] <;> rfl)
   case c_2 => first | rfl | (simp only [↓nrmL, nrmZ, Nat.reduceEqDiff, ↓reduceIte] <;> rfl)
   case rest_2 =>
    refine ⟨inferInstance, inferInstance, ?_, inferInstance, inferInstance, inferInstance, inferInstance⟩
    rw [show ratioS ((0 : Nat) : Int) u = (0, 1, 0) from u4]
    infer_instance
  case step =>
   rintro j g H2 ⟨hj, r26, r27, r29, e26, e27, e29, h26, h27, h29, hx0, hle, hn1, hn2⟩
   simp only [↓nrmL, nrmZ, Nat.reduceEqDiff, ↓reduceIte, AVal.ptr.injEq, and_true] at e26 e27 e29
   subst e26 e27 e29
   simp only [↓nrmL, nrmZ, Nat.reduceEqDiff, ↓reduceIte, Nat.reduceAdd, Int.reduceBEq, Int.reduceBNe]
   by_cases hjb : j < b % 9 + 1
   ·have k1 : decide ((j : Int) < ((b % 9 + 1 : Nat) : Int)) = true := decide_eq_true (by omega)
    have wk : IntKind.i64.wrap ((j : Int) + 1) = ((j + 1 : Nat) : Int) := by rw [w64r (by omega) (by omega)]; omega
    obtain ⟨k2, k3⟩ := u5 j (by omega)
    try simp only [↓nrmL, nrmZ, Nat.reduceEqDiff, ↓reduceIte, Nat.reduceAdd, Int.reduceBEq, Int.reduceBNe, k1, u3, k2, k3, wk]
    refine sq ?_
    refine rg fun KF hKF => ?_
    refine Fo.bin rfl rfl rfl (by simp only [↓nrmL, nrmZ, Nat.reduceEqDiff, ↓reduceIte, Nat.reduceAdd, Int.reduceBEq, Int.reduceBNe, k1, u3, k2, k3, wk]; rfl) ?_
    refine WpO.nil (hKF _ _ ?_)
    refine sq ?_
    refine Wp.cond (b := true) rfl ?_
    refine Wp.skip ?_
    refine sq ?_
    refine Wp.block ?_
    refine sq ?_
    refine rg fun KF hKF => ?_
    refine Fo.fa rfl ?_
    refine Fo.ld rfl rfl ?_
    refine Fo.pcall (v' := ?_) hn rfl (by simp only [↓nrmL, nrmZ, Nat.reduceEqDiff, ↓reduceIte, Nat.reduceAdd, Int.reduceBEq, Int.reduceBNe, k1, u3, k2, k3, wk, List.map]; rfl) rfl ?hv fun _ _ => ?_; case hv => (simp only [↓nrmL, nrmZ, Nat.reduceEqDiff, ↓reduceIte, Nat.reduceAdd, Int.reduceBEq, Int.reduceBNe, k1, u3, k2, k3, wk]; rfl)
    refine mT rfl ?_
    refine Fo.extr rfl rfl ?_
    refine Fo.extr rfl rfl ?_
    refine Fo.new ?_
    refine Fo.st rfl (rfl : _ = AVal.agg _) rfl rfl rfl (by repeat (first | rfl | refine allOne_cons ?_)) (by simp only [↓nrmL, nrmZ, Nat.reduceEqDiff, ↓reduceIte, Nat.reduceAdd, Int.reduceBEq, Int.reduceBNe, k1, u3, k2, k3, wk]; rfl) ?_
    refine mI rfl ?_
    refine WpO.nil (hKF _ _ ?_)
    refine sq ?_
    refine sq ?_
    refine rg fun KF hKF => ?_
    refine mI rfl ?_
    refine Fo.bin rfl rfl rfl (by simp only [↓nrmL, nrmZ, Nat.reduceEqDiff, ↓reduceIte, Nat.reduceAdd, Int.reduceBEq, Int.reduceBNe, k1, u3, k2, k3, wk]; rfl) ?_
    refine WpO.nil (hKF _ _ ?_)
    refine Wp.cond (b := false) rfl ?_
    refine Wp.skip ?_
    refine sq ?_
    refine rg fun KF hKF => ?_
    refine Fo.ldN rfl rfl (by simp only [↓nrmL, nrmZ, Nat.reduceEqDiff, ↓reduceIte, Nat.reduceAdd, Int.reduceBEq, Int.reduceBNe, k1, u3, k2, k3, wk]; rfl) ?_
    refine Fo.ldN rfl rfl (by simp only [↓nrmL, nrmZ, Nat.reduceEqDiff, ↓reduceIte, Nat.reduceAdd, Int.reduceBEq, Int.reduceBNe, k1, u3, k2, k3, wk]; rfl) ?_
    refine Fo.pcall (v' := ?_) hn rfl (by simp only [↓nrmL, nrmZ, Nat.reduceEqDiff, ↓reduceIte, Nat.reduceAdd, Int.reduceBEq, Int.reduceBNe, k1, u3, k2, k3, wk, List.map]; rfl) rfl ?hv fun _ _ => ?_; case hv => (simp only [↓nrmL, nrmZ, Nat.reduceEqDiff, ↓reduceIte, Nat.reduceAdd, Int.reduceBEq, Int.reduceBNe, k1, u3, k2, k3, wk]; rfl)
    refine mT rfl ?_
    refine Fo.extr rfl rfl ?_
    refine Fo.extr rfl rfl ?_
    refine Fo.st rfl (rfl : _ = AVal.agg _) rfl rfl rfl (by repeat (first | rfl | refine allOne_cons ?_)) (by simp only [↓nrmL, nrmZ, Nat.reduceEqDiff, ↓reduceIte, Nat.reduceAdd, Int.reduceBEq, Int.reduceBNe, k1, u3, k2, k3, wk]; rfl) ?_
    refine mI rfl ?_
    refine WpO.nil (hKF _ _ ?_)
    refine sq ?_
    refine rg fun KF hKF => ?_
    refine mI rfl ?_
    refine Fo.bin rfl rfl rfl (by simp only [↓nrmL, nrmZ, Nat.reduceEqDiff, ↓reduceIte, Nat.reduceAdd, Int.reduceBEq, Int.reduceBNe, k1, u3, k2, k3, wk]; rfl) ?_
    refine WpO.nil (hKF _ _ ?_)
    refine Wp.cond (b := false) rfl ?_
    refine Wp.skip ?_
    refine rg fun KF hKF => ?_
    refine Fo.bin rfl rfl rfl (by simp only [↓nrmL, nrmZ, Nat.reduceEqDiff, ↓reduceIte, Nat.reduceAdd, Int.reduceBEq, Int.reduceBNe, k1, u3, k2, k3, wk]; rfl) ?_
    refine mI rfl ?_
    refine WpO.nil (hKF _ _ ?_)
    dsimp only [cond_true, cond_false]
    refine ⟨j + 1, by omega, ⟨rfl, trivial⟩, by omega, ?r26_3, ?r27_3, ?r29_3, ?a_3, ?b_3, ?c_3, ?rest_3⟩
    case a_3 => first | rfl | (simp only [↓nrmL, nrmZ, Nat.reduceEqDiff, ↓reduceIte] <;> rfl)
    case b_3 => first | rfl | (simp only [↓nrmL, nrmZ, Nat.reduceEqDiff, ↓reduceIte] <;> rfl)
    case c_3 => first | rfl | (simp only [↓nrmL, nrmZ, Nat.reduceEqDiff, ↓reduceIte] <;> rfl)
    case rest_3 => exact ⟨inferInstance, inferInstance, inferInstance, inferInstance, inferInstance, inferInstance, inferInstance⟩
   ·have hje : j = b % 9 + 1 := by omega
    subst hje
    have k1 : decide (((b % 9 + 1 : Nat) : Int) < ((b % 9 + 1 : Nat) : Int)) = false := decide_eq_false (by omega)
    try simp only [↓nrmL, nrmZ, Nat.reduceEqDiff, ↓reduceIte, Nat.reduceAdd, Int.reduceBEq, Int.reduceBNe, k1]
    refine sq ?_
    refine rg fun KF hKF => ?_
    refine Fo.bin rfl rfl rfl (by simp only [↓nrmL, nrmZ, Nat.reduceEqDiff, ↓reduceIte, Nat.reduceAdd, Int.reduceBEq, Int.reduceBNe, k1]; rfl) ?_
    refine WpO.nil (hKF _ _ ?_)
    refine sq ?_
    refine Wp.cond (b := false) rfl ?_
    refine Wp.exit ?_
    refine sq ?_
    refine rg fun KF hKF => ?_
    refine Fo.ldN rfl rfl (by simp only [↓nrmL, nrmZ, Nat.reduceEqDiff, ↓reduceIte, Nat.reduceAdd, Int.reduceBEq, Int.reduceBNe, k1]; rfl) ?_
    refine Fo.ldN rfl rfl (by simp only [↓nrmL, nrmZ, Nat.reduceEqDiff, ↓reduceIte, Nat.reduceAdd, Int.reduceBEq, Int.reduceBNe, k1]; rfl) ?_
    refine Fo.now rfl (exec_eqT rfl rfl (aEq_same _ _)) rfl ?_
    refine mB rfl ?_
    refine Fo.yes rfl rfl ?_
    refine Fo.pcall (v' := ?_) hn rfl (by simp only [↓nrmL, nrmZ, Nat.reduceEqDiff, ↓reduceIte, Nat.reduceAdd, Int.reduceBEq, Int.reduceBNe, List.map]; rfl) rfl ?hv fun _ _ => ?_; case hv => rfl
    refine tB rfl rfl ?_
    refine mB rfl ?_
    refine WpO.nil (hKF _ _ ?_)
    refine Wp.ret ?_
    dsimp only [cond_true, cond_false]
    refine ⟨trivial, _, (by first | rfl | exact getAllC rfl rfl rfl rfl | exact getAllT rfl (getAllC rfl rfl rfl rfl) | exact getAllC rfl rfl rfl (getAllC rfl rfl rfl rfl) | exact getAllC1 rfl rfl rfl), ?_⟩
    exact ⟨rfl, Ext0.ext⟩⟩
end Go.Am

set_option maxRecDepth 100000
set_option maxHeartbeats 4000000
namespace Go.Proofs.YtcklaifhanehmaaDoor.ToneLasts
open Go.ChangeShapes Go.WideShapes Go.ChangeAt Go.RowKit Go.Am Go.Proofs.YtcklaifhanehmaaDoor.Laid

theorem con (H : AHeap) (avs : List AVal) (ht : tablesIn aroundT H = true) (h : ArgS Tryd.prog H 3 [5, 5, 5] avs) : Con ext prog 5 13 avs H fun v H' => v = .bool true ∧ Ext H H' := by
  obtain ⟨a0, r0, rfl, h0, a1, r1, rfl, h1, a2, r2, rfl, h2, rfl⟩ := h
  obtain ⟨i0, rfl, wf0⟩ := shape_int Tryd.underlying5 h0
  obtain ⟨s0, rfl⟩ := u8_of wf0
  obtain ⟨i1, rfl, wf1⟩ := shape_int Tryd.underlying5 h1
  obtain ⟨s1, rfl⟩ := u8_of wf1
  obtain ⟨i2, rfl, wf2⟩ := shape_int Tryd.underlying5 h2
  obtain ⟨s2, rfl⟩ := u8_of wf2
  have e0 : argV Tryd.prog 5 [.int .u8 (s0.toNat : Int)] = .int .u8 (s0.toNat : Int) := by simp only [argV, show aggTy Tryd.prog 5 = false by kernel_rfl, cond_false, List.headD_cons]
  have e1 : argV Tryd.prog 5 [.int .u8 (s1.toNat : Int)] = .int .u8 (s1.toNat : Int) := by simp only [argV, show aggTy Tryd.prog 5 = false by kernel_rfl, cond_false, List.headD_cons]
  have e2 : argV Tryd.prog 5 [.int .u8 (s2.toNat : Int)] = .int .u8 (s2.toNat : Int) := by simp only [argV, show aggTy Tryd.prog 5 = false by kernel_rfl, cond_false, List.headD_cons]
  rw [e0, e1, e2]
  exact K_ToneLasts.con

theorem contract (H : Type) (enc : TypeId × Value → H) (W : World) (base : Nat) (args : Array Value) (ds gs : List (DataW H)) (before : List MemPlace)
    (hval : ∀ (j : Nat) t v, Tryd.f13.params[j]? = some t → args[j]? = some v → Value.okWide Tryd.prog W .any base t v)
    (hW : DataW.Whole enc Tryd.prog Tryd.f13.params.toList Rows.toneLastsSpec.vars false W args.toList ds gs before) (hL : laidMetH Tryd.prog Rows.toneLastsRow.laid W) :
    Calls Tryd.prog 13 args W fun e W' => ∃ v, e = .returned v ∧ Rows.toneLastsSpec.post enc Tryd.prog Tryd.f13 false true false false W args v W' := by
  have hW' := hW
  obtain ⟨p, q, hA, _⟩ := hW'
  rw [Tryd.params13] at hA
  obtain ⟨v0, vs0, d0, ds0, p0, q0, _, rfl, _, _, r0⟩ := trodAll_cons hA
  obtain ⟨v1, vs1, d1, ds1, p1, q1, _, rfl, _, _, r1⟩ := trodAll_cons r0
  obtain ⟨v2, vs2, d2, ds2, p2, q2, _, rfl, _, _, r2⟩ := trodAll_cons r1
  obtain ⟨_, rfl, _⟩ := trodAll_nil r2
  exact law_calls (tb := 4) (n := 3) (d := 5) (tabs := aroundT) mixed progOk Tryd.func13 rfl (by decide +kernel) laidOut rowed full (by kernel_rfl) rfl (by kernel_rfl) Tryd.underlying4 (by kernel_rfl) (by kernel_rfl)
    (fun H avs ht h => con H avs ht (by rw [Tryd.params13] at h; exact h)) H enc W base args _ gs before rfl hval hW around_cells

theorem laid_met (os : Os) : laidMet Tryd.prog Rows.toneLastsRow.laid ((laidWorld os).forCall (fun _ _ => 0) ⟨#[], #[.int .u8 0, .int .u8 0, .int .u8 0], []⟩).memory :=
  laidMet_of_run' 8 (by kernel_rfl) (by kernel_rfl)
theorem reads (os : Os) {H : Type} (enc : TypeId × Value → H) : ∃ places, DataW.whole enc Tryd.prog ((laidWorld os).forCall (fun _ _ => 0) ⟨#[], #[.int .u8 0, .int .u8 0, .int .u8 0], []⟩).memory Tryd.f13.params.toList Rows.toneLastsSpec.vars false #[Value.int .u8 0, .int .u8 0, .int .u8 0].toList 8 = some ([.lit (.int .u8 0), .lit (.int .u8 0), .lit (.int .u8 0)], [], places) :=
  ⟨[], by kernel_rfl⟩

theorem lifted (os : Os) (started : os.Started) (H : Type) (enc : TypeId × Value → H) (F : Stop.Interp) :
    ReturnsInHanded {} Tryd.checked os 13 .any ((OpenSpec.ofChange Rows.toneLastsSpec).preRow enc Tryd.prog Tryd.f13 Rows.toneLastsRow.domain false Rows.toneLastsRow.laid) (((OpenSpec.ofChange Rows.toneLastsSpec).at F).post enc Tryd.prog Tryd.f13 false true false false) := by
  obtain ⟨places, hx⟩ := reads os enc
  refine returnsInHanded_of_row (C := Tryd.checked) (s := OpenSpec.ofChange Rows.toneLastsSpec) own started (by kernel_rfl) Tryd.func13
    (witness_row_at (enc := enc) (C := Tryd.checked) false (laidWorld os) #[.int .u8 0, .int .u8 0, .int .u8 0] rfl (by kernel_rfl) (by kernel_rfl) (by kernel_rfl)
      (OpenSpec.preRow_of_cond 8 hx (by kernel_rfl) (fun k hk => by cases hk) (by kernel_rfl) (laid_met os))) ?_
  intro W base args ds gs before hval hW _ _ _ hL _ _
  exact contract H enc W base args ds gs before hval hW hL

theorem said : Rows.ToneLastsSaid :=
  OpenClaim.holds_of_cond 13 Tryd.f13 rfl rfl rfl rfl rfl rfl rfl ⟨rfl, rfl, rfl, rfl, rfl⟩ rfl rfl rfl rfl rfl (by kernel_rfl) Tryd.func13 (by kernel_rfl)
    (of_decide_eq_true (by kernel_rfl)) (by unfold Func.isWrapper; first | (rw [if_pos (by decide +kernel)]; kernel_rfl) | (rw [if_neg (by decide +kernel)]; exact ⟨rfl, rfl⟩))
    (fun os started H enc _ F => by rw [OpenClaim.pre_eq_preRow]; exact lifted os started H enc F)

theorem plain (f : FuncId) (fn : Func) (hf : Tryd.pinned.checked.prog.funcNamed "custos/custoslaw05.ToneLasts" = some f) (hfn : Tryd.pinned.checked.prog.funcs[f]? = some fn) :
    true = Tryd.pinned.checked.prog.looks [] ∧ ∀ (j : Nat) t, fn.params[j]? = some t → Tryd.pinned.checked.prog.wantsStandIn t = false := by
  obtain rfl : f = 13 := Option.some.inj ((show Tryd.prog.funcNamed "custos/custoslaw05.ToneLasts" = some 13 by kernel_rfl).symm.trans hf) |>.symm
  obtain rfl : fn = Tryd.f13 := (Option.some.inj (Tryd.func13.symm.trans hfn)).symm
  refine ⟨by kernel_rfl, fun j t ht => ?_⟩
  have h := List.all_eq_true.1 (show (Tryd.f13.params.toList.all fun t => !(Tryd.prog.wantsStandIn t)) = true by kernel_rfl) t (by simpa using Array.mem_of_getElem? ht)
  have h2 : Tryd.prog.wantsStandIn t = false := by simpa using h
  exact h2

/-- The card. -/
theorem card : Rows.ToneLastsCardSaid :=
  Claim7.holds_tied_plain_at .later [] _ _ _ _ said (fun _ h => by cases h) (by kernel_rfl) (fun _ h => by cases h) toneLasts_row_tie rfl ⟨rfl, rfl⟩ (by kernel_rfl) rfl plain (by kernel_rfl)
end Go.Proofs.YtcklaifhanehmaaDoor.ToneLasts
