/-
  ImageParts returns true for every two images, every rectangle and every number, and leaves the images as they were. No condition.
-/
import Derived.Test.YtlbgcpmiedjmoaaDoorAmBE
set_option linter.unusedSimpArgs false
set_option linter.unusedVariables false
set_option maxHeartbeats 4000000
set_option maxRecDepth 100000
namespace Go.Am
open Go
attribute [local irreducible] Wp WpO WpX WpE

theorem K_refPair0 {p q : AVal} {H : AHeap} {w h w' h' : Int} {l m : List UInt8} [hp : BytesI H p l] [hq : BytesI H q m] : Con ext prog 4 26 [.agg [.int .i64 w, .int .i64 h, p], .agg [.int .i64 w', .int .i64 h', q], .int .i64 0] H fun v H' => InkRes H H' v (combSpec (fun a b => a ||| b) ⟨w, h, l⟩ ⟨w', h', m⟩) := by
 refine con_of (show prog 26 = some c26 from rfl) rfl rfl fun n hn => ?_
 haveI := hp.one
 haveI := hq.one
 unfold combSpec
 cases h0 : (Img.err ⟨w, h, l⟩ == 0)
 ·skip
  try simp only [↓nrmL, nrmZ, Nat.reduceEqDiff, ↓reduceIte, Nat.reduceAdd, Int.reduceBEq, Int.reduceBNe, h0, bne]
  refine sq ?_
  refine rg fun KF hKF => ?_
  refine Fo.boxA rfl ?_
  refine Fo.boxA rfl ?_
  refine Fo.new ?_
  refine mI rfl ?_
  refine WpO.nil (hKF _ _ ?_)
  refine sq ?_
  refine sq ?_
  refine rg fun KF hKF => ?_
  refine Fo.ldN rfl rfl (by simp only [↓nrmL, nrmZ, Nat.reduceEqDiff, ↓reduceIte, Nat.reduceAdd, Int.reduceBEq, Int.reduceBNe, h0, bne]; rfl) ?_
  refine Fo.pcall (v' := ?_) hn rfl (by simp only [↓nrmL, nrmZ, Nat.reduceEqDiff, ↓reduceIte, Nat.reduceAdd, Int.reduceBEq, Int.reduceBNe, h0, bne, List.map]; rfl) rfl ?hv fun _ _ => ?_; case hv => rfl
  refine mI rfl ?_
  refine WpO.nil (hKF _ _ ?_)
  refine sq ?_
  refine rg fun KF hKF => ?_
  refine mI rfl ?_
  refine Fo.bin rfl rfl rfl (by simp only [↓nrmL, nrmZ, Nat.reduceEqDiff, ↓reduceIte, Nat.reduceAdd, Int.reduceBEq, Int.reduceBNe, h0, bne]; rfl) ?_
  refine WpO.nil (hKF _ _ ?_)
  refine Wp.cond (b := true) rfl ?_
  refine sq ?_
  refine rg fun KF hKF => ?_
  refine Fo.build (by repeat (first | refine aFill1 (by first | exact (rfl : _ = AVal.int _ _) | exact (rfl : _ = AVal.ptr _ _) | exact (rfl : _ = AVal.bool _) | exact (rfl : _ = AVal.agg _) | exact (rfl : _ = AVal.tuple _) | exact (rfl : _ = AVal.func _ _ _) | exact (rfl : _ = AVal.nslice) | ((try simp only [↓nrmL, nrmK, Nat.reduceEqDiff, ↓reduceIte]); rfl)) rfl ?_ | rfl)) rfl ?_
  refine mI rfl ?_
  refine Fo.st rfl (rfl : _ = AVal.agg _) rfl rfl rfl (by repeat (first | rfl | refine allOne_cons ?_)) (by simp only [↓nrmL, nrmZ, Nat.reduceEqDiff, ↓reduceIte, Nat.reduceAdd, Int.reduceBEq, Int.reduceBNe, h0, bne]; rfl) ?_
  refine mI rfl ?_
  refine WpO.nil (hKF _ _ ?_)
  refine Wp.ret ?_
  dsimp only [cond_true, cond_false]
  refine ⟨trivial, _, (by first | rfl | exact getAllC rfl rfl rfl rfl | exact getAllT rfl (getAllC rfl rfl rfl rfl) | exact getAllC rfl rfl rfl (getAllC rfl rfl rfl rfl) | exact getAllC1 rfl rfl rfl), ?_⟩
  exact ⟨_, rfl, newZero⟩
 cases h1 : (Img.err ⟨w', h', m⟩ == 0)
 ·skip
  try simp only [↓nrmL, nrmZ, Nat.reduceEqDiff, ↓reduceIte, Nat.reduceAdd, Int.reduceBEq, Int.reduceBNe, h0, h1, bne]
  refine sq ?_
  refine rg fun KF hKF => ?_
  refine Fo.boxA rfl ?_
  refine Fo.boxA rfl ?_
  refine Fo.new ?_
  refine mI rfl ?_
  refine WpO.nil (hKF _ _ ?_)
  refine sq ?_
  refine sq ?_
  refine rg fun KF hKF => ?_
  refine Fo.ldN rfl rfl (by simp only [↓nrmL, nrmZ, Nat.reduceEqDiff, ↓reduceIte, Nat.reduceAdd, Int.reduceBEq, Int.reduceBNe, h0, h1, bne]; rfl) ?_
  refine Fo.pcall (v' := ?_) hn rfl (by simp only [↓nrmL, nrmZ, Nat.reduceEqDiff, ↓reduceIte, Nat.reduceAdd, Int.reduceBEq, Int.reduceBNe, h0, h1, bne, List.map]; rfl) rfl ?hv fun _ _ => ?_; case hv => rfl
  refine mI rfl ?_
  refine WpO.nil (hKF _ _ ?_)
  refine sq ?_
  refine rg fun KF hKF => ?_
  refine mI rfl ?_
  refine Fo.bin rfl rfl rfl (by simp only [↓nrmL, nrmZ, Nat.reduceEqDiff, ↓reduceIte, Nat.reduceAdd, Int.reduceBEq, Int.reduceBNe, h0, h1, bne]; rfl) ?_
  refine WpO.nil (hKF _ _ ?_)
  refine Wp.cond (b := false) rfl ?_
  refine Wp.skip ?_
  refine sq ?_
  refine sq ?_
  refine rg fun KF hKF => ?_
  refine Fo.ldN rfl rfl (by simp only [↓nrmL, nrmZ, Nat.reduceEqDiff, ↓reduceIte, Nat.reduceAdd, Int.reduceBEq, Int.reduceBNe, h0, h1, bne]; rfl) ?_
  refine Fo.pcall (v' := ?_) hn rfl (by simp only [↓nrmL, nrmZ, Nat.reduceEqDiff, ↓reduceIte, Nat.reduceAdd, Int.reduceBEq, Int.reduceBNe, h0, h1, bne, List.map]; rfl) rfl ?hv fun _ _ => ?_; case hv => rfl
  refine mI rfl ?_
  refine WpO.nil (hKF _ _ ?_)
  refine sq ?_
  refine rg fun KF hKF => ?_
  refine mI rfl ?_
  refine Fo.bin rfl rfl rfl (by simp only [↓nrmL, nrmZ, Nat.reduceEqDiff, ↓reduceIte, Nat.reduceAdd, Int.reduceBEq, Int.reduceBNe, h0, h1, bne]; rfl) ?_
  refine WpO.nil (hKF _ _ ?_)
  refine Wp.cond (b := true) rfl ?_
  refine sq ?_
  refine rg fun KF hKF => ?_
  refine Fo.build (by repeat (first | refine aFill1 (by first | exact (rfl : _ = AVal.int _ _) | exact (rfl : _ = AVal.ptr _ _) | exact (rfl : _ = AVal.bool _) | exact (rfl : _ = AVal.agg _) | exact (rfl : _ = AVal.tuple _) | exact (rfl : _ = AVal.func _ _ _) | exact (rfl : _ = AVal.nslice) | ((try simp only [↓nrmL, nrmK, Nat.reduceEqDiff, ↓reduceIte]); rfl)) rfl ?_ | rfl)) rfl ?_
  refine mI rfl ?_
  refine Fo.st rfl (rfl : _ = AVal.agg _) rfl rfl rfl (by repeat (first | rfl | refine allOne_cons ?_)) (by simp only [↓nrmL, nrmZ, Nat.reduceEqDiff, ↓reduceIte, Nat.reduceAdd, Int.reduceBEq, Int.reduceBNe, h0, h1, bne]; rfl) ?_
  refine mI rfl ?_
  refine WpO.nil (hKF _ _ ?_)
  refine Wp.ret ?_
  dsimp only [cond_true, cond_false]
  refine ⟨trivial, _, (by first | rfl | exact getAllC rfl rfl rfl rfl | exact getAllT rfl (getAllC rfl rfl rfl rfl) | exact getAllC rfl rfl rfl (getAllC rfl rfl rfl rfl) | exact getAllC1 rfl rfl rfl), ?_⟩
  exact ⟨_, rfl, newZero⟩
 cases h2 : (w == w')
 ·simp only [cond_true, Bool.false_and, cond_false]
  try simp only [↓nrmL, nrmZ, Nat.reduceEqDiff, ↓reduceIte, Nat.reduceAdd, Int.reduceBEq, Int.reduceBNe, h0, h1, h2, bne]
  refine sq ?_
  refine rg fun KF hKF => ?_
  refine Fo.boxA rfl ?_
  refine Fo.boxA rfl ?_
  refine Fo.new ?_
  refine mI rfl ?_
  refine WpO.nil (hKF _ _ ?_)
  refine sq ?_
  refine sq ?_
  refine rg fun KF hKF => ?_
  refine Fo.ldN rfl rfl (by simp only [↓nrmL, nrmZ, Nat.reduceEqDiff, ↓reduceIte, Nat.reduceAdd, Int.reduceBEq, Int.reduceBNe, h0, h1, h2, bne]; rfl) ?_
  refine Fo.pcall (v' := ?_) hn rfl (by simp only [↓nrmL, nrmZ, Nat.reduceEqDiff, ↓reduceIte, Nat.reduceAdd, Int.reduceBEq, Int.reduceBNe, h0, h1, h2, bne, List.map]; rfl) rfl ?hv fun _ _ => ?_; case hv => rfl
  refine mI rfl ?_
  refine WpO.nil (hKF _ _ ?_)
  refine sq ?_
  refine rg fun KF hKF => ?_
  refine mI rfl ?_
  refine Fo.bin rfl rfl rfl (by simp only [↓nrmL, nrmZ, Nat.reduceEqDiff, ↓reduceIte, Nat.reduceAdd, Int.reduceBEq, Int.reduceBNe, h0, h1, h2, bne]; rfl) ?_
  refine WpO.nil (hKF _ _ ?_)
  refine Wp.cond (b := false) rfl ?_
  refine Wp.skip ?_
  refine sq ?_
  refine sq ?_
  refine rg fun KF hKF => ?_
  refine Fo.ldN rfl rfl (by simp only [↓nrmL, nrmZ, Nat.reduceEqDiff, ↓reduceIte, Nat.reduceAdd, Int.reduceBEq, Int.reduceBNe, h0, h1, h2, bne]; rfl) ?_
  refine Fo.pcall (v' := ?_) hn rfl (by simp only [↓nrmL, nrmZ, Nat.reduceEqDiff, ↓reduceIte, Nat.reduceAdd, Int.reduceBEq, Int.reduceBNe, h0, h1, h2, bne, List.map]; rfl) rfl ?hv fun _ _ => ?_; case hv => rfl
  refine mI rfl ?_
  refine WpO.nil (hKF _ _ ?_)
  refine sq ?_
  refine rg fun KF hKF => ?_
  refine mI rfl ?_
  refine Fo.bin rfl rfl rfl (by simp only [↓nrmL, nrmZ, Nat.reduceEqDiff, ↓reduceIte, Nat.reduceAdd, Int.reduceBEq, Int.reduceBNe, h0, h1, h2, bne]; rfl) ?_
  refine WpO.nil (hKF _ _ ?_)
  refine Wp.cond (b := false) rfl ?_
  refine Wp.skip ?_
  refine sq ?_
  refine sq ?_
  refine rg fun KF hKF => ?_
  refine Fo.fa rfl ?_
  refine Fo.ld rfl rfl ?_
  refine Fo.fa rfl ?_
  refine Fo.ld rfl rfl ?_
  refine Fo.bin rfl rfl rfl (by simp only [↓nrmL, nrmZ, Nat.reduceEqDiff, ↓reduceIte, Nat.reduceAdd, Int.reduceBEq, Int.reduceBNe, h0, h1, h2, bne]; rfl) ?_
  refine mB rfl ?_
  refine Fo.no rfl rfl ?_
  refine Fo.no rfl rfl ?_
  refine Fo.no rfl rfl ?_
  refine Fo.no rfl rfl ?_
  refine Fo.no rfl rfl ?_
  refine tB rfl rfl ?_
  refine WpO.nil (hKF _ _ ?_)
  refine Wp.cond (b := true) rfl ?_
  refine sq ?_
  refine rg fun KF hKF => ?_
  refine Fo.build (by repeat (first | refine aFill1 (by first | exact (rfl : _ = AVal.int _ _) | exact (rfl : _ = AVal.ptr _ _) | exact (rfl : _ = AVal.bool _) | exact (rfl : _ = AVal.agg _) | exact (rfl : _ = AVal.tuple _) | exact (rfl : _ = AVal.func _ _ _) | exact (rfl : _ = AVal.nslice) | ((try simp only [↓nrmL, nrmK, Nat.reduceEqDiff, ↓reduceIte]); rfl)) rfl ?_ | rfl)) rfl ?_
  refine Fo.st rfl (rfl : _ = AVal.agg _) rfl rfl rfl (by repeat (first | rfl | refine allOne_cons ?_)) (by simp only [↓nrmL, nrmZ, Nat.reduceEqDiff, ↓reduceIte, Nat.reduceAdd, Int.reduceBEq, Int.reduceBNe, h0, h1, h2, bne]; rfl) ?_
  refine mI rfl ?_
  refine WpO.nil (hKF _ _ ?_)
  refine Wp.ret ?_
  dsimp only [cond_true, cond_false]
  refine ⟨trivial, _, (by first | rfl | exact getAllC rfl rfl rfl rfl | exact getAllT rfl (getAllC rfl rfl rfl rfl) | exact getAllC rfl rfl rfl (getAllC rfl rfl rfl rfl) | exact getAllC1 rfl rfl rfl), ?_⟩
  exact ⟨_, rfl, newZero⟩
 cases h3 : (h == h')
 ·simp only [cond_true, Bool.and_false, cond_false]
  try simp only [↓nrmL, nrmZ, Nat.reduceEqDiff, ↓reduceIte, Nat.reduceAdd, Int.reduceBEq, Int.reduceBNe, h0, h1, h2, h3, bne]
  refine sq ?_
  refine rg fun KF hKF => ?_
  refine Fo.boxA rfl ?_
  refine Fo.boxA rfl ?_
  refine Fo.new ?_
  refine mI rfl ?_
  refine WpO.nil (hKF _ _ ?_)
  refine sq ?_
  refine sq ?_
  refine rg fun KF hKF => ?_
  refine Fo.ldN rfl rfl (by simp only [↓nrmL, nrmZ, Nat.reduceEqDiff, ↓reduceIte, Nat.reduceAdd, Int.reduceBEq, Int.reduceBNe, h0, h1, h2, h3, bne]; rfl) ?_
  refine Fo.pcall (v' := ?_) hn rfl (by simp only [↓nrmL, nrmZ, Nat.reduceEqDiff, ↓reduceIte, Nat.reduceAdd, Int.reduceBEq, Int.reduceBNe, h0, h1, h2, h3, bne, List.map]; rfl) rfl ?hv fun _ _ => ?_; case hv => rfl
  refine mI rfl ?_
  refine WpO.nil (hKF _ _ ?_)
  refine sq ?_
  refine rg fun KF hKF => ?_
  refine mI rfl ?_
  refine Fo.bin rfl rfl rfl (by simp only [↓nrmL, nrmZ, Nat.reduceEqDiff, ↓reduceIte, Nat.reduceAdd, Int.reduceBEq, Int.reduceBNe, h0, h1, h2, h3, bne]; rfl) ?_
  refine WpO.nil (hKF _ _ ?_)
  refine Wp.cond (b := false) rfl ?_
  refine Wp.skip ?_
  refine sq ?_
  refine sq ?_
  refine rg fun KF hKF => ?_
  refine Fo.ldN rfl rfl (by simp only [↓nrmL, nrmZ, Nat.reduceEqDiff, ↓reduceIte, Nat.reduceAdd, Int.reduceBEq, Int.reduceBNe, h0, h1, h2, h3, bne]; rfl) ?_
  refine Fo.pcall (v' := ?_) hn rfl (by simp only [↓nrmL, nrmZ, Nat.reduceEqDiff, ↓reduceIte, Nat.reduceAdd, Int.reduceBEq, Int.reduceBNe, h0, h1, h2, h3, bne, List.map]; rfl) rfl ?hv fun _ _ => ?_; case hv => rfl
  refine mI rfl ?_
  refine WpO.nil (hKF _ _ ?_)
  refine sq ?_
  refine rg fun KF hKF => ?_
  refine mI rfl ?_
  refine Fo.bin rfl rfl rfl (by simp only [↓nrmL, nrmZ, Nat.reduceEqDiff, ↓reduceIte, Nat.reduceAdd, Int.reduceBEq, Int.reduceBNe, h0, h1, h2, h3, bne]; rfl) ?_
  refine WpO.nil (hKF _ _ ?_)
  refine Wp.cond (b := false) rfl ?_
  refine Wp.skip ?_
  refine sq ?_
  refine sq ?_
  refine rg fun KF hKF => ?_
  refine Fo.fa rfl ?_
  refine Fo.ld rfl rfl ?_
  refine Fo.fa rfl ?_
  refine Fo.ld rfl rfl ?_
  refine Fo.bin rfl rfl rfl (by simp only [↓nrmL, nrmZ, Nat.reduceEqDiff, ↓reduceIte, Nat.reduceAdd, Int.reduceBEq, Int.reduceBNe, h0, h1, h2, h3, bne]; rfl) ?_
  refine mB rfl ?_
  refine Fo.yes rfl rfl ?_
  refine Fo.fa rfl ?_
  refine Fo.yes rfl rfl ?_
  refine Fo.ld rfl rfl ?_
  refine Fo.yes rfl rfl ?_
  refine Fo.fa rfl ?_
  refine Fo.yes rfl rfl ?_
  refine Fo.ld rfl rfl ?_
  refine Fo.yes rfl rfl ?_
  refine Fo.bin rfl rfl rfl (by simp only [↓nrmL, nrmZ, Nat.reduceEqDiff, ↓reduceIte, Nat.reduceAdd, Int.reduceBEq, Int.reduceBNe, h0, h1, h2, h3, bne]; rfl) ?_
  refine fB rfl rfl ?_
  refine WpO.nil (hKF _ _ ?_)
  refine Wp.cond (b := true) rfl ?_
  refine sq ?_
  refine rg fun KF hKF => ?_
  refine Fo.build (by repeat (first | refine aFill1 (by first | exact (rfl : _ = AVal.int _ _) | exact (rfl : _ = AVal.ptr _ _) | exact (rfl : _ = AVal.bool _) | exact (rfl : _ = AVal.agg _) | exact (rfl : _ = AVal.tuple _) | exact (rfl : _ = AVal.func _ _ _) | exact (rfl : _ = AVal.nslice) | ((try simp only [↓nrmL, nrmK, Nat.reduceEqDiff, ↓reduceIte]); rfl)) rfl ?_ | rfl)) rfl ?_
  refine Fo.st rfl (rfl : _ = AVal.agg _) rfl rfl rfl (by repeat (first | rfl | refine allOne_cons ?_)) (by simp only [↓nrmL, nrmZ, Nat.reduceEqDiff, ↓reduceIte, Nat.reduceAdd, Int.reduceBEq, Int.reduceBNe, h0, h1, h2, h3, bne]; rfl) ?_
  refine mI rfl ?_
  refine WpO.nil (hKF _ _ ?_)
  refine Wp.ret ?_
  dsimp only [cond_true, cond_false]
  refine ⟨trivial, _, (by first | rfl | exact getAllC rfl rfl rfl rfl | exact getAllT rfl (getAllC rfl rfl rfl rfl) | exact getAllC rfl rfl rfl (getAllC rfl rfl rfl rfl) | exact getAllC1 rfl rfl rfl), ?_⟩
  exact ⟨_, rfl, newZero⟩
 simp only [cond_true, Bool.and_self]
 obtain rfl : w = w' := by simpa using h2
 obtain rfl : h = h' := by simpa using h3
 haveI hf1 : Fits w h l := ⟨(Img.ok h0).1⟩
 haveI hf2 : Fits w h m := ⟨(Img.ok h1).1⟩
 have hpl : pxOk l = true := (Img.ok h0).2
 have hpm : pxOk m = true := (Img.ok h1).2
 obtain ⟨a, b, hwa, hhb, ha, hb, hl⟩ := sized_nat (n := l.length) hf1.it
 obtain ⟨a', b', hwa', hhb', _, _, hl'⟩ := sized_nat (n := m.length) hf2.it
 subst hwa hhb
 obtain rfl : a = a' := by omega
 obtain rfl : b = b' := by omega
 have hm : a * b ≤ 640 * 640 := Nat.mul_le_mul ha hb
 try simp only [↓nrmL, nrmZ, Nat.reduceEqDiff, ↓reduceIte, Nat.reduceAdd, Int.reduceBEq, Int.reduceBNe, h0, h1, h2, h3, bne]
 refine sq ?_
 refine rg fun KF hKF => ?_
 refine Fo.boxA rfl ?_
 refine Fo.boxA rfl ?_
 refine Fo.new ?_
 refine mI rfl ?_
 refine WpO.nil (hKF _ _ ?_)
 refine sq ?_
 refine sq ?_
 refine rg fun KF hKF => ?_
 refine Fo.ldN rfl rfl (by simp only [↓nrmL, nrmZ, Nat.reduceEqDiff, ↓reduceIte, Nat.reduceAdd, Int.reduceBEq, Int.reduceBNe, h0, h1, h2, h3, bne]; rfl) ?_
 refine Fo.pcall (v' := ?_) hn rfl (by simp only [↓nrmL, nrmZ, Nat.reduceEqDiff, ↓reduceIte, Nat.reduceAdd, Int.reduceBEq, Int.reduceBNe, h0, h1, h2, h3, bne, List.map]; rfl) rfl ?hv fun _ _ => ?_; case hv => rfl
 refine mI rfl ?_
 refine WpO.nil (hKF _ _ ?_)
 refine sq ?_
 refine rg fun KF hKF => ?_
 refine mI rfl ?_
 refine Fo.bin rfl rfl rfl (by simp only [↓nrmL, nrmZ, Nat.reduceEqDiff, ↓reduceIte, Nat.reduceAdd, Int.reduceBEq, Int.reduceBNe, h0, h1, h2, h3, bne]; rfl) ?_
 refine WpO.nil (hKF _ _ ?_)
 refine Wp.cond (b := false) rfl ?_
 refine Wp.skip ?_
 refine sq ?_
 refine sq ?_
 refine rg fun KF hKF => ?_
 refine Fo.ldN rfl rfl (by simp only [↓nrmL, nrmZ, Nat.reduceEqDiff, ↓reduceIte, Nat.reduceAdd, Int.reduceBEq, Int.reduceBNe, h0, h1, h2, h3, bne]; rfl) ?_
 refine Fo.pcall (v' := ?_) hn rfl (by simp only [↓nrmL, nrmZ, Nat.reduceEqDiff, ↓reduceIte, Nat.reduceAdd, Int.reduceBEq, Int.reduceBNe, h0, h1, h2, h3, bne, List.map]; rfl) rfl ?hv fun _ _ => ?_; case hv => rfl
 refine mI rfl ?_
 refine WpO.nil (hKF _ _ ?_)
 refine sq ?_
 refine rg fun KF hKF => ?_
 refine mI rfl ?_
 refine Fo.bin rfl rfl rfl (by simp only [↓nrmL, nrmZ, Nat.reduceEqDiff, ↓reduceIte, Nat.reduceAdd, Int.reduceBEq, Int.reduceBNe, h0, h1, h2, h3, bne]; rfl) ?_
 refine WpO.nil (hKF _ _ ?_)
 refine Wp.cond (b := false) rfl ?_
 refine Wp.skip ?_
 refine sq ?_
 refine sq ?_
 refine rg fun KF hKF => ?_
 refine Fo.fa rfl ?_
 refine Fo.ld rfl rfl ?_
 refine Fo.fa rfl ?_
 refine Fo.ld rfl rfl ?_
 refine Fo.bin rfl rfl rfl (by simp only [↓nrmL, nrmZ, Nat.reduceEqDiff, ↓reduceIte, Nat.reduceAdd, Int.reduceBEq, Int.reduceBNe, h0, h1, h2, h3, bne]; rfl) ?_
 refine mB rfl ?_
 refine Fo.yes rfl rfl ?_
 refine Fo.fa rfl ?_
 refine Fo.yes rfl rfl ?_
 refine Fo.ld rfl rfl ?_
 refine Fo.yes rfl rfl ?_
 refine Fo.fa rfl ?_
 refine Fo.yes rfl rfl ?_
 refine Fo.ld rfl rfl ?_
 refine Fo.yes rfl rfl ?_
 refine Fo.bin rfl rfl rfl (by simp only [↓nrmL, nrmZ, Nat.reduceEqDiff, ↓reduceIte, Nat.reduceAdd, Int.reduceBEq, Int.reduceBNe, h0, h1, h2, h3, bne]; rfl) ?_
 refine fB rfl rfl ?_
 refine WpO.nil (hKF _ _ ?_)
 refine Wp.cond (b := false) rfl ?_
 refine Wp.skip ?_
 refine sq ?_
 refine rg fun KF hKF => ?_
 refine Fo.fa rfl ?_
 refine Fo.ld rfl rfl ?_
 refine Fo.fa rfl ?_
 refine Fo.ld rfl rfl ?_
 refine WpO.do (WpX.conD hn rfl rfl (by simp only [↓nrmL, nrmZ, Nat.reduceEqDiff, ↓reduceIte, Nat.reduceAdd, Int.reduceBEq, Int.reduceBNe, List.map] <;> rfl) (K_refNew (w := a) (h := b) (by omega) (by omega)) fun v H1 h5 => ?_)
 obtain ⟨o, e2, ho, hf, hw3, hx⟩ := h5
 subst e2
 haveI : ExtI _ H1 := ⟨hx⟩
 haveI := ho.one
 have ho : BytesI H1 o (List.replicate (a * b) 0) := ho
 refine Fo.new ?_
 refine Fo.st rfl (rfl : _ = AVal.agg _) rfl rfl rfl (by repeat (first | rfl | refine allOne_cons ?_)) (by simp only [↓nrmL, nrmZ, Nat.reduceEqDiff, ↓reduceIte, Nat.reduceAdd, Int.reduceBEq, Int.reduceBNe]; rfl) ?_
 refine WpO.nil (hKF _ _ ?_)
 refine sq ?_
 refine sq ?_
 refine rg fun KF hKF => ?_
 refine mI rfl ?_
 refine WpO.nil (hKF _ _ ?_)
 refine Wp.block ?_
 dsimp only [cond_true, cond_false]
 refine Wp.loopS [11, 12, 13, 14, 45, 46, 47, 48, 49, 50, 51, 52, 53, 54, 55, 56, 57, 58, 59, 60, 61, 62, 63, 64, 65, 66, 67, 68, 69, 70, 71, 72, 73, 74, 75, 76, 77, 78, 79, 80, 81, 82, 83, 84, 85, 86, 87, 88, 89, 90, 91, 92, 93, 94, 95, 96, 97, 98, 99, 100, 101, 102, 103, 104, 105, 106] (fun y : Nat => [(11, .int .i64 y)]) (fun H3 y H2 => y ≤ b ∧ BytesI H2 o (filled (fun i => if ((l.getD i 0 == 1) || (m.getD i 0 == 1)) = true then (1 : UInt8) else 0) (y * a) (a * b)) ∧ WrS H2 o ∧ ExtP0 H3 H2 o) (fun y => b - y) 0 rfl (fun _ => rfl) ⟨rfl, trivial⟩ ⟨Nat.zero_le _, by rw [Nat.zero_mul, filled_zero]; infer_instance, inferInstance, inferInstance⟩ (by unfold fuel0 at hn; omega) ?_
 rintro y g H2 ⟨hy, hb2, hw2, ⟨hx2⟩⟩
 simp only [↓nrmL, nrmZ, Nat.reduceEqDiff, ↓reduceIte, Nat.reduceAdd, Int.reduceBEq, Int.reduceBNe]
 cases hc : decide ((y : Int) < (b : Int))
 ·have hyb : y = b := by have := of_decide_eq_false hc; omega
  subst hyb
  rw [Nat.mul_comm y a, filled_all] at hb2
  try simp only [↓nrmL, nrmZ, Nat.reduceEqDiff, ↓reduceIte, Nat.reduceAdd, Int.reduceBEq, Int.reduceBNe, hc]
  refine sq ?_
  refine sq ?_
  refine rg fun KF hKF => ?_
  refine mI rfl ?_
  refine Fo.fa rfl ?_
  refine Fo.ld rfl rfl ?_
  refine Fo.bin rfl rfl rfl (by simp only [↓nrmL, nrmZ, Nat.reduceEqDiff, ↓reduceIte, Nat.reduceAdd, Int.reduceBEq, Int.reduceBNe, hc]; rfl) ?_
  refine WpO.nil (hKF _ _ ?_)
  refine Wp.cond (b := false) rfl ?_
  refine Wp.exit ?_
  refine sq ?_
  refine rg fun KF hKF => ?_
  refine Fo.ldN rfl rfl (by simp only [↓nrmL, nrmZ, Nat.reduceEqDiff, ↓reduceIte, Nat.reduceAdd, Int.reduceBEq, Int.reduceBNe, hc]; rfl) ?_
  refine Fo.st rfl (rfl : _ = AVal.agg _) rfl rfl rfl (by repeat (first | rfl | refine allOne_cons ?_)) (by simp only [↓nrmL, nrmZ, Nat.reduceEqDiff, ↓reduceIte, Nat.reduceAdd, Int.reduceBEq, Int.reduceBNe, hc]; rfl) ?_
  refine mI rfl ?_
  refine WpO.nil (hKF _ _ ?_)
  refine Wp.ret ?_
  dsimp only [cond_true, cond_false]
  refine ⟨trivial, _, (by first | rfl | exact getAllC rfl rfl rfl rfl | exact getAllT rfl (getAllC rfl rfl rfl rfl) | exact getAllC rfl rfl rfl (getAllC rfl rfl rfl rfl) | exact getAllC1 rfl rfl rfl), ?_⟩
  refine ⟨_, rfl, o, rfl, ?_, hf.weak, inferInstance, Ext0.ext⟩
  have e1 : List.zipWith (fun a b => a ||| b) l m = (List.range (a * y)).map (fun i => if ((l.getD i 0 == 1) || (m.getD i 0 == 1)) = true then 1 else 0) := by
   rw [← zip_range (by omega), hl]
   apply List.map_congr_left
   intro i hi
   have hi' : i < a * y := List.mem_range.1 hi
   have g1 : l.getD i 0 = 0 ∨ l.getD i 0 = 1 := px_get hpl (by omega)
   have g2 : m.getD i 0 = 0 ∨ m.getD i 0 = 1 := px_get hpm (by omega)
   rcases g1 with g1 | g1 <;> rcases g2 with g2 | g2 <;> rw [g1, g2] <;> rfl
  show BytesI _ o (List.zipWith (fun a b => a ||| b) l m)
  rw [e1]
  infer_instance

 ·have hyb : y < b := by have := of_decide_eq_true hc; omega
  try simp only [↓nrmL, nrmZ, Nat.reduceEqDiff, ↓reduceIte, Nat.reduceAdd, Int.reduceBEq, Int.reduceBNe, hc]
  refine sq ?_
  refine sq ?_
  refine rg fun KF hKF => ?_
  refine mI rfl ?_
  refine Fo.fa rfl ?_
  refine Fo.ld rfl rfl ?_
  refine Fo.bin rfl rfl rfl (by simp only [↓nrmL, nrmZ, Nat.reduceEqDiff, ↓reduceIte, Nat.reduceAdd, Int.reduceBEq, Int.reduceBNe, hc]; rfl) ?_
  refine WpO.nil (hKF _ _ ?_)
  refine Wp.cond (b := true) rfl ?_
  refine Wp.skip ?_
  refine sq ?_
  refine Wp.block ?_
  refine sq ?_
  refine rg fun KF hKF => ?_
  refine mI rfl ?_
  refine WpO.nil (hKF _ _ ?_)
  refine Wp.block ?_
  dsimp only [cond_true, cond_false]
  refine Wp.loopS [12, 13, 14, 51, 52, 53, 54, 55, 56, 57, 58, 59, 60, 61, 62, 63, 64, 65, 66, 67, 68, 69, 70, 71, 72, 73, 74, 75, 76, 77, 78, 79, 80, 81, 82, 83, 84, 85, 86, 87, 88, 89, 90, 91, 92, 93, 94, 95, 96, 97, 98, 99, 100, 101, 102, 103, 104, 105, 106] (fun x : Nat => [(12, .int .i64 x)]) (fun H3 x H4 => x ≤ a ∧ BytesI H4 o (filled (fun i => if ((l.getD i 0 == 1) || (m.getD i 0 == 1)) = true then (1 : UInt8) else 0) (y * a + x) (a * b)) ∧ WrS H4 o ∧ ExtP0 H3 H4 o) (fun x => a - x) 0 rfl (fun _ => rfl) ⟨rfl, trivial⟩ ⟨Nat.zero_le _, inferInstance, inferInstance, inferInstance⟩ (by unfold fuel0 at hn; omega) ?_
  rintro x g2 H4 ⟨hx0, hb4, hw4, ⟨hx4⟩⟩
  simp only [↓nrmL, nrmZ, Nat.reduceEqDiff, ↓reduceIte, Nat.reduceAdd, Int.reduceBEq, Int.reduceBNe]
  cases hc2 : decide ((x : Int) < (a : Int))
  ·have hxa : x = a := by have := of_decide_eq_false hc2; omega
   subst hxa
   have hw1 := wa1 (a := y) (by omega)
   try simp only [↓nrmL, nrmZ, Nat.reduceEqDiff, ↓reduceIte, Nat.reduceAdd, Int.reduceBEq, Int.reduceBNe, hc2]
   refine sq ?_
   refine sq ?_
   refine rg fun KF hKF => ?_
   refine mI rfl ?_
   refine Fo.fa rfl ?_
   refine Fo.ld rfl rfl ?_
   refine Fo.bin rfl rfl rfl (by simp only [↓nrmL, nrmZ, Nat.reduceEqDiff, ↓reduceIte, Nat.reduceAdd, Int.reduceBEq, Int.reduceBNe, hc2]; rfl) ?_
   refine WpO.nil (hKF _ _ ?_)
   refine Wp.cond (b := false) rfl ?_
   refine Wp.exit ?_
   refine rg fun KF hKF => ?_
   refine mI rfl ?_
   refine Fo.bin rfl rfl rfl rfl ?_
   refine mI rfl ?_
   refine WpO.nil (hKF _ _ ?_)
   dsimp only [cond_true, cond_false]
   refine ⟨y + 1, by omega, ⟨by simp only [↓nrmL, nrmZ, Nat.reduceEqDiff, ↓reduceIte, Nat.reduceAdd, Int.reduceBEq, Int.reduceBNe]; rw [hw1], trivial⟩, hyb, by rw [Nat.add_mul, Nat.one_mul]; infer_instance, inferInstance, inferInstance⟩
  ·have hxa : x < a := by have := of_decide_eq_true hc2; omega
   have hlt := idx_lt hxa hyb
   have hw1 := wa1 (a := x) (by omega)
   have hfl := filled_length (fun i => if ((l.getD i 0 == 1) || (m.getD i 0 == 1)) = true then (1 : UInt8) else 0) (y * a + x) (a * b)
   have k1 := inkB_nat (l := l) hxa hyb
   have k2 := inkB_nat (l := m) hxa hyb
   try simp only [↓nrmL, nrmZ, Nat.reduceEqDiff, ↓reduceIte, Nat.reduceAdd, Int.reduceBEq, Int.reduceBNe, hc2, Bool.not_true, Bool.not_false]
   refine sq ?_
   refine sq ?_
   refine rg fun KF hKF => ?_
   refine mI rfl ?_
   refine Fo.fa rfl ?_
   refine Fo.ld rfl rfl ?_
   refine Fo.bin rfl rfl rfl (by simp only [↓nrmL, nrmZ, Nat.reduceEqDiff, ↓reduceIte, Nat.reduceAdd, Int.reduceBEq, Int.reduceBNe, hc2, Bool.not_true, Bool.not_false]; rfl) ?_
   refine WpO.nil (hKF _ _ ?_)
   refine Wp.cond (b := true) rfl ?_
   refine Wp.skip ?_
   refine sq ?_
   refine Wp.block ?_
   refine sq ?_
   dsimp only [cond_true, cond_false]
   refine Fr.dregion0 rfl fun KF hKF => ?_
   refine Fe.read rfl (exec_ldN rfl rfl (by simp only [↓nrmL, nrmZ, Nat.reduceEqDiff, ↓reduceIte, Nat.reduceAdd, Int.reduceBEq, Int.reduceBNe]; rfl)) rfl (by repeat (first | exact trivial | refine ⟨(by first | exact Or.inl (by dsimp only; decide) | exact Or.inr (exec_ld rfl rfl) | exact Or.inr (exec_ldN rfl rfl rfl) | exact Or.inr (exec_ldB rfl (by omega)) | exact Or.inr (exec_ldI rfl (by omega)) | exact Or.inr ghost_of), ?_⟩)) ?_
   refine Fe.pure rfl rfl (by simp only [↓nrmL, nrmZ, Nat.reduceEqDiff, ↓reduceIte, Nat.reduceAdd, Int.reduceBEq, Int.reduceBNe]; rfl) ?_
   refine Fe.pure rfl rfl (by simp only [↓nrmL, nrmZ, Nat.reduceEqDiff, ↓reduceIte, Nat.reduceAdd, Int.reduceBEq, Int.reduceBNe]; rfl) ?_
   refine Fe.pcall (v' := ?_) rfl hn rfl (by simp only [↓nrmL, nrmZ, Nat.reduceEqDiff, ↓reduceIte, Nat.reduceAdd, Int.reduceBEq, Int.reduceBNe, List.map]; rfl) rfl ?hv fun _ _ => ⟨(by repeat (first | exact trivial | refine ⟨(by first | exact Or.inl (by dsimp only; decide) | exact Or.inr (readOk_of (exec_ld rfl rfl)) | exact Or.inr (readOk_of (exec_ldN rfl rfl rfl)) | exact Or.inr (readOk_of (exec_ldB rfl (by omega))) | exact Or.inr (readOk_of (exec_ldI rfl (by omega))) | exact Or.inr (made_of rfl)), ?_⟩)), ?_⟩; case hv => rfl
   refine Fe.read rfl (exec_ldN rfl rfl (by simp only [↓nrmL, nrmZ, Nat.reduceEqDiff, ↓reduceIte, Nat.reduceAdd, Int.reduceBEq, Int.reduceBNe]; rfl)) rfl (by repeat (first | exact trivial | refine ⟨(by first | exact Or.inl (by dsimp only; decide) | exact Or.inr (exec_ld rfl rfl) | exact Or.inr (exec_ldN rfl rfl rfl) | exact Or.inr (exec_ldB rfl (by omega)) | exact Or.inr (exec_ldI rfl (by omega)) | exact Or.inr ghost_of), ?_⟩)) ?_
   refine Fe.pure rfl rfl (by simp only [↓nrmL, nrmZ, Nat.reduceEqDiff, ↓reduceIte, Nat.reduceAdd, Int.reduceBEq, Int.reduceBNe]; rfl) ?_
   refine Fe.pure rfl rfl (by simp only [↓nrmL, nrmZ, Nat.reduceEqDiff, ↓reduceIte, Nat.reduceAdd, Int.reduceBEq, Int.reduceBNe]; rfl) ?_
   refine Fe.pcall (v' := ?_) rfl hn rfl (by simp only [↓nrmL, nrmZ, Nat.reduceEqDiff, ↓reduceIte, Nat.reduceAdd, Int.reduceBEq, Int.reduceBNe, List.map]; rfl) rfl ?hv fun _ _ => ⟨(by repeat (first | exact trivial | refine ⟨(by first | exact Or.inl (by dsimp only; decide) | exact Or.inr (readOk_of (exec_ld rfl rfl)) | exact Or.inr (readOk_of (exec_ldN rfl rfl rfl)) | exact Or.inr (readOk_of (exec_ldB rfl (by omega))) | exact Or.inr (readOk_of (exec_ldI rfl (by omega))) | exact Or.inr (made_of rfl)), ?_⟩)), ?_⟩; case hv => rfl
   refine Fe.pure rfl rfl (by simp only [↓nrmL, nrmZ, Nat.reduceEqDiff, ↓reduceIte, Nat.reduceAdd, Int.reduceBEq, Int.reduceBNe]; rfl) ?_
   refine Fe.pure rfl rfl (by simp only [↓nrmL, nrmZ, Nat.reduceEqDiff, ↓reduceIte, Nat.reduceAdd, Int.reduceBEq, Int.reduceBNe]; rfl) ?_
   refine WpE.nil (hKF _ _ ?_)
   try simp only [↓nrmL, nrmZ, Nat.reduceEqDiff, ↓reduceIte, Nat.reduceAdd, Int.reduceBEq, Int.reduceBNe, Bool.not_true, Bool.not_false]
   refine sq ?_
   refine rg fun KF hKF => ?_
   refine mI rfl ?_
   refine Fo.bin rfl rfl rfl (by simp only [↓nrmL, nrmZ, Nat.reduceEqDiff, ↓reduceIte, Nat.reduceAdd, Int.reduceBEq, Int.reduceBNe, Bool.not_true, Bool.not_false]; rfl) ?_
   refine mB rfl ?_
   refine Fo.yes rfl rfl ?_
   refine mB rfl ?_
   refine Fo.yes rfl rfl ?_
   refine mB rfl ?_
   cases ht : (inkB a b l x y : Bool)
   ·skip
    cases ht2 : (inkB a b m x y : Bool)
    ·skip
     try simp only [↓nrmL, nrmZ, Nat.reduceEqDiff, ↓reduceIte, Nat.reduceAdd, Int.reduceBEq, Int.reduceBNe, hc2, ht, ht2, Bool.not_true, Bool.not_false]
     refine Fo.yes rfl rfl ?_
     refine mB rfl ?_
     refine Fo.yes rfl rfl ?_
     refine fB rfl rfl ?_
     refine tB rfl rfl ?_
     refine mB rfl ?_
     refine Fo.yes rfl rfl ?_
     refine mI rfl ?_
     refine Fo.yes rfl rfl ?_
     refine Fo.bin rfl rfl rfl (by simp only [↓nrmL, nrmZ, Nat.reduceEqDiff, ↓reduceIte, Nat.reduceAdd, Int.reduceBEq, Int.reduceBNe, hc2, ht, ht2, Bool.not_true, Bool.not_false]; rfl) ?_
     refine Fo.yes rfl rfl ?_
     refine mB rfl ?_
     refine Fo.no rfl rfl ?_
     refine Fo.yes rfl rfl ?_
     refine fB rfl rfl ?_
     refine Fo.yes rfl rfl ?_
     refine mB rfl ?_
     refine Fo.no rfl rfl ?_
     refine Fo.yes rfl rfl ?_
     refine fB rfl rfl ?_
     refine fB rfl rfl ?_
     refine mB rfl ?_
     refine Fo.yes rfl rfl ?_
     refine mI rfl ?_
     refine Fo.yes rfl rfl ?_
     refine Fo.bin rfl rfl rfl (by simp only [↓nrmL, nrmZ, Nat.reduceEqDiff, ↓reduceIte, Nat.reduceAdd, Int.reduceBEq, Int.reduceBNe, hc2, ht, ht2, Bool.not_true, Bool.not_false]; rfl) ?_
     refine Fo.yes rfl rfl ?_
     refine mB rfl ?_
     refine Fo.no rfl rfl ?_
     refine Fo.yes rfl rfl ?_
     refine fB rfl rfl ?_
     refine Fo.yes rfl rfl ?_
     refine mB rfl ?_
     refine Fo.no rfl rfl ?_
     refine Fo.no rfl rfl ?_
     refine Fo.yes rfl rfl ?_
     refine fB rfl rfl ?_
     refine fB rfl rfl ?_
     refine mB rfl ?_
     refine Fo.yes rfl rfl ?_
     refine mI rfl ?_
     refine Fo.yes rfl rfl ?_
     refine Fo.bin rfl rfl rfl (by simp only [↓nrmL, nrmZ, Nat.reduceEqDiff, ↓reduceIte, Nat.reduceAdd, Int.reduceBEq, Int.reduceBNe, hc2, ht, ht2, Bool.not_true, Bool.not_false]; rfl) ?_
     refine Fo.yes rfl rfl ?_
     refine mB rfl ?_
     refine Fo.no rfl rfl ?_
     refine Fo.no rfl rfl ?_
     refine Fo.no rfl rfl ?_
     refine Fo.yes rfl rfl ?_
     refine fB rfl rfl ?_
     refine fB rfl rfl ?_
     refine WpO.nil (hKF _ _ ?_)
     refine Wp.cond (b := false) rfl ?_
     refine Wp.skip ?_
     refine rg fun KF hKF => ?_
     refine mI rfl ?_
     refine Fo.bin rfl rfl rfl rfl ?_
     refine mI rfl ?_
     refine WpO.nil (hKF _ _ ?_)
     dsimp only [cond_true, cond_false]
     have h0 : (fun i => if ((l.getD i 0 == 1) || (m.getD i 0 == 1)) = true then (1 : UInt8) else 0) (y * a + x) = 0 := by
      rw [k1] at ht
      rw [k2] at ht2
      simp only [ht, ht2]; rfl
     try dsimp only at h0
     refine ⟨x + 1, by omega, ⟨by simp only [↓nrmL, nrmZ, Nat.reduceEqDiff, ↓reduceIte, Nat.reduceAdd, Int.reduceBEq, Int.reduceBNe]; rw [hw1], trivial⟩, hxa, by rw [show y * a + (x + 1) = y * a + x + 1 by omega, filled_skip h0]; infer_instance, inferInstance, inferInstance⟩
    ·skip
     try simp only [↓nrmL, nrmZ, Nat.reduceEqDiff, ↓reduceIte, Nat.reduceAdd, Int.reduceBEq, Int.reduceBNe, hc2, ht, ht2, Bool.not_true, Bool.not_false]
     refine Fo.yes rfl rfl ?_
     refine mB rfl ?_
     refine Fo.yes rfl rfl ?_
     refine fB rfl rfl ?_
     refine tB rfl rfl ?_
     refine mB rfl ?_
     refine Fo.no rfl rfl ?_
     refine Fo.no rfl rfl ?_
     refine Fo.no rfl rfl ?_
     refine Fo.noU rfl ?_
     refine Fo.no rfl rfl ?_
     refine Fo.no rfl rfl ?_
     refine Fo.noU rfl ?_
     refine Fo.no rfl rfl ?_
     refine tB rfl rfl ?_
     refine mB rfl ?_
     refine Fo.no rfl rfl ?_
     refine Fo.no rfl rfl ?_
     refine Fo.no rfl rfl ?_
     refine Fo.noU rfl ?_
     refine Fo.no rfl rfl ?_
     refine Fo.no rfl rfl ?_
     refine Fo.noU rfl ?_
     refine Fo.noU rfl ?_
     refine Fo.no rfl rfl ?_
     refine tB rfl rfl ?_
     refine mB rfl ?_
     refine Fo.no rfl rfl ?_
     refine Fo.no rfl rfl ?_
     refine Fo.no rfl rfl ?_
     refine Fo.noU rfl ?_
     refine Fo.noU rfl ?_
     refine Fo.noU rfl ?_
     refine Fo.no rfl rfl ?_
     refine tB rfl rfl ?_
     refine WpO.nil (hKF _ _ ?_)
     refine Wp.cond (b := true) rfl ?_
     refine rg fun KF hKF => ?_
     refine Fo.ldN rfl rfl (by simp only [↓nrmL, nrmZ, Nat.reduceEqDiff, ↓reduceIte, Nat.reduceAdd, Int.reduceBEq, Int.reduceBNe, hc2, ht, ht2, Bool.not_true, Bool.not_false]; rfl) ?_
     refine mI rfl ?_
     refine mI rfl ?_
     refine WpO.do (WpX.conD hn rfl rfl (by simp only [↓nrmL, nrmZ, Nat.reduceEqDiff, ↓reduceIte, Nat.reduceAdd, Int.reduceBEq, Int.reduceBNe, List.map] <;> rfl) (K_refSet (y := y) (x := x) (by rw [hfl]; exact hlt) (by rw [hfl]; omega)) fun v H5 h5 => ?_)
     obtain ⟨hb5, hw5, hx5⟩ := h5
     refine WpO.nil (hKF _ _ ?_)
     refine rg fun KF hKF => ?_
     refine mI rfl ?_
     refine Fo.bin rfl rfl rfl rfl ?_
     refine mI rfl ?_
     refine WpO.nil (hKF _ _ ?_)
     dsimp only [cond_true, cond_false]
     have h0 : (fun i => if ((l.getD i 0 == 1) || (m.getD i 0 == 1)) = true then (1 : UInt8) else 0) (y * a + x) = 1 := by
      rw [k1] at ht
      rw [k2] at ht2
      simp only [ht, ht2]; rfl
     try dsimp only at h0
     refine ⟨x + 1, by omega, ⟨by simp only [↓nrmL, nrmZ, Nat.reduceEqDiff, ↓reduceIte, Nat.reduceAdd, Int.reduceBEq, Int.reduceBNe]; rw [hw1], trivial⟩, hxa, by rw [show y * a + (x + 1) = y * a + x + 1 by omega, ← filled_succ, h0]; infer_instance, inferInstance, inferInstance⟩
   ·skip
    cases ht2 : (inkB a b m x y : Bool)
    ·skip
     try simp only [↓nrmL, nrmZ, Nat.reduceEqDiff, ↓reduceIte, Nat.reduceAdd, Int.reduceBEq, Int.reduceBNe, hc2, ht, ht2, Bool.not_true, Bool.not_false]
     refine Fo.no rfl rfl ?_
     refine Fo.yes rfl rfl ?_
     refine tB rfl rfl ?_
     refine tB rfl rfl ?_
     refine mB rfl ?_
     refine Fo.no rfl rfl ?_
     refine Fo.no rfl rfl ?_
     refine Fo.no rfl rfl ?_
     refine Fo.noU rfl ?_
     refine Fo.no rfl rfl ?_
     refine Fo.no rfl rfl ?_
     refine Fo.noU rfl ?_
     refine Fo.no rfl rfl ?_
     refine tB rfl rfl ?_
     refine mB rfl ?_
     refine Fo.no rfl rfl ?_
     refine Fo.no rfl rfl ?_
     refine Fo.no rfl rfl ?_
     refine Fo.noU rfl ?_
     refine Fo.no rfl rfl ?_
     refine Fo.no rfl rfl ?_
     refine Fo.noU rfl ?_
     refine Fo.noU rfl ?_
     refine Fo.no rfl rfl ?_
     refine tB rfl rfl ?_
     refine mB rfl ?_
     refine Fo.no rfl rfl ?_
     refine Fo.no rfl rfl ?_
     refine Fo.no rfl rfl ?_
     refine Fo.noU rfl ?_
     refine Fo.noU rfl ?_
     refine Fo.noU rfl ?_
     refine Fo.no rfl rfl ?_
     refine tB rfl rfl ?_
     refine WpO.nil (hKF _ _ ?_)
     refine Wp.cond (b := true) rfl ?_
     refine rg fun KF hKF => ?_
     refine Fo.ldN rfl rfl (by simp only [↓nrmL, nrmZ, Nat.reduceEqDiff, ↓reduceIte, Nat.reduceAdd, Int.reduceBEq, Int.reduceBNe, hc2, ht, ht2, Bool.not_true, Bool.not_false]; rfl) ?_
     refine mI rfl ?_
     refine mI rfl ?_
     refine WpO.do (WpX.conD hn rfl rfl (by simp only [↓nrmL, nrmZ, Nat.reduceEqDiff, ↓reduceIte, Nat.reduceAdd, Int.reduceBEq, Int.reduceBNe, List.map] <;> rfl) (K_refSet (y := y) (x := x) (by rw [hfl]; exact hlt) (by rw [hfl]; omega)) fun v H5 h5 => ?_)
     obtain ⟨hb5, hw5, hx5⟩ := h5
     refine WpO.nil (hKF _ _ ?_)
     refine rg fun KF hKF => ?_
     refine mI rfl ?_
     refine Fo.bin rfl rfl rfl rfl ?_
     refine mI rfl ?_
     refine WpO.nil (hKF _ _ ?_)
     dsimp only [cond_true, cond_false]
     have h0 : (fun i => if ((l.getD i 0 == 1) || (m.getD i 0 == 1)) = true then (1 : UInt8) else 0) (y * a + x) = 1 := by
      rw [k1] at ht
      rw [k2] at ht2
      simp only [ht, ht2]; rfl
     try dsimp only at h0
     refine ⟨x + 1, by omega, ⟨by simp only [↓nrmL, nrmZ, Nat.reduceEqDiff, ↓reduceIte, Nat.reduceAdd, Int.reduceBEq, Int.reduceBNe]; rw [hw1], trivial⟩, hxa, by rw [show y * a + (x + 1) = y * a + x + 1 by omega, ← filled_succ, h0]; infer_instance, inferInstance, inferInstance⟩
    ·skip
     try simp only [↓nrmL, nrmZ, Nat.reduceEqDiff, ↓reduceIte, Nat.reduceAdd, Int.reduceBEq, Int.reduceBNe, hc2, ht, ht2, Bool.not_true, Bool.not_false]
     refine Fo.no rfl rfl ?_
     refine Fo.yes rfl rfl ?_
     refine tB rfl rfl ?_
     refine tB rfl rfl ?_
     refine mB rfl ?_
     refine Fo.no rfl rfl ?_
     refine Fo.no rfl rfl ?_
     refine Fo.no rfl rfl ?_
     refine Fo.noU rfl ?_
     refine Fo.no rfl rfl ?_
     refine Fo.no rfl rfl ?_
     refine Fo.noU rfl ?_
     refine Fo.no rfl rfl ?_
     refine tB rfl rfl ?_
     refine mB rfl ?_
     refine Fo.no rfl rfl ?_
     refine Fo.no rfl rfl ?_
     refine Fo.no rfl rfl ?_
     refine Fo.noU rfl ?_
     refine Fo.no rfl rfl ?_
     refine Fo.no rfl rfl ?_
     refine Fo.noU rfl ?_
     refine Fo.noU rfl ?_
     refine Fo.no rfl rfl ?_
     refine tB rfl rfl ?_
     refine mB rfl ?_
     refine Fo.no rfl rfl ?_
     refine Fo.no rfl rfl ?_
     refine Fo.no rfl rfl ?_
     refine Fo.noU rfl ?_
     refine Fo.noU rfl ?_
     refine Fo.noU rfl ?_
     refine Fo.no rfl rfl ?_
     refine tB rfl rfl ?_
     refine WpO.nil (hKF _ _ ?_)
     refine Wp.cond (b := true) rfl ?_
     refine rg fun KF hKF => ?_
     refine Fo.ldN rfl rfl (by simp only [↓nrmL, nrmZ, Nat.reduceEqDiff, ↓reduceIte, Nat.reduceAdd, Int.reduceBEq, Int.reduceBNe, hc2, ht, ht2, Bool.not_true, Bool.not_false]; rfl) ?_
     refine mI rfl ?_
     refine mI rfl ?_
     refine WpO.do (WpX.conD hn rfl rfl (by simp only [↓nrmL, nrmZ, Nat.reduceEqDiff, ↓reduceIte, Nat.reduceAdd, Int.reduceBEq, Int.reduceBNe, List.map] <;> rfl) (K_refSet (y := y) (x := x) (by rw [hfl]; exact hlt) (by rw [hfl]; omega)) fun v H5 h5 => ?_)
     obtain ⟨hb5, hw5, hx5⟩ := h5
     refine WpO.nil (hKF _ _ ?_)
     refine rg fun KF hKF => ?_
     refine mI rfl ?_
     refine Fo.bin rfl rfl rfl rfl ?_
     refine mI rfl ?_
     refine WpO.nil (hKF _ _ ?_)
     dsimp only [cond_true, cond_false]
     have h0 : (fun i => if ((l.getD i 0 == 1) || (m.getD i 0 == 1)) = true then (1 : UInt8) else 0) (y * a + x) = 1 := by
      rw [k1] at ht
      rw [k2] at ht2
      simp only [ht, ht2]; rfl
     try dsimp only at h0
     refine ⟨x + 1, by omega, ⟨by simp only [↓nrmL, nrmZ, Nat.reduceEqDiff, ↓reduceIte, Nat.reduceAdd, Int.reduceBEq, Int.reduceBNe]; rw [hw1], trivial⟩, hxa, by rw [show y * a + (x + 1) = y * a + x + 1 by omega, ← filled_succ, h0]; infer_instance, inferInstance, inferInstance⟩

theorem K_refPair1 {p q : AVal} {H : AHeap} {w h w' h' : Int} {l m : List UInt8} [hp : BytesI H p l] [hq : BytesI H q m] : Con ext prog 4 26 [.agg [.int .i64 w, .int .i64 h, p], .agg [.int .i64 w', .int .i64 h', q], .int .i64 1] H fun v H' => InkRes H H' v (combSpec (fun a b => a &&& b) ⟨w, h, l⟩ ⟨w', h', m⟩) := by
 refine con_of (show prog 26 = some c26 from rfl) rfl rfl fun n hn => ?_
 haveI := hp.one
 haveI := hq.one
 unfold combSpec
 cases h0 : (Img.err ⟨w, h, l⟩ == 0)
 ·skip
  try simp only [↓nrmL, nrmZ, Nat.reduceEqDiff, ↓reduceIte, Nat.reduceAdd, Int.reduceBEq, Int.reduceBNe, h0, bne]
  refine sq ?_
  refine rg fun KF hKF => ?_
  refine Fo.boxA rfl ?_
  refine Fo.boxA rfl ?_
  refine Fo.new ?_
  refine mI rfl ?_
  refine WpO.nil (hKF _ _ ?_)
  refine sq ?_
  refine sq ?_
  refine rg fun KF hKF => ?_
  refine Fo.ldN rfl rfl (by simp only [↓nrmL, nrmZ, Nat.reduceEqDiff, ↓reduceIte, Nat.reduceAdd, Int.reduceBEq, Int.reduceBNe, h0, bne]; rfl) ?_
  refine Fo.pcall (v' := ?_) hn rfl (by simp only [↓nrmL, nrmZ, Nat.reduceEqDiff, ↓reduceIte, Nat.reduceAdd, Int.reduceBEq, Int.reduceBNe, h0, bne, List.map]; rfl) rfl ?hv fun _ _ => ?_; case hv => rfl
  refine mI rfl ?_
  refine WpO.nil (hKF _ _ ?_)
  refine sq ?_
  refine rg fun KF hKF => ?_
  refine mI rfl ?_
  refine Fo.bin rfl rfl rfl (by simp only [↓nrmL, nrmZ, Nat.reduceEqDiff, ↓reduceIte, Nat.reduceAdd, Int.reduceBEq, Int.reduceBNe, h0, bne]; rfl) ?_
  refine WpO.nil (hKF _ _ ?_)
  refine Wp.cond (b := true) rfl ?_
  refine sq ?_
  refine rg fun KF hKF => ?_
  refine Fo.build (by repeat (first | refine aFill1 (by first | exact (rfl : _ = AVal.int _ _) | exact (rfl : _ = AVal.ptr _ _) | exact (rfl : _ = AVal.bool _) | exact (rfl : _ = AVal.agg _) | exact (rfl : _ = AVal.tuple _) | exact (rfl : _ = AVal.func _ _ _) | exact (rfl : _ = AVal.nslice) | ((try simp only [↓nrmL, nrmK, Nat.reduceEqDiff, ↓reduceIte]); rfl)) rfl ?_ | rfl)) rfl ?_
  refine mI rfl ?_
  refine Fo.st rfl (rfl : _ = AVal.agg _) rfl rfl rfl (by repeat (first | rfl | refine allOne_cons ?_)) (by simp only [↓nrmL, nrmZ, Nat.reduceEqDiff, ↓reduceIte, Nat.reduceAdd, Int.reduceBEq, Int.reduceBNe, h0, bne]; rfl) ?_
  refine mI rfl ?_
  refine WpO.nil (hKF _ _ ?_)
  refine Wp.ret ?_
  dsimp only [cond_true, cond_false]
  refine ⟨trivial, _, (by first | rfl | exact getAllC rfl rfl rfl rfl | exact getAllT rfl (getAllC rfl rfl rfl rfl) | exact getAllC rfl rfl rfl (getAllC rfl rfl rfl rfl) | exact getAllC1 rfl rfl rfl), ?_⟩
  exact ⟨_, rfl, newZero⟩
 cases h1 : (Img.err ⟨w', h', m⟩ == 0)
 ·skip
  try simp only [↓nrmL, nrmZ, Nat.reduceEqDiff, ↓reduceIte, Nat.reduceAdd, Int.reduceBEq, Int.reduceBNe, h0, h1, bne]
  refine sq ?_
  refine rg fun KF hKF => ?_
  refine Fo.boxA rfl ?_
  refine Fo.boxA rfl ?_
  refine Fo.new ?_
  refine mI rfl ?_
  refine WpO.nil (hKF _ _ ?_)
  refine sq ?_
  refine sq ?_
  refine rg fun KF hKF => ?_
  refine Fo.ldN rfl rfl (by simp only [↓nrmL, nrmZ, Nat.reduceEqDiff, ↓reduceIte, Nat.reduceAdd, Int.reduceBEq, Int.reduceBNe, h0, h1, bne]; rfl) ?_
  refine Fo.pcall (v' := ?_) hn rfl (by simp only [↓nrmL, nrmZ, Nat.reduceEqDiff, ↓reduceIte, Nat.reduceAdd, Int.reduceBEq, Int.reduceBNe, h0, h1, bne, List.map]; rfl) rfl ?hv fun _ _ => ?_; case hv => rfl
  refine mI rfl ?_
  refine WpO.nil (hKF _ _ ?_)
  refine sq ?_
  refine rg fun KF hKF => ?_
  refine mI rfl ?_
  refine Fo.bin rfl rfl rfl (by simp only [↓nrmL, nrmZ, Nat.reduceEqDiff, ↓reduceIte, Nat.reduceAdd, Int.reduceBEq, Int.reduceBNe, h0, h1, bne]; rfl) ?_
  refine WpO.nil (hKF _ _ ?_)
  refine Wp.cond (b := false) rfl ?_
  refine Wp.skip ?_
  refine sq ?_
  refine sq ?_
  refine rg fun KF hKF => ?_
  refine Fo.ldN rfl rfl (by simp only [↓nrmL, nrmZ, Nat.reduceEqDiff, ↓reduceIte, Nat.reduceAdd, Int.reduceBEq, Int.reduceBNe, h0, h1, bne]; rfl) ?_
  refine Fo.pcall (v' := ?_) hn rfl (by simp only [↓nrmL, nrmZ, Nat.reduceEqDiff, ↓reduceIte, Nat.reduceAdd, Int.reduceBEq, Int.reduceBNe, h0, h1, bne, List.map]; rfl) rfl ?hv fun _ _ => ?_; case hv => rfl
  refine mI rfl ?_
  refine WpO.nil (hKF _ _ ?_)
  refine sq ?_
  refine rg fun KF hKF => ?_
  refine mI rfl ?_
  refine Fo.bin rfl rfl rfl (by simp only [↓nrmL, nrmZ, Nat.reduceEqDiff, ↓reduceIte, Nat.reduceAdd, Int.reduceBEq, Int.reduceBNe, h0, h1, bne]; rfl) ?_
  refine WpO.nil (hKF _ _ ?_)
  refine Wp.cond (b := true) rfl ?_
  refine sq ?_
  refine rg fun KF hKF => ?_
  refine Fo.build (by repeat (first | refine aFill1 (by first | exact (rfl : _ = AVal.int _ _) | exact (rfl : _ = AVal.ptr _ _) | exact (rfl : _ = AVal.bool _) | exact (rfl : _ = AVal.agg _) | exact (rfl : _ = AVal.tuple _) | exact (rfl : _ = AVal.func _ _ _) | exact (rfl : _ = AVal.nslice) | ((try simp only [↓nrmL, nrmK, Nat.reduceEqDiff, ↓reduceIte]); rfl)) rfl ?_ | rfl)) rfl ?_
  refine mI rfl ?_
  refine Fo.st rfl (rfl : _ = AVal.agg _) rfl rfl rfl (by repeat (first | rfl | refine allOne_cons ?_)) (by simp only [↓nrmL, nrmZ, Nat.reduceEqDiff, ↓reduceIte, Nat.reduceAdd, Int.reduceBEq, Int.reduceBNe, h0, h1, bne]; rfl) ?_
  refine mI rfl ?_
  refine WpO.nil (hKF _ _ ?_)
  refine Wp.ret ?_
  dsimp only [cond_true, cond_false]
  refine ⟨trivial, _, (by first | rfl | exact getAllC rfl rfl rfl rfl | exact getAllT rfl (getAllC rfl rfl rfl rfl) | exact getAllC rfl rfl rfl (getAllC rfl rfl rfl rfl) | exact getAllC1 rfl rfl rfl), ?_⟩
  exact ⟨_, rfl, newZero⟩
 cases h2 : (w == w')
 ·simp only [cond_true, Bool.false_and, cond_false]
  try simp only [↓nrmL, nrmZ, Nat.reduceEqDiff, ↓reduceIte, Nat.reduceAdd, Int.reduceBEq, Int.reduceBNe, h0, h1, h2, bne]
  refine sq ?_
  refine rg fun KF hKF => ?_
  refine Fo.boxA rfl ?_
  refine Fo.boxA rfl ?_
  refine Fo.new ?_
  refine mI rfl ?_
  refine WpO.nil (hKF _ _ ?_)
  refine sq ?_
  refine sq ?_
  refine rg fun KF hKF => ?_
  refine Fo.ldN rfl rfl (by simp only [↓nrmL, nrmZ, Nat.reduceEqDiff, ↓reduceIte, Nat.reduceAdd, Int.reduceBEq, Int.reduceBNe, h0, h1, h2, bne]; rfl) ?_
  refine Fo.pcall (v' := ?_) hn rfl (by simp only [↓nrmL, nrmZ, Nat.reduceEqDiff, ↓reduceIte, Nat.reduceAdd, Int.reduceBEq, Int.reduceBNe, h0, h1, h2, bne, List.map]; rfl) rfl ?hv fun _ _ => ?_; case hv => rfl
  refine mI rfl ?_
  refine WpO.nil (hKF _ _ ?_)
  refine sq ?_
  refine rg fun KF hKF => ?_
  refine mI rfl ?_
  refine Fo.bin rfl rfl rfl (by simp only [↓nrmL, nrmZ, Nat.reduceEqDiff, ↓reduceIte, Nat.reduceAdd, Int.reduceBEq, Int.reduceBNe, h0, h1, h2, bne]; rfl) ?_
  refine WpO.nil (hKF _ _ ?_)
  refine Wp.cond (b := false) rfl ?_
  refine Wp.skip ?_
  refine sq ?_
  refine sq ?_
  refine rg fun KF hKF => ?_
  refine Fo.ldN rfl rfl (by simp only [↓nrmL, nrmZ, Nat.reduceEqDiff, ↓reduceIte, Nat.reduceAdd, Int.reduceBEq, Int.reduceBNe, h0, h1, h2, bne]; rfl) ?_
  refine Fo.pcall (v' := ?_) hn rfl (by simp only [↓nrmL, nrmZ, Nat.reduceEqDiff, ↓reduceIte, Nat.reduceAdd, Int.reduceBEq, Int.reduceBNe, h0, h1, h2, bne, List.map]; rfl) rfl ?hv fun _ _ => ?_; case hv => rfl
  refine mI rfl ?_
  refine WpO.nil (hKF _ _ ?_)
  refine sq ?_
  refine rg fun KF hKF => ?_
  refine mI rfl ?_
  refine Fo.bin rfl rfl rfl (by simp only [↓nrmL, nrmZ, Nat.reduceEqDiff, ↓reduceIte, Nat.reduceAdd, Int.reduceBEq, Int.reduceBNe, h0, h1, h2, bne]; rfl) ?_
  refine WpO.nil (hKF _ _ ?_)
  refine Wp.cond (b := false) rfl ?_
  refine Wp.skip ?_
  refine sq ?_
  refine sq ?_
  refine rg fun KF hKF => ?_
  refine Fo.fa rfl ?_
  refine Fo.ld rfl rfl ?_
  refine Fo.fa rfl ?_
  refine Fo.ld rfl rfl ?_
  refine Fo.bin rfl rfl rfl (by simp only [↓nrmL, nrmZ, Nat.reduceEqDiff, ↓reduceIte, Nat.reduceAdd, Int.reduceBEq, Int.reduceBNe, h0, h1, h2, bne]; rfl) ?_
  refine mB rfl ?_
  refine Fo.no rfl rfl ?_
  refine Fo.no rfl rfl ?_
  refine Fo.no rfl rfl ?_
  refine Fo.no rfl rfl ?_
  refine Fo.no rfl rfl ?_
  refine tB rfl rfl ?_
  refine WpO.nil (hKF _ _ ?_)
  refine Wp.cond (b := true) rfl ?_
  refine sq ?_
  refine rg fun KF hKF => ?_
  refine Fo.build (by repeat (first | refine aFill1 (by first | exact (rfl : _ = AVal.int _ _) | exact (rfl : _ = AVal.ptr _ _) | exact (rfl : _ = AVal.bool _) | exact (rfl : _ = AVal.agg _) | exact (rfl : _ = AVal.tuple _) | exact (rfl : _ = AVal.func _ _ _) | exact (rfl : _ = AVal.nslice) | ((try simp only [↓nrmL, nrmK, Nat.reduceEqDiff, ↓reduceIte]); rfl)) rfl ?_ | rfl)) rfl ?_
  refine Fo.st rfl (rfl : _ = AVal.agg _) rfl rfl rfl (by repeat (first | rfl | refine allOne_cons ?_)) (by simp only [↓nrmL, nrmZ, Nat.reduceEqDiff, ↓reduceIte, Nat.reduceAdd, Int.reduceBEq, Int.reduceBNe, h0, h1, h2, bne]; rfl) ?_
  refine mI rfl ?_
  refine WpO.nil (hKF _ _ ?_)
  refine Wp.ret ?_
  dsimp only [cond_true, cond_false]
  refine ⟨trivial, _, (by first | rfl | exact getAllC rfl rfl rfl rfl | exact getAllT rfl (getAllC rfl rfl rfl rfl) | exact getAllC rfl rfl rfl (getAllC rfl rfl rfl rfl) | exact getAllC1 rfl rfl rfl), ?_⟩
  exact ⟨_, rfl, newZero⟩
 cases h3 : (h == h')
 ·simp only [cond_true, Bool.and_false, cond_false]
  try simp only [↓nrmL, nrmZ, Nat.reduceEqDiff, ↓reduceIte, Nat.reduceAdd, Int.reduceBEq, Int.reduceBNe, h0, h1, h2, h3, bne]
  refine sq ?_
  refine rg fun KF hKF => ?_
  refine Fo.boxA rfl ?_
  refine Fo.boxA rfl ?_
  refine Fo.new ?_
  refine mI rfl ?_
  refine WpO.nil (hKF _ _ ?_)
  refine sq ?_
  refine sq ?_
  refine rg fun KF hKF => ?_
  refine Fo.ldN rfl rfl (by simp only [↓nrmL, nrmZ, Nat.reduceEqDiff, ↓reduceIte, Nat.reduceAdd, Int.reduceBEq, Int.reduceBNe, h0, h1, h2, h3, bne]; rfl) ?_
  refine Fo.pcall (v' := ?_) hn rfl (by simp only [↓nrmL, nrmZ, Nat.reduceEqDiff, ↓reduceIte, Nat.reduceAdd, Int.reduceBEq, Int.reduceBNe, h0, h1, h2, h3, bne, List.map]; rfl) rfl ?hv fun _ _ => ?_; case hv => rfl
  refine mI rfl ?_
  refine WpO.nil (hKF _ _ ?_)
  refine sq ?_
  refine rg fun KF hKF => ?_
  refine mI rfl ?_
  refine Fo.bin rfl rfl rfl (by simp only [↓nrmL, nrmZ, Nat.reduceEqDiff, ↓reduceIte, Nat.reduceAdd, Int.reduceBEq, Int.reduceBNe, h0, h1, h2, h3, bne]; rfl) ?_
  refine WpO.nil (hKF _ _ ?_)
  refine Wp.cond (b := false) rfl ?_
  refine Wp.skip ?_
  refine sq ?_
  refine sq ?_
  refine rg fun KF hKF => ?_
  refine Fo.ldN rfl rfl (by simp only [↓nrmL, nrmZ, Nat.reduceEqDiff, ↓reduceIte, Nat.reduceAdd, Int.reduceBEq, Int.reduceBNe, h0, h1, h2, h3, bne]; rfl) ?_
  refine Fo.pcall (v' := ?_) hn rfl (by simp only [↓nrmL, nrmZ, Nat.reduceEqDiff, ↓reduceIte, Nat.reduceAdd, Int.reduceBEq, Int.reduceBNe, h0, h1, h2, h3, bne, List.map]; rfl) rfl ?hv fun _ _ => ?_; case hv => rfl
  refine mI rfl ?_
  refine WpO.nil (hKF _ _ ?_)
  refine sq ?_
  refine rg fun KF hKF => ?_
  refine mI rfl ?_
  refine Fo.bin rfl rfl rfl (by simp only [↓nrmL, nrmZ, Nat.reduceEqDiff, ↓reduceIte, Nat.reduceAdd, Int.reduceBEq, Int.reduceBNe, h0, h1, h2, h3, bne]; rfl) ?_
  refine WpO.nil (hKF _ _ ?_)
  refine Wp.cond (b := false) rfl ?_
  refine Wp.skip ?_
  refine sq ?_
  refine sq ?_
  refine rg fun KF hKF => ?_
  refine Fo.fa rfl ?_
  refine Fo.ld rfl rfl ?_
  refine Fo.fa rfl ?_
  refine Fo.ld rfl rfl ?_
  refine Fo.bin rfl rfl rfl (by simp only [↓nrmL, nrmZ, Nat.reduceEqDiff, ↓reduceIte, Nat.reduceAdd, Int.reduceBEq, Int.reduceBNe, h0, h1, h2, h3, bne]; rfl) ?_
  refine mB rfl ?_
  refine Fo.yes rfl rfl ?_
  refine Fo.fa rfl ?_
  refine Fo.yes rfl rfl ?_
  refine Fo.ld rfl rfl ?_
  refine Fo.yes rfl rfl ?_
  refine Fo.fa rfl ?_
  refine Fo.yes rfl rfl ?_
  refine Fo.ld rfl rfl ?_
  refine Fo.yes rfl rfl ?_
  refine Fo.bin rfl rfl rfl (by simp only [↓nrmL, nrmZ, Nat.reduceEqDiff, ↓reduceIte, Nat.reduceAdd, Int.reduceBEq, Int.reduceBNe, h0, h1, h2, h3, bne]; rfl) ?_
  refine fB rfl rfl ?_
  refine WpO.nil (hKF _ _ ?_)
  refine Wp.cond (b := true) rfl ?_
  refine sq ?_
  refine rg fun KF hKF => ?_
  refine Fo.build (by repeat (first | refine aFill1 (by first | exact (rfl : _ = AVal.int _ _) | exact (rfl : _ = AVal.ptr _ _) | exact (rfl : _ = AVal.bool _) | exact (rfl : _ = AVal.agg _) | exact (rfl : _ = AVal.tuple _) | exact (rfl : _ = AVal.func _ _ _) | exact (rfl : _ = AVal.nslice) | ((try simp only [↓nrmL, nrmK, Nat.reduceEqDiff, ↓reduceIte]); rfl)) rfl ?_ | rfl)) rfl ?_
  refine Fo.st rfl (rfl : _ = AVal.agg _) rfl rfl rfl (by repeat (first | rfl | refine allOne_cons ?_)) (by simp only [↓nrmL, nrmZ, Nat.reduceEqDiff, ↓reduceIte, Nat.reduceAdd, Int.reduceBEq, Int.reduceBNe, h0, h1, h2, h3, bne]; rfl) ?_
  refine mI rfl ?_
  refine WpO.nil (hKF _ _ ?_)
  refine Wp.ret ?_
  dsimp only [cond_true, cond_false]
  refine ⟨trivial, _, (by first | rfl | exact getAllC rfl rfl rfl rfl | exact getAllT rfl (getAllC rfl rfl rfl rfl) | exact getAllC rfl rfl rfl (getAllC rfl rfl rfl rfl) | exact getAllC1 rfl rfl rfl), ?_⟩
  exact ⟨_, rfl, newZero⟩
 simp only [cond_true, Bool.and_self]
 obtain rfl : w = w' := by simpa using h2
 obtain rfl : h = h' := by simpa using h3
 haveI hf1 : Fits w h l := ⟨(Img.ok h0).1⟩
 haveI hf2 : Fits w h m := ⟨(Img.ok h1).1⟩
 have hpl : pxOk l = true := (Img.ok h0).2
 have hpm : pxOk m = true := (Img.ok h1).2
 obtain ⟨a, b, hwa, hhb, ha, hb, hl⟩ := sized_nat (n := l.length) hf1.it
 obtain ⟨a', b', hwa', hhb', _, _, hl'⟩ := sized_nat (n := m.length) hf2.it
 subst hwa hhb
 obtain rfl : a = a' := by omega
 obtain rfl : b = b' := by omega
 have hm : a * b ≤ 640 * 640 := Nat.mul_le_mul ha hb
 try simp only [↓nrmL, nrmZ, Nat.reduceEqDiff, ↓reduceIte, Nat.reduceAdd, Int.reduceBEq, Int.reduceBNe, h0, h1, h2, h3, bne]
 refine sq ?_
 refine rg fun KF hKF => ?_
 refine Fo.boxA rfl ?_
 refine Fo.boxA rfl ?_
 refine Fo.new ?_
 refine mI rfl ?_
 refine WpO.nil (hKF _ _ ?_)
 refine sq ?_
 refine sq ?_
 refine rg fun KF hKF => ?_
 refine Fo.ldN rfl rfl (by simp only [↓nrmL, nrmZ, Nat.reduceEqDiff, ↓reduceIte, Nat.reduceAdd, Int.reduceBEq, Int.reduceBNe, h0, h1, h2, h3, bne]; rfl) ?_
 refine Fo.pcall (v' := ?_) hn rfl (by simp only [↓nrmL, nrmZ, Nat.reduceEqDiff, ↓reduceIte, Nat.reduceAdd, Int.reduceBEq, Int.reduceBNe, h0, h1, h2, h3, bne, List.map]; rfl) rfl ?hv fun _ _ => ?_; case hv => rfl
 refine mI rfl ?_
 refine WpO.nil (hKF _ _ ?_)
 refine sq ?_
 refine rg fun KF hKF => ?_
 refine mI rfl ?_
 refine Fo.bin rfl rfl rfl (by simp only [↓nrmL, nrmZ, Nat.reduceEqDiff, ↓reduceIte, Nat.reduceAdd, Int.reduceBEq, Int.reduceBNe, h0, h1, h2, h3, bne]; rfl) ?_
 refine WpO.nil (hKF _ _ ?_)
 refine Wp.cond (b := false) rfl ?_
 refine Wp.skip ?_
 refine sq ?_
 refine sq ?_
 refine rg fun KF hKF => ?_
 refine Fo.ldN rfl rfl (by simp only [↓nrmL, nrmZ, Nat.reduceEqDiff, ↓reduceIte, Nat.reduceAdd, Int.reduceBEq, Int.reduceBNe, h0, h1, h2, h3, bne]; rfl) ?_
 refine Fo.pcall (v' := ?_) hn rfl (by simp only [↓nrmL, nrmZ, Nat.reduceEqDiff, ↓reduceIte, Nat.reduceAdd, Int.reduceBEq, Int.reduceBNe, h0, h1, h2, h3, bne, List.map]; rfl) rfl ?hv fun _ _ => ?_; case hv => rfl
 refine mI rfl ?_
 refine WpO.nil (hKF _ _ ?_)
 refine sq ?_
 refine rg fun KF hKF => ?_
 refine mI rfl ?_
 refine Fo.bin rfl rfl rfl (by simp only [↓nrmL, nrmZ, Nat.reduceEqDiff, ↓reduceIte, Nat.reduceAdd, Int.reduceBEq, Int.reduceBNe, h0, h1, h2, h3, bne]; rfl) ?_
 refine WpO.nil (hKF _ _ ?_)
 refine Wp.cond (b := false) rfl ?_
 refine Wp.skip ?_
 refine sq ?_
 refine sq ?_
 refine rg fun KF hKF => ?_
 refine Fo.fa rfl ?_
 refine Fo.ld rfl rfl ?_
 refine Fo.fa rfl ?_
 refine Fo.ld rfl rfl ?_
 refine Fo.bin rfl rfl rfl (by simp only [↓nrmL, nrmZ, Nat.reduceEqDiff, ↓reduceIte, Nat.reduceAdd, Int.reduceBEq, Int.reduceBNe, h0, h1, h2, h3, bne]; rfl) ?_
 refine mB rfl ?_
 refine Fo.yes rfl rfl ?_
 refine Fo.fa rfl ?_
 refine Fo.yes rfl rfl ?_
 refine Fo.ld rfl rfl ?_
 refine Fo.yes rfl rfl ?_
 refine Fo.fa rfl ?_
 refine Fo.yes rfl rfl ?_
 refine Fo.ld rfl rfl ?_
 refine Fo.yes rfl rfl ?_
 refine Fo.bin rfl rfl rfl (by simp only [↓nrmL, nrmZ, Nat.reduceEqDiff, ↓reduceIte, Nat.reduceAdd, Int.reduceBEq, Int.reduceBNe, h0, h1, h2, h3, bne]; rfl) ?_
 refine fB rfl rfl ?_
 refine WpO.nil (hKF _ _ ?_)
 refine Wp.cond (b := false) rfl ?_
 refine Wp.skip ?_
 refine sq ?_
 refine rg fun KF hKF => ?_
 refine Fo.fa rfl ?_
 refine Fo.ld rfl rfl ?_
 refine Fo.fa rfl ?_
 refine Fo.ld rfl rfl ?_
 refine WpO.do (WpX.conD hn rfl rfl (by simp only [↓nrmL, nrmZ, Nat.reduceEqDiff, ↓reduceIte, Nat.reduceAdd, Int.reduceBEq, Int.reduceBNe, List.map] <;> rfl) (K_refNew (w := a) (h := b) (by omega) (by omega)) fun v H1 h5 => ?_)
 obtain ⟨o, e2, ho, hf, hw3, hx⟩ := h5
 subst e2
 haveI : ExtI _ H1 := ⟨hx⟩
 haveI := ho.one
 have ho : BytesI H1 o (List.replicate (a * b) 0) := ho
 refine Fo.new ?_
 refine Fo.st rfl (rfl : _ = AVal.agg _) rfl rfl rfl (by repeat (first | rfl | refine allOne_cons ?_)) (by simp only [↓nrmL, nrmZ, Nat.reduceEqDiff, ↓reduceIte, Nat.reduceAdd, Int.reduceBEq, Int.reduceBNe]; rfl) ?_
 refine WpO.nil (hKF _ _ ?_)
 refine sq ?_
 refine sq ?_
 refine rg fun KF hKF => ?_
 refine mI rfl ?_
 refine WpO.nil (hKF _ _ ?_)
 refine Wp.block ?_
 dsimp only [cond_true, cond_false]
 refine Wp.loopS [11, 12, 13, 14, 45, 46, 47, 48, 49, 50, 51, 52, 53, 54, 55, 56, 57, 58, 59, 60, 61, 62, 63, 64, 65, 66, 67, 68, 69, 70, 71, 72, 73, 74, 75, 76, 77, 78, 79, 80, 81, 82, 83, 84, 85, 86, 87, 88, 89, 90, 91, 92, 93, 94, 95, 96, 97, 98, 99, 100, 101, 102, 103, 104, 105, 106] (fun y : Nat => [(11, .int .i64 y)]) (fun H3 y H2 => y ≤ b ∧ BytesI H2 o (filled (fun i => if ((l.getD i 0 == 1) && (m.getD i 0 == 1)) = true then (1 : UInt8) else 0) (y * a) (a * b)) ∧ WrS H2 o ∧ ExtP0 H3 H2 o) (fun y => b - y) 0 rfl (fun _ => rfl) ⟨rfl, trivial⟩ ⟨Nat.zero_le _, by rw [Nat.zero_mul, filled_zero]; infer_instance, inferInstance, inferInstance⟩ (by unfold fuel0 at hn; omega) ?_
 rintro y g H2 ⟨hy, hb2, hw2, ⟨hx2⟩⟩
 simp only [↓nrmL, nrmZ, Nat.reduceEqDiff, ↓reduceIte, Nat.reduceAdd, Int.reduceBEq, Int.reduceBNe]
 cases hc : decide ((y : Int) < (b : Int))
 ·have hyb : y = b := by have := of_decide_eq_false hc; omega
  subst hyb
  rw [Nat.mul_comm y a, filled_all] at hb2
  try simp only [↓nrmL, nrmZ, Nat.reduceEqDiff, ↓reduceIte, Nat.reduceAdd, Int.reduceBEq, Int.reduceBNe, hc]
  refine sq ?_
  refine sq ?_
  refine rg fun KF hKF => ?_
  refine mI rfl ?_
  refine Fo.fa rfl ?_
  refine Fo.ld rfl rfl ?_
  refine Fo.bin rfl rfl rfl (by simp only [↓nrmL, nrmZ, Nat.reduceEqDiff, ↓reduceIte, Nat.reduceAdd, Int.reduceBEq, Int.reduceBNe, hc]; rfl) ?_
  refine WpO.nil (hKF _ _ ?_)
  refine Wp.cond (b := false) rfl ?_
  refine Wp.exit ?_
  refine sq ?_
  refine rg fun KF hKF => ?_
  refine Fo.ldN rfl rfl (by simp only [↓nrmL, nrmZ, Nat.reduceEqDiff, ↓reduceIte, Nat.reduceAdd, Int.reduceBEq, Int.reduceBNe, hc]; rfl) ?_
  refine Fo.st rfl (rfl : _ = AVal.agg _) rfl rfl rfl (by repeat (first | rfl | refine allOne_cons ?_)) (by simp only [↓nrmL, nrmZ, Nat.reduceEqDiff, ↓reduceIte, Nat.reduceAdd, Int.reduceBEq, Int.reduceBNe, hc]; rfl) ?_
  refine mI rfl ?_
  refine WpO.nil (hKF _ _ ?_)
  refine Wp.ret ?_
  dsimp only [cond_true, cond_false]
  refine ⟨trivial, _, (by first | rfl | exact getAllC rfl rfl rfl rfl | exact getAllT rfl (getAllC rfl rfl rfl rfl) | exact getAllC rfl rfl rfl (getAllC rfl rfl rfl rfl) | exact getAllC1 rfl rfl rfl), ?_⟩
  refine ⟨_, rfl, o, rfl, ?_, hf.weak, inferInstance, Ext0.ext⟩
  have e1 : List.zipWith (fun a b => a &&& b) l m = (List.range (a * y)).map (fun i => if ((l.getD i 0 == 1) && (m.getD i 0 == 1)) = true then 1 else 0) := by
   rw [← zip_range (by omega), hl]
   apply List.map_congr_left
   intro i hi
   have hi' : i < a * y := List.mem_range.1 hi
   have g1 : l.getD i 0 = 0 ∨ l.getD i 0 = 1 := px_get hpl (by omega)
   have g2 : m.getD i 0 = 0 ∨ m.getD i 0 = 1 := px_get hpm (by omega)
   rcases g1 with g1 | g1 <;> rcases g2 with g2 | g2 <;> rw [g1, g2] <;> rfl
  show BytesI _ o (List.zipWith (fun a b => a &&& b) l m)
  rw [e1]
  infer_instance

 ·have hyb : y < b := by have := of_decide_eq_true hc; omega
  try simp only [↓nrmL, nrmZ, Nat.reduceEqDiff, ↓reduceIte, Nat.reduceAdd, Int.reduceBEq, Int.reduceBNe, hc]
  refine sq ?_
  refine sq ?_
  refine rg fun KF hKF => ?_
  refine mI rfl ?_
  refine Fo.fa rfl ?_
  refine Fo.ld rfl rfl ?_
  refine Fo.bin rfl rfl rfl (by simp only [↓nrmL, nrmZ, Nat.reduceEqDiff, ↓reduceIte, Nat.reduceAdd, Int.reduceBEq, Int.reduceBNe, hc]; rfl) ?_
  refine WpO.nil (hKF _ _ ?_)
  refine Wp.cond (b := true) rfl ?_
  refine Wp.skip ?_
  refine sq ?_
  refine Wp.block ?_
  refine sq ?_
  refine rg fun KF hKF => ?_
  refine mI rfl ?_
  refine WpO.nil (hKF _ _ ?_)
  refine Wp.block ?_
  dsimp only [cond_true, cond_false]
  refine Wp.loopS [12, 13, 14, 51, 52, 53, 54, 55, 56, 57, 58, 59, 60, 61, 62, 63, 64, 65, 66, 67, 68, 69, 70, 71, 72, 73, 74, 75, 76, 77, 78, 79, 80, 81, 82, 83, 84, 85, 86, 87, 88, 89, 90, 91, 92, 93, 94, 95, 96, 97, 98, 99, 100, 101, 102, 103, 104, 105, 106] (fun x : Nat => [(12, .int .i64 x)]) (fun H3 x H4 => x ≤ a ∧ BytesI H4 o (filled (fun i => if ((l.getD i 0 == 1) && (m.getD i 0 == 1)) = true then (1 : UInt8) else 0) (y * a + x) (a * b)) ∧ WrS H4 o ∧ ExtP0 H3 H4 o) (fun x => a - x) 0 rfl (fun _ => rfl) ⟨rfl, trivial⟩ ⟨Nat.zero_le _, inferInstance, inferInstance, inferInstance⟩ (by unfold fuel0 at hn; omega) ?_
  rintro x g2 H4 ⟨hx0, hb4, hw4, ⟨hx4⟩⟩
  simp only [↓nrmL, nrmZ, Nat.reduceEqDiff, ↓reduceIte, Nat.reduceAdd, Int.reduceBEq, Int.reduceBNe]
  cases hc2 : decide ((x : Int) < (a : Int))
  ·have hxa : x = a := by have := of_decide_eq_false hc2; omega
   subst hxa
   have hw1 := wa1 (a := y) (by omega)
   try simp only [↓nrmL, nrmZ, Nat.reduceEqDiff, ↓reduceIte, Nat.reduceAdd, Int.reduceBEq, Int.reduceBNe, hc2]
   refine sq ?_
   refine sq ?_
   refine rg fun KF hKF => ?_
   refine mI rfl ?_
   refine Fo.fa rfl ?_
   refine Fo.ld rfl rfl ?_
   refine Fo.bin rfl rfl rfl (by simp only [↓nrmL, nrmZ, Nat.reduceEqDiff, ↓reduceIte, Nat.reduceAdd, Int.reduceBEq, Int.reduceBNe, hc2]; rfl) ?_
   refine WpO.nil (hKF _ _ ?_)
   refine Wp.cond (b := false) rfl ?_
   refine Wp.exit ?_
   refine rg fun KF hKF => ?_
   refine mI rfl ?_
   refine Fo.bin rfl rfl rfl rfl ?_
   refine mI rfl ?_
   refine WpO.nil (hKF _ _ ?_)
   dsimp only [cond_true, cond_false]
   refine ⟨y + 1, by omega, ⟨by simp only [↓nrmL, nrmZ, Nat.reduceEqDiff, ↓reduceIte, Nat.reduceAdd, Int.reduceBEq, Int.reduceBNe]; rw [hw1], trivial⟩, hyb, by rw [Nat.add_mul, Nat.one_mul]; infer_instance, inferInstance, inferInstance⟩
  ·have hxa : x < a := by have := of_decide_eq_true hc2; omega
   have hlt := idx_lt hxa hyb
   have hw1 := wa1 (a := x) (by omega)
   have hfl := filled_length (fun i => if ((l.getD i 0 == 1) && (m.getD i 0 == 1)) = true then (1 : UInt8) else 0) (y * a + x) (a * b)
   have k1 := inkB_nat (l := l) hxa hyb
   have k2 := inkB_nat (l := m) hxa hyb
   try simp only [↓nrmL, nrmZ, Nat.reduceEqDiff, ↓reduceIte, Nat.reduceAdd, Int.reduceBEq, Int.reduceBNe, hc2, Bool.not_true, Bool.not_false]
   refine sq ?_
   refine sq ?_
   refine rg fun KF hKF => ?_
   refine mI rfl ?_
   refine Fo.fa rfl ?_
   refine Fo.ld rfl rfl ?_
   refine Fo.bin rfl rfl rfl (by simp only [↓nrmL, nrmZ, Nat.reduceEqDiff, ↓reduceIte, Nat.reduceAdd, Int.reduceBEq, Int.reduceBNe, hc2, Bool.not_true, Bool.not_false]; rfl) ?_
   refine WpO.nil (hKF _ _ ?_)
   refine Wp.cond (b := true) rfl ?_
   refine Wp.skip ?_
   refine sq ?_
   refine Wp.block ?_
   refine sq ?_
   dsimp only [cond_true, cond_false]
   refine Fr.dregion0 rfl fun KF hKF => ?_
   refine Fe.read rfl (exec_ldN rfl rfl (by simp only [↓nrmL, nrmZ, Nat.reduceEqDiff, ↓reduceIte, Nat.reduceAdd, Int.reduceBEq, Int.reduceBNe]; rfl)) rfl (by repeat (first | exact trivial | refine ⟨(by first | exact Or.inl (by dsimp only; decide) | exact Or.inr (exec_ld rfl rfl) | exact Or.inr (exec_ldN rfl rfl rfl) | exact Or.inr (exec_ldB rfl (by omega)) | exact Or.inr (exec_ldI rfl (by omega)) | exact Or.inr ghost_of), ?_⟩)) ?_
   refine Fe.pure rfl rfl (by simp only [↓nrmL, nrmZ, Nat.reduceEqDiff, ↓reduceIte, Nat.reduceAdd, Int.reduceBEq, Int.reduceBNe]; rfl) ?_
   refine Fe.pure rfl rfl (by simp only [↓nrmL, nrmZ, Nat.reduceEqDiff, ↓reduceIte, Nat.reduceAdd, Int.reduceBEq, Int.reduceBNe]; rfl) ?_
   refine Fe.pcall (v' := ?_) rfl hn rfl (by simp only [↓nrmL, nrmZ, Nat.reduceEqDiff, ↓reduceIte, Nat.reduceAdd, Int.reduceBEq, Int.reduceBNe, List.map]; rfl) rfl ?hv fun _ _ => ⟨(by repeat (first | exact trivial | refine ⟨(by first | exact Or.inl (by dsimp only; decide) | exact Or.inr (readOk_of (exec_ld rfl rfl)) | exact Or.inr (readOk_of (exec_ldN rfl rfl rfl)) | exact Or.inr (readOk_of (exec_ldB rfl (by omega))) | exact Or.inr (readOk_of (exec_ldI rfl (by omega))) | exact Or.inr (made_of rfl)), ?_⟩)), ?_⟩; case hv => rfl
   refine Fe.read rfl (exec_ldN rfl rfl (by simp only [↓nrmL, nrmZ, Nat.reduceEqDiff, ↓reduceIte, Nat.reduceAdd, Int.reduceBEq, Int.reduceBNe]; rfl)) rfl (by repeat (first | exact trivial | refine ⟨(by first | exact Or.inl (by dsimp only; decide) | exact Or.inr (exec_ld rfl rfl) | exact Or.inr (exec_ldN rfl rfl rfl) | exact Or.inr (exec_ldB rfl (by omega)) | exact Or.inr (exec_ldI rfl (by omega)) | exact Or.inr ghost_of), ?_⟩)) ?_
   refine Fe.pure rfl rfl (by simp only [↓nrmL, nrmZ, Nat.reduceEqDiff, ↓reduceIte, Nat.reduceAdd, Int.reduceBEq, Int.reduceBNe]; rfl) ?_
   refine Fe.pure rfl rfl (by simp only [↓nrmL, nrmZ, Nat.reduceEqDiff, ↓reduceIte, Nat.reduceAdd, Int.reduceBEq, Int.reduceBNe]; rfl) ?_
   refine Fe.pcall (v' := ?_) rfl hn rfl (by simp only [↓nrmL, nrmZ, Nat.reduceEqDiff, ↓reduceIte, Nat.reduceAdd, Int.reduceBEq, Int.reduceBNe, List.map]; rfl) rfl ?hv fun _ _ => ⟨(by repeat (first | exact trivial | refine ⟨(by first | exact Or.inl (by dsimp only; decide) | exact Or.inr (readOk_of (exec_ld rfl rfl)) | exact Or.inr (readOk_of (exec_ldN rfl rfl rfl)) | exact Or.inr (readOk_of (exec_ldB rfl (by omega))) | exact Or.inr (readOk_of (exec_ldI rfl (by omega))) | exact Or.inr (made_of rfl)), ?_⟩)), ?_⟩; case hv => rfl
   refine Fe.pure rfl rfl (by simp only [↓nrmL, nrmZ, Nat.reduceEqDiff, ↓reduceIte, Nat.reduceAdd, Int.reduceBEq, Int.reduceBNe]; rfl) ?_
   refine Fe.pure rfl rfl (by simp only [↓nrmL, nrmZ, Nat.reduceEqDiff, ↓reduceIte, Nat.reduceAdd, Int.reduceBEq, Int.reduceBNe]; rfl) ?_
   refine WpE.nil (hKF _ _ ?_)
   try simp only [↓nrmL, nrmZ, Nat.reduceEqDiff, ↓reduceIte, Nat.reduceAdd, Int.reduceBEq, Int.reduceBNe, Bool.not_true, Bool.not_false]
   refine sq ?_
   refine rg fun KF hKF => ?_
   refine mI rfl ?_
   refine Fo.bin rfl rfl rfl (by simp only [↓nrmL, nrmZ, Nat.reduceEqDiff, ↓reduceIte, Nat.reduceAdd, Int.reduceBEq, Int.reduceBNe, Bool.not_true, Bool.not_false]; rfl) ?_
   refine mB rfl ?_
   refine Fo.no rfl rfl ?_
   refine Fo.no rfl rfl ?_
   refine Fo.noU rfl ?_
   refine Fo.no rfl rfl ?_
   refine fB rfl rfl ?_
   refine mB rfl ?_
   refine Fo.yes rfl rfl ?_
   refine mI rfl ?_
   refine Fo.yes rfl rfl ?_
   refine Fo.bin rfl rfl rfl (by simp only [↓nrmL, nrmZ, Nat.reduceEqDiff, ↓reduceIte, Nat.reduceAdd, Int.reduceBEq, Int.reduceBNe, Bool.not_true, Bool.not_false]; rfl) ?_
   refine Fo.yes rfl rfl ?_
   refine mB rfl ?_
   refine Fo.yes rfl rfl ?_
   refine mB rfl ?_
   refine Fo.yes rfl rfl ?_
   refine tB rfl rfl ?_
   refine Fo.yes rfl rfl ?_
   refine mB rfl ?_
   cases ht : (inkB a b l x y : Bool)
   ·skip
    cases ht2 : (inkB a b m x y : Bool)
    ·skip
     try simp only [↓nrmL, nrmZ, Nat.reduceEqDiff, ↓reduceIte, Nat.reduceAdd, Int.reduceBEq, Int.reduceBNe, hc2, ht, ht2, Bool.not_true, Bool.not_false]
     refine Fo.no rfl rfl ?_
     refine Fo.yes rfl rfl ?_
     refine fB rfl rfl ?_
     refine fB rfl rfl ?_
     refine mB rfl ?_
     refine Fo.yes rfl rfl ?_
     refine mI rfl ?_
     refine Fo.yes rfl rfl ?_
     refine Fo.bin rfl rfl rfl (by simp only [↓nrmL, nrmZ, Nat.reduceEqDiff, ↓reduceIte, Nat.reduceAdd, Int.reduceBEq, Int.reduceBNe, hc2, ht, ht2, Bool.not_true, Bool.not_false]; rfl) ?_
     refine Fo.yes rfl rfl ?_
     refine mB rfl ?_
     refine Fo.no rfl rfl ?_
     refine Fo.yes rfl rfl ?_
     refine fB rfl rfl ?_
     refine Fo.yes rfl rfl ?_
     refine mB rfl ?_
     refine Fo.no rfl rfl ?_
     refine Fo.no rfl rfl ?_
     refine Fo.yes rfl rfl ?_
     refine fB rfl rfl ?_
     refine fB rfl rfl ?_
     refine mB rfl ?_
     refine Fo.yes rfl rfl ?_
     refine mI rfl ?_
     refine Fo.yes rfl rfl ?_
     refine Fo.bin rfl rfl rfl (by simp only [↓nrmL, nrmZ, Nat.reduceEqDiff, ↓reduceIte, Nat.reduceAdd, Int.reduceBEq, Int.reduceBNe, hc2, ht, ht2, Bool.not_true, Bool.not_false]; rfl) ?_
     refine Fo.yes rfl rfl ?_
     refine mB rfl ?_
     refine Fo.no rfl rfl ?_
     refine Fo.no rfl rfl ?_
     refine Fo.no rfl rfl ?_
     refine Fo.yes rfl rfl ?_
     refine fB rfl rfl ?_
     refine fB rfl rfl ?_
     refine WpO.nil (hKF _ _ ?_)
     refine Wp.cond (b := false) rfl ?_
     refine Wp.skip ?_
     refine rg fun KF hKF => ?_
     refine mI rfl ?_
     refine Fo.bin rfl rfl rfl rfl ?_
     refine mI rfl ?_
     refine WpO.nil (hKF _ _ ?_)
     dsimp only [cond_true, cond_false]
     have h0 : (fun i => if ((l.getD i 0 == 1) && (m.getD i 0 == 1)) = true then (1 : UInt8) else 0) (y * a + x) = 0 := by
      rw [k1] at ht
      rw [k2] at ht2
      simp only [ht, ht2]; rfl
     try dsimp only at h0
     refine ⟨x + 1, by omega, ⟨by simp only [↓nrmL, nrmZ, Nat.reduceEqDiff, ↓reduceIte, Nat.reduceAdd, Int.reduceBEq, Int.reduceBNe]; rw [hw1], trivial⟩, hxa, by rw [show y * a + (x + 1) = y * a + x + 1 by omega, filled_skip h0]; infer_instance, inferInstance, inferInstance⟩
    ·skip
     try simp only [↓nrmL, nrmZ, Nat.reduceEqDiff, ↓reduceIte, Nat.reduceAdd, Int.reduceBEq, Int.reduceBNe, hc2, ht, ht2, Bool.not_true, Bool.not_false]
     refine Fo.no rfl rfl ?_
     refine Fo.yes rfl rfl ?_
     refine fB rfl rfl ?_
     refine fB rfl rfl ?_
     refine mB rfl ?_
     refine Fo.yes rfl rfl ?_
     refine mI rfl ?_
     refine Fo.yes rfl rfl ?_
     refine Fo.bin rfl rfl rfl (by simp only [↓nrmL, nrmZ, Nat.reduceEqDiff, ↓reduceIte, Nat.reduceAdd, Int.reduceBEq, Int.reduceBNe, hc2, ht, ht2, Bool.not_true, Bool.not_false]; rfl) ?_
     refine Fo.yes rfl rfl ?_
     refine mB rfl ?_
     refine Fo.no rfl rfl ?_
     refine Fo.yes rfl rfl ?_
     refine fB rfl rfl ?_
     refine Fo.yes rfl rfl ?_
     refine mB rfl ?_
     refine Fo.no rfl rfl ?_
     refine Fo.no rfl rfl ?_
     refine Fo.yes rfl rfl ?_
     refine fB rfl rfl ?_
     refine fB rfl rfl ?_
     refine mB rfl ?_
     refine Fo.yes rfl rfl ?_
     refine mI rfl ?_
     refine Fo.yes rfl rfl ?_
     refine Fo.bin rfl rfl rfl (by simp only [↓nrmL, nrmZ, Nat.reduceEqDiff, ↓reduceIte, Nat.reduceAdd, Int.reduceBEq, Int.reduceBNe, hc2, ht, ht2, Bool.not_true, Bool.not_false]; rfl) ?_
     refine Fo.yes rfl rfl ?_
     refine mB rfl ?_
     refine Fo.no rfl rfl ?_
     refine Fo.no rfl rfl ?_
     refine Fo.no rfl rfl ?_
     refine Fo.yes rfl rfl ?_
     refine fB rfl rfl ?_
     refine fB rfl rfl ?_
     refine WpO.nil (hKF _ _ ?_)
     refine Wp.cond (b := false) rfl ?_
     refine Wp.skip ?_
     refine rg fun KF hKF => ?_
     refine mI rfl ?_
     refine Fo.bin rfl rfl rfl rfl ?_
     refine mI rfl ?_
     refine WpO.nil (hKF _ _ ?_)
     dsimp only [cond_true, cond_false]
     have h0 : (fun i => if ((l.getD i 0 == 1) && (m.getD i 0 == 1)) = true then (1 : UInt8) else 0) (y * a + x) = 0 := by
      rw [k1] at ht
      rw [k2] at ht2
      simp only [ht, ht2]; rfl
     try dsimp only at h0
     refine ⟨x + 1, by omega, ⟨by simp only [↓nrmL, nrmZ, Nat.reduceEqDiff, ↓reduceIte, Nat.reduceAdd, Int.reduceBEq, Int.reduceBNe]; rw [hw1], trivial⟩, hxa, by rw [show y * a + (x + 1) = y * a + x + 1 by omega, filled_skip h0]; infer_instance, inferInstance, inferInstance⟩
   ·skip
    cases ht2 : (inkB a b m x y : Bool)
    ·skip
     try simp only [↓nrmL, nrmZ, Nat.reduceEqDiff, ↓reduceIte, Nat.reduceAdd, Int.reduceBEq, Int.reduceBNe, hc2, ht, ht2, Bool.not_true, Bool.not_false]
     refine Fo.yes rfl rfl ?_
     refine mB rfl ?_
     refine Fo.yes rfl rfl ?_
     refine tB rfl rfl ?_
     refine fB rfl rfl ?_
     refine mB rfl ?_
     refine Fo.yes rfl rfl ?_
     refine mI rfl ?_
     refine Fo.yes rfl rfl ?_
     refine Fo.bin rfl rfl rfl (by simp only [↓nrmL, nrmZ, Nat.reduceEqDiff, ↓reduceIte, Nat.reduceAdd, Int.reduceBEq, Int.reduceBNe, hc2, ht, ht2, Bool.not_true, Bool.not_false]; rfl) ?_
     refine Fo.yes rfl rfl ?_
     refine mB rfl ?_
     refine Fo.no rfl rfl ?_
     refine Fo.yes rfl rfl ?_
     refine fB rfl rfl ?_
     refine Fo.yes rfl rfl ?_
     refine mB rfl ?_
     refine Fo.no rfl rfl ?_
     refine Fo.no rfl rfl ?_
     refine Fo.yes rfl rfl ?_
     refine fB rfl rfl ?_
     refine fB rfl rfl ?_
     refine mB rfl ?_
     refine Fo.yes rfl rfl ?_
     refine mI rfl ?_
     refine Fo.yes rfl rfl ?_
     refine Fo.bin rfl rfl rfl (by simp only [↓nrmL, nrmZ, Nat.reduceEqDiff, ↓reduceIte, Nat.reduceAdd, Int.reduceBEq, Int.reduceBNe, hc2, ht, ht2, Bool.not_true, Bool.not_false]; rfl) ?_
     refine Fo.yes rfl rfl ?_
     refine mB rfl ?_
     refine Fo.no rfl rfl ?_
     refine Fo.no rfl rfl ?_
     refine Fo.no rfl rfl ?_
     refine Fo.yes rfl rfl ?_
     refine fB rfl rfl ?_
     refine fB rfl rfl ?_
     refine WpO.nil (hKF _ _ ?_)
     refine Wp.cond (b := false) rfl ?_
     refine Wp.skip ?_
     refine rg fun KF hKF => ?_
     refine mI rfl ?_
     refine Fo.bin rfl rfl rfl rfl ?_
     refine mI rfl ?_
     refine WpO.nil (hKF _ _ ?_)
     dsimp only [cond_true, cond_false]
     have h0 : (fun i => if ((l.getD i 0 == 1) && (m.getD i 0 == 1)) = true then (1 : UInt8) else 0) (y * a + x) = 0 := by
      rw [k1] at ht
      rw [k2] at ht2
      simp only [ht, ht2]; rfl
     try dsimp only at h0
     refine ⟨x + 1, by omega, ⟨by simp only [↓nrmL, nrmZ, Nat.reduceEqDiff, ↓reduceIte, Nat.reduceAdd, Int.reduceBEq, Int.reduceBNe]; rw [hw1], trivial⟩, hxa, by rw [show y * a + (x + 1) = y * a + x + 1 by omega, filled_skip h0]; infer_instance, inferInstance, inferInstance⟩
    ·skip
     try simp only [↓nrmL, nrmZ, Nat.reduceEqDiff, ↓reduceIte, Nat.reduceAdd, Int.reduceBEq, Int.reduceBNe, hc2, ht, ht2, Bool.not_true, Bool.not_false]
     refine Fo.yes rfl rfl ?_
     refine mB rfl ?_
     refine Fo.yes rfl rfl ?_
     refine tB rfl rfl ?_
     refine fB rfl rfl ?_
     refine mB rfl ?_
     refine Fo.no rfl rfl ?_
     refine Fo.no rfl rfl ?_
     refine Fo.no rfl rfl ?_
     refine Fo.noU rfl ?_
     refine Fo.no rfl rfl ?_
     refine Fo.no rfl rfl ?_
     refine Fo.noU rfl ?_
     refine Fo.noU rfl ?_
     refine Fo.no rfl rfl ?_
     refine tB rfl rfl ?_
     refine mB rfl ?_
     refine Fo.no rfl rfl ?_
     refine Fo.no rfl rfl ?_
     refine Fo.no rfl rfl ?_
     refine Fo.noU rfl ?_
     refine Fo.noU rfl ?_
     refine Fo.noU rfl ?_
     refine Fo.no rfl rfl ?_
     refine tB rfl rfl ?_
     refine WpO.nil (hKF _ _ ?_)
     refine Wp.cond (b := true) rfl ?_
     refine rg fun KF hKF => ?_
     refine Fo.ldN rfl rfl (by simp only [↓nrmL, nrmZ, Nat.reduceEqDiff, ↓reduceIte, Nat.reduceAdd, Int.reduceBEq, Int.reduceBNe, hc2, ht, ht2, Bool.not_true, Bool.not_false]; rfl) ?_
     refine mI rfl ?_
     refine mI rfl ?_
     refine WpO.do (WpX.conD hn rfl rfl (by simp only [↓nrmL, nrmZ, Nat.reduceEqDiff, ↓reduceIte, Nat.reduceAdd, Int.reduceBEq, Int.reduceBNe, List.map] <;> rfl) (K_refSet (y := y) (x := x) (by rw [hfl]; exact hlt) (by rw [hfl]; omega)) fun v H5 h5 => ?_)
     obtain ⟨hb5, hw5, hx5⟩ := h5
     refine WpO.nil (hKF _ _ ?_)
     refine rg fun KF hKF => ?_
     refine mI rfl ?_
     refine Fo.bin rfl rfl rfl rfl ?_
     refine mI rfl ?_
     refine WpO.nil (hKF _ _ ?_)
     dsimp only [cond_true, cond_false]
     have h0 : (fun i => if ((l.getD i 0 == 1) && (m.getD i 0 == 1)) = true then (1 : UInt8) else 0) (y * a + x) = 1 := by
      rw [k1] at ht
      rw [k2] at ht2
      simp only [ht, ht2]; rfl
     try dsimp only at h0
     refine ⟨x + 1, by omega, ⟨by simp only [↓nrmL, nrmZ, Nat.reduceEqDiff, ↓reduceIte, Nat.reduceAdd, Int.reduceBEq, Int.reduceBNe]; rw [hw1], trivial⟩, hxa, by rw [show y * a + (x + 1) = y * a + x + 1 by omega, ← filled_succ, h0]; infer_instance, inferInstance, inferInstance⟩

theorem K_refPair2 {p q : AVal} {H : AHeap} {w h w' h' : Int} {l m : List UInt8} [hp : BytesI H p l] [hq : BytesI H q m] : Con ext prog 4 26 [.agg [.int .i64 w, .int .i64 h, p], .agg [.int .i64 w', .int .i64 h', q], .int .i64 2] H fun v H' => InkRes H H' v (combSpec (fun a b => a &&& ~~~b) ⟨w, h, l⟩ ⟨w', h', m⟩) := by
 refine con_of (show prog 26 = some c26 from rfl) rfl rfl fun n hn => ?_
 haveI := hp.one
 haveI := hq.one
 unfold combSpec
 cases h0 : (Img.err ⟨w, h, l⟩ == 0)
 ·skip
  try simp only [↓nrmL, nrmZ, Nat.reduceEqDiff, ↓reduceIte, Nat.reduceAdd, Int.reduceBEq, Int.reduceBNe, h0, bne]
  refine sq ?_
  refine rg fun KF hKF => ?_
  refine Fo.boxA rfl ?_
  refine Fo.boxA rfl ?_
  refine Fo.new ?_
  refine mI rfl ?_
  refine WpO.nil (hKF _ _ ?_)
  refine sq ?_
  refine sq ?_
  refine rg fun KF hKF => ?_
  refine Fo.ldN rfl rfl (by simp only [↓nrmL, nrmZ, Nat.reduceEqDiff, ↓reduceIte, Nat.reduceAdd, Int.reduceBEq, Int.reduceBNe, h0, bne]; rfl) ?_
  refine Fo.pcall (v' := ?_) hn rfl (by simp only [↓nrmL, nrmZ, Nat.reduceEqDiff, ↓reduceIte, Nat.reduceAdd, Int.reduceBEq, Int.reduceBNe, h0, bne, List.map]; rfl) rfl ?hv fun _ _ => ?_; case hv => rfl
  refine mI rfl ?_
  refine WpO.nil (hKF _ _ ?_)
  refine sq ?_
  refine rg fun KF hKF => ?_
  refine mI rfl ?_
  refine Fo.bin rfl rfl rfl (by simp only [↓nrmL, nrmZ, Nat.reduceEqDiff, ↓reduceIte, Nat.reduceAdd, Int.reduceBEq, Int.reduceBNe, h0, bne]; rfl) ?_
  refine WpO.nil (hKF _ _ ?_)
  refine Wp.cond (b := true) rfl ?_
  refine sq ?_
  refine rg fun KF hKF => ?_
  refine Fo.build (by repeat (first | refine aFill1 (by first | exact (rfl : _ = AVal.int _ _) | exact (rfl : _ = AVal.ptr _ _) | exact (rfl : _ = AVal.bool _) | exact (rfl : _ = AVal.agg _) | exact (rfl : _ = AVal.tuple _) | exact (rfl : _ = AVal.func _ _ _) | exact (rfl : _ = AVal.nslice) | ((try simp only [↓nrmL, nrmK, Nat.reduceEqDiff, ↓reduceIte]); rfl)) rfl ?_ | rfl)) rfl ?_
  refine mI rfl ?_
  refine Fo.st rfl (rfl : _ = AVal.agg _) rfl rfl rfl (by repeat (first | rfl | refine allOne_cons ?_)) (by simp only [↓nrmL, nrmZ, Nat.reduceEqDiff, ↓reduceIte, Nat.reduceAdd, Int.reduceBEq, Int.reduceBNe, h0, bne]; rfl) ?_
  refine mI rfl ?_
  refine WpO.nil (hKF _ _ ?_)
  refine Wp.ret ?_
  dsimp only [cond_true, cond_false]
  refine ⟨trivial, _, (by first | rfl | exact getAllC rfl rfl rfl rfl | exact getAllT rfl (getAllC rfl rfl rfl rfl) | exact getAllC rfl rfl rfl (getAllC rfl rfl rfl rfl) | exact getAllC1 rfl rfl rfl), ?_⟩
  exact ⟨_, rfl, newZero⟩
 cases h1 : (Img.err ⟨w', h', m⟩ == 0)
 ·skip
  try simp only [↓nrmL, nrmZ, Nat.reduceEqDiff, ↓reduceIte, Nat.reduceAdd, Int.reduceBEq, Int.reduceBNe, h0, h1, bne]
  refine sq ?_
  refine rg fun KF hKF => ?_
  refine Fo.boxA rfl ?_
  refine Fo.boxA rfl ?_
  refine Fo.new ?_
  refine mI rfl ?_
  refine WpO.nil (hKF _ _ ?_)
  refine sq ?_
  refine sq ?_
  refine rg fun KF hKF => ?_
  refine Fo.ldN rfl rfl (by simp only [↓nrmL, nrmZ, Nat.reduceEqDiff, ↓reduceIte, Nat.reduceAdd, Int.reduceBEq, Int.reduceBNe, h0, h1, bne]; rfl) ?_
  refine Fo.pcall (v' := ?_) hn rfl (by simp only [↓nrmL, nrmZ, Nat.reduceEqDiff, ↓reduceIte, Nat.reduceAdd, Int.reduceBEq, Int.reduceBNe, h0, h1, bne, List.map]; rfl) rfl ?hv fun _ _ => ?_; case hv => rfl
  refine mI rfl ?_
  refine WpO.nil (hKF _ _ ?_)
  refine sq ?_
  refine rg fun KF hKF => ?_
  refine mI rfl ?_
  refine Fo.bin rfl rfl rfl (by simp only [↓nrmL, nrmZ, Nat.reduceEqDiff, ↓reduceIte, Nat.reduceAdd, Int.reduceBEq, Int.reduceBNe, h0, h1, bne]; rfl) ?_
  refine WpO.nil (hKF _ _ ?_)
  refine Wp.cond (b := false) rfl ?_
  refine Wp.skip ?_
  refine sq ?_
  refine sq ?_
  refine rg fun KF hKF => ?_
  refine Fo.ldN rfl rfl (by simp only [↓nrmL, nrmZ, Nat.reduceEqDiff, ↓reduceIte, Nat.reduceAdd, Int.reduceBEq, Int.reduceBNe, h0, h1, bne]; rfl) ?_
  refine Fo.pcall (v' := ?_) hn rfl (by simp only [↓nrmL, nrmZ, Nat.reduceEqDiff, ↓reduceIte, Nat.reduceAdd, Int.reduceBEq, Int.reduceBNe, h0, h1, bne, List.map]; rfl) rfl ?hv fun _ _ => ?_; case hv => rfl
  refine mI rfl ?_
  refine WpO.nil (hKF _ _ ?_)
  refine sq ?_
  refine rg fun KF hKF => ?_
  refine mI rfl ?_
  refine Fo.bin rfl rfl rfl (by simp only [↓nrmL, nrmZ, Nat.reduceEqDiff, ↓reduceIte, Nat.reduceAdd, Int.reduceBEq, Int.reduceBNe, h0, h1, bne]; rfl) ?_
  refine WpO.nil (hKF _ _ ?_)
  refine Wp.cond (b := true) rfl ?_
  refine sq ?_
  refine rg fun KF hKF => ?_
  refine Fo.build (by repeat (first | refine aFill1 (by first | exact (rfl : _ = AVal.int _ _) | exact (rfl : _ = AVal.ptr _ _) | exact (rfl : _ = AVal.bool _) | exact (rfl : _ = AVal.agg _) | exact (rfl : _ = AVal.tuple _) | exact (rfl : _ = AVal.func _ _ _) | exact (rfl : _ = AVal.nslice) | ((try simp only [↓nrmL, nrmK, Nat.reduceEqDiff, ↓reduceIte]); rfl)) rfl ?_ | rfl)) rfl ?_
  refine mI rfl ?_
  refine Fo.st rfl (rfl : _ = AVal.agg _) rfl rfl rfl (by repeat (first | rfl | refine allOne_cons ?_)) (by simp only [↓nrmL, nrmZ, Nat.reduceEqDiff, ↓reduceIte, Nat.reduceAdd, Int.reduceBEq, Int.reduceBNe, h0, h1, bne]; rfl) ?_
  refine mI rfl ?_
  refine WpO.nil (hKF _ _ ?_)
  refine Wp.ret ?_
  dsimp only [cond_true, cond_false]
  refine ⟨trivial, _, (by first | rfl | exact getAllC rfl rfl rfl rfl | exact getAllT rfl (getAllC rfl rfl rfl rfl) | exact getAllC rfl rfl rfl (getAllC rfl rfl rfl rfl) | exact getAllC1 rfl rfl rfl), ?_⟩
  exact ⟨_, rfl, newZero⟩
 cases h2 : (w == w')
 ·simp only [cond_true, Bool.false_and, cond_false]
  try simp only [↓nrmL, nrmZ, Nat.reduceEqDiff, ↓reduceIte, Nat.reduceAdd, Int.reduceBEq, Int.reduceBNe, h0, h1, h2, bne]
  refine sq ?_
  refine rg fun KF hKF => ?_
  refine Fo.boxA rfl ?_
  refine Fo.boxA rfl ?_
  refine Fo.new ?_
  refine mI rfl ?_
  refine WpO.nil (hKF _ _ ?_)
  refine sq ?_
  refine sq ?_
  refine rg fun KF hKF => ?_
  refine Fo.ldN rfl rfl (by simp only [↓nrmL, nrmZ, Nat.reduceEqDiff, ↓reduceIte, Nat.reduceAdd, Int.reduceBEq, Int.reduceBNe, h0, h1, h2, bne]; rfl) ?_
  refine Fo.pcall (v' := ?_) hn rfl (by simp only [↓nrmL, nrmZ, Nat.reduceEqDiff, ↓reduceIte, Nat.reduceAdd, Int.reduceBEq, Int.reduceBNe, h0, h1, h2, bne, List.map]; rfl) rfl ?hv fun _ _ => ?_; case hv => rfl
  refine mI rfl ?_
  refine WpO.nil (hKF _ _ ?_)
  refine sq ?_
  refine rg fun KF hKF => ?_
  refine mI rfl ?_
  refine Fo.bin rfl rfl rfl (by simp only [↓nrmL, nrmZ, Nat.reduceEqDiff, ↓reduceIte, Nat.reduceAdd, Int.reduceBEq, Int.reduceBNe, h0, h1, h2, bne]; rfl) ?_
  refine WpO.nil (hKF _ _ ?_)
  refine Wp.cond (b := false) rfl ?_
  refine Wp.skip ?_
  refine sq ?_
  refine sq ?_
  refine rg fun KF hKF => ?_
  refine Fo.ldN rfl rfl (by simp only [↓nrmL, nrmZ, Nat.reduceEqDiff, ↓reduceIte, Nat.reduceAdd, Int.reduceBEq, Int.reduceBNe, h0, h1, h2, bne]; rfl) ?_
  refine Fo.pcall (v' := ?_) hn rfl (by simp only [↓nrmL, nrmZ, Nat.reduceEqDiff, ↓reduceIte, Nat.reduceAdd, Int.reduceBEq, Int.reduceBNe, h0, h1, h2, bne, List.map]; rfl) rfl ?hv fun _ _ => ?_; case hv => rfl
  refine mI rfl ?_
  refine WpO.nil (hKF _ _ ?_)
  refine sq ?_
  refine rg fun KF hKF => ?_
  refine mI rfl ?_
  refine Fo.bin rfl rfl rfl (by simp only [↓nrmL, nrmZ, Nat.reduceEqDiff, ↓reduceIte, Nat.reduceAdd, Int.reduceBEq, Int.reduceBNe, h0, h1, h2, bne]; rfl) ?_
  refine WpO.nil (hKF _ _ ?_)
  refine Wp.cond (b := false) rfl ?_
  refine Wp.skip ?_
  refine sq ?_
  refine sq ?_
  refine rg fun KF hKF => ?_
  refine Fo.fa rfl ?_
  refine Fo.ld rfl rfl ?_
  refine Fo.fa rfl ?_
  refine Fo.ld rfl rfl ?_
  refine Fo.bin rfl rfl rfl (by simp only [↓nrmL, nrmZ, Nat.reduceEqDiff, ↓reduceIte, Nat.reduceAdd, Int.reduceBEq, Int.reduceBNe, h0, h1, h2, bne]; rfl) ?_
  refine mB rfl ?_
  refine Fo.no rfl rfl ?_
  refine Fo.no rfl rfl ?_
  refine Fo.no rfl rfl ?_
  refine Fo.no rfl rfl ?_
  refine Fo.no rfl rfl ?_
  refine tB rfl rfl ?_
  refine WpO.nil (hKF _ _ ?_)
  refine Wp.cond (b := true) rfl ?_
  refine sq ?_
  refine rg fun KF hKF => ?_
  refine Fo.build (by repeat (first | refine aFill1 (by first | exact (rfl : _ = AVal.int _ _) | exact (rfl : _ = AVal.ptr _ _) | exact (rfl : _ = AVal.bool _) | exact (rfl : _ = AVal.agg _) | exact (rfl : _ = AVal.tuple _) | exact (rfl : _ = AVal.func _ _ _) | exact (rfl : _ = AVal.nslice) | ((try simp only [↓nrmL, nrmK, Nat.reduceEqDiff, ↓reduceIte]); rfl)) rfl ?_ | rfl)) rfl ?_
  refine Fo.st rfl (rfl : _ = AVal.agg _) rfl rfl rfl (by repeat (first | rfl | refine allOne_cons ?_)) (by simp only [↓nrmL, nrmZ, Nat.reduceEqDiff, ↓reduceIte, Nat.reduceAdd, Int.reduceBEq, Int.reduceBNe, h0, h1, h2, bne]; rfl) ?_
  refine mI rfl ?_
  refine WpO.nil (hKF _ _ ?_)
  refine Wp.ret ?_
  dsimp only [cond_true, cond_false]
  refine ⟨trivial, _, (by first | rfl | exact getAllC rfl rfl rfl rfl | exact getAllT rfl (getAllC rfl rfl rfl rfl) | exact getAllC rfl rfl rfl (getAllC rfl rfl rfl rfl) | exact getAllC1 rfl rfl rfl), ?_⟩
  exact ⟨_, rfl, newZero⟩
 cases h3 : (h == h')
 ·simp only [cond_true, Bool.and_false, cond_false]
  try simp only [↓nrmL, nrmZ, Nat.reduceEqDiff, ↓reduceIte, Nat.reduceAdd, Int.reduceBEq, Int.reduceBNe, h0, h1, h2, h3, bne]
  refine sq ?_
  refine rg fun KF hKF => ?_
  refine Fo.boxA rfl ?_
  refine Fo.boxA rfl ?_
  refine Fo.new ?_
  refine mI rfl ?_
  refine WpO.nil (hKF _ _ ?_)
  refine sq ?_
  refine sq ?_
  refine rg fun KF hKF => ?_
  refine Fo.ldN rfl rfl (by simp only [↓nrmL, nrmZ, Nat.reduceEqDiff, ↓reduceIte, Nat.reduceAdd, Int.reduceBEq, Int.reduceBNe, h0, h1, h2, h3, bne]; rfl) ?_
  refine Fo.pcall (v' := ?_) hn rfl (by simp only [↓nrmL, nrmZ, Nat.reduceEqDiff, ↓reduceIte, Nat.reduceAdd, Int.reduceBEq, Int.reduceBNe, h0, h1, h2, h3, bne, List.map]; rfl) rfl ?hv fun _ _ => ?_; case hv => rfl
  refine mI rfl ?_
  refine WpO.nil (hKF _ _ ?_)
  refine sq ?_
  refine rg fun KF hKF => ?_
  refine mI rfl ?_
  refine Fo.bin rfl rfl rfl (by simp only [↓nrmL, nrmZ, Nat.reduceEqDiff, ↓reduceIte, Nat.reduceAdd, Int.reduceBEq, Int.reduceBNe, h0, h1, h2, h3, bne]; rfl) ?_
  refine WpO.nil (hKF _ _ ?_)
  refine Wp.cond (b := false) rfl ?_
  refine Wp.skip ?_
  refine sq ?_
  refine sq ?_
  refine rg fun KF hKF => ?_
  refine Fo.ldN rfl rfl (by simp only [↓nrmL, nrmZ, Nat.reduceEqDiff, ↓reduceIte, Nat.reduceAdd, Int.reduceBEq, Int.reduceBNe, h0, h1, h2, h3, bne]; rfl) ?_
  refine Fo.pcall (v' := ?_) hn rfl (by simp only [↓nrmL, nrmZ, Nat.reduceEqDiff, ↓reduceIte, Nat.reduceAdd, Int.reduceBEq, Int.reduceBNe, h0, h1, h2, h3, bne, List.map]; rfl) rfl ?hv fun _ _ => ?_; case hv => rfl
  refine mI rfl ?_
  refine WpO.nil (hKF _ _ ?_)
  refine sq ?_
  refine rg fun KF hKF => ?_
  refine mI rfl ?_
  refine Fo.bin rfl rfl rfl (by simp only [↓nrmL, nrmZ, Nat.reduceEqDiff, ↓reduceIte, Nat.reduceAdd, Int.reduceBEq, Int.reduceBNe, h0, h1, h2, h3, bne]; rfl) ?_
  refine WpO.nil (hKF _ _ ?_)
  refine Wp.cond (b := false) rfl ?_
  refine Wp.skip ?_
  refine sq ?_
  refine sq ?_
  refine rg fun KF hKF => ?_
  refine Fo.fa rfl ?_
  refine Fo.ld rfl rfl ?_
  refine Fo.fa rfl ?_
  refine Fo.ld rfl rfl ?_
  refine Fo.bin rfl rfl rfl (by simp only [↓nrmL, nrmZ, Nat.reduceEqDiff, ↓reduceIte, Nat.reduceAdd, Int.reduceBEq, Int.reduceBNe, h0, h1, h2, h3, bne]; rfl) ?_
  refine mB rfl ?_
  refine Fo.yes rfl rfl ?_
  refine Fo.fa rfl ?_
  refine Fo.yes rfl rfl ?_
  refine Fo.ld rfl rfl ?_
  refine Fo.yes rfl rfl ?_
  refine Fo.fa rfl ?_
  refine Fo.yes rfl rfl ?_
  refine Fo.ld rfl rfl ?_
  refine Fo.yes rfl rfl ?_
  refine Fo.bin rfl rfl rfl (by simp only [↓nrmL, nrmZ, Nat.reduceEqDiff, ↓reduceIte, Nat.reduceAdd, Int.reduceBEq, Int.reduceBNe, h0, h1, h2, h3, bne]; rfl) ?_
  refine fB rfl rfl ?_
  refine WpO.nil (hKF _ _ ?_)
  refine Wp.cond (b := true) rfl ?_
  refine sq ?_
  refine rg fun KF hKF => ?_
  refine Fo.build (by repeat (first | refine aFill1 (by first | exact (rfl : _ = AVal.int _ _) | exact (rfl : _ = AVal.ptr _ _) | exact (rfl : _ = AVal.bool _) | exact (rfl : _ = AVal.agg _) | exact (rfl : _ = AVal.tuple _) | exact (rfl : _ = AVal.func _ _ _) | exact (rfl : _ = AVal.nslice) | ((try simp only [↓nrmL, nrmK, Nat.reduceEqDiff, ↓reduceIte]); rfl)) rfl ?_ | rfl)) rfl ?_
  refine Fo.st rfl (rfl : _ = AVal.agg _) rfl rfl rfl (by repeat (first | rfl | refine allOne_cons ?_)) (by simp only [↓nrmL, nrmZ, Nat.reduceEqDiff, ↓reduceIte, Nat.reduceAdd, Int.reduceBEq, Int.reduceBNe, h0, h1, h2, h3, bne]; rfl) ?_
  refine mI rfl ?_
  refine WpO.nil (hKF _ _ ?_)
  refine Wp.ret ?_
  dsimp only [cond_true, cond_false]
  refine ⟨trivial, _, (by first | rfl | exact getAllC rfl rfl rfl rfl | exact getAllT rfl (getAllC rfl rfl rfl rfl) | exact getAllC rfl rfl rfl (getAllC rfl rfl rfl rfl) | exact getAllC1 rfl rfl rfl), ?_⟩
  exact ⟨_, rfl, newZero⟩
 simp only [cond_true, Bool.and_self]
 obtain rfl : w = w' := by simpa using h2
 obtain rfl : h = h' := by simpa using h3
 haveI hf1 : Fits w h l := ⟨(Img.ok h0).1⟩
 haveI hf2 : Fits w h m := ⟨(Img.ok h1).1⟩
 have hpl : pxOk l = true := (Img.ok h0).2
 have hpm : pxOk m = true := (Img.ok h1).2
 obtain ⟨a, b, hwa, hhb, ha, hb, hl⟩ := sized_nat (n := l.length) hf1.it
 obtain ⟨a', b', hwa', hhb', _, _, hl'⟩ := sized_nat (n := m.length) hf2.it
 subst hwa hhb
 obtain rfl : a = a' := by omega
 obtain rfl : b = b' := by omega
 have hm : a * b ≤ 640 * 640 := Nat.mul_le_mul ha hb
 try simp only [↓nrmL, nrmZ, Nat.reduceEqDiff, ↓reduceIte, Nat.reduceAdd, Int.reduceBEq, Int.reduceBNe, h0, h1, h2, h3, bne]
 refine sq ?_
 refine rg fun KF hKF => ?_
 refine Fo.boxA rfl ?_
 refine Fo.boxA rfl ?_
 refine Fo.new ?_
 refine mI rfl ?_
 refine WpO.nil (hKF _ _ ?_)
 refine sq ?_
 refine sq ?_
 refine rg fun KF hKF => ?_
 refine Fo.ldN rfl rfl (by simp only [↓nrmL, nrmZ, Nat.reduceEqDiff, ↓reduceIte, Nat.reduceAdd, Int.reduceBEq, Int.reduceBNe, h0, h1, h2, h3, bne]; rfl) ?_
 refine Fo.pcall (v' := ?_) hn rfl (by simp only [↓nrmL, nrmZ, Nat.reduceEqDiff, ↓reduceIte, Nat.reduceAdd, Int.reduceBEq, Int.reduceBNe, h0, h1, h2, h3, bne, List.map]; rfl) rfl ?hv fun _ _ => ?_; case hv => rfl
 refine mI rfl ?_
 refine WpO.nil (hKF _ _ ?_)
 refine sq ?_
 refine rg fun KF hKF => ?_
 refine mI rfl ?_
 refine Fo.bin rfl rfl rfl (by simp only [↓nrmL, nrmZ, Nat.reduceEqDiff, ↓reduceIte, Nat.reduceAdd, Int.reduceBEq, Int.reduceBNe, h0, h1, h2, h3, bne]; rfl) ?_
 refine WpO.nil (hKF _ _ ?_)
 refine Wp.cond (b := false) rfl ?_
 refine Wp.skip ?_
 refine sq ?_
 refine sq ?_
 refine rg fun KF hKF => ?_
 refine Fo.ldN rfl rfl (by simp only [↓nrmL, nrmZ, Nat.reduceEqDiff, ↓reduceIte, Nat.reduceAdd, Int.reduceBEq, Int.reduceBNe, h0, h1, h2, h3, bne]; rfl) ?_
 refine Fo.pcall (v' := ?_) hn rfl (by simp only [↓nrmL, nrmZ, Nat.reduceEqDiff, ↓reduceIte, Nat.reduceAdd, Int.reduceBEq, Int.reduceBNe, h0, h1, h2, h3, bne, List.map]; rfl) rfl ?hv fun _ _ => ?_; case hv => rfl
 refine mI rfl ?_
 refine WpO.nil (hKF _ _ ?_)
 refine sq ?_
 refine rg fun KF hKF => ?_
 refine mI rfl ?_
 refine Fo.bin rfl rfl rfl (by simp only [↓nrmL, nrmZ, Nat.reduceEqDiff, ↓reduceIte, Nat.reduceAdd, Int.reduceBEq, Int.reduceBNe, h0, h1, h2, h3, bne]; rfl) ?_
 refine WpO.nil (hKF _ _ ?_)
 refine Wp.cond (b := false) rfl ?_
 refine Wp.skip ?_
 refine sq ?_
 refine sq ?_
 refine rg fun KF hKF => ?_
 refine Fo.fa rfl ?_
 refine Fo.ld rfl rfl ?_
 refine Fo.fa rfl ?_
 refine Fo.ld rfl rfl ?_
 refine Fo.bin rfl rfl rfl (by simp only [↓nrmL, nrmZ, Nat.reduceEqDiff, ↓reduceIte, Nat.reduceAdd, Int.reduceBEq, Int.reduceBNe, h0, h1, h2, h3, bne]; rfl) ?_
 refine mB rfl ?_
 refine Fo.yes rfl rfl ?_
 refine Fo.fa rfl ?_
 refine Fo.yes rfl rfl ?_
 refine Fo.ld rfl rfl ?_
 refine Fo.yes rfl rfl ?_
 refine Fo.fa rfl ?_
 refine Fo.yes rfl rfl ?_
 refine Fo.ld rfl rfl ?_
 refine Fo.yes rfl rfl ?_
 refine Fo.bin rfl rfl rfl (by simp only [↓nrmL, nrmZ, Nat.reduceEqDiff, ↓reduceIte, Nat.reduceAdd, Int.reduceBEq, Int.reduceBNe, h0, h1, h2, h3, bne]; rfl) ?_
 refine fB rfl rfl ?_
 refine WpO.nil (hKF _ _ ?_)
 refine Wp.cond (b := false) rfl ?_
 refine Wp.skip ?_
 refine sq ?_
 refine rg fun KF hKF => ?_
 refine Fo.fa rfl ?_
 refine Fo.ld rfl rfl ?_
 refine Fo.fa rfl ?_
 refine Fo.ld rfl rfl ?_
 refine WpO.do (WpX.conD hn rfl rfl (by simp only [↓nrmL, nrmZ, Nat.reduceEqDiff, ↓reduceIte, Nat.reduceAdd, Int.reduceBEq, Int.reduceBNe, List.map] <;> rfl) (K_refNew (w := a) (h := b) (by omega) (by omega)) fun v H1 h5 => ?_)
 obtain ⟨o, e2, ho, hf, hw3, hx⟩ := h5
 subst e2
 haveI : ExtI _ H1 := ⟨hx⟩
 haveI := ho.one
 have ho : BytesI H1 o (List.replicate (a * b) 0) := ho
 refine Fo.new ?_
 refine Fo.st rfl (rfl : _ = AVal.agg _) rfl rfl rfl (by repeat (first | rfl | refine allOne_cons ?_)) (by simp only [↓nrmL, nrmZ, Nat.reduceEqDiff, ↓reduceIte, Nat.reduceAdd, Int.reduceBEq, Int.reduceBNe]; rfl) ?_
 refine WpO.nil (hKF _ _ ?_)
 refine sq ?_
 refine sq ?_
 refine rg fun KF hKF => ?_
 refine mI rfl ?_
 refine WpO.nil (hKF _ _ ?_)
 refine Wp.block ?_
 dsimp only [cond_true, cond_false]
 refine Wp.loopS [11, 12, 13, 14, 45, 46, 47, 48, 49, 50, 51, 52, 53, 54, 55, 56, 57, 58, 59, 60, 61, 62, 63, 64, 65, 66, 67, 68, 69, 70, 71, 72, 73, 74, 75, 76, 77, 78, 79, 80, 81, 82, 83, 84, 85, 86, 87, 88, 89, 90, 91, 92, 93, 94, 95, 96, 97, 98, 99, 100, 101, 102, 103, 104, 105, 106] (fun y : Nat => [(11, .int .i64 y)]) (fun H3 y H2 => y ≤ b ∧ BytesI H2 o (filled (fun i => if ((l.getD i 0 == 1) && !(m.getD i 0 == 1)) = true then (1 : UInt8) else 0) (y * a) (a * b)) ∧ WrS H2 o ∧ ExtP0 H3 H2 o) (fun y => b - y) 0 rfl (fun _ => rfl) ⟨rfl, trivial⟩ ⟨Nat.zero_le _, by rw [Nat.zero_mul, filled_zero]; infer_instance, inferInstance, inferInstance⟩ (by unfold fuel0 at hn; omega) ?_
 rintro y g H2 ⟨hy, hb2, hw2, ⟨hx2⟩⟩
 simp only [↓nrmL, nrmZ, Nat.reduceEqDiff, ↓reduceIte, Nat.reduceAdd, Int.reduceBEq, Int.reduceBNe]
 cases hc : decide ((y : Int) < (b : Int))
 ·have hyb : y = b := by have := of_decide_eq_false hc; omega
  subst hyb
  rw [Nat.mul_comm y a, filled_all] at hb2
  try simp only [↓nrmL, nrmZ, Nat.reduceEqDiff, ↓reduceIte, Nat.reduceAdd, Int.reduceBEq, Int.reduceBNe, hc]
  refine sq ?_
  refine sq ?_
  refine rg fun KF hKF => ?_
  refine mI rfl ?_
  refine Fo.fa rfl ?_
  refine Fo.ld rfl rfl ?_
  refine Fo.bin rfl rfl rfl (by simp only [↓nrmL, nrmZ, Nat.reduceEqDiff, ↓reduceIte, Nat.reduceAdd, Int.reduceBEq, Int.reduceBNe, hc]; rfl) ?_
  refine WpO.nil (hKF _ _ ?_)
  refine Wp.cond (b := false) rfl ?_
  refine Wp.exit ?_
  refine sq ?_
  refine rg fun KF hKF => ?_
  refine Fo.ldN rfl rfl (by simp only [↓nrmL, nrmZ, Nat.reduceEqDiff, ↓reduceIte, Nat.reduceAdd, Int.reduceBEq, Int.reduceBNe, hc]; rfl) ?_
  refine Fo.st rfl (rfl : _ = AVal.agg _) rfl rfl rfl (by repeat (first | rfl | refine allOne_cons ?_)) (by simp only [↓nrmL, nrmZ, Nat.reduceEqDiff, ↓reduceIte, Nat.reduceAdd, Int.reduceBEq, Int.reduceBNe, hc]; rfl) ?_
  refine mI rfl ?_
  refine WpO.nil (hKF _ _ ?_)
  refine Wp.ret ?_
  dsimp only [cond_true, cond_false]
  refine ⟨trivial, _, (by first | rfl | exact getAllC rfl rfl rfl rfl | exact getAllT rfl (getAllC rfl rfl rfl rfl) | exact getAllC rfl rfl rfl (getAllC rfl rfl rfl rfl) | exact getAllC1 rfl rfl rfl), ?_⟩
  refine ⟨_, rfl, o, rfl, ?_, hf.weak, inferInstance, Ext0.ext⟩
  have e1 : List.zipWith (fun a b => a &&& ~~~b) l m = (List.range (a * y)).map (fun i => if ((l.getD i 0 == 1) && !(m.getD i 0 == 1)) = true then 1 else 0) := by
   rw [← zip_range (by omega), hl]
   apply List.map_congr_left
   intro i hi
   have hi' : i < a * y := List.mem_range.1 hi
   have g1 : l.getD i 0 = 0 ∨ l.getD i 0 = 1 := px_get hpl (by omega)
   have g2 : m.getD i 0 = 0 ∨ m.getD i 0 = 1 := px_get hpm (by omega)
   rcases g1 with g1 | g1 <;> rcases g2 with g2 | g2 <;> rw [g1, g2] <;> rfl
  show BytesI _ o (List.zipWith (fun a b => a &&& ~~~b) l m)
  rw [e1]
  infer_instance

 ·have hyb : y < b := by have := of_decide_eq_true hc; omega
  try simp only [↓nrmL, nrmZ, Nat.reduceEqDiff, ↓reduceIte, Nat.reduceAdd, Int.reduceBEq, Int.reduceBNe, hc]
  refine sq ?_
  refine sq ?_
  refine rg fun KF hKF => ?_
  refine mI rfl ?_
  refine Fo.fa rfl ?_
  refine Fo.ld rfl rfl ?_
  refine Fo.bin rfl rfl rfl (by simp only [↓nrmL, nrmZ, Nat.reduceEqDiff, ↓reduceIte, Nat.reduceAdd, Int.reduceBEq, Int.reduceBNe, hc]; rfl) ?_
  refine WpO.nil (hKF _ _ ?_)
  refine Wp.cond (b := true) rfl ?_
  refine Wp.skip ?_
  refine sq ?_
  refine Wp.block ?_
  refine sq ?_
  refine rg fun KF hKF => ?_
  refine mI rfl ?_
  refine WpO.nil (hKF _ _ ?_)
  refine Wp.block ?_
  dsimp only [cond_true, cond_false]
  refine Wp.loopS [12, 13, 14, 51, 52, 53, 54, 55, 56, 57, 58, 59, 60, 61, 62, 63, 64, 65, 66, 67, 68, 69, 70, 71, 72, 73, 74, 75, 76, 77, 78, 79, 80, 81, 82, 83, 84, 85, 86, 87, 88, 89, 90, 91, 92, 93, 94, 95, 96, 97, 98, 99, 100, 101, 102, 103, 104, 105, 106] (fun x : Nat => [(12, .int .i64 x)]) (fun H3 x H4 => x ≤ a ∧ BytesI H4 o (filled (fun i => if ((l.getD i 0 == 1) && !(m.getD i 0 == 1)) = true then (1 : UInt8) else 0) (y * a + x) (a * b)) ∧ WrS H4 o ∧ ExtP0 H3 H4 o) (fun x => a - x) 0 rfl (fun _ => rfl) ⟨rfl, trivial⟩ ⟨Nat.zero_le _, inferInstance, inferInstance, inferInstance⟩ (by unfold fuel0 at hn; omega) ?_
  rintro x g2 H4 ⟨hx0, hb4, hw4, ⟨hx4⟩⟩
  simp only [↓nrmL, nrmZ, Nat.reduceEqDiff, ↓reduceIte, Nat.reduceAdd, Int.reduceBEq, Int.reduceBNe]
  cases hc2 : decide ((x : Int) < (a : Int))
  ·have hxa : x = a := by have := of_decide_eq_false hc2; omega
   subst hxa
   have hw1 := wa1 (a := y) (by omega)
   try simp only [↓nrmL, nrmZ, Nat.reduceEqDiff, ↓reduceIte, Nat.reduceAdd, Int.reduceBEq, Int.reduceBNe, hc2]
   refine sq ?_
   refine sq ?_
   refine rg fun KF hKF => ?_
   refine mI rfl ?_
   refine Fo.fa rfl ?_
   refine Fo.ld rfl rfl ?_
   refine Fo.bin rfl rfl rfl (by simp only [↓nrmL, nrmZ, Nat.reduceEqDiff, ↓reduceIte, Nat.reduceAdd, Int.reduceBEq, Int.reduceBNe, hc2]; rfl) ?_
   refine WpO.nil (hKF _ _ ?_)
   refine Wp.cond (b := false) rfl ?_
   refine Wp.exit ?_
   refine rg fun KF hKF => ?_
   refine mI rfl ?_
   refine Fo.bin rfl rfl rfl rfl ?_
   refine mI rfl ?_
   refine WpO.nil (hKF _ _ ?_)
   dsimp only [cond_true, cond_false]
   refine ⟨y + 1, by omega, ⟨by simp only [↓nrmL, nrmZ, Nat.reduceEqDiff, ↓reduceIte, Nat.reduceAdd, Int.reduceBEq, Int.reduceBNe]; rw [hw1], trivial⟩, hyb, by rw [Nat.add_mul, Nat.one_mul]; infer_instance, inferInstance, inferInstance⟩
  ·have hxa : x < a := by have := of_decide_eq_true hc2; omega
   have hlt := idx_lt hxa hyb
   have hw1 := wa1 (a := x) (by omega)
   have hfl := filled_length (fun i => if ((l.getD i 0 == 1) && !(m.getD i 0 == 1)) = true then (1 : UInt8) else 0) (y * a + x) (a * b)
   have k1 := inkB_nat (l := l) hxa hyb
   have k2 := inkB_nat (l := m) hxa hyb
   try simp only [↓nrmL, nrmZ, Nat.reduceEqDiff, ↓reduceIte, Nat.reduceAdd, Int.reduceBEq, Int.reduceBNe, hc2, Bool.not_true, Bool.not_false]
   refine sq ?_
   refine sq ?_
   refine rg fun KF hKF => ?_
   refine mI rfl ?_
   refine Fo.fa rfl ?_
   refine Fo.ld rfl rfl ?_
   refine Fo.bin rfl rfl rfl (by simp only [↓nrmL, nrmZ, Nat.reduceEqDiff, ↓reduceIte, Nat.reduceAdd, Int.reduceBEq, Int.reduceBNe, hc2, Bool.not_true, Bool.not_false]; rfl) ?_
   refine WpO.nil (hKF _ _ ?_)
   refine Wp.cond (b := true) rfl ?_
   refine Wp.skip ?_
   refine sq ?_
   refine Wp.block ?_
   refine sq ?_
   dsimp only [cond_true, cond_false]
   refine Fr.dregion0 rfl fun KF hKF => ?_
   refine Fe.read rfl (exec_ldN rfl rfl (by simp only [↓nrmL, nrmZ, Nat.reduceEqDiff, ↓reduceIte, Nat.reduceAdd, Int.reduceBEq, Int.reduceBNe]; rfl)) rfl (by repeat (first | exact trivial | refine ⟨(by first | exact Or.inl (by dsimp only; decide) | exact Or.inr (exec_ld rfl rfl) | exact Or.inr (exec_ldN rfl rfl rfl) | exact Or.inr (exec_ldB rfl (by omega)) | exact Or.inr (exec_ldI rfl (by omega)) | exact Or.inr ghost_of), ?_⟩)) ?_
   refine Fe.pure rfl rfl (by simp only [↓nrmL, nrmZ, Nat.reduceEqDiff, ↓reduceIte, Nat.reduceAdd, Int.reduceBEq, Int.reduceBNe]; rfl) ?_
   refine Fe.pure rfl rfl (by simp only [↓nrmL, nrmZ, Nat.reduceEqDiff, ↓reduceIte, Nat.reduceAdd, Int.reduceBEq, Int.reduceBNe]; rfl) ?_
   refine Fe.pcall (v' := ?_) rfl hn rfl (by simp only [↓nrmL, nrmZ, Nat.reduceEqDiff, ↓reduceIte, Nat.reduceAdd, Int.reduceBEq, Int.reduceBNe, List.map]; rfl) rfl ?hv fun _ _ => ⟨(by repeat (first | exact trivial | refine ⟨(by first | exact Or.inl (by dsimp only; decide) | exact Or.inr (readOk_of (exec_ld rfl rfl)) | exact Or.inr (readOk_of (exec_ldN rfl rfl rfl)) | exact Or.inr (readOk_of (exec_ldB rfl (by omega))) | exact Or.inr (readOk_of (exec_ldI rfl (by omega))) | exact Or.inr (made_of rfl)), ?_⟩)), ?_⟩; case hv => rfl
   refine Fe.read rfl (exec_ldN rfl rfl (by simp only [↓nrmL, nrmZ, Nat.reduceEqDiff, ↓reduceIte, Nat.reduceAdd, Int.reduceBEq, Int.reduceBNe]; rfl)) rfl (by repeat (first | exact trivial | refine ⟨(by first | exact Or.inl (by dsimp only; decide) | exact Or.inr (exec_ld rfl rfl) | exact Or.inr (exec_ldN rfl rfl rfl) | exact Or.inr (exec_ldB rfl (by omega)) | exact Or.inr (exec_ldI rfl (by omega)) | exact Or.inr ghost_of), ?_⟩)) ?_
   refine Fe.pure rfl rfl (by simp only [↓nrmL, nrmZ, Nat.reduceEqDiff, ↓reduceIte, Nat.reduceAdd, Int.reduceBEq, Int.reduceBNe]; rfl) ?_
   refine Fe.pure rfl rfl (by simp only [↓nrmL, nrmZ, Nat.reduceEqDiff, ↓reduceIte, Nat.reduceAdd, Int.reduceBEq, Int.reduceBNe]; rfl) ?_
   refine Fe.pcall (v' := ?_) rfl hn rfl (by simp only [↓nrmL, nrmZ, Nat.reduceEqDiff, ↓reduceIte, Nat.reduceAdd, Int.reduceBEq, Int.reduceBNe, List.map]; rfl) rfl ?hv fun _ _ => ⟨(by repeat (first | exact trivial | refine ⟨(by first | exact Or.inl (by dsimp only; decide) | exact Or.inr (readOk_of (exec_ld rfl rfl)) | exact Or.inr (readOk_of (exec_ldN rfl rfl rfl)) | exact Or.inr (readOk_of (exec_ldB rfl (by omega))) | exact Or.inr (readOk_of (exec_ldI rfl (by omega))) | exact Or.inr (made_of rfl)), ?_⟩)), ?_⟩; case hv => rfl
   refine Fe.pure rfl rfl (by simp only [↓nrmL, nrmZ, Nat.reduceEqDiff, ↓reduceIte, Nat.reduceAdd, Int.reduceBEq, Int.reduceBNe]; rfl) ?_
   refine Fe.pure rfl rfl (by simp only [↓nrmL, nrmZ, Nat.reduceEqDiff, ↓reduceIte, Nat.reduceAdd, Int.reduceBEq, Int.reduceBNe]; rfl) ?_
   refine WpE.nil (hKF _ _ ?_)
   try simp only [↓nrmL, nrmZ, Nat.reduceEqDiff, ↓reduceIte, Nat.reduceAdd, Int.reduceBEq, Int.reduceBNe, Bool.not_true, Bool.not_false]
   refine sq ?_
   refine rg fun KF hKF => ?_
   refine mI rfl ?_
   refine Fo.bin rfl rfl rfl (by simp only [↓nrmL, nrmZ, Nat.reduceEqDiff, ↓reduceIte, Nat.reduceAdd, Int.reduceBEq, Int.reduceBNe, Bool.not_true, Bool.not_false]; rfl) ?_
   refine mB rfl ?_
   refine Fo.no rfl rfl ?_
   refine Fo.no rfl rfl ?_
   refine Fo.noU rfl ?_
   refine Fo.no rfl rfl ?_
   refine fB rfl rfl ?_
   refine mB rfl ?_
   refine Fo.yes rfl rfl ?_
   refine mI rfl ?_
   refine Fo.yes rfl rfl ?_
   refine Fo.bin rfl rfl rfl (by simp only [↓nrmL, nrmZ, Nat.reduceEqDiff, ↓reduceIte, Nat.reduceAdd, Int.reduceBEq, Int.reduceBNe, Bool.not_true, Bool.not_false]; rfl) ?_
   refine Fo.yes rfl rfl ?_
   refine mB rfl ?_
   refine Fo.no rfl rfl ?_
   refine Fo.yes rfl rfl ?_
   refine fB rfl rfl ?_
   refine Fo.yes rfl rfl ?_
   refine mB rfl ?_
   refine Fo.no rfl rfl ?_
   refine Fo.yes rfl rfl ?_
   refine fB rfl rfl ?_
   refine fB rfl rfl ?_
   refine mB rfl ?_
   refine Fo.yes rfl rfl ?_
   refine mI rfl ?_
   refine Fo.yes rfl rfl ?_
   refine Fo.bin rfl rfl rfl (by simp only [↓nrmL, nrmZ, Nat.reduceEqDiff, ↓reduceIte, Nat.reduceAdd, Int.reduceBEq, Int.reduceBNe, Bool.not_true, Bool.not_false]; rfl) ?_
   refine Fo.yes rfl rfl ?_
   refine mB rfl ?_
   refine Fo.yes rfl rfl ?_
   refine mB rfl ?_
   refine Fo.yes rfl rfl ?_
   refine tB rfl rfl ?_
   refine Fo.yes rfl rfl ?_
   refine mB rfl ?_
   cases ht : (inkB a b l x y : Bool)
   ·skip
    cases ht2 : (inkB a b m x y : Bool)
    ·skip
     try simp only [↓nrmL, nrmZ, Nat.reduceEqDiff, ↓reduceIte, Nat.reduceAdd, Int.reduceBEq, Int.reduceBNe, hc2, ht, ht2, Bool.not_true, Bool.not_false]
     refine Fo.no rfl rfl ?_
     refine Fo.no rfl rfl ?_
     refine Fo.yes rfl rfl ?_
     refine fB rfl rfl ?_
     refine fB rfl rfl ?_
     refine mB rfl ?_
     refine Fo.yes rfl rfl ?_
     refine mI rfl ?_
     refine Fo.yes rfl rfl ?_
     refine Fo.bin rfl rfl rfl (by simp only [↓nrmL, nrmZ, Nat.reduceEqDiff, ↓reduceIte, Nat.reduceAdd, Int.reduceBEq, Int.reduceBNe, hc2, ht, ht2, Bool.not_true, Bool.not_false]; rfl) ?_
     refine Fo.yes rfl rfl ?_
     refine mB rfl ?_
     refine Fo.no rfl rfl ?_
     refine Fo.no rfl rfl ?_
     refine Fo.no rfl rfl ?_
     refine Fo.yes rfl rfl ?_
     refine fB rfl rfl ?_
     refine fB rfl rfl ?_
     refine WpO.nil (hKF _ _ ?_)
     refine Wp.cond (b := false) rfl ?_
     refine Wp.skip ?_
     refine rg fun KF hKF => ?_
     refine mI rfl ?_
     refine Fo.bin rfl rfl rfl rfl ?_
     refine mI rfl ?_
     refine WpO.nil (hKF _ _ ?_)
     dsimp only [cond_true, cond_false]
     have h0 : (fun i => if ((l.getD i 0 == 1) && !(m.getD i 0 == 1)) = true then (1 : UInt8) else 0) (y * a + x) = 0 := by
      rw [k1] at ht
      rw [k2] at ht2
      simp only [ht, ht2]; rfl
     try dsimp only at h0
     refine ⟨x + 1, by omega, ⟨by simp only [↓nrmL, nrmZ, Nat.reduceEqDiff, ↓reduceIte, Nat.reduceAdd, Int.reduceBEq, Int.reduceBNe]; rw [hw1], trivial⟩, hxa, by rw [show y * a + (x + 1) = y * a + x + 1 by omega, filled_skip h0]; infer_instance, inferInstance, inferInstance⟩
    ·skip
     try simp only [↓nrmL, nrmZ, Nat.reduceEqDiff, ↓reduceIte, Nat.reduceAdd, Int.reduceBEq, Int.reduceBNe, hc2, ht, ht2, Bool.not_true, Bool.not_false]
     refine Fo.no rfl rfl ?_
     refine Fo.no rfl rfl ?_
     refine Fo.yes rfl rfl ?_
     refine fB rfl rfl ?_
     refine fB rfl rfl ?_
     refine mB rfl ?_
     refine Fo.yes rfl rfl ?_
     refine mI rfl ?_
     refine Fo.yes rfl rfl ?_
     refine Fo.bin rfl rfl rfl (by simp only [↓nrmL, nrmZ, Nat.reduceEqDiff, ↓reduceIte, Nat.reduceAdd, Int.reduceBEq, Int.reduceBNe, hc2, ht, ht2, Bool.not_true, Bool.not_false]; rfl) ?_
     refine Fo.yes rfl rfl ?_
     refine mB rfl ?_
     refine Fo.no rfl rfl ?_
     refine Fo.no rfl rfl ?_
     refine Fo.no rfl rfl ?_
     refine Fo.yes rfl rfl ?_
     refine fB rfl rfl ?_
     refine fB rfl rfl ?_
     refine WpO.nil (hKF _ _ ?_)
     refine Wp.cond (b := false) rfl ?_
     refine Wp.skip ?_
     refine rg fun KF hKF => ?_
     refine mI rfl ?_
     refine Fo.bin rfl rfl rfl rfl ?_
     refine mI rfl ?_
     refine WpO.nil (hKF _ _ ?_)
     dsimp only [cond_true, cond_false]
     have h0 : (fun i => if ((l.getD i 0 == 1) && !(m.getD i 0 == 1)) = true then (1 : UInt8) else 0) (y * a + x) = 0 := by
      rw [k1] at ht
      rw [k2] at ht2
      simp only [ht, ht2]; rfl
     try dsimp only at h0
     refine ⟨x + 1, by omega, ⟨by simp only [↓nrmL, nrmZ, Nat.reduceEqDiff, ↓reduceIte, Nat.reduceAdd, Int.reduceBEq, Int.reduceBNe]; rw [hw1], trivial⟩, hxa, by rw [show y * a + (x + 1) = y * a + x + 1 by omega, filled_skip h0]; infer_instance, inferInstance, inferInstance⟩
   ·skip
    cases ht2 : (inkB a b m x y : Bool)
    ·skip
     try simp only [↓nrmL, nrmZ, Nat.reduceEqDiff, ↓reduceIte, Nat.reduceAdd, Int.reduceBEq, Int.reduceBNe, hc2, ht, ht2, Bool.not_true, Bool.not_false]
     refine Fo.yes rfl rfl ?_
     refine mB rfl ?_
     refine Fo.yes rfl rfl ?_
     refine Fo.now rfl rfl (by simp only [↓nrmL, nrmZ, Nat.reduceEqDiff, ↓reduceIte, Nat.reduceAdd, Int.reduceBEq, Int.reduceBNe, hc2, ht, ht2, Bool.not_true, Bool.not_false]; rfl) ?_
     refine Fo.yes rfl rfl ?_
     refine tB rfl rfl ?_
     refine fB rfl rfl ?_
     refine mB rfl ?_
     refine Fo.no rfl rfl ?_
     refine Fo.no rfl rfl ?_
     refine Fo.no rfl rfl ?_
     refine Fo.noU rfl ?_
     refine Fo.noU rfl ?_
     refine Fo.noU rfl ?_
     refine Fo.no rfl rfl ?_
     refine tB rfl rfl ?_
     refine WpO.nil (hKF _ _ ?_)
     refine Wp.cond (b := true) rfl ?_
     refine rg fun KF hKF => ?_
     refine Fo.ldN rfl rfl (by simp only [↓nrmL, nrmZ, Nat.reduceEqDiff, ↓reduceIte, Nat.reduceAdd, Int.reduceBEq, Int.reduceBNe, hc2, ht, ht2, Bool.not_true, Bool.not_false]; rfl) ?_
     refine mI rfl ?_
     refine mI rfl ?_
     refine WpO.do (WpX.conD hn rfl rfl (by simp only [↓nrmL, nrmZ, Nat.reduceEqDiff, ↓reduceIte, Nat.reduceAdd, Int.reduceBEq, Int.reduceBNe, List.map] <;> rfl) (K_refSet (y := y) (x := x) (by rw [hfl]; exact hlt) (by rw [hfl]; omega)) fun v H5 h5 => ?_)
     obtain ⟨hb5, hw5, hx5⟩ := h5
     refine WpO.nil (hKF _ _ ?_)
     refine rg fun KF hKF => ?_
     refine mI rfl ?_
     refine Fo.bin rfl rfl rfl rfl ?_
     refine mI rfl ?_
     refine WpO.nil (hKF _ _ ?_)
     dsimp only [cond_true, cond_false]
     have h0 : (fun i => if ((l.getD i 0 == 1) && !(m.getD i 0 == 1)) = true then (1 : UInt8) else 0) (y * a + x) = 1 := by
      rw [k1] at ht
      rw [k2] at ht2
      simp only [ht, ht2]; rfl
     try dsimp only at h0
     refine ⟨x + 1, by omega, ⟨by simp only [↓nrmL, nrmZ, Nat.reduceEqDiff, ↓reduceIte, Nat.reduceAdd, Int.reduceBEq, Int.reduceBNe]; rw [hw1], trivial⟩, hxa, by rw [show y * a + (x + 1) = y * a + x + 1 by omega, ← filled_succ, h0]; infer_instance, inferInstance, inferInstance⟩
    ·skip
     try simp only [↓nrmL, nrmZ, Nat.reduceEqDiff, ↓reduceIte, Nat.reduceAdd, Int.reduceBEq, Int.reduceBNe, hc2, ht, ht2, Bool.not_true, Bool.not_false]
     refine Fo.yes rfl rfl ?_
     refine mB rfl ?_
     refine Fo.yes rfl rfl ?_
     refine Fo.now rfl rfl (by simp only [↓nrmL, nrmZ, Nat.reduceEqDiff, ↓reduceIte, Nat.reduceAdd, Int.reduceBEq, Int.reduceBNe, hc2, ht, ht2, Bool.not_true, Bool.not_false]; rfl) ?_
     refine Fo.yes rfl rfl ?_
     refine tB rfl rfl ?_
     refine fB rfl rfl ?_
     refine mB rfl ?_
     refine Fo.yes rfl rfl ?_
     refine mI rfl ?_
     refine Fo.yes rfl rfl ?_
     refine Fo.bin rfl rfl rfl (by simp only [↓nrmL, nrmZ, Nat.reduceEqDiff, ↓reduceIte, Nat.reduceAdd, Int.reduceBEq, Int.reduceBNe, hc2, ht, ht2, Bool.not_true, Bool.not_false]; rfl) ?_
     refine Fo.yes rfl rfl ?_
     refine mB rfl ?_
     refine Fo.no rfl rfl ?_
     refine Fo.no rfl rfl ?_
     refine Fo.no rfl rfl ?_
     refine Fo.yes rfl rfl ?_
     refine fB rfl rfl ?_
     refine fB rfl rfl ?_
     refine WpO.nil (hKF _ _ ?_)
     refine Wp.cond (b := false) rfl ?_
     refine Wp.skip ?_
     refine rg fun KF hKF => ?_
     refine mI rfl ?_
     refine Fo.bin rfl rfl rfl rfl ?_
     refine mI rfl ?_
     refine WpO.nil (hKF _ _ ?_)
     dsimp only [cond_true, cond_false]
     have h0 : (fun i => if ((l.getD i 0 == 1) && !(m.getD i 0 == 1)) = true then (1 : UInt8) else 0) (y * a + x) = 0 := by
      rw [k1] at ht
      rw [k2] at ht2
      simp only [ht, ht2]; rfl
     try dsimp only at h0
     refine ⟨x + 1, by omega, ⟨by simp only [↓nrmL, nrmZ, Nat.reduceEqDiff, ↓reduceIte, Nat.reduceAdd, Int.reduceBEq, Int.reduceBNe]; rw [hw1], trivial⟩, hxa, by rw [show y * a + (x + 1) = y * a + x + 1 by omega, filled_skip h0]; infer_instance, inferInstance, inferInstance⟩

end Go.Am

set_option maxHeartbeats 4000000
set_option maxRecDepth 100000
namespace Go.Am
open Go
attribute [local irreducible] Wp WpO WpX WpE

theorem K_Turn {w h way : Int} {p : AVal} {H : AHeap} {l : List UInt8} [hp : BytesI H p l] : Con ext prog 4 77 [.agg [.int .i64 w, .int .i64 h, p], .int .i64 way] H fun v H' => InkRes H H' v (turnSpec ⟨w, h, l⟩ way) := by
 refine con_of (show prog 77 = some c77 from rfl) rfl rfl fun n hn => ?_
 haveI := hp.one
 cases h0 : (Img.err ⟨w, h, l⟩ == 0)
 ·have e1 : turnSpec ⟨w, h, l⟩ way = (.zero, Img.err ⟨w, h, l⟩) := by simp [turnSpec, h0]
  rw [e1]
  try simp only [↓nrmL, nrmZ, Nat.reduceEqDiff, ↓reduceIte, h0, bne]
  refine sq ?_
  refine rg fun KF hKF => ?_
  refine Fo.boxA rfl ?_
  refine Fo.new ?_
  refine mI rfl ?_
  refine WpO.nil (hKF _ _ ?_)
  refine sq ?_
  refine sq ?_
  refine rg fun KF hKF => ?_
  refine Fo.ldN rfl rfl (by simp only [↓nrmL, nrmZ, Nat.reduceEqDiff, ↓reduceIte, h0, bne]; rfl) ?_
  refine Fo.pcall (v' := ?_) hn rfl (by simp only [↓nrmL, nrmZ, Nat.reduceEqDiff, ↓reduceIte, h0, bne, List.map]; rfl) rfl ?hv fun _ _ => ?_; case hv => rfl
  refine mI rfl ?_
  refine WpO.nil (hKF _ _ ?_)
  refine sq ?_
  refine rg fun KF hKF => ?_
  refine mI rfl ?_
  refine Fo.bin rfl rfl rfl (by simp only [↓nrmL, nrmZ, Nat.reduceEqDiff, ↓reduceIte, h0, bne]; rfl) ?_
  refine WpO.nil (hKF _ _ ?_)
  refine Wp.cond (b := true) rfl ?_
  refine sq ?_
  refine rg fun KF hKF => ?_
  refine Fo.build (by repeat (first | refine aFill1 (by first | exact (rfl : _ = AVal.int _ _) | exact (rfl : _ = AVal.ptr _ _) | exact (rfl : _ = AVal.bool _) | exact (rfl : _ = AVal.agg _) | exact (rfl : _ = AVal.tuple _) | exact (rfl : _ = AVal.func _ _ _) | exact (rfl : _ = AVal.nslice) | ((try simp only [↓nrmL, nrmK, Nat.reduceEqDiff, ↓reduceIte]); rfl)) rfl ?_ | rfl)) rfl ?_
  refine mI rfl ?_
  refine Fo.st rfl (rfl : _ = AVal.agg _) rfl rfl rfl (by repeat (first | rfl | refine allOne_cons ?_)) (by simp only [↓nrmL, nrmZ, Nat.reduceEqDiff, ↓reduceIte, h0, bne]; rfl) ?_
  refine mI rfl ?_
  refine WpO.nil (hKF _ _ ?_)
  refine Wp.ret ?_
  dsimp only [cond_true, cond_false]
  refine ⟨trivial, _, (getAllC rfl rfl rfl rfl), ?_⟩
  exact ⟨_, rfl, newZero⟩
 obtain ⟨a, b, rfl, rfl, ok⟩ := ok_of h0
 have hwa := ok.wa
 have hhb := ok.hb
 have hm : a * b ≤ 640 * 640 := Nat.mul_le_mul ok.wa ok.hb
 have hl := ok.len
 by_cases h1 : way < 0
 ·have e1 : turnSpec ⟨a, b, l⟩ way = (.zero, 1) := by simp [turnSpec, h0, h1]
  rw [e1]
  have h1 := decide_eq_true h1
  try simp only [↓nrmL, nrmZ, Nat.reduceEqDiff, ↓reduceIte, h0, bne, h1]
  refine sq ?_
  refine rg fun KF hKF => ?_
  refine Fo.boxA rfl ?_
  refine Fo.new ?_
  refine mI rfl ?_
  refine WpO.nil (hKF _ _ ?_)
  refine sq ?_
  refine sq ?_
  refine rg fun KF hKF => ?_
  refine Fo.ldN rfl rfl (by simp only [↓nrmL, nrmZ, Nat.reduceEqDiff, ↓reduceIte, h0, bne, h1]; rfl) ?_
  refine Fo.pcall (v' := ?_) hn rfl (by simp only [↓nrmL, nrmZ, Nat.reduceEqDiff, ↓reduceIte, h0, bne, h1, List.map]; rfl) rfl ?hv fun _ _ => ?_; case hv => rfl
  refine mI rfl ?_
  refine WpO.nil (hKF _ _ ?_)
  refine sq ?_
  refine rg fun KF hKF => ?_
  refine mI rfl ?_
  refine Fo.bin rfl rfl rfl (by simp only [↓nrmL, nrmZ, Nat.reduceEqDiff, ↓reduceIte, h0, bne, h1]; rfl) ?_
  refine WpO.nil (hKF _ _ ?_)
  refine Wp.cond (b := false) rfl ?_
  refine Wp.skip ?_
  refine sq ?_
  refine sq ?_
  refine rg fun KF hKF => ?_
  refine mI rfl ?_
  refine Fo.bin rfl rfl rfl (by simp only [↓nrmL, nrmZ, Nat.reduceEqDiff, ↓reduceIte, h0, bne, h1]; rfl) ?_
  refine mB rfl ?_
  refine Fo.no rfl rfl ?_
  refine Fo.no rfl rfl ?_
  refine tB rfl rfl ?_
  refine WpO.nil (hKF _ _ ?_)
  refine Wp.cond (b := true) rfl ?_
  refine sq ?_
  refine rg fun KF hKF => ?_
  refine Fo.build (by repeat (first | refine aFill1 (by first | exact (rfl : _ = AVal.int _ _) | exact (rfl : _ = AVal.ptr _ _) | exact (rfl : _ = AVal.bool _) | exact (rfl : _ = AVal.agg _) | exact (rfl : _ = AVal.tuple _) | exact (rfl : _ = AVal.func _ _ _) | exact (rfl : _ = AVal.nslice) | ((try simp only [↓nrmL, nrmK, Nat.reduceEqDiff, ↓reduceIte]); rfl)) rfl ?_ | rfl)) rfl ?_
  refine Fo.st rfl (rfl : _ = AVal.agg _) rfl rfl rfl (by repeat (first | rfl | refine allOne_cons ?_)) (by simp only [↓nrmL, nrmZ, Nat.reduceEqDiff, ↓reduceIte, h0, bne, h1]; rfl) ?_
  refine mI rfl ?_
  refine WpO.nil (hKF _ _ ?_)
  refine Wp.ret ?_
  dsimp only [cond_true, cond_false]
  refine ⟨trivial, _, (getAllC rfl rfl rfl rfl), ?_⟩
  exact ⟨_, rfl, newZero⟩
 by_cases h2 : way > 7
 ·have e1 : turnSpec ⟨a, b, l⟩ way = (.zero, 1) := by simp [turnSpec, h0, h2]
  rw [e1]
  have h1 := decide_eq_false h1
  have h2 := decide_eq_true h2
  try simp only [↓nrmL, nrmZ, Nat.reduceEqDiff, ↓reduceIte, h0, bne, h1, h2]
  refine sq ?_
  refine rg fun KF hKF => ?_
  refine Fo.boxA rfl ?_
  refine Fo.new ?_
  refine mI rfl ?_
  refine WpO.nil (hKF _ _ ?_)
  refine sq ?_
  refine sq ?_
  refine rg fun KF hKF => ?_
  refine Fo.ldN rfl rfl (by simp only [↓nrmL, nrmZ, Nat.reduceEqDiff, ↓reduceIte, h0, bne, h1, h2]; rfl) ?_
  refine Fo.pcall (v' := ?_) hn rfl (by simp only [↓nrmL, nrmZ, Nat.reduceEqDiff, ↓reduceIte, h0, bne, h1, h2, List.map]; rfl) rfl ?hv fun _ _ => ?_; case hv => rfl
  refine mI rfl ?_
  refine WpO.nil (hKF _ _ ?_)
  refine sq ?_
  refine rg fun KF hKF => ?_
  refine mI rfl ?_
  refine Fo.bin rfl rfl rfl (by simp only [↓nrmL, nrmZ, Nat.reduceEqDiff, ↓reduceIte, h0, bne, h1, h2]; rfl) ?_
  refine WpO.nil (hKF _ _ ?_)
  refine Wp.cond (b := false) rfl ?_
  refine Wp.skip ?_
  refine sq ?_
  refine sq ?_
  refine rg fun KF hKF => ?_
  refine mI rfl ?_
  refine Fo.bin rfl rfl rfl (by simp only [↓nrmL, nrmZ, Nat.reduceEqDiff, ↓reduceIte, h0, bne, h1, h2]; rfl) ?_
  refine mB rfl ?_
  refine Fo.yes rfl rfl ?_
  refine mI rfl ?_
  refine Fo.yes rfl rfl ?_
  refine Fo.bin rfl rfl rfl (by simp only [↓nrmL, nrmZ, Nat.reduceEqDiff, ↓reduceIte, h0, bne, h1, h2]; rfl) ?_
  refine fB rfl rfl ?_
  refine WpO.nil (hKF _ _ ?_)
  refine Wp.cond (b := true) rfl ?_
  refine sq ?_
  refine rg fun KF hKF => ?_
  refine Fo.build (by repeat (first | refine aFill1 (by first | exact (rfl : _ = AVal.int _ _) | exact (rfl : _ = AVal.ptr _ _) | exact (rfl : _ = AVal.bool _) | exact (rfl : _ = AVal.agg _) | exact (rfl : _ = AVal.tuple _) | exact (rfl : _ = AVal.func _ _ _) | exact (rfl : _ = AVal.nslice) | ((try simp only [↓nrmL, nrmK, Nat.reduceEqDiff, ↓reduceIte]); rfl)) rfl ?_ | rfl)) rfl ?_
  refine Fo.st rfl (rfl : _ = AVal.agg _) rfl rfl rfl (by repeat (first | rfl | refine allOne_cons ?_)) (by simp only [↓nrmL, nrmZ, Nat.reduceEqDiff, ↓reduceIte, h0, bne, h1, h2]; rfl) ?_
  refine mI rfl ?_
  refine WpO.nil (hKF _ _ ?_)
  refine Wp.ret ?_
  dsimp only [cond_true, cond_false]
  refine ⟨trivial, _, (getAllC rfl rfl rfl rfl), ?_⟩
  exact ⟨_, rfl, newZero⟩
 obtain ⟨k, rfl⟩ : ∃ k : Nat, way = k := ⟨way.toNat, by omega⟩
 have e1 : turnSpec ⟨a, b, l⟩ k = (toImg (turnI k a b l), 0) := by
  simp only [turnSpec, h0, cond_true, Int.toNat_natCast]
  rw [if_neg (by omega)]
 rw [e1]
 have h1 := decide_eq_false h1
 have h2 := decide_eq_false h2
 have hrem0 : ((k : Int)).tmod 4 = ((k % 4 : Nat) : Int) := rfl
 cases hg : decide ((k : Int) ≥ 4)
 ·have hk4 : k < 4 := by have := of_decide_eq_false hg; omega
  unfold turnI
  rw [if_pos hk4]
  try simp only [↓nrmL, nrmZ, Nat.reduceEqDiff, ↓reduceIte, h0, bne, h1, h2]
  refine sq ?_
  refine rg fun KF hKF => ?_
  refine Fo.boxA rfl ?_
  refine Fo.new ?_
  refine mI rfl ?_
  refine WpO.nil (hKF _ _ ?_)
  refine sq ?_
  refine sq ?_
  refine rg fun KF hKF => ?_
  refine Fo.ldN rfl rfl (by simp only [↓nrmL, nrmZ, Nat.reduceEqDiff, ↓reduceIte, h0, bne, h1, h2]; rfl) ?_
  refine Fo.pcall (v' := ?_) hn rfl (by simp only [↓nrmL, nrmZ, Nat.reduceEqDiff, ↓reduceIte, h0, bne, h1, h2, List.map]; rfl) rfl ?hv fun _ _ => ?_; case hv => rfl
  refine mI rfl ?_
  refine WpO.nil (hKF _ _ ?_)
  refine sq ?_
  refine rg fun KF hKF => ?_
  refine mI rfl ?_
  refine Fo.bin rfl rfl rfl (by simp only [↓nrmL, nrmZ, Nat.reduceEqDiff, ↓reduceIte, h0, bne, h1, h2]; rfl) ?_
  refine WpO.nil (hKF _ _ ?_)
  refine Wp.cond (b := false) rfl ?_
  refine Wp.skip ?_
  refine sq ?_
  refine sq ?_
  refine rg fun KF hKF => ?_
  refine mI rfl ?_
  refine Fo.bin rfl rfl rfl (by simp only [↓nrmL, nrmZ, Nat.reduceEqDiff, ↓reduceIte, h0, bne, h1, h2]; rfl) ?_
  refine mB rfl ?_
  refine Fo.yes rfl rfl ?_
  refine mI rfl ?_
  refine Fo.yes rfl rfl ?_
  refine Fo.bin rfl rfl rfl (by simp only [↓nrmL, nrmZ, Nat.reduceEqDiff, ↓reduceIte, h0, bne, h1, h2]; rfl) ?_
  refine fB rfl rfl ?_
  refine WpO.nil (hKF _ _ ?_)
  refine Wp.cond (b := false) rfl ?_
  refine Wp.skip ?_
  refine sq ?_
  refine rg fun KF hKF => ?_
  refine Fo.ldN rfl rfl (by simp only [↓nrmL, nrmZ, Nat.reduceEqDiff, ↓reduceIte, h0, bne, h1, h2]; rfl) ?_
  refine WpO.do (WpX.conD hn rfl rfl (by simp only [↓nrmL, nrmZ, Nat.reduceEqDiff, ↓reduceIte, List.map] <;> rfl) (K_twin (l := l) (by omega)) fun v H1 h5 => ?_)
  obtain ⟨q, e2, hq, hf, hw3, hx⟩ := h5
  subst e2
  haveI : ExtI _ H1 := ⟨hx⟩
  haveI := hq.one
  have hq : BytesI H1 q l := hq
  try simp only [↓nrmL, nrmZ, Nat.reduceEqDiff, ↓reduceIte, hg, hrem0]
  refine Fo.new ?_
  refine Fo.st rfl (rfl : _ = AVal.agg _) rfl rfl rfl (by repeat (first | rfl | refine allOne_cons ?_)) (by simp only [↓nrmL, nrmZ, Nat.reduceEqDiff, ↓reduceIte, hg, hrem0]; rfl) ?_
  refine WpO.nil (hKF _ _ ?_)
  refine sq ?_
  refine sq ?_
  refine rg fun KF hKF => ?_
  refine mI rfl ?_
  refine Fo.bin rfl rfl rfl (by simp only [↓nrmL, nrmZ, Nat.reduceEqDiff, ↓reduceIte, hg, hrem0]; rfl) ?_
  refine WpO.nil (hKF _ _ ?_)
  refine Wp.cond (b := false) rfl ?_
  refine Wp.skip ?_
  refine sq ?_
  refine sq ?_
  refine rg fun KF hKF => ?_
  refine mI rfl ?_
  refine Fo.bin rfl rfl rfl (by simp only [↓nrmL, nrmZ, Nat.reduceEqDiff, ↓reduceIte, hg, hrem0]; rfl) ?_
  refine mI rfl ?_
  refine WpO.nil (hKF _ _ ?_)
  refine Wp.block ?_
  dsimp only [cond_true, cond_false]
  refine Wp.loopS [29, 30, 31, 32, 33] (fun t : Nat × AVal => [(29, .int .i64 t.1)]) (fun _ t H2 => t.1 ≤ k % 4 ∧ HasRow H2 H1.n [.int .i64 ((rotI t.1 (a, b, l)).1 : Nat), .int .i64 ((rotI t.1 (a, b, l)).2.1 : Nat), t.2] true (2 * 24) ∧ BytesI H2 t.2 (rotI t.1 (a, b, l)).2.2 ∧ FreshS ((H.push (.row [.int .i64 a, .int .i64 b, p] true (2 * 24))).push (.row [.int .i64 0, .int .i64 0, .nslice] true (2 * 24))) t.2 ∧ WrS H2 t.2 ∧ Ext ((H.push (.row [.int .i64 a, .int .i64 b, p] true (2 * 24))).push (.row [.int .i64 0, .int .i64 0, .nslice] true (2 * 24))) H2) (fun t => k % 4 - t.1) (0, q) rfl (fun _ => rfl) ⟨rfl, trivial⟩ ⟨Nat.zero_le _, (show HasRow _ H1.n [.int .i64 (a : Int), .int .i64 (b : Int), q] true (2 * 24) from inferInstance), (show BytesI _ q (l) from inferInstance), hf.weak, inferInstance, Ext0.ext⟩ (by unfold fuel0 at hn; omega) ?_
  rintro ⟨i, q2⟩ g3 H6 ⟨hi, hrow, hb6, hf6, hw6, hx6⟩
  dsimp only at hi hrow hb6 hf6 hw6
  have okr := ok_rot (g := (a, b, l)) ok i
  haveI : ExtI ((H.push (.row [.int .i64 a, .int .i64 b, p] true (2 * 24))).push (.row [.int .i64 0, .int .i64 0, .nslice] true (2 * 24))) H6 := ⟨hx6⟩
  haveI := hb6.one
  have hrem : ((k : Int)).tmod 4 = ((k % 4 : Nat) : Int) := rfl
  have hw9 := wa1 (a := i) (by omega)
  simp only [↓nrmL, nrmZ, Nat.reduceEqDiff, ↓reduceIte]
  cases hc3 : decide ((i : Int) < ((k % 4 : Nat) : Int))
  ·have hik : i = k % 4 := by have := of_decide_eq_false hc3; omega
   subst hik
   try simp only [↓nrmL, nrmZ, Nat.reduceEqDiff, ↓reduceIte, hrem, hc3]
   refine sq ?_
   refine rg fun KF hKF => ?_
   refine Fo.bin rfl rfl rfl (by simp only [↓nrmL, nrmZ, Nat.reduceEqDiff, ↓reduceIte, hrem, hc3]; rfl) ?_
   refine WpO.nil (hKF _ _ ?_)
   refine sq ?_
   refine Wp.cond (b := false) rfl ?_
   refine Wp.exit ?_
   refine sq ?_
   refine rg fun KF hKF => ?_
   refine Fo.ldN rfl rfl (by simp only [↓nrmL, nrmZ, Nat.reduceEqDiff, ↓reduceIte, hrem, hc3]; rfl) ?_
   refine Fo.st rfl (rfl : _ = AVal.agg _) rfl rfl rfl (by repeat (first | rfl | refine allOne_cons ?_)) (by simp only [↓nrmL, nrmZ, Nat.reduceEqDiff, ↓reduceIte, hrem, hc3]; rfl) ?_
   refine mI rfl ?_
   refine WpO.nil (hKF _ _ ?_)
   refine Wp.ret ?_
   dsimp only [cond_true, cond_false]
   refine ⟨trivial, _, (getAllC rfl rfl rfl rfl), ?_⟩
   exact ⟨_, rfl, q2, rfl, (show BytesI _ q2 (rotI (k % 4) (a, b, l)).2.2 from inferInstance), hf6.weak, (show WrS _ q2 from inferInstance), Ext0.ext⟩
  ·have hik : i < k % 4 := by have := of_decide_eq_true hc3; omega
   try simp only [↓nrmL, nrmZ, Nat.reduceEqDiff, ↓reduceIte, hrem, hc3]
   refine sq ?_
   refine rg fun KF hKF => ?_
   refine Fo.bin rfl rfl rfl (by simp only [↓nrmL, nrmZ, Nat.reduceEqDiff, ↓reduceIte, hrem, hc3]; rfl) ?_
   refine WpO.nil (hKF _ _ ?_)
   refine sq ?_
   refine Wp.cond (b := true) rfl ?_
   refine Wp.skip ?_
   refine sq ?_
   refine Wp.block ?_
   refine rg fun KF hKF => ?_
   refine Fo.ldN rfl rfl (by simp only [↓nrmL, nrmZ, Nat.reduceEqDiff, ↓reduceIte, hrem, hc3]; rfl) ?_
   refine WpO.do (WpX.conD hn rfl rfl (by simp only [↓nrmL, nrmZ, Nat.reduceEqDiff, ↓reduceIte, List.map] <;> rfl) (K_clockwise okr.len okr.wa okr.hb) fun v H7 h5 => ?_)
   obtain ⟨q3, e3, hq3, hf3, hw3, hx3⟩ := h5
   subst e3
   haveI : ExtI _ H7 := ⟨hx3⟩
   haveI := hq3.one
   have hq3 : BytesI H7 q3 (rotI (i + 1) (a, b, l)).2.2 := hq3
   refine Fo.st rfl (rfl : _ = AVal.agg _) rfl rfl rfl (by repeat (first | rfl | refine allOne_cons ?_)) (by simp only [↓nrmL, nrmZ, Nat.reduceEqDiff, ↓reduceIte]; rfl) ?_
   refine WpO.nil (hKF _ _ ?_)
   refine rg fun KF hKF => ?_
   refine Fo.bin rfl rfl rfl rfl ?_
   refine mI rfl ?_
   refine WpO.nil (hKF _ _ ?_)
   dsimp only [cond_true, cond_false]
   refine ⟨(i + 1, q3), by dsimp only; omega, ⟨by simp only [↓nrmL, nrmZ, Nat.reduceEqDiff, ↓reduceIte]; rw [hw9], trivial⟩, hik, (show HasRow _ H1.n [.int .i64 ((rotI i (a, b, l)).2.1 : Nat), .int .i64 ((rotI i (a, b, l)).1 : Nat), q3] true (2 * 24) from inferInstance), (show BytesI _ q3 (rotI (i + 1) (a, b, l)).2.2 from inferInstance), hf3.weak, (show WrS _ q3 from inferInstance), Ext0.ext⟩
 ·have hk4 : ¬ k < 4 := by have := of_decide_eq_true hg; omega
  unfold turnI
  rw [if_neg hk4]
  try simp only [↓nrmL, nrmZ, Nat.reduceEqDiff, ↓reduceIte, h0, bne, h1, h2]
  refine sq ?_
  refine rg fun KF hKF => ?_
  refine Fo.boxA rfl ?_
  refine Fo.new ?_
  refine mI rfl ?_
  refine WpO.nil (hKF _ _ ?_)
  refine sq ?_
  refine sq ?_
  refine rg fun KF hKF => ?_
  refine Fo.ldN rfl rfl (by simp only [↓nrmL, nrmZ, Nat.reduceEqDiff, ↓reduceIte, h0, bne, h1, h2]; rfl) ?_
  refine Fo.pcall (v' := ?_) hn rfl (by simp only [↓nrmL, nrmZ, Nat.reduceEqDiff, ↓reduceIte, h0, bne, h1, h2, List.map]; rfl) rfl ?hv fun _ _ => ?_; case hv => rfl
  refine mI rfl ?_
  refine WpO.nil (hKF _ _ ?_)
  refine sq ?_
  refine rg fun KF hKF => ?_
  refine mI rfl ?_
  refine Fo.bin rfl rfl rfl (by simp only [↓nrmL, nrmZ, Nat.reduceEqDiff, ↓reduceIte, h0, bne, h1, h2]; rfl) ?_
  refine WpO.nil (hKF _ _ ?_)
  refine Wp.cond (b := false) rfl ?_
  refine Wp.skip ?_
  refine sq ?_
  refine sq ?_
  refine rg fun KF hKF => ?_
  refine mI rfl ?_
  refine Fo.bin rfl rfl rfl (by simp only [↓nrmL, nrmZ, Nat.reduceEqDiff, ↓reduceIte, h0, bne, h1, h2]; rfl) ?_
  refine mB rfl ?_
  refine Fo.yes rfl rfl ?_
  refine mI rfl ?_
  refine Fo.yes rfl rfl ?_
  refine Fo.bin rfl rfl rfl (by simp only [↓nrmL, nrmZ, Nat.reduceEqDiff, ↓reduceIte, h0, bne, h1, h2]; rfl) ?_
  refine fB rfl rfl ?_
  refine WpO.nil (hKF _ _ ?_)
  refine Wp.cond (b := false) rfl ?_
  refine Wp.skip ?_
  refine sq ?_
  refine rg fun KF hKF => ?_
  refine Fo.ldN rfl rfl (by simp only [↓nrmL, nrmZ, Nat.reduceEqDiff, ↓reduceIte, h0, bne, h1, h2]; rfl) ?_
  refine WpO.do (WpX.conD hn rfl rfl (by simp only [↓nrmL, nrmZ, Nat.reduceEqDiff, ↓reduceIte, List.map] <;> rfl) (K_twin (l := l) (by omega)) fun v H1 h5 => ?_)
  obtain ⟨q, e2, hq, hf, hw3, hx⟩ := h5
  subst e2
  haveI : ExtI _ H1 := ⟨hx⟩
  haveI := hq.one
  have hq : BytesI H1 q l := hq
  try simp only [↓nrmL, nrmZ, Nat.reduceEqDiff, ↓reduceIte, hg, hrem0]
  refine Fo.new ?_
  refine Fo.st rfl (rfl : _ = AVal.agg _) rfl rfl rfl (by repeat (first | rfl | refine allOne_cons ?_)) (by simp only [↓nrmL, nrmZ, Nat.reduceEqDiff, ↓reduceIte, hg, hrem0]; rfl) ?_
  refine WpO.nil (hKF _ _ ?_)
  refine sq ?_
  refine sq ?_
  refine rg fun KF hKF => ?_
  refine mI rfl ?_
  refine Fo.bin rfl rfl rfl (by simp only [↓nrmL, nrmZ, Nat.reduceEqDiff, ↓reduceIte, hg, hrem0]; rfl) ?_
  refine WpO.nil (hKF _ _ ?_)
  refine Wp.cond (b := true) rfl ?_
  refine rg fun KF hKF => ?_
  refine Fo.ldN rfl rfl (by simp only [↓nrmL, nrmZ, Nat.reduceEqDiff, ↓reduceIte, hg, hrem0]; rfl) ?_
  refine WpO.do (WpX.conD hn rfl rfl (by simp only [↓nrmL, nrmZ, Nat.reduceEqDiff, ↓reduceIte, List.map] <;> rfl) (K_mirror (l := l) hl hwa hhb) fun v H2 h5 => ?_)
  obtain ⟨hbm, hwm, hxm⟩ := h5
  try simp only [↓nrmL, nrmZ, Nat.reduceEqDiff, ↓reduceIte, hrem0]
  refine WpO.nil (hKF _ _ ?_)
  refine sq ?_
  refine sq ?_
  refine rg fun KF hKF => ?_
  refine mI rfl ?_
  refine Fo.bin rfl rfl rfl (by simp only [↓nrmL, nrmZ, Nat.reduceEqDiff, ↓reduceIte, hrem0]; rfl) ?_
  refine mI rfl ?_
  refine WpO.nil (hKF _ _ ?_)
  refine Wp.block ?_
  dsimp only [cond_true, cond_false]
  refine Wp.loopS [29, 30, 31, 32, 33] (fun t : Nat × AVal => [(29, .int .i64 t.1)]) (fun _ t H2 => t.1 ≤ k % 4 ∧ HasRow H2 H1.n [.int .i64 ((rotI t.1 (a, b, mirrorL l a)).1 : Nat), .int .i64 ((rotI t.1 (a, b, mirrorL l a)).2.1 : Nat), t.2] true (2 * 24) ∧ BytesI H2 t.2 (rotI t.1 (a, b, mirrorL l a)).2.2 ∧ FreshS ((H.push (.row [.int .i64 a, .int .i64 b, p] true (2 * 24))).push (.row [.int .i64 0, .int .i64 0, .nslice] true (2 * 24))) t.2 ∧ WrS H2 t.2 ∧ Ext ((H.push (.row [.int .i64 a, .int .i64 b, p] true (2 * 24))).push (.row [.int .i64 0, .int .i64 0, .nslice] true (2 * 24))) H2) (fun t => k % 4 - t.1) (0, q) rfl (fun _ => rfl) ⟨rfl, trivial⟩ ⟨Nat.zero_le _, (show HasRow _ H1.n [.int .i64 (a : Int), .int .i64 (b : Int), q] true (2 * 24) from inferInstance), (show BytesI _ q (mirrorL l a) from inferInstance), hf.weak, inferInstance, Ext0.ext⟩ (by unfold fuel0 at hn; omega) ?_
  rintro ⟨i, q2⟩ g3 H6 ⟨hi, hrow, hb6, hf6, hw6, hx6⟩
  dsimp only at hi hrow hb6 hf6 hw6
  have okr := ok_rot (g := (a, b, mirrorL l a)) (ok_mirror ok) i
  haveI : ExtI ((H.push (.row [.int .i64 a, .int .i64 b, p] true (2 * 24))).push (.row [.int .i64 0, .int .i64 0, .nslice] true (2 * 24))) H6 := ⟨hx6⟩
  haveI := hb6.one
  have hrem : ((k : Int)).tmod 4 = ((k % 4 : Nat) : Int) := rfl
  have hw9 := wa1 (a := i) (by omega)
  simp only [↓nrmL, nrmZ, Nat.reduceEqDiff, ↓reduceIte]
  cases hc3 : decide ((i : Int) < ((k % 4 : Nat) : Int))
  ·have hik : i = k % 4 := by have := of_decide_eq_false hc3; omega
   subst hik
   try simp only [↓nrmL, nrmZ, Nat.reduceEqDiff, ↓reduceIte, hrem, hc3]
   refine sq ?_
   refine rg fun KF hKF => ?_
   refine Fo.bin rfl rfl rfl (by simp only [↓nrmL, nrmZ, Nat.reduceEqDiff, ↓reduceIte, hrem, hc3]; rfl) ?_
   refine WpO.nil (hKF _ _ ?_)
   refine sq ?_
   refine Wp.cond (b := false) rfl ?_
   refine Wp.exit ?_
   refine sq ?_
   refine rg fun KF hKF => ?_
   refine Fo.ldN rfl rfl (by simp only [↓nrmL, nrmZ, Nat.reduceEqDiff, ↓reduceIte, hrem, hc3]; rfl) ?_
   refine Fo.st rfl (rfl : _ = AVal.agg _) rfl rfl rfl (by repeat (first | rfl | refine allOne_cons ?_)) (by simp only [↓nrmL, nrmZ, Nat.reduceEqDiff, ↓reduceIte, hrem, hc3]; rfl) ?_
   refine mI rfl ?_
   refine WpO.nil (hKF _ _ ?_)
   refine Wp.ret ?_
   dsimp only [cond_true, cond_false]
   refine ⟨trivial, _, (getAllC rfl rfl rfl rfl), ?_⟩
   exact ⟨_, rfl, q2, rfl, (show BytesI _ q2 (rotI (k % 4) (a, b, mirrorL l a)).2.2 from inferInstance), hf6.weak, (show WrS _ q2 from inferInstance), Ext0.ext⟩
  ·have hik : i < k % 4 := by have := of_decide_eq_true hc3; omega
   try simp only [↓nrmL, nrmZ, Nat.reduceEqDiff, ↓reduceIte, hrem, hc3]
   refine sq ?_
   refine rg fun KF hKF => ?_
   refine Fo.bin rfl rfl rfl (by simp only [↓nrmL, nrmZ, Nat.reduceEqDiff, ↓reduceIte, hrem, hc3]; rfl) ?_
   refine WpO.nil (hKF _ _ ?_)
   refine sq ?_
   refine Wp.cond (b := true) rfl ?_
   refine Wp.skip ?_
   refine sq ?_
   refine Wp.block ?_
   refine rg fun KF hKF => ?_
   refine Fo.ldN rfl rfl (by simp only [↓nrmL, nrmZ, Nat.reduceEqDiff, ↓reduceIte, hrem, hc3]; rfl) ?_
   refine WpO.do (WpX.conD hn rfl rfl (by simp only [↓nrmL, nrmZ, Nat.reduceEqDiff, ↓reduceIte, List.map] <;> rfl) (K_clockwise okr.len okr.wa okr.hb) fun v H7 h5 => ?_)
   obtain ⟨q3, e3, hq3, hf3, hw3, hx3⟩ := h5
   subst e3
   haveI : ExtI _ H7 := ⟨hx3⟩
   haveI := hq3.one
   have hq3 : BytesI H7 q3 (rotI (i + 1) (a, b, mirrorL l a)).2.2 := hq3
   refine Fo.st rfl (rfl : _ = AVal.agg _) rfl rfl rfl (by repeat (first | rfl | refine allOne_cons ?_)) (by simp only [↓nrmL, nrmZ, Nat.reduceEqDiff, ↓reduceIte]; rfl) ?_
   refine WpO.nil (hKF _ _ ?_)
   refine rg fun KF hKF => ?_
   refine Fo.bin rfl rfl rfl rfl ?_
   refine mI rfl ?_
   refine WpO.nil (hKF _ _ ?_)
   dsimp only [cond_true, cond_false]
   refine ⟨(i + 1, q3), by dsimp only; omega, ⟨by simp only [↓nrmL, nrmZ, Nat.reduceEqDiff, ↓reduceIte]; rw [hw9], trivial⟩, hik, (show HasRow _ H1.n [.int .i64 ((rotI i (a, b, mirrorL l a)).2.1 : Nat), .int .i64 ((rotI i (a, b, mirrorL l a)).1 : Nat), q3] true (2 * 24) from inferInstance), (show BytesI _ q3 (rotI (i + 1) (a, b, mirrorL l a)).2.2 from inferInstance), hf3.weak, (show WrS _ q3 from inferInstance), Ext0.ext⟩
end Go.Am

set_option maxHeartbeats 4000000
set_option maxRecDepth 100000
namespace Go.Am
open Go
attribute [local irreducible] Wp WpO WpX WpE

/-- Is a list longer than the statements look at? -/
instance K_few1 {p : AVal} {H : AHeap} {w h : Int} {sz k : Nat} {cs : List AVal} [hp : SliceAt H p sz k cs] : PureCon ext prog 93 [.agg [.int .i64 w, .int .i64 h, p]] H 1 (.bool (decide ((k : Int) > 4000))) := ⟨by
 refine con_of (show prog 93 = some c93 from rfl) rfl rfl fun n hn => ?_
 haveI := hp.one
 refine sq ?_
 refine rg fun KF hKF => ?_
 refine Fo.boxA rfl ?_
 refine mB rfl ?_
 refine WpO.nil (hKF _ _ ?_)
 refine sq ?_
 refine rg fun KF hKF => ?_
 refine Fo.fa rfl ?_
 refine Fo.ld rfl rfl ?_
 refine Fo.len (v := ?_) (by simp only [↓nrmL, nrmK, Nat.reduceEqDiff, ↓reduceIte]; rfl) ?hv ?_; case hv => rfl
 refine Fo.bin rfl rfl rfl rfl ?_
 refine mB rfl ?_
 refine WpO.nil (hKF _ _ ?_)
 refine Wp.ret ?_
 dsimp only [cond_true, cond_false]
 refine ⟨trivial, _, (by first | rfl | exact getAllC rfl rfl rfl rfl | exact getAllT rfl (getAllC rfl rfl rfl rfl) | exact getAllC rfl rfl rfl (getAllC rfl rfl rfl rfl) | exact getAllC1 rfl rfl rfl), ?_⟩
 exact ⟨rfl, Ext0.ext⟩⟩

instance K_iff2 {s p q : AVal} {H : AHeap} {w h w' h' : Int} {sz k sz' k' : Nat} {cs cs' : List AVal} [hp : SliceAt H p sz k cs] [hq : SliceAt H q sz' k' cs'] [hs : SliceAt H s 3 2 [.int .i64 w, .int .i64 h, p, .int .i64 w', .int .i64 h', q]] : PureCon ext prog 152 [s, .func (.func 93) [] []] H 2 (.int .i64 (bif decide ((k : Int) > 4000) then 0 else bif decide ((k' : Int) > 4000) then 1 else -1)) := ⟨by
 refine con_of (show prog 152 = some c152 from rfl) rfl rfl fun n hn => ?_
 haveI := hs.one
 refine sq ?_
 refine rg fun KF hKF => ?_
 refine mI rfl ?_
 refine WpO.nil (hKF _ _ ?_)
 refine sq ?_
 refine sq ?_
 refine rg fun KF hKF => ?_
 refine Fo.mov (by simp only [↓nrmL, nrmK, Nat.reduceEqDiff, ↓reduceIte]; rfl) ?_
 refine Fo.len (v := ?_) (by simp only [↓nrmL, nrmK, Nat.reduceEqDiff, ↓reduceIte]; rfl) ?hv ?_; case hv => rfl
 refine mI rfl ?_
 refine WpO.nil (hKF _ _ ?_)
 refine Wp.block ?_
 dsimp only [cond_true, cond_false]
 refine Wp.loopS [4, 5, 8, 9, 10, 11, 12, 13, 14, 15, 16, 17, 18] (fun i : Nat => [(8, .int .i64 i)]) (fun H3 i H2 => i ≤ 2 ∧ (1 ≤ i → decide ((k : Int) > 4000) = false) ∧ (2 ≤ i → decide ((k' : Int) > 4000) = false) ∧ Ext H3 H2) (fun i => 2 - i) 0 rfl (fun _ => rfl) ⟨rfl, trivial⟩ ⟨Nat.zero_le _, fun h => by omega, fun h => by omega, Ext.refl _⟩ (by unfold fuel0 at hn; omega) ?_
 rintro i g H2 ⟨hi, h1, h2, hx2⟩
 haveI : ExtI _ H2 := ⟨hx2⟩
 simp only [↓nrmL, nrmZ, Nat.reduceEqDiff, ↓reduceIte, Nat.reduceAdd, Int.reduceBEq, Int.reduceBNe]
 rcases i with _ | i
 ·have hc : decide (((0 : Nat) : Int) < ((2 : Nat) : Int)) = true := rfl
  have hw1 : IntKind.i64.wrap (((0 : Nat) : Int) + 1) = ((1 : Nat) : Int) := rfl
  try simp only [↓nrmL, nrmZ, Nat.reduceEqDiff, ↓reduceIte, Nat.reduceAdd, Int.reduceBEq, Int.reduceBNe, hc]
  refine sq ?_
  refine rg fun KF hKF => ?_
  refine Fo.bin rfl rfl rfl (by simp only [↓nrmL, nrmZ, Nat.reduceEqDiff, ↓reduceIte, Nat.reduceAdd, Int.reduceBEq, Int.reduceBNe, hc]; rfl) ?_
  refine WpO.nil (hKF _ _ ?_)
  refine sq ?_
  refine Wp.cond (b := true) rfl ?_
  refine Wp.skip ?_
  refine sq ?_
  refine Wp.block ?_
  refine sq ?_
  refine rg fun KF hKF => ?_
  refine mI rfl ?_
  refine mI rfl ?_
  refine WpO.nil (hKF _ _ ?_)
  refine sq ?_
  refine rg fun KF hKF => ?_
  refine mF rfl ?_
  refine Fo.mov (by simp only [↓nrmL, nrmK, Nat.reduceEqDiff, ↓reduceIte]; rfl) ?_
  refine mI rfl ?_
  refine Fo.idx (by simp only [↓nrmL, nrmK, Nat.reduceEqDiff, ↓reduceIte]; rfl) rfl ?_ (by simp only [↓nrmL, nrmZ, Nat.reduceEqDiff, ↓reduceIte, Nat.reduceAdd, Int.reduceBEq, Int.reduceBNe, hc]; rfl) ?_; (focus omega)
  refine WpO.do (WpX.ldNP (p := s) (j := 0) (m := 3) rfl (by decide) (by simp) rfl ?_)
  cases hk : decide ((k : Int) > 4000)
  ·skip
   try simp only [↓nrmL, nrmZ, Nat.reduceEqDiff, ↓reduceIte, Nat.reduceAdd, Int.reduceBEq, Int.reduceBNe, hk]
   refine Fo.pcall (v' := ?_) hn rfl (by simp only [↓nrmL, nrmZ, Nat.reduceEqDiff, ↓reduceIte, Nat.reduceAdd, Int.reduceBEq, Int.reduceBNe, hk, List.map]; rfl) rfl ?hv fun _ _ => ?_; case hv => (simp only [↓nrmL, nrmZ, Nat.reduceEqDiff, ↓reduceIte, Nat.reduceAdd, Int.reduceBEq, Int.reduceBNe, hk]; rfl)
   refine WpO.nil (hKF _ _ ?_)
   refine Wp.cond (b := false) rfl ?_
   refine Wp.skip ?_
   refine rg fun KF hKF => ?_
   refine Fo.bin rfl rfl rfl rfl ?_
   refine mI rfl ?_
   refine WpO.nil (hKF _ _ ?_)
   dsimp only [cond_true, cond_false]
   refine ⟨1, by omega, ⟨by simp only [↓nrmL, nrmZ, Nat.reduceEqDiff, ↓reduceIte, Nat.reduceAdd, Int.reduceBEq, Int.reduceBNe]; rw [hw1], trivial⟩, by omega, fun _ => hk, fun h => by omega, Ext0.ext⟩
  ·skip
   try simp only [↓nrmL, nrmZ, Nat.reduceEqDiff, ↓reduceIte, Nat.reduceAdd, Int.reduceBEq, Int.reduceBNe, hk]
   refine Fo.pcall (v' := ?_) hn rfl (by simp only [↓nrmL, nrmZ, Nat.reduceEqDiff, ↓reduceIte, Nat.reduceAdd, Int.reduceBEq, Int.reduceBNe, hk, List.map]; rfl) rfl ?hv fun _ _ => ?_; case hv => (simp only [↓nrmL, nrmZ, Nat.reduceEqDiff, ↓reduceIte, Nat.reduceAdd, Int.reduceBEq, Int.reduceBNe, hk]; rfl)
   refine WpO.nil (hKF _ _ ?_)
   refine Wp.cond (b := true) rfl ?_
   refine sq ?_
   refine rg fun KF hKF => ?_
   refine mI rfl ?_
   refine mI rfl ?_
   refine WpO.nil (hKF _ _ ?_)
   refine Wp.ret ?_
   dsimp only [cond_true, cond_false]
   refine ⟨trivial, _, (by first | rfl | exact getAllC rfl rfl rfl rfl | exact getAllT rfl (getAllC rfl rfl rfl rfl) | exact getAllC rfl rfl rfl (getAllC rfl rfl rfl rfl) | exact getAllC1 rfl rfl rfl), ?_⟩
   exact ⟨by rw [hk]; rfl, Ext0.ext⟩
 rcases i with _ | i
 ·have hc : decide (((0 + 1 : Nat) : Int) < ((2 : Nat) : Int)) = true := rfl
  have hw1 : IntKind.i64.wrap (((0 + 1 : Nat) : Int) + 1) = ((2 : Nat) : Int) := rfl
  have hk := h1 (by omega)
  try simp only [↓nrmL, nrmZ, Nat.reduceEqDiff, ↓reduceIte, Nat.reduceAdd, Int.reduceBEq, Int.reduceBNe, hc]
  refine sq ?_
  refine rg fun KF hKF => ?_
  refine Fo.bin rfl rfl rfl (by simp only [↓nrmL, nrmZ, Nat.reduceEqDiff, ↓reduceIte, Nat.reduceAdd, Int.reduceBEq, Int.reduceBNe, hc]; rfl) ?_
  refine WpO.nil (hKF _ _ ?_)
  refine sq ?_
  refine Wp.cond (b := true) rfl ?_
  refine Wp.skip ?_
  refine sq ?_
  refine Wp.block ?_
  refine sq ?_
  refine rg fun KF hKF => ?_
  refine mI rfl ?_
  refine mI rfl ?_
  refine WpO.nil (hKF _ _ ?_)
  refine sq ?_
  refine rg fun KF hKF => ?_
  refine mF rfl ?_
  refine Fo.mov (by simp only [↓nrmL, nrmK, Nat.reduceEqDiff, ↓reduceIte]; rfl) ?_
  refine mI rfl ?_
  refine Fo.idx (by simp only [↓nrmL, nrmK, Nat.reduceEqDiff, ↓reduceIte]; rfl) rfl ?_ (by simp only [↓nrmL, nrmZ, Nat.reduceEqDiff, ↓reduceIte, Nat.reduceAdd, Int.reduceBEq, Int.reduceBNe, hc]; rfl) ?_; (focus omega)
  refine WpO.do (WpX.ldNP (p := s) (j := 3) (m := 3) rfl (by decide) (by simp) rfl ?_)
  cases hk2 : decide ((k' : Int) > 4000)
  ·skip
   try simp only [↓nrmL, nrmZ, Nat.reduceEqDiff, ↓reduceIte, Nat.reduceAdd, Int.reduceBEq, Int.reduceBNe, hk2]
   refine Fo.pcall (v' := ?_) hn rfl (by simp only [↓nrmL, nrmZ, Nat.reduceEqDiff, ↓reduceIte, Nat.reduceAdd, Int.reduceBEq, Int.reduceBNe, hk2, List.map]; rfl) rfl ?hv fun _ _ => ?_; case hv => (simp only [↓nrmL, nrmZ, Nat.reduceEqDiff, ↓reduceIte, Nat.reduceAdd, Int.reduceBEq, Int.reduceBNe, hk2]; rfl)
   refine WpO.nil (hKF _ _ ?_)
   refine Wp.cond (b := false) rfl ?_
   refine Wp.skip ?_
   refine rg fun KF hKF => ?_
   refine Fo.bin rfl rfl rfl rfl ?_
   refine mI rfl ?_
   refine WpO.nil (hKF _ _ ?_)
   dsimp only [cond_true, cond_false]
   refine ⟨2, by omega, ⟨by simp only [↓nrmL, nrmZ, Nat.reduceEqDiff, ↓reduceIte, Nat.reduceAdd, Int.reduceBEq, Int.reduceBNe]; rw [hw1], trivial⟩, by omega, fun _ => hk, fun _ => hk2, Ext0.ext⟩
  ·skip
   try simp only [↓nrmL, nrmZ, Nat.reduceEqDiff, ↓reduceIte, Nat.reduceAdd, Int.reduceBEq, Int.reduceBNe, hk2]
   refine Fo.pcall (v' := ?_) hn rfl (by simp only [↓nrmL, nrmZ, Nat.reduceEqDiff, ↓reduceIte, Nat.reduceAdd, Int.reduceBEq, Int.reduceBNe, hk2, List.map]; rfl) rfl ?hv fun _ _ => ?_; case hv => (simp only [↓nrmL, nrmZ, Nat.reduceEqDiff, ↓reduceIte, Nat.reduceAdd, Int.reduceBEq, Int.reduceBNe, hk2]; rfl)
   refine WpO.nil (hKF _ _ ?_)
   refine Wp.cond (b := true) rfl ?_
   refine sq ?_
   refine rg fun KF hKF => ?_
   refine mI rfl ?_
   refine mI rfl ?_
   refine WpO.nil (hKF _ _ ?_)
   refine Wp.ret ?_
   dsimp only [cond_true, cond_false]
   refine ⟨trivial, _, (by first | rfl | exact getAllC rfl rfl rfl rfl | exact getAllT rfl (getAllC rfl rfl rfl rfl) | exact getAllC rfl rfl rfl (getAllC rfl rfl rfl rfl) | exact getAllC1 rfl rfl rfl), ?_⟩
   exact ⟨by rw [hk, hk2]; rfl, Ext0.ext⟩
 ·obtain rfl : i = 0 := by omega
  have hc : decide (((0 + 1 + 1 : Nat) : Int) < ((2 : Nat) : Int)) = false := rfl
  have hk := h1 (by omega)
  have hk2 := h2 (by omega)
  try simp only [↓nrmL, nrmZ, Nat.reduceEqDiff, ↓reduceIte, Nat.reduceAdd, Int.reduceBEq, Int.reduceBNe, hc]
  refine sq ?_
  refine rg fun KF hKF => ?_
  refine Fo.bin rfl rfl rfl (by simp only [↓nrmL, nrmZ, Nat.reduceEqDiff, ↓reduceIte, Nat.reduceAdd, Int.reduceBEq, Int.reduceBNe, hc]; rfl) ?_
  refine WpO.nil (hKF _ _ ?_)
  refine sq ?_
  refine Wp.cond (b := false) rfl ?_
  refine Wp.exit ?_
  refine sq ?_
  refine rg fun KF hKF => ?_
  refine mI rfl ?_
  refine WpO.nil (hKF _ _ ?_)
  refine Wp.ret ?_
  dsimp only [cond_true, cond_false]
  refine ⟨trivial, _, (by first | rfl | exact getAllC rfl rfl rfl rfl | exact getAllT rfl (getAllC rfl rfl rfl rfl) | exact getAllC rfl rfl rfl (getAllC rfl rfl rfl rfl) | exact getAllC1 rfl rfl rfl), ?_⟩
  exact ⟨by rw [hk, hk2]; rfl, Ext0.ext⟩⟩

instance K_cff2 {s p q : AVal} {H : AHeap} {w h w' h' : Int} {sz k sz' k' : Nat} {cs cs' : List AVal} [hp : SliceAt H p sz k cs] [hq : SliceAt H q sz' k' cs'] [hs : SliceAt H s 3 2 [.int .i64 w, .int .i64 h, p, .int .i64 w', .int .i64 h', q]] : PureCon ext prog 92 [s, .func (.func 93) [] []] H 3 (.bool (decide ((k : Int) > 4000) || decide ((k' : Int) > 4000))) := ⟨by
 refine con_of (show prog 92 = some c92 from rfl) rfl rfl fun n hn => ?_
 haveI := hs.one
 refine sq ?_
 refine rg fun KF hKF => ?_
 refine mB rfl ?_
 refine WpO.nil (hKF _ _ ?_)
 refine sq ?_
 refine rg fun KF hKF => ?_
 refine Fo.mov (by simp only [↓nrmL, nrmK, Nat.reduceEqDiff, ↓reduceIte]; rfl) ?_
 refine mF rfl ?_
 refine Fo.pcall (v' := ?_) hn rfl (by simp only [↓nrmL, nrmZ, Nat.reduceEqDiff, ↓reduceIte, Nat.reduceAdd, Int.reduceBEq, Int.reduceBNe, List.map]; rfl) rfl ?hv fun _ _ => ?_; case hv => rfl
 refine Fo.bin rfl rfl rfl rfl ?_
 refine mB rfl ?_
 refine WpO.nil (hKF _ _ ?_)
 refine Wp.ret ?_
 dsimp only [cond_true, cond_false]
 refine ⟨trivial, _, (by first | rfl | exact getAllC rfl rfl rfl rfl | exact getAllT rfl (getAllC rfl rfl rfl rfl) | exact getAllC rfl rfl rfl (getAllC rfl rfl rfl rfl) | exact getAllC1 rfl rfl rfl), ?_⟩
 refine ⟨?_, Ext0.ext⟩
 cases decide ((k : Int) > 4000) <;> cases decide ((k' : Int) > 4000) <;> rfl⟩
instance K_Few2 {s p q : AVal} {H : AHeap} {w h w' h' : Int} {sz k sz' k' : Nat} {cs cs' : List AVal} [hp : SliceAt H p sz k cs] [hq : SliceAt H q sz' k' cs'] [hs : SliceAt H s 3 2 [.int .i64 w, .int .i64 h, p, .int .i64 w', .int .i64 h', q]] : PureCon ext prog 18 [s] H 4 (.bool (!(decide ((k : Int) > 4000) || decide ((k' : Int) > 4000)))) := ⟨by
 refine con_of (show prog 18 = some c18 from rfl) rfl rfl fun n hn => ?_
 haveI := hs.one
 refine sq ?_
 refine rg fun KF hKF => ?_
 refine mB rfl ?_
 refine WpO.nil (hKF _ _ ?_)
 refine sq ?_
 refine rg fun KF hKF => ?_
 refine Fo.mov (by simp only [↓nrmL, nrmK, Nat.reduceEqDiff, ↓reduceIte]; rfl) ?_
 refine Fo.pcall (v' := ?_) hn rfl (by simp only [↓nrmL, nrmZ, Nat.reduceEqDiff, ↓reduceIte, Nat.reduceAdd, Int.reduceBEq, Int.reduceBNe, List.map]; rfl) rfl ?hv fun _ _ => ?_; case hv => rfl
 refine Fo.now rfl rfl rfl ?_
 refine mB rfl ?_
 refine WpO.nil (hKF _ _ ?_)
 refine Wp.ret ?_
 dsimp only [cond_true, cond_false]
 refine ⟨trivial, _, (by first | rfl | exact getAllC rfl rfl rfl rfl | exact getAllT rfl (getAllC rfl rfl rfl rfl) | exact getAllC rfl rfl rfl (getAllC rfl rfl rfl rfl) | exact getAllC1 rfl rfl rfl), ?_⟩
 exact ⟨rfl, Ext0.ext⟩⟩
end Go.Am

set_option maxHeartbeats 4000000
set_option maxRecDepth 100000
namespace Go.Am
open Go
attribute [local irreducible] Wp WpO WpX WpE

/-- The package-level table. -/
abbrev aroundCs : List AVal := [.int .i64 0, .int .i64 (-1), .int .i64 1, .int .i64 (-1), .int .i64 1, .int .i64 0, .int .i64 1, .int .i64 1, .int .i64 0, .int .i64 1, .int .i64 (-1), .int .i64 1, .int .i64 (-1), .int .i64 0, .int .i64 (-1), .int .i64 (-1)]
/-- It is there. -/
class Tabs (H : AHeap) : Prop where
 it : tablesIn aroundT H = true
theorem tabs_iff {H : AHeap} : tablesIn aroundT H = true ↔ 0 < H.n ∧ ∃ rw e, H.get 0 = .row aroundCs rw e := by
 simp only [tablesIn, aroundT, List.all_cons, List.all_nil, Bool.and_true, Bool.and_eq_true]
 constructor
 ·rintro ⟨h1, h2⟩
  refine ⟨by simpa using h1, ?_⟩
  cases hg : H.get 0 with
  | row cs rw e => rw [hg] at h2; exact ⟨rw, e, by rw [abeqL_eq h2]⟩
  | _ => rw [hg] at h2; cases h2
 ·rintro ⟨h1, rw, e, hg⟩
  exact ⟨by simpa using h1, by rw [hg]; exact abeqL_refl _⟩
theorem Tabs.keep {H H' : AHeap} (h : Tabs H) (hn : H.n ≤ H'.n) (hg : H'.get 0 = H.get 0) : Tabs H' := by
 obtain ⟨h1, rw, e, h2⟩ := tabs_iff.1 h.it
 exact ⟨tabs_iff.2 ⟨by omega, rw, e, by rw [hg]; exact h2⟩⟩
theorem Tabs.lt {H : AHeap} (h : Tabs H) : 0 < H.n := (tabs_iff.1 h.it).1
theorem Tabs.ext {H H' : AHeap} (h : Tabs H) (x : Ext H H') : Tabs H' := h.keep x.n (x.get 0 h.lt)
class NeZ (s : Nat) : Prop where
 ne : s ≠ 0
instance {K : AHeap} [h : Tabs K] : NeZ K.n := ⟨by have := h.lt; omega⟩
instance {K : AHeap} {s : Nat} [g : GeN K s] [h : Tabs K] : NeZ s := ⟨by have := h.lt; have := g.ge; omega⟩
instance {H H' : AHeap} [x : ExtI H H'] [h : Tabs H] : Tabs H' := h.ext x.ext
instance {H : AHeap} {o : AObj} [h : Tabs H] : Tabs (H.push o) := h.ext ((Ext.refl H).push o)
instance {H : AHeap} {s : Nat} {o : AObj} [h : Tabs H] [z : NeZ s] : Tabs (H.set s o) := h.keep (Nat.le_refl _) (set_get_ne (fun e => z.ne e.symm))
instance {K H H' : AHeap} {p : AVal} [x : ExtP H H' p] [h : Tabs H] [f : FreshS K p] [k : Tabs K] : Tabs H' := h.keep x.n (x.get 0 h.lt ⟨fun r _ _ _ _ e => by have := f.ge _ _ _ _ _ e; have := k.lt; omega⟩)
theorem aClosed_nil {T : List (Nat × List AVal)} {v : AVal} {H : AHeap} (h : tablesIn T H = true) : aClosed T v [] H = some (v, H) := by
 show (match tablesIn T H with | true => some (v, H) | false => none) = some (v, H)
 rw [h]
instance K_awake {H : AHeap} [h : Tabs H] : PureCon ext prog 19 [] H 0 (.bool true) := ⟨fun n hn => by
 obtain ⟨k, rfl⟩ : ∃ k, n = k + 1 := ⟨n - 1, by unfold fuel0 at hn; omega⟩
 have e1 : prog 19 = some ⟨0, .ext 3, []⟩ := rfl
 refine ⟨.bool true, H, ?_, rfl, Ext.refl H⟩
 rw [call_ext e1]
 exact aClosed_nil h.it⟩

end Go.Am

set_option maxHeartbeats 8000000
set_option maxRecDepth 100000
set_option synthInstance.maxHeartbeats 4000000
set_option synthInstance.maxSize 100000
namespace Go.Am
open Go
attribute [local irreducible] Wp WpO WpX WpE

instance {H : AHeap} {r : Nat} {a b c d e f : AVal} {rw : Bool} {ty : TypeId} [h : HasRow H r [a, b, c, d, e, f] rw ty] : SliceAt H (.slice r 0 2 (some 2) 3) 3 2 [a, b, c, d, e, f] := ⟨Or.inr ⟨r, 0, some 2, _, rw, ty, rfl, h.lt, h.get, by simp, rfl, Nat.le_refl _⟩⟩
theorem crop_short {w h x y u v : Int} {l : List UInt8} (hl : l.length ≤ 4000) : (cropSpec ⟨w, h, l⟩ x y u v).1.px.length ≤ 999999 := by
 unfold cropSpec
 cases h0 : (Img.err ⟨w, h, l⟩ == 0)
 ·simp [Img.zero]
 ·cases h1 : (withinB x u w && withinB y v h)
  ·simp [Img.zero]
  ·obtain ⟨a, b, rfl, rfl, ok⟩ := ok_of h0
   have h2 := h1
   rw [Bool.and_eq_true] at h2
   obtain ⟨x, u, rfl, rfl, hxu⟩ := within_nat ok.wa h2.1
   obtain ⟨y, v, rfl, rfl, hyv⟩ := within_nat ok.hb h2.2
   have hm : u * v ≤ 640 * 640 := Nat.mul_le_mul (by have := ok.wa; omega) (by have := ok.hb; omega)
   simp only [cond_true, cropL, Int.toNat_natCast, List.length_map, List.length_range]
   omega
theorem paste_short {w h w2 h2 x y : Int} {l m : List UInt8} (hl : l.length ≤ 4000) : (pasteSpec ⟨w, h, l⟩ ⟨w2, h2, m⟩ x y).1.px.length ≤ 999999 := by
 unfold pasteSpec
 cases h0 : (Img.err ⟨w, h, l⟩ == 0)
 ·simp [Img.zero]
 ·cases h02 : (Img.err ⟨w2, h2, m⟩ == 0)
  ·simp [Img.zero]
  ·simp only [cond_true]
   cases h1 : (withinB x w2 w && withinB y h2 h)
   ·simp [Img.zero]
   ·obtain ⟨a, b, rfl, rfl, ok⟩ := ok_of h0
    have := ok.len
    simp only [cond_true, Int.toNat_natCast, List.length_map, List.length_range]
    omega
theorem comb_short {op : UInt8 → UInt8 → UInt8} {w h w2 h2 : Int} {l m : List UInt8} (hl : l.length ≤ 4000) : (combSpec op ⟨w, h, l⟩ ⟨w2, h2, m⟩).1.px.length ≤ 999999 := by
 unfold combSpec
 cases h0 : (Img.err ⟨w, h, l⟩ == 0)
 ·simp [Img.zero]
 ·cases h1 : (Img.err ⟨w2, h2, m⟩ == 0)
  ·simp [Img.zero]
  ·simp only [cond_true]
   cases h2 : (w == w2 && h == h2)
   ·simp [Img.zero]
   ·simp only [cond_true, List.length_zipWith]; omega
theorem turn_short {w h way : Int} {l : List UInt8} (hl : l.length ≤ 4000) : (turnSpec ⟨w, h, l⟩ way).1.px.length ≤ 999999 := by
 unfold turnSpec
 cases h0 : (Img.err ⟨w, h, l⟩ == 0)
 ·simp [Img.zero]
 ·simp only [cond_true]
  split
  ·simp [Img.zero]
  ·obtain ⟨a, b, rfl, rfl, ok⟩ := ok_of h0
   have h1 := (ok_turn (way := way.toNat) ok).short
   simp only [toImg, Int.toNat_natCast]
   omega

class Short4 (l : List UInt8) : Prop where
 le : l.length ≤ 4000

instance K_parts {w h w2 h2 x y u v way : Int} {p q : AVal} {H : AHeap} {l m : List UInt8} [hp : BytesI H p l] [hq : BytesI H q m] [hs1 : Short4 l] [hs2 : Short4 m] : PureCon ext prog 37 [.agg [.int .i64 w, .int .i64 h, p], .agg [.int .i64 w2, .int .i64 h2, q], .agg [.int .i64 x, .int .i64 y, .int .i64 u, .int .i64 v], .int .i64 way] H 8 (.bool true) := ⟨by
 refine con_of (show prog 37 = some c37 from rfl) rfl rfl fun n hn => ?_
 haveI := hp.one
 haveI := hq.one
 have hl4 := hs1.le
 have hm4 := hs2.le
 haveI : Short l := ⟨by omega⟩
 haveI : Short m := ⟨by omega⟩
 refine sq ?_
 refine rg fun KF hKF => ?_
 refine Fo.boxA rfl ?_
 refine Fo.boxA rfl ?_
 refine Fo.boxA rfl ?_
 refine mB rfl ?_
 refine WpO.nil (hKF _ _ ?_)
 refine sq ?_
 dsimp only [cond_true, cond_false]
 refine Fr.dregionE [.row [.int .i64 0, .int .i64 0, .nslice] true (2 * 24), .row [.int .i64 0, .int .i64 0, .nslice] true (2 * 24)] ?_ fun KF hKF => ?_
 ·skip
  refine oracle_pre rfl rfl rfl (exec_ldN rfl rfl rfl) ?_; (try simp only [↓nrmL, nrmZ, Nat.reduceEqDiff, ↓reduceIte, Nat.reduceAdd, Int.reduceBEq, Int.reduceBNe])
  refine oracle_not rfl rfl ?_; (try simp only [↓nrmL, nrmZ, Nat.reduceEqDiff, ↓reduceIte, Nat.reduceAdd, Int.reduceBEq, Int.reduceBNe])
  refine oracle_pre rfl rfl rfl (exec_ldN rfl rfl rfl) ?_; (try simp only [↓nrmL, nrmZ, Nat.reduceEqDiff, ↓reduceIte, Nat.reduceAdd, Int.reduceBEq, Int.reduceBNe])
  refine oracle_not rfl rfl ?_; (try simp only [↓nrmL, nrmZ, Nat.reduceEqDiff, ↓reduceIte, Nat.reduceAdd, Int.reduceBEq, Int.reduceBNe])
  refine oracle_made rfl rfl rfl ?_; (try simp only [↓nrmL, nrmZ, Nat.reduceEqDiff, ↓reduceIte, Nat.reduceAdd, Int.reduceBEq, Int.reduceBNe])
  refine oracle_made rfl rfl rfl ?_; (try simp only [↓nrmL, nrmZ, Nat.reduceEqDiff, ↓reduceIte, Nat.reduceAdd, Int.reduceBEq, Int.reduceBNe])
  exact oracle_none _ _ _ _ rfl
 simp only [pushAll]
 refine Fe.read rfl (exec_ldN rfl rfl (by simp only [↓nrmL, nrmZ, Nat.reduceEqDiff, ↓reduceIte, Nat.reduceAdd, Int.reduceBEq, Int.reduceBNe]; rfl)) rfl (by repeat (first | exact trivial | refine ⟨(by first | exact Or.inl (by dsimp only; decide) | exact Or.inr (exec_ld rfl rfl) | exact Or.inr (exec_ldN rfl rfl rfl) | exact Or.inr (exec_ldB rfl (by omega)) | exact Or.inr (exec_ldI rfl (by omega)) | exact Or.inr ghost_of), ?_⟩)) ?_
 refine Fe.con rfl hn rfl rfl (by simp only [↓nrmL, nrmZ, Nat.reduceEqDiff, ↓reduceIte, Nat.reduceAdd, Int.reduceBEq, Int.reduceBNe, List.map] <;> rfl) (K_CopyInk (l := l) (by omega)) fun v H1 h5 => ?_
 obtain ⟨a, e1, ha, hfa, hwa, hxa⟩ := h5
 subst e1
 have ha : BytesI H1 a l := ha
 haveI : ExtI _ H1 := ⟨hxa⟩
 haveI := ha.one
 refine ⟨(by repeat (first | exact trivial | refine ⟨(by first | exact Or.inl (by dsimp only; decide) | exact Or.inr (readOk_of (exec_ld rfl rfl)) | exact Or.inr (readOk_of (exec_ldN rfl rfl rfl)) | exact Or.inr (readOk_of (exec_ldB rfl (by omega))) | exact Or.inr (readOk_of (exec_ldI rfl (by omega))) | exact Or.inr (made_of rfl)), ?_⟩)), ?_⟩
 refine Fe.read rfl (exec_ldN rfl rfl (by simp only [↓nrmL, nrmZ, Nat.reduceEqDiff, ↓reduceIte, Nat.reduceAdd, Int.reduceBEq, Int.reduceBNe]; rfl)) rfl (by repeat (first | exact trivial | refine ⟨(by first | exact Or.inl (by dsimp only; decide) | exact Or.inr (exec_ld rfl rfl) | exact Or.inr (exec_ldN rfl rfl rfl) | exact Or.inr (exec_ldB rfl (by omega)) | exact Or.inr (exec_ldI rfl (by omega)) | exact Or.inr ghost_of), ?_⟩)) ?_
 refine Fe.con rfl hn rfl rfl (by simp only [↓nrmL, nrmZ, Nat.reduceEqDiff, ↓reduceIte, Nat.reduceAdd, Int.reduceBEq, Int.reduceBNe, List.map] <;> rfl) (K_CopyInk (l := m) (by omega)) fun v H2 h5 => ?_
 obtain ⟨b, e1, hb, hfb, hwb, hxb⟩ := h5
 subst e1
 have hb : BytesI H2 b m := hb
 haveI : ExtI _ H2 := ⟨hxb⟩
 haveI := hb.one
 refine ⟨(by repeat (first | exact trivial | refine ⟨(by first | exact Or.inl (by dsimp only; decide) | exact Or.inr (readOk_of (exec_ld rfl rfl)) | exact Or.inr (readOk_of (exec_ldN rfl rfl rfl)) | exact Or.inr (readOk_of (exec_ldB rfl (by omega))) | exact Or.inr (readOk_of (exec_ldI rfl (by omega))) | exact Or.inr (made_of rfl)), ?_⟩)), ?_⟩
 refine Fe.made rfl rfl ghost_of (by repeat (first | exact trivial | refine ⟨(by first | exact Or.inl (by dsimp only; decide) | exact Or.inr (exec_ld rfl rfl) | exact Or.inr (exec_ldN rfl rfl rfl) | exact Or.inr (exec_ldB rfl (by omega)) | exact Or.inr (exec_ldI rfl (by omega)) | exact Or.inr ghost_of), ?_⟩)) rfl ?_
 change WpE _ _ (AHeap.n (AHeap.push _ (.row [.int .i64 0, .int .i64 0, .nslice] true (2 * 24)))) _ _ _ _ _ _ _
 refine Fe.made rfl rfl ghost_of (by repeat (first | exact trivial | refine ⟨(by first | exact Or.inl (by dsimp only; decide) | exact Or.inr (exec_ld rfl rfl) | exact Or.inr (exec_ldN rfl rfl rfl) | exact Or.inr (exec_ldB rfl (by omega)) | exact Or.inr (exec_ldI rfl (by omega)) | exact Or.inr ghost_of), ?_⟩)) rfl ?_
 refine Fe.effect0 rfl (exec_st rfl (by (try simp only [↓nrmL, nrmZ, Nat.reduceEqDiff, ↓reduceIte, Nat.reduceAdd, Int.reduceBEq, Int.reduceBNe]); rfl) rfl rfl rfl (by repeat (first | rfl | refine allOne_cons ?_)) (by (try simp only [↓nrmL, nrmZ, Nat.reduceEqDiff, ↓reduceIte, Nat.reduceAdd, Int.reduceBEq, Int.reduceBNe]); rfl)) (by repeat (first | exact trivial | refine ⟨(by first | exact Or.inl (by dsimp only; decide) | exact Or.inr (readOk_of (exec_ld rfl rfl)) | exact Or.inr (readOk_of (exec_ldN rfl rfl rfl)) | exact Or.inr (readOk_of (exec_ldB rfl (by omega))) | exact Or.inr (readOk_of (exec_ldI rfl (by omega))) | exact Or.inr (made_of rfl)), ?_⟩)) ?_
 refine Fe.effect0 rfl (exec_st rfl (by (try simp only [↓nrmL, nrmZ, Nat.reduceEqDiff, ↓reduceIte, Nat.reduceAdd, Int.reduceBEq, Int.reduceBNe]); rfl) rfl rfl rfl (by repeat (first | rfl | refine allOne_cons ?_)) (by (try simp only [↓nrmL, nrmZ, Nat.reduceEqDiff, ↓reduceIte, Nat.reduceAdd, Int.reduceBEq, Int.reduceBNe]); rfl)) (by repeat (first | exact trivial | refine ⟨(by first | exact Or.inl (by dsimp only; decide) | exact Or.inr (readOk_of (exec_ld rfl rfl)) | exact Or.inr (readOk_of (exec_ldN rfl rfl rfl)) | exact Or.inr (readOk_of (exec_ldB rfl (by omega))) | exact Or.inr (readOk_of (exec_ldI rfl (by omega))) | exact Or.inr (made_of rfl)), ?_⟩)) ?_
 refine WpE.nil (hKF _ _ ?_)
 refine sq ?_
 refine rg fun KF hKF => ?_
 refine Fo.ldN rfl rfl (by simp only [↓nrmL, nrmZ, Nat.reduceEqDiff, ↓reduceIte, Nat.reduceAdd, Int.reduceBEq, Int.reduceBNe]; rfl) ?_
 refine Fo.ldN rfl rfl (by simp only [↓nrmL, nrmZ, Nat.reduceEqDiff, ↓reduceIte, Nat.reduceAdd, Int.reduceBEq, Int.reduceBNe]; rfl) ?_
 dsimp only [cond_true, cond_false]
 refine WpO.do (WpX.conD hn rfl rfl (by simp only [↓nrmL, nrmZ, Nat.reduceEqDiff, ↓reduceIte, Nat.reduceAdd, Int.reduceBEq, Int.reduceBNe, List.map] <;> rfl) (K_Crop (l := l)) fun v H3 h5 => ?_)
 obtain ⟨u, e1, c1, e2, hc1, hfc1, hwc1, hxc1⟩ := h5
 subst e1 e2
 try dsimp only at hc1
 haveI : ExtI _ H3 := ⟨hxc1⟩
 haveI := hc1.one
 refine mT rfl ?_
 refine Fo.extr rfl rfl ?_
 refine Fo.extr rfl rfl ?_
 refine Fo.new ?_
 refine Fo.st rfl (rfl : _ = AVal.agg _) rfl rfl rfl (by repeat (first | rfl | refine allOne_cons ?_)) (by simp only [↓nrmL, nrmZ, Nat.reduceEqDiff, ↓reduceIte, Nat.reduceAdd, Int.reduceBEq, Int.reduceBNe]; rfl) ?_
 refine mI rfl ?_
 refine WpO.nil (hKF _ _ ?_)
 refine sq ?_
 refine rg fun KF hKF => ?_
 refine Fo.ldN rfl rfl (by simp only [↓nrmL, nrmZ, Nat.reduceEqDiff, ↓reduceIte, Nat.reduceAdd, Int.reduceBEq, Int.reduceBNe]; rfl) ?_
 refine Fo.ldN rfl rfl (by simp only [↓nrmL, nrmZ, Nat.reduceEqDiff, ↓reduceIte, Nat.reduceAdd, Int.reduceBEq, Int.reduceBNe]; rfl) ?_
 refine WpO.do (WpX.conD hn rfl rfl (by simp only [↓nrmL, nrmZ, Nat.reduceEqDiff, ↓reduceIte, Nat.reduceAdd, Int.reduceBEq, Int.reduceBNe, List.map] <;> rfl) (K_refCrop (l := l)) fun v H4 h5 => ?_)
 obtain ⟨u, e1, d1, e2, hd1, hfd1, hwd1, hxd1⟩ := h5
 subst e1 e2
 try dsimp only at hd1
 haveI : ExtI _ H4 := ⟨hxd1⟩
 haveI := hd1.one
 refine mT rfl ?_
 refine Fo.extr rfl rfl ?_
 refine Fo.extr rfl rfl ?_
 refine Fo.new ?_
 refine Fo.st rfl (rfl : _ = AVal.agg _) rfl rfl rfl (by repeat (first | rfl | refine allOne_cons ?_)) (by simp only [↓nrmL, nrmZ, Nat.reduceEqDiff, ↓reduceIte, Nat.reduceAdd, Int.reduceBEq, Int.reduceBNe]; rfl) ?_
 refine mI rfl ?_
 refine WpO.nil (hKF _ _ ?_)
 refine sq ?_
 refine rg fun KF hKF => ?_
 refine Fo.ldN rfl rfl (by simp only [↓nrmL, nrmZ, Nat.reduceEqDiff, ↓reduceIte, Nat.reduceAdd, Int.reduceBEq, Int.reduceBNe]; rfl) ?_
 refine Fo.ldN rfl rfl (by simp only [↓nrmL, nrmZ, Nat.reduceEqDiff, ↓reduceIte, Nat.reduceAdd, Int.reduceBEq, Int.reduceBNe]; rfl) ?_
 refine Fo.fa rfl ?_
 refine Fo.ld rfl rfl ?_
 refine Fo.fa rfl ?_
 refine Fo.ld rfl rfl ?_
 refine WpO.do (WpX.conD hn rfl rfl (by simp only [↓nrmL, nrmZ, Nat.reduceEqDiff, ↓reduceIte, Nat.reduceAdd, Int.reduceBEq, Int.reduceBNe, List.map] <;> rfl) (K_Paste (l := l) (m := m)) fun v H5 h5 => ?_)
 obtain ⟨u, e1, c2, e2, hc2, hfc2, hwc2, hxc2⟩ := h5
 subst e1 e2
 try dsimp only at hc2
 haveI : ExtI _ H5 := ⟨hxc2⟩
 haveI := hc2.one
 refine mT rfl ?_
 refine Fo.extr rfl rfl ?_
 refine Fo.extr rfl rfl ?_
 refine Fo.new ?_
 refine Fo.st rfl (rfl : _ = AVal.agg _) rfl rfl rfl (by repeat (first | rfl | refine allOne_cons ?_)) (by simp only [↓nrmL, nrmZ, Nat.reduceEqDiff, ↓reduceIte, Nat.reduceAdd, Int.reduceBEq, Int.reduceBNe]; rfl) ?_
 refine mI rfl ?_
 refine WpO.nil (hKF _ _ ?_)
 refine sq ?_
 refine rg fun KF hKF => ?_
 refine Fo.ldN rfl rfl (by simp only [↓nrmL, nrmZ, Nat.reduceEqDiff, ↓reduceIte, Nat.reduceAdd, Int.reduceBEq, Int.reduceBNe]; rfl) ?_
 refine Fo.ldN rfl rfl (by simp only [↓nrmL, nrmZ, Nat.reduceEqDiff, ↓reduceIte, Nat.reduceAdd, Int.reduceBEq, Int.reduceBNe]; rfl) ?_
 refine Fo.fa rfl ?_
 refine Fo.ld rfl rfl ?_
 refine Fo.fa rfl ?_
 refine Fo.ld rfl rfl ?_
 refine WpO.do (WpX.conD hn rfl rfl (by simp only [↓nrmL, nrmZ, Nat.reduceEqDiff, ↓reduceIte, Nat.reduceAdd, Int.reduceBEq, Int.reduceBNe, List.map] <;> rfl) (K_refPaste (l := l) (m := m)) fun v H6 h5 => ?_)
 obtain ⟨u, e1, d2, e2, hd2, hfd2, hwd2, hxd2⟩ := h5
 subst e1 e2
 try dsimp only at hd2
 haveI : ExtI _ H6 := ⟨hxd2⟩
 haveI := hd2.one
 haveI : BytesI H6 p l := inferInstance
 haveI : BytesI H6 q m := inferInstance
 haveI : BytesI H6 a l := inferInstance
 haveI : BytesI H6 b m := inferInstance
 haveI : Ext0 H H6 := inferInstance
 haveI : HasRow H6 H.n [.int .i64 w, .int .i64 h, p] true (2 * 24) := inferInstance
 haveI : HasRow H6 (H.push (.row [.int .i64 w, .int .i64 h, p] true (2 * 24))).n [.int .i64 w2, .int .i64 h2, q] true (2 * 24) := inferInstance
 refine mT rfl ?_
 refine Fo.extr rfl rfl ?_
 refine Fo.extr rfl rfl ?_
 refine Fo.new ?_
 refine Fo.st rfl (rfl : _ = AVal.agg _) rfl rfl rfl (by repeat (first | rfl | refine allOne_cons ?_)) (by simp only [↓nrmL, nrmZ, Nat.reduceEqDiff, ↓reduceIte, Nat.reduceAdd, Int.reduceBEq, Int.reduceBNe]; rfl) ?_
 refine mI rfl ?_
 refine WpO.nil (hKF _ _ ?_)
 refine sq ?_
 refine rg fun KF hKF => ?_
 refine Fo.ldN rfl rfl (by simp only [↓nrmL, nrmZ, Nat.reduceEqDiff, ↓reduceIte, Nat.reduceAdd, Int.reduceBEq, Int.reduceBNe]; rfl) ?_
 refine Fo.ldN rfl rfl (by simp only [↓nrmL, nrmZ, Nat.reduceEqDiff, ↓reduceIte, Nat.reduceAdd, Int.reduceBEq, Int.reduceBNe]; rfl) ?_
 refine WpO.do (WpX.conD hn rfl rfl (by simp only [↓nrmL, nrmZ, Nat.reduceEqDiff, ↓reduceIte, Nat.reduceAdd, Int.reduceBEq, Int.reduceBNe, List.map] <;> rfl) (K_Or (l := l) (m := m)) fun v H7 h5 => ?_)
 obtain ⟨u, e1, c3, e2, hc3, hfc3, hwc3, hxc3⟩ := h5
 subst e1 e2
 try dsimp only at hc3
 haveI : ExtI _ H7 := ⟨hxc3⟩
 haveI := hc3.one
 refine mT rfl ?_
 refine Fo.extr rfl rfl ?_
 refine Fo.extr rfl rfl ?_
 refine Fo.new ?_
 refine Fo.st rfl (rfl : _ = AVal.agg _) rfl rfl rfl (by repeat (first | rfl | refine allOne_cons ?_)) (by simp only [↓nrmL, nrmZ, Nat.reduceEqDiff, ↓reduceIte, Nat.reduceAdd, Int.reduceBEq, Int.reduceBNe]; rfl) ?_
 refine mI rfl ?_
 refine WpO.nil (hKF _ _ ?_)
 refine sq ?_
 refine rg fun KF hKF => ?_
 refine Fo.ldN rfl rfl (by simp only [↓nrmL, nrmZ, Nat.reduceEqDiff, ↓reduceIte, Nat.reduceAdd, Int.reduceBEq, Int.reduceBNe]; rfl) ?_
 refine Fo.ldN rfl rfl (by simp only [↓nrmL, nrmZ, Nat.reduceEqDiff, ↓reduceIte, Nat.reduceAdd, Int.reduceBEq, Int.reduceBNe]; rfl) ?_
 refine WpO.do (WpX.conD hn rfl rfl (by simp only [↓nrmL, nrmZ, Nat.reduceEqDiff, ↓reduceIte, Nat.reduceAdd, Int.reduceBEq, Int.reduceBNe, List.map] <;> rfl) (K_refPair0 (l := l) (m := m)) fun v H8 h5 => ?_)
 obtain ⟨u, e1, d3, e2, hd3, hfd3, hwd3, hxd3⟩ := h5
 subst e1 e2
 try dsimp only at hd3
 haveI : ExtI _ H8 := ⟨hxd3⟩
 haveI := hd3.one
 refine mT rfl ?_
 refine Fo.extr rfl rfl ?_
 refine Fo.extr rfl rfl ?_
 refine Fo.new ?_
 refine Fo.st rfl (rfl : _ = AVal.agg _) rfl rfl rfl (by repeat (first | rfl | refine allOne_cons ?_)) (by simp only [↓nrmL, nrmZ, Nat.reduceEqDiff, ↓reduceIte, Nat.reduceAdd, Int.reduceBEq, Int.reduceBNe]; rfl) ?_
 refine mI rfl ?_
 refine WpO.nil (hKF _ _ ?_)
 refine sq ?_
 refine rg fun KF hKF => ?_
 refine Fo.ldN rfl rfl (by simp only [↓nrmL, nrmZ, Nat.reduceEqDiff, ↓reduceIte, Nat.reduceAdd, Int.reduceBEq, Int.reduceBNe]; rfl) ?_
 refine Fo.ldN rfl rfl (by simp only [↓nrmL, nrmZ, Nat.reduceEqDiff, ↓reduceIte, Nat.reduceAdd, Int.reduceBEq, Int.reduceBNe]; rfl) ?_
 refine WpO.do (WpX.conD hn rfl rfl (by simp only [↓nrmL, nrmZ, Nat.reduceEqDiff, ↓reduceIte, Nat.reduceAdd, Int.reduceBEq, Int.reduceBNe, List.map] <;> rfl) (K_And (l := l) (m := m)) fun v H9 h5 => ?_)
 obtain ⟨u, e1, c4, e2, hc4, hfc4, hwc4, hxc4⟩ := h5
 subst e1 e2
 try dsimp only at hc4
 haveI : ExtI _ H9 := ⟨hxc4⟩
 haveI := hc4.one
 refine mT rfl ?_
 refine Fo.extr rfl rfl ?_
 refine Fo.extr rfl rfl ?_
 refine Fo.new ?_
 refine Fo.st rfl (rfl : _ = AVal.agg _) rfl rfl rfl (by repeat (first | rfl | refine allOne_cons ?_)) (by simp only [↓nrmL, nrmZ, Nat.reduceEqDiff, ↓reduceIte, Nat.reduceAdd, Int.reduceBEq, Int.reduceBNe]; rfl) ?_
 refine mI rfl ?_
 refine WpO.nil (hKF _ _ ?_)
 refine sq ?_
 refine rg fun KF hKF => ?_
 refine Fo.ldN rfl rfl (by simp only [↓nrmL, nrmZ, Nat.reduceEqDiff, ↓reduceIte, Nat.reduceAdd, Int.reduceBEq, Int.reduceBNe]; rfl) ?_
 refine Fo.ldN rfl rfl (by simp only [↓nrmL, nrmZ, Nat.reduceEqDiff, ↓reduceIte, Nat.reduceAdd, Int.reduceBEq, Int.reduceBNe]; rfl) ?_
 refine WpO.do (WpX.conD hn rfl rfl (by simp only [↓nrmL, nrmZ, Nat.reduceEqDiff, ↓reduceIte, Nat.reduceAdd, Int.reduceBEq, Int.reduceBNe, List.map] <;> rfl) (K_refPair1 (l := l) (m := m)) fun v H10 h5 => ?_)
 obtain ⟨u, e1, d4, e2, hd4, hfd4, hwd4, hxd4⟩ := h5
 subst e1 e2
 try dsimp only at hd4
 haveI : ExtI _ H10 := ⟨hxd4⟩
 haveI := hd4.one
 haveI : BytesI H10 p l := inferInstance
 haveI : BytesI H10 q m := inferInstance
 haveI : BytesI H10 a l := inferInstance
 haveI : BytesI H10 b m := inferInstance
 haveI : Ext0 H H10 := inferInstance
 haveI : HasRow H10 H.n [.int .i64 w, .int .i64 h, p] true (2 * 24) := inferInstance
 haveI : HasRow H10 (H.push (.row [.int .i64 w, .int .i64 h, p] true (2 * 24))).n [.int .i64 w2, .int .i64 h2, q] true (2 * 24) := inferInstance
 refine mT rfl ?_
 refine Fo.extr rfl rfl ?_
 refine Fo.extr rfl rfl ?_
 refine Fo.new ?_
 refine Fo.st rfl (rfl : _ = AVal.agg _) rfl rfl rfl (by repeat (first | rfl | refine allOne_cons ?_)) (by simp only [↓nrmL, nrmZ, Nat.reduceEqDiff, ↓reduceIte, Nat.reduceAdd, Int.reduceBEq, Int.reduceBNe]; rfl) ?_
 refine mI rfl ?_
 refine WpO.nil (hKF _ _ ?_)
 refine sq ?_
 refine rg fun KF hKF => ?_
 refine Fo.ldN rfl rfl (by simp only [↓nrmL, nrmZ, Nat.reduceEqDiff, ↓reduceIte, Nat.reduceAdd, Int.reduceBEq, Int.reduceBNe]; rfl) ?_
 refine Fo.ldN rfl rfl (by simp only [↓nrmL, nrmZ, Nat.reduceEqDiff, ↓reduceIte, Nat.reduceAdd, Int.reduceBEq, Int.reduceBNe]; rfl) ?_
 refine WpO.do (WpX.conD hn rfl rfl (by simp only [↓nrmL, nrmZ, Nat.reduceEqDiff, ↓reduceIte, Nat.reduceAdd, Int.reduceBEq, Int.reduceBNe, List.map] <;> rfl) (K_Less (l := l) (m := m)) fun v H11 h5 => ?_)
 obtain ⟨u, e1, c5, e2, hc5, hfc5, hwc5, hxc5⟩ := h5
 subst e1 e2
 try dsimp only at hc5
 haveI : ExtI _ H11 := ⟨hxc5⟩
 haveI := hc5.one
 refine mT rfl ?_
 refine Fo.extr rfl rfl ?_
 refine Fo.extr rfl rfl ?_
 refine Fo.new ?_
 refine Fo.st rfl (rfl : _ = AVal.agg _) rfl rfl rfl (by repeat (first | rfl | refine allOne_cons ?_)) (by simp only [↓nrmL, nrmZ, Nat.reduceEqDiff, ↓reduceIte, Nat.reduceAdd, Int.reduceBEq, Int.reduceBNe]; rfl) ?_
 refine mI rfl ?_
 refine WpO.nil (hKF _ _ ?_)
 refine sq ?_
 refine rg fun KF hKF => ?_
 refine Fo.ldN rfl rfl (by simp only [↓nrmL, nrmZ, Nat.reduceEqDiff, ↓reduceIte, Nat.reduceAdd, Int.reduceBEq, Int.reduceBNe]; rfl) ?_
 refine Fo.ldN rfl rfl (by simp only [↓nrmL, nrmZ, Nat.reduceEqDiff, ↓reduceIte, Nat.reduceAdd, Int.reduceBEq, Int.reduceBNe]; rfl) ?_
 refine WpO.do (WpX.conD hn rfl rfl (by simp only [↓nrmL, nrmZ, Nat.reduceEqDiff, ↓reduceIte, Nat.reduceAdd, Int.reduceBEq, Int.reduceBNe, List.map] <;> rfl) (K_refPair2 (l := l) (m := m)) fun v H12 h5 => ?_)
 obtain ⟨u, e1, d5, e2, hd5, hfd5, hwd5, hxd5⟩ := h5
 subst e1 e2
 try dsimp only at hd5
 haveI : ExtI _ H12 := ⟨hxd5⟩
 haveI := hd5.one
 refine mT rfl ?_
 refine Fo.extr rfl rfl ?_
 refine Fo.extr rfl rfl ?_
 refine Fo.new ?_
 refine Fo.st rfl (rfl : _ = AVal.agg _) rfl rfl rfl (by repeat (first | rfl | refine allOne_cons ?_)) (by simp only [↓nrmL, nrmZ, Nat.reduceEqDiff, ↓reduceIte, Nat.reduceAdd, Int.reduceBEq, Int.reduceBNe]; rfl) ?_
 refine mI rfl ?_
 refine WpO.nil (hKF _ _ ?_)
 refine sq ?_
 refine rg fun KF hKF => ?_
 refine Fo.ldN rfl rfl (by simp only [↓nrmL, nrmZ, Nat.reduceEqDiff, ↓reduceIte, Nat.reduceAdd, Int.reduceBEq, Int.reduceBNe]; rfl) ?_
 refine mI rfl ?_
 refine WpO.do (WpX.conD hn rfl rfl (by simp only [↓nrmL, nrmZ, Nat.reduceEqDiff, ↓reduceIte, Nat.reduceAdd, Int.reduceBEq, Int.reduceBNe, List.map] <;> rfl) (K_Turn (l := l)) fun v H13 h5 => ?_)
 obtain ⟨u, e1, c6, e2, hc6, hfc6, hwc6, hxc6⟩ := h5
 subst e1 e2
 try dsimp only at hc6
 haveI : ExtI _ H13 := ⟨hxc6⟩
 haveI := hc6.one
 refine mT rfl ?_
 refine Fo.extr rfl rfl ?_
 refine Fo.extr rfl rfl ?_
 refine Fo.new ?_
 refine Fo.st rfl (rfl : _ = AVal.agg _) rfl rfl rfl (by repeat (first | rfl | refine allOne_cons ?_)) (by simp only [↓nrmL, nrmZ, Nat.reduceEqDiff, ↓reduceIte, Nat.reduceAdd, Int.reduceBEq, Int.reduceBNe]; rfl) ?_
 refine mI rfl ?_
 refine WpO.nil (hKF _ _ ?_)
 refine sq ?_
 refine rg fun KF hKF => ?_
 refine Fo.ldN rfl rfl (by simp only [↓nrmL, nrmZ, Nat.reduceEqDiff, ↓reduceIte, Nat.reduceAdd, Int.reduceBEq, Int.reduceBNe]; rfl) ?_
 refine mI rfl ?_
 refine WpO.do (WpX.conD hn rfl rfl (by simp only [↓nrmL, nrmZ, Nat.reduceEqDiff, ↓reduceIte, Nat.reduceAdd, Int.reduceBEq, Int.reduceBNe, List.map] <;> rfl) (K_refTurn (l := l)) fun v H14 h5 => ?_)
 obtain ⟨u, e1, d6, e2, hd6, hfd6, hwd6, hxd6⟩ := h5
 subst e1 e2
 try dsimp only at hd6
 haveI : ExtI _ H14 := ⟨hxd6⟩
 haveI := hd6.one
 haveI : BytesI H14 p l := inferInstance
 haveI : BytesI H14 q m := inferInstance
 haveI : BytesI H14 a l := inferInstance
 haveI : BytesI H14 b m := inferInstance
 haveI : Ext0 H H14 := inferInstance
 haveI : HasRow H14 H.n [.int .i64 w, .int .i64 h, p] true (2 * 24) := inferInstance
 haveI : HasRow H14 (H.push (.row [.int .i64 w, .int .i64 h, p] true (2 * 24))).n [.int .i64 w2, .int .i64 h2, q] true (2 * 24) := inferInstance
 haveI sh1 : Short (cropSpec ⟨w, h, l⟩ x y u v).1.px := ⟨crop_short hl4⟩
 haveI sh2 : Short (pasteSpec ⟨w, h, l⟩ ⟨w2, h2, m⟩ x y).1.px := ⟨paste_short hl4⟩
 haveI sh3 : Short (combSpec (fun a b => a ||| b) ⟨w, h, l⟩ ⟨w2, h2, m⟩).1.px := ⟨comb_short hl4⟩
 haveI sh4 : Short (combSpec (fun a b => a &&& b) ⟨w, h, l⟩ ⟨w2, h2, m⟩).1.px := ⟨comb_short hl4⟩
 haveI sh5 : Short (combSpec (fun a b => a &&& ~~~b) ⟨w, h, l⟩ ⟨w2, h2, m⟩).1.px := ⟨comb_short hl4⟩
 haveI sh6 : Short (turnSpec ⟨w, h, l⟩ way).1.px := ⟨turn_short hl4⟩
 generalize cropSpec ⟨w, h, l⟩ x y u v = r1 at *
 generalize pasteSpec ⟨w, h, l⟩ ⟨w2, h2, m⟩ x y = r2 at *
 generalize combSpec (fun a b => a ||| b) ⟨w, h, l⟩ ⟨w2, h2, m⟩ = r3 at *
 generalize combSpec (fun a b => a &&& b) ⟨w, h, l⟩ ⟨w2, h2, m⟩ = r4 at *
 generalize combSpec (fun a b => a &&& ~~~b) ⟨w, h, l⟩ ⟨w2, h2, m⟩ = r5 at *
 generalize turnSpec ⟨w, h, l⟩ way = r6 at *
 have q1 : decide ((⟨r1.1.w, r1.1.h, r1.1.px⟩ : Img) = ⟨r1.1.w, r1.1.h, r1.1.px⟩) = true := decide_eq_true rfl
 have q2 : decide ((⟨r2.1.w, r2.1.h, r2.1.px⟩ : Img) = ⟨r2.1.w, r2.1.h, r2.1.px⟩) = true := decide_eq_true rfl
 have q3 : decide ((⟨r3.1.w, r3.1.h, r3.1.px⟩ : Img) = ⟨r3.1.w, r3.1.h, r3.1.px⟩) = true := decide_eq_true rfl
 have q4 : decide ((⟨r4.1.w, r4.1.h, r4.1.px⟩ : Img) = ⟨r4.1.w, r4.1.h, r4.1.px⟩) = true := decide_eq_true rfl
 have q5 : decide ((⟨r5.1.w, r5.1.h, r5.1.px⟩ : Img) = ⟨r5.1.w, r5.1.h, r5.1.px⟩) = true := decide_eq_true rfl
 have q6 : decide ((⟨r6.1.w, r6.1.h, r6.1.px⟩ : Img) = ⟨r6.1.w, r6.1.h, r6.1.px⟩) = true := decide_eq_true rfl
 have ql : decide ((⟨w, h, l⟩ : Img) = ⟨w, h, l⟩) = true := decide_eq_true rfl
 have qm : decide ((⟨w2, h2, m⟩ : Img) = ⟨w2, h2, m⟩) = true := decide_eq_true rfl
 try simp only [↓nrmL, nrmZ, Nat.reduceEqDiff, ↓reduceIte, Nat.reduceAdd, Int.reduceBEq, Int.reduceBNe, q1, q2, q3, q4, q5, q6, ql, qm, beq_self_eq_true, Bool.and_true]
 refine mT rfl ?_
 refine Fo.extr rfl rfl ?_
 refine Fo.extr rfl rfl ?_
 refine Fo.new ?_
 refine Fo.st rfl (rfl : _ = AVal.agg _) rfl rfl rfl (by repeat (first | rfl | refine allOne_cons ?_)) (by simp only [↓nrmL, nrmZ, Nat.reduceEqDiff, ↓reduceIte, Nat.reduceAdd, Int.reduceBEq, Int.reduceBNe, q1, q2, q3, q4, q5, q6, ql, qm, beq_self_eq_true, Bool.and_true]; rfl) ?_
 refine mI rfl ?_
 refine WpO.nil (hKF _ _ ?_)
 refine sq ?_
 refine rg fun KF hKF => ?_
 refine Fo.ldN rfl rfl (by simp only [↓nrmL, nrmZ, Nat.reduceEqDiff, ↓reduceIte, Nat.reduceAdd, Int.reduceBEq, Int.reduceBNe, q1, q2, q3, q4, q5, q6, ql, qm, beq_self_eq_true, Bool.and_true]; rfl) ?_
 refine mI rfl ?_
 refine Fo.ldN rfl rfl (by simp only [↓nrmL, nrmZ, Nat.reduceEqDiff, ↓reduceIte, Nat.reduceAdd, Int.reduceBEq, Int.reduceBNe, q1, q2, q3, q4, q5, q6, ql, qm, beq_self_eq_true, Bool.and_true]; rfl) ?_
 refine mI rfl ?_
 refine Fo.pcall (v' := ?_) hn rfl (by simp only [↓nrmL, nrmZ, Nat.reduceEqDiff, ↓reduceIte, Nat.reduceAdd, Int.reduceBEq, Int.reduceBNe, q1, q2, q3, q4, q5, q6, ql, qm, beq_self_eq_true, Bool.and_true, List.map]; rfl) rfl ?hv fun _ _ => ?_; case hv => (simp only [↓nrmL, nrmZ, Nat.reduceEqDiff, ↓reduceIte, Nat.reduceAdd, Int.reduceBEq, Int.reduceBNe, q1, q2, q3, q4, q5, q6, ql, qm, beq_self_eq_true, Bool.and_true]; rfl)
 refine mB rfl ?_
 refine Fo.yes rfl rfl ?_
 refine Fo.ldN rfl rfl (by simp only [↓nrmL, nrmZ, Nat.reduceEqDiff, ↓reduceIte, Nat.reduceAdd, Int.reduceBEq, Int.reduceBNe, q1, q2, q3, q4, q5, q6, ql, qm, beq_self_eq_true, Bool.and_true]; rfl) ?_
 refine Fo.yes rfl rfl ?_
 refine mI rfl ?_
 refine Fo.yes rfl rfl ?_
 refine Fo.ldN rfl rfl (by simp only [↓nrmL, nrmZ, Nat.reduceEqDiff, ↓reduceIte, Nat.reduceAdd, Int.reduceBEq, Int.reduceBNe, q1, q2, q3, q4, q5, q6, ql, qm, beq_self_eq_true, Bool.and_true]; rfl) ?_
 refine Fo.yes rfl rfl ?_
 refine mI rfl ?_
 refine Fo.yes rfl rfl ?_
 refine Fo.pcall (v' := ?_) hn rfl (by simp only [↓nrmL, nrmZ, Nat.reduceEqDiff, ↓reduceIte, Nat.reduceAdd, Int.reduceBEq, Int.reduceBNe, q1, q2, q3, q4, q5, q6, ql, qm, beq_self_eq_true, Bool.and_true, List.map]; rfl) rfl ?hv fun _ _ => ?_; case hv => (simp only [↓nrmL, nrmZ, Nat.reduceEqDiff, ↓reduceIte, Nat.reduceAdd, Int.reduceBEq, Int.reduceBNe, q1, q2, q3, q4, q5, q6, ql, qm, beq_self_eq_true, Bool.and_true]; rfl)
 refine tB rfl rfl ?_
 refine mB rfl ?_
 refine Fo.yes rfl rfl ?_
 refine Fo.ldN rfl rfl (by simp only [↓nrmL, nrmZ, Nat.reduceEqDiff, ↓reduceIte, Nat.reduceAdd, Int.reduceBEq, Int.reduceBNe, q1, q2, q3, q4, q5, q6, ql, qm, beq_self_eq_true, Bool.and_true]; rfl) ?_
 refine Fo.yes rfl rfl ?_
 refine mI rfl ?_
 refine Fo.yes rfl rfl ?_
 refine Fo.ldN rfl rfl (by simp only [↓nrmL, nrmZ, Nat.reduceEqDiff, ↓reduceIte, Nat.reduceAdd, Int.reduceBEq, Int.reduceBNe, q1, q2, q3, q4, q5, q6, ql, qm, beq_self_eq_true, Bool.and_true]; rfl) ?_
 refine Fo.yes rfl rfl ?_
 refine mI rfl ?_
 refine Fo.yes rfl rfl ?_
 refine Fo.pcall (v' := ?_) hn rfl (by simp only [↓nrmL, nrmZ, Nat.reduceEqDiff, ↓reduceIte, Nat.reduceAdd, Int.reduceBEq, Int.reduceBNe, q1, q2, q3, q4, q5, q6, ql, qm, beq_self_eq_true, Bool.and_true, List.map]; rfl) rfl ?hv fun _ _ => ?_; case hv => (simp only [↓nrmL, nrmZ, Nat.reduceEqDiff, ↓reduceIte, Nat.reduceAdd, Int.reduceBEq, Int.reduceBNe, q1, q2, q3, q4, q5, q6, ql, qm, beq_self_eq_true, Bool.and_true]; rfl)
 refine tB rfl rfl ?_
 refine mB rfl ?_
 refine Fo.yes rfl rfl ?_
 refine Fo.ldN rfl rfl (by simp only [↓nrmL, nrmZ, Nat.reduceEqDiff, ↓reduceIte, Nat.reduceAdd, Int.reduceBEq, Int.reduceBNe, q1, q2, q3, q4, q5, q6, ql, qm, beq_self_eq_true, Bool.and_true]; rfl) ?_
 refine Fo.yes rfl rfl ?_
 refine mI rfl ?_
 refine Fo.yes rfl rfl ?_
 refine Fo.ldN rfl rfl (by simp only [↓nrmL, nrmZ, Nat.reduceEqDiff, ↓reduceIte, Nat.reduceAdd, Int.reduceBEq, Int.reduceBNe, q1, q2, q3, q4, q5, q6, ql, qm, beq_self_eq_true, Bool.and_true]; rfl) ?_
 refine Fo.yes rfl rfl ?_
 refine mI rfl ?_
 refine Fo.yes rfl rfl ?_
 refine Fo.pcall (v' := ?_) hn rfl (by simp only [↓nrmL, nrmZ, Nat.reduceEqDiff, ↓reduceIte, Nat.reduceAdd, Int.reduceBEq, Int.reduceBNe, q1, q2, q3, q4, q5, q6, ql, qm, beq_self_eq_true, Bool.and_true, List.map]; rfl) rfl ?hv fun _ _ => ?_; case hv => (simp only [↓nrmL, nrmZ, Nat.reduceEqDiff, ↓reduceIte, Nat.reduceAdd, Int.reduceBEq, Int.reduceBNe, q1, q2, q3, q4, q5, q6, ql, qm, beq_self_eq_true, Bool.and_true]; rfl)
 refine tB rfl rfl ?_
 refine mB rfl ?_
 refine Fo.yes rfl rfl ?_
 refine Fo.ldN rfl rfl (by simp only [↓nrmL, nrmZ, Nat.reduceEqDiff, ↓reduceIte, Nat.reduceAdd, Int.reduceBEq, Int.reduceBNe, q1, q2, q3, q4, q5, q6, ql, qm, beq_self_eq_true, Bool.and_true]; rfl) ?_
 refine Fo.yes rfl rfl ?_
 refine mI rfl ?_
 refine Fo.yes rfl rfl ?_
 refine Fo.ldN rfl rfl (by simp only [↓nrmL, nrmZ, Nat.reduceEqDiff, ↓reduceIte, Nat.reduceAdd, Int.reduceBEq, Int.reduceBNe, q1, q2, q3, q4, q5, q6, ql, qm, beq_self_eq_true, Bool.and_true]; rfl) ?_
 refine Fo.yes rfl rfl ?_
 refine mI rfl ?_
 refine Fo.yes rfl rfl ?_
 refine Fo.pcall (v' := ?_) hn rfl (by simp only [↓nrmL, nrmZ, Nat.reduceEqDiff, ↓reduceIte, Nat.reduceAdd, Int.reduceBEq, Int.reduceBNe, q1, q2, q3, q4, q5, q6, ql, qm, beq_self_eq_true, Bool.and_true, List.map]; rfl) rfl ?hv fun _ _ => ?_; case hv => (simp only [↓nrmL, nrmZ, Nat.reduceEqDiff, ↓reduceIte, Nat.reduceAdd, Int.reduceBEq, Int.reduceBNe, q1, q2, q3, q4, q5, q6, ql, qm, beq_self_eq_true, Bool.and_true]; rfl)
 refine tB rfl rfl ?_
 refine mB rfl ?_
 refine Fo.yes rfl rfl ?_
 refine Fo.ldN rfl rfl (by simp only [↓nrmL, nrmZ, Nat.reduceEqDiff, ↓reduceIte, Nat.reduceAdd, Int.reduceBEq, Int.reduceBNe, q1, q2, q3, q4, q5, q6, ql, qm, beq_self_eq_true, Bool.and_true]; rfl) ?_
 refine Fo.yes rfl rfl ?_
 refine mI rfl ?_
 refine Fo.yes rfl rfl ?_
 refine Fo.ldN rfl rfl (by simp only [↓nrmL, nrmZ, Nat.reduceEqDiff, ↓reduceIte, Nat.reduceAdd, Int.reduceBEq, Int.reduceBNe, q1, q2, q3, q4, q5, q6, ql, qm, beq_self_eq_true, Bool.and_true]; rfl) ?_
 refine Fo.yes rfl rfl ?_
 refine mI rfl ?_
 refine Fo.yes rfl rfl ?_
 refine Fo.pcall (v' := ?_) hn rfl (by simp only [↓nrmL, nrmZ, Nat.reduceEqDiff, ↓reduceIte, Nat.reduceAdd, Int.reduceBEq, Int.reduceBNe, q1, q2, q3, q4, q5, q6, ql, qm, beq_self_eq_true, Bool.and_true, List.map]; rfl) rfl ?hv fun _ _ => ?_; case hv => (simp only [↓nrmL, nrmZ, Nat.reduceEqDiff, ↓reduceIte, Nat.reduceAdd, Int.reduceBEq, Int.reduceBNe, q1, q2, q3, q4, q5, q6, ql, qm, beq_self_eq_true, Bool.and_true]; rfl)
 refine tB rfl rfl ?_
 refine mB rfl ?_
 refine Fo.yes rfl rfl ?_
 refine Fo.ldN rfl rfl (by simp only [↓nrmL, nrmZ, Nat.reduceEqDiff, ↓reduceIte, Nat.reduceAdd, Int.reduceBEq, Int.reduceBNe, q1, q2, q3, q4, q5, q6, ql, qm, beq_self_eq_true, Bool.and_true]; rfl) ?_
 refine Fo.yes rfl rfl ?_
 refine Fo.ldN rfl rfl (by simp only [↓nrmL, nrmZ, Nat.reduceEqDiff, ↓reduceIte, Nat.reduceAdd, Int.reduceBEq, Int.reduceBNe, q1, q2, q3, q4, q5, q6, ql, qm, beq_self_eq_true, Bool.and_true]; rfl) ?_
 refine Fo.yes rfl rfl ?_
 refine Fo.pcall (v' := ?_) hn rfl (by simp only [↓nrmL, nrmZ, Nat.reduceEqDiff, ↓reduceIte, Nat.reduceAdd, Int.reduceBEq, Int.reduceBNe, q1, q2, q3, q4, q5, q6, ql, qm, beq_self_eq_true, Bool.and_true, List.map]; rfl) rfl ?hv fun _ _ => ?_; case hv => (simp only [↓nrmL, nrmZ, Nat.reduceEqDiff, ↓reduceIte, Nat.reduceAdd, Int.reduceBEq, Int.reduceBNe, q1, q2, q3, q4, q5, q6, ql, qm, beq_self_eq_true, Bool.and_true]; rfl)
 refine tB rfl rfl ?_
 refine mB rfl ?_
 refine Fo.yes rfl rfl ?_
 refine Fo.ldN rfl rfl (by simp only [↓nrmL, nrmZ, Nat.reduceEqDiff, ↓reduceIte, Nat.reduceAdd, Int.reduceBEq, Int.reduceBNe, q1, q2, q3, q4, q5, q6, ql, qm, beq_self_eq_true, Bool.and_true]; rfl) ?_
 refine Fo.yes rfl rfl ?_
 refine Fo.ldN rfl rfl (by simp only [↓nrmL, nrmZ, Nat.reduceEqDiff, ↓reduceIte, Nat.reduceAdd, Int.reduceBEq, Int.reduceBNe, q1, q2, q3, q4, q5, q6, ql, qm, beq_self_eq_true, Bool.and_true]; rfl) ?_
 refine Fo.yes rfl rfl ?_
 refine Fo.pcall (v' := ?_) hn rfl (by simp only [↓nrmL, nrmZ, Nat.reduceEqDiff, ↓reduceIte, Nat.reduceAdd, Int.reduceBEq, Int.reduceBNe, q1, q2, q3, q4, q5, q6, ql, qm, beq_self_eq_true, Bool.and_true, List.map]; rfl) rfl ?hv fun _ _ => ?_; case hv => (simp only [↓nrmL, nrmZ, Nat.reduceEqDiff, ↓reduceIte, Nat.reduceAdd, Int.reduceBEq, Int.reduceBNe, q1, q2, q3, q4, q5, q6, ql, qm, beq_self_eq_true, Bool.and_true]; rfl)
 refine tB rfl rfl ?_
 refine mB rfl ?_
 refine WpO.nil (hKF _ _ ?_)
 refine Wp.ret ?_
 dsimp only [cond_true, cond_false]
 refine ⟨trivial, _, rfl, ?_⟩
 exact ⟨rfl, Ext0.ext⟩⟩

theorem K_ImageParts {w h w2 h2 x y u v way : Int} {p q : AVal} {H : AHeap} {l m : List UInt8} [hp : BytesI H p l] [hq : BytesI H q m] [ht : Tabs H] : Con ext prog 9 4 [.agg [.int .i64 w, .int .i64 h, p], .agg [.int .i64 w2, .int .i64 h2, q], .agg [.int .i64 x, .int .i64 y, .int .i64 u, .int .i64 v], .int .i64 way] H fun v H' => v = .bool true ∧ Ext H H' := by
 refine con_of (show prog 4 = some c4 from rfl) rfl rfl fun n hn => ?_
 haveI := hp.one
 haveI := hq.one
 cases hfew : (!(decide (((l.length : Nat) : Int) > 4000) || decide (((m.length : Nat) : Int) > 4000)))
 ·skip
  try simp only [↓nrmL, nrmZ, Nat.reduceEqDiff, ↓reduceIte, Nat.reduceAdd, Int.reduceBEq, Int.reduceBNe, hfew, Bool.not_false]
  refine sq ?_
  refine rg fun KF hKF => ?_
  refine Fo.boxA rfl ?_
  refine Fo.boxA rfl ?_
  refine Fo.boxA rfl ?_
  refine mB rfl ?_
  refine WpO.nil (hKF _ _ ?_)
  refine sq ?_
  refine rg fun KF hKF => ?_
  refine Fo.ldN rfl rfl (by simp only [↓nrmL, nrmZ, Nat.reduceEqDiff, ↓reduceIte, Nat.reduceAdd, Int.reduceBEq, Int.reduceBNe, hfew, Bool.not_false]; rfl) ?_
  refine Fo.ldN rfl rfl (by simp only [↓nrmL, nrmZ, Nat.reduceEqDiff, ↓reduceIte, Nat.reduceAdd, Int.reduceBEq, Int.reduceBNe, hfew, Bool.not_false]; rfl) ?_
  refine Fo.bslice rfl (by simp only [↓nrmL, nrmZ, Nat.reduceEqDiff, ↓reduceIte, Nat.reduceAdd, Int.reduceBEq, Int.reduceBNe, hfew, Bool.not_false]; rfl) ?_
  refine Fo.pcall (v' := ?_) hn rfl (by simp only [↓nrmL, nrmZ, Nat.reduceEqDiff, ↓reduceIte, Nat.reduceAdd, Int.reduceBEq, Int.reduceBNe, hfew, Bool.not_false, List.map]; rfl) rfl ?hv fun _ _ => ?_; case hv => (simp only [↓nrmL, nrmZ, Nat.reduceEqDiff, ↓reduceIte, Nat.reduceAdd, Int.reduceBEq, Int.reduceBNe, hfew, Bool.not_false]; rfl)
  refine Fo.now rfl rfl (by simp only [↓nrmL, nrmZ, Nat.reduceEqDiff, ↓reduceIte, Nat.reduceAdd, Int.reduceBEq, Int.reduceBNe, hfew, Bool.not_false]; rfl) ?_
  refine mB rfl ?_
  refine Fo.no rfl rfl ?_
  refine Fo.no rfl rfl ?_
  refine Fo.no rfl rfl ?_
  refine Fo.no rfl rfl ?_
  refine Fo.no rfl rfl ?_
  refine tB rfl rfl ?_
  refine mB rfl ?_
  refine Fo.yes rfl rfl ?_
  refine Fo.pcall (v' := ?_) hn rfl (by simp only [↓nrmL, nrmZ, Nat.reduceEqDiff, ↓reduceIte, Nat.reduceAdd, Int.reduceBEq, Int.reduceBNe, hfew, Bool.not_false, List.map]; rfl) rfl ?hv fun _ _ => ?_; case hv => rfl
  refine tB rfl rfl ?_
  refine mB rfl ?_
  refine WpO.nil (hKF _ _ ?_)
  refine Wp.ret ?_
  dsimp only [cond_true, cond_false]
  refine ⟨trivial, _, rfl, ?_⟩
  exact ⟨rfl, Ext0.ext⟩
 have hlm : l.length ≤ 4000 ∧ m.length ≤ 4000 := by
  simp only [Bool.not_eq_true', Bool.or_eq_false_iff, decide_eq_false_iff_not] at hfew
  omega
 haveI : Short4 l := ⟨hlm.1⟩
 haveI : Short4 m := ⟨hlm.2⟩
 try simp only [↓nrmL, nrmZ, Nat.reduceEqDiff, ↓reduceIte, Nat.reduceAdd, Int.reduceBEq, Int.reduceBNe, hfew, Bool.not_true]
 refine sq ?_
 refine rg fun KF hKF => ?_
 refine Fo.boxA rfl ?_
 refine Fo.boxA rfl ?_
 refine Fo.boxA rfl ?_
 refine mB rfl ?_
 refine WpO.nil (hKF _ _ ?_)
 refine sq ?_
 refine rg fun KF hKF => ?_
 refine Fo.ldN rfl rfl (by simp only [↓nrmL, nrmZ, Nat.reduceEqDiff, ↓reduceIte, Nat.reduceAdd, Int.reduceBEq, Int.reduceBNe, hfew, Bool.not_true]; rfl) ?_
 refine Fo.ldN rfl rfl (by simp only [↓nrmL, nrmZ, Nat.reduceEqDiff, ↓reduceIte, Nat.reduceAdd, Int.reduceBEq, Int.reduceBNe, hfew, Bool.not_true]; rfl) ?_
 refine Fo.bslice rfl (by simp only [↓nrmL, nrmZ, Nat.reduceEqDiff, ↓reduceIte, Nat.reduceAdd, Int.reduceBEq, Int.reduceBNe, hfew, Bool.not_true]; rfl) ?_
 refine Fo.pcall (v' := ?_) hn rfl (by simp only [↓nrmL, nrmZ, Nat.reduceEqDiff, ↓reduceIte, Nat.reduceAdd, Int.reduceBEq, Int.reduceBNe, hfew, Bool.not_true, List.map]; rfl) rfl ?hv fun _ _ => ?_; case hv => (simp only [↓nrmL, nrmZ, Nat.reduceEqDiff, ↓reduceIte, Nat.reduceAdd, Int.reduceBEq, Int.reduceBNe, hfew, Bool.not_true]; rfl)
 refine Fo.now rfl rfl (by simp only [↓nrmL, nrmZ, Nat.reduceEqDiff, ↓reduceIte, Nat.reduceAdd, Int.reduceBEq, Int.reduceBNe, hfew, Bool.not_true]; rfl) ?_
 refine mB rfl ?_
 refine Fo.yes rfl rfl ?_
 refine Fo.ldN rfl rfl (by simp only [↓nrmL, nrmZ, Nat.reduceEqDiff, ↓reduceIte, Nat.reduceAdd, Int.reduceBEq, Int.reduceBNe, hfew, Bool.not_true]; rfl) ?_
 refine Fo.yes rfl rfl ?_
 refine Fo.ldN rfl rfl (by simp only [↓nrmL, nrmZ, Nat.reduceEqDiff, ↓reduceIte, Nat.reduceAdd, Int.reduceBEq, Int.reduceBNe, hfew, Bool.not_true]; rfl) ?_
 refine Fo.yes rfl rfl ?_
 refine Fo.ldN rfl rfl (by simp only [↓nrmL, nrmZ, Nat.reduceEqDiff, ↓reduceIte, Nat.reduceAdd, Int.reduceBEq, Int.reduceBNe, hfew, Bool.not_true]; rfl) ?_
 refine Fo.yes rfl rfl ?_
 refine mI rfl ?_
 refine Fo.yes rfl rfl ?_
 refine Fo.pcall (v' := ?_) hn rfl (by simp only [↓nrmL, nrmZ, Nat.reduceEqDiff, ↓reduceIte, Nat.reduceAdd, Int.reduceBEq, Int.reduceBNe, hfew, Bool.not_true, List.map]; rfl) rfl ?hv fun _ _ => ?_; case hv => rfl
 refine fB rfl rfl ?_
 refine mB rfl ?_
 refine Fo.yes rfl rfl ?_
 refine Fo.pcall (v' := ?_) hn rfl (by simp only [↓nrmL, nrmZ, Nat.reduceEqDiff, ↓reduceIte, Nat.reduceAdd, Int.reduceBEq, Int.reduceBNe, hfew, Bool.not_true, List.map]; rfl) rfl ?hv fun _ _ => ?_; case hv => rfl
 refine tB rfl rfl ?_
 refine mB rfl ?_
 refine WpO.nil (hKF _ _ ?_)
 refine Wp.ret ?_
 dsimp only [cond_true, cond_false]
 refine ⟨trivial, _, rfl, ?_⟩
 exact ⟨rfl, Ext0.ext⟩
end Go.Am

set_option maxRecDepth 100000
set_option maxHeartbeats 4000000
namespace Go.Proofs.YtlbgcpmiedjmoaaDoor.ImageParts
open Go.ChangeShapes Go.WideShapes Go.ChangeAt Go.RowKit Go.Am Go.Proofs.YtlbgcpmiedjmoaaDoor.Laid

theorem con (H : AHeap) (avs : List AVal) (ht : tablesIn aroundT H = true) (h : ArgS Tryd.prog H 3 [24, 24, 46, 3] avs) : Con ext prog 9 4 avs H fun v H' => v = .bool true ∧ Ext H H' := by
  obtain ⟨a0, r0, rfl, h0, a1, r1, rfl, h1, a2, r2, rfl, h2, a3, r3, rfl, h3, rfl⟩ := h
  obtain ⟨w0, hh0, p0, l0, rfl, k0, _⟩ := shape_img (ti := 3) (ts := 22) (tb := 5) Tryd.underlying24 (by kernel_rfl) Tryd.underlying3 Tryd.underlying22 Tryd.underlying5 (by kernel_rfl) h0
  obtain ⟨w1, hh1, p1, l1, rfl, k1, _⟩ := shape_img (ti := 3) (ts := 22) (tb := 5) Tryd.underlying24 (by kernel_rfl) Tryd.underlying3 Tryd.underlying22 Tryd.underlying5 (by kernel_rfl) h1
  obtain ⟨x2, y2, u2, v2, rfl⟩ := shape_rect (ti := 3) Tryd.underlying46 (by kernel_rfl) Tryd.underlying3 h2
  obtain ⟨i3, rfl, _⟩ := shape_int Tryd.underlying3 h3
  have e0 : argV Tryd.prog 24 [.int .i64 w0, .int .i64 hh0, p0] = .agg [.int .i64 w0, .int .i64 hh0, p0] := by simp only [argV, show aggTy Tryd.prog 24 = true by kernel_rfl, cond_true]
  have e1 : argV Tryd.prog 24 [.int .i64 w1, .int .i64 hh1, p1] = .agg [.int .i64 w1, .int .i64 hh1, p1] := by simp only [argV, show aggTy Tryd.prog 24 = true by kernel_rfl, cond_true]
  have e2 : argV Tryd.prog 46 [.int .i64 x2, .int .i64 y2, .int .i64 u2, .int .i64 v2] = .agg [.int .i64 x2, .int .i64 y2, .int .i64 u2, .int .i64 v2] := by simp only [argV, show aggTy Tryd.prog 46 = true by kernel_rfl, cond_true]
  have e3 : argV Tryd.prog 3 [.int .i64 i3] = .int .i64 i3 := by simp only [argV, show aggTy Tryd.prog 3 = false by kernel_rfl, cond_false, List.headD_cons]
  haveI : Tabs H := ⟨ht⟩
  rw [e0, e1, e2, e3]
  exact K_ImageParts

theorem contract (H : Type) (enc : TypeId × Value → H) (W : World) (base : Nat) (args : Array Value) (ds gs : List (DataW H)) (before : List MemPlace)
    (hval : ∀ (j : Nat) t v, Tryd.f4.params[j]? = some t → args[j]? = some v → Value.okWide Tryd.prog W .any base t v)
    (hW : DataW.Whole enc Tryd.prog Tryd.f4.params.toList Rows.imagePartsSpec.vars false W args.toList ds gs before) (hL : laidMetH Tryd.prog Rows.imagePartsRow.laid W) :
    Calls Tryd.prog 4 args W fun e W' => ∃ v, e = .returned v ∧ Rows.imagePartsSpec.post enc Tryd.prog Tryd.f4 false true false false W args v W' := by
  have hW' := hW
  obtain ⟨p, q, hA, _⟩ := hW'
  rw [Tryd.params4] at hA
  obtain ⟨v0, vs0, d0, ds0, p0, q0, _, rfl, _, _, r0⟩ := trodAll_cons hA
  obtain ⟨v1, vs1, d1, ds1, p1, q1, _, rfl, _, _, r1⟩ := trodAll_cons r0
  obtain ⟨v2, vs2, d2, ds2, p2, q2, _, rfl, _, _, r2⟩ := trodAll_cons r1
  obtain ⟨v3, vs3, d3, ds3, p3, q3, _, rfl, _, _, r3⟩ := trodAll_cons r2
  obtain ⟨_, rfl, _⟩ := trodAll_nil r3
  exact law_calls (tb := 4) (n := 3) (d := 9) (tabs := aroundT) mixed progOk Tryd.func4 rfl (by decide +kernel) laidOut rowed full (by kernel_rfl) rfl (by kernel_rfl) Tryd.underlying4 (by kernel_rfl) (by kernel_rfl)
    (fun H avs ht h => con H avs ht (by rw [Tryd.params4] at h; exact h)) H enc W base args _ gs before rfl hval hW (around_cells hL)

theorem laid_met (os : Os) : laidMet Tryd.prog Rows.imagePartsRow.laid ((laidWorld os).forCall (fun _ _ => 0) ⟨#[], #[.agg #[.int .i64 0, .int .i64 0, .slice none 0 0], .agg #[.int .i64 0, .int .i64 0, .slice none 0 0], .agg #[.int .i64 0, .int .i64 0, .int .i64 0, .int .i64 0], .int .i64 0], []⟩).memory :=
  laidMet_of_run' 8 (by kernel_rfl) (by kernel_rfl)
theorem reads (os : Os) {H : Type} (enc : TypeId × Value → H) : ∃ places, DataW.whole enc Tryd.prog ((laidWorld os).forCall (fun _ _ => 0) ⟨#[], #[.agg #[.int .i64 0, .int .i64 0, .slice none 0 0], .agg #[.int .i64 0, .int .i64 0, .slice none 0 0], .agg #[.int .i64 0, .int .i64 0, .int .i64 0, .int .i64 0], .int .i64 0], []⟩).memory Tryd.f4.params.toList Rows.imagePartsSpec.vars false #[Value.agg #[.int .i64 0, .int .i64 0, .slice none 0 0], .agg #[.int .i64 0, .int .i64 0, .slice none 0 0], .agg #[.int .i64 0, .int .i64 0, .int .i64 0, .int .i64 0], .int .i64 0].toList 8 = some ([.agg [.lit (.int .i64 0), .lit (.int .i64 0), .nil], .agg [.lit (.int .i64 0), .lit (.int .i64 0), .nil], .agg [.lit (.int .i64 0), .lit (.int .i64 0), .lit (.int .i64 0), .lit (.int .i64 0)], .lit (.int .i64 0)], [], places) :=
  ⟨[], by kernel_rfl⟩

theorem lifted (os : Os) (started : os.Started) (H : Type) (enc : TypeId × Value → H) (F : Stop.Interp) :
    ReturnsInHanded {} Tryd.checked os 4 .any ((OpenSpec.ofChange Rows.imagePartsSpec).preRow enc Tryd.prog Tryd.f4 Rows.imagePartsRow.domain false Rows.imagePartsRow.laid) (((OpenSpec.ofChange Rows.imagePartsSpec).at F).post enc Tryd.prog Tryd.f4 false true false false) := by
  obtain ⟨places, hx⟩ := reads os enc
  refine returnsInHanded_of_row (C := Tryd.checked) (s := OpenSpec.ofChange Rows.imagePartsSpec) own started (by kernel_rfl) Tryd.func4
    (witness_row_at (enc := enc) (C := Tryd.checked) false (laidWorld os) #[.agg #[.int .i64 0, .int .i64 0, .slice none 0 0], .agg #[.int .i64 0, .int .i64 0, .slice none 0 0], .agg #[.int .i64 0, .int .i64 0, .int .i64 0, .int .i64 0], .int .i64 0] rfl (by kernel_rfl) (by kernel_rfl) (by kernel_rfl)
      (OpenSpec.preRow_of_cond 8 hx (by kernel_rfl) (fun k hk => by cases hk) (by kernel_rfl) (laid_met os))) ?_
  intro W base args ds gs before hval hW _ _ _ hL _ _
  exact contract H enc W base args ds gs before hval hW hL

theorem said : Rows.ImagePartsSaid :=
  OpenClaim.holds_of_cond 4 Tryd.f4 rfl rfl rfl rfl rfl rfl rfl ⟨rfl, rfl, rfl, rfl, rfl⟩ rfl rfl rfl rfl rfl (by kernel_rfl) Tryd.func4 (by kernel_rfl)
    (of_decide_eq_true (by kernel_rfl)) (by unfold Func.isWrapper; first | (rw [if_pos (by decide +kernel)]; kernel_rfl) | (rw [if_neg (by decide +kernel)]; exact ⟨rfl, rfl⟩))
    (fun os started H enc _ F => by rw [OpenClaim.pre_eq_preRow]; exact lifted os started H enc F)

theorem plain (f : FuncId) (fn : Func) (hf : Tryd.pinned.checked.prog.funcNamed "custos/custoslaw01.ImageParts" = some f) (hfn : Tryd.pinned.checked.prog.funcs[f]? = some fn) :
    false = Tryd.pinned.checked.prog.looks [] ∧ ∀ (j : Nat) t, fn.params[j]? = some t → Tryd.pinned.checked.prog.wantsStandIn t = false := by
  obtain rfl : f = 4 := Option.some.inj ((show Tryd.prog.funcNamed "custos/custoslaw01.ImageParts" = some 4 by kernel_rfl).symm.trans hf) |>.symm
  obtain rfl : fn = Tryd.f4 := (Option.some.inj (Tryd.func4.symm.trans hfn)).symm
  refine ⟨by kernel_rfl, fun j t ht => ?_⟩
  have h := List.all_eq_true.1 (show (Tryd.f4.params.toList.all fun t => !(Tryd.prog.wantsStandIn t)) = true by kernel_rfl) t (by simpa using Array.mem_of_getElem? ht)
  have h2 : Tryd.prog.wantsStandIn t = false := by simpa using h
  exact h2

/-- The card. -/
theorem card : Rows.ImagePartsCardSaid :=
  Claim7.holds_tied_plain_at .later [] _ _ _ _ said (fun _ h => by cases h) (by kernel_rfl) (fun _ h => by cases h) imageParts_row_tie rfl ⟨rfl, rfl⟩ (by kernel_rfl) rfl plain (by kernel_rfl)
end Go.Proofs.YtlbgcpmiedjmoaaDoor.ImageParts
