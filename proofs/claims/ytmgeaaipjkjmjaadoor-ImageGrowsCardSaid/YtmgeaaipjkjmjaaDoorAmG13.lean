/-
  ImageGrows returns true for all sides and bits, all brushes up to 9 by 9 and both kinds of a second image, and leaves the bits as they were. No condition.
-/
import Derived.Test.YtmgeaaipjkjmjaaDoorAmBE
set_option linter.unusedSimpArgs false
set_option linter.unusedVariables false
set_option maxHeartbeats 4000000
set_option maxRecDepth 100000
set_option synthInstance.maxHeartbeats 4000000
set_option synthInstance.maxSize 100000
namespace Go.Am
open Go
attribute [local irreducible] Wp WpO WpX WpE

/-- The place of a line at which a spread is. -/
def spI (f s c d : Nat) : Int := (f : Int) + ((c : Int) - 1 - (d : Int)) * (s : Int)
theorem spI_nat {f s c d : Nat} (h : d < c) : spI f s c d = ((f + (c - 1 - d) * s : Nat) : Int) := by
 unfold spI
 rw [show (c : Int) - 1 - (d : Int) = ((c - 1 - d : Nat) : Int) by omega]
 rw [← Int.natCast_mul, ← Int.natCast_add]
theorem spI_next (f s c d : Nat) : spI f s c d - (s : Int) = spI f s c (d + 1) := by
 unfold spI
 rw [show (c : Int) - 1 - ((d + 1 : Nat) : Int) = ((c : Int) - 1 - (d : Int)) - 1 by omega, Int.sub_mul ((c : Int) - 1 - (d : Int)) 1, Int.one_mul]
 omega
theorem spI_end (f s c : Nat) : spI f s c c = (f : Int) - s := by
 unfold spI
 rw [show (c : Int) - 1 - (c : Int) = -1 by omega]
 omega
theorem K_spread {p : AVal} {H : AHeap} {l : List UInt8} {f s c n : Nat} [hp : BytesI H p l] [hw : WrS H p] (hpx : pxOk l = true) (hl : l.length ≤ 409600) (hs : 0 < s) (hs2 : s ≤ 640) (hf : f ≤ 409600) (hc : c ≤ 640) (hn1 : 0 < n) (hn2 : n ≤ 64) (hin : ∀ j, j < c → f + j * s < l.length) : Con ext prog 1 152 [p, .int .i64 f, .int .i64 s, .int .i64 c, .int .i64 n] H fun _ H' => BytesI H' p (spL l f s c n) ∧ WrS H' p ∧ ExtP H H' p := by
 refine con_of (show prog 152 = some c152 from rfl) rfl rfl fun nn hn => ?_
 haveI := hp.one
 have hcs : c * s ≤ 640 * 640 := Nat.mul_le_mul hc hs2
 have k0 : ((c : Int) - 1) * (s : Int) = ((c * s : Nat) : Int) - s := by rw [Int.sub_mul, Int.one_mul, Int.natCast_mul]
 have k1 : IntKind.i64.wrap ((c : Int) - 1) = (c : Int) - 1 := w64 (by omega)
 have k2 : IntKind.i64.wrap (((c : Int) - 1) * (s : Int)) = ((c * s : Nat) : Int) - s := by rw [k0]; exact w64 (by omega)
 have k3 : IntKind.i64.wrap ((f : Int) + (((c * s : Nat) : Int) - s)) = spI f s c 0 := by
  rw [w64 (by omega)]
  unfold spI
  rw [← k0]
  congr 2
  omega
 have bd : ∀ d, d ≤ c → -1000000 ≤ spI f s c d ∧ spI f s c d ≤ 1000000 := by
  intro d hd
  by_cases h : d < c
  ·rw [spI_nat h]
   have := hin (c - 1 - d) (by omega)
   omega
  ·obtain rfl : d = c := by omega
   rw [spI_end]; omega
 try simp only [↓nrmL, nrmZ, Nat.reduceEqDiff, ↓reduceIte, Nat.reduceAdd, Int.reduceBEq, Int.reduceBNe, k1, k2, k3]
 refine sq ?_
 refine rg fun KF hKF => ?_
 refine mI rfl ?_
 refine WpO.nil (hKF _ _ ?_)
 refine sq ?_
 refine rg fun KF hKF => ?_
 refine mI rfl ?_
 refine mI rfl ?_
 refine Fo.bin rfl rfl rfl (by simp only [↓nrmL, nrmZ, Nat.reduceEqDiff, ↓reduceIte, Nat.reduceAdd, Int.reduceBEq, Int.reduceBNe, k1, k2, k3]; rfl) ?_
 refine mI rfl ?_
 refine Fo.bin rfl rfl rfl (by simp only [↓nrmL, nrmZ, Nat.reduceEqDiff, ↓reduceIte, Nat.reduceAdd, Int.reduceBEq, Int.reduceBNe, k1, k2, k3]; rfl) ?_
 refine Fo.bin rfl rfl rfl (by simp only [↓nrmL, nrmZ, Nat.reduceEqDiff, ↓reduceIte, Nat.reduceAdd, Int.reduceBEq, Int.reduceBNe, k1, k2, k3]; rfl) ?_
 refine mI rfl ?_
 refine WpO.nil (hKF _ _ ?_)
 refine Wp.block ?_
 dsimp only [cond_true, cond_false]
 refine Wp.loopS [10, 11, 18, 19, 20, 21, 22, 23, 24, 25, 26, 27, 28, 29, 30, 31, 32, 33, 34, 35, 36] (fun d : Nat => [(10, .int .i64 (leftB (lineO l f s) c n d : Nat)), (11, .int .i64 (spI f s c d))]) (fun H3 d H2 => d ≤ c ∧ BytesI H2 p (spP l f s c n d) ∧ WrS H2 p ∧ ExtP0 H3 H2 p) (fun d => c - d) 0 rfl (fun _ => rfl) ⟨rfl, rfl, trivial⟩ ⟨Nat.zero_le _, by rw [spP_zero]; infer_instance, inferInstance, inferInstance⟩ (by unfold fuel0 at hn; omega) ?_
 rintro d g H2 ⟨hd, hb2, hw2, ⟨hx2⟩⟩
 have hbd := bd d hd
 simp only [↓nrmL, nrmZ, Nat.reduceEqDiff, ↓reduceIte, Nat.reduceAdd, Int.reduceBEq, Int.reduceBNe]
 by_cases hdc : d < c
 ·have hge : decide (spI f s c d ≥ (f : Int)) = true := by rw [spI_nat hdc]; exact decide_eq_true (by omega)
  have hil := hin (c - 1 - d) (by omega)
  have hnat := spI_nat (f := f) (s := s) hdc
  have hnx := spI_next f s c d
  have hbd2 := bd (d + 1) (by omega)
  have hwn : IntKind.i64.wrap (((f + (c - 1 - d) * s : Nat) : Int) - (s : Int)) = spI f s c (d + 1) := by rw [← hnat, hnx]; exact w64 (by omega)
  have hwn' : IntKind.i64.wrap (spI f s c d - (s : Int)) = spI f s c (d + 1) := by rw [hnx]; exact w64 (by omega)
  have hget := spP_get (l := l) (n := n) hs hdc hil
  have hfl := spP_length l f s c n d
  have hrl := reach_left (o := lineO l f s) (c := c) (n := n) (d := d)
  have hll := left_le (o := lineO l f s) (c := c) (n := n) d
  have hls : leftB (lineO l f s) c n (d + 1) = reach (lineO l f s) c n d - 1 := rfl
  have hgd : l.getD (f + (c - 1 - d) * s) 0 = l[f + (c - 1 - d) * s] := by simp [hil]
  rw [hnat] at hge
  cases ho : lineO l f s (c - 1 - d)
  ·have hne : (l[f + (c - 1 - d) * s] == 1) = false := by unfold lineO at ho; rw [hgd] at ho; exact ho
   rw [ho, if_neg (by decide)] at hrl
   have h0 : l.getD (f + (c - 1 - d) * s) 0 = 0 := by
    rcases px_get hpx hil with q | q
    ·exact q
    ·rw [hgd] at q; rw [q] at hne; cases hne
   cases hg : decide (((leftB (lineO l f s) c n d : Nat) : Int) > 0)
   ·have hz : leftB (lineO l f s) c n d = 0 := by have := of_decide_eq_false hg; omega
    have hr0 : reach (lineO l f s) c n d = 0 := by rw [hrl, hz]
    have hls0 : leftB (lineO l f s) c n (d + 1) = leftB (lineO l f s) c n d := by rw [hls, hr0, hz]
    try simp only [↓nrmL, nrmZ, Nat.reduceEqDiff, ↓reduceIte, Nat.reduceAdd, Int.reduceBEq, Int.reduceBNe, hnat, hge, hget, u8_one, hne, hg]
    refine sq ?_
    refine sq ?_
    refine rg fun KF hKF => ?_
    refine mI rfl ?_
    refine mI rfl ?_
    refine Fo.bin rfl rfl rfl (by simp only [↓nrmL, nrmZ, Nat.reduceEqDiff, ↓reduceIte, Nat.reduceAdd, Int.reduceBEq, Int.reduceBNe, hnat, hge, hget, u8_one, hne, hg]; rfl) ?_
    refine WpO.nil (hKF _ _ ?_)
    refine Wp.cond (b := true) rfl ?_
    refine Wp.skip ?_
    refine sq ?_
    refine Wp.block ?_
    refine sq ?_
    refine sq ?_
    refine rg fun KF hKF => ?_
    refine Fo.mov (by simp only [↓nrmL, nrmK, Nat.reduceEqDiff, ↓reduceIte]; rfl) ?_
    refine mI rfl ?_
    refine Fo.idx (by simp only [↓nrmL, nrmK, Nat.reduceEqDiff, ↓reduceIte]; rfl) rfl ?_ (by simp only [↓nrmL, nrmZ, Nat.reduceEqDiff, ↓reduceIte, Nat.reduceAdd, Int.reduceBEq, Int.reduceBNe, hnat, hge, hget, u8_one, hne, hg]; rfl) ?_; (focus omega)
    refine Fo.ldB rfl ?_ (by simp only [↓nrmL, nrmZ, Nat.reduceEqDiff, ↓reduceIte, Nat.reduceAdd, Int.reduceBEq, Int.reduceBNe, hnat, hge, hget, u8_one, hne, hg]; rfl) ?_; (focus omega)
    refine Fo.bin rfl rfl rfl (by simp only [↓nrmL, nrmZ, Nat.reduceEqDiff, ↓reduceIte, Nat.reduceAdd, Int.reduceBEq, Int.reduceBNe, hnat, hge, hget, u8_one, hne, hg]; rfl) ?_
    refine WpO.nil (hKF _ _ ?_)
    refine Wp.cond (b := false) rfl ?_
    refine Wp.skip ?_
    refine sq ?_
    refine rg fun KF hKF => ?_
    refine mI rfl ?_
    refine Fo.bin rfl rfl rfl (by simp only [↓nrmL, nrmZ, Nat.reduceEqDiff, ↓reduceIte, Nat.reduceAdd, Int.reduceBEq, Int.reduceBNe, hnat, hge, hget, u8_one, hne, hg]; rfl) ?_
    refine WpO.nil (hKF _ _ ?_)
    refine Wp.cond (b := false) rfl ?_
    refine Wp.skip ?_
    refine rg fun KF hKF => ?_
    refine mI rfl ?_
    refine mI rfl ?_
    refine Fo.bin rfl rfl rfl rfl ?_
    refine mI rfl ?_
    refine WpO.nil (hKF _ _ ?_)
    dsimp only [cond_true, cond_false]
    rw [spP_off hs hdc hil hr0 h0] at hb2
    refine ⟨d + 1, by omega, ⟨by simp only [↓nrmL, nrmZ, Nat.reduceEqDiff, ↓reduceIte, Nat.reduceAdd, Int.reduceBEq, Int.reduceBNe]; rw [hls0], by first | (simp only [↓nrmL, nrmZ, Nat.reduceEqDiff, ↓reduceIte, Nat.reduceAdd, Int.reduceBEq, Int.reduceBNe]; rw [hwn]; done) | (simp only [↓nrmL, nrmZ, Nat.reduceEqDiff, ↓reduceIte, Nat.reduceAdd, Int.reduceBEq, Int.reduceBNe]; rw [hwn']; done), trivial⟩, by omega, inferInstance, inferInstance, inferInstance⟩
   ·have hz : 0 < leftB (lineO l f s) c n d := by have := of_decide_eq_true hg; omega
    have hr0 : 0 < reach (lineO l f s) c n d := by rw [hrl]; exact hz
    have hls1 : IntKind.i64.wrap (((leftB (lineO l f s) c n d : Nat) : Int) - 1) = ((leftB (lineO l f s) c n (d + 1) : Nat) : Int) := by rw [w64 (by omega), hls, hrl]; omega
    try simp only [↓nrmL, nrmZ, Nat.reduceEqDiff, ↓reduceIte, Nat.reduceAdd, Int.reduceBEq, Int.reduceBNe, hnat, hge, hget, u8_one, hne, hg]
    refine sq ?_
    refine sq ?_
    refine rg fun KF hKF => ?_
    refine mI rfl ?_
    refine mI rfl ?_
    refine Fo.bin rfl rfl rfl (by simp only [↓nrmL, nrmZ, Nat.reduceEqDiff, ↓reduceIte, Nat.reduceAdd, Int.reduceBEq, Int.reduceBNe, hnat, hge, hget, u8_one, hne, hg]; rfl) ?_
    refine WpO.nil (hKF _ _ ?_)
    refine Wp.cond (b := true) rfl ?_
    refine Wp.skip ?_
    refine sq ?_
    refine Wp.block ?_
    refine sq ?_
    refine sq ?_
    refine rg fun KF hKF => ?_
    refine Fo.mov (by simp only [↓nrmL, nrmK, Nat.reduceEqDiff, ↓reduceIte]; rfl) ?_
    refine mI rfl ?_
    refine Fo.idx (by simp only [↓nrmL, nrmK, Nat.reduceEqDiff, ↓reduceIte]; rfl) rfl ?_ (by simp only [↓nrmL, nrmZ, Nat.reduceEqDiff, ↓reduceIte, Nat.reduceAdd, Int.reduceBEq, Int.reduceBNe, hnat, hge, hget, u8_one, hne, hg]; rfl) ?_; (focus omega)
    refine Fo.ldB rfl ?_ (by simp only [↓nrmL, nrmZ, Nat.reduceEqDiff, ↓reduceIte, Nat.reduceAdd, Int.reduceBEq, Int.reduceBNe, hnat, hge, hget, u8_one, hne, hg]; rfl) ?_; (focus omega)
    refine Fo.bin rfl rfl rfl (by simp only [↓nrmL, nrmZ, Nat.reduceEqDiff, ↓reduceIte, Nat.reduceAdd, Int.reduceBEq, Int.reduceBNe, hnat, hge, hget, u8_one, hne, hg]; rfl) ?_
    refine WpO.nil (hKF _ _ ?_)
    refine Wp.cond (b := false) rfl ?_
    refine Wp.skip ?_
    refine sq ?_
    refine rg fun KF hKF => ?_
    refine mI rfl ?_
    refine Fo.bin rfl rfl rfl (by simp only [↓nrmL, nrmZ, Nat.reduceEqDiff, ↓reduceIte, Nat.reduceAdd, Int.reduceBEq, Int.reduceBNe, hnat, hge, hget, u8_one, hne, hg]; rfl) ?_
    refine WpO.nil (hKF _ _ ?_)
    refine Wp.cond (b := true) rfl ?_
    refine sq ?_
    refine rg fun KF hKF => ?_
    refine Fo.mov (by simp only [↓nrmL, nrmK, Nat.reduceEqDiff, ↓reduceIte]; rfl) ?_
    refine mI rfl ?_
    refine Fo.idx (by simp only [↓nrmL, nrmK, Nat.reduceEqDiff, ↓reduceIte]; rfl) rfl ?_ (by simp only [↓nrmL, nrmZ, Nat.reduceEqDiff, ↓reduceIte, Nat.reduceAdd, Int.reduceBEq, Int.reduceBNe, hnat, hge, hget, u8_one, hne, hg]; rfl) ?_; (focus omega)
    refine WpO.do' (WpX.stB 1 rfl rfl rfl (by rw [hfl]; exact hil) fun H4 hb4 hw4 hx4 => ?_)
    rw [spP_on hs hdc hil hr0] at hb4
    refine WpO.nil (hKF _ _ ?_)
    refine rg fun KF hKF => ?_
    refine mI rfl ?_
    refine Fo.bin rfl rfl rfl rfl ?_
    refine mI rfl ?_
    refine WpO.nil (hKF _ _ ?_)
    refine rg fun KF hKF => ?_
    refine mI rfl ?_
    refine mI rfl ?_
    refine Fo.bin rfl rfl rfl rfl ?_
    refine mI rfl ?_
    refine WpO.nil (hKF _ _ ?_)
    dsimp only [cond_true, cond_false]
    refine ⟨d + 1, by omega, ⟨by simp only [↓nrmL, nrmZ, Nat.reduceEqDiff, ↓reduceIte, Nat.reduceAdd, Int.reduceBEq, Int.reduceBNe]; rw [hls1], by first | (simp only [↓nrmL, nrmZ, Nat.reduceEqDiff, ↓reduceIte, Nat.reduceAdd, Int.reduceBEq, Int.reduceBNe]; rw [hwn]; done) | (simp only [↓nrmL, nrmZ, Nat.reduceEqDiff, ↓reduceIte, Nat.reduceAdd, Int.reduceBEq, Int.reduceBNe]; rw [hwn']; done), trivial⟩, by omega, inferInstance, inferInstance, inferInstance⟩
  ·have hne : (l[f + (c - 1 - d) * s] == 1) = true := by unfold lineO at ho; rw [hgd] at ho; exact ho
   rw [ho, if_pos rfl] at hrl
   have hr0 : 0 < reach (lineO l f s) c n d := by rw [hrl]; exact hn1
   have hg : decide (((n : Nat) : Int) > 0) = true := decide_eq_true (by omega)
   have hls1 : IntKind.i64.wrap (((n : Nat) : Int) - 1) = ((leftB (lineO l f s) c n (d + 1) : Nat) : Int) := by rw [w64 (by omega), hls, hrl]; omega
   try simp only [↓nrmL, nrmZ, Nat.reduceEqDiff, ↓reduceIte, Nat.reduceAdd, Int.reduceBEq, Int.reduceBNe, hnat, hge, hget, u8_one, hne, hg]
   refine sq ?_
   refine sq ?_
   refine rg fun KF hKF => ?_
   refine mI rfl ?_
   refine mI rfl ?_
   refine Fo.bin rfl rfl rfl (by simp only [↓nrmL, nrmZ, Nat.reduceEqDiff, ↓reduceIte, Nat.reduceAdd, Int.reduceBEq, Int.reduceBNe, hnat, hge, hget, u8_one, hne, hg]; rfl) ?_
   refine WpO.nil (hKF _ _ ?_)
   refine Wp.cond (b := true) rfl ?_
   refine Wp.skip ?_
   refine sq ?_
   refine Wp.block ?_
   refine sq ?_
   refine sq ?_
   refine rg fun KF hKF => ?_
   refine Fo.mov (by simp only [↓nrmL, nrmK, Nat.reduceEqDiff, ↓reduceIte]; rfl) ?_
   refine mI rfl ?_
   refine Fo.idx (by simp only [↓nrmL, nrmK, Nat.reduceEqDiff, ↓reduceIte]; rfl) rfl ?_ (by simp only [↓nrmL, nrmZ, Nat.reduceEqDiff, ↓reduceIte, Nat.reduceAdd, Int.reduceBEq, Int.reduceBNe, hnat, hge, hget, u8_one, hne, hg]; rfl) ?_; (focus omega)
   refine Fo.ldB rfl ?_ (by simp only [↓nrmL, nrmZ, Nat.reduceEqDiff, ↓reduceIte, Nat.reduceAdd, Int.reduceBEq, Int.reduceBNe, hnat, hge, hget, u8_one, hne, hg]; rfl) ?_; (focus omega)
   refine Fo.bin rfl rfl rfl (by simp only [↓nrmL, nrmZ, Nat.reduceEqDiff, ↓reduceIte, Nat.reduceAdd, Int.reduceBEq, Int.reduceBNe, hnat, hge, hget, u8_one, hne, hg]; rfl) ?_
   refine WpO.nil (hKF _ _ ?_)
   refine Wp.cond (b := true) rfl ?_
   refine rg fun KF hKF => ?_
   refine mI rfl ?_
   refine mI rfl ?_
   refine WpO.nil (hKF _ _ ?_)
   refine sq ?_
   refine rg fun KF hKF => ?_
   refine mI rfl ?_
   refine Fo.bin rfl rfl rfl (by simp only [↓nrmL, nrmZ, Nat.reduceEqDiff, ↓reduceIte, Nat.reduceAdd, Int.reduceBEq, Int.reduceBNe, hnat, hge, hget, u8_one, hne, hg]; rfl) ?_
   refine WpO.nil (hKF _ _ ?_)
   refine Wp.cond (b := true) rfl ?_
   refine sq ?_
   refine rg fun KF hKF => ?_
   refine Fo.mov (by simp only [↓nrmL, nrmK, Nat.reduceEqDiff, ↓reduceIte]; rfl) ?_
   refine mI rfl ?_
   refine Fo.idx (by simp only [↓nrmL, nrmK, Nat.reduceEqDiff, ↓reduceIte]; rfl) rfl ?_ (by simp only [↓nrmL, nrmZ, Nat.reduceEqDiff, ↓reduceIte, Nat.reduceAdd, Int.reduceBEq, Int.reduceBNe, hnat, hge, hget, u8_one, hne, hg]; rfl) ?_; (focus omega)
   refine WpO.do' (WpX.stB 1 rfl rfl rfl (by rw [hfl]; exact hil) fun H4 hb4 hw4 hx4 => ?_)
   rw [spP_on hs hdc hil hr0] at hb4
   refine WpO.nil (hKF _ _ ?_)
   refine rg fun KF hKF => ?_
   refine mI rfl ?_
   refine Fo.bin rfl rfl rfl rfl ?_
   refine mI rfl ?_
   refine WpO.nil (hKF _ _ ?_)
   refine rg fun KF hKF => ?_
   refine mI rfl ?_
   refine mI rfl ?_
   refine Fo.bin rfl rfl rfl rfl ?_
   refine mI rfl ?_
   refine WpO.nil (hKF _ _ ?_)
   dsimp only [cond_true, cond_false]
   refine ⟨d + 1, by omega, ⟨by simp only [↓nrmL, nrmZ, Nat.reduceEqDiff, ↓reduceIte, Nat.reduceAdd, Int.reduceBEq, Int.reduceBNe]; rw [hls1], by first | (simp only [↓nrmL, nrmZ, Nat.reduceEqDiff, ↓reduceIte, Nat.reduceAdd, Int.reduceBEq, Int.reduceBNe]; rw [hwn]; done) | (simp only [↓nrmL, nrmZ, Nat.reduceEqDiff, ↓reduceIte, Nat.reduceAdd, Int.reduceBEq, Int.reduceBNe]; rw [hwn']; done), trivial⟩, by omega, inferInstance, inferInstance, inferInstance⟩
 ·obtain rfl : d = c := by omega
  have hge : decide (spI f s d d ≥ (f : Int)) = false := by rw [spI_end]; exact decide_eq_false (by omega)
  try simp only [↓nrmL, nrmZ, Nat.reduceEqDiff, ↓reduceIte, Nat.reduceAdd, Int.reduceBEq, Int.reduceBNe, hge]
  refine sq ?_
  refine sq ?_
  refine rg fun KF hKF => ?_
  refine mI rfl ?_
  refine mI rfl ?_
  refine Fo.bin rfl rfl rfl (by simp only [↓nrmL, nrmZ, Nat.reduceEqDiff, ↓reduceIte, Nat.reduceAdd, Int.reduceBEq, Int.reduceBNe, hge]; rfl) ?_
  refine WpO.nil (hKF _ _ ?_)
  refine Wp.cond (b := false) rfl ?_
  refine Wp.exit ?_
  dsimp only [cond_true, cond_false]
  exact ⟨trivial, _, rfl, hb2, hw2, (inferInstance : ExtP0 H H2 p).ext⟩

theorem px_brR {a w y : Nat} {l : List UInt8} (h : pxOk l = true) : pxOk (brR l a w y) = true := ok_map_range fun t => by
 split
 ·split
  ·exact Or.inr rfl
  ·exact Or.inl rfl
 ·exact getD01 h t
theorem px_brC {a b h x : Nat} {l : List UInt8} (hp : pxOk l = true) : pxOk (brC l a b h x) = true := ok_map_range fun t => by
 split
 ·split
  ·exact Or.inr rfl
  ·exact Or.inl rfl
 ·exact getD01 hp t
theorem K_brush {a b w h : Nat} {p : AVal} {H : AHeap} {l : List UInt8} [hp : BytesI H p l] [hw : WrS H p] (ok : Ok a b l) (hw1 : 0 < w) (hw2 : w ≤ 64) (hh1 : 0 < h) (hh2 : h ≤ 64) : Con ext prog 2 118 [.agg [.int .i64 a, .int .i64 b, p], .int .i64 w, .int .i64 h] H fun _ H' => BytesI H' p (dilL l a b w h) ∧ WrS H' p ∧ ExtP H H' p := by
 refine con_of (show prog 118 = some c118 from rfl) rfl rfl fun n hn => ?_
 haveI := hp.one
 have hwa := ok.wa
 have hhb := ok.hb
 have hm : a * b ≤ 640 * 640 := Nat.mul_le_mul ok.wa ok.hb
 have hl := ok.len
 refine sq ?_
 refine rg fun KF hKF => ?_
 refine Fo.boxA rfl ?_
 refine WpO.nil (hKF _ _ ?_)
 refine sq ?_
 refine sq ?_
 refine rg fun KF hKF => ?_
 refine Fo.fa rfl ?_
 refine Fo.ld rfl rfl ?_
 refine mI rfl ?_
 refine WpO.nil (hKF _ _ ?_)
 refine Wp.block ?_
 dsimp only [cond_true, cond_false]
 refine Wp.loopS [6, 10, 11, 12, 13, 14, 15, 16, 17, 18, 19, 20, 21, 22, 23] (fun y : Nat => [(10, .int .i64 y)]) (fun H3 y H2 => y ≤ b ∧ BytesI H2 p (brR l a w y) ∧ WrS H2 p ∧ ExtP0 H3 H2 p) (fun y => b - y) 0 rfl (fun _ => rfl) ⟨rfl, trivial⟩ ⟨Nat.zero_le _, by rw [brR_zero]; infer_instance, inferInstance, inferInstance⟩ (by unfold fuel0 at hn; omega) ?_
 rintro y g H2 ⟨hy, hb2, hwr2, ⟨hx2⟩⟩
 simp only [↓nrmL, nrmZ, Nat.reduceEqDiff, ↓reduceIte, Nat.reduceAdd, Int.reduceBEq, Int.reduceBNe]
 cases hc : decide ((y : Int) < (b : Int))
 ·have hyb : y = b := by have := of_decide_eq_false hc; omega
  subst hyb
  try simp only [↓nrmL, nrmZ, Nat.reduceEqDiff, ↓reduceIte, Nat.reduceAdd, Int.reduceBEq, Int.reduceBNe, hc]
  refine sq ?_
  refine rg fun KF hKF => ?_
  refine Fo.bin rfl rfl rfl (by simp only [↓nrmL, nrmZ, Nat.reduceEqDiff, ↓reduceIte, Nat.reduceAdd, Int.reduceBEq, Int.reduceBNe, hc]; rfl) ?_
  refine WpO.nil (hKF _ _ ?_)
  refine sq ?_
  refine Wp.cond (b := false) rfl ?_
  refine Wp.exit ?_
  refine sq ?_
  refine rg fun KF hKF => ?_
  refine Fo.fa rfl ?_
  refine Fo.ld rfl rfl ?_
  refine mI rfl ?_
  refine WpO.nil (hKF _ _ ?_)
  refine Wp.block ?_
  dsimp only [cond_true, cond_false]
  refine Wp.loopS [7, 26, 27, 28, 29, 30, 31, 32, 33, 34, 35, 36, 37, 38] (fun x : Nat => [(26, .int .i64 x)]) (fun H3 x H4 => x ≤ a ∧ BytesI H4 p (brC (brR l a w y) a y h x) ∧ WrS H4 p ∧ ExtP0 H3 H4 p) (fun x => a - x) 0 rfl (fun _ => rfl) ⟨rfl, trivial⟩ ⟨Nat.zero_le _, by rw [brC_zero]; infer_instance, inferInstance, inferInstance⟩ (by unfold fuel0 at hn; omega) ?_
  rintro x g2 H4 ⟨hx0, hb4, hwr4, ⟨hx4⟩⟩
  simp only [↓nrmL, nrmZ, Nat.reduceEqDiff, ↓reduceIte, Nat.reduceAdd, Int.reduceBEq, Int.reduceBNe]
  cases hc2 : decide ((x : Int) < (a : Int))
  ·have hxa : x = a := by have := of_decide_eq_false hc2; omega
   subst hxa
   try simp only [↓nrmL, nrmZ, Nat.reduceEqDiff, ↓reduceIte, Nat.reduceAdd, Int.reduceBEq, Int.reduceBNe, hc2]
   refine sq ?_
   refine rg fun KF hKF => ?_
   refine Fo.bin rfl rfl rfl (by simp only [↓nrmL, nrmZ, Nat.reduceEqDiff, ↓reduceIte, Nat.reduceAdd, Int.reduceBEq, Int.reduceBNe, hc2]; rfl) ?_
   refine WpO.nil (hKF _ _ ?_)
   refine sq ?_
   refine Wp.cond (b := false) rfl ?_
   refine Wp.exit ?_
   dsimp only [cond_true, cond_false]
   exact ⟨trivial, _, rfl, hb4, hwr4, (inferInstance : ExtP0 H H4 p).ext⟩
  ·have hxa : x < a := by have := of_decide_eq_true hc2; omega
   have hw3 := wa1 (a := x) (by omega)
   have hlen : (brC (brR l a w y) a y h x).length = a * y := by rw [brC_length, brR_length, hl]
   try simp only [↓nrmL, nrmZ, Nat.reduceEqDiff, ↓reduceIte, Nat.reduceAdd, Int.reduceBEq, Int.reduceBNe, hc2]
   refine sq ?_
   refine rg fun KF hKF => ?_
   refine Fo.bin rfl rfl rfl (by simp only [↓nrmL, nrmZ, Nat.reduceEqDiff, ↓reduceIte, Nat.reduceAdd, Int.reduceBEq, Int.reduceBNe, hc2]; rfl) ?_
   refine WpO.nil (hKF _ _ ?_)
   refine sq ?_
   refine Wp.cond (b := true) rfl ?_
   refine Wp.skip ?_
   refine sq ?_
   refine Wp.block ?_
   refine sq ?_
   refine rg fun KF hKF => ?_
   refine mI rfl ?_
   refine mI rfl ?_
   refine WpO.nil (hKF _ _ ?_)
   refine rg fun KF hKF => ?_
   refine Fo.fa rfl ?_
   refine Fo.ld rfl rfl ?_
   refine mI rfl ?_
   refine Fo.fa rfl ?_
   refine Fo.ld rfl rfl ?_
   refine Fo.fa rfl ?_
   refine Fo.ld rfl rfl ?_
   refine mI rfl ?_
   refine WpO.do (WpX.conD hn rfl rfl (by simp only [↓nrmL, nrmZ, Nat.reduceEqDiff, ↓reduceIte, Nat.reduceAdd, Int.reduceBEq, Int.reduceBNe, List.map] <;> rfl) (K_spread (l := brC (brR l a w y) a y h x) (f := x) (s := a) (c := y) (n := h) (px_brC (px_brR ok.px)) (by omega) (by omega) (by omega) (by omega) (by omega) hh1 hh2 (fun j hj => by rw [hlen]; have := idx_lt hxa hj; omega)) fun v H5 h5 => ?_)
   obtain ⟨hb5, hwr5, hx5⟩ := h5
   rw [brC_succ (by rw [brR_length, hl]) hxa] at hb5
   refine WpO.nil (hKF _ _ ?_)
   refine rg fun KF hKF => ?_
   refine Fo.bin rfl rfl rfl rfl ?_
   refine mI rfl ?_
   refine WpO.nil (hKF _ _ ?_)
   dsimp only [cond_true, cond_false]
   refine ⟨x + 1, by omega, ⟨by simp only [↓nrmL, nrmZ, Nat.reduceEqDiff, ↓reduceIte, Nat.reduceAdd, Int.reduceBEq, Int.reduceBNe]; rw [hw3], trivial⟩, hxa, hb5, hwr5, inferInstance⟩
 ·have hyb : y < b := by have := of_decide_eq_true hc; omega
  have hw3 := wa1 (a := y) (by omega)
  have hr := row_le (a := a) hyb
  have hlen : (brR l a w y).length = a * b := by rw [brR_length, hl]
  have hmul : IntKind.i64.wrap ((y : Int) * (a : Int)) = ((y * a : Nat) : Int) := wm (by omega)
  try simp only [↓nrmL, nrmZ, Nat.reduceEqDiff, ↓reduceIte, Nat.reduceAdd, Int.reduceBEq, Int.reduceBNe, hc, hmul]
  refine sq ?_
  refine rg fun KF hKF => ?_
  refine Fo.bin rfl rfl rfl (by simp only [↓nrmL, nrmZ, Nat.reduceEqDiff, ↓reduceIte, Nat.reduceAdd, Int.reduceBEq, Int.reduceBNe, hc, hmul]; rfl) ?_
  refine WpO.nil (hKF _ _ ?_)
  refine sq ?_
  refine Wp.cond (b := true) rfl ?_
  refine Wp.skip ?_
  refine sq ?_
  refine Wp.block ?_
  refine sq ?_
  refine rg fun KF hKF => ?_
  refine mI rfl ?_
  refine mI rfl ?_
  refine WpO.nil (hKF _ _ ?_)
  refine rg fun KF hKF => ?_
  refine Fo.fa rfl ?_
  refine Fo.ld rfl rfl ?_
  refine mI rfl ?_
  refine Fo.fa rfl ?_
  refine Fo.ld rfl rfl ?_
  refine Fo.bin rfl rfl rfl (by simp only [↓nrmL, nrmZ, Nat.reduceEqDiff, ↓reduceIte, Nat.reduceAdd, Int.reduceBEq, Int.reduceBNe, hc, hmul]; rfl) ?_
  refine Fo.fa rfl ?_
  refine Fo.ld rfl rfl ?_
  refine mI rfl ?_
  refine WpO.do (WpX.conD hn rfl rfl (by simp only [↓nrmL, nrmZ, Nat.reduceEqDiff, ↓reduceIte, Nat.reduceAdd, Int.reduceBEq, Int.reduceBNe, List.map] <;> rfl) (K_spread (l := brR l a w y) (f := y * a) (s := 1) (c := a) (n := w) (px_brR ok.px) (by omega) (by omega) (by omega) (by omega) (by omega) hw1 hw2 (fun j hj => by rw [hlen]; omega)) fun v H5 h5 => ?_)
  obtain ⟨hb5, hwr5, hx5⟩ := h5
  rw [brR_succ hl hyb] at hb5
  refine WpO.nil (hKF _ _ ?_)
  refine rg fun KF hKF => ?_
  refine Fo.bin rfl rfl rfl rfl ?_
  refine mI rfl ?_
  refine WpO.nil (hKF _ _ ?_)
  dsimp only [cond_true, cond_false]
  refine ⟨y + 1, by omega, ⟨by simp only [↓nrmL, nrmZ, Nat.reduceEqDiff, ↓reduceIte, Nat.reduceAdd, Int.reduceBEq, Int.reduceBNe]; rw [hw3], trivial⟩, hyb, hb5, hwr5, inferInstance⟩

instance K_checkBrush {p : AVal} {H : AHeap} {w h x y : Int} {l : List UInt8} [hp : BytesI H p l] : PureCon ext prog 117 [.agg [.int .i64 w, .int .i64 h, p], .int .i64 x, .int .i64 y] H 4 (.int .i64 (bif Img.err ⟨w, h, l⟩ == 0 then (bif decide (x < 1) || decide (x > 64) || decide (y < 1) || decide (y > 64) then 1 else 0) else Img.err ⟨w, h, l⟩)) := ⟨by
 refine con_of (show prog 117 = some c117 from rfl) rfl rfl fun n hn => ?_
 haveI := hp.one
 cases h0 : (Img.err ⟨w, h, l⟩ == 0)
 ·skip
  try simp only [↓nrmL, nrmZ, Nat.reduceEqDiff, ↓reduceIte, Nat.reduceAdd, Int.reduceBEq, Int.reduceBNe, h0, bne]
  refine sq ?_
  refine rg fun KF hKF => ?_
  refine Fo.boxA rfl ?_
  refine mI rfl ?_
  refine WpO.nil (hKF _ _ ?_)
  refine sq ?_
  refine sq ?_
  refine rg fun KF hKF => ?_
  refine Fo.ldN rfl rfl (by simp only [↓nrmL, nrmZ, Nat.reduceEqDiff, ↓reduceIte, Nat.reduceAdd, Int.reduceBEq, Int.reduceBNe, h0, bne]; rfl) ?_
  refine Fo.pcall (v' := ?_) hn rfl (by simp only [↓nrmL, nrmZ, Nat.reduceEqDiff, ↓reduceIte, Nat.reduceAdd, Int.reduceBEq, Int.reduceBNe, h0, bne, List.map]; rfl) rfl ?hv fun _ _ => ?_; case hv => rfl
  refine mI rfl ?_
  refine WpO.nil (hKF _ _ ?_)
  refine sq ?_
  refine rg fun KF hKF => ?_
  refine mI rfl ?_
  refine Fo.bin rfl rfl rfl (by simp only [↓nrmL, nrmZ, Nat.reduceEqDiff, ↓reduceIte, Nat.reduceAdd, Int.reduceBEq, Int.reduceBNe, h0, bne]; rfl) ?_
  refine WpO.nil (hKF _ _ ?_)
  refine Wp.cond (b := true) rfl ?_
  refine sq ?_
  refine rg fun KF hKF => ?_
  refine mI rfl ?_
  refine mI rfl ?_
  refine WpO.nil (hKF _ _ ?_)
  refine Wp.ret ?_
  dsimp only [cond_true, cond_false]
  refine ⟨trivial, _, (by first | rfl | exact getAllC rfl rfl rfl rfl | exact getAllT rfl (getAllC rfl rfl rfl rfl) | exact getAllC rfl rfl rfl (getAllC rfl rfl rfl rfl) | exact getAllC1 rfl rfl rfl), ?_⟩
  exact ⟨rfl, Ext0.ext⟩
 ·cases h1 : decide (x < 1)
  ·cases h2 : decide (x > 64)
   ·cases h3 : decide (y < 1)
    ·cases h4 : decide (y > 64)
     ·skip
      try simp only [↓nrmL, nrmZ, Nat.reduceEqDiff, ↓reduceIte, Nat.reduceAdd, Int.reduceBEq, Int.reduceBNe, h0, bne, h1, h2, h3, h4]
      refine sq ?_
      refine rg fun KF hKF => ?_
      refine Fo.boxA rfl ?_
      refine mI rfl ?_
      refine WpO.nil (hKF _ _ ?_)
      refine sq ?_
      refine sq ?_
      refine rg fun KF hKF => ?_
      refine Fo.ldN rfl rfl (by simp only [↓nrmL, nrmZ, Nat.reduceEqDiff, ↓reduceIte, Nat.reduceAdd, Int.reduceBEq, Int.reduceBNe, h0, bne, h1, h2, h3, h4]; rfl) ?_
      refine Fo.pcall (v' := ?_) hn rfl (by simp only [↓nrmL, nrmZ, Nat.reduceEqDiff, ↓reduceIte, Nat.reduceAdd, Int.reduceBEq, Int.reduceBNe, h0, bne, h1, h2, h3, h4, List.map]; rfl) rfl ?hv fun _ _ => ?_; case hv => rfl
      refine mI rfl ?_
      refine WpO.nil (hKF _ _ ?_)
      refine sq ?_
      refine rg fun KF hKF => ?_
      refine mI rfl ?_
      refine Fo.bin rfl rfl rfl (by simp only [↓nrmL, nrmZ, Nat.reduceEqDiff, ↓reduceIte, Nat.reduceAdd, Int.reduceBEq, Int.reduceBNe, h0, bne, h1, h2, h3, h4]; rfl) ?_
      refine WpO.nil (hKF _ _ ?_)
      refine Wp.cond (b := false) rfl ?_
      refine Wp.skip ?_
      refine sq ?_
      refine sq ?_
      refine rg fun KF hKF => ?_
      refine mI rfl ?_
      refine Fo.bin rfl rfl rfl (by simp only [↓nrmL, nrmZ, Nat.reduceEqDiff, ↓reduceIte, Nat.reduceAdd, Int.reduceBEq, Int.reduceBNe, h0, bne, h1, h2, h3, h4]; rfl) ?_
      refine mB rfl ?_
      refine Fo.yes rfl rfl ?_
      refine mI rfl ?_
      refine Fo.yes rfl rfl ?_
      refine Fo.bin rfl rfl rfl (by simp only [↓nrmL, nrmZ, Nat.reduceEqDiff, ↓reduceIte, Nat.reduceAdd, Int.reduceBEq, Int.reduceBNe, h0, bne, h1, h2, h3, h4]; rfl) ?_
      refine fB rfl rfl ?_
      refine mB rfl ?_
      refine Fo.yes rfl rfl ?_
      refine mI rfl ?_
      refine Fo.yes rfl rfl ?_
      refine Fo.bin rfl rfl rfl (by simp only [↓nrmL, nrmZ, Nat.reduceEqDiff, ↓reduceIte, Nat.reduceAdd, Int.reduceBEq, Int.reduceBNe, h0, bne, h1, h2, h3, h4]; rfl) ?_
      refine fB rfl rfl ?_
      refine mB rfl ?_
      refine Fo.yes rfl rfl ?_
      refine mI rfl ?_
      refine Fo.yes rfl rfl ?_
      refine Fo.bin rfl rfl rfl (by simp only [↓nrmL, nrmZ, Nat.reduceEqDiff, ↓reduceIte, Nat.reduceAdd, Int.reduceBEq, Int.reduceBNe, h0, bne, h1, h2, h3, h4]; rfl) ?_
      refine fB rfl rfl ?_
      refine WpO.nil (hKF _ _ ?_)
      refine Wp.cond (b := false) rfl ?_
      refine Wp.skip ?_
      refine sq ?_
      refine rg fun KF hKF => ?_
      refine mI rfl ?_
      refine WpO.nil (hKF _ _ ?_)
      refine Wp.ret ?_
      dsimp only [cond_true, cond_false]
      refine ⟨trivial, _, (by first | rfl | exact getAllC rfl rfl rfl rfl | exact getAllT rfl (getAllC rfl rfl rfl rfl) | exact getAllC rfl rfl rfl (getAllC rfl rfl rfl rfl) | exact getAllC1 rfl rfl rfl), ?_⟩
      exact ⟨rfl, Ext0.ext⟩
     ·skip
      try simp only [↓nrmL, nrmZ, Nat.reduceEqDiff, ↓reduceIte, Nat.reduceAdd, Int.reduceBEq, Int.reduceBNe, h0, bne, h1, h2, h3, h4]
      refine sq ?_
      refine rg fun KF hKF => ?_
      refine Fo.boxA rfl ?_
      refine mI rfl ?_
      refine WpO.nil (hKF _ _ ?_)
      refine sq ?_
      refine sq ?_
      refine rg fun KF hKF => ?_
      refine Fo.ldN rfl rfl (by simp only [↓nrmL, nrmZ, Nat.reduceEqDiff, ↓reduceIte, Nat.reduceAdd, Int.reduceBEq, Int.reduceBNe, h0, bne, h1, h2, h3, h4]; rfl) ?_
      refine Fo.pcall (v' := ?_) hn rfl (by simp only [↓nrmL, nrmZ, Nat.reduceEqDiff, ↓reduceIte, Nat.reduceAdd, Int.reduceBEq, Int.reduceBNe, h0, bne, h1, h2, h3, h4, List.map]; rfl) rfl ?hv fun _ _ => ?_; case hv => rfl
      refine mI rfl ?_
      refine WpO.nil (hKF _ _ ?_)
      refine sq ?_
      refine rg fun KF hKF => ?_
      refine mI rfl ?_
      refine Fo.bin rfl rfl rfl (by simp only [↓nrmL, nrmZ, Nat.reduceEqDiff, ↓reduceIte, Nat.reduceAdd, Int.reduceBEq, Int.reduceBNe, h0, bne, h1, h2, h3, h4]; rfl) ?_
      refine WpO.nil (hKF _ _ ?_)
      refine Wp.cond (b := false) rfl ?_
      refine Wp.skip ?_
      refine sq ?_
      refine sq ?_
      refine rg fun KF hKF => ?_
      refine mI rfl ?_
      refine Fo.bin rfl rfl rfl (by simp only [↓nrmL, nrmZ, Nat.reduceEqDiff, ↓reduceIte, Nat.reduceAdd, Int.reduceBEq, Int.reduceBNe, h0, bne, h1, h2, h3, h4]; rfl) ?_
      refine mB rfl ?_
      refine Fo.yes rfl rfl ?_
      refine mI rfl ?_
      refine Fo.yes rfl rfl ?_
      refine Fo.bin rfl rfl rfl (by simp only [↓nrmL, nrmZ, Nat.reduceEqDiff, ↓reduceIte, Nat.reduceAdd, Int.reduceBEq, Int.reduceBNe, h0, bne, h1, h2, h3, h4]; rfl) ?_
      refine fB rfl rfl ?_
      refine mB rfl ?_
      refine Fo.yes rfl rfl ?_
      refine mI rfl ?_
      refine Fo.yes rfl rfl ?_
      refine Fo.bin rfl rfl rfl (by simp only [↓nrmL, nrmZ, Nat.reduceEqDiff, ↓reduceIte, Nat.reduceAdd, Int.reduceBEq, Int.reduceBNe, h0, bne, h1, h2, h3, h4]; rfl) ?_
      refine fB rfl rfl ?_
      refine mB rfl ?_
      refine Fo.yes rfl rfl ?_
      refine mI rfl ?_
      refine Fo.yes rfl rfl ?_
      refine Fo.bin rfl rfl rfl (by simp only [↓nrmL, nrmZ, Nat.reduceEqDiff, ↓reduceIte, Nat.reduceAdd, Int.reduceBEq, Int.reduceBNe, h0, bne, h1, h2, h3, h4]; rfl) ?_
      refine fB rfl rfl ?_
      refine WpO.nil (hKF _ _ ?_)
      refine Wp.cond (b := true) rfl ?_
      refine sq ?_
      refine rg fun KF hKF => ?_
      refine mI rfl ?_
      refine WpO.nil (hKF _ _ ?_)
      refine Wp.ret ?_
      dsimp only [cond_true, cond_false]
      refine ⟨trivial, _, (by first | rfl | exact getAllC rfl rfl rfl rfl | exact getAllT rfl (getAllC rfl rfl rfl rfl) | exact getAllC rfl rfl rfl (getAllC rfl rfl rfl rfl) | exact getAllC1 rfl rfl rfl), ?_⟩
      exact ⟨rfl, Ext0.ext⟩
    ·skip
     try simp only [↓nrmL, nrmZ, Nat.reduceEqDiff, ↓reduceIte, Nat.reduceAdd, Int.reduceBEq, Int.reduceBNe, h0, bne, h1, h2, h3]
     refine sq ?_
     refine rg fun KF hKF => ?_
     refine Fo.boxA rfl ?_
     refine mI rfl ?_
     refine WpO.nil (hKF _ _ ?_)
     refine sq ?_
     refine sq ?_
     refine rg fun KF hKF => ?_
     refine Fo.ldN rfl rfl (by simp only [↓nrmL, nrmZ, Nat.reduceEqDiff, ↓reduceIte, Nat.reduceAdd, Int.reduceBEq, Int.reduceBNe, h0, bne, h1, h2, h3]; rfl) ?_
     refine Fo.pcall (v' := ?_) hn rfl (by simp only [↓nrmL, nrmZ, Nat.reduceEqDiff, ↓reduceIte, Nat.reduceAdd, Int.reduceBEq, Int.reduceBNe, h0, bne, h1, h2, h3, List.map]; rfl) rfl ?hv fun _ _ => ?_; case hv => rfl
     refine mI rfl ?_
     refine WpO.nil (hKF _ _ ?_)
     refine sq ?_
     refine rg fun KF hKF => ?_
     refine mI rfl ?_
     refine Fo.bin rfl rfl rfl (by simp only [↓nrmL, nrmZ, Nat.reduceEqDiff, ↓reduceIte, Nat.reduceAdd, Int.reduceBEq, Int.reduceBNe, h0, bne, h1, h2, h3]; rfl) ?_
     refine WpO.nil (hKF _ _ ?_)
     refine Wp.cond (b := false) rfl ?_
     refine Wp.skip ?_
     refine sq ?_
     refine sq ?_
     refine rg fun KF hKF => ?_
     refine mI rfl ?_
     refine Fo.bin rfl rfl rfl (by simp only [↓nrmL, nrmZ, Nat.reduceEqDiff, ↓reduceIte, Nat.reduceAdd, Int.reduceBEq, Int.reduceBNe, h0, bne, h1, h2, h3]; rfl) ?_
     refine mB rfl ?_
     refine Fo.yes rfl rfl ?_
     refine mI rfl ?_
     refine Fo.yes rfl rfl ?_
     refine Fo.bin rfl rfl rfl (by simp only [↓nrmL, nrmZ, Nat.reduceEqDiff, ↓reduceIte, Nat.reduceAdd, Int.reduceBEq, Int.reduceBNe, h0, bne, h1, h2, h3]; rfl) ?_
     refine fB rfl rfl ?_
     refine mB rfl ?_
     refine Fo.yes rfl rfl ?_
     refine mI rfl ?_
     refine Fo.yes rfl rfl ?_
     refine Fo.bin rfl rfl rfl (by simp only [↓nrmL, nrmZ, Nat.reduceEqDiff, ↓reduceIte, Nat.reduceAdd, Int.reduceBEq, Int.reduceBNe, h0, bne, h1, h2, h3]; rfl) ?_
     refine fB rfl rfl ?_
     refine mB rfl ?_
     refine Fo.no rfl rfl ?_
     refine Fo.no rfl rfl ?_
     refine tB rfl rfl ?_
     refine WpO.nil (hKF _ _ ?_)
     refine Wp.cond (b := true) rfl ?_
     refine sq ?_
     refine rg fun KF hKF => ?_
     refine mI rfl ?_
     refine WpO.nil (hKF _ _ ?_)
     refine Wp.ret ?_
     dsimp only [cond_true, cond_false]
     refine ⟨trivial, _, (by first | rfl | exact getAllC rfl rfl rfl rfl | exact getAllT rfl (getAllC rfl rfl rfl rfl) | exact getAllC rfl rfl rfl (getAllC rfl rfl rfl rfl) | exact getAllC1 rfl rfl rfl), ?_⟩
     exact ⟨rfl, Ext0.ext⟩
   ·skip
    try simp only [↓nrmL, nrmZ, Nat.reduceEqDiff, ↓reduceIte, Nat.reduceAdd, Int.reduceBEq, Int.reduceBNe, h0, bne, h1, h2]
    refine sq ?_
    refine rg fun KF hKF => ?_
    refine Fo.boxA rfl ?_
    refine mI rfl ?_
    refine WpO.nil (hKF _ _ ?_)
    refine sq ?_
    refine sq ?_
    refine rg fun KF hKF => ?_
    refine Fo.ldN rfl rfl (by simp only [↓nrmL, nrmZ, Nat.reduceEqDiff, ↓reduceIte, Nat.reduceAdd, Int.reduceBEq, Int.reduceBNe, h0, bne, h1, h2]; rfl) ?_
    refine Fo.pcall (v' := ?_) hn rfl (by simp only [↓nrmL, nrmZ, Nat.reduceEqDiff, ↓reduceIte, Nat.reduceAdd, Int.reduceBEq, Int.reduceBNe, h0, bne, h1, h2, List.map]; rfl) rfl ?hv fun _ _ => ?_; case hv => rfl
    refine mI rfl ?_
    refine WpO.nil (hKF _ _ ?_)
    refine sq ?_
    refine rg fun KF hKF => ?_
    refine mI rfl ?_
    refine Fo.bin rfl rfl rfl (by simp only [↓nrmL, nrmZ, Nat.reduceEqDiff, ↓reduceIte, Nat.reduceAdd, Int.reduceBEq, Int.reduceBNe, h0, bne, h1, h2]; rfl) ?_
    refine WpO.nil (hKF _ _ ?_)
    refine Wp.cond (b := false) rfl ?_
    refine Wp.skip ?_
    refine sq ?_
    refine sq ?_
    refine rg fun KF hKF => ?_
    refine mI rfl ?_
    refine Fo.bin rfl rfl rfl (by simp only [↓nrmL, nrmZ, Nat.reduceEqDiff, ↓reduceIte, Nat.reduceAdd, Int.reduceBEq, Int.reduceBNe, h0, bne, h1, h2]; rfl) ?_
    refine mB rfl ?_
    refine Fo.yes rfl rfl ?_
    refine mI rfl ?_
    refine Fo.yes rfl rfl ?_
    refine Fo.bin rfl rfl rfl (by simp only [↓nrmL, nrmZ, Nat.reduceEqDiff, ↓reduceIte, Nat.reduceAdd, Int.reduceBEq, Int.reduceBNe, h0, bne, h1, h2]; rfl) ?_
    refine fB rfl rfl ?_
    refine mB rfl ?_
    refine Fo.no rfl rfl ?_
    refine Fo.no rfl rfl ?_
    refine tB rfl rfl ?_
    refine mB rfl ?_
    refine Fo.no rfl rfl ?_
    refine Fo.no rfl rfl ?_
    refine tB rfl rfl ?_
    refine WpO.nil (hKF _ _ ?_)
    refine Wp.cond (b := true) rfl ?_
    refine sq ?_
    refine rg fun KF hKF => ?_
    refine mI rfl ?_
    refine WpO.nil (hKF _ _ ?_)
    refine Wp.ret ?_
    dsimp only [cond_true, cond_false]
    refine ⟨trivial, _, (by first | rfl | exact getAllC rfl rfl rfl rfl | exact getAllT rfl (getAllC rfl rfl rfl rfl) | exact getAllC rfl rfl rfl (getAllC rfl rfl rfl rfl) | exact getAllC1 rfl rfl rfl), ?_⟩
    exact ⟨rfl, Ext0.ext⟩
  ·skip
   try simp only [↓nrmL, nrmZ, Nat.reduceEqDiff, ↓reduceIte, Nat.reduceAdd, Int.reduceBEq, Int.reduceBNe, h0, bne, h1]
   refine sq ?_
   refine rg fun KF hKF => ?_
   refine Fo.boxA rfl ?_
   refine mI rfl ?_
   refine WpO.nil (hKF _ _ ?_)
   refine sq ?_
   refine sq ?_
   refine rg fun KF hKF => ?_
   refine Fo.ldN rfl rfl (by simp only [↓nrmL, nrmZ, Nat.reduceEqDiff, ↓reduceIte, Nat.reduceAdd, Int.reduceBEq, Int.reduceBNe, h0, bne, h1]; rfl) ?_
   refine Fo.pcall (v' := ?_) hn rfl (by simp only [↓nrmL, nrmZ, Nat.reduceEqDiff, ↓reduceIte, Nat.reduceAdd, Int.reduceBEq, Int.reduceBNe, h0, bne, h1, List.map]; rfl) rfl ?hv fun _ _ => ?_; case hv => rfl
   refine mI rfl ?_
   refine WpO.nil (hKF _ _ ?_)
   refine sq ?_
   refine rg fun KF hKF => ?_
   refine mI rfl ?_
   refine Fo.bin rfl rfl rfl (by simp only [↓nrmL, nrmZ, Nat.reduceEqDiff, ↓reduceIte, Nat.reduceAdd, Int.reduceBEq, Int.reduceBNe, h0, bne, h1]; rfl) ?_
   refine WpO.nil (hKF _ _ ?_)
   refine Wp.cond (b := false) rfl ?_
   refine Wp.skip ?_
   refine sq ?_
   refine sq ?_
   refine rg fun KF hKF => ?_
   refine mI rfl ?_
   refine Fo.bin rfl rfl rfl (by simp only [↓nrmL, nrmZ, Nat.reduceEqDiff, ↓reduceIte, Nat.reduceAdd, Int.reduceBEq, Int.reduceBNe, h0, bne, h1]; rfl) ?_
   refine mB rfl ?_
   refine Fo.no rfl rfl ?_
   refine Fo.no rfl rfl ?_
   refine tB rfl rfl ?_
   refine mB rfl ?_
   refine Fo.no rfl rfl ?_
   refine Fo.no rfl rfl ?_
   refine tB rfl rfl ?_
   refine mB rfl ?_
   refine Fo.no rfl rfl ?_
   refine Fo.no rfl rfl ?_
   refine tB rfl rfl ?_
   refine WpO.nil (hKF _ _ ?_)
   refine Wp.cond (b := true) rfl ?_
   refine sq ?_
   refine rg fun KF hKF => ?_
   refine mI rfl ?_
   refine WpO.nil (hKF _ _ ?_)
   refine Wp.ret ?_
   dsimp only [cond_true, cond_false]
   refine ⟨trivial, _, (by first | rfl | exact getAllC rfl rfl rfl rfl | exact getAllT rfl (getAllC rfl rfl rfl rfl) | exact getAllC rfl rfl rfl (getAllC rfl rfl rfl rfl) | exact getAllC1 rfl rfl rfl), ?_⟩
   exact ⟨rfl, Ext0.ext⟩⟩
theorem brushOk {w h : Nat} (hw1 : 0 < w) (hw2 : w ≤ 64) (hh1 : 0 < h) (hh2 : h ≤ 64) : (decide ((w : Int) < 1) || decide ((w : Int) > 64) || decide ((h : Int) < 1) || decide ((h : Int) > 64)) = false := by
 simp only [Bool.or_eq_false_iff, decide_eq_false_iff_not]
 omega
theorem K_dilV {a b w h : Nat} {p : AVal} {H : AHeap} {l : List UInt8} [hp : BytesI H p l] (ok : Ok a b l) (hw1 : 0 < w) (hw2 : w ≤ 64) (hh1 : 0 < h) (hh2 : h ≤ 64) : Con ext prog 5 63 [.agg [.int .i64 a, .int .i64 b, p], .int .i64 w, .int .i64 h] H fun v H' => InkRes H H' v (⟨a, b, dilL l a b w h⟩, 0) := by
 refine con_of (show prog 63 = some c63 from rfl) rfl rfl fun n hn => ?_
 haveI := hp.one
 have he := ok.err
 have hbo := brushOk hw1 hw2 hh1 hh2
 have hsh := ok.short
 try simp only [↓nrmL, nrmZ, Nat.reduceEqDiff, ↓reduceIte, Nat.reduceAdd, Int.reduceBEq, Int.reduceBNe, he, hbo, beq_self_eq_true, cond_true, cond_false]
 refine sq ?_
 refine rg fun KF hKF => ?_
 refine Fo.boxA rfl ?_
 refine Fo.new ?_
 refine mI rfl ?_
 refine WpO.nil (hKF _ _ ?_)
 refine sq ?_
 refine sq ?_
 refine rg fun KF hKF => ?_
 refine Fo.ldN rfl rfl (by simp only [↓nrmL, nrmZ, Nat.reduceEqDiff, ↓reduceIte, Nat.reduceAdd, Int.reduceBEq, Int.reduceBNe, he, hbo, beq_self_eq_true, cond_true, cond_false]; rfl) ?_
 refine mI rfl ?_
 refine mI rfl ?_
 refine Fo.pcall (v' := ?_) hn rfl (by simp only [↓nrmL, nrmZ, Nat.reduceEqDiff, ↓reduceIte, Nat.reduceAdd, Int.reduceBEq, Int.reduceBNe, he, hbo, beq_self_eq_true, cond_true, cond_false, List.map]; rfl) rfl ?hv fun _ _ => ?_; case hv => (simp only [↓nrmL, nrmZ, Nat.reduceEqDiff, ↓reduceIte, Nat.reduceAdd, Int.reduceBEq, Int.reduceBNe, he, hbo, beq_self_eq_true, cond_true, cond_false]; rfl)
 refine mI rfl ?_
 refine WpO.nil (hKF _ _ ?_)
 refine sq ?_
 refine rg fun KF hKF => ?_
 refine mI rfl ?_
 refine Fo.bin rfl rfl rfl (by simp only [↓nrmL, nrmZ, Nat.reduceEqDiff, ↓reduceIte, Nat.reduceAdd, Int.reduceBEq, Int.reduceBNe, he, hbo, beq_self_eq_true, cond_true, cond_false]; rfl) ?_
 refine WpO.nil (hKF _ _ ?_)
 refine Wp.cond (b := false) rfl ?_
 refine Wp.skip ?_
 refine sq ?_
 refine rg fun KF hKF => ?_
 refine Fo.ldN rfl rfl (by simp only [↓nrmL, nrmZ, Nat.reduceEqDiff, ↓reduceIte, Nat.reduceAdd, Int.reduceBEq, Int.reduceBNe, he, hbo, beq_self_eq_true, cond_true, cond_false]; rfl) ?_
 refine WpO.do (WpX.conD hn rfl rfl (by simp only [↓nrmL, nrmZ, Nat.reduceEqDiff, ↓reduceIte, Nat.reduceAdd, Int.reduceBEq, Int.reduceBNe, List.map] <;> rfl) (K_twin (l := l) (by omega)) fun v H1 h5 => ?_)
 obtain ⟨q, e1, hq, hfq, hwq, hxq⟩ := h5
 subst e1
 try dsimp only at hq
 haveI : ExtI _ H1 := ⟨hxq⟩
 haveI := hq.one
 refine Fo.new ?_
 refine Fo.st rfl (rfl : _ = AVal.agg _) rfl rfl rfl (by repeat (first | rfl | refine allOne_cons ?_)) (by simp only [↓nrmL, nrmZ, Nat.reduceEqDiff, ↓reduceIte, Nat.reduceAdd, Int.reduceBEq, Int.reduceBNe]; rfl) ?_
 refine WpO.nil (hKF _ _ ?_)
 refine sq ?_
 refine rg fun KF hKF => ?_
 refine Fo.ldN rfl rfl (by simp only [↓nrmL, nrmZ, Nat.reduceEqDiff, ↓reduceIte, Nat.reduceAdd, Int.reduceBEq, Int.reduceBNe]; rfl) ?_
 refine mI rfl ?_
 refine mI rfl ?_
 dsimp only [cond_true, cond_false]
 refine WpO.do (WpX.conD hn rfl rfl (by simp only [↓nrmL, nrmZ, Nat.reduceEqDiff, ↓reduceIte, Nat.reduceAdd, Int.reduceBEq, Int.reduceBNe, List.map] <;> rfl) (K_brush ok hw1 hw2 hh1 hh2) fun v H2 h5 => ?_)
 obtain ⟨hb2, hwr2, hx2⟩ := h5
 refine WpO.nil (hKF _ _ ?_)
 refine sq ?_
 refine rg fun KF hKF => ?_
 refine Fo.ldN rfl rfl (by simp only [↓nrmL, nrmZ, Nat.reduceEqDiff, ↓reduceIte, Nat.reduceAdd, Int.reduceBEq, Int.reduceBNe]; rfl) ?_
 refine Fo.st rfl (rfl : _ = AVal.agg _) rfl rfl rfl (by repeat (first | rfl | refine allOne_cons ?_)) (by simp only [↓nrmL, nrmZ, Nat.reduceEqDiff, ↓reduceIte, Nat.reduceAdd, Int.reduceBEq, Int.reduceBNe]; rfl) ?_
 refine mI rfl ?_
 refine WpO.nil (hKF _ _ ?_)
 refine Wp.ret ?_
 dsimp only [cond_true, cond_false]
 refine ⟨trivial, _, (by first | rfl | exact getAllC rfl rfl rfl rfl | exact getAllT rfl (getAllC rfl rfl rfl rfl) | exact getAllC rfl rfl rfl (getAllC rfl rfl rfl rfl) | exact getAllC1 rfl rfl rfl), ?_⟩
 exact ⟨_, rfl, q, rfl, (show BytesI _ q (dilL l a b w h) from inferInstance), hfq.weak, inferInstance, Ext0.ext⟩
theorem Part.whole {H : AHeap} {p : AVal} {l : List UInt8} (hp : BytesI H p l) : Part p p 0 l.length := by
 rcases hp.it with ⟨rfl, h0, _⟩ | ⟨r, off, cap, row, rw, e, rfl, _⟩
 ·exact ⟨Or.inl ⟨h0, rfl, rfl, rfl⟩⟩
 ·exact ⟨Or.inr ⟨r, off, l.length, cap, cap, rfl, rfl, by omega⟩⟩
theorem K_eroV {a b w h : Nat} {p : AVal} {H : AHeap} {l : List UInt8} [hp : BytesI H p l] (ok : Ok a b l) (hw1 : 0 < w) (hw2 : w ≤ 64) (hh1 : 0 < h) (hh2 : h ≤ 64) : Con ext prog 5 65 [.agg [.int .i64 a, .int .i64 b, p], .int .i64 w, .int .i64 h] H fun v H' => InkRes H H' v (⟨a, b, eroL l a b w h⟩, 0) := by
 refine con_of (show prog 65 = some c65 from rfl) rfl rfl fun n hn => ?_
 haveI := hp.one
 have he := ok.err
 have hbo := brushOk hw1 hw2 hh1 hh2
 have hsh := ok.short
 have ok1 := ok_map ok
 have ok2 := ok_rev ok1
 have ok3 := ok_dil (w := w) (h := h) ok2
 have ok4 := ok_rev ok3
 have s1 := ok1.short
 have s3 := ok3.short
 have s4 := ok4.short
 try simp only [↓nrmL, nrmZ, Nat.reduceEqDiff, ↓reduceIte, Nat.reduceAdd, Int.reduceBEq, Int.reduceBNe, he, hbo, beq_self_eq_true, cond_true, cond_false]
 refine sq ?_
 refine rg fun KF hKF => ?_
 refine Fo.boxA rfl ?_
 refine Fo.new ?_
 refine mI rfl ?_
 refine WpO.nil (hKF _ _ ?_)
 refine sq ?_
 refine sq ?_
 refine rg fun KF hKF => ?_
 refine Fo.ldN rfl rfl (by simp only [↓nrmL, nrmZ, Nat.reduceEqDiff, ↓reduceIte, Nat.reduceAdd, Int.reduceBEq, Int.reduceBNe, he, hbo, beq_self_eq_true, cond_true, cond_false]; rfl) ?_
 refine mI rfl ?_
 refine mI rfl ?_
 refine Fo.pcall (v' := ?_) hn rfl (by simp only [↓nrmL, nrmZ, Nat.reduceEqDiff, ↓reduceIte, Nat.reduceAdd, Int.reduceBEq, Int.reduceBNe, he, hbo, beq_self_eq_true, cond_true, cond_false, List.map]; rfl) rfl ?hv fun _ _ => ?_; case hv => (simp only [↓nrmL, nrmZ, Nat.reduceEqDiff, ↓reduceIte, Nat.reduceAdd, Int.reduceBEq, Int.reduceBNe, he, hbo, beq_self_eq_true, cond_true, cond_false]; rfl)
 refine mI rfl ?_
 refine WpO.nil (hKF _ _ ?_)
 refine sq ?_
 refine rg fun KF hKF => ?_
 refine mI rfl ?_
 refine Fo.bin rfl rfl rfl (by simp only [↓nrmL, nrmZ, Nat.reduceEqDiff, ↓reduceIte, Nat.reduceAdd, Int.reduceBEq, Int.reduceBNe, he, hbo, beq_self_eq_true, cond_true, cond_false]; rfl) ?_
 refine WpO.nil (hKF _ _ ?_)
 refine Wp.cond (b := false) rfl ?_
 refine Wp.skip ?_
 refine sq ?_
 refine rg fun KF hKF => ?_
 refine Fo.ldN rfl rfl (by simp only [↓nrmL, nrmZ, Nat.reduceEqDiff, ↓reduceIte, Nat.reduceAdd, Int.reduceBEq, Int.reduceBNe, he, hbo, beq_self_eq_true, cond_true, cond_false]; rfl) ?_
 refine WpO.do (WpX.conD hn rfl rfl (by simp only [↓nrmL, nrmZ, Nat.reduceEqDiff, ↓reduceIte, Nat.reduceAdd, Int.reduceBEq, Int.reduceBNe, List.map] <;> rfl) (K_twin (l := l) (by omega)) fun v H1 h5 => ?_)
 obtain ⟨q, e1, hq, hfq, hwq, hxq⟩ := h5
 subst e1
 try dsimp only at hq
 haveI : ExtI _ H1 := ⟨hxq⟩
 haveI := hq.one
 refine Fo.new ?_
 refine Fo.st rfl (rfl : _ = AVal.agg _) rfl rfl rfl (by repeat (first | rfl | refine allOne_cons ?_)) (by simp only [↓nrmL, nrmZ, Nat.reduceEqDiff, ↓reduceIte, Nat.reduceAdd, Int.reduceBEq, Int.reduceBNe]; rfl) ?_
 refine WpO.nil (hKF _ _ ?_)
 refine sq ?_
 refine rg fun KF hKF => ?_
 refine Fo.ldN rfl rfl (by simp only [↓nrmL, nrmZ, Nat.reduceEqDiff, ↓reduceIte, Nat.reduceAdd, Int.reduceBEq, Int.reduceBNe]; rfl) ?_
 dsimp only [cond_true, cond_false]
 refine WpO.do (WpX.conD hn rfl rfl (by simp only [↓nrmL, nrmZ, Nat.reduceEqDiff, ↓reduceIte, Nat.reduceAdd, Int.reduceBEq, Int.reduceBNe, List.map] <;> rfl) (K_invert (l := l) (by omega)) fun v H2 h5 => ?_)
 obtain ⟨hb2, hwr2, hx2⟩ := h5
 refine WpO.nil (hKF _ _ ?_)
 refine sq ?_
 refine rg fun KF hKF => ?_
 refine Fo.fa rfl ?_
 refine Fo.ld rfl rfl ?_
 refine WpO.do (WpX.conD hn rfl rfl (by simp only [↓nrmL, nrmZ, Nat.reduceEqDiff, ↓reduceIte, Nat.reduceAdd, Int.reduceBEq, Int.reduceBNe, List.map] <;> rfl) (@K_Reverse q q _ (l.map (· ^^^ 1)) 0 (l.map (· ^^^ 1)).length inferInstance inferInstance (Part.whole hb2) (by omega) (by omega)) fun v H3 h5 => ?_)
 obtain ⟨hb3, hwr3, hx3⟩ := h5
 have hb3 : BytesI H3 q (revAll (l.map (· ^^^ 1))) := hb3
 refine WpO.nil (hKF _ _ ?_)
 refine sq ?_
 refine rg fun KF hKF => ?_
 refine Fo.ldN rfl rfl (by simp only [↓nrmL, nrmZ, Nat.reduceEqDiff, ↓reduceIte, Nat.reduceAdd, Int.reduceBEq, Int.reduceBNe]; rfl) ?_
 refine mI rfl ?_
 refine mI rfl ?_
 refine WpO.do (WpX.conD hn rfl rfl (by simp only [↓nrmL, nrmZ, Nat.reduceEqDiff, ↓reduceIte, Nat.reduceAdd, Int.reduceBEq, Int.reduceBNe, List.map] <;> rfl) (K_brush ok2 hw1 hw2 hh1 hh2) fun v H4 h5 => ?_)
 obtain ⟨hb4, hwr4, hx4⟩ := h5
 refine WpO.nil (hKF _ _ ?_)
 refine sq ?_
 refine rg fun KF hKF => ?_
 refine Fo.fa rfl ?_
 refine Fo.ld rfl rfl ?_
 refine WpO.do (WpX.conD hn rfl rfl (by simp only [↓nrmL, nrmZ, Nat.reduceEqDiff, ↓reduceIte, Nat.reduceAdd, Int.reduceBEq, Int.reduceBNe, List.map] <;> rfl) (@K_Reverse q q _ (dilL (revAll (l.map (· ^^^ 1))) a b w h) 0 (dilL (revAll (l.map (· ^^^ 1))) a b w h).length inferInstance inferInstance (Part.whole hb4) (by omega) (by omega)) fun v H5 h5 => ?_)
 obtain ⟨hb5, hwr5, hx5⟩ := h5
 have hb5 : BytesI H5 q (revAll (dilL (revAll (l.map (· ^^^ 1))) a b w h)) := hb5
 refine WpO.nil (hKF _ _ ?_)
 refine sq ?_
 refine rg fun KF hKF => ?_
 refine Fo.ldN rfl rfl (by simp only [↓nrmL, nrmZ, Nat.reduceEqDiff, ↓reduceIte, Nat.reduceAdd, Int.reduceBEq, Int.reduceBNe]; rfl) ?_
 refine WpO.do (WpX.conD hn rfl rfl (by simp only [↓nrmL, nrmZ, Nat.reduceEqDiff, ↓reduceIte, Nat.reduceAdd, Int.reduceBEq, Int.reduceBNe, List.map] <;> rfl) (K_invert (l := revAll (dilL (revAll (l.map (· ^^^ 1))) a b w h)) (by omega)) fun v H6 h5 => ?_)
 obtain ⟨hb6, hwr6, hx6⟩ := h5
 have hb6 : BytesI H6 q (eroL l a b w h) := hb6
 refine WpO.nil (hKF _ _ ?_)
 refine sq ?_
 refine rg fun KF hKF => ?_
 refine Fo.ldN rfl rfl (by simp only [↓nrmL, nrmZ, Nat.reduceEqDiff, ↓reduceIte, Nat.reduceAdd, Int.reduceBEq, Int.reduceBNe]; rfl) ?_
 refine Fo.st rfl (rfl : _ = AVal.agg _) rfl rfl rfl (by repeat (first | rfl | refine allOne_cons ?_)) (by simp only [↓nrmL, nrmZ, Nat.reduceEqDiff, ↓reduceIte, Nat.reduceAdd, Int.reduceBEq, Int.reduceBNe]; rfl) ?_
 refine mI rfl ?_
 refine WpO.nil (hKF _ _ ?_)
 refine Wp.ret ?_
 dsimp only [cond_true, cond_false]
 refine ⟨trivial, _, (by first | rfl | exact getAllC rfl rfl rfl rfl | exact getAllT rfl (getAllC rfl rfl rfl rfl) | exact getAllC rfl rfl rfl (getAllC rfl rfl rfl rfl) | exact getAllC1 rfl rfl rfl), ?_⟩
 exact ⟨_, rfl, q, rfl, (show BytesI _ q (eroL l a b w h) from inferInstance), hfq.weak, inferInstance, Ext0.ext⟩
end Go.Am

set_option linter.unusedSimpArgs false
set_option linter.unusedVariables false
set_option maxHeartbeats 4000000
set_option maxRecDepth 100000
namespace Go.Am
open Go
attribute [local irreducible] Wp WpO WpX WpE

/-- The package-level table. -/
abbrev aroundCs : List AVal := [.int .i64 0, .int .i64 (-1), .int .i64 1, .int .i64 (-1), .int .i64 1, .int .i64 0, .int .i64 1, .int .i64 1, .int .i64 0, .int .i64 1, .int .i64 (-1), .int .i64 1, .int .i64 (-1), .int .i64 0, .int .i64 (-1), .int .i64 (-1)]
/-- It is there. -/
class Tabs (H : AHeap) : Prop where
 it : tablesIn aroundT H = true
theorem tabs_iff {H : AHeap} : tablesIn aroundT H = true ↔ 0 < H.n ∧ ∃ rw e, H.get 0 = .row aroundCs rw e := by
 simp only [tablesIn, aroundT, List.all_cons, List.all_nil, Bool.and_true, Bool.and_eq_true]
 constructor
 ·rintro ⟨h1, h2⟩
  refine ⟨by simpa using h1, ?_⟩
  cases hg : H.get 0 with
  | row cs rw e => rw [hg] at h2; exact ⟨rw, e, by rw [abeqL_eq h2]⟩
  | _ => rw [hg] at h2; cases h2
 ·rintro ⟨h1, rw, e, hg⟩
  exact ⟨by simpa using h1, by rw [hg]; exact abeqL_refl _⟩
theorem Tabs.keep {H H' : AHeap} (h : Tabs H) (hn : H.n ≤ H'.n) (hg : H'.get 0 = H.get 0) : Tabs H' := by
 obtain ⟨h1, rw, e, h2⟩ := tabs_iff.1 h.it
 exact ⟨tabs_iff.2 ⟨by omega, rw, e, by rw [hg]; exact h2⟩⟩
theorem Tabs.lt {H : AHeap} (h : Tabs H) : 0 < H.n := (tabs_iff.1 h.it).1
theorem Tabs.ext {H H' : AHeap} (h : Tabs H) (x : Ext H H') : Tabs H' := h.keep x.n (x.get 0 h.lt)
class NeZ (s : Nat) : Prop where
 ne : s ≠ 0
instance {K : AHeap} [h : Tabs K] : NeZ K.n := ⟨by have := h.lt; omega⟩
instance {K : AHeap} {s : Nat} [g : GeN K s] [h : Tabs K] : NeZ s := ⟨by have := h.lt; have := g.ge; omega⟩
instance {H H' : AHeap} [x : ExtI H H'] [h : Tabs H] : Tabs H' := h.ext x.ext
instance {H : AHeap} {o : AObj} [h : Tabs H] : Tabs (H.push o) := h.ext ((Ext.refl H).push o)
instance {H : AHeap} {s : Nat} {o : AObj} [h : Tabs H] [z : NeZ s] : Tabs (H.set s o) := h.keep (Nat.le_refl _) (set_get_ne (fun e => z.ne e.symm))
instance {K H H' : AHeap} {p : AVal} [x : ExtP H H' p] [h : Tabs H] [f : FreshS K p] [k : Tabs K] : Tabs H' := h.keep x.n (x.get 0 h.lt ⟨fun r _ _ _ _ e => by have := f.ge _ _ _ _ _ e; have := k.lt; omega⟩)
theorem aClosed_nil {T : List (Nat × List AVal)} {v : AVal} {H : AHeap} (h : tablesIn T H = true) : aClosed T v [] H = some (v, H) := by
 show (match tablesIn T H with | true => some (v, H) | false => none) = some (v, H)
 rw [h]
instance K_awake {H : AHeap} [h : Tabs H] : PureCon ext prog 15 [] H 0 (.bool true) := ⟨fun n hn => by
 obtain ⟨k, rfl⟩ : ∃ k, n = k + 1 := ⟨n - 1, by unfold fuel0 at hn; omega⟩
 have e1 : prog 15 = some ⟨0, .ext 3, []⟩ := rfl
 refine ⟨.bool true, H, ?_, rfl, Ext.refl H⟩
 rw [call_ext e1]
 exact aClosed_nil h.it⟩

end Go.Am

set_option linter.unusedSimpArgs false
set_option linter.unusedVariables false
set_option maxHeartbeats 4000000
set_option maxRecDepth 100000
namespace Go.Am
open Go
attribute [local irreducible] Wp WpO WpX WpE

theorem made_mkB {fr : AFrame} {e : TypeId} {x y : ROpd} {k k' : IntKind} {a : Nat} (hx : x.ev fr = .int k a) (hy : y.ev fr = .int k' a) (h0 : a ≤ 2 ^ 40) : (ROp.makeSlice e [.int .u8 0] 1 x y).made fr = some (cellsB (List.replicate a 0), e, fun r => .slice r 0 a (some a) 1) := by
 rw [← mk_bytes]; exact made_mk hx hy (by omega)
theorem made_mkI {fr : AFrame} {e : TypeId} {x y : ROpd} {k k' : IntKind} {a : Nat} (hx : x.ev fr = .int k a) (hy : y.ev fr = .int k' a) (h0 : a ≤ 2 ^ 40) : (ROp.makeSlice e [.int .i64 0] 8 x y).made fr = some (cellsI (List.replicate a 0), e, fun r => .slice r 0 a (some a) 1) := by
 rw [← mk_ints]; exact made_mk hx hy (by omega)
/-- A valid new image of given sides. -/
def NewFit (H H' : AHeap) (v : AVal) (a b : Nat) : Prop := ∃ l : List UInt8, Ok a b l ∧ NewInk H H' v ⟨a, b, l⟩
theorem K_Fitted {a b : Nat} {p pg : AVal} {H : AHeap} {bits l : List UInt8} [hp : BytesI H p bits] [hg : BytesI H pg l] (hok : Ok a b l) : Con ext prog 1 80 [.agg [.int .i64 a, .int .i64 b, pg], p] H fun v H' => NewFit H H' v a b := by
 refine con_of (show prog 80 = some c80 from rfl) rfl rfl fun n hn => ?_
 haveI := hp.one
 haveI := hg.one
 have hwa := hok.wa
 have hhb := hok.hb
 have hm : a * b ≤ 640 * 640 := Nat.mul_le_mul hok.wa hok.hb
 have hc : IntKind.i64.wrap ((a : Int) * (b : Int)) = ((a * b : Nat) : Int) := wm (by omega)
 refine sq ?_
 refine rg fun KF hKF => ?_
 refine Fo.boxA rfl ?_
 refine Fo.new ?_
 refine WpO.nil (hKF _ _ ?_)
 refine sq ?_
 obtain ⟨H1, hH1⟩ : ∃ H1, (H.push (.row [.int .i64 a, .int .i64 b, pg] true (2 * 24))).push (.row [.int .i64 0, .int .i64 0, .nslice] true (2 * 24)) = H1 := ⟨_, rfl⟩
 obtain ⟨q, hqe⟩ : ∃ q : AVal, AVal.slice (((H.push (.row [.int .i64 a, .int .i64 b, pg] true (2 * 24))).push (.row [.int .i64 0, .int .i64 0, .nslice] true (2 * 24))).n) 0 (a * b) (some (a * b)) 1 = q := ⟨_, rfl⟩
 refine Fr.dregionE [.row (cellsB (List.replicate (a * b) 0)) true (2 * 5), .row [.int .i64 0, .int .i64 0, .nslice] true (2 * 24)] ?_ fun KF hKF => ?_
 ·skip
  refine oracle_pre rfl rfl rfl rfl ?_; (try simp only [↓nrmL, nrmZ, Nat.reduceEqDiff, ↓reduceIte, Nat.reduceAdd, Int.reduceBEq, Int.reduceBNe, hc])
  refine oracle_pre rfl rfl rfl (exec_ld rfl rfl) ?_; (try simp only [↓nrmL, nrmZ, Nat.reduceEqDiff, ↓reduceIte, Nat.reduceAdd, Int.reduceBEq, Int.reduceBNe, hc])
  refine oracle_pre rfl rfl rfl rfl ?_; (try simp only [↓nrmL, nrmZ, Nat.reduceEqDiff, ↓reduceIte, Nat.reduceAdd, Int.reduceBEq, Int.reduceBNe, hc])
  refine oracle_pre rfl rfl rfl (exec_ld rfl rfl) ?_; (try simp only [↓nrmL, nrmZ, Nat.reduceEqDiff, ↓reduceIte, Nat.reduceAdd, Int.reduceBEq, Int.reduceBNe, hc])
  refine oracle_pre rfl rfl rfl rfl ?_; (try simp only [↓nrmL, nrmZ, Nat.reduceEqDiff, ↓reduceIte, Nat.reduceAdd, Int.reduceBEq, Int.reduceBNe, hc])
  refine oracle_pre rfl rfl rfl (exec_ld rfl rfl) ?_; (try simp only [↓nrmL, nrmZ, Nat.reduceEqDiff, ↓reduceIte, Nat.reduceAdd, Int.reduceBEq, Int.reduceBNe, hc])
  refine oracle_pre rfl rfl rfl rfl ?_; (try simp only [↓nrmL, nrmZ, Nat.reduceEqDiff, ↓reduceIte, Nat.reduceAdd, Int.reduceBEq, Int.reduceBNe, hc])
  refine oracle_pre rfl rfl rfl (exec_ld rfl rfl) ?_; (try simp only [↓nrmL, nrmZ, Nat.reduceEqDiff, ↓reduceIte, Nat.reduceAdd, Int.reduceBEq, Int.reduceBNe, hc])
  refine oracle_pre rfl rfl rfl rfl ?_; (try simp only [↓nrmL, nrmZ, Nat.reduceEqDiff, ↓reduceIte, Nat.reduceAdd, Int.reduceBEq, Int.reduceBNe, hc])
  refine oracle_made rfl rfl (made_mkB rfl rfl (by omega)) ?_
  refine oracle_pre rfl rfl rfl rfl ?_; (try simp only [↓nrmL, nrmZ, Nat.reduceEqDiff, ↓reduceIte, Nat.reduceAdd, Int.reduceBEq, Int.reduceBNe, hc])
  refine oracle_made rfl rfl rfl ?_; (try simp only [↓nrmL, nrmZ, Nat.reduceEqDiff, ↓reduceIte, Nat.reduceAdd, Int.reduceBEq, Int.reduceBNe, hc])
  exact oracle_none _ _ _ _ rfl
 simp only [pushAll]
 obtain ⟨m1, m2, m3⟩ := mk_facts (H := (H.push (.row [.int .i64 a, .int .i64 b, pg] true (2 * 24))).push (.row [.int .i64 0, .int .i64 0, .nslice] true (2 * 24))) (e := 2 * 5) (mk_bytes (a * b))
 rw [hqe] at m1 m2 m3
 haveI := m1.one
 have hq : BytesI (((H.push (.row [.int .i64 a, .int .i64 b, pg] true (2 * 24))).push (.row [.int .i64 0, .int .i64 0, .nslice] true (2 * 24))).push (.row (cellsB (List.replicate (a * b) 0)) true (2 * 5))) q (List.replicate (a * b) 0) := by
  unfold BytesI; rw [List.length_replicate]; exact m1
 clear m1
 try simp only [↓nrmL, nrmZ, Nat.reduceEqDiff, ↓reduceIte, Nat.reduceAdd, Int.reduceBEq, Int.reduceBNe, hc]
 refine Fe.pure rfl rfl (by simp only [↓nrmL, nrmZ, Nat.reduceEqDiff, ↓reduceIte, Nat.reduceAdd, Int.reduceBEq, Int.reduceBNe, hc]; rfl) ?_
 refine Fe.read rfl (exec_ld rfl rfl) rfl (by repeat (first | exact trivial | refine ⟨(by first | exact Or.inl (by dsimp only; decide) | exact Or.inr (exec_ld rfl rfl) | exact Or.inr (exec_ldN rfl rfl rfl) | exact Or.inr (exec_ldB rfl (by omega)) | exact Or.inr (exec_ldI rfl (by omega)) | exact Or.inr ghost_of), ?_⟩)) ?_
 refine Fe.pure rfl rfl (by simp only [↓nrmL, nrmZ, Nat.reduceEqDiff, ↓reduceIte, Nat.reduceAdd, Int.reduceBEq, Int.reduceBNe, hc]; rfl) ?_
 refine Fe.read rfl (exec_ld rfl rfl) rfl (by repeat (first | exact trivial | refine ⟨(by first | exact Or.inl (by dsimp only; decide) | exact Or.inr (exec_ld rfl rfl) | exact Or.inr (exec_ldN rfl rfl rfl) | exact Or.inr (exec_ldB rfl (by omega)) | exact Or.inr (exec_ldI rfl (by omega)) | exact Or.inr ghost_of), ?_⟩)) ?_
 refine Fe.pure rfl rfl (by simp only [↓nrmL, nrmZ, Nat.reduceEqDiff, ↓reduceIte, Nat.reduceAdd, Int.reduceBEq, Int.reduceBNe, hc]; rfl) ?_
 refine Fe.read rfl (exec_ld rfl rfl) rfl (by repeat (first | exact trivial | refine ⟨(by first | exact Or.inl (by dsimp only; decide) | exact Or.inr (exec_ld rfl rfl) | exact Or.inr (exec_ldN rfl rfl rfl) | exact Or.inr (exec_ldB rfl (by omega)) | exact Or.inr (exec_ldI rfl (by omega)) | exact Or.inr ghost_of), ?_⟩)) ?_
 refine Fe.pure rfl rfl (by simp only [↓nrmL, nrmZ, Nat.reduceEqDiff, ↓reduceIte, Nat.reduceAdd, Int.reduceBEq, Int.reduceBNe, hc]; rfl) ?_
 refine Fe.read rfl (exec_ld rfl rfl) rfl (by repeat (first | exact trivial | refine ⟨(by first | exact Or.inl (by dsimp only; decide) | exact Or.inr (exec_ld rfl rfl) | exact Or.inr (exec_ldN rfl rfl rfl) | exact Or.inr (exec_ldB rfl (by omega)) | exact Or.inr (exec_ldI rfl (by omega)) | exact Or.inr ghost_of), ?_⟩)) ?_
 refine Fe.pure rfl rfl (by simp only [↓nrmL, nrmZ, Nat.reduceEqDiff, ↓reduceIte, Nat.reduceAdd, Int.reduceBEq, Int.reduceBNe, hc]; rfl) ?_
 refine Fe.made rfl (made_mkB rfl rfl (by omega)) ghost_of trivial hqe ?_
 change WpE _ _ (AHeap.n (AHeap.push _ (.row (cellsB (List.replicate (a * b) 0)) true (2 * 5)))) _ _ _ _ _ _ _
 refine Fe.pure rfl (exec_build (by repeat (first | refine aFill1 (by (try simp only [↓nrmL, nrmZ, Nat.reduceEqDiff, ↓reduceIte, Nat.reduceAdd, Int.reduceBEq, Int.reduceBNe]); rfl) rfl ?_ | rfl))) (by simp only [↓nrmL, nrmZ, Nat.reduceEqDiff, ↓reduceIte, Nat.reduceAdd, Int.reduceBEq, Int.reduceBNe]; rfl) ?_
 refine Fe.made rfl rfl ghost_of (by repeat (first | exact trivial | refine ⟨(by first | exact Or.inl (by dsimp only; decide) | exact Or.inr (exec_ld rfl rfl) | exact Or.inr (exec_ldN rfl rfl rfl) | exact Or.inr (exec_ldB rfl (by omega)) | exact Or.inr (exec_ldI rfl (by omega)) | exact Or.inr ghost_of), ?_⟩)) rfl ?_
 refine Fe.effect0 rfl (exec_st rfl (by (try simp only [↓nrmL, nrmZ, Nat.reduceEqDiff, ↓reduceIte, Nat.reduceAdd, Int.reduceBEq, Int.reduceBNe]); rfl) rfl rfl rfl (by repeat (first | rfl | refine allOne_cons ?_)) (by (try simp only [↓nrmL, nrmZ, Nat.reduceEqDiff, ↓reduceIte, Nat.reduceAdd, Int.reduceBEq, Int.reduceBNe]); rfl)) (by repeat (first | exact trivial | refine ⟨(by first | exact Or.inl (by dsimp only; decide) | exact Or.inr (readOk_of (exec_ld rfl rfl)) | exact Or.inr (readOk_of (exec_ldN rfl rfl rfl)) | exact Or.inr (readOk_of (exec_ldB rfl (by omega))) | exact Or.inr (readOk_of (exec_ldI rfl (by omega))) | exact Or.inr (made_of rfl)), ?_⟩)) ?_
 refine WpE.nil (hKF _ _ ?_)
 refine sq ?_
 refine sq ?_
 refine rg fun KF hKF => ?_
 refine Fo.fa rfl ?_
 refine Fo.ld rfl rfl ?_
 refine Fo.len (v := ?_) (by simp only [↓nrmL, nrmK, Nat.reduceEqDiff, ↓reduceIte]; rfl) ?hv ?_; case hv => rfl
 refine mI rfl ?_
 refine WpO.nil (hKF _ _ ?_)
 refine Wp.block ?_
 dsimp only [cond_true, cond_false]
 refine Wp.loopS [6, 21, 22, 23, 24, 25, 26, 27, 28, 29, 30, 31, 32, 33, 34, 35, 36, 37, 38, 39, 40, 41, 42] (fun t : Nat × List UInt8 => [(21, .int .i64 t.1)]) (fun H3 t H2 => t.1 ≤ a * b ∧ t.2.length = a * b ∧ pxOk t.2 = true ∧ BytesI H2 q t.2 ∧ WrS H2 q ∧ ExtP0 H3 H2 q) (fun t => a * b - t.1) (0, List.replicate (a * b) 0) rfl (fun _ => rfl) ⟨rfl, trivial⟩ ⟨Nat.zero_le _, List.length_replicate, pxOk_rep _, inferInstance, inferInstance, inferInstance⟩ (by unfold fuel0 at hn; omega) ?_
 rintro ⟨i, t⟩ g H2 ⟨hi, hlen, hpx, hb2, hw2, ⟨hx2⟩⟩
 dsimp only at hi hlen hpx hb2
 simp only [↓nrmL, nrmZ, Nat.reduceEqDiff, ↓reduceIte, Nat.reduceAdd, Int.reduceBEq, Int.reduceBNe, List.length_replicate]
 cases hcc : decide ((i : Int) < ((a * b : Nat) : Int))
 ·have hil : i = a * b := by have := of_decide_eq_false hcc; omega
  subst hil
  try simp only [↓nrmL, nrmZ, Nat.reduceEqDiff, ↓reduceIte, Nat.reduceAdd, Int.reduceBEq, Int.reduceBNe, hcc]
  refine sq ?_
  refine rg fun KF hKF => ?_
  refine Fo.bin rfl rfl rfl (by simp only [↓nrmL, nrmZ, Nat.reduceEqDiff, ↓reduceIte, Nat.reduceAdd, Int.reduceBEq, Int.reduceBNe, hcc]; rfl) ?_
  refine WpO.nil (hKF _ _ ?_)
  refine sq ?_
  refine Wp.cond (b := false) rfl ?_
  refine Wp.exit ?_
  refine sq ?_
  refine rg fun KF hKF => ?_
  refine Fo.ldN rfl rfl (by simp only [↓nrmL, nrmZ, Nat.reduceEqDiff, ↓reduceIte, Nat.reduceAdd, Int.reduceBEq, Int.reduceBNe, hcc]; rfl) ?_
  refine Fo.st rfl (rfl : _ = AVal.agg _) rfl rfl rfl (by repeat (first | rfl | refine allOne_cons ?_)) (by simp only [↓nrmL, nrmZ, Nat.reduceEqDiff, ↓reduceIte, Nat.reduceAdd, Int.reduceBEq, Int.reduceBNe, hcc]; rfl) ?_
  refine WpO.nil (hKF _ _ ?_)
  refine Wp.ret ?_
  dsimp only [cond_true, cond_false]
  refine ⟨trivial, _, (by first | rfl | exact getAllC rfl rfl rfl rfl | exact getAllT rfl (getAllC rfl rfl rfl rfl) | exact getAllC rfl rfl rfl (getAllC rfl rfl rfl rfl) | exact getAllC1 rfl rfl rfl), ?_⟩
  exact ⟨t, ⟨by omega, by omega, hlen, hpx⟩, q, rfl, (show BytesI _ q t from inferInstance), m2.weak, inferInstance, Ext0.ext⟩
 ·have hil : i < a * b := by have := of_decide_eq_true hcc; omega
  have hw1 := wa1 (a := i) (by omega)
  have hq8 := wq8 (i := i) (by omega)
  cases ht : decide (((i / 8 : Nat) : Int) < ((bits.length : Nat) : Int))
  ·skip
   try simp only [↓nrmL, nrmZ, Nat.reduceEqDiff, ↓reduceIte, Nat.reduceAdd, Int.reduceBEq, Int.reduceBNe, hcc, hq8, ht]
   refine sq ?_
   refine rg fun KF hKF => ?_
   refine Fo.bin rfl rfl rfl (by simp only [↓nrmL, nrmZ, Nat.reduceEqDiff, ↓reduceIte, Nat.reduceAdd, Int.reduceBEq, Int.reduceBNe, hcc, hq8, ht]; rfl) ?_
   refine WpO.nil (hKF _ _ ?_)
   refine sq ?_
   refine Wp.cond (b := true) rfl ?_
   refine Wp.skip ?_
   refine sq ?_
   refine Wp.block ?_
   refine sq ?_
   refine rg fun KF hKF => ?_
   refine mI rfl ?_
   refine mI rfl ?_
   refine WpO.nil (hKF _ _ ?_)
   refine sq ?_
   refine rg fun KF hKF => ?_
   refine mI rfl ?_
   refine Fo.bin rfl rfl rfl (by simp only [↓nrmL, nrmZ, Nat.reduceEqDiff, ↓reduceIte, Nat.reduceAdd, Int.reduceBEq, Int.reduceBNe, hcc, hq8, ht]; rfl) ?_
   refine Fo.mov (by simp only [↓nrmL, nrmK, Nat.reduceEqDiff, ↓reduceIte]; rfl) ?_
   refine Fo.len (v := ?_) (by simp only [↓nrmL, nrmK, Nat.reduceEqDiff, ↓reduceIte]; rfl) ?hv ?_; case hv => rfl
   refine Fo.bin rfl rfl rfl (by simp only [↓nrmL, nrmZ, Nat.reduceEqDiff, ↓reduceIte, Nat.reduceAdd, Int.reduceBEq, Int.reduceBNe, hcc, hq8, ht]; rfl) ?_
   refine WpO.nil (hKF _ _ ?_)
   refine Wp.cond (b := false) rfl ?_
   refine Wp.skip ?_
   refine rg fun KF hKF => ?_
   refine Fo.bin rfl rfl rfl rfl ?_
   refine mI rfl ?_
   refine WpO.nil (hKF _ _ ?_)
   dsimp only [cond_true, cond_false]
   exact ⟨(i + 1, t), by dsimp only; omega, ⟨by simp only [↓nrmL, nrmZ, Nat.reduceEqDiff, ↓reduceIte, Nat.reduceAdd, Int.reduceBEq, Int.reduceBNe]; rw [hw1], trivial⟩, hil, hlen, hpx, hb2, hw2, inferInstance⟩
  ·have hbi : i / 8 < bits.length := by have := of_decide_eq_true ht; omega
   try simp only [↓nrmL, nrmZ, Nat.reduceEqDiff, ↓reduceIte, Nat.reduceAdd, Int.reduceBEq, Int.reduceBNe, hcc, hq8, ht]
   refine sq ?_
   refine rg fun KF hKF => ?_
   refine Fo.bin rfl rfl rfl (by simp only [↓nrmL, nrmZ, Nat.reduceEqDiff, ↓reduceIte, Nat.reduceAdd, Int.reduceBEq, Int.reduceBNe, hcc, hq8, ht]; rfl) ?_
   refine WpO.nil (hKF _ _ ?_)
   refine sq ?_
   refine Wp.cond (b := true) rfl ?_
   refine Wp.skip ?_
   refine sq ?_
   refine Wp.block ?_
   refine sq ?_
   refine rg fun KF hKF => ?_
   refine mI rfl ?_
   refine mI rfl ?_
   refine WpO.nil (hKF _ _ ?_)
   refine sq ?_
   refine rg fun KF hKF => ?_
   refine mI rfl ?_
   refine Fo.bin rfl rfl rfl (by simp only [↓nrmL, nrmZ, Nat.reduceEqDiff, ↓reduceIte, Nat.reduceAdd, Int.reduceBEq, Int.reduceBNe, hcc, hq8, ht]; rfl) ?_
   refine Fo.mov (by simp only [↓nrmL, nrmK, Nat.reduceEqDiff, ↓reduceIte]; rfl) ?_
   refine Fo.len (v := ?_) (by simp only [↓nrmL, nrmK, Nat.reduceEqDiff, ↓reduceIte]; rfl) ?hv ?_; case hv => rfl
   refine Fo.bin rfl rfl rfl (by simp only [↓nrmL, nrmZ, Nat.reduceEqDiff, ↓reduceIte, Nat.reduceAdd, Int.reduceBEq, Int.reduceBNe, hcc, hq8, ht]; rfl) ?_
   refine WpO.nil (hKF _ _ ?_)
   refine Wp.cond (b := true) rfl ?_
   dsimp only [cond_true, cond_false]
   refine Fr.dregion0 rfl fun KF hKF => ?_
   try simp only [↓nrmL, nrmZ, Nat.reduceEqDiff, ↓reduceIte, Nat.reduceAdd, Int.reduceBEq, Int.reduceBNe, hq8, wr8]
   refine Fe.pure rfl rfl (by simp only [↓nrmL, nrmZ, Nat.reduceEqDiff, ↓reduceIte, Nat.reduceAdd, Int.reduceBEq, Int.reduceBNe, hq8, wr8]; rfl) ?_
   refine Fe.read rfl (exec_ld rfl rfl) rfl (by repeat (first | exact trivial | refine ⟨(by first | exact Or.inl (by dsimp only; decide) | exact Or.inr (exec_ld rfl rfl) | exact Or.inr (exec_ldN rfl rfl rfl) | exact Or.inr (exec_ldB rfl (by omega)) | exact Or.inr (exec_ldI rfl (by omega)) | exact Or.inr ghost_of), ?_⟩)) ?_
   refine Fe.pure rfl rfl (by simp only [↓nrmL, nrmZ, Nat.reduceEqDiff, ↓reduceIte, Nat.reduceAdd, Int.reduceBEq, Int.reduceBNe, hq8, wr8]; rfl) ?_
   refine Fe.pure rfl rfl (by simp only [↓nrmL, nrmZ, Nat.reduceEqDiff, ↓reduceIte, Nat.reduceAdd, Int.reduceBEq, Int.reduceBNe, hq8, wr8]; rfl) ?_
   refine Fe.pure rfl rfl (by simp only [↓nrmL, nrmZ, Nat.reduceEqDiff, ↓reduceIte, Nat.reduceAdd, Int.reduceBEq, Int.reduceBNe, hq8, wr8]; rfl) ?_
   refine Fe.pure rfl rfl (by simp only [↓nrmL, nrmZ, Nat.reduceEqDiff, ↓reduceIte, Nat.reduceAdd, Int.reduceBEq, Int.reduceBNe, hq8, wr8]; rfl) ?_
   refine Fe.pure rfl (exec_idxP (by (try simp only [↓nrmL, nrmZ, Nat.reduceEqDiff, ↓reduceIte, Nat.reduceAdd, Int.reduceBEq, Int.reduceBNe, hq8, wr8]); rfl) rfl ?_) (by simp only [↓nrmL, nrmZ, Nat.reduceEqDiff, ↓reduceIte, Nat.reduceAdd, Int.reduceBEq, Int.reduceBNe, hq8, wr8]; rfl) ?_; (focus omega)
   refine Fe.read rfl (exec_ldB rfl (by omega)) rfl (by repeat (first | exact trivial | refine ⟨(by first | exact Or.inl (by dsimp only; decide) | exact Or.inr (exec_ld rfl rfl) | exact Or.inr (exec_ldN rfl rfl rfl) | exact Or.inr (exec_ldB rfl (by omega)) | exact Or.inr (exec_ldI rfl (by omega)) | exact Or.inr ghost_of), ?_⟩)) ?_
   refine Fe.pure rfl rfl (by simp only [↓nrmL, nrmZ, Nat.reduceEqDiff, ↓reduceIte, Nat.reduceAdd, Int.reduceBEq, Int.reduceBNe, hq8, wr8]; rfl) ?_
   refine Fe.pure rfl rfl (by simp only [↓nrmL, nrmZ, Nat.reduceEqDiff, ↓reduceIte, Nat.reduceAdd, Int.reduceBEq, Int.reduceBNe, hq8, wr8]; rfl) ?_
   refine Fe.pure rfl rfl (by simp only [↓nrmL, nrmZ, Nat.reduceEqDiff, ↓reduceIte, Nat.reduceAdd, Int.reduceBEq, Int.reduceBNe, hq8, wr8]; rfl) ?_
   refine Fe.pure rfl rfl rfl ?_
   refine Fe.pure rfl (exec_idxP (by (try simp only [↓nrmL, nrmZ, Nat.reduceEqDiff, ↓reduceIte, Nat.reduceAdd, Int.reduceBEq, Int.reduceBNe, hq8, wr8]); rfl) rfl ?_) (by simp only [↓nrmL, nrmZ, Nat.reduceEqDiff, ↓reduceIte, Nat.reduceAdd, Int.reduceBEq, Int.reduceBNe, hq8, wr8]; rfl) ?_; (focus omega)
   refine WpE.stB (bitC _) rfl rfl rfl (bitC_eq _) (by rw [hlen]; exact hil) fun H4 hb4 hw4 hx4 => ⟨(by repeat (first | exact trivial | refine ⟨(by first | exact Or.inl (by dsimp only; decide) | exact Or.inr (readOk_of (exec_ld rfl rfl)) | exact Or.inr (readOk_of (exec_ldN rfl rfl rfl)) | exact Or.inr (readOk_of (exec_ldB rfl (by omega))) | exact Or.inr (readOk_of (exec_ldI rfl (by omega))) | exact Or.inr (made_of rfl)), ?_⟩)), ?_⟩
   refine WpE.nil (hKF _ _ ?_)
   refine rg fun KF hKF => ?_
   refine Fo.bin rfl rfl rfl rfl ?_
   refine mI rfl ?_
   refine WpO.nil (hKF _ _ ?_)
   dsimp only [cond_true, cond_false]
   exact ⟨(i + 1, _), by dsimp only; omega, ⟨by simp only [↓nrmL, nrmZ, Nat.reduceEqDiff, ↓reduceIte, Nat.reduceAdd, Int.reduceBEq, Int.reduceBNe]; rw [hw1], trivial⟩, hil, by rw [List.length_set]; exact hlen, pxOk_set hpx (bitC_01 _), hb4, hw4, inferInstance⟩
end Go.Am

set_option linter.unusedSimpArgs false
set_option linter.unusedVariables false
set_option maxHeartbeats 4000000
set_option maxRecDepth 100000
namespace Go.Am
open Go
attribute [local irreducible] Wp WpO WpX WpE

/-- All ink of an image is ink of another one. -/
def inkIn (l m : List UInt8) : Bool := ((List.zipWith (fun a b => a &&& ~~~b) l m).count 1 : Nat) == 0
theorem or01 (x y : UInt8) (h : x = 0 ∨ x = 1) (k : y = 0 ∨ y = 1) : x ||| y = 0 ∨ x ||| y = 1 := by rcases h with rfl | rfl <;> rcases k with rfl | rfl <;> decide
theorem and01 (x y : UInt8) (h : x = 0 ∨ x = 1) (k : y = 0 ∨ y = 1) : x &&& y = 0 ∨ x &&& y = 1 := by rcases h with rfl | rfl <;> rcases k with rfl | rfl <;> decide
theorem less01 (x y : UInt8) (h : x = 0 ∨ x = 1) (k : y = 0 ∨ y = 1) : x &&& ~~~y = 0 ∨ x &&& ~~~y = 1 := by rcases h with rfl | rfl <;> rcases k with rfl | rfl <;> decide
theorem xor01 (x y : UInt8) (h : x = 0 ∨ x = 1) (k : y = 0 ∨ y = 1) : x ^^^ y = 0 ∨ x ^^^ y = 1 := by rcases h with rfl | rfl <;> rcases k with rfl | rfl <;> decide
class OkI (a b : outParam Nat) (l : List UInt8) : Prop where
 ok : Ok a b l
theorem K_lessV {p q : AVal} {H : AHeap} {a b : Nat} {l m : List UInt8} [hp : BytesI H p l] [hq : BytesI H q m] (h : Ok a b l) (k : Ok a b m) : Con ext prog 5 83 [.agg [.int .i64 a, .int .i64 b, p], .agg [.int .i64 a, .int .i64 b, q]] H fun v H' => InkRes H H' v (⟨a, b, List.zipWith (fun a b => a &&& ~~~b) l m⟩, 0) := by
 rw [← combOk (op := fun a b => a &&& ~~~b) h k]; exact K_Less
theorem K_orV {p q : AVal} {H : AHeap} {a b : Nat} {l m : List UInt8} [hp : BytesI H p l] [hq : BytesI H q m] (h : Ok a b l) (k : Ok a b m) : Con ext prog 5 81 [.agg [.int .i64 a, .int .i64 b, p], .agg [.int .i64 a, .int .i64 b, q]] H fun v H' => InkRes H H' v (⟨a, b, List.zipWith (fun a b => a ||| b) l m⟩, 0) := by
 rw [← combOk (op := fun a b => a ||| b) h k]; exact K_Or
theorem K_andV {p q : AVal} {H : AHeap} {a b : Nat} {l m : List UInt8} [hp : BytesI H p l] [hq : BytesI H q m] (h : Ok a b l) (k : Ok a b m) : Con ext prog 5 82 [.agg [.int .i64 a, .int .i64 b, p], .agg [.int .i64 a, .int .i64 b, q]] H fun v H' => InkRes H H' v (⟨a, b, List.zipWith (fun a b => a &&& b) l m⟩, 0) := by
 rw [← combOk (op := fun a b => a &&& b) h k]; exact K_And
theorem K_notV {p : AVal} {H : AHeap} {a b : Nat} {l : List UInt8} [hp : BytesI H p l] (h : Ok a b l) : Con ext prog 4 19 [.agg [.int .i64 a, .int .i64 b, p]] H fun v H' => InkRes H H' v (⟨a, b, l.map (· ^^^ 1)⟩, 0) := by
 rw [← notOk h]; exact K_Not
theorem K_countV {p : AVal} {H : AHeap} {a b : Nat} {l : List UInt8} [hp : BytesI H p l] (h : Ok a b l) : Con ext prog 4 18 [.agg [.int .i64 a, .int .i64 b, p]] H fun v H' => v = .tuple [.int .i64 (l.count 1 : Nat), .int .i64 0] ∧ Ext H H' := by
 have := (K_Count (p := p) (H := H) (w := a) (h := b) (l := l)).con
 simp only [h.err, beq_self_eq_true, cond_true] at this
 exact this
theorem K_distV {p q : AVal} {H : AHeap} {a b : Nat} {l m : List UInt8} [hp : BytesI H p l] [hq : BytesI H q m] (h : Ok a b l) (k : Ok a b m) : Con ext prog 6 20 [.agg [.int .i64 a, .int .i64 b, p], .agg [.int .i64 a, .int .i64 b, q]] H fun v H' => v = .tuple [.int .i64 ((List.zipWith (fun a b => a ^^^ b) l m).count 1 : Nat), .int .i64 0] ∧ Ext H H' := by
 have := (K_Distance (p := p) (q := q) (H := H) (w := a) (h := b) (l := l) (w' := a) (h' := b) (m := m)).con
 unfold distSpec at this
 simp only [combOk h k, beq_self_eq_true, cond_true] at this
 exact this
theorem K_within {p q : AVal} {H : AHeap} {a b : Nat} {l m : List UInt8} [hp : BytesI H p l] [hq : BytesI H q m] (h : Ok a b l) (k : Ok a b m) : Con ext prog 6 84 [.agg [.int .i64 a, .int .i64 b, p], .agg [.int .i64 a, .int .i64 b, q]] H fun v H' => v = .bool (inkIn l m) ∧ Ext H H' := by
 refine con_of (show prog 84 = some c84 from rfl) rfl rfl fun n hn => ?_
 haveI := hp.one
 haveI := hq.one
 have hz := ok_zip h k less01
 unfold inkIn
 refine sq ?_
 refine rg fun KF hKF => ?_
 refine Fo.boxA rfl ?_
 refine Fo.boxA rfl ?_
 refine mB rfl ?_
 refine WpO.nil (hKF _ _ ?_)
 refine sq ?_
 refine rg fun KF hKF => ?_
 refine Fo.ldN rfl rfl (by simp only [↓nrmL, nrmZ, Nat.reduceEqDiff, ↓reduceIte, Nat.reduceAdd, Int.reduceBEq, Int.reduceBNe]; rfl) ?_
 refine Fo.ldN rfl rfl (by simp only [↓nrmL, nrmZ, Nat.reduceEqDiff, ↓reduceIte, Nat.reduceAdd, Int.reduceBEq, Int.reduceBNe]; rfl) ?_
 refine WpO.do (WpX.conD hn rfl rfl (by simp only [↓nrmL, nrmZ, Nat.reduceEqDiff, ↓reduceIte, Nat.reduceAdd, Int.reduceBEq, Int.reduceBNe, List.map] <;> rfl) (K_lessV h k) fun v H1 h5 => ?_)
 obtain ⟨u, e1, c, e2, hc, hfc, hwc, hxc⟩ := h5
 subst e1 e2
 try dsimp only at hc
 haveI : ExtI _ H1 := ⟨hxc⟩
 haveI := hc.one
 try simp only [↓nrmL, nrmZ, Nat.reduceEqDiff, ↓reduceIte, Nat.reduceAdd, Int.reduceBEq, Int.reduceBNe, hz.err, beq_self_eq_true, cond_true]
 refine mT rfl ?_
 refine Fo.extr rfl rfl ?_
 refine Fo.extr rfl rfl ?_
 refine Fo.new ?_
 refine Fo.st rfl (rfl : _ = AVal.agg _) rfl rfl rfl (by repeat (first | rfl | refine allOne_cons ?_)) (by simp only [↓nrmL, nrmZ, Nat.reduceEqDiff, ↓reduceIte, Nat.reduceAdd, Int.reduceBEq, Int.reduceBNe, hz.err, beq_self_eq_true, cond_true]; rfl) ?_
 refine mI rfl ?_
 refine WpO.nil (hKF _ _ ?_)
 refine sq ?_
 refine rg fun KF hKF => ?_
 refine Fo.ldN rfl rfl (by simp only [↓nrmL, nrmZ, Nat.reduceEqDiff, ↓reduceIte, Nat.reduceAdd, Int.reduceBEq, Int.reduceBNe, hz.err, beq_self_eq_true, cond_true]; rfl) ?_
 refine Fo.pcall (v' := ?_) hn rfl (by simp only [↓nrmL, nrmZ, Nat.reduceEqDiff, ↓reduceIte, Nat.reduceAdd, Int.reduceBEq, Int.reduceBNe, hz.err, beq_self_eq_true, cond_true, List.map]; rfl) rfl ?hv fun _ _ => ?_; case hv => (simp only [↓nrmL, nrmZ, Nat.reduceEqDiff, ↓reduceIte, Nat.reduceAdd, Int.reduceBEq, Int.reduceBNe, hz.err, beq_self_eq_true, cond_true]; rfl)
 refine mT rfl ?_
 refine Fo.extr rfl rfl ?_
 refine Fo.extr rfl rfl ?_
 refine mI rfl ?_
 refine mI rfl ?_
 refine WpO.nil (hKF _ _ ?_)
 refine sq ?_
 refine rg fun KF hKF => ?_
 refine mI rfl ?_
 refine Fo.bin rfl rfl rfl (by simp only [↓nrmL, nrmZ, Nat.reduceEqDiff, ↓reduceIte, Nat.reduceAdd, Int.reduceBEq, Int.reduceBNe, hz.err, beq_self_eq_true, cond_true]; rfl) ?_
 refine mB rfl ?_
 refine Fo.yes rfl rfl ?_
 refine mI rfl ?_
 refine Fo.yes rfl rfl ?_
 refine Fo.bin rfl rfl rfl (by simp only [↓nrmL, nrmZ, Nat.reduceEqDiff, ↓reduceIte, Nat.reduceAdd, Int.reduceBEq, Int.reduceBNe, hz.err, beq_self_eq_true, cond_true]; rfl) ?_
 refine tB rfl rfl ?_
 refine mB rfl ?_
 refine Fo.yes rfl rfl ?_
 refine mI rfl ?_
 refine Fo.yes rfl rfl ?_
 refine Fo.bin rfl rfl rfl rfl ?_
 refine tB rfl rfl ?_
 refine mB rfl ?_
 refine WpO.nil (hKF _ _ ?_)
 refine Wp.ret ?_
 dsimp only [cond_true, cond_false]
 cases h0 : (((List.zipWith (fun a b => a &&& ~~~b) l m).count 1 : Nat) == 0)
 ·have h1 : ((((List.zipWith (fun a b => a &&& ~~~b) l m).count 1 : Nat) : Int) == 0) = false := by simp at h0 ⊢; omega
  try simp only [↓nrmL, nrmZ, Nat.reduceEqDiff, ↓reduceIte, Nat.reduceAdd, Int.reduceBEq, Int.reduceBNe, hz.err, beq_self_eq_true, cond_true, h1]
  refine ⟨trivial, _, (by first | rfl | exact getAllC rfl rfl rfl rfl | exact getAllT rfl (getAllC rfl rfl rfl rfl) | exact getAllC rfl rfl rfl (getAllC rfl rfl rfl rfl) | exact getAllC1 rfl rfl rfl), ?_⟩
  exact ⟨rfl, Ext0.ext⟩
 ·have h1 : ((((List.zipWith (fun a b => a &&& ~~~b) l m).count 1 : Nat) : Int) == 0) = true := by simp at h0 ⊢; omega
  try simp only [↓nrmL, nrmZ, Nat.reduceEqDiff, ↓reduceIte, Nat.reduceAdd, Int.reduceBEq, Int.reduceBNe, hz.err, beq_self_eq_true, cond_true, h1]
  refine ⟨trivial, _, (by first | rfl | exact getAllC rfl rfl rfl rfl | exact getAllT rfl (getAllC rfl rfl rfl rfl) | exact getAllC rfl rfl rfl (getAllC rfl rfl rfl rfl) | exact getAllC1 rfl rfl rfl), ?_⟩
  exact ⟨rfl, Ext0.ext⟩

/- the algebra -/
theorem alg {l m : List UInt8} (hl : pxOk l = true) (hm : pxOk m = true) (e : l.length = m.length) :
  (List.zipWith (fun a b => a &&& ~~~b) l m).count 1 + (List.zipWith (fun a b => a &&& ~~~b) m l).count 1 = (List.zipWith (fun a b => a ^^^ b) l m).count 1 ∧
  (List.zipWith (fun a b => a ||| b) l m).count 1 = (List.zipWith (fun a b => a &&& b) l m).count 1 + (List.zipWith (fun a b => a ^^^ b) l m).count 1 ∧
  (List.zipWith (fun a b => a ||| b) l m).map (· ^^^ 1) = List.zipWith (fun a b => a &&& b) (l.map (· ^^^ 1)) (m.map (· ^^^ 1)) ∧
  inkIn (List.zipWith (fun a b => a &&& b) l m) l = true ∧ inkIn l (List.zipWith (fun a b => a ||| b) l m) = true ∧ inkIn (List.zipWith (fun a b => a &&& ~~~b) l m) l = true := by
 induction l generalizing m with
 | nil => cases m with
  | nil => decide
  | cons y m => cases e
 | cons x l ih =>
  cases m with
  | nil => cases e
  | cons y m =>
   simp only [pxOk, List.all_cons, Bool.and_eq_true, Bool.or_eq_true, beq_iff_eq] at hl hm
   have hi := ih (m := m) hl.2 hm.2 (by simpa using e)
   simp only [inkIn, beq_iff_eq] at hi ⊢
   obtain ⟨i1, i2, i3, i4, i5, i6⟩ := hi
   simp only [List.zipWith_cons_cons, List.count_cons, List.map_cons, i4, i5, i6, i3]
   rcases hl.1 with rfl | rfl <;> rcases hm.1 with rfl | rfl
   ·refine ⟨?_, ?_, ?_, ?_, ?_, ?_⟩ <;> first | rfl | (simp; omega) | simp
   ·refine ⟨?_, ?_, ?_, ?_, ?_, ?_⟩ <;> first | rfl | (simp; omega) | simp
   ·refine ⟨?_, ?_, ?_, ?_, ?_, ?_⟩ <;> first | rfl | (simp; omega) | simp
   ·refine ⟨?_, ?_, ?_, ?_, ?_, ?_⟩ <;> first | rfl | (simp; omega) | simp
end Go.Am

set_option linter.unusedSimpArgs false
set_option linter.unusedVariables false
set_option maxHeartbeats 4000000
set_option maxRecDepth 100000
set_option synthInstance.maxHeartbeats 4000000
set_option synthInstance.maxSize 100000
namespace Go.Am
open Go
attribute [local irreducible] Wp WpO WpX WpE

theorem K_ImageSets {s : Nat} {p q : AVal} {H : AHeap} {b1 b2 : List UInt8} [hp : BytesI H p b1] [hq : BytesI H q b2] [ht : Tabs H] (hs : s < 65536) : Con ext prog 9 12 [.int .u16 s, p, q] H fun v H' => v = .bool true ∧ Ext H H' := by
 refine con_of (show prog 12 = some c12 from rfl) rfl rfl fun n hn => ?_
 haveI := hp.one
 haveI := hq.one
 refine sq ?_
 refine rg fun KF hKF => ?_
 refine mB rfl ?_
 refine WpO.nil (hKF _ _ ?_)
 refine sq ?_
 refine rg fun KF hKF => ?_
 refine mI rfl ?_
 refine Fo.mov (by simp only [↓nrmL, nrmK, Nat.reduceEqDiff, ↓reduceIte]; rfl) ?_
 refine WpO.do (WpX.conD hn rfl rfl (by simp only [↓nrmL, nrmZ, Nat.reduceEqDiff, ↓reduceIte, Nat.reduceAdd, Int.reduceBEq, Int.reduceBNe, List.map] <;> rfl) (K_Made (bits := b1) hs) fun v H1 h5 => ?_)
 obtain ⟨a, b, l, _, _, ok1, v1, e1, hv1, hfv1, hwv1, hxv1⟩ := h5
 subst e1
 try dsimp only at hv1
 haveI : ExtI _ H1 := ⟨hxv1⟩
 haveI := hv1.one
 refine Fo.new ?_
 refine Fo.st rfl (rfl : _ = AVal.agg _) rfl rfl rfl (by repeat (first | rfl | refine allOne_cons ?_)) (by simp only [↓nrmL, nrmZ, Nat.reduceEqDiff, ↓reduceIte, Nat.reduceAdd, Int.reduceBEq, Int.reduceBNe]; rfl) ?_
 refine WpO.nil (hKF _ _ ?_)
 refine sq ?_
 refine rg fun KF hKF => ?_
 refine Fo.ldN rfl rfl (by simp only [↓nrmL, nrmZ, Nat.reduceEqDiff, ↓reduceIte, Nat.reduceAdd, Int.reduceBEq, Int.reduceBNe]; rfl) ?_
 refine Fo.mov (by simp only [↓nrmL, nrmK, Nat.reduceEqDiff, ↓reduceIte]; rfl) ?_
 dsimp only [cond_true, cond_false]
 refine WpO.do (WpX.conD hn rfl rfl (by simp only [↓nrmL, nrmZ, Nat.reduceEqDiff, ↓reduceIte, Nat.reduceAdd, Int.reduceBEq, Int.reduceBNe, List.map] <;> rfl) (K_Fitted (bits := b2) ok1) fun v H2 h5 => ?_)
 obtain ⟨m, ok2, v2, e1, hv2, hfv2, hwv2, hxv2⟩ := h5
 subst e1
 try dsimp only at hv2
 haveI : ExtI _ H2 := ⟨hxv2⟩
 haveI := hv2.one
 have hlen : l.length = m.length := by rw [ok1.len, ok2.len]
 obtain ⟨a1, a2, a3, a4, a5, a6⟩ := alg ok1.px ok2.px hlen
 have hsh := ok1.short
 have ok3 := ok_zip (op := fun a b => a ||| b) ok1 ok2 or01
 have ok4 := ok_zip (op := fun a b => a &&& b) ok1 ok2 and01
 have ok5 := ok_zip (op := fun a b => a &&& ~~~b) ok1 ok2 less01
 have ok6 := ok_zip (op := fun a b => a &&& ~~~b) ok2 ok1 less01
 have ok7 := ok_map ok1
 have ok8 := ok_map ok2
 have ok9 := ok_map ok3
 have ok10 := ok_zip (op := fun a b => a &&& b) ok7 ok8 and01
 refine Fo.new ?_
 refine Fo.st rfl (rfl : _ = AVal.agg _) rfl rfl rfl (by repeat (first | rfl | refine allOne_cons ?_)) (by simp only [↓nrmL, nrmZ, Nat.reduceEqDiff, ↓reduceIte, Nat.reduceAdd, Int.reduceBEq, Int.reduceBNe]; rfl) ?_
 refine WpO.nil (hKF _ _ ?_)
 refine sq ?_
 refine rg fun KF hKF => ?_
 refine Fo.ldN rfl rfl (by simp only [↓nrmL, nrmZ, Nat.reduceEqDiff, ↓reduceIte, Nat.reduceAdd, Int.reduceBEq, Int.reduceBNe]; rfl) ?_
 refine Fo.ldN rfl rfl (by simp only [↓nrmL, nrmZ, Nat.reduceEqDiff, ↓reduceIte, Nat.reduceAdd, Int.reduceBEq, Int.reduceBNe]; rfl) ?_
 dsimp only [cond_true, cond_false]
 refine WpO.do (WpX.conD hn rfl rfl (by simp only [↓nrmL, nrmZ, Nat.reduceEqDiff, ↓reduceIte, Nat.reduceAdd, Int.reduceBEq, Int.reduceBNe, List.map] <;> rfl) (K_orV ok1 ok2) fun v H3 h5 => ?_)
 obtain ⟨u, e1, r1, e2, hr1, hfr1, hwr1, hxr1⟩ := h5
 subst e1 e2
 try dsimp only at hr1
 haveI : ExtI _ H3 := ⟨hxr1⟩
 haveI := hr1.one
 refine mT rfl ?_
 refine Fo.extr rfl rfl ?_
 refine Fo.extr rfl rfl ?_
 refine Fo.new ?_
 refine Fo.st rfl (rfl : _ = AVal.agg _) rfl rfl rfl (by repeat (first | rfl | refine allOne_cons ?_)) (by simp only [↓nrmL, nrmZ, Nat.reduceEqDiff, ↓reduceIte, Nat.reduceAdd, Int.reduceBEq, Int.reduceBNe]; rfl) ?_
 refine mI rfl ?_
 refine WpO.nil (hKF _ _ ?_)
 refine sq ?_
 refine rg fun KF hKF => ?_
 refine Fo.ldN rfl rfl (by simp only [↓nrmL, nrmZ, Nat.reduceEqDiff, ↓reduceIte, Nat.reduceAdd, Int.reduceBEq, Int.reduceBNe]; rfl) ?_
 refine Fo.ldN rfl rfl (by simp only [↓nrmL, nrmZ, Nat.reduceEqDiff, ↓reduceIte, Nat.reduceAdd, Int.reduceBEq, Int.reduceBNe]; rfl) ?_
 dsimp only [cond_true, cond_false]
 refine WpO.do (WpX.conD hn rfl rfl (by simp only [↓nrmL, nrmZ, Nat.reduceEqDiff, ↓reduceIte, Nat.reduceAdd, Int.reduceBEq, Int.reduceBNe, List.map] <;> rfl) (K_andV ok1 ok2) fun v H4 h5 => ?_)
 obtain ⟨u, e1, r2, e2, hr2, hfr2, hwr2, hxr2⟩ := h5
 subst e1 e2
 try dsimp only at hr2
 haveI : ExtI _ H4 := ⟨hxr2⟩
 haveI := hr2.one
 refine mT rfl ?_
 refine Fo.extr rfl rfl ?_
 refine Fo.extr rfl rfl ?_
 refine Fo.new ?_
 refine Fo.st rfl (rfl : _ = AVal.agg _) rfl rfl rfl (by repeat (first | rfl | refine allOne_cons ?_)) (by simp only [↓nrmL, nrmZ, Nat.reduceEqDiff, ↓reduceIte, Nat.reduceAdd, Int.reduceBEq, Int.reduceBNe]; rfl) ?_
 refine mI rfl ?_
 refine WpO.nil (hKF _ _ ?_)
 refine sq ?_
 refine rg fun KF hKF => ?_
 refine Fo.ldN rfl rfl (by simp only [↓nrmL, nrmZ, Nat.reduceEqDiff, ↓reduceIte, Nat.reduceAdd, Int.reduceBEq, Int.reduceBNe]; rfl) ?_
 refine Fo.ldN rfl rfl (by simp only [↓nrmL, nrmZ, Nat.reduceEqDiff, ↓reduceIte, Nat.reduceAdd, Int.reduceBEq, Int.reduceBNe]; rfl) ?_
 dsimp only [cond_true, cond_false]
 refine WpO.do (WpX.conD hn rfl rfl (by simp only [↓nrmL, nrmZ, Nat.reduceEqDiff, ↓reduceIte, Nat.reduceAdd, Int.reduceBEq, Int.reduceBNe, List.map] <;> rfl) (K_lessV ok1 ok2) fun v H5 h5 => ?_)
 obtain ⟨u, e1, r3, e2, hr3, hfr3, hwr3, hxr3⟩ := h5
 subst e1 e2
 try dsimp only at hr3
 haveI : ExtI _ H5 := ⟨hxr3⟩
 haveI := hr3.one
 refine mT rfl ?_
 refine Fo.extr rfl rfl ?_
 refine Fo.extr rfl rfl ?_
 refine Fo.new ?_
 refine Fo.st rfl (rfl : _ = AVal.agg _) rfl rfl rfl (by repeat (first | rfl | refine allOne_cons ?_)) (by simp only [↓nrmL, nrmZ, Nat.reduceEqDiff, ↓reduceIte, Nat.reduceAdd, Int.reduceBEq, Int.reduceBNe]; rfl) ?_
 refine mI rfl ?_
 refine WpO.nil (hKF _ _ ?_)
 refine sq ?_
 refine rg fun KF hKF => ?_
 refine Fo.ldN rfl rfl (by simp only [↓nrmL, nrmZ, Nat.reduceEqDiff, ↓reduceIte, Nat.reduceAdd, Int.reduceBEq, Int.reduceBNe]; rfl) ?_
 refine Fo.ldN rfl rfl (by simp only [↓nrmL, nrmZ, Nat.reduceEqDiff, ↓reduceIte, Nat.reduceAdd, Int.reduceBEq, Int.reduceBNe]; rfl) ?_
 dsimp only [cond_true, cond_false]
 refine WpO.do (WpX.conD hn rfl rfl (by simp only [↓nrmL, nrmZ, Nat.reduceEqDiff, ↓reduceIte, Nat.reduceAdd, Int.reduceBEq, Int.reduceBNe, List.map] <;> rfl) (K_lessV ok2 ok1) fun v H6 h5 => ?_)
 obtain ⟨u, e1, r4, e2, hr4, hfr4, hwr4, hxr4⟩ := h5
 subst e1 e2
 try dsimp only at hr4
 haveI : ExtI _ H6 := ⟨hxr4⟩
 haveI := hr4.one
 refine mT rfl ?_
 refine Fo.extr rfl rfl ?_
 refine Fo.extr rfl rfl ?_
 refine Fo.new ?_
 refine Fo.st rfl (rfl : _ = AVal.agg _) rfl rfl rfl (by repeat (first | rfl | refine allOne_cons ?_)) (by simp only [↓nrmL, nrmZ, Nat.reduceEqDiff, ↓reduceIte, Nat.reduceAdd, Int.reduceBEq, Int.reduceBNe]; rfl) ?_
 refine mI rfl ?_
 refine WpO.nil (hKF _ _ ?_)
 refine sq ?_
 refine rg fun KF hKF => ?_
 refine Fo.ldN rfl rfl (by simp only [↓nrmL, nrmZ, Nat.reduceEqDiff, ↓reduceIte, Nat.reduceAdd, Int.reduceBEq, Int.reduceBNe]; rfl) ?_
 dsimp only [cond_true, cond_false]
 refine WpO.do (WpX.conD hn rfl rfl (by simp only [↓nrmL, nrmZ, Nat.reduceEqDiff, ↓reduceIte, Nat.reduceAdd, Int.reduceBEq, Int.reduceBNe, List.map] <;> rfl) (K_notV ok1) fun v H7 h5 => ?_)
 obtain ⟨u, e1, r5, e2, hr5, hfr5, hwr5, hxr5⟩ := h5
 subst e1 e2
 try dsimp only at hr5
 haveI : ExtI _ H7 := ⟨hxr5⟩
 haveI := hr5.one
 refine mT rfl ?_
 refine Fo.extr rfl rfl ?_
 refine Fo.extr rfl rfl ?_
 refine Fo.new ?_
 refine Fo.st rfl (rfl : _ = AVal.agg _) rfl rfl rfl (by repeat (first | rfl | refine allOne_cons ?_)) (by simp only [↓nrmL, nrmZ, Nat.reduceEqDiff, ↓reduceIte, Nat.reduceAdd, Int.reduceBEq, Int.reduceBNe]; rfl) ?_
 refine mI rfl ?_
 refine WpO.nil (hKF _ _ ?_)
 refine sq ?_
 refine rg fun KF hKF => ?_
 refine Fo.ldN rfl rfl (by simp only [↓nrmL, nrmZ, Nat.reduceEqDiff, ↓reduceIte, Nat.reduceAdd, Int.reduceBEq, Int.reduceBNe]; rfl) ?_
 dsimp only [cond_true, cond_false]
 refine WpO.do (WpX.conD hn rfl rfl (by simp only [↓nrmL, nrmZ, Nat.reduceEqDiff, ↓reduceIte, Nat.reduceAdd, Int.reduceBEq, Int.reduceBNe, List.map] <;> rfl) (K_notV ok3) fun v H8 h5 => ?_)
 obtain ⟨u, e1, r6, e2, hr6, hfr6, hwr6, hxr6⟩ := h5
 subst e1 e2
 try dsimp only at hr6
 haveI : ExtI _ H8 := ⟨hxr6⟩
 haveI := hr6.one
 refine mT rfl ?_
 refine Fo.extr rfl rfl ?_
 refine Fo.extr rfl rfl ?_
 refine Fo.new ?_
 refine Fo.st rfl (rfl : _ = AVal.agg _) rfl rfl rfl (by repeat (first | rfl | refine allOne_cons ?_)) (by simp only [↓nrmL, nrmZ, Nat.reduceEqDiff, ↓reduceIte, Nat.reduceAdd, Int.reduceBEq, Int.reduceBNe]; rfl) ?_
 refine mI rfl ?_
 refine WpO.nil (hKF _ _ ?_)
 refine sq ?_
 refine rg fun KF hKF => ?_
 refine Fo.ldN rfl rfl (by simp only [↓nrmL, nrmZ, Nat.reduceEqDiff, ↓reduceIte, Nat.reduceAdd, Int.reduceBEq, Int.reduceBNe]; rfl) ?_
 dsimp only [cond_true, cond_false]
 refine WpO.do (WpX.conD hn rfl rfl (by simp only [↓nrmL, nrmZ, Nat.reduceEqDiff, ↓reduceIte, Nat.reduceAdd, Int.reduceBEq, Int.reduceBNe, List.map] <;> rfl) (K_notV ok2) fun v H9 h5 => ?_)
 obtain ⟨u, e1, r7, e2, hr7, hfr7, hwr7, hxr7⟩ := h5
 subst e1 e2
 try dsimp only at hr7
 haveI : ExtI _ H9 := ⟨hxr7⟩
 haveI := hr7.one
 refine mT rfl ?_
 refine Fo.extr rfl rfl ?_
 refine Fo.extr rfl rfl ?_
 refine Fo.new ?_
 refine Fo.st rfl (rfl : _ = AVal.agg _) rfl rfl rfl (by repeat (first | rfl | refine allOne_cons ?_)) (by simp only [↓nrmL, nrmZ, Nat.reduceEqDiff, ↓reduceIte, Nat.reduceAdd, Int.reduceBEq, Int.reduceBNe]; rfl) ?_
 refine mI rfl ?_
 refine WpO.nil (hKF _ _ ?_)
 refine sq ?_
 refine rg fun KF hKF => ?_
 refine Fo.ldN rfl rfl (by simp only [↓nrmL, nrmZ, Nat.reduceEqDiff, ↓reduceIte, Nat.reduceAdd, Int.reduceBEq, Int.reduceBNe]; rfl) ?_
 refine Fo.ldN rfl rfl (by simp only [↓nrmL, nrmZ, Nat.reduceEqDiff, ↓reduceIte, Nat.reduceAdd, Int.reduceBEq, Int.reduceBNe]; rfl) ?_
 dsimp only [cond_true, cond_false]
 refine WpO.do (WpX.conD hn rfl rfl (by simp only [↓nrmL, nrmZ, Nat.reduceEqDiff, ↓reduceIte, Nat.reduceAdd, Int.reduceBEq, Int.reduceBNe, List.map] <;> rfl) (K_andV ok7 ok8) fun v H10 h5 => ?_)
 obtain ⟨u, e1, r8, e2, hr8, hfr8, hwr8, hxr8⟩ := h5
 subst e1 e2
 try dsimp only at hr8
 haveI : ExtI _ H10 := ⟨hxr8⟩
 haveI := hr8.one
 haveI : Short ((List.zipWith (fun a b => a ||| b) l m).map (· ^^^ 1)) := ⟨by have := ok9.short; omega⟩
 have hsame : decide ((⟨a, b, (List.zipWith (fun a b => a ||| b) l m).map (· ^^^ 1)⟩ : Img) = ⟨a, b, List.zipWith (fun a b => a &&& b) (l.map (· ^^^ 1)) (m.map (· ^^^ 1))⟩) = true := decide_eq_true (by rw [a3])
 have c5 := count_le (List.zipWith (fun a b => a &&& ~~~b) l m) 1
 have c6 := count_le (List.zipWith (fun a b => a &&& ~~~b) m l) 1
 have c4 := count_le (List.zipWith (fun a b => a &&& b) l m) 1
 have c7 := count_le (List.zipWith (fun a b => a ^^^ b) l m) 1
 have d5 := ok5.short
 have d6 := ok6.short
 have d4 := ok4.short
 have d7 := (ok_zip (op := fun a b => a ^^^ b) ok1 ok2 xor01).short
 have hE1 : (IntKind.i64.wrap ((((List.zipWith (fun a b => a &&& ~~~b) l m).count 1 : Nat) : Int) + (((List.zipWith (fun a b => a &&& ~~~b) m l).count 1 : Nat) : Int)) == (((List.zipWith (fun a b => a ^^^ b) l m).count 1 : Nat) : Int)) = true := by
  rw [wa (by omega), a1]; exact beq_self_eq_true _
 have hE2 : ((((List.zipWith (fun a b => a ||| b) l m).count 1 : Nat) : Int) == IntKind.i64.wrap ((((List.zipWith (fun a b => a &&& b) l m).count 1 : Nat) : Int) + (((List.zipWith (fun a b => a ^^^ b) l m).count 1 : Nat) : Int))) = true := by
  rw [wa (by omega), a2]; exact beq_self_eq_true _
 try simp only [↓nrmL, nrmZ, Nat.reduceEqDiff, ↓reduceIte, Nat.reduceAdd, Int.reduceBEq, Int.reduceBNe, distSpec, combOk ok1 ok2, ok3.err, ok4.err, ok5.err, ok6.err, beq_self_eq_true, cond_true, hsame, Bool.not_true, hE1, hE2]
 refine mT rfl ?_
 refine Fo.extr rfl rfl ?_
 refine Fo.extr rfl rfl ?_
 refine Fo.new ?_
 refine Fo.st rfl (rfl : _ = AVal.agg _) rfl rfl rfl (by repeat (first | rfl | refine allOne_cons ?_)) (by simp only [↓nrmL, nrmZ, Nat.reduceEqDiff, ↓reduceIte, Nat.reduceAdd, Int.reduceBEq, Int.reduceBNe, distSpec, combOk ok1 ok2, ok3.err, ok4.err, ok5.err, ok6.err, beq_self_eq_true, cond_true, hsame, Bool.not_true, hE1, hE2]; rfl) ?_
 refine mI rfl ?_
 refine WpO.nil (hKF _ _ ?_)
 refine sq ?_
 refine rg fun KF hKF => ?_
 refine Fo.ldN rfl rfl (by simp only [↓nrmL, nrmZ, Nat.reduceEqDiff, ↓reduceIte, Nat.reduceAdd, Int.reduceBEq, Int.reduceBNe, distSpec, combOk ok1 ok2, ok3.err, ok4.err, ok5.err, ok6.err, beq_self_eq_true, cond_true, hsame, Bool.not_true, hE1, hE2]; rfl) ?_
 refine Fo.ldN rfl rfl (by simp only [↓nrmL, nrmZ, Nat.reduceEqDiff, ↓reduceIte, Nat.reduceAdd, Int.reduceBEq, Int.reduceBNe, distSpec, combOk ok1 ok2, ok3.err, ok4.err, ok5.err, ok6.err, beq_self_eq_true, cond_true, hsame, Bool.not_true, hE1, hE2]; rfl) ?_
 refine Fo.pcall (v' := ?_) hn rfl (by simp only [↓nrmL, nrmZ, Nat.reduceEqDiff, ↓reduceIte, Nat.reduceAdd, Int.reduceBEq, Int.reduceBNe, distSpec, combOk ok1 ok2, ok3.err, ok4.err, ok5.err, ok6.err, beq_self_eq_true, cond_true, hsame, Bool.not_true, hE1, hE2, List.map]; rfl) rfl ?hv fun _ _ => ?_; case hv => (simp only [↓nrmL, nrmZ, Nat.reduceEqDiff, ↓reduceIte, Nat.reduceAdd, Int.reduceBEq, Int.reduceBNe, distSpec, combOk ok1 ok2, ok3.err, ok4.err, ok5.err, ok6.err, beq_self_eq_true, cond_true, hsame, Bool.not_true, hE1, hE2]; rfl)
 refine mT rfl ?_
 refine Fo.extr rfl rfl ?_
 refine Fo.extr rfl rfl ?_
 refine mI rfl ?_
 refine mI rfl ?_
 refine WpO.nil (hKF _ _ ?_)
 refine sq ?_
 refine sq ?_
 refine rg fun KF hKF => ?_
 refine mI rfl ?_
 refine Fo.bin rfl rfl rfl (by simp only [↓nrmL, nrmZ, Nat.reduceEqDiff, ↓reduceIte, Nat.reduceAdd, Int.reduceBEq, Int.reduceBNe, distSpec, combOk ok1 ok2, ok3.err, ok4.err, ok5.err, ok6.err, beq_self_eq_true, cond_true, hsame, Bool.not_true, hE1, hE2]; rfl) ?_
 refine mB rfl ?_
 refine Fo.yes rfl rfl ?_
 refine mI rfl ?_
 refine Fo.yes rfl rfl ?_
 refine Fo.bin rfl rfl rfl (by simp only [↓nrmL, nrmZ, Nat.reduceEqDiff, ↓reduceIte, Nat.reduceAdd, Int.reduceBEq, Int.reduceBNe, distSpec, combOk ok1 ok2, ok3.err, ok4.err, ok5.err, ok6.err, beq_self_eq_true, cond_true, hsame, Bool.not_true, hE1, hE2]; rfl) ?_
 refine fB rfl rfl ?_
 refine mB rfl ?_
 refine Fo.yes rfl rfl ?_
 refine mI rfl ?_
 refine Fo.yes rfl rfl ?_
 refine Fo.bin rfl rfl rfl (by simp only [↓nrmL, nrmZ, Nat.reduceEqDiff, ↓reduceIte, Nat.reduceAdd, Int.reduceBEq, Int.reduceBNe, distSpec, combOk ok1 ok2, ok3.err, ok4.err, ok5.err, ok6.err, beq_self_eq_true, cond_true, hsame, Bool.not_true, hE1, hE2]; rfl) ?_
 refine fB rfl rfl ?_
 refine mB rfl ?_
 refine Fo.yes rfl rfl ?_
 refine mI rfl ?_
 refine Fo.yes rfl rfl ?_
 refine Fo.bin rfl rfl rfl (by simp only [↓nrmL, nrmZ, Nat.reduceEqDiff, ↓reduceIte, Nat.reduceAdd, Int.reduceBEq, Int.reduceBNe, distSpec, combOk ok1 ok2, ok3.err, ok4.err, ok5.err, ok6.err, beq_self_eq_true, cond_true, hsame, Bool.not_true, hE1, hE2]; rfl) ?_
 refine fB rfl rfl ?_
 refine mB rfl ?_
 refine Fo.yes rfl rfl ?_
 refine mI rfl ?_
 refine Fo.yes rfl rfl ?_
 refine Fo.bin rfl rfl rfl (by simp only [↓nrmL, nrmZ, Nat.reduceEqDiff, ↓reduceIte, Nat.reduceAdd, Int.reduceBEq, Int.reduceBNe, distSpec, combOk ok1 ok2, ok3.err, ok4.err, ok5.err, ok6.err, beq_self_eq_true, cond_true, hsame, Bool.not_true, hE1, hE2]; rfl) ?_
 refine fB rfl rfl ?_
 refine mB rfl ?_
 refine Fo.yes rfl rfl ?_
 refine mI rfl ?_
 refine Fo.yes rfl rfl ?_
 refine Fo.bin rfl rfl rfl (by simp only [↓nrmL, nrmZ, Nat.reduceEqDiff, ↓reduceIte, Nat.reduceAdd, Int.reduceBEq, Int.reduceBNe, distSpec, combOk ok1 ok2, ok3.err, ok4.err, ok5.err, ok6.err, beq_self_eq_true, cond_true, hsame, Bool.not_true, hE1, hE2]; rfl) ?_
 refine fB rfl rfl ?_
 refine mB rfl ?_
 refine Fo.yes rfl rfl ?_
 refine mI rfl ?_
 refine Fo.yes rfl rfl ?_
 refine Fo.bin rfl rfl rfl (by simp only [↓nrmL, nrmZ, Nat.reduceEqDiff, ↓reduceIte, Nat.reduceAdd, Int.reduceBEq, Int.reduceBNe, distSpec, combOk ok1 ok2, ok3.err, ok4.err, ok5.err, ok6.err, beq_self_eq_true, cond_true, hsame, Bool.not_true, hE1, hE2]; rfl) ?_
 refine fB rfl rfl ?_
 refine mB rfl ?_
 refine Fo.yes rfl rfl ?_
 refine mI rfl ?_
 refine Fo.yes rfl rfl ?_
 refine Fo.bin rfl rfl rfl (by simp only [↓nrmL, nrmZ, Nat.reduceEqDiff, ↓reduceIte, Nat.reduceAdd, Int.reduceBEq, Int.reduceBNe, distSpec, combOk ok1 ok2, ok3.err, ok4.err, ok5.err, ok6.err, beq_self_eq_true, cond_true, hsame, Bool.not_true, hE1, hE2]; rfl) ?_
 refine fB rfl rfl ?_
 refine mB rfl ?_
 refine Fo.yes rfl rfl ?_
 refine mI rfl ?_
 refine Fo.yes rfl rfl ?_
 refine Fo.bin rfl rfl rfl (by simp only [↓nrmL, nrmZ, Nat.reduceEqDiff, ↓reduceIte, Nat.reduceAdd, Int.reduceBEq, Int.reduceBNe, distSpec, combOk ok1 ok2, ok3.err, ok4.err, ok5.err, ok6.err, beq_self_eq_true, cond_true, hsame, Bool.not_true, hE1, hE2]; rfl) ?_
 refine fB rfl rfl ?_
 refine mB rfl ?_
 refine Fo.yes rfl rfl ?_
 refine Fo.ldN rfl rfl (by simp only [↓nrmL, nrmZ, Nat.reduceEqDiff, ↓reduceIte, Nat.reduceAdd, Int.reduceBEq, Int.reduceBNe, distSpec, combOk ok1 ok2, ok3.err, ok4.err, ok5.err, ok6.err, beq_self_eq_true, cond_true, hsame, Bool.not_true, hE1, hE2]; rfl) ?_
 refine Fo.yes rfl rfl ?_
 refine Fo.ldN rfl rfl (by simp only [↓nrmL, nrmZ, Nat.reduceEqDiff, ↓reduceIte, Nat.reduceAdd, Int.reduceBEq, Int.reduceBNe, distSpec, combOk ok1 ok2, ok3.err, ok4.err, ok5.err, ok6.err, beq_self_eq_true, cond_true, hsame, Bool.not_true, hE1, hE2]; rfl) ?_
 refine Fo.yes rfl rfl ?_
 refine Fo.pcall (v' := ?_) hn rfl (by simp only [↓nrmL, nrmZ, Nat.reduceEqDiff, ↓reduceIte, Nat.reduceAdd, Int.reduceBEq, Int.reduceBNe, distSpec, combOk ok1 ok2, ok3.err, ok4.err, ok5.err, ok6.err, beq_self_eq_true, cond_true, hsame, Bool.not_true, hE1, hE2, List.map]; rfl) rfl ?hv fun _ _ => ?_; case hv => (simp only [↓nrmL, nrmZ, Nat.reduceEqDiff, ↓reduceIte, Nat.reduceAdd, Int.reduceBEq, Int.reduceBNe, distSpec, combOk ok1 ok2, ok3.err, ok4.err, ok5.err, ok6.err, beq_self_eq_true, cond_true, hsame, Bool.not_true, hE1, hE2]; rfl)
 refine Fo.yes rfl rfl ?_
 refine Fo.now rfl rfl (by simp only [↓nrmL, nrmZ, Nat.reduceEqDiff, ↓reduceIte, Nat.reduceAdd, Int.reduceBEq, Int.reduceBNe, distSpec, combOk ok1 ok2, ok3.err, ok4.err, ok5.err, ok6.err, beq_self_eq_true, cond_true, hsame, Bool.not_true, hE1, hE2]; rfl) ?_
 refine fB rfl rfl ?_
 refine WpO.nil (hKF _ _ ?_)
 refine Wp.cond (b := false) rfl ?_
 refine Wp.skip ?_
 refine sq ?_
 refine rg fun KF hKF => ?_
 refine Fo.ldN rfl rfl (by simp only [↓nrmL, nrmZ, Nat.reduceEqDiff, ↓reduceIte, Nat.reduceAdd, Int.reduceBEq, Int.reduceBNe, distSpec, combOk ok1 ok2, ok3.err, ok4.err, ok5.err, ok6.err, beq_self_eq_true, cond_true, hsame, Bool.not_true, hE1, hE2]; rfl) ?_
 refine Fo.pcall (v' := ?_) hn rfl (by simp only [↓nrmL, nrmZ, Nat.reduceEqDiff, ↓reduceIte, Nat.reduceAdd, Int.reduceBEq, Int.reduceBNe, distSpec, combOk ok1 ok2, ok3.err, ok4.err, ok5.err, ok6.err, beq_self_eq_true, cond_true, hsame, Bool.not_true, hE1, hE2, List.map]; rfl) rfl ?hv fun _ _ => ?_; case hv => (simp only [↓nrmL, nrmZ, Nat.reduceEqDiff, ↓reduceIte, Nat.reduceAdd, Int.reduceBEq, Int.reduceBNe, distSpec, combOk ok1 ok2, ok3.err, ok4.err, ok5.err, ok6.err, beq_self_eq_true, cond_true, hsame, Bool.not_true, hE1, hE2]; rfl)
 refine mT rfl ?_
 refine Fo.extr rfl rfl ?_
 refine Fo.extr rfl rfl ?_
 refine mI rfl ?_
 refine mI rfl ?_
 refine WpO.nil (hKF _ _ ?_)
 refine sq ?_
 refine rg fun KF hKF => ?_
 refine Fo.ldN rfl rfl (by simp only [↓nrmL, nrmZ, Nat.reduceEqDiff, ↓reduceIte, Nat.reduceAdd, Int.reduceBEq, Int.reduceBNe, distSpec, combOk ok1 ok2, ok3.err, ok4.err, ok5.err, ok6.err, beq_self_eq_true, cond_true, hsame, Bool.not_true, hE1, hE2]; rfl) ?_
 refine Fo.pcall (v' := ?_) hn rfl (by simp only [↓nrmL, nrmZ, Nat.reduceEqDiff, ↓reduceIte, Nat.reduceAdd, Int.reduceBEq, Int.reduceBNe, distSpec, combOk ok1 ok2, ok3.err, ok4.err, ok5.err, ok6.err, beq_self_eq_true, cond_true, hsame, Bool.not_true, hE1, hE2, List.map]; rfl) rfl ?hv fun _ _ => ?_; case hv => (simp only [↓nrmL, nrmZ, Nat.reduceEqDiff, ↓reduceIte, Nat.reduceAdd, Int.reduceBEq, Int.reduceBNe, distSpec, combOk ok1 ok2, ok3.err, ok4.err, ok5.err, ok6.err, beq_self_eq_true, cond_true, hsame, Bool.not_true, hE1, hE2]; rfl)
 refine mT rfl ?_
 refine Fo.extr rfl rfl ?_
 refine Fo.extr rfl rfl ?_
 refine mI rfl ?_
 refine mI rfl ?_
 refine WpO.nil (hKF _ _ ?_)
 refine sq ?_
 refine rg fun KF hKF => ?_
 refine Fo.ldN rfl rfl (by simp only [↓nrmL, nrmZ, Nat.reduceEqDiff, ↓reduceIte, Nat.reduceAdd, Int.reduceBEq, Int.reduceBNe, distSpec, combOk ok1 ok2, ok3.err, ok4.err, ok5.err, ok6.err, beq_self_eq_true, cond_true, hsame, Bool.not_true, hE1, hE2]; rfl) ?_
 refine Fo.pcall (v' := ?_) hn rfl (by simp only [↓nrmL, nrmZ, Nat.reduceEqDiff, ↓reduceIte, Nat.reduceAdd, Int.reduceBEq, Int.reduceBNe, distSpec, combOk ok1 ok2, ok3.err, ok4.err, ok5.err, ok6.err, beq_self_eq_true, cond_true, hsame, Bool.not_true, hE1, hE2, List.map]; rfl) rfl ?hv fun _ _ => ?_; case hv => (simp only [↓nrmL, nrmZ, Nat.reduceEqDiff, ↓reduceIte, Nat.reduceAdd, Int.reduceBEq, Int.reduceBNe, distSpec, combOk ok1 ok2, ok3.err, ok4.err, ok5.err, ok6.err, beq_self_eq_true, cond_true, hsame, Bool.not_true, hE1, hE2]; rfl)
 refine mT rfl ?_
 refine Fo.extr rfl rfl ?_
 refine Fo.extr rfl rfl ?_
 refine mI rfl ?_
 refine mI rfl ?_
 refine WpO.nil (hKF _ _ ?_)
 refine sq ?_
 refine rg fun KF hKF => ?_
 refine Fo.ldN rfl rfl (by simp only [↓nrmL, nrmZ, Nat.reduceEqDiff, ↓reduceIte, Nat.reduceAdd, Int.reduceBEq, Int.reduceBNe, distSpec, combOk ok1 ok2, ok3.err, ok4.err, ok5.err, ok6.err, beq_self_eq_true, cond_true, hsame, Bool.not_true, hE1, hE2]; rfl) ?_
 refine Fo.pcall (v' := ?_) hn rfl (by simp only [↓nrmL, nrmZ, Nat.reduceEqDiff, ↓reduceIte, Nat.reduceAdd, Int.reduceBEq, Int.reduceBNe, distSpec, combOk ok1 ok2, ok3.err, ok4.err, ok5.err, ok6.err, beq_self_eq_true, cond_true, hsame, Bool.not_true, hE1, hE2, List.map]; rfl) rfl ?hv fun _ _ => ?_; case hv => (simp only [↓nrmL, nrmZ, Nat.reduceEqDiff, ↓reduceIte, Nat.reduceAdd, Int.reduceBEq, Int.reduceBNe, distSpec, combOk ok1 ok2, ok3.err, ok4.err, ok5.err, ok6.err, beq_self_eq_true, cond_true, hsame, Bool.not_true, hE1, hE2]; rfl)
 refine mT rfl ?_
 refine Fo.extr rfl rfl ?_
 refine Fo.extr rfl rfl ?_
 refine mI rfl ?_
 refine mI rfl ?_
 refine WpO.nil (hKF _ _ ?_)
 refine sq ?_
 refine rg fun KF hKF => ?_
 refine mI rfl ?_
 refine mI rfl ?_
 refine Fo.bin rfl rfl rfl rfl ?_
 refine mI rfl ?_
 refine Fo.bin rfl rfl rfl (by simp only [↓nrmL, nrmZ, Nat.reduceEqDiff, ↓reduceIte, Nat.reduceAdd, Int.reduceBEq, Int.reduceBNe, distSpec, combOk ok1 ok2, ok3.err, ok4.err, ok5.err, ok6.err, beq_self_eq_true, cond_true, hsame, Bool.not_true, hE1, hE2]; rfl) ?_
 refine mB rfl ?_
 refine Fo.yes rfl rfl ?_
 refine mI rfl ?_
 refine Fo.yes rfl rfl ?_
 refine mI rfl ?_
 refine Fo.yes rfl rfl ?_
 refine mI rfl ?_
 refine Fo.yes rfl rfl ?_
 refine Fo.bin rfl rfl rfl rfl ?_
 refine Fo.yes rfl rfl ?_
 refine Fo.bin rfl rfl rfl (by simp only [↓nrmL, nrmZ, Nat.reduceEqDiff, ↓reduceIte, Nat.reduceAdd, Int.reduceBEq, Int.reduceBNe, distSpec, combOk ok1 ok2, ok3.err, ok4.err, ok5.err, ok6.err, beq_self_eq_true, cond_true, hsame, Bool.not_true, hE1, hE2]; rfl) ?_
 refine tB rfl rfl ?_
 refine mB rfl ?_
 refine Fo.yes rfl rfl ?_
 refine Fo.ldN rfl rfl (by simp only [↓nrmL, nrmZ, Nat.reduceEqDiff, ↓reduceIte, Nat.reduceAdd, Int.reduceBEq, Int.reduceBNe, distSpec, combOk ok1 ok2, ok3.err, ok4.err, ok5.err, ok6.err, beq_self_eq_true, cond_true, hsame, Bool.not_true, hE1, hE2]; rfl) ?_
 refine Fo.yes rfl rfl ?_
 refine Fo.ldN rfl rfl (by simp only [↓nrmL, nrmZ, Nat.reduceEqDiff, ↓reduceIte, Nat.reduceAdd, Int.reduceBEq, Int.reduceBNe, distSpec, combOk ok1 ok2, ok3.err, ok4.err, ok5.err, ok6.err, beq_self_eq_true, cond_true, hsame, Bool.not_true, hE1, hE2]; rfl) ?_
 refine Fo.yes rfl rfl ?_
 refine WpO.do (WpX.conD hn rfl rfl (by simp only [↓nrmL, nrmZ, Nat.reduceEqDiff, ↓reduceIte, Nat.reduceAdd, Int.reduceBEq, Int.reduceBNe, List.map] <;> rfl) (K_within ok4 ok1) fun v H11 h5 => ?_)
 obtain ⟨rfl, hx11⟩ := h5
 haveI : ExtI _ H11 := ⟨hx11⟩
 rw [a4]
 refine tB rfl rfl ?_
 refine mB rfl ?_
 refine Fo.yes rfl rfl ?_
 refine Fo.ldN rfl rfl (by simp only [↓nrmL, nrmZ, Nat.reduceEqDiff, ↓reduceIte, Nat.reduceAdd, Int.reduceBEq, Int.reduceBNe]; rfl) ?_
 refine Fo.yes rfl rfl ?_
 refine Fo.ldN rfl rfl (by simp only [↓nrmL, nrmZ, Nat.reduceEqDiff, ↓reduceIte, Nat.reduceAdd, Int.reduceBEq, Int.reduceBNe]; rfl) ?_
 refine Fo.yes rfl rfl ?_
 refine WpO.do (WpX.conD hn rfl rfl (by simp only [↓nrmL, nrmZ, Nat.reduceEqDiff, ↓reduceIte, Nat.reduceAdd, Int.reduceBEq, Int.reduceBNe, List.map] <;> rfl) (K_within ok1 ok3) fun v H12 h5 => ?_)
 obtain ⟨rfl, hx12⟩ := h5
 haveI : ExtI _ H12 := ⟨hx12⟩
 rw [a5]
 refine tB rfl rfl ?_
 refine mB rfl ?_
 refine Fo.yes rfl rfl ?_
 refine Fo.ldN rfl rfl (by simp only [↓nrmL, nrmZ, Nat.reduceEqDiff, ↓reduceIte, Nat.reduceAdd, Int.reduceBEq, Int.reduceBNe]; rfl) ?_
 refine Fo.yes rfl rfl ?_
 refine Fo.ldN rfl rfl (by simp only [↓nrmL, nrmZ, Nat.reduceEqDiff, ↓reduceIte, Nat.reduceAdd, Int.reduceBEq, Int.reduceBNe]; rfl) ?_
 refine Fo.yes rfl rfl ?_
 refine WpO.do (WpX.conD hn rfl rfl (by simp only [↓nrmL, nrmZ, Nat.reduceEqDiff, ↓reduceIte, Nat.reduceAdd, Int.reduceBEq, Int.reduceBNe, List.map] <;> rfl) (K_within ok5 ok1) fun v H13 h5 => ?_)
 obtain ⟨rfl, hx13⟩ := h5
 haveI : ExtI _ H13 := ⟨hx13⟩
 rw [a6]
 refine tB rfl rfl ?_
 refine mB rfl ?_
 refine Fo.yes rfl rfl ?_
 refine Fo.pcall (v' := ?_) hn rfl (by simp only [↓nrmL, nrmZ, Nat.reduceEqDiff, ↓reduceIte, Nat.reduceAdd, Int.reduceBEq, Int.reduceBNe, List.map]; rfl) rfl ?hv fun _ _ => ?_; case hv => rfl
 refine tB rfl rfl ?_
 refine mB rfl ?_
 refine WpO.nil (hKF _ _ ?_)
 refine Wp.ret ?_
 dsimp only [cond_true, cond_false]
 refine ⟨trivial, _, (by first | rfl | exact getAllC rfl rfl rfl rfl | exact getAllT rfl (getAllC rfl rfl rfl rfl) | exact getAllC rfl rfl rfl (getAllC rfl rfl rfl rfl) | exact getAllC1 rfl rfl rfl), ?_⟩
 exact ⟨rfl, Ext0.ext⟩
end Go.Am

set_option linter.unusedSimpArgs false
set_option linter.unusedVariables false
set_option maxHeartbeats 4000000
set_option maxRecDepth 100000
set_option synthInstance.maxHeartbeats 4000000
set_option synthInstance.maxSize 100000
namespace Go.Am
open Go
attribute [local irreducible] Wp WpO WpX WpE

/-- All ink of one list is ink of the other one. -/
def Sub (l m : List UInt8) : Prop := ∀ t, t < l.length → l.getD t 0 = 1 → m.getD t 0 = 1
theorem inkIn_iff {l m : List UInt8} (hl : pxOk l = true) (hm : pxOk m = true) (e : l.length = m.length) : inkIn l m = true ↔ Sub l m := by
 unfold inkIn Sub
 rw [beq_iff_eq, List.count_eq_zero]
 constructor
 ·intro h t ht h1
  rcases px_get hm (show t < m.length by omega) with h2 | h2
  ·exfalso
   apply h
   have h3 : t < (List.zipWith (fun a b => a &&& ~~~b) l m).length := by rw [List.length_zipWith]; omega
   have h4 : (List.zipWith (fun a b => a &&& ~~~b) l m)[t] = 1 := by
    rw [List.getElem_zipWith]
    rw [List.getD_eq_getElem?_getD, List.getElem?_eq_getElem ht] at h1
    rw [List.getD_eq_getElem?_getD, List.getElem?_eq_getElem (show t < m.length by omega)] at h2
    simp only [Option.getD_some] at h1 h2
    rw [h1, h2]; decide
   rw [← h4]; exact List.getElem_mem h3
  ·exact h2
 ·intro h hmem
  obtain ⟨t, ht, h1⟩ := List.mem_iff_getElem.1 hmem
  rw [List.length_zipWith] at ht
  rw [List.getElem_zipWith] at h1
  have h2 := px_get hl (show t < l.length by omega)
  have h3 := h t (by omega)
  rw [List.getD_eq_getElem?_getD, List.getElem?_eq_getElem (show t < l.length by omega)] at h2 h3
  rw [List.getD_eq_getElem?_getD, List.getElem?_eq_getElem (show t < m.length by omega)] at h3
  simp only [Option.getD_some] at h2 h3
  rcases h2 with h2 | h2
  ·rw [h2] at h1
   rcases px_get hm (show t < m.length by omega) with h4 | h4 <;> (rw [List.getD_eq_getElem?_getD, List.getElem?_eq_getElem (show t < m.length by omega)] at h4; simp only [Option.getD_some] at h4; rw [h4] at h1; revert h1; decide)
  ·rw [h2, h3 h2] at h1
   revert h1; decide
theorem sub_iff {a b : Nat} {l m : List UInt8} (hl : l.length = a * b) : Sub l m ↔ ∀ x y, x < a → y < b → inkP l a x y → inkP m a x y := by
 constructor
 ·intro h x y hx hy h1
  exact h _ (by have := idx_lt hx hy; omega) h1
 ·intro h t ht h1
  have ha := pos_of_lt (a := a) (b := b) (t := t) (by omega)
  have h2 := row_mod (a := a) (t := t)
  have := h (t % a) (t / a) (Nat.mod_lt t ha) (div_lt' (by omega))
  unfold inkP at this
  rw [← h2] at this
  exact this h1
theorem sub_antisymm {l m : List UInt8} (hl : pxOk l = true) (hm : pxOk m = true) (e : l.length = m.length) (h : Sub l m) (k : Sub m l) : l = m := by
 refine list_eq e fun t ht => ?_
 rcases px_get hl ht with h1 | h1
 ·rcases px_get hm (show t < m.length by omega) with h2 | h2
  ·rw [h1, h2]
  ·have := k t (by omega) h2; rw [this] at h1; cases h1
 ·rw [h1, h t ht h1]
theorem sub_refl (l : List UInt8) : Sub l l := fun _ _ h => h
theorem sub_trans {l m k : List UInt8} (e : l.length = m.length) (h : Sub l m) (h2 : Sub m k) : Sub l k := fun t ht q => h2 t (by omega) (h t ht q)
/-- Brushes are adjoint. -/
theorem galois {a b w h : Nat} {l m : List UInt8} (okl : Ok a b l) (okm : Ok a b m) : Sub (dilL l a b w h) m ↔ Sub l (eroL m a b w h) := by
 rw [sub_iff (a := a) (b := b) (by rw [dilL_length, okl.len]), sub_iff okl.len]
 constructor
 ·intro q x y hx hy h1
  rw [ero_iff okm hx hy]
  intro i j hi hj hix hjy
  refine q (x - i) (y - j) (by omega) (by omega) ((dil_iff okl.len (by omega) (by omega)).2 ⟨i, j, hi, hj, by omega, by omega, ?_⟩)
  rw [show x - i + i = x by omega, show y - j + j = y by omega]
  exact h1
 ·intro q x y hx hy h1
  obtain ⟨i, j, hi, hj, h2, h3, h4⟩ := (dil_iff okl.len hx hy).1 h1
  have := (ero_iff okm h2 h3).1 (q (x + i) (y + j) h2 h3 h4) i j hi hj (by omega) (by omega)
  rw [show x + i - i = x by omega, show y + j - j = y by omega] at this
  exact this
theorem grow_facts {a b w h : Nat} {l m : List UInt8} (okl : Ok a b l) (okm : Ok a b m) :
  dilL (eroL (dilL l a b w h) a b w h) a b w h = dilL l a b w h ∧ eroL (dilL (eroL m a b w h) a b w h) a b w h = eroL m a b w h ∧ inkIn l (eroL (dilL l a b w h) a b w h) = true ∧ inkIn (dilL (eroL m a b w h) a b w h) m = true ∧ inkIn (dilL l a b w h) m = inkIn l (eroL m a b w h) := by
 have d1 := ok_dil (w := w) (h := h) okl
 have e1 := ok_ero (w := w) (h := h) d1
 have e2 := ok_ero (w := w) (h := h) okm
 have d2 := ok_dil (w := w) (h := h) e2
 have d3 := ok_dil (w := w) (h := h) e1
 have e3 := ok_ero (w := w) (h := h) d2
 have g1 : Sub l (eroL (dilL l a b w h) a b w h) := (galois okl d1).1 (sub_refl _)
 have g2 : Sub (dilL (eroL m a b w h) a b w h) m := (galois e2 okm).2 (sub_refl _)
 have g3 : Sub (dilL (eroL (dilL l a b w h) a b w h) a b w h) (dilL l a b w h) := (galois e1 d1).2 (sub_refl _)
 have g4 : Sub (eroL m a b w h) (eroL (dilL (eroL m a b w h) a b w h) a b w h) := (galois e2 d2).1 (sub_refl _)
 refine ⟨sub_antisymm d3.px d1.px (by rw [d3.len, d1.len]) g3 ?_, sub_antisymm e3.px e2.px (by rw [e3.len, e2.len]) ?_ g4, (inkIn_iff okl.px e1.px (by rw [okl.len, e1.len])).2 g1, (inkIn_iff d2.px okm.px (by rw [d2.len, okm.len])).2 g2, ?_⟩
 ·refine (galois okl d3).2 (sub_trans (by rw [okl.len, e1.len]) g1 ?_)
  exact (galois e1 d3).1 (sub_refl _)
 ·refine (galois e3 okm).1 (sub_trans (by rw [(ok_dil (w := w) (h := h) e3).len, d2.len]) ?_ g2)
  exact (galois e3 d2).2 (sub_refl _)
 ·have q1 := inkIn_iff d1.px okm.px (by rw [d1.len, okm.len])
  have q2 := inkIn_iff okl.px e2.px (by rw [okl.len, e2.len])
  have := galois (w := w) (h := h) okl okm
  rw [← q1, ← q2] at this
  rw [Bool.eq_iff_iff]
  exact this

theorem u8mod9 {c : UInt8} : IntKind.i64.wrap (((c.toNat : Nat) : Int).tmod 9) = ((c.toNat % 9 : Nat) : Int) := by
 have e : ((c.toNat : Nat) : Int).tmod 9 = ((c.toNat % 9 : Nat) : Int) := rfl
 rw [e]; exact w64 (by omega)
theorem one_add {k : Nat} (h : k < 1000) : IntKind.i64.wrap (1 + (k : Int)) = ((k + 1 : Nat) : Int) := by rw [w64 (by omega)]; omega
end Go.Am

set_option linter.unusedSimpArgs false
set_option linter.unusedVariables false
set_option maxHeartbeats 4000000
set_option maxRecDepth 100000
set_option synthInstance.maxHeartbeats 4000000
set_option synthInstance.maxSize 100000
namespace Go.Am
open Go
attribute [local irreducible] Wp WpO WpX WpE

theorem K_ImageGrows {s : Nat} {p q : AVal} {H : AHeap} {b1 b2 : List UInt8} {cw ch cz : UInt8} [hp : BytesI H p b1] [hq : BytesI H q b2] [ht : Tabs H] (hs : s < 65536) : Con ext prog 9 13 [.int .u16 s, p, q, .int .u8 (cw.toNat : Int), .int .u8 (ch.toNat : Int), .int .u8 (cz.toNat : Int)] H fun v H' => v = .bool true ∧ Ext H H' := by
 refine con_of (show prog 13 = some c13 from rfl) rfl rfl fun n hn => ?_
 haveI := hp.one
 haveI := hq.one
 obtain ⟨w, hw⟩ : ∃ k, cw.toNat % 9 + 1 = k := ⟨_, rfl⟩
 obtain ⟨h, hh⟩ : ∃ k, ch.toNat % 9 + 1 = k := ⟨_, rfl⟩
 have hw0 := one_add (k := cw.toNat % 9) (by omega)
 have hh0 := one_add (k := ch.toNat % 9) (by omega)
 rw [hw] at hw0
 rw [hh] at hh0
 have hwm := u8mod9 (c := cw)
 have hhm := u8mod9 (c := ch)
 have w1 : 0 < w := by omega
 have w2 : w ≤ 64 := by omega
 have h1 : 0 < h := by omega
 have h2 : h ≤ 64 := by omega
 have hz3 : ((cz.toNat : Nat) : Int).tmod 3 = ((cz.toNat % 3 : Nat) : Int) := rfl
 refine sq ?_
 refine rg fun KF hKF => ?_
 refine mB rfl ?_
 refine WpO.nil (hKF _ _ ?_)
 refine sq ?_
 refine rg fun KF hKF => ?_
 refine mI rfl ?_
 refine Fo.mov (by simp only [↓nrmL, nrmK, Nat.reduceEqDiff, ↓reduceIte]; rfl) ?_
 refine WpO.do (WpX.conD hn rfl rfl (by simp only [↓nrmL, nrmZ, Nat.reduceEqDiff, ↓reduceIte, Nat.reduceAdd, Int.reduceBEq, Int.reduceBNe, List.map] <;> rfl) (K_Made (bits := b1) hs) fun v H1 h5 => ?_)
 obtain ⟨a, b, l, _, _, ok1, v1, e1, hv1, hfv1, hwv1, hxv1⟩ := h5
 subst e1
 try dsimp only at hv1
 haveI : ExtI _ H1 := ⟨hxv1⟩
 haveI := hv1.one
 refine Fo.new ?_
 refine Fo.st rfl (rfl : _ = AVal.agg _) rfl rfl rfl (by repeat (first | rfl | refine allOne_cons ?_)) (by simp only [↓nrmL, nrmZ, Nat.reduceEqDiff, ↓reduceIte, Nat.reduceAdd, Int.reduceBEq, Int.reduceBNe]; rfl) ?_
 refine WpO.nil (hKF _ _ ?_)
 refine sq ?_
 refine rg fun KF hKF => ?_
 refine Fo.ldN rfl rfl (by simp only [↓nrmL, nrmZ, Nat.reduceEqDiff, ↓reduceIte, Nat.reduceAdd, Int.reduceBEq, Int.reduceBNe]; rfl) ?_
 refine Fo.mov (by simp only [↓nrmL, nrmK, Nat.reduceEqDiff, ↓reduceIte]; rfl) ?_
 dsimp only [cond_true, cond_false]
 refine WpO.do (WpX.conD hn rfl rfl (by simp only [↓nrmL, nrmZ, Nat.reduceEqDiff, ↓reduceIte, Nat.reduceAdd, Int.reduceBEq, Int.reduceBNe, List.map] <;> rfl) (K_Fitted (bits := b2) ok1) fun v H2 h5 => ?_)
 obtain ⟨m, ok2, v2, e1, hv2, hfv2, hwv2, hxv2⟩ := h5
 subst e1
 try dsimp only at hv2
 haveI : ExtI _ H2 := ⟨hxv2⟩
 haveI := hv2.one
 have okd := ok_dil (w := w) (h := h) ok1
 try simp only [↓nrmL, nrmZ, Nat.reduceEqDiff, ↓reduceIte, Nat.reduceAdd, Int.reduceBEq, Int.reduceBNe, hwm, hhm, hw0, hh0]
 refine Fo.new ?_
 refine Fo.st rfl (rfl : _ = AVal.agg _) rfl rfl rfl (by repeat (first | rfl | refine allOne_cons ?_)) (by simp only [↓nrmL, nrmZ, Nat.reduceEqDiff, ↓reduceIte, Nat.reduceAdd, Int.reduceBEq, Int.reduceBNe, hwm, hhm, hw0, hh0]; rfl) ?_
 refine WpO.nil (hKF _ _ ?_)
 refine sq ?_
 refine rg fun KF hKF => ?_
 refine mI rfl ?_
 refine Fo.bin rfl rfl rfl rfl ?_
 refine Fo.now rfl rfl (by simp only [↓nrmL, nrmZ, Nat.reduceEqDiff, ↓reduceIte, Nat.reduceAdd, Int.reduceBEq, Int.reduceBNe, hwm, hhm, hw0, hh0]; rfl) ?_
 refine Fo.bin rfl rfl rfl (by simp only [↓nrmL, nrmZ, Nat.reduceEqDiff, ↓reduceIte, Nat.reduceAdd, Int.reduceBEq, Int.reduceBNe, hwm, hhm, hw0, hh0]; rfl) ?_
 refine mI rfl ?_
 refine Fo.bin rfl rfl rfl rfl ?_
 refine Fo.now rfl rfl (by simp only [↓nrmL, nrmZ, Nat.reduceEqDiff, ↓reduceIte, Nat.reduceAdd, Int.reduceBEq, Int.reduceBNe, hwm, hhm, hw0, hh0]; rfl) ?_
 refine Fo.bin rfl rfl rfl (by simp only [↓nrmL, nrmZ, Nat.reduceEqDiff, ↓reduceIte, Nat.reduceAdd, Int.reduceBEq, Int.reduceBNe, hwm, hhm, hw0, hh0]; rfl) ?_
 refine mI rfl ?_
 refine mI rfl ?_
 refine WpO.nil (hKF _ _ ?_)
 refine sq ?_
 refine rg fun KF hKF => ?_
 refine Fo.ldN rfl rfl (by simp only [↓nrmL, nrmZ, Nat.reduceEqDiff, ↓reduceIte, Nat.reduceAdd, Int.reduceBEq, Int.reduceBNe, hwm, hhm, hw0, hh0]; rfl) ?_
 refine mI rfl ?_
 refine mI rfl ?_
 refine WpO.do (WpX.conD hn rfl rfl (by simp only [↓nrmL, nrmZ, Nat.reduceEqDiff, ↓reduceIte, Nat.reduceAdd, Int.reduceBEq, Int.reduceBNe, List.map] <;> rfl) (K_dilV ok1 w1 w2 h1 h2) fun v H3 h5 => ?_)
 obtain ⟨u, e1, r1, e2, hr1, hfr1, hwr1, hxr1⟩ := h5
 subst e1 e2
 try dsimp only at hr1
 haveI : ExtI _ H3 := ⟨hxr1⟩
 haveI := hr1.one
 cases hk1 : (((cz.toNat % 3 : Nat) : Int) == 1)
 ·cases hk2 : (((cz.toNat % 3 : Nat) : Int) == 2)
  ·skip
   try simp only [↓nrmL, nrmZ, Nat.reduceEqDiff, ↓reduceIte, Nat.reduceAdd, Int.reduceBEq, Int.reduceBNe, hz3, hk1, hk2]
   refine mT rfl ?_
   refine Fo.extr rfl rfl ?_
   refine Fo.extr rfl rfl ?_
   refine Fo.new ?_
   refine Fo.st rfl (rfl : _ = AVal.agg _) rfl rfl rfl (by repeat (first | rfl | refine allOne_cons ?_)) (by simp only [↓nrmL, nrmZ, Nat.reduceEqDiff, ↓reduceIte, Nat.reduceAdd, Int.reduceBEq, Int.reduceBNe, hz3, hk1, hk2]; rfl) ?_
   refine mI rfl ?_
   refine WpO.nil (hKF _ _ ?_)
   refine sq ?_
   refine sq ?_
   refine rg fun KF hKF => ?_
   refine mI rfl ?_
   refine Fo.bin rfl rfl rfl (by simp only [↓nrmL, nrmZ, Nat.reduceEqDiff, ↓reduceIte, Nat.reduceAdd, Int.reduceBEq, Int.reduceBNe, hz3, hk1, hk2]; rfl) ?_
   refine WpO.nil (hKF _ _ ?_)
   refine Wp.block ?_
   refine sq ?_
   refine rg fun KF hKF => ?_
   refine Fo.bin rfl rfl rfl (by simp only [↓nrmL, nrmZ, Nat.reduceEqDiff, ↓reduceIte, Nat.reduceAdd, Int.reduceBEq, Int.reduceBNe, hz3, hk1, hk2]; rfl) ?_
   refine mB rfl ?_
   refine WpO.nil (hKF _ _ ?_)
   refine Wp.cond (b := false) rfl ?_
   refine sq ?_
   refine rg fun KF hKF => ?_
   refine Fo.bin rfl rfl rfl (by simp only [↓nrmL, nrmZ, Nat.reduceEqDiff, ↓reduceIte, Nat.reduceAdd, Int.reduceBEq, Int.reduceBNe, hz3, hk1, hk2]; rfl) ?_
   refine mB rfl ?_
   refine WpO.nil (hKF _ _ ?_)
   refine Wp.cond (b := false) rfl ?_
   refine Wp.skip ?_
   refine sq ?_
   refine rg fun KF hKF => ?_
   refine Fo.ldN rfl rfl (by simp only [↓nrmL, nrmZ, Nat.reduceEqDiff, ↓reduceIte, Nat.reduceAdd, Int.reduceBEq, Int.reduceBNe, hz3, hk1, hk2]; rfl) ?_
   refine mI rfl ?_
   refine mI rfl ?_
   obtain ⟨g1, g2, g3, g4, g5⟩ := grow_facts (w := w) (h := h) ok1 ok2
   have oke := ok_ero (w := w) (h := h) ok2
   have okde := ok_ero (w := w) (h := h) okd
   have okod := ok_dil (w := w) (h := h) oke
   have sh1 := (ok_dil (w := w) (h := h) okde).short
   have sh2 := (ok_ero (w := w) (h := h) okod).short
   haveI : Short (dilL (eroL (dilL l a b w h) a b w h) a b w h) := ⟨by omega⟩
   haveI : Short (eroL (dilL (eroL m a b w h) a b w h) a b w h) := ⟨by omega⟩
   have d1 : decide ((⟨a, b, dilL (eroL (dilL l a b w h) a b w h) a b w h⟩ : Img) = ⟨a, b, dilL l a b w h⟩) = true := decide_eq_true (by rw [g1])
   have d2 : decide ((⟨a, b, eroL (dilL (eroL m a b w h) a b w h) a b w h⟩ : Img) = ⟨a, b, eroL m a b w h⟩) = true := decide_eq_true (by rw [g2])
   refine WpO.do (WpX.conD hn rfl rfl (by simp only [↓nrmL, nrmZ, Nat.reduceEqDiff, ↓reduceIte, Nat.reduceAdd, Int.reduceBEq, Int.reduceBNe, List.map] <;> rfl) (K_eroV ok2 w1 w2 h1 h2) fun v H5 h5 => ?_)
   obtain ⟨u, e1, r2, e2, hr2, hfr2, hwr2, hxr2⟩ := h5
   subst e1 e2
   try dsimp only at hr2
   haveI : ExtI _ H5 := ⟨hxr2⟩
   haveI := hr2.one
   refine mT rfl ?_
   refine Fo.extr rfl rfl ?_
   refine Fo.extr rfl rfl ?_
   refine Fo.new ?_
   refine Fo.st rfl (rfl : _ = AVal.agg _) rfl rfl rfl (by repeat (first | rfl | refine allOne_cons ?_)) (by simp only [↓nrmL, nrmZ, Nat.reduceEqDiff, ↓reduceIte, Nat.reduceAdd, Int.reduceBEq, Int.reduceBNe]; rfl) ?_
   refine mI rfl ?_
   refine WpO.nil (hKF _ _ ?_)
   refine sq ?_
   refine sq ?_
   dsimp only [cond_true, cond_false]
   refine Fr.dregion0 rfl fun KF hKF => ?_
   refine Fe.pure rfl rfl (by simp only [↓nrmL, nrmZ, Nat.reduceEqDiff, ↓reduceIte, Nat.reduceAdd, Int.reduceBEq, Int.reduceBNe]; rfl) ?_
   refine Fe.pure rfl rfl (by simp only [↓nrmL, nrmZ, Nat.reduceEqDiff, ↓reduceIte, Nat.reduceAdd, Int.reduceBEq, Int.reduceBNe]; rfl) ?_
   refine Fe.pure rfl rfl (by simp only [↓nrmL, nrmZ, Nat.reduceEqDiff, ↓reduceIte, Nat.reduceAdd, Int.reduceBEq, Int.reduceBNe]; rfl) ?_
   refine Fe.pure rfl rfl (by simp only [↓nrmL, nrmZ, Nat.reduceEqDiff, ↓reduceIte, Nat.reduceAdd, Int.reduceBEq, Int.reduceBNe]; rfl) ?_
   refine Fe.pure rfl rfl (by simp only [↓nrmL, nrmZ, Nat.reduceEqDiff, ↓reduceIte, Nat.reduceAdd, Int.reduceBEq, Int.reduceBNe]; rfl) ?_
   refine Fe.pure rfl rfl (by simp only [↓nrmL, nrmZ, Nat.reduceEqDiff, ↓reduceIte, Nat.reduceAdd, Int.reduceBEq, Int.reduceBNe]; rfl) ?_
   refine Fe.pure rfl rfl (by simp only [↓nrmL, nrmZ, Nat.reduceEqDiff, ↓reduceIte, Nat.reduceAdd, Int.reduceBEq, Int.reduceBNe]; rfl) ?_
   refine Fe.read rfl (exec_ldN rfl rfl (by simp only [↓nrmL, nrmZ, Nat.reduceEqDiff, ↓reduceIte, Nat.reduceAdd, Int.reduceBEq, Int.reduceBNe]; rfl)) rfl (by repeat (first | exact trivial | refine ⟨(by first | exact Or.inl (by dsimp only; decide) | exact Or.inr (exec_ld rfl rfl) | exact Or.inr (exec_ldN rfl rfl rfl) | exact Or.inr (exec_ldB rfl (by omega)) | exact Or.inr (exec_ldI rfl (by omega)) | exact Or.inr ghost_of), ?_⟩)) ?_
   refine Fe.read rfl (exec_ldN rfl rfl (by simp only [↓nrmL, nrmZ, Nat.reduceEqDiff, ↓reduceIte, Nat.reduceAdd, Int.reduceBEq, Int.reduceBNe]; rfl)) rfl (by repeat (first | exact trivial | refine ⟨(by first | exact Or.inl (by dsimp only; decide) | exact Or.inr (exec_ld rfl rfl) | exact Or.inr (exec_ldN rfl rfl rfl) | exact Or.inr (exec_ldB rfl (by omega)) | exact Or.inr (exec_ldI rfl (by omega)) | exact Or.inr ghost_of), ?_⟩)) ?_
   refine Fe.con rfl hn rfl rfl (by simp only [↓nrmL, nrmZ, Nat.reduceEqDiff, ↓reduceIte, Nat.reduceAdd, Int.reduceBEq, Int.reduceBNe, List.map] <;> rfl) (K_within okd ok2) fun v H6 h5 => ?_
   obtain ⟨rfl, hx6⟩ := h5
   haveI : ExtI _ H6 := ⟨hx6⟩
   refine ⟨(by repeat (first | exact trivial | refine ⟨(by first | exact Or.inl (by dsimp only; decide) | exact Or.inr (readOk_of (exec_ld rfl rfl)) | exact Or.inr (readOk_of (exec_ldN rfl rfl rfl)) | exact Or.inr (readOk_of (exec_ldB rfl (by omega))) | exact Or.inr (readOk_of (exec_ldI rfl (by omega))) | exact Or.inr (made_of rfl)), ?_⟩)), ?_⟩
   refine Fe.read rfl (exec_ldN rfl rfl (by simp only [↓nrmL, nrmZ, Nat.reduceEqDiff, ↓reduceIte, Nat.reduceAdd, Int.reduceBEq, Int.reduceBNe]; rfl)) rfl (by repeat (first | exact trivial | refine ⟨(by first | exact Or.inl (by dsimp only; decide) | exact Or.inr (exec_ld rfl rfl) | exact Or.inr (exec_ldN rfl rfl rfl) | exact Or.inr (exec_ldB rfl (by omega)) | exact Or.inr (exec_ldI rfl (by omega)) | exact Or.inr ghost_of), ?_⟩)) ?_
   refine Fe.read rfl (exec_ldN rfl rfl (by simp only [↓nrmL, nrmZ, Nat.reduceEqDiff, ↓reduceIte, Nat.reduceAdd, Int.reduceBEq, Int.reduceBNe]; rfl)) rfl (by repeat (first | exact trivial | refine ⟨(by first | exact Or.inl (by dsimp only; decide) | exact Or.inr (exec_ld rfl rfl) | exact Or.inr (exec_ldN rfl rfl rfl) | exact Or.inr (exec_ldB rfl (by omega)) | exact Or.inr (exec_ldI rfl (by omega)) | exact Or.inr ghost_of), ?_⟩)) ?_
   refine Fe.con rfl hn rfl rfl (by simp only [↓nrmL, nrmZ, Nat.reduceEqDiff, ↓reduceIte, Nat.reduceAdd, Int.reduceBEq, Int.reduceBNe, List.map] <;> rfl) (K_within ok1 oke) fun v H7 h5 => ?_
   obtain ⟨rfl, hx7⟩ := h5
   haveI : ExtI _ H7 := ⟨hx7⟩
   refine ⟨(by repeat (first | exact trivial | refine ⟨(by first | exact Or.inl (by dsimp only; decide) | exact Or.inr (readOk_of (exec_ld rfl rfl)) | exact Or.inr (readOk_of (exec_ldN rfl rfl rfl)) | exact Or.inr (readOk_of (exec_ldB rfl (by omega))) | exact Or.inr (readOk_of (exec_ldI rfl (by omega))) | exact Or.inr (made_of rfl)), ?_⟩)), ?_⟩
   rw [g5]
   try simp only [↓nrmL, nrmZ, Nat.reduceEqDiff, ↓reduceIte, Nat.reduceAdd, Int.reduceBEq, Int.reduceBNe, beq_self_eq_true, Bool.not_true]
   refine Fe.pure rfl rfl (by simp only [↓nrmL, nrmZ, Nat.reduceEqDiff, ↓reduceIte, Nat.reduceAdd, Int.reduceBEq, Int.reduceBNe, beq_self_eq_true, Bool.not_true]; rfl) ?_
   refine Fe.pure rfl rfl (by simp only [↓nrmL, nrmZ, Nat.reduceEqDiff, ↓reduceIte, Nat.reduceAdd, Int.reduceBEq, Int.reduceBNe, beq_self_eq_true, Bool.not_true]; rfl) ?_
   refine WpE.nil (hKF _ _ ?_)
   refine Wp.cond (b := false) rfl ?_
   refine Wp.skip ?_
   refine sq ?_
   refine rg fun KF hKF => ?_
   refine Fo.ldN rfl rfl (by simp only [↓nrmL, nrmZ, Nat.reduceEqDiff, ↓reduceIte, Nat.reduceAdd, Int.reduceBEq, Int.reduceBNe]; rfl) ?_
   refine mI rfl ?_
   refine mI rfl ?_
   refine WpO.do (WpX.conD hn rfl rfl (by simp only [↓nrmL, nrmZ, Nat.reduceEqDiff, ↓reduceIte, Nat.reduceAdd, Int.reduceBEq, Int.reduceBNe, List.map] <;> rfl) (K_eroV okd w1 w2 h1 h2) fun v H8 h5 => ?_)
   obtain ⟨u, e1, r3, e2, hr3, hfr3, hwr3, hxr3⟩ := h5
   subst e1 e2
   try dsimp only at hr3
   haveI : ExtI _ H8 := ⟨hxr3⟩
   haveI := hr3.one
   refine mT rfl ?_
   refine Fo.extr rfl rfl ?_
   refine Fo.extr rfl rfl ?_
   refine Fo.new ?_
   refine Fo.st rfl (rfl : _ = AVal.agg _) rfl rfl rfl (by repeat (first | rfl | refine allOne_cons ?_)) (by simp only [↓nrmL, nrmZ, Nat.reduceEqDiff, ↓reduceIte, Nat.reduceAdd, Int.reduceBEq, Int.reduceBNe]; rfl) ?_
   refine mI rfl ?_
   refine WpO.nil (hKF _ _ ?_)
   refine sq ?_
   refine rg fun KF hKF => ?_
   refine Fo.ldN rfl rfl (by simp only [↓nrmL, nrmZ, Nat.reduceEqDiff, ↓reduceIte, Nat.reduceAdd, Int.reduceBEq, Int.reduceBNe]; rfl) ?_
   refine mI rfl ?_
   refine mI rfl ?_
   dsimp only [cond_true, cond_false]
   refine WpO.do (WpX.conD hn rfl rfl (by simp only [↓nrmL, nrmZ, Nat.reduceEqDiff, ↓reduceIte, Nat.reduceAdd, Int.reduceBEq, Int.reduceBNe, List.map] <;> rfl) (K_dilV okde w1 w2 h1 h2) fun v H9 h5 => ?_)
   obtain ⟨u, e1, r4, e2, hr4, hfr4, hwr4, hxr4⟩ := h5
   subst e1 e2
   try dsimp only at hr4
   haveI : ExtI _ H9 := ⟨hxr4⟩
   haveI := hr4.one
   refine mT rfl ?_
   refine Fo.extr rfl rfl ?_
   refine Fo.extr rfl rfl ?_
   refine Fo.new ?_
   refine Fo.st rfl (rfl : _ = AVal.agg _) rfl rfl rfl (by repeat (first | rfl | refine allOne_cons ?_)) (by simp only [↓nrmL, nrmZ, Nat.reduceEqDiff, ↓reduceIte, Nat.reduceAdd, Int.reduceBEq, Int.reduceBNe]; rfl) ?_
   refine mI rfl ?_
   refine WpO.nil (hKF _ _ ?_)
   refine sq ?_
   refine rg fun KF hKF => ?_
   refine Fo.ldN rfl rfl (by simp only [↓nrmL, nrmZ, Nat.reduceEqDiff, ↓reduceIte, Nat.reduceAdd, Int.reduceBEq, Int.reduceBNe]; rfl) ?_
   refine mI rfl ?_
   refine mI rfl ?_
   dsimp only [cond_true, cond_false]
   refine WpO.do (WpX.conD hn rfl rfl (by simp only [↓nrmL, nrmZ, Nat.reduceEqDiff, ↓reduceIte, Nat.reduceAdd, Int.reduceBEq, Int.reduceBNe, List.map] <;> rfl) (K_dilV oke w1 w2 h1 h2) fun v H10 h5 => ?_)
   obtain ⟨u, e1, r5, e2, hr5, hfr5, hwr5, hxr5⟩ := h5
   subst e1 e2
   try dsimp only at hr5
   haveI : ExtI _ H10 := ⟨hxr5⟩
   haveI := hr5.one
   refine mT rfl ?_
   refine Fo.extr rfl rfl ?_
   refine Fo.extr rfl rfl ?_
   refine Fo.new ?_
   refine Fo.st rfl (rfl : _ = AVal.agg _) rfl rfl rfl (by repeat (first | rfl | refine allOne_cons ?_)) (by simp only [↓nrmL, nrmZ, Nat.reduceEqDiff, ↓reduceIte, Nat.reduceAdd, Int.reduceBEq, Int.reduceBNe]; rfl) ?_
   refine mI rfl ?_
   refine WpO.nil (hKF _ _ ?_)
   refine sq ?_
   refine rg fun KF hKF => ?_
   refine Fo.ldN rfl rfl (by simp only [↓nrmL, nrmZ, Nat.reduceEqDiff, ↓reduceIte, Nat.reduceAdd, Int.reduceBEq, Int.reduceBNe]; rfl) ?_
   refine mI rfl ?_
   refine mI rfl ?_
   dsimp only [cond_true, cond_false]
   refine WpO.do (WpX.conD hn rfl rfl (by simp only [↓nrmL, nrmZ, Nat.reduceEqDiff, ↓reduceIte, Nat.reduceAdd, Int.reduceBEq, Int.reduceBNe, List.map] <;> rfl) (K_eroV okod w1 w2 h1 h2) fun v H11 h5 => ?_)
   obtain ⟨u, e1, r6, e2, hr6, hfr6, hwr6, hxr6⟩ := h5
   subst e1 e2
   try dsimp only at hr6
   haveI : ExtI _ H11 := ⟨hxr6⟩
   haveI := hr6.one
   try simp only [↓nrmL, nrmZ, Nat.reduceEqDiff, ↓reduceIte, Nat.reduceAdd, Int.reduceBEq, Int.reduceBNe, d1, d2]
   refine mT rfl ?_
   refine Fo.extr rfl rfl ?_
   refine Fo.extr rfl rfl ?_
   refine Fo.new ?_
   refine Fo.st rfl (rfl : _ = AVal.agg _) rfl rfl rfl (by repeat (first | rfl | refine allOne_cons ?_)) (by simp only [↓nrmL, nrmZ, Nat.reduceEqDiff, ↓reduceIte, Nat.reduceAdd, Int.reduceBEq, Int.reduceBNe, d1, d2]; rfl) ?_
   refine mI rfl ?_
   refine WpO.nil (hKF _ _ ?_)
   refine sq ?_
   refine rg fun KF hKF => ?_
   refine mI rfl ?_
   refine Fo.bin rfl rfl rfl (by simp only [↓nrmL, nrmZ, Nat.reduceEqDiff, ↓reduceIte, Nat.reduceAdd, Int.reduceBEq, Int.reduceBNe, d1, d2]; rfl) ?_
   refine mB rfl ?_
   refine Fo.yes rfl rfl ?_
   refine mI rfl ?_
   refine Fo.yes rfl rfl ?_
   refine Fo.bin rfl rfl rfl (by simp only [↓nrmL, nrmZ, Nat.reduceEqDiff, ↓reduceIte, Nat.reduceAdd, Int.reduceBEq, Int.reduceBNe, d1, d2]; rfl) ?_
   refine tB rfl rfl ?_
   refine mB rfl ?_
   refine Fo.yes rfl rfl ?_
   refine mI rfl ?_
   refine Fo.yes rfl rfl ?_
   refine Fo.bin rfl rfl rfl (by simp only [↓nrmL, nrmZ, Nat.reduceEqDiff, ↓reduceIte, Nat.reduceAdd, Int.reduceBEq, Int.reduceBNe, d1, d2]; rfl) ?_
   refine tB rfl rfl ?_
   refine mB rfl ?_
   refine Fo.yes rfl rfl ?_
   refine mI rfl ?_
   refine Fo.yes rfl rfl ?_
   refine Fo.bin rfl rfl rfl (by simp only [↓nrmL, nrmZ, Nat.reduceEqDiff, ↓reduceIte, Nat.reduceAdd, Int.reduceBEq, Int.reduceBNe, d1, d2]; rfl) ?_
   refine tB rfl rfl ?_
   refine mB rfl ?_
   refine Fo.yes rfl rfl ?_
   refine Fo.ldN rfl rfl (by simp only [↓nrmL, nrmZ, Nat.reduceEqDiff, ↓reduceIte, Nat.reduceAdd, Int.reduceBEq, Int.reduceBNe, d1, d2]; rfl) ?_
   refine Fo.yes rfl rfl ?_
   refine Fo.ldN rfl rfl (by simp only [↓nrmL, nrmZ, Nat.reduceEqDiff, ↓reduceIte, Nat.reduceAdd, Int.reduceBEq, Int.reduceBNe, d1, d2]; rfl) ?_
   refine Fo.yes rfl rfl ?_
   refine Fo.pcall (v' := ?_) hn rfl (by simp only [↓nrmL, nrmZ, Nat.reduceEqDiff, ↓reduceIte, Nat.reduceAdd, Int.reduceBEq, Int.reduceBNe, d1, d2, List.map]; rfl) rfl ?hv fun _ _ => ?_; case hv => (simp only [↓nrmL, nrmZ, Nat.reduceEqDiff, ↓reduceIte, Nat.reduceAdd, Int.reduceBEq, Int.reduceBNe, d1, d2]; rfl)
   refine tB rfl rfl ?_
   refine mB rfl ?_
   refine Fo.yes rfl rfl ?_
   refine Fo.ldN rfl rfl (by simp only [↓nrmL, nrmZ, Nat.reduceEqDiff, ↓reduceIte, Nat.reduceAdd, Int.reduceBEq, Int.reduceBNe, d1, d2]; rfl) ?_
   refine Fo.yes rfl rfl ?_
   refine Fo.ldN rfl rfl (by simp only [↓nrmL, nrmZ, Nat.reduceEqDiff, ↓reduceIte, Nat.reduceAdd, Int.reduceBEq, Int.reduceBNe, d1, d2]; rfl) ?_
   refine Fo.yes rfl rfl ?_
   refine Fo.pcall (v' := ?_) hn rfl (by simp only [↓nrmL, nrmZ, Nat.reduceEqDiff, ↓reduceIte, Nat.reduceAdd, Int.reduceBEq, Int.reduceBNe, d1, d2, List.map]; rfl) rfl ?hv fun _ _ => ?_; case hv => (simp only [↓nrmL, nrmZ, Nat.reduceEqDiff, ↓reduceIte, Nat.reduceAdd, Int.reduceBEq, Int.reduceBNe, d1, d2]; rfl)
   refine tB rfl rfl ?_
   refine mB rfl ?_
   refine Fo.yes rfl rfl ?_
   refine Fo.ldN rfl rfl (by simp only [↓nrmL, nrmZ, Nat.reduceEqDiff, ↓reduceIte, Nat.reduceAdd, Int.reduceBEq, Int.reduceBNe, d1, d2]; rfl) ?_
   refine Fo.yes rfl rfl ?_
   refine Fo.ldN rfl rfl (by simp only [↓nrmL, nrmZ, Nat.reduceEqDiff, ↓reduceIte, Nat.reduceAdd, Int.reduceBEq, Int.reduceBNe, d1, d2]; rfl) ?_
   refine Fo.yes rfl rfl ?_
   refine WpO.do (WpX.conD hn rfl rfl (by simp only [↓nrmL, nrmZ, Nat.reduceEqDiff, ↓reduceIte, Nat.reduceAdd, Int.reduceBEq, Int.reduceBNe, List.map] <;> rfl) (K_within ok1 okde) fun v H12 h5 => ?_)
   obtain ⟨rfl, hx12⟩ := h5
   haveI : ExtI _ H12 := ⟨hx12⟩
   rw [g3]
   refine tB rfl rfl ?_
   refine mB rfl ?_
   refine Fo.yes rfl rfl ?_
   refine Fo.ldN rfl rfl (by simp only [↓nrmL, nrmZ, Nat.reduceEqDiff, ↓reduceIte, Nat.reduceAdd, Int.reduceBEq, Int.reduceBNe]; rfl) ?_
   refine Fo.yes rfl rfl ?_
   refine Fo.ldN rfl rfl (by simp only [↓nrmL, nrmZ, Nat.reduceEqDiff, ↓reduceIte, Nat.reduceAdd, Int.reduceBEq, Int.reduceBNe]; rfl) ?_
   refine Fo.yes rfl rfl ?_
   refine WpO.do (WpX.conD hn rfl rfl (by simp only [↓nrmL, nrmZ, Nat.reduceEqDiff, ↓reduceIte, Nat.reduceAdd, Int.reduceBEq, Int.reduceBNe, List.map] <;> rfl) (K_within okod ok2) fun v H13 h5 => ?_)
   obtain ⟨rfl, hx13⟩ := h5
   haveI : ExtI _ H13 := ⟨hx13⟩
   rw [g4]
   refine tB rfl rfl ?_
   refine mB rfl ?_
   refine Fo.yes rfl rfl ?_
   refine Fo.pcall (v' := ?_) hn rfl (by simp only [↓nrmL, nrmZ, Nat.reduceEqDiff, ↓reduceIte, Nat.reduceAdd, Int.reduceBEq, Int.reduceBNe, List.map]; rfl) rfl ?hv fun _ _ => ?_; case hv => rfl
   refine tB rfl rfl ?_
   refine mB rfl ?_
   refine WpO.nil (hKF _ _ ?_)
   refine Wp.ret ?_
   dsimp only [cond_true, cond_false]
   refine ⟨trivial, _, (by first | rfl | exact getAllC rfl rfl rfl rfl | exact getAllT rfl (getAllC rfl rfl rfl rfl) | exact getAllC rfl rfl rfl (getAllC rfl rfl rfl rfl) | exact getAllC1 rfl rfl rfl), ?_⟩
   exact ⟨rfl, Ext0.ext⟩
  ·skip
   try simp only [↓nrmL, nrmZ, Nat.reduceEqDiff, ↓reduceIte, Nat.reduceAdd, Int.reduceBEq, Int.reduceBNe, hz3, hk1, hk2]
   refine mT rfl ?_
   refine Fo.extr rfl rfl ?_
   refine Fo.extr rfl rfl ?_
   refine Fo.new ?_
   refine Fo.st rfl (rfl : _ = AVal.agg _) rfl rfl rfl (by repeat (first | rfl | refine allOne_cons ?_)) (by simp only [↓nrmL, nrmZ, Nat.reduceEqDiff, ↓reduceIte, Nat.reduceAdd, Int.reduceBEq, Int.reduceBNe, hz3, hk1, hk2]; rfl) ?_
   refine mI rfl ?_
   refine WpO.nil (hKF _ _ ?_)
   refine sq ?_
   refine sq ?_
   refine rg fun KF hKF => ?_
   refine mI rfl ?_
   refine Fo.bin rfl rfl rfl (by simp only [↓nrmL, nrmZ, Nat.reduceEqDiff, ↓reduceIte, Nat.reduceAdd, Int.reduceBEq, Int.reduceBNe, hz3, hk1, hk2]; rfl) ?_
   refine WpO.nil (hKF _ _ ?_)
   refine Wp.block ?_
   refine sq ?_
   refine rg fun KF hKF => ?_
   refine Fo.bin rfl rfl rfl (by simp only [↓nrmL, nrmZ, Nat.reduceEqDiff, ↓reduceIte, Nat.reduceAdd, Int.reduceBEq, Int.reduceBNe, hz3, hk1, hk2]; rfl) ?_
   refine mB rfl ?_
   refine WpO.nil (hKF _ _ ?_)
   refine Wp.cond (b := false) rfl ?_
   refine sq ?_
   refine rg fun KF hKF => ?_
   refine Fo.bin rfl rfl rfl (by simp only [↓nrmL, nrmZ, Nat.reduceEqDiff, ↓reduceIte, Nat.reduceAdd, Int.reduceBEq, Int.reduceBNe, hz3, hk1, hk2]; rfl) ?_
   refine mB rfl ?_
   refine WpO.nil (hKF _ _ ?_)
   refine Wp.cond (b := true) rfl ?_
   refine rg fun KF hKF => ?_
   refine Fo.ldN rfl rfl (by simp only [↓nrmL, nrmZ, Nat.reduceEqDiff, ↓reduceIte, Nat.reduceAdd, Int.reduceBEq, Int.reduceBNe, hz3, hk1, hk2]; rfl) ?_
   refine Fo.ldN rfl rfl (by simp only [↓nrmL, nrmZ, Nat.reduceEqDiff, ↓reduceIte, Nat.reduceAdd, Int.reduceBEq, Int.reduceBNe, hz3, hk1, hk2]; rfl) ?_
   have ok3 := ok_zip (op := fun a b => a ||| b) ok2 okd or01
   refine WpO.do (WpX.conD hn rfl rfl (by simp only [↓nrmL, nrmZ, Nat.reduceEqDiff, ↓reduceIte, Nat.reduceAdd, Int.reduceBEq, Int.reduceBNe, List.map] <;> rfl) (K_orV ok2 okd) fun v H4 h5 => ?_)
   obtain ⟨u, e1, r7, e2, hr7, hfr7, hwr7, hxr7⟩ := h5
   subst e1 e2
   try dsimp only at hr7
   haveI : ExtI _ H4 := ⟨hxr7⟩
   haveI := hr7.one
   refine mT rfl ?_
   refine Fo.extr rfl rfl ?_
   refine Fo.extr rfl rfl ?_
   refine Fo.st rfl (rfl : _ = AVal.agg _) rfl rfl rfl (by repeat (first | rfl | refine allOne_cons ?_)) (by simp only [↓nrmL, nrmZ, Nat.reduceEqDiff, ↓reduceIte, Nat.reduceAdd, Int.reduceBEq, Int.reduceBNe]; rfl) ?_
   refine WpO.nil (hKF _ _ ?_)
   refine sq ?_
   refine rg fun KF hKF => ?_
   refine Fo.ldN rfl rfl (by simp only [↓nrmL, nrmZ, Nat.reduceEqDiff, ↓reduceIte, Nat.reduceAdd, Int.reduceBEq, Int.reduceBNe]; rfl) ?_
   refine mI rfl ?_
   refine mI rfl ?_
   dsimp only [cond_true, cond_false]
   obtain ⟨g1, g2, g3, g4, g5⟩ := grow_facts (w := w) (h := h) ok1 ok3
   have oke := ok_ero (w := w) (h := h) ok3
   have okde := ok_ero (w := w) (h := h) okd
   have okod := ok_dil (w := w) (h := h) oke
   have sh1 := (ok_dil (w := w) (h := h) okde).short
   have sh2 := (ok_ero (w := w) (h := h) okod).short
   haveI : Short (dilL (eroL (dilL l a b w h) a b w h) a b w h) := ⟨by omega⟩
   haveI : Short (eroL (dilL (eroL (List.zipWith (fun a b => a ||| b) m (dilL l a b w h)) a b w h) a b w h) a b w h) := ⟨by omega⟩
   have d1 : decide ((⟨a, b, dilL (eroL (dilL l a b w h) a b w h) a b w h⟩ : Img) = ⟨a, b, dilL l a b w h⟩) = true := decide_eq_true (by rw [g1])
   have d2 : decide ((⟨a, b, eroL (dilL (eroL (List.zipWith (fun a b => a ||| b) m (dilL l a b w h)) a b w h) a b w h) a b w h⟩ : Img) = ⟨a, b, eroL (List.zipWith (fun a b => a ||| b) m (dilL l a b w h)) a b w h⟩) = true := decide_eq_true (by rw [g2])
   refine WpO.do (WpX.conD hn rfl rfl (by simp only [↓nrmL, nrmZ, Nat.reduceEqDiff, ↓reduceIte, Nat.reduceAdd, Int.reduceBEq, Int.reduceBNe, List.map] <;> rfl) (K_eroV ok3 w1 w2 h1 h2) fun v H5 h5 => ?_)
   obtain ⟨u, e1, r2, e2, hr2, hfr2, hwr2, hxr2⟩ := h5
   subst e1 e2
   try dsimp only at hr2
   haveI : ExtI _ H5 := ⟨hxr2⟩
   haveI := hr2.one
   refine mT rfl ?_
   refine Fo.extr rfl rfl ?_
   refine Fo.extr rfl rfl ?_
   refine Fo.new ?_
   refine Fo.st rfl (rfl : _ = AVal.agg _) rfl rfl rfl (by repeat (first | rfl | refine allOne_cons ?_)) (by simp only [↓nrmL, nrmZ, Nat.reduceEqDiff, ↓reduceIte, Nat.reduceAdd, Int.reduceBEq, Int.reduceBNe]; rfl) ?_
   refine mI rfl ?_
   refine WpO.nil (hKF _ _ ?_)
   refine sq ?_
   refine sq ?_
   dsimp only [cond_true, cond_false]
   refine Fr.dregion0 rfl fun KF hKF => ?_
   refine Fe.pure rfl rfl (by simp only [↓nrmL, nrmZ, Nat.reduceEqDiff, ↓reduceIte, Nat.reduceAdd, Int.reduceBEq, Int.reduceBNe]; rfl) ?_
   refine Fe.pure rfl rfl (by simp only [↓nrmL, nrmZ, Nat.reduceEqDiff, ↓reduceIte, Nat.reduceAdd, Int.reduceBEq, Int.reduceBNe]; rfl) ?_
   refine Fe.pure rfl rfl (by simp only [↓nrmL, nrmZ, Nat.reduceEqDiff, ↓reduceIte, Nat.reduceAdd, Int.reduceBEq, Int.reduceBNe]; rfl) ?_
   refine Fe.pure rfl rfl (by simp only [↓nrmL, nrmZ, Nat.reduceEqDiff, ↓reduceIte, Nat.reduceAdd, Int.reduceBEq, Int.reduceBNe]; rfl) ?_
   refine Fe.pure rfl rfl (by simp only [↓nrmL, nrmZ, Nat.reduceEqDiff, ↓reduceIte, Nat.reduceAdd, Int.reduceBEq, Int.reduceBNe]; rfl) ?_
   refine Fe.pure rfl rfl (by simp only [↓nrmL, nrmZ, Nat.reduceEqDiff, ↓reduceIte, Nat.reduceAdd, Int.reduceBEq, Int.reduceBNe]; rfl) ?_
   refine Fe.pure rfl rfl (by simp only [↓nrmL, nrmZ, Nat.reduceEqDiff, ↓reduceIte, Nat.reduceAdd, Int.reduceBEq, Int.reduceBNe]; rfl) ?_
   refine Fe.read rfl (exec_ldN rfl rfl (by simp only [↓nrmL, nrmZ, Nat.reduceEqDiff, ↓reduceIte, Nat.reduceAdd, Int.reduceBEq, Int.reduceBNe]; rfl)) rfl (by repeat (first | exact trivial | refine ⟨(by first | exact Or.inl (by dsimp only; decide) | exact Or.inr (exec_ld rfl rfl) | exact Or.inr (exec_ldN rfl rfl rfl) | exact Or.inr (exec_ldB rfl (by omega)) | exact Or.inr (exec_ldI rfl (by omega)) | exact Or.inr ghost_of), ?_⟩)) ?_
   refine Fe.read rfl (exec_ldN rfl rfl (by simp only [↓nrmL, nrmZ, Nat.reduceEqDiff, ↓reduceIte, Nat.reduceAdd, Int.reduceBEq, Int.reduceBNe]; rfl)) rfl (by repeat (first | exact trivial | refine ⟨(by first | exact Or.inl (by dsimp only; decide) | exact Or.inr (exec_ld rfl rfl) | exact Or.inr (exec_ldN rfl rfl rfl) | exact Or.inr (exec_ldB rfl (by omega)) | exact Or.inr (exec_ldI rfl (by omega)) | exact Or.inr ghost_of), ?_⟩)) ?_
   refine Fe.con rfl hn rfl rfl (by simp only [↓nrmL, nrmZ, Nat.reduceEqDiff, ↓reduceIte, Nat.reduceAdd, Int.reduceBEq, Int.reduceBNe, List.map] <;> rfl) (K_within okd ok3) fun v H6 h5 => ?_
   obtain ⟨rfl, hx6⟩ := h5
   haveI : ExtI _ H6 := ⟨hx6⟩
   refine ⟨(by repeat (first | exact trivial | refine ⟨(by first | exact Or.inl (by dsimp only; decide) | exact Or.inr (readOk_of (exec_ld rfl rfl)) | exact Or.inr (readOk_of (exec_ldN rfl rfl rfl)) | exact Or.inr (readOk_of (exec_ldB rfl (by omega))) | exact Or.inr (readOk_of (exec_ldI rfl (by omega))) | exact Or.inr (made_of rfl)), ?_⟩)), ?_⟩
   refine Fe.read rfl (exec_ldN rfl rfl (by simp only [↓nrmL, nrmZ, Nat.reduceEqDiff, ↓reduceIte, Nat.reduceAdd, Int.reduceBEq, Int.reduceBNe]; rfl)) rfl (by repeat (first | exact trivial | refine ⟨(by first | exact Or.inl (by dsimp only; decide) | exact Or.inr (exec_ld rfl rfl) | exact Or.inr (exec_ldN rfl rfl rfl) | exact Or.inr (exec_ldB rfl (by omega)) | exact Or.inr (exec_ldI rfl (by omega)) | exact Or.inr ghost_of), ?_⟩)) ?_
   refine Fe.read rfl (exec_ldN rfl rfl (by simp only [↓nrmL, nrmZ, Nat.reduceEqDiff, ↓reduceIte, Nat.reduceAdd, Int.reduceBEq, Int.reduceBNe]; rfl)) rfl (by repeat (first | exact trivial | refine ⟨(by first | exact Or.inl (by dsimp only; decide) | exact Or.inr (exec_ld rfl rfl) | exact Or.inr (exec_ldN rfl rfl rfl) | exact Or.inr (exec_ldB rfl (by omega)) | exact Or.inr (exec_ldI rfl (by omega)) | exact Or.inr ghost_of), ?_⟩)) ?_
   refine Fe.con rfl hn rfl rfl (by simp only [↓nrmL, nrmZ, Nat.reduceEqDiff, ↓reduceIte, Nat.reduceAdd, Int.reduceBEq, Int.reduceBNe, List.map] <;> rfl) (K_within ok1 oke) fun v H7 h5 => ?_
   obtain ⟨rfl, hx7⟩ := h5
   haveI : ExtI _ H7 := ⟨hx7⟩
   refine ⟨(by repeat (first | exact trivial | refine ⟨(by first | exact Or.inl (by dsimp only; decide) | exact Or.inr (readOk_of (exec_ld rfl rfl)) | exact Or.inr (readOk_of (exec_ldN rfl rfl rfl)) | exact Or.inr (readOk_of (exec_ldB rfl (by omega))) | exact Or.inr (readOk_of (exec_ldI rfl (by omega))) | exact Or.inr (made_of rfl)), ?_⟩)), ?_⟩
   rw [g5]
   try simp only [↓nrmL, nrmZ, Nat.reduceEqDiff, ↓reduceIte, Nat.reduceAdd, Int.reduceBEq, Int.reduceBNe, beq_self_eq_true, Bool.not_true]
   refine Fe.pure rfl rfl (by simp only [↓nrmL, nrmZ, Nat.reduceEqDiff, ↓reduceIte, Nat.reduceAdd, Int.reduceBEq, Int.reduceBNe, beq_self_eq_true, Bool.not_true]; rfl) ?_
   refine Fe.pure rfl rfl (by simp only [↓nrmL, nrmZ, Nat.reduceEqDiff, ↓reduceIte, Nat.reduceAdd, Int.reduceBEq, Int.reduceBNe, beq_self_eq_true, Bool.not_true]; rfl) ?_
   refine WpE.nil (hKF _ _ ?_)
   refine Wp.cond (b := false) rfl ?_
   refine Wp.skip ?_
   refine sq ?_
   refine rg fun KF hKF => ?_
   refine Fo.ldN rfl rfl (by simp only [↓nrmL, nrmZ, Nat.reduceEqDiff, ↓reduceIte, Nat.reduceAdd, Int.reduceBEq, Int.reduceBNe]; rfl) ?_
   refine mI rfl ?_
   refine mI rfl ?_
   refine WpO.do (WpX.conD hn rfl rfl (by simp only [↓nrmL, nrmZ, Nat.reduceEqDiff, ↓reduceIte, Nat.reduceAdd, Int.reduceBEq, Int.reduceBNe, List.map] <;> rfl) (K_eroV okd w1 w2 h1 h2) fun v H8 h5 => ?_)
   obtain ⟨u, e1, r3, e2, hr3, hfr3, hwr3, hxr3⟩ := h5
   subst e1 e2
   try dsimp only at hr3
   haveI : ExtI _ H8 := ⟨hxr3⟩
   haveI := hr3.one
   refine mT rfl ?_
   refine Fo.extr rfl rfl ?_
   refine Fo.extr rfl rfl ?_
   refine Fo.new ?_
   refine Fo.st rfl (rfl : _ = AVal.agg _) rfl rfl rfl (by repeat (first | rfl | refine allOne_cons ?_)) (by simp only [↓nrmL, nrmZ, Nat.reduceEqDiff, ↓reduceIte, Nat.reduceAdd, Int.reduceBEq, Int.reduceBNe]; rfl) ?_
   refine mI rfl ?_
   refine WpO.nil (hKF _ _ ?_)
   refine sq ?_
   refine rg fun KF hKF => ?_
   refine Fo.ldN rfl rfl (by simp only [↓nrmL, nrmZ, Nat.reduceEqDiff, ↓reduceIte, Nat.reduceAdd, Int.reduceBEq, Int.reduceBNe]; rfl) ?_
   refine mI rfl ?_
   refine mI rfl ?_
   dsimp only [cond_true, cond_false]
   refine WpO.do (WpX.conD hn rfl rfl (by simp only [↓nrmL, nrmZ, Nat.reduceEqDiff, ↓reduceIte, Nat.reduceAdd, Int.reduceBEq, Int.reduceBNe, List.map] <;> rfl) (K_dilV okde w1 w2 h1 h2) fun v H9 h5 => ?_)
   obtain ⟨u, e1, r4, e2, hr4, hfr4, hwr4, hxr4⟩ := h5
   subst e1 e2
   try dsimp only at hr4
   haveI : ExtI _ H9 := ⟨hxr4⟩
   haveI := hr4.one
   refine mT rfl ?_
   refine Fo.extr rfl rfl ?_
   refine Fo.extr rfl rfl ?_
   refine Fo.new ?_
   refine Fo.st rfl (rfl : _ = AVal.agg _) rfl rfl rfl (by repeat (first | rfl | refine allOne_cons ?_)) (by simp only [↓nrmL, nrmZ, Nat.reduceEqDiff, ↓reduceIte, Nat.reduceAdd, Int.reduceBEq, Int.reduceBNe]; rfl) ?_
   refine mI rfl ?_
   refine WpO.nil (hKF _ _ ?_)
   refine sq ?_
   refine rg fun KF hKF => ?_
   refine Fo.ldN rfl rfl (by simp only [↓nrmL, nrmZ, Nat.reduceEqDiff, ↓reduceIte, Nat.reduceAdd, Int.reduceBEq, Int.reduceBNe]; rfl) ?_
   refine mI rfl ?_
   refine mI rfl ?_
   dsimp only [cond_true, cond_false]
   refine WpO.do (WpX.conD hn rfl rfl (by simp only [↓nrmL, nrmZ, Nat.reduceEqDiff, ↓reduceIte, Nat.reduceAdd, Int.reduceBEq, Int.reduceBNe, List.map] <;> rfl) (K_dilV oke w1 w2 h1 h2) fun v H10 h5 => ?_)
   obtain ⟨u, e1, r5, e2, hr5, hfr5, hwr5, hxr5⟩ := h5
   subst e1 e2
   try dsimp only at hr5
   haveI : ExtI _ H10 := ⟨hxr5⟩
   haveI := hr5.one
   refine mT rfl ?_
   refine Fo.extr rfl rfl ?_
   refine Fo.extr rfl rfl ?_
   refine Fo.new ?_
   refine Fo.st rfl (rfl : _ = AVal.agg _) rfl rfl rfl (by repeat (first | rfl | refine allOne_cons ?_)) (by simp only [↓nrmL, nrmZ, Nat.reduceEqDiff, ↓reduceIte, Nat.reduceAdd, Int.reduceBEq, Int.reduceBNe]; rfl) ?_
   refine mI rfl ?_
   refine WpO.nil (hKF _ _ ?_)
   refine sq ?_
   refine rg fun KF hKF => ?_
   refine Fo.ldN rfl rfl (by simp only [↓nrmL, nrmZ, Nat.reduceEqDiff, ↓reduceIte, Nat.reduceAdd, Int.reduceBEq, Int.reduceBNe]; rfl) ?_
   refine mI rfl ?_
   refine mI rfl ?_
   dsimp only [cond_true, cond_false]
   refine WpO.do (WpX.conD hn rfl rfl (by simp only [↓nrmL, nrmZ, Nat.reduceEqDiff, ↓reduceIte, Nat.reduceAdd, Int.reduceBEq, Int.reduceBNe, List.map] <;> rfl) (K_eroV okod w1 w2 h1 h2) fun v H11 h5 => ?_)
   obtain ⟨u, e1, r6, e2, hr6, hfr6, hwr6, hxr6⟩ := h5
   subst e1 e2
   try dsimp only at hr6
   haveI : ExtI _ H11 := ⟨hxr6⟩
   haveI := hr6.one
   try simp only [↓nrmL, nrmZ, Nat.reduceEqDiff, ↓reduceIte, Nat.reduceAdd, Int.reduceBEq, Int.reduceBNe, d1, d2]
   refine mT rfl ?_
   refine Fo.extr rfl rfl ?_
   refine Fo.extr rfl rfl ?_
   refine Fo.new ?_
   refine Fo.st rfl (rfl : _ = AVal.agg _) rfl rfl rfl (by repeat (first | rfl | refine allOne_cons ?_)) (by simp only [↓nrmL, nrmZ, Nat.reduceEqDiff, ↓reduceIte, Nat.reduceAdd, Int.reduceBEq, Int.reduceBNe, d1, d2]; rfl) ?_
   refine mI rfl ?_
   refine WpO.nil (hKF _ _ ?_)
   refine sq ?_
   refine rg fun KF hKF => ?_
   refine mI rfl ?_
   refine Fo.bin rfl rfl rfl (by simp only [↓nrmL, nrmZ, Nat.reduceEqDiff, ↓reduceIte, Nat.reduceAdd, Int.reduceBEq, Int.reduceBNe, d1, d2]; rfl) ?_
   refine mB rfl ?_
   refine Fo.yes rfl rfl ?_
   refine mI rfl ?_
   refine Fo.yes rfl rfl ?_
   refine Fo.bin rfl rfl rfl (by simp only [↓nrmL, nrmZ, Nat.reduceEqDiff, ↓reduceIte, Nat.reduceAdd, Int.reduceBEq, Int.reduceBNe, d1, d2]; rfl) ?_
   refine tB rfl rfl ?_
   refine mB rfl ?_
   refine Fo.yes rfl rfl ?_
   refine mI rfl ?_
   refine Fo.yes rfl rfl ?_
   refine Fo.bin rfl rfl rfl (by simp only [↓nrmL, nrmZ, Nat.reduceEqDiff, ↓reduceIte, Nat.reduceAdd, Int.reduceBEq, Int.reduceBNe, d1, d2]; rfl) ?_
   refine tB rfl rfl ?_
   refine mB rfl ?_
   refine Fo.yes rfl rfl ?_
   refine mI rfl ?_
   refine Fo.yes rfl rfl ?_
   refine Fo.bin rfl rfl rfl (by simp only [↓nrmL, nrmZ, Nat.reduceEqDiff, ↓reduceIte, Nat.reduceAdd, Int.reduceBEq, Int.reduceBNe, d1, d2]; rfl) ?_
   refine tB rfl rfl ?_
   refine mB rfl ?_
   refine Fo.yes rfl rfl ?_
   refine Fo.ldN rfl rfl (by simp only [↓nrmL, nrmZ, Nat.reduceEqDiff, ↓reduceIte, Nat.reduceAdd, Int.reduceBEq, Int.reduceBNe, d1, d2]; rfl) ?_
   refine Fo.yes rfl rfl ?_
   refine Fo.ldN rfl rfl (by simp only [↓nrmL, nrmZ, Nat.reduceEqDiff, ↓reduceIte, Nat.reduceAdd, Int.reduceBEq, Int.reduceBNe, d1, d2]; rfl) ?_
   refine Fo.yes rfl rfl ?_
   refine Fo.pcall (v' := ?_) hn rfl (by simp only [↓nrmL, nrmZ, Nat.reduceEqDiff, ↓reduceIte, Nat.reduceAdd, Int.reduceBEq, Int.reduceBNe, d1, d2, List.map]; rfl) rfl ?hv fun _ _ => ?_; case hv => (simp only [↓nrmL, nrmZ, Nat.reduceEqDiff, ↓reduceIte, Nat.reduceAdd, Int.reduceBEq, Int.reduceBNe, d1, d2]; rfl)
   refine tB rfl rfl ?_
   refine mB rfl ?_
   refine Fo.yes rfl rfl ?_
   refine Fo.ldN rfl rfl (by simp only [↓nrmL, nrmZ, Nat.reduceEqDiff, ↓reduceIte, Nat.reduceAdd, Int.reduceBEq, Int.reduceBNe, d1, d2]; rfl) ?_
   refine Fo.yes rfl rfl ?_
   refine Fo.ldN rfl rfl (by simp only [↓nrmL, nrmZ, Nat.reduceEqDiff, ↓reduceIte, Nat.reduceAdd, Int.reduceBEq, Int.reduceBNe, d1, d2]; rfl) ?_
   refine Fo.yes rfl rfl ?_
   refine Fo.pcall (v' := ?_) hn rfl (by simp only [↓nrmL, nrmZ, Nat.reduceEqDiff, ↓reduceIte, Nat.reduceAdd, Int.reduceBEq, Int.reduceBNe, d1, d2, List.map]; rfl) rfl ?hv fun _ _ => ?_; case hv => (simp only [↓nrmL, nrmZ, Nat.reduceEqDiff, ↓reduceIte, Nat.reduceAdd, Int.reduceBEq, Int.reduceBNe, d1, d2]; rfl)
   refine tB rfl rfl ?_
   refine mB rfl ?_
   refine Fo.yes rfl rfl ?_
   refine Fo.ldN rfl rfl (by simp only [↓nrmL, nrmZ, Nat.reduceEqDiff, ↓reduceIte, Nat.reduceAdd, Int.reduceBEq, Int.reduceBNe, d1, d2]; rfl) ?_
   refine Fo.yes rfl rfl ?_
   refine Fo.ldN rfl rfl (by simp only [↓nrmL, nrmZ, Nat.reduceEqDiff, ↓reduceIte, Nat.reduceAdd, Int.reduceBEq, Int.reduceBNe, d1, d2]; rfl) ?_
   refine Fo.yes rfl rfl ?_
   refine WpO.do (WpX.conD hn rfl rfl (by simp only [↓nrmL, nrmZ, Nat.reduceEqDiff, ↓reduceIte, Nat.reduceAdd, Int.reduceBEq, Int.reduceBNe, List.map] <;> rfl) (K_within ok1 okde) fun v H12 h5 => ?_)
   obtain ⟨rfl, hx12⟩ := h5
   haveI : ExtI _ H12 := ⟨hx12⟩
   rw [g3]
   refine tB rfl rfl ?_
   refine mB rfl ?_
   refine Fo.yes rfl rfl ?_
   refine Fo.ldN rfl rfl (by simp only [↓nrmL, nrmZ, Nat.reduceEqDiff, ↓reduceIte, Nat.reduceAdd, Int.reduceBEq, Int.reduceBNe]; rfl) ?_
   refine Fo.yes rfl rfl ?_
   refine Fo.ldN rfl rfl (by simp only [↓nrmL, nrmZ, Nat.reduceEqDiff, ↓reduceIte, Nat.reduceAdd, Int.reduceBEq, Int.reduceBNe]; rfl) ?_
   refine Fo.yes rfl rfl ?_
   refine WpO.do (WpX.conD hn rfl rfl (by simp only [↓nrmL, nrmZ, Nat.reduceEqDiff, ↓reduceIte, Nat.reduceAdd, Int.reduceBEq, Int.reduceBNe, List.map] <;> rfl) (K_within okod ok3) fun v H13 h5 => ?_)
   obtain ⟨rfl, hx13⟩ := h5
   haveI : ExtI _ H13 := ⟨hx13⟩
   rw [g4]
   refine tB rfl rfl ?_
   refine mB rfl ?_
   refine Fo.yes rfl rfl ?_
   refine Fo.pcall (v' := ?_) hn rfl (by simp only [↓nrmL, nrmZ, Nat.reduceEqDiff, ↓reduceIte, Nat.reduceAdd, Int.reduceBEq, Int.reduceBNe, List.map]; rfl) rfl ?hv fun _ _ => ?_; case hv => rfl
   refine tB rfl rfl ?_
   refine mB rfl ?_
   refine WpO.nil (hKF _ _ ?_)
   refine Wp.ret ?_
   dsimp only [cond_true, cond_false]
   refine ⟨trivial, _, (by first | rfl | exact getAllC rfl rfl rfl rfl | exact getAllT rfl (getAllC rfl rfl rfl rfl) | exact getAllC rfl rfl rfl (getAllC rfl rfl rfl rfl) | exact getAllC1 rfl rfl rfl), ?_⟩
   exact ⟨rfl, Ext0.ext⟩
 ·skip
  try simp only [↓nrmL, nrmZ, Nat.reduceEqDiff, ↓reduceIte, Nat.reduceAdd, Int.reduceBEq, Int.reduceBNe, hz3, hk1]
  refine mT rfl ?_
  refine Fo.extr rfl rfl ?_
  refine Fo.extr rfl rfl ?_
  refine Fo.new ?_
  refine Fo.st rfl (rfl : _ = AVal.agg _) rfl rfl rfl (by repeat (first | rfl | refine allOne_cons ?_)) (by simp only [↓nrmL, nrmZ, Nat.reduceEqDiff, ↓reduceIte, Nat.reduceAdd, Int.reduceBEq, Int.reduceBNe, hz3, hk1]; rfl) ?_
  refine mI rfl ?_
  refine WpO.nil (hKF _ _ ?_)
  refine sq ?_
  refine sq ?_
  refine rg fun KF hKF => ?_
  refine mI rfl ?_
  refine Fo.bin rfl rfl rfl (by simp only [↓nrmL, nrmZ, Nat.reduceEqDiff, ↓reduceIte, Nat.reduceAdd, Int.reduceBEq, Int.reduceBNe, hz3, hk1]; rfl) ?_
  refine WpO.nil (hKF _ _ ?_)
  refine Wp.block ?_
  refine sq ?_
  refine rg fun KF hKF => ?_
  refine Fo.bin rfl rfl rfl (by simp only [↓nrmL, nrmZ, Nat.reduceEqDiff, ↓reduceIte, Nat.reduceAdd, Int.reduceBEq, Int.reduceBNe, hz3, hk1]; rfl) ?_
  refine mB rfl ?_
  refine WpO.nil (hKF _ _ ?_)
  refine Wp.cond (b := true) rfl ?_
  refine rg fun KF hKF => ?_
  refine Fo.ldN rfl rfl (by simp only [↓nrmL, nrmZ, Nat.reduceEqDiff, ↓reduceIte, Nat.reduceAdd, Int.reduceBEq, Int.reduceBNe, hz3, hk1]; rfl) ?_
  refine Fo.st rfl (rfl : _ = AVal.agg _) rfl rfl rfl (by repeat (first | rfl | refine allOne_cons ?_)) (by simp only [↓nrmL, nrmZ, Nat.reduceEqDiff, ↓reduceIte, Nat.reduceAdd, Int.reduceBEq, Int.reduceBNe, hz3, hk1]; rfl) ?_
  refine WpO.nil (hKF _ _ ?_)
  refine sq ?_
  refine rg fun KF hKF => ?_
  refine Fo.ldN rfl rfl (by simp only [↓nrmL, nrmZ, Nat.reduceEqDiff, ↓reduceIte, Nat.reduceAdd, Int.reduceBEq, Int.reduceBNe, hz3, hk1]; rfl) ?_
  refine mI rfl ?_
  refine mI rfl ?_
  obtain ⟨g1, g2, g3, g4, g5⟩ := grow_facts (w := w) (h := h) ok1 okd
  have oke := ok_ero (w := w) (h := h) okd
  have okde := ok_ero (w := w) (h := h) okd
  have okod := ok_dil (w := w) (h := h) oke
  have sh1 := (ok_dil (w := w) (h := h) okde).short
  have sh2 := (ok_ero (w := w) (h := h) okod).short
  haveI : Short (dilL (eroL (dilL l a b w h) a b w h) a b w h) := ⟨by omega⟩
  haveI : Short (eroL (dilL (eroL (dilL l a b w h) a b w h) a b w h) a b w h) := ⟨by omega⟩
  have d1 : decide ((⟨a, b, dilL (eroL (dilL l a b w h) a b w h) a b w h⟩ : Img) = ⟨a, b, dilL l a b w h⟩) = true := decide_eq_true (by rw [g1])
  have d2 : decide ((⟨a, b, eroL (dilL (eroL (dilL l a b w h) a b w h) a b w h) a b w h⟩ : Img) = ⟨a, b, eroL (dilL l a b w h) a b w h⟩) = true := decide_eq_true (by rw [g2])
  refine WpO.do (WpX.conD hn rfl rfl (by simp only [↓nrmL, nrmZ, Nat.reduceEqDiff, ↓reduceIte, Nat.reduceAdd, Int.reduceBEq, Int.reduceBNe, List.map] <;> rfl) (K_eroV okd w1 w2 h1 h2) fun v H5 h5 => ?_)
  obtain ⟨u, e1, r2, e2, hr2, hfr2, hwr2, hxr2⟩ := h5
  subst e1 e2
  try dsimp only at hr2
  haveI : ExtI _ H5 := ⟨hxr2⟩
  haveI := hr2.one
  refine mT rfl ?_
  refine Fo.extr rfl rfl ?_
  refine Fo.extr rfl rfl ?_
  refine Fo.new ?_
  refine Fo.st rfl (rfl : _ = AVal.agg _) rfl rfl rfl (by repeat (first | rfl | refine allOne_cons ?_)) (by simp only [↓nrmL, nrmZ, Nat.reduceEqDiff, ↓reduceIte, Nat.reduceAdd, Int.reduceBEq, Int.reduceBNe]; rfl) ?_
  refine mI rfl ?_
  refine WpO.nil (hKF _ _ ?_)
  refine sq ?_
  refine sq ?_
  dsimp only [cond_true, cond_false]
  refine Fr.dregion0 rfl fun KF hKF => ?_
  refine Fe.pure rfl rfl (by simp only [↓nrmL, nrmZ, Nat.reduceEqDiff, ↓reduceIte, Nat.reduceAdd, Int.reduceBEq, Int.reduceBNe]; rfl) ?_
  refine Fe.pure rfl rfl (by simp only [↓nrmL, nrmZ, Nat.reduceEqDiff, ↓reduceIte, Nat.reduceAdd, Int.reduceBEq, Int.reduceBNe]; rfl) ?_
  refine Fe.pure rfl rfl (by simp only [↓nrmL, nrmZ, Nat.reduceEqDiff, ↓reduceIte, Nat.reduceAdd, Int.reduceBEq, Int.reduceBNe]; rfl) ?_
  refine Fe.pure rfl rfl (by simp only [↓nrmL, nrmZ, Nat.reduceEqDiff, ↓reduceIte, Nat.reduceAdd, Int.reduceBEq, Int.reduceBNe]; rfl) ?_
  refine Fe.pure rfl rfl (by simp only [↓nrmL, nrmZ, Nat.reduceEqDiff, ↓reduceIte, Nat.reduceAdd, Int.reduceBEq, Int.reduceBNe]; rfl) ?_
  refine Fe.pure rfl rfl (by simp only [↓nrmL, nrmZ, Nat.reduceEqDiff, ↓reduceIte, Nat.reduceAdd, Int.reduceBEq, Int.reduceBNe]; rfl) ?_
  refine Fe.pure rfl rfl (by simp only [↓nrmL, nrmZ, Nat.reduceEqDiff, ↓reduceIte, Nat.reduceAdd, Int.reduceBEq, Int.reduceBNe]; rfl) ?_
  refine Fe.read rfl (exec_ldN rfl rfl (by simp only [↓nrmL, nrmZ, Nat.reduceEqDiff, ↓reduceIte, Nat.reduceAdd, Int.reduceBEq, Int.reduceBNe]; rfl)) rfl (by repeat (first | exact trivial | refine ⟨(by first | exact Or.inl (by dsimp only; decide) | exact Or.inr (exec_ld rfl rfl) | exact Or.inr (exec_ldN rfl rfl rfl) | exact Or.inr (exec_ldB rfl (by omega)) | exact Or.inr (exec_ldI rfl (by omega)) | exact Or.inr ghost_of), ?_⟩)) ?_
  refine Fe.read rfl (exec_ldN rfl rfl (by simp only [↓nrmL, nrmZ, Nat.reduceEqDiff, ↓reduceIte, Nat.reduceAdd, Int.reduceBEq, Int.reduceBNe]; rfl)) rfl (by repeat (first | exact trivial | refine ⟨(by first | exact Or.inl (by dsimp only; decide) | exact Or.inr (exec_ld rfl rfl) | exact Or.inr (exec_ldN rfl rfl rfl) | exact Or.inr (exec_ldB rfl (by omega)) | exact Or.inr (exec_ldI rfl (by omega)) | exact Or.inr ghost_of), ?_⟩)) ?_
  refine Fe.con rfl hn rfl rfl (by simp only [↓nrmL, nrmZ, Nat.reduceEqDiff, ↓reduceIte, Nat.reduceAdd, Int.reduceBEq, Int.reduceBNe, List.map] <;> rfl) (K_within okd okd) fun v H6 h5 => ?_
  obtain ⟨rfl, hx6⟩ := h5
  haveI : ExtI _ H6 := ⟨hx6⟩
  refine ⟨(by repeat (first | exact trivial | refine ⟨(by first | exact Or.inl (by dsimp only; decide) | exact Or.inr (readOk_of (exec_ld rfl rfl)) | exact Or.inr (readOk_of (exec_ldN rfl rfl rfl)) | exact Or.inr (readOk_of (exec_ldB rfl (by omega))) | exact Or.inr (readOk_of (exec_ldI rfl (by omega))) | exact Or.inr (made_of rfl)), ?_⟩)), ?_⟩
  refine Fe.read rfl (exec_ldN rfl rfl (by simp only [↓nrmL, nrmZ, Nat.reduceEqDiff, ↓reduceIte, Nat.reduceAdd, Int.reduceBEq, Int.reduceBNe]; rfl)) rfl (by repeat (first | exact trivial | refine ⟨(by first | exact Or.inl (by dsimp only; decide) | exact Or.inr (exec_ld rfl rfl) | exact Or.inr (exec_ldN rfl rfl rfl) | exact Or.inr (exec_ldB rfl (by omega)) | exact Or.inr (exec_ldI rfl (by omega)) | exact Or.inr ghost_of), ?_⟩)) ?_
  refine Fe.read rfl (exec_ldN rfl rfl (by simp only [↓nrmL, nrmZ, Nat.reduceEqDiff, ↓reduceIte, Nat.reduceAdd, Int.reduceBEq, Int.reduceBNe]; rfl)) rfl (by repeat (first | exact trivial | refine ⟨(by first | exact Or.inl (by dsimp only; decide) | exact Or.inr (exec_ld rfl rfl) | exact Or.inr (exec_ldN rfl rfl rfl) | exact Or.inr (exec_ldB rfl (by omega)) | exact Or.inr (exec_ldI rfl (by omega)) | exact Or.inr ghost_of), ?_⟩)) ?_
  refine Fe.con rfl hn rfl rfl (by simp only [↓nrmL, nrmZ, Nat.reduceEqDiff, ↓reduceIte, Nat.reduceAdd, Int.reduceBEq, Int.reduceBNe, List.map] <;> rfl) (K_within ok1 oke) fun v H7 h5 => ?_
  obtain ⟨rfl, hx7⟩ := h5
  haveI : ExtI _ H7 := ⟨hx7⟩
  refine ⟨(by repeat (first | exact trivial | refine ⟨(by first | exact Or.inl (by dsimp only; decide) | exact Or.inr (readOk_of (exec_ld rfl rfl)) | exact Or.inr (readOk_of (exec_ldN rfl rfl rfl)) | exact Or.inr (readOk_of (exec_ldB rfl (by omega))) | exact Or.inr (readOk_of (exec_ldI rfl (by omega))) | exact Or.inr (made_of rfl)), ?_⟩)), ?_⟩
  rw [g5]
  try simp only [↓nrmL, nrmZ, Nat.reduceEqDiff, ↓reduceIte, Nat.reduceAdd, Int.reduceBEq, Int.reduceBNe, beq_self_eq_true, Bool.not_true]
  refine Fe.pure rfl rfl (by simp only [↓nrmL, nrmZ, Nat.reduceEqDiff, ↓reduceIte, Nat.reduceAdd, Int.reduceBEq, Int.reduceBNe, beq_self_eq_true, Bool.not_true]; rfl) ?_
  refine Fe.pure rfl rfl (by simp only [↓nrmL, nrmZ, Nat.reduceEqDiff, ↓reduceIte, Nat.reduceAdd, Int.reduceBEq, Int.reduceBNe, beq_self_eq_true, Bool.not_true]; rfl) ?_
  refine WpE.nil (hKF _ _ ?_)
  refine Wp.cond (b := false) rfl ?_
  refine Wp.skip ?_
  refine sq ?_
  refine rg fun KF hKF => ?_
  refine Fo.ldN rfl rfl (by simp only [↓nrmL, nrmZ, Nat.reduceEqDiff, ↓reduceIte, Nat.reduceAdd, Int.reduceBEq, Int.reduceBNe]; rfl) ?_
  refine mI rfl ?_
  refine mI rfl ?_
  refine WpO.do (WpX.conD hn rfl rfl (by simp only [↓nrmL, nrmZ, Nat.reduceEqDiff, ↓reduceIte, Nat.reduceAdd, Int.reduceBEq, Int.reduceBNe, List.map] <;> rfl) (K_eroV okd w1 w2 h1 h2) fun v H8 h5 => ?_)
  obtain ⟨u, e1, r3, e2, hr3, hfr3, hwr3, hxr3⟩ := h5
  subst e1 e2
  try dsimp only at hr3
  haveI : ExtI _ H8 := ⟨hxr3⟩
  haveI := hr3.one
  refine mT rfl ?_
  refine Fo.extr rfl rfl ?_
  refine Fo.extr rfl rfl ?_
  refine Fo.new ?_
  refine Fo.st rfl (rfl : _ = AVal.agg _) rfl rfl rfl (by repeat (first | rfl | refine allOne_cons ?_)) (by simp only [↓nrmL, nrmZ, Nat.reduceEqDiff, ↓reduceIte, Nat.reduceAdd, Int.reduceBEq, Int.reduceBNe]; rfl) ?_
  refine mI rfl ?_
  refine WpO.nil (hKF _ _ ?_)
  refine sq ?_
  refine rg fun KF hKF => ?_
  refine Fo.ldN rfl rfl (by simp only [↓nrmL, nrmZ, Nat.reduceEqDiff, ↓reduceIte, Nat.reduceAdd, Int.reduceBEq, Int.reduceBNe]; rfl) ?_
  refine mI rfl ?_
  refine mI rfl ?_
  dsimp only [cond_true, cond_false]
  refine WpO.do (WpX.conD hn rfl rfl (by simp only [↓nrmL, nrmZ, Nat.reduceEqDiff, ↓reduceIte, Nat.reduceAdd, Int.reduceBEq, Int.reduceBNe, List.map] <;> rfl) (K_dilV okde w1 w2 h1 h2) fun v H9 h5 => ?_)
  obtain ⟨u, e1, r4, e2, hr4, hfr4, hwr4, hxr4⟩ := h5
  subst e1 e2
  try dsimp only at hr4
  haveI : ExtI _ H9 := ⟨hxr4⟩
  haveI := hr4.one
  refine mT rfl ?_
  refine Fo.extr rfl rfl ?_
  refine Fo.extr rfl rfl ?_
  refine Fo.new ?_
  refine Fo.st rfl (rfl : _ = AVal.agg _) rfl rfl rfl (by repeat (first | rfl | refine allOne_cons ?_)) (by simp only [↓nrmL, nrmZ, Nat.reduceEqDiff, ↓reduceIte, Nat.reduceAdd, Int.reduceBEq, Int.reduceBNe]; rfl) ?_
  refine mI rfl ?_
  refine WpO.nil (hKF _ _ ?_)
  refine sq ?_
  refine rg fun KF hKF => ?_
  refine Fo.ldN rfl rfl (by simp only [↓nrmL, nrmZ, Nat.reduceEqDiff, ↓reduceIte, Nat.reduceAdd, Int.reduceBEq, Int.reduceBNe]; rfl) ?_
  refine mI rfl ?_
  refine mI rfl ?_
  dsimp only [cond_true, cond_false]
  refine WpO.do (WpX.conD hn rfl rfl (by simp only [↓nrmL, nrmZ, Nat.reduceEqDiff, ↓reduceIte, Nat.reduceAdd, Int.reduceBEq, Int.reduceBNe, List.map] <;> rfl) (K_dilV oke w1 w2 h1 h2) fun v H10 h5 => ?_)
  obtain ⟨u, e1, r5, e2, hr5, hfr5, hwr5, hxr5⟩ := h5
  subst e1 e2
  try dsimp only at hr5
  haveI : ExtI _ H10 := ⟨hxr5⟩
  haveI := hr5.one
  refine mT rfl ?_
  refine Fo.extr rfl rfl ?_
  refine Fo.extr rfl rfl ?_
  refine Fo.new ?_
  refine Fo.st rfl (rfl : _ = AVal.agg _) rfl rfl rfl (by repeat (first | rfl | refine allOne_cons ?_)) (by simp only [↓nrmL, nrmZ, Nat.reduceEqDiff, ↓reduceIte, Nat.reduceAdd, Int.reduceBEq, Int.reduceBNe]; rfl) ?_
  refine mI rfl ?_
  refine WpO.nil (hKF _ _ ?_)
  refine sq ?_
  refine rg fun KF hKF => ?_
  refine Fo.ldN rfl rfl (by simp only [↓nrmL, nrmZ, Nat.reduceEqDiff, ↓reduceIte, Nat.reduceAdd, Int.reduceBEq, Int.reduceBNe]; rfl) ?_
  refine mI rfl ?_
  refine mI rfl ?_
  dsimp only [cond_true, cond_false]
  refine WpO.do (WpX.conD hn rfl rfl (by simp only [↓nrmL, nrmZ, Nat.reduceEqDiff, ↓reduceIte, Nat.reduceAdd, Int.reduceBEq, Int.reduceBNe, List.map] <;> rfl) (K_eroV okod w1 w2 h1 h2) fun v H11 h5 => ?_)
  obtain ⟨u, e1, r6, e2, hr6, hfr6, hwr6, hxr6⟩ := h5
  subst e1 e2
  try dsimp only at hr6
  haveI : ExtI _ H11 := ⟨hxr6⟩
  haveI := hr6.one
  try simp only [↓nrmL, nrmZ, Nat.reduceEqDiff, ↓reduceIte, Nat.reduceAdd, Int.reduceBEq, Int.reduceBNe, d1, d2]
  refine mT rfl ?_
  refine Fo.extr rfl rfl ?_
  refine Fo.extr rfl rfl ?_
  refine Fo.new ?_
  refine Fo.st rfl (rfl : _ = AVal.agg _) rfl rfl rfl (by repeat (first | rfl | refine allOne_cons ?_)) (by simp only [↓nrmL, nrmZ, Nat.reduceEqDiff, ↓reduceIte, Nat.reduceAdd, Int.reduceBEq, Int.reduceBNe, d1, d2]; rfl) ?_
  refine mI rfl ?_
  refine WpO.nil (hKF _ _ ?_)
  refine sq ?_
  refine rg fun KF hKF => ?_
  refine mI rfl ?_
  refine Fo.bin rfl rfl rfl (by simp only [↓nrmL, nrmZ, Nat.reduceEqDiff, ↓reduceIte, Nat.reduceAdd, Int.reduceBEq, Int.reduceBNe, d1, d2]; rfl) ?_
  refine mB rfl ?_
  refine Fo.yes rfl rfl ?_
  refine mI rfl ?_
  refine Fo.yes rfl rfl ?_
  refine Fo.bin rfl rfl rfl (by simp only [↓nrmL, nrmZ, Nat.reduceEqDiff, ↓reduceIte, Nat.reduceAdd, Int.reduceBEq, Int.reduceBNe, d1, d2]; rfl) ?_
  refine tB rfl rfl ?_
  refine mB rfl ?_
  refine Fo.yes rfl rfl ?_
  refine mI rfl ?_
  refine Fo.yes rfl rfl ?_
  refine Fo.bin rfl rfl rfl (by simp only [↓nrmL, nrmZ, Nat.reduceEqDiff, ↓reduceIte, Nat.reduceAdd, Int.reduceBEq, Int.reduceBNe, d1, d2]; rfl) ?_
  refine tB rfl rfl ?_
  refine mB rfl ?_
  refine Fo.yes rfl rfl ?_
  refine mI rfl ?_
  refine Fo.yes rfl rfl ?_
  refine Fo.bin rfl rfl rfl (by simp only [↓nrmL, nrmZ, Nat.reduceEqDiff, ↓reduceIte, Nat.reduceAdd, Int.reduceBEq, Int.reduceBNe, d1, d2]; rfl) ?_
  refine tB rfl rfl ?_
  refine mB rfl ?_
  refine Fo.yes rfl rfl ?_
  refine Fo.ldN rfl rfl (by simp only [↓nrmL, nrmZ, Nat.reduceEqDiff, ↓reduceIte, Nat.reduceAdd, Int.reduceBEq, Int.reduceBNe, d1, d2]; rfl) ?_
  refine Fo.yes rfl rfl ?_
  refine Fo.ldN rfl rfl (by simp only [↓nrmL, nrmZ, Nat.reduceEqDiff, ↓reduceIte, Nat.reduceAdd, Int.reduceBEq, Int.reduceBNe, d1, d2]; rfl) ?_
  refine Fo.yes rfl rfl ?_
  refine Fo.pcall (v' := ?_) hn rfl (by simp only [↓nrmL, nrmZ, Nat.reduceEqDiff, ↓reduceIte, Nat.reduceAdd, Int.reduceBEq, Int.reduceBNe, d1, d2, List.map]; rfl) rfl ?hv fun _ _ => ?_; case hv => (simp only [↓nrmL, nrmZ, Nat.reduceEqDiff, ↓reduceIte, Nat.reduceAdd, Int.reduceBEq, Int.reduceBNe, d1, d2]; rfl)
  refine tB rfl rfl ?_
  refine mB rfl ?_
  refine Fo.yes rfl rfl ?_
  refine Fo.ldN rfl rfl (by simp only [↓nrmL, nrmZ, Nat.reduceEqDiff, ↓reduceIte, Nat.reduceAdd, Int.reduceBEq, Int.reduceBNe, d1, d2]; rfl) ?_
  refine Fo.yes rfl rfl ?_
  refine Fo.ldN rfl rfl (by simp only [↓nrmL, nrmZ, Nat.reduceEqDiff, ↓reduceIte, Nat.reduceAdd, Int.reduceBEq, Int.reduceBNe, d1, d2]; rfl) ?_
  refine Fo.yes rfl rfl ?_
  refine Fo.pcall (v' := ?_) hn rfl (by simp only [↓nrmL, nrmZ, Nat.reduceEqDiff, ↓reduceIte, Nat.reduceAdd, Int.reduceBEq, Int.reduceBNe, d1, d2, List.map]; rfl) rfl ?hv fun _ _ => ?_; case hv => (simp only [↓nrmL, nrmZ, Nat.reduceEqDiff, ↓reduceIte, Nat.reduceAdd, Int.reduceBEq, Int.reduceBNe, d1, d2]; rfl)
  refine tB rfl rfl ?_
  refine mB rfl ?_
  refine Fo.yes rfl rfl ?_
  refine Fo.ldN rfl rfl (by simp only [↓nrmL, nrmZ, Nat.reduceEqDiff, ↓reduceIte, Nat.reduceAdd, Int.reduceBEq, Int.reduceBNe, d1, d2]; rfl) ?_
  refine Fo.yes rfl rfl ?_
  refine Fo.ldN rfl rfl (by simp only [↓nrmL, nrmZ, Nat.reduceEqDiff, ↓reduceIte, Nat.reduceAdd, Int.reduceBEq, Int.reduceBNe, d1, d2]; rfl) ?_
  refine Fo.yes rfl rfl ?_
  refine WpO.do (WpX.conD hn rfl rfl (by simp only [↓nrmL, nrmZ, Nat.reduceEqDiff, ↓reduceIte, Nat.reduceAdd, Int.reduceBEq, Int.reduceBNe, List.map] <;> rfl) (K_within ok1 okde) fun v H12 h5 => ?_)
  obtain ⟨rfl, hx12⟩ := h5
  haveI : ExtI _ H12 := ⟨hx12⟩
  rw [g3]
  refine tB rfl rfl ?_
  refine mB rfl ?_
  refine Fo.yes rfl rfl ?_
  refine Fo.ldN rfl rfl (by simp only [↓nrmL, nrmZ, Nat.reduceEqDiff, ↓reduceIte, Nat.reduceAdd, Int.reduceBEq, Int.reduceBNe]; rfl) ?_
  refine Fo.yes rfl rfl ?_
  refine Fo.ldN rfl rfl (by simp only [↓nrmL, nrmZ, Nat.reduceEqDiff, ↓reduceIte, Nat.reduceAdd, Int.reduceBEq, Int.reduceBNe]; rfl) ?_
  refine Fo.yes rfl rfl ?_
  refine WpO.do (WpX.conD hn rfl rfl (by simp only [↓nrmL, nrmZ, Nat.reduceEqDiff, ↓reduceIte, Nat.reduceAdd, Int.reduceBEq, Int.reduceBNe, List.map] <;> rfl) (K_within okod okd) fun v H13 h5 => ?_)
  obtain ⟨rfl, hx13⟩ := h5
  haveI : ExtI _ H13 := ⟨hx13⟩
  rw [g4]
  refine tB rfl rfl ?_
  refine mB rfl ?_
  refine Fo.yes rfl rfl ?_
  refine Fo.pcall (v' := ?_) hn rfl (by simp only [↓nrmL, nrmZ, Nat.reduceEqDiff, ↓reduceIte, Nat.reduceAdd, Int.reduceBEq, Int.reduceBNe, List.map]; rfl) rfl ?hv fun _ _ => ?_; case hv => rfl
  refine tB rfl rfl ?_
  refine mB rfl ?_
  refine WpO.nil (hKF _ _ ?_)
  refine Wp.ret ?_
  dsimp only [cond_true, cond_false]
  refine ⟨trivial, _, (by first | rfl | exact getAllC rfl rfl rfl rfl | exact getAllT rfl (getAllC rfl rfl rfl rfl) | exact getAllC rfl rfl rfl (getAllC rfl rfl rfl rfl) | exact getAllC1 rfl rfl rfl), ?_⟩
  exact ⟨rfl, Ext0.ext⟩
end Go.Am

set_option linter.unusedSimpArgs false
set_option linter.unusedVariables false
set_option maxRecDepth 100000
set_option maxHeartbeats 4000000
namespace Go.Proofs.YtmgeaaipjkjmjaaDoor.ImageGrows
open Go.ChangeShapes Go.WideShapes Go.ChangeAt Go.RowKit Go.Am Go.Proofs.YtmgeaaipjkjmjaaDoor.Laid

theorem con (H : AHeap) (avs : List AVal) (ht : tablesIn aroundT H = true) (h : ArgS Tryd.prog H 3 [100, 22, 22, 5, 5, 5] avs) : Con ext prog 9 13 avs H fun v H' => v = .bool true ∧ Ext H H' := by
  obtain ⟨a0, r0, rfl, h0, a1, r1, rfl, h1, a2, r2, rfl, h2, a3, r3, rfl, h3, a4, r4, rfl, h4, a5, r5, rfl, h5, rfl⟩ := h
  obtain ⟨i0, rfl, wf0⟩ := shape_int Tryd.underlying100 h0
  obtain ⟨s0, rfl, lt0⟩ := u16_of wf0
  obtain ⟨p1, l1, rfl, k1, _⟩ := shape_bytes Tryd.underlying22 Tryd.underlying5 (by kernel_rfl) h1
  haveI o1 := k1.one
  obtain ⟨p2, l2, rfl, k2, _⟩ := shape_bytes Tryd.underlying22 Tryd.underlying5 (by kernel_rfl) h2
  haveI o2 := k2.one
  obtain ⟨i3, rfl, wf3⟩ := shape_int Tryd.underlying5 h3
  obtain ⟨s3, rfl⟩ := u8_of wf3
  obtain ⟨i4, rfl, wf4⟩ := shape_int Tryd.underlying5 h4
  obtain ⟨s4, rfl⟩ := u8_of wf4
  obtain ⟨i5, rfl, wf5⟩ := shape_int Tryd.underlying5 h5
  obtain ⟨s5, rfl⟩ := u8_of wf5
  have e0 : argV Tryd.prog 100 [.int .u16 (s0 : Int)] = .int .u16 (s0 : Int) := by simp only [argV, show aggTy Tryd.prog 100 = false by kernel_rfl, cond_false, List.headD_cons]
  have e1 : argV Tryd.prog 22 [p1] = p1 := by simp only [argV, show aggTy Tryd.prog 22 = false by kernel_rfl, cond_false, List.headD_cons]
  have e2 : argV Tryd.prog 22 [p2] = p2 := by simp only [argV, show aggTy Tryd.prog 22 = false by kernel_rfl, cond_false, List.headD_cons]
  have e3 : argV Tryd.prog 5 [.int .u8 (s3.toNat : Int)] = .int .u8 (s3.toNat : Int) := by simp only [argV, show aggTy Tryd.prog 5 = false by kernel_rfl, cond_false, List.headD_cons]
  have e4 : argV Tryd.prog 5 [.int .u8 (s4.toNat : Int)] = .int .u8 (s4.toNat : Int) := by simp only [argV, show aggTy Tryd.prog 5 = false by kernel_rfl, cond_false, List.headD_cons]
  have e5 : argV Tryd.prog 5 [.int .u8 (s5.toNat : Int)] = .int .u8 (s5.toNat : Int) := by simp only [argV, show aggTy Tryd.prog 5 = false by kernel_rfl, cond_false, List.headD_cons]
  haveI : Tabs H := ⟨ht⟩
  rw [e0, e1, e2, e3, e4, e5]
  exact (K_ImageGrows (s := s0) (b1 := l1) (b2 := l2) (cw := s3) (ch := s4) (cz := s5) lt0)

theorem contract (H : Type) (enc : TypeId × Value → H) (W : World) (base : Nat) (args : Array Value) (ds gs : List (DataW H)) (before : List MemPlace)
    (hval : ∀ (j : Nat) t v, Tryd.f13.params[j]? = some t → args[j]? = some v → Value.okWide Tryd.prog W .any base t v)
    (hW : DataW.Whole enc Tryd.prog Tryd.f13.params.toList Rows.imageGrowsSpec.vars false W args.toList ds gs before) (hL : laidMetH Tryd.prog Rows.imageGrowsRow.laid W) :
    Calls Tryd.prog 13 args W fun e W' => ∃ v, e = .returned v ∧ Rows.imageGrowsSpec.post enc Tryd.prog Tryd.f13 false true false false W args v W' := by
  have hW' := hW
  obtain ⟨p, q, hA, _⟩ := hW'
  rw [Tryd.params13] at hA
  obtain ⟨v0, vs0, d0, ds0, p0, q0, _, rfl, _, _, r0⟩ := trodAll_cons hA
  obtain ⟨v1, vs1, d1, ds1, p1, q1, _, rfl, _, _, r1⟩ := trodAll_cons r0
  obtain ⟨v2, vs2, d2, ds2, p2, q2, _, rfl, _, _, r2⟩ := trodAll_cons r1
  obtain ⟨v3, vs3, d3, ds3, p3, q3, _, rfl, _, _, r3⟩ := trodAll_cons r2
  obtain ⟨v4, vs4, d4, ds4, p4, q4, _, rfl, _, _, r4⟩ := trodAll_cons r3
  obtain ⟨v5, vs5, d5, ds5, p5, q5, _, rfl, _, _, r5⟩ := trodAll_cons r4
  obtain ⟨_, rfl, _⟩ := trodAll_nil r5
  exact law_calls (tb := 4) (n := 3) (d := 9) (tabs := aroundT) mixed progOk Tryd.func13 rfl (by decide +kernel) laidOut rowed full (by kernel_rfl) rfl (by kernel_rfl) Tryd.underlying4 (by kernel_rfl) (by kernel_rfl)
    (fun H avs ht h => con H avs ht (by rw [Tryd.params13] at h; exact h)) H enc W base args _ gs before rfl hval hW (around_cells hL)

theorem laid_met (os : Os) : laidMet Tryd.prog Rows.imageGrowsRow.laid ((laidWorld os).forCall (fun _ _ => 0) ⟨#[], #[.int .u16 0, .slice none 0 0, .slice none 0 0, .int .u8 0, .int .u8 0, .int .u8 0], []⟩).memory :=
  laidMet_of_run' 8 (by kernel_rfl) (by kernel_rfl)
theorem reads (os : Os) {H : Type} (enc : TypeId × Value → H) : ∃ places, DataW.whole enc Tryd.prog ((laidWorld os).forCall (fun _ _ => 0) ⟨#[], #[.int .u16 0, .slice none 0 0, .slice none 0 0, .int .u8 0, .int .u8 0, .int .u8 0], []⟩).memory Tryd.f13.params.toList Rows.imageGrowsSpec.vars false #[Value.int .u16 0, .slice none 0 0, .slice none 0 0, .int .u8 0, .int .u8 0, .int .u8 0].toList 8 = some ([.lit (.int .u16 0), .nil, .nil, .lit (.int .u8 0), .lit (.int .u8 0), .lit (.int .u8 0)], [], places) :=
  ⟨[], by kernel_rfl⟩

theorem lifted (os : Os) (started : os.Started) (H : Type) (enc : TypeId × Value → H) (F : Stop.Interp) :
    ReturnsInHanded {} Tryd.checked os 13 .any ((OpenSpec.ofChange Rows.imageGrowsSpec).preRow enc Tryd.prog Tryd.f13 Rows.imageGrowsRow.domain false Rows.imageGrowsRow.laid) (((OpenSpec.ofChange Rows.imageGrowsSpec).at F).post enc Tryd.prog Tryd.f13 false true false false) := by
  obtain ⟨places, hx⟩ := reads os enc
  refine returnsInHanded_of_row (C := Tryd.checked) (s := OpenSpec.ofChange Rows.imageGrowsSpec) own started (by kernel_rfl) Tryd.func13
    (witness_row_at (enc := enc) (C := Tryd.checked) false (laidWorld os) #[.int .u16 0, .slice none 0 0, .slice none 0 0, .int .u8 0, .int .u8 0, .int .u8 0] rfl (by kernel_rfl) (by kernel_rfl) (by kernel_rfl)
      (OpenSpec.preRow_of_cond 8 hx (by kernel_rfl) (fun k hk => by cases hk) (by kernel_rfl) (laid_met os))) ?_
  intro W base args ds gs before hval hW _ _ _ hL _ _
  exact contract H enc W base args ds gs before hval hW hL

theorem said : Rows.ImageGrowsSaid :=
  OpenClaim.holds_of_cond 13 Tryd.f13 rfl rfl rfl rfl rfl rfl rfl ⟨rfl, rfl, rfl, rfl, rfl⟩ rfl rfl rfl rfl rfl (by kernel_rfl) Tryd.func13 (by kernel_rfl)
    (of_decide_eq_true (by kernel_rfl)) (by unfold Func.isWrapper; first | (rw [if_pos (by decide +kernel)]; kernel_rfl) | (rw [if_neg (by decide +kernel)]; exact ⟨rfl, rfl⟩))
    (fun os started H enc _ F => by rw [OpenClaim.pre_eq_preRow]; exact lifted os started H enc F)

theorem plain (f : FuncId) (fn : Func) (hf : Tryd.pinned.checked.prog.funcNamed "custos/custoslaw01.ImageGrows" = some f) (hfn : Tryd.pinned.checked.prog.funcs[f]? = some fn) :
    false = Tryd.pinned.checked.prog.looks [] ∧ ∀ (j : Nat) t, fn.params[j]? = some t → Tryd.pinned.checked.prog.wantsStandIn t = false := by
  obtain rfl : f = 13 := Option.some.inj ((show Tryd.prog.funcNamed "custos/custoslaw01.ImageGrows" = some 13 by kernel_rfl).symm.trans hf) |>.symm
  obtain rfl : fn = Tryd.f13 := (Option.some.inj (Tryd.func13.symm.trans hfn)).symm
  refine ⟨by kernel_rfl, fun j t ht => ?_⟩
  have h := List.all_eq_true.1 (show (Tryd.f13.params.toList.all fun t => !(Tryd.prog.wantsStandIn t)) = true by kernel_rfl) t (by simpa using Array.mem_of_getElem? ht)
  have h2 : Tryd.prog.wantsStandIn t = false := by simpa using h
  exact h2

/-- The card. -/
theorem card : Rows.ImageGrowsCardSaid :=
  Claim7.holds_tied_plain_at .later [] _ _ _ _ said (fun _ h => by cases h) (by kernel_rfl) (fun _ h => by cases h) imageGrows_row_tie rfl ⟨rfl, rfl⟩ (by kernel_rfl) rfl plain (by kernel_rfl)
end Go.Proofs.YtmgeaaipjkjmjaaDoor.ImageGrows
