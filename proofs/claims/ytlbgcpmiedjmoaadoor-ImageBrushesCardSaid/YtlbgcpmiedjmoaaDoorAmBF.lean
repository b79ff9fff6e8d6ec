import Derived.Test.YtlbgcpmiedjmoaaDoorAmBE
set_option linter.unusedSimpArgs false
set_option linter.unusedVariables false
set_option maxHeartbeats 8000000
set_option maxRecDepth 100000
set_option synthInstance.maxHeartbeats 4000000
set_option synthInstance.maxSize 100000
namespace Go.Am
open Go
attribute [local irreducible] Wp WpO WpX WpE

theorem edge_skip {q : Nat → Bool} {s : Nat} (h : q s = true ∨ s % 2 = 0) : edgeTo q (s + 1) = edgeTo q s := by
 simp only [edgeTo]
 rcases h with h | h
 ·rw [h]; simp
 ·rw [h]; simp
theorem edge_set {q : Nat → Bool} {s : Nat} (h : q s = false) (h1 : s % 2 = 1) : edgeTo q (s + 1) = true := by
 simp only [edgeTo]
 rw [h, h1]; simp

theorem K_refGoes {a b x y : Nat} {p : AVal} {H : AHeap} {l : List UInt8} [hp : BytesI H p l] [hs : Fits a b l] (hx : x ≤ 640) (hy : y ≤ 640) : Con ext prog 3 131 [.agg [.int .i64 a, .int .i64 b, p], .int .i64 x, .int .i64 y] H fun v H' => v = .bool (goesB (ringF a b l x y)) ∧ Ext H H' := by
 refine con_of (show prog 131 = some c131 from rfl) rfl rfl fun n hn => ?_
 haveI := hp.one
 obtain ⟨q, hq⟩ : ∃ q : Nat → Bool, ∀ s, q s = inkB a b l (ptX x s) (ptY y s) := ⟨_, fun _ => rfl⟩
 have hgo : goesR q = goesB (ringF a b l x y) := goesR_ring q (fun s _ _ => hq s)
 rw [← hgo]
 have wy0 : IntKind.i64.wrap ((y : Int) - 1) = (y : Int) - 1 := w64 (by omega)
 have wy1 : IntKind.i64.wrap ((y : Int) + 1) = (y : Int) + 1 := w64 (by omega)
 have wx0 : IntKind.i64.wrap ((x : Int) - 1) = (x : Int) - 1 := w64 (by omega)
 have wx1 : IntKind.i64.wrap ((x : Int) + 1) = (x : Int) + 1 := w64 (by omega)
 try simp only [↓nrmL, nrmZ, Nat.reduceEqDiff, ↓reduceIte, Nat.reduceAdd, Int.reduceBEq, Int.reduceBNe, wy0]
 refine sq ?_
 refine rg fun KF hKF => ?_
 refine Fo.boxA rfl ?_
 refine mB rfl ?_
 refine WpO.nil (hKF _ _ ?_)
 refine sq ?_
 refine rg fun KF hKF => ?_
 refine mN rfl ?_
 refine WpO.nil (hKF _ _ ?_)
 refine sq ?_
 refine rg fun KF hKF => ?_
 refine mB rfl ?_
 refine WpO.nil (hKF _ _ ?_)
 refine sq ?_
 refine sq ?_
 refine rg fun KF hKF => ?_
 refine mI rfl ?_
 refine Fo.bin rfl rfl rfl (by simp only [↓nrmL, nrmZ, Nat.reduceEqDiff, ↓reduceIte, Nat.reduceAdd, Int.reduceBEq, Int.reduceBNe, wy0]; rfl) ?_
 refine mI rfl ?_
 refine WpO.nil (hKF _ _ ?_)
 refine Wp.block ?_
 dsimp only [cond_true, cond_false]
 obtain ⟨Hb, hHb⟩ : ∃ Hb, H.push (.row [.int .i64 a, .int .i64 b, p] true (2 * 24)) = Hb := ⟨_, rfl⟩
 haveI hxb : ExtI H Hb := ⟨by rw [← hHb]; exact (Ext.refl H).push _⟩
 haveI hrb : HasRow Hb H.n [.int .i64 a, .int .i64 b, p] true (2 * 24) := by rw [← hHb]; infer_instance
 rw [hHb]
 clear hHb
 refine Wp.loopS [7, 8, 9, 10, 18, 19, 20, 21, 22, 23, 24, 25, 26, 27, 28, 29, 30, 31, 32, 33, 34, 35, 36, 37, 38, 39, 40, 41, 42, 43, 44, 45, 46, 47, 48, 49, 50, 51, 52, 53, 54, 55, 56, 57] (fun s : Nat × AVal => [(7, s.2), (8, .bool (edgeTo q (3 * s.1))), (9, .int .i64 ((y : Int) - 1 + (s.1 : Int)))]) (fun _ s H2 => s.1 ≤ 3 ∧ OwnS H2 s.2 2 (posTo q (3 * s.1)).length (cellsP x y (posTo q (3 * s.1))) 88 ∧ FreshS Hb s.2 ∧ Ext Hb H2) (fun s => 3 - s.1) (0, .nslice) rfl (fun _ => rfl) ⟨rfl, rfl, (by show AVal.int .i64 ((y : Int) - 1) = _; congr 1; omega), trivial⟩ ⟨Nat.zero_le _, ⟨Or.inl ⟨rfl, rfl, rfl⟩⟩, ⟨fun _ _ _ _ _ e => by cases e⟩, Ext.refl _⟩ (by unfold fuel0 at hn; dsimp only; omega) ?_
 rintro ⟨vi, w⟩ g H2 ⟨hvi, ho, hf, hx2⟩
 dsimp only at hvi ho hf hx2
 haveI : ExtI Hb H2 := ⟨hx2⟩
 haveI : Ext0 Hb H2 := ⟨hx2⟩
 haveI := ho.sl.one
 simp only [↓nrmL, nrmZ, Nat.reduceEqDiff, ↓reduceIte, Nat.reduceAdd, Int.reduceBEq, Int.reduceBNe]
 cases hc : decide ((y : Int) - 1 + (vi : Int) ≤ (y : Int) + 1)
 rotate_left
 ·have hv2 : vi ≤ 2 := by have := of_decide_eq_true hc; omega
  have wv : IntKind.i64.wrap ((y : Int) - 1 + (vi : Int) + 1) = (y : Int) - 1 + ((vi + 1 : Nat) : Int) := by rw [w64 (by omega)]; omega
  try simp only [↓nrmL, nrmZ, Nat.reduceEqDiff, ↓reduceIte, Nat.reduceAdd, Int.reduceBEq, Int.reduceBNe, wy1, hc, wx0]
  refine sq ?_
  refine sq ?_
  refine rg fun KF hKF => ?_
  refine mI rfl ?_
  refine mI rfl ?_
  refine Fo.bin rfl rfl rfl (by simp only [↓nrmL, nrmZ, Nat.reduceEqDiff, ↓reduceIte, Nat.reduceAdd, Int.reduceBEq, Int.reduceBNe, wy1, hc, wx0]; rfl) ?_
  refine Fo.bin rfl rfl rfl (by simp only [↓nrmL, nrmZ, Nat.reduceEqDiff, ↓reduceIte, Nat.reduceAdd, Int.reduceBEq, Int.reduceBNe, wy1, hc, wx0]; rfl) ?_
  refine WpO.nil (hKF _ _ ?_)
  refine Wp.cond (b := true) rfl ?_
  refine Wp.skip ?_
  refine sq ?_
  refine Wp.block ?_
  refine sq ?_
  refine rg fun KF hKF => ?_
  refine mI rfl ?_
  refine Fo.bin rfl rfl rfl (by simp only [↓nrmL, nrmZ, Nat.reduceEqDiff, ↓reduceIte, Nat.reduceAdd, Int.reduceBEq, Int.reduceBNe, wy1, hc, wx0]; rfl) ?_
  refine mI rfl ?_
  refine WpO.nil (hKF _ _ ?_)
  refine Wp.block ?_
  dsimp only [cond_true, cond_false]
  refine Wp.loopS [7, 8, 10, 26, 27, 28, 29, 30, 31, 32, 33, 34, 35, 36, 37, 38, 39, 40, 41, 42, 43, 44, 45, 46, 47, 48, 49, 50, 51, 52, 53, 54, 55, 56, 57] (fun s : Nat × AVal => [(7, s.2), (8, .bool (edgeTo q (3 * vi + s.1))), (10, .int .i64 ((x : Int) - 1 + (s.1 : Int)))]) (fun _ s H4 => s.1 ≤ 3 ∧ OwnS H4 s.2 2 (posTo q (3 * vi + s.1)).length (cellsP x y (posTo q (3 * vi + s.1))) 88 ∧ FreshS Hb s.2 ∧ Ext Hb H4) (fun s => 3 - s.1) (0, w) rfl (fun _ => rfl) ⟨rfl, rfl, (by show AVal.int .i64 ((x : Int) - 1) = _; congr 1; omega), trivial⟩ ⟨Nat.zero_le _, ho, hf, hx2⟩ (by unfold fuel0 at hn; dsimp only; omega) ?_
  rintro ⟨ui, w2⟩ g2 H4 ⟨hui, ho2, hf2, hx4⟩
  dsimp only at hui ho2 hf2 hx4
  haveI : ExtI Hb H4 := ⟨hx4⟩
  haveI : Ext0 Hb H4 := ⟨hx4⟩
  haveI := ho2.sl.one
  simp only [↓nrmL, nrmZ, Nat.reduceEqDiff, ↓reduceIte, Nat.reduceAdd, Int.reduceBEq, Int.reduceBNe]
  cases hc2 : decide ((x : Int) - 1 + (ui : Int) ≤ (x : Int) + 1)
  ·have hu3 : ui = 3 := by have := of_decide_eq_false hc2; omega
   subst hu3
   try simp only [↓nrmL, nrmZ, Nat.reduceEqDiff, ↓reduceIte, Nat.reduceAdd, Int.reduceBEq, Int.reduceBNe, wx1, hc2]
   refine sq ?_
   refine sq ?_
   refine rg fun KF hKF => ?_
   refine mI rfl ?_
   refine mI rfl ?_
   refine Fo.bin rfl rfl rfl (by simp only [↓nrmL, nrmZ, Nat.reduceEqDiff, ↓reduceIte, Nat.reduceAdd, Int.reduceBEq, Int.reduceBNe, wx1, hc2]; rfl) ?_
   refine Fo.bin rfl rfl rfl (by simp only [↓nrmL, nrmZ, Nat.reduceEqDiff, ↓reduceIte, Nat.reduceAdd, Int.reduceBEq, Int.reduceBNe, wx1, hc2]; rfl) ?_
   refine WpO.nil (hKF _ _ ?_)
   refine Wp.cond (b := false) rfl ?_
   refine Wp.exit ?_
   refine rg fun KF hKF => ?_
   refine mI rfl ?_
   refine Fo.bin rfl rfl rfl rfl ?_
   refine mI rfl ?_
   refine WpO.nil (hKF _ _ ?_)
   dsimp only [cond_true, cond_false]
   refine ⟨(vi + 1, w2), by dsimp only; omega, ⟨rfl, rfl, by simp only [↓nrmL, nrmZ, Nat.reduceEqDiff, ↓reduceIte, Nat.reduceAdd, Int.reduceBEq, Int.reduceBNe]; rw [wv], trivial⟩, by omega, ho2, hf2, hx4⟩
  ·have hu2 : ui ≤ 2 := by have := of_decide_eq_true hc2; omega
   have wu : IntKind.i64.wrap ((x : Int) - 1 + (ui : Int) + 1) = (x : Int) - 1 + ((ui + 1 : Nat) : Int) := by rw [w64 (by omega)]; omega
   have hsm : (3 * vi + ui) % 3 = ui := by omega
   have hsd : (3 * vi + ui) / 3 = vi := by omega
   have hi : inkB a b l ((x : Int) - 1 + (ui : Int)) ((y : Int) - 1 + (vi : Int)) = q (3 * vi + ui) := by
    rw [hq]; unfold ptX ptY; rw [hsm, hsd]
   have hpt : ptX x (3 * vi + ui) = (x : Int) - 1 + (ui : Int) ∧ ptY y (3 * vi + ui) = (y : Int) - 1 + (vi : Int) := by
    unfold ptX ptY; rw [hsm, hsd]; exact ⟨rfl, rfl⟩
   have hpl := posTo_len q (3 * vi + ui)
   cases hcx : (((x : Int) - 1 + (ui : Int)) == (x : Int))
   ·have hu1 : ui ≠ 1 := fun e => by
     have : ((x : Int) - 1 + (ui : Int)) = (x : Int) := by omega
     rw [this] at hcx; simp at hcx
    have h4 : 3 * vi + ui ≠ 4 := by omega
    cases hqs : q (3 * vi + ui)
    ·cases hcy : (((y : Int) - 1 + (vi : Int)) == (y : Int))
     ·have hv1 : vi ≠ 1 := fun e => by
       have : ((y : Int) - 1 + (vi : Int)) = (y : Int) := by omega
       rw [this] at hcy; simp at hcy
      try simp only [↓nrmL, nrmZ, Nat.reduceEqDiff, ↓reduceIte, Nat.reduceAdd, Int.reduceBEq, Int.reduceBNe, hc2, wx1, hi, hqs, hcx, hcy]
      refine sq ?_
      refine sq ?_
      refine rg fun KF hKF => ?_
      refine mI rfl ?_
      refine mI rfl ?_
      refine Fo.bin rfl rfl rfl (by simp only [↓nrmL, nrmZ, Nat.reduceEqDiff, ↓reduceIte, Nat.reduceAdd, Int.reduceBEq, Int.reduceBNe, hc2, wx1, hi, hqs, hcx, hcy]; rfl) ?_
      refine Fo.bin rfl rfl rfl (by simp only [↓nrmL, nrmZ, Nat.reduceEqDiff, ↓reduceIte, Nat.reduceAdd, Int.reduceBEq, Int.reduceBNe, hc2, wx1, hi, hqs, hcx, hcy]; rfl) ?_
      refine WpO.nil (hKF _ _ ?_)
      refine Wp.cond (b := true) rfl ?_
      refine Wp.skip ?_
      refine sq ?_
      refine Wp.block ?_
      refine sq ?_
      refine sq ?_
      refine rg fun KF hKF => ?_
      refine mI rfl ?_
      refine mI rfl ?_
      refine Fo.bin rfl rfl rfl (by simp only [↓nrmL, nrmZ, Nat.reduceEqDiff, ↓reduceIte, Nat.reduceAdd, Int.reduceBEq, Int.reduceBNe, hc2, wx1, hi, hqs, hcx, hcy]; rfl) ?_
      refine mB rfl ?_
      refine Fo.no rfl rfl ?_
      refine Fo.no rfl rfl ?_
      refine Fo.no rfl rfl ?_
      refine fB rfl rfl ?_
      refine WpO.nil (hKF _ _ ?_)
      refine Wp.cond (b := false) rfl ?_
      refine Wp.skip ?_
      refine sq ?_
      refine rg fun KF hKF => ?_
      refine Fo.ldN rfl rfl (by simp only [↓nrmL, nrmZ, Nat.reduceEqDiff, ↓reduceIte, Nat.reduceAdd, Int.reduceBEq, Int.reduceBNe, hc2, wx1, hi, hqs, hcx, hcy]; rfl) ?_
      refine mI rfl ?_
      refine mI rfl ?_
      refine Fo.pcall (v' := ?_) hn rfl (by simp only [↓nrmL, nrmZ, Nat.reduceEqDiff, ↓reduceIte, Nat.reduceAdd, Int.reduceBEq, Int.reduceBNe, hc2, wx1, hi, hqs, hcx, hcy, List.map]; rfl) rfl ?hv fun _ _ => ?_; case hv => (simp only [↓nrmL, nrmZ, Nat.reduceEqDiff, ↓reduceIte, Nat.reduceAdd, Int.reduceBEq, Int.reduceBNe, hc2, wx1, hi, hqs, hcx, hcy]; rfl)
      refine WpO.nil (hKF _ _ ?_)
      refine Wp.cond (b := false) rfl ?_
      refine sq ?_
      refine rg fun KF hKF => ?_
      refine mI rfl ?_
      refine mI rfl ?_
      refine Fo.bin rfl rfl rfl (by simp only [↓nrmL, nrmZ, Nat.reduceEqDiff, ↓reduceIte, Nat.reduceAdd, Int.reduceBEq, Int.reduceBNe, hc2, wx1, hi, hqs, hcx, hcy]; rfl) ?_
      refine mB rfl ?_
      refine Fo.yes rfl rfl ?_
      refine mI rfl ?_
      refine Fo.yes rfl rfl ?_
      refine mI rfl ?_
      refine Fo.yes rfl rfl ?_
      refine Fo.bin rfl rfl rfl (by simp only [↓nrmL, nrmZ, Nat.reduceEqDiff, ↓reduceIte, Nat.reduceAdd, Int.reduceBEq, Int.reduceBNe, hc2, wx1, hi, hqs, hcx, hcy]; rfl) ?_
      refine fB rfl rfl ?_
      refine WpO.nil (hKF _ _ ?_)
      refine Wp.cond (b := false) rfl ?_
      refine Wp.skip ?_
      refine rg fun KF hKF => ?_
      refine mI rfl ?_
      refine Fo.bin rfl rfl rfl rfl ?_
      refine mI rfl ?_
      refine WpO.nil (hKF _ _ ?_)
      dsimp only [cond_true, cond_false]
      refine ⟨(ui + 1, w2), by dsimp only; omega, ⟨rfl, (by rw [← Nat.add_assoc, edge_skip (Or.inr (by omega))]; rfl), by simp only [↓nrmL, nrmZ, Nat.reduceEqDiff, ↓reduceIte, Nat.reduceAdd, Int.reduceBEq, Int.reduceBNe]; rw [wu], trivial⟩, by omega, by rw [← Nat.add_assoc, posTo_off (Or.inr hqs)]; infer_instance, hf2, Ext0.ext⟩
     ·have hv1 : vi = 1 := by have := eq_of_beq hcy; omega
      try simp only [↓nrmL, nrmZ, Nat.reduceEqDiff, ↓reduceIte, Nat.reduceAdd, Int.reduceBEq, Int.reduceBNe, hc2, wx1, hi, hqs, hcx, hcy]
      refine sq ?_
      refine sq ?_
      refine rg fun KF hKF => ?_
      refine mI rfl ?_
      refine mI rfl ?_
      refine Fo.bin rfl rfl rfl (by simp only [↓nrmL, nrmZ, Nat.reduceEqDiff, ↓reduceIte, Nat.reduceAdd, Int.reduceBEq, Int.reduceBNe, hc2, wx1, hi, hqs, hcx, hcy]; rfl) ?_
      refine Fo.bin rfl rfl rfl (by simp only [↓nrmL, nrmZ, Nat.reduceEqDiff, ↓reduceIte, Nat.reduceAdd, Int.reduceBEq, Int.reduceBNe, hc2, wx1, hi, hqs, hcx, hcy]; rfl) ?_
      refine WpO.nil (hKF _ _ ?_)
      refine Wp.cond (b := true) rfl ?_
      refine Wp.skip ?_
      refine sq ?_
      refine Wp.block ?_
      refine sq ?_
      refine sq ?_
      refine rg fun KF hKF => ?_
      refine mI rfl ?_
      refine mI rfl ?_
      refine Fo.bin rfl rfl rfl (by simp only [↓nrmL, nrmZ, Nat.reduceEqDiff, ↓reduceIte, Nat.reduceAdd, Int.reduceBEq, Int.reduceBNe, hc2, wx1, hi, hqs, hcx, hcy]; rfl) ?_
      refine mB rfl ?_
      refine Fo.no rfl rfl ?_
      refine Fo.no rfl rfl ?_
      refine Fo.no rfl rfl ?_
      refine fB rfl rfl ?_
      refine WpO.nil (hKF _ _ ?_)
      refine Wp.cond (b := false) rfl ?_
      refine Wp.skip ?_
      refine sq ?_
      refine rg fun KF hKF => ?_
      refine Fo.ldN rfl rfl (by simp only [↓nrmL, nrmZ, Nat.reduceEqDiff, ↓reduceIte, Nat.reduceAdd, Int.reduceBEq, Int.reduceBNe, hc2, wx1, hi, hqs, hcx, hcy]; rfl) ?_
      refine mI rfl ?_
      refine mI rfl ?_
      refine Fo.pcall (v' := ?_) hn rfl (by simp only [↓nrmL, nrmZ, Nat.reduceEqDiff, ↓reduceIte, Nat.reduceAdd, Int.reduceBEq, Int.reduceBNe, hc2, wx1, hi, hqs, hcx, hcy, List.map]; rfl) rfl ?hv fun _ _ => ?_; case hv => (simp only [↓nrmL, nrmZ, Nat.reduceEqDiff, ↓reduceIte, Nat.reduceAdd, Int.reduceBEq, Int.reduceBNe, hc2, wx1, hi, hqs, hcx, hcy]; rfl)
      refine WpO.nil (hKF _ _ ?_)
      refine Wp.cond (b := false) rfl ?_
      refine sq ?_
      refine rg fun KF hKF => ?_
      refine mI rfl ?_
      refine mI rfl ?_
      refine Fo.bin rfl rfl rfl (by simp only [↓nrmL, nrmZ, Nat.reduceEqDiff, ↓reduceIte, Nat.reduceAdd, Int.reduceBEq, Int.reduceBNe, hc2, wx1, hi, hqs, hcx, hcy]; rfl) ?_
      refine mB rfl ?_
      refine Fo.yes rfl rfl ?_
      refine mI rfl ?_
      refine Fo.yes rfl rfl ?_
      refine mI rfl ?_
      refine Fo.yes rfl rfl ?_
      refine Fo.bin rfl rfl rfl (by simp only [↓nrmL, nrmZ, Nat.reduceEqDiff, ↓reduceIte, Nat.reduceAdd, Int.reduceBEq, Int.reduceBNe, hc2, wx1, hi, hqs, hcx, hcy]; rfl) ?_
      refine fB rfl rfl ?_
      refine WpO.nil (hKF _ _ ?_)
      refine Wp.cond (b := true) rfl ?_
      refine rg fun KF hKF => ?_
      refine mB rfl ?_
      refine WpO.nil (hKF _ _ ?_)
      refine rg fun KF hKF => ?_
      refine mI rfl ?_
      refine Fo.bin rfl rfl rfl rfl ?_
      refine mI rfl ?_
      refine WpO.nil (hKF _ _ ?_)
      dsimp only [cond_true, cond_false]
      refine ⟨(ui + 1, w2), by dsimp only; omega, ⟨rfl, (by rw [← Nat.add_assoc, edge_set hqs (by omega)]; rfl), by simp only [↓nrmL, nrmZ, Nat.reduceEqDiff, ↓reduceIte, Nat.reduceAdd, Int.reduceBEq, Int.reduceBNe]; rw [wu], trivial⟩, by omega, by rw [← Nat.add_assoc, posTo_off (Or.inr hqs)]; infer_instance, hf2, Ext0.ext⟩
    ·skip
     try simp only [↓nrmL, nrmZ, Nat.reduceEqDiff, ↓reduceIte, Nat.reduceAdd, Int.reduceBEq, Int.reduceBNe, hc2, wx1, hcx, hi, hqs]
     refine sq ?_
     refine sq ?_
     refine rg fun KF hKF => ?_
     refine mI rfl ?_
     refine mI rfl ?_
     refine Fo.bin rfl rfl rfl (by simp only [↓nrmL, nrmZ, Nat.reduceEqDiff, ↓reduceIte, Nat.reduceAdd, Int.reduceBEq, Int.reduceBNe, hc2, wx1, hcx, hi, hqs]; rfl) ?_
     refine Fo.bin rfl rfl rfl (by simp only [↓nrmL, nrmZ, Nat.reduceEqDiff, ↓reduceIte, Nat.reduceAdd, Int.reduceBEq, Int.reduceBNe, hc2, wx1, hcx, hi, hqs]; rfl) ?_
     refine WpO.nil (hKF _ _ ?_)
     refine Wp.cond (b := true) rfl ?_
     refine Wp.skip ?_
     refine sq ?_
     refine Wp.block ?_
     refine sq ?_
     refine sq ?_
     refine rg fun KF hKF => ?_
     refine mI rfl ?_
     refine mI rfl ?_
     refine Fo.bin rfl rfl rfl (by simp only [↓nrmL, nrmZ, Nat.reduceEqDiff, ↓reduceIte, Nat.reduceAdd, Int.reduceBEq, Int.reduceBNe, hc2, wx1, hcx, hi, hqs]; rfl) ?_
     refine mB rfl ?_
     refine Fo.no rfl rfl ?_
     refine Fo.no rfl rfl ?_
     refine Fo.no rfl rfl ?_
     refine fB rfl rfl ?_
     refine WpO.nil (hKF _ _ ?_)
     refine Wp.cond (b := false) rfl ?_
     refine Wp.skip ?_
     refine sq ?_
     refine rg fun KF hKF => ?_
     refine Fo.ldN rfl rfl (by simp only [↓nrmL, nrmZ, Nat.reduceEqDiff, ↓reduceIte, Nat.reduceAdd, Int.reduceBEq, Int.reduceBNe, hc2, wx1, hcx, hi, hqs]; rfl) ?_
     refine mI rfl ?_
     refine mI rfl ?_
     refine Fo.pcall (v' := ?_) hn rfl (by simp only [↓nrmL, nrmZ, Nat.reduceEqDiff, ↓reduceIte, Nat.reduceAdd, Int.reduceBEq, Int.reduceBNe, hc2, wx1, hcx, hi, hqs, List.map]; rfl) rfl ?hv fun _ _ => ?_; case hv => (simp only [↓nrmL, nrmZ, Nat.reduceEqDiff, ↓reduceIte, Nat.reduceAdd, Int.reduceBEq, Int.reduceBNe, hc2, wx1, hcx, hi, hqs]; rfl)
     refine WpO.nil (hKF _ _ ?_)
     refine Wp.cond (b := true) rfl ?_
     refine rg fun KF hKF => ?_
     refine Fo.mov (by simp only [↓nrmL, nrmK, Nat.reduceEqDiff, ↓reduceIte]; rfl) ?_
     refine mI rfl ?_
     refine mI rfl ?_
     refine Fo.build (by repeat (first | refine aFill1 (by first | exact (rfl : _ = AVal.int _ _) | exact (rfl : _ = AVal.ptr _ _) | exact (rfl : _ = AVal.bool _) | exact (rfl : _ = AVal.agg _) | exact (rfl : _ = AVal.tuple _) | exact (rfl : _ = AVal.func _ _ _) | exact (rfl : _ = AVal.nslice) | ((try simp only [↓nrmL, nrmK, Nat.reduceEqDiff, ↓reduceIte]); rfl)) rfl ?_ | rfl)) (by simp only [↓nrmL, nrmZ, Nat.reduceEqDiff, ↓reduceIte, Nat.reduceAdd, Int.reduceBEq, Int.reduceBNe, hc2, wx1, hcx, hi, hqs]; rfl) ?_
     refine Fo.bslice rfl (by simp only [↓nrmL, nrmZ, Nat.reduceEqDiff, ↓reduceIte, Nat.reduceAdd, Int.reduceBEq, Int.reduceBNe, hc2, wx1, hcx, hi, hqs]; rfl) ?_
     refine WpO.do (WpX.growX (p := w2) (q := .slice _ 0 1 (some 1) 2) (sz := 2) (n := (posTo q (3 * vi + ui)).length) (k := 1) (bytes := 16) (new := [.int .i64 ((x : Int) - 1 + (ui : Int)), .int .i64 ((y : Int) - 1 + (vi : Int))]) rfl rfl inferInstance inferInstance (by decide) (by decide) (by decide) (by omega) rfl fun p' H5 k1 k2 k3 => ?_)
     haveI := k1.sl.one
     refine Fo.mov (by simp only [↓nrmL, nrmK, Nat.reduceEqDiff, ↓reduceIte]; rfl) ?_
     refine WpO.nil (hKF _ _ ?_)
     refine rg fun KF hKF => ?_
     refine mI rfl ?_
     refine Fo.bin rfl rfl rfl rfl ?_
     refine mI rfl ?_
     refine WpO.nil (hKF _ _ ?_)
     dsimp only [cond_true, cond_false]
     have hpo := posTo_on h4 hqs
     have hle : (posTo q (3 * vi + (ui + 1))).length = (posTo q (3 * vi + ui)).length + 1 := by rw [← Nat.add_assoc, hpo]; simp
     have hce : cellsP x y (posTo q (3 * vi + (ui + 1))) = cellsP x y (posTo q (3 * vi + ui)) ++ [.int .i64 ((x : Int) - 1 + (ui : Int)), .int .i64 ((y : Int) - 1 + (vi : Int))] := by
      rw [← Nat.add_assoc, hpo, cellsP_snoc, hpt.1, hpt.2]
     have hk2 : FreshS Hb p' := k2.weak
     refine ⟨(ui + 1, p'), by dsimp only; omega, ⟨rfl, (by rw [← Nat.add_assoc, edge_skip (Or.inl hqs)]; rfl), by simp only [↓nrmL, nrmZ, Nat.reduceEqDiff, ↓reduceIte, Nat.reduceAdd, Int.reduceBEq, Int.reduceBNe]; rw [wu], trivial⟩, by omega, by rw [hle, hce]; exact k1, hk2, Ext0.ext⟩
   ·have hu1 : ui = 1 := by have := eq_of_beq hcx; omega
    cases hcy : (((y : Int) - 1 + (vi : Int)) == (y : Int))
    ·have hv1 : vi ≠ 1 := fun e => by
      have : ((y : Int) - 1 + (vi : Int)) = (y : Int) := by omega
      rw [this] at hcy; simp at hcy
     have h4 : 3 * vi + ui ≠ 4 := by omega
     cases hqs : q (3 * vi + ui)
     ·skip
      try simp only [↓nrmL, nrmZ, Nat.reduceEqDiff, ↓reduceIte, Nat.reduceAdd, Int.reduceBEq, Int.reduceBNe, hc2, wx1, hi, hqs, hcx, hcy]
      refine sq ?_
      refine sq ?_
      refine rg fun KF hKF => ?_
      refine mI rfl ?_
      refine mI rfl ?_
      refine Fo.bin rfl rfl rfl (by simp only [↓nrmL, nrmZ, Nat.reduceEqDiff, ↓reduceIte, Nat.reduceAdd, Int.reduceBEq, Int.reduceBNe, hc2, wx1, hi, hqs, hcx, hcy]; rfl) ?_
      refine Fo.bin rfl rfl rfl (by simp only [↓nrmL, nrmZ, Nat.reduceEqDiff, ↓reduceIte, Nat.reduceAdd, Int.reduceBEq, Int.reduceBNe, hc2, wx1, hi, hqs, hcx, hcy]; rfl) ?_
      refine WpO.nil (hKF _ _ ?_)
      refine Wp.cond (b := true) rfl ?_
      refine Wp.skip ?_
      refine sq ?_
      refine Wp.block ?_
      refine sq ?_
      refine sq ?_
      refine rg fun KF hKF => ?_
      refine mI rfl ?_
      refine mI rfl ?_
      refine Fo.bin rfl rfl rfl (by simp only [↓nrmL, nrmZ, Nat.reduceEqDiff, ↓reduceIte, Nat.reduceAdd, Int.reduceBEq, Int.reduceBNe, hc2, wx1, hi, hqs, hcx, hcy]; rfl) ?_
      refine mB rfl ?_
      refine Fo.yes rfl rfl ?_
      refine mI rfl ?_
      refine Fo.yes rfl rfl ?_
      refine mI rfl ?_
      refine Fo.yes rfl rfl ?_
      refine Fo.bin rfl rfl rfl (by simp only [↓nrmL, nrmZ, Nat.reduceEqDiff, ↓reduceIte, Nat.reduceAdd, Int.reduceBEq, Int.reduceBNe, hc2, wx1, hi, hqs, hcx, hcy]; rfl) ?_
      refine tB rfl rfl ?_
      refine WpO.nil (hKF _ _ ?_)
      refine Wp.cond (b := false) rfl ?_
      refine Wp.skip ?_
      refine sq ?_
      refine rg fun KF hKF => ?_
      refine Fo.ldN rfl rfl (by simp only [↓nrmL, nrmZ, Nat.reduceEqDiff, ↓reduceIte, Nat.reduceAdd, Int.reduceBEq, Int.reduceBNe, hc2, wx1, hi, hqs, hcx, hcy]; rfl) ?_
      refine mI rfl ?_
      refine mI rfl ?_
      refine Fo.pcall (v' := ?_) hn rfl (by simp only [↓nrmL, nrmZ, Nat.reduceEqDiff, ↓reduceIte, Nat.reduceAdd, Int.reduceBEq, Int.reduceBNe, hc2, wx1, hi, hqs, hcx, hcy, List.map]; rfl) rfl ?hv fun _ _ => ?_; case hv => (simp only [↓nrmL, nrmZ, Nat.reduceEqDiff, ↓reduceIte, Nat.reduceAdd, Int.reduceBEq, Int.reduceBNe, hc2, wx1, hi, hqs, hcx, hcy]; rfl)
      refine WpO.nil (hKF _ _ ?_)
      refine Wp.cond (b := false) rfl ?_
      refine sq ?_
      refine rg fun KF hKF => ?_
      refine mI rfl ?_
      refine mI rfl ?_
      refine Fo.bin rfl rfl rfl (by simp only [↓nrmL, nrmZ, Nat.reduceEqDiff, ↓reduceIte, Nat.reduceAdd, Int.reduceBEq, Int.reduceBNe, hc2, wx1, hi, hqs, hcx, hcy]; rfl) ?_
      refine mB rfl ?_
      refine Fo.no rfl rfl ?_
      refine Fo.no rfl rfl ?_
      refine Fo.no rfl rfl ?_
      refine tB rfl rfl ?_
      refine WpO.nil (hKF _ _ ?_)
      refine Wp.cond (b := true) rfl ?_
      refine rg fun KF hKF => ?_
      refine mB rfl ?_
      refine WpO.nil (hKF _ _ ?_)
      refine rg fun KF hKF => ?_
      refine mI rfl ?_
      refine Fo.bin rfl rfl rfl rfl ?_
      refine mI rfl ?_
      refine WpO.nil (hKF _ _ ?_)
      dsimp only [cond_true, cond_false]
      refine ⟨(ui + 1, w2), by dsimp only; omega, ⟨rfl, (by rw [← Nat.add_assoc, edge_set hqs (by omega)]; rfl), by simp only [↓nrmL, nrmZ, Nat.reduceEqDiff, ↓reduceIte, Nat.reduceAdd, Int.reduceBEq, Int.reduceBNe]; rw [wu], trivial⟩, by omega, by rw [← Nat.add_assoc, posTo_off (Or.inr hqs)]; infer_instance, hf2, Ext0.ext⟩
     ·skip
      try simp only [↓nrmL, nrmZ, Nat.reduceEqDiff, ↓reduceIte, Nat.reduceAdd, Int.reduceBEq, Int.reduceBNe, hc2, wx1, hcx, hcy, hi, hqs]
      refine sq ?_
      refine sq ?_
      refine rg fun KF hKF => ?_
      refine mI rfl ?_
      refine mI rfl ?_
      refine Fo.bin rfl rfl rfl (by simp only [↓nrmL, nrmZ, Nat.reduceEqDiff, ↓reduceIte, Nat.reduceAdd, Int.reduceBEq, Int.reduceBNe, hc2, wx1, hcx, hcy, hi, hqs]; rfl) ?_
      refine Fo.bin rfl rfl rfl (by simp only [↓nrmL, nrmZ, Nat.reduceEqDiff, ↓reduceIte, Nat.reduceAdd, Int.reduceBEq, Int.reduceBNe, hc2, wx1, hcx, hcy, hi, hqs]; rfl) ?_
      refine WpO.nil (hKF _ _ ?_)
      refine Wp.cond (b := true) rfl ?_
      refine Wp.skip ?_
      refine sq ?_
      refine Wp.block ?_
      refine sq ?_
      refine sq ?_
      refine rg fun KF hKF => ?_
      refine mI rfl ?_
      refine mI rfl ?_
      refine Fo.bin rfl rfl rfl (by simp only [↓nrmL, nrmZ, Nat.reduceEqDiff, ↓reduceIte, Nat.reduceAdd, Int.reduceBEq, Int.reduceBNe, hc2, wx1, hcx, hcy, hi, hqs]; rfl) ?_
      refine mB rfl ?_
      refine Fo.yes rfl rfl ?_
      refine mI rfl ?_
      refine Fo.yes rfl rfl ?_
      refine mI rfl ?_
      refine Fo.yes rfl rfl ?_
      refine Fo.bin rfl rfl rfl (by simp only [↓nrmL, nrmZ, Nat.reduceEqDiff, ↓reduceIte, Nat.reduceAdd, Int.reduceBEq, Int.reduceBNe, hc2, wx1, hcx, hcy, hi, hqs]; rfl) ?_
      refine tB rfl rfl ?_
      refine WpO.nil (hKF _ _ ?_)
      refine Wp.cond (b := false) rfl ?_
      refine Wp.skip ?_
      refine sq ?_
      refine rg fun KF hKF => ?_
      refine Fo.ldN rfl rfl (by simp only [↓nrmL, nrmZ, Nat.reduceEqDiff, ↓reduceIte, Nat.reduceAdd, Int.reduceBEq, Int.reduceBNe, hc2, wx1, hcx, hcy, hi, hqs]; rfl) ?_
      refine mI rfl ?_
      refine mI rfl ?_
      refine Fo.pcall (v' := ?_) hn rfl (by simp only [↓nrmL, nrmZ, Nat.reduceEqDiff, ↓reduceIte, Nat.reduceAdd, Int.reduceBEq, Int.reduceBNe, hc2, wx1, hcx, hcy, hi, hqs, List.map]; rfl) rfl ?hv fun _ _ => ?_; case hv => (simp only [↓nrmL, nrmZ, Nat.reduceEqDiff, ↓reduceIte, Nat.reduceAdd, Int.reduceBEq, Int.reduceBNe, hc2, wx1, hcx, hcy, hi, hqs]; rfl)
      refine WpO.nil (hKF _ _ ?_)
      refine Wp.cond (b := true) rfl ?_
      refine rg fun KF hKF => ?_
      refine Fo.mov (by simp only [↓nrmL, nrmK, Nat.reduceEqDiff, ↓reduceIte]; rfl) ?_
      refine mI rfl ?_
      refine mI rfl ?_
      refine Fo.build (by repeat (first | refine aFill1 (by first | exact (rfl : _ = AVal.int _ _) | exact (rfl : _ = AVal.ptr _ _) | exact (rfl : _ = AVal.bool _) | exact (rfl : _ = AVal.agg _) | exact (rfl : _ = AVal.tuple _) | exact (rfl : _ = AVal.func _ _ _) | exact (rfl : _ = AVal.nslice) | ((try simp only [↓nrmL, nrmK, Nat.reduceEqDiff, ↓reduceIte]); rfl)) rfl ?_ | rfl)) (by simp only [↓nrmL, nrmZ, Nat.reduceEqDiff, ↓reduceIte, Nat.reduceAdd, Int.reduceBEq, Int.reduceBNe, hc2, wx1, hcx, hcy, hi, hqs]; rfl) ?_
      refine Fo.bslice rfl (by simp only [↓nrmL, nrmZ, Nat.reduceEqDiff, ↓reduceIte, Nat.reduceAdd, Int.reduceBEq, Int.reduceBNe, hc2, wx1, hcx, hcy, hi, hqs]; rfl) ?_
      refine WpO.do (WpX.growX (p := w2) (q := .slice _ 0 1 (some 1) 2) (sz := 2) (n := (posTo q (3 * vi + ui)).length) (k := 1) (bytes := 16) (new := [.int .i64 ((x : Int) - 1 + (ui : Int)), .int .i64 ((y : Int) - 1 + (vi : Int))]) rfl rfl inferInstance inferInstance (by decide) (by decide) (by decide) (by omega) rfl fun p' H5 k1 k2 k3 => ?_)
      haveI := k1.sl.one
      refine Fo.mov (by simp only [↓nrmL, nrmK, Nat.reduceEqDiff, ↓reduceIte]; rfl) ?_
      refine WpO.nil (hKF _ _ ?_)
      refine rg fun KF hKF => ?_
      refine mI rfl ?_
      refine Fo.bin rfl rfl rfl rfl ?_
      refine mI rfl ?_
      refine WpO.nil (hKF _ _ ?_)
      dsimp only [cond_true, cond_false]
      have hpo := posTo_on h4 hqs
      have hle : (posTo q (3 * vi + (ui + 1))).length = (posTo q (3 * vi + ui)).length + 1 := by rw [← Nat.add_assoc, hpo]; simp
      have hce : cellsP x y (posTo q (3 * vi + (ui + 1))) = cellsP x y (posTo q (3 * vi + ui)) ++ [.int .i64 ((x : Int) - 1 + (ui : Int)), .int .i64 ((y : Int) - 1 + (vi : Int))] := by
       rw [← Nat.add_assoc, hpo, cellsP_snoc, hpt.1, hpt.2]
      have hk2 : FreshS Hb p' := k2.weak
      refine ⟨(ui + 1, p'), by dsimp only; omega, ⟨rfl, (by rw [← Nat.add_assoc, edge_skip (Or.inl hqs)]; rfl), by simp only [↓nrmL, nrmZ, Nat.reduceEqDiff, ↓reduceIte, Nat.reduceAdd, Int.reduceBEq, Int.reduceBNe]; rw [wu], trivial⟩, by omega, by rw [hle, hce]; exact k1, hk2, Ext0.ext⟩
    ·have hv1 : vi = 1 := by have := eq_of_beq hcy; omega
     have h4 : 3 * vi + ui = 4 := by omega
     try simp only [↓nrmL, nrmZ, Nat.reduceEqDiff, ↓reduceIte, Nat.reduceAdd, Int.reduceBEq, Int.reduceBNe, hc2, wx1, hcx, hcy]
     refine sq ?_
     refine sq ?_
     refine rg fun KF hKF => ?_
     refine mI rfl ?_
     refine mI rfl ?_
     refine Fo.bin rfl rfl rfl (by simp only [↓nrmL, nrmZ, Nat.reduceEqDiff, ↓reduceIte, Nat.reduceAdd, Int.reduceBEq, Int.reduceBNe, hc2, wx1, hcx, hcy]; rfl) ?_
     refine Fo.bin rfl rfl rfl (by simp only [↓nrmL, nrmZ, Nat.reduceEqDiff, ↓reduceIte, Nat.reduceAdd, Int.reduceBEq, Int.reduceBNe, hc2, wx1, hcx, hcy]; rfl) ?_
     refine WpO.nil (hKF _ _ ?_)
     refine Wp.cond (b := true) rfl ?_
     refine Wp.skip ?_
     refine sq ?_
     refine Wp.block ?_
     refine sq ?_
     refine sq ?_
     refine rg fun KF hKF => ?_
     refine mI rfl ?_
     refine mI rfl ?_
     refine Fo.bin rfl rfl rfl (by simp only [↓nrmL, nrmZ, Nat.reduceEqDiff, ↓reduceIte, Nat.reduceAdd, Int.reduceBEq, Int.reduceBNe, hc2, wx1, hcx, hcy]; rfl) ?_
     refine mB rfl ?_
     refine Fo.yes rfl rfl ?_
     refine mI rfl ?_
     refine Fo.yes rfl rfl ?_
     refine mI rfl ?_
     refine Fo.yes rfl rfl ?_
     refine Fo.bin rfl rfl rfl (by simp only [↓nrmL, nrmZ, Nat.reduceEqDiff, ↓reduceIte, Nat.reduceAdd, Int.reduceBEq, Int.reduceBNe, hc2, wx1, hcx, hcy]; rfl) ?_
     refine tB rfl rfl ?_
     refine WpO.nil (hKF _ _ ?_)
     refine Wp.cond (b := true) rfl ?_
     refine Wp.exit ?_
     refine rg fun KF hKF => ?_
     refine mI rfl ?_
     refine Fo.bin rfl rfl rfl rfl ?_
     refine mI rfl ?_
     refine WpO.nil (hKF _ _ ?_)
     dsimp only [cond_true, cond_false]
     refine ⟨(ui + 1, w2), by dsimp only; omega, ⟨rfl, (by rw [← Nat.add_assoc, edge_skip (Or.inr (by omega))]; rfl), by simp only [↓nrmL, nrmZ, Nat.reduceEqDiff, ↓reduceIte, Nat.reduceAdd, Int.reduceBEq, Int.reduceBNe]; rw [wu], trivial⟩, by omega, by rw [← Nat.add_assoc, posTo_off (Or.inl h4)]; infer_instance, hf2, Ext0.ext⟩
 have hv3 : vi = 3 := by have := of_decide_eq_false hc; omega
 subst hv3
 have ho9 : OwnS H2 w 2 (posTo q 9).length (cellsP x y (posTo q 9)) 88 := ho
 clear ho
 have hpos0 : ∀ i < (posTo q 9).length, (posTo q 9).getD i 0 < 9 := fun i hi => pos_lt hi
 have hlen9 := posTo_len q 9
 have hgR : goesR q = (edgeTo q 9 && (Nat.ble 2 (posTo q 9).length && (metN (posTo q 9) (posTo q 9).length).all id)) := rfl
 generalize posTo q 9 = P at *
 haveI hsl := ho9.sl
 haveI := hsl.one
 cases he : edgeTo q (3 * 3)
 ·skip
  try simp only [↓nrmL, nrmZ, Nat.reduceEqDiff, ↓reduceIte, Nat.reduceAdd, Int.reduceBEq, Int.reduceBNe, wy1, hc]
  refine sq ?_
  refine sq ?_
  refine rg fun KF hKF => ?_
  refine mI rfl ?_
  refine mI rfl ?_
  refine Fo.bin rfl rfl rfl (by simp only [↓nrmL, nrmZ, Nat.reduceEqDiff, ↓reduceIte, Nat.reduceAdd, Int.reduceBEq, Int.reduceBNe, wy1, hc]; rfl) ?_
  refine Fo.bin rfl rfl rfl (by simp only [↓nrmL, nrmZ, Nat.reduceEqDiff, ↓reduceIte, Nat.reduceAdd, Int.reduceBEq, Int.reduceBNe, wy1, hc]; rfl) ?_
  refine WpO.nil (hKF _ _ ?_)
  refine Wp.cond (b := false) rfl ?_
  refine Wp.exit ?_
  refine sq ?_
  refine sq ?_
  refine rg fun KF hKF => ?_
  refine mB rfl ?_
  refine Fo.now rfl rfl (by simp only [↓nrmL, nrmZ, Nat.reduceEqDiff, ↓reduceIte, Nat.reduceAdd, Int.reduceBEq, Int.reduceBNe, wy1, hc]; rfl) ?_
  refine mB rfl ?_
  refine Fo.no rfl rfl ?_
  refine Fo.no rfl rfl ?_
  refine Fo.no rfl rfl ?_
  refine tB rfl rfl ?_
  refine WpO.nil (hKF _ _ ?_)
  refine Wp.cond (b := true) rfl ?_
  refine sq ?_
  refine rg fun KF hKF => ?_
  refine mB rfl ?_
  refine WpO.nil (hKF _ _ ?_)
  refine Wp.ret ?_
  dsimp only [cond_true, cond_false]
  refine ⟨trivial, _, (by first | rfl | exact getAllC rfl rfl rfl rfl | exact getAllT rfl (getAllC rfl rfl rfl rfl) | exact getAllC rfl rfl rfl (getAllC rfl rfl rfl rfl) | exact getAllC1 rfl rfl rfl), ?_⟩
  exact ⟨by rw [hgR, show edgeTo q 9 = false from he]; rfl, Ext0.ext⟩
 rw [show edgeTo q 9 = true from he, Bool.true_and] at hgR
 cases hl2 : decide (((P.length : Nat) : Int) < 2)
 rotate_left
 ·have hb2 : Nat.ble 2 P.length = false := by
   cases hb : Nat.ble 2 P.length
   ·rfl
   ·have := Nat.le_of_ble_eq_true hb; have := of_decide_eq_true hl2; omega
  try simp only [↓nrmL, nrmZ, Nat.reduceEqDiff, ↓reduceIte, Nat.reduceAdd, Int.reduceBEq, Int.reduceBNe, wy1, hc, hl2]
  refine sq ?_
  refine sq ?_
  refine rg fun KF hKF => ?_
  refine mI rfl ?_
  refine mI rfl ?_
  refine Fo.bin rfl rfl rfl (by simp only [↓nrmL, nrmZ, Nat.reduceEqDiff, ↓reduceIte, Nat.reduceAdd, Int.reduceBEq, Int.reduceBNe, wy1, hc, hl2]; rfl) ?_
  refine Fo.bin rfl rfl rfl (by simp only [↓nrmL, nrmZ, Nat.reduceEqDiff, ↓reduceIte, Nat.reduceAdd, Int.reduceBEq, Int.reduceBNe, wy1, hc, hl2]; rfl) ?_
  refine WpO.nil (hKF _ _ ?_)
  refine Wp.cond (b := false) rfl ?_
  refine Wp.exit ?_
  refine sq ?_
  refine sq ?_
  refine rg fun KF hKF => ?_
  refine mB rfl ?_
  refine Fo.now rfl rfl (by simp only [↓nrmL, nrmZ, Nat.reduceEqDiff, ↓reduceIte, Nat.reduceAdd, Int.reduceBEq, Int.reduceBNe, wy1, hc, hl2]; rfl) ?_
  refine mB rfl ?_
  refine Fo.yes rfl rfl ?_
  refine Fo.mov (by simp only [↓nrmL, nrmK, Nat.reduceEqDiff, ↓reduceIte]; rfl) ?_
  refine Fo.yes rfl rfl ?_
  refine Fo.len (v := ?_) (by simp only [↓nrmL, nrmK, Nat.reduceEqDiff, ↓reduceIte]; rfl) ?hv ?_; case hv => rfl
  refine Fo.yes rfl rfl ?_
  refine Fo.bin rfl rfl rfl (by simp only [↓nrmL, nrmZ, Nat.reduceEqDiff, ↓reduceIte, Nat.reduceAdd, Int.reduceBEq, Int.reduceBNe, wy1, hc, hl2]; rfl) ?_
  refine fB rfl rfl ?_
  refine WpO.nil (hKF _ _ ?_)
  refine Wp.cond (b := true) rfl ?_
  refine sq ?_
  refine rg fun KF hKF => ?_
  refine mB rfl ?_
  refine WpO.nil (hKF _ _ ?_)
  refine Wp.ret ?_
  dsimp only [cond_true, cond_false]
  refine ⟨trivial, _, (by first | rfl | exact getAllC rfl rfl rfl rfl | exact getAllT rfl (getAllC rfl rfl rfl rfl) | exact getAllC rfl rfl rfl (getAllC rfl rfl rfl rfl) | exact getAllC1 rfl rfl rfl), ?_⟩
  exact ⟨by rw [hgR, hb2]; rfl, Ext0.ext⟩
 have hP2 : 2 ≤ P.length := by have := of_decide_eq_false hl2; omega
 rw [Nat.ble_eq_true_of_le hP2, Bool.true_and] at hgR
 have hrl : (List.replicate P.length false).length = P.length := by simp
 try simp only [↓nrmL, nrmZ, Nat.reduceEqDiff, ↓reduceIte, Nat.reduceAdd, Int.reduceBEq, Int.reduceBNe, wy1, hc, hl2]
 refine sq ?_
 refine sq ?_
 refine rg fun KF hKF => ?_
 refine mI rfl ?_
 refine mI rfl ?_
 refine Fo.bin rfl rfl rfl (by simp only [↓nrmL, nrmZ, Nat.reduceEqDiff, ↓reduceIte, Nat.reduceAdd, Int.reduceBEq, Int.reduceBNe, wy1, hc, hl2]; rfl) ?_
 refine Fo.bin rfl rfl rfl (by simp only [↓nrmL, nrmZ, Nat.reduceEqDiff, ↓reduceIte, Nat.reduceAdd, Int.reduceBEq, Int.reduceBNe, wy1, hc, hl2]; rfl) ?_
 refine WpO.nil (hKF _ _ ?_)
 refine Wp.cond (b := false) rfl ?_
 refine Wp.exit ?_
 refine sq ?_
 refine sq ?_
 refine rg fun KF hKF => ?_
 refine mB rfl ?_
 refine Fo.now rfl rfl (by simp only [↓nrmL, nrmZ, Nat.reduceEqDiff, ↓reduceIte, Nat.reduceAdd, Int.reduceBEq, Int.reduceBNe, wy1, hc, hl2]; rfl) ?_
 refine mB rfl ?_
 refine Fo.yes rfl rfl ?_
 refine Fo.mov (by simp only [↓nrmL, nrmK, Nat.reduceEqDiff, ↓reduceIte]; rfl) ?_
 refine Fo.yes rfl rfl ?_
 refine Fo.len (v := ?_) (by simp only [↓nrmL, nrmK, Nat.reduceEqDiff, ↓reduceIte]; rfl) ?hv ?_; case hv => rfl
 refine Fo.yes rfl rfl ?_
 refine Fo.bin rfl rfl rfl (by simp only [↓nrmL, nrmZ, Nat.reduceEqDiff, ↓reduceIte, Nat.reduceAdd, Int.reduceBEq, Int.reduceBNe, wy1, hc, hl2]; rfl) ?_
 refine fB rfl rfl ?_
 refine WpO.nil (hKF _ _ ?_)
 refine Wp.cond (b := false) rfl ?_
 refine Wp.skip ?_
 refine sq ?_
 refine rg fun KF hKF => ?_
 refine Fo.mov (by simp only [↓nrmL, nrmK, Nat.reduceEqDiff, ↓reduceIte]; rfl) ?_
 refine Fo.len (v := ?_) (by simp only [↓nrmL, nrmK, Nat.reduceEqDiff, ↓reduceIte]; rfl) ?hv ?_; case hv => rfl
 refine WpO.do (WpX.mkO (n := P.length) rfl rfl rfl (by omega) fun mt H5 k1 k2 k3 k4 => ?_)
 haveI := k1.one
 refine Fo.mov (by simp only [↓nrmL, nrmK, Nat.reduceEqDiff, ↓reduceIte]; rfl) ?_
 refine WpO.nil (hKF _ _ ?_)
 refine sq ?_
 refine rg fun KF hKF => ?_
 refine Fo.mov (by simp only [↓nrmL, nrmK, Nat.reduceEqDiff, ↓reduceIte]; rfl) ?_
 refine Fo.idx (by simp only [↓nrmL, nrmK, Nat.reduceEqDiff, ↓reduceIte]; rfl) rfl ?_ (by simp only [↓nrmL, nrmZ, Nat.reduceEqDiff, ↓reduceIte, Nat.reduceAdd, Int.reduceBEq, Int.reduceBNe]; rfl) ?_; (focus omega)
 refine WpO.do' (WpX.stO (p := mt) (j := 0) (l := List.replicate P.length false) (b := true) rfl rfl (by omega) fun H6 k5 k6 k7 => ?_)
 refine WpO.nil (hKF _ _ ?_)
 refine sq ?_
 refine sq ?_
 refine rg fun KF hKF => ?_
 refine mI rfl ?_
 refine WpO.nil (hKF _ _ ?_)
 refine Wp.block ?_
 dsimp only [cond_true, cond_false]
 refine Wp.loopS [12, 13, 14, 70, 71, 72, 73, 74, 75, 76, 77, 78, 79, 80, 81, 82, 83, 84, 85, 86, 87, 88, 89, 90, 91, 92, 93, 94, 95, 96, 97, 98, 99, 100, 101, 102, 103, 104, 105] (fun nn : Nat => [(12, .int .i64 (nn : Int))]) (fun _ nn H7 => nn ≤ P.length ∧ BoolsI H7 mt (metN P nn) ∧ WrS H7 mt ∧ Ext H2 H7) (fun nn => P.length - nn) 0 rfl (fun _ => rfl) ⟨rfl, trivial⟩ ⟨Nat.zero_le _, k5, k6, Ext0.ext⟩ (by unfold fuel0 at hn; omega) ?_
 rintro nn g3 H7 ⟨hnn, b7, w7, x7⟩
 haveI : ExtI H2 H7 := ⟨x7⟩
 simp only [↓nrmL, nrmZ, Nat.reduceEqDiff, ↓reduceIte, Nat.reduceAdd, Int.reduceBEq, Int.reduceBNe]
 cases hc3 : decide ((nn : Int) < ((P.length : Nat) : Int))
 rotate_left
 ·have hn3 : nn < P.length := by have := of_decide_eq_true hc3; omega
  have wn := wa1 (a := nn) (by omega)
  try simp only [↓nrmL, nrmZ, Nat.reduceEqDiff, ↓reduceIte, Nat.reduceAdd, Int.reduceBEq, Int.reduceBNe, hc3]
  refine sq ?_
  refine sq ?_
  refine rg fun KF hKF => ?_
  refine mI rfl ?_
  refine Fo.mov (by simp only [↓nrmL, nrmK, Nat.reduceEqDiff, ↓reduceIte]; rfl) ?_
  refine Fo.len (v := ?_) (by simp only [↓nrmL, nrmK, Nat.reduceEqDiff, ↓reduceIte]; rfl) ?hv ?_; case hv => rfl
  refine Fo.bin rfl rfl rfl (by simp only [↓nrmL, nrmZ, Nat.reduceEqDiff, ↓reduceIte, Nat.reduceAdd, Int.reduceBEq, Int.reduceBNe, hc3]; rfl) ?_
  refine WpO.nil (hKF _ _ ?_)
  refine Wp.cond (b := true) rfl ?_
  refine Wp.skip ?_
  refine sq ?_
  refine Wp.block ?_
  refine sq ?_
  refine rg fun KF hKF => ?_
  refine mI rfl ?_
  refine WpO.nil (hKF _ _ ?_)
  refine Wp.block ?_
  dsimp only [cond_true, cond_false]
  refine Wp.loopS [13, 14, 76, 77, 78, 79, 80, 81, 82, 83, 84, 85, 86, 87, 88, 89, 90, 91, 92, 93, 94, 95, 96, 97, 98, 99, 100, 101, 102, 103, 104, 105] (fun i : Nat => [(13, .int .i64 (i : Int))]) (fun _ i H8 => i ≤ P.length ∧ BoolsI H8 mt (metI P i (metN P nn)) ∧ WrS H8 mt ∧ Ext H2 H8) (fun i => P.length - i) 0 rfl (fun _ => rfl) ⟨rfl, trivial⟩ ⟨Nat.zero_le _, b7, w7, x7⟩ (by unfold fuel0 at hn; omega) ?_
  rintro i g4 H8 ⟨hii, b8, w8, x8⟩
  haveI : ExtI H2 H8 := ⟨x8⟩
  simp only [↓nrmL, nrmZ, Nat.reduceEqDiff, ↓reduceIte, Nat.reduceAdd, Int.reduceBEq, Int.reduceBNe]
  cases hc4 : decide ((i : Int) < ((P.length : Nat) : Int))
  ·have hie : i = P.length := by have := of_decide_eq_false hc4; omega
   subst hie
   try simp only [↓nrmL, nrmZ, Nat.reduceEqDiff, ↓reduceIte, Nat.reduceAdd, Int.reduceBEq, Int.reduceBNe, hc4]
   refine sq ?_
   refine sq ?_
   refine rg fun KF hKF => ?_
   refine mI rfl ?_
   refine Fo.mov (by simp only [↓nrmL, nrmK, Nat.reduceEqDiff, ↓reduceIte]; rfl) ?_
   refine Fo.len (v := ?_) (by simp only [↓nrmL, nrmK, Nat.reduceEqDiff, ↓reduceIte]; rfl) ?hv ?_; case hv => rfl
   refine Fo.bin rfl rfl rfl (by simp only [↓nrmL, nrmZ, Nat.reduceEqDiff, ↓reduceIte, Nat.reduceAdd, Int.reduceBEq, Int.reduceBNe, hc4]; rfl) ?_
   refine WpO.nil (hKF _ _ ?_)
   refine Wp.cond (b := false) rfl ?_
   refine Wp.exit ?_
   refine rg fun KF hKF => ?_
   refine mI rfl ?_
   refine Fo.bin rfl rfl rfl rfl ?_
   refine mI rfl ?_
   refine WpO.nil (hKF _ _ ?_)
   dsimp only [cond_true, cond_false]
   refine ⟨nn + 1, by omega, ⟨by simp only [↓nrmL, nrmZ, Nat.reduceEqDiff, ↓reduceIte, Nat.reduceAdd, Int.reduceBEq, Int.reduceBNe]; rw [wn], trivial⟩, by omega, b8, w8, x8⟩
  have hi4 : i < P.length := by have := of_decide_eq_true hc4; omega
  have wi := wa1 (a := i) (by omega)
  try simp only [↓nrmL, nrmZ, Nat.reduceEqDiff, ↓reduceIte, Nat.reduceAdd, Int.reduceBEq, Int.reduceBNe, hc4]
  refine sq ?_
  refine sq ?_
  refine rg fun KF hKF => ?_
  refine mI rfl ?_
  refine Fo.mov (by simp only [↓nrmL, nrmK, Nat.reduceEqDiff, ↓reduceIte]; rfl) ?_
  refine Fo.len (v := ?_) (by simp only [↓nrmL, nrmK, Nat.reduceEqDiff, ↓reduceIte]; rfl) ?hv ?_; case hv => rfl
  refine Fo.bin rfl rfl rfl (by simp only [↓nrmL, nrmZ, Nat.reduceEqDiff, ↓reduceIte, Nat.reduceAdd, Int.reduceBEq, Int.reduceBNe, hc4]; rfl) ?_
  refine WpO.nil (hKF _ _ ?_)
  refine Wp.cond (b := true) rfl ?_
  refine Wp.skip ?_
  refine sq ?_
  refine Wp.block ?_
  refine sq ?_
  refine rg fun KF hKF => ?_
  refine mI rfl ?_
  refine WpO.nil (hKF _ _ ?_)
  refine Wp.block ?_
  dsimp only [cond_true, cond_false]
  refine Wp.loopS [14, 82, 83, 84, 85, 86, 87, 88, 89, 90, 91, 92, 93, 94, 95, 96, 97, 98, 99, 100, 101, 102, 103, 104, 105] (fun k : Nat => [(14, .int .i64 (k : Int))]) (fun _ k H9 => k ≤ P.length ∧ BoolsI H9 mt (metK P i k (metI P i (metN P nn))) ∧ WrS H9 mt ∧ Ext H2 H9) (fun k => P.length - k) 0 rfl (fun _ => rfl) ⟨rfl, trivial⟩ ⟨Nat.zero_le _, b8, w8, x8⟩ (by unfold fuel0 at hn; omega) ?_
  rintro k g5 H9 ⟨hkk, b9, w9, x9⟩
  haveI : ExtI H2 H9 := ⟨x9⟩
  simp only [↓nrmL, nrmZ, Nat.reduceEqDiff, ↓reduceIte, Nat.reduceAdd, Int.reduceBEq, Int.reduceBNe]
  cases hc5 : decide ((k : Int) < ((P.length : Nat) : Int))
  ·have hke : k = P.length := by have := of_decide_eq_false hc5; omega
   subst hke
   try simp only [↓nrmL, nrmZ, Nat.reduceEqDiff, ↓reduceIte, Nat.reduceAdd, Int.reduceBEq, Int.reduceBNe, hc5]
   refine sq ?_
   refine sq ?_
   refine rg fun KF hKF => ?_
   refine mI rfl ?_
   refine Fo.mov (by simp only [↓nrmL, nrmK, Nat.reduceEqDiff, ↓reduceIte]; rfl) ?_
   refine Fo.len (v := ?_) (by simp only [↓nrmL, nrmK, Nat.reduceEqDiff, ↓reduceIte]; rfl) ?hv ?_; case hv => rfl
   refine Fo.bin rfl rfl rfl (by simp only [↓nrmL, nrmZ, Nat.reduceEqDiff, ↓reduceIte, Nat.reduceAdd, Int.reduceBEq, Int.reduceBNe, hc5]; rfl) ?_
   refine WpO.nil (hKF _ _ ?_)
   refine Wp.cond (b := false) rfl ?_
   refine Wp.exit ?_
   refine rg fun KF hKF => ?_
   refine mI rfl ?_
   refine Fo.bin rfl rfl rfl rfl ?_
   refine mI rfl ?_
   refine WpO.nil (hKF _ _ ?_)
   dsimp only [cond_true, cond_false]
   refine ⟨i + 1, by omega, ⟨by simp only [↓nrmL, nrmZ, Nat.reduceEqDiff, ↓reduceIte, Nat.reduceAdd, Int.reduceBEq, Int.reduceBNe]; rw [wi], trivial⟩, by omega, b9, w9, x9⟩
  have hk5 : k < P.length := by have := of_decide_eq_true hc5; omega
  have wk := wa1 (a := k) (by omega)
  have hml : (metK P i k (metI P i (metN P nn))).length = P.length := by rw [metK_length, metI_length, metN_length]
  have hnear := nearB_pt hx hy (hpos0 i hi4) (hpos0 k hk5)
  have hcp := cellsP_length (x : Int) (y : Int) P
  try simp only [↓nrmL, nrmZ, Nat.reduceEqDiff, ↓reduceIte, Nat.reduceAdd, Int.reduceBEq, Int.reduceBNe, hc5]
  refine sq ?_
  refine sq ?_
  refine rg fun KF hKF => ?_
  refine mI rfl ?_
  refine Fo.mov (by simp only [↓nrmL, nrmK, Nat.reduceEqDiff, ↓reduceIte]; rfl) ?_
  refine Fo.len (v := ?_) (by simp only [↓nrmL, nrmK, Nat.reduceEqDiff, ↓reduceIte]; rfl) ?hv ?_; case hv => rfl
  refine Fo.bin rfl rfl rfl (by simp only [↓nrmL, nrmZ, Nat.reduceEqDiff, ↓reduceIte, Nat.reduceAdd, Int.reduceBEq, Int.reduceBNe, hc5]; rfl) ?_
  refine WpO.nil (hKF _ _ ?_)
  refine Wp.cond (b := true) rfl ?_
  refine Wp.skip ?_
  refine sq ?_
  refine Wp.block ?_
  refine sq ?_
  dsimp only [cond_true, cond_false]
  refine Fr.dregion0 rfl fun KF hKF => ?_
  refine Fe.pure rfl rfl (by simp only [↓nrmL, nrmZ, Nat.reduceEqDiff, ↓reduceIte, Nat.reduceAdd, Int.reduceBEq, Int.reduceBNe]; rfl) ?_
  refine Fe.pure rfl rfl (by simp only [↓nrmL, nrmZ, Nat.reduceEqDiff, ↓reduceIte, Nat.reduceAdd, Int.reduceBEq, Int.reduceBNe]; rfl) ?_
  refine Fe.pure rfl (exec_idxP (by (try simp only [↓nrmL, nrmZ, Nat.reduceEqDiff, ↓reduceIte, Nat.reduceAdd, Int.reduceBEq, Int.reduceBNe]); rfl) rfl ?_) (by simp only [↓nrmL, nrmZ, Nat.reduceEqDiff, ↓reduceIte, Nat.reduceAdd, Int.reduceBEq, Int.reduceBNe]; rfl) ?_; (focus omega)
  refine Fe.read rfl (exec_ldP (p := mt) (j := i) rfl (get_bools (by omega))) rfl trivial ?_
  refine Fe.pure rfl rfl (by simp only [↓nrmL, nrmZ, Nat.reduceEqDiff, ↓reduceIte, Nat.reduceAdd, Int.reduceBEq, Int.reduceBNe]; rfl) ?_
  cases hmi : (metK P i k (metI P i (metN P nn))).getD i false
  ·have hstep : metK P i (k + 1) (metI P i (metN P nn)) = metK P i k (metI P i (metN P nn)) := by
    simp only [metK, hmi, Bool.false_and, Bool.false_eq_true, if_false]
   refine Fe.skip rfl ?_
   refine Fe.skip rfl ?_
   refine Fe.skip rfl ?_
   refine Fe.skip rfl ?_
   refine Fe.skip rfl ?_
   refine Fe.skip rfl ?_
   refine Fe.skip rfl ?_
   refine Fe.skip rfl ?_
   refine Fe.skip rfl ?_
   refine Fe.pure rfl rfl (by simp only [↓nrmL, nrmZ, Nat.reduceEqDiff, ↓reduceIte, Nat.reduceAdd, Int.reduceBEq, Int.reduceBNe]; rfl) ?_
   refine WpE.nil (hKF _ _ ?_)
   refine Wp.cond (b := false) rfl ?_
   refine Wp.skip ?_
   refine rg fun KF hKF => ?_
   refine mI rfl ?_
   refine Fo.bin rfl rfl rfl rfl ?_
   refine mI rfl ?_
   refine WpO.nil (hKF _ _ ?_)
   dsimp only [cond_true, cond_false]
   refine ⟨k + 1, by omega, ⟨by simp only [↓nrmL, nrmZ, Nat.reduceEqDiff, ↓reduceIte, Nat.reduceAdd, Int.reduceBEq, Int.reduceBNe]; rw [wk], trivial⟩, by omega, by rw [hstep]; exact b9, w9, x9⟩
  refine Fe.pure rfl rfl (by simp only [↓nrmL, nrmZ, Nat.reduceEqDiff, ↓reduceIte, Nat.reduceAdd, Int.reduceBEq, Int.reduceBNe]; rfl) ?_
  refine Fe.pure rfl rfl (by simp only [↓nrmL, nrmZ, Nat.reduceEqDiff, ↓reduceIte, Nat.reduceAdd, Int.reduceBEq, Int.reduceBNe]; rfl) ?_
  refine Fe.pure rfl (exec_idxP (by (try simp only [↓nrmL, nrmZ, Nat.reduceEqDiff, ↓reduceIte, Nat.reduceAdd, Int.reduceBEq, Int.reduceBNe]); rfl) rfl ?_) (by simp only [↓nrmL, nrmZ, Nat.reduceEqDiff, ↓reduceIte, Nat.reduceAdd, Int.reduceBEq, Int.reduceBNe]; rfl) ?_; (focus omega)
  refine Fe.read rfl (exec_ldNP (p := w) (j := i * 2) (m := 2) rfl (by decide) (by omega) (cellsP_get hi4)) rfl trivial ?_
  refine Fe.pure rfl rfl (by simp only [↓nrmL, nrmZ, Nat.reduceEqDiff, ↓reduceIte, Nat.reduceAdd, Int.reduceBEq, Int.reduceBNe]; rfl) ?_
  refine Fe.pure rfl rfl (by simp only [↓nrmL, nrmZ, Nat.reduceEqDiff, ↓reduceIte, Nat.reduceAdd, Int.reduceBEq, Int.reduceBNe]; rfl) ?_
  refine Fe.pure rfl (exec_idxP (by (try simp only [↓nrmL, nrmZ, Nat.reduceEqDiff, ↓reduceIte, Nat.reduceAdd, Int.reduceBEq, Int.reduceBNe]); rfl) rfl ?_) (by simp only [↓nrmL, nrmZ, Nat.reduceEqDiff, ↓reduceIte, Nat.reduceAdd, Int.reduceBEq, Int.reduceBNe]; rfl) ?_; (focus omega)
  refine Fe.read rfl (exec_ldNP (p := w) (j := k * 2) (m := 2) rfl (by decide) (by omega) (cellsP_get hk5)) rfl trivial ?_
  try simp only [↓nrmL, nrmZ, Nat.reduceEqDiff, ↓reduceIte, Nat.reduceAdd, Int.reduceBEq, Int.reduceBNe, hnear]
  refine Fe.pcall (v' := ?_) rfl hn rfl (by simp only [↓nrmL, nrmZ, Nat.reduceEqDiff, ↓reduceIte, Nat.reduceAdd, Int.reduceBEq, Int.reduceBNe, hnear, List.map]; rfl) rfl ?hv fun _ _ => ⟨(by repeat (first | exact trivial | refine ⟨(by first | exact Or.inl (by dsimp only; decide) | exact Or.inr (readOk_of (exec_ld rfl rfl)) | exact Or.inr (readOk_of (exec_ldN rfl rfl rfl)) | exact Or.inr (readOk_of (exec_ldB rfl (by omega))) | exact Or.inr (readOk_of (exec_ldI rfl (by omega))) | exact Or.inr (made_of rfl)), ?_⟩)), ?_⟩; case hv => (simp only [↓nrmL, nrmZ, Nat.reduceEqDiff, ↓reduceIte, Nat.reduceAdd, Int.reduceBEq, Int.reduceBNe, hnear]; rfl)
  refine Fe.pure rfl rfl (by simp only [↓nrmL, nrmZ, Nat.reduceEqDiff, ↓reduceIte, Nat.reduceAdd, Int.reduceBEq, Int.reduceBNe, hnear]; rfl) ?_
  refine WpE.nil (hKF _ _ ?_)
  dsimp only [cond_true, cond_false]
  cases hnb : nearS (P.getD i 0) (P.getD k 0)
  ·have hstep : metK P i (k + 1) (metI P i (metN P nn)) = metK P i k (metI P i (metN P nn)) := by
    simp only [metK, hmi, hnb, Bool.and_false, Bool.false_eq_true, if_false]
   refine Wp.cond (b := false) rfl ?_
   refine Wp.skip ?_
   refine rg fun KF hKF => ?_
   refine mI rfl ?_
   refine Fo.bin rfl rfl rfl rfl ?_
   refine mI rfl ?_
   refine WpO.nil (hKF _ _ ?_)
   dsimp only [cond_true, cond_false]
   refine ⟨k + 1, by omega, ⟨by simp only [↓nrmL, nrmZ, Nat.reduceEqDiff, ↓reduceIte, Nat.reduceAdd, Int.reduceBEq, Int.reduceBNe]; rw [wk], trivial⟩, by omega, by rw [hstep]; infer_instance, inferInstance, Ext0.ext⟩
  ·have hstep : metK P i (k + 1) (metI P i (metN P nn)) = (metK P i k (metI P i (metN P nn))).set k true := by
    simp only [metK, hmi, hnb, Bool.and_true, if_true]
   refine Wp.cond (b := true) rfl ?_
   refine rg fun KF hKF => ?_
   refine Fo.mov (by simp only [↓nrmL, nrmK, Nat.reduceEqDiff, ↓reduceIte]; rfl) ?_
   refine mI rfl ?_
   refine Fo.idx (by simp only [↓nrmL, nrmK, Nat.reduceEqDiff, ↓reduceIte]; rfl) rfl ?_ (by simp only [↓nrmL, nrmZ, Nat.reduceEqDiff, ↓reduceIte, Nat.reduceAdd, Int.reduceBEq, Int.reduceBNe]; rfl) ?_; (focus omega)
   refine WpO.do' (WpX.stO (p := mt) (j := k) (l := metK P i k (metI P i (metN P nn))) (b := true) rfl rfl (by omega) fun Ha ba wa' xa => ?_)
   refine WpO.nil (hKF _ _ ?_)
   refine rg fun KF hKF => ?_
   refine mI rfl ?_
   refine Fo.bin rfl rfl rfl rfl ?_
   refine mI rfl ?_
   refine WpO.nil (hKF _ _ ?_)
   dsimp only [cond_true, cond_false]
   refine ⟨k + 1, by omega, ⟨by simp only [↓nrmL, nrmZ, Nat.reduceEqDiff, ↓reduceIte, Nat.reduceAdd, Int.reduceBEq, Int.reduceBNe]; rw [wk], trivial⟩, by omega, by rw [hstep]; exact ba, wa', Ext0.ext⟩
 have hne : nn = P.length := by have := of_decide_eq_false hc3; omega
 subst hne
 have hmn := metN_length P P.length
 try simp only [↓nrmL, nrmZ, Nat.reduceEqDiff, ↓reduceIte, Nat.reduceAdd, Int.reduceBEq, Int.reduceBNe, hc3]
 refine sq ?_
 refine sq ?_
 refine rg fun KF hKF => ?_
 refine mI rfl ?_
 refine Fo.mov (by simp only [↓nrmL, nrmK, Nat.reduceEqDiff, ↓reduceIte]; rfl) ?_
 refine Fo.len (v := ?_) (by simp only [↓nrmL, nrmK, Nat.reduceEqDiff, ↓reduceIte]; rfl) ?hv ?_; case hv => rfl
 refine Fo.bin rfl rfl rfl (by simp only [↓nrmL, nrmZ, Nat.reduceEqDiff, ↓reduceIte, Nat.reduceAdd, Int.reduceBEq, Int.reduceBNe, hc3]; rfl) ?_
 refine WpO.nil (hKF _ _ ?_)
 refine Wp.cond (b := false) rfl ?_
 refine Wp.exit ?_
 refine sq ?_
 refine sq ?_
 refine rg fun KF hKF => ?_
 refine mI rfl ?_
 refine WpO.nil (hKF _ _ ?_)
 refine Wp.block ?_
 dsimp only [cond_true, cond_false]
 refine Wp.loopS [6, 15, 106, 107, 108, 109, 110, 111, 112, 113, 114, 115, 116] (fun i : Nat => [(15, .int .i64 (i : Int))]) (fun _ i H8 => i ≤ P.length ∧ (∀ j < i, (metN P P.length).getD j false = true) ∧ BoolsI H8 mt (metN P P.length) ∧ Ext H2 H8) (fun i => P.length - i) 0 rfl (fun _ => rfl) ⟨rfl, trivial⟩ ⟨Nat.zero_le _, fun j hj => by omega, b7, x7⟩ (by unfold fuel0 at hn; omega) ?_
 rintro i g6 H8 ⟨hii, hall, b8, x8⟩
 haveI : ExtI H2 H8 := ⟨x8⟩
 simp only [↓nrmL, nrmZ, Nat.reduceEqDiff, ↓reduceIte, Nat.reduceAdd, Int.reduceBEq, Int.reduceBNe]
 cases hc6 : decide ((i : Int) < ((P.length : Nat) : Int))
 ·have hie : i = P.length := by have := of_decide_eq_false hc6; omega
  subst hie
  have hyes : (metN P P.length).all id = true := by
   rw [List.all_eq_true]
   intro c hcm
   obtain ⟨j, hj, rfl⟩ := List.getElem_of_mem hcm
   have := hall j (by omega)
   simpa [hj] using this
  try simp only [↓nrmL, nrmZ, Nat.reduceEqDiff, ↓reduceIte, Nat.reduceAdd, Int.reduceBEq, Int.reduceBNe, hc6]
  refine sq ?_
  refine sq ?_
  refine rg fun KF hKF => ?_
  refine mI rfl ?_
  refine Fo.mov (by simp only [↓nrmL, nrmK, Nat.reduceEqDiff, ↓reduceIte]; rfl) ?_
  refine Fo.len (v := ?_) (by simp only [↓nrmL, nrmK, Nat.reduceEqDiff, ↓reduceIte]; rfl) ?hv ?_; case hv => rfl
  refine Fo.bin rfl rfl rfl (by simp only [↓nrmL, nrmZ, Nat.reduceEqDiff, ↓reduceIte, Nat.reduceAdd, Int.reduceBEq, Int.reduceBNe, hc6]; rfl) ?_
  refine WpO.nil (hKF _ _ ?_)
  refine Wp.cond (b := false) rfl ?_
  refine Wp.exit ?_
  refine sq ?_
  refine rg fun KF hKF => ?_
  refine mB rfl ?_
  refine WpO.nil (hKF _ _ ?_)
  refine Wp.ret ?_
  dsimp only [cond_true, cond_false]
  refine ⟨trivial, _, (by first | rfl | exact getAllC rfl rfl rfl rfl | exact getAllT rfl (getAllC rfl rfl rfl rfl) | exact getAllC rfl rfl rfl (getAllC rfl rfl rfl rfl) | exact getAllC1 rfl rfl rfl), ?_⟩
  exact ⟨by rw [hgR, hyes]; rfl, Ext0.ext⟩
 have hi6 : i < P.length := by have := of_decide_eq_true hc6; omega
 have wi := wa1 (a := i) (by omega)
 try simp only [↓nrmL, nrmZ, Nat.reduceEqDiff, ↓reduceIte, Nat.reduceAdd, Int.reduceBEq, Int.reduceBNe, hc6]
 refine sq ?_
 refine sq ?_
 refine rg fun KF hKF => ?_
 refine mI rfl ?_
 refine Fo.mov (by simp only [↓nrmL, nrmK, Nat.reduceEqDiff, ↓reduceIte]; rfl) ?_
 refine Fo.len (v := ?_) (by simp only [↓nrmL, nrmK, Nat.reduceEqDiff, ↓reduceIte]; rfl) ?hv ?_; case hv => rfl
 refine Fo.bin rfl rfl rfl (by simp only [↓nrmL, nrmZ, Nat.reduceEqDiff, ↓reduceIte, Nat.reduceAdd, Int.reduceBEq, Int.reduceBNe, hc6]; rfl) ?_
 refine WpO.nil (hKF _ _ ?_)
 refine Wp.cond (b := true) rfl ?_
 refine Wp.skip ?_
 refine sq ?_
 refine Wp.block ?_
 refine sq ?_
 refine rg fun KF hKF => ?_
 refine Fo.mov (by simp only [↓nrmL, nrmK, Nat.reduceEqDiff, ↓reduceIte]; rfl) ?_
 refine mI rfl ?_
 refine Fo.idx (by simp only [↓nrmL, nrmK, Nat.reduceEqDiff, ↓reduceIte]; rfl) rfl ?_ (by simp only [↓nrmL, nrmZ, Nat.reduceEqDiff, ↓reduceIte, Nat.reduceAdd, Int.reduceBEq, Int.reduceBNe, hc6]; rfl) ?_; (focus omega)
 refine WpO.do (WpX.ldP (p := mt) (j := i) rfl (get_bools (by omega)) ?_)
 cases hmi : (metN P P.length).getD i false
 ·have hno : (metN P P.length).all id = false := by
   rw [List.all_eq_false]
   refine ⟨(metN P P.length)[i]'(by omega), List.getElem_mem _, ?_⟩
   have e : (metN P P.length).getD i false = (metN P P.length)[i]'(by omega) := by
    have : i < (metN P P.length).length := by omega
    simp [this]
   rw [← e, hmi]; decide
  refine Fo.now rfl rfl (by simp only [↓nrmL, nrmZ, Nat.reduceEqDiff, ↓reduceIte, Nat.reduceAdd, Int.reduceBEq, Int.reduceBNe]; rfl) ?_
  refine WpO.nil (hKF _ _ ?_)
  refine Wp.cond (b := true) rfl ?_
  refine sq ?_
  refine rg fun KF hKF => ?_
  refine mB rfl ?_
  refine WpO.nil (hKF _ _ ?_)
  refine Wp.ret ?_
  dsimp only [cond_true, cond_false]
  refine ⟨trivial, _, (by first | rfl | exact getAllC rfl rfl rfl rfl | exact getAllT rfl (getAllC rfl rfl rfl rfl) | exact getAllC rfl rfl rfl (getAllC rfl rfl rfl rfl) | exact getAllC1 rfl rfl rfl), ?_⟩
  exact ⟨by rw [hgR, hno]; rfl, Ext0.ext⟩
 ·skip
  refine Fo.now rfl rfl (by simp only [↓nrmL, nrmZ, Nat.reduceEqDiff, ↓reduceIte, Nat.reduceAdd, Int.reduceBEq, Int.reduceBNe]; rfl) ?_
  refine WpO.nil (hKF _ _ ?_)
  refine Wp.cond (b := false) rfl ?_
  refine Wp.skip ?_
  refine rg fun KF hKF => ?_
  refine mI rfl ?_
  refine Fo.bin rfl rfl rfl rfl ?_
  refine mI rfl ?_
  refine WpO.nil (hKF _ _ ?_)
  dsimp only [cond_true, cond_false]
  refine ⟨i + 1, by omega, ⟨by simp only [↓nrmL, nrmZ, Nat.reduceEqDiff, ↓reduceIte, Nat.reduceAdd, Int.reduceBEq, Int.reduceBNe]; rw [wi], trivial⟩, by omega, fun j hj => ?_, inferInstance, Ext0.ext⟩
  by_cases e : j = i
  ·rw [e]; exact hmi
  ·exact hall j (by omega)
end Go.Am

set_option maxHeartbeats 4000000
set_option maxRecDepth 100000
namespace Go.Am
open Go
attribute [local irreducible] Wp WpO WpX WpE

/-- The package-level table. -/
abbrev aroundCs : List AVal := [.int .i64 0, .int .i64 (-1), .int .i64 1, .int .i64 (-1), .int .i64 1, .int .i64 0, .int .i64 1, .int .i64 1, .int .i64 0, .int .i64 1, .int .i64 (-1), .int .i64 1, .int .i64 (-1), .int .i64 0, .int .i64 (-1), .int .i64 (-1)]
/-- It is there. -/
class Tabs (H : AHeap) : Prop where
 it : tablesIn aroundT H = true
theorem tabs_iff {H : AHeap} : tablesIn aroundT H = true ↔ 0 < H.n ∧ ∃ rw e, H.get 0 = .row aroundCs rw e := by
 simp only [tablesIn, aroundT, List.all_cons, List.all_nil, Bool.and_true, Bool.and_eq_true]
 constructor
 ·rintro ⟨h1, h2⟩
  refine ⟨by simpa using h1, ?_⟩
  cases hg : H.get 0 with
  | row cs rw e => rw [hg] at h2; exact ⟨rw, e, by rw [abeqL_eq h2]⟩
  | _ => rw [hg] at h2; cases h2
 ·rintro ⟨h1, rw, e, hg⟩
  exact ⟨by simpa using h1, by rw [hg]; exact abeqL_refl _⟩
theorem Tabs.keep {H H' : AHeap} (h : Tabs H) (hn : H.n ≤ H'.n) (hg : H'.get 0 = H.get 0) : Tabs H' := by
 obtain ⟨h1, rw, e, h2⟩ := tabs_iff.1 h.it
 exact ⟨tabs_iff.2 ⟨by omega, rw, e, by rw [hg]; exact h2⟩⟩
theorem Tabs.lt {H : AHeap} (h : Tabs H) : 0 < H.n := (tabs_iff.1 h.it).1
theorem Tabs.ext {H H' : AHeap} (h : Tabs H) (x : Ext H H') : Tabs H' := h.keep x.n (x.get 0 h.lt)
class NeZ (s : Nat) : Prop where
 ne : s ≠ 0
instance {K : AHeap} [h : Tabs K] : NeZ K.n := ⟨by have := h.lt; omega⟩
instance {K : AHeap} {s : Nat} [g : GeN K s] [h : Tabs K] : NeZ s := ⟨by have := h.lt; have := g.ge; omega⟩
instance {H H' : AHeap} [x : ExtI H H'] [h : Tabs H] : Tabs H' := h.ext x.ext
instance {H : AHeap} {o : AObj} [h : Tabs H] : Tabs (H.push o) := h.ext ((Ext.refl H).push o)
instance {H : AHeap} {s : Nat} {o : AObj} [h : Tabs H] [z : NeZ s] : Tabs (H.set s o) := h.keep (Nat.le_refl _) (set_get_ne (fun e => z.ne e.symm))
instance {K H H' : AHeap} {p : AVal} [x : ExtP H H' p] [h : Tabs H] [f : FreshS K p] [k : Tabs K] : Tabs H' := h.keep x.n (x.get 0 h.lt ⟨fun r _ _ _ _ e => by have := f.ge _ _ _ _ _ e; have := k.lt; omega⟩)
theorem aClosed_nil {T : List (Nat × List AVal)} {v : AVal} {H : AHeap} (h : tablesIn T H = true) : aClosed T v [] H = some (v, H) := by
 show (match tablesIn T H with | true => some (v, H) | false => none) = some (v, H)
 rw [h]
instance K_awake {H : AHeap} [h : Tabs H] : PureCon ext prog 19 [] H 0 (.bool true) := ⟨fun n hn => by
 obtain ⟨k, rfl⟩ : ∃ k, n = k + 1 := ⟨n - 1, by unfold fuel0 at hn; omega⟩
 have e1 : prog 19 = some ⟨0, .ext 3, []⟩ := rfl
 refine ⟨.bool true, H, ?_, rfl, Ext.refl H⟩
 rw [call_ext e1]
 exact aClosed_nil h.it⟩

end Go.Am

set_option maxHeartbeats 8000000
set_option maxRecDepth 100000
set_option synthInstance.maxHeartbeats 4000000
set_option synthInstance.maxSize 100000
namespace Go.Am
open Go
attribute [local irreducible] Wp WpO WpX WpE

def of8 (b0 b1 b2 b3 b4 b5 b6 b7 : Bool) : Nat → Bool
 | 0 => b0 | 1 => b1 | 2 => b2 | 3 => b3 | 4 => b4 | 5 => b5 | 6 => b6 | _ => b7
def pcU (f : Nat → Bool) : Nat → Nat
 | 0 => 0
 | j + 1 => pcU f j + bN (!f (2 * j) && (f (2 * j + 1) || f ((2 * j + 2) % 8)))
theorem pcU_all (f : Nat → Bool) : pcU f 4 = pcN f := by
 show 0 + _ + _ + _ + _ = _
 rw [Nat.zero_add]; rfl
theorem bN_le (c : Bool) : bN c ≤ 1 := by cases c <;> decide
theorem pcU_le (f : Nat → Bool) : ∀ j, pcU f j ≤ j
 | 0 => Nat.le_refl _
 | j + 1 => by
  have := pcU_le f j
  have := bN_le (!f (2 * j) && (f (2 * j + 1) || f ((2 * j + 2) % 8)))
  simp only [pcU]; omega
instance K_pieces {b0 b1 b2 b3 b4 b5 b6 b7 : Bool} {H : AHeap} : PureCon ext prog 163 [.agg [.bool b0, .bool b1, .bool b2, .bool b3, .bool b4, .bool b5, .bool b6, .bool b7]] H 1 (.int .i64 ((pcN (of8 b0 b1 b2 b3 b4 b5 b6 b7) : Nat) : Int)) := ⟨by
 refine con_of (show prog 163 = some c163 from rfl) rfl rfl fun n hn => ?_
 have hle := pcU_le (of8 b0 b1 b2 b3 b4 b5 b6 b7)
 refine sq ?_
 refine rg fun KF hKF => ?_
 refine Fo.boxA rfl ?_
 refine mI rfl ?_
 refine WpO.nil (hKF _ _ ?_)
 refine sq ?_
 refine rg fun KF hKF => ?_
 refine mI rfl ?_
 refine WpO.nil (hKF _ _ ?_)
 refine sq ?_
 refine sq ?_
 refine rg fun KF hKF => ?_
 refine mI rfl ?_
 refine WpO.nil (hKF _ _ ?_)
 refine Wp.block ?_
 dsimp only [cond_true, cond_false]
 refine Wp.loopS [3, 4, 5, 6, 7, 8, 9, 10, 11, 12, 13, 14, 15, 16, 17, 18, 19, 20, 21, 22, 23, 24, 25, 26, 27] (fun j : Nat => [(3, .int .i64 ((pcU (of8 b0 b1 b2 b3 b4 b5 b6 b7) j : Nat) : Int)), (4, .int .i64 ((2 * j : Nat) : Int))]) (fun H3 j H2 => j ≤ 4 ∧ Ext H3 H2) (fun j => 4 - j) 0 rfl (fun _ => rfl) ⟨rfl, rfl, trivial⟩ ⟨Nat.zero_le _, Ext.refl _⟩ (by unfold fuel0 at hn; omega) ?_
 rintro j g H2 ⟨hj, hx2⟩
 haveI : ExtI _ H2 := ⟨hx2⟩
 simp only [↓nrmL, nrmZ, Nat.reduceEqDiff, ↓reduceIte, Nat.reduceAdd, Int.reduceBEq, Int.reduceBNe]
 have hlej := hle j
 obtain rfl | rfl | rfl | rfl | rfl : j = 0 ∨ j = 1 ∨ j = 2 ∨ j = 3 ∨ j = 4 := by omega
 ·have hc : decide (((2 * 0 : Nat) : Int) < 8) = true := rfl
  have i1 : IntKind.i64.wrap (((2 * 0 : Nat) : Int) + 1) = ((2 * 0 + 1 : Nat) : Int) := rfl
  have i2 : IntKind.i64.wrap (((2 * 0 : Nat) : Int) + 2) = ((2 * (0 + 1) : Nat) : Int) := rfl
  have i3 : (((2 * (0 + 1) : Nat) : Int)).tmod 8 = ((2 : Nat) : Int) := rfl
  try simp only [↓nrmL, nrmZ, Nat.reduceEqDiff, ↓reduceIte, Nat.reduceAdd, Int.reduceBEq, Int.reduceBNe, hc, i1, i2, i3]
  refine sq ?_
  refine sq ?_
  refine rg fun KF hKF => ?_
  refine mI rfl ?_
  refine Fo.bin rfl rfl rfl (by simp only [↓nrmL, nrmZ, Nat.reduceEqDiff, ↓reduceIte, Nat.reduceAdd, Int.reduceBEq, Int.reduceBNe, hc, i1, i2, i3]; rfl) ?_
  refine WpO.nil (hKF _ _ ?_)
  refine Wp.cond (b := true) rfl ?_
  refine Wp.skip ?_
  refine sq ?_
  refine Wp.block ?_
  refine sq ?_
  refine rg fun KF hKF => ?_
  refine mI rfl ?_
  refine Fo.now rfl rfl (by simp only [↓nrmL, nrmZ, Nat.reduceEqDiff, ↓reduceIte, Nat.reduceAdd, Int.reduceBEq, Int.reduceBNe, hc, i1, i2, i3]; rfl) ?_
  refine Fo.ld rfl rfl ?_
  refine Fo.now rfl rfl rfl ?_
  refine mB rfl ?_
  cases b0
  ·skip
   try simp only [↓nrmL, nrmZ, Nat.reduceEqDiff, ↓reduceIte, Nat.reduceAdd, Int.reduceBEq, Int.reduceBNe, hc, i1, i2, i3]
   refine Fo.yes rfl rfl ?_
   refine mI rfl ?_
   refine Fo.yes rfl rfl ?_
   refine Fo.bin rfl rfl rfl (by simp only [↓nrmL, nrmZ, Nat.reduceEqDiff, ↓reduceIte, Nat.reduceAdd, Int.reduceBEq, Int.reduceBNe, hc, i1, i2, i3]; rfl) ?_
   refine Fo.yes rfl rfl ?_
   refine Fo.now rfl rfl (by simp only [↓nrmL, nrmZ, Nat.reduceEqDiff, ↓reduceIte, Nat.reduceAdd, Int.reduceBEq, Int.reduceBNe, hc, i1, i2, i3]; rfl) ?_
   refine Fo.yes rfl rfl ?_
   refine Fo.ld rfl rfl ?_
   refine Fo.yes rfl rfl ?_
   refine mB rfl ?_
   cases b1
   ·skip
    try simp only [↓nrmL, nrmZ, Nat.reduceEqDiff, ↓reduceIte, Nat.reduceAdd, Int.reduceBEq, Int.reduceBNe, hc, i1, i2, i3]
    refine Fo.yes rfl rfl ?_
    refine mI rfl ?_
    refine Fo.yes rfl rfl ?_
    refine Fo.bin rfl rfl rfl (by simp only [↓nrmL, nrmZ, Nat.reduceEqDiff, ↓reduceIte, Nat.reduceAdd, Int.reduceBEq, Int.reduceBNe, hc, i1, i2, i3]; rfl) ?_
    refine Fo.yes rfl rfl ?_
    refine Fo.bin rfl rfl rfl (by simp only [↓nrmL, nrmZ, Nat.reduceEqDiff, ↓reduceIte, Nat.reduceAdd, Int.reduceBEq, Int.reduceBNe, hc, i1, i2, i3]; rfl) ?_
    refine Fo.yes rfl rfl ?_
    refine Fo.now rfl rfl (by simp only [↓nrmL, nrmZ, Nat.reduceEqDiff, ↓reduceIte, Nat.reduceAdd, Int.reduceBEq, Int.reduceBNe, hc, i1, i2, i3]; rfl) ?_
    refine Fo.yes rfl rfl ?_
    refine Fo.ld rfl rfl ?_
    refine Fo.yes rfl rfl ?_
    refine fB rfl rfl ?_
    refine tB rfl rfl ?_
    refine WpO.nil (hKF _ _ ?_)
    dsimp only [cond_true, cond_false]
    cases b2
    ·skip
     try simp only [↓nrmL, nrmZ, Nat.reduceEqDiff, ↓reduceIte, Nat.reduceAdd, Int.reduceBEq, Int.reduceBNe, hc, i1, i2, i3]
     refine Wp.cond (b := false) rfl ?_
     refine Wp.skip ?_
     refine rg fun KF hKF => ?_
     refine mI rfl ?_
     refine Fo.bin rfl rfl rfl (by simp only [↓nrmL, nrmZ, Nat.reduceEqDiff, ↓reduceIte, Nat.reduceAdd, Int.reduceBEq, Int.reduceBNe, hc, i1, i2, i3]; rfl) ?_
     refine mI rfl ?_
     refine WpO.nil (hKF _ _ ?_)
     dsimp only [cond_true, cond_false]
     refine ⟨0 + 1, by omega, ⟨rfl, rfl, trivial⟩, by omega, Ext0.ext⟩
    ·have k1 : IntKind.i64.wrap (((pcU (of8 false false true b3 b4 b5 b6 b7) 0 : Nat) : Int) + 1) = ((pcU (of8 false false true b3 b4 b5 b6 b7) (0 + 1) : Nat) : Int) := by rw [w64 (by omega)]; rfl
     try simp only [↓nrmL, nrmZ, Nat.reduceEqDiff, ↓reduceIte, Nat.reduceAdd, Int.reduceBEq, Int.reduceBNe, hc, i1, i2, i3, k1]
     refine Wp.cond (b := true) rfl ?_
     refine rg fun KF hKF => ?_
     refine mI rfl ?_
     refine Fo.bin rfl rfl rfl (by simp only [↓nrmL, nrmZ, Nat.reduceEqDiff, ↓reduceIte, Nat.reduceAdd, Int.reduceBEq, Int.reduceBNe, hc, i1, i2, i3, k1]; rfl) ?_
     refine mI rfl ?_
     refine WpO.nil (hKF _ _ ?_)
     refine rg fun KF hKF => ?_
     refine mI rfl ?_
     refine Fo.bin rfl rfl rfl (by simp only [↓nrmL, nrmZ, Nat.reduceEqDiff, ↓reduceIte, Nat.reduceAdd, Int.reduceBEq, Int.reduceBNe, hc, i1, i2, i3, k1]; rfl) ?_
     refine mI rfl ?_
     refine WpO.nil (hKF _ _ ?_)
     dsimp only [cond_true, cond_false]
     refine ⟨0 + 1, by omega, ⟨rfl, rfl, trivial⟩, by omega, Ext0.ext⟩
   ·have k1 : IntKind.i64.wrap (((pcU (of8 false true b2 b3 b4 b5 b6 b7) 0 : Nat) : Int) + 1) = ((pcU (of8 false true b2 b3 b4 b5 b6 b7) (0 + 1) : Nat) : Int) := by rw [w64 (by omega)]; rfl
    try simp only [↓nrmL, nrmZ, Nat.reduceEqDiff, ↓reduceIte, Nat.reduceAdd, Int.reduceBEq, Int.reduceBNe, hc, i1, i2, i3, k1]
    refine Fo.no rfl rfl ?_
    refine Fo.no rfl rfl ?_
    refine Fo.no rfl rfl ?_
    refine Fo.no rfl rfl ?_
    refine Fo.no rfl rfl ?_
    refine Fo.yes rfl rfl ?_
    refine tB rfl rfl ?_
    refine tB rfl rfl ?_
    refine WpO.nil (hKF _ _ ?_)
    refine Wp.cond (b := true) rfl ?_
    refine rg fun KF hKF => ?_
    refine mI rfl ?_
    refine Fo.bin rfl rfl rfl (by simp only [↓nrmL, nrmZ, Nat.reduceEqDiff, ↓reduceIte, Nat.reduceAdd, Int.reduceBEq, Int.reduceBNe, hc, i1, i2, i3, k1]; rfl) ?_
    refine mI rfl ?_
    refine WpO.nil (hKF _ _ ?_)
    refine rg fun KF hKF => ?_
    refine mI rfl ?_
    refine Fo.bin rfl rfl rfl (by simp only [↓nrmL, nrmZ, Nat.reduceEqDiff, ↓reduceIte, Nat.reduceAdd, Int.reduceBEq, Int.reduceBNe, hc, i1, i2, i3, k1]; rfl) ?_
    refine mI rfl ?_
    refine WpO.nil (hKF _ _ ?_)
    dsimp only [cond_true, cond_false]
    refine ⟨0 + 1, by omega, ⟨rfl, rfl, trivial⟩, by omega, Ext0.ext⟩
  ·skip
   try simp only [↓nrmL, nrmZ, Nat.reduceEqDiff, ↓reduceIte, Nat.reduceAdd, Int.reduceBEq, Int.reduceBNe, hc, i1, i2, i3]
   refine Fo.no rfl rfl ?_
   refine Fo.no rfl rfl ?_
   refine Fo.no rfl rfl ?_
   refine Fo.no rfl rfl ?_
   refine Fo.no rfl rfl ?_
   refine Fo.noU rfl ?_
   refine Fo.noU rfl ?_
   refine Fo.noU rfl ?_
   refine Fo.noU rfl ?_
   refine Fo.noU rfl ?_
   refine Fo.no rfl rfl ?_
   refine fB rfl rfl ?_
   refine WpO.nil (hKF _ _ ?_)
   refine Wp.cond (b := false) rfl ?_
   refine Wp.skip ?_
   refine rg fun KF hKF => ?_
   refine mI rfl ?_
   refine Fo.bin rfl rfl rfl (by simp only [↓nrmL, nrmZ, Nat.reduceEqDiff, ↓reduceIte, Nat.reduceAdd, Int.reduceBEq, Int.reduceBNe, hc, i1, i2, i3]; rfl) ?_
   refine mI rfl ?_
   refine WpO.nil (hKF _ _ ?_)
   dsimp only [cond_true, cond_false]
   refine ⟨0 + 1, by omega, ⟨rfl, rfl, trivial⟩, by omega, Ext0.ext⟩
 ·have hc : decide (((2 * 1 : Nat) : Int) < 8) = true := rfl
  have i1 : IntKind.i64.wrap (((2 * 1 : Nat) : Int) + 1) = ((2 * 1 + 1 : Nat) : Int) := rfl
  have i2 : IntKind.i64.wrap (((2 * 1 : Nat) : Int) + 2) = ((2 * (1 + 1) : Nat) : Int) := rfl
  have i3 : (((2 * (1 + 1) : Nat) : Int)).tmod 8 = ((4 : Nat) : Int) := rfl
  try simp only [↓nrmL, nrmZ, Nat.reduceEqDiff, ↓reduceIte, Nat.reduceAdd, Int.reduceBEq, Int.reduceBNe, hc, i1, i2, i3]
  refine sq ?_
  refine sq ?_
  refine rg fun KF hKF => ?_
  refine mI rfl ?_
  refine Fo.bin rfl rfl rfl (by simp only [↓nrmL, nrmZ, Nat.reduceEqDiff, ↓reduceIte, Nat.reduceAdd, Int.reduceBEq, Int.reduceBNe, hc, i1, i2, i3]; rfl) ?_
  refine WpO.nil (hKF _ _ ?_)
  refine Wp.cond (b := true) rfl ?_
  refine Wp.skip ?_
  refine sq ?_
  refine Wp.block ?_
  refine sq ?_
  refine rg fun KF hKF => ?_
  refine mI rfl ?_
  refine Fo.now rfl rfl (by simp only [↓nrmL, nrmZ, Nat.reduceEqDiff, ↓reduceIte, Nat.reduceAdd, Int.reduceBEq, Int.reduceBNe, hc, i1, i2, i3]; rfl) ?_
  refine Fo.ld rfl rfl ?_
  refine Fo.now rfl rfl rfl ?_
  refine mB rfl ?_
  cases b2
  ·skip
   try simp only [↓nrmL, nrmZ, Nat.reduceEqDiff, ↓reduceIte, Nat.reduceAdd, Int.reduceBEq, Int.reduceBNe, hc, i1, i2, i3]
   refine Fo.yes rfl rfl ?_
   refine mI rfl ?_
   refine Fo.yes rfl rfl ?_
   refine Fo.bin rfl rfl rfl (by simp only [↓nrmL, nrmZ, Nat.reduceEqDiff, ↓reduceIte, Nat.reduceAdd, Int.reduceBEq, Int.reduceBNe, hc, i1, i2, i3]; rfl) ?_
   refine Fo.yes rfl rfl ?_
   refine Fo.now rfl rfl (by simp only [↓nrmL, nrmZ, Nat.reduceEqDiff, ↓reduceIte, Nat.reduceAdd, Int.reduceBEq, Int.reduceBNe, hc, i1, i2, i3]; rfl) ?_
   refine Fo.yes rfl rfl ?_
   refine Fo.ld rfl rfl ?_
   refine Fo.yes rfl rfl ?_
   refine mB rfl ?_
   cases b3
   ·skip
    try simp only [↓nrmL, nrmZ, Nat.reduceEqDiff, ↓reduceIte, Nat.reduceAdd, Int.reduceBEq, Int.reduceBNe, hc, i1, i2, i3]
    refine Fo.yes rfl rfl ?_
    refine mI rfl ?_
    refine Fo.yes rfl rfl ?_
    refine Fo.bin rfl rfl rfl (by simp only [↓nrmL, nrmZ, Nat.reduceEqDiff, ↓reduceIte, Nat.reduceAdd, Int.reduceBEq, Int.reduceBNe, hc, i1, i2, i3]; rfl) ?_
    refine Fo.yes rfl rfl ?_
    refine Fo.bin rfl rfl rfl (by simp only [↓nrmL, nrmZ, Nat.reduceEqDiff, ↓reduceIte, Nat.reduceAdd, Int.reduceBEq, Int.reduceBNe, hc, i1, i2, i3]; rfl) ?_
    refine Fo.yes rfl rfl ?_
    refine Fo.now rfl rfl (by simp only [↓nrmL, nrmZ, Nat.reduceEqDiff, ↓reduceIte, Nat.reduceAdd, Int.reduceBEq, Int.reduceBNe, hc, i1, i2, i3]; rfl) ?_
    refine Fo.yes rfl rfl ?_
    refine Fo.ld rfl rfl ?_
    refine Fo.yes rfl rfl ?_
    refine fB rfl rfl ?_
    refine tB rfl rfl ?_
    refine WpO.nil (hKF _ _ ?_)
    dsimp only [cond_true, cond_false]
    cases b4
    ·skip
     try simp only [↓nrmL, nrmZ, Nat.reduceEqDiff, ↓reduceIte, Nat.reduceAdd, Int.reduceBEq, Int.reduceBNe, hc, i1, i2, i3]
     refine Wp.cond (b := false) rfl ?_
     refine Wp.skip ?_
     refine rg fun KF hKF => ?_
     refine mI rfl ?_
     refine Fo.bin rfl rfl rfl (by simp only [↓nrmL, nrmZ, Nat.reduceEqDiff, ↓reduceIte, Nat.reduceAdd, Int.reduceBEq, Int.reduceBNe, hc, i1, i2, i3]; rfl) ?_
     refine mI rfl ?_
     refine WpO.nil (hKF _ _ ?_)
     dsimp only [cond_true, cond_false]
     refine ⟨1 + 1, by omega, ⟨rfl, rfl, trivial⟩, by omega, Ext0.ext⟩
    ·have k1 : IntKind.i64.wrap (((pcU (of8 b0 b1 false false true b5 b6 b7) 1 : Nat) : Int) + 1) = ((pcU (of8 b0 b1 false false true b5 b6 b7) (1 + 1) : Nat) : Int) := by rw [w64 (by omega)]; rfl
     try simp only [↓nrmL, nrmZ, Nat.reduceEqDiff, ↓reduceIte, Nat.reduceAdd, Int.reduceBEq, Int.reduceBNe, hc, i1, i2, i3, k1]
     refine Wp.cond (b := true) rfl ?_
     refine rg fun KF hKF => ?_
     refine mI rfl ?_
     refine Fo.bin rfl rfl rfl (by simp only [↓nrmL, nrmZ, Nat.reduceEqDiff, ↓reduceIte, Nat.reduceAdd, Int.reduceBEq, Int.reduceBNe, hc, i1, i2, i3, k1]; rfl) ?_
     refine mI rfl ?_
     refine WpO.nil (hKF _ _ ?_)
     refine rg fun KF hKF => ?_
     refine mI rfl ?_
     refine Fo.bin rfl rfl rfl (by simp only [↓nrmL, nrmZ, Nat.reduceEqDiff, ↓reduceIte, Nat.reduceAdd, Int.reduceBEq, Int.reduceBNe, hc, i1, i2, i3, k1]; rfl) ?_
     refine mI rfl ?_
     refine WpO.nil (hKF _ _ ?_)
     dsimp only [cond_true, cond_false]
     refine ⟨1 + 1, by omega, ⟨rfl, rfl, trivial⟩, by omega, Ext0.ext⟩
   ·have k1 : IntKind.i64.wrap (((pcU (of8 b0 b1 false true b4 b5 b6 b7) 1 : Nat) : Int) + 1) = ((pcU (of8 b0 b1 false true b4 b5 b6 b7) (1 + 1) : Nat) : Int) := by rw [w64 (by omega)]; rfl
    try simp only [↓nrmL, nrmZ, Nat.reduceEqDiff, ↓reduceIte, Nat.reduceAdd, Int.reduceBEq, Int.reduceBNe, hc, i1, i2, i3, k1]
    refine Fo.no rfl rfl ?_
    refine Fo.no rfl rfl ?_
    refine Fo.no rfl rfl ?_
    refine Fo.no rfl rfl ?_
    refine Fo.no rfl rfl ?_
    refine Fo.yes rfl rfl ?_
    refine tB rfl rfl ?_
    refine tB rfl rfl ?_
    refine WpO.nil (hKF _ _ ?_)
    refine Wp.cond (b := true) rfl ?_
    refine rg fun KF hKF => ?_
    refine mI rfl ?_
    refine Fo.bin rfl rfl rfl (by simp only [↓nrmL, nrmZ, Nat.reduceEqDiff, ↓reduceIte, Nat.reduceAdd, Int.reduceBEq, Int.reduceBNe, hc, i1, i2, i3, k1]; rfl) ?_
    refine mI rfl ?_
    refine WpO.nil (hKF _ _ ?_)
    refine rg fun KF hKF => ?_
    refine mI rfl ?_
    refine Fo.bin rfl rfl rfl (by simp only [↓nrmL, nrmZ, Nat.reduceEqDiff, ↓reduceIte, Nat.reduceAdd, Int.reduceBEq, Int.reduceBNe, hc, i1, i2, i3, k1]; rfl) ?_
    refine mI rfl ?_
    refine WpO.nil (hKF _ _ ?_)
    dsimp only [cond_true, cond_false]
    refine ⟨1 + 1, by omega, ⟨rfl, rfl, trivial⟩, by omega, Ext0.ext⟩
  ·skip
   try simp only [↓nrmL, nrmZ, Nat.reduceEqDiff, ↓reduceIte, Nat.reduceAdd, Int.reduceBEq, Int.reduceBNe, hc, i1, i2, i3]
   refine Fo.no rfl rfl ?_
   refine Fo.no rfl rfl ?_
   refine Fo.no rfl rfl ?_
   refine Fo.no rfl rfl ?_
   refine Fo.no rfl rfl ?_
   refine Fo.noU rfl ?_
   refine Fo.noU rfl ?_
   refine Fo.noU rfl ?_
   refine Fo.noU rfl ?_
   refine Fo.noU rfl ?_
   refine Fo.no rfl rfl ?_
   refine fB rfl rfl ?_
   refine WpO.nil (hKF _ _ ?_)
   refine Wp.cond (b := false) rfl ?_
   refine Wp.skip ?_
   refine rg fun KF hKF => ?_
   refine mI rfl ?_
   refine Fo.bin rfl rfl rfl (by simp only [↓nrmL, nrmZ, Nat.reduceEqDiff, ↓reduceIte, Nat.reduceAdd, Int.reduceBEq, Int.reduceBNe, hc, i1, i2, i3]; rfl) ?_
   refine mI rfl ?_
   refine WpO.nil (hKF _ _ ?_)
   dsimp only [cond_true, cond_false]
   refine ⟨1 + 1, by omega, ⟨rfl, rfl, trivial⟩, by omega, Ext0.ext⟩
 ·have hc : decide (((2 * 2 : Nat) : Int) < 8) = true := rfl
  have i1 : IntKind.i64.wrap (((2 * 2 : Nat) : Int) + 1) = ((2 * 2 + 1 : Nat) : Int) := rfl
  have i2 : IntKind.i64.wrap (((2 * 2 : Nat) : Int) + 2) = ((2 * (2 + 1) : Nat) : Int) := rfl
  have i3 : (((2 * (2 + 1) : Nat) : Int)).tmod 8 = ((6 : Nat) : Int) := rfl
  try simp only [↓nrmL, nrmZ, Nat.reduceEqDiff, ↓reduceIte, Nat.reduceAdd, Int.reduceBEq, Int.reduceBNe, hc, i1, i2, i3]
  refine sq ?_
  refine sq ?_
  refine rg fun KF hKF => ?_
  refine mI rfl ?_
  refine Fo.bin rfl rfl rfl (by simp only [↓nrmL, nrmZ, Nat.reduceEqDiff, ↓reduceIte, Nat.reduceAdd, Int.reduceBEq, Int.reduceBNe, hc, i1, i2, i3]; rfl) ?_
  refine WpO.nil (hKF _ _ ?_)
  refine Wp.cond (b := true) rfl ?_
  refine Wp.skip ?_
  refine sq ?_
  refine Wp.block ?_
  refine sq ?_
  refine rg fun KF hKF => ?_
  refine mI rfl ?_
  refine Fo.now rfl rfl (by simp only [↓nrmL, nrmZ, Nat.reduceEqDiff, ↓reduceIte, Nat.reduceAdd, Int.reduceBEq, Int.reduceBNe, hc, i1, i2, i3]; rfl) ?_
  refine Fo.ld rfl rfl ?_
  refine Fo.now rfl rfl rfl ?_
  refine mB rfl ?_
  cases b4
  ·skip
   try simp only [↓nrmL, nrmZ, Nat.reduceEqDiff, ↓reduceIte, Nat.reduceAdd, Int.reduceBEq, Int.reduceBNe, hc, i1, i2, i3]
   refine Fo.yes rfl rfl ?_
   refine mI rfl ?_
   refine Fo.yes rfl rfl ?_
   refine Fo.bin rfl rfl rfl (by simp only [↓nrmL, nrmZ, Nat.reduceEqDiff, ↓reduceIte, Nat.reduceAdd, Int.reduceBEq, Int.reduceBNe, hc, i1, i2, i3]; rfl) ?_
   refine Fo.yes rfl rfl ?_
   refine Fo.now rfl rfl (by simp only [↓nrmL, nrmZ, Nat.reduceEqDiff, ↓reduceIte, Nat.reduceAdd, Int.reduceBEq, Int.reduceBNe, hc, i1, i2, i3]; rfl) ?_
   refine Fo.yes rfl rfl ?_
   refine Fo.ld rfl rfl ?_
   refine Fo.yes rfl rfl ?_
   refine mB rfl ?_
   cases b5
   ·skip
    try simp only [↓nrmL, nrmZ, Nat.reduceEqDiff, ↓reduceIte, Nat.reduceAdd, Int.reduceBEq, Int.reduceBNe, hc, i1, i2, i3]
    refine Fo.yes rfl rfl ?_
    refine mI rfl ?_
    refine Fo.yes rfl rfl ?_
    refine Fo.bin rfl rfl rfl (by simp only [↓nrmL, nrmZ, Nat.reduceEqDiff, ↓reduceIte, Nat.reduceAdd, Int.reduceBEq, Int.reduceBNe, hc, i1, i2, i3]; rfl) ?_
    refine Fo.yes rfl rfl ?_
    refine Fo.bin rfl rfl rfl (by simp only [↓nrmL, nrmZ, Nat.reduceEqDiff, ↓reduceIte, Nat.reduceAdd, Int.reduceBEq, Int.reduceBNe, hc, i1, i2, i3]; rfl) ?_
    refine Fo.yes rfl rfl ?_
    refine Fo.now rfl rfl (by simp only [↓nrmL, nrmZ, Nat.reduceEqDiff, ↓reduceIte, Nat.reduceAdd, Int.reduceBEq, Int.reduceBNe, hc, i1, i2, i3]; rfl) ?_
    refine Fo.yes rfl rfl ?_
    refine Fo.ld rfl rfl ?_
    refine Fo.yes rfl rfl ?_
    refine fB rfl rfl ?_
    refine tB rfl rfl ?_
    refine WpO.nil (hKF _ _ ?_)
    dsimp only [cond_true, cond_false]
    cases b6
    ·skip
     try simp only [↓nrmL, nrmZ, Nat.reduceEqDiff, ↓reduceIte, Nat.reduceAdd, Int.reduceBEq, Int.reduceBNe, hc, i1, i2, i3]
     refine Wp.cond (b := false) rfl ?_
     refine Wp.skip ?_
     refine rg fun KF hKF => ?_
     refine mI rfl ?_
     refine Fo.bin rfl rfl rfl (by simp only [↓nrmL, nrmZ, Nat.reduceEqDiff, ↓reduceIte, Nat.reduceAdd, Int.reduceBEq, Int.reduceBNe, hc, i1, i2, i3]; rfl) ?_
     refine mI rfl ?_
     refine WpO.nil (hKF _ _ ?_)
     dsimp only [cond_true, cond_false]
     refine ⟨2 + 1, by omega, ⟨rfl, rfl, trivial⟩, by omega, Ext0.ext⟩
    ·have k1 : IntKind.i64.wrap (((pcU (of8 b0 b1 b2 b3 false false true b7) 2 : Nat) : Int) + 1) = ((pcU (of8 b0 b1 b2 b3 false false true b7) (2 + 1) : Nat) : Int) := by rw [w64 (by omega)]; rfl
     try simp only [↓nrmL, nrmZ, Nat.reduceEqDiff, ↓reduceIte, Nat.reduceAdd, Int.reduceBEq, Int.reduceBNe, hc, i1, i2, i3, k1]
     refine Wp.cond (b := true) rfl ?_
     refine rg fun KF hKF => ?_
     refine mI rfl ?_
     refine Fo.bin rfl rfl rfl (by simp only [↓nrmL, nrmZ, Nat.reduceEqDiff, ↓reduceIte, Nat.reduceAdd, Int.reduceBEq, Int.reduceBNe, hc, i1, i2, i3, k1]; rfl) ?_
     refine mI rfl ?_
     refine WpO.nil (hKF _ _ ?_)
     refine rg fun KF hKF => ?_
     refine mI rfl ?_
     refine Fo.bin rfl rfl rfl (by simp only [↓nrmL, nrmZ, Nat.reduceEqDiff, ↓reduceIte, Nat.reduceAdd, Int.reduceBEq, Int.reduceBNe, hc, i1, i2, i3, k1]; rfl) ?_
     refine mI rfl ?_
     refine WpO.nil (hKF _ _ ?_)
     dsimp only [cond_true, cond_false]
     refine ⟨2 + 1, by omega, ⟨rfl, rfl, trivial⟩, by omega, Ext0.ext⟩
   ·have k1 : IntKind.i64.wrap (((pcU (of8 b0 b1 b2 b3 false true b6 b7) 2 : Nat) : Int) + 1) = ((pcU (of8 b0 b1 b2 b3 false true b6 b7) (2 + 1) : Nat) : Int) := by rw [w64 (by omega)]; rfl
    try simp only [↓nrmL, nrmZ, Nat.reduceEqDiff, ↓reduceIte, Nat.reduceAdd, Int.reduceBEq, Int.reduceBNe, hc, i1, i2, i3, k1]
    refine Fo.no rfl rfl ?_
    refine Fo.no rfl rfl ?_
    refine Fo.no rfl rfl ?_
    refine Fo.no rfl rfl ?_
    refine Fo.no rfl rfl ?_
    refine Fo.yes rfl rfl ?_
    refine tB rfl rfl ?_
    refine tB rfl rfl ?_
    refine WpO.nil (hKF _ _ ?_)
    refine Wp.cond (b := true) rfl ?_
    refine rg fun KF hKF => ?_
    refine mI rfl ?_
    refine Fo.bin rfl rfl rfl (by simp only [↓nrmL, nrmZ, Nat.reduceEqDiff, ↓reduceIte, Nat.reduceAdd, Int.reduceBEq, Int.reduceBNe, hc, i1, i2, i3, k1]; rfl) ?_
    refine mI rfl ?_
    refine WpO.nil (hKF _ _ ?_)
    refine rg fun KF hKF => ?_
    refine mI rfl ?_
    refine Fo.bin rfl rfl rfl (by simp only [↓nrmL, nrmZ, Nat.reduceEqDiff, ↓reduceIte, Nat.reduceAdd, Int.reduceBEq, Int.reduceBNe, hc, i1, i2, i3, k1]; rfl) ?_
    refine mI rfl ?_
    refine WpO.nil (hKF _ _ ?_)
    dsimp only [cond_true, cond_false]
    refine ⟨2 + 1, by omega, ⟨rfl, rfl, trivial⟩, by omega, Ext0.ext⟩
  ·skip
   try simp only [↓nrmL, nrmZ, Nat.reduceEqDiff, ↓reduceIte, Nat.reduceAdd, Int.reduceBEq, Int.reduceBNe, hc, i1, i2, i3]
   refine Fo.no rfl rfl ?_
   refine Fo.no rfl rfl ?_
   refine Fo.no rfl rfl ?_
   refine Fo.no rfl rfl ?_
   refine Fo.no rfl rfl ?_
   refine Fo.noU rfl ?_
   refine Fo.noU rfl ?_
   refine Fo.noU rfl ?_
   refine Fo.noU rfl ?_
   refine Fo.noU rfl ?_
   refine Fo.no rfl rfl ?_
   refine fB rfl rfl ?_
   refine WpO.nil (hKF _ _ ?_)
   refine Wp.cond (b := false) rfl ?_
   refine Wp.skip ?_
   refine rg fun KF hKF => ?_
   refine mI rfl ?_
   refine Fo.bin rfl rfl rfl (by simp only [↓nrmL, nrmZ, Nat.reduceEqDiff, ↓reduceIte, Nat.reduceAdd, Int.reduceBEq, Int.reduceBNe, hc, i1, i2, i3]; rfl) ?_
   refine mI rfl ?_
   refine WpO.nil (hKF _ _ ?_)
   dsimp only [cond_true, cond_false]
   refine ⟨2 + 1, by omega, ⟨rfl, rfl, trivial⟩, by omega, Ext0.ext⟩
 ·have hc : decide (((2 * 3 : Nat) : Int) < 8) = true := rfl
  have i1 : IntKind.i64.wrap (((2 * 3 : Nat) : Int) + 1) = ((2 * 3 + 1 : Nat) : Int) := rfl
  have i2 : IntKind.i64.wrap (((2 * 3 : Nat) : Int) + 2) = ((2 * (3 + 1) : Nat) : Int) := rfl
  have i3 : (((2 * (3 + 1) : Nat) : Int)).tmod 8 = ((0 : Nat) : Int) := rfl
  try simp only [↓nrmL, nrmZ, Nat.reduceEqDiff, ↓reduceIte, Nat.reduceAdd, Int.reduceBEq, Int.reduceBNe, hc, i1, i2, i3]
  refine sq ?_
  refine sq ?_
  refine rg fun KF hKF => ?_
  refine mI rfl ?_
  refine Fo.bin rfl rfl rfl (by simp only [↓nrmL, nrmZ, Nat.reduceEqDiff, ↓reduceIte, Nat.reduceAdd, Int.reduceBEq, Int.reduceBNe, hc, i1, i2, i3]; rfl) ?_
  refine WpO.nil (hKF _ _ ?_)
  refine Wp.cond (b := true) rfl ?_
  refine Wp.skip ?_
  refine sq ?_
  refine Wp.block ?_
  refine sq ?_
  refine rg fun KF hKF => ?_
  refine mI rfl ?_
  refine Fo.now rfl rfl (by simp only [↓nrmL, nrmZ, Nat.reduceEqDiff, ↓reduceIte, Nat.reduceAdd, Int.reduceBEq, Int.reduceBNe, hc, i1, i2, i3]; rfl) ?_
  refine Fo.ld rfl rfl ?_
  refine Fo.now rfl rfl rfl ?_
  refine mB rfl ?_
  cases b6
  ·skip
   try simp only [↓nrmL, nrmZ, Nat.reduceEqDiff, ↓reduceIte, Nat.reduceAdd, Int.reduceBEq, Int.reduceBNe, hc, i1, i2, i3]
   refine Fo.yes rfl rfl ?_
   refine mI rfl ?_
   refine Fo.yes rfl rfl ?_
   refine Fo.bin rfl rfl rfl (by simp only [↓nrmL, nrmZ, Nat.reduceEqDiff, ↓reduceIte, Nat.reduceAdd, Int.reduceBEq, Int.reduceBNe, hc, i1, i2, i3]; rfl) ?_
   refine Fo.yes rfl rfl ?_
   refine Fo.now rfl rfl (by simp only [↓nrmL, nrmZ, Nat.reduceEqDiff, ↓reduceIte, Nat.reduceAdd, Int.reduceBEq, Int.reduceBNe, hc, i1, i2, i3]; rfl) ?_
   refine Fo.yes rfl rfl ?_
   refine Fo.ld rfl rfl ?_
   refine Fo.yes rfl rfl ?_
   refine mB rfl ?_
   cases b7
   ·skip
    try simp only [↓nrmL, nrmZ, Nat.reduceEqDiff, ↓reduceIte, Nat.reduceAdd, Int.reduceBEq, Int.reduceBNe, hc, i1, i2, i3]
    refine Fo.yes rfl rfl ?_
    refine mI rfl ?_
    refine Fo.yes rfl rfl ?_
    refine Fo.bin rfl rfl rfl (by simp only [↓nrmL, nrmZ, Nat.reduceEqDiff, ↓reduceIte, Nat.reduceAdd, Int.reduceBEq, Int.reduceBNe, hc, i1, i2, i3]; rfl) ?_
    refine Fo.yes rfl rfl ?_
    refine Fo.bin rfl rfl rfl (by simp only [↓nrmL, nrmZ, Nat.reduceEqDiff, ↓reduceIte, Nat.reduceAdd, Int.reduceBEq, Int.reduceBNe, hc, i1, i2, i3]; rfl) ?_
    refine Fo.yes rfl rfl ?_
    refine Fo.now rfl rfl (by simp only [↓nrmL, nrmZ, Nat.reduceEqDiff, ↓reduceIte, Nat.reduceAdd, Int.reduceBEq, Int.reduceBNe, hc, i1, i2, i3]; rfl) ?_
    refine Fo.yes rfl rfl ?_
    refine Fo.ld rfl rfl ?_
    refine Fo.yes rfl rfl ?_
    refine fB rfl rfl ?_
    refine tB rfl rfl ?_
    refine WpO.nil (hKF _ _ ?_)
    dsimp only [cond_true, cond_false]
    cases b0
    ·skip
     try simp only [↓nrmL, nrmZ, Nat.reduceEqDiff, ↓reduceIte, Nat.reduceAdd, Int.reduceBEq, Int.reduceBNe, hc, i1, i2, i3]
     refine Wp.cond (b := false) rfl ?_
     refine Wp.skip ?_
     refine rg fun KF hKF => ?_
     refine mI rfl ?_
     refine Fo.bin rfl rfl rfl (by simp only [↓nrmL, nrmZ, Nat.reduceEqDiff, ↓reduceIte, Nat.reduceAdd, Int.reduceBEq, Int.reduceBNe, hc, i1, i2, i3]; rfl) ?_
     refine mI rfl ?_
     refine WpO.nil (hKF _ _ ?_)
     dsimp only [cond_true, cond_false]
     refine ⟨3 + 1, by omega, ⟨rfl, rfl, trivial⟩, by omega, Ext0.ext⟩
    ·have k1 : IntKind.i64.wrap (((pcU (of8 true b1 b2 b3 b4 b5 false false) 3 : Nat) : Int) + 1) = ((pcU (of8 true b1 b2 b3 b4 b5 false false) (3 + 1) : Nat) : Int) := by rw [w64 (by omega)]; rfl
     try simp only [↓nrmL, nrmZ, Nat.reduceEqDiff, ↓reduceIte, Nat.reduceAdd, Int.reduceBEq, Int.reduceBNe, hc, i1, i2, i3, k1]
     refine Wp.cond (b := true) rfl ?_
     refine rg fun KF hKF => ?_
     refine mI rfl ?_
     refine Fo.bin rfl rfl rfl (by simp only [↓nrmL, nrmZ, Nat.reduceEqDiff, ↓reduceIte, Nat.reduceAdd, Int.reduceBEq, Int.reduceBNe, hc, i1, i2, i3, k1]; rfl) ?_
     refine mI rfl ?_
     refine WpO.nil (hKF _ _ ?_)
     refine rg fun KF hKF => ?_
     refine mI rfl ?_
     refine Fo.bin rfl rfl rfl (by simp only [↓nrmL, nrmZ, Nat.reduceEqDiff, ↓reduceIte, Nat.reduceAdd, Int.reduceBEq, Int.reduceBNe, hc, i1, i2, i3, k1]; rfl) ?_
     refine mI rfl ?_
     refine WpO.nil (hKF _ _ ?_)
     dsimp only [cond_true, cond_false]
     refine ⟨3 + 1, by omega, ⟨rfl, rfl, trivial⟩, by omega, Ext0.ext⟩
   ·have k1 : IntKind.i64.wrap (((pcU (of8 b0 b1 b2 b3 b4 b5 false true) 3 : Nat) : Int) + 1) = ((pcU (of8 b0 b1 b2 b3 b4 b5 false true) (3 + 1) : Nat) : Int) := by rw [w64 (by omega)]; rfl
    try simp only [↓nrmL, nrmZ, Nat.reduceEqDiff, ↓reduceIte, Nat.reduceAdd, Int.reduceBEq, Int.reduceBNe, hc, i1, i2, i3, k1]
    refine Fo.no rfl rfl ?_
    refine Fo.no rfl rfl ?_
    refine Fo.no rfl rfl ?_
    refine Fo.no rfl rfl ?_
    refine Fo.no rfl rfl ?_
    refine Fo.yes rfl rfl ?_
    refine tB rfl rfl ?_
    refine tB rfl rfl ?_
    refine WpO.nil (hKF _ _ ?_)
    refine Wp.cond (b := true) rfl ?_
    refine rg fun KF hKF => ?_
    refine mI rfl ?_
    refine Fo.bin rfl rfl rfl (by simp only [↓nrmL, nrmZ, Nat.reduceEqDiff, ↓reduceIte, Nat.reduceAdd, Int.reduceBEq, Int.reduceBNe, hc, i1, i2, i3, k1]; rfl) ?_
    refine mI rfl ?_
    refine WpO.nil (hKF _ _ ?_)
    refine rg fun KF hKF => ?_
    refine mI rfl ?_
    refine Fo.bin rfl rfl rfl (by simp only [↓nrmL, nrmZ, Nat.reduceEqDiff, ↓reduceIte, Nat.reduceAdd, Int.reduceBEq, Int.reduceBNe, hc, i1, i2, i3, k1]; rfl) ?_
    refine mI rfl ?_
    refine WpO.nil (hKF _ _ ?_)
    dsimp only [cond_true, cond_false]
    refine ⟨3 + 1, by omega, ⟨rfl, rfl, trivial⟩, by omega, Ext0.ext⟩
  ·skip
   try simp only [↓nrmL, nrmZ, Nat.reduceEqDiff, ↓reduceIte, Nat.reduceAdd, Int.reduceBEq, Int.reduceBNe, hc, i1, i2, i3]
   refine Fo.no rfl rfl ?_
   refine Fo.no rfl rfl ?_
   refine Fo.no rfl rfl ?_
   refine Fo.no rfl rfl ?_
   refine Fo.no rfl rfl ?_
   refine Fo.noU rfl ?_
   refine Fo.noU rfl ?_
   refine Fo.noU rfl ?_
   refine Fo.noU rfl ?_
   refine Fo.noU rfl ?_
   refine Fo.no rfl rfl ?_
   refine fB rfl rfl ?_
   refine WpO.nil (hKF _ _ ?_)
   refine Wp.cond (b := false) rfl ?_
   refine Wp.skip ?_
   refine rg fun KF hKF => ?_
   refine mI rfl ?_
   refine Fo.bin rfl rfl rfl (by simp only [↓nrmL, nrmZ, Nat.reduceEqDiff, ↓reduceIte, Nat.reduceAdd, Int.reduceBEq, Int.reduceBNe, hc, i1, i2, i3]; rfl) ?_
   refine mI rfl ?_
   refine WpO.nil (hKF _ _ ?_)
   dsimp only [cond_true, cond_false]
   refine ⟨3 + 1, by omega, ⟨rfl, rfl, trivial⟩, by omega, Ext0.ext⟩
 ·have hc : decide (((2 * 4 : Nat) : Int) < 8) = false := rfl
  try simp only [↓nrmL, nrmZ, Nat.reduceEqDiff, ↓reduceIte, Nat.reduceAdd, Int.reduceBEq, Int.reduceBNe, hc]
  refine sq ?_
  refine sq ?_
  refine rg fun KF hKF => ?_
  refine mI rfl ?_
  refine Fo.bin rfl rfl rfl (by simp only [↓nrmL, nrmZ, Nat.reduceEqDiff, ↓reduceIte, Nat.reduceAdd, Int.reduceBEq, Int.reduceBNe, hc]; rfl) ?_
  refine WpO.nil (hKF _ _ ?_)
  refine Wp.cond (b := false) rfl ?_
  refine Wp.exit ?_
  refine sq ?_
  refine rg fun KF hKF => ?_
  refine mI rfl ?_
  refine mI rfl ?_
  refine WpO.nil (hKF _ _ ?_)
  refine Wp.ret ?_
  dsimp only [cond_true, cond_false]
  refine ⟨trivial, _, (by first | rfl | exact getAllC rfl rfl rfl rfl | exact getAllT rfl (getAllC rfl rfl rfl rfl) | exact getAllC rfl rfl rfl (getAllC rfl rfl rfl rfl) | exact getAllC1 rfl rfl rfl), ?_⟩
  exact ⟨by rw [← pcU_all]; rfl, Ext0.ext⟩⟩
end Go.Am

/- The table of the neighbours. -/
set_option maxHeartbeats 4000000
namespace Go.Am
open Go
theorem WpX.tab {call : ACall} {fr : AFrame} {H : AHeap} {K : AVal → AHeap → Prop} [ht : Tabs H] (h : K (.agg aroundCs) H) : WpX (.load (some 16) (.val (.ptr 0 0))) call fr H K := by
  obtain ⟨h1, rw, e, h2⟩ := tabs_iff.1 ht.it
  refine ⟨_, _, ?_, h⟩
  have hrow : aRow 0 H = some ((aroundCs, rw), H) := by simp only [aRow, if_pos h1, h2]
  simp only [ROp.exec, ROpd.ev, aLoad, M.bind, hrow]
  rfl
theorem Wp.label {call : ACall} {lf : Nat} {fr : AFrame} {H : AHeap} {Q : RExit → AFrame → AHeap → Prop} (h : Q .normal fr H) : Wp call lf .label fr H Q := ⟨_, _, _, rfl, h⟩
def nbU (f : Nat → Bool) : Nat → Nat
  | 0 => 0
  | k + 1 => nbU f k + bN (f k)
theorem nbU_all (f : Nat → Bool) : nbU f 8 = nbN f := by
  show 0 + _ + _ + _ + _ + _ + _ + _ + _ = _
  rw [Nat.zero_add]; rfl
theorem nbU_le (f : Nat → Bool) : ∀ k, nbU f k ≤ k
  | 0 => Nat.le_refl _
  | k + 1 => by
    have := nbU_le f k
    have := bN_le (f k)
    simp only [nbU]; omega
theorem nbU_on {f : Nat → Bool} {k : Nat} (h : f k = true) : nbU f (k + 1) = nbU f k + 1 := by simp [nbU, h, bN]
theorem nbU_off {f : Nat → Bool} {k : Nat} (h : f k = false) : nbU f (k + 1) = nbU f k := by simp [nbU, h, bN]
def upB (f : Nat → Bool) (k : Nat) : List AVal := [.bool (decide (0 < k) && f 0), .bool (decide (1 < k) && f 1), .bool (decide (2 < k) && f 2), .bool (decide (3 < k) && f 3), .bool (decide (4 < k) && f 4), .bool (decide (5 < k) && f 5), .bool (decide (6 < k) && f 6), .bool (decide (7 < k) && f 7)]
end Go.Am

set_option maxHeartbeats 8000000
set_option maxRecDepth 100000
set_option synthInstance.maxHeartbeats 4000000
set_option synthInstance.maxSize 100000
namespace Go.Am
open Go
attribute [local irreducible] Wp WpO WpX WpE

theorem K_goes {a b x y : Nat} {p : AVal} {H : AHeap} {l : List UInt8} [hp : BytesI H p l] [hs : Fits a b l] [ht : Tabs H] (hx : x ≤ 640) (hy : y ≤ 640) : Con ext prog 3 129 [.agg [.int .i64 a, .int .i64 b, p], .int .i64 x, .int .i64 y] H fun v H' => v = .bool (goesB (ringF a b l x y)) ∧ Ext H H' := by
 refine con_of (show prog 129 = some c129 from rfl) rfl rfl fun n hn => ?_
 haveI := hp.one
 obtain ⟨R, hR⟩ : ∃ R, ringF a b l x y = R := ⟨_, rfl⟩
 have hle := nbU_le R
 rw [hR]
 refine sq ?_
 refine rg fun KF hKF => ?_
 refine Fo.boxA rfl ?_
 refine mB rfl ?_
 refine WpO.nil (hKF _ _ ?_)
 refine sq ?_
 refine rg fun KF hKF => ?_
 refine Fo.new ?_
 refine WpO.nil (hKF _ _ ?_)
 refine sq ?_
 refine rg fun KF hKF => ?_
 refine mI rfl ?_
 refine WpO.nil (hKF _ _ ?_)
 refine sq ?_
 refine sq ?_
 refine rg fun KF hKF => ?_
 refine WpO.do (WpX.tab ?_)
 refine mI rfl ?_
 refine WpO.nil (hKF _ _ ?_)
 refine Wp.block ?_
 dsimp only [cond_true, cond_false]
 obtain ⟨r7, hr7⟩ : ∃ r, (H.push (.row [.int .i64 a, .int .i64 b, p] true (2 * 24))).n = r := ⟨_, rfl⟩
 have hne : r7 = H.n + 1 := by rw [← hr7]; rfl
 simp only [hr7]
 refine Wp.loopS [8, 9, 10, 12, 13, 14, 15, 16, 17, 18, 19, 20, 21, 22, 23, 24, 25, 26, 27, 28, 29, 30, 31, 32, 33] (fun k : Nat => [(8, .int .i64 ((nbU R k : Nat) : Int)), (12, .int .i64 (k : Int))]) (fun H3 k H2 => k ≤ 8 ∧ HasRow H2 r7 (upB R k) true (2 * 181) ∧ HasRow H2 H.n [.int .i64 a, .int .i64 b, p] true (2 * 24) ∧ Ext H H2) (fun k => 8 - k) 0 rfl (fun _ => rfl) ⟨rfl, rfl, trivial⟩ ⟨Nat.zero_le _, (by show HasRow _ r7 [.bool false, .bool false, .bool false, .bool false, .bool false, .bool false, .bool false, .bool false] true (2 * 181); rw [← hr7]; infer_instance), inferInstance, Ext0.ext⟩ (by unfold fuel0 at hn; omega) ?_
 rintro k g H2 ⟨hk, hrow, hbox, hx2⟩
 haveI : ExtI H H2 := ⟨hx2⟩
 haveI : Ext0 H H2 := ⟨hx2⟩
 haveI : GeN H r7 := ⟨by omega⟩
 haveI : NeR H.n r7 := ⟨by omega⟩
 haveI : NeR r7 H.n := ⟨by omega⟩
 simp only [↓nrmL, nrmZ, Nat.reduceEqDiff, ↓reduceIte, Nat.reduceAdd, Int.reduceBEq, Int.reduceBNe]
 have hlek := hle k
 obtain rfl | rfl | rfl | rfl | rfl | rfl | rfl | rfl | rfl : k = 0 ∨ k = 1 ∨ k = 2 ∨ k = 3 ∨ k = 4 ∨ k = 5 ∨ k = 6 ∨ k = 7 ∨ k = 8 := by omega
 ·have hrow0 : HasRow H2 r7 [.bool false, .bool false, .bool false, .bool false, .bool false, .bool false, .bool false, .bool false] true (2 * 181) := hrow
  clear hrow
  have hc : decide (((0 : Nat) : Int) < 8) = true := rfl
  have wx : IntKind.i64.wrap ((x : Int) + 0) = (x : Int) + 0 := w64 (by omega)
  have wy : IntKind.i64.wrap ((y : Int) + (-1)) = (y : Int) + (-1) := w64 (by omega)
  have hi : inkB a b l ((x : Int) + 0) ((y : Int) + (-1)) = R 0 := by rw [← hR]; rfl
  try simp only [↓nrmL, nrmZ, Nat.reduceEqDiff, ↓reduceIte, Nat.reduceAdd, Int.reduceBEq, Int.reduceBNe, hc, wx, wy, hi]
  refine sq ?_
  refine rg fun KF hKF => ?_
  refine Fo.bin rfl rfl rfl (by simp only [↓nrmL, nrmZ, Nat.reduceEqDiff, ↓reduceIte, Nat.reduceAdd, Int.reduceBEq, Int.reduceBNe, hc, wx, wy, hi]; rfl) ?_
  refine WpO.nil (hKF _ _ ?_)
  refine sq ?_
  refine Wp.cond (b := true) rfl ?_
  refine Wp.skip ?_
  refine sq ?_
  refine Wp.block ?_
  refine sq ?_
  refine rg fun KF hKF => ?_
  refine mI rfl ?_
  refine Fo.now rfl rfl (by simp only [↓nrmL, nrmZ, Nat.reduceEqDiff, ↓reduceIte, Nat.reduceAdd, Int.reduceBEq, Int.reduceBNe, hc, wx, wy, hi]; rfl) ?_
  refine Fo.new ?_
  refine mI rfl ?_
  refine Fo.st rfl (rfl : _ = AVal.agg _) rfl rfl rfl (by repeat (first | rfl | refine allOne_cons ?_)) (by simp only [↓nrmL, nrmZ, Nat.reduceEqDiff, ↓reduceIte, Nat.reduceAdd, Int.reduceBEq, Int.reduceBNe, hc, wx, wy, hi]; rfl) ?_
  refine WpO.nil (hKF _ _ ?_)
  refine sq ?_
  refine rg fun KF hKF => ?_
  refine mI rfl ?_
  refine Fo.ldN rfl rfl (by simp only [↓nrmL, nrmZ, Nat.reduceEqDiff, ↓reduceIte, Nat.reduceAdd, Int.reduceBEq, Int.reduceBNe, hc, wx, wy, hi]; rfl) ?_
  refine mI rfl ?_
  refine Fo.fa rfl ?_
  refine Fo.ld rfl rfl ?_
  refine Fo.bin rfl rfl rfl (by simp only [↓nrmL, nrmZ, Nat.reduceEqDiff, ↓reduceIte, Nat.reduceAdd, Int.reduceBEq, Int.reduceBNe, hc, wx, wy, hi]; rfl) ?_
  refine mI rfl ?_
  refine Fo.fa rfl ?_
  refine Fo.ld rfl rfl ?_
  refine Fo.bin rfl rfl rfl (by simp only [↓nrmL, nrmZ, Nat.reduceEqDiff, ↓reduceIte, Nat.reduceAdd, Int.reduceBEq, Int.reduceBNe, hc, wx, wy, hi]; rfl) ?_
  refine Fo.pcall (v' := ?_) hn rfl (by simp only [↓nrmL, nrmZ, Nat.reduceEqDiff, ↓reduceIte, Nat.reduceAdd, Int.reduceBEq, Int.reduceBNe, hc, wx, wy, hi, List.map]; rfl) rfl ?hv fun _ _ => ?_; case hv => (simp only [↓nrmL, nrmZ, Nat.reduceEqDiff, ↓reduceIte, Nat.reduceAdd, Int.reduceBEq, Int.reduceBNe, hc, wx, wy, hi]; rfl)
  refine Fo.now rfl rfl (by simp only [↓nrmL, nrmZ, Nat.reduceEqDiff, ↓reduceIte, Nat.reduceAdd, Int.reduceBEq, Int.reduceBNe, hc, wx, wy, hi]; rfl) ?_
  refine Fo.st rfl (rfl : _ = AVal.bool _) rfl rfl rfl (by repeat (first | rfl | refine allOne_cons ?_)) (by simp only [↓nrmL, nrmZ, Nat.reduceEqDiff, ↓reduceIte, Nat.reduceAdd, Int.reduceBEq, Int.reduceBNe, hc, wx, wy, hi]; rfl) ?_
  refine WpO.nil (hKF _ _ ?_)
  refine sq ?_
  refine rg fun KF hKF => ?_
  refine mI rfl ?_
  refine Fo.now rfl rfl (by simp only [↓nrmL, nrmZ, Nat.reduceEqDiff, ↓reduceIte, Nat.reduceAdd, Int.reduceBEq, Int.reduceBNe, hc, wx, wy, hi]; rfl) ?_
  refine Fo.ld rfl rfl ?_
  refine WpO.nil (hKF _ _ ?_)
  dsimp only [cond_true, cond_false]
  cases hv : R 0
  ·skip
   try simp only [↓nrmL, nrmZ, Nat.reduceEqDiff, ↓reduceIte, Nat.reduceAdd, Int.reduceBEq, Int.reduceBNe, hc]
   refine Wp.cond (b := false) rfl ?_
   refine Wp.skip ?_
   refine rg fun KF hKF => ?_
   refine Fo.bin rfl rfl rfl rfl ?_
   refine mI rfl ?_
   refine WpO.nil (hKF _ _ ?_)
   dsimp only [cond_true, cond_false]
   refine ⟨0 + 1, by omega, ⟨by rw [nbU_off hv]; rfl, rfl, trivial⟩, by omega, (by show HasRow _ r7 [.bool (R 0), .bool false, .bool false, .bool false, .bool false, .bool false, .bool false, .bool false] true (2 * 181); rw [hv]; infer_instance), inferInstance, Ext0.ext⟩
  ·have kk : IntKind.i64.wrap (((nbU R 0 : Nat) : Int) + 1) = ((nbU R (0 + 1) : Nat) : Int) := by rw [nbU_on hv, w64 (by omega)]; omega
   try simp only [↓nrmL, nrmZ, Nat.reduceEqDiff, ↓reduceIte, Nat.reduceAdd, Int.reduceBEq, Int.reduceBNe, hc, kk]
   refine Wp.cond (b := true) rfl ?_
   refine rg fun KF hKF => ?_
   refine mI rfl ?_
   refine Fo.bin rfl rfl rfl (by simp only [↓nrmL, nrmZ, Nat.reduceEqDiff, ↓reduceIte, Nat.reduceAdd, Int.reduceBEq, Int.reduceBNe, hc, kk]; rfl) ?_
   refine mI rfl ?_
   refine WpO.nil (hKF _ _ ?_)
   refine rg fun KF hKF => ?_
   refine Fo.bin rfl rfl rfl rfl ?_
   refine mI rfl ?_
   refine WpO.nil (hKF _ _ ?_)
   dsimp only [cond_true, cond_false]
   refine ⟨0 + 1, by omega, ⟨rfl, rfl, trivial⟩, by omega, (by show HasRow _ r7 [.bool (R 0), .bool false, .bool false, .bool false, .bool false, .bool false, .bool false, .bool false] true (2 * 181); rw [hv]; infer_instance), inferInstance, Ext0.ext⟩
 ·have hrow0 : HasRow H2 r7 [.bool (R 0), .bool false, .bool false, .bool false, .bool false, .bool false, .bool false, .bool false] true (2 * 181) := hrow
  clear hrow
  have hc : decide (((1 : Nat) : Int) < 8) = true := rfl
  have wx : IntKind.i64.wrap ((x : Int) + 1) = (x : Int) + 1 := w64 (by omega)
  have wy : IntKind.i64.wrap ((y : Int) + (-1)) = (y : Int) + (-1) := w64 (by omega)
  have hi : inkB a b l ((x : Int) + 1) ((y : Int) + (-1)) = R 1 := by rw [← hR]; rfl
  try simp only [↓nrmL, nrmZ, Nat.reduceEqDiff, ↓reduceIte, Nat.reduceAdd, Int.reduceBEq, Int.reduceBNe, hc, wx, wy, hi]
  refine sq ?_
  refine rg fun KF hKF => ?_
  refine Fo.bin rfl rfl rfl (by simp only [↓nrmL, nrmZ, Nat.reduceEqDiff, ↓reduceIte, Nat.reduceAdd, Int.reduceBEq, Int.reduceBNe, hc, wx, wy, hi]; rfl) ?_
  refine WpO.nil (hKF _ _ ?_)
  refine sq ?_
  refine Wp.cond (b := true) rfl ?_
  refine Wp.skip ?_
  refine sq ?_
  refine Wp.block ?_
  refine sq ?_
  refine rg fun KF hKF => ?_
  refine mI rfl ?_
  refine Fo.now rfl rfl (by simp only [↓nrmL, nrmZ, Nat.reduceEqDiff, ↓reduceIte, Nat.reduceAdd, Int.reduceBEq, Int.reduceBNe, hc, wx, wy, hi]; rfl) ?_
  refine Fo.new ?_
  refine mI rfl ?_
  refine Fo.st rfl (rfl : _ = AVal.agg _) rfl rfl rfl (by repeat (first | rfl | refine allOne_cons ?_)) (by simp only [↓nrmL, nrmZ, Nat.reduceEqDiff, ↓reduceIte, Nat.reduceAdd, Int.reduceBEq, Int.reduceBNe, hc, wx, wy, hi]; rfl) ?_
  refine WpO.nil (hKF _ _ ?_)
  refine sq ?_
  refine rg fun KF hKF => ?_
  refine mI rfl ?_
  refine Fo.ldN rfl rfl (by simp only [↓nrmL, nrmZ, Nat.reduceEqDiff, ↓reduceIte, Nat.reduceAdd, Int.reduceBEq, Int.reduceBNe, hc, wx, wy, hi]; rfl) ?_
  refine mI rfl ?_
  refine Fo.fa rfl ?_
  refine Fo.ld rfl rfl ?_
  refine Fo.bin rfl rfl rfl (by simp only [↓nrmL, nrmZ, Nat.reduceEqDiff, ↓reduceIte, Nat.reduceAdd, Int.reduceBEq, Int.reduceBNe, hc, wx, wy, hi]; rfl) ?_
  refine mI rfl ?_
  refine Fo.fa rfl ?_
  refine Fo.ld rfl rfl ?_
  refine Fo.bin rfl rfl rfl (by simp only [↓nrmL, nrmZ, Nat.reduceEqDiff, ↓reduceIte, Nat.reduceAdd, Int.reduceBEq, Int.reduceBNe, hc, wx, wy, hi]; rfl) ?_
  refine Fo.pcall (v' := ?_) hn rfl (by simp only [↓nrmL, nrmZ, Nat.reduceEqDiff, ↓reduceIte, Nat.reduceAdd, Int.reduceBEq, Int.reduceBNe, hc, wx, wy, hi, List.map]; rfl) rfl ?hv fun _ _ => ?_; case hv => (simp only [↓nrmL, nrmZ, Nat.reduceEqDiff, ↓reduceIte, Nat.reduceAdd, Int.reduceBEq, Int.reduceBNe, hc, wx, wy, hi]; rfl)
  refine Fo.now rfl rfl (by simp only [↓nrmL, nrmZ, Nat.reduceEqDiff, ↓reduceIte, Nat.reduceAdd, Int.reduceBEq, Int.reduceBNe, hc, wx, wy, hi]; rfl) ?_
  refine Fo.st rfl (rfl : _ = AVal.bool _) rfl rfl rfl (by repeat (first | rfl | refine allOne_cons ?_)) (by simp only [↓nrmL, nrmZ, Nat.reduceEqDiff, ↓reduceIte, Nat.reduceAdd, Int.reduceBEq, Int.reduceBNe, hc, wx, wy, hi]; rfl) ?_
  refine WpO.nil (hKF _ _ ?_)
  refine sq ?_
  refine rg fun KF hKF => ?_
  refine mI rfl ?_
  refine Fo.now rfl rfl (by simp only [↓nrmL, nrmZ, Nat.reduceEqDiff, ↓reduceIte, Nat.reduceAdd, Int.reduceBEq, Int.reduceBNe, hc, wx, wy, hi]; rfl) ?_
  refine Fo.ld rfl rfl ?_
  refine WpO.nil (hKF _ _ ?_)
  dsimp only [cond_true, cond_false]
  cases hv : R 1
  ·skip
   try simp only [↓nrmL, nrmZ, Nat.reduceEqDiff, ↓reduceIte, Nat.reduceAdd, Int.reduceBEq, Int.reduceBNe, hc]
   refine Wp.cond (b := false) rfl ?_
   refine Wp.skip ?_
   refine rg fun KF hKF => ?_
   refine Fo.bin rfl rfl rfl rfl ?_
   refine mI rfl ?_
   refine WpO.nil (hKF _ _ ?_)
   dsimp only [cond_true, cond_false]
   refine ⟨1 + 1, by omega, ⟨by rw [nbU_off hv]; rfl, rfl, trivial⟩, by omega, (by show HasRow _ r7 [.bool (R 0), .bool (R 1), .bool false, .bool false, .bool false, .bool false, .bool false, .bool false] true (2 * 181); rw [hv]; infer_instance), inferInstance, Ext0.ext⟩
  ·have kk : IntKind.i64.wrap (((nbU R 1 : Nat) : Int) + 1) = ((nbU R (1 + 1) : Nat) : Int) := by rw [nbU_on hv, w64 (by omega)]; omega
   try simp only [↓nrmL, nrmZ, Nat.reduceEqDiff, ↓reduceIte, Nat.reduceAdd, Int.reduceBEq, Int.reduceBNe, hc, kk]
   refine Wp.cond (b := true) rfl ?_
   refine rg fun KF hKF => ?_
   refine mI rfl ?_
   refine Fo.bin rfl rfl rfl (by simp only [↓nrmL, nrmZ, Nat.reduceEqDiff, ↓reduceIte, Nat.reduceAdd, Int.reduceBEq, Int.reduceBNe, hc, kk]; rfl) ?_
   refine mI rfl ?_
   refine WpO.nil (hKF _ _ ?_)
   refine rg fun KF hKF => ?_
   refine Fo.bin rfl rfl rfl rfl ?_
   refine mI rfl ?_
   refine WpO.nil (hKF _ _ ?_)
   dsimp only [cond_true, cond_false]
   refine ⟨1 + 1, by omega, ⟨rfl, rfl, trivial⟩, by omega, (by show HasRow _ r7 [.bool (R 0), .bool (R 1), .bool false, .bool false, .bool false, .bool false, .bool false, .bool false] true (2 * 181); rw [hv]; infer_instance), inferInstance, Ext0.ext⟩
 ·have hrow0 : HasRow H2 r7 [.bool (R 0), .bool (R 1), .bool false, .bool false, .bool false, .bool false, .bool false, .bool false] true (2 * 181) := hrow
  clear hrow
  have hc : decide (((2 : Nat) : Int) < 8) = true := rfl
  have wx : IntKind.i64.wrap ((x : Int) + 1) = (x : Int) + 1 := w64 (by omega)
  have wy : IntKind.i64.wrap ((y : Int) + 0) = (y : Int) + 0 := w64 (by omega)
  have hi : inkB a b l ((x : Int) + 1) ((y : Int) + 0) = R 2 := by rw [← hR]; rfl
  try simp only [↓nrmL, nrmZ, Nat.reduceEqDiff, ↓reduceIte, Nat.reduceAdd, Int.reduceBEq, Int.reduceBNe, hc, wx, wy, hi]
  refine sq ?_
  refine rg fun KF hKF => ?_
  refine Fo.bin rfl rfl rfl (by simp only [↓nrmL, nrmZ, Nat.reduceEqDiff, ↓reduceIte, Nat.reduceAdd, Int.reduceBEq, Int.reduceBNe, hc, wx, wy, hi]; rfl) ?_
  refine WpO.nil (hKF _ _ ?_)
  refine sq ?_
  refine Wp.cond (b := true) rfl ?_
  refine Wp.skip ?_
  refine sq ?_
  refine Wp.block ?_
  refine sq ?_
  refine rg fun KF hKF => ?_
  refine mI rfl ?_
  refine Fo.now rfl rfl (by simp only [↓nrmL, nrmZ, Nat.reduceEqDiff, ↓reduceIte, Nat.reduceAdd, Int.reduceBEq, Int.reduceBNe, hc, wx, wy, hi]; rfl) ?_
  refine Fo.new ?_
  refine mI rfl ?_
  refine Fo.st rfl (rfl : _ = AVal.agg _) rfl rfl rfl (by repeat (first | rfl | refine allOne_cons ?_)) (by simp only [↓nrmL, nrmZ, Nat.reduceEqDiff, ↓reduceIte, Nat.reduceAdd, Int.reduceBEq, Int.reduceBNe, hc, wx, wy, hi]; rfl) ?_
  refine WpO.nil (hKF _ _ ?_)
  refine sq ?_
  refine rg fun KF hKF => ?_
  refine mI rfl ?_
  refine Fo.ldN rfl rfl (by simp only [↓nrmL, nrmZ, Nat.reduceEqDiff, ↓reduceIte, Nat.reduceAdd, Int.reduceBEq, Int.reduceBNe, hc, wx, wy, hi]; rfl) ?_
  refine mI rfl ?_
  refine Fo.fa rfl ?_
  refine Fo.ld rfl rfl ?_
  refine Fo.bin rfl rfl rfl (by simp only [↓nrmL, nrmZ, Nat.reduceEqDiff, ↓reduceIte, Nat.reduceAdd, Int.reduceBEq, Int.reduceBNe, hc, wx, wy, hi]; rfl) ?_
  refine mI rfl ?_
  refine Fo.fa rfl ?_
  refine Fo.ld rfl rfl ?_
  refine Fo.bin rfl rfl rfl (by simp only [↓nrmL, nrmZ, Nat.reduceEqDiff, ↓reduceIte, Nat.reduceAdd, Int.reduceBEq, Int.reduceBNe, hc, wx, wy, hi]; rfl) ?_
  refine Fo.pcall (v' := ?_) hn rfl (by simp only [↓nrmL, nrmZ, Nat.reduceEqDiff, ↓reduceIte, Nat.reduceAdd, Int.reduceBEq, Int.reduceBNe, hc, wx, wy, hi, List.map]; rfl) rfl ?hv fun _ _ => ?_; case hv => (simp only [↓nrmL, nrmZ, Nat.reduceEqDiff, ↓reduceIte, Nat.reduceAdd, Int.reduceBEq, Int.reduceBNe, hc, wx, wy, hi]; rfl)
  refine Fo.now rfl rfl (by simp only [↓nrmL, nrmZ, Nat.reduceEqDiff, ↓reduceIte, Nat.reduceAdd, Int.reduceBEq, Int.reduceBNe, hc, wx, wy, hi]; rfl) ?_
  refine Fo.st rfl (rfl : _ = AVal.bool _) rfl rfl rfl (by repeat (first | rfl | refine allOne_cons ?_)) (by simp only [↓nrmL, nrmZ, Nat.reduceEqDiff, ↓reduceIte, Nat.reduceAdd, Int.reduceBEq, Int.reduceBNe, hc, wx, wy, hi]; rfl) ?_
  refine WpO.nil (hKF _ _ ?_)
  refine sq ?_
  refine rg fun KF hKF => ?_
  refine mI rfl ?_
  refine Fo.now rfl rfl (by simp only [↓nrmL, nrmZ, Nat.reduceEqDiff, ↓reduceIte, Nat.reduceAdd, Int.reduceBEq, Int.reduceBNe, hc, wx, wy, hi]; rfl) ?_
  refine Fo.ld rfl rfl ?_
  refine WpO.nil (hKF _ _ ?_)
  dsimp only [cond_true, cond_false]
  cases hv : R 2
  ·skip
   try simp only [↓nrmL, nrmZ, Nat.reduceEqDiff, ↓reduceIte, Nat.reduceAdd, Int.reduceBEq, Int.reduceBNe, hc]
   refine Wp.cond (b := false) rfl ?_
   refine Wp.skip ?_
   refine rg fun KF hKF => ?_
   refine Fo.bin rfl rfl rfl rfl ?_
   refine mI rfl ?_
   refine WpO.nil (hKF _ _ ?_)
   dsimp only [cond_true, cond_false]
   refine ⟨2 + 1, by omega, ⟨by rw [nbU_off hv]; rfl, rfl, trivial⟩, by omega, (by show HasRow _ r7 [.bool (R 0), .bool (R 1), .bool (R 2), .bool false, .bool false, .bool false, .bool false, .bool false] true (2 * 181); rw [hv]; infer_instance), inferInstance, Ext0.ext⟩
  ·have kk : IntKind.i64.wrap (((nbU R 2 : Nat) : Int) + 1) = ((nbU R (2 + 1) : Nat) : Int) := by rw [nbU_on hv, w64 (by omega)]; omega
   try simp only [↓nrmL, nrmZ, Nat.reduceEqDiff, ↓reduceIte, Nat.reduceAdd, Int.reduceBEq, Int.reduceBNe, hc, kk]
   refine Wp.cond (b := true) rfl ?_
   refine rg fun KF hKF => ?_
   refine mI rfl ?_
   refine Fo.bin rfl rfl rfl (by simp only [↓nrmL, nrmZ, Nat.reduceEqDiff, ↓reduceIte, Nat.reduceAdd, Int.reduceBEq, Int.reduceBNe, hc, kk]; rfl) ?_
   refine mI rfl ?_
   refine WpO.nil (hKF _ _ ?_)
   refine rg fun KF hKF => ?_
   refine Fo.bin rfl rfl rfl rfl ?_
   refine mI rfl ?_
   refine WpO.nil (hKF _ _ ?_)
   dsimp only [cond_true, cond_false]
   refine ⟨2 + 1, by omega, ⟨rfl, rfl, trivial⟩, by omega, (by show HasRow _ r7 [.bool (R 0), .bool (R 1), .bool (R 2), .bool false, .bool false, .bool false, .bool false, .bool false] true (2 * 181); rw [hv]; infer_instance), inferInstance, Ext0.ext⟩
 ·have hrow0 : HasRow H2 r7 [.bool (R 0), .bool (R 1), .bool (R 2), .bool false, .bool false, .bool false, .bool false, .bool false] true (2 * 181) := hrow
  clear hrow
  have hc : decide (((3 : Nat) : Int) < 8) = true := rfl
  have wx : IntKind.i64.wrap ((x : Int) + 1) = (x : Int) + 1 := w64 (by omega)
  have wy : IntKind.i64.wrap ((y : Int) + 1) = (y : Int) + 1 := w64 (by omega)
  have hi : inkB a b l ((x : Int) + 1) ((y : Int) + 1) = R 3 := by rw [← hR]; rfl
  try simp only [↓nrmL, nrmZ, Nat.reduceEqDiff, ↓reduceIte, Nat.reduceAdd, Int.reduceBEq, Int.reduceBNe, hc, wx, wy, hi]
  refine sq ?_
  refine rg fun KF hKF => ?_
  refine Fo.bin rfl rfl rfl (by simp only [↓nrmL, nrmZ, Nat.reduceEqDiff, ↓reduceIte, Nat.reduceAdd, Int.reduceBEq, Int.reduceBNe, hc, wx, wy, hi]; rfl) ?_
  refine WpO.nil (hKF _ _ ?_)
  refine sq ?_
  refine Wp.cond (b := true) rfl ?_
  refine Wp.skip ?_
  refine sq ?_
  refine Wp.block ?_
  refine sq ?_
  refine rg fun KF hKF => ?_
  refine mI rfl ?_
  refine Fo.now rfl rfl (by simp only [↓nrmL, nrmZ, Nat.reduceEqDiff, ↓reduceIte, Nat.reduceAdd, Int.reduceBEq, Int.reduceBNe, hc, wx, wy, hi]; rfl) ?_
  refine Fo.new ?_
  refine mI rfl ?_
  refine Fo.st rfl (rfl : _ = AVal.agg _) rfl rfl rfl (by repeat (first | rfl | refine allOne_cons ?_)) (by simp only [↓nrmL, nrmZ, Nat.reduceEqDiff, ↓reduceIte, Nat.reduceAdd, Int.reduceBEq, Int.reduceBNe, hc, wx, wy, hi]; rfl) ?_
  refine WpO.nil (hKF _ _ ?_)
  refine sq ?_
  refine rg fun KF hKF => ?_
  refine mI rfl ?_
  refine Fo.ldN rfl rfl (by simp only [↓nrmL, nrmZ, Nat.reduceEqDiff, ↓reduceIte, Nat.reduceAdd, Int.reduceBEq, Int.reduceBNe, hc, wx, wy, hi]; rfl) ?_
  refine mI rfl ?_
  refine Fo.fa rfl ?_
  refine Fo.ld rfl rfl ?_
  refine Fo.bin rfl rfl rfl (by simp only [↓nrmL, nrmZ, Nat.reduceEqDiff, ↓reduceIte, Nat.reduceAdd, Int.reduceBEq, Int.reduceBNe, hc, wx, wy, hi]; rfl) ?_
  refine mI rfl ?_
  refine Fo.fa rfl ?_
  refine Fo.ld rfl rfl ?_
  refine Fo.bin rfl rfl rfl (by simp only [↓nrmL, nrmZ, Nat.reduceEqDiff, ↓reduceIte, Nat.reduceAdd, Int.reduceBEq, Int.reduceBNe, hc, wx, wy, hi]; rfl) ?_
  refine Fo.pcall (v' := ?_) hn rfl (by simp only [↓nrmL, nrmZ, Nat.reduceEqDiff, ↓reduceIte, Nat.reduceAdd, Int.reduceBEq, Int.reduceBNe, hc, wx, wy, hi, List.map]; rfl) rfl ?hv fun _ _ => ?_; case hv => (simp only [↓nrmL, nrmZ, Nat.reduceEqDiff, ↓reduceIte, Nat.reduceAdd, Int.reduceBEq, Int.reduceBNe, hc, wx, wy, hi]; rfl)
  refine Fo.now rfl rfl (by simp only [↓nrmL, nrmZ, Nat.reduceEqDiff, ↓reduceIte, Nat.reduceAdd, Int.reduceBEq, Int.reduceBNe, hc, wx, wy, hi]; rfl) ?_
  refine Fo.st rfl (rfl : _ = AVal.bool _) rfl rfl rfl (by repeat (first | rfl | refine allOne_cons ?_)) (by simp only [↓nrmL, nrmZ, Nat.reduceEqDiff, ↓reduceIte, Nat.reduceAdd, Int.reduceBEq, Int.reduceBNe, hc, wx, wy, hi]; rfl) ?_
  refine WpO.nil (hKF _ _ ?_)
  refine sq ?_
  refine rg fun KF hKF => ?_
  refine mI rfl ?_
  refine Fo.now rfl rfl (by simp only [↓nrmL, nrmZ, Nat.reduceEqDiff, ↓reduceIte, Nat.reduceAdd, Int.reduceBEq, Int.reduceBNe, hc, wx, wy, hi]; rfl) ?_
  refine Fo.ld rfl rfl ?_
  refine WpO.nil (hKF _ _ ?_)
  dsimp only [cond_true, cond_false]
  cases hv : R 3
  ·skip
   try simp only [↓nrmL, nrmZ, Nat.reduceEqDiff, ↓reduceIte, Nat.reduceAdd, Int.reduceBEq, Int.reduceBNe, hc]
   refine Wp.cond (b := false) rfl ?_
   refine Wp.skip ?_
   refine rg fun KF hKF => ?_
   refine Fo.bin rfl rfl rfl rfl ?_
   refine mI rfl ?_
   refine WpO.nil (hKF _ _ ?_)
   dsimp only [cond_true, cond_false]
   refine ⟨3 + 1, by omega, ⟨by rw [nbU_off hv]; rfl, rfl, trivial⟩, by omega, (by show HasRow _ r7 [.bool (R 0), .bool (R 1), .bool (R 2), .bool (R 3), .bool false, .bool false, .bool false, .bool false] true (2 * 181); rw [hv]; infer_instance), inferInstance, Ext0.ext⟩
  ·have kk : IntKind.i64.wrap (((nbU R 3 : Nat) : Int) + 1) = ((nbU R (3 + 1) : Nat) : Int) := by rw [nbU_on hv, w64 (by omega)]; omega
   try simp only [↓nrmL, nrmZ, Nat.reduceEqDiff, ↓reduceIte, Nat.reduceAdd, Int.reduceBEq, Int.reduceBNe, hc, kk]
   refine Wp.cond (b := true) rfl ?_
   refine rg fun KF hKF => ?_
   refine mI rfl ?_
   refine Fo.bin rfl rfl rfl (by simp only [↓nrmL, nrmZ, Nat.reduceEqDiff, ↓reduceIte, Nat.reduceAdd, Int.reduceBEq, Int.reduceBNe, hc, kk]; rfl) ?_
   refine mI rfl ?_
   refine WpO.nil (hKF _ _ ?_)
   refine rg fun KF hKF => ?_
   refine Fo.bin rfl rfl rfl rfl ?_
   refine mI rfl ?_
   refine WpO.nil (hKF _ _ ?_)
   dsimp only [cond_true, cond_false]
   refine ⟨3 + 1, by omega, ⟨rfl, rfl, trivial⟩, by omega, (by show HasRow _ r7 [.bool (R 0), .bool (R 1), .bool (R 2), .bool (R 3), .bool false, .bool false, .bool false, .bool false] true (2 * 181); rw [hv]; infer_instance), inferInstance, Ext0.ext⟩
 ·have hrow0 : HasRow H2 r7 [.bool (R 0), .bool (R 1), .bool (R 2), .bool (R 3), .bool false, .bool false, .bool false, .bool false] true (2 * 181) := hrow
  clear hrow
  have hc : decide (((4 : Nat) : Int) < 8) = true := rfl
  have wx : IntKind.i64.wrap ((x : Int) + 0) = (x : Int) + 0 := w64 (by omega)
  have wy : IntKind.i64.wrap ((y : Int) + 1) = (y : Int) + 1 := w64 (by omega)
  have hi : inkB a b l ((x : Int) + 0) ((y : Int) + 1) = R 4 := by rw [← hR]; rfl
  try simp only [↓nrmL, nrmZ, Nat.reduceEqDiff, ↓reduceIte, Nat.reduceAdd, Int.reduceBEq, Int.reduceBNe, hc, wx, wy, hi]
  refine sq ?_
  refine rg fun KF hKF => ?_
  refine Fo.bin rfl rfl rfl (by simp only [↓nrmL, nrmZ, Nat.reduceEqDiff, ↓reduceIte, Nat.reduceAdd, Int.reduceBEq, Int.reduceBNe, hc, wx, wy, hi]; rfl) ?_
  refine WpO.nil (hKF _ _ ?_)
  refine sq ?_
  refine Wp.cond (b := true) rfl ?_
  refine Wp.skip ?_
  refine sq ?_
  refine Wp.block ?_
  refine sq ?_
  refine rg fun KF hKF => ?_
  refine mI rfl ?_
  refine Fo.now rfl rfl (by simp only [↓nrmL, nrmZ, Nat.reduceEqDiff, ↓reduceIte, Nat.reduceAdd, Int.reduceBEq, Int.reduceBNe, hc, wx, wy, hi]; rfl) ?_
  refine Fo.new ?_
  refine mI rfl ?_
  refine Fo.st rfl (rfl : _ = AVal.agg _) rfl rfl rfl (by repeat (first | rfl | refine allOne_cons ?_)) (by simp only [↓nrmL, nrmZ, Nat.reduceEqDiff, ↓reduceIte, Nat.reduceAdd, Int.reduceBEq, Int.reduceBNe, hc, wx, wy, hi]; rfl) ?_
  refine WpO.nil (hKF _ _ ?_)
  refine sq ?_
  refine rg fun KF hKF => ?_
  refine mI rfl ?_
  refine Fo.ldN rfl rfl (by simp only [↓nrmL, nrmZ, Nat.reduceEqDiff, ↓reduceIte, Nat.reduceAdd, Int.reduceBEq, Int.reduceBNe, hc, wx, wy, hi]; rfl) ?_
  refine mI rfl ?_
  refine Fo.fa rfl ?_
  refine Fo.ld rfl rfl ?_
  refine Fo.bin rfl rfl rfl (by simp only [↓nrmL, nrmZ, Nat.reduceEqDiff, ↓reduceIte, Nat.reduceAdd, Int.reduceBEq, Int.reduceBNe, hc, wx, wy, hi]; rfl) ?_
  refine mI rfl ?_
  refine Fo.fa rfl ?_
  refine Fo.ld rfl rfl ?_
  refine Fo.bin rfl rfl rfl (by simp only [↓nrmL, nrmZ, Nat.reduceEqDiff, ↓reduceIte, Nat.reduceAdd, Int.reduceBEq, Int.reduceBNe, hc, wx, wy, hi]; rfl) ?_
  refine Fo.pcall (v' := ?_) hn rfl (by simp only [↓nrmL, nrmZ, Nat.reduceEqDiff, ↓reduceIte, Nat.reduceAdd, Int.reduceBEq, Int.reduceBNe, hc, wx, wy, hi, List.map]; rfl) rfl ?hv fun _ _ => ?_; case hv => (simp only [↓nrmL, nrmZ, Nat.reduceEqDiff, ↓reduceIte, Nat.reduceAdd, Int.reduceBEq, Int.reduceBNe, hc, wx, wy, hi]; rfl)
  refine Fo.now rfl rfl (by simp only [↓nrmL, nrmZ, Nat.reduceEqDiff, ↓reduceIte, Nat.reduceAdd, Int.reduceBEq, Int.reduceBNe, hc, wx, wy, hi]; rfl) ?_
  refine Fo.st rfl (rfl : _ = AVal.bool _) rfl rfl rfl (by repeat (first | rfl | refine allOne_cons ?_)) (by simp only [↓nrmL, nrmZ, Nat.reduceEqDiff, ↓reduceIte, Nat.reduceAdd, Int.reduceBEq, Int.reduceBNe, hc, wx, wy, hi]; rfl) ?_
  refine WpO.nil (hKF _ _ ?_)
  refine sq ?_
  refine rg fun KF hKF => ?_
  refine mI rfl ?_
  refine Fo.now rfl rfl (by simp only [↓nrmL, nrmZ, Nat.reduceEqDiff, ↓reduceIte, Nat.reduceAdd, Int.reduceBEq, Int.reduceBNe, hc, wx, wy, hi]; rfl) ?_
  refine Fo.ld rfl rfl ?_
  refine WpO.nil (hKF _ _ ?_)
  dsimp only [cond_true, cond_false]
  cases hv : R 4
  ·skip
   try simp only [↓nrmL, nrmZ, Nat.reduceEqDiff, ↓reduceIte, Nat.reduceAdd, Int.reduceBEq, Int.reduceBNe, hc]
   refine Wp.cond (b := false) rfl ?_
   refine Wp.skip ?_
   refine rg fun KF hKF => ?_
   refine Fo.bin rfl rfl rfl rfl ?_
   refine mI rfl ?_
   refine WpO.nil (hKF _ _ ?_)
   dsimp only [cond_true, cond_false]
   refine ⟨4 + 1, by omega, ⟨by rw [nbU_off hv]; rfl, rfl, trivial⟩, by omega, (by show HasRow _ r7 [.bool (R 0), .bool (R 1), .bool (R 2), .bool (R 3), .bool (R 4), .bool false, .bool false, .bool false] true (2 * 181); rw [hv]; infer_instance), inferInstance, Ext0.ext⟩
  ·have kk : IntKind.i64.wrap (((nbU R 4 : Nat) : Int) + 1) = ((nbU R (4 + 1) : Nat) : Int) := by rw [nbU_on hv, w64 (by omega)]; omega
   try simp only [↓nrmL, nrmZ, Nat.reduceEqDiff, ↓reduceIte, Nat.reduceAdd, Int.reduceBEq, Int.reduceBNe, hc, kk]
   refine Wp.cond (b := true) rfl ?_
   refine rg fun KF hKF => ?_
   refine mI rfl ?_
   refine Fo.bin rfl rfl rfl (by simp only [↓nrmL, nrmZ, Nat.reduceEqDiff, ↓reduceIte, Nat.reduceAdd, Int.reduceBEq, Int.reduceBNe, hc, kk]; rfl) ?_
   refine mI rfl ?_
   refine WpO.nil (hKF _ _ ?_)
   refine rg fun KF hKF => ?_
   refine Fo.bin rfl rfl rfl rfl ?_
   refine mI rfl ?_
   refine WpO.nil (hKF _ _ ?_)
   dsimp only [cond_true, cond_false]
   refine ⟨4 + 1, by omega, ⟨rfl, rfl, trivial⟩, by omega, (by show HasRow _ r7 [.bool (R 0), .bool (R 1), .bool (R 2), .bool (R 3), .bool (R 4), .bool false, .bool false, .bool false] true (2 * 181); rw [hv]; infer_instance), inferInstance, Ext0.ext⟩
 ·have hrow0 : HasRow H2 r7 [.bool (R 0), .bool (R 1), .bool (R 2), .bool (R 3), .bool (R 4), .bool false, .bool false, .bool false] true (2 * 181) := hrow
  clear hrow
  have hc : decide (((5 : Nat) : Int) < 8) = true := rfl
  have wx : IntKind.i64.wrap ((x : Int) + (-1)) = (x : Int) + (-1) := w64 (by omega)
  have wy : IntKind.i64.wrap ((y : Int) + 1) = (y : Int) + 1 := w64 (by omega)
  have hi : inkB a b l ((x : Int) + (-1)) ((y : Int) + 1) = R 5 := by rw [← hR]; rfl
  try simp only [↓nrmL, nrmZ, Nat.reduceEqDiff, ↓reduceIte, Nat.reduceAdd, Int.reduceBEq, Int.reduceBNe, hc, wx, wy, hi]
  refine sq ?_
  refine rg fun KF hKF => ?_
  refine Fo.bin rfl rfl rfl (by simp only [↓nrmL, nrmZ, Nat.reduceEqDiff, ↓reduceIte, Nat.reduceAdd, Int.reduceBEq, Int.reduceBNe, hc, wx, wy, hi]; rfl) ?_
  refine WpO.nil (hKF _ _ ?_)
  refine sq ?_
  refine Wp.cond (b := true) rfl ?_
  refine Wp.skip ?_
  refine sq ?_
  refine Wp.block ?_
  refine sq ?_
  refine rg fun KF hKF => ?_
  refine mI rfl ?_
  refine Fo.now rfl rfl (by simp only [↓nrmL, nrmZ, Nat.reduceEqDiff, ↓reduceIte, Nat.reduceAdd, Int.reduceBEq, Int.reduceBNe, hc, wx, wy, hi]; rfl) ?_
  refine Fo.new ?_
  refine mI rfl ?_
  refine Fo.st rfl (rfl : _ = AVal.agg _) rfl rfl rfl (by repeat (first | rfl | refine allOne_cons ?_)) (by simp only [↓nrmL, nrmZ, Nat.reduceEqDiff, ↓reduceIte, Nat.reduceAdd, Int.reduceBEq, Int.reduceBNe, hc, wx, wy, hi]; rfl) ?_
  refine WpO.nil (hKF _ _ ?_)
  refine sq ?_
  refine rg fun KF hKF => ?_
  refine mI rfl ?_
  refine Fo.ldN rfl rfl (by simp only [↓nrmL, nrmZ, Nat.reduceEqDiff, ↓reduceIte, Nat.reduceAdd, Int.reduceBEq, Int.reduceBNe, hc, wx, wy, hi]; rfl) ?_
  refine mI rfl ?_
  refine Fo.fa rfl ?_
  refine Fo.ld rfl rfl ?_
  refine Fo.bin rfl rfl rfl (by simp only [↓nrmL, nrmZ, Nat.reduceEqDiff, ↓reduceIte, Nat.reduceAdd, Int.reduceBEq, Int.reduceBNe, hc, wx, wy, hi]; rfl) ?_
  refine mI rfl ?_
  refine Fo.fa rfl ?_
  refine Fo.ld rfl rfl ?_
  refine Fo.bin rfl rfl rfl (by simp only [↓nrmL, nrmZ, Nat.reduceEqDiff, ↓reduceIte, Nat.reduceAdd, Int.reduceBEq, Int.reduceBNe, hc, wx, wy, hi]; rfl) ?_
  refine Fo.pcall (v' := ?_) hn rfl (by simp only [↓nrmL, nrmZ, Nat.reduceEqDiff, ↓reduceIte, Nat.reduceAdd, Int.reduceBEq, Int.reduceBNe, hc, wx, wy, hi, List.map]; rfl) rfl ?hv fun _ _ => ?_; case hv => (simp only [↓nrmL, nrmZ, Nat.reduceEqDiff, ↓reduceIte, Nat.reduceAdd, Int.reduceBEq, Int.reduceBNe, hc, wx, wy, hi]; rfl)
  refine Fo.now rfl rfl (by simp only [↓nrmL, nrmZ, Nat.reduceEqDiff, ↓reduceIte, Nat.reduceAdd, Int.reduceBEq, Int.reduceBNe, hc, wx, wy, hi]; rfl) ?_
  refine Fo.st rfl (rfl : _ = AVal.bool _) rfl rfl rfl (by repeat (first | rfl | refine allOne_cons ?_)) (by simp only [↓nrmL, nrmZ, Nat.reduceEqDiff, ↓reduceIte, Nat.reduceAdd, Int.reduceBEq, Int.reduceBNe, hc, wx, wy, hi]; rfl) ?_
  refine WpO.nil (hKF _ _ ?_)
  refine sq ?_
  refine rg fun KF hKF => ?_
  refine mI rfl ?_
  refine Fo.now rfl rfl (by simp only [↓nrmL, nrmZ, Nat.reduceEqDiff, ↓reduceIte, Nat.reduceAdd, Int.reduceBEq, Int.reduceBNe, hc, wx, wy, hi]; rfl) ?_
  refine Fo.ld rfl rfl ?_
  refine WpO.nil (hKF _ _ ?_)
  dsimp only [cond_true, cond_false]
  cases hv : R 5
  ·skip
   try simp only [↓nrmL, nrmZ, Nat.reduceEqDiff, ↓reduceIte, Nat.reduceAdd, Int.reduceBEq, Int.reduceBNe, hc]
   refine Wp.cond (b := false) rfl ?_
   refine Wp.skip ?_
   refine rg fun KF hKF => ?_
   refine Fo.bin rfl rfl rfl rfl ?_
   refine mI rfl ?_
   refine WpO.nil (hKF _ _ ?_)
   dsimp only [cond_true, cond_false]
   refine ⟨5 + 1, by omega, ⟨by rw [nbU_off hv]; rfl, rfl, trivial⟩, by omega, (by show HasRow _ r7 [.bool (R 0), .bool (R 1), .bool (R 2), .bool (R 3), .bool (R 4), .bool (R 5), .bool false, .bool false] true (2 * 181); rw [hv]; infer_instance), inferInstance, Ext0.ext⟩
  ·have kk : IntKind.i64.wrap (((nbU R 5 : Nat) : Int) + 1) = ((nbU R (5 + 1) : Nat) : Int) := by rw [nbU_on hv, w64 (by omega)]; omega
   try simp only [↓nrmL, nrmZ, Nat.reduceEqDiff, ↓reduceIte, Nat.reduceAdd, Int.reduceBEq, Int.reduceBNe, hc, kk]
   refine Wp.cond (b := true) rfl ?_
   refine rg fun KF hKF => ?_
   refine mI rfl ?_
   refine Fo.bin rfl rfl rfl (by simp only [↓nrmL, nrmZ, Nat.reduceEqDiff, ↓reduceIte, Nat.reduceAdd, Int.reduceBEq, Int.reduceBNe, hc, kk]; rfl) ?_
   refine mI rfl ?_
   refine WpO.nil (hKF _ _ ?_)
   refine rg fun KF hKF => ?_
   refine Fo.bin rfl rfl rfl rfl ?_
   refine mI rfl ?_
   refine WpO.nil (hKF _ _ ?_)
   dsimp only [cond_true, cond_false]
   refine ⟨5 + 1, by omega, ⟨rfl, rfl, trivial⟩, by omega, (by show HasRow _ r7 [.bool (R 0), .bool (R 1), .bool (R 2), .bool (R 3), .bool (R 4), .bool (R 5), .bool false, .bool false] true (2 * 181); rw [hv]; infer_instance), inferInstance, Ext0.ext⟩
 ·have hrow0 : HasRow H2 r7 [.bool (R 0), .bool (R 1), .bool (R 2), .bool (R 3), .bool (R 4), .bool (R 5), .bool false, .bool false] true (2 * 181) := hrow
  clear hrow
  have hc : decide (((6 : Nat) : Int) < 8) = true := rfl
  have wx : IntKind.i64.wrap ((x : Int) + (-1)) = (x : Int) + (-1) := w64 (by omega)
  have wy : IntKind.i64.wrap ((y : Int) + 0) = (y : Int) + 0 := w64 (by omega)
  have hi : inkB a b l ((x : Int) + (-1)) ((y : Int) + 0) = R 6 := by rw [← hR]; rfl
  try simp only [↓nrmL, nrmZ, Nat.reduceEqDiff, ↓reduceIte, Nat.reduceAdd, Int.reduceBEq, Int.reduceBNe, hc, wx, wy, hi]
  refine sq ?_
  refine rg fun KF hKF => ?_
  refine Fo.bin rfl rfl rfl (by simp only [↓nrmL, nrmZ, Nat.reduceEqDiff, ↓reduceIte, Nat.reduceAdd, Int.reduceBEq, Int.reduceBNe, hc, wx, wy, hi]; rfl) ?_
  refine WpO.nil (hKF _ _ ?_)
  refine sq ?_
  refine Wp.cond (b := true) rfl ?_
  refine Wp.skip ?_
  refine sq ?_
  refine Wp.block ?_
  refine sq ?_
  refine rg fun KF hKF => ?_
  refine mI rfl ?_
  refine Fo.now rfl rfl (by simp only [↓nrmL, nrmZ, Nat.reduceEqDiff, ↓reduceIte, Nat.reduceAdd, Int.reduceBEq, Int.reduceBNe, hc, wx, wy, hi]; rfl) ?_
  refine Fo.new ?_
  refine mI rfl ?_
  refine Fo.st rfl (rfl : _ = AVal.agg _) rfl rfl rfl (by repeat (first | rfl | refine allOne_cons ?_)) (by simp only [↓nrmL, nrmZ, Nat.reduceEqDiff, ↓reduceIte, Nat.reduceAdd, Int.reduceBEq, Int.reduceBNe, hc, wx, wy, hi]; rfl) ?_
  refine WpO.nil (hKF _ _ ?_)
  refine sq ?_
  refine rg fun KF hKF => ?_
  refine mI rfl ?_
  refine Fo.ldN rfl rfl (by simp only [↓nrmL, nrmZ, Nat.reduceEqDiff, ↓reduceIte, Nat.reduceAdd, Int.reduceBEq, Int.reduceBNe, hc, wx, wy, hi]; rfl) ?_
  refine mI rfl ?_
  refine Fo.fa rfl ?_
  refine Fo.ld rfl rfl ?_
  refine Fo.bin rfl rfl rfl (by simp only [↓nrmL, nrmZ, Nat.reduceEqDiff, ↓reduceIte, Nat.reduceAdd, Int.reduceBEq, Int.reduceBNe, hc, wx, wy, hi]; rfl) ?_
  refine mI rfl ?_
  refine Fo.fa rfl ?_
  refine Fo.ld rfl rfl ?_
  refine Fo.bin rfl rfl rfl (by simp only [↓nrmL, nrmZ, Nat.reduceEqDiff, ↓reduceIte, Nat.reduceAdd, Int.reduceBEq, Int.reduceBNe, hc, wx, wy, hi]; rfl) ?_
  refine Fo.pcall (v' := ?_) hn rfl (by simp only [↓nrmL, nrmZ, Nat.reduceEqDiff, ↓reduceIte, Nat.reduceAdd, Int.reduceBEq, Int.reduceBNe, hc, wx, wy, hi, List.map]; rfl) rfl ?hv fun _ _ => ?_; case hv => (simp only [↓nrmL, nrmZ, Nat.reduceEqDiff, ↓reduceIte, Nat.reduceAdd, Int.reduceBEq, Int.reduceBNe, hc, wx, wy, hi]; rfl)
  refine Fo.now rfl rfl (by simp only [↓nrmL, nrmZ, Nat.reduceEqDiff, ↓reduceIte, Nat.reduceAdd, Int.reduceBEq, Int.reduceBNe, hc, wx, wy, hi]; rfl) ?_
  refine Fo.st rfl (rfl : _ = AVal.bool _) rfl rfl rfl (by repeat (first | rfl | refine allOne_cons ?_)) (by simp only [↓nrmL, nrmZ, Nat.reduceEqDiff, ↓reduceIte, Nat.reduceAdd, Int.reduceBEq, Int.reduceBNe, hc, wx, wy, hi]; rfl) ?_
  refine WpO.nil (hKF _ _ ?_)
  refine sq ?_
  refine rg fun KF hKF => ?_
  refine mI rfl ?_
  refine Fo.now rfl rfl (by simp only [↓nrmL, nrmZ, Nat.reduceEqDiff, ↓reduceIte, Nat.reduceAdd, Int.reduceBEq, Int.reduceBNe, hc, wx, wy, hi]; rfl) ?_
  refine Fo.ld rfl rfl ?_
  refine WpO.nil (hKF _ _ ?_)
  dsimp only [cond_true, cond_false]
  cases hv : R 6
  ·skip
   try simp only [↓nrmL, nrmZ, Nat.reduceEqDiff, ↓reduceIte, Nat.reduceAdd, Int.reduceBEq, Int.reduceBNe, hc]
   refine Wp.cond (b := false) rfl ?_
   refine Wp.skip ?_
   refine rg fun KF hKF => ?_
   refine Fo.bin rfl rfl rfl rfl ?_
   refine mI rfl ?_
   refine WpO.nil (hKF _ _ ?_)
   dsimp only [cond_true, cond_false]
   refine ⟨6 + 1, by omega, ⟨by rw [nbU_off hv]; rfl, rfl, trivial⟩, by omega, (by show HasRow _ r7 [.bool (R 0), .bool (R 1), .bool (R 2), .bool (R 3), .bool (R 4), .bool (R 5), .bool (R 6), .bool false] true (2 * 181); rw [hv]; infer_instance), inferInstance, Ext0.ext⟩
  ·have kk : IntKind.i64.wrap (((nbU R 6 : Nat) : Int) + 1) = ((nbU R (6 + 1) : Nat) : Int) := by rw [nbU_on hv, w64 (by omega)]; omega
   try simp only [↓nrmL, nrmZ, Nat.reduceEqDiff, ↓reduceIte, Nat.reduceAdd, Int.reduceBEq, Int.reduceBNe, hc, kk]
   refine Wp.cond (b := true) rfl ?_
   refine rg fun KF hKF => ?_
   refine mI rfl ?_
   refine Fo.bin rfl rfl rfl (by simp only [↓nrmL, nrmZ, Nat.reduceEqDiff, ↓reduceIte, Nat.reduceAdd, Int.reduceBEq, Int.reduceBNe, hc, kk]; rfl) ?_
   refine mI rfl ?_
   refine WpO.nil (hKF _ _ ?_)
   refine rg fun KF hKF => ?_
   refine Fo.bin rfl rfl rfl rfl ?_
   refine mI rfl ?_
   refine WpO.nil (hKF _ _ ?_)
   dsimp only [cond_true, cond_false]
   refine ⟨6 + 1, by omega, ⟨rfl, rfl, trivial⟩, by omega, (by show HasRow _ r7 [.bool (R 0), .bool (R 1), .bool (R 2), .bool (R 3), .bool (R 4), .bool (R 5), .bool (R 6), .bool false] true (2 * 181); rw [hv]; infer_instance), inferInstance, Ext0.ext⟩
 ·have hrow0 : HasRow H2 r7 [.bool (R 0), .bool (R 1), .bool (R 2), .bool (R 3), .bool (R 4), .bool (R 5), .bool (R 6), .bool false] true (2 * 181) := hrow
  clear hrow
  have hc : decide (((7 : Nat) : Int) < 8) = true := rfl
  have wx : IntKind.i64.wrap ((x : Int) + (-1)) = (x : Int) + (-1) := w64 (by omega)
  have wy : IntKind.i64.wrap ((y : Int) + (-1)) = (y : Int) + (-1) := w64 (by omega)
  have hi : inkB a b l ((x : Int) + (-1)) ((y : Int) + (-1)) = R 7 := by rw [← hR]; rfl
  try simp only [↓nrmL, nrmZ, Nat.reduceEqDiff, ↓reduceIte, Nat.reduceAdd, Int.reduceBEq, Int.reduceBNe, hc, wx, wy, hi]
  refine sq ?_
  refine rg fun KF hKF => ?_
  refine Fo.bin rfl rfl rfl (by simp only [↓nrmL, nrmZ, Nat.reduceEqDiff, ↓reduceIte, Nat.reduceAdd, Int.reduceBEq, Int.reduceBNe, hc, wx, wy, hi]; rfl) ?_
  refine WpO.nil (hKF _ _ ?_)
  refine sq ?_
  refine Wp.cond (b := true) rfl ?_
  refine Wp.skip ?_
  refine sq ?_
  refine Wp.block ?_
  refine sq ?_
  refine rg fun KF hKF => ?_
  refine mI rfl ?_
  refine Fo.now rfl rfl (by simp only [↓nrmL, nrmZ, Nat.reduceEqDiff, ↓reduceIte, Nat.reduceAdd, Int.reduceBEq, Int.reduceBNe, hc, wx, wy, hi]; rfl) ?_
  refine Fo.new ?_
  refine mI rfl ?_
  refine Fo.st rfl (rfl : _ = AVal.agg _) rfl rfl rfl (by repeat (first | rfl | refine allOne_cons ?_)) (by simp only [↓nrmL, nrmZ, Nat.reduceEqDiff, ↓reduceIte, Nat.reduceAdd, Int.reduceBEq, Int.reduceBNe, hc, wx, wy, hi]; rfl) ?_
  refine WpO.nil (hKF _ _ ?_)
  refine sq ?_
  refine rg fun KF hKF => ?_
  refine mI rfl ?_
  refine Fo.ldN rfl rfl (by simp only [↓nrmL, nrmZ, Nat.reduceEqDiff, ↓reduceIte, Nat.reduceAdd, Int.reduceBEq, Int.reduceBNe, hc, wx, wy, hi]; rfl) ?_
  refine mI rfl ?_
  refine Fo.fa rfl ?_
  refine Fo.ld rfl rfl ?_
  refine Fo.bin rfl rfl rfl (by simp only [↓nrmL, nrmZ, Nat.reduceEqDiff, ↓reduceIte, Nat.reduceAdd, Int.reduceBEq, Int.reduceBNe, hc, wx, wy, hi]; rfl) ?_
  refine mI rfl ?_
  refine Fo.fa rfl ?_
  refine Fo.ld rfl rfl ?_
  refine Fo.bin rfl rfl rfl (by simp only [↓nrmL, nrmZ, Nat.reduceEqDiff, ↓reduceIte, Nat.reduceAdd, Int.reduceBEq, Int.reduceBNe, hc, wx, wy, hi]; rfl) ?_
  refine Fo.pcall (v' := ?_) hn rfl (by simp only [↓nrmL, nrmZ, Nat.reduceEqDiff, ↓reduceIte, Nat.reduceAdd, Int.reduceBEq, Int.reduceBNe, hc, wx, wy, hi, List.map]; rfl) rfl ?hv fun _ _ => ?_; case hv => (simp only [↓nrmL, nrmZ, Nat.reduceEqDiff, ↓reduceIte, Nat.reduceAdd, Int.reduceBEq, Int.reduceBNe, hc, wx, wy, hi]; rfl)
  refine Fo.now rfl rfl (by simp only [↓nrmL, nrmZ, Nat.reduceEqDiff, ↓reduceIte, Nat.reduceAdd, Int.reduceBEq, Int.reduceBNe, hc, wx, wy, hi]; rfl) ?_
  refine Fo.st rfl (rfl : _ = AVal.bool _) rfl rfl rfl (by repeat (first | rfl | refine allOne_cons ?_)) (by simp only [↓nrmL, nrmZ, Nat.reduceEqDiff, ↓reduceIte, Nat.reduceAdd, Int.reduceBEq, Int.reduceBNe, hc, wx, wy, hi]; rfl) ?_
  refine WpO.nil (hKF _ _ ?_)
  refine sq ?_
  refine rg fun KF hKF => ?_
  refine mI rfl ?_
  refine Fo.now rfl rfl (by simp only [↓nrmL, nrmZ, Nat.reduceEqDiff, ↓reduceIte, Nat.reduceAdd, Int.reduceBEq, Int.reduceBNe, hc, wx, wy, hi]; rfl) ?_
  refine Fo.ld rfl rfl ?_
  refine WpO.nil (hKF _ _ ?_)
  dsimp only [cond_true, cond_false]
  cases hv : R 7
  ·skip
   try simp only [↓nrmL, nrmZ, Nat.reduceEqDiff, ↓reduceIte, Nat.reduceAdd, Int.reduceBEq, Int.reduceBNe, hc]
   refine Wp.cond (b := false) rfl ?_
   refine Wp.skip ?_
   refine rg fun KF hKF => ?_
   refine Fo.bin rfl rfl rfl rfl ?_
   refine mI rfl ?_
   refine WpO.nil (hKF _ _ ?_)
   dsimp only [cond_true, cond_false]
   refine ⟨7 + 1, by omega, ⟨by rw [nbU_off hv]; rfl, rfl, trivial⟩, by omega, (by show HasRow _ r7 [.bool (R 0), .bool (R 1), .bool (R 2), .bool (R 3), .bool (R 4), .bool (R 5), .bool (R 6), .bool (R 7)] true (2 * 181); rw [hv]; infer_instance), inferInstance, Ext0.ext⟩
  ·have kk : IntKind.i64.wrap (((nbU R 7 : Nat) : Int) + 1) = ((nbU R (7 + 1) : Nat) : Int) := by rw [nbU_on hv, w64 (by omega)]; omega
   try simp only [↓nrmL, nrmZ, Nat.reduceEqDiff, ↓reduceIte, Nat.reduceAdd, Int.reduceBEq, Int.reduceBNe, hc, kk]
   refine Wp.cond (b := true) rfl ?_
   refine rg fun KF hKF => ?_
   refine mI rfl ?_
   refine Fo.bin rfl rfl rfl (by simp only [↓nrmL, nrmZ, Nat.reduceEqDiff, ↓reduceIte, Nat.reduceAdd, Int.reduceBEq, Int.reduceBNe, hc, kk]; rfl) ?_
   refine mI rfl ?_
   refine WpO.nil (hKF _ _ ?_)
   refine rg fun KF hKF => ?_
   refine Fo.bin rfl rfl rfl rfl ?_
   refine mI rfl ?_
   refine WpO.nil (hKF _ _ ?_)
   dsimp only [cond_true, cond_false]
   refine ⟨7 + 1, by omega, ⟨rfl, rfl, trivial⟩, by omega, (by show HasRow _ r7 [.bool (R 0), .bool (R 1), .bool (R 2), .bool (R 3), .bool (R 4), .bool (R 5), .bool (R 6), .bool (R 7)] true (2 * 181); rw [hv]; infer_instance), inferInstance, Ext0.ext⟩
 ·have hrow0 : HasRow H2 r7 [.bool (R 0), .bool (R 1), .bool (R 2), .bool (R 3), .bool (R 4), .bool (R 5), .bool (R 6), .bool (R 7)] true (2 * 181) := hrow
  clear hrow
  have hc : decide (((8 : Nat) : Int) < 8) = false := rfl
  have e8 := nbU_all R
  have h1 : goesB R = ((((pcN (of8 (R 0) (R 1) (R 2) (R 3) (R 4) (R 5) (R 6) (R 7)) : Nat) : Int) == 1) && decide (((nbU R 8 : Nat) : Int) > 1)) := by
   rw [e8]
   show ((pcN R == 1) && decide (nbN R > 1)) = _
   have e1 : (pcN R == 1) = (((pcN R : Nat) : Int) == 1) := by
    rw [Bool.eq_iff_iff, beq_iff_eq, beq_iff_eq]; omega
   have e2 : decide (nbN R > 1) = decide (((nbN R : Nat) : Int) > 1) := by
    rw [Bool.eq_iff_iff, decide_eq_true_iff, decide_eq_true_iff]; omega
   rw [e1, e2]; rfl
  try simp only [↓nrmL, nrmZ, Nat.reduceEqDiff, ↓reduceIte, Nat.reduceAdd, Int.reduceBEq, Int.reduceBNe, hc]
  refine sq ?_
  refine rg fun KF hKF => ?_
  refine Fo.bin rfl rfl rfl (by simp only [↓nrmL, nrmZ, Nat.reduceEqDiff, ↓reduceIte, Nat.reduceAdd, Int.reduceBEq, Int.reduceBNe, hc]; rfl) ?_
  refine WpO.nil (hKF _ _ ?_)
  refine sq ?_
  refine Wp.cond (b := false) rfl ?_
  refine Wp.exit ?_
  refine sq ?_
  refine rg fun KF hKF => ?_
  refine Fo.ldN rfl rfl (by simp only [↓nrmL, nrmZ, Nat.reduceEqDiff, ↓reduceIte, Nat.reduceAdd, Int.reduceBEq, Int.reduceBNe, hc]; rfl) ?_
  refine Fo.pcall (v' := ?_) hn rfl (by simp only [↓nrmL, nrmZ, Nat.reduceEqDiff, ↓reduceIte, Nat.reduceAdd, Int.reduceBEq, Int.reduceBNe, hc, List.map]; rfl) rfl ?hv fun _ _ => ?_; case hv => rfl
  refine Fo.bin rfl rfl rfl rfl ?_
  refine mB rfl ?_
  cases hv : (((pcN (of8 (R 0) (R 1) (R 2) (R 3) (R 4) (R 5) (R 6) (R 7)) : Nat) : Int) == 1)
  ·skip
   try simp only [↓nrmL, nrmZ, Nat.reduceEqDiff, ↓reduceIte, Nat.reduceAdd, Int.reduceBEq, Int.reduceBNe, hc]
   refine Fo.no rfl rfl ?_
   refine Fo.no rfl rfl ?_
   refine fB rfl rfl ?_
   refine mB rfl ?_
   refine WpO.nil (hKF _ _ ?_)
   refine Wp.ret ?_
   dsimp only [cond_true, cond_false]
   refine ⟨trivial, _, (by first | rfl | exact getAllC rfl rfl rfl rfl | exact getAllT rfl (getAllC rfl rfl rfl rfl) | exact getAllC rfl rfl rfl (getAllC rfl rfl rfl rfl) | exact getAllC1 rfl rfl rfl), ?_⟩
   exact ⟨by rw [h1, hv]; rfl, Ext0.ext⟩
  ·skip
   try simp only [↓nrmL, nrmZ, Nat.reduceEqDiff, ↓reduceIte, Nat.reduceAdd, Int.reduceBEq, Int.reduceBNe, hc]
   refine Fo.yes rfl rfl ?_
   refine mI rfl ?_
   refine Fo.yes rfl rfl ?_
   refine Fo.bin rfl rfl rfl rfl ?_
   refine tB rfl rfl ?_
   refine mB rfl ?_
   refine WpO.nil (hKF _ _ ?_)
   refine Wp.ret ?_
   dsimp only [cond_true, cond_false]
   refine ⟨trivial, _, (by first | rfl | exact getAllC rfl rfl rfl rfl | exact getAllT rfl (getAllC rfl rfl rfl rfl) | exact getAllC rfl rfl rfl (getAllC rfl rfl rfl rfl) | exact getAllC1 rfl rfl rfl), ?_⟩
   exact ⟨by rw [h1, hv]; rfl, Ext0.ext⟩
end Go.Am

set_option maxHeartbeats 8000000
set_option maxRecDepth 100000
set_option synthInstance.maxHeartbeats 4000000
set_option synthInstance.maxSize 100000
namespace Go.Am
open Go
attribute [local irreducible] Wp WpO WpX WpE

theorem dst_on {a b u v : Nat} {r : List UInt8} {x y : Int} {D : List UInt8} {t : Nat} (h : ringF a b r x y t = true) (hx : x + dxN t = u) (hy : y + dyN t = v) : dstL a b r x y (t + 1) D = (dstL a b r x y t D).set (v * a + u) 1 := by
 show (if ringF a b r x y t = true then _ else _) = _
 rw [if_pos h, hx, hy, idx_of]
theorem dst_off {a b : Nat} {r : List UInt8} {x y : Int} {D : List UInt8} {t : Nat} (h : ringF a b r x y t = false) : dstL a b r x y (t + 1) D = dstL a b r x y t D := by
 show (if ringF a b r x y t = true then _ else _) = _
 rw [if_neg (by rw [h]; decide)]
theorem K_disturb {a b x y : Nat} {p d : AVal} {H : AHeap} {l D : List UInt8} [hp : BytesI H p l] [hd : BytesI H d D] [hw : WrS H d] [hsep : SepS p d] [hs : Fits a b l] [ht : Tabs H] (hz : RowNe d 0) (hD : D.length = a * b) (ha : a ≤ 640) (hb : b ≤ 640) (hx : x ≤ 640) (hy : y ≤ 640) : Con ext prog 2 130 [.agg [.int .i64 a, .int .i64 b, p], d, .int .i64 x, .int .i64 y] H fun _ H' => BytesI H' d (dstL a b l x y 8 D) ∧ WrS H' d ∧ ExtP H H' d := by
 refine con_of (show prog 130 = some c130 from rfl) rfl rfl fun n hn => ?_
 haveI := hp.one
 haveI := hd.one
 have hm : a * b ≤ 640 * 640 := Nat.mul_le_mul ha hb
 refine sq ?_
 refine rg fun KF hKF => ?_
 refine Fo.boxA rfl ?_
 refine WpO.nil (hKF _ _ ?_)
 refine sq ?_
 refine rg fun KF hKF => ?_
 refine WpO.do (WpX.tab ?_)
 refine mI rfl ?_
 refine WpO.nil (hKF _ _ ?_)
 refine Wp.block ?_
 dsimp only [cond_true, cond_false]
 refine Wp.loopS [9, 11, 12, 13, 14, 15, 16, 17, 18, 19, 20, 21, 22, 23, 24, 25, 26, 27, 28, 29, 30, 31, 32, 33, 34, 35, 36, 37, 38] (fun t : Nat => [(11, .int .i64 (t : Int))]) (fun H3 t H2 => t ≤ 8 ∧ BytesI H2 d (dstL a b l x y t D) ∧ WrS H2 d ∧ HasRow H2 H.n [.int .i64 a, .int .i64 b, p] true (2 * 24) ∧ BytesI H2 p l ∧ ExtP H H2 d) (fun t => 8 - t) 0 rfl (fun _ => rfl) ⟨rfl, trivial⟩ ⟨Nat.zero_le _, (inferInstance : BytesI _ d D), inferInstance, inferInstance, inferInstance, ExtP0.ext⟩ (by unfold fuel0 at hn; omega) ?_
 rintro t g H2 ⟨htl, hb2, hw2, hbox, hp2, hx2⟩
 haveI : ExtP0 H H2 d := ⟨hx2⟩
 simp only [↓nrmL, nrmZ, Nat.reduceEqDiff, ↓reduceIte, Nat.reduceAdd, Int.reduceBEq, Int.reduceBNe]
 have hnd : RowNe d H.n := ⟨fun r off len cap sz e => Nat.ne_of_lt (hd.lt e)⟩
 obtain rfl | rfl | rfl | rfl | rfl | rfl | rfl | rfl | rfl : t = 0 ∨ t = 1 ∨ t = 2 ∨ t = 3 ∨ t = 4 ∨ t = 5 ∨ t = 6 ∨ t = 7 ∨ t = 8 := by omega
 ·have hc : decide (((0 : Nat) : Int) < 8) = true := rfl
  have wx : IntKind.i64.wrap ((x : Int) + 0) = (x : Int) + 0 := w64 (by omega)
  have wy : IntKind.i64.wrap ((y : Int) + (-1)) = (y : Int) + (-1) := w64 (by omega)
  have hi : inkB a b l ((x : Int) + 0) ((y : Int) + (-1)) = ringF a b l x y 0 := rfl
  try simp only [↓nrmL, nrmZ, Nat.reduceEqDiff, ↓reduceIte, Nat.reduceAdd, Int.reduceBEq, Int.reduceBNe, hc, wx, wy, hi]
  refine sq ?_
  refine rg fun KF hKF => ?_
  refine Fo.bin rfl rfl rfl (by simp only [↓nrmL, nrmZ, Nat.reduceEqDiff, ↓reduceIte, Nat.reduceAdd, Int.reduceBEq, Int.reduceBNe, hc, wx, wy, hi]; rfl) ?_
  refine WpO.nil (hKF _ _ ?_)
  refine sq ?_
  refine Wp.cond (b := true) rfl ?_
  refine Wp.skip ?_
  refine sq ?_
  refine Wp.block ?_
  refine sq ?_
  refine rg fun KF hKF => ?_
  refine Fo.now rfl rfl (by simp only [↓nrmL, nrmZ, Nat.reduceEqDiff, ↓reduceIte, Nat.reduceAdd, Int.reduceBEq, Int.reduceBNe, hc, wx, wy, hi]; rfl) ?_
  refine Fo.new ?_
  refine Fo.st rfl (rfl : _ = AVal.agg _) rfl rfl rfl (by repeat (first | rfl | refine allOne_cons ?_)) (by simp only [↓nrmL, nrmZ, Nat.reduceEqDiff, ↓reduceIte, Nat.reduceAdd, Int.reduceBEq, Int.reduceBNe, hc, wx, wy, hi]; rfl) ?_
  refine WpO.nil (hKF _ _ ?_)
  refine sq ?_
  refine rg fun KF hKF => ?_
  refine Fo.ldN rfl rfl (by simp only [↓nrmL, nrmZ, Nat.reduceEqDiff, ↓reduceIte, Nat.reduceAdd, Int.reduceBEq, Int.reduceBNe, hc, wx, wy, hi]; rfl) ?_
  refine mI rfl ?_
  refine Fo.fa rfl ?_
  refine Fo.ld rfl rfl ?_
  refine Fo.bin rfl rfl rfl (by simp only [↓nrmL, nrmZ, Nat.reduceEqDiff, ↓reduceIte, Nat.reduceAdd, Int.reduceBEq, Int.reduceBNe, hc, wx, wy, hi]; rfl) ?_
  refine mI rfl ?_
  refine Fo.fa rfl ?_
  refine Fo.ld rfl rfl ?_
  refine Fo.bin rfl rfl rfl (by simp only [↓nrmL, nrmZ, Nat.reduceEqDiff, ↓reduceIte, Nat.reduceAdd, Int.reduceBEq, Int.reduceBNe, hc, wx, wy, hi]; rfl) ?_
  refine Fo.pcall (v' := ?_) hn rfl (by simp only [↓nrmL, nrmZ, Nat.reduceEqDiff, ↓reduceIte, Nat.reduceAdd, Int.reduceBEq, Int.reduceBNe, hc, wx, wy, hi, List.map]; rfl) rfl ?hv fun _ _ => ?_; case hv => (simp only [↓nrmL, nrmZ, Nat.reduceEqDiff, ↓reduceIte, Nat.reduceAdd, Int.reduceBEq, Int.reduceBNe, hc, wx, wy, hi]; rfl)
  refine WpO.nil (hKF _ _ ?_)
  dsimp only [cond_true, cond_false]
  cases hv : ringF a b l x y 0
  ·skip
   refine Wp.cond (b := false) rfl ?_
   refine Wp.skip ?_
   refine rg fun KF hKF => ?_
   refine Fo.bin rfl rfl rfl rfl ?_
   refine mI rfl ?_
   refine WpO.nil (hKF _ _ ?_)
   dsimp only [cond_true, cond_false]
   refine ⟨0 + 1, by omega, ⟨rfl, trivial⟩, by omega, by rw [dst_off hv]; infer_instance, inferInstance, inferInstance, inferInstance, ExtP0.ext⟩
  ·obtain ⟨u, v, e1, e2, hu, hvb, _⟩ := inkB_true hv
   have e1' : (x : Int) + 0 = (u : Int) := e1
   have e2' : (y : Int) + (-1) = (v : Int) := e2
   have hidx := idx_lt hu hvb
   have hva : v * a ≤ 640 * 640 := Nat.mul_le_mul (by omega) ha
   have m1 : IntKind.i64.wrap (((y : Int) + (-1)) * (a : Int)) = ((v * a : Nat) : Int) := by rw [e2']; exact wm (by omega)
   have m2 : IntKind.i64.wrap (((v * a : Nat) : Int) + (x : Int)) = ((v * a + x : Nat) : Int) := wa (by omega)
   have m3 : IntKind.i64.wrap (((v * a + x : Nat) : Int) + 0) = ((v * a + u : Nat) : Int) := by rw [w64 (by omega)]; omega
   have hlen := dst_length (a := a) (b := b) (r := l) (x := (x : Int)) (y := (y : Int)) (d := D) 0
   try simp only [↓nrmL, nrmZ, Nat.reduceEqDiff, ↓reduceIte, Nat.reduceAdd, Int.reduceBEq, Int.reduceBNe, wy, m1, m2, m3]
   refine Wp.cond (b := true) rfl ?_
   refine rg fun KF hKF => ?_
   refine Fo.mov (by simp only [↓nrmL, nrmK, Nat.reduceEqDiff, ↓reduceIte]; rfl) ?_
   refine mI rfl ?_
   refine Fo.fa rfl ?_
   refine Fo.ld rfl rfl ?_
   refine Fo.bin rfl rfl rfl (by simp only [↓nrmL, nrmZ, Nat.reduceEqDiff, ↓reduceIte, Nat.reduceAdd, Int.reduceBEq, Int.reduceBNe, wy, m1, m2, m3]; rfl) ?_
   refine Fo.fa rfl ?_
   refine Fo.ld rfl rfl ?_
   refine Fo.bin rfl rfl rfl (by simp only [↓nrmL, nrmZ, Nat.reduceEqDiff, ↓reduceIte, Nat.reduceAdd, Int.reduceBEq, Int.reduceBNe, wy, m1, m2, m3]; rfl) ?_
   refine mI rfl ?_
   refine Fo.bin rfl rfl rfl (by simp only [↓nrmL, nrmZ, Nat.reduceEqDiff, ↓reduceIte, Nat.reduceAdd, Int.reduceBEq, Int.reduceBNe, wy, m1, m2, m3]; rfl) ?_
   refine Fo.fa rfl ?_
   refine Fo.ld rfl rfl ?_
   refine Fo.bin rfl rfl rfl (by simp only [↓nrmL, nrmZ, Nat.reduceEqDiff, ↓reduceIte, Nat.reduceAdd, Int.reduceBEq, Int.reduceBNe, wy, m1, m2, m3]; rfl) ?_
   refine Fo.idx (by simp only [↓nrmL, nrmK, Nat.reduceEqDiff, ↓reduceIte]; rfl) rfl ?_ (by simp only [↓nrmL, nrmZ, Nat.reduceEqDiff, ↓reduceIte, Nat.reduceAdd, Int.reduceBEq, Int.reduceBNe, wy, m1, m2, m3]; rfl) ?_; (focus omega)
   refine WpO.do' (WpX.stB (p := d) (j := v * a + u) (l := dstL a b l x y 0 D) 1 rfl rfl rfl (by rw [hlen, hD]; exact hidx) fun H6 hb6 hw6 hx6 => ?_)
   rw [← dst_on hv e1 e2] at hb6
   refine WpO.nil (hKF _ _ ?_)
   refine rg fun KF hKF => ?_
   refine Fo.bin rfl rfl rfl rfl ?_
   refine mI rfl ?_
   refine WpO.nil (hKF _ _ ?_)
   dsimp only [cond_true, cond_false]
   refine ⟨0 + 1, by omega, ⟨rfl, trivial⟩, by omega, hb6, hw6, inferInstance, inferInstance, ExtP0.ext⟩
 ·have hc : decide (((1 : Nat) : Int) < 8) = true := rfl
  have wx : IntKind.i64.wrap ((x : Int) + 1) = (x : Int) + 1 := w64 (by omega)
  have wy : IntKind.i64.wrap ((y : Int) + (-1)) = (y : Int) + (-1) := w64 (by omega)
  have hi : inkB a b l ((x : Int) + 1) ((y : Int) + (-1)) = ringF a b l x y 1 := rfl
  try simp only [↓nrmL, nrmZ, Nat.reduceEqDiff, ↓reduceIte, Nat.reduceAdd, Int.reduceBEq, Int.reduceBNe, hc, wx, wy, hi]
  refine sq ?_
  refine rg fun KF hKF => ?_
  refine Fo.bin rfl rfl rfl (by simp only [↓nrmL, nrmZ, Nat.reduceEqDiff, ↓reduceIte, Nat.reduceAdd, Int.reduceBEq, Int.reduceBNe, hc, wx, wy, hi]; rfl) ?_
  refine WpO.nil (hKF _ _ ?_)
  refine sq ?_
  refine Wp.cond (b := true) rfl ?_
  refine Wp.skip ?_
  refine sq ?_
  refine Wp.block ?_
  refine sq ?_
  refine rg fun KF hKF => ?_
  refine Fo.now rfl rfl (by simp only [↓nrmL, nrmZ, Nat.reduceEqDiff, ↓reduceIte, Nat.reduceAdd, Int.reduceBEq, Int.reduceBNe, hc, wx, wy, hi]; rfl) ?_
  refine Fo.new ?_
  refine Fo.st rfl (rfl : _ = AVal.agg _) rfl rfl rfl (by repeat (first | rfl | refine allOne_cons ?_)) (by simp only [↓nrmL, nrmZ, Nat.reduceEqDiff, ↓reduceIte, Nat.reduceAdd, Int.reduceBEq, Int.reduceBNe, hc, wx, wy, hi]; rfl) ?_
  refine WpO.nil (hKF _ _ ?_)
  refine sq ?_
  refine rg fun KF hKF => ?_
  refine Fo.ldN rfl rfl (by simp only [↓nrmL, nrmZ, Nat.reduceEqDiff, ↓reduceIte, Nat.reduceAdd, Int.reduceBEq, Int.reduceBNe, hc, wx, wy, hi]; rfl) ?_
  refine mI rfl ?_
  refine Fo.fa rfl ?_
  refine Fo.ld rfl rfl ?_
  refine Fo.bin rfl rfl rfl (by simp only [↓nrmL, nrmZ, Nat.reduceEqDiff, ↓reduceIte, Nat.reduceAdd, Int.reduceBEq, Int.reduceBNe, hc, wx, wy, hi]; rfl) ?_
  refine mI rfl ?_
  refine Fo.fa rfl ?_
  refine Fo.ld rfl rfl ?_
  refine Fo.bin rfl rfl rfl (by simp only [↓nrmL, nrmZ, Nat.reduceEqDiff, ↓reduceIte, Nat.reduceAdd, Int.reduceBEq, Int.reduceBNe, hc, wx, wy, hi]; rfl) ?_
  refine Fo.pcall (v' := ?_) hn rfl (by simp only [↓nrmL, nrmZ, Nat.reduceEqDiff, ↓reduceIte, Nat.reduceAdd, Int.reduceBEq, Int.reduceBNe, hc, wx, wy, hi, List.map]; rfl) rfl ?hv fun _ _ => ?_; case hv => (simp only [↓nrmL, nrmZ, Nat.reduceEqDiff, ↓reduceIte, Nat.reduceAdd, Int.reduceBEq, Int.reduceBNe, hc, wx, wy, hi]; rfl)
  refine WpO.nil (hKF _ _ ?_)
  dsimp only [cond_true, cond_false]
  cases hv : ringF a b l x y 1
  ·skip
   refine Wp.cond (b := false) rfl ?_
   refine Wp.skip ?_
   refine rg fun KF hKF => ?_
   refine Fo.bin rfl rfl rfl rfl ?_
   refine mI rfl ?_
   refine WpO.nil (hKF _ _ ?_)
   dsimp only [cond_true, cond_false]
   refine ⟨1 + 1, by omega, ⟨rfl, trivial⟩, by omega, by rw [dst_off hv]; infer_instance, inferInstance, inferInstance, inferInstance, ExtP0.ext⟩
  ·obtain ⟨u, v, e1, e2, hu, hvb, _⟩ := inkB_true hv
   have e1' : (x : Int) + 1 = (u : Int) := e1
   have e2' : (y : Int) + (-1) = (v : Int) := e2
   have hidx := idx_lt hu hvb
   have hva : v * a ≤ 640 * 640 := Nat.mul_le_mul (by omega) ha
   have m1 : IntKind.i64.wrap (((y : Int) + (-1)) * (a : Int)) = ((v * a : Nat) : Int) := by rw [e2']; exact wm (by omega)
   have m2 : IntKind.i64.wrap (((v * a : Nat) : Int) + (x : Int)) = ((v * a + x : Nat) : Int) := wa (by omega)
   have m3 : IntKind.i64.wrap (((v * a + x : Nat) : Int) + 1) = ((v * a + u : Nat) : Int) := by rw [w64 (by omega)]; omega
   have hlen := dst_length (a := a) (b := b) (r := l) (x := (x : Int)) (y := (y : Int)) (d := D) 1
   try simp only [↓nrmL, nrmZ, Nat.reduceEqDiff, ↓reduceIte, Nat.reduceAdd, Int.reduceBEq, Int.reduceBNe, wy, m1, m2, m3]
   refine Wp.cond (b := true) rfl ?_
   refine rg fun KF hKF => ?_
   refine Fo.mov (by simp only [↓nrmL, nrmK, Nat.reduceEqDiff, ↓reduceIte]; rfl) ?_
   refine mI rfl ?_
   refine Fo.fa rfl ?_
   refine Fo.ld rfl rfl ?_
   refine Fo.bin rfl rfl rfl (by simp only [↓nrmL, nrmZ, Nat.reduceEqDiff, ↓reduceIte, Nat.reduceAdd, Int.reduceBEq, Int.reduceBNe, wy, m1, m2, m3]; rfl) ?_
   refine Fo.fa rfl ?_
   refine Fo.ld rfl rfl ?_
   refine Fo.bin rfl rfl rfl (by simp only [↓nrmL, nrmZ, Nat.reduceEqDiff, ↓reduceIte, Nat.reduceAdd, Int.reduceBEq, Int.reduceBNe, wy, m1, m2, m3]; rfl) ?_
   refine mI rfl ?_
   refine Fo.bin rfl rfl rfl (by simp only [↓nrmL, nrmZ, Nat.reduceEqDiff, ↓reduceIte, Nat.reduceAdd, Int.reduceBEq, Int.reduceBNe, wy, m1, m2, m3]; rfl) ?_
   refine Fo.fa rfl ?_
   refine Fo.ld rfl rfl ?_
   refine Fo.bin rfl rfl rfl (by simp only [↓nrmL, nrmZ, Nat.reduceEqDiff, ↓reduceIte, Nat.reduceAdd, Int.reduceBEq, Int.reduceBNe, wy, m1, m2, m3]; rfl) ?_
   refine Fo.idx (by simp only [↓nrmL, nrmK, Nat.reduceEqDiff, ↓reduceIte]; rfl) rfl ?_ (by simp only [↓nrmL, nrmZ, Nat.reduceEqDiff, ↓reduceIte, Nat.reduceAdd, Int.reduceBEq, Int.reduceBNe, wy, m1, m2, m3]; rfl) ?_; (focus omega)
   refine WpO.do' (WpX.stB (p := d) (j := v * a + u) (l := dstL a b l x y 1 D) 1 rfl rfl rfl (by rw [hlen, hD]; exact hidx) fun H6 hb6 hw6 hx6 => ?_)
   rw [← dst_on hv e1 e2] at hb6
   refine WpO.nil (hKF _ _ ?_)
   refine rg fun KF hKF => ?_
   refine Fo.bin rfl rfl rfl rfl ?_
   refine mI rfl ?_
   refine WpO.nil (hKF _ _ ?_)
   dsimp only [cond_true, cond_false]
   refine ⟨1 + 1, by omega, ⟨rfl, trivial⟩, by omega, hb6, hw6, inferInstance, inferInstance, ExtP0.ext⟩
 ·have hc : decide (((2 : Nat) : Int) < 8) = true := rfl
  have wx : IntKind.i64.wrap ((x : Int) + 1) = (x : Int) + 1 := w64 (by omega)
  have wy : IntKind.i64.wrap ((y : Int) + 0) = (y : Int) + 0 := w64 (by omega)
  have hi : inkB a b l ((x : Int) + 1) ((y : Int) + 0) = ringF a b l x y 2 := rfl
  try simp only [↓nrmL, nrmZ, Nat.reduceEqDiff, ↓reduceIte, Nat.reduceAdd, Int.reduceBEq, Int.reduceBNe, hc, wx, wy, hi]
  refine sq ?_
  refine rg fun KF hKF => ?_
  refine Fo.bin rfl rfl rfl (by simp only [↓nrmL, nrmZ, Nat.reduceEqDiff, ↓reduceIte, Nat.reduceAdd, Int.reduceBEq, Int.reduceBNe, hc, wx, wy, hi]; rfl) ?_
  refine WpO.nil (hKF _ _ ?_)
  refine sq ?_
  refine Wp.cond (b := true) rfl ?_
  refine Wp.skip ?_
  refine sq ?_
  refine Wp.block ?_
  refine sq ?_
  refine rg fun KF hKF => ?_
  refine Fo.now rfl rfl (by simp only [↓nrmL, nrmZ, Nat.reduceEqDiff, ↓reduceIte, Nat.reduceAdd, Int.reduceBEq, Int.reduceBNe, hc, wx, wy, hi]; rfl) ?_
  refine Fo.new ?_
  refine Fo.st rfl (rfl : _ = AVal.agg _) rfl rfl rfl (by repeat (first | rfl | refine allOne_cons ?_)) (by simp only [↓nrmL, nrmZ, Nat.reduceEqDiff, ↓reduceIte, Nat.reduceAdd, Int.reduceBEq, Int.reduceBNe, hc, wx, wy, hi]; rfl) ?_
  refine WpO.nil (hKF _ _ ?_)
  refine sq ?_
  refine rg fun KF hKF => ?_
  refine Fo.ldN rfl rfl (by simp only [↓nrmL, nrmZ, Nat.reduceEqDiff, ↓reduceIte, Nat.reduceAdd, Int.reduceBEq, Int.reduceBNe, hc, wx, wy, hi]; rfl) ?_
  refine mI rfl ?_
  refine Fo.fa rfl ?_
  refine Fo.ld rfl rfl ?_
  refine Fo.bin rfl rfl rfl (by simp only [↓nrmL, nrmZ, Nat.reduceEqDiff, ↓reduceIte, Nat.reduceAdd, Int.reduceBEq, Int.reduceBNe, hc, wx, wy, hi]; rfl) ?_
  refine mI rfl ?_
  refine Fo.fa rfl ?_
  refine Fo.ld rfl rfl ?_
  refine Fo.bin rfl rfl rfl (by simp only [↓nrmL, nrmZ, Nat.reduceEqDiff, ↓reduceIte, Nat.reduceAdd, Int.reduceBEq, Int.reduceBNe, hc, wx, wy, hi]; rfl) ?_
  refine Fo.pcall (v' := ?_) hn rfl (by simp only [↓nrmL, nrmZ, Nat.reduceEqDiff, ↓reduceIte, Nat.reduceAdd, Int.reduceBEq, Int.reduceBNe, hc, wx, wy, hi, List.map]; rfl) rfl ?hv fun _ _ => ?_; case hv => (simp only [↓nrmL, nrmZ, Nat.reduceEqDiff, ↓reduceIte, Nat.reduceAdd, Int.reduceBEq, Int.reduceBNe, hc, wx, wy, hi]; rfl)
  refine WpO.nil (hKF _ _ ?_)
  dsimp only [cond_true, cond_false]
  cases hv : ringF a b l x y 2
  ·skip
   refine Wp.cond (b := false) rfl ?_
   refine Wp.skip ?_
   refine rg fun KF hKF => ?_
   refine Fo.bin rfl rfl rfl rfl ?_
   refine mI rfl ?_
   refine WpO.nil (hKF _ _ ?_)
   dsimp only [cond_true, cond_false]
   refine ⟨2 + 1, by omega, ⟨rfl, trivial⟩, by omega, by rw [dst_off hv]; infer_instance, inferInstance, inferInstance, inferInstance, ExtP0.ext⟩
  ·obtain ⟨u, v, e1, e2, hu, hvb, _⟩ := inkB_true hv
   have e1' : (x : Int) + 1 = (u : Int) := e1
   have e2' : (y : Int) + 0 = (v : Int) := e2
   have hidx := idx_lt hu hvb
   have hva : v * a ≤ 640 * 640 := Nat.mul_le_mul (by omega) ha
   have m1 : IntKind.i64.wrap (((y : Int) + 0) * (a : Int)) = ((v * a : Nat) : Int) := by rw [e2']; exact wm (by omega)
   have m2 : IntKind.i64.wrap (((v * a : Nat) : Int) + (x : Int)) = ((v * a + x : Nat) : Int) := wa (by omega)
   have m3 : IntKind.i64.wrap (((v * a + x : Nat) : Int) + 1) = ((v * a + u : Nat) : Int) := by rw [w64 (by omega)]; omega
   have hlen := dst_length (a := a) (b := b) (r := l) (x := (x : Int)) (y := (y : Int)) (d := D) 2
   try simp only [↓nrmL, nrmZ, Nat.reduceEqDiff, ↓reduceIte, Nat.reduceAdd, Int.reduceBEq, Int.reduceBNe, wy, m1, m2, m3]
   refine Wp.cond (b := true) rfl ?_
   refine rg fun KF hKF => ?_
   refine Fo.mov (by simp only [↓nrmL, nrmK, Nat.reduceEqDiff, ↓reduceIte]; rfl) ?_
   refine mI rfl ?_
   refine Fo.fa rfl ?_
   refine Fo.ld rfl rfl ?_
   refine Fo.bin rfl rfl rfl (by simp only [↓nrmL, nrmZ, Nat.reduceEqDiff, ↓reduceIte, Nat.reduceAdd, Int.reduceBEq, Int.reduceBNe, wy, m1, m2, m3]; rfl) ?_
   refine Fo.fa rfl ?_
   refine Fo.ld rfl rfl ?_
   refine Fo.bin rfl rfl rfl (by simp only [↓nrmL, nrmZ, Nat.reduceEqDiff, ↓reduceIte, Nat.reduceAdd, Int.reduceBEq, Int.reduceBNe, wy, m1, m2, m3]; rfl) ?_
   refine mI rfl ?_
   refine Fo.bin rfl rfl rfl (by simp only [↓nrmL, nrmZ, Nat.reduceEqDiff, ↓reduceIte, Nat.reduceAdd, Int.reduceBEq, Int.reduceBNe, wy, m1, m2, m3]; rfl) ?_
   refine Fo.fa rfl ?_
   refine Fo.ld rfl rfl ?_
   refine Fo.bin rfl rfl rfl (by simp only [↓nrmL, nrmZ, Nat.reduceEqDiff, ↓reduceIte, Nat.reduceAdd, Int.reduceBEq, Int.reduceBNe, wy, m1, m2, m3]; rfl) ?_
   refine Fo.idx (by simp only [↓nrmL, nrmK, Nat.reduceEqDiff, ↓reduceIte]; rfl) rfl ?_ (by simp only [↓nrmL, nrmZ, Nat.reduceEqDiff, ↓reduceIte, Nat.reduceAdd, Int.reduceBEq, Int.reduceBNe, wy, m1, m2, m3]; rfl) ?_; (focus omega)
   refine WpO.do' (WpX.stB (p := d) (j := v * a + u) (l := dstL a b l x y 2 D) 1 rfl rfl rfl (by rw [hlen, hD]; exact hidx) fun H6 hb6 hw6 hx6 => ?_)
   rw [← dst_on hv e1 e2] at hb6
   refine WpO.nil (hKF _ _ ?_)
   refine rg fun KF hKF => ?_
   refine Fo.bin rfl rfl rfl rfl ?_
   refine mI rfl ?_
   refine WpO.nil (hKF _ _ ?_)
   dsimp only [cond_true, cond_false]
   refine ⟨2 + 1, by omega, ⟨rfl, trivial⟩, by omega, hb6, hw6, inferInstance, inferInstance, ExtP0.ext⟩
 ·have hc : decide (((3 : Nat) : Int) < 8) = true := rfl
  have wx : IntKind.i64.wrap ((x : Int) + 1) = (x : Int) + 1 := w64 (by omega)
  have wy : IntKind.i64.wrap ((y : Int) + 1) = (y : Int) + 1 := w64 (by omega)
  have hi : inkB a b l ((x : Int) + 1) ((y : Int) + 1) = ringF a b l x y 3 := rfl
  try simp only [↓nrmL, nrmZ, Nat.reduceEqDiff, ↓reduceIte, Nat.reduceAdd, Int.reduceBEq, Int.reduceBNe, hc, wx, wy, hi]
  refine sq ?_
  refine rg fun KF hKF => ?_
  refine Fo.bin rfl rfl rfl (by simp only [↓nrmL, nrmZ, Nat.reduceEqDiff, ↓reduceIte, Nat.reduceAdd, Int.reduceBEq, Int.reduceBNe, hc, wx, wy, hi]; rfl) ?_
  refine WpO.nil (hKF _ _ ?_)
  refine sq ?_
  refine Wp.cond (b := true) rfl ?_
  refine Wp.skip ?_
  refine sq ?_
  refine Wp.block ?_
  refine sq ?_
  refine rg fun KF hKF => ?_
  refine Fo.now rfl rfl (by simp only [↓nrmL, nrmZ, Nat.reduceEqDiff, ↓reduceIte, Nat.reduceAdd, Int.reduceBEq, Int.reduceBNe, hc, wx, wy, hi]; rfl) ?_
  refine Fo.new ?_
  refine Fo.st rfl (rfl : _ = AVal.agg _) rfl rfl rfl (by repeat (first | rfl | refine allOne_cons ?_)) (by simp only [↓nrmL, nrmZ, Nat.reduceEqDiff, ↓reduceIte, Nat.reduceAdd, Int.reduceBEq, Int.reduceBNe, hc, wx, wy, hi]; rfl) ?_
  refine WpO.nil (hKF _ _ ?_)
  refine sq ?_
  refine rg fun KF hKF => ?_
  refine Fo.ldN rfl rfl (by simp only [↓nrmL, nrmZ, Nat.reduceEqDiff, ↓reduceIte, Nat.reduceAdd, Int.reduceBEq, Int.reduceBNe, hc, wx, wy, hi]; rfl) ?_
  refine mI rfl ?_
  refine Fo.fa rfl ?_
  refine Fo.ld rfl rfl ?_
  refine Fo.bin rfl rfl rfl (by simp only [↓nrmL, nrmZ, Nat.reduceEqDiff, ↓reduceIte, Nat.reduceAdd, Int.reduceBEq, Int.reduceBNe, hc, wx, wy, hi]; rfl) ?_
  refine mI rfl ?_
  refine Fo.fa rfl ?_
  refine Fo.ld rfl rfl ?_
  refine Fo.bin rfl rfl rfl (by simp only [↓nrmL, nrmZ, Nat.reduceEqDiff, ↓reduceIte, Nat.reduceAdd, Int.reduceBEq, Int.reduceBNe, hc, wx, wy, hi]; rfl) ?_
  refine Fo.pcall (v' := ?_) hn rfl (by simp only [↓nrmL, nrmZ, Nat.reduceEqDiff, ↓reduceIte, Nat.reduceAdd, Int.reduceBEq, Int.reduceBNe, hc, wx, wy, hi, List.map]; rfl) rfl ?hv fun _ _ => ?_; case hv => (simp only [↓nrmL, nrmZ, Nat.reduceEqDiff, ↓reduceIte, Nat.reduceAdd, Int.reduceBEq, Int.reduceBNe, hc, wx, wy, hi]; rfl)
  refine WpO.nil (hKF _ _ ?_)
  dsimp only [cond_true, cond_false]
  cases hv : ringF a b l x y 3
  ·skip
   refine Wp.cond (b := false) rfl ?_
   refine Wp.skip ?_
   refine rg fun KF hKF => ?_
   refine Fo.bin rfl rfl rfl rfl ?_
   refine mI rfl ?_
   refine WpO.nil (hKF _ _ ?_)
   dsimp only [cond_true, cond_false]
   refine ⟨3 + 1, by omega, ⟨rfl, trivial⟩, by omega, by rw [dst_off hv]; infer_instance, inferInstance, inferInstance, inferInstance, ExtP0.ext⟩
  ·obtain ⟨u, v, e1, e2, hu, hvb, _⟩ := inkB_true hv
   have e1' : (x : Int) + 1 = (u : Int) := e1
   have e2' : (y : Int) + 1 = (v : Int) := e2
   have hidx := idx_lt hu hvb
   have hva : v * a ≤ 640 * 640 := Nat.mul_le_mul (by omega) ha
   have m1 : IntKind.i64.wrap (((y : Int) + 1) * (a : Int)) = ((v * a : Nat) : Int) := by rw [e2']; exact wm (by omega)
   have m2 : IntKind.i64.wrap (((v * a : Nat) : Int) + (x : Int)) = ((v * a + x : Nat) : Int) := wa (by omega)
   have m3 : IntKind.i64.wrap (((v * a + x : Nat) : Int) + 1) = ((v * a + u : Nat) : Int) := by rw [w64 (by omega)]; omega
   have hlen := dst_length (a := a) (b := b) (r := l) (x := (x : Int)) (y := (y : Int)) (d := D) 3
   try simp only [↓nrmL, nrmZ, Nat.reduceEqDiff, ↓reduceIte, Nat.reduceAdd, Int.reduceBEq, Int.reduceBNe, wy, m1, m2, m3]
   refine Wp.cond (b := true) rfl ?_
   refine rg fun KF hKF => ?_
   refine Fo.mov (by simp only [↓nrmL, nrmK, Nat.reduceEqDiff, ↓reduceIte]; rfl) ?_
   refine mI rfl ?_
   refine Fo.fa rfl ?_
   refine Fo.ld rfl rfl ?_
   refine Fo.bin rfl rfl rfl (by simp only [↓nrmL, nrmZ, Nat.reduceEqDiff, ↓reduceIte, Nat.reduceAdd, Int.reduceBEq, Int.reduceBNe, wy, m1, m2, m3]; rfl) ?_
   refine Fo.fa rfl ?_
   refine Fo.ld rfl rfl ?_
   refine Fo.bin rfl rfl rfl (by simp only [↓nrmL, nrmZ, Nat.reduceEqDiff, ↓reduceIte, Nat.reduceAdd, Int.reduceBEq, Int.reduceBNe, wy, m1, m2, m3]; rfl) ?_
   refine mI rfl ?_
   refine Fo.bin rfl rfl rfl (by simp only [↓nrmL, nrmZ, Nat.reduceEqDiff, ↓reduceIte, Nat.reduceAdd, Int.reduceBEq, Int.reduceBNe, wy, m1, m2, m3]; rfl) ?_
   refine Fo.fa rfl ?_
   refine Fo.ld rfl rfl ?_
   refine Fo.bin rfl rfl rfl (by simp only [↓nrmL, nrmZ, Nat.reduceEqDiff, ↓reduceIte, Nat.reduceAdd, Int.reduceBEq, Int.reduceBNe, wy, m1, m2, m3]; rfl) ?_
   refine Fo.idx (by simp only [↓nrmL, nrmK, Nat.reduceEqDiff, ↓reduceIte]; rfl) rfl ?_ (by simp only [↓nrmL, nrmZ, Nat.reduceEqDiff, ↓reduceIte, Nat.reduceAdd, Int.reduceBEq, Int.reduceBNe, wy, m1, m2, m3]; rfl) ?_; (focus omega)
   refine WpO.do' (WpX.stB (p := d) (j := v * a + u) (l := dstL a b l x y 3 D) 1 rfl rfl rfl (by rw [hlen, hD]; exact hidx) fun H6 hb6 hw6 hx6 => ?_)
   rw [← dst_on hv e1 e2] at hb6
   refine WpO.nil (hKF _ _ ?_)
   refine rg fun KF hKF => ?_
   refine Fo.bin rfl rfl rfl rfl ?_
   refine mI rfl ?_
   refine WpO.nil (hKF _ _ ?_)
   dsimp only [cond_true, cond_false]
   refine ⟨3 + 1, by omega, ⟨rfl, trivial⟩, by omega, hb6, hw6, inferInstance, inferInstance, ExtP0.ext⟩
 ·have hc : decide (((4 : Nat) : Int) < 8) = true := rfl
  have wx : IntKind.i64.wrap ((x : Int) + 0) = (x : Int) + 0 := w64 (by omega)
  have wy : IntKind.i64.wrap ((y : Int) + 1) = (y : Int) + 1 := w64 (by omega)
  have hi : inkB a b l ((x : Int) + 0) ((y : Int) + 1) = ringF a b l x y 4 := rfl
  try simp only [↓nrmL, nrmZ, Nat.reduceEqDiff, ↓reduceIte, Nat.reduceAdd, Int.reduceBEq, Int.reduceBNe, hc, wx, wy, hi]
  refine sq ?_
  refine rg fun KF hKF => ?_
  refine Fo.bin rfl rfl rfl (by simp only [↓nrmL, nrmZ, Nat.reduceEqDiff, ↓reduceIte, Nat.reduceAdd, Int.reduceBEq, Int.reduceBNe, hc, wx, wy, hi]; rfl) ?_
  refine WpO.nil (hKF _ _ ?_)
  refine sq ?_
  refine Wp.cond (b := true) rfl ?_
  refine Wp.skip ?_
  refine sq ?_
  refine Wp.block ?_
  refine sq ?_
  refine rg fun KF hKF => ?_
  refine Fo.now rfl rfl (by simp only [↓nrmL, nrmZ, Nat.reduceEqDiff, ↓reduceIte, Nat.reduceAdd, Int.reduceBEq, Int.reduceBNe, hc, wx, wy, hi]; rfl) ?_
  refine Fo.new ?_
  refine Fo.st rfl (rfl : _ = AVal.agg _) rfl rfl rfl (by repeat (first | rfl | refine allOne_cons ?_)) (by simp only [↓nrmL, nrmZ, Nat.reduceEqDiff, ↓reduceIte, Nat.reduceAdd, Int.reduceBEq, Int.reduceBNe, hc, wx, wy, hi]; rfl) ?_
  refine WpO.nil (hKF _ _ ?_)
  refine sq ?_
  refine rg fun KF hKF => ?_
  refine Fo.ldN rfl rfl (by simp only [↓nrmL, nrmZ, Nat.reduceEqDiff, ↓reduceIte, Nat.reduceAdd, Int.reduceBEq, Int.reduceBNe, hc, wx, wy, hi]; rfl) ?_
  refine mI rfl ?_
  refine Fo.fa rfl ?_
  refine Fo.ld rfl rfl ?_
  refine Fo.bin rfl rfl rfl (by simp only [↓nrmL, nrmZ, Nat.reduceEqDiff, ↓reduceIte, Nat.reduceAdd, Int.reduceBEq, Int.reduceBNe, hc, wx, wy, hi]; rfl) ?_
  refine mI rfl ?_
  refine Fo.fa rfl ?_
  refine Fo.ld rfl rfl ?_
  refine Fo.bin rfl rfl rfl (by simp only [↓nrmL, nrmZ, Nat.reduceEqDiff, ↓reduceIte, Nat.reduceAdd, Int.reduceBEq, Int.reduceBNe, hc, wx, wy, hi]; rfl) ?_
  refine Fo.pcall (v' := ?_) hn rfl (by simp only [↓nrmL, nrmZ, Nat.reduceEqDiff, ↓reduceIte, Nat.reduceAdd, Int.reduceBEq, Int.reduceBNe, hc, wx, wy, hi, List.map]; rfl) rfl ?hv fun _ _ => ?_; case hv => (simp only [↓nrmL, nrmZ, Nat.reduceEqDiff, ↓reduceIte, Nat.reduceAdd, Int.reduceBEq, Int.reduceBNe, hc, wx, wy, hi]; rfl)
  refine WpO.nil (hKF _ _ ?_)
  dsimp only [cond_true, cond_false]
  cases hv : ringF a b l x y 4
  ·skip
   refine Wp.cond (b := false) rfl ?_
   refine Wp.skip ?_
   refine rg fun KF hKF => ?_
   refine Fo.bin rfl rfl rfl rfl ?_
   refine mI rfl ?_
   refine WpO.nil (hKF _ _ ?_)
   dsimp only [cond_true, cond_false]
   refine ⟨4 + 1, by omega, ⟨rfl, trivial⟩, by omega, by rw [dst_off hv]; infer_instance, inferInstance, inferInstance, inferInstance, ExtP0.ext⟩
  ·obtain ⟨u, v, e1, e2, hu, hvb, _⟩ := inkB_true hv
   have e1' : (x : Int) + 0 = (u : Int) := e1
   have e2' : (y : Int) + 1 = (v : Int) := e2
   have hidx := idx_lt hu hvb
   have hva : v * a ≤ 640 * 640 := Nat.mul_le_mul (by omega) ha
   have m1 : IntKind.i64.wrap (((y : Int) + 1) * (a : Int)) = ((v * a : Nat) : Int) := by rw [e2']; exact wm (by omega)
   have m2 : IntKind.i64.wrap (((v * a : Nat) : Int) + (x : Int)) = ((v * a + x : Nat) : Int) := wa (by omega)
   have m3 : IntKind.i64.wrap (((v * a + x : Nat) : Int) + 0) = ((v * a + u : Nat) : Int) := by rw [w64 (by omega)]; omega
   have hlen := dst_length (a := a) (b := b) (r := l) (x := (x : Int)) (y := (y : Int)) (d := D) 4
   try simp only [↓nrmL, nrmZ, Nat.reduceEqDiff, ↓reduceIte, Nat.reduceAdd, Int.reduceBEq, Int.reduceBNe, wy, m1, m2, m3]
   refine Wp.cond (b := true) rfl ?_
   refine rg fun KF hKF => ?_
   refine Fo.mov (by simp only [↓nrmL, nrmK, Nat.reduceEqDiff, ↓reduceIte]; rfl) ?_
   refine mI rfl ?_
   refine Fo.fa rfl ?_
   refine Fo.ld rfl rfl ?_
   refine Fo.bin rfl rfl rfl (by simp only [↓nrmL, nrmZ, Nat.reduceEqDiff, ↓reduceIte, Nat.reduceAdd, Int.reduceBEq, Int.reduceBNe, wy, m1, m2, m3]; rfl) ?_
   refine Fo.fa rfl ?_
   refine Fo.ld rfl rfl ?_
   refine Fo.bin rfl rfl rfl (by simp only [↓nrmL, nrmZ, Nat.reduceEqDiff, ↓reduceIte, Nat.reduceAdd, Int.reduceBEq, Int.reduceBNe, wy, m1, m2, m3]; rfl) ?_
   refine mI rfl ?_
   refine Fo.bin rfl rfl rfl (by simp only [↓nrmL, nrmZ, Nat.reduceEqDiff, ↓reduceIte, Nat.reduceAdd, Int.reduceBEq, Int.reduceBNe, wy, m1, m2, m3]; rfl) ?_
   refine Fo.fa rfl ?_
   refine Fo.ld rfl rfl ?_
   refine Fo.bin rfl rfl rfl (by simp only [↓nrmL, nrmZ, Nat.reduceEqDiff, ↓reduceIte, Nat.reduceAdd, Int.reduceBEq, Int.reduceBNe, wy, m1, m2, m3]; rfl) ?_
   refine Fo.idx (by simp only [↓nrmL, nrmK, Nat.reduceEqDiff, ↓reduceIte]; rfl) rfl ?_ (by simp only [↓nrmL, nrmZ, Nat.reduceEqDiff, ↓reduceIte, Nat.reduceAdd, Int.reduceBEq, Int.reduceBNe, wy, m1, m2, m3]; rfl) ?_; (focus omega)
   refine WpO.do' (WpX.stB (p := d) (j := v * a + u) (l := dstL a b l x y 4 D) 1 rfl rfl rfl (by rw [hlen, hD]; exact hidx) fun H6 hb6 hw6 hx6 => ?_)
   rw [← dst_on hv e1 e2] at hb6
   refine WpO.nil (hKF _ _ ?_)
   refine rg fun KF hKF => ?_
   refine Fo.bin rfl rfl rfl rfl ?_
   refine mI rfl ?_
   refine WpO.nil (hKF _ _ ?_)
   dsimp only [cond_true, cond_false]
   refine ⟨4 + 1, by omega, ⟨rfl, trivial⟩, by omega, hb6, hw6, inferInstance, inferInstance, ExtP0.ext⟩
 ·have hc : decide (((5 : Nat) : Int) < 8) = true := rfl
  have wx : IntKind.i64.wrap ((x : Int) + (-1)) = (x : Int) + (-1) := w64 (by omega)
  have wy : IntKind.i64.wrap ((y : Int) + 1) = (y : Int) + 1 := w64 (by omega)
  have hi : inkB a b l ((x : Int) + (-1)) ((y : Int) + 1) = ringF a b l x y 5 := rfl
  try simp only [↓nrmL, nrmZ, Nat.reduceEqDiff, ↓reduceIte, Nat.reduceAdd, Int.reduceBEq, Int.reduceBNe, hc, wx, wy, hi]
  refine sq ?_
  refine rg fun KF hKF => ?_
  refine Fo.bin rfl rfl rfl (by simp only [↓nrmL, nrmZ, Nat.reduceEqDiff, ↓reduceIte, Nat.reduceAdd, Int.reduceBEq, Int.reduceBNe, hc, wx, wy, hi]; rfl) ?_
  refine WpO.nil (hKF _ _ ?_)
  refine sq ?_
  refine Wp.cond (b := true) rfl ?_
  refine Wp.skip ?_
  refine sq ?_
  refine Wp.block ?_
  refine sq ?_
  refine rg fun KF hKF => ?_
  refine Fo.now rfl rfl (by simp only [↓nrmL, nrmZ, Nat.reduceEqDiff, ↓reduceIte, Nat.reduceAdd, Int.reduceBEq, Int.reduceBNe, hc, wx, wy, hi]; rfl) ?_
  refine Fo.new ?_
  refine Fo.st rfl (rfl : _ = AVal.agg _) rfl rfl rfl (by repeat (first | rfl | refine allOne_cons ?_)) (by simp only [↓nrmL, nrmZ, Nat.reduceEqDiff, ↓reduceIte, Nat.reduceAdd, Int.reduceBEq, Int.reduceBNe, hc, wx, wy, hi]; rfl) ?_
  refine WpO.nil (hKF _ _ ?_)
  refine sq ?_
  refine rg fun KF hKF => ?_
  refine Fo.ldN rfl rfl (by simp only [↓nrmL, nrmZ, Nat.reduceEqDiff, ↓reduceIte, Nat.reduceAdd, Int.reduceBEq, Int.reduceBNe, hc, wx, wy, hi]; rfl) ?_
  refine mI rfl ?_
  refine Fo.fa rfl ?_
  refine Fo.ld rfl rfl ?_
  refine Fo.bin rfl rfl rfl (by simp only [↓nrmL, nrmZ, Nat.reduceEqDiff, ↓reduceIte, Nat.reduceAdd, Int.reduceBEq, Int.reduceBNe, hc, wx, wy, hi]; rfl) ?_
  refine mI rfl ?_
  refine Fo.fa rfl ?_
  refine Fo.ld rfl rfl ?_
  refine Fo.bin rfl rfl rfl (by simp only [↓nrmL, nrmZ, Nat.reduceEqDiff, ↓reduceIte, Nat.reduceAdd, Int.reduceBEq, Int.reduceBNe, hc, wx, wy, hi]; rfl) ?_
  refine Fo.pcall (v' := ?_) hn rfl (by simp only [↓nrmL, nrmZ, Nat.reduceEqDiff, ↓reduceIte, Nat.reduceAdd, Int.reduceBEq, Int.reduceBNe, hc, wx, wy, hi, List.map]; rfl) rfl ?hv fun _ _ => ?_; case hv => (simp only [↓nrmL, nrmZ, Nat.reduceEqDiff, ↓reduceIte, Nat.reduceAdd, Int.reduceBEq, Int.reduceBNe, hc, wx, wy, hi]; rfl)
  refine WpO.nil (hKF _ _ ?_)
  dsimp only [cond_true, cond_false]
  cases hv : ringF a b l x y 5
  ·skip
   refine Wp.cond (b := false) rfl ?_
   refine Wp.skip ?_
   refine rg fun KF hKF => ?_
   refine Fo.bin rfl rfl rfl rfl ?_
   refine mI rfl ?_
   refine WpO.nil (hKF _ _ ?_)
   dsimp only [cond_true, cond_false]
   refine ⟨5 + 1, by omega, ⟨rfl, trivial⟩, by omega, by rw [dst_off hv]; infer_instance, inferInstance, inferInstance, inferInstance, ExtP0.ext⟩
  ·obtain ⟨u, v, e1, e2, hu, hvb, _⟩ := inkB_true hv
   have e1' : (x : Int) + (-1) = (u : Int) := e1
   have e2' : (y : Int) + 1 = (v : Int) := e2
   have hidx := idx_lt hu hvb
   have hva : v * a ≤ 640 * 640 := Nat.mul_le_mul (by omega) ha
   have m1 : IntKind.i64.wrap (((y : Int) + 1) * (a : Int)) = ((v * a : Nat) : Int) := by rw [e2']; exact wm (by omega)
   have m2 : IntKind.i64.wrap (((v * a : Nat) : Int) + (x : Int)) = ((v * a + x : Nat) : Int) := wa (by omega)
   have m3 : IntKind.i64.wrap (((v * a + x : Nat) : Int) + (-1)) = ((v * a + u : Nat) : Int) := by rw [w64 (by omega)]; omega
   have hlen := dst_length (a := a) (b := b) (r := l) (x := (x : Int)) (y := (y : Int)) (d := D) 5
   try simp only [↓nrmL, nrmZ, Nat.reduceEqDiff, ↓reduceIte, Nat.reduceAdd, Int.reduceBEq, Int.reduceBNe, wy, m1, m2, m3]
   refine Wp.cond (b := true) rfl ?_
   refine rg fun KF hKF => ?_
   refine Fo.mov (by simp only [↓nrmL, nrmK, Nat.reduceEqDiff, ↓reduceIte]; rfl) ?_
   refine mI rfl ?_
   refine Fo.fa rfl ?_
   refine Fo.ld rfl rfl ?_
   refine Fo.bin rfl rfl rfl (by simp only [↓nrmL, nrmZ, Nat.reduceEqDiff, ↓reduceIte, Nat.reduceAdd, Int.reduceBEq, Int.reduceBNe, wy, m1, m2, m3]; rfl) ?_
   refine Fo.fa rfl ?_
   refine Fo.ld rfl rfl ?_
   refine Fo.bin rfl rfl rfl (by simp only [↓nrmL, nrmZ, Nat.reduceEqDiff, ↓reduceIte, Nat.reduceAdd, Int.reduceBEq, Int.reduceBNe, wy, m1, m2, m3]; rfl) ?_
   refine mI rfl ?_
   refine Fo.bin rfl rfl rfl (by simp only [↓nrmL, nrmZ, Nat.reduceEqDiff, ↓reduceIte, Nat.reduceAdd, Int.reduceBEq, Int.reduceBNe, wy, m1, m2, m3]; rfl) ?_
   refine Fo.fa rfl ?_
   refine Fo.ld rfl rfl ?_
   refine Fo.bin rfl rfl rfl (by simp only [↓nrmL, nrmZ, Nat.reduceEqDiff, ↓reduceIte, Nat.reduceAdd, Int.reduceBEq, Int.reduceBNe, wy, m1, m2, m3]; rfl) ?_
   refine Fo.idx (by simp only [↓nrmL, nrmK, Nat.reduceEqDiff, ↓reduceIte]; rfl) rfl ?_ (by simp only [↓nrmL, nrmZ, Nat.reduceEqDiff, ↓reduceIte, Nat.reduceAdd, Int.reduceBEq, Int.reduceBNe, wy, m1, m2, m3]; rfl) ?_; (focus omega)
   refine WpO.do' (WpX.stB (p := d) (j := v * a + u) (l := dstL a b l x y 5 D) 1 rfl rfl rfl (by rw [hlen, hD]; exact hidx) fun H6 hb6 hw6 hx6 => ?_)
   rw [← dst_on hv e1 e2] at hb6
   refine WpO.nil (hKF _ _ ?_)
   refine rg fun KF hKF => ?_
   refine Fo.bin rfl rfl rfl rfl ?_
   refine mI rfl ?_
   refine WpO.nil (hKF _ _ ?_)
   dsimp only [cond_true, cond_false]
   refine ⟨5 + 1, by omega, ⟨rfl, trivial⟩, by omega, hb6, hw6, inferInstance, inferInstance, ExtP0.ext⟩
 ·have hc : decide (((6 : Nat) : Int) < 8) = true := rfl
  have wx : IntKind.i64.wrap ((x : Int) + (-1)) = (x : Int) + (-1) := w64 (by omega)
  have wy : IntKind.i64.wrap ((y : Int) + 0) = (y : Int) + 0 := w64 (by omega)
  have hi : inkB a b l ((x : Int) + (-1)) ((y : Int) + 0) = ringF a b l x y 6 := rfl
  try simp only [↓nrmL, nrmZ, Nat.reduceEqDiff, ↓reduceIte, Nat.reduceAdd, Int.reduceBEq, Int.reduceBNe, hc, wx, wy, hi]
  refine sq ?_
  refine rg fun KF hKF => ?_
  refine Fo.bin rfl rfl rfl (by simp only [↓nrmL, nrmZ, Nat.reduceEqDiff, ↓reduceIte, Nat.reduceAdd, Int.reduceBEq, Int.reduceBNe, hc, wx, wy, hi]; rfl) ?_
  refine WpO.nil (hKF _ _ ?_)
  refine sq ?_
  refine Wp.cond (b := true) rfl ?_
  refine Wp.skip ?_
  refine sq ?_
  refine Wp.block ?_
  refine sq ?_
  refine rg fun KF hKF => ?_
  refine Fo.now rfl rfl (by simp only [↓nrmL, nrmZ, Nat.reduceEqDiff, ↓reduceIte, Nat.reduceAdd, Int.reduceBEq, Int.reduceBNe, hc, wx, wy, hi]; rfl) ?_
  refine Fo.new ?_
  refine Fo.st rfl (rfl : _ = AVal.agg _) rfl rfl rfl (by repeat (first | rfl | refine allOne_cons ?_)) (by simp only [↓nrmL, nrmZ, Nat.reduceEqDiff, ↓reduceIte, Nat.reduceAdd, Int.reduceBEq, Int.reduceBNe, hc, wx, wy, hi]; rfl) ?_
  refine WpO.nil (hKF _ _ ?_)
  refine sq ?_
  refine rg fun KF hKF => ?_
  refine Fo.ldN rfl rfl (by simp only [↓nrmL, nrmZ, Nat.reduceEqDiff, ↓reduceIte, Nat.reduceAdd, Int.reduceBEq, Int.reduceBNe, hc, wx, wy, hi]; rfl) ?_
  refine mI rfl ?_
  refine Fo.fa rfl ?_
  refine Fo.ld rfl rfl ?_
  refine Fo.bin rfl rfl rfl (by simp only [↓nrmL, nrmZ, Nat.reduceEqDiff, ↓reduceIte, Nat.reduceAdd, Int.reduceBEq, Int.reduceBNe, hc, wx, wy, hi]; rfl) ?_
  refine mI rfl ?_
  refine Fo.fa rfl ?_
  refine Fo.ld rfl rfl ?_
  refine Fo.bin rfl rfl rfl (by simp only [↓nrmL, nrmZ, Nat.reduceEqDiff, ↓reduceIte, Nat.reduceAdd, Int.reduceBEq, Int.reduceBNe, hc, wx, wy, hi]; rfl) ?_
  refine Fo.pcall (v' := ?_) hn rfl (by simp only [↓nrmL, nrmZ, Nat.reduceEqDiff, ↓reduceIte, Nat.reduceAdd, Int.reduceBEq, Int.reduceBNe, hc, wx, wy, hi, List.map]; rfl) rfl ?hv fun _ _ => ?_; case hv => (simp only [↓nrmL, nrmZ, Nat.reduceEqDiff, ↓reduceIte, Nat.reduceAdd, Int.reduceBEq, Int.reduceBNe, hc, wx, wy, hi]; rfl)
  refine WpO.nil (hKF _ _ ?_)
  dsimp only [cond_true, cond_false]
  cases hv : ringF a b l x y 6
  ·skip
   refine Wp.cond (b := false) rfl ?_
   refine Wp.skip ?_
   refine rg fun KF hKF => ?_
   refine Fo.bin rfl rfl rfl rfl ?_
   refine mI rfl ?_
   refine WpO.nil (hKF _ _ ?_)
   dsimp only [cond_true, cond_false]
   refine ⟨6 + 1, by omega, ⟨rfl, trivial⟩, by omega, by rw [dst_off hv]; infer_instance, inferInstance, inferInstance, inferInstance, ExtP0.ext⟩
  ·obtain ⟨u, v, e1, e2, hu, hvb, _⟩ := inkB_true hv
   have e1' : (x : Int) + (-1) = (u : Int) := e1
   have e2' : (y : Int) + 0 = (v : Int) := e2
   have hidx := idx_lt hu hvb
   have hva : v * a ≤ 640 * 640 := Nat.mul_le_mul (by omega) ha
   have m1 : IntKind.i64.wrap (((y : Int) + 0) * (a : Int)) = ((v * a : Nat) : Int) := by rw [e2']; exact wm (by omega)
   have m2 : IntKind.i64.wrap (((v * a : Nat) : Int) + (x : Int)) = ((v * a + x : Nat) : Int) := wa (by omega)
   have m3 : IntKind.i64.wrap (((v * a + x : Nat) : Int) + (-1)) = ((v * a + u : Nat) : Int) := by rw [w64 (by omega)]; omega
   have hlen := dst_length (a := a) (b := b) (r := l) (x := (x : Int)) (y := (y : Int)) (d := D) 6
   try simp only [↓nrmL, nrmZ, Nat.reduceEqDiff, ↓reduceIte, Nat.reduceAdd, Int.reduceBEq, Int.reduceBNe, wy, m1, m2, m3]
   refine Wp.cond (b := true) rfl ?_
   refine rg fun KF hKF => ?_
   refine Fo.mov (by simp only [↓nrmL, nrmK, Nat.reduceEqDiff, ↓reduceIte]; rfl) ?_
   refine mI rfl ?_
   refine Fo.fa rfl ?_
   refine Fo.ld rfl rfl ?_
   refine Fo.bin rfl rfl rfl (by simp only [↓nrmL, nrmZ, Nat.reduceEqDiff, ↓reduceIte, Nat.reduceAdd, Int.reduceBEq, Int.reduceBNe, wy, m1, m2, m3]; rfl) ?_
   refine Fo.fa rfl ?_
   refine Fo.ld rfl rfl ?_
   refine Fo.bin rfl rfl rfl (by simp only [↓nrmL, nrmZ, Nat.reduceEqDiff, ↓reduceIte, Nat.reduceAdd, Int.reduceBEq, Int.reduceBNe, wy, m1, m2, m3]; rfl) ?_
   refine mI rfl ?_
   refine Fo.bin rfl rfl rfl (by simp only [↓nrmL, nrmZ, Nat.reduceEqDiff, ↓reduceIte, Nat.reduceAdd, Int.reduceBEq, Int.reduceBNe, wy, m1, m2, m3]; rfl) ?_
   refine Fo.fa rfl ?_
   refine Fo.ld rfl rfl ?_
   refine Fo.bin rfl rfl rfl (by simp only [↓nrmL, nrmZ, Nat.reduceEqDiff, ↓reduceIte, Nat.reduceAdd, Int.reduceBEq, Int.reduceBNe, wy, m1, m2, m3]; rfl) ?_
   refine Fo.idx (by simp only [↓nrmL, nrmK, Nat.reduceEqDiff, ↓reduceIte]; rfl) rfl ?_ (by simp only [↓nrmL, nrmZ, Nat.reduceEqDiff, ↓reduceIte, Nat.reduceAdd, Int.reduceBEq, Int.reduceBNe, wy, m1, m2, m3]; rfl) ?_; (focus omega)
   refine WpO.do' (WpX.stB (p := d) (j := v * a + u) (l := dstL a b l x y 6 D) 1 rfl rfl rfl (by rw [hlen, hD]; exact hidx) fun H6 hb6 hw6 hx6 => ?_)
   rw [← dst_on hv e1 e2] at hb6
   refine WpO.nil (hKF _ _ ?_)
   refine rg fun KF hKF => ?_
   refine Fo.bin rfl rfl rfl rfl ?_
   refine mI rfl ?_
   refine WpO.nil (hKF _ _ ?_)
   dsimp only [cond_true, cond_false]
   refine ⟨6 + 1, by omega, ⟨rfl, trivial⟩, by omega, hb6, hw6, inferInstance, inferInstance, ExtP0.ext⟩
 ·have hc : decide (((7 : Nat) : Int) < 8) = true := rfl
  have wx : IntKind.i64.wrap ((x : Int) + (-1)) = (x : Int) + (-1) := w64 (by omega)
  have wy : IntKind.i64.wrap ((y : Int) + (-1)) = (y : Int) + (-1) := w64 (by omega)
  have hi : inkB a b l ((x : Int) + (-1)) ((y : Int) + (-1)) = ringF a b l x y 7 := rfl
  try simp only [↓nrmL, nrmZ, Nat.reduceEqDiff, ↓reduceIte, Nat.reduceAdd, Int.reduceBEq, Int.reduceBNe, hc, wx, wy, hi]
  refine sq ?_
  refine rg fun KF hKF => ?_
  refine Fo.bin rfl rfl rfl (by simp only [↓nrmL, nrmZ, Nat.reduceEqDiff, ↓reduceIte, Nat.reduceAdd, Int.reduceBEq, Int.reduceBNe, hc, wx, wy, hi]; rfl) ?_
  refine WpO.nil (hKF _ _ ?_)
  refine sq ?_
  refine Wp.cond (b := true) rfl ?_
  refine Wp.skip ?_
  refine sq ?_
  refine Wp.block ?_
  refine sq ?_
  refine rg fun KF hKF => ?_
  refine Fo.now rfl rfl (by simp only [↓nrmL, nrmZ, Nat.reduceEqDiff, ↓reduceIte, Nat.reduceAdd, Int.reduceBEq, Int.reduceBNe, hc, wx, wy, hi]; rfl) ?_
  refine Fo.new ?_
  refine Fo.st rfl (rfl : _ = AVal.agg _) rfl rfl rfl (by repeat (first | rfl | refine allOne_cons ?_)) (by simp only [↓nrmL, nrmZ, Nat.reduceEqDiff, ↓reduceIte, Nat.reduceAdd, Int.reduceBEq, Int.reduceBNe, hc, wx, wy, hi]; rfl) ?_
  refine WpO.nil (hKF _ _ ?_)
  refine sq ?_
  refine rg fun KF hKF => ?_
  refine Fo.ldN rfl rfl (by simp only [↓nrmL, nrmZ, Nat.reduceEqDiff, ↓reduceIte, Nat.reduceAdd, Int.reduceBEq, Int.reduceBNe, hc, wx, wy, hi]; rfl) ?_
  refine mI rfl ?_
  refine Fo.fa rfl ?_
  refine Fo.ld rfl rfl ?_
  refine Fo.bin rfl rfl rfl (by simp only [↓nrmL, nrmZ, Nat.reduceEqDiff, ↓reduceIte, Nat.reduceAdd, Int.reduceBEq, Int.reduceBNe, hc, wx, wy, hi]; rfl) ?_
  refine mI rfl ?_
  refine Fo.fa rfl ?_
  refine Fo.ld rfl rfl ?_
  refine Fo.bin rfl rfl rfl (by simp only [↓nrmL, nrmZ, Nat.reduceEqDiff, ↓reduceIte, Nat.reduceAdd, Int.reduceBEq, Int.reduceBNe, hc, wx, wy, hi]; rfl) ?_
  refine Fo.pcall (v' := ?_) hn rfl (by simp only [↓nrmL, nrmZ, Nat.reduceEqDiff, ↓reduceIte, Nat.reduceAdd, Int.reduceBEq, Int.reduceBNe, hc, wx, wy, hi, List.map]; rfl) rfl ?hv fun _ _ => ?_; case hv => (simp only [↓nrmL, nrmZ, Nat.reduceEqDiff, ↓reduceIte, Nat.reduceAdd, Int.reduceBEq, Int.reduceBNe, hc, wx, wy, hi]; rfl)
  refine WpO.nil (hKF _ _ ?_)
  dsimp only [cond_true, cond_false]
  cases hv : ringF a b l x y 7
  ·skip
   refine Wp.cond (b := false) rfl ?_
   refine Wp.skip ?_
   refine rg fun KF hKF => ?_
   refine Fo.bin rfl rfl rfl rfl ?_
   refine mI rfl ?_
   refine WpO.nil (hKF _ _ ?_)
   dsimp only [cond_true, cond_false]
   refine ⟨7 + 1, by omega, ⟨rfl, trivial⟩, by omega, by rw [dst_off hv]; infer_instance, inferInstance, inferInstance, inferInstance, ExtP0.ext⟩
  ·obtain ⟨u, v, e1, e2, hu, hvb, _⟩ := inkB_true hv
   have e1' : (x : Int) + (-1) = (u : Int) := e1
   have e2' : (y : Int) + (-1) = (v : Int) := e2
   have hidx := idx_lt hu hvb
   have hva : v * a ≤ 640 * 640 := Nat.mul_le_mul (by omega) ha
   have m1 : IntKind.i64.wrap (((y : Int) + (-1)) * (a : Int)) = ((v * a : Nat) : Int) := by rw [e2']; exact wm (by omega)
   have m2 : IntKind.i64.wrap (((v * a : Nat) : Int) + (x : Int)) = ((v * a + x : Nat) : Int) := wa (by omega)
   have m3 : IntKind.i64.wrap (((v * a + x : Nat) : Int) + (-1)) = ((v * a + u : Nat) : Int) := by rw [w64 (by omega)]; omega
   have hlen := dst_length (a := a) (b := b) (r := l) (x := (x : Int)) (y := (y : Int)) (d := D) 7
   try simp only [↓nrmL, nrmZ, Nat.reduceEqDiff, ↓reduceIte, Nat.reduceAdd, Int.reduceBEq, Int.reduceBNe, wy, m1, m2, m3]
   refine Wp.cond (b := true) rfl ?_
   refine rg fun KF hKF => ?_
   refine Fo.mov (by simp only [↓nrmL, nrmK, Nat.reduceEqDiff, ↓reduceIte]; rfl) ?_
   refine mI rfl ?_
   refine Fo.fa rfl ?_
   refine Fo.ld rfl rfl ?_
   refine Fo.bin rfl rfl rfl (by simp only [↓nrmL, nrmZ, Nat.reduceEqDiff, ↓reduceIte, Nat.reduceAdd, Int.reduceBEq, Int.reduceBNe, wy, m1, m2, m3]; rfl) ?_
   refine Fo.fa rfl ?_
   refine Fo.ld rfl rfl ?_
   refine Fo.bin rfl rfl rfl (by simp only [↓nrmL, nrmZ, Nat.reduceEqDiff, ↓reduceIte, Nat.reduceAdd, Int.reduceBEq, Int.reduceBNe, wy, m1, m2, m3]; rfl) ?_
   refine mI rfl ?_
   refine Fo.bin rfl rfl rfl (by simp only [↓nrmL, nrmZ, Nat.reduceEqDiff, ↓reduceIte, Nat.reduceAdd, Int.reduceBEq, Int.reduceBNe, wy, m1, m2, m3]; rfl) ?_
   refine Fo.fa rfl ?_
   refine Fo.ld rfl rfl ?_
   refine Fo.bin rfl rfl rfl (by simp only [↓nrmL, nrmZ, Nat.reduceEqDiff, ↓reduceIte, Nat.reduceAdd, Int.reduceBEq, Int.reduceBNe, wy, m1, m2, m3]; rfl) ?_
   refine Fo.idx (by simp only [↓nrmL, nrmK, Nat.reduceEqDiff, ↓reduceIte]; rfl) rfl ?_ (by simp only [↓nrmL, nrmZ, Nat.reduceEqDiff, ↓reduceIte, Nat.reduceAdd, Int.reduceBEq, Int.reduceBNe, wy, m1, m2, m3]; rfl) ?_; (focus omega)
   refine WpO.do' (WpX.stB (p := d) (j := v * a + u) (l := dstL a b l x y 7 D) 1 rfl rfl rfl (by rw [hlen, hD]; exact hidx) fun H6 hb6 hw6 hx6 => ?_)
   rw [← dst_on hv e1 e2] at hb6
   refine WpO.nil (hKF _ _ ?_)
   refine rg fun KF hKF => ?_
   refine Fo.bin rfl rfl rfl rfl ?_
   refine mI rfl ?_
   refine WpO.nil (hKF _ _ ?_)
   dsimp only [cond_true, cond_false]
   refine ⟨7 + 1, by omega, ⟨rfl, trivial⟩, by omega, hb6, hw6, inferInstance, inferInstance, ExtP0.ext⟩
 ·have hc : decide (((8 : Nat) : Int) < 8) = false := rfl
  try simp only [↓nrmL, nrmZ, Nat.reduceEqDiff, ↓reduceIte, Nat.reduceAdd, Int.reduceBEq, Int.reduceBNe, hc]
  refine sq ?_
  refine rg fun KF hKF => ?_
  refine Fo.bin rfl rfl rfl (by simp only [↓nrmL, nrmZ, Nat.reduceEqDiff, ↓reduceIte, Nat.reduceAdd, Int.reduceBEq, Int.reduceBNe, hc]; rfl) ?_
  refine WpO.nil (hKF _ _ ?_)
  refine sq ?_
  refine Wp.cond (b := false) rfl ?_
  refine Wp.exit ?_
  dsimp only [cond_true, cond_false]
  refine ⟨trivial, _, (by first | rfl | exact getAllC rfl rfl rfl rfl | exact getAllT rfl (getAllC rfl rfl rfl rfl) | exact getAllC rfl rfl rfl (getAllC rfl rfl rfl rfl) | exact getAllC1 rfl rfl rfl), ?_⟩
  exact ⟨inferInstance, inferInstance, ExtP0.ext⟩
end Go.Am

set_option maxHeartbeats 8000000
set_option maxRecDepth 100000
set_option synthInstance.maxHeartbeats 4000000
set_option synthInstance.maxSize 100000
namespace Go.Am
open Go
attribute [local irreducible] Wp WpO WpX WpE

instance K_blIB {p : AVal} {H : AHeap} {l : List UInt8} {k : Int} {b : UInt8} [hp : BytesI H p l] [hb : IsU8 k b] : PureCon ext prog 162 [p, .int .u8 k] H 0 (.int .i64 (Lib.indexByte l b)) := ⟨fun n hn => by
 obtain ⟨k', rfl⟩ : ∃ k, n = k + 1 := ⟨n - 1, by unfold fuel0 at hn; omega⟩
 have e1 : prog 162 = some ⟨0, .ext 1, []⟩ := rfl
 refine ⟨_, H, ?_, rfl, Ext.refl H⟩
 rw [call_ext e1]
 show aIndexByte [p, .int .u8 k] H = _
 rw [hb.eq]
 show aBytesFn (fun l => .int .i64 (Lib.indexByte l (UInt8.ofNat ((b.toNat : Int)).toNat))) p H = _
 rw [aBytesFn_at]
 simp⟩
instance K_bytesIB {p : AVal} {H : AHeap} {l : List UInt8} {k : Int} {b : UInt8} [hp : BytesI H p l] [hb : IsU8 k b] : PureCon ext prog 128 [p, .int .u8 k] H 1 (.int .i64 (Lib.indexByte l b)) := ⟨by
 refine con_of (show prog 128 = some c128 from rfl) rfl rfl fun n hn => ?_
 haveI := hp.one
 refine sq ?_
 refine rg fun KF hKF => ?_
 refine mI rfl ?_
 refine WpO.nil (hKF _ _ ?_)
 refine sq ?_
 refine rg fun KF hKF => ?_
 refine Fo.mov (by simp only [↓nrmL, nrmK, Nat.reduceEqDiff, ↓reduceIte]; rfl) ?_
 refine mI rfl ?_
 refine Fo.pcall (v' := ?_) hn rfl (by simp only [↓nrmL, nrmZ, Nat.reduceEqDiff, ↓reduceIte, Nat.reduceAdd, Int.reduceBEq, Int.reduceBNe, List.map]; rfl) rfl ?hv fun _ _ => ?_; case hv => rfl
 refine mI rfl ?_
 refine WpO.nil (hKF _ _ ?_)
 refine Wp.ret ?_
 dsimp only [cond_true, cond_false]
 refine ⟨trivial, _, (by first | rfl | exact getAllC rfl rfl rfl rfl | exact getAllT rfl (getAllC rfl rfl rfl rfl) | exact getAllC rfl rfl rfl (getAllC rfl rfl rfl rfl) | exact getAllC1 rfl rfl rfl), ?_⟩
 exact ⟨rfl, Ext0.ext⟩⟩
theorem ib_some {c : UInt8} : ∀ {l : List UInt8} {i : Nat}, Lib.indexByte l c = (i : Int) → l[i]? = some c ∧ ∀ j, j < i → l[j]? ≠ some c
 | [], i, h => by simp [Lib.indexByte] at h
 | x :: l, i, h => by
  unfold Lib.indexByte at h
  split at h
  ·rename_i hx
   have : i = 0 := by omega
   subst this
   exact ⟨by rw [eq_of_beq hx]; rfl, fun j hj => by omega⟩
  ·rename_i hx
   split at h
   ·omega
   ·rename_i h1
    have h2 : Lib.indexByte l c = ((i - 1 : Nat) : Int) ∧ 0 < i := by
     have := Lib.indexByte_ge l c
     have h3 : Lib.indexByte l c ≠ -1 := fun e => h1 (by rw [e]; rfl)
     omega
    obtain ⟨g1, g2⟩ := ib_some h2.1
    obtain ⟨k, rfl⟩ : ∃ k, i = k + 1 := ⟨i - 1, by omega⟩
    refine ⟨g1, fun j hj => ?_⟩
    cases j with
    | zero => intro e; simp at e; rw [e] at hx; simp at hx
    | succ j => exact g2 j (by omega)
theorem ib_none {c : UInt8} : ∀ {l : List UInt8}, Lib.indexByte l c < 0 → ∀ j : Nat, l[j]? ≠ some c
 | [], _, j => by simp
 | x :: l, h, j => by
  unfold Lib.indexByte at h
  split at h
  ·omega
  ·rename_i hx
   split at h
   ·rename_i h1
    have h2 : Lib.indexByte l c < 0 := by rw [eq_of_beq h1]; decide
    cases j with
    | zero => intro e; simp at e; rw [e] at hx; simp at hx
    | succ j => exact ib_none h2 j
   ·rename_i h1
    have := Lib.indexByte_ge l c
    have h3 : Lib.indexByte l c ≠ -1 := fun e => h1 (by rw [e]; rfl)
    omega
theorem getD_some {l : List UInt8} {j : Nat} {c : UInt8} : l[j]? = some c → l.getD j 0 = c := fun h => by rw [List.getD_eq_getElem?_getD, h]; rfl
theorem getD_one {l : List UInt8} {j : Nat} (h : l[j]? ≠ some 1) : l.getD j 0 ≠ 1 := fun e => by
 rw [List.getD_eq_getElem?_getD] at e
 cases hj : l[j]? with
 | none => rw [hj] at e; cases e
 | some x => rw [hj] at e; exact h (by rw [hj]; exact congrArg some e)
theorem drop_get {l : List UInt8} {i n j : Nat} (h : i + n = l.length) : ((l.drop i).take n)[j]? = l[i + j]? := by
 rw [List.getElem?_take, List.getElem?_drop]
 split
 ·rfl
 ·rw [List.getElem?_eq_none (by omega)]
end Go.Am

/- copy: bytes into a part of a slice. -/
set_option maxHeartbeats 4000000
namespace Go.Am
open Go
section
variable {call : ACall} {n ref : Nat} {its : List DItem} {H0 H : AHeap} {E : List (Nat × AHeap)} {Rd : List (Nat × (AHeap → Bool))} {fr : AFrame} {K : AFrame → AHeap → Prop} {bm d : Nat} {pre : Bool} {g : Option (Nat × Bool)}
theorem Fe.slc {x : ROpd} {lo hi : Option ROpd} {p : AVal} {l : List UInt8} {a b : Nat} (hw : ROper.wanted fr ⟨some d, .sliceS 1 x lo hi none, g⟩ = true) (hx : x.ev fr = p) (hlo : bnd (lo.map (·.ev fr)) 0 a) (hhi : bnd (hi.map (·.ev fr)) l.length b) (hab : a ≤ b) (hbl : b ≤ l.length) [s : BytesI H p l]
    (h : ∀ v H1, Part p v a (b - a) → BytesI H1 v ((l.drop a).take (b - a)) → ExtI H H1 → AllR bm H1 Rd ∧ WpE call (n + 1) ref its H0 ((n, H) :: E) Rd (upd fr d v) H1 K) : WpE call n ref (⟨⟨some d, .sliceS 1 x lo hi none, g⟩, bm, 2, pre⟩ :: its) H0 E Rd fr H K := by
  obtain ⟨v, H1, h1, h2, h3, h4⟩ := exec_slc (call := call) hx hlo hhi hab hbl (s := s)
  obtain ⟨h5, h6⟩ := h v H1 h2 h3 ⟨h4⟩
  exact WpE.effect hw h1 h5 h6
end
end Go.Am

set_option maxHeartbeats 8000000
set_option maxRecDepth 100000
set_option synthInstance.maxHeartbeats 4000000
set_option synthInstance.maxSize 100000
namespace Go.Am
open Go
attribute [local irreducible] Wp WpO WpX WpE

/-- How the heap stands while an image is thinned. -/
structure TH (H : AHeap) (a b : Nat) (p q d : AVal) (r1 r2 r5 : Nat) (r D : List UInt8) (H2 : AHeap) : Prop where
 bq : BytesI H2 q r
 wq : WrS H2 q
 bd : BytesI H2 d D
 wd : WrS H2 d
 g1 : HasRow H2 r1 [.int .i64 a, .int .i64 b, p] true (2 * 24)
 g2 : HasRow H2 r2 [.int .i64 0, .int .i64 0, .nslice] true (2 * 24)
 g5 : HasRow H2 r5 [.int .i64 a, .int .i64 b, q] true (2 * 24)
 ext : Ext H H2

theorem K_ThinV {a b : Nat} {p : AVal} {H : AHeap} {l : List UInt8} [hp : BytesI H p l] [ht : Tabs H] (ok : Ok a b l) : Con ext prog 5 70 [.agg [.int .i64 a, .int .i64 b, p]] H fun v H' => ∃ r m, r = thinN a b l m ∧ passT a b r (a * b) = r ∧ InkRes H H' v (⟨a, b, r⟩, 0) := by
 refine con_of (show prog 70 = some c70 from rfl) rfl rfl fun n hn => ?_
 haveI := hp.one
 have ee := ok.err
 have hsh := ok.short
 have hwa := ok.wa
 have hhb := ok.hb
 have hab : a * b ≤ 640 * 640 := Nat.mul_le_mul hwa hhb
 refine sq ?_
 refine rg fun KF hKF => ?_
 refine Fo.boxA rfl ?_
 refine Fo.new ?_
 refine mI rfl ?_
 refine WpO.nil (hKF _ _ ?_)
 dsimp only [cond_true, cond_false]
 refine Wp.scope ?_
 try simp only [↓nrmL, nrmZ, Nat.reduceEqDiff, ↓reduceIte, Nat.reduceAdd, Int.reduceBEq, Int.reduceBNe, ee]
 refine sq ?_
 refine sq ?_
 refine rg fun KF hKF => ?_
 refine Fo.ldN rfl rfl (by simp only [↓nrmL, nrmZ, Nat.reduceEqDiff, ↓reduceIte, Nat.reduceAdd, Int.reduceBEq, Int.reduceBNe, ee]; rfl) ?_
 refine Fo.pcall (v' := ?_) hn rfl (by simp only [↓nrmL, nrmZ, Nat.reduceEqDiff, ↓reduceIte, Nat.reduceAdd, Int.reduceBEq, Int.reduceBNe, ee, List.map]; rfl) rfl ?hv fun _ _ => ?_; case hv => (simp only [↓nrmL, nrmZ, Nat.reduceEqDiff, ↓reduceIte, Nat.reduceAdd, Int.reduceBEq, Int.reduceBNe, ee]; rfl)
 refine mI rfl ?_
 refine WpO.nil (hKF _ _ ?_)
 refine sq ?_
 refine rg fun KF hKF => ?_
 refine mI rfl ?_
 refine Fo.bin rfl rfl rfl (by simp only [↓nrmL, nrmZ, Nat.reduceEqDiff, ↓reduceIte, Nat.reduceAdd, Int.reduceBEq, Int.reduceBNe, ee]; rfl) ?_
 refine WpO.nil (hKF _ _ ?_)
 refine Wp.cond (b := false) rfl ?_
 refine Wp.skip ?_
 refine sq ?_
 refine rg fun KF hKF => ?_
 refine Fo.ldN rfl rfl (by simp only [↓nrmL, nrmZ, Nat.reduceEqDiff, ↓reduceIte, Nat.reduceAdd, Int.reduceBEq, Int.reduceBNe, ee]; rfl) ?_
 rename AHeap => Hc
 rename ExtI _ Hc => hxc
 have hc2 : (H.push (.row [.int .i64 a, .int .i64 b, p] true (2 * 24))).n < Hc.n := hxc.ext.n
 refine WpO.do (WpX.conD hn rfl rfl (by simp only [↓nrmL, nrmZ, Nat.reduceEqDiff, ↓reduceIte, Nat.reduceAdd, Int.reduceBEq, Int.reduceBNe, List.map] <;> rfl) (K_twin (l := l) (by omega)) fun v H1 h5 => ?_)
 obtain ⟨q, e1, hq, hfq, hwq, hxq⟩ := h5
 subst e1
 try dsimp only at hq
 haveI : ExtI _ H1 := ⟨hxq⟩
 haveI := hq.one
 refine Fo.new ?_
 refine Fo.st rfl (rfl : _ = AVal.agg _) rfl rfl rfl (by repeat (first | rfl | refine allOne_cons ?_)) (by simp only [↓nrmL, nrmZ, Nat.reduceEqDiff, ↓reduceIte, Nat.reduceAdd, Int.reduceBEq, Int.reduceBNe]; rfl) ?_
 refine WpO.nil (hKF _ _ ?_)
 refine sq ?_
 refine rg fun KF hKF => ?_
 refine Fo.fa rfl ?_
 refine Fo.ld rfl rfl ?_
 dsimp only [cond_true, cond_false]
 refine WpO.do (WpX.conD hn rfl rfl (by simp only [↓nrmL, nrmZ, Nat.reduceEqDiff, ↓reduceIte, Nat.reduceAdd, Int.reduceBEq, Int.reduceBNe, List.map] <;> rfl) (K_Clone (l := l) (by omega)) fun d H2 h5 => ?_)
 obtain ⟨hd, hfd, hwd, hxd⟩ := h5
 haveI : ExtI _ H2 := ⟨hxd⟩
 haveI := hd.one
 have hlt1 : H.n < (H.push (.row [.int .i64 a, .int .i64 b, p] true (2 * 24))).n := Nat.lt_succ_self _
 have hqn : ∀ r off len cap sz, q = .slice r off len cap sz → (H.push (.row [.int .i64 a, .int .i64 b, p] true (2 * 24))).n < r ∧ r < H1.n := fun r off len cap sz e => ⟨Nat.lt_of_lt_of_le hc2 (hfq.ge _ _ _ _ _ e), hq.lt e⟩
 have hdn : ∀ r off len cap sz, d = .slice r off len cap sz → H1.n < r := fun r off len cap sz e => hfd.ge _ _ _ _ _ e
 haveI : SepS q d := ⟨fun r off len cap sz r' off' len' cap' sz' e e' => by have := hqn _ _ _ _ _ e; have := hdn _ _ _ _ _ e'; omega⟩
 haveI : SepS d q := ⟨fun r off len cap sz r' off' len' cap' sz' e e' => by have := hqn _ _ _ _ _ e'; have := hdn _ _ _ _ _ e; omega⟩
 haveI : RowNe q H.n := ⟨fun r off len cap sz e => by have := hqn _ _ _ _ _ e; omega⟩
 haveI : RowNe q (H.push (.row [.int .i64 a, .int .i64 b, p] true (2 * 24))).n := ⟨fun r off len cap sz e => by have := hqn _ _ _ _ _ e; omega⟩
 haveI : RowNe q H1.n := ⟨fun r off len cap sz e => by have := hqn _ _ _ _ _ e; omega⟩
 have hH1 : (H.push (.row [.int .i64 a, .int .i64 b, p] true (2 * 24))).n < H1.n := by
  exact Nat.lt_of_lt_of_le hc2 hxq.n
 haveI : RowNe d H.n := ⟨fun r off len cap sz e => by have := hdn _ _ _ _ _ e; omega⟩
 haveI : RowNe d (H.push (.row [.int .i64 a, .int .i64 b, p] true (2 * 24))).n := ⟨fun r off len cap sz e => by have := hdn _ _ _ _ _ e; omega⟩
 haveI : RowNe d H1.n := ⟨fun r off len cap sz e => by have := hdn _ _ _ _ _ e; omega⟩
 have hz : RowNe d 0 := ⟨fun r off len cap sz e => by have := hdn _ _ _ _ _ e; omega⟩
 haveI : FreshS H q := ⟨fun r off len cap sz e => by have := hqn _ _ _ _ _ e; omega⟩
 haveI : FreshS H d := ⟨fun r off len cap sz e => by have := hdn _ _ _ _ _ e; omega⟩
 clear hqn hdn hfq hfd
 have hth0 : TH H a b p q d H.n (H.push (.row [.int .i64 a, .int .i64 b, p] true (2 * 24))).n H1.n l l H2 := ⟨inferInstance, inferInstance, inferInstance, inferInstance, inferInstance, inferInstance, inferInstance, Ext0.ext⟩
 refine Fo.mov (by simp only [↓nrmL, nrmK, Nat.reduceEqDiff, ↓reduceIte]; rfl) ?_
 refine WpO.nil (hKF _ _ ?_)
 refine sq ?_
 refine Wp.label ?_
 refine sq ?_
 refine Wp.block ?_
 dsimp only [cond_true, cond_false]
 refine Wp.loopS [7, 8, 20, 21, 22, 23, 24, 25, 26, 27, 28, 29, 30, 31, 32, 33, 34, 35, 36, 37, 38, 39, 40, 41, 42, 43, 44, 45, 46, 47, 48, 49, 50, 51, 52, 53, 54, 55, 56, 57, 58, 59, 60, 61, 62, 63, 64] (fun _ : List UInt8 × List UInt8 => []) (fun _ s H3 => (∃ m, s.1 = thinN a b l m) ∧ TInv a b s.1 s.1 s.2 0 ∧ TH H a b p q d H.n (H.push (.row [.int .i64 a, .int .i64 b, p] true (2 * 24))).n H1.n s.1 s.2 H3) (fun s => 2 * s.1.count 1 + (if 1 ∈ s.2 then 1 else 0)) (l, l) rfl (fun _ => rfl) trivial ⟨⟨0, rfl⟩, TInv.first ok, hth0⟩ (by
  have := List.count_le_length (a := (1 : UInt8)) (l := l)
  unfold fuel0 at hn
  dsimp only
  split <;> omega) ?_
 rintro ⟨r0, D0⟩ g H3 ⟨⟨m0, hm0⟩, hinv0, hth⟩
 dsimp only at hm0 hinv0 hth
 clear hth0
 simp only [↓nrmL, nrmZ, Nat.reduceEqDiff, ↓reduceIte, Nat.reduceAdd, Int.reduceBEq, Int.reduceBNe]
 refine Wp.block ?_
 refine sq ?_
 refine rg fun KF hKF => ?_
 refine mI rfl ?_
 refine WpO.nil (hKF _ _ ?_)
 refine Wp.block ?_
 dsimp only [cond_true, cond_false]
 refine Wp.loopS [7, 8, 20, 21, 22, 23, 24, 25, 26, 27, 28, 29, 30, 31, 32, 33, 34, 35, 36, 37, 38, 39, 40, 41, 42, 43, 44, 45, 46, 47, 48, 49, 50, 51, 52, 53, 54, 55, 56, 57, 58, 59, 60, 61, 62, 63, 64] (fun s : Nat × List UInt8 × List UInt8 => [(7, .int .i64 (s.1 : Int))]) (fun _ s H4 => TInv a b r0 s.2.1 s.2.2 s.1 ∧ (s.1 = 0 ∧ s.2.1 = r0 ∧ s.2.2 = D0 ∨ 1 ∈ D0) ∧ TH H a b p q d H.n (H.push (.row [.int .i64 a, .int .i64 b, p] true (2 * 24))).n H1.n s.2.1 s.2.2 H4) (fun s => a * b + 1 - s.1) (0, r0, D0) rfl (fun _ => rfl) ⟨rfl, trivial⟩ ⟨hinv0, Or.inl ⟨rfl, rfl, rfl⟩, hth⟩ (by unfold fuel0 at hn; dsimp only; omega) ?_
 rintro ⟨i, r, D⟩ gg H4 ⟨hti, hdue, hth4⟩
 dsimp only at hti hdue hth4
 clear hth hinv0
 obtain ⟨bq, wq, bd, wd, g1, g2, g5, hx⟩ := hth4
 haveI : Ext0 H H4 := ⟨hx⟩
 haveI : ExtI H H4 := ⟨hx⟩
 have hDl := hti.len
 have hile := hti.hi
 simp only [↓nrmL, nrmZ, Nat.reduceEqDiff, ↓reduceIte, Nat.reduceAdd, Int.reduceBEq, Int.reduceBNe]
 refine sq ?_
 refine Wp.block ?_
 refine sq ?_
 refine rg fun KF hKF => ?_
 refine Fo.mov (by simp only [↓nrmL, nrmK, Nat.reduceEqDiff, ↓reduceIte]; rfl) ?_
 refine mI rfl ?_
 refine Fo.slc (p := d) (l := D) (a := i) (b := D.length) rfl (Or.inr ⟨_, rfl⟩) (Or.inl ⟨rfl, rfl⟩) (by omega) (Nat.le_refl _) fun v H5 k1 k2 hx5 => ?_
 haveI := k2.one
 obtain ⟨N, hN⟩ : ∃ N, Lib.indexByte ((D.drop i).take (D.length - i)) 1 = N := ⟨_, rfl⟩
 have hget : ∀ j, ((D.drop i).take (D.length - i))[j]? = D[i + j]? := fun j => drop_get (by omega)
 cases hneg : decide (N < 0)
 ·obtain ⟨kk, rfl⟩ : ∃ kk : Nat, N = kk := ⟨N.toNat, by have := of_decide_eq_false hneg; omega⟩
  obtain ⟨h1, h2⟩ := ib_some hN
  rw [hget] at h1
  obtain ⟨j, hj⟩ : ∃ j, i + kk = j := ⟨_, rfl⟩
  rw [hj] at h1
  have hDj : D.getD j 0 = 1 := getD_some h1
  have hbef : ∀ k, i ≤ k → k < j → D.getD k 0 ≠ 1 := fun k g1' g2' => getD_one (by
   have := h2 (k - i) (by omega)
   rw [hget, show i + (k - i) = k by omega] at this
   exact this)
  obtain ⟨hjl, hrj⟩ := hti.skip (by omega) hDj hbef
  have hd0 : 1 ∈ D0 := by
   rcases hdue with ⟨_, _, e⟩ | e
   ·rw [← e]; exact List.mem_of_getElem? h1
   ·exact e
  have wij : IntKind.i64.wrap ((i : Int) + (kk : Int)) = (j : Int) := by rw [w64 (by omega)]; omega
  have hw1 := wa1 (a := j) (by omega)
  have hjs : j < D.length := by omega
  have hrl := hti.ok.len
  try simp only [↓nrmL, nrmZ, Nat.reduceEqDiff, ↓reduceIte, Nat.reduceAdd, Int.reduceBEq, Int.reduceBNe, hN, hneg, wij]
  refine Fo.pcall (v' := ?_) hn rfl (by simp only [↓nrmL, nrmZ, Nat.reduceEqDiff, ↓reduceIte, Nat.reduceAdd, Int.reduceBEq, Int.reduceBNe, hN, hneg, wij, List.map]; rfl) rfl ?hv fun _ _ => ?_; case hv => (simp only [↓nrmL, nrmZ, Nat.reduceEqDiff, ↓reduceIte, Nat.reduceAdd, Int.reduceBEq, Int.reduceBNe, hN, hneg, wij]; rfl)
  refine mI rfl ?_
  refine WpO.nil (hKF _ _ ?_)
  refine sq ?_
  refine sq ?_
  refine rg fun KF hKF => ?_
  refine mI rfl ?_
  refine Fo.bin rfl rfl rfl (by simp only [↓nrmL, nrmZ, Nat.reduceEqDiff, ↓reduceIte, Nat.reduceAdd, Int.reduceBEq, Int.reduceBNe, hN, hneg, wij]; rfl) ?_
  refine mB rfl ?_
  refine Fo.no rfl rfl ?_
  refine Fo.no rfl rfl ?_
  refine fB rfl rfl ?_
  refine WpO.nil (hKF _ _ ?_)
  refine Wp.cond (b := false) rfl ?_
  refine Wp.skip ?_
  refine sq ?_
  refine sq ?_
  refine rg fun KF hKF => ?_
  refine mI rfl ?_
  refine Fo.bin rfl rfl rfl (by simp only [↓nrmL, nrmZ, Nat.reduceEqDiff, ↓reduceIte, Nat.reduceAdd, Int.reduceBEq, Int.reduceBNe, hN, hneg, wij]; rfl) ?_
  refine WpO.nil (hKF _ _ ?_)
  refine Wp.cond (b := false) rfl ?_
  refine Wp.skip ?_
  refine sq ?_
  refine rg fun KF hKF => ?_
  refine mI rfl ?_
  refine mI rfl ?_
  refine Fo.bin rfl rfl rfl (by simp only [↓nrmL, nrmZ, Nat.reduceEqDiff, ↓reduceIte, Nat.reduceAdd, Int.reduceBEq, Int.reduceBNe, hN, hneg, wij]; rfl) ?_
  refine mI rfl ?_
  refine WpO.nil (hKF _ _ ?_)
  refine sq ?_
  refine rg fun KF hKF => ?_
  refine Fo.mov (by simp only [↓nrmL, nrmK, Nat.reduceEqDiff, ↓reduceIte]; rfl) ?_
  refine mI rfl ?_
  refine Fo.idx (by simp only [↓nrmL, nrmK, Nat.reduceEqDiff, ↓reduceIte]; rfl) rfl ?_ (by simp only [↓nrmL, nrmZ, Nat.reduceEqDiff, ↓reduceIte, Nat.reduceAdd, Int.reduceBEq, Int.reduceBNe, hN, hneg, wij]; rfl) ?_; (focus omega)
  refine WpO.do' (WpX.stB (p := d) (j := j) (l := D) 0 rfl rfl rfl hjs fun H6 hb6 hw6 hx6 => ?_)
  refine WpO.nil (hKF _ _ ?_)
  refine sq ?_
  dsimp only [cond_true, cond_false]
  obtain ⟨ha0, hjm, hjd, _⟩ := div_lt hjl
  obtain ⟨a, rfl⟩ : ∃ a', a = a' + 1 := ⟨a - 1, by omega⟩
  have t1 : ((j : Nat) : Int).tmod ((a + 1 : Nat) : Int) = ((j % (a + 1) : Nat) : Int) := rfl
  have t3 : ∀ y : Nat, y < b → IntKind.i64.wrap ((y : Nat) : Int) = ((y : Nat) : Int) := fun y hy => w64 (by omega)
  have t2 : IntKind.i64.wrap (((j : Nat) : Int).tdiv ((a + 1 : Nat) : Int)) = ((j / (a + 1) : Nat) : Int) := by
   rw [show ((j : Nat) : Int).tdiv ((a + 1 : Nat) : Int) = ((j / (a + 1) : Nat) : Int) from rfl]
   exact t3 _ hjd
  haveI : Fits (a + 1 : Nat) b r := ⟨hti.ok.sized⟩
  haveI : Fits (a + 1 : Nat) b (r.set j 0) := ⟨hti.ok.set0.sized⟩
  refine Fr.dregion0 rfl fun KF hKF => ?_
  try simp only [↓nrmL, nrmZ, Nat.reduceEqDiff, ↓reduceIte, Nat.reduceAdd, Int.reduceBEq, Int.reduceBNe, t1, t2]
  refine Fe.read rfl (exec_ldN rfl rfl (by simp only [↓nrmL, nrmZ, Nat.reduceEqDiff, ↓reduceIte, Nat.reduceAdd, Int.reduceBEq, Int.reduceBNe, t1, t2]; rfl)) rfl (by repeat (first | exact trivial | refine ⟨(by first | exact Or.inl (by dsimp only; decide) | exact Or.inr (exec_ld rfl rfl) | exact Or.inr (exec_ldN rfl rfl rfl) | exact Or.inr (exec_ldB rfl (by omega)) | exact Or.inr (exec_ldI rfl (by omega)) | exact Or.inr ghost_of), ?_⟩)) ?_
  refine Fe.pure rfl rfl (by simp only [↓nrmL, nrmZ, Nat.reduceEqDiff, ↓reduceIte, Nat.reduceAdd, Int.reduceBEq, Int.reduceBNe, t1, t2]; rfl) ?_
  refine Fe.pure rfl rfl (by simp only [↓nrmL, nrmZ, Nat.reduceEqDiff, ↓reduceIte, Nat.reduceAdd, Int.reduceBEq, Int.reduceBNe, t1, t2]; rfl) ?_
  refine Fe.read rfl (exec_ld rfl rfl) rfl (by repeat (first | exact trivial | refine ⟨(by first | exact Or.inl (by dsimp only; decide) | exact Or.inr (exec_ld rfl rfl) | exact Or.inr (exec_ldN rfl rfl rfl) | exact Or.inr (exec_ldB rfl (by omega)) | exact Or.inr (exec_ldI rfl (by omega)) | exact Or.inr ghost_of), ?_⟩)) ?_
  refine Fe.pure rfl rfl (by simp only [↓nrmL, nrmZ, Nat.reduceEqDiff, ↓reduceIte, Nat.reduceAdd, Int.reduceBEq, Int.reduceBNe, t1, t2]; rfl) ?_
  refine Fe.pure rfl rfl (by simp only [↓nrmL, nrmZ, Nat.reduceEqDiff, ↓reduceIte, Nat.reduceAdd, Int.reduceBEq, Int.reduceBNe, t1, t2]; rfl) ?_
  refine Fe.pure rfl rfl (by simp only [↓nrmL, nrmZ, Nat.reduceEqDiff, ↓reduceIte, Nat.reduceAdd, Int.reduceBEq, Int.reduceBNe, t1, t2]; rfl) ?_
  refine Fe.read rfl (exec_ld rfl rfl) rfl (by repeat (first | exact trivial | refine ⟨(by first | exact Or.inl (by dsimp only; decide) | exact Or.inr (exec_ld rfl rfl) | exact Or.inr (exec_ldN rfl rfl rfl) | exact Or.inr (exec_ldB rfl (by omega)) | exact Or.inr (exec_ldI rfl (by omega)) | exact Or.inr ghost_of), ?_⟩)) ?_
  refine Fe.pure rfl rfl (by simp only [↓nrmL, nrmZ, Nat.reduceEqDiff, ↓reduceIte, Nat.reduceAdd, Int.reduceBEq, Int.reduceBNe, t1, t2]; rfl) ?_
  refine Fe.con rfl hn rfl rfl (by simp only [↓nrmL, nrmZ, Nat.reduceEqDiff, ↓reduceIte, Nat.reduceAdd, Int.reduceBEq, Int.reduceBNe, List.map, t1, t2] <;> rfl) (K_goes (a := a + 1) (b := b) (l := r) (x := j % (a + 1)) (y := j / (a + 1)) (by omega) (by omega)) fun v2 H7 h5 => ?_
  obtain ⟨e2, hx7⟩ := h5
  haveI : ExtI _ H7 := ⟨hx7⟩
  subst e2
  refine ⟨(by repeat (first | exact trivial | refine ⟨(by first | exact Or.inl (by dsimp only; decide) | exact Or.inr (readOk_of (exec_ld rfl rfl)) | exact Or.inr (readOk_of (exec_ldN rfl rfl rfl)) | exact Or.inr (readOk_of (exec_ldB rfl (by omega))) | exact Or.inr (readOk_of (exec_ldI rfl (by omega))) | exact Or.inr (made_of rfl)), ?_⟩)), ?_⟩
  refine WpE.nil (hKF _ _ ?_)
  cases hg : goesB (ringF (a + 1) b r ((j % (a + 1) : Nat) : Int) ((j / (a + 1) : Nat) : Int))
  ·skip
   refine Wp.cond (b := false) rfl ?_
   refine Wp.skip ?_
   refine rg fun KF hKF => ?_
   refine mI rfl ?_
   refine Fo.bin rfl rfl rfl rfl ?_
   refine mI rfl ?_
   refine WpO.nil (hKF _ _ ?_)
   dsimp only [cond_true, cond_false]
   refine ⟨(j + 1, r, D.set j 0), by dsimp only; omega, ⟨by simp only [↓nrmL, nrmZ, Nat.reduceEqDiff, ↓reduceIte, Nat.reduceAdd, Int.reduceBEq, Int.reduceBNe]; rw [hw1], trivial⟩, hti.stay (by omega) hDj hbef hg, Or.inr hd0, ⟨inferInstance, inferInstance, inferInstance, inferInstance, inferInstance, inferInstance, inferInstance, Ext0.ext⟩⟩
  ·skip
   refine Wp.cond (b := true) rfl ?_
   refine sq ?_
   refine rg fun KF hKF => ?_
   refine Fo.fa rfl ?_
   refine Fo.ld rfl rfl ?_
   refine mI rfl ?_
   refine Fo.idx (by simp only [↓nrmL, nrmK, Nat.reduceEqDiff, ↓reduceIte]; rfl) rfl ?_ (by simp only [↓nrmL, nrmZ, Nat.reduceEqDiff, ↓reduceIte, Nat.reduceAdd, Int.reduceBEq, Int.reduceBNe]; rfl) ?_; (focus omega)
   refine WpO.do' (WpX.stB (p := q) (j := j) (l := r) 0 rfl rfl rfl (by omega) fun H8 hb8 hw8 hx8 => ?_)
   refine WpO.nil (hKF _ _ ?_)
   dsimp only [cond_true, cond_false]
   refine Fr.dregion0 rfl fun KF hKF => ?_
   try simp only [↓nrmL, nrmZ, Nat.reduceEqDiff, ↓reduceIte, Nat.reduceAdd, Int.reduceBEq, Int.reduceBNe, t1, t2]
   refine Fe.read rfl (exec_ldN rfl rfl (by simp only [↓nrmL, nrmZ, Nat.reduceEqDiff, ↓reduceIte, Nat.reduceAdd, Int.reduceBEq, Int.reduceBNe, t1, t2]; rfl)) rfl (by repeat (first | exact trivial | refine ⟨(by first | exact Or.inl (by dsimp only; decide) | exact Or.inr (exec_ld rfl rfl) | exact Or.inr (exec_ldN rfl rfl rfl) | exact Or.inr (exec_ldB rfl (by omega)) | exact Or.inr (exec_ldI rfl (by omega)) | exact Or.inr ghost_of), ?_⟩)) ?_
   refine Fe.pure rfl rfl (by simp only [↓nrmL, nrmZ, Nat.reduceEqDiff, ↓reduceIte, Nat.reduceAdd, Int.reduceBEq, Int.reduceBNe, t1, t2]; rfl) ?_
   refine Fe.pure rfl rfl (by simp only [↓nrmL, nrmZ, Nat.reduceEqDiff, ↓reduceIte, Nat.reduceAdd, Int.reduceBEq, Int.reduceBNe, t1, t2]; rfl) ?_
   refine Fe.pure rfl rfl (by simp only [↓nrmL, nrmZ, Nat.reduceEqDiff, ↓reduceIte, Nat.reduceAdd, Int.reduceBEq, Int.reduceBNe, t1, t2]; rfl) ?_
   refine Fe.read rfl (exec_ld rfl rfl) rfl (by repeat (first | exact trivial | refine ⟨(by first | exact Or.inl (by dsimp only; decide) | exact Or.inr (exec_ld rfl rfl) | exact Or.inr (exec_ldN rfl rfl rfl) | exact Or.inr (exec_ldB rfl (by omega)) | exact Or.inr (exec_ldI rfl (by omega)) | exact Or.inr ghost_of), ?_⟩)) ?_
   refine Fe.pure rfl rfl (by simp only [↓nrmL, nrmZ, Nat.reduceEqDiff, ↓reduceIte, Nat.reduceAdd, Int.reduceBEq, Int.reduceBNe, t1, t2]; rfl) ?_
   refine Fe.pure rfl rfl (by simp only [↓nrmL, nrmZ, Nat.reduceEqDiff, ↓reduceIte, Nat.reduceAdd, Int.reduceBEq, Int.reduceBNe, t1, t2]; rfl) ?_
   refine Fe.pure rfl rfl (by simp only [↓nrmL, nrmZ, Nat.reduceEqDiff, ↓reduceIte, Nat.reduceAdd, Int.reduceBEq, Int.reduceBNe, t1, t2]; rfl) ?_
   refine Fe.read rfl (exec_ld rfl rfl) rfl (by repeat (first | exact trivial | refine ⟨(by first | exact Or.inl (by dsimp only; decide) | exact Or.inr (exec_ld rfl rfl) | exact Or.inr (exec_ldN rfl rfl rfl) | exact Or.inr (exec_ldB rfl (by omega)) | exact Or.inr (exec_ldI rfl (by omega)) | exact Or.inr ghost_of), ?_⟩)) ?_
   refine Fe.pure rfl rfl (by simp only [↓nrmL, nrmZ, Nat.reduceEqDiff, ↓reduceIte, Nat.reduceAdd, Int.reduceBEq, Int.reduceBNe, t1, t2]; rfl) ?_
   refine Fe.con rfl hn rfl rfl (by simp only [↓nrmL, nrmZ, Nat.reduceEqDiff, ↓reduceIte, Nat.reduceAdd, Int.reduceBEq, Int.reduceBNe, List.map, t1, t2] <;> rfl) (K_disturb (a := a + 1) (b := b) (l := r.set j 0) (D := D.set j 0) (x := j % (a + 1)) (y := j / (a + 1)) hz (by rw [List.length_set]; exact hDl) hwa hhb (by omega) (by omega)) fun v3 H9 h5 => ?_
   obtain ⟨hb9, hw9, hx9⟩ := h5
   refine ⟨(by repeat (first | exact trivial | refine ⟨(by first | exact Or.inl (by dsimp only; decide) | exact Or.inr (readOk_of (exec_ld rfl rfl)) | exact Or.inr (readOk_of (exec_ldN rfl rfl rfl)) | exact Or.inr (readOk_of (exec_ldB rfl (by omega))) | exact Or.inr (readOk_of (exec_ldI rfl (by omega))) | exact Or.inr (made_of rfl)), ?_⟩)), ?_⟩
   refine WpE.nil (hKF _ _ ?_)
   refine rg fun KF hKF => ?_
   refine mI rfl ?_
   refine Fo.bin rfl rfl rfl rfl ?_
   refine mI rfl ?_
   refine WpO.nil (hKF _ _ ?_)
   dsimp only [cond_true, cond_false]
   refine ⟨(j + 1, r.set j 0, dstL (a + 1) b (r.set j 0) ((j % (a + 1) : Nat) : Int) ((j / (a + 1) : Nat) : Int) 8 (D.set j 0)), by dsimp only; omega, ⟨by simp only [↓nrmL, nrmZ, Nat.reduceEqDiff, ↓reduceIte, Nat.reduceAdd, Int.reduceBEq, Int.reduceBNe]; rw [hw1], trivial⟩, hti.gone (by omega) hDj hbef hg, Or.inr hd0, ⟨inferInstance, inferInstance, inferInstance, inferInstance, inferInstance, inferInstance, inferInstance, Ext0.ext⟩⟩
 ·have hno : ∀ k, i ≤ k → D.getD k 0 ≠ 1 := fun k hk => getD_one (by
   have := ib_none (l := (D.drop i).take (D.length - i)) (c := 1) (by rw [hN]; exact of_decide_eq_true hneg) (k - i)
   rw [hget, show i + (k - i) = k by omega] at this
   exact this)
  cases hiz : ((i : Int) == 0)
  ·have hi0 : i ≠ 0 := fun e => by rw [e] at hiz; cases hiz
   obtain ⟨f1, f2, f3⟩ := hti.round hno
   try simp only [↓nrmL, nrmZ, Nat.reduceEqDiff, ↓reduceIte, Nat.reduceAdd, Int.reduceBEq, Int.reduceBNe, hN, hneg, hiz]
   refine Fo.pcall (v' := ?_) hn rfl (by simp only [↓nrmL, nrmZ, Nat.reduceEqDiff, ↓reduceIte, Nat.reduceAdd, Int.reduceBEq, Int.reduceBNe, hN, hneg, hiz, List.map]; rfl) rfl ?hv fun _ _ => ?_; case hv => (simp only [↓nrmL, nrmZ, Nat.reduceEqDiff, ↓reduceIte, Nat.reduceAdd, Int.reduceBEq, Int.reduceBNe, hN, hneg, hiz]; rfl)
   refine mI rfl ?_
   refine WpO.nil (hKF _ _ ?_)
   refine sq ?_
   refine sq ?_
   refine rg fun KF hKF => ?_
   refine mI rfl ?_
   refine Fo.bin rfl rfl rfl (by simp only [↓nrmL, nrmZ, Nat.reduceEqDiff, ↓reduceIte, Nat.reduceAdd, Int.reduceBEq, Int.reduceBNe, hN, hneg, hiz]; rfl) ?_
   refine mB rfl ?_
   refine Fo.yes rfl rfl ?_
   refine mI rfl ?_
   refine Fo.yes rfl rfl ?_
   refine Fo.bin rfl rfl rfl (by simp only [↓nrmL, nrmZ, Nat.reduceEqDiff, ↓reduceIte, Nat.reduceAdd, Int.reduceBEq, Int.reduceBNe, hN, hneg, hiz]; rfl) ?_
   refine tB rfl rfl ?_
   refine WpO.nil (hKF _ _ ?_)
   refine Wp.cond (b := false) rfl ?_
   refine Wp.skip ?_
   refine sq ?_
   refine sq ?_
   refine rg fun KF hKF => ?_
   refine mI rfl ?_
   refine Fo.bin rfl rfl rfl (by simp only [↓nrmL, nrmZ, Nat.reduceEqDiff, ↓reduceIte, Nat.reduceAdd, Int.reduceBEq, Int.reduceBNe, hN, hneg, hiz]; rfl) ?_
   refine WpO.nil (hKF _ _ ?_)
   refine Wp.cond (b := true) rfl ?_
   refine Wp.exit ?_
   dsimp only [cond_true, cond_false]
   refine ⟨(r, D), ?_, trivial, ⟨m0 + 1, ?_⟩, f2, ⟨inferInstance, inferInstance, inferInstance, inferInstance, inferInstance, inferInstance, inferInstance, Ext0.ext⟩⟩
   ·dsimp only
    have hd0 : 1 ∈ D0 := hdue.resolve_left (fun e => hi0 e.1)
    rw [if_pos hd0]
    rcases f3 with f3 | ⟨rfl, f3⟩
    ·split <;> omega
    ·rw [if_neg]
     ·omega
     ·intro hmem
      obtain ⟨k, hk⟩ := List.getElem?_of_mem hmem
      exact f3 k (getD_some hk)
   ·show r = passT a b (thinN a b l m0) (a * b)
    rw [← hm0]; exact f1.symm
  ·have hi0 : i = 0 := by have := eq_of_beq hiz; omega
   subst hi0
   have hr : r = r0 := hti.eq
   try simp only [↓nrmL, nrmZ, Nat.reduceEqDiff, ↓reduceIte, Nat.reduceAdd, Int.reduceBEq, Int.reduceBNe, hN, hneg, hiz]
   refine Fo.pcall (v' := ?_) hn rfl (by simp only [↓nrmL, nrmZ, Nat.reduceEqDiff, ↓reduceIte, Nat.reduceAdd, Int.reduceBEq, Int.reduceBNe, hN, hneg, hiz, List.map]; rfl) rfl ?hv fun _ _ => ?_; case hv => (simp only [↓nrmL, nrmZ, Nat.reduceEqDiff, ↓reduceIte, Nat.reduceAdd, Int.reduceBEq, Int.reduceBNe, hN, hneg, hiz]; rfl)
   refine mI rfl ?_
   refine WpO.nil (hKF _ _ ?_)
   refine sq ?_
   refine sq ?_
   refine rg fun KF hKF => ?_
   refine mI rfl ?_
   refine Fo.bin rfl rfl rfl (by simp only [↓nrmL, nrmZ, Nat.reduceEqDiff, ↓reduceIte, Nat.reduceAdd, Int.reduceBEq, Int.reduceBNe, hN, hneg, hiz]; rfl) ?_
   refine mB rfl ?_
   refine Fo.yes rfl rfl ?_
   refine mI rfl ?_
   refine Fo.yes rfl rfl ?_
   refine Fo.bin rfl rfl rfl (by simp only [↓nrmL, nrmZ, Nat.reduceEqDiff, ↓reduceIte, Nat.reduceAdd, Int.reduceBEq, Int.reduceBNe, hN, hneg, hiz]; rfl) ?_
   refine tB rfl rfl ?_
   refine WpO.nil (hKF _ _ ?_)
   refine Wp.cond (b := true) rfl ?_
   refine Wp.exit ?_
   refine sq ?_
   refine rg fun KF hKF => ?_
   refine Fo.ldN rfl rfl (by simp only [↓nrmL, nrmZ, Nat.reduceEqDiff, ↓reduceIte, Nat.reduceAdd, Int.reduceBEq, Int.reduceBNe, hN, hneg, hiz]; rfl) ?_
   refine Fo.st rfl (rfl : _ = AVal.agg _) rfl rfl rfl (by repeat (first | rfl | refine allOne_cons ?_)) (by simp only [↓nrmL, nrmZ, Nat.reduceEqDiff, ↓reduceIte, Nat.reduceAdd, Int.reduceBEq, Int.reduceBNe, hN, hneg, hiz]; rfl) ?_
   refine mI rfl ?_
   refine WpO.nil (hKF _ _ ?_)
   refine Wp.ret ?_
   dsimp only [cond_true, cond_false]
   refine ⟨trivial, _, (by first | rfl | exact getAllC rfl rfl rfl rfl | exact getAllT rfl (getAllC rfl rfl rfl rfl) | exact getAllC rfl rfl rfl (getAllC rfl rfl rfl rfl) | exact getAllC1 rfl rfl rfl), ?_⟩
   exact ⟨r, m0, by rw [hr]; exact hm0, hti.done (fun k => hno k (Nat.zero_le _)), _, rfl, q, rfl, inferInstance, inferInstance, inferInstance, Ext0.ext⟩
end Go.Am

set_option maxHeartbeats 8000000
set_option maxRecDepth 100000
set_option synthInstance.maxHeartbeats 4000000
set_option synthInstance.maxSize 100000
namespace Go.Am
open Go
attribute [local irreducible] Wp WpO WpX WpE

theorem K_ThinE {w h : Int} {p : AVal} {H : AHeap} {l : List UInt8} [hp : BytesI H p l] (h0 : (Img.err ⟨w, h, l⟩ == 0) = false) : Con ext prog 5 70 [.agg [.int .i64 w, .int .i64 h, p]] H fun v H' => InkRes H H' v (.zero, Img.err ⟨w, h, l⟩) := by
 refine con_of (show prog 70 = some c70 from rfl) rfl rfl fun n hn => ?_
 haveI := hp.one
 refine sq ?_
 refine rg fun KF hKF => ?_
 refine Fo.boxA rfl ?_
 refine Fo.new ?_
 refine mI rfl ?_
 refine WpO.nil (hKF _ _ ?_)
 dsimp only [cond_true, cond_false]
 refine Wp.scope ?_
 try simp only [↓nrmL, nrmZ, Nat.reduceEqDiff, ↓reduceIte, Nat.reduceAdd, Int.reduceBEq, Int.reduceBNe, h0, bne]
 refine sq ?_
 refine sq ?_
 refine rg fun KF hKF => ?_
 refine Fo.ldN rfl rfl (by simp only [↓nrmL, nrmZ, Nat.reduceEqDiff, ↓reduceIte, Nat.reduceAdd, Int.reduceBEq, Int.reduceBNe, h0, bne]; rfl) ?_
 refine Fo.pcall (v' := ?_) hn rfl (by simp only [↓nrmL, nrmZ, Nat.reduceEqDiff, ↓reduceIte, Nat.reduceAdd, Int.reduceBEq, Int.reduceBNe, h0, bne, List.map]; rfl) rfl ?hv fun _ _ => ?_; case hv => rfl
 refine mI rfl ?_
 refine WpO.nil (hKF _ _ ?_)
 refine sq ?_
 refine rg fun KF hKF => ?_
 refine mI rfl ?_
 refine Fo.bin rfl rfl rfl (by simp only [↓nrmL, nrmZ, Nat.reduceEqDiff, ↓reduceIte, Nat.reduceAdd, Int.reduceBEq, Int.reduceBNe, h0, bne]; rfl) ?_
 refine WpO.nil (hKF _ _ ?_)
 refine Wp.cond (b := true) rfl ?_
 refine sq ?_
 refine rg fun KF hKF => ?_
 refine Fo.build (by repeat (first | refine aFill1 (by first | exact (rfl : _ = AVal.int _ _) | exact (rfl : _ = AVal.ptr _ _) | exact (rfl : _ = AVal.bool _) | exact (rfl : _ = AVal.agg _) | exact (rfl : _ = AVal.tuple _) | exact (rfl : _ = AVal.func _ _ _) | exact (rfl : _ = AVal.nslice) | ((try simp only [↓nrmL, nrmK, Nat.reduceEqDiff, ↓reduceIte]); rfl)) rfl ?_ | rfl)) rfl ?_
 refine mI rfl ?_
 refine Fo.st rfl (rfl : _ = AVal.agg _) rfl rfl rfl (by repeat (first | rfl | refine allOne_cons ?_)) (by simp only [↓nrmL, nrmZ, Nat.reduceEqDiff, ↓reduceIte, Nat.reduceAdd, Int.reduceBEq, Int.reduceBNe, h0, bne]; rfl) ?_
 refine mI rfl ?_
 refine WpO.nil (hKF _ _ ?_)
 refine Wp.ret ?_
 dsimp only [cond_true, cond_false]
 refine ⟨trivial, _, (by first | rfl | exact getAllC rfl rfl rfl rfl | exact getAllT rfl (getAllC rfl rfl rfl rfl) | exact getAllC rfl rfl rfl (getAllC rfl rfl rfl rfl) | exact getAllC1 rfl rfl rfl), ?_⟩
 exact ⟨_, rfl, newZero⟩

theorem step_on {a b k : Nat} {l : List UInt8} (h1 : l.getD k 0 = 1) (h2 : goesAt a b l k = true) : stepT a b l k = l.set k 0 := if_pos ⟨h1, h2⟩
theorem step_off {a b k : Nat} {l : List UInt8} (h : (l.getD k 0 == 1) = false ∨ goesAt a b l k = false) : stepT a b l k = l := if_neg (fun q => by
 rcases h with h | h
 ·rw [q.1] at h; cases h
 ·rw [q.2] at h; cases h)
theorem K_refThin {a b : Nat} {p : AVal} {H : AHeap} {l : List UInt8} [hp : BytesI H p l] (ok : Ok a b l) : Con ext prog 5 71 [.agg [.int .i64 a, .int .i64 b, p]] H fun v H' => ∃ r m, r = thinN a b l m ∧ passT a b r (a * b) = r ∧ NewInk H H' v ⟨a, b, r⟩ := by
 refine con_of (show prog 71 = some c71 from rfl) rfl rfl fun n hn => ?_
 haveI := hp.one
 have hsh := ok.short
 have hwa := ok.wa
 have hhb := ok.hb
 have hab : a * b ≤ 640 * 640 := Nat.mul_le_mul hwa hhb
 refine sq ?_
 refine rg fun KF hKF => ?_
 refine Fo.boxA rfl ?_
 refine Fo.new ?_
 refine WpO.nil (hKF _ _ ?_)
 refine sq ?_
 refine rg fun KF hKF => ?_
 refine Fo.ldN rfl rfl (by simp only [↓nrmL, nrmZ, Nat.reduceEqDiff, ↓reduceIte, Nat.reduceAdd, Int.reduceBEq, Int.reduceBNe]; rfl) ?_
 refine WpO.do (WpX.conD hn rfl rfl (by simp only [↓nrmL, nrmZ, Nat.reduceEqDiff, ↓reduceIte, Nat.reduceAdd, Int.reduceBEq, Int.reduceBNe, List.map] <;> rfl) (K_CopyInk (l := l) (by omega)) fun v H1 h5 => ?_)
 obtain ⟨q, e1, hq, hfq, hwq, hxq⟩ := h5
 subst e1
 try dsimp only at hq
 haveI : ExtI _ H1 := ⟨hxq⟩
 haveI := hq.one
 have hlt1 : H.n < (H.push (.row [.int .i64 a, .int .i64 b, p] true (2 * 24))).n := Nat.lt_succ_self _
 have hqn : ∀ r off len cap sz, q = .slice r off len cap sz → (H.push (.row [.int .i64 a, .int .i64 b, p] true (2 * 24))).n < r ∧ r < H1.n := fun r off len cap sz e => ⟨hfq.ge _ _ _ _ _ e, hq.lt e⟩
 haveI : RowNe q H.n := ⟨fun r off len cap sz e => by have := hqn _ _ _ _ _ e; omega⟩
 haveI : RowNe q (H.push (.row [.int .i64 a, .int .i64 b, p] true (2 * 24))).n := ⟨fun r off len cap sz e => by have := hqn _ _ _ _ _ e; omega⟩
 haveI : RowNe q H1.n := ⟨fun r off len cap sz e => by have := hqn _ _ _ _ _ e; omega⟩
 haveI : FreshS H q := ⟨fun r off len cap sz e => by have := hqn _ _ _ _ _ e; omega⟩
 clear hqn hfq
 refine Fo.new ?_
 refine Fo.st rfl (rfl : _ = AVal.agg _) rfl rfl rfl (by repeat (first | rfl | refine allOne_cons ?_)) (by simp only [↓nrmL, nrmZ, Nat.reduceEqDiff, ↓reduceIte, Nat.reduceAdd, Int.reduceBEq, Int.reduceBNe]; rfl) ?_
 refine WpO.nil (hKF _ _ ?_)
 refine sq ?_
 refine rg fun KF hKF => ?_
 refine mB rfl ?_
 refine WpO.nil (hKF _ _ ?_)
 refine sq ?_
 refine Wp.block ?_
 dsimp only [cond_true, cond_false]
 refine Wp.loopS [4, 5, 6, 9, 10, 11, 12, 13, 14, 15, 16, 17, 18, 19, 20, 21, 22, 23, 24, 25, 26, 27, 28, 29, 30, 31, 32, 33, 34, 35, 36, 37, 38, 39, 40] (fun s : Bool × List UInt8 => [(4, .bool s.1)]) (fun _ s H3 => (∃ m, s.2 = thinN a b l m) ∧ Ok a b s.2 ∧ (s.1 = false → passT a b s.2 (a * b) = s.2) ∧ TH H a b p q q H.n (H.push (.row [.int .i64 a, .int .i64 b, p] true (2 * 24))).n H1.n s.2 s.2 H3) (fun s => if s.1 = true then s.2.count 1 + 1 else 0) (true, l) rfl (fun _ => rfl) ⟨rfl, trivial⟩ ⟨⟨0, rfl⟩, ok, (fun e => by cases e), ⟨inferInstance, inferInstance, inferInstance, inferInstance, inferInstance, inferInstance, inferInstance, Ext0.ext⟩⟩ (by
  have := List.count_le_length (a := (1 : UInt8)) (l := l)
  unfold fuel0 at hn
  dsimp only
  rw [if_pos rfl]; omega) ?_
 rintro ⟨ch, r0⟩ g H3 ⟨⟨m0, hm0⟩, ok0, hfix, hth⟩
 dsimp only at hm0 ok0 hfix hth
 obtain ⟨bq, wq, _, _, g1, g2, g5, hx⟩ := hth
 haveI : Ext0 H H3 := ⟨hx⟩
 haveI : ExtI H H3 := ⟨hx⟩
 simp only [↓nrmL, nrmZ, Nat.reduceEqDiff, ↓reduceIte, Nat.reduceAdd, Int.reduceBEq, Int.reduceBNe]
 cases ch
 ·skip
  refine sq ?_
  refine sq ?_
  refine rg fun KF hKF => ?_
  refine mB rfl ?_
  refine WpO.nil (hKF _ _ ?_)
  refine Wp.cond (b := false) rfl ?_
  refine Wp.exit ?_
  refine sq ?_
  refine rg fun KF hKF => ?_
  refine Fo.ldN rfl rfl (by simp only [↓nrmL, nrmZ, Nat.reduceEqDiff, ↓reduceIte, Nat.reduceAdd, Int.reduceBEq, Int.reduceBNe]; rfl) ?_
  refine Fo.st rfl (rfl : _ = AVal.agg _) rfl rfl rfl (by repeat (first | rfl | refine allOne_cons ?_)) (by simp only [↓nrmL, nrmZ, Nat.reduceEqDiff, ↓reduceIte, Nat.reduceAdd, Int.reduceBEq, Int.reduceBNe]; rfl) ?_
  refine WpO.nil (hKF _ _ ?_)
  refine Wp.ret ?_
  dsimp only [cond_true, cond_false]
  refine ⟨trivial, _, (by first | rfl | exact getAllC rfl rfl rfl rfl | exact getAllT rfl (getAllC rfl rfl rfl rfl) | exact getAllC rfl rfl rfl (getAllC rfl rfl rfl rfl) | exact getAllC1 rfl rfl rfl), ?_⟩
  exact ⟨r0, m0, hm0, hfix rfl, q, rfl, inferInstance, inferInstance, inferInstance, Ext0.ext⟩
 refine sq ?_
 refine sq ?_
 refine rg fun KF hKF => ?_
 refine mB rfl ?_
 refine WpO.nil (hKF _ _ ?_)
 refine Wp.cond (b := true) rfl ?_
 refine Wp.skip ?_
 refine Wp.block ?_
 refine sq ?_
 refine rg fun KF hKF => ?_
 refine mB rfl ?_
 refine WpO.nil (hKF _ _ ?_)
 refine sq ?_
 refine rg fun KF hKF => ?_
 refine mI rfl ?_
 refine WpO.nil (hKF _ _ ?_)
 refine Wp.block ?_
 dsimp only [cond_true, cond_false]
 refine Wp.loopS [4, 5, 6, 10, 11, 12, 13, 14, 15, 16, 17, 18, 19, 20, 21, 22, 23, 24, 25, 26, 27, 28, 29, 30, 31, 32, 33, 34, 35, 36, 37, 38, 39, 40] (fun s : Nat × Bool × List UInt8 => [(4, .bool s.2.1), (5, .int .i64 (s.1 : Int))]) (fun _ s H4 => s.1 ≤ b ∧ s.2.2 = passT a b r0 (s.1 * a) ∧ (s.2.1 = false → s.2.2 = r0) ∧ (s.2.1 = true → s.2.2.count 1 < r0.count 1) ∧ TH H a b p q q H.n (H.push (.row [.int .i64 a, .int .i64 b, p] true (2 * 24))).n H1.n s.2.2 s.2.2 H4) (fun s => b - s.1) (0, false, r0) rfl (fun _ => rfl) ⟨rfl, rfl, trivial⟩ ⟨Nat.zero_le _, by dsimp only; rw [Nat.zero_mul]; rfl, fun _ => rfl, (fun e => by cases e), ⟨inferInstance, inferInstance, inferInstance, inferInstance, inferInstance, inferInstance, inferInstance, Ext0.ext⟩⟩ (by unfold fuel0 at hn; dsimp only; omega) ?_
 rintro ⟨yy, c, r⟩ g3 H4 ⟨hyy, hr, hc0, hc1, hth4⟩
 dsimp only at hyy hr hc0 hc1 hth4
 obtain ⟨bq4, wq4, _, _, g14, g24, g54, hx4⟩ := hth4
 haveI : Ext0 H H4 := ⟨hx4⟩
 haveI : ExtI H H4 := ⟨hx4⟩
 simp only [↓nrmL, nrmZ, Nat.reduceEqDiff, ↓reduceIte, Nat.reduceAdd, Int.reduceBEq, Int.reduceBNe]
 cases hcy : decide ((yy : Int) < (b : Int))
 ·have hyb : yy = b := by have := of_decide_eq_false hcy; omega
  have hrt : r = passT a b r0 (a * b) := by rw [hr, hyb, Nat.mul_comm]
  have okr : Ok a b r := by rw [hr]; exact ok0.pass _
  try simp only [↓nrmL, nrmZ, Nat.reduceEqDiff, ↓reduceIte, Nat.reduceAdd, Int.reduceBEq, Int.reduceBNe, hcy]
  refine sq ?_
  refine sq ?_
  refine rg fun KF hKF => ?_
  refine mI rfl ?_
  refine Fo.fa rfl ?_
  refine Fo.ld rfl rfl ?_
  refine Fo.bin rfl rfl rfl (by simp only [↓nrmL, nrmZ, Nat.reduceEqDiff, ↓reduceIte, Nat.reduceAdd, Int.reduceBEq, Int.reduceBNe, hcy]; rfl) ?_
  refine WpO.nil (hKF _ _ ?_)
  refine Wp.cond (b := false) rfl ?_
  refine Wp.exit ?_
  dsimp only [cond_true, cond_false]
  refine ⟨(c, r), ?_, ⟨rfl, trivial⟩, ⟨m0 + 1, by show r = passT a b (thinN a b l m0) (a * b); rw [← hm0]; exact hrt⟩, okr, fun e => ?_, ⟨inferInstance, inferInstance, inferInstance, inferInstance, inferInstance, inferInstance, inferInstance, Ext0.ext⟩⟩
  ·dsimp only
   split
   ·rename_i e; have := hc1 e; omega
   ·omega
  ·have e1 := hc0 e
   rw [e1] at hrt ⊢
   exact hrt.symm
 have hyb : yy < b := by have := of_decide_eq_true hcy; omega
 have wy := wa1 (a := yy) (by omega)
 try simp only [↓nrmL, nrmZ, Nat.reduceEqDiff, ↓reduceIte, Nat.reduceAdd, Int.reduceBEq, Int.reduceBNe, hcy]
 refine sq ?_
 refine sq ?_
 refine rg fun KF hKF => ?_
 refine mI rfl ?_
 refine Fo.fa rfl ?_
 refine Fo.ld rfl rfl ?_
 refine Fo.bin rfl rfl rfl (by simp only [↓nrmL, nrmZ, Nat.reduceEqDiff, ↓reduceIte, Nat.reduceAdd, Int.reduceBEq, Int.reduceBNe, hcy]; rfl) ?_
 refine WpO.nil (hKF _ _ ?_)
 refine Wp.cond (b := true) rfl ?_
 refine Wp.skip ?_
 refine sq ?_
 refine Wp.block ?_
 refine sq ?_
 refine rg fun KF hKF => ?_
 refine mI rfl ?_
 refine WpO.nil (hKF _ _ ?_)
 refine Wp.block ?_
 dsimp only [cond_true, cond_false]
 refine Wp.loopS [4, 6, 16, 17, 18, 19, 20, 21, 22, 23, 24, 25, 26, 27, 28, 29, 30, 31, 32, 33, 34, 35, 36, 37, 38, 39, 40] (fun s : Nat × Bool × List UInt8 => [(4, .bool s.2.1), (6, .int .i64 (s.1 : Int))]) (fun _ s H5 => s.1 ≤ a ∧ s.2.2 = passT a b r0 (yy * a + s.1) ∧ (s.2.1 = false → s.2.2 = r0) ∧ (s.2.1 = true → s.2.2.count 1 < r0.count 1) ∧ TH H a b p q q H.n (H.push (.row [.int .i64 a, .int .i64 b, p] true (2 * 24))).n H1.n s.2.2 s.2.2 H5) (fun s => a - s.1) (0, c, r) rfl (fun _ => rfl) ⟨rfl, rfl, trivial⟩ ⟨Nat.zero_le _, hr, hc0, hc1, ⟨inferInstance, inferInstance, inferInstance, inferInstance, inferInstance, inferInstance, inferInstance, Ext0.ext⟩⟩ (by unfold fuel0 at hn; dsimp only; omega) ?_
 clear hr hc0 hc1 bq4 wq4
 rintro ⟨xx, c, r⟩ g4 H5 ⟨hxx, hr, hc0, hc1, hth5⟩
 dsimp only at hxx hr hc0 hc1 hth5
 obtain ⟨bq5, wq5, _, _, g15, g25, g55, hx5⟩ := hth5
 haveI : Ext0 H H5 := ⟨hx5⟩
 haveI : ExtI H H5 := ⟨hx5⟩
 simp only [↓nrmL, nrmZ, Nat.reduceEqDiff, ↓reduceIte, Nat.reduceAdd, Int.reduceBEq, Int.reduceBNe]
 cases hcx : decide ((xx : Int) < (a : Int))
 ·have hxa : xx = a := by have := of_decide_eq_false hcx; omega
  try simp only [↓nrmL, nrmZ, Nat.reduceEqDiff, ↓reduceIte, Nat.reduceAdd, Int.reduceBEq, Int.reduceBNe, hcx]
  refine sq ?_
  refine sq ?_
  refine rg fun KF hKF => ?_
  refine mI rfl ?_
  refine Fo.fa rfl ?_
  refine Fo.ld rfl rfl ?_
  refine Fo.bin rfl rfl rfl (by simp only [↓nrmL, nrmZ, Nat.reduceEqDiff, ↓reduceIte, Nat.reduceAdd, Int.reduceBEq, Int.reduceBNe, hcx]; rfl) ?_
  refine WpO.nil (hKF _ _ ?_)
  refine Wp.cond (b := false) rfl ?_
  refine Wp.exit ?_
  refine rg fun KF hKF => ?_
  refine mI rfl ?_
  refine Fo.bin rfl rfl rfl rfl ?_
  refine mI rfl ?_
  refine WpO.nil (hKF _ _ ?_)
  dsimp only [cond_true, cond_false]
  refine ⟨(yy + 1, c, r), by dsimp only; omega, ⟨rfl, by simp only [↓nrmL, nrmZ, Nat.reduceEqDiff, ↓reduceIte, Nat.reduceAdd, Int.reduceBEq, Int.reduceBNe]; rw [wy], trivial⟩, by omega, by rw [Nat.add_mul, Nat.one_mul, ← hxa]; rw [hxa] at hr ⊢; exact hr, hc0, hc1, ⟨inferInstance, inferInstance, inferInstance, inferInstance, inferInstance, inferInstance, inferInstance, Ext0.ext⟩⟩
 have hxa : xx < a := by have := of_decide_eq_true hcx; omega
 have wx := wa1 (a := xx) (by omega)
 have okr : Ok a b r := by rw [hr]; exact ok0.pass _
 haveI : Fits a b r := ⟨okr.sized⟩
 have hrl := okr.len
 have hlt := idx_lt hxa hyb
 have hya : yy * a ≤ 640 * 640 := Nat.mul_le_mul (by omega) hwa
 have k1 := inkB_nat (l := r) hxa hyb
 have hgo : goesAt a b r (yy * a + xx) = goesB (ringF a b r (xx : Int) (yy : Int)) := by
  unfold goesAt
  rw [(at_div (v := yy) hxa).1, (at_div (v := yy) hxa).2]
 have hnext : passT a b r0 (yy * a + (xx + 1)) = stepT a b r (yy * a + xx) := by
  show stepT a b (passT a b r0 (yy * a + xx)) (yy * a + xx) = _
  rw [← hr]
 have m1 : IntKind.i64.wrap ((yy : Int) * (a : Int)) = ((yy * a : Nat) : Int) := wm (by omega)
 have m2 : IntKind.i64.wrap (((yy * a : Nat) : Int) + (xx : Int)) = ((yy * a + xx : Nat) : Int) := wa (by omega)
 cases ht : inkB a b r xx yy
 ·rw [k1] at ht
  try simp only [↓nrmL, nrmZ, Nat.reduceEqDiff, ↓reduceIte, Nat.reduceAdd, Int.reduceBEq, Int.reduceBNe, hcx, k1, ht]
  refine sq ?_
  refine sq ?_
  refine rg fun KF hKF => ?_
  refine mI rfl ?_
  refine Fo.fa rfl ?_
  refine Fo.ld rfl rfl ?_
  refine Fo.bin rfl rfl rfl (by simp only [↓nrmL, nrmZ, Nat.reduceEqDiff, ↓reduceIte, Nat.reduceAdd, Int.reduceBEq, Int.reduceBNe, hcx, k1, ht]; rfl) ?_
  refine WpO.nil (hKF _ _ ?_)
  refine Wp.cond (b := true) rfl ?_
  refine Wp.skip ?_
  refine sq ?_
  refine Wp.block ?_
  refine sq ?_
  refine rg fun KF hKF => ?_
  refine Fo.ldN rfl rfl (by simp only [↓nrmL, nrmZ, Nat.reduceEqDiff, ↓reduceIte, Nat.reduceAdd, Int.reduceBEq, Int.reduceBNe, hcx, k1, ht]; rfl) ?_
  refine mI rfl ?_
  refine mI rfl ?_
  refine Fo.pcall (v' := ?_) hn rfl (by simp only [↓nrmL, nrmZ, Nat.reduceEqDiff, ↓reduceIte, Nat.reduceAdd, Int.reduceBEq, Int.reduceBNe, hcx, k1, ht, List.map]; rfl) rfl ?hv fun _ _ => ?_; case hv => (simp only [↓nrmL, nrmZ, Nat.reduceEqDiff, ↓reduceIte, Nat.reduceAdd, Int.reduceBEq, Int.reduceBNe, hcx, k1, ht]; rfl)
  refine mB rfl ?_
  refine Fo.no rfl rfl ?_
  refine Fo.no rfl rfl ?_
  refine Fo.no rfl rfl ?_
  refine Fo.no rfl rfl ?_
  refine fB rfl rfl ?_
  refine WpO.nil (hKF _ _ ?_)
  refine Wp.cond (b := false) rfl ?_
  refine Wp.skip ?_
  refine rg fun KF hKF => ?_
  refine mI rfl ?_
  refine Fo.bin rfl rfl rfl rfl ?_
  refine mI rfl ?_
  refine WpO.nil (hKF _ _ ?_)
  dsimp only [cond_true, cond_false]
  refine ⟨(xx + 1, c, r), by dsimp only; omega, ⟨rfl, by simp only [↓nrmL, nrmZ, Nat.reduceEqDiff, ↓reduceIte, Nat.reduceAdd, Int.reduceBEq, Int.reduceBNe]; rw [wx], trivial⟩, by omega, by rw [hnext, step_off (Or.inl ht)], hc0, hc1, ⟨inferInstance, inferInstance, inferInstance, inferInstance, inferInstance, inferInstance, inferInstance, Ext0.ext⟩⟩
 rw [k1] at ht
 try simp only [↓nrmL, nrmZ, Nat.reduceEqDiff, ↓reduceIte, Nat.reduceAdd, Int.reduceBEq, Int.reduceBNe, hcx, k1, ht]
 refine sq ?_
 refine sq ?_
 refine rg fun KF hKF => ?_
 refine mI rfl ?_
 refine Fo.fa rfl ?_
 refine Fo.ld rfl rfl ?_
 refine Fo.bin rfl rfl rfl (by simp only [↓nrmL, nrmZ, Nat.reduceEqDiff, ↓reduceIte, Nat.reduceAdd, Int.reduceBEq, Int.reduceBNe, hcx, k1, ht]; rfl) ?_
 refine WpO.nil (hKF _ _ ?_)
 refine Wp.cond (b := true) rfl ?_
 refine Wp.skip ?_
 refine sq ?_
 refine Wp.block ?_
 refine sq ?_
 refine rg fun KF hKF => ?_
 refine Fo.ldN rfl rfl (by simp only [↓nrmL, nrmZ, Nat.reduceEqDiff, ↓reduceIte, Nat.reduceAdd, Int.reduceBEq, Int.reduceBNe, hcx, k1, ht]; rfl) ?_
 refine mI rfl ?_
 refine mI rfl ?_
 refine Fo.pcall (v' := ?_) hn rfl (by simp only [↓nrmL, nrmZ, Nat.reduceEqDiff, ↓reduceIte, Nat.reduceAdd, Int.reduceBEq, Int.reduceBNe, hcx, k1, ht, List.map]; rfl) rfl ?hv fun _ _ => ?_; case hv => (simp only [↓nrmL, nrmZ, Nat.reduceEqDiff, ↓reduceIte, Nat.reduceAdd, Int.reduceBEq, Int.reduceBNe, hcx, k1, ht]; rfl)
 refine mB rfl ?_
 refine Fo.yes rfl rfl ?_
 refine Fo.ldN rfl rfl (by simp only [↓nrmL, nrmZ, Nat.reduceEqDiff, ↓reduceIte, Nat.reduceAdd, Int.reduceBEq, Int.reduceBNe, hcx, k1, ht]; rfl) ?_
 refine Fo.yes rfl rfl ?_
 refine mI rfl ?_
 refine Fo.yes rfl rfl ?_
 refine mI rfl ?_
 refine Fo.yes rfl rfl ?_
 refine WpO.do (WpX.conD hn rfl rfl (by simp only [↓nrmL, nrmZ, Nat.reduceEqDiff, ↓reduceIte, Nat.reduceAdd, Int.reduceBEq, Int.reduceBNe, List.map] <;> rfl) (K_refGoes (a := a) (b := b) (l := r) (x := xx) (y := yy) (by omega) (by omega)) fun v H6 h5 => ?_)
 obtain ⟨e5, hx6⟩ := h5
 subst e5
 haveI : ExtI _ H6 := ⟨hx6⟩
 cases hg : goesB (ringF a b r (xx : Int) (yy : Int))
 ·skip
  refine tB rfl rfl ?_
  refine WpO.nil (hKF _ _ ?_)
  refine Wp.cond (b := false) rfl ?_
  refine Wp.skip ?_
  refine rg fun KF hKF => ?_
  refine mI rfl ?_
  refine Fo.bin rfl rfl rfl rfl ?_
  refine mI rfl ?_
  refine WpO.nil (hKF _ _ ?_)
  dsimp only [cond_true, cond_false]
  refine ⟨(xx + 1, c, r), by dsimp only; omega, ⟨rfl, by simp only [↓nrmL, nrmZ, Nat.reduceEqDiff, ↓reduceIte, Nat.reduceAdd, Int.reduceBEq, Int.reduceBNe]; rw [wx], trivial⟩, by omega, by rw [hnext, step_off (Or.inr (by rw [hgo]; exact hg))], hc0, hc1, ⟨inferInstance, inferInstance, inferInstance, inferInstance, inferInstance, inferInstance, inferInstance, Ext0.ext⟩⟩
 ·skip
  try simp only [↓nrmL, nrmZ, Nat.reduceEqDiff, ↓reduceIte, Nat.reduceAdd, Int.reduceBEq, Int.reduceBNe, m1, m2]
  refine tB rfl rfl ?_
  refine WpO.nil (hKF _ _ ?_)
  refine Wp.cond (b := true) rfl ?_
  refine sq ?_
  refine rg fun KF hKF => ?_
  refine Fo.fa rfl ?_
  refine Fo.ld rfl rfl ?_
  refine mI rfl ?_
  refine Fo.fa rfl ?_
  refine Fo.ld rfl rfl ?_
  refine Fo.bin rfl rfl rfl (by simp only [↓nrmL, nrmZ, Nat.reduceEqDiff, ↓reduceIte, Nat.reduceAdd, Int.reduceBEq, Int.reduceBNe, m1, m2]; rfl) ?_
  refine mI rfl ?_
  refine Fo.bin rfl rfl rfl (by simp only [↓nrmL, nrmZ, Nat.reduceEqDiff, ↓reduceIte, Nat.reduceAdd, Int.reduceBEq, Int.reduceBNe, m1, m2]; rfl) ?_
  refine Fo.idx (by simp only [↓nrmL, nrmK, Nat.reduceEqDiff, ↓reduceIte]; rfl) rfl ?_ (by simp only [↓nrmL, nrmZ, Nat.reduceEqDiff, ↓reduceIte, Nat.reduceAdd, Int.reduceBEq, Int.reduceBNe, m1, m2]; rfl) ?_; (focus omega)
  refine WpO.do' (WpX.stB (p := q) (j := yy * a + xx) (l := r) 0 rfl rfl rfl (by omega) fun H7 hb7 hw7 hx7 => ?_)
  refine WpO.nil (hKF _ _ ?_)
  refine rg fun KF hKF => ?_
  refine mB rfl ?_
  refine WpO.nil (hKF _ _ ?_)
  refine rg fun KF hKF => ?_
  refine mI rfl ?_
  refine Fo.bin rfl rfl rfl rfl ?_
  refine mI rfl ?_
  refine WpO.nil (hKF _ _ ?_)
  dsimp only [cond_true, cond_false]
  have h1 : r.getD (yy * a + xx) 0 = 1 := eq_of_beq ht
  refine ⟨(xx + 1, true, r.set (yy * a + xx) 0), by dsimp only; omega, ⟨rfl, by simp only [↓nrmL, nrmZ, Nat.reduceEqDiff, ↓reduceIte, Nat.reduceAdd, Int.reduceBEq, Int.reduceBNe]; rw [wx], trivial⟩, by omega, by rw [hnext, step_on h1 (by rw [hgo]; exact hg)], (fun e => by cases e), fun _ => ?_, ⟨inferInstance, inferInstance, inferInstance, inferInstance, inferInstance, inferInstance, inferInstance, Ext0.ext⟩⟩
  show (r.set (yy * a + xx) 0).count 1 < r0.count 1
  have hcs := cnt_set h1
  have := cnt_pass (a := a) (b := b) (l := r0) (yy * a + xx)
  rw [← hr] at this
  omega
end Go.Am

set_option maxHeartbeats 4000000
set_option maxRecDepth 100000
namespace Go.Am
open Go
attribute [local irreducible] Wp WpO WpX WpE

/-- A part of a list turned round. -/
def revAt (l : List UInt8) (s n : Nat) : List UInt8 := (List.range l.length).map fun t => if s ≤ t ∧ t < s + n then l.getD (s + (n - 1 - (t - s))) 0 else l.getD t 0
def revP (l : List UInt8) (s n i : Nat) : List UInt8 := (List.range l.length).map fun t => if s ≤ t ∧ t < s + n ∧ (t - s < i ∨ n - 1 - (t - s) < i) then l.getD (s + (n - 1 - (t - s))) 0 else l.getD t 0
theorem revAt_length (l : List UInt8) (s n : Nat) : (revAt l s n).length = l.length := by simp [revAt]
theorem revP_length (l : List UInt8) (s n i : Nat) : (revP l s n i).length = l.length := by simp [revP]
theorem getD_map {f : Nat → UInt8} {n i : Nat} (h : i < n) : ((List.range n).map f).getD i 0 = f i := by simp [h]
theorem get_map {f : Nat → UInt8} {n i : Nat} (h : i < ((List.range n).map f).length) : ((List.range n).map f)[i] = f i := by simp
theorem list_eq {l m : List UInt8} (hl : l.length = m.length) (h : ∀ t, t < l.length → l.getD t 0 = m.getD t 0) : l = m := by
 apply List.ext_getElem hl
 intro i h1 h2
 have := h i h1
 simpa [h1, h2] using this
theorem revP_zero (l : List UInt8) (s n : Nat) : revP l s n 0 = l := by
 refine list_eq (revP_length _ _ _ _) fun t ht => ?_
 rw [revP_length] at ht
 rw [revP, getD_map ht, if_neg (by omega)]
theorem revP_get {l : List UInt8} {s n i t : Nat} (ht : t < l.length) (h : ¬ (s ≤ t ∧ t < s + n ∧ (t - s < i ∨ n - 1 - (t - s) < i))) : (revP l s n i)[t]'(by rw [revP_length]; exact ht) = l[t] := by
 simp only [revP]
 rw [get_map, if_neg h]
 simp [ht]
theorem revP_succ {l : List UInt8} {s n i : Nat} (hs : s + n ≤ l.length) (hi : i < n - 1 - i) : ((revP l s n i).set (s + i) (l[s + (n - 1 - i)]'(by omega))).set (s + (n - 1 - i)) (l[s + i]'(by omega)) = revP l s n (i + 1) := by
 have g1 : l.getD (s + (n - 1 - i)) 0 = l[s + (n - 1 - i)]'(by omega) := by simp [show s + (n - 1 - i) < l.length by omega]
 have g2 : l.getD (s + i) 0 = l[s + i]'(by omega) := by simp [show s + i < l.length by omega]
 rw [← g1, ← g2]
 refine list_eq (by simp [revP_length]) fun t ht => ?_
 simp only [List.length_set, revP_length] at ht
 rw [List.getD_eq_getElem?_getD, List.getElem?_set, List.getElem?_set]
 simp only [List.length_set, revP_length]
 rw [revP, revP, getD_map ht]
 by_cases h1 : s + (n - 1 - i) = t
 ·subst h1
  rw [if_pos rfl, if_pos ht, Option.getD_some, if_pos (by omega)]
  congr 1; omega
 ·rw [if_neg h1]
  by_cases h2 : s + i = t
  ·subst h2
   rw [if_pos rfl, if_pos ht, Option.getD_some, if_pos (by omega)]
   congr 1; omega
  ·rw [if_neg h2, ← List.getD_eq_getElem?_getD, getD_map ht]
   by_cases h3 : s ≤ t ∧ t < s + n ∧ (t - s < i ∨ n - 1 - (t - s) < i)
   ·rw [if_pos h3, if_pos (by omega)]
   ·rw [if_neg h3, if_neg (by omega)]
theorem revP_end {l : List UInt8} {s n i : Nat} (hi : n ≤ 2 * i + 1) : revP l s n i = revAt l s n := by
 refine list_eq (by rw [revP_length, revAt_length]) fun t ht => ?_
 rw [revP_length] at ht
 rw [revP, revAt, getD_map ht, getD_map ht]
 by_cases h3 : s ≤ t ∧ t < s + n ∧ (t - s < i ∨ n - 1 - (t - s) < i)
 ·rw [if_pos h3, if_pos (by omega)]
 ·rw [if_neg h3]
  by_cases h4 : s ≤ t ∧ t < s + n
  ·rw [if_pos h4]
   congr 1; omega
  ·rw [if_neg h4]

theorem K_Reverse {v p : AVal} {H : AHeap} {l : List UInt8} {s n : Nat} [hp : BytesI H p l] [hw : WrS H p] [hv : Part p v s n] (hs : s + n ≤ l.length) (hl : l.length ≤ 999999) : Con ext prog 1 126 [v] H fun _ H' => BytesI H' p (revAt l s n) ∧ WrS H' p ∧ ExtP H H' p := by
 refine con_of (show prog 126 = some c126 from rfl) rfl rfl fun nn hn => ?_
 haveI := hv.one
 have hsub : IntKind.i64.wrap ((n : Int) - 1) = (n : Int) - 1 := w64 (by omega)
 by_cases hn0 : n = 0
 ·subst hn0
  try simp only [↓nrmL, nrmZ, Nat.reduceEqDiff, ↓reduceIte, Nat.reduceAdd, Int.reduceBEq, Int.reduceBNe, hsub]
  refine sq ?_
  refine rg fun KF hKF => ?_
  refine Fo.mov (by simp only [↓nrmL, nrmK, Nat.reduceEqDiff, ↓reduceIte]; rfl) ?_
  refine Fo.lenV (u := ?_) (by simp only [↓nrmL, nrmK, Nat.reduceEqDiff, ↓reduceIte]; rfl) ?hv ?_; case hv => rfl
  refine Fo.bin rfl rfl rfl (by simp only [↓nrmL, nrmZ, Nat.reduceEqDiff, ↓reduceIte, Nat.reduceAdd, Int.reduceBEq, Int.reduceBNe, hsub]; rfl) ?_
  refine mI rfl ?_
  refine mI rfl ?_
  refine WpO.nil (hKF _ _ ?_)
  refine Wp.block ?_
  dsimp only [cond_true, cond_false]
  refine Wp.loopS [2, 3, 7, 8, 9, 10, 11, 12, 13, 14, 15, 16, 17, 18, 19, 20, 21, 22, 23, 24, 25, 26, 27] (fun _ : Unit => [(2, .int .i64 0), (3, .int .i64 (((0 : Nat) : Int) - 1))]) (fun H3 _ H2 => H2 = H3) (fun _ => 0) () rfl (fun _ => rfl) ⟨rfl, rfl, trivial⟩ rfl (by unfold fuel0 at hn; omega) ?_
  rintro _ g H2 rfl
  simp only [↓nrmL, nrmZ, Nat.reduceEqDiff, ↓reduceIte, Nat.reduceAdd, Int.reduceBEq, Int.reduceBNe]
  have hc : decide ((0 : Int) < ((0 : Nat) : Int) - 1) = false := rfl
  try simp only [↓nrmL, nrmZ, Nat.reduceEqDiff, ↓reduceIte, Nat.reduceAdd, Int.reduceBEq, Int.reduceBNe, hc]
  refine sq ?_
  refine sq ?_
  refine rg fun KF hKF => ?_
  refine mI rfl ?_
  refine mI rfl ?_
  refine Fo.bin rfl rfl rfl (by simp only [↓nrmL, nrmZ, Nat.reduceEqDiff, ↓reduceIte, Nat.reduceAdd, Int.reduceBEq, Int.reduceBNe, hc]; rfl) ?_
  refine WpO.nil (hKF _ _ ?_)
  refine Wp.cond (b := false) rfl ?_
  refine Wp.exit ?_
  dsimp only [cond_true, cond_false]
  have e : revAt l s 0 = l := by rw [← revP_end (i := 0) (by omega), revP_zero]
  rw [e]
  exact ⟨trivial, _, rfl, hp, hw, ExtP.refl _ _⟩
 have hj0 : (n : Int) - 1 = ((n - 1 - 0 : Nat) : Int) := by omega
 try simp only [↓nrmL, nrmZ, Nat.reduceEqDiff, ↓reduceIte, Nat.reduceAdd, Int.reduceBEq, Int.reduceBNe, hsub]
 refine sq ?_
 refine rg fun KF hKF => ?_
 refine Fo.mov (by simp only [↓nrmL, nrmK, Nat.reduceEqDiff, ↓reduceIte]; rfl) ?_
 refine Fo.lenV (u := ?_) (by simp only [↓nrmL, nrmK, Nat.reduceEqDiff, ↓reduceIte]; rfl) ?hv ?_; case hv => rfl
 refine Fo.bin rfl rfl rfl (by simp only [↓nrmL, nrmZ, Nat.reduceEqDiff, ↓reduceIte, Nat.reduceAdd, Int.reduceBEq, Int.reduceBNe, hsub]; rfl) ?_
 refine mI rfl ?_
 refine mI rfl ?_
 refine WpO.nil (hKF _ _ ?_)
 refine Wp.block ?_
 dsimp only [cond_true, cond_false]
 refine Wp.loopS [2, 3, 7, 8, 9, 10, 11, 12, 13, 14, 15, 16, 17, 18, 19, 20, 21, 22, 23, 24, 25, 26, 27] (fun i : Nat => [(2, .int .i64 i), (3, .int .i64 ((n - 1 - i : Nat) : Int))]) (fun H3 i H2 => 2 * i ≤ n ∧ BytesI H2 p (revP l s n i) ∧ WrS H2 p ∧ ExtP0 H3 H2 p) (fun i => n - i) 0 rfl (fun _ => rfl) ⟨rfl, by rw [← hj0]; rfl, trivial⟩ ⟨by omega, by rw [revP_zero]; infer_instance, inferInstance, inferInstance⟩ (by unfold fuel0 at hn; omega) ?_
 rintro i g H2 ⟨hi, hb2, hw2, ⟨hx2⟩⟩
 simp only [↓nrmL, nrmZ, Nat.reduceEqDiff, ↓reduceIte, Nat.reduceAdd, Int.reduceBEq, Int.reduceBNe]
 cases hc : decide ((i : Int) < ((n - 1 - i : Nat) : Int))
 ·have hij : ¬ (i < n - 1 - i) := by have := of_decide_eq_false hc; omega
  try simp only [↓nrmL, nrmZ, Nat.reduceEqDiff, ↓reduceIte, Nat.reduceAdd, Int.reduceBEq, Int.reduceBNe, hc]
  refine sq ?_
  refine sq ?_
  refine rg fun KF hKF => ?_
  refine mI rfl ?_
  refine mI rfl ?_
  refine Fo.bin rfl rfl rfl (by simp only [↓nrmL, nrmZ, Nat.reduceEqDiff, ↓reduceIte, Nat.reduceAdd, Int.reduceBEq, Int.reduceBNe, hc]; rfl) ?_
  refine WpO.nil (hKF _ _ ?_)
  refine Wp.cond (b := false) rfl ?_
  refine Wp.exit ?_
  dsimp only [cond_true, cond_false]
  rw [revP_end (by omega)] at hb2
  exact ⟨trivial, _, rfl, hb2, hw2, (inferInstance : ExtP0 H H2 p).ext⟩
 ·have hij : i < n - 1 - i := by have := of_decide_eq_true hc; omega
  have hw1 := wa1 (a := i) (by omega)
  have hw2' : IntKind.i64.wrap (((n - 1 - i : Nat) : Int) - 1) = ((n - 1 - (i + 1) : Nat) : Int) := by rw [w64 (by omega)]; omega
  have hfl := revP_length l s n i
  have hr1 := revP_get (l := l) (s := s) (n := n) (i := i) (t := s + (n - 1 - i)) (by omega) (by omega)
  have hr2 := revP_get (l := l) (s := s) (n := n) (i := i) (t := s + i) (by omega) (by omega)
  try simp only [↓nrmL, nrmZ, Nat.reduceEqDiff, ↓reduceIte, Nat.reduceAdd, Int.reduceBEq, Int.reduceBNe, hc]
  refine sq ?_
  refine sq ?_
  refine rg fun KF hKF => ?_
  refine mI rfl ?_
  refine mI rfl ?_
  refine Fo.bin rfl rfl rfl (by simp only [↓nrmL, nrmZ, Nat.reduceEqDiff, ↓reduceIte, Nat.reduceAdd, Int.reduceBEq, Int.reduceBNe, hc]; rfl) ?_
  refine WpO.nil (hKF _ _ ?_)
  refine Wp.cond (b := true) rfl ?_
  refine Wp.skip ?_
  refine sq ?_
  refine Wp.block ?_
  dsimp only [cond_true, cond_false]
  refine Fr.dregion0 rfl fun KF hKF => ?_
  try simp only [↓nrmL, nrmZ, Nat.reduceEqDiff, ↓reduceIte, Nat.reduceAdd, Int.reduceBEq, Int.reduceBNe, hr1, hr2]
  refine Fe.pure rfl rfl (by simp only [↓nrmL, nrmZ, Nat.reduceEqDiff, ↓reduceIte, Nat.reduceAdd, Int.reduceBEq, Int.reduceBNe, hr1, hr2]; rfl) ?_
  refine Fe.pure rfl rfl (by simp only [↓nrmL, nrmZ, Nat.reduceEqDiff, ↓reduceIte, Nat.reduceAdd, Int.reduceBEq, Int.reduceBNe, hr1, hr2]; rfl) ?_
  refine Fe.pure rfl rfl (by simp only [↓nrmL, nrmZ, Nat.reduceEqDiff, ↓reduceIte, Nat.reduceAdd, Int.reduceBEq, Int.reduceBNe, hr1, hr2]; rfl) ?_
  refine Fe.pure rfl rfl (by simp only [↓nrmL, nrmZ, Nat.reduceEqDiff, ↓reduceIte, Nat.reduceAdd, Int.reduceBEq, Int.reduceBNe, hr1, hr2]; rfl) ?_
  refine Fe.pure rfl rfl (by simp only [↓nrmL, nrmZ, Nat.reduceEqDiff, ↓reduceIte, Nat.reduceAdd, Int.reduceBEq, Int.reduceBNe, hr1, hr2]; rfl) ?_
  refine Fe.pure rfl rfl (by simp only [↓nrmL, nrmZ, Nat.reduceEqDiff, ↓reduceIte, Nat.reduceAdd, Int.reduceBEq, Int.reduceBNe, hr1, hr2]; rfl) ?_
  refine Fe.pure rfl (exec_idxV (by (try simp only [↓nrmL, nrmZ, Nat.reduceEqDiff, ↓reduceIte, Nat.reduceAdd, Int.reduceBEq, Int.reduceBNe, hr1, hr2]); rfl) rfl ?_) (by simp only [↓nrmL, nrmZ, Nat.reduceEqDiff, ↓reduceIte, Nat.reduceAdd, Int.reduceBEq, Int.reduceBNe, hr1, hr2]; rfl) ?_; (focus omega)
  refine Fe.read rfl (exec_ldB rfl (by omega)) (by simp only [↓nrmL, nrmZ, Nat.reduceEqDiff, ↓reduceIte, Nat.reduceAdd, Int.reduceBEq, Int.reduceBNe, hr1, hr2]; rfl) (by repeat (first | exact trivial | refine ⟨(by first | exact Or.inl (by dsimp only; decide) | exact Or.inr (exec_ld rfl rfl) | exact Or.inr (exec_ldN rfl rfl rfl) | exact Or.inr (exec_ldB rfl (by omega)) | exact Or.inr (exec_ldI rfl (by omega)) | exact Or.inr ghost_of), ?_⟩)) ?_
  refine Fe.pure rfl rfl (by simp only [↓nrmL, nrmZ, Nat.reduceEqDiff, ↓reduceIte, Nat.reduceAdd, Int.reduceBEq, Int.reduceBNe, hr1, hr2]; rfl) ?_
  refine Fe.pure rfl rfl (by simp only [↓nrmL, nrmZ, Nat.reduceEqDiff, ↓reduceIte, Nat.reduceAdd, Int.reduceBEq, Int.reduceBNe, hr1, hr2]; rfl) ?_
  refine Fe.pure rfl (exec_idxV (by (try simp only [↓nrmL, nrmZ, Nat.reduceEqDiff, ↓reduceIte, Nat.reduceAdd, Int.reduceBEq, Int.reduceBNe, hr1, hr2]); rfl) rfl ?_) (by simp only [↓nrmL, nrmZ, Nat.reduceEqDiff, ↓reduceIte, Nat.reduceAdd, Int.reduceBEq, Int.reduceBNe, hr1, hr2]; rfl) ?_; (focus omega)
  refine Fe.read rfl (exec_ldB rfl (by omega)) (by simp only [↓nrmL, nrmZ, Nat.reduceEqDiff, ↓reduceIte, Nat.reduceAdd, Int.reduceBEq, Int.reduceBNe, hr1, hr2]; rfl) (by repeat (first | exact trivial | refine ⟨(by first | exact Or.inl (by dsimp only; decide) | exact Or.inr (exec_ld rfl rfl) | exact Or.inr (exec_ldN rfl rfl rfl) | exact Or.inr (exec_ldB rfl (by omega)) | exact Or.inr (exec_ldI rfl (by omega)) | exact Or.inr ghost_of), ?_⟩)) ?_
  refine Fe.pure rfl (exec_idxV (by (try simp only [↓nrmL, nrmZ, Nat.reduceEqDiff, ↓reduceIte, Nat.reduceAdd, Int.reduceBEq, Int.reduceBNe, hr1, hr2]); rfl) rfl ?_) (by simp only [↓nrmL, nrmZ, Nat.reduceEqDiff, ↓reduceIte, Nat.reduceAdd, Int.reduceBEq, Int.reduceBNe, hr1, hr2]; rfl) ?_; (focus omega)
  refine WpE.stB (l[s + (n - 1 - i)]'(by omega)) rfl rfl rfl rfl (by rw [hfl]; omega) fun H4 hb4 hw4 hx4 => ⟨(by repeat (first | exact trivial | refine ⟨(by first | exact Or.inl (by dsimp only; decide) | exact Or.inr (readOk_of (exec_ld rfl rfl)) | exact Or.inr (readOk_of (exec_ldN rfl rfl rfl)) | exact Or.inr (readOk_of (exec_ldB rfl (by omega))) | exact Or.inr (readOk_of (exec_ldI rfl (by omega))) | exact Or.inr (made_of rfl)), ?_⟩)), ?_⟩
  refine Fe.pure rfl (exec_idxV (by (try simp only [↓nrmL, nrmZ, Nat.reduceEqDiff, ↓reduceIte, Nat.reduceAdd, Int.reduceBEq, Int.reduceBNe]); rfl) rfl ?_) (by simp only [↓nrmL, nrmZ, Nat.reduceEqDiff, ↓reduceIte, Nat.reduceAdd, Int.reduceBEq, Int.reduceBNe]; rfl) ?_; (focus omega)
  refine WpE.stB (l[s + i]'(by omega)) rfl rfl rfl rfl (by rw [List.length_set, hfl]; omega) fun H5 hb5 hw5 hx5 => ⟨(by repeat (first | exact trivial | refine ⟨(by first | exact Or.inl (by dsimp only; decide) | exact Or.inr (readOk_of (exec_ld rfl rfl)) | exact Or.inr (readOk_of (exec_ldN rfl rfl rfl)) | exact Or.inr (readOk_of (exec_ldB rfl (by omega))) | exact Or.inr (readOk_of (exec_ldI rfl (by omega))) | exact Or.inr (made_of rfl)), ?_⟩)), ?_⟩
  refine WpE.nil (hKF _ _ ?_)
  refine rg fun KF hKF => ?_
  refine mI rfl ?_
  refine Fo.bin rfl rfl rfl rfl ?_
  refine mI rfl ?_
  refine Fo.bin rfl rfl rfl rfl ?_
  refine mI rfl ?_
  refine mI rfl ?_
  refine WpO.nil (hKF _ _ ?_)
  dsimp only [cond_true, cond_false]
  refine ⟨i + 1, by omega, ⟨by simp only [↓nrmL, nrmZ, Nat.reduceEqDiff, ↓reduceIte, Nat.reduceAdd, Int.reduceBEq, Int.reduceBNe]; rw [hw1], by simp only [↓nrmL, nrmZ, Nat.reduceEqDiff, ↓reduceIte, Nat.reduceAdd, Int.reduceBEq, Int.reduceBNe]; rw [hw2'], trivial⟩, by omega, by rw [← revP_succ hs hij]; exact hb5, hw5, inferInstance⟩
end Go.Am

set_option maxHeartbeats 4000000
set_option maxRecDepth 100000
namespace Go.Am
open Go
attribute [local irreducible] Wp WpO WpX WpE

theorem row_iff {a t y : Nat} (ha : 0 < a) : t / a = y ↔ y * a ≤ t ∧ t < y * a + a := by
 have h1 := Nat.div_add_mod t a
 have h2 := Nat.mod_lt t ha
 constructor
 ·rintro rfl
  rw [Nat.mul_comm] at h1
  omega
 ·rintro ⟨h3, h4⟩
  have h5 : t / a < y + 1 := by
   apply Nat.lt_of_mul_lt_mul_right (a := a)
   rw [Nat.add_mul, Nat.one_mul]
   rw [Nat.mul_comm] at h1
   omega
  have h6 : y < t / a + 1 := by
   apply Nat.lt_of_mul_lt_mul_right (a := a)
   rw [Nat.add_mul, Nat.one_mul]
   rw [Nat.mul_comm] at h1
   omega
  omega
theorem row_mod {a t : Nat} : t = t / a * a + t % a := by
 have h1 := Nat.div_add_mod t a
 rw [Nat.mul_comm] at h1
 omega
theorem row_at {a x y : Nat} (hx : x < a) : (y * a + x) / a = y ∧ (y * a + x) % a = x := by
 have h1 : (y * a + x) / a = y := (row_iff (by omega)).2 ⟨by omega, by omega⟩
 have h2 := row_mod (a := a) (t := y * a + x)
 rw [h1] at h2
 exact ⟨h1, by omega⟩
theorem div_lt' {a b t : Nat} (h : t < a * b) : t / a < b := Nat.div_lt_of_lt_mul h

/-- Some of the places of a list of zeros have been filled. -/
def fillP (P : Nat → Bool) (f : Nat → UInt8) (n : Nat) : List UInt8 := (List.range n).map fun k => if P k = true then f k else 0
theorem fillP_length (P : Nat → Bool) (f : Nat → UInt8) (n : Nat) : (fillP P f n).length = n := by simp [fillP]
theorem fillP_none {P : Nat → Bool} {f : Nat → UInt8} {n : Nat} (h : ∀ k, k < n → P k = false) : fillP P f n = List.replicate n 0 := by
 refine list_eq (by rw [fillP_length, List.length_replicate]) fun t ht => ?_
 rw [fillP_length] at ht
 rw [fillP, getD_map ht, h t ht]
 simp [ht]
theorem fillP_all {P : Nat → Bool} {f : Nat → UInt8} {n : Nat} (h : ∀ k, k < n → P k = true) : fillP P f n = (List.range n).map f := by
 refine list_eq (by simp [fillP_length]) fun t ht => ?_
 rw [fillP_length] at ht
 rw [fillP, getD_map ht, getD_map ht, h t ht]
 rfl
theorem fillP_set {P Q : Nat → Bool} {f : Nat → UInt8} {n j : Nat} (h : ∀ k, k < n → (Q k = true ↔ P k = true ∨ k = j)) : (fillP P f n).set j (f j) = fillP Q f n := by
 refine list_eq (by rw [List.length_set, fillP_length, fillP_length]) fun t ht => ?_
 rw [List.length_set, fillP_length] at ht
 rw [List.getD_eq_getElem?_getD, List.getElem?_set, fillP_length, fillP, fillP, getD_map ht]
 have := h t ht
 by_cases h1 : j = t
 ·subst h1
  rw [if_pos rfl, if_pos ht, if_pos (this.2 (Or.inr rfl))]; rfl
 ·rw [if_neg h1, ← List.getD_eq_getElem?_getD, getD_map ht]
  by_cases h2 : P t = true
  ·rw [if_pos h2, if_pos (this.2 (Or.inl h2))]
  ·rw [if_neg h2, if_neg (fun q => by rcases this.1 q with q | q; exact h2 q; exact h1 q.symm)]
theorem fillP_skip {P Q : Nat → Bool} {f : Nat → UInt8} {n j : Nat} (h0 : f j = 0) (h : ∀ k, k < n → (Q k = true ↔ P k = true ∨ k = j)) : fillP P f n = fillP Q f n := by
 rw [← fillP_set h, h0]
 refine list_eq (by rw [List.length_set]) fun t ht => ?_
 rw [List.getD_eq_getElem?_getD (l := List.set _ _ _), List.getElem?_set]
 by_cases h1 : j = t
 ·subst h1
  rw [if_pos rfl, if_pos ht, Option.getD_some]
  rw [fillP_length] at ht
  rw [fillP, getD_map ht, h0]
  split <;> rfl
 ·rw [if_neg h1, ← List.getD_eq_getElem?_getD]

theorem getD01 {l : List UInt8} (h : pxOk l = true) (i : Nat) : l.getD i 0 = 0 ∨ l.getD i 0 = 1 := by
 by_cases hi : i < l.length
 ·exact px_get h hi
 ·left; rw [List.getD_eq_getElem?_getD, List.getElem?_eq_none (by omega)]; rfl
theorem ok_map_range {f : Nat → UInt8} {n : Nat} (h : ∀ k, f k = 0 ∨ f k = 1) : pxOk ((List.range n).map f) = true := by
 unfold pxOk
 rw [List.all_eq_true]
 intro x hx
 obtain ⟨k, _, rfl⟩ := List.mem_map.1 hx
 rcases h k with h1 | h1 <;> rw [h1] <;> rfl
theorem ok_of {w h : Int} {l : List UInt8} (h0 : (Img.err ⟨w, h, l⟩ == 0) = true) : ∃ a b : Nat, w = a ∧ h = b ∧ Ok a b l := by
 obtain ⟨h1, h2⟩ := Img.ok h0
 obtain ⟨a, b, e1, e2, e3, e4, e5⟩ := sized_nat h1
 exact ⟨a, b, e1, e2, e3, e4, e5, h2⟩
end Go.Am

set_option maxHeartbeats 4000000
set_option maxRecDepth 100000
namespace Go.Am
open Go
attribute [local irreducible] Wp WpO WpX WpE

end Go.Am

set_option maxHeartbeats 4000000
set_option maxRecDepth 100000
namespace Go.Am
open Go
attribute [local irreducible] Wp WpO WpX WpE

end Go.Am

set_option maxHeartbeats 4000000
set_option maxRecDepth 100000
set_option synthInstance.maxHeartbeats 4000000
set_option synthInstance.maxSize 100000
namespace Go.Am
open Go
attribute [local irreducible] Wp WpO WpX WpE

end Go.Am

set_option maxHeartbeats 4000000
set_option maxRecDepth 100000
set_option synthInstance.maxHeartbeats 4000000
set_option synthInstance.maxSize 100000
namespace Go.Am
open Go
attribute [local irreducible] Wp WpO WpX WpE

def ltP (n k : Nat) : Bool := decide (k < n)
theorem ltP_next {n k : Nat} : ltP (n + 1) k = true ↔ ltP n k = true ∨ k = n := by
 simp only [ltP, decide_eq_true_eq]; omega
end Go.Am

set_option maxHeartbeats 4000000
set_option maxRecDepth 100000
set_option synthInstance.maxHeartbeats 4000000
set_option synthInstance.maxSize 100000
namespace Go.Am
open Go
attribute [local irreducible] Wp WpO WpX WpE

end Go.Am
