/-
  StaveBack returns true for all numbers, bends and bits, and leaves them as they were. No condition.
-/
import Derived.Test.YtpochhefklmnfaaAmBE
set_option linter.unusedSimpArgs false
set_option linter.unusedVariables false
set_option maxHeartbeats 16000000
set_option maxRecDepth 100000
set_option synthInstance.maxHeartbeats 4000000
set_option synthInstance.maxSize 1000000000
namespace Go.Am
open Go
attribute [local irreducible] Wp WpO WpX WpE
theorem K_stTwin {H : AHeap} {a b : Int} {p : AVal} {l : List UInt8} [hp : BytesI H p l] (hl : l.length < 2 ^ 40) : Con ext prog 2 85 [.agg [.int .i64 a, .int .i64 b, p]] H fun v H' => NewInk H H' v ⟨a, b, l⟩ := by
 refine con_of (show prog 85 = some c85 from rfl) rfl rfl fun n hn => ?_
 haveI := hp.one
 refine sq ?_
 refine rg fun KF hKF => ?_
 refine bA ?_
 refine nw ?_
 refine nl hKF ?_
 refine sq ?_
 refine Fr.dregion0 rfl fun KF hKF => ?_
 repeat first
  | (refine Er rfl (exec_ld rfl rfl) rfl ?_)
  | (refine Fe.pure rfl rfl (by simp only [↓nrmL, nrmZ, Nat.reduceEqDiff, ↓reduceIte, Nat.reduceAdd, Int.reduceBEq, Int.reduceBNe]; rfl) ?_)
 refine Fe.con rfl hn rfl rfl (by simp only [↓nrmL, nrmZ, Nat.reduceEqDiff, ↓reduceIte, Nat.reduceAdd, Int.reduceBEq, Int.reduceBNe, List.map] <;> rfl) (K_Clone hl) fun v H1 ⟨h1, h2, h3, h4⟩ => ?_
 haveI : ExtI _ H1 := ⟨h4⟩
 haveI := h1.one
 refine ar ?_
 refine Fe.pure rfl (exec_build (by repeat (first | refine aFill1 (by (try simp only [↓nrmL, nrmZ, Nat.reduceEqDiff, ↓reduceIte, Nat.reduceAdd, Int.reduceBEq, Int.reduceBNe]); rfl) rfl ?_ | rfl))) (by simp only [↓nrmL, nrmZ, Nat.reduceEqDiff, ↓reduceIte, Nat.reduceAdd, Int.reduceBEq, Int.reduceBNe]; rfl) ?_
 refine Ee rfl (xs rfl (by (try simp only [↓nrmL, nrmZ, Nat.reduceEqDiff, ↓reduceIte, Nat.reduceAdd, Int.reduceBEq, Int.reduceBNe]); rfl) rfl rfl rfl (by (try simp only [↓nrmL, nrmZ, Nat.reduceEqDiff, ↓reduceIte, Nat.reduceAdd, Int.reduceBEq, Int.reduceBNe]); rfl)) ?_
 refine WpE.nil (hKF _ _ ?_)
 refine rt ?_
 dsimp only [cond_true, cond_false]
 refine rz trivial ?_
 exact ⟨v, rfl, inferInstance, h2.weak, inferInstance, Ext0.ext⟩
abbrev resA : RCode := .seq (.region [⟨(some 13), .mov (.tmp 54), none⟩]) (.region [⟨(some 14), .mov (.tmp 55), none⟩])
abbrev resB : RCode := .block 1 (.dregion [⟨⟨(some 56), .fieldAddr 2 (.tmp 12), none⟩, 0, 0, true⟩,
   ⟨⟨(some 57), .load none (.tmp 56), none⟩, 1, 1, true⟩,
   ⟨⟨(some 58), .mov (.tmp 13), none⟩, 0, 0, true⟩,
   ⟨⟨(some 59), .fieldAddr 2 (.tmp 5), none⟩, 0, 0, true⟩,
   ⟨⟨(some 60), .load none (.tmp 59), none⟩, 8, 1, true⟩,
   ⟨⟨(some 61), .mov (.tmp 14), none⟩, 0, 0, true⟩,
   ⟨⟨(some 62), .idxS 1 (.tmp 60) (.tmp 61), none⟩, 56, 0, true⟩,
   ⟨⟨(some 63), .load none (.tmp 62), none⟩, 120, 1, true⟩,
   ⟨⟨(some 64), .idxS 1 (.tmp 57) (.tmp 58), none⟩, 255, 0, true⟩,
   ⟨⟨none, .store 1 (.tmp 64) (.tmp 63), none⟩, 511, 2, false⟩])
abbrev resR (d : Nat) (fr : AFrame) : RLoop := ⟨d, 66, fr, [54, 55], resA, resB, 0, .normal⟩
theorem round_rest {Hb H : AHeap} {r11 r4 r d n i j : Nat} {fr : AFrame} {q p : AVal} {L l : List UInt8} {u v w s : Int} {e11 e4 : TypeId} {w11 w4 : Bool} (h11 : fr 12 = .ptr r11 0) (h4 : fr 5 = .ptr r4 0) (k11 : HasRow H r11 [.int .i64 u, .int .i64 v, q] w11 e11) (k4 : HasRow H r4 [.int .i64 w, .int .i64 s, p] w4 e4) (kp : BytesI H p l) (n11 : RowNe q r11) (n4 : RowNe q r4) (hpq : SepS p q) (hr : Hb.n ≤ r) (hJ : JS Hb r (resR d fr) q L H) (hi : i < L.length) (hj : j < l.length) (hn : fuel0 + 1 ≤ n) :
  ∃ H', callN ext prog n yieldId [.yield r, .int .i64 (i : Int), .int .i64 (j : Int)] H = some (.bool true, H') ∧ JS Hb r (resR d fr) q (L.set i l[j]) H' := by
 obtain ⟨k, rfl⟩ : ∃ k, n = k + 1 := ⟨n - 1, by omega⟩
 haveI := hJ.loop
 haveI := hJ.px
 haveI := hJ.wr
 haveI : RowNe q r := px_ne hJ.px hJ.loop
 haveI : RowNe p r := px_ne kp hJ.loop
 haveI : NeR r11 r := ⟨fun e => by have := k11.get; have h2 := hJ.loop.get; rw [e, h2] at this; cases this⟩
 haveI : NeR r4 r := ⟨fun e => by have := k4.get; have h2 := hJ.loop.get; rw [e, h2] at this; cases this⟩
 haveI := kp.one
 haveI := hJ.px.one
 refine round_next (R := resR d fr) rfl hJ.loop rfl rfl rfl ?_
 show Wp (callN ext prog k) k resA (upd (upd fr 54 (.int .i64 (i : Int))) 55 (.int .i64 (j : Int))) H _
 simp only [h11, h4]
 repeat first
  | refine mI ?_
  | refine nl hKF ?_
  | refine sq ?_
  | refine rg fun KF hKF => ?_
 refine ⟨rfl, inferInstance, ?_⟩
 show Wp (callN ext prog k) k resB _ _ _
 refine Wp.block ?_
 refine Fr.dregion0 rfl fun KF hKF => ?_
 refine Fe.pure rfl (exec_fa h11) rfl ?_
 refine Er rfl (exec_ld rfl rfl) rfl ?_
 refine Fe.pure rfl rfl (by simp only [↓nrmL, nrmZ, Nat.reduceEqDiff, ↓reduceIte, Nat.reduceAdd, Int.reduceBEq, Int.reduceBNe]; rfl) ?_
 refine Fe.pure rfl (exec_fa h4) rfl ?_
 repeat first
  | (refine Er rfl (exec_ld rfl rfl) rfl ?_)
  | (refine Fe.pure rfl rfl (by simp only [↓nrmL, nrmZ, Nat.reduceEqDiff, ↓reduceIte, Nat.reduceAdd, Int.reduceBEq, Int.reduceBNe]; rfl) ?_)
  | (refine Fe.pure rfl (exec_idxP (by (try simp only [↓nrmL, nrmZ, Nat.reduceEqDiff, ↓reduceIte, Nat.reduceAdd, Int.reduceBEq, Int.reduceBNe]); rfl) rfl ?_) (by simp only [↓nrmL, nrmZ, Nat.reduceEqDiff, ↓reduceIte, Nat.reduceAdd, Int.reduceBEq, Int.reduceBNe]; rfl) ?_; (focus omega))
  | (refine Er rfl (exec_ldB rfl (by omega)) rfl ?_)
 refine WpE.stB (l[j]) rfl rfl rfl rfl hi fun H8 hb8 hw8 hx8 => ar ?_
 refine WpE.nil (hKF _ _ ?_)
 dsimp only [cond_true, cond_false]
 have hn1 := hJ.n
 have hn8 := hx8.n
 refine ⟨rfl, inferInstance, ⟨by simp only [AHeap.set] at hn8 ⊢; omega, fun s hs hne => ?_, inferInstance, inferInstance, inferInstance⟩⟩
 have hsr : s ≠ r := by omega
 rw [set_get_ne hsr, hx8.get s (by simp only [AHeap.set]; omega) hne, set_get_ne hsr]
 exact hJ.get s hs hne
def rstF (l s : List UInt8) (a h : Nat) (m : List Int) (up k : Nat) : UInt8 := if (m.getD (k % a) 0).toNat ≤ k / a + up ∧ k / a + up < (m.getD (k % a) 0).toNat + h then s.getD ((k / a + up - (m.getD (k % a) 0).toNat) * a + k % a) 0 else l.getD k 0
def rstL (l s : List UInt8) (a b h : Nat) (m : List Int) (up : Nat) : List UInt8 := (List.range (a * b)).map (rstF l s a h m up)
def rstP (a x y k : Nat) : Bool := decide (k % a < x) || (decide (k % a = x) && decide (k / a < y))
theorem rstP_next {a x y : Nat} (hx : x < a) (k : Nat) : rstP a x (y + 1) k = true ↔ rstP a x y k = true ∨ k = y * a + x := by
 simp only [rstP, Bool.or_eq_true, Bool.and_eq_true, decide_eq_true_eq]
 obtain ⟨e1, e2⟩ := rct_at (y := y) hx
 constructor
 ·rintro (h | ⟨h, h2⟩)
  ·exact Or.inl (Or.inl h)
  ·by_cases h3 : k / a < y
   ·exact Or.inl (Or.inr ⟨h, h3⟩)
   ·exact Or.inr (div_inj (a := a) (by rw [e1, h]) (by rw [e2]; omega))
 ·rintro ((h | ⟨h, h2⟩) | h)
  ·exact Or.inl h
  ·exact Or.inr ⟨h, by omega⟩
  ·subst h
   exact Or.inr ⟨e1, by rw [e2]; omega⟩
theorem rstP_col {a b h up x y : Nat} {l s : List UInt8} {m : List Int} (hx : x < a) (hy : y < b → (m.getD x 0).toNat + h ≤ y + up) {k : Nat} (hk : k < a * b) : (rstP a (x + 1) (loN m up (x + 1)) k = true ↔ rstP a x y k = true) ∨ rstF l s a h m up k = l.getD k 0 := by
 have hkh : k / a < b := Nat.div_lt_of_lt_mul hk
 have := Nat.zero_le (k / a)
 simp only [rstP, Bool.or_eq_true, Bool.and_eq_true, decide_eq_true_eq]
 by_cases h1 : k % a < x
 ·exact Or.inl ⟨fun _ => Or.inl h1, fun _ => Or.inl (by omega)⟩
 by_cases h2 : k % a = x
 ·by_cases h3 : k / a < y
  ·exact Or.inl ⟨fun _ => Or.inr ⟨h2, h3⟩, fun _ => Or.inl (by omega)⟩
  ·right
   rw [rstF, h2, if_neg]
   intro h4
   have := hy (by omega)
   omega
 ·by_cases h3 : k % a = x + 1
  ·by_cases h4 : k / a < loN m up (x + 1)
   ·right
    rw [rstF, h3, if_neg]
    intro h5
    unfold loN at h4
    omega
   ·left
    constructor
    ·rintro (h5 | ⟨_, h5⟩)
     ·omega
     ·exact absurd h5 h4
    ·rintro (h5 | ⟨h5, _⟩)
     ·exact absurd h5 h1
     ·exact absurd h5 h2
  ·left
   constructor
   ·rintro (h5 | ⟨h5, _⟩)
    ·omega
    ·exact absurd h5 h3
   ·rintro (h5 | ⟨h5, _⟩)
    ·exact absurd h5 h1
    ·exact absurd h5 h2
theorem rst_start {a h up n : Nat} {l s : List UInt8} {m : List Int} (hl : l.length = n) : l = mixP (rstP a 0 (loN m up 0)) (rstF l s a h m up) (fun k => l.getD k 0) n := by
 rw [mixP_congr (Q := fun _ => false) fun k _ => by
  by_cases h1 : rstP a 0 (loN m up 0) k = true
  ·right
   simp only [rstP, Bool.or_eq_true, Bool.and_eq_true, decide_eq_true_eq] at h1
   rcases h1 with h1 | ⟨h1, h2⟩
   ·omega
   ·rw [rstF, h1, if_neg]
    intro h3
    unfold loN at h2
    have := Nat.zero_le (k / a)
    omega
  ·exact Or.inl ⟨fun q => (by cases q), fun q => absurd q h1⟩]
 apply List.ext_getElem
 ·simp [mixP, hl]
 ·intro i h1 h2
  simp only [mixP, List.getElem_map, List.getElem_range, Bool.false_eq_true, if_false]
  rw [List.getD_eq_getElem?_getD, List.getElem?_eq_getElem h1, Option.getD_some]
theorem rst_end {a b h up : Nat} {l s : List UInt8} {m : List Int} (ha : 0 < a) {y : Nat} : mixP (rstP a a y) (rstF l s a h m up) (fun k => l.getD k 0) (a * b) = rstL l s a b h m up := by
 unfold mixP rstL
 apply List.map_congr_left
 intro k _
 rw [if_pos]
 simp only [rstP, Bool.or_eq_true, decide_eq_true_eq]
 exact Or.inl (Nat.mod_lt _ ha)
def restS (g s : Img) (ls : List (List Int)) (up : Int) : Img × Int :=
 bif g.err == 0 then (bif s.err == 0 then (bif fitsB g.w.toNat g.h.toNat ls then (bif decide (up < 0) || decide (up ≥ s.h) then (.zero, 1) else (bif s.w != g.w then (.zero, 2) else (⟨g.w, g.h, rstL g.px s.px g.w.toNat g.h.toNat s.h.toNat (ls.getD 4 []) up.toNat⟩, 0))) else (.zero, 10)) else (.zero, s.err)) else (.zero, g.err)
theorem K_Restore {w h w2 h2 up : Int} {p p2 q : AVal} {H : AHeap} {l s : List UInt8} {ls : List (List Int)} [hp : BytesI H p l] [hp2 : BytesI H p2 s] [hq : LinesI H q ls] : Con ext prog 9 45 [.agg [.int .i64 w, .int .i64 h, p], .agg [.int .i64 w2, .int .i64 h2, p2], .agg [q], .int .i64 up] H fun v H' => InkRes H H' v (restS ⟨w, h, l⟩ ⟨w2, h2, s⟩ ls up) := by
 refine con_ofR (show prog 45 = some c45 from rfl) rfl rfl fun n hn => ?_
 obtain ⟨ps, hps, hrw⟩ := hq.it
 haveI := hp.one
 haveI := hp2.one
 haveI := hps.one
 obtain ⟨R, hR⟩ : ∃ R, restS ⟨w, h, l⟩ ⟨w2, h2, s⟩ ls up = R := ⟨_, rfl⟩
 rw [hR]
 cases h0 : (Img.err ⟨w, h, l⟩ == 0)
 ·have e1 : restS ⟨w, h, l⟩ ⟨w2, h2, s⟩ ls up = (.zero, Img.err ⟨w, h, l⟩) := by simp only [restS, h0, cond_false]
  rw [e1] at hR
  subst hR
  simp only [h0, bne]
  repeat first
   | refine mI ?_
   | (refine Fo.ldN rfl rfl (by simp only [↓nrmL, nrmZ, Nat.reduceEqDiff, ↓reduceIte, Nat.reduceAdd, Int.reduceBEq, Int.reduceBNe, h0, bne]; rfl) ?_)
   | (refine bn rfl rfl rfl (by simp only [h0, bne]; rfl) ?_)
   | (refine Fo.pcall (v' := ?_) hn rfl (by simp only [↓nrmL, nrmZ, Nat.reduceEqDiff, ↓reduceIte, Nat.reduceAdd, Int.reduceBEq, Int.reduceBNe, h0, bne, List.map]; rfl) rfl ?hv fun _ _ => ?_; case hv => rfl)
   | refine bA ?_
   | refine nw ?_
   | (refine ob (cs' := ?_) ?hc ?_; case hc => rfl)
   | (refine so rfl (rfl : _ = AVal.agg _) rfl rfl rfl (by simp only [↓nrmL, nrmZ, Nat.reduceEqDiff, ↓reduceIte, Nat.reduceAdd, Int.reduceBEq, Int.reduceBNe, h0, bne]; rfl) ?_)
   | refine nl hKF ?_
   | refine sq ?_
   | refine rg fun KF hKF => ?_
   | refine ct rfl ?_
   | refine rt ?_
   | dsimp only [cond_true, cond_false]
  exact ⟨trivial, _, rfl, _, getAllC rfl rfl rfl rfl, _, rfl, newZero⟩
 cases h02 : (Img.err ⟨w2, h2, s⟩ == 0)
 ·have e1 : restS ⟨w, h, l⟩ ⟨w2, h2, s⟩ ls up = (.zero, Img.err ⟨w2, h2, s⟩) := by simp only [restS, h0, h02, cond_false, cond_true]
  rw [e1] at hR
  subst hR
  simp only [h0, h02, bne]
  repeat first
   | refine mI ?_
   | (refine Fo.ldN rfl rfl (by simp only [↓nrmL, nrmZ, Nat.reduceEqDiff, ↓reduceIte, Nat.reduceAdd, Int.reduceBEq, Int.reduceBNe, h0, h02, bne]; rfl) ?_)
   | (refine bn rfl rfl rfl (by simp only [h0, h02, bne]; rfl) ?_)
   | (refine Fo.pcall (v' := ?_) hn rfl (by simp only [↓nrmL, nrmZ, Nat.reduceEqDiff, ↓reduceIte, Nat.reduceAdd, Int.reduceBEq, Int.reduceBNe, h0, h02, bne, List.map]; rfl) rfl ?hv fun _ _ => ?_; case hv => rfl)
   | refine bA ?_
   | refine nw ?_
   | (refine ob (cs' := ?_) ?hc ?_; case hc => rfl)
   | (refine so rfl (rfl : _ = AVal.agg _) rfl rfl rfl (by simp only [↓nrmL, nrmZ, Nat.reduceEqDiff, ↓reduceIte, Nat.reduceAdd, Int.reduceBEq, Int.reduceBNe, h0, h02, bne]; rfl) ?_)
   | refine nl hKF ?_
   | refine sq ?_
   | refine rg fun KF hKF => ?_
   | refine ct rfl ?_
   | refine cf rfl ?_
   | refine sk ?_
   | refine rt ?_
   | dsimp only [cond_true, cond_false]
  exact ⟨trivial, _, rfl, _, getAllC rfl rfl rfl rfl, _, rfl, newZero⟩
 obtain ⟨a, b, rfl, rfl, ok⟩ := ok_of h0
 obtain ⟨a2, c, rfl, rfl, ok2⟩ := ok_of h02
 haveI : Side a := ⟨ok.wa⟩
 haveI : Side b := ⟨ok.hb⟩
 cases hfit : fitsB a b ls
 ·have e1 : restS ⟨a, b, l⟩ ⟨a2, c, s⟩ ls up = (.zero, 10) := by simp only [restS, h0, h02, cond_true, Int.toNat_natCast, hfit, cond_false]
  rw [e1] at hR
  subst hR
  simp only [h0, h02, bne, hfit]
  repeat first
   | refine mI ?_
   | (refine Fo.ldN rfl rfl (by simp only [↓nrmL, nrmZ, Nat.reduceEqDiff, ↓reduceIte, Nat.reduceAdd, Int.reduceBEq, Int.reduceBNe, h0, h02, bne, hfit]; rfl) ?_)
   | (refine bn rfl rfl rfl (by simp only [h0, h02, bne, hfit]; rfl) ?_)
   | (refine Fo.pcall (v' := ?_) hn rfl (by simp only [↓nrmL, nrmZ, Nat.reduceEqDiff, ↓reduceIte, Nat.reduceAdd, Int.reduceBEq, Int.reduceBNe, h0, h02, bne, hfit, List.map]; rfl) rfl ?hv fun _ _ => ?_; case hv => (simp only [h0, h02, bne, hfit]; rfl))
   | (refine Fo.pcall (v' := ?_) hn rfl (by simp only [↓nrmL, nrmZ, Nat.reduceEqDiff, ↓reduceIte, Nat.reduceAdd, Int.reduceBEq, Int.reduceBNe, h0, h02, bne, hfit, List.map]; rfl) rfl ?hv fun _ _ => ?_; case hv => rfl)
   | refine bA ?_
   | refine nw ?_
   | (refine ob (cs' := ?_) ?hc ?_; case hc => rfl)
   | (refine Fo.now rfl rfl (by simp only [↓nrmL, nrmZ, Nat.reduceEqDiff, ↓reduceIte, Nat.reduceAdd, Int.reduceBEq, Int.reduceBNe, h0, h02, bne, hfit]; rfl) ?_)
   | (refine so rfl (rfl : _ = AVal.agg _) rfl rfl rfl (by simp only [↓nrmL, nrmZ, Nat.reduceEqDiff, ↓reduceIte, Nat.reduceAdd, Int.reduceBEq, Int.reduceBNe, h0, h02, bne, hfit]; rfl) ?_)
   | refine nl hKF ?_
   | refine sq ?_
   | refine rg fun KF hKF => ?_
   | refine ct rfl ?_
   | refine cf rfl ?_
   | refine sk ?_
   | refine rt ?_
   | dsimp only [cond_true, cond_false]
  exact ⟨trivial, _, rfl, _, getAllC rfl rfl rfl rfl, _, rfl, newZero⟩
 obtain ⟨hl5, hpaths⟩ := fitsB_iff hfit
 have h4l : 4 < ls.length := by omega
 have hm := hpaths 4 h4l
 obtain ⟨hml, ha0⟩ := pathB_len hm
 obtain ⟨q4, hq4, hI4⟩ := hrw.it 4 h4l
 obtain ⟨m, hmdef⟩ : ∃ m, ls[4] = m := ⟨_, rfl⟩
 rw [hmdef] at hm hml hI4
 haveI := hI4
 have ha := ok.wa
 have hb := ok.hb
 have hlen := ok.len
 have hc640 := ok2.hb
 have hlen2 := ok2.len
 cases hu0 : decide (up < 0)
 rotate_left
 ·have e1 : restS ⟨a, b, l⟩ ⟨a2, c, s⟩ ls up = (.zero, 1) := by simp only [restS, h0, h02, cond_true, Int.toNat_natCast, hfit, hu0, Bool.true_or]
  rw [e1] at hR
  subst hR
  simp only [h0, h02, bne, hfit, hu0]
  repeat first
   | refine ox ?_
   | refine mI ?_
   | refine mB ?_
   | (refine Fo.ldN rfl rfl (by simp only [↓nrmL, nrmZ, Nat.reduceEqDiff, ↓reduceIte, Nat.reduceAdd, Int.reduceBEq, Int.reduceBNe, h0, h02, bne, hfit, hu0]; rfl) ?_)
   | (refine bn rfl rfl rfl (by simp only [h0, h02, bne, hfit, hu0]; rfl) ?_)
   | refine tB ?_
   | (refine Fo.pcall (v' := ?_) hn rfl (by simp only [↓nrmL, nrmZ, Nat.reduceEqDiff, ↓reduceIte, Nat.reduceAdd, Int.reduceBEq, Int.reduceBNe, h0, h02, bne, hfit, hu0, List.map]; rfl) rfl ?hv fun _ _ => ?_; case hv => (simp only [h0, h02, bne, hfit, hu0]; rfl))
   | (refine Fo.pcall (v' := ?_) hn rfl (by simp only [↓nrmL, nrmZ, Nat.reduceEqDiff, ↓reduceIte, Nat.reduceAdd, Int.reduceBEq, Int.reduceBNe, h0, h02, bne, hfit, hu0, List.map]; rfl) rfl ?hv fun _ _ => ?_; case hv => rfl)
   | refine bA ?_
   | refine nw ?_
   | (refine ob (cs' := ?_) ?hc ?_; case hc => rfl)
   | (refine Fo.now rfl rfl (by simp only [↓nrmL, nrmZ, Nat.reduceEqDiff, ↓reduceIte, Nat.reduceAdd, Int.reduceBEq, Int.reduceBNe, h0, h02, bne, hfit, hu0]; rfl) ?_)
   | (refine so rfl (rfl : _ = AVal.agg _) rfl rfl rfl (by simp only [↓nrmL, nrmZ, Nat.reduceEqDiff, ↓reduceIte, Nat.reduceAdd, Int.reduceBEq, Int.reduceBNe, h0, h02, bne, hfit, hu0]; rfl) ?_)
   | refine nl hKF ?_
   | refine sq ?_
   | refine rg fun KF hKF => ?_
   | refine ct rfl ?_
   | refine cf rfl ?_
   | refine sk ?_
   | refine rt ?_
   | dsimp only [cond_true, cond_false]
  exact ⟨trivial, _, rfl, _, getAllC rfl rfl rfl rfl, _, rfl, newZero⟩
 cases hu1 : decide (up ≥ (c : Int))
 rotate_left
 ·have e1 : restS ⟨a, b, l⟩ ⟨a2, c, s⟩ ls up = (.zero, 1) := by simp only [restS, h0, h02, cond_true, Int.toNat_natCast, hfit, hu0, hu1, Bool.or_true]
  rw [e1] at hR
  subst hR
  simp only [h0, h02, bne, hfit, hu0, hu1]
  repeat first
   | refine oy ?_
   | refine mI ?_
   | refine mB ?_
   | refine fd ?_
   | refine Fo.ld rfl rfl ?_
   | (refine Fo.ldN rfl rfl (by simp only [↓nrmL, nrmZ, Nat.reduceEqDiff, ↓reduceIte, Nat.reduceAdd, Int.reduceBEq, Int.reduceBNe, h0, h02, bne, hfit, hu0, hu1]; rfl) ?_)
   | (refine bn rfl rfl rfl (by simp only [h0, h02, bne, hfit, hu0, hu1]; rfl) ?_)
   | refine fB ?_
   | (refine Fo.pcall (v' := ?_) hn rfl (by simp only [↓nrmL, nrmZ, Nat.reduceEqDiff, ↓reduceIte, Nat.reduceAdd, Int.reduceBEq, Int.reduceBNe, h0, h02, bne, hfit, hu0, hu1, List.map]; rfl) rfl ?hv fun _ _ => ?_; case hv => (simp only [h0, h02, bne, hfit, hu0, hu1]; rfl))
   | (refine Fo.pcall (v' := ?_) hn rfl (by simp only [↓nrmL, nrmZ, Nat.reduceEqDiff, ↓reduceIte, Nat.reduceAdd, Int.reduceBEq, Int.reduceBNe, h0, h02, bne, hfit, hu0, hu1, List.map]; rfl) rfl ?hv fun _ _ => ?_; case hv => rfl)
   | refine bA ?_
   | refine nw ?_
   | (refine ob (cs' := ?_) ?hc ?_; case hc => rfl)
   | (refine Fo.now rfl rfl (by simp only [↓nrmL, nrmZ, Nat.reduceEqDiff, ↓reduceIte, Nat.reduceAdd, Int.reduceBEq, Int.reduceBNe, h0, h02, bne, hfit, hu0, hu1]; rfl) ?_)
   | (refine so rfl (rfl : _ = AVal.agg _) rfl rfl rfl (by simp only [↓nrmL, nrmZ, Nat.reduceEqDiff, ↓reduceIte, Nat.reduceAdd, Int.reduceBEq, Int.reduceBNe, h0, h02, bne, hfit, hu0, hu1]; rfl) ?_)
   | refine nl hKF ?_
   | refine sq ?_
   | refine rg fun KF hKF => ?_
   | refine ct rfl ?_
   | refine cf rfl ?_
   | refine sk ?_
   | refine rt ?_
   | dsimp only [cond_true, cond_false]
  exact ⟨trivial, _, rfl, _, getAllC rfl rfl rfl rfl, _, rfl, newZero⟩
 obtain ⟨cu, rfl⟩ : ∃ k : Nat, up = k := ⟨up.toNat, by have := of_decide_eq_false hu0; omega⟩
 have huc : cu < c := by have := of_decide_eq_false hu1; omega
 cases hww : ((a2 : Int) != (a : Int))
 rotate_left
 ·have e1 : restS ⟨a, b, l⟩ ⟨a2, c, s⟩ ls cu = (.zero, 2) := by simp only [restS, h0, h02, cond_true, Int.toNat_natCast, hfit, hu0, hu1, Bool.or_false, cond_false, hww]
  rw [e1] at hR
  subst hR
  have hww2 : ((a2 : Int) == (a : Int)) = false := by simpa [bne] using hww
  simp only [h0, h02, bne, hfit, hu0, hu1, hww2]
  repeat first
   | refine oy ?_
   | refine mI ?_
   | refine mB ?_
   | refine fd ?_
   | refine Fo.ld rfl rfl ?_
   | (refine Fo.ldN rfl rfl (by simp only [↓nrmL, nrmZ, Nat.reduceEqDiff, ↓reduceIte, Nat.reduceAdd, Int.reduceBEq, Int.reduceBNe, h0, h02, bne, hfit, hu0, hu1, hww2]; rfl) ?_)
   | (refine bn rfl rfl rfl (by simp only [h0, h02, bne, hfit, hu0, hu1, hww2]; rfl) ?_)
   | refine fB ?_
   | (refine Fo.pcall (v' := ?_) hn rfl (by simp only [↓nrmL, nrmZ, Nat.reduceEqDiff, ↓reduceIte, Nat.reduceAdd, Int.reduceBEq, Int.reduceBNe, h0, h02, bne, hfit, hu0, hu1, hww2, List.map]; rfl) rfl ?hv fun _ _ => ?_; case hv => (simp only [h0, h02, bne, hfit, hu0, hu1, hww2]; rfl))
   | (refine Fo.pcall (v' := ?_) hn rfl (by simp only [↓nrmL, nrmZ, Nat.reduceEqDiff, ↓reduceIte, Nat.reduceAdd, Int.reduceBEq, Int.reduceBNe, h0, h02, bne, hfit, hu0, hu1, hww2, List.map]; rfl) rfl ?hv fun _ _ => ?_; case hv => rfl)
   | refine bA ?_
   | refine nw ?_
   | (refine ob (cs' := ?_) ?hc ?_; case hc => rfl)
   | (refine Fo.now rfl rfl (by simp only [↓nrmL, nrmZ, Nat.reduceEqDiff, ↓reduceIte, Nat.reduceAdd, Int.reduceBEq, Int.reduceBNe, h0, h02, bne, hfit, hu0, hu1, hww2]; rfl) ?_)
   | (refine so rfl (rfl : _ = AVal.agg _) rfl rfl rfl (by simp only [↓nrmL, nrmZ, Nat.reduceEqDiff, ↓reduceIte, Nat.reduceAdd, Int.reduceBEq, Int.reduceBNe, h0, h02, bne, hfit, hu0, hu1, hww2]; rfl) ?_)
   | refine nl hKF ?_
   | refine sq ?_
   | refine rg fun KF hKF => ?_
   | refine ct rfl ?_
   | refine cf rfl ?_
   | refine sk ?_
   | refine rt ?_
   | dsimp only [cond_true, cond_false]
  exact ⟨trivial, _, rfl, _, getAllC rfl rfl rfl rfl, _, rfl, newZero⟩
 have haa : a2 = a := by have h7 := hww; simp only [bne_eq_false_iff_eq] at h7; omega
 subst haa
 have e1 : restS ⟨a2, b, l⟩ ⟨a2, c, s⟩ ls cu = (⟨a2, b, rstL l s a2 b c m cu⟩, 0) := by
  simp only [restS, h0, h02, cond_true, Int.toNat_natCast, hfit, hu0, hu1, Bool.or_false, cond_false, hww, getDL_at h4l, hmdef]
 rw [e1] at hR
 subst hR
 have hww2 : ((a2 : Int) == (a2 : Int)) = true := by simp
 have haa := ha
 simp only [h0, h02, bne, hfit, hu0, hu1, hww2]
 repeat first
  | refine oy ?_
  | refine mI ?_
  | refine mB ?_
  | refine fd ?_
  | refine Fo.ld rfl rfl ?_
  | (refine Fo.ldN rfl rfl (by simp only [↓nrmL, nrmZ, Nat.reduceEqDiff, ↓reduceIte, Nat.reduceAdd, Int.reduceBEq, Int.reduceBNe, h0, h02, bne, hfit, hu0, hu1, hww2]; rfl) ?_)
  | (refine bn rfl rfl rfl (by simp only [h0, h02, bne, hfit, hu0, hu1, hww2]; rfl) ?_)
  | refine fB ?_
  | (refine Fo.pcall (v' := ?_) hn rfl (by simp only [↓nrmL, nrmZ, Nat.reduceEqDiff, ↓reduceIte, Nat.reduceAdd, Int.reduceBEq, Int.reduceBNe, h0, h02, bne, hfit, hu0, hu1, hww2, List.map]; rfl) rfl ?hv fun _ _ => ?_; case hv => (simp only [h0, h02, bne, hfit, hu0, hu1, hww2]; rfl))
  | (refine Fo.pcall (v' := ?_) hn rfl (by simp only [↓nrmL, nrmZ, Nat.reduceEqDiff, ↓reduceIte, Nat.reduceAdd, Int.reduceBEq, Int.reduceBNe, h0, h02, bne, hfit, hu0, hu1, hww2, List.map]; rfl) rfl ?hv fun _ _ => ?_; case hv => rfl)
  | refine bA ?_
  | refine nw ?_
  | (refine Fo.now rfl rfl (by simp only [↓nrmL, nrmZ, Nat.reduceEqDiff, ↓reduceIte, Nat.reduceAdd, Int.reduceBEq, Int.reduceBNe, h0, h02, bne, hfit, hu0, hu1, hww2]; rfl) ?_)
  | refine nl hKF ?_
  | refine sq ?_
  | refine rg fun KF hKF => ?_
  | refine cf rfl ?_
  | refine sk ?_
 refine WpO.do (WpX.conD hn rfl rfl (by simp only [↓nrmL, nrmZ, Nat.reduceEqDiff, ↓reduceIte, Nat.reduceAdd, Int.reduceBEq, Int.reduceBNe, List.map] <;> rfl) (K_stTwin (l := l) (by have : a2 * b ≤ 640 * 640 := Nat.mul_le_mul ha hb; omega)) fun v H6 h5 => ?_)
 obtain ⟨sp, e2, hsp, hfsp, hwsp, hxsp⟩ := h5
 subst e2
 dsimp only at hsp
 haveI : ExtI _ H6 := ⟨hxsp⟩
 haveI := hsp.one
 repeat first
  | refine mI ?_
  | (refine Fo.ldN rfl rfl (by simp only [↓nrmL, nrmZ, Nat.reduceEqDiff, ↓reduceIte, Nat.reduceAdd, Int.reduceBEq, Int.reduceBNe]; rfl) ?_)
  | refine nw ?_
  | (refine so rfl (rfl : _ = AVal.agg _) rfl rfl rfl (by simp only [↓nrmL, nrmZ, Nat.reduceEqDiff, ↓reduceIte, Nat.reduceAdd, Int.reduceBEq, Int.reduceBNe]; rfl) ?_)
  | refine nl hKF ?_
  | refine sq ?_
  | refine rg fun KF hKF => ?_
  | dsimp only [cond_true, cond_false]
 refine WpO.do (WpX.conD hn rfl rfl (by simp only [↓nrmL, nrmZ, Nat.reduceEqDiff, ↓reduceIte, Nat.reduceAdd, Int.reduceBEq, Int.reduceBNe, List.map] <;> rfl) (K_commonF (q := q) (up := (cu : Int)) (w := a2) (h := b) (w' := a2) (h' := c) (p := p) (p' := p2)) fun v H7 h5 => ?_)
 obtain ⟨r6, r7, r5, r4, e2, k6, k7, k5, k4, hx7, g6, g7, g5, g4⟩ := h5
 subst e2
 haveI : ExtI _ H7 := ⟨hx7⟩
 have k11 : HasRow H7 H6.n [.int .i64 a2, .int .i64 b, sp] true (2 * 24) := inferInstance
 have k4i : HasRow H7 (AHeap.n (H.push (.row [.int .i64 a2, .int .i64 b, p] true (2 * 24)))) [.int .i64 a2, .int .i64 c, p2] true (2 * 24) := inferInstance
 have k8 : HasRow H7 (AHeap.n (((H.push (.row [.int .i64 a2, .int .i64 b, p] true (2 * 24))).push (.row [.int .i64 a2, .int .i64 c, p2] true (2 * 24))).push (.row [q] true (2 * 43)))) [.int .i64 0, .int .i64 0, .nslice] true (2 * 24) := inferInstance
 have kp : BytesI H7 p2 s := inferInstance
 have ksp : BytesI H7 sp l := inferInstance
 have wsp : WrS H7 sp := inferInstance
 have kps : SliceAt H7 q 1 ls.length ps := inferInstance
 have kq4 : IntsI H7 q4 m := inferInstance
 haveI := hfsp
 have n11 : RowNe sp H6.n := inferInstance
 have n4 : RowNe sp (AHeap.n (H.push (.row [.int .i64 a2, .int .i64 b, p] true (2 * 24)))) := inferInstance
 have n8 : RowNe sp (AHeap.n (((H.push (.row [.int .i64 a2, .int .i64 b, p] true (2 * 24))).push (.row [.int .i64 a2, .int .i64 c, p2] true (2 * 24))).push (.row [q] true (2 * 43)))) := inferInstance
 have s1 : SepS p2 sp := inferInstance
 have s2 : SepS q sp := inferInstance
 have s3 : SepS q4 sp := inferInstance
 have n6 : RowNe sp r6 := ⟨fun _ _ _ _ _ e h => by have := hsp.lt e; simp only [AHeap.push, AHeap.set] at g6; omega⟩
 have n7 : RowNe sp r7 := ⟨fun _ _ _ _ _ e h => by have := hsp.lt e; simp only [AHeap.push, AHeap.set] at g7; omega⟩
 have n5 : RowNe sp r5 := ⟨fun _ _ _ _ _ e h => by have := hsp.lt e; simp only [AHeap.push, AHeap.set] at g5; omega⟩
 have n4' : RowNe sp r4 := ⟨fun _ _ _ _ _ e h => by have := hsp.lt e; simp only [AHeap.push, AHeap.set] at g4; omega⟩
 have hx07 : Ext H H7 := Ext0.ext
 have fsp : FreshS H sp := hfsp.weak
 rw [hl5] at kps
 have hu640 : cu ≤ 640 := by omega
 have key : ∀ fr : AFrame, fr 12 = .ptr H6.n 0 → fr 5 = .ptr (AHeap.n (H.push (.row [.int .i64 a2, .int .i64 b, p] true (2 * 24)))) 0 → ∃ v H3, callN ext prog n 105 [.yield (H7.n + 1), .ptr r6 0, .ptr r7 0, .ptr r5 0, .ptr r4 0] ((H7.push .dead).push (.loop (resR H7.n fr))) = some (v, H3) ∧ JS H7 (H7.n + 1) (resR H7.n fr) sp (mixP (rstP a2 a2 (loN m cu a2)) (rstF l s a2 c m cu) (fun k => l.getD k 0) (a2 * b)) H3 := fun fr h11 h4 =>
  K_common (a := a2) (b := b) (h := c) (up := cu) (m := m) (r := H7.n + 1) (p6 := q) (q4 := q4) (sp := p2) (ip := p) (ps := ps) (J := fun x y H => JS H7 (H7.n + 1) (resR H7.n fr) sp (mixP (rstP a2 x y) (rstF l s a2 c m cu) (fun k => l.getD k 0) (a2 * b)) H) (D := 1) ha hb hc640 hu640 hm hq4
   (fun x y H4 hJ => ⟨hJ.row k6 n6, hJ.slice kps s2, hJ.slice kq4 s3, hJ.row k7 n7, hJ.row k5 n5, hJ.row k4 n4'⟩)
   (fun x y H4 hx hl hy hJ => by rw [mixP_congr (Q := rstP a2 x y) fun k hk => by rcases rstP_col (l := l) (s := s) (h := c) hx hy hk with h | h; exact Or.inl h.symm; exact Or.inr h]; exact hJ)
   (fun x y H4 hx hl hyb hy1 hy2 hJ k hk => by
    have hlt1 := idx_lt hx hyb
    have hlt2 : (y + cu - (m.getD x 0).toNat) * a2 + x < a2 * c := idx_lt hx (by omega)
    have hjl : (y + cu - (m.getD x 0).toNat) * a2 + x < s.length := by omega
    obtain ⟨H', y1, hJ2⟩ := round_rest (i := y * a2 + x) (j := (y + cu - (m.getD x 0).toNat) * a2 + x) h11 h4 (hJ.row k11 n11) (hJ.row k4i n4) (hJ.slice kp s1) n11 n4 s1 (Nat.le_succ _) hJ (by rw [mixP_length]; exact hlt1) hjl hk
    refine ⟨H', y1, ?_⟩
    have e : rstF l s a2 c m cu (y * a2 + x) = s[(y + cu - (m.getD x 0).toNat) * a2 + x] := by
     obtain ⟨d1, d2⟩ := rct_at (y := y) hx
     rw [rstF, d1, d2, if_pos (by omega), List.getD_eq_getElem?_getD, List.getElem?_eq_getElem hjl, Option.getD_some]
    rw [← e, mixP_set (Q := rstP a2 x (y + 1)) fun k _ => rstP_next hx k] at hJ2
    exact hJ2)
   (by rw [← rst_start hlen]; exact JS.start ksp wsp) n (by omega)
 have key2 : ∀ (fr : AFrame) (P : AVal → AHeap → RLoop → Prop), fr 12 = .ptr H6.n 0 → fr 5 = .ptr (AHeap.n (H.push (.row [.int .i64 a2, .int .i64 b, p] true (2 * 24)))) 0 → (∀ v H3, JS H7 (H7.n + 1) (resR H7.n fr) sp (rstL l s a2 b c m cu) H3 → P v H3 (resR H7.n fr)) →
   ∃ v H3 R, callN ext prog n 105 ([] ++ [.yield (H7.n + 1)] ++ [.ptr r6 0, .ptr r7 0, .ptr r5 0, .ptr r4 0]) ((H7.push .dead).push (.loop ⟨H7.n, 66, fr, [54, 55], resA, resB, 0, .normal⟩)) = some (v, H3) ∧ H3.get (H7.n + 1) = .loop R ∧ (Nat.beq R.st 1 || Nat.beq R.st 4) = false ∧ P v H3 R := fun fr P h11 h4 hP => by
  obtain ⟨v, H3, e3, hJ⟩ := key fr h11 h4
  rw [rst_end ha0] at hJ
  exact ⟨v, H3, resR H7.n fr, e3, hJ.loop.get, rfl, hP v H3 hJ⟩
 refine nl hKF ?_
 refine Wp.block ?_
 dsimp only [cond_true, cond_false]
 refine Wp.range (gf := 105) (fi := []) (ca := [.ptr r6 0, .ptr r7 0, .ptr r5 0, .ptr r4 0]) (vs := []) rfl rfl rfl ?_
 refine key2 _ _ rfl rfl fun v H3 hJ => ?_
 haveI := hJ.loop
 haveI := hJ.px
 haveI := hJ.wr
 haveI := px_ne hJ.px hJ.loop
 have hx03 := hJ.ext hx07 fsp
 have hH7n := hx07.n
 have hn3 := hJ.n
 haveI := hJ.row k11 n11
 haveI := hJ.row k8 n8
 haveI : NeR H6.n (H7.n + 1) := ⟨by have := k11.lt; omega⟩
 haveI : NeR (AHeap.n (((H.push (.row [.int .i64 a2, .int .i64 b, p] true (2 * 24))).push (.row [.int .i64 a2, .int .i64 c, p2] true (2 * 24))).push (.row [q] true (2 * 43)))) (H7.n + 1) := ⟨by have := k8.lt; omega⟩
 haveI : NeR (H7.n + 1) (AHeap.n (((H.push (.row [.int .i64 a2, .int .i64 b, p] true (2 * 24))).push (.row [.int .i64 a2, .int .i64 c, p2] true (2 * 24))).push (.row [q] true (2 * 43)))) := ⟨by have := k8.lt; omega⟩
 haveI : OneV sp := hJ.px.one
 refine sq ?_
 refine rg fun KF hKF => ?_
 refine Fo.ldN rfl rfl (by simp only [↓nrmL, nrmZ, Nat.reduceEqDiff, ↓reduceIte, Nat.reduceAdd, Int.reduceBEq, Int.reduceBNe]; rfl) ?_
 refine so rfl (rfl : _ = AVal.agg _) rfl rfl rfl (by simp only [↓nrmL, nrmZ, Nat.reduceEqDiff, ↓reduceIte, Nat.reduceAdd, Int.reduceBEq, Int.reduceBNe]; rfl) ?_
 refine mI ?_
 refine nl hKF ?_
 refine rt ?_
 dsimp only [cond_true, cond_false]
 refine ⟨trivial, _, takeMarks1 (d := H7.n) (l := H7.n + 1) inferInstance rfl rfl, _, getAllC rfl rfl rfl rfl, _, rfl, sp, rfl, (show BytesI _ sp (rstL l s a2 b c m cu) from inferInstance), fsp, inferInstance, ?_⟩
 refine ⟨by have := hx03.n; simp only [AHeap.set]; exact this, fun s' hs => ?_⟩
 have e8 : s' ≠ AHeap.n (((H.push (.row [.int .i64 a2, .int .i64 b, p] true (2 * 24))).push (.row [.int .i64 a2, .int .i64 c, p2] true (2 * 24))).push (.row [q] true (2 * 43))) := by simp only [AHeap.push]; omega
 rw [set_get_ne (by omega), set_get_ne e8, set_get_ne (by omega)]
 exact hx03.get s' hs
end Go.Am

namespace Go.Am
open Go Go.RowKit
section
variable {call : ACall} {fr : AFrame} {H : AHeap}
theorem exec_pre {x y : ROpd} {p : AVal} {k : IntKind} {n b : Nat} {cs : List AVal} (hx : x.ev fr = p) (hy : y.ev fr = .int k (b : Int)) (hb : b ≤ n) [s : SliceAt H p 1 n cs] :
    ∃ v, (ROp.sliceS 1 x none (some y) none).exec call fr H = some (v, H) ∧ SliceAt H v 1 b (cs.take b) ∧ OneV v ∧ (∀ r off len cap sz, v = .slice r off len cap sz → ∃ off' len' cap' sz', p = .slice r off' len' cap' sz') := by
  have hbd : ∀ y0, b ≤ y0 → aBound y0 (.int k (b : Int)) = some b := by
    intro y0 hy0
    simp only [aBound]
    rw [if_pos (by omega), Int.toNat_natCast]
  rcases s.it with ⟨rfl, rfl, rfl⟩ | ⟨r, off, cap, row, rw, e, rfl, hr, hg, hl, hc, hcap⟩
  · have : b = 0 := by omega
    subst this
    refine ⟨.nslice, ?_, ⟨Or.inl ⟨rfl, rfl, rfl⟩⟩, inferInstance, fun _ _ _ _ _ e => by cases e⟩
    simp only [ROp.exec, hx, Option.map_none, Option.map_some, hy, aSliceS, aBounds, aHigh, capD, hbd 0 (Nat.le_refl _), aLow, M.pure]
  · rw [Nat.mul_one] at hl hc
    have hb0 : aBounds n cap none (some (.int k (b : Int))) none = some (0, b, cap) := by
      simp only [aBounds, aHigh, hbd _ (Nat.le_trans hb hcap), aLow]
    have hs : ∀ cap', b ≤ capD b cap' → SliceAt H (.slice r off b cap' 1) 1 b (cs.take b) := fun cap' h' =>
      ⟨Or.inr ⟨r, off, cap', row, rw, e, rfl, hr, hg, by omega, by rw [Nat.mul_one, ← hc, List.take_take, Nat.min_eq_left hb], h'⟩⟩
    cases cap with
    | some c =>
      simp only [capD] at hcap
      by_cases hc0 : c = 0
      · have : b = 0 := by omega
        subst this
        refine ⟨.slice r off 0 (some 0) 1, ?_, hs _ (Nat.zero_le _), inferInstance, fun _ _ _ _ _ e => by cases e; exact ⟨_, _, _, _, rfl⟩⟩
        simp only [ROp.exec, hx, Option.map_none, Option.map_some, hy, aSliceS, ne_eq, not_true, if_false, hb0, M.pure, if_pos hc0]
      · refine ⟨.slice r off b (some c) 1, ?_, hs _ (by simp only [capD]; omega), inferInstance, fun _ _ _ _ _ e => by cases e; exact ⟨_, _, _, _, rfl⟩⟩
        simp only [ROp.exec, hx, Option.map_none, Option.map_some, hy, aSliceS, ne_eq, not_true, if_false, hb0, M.pure, if_neg hc0, Nat.zero_mul, Nat.add_zero, Nat.sub_zero]
    | none =>
      refine ⟨.slice r off b none 1, ?_, hs _ (Nat.le_refl _), inferInstance, fun _ _ _ _ _ e => by cases e; exact ⟨_, _, _, _, rfl⟩⟩
      have h2 : ¬ row.length < off + n := by omega
      have hrow : aRow r H = some ((row, rw), H) := by simp only [aRow, if_pos hr, hg]
      simp only [ROp.exec, hx, Option.map_none, Option.map_some, hy, aSliceS, ne_eq, not_true, if_false, hb0, Nat.mul_one, Nat.one_ne_zero, M.bind, hrow, if_neg h2, or_true, if_true, M.pure, Nat.add_zero, Nat.sub_zero]
theorem Fo.pre {KF : AFrame → AHeap → Prop} {os : List ROper} {d : Nat} {x y : ROpd} {p : AVal} {k : IntKind} {n b : Nat} {cs : List AVal} (hx : x.ev fr = p) (hy : y.ev fr = .int k (b : Int)) (hb : b ≤ n) [s : SliceAt H p 1 n cs]
    (h : ∀ v, SliceAt H v 1 b (cs.take b) → OneV v → (∀ r off len cap sz, v = .slice r off len cap sz → ∃ off' len' cap' sz', p = .slice r off' len' cap' sz') → WpO call os (upd fr d v) H KF) : WpO call (⟨some d, .sliceS 1 x none (some y) none, none⟩ :: os) fr H KF := by
  obtain ⟨v, h1, h2, h3, h4⟩ := exec_pre (call := call) hx hy hb (s := s)
  exact WpO.step rfl ⟨v, H, h1, h v h2 h3 h4⟩
end
section
variable {P : Program} {H : AHeap} {n : Nat} {t e : TypeId} {cs : List AVal}
end
section
variable {call : ACall} {lf : Nat} {fr : AFrame} {H : AHeap} {Q : RExit → AFrame → AHeap → Prop} {a b : RCode}
theorem Wp.seqE {σ : Type} (L : σ → List (Nat × AVal)) (PH : σ → AHeap → Prop) (h1 : ∀ s g H', PH s H' → Wp call lf b (updL (L s) g) H' Q) (h2 : Wp call lf a fr H fun x fr' H' => match x with | .normal => ∃ s, agrees (L s) fr' ∧ PH s H' | e => Q e fr' H') : Wp call lf (.seq a b) fr H Q :=
  Wp.seq (Wp.mono h2 fun x fr' H' h => by
    cases x with
    | normal =>
      obtain ⟨s, h3, h4⟩ := h
      have := h1 s fr' H' h4
      rwa [updL_agrees h3] at this
    | exit id => exact h
    | ret => exact h)
end
end Go.Am

namespace Go.Am
open Go
section
variable {call : ACall} {lf : Nat} {fr : AFrame} {H : AHeap} {Q : RExit → AFrame → AHeap → Prop} {a b : RCode}
end
end Go.Am

namespace Go.Am
open Go
attribute [local irreducible] Wp WpO WpX WpE
theorem u8m (c : UInt8) (k : Nat) (hk : 0 < k) : IntKind.i64.wrap ((c.toNat : Int).tmod (k : Int)) = ((c.toNat % k : Nat) : Int) := by
 have e : (c.toNat : Int).tmod (k : Int) = ((c.toNat % k : Nat) : Int) := by rw [Int.tmod_eq_emod_of_nonneg (by omega)]; rfl
 have := Nat.mod_lt c.toNat hk
 have := c.toNat_lt
 rw [e, w64 (by have := Nat.mod_le c.toNat k; omega)]
theorem min_nat {a b : Nat} : (if (b : Int) < (a : Int) then (b : Int) else (a : Int)) = ((min a b : Nat) : Int) := by split <;> omega
def maxI (l : List Int) : Nat → Int
 | 0 => 0
 | i + 1 => if l.getD i 0 > maxI l i then l.getD i 0 else maxI l i
def minI (l : List Int) : Nat → Int
 | 0 => 0
 | i + 1 => if l.getD i 0 < minI l i then l.getD i 0 else minI l i
theorem max_ge {l : List Int} : ∀ n i, i < n → l.getD i 0 ≤ maxI l n
 | n + 1, i, h => by
  simp only [maxI]
  by_cases e : i = n
  ·subst e; split <;> omega
  ·have := max_ge (l := l) n i (by omega); split <;> omega
theorem min_le {l : List Int} : ∀ n i, i < n → minI l n ≤ l.getD i 0
 | n + 1, i, h => by
  simp only [minI]
  by_cases e : i = n
  ·subst e; split <;> omega
  ·have := min_le (l := l) n i (by omega); split <;> omega
theorem max_in {l : List Int} {c : Int} (hc : 0 ≤ c) (h : ∀ i, l.getD i 0 ≤ c) : ∀ n, 0 ≤ maxI l n ∧ maxI l n ≤ c
 | 0 => ⟨Int.le_refl _, hc⟩
 | n + 1 => by
  have := max_in hc h n
  have := h n
  simp only [maxI]; split <;> omega
theorem min_in {l : List Int} {c : Int} (hc : 0 ≤ c) (h : ∀ i, -c ≤ l.getD i 0) : ∀ n, minI l n ≤ 0 ∧ -c ≤ minI l n
 | 0 => ⟨Int.le_refl _, by simp only [minI]; omega⟩
 | n + 1 => by
  have := min_in hc h n
  have := h n
  simp only [minI]; split <;> omega
class Z0 (l : List Int) : Prop where
 hp : 0 < l.length
 h0 : l.getD 0 0 = 0
 hs : l.length ≤ 640
theorem max_succ {l : List Int} {i : Nat} (h : i < l.length) : (if l[i] > maxI l i then l[i] else maxI l i) = maxI l (i + 1) := by
 simp only [maxI, getD_at h]
theorem min_succ {l : List Int} {i : Nat} (h : i < l.length) : (if l[i] < minI l i then l[i] else minI l i) = minI l (i + 1) := by
 simp only [minI, getD_at h]
instance K_Max {p : AVal} {H : AHeap} {l : List Int} [hp : IntsI H p l] [hm : Z0 l] : PureCon ext prog 80 [p] H 1 (.int .i64 (maxI l l.length)) := ⟨by
 refine con_of (show prog 80 = some c80 from rfl) rfl rfl fun n hn => ?_
 have hpos := hm.hp
 have hs := hm.hs
 have h0 : l[0] = 0 := by rw [← getD_at hpos]; exact hm.h0
 have h1 : decide (((l.length : Nat) : Int) < 1) = false := decide_eq_false (by omega)
 have e1 : maxI l 1 = 0 := by simp only [maxI, getD_at hpos, h0]; rfl
 repeat first
  | refine mI ?_
  | (refine mv ?_)
  | (refine bn rfl rfl rfl (by simp only [h1, h0]; rfl) ?_)
  | (refine ln (by simp only [↓nrmL, nrmK, Nat.reduceEqDiff, ↓reduceIte]; rfl) ?_)
  | (refine Fo.idx (by simp only [↓nrmL, nrmK, Nat.reduceEqDiff, ↓reduceIte]; rfl) rfl ?_ (by simp only [↓nrmL, nrmZ, Nat.reduceEqDiff, ↓reduceIte, Nat.reduceAdd, Int.reduceBEq, Int.reduceBNe, h1, h0]; rfl) ?_; (focus omega))
  | (refine Fo.ldI rfl ?_ (by simp only [h1, h0]; rfl) ?_; (focus omega))
  | refine nl hKF ?_
  | refine sq ?_
  | refine rg fun KF hKF => ?_
  | refine cf rfl ?_
  | refine sk ?_
  | refine Wp.block ?_
  | dsimp only [cond_true, cond_false]
 refine Wp.loopS [3, 4, 12, 13, 14, 15, 16, 17, 18, 19, 20, 21, 22, 23] (fun i : Nat => [(4, .int .i64 i), (3, .int .i64 (maxI l i))]) (fun H3 i H2 => 1 ≤ i ∧ i ≤ l.length ∧ H2 = H3) (fun i => l.length - i) 1 rfl (fun _ => rfl) ⟨rfl, by simp only [↓nrmL, nrmZ, Nat.reduceEqDiff, ↓reduceIte, Nat.reduceAdd, Int.reduceBEq, Int.reduceBNe]; rw [e1], trivial⟩ ⟨Nat.le_refl _, hpos, rfl⟩ (by unfold fuel0 at hn; omega) ?_
 rintro i g H2 ⟨hi1, hi, rfl⟩
 simp only [↓nrmL, nrmZ, Nat.reduceEqDiff, ↓reduceIte, Nat.reduceAdd, Int.reduceBEq, Int.reduceBNe]
 cases hc : decide ((i : Int) < (l.length : Int))
 ·have hil : i = l.length := by have := of_decide_eq_false hc; omega
  repeat first
   | refine mI ?_
   | (refine mv ?_)
   | (refine bn rfl rfl rfl (by simp only [hc]; rfl) ?_)
   | (refine ln (by simp only [↓nrmL, nrmK, Nat.reduceEqDiff, ↓reduceIte]; rfl) ?_)
   | refine nl hKF ?_
   | refine sq ?_
   | refine rg fun KF hKF => ?_
   | refine cf rfl ?_
   | refine rt ?_
   | refine xi ?_
   | dsimp only [cond_true, cond_false]
  refine rz trivial ?_
  exact ⟨by rw [hil]; rfl, Ext0.ext⟩
 ·have hil : i < l.length := by have := of_decide_eq_true hc; omega
  have hw1 := wa1 (a := i) (by omega)
  repeat first
   | refine mI ?_
   | (refine mv ?_)
   | (refine bn rfl rfl rfl (by simp only [hc]; rfl) ?_)
   | refine b0 ?_
   | (refine ln (by simp only [↓nrmL, nrmK, Nat.reduceEqDiff, ↓reduceIte]; rfl) ?_)
   | (refine Fo.idx (by simp only [↓nrmL, nrmK, Nat.reduceEqDiff, ↓reduceIte]; rfl) rfl ?_ (by simp only [↓nrmL, nrmZ, Nat.reduceEqDiff, ↓reduceIte, Nat.reduceAdd, Int.reduceBEq, Int.reduceBNe, hc]; rfl) ?_; (focus omega))
   | (refine Fo.ldI rfl ?_ rfl ?_; (focus omega))
   | (refine Fo.now rfl rfl (by simp only [hc]; rfl) ?_)
   | refine nl hKF ?_
   | refine sq ?_
   | refine rg fun KF hKF => ?_
   | refine ct rfl ?_
   | refine sk ?_
   | refine Wp.block ?_
   | dsimp only [cond_true, cond_false]
  refine ⟨i + 1, by omega, ⟨by simp only [↓nrmL, nrmZ, Nat.reduceEqDiff, ↓reduceIte, Nat.reduceAdd, Int.reduceBEq, Int.reduceBNe]; rw [hw1], by simp only [↓nrmL, nrmZ, Nat.reduceEqDiff, ↓reduceIte, Nat.reduceAdd, Int.reduceBEq, Int.reduceBNe]; rw [← max_succ hil], trivial⟩, by omega, by omega, rfl⟩⟩
instance K_Min {p : AVal} {H : AHeap} {l : List Int} [hp : IntsI H p l] [hm : Z0 l] : PureCon ext prog 79 [p] H 1 (.int .i64 (minI l l.length)) := ⟨by
 refine con_of (show prog 79 = some c79 from rfl) rfl rfl fun n hn => ?_
 have hpos := hm.hp
 have hs := hm.hs
 have h0 : l[0] = 0 := by rw [← getD_at hpos]; exact hm.h0
 have h1 : decide (((l.length : Nat) : Int) < 1) = false := decide_eq_false (by omega)
 have e1 : minI l 1 = 0 := by simp only [minI, getD_at hpos, h0]; rfl
 repeat first
  | refine mI ?_
  | (refine mv ?_)
  | (refine bn rfl rfl rfl (by simp only [h1, h0]; rfl) ?_)
  | (refine ln (by simp only [↓nrmL, nrmK, Nat.reduceEqDiff, ↓reduceIte]; rfl) ?_)
  | (refine Fo.idx (by simp only [↓nrmL, nrmK, Nat.reduceEqDiff, ↓reduceIte]; rfl) rfl ?_ (by simp only [↓nrmL, nrmZ, Nat.reduceEqDiff, ↓reduceIte, Nat.reduceAdd, Int.reduceBEq, Int.reduceBNe, h1, h0]; rfl) ?_; (focus omega))
  | (refine Fo.ldI rfl ?_ (by simp only [h1, h0]; rfl) ?_; (focus omega))
  | refine nl hKF ?_
  | refine sq ?_
  | refine rg fun KF hKF => ?_
  | refine cf rfl ?_
  | refine sk ?_
  | refine Wp.block ?_
  | dsimp only [cond_true, cond_false]
 refine Wp.loopS [3, 4, 12, 13, 14, 15, 16, 17, 18, 19, 20, 21, 22, 23] (fun i : Nat => [(4, .int .i64 i), (3, .int .i64 (minI l i))]) (fun H3 i H2 => 1 ≤ i ∧ i ≤ l.length ∧ H2 = H3) (fun i => l.length - i) 1 rfl (fun _ => rfl) ⟨rfl, by simp only [↓nrmL, nrmZ, Nat.reduceEqDiff, ↓reduceIte, Nat.reduceAdd, Int.reduceBEq, Int.reduceBNe]; rw [e1], trivial⟩ ⟨Nat.le_refl _, hpos, rfl⟩ (by unfold fuel0 at hn; omega) ?_
 rintro i g H2 ⟨hi1, hi, rfl⟩
 simp only [↓nrmL, nrmZ, Nat.reduceEqDiff, ↓reduceIte, Nat.reduceAdd, Int.reduceBEq, Int.reduceBNe]
 cases hc : decide ((i : Int) < (l.length : Int))
 ·have hil : i = l.length := by have := of_decide_eq_false hc; omega
  repeat first
   | refine mI ?_
   | (refine mv ?_)
   | (refine bn rfl rfl rfl (by simp only [hc]; rfl) ?_)
   | (refine ln (by simp only [↓nrmL, nrmK, Nat.reduceEqDiff, ↓reduceIte]; rfl) ?_)
   | refine nl hKF ?_
   | refine sq ?_
   | refine rg fun KF hKF => ?_
   | refine cf rfl ?_
   | refine rt ?_
   | refine xi ?_
   | dsimp only [cond_true, cond_false]
  refine rz trivial ?_
  exact ⟨by rw [hil]; rfl, Ext0.ext⟩
 ·have hil : i < l.length := by have := of_decide_eq_true hc; omega
  have hw1 := wa1 (a := i) (by omega)
  repeat first
   | refine mI ?_
   | (refine mv ?_)
   | (refine bn rfl rfl rfl (by simp only [hc, Bool.false_eq_true, if_false]; rfl) ?_)
   | refine b0 ?_
   | (refine ln (by simp only [↓nrmL, nrmK, Nat.reduceEqDiff, ↓reduceIte]; rfl) ?_)
   | (refine Fo.idx (by simp only [↓nrmL, nrmK, Nat.reduceEqDiff, ↓reduceIte]; rfl) rfl ?_ (by simp only [↓nrmL, nrmZ, Nat.reduceEqDiff, ↓reduceIte, Nat.reduceAdd, Int.reduceBEq, Int.reduceBNe, hc, Bool.false_eq_true, if_false]; rfl) ?_; (focus omega))
   | (refine Fo.ldI rfl ?_ rfl ?_; (focus omega))
   | (refine Fo.now rfl rfl (by simp only [hc, Bool.false_eq_true, if_false]; rfl) ?_)
   | refine nl hKF ?_
   | refine sq ?_
   | refine rg fun KF hKF => ?_
   | refine ct rfl ?_
   | refine sk ?_
   | refine Wp.block ?_
   | dsimp only [cond_true, cond_false]
  refine ⟨i + 1, by omega, ⟨by simp only [↓nrmL, nrmZ, Nat.reduceEqDiff, ↓reduceIte, Nat.reduceAdd, Int.reduceBEq, Int.reduceBNe]; rw [hw1], by simp only [↓nrmL, nrmZ, Nat.reduceEqDiff, ↓reduceIte, Nat.reduceAdd, Int.reduceBEq, Int.reduceBNe]; first | rw [← min_succ hil] | (simp only [Bool.false_eq_true, if_false]; rw [← min_succ hil]), trivial⟩, by omega, by omega, rfl⟩⟩
structure Wave (w : Nat) (L : List Int) (k : Nat) : Prop where
 len : L.length = w
 near : ∀ x, x + 1 < w → L.getD (x + 1) 0 - L.getD x 0 ≤ 1 ∧ L.getD x 0 - L.getD (x + 1) 0 ≤ 1
 low : ∀ x, -(k : Int) ≤ L.getD x 0 ∧ L.getD x 0 ≤ (k : Int)
 zero : L.getD 0 0 = 0
structure WaveX (w : Nat) (L : List Int) (k X : Nat) (Y : Int) : Prop extends Wave w L k where
 tail : ∀ i, X ≤ i → i < w → L.getD i 0 = Y
 y : -(k : Int) ≤ Y ∧ Y ≤ (k : Int)
theorem waveX_zero (w : Nat) : WaveX w (List.replicate w 0) 0 0 0 := by
 have h : ∀ x, (List.replicate w (0 : Int)).getD x 0 = 0 := fun x => by
  rw [List.getD_eq_getElem?_getD, List.getElem?_replicate]; split <;> rfl
 exact ⟨⟨List.length_replicate, fun x _ => by rw [h, h]; omega, fun x => by rw [h]; omega, h 0⟩, fun i _ _ => h i, by omega⟩
def setR (L : List Int) (X i : Nat) (Y : Int) : List Int := (List.range L.length).map fun j => if X ≤ j ∧ j < i then Y else L.getD j 0
theorem setR_len (L : List Int) (X i : Nat) (Y : Int) : (setR L X i Y).length = L.length := by simp [setR]
theorem setR_at {L : List Int} {X i j : Nat} {Y : Int} (h : j < L.length) : (setR L X i Y).getD j 0 = if X ≤ j ∧ j < i then Y else L.getD j 0 := by
 rw [getD_at (by rw [setR_len]; exact h)]
 simp [setR]
theorem setR_zero (L : List Int) (X : Nat) (Y : Int) : setR L X X Y = L := by
 apply List.ext_getElem
 ·simp [setR]
 ·intro j h1 h2
  simp only [setR, List.getElem_map, List.getElem_range]
  rw [if_neg (by omega), getD_at h2]
theorem setR_set {L : List Int} {X i : Nat} {Y : Int} (hX : X ≤ i) : (setR L X i Y).set i Y = setR L X (i + 1) Y := by
 apply List.ext_getElem
 ·simp [setR]
 ·intro j h1 h2
  rw [List.getElem_set]
  simp only [setR, List.getElem_map, List.getElem_range]
  by_cases e : i = j
  ·subst e; rw [if_pos rfl, if_pos ⟨hX, by omega⟩]
  ·rw [if_neg e]
   by_cases h3 : X ≤ j ∧ j < i
   ·rw [if_pos h3, if_pos ⟨h3.1, by omega⟩]
   ·rw [if_neg h3, if_neg (by omega)]
theorem getD_out {L : List Int} {x : Nat} (h : L.length ≤ x) : L.getD x 0 = 0 := by rw [List.getD_eq_getElem?_getD, List.getElem?_eq_none h]; rfl
theorem wave_bend {w k X X' : Nat} {L : List Int} {Y Y' : Int} (h : WaveX w L k X Y) (hX : X + 8 ≤ X') (hw : X' < w) (hy : Y' = Y - 1 ∨ Y' = Y ∨ Y' = Y + 1) : WaveX w (setR L X' w Y') (k + 1) X' Y' := by
 have hy2 := h.y
 have hl := h.len
 have at' : ∀ j, j < w → (setR L X' w Y').getD j 0 = if X' ≤ j then Y' else L.getD j 0 := fun j hj => by
  rw [setR_at (by omega)]
  by_cases e : X' ≤ j
  ·rw [if_pos ⟨e, hj⟩, if_pos e]
  ·rw [if_neg (fun q => e q.1), if_neg e]
 refine ⟨⟨by rw [setR_len]; exact hl, fun x hx => ?_, fun x => ?_, ?_⟩, fun i hi hiw => ?_, by omega⟩
 ·rw [at' _ hx, at' _ (by omega)]
  have hn := h.near x hx
  by_cases e1 : X' ≤ x
  ·rw [if_pos e1, if_pos (by omega)]; omega
  ·by_cases e2 : X' ≤ x + 1
   ·rw [if_neg e1, if_pos e2, h.tail x (by omega) (by omega)]; omega
   ·rw [if_neg e1, if_neg e2]; exact hn
 ·by_cases hx : x < w
  ·rw [at' _ hx]
   have := h.low x
   split <;> omega
  ·rw [getD_out (by rw [setR_len]; omega)]; omega
 ·rw [at' _ (by omega), if_neg (by omega)]; exact h.zero
 ·rw [at' _ hiw, if_pos hi]
end Go.Am

namespace Go.Am
open Go
attribute [local irreducible] Wp WpO WpX WpE
theorem w8 {x : Int} (h : 0 ≤ x ∧ x < 256) : IntKind.u8.wrap x = x := by
 simp only [IntKind.wrap, IntKind.bits, IntKind.signed]
 simp
 omega
theorem u8q (c : UInt8) : IntKind.u8.wrap ((c.toNat : Int).tdiv 16) = ((c.toNat / 16 : Nat) : Int) := by
 rw [show (c.toNat : Int).tdiv 16 = ((c.toNat / 16 : Nat) : Int) from rfl]
 have := c.toNat_lt
 exact w8 (by omega)
theorem natm (a k : Nat) (hk : 0 < k) (ha : a < 2 ^ 40) : IntKind.i64.wrap ((a : Int).tmod (k : Int)) = ((a % k : Nat) : Int) := by
 rw [show (a : Int).tmod (k : Int) = ((a % k : Nat) : Int) from rfl]
 have := Nat.mod_le a k
 exact w64 (by omega)
def lineL (lo : Nat) (L : List Int) (i k : Nat) : List Int := (List.range L.length).map fun x => 5 + (lo : Int) + 36 * i + 6 * k + L.getD x 0
def staveL (lo : Nat) (L : List Int) (i : Nat) : List (List Int) := (List.range 5).map (lineL lo L i)
structure StvR (H : AHeap) (sp : AVal) (ls : List (List Int)) (B : Nat) : Prop where
 it : ∃ r ps e, sp = .slice r 0 ls.length none 1 ∧ HasRow H r ps true e ∧ e / 2 = 25 ∧ ps.length = ls.length ∧ B ≤ r ∧ ∀ j (h : j < ls.length), ∃ rj, ps[j]? = some (.slice rj 0 ls[j].length (some ls[j].length) 1) ∧ HasRow H rj (cellsI ls[j]) true (2 * 3) ∧ B ≤ rj
theorem StvR.keep {H H' : AHeap} {sp : AVal} {ls : List (List Int)} {B : Nat} (h : StvR H sp ls B) (hn : H.n ≤ H'.n) (hg : ∀ s cs e, s < H.n → B ≤ s → H.get s = .row cs true e → (e / 2 = 25 ∨ e = 2 * 3) → H'.get s = H.get s) : StvR H' sp ls B := by
 obtain ⟨r, ps, e, h1, h2, h3, h4, h5, h6⟩ := h.it
 refine ⟨r, ps, e, h1, ⟨Nat.lt_of_lt_of_le h2.lt hn, by rw [hg r ps e h2.lt h5 h2.get (Or.inl h3)]; exact h2.get⟩, h3, h4, h5, fun j hj => ?_⟩
 obtain ⟨rj, a1, a2, a3⟩ := h6 j hj
 exact ⟨rj, a1, ⟨Nat.lt_of_lt_of_le a2.lt hn, by rw [hg rj _ _ a2.lt a3 a2.get (Or.inr rfl)]; exact a2.get⟩, a3⟩
class RowLt (p : AVal) (B : Nat) : Prop where
 lt : ∀ r off len cap sz, p = .slice r off len cap sz → r < B
structure Lns (H : AHeap) (ps : List AVal) (ls : List (List Int)) (B : Nat) : Prop where
 len : ps.length = ls.length
 it : ∀ j (h : j < ls.length), ∃ rj, ps[j]? = some (.slice rj 0 ls[j].length (some ls[j].length) 1) ∧ HasRow H rj (cellsI ls[j]) true (2 * 3) ∧ B ≤ rj
theorem Lns.keep {H H' : AHeap} {ps : List AVal} {ls : List (List Int)} {B : Nat} (h : Lns H ps ls B) (hn : H.n ≤ H'.n) (hg : ∀ s cs, s < H.n → B ≤ s → H.get s = .row cs true (2 * 3) → H'.get s = H.get s) : Lns H' ps ls B := ⟨h.len, fun j hj => by
 obtain ⟨rj, a1, a2, a3⟩ := h.it j hj
 exact ⟨rj, a1, ⟨Nat.lt_of_lt_of_le a2.lt hn, by rw [hg rj _ a2.lt a3 a2.get]; exact a2.get⟩, a3⟩⟩
theorem Lns.snoc {H : AHeap} {ps : List AVal} {ls : List (List Int)} {B r : Nat} {l : List Int} (h : Lns H ps ls B) (hr : HasRow H r (cellsI l) true (2 * 3)) (hB : B ≤ r) : Lns H (ps ++ [.slice r 0 l.length (some l.length) 1]) (ls ++ [l]) B := by
 refine ⟨by simp [h.len], fun j hj => ?_⟩
 have hl := h.len
 by_cases e : j < ls.length
 ·obtain ⟨rj, a1, a2, a3⟩ := h.it j e
  rw [List.getElem_append_left e]
  exact ⟨rj, by rw [List.getElem?_append_left (by omega)]; exact a1, a2, a3⟩
 ·have ej : j = ls.length := by simp at hj; omega
  subst ej
  simp only [List.getElem_append_right (Nat.le_refl _), Nat.sub_self, List.getElem_cons_zero]
  exact ⟨r, by rw [← hl, List.getElem?_append_right (Nat.le_refl _), Nat.sub_self]; rfl, hr, hB⟩
theorem Lns.stv {H : AHeap} {sp : AVal} {ps : List AVal} {ls : List (List Int)} {B : Nat} (h : Lns H ps ls B) (ho : OwnS H sp 1 ls.length ps 25) (h0 : 0 < ls.length) (hf : ∀ r off len cap sz, sp = .slice r off len cap sz → B ≤ r) : StvR H sp ls B := by
 rcases ho.it with ⟨_, h1, _⟩ | ⟨r, e, h1, h2, h3, h4, h5, h6⟩
 ·omega
 ·exact ⟨r, ps, e, h1, ⟨h2, h3⟩, h4, h.len, hf _ _ _ _ _ h1, h.it⟩
end Go.Am

namespace Go.Am
open Go
attribute [local irreducible] Wp WpO WpX WpE
theorem Wave.mono {w k k' : Nat} {L : List Int} (h : Wave w L k) (hk : k ≤ k') : Wave w L k' := ⟨h.len, h.near, fun x => by have := h.low x; omega, h.zero⟩
theorem cellsB_takeW (l : List UInt8) (n : Nat) : (cellsB l).take n = cellsB (l.take n) := by simp [cellsB, List.map_take]
section
variable {call : ACall} {fr : AFrame} {H : AHeap} {K : AVal → AHeap → Prop}
theorem WpX.mkR {e : TypeId} {x y : ROpd} {k k' : IntKind} {n : Nat} (hx : x.ev fr = .int k (n : Int)) (hy : y.ev fr = .int k' (n : Int)) (hn : n ≤ 2 ^ 40) (h : K (.slice H.n 0 n (some n) 1) (H.push (.row (cellsI (List.replicate n 0)) true (2 * e)))) : WpX (.makeSlice e [.int .i64 0] 8 x y) call fr H K := by
 refine WpX.now (exec_mk hx hy (by omega)) ?_
 rw [Int.toNat_natCast, mk_ints]
 exact h
theorem WpX.stR {a x : ROpd} {r j : Nat} {l : List Int} {b : Int} {e : TypeId} (ha : a.ev fr = .ptr r j) (hx : x.ev fr = .int .i64 b) [hg : HasRow H r (cellsI l) true e] (hj : j < l.length) (h : K aundef (H.set r (.row (cellsI (l.set j b)) true e))) : WpX (.store 1 a x) call fr H K := by
 refine WpX.store ha hx rfl hg.lt hg.get (by simp only [AVal.cells, List.length_singleton, cellsI_length]; omega) rfl ?_
 rw [← set_ints] at h
 exact h
end
theorem row_ints {H : AHeap} {r n : Nat} {l : List Int} {w : Bool} {e : TypeId} (h : HasRow H r (cellsI l) w e) (hn : l.length = n) : IntsI H (.slice r 0 n (some n) 1) l := by
 subst hn
 exact ⟨Or.inr ⟨r, 0, some l.length, cellsI l, w, e, rfl, h.lt, h.get, by rw [cellsI_length]; omega, by rw [List.drop_zero, Nat.mul_one, ← cellsI_length l, List.take_length], Nat.le_refl _⟩⟩
instance row_one {H : AHeap} {r : Nat} {a : AVal} {rw : Bool} {ty : TypeId} [h : HasRow H r [a] rw ty] : SliceAt H (.slice r 0 1 (some 1) 1) 1 1 [a] := ⟨Or.inr ⟨r, 0, some 1, _, rw, ty, rfl, h.lt, h.get, by simp, rfl, Nat.le_refl _⟩⟩
def fillI (f : Nat → Int) (x n : Nat) : List Int := (List.range n).map fun t => if t < x then f t else 0
theorem fillI_len (f : Nat → Int) (x n : Nat) : (fillI f x n).length = n := by simp [fillI]
theorem fillI_zero (f : Nat → Int) (n : Nat) : fillI f 0 n = List.replicate n 0 := by
 apply List.ext_getElem <;> simp [fillI]
theorem fillI_set {f : Nat → Int} {x n : Nat} : (fillI f x n).set x (f x) = fillI f (x + 1) n := by
 apply List.ext_getElem
 ·simp [fillI]
 ·intro j h1 h2
  rw [List.getElem_set]
  simp only [fillI, List.getElem_map, List.getElem_range]
  by_cases e : x = j
  ·subst e; rw [if_pos rfl, if_pos (by omega)]
  ·rw [if_neg e]
   by_cases h3 : j < x
   ·rw [if_pos h3, if_pos (by omega)]
   ·rw [if_neg h3, if_neg (by omega)]
theorem fillI_all (f : Nat → Int) (n : Nat) : fillI f n n = (List.range n).map f := by
 unfold fillI
 apply List.map_congr_left
 intro t ht
 rw [if_pos (List.mem_range.1 ht)]
theorem ExtP.setN {a b : AHeap} {p : AVal} {s : Nat} {o : AObj} (h : ExtP a b p) (hs : a.n ≤ s) : ExtP a (b.set s o) p := ⟨h.n, fun r hr hp => by rw [set_get_ne (by omega)]; exact h.get r hr hp⟩
theorem ExtP.pushN {a b : AHeap} {p : AVal} {o : AObj} (h : ExtP a b p) : ExtP a (b.push o) p := ⟨by have := h.n; simp only [AHeap.push]; omega, fun r hr hp => by have := h.n; rw [push_get_lt (by omega)]; exact h.get r hr hp⟩
theorem ExtP.other {a b c : AHeap} {p q : AVal} (h : ExtP a b p) (k : ExtP b c q) (hq : ∀ r off len cap sz, q = .slice r off len cap sz → a.n ≤ r) : ExtP a c p := ⟨Nat.le_trans h.n k.n, fun r hr hp => by
 rw [k.get r (Nat.lt_of_lt_of_le hr h.n) ⟨fun r' _ _ _ _ e => by have := hq _ _ _ _ _ e; omega⟩]
 exact h.get r hr hp⟩
theorem OwnS.tne {H : AHeap} {p : AVal} {sz n s : Nat} {cs cs' : List AVal} {e e' : TypeId} {rw : Bool} (h : OwnS H p sz n cs e) (hg : H.get s = .row cs' rw e') (hne : e' / 2 ≠ e) : RowNe p s := ⟨fun r off len cap sz' q => by
 rcases h.it with ⟨rfl, _⟩ | ⟨r2, e2, rfl, h2, h3, h4, _⟩
 ·cases q
 ·cases q
  intro q; subst q
  rw [hg] at h3; cases h3
  exact hne h4⟩
structure WavyR (H H' : AHeap) (v : AVal) (w h n : Nat) (L : List Int) (lo hi : Nat) (P : List UInt8) (gp op : AVal) (cells : List AVal) (B : Nat) : Prop where
 ev : v = .tuple [.agg [.int .i64 (w : Int), .int .i64 (h : Int), gp], op]
 w1 : 40 ≤ w
 w2 : w ≤ 159
 n1 : 1 ≤ n
 n2 : n ≤ 3
 wave : Wave w L 14
 lo1 : lo ≤ 14
 hi1 : hi ≤ 14
 lo2 : ∀ x, -(lo : Int) ≤ L.getD x 0
 hi2 : ∀ x, L.getD x 0 ≤ (hi : Int)
 eh : h = 36 * n + lo + hi - 1
 ok : Ok w h P
 hgp : BytesI H' gp P
 wr : WrS H' gp
 fr : FreshS H gp
 hop : SliceAt H' op 1 n cells
 stv : ∀ j, j < n → ∃ sp, cells[j]? = some sp ∧ StvR H' sp (staveL lo L j) B
 B1 : H.n ≤ B
 B2 : RowLt gp B
 B3 : ∀ r off len cap sz, op = .slice r off len cap sz → B ≤ r
 ext : Ext H H'
theorem K_Wavy {c c2 : UInt8} {p : AVal} {H : AHeap} {bends : List UInt8} [hp : BytesI H p bends] : Con ext prog 2 35 [.int .u8 (c.toNat : Int), .int .u8 (c2.toNat : Int), p] H fun v H' => ∃ w h n L lo hi P gp op cells B, WavyR H H' v w h n L lo hi P gp op cells B := by
 refine con_of (show prog 35 = some c35 from rfl) rfl rfl fun n0 hn => ?_
 haveI := hp.one
 have t120 : IntKind.i64.wrap ((c.toNat : Int).tmod 120) = ((c.toNat % 120 : Nat) : Int) := u8m c 120 (by decide)
 have hc120 := Nat.mod_lt c.toNat (show 0 < 120 by decide)
 obtain ⟨w, hw⟩ : ∃ w, 40 + c.toNat % 120 = w := ⟨_, rfl⟩
 have w1 : IntKind.i64.wrap (40 + ((c.toNat % 120 : Nat) : Int)) = (w : Int) := by rw [w64 (by omega)]; omega
 obtain ⟨B, hB⟩ : ∃ k, min bends.length 14 = k := ⟨_, rfl⟩
 have hmn : (if (14 : Int) < ((bends.length : Nat) : Int) then 14 else ((bends.length : Nat) : Int)) = (B : Int) := by rw [← hB]; exact min_nat (b := 14)
 refine sq ?_
 refine Fr.region fun KF hK1 => ?_
 refine nw ?_
 refine mN ?_
 refine WpO.nil (hK1 _ _ ?_)
 refine sq ?_
 refine Fr.region fun KF hK2 => ?_
 refine mI ?_
 refine b0 ?_
 refine Fo.now rfl rfl (by simp only [↓nrmL, nrmZ, Nat.reduceEqDiff, ↓reduceIte, Nat.reduceAdd, Int.reduceBEq, Int.reduceBNe, t120, w1]; rfl) ?_
 refine bn rfl rfl rfl (by simp only [↓nrmL, nrmZ, Nat.reduceEqDiff, ↓reduceIte, Nat.reduceAdd, Int.reduceBEq, Int.reduceBNe, t120, w1]; rfl) ?_
 refine mI ?_
 refine WpO.nil (hK2 _ _ ?_)
 refine sq ?_
 refine Fr.region fun KF hK3 => ?_
 refine mI ?_
 refine WpO.do (WpX.mkI rfl rfl rfl (by omega) fun rp H1 eH1 hi1 hf1 hw1 hx1 => ?_)
 haveI := hi1.one
 refine mv ?_
 refine WpO.nil (hK3 _ _ ?_)
 refine sq ?_
 refine Fr.region fun KF hK4 => ?_
 refine mI ?_
 refine mI ?_
 refine WpO.nil (hK4 _ _ ?_)
 refine Wp.seqE (σ := List Int) (fun _ => [(1, .int .u8 (c2.toNat : Int)), (6, .ptr H.n 0), (8, .int .i64 (w : Int)), (9, rp)]) (fun L H' => Wave w L 14 ∧ IntsI H' rp L ∧ ExtP H1 H' rp) ?_ ?_
 rotate_left
 ·skip
  refine sq ?_
  refine rg fun KF hKF => ?_
  refine mv ?_
  refine mv ?_
  refine ln (by simp only [↓nrmL, nrmK, Nat.reduceEqDiff, ↓reduceIte]; rfl) ?_
  refine Fo.now rfl rfl (by simp only [↓nrmL, nrmZ, Nat.reduceEqDiff, ↓reduceIte, Nat.reduceAdd, Int.reduceBEq, Int.reduceBNe, hmn, Bool.false_eq_true, if_false]; rfl) ?_
  refine Fo.pre (p := p) (b := B) rfl rfl (by omega) fun pv hpv hone hsub => ?_
  rw [cellsB_takeW] at hpv
  obtain ⟨bb, hbb⟩ : ∃ l, bends.take B = l := ⟨_, rfl⟩
  have hbl : bb.length = B := by rw [← hbb, List.length_take]; omega
  rw [hbb] at hpv
  haveI hpv2 : BytesI H1 pv bb := by unfold BytesI; rw [hbl]; exact hpv
  clear hpv
  haveI := hone
  have hsep : SepS pv rp := ⟨fun r off len cap sz r' off' len' cap' sz' e e' => by
   obtain ⟨o2, l2, c2, s2, e2⟩ := hsub _ _ _ _ _ e
   have h1 := hf1.ge _ _ _ _ _ e'
   have h2 : r < H.n := hp.lt e2
   simp only [AHeap.push] at h1
   omega⟩
  refine ln (by simp only [↓nrmL, nrmK, Nat.reduceEqDiff, ↓reduceIte]; rfl) ?_
  refine mI ?_
  refine nl hKF ?_
  refine Wp.block ?_
  dsimp only [cond_true, cond_false]
  refine Wp.loopS (σ := Nat × Nat × Int × List Int) [10, 11, 13, 14, 38, 39, 40, 41, 42, 43, 44, 45, 46, 47, 48, 49, 50, 51, 52, 53, 54, 55, 56, 57, 58, 59, 60, 61, 62, 63, 64, 65, 66, 67, 68] (fun s => [(38, .int .i64 (s.1 : Int)), (11, .int .i64 (s.2.1 : Int)), (10, .int .i64 s.2.2.1)]) (fun H3 s H2 => s.1 ≤ B ∧ s.2.1 ≤ 200 ∧ IntsI H2 rp s.2.2.2 ∧ WrS H2 rp ∧ WaveX w s.2.2.2 s.1 s.2.1 s.2.2.1 ∧ ExtP0 H3 H2 rp) (fun s => B - s.1) (0, 0, 0, List.replicate w 0) rfl (fun _ => rfl) ⟨rfl, rfl, rfl, trivial⟩ ⟨Nat.zero_le _, Nat.zero_le _, hi1, hw1, waveX_zero w, inferInstance⟩ (by unfold fuel0 at hn; dsimp only; omega) ?_
  rintro ⟨i, X, Y, L⟩ g H2 ⟨hiB, hX, hL, hLw, hWv, ⟨hx2⟩⟩
  dsimp only at hiB hX hL hLw hWv
  haveI := hx2
  haveI : BytesI H2 pv bb := hpv2.keep hx2.n fun r _ _ _ _ e hr => hx2.get r hr ⟨fun r' _ _ _ _ e' hh => hsep.ne _ _ _ _ _ _ _ _ _ _ e e' hh.symm⟩
  simp only [↓nrmL, nrmZ, Nat.reduceEqDiff, ↓reduceIte, Nat.reduceAdd, Int.reduceBEq, Int.reduceBNe]
  cases hc : decide ((i : Int) < ((bb.length : Nat) : Int))
  ·have hd : i = B := by have := of_decide_eq_false hc; omega
   rw [hbl] at hc
   simp only [hc, hbl]
   refine sq ?_
   refine rg fun KF hKF => ?_
   refine bn rfl rfl rfl (by simp only [↓nrmL, nrmZ, Nat.reduceEqDiff, ↓reduceIte, Nat.reduceAdd, Int.reduceBEq, Int.reduceBNe, hc, hbl]; rfl) ?_
   refine nl hKF ?_
   refine sq ?_
   refine cf rfl ?_
   refine xi ?_
   dsimp only [cond_true, cond_false]
   exact ⟨L, ⟨rfl, rfl, rfl, rfl, trivial⟩, hWv.toWave.mono (by omega), hL, hx2⟩
  have hib : i < bb.length := by have := of_decide_eq_true hc; omega
  obtain ⟨x, hx⟩ : ∃ x, bb[i] = x := ⟨_, rfl⟩
  have t16 : IntKind.i64.wrap ((x.toNat : Int).tmod 16) = ((x.toNat % 16 : Nat) : Int) := u8m x 16 (by decide)
  have h16 := Nat.mod_lt x.toNat (show 0 < 16 by decide)
  have w8' : IntKind.i64.wrap (8 + ((x.toNat % 16 : Nat) : Int)) = ((8 + x.toNat % 16 : Nat) : Int) := by rw [w64 (by omega)]; omega
  obtain ⟨X', hX'⟩ : ∃ X', X + (8 + x.toNat % 16) = X' := ⟨_, rfl⟩
  have wX : IntKind.i64.wrap ((X : Int) + ((8 + x.toNat % 16 : Nat) : Int)) = (X' : Int) := by rw [wa (by omega), hX']
  rw [hbl] at hc
  cases hge : decide ((X' : Int) ≥ (w : Int))
  rotate_left
  ·skip
   simp only [hc, hbl, hx, t16, w8', wX, hge]
   repeat first
    | refine mI ?_
    | (refine bn rfl rfl rfl (by simp only [↓nrmL, nrmZ, Nat.reduceEqDiff, ↓reduceIte, Nat.reduceAdd, Int.reduceBEq, Int.reduceBNe, hc, hbl, hx, t16, w8', wX, hge]; rfl) ?_)
    | refine b0 ?_
    | (refine Fo.idx (by simp only [↓nrmL, nrmK, Nat.reduceEqDiff, ↓reduceIte]; rfl) rfl ?_ (by simp only [↓nrmL, nrmZ, Nat.reduceEqDiff, ↓reduceIte, Nat.reduceAdd, Int.reduceBEq, Int.reduceBNe, hc, hbl, hx, t16, w8', wX, hge]; rfl) ?_; (focus omega))
    | (refine Fo.ldB rfl ?_ (by simp only [↓nrmL, nrmZ, Nat.reduceEqDiff, ↓reduceIte, Nat.reduceAdd, Int.reduceBEq, Int.reduceBNe, hc, hbl, hx, t16, w8', wX, hge]; rfl) ?_; (focus omega))
    | (refine Fo.now rfl rfl (by simp only [↓nrmL, nrmZ, Nat.reduceEqDiff, ↓reduceIte, Nat.reduceAdd, Int.reduceBEq, Int.reduceBNe, hc, hbl, hx, t16, w8', wX, hge]; rfl) ?_)
    | refine nl hKF ?_
    | refine sq ?_
    | refine rg fun KF hKF => ?_
    | refine ct rfl ?_
    | refine sk ?_
    | refine Wp.block ?_
    | refine xi ?_
    | dsimp only [cond_true, cond_false]
   exact ⟨L, ⟨rfl, rfl, rfl, rfl, trivial⟩, hWv.toWave.mono (by omega), hL, hx2⟩
  have hlt : X' < w := by have := of_decide_eq_false hge; omega
  have t3 := u8q x
  have t3b : IntKind.i64.wrap (((x.toNat / 16 : Nat) : Int).tmod 3) = ((x.toNat / 16 % 3 : Nat) : Int) := natm (x.toNat / 16) 3 (by decide) (by have := x.toNat_lt; omega)
  have h3 := Nat.mod_lt (x.toNat / 16) (show 0 < 3 by decide)
  have wm1 : IntKind.i64.wrap (((x.toNat / 16 % 3 : Nat) : Int) - 1) = ((x.toNat / 16 % 3 : Nat) : Int) - 1 := w64 (by omega)
  have hYr := hWv.y
  obtain ⟨Y', hY'⟩ : ∃ Y', Y + (((x.toNat / 16 % 3 : Nat) : Int) - 1) = Y' := ⟨_, rfl⟩
  have wY : IntKind.i64.wrap (Y + (((x.toNat / 16 % 3 : Nat) : Int) - 1)) = Y' := by rw [w64 (by omega), hY']
  have hwb := wave_bend hWv (X' := X') (Y' := Y') (by omega) hlt (by omega)
  have hLl := hWv.len
  simp only [hc, hbl, hx, t16, w8', wX, hge, t3, t3b, wm1, wY]
  repeat first
   | refine mI ?_
   | (refine bn rfl rfl rfl (by simp only [↓nrmL, nrmZ, Nat.reduceEqDiff, ↓reduceIte, Nat.reduceAdd, Int.reduceBEq, Int.reduceBNe, hc, hbl, hx, t16, w8', wX, hge, t3, t3b, wm1, wY]; rfl) ?_)
   | refine b0 ?_
   | (refine Fo.idx (by simp only [↓nrmL, nrmK, Nat.reduceEqDiff, ↓reduceIte]; rfl) rfl ?_ (by simp only [↓nrmL, nrmZ, Nat.reduceEqDiff, ↓reduceIte, Nat.reduceAdd, Int.reduceBEq, Int.reduceBNe, hc, hbl, hx, t16, w8', wX, hge, t3, t3b, wm1, wY]; rfl) ?_; (focus omega))
   | (refine Fo.ldB rfl ?_ (by simp only [↓nrmL, nrmZ, Nat.reduceEqDiff, ↓reduceIte, Nat.reduceAdd, Int.reduceBEq, Int.reduceBNe, hc, hbl, hx, t16, w8', wX, hge, t3, t3b, wm1, wY]; rfl) ?_; (focus omega))
   | (refine Fo.now rfl rfl (by simp only [↓nrmL, nrmZ, Nat.reduceEqDiff, ↓reduceIte, Nat.reduceAdd, Int.reduceBEq, Int.reduceBNe, hc, hbl, hx, t16, w8', wX, hge, t3, t3b, wm1, wY]; rfl) ?_)
   | refine nl hKF ?_
   | refine sq ?_
   | refine rg fun KF hKF => ?_
   | refine ct rfl ?_
   | refine cf rfl ?_
   | refine sk ?_
   | refine Wp.block ?_
   | dsimp only [cond_true, cond_false]
  refine Wp.loopS [14, 59, 60, 61, 62, 63, 64, 65, 66, 67] (fun j : Nat => [(14, .int .i64 j)]) (fun H3 j H4 => X' ≤ j ∧ j ≤ w ∧ IntsI H4 rp (setR L X' j Y') ∧ WrS H4 rp ∧ ExtP0 H3 H4 rp) (fun j => w - j) X' rfl (fun _ => rfl) ⟨rfl, trivial⟩ ⟨Nat.le_refl _, by omega, by rw [setR_zero]; exact hL, hLw, inferInstance⟩ (by unfold fuel0 at hn; omega) ?_
  rintro j g2 H4 ⟨hj1, hj2, hL4, hLw4, ⟨hx4⟩⟩
  simp only [↓nrmL, nrmZ, Nat.reduceEqDiff, ↓reduceIte, Nat.reduceAdd, Int.reduceBEq, Int.reduceBNe]
  cases hcj : decide ((j : Int) < (w : Int))
  ·have hjw : j = w := by have := of_decide_eq_false hcj; omega
   have hwi := wa1 (a := i) (by omega)
   repeat first
    | refine mI ?_
    | (refine bn rfl rfl rfl (by simp only [↓nrmL, nrmZ, Nat.reduceEqDiff, ↓reduceIte, Nat.reduceAdd, Int.reduceBEq, Int.reduceBNe, hcj]; rfl) ?_)
    | refine b0 ?_
    | refine nl hKF ?_
    | refine sq ?_
    | refine rg fun KF hKF => ?_
    | refine cf rfl ?_
    | refine xi ?_
    | dsimp only [cond_true, cond_false]
   refine ⟨(i + 1, X', Y', setR L X' w Y'), by dsimp only; omega, ⟨by simp only [↓nrmL, nrmZ, Nat.reduceEqDiff, ↓reduceIte, Nat.reduceAdd, Int.reduceBEq, Int.reduceBNe]; rw [hwi], rfl, rfl, trivial⟩, by dsimp only; omega, by dsimp only; omega, by dsimp only; rw [← hjw]; exact hL4, hLw4, hwb, ⟨hx2.trans hx4⟩⟩
  have hjw : j < w := by have := of_decide_eq_true hcj; omega
  have hwj := wa1 (a := j) (by omega)
  have hsl := setR_len L X' j Y'
  repeat first
   | refine mI ?_
   | (refine mv ?_)
   | (refine bn rfl rfl rfl (by simp only [↓nrmL, nrmZ, Nat.reduceEqDiff, ↓reduceIte, Nat.reduceAdd, Int.reduceBEq, Int.reduceBNe, hcj]; rfl) ?_)
   | (refine Fo.idx (by simp only [↓nrmL, nrmK, Nat.reduceEqDiff, ↓reduceIte]; rfl) rfl ?_ (by simp only [↓nrmL, nrmZ, Nat.reduceEqDiff, ↓reduceIte, Nat.reduceAdd, Int.reduceBEq, Int.reduceBNe, hcj]; rfl) ?_; (focus omega))
   | refine nl hKF ?_
   | refine sq ?_
   | refine rg fun KF hKF => ?_
   | refine ct rfl ?_
   | refine sk ?_
   | refine Wp.block ?_
  refine WpO.do' (WpX.stI (p := rp) (j := j) (l := setR L X' j Y') rfl rfl (by omega) fun H5 hb5 hw5 hx5 => ?_)
  rw [setR_set hj1] at hb5
  haveI := hx5
  repeat first
   | refine mI ?_
   | refine b0 ?_
   | refine nl hKF ?_
   | refine rg fun KF hKF => ?_
   | dsimp only [cond_true, cond_false]
  refine ⟨j + 1, by omega, ⟨by simp only [↓nrmL, nrmZ, Nat.reduceEqDiff, ↓reduceIte, Nat.reduceAdd, Int.reduceBEq, Int.reduceBNe]; rw [hwj], trivial⟩, by omega, by omega, hb5, hw5, ⟨hx4.trans hx5⟩⟩
 rintro L g H2 ⟨hWv, hL, hx2⟩
 have hLl := hWv.len
 haveI : ExtP H1 H2 rp := hx2
 haveI : Z0 L := ⟨by omega, hWv.zero, by omega⟩
 haveI := hL.one
 obtain ⟨mn1, mn2⟩ := min_in (c := 14) (by omega) (fun i => (hWv.low i).1) L.length
 obtain ⟨mx1, mx2⟩ := max_in (c := 14) (by omega) (fun i => (hWv.low i).2) L.length
 obtain ⟨lo, hlo⟩ : ∃ k : Nat, minI L L.length = -(k : Int) := ⟨(-(minI L L.length)).toNat, by omega⟩
 obtain ⟨hi, hhi⟩ : ∃ k : Nat, maxI L L.length = (k : Int) := ⟨(maxI L L.length).toNat, by omega⟩
 have hlo2 : ∀ x, -(lo : Int) ≤ L.getD x 0 := fun x => by
  by_cases h : x < L.length
  ·have := min_le (l := L) L.length x h; omega
  ·rw [getD_out (by omega)]; omega
 have hhi2 : ∀ x, L.getD x 0 ≤ (hi : Int) := fun x => by
  by_cases h : x < L.length
  ·have := max_ge (l := L) L.length x h; omega
  ·rw [getD_out (by omega)]; omega
 have tn : IntKind.i64.wrap ((c2.toNat : Int).tmod 3) = ((c2.toNat % 3 : Nat) : Int) := u8m c2 3 (by decide)
 have h3 := Nat.mod_lt c2.toNat (show 0 < 3 by decide)
 obtain ⟨n, hndef⟩ : ∃ n, 1 + c2.toNat % 3 = n := ⟨_, rfl⟩
 have wn : IntKind.i64.wrap (1 + ((c2.toNat % 3 : Nat) : Int)) = (n : Int) := by rw [w64 (by omega)]; omega
 obtain ⟨h, hh⟩ : ∃ h, 36 * n + lo + hi - 1 = h := ⟨_, rfl⟩
 have f1 : IntKind.i64.wrap ((hi : Int) - -(lo : Int)) = ((hi + lo : Nat) : Int) := by rw [w64 (by omega)]; omega
 have f2 : IntKind.i64.wrap (5 + ((hi + lo : Nat) : Int)) = ((5 + (hi + lo) : Nat) : Int) := by rw [w64 (by omega)]; omega
 have f3 : IntKind.i64.wrap ((n : Int) * 24) = ((n * 24 : Nat) : Int) := by rw [w64 (by omega)]; omega
 have f4 : IntKind.i64.wrap (((5 + (hi + lo) : Nat) : Int) + ((n * 24 : Nat) : Int)) = ((5 + (hi + lo) + n * 24 : Nat) : Int) := wa (by omega)
 have f5 : IntKind.i64.wrap ((n : Int) - 1) = ((n - 1 : Nat) : Int) := ws1 (by omega) (by omega)
 have f6 : IntKind.i64.wrap (((n - 1 : Nat) : Int) * 12) = (((n - 1) * 12 : Nat) : Int) := by rw [w64 (by omega)]; omega
 have f7 : IntKind.i64.wrap (((5 + (hi + lo) + n * 24 : Nat) : Int) + (((n - 1) * 12 : Nat) : Int)) = ((5 + (hi + lo) + n * 24 + (n - 1) * 12 : Nat) : Int) := wa (by omega)
 have f8 : IntKind.i64.wrap (((5 + (hi + lo) + n * 24 + (n - 1) * 12 : Nat) : Int) + 6) = (h : Int) := by rw [w64 (by omega)]; omega
 have hwh : w * h ≤ 159 * 640 := Nat.mul_le_mul (by omega) (by omega)
 have f9 : IntKind.i64.wrap ((w : Int) * (h : Int)) = ((w * h : Nat) : Int) := wm (by omega)
 simp only [↓nrmL, nrmZ, Nat.reduceEqDiff, ↓reduceIte, Nat.reduceAdd, Int.reduceBEq, Int.reduceBNe]
 repeat first
  | refine mI ?_
  | (refine mv ?_)
  | (refine bn rfl rfl rfl (by simp only [↓nrmL, nrmZ, Nat.reduceEqDiff, ↓reduceIte, Nat.reduceAdd, Int.reduceBEq, Int.reduceBNe, hlo, hhi, tn, wn, f1, f2, f3, f4, f5, f6, f7, f8, f9]; rfl) ?_)
  | refine b0 ?_
  | (refine Fo.pcall (v' := ?_) hn rfl (by simp only [↓nrmL, nrmZ, Nat.reduceEqDiff, ↓reduceIte, Nat.reduceAdd, Int.reduceBEq, Int.reduceBNe, hlo, hhi, tn, wn, f1, f2, f3, f4, f5, f6, f7, f8, f9, List.map]; rfl) rfl ?hv fun _ _ => ?_; case hv => (simp only [↓nrmL, nrmZ, Nat.reduceEqDiff, ↓reduceIte, Nat.reduceAdd, Int.reduceBEq, Int.reduceBNe, hlo, hhi, tn, wn, f1, f2, f3, f4, f5, f6, f7, f8, f9]; rfl))
  | (refine Fo.now rfl rfl (by simp only [↓nrmL, nrmZ, Nat.reduceEqDiff, ↓reduceIte, Nat.reduceAdd, Int.reduceBEq, Int.reduceBNe, hlo, hhi, tn, wn, f1, f2, f3, f4, f5, f6, f7, f8, f9]; rfl) ?_)
  | refine nl hKF ?_
  | refine sq ?_
  | refine rg fun KF hKF => ?_
 refine WpO.do (WpX.mkB rfl rfl rfl (by omega) fun gp H3 e3 hg3 hf3 hw3 hx3 => ?_)
 haveI := hg3.one
 have hle0 : H.n ≤ H3.n := by have := (inferInstance : Ext0 H H3).ext.n; exact this
 repeat first
  | refine mI ?_
  | refine mN ?_
  | refine nw ?_
  | (refine ob (cs' := ?_) ?hc ?_; case hc => (simp only [↓nrmL, nrmZ, Nat.reduceEqDiff, ↓reduceIte, Nat.reduceAdd, Int.reduceBEq, Int.reduceBNe]; rfl))
  | (refine so rfl (rfl : _ = AVal.agg _) rfl rfl rfl (by simp only [↓nrmL, nrmZ, Nat.reduceEqDiff, ↓reduceIte, Nat.reduceAdd, Int.reduceBEq, Int.reduceBNe]; rfl) ?_)
  | refine nl hKF ?_
  | refine sq ?_
  | refine rg fun KF hKF => ?_
  | refine Wp.block ?_
  | dsimp only [cond_true, cond_false]
 refine Wp.loopS (σ := Nat × AVal) [20, 21, 22, 23, 24, 25, 97, 98, 99, 100, 101, 102, 103, 104, 105, 106, 107, 108, 109, 110, 111, 112, 113, 114, 115, 116, 117, 118, 119, 120, 121, 122, 123, 124, 125, 126, 127, 128, 129, 130, 131, 132, 133, 134, 135, 136, 137, 138, 139, 140, 141, 142, 143, 144, 145, 146, 147, 148, 149] (fun s => [(97, .int .i64 (s.1 : Int)), (20, s.2)]) (fun K s H2 => s.1 ≤ n ∧ ∃ P cells, BytesI H2 gp P ∧ P.length = w * h ∧ pxOk P = true ∧ WrS H2 gp ∧ OwnS H2 s.2 1 s.1 cells 43 ∧ (∀ r off len cap sz, s.2 = .slice r off len cap sz → H3.n < r) ∧ (∀ j, j < s.1 → ∃ sp, cells[j]? = some sp ∧ StvR H2 sp (staveL lo L j) H3.n) ∧ ExtP0 K H2 gp) (fun s => n - s.1) (0, .nslice) rfl (fun _ => rfl) ⟨rfl, rfl, trivial⟩ ⟨Nat.zero_le _, _, [], inferInstance, List.length_replicate, pxOk_rep _, inferInstance, ⟨Or.inl ⟨rfl, rfl, rfl⟩⟩, fun _ _ _ _ _ e => (by cases e), fun j hj => absurd hj (Nat.not_lt_zero _), inferInstance⟩ (by unfold fuel0 at hn; dsimp only; omega) ?_
 rintro ⟨i, op⟩ g2 H5 ⟨hi5, P, cells, hP, hPl, hPo, hPw, hop, hopf, hst, ⟨hx5⟩⟩
 dsimp only at hi5 hop hopf hst
 haveI := hx5
 haveI := hop.sl.one
 have hgplt : ∀ r off len cap sz, gp = .slice r off len cap sz → r < H3.n := fun r off len cap sz e => hg3.lt e
 have hKn := hx5.n
 simp only [AHeap.push, AHeap.set] at hKn
 haveI sopgp : SepS op gp := ⟨fun r off len cap sz r' off' len' cap' sz' e e' => by have := hopf _ _ _ _ _ e; have := hgplt _ _ _ _ _ e'; omega⟩
 simp only [↓nrmL, nrmZ, Nat.reduceEqDiff, ↓reduceIte, Nat.reduceAdd, Int.reduceBEq, Int.reduceBNe]
 cases hc : decide ((i : Int) < (n : Int))
 ·have hin : i = n := by have := of_decide_eq_false hc; omega
  subst hin
  have hHn : H.n < H3.n := by
   have h1 : LtN H.n H3 := inferInstance
   exact h1.lt
  haveI k6 : HasRow H5 H.n [.int .i64 0, .int .i64 0, .nslice] true (2 * 24) := inferInstance
  have hx05 : Ext H H5 := Ext0.ext
  repeat first
   | (refine mv ?_)
   | (refine Fo.ldN rfl rfl (by simp only [↓nrmL, nrmZ, Nat.reduceEqDiff, ↓reduceIte, Nat.reduceAdd, Int.reduceBEq, Int.reduceBNe, hc]; rfl) ?_)
   | (refine bn rfl rfl rfl (by simp only [↓nrmL, nrmZ, Nat.reduceEqDiff, ↓reduceIte, Nat.reduceAdd, Int.reduceBEq, Int.reduceBNe, hc]; rfl) ?_)
   | (refine so rfl (rfl : _ = AVal.agg _) rfl rfl rfl (by simp only [↓nrmL, nrmZ, Nat.reduceEqDiff, ↓reduceIte, Nat.reduceAdd, Int.reduceBEq, Int.reduceBNe, hc]; rfl) ?_)
   | refine nl hKF ?_
   | refine sq ?_
   | refine rg fun KF hKF => ?_
   | refine cf rfl ?_
   | refine rt ?_
   | refine xi ?_
   | dsimp only [cond_true, cond_false]
  refine rz trivial ?_
  refine ⟨w, h, i, L, lo, hi, P, gp, op, cells, H3.n, rfl, by omega, by omega, by omega, by omega, hWv, by omega, by omega, hlo2, hhi2, by omega, ⟨by omega, by omega, hPl, hPo⟩, inferInstance, inferInstance, hf3.weak, ?_, fun j hj => ?_, hle0, ⟨hgplt⟩, fun r off len cap sz e => Nat.le_of_lt (hopf r off len cap sz e), Ext0.ext⟩
  ·haveI : RowNe op H.n := ⟨fun r _ _ _ _ e => by have := hopf _ _ _ _ _ e; omega⟩
   haveI := hop.sl
   exact inferInstance
  ·obtain ⟨sp, a1, a2⟩ := hst j hj
   exact ⟨sp, a1, a2.keep (Nat.le_refl _) fun s _ _ _ hs _ _ => set_get_ne (by omega)⟩
 have hin : i < n := by have := of_decide_eq_true hc; omega
 repeat first
  | refine mI ?_
  | (refine bn rfl rfl rfl (by simp only [↓nrmL, nrmZ, Nat.reduceEqDiff, ↓reduceIte, Nat.reduceAdd, Int.reduceBEq, Int.reduceBNe, hc]; rfl) ?_)
  | refine nw ?_
  | refine nl hKF ?_
  | refine sq ?_
  | refine rg fun KF hKF => ?_
  | refine ct rfl ?_
  | refine sk ?_
  | refine Wp.block ?_
  | dsimp only [cond_true, cond_false]
 refine Wp.loopS [23, 24, 25, 100, 101, 102, 103, 104, 105, 106, 107, 108, 109, 110, 111, 112, 113, 114, 115, 116, 117, 118, 119, 120, 121, 122, 123, 124, 125, 126, 127, 128, 129, 130, 131, 132, 133, 134, 135, 136, 137, 138, 139, 140, 141, 142, 143, 144] (fun k : Nat => [(100, .int .i64 k)]) (fun _ k H6 => k ≤ 5 ∧ ∃ P ps sp, BytesI H6 gp P ∧ P.length = w * h ∧ pxOk P = true ∧ WrS H6 gp ∧ HasRow H6 H5.n [sp] true (2 * 43) ∧ OwnS H6 sp 1 k ps 25 ∧ (∀ r off len cap sz, sp = .slice r off len cap sz → H5.n < r) ∧ Lns H6 ps ((List.range k).map (lineL lo L i)) (H5.n + 1) ∧ H5.n < H6.n ∧ ExtP H5 H6 gp) (fun k => 5 - k) 0 rfl (fun _ => rfl) ⟨rfl, trivial⟩ ⟨Nat.zero_le _, P, [], .nslice, inferInstance, hPl, hPo, inferInstance, inferInstance, ⟨Or.inl ⟨rfl, rfl, rfl⟩⟩, fun _ _ _ _ _ e => (by cases e), ⟨rfl, fun j hj => absurd hj (Nat.not_lt_zero _)⟩, by simp only [AHeap.push]; omega, (ExtP.refl _ _).pushN⟩ (by unfold fuel0 at hn; omega) ?_
 rintro k g3 H6 ⟨hk5, P, ps, sp, hP, hPl, hPo, hPw, hsv, hsp, hspf, hlns, hn6, hx6⟩
 haveI := hx6
 haveI := hsv
 haveI := hsp.sl.one
 haveI := hsp
 have hgpP := hP
 haveI : SepS gp sp := ⟨fun r off len cap sz r' off' len' cap' sz' e e' => by have := hspf _ _ _ _ _ e'; have := hgplt _ _ _ _ _ e; omega⟩
 haveI : SepS sp gp := ⟨fun r off len cap sz r' off' len' cap' sz' e' e => by have := hspf _ _ _ _ _ e'; have := hgplt _ _ _ _ _ e; omega⟩
 have hgp5 : RowNe gp H5.n := ⟨fun r _ _ _ _ e => by have := hgplt _ _ _ _ _ e; omega⟩
 haveI := hgp5
 simp only [↓nrmL, nrmZ, Nat.reduceEqDiff, ↓reduceIte, Nat.reduceAdd, Int.reduceBEq, Int.reduceBNe]
 cases hck : decide ((k : Int) < 5)
 ·have hke : k = 5 := by have := of_decide_eq_false hck; omega
  subst hke
  have hwi := wa1 (a := i) (by omega)
  haveI := hop
  haveI hop6 : OwnS H6 op 1 i cells 43 := inferInstance
  repeat first
   | (refine mv ?_)
   | (refine Fo.ldN rfl rfl (by simp only [↓nrmL, nrmZ, Nat.reduceEqDiff, ↓reduceIte, Nat.reduceAdd, Int.reduceBEq, Int.reduceBNe, hck]; rfl) ?_)
   | (refine bn rfl rfl rfl (by simp only [↓nrmL, nrmZ, Nat.reduceEqDiff, ↓reduceIte, Nat.reduceAdd, Int.reduceBEq, Int.reduceBNe, hck]; rfl) ?_)
   | (refine Fo.bslice rfl (by simp only [↓nrmL, nrmZ, Nat.reduceEqDiff, ↓reduceIte, Nat.reduceAdd, Int.reduceBEq, Int.reduceBNe, hck]; rfl) ?_)
   | refine nl hKF ?_
   | refine sq ?_
   | refine rg fun KF hKF => ?_
   | refine cf rfl ?_
   | refine xi ?_
  refine WpO.do (WpX.growX (p := op) (q := .slice H6.n 0 1 (some 1) 1) (k := 1) (new := [sp]) rfl rfl (by infer_instance) (by infer_instance) (by decide) (by decide) (by decide) (by omega) (by simp only [List.all_cons, (inferInstance : OneV sp).one, List.all_nil, Bool.and_self]) fun op' H9 ho2 hf2 hx2 => ?_)
  haveI := ho2.sl.one
  haveI := hx2
  refine mv ?_
  refine nl hKF ?_
  refine rg fun KF hKF => ?_
  refine b0 ?_
  refine mI ?_
  refine nl hKF ?_
  dsimp only [cond_true, cond_false]
  have hn9 := hx2.n
  simp only [AHeap.push] at hn9
  have hkeep : ∀ s cs e, s < H6.n → H6.get s = .row cs true e → (e / 2 = 25 ∨ e = 2 * 3) → H9.get s = H6.get s := fun s cs e hs hg he => by
   have hne := hop6.tne hg (fun h7 => by rcases he with he | he <;> rw [he] at h7 <;> exact absurd h7 (by decide))
   rw [hx2.get s (by simp only [AHeap.push]; omega) hne, push_get_lt hs]
  have hnew := (hlns.stv (by rw [List.length_map, List.length_range]; exact hsp) (by simp) (fun r off len cap sz e => by have := hspf _ _ _ _ _ e; omega))
  haveI : SepS gp op := ⟨fun r off len cap sz r' off' len' cap' sz' e e' => by have := hopf _ _ _ _ _ e'; have := hgplt _ _ _ _ _ e; omega⟩
  have hcl : cells.length = i := by have := hop.sl.len; omega
  refine ⟨(i + 1, op'), by dsimp only; omega, ⟨by simp only [↓nrmL, nrmZ, Nat.reduceEqDiff, ↓reduceIte, Nat.reduceAdd, Int.reduceBEq, Int.reduceBNe]; rw [hwi], rfl, trivial⟩, by dsimp only; omega, P, cells ++ [sp], inferInstance, hPl, hPo, inferInstance, ho2, fun r _ _ _ _ e => by have := hf2.ge _ _ _ _ _ e; simp only [AHeap.push] at this; omega, fun j hj => ?_, ⟨(hx5.trans hx6).pushN.other hx2 fun r _ _ _ _ e => ?_⟩⟩
  ·dsimp only at hj
   by_cases hji : j < i
   ·obtain ⟨sj, b1, b2⟩ := hst j hji
    refine ⟨sj, by rw [List.getElem?_append_left (by omega)]; exact b1, ?_⟩
    have b3 : StvR H6 sj (staveL lo L j) H3.n := b2.keep hx6.n fun s cs e hs hB hg he => hx6.get s hs ⟨fun r _ _ _ _ e2 => by have := hgplt _ _ _ _ _ e2; omega⟩
    exact b3.keep (by omega) fun s cs e hs hB hg he => hkeep s cs e hs hg he
   ·have hje : j = i := by omega
    subst hje
    refine ⟨sp, by rw [List.getElem?_append_right (by omega), hcl, Nat.sub_self]; rfl, ?_⟩
    have b3 : StvR H9 sp (staveL lo L j) (H5.n + 1) := hnew.keep (by omega) fun s cs e hs hB hg he => hkeep s cs e hs hg he
    obtain ⟨r, ps', e, c1, c2', c3, c4, c5, c6⟩ := b3.it
    exact ⟨r, ps', e, c1, c2', c3, c4, by omega, fun t ht => by obtain ⟨rj, d1, d2, d3⟩ := c6 t ht; exact ⟨rj, d1, d2, by omega⟩⟩
  ·have := hopf _ _ _ _ _ e
   simp only [AHeap.push, AHeap.set]
   omega
 have hke : k < 5 := by have := of_decide_eq_true hck; omega
 have hwk := wa1 (a := k) (by omega)
 repeat first
  | refine mI ?_
  | (refine bn rfl rfl rfl (by simp only [↓nrmL, nrmZ, Nat.reduceEqDiff, ↓reduceIte, Nat.reduceAdd, Int.reduceBEq, Int.reduceBNe, hck]; rfl) ?_)
  | refine nl hKF ?_
  | refine sq ?_
  | refine rg fun KF hKF => ?_
  | refine ct rfl ?_
  | refine sk ?_
  | refine Wp.block ?_
 refine WpO.do (WpX.mkR rfl rfl (by omega) ?_)
 obtain ⟨lp, hlp⟩ : ∃ lp : AVal, AVal.slice H6.n 0 w (some w) 1 = lp := ⟨_, rfl⟩
 obtain ⟨f, hf⟩ : ∃ f : Nat → Int, (fun x => 5 + (lo : Int) + 36 * (i : Int) + 6 * (k : Int) + L.getD x 0) = f := ⟨_, rfl⟩
 have hgp6 : RowNe gp H6.n := inferInstance
 haveI := hgp6
 haveI i0 : IntsI (H6.push (.row (cellsI (List.replicate w 0)) true (2 * 3))) (.slice H6.n 0 w (some w) 1) (List.replicate w 0) := row_ints (w := true) (e := 2 * 3) inferInstance List.length_replicate
 haveI := i0.one
 repeat first
  | refine mI ?_
  | (refine mv ?_)
  | (refine Fo.len (v := ?_) (by simp only [↓nrmL, nrmK, Nat.reduceEqDiff, ↓reduceIte]; rfl) ?hv ?_; case hv => (simp only [↓nrmL, nrmZ, Nat.reduceEqDiff, ↓reduceIte, Nat.reduceAdd, Int.reduceBEq, Int.reduceBNe, List.length_replicate]; rfl))
  | refine nl hKF ?_
  | refine sq ?_
  | refine rg fun KF hKF => ?_
  | refine Wp.block ?_
  | dsimp only [cond_true, cond_false]
 refine Wp.loopS [25, 107, 108, 109, 110, 111, 112, 113, 114, 115, 116, 117, 118, 119, 120, 121, 122, 123, 124, 125, 126, 127, 128, 129, 130, 131, 132, 133, 134, 135, 136, 137] (fun x : Nat => [(107, .int .i64 x)]) (fun _ x H8 => x ≤ w ∧ ∃ P, BytesI H8 gp P ∧ P.length = w * h ∧ pxOk P = true ∧ WrS H8 gp ∧ HasRow H8 H6.n (cellsI (fillI f x w)) true (2 * 3) ∧ ExtP H6 H8 gp) (fun x => w - x) 0 rfl (fun _ => rfl) ⟨rfl, trivial⟩ ⟨Nat.zero_le _, P, inferInstance, hPl, hPo, inferInstance, by rw [fillI_zero]; exact inferInstance, (ExtP.refl _ _).pushN⟩ (by unfold fuel0 at hn; omega) ?_
 rintro x g4 H8 ⟨hxw, P8, hP8, hPl8, hPo8, hPw8, hln, hx8⟩
 haveI := hx8
 haveI := hln
 have hfl := fillI_len f x w
 haveI hli : IntsI H8 (.slice H6.n 0 w (some w) 1) (fillI f x w) := row_ints hln hfl
 simp only [↓nrmL, nrmZ, Nat.reduceEqDiff, ↓reduceIte, Nat.reduceAdd, Int.reduceBEq, Int.reduceBNe]
 cases hcx : decide ((x : Int) < (w : Int))
 ·have hxe : x = w := by have := of_decide_eq_false hcx; omega
  have hline : fillI f x w = lineL lo L i k := by rw [hxe, fillI_all, lineL, hLl, hf]
  have hln8 : HasRow H8 H6.n (cellsI (lineL lo L i k)) true (2 * 3) := by rw [← hline]; exact hln
  have hlen : (lineL lo L i k).length = w := by rw [← hline]; exact hfl
  have hn8 := hx8.n
  have hn8' := hln.lt
  repeat first
   | (refine mv ?_)
   | refine fd ?_
   | refine Fo.ld rfl rfl ?_
   | (refine bn rfl rfl rfl (by simp only [↓nrmL, nrmZ, Nat.reduceEqDiff, ↓reduceIte, Nat.reduceAdd, Int.reduceBEq, Int.reduceBNe, hcx]; rfl) ?_)
   | (refine Fo.bslice rfl (by simp only [↓nrmL, nrmZ, Nat.reduceEqDiff, ↓reduceIte, Nat.reduceAdd, Int.reduceBEq, Int.reduceBNe, hcx]; rfl) ?_)
   | refine nl hKF ?_
   | refine sq ?_
   | refine rg fun KF hKF => ?_
   | refine cf rfl ?_
   | refine xi ?_
  refine WpO.do (WpX.growX (p := sp) (q := .slice H8.n 0 1 (some 1) 1) (k := 1) (new := [.slice H6.n 0 w (some w) 1]) rfl rfl (by infer_instance) (by infer_instance) (by decide) (by decide) (by decide) (by omega) (by rfl) fun sp' H9 ho2 hf2 hx2 => ?_)
  haveI := ho2.sl.one
  haveI := hx2
  haveI : RowNe sp H5.n := hsp.tne hsv.get (by decide)
  haveI : RowNe sp H6.n := ⟨fun r _ _ _ _ e => by have := hsp.sl.lt e; omega⟩
  haveI hsp'5 : RowNe sp' H5.n := ⟨fun r _ _ _ _ e => by have := hf2.ge _ _ _ _ _ e; simp only [AHeap.push] at this; omega⟩
  refine fd ?_
  refine Fo.stO (v := sp') (r := H5.n) (off := 0) rfl rfl rfl rfl ?_
  refine nl hKF ?_
  refine rg fun KF hKF => ?_
  refine b0 ?_
  refine mI ?_
  refine nl hKF ?_
  dsimp only [cond_true, cond_false]
  have hl8 : Lns H8 ps ((List.range k).map (lineL lo L i)) (H5.n + 1) := hlns.keep hx8.n fun s cs hs hB hg => hx8.get s hs ⟨fun r _ _ _ _ e => by have := hgplt _ _ _ _ _ e; omega⟩
  have hl9 : Lns H9 ps ((List.range k).map (lineL lo L i)) (H5.n + 1) := hl8.keep (by have := hx2.n; simp only [AHeap.push] at this; omega) fun s cs hs hB hg => by
   rw [hx2.get s (by simp only [AHeap.push]; omega) ⟨fun r off len cap sz e hh => by
    have h1 := (inferInstance : OwnS H8 sp 1 k ps 25)
    rcases h1.it with ⟨rfl, _⟩ | ⟨r2, e2, rfl, h2, h3, h4, _⟩
    ·cases e
    ·cases e; rw [← hh, h3] at hg; cases hg; exact absurd h4 (by decide)⟩, push_get_lt hs]
  have hl10 : Lns (H9.set H5.n (.row [sp'] true (2 * 43))) ps ((List.range k).map (lineL lo L i)) (H5.n + 1) := hl9.keep (Nat.le_refl _) fun s cs hs hB hg => set_get_ne (by omega)
  haveI : NeR H6.n H5.n := ⟨by omega⟩
  have hnH9 : H6.n < H9.n := by have := hx2.n; simp only [AHeap.push] at this; omega
  have hsn := hl10.snoc (r := H6.n) (l := lineL lo L i k) ⟨hnH9, by rw [set_get_ne (by omega), hx2.get H6.n (by simp only [AHeap.push]; omega) inferInstance, push_get_lt (by omega)]; exact hln8.get⟩ (by omega)
  rw [hlen] at hsn
  refine ⟨k + 1, by omega, ⟨by simp only [↓nrmL, nrmZ, Nat.reduceEqDiff, ↓reduceIte, Nat.reduceAdd, Int.reduceBEq, Int.reduceBNe]; rw [hwk], trivial⟩, by omega, P8, ps ++ [.slice H6.n 0 w (some w) 1], sp', inferInstance, hPl8, hPo8, inferInstance, inferInstance, inferInstance, fun r _ _ _ _ e => by have := hf2.ge _ _ _ _ _ e; simp only [AHeap.push] at this; omega, by rw [List.range_succ, List.map_append]; exact hsn, by have := hx2.n; simp only [AHeap.push, AHeap.set] at this ⊢; omega, ?_⟩
  exact (((hx6.trans hx8).pushN).other hx2 (fun r _ _ _ _ e => by have := hspf _ _ _ _ _ e; omega)).setN (Nat.le_refl _)
 have hxl : x < w := by have := of_decide_eq_true hcx; omega
 have hwx := wa1 (a := x) (by omega)
 have hxL : x < L.length := by omega
 have hLx := hlo2 x
 have hLx2 := hhi2 x
 have gx : L[x] = L.getD x 0 := (getD_at hxL).symm
 obtain ⟨fx, hfx⟩ : ∃ fx : Nat, f x = (fx : Int) := ⟨(f x).toNat, by rw [← hf]; dsimp only; omega⟩
 have hfx2 : 5 + (lo : Int) + 36 * (i : Int) + 6 * (k : Int) + L[x] = (fx : Int) := by rw [gx, ← hfx, ← hf]
 have hfh : fx < h := by omega
 have a1 : IntKind.i64.wrap (5 - -(lo : Int)) = 5 + (lo : Int) := by rw [w64 (by omega)]; omega
 have a2 : IntKind.i64.wrap ((i : Int) * 36) = 36 * (i : Int) := by rw [w64 (by omega)]; omega
 have a3 : IntKind.i64.wrap (5 + (lo : Int) + 36 * (i : Int)) = 5 + (lo : Int) + 36 * (i : Int) := w64 (by omega)
 have a4 : IntKind.i64.wrap (6 * (k : Int)) = 6 * (k : Int) := w64 (by omega)
 have a5 : IntKind.i64.wrap (5 + (lo : Int) + 36 * (i : Int) + 6 * (k : Int)) = 5 + (lo : Int) + 36 * (i : Int) + 6 * (k : Int) := w64 (by omega)
 have a6 : IntKind.i64.wrap (5 + (lo : Int) + 36 * (i : Int) + 6 * (k : Int) + L[x]) = (fx : Int) := by rw [w64 (by omega), hfx2]
 have hlt : fx * w + x < w * h := idx_lt hxl hfh
 have a7 : IntKind.i64.wrap ((fx : Int) * (w : Int)) = ((fx * w : Nat) : Int) := wm (by omega)
 have a8 : IntKind.i64.wrap (((fx * w : Nat) : Int) + (x : Int)) = ((fx * w + x : Nat) : Int) := wa (by omega)
 repeat first
  | refine mI ?_
  | (refine mv ?_)
  | (refine bn rfl rfl rfl (by simp only [↓nrmL, nrmZ, Nat.reduceEqDiff, ↓reduceIte, Nat.reduceAdd, Int.reduceBEq, Int.reduceBNe, hcx, a1, a2, a3, a4, a5, a6]; rfl) ?_)
  | (refine Fo.idx (by simp only [↓nrmL, nrmK, Nat.reduceEqDiff, ↓reduceIte]; rfl) rfl ?_ (by simp only [↓nrmL, nrmZ, Nat.reduceEqDiff, ↓reduceIte, Nat.reduceAdd, Int.reduceBEq, Int.reduceBNe, hcx, a1, a2, a3, a4, a5, a6]; rfl) ?_; (focus omega))
  | (refine Fo.ldI rfl ?_ rfl ?_; (focus omega))
  | refine nl hKF ?_
  | refine sq ?_
  | refine rg fun KF hKF => ?_
  | refine ct rfl ?_
  | refine sk ?_
  | refine Wp.block ?_
 refine WpO.do' (WpX.stR (r := H6.n) (j := 0 + x) (l := fillI f x w) rfl rfl (by omega) ?_)
 rw [Nat.zero_add, ← hfx, fillI_set]
 have hfl1 := fillI_len f (x + 1) w
 haveI hli1 : IntsI (H8.set H6.n (.row (cellsI (fillI f (x + 1) w)) true (2 * 3))) (.slice H6.n 0 w (some w) 1) (fillI f (x + 1) w) := row_ints (w := true) (e := 2 * 3) inferInstance hfl1
 have hg1 : (fillI f (x + 1) w)[x] = (fx : Int) := by simp [fillI, hfx]
 refine nl hKF ?_
 dsimp only [cond_true, cond_false]
 refine Fr.dregion0 rfl fun KF hKF => ?_
 repeat first
  | (refine Er rfl (exec_ld rfl rfl) rfl ?_)
  | (refine Fe.pure rfl rfl (by simp only [↓nrmL, nrmZ, Nat.reduceEqDiff, ↓reduceIte, Nat.reduceAdd, Int.reduceBEq, Int.reduceBNe, hg1, a7, a8]; rfl) ?_)
  | (refine Fe.pure rfl (exec_idxP (by (try simp only [↓nrmL, nrmZ, Nat.reduceEqDiff, ↓reduceIte, Nat.reduceAdd, Int.reduceBEq, Int.reduceBNe, hg1, a7, a8]); rfl) rfl ?_) (by simp only [↓nrmL, nrmZ, Nat.reduceEqDiff, ↓reduceIte, Nat.reduceAdd, Int.reduceBEq, Int.reduceBNe, hg1, a7, a8]; rfl) ?_; (focus omega))
  | (refine Er rfl (exec_ldI rfl (by omega)) (by simp only [↓nrmL, nrmZ, Nat.reduceEqDiff, ↓reduceIte, Nat.reduceAdd, Int.reduceBEq, Int.reduceBNe, hg1, a7, a8]; rfl) ?_)
 refine WpE.stB 1 rfl rfl rfl rfl (by omega) fun H9 hb9 hw9 hx9 => ar ?_
 haveI := hx9
 refine WpE.nil (hKF _ _ ?_)
 refine rg fun KF hKF => ?_
 refine b0 ?_
 refine mI ?_
 refine nl hKF ?_
 dsimp only [cond_true, cond_false]
 refine ⟨x + 1, by omega, ⟨by simp only [↓nrmL, nrmZ, Nat.reduceEqDiff, ↓reduceIte, Nat.reduceAdd, Int.reduceBEq, Int.reduceBNe]; rw [hwx], trivial⟩, by omega, P8.set (fx * w + x) 1, hb9, by rw [List.length_set]; exact hPl8, pxOk_set hPo8 (Or.inr rfl), hw9, inferInstance, (hx8.setN (Nat.le_refl _)).trans hx9⟩
end Go.Am

namespace Go.Am
open Go
attribute [local irreducible] Wp WpO WpX WpE
theorem lineL_len (lo : Nat) (L : List Int) (i k : Nat) : (lineL lo L i k).length = L.length := by simp [lineL]
theorem lineL_at {lo : Nat} {L : List Int} {i k x : Nat} (h : x < L.length) : (lineL lo L i k).getD x 0 = 5 + (lo : Int) + 36 * i + 6 * k + L.getD x 0 := by
 rw [getD_at (by rw [lineL_len]; exact h)]
 simp [lineL]
theorem stave_fits {w h n lo hi i : Nat} {L : List Int} (hw : 40 ≤ w) (hW : Wave w L 14) (hlo : ∀ x, -(lo : Int) ≤ L.getD x 0) (hhi : ∀ x, L.getD x 0 ≤ (hi : Int)) (hh : h = 36 * n + lo + hi - 1) (hi' : i < n) : fitsB w h (staveL lo L i) = true := by
 have hl := hW.len
 have hpath : ∀ k, k < 5 → pathB w h (lineL lo L i k) = true := by
  intro k hk
  simp only [pathB, lineL_len, hl, Bool.and_eq_true, bne_iff_ne, beq_iff_eq]
  refine ⟨⟨by omega, trivial⟩, ?_⟩
  rw [okTo, List.all_eq_true]
  intro x hx
  have hx := List.mem_range.1 hx
  have a1 := hlo x
  have a2 := hhi x
  simp only [okAt, lineL_at (show x < L.length by omega), Bool.and_eq_true, Bool.or_eq_true, decide_eq_true_eq, beq_iff_eq]
  refine ⟨⟨by omega, by omega⟩, ?_⟩
  by_cases h0 : x = 0
  ·exact Or.inl h0
  ·right
   rw [lineL_at (show x - 1 < L.length by omega)]
   have a3 := hW.near (x - 1) (by omega)
   rw [show x - 1 + 1 = x by omega] at a3
   omega
 have hs5 : (staveL lo L i).length = 5 := by simp [staveL]
 have hget : ∀ k, k < 5 → (staveL lo L i).getD k [] = lineL lo L i k := by
  intro k hk
  rw [getDL_at (by omega)]
  simp [staveL]
 refine fitsB_of hs5 (fun k hk => by rw [hget k hk]; exact hpath k hk) fun x hx k h1 hk => ?_
 rw [hget k hk, hget (k - 1) (by omega), lineL_at (by omega), lineL_at (by omega)]
 omega
theorem StvR.lines {H : AHeap} {sp : AVal} {ls : List (List Int)} {B : Nat} (h : StvR H sp ls B) : LinesI H sp ls := by
 obtain ⟨r, ps, e, h1, h2, h3, h4, h5, h6⟩ := h.it
 refine ⟨ps, ?_, ⟨fun i hi => ?_⟩⟩
 ·rw [h1]
  exact ⟨Or.inr ⟨r, 0, none, ps, true, e, rfl, h2.lt, h2.get, by omega, by rw [List.drop_zero, Nat.mul_one, ← h4, List.take_length], Nat.le_refl _⟩⟩
 ·obtain ⟨rj, a1, a2, a3⟩ := h6 i hi
  exact ⟨_, a1, row_ints a2 rfl⟩
theorem StvR.lo {H : AHeap} {sp : AVal} {ls : List (List Int)} {B : Nat} (h : StvR H sp ls B) : ∀ r off len cap sz, sp = .slice r off len cap sz → B ≤ r := by
 obtain ⟨r, ps, e, h1, h2, h3, h4, h5, h6⟩ := h.it
 intro r' off len cap sz e'
 rw [h1] at e'; cases e'; exact h5
theorem pxOk_map {f : Nat → UInt8} {n : Nat} (h : ∀ k, k < n → f k = 0 ∨ f k = 1) : pxOk ((List.range n).map f) = true := by
 unfold pxOk
 rw [List.all_eq_true]
 intro x hx
 obtain ⟨k, hk, rfl⟩ := List.mem_map.1 hx
 rcases h k (List.mem_range.1 hk) with e | e <;> rw [e] <;> rfl
theorem px_01 {l : List UInt8} (h : pxOk l = true) (k : Nat) : l.getD k 0 = 0 ∨ l.getD k 0 = 1 := by
 by_cases hk : k < l.length
 ·rw [List.getD_eq_getElem?_getD, List.getElem?_eq_getElem hk, Option.getD_some]
  unfold pxOk at h
  have := List.all_eq_true.1 h l[k] (List.getElem_mem hk)
  simpa using this
 ·rw [List.getD_eq_getElem?_getD, List.getElem?_eq_none (by omega)]; exact Or.inl rfl
theorem rctF_01 {l : List UInt8} {a b up k : Nat} {m : List Int} (h : pxOk l = true) : rctF l a b m up k = 0 ∨ rctF l a b m up k = 1 := by
 unfold rctF; split
 ·exact px_01 h _
 ·exact Or.inl rfl
theorem rct_ok {a b c up : Nat} {l : List UInt8} {m : List Int} (ha : a ≤ 640) (hc : c ≤ 640) (h : pxOk l = true) : Ok a c (rctL l a b m up c) := ⟨ha, hc, by simp [rctL], pxOk_map fun k _ => rctF_01 h⟩
theorem rst_ok {a b c up : Nat} {l s : List UInt8} {m : List Int} (ha : a ≤ 640) (hb : b ≤ 640) (h : pxOk l = true) (hs : pxOk s = true) : Ok a b (rstL l s a b c m up) := ⟨ha, hb, by simp [rstL], pxOk_map fun k _ => by
 unfold rstF; split
 ·exact px_01 hs _
 ·exact px_01 h _⟩
theorem not_ok {a c : Nat} {s : List UInt8} (h : Ok a c s) : Ok a c (s.map (· ^^^ 1)) := ⟨h.wa, h.hb, by rw [List.length_map]; exact h.len, by
 have hp := h.px
 unfold pxOk at hp ⊢
 rw [List.all_eq_true] at hp ⊢
 intro x hx
 obtain ⟨y, hy, rfl⟩ := List.mem_map.1 hx
 have := hp y hy
 have h01 : y = 0 ∨ y = 1 := by simpa using this
 rcases h01 with rfl | rfl <;> rfl⟩
theorem getD_rctL {l : List UInt8} {a b c up k : Nat} {m : List Int} (hk : k < a * c) : (rctL l a b m up c).getD k 0 = rctF l a b m up k := by
 rw [List.getD_eq_getElem?_getD, List.getElem?_eq_getElem (by simpa [rctL] using hk), Option.getD_some]
 simp [rctL]
theorem getD_rstL {l s : List UInt8} {a b c up k : Nat} {m : List Int} (hk : k < a * b) : (rstL l s a b c m up).getD k 0 = rstF l s a c m up k := by
 rw [List.getD_eq_getElem?_getD, List.getElem?_eq_getElem (by simpa [rstL] using hk), Option.getD_some]
 simp [rstL]
theorem rst_home {l : List UInt8} {a b c up : Nat} {m : List Int} (ha : 0 < a) (hl : l.length = a * b) : rstL l (rctL l a b m up c) a b c m up = l := by
 apply List.ext_getElem
 ·simp [rstL, hl]
 ·intro k h1 h2
  have hk : k < a * b := by simpa [rstL] using h1
  have hx := Nat.mod_lt k ha
  have hkb : k / a < b := Nat.div_lt_of_lt_mul hk
  have hdm := Nat.div_add_mod k a
  simp only [rstL, List.getElem_map, List.getElem_range]
  have hlk : l[k] = l.getD k 0 := by rw [List.getD_eq_getElem?_getD, List.getElem?_eq_getElem h2, Option.getD_some]
  rw [hlk, rstF]
  obtain ⟨mx, hmx⟩ : ∃ mx, (m.getD (k % a) 0).toNat = mx := ⟨_, rfl⟩
  rw [hmx]
  split
  ·rename_i hc
   obtain ⟨kq, hkq⟩ : ∃ q : Nat, k / a = q := ⟨_, rfl⟩
   rw [hkq] at hc hkb hdm ⊢
   have hlt : (kq + up - mx) * a + k % a < a * c := idx_lt hx (by omega)
   obtain ⟨e1, e2⟩ := rct_at (y := kq + up - mx) hx
   rw [getD_rctL hlt, rctF, e1, e2, hmx, if_pos (by omega)]
   congr 1
   rw [show mx + (kq + up - mx) - up = kq by omega, Nat.mul_comm, hdm]
  ·rfl
theorem rct_back {l s : List UInt8} {a b c up x y : Nat} {m : List Int} (hx : x < a) (hy : y < c) : (rctL (rstL l s a b c m up) a b m up c).getD (y * a + x) 0 = if up ≤ (m.getD x 0).toNat + y ∧ (m.getD x 0).toNat + y < up + b then s.getD (y * a + x) 0 else 0 := by
 obtain ⟨e1, e2⟩ := rct_at (y := y) hx
 rw [getD_rctL (idx_lt hx hy), rctF, e1, e2]
 obtain ⟨mx, hmx⟩ : ∃ mx, (m.getD x 0).toNat = mx := ⟨_, rfl⟩
 rw [hmx]
 split
 ·rename_i hc
  obtain ⟨d1, d2⟩ := rct_at (y := mx + y - up) hx
  rw [getD_rstL (idx_lt hx (by omega)), rstF, d1, d2, hmx, if_pos (by omega), show mx + y - up + up - mx = y by omega]
 ·rfl
theorem not_at {l : List UInt8} {a b c up x y : Nat} {m : List Int} (hx : x < a) (hy : y < c) (hc : up ≤ (m.getD x 0).toNat + y ∧ (m.getD x 0).toNat + y < up + b) : ((rctL l a b m up c).map (· ^^^ 1)).getD (y * a + x) 0 = l.getD (((m.getD x 0).toNat + y - up) * a + x) 0 ^^^ 1 := by
 obtain ⟨e1, e2⟩ := rct_at (y := y) hx
 have hk := idx_lt hx hy
 rw [List.getD_eq_getElem?_getD, List.getElem?_map, List.getElem?_eq_getElem (by simpa [rctL] using hk)]
 simp only [Option.map_some, Option.getD_some]
 congr 1
 have := getD_rctL (l := l) (b := b) (m := m) (up := up) hk
 rw [List.getD_eq_getElem?_getD, List.getElem?_eq_getElem (by simpa [rctL] using hk), Option.getD_some] at this
 rw [this, rctF, e1, e2, if_pos hc]
theorem err_ok {a b : Nat} {l : List UInt8} (h : Ok a b l) : (Img.err ⟨a, b, l⟩ == 0) = true := by rw [h.err]; rfl
theorem check_ok {a b : Nat} {l : List UInt8} {ls : List (List Int)} (h : Ok a b l) (hf : fitsB a b ls = true) : (checkS ⟨a, b, l⟩ ls == 0) = true := by
 have := err_ok h
 unfold checkS
 rw [this]; simp only [cond_true, Int.toNat_natCast, hf]; rfl
theorem rectS_ok {a b u d : Nat} {l : List UInt8} {ls : List (List Int)} (h : Ok a b l) (hf : fitsB a b ls = true) (hud : u + d + 1 ≤ 640) : rectS ⟨a, b, l⟩ ls u d = (⟨a, (u + d + 1 : Nat), rctL l a b (ls.getD 4 []) u (u + d + 1)⟩, 0) := by
 have e : (u : Int) + (d : Int) + 1 = ((u + d + 1 : Nat) : Int) := by omega
 have h1 : decide ((u : Int) < 0) = false := decide_eq_false (by omega)
 have h2 : decide ((d : Int) < 0) = false := decide_eq_false (by omega)
 have h3 : decide (((u + d + 1 : Nat) : Int) ≤ 640) = true := decide_eq_true (by omega)
 simp only [rectS, check_ok h hf, cond_true, h1, h2, Bool.or_false, cond_false, e, h3, Int.toNat_natCast]
theorem restS_ok {a b c u : Nat} {l s : List UInt8} {ls : List (List Int)} (h : Ok a b l) (hs : Ok a c s) (hf : fitsB a b ls = true) (hu : u < c) : restS ⟨a, b, l⟩ ⟨a, c, s⟩ ls u = (⟨a, b, rstL l s a b c (ls.getD 4 []) u⟩, 0) := by
 have h1 : decide ((u : Int) < 0) = false := decide_eq_false (by omega)
 have h2 : decide ((u : Int) ≥ (c : Int)) = false := decide_eq_false (by omega)
 have h3 : ((a : Int) != (a : Int)) = false := by simp
 simp only [restS, err_ok h, err_ok hs, cond_true, Int.toNat_natCast, hf, h1, h2, Bool.or_false, cond_false, h3]
end Go.Am

namespace Go.Am
open Go
attribute [local irreducible] Wp WpO WpX WpE
theorem u8m60 (c : UInt8) : IntKind.i64.wrap ((c.toNat : Int).tmod 60) = ((c.toNat % 60 : Nat) : Int) := u8m c 60 (by decide)
theorem px_not {v : UInt8} (h : v = 0 ∨ v = 1) : IntKind.u8.wrap (1 - (v.toNat : Int)) = (((v ^^^ 1 : UInt8).toNat : Nat) : Int) := by
 rcases h with rfl | rfl <;> decide
theorem px_xor {a b : UInt8} (ha : a = 0 ∨ a = 1) (hb : b = 0 ∨ b = 1) : a ^^^ b = 0 ∨ a ^^^ b = 1 := by
 rcases ha with rfl | rfl <;> rcases hb with rfl | rfl <;> decide
theorem stv_ext {H K H2 : AHeap} {sp gp : AVal} {ls : List (List Int)} {B : Nat} (h : StvR H sp ls B) (x : Ext H K) (hB : RowLt gp B) (y : ExtP K H2 gp) : StvR H2 sp ls B := h.keep (Nat.le_trans x.n y.n) fun s cs e hs hb hg he => by
 have := x.n
 rw [y.get s (by omega) ⟨fun r _ _ _ _ e => by have := hB.lt _ _ _ _ _ e; omega⟩, x.get s hs]
theorem K_StaveBack {c1 c2 c5 c6 : UInt8} {pb pc : AVal} {H : AHeap} {bends bits : List UInt8} [hpb : BytesI H pb bends] [hpc : BytesI H pc bits] : Con ext prog 11 10 [.int .u8 (c1.toNat : Int), .int .u8 (c2.toNat : Int), pb, pc, .int .u8 (c5.toNat : Int), .int .u8 (c6.toNat : Int)] H fun v H' => v = .bool true ∧ Ext H H' := by
 refine con_of (show prog 10 = some c10 from rfl) rfl rfl fun n0 hn => ?_
 haveI := hpb.one
 haveI := hpc.one
 repeat first
  | refine mI ?_
  | refine mB ?_
  | (refine mv ?_)
  | refine nl hKF ?_
  | refine sq ?_
  | refine rg fun KF hKF => ?_
 refine WpO.do (WpX.conD hn rfl rfl (by simp only [↓nrmL, nrmZ, Nat.reduceEqDiff, ↓reduceIte, Nat.reduceAdd, Int.reduceBEq, Int.reduceBNe, List.map] <;> rfl) (K_Wavy (c := c1) (c2 := c2) (p := pb) (bends := bends)) fun v H1 h5 => ?_)
 obtain ⟨w, h, n, L, lo, hi, P, gp, op, cells, B, R⟩ := h5
 obtain ⟨rfl, w1, w2, n1, n2, hW, lo1, hi1, lo2, hi2, eh, ok, hgp, hwr, hfr, hop, hst, B1, B2, B3, hext⟩ := R
 haveI : ExtI H H1 := ⟨hext⟩
 haveI := hgp
 haveI := hwr
 haveI := hfr
 haveI := hgp.one
 haveI := hop
 haveI := hop.one
 have hlenP := ok.len
 have hpxP := ok.px
 have hm1 : w * h ≤ 159 * 640 := Nat.mul_le_mul (by omega) ok.hb
 refine mT ?_
 refine xt ?_
 refine xt ?_
 refine nw ?_
 refine so rfl (rfl : _ = AVal.agg _) rfl rfl rfl (by simp only [↓nrmL, nrmZ, Nat.reduceEqDiff, ↓reduceIte, Nat.reduceAdd, Int.reduceBEq, Int.reduceBNe]; rfl) ?_
 refine mv ?_
 refine nl hKF ?_
 refine sq ?_
 refine sq ?_
 refine rg fun KF hKF => ?_
 refine fd ?_
 refine Fo.ld rfl rfl ?_
 refine ln (by simp only [↓nrmL, nrmK, Nat.reduceEqDiff, ↓reduceIte]; rfl) ?_
 refine mI ?_
 refine nl hKF ?_
 refine Wp.block ?_
 dsimp only [cond_true, cond_false]
 refine Wp.loopS [15, 16, 42, 43, 44, 45, 46, 47, 48, 49, 50, 51, 52, 53, 54, 55, 56, 57, 58, 59, 60, 61, 62, 63, 64, 65, 66, 67, 68] (fun i : Nat => [(42, .int .i64 i)]) (fun K i H2 => i ≤ w * h ∧ ∃ P, BytesI H2 gp P ∧ P.length = w * h ∧ pxOk P = true ∧ WrS H2 gp ∧ ExtP0 K H2 gp) (fun i => w * h - i) 0 rfl (fun _ => rfl) ⟨rfl, trivial⟩ ⟨Nat.zero_le _, P, inferInstance, hlenP, hpxP, inferInstance, inferInstance⟩ (by unfold fuel0 at hn; omega) ?_
 rintro i g2 H2 ⟨hi2', P2, hP2, hPl2, hPo2, hPw2, ⟨hx2⟩⟩
 haveI := hx2
 simp only [↓nrmL, nrmZ, Nat.reduceEqDiff, ↓reduceIte, Nat.reduceAdd, Int.reduceBEq, Int.reduceBNe]
 cases hc : decide ((i : Int) < ((P.length : Nat) : Int))
 rotate_left
 ·have hil : i < P.length := by have := of_decide_eq_true hc; omega
  have hwi := wa1 (a := i) (by omega)
  have r1 : (i : Int).tmod 1201 = ((i % 1201 : Nat) : Int) := rfl
  obtain ⟨k, hk⟩ : ∃ k, i % 1201 = k := ⟨_, rfl⟩
  have q1 := wq8 (i := k) (by omega)
  cases hc2 : decide (((k / 8 : Nat) : Int) < ((bits.length : Nat) : Int))
  ·skip
   repeat first
    | refine mI ?_
    | (refine mv ?_)
    | (refine bn rfl rfl rfl (by simp only [↓nrmL, nrmZ, Nat.reduceEqDiff, ↓reduceIte, Nat.reduceAdd, Int.reduceBEq, Int.reduceBNe, hc, r1, hk, q1, hc2]; rfl) ?_)
    | refine b0 ?_
    | (refine ln (by simp only [↓nrmL, nrmK, Nat.reduceEqDiff, ↓reduceIte]; rfl) ?_)
    | refine nl hKF ?_
    | refine sq ?_
    | refine rg fun KF hKF => ?_
    | refine ct rfl ?_
    | refine cf rfl ?_
    | refine sk ?_
    | refine Wp.block ?_
    | dsimp only [cond_true, cond_false]
   refine ⟨i + 1, by omega, ⟨by simp only [↓nrmL, nrmZ, Nat.reduceEqDiff, ↓reduceIte, Nat.reduceAdd, Int.reduceBEq, Int.reduceBNe]; rw [hwi], trivial⟩, by omega, P2, inferInstance, hPl2, hPo2, inferInstance, inferInstance⟩
  have hkb : k / 8 < bits.length := by have := of_decide_eq_true hc2; omega
  have hil2 : i < P2.length := by omega
  repeat first
   | refine mI ?_
   | (refine mv ?_)
   | (refine bn rfl rfl rfl (by simp only [↓nrmL, nrmZ, Nat.reduceEqDiff, ↓reduceIte, Nat.reduceAdd, Int.reduceBEq, Int.reduceBNe, hc, r1, hk, q1, hc2]; rfl) ?_)
   | (refine ln (by simp only [↓nrmL, nrmK, Nat.reduceEqDiff, ↓reduceIte]; rfl) ?_)
   | refine nl hKF ?_
   | refine sq ?_
   | refine rg fun KF hKF => ?_
   | refine ct rfl ?_
   | refine sk ?_
   | refine Wp.block ?_
   | dsimp only [cond_true, cond_false]
  refine Fr.dregion0 rfl fun KF hKF => ?_
  repeat first
   | (refine Er rfl (exec_ld rfl rfl) rfl ?_)
   | (refine Fe.pure rfl rfl (by simp only [↓nrmL, nrmZ, Nat.reduceEqDiff, ↓reduceIte, Nat.reduceAdd, Int.reduceBEq, Int.reduceBNe, q1, wr8, bitC_eq]; rfl) ?_)
   | refine Fe.pure rfl rfl rfl ?_
   | (refine Fe.pure rfl (exec_idxP (by (try simp only [↓nrmL, nrmZ, Nat.reduceEqDiff, ↓reduceIte, Nat.reduceAdd, Int.reduceBEq, Int.reduceBNe, q1, wr8, bitC_eq]); rfl) rfl ?_) (by simp only [↓nrmL, nrmZ, Nat.reduceEqDiff, ↓reduceIte, Nat.reduceAdd, Int.reduceBEq, Int.reduceBNe, q1, wr8, bitC_eq]; rfl) ?_; (focus omega))
   | (refine Er rfl (exec_ldB rfl (by omega)) rfl ?_)
  refine WpE.stB (P2[i] ^^^ bitC _) rfl rfl rfl (bits_xor _ _) hil2 fun H4 hb4 hw4 hx4 => ar ?_
  haveI := hx4
  refine WpE.nil (hKF _ _ ?_)
  refine rg fun KF hKF => ?_
  refine b0 ?_
  refine mI ?_
  refine nl hKF ?_
  dsimp only [cond_true, cond_false]
  exact ⟨i + 1, by omega, ⟨by simp only [↓nrmL, nrmZ, Nat.reduceEqDiff, ↓reduceIte, Nat.reduceAdd, Int.reduceBEq, Int.reduceBNe]; rw [hwi], trivial⟩, by omega, _, hb4, by rw [List.length_set]; exact hPl2, pxOk_set hPo2 (px_xor (by have := px_01 hPo2 i; rwa [List.getD_eq_getElem?_getD, List.getElem?_eq_getElem hil2, Option.getD_some] at this) (bitC_01 _)), hw4, inferInstance⟩
 have hil : i = P.length := by have := of_decide_eq_false hc; omega
 haveI sopgp : SepS op gp := ⟨fun r off len cap sz r' off' len' cap' sz' e e' => by have := B3 _ _ _ _ _ e; have := B2.lt _ _ _ _ _ e'; omega⟩
 obtain ⟨sp, hsp1, hsp2⟩ := hst (n - 1) (by omega)
 have hok2 : Ok w h P2 := ⟨ok.wa, ok.hb, hPl2, hPo2⟩
 have hfit := stave_fits w1 hW lo2 hi2 eh (show n - 1 < n by omega)
 obtain ⟨ls, hls⟩ : ∃ ls, staveL lo L (n - 1) = ls := ⟨_, rfl⟩
 rw [hls] at hfit hsp2
 have hsp3 := stv_ext hsp2 Ext0.ext B2 hx2
 have hlines := hsp3.lines
 obtain ⟨ps, hps, hrw⟩ := hlines.it
 obtain ⟨hl5, hpaths⟩ := fitsB_iff hfit
 have h4l : 4 < ls.length := by omega
 have hm := hpaths 4 h4l
 obtain ⟨q4, hq4, hI4⟩ := hrw.it 4 h4l
 obtain ⟨m, hmdef⟩ : ∃ m, ls[4] = m := ⟨_, rfl⟩
 have hm4 : ls.getD 4 [] = m := by rw [getDL_at h4l, hmdef]
 rw [hmdef] at hm hI4
 obtain ⟨hml, hw0⟩ := pathB_len hm
 haveI := hps
 haveI := hps.one
 haveI := hI4
 haveI := hI4.one
 have wn := ws1 (a := n) (by omega) (by omega)
 have hcl : cells.length = n := by have := hop.len; omega
 obtain ⟨u, hu⟩ : ∃ u, c5.toNat % 60 = u := ⟨_, rfl⟩
 obtain ⟨d, hd⟩ : ∃ d, c6.toNat % 60 = d := ⟨_, rfl⟩
 have tu := u8m60 c5
 have td := u8m60 c6
 rw [hu] at tu
 rw [hd] at td
 have hu60 : u < 60 := by rw [← hu]; exact Nat.mod_lt _ (by decide)
 have hd60 : d < 60 := by rw [← hd]; exact Nat.mod_lt _ (by decide)
 repeat first
  | (refine mv ?_)
  | (refine bn rfl rfl rfl (by simp only [↓nrmL, nrmZ, Nat.reduceEqDiff, ↓reduceIte, Nat.reduceAdd, Int.reduceBEq, Int.reduceBNe, hc, wn]; rfl) ?_)
  | (refine ln (by simp only [↓nrmL, nrmK, Nat.reduceEqDiff, ↓reduceIte]; rfl) ?_)
  | (refine Fo.idx (by simp only [↓nrmL, nrmK, Nat.reduceEqDiff, ↓reduceIte]; rfl) rfl ?_ (by simp only [↓nrmL, nrmZ, Nat.reduceEqDiff, ↓reduceIte, Nat.reduceAdd, Int.reduceBEq, Int.reduceBNe, hc, wn]; rfl) ?_; (focus omega))
  | refine nl hKF ?_
  | refine sq ?_
  | refine rg fun KF hKF => ?_
  | refine cf rfl ?_
  | refine xi ?_
 refine WpO.do (WpX.ldNP (p := op) (j := n - 1) (m := 1) (l := [sp]) rfl (by decide) (by omega) ?_ ?_)
 ·apply List.ext_getElem?
  intro t
  rw [List.getElem?_take, List.getElem?_drop]
  cases t with
  | zero => rw [if_pos (by omega), Nat.add_zero]; exact hsp1
  | succ t => rw [if_neg (by omega)]; rfl
 obtain ⟨c, hcdef⟩ : ∃ c, u + d + 1 = c := ⟨_, rfl⟩
 have hc640 : c ≤ 640 := by omega
 have eS := rectS_ok hok2 hfit (u := u) (d := d) (by omega)
 rw [hm4, hcdef] at eS
 obtain ⟨S, hS⟩ : ∃ S, rctL P2 w h m u c = S := ⟨_, rfl⟩
 have okS := rct_ok (m := m) (up := u) (b := h) ok.wa hc640 hPo2
 have eHome := restS_ok hok2 okS hfit (u := u) (by omega)
 rw [hm4, rst_home hw0 hPl2, hS] at eHome
 rw [hS] at eS okS
 have okN := not_ok okS
 have eN : notSpec ⟨w, c, S⟩ = (⟨w, c, S.map (· ^^^ 1)⟩, 0) := by simp only [notSpec, err_ok okS, cond_true]
 obtain ⟨N, hN⟩ : ∃ N, S.map (· ^^^ 1) = N := ⟨_, rfl⟩
 rw [hN] at okN eN
 have eO := restS_ok hok2 okN hfit (u := u) (by omega)
 rw [hm4] at eO
 have okO := rst_ok (a := w) (b := h) (c := c) (up := u) (m := m) ok.wa ok.hb hPo2 okN.px
 obtain ⟨O, hO⟩ : ∃ O, rstL P2 N w h c m u = O := ⟨_, rfl⟩
 rw [hO] at eO okO
 have eT := rectS_ok okO hfit (u := u) (d := d) (by omega)
 rw [hm4, hcdef] at eT
 obtain ⟨T, hT⟩ : ∃ T, rctL O w h m u c = T := ⟨_, rfl⟩
 have okT := rct_ok (m := m) (up := u) (b := h) ok.wa hc640 okO.px
 rw [hT] at eT okT
 have hTl := okT.len
 have hSl := okS.len
 have hmc : w * c ≤ 159 * 640 := Nat.mul_le_mul (by omega) hc640
 haveI : Short P2 := ⟨by omega⟩
 have b1 : IntKind.i64.wrap ((u : Int) + (d : Int)) = ((u + d : Nat) : Int) := wa (by omega)
 have b2 : IntKind.i64.wrap (((u + d : Nat) : Int) + 1) = (c : Int) := by rw [wa1 (by omega), hcdef]
 have b3 : ((w : Int) != (w : Int)) = false := by simp
 have b4 : ((c : Int) != (c : Int)) = false := by simp
 have hsg : decide ((⟨(w : Int), (h : Int), P2⟩ : Img) = ⟨w, h, P2⟩) = true := decide_eq_true rfl
 repeat first
  | refine mI ?_
  | (refine Fo.ldN rfl rfl (by simp only [↓nrmL, nrmZ, Nat.reduceEqDiff, ↓reduceIte, Nat.reduceAdd, Int.reduceBEq, Int.reduceBNe, tu, td]; rfl) ?_)
  | refine b0 ?_
  | refine nw ?_
  | (refine Fo.now rfl rfl (by simp only [↓nrmL, nrmZ, Nat.reduceEqDiff, ↓reduceIte, Nat.reduceAdd, Int.reduceBEq, Int.reduceBNe, tu, td]; rfl) ?_)
  | (refine so rfl (rfl : _ = AVal.agg _) rfl rfl rfl (by simp only [↓nrmL, nrmZ, Nat.reduceEqDiff, ↓reduceIte, Nat.reduceAdd, Int.reduceBEq, Int.reduceBNe, tu, td]; rfl) ?_)
  | refine nl hKF ?_
  | refine sq ?_
  | refine rg fun KF hKF => ?_
 refine WpO.do (WpX.conD hn rfl rfl (by simp only [↓nrmL, nrmZ, Nat.reduceEqDiff, ↓reduceIte, Nat.reduceAdd, Int.reduceBEq, Int.reduceBNe, List.map] <;> rfl) (K_Rectify (w := w) (h := h) (up := u) (down := d) (p := gp) (q := sp) (l := P2) (ls := ls) (hq := hlines.ext Ext0.ext)) fun v H3 h5 => ?_)
 rw [eS] at h5
 obtain ⟨x3, e1, p3, e2, hp3, hf3, hw3, hx3⟩ := h5
 subst e1 e2
 dsimp only at hp3
 haveI : ExtI _ H3 := ⟨hx3⟩
 haveI := hp3.one
 repeat first
  | refine mI ?_
  | refine mT ?_
  | (refine Fo.ldN rfl rfl (by simp only [↓nrmL, nrmZ, Nat.reduceEqDiff, ↓reduceIte, Nat.reduceAdd, Int.reduceBEq, Int.reduceBNe]; rfl) ?_)
  | refine xt ?_
  | refine nw ?_
  | (refine so rfl (rfl : _ = AVal.agg _) rfl rfl rfl (by simp only [↓nrmL, nrmZ, Nat.reduceEqDiff, ↓reduceIte, Nat.reduceAdd, Int.reduceBEq, Int.reduceBNe]; rfl) ?_)
  | refine nl hKF ?_
  | refine sq ?_
  | refine rg fun KF hKF => ?_
  | dsimp only [cond_true, cond_false]
 refine WpO.do (WpX.conD hn rfl rfl (by simp only [↓nrmL, nrmZ, Nat.reduceEqDiff, ↓reduceIte, Nat.reduceAdd, Int.reduceBEq, Int.reduceBNe, List.map] <;> rfl) (K_Restore (w := w) (h := h) (w2 := w) (h2 := c) (up := u) (p := gp) (p2 := p3) (q := sp) (l := P2) (s := S) (ls := ls) (hq := hlines.ext Ext0.ext)) fun v H4 h5 => ?_)
 rw [eHome] at h5
 obtain ⟨x4, e1, p4, e2, hp4, hf4, hw4, hx4⟩ := h5
 subst e1 e2
 dsimp only at hp4
 haveI : ExtI _ H4 := ⟨hx4⟩
 haveI := hp4.one
 simp only [b1, b2, b3, b4, hsg]
 repeat first
  | refine oy ?_
  | refine mI ?_
  | refine mB ?_
  | refine mT ?_
  | refine fd ?_
  | refine Fo.ld rfl rfl ?_
  | (refine Fo.ldN rfl rfl (by simp only [↓nrmL, nrmZ, Nat.reduceEqDiff, ↓reduceIte, Nat.reduceAdd, Int.reduceBEq, Int.reduceBNe, b1, b2, b3, b4, hsg]; rfl) ?_)
  | (refine bn rfl rfl rfl (by simp only [↓nrmL, nrmZ, Nat.reduceEqDiff, ↓reduceIte, Nat.reduceAdd, Int.reduceBEq, Int.reduceBNe, b1, b2, b3, b4, hsg]; rfl) ?_)
  | refine fB ?_
  | refine xt ?_
  | (refine Fo.pcall (v' := ?_) hn rfl (by simp only [↓nrmL, nrmZ, Nat.reduceEqDiff, ↓reduceIte, Nat.reduceAdd, Int.reduceBEq, Int.reduceBNe, b1, b2, b3, b4, hsg, List.map]; rfl) rfl ?hv fun _ _ => ?_; case hv => (simp only [↓nrmL, nrmZ, Nat.reduceEqDiff, ↓reduceIte, Nat.reduceAdd, Int.reduceBEq, Int.reduceBNe, b1, b2, b3, b4, hsg]; rfl))
  | refine nw ?_
  | refine Fo.now rfl rfl rfl ?_
  | (refine so rfl (rfl : _ = AVal.agg _) rfl rfl rfl (by simp only [↓nrmL, nrmZ, Nat.reduceEqDiff, ↓reduceIte, Nat.reduceAdd, Int.reduceBEq, Int.reduceBNe, b1, b2, b3, b4, hsg]; rfl) ?_)
  | refine nl hKF ?_
  | refine sq ?_
  | refine rg fun KF hKF => ?_
  | refine cf rfl ?_
  | refine sk ?_
 refine WpO.do (WpX.conD hn rfl rfl (by simp only [↓nrmL, nrmZ, Nat.reduceEqDiff, ↓reduceIte, Nat.reduceAdd, Int.reduceBEq, Int.reduceBNe, List.map] <;> rfl) (K_Not (w := w) (h := c) (l := S)) fun v H5 h5 => ?_)
 rw [eN] at h5
 obtain ⟨x5, e1, p5, e2, hp5, hf5, hw5, hx5⟩ := h5
 subst e1 e2
 dsimp only at hp5
 haveI : ExtI _ H5 := ⟨hx5⟩
 haveI := hp5.one
 repeat first
  | refine mI ?_
  | refine mT ?_
  | (refine Fo.ldN rfl rfl (by simp only [↓nrmL, nrmZ, Nat.reduceEqDiff, ↓reduceIte, Nat.reduceAdd, Int.reduceBEq, Int.reduceBNe]; rfl) ?_)
  | refine xt ?_
  | refine nw ?_
  | (refine so rfl (rfl : _ = AVal.agg _) rfl rfl rfl (by simp only [↓nrmL, nrmZ, Nat.reduceEqDiff, ↓reduceIte, Nat.reduceAdd, Int.reduceBEq, Int.reduceBNe]; rfl) ?_)
  | refine nl hKF ?_
  | refine sq ?_
  | refine rg fun KF hKF => ?_
  | dsimp only [cond_true, cond_false]
 refine WpO.do (WpX.conD hn rfl rfl (by simp only [↓nrmL, nrmZ, Nat.reduceEqDiff, ↓reduceIte, Nat.reduceAdd, Int.reduceBEq, Int.reduceBNe, List.map] <;> rfl) (K_Restore (w := w) (h := h) (w2 := w) (h2 := c) (up := u) (p := gp) (p2 := p5) (q := sp) (l := P2) (s := N) (ls := ls) (hq := hlines.ext Ext0.ext)) fun v H6 h5 => ?_)
 rw [eO] at h5
 obtain ⟨x6, e1, p6, e2, hp6, hf6, hw6, hx6⟩ := h5
 subst e1 e2
 dsimp only at hp6
 haveI : ExtI _ H6 := ⟨hx6⟩
 haveI := hp6.one
 repeat first
  | refine mI ?_
  | refine mT ?_
  | (refine Fo.ldN rfl rfl (by simp only [↓nrmL, nrmZ, Nat.reduceEqDiff, ↓reduceIte, Nat.reduceAdd, Int.reduceBEq, Int.reduceBNe]; rfl) ?_)
  | refine xt ?_
  | refine nw ?_
  | (refine so rfl (rfl : _ = AVal.agg _) rfl rfl rfl (by simp only [↓nrmL, nrmZ, Nat.reduceEqDiff, ↓reduceIte, Nat.reduceAdd, Int.reduceBEq, Int.reduceBNe]; rfl) ?_)
  | refine nl hKF ?_
  | refine sq ?_
  | refine rg fun KF hKF => ?_
  | dsimp only [cond_true, cond_false]
 refine WpO.do (WpX.conD hn rfl rfl (by simp only [↓nrmL, nrmZ, Nat.reduceEqDiff, ↓reduceIte, Nat.reduceAdd, Int.reduceBEq, Int.reduceBNe, List.map] <;> rfl) (K_Rectify (w := w) (h := h) (up := u) (down := d) (p := p6) (q := sp) (l := O) (ls := ls) (hq := hlines.ext Ext0.ext)) fun v H7 h5 => ?_)
 rw [eT] at h5
 obtain ⟨x7, e1, p7, e2, hp7, hf7, hw7, hx7⟩ := h5
 subst e1 e2
 dsimp only at hp7
 haveI : ExtI _ H7 := ⟨hx7⟩
 haveI := hp7.one
 repeat first
  | refine oy ?_
  | refine mI ?_
  | refine mB ?_
  | refine mT ?_
  | refine fd ?_
  | refine Fo.ld rfl rfl ?_
  | (refine bn rfl rfl rfl (by simp only [↓nrmL, nrmZ, Nat.reduceEqDiff, ↓reduceIte, Nat.reduceAdd, Int.reduceBEq, Int.reduceBNe]; rfl) ?_)
  | refine fB ?_
  | refine xt ?_
  | refine nw ?_
  | (refine so rfl (rfl : _ = AVal.agg _) rfl rfl rfl (by simp only [↓nrmL, nrmZ, Nat.reduceEqDiff, ↓reduceIte, Nat.reduceAdd, Int.reduceBEq, Int.reduceBNe]; rfl) ?_)
  | refine nl hKF ?_
  | refine sq ?_
  | refine rg fun KF hKF => ?_
  | refine cf rfl ?_
  | refine sk ?_
  | refine Wp.block ?_
  | dsimp only [cond_true, cond_false]
 refine Wp.loopS [12, 28, 29, 30, 31, 158, 159, 160, 161, 162, 163, 164, 165, 166, 167, 168, 169, 170, 171, 172, 173, 174, 175, 176, 177, 178, 179, 180, 181, 182, 183, 184, 185, 186, 187, 188, 189, 190, 191, 192, 193, 194, 195, 196, 197, 198, 199, 200, 201, 202, 203, 204, 205, 206, 207, 208, 209] (fun y : Nat => [(158, .int .i64 y)]) (fun K y H2 => y ≤ c ∧ H2 = K) (fun y => c - y) 0 rfl (fun _ => rfl) ⟨rfl, trivial⟩ ⟨Nat.zero_le _, rfl⟩ (by unfold fuel0 at hn; omega) ?_
 rintro y g3 H8 ⟨hyc, rfl⟩
 simp only [↓nrmL, nrmZ, Nat.reduceEqDiff, ↓reduceIte, Nat.reduceAdd, Int.reduceBEq, Int.reduceBNe]
 cases hcy : decide ((y : Int) < (c : Int))
 ·skip
  repeat first
   | refine mB ?_
   | (refine bn rfl rfl rfl (by simp only [↓nrmL, nrmZ, Nat.reduceEqDiff, ↓reduceIte, Nat.reduceAdd, Int.reduceBEq, Int.reduceBNe, hcy]; rfl) ?_)
   | (refine Fo.pcall (v' := ?_) hn rfl (by simp only [↓nrmL, nrmZ, Nat.reduceEqDiff, ↓reduceIte, Nat.reduceAdd, Int.reduceBEq, Int.reduceBNe, hcy, List.map]; rfl) rfl ?hv fun _ _ => ?_; case hv => rfl)
   | refine nl hKF ?_
   | refine sq ?_
   | refine rg fun KF hKF => ?_
   | refine cf rfl ?_
   | refine rt ?_
   | refine xi ?_
   | dsimp only [cond_true, cond_false]
  refine rz trivial ?_
  exact ⟨rfl, Ext0.ext⟩
 have hy : y < c := by have := of_decide_eq_true hcy; omega
 have hwy := wa1 (a := y) (by omega)
 repeat first
  | refine mI ?_
  | refine fd ?_
  | refine Fo.ld rfl rfl ?_
  | (refine bn rfl rfl rfl (by simp only [↓nrmL, nrmZ, Nat.reduceEqDiff, ↓reduceIte, Nat.reduceAdd, Int.reduceBEq, Int.reduceBNe, hcy]; rfl) ?_)
  | refine nl hKF ?_
  | refine sq ?_
  | refine rg fun KF hKF => ?_
  | refine ct rfl ?_
  | refine sk ?_
  | refine Wp.block ?_
  | dsimp only [cond_true, cond_false]
 refine Wp.loopS [12, 29, 30, 31, 163, 164, 165, 166, 167, 168, 169, 170, 171, 172, 173, 174, 175, 176, 177, 178, 179, 180, 181, 182, 183, 184, 185, 186, 187, 188, 189, 190, 191, 192, 193, 194, 195, 196, 197, 198, 199, 200, 201, 202, 203, 204, 205, 206, 207, 208] (fun x : Nat => [(163, .int .i64 x)]) (fun K x H2 => x ≤ w ∧ H2 = K) (fun x => w - x) 0 rfl (fun _ => rfl) ⟨rfl, trivial⟩ ⟨Nat.zero_le _, rfl⟩ (by unfold fuel0 at hn; omega) ?_
 rintro x g4 H9 ⟨hxw, rfl⟩
 simp only [↓nrmL, nrmZ, Nat.reduceEqDiff, ↓reduceIte, Nat.reduceAdd, Int.reduceBEq, Int.reduceBNe]
 cases hcx : decide ((x : Int) < (w : Int))
 ·skip
  repeat first
   | refine mI ?_
   | (refine bn rfl rfl rfl (by simp only [↓nrmL, nrmZ, Nat.reduceEqDiff, ↓reduceIte, Nat.reduceAdd, Int.reduceBEq, Int.reduceBNe, hcx]; rfl) ?_)
   | refine b0 ?_
   | refine nl hKF ?_
   | refine sq ?_
   | refine rg fun KF hKF => ?_
   | refine cf rfl ?_
   | refine xi ?_
   | dsimp only [cond_true, cond_false]
  refine ⟨y + 1, by omega, ⟨by simp only [↓nrmL, nrmZ, Nat.reduceEqDiff, ↓reduceIte, Nat.reduceAdd, Int.reduceBEq, Int.reduceBNe]; rw [hwy], trivial⟩, by omega, rfl⟩
 have hx : x < w := by have := of_decide_eq_true hcx; omega
 have hwx := wa1 (a := x) (by omega)
 have hxm : x < m.length := by omega
 obtain ⟨hm0, hmb⟩ := pathB_range hm hxm
 obtain ⟨mx, hmx⟩ : ∃ k : Nat, m[x] = (k : Int) := ⟨m[x].toNat, by omega⟩
 have hgx : (m.getD x 0).toNat = mx := by rw [getD_at hxm, hmx]; rfl
 have hhb := ok.hb
 have c1' : IntKind.i64.wrap ((mx : Int) - (u : Int)) = (mx : Int) - (u : Int) := w64 (by omega)
 have c2' : IntKind.i64.wrap ((mx : Int) - (u : Int) + (y : Int)) = (mx : Int) - (u : Int) + (y : Int) := w64 (by omega)
 have hTi : y * w + x < T.length := by have := idx_lt hx hy; omega
 have c3 : IntKind.i64.wrap ((y : Int) * (w : Int)) = ((y * w : Nat) : Int) := wm (by have := idx_lt hx hy; omega)
 have c4 : IntKind.i64.wrap (((y * w : Nat) : Int) + (x : Int)) = ((y * w + x : Nat) : Int) := wa (by have := idx_lt hx hy; omega)
 have hTv : T[y * w + x] = if u ≤ mx + y ∧ mx + y < u + h then N.getD (y * w + x) 0 else 0 := by
  have h1 := rct_back (l := P2) (s := N) (a := w) (b := h) (c := c) (up := u) (m := m) hx hy
  rw [hO, hT, hgx, List.getD_eq_getElem?_getD, List.getElem?_eq_getElem hTi, Option.getD_some] at h1
  exact h1
 by_cases hr : u ≤ mx + y ∧ mx + y < u + h
 ·obtain ⟨at', hat'⟩ : ∃ k, mx + y - u = k := ⟨_, rfl⟩
  have hat : (mx : Int) - (u : Int) + (y : Int) = (at' : Int) := by omega
  have c5 : IntKind.i64.wrap (at' : Int) = (at' : Int) := w64 (by omega)
  have g1 : decide ((at' : Int) ≥ 0) = true := decide_eq_true (by omega)
  have g2' : decide ((at' : Int) < (h : Int)) = true := decide_eq_true (by omega)
  have hlt := idx_lt hx (show at' < h by omega)
  have hPi : at' * w + x < P2.length := by omega
  have d1 : IntKind.i64.wrap ((at' : Int) * (w : Int)) = ((at' * w : Nat) : Int) := wm (by omega)
  have d2 : IntKind.i64.wrap (((at' * w : Nat) : Int) + (x : Int)) = ((at' * w + x : Nat) : Int) := wa (by omega)
  have hgP : P2.getD (at' * w + x) 0 = P2[at' * w + x] := by rw [List.getD_eq_getElem?_getD, List.getElem?_eq_getElem hPi, Option.getD_some]
  have h01 := px_01 hPo2 (at' * w + x)
  rw [hgP] at h01
  have d3 := px_not h01
  have hTe : T[y * w + x] = P2[at' * w + x] ^^^ 1 := by
   rw [hTv, if_pos hr]
   have h1 := not_at (l := P2) (a := w) (b := h) (c := c) (up := u) (m := m) hx hy (by rw [hgx]; exact hr)
   rw [hS, hN, hgx, hat', hgP] at h1
   exact h1
  have d4 : ((((P2[at' * w + x] ^^^ 1 : UInt8).toNat : Nat) : Int) != (((P2[at' * w + x] ^^^ 1 : UInt8).toNat : Nat) : Int)) = false := by simp
  repeat first
   | refine mI ?_
   | refine fd ?_
   | refine Fo.ld rfl rfl ?_
   | (refine bn rfl rfl rfl (by simp only [↓nrmL, nrmZ, Nat.reduceEqDiff, ↓reduceIte, Nat.reduceAdd, Int.reduceBEq, Int.reduceBNe, hcx]; rfl) ?_)
   | (refine Fo.idx (by simp only [↓nrmL, nrmK, Nat.reduceEqDiff, ↓reduceIte]; rfl) rfl ?_ (by simp only [↓nrmL, nrmZ, Nat.reduceEqDiff, ↓reduceIte, Nat.reduceAdd, Int.reduceBEq, Int.reduceBNe, hcx]; rfl) ?_; (focus omega))
   | refine nl hKF ?_
   | refine sq ?_
   | refine rg fun KF hKF => ?_
   | refine ct rfl ?_
   | refine sk ?_
   | refine Wp.block ?_
  refine Fo.now rfl (exec_ldP (p := sp) (j := 4) rfl hq4) rfl ?_
  simp only [↓nrmL, nrmZ, Nat.reduceEqDiff, ↓reduceIte, Nat.reduceAdd, Int.reduceBEq, Int.reduceBNe, hmx, c1', hat, c5, g1, g2', d1, d2, d3, c3, c4, hTe, d4]
  repeat first
   | refine oy ?_
   | refine mI ?_
   | refine mB ?_
   | refine fd ?_
   | refine Fo.ld rfl rfl ?_
   | (refine bn rfl rfl rfl (by simp only [↓nrmL, nrmZ, Nat.reduceEqDiff, ↓reduceIte, Nat.reduceAdd, Int.reduceBEq, Int.reduceBNe, hmx, c1', hat, c5, g1, g2', d1, d2, d3, c3, c4, hTe, d4]; rfl) ?_)
   | refine b0 ?_
   | refine tB ?_
   | (refine Fo.idx (by simp only [↓nrmL, nrmK, Nat.reduceEqDiff, ↓reduceIte]; rfl) rfl ?_ (by simp only [↓nrmL, nrmZ, Nat.reduceEqDiff, ↓reduceIte, Nat.reduceAdd, Int.reduceBEq, Int.reduceBNe, hmx, c1', hat, c5, g1, g2', d1, d2, d3, c3, c4, hTe, d4]; rfl) ?_; (focus omega))
   | (refine Fo.ldB rfl ?_ (by simp only [↓nrmL, nrmZ, Nat.reduceEqDiff, ↓reduceIte, Nat.reduceAdd, Int.reduceBEq, Int.reduceBNe, hmx, c1', hat, c5, g1, g2', d1, d2, d3, c3, c4, hTe, d4]; rfl) ?_; (focus omega))
   | (refine Fo.ldB rfl ?_ rfl ?_; (focus omega))
   | (refine Fo.ldI rfl ?_ (by simp only [↓nrmL, nrmZ, Nat.reduceEqDiff, ↓reduceIte, Nat.reduceAdd, Int.reduceBEq, Int.reduceBNe, hmx, c1', hat, c5, g1, g2', d1, d2, d3, c3, c4, hTe, d4]; rfl) ?_; (focus omega))
   | refine nl hKF ?_
   | refine sq ?_
   | refine rg fun KF hKF => ?_
   | refine ct rfl ?_
   | refine cf rfl ?_
   | refine sk ?_
   | dsimp only [cond_true, cond_false]
  refine ⟨x + 1, by omega, ⟨by simp only [↓nrmL, nrmZ, Nat.reduceEqDiff, ↓reduceIte, Nat.reduceAdd, Int.reduceBEq, Int.reduceBNe]; rw [hwx], trivial⟩, by omega, rfl⟩
 have hT0 : T[y * w + x] = 0 := by rw [hTv, if_neg hr]
 have z1 : (((T[y * w + x]).toNat : Int) != 0) = false := by rw [hT0]; rfl
 obtain ⟨z, hz⟩ : ∃ z, (mx : Int) - (u : Int) + (y : Int) = z := ⟨_, rfl⟩
 have c5 : IntKind.i64.wrap z = z := w64 (by omega)
 cases g1 : decide (z ≥ 0)
 ·skip
  repeat first
   | refine mI ?_
   | refine fd ?_
   | refine Fo.ld rfl rfl ?_
   | (refine bn rfl rfl rfl (by simp only [↓nrmL, nrmZ, Nat.reduceEqDiff, ↓reduceIte, Nat.reduceAdd, Int.reduceBEq, Int.reduceBNe, hcx]; rfl) ?_)
   | (refine Fo.idx (by simp only [↓nrmL, nrmK, Nat.reduceEqDiff, ↓reduceIte]; rfl) rfl ?_ (by simp only [↓nrmL, nrmZ, Nat.reduceEqDiff, ↓reduceIte, Nat.reduceAdd, Int.reduceBEq, Int.reduceBNe, hcx]; rfl) ?_; (focus omega))
   | refine nl hKF ?_
   | refine sq ?_
   | refine rg fun KF hKF => ?_
   | refine ct rfl ?_
   | refine sk ?_
   | refine Wp.block ?_
  refine Fo.now rfl (exec_ldP (p := sp) (j := 4) rfl hq4) rfl ?_
  simp only [↓nrmL, nrmZ, Nat.reduceEqDiff, ↓reduceIte, Nat.reduceAdd, Int.reduceBEq, Int.reduceBNe, hmx, c1', hz, c5, g1, c3, c4, z1]
  repeat first
   | refine ox ?_
   | refine mI ?_
   | refine mB ?_
   | refine fd ?_
   | refine Fo.ld rfl rfl ?_
   | (refine bn rfl rfl rfl (by simp only [↓nrmL, nrmZ, Nat.reduceEqDiff, ↓reduceIte, Nat.reduceAdd, Int.reduceBEq, Int.reduceBNe, hmx, c1', hz, c5, g1, c3, c4, z1]; rfl) ?_)
   | refine b0 ?_
   | refine fB ?_
   | (refine Fo.idx (by simp only [↓nrmL, nrmK, Nat.reduceEqDiff, ↓reduceIte]; rfl) rfl ?_ (by simp only [↓nrmL, nrmZ, Nat.reduceEqDiff, ↓reduceIte, Nat.reduceAdd, Int.reduceBEq, Int.reduceBNe, hmx, c1', hz, c5, g1, c3, c4, z1]; rfl) ?_; (focus omega))
   | (refine Fo.ldB rfl ?_ rfl ?_; (focus omega))
   | (refine Fo.ldI rfl ?_ (by simp only [↓nrmL, nrmZ, Nat.reduceEqDiff, ↓reduceIte, Nat.reduceAdd, Int.reduceBEq, Int.reduceBNe, hmx, c1', hz, c5, g1, c3, c4, z1]; rfl) ?_; (focus omega))
   | refine nl hKF ?_
   | refine sq ?_
   | refine rg fun KF hKF => ?_
   | refine cf rfl ?_
   | refine sk ?_
   | dsimp only [cond_true, cond_false]
  refine ⟨x + 1, by omega, ⟨by simp only [↓nrmL, nrmZ, Nat.reduceEqDiff, ↓reduceIte, Nat.reduceAdd, Int.reduceBEq, Int.reduceBNe]; rw [hwx], trivial⟩, by omega, rfl⟩
 have g2' : decide (z < (h : Int)) = false := decide_eq_false (by have := of_decide_eq_true g1; omega)
 repeat first
  | refine mI ?_
  | refine fd ?_
  | refine Fo.ld rfl rfl ?_
  | (refine bn rfl rfl rfl (by simp only [↓nrmL, nrmZ, Nat.reduceEqDiff, ↓reduceIte, Nat.reduceAdd, Int.reduceBEq, Int.reduceBNe, hcx]; rfl) ?_)
  | (refine Fo.idx (by simp only [↓nrmL, nrmK, Nat.reduceEqDiff, ↓reduceIte]; rfl) rfl ?_ (by simp only [↓nrmL, nrmZ, Nat.reduceEqDiff, ↓reduceIte, Nat.reduceAdd, Int.reduceBEq, Int.reduceBNe, hcx]; rfl) ?_; (focus omega))
  | refine nl hKF ?_
  | refine sq ?_
  | refine rg fun KF hKF => ?_
  | refine ct rfl ?_
  | refine sk ?_
  | refine Wp.block ?_
 refine Fo.now rfl (exec_ldP (p := sp) (j := 4) rfl hq4) rfl ?_
 simp only [↓nrmL, nrmZ, Nat.reduceEqDiff, ↓reduceIte, Nat.reduceAdd, Int.reduceBEq, Int.reduceBNe, hmx, c1', hz, c5, g1, g2', c3, c4, z1]
 repeat first
  | refine oy ?_
  | refine mI ?_
  | refine mB ?_
  | refine fd ?_
  | refine Fo.ld rfl rfl ?_
  | (refine bn rfl rfl rfl (by simp only [↓nrmL, nrmZ, Nat.reduceEqDiff, ↓reduceIte, Nat.reduceAdd, Int.reduceBEq, Int.reduceBNe, hmx, c1', hz, c5, g1, g2', c3, c4, z1]; rfl) ?_)
  | refine b0 ?_
  | refine tB ?_
  | (refine Fo.idx (by simp only [↓nrmL, nrmK, Nat.reduceEqDiff, ↓reduceIte]; rfl) rfl ?_ (by simp only [↓nrmL, nrmZ, Nat.reduceEqDiff, ↓reduceIte, Nat.reduceAdd, Int.reduceBEq, Int.reduceBNe, hmx, c1', hz, c5, g1, g2', c3, c4, z1]; rfl) ?_; (focus omega))
  | (refine Fo.ldB rfl ?_ rfl ?_; (focus omega))
  | (refine Fo.ldI rfl ?_ (by simp only [↓nrmL, nrmZ, Nat.reduceEqDiff, ↓reduceIte, Nat.reduceAdd, Int.reduceBEq, Int.reduceBNe, hmx, c1', hz, c5, g1, g2', c3, c4, z1]; rfl) ?_; (focus omega))
  | refine nl hKF ?_
  | refine sq ?_
  | refine rg fun KF hKF => ?_
  | refine cf rfl ?_
  | refine sk ?_
  | dsimp only [cond_true, cond_false]
 refine ⟨x + 1, by omega, ⟨by simp only [↓nrmL, nrmZ, Nat.reduceEqDiff, ↓reduceIte, Nat.reduceAdd, Int.reduceBEq, Int.reduceBNe]; rw [hwx], trivial⟩, by omega, rfl⟩
end Go.Am

namespace Go.Proofs.Ytpochhefklmnfaa.StaveBack
open Go.ChangeShapes Go.WideShapes Go.ChangeAt Go.RowKit Go.Am Go.Proofs.Ytpochhefklmnfaa.Laid

theorem con (H : AHeap) (avs : List AVal) (ht : tablesIn aroundT H = true) (h : ArgS Try.prog H 3 [5, 5, 22, 22, 5, 5] avs) : Con ext prog 11 10 avs H fun v H' => v = .bool true ∧ Ext H H' := by
  obtain ⟨a0, r0, rfl, h0, a1, r1, rfl, h1, a2, r2, rfl, h2, a3, r3, rfl, h3, a4, r4, rfl, h4, a5, r5, rfl, h5, rfl⟩ := h
  obtain ⟨i0, rfl, wf0⟩ := shape_int Try.underlying5 h0
  obtain ⟨s0, rfl⟩ := u8_of wf0
  obtain ⟨i1, rfl, wf1⟩ := shape_int Try.underlying5 h1
  obtain ⟨s1, rfl⟩ := u8_of wf1
  obtain ⟨p2, l2, rfl, k2, _⟩ := shape_bytes Try.underlying22 Try.underlying5 (by kernel_rfl) h2
  haveI o2 := k2.one
  obtain ⟨p3, l3, rfl, k3, _⟩ := shape_bytes Try.underlying22 Try.underlying5 (by kernel_rfl) h3
  haveI o3 := k3.one
  obtain ⟨i4, rfl, wf4⟩ := shape_int Try.underlying5 h4
  obtain ⟨s4, rfl⟩ := u8_of wf4
  obtain ⟨i5, rfl, wf5⟩ := shape_int Try.underlying5 h5
  obtain ⟨s5, rfl⟩ := u8_of wf5
  have e0 : argV Try.prog 5 [.int .u8 (s0.toNat : Int)] = .int .u8 (s0.toNat : Int) := by simp only [argV, show aggTy Try.prog 5 = false by kernel_rfl, cond_false, List.headD_cons]
  have e1 : argV Try.prog 5 [.int .u8 (s1.toNat : Int)] = .int .u8 (s1.toNat : Int) := by simp only [argV, show aggTy Try.prog 5 = false by kernel_rfl, cond_false, List.headD_cons]
  have e2 : argV Try.prog 22 [p2] = p2 := by simp only [argV, show aggTy Try.prog 22 = false by kernel_rfl, cond_false, List.headD_cons]
  have e3 : argV Try.prog 22 [p3] = p3 := by simp only [argV, show aggTy Try.prog 22 = false by kernel_rfl, cond_false, List.headD_cons]
  have e4 : argV Try.prog 5 [.int .u8 (s4.toNat : Int)] = .int .u8 (s4.toNat : Int) := by simp only [argV, show aggTy Try.prog 5 = false by kernel_rfl, cond_false, List.headD_cons]
  have e5 : argV Try.prog 5 [.int .u8 (s5.toNat : Int)] = .int .u8 (s5.toNat : Int) := by simp only [argV, show aggTy Try.prog 5 = false by kernel_rfl, cond_false, List.headD_cons]
  rw [e0, e1, e2, e3, e4, e5]
  exact (K_StaveBack (c1 := s0) (c2 := s1) (pb := p2) (pc := p3) (bends := l2) (bits := l3) (c5 := s4) (c6 := s5))

theorem contract (H : Type) (enc : TypeId × Value → H) (W : World) (base : Nat) (args : Array Value) (ds gs : List (DataW H)) (before : List MemPlace)
    (hval : ∀ (j : Nat) t v, Try.f10.params[j]? = some t → args[j]? = some v → Value.okWide Try.prog W .any base t v)
    (hW : DataW.Whole enc Try.prog Try.f10.params.toList Rows.staveBackSpec.vars false W args.toList ds gs before) (hL : laidMetH Try.prog Rows.staveBackRow.laid W) :
    Calls Try.prog 10 args W fun e W' => ∃ v, e = .returned v ∧ Rows.staveBackSpec.post enc Try.prog Try.f10 false true false false W args v W' := by
  have hW' := hW
  obtain ⟨p, q, hA, _⟩ := hW'
  rw [Try.params10] at hA
  obtain ⟨v0, vs0, d0, ds0, p0, q0, _, rfl, _, _, r0⟩ := trodAll_cons hA
  obtain ⟨v1, vs1, d1, ds1, p1, q1, _, rfl, _, _, r1⟩ := trodAll_cons r0
  obtain ⟨v2, vs2, d2, ds2, p2, q2, _, rfl, _, _, r2⟩ := trodAll_cons r1
  obtain ⟨v3, vs3, d3, ds3, p3, q3, _, rfl, _, _, r3⟩ := trodAll_cons r2
  obtain ⟨v4, vs4, d4, ds4, p4, q4, _, rfl, _, _, r4⟩ := trodAll_cons r3
  obtain ⟨v5, vs5, d5, ds5, p5, q5, _, rfl, _, _, r5⟩ := trodAll_cons r4
  obtain ⟨_, rfl, _⟩ := trodAll_nil r5
  exact law_calls (tb := 4) (n := 3) (d := 11) (tabs := aroundT) mixed progOk Try.func10 rfl (by decide +kernel) laidOut rowed full (by kernel_rfl) rfl (by kernel_rfl) Try.underlying4 (by kernel_rfl) (by kernel_rfl)
    (fun H avs ht h => con H avs ht (by rw [Try.params10] at h; exact h)) H enc W base args _ gs before rfl hval hW around_cells

theorem laid_met (os : Os) : laidMet Try.prog Rows.staveBackRow.laid ((laidWorld os).forCall (fun _ _ => 0) ⟨#[], #[.int .u8 0, .int .u8 0, .slice none 0 0, .slice none 0 0, .int .u8 0, .int .u8 0], []⟩).memory :=
  laidMet_of_run' 8 (by kernel_rfl) (by kernel_rfl)
theorem reads (os : Os) {H : Type} (enc : TypeId × Value → H) : ∃ places, DataW.whole enc Try.prog ((laidWorld os).forCall (fun _ _ => 0) ⟨#[], #[.int .u8 0, .int .u8 0, .slice none 0 0, .slice none 0 0, .int .u8 0, .int .u8 0], []⟩).memory Try.f10.params.toList Rows.staveBackSpec.vars false #[Value.int .u8 0, .int .u8 0, .slice none 0 0, .slice none 0 0, .int .u8 0, .int .u8 0].toList 8 = some ([.lit (.int .u8 0), .lit (.int .u8 0), .nil, .nil, .lit (.int .u8 0), .lit (.int .u8 0)], [], places) :=
  ⟨[], by kernel_rfl⟩

theorem lifted (os : Os) (started : os.Started) (H : Type) (enc : TypeId × Value → H) (F : Stop.Interp) :
    ReturnsInHanded {} Try.checked os 10 .any ((OpenSpec.ofChange Rows.staveBackSpec).preRow enc Try.prog Try.f10 Rows.staveBackRow.domain false Rows.staveBackRow.laid) (((OpenSpec.ofChange Rows.staveBackSpec).at F).post enc Try.prog Try.f10 false true false false) := by
  obtain ⟨places, hx⟩ := reads os enc
  refine returnsInHanded_of_row (C := Try.checked) (s := OpenSpec.ofChange Rows.staveBackSpec) own started (by kernel_rfl) Try.func10
    (witness_row_at (enc := enc) (C := Try.checked) false (laidWorld os) #[.int .u8 0, .int .u8 0, .slice none 0 0, .slice none 0 0, .int .u8 0, .int .u8 0] rfl (by kernel_rfl) (by kernel_rfl) (by kernel_rfl)
      (OpenSpec.preRow_of_cond 8 hx (by kernel_rfl) (fun k hk => by cases hk) (by kernel_rfl) (laid_met os))) ?_
  intro W base args ds gs before hval hW _ _ _ hL _ _
  exact contract H enc W base args ds gs before hval hW hL

theorem said : Rows.StaveBackSaid :=
  OpenClaim.holds_of_cond 10 Try.f10 rfl rfl rfl rfl rfl rfl rfl ⟨rfl, rfl, rfl, rfl, rfl⟩ rfl rfl rfl rfl rfl (by kernel_rfl) Try.func10 (by kernel_rfl)
    (of_decide_eq_true (by kernel_rfl)) (by unfold Func.isWrapper; first | (rw [if_pos (by decide +kernel)]; kernel_rfl) | (rw [if_neg (by decide +kernel)]; exact ⟨rfl, rfl⟩))
    (fun os started H enc _ F => by rw [OpenClaim.pre_eq_preRow]; exact lifted os started H enc F)
end Go.Proofs.Ytpochhefklmnfaa.StaveBack
