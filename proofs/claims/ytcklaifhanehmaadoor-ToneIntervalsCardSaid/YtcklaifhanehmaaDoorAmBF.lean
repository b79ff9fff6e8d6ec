import Derived.Test.YtcklaifhanehmaaDoorAmBE
set_option linter.unusedSimpArgs false
set_option linter.unusedVariables false
set_option maxHeartbeats 8000000
set_option maxRecDepth 100000
set_option synthInstance.maxHeartbeats 4000000
set_option synthInstance.maxSize 1000000000
namespace Go.Am
open Go
attribute [local irreducible] Wp WpO WpX WpE
def ReadR (l : Bs) (v : AVal) : Prop :=
 (∃ n e : Int, 0 ≤ n ∧ n ≤ 69 ∧ -2 ≤ e ∧ e ≤ 1 ∧ hitB l (minB l) n e = true ∧ v = .tuple [.agg [.int .i64 (candI (minB l) n e), .int .i64 (candS (minB l) n e)], .int .i64 0]) ∨
 ((∀ n e : Int, -2 ≤ e → e ≤ 1 → hitB l (minB l) n e = false) ∧ v = .tuple [.agg [.int .i64 0, .int .i64 0], .int .i64 5])
theorem K_Read {l : Bs} {H : AHeap} [hE : ErrsI H] [hl : Len47 l] : Con ext prog 7 50 [strV l] H fun v H' => ReadR l v ∧ Ext H H' := by
 refine con_of (show prog 50 = some c50 from rfl) rfl rfl fun m hn => ?_
 have hle := hl.le
 have hrl : (restL l).length ≤ l.length := by
  unfold restL
  cases minB l
  ·exact Nat.le_refl _
  ·simp only [cond_true, List.length_drop]; omega
 haveI : Len47 (restL l) := ⟨by omega⟩
 cases h0 : (restL l == ([] : Bs))
 rotate_left
 ·have hr : restL l = [] := by
   cases hq : restL l with
   | nil => rfl
   | cons => rw [hq] at h0; cases h0
  have hno : ∀ n e : Int, -2 ≤ e → e ≤ 1 → hitB l (minB l) n e = false := fun n e _ _ => by
   cases hh : hitB l (minB l) n e
   ·rfl
   ·have := (hit_tail hh).2.1
    rw [hr] at this; simp at this
  repeat first
   | (refine Fo.eqStr rfl rfl (by simp only [↓nrmL, nrmZ, Nat.reduceEqDiff, ↓reduceIte, Nat.reduceAdd, Int.reduceBEq, Int.reduceBNe, h0]; rfl) ?_)
   | refine Fo.mov (rfl : _ = strV _) ?_
   | (refine mv ?_)
   | refine xt ?_
   | (refine Fo.pcall (v' := ?_) hn rfl (by simp only [↓nrmL, nrmZ, Nat.reduceEqDiff, ↓reduceIte, Nat.reduceAdd, Int.reduceBEq, Int.reduceBNe, h0, List.map]; rfl) rfl ?hv fun _ _ => ?_; case hv => rfl)
   | refine nw ?_
   | (refine ob (cs' := ?_) ?hc ?_; case hc => rfl)
   | (refine so rfl (rfl : _ = AVal.agg _) rfl rfl rfl (by simp only [↓nrmL, nrmZ, Nat.reduceEqDiff, ↓reduceIte, Nat.reduceAdd, Int.reduceBEq, Int.reduceBNe, h0]; rfl) ?_)
   | refine nl hKF ?_
   | refine sq ?_
   | refine rg fun KF hKF => ?_
   | refine ct rfl ?_
   | refine rt ?_
   | dsimp only [cond_true, cond_false]
  refine rz trivial ?_
  exact ⟨Or.inr ⟨hno, rfl⟩, Ext0.ext⟩
 have hp : 1 ≤ (restL l).length := by
  cases hq : restL l with
  | nil => rw [hq] at h0; cases h0
  | cons => exact Nat.succ_pos _
 have xd : ((restL l).drop 1).take ((restL l).length - 1) = (restL l).drop 1 := by rw [List.take_of_length_le (by rw [List.length_drop]; omega)]
 haveI := drop1_47 (l := restL l) inferInstance
 repeat first
  | (refine Fo.eqStr rfl rfl (by simp only [↓nrmL, nrmZ, Nat.reduceEqDiff, ↓reduceIte, Nat.reduceAdd, Int.reduceBEq, Int.reduceBNe, h0, xd]; rfl) ?_)
  | (refine Fo.slcStr (rfl : _ = strV _) (by first | exact Or.inl ⟨rfl, rfl⟩ | exact Or.inr ⟨_, rfl⟩) (by first | exact Or.inl ⟨rfl, rfl⟩ | exact Or.inr ⟨_, rfl⟩) ?_ ?_ (by simp only [↓nrmL, nrmZ, Nat.reduceEqDiff, ↓reduceIte, Nat.reduceAdd, Int.reduceBEq, Int.reduceBNe, h0, xd]; rfl) ?_; (focus omega); (focus omega))
  | refine Fo.mov (rfl : _ = strV _) ?_
  | (refine mv ?_)
  | refine xt ?_
  | (refine Fo.pcall (v' := ?_) hn rfl (by simp only [↓nrmL, nrmZ, Nat.reduceEqDiff, ↓reduceIte, Nat.reduceAdd, Int.reduceBEq, Int.reduceBNe, h0, xd, List.map]; rfl) rfl ?hv fun _ _ => ?_; case hv => rfl)
  | refine nw ?_
  | refine nl hKF ?_
  | refine sq ?_
  | refine rg fun KF hKF => ?_
  | refine cf rfl ?_
  | refine sk ?_
 refine WpO.do (WpX.conD hn rfl rfl (by simp only [↓nrmL, nrmZ, Nat.reduceEqDiff, ↓reduceIte, Nat.reduceAdd, Int.reduceBEq, Int.reduceBNe, List.map] <;> rfl) (K_Atoi (hE := ⟨hE.it.ext Ext0.ext⟩) (l := (restL l).drop 1)) fun v H1 h5 => ?_)
 obtain ⟨N, er, rfl, her, hk, hx⟩ := h5
 haveI : ExtI _ H1 := ⟨hx⟩
 have hhit : ∀ n e : Int, hitB l (minB l) n e = true → N = n + 1 ∧ er = .niface ∧ 0 ≤ n ∧ n ≤ 69 := fun n e hh => by
  obtain ⟨g1, _, g2⟩ := hit_tail hh
  have g3 := stepI_of g1
  have g4 := g3.lo; have g5 := g3.hi
  obtain ⟨k1, k2⟩ := hk (n + 1).toNat (by omega) g2
  exact ⟨by omega, k2, g4, g5⟩
 rcases her with rfl | ⟨et, ex, rfl⟩
 rotate_left
 ·have hno : ∀ n e : Int, -2 ≤ e → e ≤ 1 → hitB l (minB l) n e = false := fun n e _ _ => by
   cases hh : hitB l (minB l) n e
   ·rfl
   ·have := (hhit n e hh).2.1
    cases this
  repeat first
   | (refine mv ?_)
   | refine ox ?_
   | refine tB ?_
   | refine xt ?_
   | (refine ob (cs' := ?_) ?hc ?_; case hc => rfl)
   | (refine Fo.now rfl rfl (by simp only [↓nrmL, nrmZ, Nat.reduceEqDiff, ↓reduceIte, Nat.reduceAdd, Int.reduceBEq, Int.reduceBNe]; rfl) ?_)
   | (refine so rfl (rfl : _ = AVal.agg _) rfl rfl rfl (by simp only [↓nrmL, nrmZ, Nat.reduceEqDiff, ↓reduceIte, Nat.reduceAdd, Int.reduceBEq, Int.reduceBNe]; rfl) ?_)
   | refine nl hKF ?_
   | refine sq ?_
   | refine rg fun KF hKF => ?_
   | refine ct rfl ?_
   | refine rt ?_
   | dsimp only [cond_true, cond_false]
  refine rz trivial ?_
  exact ⟨Or.inr ⟨hno, rfl⟩, Ext0.ext⟩
 obtain ⟨M, hM⟩ : ∃ M, IntKind.i64.wrap (N - 1) = M := ⟨_, rfl⟩
 have hMh : ∀ n e : Int, hitB l (minB l) n e = true → M = n := fun n e hh => by
  obtain ⟨g1, _, g3, g4⟩ := hhit n e hh
  rw [← hM, g1, w64r (by omega) (by omega)]; omega
 cases hs : stepB M
 ·have hno : ∀ n e : Int, -2 ≤ e → e ≤ 1 → hitB l (minB l) n e = false := fun n e _ _ => by
   cases hh : hitB l (minB l) n e
   ·rfl
   ·have := hMh n e hh
    have h2 := (hit_tail hh).1
    rw [← this, hs] at h2; cases h2
  repeat first
   | (refine mv ?_)
   | refine oy ?_
   | (refine bn rfl rfl rfl (by simp only [hM, hs]; rfl) ?_)
   | refine fB ?_
   | refine xt ?_
   | (refine Fo.pcall (v' := ?_) hn rfl (by simp only [↓nrmL, nrmZ, Nat.reduceEqDiff, ↓reduceIte, Nat.reduceAdd, Int.reduceBEq, Int.reduceBNe, hM, hs, List.map]; rfl) rfl ?hv fun _ _ => ?_; case hv => (simp only [hM, hs]; rfl))
   | (refine ob (cs' := ?_) ?hc ?_; case hc => rfl)
   | (refine Fo.now rfl rfl (by simp only [hM, hs]; rfl) ?_)
   | (refine Fo.now rfl rfl (by simp only [↓nrmL, nrmZ, Nat.reduceEqDiff, ↓reduceIte, Nat.reduceAdd, Int.reduceBEq, Int.reduceBNe, hM, hs]; rfl) ?_)
   | (refine so rfl (rfl : _ = AVal.agg _) rfl rfl rfl (by simp only [↓nrmL, nrmZ, Nat.reduceEqDiff, ↓reduceIte, Nat.reduceAdd, Int.reduceBEq, Int.reduceBNe, hM, hs]; rfl) ?_)
   | refine nl hKF ?_
   | refine sq ?_
   | refine rg fun KF hKF => ?_
   | refine ct rfl ?_
   | refine rt ?_
   | dsimp only [cond_true, cond_false]
  refine rz trivial ?_
  exact ⟨Or.inr ⟨hno, rfl⟩, Ext0.ext⟩
 haveI hsI := stepI_of hs
 have yb0 := hsI.lo; have b9 := hsI.hi
 obtain ⟨n0, n1⟩ := nat_le yb0 b9
 cases hw : minB l
 ·skip
  repeat first
   | (refine mv ?_)
   | refine oy ?_
   | (refine bn rfl rfl rfl (by simp only [hM, hs]; rfl) ?_)
   | refine fB ?_
   | refine xt ?_
   | (refine Fo.pcall (v' := ?_) hn rfl (by simp only [↓nrmL, nrmZ, Nat.reduceEqDiff, ↓reduceIte, Nat.reduceAdd, Int.reduceBEq, Int.reduceBNe, hM, hs, List.map]; rfl) rfl ?hv fun _ _ => ?_; case hv => (simp only [hM, hs]; rfl))
   | (refine Fo.now rfl rfl (by simp only [hM, hs]; rfl) ?_)
   | (refine Fo.now rfl rfl (by simp only [↓nrmL, nrmZ, Nat.reduceEqDiff, ↓reduceIte, Nat.reduceAdd, Int.reduceBEq, Int.reduceBNe, hM, hs]; rfl) ?_)
   | refine nl hKF ?_
   | refine sq ?_
   | refine rg fun KF hKF => ?_
   | refine cf rfl ?_
   | refine sk ?_
   | refine Wp.block ?_
   | dsimp only [cond_true, cond_false]
  refine Wp.loopS (σ := Nat) [3, 8, 9, 10, 11, 35, 36, 37, 38, 39, 40, 41, 42, 43, 44, 45, 46, 47, 48, 49, 50, 51, 52, 53, 54, 55, 56, 57, 58, 59, 60, 61, 62] (fun j => [(8, .int .i64 (((j : Nat) : Int) - 2))]) (fun H3 j H2 => j ≤ 4 ∧ (∀ e : Int, -2 ≤ e → e < ((j : Nat) : Int) - 2 → hitB l false M e = false) ∧ Ext H3 H2) (fun j => 4 - j) 0 rfl (fun _ => rfl) ⟨rfl, trivial⟩ ⟨Nat.zero_le _, fun e h1 h2 => (by omega), Ext.refl _⟩ (by unfold fuel0 at hn; omega) ?_
  rintro j g H2 ⟨hj, hmiss, hx2⟩
  haveI : ExtI _ H2 := ⟨hx2⟩
  simp only [↓nrmL, nrmZ, Nat.reduceEqDiff, ↓reduceIte, Nat.reduceAdd, Int.reduceBEq, Int.reduceBNe]
  cases hc : decide ((((j : Nat) : Int) - 2) ≤ 1)
  ·have hj4 : j = 4 := by have := of_decide_eq_false hc; omega
   have hno : ∀ n e : Int, -2 ≤ e → e ≤ 1 → hitB l (minB l) n e = false := fun n e h1 h2 => by
    cases hh : hitB l (minB l) n e
    ·rfl
    ·have h3 := hMh n e hh
     have h4 : hitB l (minB l) n e = false := by rw [hw, ← h3]; exact hmiss e h1 (by omega)
     rw [hh] at h4; cases h4
   repeat first
    | (refine mv ?_)
    | (refine bn rfl rfl rfl (by simp only [hc]; rfl) ?_)
    | (refine ob (cs' := ?_) ?hc ?_; case hc => rfl)
    | (refine so rfl (rfl : _ = AVal.agg _) rfl rfl rfl (by simp only [↓nrmL, nrmZ, Nat.reduceEqDiff, ↓reduceIte, Nat.reduceAdd, Int.reduceBEq, Int.reduceBNe, hc]; rfl) ?_)
    | refine nl hKF ?_
    | refine sq ?_
    | refine rg fun KF hKF => ?_
    | refine cf rfl ?_
    | refine rt ?_
    | refine xi ?_
    | dsimp only [cond_true, cond_false]
   refine rz trivial ?_
   exact ⟨Or.inr ⟨hno, rfl⟩, Ext0.ext⟩
  have hjc : ((j : Nat) : Int) - 2 ≤ 1 := of_decide_eq_true hc
  have y1 : IntKind.i64.wrap (natI M + (((j : Nat) : Int) - 2)) = natI M + (((j : Nat) : Int) - 2) := w64r (by omega) (by omega)
  have y2 : IntKind.i64.wrap ((((j : Nat) : Int) - 2) + 1) = (((j + 1 : Nat) : Nat) : Int) - 2 := by rw [w64r (by omega) (by omega)]; omega
  haveI : NearI M (natI M + (((j : Nat) : Int) - 2)) := ⟨by omega, by omega, by omega, by omega⟩
  obtain ⟨tt, htt⟩ : ∃ tt, titleS M (natI M + (((j : Nat) : Int) - 2)) = tt := ⟨_, rfl⟩
  have hhb : hitB l false M (((j : Nat) : Int) - 2) = (tt.2 == 0 && tt.1 == l) := by rw [← htt]; rfl
  have hnext : (tt.2 == 0 && tt.1 == l) = false → (j + 1 ≤ 4 ∧ (∀ e : Int, -2 ≤ e → e < ((j + 1 : Nat) : Int) - 2 → hitB l false M e = false)) := fun q => ⟨by omega, fun e h1 h2 => by
   by_cases he : e = ((j : Nat) : Int) - 2
   ·rw [he, hhb, q]
   ·exact hmiss e h1 (by omega)⟩
  cases z1 : (tt.2 == 0)
  ·have hq := hnext (by rw [z1]; rfl)
   repeat first
    | refine Fo.mov (rfl : _ = strV _) ?_
    | (refine mv ?_)
    | refine ox ?_
    | (refine Fo.ldN rfl rfl (by simp only [↓nrmL, nrmZ, Nat.reduceEqDiff, ↓reduceIte, Nat.reduceAdd, Int.reduceBEq, Int.reduceBNe, hc, hM, y1, htt, z1]; rfl) ?_)
    | (refine bn rfl rfl rfl (by simp only [hc, hM, y1, htt, z1]; rfl) ?_)
    | refine b0 ?_
    | refine fB ?_
    | refine xt ?_
    | (refine Fo.pcall (v' := ?_) hn rfl (by simp only [↓nrmL, nrmZ, Nat.reduceEqDiff, ↓reduceIte, Nat.reduceAdd, Int.reduceBEq, Int.reduceBNe, hc, hM, y1, htt, z1, List.map]; rfl) rfl ?hv fun _ _ => ?_; case hv => (simp only [hc, hM, y1, htt, z1]; rfl))
    | (refine Fo.pcall (v' := ?_) hn rfl (by simp only [↓nrmL, nrmZ, Nat.reduceEqDiff, ↓reduceIte, Nat.reduceAdd, Int.reduceBEq, Int.reduceBNe, hc, hM, y1, htt, z1, List.map]; rfl) rfl ?hv fun _ _ => ?_; case hv => rfl)
    | refine nw ?_
    | (refine ob (cs' := ?_) ?hc ?_; case hc => (simp only [↓nrmL, nrmZ, Nat.reduceEqDiff, ↓reduceIte, Nat.reduceAdd, Int.reduceBEq, Int.reduceBNe, hc, hM, y1, htt, z1]; rfl))
    | (refine so rfl (rfl : _ = AVal.agg _) rfl rfl rfl (by simp only [↓nrmL, nrmZ, Nat.reduceEqDiff, ↓reduceIte, Nat.reduceAdd, Int.reduceBEq, Int.reduceBNe, hc, hM, y1, htt, z1]; rfl) ?_)
    | refine nl hKF ?_
    | refine sq ?_
    | refine rg fun KF hKF => ?_
    | refine ct rfl ?_
    | refine cf rfl ?_
    | refine sk ?_
    | refine Wp.block ?_
    | dsimp only [cond_true, cond_false]
   exact ⟨j + 1, by omega, ⟨by simp only [↓nrmL, nrmZ, Nat.reduceEqDiff, ↓reduceIte, Nat.reduceAdd, Int.reduceBEq, Int.reduceBNe]; rw [y2], trivial⟩, hq.1, hq.2, Ext0.ext⟩
  cases z2 : (tt.1 == l)
  ·have hq := hnext (by rw [z1, z2]; rfl)
   repeat first
    | (refine Fo.eqStr rfl rfl (by simp only [↓nrmL, nrmZ, Nat.reduceEqDiff, ↓reduceIte, Nat.reduceAdd, Int.reduceBEq, Int.reduceBNe, hc, hM, y1, htt, z1, z2]; rfl) ?_)
    | refine Fo.mov (rfl : _ = strV _) ?_
    | (refine mv ?_)
    | refine oy ?_
    | (refine Fo.ldN rfl rfl (by simp only [↓nrmL, nrmZ, Nat.reduceEqDiff, ↓reduceIte, Nat.reduceAdd, Int.reduceBEq, Int.reduceBNe, hc, hM, y1, htt, z1, z2]; rfl) ?_)
    | (refine bn rfl rfl rfl (by simp only [hc, hM, y1, htt, z1, z2]; rfl) ?_)
    | refine b0 ?_
    | refine tB ?_
    | refine xt ?_
    | (refine Fo.pcall (v' := ?_) hn rfl (by simp only [↓nrmL, nrmZ, Nat.reduceEqDiff, ↓reduceIte, Nat.reduceAdd, Int.reduceBEq, Int.reduceBNe, hc, hM, y1, htt, z1, z2, List.map]; rfl) rfl ?hv fun _ _ => ?_; case hv => (simp only [hc, hM, y1, htt, z1, z2]; rfl))
    | (refine Fo.pcall (v' := ?_) hn rfl (by simp only [↓nrmL, nrmZ, Nat.reduceEqDiff, ↓reduceIte, Nat.reduceAdd, Int.reduceBEq, Int.reduceBNe, hc, hM, y1, htt, z1, z2, List.map]; rfl) rfl ?hv fun _ _ => ?_; case hv => rfl)
    | refine nw ?_
    | (refine ob (cs' := ?_) ?hc ?_; case hc => (simp only [↓nrmL, nrmZ, Nat.reduceEqDiff, ↓reduceIte, Nat.reduceAdd, Int.reduceBEq, Int.reduceBNe, hc, hM, y1, htt, z1, z2]; rfl))
    | (refine so rfl (rfl : _ = AVal.agg _) rfl rfl rfl (by simp only [↓nrmL, nrmZ, Nat.reduceEqDiff, ↓reduceIte, Nat.reduceAdd, Int.reduceBEq, Int.reduceBNe, hc, hM, y1, htt, z1, z2]; rfl) ?_)
    | refine nl hKF ?_
    | refine sq ?_
    | refine rg fun KF hKF => ?_
    | refine ct rfl ?_
    | refine cf rfl ?_
    | refine sk ?_
    | refine Wp.block ?_
    | dsimp only [cond_true, cond_false]
   exact ⟨j + 1, by omega, ⟨by simp only [↓nrmL, nrmZ, Nat.reduceEqDiff, ↓reduceIte, Nat.reduceAdd, Int.reduceBEq, Int.reduceBNe]; rw [y2], trivial⟩, hq.1, hq.2, Ext0.ext⟩
  repeat first
   | (refine Fo.eqStr rfl rfl (by simp only [↓nrmL, nrmZ, Nat.reduceEqDiff, ↓reduceIte, Nat.reduceAdd, Int.reduceBEq, Int.reduceBNe, hc, hM, y1, htt, z1, z2]; rfl) ?_)
   | refine Fo.mov (rfl : _ = strV _) ?_
   | (refine mv ?_)
   | refine oy ?_
   | (refine Fo.ldN rfl rfl (by simp only [↓nrmL, nrmZ, Nat.reduceEqDiff, ↓reduceIte, Nat.reduceAdd, Int.reduceBEq, Int.reduceBNe, hc, hM, y1, htt, z1, z2]; rfl) ?_)
   | (refine bn rfl rfl rfl (by simp only [hc, hM, y1, htt, z1, z2]; rfl) ?_)
   | refine tB ?_
   | refine xt ?_
   | (refine Fo.pcall (v' := ?_) hn rfl (by simp only [↓nrmL, nrmZ, Nat.reduceEqDiff, ↓reduceIte, Nat.reduceAdd, Int.reduceBEq, Int.reduceBNe, hc, hM, y1, htt, z1, z2, List.map]; rfl) rfl ?hv fun _ _ => ?_; case hv => (simp only [hc, hM, y1, htt, z1, z2]; rfl))
   | (refine Fo.pcall (v' := ?_) hn rfl (by simp only [↓nrmL, nrmZ, Nat.reduceEqDiff, ↓reduceIte, Nat.reduceAdd, Int.reduceBEq, Int.reduceBNe, hc, hM, y1, htt, z1, z2, List.map]; rfl) rfl ?hv fun _ _ => ?_; case hv => rfl)
   | refine nw ?_
   | (refine ob (cs' := ?_) ?hc ?_; case hc => (simp only [↓nrmL, nrmZ, Nat.reduceEqDiff, ↓reduceIte, Nat.reduceAdd, Int.reduceBEq, Int.reduceBNe, hc, hM, y1, htt, z1, z2]; rfl))
   | (refine so rfl (rfl : _ = AVal.agg _) rfl rfl rfl (by simp only [↓nrmL, nrmZ, Nat.reduceEqDiff, ↓reduceIte, Nat.reduceAdd, Int.reduceBEq, Int.reduceBNe, hc, hM, y1, htt, z1, z2]; rfl) ?_)
   | refine nl hKF ?_
   | refine sq ?_
   | refine rg fun KF hKF => ?_
   | refine ct rfl ?_
   | refine cf rfl ?_
   | refine sk ?_
   | refine rt ?_
   | refine Wp.block ?_
   | dsimp only [cond_true, cond_false]
  refine rz trivial ?_
  exact ⟨Or.inl ⟨M, ((j : Nat) : Int) - 2, yb0, b9, by omega, hjc, by rw [hw, hhb, z1, z2]; rfl, by rw [hw]; rfl⟩, Ext0.ext⟩
 ·skip
  repeat first
   | (refine mv ?_)
   | refine oy ?_
   | (refine bn rfl rfl rfl (by simp only [hM, hs]; rfl) ?_)
   | refine fB ?_
   | refine xt ?_
   | (refine Fo.pcall (v' := ?_) hn rfl (by simp only [↓nrmL, nrmZ, Nat.reduceEqDiff, ↓reduceIte, Nat.reduceAdd, Int.reduceBEq, Int.reduceBNe, hM, hs, List.map]; rfl) rfl ?hv fun _ _ => ?_; case hv => (simp only [hM, hs]; rfl))
   | (refine Fo.now rfl rfl (by simp only [hM, hs]; rfl) ?_)
   | (refine Fo.now rfl rfl (by simp only [↓nrmL, nrmZ, Nat.reduceEqDiff, ↓reduceIte, Nat.reduceAdd, Int.reduceBEq, Int.reduceBNe, hM, hs]; rfl) ?_)
   | refine nl hKF ?_
   | refine sq ?_
   | refine rg fun KF hKF => ?_
   | refine cf rfl ?_
   | refine sk ?_
   | refine Wp.block ?_
   | dsimp only [cond_true, cond_false]
  refine Wp.loopS (σ := Nat) [3, 8, 9, 10, 11, 35, 36, 37, 38, 39, 40, 41, 42, 43, 44, 45, 46, 47, 48, 49, 50, 51, 52, 53, 54, 55, 56, 57, 58, 59, 60, 61, 62] (fun j => [(8, .int .i64 (((j : Nat) : Int) - 2))]) (fun H3 j H2 => j ≤ 4 ∧ (∀ e : Int, -2 ≤ e → e < ((j : Nat) : Int) - 2 → hitB l true M e = false) ∧ Ext H3 H2) (fun j => 4 - j) 0 rfl (fun _ => rfl) ⟨rfl, trivial⟩ ⟨Nat.zero_le _, fun e h1 h2 => (by omega), Ext.refl _⟩ (by unfold fuel0 at hn; omega) ?_
  rintro j g H2 ⟨hj, hmiss, hx2⟩
  haveI : ExtI _ H2 := ⟨hx2⟩
  simp only [↓nrmL, nrmZ, Nat.reduceEqDiff, ↓reduceIte, Nat.reduceAdd, Int.reduceBEq, Int.reduceBNe]
  cases hc : decide ((((j : Nat) : Int) - 2) ≤ 1)
  ·have hj4 : j = 4 := by have := of_decide_eq_false hc; omega
   have hno : ∀ n e : Int, -2 ≤ e → e ≤ 1 → hitB l (minB l) n e = false := fun n e h1 h2 => by
    cases hh : hitB l (minB l) n e
    ·rfl
    ·have h3 := hMh n e hh
     have h4 : hitB l (minB l) n e = false := by rw [hw, ← h3]; exact hmiss e h1 (by omega)
     rw [hh] at h4; cases h4
   repeat first
    | (refine mv ?_)
    | (refine bn rfl rfl rfl (by simp only [hc]; rfl) ?_)
    | (refine ob (cs' := ?_) ?hc ?_; case hc => rfl)
    | (refine so rfl (rfl : _ = AVal.agg _) rfl rfl rfl (by simp only [↓nrmL, nrmZ, Nat.reduceEqDiff, ↓reduceIte, Nat.reduceAdd, Int.reduceBEq, Int.reduceBNe, hc]; rfl) ?_)
    | refine nl hKF ?_
    | refine sq ?_
    | refine rg fun KF hKF => ?_
    | refine cf rfl ?_
    | refine rt ?_
    | refine xi ?_
    | dsimp only [cond_true, cond_false]
   refine rz trivial ?_
   exact ⟨Or.inr ⟨hno, rfl⟩, Ext0.ext⟩
  have hjc : ((j : Nat) : Int) - 2 ≤ 1 := of_decide_eq_true hc
  have y1 : IntKind.i64.wrap (natI M + (((j : Nat) : Int) - 2)) = natI M + (((j : Nat) : Int) - 2) := w64r (by omega) (by omega)
  have y2 : IntKind.i64.wrap ((((j : Nat) : Int) - 2) + 1) = (((j + 1 : Nat) : Nat) : Int) - 2 := by rw [w64r (by omega) (by omega)]; omega
  haveI : NearI M (natI M + (((j : Nat) : Int) - 2)) := ⟨by omega, by omega, by omega, by omega⟩
  obtain ⟨tt, htt⟩ : ∃ tt, titleS (-M) (-(natI M + (((j : Nat) : Int) - 2))) = tt := ⟨_, rfl⟩
  have hhb : hitB l true M (((j : Nat) : Int) - 2) = (tt.2 == 0 && tt.1 == l) := by rw [← htt]; rfl
  have hnext : (tt.2 == 0 && tt.1 == l) = false → (j + 1 ≤ 4 ∧ (∀ e : Int, -2 ≤ e → e < ((j + 1 : Nat) : Int) - 2 → hitB l true M e = false)) := fun q => ⟨by omega, fun e h1 h2 => by
   by_cases he : e = ((j : Nat) : Int) - 2
   ·rw [he, hhb, q]
   ·exact hmiss e h1 (by omega)⟩
  cases z1 : (tt.2 == 0)
  ·have hq := hnext (by rw [z1]; rfl)
   repeat first
    | refine Fo.mov (rfl : _ = strV _) ?_
    | (refine mv ?_)
    | refine ox ?_
    | (refine Fo.ldN rfl rfl (by simp only [↓nrmL, nrmZ, Nat.reduceEqDiff, ↓reduceIte, Nat.reduceAdd, Int.reduceBEq, Int.reduceBNe, hc, hM, y1, htt, z1]; rfl) ?_)
    | (refine bn rfl rfl rfl (by simp only [hc, hM, y1, htt, z1]; rfl) ?_)
    | refine b0 ?_
    | refine fB ?_
    | refine xt ?_
    | (refine Fo.pcall (v' := ?_) hn rfl (by simp only [↓nrmL, nrmZ, Nat.reduceEqDiff, ↓reduceIte, Nat.reduceAdd, Int.reduceBEq, Int.reduceBNe, hc, hM, y1, htt, z1, List.map]; rfl) rfl ?hv fun _ _ => ?_; case hv => (simp only [hc, hM, y1, htt, z1]; rfl))
    | (refine Fo.pcall (v' := ?_) hn rfl (by simp only [↓nrmL, nrmZ, Nat.reduceEqDiff, ↓reduceIte, Nat.reduceAdd, Int.reduceBEq, Int.reduceBNe, hc, hM, y1, htt, z1, List.map]; rfl) rfl ?hv fun _ _ => ?_; case hv => rfl)
    | refine nw ?_
    | (refine ob (cs' := ?_) ?hc ?_; case hc => (simp only [↓nrmL, nrmZ, Nat.reduceEqDiff, ↓reduceIte, Nat.reduceAdd, Int.reduceBEq, Int.reduceBNe, hc, hM, y1, htt, z1]; rfl))
    | (refine so rfl (rfl : _ = AVal.agg _) rfl rfl rfl (by simp only [↓nrmL, nrmZ, Nat.reduceEqDiff, ↓reduceIte, Nat.reduceAdd, Int.reduceBEq, Int.reduceBNe, hc, hM, y1, htt, z1]; rfl) ?_)
    | refine nl hKF ?_
    | refine sq ?_
    | refine rg fun KF hKF => ?_
    | refine ct rfl ?_
    | refine cf rfl ?_
    | refine sk ?_
    | refine Wp.block ?_
    | dsimp only [cond_true, cond_false]
   exact ⟨j + 1, by omega, ⟨by simp only [↓nrmL, nrmZ, Nat.reduceEqDiff, ↓reduceIte, Nat.reduceAdd, Int.reduceBEq, Int.reduceBNe]; rw [y2], trivial⟩, hq.1, hq.2, Ext0.ext⟩
  cases z2 : (tt.1 == l)
  ·have hq := hnext (by rw [z1, z2]; rfl)
   repeat first
    | (refine Fo.eqStr rfl rfl (by simp only [↓nrmL, nrmZ, Nat.reduceEqDiff, ↓reduceIte, Nat.reduceAdd, Int.reduceBEq, Int.reduceBNe, hc, hM, y1, htt, z1, z2]; rfl) ?_)
    | refine Fo.mov (rfl : _ = strV _) ?_
    | (refine mv ?_)
    | refine oy ?_
    | (refine Fo.ldN rfl rfl (by simp only [↓nrmL, nrmZ, Nat.reduceEqDiff, ↓reduceIte, Nat.reduceAdd, Int.reduceBEq, Int.reduceBNe, hc, hM, y1, htt, z1, z2]; rfl) ?_)
    | (refine bn rfl rfl rfl (by simp only [hc, hM, y1, htt, z1, z2]; rfl) ?_)
    | refine b0 ?_
    | refine tB ?_
    | refine xt ?_
    | (refine Fo.pcall (v' := ?_) hn rfl (by simp only [↓nrmL, nrmZ, Nat.reduceEqDiff, ↓reduceIte, Nat.reduceAdd, Int.reduceBEq, Int.reduceBNe, hc, hM, y1, htt, z1, z2, List.map]; rfl) rfl ?hv fun _ _ => ?_; case hv => (simp only [hc, hM, y1, htt, z1, z2]; rfl))
    | (refine Fo.pcall (v' := ?_) hn rfl (by simp only [↓nrmL, nrmZ, Nat.reduceEqDiff, ↓reduceIte, Nat.reduceAdd, Int.reduceBEq, Int.reduceBNe, hc, hM, y1, htt, z1, z2, List.map]; rfl) rfl ?hv fun _ _ => ?_; case hv => rfl)
    | refine nw ?_
    | (refine ob (cs' := ?_) ?hc ?_; case hc => (simp only [↓nrmL, nrmZ, Nat.reduceEqDiff, ↓reduceIte, Nat.reduceAdd, Int.reduceBEq, Int.reduceBNe, hc, hM, y1, htt, z1, z2]; rfl))
    | (refine so rfl (rfl : _ = AVal.agg _) rfl rfl rfl (by simp only [↓nrmL, nrmZ, Nat.reduceEqDiff, ↓reduceIte, Nat.reduceAdd, Int.reduceBEq, Int.reduceBNe, hc, hM, y1, htt, z1, z2]; rfl) ?_)
    | refine nl hKF ?_
    | refine sq ?_
    | refine rg fun KF hKF => ?_
    | refine ct rfl ?_
    | refine cf rfl ?_
    | refine sk ?_
    | refine Wp.block ?_
    | dsimp only [cond_true, cond_false]
   exact ⟨j + 1, by omega, ⟨by simp only [↓nrmL, nrmZ, Nat.reduceEqDiff, ↓reduceIte, Nat.reduceAdd, Int.reduceBEq, Int.reduceBNe]; rw [y2], trivial⟩, hq.1, hq.2, Ext0.ext⟩
  repeat first
   | (refine Fo.eqStr rfl rfl (by simp only [↓nrmL, nrmZ, Nat.reduceEqDiff, ↓reduceIte, Nat.reduceAdd, Int.reduceBEq, Int.reduceBNe, hc, hM, y1, htt, z1, z2]; rfl) ?_)
   | refine Fo.mov (rfl : _ = strV _) ?_
   | (refine mv ?_)
   | refine oy ?_
   | (refine Fo.ldN rfl rfl (by simp only [↓nrmL, nrmZ, Nat.reduceEqDiff, ↓reduceIte, Nat.reduceAdd, Int.reduceBEq, Int.reduceBNe, hc, hM, y1, htt, z1, z2]; rfl) ?_)
   | (refine bn rfl rfl rfl (by simp only [hc, hM, y1, htt, z1, z2]; rfl) ?_)
   | refine tB ?_
   | refine xt ?_
   | (refine Fo.pcall (v' := ?_) hn rfl (by simp only [↓nrmL, nrmZ, Nat.reduceEqDiff, ↓reduceIte, Nat.reduceAdd, Int.reduceBEq, Int.reduceBNe, hc, hM, y1, htt, z1, z2, List.map]; rfl) rfl ?hv fun _ _ => ?_; case hv => (simp only [hc, hM, y1, htt, z1, z2]; rfl))
   | (refine Fo.pcall (v' := ?_) hn rfl (by simp only [↓nrmL, nrmZ, Nat.reduceEqDiff, ↓reduceIte, Nat.reduceAdd, Int.reduceBEq, Int.reduceBNe, hc, hM, y1, htt, z1, z2, List.map]; rfl) rfl ?hv fun _ _ => ?_; case hv => rfl)
   | refine nw ?_
   | (refine ob (cs' := ?_) ?hc ?_; case hc => (simp only [↓nrmL, nrmZ, Nat.reduceEqDiff, ↓reduceIte, Nat.reduceAdd, Int.reduceBEq, Int.reduceBNe, hc, hM, y1, htt, z1, z2]; rfl))
   | (refine so rfl (rfl : _ = AVal.agg _) rfl rfl rfl (by simp only [↓nrmL, nrmZ, Nat.reduceEqDiff, ↓reduceIte, Nat.reduceAdd, Int.reduceBEq, Int.reduceBNe, hc, hM, y1, htt, z1, z2]; rfl) ?_)
   | refine nl hKF ?_
   | refine sq ?_
   | refine rg fun KF hKF => ?_
   | refine ct rfl ?_
   | refine sk ?_
   | refine rt ?_
   | refine Wp.block ?_
   | dsimp only [cond_true, cond_false]
  refine rz trivial ?_
  exact ⟨Or.inl ⟨M, ((j : Nat) : Int) - 2, yb0, b9, by omega, hjc, by rw [hw, hhb, z1, z2]; rfl, by rw [hw]; rfl⟩, Ext0.ext⟩
end Go.Am
namespace Go.Am
open Go
attribute [local irreducible] Wp WpO WpX WpE
end Go.Am
namespace Go.Am
open Go
attribute [local irreducible] Wp WpO WpX WpE
end Go.Am
namespace Go.Am
open Go
attribute [local irreducible] Wp WpO WpX WpE
theorem bbS (t : Bs) : (t == t) = true := by simp
class StrL (s : ByteArray) : Prop where
 le : s.size ≤ 9223372036854775807
end Go.Am
namespace Go.Am
open Go
attribute [local irreducible] Wp WpO WpX WpE
theorem dig_inj {a b : Nat} (ha : a < 100) (hb : b < 100) (h : digL a = digL b) : a = b := by
 have h1 := dig_atoi ⟨a, ha⟩
 have h2 := dig_atoi ⟨b, hb⟩
 simp only at h1 h2
 rw [h, h2] at h1
 omega
theorem q_inj {p : Bool} {e e' : Int} (h : qualL p e = qualL p e') (hn : qualL p e ≠ []) : e = e' := by
 revert h hn
 unfold qualL
 repeat' split
 all_goals first
  | (intro h hn; omega)
  | (intro h hn; cases h; done)
  | (intro h hn; exact absurd rfl hn)
  | (intro h hn; simp at h; done)
theorem title_all {i s : Int} {l : Bs} (h : titleS i s = (l, 0)) : stepB (upI i s) = true ∧ qualL (perfB (upI i s)) (upS i s - natI (upI i s)) ≠ [] ∧ l = (bif downB i s then [45] else []) ++ (qualL (perfB (upI i s)) (upS i s - natI (upI i s)) ++ digL (upI i s + 1).toNat) := by
 unfold titleS at h
 cases hb : titleB i s
 ·rw [hb] at h; cases h
 rw [hb] at h
 simp only [cond_true, Prod.mk.injEq, and_true] at h
 unfold titleB at hb
 simp only [Bool.and_eq_true, Bool.not_eq_true'] at hb
 refine ⟨hb.1.2, fun q => by rw [q] at hb; simp at hb, ?_⟩
 rw [← h]
 unfold titleL
 rw [List.append_assoc]
theorem title_inj {i s j t : Int} {l : Bs} (h : titleS i s = (l, 0)) (h' : titleS j t = (l, 0)) : i = j ∧ s = t := by
 obtain ⟨a1, a2, a3⟩ := title_all h
 obtain ⟨b1, b2, b3⟩ := title_all h'
 have a4 := q_len (perfB (upI i s)) (upS i s - natI (upI i s))
 have b4 := q_len (perfB (upI j t)) (upS j t - natI (upI j t))
 have a5 := q_chars (perfB (upI i s)) (upS i s - natI (upI i s))
 have b5 := q_chars (perfB (upI j t)) (upS j t - natI (upI j t))
 obtain ⟨c, hc⟩ : ∃ c, qualL (perfB (upI i s)) (upS i s - natI (upI i s)) = [c] := by
  match hq : qualL (perfB (upI i s)) (upS i s - natI (upI i s)), a4 with
  | [], _ => exact absurd hq a2
  | [c], _ => exact ⟨c, rfl⟩
  | _ :: _ :: _, h => simp at h
 obtain ⟨d, hd⟩ : ∃ d, qualL (perfB (upI j t)) (upS j t - natI (upI j t)) = [d] := by
  match hq : qualL (perfB (upI j t)) (upS j t - natI (upI j t)), b4 with
  | [], _ => exact absurd hq b2
  | [c], _ => exact ⟨c, rfl⟩
  | _ :: _ :: _, h => simp at h
 have hc45 := a5 c (by rw [hc]; simp)
 have hd45 := b5 d (by rw [hd]; simp)
 rw [hc] at a3
 rw [hd] at b3
 rw [a3] at b3
 have s1 := stepI_of a1
 have s2 := stepI_of b1
 have k1 := s1.lo; have k2 := s1.hi; have k3 := s2.lo; have k4 := s2.hi
 have key : ∀ (w : Bool), c = d → digL (upI i s + 1).toNat = digL (upI j t + 1).toNat → downB i s = w → downB j t = w → i = j ∧ s = t := by
  intro w e1 e2 e3 e4
  have e5 : upI i s = upI j t := by have := dig_inj (by omega) (by omega) e2; omega
  have e6 : upS i s = upS j t := by
   rw [← e5, ← e1, ← hc] at hd
   have := q_inj hd.symm (by rw [hc]; simp)
   omega
  unfold upI at e5
  unfold upS at e6
  rw [e3, e4] at e5 e6
  cases w
  ·exact ⟨e5, e6⟩
  ·simp only [cond_true] at e5 e6
   exact ⟨by omega, by omega⟩
 cases d1 : downB i s <;> cases d2 : downB j t
 ·rw [d1, d2] at b3
  simp only [cond_false, List.nil_append, List.cons_append, List.cons.injEq] at b3
  exact key false b3.1 b3.2 d1 d2
 ·rw [d1, d2] at b3
  simp only [cond_false, cond_true, List.nil_append, List.cons_append, List.cons.injEq] at b3
  exact absurd b3.1 hc45
 ·rw [d1, d2] at b3
  simp only [cond_false, cond_true, List.nil_append, List.cons_append, List.cons.injEq] at b3
  exact absurd b3.1.symm hd45
 ·rw [d1, d2] at b3
  simp only [cond_true, List.nil_append, List.cons_append, List.cons.injEq] at b3
  exact key true b3.2.1 b3.2.2 d1 d2
theorem min_down {i s : Int} {l : Bs} (h : titleS i s = (l, 0)) : minB l = downB i s := by
 obtain ⟨_, _, a3⟩ := title_all h
 obtain ⟨c, hc, _, hl⟩ := title_is (i := i) (s := s) (l := l) (by rw [h]) (by rw [h])
 cases d : downB i s
 ·rw [d] at hl
  rw [hl]
  unfold minB
  simpa using hc
 ·rw [d] at hl
  rw [hl]
  rfl
theorem title_hit {i s : Int} {l : Bs} (h : titleS i s = (l, 0)) : ∃ n e : Int, -2 ≤ e ∧ e ≤ 1 ∧ hitB l (minB l) n e = true := by
 obtain ⟨a1, a2, _⟩ := title_all h
 have hm := min_down h
 refine ⟨upI i s, upS i s - natI (upI i s), ?_, ?_, ?_⟩
 ·apply Classical.byContradiction
  intro q
  apply a2
  unfold qualL
  repeat' split
  all_goals first | rfl | omega
 ·apply Classical.byContradiction
  intro q
  apply a2
  unfold qualL
  repeat' split
  all_goals first | rfl | omega
 ·have e1 : candI (minB l) (upI i s) (upS i s - natI (upI i s)) = i := by
   unfold candI upI; rw [hm]; cases downB i s <;> simp
  have e2 : candS (minB l) (upI i s) (upS i s - natI (upI i s)) = s := by
   have e3 : natI (upI i s) + (upS i s - natI (upI i s)) = upS i s := by omega
   unfold candS; rw [e3, hm]; unfold upS; cases downB i s <;> simp
  unfold hitB
  rw [e1, e2, h]
  simp
theorem hit_title {l : Bs} {w : Bool} {n e : Int} (h : hitB l w n e = true) : titleS (candI w n e) (candS w n e) = (l, 0) := by
 unfold hitB at h
 simp only [Bool.and_eq_true, beq_iff_eq] at h
 exact Prod.ext h.2 h.1
end Go.Am
namespace Go.Am
open Go
attribute [local irreducible] Wp WpO WpX WpE
instance K_refsmall {i s : Int} {H : AHeap} : PureCon ext prog 112 [.agg [.int .i64 i, .int .i64 s]] H 1 (.bool (nearB i s)) := ⟨by
 refine con_of (show prog 112 = some c112 from rfl) rfl rfl fun m hn => ?_
 have e : nearB i s = (decide (i ≥ -200) && decide (i ≤ 200) && (decide (s ≥ -200) && decide (s ≤ 200))) := rfl
 rw [e]
 cases h1 : decide (i ≥ -200)
 ·skip
  repeat first
   | refine ox ?_
   | refine mB ?_
   | refine fd ?_
   | refine Fo.ld rfl rfl ?_
   | (refine bn rfl rfl rfl (by simp only [h1]; rfl) ?_)
   | refine fB ?_
   | refine bA ?_
   | refine nl hKF ?_
   | refine sq ?_
   | refine rg fun KF hKF => ?_
   | refine rt ?_
   | dsimp only [cond_true, cond_false]
  refine rz trivial ?_
  exact ⟨rfl, Ext0.ext⟩
 cases h2 : decide (i ≤ 200)
 ·skip
  repeat first
   | refine oy ?_
   | refine ox ?_
   | refine mB ?_
   | refine fd ?_
   | refine Fo.ld rfl rfl ?_
   | (refine bn rfl rfl rfl (by simp only [h1, h2]; rfl) ?_)
   | refine tB ?_
   | refine fB ?_
   | refine bA ?_
   | refine nl hKF ?_
   | refine sq ?_
   | refine rg fun KF hKF => ?_
   | refine rt ?_
   | dsimp only [cond_true, cond_false]
  refine rz trivial ?_
  exact ⟨rfl, Ext0.ext⟩
 cases h3 : decide (s ≥ -200)
 ·skip
  repeat first
   | refine oy ?_
   | refine ox ?_
   | refine mB ?_
   | refine fd ?_
   | refine Fo.ld rfl rfl ?_
   | (refine bn rfl rfl rfl (by simp only [h1, h2, h3]; rfl) ?_)
   | refine tB ?_
   | refine fB ?_
   | refine bA ?_
   | refine nl hKF ?_
   | refine sq ?_
   | refine rg fun KF hKF => ?_
   | refine rt ?_
   | dsimp only [cond_true, cond_false]
  refine rz trivial ?_
  exact ⟨rfl, Ext0.ext⟩
 ·skip
  repeat first
   | refine oy ?_
   | refine mB ?_
   | refine fd ?_
   | refine Fo.ld rfl rfl ?_
   | (refine bn rfl rfl rfl (by simp only [h1, h2, h3]; rfl) ?_)
   | refine b0 ?_
   | refine tB ?_
   | refine bA ?_
   | refine nl hKF ?_
   | refine sq ?_
   | refine rg fun KF hKF => ?_
   | refine rt ?_
   | dsimp only [cond_true, cond_false]
  refine rz trivial ?_
  exact ⟨rfl, Ext0.ext⟩⟩
instance K_refKey {k i s : Int} {H : AHeap} : PureCon ext prog 71 [.int .i64 k, .agg [.int .i64 i, .int .i64 s]] H 3 (.tuple [.int .i64 (keyS k i s).1, .int .i64 (keyS k i s).2]) := ⟨by
 refine con_of (show prog 71 = some c71 from rfl) rfl rfl fun m hn => ?_
 unfold keyS keyN
 cases h1 : nearB i s
 ·skip
  repeat first
   | refine mI ?_
   | (refine Fo.ldN rfl rfl (by simp only [↓nrmL, nrmZ, Nat.reduceEqDiff, ↓reduceIte, Nat.reduceAdd, Int.reduceBEq, Int.reduceBNe, h1]; rfl) ?_)
   | (refine Fo.pcall (v' := ?_) hn rfl (by simp only [↓nrmL, nrmZ, Nat.reduceEqDiff, ↓reduceIte, Nat.reduceAdd, Int.reduceBEq, Int.reduceBNe, h1, List.map]; rfl) rfl ?hv fun _ _ => ?_; case hv => (simp only [h1]; rfl))
   | refine bA ?_
   | (refine Fo.now rfl rfl (by simp only [↓nrmL, nrmZ, Nat.reduceEqDiff, ↓reduceIte, Nat.reduceAdd, Int.reduceBEq, Int.reduceBNe, h1]; rfl) ?_)
   | refine nl hKF ?_
   | refine sq ?_
   | refine rg fun KF hKF => ?_
   | refine ct rfl ?_
   | refine rt ?_
   | dsimp only [cond_true, cond_false]
  refine rz trivial ?_
  exact ⟨rfl, Ext0.ext⟩
 cases h2 : keyB k
 ·skip
  repeat first
   | refine mI ?_
   | (refine Fo.ldN rfl rfl (by simp only [↓nrmL, nrmZ, Nat.reduceEqDiff, ↓reduceIte, Nat.reduceAdd, Int.reduceBEq, Int.reduceBNe, h1, h2]; rfl) ?_)
   | (refine Fo.pcall (v' := ?_) hn rfl (by simp only [↓nrmL, nrmZ, Nat.reduceEqDiff, ↓reduceIte, Nat.reduceAdd, Int.reduceBEq, Int.reduceBNe, h1, h2, List.map]; rfl) rfl ?hv fun _ _ => ?_; case hv => (simp only [h1, h2]; rfl))
   | refine bA ?_
   | (refine Fo.now rfl rfl (by simp only [↓nrmL, nrmZ, Nat.reduceEqDiff, ↓reduceIte, Nat.reduceAdd, Int.reduceBEq, Int.reduceBNe, h1, h2]; rfl) ?_)
   | refine nl hKF ?_
   | refine sq ?_
   | refine rg fun KF hKF => ?_
   | refine ct rfl ?_
   | refine cf rfl ?_
   | refine sk ?_
   | refine rt ?_
   | dsimp only [cond_true, cond_false]
  refine rz trivial ?_
  exact ⟨rfl, Ext0.ext⟩
 cases h3 : keyB (w6 (w6 (k + w6 (7 * s)) - w6 (12 * i)))
 ·skip
  repeat first
   | refine mI ?_
   | refine fd ?_
   | refine Fo.ld rfl rfl ?_
   | (refine Fo.ldN rfl rfl (by simp only [↓nrmL, nrmZ, Nat.reduceEqDiff, ↓reduceIte, Nat.reduceAdd, Int.reduceBEq, Int.reduceBNe, h1, h2, h3]; rfl) ?_)
   | refine b0 ?_
   | (refine Fo.pcall (v' := ?_) hn rfl (by simp only [↓nrmL, nrmZ, Nat.reduceEqDiff, ↓reduceIte, Nat.reduceAdd, Int.reduceBEq, Int.reduceBNe, h1, h2, h3, List.map]; rfl) rfl ?hv fun _ _ => ?_; case hv => (simp only [h1, h2, h3]; rfl))
   | refine bA ?_
   | (refine Fo.now rfl rfl (by simp only [↓nrmL, nrmZ, Nat.reduceEqDiff, ↓reduceIte, Nat.reduceAdd, Int.reduceBEq, Int.reduceBNe, h1, h2, h3]; rfl) ?_)
   | refine nl hKF ?_
   | refine sq ?_
   | refine rg fun KF hKF => ?_
   | refine ct rfl ?_
   | refine cf rfl ?_
   | refine sk ?_
   | refine rt ?_
   | dsimp only [cond_true, cond_false]
  refine rz trivial ?_
  exact ⟨rfl, Ext0.ext⟩
 ·skip
  repeat first
   | refine mI ?_
   | refine fd ?_
   | refine Fo.ld rfl rfl ?_
   | (refine Fo.ldN rfl rfl (by simp only [↓nrmL, nrmZ, Nat.reduceEqDiff, ↓reduceIte, Nat.reduceAdd, Int.reduceBEq, Int.reduceBNe, h1, h2, h3]; rfl) ?_)
   | refine b0 ?_
   | (refine Fo.pcall (v' := ?_) hn rfl (by simp only [↓nrmL, nrmZ, Nat.reduceEqDiff, ↓reduceIte, Nat.reduceAdd, Int.reduceBEq, Int.reduceBNe, h1, h2, h3, List.map]; rfl) rfl ?hv fun _ _ => ?_; case hv => (simp only [h1, h2, h3]; rfl))
   | refine bA ?_
   | (refine Fo.now rfl rfl (by simp only [↓nrmL, nrmZ, Nat.reduceEqDiff, ↓reduceIte, Nat.reduceAdd, Int.reduceBEq, Int.reduceBNe, h1, h2, h3]; rfl) ?_)
   | refine nl hKF ?_
   | refine sq ?_
   | refine rg fun KF hKF => ?_
   | refine cf rfl ?_
   | refine sk ?_
   | refine rt ?_
   | dsimp only [cond_true, cond_false]
  refine rz trivial ?_
  exact ⟨rfl, Ext0.ext⟩⟩
theorem pitch_b {p a : Int} (h : pitchB p a = true) : 0 ≤ p ∧ p ≤ 69 ∧ -1 ≤ a ∧ a ≤ 1 := by
 unfold pitchB stepB altB withinB at h
 simp only [Bool.and_eq_true, decide_eq_true_eq] at h
 exact ⟨h.1.1, h.1.2, h.2.1, h.2.2⟩
theorem sem_b {p a : Int} (h : pitchB p a = true) : semS p a = (natI p + a, 0) := by
 obtain ⟨h1, h2, h3, h4⟩ := pitch_b h
 obtain ⟨n0, n1⟩ := nat_le h1 h2
 unfold semS
 rw [h, w6r (by omega) (by omega)]; rfl
theorem sem_n {p a : Int} (h : pitchB p a = false) : semS p a = (0, 34) := by
 unfold semS
 rw [h]; rfl
theorem bet_b {p a q b : Int} (h : pitchB p a = true) (h' : pitchB q b = true) : betS p a q b = (w6 (q - p), w6 ((natI q + b) - (natI p + a)), 0) := by
 obtain ⟨h1, h2, h3, h4⟩ := pitch_b h
 obtain ⟨n0, n1⟩ := nat_le h1 h2
 obtain ⟨g1, g2, g3, g4⟩ := pitch_b h'
 obtain ⟨m0, m1⟩ := nat_le g1 g2
 unfold betS
 rw [h, h', w6r (x := natI q + b) (by omega) (by omega), w6r (x := natI q + b - natI p) (by omega) (by omega), show natI q + b - natI p - a = (natI q + b) - (natI p + a) by omega]; rfl
instance K_refBetween {p a q b : Int} {H : AHeap} : PureCon ext prog 72 [.agg [.int .i64 p, .int .i64 a], .agg [.int .i64 q, .int .i64 b]] H 5 (rT (betS p a q b)) := ⟨by
 refine con_of (show prog 72 = some c72 from rfl) rfl rfl fun m hn => ?_
 cases h1 : pitchB p a
 ·have e : betS p a q b = (0, 0, 34) := by unfold betS; rw [h1]; rfl
  have s1 := sem_n h1
  repeat first
   | refine mI ?_
   | refine mT ?_
   | (refine Fo.ldN rfl rfl (by simp only [↓nrmL, nrmZ, Nat.reduceEqDiff, ↓reduceIte, Nat.reduceAdd, Int.reduceBEq, Int.reduceBNe, s1]; rfl) ?_)
   | (refine bn rfl rfl rfl (by simp only [↓nrmL, nrmZ, Nat.reduceEqDiff, ↓reduceIte, Nat.reduceAdd, Int.reduceBEq, Int.reduceBNe, s1]; rfl) ?_)
   | refine xt ?_
   | (refine Fo.pcall (v' := ?_) hn rfl (by simp only [↓nrmL, nrmZ, Nat.reduceEqDiff, ↓reduceIte, Nat.reduceAdd, Int.reduceBEq, Int.reduceBNe, s1, List.map]; rfl) rfl ?hv fun _ _ => ?_; case hv => (simp only [s1]; rfl))
   | refine bA ?_
   | refine nw ?_
   | (refine ob (cs' := ?_) ?hc ?_; case hc => rfl)
   | (refine so rfl (rfl : _ = AVal.agg _) rfl rfl rfl (by simp only [↓nrmL, nrmZ, Nat.reduceEqDiff, ↓reduceIte, Nat.reduceAdd, Int.reduceBEq, Int.reduceBNe, s1]; rfl) ?_)
   | refine nl hKF ?_
   | refine sq ?_
   | refine rg fun KF hKF => ?_
   | refine ct rfl ?_
   | refine rt ?_
   | dsimp only [cond_true, cond_false]
  refine rz trivial ?_
  exact ⟨by rw [e]; rfl, Ext0.ext⟩
 have s1 := sem_b h1
 cases h2 : pitchB q b
 ·have e : betS p a q b = (0, 0, 34) := by unfold betS; rw [h1, h2]; rfl
  have s2 := sem_n h2
  repeat first
   | refine mI ?_
   | refine mT ?_
   | (refine Fo.ldN rfl rfl (by simp only [↓nrmL, nrmZ, Nat.reduceEqDiff, ↓reduceIte, Nat.reduceAdd, Int.reduceBEq, Int.reduceBNe, s1, s2]; rfl) ?_)
   | (refine bn rfl rfl rfl (by simp only [↓nrmL, nrmZ, Nat.reduceEqDiff, ↓reduceIte, Nat.reduceAdd, Int.reduceBEq, Int.reduceBNe, s1, s2]; rfl) ?_)
   | refine xt ?_
   | (refine Fo.pcall (v' := ?_) hn rfl (by simp only [↓nrmL, nrmZ, Nat.reduceEqDiff, ↓reduceIte, Nat.reduceAdd, Int.reduceBEq, Int.reduceBNe, s1, s2, List.map]; rfl) rfl ?hv fun _ _ => ?_; case hv => (simp only [s1, s2]; rfl))
   | refine bA ?_
   | refine nw ?_
   | (refine ob (cs' := ?_) ?hc ?_; case hc => rfl)
   | (refine so rfl (rfl : _ = AVal.agg _) rfl rfl rfl (by simp only [↓nrmL, nrmZ, Nat.reduceEqDiff, ↓reduceIte, Nat.reduceAdd, Int.reduceBEq, Int.reduceBNe, s1, s2]; rfl) ?_)
   | refine nl hKF ?_
   | refine sq ?_
   | refine rg fun KF hKF => ?_
   | refine ct rfl ?_
   | refine cf rfl ?_
   | refine sk ?_
   | refine rt ?_
   | dsimp only [cond_true, cond_false]
  refine rz trivial ?_
  exact ⟨by rw [e]; rfl, Ext0.ext⟩
 have s2 := sem_b h2
 have e := bet_b h1 h2
 repeat first
  | refine mI ?_
  | refine mT ?_
  | refine fd ?_
  | refine Fo.ld rfl rfl ?_
  | (refine Fo.ldN rfl rfl (by simp only [↓nrmL, nrmZ, Nat.reduceEqDiff, ↓reduceIte, Nat.reduceAdd, Int.reduceBEq, Int.reduceBNe, s1, s2]; rfl) ?_)
  | (refine bn rfl rfl rfl (by simp only [↓nrmL, nrmZ, Nat.reduceEqDiff, ↓reduceIte, Nat.reduceAdd, Int.reduceBEq, Int.reduceBNe, s1, s2]; rfl) ?_)
  | refine b0 ?_
  | refine xt ?_
  | (refine Fo.pcall (v' := ?_) hn rfl (by simp only [↓nrmL, nrmZ, Nat.reduceEqDiff, ↓reduceIte, Nat.reduceAdd, Int.reduceBEq, Int.reduceBNe, s1, s2, List.map]; rfl) rfl ?hv fun _ _ => ?_; case hv => (simp only [s1, s2]; rfl))
  | refine bA ?_
  | refine nw ?_
  | (refine ob (cs' := ?_) ?hc ?_; case hc => (simp only [↓nrmL, nrmZ, Nat.reduceEqDiff, ↓reduceIte, Nat.reduceAdd, Int.reduceBEq, Int.reduceBNe, s1, s2]; rfl))
  | (refine so rfl (rfl : _ = AVal.agg _) rfl rfl rfl (by simp only [↓nrmL, nrmZ, Nat.reduceEqDiff, ↓reduceIte, Nat.reduceAdd, Int.reduceBEq, Int.reduceBNe, s1, s2]; rfl) ?_)
  | refine nl hKF ?_
  | refine sq ?_
  | refine rg fun KF hKF => ?_
  | refine cf rfl ?_
  | refine sk ?_
  | refine rt ?_
  | dsimp only [cond_true, cond_false]
 refine rz trivial ?_
 exact ⟨by rw [e]; rfl, Ext0.ext⟩⟩
def hitT (p a i s c : Int) : Bool := (semS (w6 (p + i)) c).2 == 0 && (semS (w6 (p + i)) c).1 == w6 (natI p + a + s)
theorem trans_hit {p a i s c : Int} (h1 : nearB i s = true) (h2 : pitchB p a = true) (h : hitT p a i s c = true) : transS p a i s = (w6 (p + i), c, 0) := by
 unfold hitT at h
 have hn := nearI_of h1
 have a1 := hn.il; have a2 := hn.ih; have a3 := hn.sl; have a4 := hn.sh
 obtain ⟨b1, b2, b3, b4⟩ := pitch_b h2
 obtain ⟨n0, n1⟩ := nat_le b1 b2
 have w1 : w6 (natI p + a) = natI p + a := w6r (by omega) (by omega)
 have w2 : w6 (natI p + a + s) = natI p + a + s := w6r (by omega) (by omega)
 rw [w2] at h
 obtain ⟨q, hq⟩ : ∃ q, w6 (p + i) = q := ⟨_, rfl⟩
 rw [hq] at h
 cases h3 : pitchB q c
 ·rw [sem_n h3] at h; cases h
 rw [sem_b h3] at h
 simp only [Bool.and_eq_true, beq_iff_eq] at h
 obtain ⟨c1, c2, c3, c4⟩ := pitch_b h3
 obtain ⟨m0, m1⟩ := nat_le c1 c2
 have hs : stepB q = true := stepB_of c1 c2
 have hm : moveA p a i s = c := by
  unfold moveA
  rw [hq, w1, w2, w6r (by omega) (by omega)]; omega
 unfold transS
 rw [h1, h2, hq, hs, hm, h3]; rfl
theorem trans_no {p a i s : Int} (h1 : nearB i s = true) (h2 : pitchB p a = true) (h : ∀ c : Int, -1 ≤ c → c ≤ 1 → hitT p a i s c = false) : transS p a i s = (0, 0, 34) := by
 have hn := nearI_of h1
 have a1 := hn.il; have a2 := hn.ih; have a3 := hn.sl; have a4 := hn.sh
 obtain ⟨b1, b2, b3, b4⟩ := pitch_b h2
 obtain ⟨n0, n1⟩ := nat_le b1 b2
 have w1 : w6 (natI p + a) = natI p + a := w6r (by omega) (by omega)
 have w2 : w6 (natI p + a + s) = natI p + a + s := w6r (by omega) (by omega)
 unfold transS
 rw [h1, h2]
 cases h3 : stepB (w6 (p + i))
 ·rfl
 cases h4 : pitchB (w6 (p + i)) (moveA p a i s)
 ·rfl
 obtain ⟨c1, c2, c3, c4⟩ := pitch_b h4
 obtain ⟨m0, m1⟩ := nat_le c1 c2
 have hm : moveA p a i s = natI p + a + s - natI (w6 (p + i)) := by
  unfold moveA
  rw [w1, w2, w6r (by omega) (by omega)]
 have hh := h _ c3 c4
 unfold hitT at hh
 rw [sem_b h4, w2, hm] at hh
 have e : natI (w6 (p + i)) + (natI p + a + s - natI (w6 (p + i))) = natI p + a + s := by omega
 simp [e] at hh
instance K_refTranspose {p a i s : Int} {H : AHeap} : PureCon ext prog 70 [.agg [.int .i64 p, .int .i64 a], .agg [.int .i64 i, .int .i64 s]] H 5 (rT (transS p a i s)) := ⟨by
 refine con_of (show prog 70 = some c70 from rfl) rfl rfl fun m hn => ?_
 cases h1 : nearB i s
 ·have e : transS p a i s = (0, 0, 8) := by unfold transS; rw [h1]; rfl
  repeat first
   | refine mI ?_
   | (refine Fo.ldN rfl rfl (by simp only [↓nrmL, nrmZ, Nat.reduceEqDiff, ↓reduceIte, Nat.reduceAdd, Int.reduceBEq, Int.reduceBNe, h1]; rfl) ?_)
   | (refine Fo.pcall (v' := ?_) hn rfl (by simp only [↓nrmL, nrmZ, Nat.reduceEqDiff, ↓reduceIte, Nat.reduceAdd, Int.reduceBEq, Int.reduceBNe, h1, List.map]; rfl) rfl ?hv fun _ _ => ?_; case hv => (simp only [h1]; rfl))
   | refine bA ?_
   | refine nw ?_
   | (refine ob (cs' := ?_) ?hc ?_; case hc => rfl)
   | (refine Fo.now rfl rfl (by simp only [↓nrmL, nrmZ, Nat.reduceEqDiff, ↓reduceIte, Nat.reduceAdd, Int.reduceBEq, Int.reduceBNe, h1]; rfl) ?_)
   | (refine so rfl (rfl : _ = AVal.agg _) rfl rfl rfl (by simp only [↓nrmL, nrmZ, Nat.reduceEqDiff, ↓reduceIte, Nat.reduceAdd, Int.reduceBEq, Int.reduceBNe, h1]; rfl) ?_)
   | refine nl hKF ?_
   | refine sq ?_
   | refine rg fun KF hKF => ?_
   | refine ct rfl ?_
   | refine rt ?_
   | dsimp only [cond_true, cond_false]
  refine rz trivial ?_
  exact ⟨by rw [e]; rfl, Ext0.ext⟩
 cases h2 : pitchB p a
 ·have e : transS p a i s = (0, 0, 34) := by unfold transS; rw [h1, h2]; rfl
  have s1 := sem_n h2
  repeat first
   | refine mI ?_
   | refine mT ?_
   | (refine Fo.ldN rfl rfl (by simp only [↓nrmL, nrmZ, Nat.reduceEqDiff, ↓reduceIte, Nat.reduceAdd, Int.reduceBEq, Int.reduceBNe, h1, s1]; rfl) ?_)
   | (refine bn rfl rfl rfl (by simp only [↓nrmL, nrmZ, Nat.reduceEqDiff, ↓reduceIte, Nat.reduceAdd, Int.reduceBEq, Int.reduceBNe, h1, s1]; rfl) ?_)
   | refine xt ?_
   | (refine Fo.pcall (v' := ?_) hn rfl (by simp only [↓nrmL, nrmZ, Nat.reduceEqDiff, ↓reduceIte, Nat.reduceAdd, Int.reduceBEq, Int.reduceBNe, h1, s1, List.map]; rfl) rfl ?hv fun _ _ => ?_; case hv => (simp only [h1, s1]; rfl))
   | refine bA ?_
   | refine nw ?_
   | (refine ob (cs' := ?_) ?hc ?_; case hc => rfl)
   | (refine Fo.now rfl rfl (by simp only [↓nrmL, nrmZ, Nat.reduceEqDiff, ↓reduceIte, Nat.reduceAdd, Int.reduceBEq, Int.reduceBNe, h1, s1]; rfl) ?_)
   | (refine so rfl (rfl : _ = AVal.agg _) rfl rfl rfl (by simp only [↓nrmL, nrmZ, Nat.reduceEqDiff, ↓reduceIte, Nat.reduceAdd, Int.reduceBEq, Int.reduceBNe, h1, s1]; rfl) ?_)
   | refine nl hKF ?_
   | refine sq ?_
   | refine rg fun KF hKF => ?_
   | refine ct rfl ?_
   | refine cf rfl ?_
   | refine sk ?_
   | refine rt ?_
   | dsimp only [cond_true, cond_false]
  refine rz trivial ?_
  exact ⟨by rw [e]; rfl, Ext0.ext⟩
 have s1 := sem_b h2
 repeat first
  | refine mI ?_
  | refine mT ?_
  | (refine Fo.ldN rfl rfl (by simp only [↓nrmL, nrmZ, Nat.reduceEqDiff, ↓reduceIte, Nat.reduceAdd, Int.reduceBEq, Int.reduceBNe, h1, s1]; rfl) ?_)
  | (refine bn rfl rfl rfl (by simp only [↓nrmL, nrmZ, Nat.reduceEqDiff, ↓reduceIte, Nat.reduceAdd, Int.reduceBEq, Int.reduceBNe, h1, s1]; rfl) ?_)
  | refine xt ?_
  | (refine Fo.pcall (v' := ?_) hn rfl (by simp only [↓nrmL, nrmZ, Nat.reduceEqDiff, ↓reduceIte, Nat.reduceAdd, Int.reduceBEq, Int.reduceBNe, h1, s1, List.map]; rfl) rfl ?hv fun _ _ => ?_; case hv => (simp only [h1, s1]; rfl))
  | refine bA ?_
  | refine nw ?_
  | (refine Fo.now rfl rfl (by simp only [↓nrmL, nrmZ, Nat.reduceEqDiff, ↓reduceIte, Nat.reduceAdd, Int.reduceBEq, Int.reduceBNe, h1, s1]; rfl) ?_)
  | refine nl hKF ?_
  | refine sq ?_
  | refine rg fun KF hKF => ?_
  | refine cf rfl ?_
  | refine sk ?_
  | refine Wp.block ?_
  | dsimp only [cond_true, cond_false]
 refine Wp.loopS (σ := Nat) [5, 8, 9, 10, 11, 25, 26, 27, 28, 29, 30, 31, 32, 33, 34, 35, 36, 37, 38, 39, 40, 41, 42, 43, 44, 45, 46, 47, 48, 49, 50, 51] (fun j => [(8, .int .i64 (((j : Nat) : Int) - 1))]) (fun H3 j H2 => j ≤ 3 ∧ (∀ c : Int, -1 ≤ c → c < ((j : Nat) : Int) - 1 → hitT p a i s c = false) ∧ Ext H3 H2) (fun j => 3 - j) 0 rfl (fun _ => rfl) ⟨rfl, trivial⟩ ⟨Nat.zero_le _, fun c g1 g2 => (by omega), Ext.refl _⟩ (by unfold fuel0 at hn; omega) ?_
 rintro j g H2 ⟨hj, hmiss, hx2⟩
 haveI : ExtI _ H2 := ⟨hx2⟩
 simp only [↓nrmL, nrmZ, Nat.reduceEqDiff, ↓reduceIte, Nat.reduceAdd, Int.reduceBEq, Int.reduceBNe]
 cases hc : decide ((((j : Nat) : Int) - 1) ≤ 1)
 ·have hj3 : j = 3 := by have := of_decide_eq_false hc; omega
  have e := trans_no h1 h2 fun c g1 g2 => hmiss c g1 (by omega)
  repeat first
   | (refine mv ?_)
   | (refine bn rfl rfl rfl (by simp only [hc]; rfl) ?_)
   | (refine ob (cs' := ?_) ?hc ?_; case hc => rfl)
   | (refine so rfl (rfl : _ = AVal.agg _) rfl rfl rfl (by simp only [↓nrmL, nrmZ, Nat.reduceEqDiff, ↓reduceIte, Nat.reduceAdd, Int.reduceBEq, Int.reduceBNe, hc]; rfl) ?_)
   | refine nl hKF ?_
   | refine sq ?_
   | refine rg fun KF hKF => ?_
   | refine cf rfl ?_
   | refine rt ?_
   | refine xi ?_
   | dsimp only [cond_true, cond_false]
  refine rz trivial ?_
  exact ⟨by rw [e]; rfl, Ext0.ext⟩
 have hjc : ((j : Nat) : Int) - 1 ≤ 1 := of_decide_eq_true hc
 have y2 : IntKind.i64.wrap ((((j : Nat) : Int) - 1) + 1) = (((j + 1 : Nat) : Nat) : Int) - 1 := by rw [w64r (by omega) (by omega)]; omega
 obtain ⟨q, hq⟩ : ∃ q, IntKind.i64.wrap (p + i) = q := ⟨_, rfl⟩
 obtain ⟨tt, htt⟩ : ∃ tt, semS q (((j : Nat) : Int) - 1) = tt := ⟨_, rfl⟩
 obtain ⟨F, hF⟩ : ∃ F, IntKind.i64.wrap (natI p + a + s) = F := ⟨_, rfl⟩
 have hhb : hitT p a i s (((j : Nat) : Int) - 1) = (tt.2 == 0 && tt.1 == F) := by
  unfold hitT
  rw [show w6 (p + i) = q from hq, htt, show w6 (natI p + a + s) = F from hF]
 have hnext : (tt.2 == 0 && tt.1 == F) = false → (j + 1 ≤ 3 ∧ (∀ c : Int, -1 ≤ c → c < ((j + 1 : Nat) : Int) - 1 → hitT p a i s c = false)) := fun z => ⟨by omega, fun c g1 g2 => by
  by_cases he : c = ((j : Nat) : Int) - 1
  ·rw [he, hhb, z]
  ·exact hmiss c g1 (by omega)⟩
 cases z1 : (tt.2 == 0)
 ·have hz := hnext (by rw [z1]; rfl)
  repeat first
   | (refine mv ?_)
   | refine ox ?_
   | refine fd ?_
   | refine Fo.ld rfl rfl ?_
   | (refine Fo.ldN rfl rfl (by simp only [↓nrmL, nrmZ, Nat.reduceEqDiff, ↓reduceIte, Nat.reduceAdd, Int.reduceBEq, Int.reduceBNe, hc, hq, htt, z1]; rfl) ?_)
   | (refine bn rfl rfl rfl (by simp only [hc, hq, htt, z1]; rfl) ?_)
   | refine b0 ?_
   | refine fB ?_
   | refine xt ?_
   | (refine Fo.pcall (v' := ?_) hn rfl (by simp only [↓nrmL, nrmZ, Nat.reduceEqDiff, ↓reduceIte, Nat.reduceAdd, Int.reduceBEq, Int.reduceBNe, hc, hq, htt, z1, List.map]; rfl) rfl ?hv fun _ _ => ?_; case hv => (simp only [hc, hq, htt, z1]; rfl))
   | refine nw ?_
   | (refine ob (cs' := ?_) ?hc ?_; case hc => (simp only [↓nrmL, nrmZ, Nat.reduceEqDiff, ↓reduceIte, Nat.reduceAdd, Int.reduceBEq, Int.reduceBNe, hc, hq, htt, z1]; rfl))
   | (refine so rfl (rfl : _ = AVal.agg _) rfl rfl rfl (by simp only [↓nrmL, nrmZ, Nat.reduceEqDiff, ↓reduceIte, Nat.reduceAdd, Int.reduceBEq, Int.reduceBNe, hc, hq, htt, z1]; rfl) ?_)
   | refine nl hKF ?_
   | refine sq ?_
   | refine rg fun KF hKF => ?_
   | refine ct rfl ?_
   | refine cf rfl ?_
   | refine sk ?_
   | refine Wp.block ?_
   | dsimp only [cond_true, cond_false]
  exact ⟨j + 1, by omega, ⟨by simp only [↓nrmL, nrmZ, Nat.reduceEqDiff, ↓reduceIte, Nat.reduceAdd, Int.reduceBEq, Int.reduceBNe]; rw [y2], trivial⟩, hz.1, hz.2, Ext0.ext⟩
 cases z2 : (tt.1 == F)
 ·have hz := hnext (by rw [z1, z2]; rfl)
  repeat first
   | (refine mv ?_)
   | refine oy ?_
   | refine fd ?_
   | refine Fo.ld rfl rfl ?_
   | (refine Fo.ldN rfl rfl (by simp only [↓nrmL, nrmZ, Nat.reduceEqDiff, ↓reduceIte, Nat.reduceAdd, Int.reduceBEq, Int.reduceBNe, hc, hq, htt, hF, z1, z2]; rfl) ?_)
   | (refine bn rfl rfl rfl (by simp only [hc, hq, htt, hF, z1, z2]; rfl) ?_)
   | refine b0 ?_
   | refine tB ?_
   | refine xt ?_
   | (refine Fo.pcall (v' := ?_) hn rfl (by simp only [↓nrmL, nrmZ, Nat.reduceEqDiff, ↓reduceIte, Nat.reduceAdd, Int.reduceBEq, Int.reduceBNe, hc, hq, htt, hF, z1, z2, List.map]; rfl) rfl ?hv fun _ _ => ?_; case hv => (simp only [hc, hq, htt, hF, z1, z2]; rfl))
   | refine nw ?_
   | (refine ob (cs' := ?_) ?hc ?_; case hc => (simp only [↓nrmL, nrmZ, Nat.reduceEqDiff, ↓reduceIte, Nat.reduceAdd, Int.reduceBEq, Int.reduceBNe, hc, hq, htt, hF, z1, z2]; rfl))
   | (refine so rfl (rfl : _ = AVal.agg _) rfl rfl rfl (by simp only [↓nrmL, nrmZ, Nat.reduceEqDiff, ↓reduceIte, Nat.reduceAdd, Int.reduceBEq, Int.reduceBNe, hc, hq, htt, hF, z1, z2]; rfl) ?_)
   | refine nl hKF ?_
   | refine sq ?_
   | refine rg fun KF hKF => ?_
   | refine ct rfl ?_
   | refine cf rfl ?_
   | refine sk ?_
   | refine Wp.block ?_
   | dsimp only [cond_true, cond_false]
  exact ⟨j + 1, by omega, ⟨by simp only [↓nrmL, nrmZ, Nat.reduceEqDiff, ↓reduceIte, Nat.reduceAdd, Int.reduceBEq, Int.reduceBNe]; rw [y2], trivial⟩, hz.1, hz.2, Ext0.ext⟩
 have e := trans_hit h1 h2 (hhb.trans (by rw [z1, z2]; rfl))
 rw [show w6 (p + i) = q from hq] at e
 repeat first
  | (refine mv ?_)
  | refine oy ?_
  | refine fd ?_
  | refine Fo.ld rfl rfl ?_
  | (refine Fo.ldN rfl rfl (by simp only [↓nrmL, nrmZ, Nat.reduceEqDiff, ↓reduceIte, Nat.reduceAdd, Int.reduceBEq, Int.reduceBNe, hc, hq, htt, hF, z1, z2]; rfl) ?_)
  | (refine bn rfl rfl rfl (by simp only [hc, hq, htt, hF, z1, z2]; rfl) ?_)
  | refine tB ?_
  | refine xt ?_
  | (refine Fo.pcall (v' := ?_) hn rfl (by simp only [↓nrmL, nrmZ, Nat.reduceEqDiff, ↓reduceIte, Nat.reduceAdd, Int.reduceBEq, Int.reduceBNe, hc, hq, htt, hF, z1, z2, List.map]; rfl) rfl ?hv fun _ _ => ?_; case hv => (simp only [hc, hq, htt, hF, z1, z2]; rfl))
  | refine nw ?_
  | (refine ob (cs' := ?_) ?hc ?_; case hc => (simp only [↓nrmL, nrmZ, Nat.reduceEqDiff, ↓reduceIte, Nat.reduceAdd, Int.reduceBEq, Int.reduceBNe, hc, hq, htt, hF, z1, z2]; rfl))
  | (refine so rfl (rfl : _ = AVal.agg _) rfl rfl rfl (by simp only [↓nrmL, nrmZ, Nat.reduceEqDiff, ↓reduceIte, Nat.reduceAdd, Int.reduceBEq, Int.reduceBNe, hc, hq, htt, hF, z1, z2]; rfl) ?_)
  | refine nl hKF ?_
  | refine sq ?_
  | refine rg fun KF hKF => ?_
  | refine ct rfl ?_
  | refine sk ?_
  | refine rt ?_
  | refine Wp.block ?_
  | dsimp only [cond_true, cond_false]
 refine rz trivial ?_
 exact ⟨by rw [e]; rfl, Ext0.ext⟩⟩
end Go.Am
namespace Go.Am
open Go
attribute [local irreducible] Wp WpO WpX WpE
theorem qual_t (e : Int) : qualL true e = bif e == -1 then [100] else bif e == 0 then [80] else bif e == 1 then [65] else [] := by
 unfold qualL
 rw [if_pos rfl]
 by_cases h1 : e = -1
 ·subst h1; rfl
 by_cases h2 : e = 0
 ·subst h2; rfl
 by_cases h3 : e = 1
 ·subst h3; rfl
 rw [if_neg h1, if_neg h2, if_neg h3, beq_false_of_ne h1, beq_false_of_ne h2, beq_false_of_ne h3]; rfl
theorem qual_f (e : Int) : qualL false e = bif e == -2 then [100] else bif e == -1 then [109] else bif e == 0 then [77] else bif e == 1 then [65] else [] := by
 unfold qualL
 rw [if_neg Bool.false_ne_true]
 by_cases h0 : e = -2
 ·subst h0; rfl
 by_cases h1 : e = -1
 ·subst h1; rfl
 by_cases h2 : e = 0
 ·subst h2; rfl
 by_cases h3 : e = 1
 ·subst h3; rfl
 rw [if_neg h0, if_neg h1, if_neg h2, if_neg h3, beq_false_of_ne h0, beq_false_of_ne h1, beq_false_of_ne h2, beq_false_of_ne h3]; rfl
theorem K_quality0 {n e : Int} {p : Bool} {H : AHeap} (hp : (n == 0 || n == 3 || n == 4) = p) : PureCon ext prog 113 [.int .i64 n, .int .i64 e] H 1 (strV (qualL p e)) := ⟨by
 refine con_of (show prog 113 = some c113 from rfl) rfl rfl fun m hn => ?_
 have T := qual_t e
 have F := qual_f e
 cases a1 : n == 0
 rotate_left
 ·skip
  have hq : p = true := by rw [← hp, a1]; cases n == 3 <;> cases n == 4 <;> rfl
  subst hq
  cases z0 : e == -1
  rotate_left
  ·rw [z0] at T
   repeat first
    | refine ox ?_
    | refine mI ?_
    | refine mB ?_
    | (refine mv ?_)
    | (refine bn rfl rfl rfl (by simp only [a1, z0]; rfl) ?_)
    | refine tB ?_
    | refine nl hKF ?_
    | refine sq ?_
    | refine rg fun KF hKF => ?_
    | refine ct rfl ?_
    | refine rt ?_
    | refine Wp.block ?_
    | dsimp only [cond_true, cond_false]
   refine rz trivial ?_
   exact ⟨by rw [T]; rfl, Ext0.ext⟩
  cases z1 : e == 0
  rotate_left
  ·rw [z0, z1] at T
   repeat first
    | refine ox ?_
    | refine mI ?_
    | refine mB ?_
    | (refine mv ?_)
    | (refine bn rfl rfl rfl (by simp only [a1, z0, z1]; rfl) ?_)
    | refine tB ?_
    | refine nl hKF ?_
    | refine sq ?_
    | refine rg fun KF hKF => ?_
    | refine ct rfl ?_
    | refine cf rfl ?_
    | refine rt ?_
    | refine Wp.block ?_
    | dsimp only [cond_true, cond_false]
   refine rz trivial ?_
   exact ⟨by rw [T]; rfl, Ext0.ext⟩
  cases z2 : e == 1
  rotate_left
  ·rw [z0, z1, z2] at T
   repeat first
    | refine ox ?_
    | refine mI ?_
    | refine mB ?_
    | (refine mv ?_)
    | (refine bn rfl rfl rfl (by simp only [a1, z0, z1, z2]; rfl) ?_)
    | refine tB ?_
    | refine nl hKF ?_
    | refine sq ?_
    | refine rg fun KF hKF => ?_
    | refine ct rfl ?_
    | refine cf rfl ?_
    | refine rt ?_
    | refine Wp.block ?_
    | dsimp only [cond_true, cond_false]
   refine rz trivial ?_
   exact ⟨by rw [T]; rfl, Ext0.ext⟩
  rw [z0, z1, z2] at T
  repeat first
   | refine ox ?_
   | refine mI ?_
   | refine mB ?_
   | (refine mv ?_)
   | (refine bn rfl rfl rfl (by simp only [a1, z0, z1, z2]; rfl) ?_)
   | refine tB ?_
   | refine nl hKF ?_
   | refine sq ?_
   | refine rg fun KF hKF => ?_
   | refine ct rfl ?_
   | refine cf rfl ?_
   | refine sk ?_
   | refine rt ?_
   | refine Wp.block ?_
   | dsimp only [cond_true, cond_false]
  refine rz trivial ?_
  exact ⟨by rw [T]; rfl, Ext0.ext⟩
 cases a2 : n == 3
 rotate_left
 ·skip
  have hq : p = true := by rw [← hp, a1, a2]; cases n == 4 <;> rfl
  subst hq
  cases z0 : e == -1
  rotate_left
  ·rw [z0] at T
   repeat first
    | refine oy ?_
    | refine ox ?_
    | refine mI ?_
    | refine mB ?_
    | (refine mv ?_)
    | (refine bn rfl rfl rfl (by simp only [a1, a2, z0]; rfl) ?_)
    | refine tB ?_
    | refine fB ?_
    | refine nl hKF ?_
    | refine sq ?_
    | refine rg fun KF hKF => ?_
    | refine ct rfl ?_
    | refine rt ?_
    | refine Wp.block ?_
    | dsimp only [cond_true, cond_false]
   refine rz trivial ?_
   exact ⟨by rw [T]; rfl, Ext0.ext⟩
  cases z1 : e == 0
  rotate_left
  ·rw [z0, z1] at T
   repeat first
    | refine oy ?_
    | refine ox ?_
    | refine mI ?_
    | refine mB ?_
    | (refine mv ?_)
    | (refine bn rfl rfl rfl (by simp only [a1, a2, z0, z1]; rfl) ?_)
    | refine tB ?_
    | refine fB ?_
    | refine nl hKF ?_
    | refine sq ?_
    | refine rg fun KF hKF => ?_
    | refine ct rfl ?_
    | refine cf rfl ?_
    | refine rt ?_
    | refine Wp.block ?_
    | dsimp only [cond_true, cond_false]
   refine rz trivial ?_
   exact ⟨by rw [T]; rfl, Ext0.ext⟩
  cases z2 : e == 1
  rotate_left
  ·rw [z0, z1, z2] at T
   repeat first
    | refine oy ?_
    | refine ox ?_
    | refine mI ?_
    | refine mB ?_
    | (refine mv ?_)
    | (refine bn rfl rfl rfl (by simp only [a1, a2, z0, z1, z2]; rfl) ?_)
    | refine tB ?_
    | refine fB ?_
    | refine nl hKF ?_
    | refine sq ?_
    | refine rg fun KF hKF => ?_
    | refine ct rfl ?_
    | refine cf rfl ?_
    | refine rt ?_
    | refine Wp.block ?_
    | dsimp only [cond_true, cond_false]
   refine rz trivial ?_
   exact ⟨by rw [T]; rfl, Ext0.ext⟩
  rw [z0, z1, z2] at T
  repeat first
   | refine oy ?_
   | refine ox ?_
   | refine mI ?_
   | refine mB ?_
   | (refine mv ?_)
   | (refine bn rfl rfl rfl (by simp only [a1, a2, z0, z1, z2]; rfl) ?_)
   | refine tB ?_
   | refine fB ?_
   | refine nl hKF ?_
   | refine sq ?_
   | refine rg fun KF hKF => ?_
   | refine ct rfl ?_
   | refine cf rfl ?_
   | refine sk ?_
   | refine rt ?_
   | refine Wp.block ?_
   | dsimp only [cond_true, cond_false]
  refine rz trivial ?_
  exact ⟨by rw [T]; rfl, Ext0.ext⟩
 cases a3 : n == 4
 rotate_left
 ·skip
  have hq : p = true := by rw [← hp, a1, a2, a3]; rfl
  subst hq
  cases z0 : e == -1
  rotate_left
  ·rw [z0] at T
   repeat first
    | refine oy ?_
    | refine mI ?_
    | refine mB ?_
    | (refine mv ?_)
    | (refine bn rfl rfl rfl (by simp only [a1, a2, a3, z0]; rfl) ?_)
    | refine fB ?_
    | refine nl hKF ?_
    | refine sq ?_
    | refine rg fun KF hKF => ?_
    | refine ct rfl ?_
    | refine rt ?_
    | refine Wp.block ?_
    | dsimp only [cond_true, cond_false]
   refine rz trivial ?_
   exact ⟨by rw [T]; rfl, Ext0.ext⟩
  cases z1 : e == 0
  rotate_left
  ·rw [z0, z1] at T
   repeat first
    | refine oy ?_
    | refine mI ?_
    | refine mB ?_
    | (refine mv ?_)
    | (refine bn rfl rfl rfl (by simp only [a1, a2, a3, z0, z1]; rfl) ?_)
    | refine fB ?_
    | refine nl hKF ?_
    | refine sq ?_
    | refine rg fun KF hKF => ?_
    | refine ct rfl ?_
    | refine cf rfl ?_
    | refine rt ?_
    | refine Wp.block ?_
    | dsimp only [cond_true, cond_false]
   refine rz trivial ?_
   exact ⟨by rw [T]; rfl, Ext0.ext⟩
  cases z2 : e == 1
  rotate_left
  ·rw [z0, z1, z2] at T
   repeat first
    | refine oy ?_
    | refine mI ?_
    | refine mB ?_
    | (refine mv ?_)
    | (refine bn rfl rfl rfl (by simp only [a1, a2, a3, z0, z1, z2]; rfl) ?_)
    | refine fB ?_
    | refine nl hKF ?_
    | refine sq ?_
    | refine rg fun KF hKF => ?_
    | refine ct rfl ?_
    | refine cf rfl ?_
    | refine rt ?_
    | refine Wp.block ?_
    | dsimp only [cond_true, cond_false]
   refine rz trivial ?_
   exact ⟨by rw [T]; rfl, Ext0.ext⟩
  rw [z0, z1, z2] at T
  repeat first
   | refine oy ?_
   | refine mI ?_
   | refine mB ?_
   | (refine mv ?_)
   | (refine bn rfl rfl rfl (by simp only [a1, a2, a3, z0, z1, z2]; rfl) ?_)
   | refine fB ?_
   | refine nl hKF ?_
   | refine sq ?_
   | refine rg fun KF hKF => ?_
   | refine ct rfl ?_
   | refine cf rfl ?_
   | refine sk ?_
   | refine rt ?_
   | refine Wp.block ?_
   | dsimp only [cond_true, cond_false]
  refine rz trivial ?_
  exact ⟨by rw [T]; rfl, Ext0.ext⟩
 have hq : p = false := by rw [← hp, a1, a2, a3]; rfl
 subst hq
 cases z0 : e == -2
 rotate_left
 ·rw [z0] at F
  repeat first
   | refine oy ?_
   | refine mI ?_
   | refine mB ?_
   | (refine mv ?_)
   | (refine bn rfl rfl rfl (by simp only [a1, a2, a3, z0]; rfl) ?_)
   | refine fB ?_
   | refine nl hKF ?_
   | refine sq ?_
   | refine rg fun KF hKF => ?_
   | refine ct rfl ?_
   | refine cf rfl ?_
   | refine sk ?_
   | refine rt ?_
   | refine Wp.block ?_
   | dsimp only [cond_true, cond_false]
  refine rz trivial ?_
  exact ⟨by rw [F]; rfl, Ext0.ext⟩
 cases z1 : e == -1
 rotate_left
 ·rw [z0, z1] at F
  repeat first
   | refine oy ?_
   | refine mI ?_
   | refine mB ?_
   | (refine mv ?_)
   | (refine bn rfl rfl rfl (by simp only [a1, a2, a3, z0, z1]; rfl) ?_)
   | refine fB ?_
   | refine nl hKF ?_
   | refine sq ?_
   | refine rg fun KF hKF => ?_
   | refine ct rfl ?_
   | refine cf rfl ?_
   | refine sk ?_
   | refine rt ?_
   | refine Wp.block ?_
   | dsimp only [cond_true, cond_false]
  refine rz trivial ?_
  exact ⟨by rw [F]; rfl, Ext0.ext⟩
 cases z2 : e == 0
 rotate_left
 ·rw [z0, z1, z2] at F
  repeat first
   | refine oy ?_
   | refine mI ?_
   | refine mB ?_
   | (refine mv ?_)
   | (refine bn rfl rfl rfl (by simp only [a1, a2, a3, z0, z1, z2]; rfl) ?_)
   | refine fB ?_
   | refine nl hKF ?_
   | refine sq ?_
   | refine rg fun KF hKF => ?_
   | refine ct rfl ?_
   | refine cf rfl ?_
   | refine sk ?_
   | refine rt ?_
   | refine Wp.block ?_
   | dsimp only [cond_true, cond_false]
  refine rz trivial ?_
  exact ⟨by rw [F]; rfl, Ext0.ext⟩
 cases z3 : e == 1
 rotate_left
 ·rw [z0, z1, z2, z3] at F
  repeat first
   | refine oy ?_
   | refine mI ?_
   | refine mB ?_
   | (refine mv ?_)
   | (refine bn rfl rfl rfl (by simp only [a1, a2, a3, z0, z1, z2, z3]; rfl) ?_)
   | refine fB ?_
   | refine nl hKF ?_
   | refine sq ?_
   | refine rg fun KF hKF => ?_
   | refine ct rfl ?_
   | refine cf rfl ?_
   | refine sk ?_
   | refine rt ?_
   | refine Wp.block ?_
   | dsimp only [cond_true, cond_false]
  refine rz trivial ?_
  exact ⟨by rw [F]; rfl, Ext0.ext⟩
 rw [z0, z1, z2, z3] at F
 repeat first
  | refine oy ?_
  | refine mI ?_
  | refine mB ?_
  | (refine mv ?_)
  | (refine bn rfl rfl rfl (by simp only [a1, a2, a3, z0, z1, z2, z3]; rfl) ?_)
  | refine fB ?_
  | refine nl hKF ?_
  | refine sq ?_
  | refine rg fun KF hKF => ?_
  | refine cf rfl ?_
  | refine sk ?_
  | refine rt ?_
  | refine Wp.block ?_
  | dsimp only [cond_true, cond_false]
 refine rz trivial ?_
 exact ⟨by rw [F]; rfl, Ext0.ext⟩⟩
instance K_quality {n e : Int} {H : AHeap} : PureCon ext prog 113 [.int .i64 n, .int .i64 e] H 1 (strV (qualL (n == 0 || n == 3 || n == 4) e)) := K_quality0 rfl
theorem dig_step : ∀ n : Fin 100, 10 ≤ n.val → digL n.val = digL (n.val / 10) ++ [UInt8.ofNat (48 + n.val % 10)] := by decide +kernel
theorem dig_one : ∀ n : Fin 100, n.val < 10 → digL n.val = [UInt8.ofNat (48 + n.val % 10)] := by decide +kernel
theorem dig_u8 : ∀ k : Fin 10, IntKind.u8.wrap ((48 + k.val : Nat) : Int) = ((UInt8.ofNat (48 + k.val)).toNat : Int) := by decide +kernel
theorem K_Digits1 {n : Nat} {H : AHeap} (h : n < 10) : PureCon ext prog 67 [.int .i64 (n : Int)] H 1 (strV (digL n)) := ⟨by
 refine con_of (show prog 67 = some c67 from rfl) rfl rfl fun m hn => ?_
 have q1 : ((n : Nat) : Int).tmod 10 = ((n % 10 : Nat) : Int) := rfl
 have w1 : IntKind.i64.wrap (48 + ((n % 10 : Nat) : Int)) = ((48 + n % 10 : Nat) : Int) := by rw [w64r (by omega) (by omega)]; omega
 have w3 := dig_u8 ⟨n % 10, Nat.mod_lt _ (by decide)⟩
 simp only at w3
 have k1 : decide (((n : Nat) : Int) > 9) = false := decide_eq_false (by omega)
 have e := dig_one ⟨n, by omega⟩ h
 simp only at e
 repeat first
  | refine mI ?_
  | (refine mv ?_)
  | (refine bn rfl rfl rfl (by simp only [q1, w1, w3]; rfl) ?_)
  | (refine Fo.bslice rfl (by simp only [↓nrmL, nrmZ, Nat.reduceEqDiff, ↓reduceIte, Nat.reduceAdd, Int.reduceBEq, Int.reduceBNe, q1, w1, w3]; rfl) ?_)
  | (refine Fo.now rfl rfl (by simp only [q1, w1, w3]; rfl) ?_)
  | refine nl hKF ?_
  | refine sq ?_
  | refine rg fun KF hKF => ?_
 refine Fo.bts (p := .slice _ 0 1 (some 1) 1) (l := [UInt8.ofNat (48 + n % 10)]) rfl ?_
 repeat first
  | refine mI ?_
  | (refine mv ?_)
  | (refine bn rfl rfl rfl (by simp only [k1]; rfl) ?_)
  | refine nl hKF ?_
  | refine sq ?_
  | refine rg fun KF hKF => ?_
  | refine cf rfl ?_
  | refine sk ?_
  | refine rt ?_
  | dsimp only [cond_true, cond_false]
 refine rz trivial ?_
 exact ⟨by rw [e]; rfl, Ext0.ext⟩⟩
instance K_Digits {n : Nat} {H : AHeap} [hd : Dig n] : PureCon ext prog 67 [.int .i64 (n : Int)] H 2 (strV (digL n)) := ⟨by
 refine con_of (show prog 67 = some c67 from rfl) rfl rfl fun m hn => ?_
 have h9 := hd.lt
 have q1 : ((n : Nat) : Int).tmod 10 = ((n % 10 : Nat) : Int) := rfl
 have w1 : IntKind.i64.wrap (48 + ((n % 10 : Nat) : Int)) = ((48 + n % 10 : Nat) : Int) := by rw [w64r (by omega) (by omega)]; omega
 have w3 := dig_u8 ⟨n % 10, Nat.mod_lt _ (by decide)⟩
 simp only at w3
 cases k1 : decide (((n : Nat) : Int) > 9)
 ·have e := dig_one ⟨n, h9⟩ (by have := of_decide_eq_false k1; simp only; omega)
  simp only at e
  repeat first
   | refine mI ?_
   | (refine mv ?_)
   | (refine bn rfl rfl rfl (by simp only [q1, w1, w3]; rfl) ?_)
   | (refine Fo.bslice rfl (by simp only [↓nrmL, nrmZ, Nat.reduceEqDiff, ↓reduceIte, Nat.reduceAdd, Int.reduceBEq, Int.reduceBNe, q1, w1, w3]; rfl) ?_)
   | (refine Fo.now rfl rfl (by simp only [q1, w1, w3]; rfl) ?_)
   | refine nl hKF ?_
   | refine sq ?_
   | refine rg fun KF hKF => ?_
  refine Fo.bts (p := .slice _ 0 1 (some 1) 1) (l := [UInt8.ofNat (48 + n % 10)]) rfl ?_
  repeat first
   | refine mI ?_
   | (refine mv ?_)
   | (refine bn rfl rfl rfl (by simp only [k1]; rfl) ?_)
   | refine nl hKF ?_
   | refine sq ?_
   | refine rg fun KF hKF => ?_
   | refine cf rfl ?_
   | refine sk ?_
   | refine rt ?_
   | dsimp only [cond_true, cond_false]
  refine rz trivial ?_
  exact ⟨by rw [e]; rfl, Ext0.ext⟩
 ·have g := of_decide_eq_true k1
  have e := dig_step ⟨n, h9⟩ (by simp only; omega)
  simp only at e
  have q2 : ((n : Nat) : Int).tdiv 10 = ((n / 10 : Nat) : Int) := rfl
  have w2 : IntKind.i64.wrap ((n / 10 : Nat) : Int) = ((n / 10 : Nat) : Int) := w64r (by omega) (by omega)
  have i1 : ∀ {H : AHeap}, PureCon ext prog 67 [.int .i64 ((n / 10 : Nat) : Int)] H 1 (strV (digL (n / 10))) := K_Digits1 (by omega)
  haveI := @i1
  repeat first
   | refine mI ?_
   | (refine mv ?_)
   | (refine bn rfl rfl rfl (by simp only [q1, w1, w3]; rfl) ?_)
   | (refine Fo.bslice rfl (by simp only [↓nrmL, nrmZ, Nat.reduceEqDiff, ↓reduceIte, Nat.reduceAdd, Int.reduceBEq, Int.reduceBNe, q1, w1, w3]; rfl) ?_)
   | (refine Fo.now rfl rfl (by simp only [q1, w1, w3]; rfl) ?_)
   | refine nl hKF ?_
   | refine sq ?_
   | refine rg fun KF hKF => ?_
  refine Fo.bts (p := .slice _ 0 1 (some 1) 1) (l := [UInt8.ofNat (48 + n % 10)]) rfl ?_
  repeat first
   | refine mI ?_
   | (refine mv ?_)
   | (refine bn rfl rfl rfl (by simp only [k1, q2, w2]; rfl) ?_)
   | (refine Fo.pcall (v' := ?_) hn rfl (by simp only [↓nrmL, nrmZ, Nat.reduceEqDiff, ↓reduceIte, Nat.reduceAdd, Int.reduceBEq, Int.reduceBNe, k1, q2, w2, List.map]; rfl) rfl ?hv fun _ _ => ?_; case hv => rfl)
   | refine nl hKF ?_
   | refine sq ?_
   | refine rg fun KF hKF => ?_
   | refine ct rfl ?_
  refine Fo.addStr (a := digL (n / 10)) (b := [UInt8.ofNat (48 + n % 10)]) rfl rfl (by have := dig_len (n / 10); simp; omega) rfl ?_
  refine mv ?_
  refine nl hKF ?_
  refine rt ?_
  dsimp only [cond_true, cond_false]
  refine rz trivial ?_
  exact ⟨by rw [e]; rfl, Ext0.ext⟩⟩
theorem title_far {i s : Int} (h : i < -69 ∨ i > 69 ∨ s < -200 ∨ s > 200) : titleS i s = ([], 8) := by
 unfold titleS titleB
 have e : (nearB i s && stepB (upI i s)) = false := by
  cases hb : (nearB i s && stepB (upI i s))
  ·rfl
  exfalso
  simp only [Bool.and_eq_true] at hb
  obtain ⟨h1, h2⟩ := hb
  have n := nearI_of h1
  have a3 := n.sl; have a4 := n.sh
  have m := stepI_of h2
  have yb0 := m.lo; have b9 := m.hi
  unfold upI at yb0 b9
  cases hd : downB i s <;> rw [hd] at yb0 b9 <;> simp only [cond_true, cond_false] at yb0 b9 <;> omega
 rw [e]; rfl
instance K_refTitle {i s : Int} {H : AHeap} : PureCon ext prog 73 [.agg [.int .i64 i, .int .i64 s]] H 5 (.tuple [strV (titleS i s).1, .int .i64 (titleS i s).2]) := ⟨by
 refine con_of (show prog 73 = some c73 from rfl) rfl rfl fun m hn => ?_
 cases f0 : decide (i < -69)
 rotate_left
 ·have hT := title_far (i := i) (s := s) (Or.inl (of_decide_eq_true f0))
  repeat first
   | refine Fo.mov (rfl : _ = strV _) ?_
   | (refine mv ?_)
   | refine ox ?_
   | refine fd ?_
   | refine Fo.ld rfl rfl ?_
   | (refine bn rfl rfl rfl (by simp only [f0]; rfl) ?_)
   | refine tB ?_
   | refine bA ?_
   | refine nl hKF ?_
   | refine sq ?_
   | refine rg fun KF hKF => ?_
   | refine ct rfl ?_
   | refine rt ?_
   | dsimp only [cond_true, cond_false]
  refine rz trivial ?_
  exact ⟨by rw [hT]; rfl, Ext0.ext⟩
 cases f1 : decide (i > 69)
 rotate_left
 ·have hT := title_far (i := i) (s := s) (Or.inr (Or.inl (of_decide_eq_true f1)))
  repeat first
   | refine Fo.mov (rfl : _ = strV _) ?_
   | (refine mv ?_)
   | refine oy ?_
   | refine ox ?_
   | refine fd ?_
   | refine Fo.ld rfl rfl ?_
   | (refine bn rfl rfl rfl (by simp only [f0, f1]; rfl) ?_)
   | refine tB ?_
   | refine fB ?_
   | refine bA ?_
   | refine nl hKF ?_
   | refine sq ?_
   | refine rg fun KF hKF => ?_
   | refine ct rfl ?_
   | refine rt ?_
   | dsimp only [cond_true, cond_false]
  refine rz trivial ?_
  exact ⟨by rw [hT]; rfl, Ext0.ext⟩
 cases f2 : decide (s < -200)
 rotate_left
 ·have hT := title_far (i := i) (s := s) (Or.inr (Or.inr (Or.inl (of_decide_eq_true f2))))
  repeat first
   | refine Fo.mov (rfl : _ = strV _) ?_
   | (refine mv ?_)
   | refine oy ?_
   | refine ox ?_
   | refine fd ?_
   | refine Fo.ld rfl rfl ?_
   | (refine bn rfl rfl rfl (by simp only [f0, f1, f2]; rfl) ?_)
   | refine tB ?_
   | refine fB ?_
   | refine bA ?_
   | refine nl hKF ?_
   | refine sq ?_
   | refine rg fun KF hKF => ?_
   | refine ct rfl ?_
   | refine rt ?_
   | dsimp only [cond_true, cond_false]
  refine rz trivial ?_
  exact ⟨by rw [hT]; rfl, Ext0.ext⟩
 cases f3 : decide (s > 200)
 rotate_left
 ·have hT := title_far (i := i) (s := s) (Or.inr (Or.inr (Or.inr (of_decide_eq_true f3))))
  repeat first
   | refine Fo.mov (rfl : _ = strV _) ?_
   | (refine mv ?_)
   | refine oy ?_
   | refine fd ?_
   | refine Fo.ld rfl rfl ?_
   | (refine bn rfl rfl rfl (by simp only [f0, f1, f2, f3]; rfl) ?_)
   | refine fB ?_
   | refine bA ?_
   | refine nl hKF ?_
   | refine sq ?_
   | refine rg fun KF hKF => ?_
   | refine ct rfl ?_
   | refine rt ?_
   | dsimp only [cond_true, cond_false]
  refine rz trivial ?_
  exact ⟨by rw [hT]; rfl, Ext0.ext⟩
 have a1 := of_decide_eq_false f0; have a2 := of_decide_eq_false f1; have a3 := of_decide_eq_false f2; have a4 := of_decide_eq_false f3
 have h1 : nearB i s = true := by unfold nearB; rw [wthn_eq, wthn_eq, decide_eq_true ⟨by omega, by omega⟩, decide_eq_true ⟨by omega, by omega⟩]; rfl
 have hT : ∀ sg, downB i s = sg → titleS i s = bif stepB (bif sg then -i else i) && !(qualL (perfB (bif sg then -i else i)) ((bif sg then -s else s) - natI (bif sg then -i else i))).isEmpty then ((bif sg then [45] else []) ++ qualL (perfB (bif sg then -i else i)) ((bif sg then -s else s) - natI (bif sg then -i else i)) ++ digL ((bif sg then -i else i) + 1).toNat, 0) else ([], 8) := by
  intro sg e
  unfold titleS titleB titleL upI upS
  rw [h1, e, Bool.true_and]
 cases d1 : decide (i < 0)
 rotate_left
 ·have hi := of_decide_eq_true d1
  have hsg := down_i (s := s) d1
  have hT := hT true hsg
  simp only [cond_true] at hT
  have yb0 : 0 ≤ (-i) := by omega
  have b9 : (-i) ≤ 69 := by omega
  have hb : stepB (-i) = true := stepB_of yb0 b9
  rw [hb, Bool.true_and] at hT
  haveI hsi := stepI_of hb
  obtain ⟨n0, n1⟩ := nat_le yb0 b9
  have hql := q_len (perfB (-i)) ((-s) - natI (-i))
  obtain ⟨q, hq⟩ : ∃ q, qualL ((-i) % 7 == 0 || (-i) % 7 == 3 || (-i) % 7 == 4) ((-s) - natI (-i)) = q := ⟨_, rfl⟩
  have hq' : qualL (perfB (-i)) ((-s) - natI (-i)) = q := hq
  rw [hq'] at hT hql
  haveI : Dig ((-i) + 1).toNat := ⟨by omega⟩
  have w1 : IntKind.i64.wrap ((-i) + 1) = ((((-i) + 1).toNat : Nat) : Int) := by rw [w64r (by omega) (by omega)]; omega
  have w2 : IntKind.i64.wrap ((-s) - natI (-i)) = (-s) - natI (-i) := w64r (by omega) (by omega)
  have q2 : (-i).tmod 7 = (-i) % 7 := Int.tmod_eq_emod_of_nonneg yb0
  have x1 : IntKind.i64.wrap (0 - i) = -i := by rw [w64r (by omega) (by omega)]; omega
  have x2 : IntKind.i64.wrap (0 - s) = -s := by rw [w64r (by omega) (by omega)]; omega
  repeat first
   | refine Fo.mov (rfl : _ = strV _) ?_
   | (refine mv ?_)
   | refine oy ?_
   | refine ox ?_
   | refine Fo.noU rfl ?_
   | refine fd ?_
   | refine Fo.ld rfl rfl ?_
   | (refine bn rfl rfl rfl (by simp only [f0, f1, f2, f3, d1, x1, x2]; rfl) ?_)
   | refine tB ?_
   | refine fB ?_
   | refine bA ?_
   | (refine ob (cs' := ?_) ?hc ?_; case hc => (simp only [↓nrmL, nrmZ, Nat.reduceEqDiff, ↓reduceIte, Nat.reduceAdd, Int.reduceBEq, Int.reduceBNe, f0, f1, f2, f3, d1, x1, x2]; rfl))
   | (refine so rfl (rfl : _ = AVal.agg _) rfl rfl rfl (by simp only [↓nrmL, nrmZ, Nat.reduceEqDiff, ↓reduceIte, Nat.reduceAdd, Int.reduceBEq, Int.reduceBNe, f0, f1, f2, f3, d1, x1, x2]; rfl) ?_)
   | refine nl hKF ?_
   | refine sq ?_
   | refine rg fun KF hKF => ?_
   | refine ct rfl ?_
   | refine cf rfl ?_
   | refine sk ?_
  refine Fr.dregion0 rfl fun KF hKF => ?_
  simp only [↓nrmL, nrmZ, Nat.reduceEqDiff, ↓reduceIte, Nat.reduceAdd, Int.reduceBEq, Int.reduceBNe, q2, w2, hq]
  repeat first
   | (refine Er rfl (exec_ld rfl rfl) rfl ?_)
   | (refine Fe.pure rfl rfl (by simp only [q2, w2, hq]; rfl) ?_)
   | (refine Fe.pure rfl rfl (by simp only [↓nrmL, nrmZ, Nat.reduceEqDiff, ↓reduceIte, Nat.reduceAdd, Int.reduceBEq, Int.reduceBNe, q2, w2, hq]; rfl) ?_)
   | (refine Fe.pcall (v' := ?_) rfl hn rfl (by simp only [↓nrmL, nrmZ, Nat.reduceEqDiff, ↓reduceIte, Nat.reduceAdd, Int.reduceBEq, Int.reduceBNe, q2, w2, hq, List.map]; rfl) rfl ?hv fun _ _ => ar ?_; case hv => (simp only [q2, w2, hq]; rfl))
   | (refine Fe.pcall (v' := ?_) rfl hn rfl (by simp only [↓nrmL, nrmZ, Nat.reduceEqDiff, ↓reduceIte, Nat.reduceAdd, Int.reduceBEq, Int.reduceBNe, q2, w2, hq, List.map]; rfl) rfl ?hv fun _ _ => ar ?_; case hv => rfl)
   | refine WpE.nil (hKF _ _ ?_)
  cases q with
  | nil =>
   repeat first
    | refine Fo.eqStr rfl rfl rfl ?_
    | refine Fo.mov (rfl : _ = strV _) ?_
    | (refine mv ?_)
    | refine nl hKF ?_
    | refine sq ?_
    | refine rg fun KF hKF => ?_
    | refine ct rfl ?_
    | refine rt ?_
    | dsimp only [cond_true, cond_false]
   refine rz trivial ?_
   exact ⟨by rw [hT]; rfl, Ext0.ext⟩
  | cons c q =>
   have z : ((c :: q) == ([] : Bs)) = false := rfl
   simp only [z]
   repeat first
    | (refine Fo.eqStr rfl rfl (by simp only [↓nrmL, nrmZ, Nat.reduceEqDiff, ↓reduceIte, Nat.reduceAdd, Int.reduceBEq, Int.reduceBNe, z]; rfl) ?_)
    | refine Fo.mov (rfl : _ = strV _) ?_
    | refine nl hKF ?_
    | refine sq ?_
    | refine rg fun KF hKF => ?_
    | refine cf rfl ?_
    | refine sk ?_
   refine Fo.addStr (a := ([45] : Bs)) (b := c :: q) rfl rfl (by simp only [List.length_cons] at hql ⊢; simp; omega) rfl ?_
   refine fd ?_
   refine Fo.ld rfl rfl ?_
   refine bn rfl rfl rfl (by simp only [w1]; rfl) ?_
   refine Fo.pcall (v' := ?_) hn rfl (by simp only [↓nrmL, nrmZ, Nat.reduceEqDiff, ↓reduceIte, Nat.reduceAdd, Int.reduceBEq, Int.reduceBNe, w1, List.map]; rfl) rfl ?hv fun _ _ => ?_; case hv => rfl
   refine Fo.addStr (a := ([45] : Bs) ++ c :: q) (b := digL ((-i) + 1).toNat) rfl rfl (by have := dig_len ((-i) + 1).toNat; simp only [List.length_cons, List.length_append] at hql ⊢; simp; omega) rfl ?_
   refine Fo.mov (rfl : _ = strV _) ?_
   refine mv ?_
   refine nl hKF ?_
   refine rt ?_
   dsimp only [cond_true, cond_false]
   refine rz trivial ?_
   exact ⟨by rw [hT]; rfl, Ext0.ext⟩
 have hi := of_decide_eq_false d1
 cases d2 : (i == 0)
 ·have hsg := down_n (s := s) d1 d2
  have hT := hT false hsg
  simp only [cond_false] at hT
  have yb0 : 0 ≤ i := by omega
  have b9 : i ≤ 69 := by omega
  have hb : stepB i = true := stepB_of yb0 b9
  rw [hb, Bool.true_and] at hT
  haveI hsi := stepI_of hb
  obtain ⟨n0, n1⟩ := nat_le yb0 b9
  have hql := q_len (perfB i) (s - natI i)
  obtain ⟨q, hq⟩ : ∃ q, qualL (i % 7 == 0 || i % 7 == 3 || i % 7 == 4) (s - natI i) = q := ⟨_, rfl⟩
  have hq' : qualL (perfB i) (s - natI i) = q := hq
  rw [hq'] at hT hql
  haveI : Dig (i + 1).toNat := ⟨by omega⟩
  have w1 : IntKind.i64.wrap (i + 1) = (((i + 1).toNat : Nat) : Int) := by rw [w64r (by omega) (by omega)]; omega
  have w2 : IntKind.i64.wrap (s - natI i) = s - natI i := w64r (by omega) (by omega)
  have q2 : i.tmod 7 = i % 7 := Int.tmod_eq_emod_of_nonneg yb0
  repeat first
   | refine Fo.mov (rfl : _ = strV _) ?_
   | (refine mv ?_)
   | refine oy ?_
   | refine ox ?_
   | refine fd ?_
   | refine Fo.ld rfl rfl ?_
   | (refine bn rfl rfl rfl (by simp only [f0, f1, f2, f3, d1, d2]; rfl) ?_)
   | refine fB ?_
   | refine bA ?_
   | refine nl hKF ?_
   | refine sq ?_
   | refine rg fun KF hKF => ?_
   | refine cf rfl ?_
   | refine sk ?_
  refine Fr.dregion0 rfl fun KF hKF => ?_
  simp only [↓nrmL, nrmZ, Nat.reduceEqDiff, ↓reduceIte, Nat.reduceAdd, Int.reduceBEq, Int.reduceBNe, q2, w2, hq]
  repeat first
   | (refine Er rfl (exec_ld rfl rfl) rfl ?_)
   | (refine Fe.pure rfl rfl (by simp only [q2, w2, hq]; rfl) ?_)
   | (refine Fe.pure rfl rfl (by simp only [↓nrmL, nrmZ, Nat.reduceEqDiff, ↓reduceIte, Nat.reduceAdd, Int.reduceBEq, Int.reduceBNe, q2, w2, hq]; rfl) ?_)
   | (refine Fe.pcall (v' := ?_) rfl hn rfl (by simp only [↓nrmL, nrmZ, Nat.reduceEqDiff, ↓reduceIte, Nat.reduceAdd, Int.reduceBEq, Int.reduceBNe, q2, w2, hq, List.map]; rfl) rfl ?hv fun _ _ => ar ?_; case hv => (simp only [q2, w2, hq]; rfl))
   | (refine Fe.pcall (v' := ?_) rfl hn rfl (by simp only [↓nrmL, nrmZ, Nat.reduceEqDiff, ↓reduceIte, Nat.reduceAdd, Int.reduceBEq, Int.reduceBNe, q2, w2, hq, List.map]; rfl) rfl ?hv fun _ _ => ar ?_; case hv => rfl)
   | refine WpE.nil (hKF _ _ ?_)
  cases q with
  | nil =>
   repeat first
    | refine Fo.eqStr rfl rfl rfl ?_
    | refine Fo.mov (rfl : _ = strV _) ?_
    | (refine mv ?_)
    | refine nl hKF ?_
    | refine sq ?_
    | refine rg fun KF hKF => ?_
    | refine ct rfl ?_
    | refine rt ?_
    | dsimp only [cond_true, cond_false]
   refine rz trivial ?_
   exact ⟨by rw [hT]; rfl, Ext0.ext⟩
  | cons c q =>
   have z : ((c :: q) == ([] : Bs)) = false := rfl
   simp only [z]
   repeat first
    | (refine Fo.eqStr rfl rfl (by simp only [↓nrmL, nrmZ, Nat.reduceEqDiff, ↓reduceIte, Nat.reduceAdd, Int.reduceBEq, Int.reduceBNe, z]; rfl) ?_)
    | refine Fo.mov (rfl : _ = strV _) ?_
    | refine nl hKF ?_
    | refine sq ?_
    | refine rg fun KF hKF => ?_
    | refine cf rfl ?_
    | refine sk ?_
   refine Fo.addStr (a := ([] : Bs)) (b := c :: q) rfl rfl (by simp only [List.length_cons] at hql ⊢; simp; omega) rfl ?_
   refine fd ?_
   refine Fo.ld rfl rfl ?_
   refine bn rfl rfl rfl (by simp only [w1]; rfl) ?_
   refine Fo.pcall (v' := ?_) hn rfl (by simp only [↓nrmL, nrmZ, Nat.reduceEqDiff, ↓reduceIte, Nat.reduceAdd, Int.reduceBEq, Int.reduceBNe, w1, List.map]; rfl) rfl ?hv fun _ _ => ?_; case hv => rfl
   refine Fo.addStr (a := ([] : Bs) ++ c :: q) (b := digL (i + 1).toNat) rfl rfl (by have := dig_len (i + 1).toNat; simp only [List.length_cons, List.length_append] at hql ⊢; simp; omega) rfl ?_
   refine Fo.mov (rfl : _ = strV _) ?_
   refine mv ?_
   refine nl hKF ?_
   refine rt ?_
   dsimp only [cond_true, cond_false]
   refine rz trivial ?_
   exact ⟨by rw [hT]; rfl, Ext0.ext⟩
 have hi0 := eq_of_beq d2
 cases d3 : decide (s < 0)
 ·have hsg := (down_s (s := s) d1 d2).trans d3
  have hT := hT false hsg
  simp only [cond_false] at hT
  have yb0 : 0 ≤ i := by omega
  have b9 : i ≤ 69 := by omega
  have hb : stepB i = true := stepB_of yb0 b9
  rw [hb, Bool.true_and] at hT
  haveI hsi := stepI_of hb
  obtain ⟨n0, n1⟩ := nat_le yb0 b9
  have hql := q_len (perfB i) (s - natI i)
  obtain ⟨q, hq⟩ : ∃ q, qualL (i % 7 == 0 || i % 7 == 3 || i % 7 == 4) (s - natI i) = q := ⟨_, rfl⟩
  have hq' : qualL (perfB i) (s - natI i) = q := hq
  rw [hq'] at hT hql
  haveI : Dig (i + 1).toNat := ⟨by omega⟩
  have w1 : IntKind.i64.wrap (i + 1) = (((i + 1).toNat : Nat) : Int) := by rw [w64r (by omega) (by omega)]; omega
  have w2 : IntKind.i64.wrap (s - natI i) = s - natI i := w64r (by omega) (by omega)
  have q2 : i.tmod 7 = i % 7 := Int.tmod_eq_emod_of_nonneg yb0
  repeat first
   | refine Fo.mov (rfl : _ = strV _) ?_
   | (refine mv ?_)
   | refine oy ?_
   | refine fd ?_
   | refine Fo.ld rfl rfl ?_
   | (refine bn rfl rfl rfl (by simp only [f0, f1, f2, f3, d1, d2, d3]; rfl) ?_)
   | refine tB ?_
   | refine fB ?_
   | refine bA ?_
   | refine nl hKF ?_
   | refine sq ?_
   | refine rg fun KF hKF => ?_
   | refine cf rfl ?_
   | refine sk ?_
  refine Fr.dregion0 rfl fun KF hKF => ?_
  simp only [↓nrmL, nrmZ, Nat.reduceEqDiff, ↓reduceIte, Nat.reduceAdd, Int.reduceBEq, Int.reduceBNe, q2, w2, hq]
  repeat first
   | (refine Er rfl (exec_ld rfl rfl) rfl ?_)
   | (refine Fe.pure rfl rfl (by simp only [q2, w2, hq]; rfl) ?_)
   | (refine Fe.pure rfl rfl (by simp only [↓nrmL, nrmZ, Nat.reduceEqDiff, ↓reduceIte, Nat.reduceAdd, Int.reduceBEq, Int.reduceBNe, q2, w2, hq]; rfl) ?_)
   | (refine Fe.pcall (v' := ?_) rfl hn rfl (by simp only [↓nrmL, nrmZ, Nat.reduceEqDiff, ↓reduceIte, Nat.reduceAdd, Int.reduceBEq, Int.reduceBNe, q2, w2, hq, List.map]; rfl) rfl ?hv fun _ _ => ar ?_; case hv => (simp only [q2, w2, hq]; rfl))
   | (refine Fe.pcall (v' := ?_) rfl hn rfl (by simp only [↓nrmL, nrmZ, Nat.reduceEqDiff, ↓reduceIte, Nat.reduceAdd, Int.reduceBEq, Int.reduceBNe, q2, w2, hq, List.map]; rfl) rfl ?hv fun _ _ => ar ?_; case hv => rfl)
   | refine WpE.nil (hKF _ _ ?_)
  cases q with
  | nil =>
   repeat first
    | refine Fo.eqStr rfl rfl rfl ?_
    | refine Fo.mov (rfl : _ = strV _) ?_
    | (refine mv ?_)
    | refine nl hKF ?_
    | refine sq ?_
    | refine rg fun KF hKF => ?_
    | refine ct rfl ?_
    | refine rt ?_
    | dsimp only [cond_true, cond_false]
   refine rz trivial ?_
   exact ⟨by rw [hT]; rfl, Ext0.ext⟩
  | cons c q =>
   have z : ((c :: q) == ([] : Bs)) = false := rfl
   simp only [z]
   repeat first
    | (refine Fo.eqStr rfl rfl (by simp only [↓nrmL, nrmZ, Nat.reduceEqDiff, ↓reduceIte, Nat.reduceAdd, Int.reduceBEq, Int.reduceBNe, z]; rfl) ?_)
    | refine Fo.mov (rfl : _ = strV _) ?_
    | refine nl hKF ?_
    | refine sq ?_
    | refine rg fun KF hKF => ?_
    | refine cf rfl ?_
    | refine sk ?_
   refine Fo.addStr (a := ([] : Bs)) (b := c :: q) rfl rfl (by simp only [List.length_cons] at hql ⊢; simp; omega) rfl ?_
   refine fd ?_
   refine Fo.ld rfl rfl ?_
   refine bn rfl rfl rfl (by simp only [w1]; rfl) ?_
   refine Fo.pcall (v' := ?_) hn rfl (by simp only [↓nrmL, nrmZ, Nat.reduceEqDiff, ↓reduceIte, Nat.reduceAdd, Int.reduceBEq, Int.reduceBNe, w1, List.map]; rfl) rfl ?hv fun _ _ => ?_; case hv => rfl
   refine Fo.addStr (a := ([] : Bs) ++ c :: q) (b := digL (i + 1).toNat) rfl rfl (by have := dig_len (i + 1).toNat; simp only [List.length_cons, List.length_append] at hql ⊢; simp; omega) rfl ?_
   refine Fo.mov (rfl : _ = strV _) ?_
   refine mv ?_
   refine nl hKF ?_
   refine rt ?_
   dsimp only [cond_true, cond_false]
   refine rz trivial ?_
   exact ⟨by rw [hT]; rfl, Ext0.ext⟩
 ·have hsg := (down_s (s := s) d1 d2).trans d3
  have hs := of_decide_eq_true d3
  have hT := hT true hsg
  simp only [cond_true] at hT
  have yb0 : 0 ≤ (-i) := by omega
  have b9 : (-i) ≤ 69 := by omega
  have hb : stepB (-i) = true := stepB_of yb0 b9
  rw [hb, Bool.true_and] at hT
  haveI hsi := stepI_of hb
  obtain ⟨n0, n1⟩ := nat_le yb0 b9
  have hql := q_len (perfB (-i)) ((-s) - natI (-i))
  obtain ⟨q, hq⟩ : ∃ q, qualL ((-i) % 7 == 0 || (-i) % 7 == 3 || (-i) % 7 == 4) ((-s) - natI (-i)) = q := ⟨_, rfl⟩
  have hq' : qualL (perfB (-i)) ((-s) - natI (-i)) = q := hq
  rw [hq'] at hT hql
  haveI : Dig ((-i) + 1).toNat := ⟨by omega⟩
  have w1 : IntKind.i64.wrap ((-i) + 1) = ((((-i) + 1).toNat : Nat) : Int) := by rw [w64r (by omega) (by omega)]; omega
  have w2 : IntKind.i64.wrap ((-s) - natI (-i)) = (-s) - natI (-i) := w64r (by omega) (by omega)
  have q2 : (-i).tmod 7 = (-i) % 7 := Int.tmod_eq_emod_of_nonneg yb0
  have x1 : IntKind.i64.wrap (0 - i) = -i := by rw [w64r (by omega) (by omega)]; omega
  have x2 : IntKind.i64.wrap (0 - s) = -s := by rw [w64r (by omega) (by omega)]; omega
  repeat first
   | refine Fo.mov (rfl : _ = strV _) ?_
   | (refine mv ?_)
   | refine oy ?_
   | refine fd ?_
   | refine Fo.ld rfl rfl ?_
   | (refine bn rfl rfl rfl (by simp only [f0, f1, f2, f3, d1, d2, d3, x1, x2]; rfl) ?_)
   | refine tB ?_
   | refine fB ?_
   | refine bA ?_
   | (refine ob (cs' := ?_) ?hc ?_; case hc => (simp only [↓nrmL, nrmZ, Nat.reduceEqDiff, ↓reduceIte, Nat.reduceAdd, Int.reduceBEq, Int.reduceBNe, f0, f1, f2, f3, d1, d2, d3, x1, x2]; rfl))
   | (refine so rfl (rfl : _ = AVal.agg _) rfl rfl rfl (by simp only [↓nrmL, nrmZ, Nat.reduceEqDiff, ↓reduceIte, Nat.reduceAdd, Int.reduceBEq, Int.reduceBNe, f0, f1, f2, f3, d1, d2, d3, x1, x2]; rfl) ?_)
   | refine nl hKF ?_
   | refine sq ?_
   | refine rg fun KF hKF => ?_
   | refine ct rfl ?_
   | refine cf rfl ?_
   | refine sk ?_
  refine Fr.dregion0 rfl fun KF hKF => ?_
  simp only [↓nrmL, nrmZ, Nat.reduceEqDiff, ↓reduceIte, Nat.reduceAdd, Int.reduceBEq, Int.reduceBNe, q2, w2, hq]
  repeat first
   | (refine Er rfl (exec_ld rfl rfl) rfl ?_)
   | (refine Fe.pure rfl rfl (by simp only [q2, w2, hq]; rfl) ?_)
   | (refine Fe.pure rfl rfl (by simp only [↓nrmL, nrmZ, Nat.reduceEqDiff, ↓reduceIte, Nat.reduceAdd, Int.reduceBEq, Int.reduceBNe, q2, w2, hq]; rfl) ?_)
   | (refine Fe.pcall (v' := ?_) rfl hn rfl (by simp only [↓nrmL, nrmZ, Nat.reduceEqDiff, ↓reduceIte, Nat.reduceAdd, Int.reduceBEq, Int.reduceBNe, q2, w2, hq, List.map]; rfl) rfl ?hv fun _ _ => ar ?_; case hv => (simp only [q2, w2, hq]; rfl))
   | (refine Fe.pcall (v' := ?_) rfl hn rfl (by simp only [↓nrmL, nrmZ, Nat.reduceEqDiff, ↓reduceIte, Nat.reduceAdd, Int.reduceBEq, Int.reduceBNe, q2, w2, hq, List.map]; rfl) rfl ?hv fun _ _ => ar ?_; case hv => rfl)
   | refine WpE.nil (hKF _ _ ?_)
  cases q with
  | nil =>
   repeat first
    | refine Fo.eqStr rfl rfl rfl ?_
    | refine Fo.mov (rfl : _ = strV _) ?_
    | (refine mv ?_)
    | refine nl hKF ?_
    | refine sq ?_
    | refine rg fun KF hKF => ?_
    | refine ct rfl ?_
    | refine rt ?_
    | dsimp only [cond_true, cond_false]
   refine rz trivial ?_
   exact ⟨by rw [hT]; rfl, Ext0.ext⟩
  | cons c q =>
   have z : ((c :: q) == ([] : Bs)) = false := rfl
   simp only [z]
   repeat first
    | (refine Fo.eqStr rfl rfl (by simp only [↓nrmL, nrmZ, Nat.reduceEqDiff, ↓reduceIte, Nat.reduceAdd, Int.reduceBEq, Int.reduceBNe, z]; rfl) ?_)
    | refine Fo.mov (rfl : _ = strV _) ?_
    | refine nl hKF ?_
    | refine sq ?_
    | refine rg fun KF hKF => ?_
    | refine cf rfl ?_
    | refine sk ?_
   refine Fo.addStr (a := ([45] : Bs)) (b := c :: q) rfl rfl (by simp only [List.length_cons] at hql ⊢; simp; omega) rfl ?_
   refine fd ?_
   refine Fo.ld rfl rfl ?_
   refine bn rfl rfl rfl (by simp only [w1]; rfl) ?_
   refine Fo.pcall (v' := ?_) hn rfl (by simp only [↓nrmL, nrmZ, Nat.reduceEqDiff, ↓reduceIte, Nat.reduceAdd, Int.reduceBEq, Int.reduceBNe, w1, List.map]; rfl) rfl ?hv fun _ _ => ?_; case hv => rfl
   refine Fo.addStr (a := ([45] : Bs) ++ c :: q) (b := digL ((-i) + 1).toNat) rfl rfl (by have := dig_len ((-i) + 1).toNat; simp only [List.length_cons, List.length_append] at hql ⊢; simp; omega) rfl ?_
   refine Fo.mov (rfl : _ = strV _) ?_
   refine mv ?_
   refine nl hKF ?_
   refine rt ?_
   dsimp only [cond_true, cond_false]
   refine rz trivial ?_
   exact ⟨by rw [hT]; rfl, Ext0.ext⟩⟩
end Go.Am
namespace Go.Am
open Go
attribute [local irreducible] Wp WpO WpX WpE
def numS (n : Int) (c : UInt8) : Int := IntKind.i64.wrap (IntKind.i64.wrap (IntKind.i64.wrap (10 * n) + IntKind.i64.wrap ((c.toNat : Nat) : Int)) - 48)
def numF (l : Bs) : Int := l.foldl numS 0
theorem num_next {l : Bs} {i : Nat} (h : i < l.length) : numF (l.take (i + 1)) = numS (numF (l.take i)) l[i] := by
 unfold numF
 rw [List.take_succ_eq_append_getElem h, List.foldl_append]
 rfl
theorem dig_num : ∀ k : Fin 100, numF (digL k.val) = (k.val : Int) := by decide +kernel
theorem dig_head : ∀ k : Fin 100, 1 ≤ k.val → (digL k.val)[0]? ≠ some 48 := by decide +kernel
theorem K_Number {l : Bs} {H : AHeap} [hl : Len47 l] : Con ext prog 1 114 [strV l] H fun v H' => ∃ n, v = .int .i64 n ∧ (∀ k : Nat, 1 ≤ k → k < 100 → l = digL k → n = (k : Int)) ∧ Ext H H' := by
 refine con_of (show prog 114 = some c114 from rfl) rfl rfl fun m hn => ?_
 have hle := hl.le
 cases s1 : (((l.length : Nat) : Int) == 0)
 rotate_left
 ·have := eq_of_beq s1
  repeat first
   | refine Fo.lenStr (rfl : _ = strV _) rfl ?_
   | refine Fo.mov (rfl : _ = strV _) ?_
   | (refine mv ?_)
   | refine ox ?_
   | refine Fo.noU rfl ?_
   | (refine bn rfl rfl rfl (by simp only [s1]; rfl) ?_)
   | refine tB ?_
   | refine nl hKF ?_
   | refine sq ?_
   | refine rg fun KF hKF => ?_
   | refine ct rfl ?_
   | refine rt ?_
   | dsimp only [cond_true, cond_false]
  refine rz trivial ?_
  exact ⟨_, rfl, fun k k1 hk e => (by have q1 := dig_pos k; rw [← e] at q1; omega), Ext0.ext⟩
 have g1 : ((l.length : Nat) : Int) ≠ 0 := fun q => by rw [q] at s1; cases s1
 have hp : 0 < l.length := by omega
 cases s2 : decide (((l.length : Nat) : Int) > 9)
 rotate_left
 ·have := of_decide_eq_true s2
  repeat first
   | refine Fo.lenStr (rfl : _ = strV _) rfl ?_
   | refine Fo.mov (rfl : _ = strV _) ?_
   | (refine mv ?_)
   | refine oy ?_
   | refine ox ?_
   | refine Fo.noU rfl ?_
   | (refine bn rfl rfl rfl (by simp only [s1, s2]; rfl) ?_)
   | refine tB ?_
   | refine fB ?_
   | refine nl hKF ?_
   | refine sq ?_
   | refine rg fun KF hKF => ?_
   | refine ct rfl ?_
   | refine rt ?_
   | dsimp only [cond_true, cond_false]
  refine rz trivial ?_
  exact ⟨_, rfl, fun k k1 hk e => (by have q2 := dig_len k; rw [← e] at q2; omega), Ext0.ext⟩
 have g2 := of_decide_eq_false s2
 obtain ⟨c, x0⟩ : ∃ c : UInt8, l[0] = c := ⟨_, rfl⟩
 cases s3 : decide (((l.length : Nat) : Int) > 1)
 ·skip
  repeat first
   | refine Fo.lenStr (rfl : _ = strV _) rfl ?_
   | refine Fo.mov (rfl : _ = strV _) ?_
   | (refine mv ?_)
   | refine oy ?_
   | refine ox ?_
   | (refine bn rfl rfl rfl (by simp only [s1, s2, s3]; rfl) ?_)
   | refine fB ?_
   | refine nl hKF ?_
   | refine sq ?_
   | refine rg fun KF hKF => ?_
   | refine cf rfl ?_
   | refine sk ?_
   | refine Wp.block ?_
   | dsimp only [cond_true, cond_false]
  refine Wp.loopS (σ := Nat) [2, 3, 4, 23, 24, 25, 26, 27, 28, 29, 30, 31, 32, 33, 34, 35, 36, 37, 38, 39, 40, 41, 42, 43, 44, 45, 46] (fun i => [(4, .int .i64 (i : Int)), (3, .int .i64 (numF (l.take i)))]) (fun H3 i H2 => i ≤ l.length ∧ Ext H3 H2) (fun i => l.length - i) 0 rfl (fun _ => rfl) ⟨rfl, rfl, trivial⟩ ⟨Nat.zero_le _, Ext.refl _⟩ (by unfold fuel0 at hn; omega) ?_
  rintro i g H2 ⟨hi, hx2⟩
  haveI : ExtI _ H2 := ⟨hx2⟩
  simp only [↓nrmL, nrmZ, Nat.reduceEqDiff, ↓reduceIte, Nat.reduceAdd, Int.reduceBEq, Int.reduceBNe]
  cases hcl : decide ((i : Int) < ((l.length : Nat) : Int))
  ·skip
   repeat first
    | refine Fo.lenStr (rfl : _ = strV _) rfl ?_
    | refine Fo.mov (rfl : _ = strV _) ?_
    | (refine mv ?_)
    | (refine bn rfl rfl rfl (by simp only [hcl]; rfl) ?_)
    | refine nl hKF ?_
    | refine sq ?_
    | refine rg fun KF hKF => ?_
    | refine cf rfl ?_
    | refine rt ?_
    | refine xi ?_
    | dsimp only [cond_true, cond_false]
   refine rz trivial ?_
   exact ⟨_, rfl, fun k k1 hk e => by
    have hie : i = l.length := by have := of_decide_eq_false hcl; omega
    rw [hie, List.take_length, e]; exact dig_num ⟨k, hk⟩, Ext0.ext⟩
  have hil : i < l.length := by have := of_decide_eq_true hcl; omega
  have hw1 : IntKind.i64.wrap ((i : Int) + 1) = ((i + 1 : Nat) : Int) := by rw [w64r (by omega) (by omega)]; omega
  cases p8 : decide (((l[i].toNat : Nat) : Int) < 48)
  rotate_left
  ·have := of_decide_eq_true p8
   repeat first
    | refine Fo.lenStr (rfl : _ = strV _) rfl ?_
    | (refine Fo.idxStr (rfl : _ = strV _) rfl ?_ rfl ?_; (focus omega))
    | refine Fo.mov (rfl : _ = strV _) ?_
    | (refine mv ?_)
    | refine ox ?_
    | (refine bn rfl rfl rfl (by simp only [hcl, p8]; rfl) ?_)
    | refine tB ?_
    | refine nl hKF ?_
    | refine sq ?_
    | refine rg fun KF hKF => ?_
    | refine ct rfl ?_
    | refine sk ?_
    | refine rt ?_
    | refine Wp.block ?_
    | dsimp only [cond_true, cond_false]
   refine rz trivial ?_
   exact ⟨_, rfl, fun k k1 hk e => (not_dig hil (fun q => by omega) k hk e).elim, Ext0.ext⟩
  cases p9 : decide (((l[i].toNat : Nat) : Int) > 57)
  rotate_left
  ·have := of_decide_eq_true p9
   repeat first
    | refine Fo.lenStr (rfl : _ = strV _) rfl ?_
    | (refine Fo.idxStr (rfl : _ = strV _) rfl ?_ rfl ?_; (focus omega))
    | refine Fo.mov (rfl : _ = strV _) ?_
    | (refine mv ?_)
    | refine oy ?_
    | (refine bn rfl rfl rfl (by simp only [hcl, p8, p9]; rfl) ?_)
    | refine fB ?_
    | refine nl hKF ?_
    | refine sq ?_
    | refine rg fun KF hKF => ?_
    | refine ct rfl ?_
    | refine sk ?_
    | refine rt ?_
    | refine Wp.block ?_
    | dsimp only [cond_true, cond_false]
   refine rz trivial ?_
   exact ⟨_, rfl, fun k k1 hk e => (not_dig hil (fun q => by omega) k hk e).elim, Ext0.ext⟩
  repeat first
   | refine Fo.lenStr (rfl : _ = strV _) rfl ?_
   | (refine Fo.idxStr (rfl : _ = strV _) rfl ?_ rfl ?_; (focus omega))
   | refine Fo.mov (rfl : _ = strV _) ?_
   | (refine mv ?_)
   | refine oy ?_
   | (refine bn rfl rfl rfl (by simp only [hcl, p8, p9]; rfl) ?_)
   | refine b0 ?_
   | refine fB ?_
   | refine Fo.now rfl rfl rfl ?_
   | refine nl hKF ?_
   | refine sq ?_
   | refine rg fun KF hKF => ?_
   | refine ct rfl ?_
   | refine cf rfl ?_
   | refine sk ?_
   | refine Wp.block ?_
   | dsimp only [cond_true, cond_false]
  exact ⟨i + 1, by omega, ⟨by simp only [↓nrmL, nrmZ, Nat.reduceEqDiff, ↓reduceIte, Nat.reduceAdd, Int.reduceBEq, Int.reduceBNe]; rw [hw1], by simp only [↓nrmL, nrmZ, Nat.reduceEqDiff, ↓reduceIte, Nat.reduceAdd, Int.reduceBEq, Int.reduceBNe]; rw [num_next hil]; rfl, trivial⟩, by omega, Ext0.ext⟩
 cases a1 : (((c.toNat : Nat) : Int) == 48)
 rotate_left
 ·have := eq_of_beq a1
  repeat first
   | (refine Fo.idxStr (rfl : _ = strV _) rfl ?_ (by simp only [↓nrmL, nrmZ, Nat.reduceEqDiff, ↓reduceIte, Nat.reduceAdd, Int.reduceBEq, Int.reduceBNe, s1, s2, s3, x0, a1]; rfl) ?_; (focus omega))
   | refine Fo.lenStr (rfl : _ = strV _) rfl ?_
   | refine Fo.mov (rfl : _ = strV _) ?_
   | (refine mv ?_)
   | refine oy ?_
   | (refine bn rfl rfl rfl (by simp only [s1, s2, s3, x0, a1]; rfl) ?_)
   | refine tB ?_
   | refine fB ?_
   | refine nl hKF ?_
   | refine sq ?_
   | refine rg fun KF hKF => ?_
   | refine ct rfl ?_
   | refine rt ?_
   | dsimp only [cond_true, cond_false]
  refine rz trivial ?_
  exact ⟨_, rfl, fun k k1 hk e => (by
   have q := dig_head ⟨k, hk⟩ k1
   simp only at q
   rw [← e, List.getElem?_eq_getElem hp, x0] at q
   exact (q (congrArg some (UInt8.toNat_inj.1 (by rw [show c.toNat = 48 by omega]; rfl)))).elim), Ext0.ext⟩
 repeat first
  | (refine Fo.idxStr (rfl : _ = strV _) rfl ?_ (by simp only [↓nrmL, nrmZ, Nat.reduceEqDiff, ↓reduceIte, Nat.reduceAdd, Int.reduceBEq, Int.reduceBNe, s1, s2, s3, x0, a1]; rfl) ?_; (focus omega))
  | refine Fo.lenStr (rfl : _ = strV _) rfl ?_
  | refine Fo.mov (rfl : _ = strV _) ?_
  | (refine mv ?_)
  | refine oy ?_
  | (refine bn rfl rfl rfl (by simp only [s1, s2, s3, x0, a1]; rfl) ?_)
  | refine tB ?_
  | refine fB ?_
  | refine nl hKF ?_
  | refine sq ?_
  | refine rg fun KF hKF => ?_
  | refine cf rfl ?_
  | refine sk ?_
  | refine Wp.block ?_
  | dsimp only [cond_true, cond_false]
 refine Wp.loopS (σ := Nat) [2, 3, 4, 23, 24, 25, 26, 27, 28, 29, 30, 31, 32, 33, 34, 35, 36, 37, 38, 39, 40, 41, 42, 43, 44, 45, 46] (fun i => [(4, .int .i64 (i : Int)), (3, .int .i64 (numF (l.take i)))]) (fun H3 i H2 => i ≤ l.length ∧ Ext H3 H2) (fun i => l.length - i) 0 rfl (fun _ => rfl) ⟨rfl, rfl, trivial⟩ ⟨Nat.zero_le _, Ext.refl _⟩ (by unfold fuel0 at hn; omega) ?_
 rintro i g H2 ⟨hi, hx2⟩
 haveI : ExtI _ H2 := ⟨hx2⟩
 simp only [↓nrmL, nrmZ, Nat.reduceEqDiff, ↓reduceIte, Nat.reduceAdd, Int.reduceBEq, Int.reduceBNe]
 cases hcl : decide ((i : Int) < ((l.length : Nat) : Int))
 ·skip
  repeat first
   | refine Fo.lenStr (rfl : _ = strV _) rfl ?_
   | refine Fo.mov (rfl : _ = strV _) ?_
   | (refine mv ?_)
   | (refine bn rfl rfl rfl (by simp only [hcl]; rfl) ?_)
   | refine nl hKF ?_
   | refine sq ?_
   | refine rg fun KF hKF => ?_
   | refine cf rfl ?_
   | refine rt ?_
   | refine xi ?_
   | dsimp only [cond_true, cond_false]
  refine rz trivial ?_
  exact ⟨_, rfl, fun k k1 hk e => by
   have hie : i = l.length := by have := of_decide_eq_false hcl; omega
   rw [hie, List.take_length, e]; exact dig_num ⟨k, hk⟩, Ext0.ext⟩
 have hil : i < l.length := by have := of_decide_eq_true hcl; omega
 have hw1 : IntKind.i64.wrap ((i : Int) + 1) = ((i + 1 : Nat) : Int) := by rw [w64r (by omega) (by omega)]; omega
 cases p8 : decide (((l[i].toNat : Nat) : Int) < 48)
 rotate_left
 ·have := of_decide_eq_true p8
  repeat first
   | refine Fo.lenStr (rfl : _ = strV _) rfl ?_
   | (refine Fo.idxStr (rfl : _ = strV _) rfl ?_ rfl ?_; (focus omega))
   | refine Fo.mov (rfl : _ = strV _) ?_
   | (refine mv ?_)
   | refine ox ?_
   | (refine bn rfl rfl rfl (by simp only [hcl, p8]; rfl) ?_)
   | refine tB ?_
   | refine nl hKF ?_
   | refine sq ?_
   | refine rg fun KF hKF => ?_
   | refine ct rfl ?_
   | refine sk ?_
   | refine rt ?_
   | refine Wp.block ?_
   | dsimp only [cond_true, cond_false]
  refine rz trivial ?_
  exact ⟨_, rfl, fun k k1 hk e => (not_dig hil (fun q => by omega) k hk e).elim, Ext0.ext⟩
 cases p9 : decide (((l[i].toNat : Nat) : Int) > 57)
 rotate_left
 ·have := of_decide_eq_true p9
  repeat first
   | refine Fo.lenStr (rfl : _ = strV _) rfl ?_
   | (refine Fo.idxStr (rfl : _ = strV _) rfl ?_ rfl ?_; (focus omega))
   | refine Fo.mov (rfl : _ = strV _) ?_
   | (refine mv ?_)
   | refine oy ?_
   | (refine bn rfl rfl rfl (by simp only [hcl, p8, p9]; rfl) ?_)
   | refine fB ?_
   | refine nl hKF ?_
   | refine sq ?_
   | refine rg fun KF hKF => ?_
   | refine ct rfl ?_
   | refine sk ?_
   | refine rt ?_
   | refine Wp.block ?_
   | dsimp only [cond_true, cond_false]
  refine rz trivial ?_
  exact ⟨_, rfl, fun k k1 hk e => (not_dig hil (fun q => by omega) k hk e).elim, Ext0.ext⟩
 repeat first
  | refine Fo.lenStr (rfl : _ = strV _) rfl ?_
  | (refine Fo.idxStr (rfl : _ = strV _) rfl ?_ rfl ?_; (focus omega))
  | refine Fo.mov (rfl : _ = strV _) ?_
  | (refine mv ?_)
  | refine oy ?_
  | (refine bn rfl rfl rfl (by simp only [hcl, p8, p9]; rfl) ?_)
  | refine b0 ?_
  | refine fB ?_
  | refine Fo.now rfl rfl rfl ?_
  | refine nl hKF ?_
  | refine sq ?_
  | refine rg fun KF hKF => ?_
  | refine ct rfl ?_
  | refine cf rfl ?_
  | refine sk ?_
  | refine Wp.block ?_
  | dsimp only [cond_true, cond_false]
 exact ⟨i + 1, by omega, ⟨by simp only [↓nrmL, nrmZ, Nat.reduceEqDiff, ↓reduceIte, Nat.reduceAdd, Int.reduceBEq, Int.reduceBNe]; rw [hw1], by simp only [↓nrmL, nrmZ, Nat.reduceEqDiff, ↓reduceIte, Nat.reduceAdd, Int.reduceBEq, Int.reduceBNe]; rw [num_next hil]; rfl, trivial⟩, by omega, Ext0.ext⟩
end Go.Am
namespace Go.Am
open Go
attribute [local irreducible] Wp WpO WpX WpE
theorem min_nil {l : Bs} (h : l.length = 0) : minB l = false := by
 have := List.length_eq_zero_iff.1 h
 rw [this]; rfl
theorem min_of {l : Bs} (h : 0 < l.length) : minB l = (((l[0].toNat : Nat) : Int) == 45) := by
 match l, h with
 | c :: r, _ =>
  have e : minB (c :: r) = (c == 45) := by
   unfold minB
   show (c == 45 && (([] : Bs) == [])) = _
   exact Bool.and_true _
  rw [e]
  show (c == 45) = (((c.toNat : Nat) : Int) == 45)
  cases hc : (((c.toNat : Nat) : Int) == 45)
  ·exact beq_false_of_ne fun q => by rw [q] at hc; cases hc
  ·have h1 := eq_of_beq hc
   have : c = 45 := UInt8.toNat_inj.1 (by rw [show c.toNat = 45 by omega]; rfl)
   rw [this]; rfl
theorem K_refRead {l : Bs} {H : AHeap} [hl : Len47 l] : Con ext prog 6 74 [strV l] H fun v H' => ReadR l v ∧ Ext H H' := by
 refine con_of (show prog 74 = some c74 from rfl) rfl rfl fun m hn => ?_
 have hle := hl.le
 cases s1 : decide (((l.length : Nat) : Int) > 0)
 ·have g1 : l.length = 0 := by have := of_decide_eq_false s1; omega
  have hw := min_nil g1
  have hno : ∀ n e : Int, -2 ≤ e → e ≤ 1 → hitB l (minB l) n e = false := fun n e _ _ => by
   cases hh : hitB l (minB l) n e
   ·rfl
   ·have := (hit_tail hh).2.1
    unfold restL at this; rw [hw] at this; simp only [cond_false] at this; omega
  have z1 : decide (((l.length : Nat) : Int) < 2) = true := decide_eq_true (by omega)
  repeat first
   | refine Fo.lenStr (rfl : _ = strV _) rfl ?_
   | refine Fo.mov (rfl : _ = strV _) ?_
   | (refine mv ?_)
   | refine ox ?_
   | (refine bn rfl rfl rfl (by simp only [s1, z1]; rfl) ?_)
   | refine fB ?_
   | refine nw ?_
   | (refine ob (cs' := ?_) ?hc ?_; case hc => rfl)
   | (refine so rfl (rfl : _ = AVal.agg _) rfl rfl rfl (by simp only [↓nrmL, nrmZ, Nat.reduceEqDiff, ↓reduceIte, Nat.reduceAdd, Int.reduceBEq, Int.reduceBNe, s1, z1]; rfl) ?_)
   | refine nl hKF ?_
   | refine sq ?_
   | refine rg fun KF hKF => ?_
   | refine ct rfl ?_
   | refine cf rfl ?_
   | refine sk ?_
   | refine rt ?_
   | dsimp only [cond_true, cond_false]
  refine rz trivial ?_
  exact ⟨Or.inr ⟨hno, rfl⟩, Ext0.ext⟩
 have g1 : 0 < l.length := by have := of_decide_eq_true s1; omega
 have hm := min_of g1
 obtain ⟨c, x0⟩ : ∃ c : UInt8, l[0] = c := ⟨_, rfl⟩
 rw [x0] at hm
 have xd : (l.drop 1).take (l.length - 1) = l.drop 1 := by rw [List.take_of_length_le (by rw [List.length_drop]; omega)]
 cases a1 : (((c.toNat : Nat) : Int) == 45)
 ·skip
  have hw : minB l = false := by rw [hm, a1]
  have hr : restL l = l := by unfold restL; rw [hw]; rfl
  have hRl : l.length ≤ 2 ^ 47 := by omega
  cases z1 : decide (((l.length : Nat) : Int) < 2)
  rotate_left
  ·have hno : ∀ n e : Int, -2 ≤ e → e ≤ 1 → hitB l (minB l) n e = false := fun n e _ _ => by
    cases hh : hitB l (minB l) n e
    ·rfl
    ·have := (hit_tail hh).2.1
     rw [hr] at this
     have := of_decide_eq_true z1; omega
   repeat first
    | (refine Fo.idxStr (rfl : _ = strV _) rfl ?_ (by simp only [↓nrmL, nrmZ, Nat.reduceEqDiff, ↓reduceIte, Nat.reduceAdd, Int.reduceBEq, Int.reduceBNe, s1, x0, a1, z1]; rfl) ?_; (focus omega))
    | refine Fo.lenStr (rfl : _ = strV _) rfl ?_
    | refine Fo.mov (rfl : _ = strV _) ?_
    | (refine mv ?_)
    | refine oy ?_
    | (refine bn rfl rfl rfl (by simp only [s1, x0, a1, z1]; rfl) ?_)
    | refine tB ?_
    | refine nw ?_
    | (refine ob (cs' := ?_) ?hc ?_; case hc => rfl)
    | (refine so rfl (rfl : _ = AVal.agg _) rfl rfl rfl (by simp only [↓nrmL, nrmZ, Nat.reduceEqDiff, ↓reduceIte, Nat.reduceAdd, Int.reduceBEq, Int.reduceBNe, s1, x0, a1, z1]; rfl) ?_)
    | refine nl hKF ?_
    | refine sq ?_
    | refine rg fun KF hKF => ?_
    | refine ct rfl ?_
    | refine cf rfl ?_
    | refine sk ?_
    | refine rt ?_
    | dsimp only [cond_true, cond_false]
   refine rz trivial ?_
   exact ⟨Or.inr ⟨hno, rfl⟩, Ext0.ext⟩
  have hR2 : 2 ≤ l.length := by have := of_decide_eq_false z1; omega
  have xd2 : (l.drop 1).take (l.length - 1) = l.drop 1 := by rw [List.take_of_length_le (by rw [List.length_drop]; omega)]
  haveI : Len47 (l.drop 1) := ⟨by rw [List.length_drop]; omega⟩
  repeat first
   | (refine Fo.idxStr (rfl : _ = strV _) rfl ?_ (by simp only [↓nrmL, nrmZ, Nat.reduceEqDiff, ↓reduceIte, Nat.reduceAdd, Int.reduceBEq, Int.reduceBNe, s1, x0, a1, z1]; rfl) ?_; (focus omega))
   | refine Fo.lenStr (rfl : _ = strV _) rfl ?_
   | refine Fo.mov (rfl : _ = strV _) ?_
   | (refine mv ?_)
   | refine oy ?_
   | (refine bn rfl rfl rfl (by simp only [s1, x0, a1, z1]; rfl) ?_)
   | refine tB ?_
   | refine nw ?_
   | refine nl hKF ?_
   | refine sq ?_
   | refine rg fun KF hKF => ?_
   | refine cf rfl ?_
   | refine sk ?_
  refine Fo.slcStr (l := l) (a := 1) (b := l.length) rfl (Or.inr ⟨_, rfl⟩) (Or.inl ⟨rfl, rfl⟩) (by omega) (Nat.le_refl _) (congrArg strV xd2) ?_
  skip
  refine WpO.do (WpX.conD hn rfl rfl (by simp only [↓nrmL, nrmZ, Nat.reduceEqDiff, ↓reduceIte, Nat.reduceAdd, Int.reduceBEq, Int.reduceBNe, List.map] <;> rfl) (K_Number (l := l.drop 1)) fun v H1 h5 => ?_)
  obtain ⟨N, rfl, hk, hx⟩ := h5
  haveI : ExtI _ H1 := ⟨hx⟩
  obtain ⟨M, hM⟩ : ∃ M, IntKind.i64.wrap (N - 1) = M := ⟨_, rfl⟩
  have hMh : ∀ n e : Int, hitB l (minB l) n e = true → M = n ∧ 0 ≤ n ∧ n ≤ 69 := fun n e hh => by
   obtain ⟨g1, _, g2⟩ := hit_tail hh
   have g3 := stepI_of g1
   have g4 := g3.lo; have g5 := g3.hi
   rw [hr] at g2
   have k1 := hk (n + 1).toNat (by omega) (by omega) g2
   refine ⟨?_, g4, g5⟩
   rw [← hM, k1, w64r (by omega) (by omega)]; omega
  cases s2 : decide (M < 0)
  rotate_left
  ·have hno : ∀ n e : Int, -2 ≤ e → e ≤ 1 → hitB l (minB l) n e = false := fun n e _ _ => by
    cases hh : hitB l (minB l) n e
    ·rfl
    ·have := hMh n e hh
     have := of_decide_eq_true s2; omega
   repeat first
    | (refine mv ?_)
    | refine ox ?_
    | (refine bn rfl rfl rfl (by simp only [hM, s2]; rfl) ?_)
    | refine tB ?_
    | (refine ob (cs' := ?_) ?hc ?_; case hc => rfl)
    | (refine so rfl (rfl : _ = AVal.agg _) rfl rfl rfl (by simp only [↓nrmL, nrmZ, Nat.reduceEqDiff, ↓reduceIte, Nat.reduceAdd, Int.reduceBEq, Int.reduceBNe, hM, s2]; rfl) ?_)
    | refine nl hKF ?_
    | refine sq ?_
    | refine rg fun KF hKF => ?_
    | refine ct rfl ?_
    | refine rt ?_
    | dsimp only [cond_true, cond_false]
   refine rz trivial ?_
   exact ⟨Or.inr ⟨hno, rfl⟩, Ext0.ext⟩
  cases s3 : decide (M > 69)
  rotate_left
  ·have hno : ∀ n e : Int, -2 ≤ e → e ≤ 1 → hitB l (minB l) n e = false := fun n e _ _ => by
    cases hh : hitB l (minB l) n e
    ·rfl
    ·have := hMh n e hh
     have := of_decide_eq_true s3; omega
   repeat first
    | (refine mv ?_)
    | refine oy ?_
    | (refine bn rfl rfl rfl (by simp only [hM, s2, s3]; rfl) ?_)
    | refine fB ?_
    | (refine ob (cs' := ?_) ?hc ?_; case hc => rfl)
    | (refine so rfl (rfl : _ = AVal.agg _) rfl rfl rfl (by simp only [↓nrmL, nrmZ, Nat.reduceEqDiff, ↓reduceIte, Nat.reduceAdd, Int.reduceBEq, Int.reduceBNe, hM, s2, s3]; rfl) ?_)
    | refine nl hKF ?_
    | refine sq ?_
    | refine rg fun KF hKF => ?_
    | refine ct rfl ?_
    | refine rt ?_
    | dsimp only [cond_true, cond_false]
   refine rz trivial ?_
   exact ⟨Or.inr ⟨hno, rfl⟩, Ext0.ext⟩
  have u0 : 0 ≤ M := by have := of_decide_eq_false s2; omega
  have u9 : M ≤ 69 := by have := of_decide_eq_false s3; omega
  haveI hsI : StepI M := ⟨u0, u9⟩
  obtain ⟨n0, n1⟩ := nat_le u0 u9
  repeat first
   | (refine mv ?_)
   | refine oy ?_
   | (refine bn rfl rfl rfl (by simp only [hM, s2, s3]; rfl) ?_)
   | refine fB ?_
   | refine nl hKF ?_
   | refine sq ?_
   | refine rg fun KF hKF => ?_
   | refine cf rfl ?_
   | refine sk ?_
   | refine Wp.block ?_
   | dsimp only [cond_true, cond_false]
  refine Wp.loopS (σ := Nat) [3, 7, 8, 9, 10, 37, 38, 39, 40, 41, 42, 43, 44, 45, 46, 47, 48, 49, 50, 51, 52, 53, 54, 55, 56, 57, 58, 59, 60, 61, 62, 63] (fun j => [(7, .int .i64 (((j : Nat) : Int) - 2))]) (fun H3 j H2 => j ≤ 4 ∧ (∀ e : Int, -2 ≤ e → e < ((j : Nat) : Int) - 2 → hitB l false M e = false) ∧ Ext H3 H2) (fun j => 4 - j) 0 rfl (fun _ => rfl) ⟨rfl, trivial⟩ ⟨Nat.zero_le _, fun e h1 h2 => (by omega), Ext.refl _⟩ (by unfold fuel0 at hn; omega) ?_
  rintro j g H2 ⟨hj, hmiss, hx2⟩
  haveI : ExtI _ H2 := ⟨hx2⟩
  simp only [↓nrmL, nrmZ, Nat.reduceEqDiff, ↓reduceIte, Nat.reduceAdd, Int.reduceBEq, Int.reduceBNe]
  cases hc : decide ((((j : Nat) : Int) - 2) ≤ 1)
  ·have hj4 : j = 4 := by have := of_decide_eq_false hc; omega
   have hno : ∀ n e : Int, -2 ≤ e → e ≤ 1 → hitB l (minB l) n e = false := fun n e h1 h2 => by
    cases hh : hitB l (minB l) n e
    ·rfl
    ·have h3 := (hMh n e hh).1
     have h4 : hitB l (minB l) n e = false := by rw [hw, ← h3]; exact hmiss e h1 (by omega)
     rw [hh] at h4; cases h4
   repeat first
    | (refine mv ?_)
    | (refine bn rfl rfl rfl (by simp only [hc]; rfl) ?_)
    | (refine ob (cs' := ?_) ?hc ?_; case hc => rfl)
    | (refine so rfl (rfl : _ = AVal.agg _) rfl rfl rfl (by simp only [↓nrmL, nrmZ, Nat.reduceEqDiff, ↓reduceIte, Nat.reduceAdd, Int.reduceBEq, Int.reduceBNe, hc]; rfl) ?_)
    | refine nl hKF ?_
    | refine sq ?_
    | refine rg fun KF hKF => ?_
    | refine cf rfl ?_
    | refine rt ?_
    | refine xi ?_
    | dsimp only [cond_true, cond_false]
   refine rz trivial ?_
   exact ⟨Or.inr ⟨hno, rfl⟩, Ext0.ext⟩
  have hjc : ((j : Nat) : Int) - 2 ≤ 1 := of_decide_eq_true hc
  have y1 : IntKind.i64.wrap (natI M + (((j : Nat) : Int) - 2)) = natI M + (((j : Nat) : Int) - 2) := w64r (by omega) (by omega)
  have y2 : IntKind.i64.wrap ((((j : Nat) : Int) - 2) + 1) = (((j + 1 : Nat) : Nat) : Int) - 2 := by rw [w64r (by omega) (by omega)]; omega
  have y3 : IntKind.i64.wrap (1 * M) = M := by rw [w64r (by omega) (by omega)]; omega
  have y4 : IntKind.i64.wrap (1 * (natI M + (((j : Nat) : Int) - 2))) = (natI M + (((j : Nat) : Int) - 2)) := by rw [w64r (by omega) (by omega)]; omega
  obtain ⟨tt, htt⟩ : ∃ tt, titleS M (natI M + (((j : Nat) : Int) - 2)) = tt := ⟨_, rfl⟩
  have hhb : hitB l false M (((j : Nat) : Int) - 2) = (tt.2 == 0 && tt.1 == l) := by rw [← htt]; rfl
  have hnext : (tt.2 == 0 && tt.1 == l) = false → (j + 1 ≤ 4 ∧ (∀ e : Int, -2 ≤ e → e < ((j + 1 : Nat) : Int) - 2 → hitB l false M e = false)) := fun q => ⟨by omega, fun e h1 h2 => by
   by_cases he : e = ((j : Nat) : Int) - 2
   ·rw [he, hhb, q]
   ·exact hmiss e h1 (by omega)⟩
  cases z2 : (tt.2 == 0)
  ·have hq := hnext (by rw [z2]; rfl)
   repeat first
    | refine Fo.mov (rfl : _ = strV _) ?_
    | (refine mv ?_)
    | refine ox ?_
    | (refine Fo.ldN rfl rfl (by simp only [↓nrmL, nrmZ, Nat.reduceEqDiff, ↓reduceIte, Nat.reduceAdd, Int.reduceBEq, Int.reduceBNe, hc, hM, y3, y1, y4, htt, z2]; rfl) ?_)
    | (refine bn rfl rfl rfl (by simp only [hc, hM, y3, y1, y4, htt, z2]; rfl) ?_)
    | refine b0 ?_
    | refine fB ?_
    | refine xt ?_
    | (refine Fo.pcall (v' := ?_) hn rfl (by simp only [↓nrmL, nrmZ, Nat.reduceEqDiff, ↓reduceIte, Nat.reduceAdd, Int.reduceBEq, Int.reduceBNe, hc, hM, y3, y1, y4, htt, z2, List.map]; rfl) rfl ?hv fun _ _ => ?_; case hv => (simp only [hc, hM, y3, y1, y4, htt, z2]; rfl))
    | (refine Fo.pcall (v' := ?_) hn rfl (by simp only [↓nrmL, nrmZ, Nat.reduceEqDiff, ↓reduceIte, Nat.reduceAdd, Int.reduceBEq, Int.reduceBNe, hc, hM, y3, y1, y4, htt, z2, List.map]; rfl) rfl ?hv fun _ _ => ?_; case hv => rfl)
    | refine nw ?_
    | (refine ob (cs' := ?_) ?hc ?_; case hc => (simp only [↓nrmL, nrmZ, Nat.reduceEqDiff, ↓reduceIte, Nat.reduceAdd, Int.reduceBEq, Int.reduceBNe, hc, hM, y3, y1, y4, htt, z2]; rfl))
    | (refine so rfl (rfl : _ = AVal.agg _) rfl rfl rfl (by simp only [↓nrmL, nrmZ, Nat.reduceEqDiff, ↓reduceIte, Nat.reduceAdd, Int.reduceBEq, Int.reduceBNe, hc, hM, y3, y1, y4, htt, z2]; rfl) ?_)
    | refine nl hKF ?_
    | refine sq ?_
    | refine rg fun KF hKF => ?_
    | refine ct rfl ?_
    | refine cf rfl ?_
    | refine sk ?_
    | refine Wp.block ?_
    | dsimp only [cond_true, cond_false]
   exact ⟨j + 1, by omega, ⟨by simp only [↓nrmL, nrmZ, Nat.reduceEqDiff, ↓reduceIte, Nat.reduceAdd, Int.reduceBEq, Int.reduceBNe]; rw [y2], trivial⟩, hq.1, hq.2, Ext0.ext⟩
  cases z3 : (tt.1 == l)
  ·have hq := hnext (by rw [z2, z3]; rfl)
   repeat first
    | (refine Fo.eqStr rfl rfl (by simp only [↓nrmL, nrmZ, Nat.reduceEqDiff, ↓reduceIte, Nat.reduceAdd, Int.reduceBEq, Int.reduceBNe, hc, hM, y3, y1, y4, htt, z2, z3]; rfl) ?_)
    | refine Fo.mov (rfl : _ = strV _) ?_
    | (refine mv ?_)
    | refine oy ?_
    | (refine Fo.ldN rfl rfl (by simp only [↓nrmL, nrmZ, Nat.reduceEqDiff, ↓reduceIte, Nat.reduceAdd, Int.reduceBEq, Int.reduceBNe, hc, hM, y3, y1, y4, htt, z2, z3]; rfl) ?_)
    | (refine bn rfl rfl rfl (by simp only [hc, hM, y3, y1, y4, htt, z2, z3]; rfl) ?_)
    | refine b0 ?_
    | refine tB ?_
    | refine xt ?_
    | (refine Fo.pcall (v' := ?_) hn rfl (by simp only [↓nrmL, nrmZ, Nat.reduceEqDiff, ↓reduceIte, Nat.reduceAdd, Int.reduceBEq, Int.reduceBNe, hc, hM, y3, y1, y4, htt, z2, z3, List.map]; rfl) rfl ?hv fun _ _ => ?_; case hv => (simp only [hc, hM, y3, y1, y4, htt, z2, z3]; rfl))
    | (refine Fo.pcall (v' := ?_) hn rfl (by simp only [↓nrmL, nrmZ, Nat.reduceEqDiff, ↓reduceIte, Nat.reduceAdd, Int.reduceBEq, Int.reduceBNe, hc, hM, y3, y1, y4, htt, z2, z3, List.map]; rfl) rfl ?hv fun _ _ => ?_; case hv => rfl)
    | refine nw ?_
    | (refine ob (cs' := ?_) ?hc ?_; case hc => (simp only [↓nrmL, nrmZ, Nat.reduceEqDiff, ↓reduceIte, Nat.reduceAdd, Int.reduceBEq, Int.reduceBNe, hc, hM, y3, y1, y4, htt, z2, z3]; rfl))
    | (refine so rfl (rfl : _ = AVal.agg _) rfl rfl rfl (by simp only [↓nrmL, nrmZ, Nat.reduceEqDiff, ↓reduceIte, Nat.reduceAdd, Int.reduceBEq, Int.reduceBNe, hc, hM, y3, y1, y4, htt, z2, z3]; rfl) ?_)
    | refine nl hKF ?_
    | refine sq ?_
    | refine rg fun KF hKF => ?_
    | refine ct rfl ?_
    | refine cf rfl ?_
    | refine sk ?_
    | refine Wp.block ?_
    | dsimp only [cond_true, cond_false]
   exact ⟨j + 1, by omega, ⟨by simp only [↓nrmL, nrmZ, Nat.reduceEqDiff, ↓reduceIte, Nat.reduceAdd, Int.reduceBEq, Int.reduceBNe]; rw [y2], trivial⟩, hq.1, hq.2, Ext0.ext⟩
  repeat first
   | (refine Fo.eqStr rfl rfl (by simp only [↓nrmL, nrmZ, Nat.reduceEqDiff, ↓reduceIte, Nat.reduceAdd, Int.reduceBEq, Int.reduceBNe, hc, hM, y3, y1, y4, htt, z2, z3]; rfl) ?_)
   | refine Fo.mov (rfl : _ = strV _) ?_
   | (refine mv ?_)
   | refine oy ?_
   | (refine Fo.ldN rfl rfl (by simp only [↓nrmL, nrmZ, Nat.reduceEqDiff, ↓reduceIte, Nat.reduceAdd, Int.reduceBEq, Int.reduceBNe, hc, hM, y3, y1, y4, htt, z2, z3]; rfl) ?_)
   | (refine bn rfl rfl rfl (by simp only [hc, hM, y3, y1, y4, htt, z2, z3]; rfl) ?_)
   | refine tB ?_
   | refine xt ?_
   | (refine Fo.pcall (v' := ?_) hn rfl (by simp only [↓nrmL, nrmZ, Nat.reduceEqDiff, ↓reduceIte, Nat.reduceAdd, Int.reduceBEq, Int.reduceBNe, hc, hM, y3, y1, y4, htt, z2, z3, List.map]; rfl) rfl ?hv fun _ _ => ?_; case hv => (simp only [hc, hM, y3, y1, y4, htt, z2, z3]; rfl))
   | (refine Fo.pcall (v' := ?_) hn rfl (by simp only [↓nrmL, nrmZ, Nat.reduceEqDiff, ↓reduceIte, Nat.reduceAdd, Int.reduceBEq, Int.reduceBNe, hc, hM, y3, y1, y4, htt, z2, z3, List.map]; rfl) rfl ?hv fun _ _ => ?_; case hv => rfl)
   | refine nw ?_
   | (refine ob (cs' := ?_) ?hc ?_; case hc => (simp only [↓nrmL, nrmZ, Nat.reduceEqDiff, ↓reduceIte, Nat.reduceAdd, Int.reduceBEq, Int.reduceBNe, hc, hM, y3, y1, y4, htt, z2, z3]; rfl))
   | (refine so rfl (rfl : _ = AVal.agg _) rfl rfl rfl (by simp only [↓nrmL, nrmZ, Nat.reduceEqDiff, ↓reduceIte, Nat.reduceAdd, Int.reduceBEq, Int.reduceBNe, hc, hM, y3, y1, y4, htt, z2, z3]; rfl) ?_)
   | refine nl hKF ?_
   | refine sq ?_
   | refine rg fun KF hKF => ?_
   | refine ct rfl ?_
   | refine sk ?_
   | refine rt ?_
   | refine Wp.block ?_
   | dsimp only [cond_true, cond_false]
  refine rz trivial ?_
  exact ⟨Or.inl ⟨M, ((j : Nat) : Int) - 2, u0, u9, by omega, hjc, by rw [hw, hhb, z2, z3]; rfl, by rw [hw]; rfl⟩, Ext0.ext⟩
 ·skip
  have hw : minB l = true := by rw [hm, a1]
  have hr : restL l = (l.drop 1) := by unfold restL; rw [hw]; rfl
  have hRl : (l.drop 1).length ≤ 2 ^ 47 := by rw [List.length_drop]; omega
  repeat first
   | (refine Fo.idxStr (rfl : _ = strV _) rfl ?_ (by simp only [↓nrmL, nrmZ, Nat.reduceEqDiff, ↓reduceIte, Nat.reduceAdd, Int.reduceBEq, Int.reduceBNe, s1, x0, a1]; rfl) ?_; (focus omega))
   | refine Fo.lenStr (rfl : _ = strV _) rfl ?_
   | refine Fo.mov (rfl : _ = strV _) ?_
   | (refine mv ?_)
   | refine oy ?_
   | (refine bn rfl rfl rfl (by simp only [s1, x0, a1]; rfl) ?_)
   | refine tB ?_
   | refine nw ?_
   | refine nl hKF ?_
   | refine sq ?_
   | refine rg fun KF hKF => ?_
   | refine ct rfl ?_
  refine Fo.slcStr (l := l) (a := 1) (b := l.length) rfl (Or.inr ⟨_, rfl⟩) (Or.inl ⟨rfl, rfl⟩) (by omega) (Nat.le_refl _) (congrArg strV xd) ?_
  cases z1 : decide ((((l.drop 1).length : Nat) : Int) < 2)
  rotate_left
  ·have hno : ∀ n e : Int, -2 ≤ e → e ≤ 1 → hitB l (minB l) n e = false := fun n e _ _ => by
    cases hh : hitB l (minB l) n e
    ·rfl
    ·have := (hit_tail hh).2.1
     rw [hr] at this
     have := of_decide_eq_true z1; omega
   repeat first
    | refine Fo.lenStr (rfl : _ = strV _) rfl ?_
    | refine Fo.mov (rfl : _ = strV _) ?_
    | (refine mv ?_)
    | (refine bn rfl rfl rfl (by simp only [z1]; rfl) ?_)
    | (refine ob (cs' := ?_) ?hc ?_; case hc => rfl)
    | (refine so rfl (rfl : _ = AVal.agg _) rfl rfl rfl (by simp only [↓nrmL, nrmZ, Nat.reduceEqDiff, ↓reduceIte, Nat.reduceAdd, Int.reduceBEq, Int.reduceBNe, z1]; rfl) ?_)
    | refine nl hKF ?_
    | refine sq ?_
    | refine rg fun KF hKF => ?_
    | refine ct rfl ?_
    | refine rt ?_
    | dsimp only [cond_true, cond_false]
   refine rz trivial ?_
   exact ⟨Or.inr ⟨hno, rfl⟩, Ext0.ext⟩
  have hR2 : 2 ≤ (l.drop 1).length := by have := of_decide_eq_false z1; omega
  have xd2 : ((l.drop 1).drop 1).take ((l.drop 1).length - 1) = (l.drop 1).drop 1 := by rw [List.take_of_length_le (by rw [List.length_drop]; omega)]
  haveI : Len47 ((l.drop 1).drop 1) := ⟨by rw [List.length_drop]; omega⟩
  repeat first
   | refine Fo.lenStr (rfl : _ = strV _) rfl ?_
   | refine Fo.mov (rfl : _ = strV _) ?_
   | (refine mv ?_)
   | (refine bn rfl rfl rfl (by simp only [z1]; rfl) ?_)
   | refine nl hKF ?_
   | refine sq ?_
   | refine rg fun KF hKF => ?_
   | refine cf rfl ?_
   | refine sk ?_
  refine Fo.slcStr (l := (l.drop 1)) (a := 1) (b := (l.drop 1).length) rfl (Or.inr ⟨_, rfl⟩) (Or.inl ⟨rfl, rfl⟩) (by omega) (Nat.le_refl _) (congrArg strV xd2) ?_
  skip
  refine WpO.do (WpX.conD hn rfl rfl (by simp only [↓nrmL, nrmZ, Nat.reduceEqDiff, ↓reduceIte, Nat.reduceAdd, Int.reduceBEq, Int.reduceBNe, List.map] <;> rfl) (K_Number (l := (l.drop 1).drop 1)) fun v H1 h5 => ?_)
  obtain ⟨N, rfl, hk, hx⟩ := h5
  haveI : ExtI _ H1 := ⟨hx⟩
  obtain ⟨M, hM⟩ : ∃ M, IntKind.i64.wrap (N - 1) = M := ⟨_, rfl⟩
  have hMh : ∀ n e : Int, hitB l (minB l) n e = true → M = n ∧ 0 ≤ n ∧ n ≤ 69 := fun n e hh => by
   obtain ⟨g1, _, g2⟩ := hit_tail hh
   have g3 := stepI_of g1
   have g4 := g3.lo; have g5 := g3.hi
   rw [hr] at g2
   have k1 := hk (n + 1).toNat (by omega) (by omega) g2
   refine ⟨?_, g4, g5⟩
   rw [← hM, k1, w64r (by omega) (by omega)]; omega
  cases s2 : decide (M < 0)
  rotate_left
  ·have hno : ∀ n e : Int, -2 ≤ e → e ≤ 1 → hitB l (minB l) n e = false := fun n e _ _ => by
    cases hh : hitB l (minB l) n e
    ·rfl
    ·have := hMh n e hh
     have := of_decide_eq_true s2; omega
   repeat first
    | (refine mv ?_)
    | refine ox ?_
    | (refine bn rfl rfl rfl (by simp only [hM, s2]; rfl) ?_)
    | refine tB ?_
    | (refine ob (cs' := ?_) ?hc ?_; case hc => rfl)
    | (refine so rfl (rfl : _ = AVal.agg _) rfl rfl rfl (by simp only [↓nrmL, nrmZ, Nat.reduceEqDiff, ↓reduceIte, Nat.reduceAdd, Int.reduceBEq, Int.reduceBNe, hM, s2]; rfl) ?_)
    | refine nl hKF ?_
    | refine sq ?_
    | refine rg fun KF hKF => ?_
    | refine ct rfl ?_
    | refine rt ?_
    | dsimp only [cond_true, cond_false]
   refine rz trivial ?_
   exact ⟨Or.inr ⟨hno, rfl⟩, Ext0.ext⟩
  cases s3 : decide (M > 69)
  rotate_left
  ·have hno : ∀ n e : Int, -2 ≤ e → e ≤ 1 → hitB l (minB l) n e = false := fun n e _ _ => by
    cases hh : hitB l (minB l) n e
    ·rfl
    ·have := hMh n e hh
     have := of_decide_eq_true s3; omega
   repeat first
    | (refine mv ?_)
    | refine oy ?_
    | (refine bn rfl rfl rfl (by simp only [hM, s2, s3]; rfl) ?_)
    | refine fB ?_
    | (refine ob (cs' := ?_) ?hc ?_; case hc => rfl)
    | (refine so rfl (rfl : _ = AVal.agg _) rfl rfl rfl (by simp only [↓nrmL, nrmZ, Nat.reduceEqDiff, ↓reduceIte, Nat.reduceAdd, Int.reduceBEq, Int.reduceBNe, hM, s2, s3]; rfl) ?_)
    | refine nl hKF ?_
    | refine sq ?_
    | refine rg fun KF hKF => ?_
    | refine ct rfl ?_
    | refine rt ?_
    | dsimp only [cond_true, cond_false]
   refine rz trivial ?_
   exact ⟨Or.inr ⟨hno, rfl⟩, Ext0.ext⟩
  have u0 : 0 ≤ M := by have := of_decide_eq_false s2; omega
  have u9 : M ≤ 69 := by have := of_decide_eq_false s3; omega
  haveI hsI : StepI M := ⟨u0, u9⟩
  obtain ⟨n0, n1⟩ := nat_le u0 u9
  repeat first
   | (refine mv ?_)
   | refine oy ?_
   | (refine bn rfl rfl rfl (by simp only [hM, s2, s3]; rfl) ?_)
   | refine fB ?_
   | refine nl hKF ?_
   | refine sq ?_
   | refine rg fun KF hKF => ?_
   | refine cf rfl ?_
   | refine sk ?_
   | refine Wp.block ?_
   | dsimp only [cond_true, cond_false]
  refine Wp.loopS (σ := Nat) [3, 7, 8, 9, 10, 37, 38, 39, 40, 41, 42, 43, 44, 45, 46, 47, 48, 49, 50, 51, 52, 53, 54, 55, 56, 57, 58, 59, 60, 61, 62, 63] (fun j => [(7, .int .i64 (((j : Nat) : Int) - 2))]) (fun H3 j H2 => j ≤ 4 ∧ (∀ e : Int, -2 ≤ e → e < ((j : Nat) : Int) - 2 → hitB l true M e = false) ∧ Ext H3 H2) (fun j => 4 - j) 0 rfl (fun _ => rfl) ⟨rfl, trivial⟩ ⟨Nat.zero_le _, fun e h1 h2 => (by omega), Ext.refl _⟩ (by unfold fuel0 at hn; omega) ?_
  rintro j g H2 ⟨hj, hmiss, hx2⟩
  haveI : ExtI _ H2 := ⟨hx2⟩
  simp only [↓nrmL, nrmZ, Nat.reduceEqDiff, ↓reduceIte, Nat.reduceAdd, Int.reduceBEq, Int.reduceBNe]
  cases hc : decide ((((j : Nat) : Int) - 2) ≤ 1)
  ·have hj4 : j = 4 := by have := of_decide_eq_false hc; omega
   have hno : ∀ n e : Int, -2 ≤ e → e ≤ 1 → hitB l (minB l) n e = false := fun n e h1 h2 => by
    cases hh : hitB l (minB l) n e
    ·rfl
    ·have h3 := (hMh n e hh).1
     have h4 : hitB l (minB l) n e = false := by rw [hw, ← h3]; exact hmiss e h1 (by omega)
     rw [hh] at h4; cases h4
   repeat first
    | (refine mv ?_)
    | (refine bn rfl rfl rfl (by simp only [hc]; rfl) ?_)
    | (refine ob (cs' := ?_) ?hc ?_; case hc => rfl)
    | (refine so rfl (rfl : _ = AVal.agg _) rfl rfl rfl (by simp only [↓nrmL, nrmZ, Nat.reduceEqDiff, ↓reduceIte, Nat.reduceAdd, Int.reduceBEq, Int.reduceBNe, hc]; rfl) ?_)
    | refine nl hKF ?_
    | refine sq ?_
    | refine rg fun KF hKF => ?_
    | refine cf rfl ?_
    | refine rt ?_
    | refine xi ?_
    | dsimp only [cond_true, cond_false]
   refine rz trivial ?_
   exact ⟨Or.inr ⟨hno, rfl⟩, Ext0.ext⟩
  have hjc : ((j : Nat) : Int) - 2 ≤ 1 := of_decide_eq_true hc
  have y1 : IntKind.i64.wrap (natI M + (((j : Nat) : Int) - 2)) = natI M + (((j : Nat) : Int) - 2) := w64r (by omega) (by omega)
  have y2 : IntKind.i64.wrap ((((j : Nat) : Int) - 2) + 1) = (((j + 1 : Nat) : Nat) : Int) - 2 := by rw [w64r (by omega) (by omega)]; omega
  have y3 : IntKind.i64.wrap (-1 * M) = (-M) := by rw [w64r (by omega) (by omega)]; omega
  have y4 : IntKind.i64.wrap (-1 * (natI M + (((j : Nat) : Int) - 2))) = (-(natI M + (((j : Nat) : Int) - 2))) := by rw [w64r (by omega) (by omega)]; omega
  obtain ⟨tt, htt⟩ : ∃ tt, titleS (-M) (-(natI M + (((j : Nat) : Int) - 2))) = tt := ⟨_, rfl⟩
  have hhb : hitB l true M (((j : Nat) : Int) - 2) = (tt.2 == 0 && tt.1 == l) := by rw [← htt]; rfl
  have hnext : (tt.2 == 0 && tt.1 == l) = false → (j + 1 ≤ 4 ∧ (∀ e : Int, -2 ≤ e → e < ((j + 1 : Nat) : Int) - 2 → hitB l true M e = false)) := fun q => ⟨by omega, fun e h1 h2 => by
   by_cases he : e = ((j : Nat) : Int) - 2
   ·rw [he, hhb, q]
   ·exact hmiss e h1 (by omega)⟩
  cases z2 : (tt.2 == 0)
  ·have hq := hnext (by rw [z2]; rfl)
   repeat first
    | refine Fo.mov (rfl : _ = strV _) ?_
    | (refine mv ?_)
    | refine ox ?_
    | (refine Fo.ldN rfl rfl (by simp only [↓nrmL, nrmZ, Nat.reduceEqDiff, ↓reduceIte, Nat.reduceAdd, Int.reduceBEq, Int.reduceBNe, hc, hM, y3, y1, y4, htt, z2]; rfl) ?_)
    | (refine bn rfl rfl rfl (by simp only [hc, hM, y3, y1, y4, htt, z2]; rfl) ?_)
    | refine b0 ?_
    | refine fB ?_
    | refine xt ?_
    | (refine Fo.pcall (v' := ?_) hn rfl (by simp only [↓nrmL, nrmZ, Nat.reduceEqDiff, ↓reduceIte, Nat.reduceAdd, Int.reduceBEq, Int.reduceBNe, hc, hM, y3, y1, y4, htt, z2, List.map]; rfl) rfl ?hv fun _ _ => ?_; case hv => (simp only [hc, hM, y3, y1, y4, htt, z2]; rfl))
    | (refine Fo.pcall (v' := ?_) hn rfl (by simp only [↓nrmL, nrmZ, Nat.reduceEqDiff, ↓reduceIte, Nat.reduceAdd, Int.reduceBEq, Int.reduceBNe, hc, hM, y3, y1, y4, htt, z2, List.map]; rfl) rfl ?hv fun _ _ => ?_; case hv => rfl)
    | refine nw ?_
    | (refine ob (cs' := ?_) ?hc ?_; case hc => (simp only [↓nrmL, nrmZ, Nat.reduceEqDiff, ↓reduceIte, Nat.reduceAdd, Int.reduceBEq, Int.reduceBNe, hc, hM, y3, y1, y4, htt, z2]; rfl))
    | (refine so rfl (rfl : _ = AVal.agg _) rfl rfl rfl (by simp only [↓nrmL, nrmZ, Nat.reduceEqDiff, ↓reduceIte, Nat.reduceAdd, Int.reduceBEq, Int.reduceBNe, hc, hM, y3, y1, y4, htt, z2]; rfl) ?_)
    | refine nl hKF ?_
    | refine sq ?_
    | refine rg fun KF hKF => ?_
    | refine ct rfl ?_
    | refine cf rfl ?_
    | refine sk ?_
    | refine Wp.block ?_
    | dsimp only [cond_true, cond_false]
   exact ⟨j + 1, by omega, ⟨by simp only [↓nrmL, nrmZ, Nat.reduceEqDiff, ↓reduceIte, Nat.reduceAdd, Int.reduceBEq, Int.reduceBNe]; rw [y2], trivial⟩, hq.1, hq.2, Ext0.ext⟩
  cases z3 : (tt.1 == l)
  ·have hq := hnext (by rw [z2, z3]; rfl)
   repeat first
    | (refine Fo.eqStr rfl rfl (by simp only [↓nrmL, nrmZ, Nat.reduceEqDiff, ↓reduceIte, Nat.reduceAdd, Int.reduceBEq, Int.reduceBNe, hc, hM, y3, y1, y4, htt, z2, z3]; rfl) ?_)
    | refine Fo.mov (rfl : _ = strV _) ?_
    | (refine mv ?_)
    | refine oy ?_
    | (refine Fo.ldN rfl rfl (by simp only [↓nrmL, nrmZ, Nat.reduceEqDiff, ↓reduceIte, Nat.reduceAdd, Int.reduceBEq, Int.reduceBNe, hc, hM, y3, y1, y4, htt, z2, z3]; rfl) ?_)
    | (refine bn rfl rfl rfl (by simp only [hc, hM, y3, y1, y4, htt, z2, z3]; rfl) ?_)
    | refine b0 ?_
    | refine tB ?_
    | refine xt ?_
    | (refine Fo.pcall (v' := ?_) hn rfl (by simp only [↓nrmL, nrmZ, Nat.reduceEqDiff, ↓reduceIte, Nat.reduceAdd, Int.reduceBEq, Int.reduceBNe, hc, hM, y3, y1, y4, htt, z2, z3, List.map]; rfl) rfl ?hv fun _ _ => ?_; case hv => (simp only [hc, hM, y3, y1, y4, htt, z2, z3]; rfl))
    | (refine Fo.pcall (v' := ?_) hn rfl (by simp only [↓nrmL, nrmZ, Nat.reduceEqDiff, ↓reduceIte, Nat.reduceAdd, Int.reduceBEq, Int.reduceBNe, hc, hM, y3, y1, y4, htt, z2, z3, List.map]; rfl) rfl ?hv fun _ _ => ?_; case hv => rfl)
    | refine nw ?_
    | (refine ob (cs' := ?_) ?hc ?_; case hc => (simp only [↓nrmL, nrmZ, Nat.reduceEqDiff, ↓reduceIte, Nat.reduceAdd, Int.reduceBEq, Int.reduceBNe, hc, hM, y3, y1, y4, htt, z2, z3]; rfl))
    | (refine so rfl (rfl : _ = AVal.agg _) rfl rfl rfl (by simp only [↓nrmL, nrmZ, Nat.reduceEqDiff, ↓reduceIte, Nat.reduceAdd, Int.reduceBEq, Int.reduceBNe, hc, hM, y3, y1, y4, htt, z2, z3]; rfl) ?_)
    | refine nl hKF ?_
    | refine sq ?_
    | refine rg fun KF hKF => ?_
    | refine ct rfl ?_
    | refine cf rfl ?_
    | refine sk ?_
    | refine Wp.block ?_
    | dsimp only [cond_true, cond_false]
   exact ⟨j + 1, by omega, ⟨by simp only [↓nrmL, nrmZ, Nat.reduceEqDiff, ↓reduceIte, Nat.reduceAdd, Int.reduceBEq, Int.reduceBNe]; rw [y2], trivial⟩, hq.1, hq.2, Ext0.ext⟩
  repeat first
   | (refine Fo.eqStr rfl rfl (by simp only [↓nrmL, nrmZ, Nat.reduceEqDiff, ↓reduceIte, Nat.reduceAdd, Int.reduceBEq, Int.reduceBNe, hc, hM, y3, y1, y4, htt, z2, z3]; rfl) ?_)
   | refine Fo.mov (rfl : _ = strV _) ?_
   | (refine mv ?_)
   | refine oy ?_
   | (refine Fo.ldN rfl rfl (by simp only [↓nrmL, nrmZ, Nat.reduceEqDiff, ↓reduceIte, Nat.reduceAdd, Int.reduceBEq, Int.reduceBNe, hc, hM, y3, y1, y4, htt, z2, z3]; rfl) ?_)
   | (refine bn rfl rfl rfl (by simp only [hc, hM, y3, y1, y4, htt, z2, z3]; rfl) ?_)
   | refine tB ?_
   | refine xt ?_
   | (refine Fo.pcall (v' := ?_) hn rfl (by simp only [↓nrmL, nrmZ, Nat.reduceEqDiff, ↓reduceIte, Nat.reduceAdd, Int.reduceBEq, Int.reduceBNe, hc, hM, y3, y1, y4, htt, z2, z3, List.map]; rfl) rfl ?hv fun _ _ => ?_; case hv => (simp only [hc, hM, y3, y1, y4, htt, z2, z3]; rfl))
   | (refine Fo.pcall (v' := ?_) hn rfl (by simp only [↓nrmL, nrmZ, Nat.reduceEqDiff, ↓reduceIte, Nat.reduceAdd, Int.reduceBEq, Int.reduceBNe, hc, hM, y3, y1, y4, htt, z2, z3, List.map]; rfl) rfl ?hv fun _ _ => ?_; case hv => rfl)
   | refine nw ?_
   | (refine ob (cs' := ?_) ?hc ?_; case hc => (simp only [↓nrmL, nrmZ, Nat.reduceEqDiff, ↓reduceIte, Nat.reduceAdd, Int.reduceBEq, Int.reduceBNe, hc, hM, y3, y1, y4, htt, z2, z3]; rfl))
   | (refine so rfl (rfl : _ = AVal.agg _) rfl rfl rfl (by simp only [↓nrmL, nrmZ, Nat.reduceEqDiff, ↓reduceIte, Nat.reduceAdd, Int.reduceBEq, Int.reduceBNe, hc, hM, y3, y1, y4, htt, z2, z3]; rfl) ?_)
   | refine nl hKF ?_
   | refine sq ?_
   | refine rg fun KF hKF => ?_
   | refine ct rfl ?_
   | refine sk ?_
   | refine rt ?_
   | refine Wp.block ?_
   | dsimp only [cond_true, cond_false]
  refine rz trivial ?_
  exact ⟨Or.inl ⟨M, ((j : Nat) : Int) - 2, u0, u9, by omega, hjc, by rw [hw, hhb, z2, z3]; rfl, by rw [hw]; rfl⟩, Ext0.ext⟩
end Go.Am
namespace Go.Am
open Go
attribute [local irreducible] Wp WpO WpX WpE
theorem Wp.cut {call : ACall} {lf : Nat} {fr : AFrame} {H : AHeap} {Q : RExit → AFrame → AHeap → Prop} {a : RCode} (L : List (Nat × AVal)) (PH : AHeap → Prop) (h1 : ∀ g H', PH H' → Q .normal (updL L g) H') (h2 : Wp call lf a fr H fun x fr' H' => match x with | .normal => agrees L fr' ∧ PH H' | e => Q e fr' H') : Wp call lf a fr H Q :=
 Wp.mono h2 fun x fr' H' h => by
  cases x with
  | normal =>
   obtain ⟨h3, h4⟩ := h
   have := h1 fr' H' h4
   rwa [updL_agrees h3] at this
  | exit id => exact h
  | ret => exact h
theorem read_is {l : Bs} {v : AVal} (h : ReadR l v) : ∃ x y z : Int, v = .tuple [.agg [.int .i64 x, .int .i64 y], .int .i64 z] ∧ ((z == 0) = true → titleS x y = (l, 0)) := by
 rcases h with ⟨n, e, _, _, _, _, hh, rfl⟩ | ⟨_, rfl⟩
 ·exact ⟨_, _, _, rfl, fun _ => hit_title hh⟩
 ·exact ⟨_, _, _, rfl, fun q => by cases q⟩
theorem read_of {l : Bs} {v : AVal} {i s : Int} (h : ReadR l v) (ht : titleS i s = (l, 0)) : v = .tuple [.agg [.int .i64 i, .int .i64 s], .int .i64 0] := by
 rcases h with ⟨n, e, _, _, _, _, hh, rfl⟩ | ⟨hno, rfl⟩
 ·obtain ⟨e1, e2⟩ := title_inj ht (hit_title hh)
  rw [e1, e2]
 ·obtain ⟨n, e, h1, h2, h3⟩ := title_hit ht
  rw [hno n e h1 h2] at h3; cases h3
end Go.Am
namespace Go.Am
open Go
attribute [local irreducible] Wp WpO WpX WpE
theorem read_same {l : Bs} {v v' : AVal} (h : ReadR l v) (h' : ReadR l v') : v = v' := by
 rcases h with ⟨n, e, _, _, _, _, hh, rfl⟩ | ⟨hno, rfl⟩
 ·exact (read_of h' (hit_title hh)).symm
 ·rcases h' with ⟨n, e, _, _, h1, h2, hh, rfl⟩ | ⟨_, rfl⟩
  ·rw [hno n e h1 h2] at hh; cases hh
  ·rfl
instance K_intervals {x1 y1 x2 y2 i s k : Int} {H : AHeap} : PureCon ext prog 29 [.agg [.int .i64 x1, .int .i64 y1], .agg [.int .i64 x2, .int .i64 y2], .agg [.int .i64 i, .int .i64 s], .int .i64 k] H 6 (.bool true) := ⟨by
 refine con_of (show prog 29 = some c29 from rfl) rfl rfl fun m hn => ?_
 have bb := bbS (titleS i s).1
 simp only [beqS, bb]
 repeat first
  | refine Fo.mov (rfl : _ = strV _) ?_
  | (refine mv ?_)
  | (refine Fo.ldN rfl rfl (by simp only [↓nrmL, nrmZ, Nat.reduceEqDiff, ↓reduceIte, Nat.reduceAdd, Int.reduceBEq, Int.reduceBNe, beqS, bb]; rfl) ?_)
  | refine xt ?_
  | (refine Fo.pcall (v' := ?_) hn rfl (by simp only [↓nrmL, nrmZ, Nat.reduceEqDiff, ↓reduceIte, Nat.reduceAdd, Int.reduceBEq, Int.reduceBNe, beqS, bb, List.map]; rfl) rfl ?hv fun _ _ => ?_; case hv => rfl)
  | refine bA ?_
  | refine nw ?_
  | (refine so rfl (rfl : _ = AVal.agg _) rfl rfl rfl (by simp only [↓nrmL, nrmZ, Nat.reduceEqDiff, ↓reduceIte, Nat.reduceAdd, Int.reduceBEq, Int.reduceBNe, beqS, bb]; rfl) ?_)
  | refine nl hKF ?_
  | refine sq ?_
  | refine rg fun KF hKF => ?_
 refine Fo.now rfl (exec_eqT rfl rfl (aEq_same _ _)) rfl ?_
 simp only [beqS, bb]
 repeat first
  | (refine mv ?_)
  | refine oy ?_
  | (refine Fo.ldN rfl rfl (by simp only [↓nrmL, nrmZ, Nat.reduceEqDiff, ↓reduceIte, Nat.reduceAdd, Int.reduceBEq, Int.reduceBNe, beqS, bb]; rfl) ?_)
  | (refine bn rfl rfl rfl (by simp only [beqS, bb]; rfl) ?_)
  | refine tB ?_
 refine Fo.now rfl (exec_eqT rfl rfl (aEq_same _ _)) rfl ?_
 simp only [beqS, bb]
 repeat first
  | (refine Fo.eqStr rfl rfl (by simp only [↓nrmL, nrmZ, Nat.reduceEqDiff, ↓reduceIte, Nat.reduceAdd, Int.reduceBEq, Int.reduceBNe, beqS, bb]; rfl) ?_)
  | refine Fo.mov (rfl : _ = strV _) ?_
  | (refine mv ?_)
  | refine oy ?_
  | (refine bn rfl rfl rfl (by simp only [beqS, bb]; rfl) ?_)
  | refine tB ?_
  | refine nl hKF ?_
  | refine rt ?_
  | dsimp only [cond_true, cond_false]
 refine rz trivial ?_
 exact ⟨rfl, Ext0.ext⟩⟩
theorem K_reads {s : Bs} {H : AHeap} [hE : ErrsI H] [hl : Len47 s] : Con ext prog 8 30 [strV s] H fun v H' => v = .bool true ∧ Ext H H' := by
 refine con_of (show prog 30 = some c30 from rfl) rfl rfl fun m hn => ?_
 repeat first
  | refine Fo.mov (rfl : _ = strV _) ?_
  | (refine mv ?_)
  | refine nl hKF ?_
  | refine sq ?_
  | refine rg fun KF hKF => ?_
 refine WpO.do (WpX.conD hn rfl rfl (by simp only [↓nrmL, nrmZ, Nat.reduceEqDiff, ↓reduceIte, Nat.reduceAdd, Int.reduceBEq, Int.reduceBNe, List.map] <;> rfl) (K_Read (hE := ⟨hE.it.ext Ext0.ext⟩) (l := s)) fun v H1 h5 => ?_)
 obtain ⟨h5, hx⟩ := h5
 haveI : ExtI _ H1 := ⟨hx⟩
 obtain ⟨x, y, z, rfl, _⟩ := read_is h5
 refine mv ?_
 refine xt ?_
 refine xt ?_
 refine nw ?_
 refine so rfl (rfl : _ = AVal.agg _) rfl rfl rfl (by simp only [↓nrmL, nrmZ, Nat.reduceEqDiff, ↓reduceIte, Nat.reduceAdd, Int.reduceBEq, Int.reduceBNe]; rfl) ?_
 refine mv ?_
 refine nl hKF ?_
 refine sq ?_
 refine rg fun KF hKF => ?_
 refine Fo.mov (rfl : _ = strV _) ?_
 refine WpO.do (WpX.conD hn rfl rfl (by simp only [↓nrmL, nrmZ, Nat.reduceEqDiff, ↓reduceIte, Nat.reduceAdd, Int.reduceBEq, Int.reduceBNe, List.map] <;> rfl) (K_refRead (l := s)) fun v H2 h6 => ?_)
 obtain ⟨h6, hx2⟩ := h6
 haveI : ExtI _ H2 := ⟨hx2⟩
 obtain rfl := read_same h5 h6
 repeat first
  | (refine mv ?_)
  | (refine Fo.ldN rfl rfl (by simp only [↓nrmL, nrmZ, Nat.reduceEqDiff, ↓reduceIte, Nat.reduceAdd, Int.reduceBEq, Int.reduceBNe, beqS]; rfl) ?_)
  | refine xt ?_
  | refine nw ?_
  | (refine so rfl (rfl : _ = AVal.agg _) rfl rfl rfl (by simp only [↓nrmL, nrmZ, Nat.reduceEqDiff, ↓reduceIte, Nat.reduceAdd, Int.reduceBEq, Int.reduceBNe, beqS]; rfl) ?_)
  | refine nl hKF ?_
  | refine sq ?_
  | refine rg fun KF hKF => ?_
 refine Fo.now rfl (exec_eqT rfl rfl (aEq_same _ _)) rfl ?_
 simp only [beqS]
 repeat first
  | (refine mv ?_)
  | refine oy ?_
  | (refine bn rfl rfl rfl (by simp only [beqS]; rfl) ?_)
  | refine tB ?_
  | refine nl hKF ?_
  | refine rt ?_
  | dsimp only [cond_true, cond_false]
 refine rz trivial ?_
 exact ⟨rfl, Ext0.ext⟩
theorem K_ToneIntervals {x1 y1 x2 y2 i t k : Int} {s : Bs} {H : AHeap} [hE : ErrsI H] [hl : Len47 s] : Con ext prog 9 7 [.agg [.int .i64 x1, .int .i64 y1], .agg [.int .i64 x2, .int .i64 y2], .agg [.int .i64 i, .int .i64 t], .int .i64 k, strV s] H fun v H' => v = .bool true ∧ Ext H H' := by
 refine con_of (show prog 7 = some c7 from rfl) rfl rfl fun m hn => ?_
 repeat first
  | refine Fo.mov (rfl : _ = strV _) ?_
  | (refine mv ?_)
  | refine oy ?_
  | (refine Fo.ldN rfl rfl (by simp only [↓nrmL, nrmZ, Nat.reduceEqDiff, ↓reduceIte, Nat.reduceAdd, Int.reduceBEq, Int.reduceBNe]; rfl) ?_)
  | (refine Fo.pcall (v' := ?_) hn rfl (by simp only [↓nrmL, nrmZ, Nat.reduceEqDiff, ↓reduceIte, Nat.reduceAdd, Int.reduceBEq, Int.reduceBNe, List.map]; rfl) rfl ?hv fun _ _ => ?_; case hv => rfl)
  | refine bA ?_
  | refine nl hKF ?_
  | refine sq ?_
  | refine rg fun KF hKF => ?_
 refine WpO.do (WpX.conD hn rfl rfl (by simp only [↓nrmL, nrmZ, Nat.reduceEqDiff, ↓reduceIte, Nat.reduceAdd, Int.reduceBEq, Int.reduceBNe, List.map] <;> rfl) (K_reads (hE := ⟨hE.it.ext Ext0.ext⟩) (s := s)) fun v H1 h5 => ?_)
 obtain ⟨rfl, hx⟩ := h5
 haveI : ExtI _ H1 := ⟨hx⟩
 refine tB ?_
 refine mv ?_
 refine oy ?_
 refine Fo.pcall (v' := ?_) hn rfl (by simp only [↓nrmL, nrmZ, Nat.reduceEqDiff, ↓reduceIte, Nat.reduceAdd, Int.reduceBEq, Int.reduceBNe, List.map]; rfl) rfl ?hv fun _ _ => ?_; case hv => rfl
 refine tB ?_
 refine mv ?_
 refine nl hKF ?_
 refine rt ?_
 dsimp only [cond_true, cond_false]
 refine rz trivial ?_
 exact ⟨rfl, Ext0.ext⟩
end Go.Am
