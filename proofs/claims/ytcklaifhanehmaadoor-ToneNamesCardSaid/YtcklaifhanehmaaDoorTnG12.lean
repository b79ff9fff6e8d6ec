/-
  ToneNames returns true for all steps, alterations, intervals, texts, clefs and keys. No condition.
-/
import Derived.Test.YtcklaifhanehmaaDoorAmBE
set_option linter.unusedSimpArgs false
set_option linter.unusedVariables false
set_option maxHeartbeats 8000000
set_option maxRecDepth 100000
set_option synthInstance.maxHeartbeats 4000000
set_option synthInstance.maxSize 1000000000
namespace Go.Am
open Go
attribute [local irreducible] Wp WpO WpX WpE
theorem K_Atoi {l : Bs} {H : AHeap} [hE : ErrsI H] [hl : Len47 l] : Con ext prog 5 103 [strV l] H fun v H' => ∃ n e, v = .tuple [.int .i64 n, e] ∧ (e = .niface ∨ ∃ t x, e = .iface t x) ∧ (∀ k : Nat, k < 100 → l = digL k → n = (k : Int) ∧ e = .niface) ∧ Ext H H' := by
 refine con_of (show prog 103 = some c103 from rfl) rfl rfl fun m hn => ?_
 repeat first
  | refine Fo.mov (rfl : _ = strV _) ?_
  | (refine mv ?_)
  | refine nl hKF ?_
  | refine sq ?_
  | refine rg fun KF hKF => ?_
 refine WpO.do (WpX.conD hn rfl rfl (by simp only [↓nrmL, nrmZ, Nat.reduceEqDiff, ↓reduceIte, Nat.reduceAdd, Int.reduceBEq, Int.reduceBNe, List.map] <;> rfl) (K_iAtoi (l := l)) fun v H1 h5 => ?_)
 obtain ⟨n, e, rfl, he, hk, hx⟩ := h5
 haveI : ExtI _ H1 := ⟨hx⟩
 rcases he with rfl | he
 ·skip
  repeat first
   | (refine mv ?_)
   | refine xt ?_
   | (refine Fo.now rfl rfl (by simp only [↓nrmL, nrmZ, Nat.reduceEqDiff, ↓reduceIte, Nat.reduceAdd, Int.reduceBEq, Int.reduceBNe]; rfl) ?_)
   | refine nl hKF ?_
   | refine sq ?_
   | refine rg fun KF hKF => ?_
   | refine cf rfl ?_
   | refine sk ?_
   | refine rt ?_
   | dsimp only [cond_true, cond_false]
  refine rz trivial ?_
  exact ⟨_, _, rfl, Or.inl rfl, fun k h1 h2 => ⟨(hk k h1 h2).1, rfl⟩, Ext0.ext⟩
 ·have hno : ∀ k : Nat, k < 100 → l = digL k → False := fun k h1 h2 => by
   have := (hk k h1 h2).2
   rcases he with e1 | e1 <;> rw [e1] at this <;> cases this
  have he2 : ∃ x, e = .iface 149 x := by rcases he with e1 | e1 <;> exact ⟨_, e1⟩
  obtain ⟨x, rfl⟩ := he2
  repeat first
   | refine Fo.mov (rfl : _ = strV _) ?_
   | (refine mv ?_)
   | refine xt ?_
   | (refine Fo.now rfl rfl (by simp only [↓nrmL, nrmZ, Nat.reduceEqDiff, ↓reduceIte, Nat.reduceAdd, Int.reduceBEq, Int.reduceBNe]; rfl) ?_)
   | refine nl hKF ?_
   | refine sq ?_
   | refine rg fun KF hKF => ?_
   | refine ct rfl ?_
  refine WpO.do (WpX.conD hn rfl rfl (by simp only [↓nrmL, nrmZ, Nat.reduceEqDiff, ↓reduceIte, Nat.reduceAdd, Int.reduceBEq, Int.reduceBNe, List.map] <;> rfl) (K_toError (f := [65, 116, 111, 105]) (l := l) he) fun v H2 h5 => ?_)
  obtain ⟨t, x, rfl, hx2⟩ := h5
  haveI : ExtI _ H2 := ⟨hx2⟩
  refine mv ?_
  refine mv ?_
  refine nl hKF ?_
  refine rt ?_
  dsimp only [cond_true, cond_false]
  refine rz trivial ?_
  exact ⟨_, _, rfl, Or.inr ⟨_, _, rfl⟩, fun k h1 h2 => (hno k h1 h2).elim, Ext0.ext⟩
def minB (l : Bs) : Bool := l.take 1 == [45]
def restL (l : Bs) : Bs := bif minB l then l.drop 1 else l
instance K_HasPrefix {l : Bs} {H : AHeap} : PureCon ext prog 124 [strV l, .str ⟨#[45]⟩] H 1 (.bool (minB l)) := ⟨by
 refine con_of (show prog 124 = some c124 from rfl) rfl rfl fun m hn => ?_
 have e1 : (AVal.str ⟨#[45]⟩) = strV [45] := rfl
 rw [e1]
 cases h1 : decide (((l.length : Nat) : Int) ≥ ((([45] : Bs).length : Nat) : Int))
 ·have hm : minB l = false := by
   have := of_decide_eq_false h1
   have : l = [] := List.length_eq_zero_iff.1 (by simp at this; omega)
   subst this; rfl
  repeat first
   | refine Fo.lenStr (rfl : _ = strV _) rfl ?_
   | refine Fo.mov (rfl : _ = strV _) ?_
   | (refine mv ?_)
   | refine ox ?_
   | (refine bn rfl rfl rfl (by simp only [h1]; rfl) ?_)
   | refine fB ?_
   | refine nl hKF ?_
   | refine sq ?_
   | refine rg fun KF hKF => ?_
   | refine rt ?_
   | dsimp only [cond_true, cond_false]
  refine rz trivial ?_
  exact ⟨by rw [hm]; rfl, Ext0.ext⟩
 ·have hp : 1 ≤ l.length := by have := of_decide_eq_true h1; simp at this; omega
  repeat first
   | refine Fo.lenStr (rfl : _ = strV _) rfl ?_
   | refine Fo.eqStr rfl rfl rfl ?_
   | (refine Fo.slcStr (rfl : _ = strV _) (by first | exact Or.inl ⟨rfl, rfl⟩ | exact Or.inr ⟨_, rfl⟩) (by first | exact Or.inl ⟨rfl, rfl⟩ | exact Or.inr ⟨_, rfl⟩) ?_ ?_ rfl ?_; (focus omega); (focus omega))
   | refine Fo.mov (rfl : _ = strV _) ?_
   | (refine mv ?_)
   | refine oy ?_
   | (refine bn rfl rfl rfl (by simp only [h1]; rfl) ?_)
   | refine tB ?_
   | refine nl hKF ?_
   | refine sq ?_
   | refine rg fun KF hKF => ?_
   | refine rt ?_
   | dsimp only [cond_true, cond_false]
  refine rz trivial ?_
  exact ⟨rfl, Ext0.ext⟩⟩
theorem min_len {l : Bs} (h : minB l = true) : 1 ≤ l.length := by
 cases l with
 | nil => cases h
 | cons => exact Nat.succ_pos _
instance K_CutPrefix1 {l : Bs} {H : AHeap} : PureCon ext prog 118 [strV l, .str ⟨#[45]⟩] H 2 (.tuple [strV (restL l), .bool (minB l)]) := ⟨by
 have e1 : (AVal.str ⟨#[45]⟩) = strV [45] := rfl
 refine con_of (show prog 118 = some c118 from rfl) rfl rfl fun m hn => ?_
 cases h1 : minB l
 ·have hr : restL l = l := by unfold restL; rw [h1]; rfl
  repeat first
   | refine Fo.mov (rfl : _ = strV _) ?_
   | (refine mv ?_)
   | (refine Fo.pcall (v' := ?_) hn rfl (by simp only [↓nrmL, nrmZ, Nat.reduceEqDiff, ↓reduceIte, Nat.reduceAdd, Int.reduceBEq, Int.reduceBNe, h1, List.map]; rfl) rfl ?hv fun _ _ => ?_; case hv => (simp only [h1]; rfl))
   | (refine Fo.now rfl rfl (by simp only [↓nrmL, nrmZ, Nat.reduceEqDiff, ↓reduceIte, Nat.reduceAdd, Int.reduceBEq, Int.reduceBNe, h1]; rfl) ?_)
   | refine nl hKF ?_
   | refine sq ?_
   | refine rg fun KF hKF => ?_
   | refine ct rfl ?_
   | refine rt ?_
   | dsimp only [cond_true, cond_false]
  refine rz trivial ?_
  exact ⟨by rw [hr]; rfl, Ext0.ext⟩
 ·have hr : restL l = l.drop 1 := by unfold restL; rw [h1]; rfl
  have hp := min_len h1
  have xd : (l.drop 1).take (l.length - 1) = l.drop 1 := by rw [List.take_of_length_le (by rw [List.length_drop]; omega)]
  repeat first
   | refine Fo.lenStr (rfl : _ = strV _) rfl ?_
   | (refine Fo.slcStr (rfl : _ = strV _) (by first | exact Or.inl ⟨rfl, rfl⟩ | exact Or.inr ⟨_, rfl⟩) (by first | exact Or.inl ⟨rfl, rfl⟩ | exact Or.inr ⟨_, rfl⟩) ?_ ?_ rfl ?_; (focus omega); (focus omega))
   | refine Fo.mov (rfl : _ = strV _) ?_
   | (refine mv ?_)
   | (refine Fo.pcall (v' := ?_) hn rfl (by simp only [↓nrmL, nrmZ, Nat.reduceEqDiff, ↓reduceIte, Nat.reduceAdd, Int.reduceBEq, Int.reduceBNe, h1, List.map]; rfl) rfl ?hv fun _ _ => ?_; case hv => (simp only [h1]; rfl))
   | (refine Fo.now rfl rfl (by simp only [↓nrmL, nrmZ, Nat.reduceEqDiff, ↓reduceIte, Nat.reduceAdd, Int.reduceBEq, Int.reduceBNe, h1]; rfl) ?_)
   | refine nl hKF ?_
   | refine sq ?_
   | refine rg fun KF hKF => ?_
   | refine cf rfl ?_
   | refine sk ?_
   | refine rt ?_
   | dsimp only [cond_true, cond_false]
  refine rz trivial ?_
  exact ⟨by rw [hr, ← xd]; rfl, Ext0.ext⟩⟩
instance K_CutPrefix {l : Bs} {H : AHeap} : PureCon ext prog 102 [strV l, .str ⟨#[45]⟩] H 3 (.tuple [strV (restL l), .bool (minB l)]) := ⟨by
 refine con_of (show prog 102 = some c102 from rfl) rfl rfl fun m hn => ?_
 repeat first
  | refine Fo.mov (rfl : _ = strV _) ?_
  | (refine mv ?_)
  | refine xt ?_
  | (refine Fo.pcall (v' := ?_) hn rfl (by simp only [↓nrmL, nrmZ, Nat.reduceEqDiff, ↓reduceIte, Nat.reduceAdd, Int.reduceBEq, Int.reduceBNe, List.map]; rfl) rfl ?hv fun _ _ => ?_; case hv => rfl)
  | refine nl hKF ?_
  | refine sq ?_
  | refine rg fun KF hKF => ?_
  | refine rt ?_
  | dsimp only [cond_true, cond_false]
 refine rz trivial ?_
 exact ⟨rfl, Ext0.ext⟩⟩
def candI (w : Bool) (n e : Int) : Int := bif w then -n else n
def candS (w : Bool) (n e : Int) : Int := bif w then -(natI n + e) else natI n + e
def hitB (l : Bs) (w : Bool) (n e : Int) : Bool := (titleS (candI w n e) (candS w n e)).2 == 0 && (titleS (candI w n e) (candS w n e)).1 == l
theorem q_chars (p : Bool) (e : Int) : ∀ c ∈ qualL p e, c ≠ 45 := by
 unfold qualL
 repeat' split
 all_goals decide
theorem title_is {i s : Int} {l : Bs} (h2 : (titleS i s).2 = 0) (h1 : (titleS i s).1 = l) : ∃ c : UInt8, c ≠ 45 ∧ stepB (upI i s) = true ∧ l = (bif downB i s then [45] else []) ++ c :: digL (upI i s + 1).toNat := by
 unfold titleS at h1 h2
 cases hb : titleB i s
 ·rw [hb] at h2; cases h2
 rw [hb] at h1
 simp only [cond_true] at h1
 unfold titleB at hb
 simp only [Bool.and_eq_true, Bool.not_eq_true'] at hb
 obtain ⟨⟨_, hst⟩, hq⟩ := hb
 have hl := q_len (perfB (upI i s)) (upS i s - natI (upI i s))
 have hc := q_chars (perfB (upI i s)) (upS i s - natI (upI i s))
 unfold titleL at h1
 generalize qualL (perfB (upI i s)) (upS i s - natI (upI i s)) = q at hq hl hc h1
 match q, hq, hl, hc, h1 with
 | [c], _, _, hc, h1 => exact ⟨c, hc c (by simp), hst, by rw [← h1]; simp⟩
 | _ :: _ :: _, _, hl, _, _ => simp at hl
theorem hit_tail {l : Bs} {n e : Int} (h : hitB l (minB l) n e = true) : stepB n = true ∧ 2 ≤ (restL l).length ∧ (restL l).drop 1 = digL (n + 1).toNat := by
 unfold hitB at h
 simp only [Bool.and_eq_true, beq_iff_eq] at h
 obtain ⟨c, hc, hst, hl⟩ := title_is h.1 h.2
 cases hm : minB l
 ·rw [hm] at hl hst
  cases hd : downB (candI false n e) (candS false n e)
  ·rw [hd] at hl
   have hu : upI (candI false n e) (candS false n e) = n := by unfold upI; rw [hd]; rfl
   rw [hu] at hl hst
   simp only [cond_false, List.nil_append] at hl
   have hr : restL l = l := by unfold restL; rw [hm]; rfl
   have := dig_pos (n + 1).toNat
   rw [hr, hl]
   exact ⟨hst, by simp only [List.length_cons]; omega, rfl⟩
  ·rw [hd] at hl
   rw [hl] at hm
   cases hm
 ·rw [hm] at hl hst
  cases hd : downB (candI true n e) (candS true n e)
  ·rw [hd] at hl
   rw [hl] at hm
   simp only [cond_false, List.nil_append] at hm
   unfold minB at hm
   simp at hm
   exact absurd hm hc
  ·rw [hd] at hl
   have hu : upI (candI true n e) (candS true n e) = n := by unfold upI candI; rw [show downB (bif true then -n else n) (candS true n e) = true from hd]; simp
   rw [hu] at hl hst
   simp only [cond_true, List.cons_append, List.nil_append] at hl
   have hr : restL l = l.drop 1 := by unfold restL; rw [hm]; rfl
   have := dig_pos (n + 1).toNat
   rw [hr, hl]
   exact ⟨hst, by simp only [List.drop_succ_cons, List.drop_zero, List.length_cons]; omega, rfl⟩
end Go.Am
namespace Go.Am
open Go
attribute [local irreducible] Wp WpO WpX WpE
def ReadR (l : Bs) (v : AVal) : Prop :=
 (∃ n e : Int, 0 ≤ n ∧ n ≤ 69 ∧ -2 ≤ e ∧ e ≤ 1 ∧ hitB l (minB l) n e = true ∧ v = .tuple [.agg [.int .i64 (candI (minB l) n e), .int .i64 (candS (minB l) n e)], .int .i64 0]) ∨
 ((∀ n e : Int, -2 ≤ e → e ≤ 1 → hitB l (minB l) n e = false) ∧ v = .tuple [.agg [.int .i64 0, .int .i64 0], .int .i64 5])
theorem K_Read {l : Bs} {H : AHeap} [hE : ErrsI H] [hl : Len47 l] : Con ext prog 7 50 [strV l] H fun v H' => ReadR l v ∧ Ext H H' := by
 refine con_of (show prog 50 = some c50 from rfl) rfl rfl fun m hn => ?_
 have hle := hl.le
 have hrl : (restL l).length ≤ l.length := by
  unfold restL
  cases minB l
  ·exact Nat.le_refl _
  ·simp only [cond_true, List.length_drop]; omega
 haveI : Len47 (restL l) := ⟨by omega⟩
 cases h0 : (restL l == ([] : Bs))
 rotate_left
 ·have hr : restL l = [] := by
   cases hq : restL l with
   | nil => rfl
   | cons => rw [hq] at h0; cases h0
  have hno : ∀ n e : Int, -2 ≤ e → e ≤ 1 → hitB l (minB l) n e = false := fun n e _ _ => by
   cases hh : hitB l (minB l) n e
   ·rfl
   ·have := (hit_tail hh).2.1
    rw [hr] at this; simp at this
  repeat first
   | (refine Fo.eqStr rfl rfl (by simp only [↓nrmL, nrmZ, Nat.reduceEqDiff, ↓reduceIte, Nat.reduceAdd, Int.reduceBEq, Int.reduceBNe, h0]; rfl) ?_)
   | refine Fo.mov (rfl : _ = strV _) ?_
   | (refine mv ?_)
   | refine xt ?_
   | (refine Fo.pcall (v' := ?_) hn rfl (by simp only [↓nrmL, nrmZ, Nat.reduceEqDiff, ↓reduceIte, Nat.reduceAdd, Int.reduceBEq, Int.reduceBNe, h0, List.map]; rfl) rfl ?hv fun _ _ => ?_; case hv => rfl)
   | refine nw ?_
   | (refine ob (cs' := ?_) ?hc ?_; case hc => rfl)
   | (refine so rfl (rfl : _ = AVal.agg _) rfl rfl rfl (by simp only [↓nrmL, nrmZ, Nat.reduceEqDiff, ↓reduceIte, Nat.reduceAdd, Int.reduceBEq, Int.reduceBNe, h0]; rfl) ?_)
   | refine nl hKF ?_
   | refine sq ?_
   | refine rg fun KF hKF => ?_
   | refine ct rfl ?_
   | refine rt ?_
   | dsimp only [cond_true, cond_false]
  refine rz trivial ?_
  exact ⟨Or.inr ⟨hno, rfl⟩, Ext0.ext⟩
 have hp : 1 ≤ (restL l).length := by
  cases hq : restL l with
  | nil => rw [hq] at h0; cases h0
  | cons => exact Nat.succ_pos _
 have xd : ((restL l).drop 1).take ((restL l).length - 1) = (restL l).drop 1 := by rw [List.take_of_length_le (by rw [List.length_drop]; omega)]
 haveI := drop1_47 (l := restL l) inferInstance
 repeat first
  | (refine Fo.eqStr rfl rfl (by simp only [↓nrmL, nrmZ, Nat.reduceEqDiff, ↓reduceIte, Nat.reduceAdd, Int.reduceBEq, Int.reduceBNe, h0, xd]; rfl) ?_)
  | (refine Fo.slcStr (rfl : _ = strV _) (by first | exact Or.inl ⟨rfl, rfl⟩ | exact Or.inr ⟨_, rfl⟩) (by first | exact Or.inl ⟨rfl, rfl⟩ | exact Or.inr ⟨_, rfl⟩) ?_ ?_ (by simp only [↓nrmL, nrmZ, Nat.reduceEqDiff, ↓reduceIte, Nat.reduceAdd, Int.reduceBEq, Int.reduceBNe, h0, xd]; rfl) ?_; (focus omega); (focus omega))
  | refine Fo.mov (rfl : _ = strV _) ?_
  | (refine mv ?_)
  | refine xt ?_
  | (refine Fo.pcall (v' := ?_) hn rfl (by simp only [↓nrmL, nrmZ, Nat.reduceEqDiff, ↓reduceIte, Nat.reduceAdd, Int.reduceBEq, Int.reduceBNe, h0, xd, List.map]; rfl) rfl ?hv fun _ _ => ?_; case hv => rfl)
  | refine nw ?_
  | refine nl hKF ?_
  | refine sq ?_
  | refine rg fun KF hKF => ?_
  | refine cf rfl ?_
  | refine sk ?_
 refine WpO.do (WpX.conD hn rfl rfl (by simp only [↓nrmL, nrmZ, Nat.reduceEqDiff, ↓reduceIte, Nat.reduceAdd, Int.reduceBEq, Int.reduceBNe, List.map] <;> rfl) (K_Atoi (hE := ⟨hE.it.ext Ext0.ext⟩) (l := (restL l).drop 1)) fun v H1 h5 => ?_)
 obtain ⟨N, er, rfl, her, hk, hx⟩ := h5
 haveI : ExtI _ H1 := ⟨hx⟩
 have hhit : ∀ n e : Int, hitB l (minB l) n e = true → N = n + 1 ∧ er = .niface ∧ 0 ≤ n ∧ n ≤ 69 := fun n e hh => by
  obtain ⟨g1, _, g2⟩ := hit_tail hh
  have g3 := stepI_of g1
  have g4 := g3.lo; have g5 := g3.hi
  obtain ⟨k1, k2⟩ := hk (n + 1).toNat (by omega) g2
  exact ⟨by omega, k2, g4, g5⟩
 rcases her with rfl | ⟨et, ex, rfl⟩
 rotate_left
 ·have hno : ∀ n e : Int, -2 ≤ e → e ≤ 1 → hitB l (minB l) n e = false := fun n e _ _ => by
   cases hh : hitB l (minB l) n e
   ·rfl
   ·have := (hhit n e hh).2.1
    cases this
  repeat first
   | (refine mv ?_)
   | refine ox ?_
   | refine tB ?_
   | refine xt ?_
   | (refine ob (cs' := ?_) ?hc ?_; case hc => rfl)
   | (refine Fo.now rfl rfl (by simp only [↓nrmL, nrmZ, Nat.reduceEqDiff, ↓reduceIte, Nat.reduceAdd, Int.reduceBEq, Int.reduceBNe]; rfl) ?_)
   | (refine so rfl (rfl : _ = AVal.agg _) rfl rfl rfl (by simp only [↓nrmL, nrmZ, Nat.reduceEqDiff, ↓reduceIte, Nat.reduceAdd, Int.reduceBEq, Int.reduceBNe]; rfl) ?_)
   | refine nl hKF ?_
   | refine sq ?_
   | refine rg fun KF hKF => ?_
   | refine ct rfl ?_
   | refine rt ?_
   | dsimp only [cond_true, cond_false]
  refine rz trivial ?_
  exact ⟨Or.inr ⟨hno, rfl⟩, Ext0.ext⟩
 obtain ⟨M, hM⟩ : ∃ M, IntKind.i64.wrap (N - 1) = M := ⟨_, rfl⟩
 have hMh : ∀ n e : Int, hitB l (minB l) n e = true → M = n := fun n e hh => by
  obtain ⟨g1, _, g3, g4⟩ := hhit n e hh
  rw [← hM, g1, w64r (by omega) (by omega)]; omega
 cases hs : stepB M
 ·have hno : ∀ n e : Int, -2 ≤ e → e ≤ 1 → hitB l (minB l) n e = false := fun n e _ _ => by
   cases hh : hitB l (minB l) n e
   ·rfl
   ·have := hMh n e hh
    have h2 := (hit_tail hh).1
    rw [← this, hs] at h2; cases h2
  repeat first
   | (refine mv ?_)
   | refine oy ?_
   | (refine bn rfl rfl rfl (by simp only [hM, hs]; rfl) ?_)
   | refine fB ?_
   | refine xt ?_
   | (refine Fo.pcall (v' := ?_) hn rfl (by simp only [↓nrmL, nrmZ, Nat.reduceEqDiff, ↓reduceIte, Nat.reduceAdd, Int.reduceBEq, Int.reduceBNe, hM, hs, List.map]; rfl) rfl ?hv fun _ _ => ?_; case hv => (simp only [hM, hs]; rfl))
   | (refine ob (cs' := ?_) ?hc ?_; case hc => rfl)
   | (refine Fo.now rfl rfl (by simp only [hM, hs]; rfl) ?_)
   | (refine Fo.now rfl rfl (by simp only [↓nrmL, nrmZ, Nat.reduceEqDiff, ↓reduceIte, Nat.reduceAdd, Int.reduceBEq, Int.reduceBNe, hM, hs]; rfl) ?_)
   | (refine so rfl (rfl : _ = AVal.agg _) rfl rfl rfl (by simp only [↓nrmL, nrmZ, Nat.reduceEqDiff, ↓reduceIte, Nat.reduceAdd, Int.reduceBEq, Int.reduceBNe, hM, hs]; rfl) ?_)
   | refine nl hKF ?_
   | refine sq ?_
   | refine rg fun KF hKF => ?_
   | refine ct rfl ?_
   | refine rt ?_
   | dsimp only [cond_true, cond_false]
  refine rz trivial ?_
  exact ⟨Or.inr ⟨hno, rfl⟩, Ext0.ext⟩
 haveI hsI := stepI_of hs
 have yb0 := hsI.lo; have b9 := hsI.hi
 obtain ⟨n0, n1⟩ := nat_le yb0 b9
 cases hw : minB l
 ·skip
  repeat first
   | (refine mv ?_)
   | refine oy ?_
   | (refine bn rfl rfl rfl (by simp only [hM, hs]; rfl) ?_)
   | refine fB ?_
   | refine xt ?_
   | (refine Fo.pcall (v' := ?_) hn rfl (by simp only [↓nrmL, nrmZ, Nat.reduceEqDiff, ↓reduceIte, Nat.reduceAdd, Int.reduceBEq, Int.reduceBNe, hM, hs, List.map]; rfl) rfl ?hv fun _ _ => ?_; case hv => (simp only [hM, hs]; rfl))
   | (refine Fo.now rfl rfl (by simp only [hM, hs]; rfl) ?_)
   | (refine Fo.now rfl rfl (by simp only [↓nrmL, nrmZ, Nat.reduceEqDiff, ↓reduceIte, Nat.reduceAdd, Int.reduceBEq, Int.reduceBNe, hM, hs]; rfl) ?_)
   | refine nl hKF ?_
   | refine sq ?_
   | refine rg fun KF hKF => ?_
   | refine cf rfl ?_
   | refine sk ?_
   | refine Wp.block ?_
   | dsimp only [cond_true, cond_false]
  refine Wp.loopS (σ := Nat) [3, 8, 9, 10, 11, 35, 36, 37, 38, 39, 40, 41, 42, 43, 44, 45, 46, 47, 48, 49, 50, 51, 52, 53, 54, 55, 56, 57, 58, 59, 60, 61, 62] (fun j => [(8, .int .i64 (((j : Nat) : Int) - 2))]) (fun H3 j H2 => j ≤ 4 ∧ (∀ e : Int, -2 ≤ e → e < ((j : Nat) : Int) - 2 → hitB l false M e = false) ∧ Ext H3 H2) (fun j => 4 - j) 0 rfl (fun _ => rfl) ⟨rfl, trivial⟩ ⟨Nat.zero_le _, fun e h1 h2 => (by omega), Ext.refl _⟩ (by unfold fuel0 at hn; omega) ?_
  rintro j g H2 ⟨hj, hmiss, hx2⟩
  haveI : ExtI _ H2 := ⟨hx2⟩
  simp only [↓nrmL, nrmZ, Nat.reduceEqDiff, ↓reduceIte, Nat.reduceAdd, Int.reduceBEq, Int.reduceBNe]
  cases hc : decide ((((j : Nat) : Int) - 2) ≤ 1)
  ·have hj4 : j = 4 := by have := of_decide_eq_false hc; omega
   have hno : ∀ n e : Int, -2 ≤ e → e ≤ 1 → hitB l (minB l) n e = false := fun n e h1 h2 => by
    cases hh : hitB l (minB l) n e
    ·rfl
    ·have h3 := hMh n e hh
     have h4 : hitB l (minB l) n e = false := by rw [hw, ← h3]; exact hmiss e h1 (by omega)
     rw [hh] at h4; cases h4
   repeat first
    | (refine mv ?_)
    | (refine bn rfl rfl rfl (by simp only [hc]; rfl) ?_)
    | (refine ob (cs' := ?_) ?hc ?_; case hc => rfl)
    | (refine so rfl (rfl : _ = AVal.agg _) rfl rfl rfl (by simp only [↓nrmL, nrmZ, Nat.reduceEqDiff, ↓reduceIte, Nat.reduceAdd, Int.reduceBEq, Int.reduceBNe, hc]; rfl) ?_)
    | refine nl hKF ?_
    | refine sq ?_
    | refine rg fun KF hKF => ?_
    | refine cf rfl ?_
    | refine rt ?_
    | refine xi ?_
    | dsimp only [cond_true, cond_false]
   refine rz trivial ?_
   exact ⟨Or.inr ⟨hno, rfl⟩, Ext0.ext⟩
  have hjc : ((j : Nat) : Int) - 2 ≤ 1 := of_decide_eq_true hc
  have y1 : IntKind.i64.wrap (natI M + (((j : Nat) : Int) - 2)) = natI M + (((j : Nat) : Int) - 2) := w64r (by omega) (by omega)
  have y2 : IntKind.i64.wrap ((((j : Nat) : Int) - 2) + 1) = (((j + 1 : Nat) : Nat) : Int) - 2 := by rw [w64r (by omega) (by omega)]; omega
  haveI : NearI M (natI M + (((j : Nat) : Int) - 2)) := ⟨by omega, by omega, by omega, by omega⟩
  obtain ⟨tt, htt⟩ : ∃ tt, titleS M (natI M + (((j : Nat) : Int) - 2)) = tt := ⟨_, rfl⟩
  have hhb : hitB l false M (((j : Nat) : Int) - 2) = (tt.2 == 0 && tt.1 == l) := by rw [← htt]; rfl
  have hnext : (tt.2 == 0 && tt.1 == l) = false → (j + 1 ≤ 4 ∧ (∀ e : Int, -2 ≤ e → e < ((j + 1 : Nat) : Int) - 2 → hitB l false M e = false)) := fun q => ⟨by omega, fun e h1 h2 => by
   by_cases he : e = ((j : Nat) : Int) - 2
   ·rw [he, hhb, q]
   ·exact hmiss e h1 (by omega)⟩
  cases z1 : (tt.2 == 0)
  ·have hq := hnext (by rw [z1]; rfl)
   repeat first
    | refine Fo.mov (rfl : _ = strV _) ?_
    | (refine mv ?_)
    | refine ox ?_
    | (refine Fo.ldN rfl rfl (by simp only [↓nrmL, nrmZ, Nat.reduceEqDiff, ↓reduceIte, Nat.reduceAdd, Int.reduceBEq, Int.reduceBNe, hc, hM, y1, htt, z1]; rfl) ?_)
    | (refine bn rfl rfl rfl (by simp only [hc, hM, y1, htt, z1]; rfl) ?_)
    | refine b0 ?_
    | refine fB ?_
    | refine xt ?_
    | (refine Fo.pcall (v' := ?_) hn rfl (by simp only [↓nrmL, nrmZ, Nat.reduceEqDiff, ↓reduceIte, Nat.reduceAdd, Int.reduceBEq, Int.reduceBNe, hc, hM, y1, htt, z1, List.map]; rfl) rfl ?hv fun _ _ => ?_; case hv => (simp only [hc, hM, y1, htt, z1]; rfl))
    | (refine Fo.pcall (v' := ?_) hn rfl (by simp only [↓nrmL, nrmZ, Nat.reduceEqDiff, ↓reduceIte, Nat.reduceAdd, Int.reduceBEq, Int.reduceBNe, hc, hM, y1, htt, z1, List.map]; rfl) rfl ?hv fun _ _ => ?_; case hv => rfl)
    | refine nw ?_
    | (refine ob (cs' := ?_) ?hc ?_; case hc => (simp only [↓nrmL, nrmZ, Nat.reduceEqDiff, ↓reduceIte, Nat.reduceAdd, Int.reduceBEq, Int.reduceBNe, hc, hM, y1, htt, z1]; rfl))
    | (refine so rfl (rfl : _ = AVal.agg _) rfl rfl rfl (by simp only [↓nrmL, nrmZ, Nat.reduceEqDiff, ↓reduceIte, Nat.reduceAdd, Int.reduceBEq, Int.reduceBNe, hc, hM, y1, htt, z1]; rfl) ?_)
    | refine nl hKF ?_
    | refine sq ?_
    | refine rg fun KF hKF => ?_
    | refine ct rfl ?_
    | refine cf rfl ?_
    | refine sk ?_
    | refine Wp.block ?_
    | dsimp only [cond_true, cond_false]
   exact ⟨j + 1, by omega, ⟨by simp only [↓nrmL, nrmZ, Nat.reduceEqDiff, ↓reduceIte, Nat.reduceAdd, Int.reduceBEq, Int.reduceBNe]; rw [y2], trivial⟩, hq.1, hq.2, Ext0.ext⟩
  cases z2 : (tt.1 == l)
  ·have hq := hnext (by rw [z1, z2]; rfl)
   repeat first
    | (refine Fo.eqStr rfl rfl (by simp only [↓nrmL, nrmZ, Nat.reduceEqDiff, ↓reduceIte, Nat.reduceAdd, Int.reduceBEq, Int.reduceBNe, hc, hM, y1, htt, z1, z2]; rfl) ?_)
    | refine Fo.mov (rfl : _ = strV _) ?_
    | (refine mv ?_)
    | refine oy ?_
    | (refine Fo.ldN rfl rfl (by simp only [↓nrmL, nrmZ, Nat.reduceEqDiff, ↓reduceIte, Nat.reduceAdd, Int.reduceBEq, Int.reduceBNe, hc, hM, y1, htt, z1, z2]; rfl) ?_)
    | (refine bn rfl rfl rfl (by simp only [hc, hM, y1, htt, z1, z2]; rfl) ?_)
    | refine b0 ?_
    | refine tB ?_
    | refine xt ?_
    | (refine Fo.pcall (v' := ?_) hn rfl (by simp only [↓nrmL, nrmZ, Nat.reduceEqDiff, ↓reduceIte, Nat.reduceAdd, Int.reduceBEq, Int.reduceBNe, hc, hM, y1, htt, z1, z2, List.map]; rfl) rfl ?hv fun _ _ => ?_; case hv => (simp only [hc, hM, y1, htt, z1, z2]; rfl))
    | (refine Fo.pcall (v' := ?_) hn rfl (by simp only [↓nrmL, nrmZ, Nat.reduceEqDiff, ↓reduceIte, Nat.reduceAdd, Int.reduceBEq, Int.reduceBNe, hc, hM, y1, htt, z1, z2, List.map]; rfl) rfl ?hv fun _ _ => ?_; case hv => rfl)
    | refine nw ?_
    | (refine ob (cs' := ?_) ?hc ?_; case hc => (simp only [↓nrmL, nrmZ, Nat.reduceEqDiff, ↓reduceIte, Nat.reduceAdd, Int.reduceBEq, Int.reduceBNe, hc, hM, y1, htt, z1, z2]; rfl))
    | (refine so rfl (rfl : _ = AVal.agg _) rfl rfl rfl (by simp only [↓nrmL, nrmZ, Nat.reduceEqDiff, ↓reduceIte, Nat.reduceAdd, Int.reduceBEq, Int.reduceBNe, hc, hM, y1, htt, z1, z2]; rfl) ?_)
    | refine nl hKF ?_
    | refine sq ?_
    | refine rg fun KF hKF => ?_
    | refine ct rfl ?_
    | refine cf rfl ?_
    | refine sk ?_
    | refine Wp.block ?_
    | dsimp only [cond_true, cond_false]
   exact ⟨j + 1, by omega, ⟨by simp only [↓nrmL, nrmZ, Nat.reduceEqDiff, ↓reduceIte, Nat.reduceAdd, Int.reduceBEq, Int.reduceBNe]; rw [y2], trivial⟩, hq.1, hq.2, Ext0.ext⟩
  repeat first
   | (refine Fo.eqStr rfl rfl (by simp only [↓nrmL, nrmZ, Nat.reduceEqDiff, ↓reduceIte, Nat.reduceAdd, Int.reduceBEq, Int.reduceBNe, hc, hM, y1, htt, z1, z2]; rfl) ?_)
   | refine Fo.mov (rfl : _ = strV _) ?_
   | (refine mv ?_)
   | refine oy ?_
   | (refine Fo.ldN rfl rfl (by simp only [↓nrmL, nrmZ, Nat.reduceEqDiff, ↓reduceIte, Nat.reduceAdd, Int.reduceBEq, Int.reduceBNe, hc, hM, y1, htt, z1, z2]; rfl) ?_)
   | (refine bn rfl rfl rfl (by simp only [hc, hM, y1, htt, z1, z2]; rfl) ?_)
   | refine tB ?_
   | refine xt ?_
   | (refine Fo.pcall (v' := ?_) hn rfl (by simp only [↓nrmL, nrmZ, Nat.reduceEqDiff, ↓reduceIte, Nat.reduceAdd, Int.reduceBEq, Int.reduceBNe, hc, hM, y1, htt, z1, z2, List.map]; rfl) rfl ?hv fun _ _ => ?_; case hv => (simp only [hc, hM, y1, htt, z1, z2]; rfl))
   | (refine Fo.pcall (v' := ?_) hn rfl (by simp only [↓nrmL, nrmZ, Nat.reduceEqDiff, ↓reduceIte, Nat.reduceAdd, Int.reduceBEq, Int.reduceBNe, hc, hM, y1, htt, z1, z2, List.map]; rfl) rfl ?hv fun _ _ => ?_; case hv => rfl)
   | refine nw ?_
   | (refine ob (cs' := ?_) ?hc ?_; case hc => (simp only [↓nrmL, nrmZ, Nat.reduceEqDiff, ↓reduceIte, Nat.reduceAdd, Int.reduceBEq, Int.reduceBNe, hc, hM, y1, htt, z1, z2]; rfl))
   | (refine so rfl (rfl : _ = AVal.agg _) rfl rfl rfl (by simp only [↓nrmL, nrmZ, Nat.reduceEqDiff, ↓reduceIte, Nat.reduceAdd, Int.reduceBEq, Int.reduceBNe, hc, hM, y1, htt, z1, z2]; rfl) ?_)
   | refine nl hKF ?_
   | refine sq ?_
   | refine rg fun KF hKF => ?_
   | refine ct rfl ?_
   | refine cf rfl ?_
   | refine sk ?_
   | refine rt ?_
   | refine Wp.block ?_
   | dsimp only [cond_true, cond_false]
  refine rz trivial ?_
  exact ⟨Or.inl ⟨M, ((j : Nat) : Int) - 2, yb0, b9, by omega, hjc, by rw [hw, hhb, z1, z2]; rfl, by rw [hw]; rfl⟩, Ext0.ext⟩
 ·skip
  repeat first
   | (refine mv ?_)
   | refine oy ?_
   | (refine bn rfl rfl rfl (by simp only [hM, hs]; rfl) ?_)
   | refine fB ?_
   | refine xt ?_
   | (refine Fo.pcall (v' := ?_) hn rfl (by simp only [↓nrmL, nrmZ, Nat.reduceEqDiff, ↓reduceIte, Nat.reduceAdd, Int.reduceBEq, Int.reduceBNe, hM, hs, List.map]; rfl) rfl ?hv fun _ _ => ?_; case hv => (simp only [hM, hs]; rfl))
   | (refine Fo.now rfl rfl (by simp only [hM, hs]; rfl) ?_)
   | (refine Fo.now rfl rfl (by simp only [↓nrmL, nrmZ, Nat.reduceEqDiff, ↓reduceIte, Nat.reduceAdd, Int.reduceBEq, Int.reduceBNe, hM, hs]; rfl) ?_)
   | refine nl hKF ?_
   | refine sq ?_
   | refine rg fun KF hKF => ?_
   | refine cf rfl ?_
   | refine sk ?_
   | refine Wp.block ?_
   | dsimp only [cond_true, cond_false]
  refine Wp.loopS (σ := Nat) [3, 8, 9, 10, 11, 35, 36, 37, 38, 39, 40, 41, 42, 43, 44, 45, 46, 47, 48, 49, 50, 51, 52, 53, 54, 55, 56, 57, 58, 59, 60, 61, 62] (fun j => [(8, .int .i64 (((j : Nat) : Int) - 2))]) (fun H3 j H2 => j ≤ 4 ∧ (∀ e : Int, -2 ≤ e → e < ((j : Nat) : Int) - 2 → hitB l true M e = false) ∧ Ext H3 H2) (fun j => 4 - j) 0 rfl (fun _ => rfl) ⟨rfl, trivial⟩ ⟨Nat.zero_le _, fun e h1 h2 => (by omega), Ext.refl _⟩ (by unfold fuel0 at hn; omega) ?_
  rintro j g H2 ⟨hj, hmiss, hx2⟩
  haveI : ExtI _ H2 := ⟨hx2⟩
  simp only [↓nrmL, nrmZ, Nat.reduceEqDiff, ↓reduceIte, Nat.reduceAdd, Int.reduceBEq, Int.reduceBNe]
  cases hc : decide ((((j : Nat) : Int) - 2) ≤ 1)
  ·have hj4 : j = 4 := by have := of_decide_eq_false hc; omega
   have hno : ∀ n e : Int, -2 ≤ e → e ≤ 1 → hitB l (minB l) n e = false := fun n e h1 h2 => by
    cases hh : hitB l (minB l) n e
    ·rfl
    ·have h3 := hMh n e hh
     have h4 : hitB l (minB l) n e = false := by rw [hw, ← h3]; exact hmiss e h1 (by omega)
     rw [hh] at h4; cases h4
   repeat first
    | (refine mv ?_)
    | (refine bn rfl rfl rfl (by simp only [hc]; rfl) ?_)
    | (refine ob (cs' := ?_) ?hc ?_; case hc => rfl)
    | (refine so rfl (rfl : _ = AVal.agg _) rfl rfl rfl (by simp only [↓nrmL, nrmZ, Nat.reduceEqDiff, ↓reduceIte, Nat.reduceAdd, Int.reduceBEq, Int.reduceBNe, hc]; rfl) ?_)
    | refine nl hKF ?_
    | refine sq ?_
    | refine rg fun KF hKF => ?_
    | refine cf rfl ?_
    | refine rt ?_
    | refine xi ?_
    | dsimp only [cond_true, cond_false]
   refine rz trivial ?_
   exact ⟨Or.inr ⟨hno, rfl⟩, Ext0.ext⟩
  have hjc : ((j : Nat) : Int) - 2 ≤ 1 := of_decide_eq_true hc
  have y1 : IntKind.i64.wrap (natI M + (((j : Nat) : Int) - 2)) = natI M + (((j : Nat) : Int) - 2) := w64r (by omega) (by omega)
  have y2 : IntKind.i64.wrap ((((j : Nat) : Int) - 2) + 1) = (((j + 1 : Nat) : Nat) : Int) - 2 := by rw [w64r (by omega) (by omega)]; omega
  haveI : NearI M (natI M + (((j : Nat) : Int) - 2)) := ⟨by omega, by omega, by omega, by omega⟩
  obtain ⟨tt, htt⟩ : ∃ tt, titleS (-M) (-(natI M + (((j : Nat) : Int) - 2))) = tt := ⟨_, rfl⟩
  have hhb : hitB l true M (((j : Nat) : Int) - 2) = (tt.2 == 0 && tt.1 == l) := by rw [← htt]; rfl
  have hnext : (tt.2 == 0 && tt.1 == l) = false → (j + 1 ≤ 4 ∧ (∀ e : Int, -2 ≤ e → e < ((j + 1 : Nat) : Int) - 2 → hitB l true M e = false)) := fun q => ⟨by omega, fun e h1 h2 => by
   by_cases he : e = ((j : Nat) : Int) - 2
   ·rw [he, hhb, q]
   ·exact hmiss e h1 (by omega)⟩
  cases z1 : (tt.2 == 0)
  ·have hq := hnext (by rw [z1]; rfl)
   repeat first
    | refine Fo.mov (rfl : _ = strV _) ?_
    | (refine mv ?_)
    | refine ox ?_
    | (refine Fo.ldN rfl rfl (by simp only [↓nrmL, nrmZ, Nat.reduceEqDiff, ↓reduceIte, Nat.reduceAdd, Int.reduceBEq, Int.reduceBNe, hc, hM, y1, htt, z1]; rfl) ?_)
    | (refine bn rfl rfl rfl (by simp only [hc, hM, y1, htt, z1]; rfl) ?_)
    | refine b0 ?_
    | refine fB ?_
    | refine xt ?_
    | (refine Fo.pcall (v' := ?_) hn rfl (by simp only [↓nrmL, nrmZ, Nat.reduceEqDiff, ↓reduceIte, Nat.reduceAdd, Int.reduceBEq, Int.reduceBNe, hc, hM, y1, htt, z1, List.map]; rfl) rfl ?hv fun _ _ => ?_; case hv => (simp only [hc, hM, y1, htt, z1]; rfl))
    | (refine Fo.pcall (v' := ?_) hn rfl (by simp only [↓nrmL, nrmZ, Nat.reduceEqDiff, ↓reduceIte, Nat.reduceAdd, Int.reduceBEq, Int.reduceBNe, hc, hM, y1, htt, z1, List.map]; rfl) rfl ?hv fun _ _ => ?_; case hv => rfl)
    | refine nw ?_
    | (refine ob (cs' := ?_) ?hc ?_; case hc => (simp only [↓nrmL, nrmZ, Nat.reduceEqDiff, ↓reduceIte, Nat.reduceAdd, Int.reduceBEq, Int.reduceBNe, hc, hM, y1, htt, z1]; rfl))
    | (refine so rfl (rfl : _ = AVal.agg _) rfl rfl rfl (by simp only [↓nrmL, nrmZ, Nat.reduceEqDiff, ↓reduceIte, Nat.reduceAdd, Int.reduceBEq, Int.reduceBNe, hc, hM, y1, htt, z1]; rfl) ?_)
    | refine nl hKF ?_
    | refine sq ?_
    | refine rg fun KF hKF => ?_
    | refine ct rfl ?_
    | refine cf rfl ?_
    | refine sk ?_
    | refine Wp.block ?_
    | dsimp only [cond_true, cond_false]
   exact ⟨j + 1, by omega, ⟨by simp only [↓nrmL, nrmZ, Nat.reduceEqDiff, ↓reduceIte, Nat.reduceAdd, Int.reduceBEq, Int.reduceBNe]; rw [y2], trivial⟩, hq.1, hq.2, Ext0.ext⟩
  cases z2 : (tt.1 == l)
  ·have hq := hnext (by rw [z1, z2]; rfl)
   repeat first
    | (refine Fo.eqStr rfl rfl (by simp only [↓nrmL, nrmZ, Nat.reduceEqDiff, ↓reduceIte, Nat.reduceAdd, Int.reduceBEq, Int.reduceBNe, hc, hM, y1, htt, z1, z2]; rfl) ?_)
    | refine Fo.mov (rfl : _ = strV _) ?_
    | (refine mv ?_)
    | refine oy ?_
    | (refine Fo.ldN rfl rfl (by simp only [↓nrmL, nrmZ, Nat.reduceEqDiff, ↓reduceIte, Nat.reduceAdd, Int.reduceBEq, Int.reduceBNe, hc, hM, y1, htt, z1, z2]; rfl) ?_)
    | (refine bn rfl rfl rfl (by simp only [hc, hM, y1, htt, z1, z2]; rfl) ?_)
    | refine b0 ?_
    | refine tB ?_
    | refine xt ?_
    | (refine Fo.pcall (v' := ?_) hn rfl (by simp only [↓nrmL, nrmZ, Nat.reduceEqDiff, ↓reduceIte, Nat.reduceAdd, Int.reduceBEq, Int.reduceBNe, hc, hM, y1, htt, z1, z2, List.map]; rfl) rfl ?hv fun _ _ => ?_; case hv => (simp only [hc, hM, y1, htt, z1, z2]; rfl))
    | (refine Fo.pcall (v' := ?_) hn rfl (by simp only [↓nrmL, nrmZ, Nat.reduceEqDiff, ↓reduceIte, Nat.reduceAdd, Int.reduceBEq, Int.reduceBNe, hc, hM, y1, htt, z1, z2, List.map]; rfl) rfl ?hv fun _ _ => ?_; case hv => rfl)
    | refine nw ?_
    | (refine ob (cs' := ?_) ?hc ?_; case hc => (simp only [↓nrmL, nrmZ, Nat.reduceEqDiff, ↓reduceIte, Nat.reduceAdd, Int.reduceBEq, Int.reduceBNe, hc, hM, y1, htt, z1, z2]; rfl))
    | (refine so rfl (rfl : _ = AVal.agg _) rfl rfl rfl (by simp only [↓nrmL, nrmZ, Nat.reduceEqDiff, ↓reduceIte, Nat.reduceAdd, Int.reduceBEq, Int.reduceBNe, hc, hM, y1, htt, z1, z2]; rfl) ?_)
    | refine nl hKF ?_
    | refine sq ?_
    | refine rg fun KF hKF => ?_
    | refine ct rfl ?_
    | refine cf rfl ?_
    | refine sk ?_
    | refine Wp.block ?_
    | dsimp only [cond_true, cond_false]
   exact ⟨j + 1, by omega, ⟨by simp only [↓nrmL, nrmZ, Nat.reduceEqDiff, ↓reduceIte, Nat.reduceAdd, Int.reduceBEq, Int.reduceBNe]; rw [y2], trivial⟩, hq.1, hq.2, Ext0.ext⟩
  repeat first
   | (refine Fo.eqStr rfl rfl (by simp only [↓nrmL, nrmZ, Nat.reduceEqDiff, ↓reduceIte, Nat.reduceAdd, Int.reduceBEq, Int.reduceBNe, hc, hM, y1, htt, z1, z2]; rfl) ?_)
   | refine Fo.mov (rfl : _ = strV _) ?_
   | (refine mv ?_)
   | refine oy ?_
   | (refine Fo.ldN rfl rfl (by simp only [↓nrmL, nrmZ, Nat.reduceEqDiff, ↓reduceIte, Nat.reduceAdd, Int.reduceBEq, Int.reduceBNe, hc, hM, y1, htt, z1, z2]; rfl) ?_)
   | (refine bn rfl rfl rfl (by simp only [hc, hM, y1, htt, z1, z2]; rfl) ?_)
   | refine tB ?_
   | refine xt ?_
   | (refine Fo.pcall (v' := ?_) hn rfl (by simp only [↓nrmL, nrmZ, Nat.reduceEqDiff, ↓reduceIte, Nat.reduceAdd, Int.reduceBEq, Int.reduceBNe, hc, hM, y1, htt, z1, z2, List.map]; rfl) rfl ?hv fun _ _ => ?_; case hv => (simp only [hc, hM, y1, htt, z1, z2]; rfl))
   | (refine Fo.pcall (v' := ?_) hn rfl (by simp only [↓nrmL, nrmZ, Nat.reduceEqDiff, ↓reduceIte, Nat.reduceAdd, Int.reduceBEq, Int.reduceBNe, hc, hM, y1, htt, z1, z2, List.map]; rfl) rfl ?hv fun _ _ => ?_; case hv => rfl)
   | refine nw ?_
   | (refine ob (cs' := ?_) ?hc ?_; case hc => (simp only [↓nrmL, nrmZ, Nat.reduceEqDiff, ↓reduceIte, Nat.reduceAdd, Int.reduceBEq, Int.reduceBNe, hc, hM, y1, htt, z1, z2]; rfl))
   | (refine so rfl (rfl : _ = AVal.agg _) rfl rfl rfl (by simp only [↓nrmL, nrmZ, Nat.reduceEqDiff, ↓reduceIte, Nat.reduceAdd, Int.reduceBEq, Int.reduceBNe, hc, hM, y1, htt, z1, z2]; rfl) ?_)
   | refine nl hKF ?_
   | refine sq ?_
   | refine rg fun KF hKF => ?_
   | refine ct rfl ?_
   | refine sk ?_
   | refine rt ?_
   | refine Wp.block ?_
   | dsimp only [cond_true, cond_false]
  refine rz trivial ?_
  exact ⟨Or.inl ⟨M, ((j : Nat) : Int) - 2, yb0, b9, by omega, hjc, by rw [hw, hhb, z1, z2]; rfl, by rw [hw]; rfl⟩, Ext0.ext⟩
end Go.Am
namespace Go.Am
open Go
attribute [local irreducible] Wp WpO WpX WpE
def letS (c : UInt8) : Int := Lib.indexByte [99, 100, 101, 102, 103, 97, 98] c
instance K_IBS {l : Bs} {b : UInt8} {H : AHeap} : PureCon ext prog 121 [strV l, .int .u8 (b.toNat : Int)] H 0 (.int .i64 (Lib.indexByte l b)) := ⟨fun n hn => by
 obtain ⟨k', rfl⟩ : ∃ k, n = k + 1 := ⟨n - 1, by unfold fuel0 at hn; omega⟩
 have e1 : prog 121 = some ⟨0, .ext 1, []⟩ := rfl
 refine ⟨_, H, ?_, rfl, Ext.refl H⟩
 rw [call_ext e1]
 show some (AVal.int .i64 (Lib.indexByte l.toArray.toList (UInt8.ofNat ((b.toNat : Int)).toNat)), H) = _
 simp⟩
instance K_slIB {l : Bs} {b : UInt8} {H : AHeap} : PureCon ext prog 111 [strV l, .int .u8 (b.toNat : Int)] H 1 (.int .i64 (Lib.indexByte l b)) := ⟨by
 refine con_of (show prog 111 = some c111 from rfl) rfl rfl fun n hn => ?_
 repeat first
  | refine Fo.mov (rfl : _ = strV _) ?_
  | (refine mv ?_)
  | (refine Fo.pcall (v' := ?_) hn rfl (by simp only [↓nrmL, nrmZ, Nat.reduceEqDiff, ↓reduceIte, Nat.reduceAdd, Int.reduceBEq, Int.reduceBNe, List.map]; rfl) rfl ?hv fun _ _ => ?_; case hv => rfl)
  | refine nl hKF ?_
  | refine sq ?_
  | refine rg fun KF hKF => ?_
  | refine rt ?_
  | dsimp only [cond_true, cond_false]
 refine rz trivial ?_
 exact ⟨rfl, Ext0.ext⟩⟩
instance K_stIB {l : Bs} {b : UInt8} {H : AHeap} : PureCon ext prog 68 [strV l, .int .u8 (b.toNat : Int)] H 2 (.int .i64 (Lib.indexByte l b)) := ⟨by
 refine con_of (show prog 68 = some c68 from rfl) rfl rfl fun n hn => ?_
 repeat first
  | refine Fo.mov (rfl : _ = strV _) ?_
  | (refine mv ?_)
  | (refine Fo.pcall (v' := ?_) hn rfl (by simp only [↓nrmL, nrmZ, Nat.reduceEqDiff, ↓reduceIte, Nat.reduceAdd, Int.reduceBEq, Int.reduceBNe, List.map]; rfl) rfl ?hv fun _ _ => ?_; case hv => rfl)
  | refine nl hKF ?_
  | refine sq ?_
  | refine rg fun KF hKF => ?_
  | refine rt ?_
  | dsimp only [cond_true, cond_false]
 refine rz trivial ?_
 exact ⟨rfl, Ext0.ext⟩⟩
theorem letS_all : ((List.range 256).all fun n => decide (letS (UInt8.ofNat n) = if n < 97 ∨ 103 < n then -1 else (((n + 90 - 97 + 5 - 90) % 7 : Nat) : Int))) = true := by decide +kernel
theorem letS_eq (c : UInt8) : letS c = if c.toNat < 97 ∨ 103 < c.toNat then -1 else (((c.toNat - 92) % 7 : Nat) : Int) := by
 have h := of_decide_eq_true (List.all_eq_true.1 letS_all c.toNat (List.mem_range.2 c.toNat_lt))
 rw [UInt8.ofNat_toNat] at h
 rw [h]
 split
 ·rfl
 ·congr 1
def octOk (o : UInt8) : Bool := withinB ((o.toNat : Int) - 48) 0 9
def parse2 (c o : UInt8) (a : Int) : Int × Int × Int := bif decide (letS c < 0) || !octOk o then (0, 0, 5) else (7 * ((o.toNat : Int) - 48) + letS c, a, 0)
def parseS (l : Bs) : Int × Int × Int := match l with
 | [c, o] => parse2 c o 0
 | [c, m, o] => bif m == 35 then parse2 c o 1 else bif m == 98 then parse2 c o (-1) else (0, 0, 5)
 | _ => (0, 0, 5)
theorem letS_le (c : UInt8) : -1 ≤ letS c ∧ letS c ≤ 6 := by
 rw [letS_eq]; split <;> omega
theorem parse_w (c o : UInt8) : IntKind.i64.wrap ((o.toNat : Nat) : Int) = (o.toNat : Int) ∧ IntKind.i64.wrap ((o.toNat : Int) - 48) = (o.toNat : Int) - 48 ∧ IntKind.i64.wrap (7 * ((o.toNat : Int) - 48)) = 7 * ((o.toNat : Int) - 48) ∧ IntKind.i64.wrap (7 * ((o.toNat : Int) - 48) + letS c) = 7 * ((o.toNat : Int) - 48) + letS c := by
 have h := letS_le c
 have ho := o.toNat_lt
 exact ⟨w64r (by omega) (by omega), w64r (by omega) (by omega), w64r (by omega) (by omega), w64r (by omega) (by omega)⟩
instance K_Parse2 {c o : UInt8} {H : AHeap} : PureCon ext prog 27 [strV [c, o]] H 4 (rT (parseS [c, o])) := ⟨by
 refine con_of (show prog 27 = some c27 from rfl) rfl rfl fun n hn => ?_
 obtain ⟨w1, w2, w3, w4⟩ := parse_w c o
 have hl : Lib.indexByte [99, 100, 101, 102, 103, 97, 98] c = letS c := rfl
 have x0 : (⟨#[c, o]⟩ : ByteArray)[0]'(show (0 : Nat) < 2 from by decide) = c := rfl
 have wl : IntKind.i64.wrap ((([c, o] : Bs).length : Int) - 1) = 1 := rfl
 have x1 : (⟨#[c, o]⟩ : ByteArray)[Int.toNat 1]'(show (1 : Nat) < 2 from by decide) = o := rfl
 have e : parseS [c, o] = parse2 c o 0 := rfl
 unfold parse2 octOk at e
 repeat first
  | refine Fo.lenStr (rfl : _ = strV _) rfl ?_
  | refine Fo.mov (rfl : _ = strV _) ?_
  | (refine mv ?_)
  | (refine bn rfl rfl rfl (by simp only [wl, w1, w2, w3, w4]; rfl) ?_)
  | refine b0 ?_
  | refine nw ?_
  | refine nl hKF ?_
  | refine sq ?_
  | refine rg fun KF hKF => ?_
  | refine cf rfl ?_
  | refine sk ?_
 refine Fr.dregion0 rfl fun KF hKF => ?_
 repeat first
  | (refine Fe.pure rfl rfl (by simp only [x0, x1, w1, w2, w3, w4, hl]; rfl) ?_)
  | (refine Fe.pure rfl rfl (by simp only [↓nrmL, nrmZ, Nat.reduceEqDiff, ↓reduceIte, Nat.reduceAdd, Int.reduceBEq, Int.reduceBNe, x0, x1, w1, w2, w3, w4, hl]; rfl) ?_)
  | (refine Fe.pcall (v' := ?_) rfl hn rfl (by simp only [↓nrmL, nrmZ, Nat.reduceEqDiff, ↓reduceIte, Nat.reduceAdd, Int.reduceBEq, Int.reduceBNe, x0, x1, w1, w2, w3, w4, hl, List.map]; rfl) rfl ?hv fun _ _ => ar ?_; case hv => (simp only [x0, x1, w1, w2, w3, w4, hl]; rfl))
  | refine WpE.nil (hKF _ _ ?_)
 cases h1 : decide (letS c < 0)
 case true =>
  rw [h1] at e
  simp only [h1, wl]
  repeat first
   | refine Fo.eqStr rfl rfl rfl ?_
   | refine Fo.mov (rfl : _ = strV _) ?_
   | (refine mv ?_)
   | refine ox ?_
   | (refine bn rfl rfl rfl (by simp only [h1, wl]; rfl) ?_)
   | refine tB ?_
   | (refine ob (cs' := ?_) ?hc ?_; case hc => rfl)
   | refine Fo.now rfl rfl rfl ?_
   | (refine so rfl (rfl : _ = AVal.agg _) rfl rfl rfl (by simp only [↓nrmL, nrmZ, Nat.reduceEqDiff, ↓reduceIte, Nat.reduceAdd, Int.reduceBEq, Int.reduceBNe, h1, wl]; rfl) ?_)
   | refine nl hKF ?_
   | refine sq ?_
   | refine rg fun KF hKF => ?_
   | refine ct rfl ?_
   | refine sk ?_
   | refine rt ?_
   | refine Wp.block ?_
   | dsimp only [cond_true, cond_false]
  refine rz trivial ?_
  exact ⟨by rw [e]; rfl, Ext0.ext⟩
 cases h2 : withinB ((o.toNat : Int) - 48) 0 9
 ·rw [h1, h2] at e
  simp only [h1, h2]
  repeat first
   | refine Fo.eqStr rfl rfl rfl ?_
   | refine Fo.mov (rfl : _ = strV _) ?_
   | (refine mv ?_)
   | refine oy ?_
   | (refine bn rfl rfl rfl (by simp only [h1, h2]; rfl) ?_)
   | refine fB ?_
   | (refine Fo.pcall (v' := ?_) hn rfl (by simp only [↓nrmL, nrmZ, Nat.reduceEqDiff, ↓reduceIte, Nat.reduceAdd, Int.reduceBEq, Int.reduceBNe, h1, h2, List.map]; rfl) rfl ?hv fun _ _ => ?_; case hv => (simp only [h1, h2]; rfl))
   | (refine ob (cs' := ?_) ?hc ?_; case hc => rfl)
   | (refine Fo.now rfl rfl (by simp only [↓nrmL, nrmZ, Nat.reduceEqDiff, ↓reduceIte, Nat.reduceAdd, Int.reduceBEq, Int.reduceBNe, h1, h2]; rfl) ?_)
   | refine Fo.now rfl rfl rfl ?_
   | (refine so rfl (rfl : _ = AVal.agg _) rfl rfl rfl (by simp only [↓nrmL, nrmZ, Nat.reduceEqDiff, ↓reduceIte, Nat.reduceAdd, Int.reduceBEq, Int.reduceBNe, h1, h2]; rfl) ?_)
   | refine nl hKF ?_
   | refine sq ?_
   | refine rg fun KF hKF => ?_
   | refine ct rfl ?_
   | refine sk ?_
   | refine rt ?_
   | refine Wp.block ?_
   | dsimp only [cond_true, cond_false]
  refine rz trivial ?_
  exact ⟨by rw [e]; rfl, Ext0.ext⟩
 ·rw [h1, h2] at e
  simp only [h1, h2, w3, w4]
  repeat first
   | refine Fo.eqStr rfl rfl rfl ?_
   | refine Fo.mov (rfl : _ = strV _) ?_
   | (refine mv ?_)
   | refine oy ?_
   | (refine bn rfl rfl rfl (by simp only [h1, h2, w3, w4]; rfl) ?_)
   | refine fB ?_
   | (refine Fo.pcall (v' := ?_) hn rfl (by simp only [↓nrmL, nrmZ, Nat.reduceEqDiff, ↓reduceIte, Nat.reduceAdd, Int.reduceBEq, Int.reduceBNe, h1, h2, w3, w4, List.map]; rfl) rfl ?hv fun _ _ => ?_; case hv => (simp only [h1, h2, w3, w4]; rfl))
   | (refine ob (cs' := ?_) ?hc ?_; case hc => (simp only [↓nrmL, nrmZ, Nat.reduceEqDiff, ↓reduceIte, Nat.reduceAdd, Int.reduceBEq, Int.reduceBNe, h1, h2, w3, w4]; rfl))
   | (refine Fo.now rfl rfl (by simp only [↓nrmL, nrmZ, Nat.reduceEqDiff, ↓reduceIte, Nat.reduceAdd, Int.reduceBEq, Int.reduceBNe, h1, h2, w3, w4]; rfl) ?_)
   | refine Fo.now rfl rfl rfl ?_
   | (refine so rfl (rfl : _ = AVal.agg _) rfl rfl rfl (by simp only [↓nrmL, nrmZ, Nat.reduceEqDiff, ↓reduceIte, Nat.reduceAdd, Int.reduceBEq, Int.reduceBNe, h1, h2, w3, w4]; rfl) ?_)
   | refine nl hKF ?_
   | refine sq ?_
   | refine rg fun KF hKF => ?_
   | refine ct rfl ?_
   | refine cf rfl ?_
   | refine sk ?_
   | refine rt ?_
   | refine Wp.block ?_
   | dsimp only [cond_true, cond_false]
  refine rz trivial ?_
  exact ⟨by rw [e]; rfl, Ext0.ext⟩⟩
instance K_Parse3 {c m o : UInt8} {H : AHeap} : PureCon ext prog 27 [strV [c, m, o]] H 4 (rT (parseS [c, m, o])) := ⟨by
 refine con_of (show prog 27 = some c27 from rfl) rfl rfl fun n hn => ?_
 obtain ⟨w1, w2, w3, w4⟩ := parse_w c o
 have hl : Lib.indexByte [99, 100, 101, 102, 103, 97, 98] c = letS c := rfl
 have x0 : (⟨#[c, m, o]⟩ : ByteArray)[0]'(show (0 : Nat) < 3 from by decide) = c := rfl
 have wl : IntKind.i64.wrap ((([c, m, o] : Bs).length : Int) - 1) = 2 := rfl
 have x1 : (⟨#[c, m, o]⟩ : ByteArray)[Int.toNat 2]'(show (2 : Nat) < 3 from by decide) = o := rfl
 have yxs : (⟨#[c, m, o]⟩ : ByteArray).extract (Int.toNat 1) (Int.toNat 2) = ⟨#[m]⟩ := rfl
 have e : parseS [c, m, o] = bif m == 35 then parse2 c o 1 else bif m == 98 then parse2 c o (-1) else (0, 0, 5) := rfl
 have d0 : (([m] : Bs) == []) = false := rfl
 unfold parse2 octOk at e
 repeat first
  | refine Fo.lenStr (rfl : _ = strV _) rfl ?_
  | refine Fo.mov (rfl : _ = strV _) ?_
  | (refine mv ?_)
  | (refine bn rfl rfl rfl (by simp only [wl, w1, w2, w3, w4]; rfl) ?_)
  | refine b0 ?_
  | refine nw ?_
  | refine nl hKF ?_
  | refine sq ?_
  | refine rg fun KF hKF => ?_
  | refine cf rfl ?_
  | refine sk ?_
 refine Fr.dregion0 rfl fun KF hKF => ?_
 repeat first
  | (refine Fe.pure rfl rfl (by simp only [x0, x1, w1, w2, w3, w4, hl]; rfl) ?_)
  | (refine Fe.pure rfl rfl (by simp only [↓nrmL, nrmZ, Nat.reduceEqDiff, ↓reduceIte, Nat.reduceAdd, Int.reduceBEq, Int.reduceBNe, x0, x1, w1, w2, w3, w4, hl]; rfl) ?_)
  | (refine Fe.pcall (v' := ?_) rfl hn rfl (by simp only [↓nrmL, nrmZ, Nat.reduceEqDiff, ↓reduceIte, Nat.reduceAdd, Int.reduceBEq, Int.reduceBNe, x0, x1, w1, w2, w3, w4, hl, List.map]; rfl) rfl ?hv fun _ _ => ar ?_; case hv => (simp only [x0, x1, w1, w2, w3, w4, hl]; rfl))
  | refine WpE.nil (hKF _ _ ?_)
 cases m1 : (m == 35)
 case true =>
  rw [m1] at e
  have d1 : (([m] : Bs) == [35]) = true := by simpa using m1
  cases h1 : decide (letS c < 0)
  case true =>
   rw [h1] at e
   simp only [h1, yxs, d0, d1]
   repeat first
    | (refine Fo.eqStr rfl rfl (by simp only [↓nrmL, nrmZ, Nat.reduceEqDiff, ↓reduceIte, Nat.reduceAdd, Int.reduceBEq, Int.reduceBNe, h1, yxs, d0, d1]; rfl) ?_)
    | refine Fo.mov (rfl : _ = strV _) ?_
    | (refine mv ?_)
    | refine ox ?_
    | (refine bn rfl rfl rfl (by simp only [h1, yxs, d0, d1]; rfl) ?_)
    | refine tB ?_
    | (refine ob (cs' := ?_) ?hc ?_; case hc => rfl)
    | (refine Fo.now rfl rfl (by simp only [h1, yxs, d0, d1]; rfl) ?_)
    | (refine so rfl (rfl : _ = AVal.agg _) rfl rfl rfl (by simp only [↓nrmL, nrmZ, Nat.reduceEqDiff, ↓reduceIte, Nat.reduceAdd, Int.reduceBEq, Int.reduceBNe, h1, yxs, d0, d1]; rfl) ?_)
    | refine nl hKF ?_
    | refine sq ?_
    | refine rg fun KF hKF => ?_
    | refine ct rfl ?_
    | refine cf rfl ?_
    | refine rt ?_
    | refine Wp.block ?_
    | dsimp only [cond_true, cond_false]
   refine rz trivial ?_
   exact ⟨by rw [e]; rfl, Ext0.ext⟩
  cases h2 : withinB ((o.toNat : Int) - 48) 0 9
  ·rw [h1, h2] at e
   simp only [h1, h2, yxs, d0, d1]
   repeat first
    | (refine Fo.eqStr rfl rfl (by simp only [↓nrmL, nrmZ, Nat.reduceEqDiff, ↓reduceIte, Nat.reduceAdd, Int.reduceBEq, Int.reduceBNe, h1, h2, yxs, d0, d1]; rfl) ?_)
    | refine Fo.mov (rfl : _ = strV _) ?_
    | (refine mv ?_)
    | refine oy ?_
    | (refine bn rfl rfl rfl (by simp only [h1, h2, yxs, d0, d1]; rfl) ?_)
    | refine fB ?_
    | (refine Fo.pcall (v' := ?_) hn rfl (by simp only [↓nrmL, nrmZ, Nat.reduceEqDiff, ↓reduceIte, Nat.reduceAdd, Int.reduceBEq, Int.reduceBNe, h1, h2, yxs, d0, d1, List.map]; rfl) rfl ?hv fun _ _ => ?_; case hv => (simp only [h1, h2, yxs, d0, d1]; rfl))
    | (refine ob (cs' := ?_) ?hc ?_; case hc => rfl)
    | (refine Fo.now rfl rfl (by simp only [h1, h2, yxs, d0, d1]; rfl) ?_)
    | (refine Fo.now rfl rfl (by simp only [↓nrmL, nrmZ, Nat.reduceEqDiff, ↓reduceIte, Nat.reduceAdd, Int.reduceBEq, Int.reduceBNe, h1, h2, yxs, d0, d1]; rfl) ?_)
    | (refine so rfl (rfl : _ = AVal.agg _) rfl rfl rfl (by simp only [↓nrmL, nrmZ, Nat.reduceEqDiff, ↓reduceIte, Nat.reduceAdd, Int.reduceBEq, Int.reduceBNe, h1, h2, yxs, d0, d1]; rfl) ?_)
    | refine nl hKF ?_
    | refine sq ?_
    | refine rg fun KF hKF => ?_
    | refine ct rfl ?_
    | refine cf rfl ?_
    | refine rt ?_
    | refine Wp.block ?_
    | dsimp only [cond_true, cond_false]
   refine rz trivial ?_
   exact ⟨by rw [e]; rfl, Ext0.ext⟩
  ·rw [h1, h2] at e
   simp only [h1, h2, w3, w4, yxs, d0, d1]
   repeat first
    | (refine Fo.eqStr rfl rfl (by simp only [↓nrmL, nrmZ, Nat.reduceEqDiff, ↓reduceIte, Nat.reduceAdd, Int.reduceBEq, Int.reduceBNe, h1, h2, w3, w4, yxs, d0, d1]; rfl) ?_)
    | refine Fo.mov (rfl : _ = strV _) ?_
    | (refine mv ?_)
    | refine oy ?_
    | (refine bn rfl rfl rfl (by simp only [h1, h2, w3, w4, yxs, d0, d1]; rfl) ?_)
    | refine fB ?_
    | (refine Fo.pcall (v' := ?_) hn rfl (by simp only [↓nrmL, nrmZ, Nat.reduceEqDiff, ↓reduceIte, Nat.reduceAdd, Int.reduceBEq, Int.reduceBNe, h1, h2, w3, w4, yxs, d0, d1, List.map]; rfl) rfl ?hv fun _ _ => ?_; case hv => (simp only [h1, h2, w3, w4, yxs, d0, d1]; rfl))
    | (refine ob (cs' := ?_) ?hc ?_; case hc => (simp only [↓nrmL, nrmZ, Nat.reduceEqDiff, ↓reduceIte, Nat.reduceAdd, Int.reduceBEq, Int.reduceBNe, h1, h2, w3, w4, yxs, d0, d1]; rfl))
    | (refine Fo.now rfl rfl (by simp only [h1, h2, w3, w4, yxs, d0, d1]; rfl) ?_)
    | (refine Fo.now rfl rfl (by simp only [↓nrmL, nrmZ, Nat.reduceEqDiff, ↓reduceIte, Nat.reduceAdd, Int.reduceBEq, Int.reduceBNe, h1, h2, w3, w4, yxs, d0, d1]; rfl) ?_)
    | (refine so rfl (rfl : _ = AVal.agg _) rfl rfl rfl (by simp only [↓nrmL, nrmZ, Nat.reduceEqDiff, ↓reduceIte, Nat.reduceAdd, Int.reduceBEq, Int.reduceBNe, h1, h2, w3, w4, yxs, d0, d1]; rfl) ?_)
    | refine nl hKF ?_
    | refine sq ?_
    | refine rg fun KF hKF => ?_
    | refine ct rfl ?_
    | refine cf rfl ?_
    | refine sk ?_
    | refine rt ?_
    | refine Wp.block ?_
    | dsimp only [cond_true, cond_false]
   refine rz trivial ?_
   exact ⟨by rw [e]; rfl, Ext0.ext⟩
 have d1 : (([m] : Bs) == [35]) = false := by simpa using m1
 rw [m1] at e
 cases m2 : (m == 98)
 case true =>
  rw [m2] at e
  have d2 : (([m] : Bs) == [98]) = true := by simpa using m2
  cases h1 : decide (letS c < 0)
  case true =>
   rw [h1] at e
   simp only [h1, yxs, d0, d1, d2]
   repeat first
    | (refine Fo.eqStr rfl rfl (by simp only [↓nrmL, nrmZ, Nat.reduceEqDiff, ↓reduceIte, Nat.reduceAdd, Int.reduceBEq, Int.reduceBNe, h1, yxs, d0, d1, d2]; rfl) ?_)
    | refine Fo.mov (rfl : _ = strV _) ?_
    | (refine mv ?_)
    | refine ox ?_
    | (refine bn rfl rfl rfl (by simp only [h1, yxs, d0, d1, d2]; rfl) ?_)
    | refine tB ?_
    | (refine ob (cs' := ?_) ?hc ?_; case hc => rfl)
    | (refine Fo.now rfl rfl (by simp only [h1, yxs, d0, d1, d2]; rfl) ?_)
    | (refine so rfl (rfl : _ = AVal.agg _) rfl rfl rfl (by simp only [↓nrmL, nrmZ, Nat.reduceEqDiff, ↓reduceIte, Nat.reduceAdd, Int.reduceBEq, Int.reduceBNe, h1, yxs, d0, d1, d2]; rfl) ?_)
    | refine nl hKF ?_
    | refine sq ?_
    | refine rg fun KF hKF => ?_
    | refine ct rfl ?_
    | refine cf rfl ?_
    | refine rt ?_
    | refine Wp.block ?_
    | dsimp only [cond_true, cond_false]
   refine rz trivial ?_
   exact ⟨by rw [e]; rfl, Ext0.ext⟩
  cases h2 : withinB ((o.toNat : Int) - 48) 0 9
  ·rw [h1, h2] at e
   simp only [h1, h2, yxs, d0, d1, d2]
   repeat first
    | (refine Fo.eqStr rfl rfl (by simp only [↓nrmL, nrmZ, Nat.reduceEqDiff, ↓reduceIte, Nat.reduceAdd, Int.reduceBEq, Int.reduceBNe, h1, h2, yxs, d0, d1, d2]; rfl) ?_)
    | refine Fo.mov (rfl : _ = strV _) ?_
    | (refine mv ?_)
    | refine oy ?_
    | (refine bn rfl rfl rfl (by simp only [h1, h2, yxs, d0, d1, d2]; rfl) ?_)
    | refine fB ?_
    | (refine Fo.pcall (v' := ?_) hn rfl (by simp only [↓nrmL, nrmZ, Nat.reduceEqDiff, ↓reduceIte, Nat.reduceAdd, Int.reduceBEq, Int.reduceBNe, h1, h2, yxs, d0, d1, d2, List.map]; rfl) rfl ?hv fun _ _ => ?_; case hv => (simp only [h1, h2, yxs, d0, d1, d2]; rfl))
    | (refine ob (cs' := ?_) ?hc ?_; case hc => rfl)
    | (refine Fo.now rfl rfl (by simp only [h1, h2, yxs, d0, d1, d2]; rfl) ?_)
    | (refine Fo.now rfl rfl (by simp only [↓nrmL, nrmZ, Nat.reduceEqDiff, ↓reduceIte, Nat.reduceAdd, Int.reduceBEq, Int.reduceBNe, h1, h2, yxs, d0, d1, d2]; rfl) ?_)
    | (refine so rfl (rfl : _ = AVal.agg _) rfl rfl rfl (by simp only [↓nrmL, nrmZ, Nat.reduceEqDiff, ↓reduceIte, Nat.reduceAdd, Int.reduceBEq, Int.reduceBNe, h1, h2, yxs, d0, d1, d2]; rfl) ?_)
    | refine nl hKF ?_
    | refine sq ?_
    | refine rg fun KF hKF => ?_
    | refine ct rfl ?_
    | refine cf rfl ?_
    | refine rt ?_
    | refine Wp.block ?_
    | dsimp only [cond_true, cond_false]
   refine rz trivial ?_
   exact ⟨by rw [e]; rfl, Ext0.ext⟩
  ·rw [h1, h2] at e
   simp only [h1, h2, w3, w4, yxs, d0, d1, d2]
   repeat first
    | (refine Fo.eqStr rfl rfl (by simp only [↓nrmL, nrmZ, Nat.reduceEqDiff, ↓reduceIte, Nat.reduceAdd, Int.reduceBEq, Int.reduceBNe, h1, h2, w3, w4, yxs, d0, d1, d2]; rfl) ?_)
    | refine Fo.mov (rfl : _ = strV _) ?_
    | (refine mv ?_)
    | refine oy ?_
    | (refine bn rfl rfl rfl (by simp only [h1, h2, w3, w4, yxs, d0, d1, d2]; rfl) ?_)
    | refine fB ?_
    | (refine Fo.pcall (v' := ?_) hn rfl (by simp only [↓nrmL, nrmZ, Nat.reduceEqDiff, ↓reduceIte, Nat.reduceAdd, Int.reduceBEq, Int.reduceBNe, h1, h2, w3, w4, yxs, d0, d1, d2, List.map]; rfl) rfl ?hv fun _ _ => ?_; case hv => (simp only [h1, h2, w3, w4, yxs, d0, d1, d2]; rfl))
    | (refine ob (cs' := ?_) ?hc ?_; case hc => (simp only [↓nrmL, nrmZ, Nat.reduceEqDiff, ↓reduceIte, Nat.reduceAdd, Int.reduceBEq, Int.reduceBNe, h1, h2, w3, w4, yxs, d0, d1, d2]; rfl))
    | (refine Fo.now rfl rfl (by simp only [h1, h2, w3, w4, yxs, d0, d1, d2]; rfl) ?_)
    | (refine Fo.now rfl rfl (by simp only [↓nrmL, nrmZ, Nat.reduceEqDiff, ↓reduceIte, Nat.reduceAdd, Int.reduceBEq, Int.reduceBNe, h1, h2, w3, w4, yxs, d0, d1, d2]; rfl) ?_)
    | (refine so rfl (rfl : _ = AVal.agg _) rfl rfl rfl (by simp only [↓nrmL, nrmZ, Nat.reduceEqDiff, ↓reduceIte, Nat.reduceAdd, Int.reduceBEq, Int.reduceBNe, h1, h2, w3, w4, yxs, d0, d1, d2]; rfl) ?_)
    | refine nl hKF ?_
    | refine sq ?_
    | refine rg fun KF hKF => ?_
    | refine ct rfl ?_
    | refine cf rfl ?_
    | refine sk ?_
    | refine rt ?_
    | refine Wp.block ?_
    | dsimp only [cond_true, cond_false]
   refine rz trivial ?_
   exact ⟨by rw [e]; rfl, Ext0.ext⟩
 have d2 : (([m] : Bs) == [98]) = false := by simpa using m2
 rw [m2] at e
 simp only [yxs, d0, d1, d2]
 repeat first
  | (refine Fo.eqStr rfl rfl (by simp only [↓nrmL, nrmZ, Nat.reduceEqDiff, ↓reduceIte, Nat.reduceAdd, Int.reduceBEq, Int.reduceBNe, yxs, d0, d1, d2]; rfl) ?_)
  | refine Fo.mov (rfl : _ = strV _) ?_
  | (refine mv ?_)
  | (refine ob (cs' := ?_) ?hc ?_; case hc => rfl)
  | (refine Fo.now rfl rfl (by simp only [yxs, d0, d1, d2]; rfl) ?_)
  | (refine so rfl (rfl : _ = AVal.agg _) rfl rfl rfl (by simp only [↓nrmL, nrmZ, Nat.reduceEqDiff, ↓reduceIte, Nat.reduceAdd, Int.reduceBEq, Int.reduceBNe, yxs, d0, d1, d2]; rfl) ?_)
  | refine nl hKF ?_
  | refine sq ?_
  | refine rg fun KF hKF => ?_
  | refine cf rfl ?_
  | refine rt ?_
  | refine Wp.block ?_
  | dsimp only [cond_true, cond_false]
 refine rz trivial ?_
 exact ⟨by rw [e]; rfl, Ext0.ext⟩⟩
theorem parseS_none {l : Bs} (h : l.length < 2 ∨ 3 < l.length) : parseS l = (0, 0, 5) := by
 unfold parseS
 split
 ·simp at h
 ·simp at h
 ·rfl
theorem K_ParseX {l : Bs} {H : AHeap} (h : l.length < 2 ∨ 3 < l.length) (hl : l.length ≤ 9223372036854775807) : PureCon ext prog 27 [strV l] H 4 (rT (parseS l)) := ⟨by
 refine con_of (show prog 27 = some c27 from rfl) rfl rfl fun n hn => ?_
 rw [parseS_none h]
 cases h1 : decide ((l.length : Int) < 2)
 case true =>
  repeat first
   | refine Fo.lenStr (rfl : _ = strV _) rfl ?_
   | refine Fo.mov (rfl : _ = strV _) ?_
   | (refine mv ?_)
   | (refine bn rfl rfl rfl (by simp only [h1]; rfl) ?_)
   | refine nw ?_
   | (refine ob (cs' := ?_) ?hc ?_; case hc => rfl)
   | (refine so rfl (rfl : _ = AVal.agg _) rfl rfl rfl (by simp only [↓nrmL, nrmZ, Nat.reduceEqDiff, ↓reduceIte, Nat.reduceAdd, Int.reduceBEq, Int.reduceBNe, h1]; rfl) ?_)
   | refine nl hKF ?_
   | refine sq ?_
   | refine rg fun KF hKF => ?_
   | refine ct rfl ?_
   | refine rt ?_
   | dsimp only [cond_true, cond_false]
  refine rz trivial ?_
  exact ⟨rfl, Ext0.ext⟩
 have := of_decide_eq_false h1
 have w1 : IntKind.i64.wrap ((l.length : Int) - 1) = ((l.length - 1 : Nat) : Int) := by rw [w64r (by omega) (by omega)]; omega
 have hlen : ((l.drop 1).take (l.length - 1 - 1)).length = l.length - 2 := by simp; omega
 have d0 : ((l.drop 1).take (l.length - 1 - 1) == ([] : Bs)) = false := by
  rw [beq_eq_false_iff_ne]; intro hh; rw [hh] at hlen; simp at hlen; omega
 have d1 : ((l.drop 1).take (l.length - 1 - 1) == ([35] : Bs)) = false := by
  rw [beq_eq_false_iff_ne]; intro hh; rw [hh] at hlen; simp at hlen; omega
 have d2 : ((l.drop 1).take (l.length - 1 - 1) == ([98] : Bs)) = false := by
  rw [beq_eq_false_iff_ne]; intro hh; rw [hh] at hlen; simp at hlen; omega
 repeat first
  | refine Fo.lenStr (rfl : _ = strV _) rfl ?_
  | refine Fo.mov (rfl : _ = strV _) ?_
  | (refine mv ?_)
  | (refine bn rfl rfl rfl (by simp only [h1, w1]; rfl) ?_)
  | refine nw ?_
  | refine nl hKF ?_
  | refine sq ?_
  | refine rg fun KF hKF => ?_
  | refine cf rfl ?_
  | refine sk ?_
 refine Fr.dregion0 rfl fun KF hKF => ?_
 refine Fe.pure rfl rfl (by simp only [↓nrmL, nrmZ, Nat.reduceEqDiff, ↓reduceIte, Nat.reduceAdd, Int.reduceBEq, Int.reduceBNe]; rfl) ?_
 refine Fe.pure rfl (exec_idxStr (j := 0) rfl rfl (by omega)) rfl ?_
 refine Fe.pcall (v' := ?_) rfl hn rfl (by simp only [↓nrmL, nrmZ, Nat.reduceEqDiff, ↓reduceIte, Nat.reduceAdd, Int.reduceBEq, Int.reduceBNe, List.map]; rfl) rfl ?hv fun _ _ => ar ?_; case hv => rfl
 refine Fe.pure rfl rfl (by simp only [↓nrmL, nrmZ, Nat.reduceEqDiff, ↓reduceIte, Nat.reduceAdd, Int.reduceBEq, Int.reduceBNe]; rfl) ?_
 refine Fe.pure rfl rfl (by simp only [↓nrmL, nrmZ, Nat.reduceEqDiff, ↓reduceIte, Nat.reduceAdd, Int.reduceBEq, Int.reduceBNe]; rfl) ?_
 refine Fe.pure rfl (exec_idxStr (j := l.length - 1) rfl rfl (by omega)) rfl ?_
 repeat first
  | (refine Fe.pure rfl rfl (by simp only [↓nrmL, nrmZ, Nat.reduceEqDiff, ↓reduceIte, Nat.reduceAdd, Int.reduceBEq, Int.reduceBNe]; rfl) ?_)
  | refine Fe.pure rfl rfl rfl ?_
  | refine WpE.nil (hKF _ _ ?_)
 repeat first
  | refine Fo.mov (rfl : _ = strV _) ?_
  | (refine mv ?_)
  | refine nl hKF ?_
  | refine sq ?_
  | refine rg fun KF hKF => ?_
 refine Fo.slcStr (a := 1) (b := l.length - 1) rfl (Or.inr ⟨_, rfl⟩) (Or.inr ⟨_, rfl⟩) (by omega) (by omega) rfl ?_
 repeat first
  | (refine Fo.eqStr rfl rfl (by simp only [↓nrmL, nrmZ, Nat.reduceEqDiff, ↓reduceIte, Nat.reduceAdd, Int.reduceBEq, Int.reduceBNe, d0, d1, d2]; rfl) ?_)
  | (refine mv ?_)
  | (refine ob (cs' := ?_) ?hc ?_; case hc => rfl)
  | (refine so rfl (rfl : _ = AVal.agg _) rfl rfl rfl (by simp only [↓nrmL, nrmZ, Nat.reduceEqDiff, ↓reduceIte, Nat.reduceAdd, Int.reduceBEq, Int.reduceBNe, d0, d1, d2]; rfl) ?_)
  | refine nl hKF ?_
  | refine sq ?_
  | refine rg fun KF hKF => ?_
  | refine cf rfl ?_
  | refine rt ?_
  | refine Wp.block ?_
  | dsimp only [cond_true, cond_false]
 refine rz trivial ?_
 exact ⟨rfl, Ext0.ext⟩⟩
end Go.Am
namespace Go.Am
open Go
attribute [local irreducible] Wp WpO WpX WpE
end Go.Am
namespace Go.Am
open Go
attribute [local irreducible] Wp WpO WpX WpE
theorem len23 {l : Bs} (h : ¬ (l.length < 2 ∨ 3 < l.length)) : (∃ c o, l = [c, o]) ∨ ∃ c m o, l = [c, m, o] := by
 match l with
 | [] => simp at h
 | [_] => simp at h
 | [c, o] => exact Or.inl ⟨c, o, rfl⟩
 | [c, m, o] => exact Or.inr ⟨c, m, o, rfl⟩
 | _ :: _ :: _ :: _ :: r => simp at h
theorem K_ParseAll {l : Bs} (hl : l.length ≤ 9223372036854775807) {H : AHeap} : PureCon ext prog 27 [strV l] H 4 (rT (parseS l)) := by
 by_cases h : l.length < 2 ∨ 3 < l.length
 ·exact K_ParseX h hl
 ·rcases len23 h with ⟨c, o, rfl⟩ | ⟨c, m, o, rfl⟩
  ·infer_instance
  ·infer_instance
theorem bbS (t : Bs) : (t == t) = true := by simp
class StrL (s : ByteArray) : Prop where
 le : s.size ≤ 9223372036854775807
end Go.Am
namespace Go.Am
open Go
attribute [local irreducible] Wp WpO WpX WpE
theorem nameF0 : ∀ p : Fin 70, ∀ a : Fin 3, parseS (nameL (p.val : Int) ((a.val : Int) - 1)) = ((p.val : Int), (a.val : Int) - 1, 0) := by decide +kernel
theorem letB_all : ((List.range 256).all fun n => decide (letS (UInt8.ofNat n) < 0) || letB (letS (UInt8.ofNat n)).toNat == UInt8.ofNat n) = true := by decide +kernel
theorem letB_let (c : UInt8) (h : 0 ≤ letS c) : letB (letS c).toNat = c := by
 have h1 := List.all_eq_true.1 letB_all c.toNat (List.mem_range.2 c.toNat_lt)
 rw [UInt8.ofNat_toNat] at h1
 simp only [Bool.or_eq_true, decide_eq_true_eq, beq_iff_eq] at h1
 rcases h1 with h1 | h1
 ·omega
 ·exact h1
theorem parse2_is {c o : UInt8} {a x y : Int} (h : parse2 c o a = (x, y, 0)) : 0 ≤ x ∧ x ≤ 69 ∧ y = a ∧ letB (x % 7).toNat = c ∧ octB x = o := by
 unfold parse2 at h
 cases hb : decide (letS c < 0) || !octOk o
 ·rw [hb] at h
  simp only [cond_false, Prod.mk.injEq] at h
  obtain ⟨h1, h2, _⟩ := h
  simp only [Bool.or_eq_false_iff, decide_eq_false_iff_not, Bool.not_eq_false'] at hb
  obtain ⟨g1, g2⟩ := hb
  have g3 := letS_le c
  unfold octOk withinB at g2
  simp only [Bool.and_eq_true, decide_eq_true_eq] at g2
  have e1 : x % 7 = letS c := by omega
  have e2 : x / 7 = (o.toNat : Int) - 48 := by omega
  refine ⟨by omega, by omega, h2.symm, by rw [e1]; exact letB_let c (by omega), ?_⟩
  unfold octB
  rw [e2]
  apply UInt8.toNat_inj.1
  have := o.toNat_lt
  have e3 : (48 + ((o.toNat : Int) - 48).toNat) = o.toNat := by omega
  rw [e3]
  simp
 ·rw [hb] at h
  simp at h
theorem parse_is {l : Bs} {x y : Int} (h : parseS l = (x, y, 0)) : nameS x y = (l, 0) := by
 have key : pitchB x y = true ∧ nameL x y = l := by
  match l, h with
  | [], h => cases h
  | [_], h => cases h
  | [c, o], h =>
   obtain ⟨h1, h2, rfl, h4, h5⟩ := parse2_is (show parse2 c o 0 = _ from h)
   exact ⟨pitch_true h1 h2 (by decide) (by decide), by unfold nameL; rw [h4, h5]; rfl⟩
  | [c, m, o], h =>
   have h' : (bif m == 35 then parse2 c o 1 else bif m == 98 then parse2 c o (-1) else (0, 0, 5)) = (x, y, 0) := h
   cases m1 : m == 35
   ·rw [m1] at h'
    cases m2 : m == 98
    ·rw [m2] at h'
     simp at h'
    ·rw [m2] at h'
     obtain ⟨h1, h2, rfl, h4, h5⟩ := parse2_is (show parse2 c o (-1) = _ from h')
     have := eq_of_beq m2
     exact ⟨pitch_true h1 h2 (by decide) (by decide), by unfold nameL; rw [h4, h5, this]; rfl⟩
   ·rw [m1] at h'
    obtain ⟨h1, h2, rfl, h4, h5⟩ := parse2_is (show parse2 c o 1 = _ from h')
    have := eq_of_beq m1
    exact ⟨pitch_true h1 h2 (by decide) (by decide), by unfold nameL; rw [h4, h5, this]; rfl⟩
  | _ :: _ :: _ :: _ :: _, h => cases h
 unfold nameS
 rw [key.1, key.2]; rfl
theorem dig_inj {a b : Nat} (ha : a < 100) (hb : b < 100) (h : digL a = digL b) : a = b := by
 have h1 := dig_atoi ⟨a, ha⟩
 have h2 := dig_atoi ⟨b, hb⟩
 simp only at h1 h2
 rw [h, h2] at h1
 omega
theorem q_inj {p : Bool} {e e' : Int} (h : qualL p e = qualL p e') (hn : qualL p e ≠ []) : e = e' := by
 revert h hn
 unfold qualL
 repeat' split
 all_goals first
  | (intro h hn; omega)
  | (intro h hn; cases h; done)
  | (intro h hn; exact absurd rfl hn)
  | (intro h hn; simp at h; done)
theorem title_all {i s : Int} {l : Bs} (h : titleS i s = (l, 0)) : stepB (upI i s) = true ∧ qualL (perfB (upI i s)) (upS i s - natI (upI i s)) ≠ [] ∧ l = (bif downB i s then [45] else []) ++ (qualL (perfB (upI i s)) (upS i s - natI (upI i s)) ++ digL (upI i s + 1).toNat) := by
 unfold titleS at h
 cases hb : titleB i s
 ·rw [hb] at h; cases h
 rw [hb] at h
 simp only [cond_true, Prod.mk.injEq, and_true] at h
 unfold titleB at hb
 simp only [Bool.and_eq_true, Bool.not_eq_true'] at hb
 refine ⟨hb.1.2, fun q => by rw [q] at hb; simp at hb, ?_⟩
 rw [← h]
 unfold titleL
 rw [List.append_assoc]
theorem title_inj {i s j t : Int} {l : Bs} (h : titleS i s = (l, 0)) (h' : titleS j t = (l, 0)) : i = j ∧ s = t := by
 obtain ⟨a1, a2, a3⟩ := title_all h
 obtain ⟨b1, b2, b3⟩ := title_all h'
 have a4 := q_len (perfB (upI i s)) (upS i s - natI (upI i s))
 have b4 := q_len (perfB (upI j t)) (upS j t - natI (upI j t))
 have a5 := q_chars (perfB (upI i s)) (upS i s - natI (upI i s))
 have b5 := q_chars (perfB (upI j t)) (upS j t - natI (upI j t))
 obtain ⟨c, hc⟩ : ∃ c, qualL (perfB (upI i s)) (upS i s - natI (upI i s)) = [c] := by
  match hq : qualL (perfB (upI i s)) (upS i s - natI (upI i s)), a4 with
  | [], _ => exact absurd hq a2
  | [c], _ => exact ⟨c, rfl⟩
  | _ :: _ :: _, h => simp at h
 obtain ⟨d, hd⟩ : ∃ d, qualL (perfB (upI j t)) (upS j t - natI (upI j t)) = [d] := by
  match hq : qualL (perfB (upI j t)) (upS j t - natI (upI j t)), b4 with
  | [], _ => exact absurd hq b2
  | [c], _ => exact ⟨c, rfl⟩
  | _ :: _ :: _, h => simp at h
 have hc45 := a5 c (by rw [hc]; simp)
 have hd45 := b5 d (by rw [hd]; simp)
 rw [hc] at a3
 rw [hd] at b3
 rw [a3] at b3
 have s1 := stepI_of a1
 have s2 := stepI_of b1
 have k1 := s1.lo; have k2 := s1.hi; have k3 := s2.lo; have k4 := s2.hi
 have key : ∀ (w : Bool), c = d → digL (upI i s + 1).toNat = digL (upI j t + 1).toNat → downB i s = w → downB j t = w → i = j ∧ s = t := by
  intro w e1 e2 e3 e4
  have e5 : upI i s = upI j t := by have := dig_inj (by omega) (by omega) e2; omega
  have e6 : upS i s = upS j t := by
   rw [← e5, ← e1, ← hc] at hd
   have := q_inj hd.symm (by rw [hc]; simp)
   omega
  unfold upI at e5
  unfold upS at e6
  rw [e3, e4] at e5 e6
  cases w
  ·exact ⟨e5, e6⟩
  ·simp only [cond_true] at e5 e6
   exact ⟨by omega, by omega⟩
 cases d1 : downB i s <;> cases d2 : downB j t
 ·rw [d1, d2] at b3
  simp only [cond_false, List.nil_append, List.cons_append, List.cons.injEq] at b3
  exact key false b3.1 b3.2 d1 d2
 ·rw [d1, d2] at b3
  simp only [cond_false, cond_true, List.nil_append, List.cons_append, List.cons.injEq] at b3
  exact absurd b3.1 hc45
 ·rw [d1, d2] at b3
  simp only [cond_false, cond_true, List.nil_append, List.cons_append, List.cons.injEq] at b3
  exact absurd b3.1.symm hd45
 ·rw [d1, d2] at b3
  simp only [cond_true, List.nil_append, List.cons_append, List.cons.injEq] at b3
  exact key true b3.2.1 b3.2.2 d1 d2
theorem min_down {i s : Int} {l : Bs} (h : titleS i s = (l, 0)) : minB l = downB i s := by
 obtain ⟨_, _, a3⟩ := title_all h
 obtain ⟨c, hc, _, hl⟩ := title_is (i := i) (s := s) (l := l) (by rw [h]) (by rw [h])
 cases d : downB i s
 ·rw [d] at hl
  rw [hl]
  unfold minB
  simpa using hc
 ·rw [d] at hl
  rw [hl]
  rfl
theorem title_hit {i s : Int} {l : Bs} (h : titleS i s = (l, 0)) : ∃ n e : Int, -2 ≤ e ∧ e ≤ 1 ∧ hitB l (minB l) n e = true := by
 obtain ⟨a1, a2, _⟩ := title_all h
 have hm := min_down h
 refine ⟨upI i s, upS i s - natI (upI i s), ?_, ?_, ?_⟩
 ·apply Classical.byContradiction
  intro q
  apply a2
  unfold qualL
  repeat' split
  all_goals first | rfl | omega
 ·apply Classical.byContradiction
  intro q
  apply a2
  unfold qualL
  repeat' split
  all_goals first | rfl | omega
 ·have e1 : candI (minB l) (upI i s) (upS i s - natI (upI i s)) = i := by
   unfold candI upI; rw [hm]; cases downB i s <;> simp
  have e2 : candS (minB l) (upI i s) (upS i s - natI (upI i s)) = s := by
   have e3 : natI (upI i s) + (upS i s - natI (upI i s)) = upS i s := by omega
   unfold candS; rw [e3, hm]; unfold upS; cases downB i s <;> simp
  unfold hitB
  rw [e1, e2, h]
  simp
theorem hit_title {l : Bs} {w : Bool} {n e : Int} (h : hitB l w n e = true) : titleS (candI w n e) (candS w n e) = (l, 0) := by
 unfold hitB at h
 simp only [Bool.and_eq_true, beq_iff_eq] at h
 exact Prod.ext h.2 h.1
theorem soundF {c p a k : Int} (hc : 1 ≤ c) (hc' : c ≤ 3) (hp : 0 ≤ p) (hp' : p ≤ 69) (ha : -1 ≤ a) (ha' : a ≤ 1) (hk : -4 ≤ k) (hk' : k ≤ 4) :
  ∃ at' : Int, staffS c p a = (at', 0) ∧ soundS c k at' (bif a == -1 then 2 else bif a == 0 then 3 else 1) = (p, a, 0) ∧ soundS c k at' 0 = (p, alterS k p, 0) ∧ alterR k p = (alterS k p, 0) := by
 have key : ∀ w : Int, baseS c = (w, 0) → 0 ≤ w → w ≤ 30 → ∃ at' : Int, staffS c p a = (at', 0) ∧ soundS c k at' (bif a == -1 then 2 else bif a == 0 then 3 else 1) = (p, a, 0) ∧ soundS c k at' 0 = (p, alterS k p, 0) ∧ alterR k p = (alterS k p, 0) := by
  intro w hb h0 h3
  have g1 : w6 (0 - w) = 0 - w := w6r (by omega) (by omega)
  have g2 : w6 (69 - w) = 69 - w := w6r (by omega) (by omega)
  have g3 : w6 (w + (p - w)) = p := by rw [w6r (by omega) (by omega)]; omega
  have g4 : withinB (p - w) (0 - w) (69 - w) = true := by rw [wthn_eq, decide_eq_true ⟨by omega, by omega⟩]
  have g5 : w6 (p - w) = p - w := w6r (by omega) (by omega)
  have gk := key_true hk hk'
  refine ⟨p - w, ?_, ?_, ?_, ?_⟩
  ·unfold staffS; rw [hb, pitch_true hp hp' ha ha', g5]; rfl
  ·unfold soundS
   rw [hb, gk, g1, g2, g4, g3]
   rcases (by omega : a = -1 ∨ a = 0 ∨ a = 1) with rfl | rfl | rfl <;> rfl
  ·unfold soundS
   rw [hb, gk, g1, g2, g4, g3]; rfl
  ·unfold alterR; rw [gk, step_true hp hp']; rfl
 rcases (by omega : c = 1 ∨ c = 2 ∨ c = 3) with rfl | rfl | rfl
 ·exact key 30 rfl (by decide) (by decide)
 ·exact key 24 rfl (by decide) (by decide)
 ·exact key 18 rfl (by decide) (by decide)
end Go.Am
namespace Go.Am
open Go
attribute [local irreducible] Wp WpO WpX WpE
theorem Wp.cut {call : ACall} {lf : Nat} {fr : AFrame} {H : AHeap} {Q : RExit → AFrame → AHeap → Prop} {a : RCode} (L : List (Nat × AVal)) (PH : AHeap → Prop) (h1 : ∀ g H', PH H' → Q .normal (updL L g) H') (h2 : Wp call lf a fr H fun x fr' H' => match x with | .normal => agrees L fr' ∧ PH H' | e => Q e fr' H') : Wp call lf a fr H Q :=
 Wp.mono h2 fun x fr' H' h => by
  cases x with
  | normal =>
   obtain ⟨h3, h4⟩ := h
   have := h1 fr' H' h4
   rwa [updL_agrees h3] at this
  | exit id => exact h
  | ret => exact h
theorem read_is {l : Bs} {v : AVal} (h : ReadR l v) : ∃ x y z : Int, v = .tuple [.agg [.int .i64 x, .int .i64 y], .int .i64 z] ∧ ((z == 0) = true → titleS x y = (l, 0)) := by
 rcases h with ⟨n, e, _, _, _, _, hh, rfl⟩ | ⟨_, rfl⟩
 ·exact ⟨_, _, _, rfl, fun _ => hit_title hh⟩
 ·exact ⟨_, _, _, rfl, fun q => by cases q⟩
theorem read_of {l : Bs} {v : AVal} {i s : Int} (h : ReadR l v) (ht : titleS i s = (l, 0)) : v = .tuple [.agg [.int .i64 i, .int .i64 s], .int .i64 0] := by
 rcases h with ⟨n, e, _, _, _, _, hh, rfl⟩ | ⟨hno, rfl⟩
 ·obtain ⟨e1, e2⟩ := title_inj ht (hit_title hh)
  rw [e1, e2]
 ·obtain ⟨n, e, h1, h2, h3⟩ := title_hit ht
  rw [hno n e h1 h2] at h3; cases h3
theorem name_len (p a : Int) : (nameL p a).length ≤ 9223372036854775807 := by
 unfold nameL marB
 cases a == 1 <;> cases a == -1 <;> simp
theorem title_len {i s : Int} {l : Bs} (h : titleS i s = (l, 0)) : Len47 l := ⟨by
 obtain ⟨_, _, h3⟩ := title_all h
 have h1 := q_len (perfB (upI i s)) (upS i s - natI (upI i s))
 have h2 := dig_len (upI i s + 1).toNat
 rw [h3]
 cases downB i s <;> simp <;> omega⟩
theorem K_ToneNames {a b c k : Nat} {x1 x2 : Int} {s : Bs} {H : AHeap} [hE : ErrsI H] [hl : Len47 s] (r1 : -128 ≤ x1) (r2 : x1 ≤ 127) (r3 : -128 ≤ x2) (r4 : x2 ≤ 127) : Con ext prog 9 12 [.int .u8 (a : Int), .int .u8 (b : Int), .int .i8 x1, .int .i8 x2, strV s, .int .u8 (c : Int), .int .u8 (k : Int)] H fun v H' => v = .bool true ∧ Ext H H' := by
 refine con_of (show prog 12 = some c12 from rfl) rfl rfl fun m hn => ?_
 have hsl := hl.le
 have t1 : ((a : Nat) : Int).tmod 70 = ((a % 70 : Nat) : Int) := rfl
 have t2 : ((b : Nat) : Int).tmod 3 = ((b % 3 : Nat) : Int) := rfl
 have ha := Nat.mod_lt a (show 0 < 70 by decide)
 have hb := Nat.mod_lt b (show 0 < 3 by decide)
 obtain ⟨P, hP⟩ : ∃ P, a % 70 = P := ⟨_, rfl⟩
 obtain ⟨B, hB⟩ : ∃ B, b % 3 = B := ⟨_, rfl⟩
 rw [hP] at t1 ha
 rw [hB] at t2 hb
 have w1 : IntKind.i64.wrap ((P : Nat) : Int) = (P : Int) := w64r (by omega) (by omega)
 have w2 : IntKind.i64.wrap ((B : Nat) : Int) = (B : Int) := w64r (by omega) (by omega)
 obtain ⟨A, hA⟩ : ∃ A : Int, (B : Int) - 1 = A := ⟨_, rfl⟩
 have w3 : IntKind.i64.wrap (((B : Nat) : Int) - 1) = A := by rw [w64r (by omega) (by omega)]; exact hA
 have f1 : nameS (P : Int) A = (nameL (P : Int) A, 0) := by
  unfold nameS; rw [pitch_true (by omega) (by omega) (by omega) (by omega)]; rfl
 have f2 : parseS (nameL (P : Int) A) = ((P : Int), A, 0) := by
  have := nameF0 ⟨P, ha⟩ ⟨B, hb⟩
  simp only at this
  rw [hA] at this
  exact this
 have i1 : ∀ {H : AHeap}, PureCon ext prog 27 [strV (nameL (P : Int) A)] H 4 (rT (parseS (nameL (P : Int) A))) := K_ParseAll (name_len _ _)
 have i2 : ∀ {H : AHeap}, PureCon ext prog 27 [strV s] H 4 (rT (parseS s)) := K_ParseAll (by omega)
 haveI := @i1
 haveI := @i2
 obtain ⟨qx, qy, qz, hq⟩ : ∃ x y z, parseS s = (x, y, z) := ⟨_, _, _, rfl⟩
 have bb := bbS s
 repeat first
  | refine Fo.mov (rfl : _ = strV _) ?_
  | (refine mv ?_)
  | refine oy ?_
  | (refine Fo.ldN rfl rfl (by simp only [↓nrmL, nrmZ, Nat.reduceEqDiff, ↓reduceIte, Nat.reduceAdd, Int.reduceBEq, Int.reduceBNe, t1, t2, w1, w2, w3, f1, f2]; rfl) ?_)
  | (refine bn rfl rfl rfl (by simp only [t1, t2, w1, w2, w3, f1, f2]; rfl) ?_)
  | (refine bn rfl rfl rfl (by simp only [↓nrmL, nrmZ, Nat.reduceEqDiff, ↓reduceIte, Nat.reduceAdd, Int.reduceBEq, Int.reduceBNe, t1, t2, w1, w2, w3, f1, f2]; rfl) ?_)
  | refine fB ?_
  | refine xt ?_
  | (refine Fo.pcall (v' := ?_) hn rfl (by simp only [↓nrmL, nrmZ, Nat.reduceEqDiff, ↓reduceIte, Nat.reduceAdd, Int.reduceBEq, Int.reduceBNe, t1, t2, w1, w2, w3, f1, f2, List.map]; rfl) rfl ?hv fun _ _ => ?_; case hv => (simp only [t1, t2, w1, w2, w3, f1, f2]; rfl))
  | refine nw ?_
  | (refine ob (cs' := ?_) ?hc ?_; case hc => (simp only [↓nrmL, nrmZ, Nat.reduceEqDiff, ↓reduceIte, Nat.reduceAdd, Int.reduceBEq, Int.reduceBNe, t1, t2, w1, w2, w3, f1, f2]; rfl))
  | (refine Fo.now rfl rfl (by simp only [t1, t2, w1, w2, w3, f1, f2]; rfl) ?_)
  | (refine so rfl (rfl : _ = AVal.agg _) rfl rfl rfl (by simp only [t1, t2, w1, w2, w3, f1, f2]; rfl) ?_)
  | (refine so rfl (rfl : _ = AVal.agg _) rfl rfl rfl (by simp only [↓nrmL, nrmZ, Nat.reduceEqDiff, ↓reduceIte, Nat.reduceAdd, Int.reduceBEq, Int.reduceBNe, t1, t2, w1, w2, w3, f1, f2]; rfl) ?_)
  | refine nl hKF ?_
  | refine sq ?_
  | refine rg fun KF hKF => ?_
  | dsimp only [cond_true, cond_false]
 refine Fo.now rfl (exec_eqT rfl rfl (aEq_same _ _)) rfl ?_
 simp only [t1, t2, w1, w2, w3, f1, f2, hq]
 repeat first
  | refine Fo.mov (rfl : _ = strV _) ?_
  | (refine mv ?_)
  | refine b0 ?_
  | refine fB ?_
  | refine xt ?_
  | (refine Fo.pcall (v' := ?_) hn rfl (by simp only [↓nrmL, nrmZ, Nat.reduceEqDiff, ↓reduceIte, Nat.reduceAdd, Int.reduceBEq, Int.reduceBNe, t1, t2, w1, w2, w3, f1, f2, hq, List.map]; rfl) rfl ?hv fun _ _ => ?_; case hv => (simp only [t1, t2, w1, w2, w3, f1, f2, hq]; rfl))
  | refine nw ?_
  | (refine so rfl (rfl : _ = AVal.agg _) rfl rfl rfl (by simp only [t1, t2, w1, w2, w3, f1, f2, hq]; rfl) ?_)
  | refine nl hKF ?_
  | refine sq ?_
  | refine rg fun KF hKF => ?_
  | refine cf rfl ?_
  | refine sk ?_
  | dsimp only [cond_true, cond_false]
 refine Wp.cut [(0, .int .u8 (a : Int)), (1, .int .u8 (b : Int)), (2, .int .i8 x1), (3, .int .i8 x2), (4, strV s), (5, .int .u8 (c : Int)), (6, .int .u8 (k : Int)), (15, .ptr H.n 0)] (fun H' => HasRow H' H.n [.int .i64 (P : Int), .int .i64 A] true (2 * 38) ∧ Ext H H') ?_ ?_
 rotate_left
 ·cases z1 : (qz == 0)
  ·skip
   simp only [↓nrmL, nrmZ, Nat.reduceEqDiff, ↓reduceIte, Nat.reduceAdd, Int.reduceBEq, Int.reduceBNe, z1]
   refine cf rfl ?_
   refine sk ?_
   dsimp only [cond_true, cond_false]
   exact ⟨⟨rfl, rfl, rfl, rfl, rfl, rfl, rfl, rfl, trivial⟩, inferInstance, Ext0.ext⟩
  ·have hz : qz = 0 := eq_of_beq z1
   have f3 := parse_is (hz ▸ hq)
   simp only [↓nrmL, nrmZ, Nat.reduceEqDiff, ↓reduceIte, Nat.reduceAdd, Int.reduceBEq, Int.reduceBNe, z1, f3, bb]
   repeat first
    | (refine Fo.neStr rfl rfl (by simp only [↓nrmL, nrmZ, Nat.reduceEqDiff, ↓reduceIte, Nat.reduceAdd, Int.reduceBEq, Int.reduceBNe, z1, f3, bb]; rfl) ?_)
    | refine Fo.mov (rfl : _ = strV _) ?_
    | (refine mv ?_)
    | refine oy ?_
    | (refine Fo.ldN rfl rfl (by simp only [↓nrmL, nrmZ, Nat.reduceEqDiff, ↓reduceIte, Nat.reduceAdd, Int.reduceBEq, Int.reduceBNe, z1, f3, bb]; rfl) ?_)
    | (refine bn rfl rfl rfl (by simp only [↓nrmL, nrmZ, Nat.reduceEqDiff, ↓reduceIte, Nat.reduceAdd, Int.reduceBEq, Int.reduceBNe, z1, f3, bb]; rfl) ?_)
    | refine fB ?_
    | refine xt ?_
    | (refine Fo.pcall (v' := ?_) hn rfl (by simp only [↓nrmL, nrmZ, Nat.reduceEqDiff, ↓reduceIte, Nat.reduceAdd, Int.reduceBEq, Int.reduceBNe, z1, f3, bb, List.map]; rfl) rfl ?hv fun _ _ => ?_; case hv => (simp only [z1, f3, bb]; rfl))
    | refine nl hKF ?_
    | refine sq ?_
    | refine rg fun KF hKF => ?_
    | refine ct rfl ?_
    | refine cf rfl ?_
    | refine sk ?_
    | dsimp only [cond_true, cond_false]
   exact ⟨⟨rfl, rfl, rfl, rfl, rfl, rfl, rfl, rfl, trivial⟩, inferInstance, Ext0.ext⟩
 clear i1 i2
 rintro g H2 ⟨hr, hx⟩
 haveI := hr
 haveI : ExtI H H2 := ⟨hx⟩
 haveI hE2 : ErrsI H2 := ⟨hE.it.ext hx⟩
 simp only [updL]
 obtain ⟨I, hI⟩ : ∃ I, x1.tmod 70 = I := ⟨_, rfl⟩
 have u1 : IntKind.i64.wrap x1 = x1 := w64r (by omega) (by omega)
 have u2 : IntKind.i64.wrap x2 = x2 := w64r (by omega) (by omega)
 obtain ⟨tl, te, ht⟩ : ∃ l e, titleS I x2 = (l, e) := ⟨_, _, rfl⟩
 repeat first
  | refine Fo.mov (rfl : _ = strV _) ?_
  | (refine mv ?_)
  | (refine Fo.ldN rfl rfl (by simp only [↓nrmL, nrmZ, Nat.reduceEqDiff, ↓reduceIte, Nat.reduceAdd, Int.reduceBEq, Int.reduceBNe, u1, u2, hI, ht]; rfl) ?_)
  | (refine bn rfl rfl rfl (by simp only [u1, u2, hI, ht]; rfl) ?_)
  | refine b0 ?_
  | refine xt ?_
  | (refine Fo.pcall (v' := ?_) hn rfl (by simp only [↓nrmL, nrmZ, Nat.reduceEqDiff, ↓reduceIte, Nat.reduceAdd, Int.reduceBEq, Int.reduceBNe, u1, u2, hI, ht, List.map]; rfl) rfl ?hv fun _ _ => ?_; case hv => (simp only [u1, u2, hI, ht]; rfl))
  | refine nw ?_
  | (refine ob (cs' := ?_) ?hc ?_; case hc => (simp only [↓nrmL, nrmZ, Nat.reduceEqDiff, ↓reduceIte, Nat.reduceAdd, Int.reduceBEq, Int.reduceBNe, u1, u2, hI, ht]; rfl))
  | (refine Fo.now rfl rfl (by simp only [u1, u2, hI, ht]; rfl) ?_)
  | (refine so rfl (rfl : _ = AVal.agg _) rfl rfl rfl (by simp only [↓nrmL, nrmZ, Nat.reduceEqDiff, ↓reduceIte, Nat.reduceAdd, Int.reduceBEq, Int.reduceBNe, u1, u2, hI, ht]; rfl) ?_)
  | refine nl hKF ?_
  | refine sq ?_
  | refine rg fun KF hKF => ?_
  | dsimp only [cond_true, cond_false]
 refine Wp.cut [(0, .int .u8 (a : Int)), (1, .int .u8 (b : Int)), (2, .int .i8 x1), (3, .int .i8 x2), (4, strV s), (5, .int .u8 (c : Int)), (6, .int .u8 (k : Int)), (15, .ptr H.n 0)] (fun H' => HasRow H' H.n [.int .i64 (P : Int), .int .i64 A] true (2 * 38) ∧ Ext H H') ?_ ?_
 rotate_left
 ·cases z1 : (te == 0)
  ·skip
   refine cf rfl ?_
   refine sk ?_
   dsimp only [cond_true, cond_false]
   exact ⟨⟨rfl, rfl, rfl, rfl, rfl, rfl, rfl, rfl, trivial⟩, inferInstance, Ext0.ext⟩
  ·have hz : te = 0 := eq_of_beq z1
   rw [hz] at ht
   haveI := title_len ht
   refine ct rfl ?_
   refine sq ?_
   refine rg fun KF hKF => ?_
   refine Fo.mov (rfl : _ = strV _) ?_
   refine WpO.do (WpX.conD hn rfl rfl (by simp only [↓nrmL, nrmZ, Nat.reduceEqDiff, ↓reduceIte, Nat.reduceAdd, Int.reduceBEq, Int.reduceBNe, List.map] <;> rfl) (K_Read (hE := ⟨hE2.it.ext Ext0.ext⟩) (l := tl)) fun v H3 h5 => ?_)
   obtain ⟨h5, hx3⟩ := h5
   have := read_of h5 ht
   subst this
   haveI : ExtI _ H3 := ⟨hx3⟩
   repeat first
    | (refine mv ?_)
    | refine oy ?_
    | (refine Fo.ldN rfl rfl (by simp only [↓nrmL, nrmZ, Nat.reduceEqDiff, ↓reduceIte, Nat.reduceAdd, Int.reduceBEq, Int.reduceBNe]; rfl) ?_)
    | (refine bn rfl rfl rfl (by simp only [↓nrmL, nrmZ, Nat.reduceEqDiff, ↓reduceIte, Nat.reduceAdd, Int.reduceBEq, Int.reduceBNe]; rfl) ?_)
    | refine xt ?_
    | refine nw ?_
    | (refine so rfl (rfl : _ = AVal.agg _) rfl rfl rfl (by simp only [↓nrmL, nrmZ, Nat.reduceEqDiff, ↓reduceIte, Nat.reduceAdd, Int.reduceBEq, Int.reduceBNe]; rfl) ?_)
    | refine nl hKF ?_
    | refine sq ?_
    | refine rg fun KF hKF => ?_
   refine Fo.now rfl (exec_eqT rfl rfl (aEq_same _ _)) rfl ?_
   refine fB ?_
   refine nl hKF ?_
   refine cf rfl ?_
   refine sk ?_
   dsimp only [cond_true, cond_false]
   exact ⟨⟨rfl, rfl, rfl, rfl, rfl, rfl, rfl, rfl, trivial⟩, inferInstance, (Ext0.ext : Ext H _)⟩
 rintro g H2 ⟨hr, hx⟩
 haveI := hr
 haveI : ExtI H H2 := ⟨hx⟩
 haveI hE2 : ErrsI H2 := ⟨hE.it.ext hx⟩
 simp only [updL]
 refine sq ?_
 refine sq ?_
 refine rg fun KF hKF => ?_
 refine Fo.mov (rfl : _ = strV _) ?_
 refine WpO.do (WpX.conD hn rfl rfl (by simp only [↓nrmL, nrmZ, Nat.reduceEqDiff, ↓reduceIte, Nat.reduceAdd, Int.reduceBEq, Int.reduceBNe, List.map] <;> rfl) (K_Read (hE := ⟨hE2.it.ext Ext0.ext⟩) (l := s)) fun v H3 h5 => ?_)
 obtain ⟨h5, hx3⟩ := h5
 obtain ⟨rx, ry, yrz, rfl, hread⟩ := read_is h5
 haveI : ExtI _ H3 := ⟨hx3⟩
 repeat first
  | (refine mv ?_)
  | refine b0 ?_
  | refine xt ?_
  | refine nw ?_
  | (refine so rfl (rfl : _ = AVal.agg _) rfl rfl rfl (by simp only [↓nrmL, nrmZ, Nat.reduceEqDiff, ↓reduceIte, Nat.reduceAdd, Int.reduceBEq, Int.reduceBNe]; rfl) ?_)
  | refine nl hKF ?_
  | refine sq ?_
  | refine rg fun KF hKF => ?_
  | dsimp only [cond_true, cond_false]
 refine Wp.cut [(0, .int .u8 (a : Int)), (1, .int .u8 (b : Int)), (2, .int .i8 x1), (3, .int .i8 x2), (4, strV s), (5, .int .u8 (c : Int)), (6, .int .u8 (k : Int)), (15, .ptr H.n 0)] (fun H' => HasRow H' H.n [.int .i64 (P : Int), .int .i64 A] true (2 * 38) ∧ Ext H H') ?_ ?_
 rotate_left
 ·cases z1 : (yrz == 0)
  ·skip
   refine cf rfl ?_
   refine sk ?_
   dsimp only [cond_true, cond_false]
   exact ⟨⟨rfl, rfl, rfl, rfl, rfl, rfl, rfl, rfl, trivial⟩, inferInstance, (Ext0.ext : Ext H _)⟩
  ·have f4 := hread z1
   repeat first
    | (refine Fo.neStr rfl rfl (by simp only [↓nrmL, nrmZ, Nat.reduceEqDiff, ↓reduceIte, Nat.reduceAdd, Int.reduceBEq, Int.reduceBNe, z1, f4, bb]; rfl) ?_)
    | refine Fo.mov (rfl : _ = strV _) ?_
    | (refine mv ?_)
    | refine oy ?_
    | (refine Fo.ldN rfl rfl (by simp only [↓nrmL, nrmZ, Nat.reduceEqDiff, ↓reduceIte, Nat.reduceAdd, Int.reduceBEq, Int.reduceBNe, z1, f4, bb]; rfl) ?_)
    | (refine bn rfl rfl rfl (by simp only [↓nrmL, nrmZ, Nat.reduceEqDiff, ↓reduceIte, Nat.reduceAdd, Int.reduceBEq, Int.reduceBNe, z1, f4, bb]; rfl) ?_)
    | refine fB ?_
    | refine xt ?_
    | (refine Fo.pcall (v' := ?_) hn rfl (by simp only [↓nrmL, nrmZ, Nat.reduceEqDiff, ↓reduceIte, Nat.reduceAdd, Int.reduceBEq, Int.reduceBNe, z1, f4, bb, List.map]; rfl) rfl ?hv fun _ _ => ?_; case hv => (simp only [z1, f4, bb]; rfl))
    | refine nl hKF ?_
    | refine sq ?_
    | refine rg fun KF hKF => ?_
    | refine ct rfl ?_
    | refine cf rfl ?_
    | refine sk ?_
    | dsimp only [cond_true, cond_false]
   exact ⟨⟨rfl, rfl, rfl, rfl, rfl, rfl, rfl, rfl, trivial⟩, inferInstance, (Ext0.ext : Ext H _)⟩
 clear hread h5
 rintro g H2 ⟨hr, hx⟩
 haveI := hr
 haveI : ExtI H H2 := ⟨hx⟩
 haveI hE2 : ErrsI H2 := ⟨hE.it.ext hx⟩
 simp only [updL]
 have t3 : ((c : Nat) : Int).tmod 3 = ((c % 3 : Nat) : Int) := rfl
 have t4 : ((k : Nat) : Int).tmod 9 = ((k % 9 : Nat) : Int) := rfl
 have hc := Nat.mod_lt c (show 0 < 3 by decide)
 have hk := Nat.mod_lt k (show 0 < 9 by decide)
 obtain ⟨C, hC⟩ : ∃ C : Int, 1 + ((c % 3 : Nat) : Int) = C := ⟨_, rfl⟩
 obtain ⟨K, hK⟩ : ∃ K : Int, ((k % 9 : Nat) : Int) - 4 = K := ⟨_, rfl⟩
 have w4 : IntKind.u8.wrap (1 + ((c % 3 : Nat) : Int)) = C := by rw [u8s (by omega) (by omega)]; exact hC
 have w5 : IntKind.i64.wrap C = C := w64r (by omega) (by omega)
 have w6' : IntKind.i64.wrap ((k % 9 : Nat) : Int) = ((k % 9 : Nat) : Int) := w64r (by omega) (by omega)
 have w7 : IntKind.i64.wrap (((k % 9 : Nat) : Int) - 4) = K := by rw [w64r (by omega) (by omega)]; exact hK
 obtain ⟨st, s1, s2, s3, s4⟩ := soundF (c := C) (p := (P : Int)) (a := A) (k := K) (by omega) (by omega) (by omega) (by omega) (by omega) (by omega) (by omega) (by omega)
 rcases (by omega : A = -1 ∨ A = 0 ∨ A = 1) with rfl | rfl | rfl
 ·have w8 : IntKind.i64.wrap (-1 + 1) = 0 := rfl
  have s2 : soundS C K st 2 = ((P : Int), -1, 0) := s2
  repeat first
   | (refine mv ?_)
   | refine oy ?_
   | refine fd ?_
   | refine Fo.ld rfl rfl ?_
   | (refine Fo.ldN rfl rfl (by simp only [↓nrmL, nrmZ, Nat.reduceEqDiff, ↓reduceIte, Nat.reduceAdd, Int.reduceBEq, Int.reduceBNe, t3, t4, w4, w5, w6', w7, w8, s1, s2, s3, s4]; rfl) ?_)
   | (refine bn rfl rfl rfl (by simp only [t3, t4, w4, w5, w6', w7, w8, s1, s2, s3, s4]; rfl) ?_)
   | (refine bn rfl rfl rfl (by simp only [↓nrmL, nrmZ, Nat.reduceEqDiff, ↓reduceIte, Nat.reduceAdd, Int.reduceBEq, Int.reduceBNe, t3, t4, w4, w5, w6', w7, w8, s1, s2, s3, s4]; rfl) ?_)
   | refine tB ?_
   | refine xt ?_
   | (refine Fo.pcall (v' := ?_) hn rfl (by simp only [↓nrmL, nrmZ, Nat.reduceEqDiff, ↓reduceIte, Nat.reduceAdd, Int.reduceBEq, Int.reduceBNe, t3, t4, w4, w5, w6', w7, w8, s1, s2, s3, s4, List.map]; rfl) rfl ?hv fun _ _ => ?_; case hv => (simp only [t3, t4, w4, w5, w6', w7, w8, s1, s2, s3, s4]; rfl))
   | refine nw ?_
   | (refine Fo.bslice rfl (by simp only [↓nrmL, nrmZ, Nat.reduceEqDiff, ↓reduceIte, Nat.reduceAdd, Int.reduceBEq, Int.reduceBNe, t3, t4, w4, w5, w6', w7, w8, s1, s2, s3, s4]; rfl) ?_)
   | (refine Fo.now rfl rfl (by simp only [t3, t4, w4, w5, w6', w7, w8, s1, s2, s3, s4]; rfl) ?_)
   | (refine Fo.now rfl rfl (by simp only [↓nrmL, nrmZ, Nat.reduceEqDiff, ↓reduceIte, Nat.reduceAdd, Int.reduceBEq, Int.reduceBNe, t3, t4, w4, w5, w6', w7, w8, s1, s2, s3, s4]; rfl) ?_)
   | (refine so rfl (rfl : _ = AVal.agg _) rfl rfl rfl (by simp only [t3, t4, w4, w5, w6', w7, w8, s1, s2, s3, s4]; rfl) ?_)
   | refine nl hKF ?_
   | refine sq ?_
   | refine rg fun KF hKF => ?_
   | dsimp only [cond_true, cond_false]
  refine Fo.now rfl (exec_eqT rfl rfl (aEq_same _ _)) rfl ?_
  repeat first
   | (refine mv ?_)
   | refine oy ?_
   | refine fd ?_
   | refine Fo.ld rfl rfl ?_
   | (refine Fo.ldN rfl rfl (by simp only [↓nrmL, nrmZ, Nat.reduceEqDiff, ↓reduceIte, Nat.reduceAdd, Int.reduceBEq, Int.reduceBNe]; rfl) ?_)
   | refine tB ?_
   | (refine ob (cs' := ?_) ?hc ?_; case hc => (simp only [↓nrmL, nrmZ, Nat.reduceEqDiff, ↓reduceIte, Nat.reduceAdd, Int.reduceBEq, Int.reduceBNe]; rfl))
   | dsimp only [cond_true, cond_false]
  refine Fo.now rfl (exec_eqT rfl rfl (aEq_same _ _)) rfl ?_
  refine tB ?_
  refine mv ?_
  refine oy ?_
  refine Fo.pcall (v' := ?_) hn rfl (by simp only [↓nrmL, nrmZ, Nat.reduceEqDiff, ↓reduceIte, Nat.reduceAdd, Int.reduceBEq, Int.reduceBNe, List.map]; rfl) rfl ?hv fun _ _ => ?_; case hv => rfl
  refine tB ?_
  refine mv ?_
  refine nl hKF ?_
  refine rt ?_
  dsimp only [cond_true, cond_false]
  refine rz trivial ?_
  exact ⟨rfl, (Ext0.ext : Ext H _)⟩
 ·have w8 : IntKind.i64.wrap (0 + 1) = 1 := rfl
  have s2 : soundS C K st 3 = ((P : Int), 0, 0) := s2
  repeat first
   | (refine mv ?_)
   | refine oy ?_
   | refine fd ?_
   | refine Fo.ld rfl rfl ?_
   | (refine Fo.ldN rfl rfl (by simp only [↓nrmL, nrmZ, Nat.reduceEqDiff, ↓reduceIte, Nat.reduceAdd, Int.reduceBEq, Int.reduceBNe, t3, t4, w4, w5, w6', w7, w8, s1, s2, s3, s4]; rfl) ?_)
   | (refine bn rfl rfl rfl (by simp only [t3, t4, w4, w5, w6', w7, w8, s1, s2, s3, s4]; rfl) ?_)
   | (refine bn rfl rfl rfl (by simp only [↓nrmL, nrmZ, Nat.reduceEqDiff, ↓reduceIte, Nat.reduceAdd, Int.reduceBEq, Int.reduceBNe, t3, t4, w4, w5, w6', w7, w8, s1, s2, s3, s4]; rfl) ?_)
   | refine tB ?_
   | refine xt ?_
   | (refine Fo.pcall (v' := ?_) hn rfl (by simp only [↓nrmL, nrmZ, Nat.reduceEqDiff, ↓reduceIte, Nat.reduceAdd, Int.reduceBEq, Int.reduceBNe, t3, t4, w4, w5, w6', w7, w8, s1, s2, s3, s4, List.map]; rfl) rfl ?hv fun _ _ => ?_; case hv => (simp only [t3, t4, w4, w5, w6', w7, w8, s1, s2, s3, s4]; rfl))
   | refine nw ?_
   | (refine Fo.bslice rfl (by simp only [↓nrmL, nrmZ, Nat.reduceEqDiff, ↓reduceIte, Nat.reduceAdd, Int.reduceBEq, Int.reduceBNe, t3, t4, w4, w5, w6', w7, w8, s1, s2, s3, s4]; rfl) ?_)
   | (refine Fo.now rfl rfl (by simp only [t3, t4, w4, w5, w6', w7, w8, s1, s2, s3, s4]; rfl) ?_)
   | (refine Fo.now rfl rfl (by simp only [↓nrmL, nrmZ, Nat.reduceEqDiff, ↓reduceIte, Nat.reduceAdd, Int.reduceBEq, Int.reduceBNe, t3, t4, w4, w5, w6', w7, w8, s1, s2, s3, s4]; rfl) ?_)
   | (refine so rfl (rfl : _ = AVal.agg _) rfl rfl rfl (by simp only [t3, t4, w4, w5, w6', w7, w8, s1, s2, s3, s4]; rfl) ?_)
   | refine nl hKF ?_
   | refine sq ?_
   | refine rg fun KF hKF => ?_
   | dsimp only [cond_true, cond_false]
  refine Fo.now rfl (exec_eqT rfl rfl (aEq_same _ _)) rfl ?_
  repeat first
   | (refine mv ?_)
   | refine oy ?_
   | refine fd ?_
   | refine Fo.ld rfl rfl ?_
   | (refine Fo.ldN rfl rfl (by simp only [↓nrmL, nrmZ, Nat.reduceEqDiff, ↓reduceIte, Nat.reduceAdd, Int.reduceBEq, Int.reduceBNe]; rfl) ?_)
   | refine tB ?_
   | (refine ob (cs' := ?_) ?hc ?_; case hc => (simp only [↓nrmL, nrmZ, Nat.reduceEqDiff, ↓reduceIte, Nat.reduceAdd, Int.reduceBEq, Int.reduceBNe]; rfl))
   | dsimp only [cond_true, cond_false]
  refine Fo.now rfl (exec_eqT rfl rfl (aEq_same _ _)) rfl ?_
  refine tB ?_
  refine mv ?_
  refine oy ?_
  refine Fo.pcall (v' := ?_) hn rfl (by simp only [↓nrmL, nrmZ, Nat.reduceEqDiff, ↓reduceIte, Nat.reduceAdd, Int.reduceBEq, Int.reduceBNe, List.map]; rfl) rfl ?hv fun _ _ => ?_; case hv => rfl
  refine tB ?_
  refine mv ?_
  refine nl hKF ?_
  refine rt ?_
  dsimp only [cond_true, cond_false]
  refine rz trivial ?_
  exact ⟨rfl, (Ext0.ext : Ext H _)⟩
 ·have w8 : IntKind.i64.wrap (1 + 1) = 2 := rfl
  have s2 : soundS C K st 1 = ((P : Int), 1, 0) := s2
  repeat first
   | (refine mv ?_)
   | refine oy ?_
   | refine fd ?_
   | refine Fo.ld rfl rfl ?_
   | (refine Fo.ldN rfl rfl (by simp only [↓nrmL, nrmZ, Nat.reduceEqDiff, ↓reduceIte, Nat.reduceAdd, Int.reduceBEq, Int.reduceBNe, t3, t4, w4, w5, w6', w7, w8, s1, s2, s3, s4]; rfl) ?_)
   | (refine bn rfl rfl rfl (by simp only [t3, t4, w4, w5, w6', w7, w8, s1, s2, s3, s4]; rfl) ?_)
   | (refine bn rfl rfl rfl (by simp only [↓nrmL, nrmZ, Nat.reduceEqDiff, ↓reduceIte, Nat.reduceAdd, Int.reduceBEq, Int.reduceBNe, t3, t4, w4, w5, w6', w7, w8, s1, s2, s3, s4]; rfl) ?_)
   | refine tB ?_
   | refine xt ?_
   | (refine Fo.pcall (v' := ?_) hn rfl (by simp only [↓nrmL, nrmZ, Nat.reduceEqDiff, ↓reduceIte, Nat.reduceAdd, Int.reduceBEq, Int.reduceBNe, t3, t4, w4, w5, w6', w7, w8, s1, s2, s3, s4, List.map]; rfl) rfl ?hv fun _ _ => ?_; case hv => (simp only [t3, t4, w4, w5, w6', w7, w8, s1, s2, s3, s4]; rfl))
   | refine nw ?_
   | (refine Fo.bslice rfl (by simp only [↓nrmL, nrmZ, Nat.reduceEqDiff, ↓reduceIte, Nat.reduceAdd, Int.reduceBEq, Int.reduceBNe, t3, t4, w4, w5, w6', w7, w8, s1, s2, s3, s4]; rfl) ?_)
   | (refine Fo.now rfl rfl (by simp only [t3, t4, w4, w5, w6', w7, w8, s1, s2, s3, s4]; rfl) ?_)
   | (refine Fo.now rfl rfl (by simp only [↓nrmL, nrmZ, Nat.reduceEqDiff, ↓reduceIte, Nat.reduceAdd, Int.reduceBEq, Int.reduceBNe, t3, t4, w4, w5, w6', w7, w8, s1, s2, s3, s4]; rfl) ?_)
   | (refine so rfl (rfl : _ = AVal.agg _) rfl rfl rfl (by simp only [t3, t4, w4, w5, w6', w7, w8, s1, s2, s3, s4]; rfl) ?_)
   | refine nl hKF ?_
   | refine sq ?_
   | refine rg fun KF hKF => ?_
   | dsimp only [cond_true, cond_false]
  refine Fo.now rfl (exec_eqT rfl rfl (aEq_same _ _)) rfl ?_
  repeat first
   | (refine mv ?_)
   | refine oy ?_
   | refine fd ?_
   | refine Fo.ld rfl rfl ?_
   | (refine Fo.ldN rfl rfl (by simp only [↓nrmL, nrmZ, Nat.reduceEqDiff, ↓reduceIte, Nat.reduceAdd, Int.reduceBEq, Int.reduceBNe]; rfl) ?_)
   | refine tB ?_
   | (refine ob (cs' := ?_) ?hc ?_; case hc => (simp only [↓nrmL, nrmZ, Nat.reduceEqDiff, ↓reduceIte, Nat.reduceAdd, Int.reduceBEq, Int.reduceBNe]; rfl))
   | dsimp only [cond_true, cond_false]
  refine Fo.now rfl (exec_eqT rfl rfl (aEq_same _ _)) rfl ?_
  refine tB ?_
  refine mv ?_
  refine oy ?_
  refine Fo.pcall (v' := ?_) hn rfl (by simp only [↓nrmL, nrmZ, Nat.reduceEqDiff, ↓reduceIte, Nat.reduceAdd, Int.reduceBEq, Int.reduceBNe, List.map]; rfl) rfl ?hv fun _ _ => ?_; case hv => rfl
  refine tB ?_
  refine mv ?_
  refine nl hKF ?_
  refine rt ?_
  dsimp only [cond_true, cond_false]
  refine rz trivial ?_
  exact ⟨rfl, (Ext0.ext : Ext H _)⟩
end Go.Am
namespace Go.Proofs.YtcklaifhanehmaaDoor.ToneNames
open Go.ChangeShapes Go.WideShapes Go.ChangeAt Go.RowKit Go.Am Go.Proofs.YtcklaifhanehmaaDoor.Laid

theorem con (H : AHeap) (avs : List AVal) (ht : tablesIn aroundT H = true) (hp : PtrsIn [1, 2] H) (h : ArgSW Tryd.prog H 3 [5, 5, 53, 53, 9, 5, 5] avs) : Con ext prog 9 12 avs H fun v H' => v = .bool true ∧ Ext H H' := by
  obtain ⟨a0, r0, rfl, h0, a1, r1, rfl, h1, a2, r2, rfl, h2, a3, r3, rfl, h3, a4, r4, rfl, h4, a5, r5, rfl, h5, a6, r6, rfl, h6, rfl⟩ := h
  haveI : ErrsI H := ⟨hp⟩
  obtain ⟨i0, rfl, wf0⟩ := shapeW_int Tryd.underlying5 h0
  obtain ⟨s0, rfl⟩ := u8_of wf0
  obtain ⟨i1, rfl, wf1⟩ := shapeW_int Tryd.underlying5 h1
  obtain ⟨s1, rfl⟩ := u8_of wf1
  obtain ⟨i2, rfl, wf2⟩ := shapeW_int Tryd.underlying53 h2
  have g2 := i8_of wf2
  obtain ⟨i3, rfl, wf3⟩ := shapeW_int Tryd.underlying53 h3
  have g3 := i8_of wf3
  obtain ⟨z4, rfl, lz4⟩ := shapeW_str Tryd.underlying9 h4
  obtain ⟨s4, hs4⟩ : ∃ l : Bs, AVal.str z4 = strV l ∧ l.length = z4.size := ⟨z4.data.toList, rfl, Array.length_toList⟩
  obtain ⟨hs4, hn4⟩ := hs4
  haveI : Len47 s4 := ⟨by have e : reachBytes = 140737488351232 := rfl; omega⟩
  obtain ⟨i5, rfl, wf5⟩ := shapeW_int Tryd.underlying5 h5
  obtain ⟨s5, rfl⟩ := u8_of wf5
  obtain ⟨i6, rfl, wf6⟩ := shapeW_int Tryd.underlying5 h6
  obtain ⟨s6, rfl⟩ := u8_of wf6
  have e0 : argV Tryd.prog 5 [.int .u8 (s0.toNat : Int)] = .int .u8 (s0.toNat : Int) := by simp only [argV, show aggTy Tryd.prog 5 = false by kernel_rfl, cond_false, List.headD_cons]
  have e1 : argV Tryd.prog 5 [.int .u8 (s1.toNat : Int)] = .int .u8 (s1.toNat : Int) := by simp only [argV, show aggTy Tryd.prog 5 = false by kernel_rfl, cond_false, List.headD_cons]
  have e2 : argV Tryd.prog 53 [.int .i8 i2] = .int .i8 i2 := by simp only [argV, show aggTy Tryd.prog 53 = false by kernel_rfl, cond_false, List.headD_cons]
  have e3 : argV Tryd.prog 53 [.int .i8 i3] = .int .i8 i3 := by simp only [argV, show aggTy Tryd.prog 53 = false by kernel_rfl, cond_false, List.headD_cons]
  have e4 : argV Tryd.prog 9 [.str z4] = strV s4 := by simp only [argV, show aggTy Tryd.prog 9 = false by kernel_rfl, cond_false, List.headD_cons, hs4]
  have e5 : argV Tryd.prog 5 [.int .u8 (s5.toNat : Int)] = .int .u8 (s5.toNat : Int) := by simp only [argV, show aggTy Tryd.prog 5 = false by kernel_rfl, cond_false, List.headD_cons]
  have e6 : argV Tryd.prog 5 [.int .u8 (s6.toNat : Int)] = .int .u8 (s6.toNat : Int) := by simp only [argV, show aggTy Tryd.prog 5 = false by kernel_rfl, cond_false, List.headD_cons]
  rw [e0, e1, e2, e3, e4, e5, e6]
  exact K_ToneNames (by omega) (by omega) (by omega) (by omega)

theorem contract (H : Type) (enc : TypeId × Value → H) (W : World) (base : Nat) (args : Array Value) (ds gs : List (DataW H)) (before : List MemPlace)
    (hval : ∀ (j : Nat) t v, Tryd.f12.params[j]? = some t → args[j]? = some v → Value.okWide Tryd.prog W .any base t v)
    (hW : DataW.Whole enc Tryd.prog Tryd.f12.params.toList Rows.toneNamesSpec.vars false W args.toList ds gs before) (hz : (DataW.weightsEach Tryd.prog (Tryd.f12.params.toList ++ (OpenSpec.ofChange Rows.toneNamesSpec).bare.plain.varTypes Tryd.prog) (ds ++ gs)).all (· ≤ reachBytes) = true) (hL : laidMetH Tryd.prog Rows.toneNamesRow.laid W) :
    Calls Tryd.prog 12 args W fun e W' => ∃ v, e = .returned v ∧ Rows.toneNamesSpec.post enc Tryd.prog Tryd.f12 false true false false W args v W' := by
  have hW' := hW
  obtain ⟨p, q, hA, _⟩ := hW'
  rw [Tryd.params12] at hA
  obtain ⟨v0, vs0, d0, ds0, p0, q0, _, rfl, _, _, r0⟩ := trodAll_cons hA
  obtain ⟨v1, vs1, d1, ds1, p1, q1, _, rfl, _, _, r1⟩ := trodAll_cons r0
  obtain ⟨v2, vs2, d2, ds2, p2, q2, _, rfl, _, _, r2⟩ := trodAll_cons r1
  obtain ⟨v3, vs3, d3, ds3, p3, q3, _, rfl, _, _, r3⟩ := trodAll_cons r2
  obtain ⟨v4, vs4, d4, ds4, p4, q4, _, rfl, _, _, r4⟩ := trodAll_cons r3
  obtain ⟨v5, vs5, d5, ds5, p5, q5, _, rfl, _, _, r5⟩ := trodAll_cons r4
  obtain ⟨v6, vs6, d6, ds6, p6, q6, _, rfl, _, _, r6⟩ := trodAll_cons r5
  obtain ⟨_, rfl, _⟩ := trodAll_nil r6
  exact law_callsWP (tb := 4) (n := 3) (d := 9) (tabs := aroundT) (ptrs := [1, 2]) mixed progOk Tryd.func12 rfl (by decide +kernel) laidOut rowed full (by kernel_rfl) rfl (by kernel_rfl) Tryd.underlying4 (by kernel_rfl) (by kernel_rfl) (by kernel_rfl) (by decide)
    (fun H avs ht hp h => con H avs ht hp (by rw [Tryd.params12] at h; exact h)) H enc W base args _ gs before rfl hval hW (slim_app hz) around_cells (ptr_cells hL)

theorem laid_met (os : Os) : laidMet Tryd.prog Rows.toneNamesRow.laid ((errWorld os).forCall (fun _ _ => 0) ⟨#[], #[.int .u8 0, .int .u8 0, .int .i8 0, .int .i8 0, .string .empty, .int .u8 0, .int .u8 0], []⟩).memory :=
  laidMet_of_run' 8 (by kernel_rfl) (by kernel_rfl)
theorem reads (os : Os) {H : Type} (enc : TypeId × Value → H) : ∃ places, DataW.whole enc Tryd.prog ((errWorld os).forCall (fun _ _ => 0) ⟨#[], #[.int .u8 0, .int .u8 0, .int .i8 0, .int .i8 0, .string .empty, .int .u8 0, .int .u8 0], []⟩).memory Tryd.f12.params.toList Rows.toneNamesSpec.vars false #[Value.int .u8 0, .int .u8 0, .int .i8 0, .int .i8 0, .string .empty, .int .u8 0, .int .u8 0].toList 8 = some ([.lit (.int .u8 0), .lit (.int .u8 0), .lit (.int .i8 0), .lit (.int .i8 0), .lit (.string []), .lit (.int .u8 0), .lit (.int .u8 0)], [], places) :=
  ⟨[], by kernel_rfl⟩

theorem lifted (os : Os) (started : os.Started) (H : Type) (enc : TypeId × Value → H) (F : Stop.Interp) :
    ReturnsInHanded {} Tryd.checked os 12 .any ((OpenSpec.ofChange Rows.toneNamesSpec).preRow enc Tryd.prog Tryd.f12 Rows.toneNamesRow.domain false Rows.toneNamesRow.laid) (((OpenSpec.ofChange Rows.toneNamesSpec).at F).post enc Tryd.prog Tryd.f12 false true false false) := by
  obtain ⟨places, hx⟩ := reads os enc
  refine returnsInHanded_of_row (C := Tryd.checked) (s := OpenSpec.ofChange Rows.toneNamesSpec) own started (by kernel_rfl) Tryd.func12
    (witness_row_at (enc := enc) (C := Tryd.checked) false (errWorld os) #[.int .u8 0, .int .u8 0, .int .i8 0, .int .i8 0, .string .empty, .int .u8 0, .int .u8 0] rfl (by kernel_rfl) (by kernel_rfl) (by kernel_rfl)
      (OpenSpec.preRow_of_cond 8 hx (by kernel_rfl) (fun k hk => by cases hk) (by kernel_rfl) (laid_met os))) ?_
  intro W base args ds gs before hval hW _ _ hz hL _ _
  exact contract H enc W base args ds gs before hval hW hz hL

theorem said : Rows.ToneNamesSaid :=
  OpenClaim.holds_of_cond 12 Tryd.f12 rfl rfl rfl rfl rfl rfl rfl ⟨rfl, rfl, rfl, rfl, rfl⟩ rfl rfl rfl rfl rfl (by kernel_rfl) Tryd.func12 (by kernel_rfl)
    (of_decide_eq_true (by kernel_rfl)) (by unfold Func.isWrapper; first | (rw [if_pos (by decide +kernel)]; kernel_rfl) | (rw [if_neg (by decide +kernel)]; exact ⟨rfl, rfl⟩))
    (fun os started H enc _ F => by rw [OpenClaim.pre_eq_preRow]; exact lifted os started H enc F)

theorem plain (f : FuncId) (fn : Func) (hf : Tryd.pinned.checked.prog.funcNamed "custos/custoslaw05.ToneNames" = some f) (hfn : Tryd.pinned.checked.prog.funcs[f]? = some fn) :
    true = Tryd.pinned.checked.prog.looks [] ∧ ∀ (j : Nat) t, fn.params[j]? = some t → Tryd.pinned.checked.prog.wantsStandIn t = false := by
  obtain rfl : f = 12 := Option.some.inj ((show Tryd.prog.funcNamed "custos/custoslaw05.ToneNames" = some 12 by kernel_rfl).symm.trans hf) |>.symm
  obtain rfl : fn = Tryd.f12 := (Option.some.inj (Tryd.func12.symm.trans hfn)).symm
  refine ⟨by kernel_rfl, fun j t ht => ?_⟩
  have h := List.all_eq_true.1 (show (Tryd.f12.params.toList.all fun t => !(Tryd.prog.wantsStandIn t)) = true by kernel_rfl) t (by simpa using Array.mem_of_getElem? ht)
  have h2 : Tryd.prog.wantsStandIn t = false := by simpa using h
  exact h2

/-- The card. -/
theorem card : Rows.ToneNamesCardSaid :=
  Claim7.holds_tied_plain_at .later [] _ _ _ _ said (fun _ h => by cases h) (by kernel_rfl) (fun _ h => by cases h) toneNames_row_tie rfl ⟨rfl, rfl⟩ (by kernel_rfl) rfl plain (by kernel_rfl)
end Go.Proofs.YtcklaifhanehmaaDoor.ToneNames
