/-
  StaveGroups returns true for any lines, image and stave, and leaves them as they were. No condition.
-/
import Derived.Test.YtpochhefklmnfaaAmBE
set_option linter.unusedSimpArgs false
set_option linter.unusedVariables false
set_option maxHeartbeats 16000000
set_option maxRecDepth 100000
set_option synthInstance.maxHeartbeats 4000000
set_option synthInstance.maxSize 1000000000
namespace Go.Am
open Go
theorem exec_sub {call : ACall} {fr : AFrame} {H : AHeap} {x : ROpd} {lo hi : Option ROpd} {p : AVal} {n : Nat} {cs : List AVal} {a b : Nat} (hx : x.ev fr = p) (hlo : bnd (lo.map (·.ev fr)) 0 a) (hhi : bnd (hi.map (·.ev fr)) n b) (hab : a ≤ b) (hbl : b ≤ n) [s : SliceAt H p 1 n cs] :
    ∃ v H', (ROp.sliceS 1 x lo hi none).exec call fr H = some (v, H') ∧ SliceAt H' v 1 (b - a) ((cs.drop a).take (b - a)) ∧ Ext H H' := by
  have hl1 : ∀ h, a ≤ h → aLow h (lo.map (·.ev fr)) = some a := by
    intro h hh
    rcases hlo with ⟨h1, rfl⟩ | ⟨k, h1⟩
    · rw [h1]; rfl
    · rw [h1]
      have : (0 : Int) ≤ (a : Int) ∧ (a : Int) ≤ (h : Int) := by omega
      simp only [aLow, aBound, if_pos this, Int.toNat_natCast]
  have hh1 : ∀ y, b ≤ y → aHigh n y (hi.map (·.ev fr)) = some b := by
    intro y hy
    rcases hhi with ⟨h1, rfl⟩ | ⟨k, h1⟩
    · rw [h1]; rfl
    · rw [h1]
      have : (0 : Int) ≤ (b : Int) ∧ (b : Int) ≤ (y : Int) := by omega
      simp only [aHigh, aBound, if_pos this, Int.toNat_natCast]
  rcases s.it with ⟨rfl, h0, hc0⟩ | ⟨r, off, cap, row, rw, e, rfl, hr, hg, hl, hc, hcap⟩
  · have e1 : b = 0 := by omega
    have e2 : a = 0 := by omega
    subst e1 e2 hc0
    have hb0 : aBounds 0 (some 0) (lo.map (·.ev fr)) (hi.map (·.ev fr)) none = some (0, 0, some 0) := by
      have h1 := hh1 (capD 0 (some 0)) (Nat.zero_le _)
      rw [h0] at h1
      simp only [aBounds, h1, hl1 0 (Nat.zero_le _)]
    exact ⟨.nslice, H, by simp only [ROp.exec, hx, Option.map_none, aSliceS, hb0, M.pure], ⟨Or.inl ⟨rfl, rfl, rfl⟩⟩, Ext.refl H⟩
  · rw [Nat.mul_one] at hl hc
    have hb0 : aBounds n cap (lo.map (·.ev fr)) (hi.map (·.ev fr)) none = some (a, b, cap) := by
      simp only [aBounds, hh1 _ (Nat.le_trans hbl hcap), hl1 b hab]
    have hsub : (row.drop (off + a)).take (b - a) = (cs.drop a).take (b - a) := by
      rw [← hc, List.drop_take, List.drop_drop, List.take_take]
      congr 1
      omega
    have full : ∀ cap', (b - a ≤ capD (b - a) cap') → SliceAt H (.slice r (off + a) (b - a) cap' 1) 1 (b - a) ((cs.drop a).take (b - a)) := fun cap' hc' =>
      ⟨Or.inr ⟨r, off + a, cap', row, rw, e, rfl, hr, hg, by omega, by rw [Nat.mul_one]; exact hsub, hc'⟩⟩
    have none0 : a = b → ∀ cap', SliceAt H (.slice r off (b - a) cap' 1) 1 (b - a) ((cs.drop a).take (b - a)) := by
      intro hE cap'
      subst hE
      rw [Nat.sub_self, List.take_zero]
      exact ⟨Or.inr ⟨r, off, cap', row, rw, e, rfl, hr, hg, by simp; omega, by simp, Nat.zero_le _⟩⟩
    cases cap with
    | some c =>
      simp only [capD] at hcap
      by_cases hca : c = a
      · have hE : a = b := by omega
        exact ⟨.slice r off (b - a) (some 0) 1, H, by simp only [ROp.exec, hx, Option.map_none, aSliceS, ne_eq, not_true, if_false, hb0, M.pure, if_pos hca], none0 hE _, Ext.refl H⟩
      · exact ⟨.slice r (off + a) (b - a) (some (c - a)) 1, H, by simp only [ROp.exec, hx, Option.map_none, aSliceS, ne_eq, not_true, if_false, hb0, M.pure, if_neg hca, Nat.mul_one], full _ (by simp only [capD]; omega), Ext.refl H⟩
    | none =>
      have h2 : ¬ row.length < off + n := by omega
      have hrow : aRow r H = some ((row, rw), H) := by simp only [aRow, if_pos hr, hg]
      by_cases hcd : a < b ∨ a = 0
      · refine ⟨.slice r (off + a) (b - a) none 1, H, ?_, full _ (Nat.le_refl _), Ext.refl H⟩
        simp only [ROp.exec, hx, Option.map_none, aSliceS, ne_eq, not_true, if_false, hb0, Nat.mul_one, Nat.one_ne_zero, M.bind, hrow, if_neg h2, if_pos hcd, M.pure]
      · have hE : a = b := by omega
        refine ⟨.slice H.n 0 0 none 1, H.push (.row [] false 0), ?_, ?_, (Ext.refl H).push _⟩
        · simp only [ROp.exec, hx, Option.map_none, aSliceS, ne_eq, not_true, if_false, hb0, Nat.mul_one, Nat.one_ne_zero, M.bind, hrow, if_neg h2, if_neg hcd, M.pure, aNew]
        · subst hE
          rw [Nat.sub_self, List.take_zero]
          exact ⟨Or.inr ⟨H.n, 0, none, [], false, 0, rfl, Nat.lt_succ_self _, push_get_eq, by simp, by simp, Nat.zero_le _⟩⟩
theorem Rows.sub {H : AHeap} {ps : List AVal} {ls : List (List Int)} {a b : Nat} (h : Rows H ps ls) (hb : b ≤ ls.length) : Rows H ((ps.drop a).take (b - a)) ((ls.drop a).take (b - a)) := ⟨fun i hi => by
  simp only [List.length_take, List.length_drop] at hi
  obtain ⟨q, h1, h2⟩ := h.it (a + i) (by omega)
  refine ⟨q, ?_, ?_⟩
  · rw [List.getElem?_take, if_pos (by omega), List.getElem?_drop]; exact h1
  · simp only [List.getElem_take, List.getElem_drop]; exact h2⟩
theorem Fo.subL {call : ACall} {fr : AFrame} {H : AHeap} {KF : AFrame → AHeap → Prop} {os : List ROper} {d : Nat} {x : ROpd} {lo hi : Option ROpd} {p : AVal} {ls : List (List Int)} {a b : Nat} (hx : x.ev fr = p) (hp : LinesI H p ls) (hlo : bnd (lo.map (·.ev fr)) 0 a) (hhi : bnd (hi.map (·.ev fr)) ls.length b) (hab : a ≤ b) (hbl : b ≤ ls.length)
    (h : ∀ v H1, LinesI H1 v ((ls.drop a).take (b - a)) → OneV v → ExtI H H1 → WpO call os (upd fr d v) H1 KF) : WpO call (⟨some d, .sliceS 1 x lo hi none, none⟩ :: os) fr H KF := by
  obtain ⟨ps, hps, hr⟩ := hp.it
  obtain ⟨v, H1, h1, h2, h3⟩ := exec_sub (call := call) hx hlo hhi hab hbl (s := hps)
  refine WpO.step rfl ⟨v, H1, h1, h v H1 ⟨(ps.drop a).take (b - a), ?_, ?_⟩ h2.one ⟨h3⟩⟩
  · have : ((ls.drop a).take (b - a)).length = b - a := by rw [List.length_take, List.length_drop]; omega
    rw [this]; exact h2
  · have hr2 := hr.sub (a := a) hbl
    exact hr2.ext h3
theorem exec_subN {call : ACall} {fr : AFrame} {H : AHeap} {x : ROpd} {lo hi : Option ROpd} {p : AVal} {n : Nat} {cs : List AVal} {a b : Nat} (hx : x.ev fr = p) (hlo : bnd (lo.map (·.ev fr)) 0 a) (hhi : bnd (hi.map (·.ev fr)) n b) (hab : a < b) (hbl : b ≤ n) {H0 : AHeap} (s : SliceAt H0 p 1 n cs) (x0 : Ext H0 H) :
    ∃ v, (ROp.sliceS 1 x lo hi none).exec call fr H = some (v, H) ∧ SliceAt H0 v 1 (b - a) ((cs.drop a).take (b - a)) := by
  have hl1 : ∀ h, a ≤ h → aLow h (lo.map (·.ev fr)) = some a := by
    intro h hh
    rcases hlo with ⟨h1, rfl⟩ | ⟨k, h1⟩
    · rw [h1]; rfl
    · rw [h1]
      have : (0 : Int) ≤ (a : Int) ∧ (a : Int) ≤ (h : Int) := by omega
      simp only [aLow, aBound, if_pos this, Int.toNat_natCast]
  have hh1 : ∀ y, b ≤ y → aHigh n y (hi.map (·.ev fr)) = some b := by
    intro y hy
    rcases hhi with ⟨h1, rfl⟩ | ⟨k, h1⟩
    · rw [h1]; rfl
    · rw [h1]
      have : (0 : Int) ≤ (b : Int) ∧ (b : Int) ≤ (y : Int) := by omega
      simp only [aHigh, aBound, if_pos this, Int.toNat_natCast]
  rcases s.it with ⟨rfl, h0, hc0⟩ | ⟨r, off, cap, row, rw, e, rfl, hr, hg, hl, hc, hcap⟩
  · omega
  · rw [Nat.mul_one] at hl hc
    have hb0 : aBounds n cap (lo.map (·.ev fr)) (hi.map (·.ev fr)) none = some (a, b, cap) := by
      simp only [aBounds, hh1 _ (Nat.le_trans hbl hcap), hl1 b (by omega)]
    have hsub : (row.drop (off + a)).take (b - a) = (cs.drop a).take (b - a) := by
      rw [← hc, List.drop_take, List.drop_drop, List.take_take]
      congr 1
      omega
    have full : ∀ cap', (b - a ≤ capD (b - a) cap') → SliceAt H0 (.slice r (off + a) (b - a) cap' 1) 1 (b - a) ((cs.drop a).take (b - a)) := fun cap' hc' =>
      ⟨Or.inr ⟨r, off + a, cap', row, rw, e, rfl, hr, hg, by omega, by rw [Nat.mul_one]; exact hsub, hc'⟩⟩
    cases cap with
    | some c =>
      simp only [capD] at hcap
      have hca : ¬ c = a := by omega
      exact ⟨.slice r (off + a) (b - a) (some (c - a)) 1, by simp only [ROp.exec, hx, Option.map_none, aSliceS, ne_eq, not_true, if_false, hb0, M.pure, if_neg hca, Nat.mul_one], full _ (by simp only [capD]; omega)⟩
    | none =>
      have h2 : ¬ row.length < off + n := by omega
      have hrow : aRow r H = some ((row, rw), H) := by
        have hlt : r < H.n := Nat.lt_of_lt_of_le hr x0.n
        have hg' : H.get r = .row row rw e := by rw [x0.get r hr]; exact hg
        simp only [aRow, if_pos hlt, hg']
      refine ⟨.slice r (off + a) (b - a) none 1, ?_, full _ (Nat.le_refl _)⟩
      simp only [ROp.exec, hx, Option.map_none, aSliceS, ne_eq, not_true, if_false, hb0, Nat.mul_one, Nat.one_ne_zero, M.bind, hrow, if_neg h2, if_pos (Or.inl hab : a < b ∨ a = 0), M.pure]
theorem Fo.subN {call : ACall} {fr : AFrame} {H H0 : AHeap} {KF : AFrame → AHeap → Prop} {os : List ROper} {d : Nat} {x : ROpd} {lo hi : Option ROpd} {p : AVal} {ls : List (List Int)} {a b : Nat} (hx : x.ev fr = p) (hp : LinesI H0 p ls) (x0 : Ext H0 H) (hlo : bnd (lo.map (·.ev fr)) 0 a) (hhi : bnd (hi.map (·.ev fr)) ls.length b) (hab : a < b) (hbl : b ≤ ls.length)
    (h : ∀ v, LinesI H0 v ((ls.drop a).take (b - a)) → OneV v → WpO call os (upd fr d v) H KF) : WpO call (⟨some d, .sliceS 1 x lo hi none, none⟩ :: os) fr H KF := by
  obtain ⟨ps, hps, hr⟩ := hp.it
  obtain ⟨v, h1, h2⟩ := exec_subN (call := call) hx hlo hhi hab hbl hps x0
  refine WpO.step rfl ⟨v, H, h1, h v ⟨(ps.drop a).take (b - a), ?_, hr.sub (a := a) hbl⟩ h2.one⟩
  have : ((ls.drop a).take (b - a)).length = b - a := by rw [List.length_take, List.length_drop]; omega
  rw [this]; exact h2
theorem Fo.subE {call : ACall} {fr : AFrame} {H : AHeap} {KF : AFrame → AHeap → Prop} {os : List ROper} {d : Nat} {x : ROpd} {lo hi : Option ROpd} {p : AVal} {ls : List (List Int)} {a : Nat} (hx : x.ev fr = p) (hp : LinesI H p ls) (hlo : bnd (lo.map (·.ev fr)) 0 a) (hhi : bnd (hi.map (·.ev fr)) ls.length a) (hbl : a ≤ ls.length)
    (h : ∀ v H1, aLenS v = some (.int .i64 0) → OneV v → ExtI H H1 → WpO call os (upd fr d v) H1 KF) : WpO call (⟨some d, .sliceS 1 x lo hi none, none⟩ :: os) fr H KF := by
  obtain ⟨ps, hps, hr⟩ := hp.it
  obtain ⟨v, H1, h1, h2, h3⟩ := exec_sub (call := call) hx hlo hhi (Nat.le_refl a) hbl (s := hps)
  have hl := h2.lenS
  rw [Nat.sub_self] at hl
  exact WpO.step rfl ⟨v, H1, h1, h v H1 hl h2.one ⟨h3⟩⟩
theorem exec_len0 {call : ACall} {fr : AFrame} {H : AHeap} {x : ROpd} {v : AVal} (hx : x.ev fr = v) (h : aLenS v = some (.int .i64 0)) : (ROp.lenS x).exec call fr H = some (.int .i64 0, H) := by simp only [ROp.exec, hx, h, M.ofOption, M.pure]
theorem Wp.labelW {call : ACall} {lf : Nat} {fr : AFrame} {H : AHeap} {Q : RExit → AFrame → AHeap → Prop} (h : Q .normal fr H) : Wp call lf .label fr H Q := ⟨_, _, _, rfl, h⟩
end Go.Am

namespace Go.Am
open Go
attribute [local irreducible] Wp WpO WpX WpE
theorem w64m {x y : Int} (hx : -1099511627776 ≤ x ∧ x ≤ 1099511627776) (hy : -1099511627776 ≤ y ∧ y ≤ 1099511627776) : IntKind.i64.wrap (x - y) = x - y := w64 (by omega)
theorem K_belong {p : AVal} {H : AHeap} {ls : List (List Int)} [hp : LinesI H p ls] [hm : ModL ls] (h5 : ls.length = 5) (hs : ∀ (i : Nat) (h : i < ls.length), ls[i].length < 2 ^ 60) : Con ext prog 1 72 [p] H fun v H' => v = .bool (groupB ls) ∧ Ext H H' := by
 refine con_of (show prog 72 = some c72 from rfl) rfl rfl fun n hn => ?_
 obtain ⟨ps, hps, hrw⟩ := hp.it
 haveI := hps
 haveI := hps.one
 obtain ⟨q0, hq0, hI0⟩ := hrw.it 0 (by omega)
 haveI := hI0
 haveI := hI0.one
 have g0 : lenG ls = ls[0].length := by unfold lenG; rw [getDL_at (by omega)]
 obtain ⟨R, hR⟩ : ∃ R, groupB ls = R := ⟨_, rfl⟩
 rw [hR]
 have hs0 := hs 0 (by omega)
 cases h0 : (((ls[0].length : Nat) : Int) == 0)
 rotate_left
 ·have e00 : ls[0].length = 0 := by
   have : ((ls[0].length : Nat) : Int) = 0 := by simpa using h0
   omega
  have e0 : groupB ls = false := groupB_no fun ⟨a, _⟩ => a (by rw [g0]; exact e00)
  rw [e0] at hR
  subst hR
  repeat first
   | refine mB ?_
   | (refine mv ?_)
   | (refine Fo.idx (by simp only [↓nrmL, nrmK, Nat.reduceEqDiff, ↓reduceIte]; rfl) rfl ?_ (by simp only [↓nrmL, nrmZ, Nat.reduceEqDiff, ↓reduceIte, Nat.reduceAdd, Int.reduceBEq, Int.reduceBNe]; rfl) ?_; (focus omega))
   | refine nl hKF ?_
   | refine sq ?_
   | refine rg fun KF hKF => ?_
  refine Fo.now rfl (exec_ldP (p := p) (j := 0) rfl hq0) rfl ?_
  repeat first
   | refine mI ?_
   | refine mB ?_
   | (refine bn rfl rfl rfl (by simp only [h0]; rfl) ?_)
   | (refine ln (by simp only [↓nrmL, nrmK, Nat.reduceEqDiff, ↓reduceIte]; rfl) ?_)
   | refine nl hKF ?_
   | refine sq ?_
   | refine rg fun KF hKF => ?_
   | refine ct rfl ?_
   | refine rt ?_
   | dsimp only [cond_true, cond_false]
  refine rz trivial ?_
  exact ⟨rfl, Ext0.ext⟩
 have hl0 : ls[0].length ≠ 0 := by
  have : ¬ ((ls[0].length : Nat) : Int) = 0 := by simpa using h0
  omega
 repeat first
  | refine mB ?_
  | (refine mv ?_)
  | (refine Fo.idx (by simp only [↓nrmL, nrmK, Nat.reduceEqDiff, ↓reduceIte]; rfl) rfl ?_ (by simp only [↓nrmL, nrmZ, Nat.reduceEqDiff, ↓reduceIte, Nat.reduceAdd, Int.reduceBEq, Int.reduceBNe]; rfl) ?_; (focus omega))
  | refine nl hKF ?_
  | refine sq ?_
  | refine rg fun KF hKF => ?_
 refine Fo.now rfl (exec_ldP (p := p) (j := 0) rfl hq0) rfl ?_
 repeat first
  | refine mI ?_
  | (refine mv ?_)
  | (refine bn rfl rfl rfl (by simp only [h0]; rfl) ?_)
  | (refine ln (by simp only [↓nrmL, nrmK, Nat.reduceEqDiff, ↓reduceIte]; rfl) ?_)
  | refine nl hKF ?_
  | refine sq ?_
  | refine rg fun KF hKF => ?_
  | refine cf rfl ?_
  | refine sk ?_
 refine Fo.subL (p := p) (ls := ls) (a := 1) (b := ls.length) rfl (hp.ext Ext0.ext) (Or.inr ⟨_, rfl⟩) (Or.inl ⟨rfl, rfl⟩) (by omega) (Nat.le_refl _) fun v H1 hv hv1 hx1 => ?_
 haveI := hv1
 obtain ⟨vs, hvs, hvr⟩ := hv.it
 obtain ⟨c4, hvl, hc4⟩ : ∃ c4, ((ls.drop 1).take (ls.length - 1)).length = c4 ∧ c4 = 4 := ⟨_, rfl, by simp; omega⟩
 rw [hvl] at hvs
 haveI := hvs
 have hvget : ∀ i (h : i < ((ls.drop 1).take (ls.length - 1)).length), ((ls.drop 1).take (ls.length - 1))[i] = ls[i + 1]'(by omega) := fun i h => by
  simp only [List.getElem_take, List.getElem_drop]
  congr 1; omega
 refine ln (by simp only [↓nrmL, nrmK, Nat.reduceEqDiff, ↓reduceIte]; rfl) ?_
 refine mI ?_
 refine nl hKF ?_
 refine Wp.block ?_
 dsimp only [cond_true, cond_false]
 refine Wp.loopS (σ := Nat × Int × Int) [2, 4, 5, 6, 7, 8, 10, 11, 21, 22, 23, 24, 25, 26, 27, 28, 29, 30, 31, 32, 33, 34, 35, 36, 37, 38, 39, 40, 41, 42, 43, 44, 45, 46, 47, 48, 49, 50, 51, 52, 53, 54, 55, 56, 57, 58, 59, 60, 61, 62, 63, 64, 65, 66, 67, 68, 69, 70, 71, 72, 73] (fun s => [(21, .int .i64 (s.1 : Int)), (4, .int .i64 s.2.1), (5, .int .i64 s.2.2)]) (fun H3 s H2 => s.1 ≤ 4 ∧ (∀ k, k ≤ s.1 → (ls.getD k []).length = lenG ls) ∧ GI ls (2 * s.1) s.2.1 s.2.2 ∧ H2 = H3) (fun s => 4 - s.1) (0, 64, 2) rfl (fun _ => rfl) ⟨rfl, rfl, rfl, trivial⟩ ⟨Nat.zero_le _, fun k hk => by (obtain rfl : k = 0 := by (dsimp only at hk; omega)); rfl, GI.zero ls, rfl⟩ (by unfold fuel0 at hn; dsimp only; omega) ?_
 rintro ⟨i, le, gr⟩ g H2 ⟨hi, hlen, hG, rfl⟩
 dsimp only at hi hlen hG
 simp only [↓nrmL, nrmZ, Nat.reduceEqDiff, ↓reduceIte, Nat.reduceAdd, Int.reduceBEq, Int.reduceBNe]
 cases hc : decide ((i : Int) < (c4 : Int))
 ·have hi4 : i = 4 := by have := of_decide_eq_false hc; omega
  subst hi4
  have hb := hG.bound
  have hw : IntKind.i64.wrap (gr - le) = gr - le := w64 (by omega)
  have e0 := hG.done (by rw [g0]; exact hl0) (fun k hk => hlen k (by omega))
  rw [hR] at e0
  subst e0
  repeat first
   | refine mI ?_
   | refine mB ?_
   | (refine bn rfl rfl rfl (by simp only [hc, hw]; rfl) ?_)
   | refine b0 ?_
   | refine nl hKF ?_
   | refine sq ?_
   | refine rg fun KF hKF => ?_
   | refine cf rfl ?_
   | refine rt ?_
   | refine xi ?_
   | dsimp only [cond_true, cond_false]
  refine rz trivial ?_
  exact ⟨rfl, Ext0.ext⟩
 have hi4 : i < 4 := by have := of_decide_eq_true hc; omega
 have hwi := wa1 (a := i) (by omega)
 obtain ⟨qa, hqa, hIa⟩ := hvr.it i (by omega)
 rw [hvget i (by omega)] at hIa
 obtain ⟨qb, hqb, hIb⟩ := hrw.it i (by omega)
 haveI := hIa
 haveI := hIa.one
 haveI := hIb
 haveI := hIb.one
 have ga : ls.getD (i + 1) [] = ls[i + 1]'(by omega) := getDL_at (by omega)
 have gb : ls.getD i [] = ls[i]'(by omega) := getDL_at (by omega)
 have hlb := hlen i (Nat.le_refl _)
 rw [gb, g0] at hlb
 cases h1 : (((ls[i + 1].length : Nat) : Int) != ((ls[0].length : Nat) : Int))
 rotate_left
 ·have e0 : groupB ls = false := groupB_no fun ⟨_, a, _⟩ => by
   have := a (i + 1) (by omega)
   rw [ga, g0] at this
   rw [this] at h1; simp at h1
  rw [e0] at hR
  subst hR
  repeat first
   | refine mI ?_
   | (refine bn rfl rfl rfl (by simp only [hc]; rfl) ?_)
   | (refine Fo.idx (by simp only [↓nrmL, nrmK, Nat.reduceEqDiff, ↓reduceIte]; rfl) rfl ?_ (by simp only [↓nrmL, nrmZ, Nat.reduceEqDiff, ↓reduceIte, Nat.reduceAdd, Int.reduceBEq, Int.reduceBNe, hc]; rfl) ?_; (focus omega))
   | refine nl hKF ?_
   | refine sq ?_
   | refine rg fun KF hKF => ?_
   | refine ct rfl ?_
   | refine sk ?_
   | refine Wp.block ?_
  refine Fo.now rfl (exec_ldP (p := v) (j := i) rfl hqa) rfl ?_
  refine mI ?_
  refine mv ?_
  refine nl hKF ?_
  refine sq ?_
  refine rg fun KF hKF => ?_
  refine mv ?_
  refine mI ?_
  refine Fo.idx (by simp only [↓nrmL, nrmK, Nat.reduceEqDiff, ↓reduceIte]; rfl) rfl ?_ (by simp only [↓nrmL, nrmZ, Nat.reduceEqDiff, ↓reduceIte, Nat.reduceAdd, Int.reduceBEq, Int.reduceBNe]; rfl) ?_; (focus omega)
  refine Fo.now rfl (exec_ldP (p := p) (j := i) rfl hqb) rfl ?_
  repeat first
   | refine mI ?_
   | refine mB ?_
   | (refine mv ?_)
   | (refine bn rfl rfl rfl (by simp only [h1]; rfl) ?_)
   | (refine ln (by simp only [↓nrmL, nrmK, Nat.reduceEqDiff, ↓reduceIte]; rfl) ?_)
   | refine nl hKF ?_
   | refine sq ?_
   | refine rg fun KF hKF => ?_
   | refine ct rfl ?_
   | refine rt ?_
   | dsimp only [cond_true, cond_false]
  refine rz trivial ?_
  exact ⟨rfl, Ext0.ext⟩
 have hla : ls[i + 1].length = ls[0].length := by have h7 := h1; simp only [bne_eq_false_iff_eq] at h7; omega
 have hlen' : ∀ k, k ≤ i + 1 → (ls.getD k []).length = lenG ls := fun k hk => by
  by_cases e : k = i + 1
  ·rw [e, ga, hla, g0]
  ·exact hlen k (by omega)
 have hws := ws1 (a := ls[0].length) (by omega) (by omega)
 repeat first
  | refine mI ?_
  | (refine bn rfl rfl rfl (by simp only [hc]; rfl) ?_)
  | (refine Fo.idx (by simp only [↓nrmL, nrmK, Nat.reduceEqDiff, ↓reduceIte]; rfl) rfl ?_ (by simp only [↓nrmL, nrmZ, Nat.reduceEqDiff, ↓reduceIte, Nat.reduceAdd, Int.reduceBEq, Int.reduceBNe, hc]; rfl) ?_; (focus omega))
  | refine nl hKF ?_
  | refine sq ?_
  | refine rg fun KF hKF => ?_
  | refine ct rfl ?_
  | refine sk ?_
  | refine Wp.block ?_
 refine Fo.now rfl (exec_ldP (p := v) (j := i) rfl hqa) rfl ?_
 refine mI ?_
 refine mv ?_
 refine nl hKF ?_
 refine sq ?_
 refine rg fun KF hKF => ?_
 refine mv ?_
 refine mI ?_
 refine Fo.idx (by simp only [↓nrmL, nrmK, Nat.reduceEqDiff, ↓reduceIte]; rfl) rfl ?_ (by simp only [↓nrmL, nrmZ, Nat.reduceEqDiff, ↓reduceIte, Nat.reduceAdd, Int.reduceBEq, Int.reduceBNe]; rfl) ?_; (focus omega)
 refine Fo.now rfl (exec_ldP (p := p) (j := i) rfl hqb) rfl ?_
 repeat first
  | refine mI ?_
  | (refine mv ?_)
  | (refine bn rfl rfl rfl (by simp only [h1, hws]; rfl) ?_)
  | (refine ln (by simp only [↓nrmL, nrmK, Nat.reduceEqDiff, ↓reduceIte]; rfl) ?_)
  | (refine ob (cs' := ?_) ?hc ?_; case hc => (simp only [↓nrmL, nrmZ, Nat.reduceEqDiff, ↓reduceIte, Nat.reduceAdd, Int.reduceBEq, Int.reduceBNe, h1, hws]; rfl))
  | refine nl hKF ?_
  | refine sq ?_
  | refine rg fun KF hKF => ?_
  | refine cf rfl ?_
  | refine sk ?_
  | refine Wp.block ?_
  | dsimp only [cond_true, cond_false]
 refine Wp.loopS (σ := Nat × Int × Int) [2, 4, 5, 10, 11, 37, 38, 39, 40, 41, 42, 43, 44, 45, 46, 47, 48, 49, 50, 51, 52, 53, 54, 55, 56, 57, 58, 59, 60, 61, 62, 63, 64, 65, 66, 67, 68, 69, 70, 71, 72] (fun s => [(37, .int .i64 (s.1 : Int)), (4, .int .i64 s.2.1), (5, .int .i64 s.2.2)]) (fun H3 s H4 => s.1 ≤ 2 ∧ GI ls (2 * i + s.1) s.2.1 s.2.2 ∧ H4 = H3) (fun s => 2 - s.1) (0, le, gr) rfl (fun _ => rfl) ⟨rfl, rfl, rfl, trivial⟩ ⟨Nat.zero_le _, hG, rfl⟩ (by unfold fuel0 at hn; dsimp only; omega) ?_
 rintro ⟨e, le2, gr2⟩ g2 H4 ⟨he, hG2, rfl⟩
 dsimp only at he hG2
 simp only [↓nrmL, nrmZ, Nat.reduceEqDiff, ↓reduceIte, Nat.reduceAdd, Int.reduceBEq, Int.reduceBNe]
 cases hce : decide ((e : Int) < 2)
 ·have he2 : e = 2 := by have := of_decide_eq_false hce; omega
  subst he2
  repeat first
   | refine mI ?_
   | (refine bn rfl rfl rfl (by simp only [hce]; rfl) ?_)
   | refine b0 ?_
   | refine nl hKF ?_
   | refine sq ?_
   | refine rg fun KF hKF => ?_
   | refine cf rfl ?_
   | refine xi ?_
   | dsimp only [cond_true, cond_false]
  refine ⟨(i + 1, le2, gr2), by dsimp only; omega, ⟨by simp only [↓nrmL, nrmZ, Nat.reduceEqDiff, ↓reduceIte, Nat.reduceAdd, Int.reduceBEq, Int.reduceBNe]; rw [hwi], rfl, rfl, trivial⟩, by dsimp only; omega, hlen', by dsimp only; exact (by omega : 2 * i + 2 = 2 * (i + 1)) ▸ hG2, rfl⟩
 have he2 : e < 2 := by have := of_decide_eq_true hce; omega
 have hwe := wa1 (a := e) (by omega)
 have hb := hG2.bound
 have hE : e = 0 ∨ e = 1 := by omega
 rcases hE with rfl | rfl
 ·skip
  have hxa : 0 < ls[i + 1].length := by omega
  have hxb : 0 < ls[i].length := by omega
  have hgap : gapG ls (2 * i + 0) = ls[i + 1][0] - ls[i][0] := by
   unfold gapG colG
   rw [show (2 * i + 0) / 2 = i by omega, show (2 * i + 0) % 2 = 0 by omega, ga, gb, g0]
   simp only [if_true]
   rw [getD_at hxa, getD_at hxb]
  have ma := hm.it (i + 1) 0
  have mb := hm.it i 0
  rw [ga, getD_at hxa] at ma
  rw [gb, getD_at hxb] at mb
  obtain ⟨A, hA⟩ : ∃ A, ls[i + 1][0] = A := ⟨_, rfl⟩
  obtain ⟨B, hB⟩ : ∃ B, ls[i][0] = B := ⟨_, rfl⟩
  rw [hA] at ma
  rw [hB] at mb
  rw [hA, hB] at hgap
  have hwd := w64m ma mb
  obtain ⟨D, hD⟩ : ∃ D, A - B = D := ⟨_, rfl⟩
  rw [hD] at hgap hwd
  cases hlt : decide (A < B)
  rotate_left
  ·have e0 : groupB ls = false := groupB_no fun ⟨_, _, a⟩ => by
    have := (a (2 * i + 0) (by omega)).1
    have := of_decide_eq_true hlt
    omega
   rw [e0] at hR
   subst hR
   repeat first
    | refine ox ?_
    | refine mI ?_
    | refine mB ?_
    | (refine mv ?_)
    | (refine bn rfl rfl rfl (by simp only [hce, hD, hwd, hA, hB, hlt]; rfl) ?_)
    | refine tB ?_
    | (refine Fo.idx (by simp only [↓nrmL, nrmK, Nat.reduceEqDiff, ↓reduceIte]; rfl) rfl ?_ (by simp only [↓nrmL, nrmZ, Nat.reduceEqDiff, ↓reduceIte, Nat.reduceAdd, Int.reduceBEq, Int.reduceBNe, hce, hD, hwd, hA, hB, hlt]; rfl) ?_; (focus omega))
    | (refine Fo.ldI rfl ?_ (by simp only [hce, hD, hwd, hA, hB, hlt]; rfl) ?_; (focus omega))
    | refine Fo.now rfl rfl rfl ?_
    | refine nl hKF ?_
    | refine sq ?_
    | refine rg fun KF hKF => ?_
    | refine Fr.quiet rfl rfl fun KF hKF => ?_
    | refine ct rfl ?_
    | refine sk ?_
    | refine rt ?_
    | refine Wp.block ?_
    | dsimp only [cond_true, cond_false]
   refine rz trivial ?_
   exact ⟨rfl, Ext0.ext⟩
  cases h2 : decide (D < 2)
  rotate_left
  ·have e0 : groupB ls = false := groupB_no fun ⟨_, _, a⟩ => by
    have := (a (2 * i + 0) (by omega)).1
    have := of_decide_eq_true h2
    omega
   rw [e0] at hR
   subst hR
   repeat first
    | refine oy ?_
    | refine ox ?_
    | refine mI ?_
    | refine mB ?_
    | (refine mv ?_)
    | (refine bn rfl rfl rfl (by simp only [hce, hD, hwd, hA, hB, hlt, h2]; rfl) ?_)
    | refine tB ?_
    | refine fB ?_
    | (refine Fo.idx (by simp only [↓nrmL, nrmK, Nat.reduceEqDiff, ↓reduceIte]; rfl) rfl ?_ (by simp only [↓nrmL, nrmZ, Nat.reduceEqDiff, ↓reduceIte, Nat.reduceAdd, Int.reduceBEq, Int.reduceBNe, hce, hD, hwd, hA, hB, hlt, h2]; rfl) ?_; (focus omega))
    | (refine Fo.ldI rfl ?_ (by simp only [hce, hD, hwd, hA, hB, hlt, h2]; rfl) ?_; (focus omega))
    | refine Fo.now rfl rfl rfl ?_
    | refine nl hKF ?_
    | refine sq ?_
    | refine rg fun KF hKF => ?_
    | refine Fr.quiet rfl rfl fun KF hKF => ?_
    | refine ct rfl ?_
    | refine sk ?_
    | refine rt ?_
    | refine Wp.block ?_
    | dsimp only [cond_true, cond_false]
   refine rz trivial ?_
   exact ⟨rfl, Ext0.ext⟩
  cases h3 : decide (D > 64)
  rotate_left
  ·have e0 : groupB ls = false := groupB_no fun ⟨_, _, a⟩ => by
    have := (a (2 * i + 0) (by omega)).2.1
    have := of_decide_eq_true h3
    omega
   rw [e0] at hR
   subst hR
   repeat first
    | refine oy ?_
    | refine mI ?_
    | refine mB ?_
    | (refine mv ?_)
    | (refine bn rfl rfl rfl (by simp only [hce, hD, hwd, hA, hB, hlt, h2, h3]; rfl) ?_)
    | refine fB ?_
    | (refine Fo.idx (by simp only [↓nrmL, nrmK, Nat.reduceEqDiff, ↓reduceIte]; rfl) rfl ?_ (by simp only [↓nrmL, nrmZ, Nat.reduceEqDiff, ↓reduceIte, Nat.reduceAdd, Int.reduceBEq, Int.reduceBNe, hce, hD, hwd, hA, hB, hlt, h2, h3]; rfl) ?_; (focus omega))
    | (refine Fo.ldI rfl ?_ (by simp only [hce, hD, hwd, hA, hB, hlt, h2, h3]; rfl) ?_; (focus omega))
    | refine Fo.now rfl rfl rfl ?_
    | refine nl hKF ?_
    | refine sq ?_
    | refine rg fun KF hKF => ?_
    | refine Fr.quiet rfl rfl fun KF hKF => ?_
    | refine ct rfl ?_
    | refine sk ?_
    | refine rt ?_
    | refine Wp.block ?_
    | dsimp only [cond_true, cond_false]
   refine rz trivial ?_
   exact ⟨rfl, Ext0.ext⟩
  have hG3 := hG2.next (by have := of_decide_eq_false h2; omega) (by have := of_decide_eq_false h3; omega)
  rw [hgap] at hG3
  repeat first
   | refine oy ?_
   | refine mI ?_
   | refine mB ?_
   | (refine mv ?_)
   | (refine bn rfl rfl rfl (by simp only [hce, hD, hwd, hA, hB, hlt, h2, h3, Bool.false_eq_true, if_false]; rfl) ?_)
   | refine b0 ?_
   | refine fB ?_
   | (refine Fo.idx (by simp only [↓nrmL, nrmK, Nat.reduceEqDiff, ↓reduceIte]; rfl) rfl ?_ (by simp only [↓nrmL, nrmZ, Nat.reduceEqDiff, ↓reduceIte, Nat.reduceAdd, Int.reduceBEq, Int.reduceBNe, hce, hD, hwd, hA, hB, hlt, h2, h3, Bool.false_eq_true, if_false]; rfl) ?_; (focus omega))
   | (refine Fo.ldI rfl ?_ (by simp only [hce, hD, hwd, hA, hB, hlt, h2, h3, Bool.false_eq_true, if_false]; rfl) ?_; (focus omega))
   | (refine Fo.now rfl rfl (by simp only [hce, hD, hwd, hA, hB, hlt, h2, h3, Bool.false_eq_true, if_false]; rfl) ?_)
   | refine Fo.now rfl rfl rfl ?_
   | refine nl hKF ?_
   | refine sq ?_
   | refine rg fun KF hKF => ?_
   | refine Fr.quiet rfl rfl fun KF hKF => ?_
   | refine ct rfl ?_
   | refine cf rfl ?_
   | refine sk ?_
   | refine Wp.block ?_
   | dsimp only [cond_true, cond_false]
  refine ⟨(0 + 1, _, _), by dsimp only; omega, ⟨by simp only [↓nrmL, nrmZ, Nat.reduceEqDiff, ↓reduceIte, Nat.reduceAdd, Int.reduceBEq, Int.reduceBNe]; rfl, rfl, rfl, trivial⟩, by dsimp only; omega, hG3, rfl⟩
 ·skip
  have hxa : (ls[0].length - 1) < ls[i + 1].length := by omega
  have hxb : (ls[0].length - 1) < ls[i].length := by omega
  have hgap : gapG ls (2 * i + 1) = ls[i + 1][(ls[0].length - 1)] - ls[i][(ls[0].length - 1)] := by
   unfold gapG colG
   rw [show (2 * i + 1) / 2 = i by omega, show (2 * i + 1) % 2 = 1 by omega, ga, gb, g0]
   simp only [Nat.one_ne_zero, if_false]
   rw [getD_at hxa, getD_at hxb]
  have ma := hm.it (i + 1) (ls[0].length - 1)
  have mb := hm.it i (ls[0].length - 1)
  rw [ga, getD_at hxa] at ma
  rw [gb, getD_at hxb] at mb
  obtain ⟨A, hA⟩ : ∃ A, ls[i + 1][(ls[0].length - 1)] = A := ⟨_, rfl⟩
  obtain ⟨B, hB⟩ : ∃ B, ls[i][(ls[0].length - 1)] = B := ⟨_, rfl⟩
  rw [hA] at ma
  rw [hB] at mb
  rw [hA, hB] at hgap
  have hwd := w64m ma mb
  obtain ⟨D, hD⟩ : ∃ D, A - B = D := ⟨_, rfl⟩
  rw [hD] at hgap hwd
  cases hlt : decide (A < B)
  rotate_left
  ·have e0 : groupB ls = false := groupB_no fun ⟨_, _, a⟩ => by
    have := (a (2 * i + 1) (by omega)).1
    have := of_decide_eq_true hlt
    omega
   rw [e0] at hR
   subst hR
   repeat first
    | refine ox ?_
    | refine mI ?_
    | refine mB ?_
    | (refine mv ?_)
    | (refine bn rfl rfl rfl (by simp only [hce, hD, hwd, hA, hB, hlt]; rfl) ?_)
    | refine tB ?_
    | (refine Fo.idx (by simp only [↓nrmL, nrmK, Nat.reduceEqDiff, ↓reduceIte]; rfl) rfl ?_ (by simp only [↓nrmL, nrmZ, Nat.reduceEqDiff, ↓reduceIte, Nat.reduceAdd, Int.reduceBEq, Int.reduceBNe, hce, hD, hwd, hA, hB, hlt]; rfl) ?_; (focus omega))
    | (refine Fo.ldI rfl ?_ (by simp only [hce, hD, hwd, hA, hB, hlt]; rfl) ?_; (focus omega))
    | refine Fo.now rfl rfl rfl ?_
    | refine nl hKF ?_
    | refine sq ?_
    | refine rg fun KF hKF => ?_
    | refine Fr.quiet rfl rfl fun KF hKF => ?_
    | refine ct rfl ?_
    | refine sk ?_
    | refine rt ?_
    | refine Wp.block ?_
    | dsimp only [cond_true, cond_false]
   refine rz trivial ?_
   exact ⟨rfl, Ext0.ext⟩
  cases h2 : decide (D < 2)
  rotate_left
  ·have e0 : groupB ls = false := groupB_no fun ⟨_, _, a⟩ => by
    have := (a (2 * i + 1) (by omega)).1
    have := of_decide_eq_true h2
    omega
   rw [e0] at hR
   subst hR
   repeat first
    | refine oy ?_
    | refine ox ?_
    | refine mI ?_
    | refine mB ?_
    | (refine mv ?_)
    | (refine bn rfl rfl rfl (by simp only [hce, hD, hwd, hA, hB, hlt, h2]; rfl) ?_)
    | refine tB ?_
    | refine fB ?_
    | (refine Fo.idx (by simp only [↓nrmL, nrmK, Nat.reduceEqDiff, ↓reduceIte]; rfl) rfl ?_ (by simp only [↓nrmL, nrmZ, Nat.reduceEqDiff, ↓reduceIte, Nat.reduceAdd, Int.reduceBEq, Int.reduceBNe, hce, hD, hwd, hA, hB, hlt, h2]; rfl) ?_; (focus omega))
    | (refine Fo.ldI rfl ?_ (by simp only [hce, hD, hwd, hA, hB, hlt, h2]; rfl) ?_; (focus omega))
    | refine Fo.now rfl rfl rfl ?_
    | refine nl hKF ?_
    | refine sq ?_
    | refine rg fun KF hKF => ?_
    | refine Fr.quiet rfl rfl fun KF hKF => ?_
    | refine ct rfl ?_
    | refine sk ?_
    | refine rt ?_
    | refine Wp.block ?_
    | dsimp only [cond_true, cond_false]
   refine rz trivial ?_
   exact ⟨rfl, Ext0.ext⟩
  cases h3 : decide (D > 64)
  rotate_left
  ·have e0 : groupB ls = false := groupB_no fun ⟨_, _, a⟩ => by
    have := (a (2 * i + 1) (by omega)).2.1
    have := of_decide_eq_true h3
    omega
   rw [e0] at hR
   subst hR
   repeat first
    | refine oy ?_
    | refine mI ?_
    | refine mB ?_
    | (refine mv ?_)
    | (refine bn rfl rfl rfl (by simp only [hce, hD, hwd, hA, hB, hlt, h2, h3]; rfl) ?_)
    | refine fB ?_
    | (refine Fo.idx (by simp only [↓nrmL, nrmK, Nat.reduceEqDiff, ↓reduceIte]; rfl) rfl ?_ (by simp only [↓nrmL, nrmZ, Nat.reduceEqDiff, ↓reduceIte, Nat.reduceAdd, Int.reduceBEq, Int.reduceBNe, hce, hD, hwd, hA, hB, hlt, h2, h3]; rfl) ?_; (focus omega))
    | (refine Fo.ldI rfl ?_ (by simp only [hce, hD, hwd, hA, hB, hlt, h2, h3]; rfl) ?_; (focus omega))
    | refine Fo.now rfl rfl rfl ?_
    | refine nl hKF ?_
    | refine sq ?_
    | refine rg fun KF hKF => ?_
    | refine Fr.quiet rfl rfl fun KF hKF => ?_
    | refine ct rfl ?_
    | refine sk ?_
    | refine rt ?_
    | refine Wp.block ?_
    | dsimp only [cond_true, cond_false]
   refine rz trivial ?_
   exact ⟨rfl, Ext0.ext⟩
  have hG3 := hG2.next (by have := of_decide_eq_false h2; omega) (by have := of_decide_eq_false h3; omega)
  rw [hgap] at hG3
  repeat first
   | refine oy ?_
   | refine mI ?_
   | refine mB ?_
   | (refine mv ?_)
   | (refine bn rfl rfl rfl (by simp only [hce, hD, hwd, hA, hB, hlt, h2, h3, Bool.false_eq_true, if_false]; rfl) ?_)
   | refine b0 ?_
   | refine fB ?_
   | (refine Fo.idx (by simp only [↓nrmL, nrmK, Nat.reduceEqDiff, ↓reduceIte]; rfl) rfl ?_ (by simp only [↓nrmL, nrmZ, Nat.reduceEqDiff, ↓reduceIte, Nat.reduceAdd, Int.reduceBEq, Int.reduceBNe, hce, hD, hwd, hA, hB, hlt, h2, h3, Bool.false_eq_true, if_false]; rfl) ?_; (focus omega))
   | (refine Fo.ldI rfl ?_ (by simp only [hce, hD, hwd, hA, hB, hlt, h2, h3, Bool.false_eq_true, if_false]; rfl) ?_; (focus omega))
   | (refine Fo.now rfl rfl (by simp only [hce, hD, hwd, hA, hB, hlt, h2, h3, Bool.false_eq_true, if_false]; rfl) ?_)
   | refine Fo.now rfl rfl rfl ?_
   | refine nl hKF ?_
   | refine sq ?_
   | refine rg fun KF hKF => ?_
   | refine Fr.quiet rfl rfl fun KF hKF => ?_
   | refine ct rfl ?_
   | refine cf rfl ?_
   | refine sk ?_
   | refine Wp.block ?_
   | dsimp only [cond_true, cond_false]
  refine ⟨(1 + 1, _, _), by dsimp only; omega, ⟨by simp only [↓nrmL, nrmZ, Nat.reduceEqDiff, ↓reduceIte, Nat.reduceAdd, Int.reduceBEq, Int.reduceBNe]; rfl, rfl, rfl, trivial⟩, by dsimp only; omega, hG3, rfl⟩
end Go.Am

namespace Go.Am
open Go
end Go.Am

namespace Go.Am
open Go
section
variable {call : ACall} {its : List DItem} {H0 : AHeap} {n ref : Nat} {E : List (Nat × AHeap)} {Rd : List (Nat × (AHeap → Bool))} {fr : AFrame} {H : AHeap} {K : AFrame → AHeap → Prop} {g : Option (Nat × Bool)} {b : Nat} {pre : Bool}
theorem WpE.grow {d : Option Nat} {e : TypeId} {x y : ROpd} {p q : AVal} {sz m k bytes : Nat} {cs new : List AVal} (hw : ROper.wanted fr ⟨d, .append e sz bytes x y, g⟩ = true) (hx : x.ev fr = p) (hy : y.ev fr = q) [h : OwnS H p sz m cs e] [hq : SliceAt H q sz k new] (hsz : 0 < sz) (hb : 0 < bytes) (hk : 0 < k) (hroom : 2 * (m + k) * bytes ≤ 2 ^ 48) (hone : new.all AVal.one = true)
    (hK : ∀ p' H', OwnS H' p' sz (m + k) (cs ++ new) e → FreshS H p' → ExtP H H' p → AllR b H' Rd ∧ WpE call (n + 1) ref its H0 ((n, H) :: E) Rd (put fr d p') H' K) : WpE call n ref (⟨⟨d, .append e sz bytes x y, g⟩, b, 2, pre⟩ :: its) H0 E Rd fr H K := by
  obtain ⟨p', H1, h1, h2, h3, h4⟩ := WpX.grow (call := call) (K := fun v H1 => OwnS H1 v sz (m + k) (cs ++ new) e ∧ FreshS H v ∧ ExtP H H1 p) hx hy hsz hb hk hroom hone fun p' H' q1 q2 q3 => ⟨q1, q2, q3⟩
  obtain ⟨h5, h6⟩ := hK p' H1 h2 h3 h4
  exact WpE.effect hw h1 h5 h6
end
theorem exec_bs {call : ACall} {fr : AFrame} {H : AHeap} {e : TypeId} {sz len : Nat} {zero : List AVal} {parts : List (Nat × Nat × ROpd)} {cs : List AVal} (hf : aFill fr zero parts = some cs) : (ROp.buildSlice e sz len zero parts).exec call fr H = some (.slice H.n 0 len (some len) sz, H.push (.row cs true (2 * e))) := by simp only [ROp.exec, hf, M.bind, aNew, M.pure]
theorem exec_stW {call : ACall} {fr : AFrame} {H : AHeap} {a x : ROpd} {r off : Nat} {cs l : List AVal} {e : TypeId} {v : AVal} (ha : a.ev fr = .ptr r off) (hx : x.ev fr = v) [o : OneV v] [hg : HasRow H r cs true e] (hl : Nat.ble (off + 1) cs.length = true) (hs : cs.set off v = l) : (ROp.store 1 a x).exec call fr H = some (aundef, H.set r (.row l true e)) := by
  obtain ⟨u, H1, q1, rfl, rfl⟩ := WpX.store (call := call) (fr := fr) (H := H) (n := 1) (K := fun u H1 => u = aundef ∧ H1 = H.set r (.row (setAt cs off v.cells) true e)) ha hx (by rw [o.cells]; rfl) hg.lt hg.get (by rw [o.cells]; exact Nat.le_of_ble_eq_true hl) (by rw [o.cells, List.all_cons, o.one]; rfl) ⟨rfl, rfl⟩
  rw [o.cells, setAt_one, hs] at q1
  exact q1
theorem exec_idxO {call : ACall} {fr : AFrame} {H : AHeap} {x i : ROpd} {p : AVal} {sz n a o : Nat} {cs : List AVal} {k : IntKind} (hx : x.ev fr = p) (hi : i.ev fr = .int k (a : Int)) (s : SliceAt H p sz n cs) (h0 : a < n) (ho : offOf p + a * sz = o) : (ROp.idxS sz x i).exec call fr H = some (.ptr (rowOf p) o, H) := by
  subst ho
  rw [exec_idxP hx hi (s := s) (by omega), Int.toNat_natCast]
end Go.Am

namespace Go.Am
open Go
attribute [local irreducible] Wp WpO WpX WpE
theorem exec_emptyO {H : AHeap} {p : AVal} {sz k r bytes : Nat} {new : List AVal} {e0 : TypeId} (h : SliceAt H p sz k new) (g : HasRow H r [] true e0) (hsz : 0 < sz) (hb : 0 < bytes) (hk : 0 < k) (hroom : 2 * k * bytes ≤ 2 ^ 48) (hone : new.all AVal.one = true) (e : TypeId) :
  ∃ v H', aAppend e sz bytes (.slice r 0 0 (some 0) sz) p H = some (v, H') ∧ OwnS H' v sz k new e ∧ FreshS H v ∧ Ext H H' := by
 obtain ⟨hf1, hf2⟩ := aFirst_at h
 have hlen := h.len
 have hg1 := g.get
 have hg0 := g.lt
 have hs0 : ¬ sz = 0 := by omega
 have hb0 : ¬ bytes = 0 := by omega
 have ha : aRow r H = some (([], true), H) := by simp only [aRow, if_pos hg0, hg1]
 have key : aAppend e sz bytes (.slice r 0 0 (some 0) sz) p H = (if k = 0 then M.pure (.slice r 0 0 (some 0) sz) H else M.bind (aNew (.row new true (2 * e))) (fun r' => M.pure (.slice r' 0 (0 + k) none sz)) H) := by
  simp only [aAppend, hf1]
  rw [bind_of hf2]
  simp only [hone, hlen, Bool.not_true, ne_eq, not_true, decide_false, hs0, hb0, Bool.or_false, Bool.false_eq_true, if_false]
  rw [bind_of ha]
  have hk0 : ¬ k = 0 := by omega
  have hcap : ¬ (0 + k ≤ 0) := by omega
  have hcond : 0 + 0 * sz ≤ ([] : List AVal).length ∧ 2 * (0 + k) * bytes ≤ 2 ^ 48 := ⟨by simp, by rw [Nat.zero_add]; exact hroom⟩
  simp only [hk0, if_false, if_neg hcap]
  rw [if_pos hcond]
  have : (List.take (0 * sz) (List.drop 0 ([] : List AVal)) ++ new) = new := by simp
  rw [this]
 rw [key, if_neg (by omega)]
 refine ⟨.slice H.n 0 (0 + k) none sz, H.push (.row new true (2 * e)), rfl, ?_, ⟨fun r' _ _ _ _ e => by cases e; exact Nat.le_refl _⟩, (Ext.refl H).push _⟩
 rw [Nat.zero_add]
 exact ⟨Or.inr ⟨H.n, 2 * e, rfl, Nat.lt_succ_self _, push_get_eq, Nat.mul_div_cancel_left e (by decide), hlen, hk⟩⟩
theorem WpX.emptyO {call : ACall} {fr : AFrame} {H : AHeap} {K : AVal → AHeap → Prop} {e e0 : TypeId} {x y : ROpd} {p : AVal} {sz k r bytes : Nat} {new : List AVal} (hx : x.ev fr = .slice r 0 0 (some 0) sz) (hy : y.ev fr = p) (h : SliceAt H p sz k new) [g : HasRow H r [] true e0] (hsz : 0 < sz) (hb : 0 < bytes) (hk : 0 < k) (hroom : 2 * k * bytes ≤ 2 ^ 48) (hone : new.all AVal.one = true)
  (hK : ∀ v H', OwnS H' v sz k new e → FreshS H v → ExtI H H' → K v H') : WpX (.append e sz bytes x y) call fr H K := by
 obtain ⟨v, H', h1, h2, h3, h5⟩ := exec_emptyO h g hsz hb hk hroom hone e
 exact WpX.now (v := v) (H1 := H') (by simp only [ROp.exec, hx, hy]; exact h1) (hK v H' h2 h3 ⟨h5⟩)
theorem K_CloneI {p : AVal} {H : AHeap} {l : List Int} [hp : IntsI H p l] [hs : SlimI l] (h0 : l ≠ []) : Con ext prog 1 14 [p] H fun v H' => OwnS H' v 1 l.length (cellsI l) 3 ∧ FreshS H v ∧ Ext H H' := by
 refine con_of (show prog 14 = some c14 from rfl) rfl rfl fun n hn => ?_
 have hle := hs.le
 have hl0 : 0 < l.length := by cases l with | nil => exact absurd rfl h0 | cons a l => simp
 rcases hp.it with ⟨rfl, h0', _⟩ | ⟨r, off, cap, row, rw, e, rfl, hr, hg, hle', hc, _⟩
 ·omega
 ·skip
  repeat first
   | refine mN ?_
   | (refine mv ?_)
   | refine Fo.bslice rfl rfl ?_
   | (refine Fo.now rfl rfl (by simp only [↓nrmL, nrmZ, Nat.reduceEqDiff, ↓reduceIte, Nat.reduceAdd, Int.reduceBEq, Int.reduceBNe]; rfl) ?_)
   | refine nl hKF ?_
   | refine sq ?_
   | refine rg fun KF hKF => ?_
   | refine cf rfl ?_
   | refine sk ?_
  refine WpO.do (WpX.emptyO rfl (by simp only [↓nrmL, nrmZ, Nat.reduceEqDiff, ↓reduceIte, Nat.reduceAdd, Int.reduceBEq, Int.reduceBNe, List.map] <;> rfl) (inferInstance : IntsI _ _ l) (by decide) (by decide) hl0 (by omega) (cellsI_ones l) fun v H1 h1 h2 h3 => ?_)
  haveI := h1.sl.one
  refine mv ?_
  refine nl hKF ?_
  refine rt ?_
  dsimp only [cond_true, cond_false]
  refine rz trivial ?_
  exact ⟨h1, h2.weak, Ext0.ext⟩
def StG (B : Nat) (H : AHeap) (q : AVal) (ls : List (List Int)) : Prop := ∃ cells, OwnS H q 1 ls.length cells 25 ∧ Copied B H cells ls ls.length ∧ ∀ r off len cap sz, q = .slice r off len cap sz → B ≤ r
theorem StG.lines {B : Nat} {H : AHeap} {q : AVal} {ls : List (List Int)} (h : StG B H q ls) : LinesI H q ls := by
 obtain ⟨cells, h1, h2, h3⟩ := h
 exact ⟨cells, h1.sl, ⟨fun i hi => by obtain ⟨p, a1, a2, a3⟩ := h2.it i hi hi; exact ⟨p, a1, a2.sl⟩⟩⟩
theorem StG.weak {B B' : Nat} {H : AHeap} {q : AVal} {ls : List (List Int)} (h : StG B H q ls) (hB : B' ≤ B) : StG B' H q ls := by
 obtain ⟨cells, h1, h2, h3⟩ := h
 exact ⟨cells, h1, ⟨fun i hi h4 => by obtain ⟨p, a1, a2, a3⟩ := h2.it i hi h4; exact ⟨p, a1, a2, fun r off len cap sz e => Nat.le_trans hB (a3 r off len cap sz e)⟩⟩, fun r off len cap sz e => Nat.le_trans hB (h3 r off len cap sz e)⟩
theorem StG.keep {B : Nat} {H H' : AHeap} {q : AVal} {ls : List (List Int)} (h : StG B H q ls) (hn : H.n ≤ H'.n) (hg : ∀ s cs e, s < H.n → B ≤ s → H.get s = .row cs true e → (e / 2 = 3 ∨ e / 2 = 25) → H'.get s = H.get s) : StG B H' q ls := by
 obtain ⟨cells, h1, h2, h3⟩ := h
 refine ⟨cells, ?_, h2.keep hn fun s cs e a b c d => hg s cs e a b c (Or.inl d), h3⟩
 rcases h1.it with ⟨a1, a2, a3⟩ | ⟨r, e', a1, a2, a3, a4, a5, a6⟩
 ·exact ⟨Or.inl ⟨a1, a2, a3⟩⟩
 ·exact ⟨Or.inr ⟨r, e', a1, by omega, by rw [hg r _ _ a2 (h3 _ _ _ _ _ a1) a3 (Or.inr a4)]; exact a3, a4, a5, a6⟩⟩
theorem StG.ext {B : Nat} {H H' : AHeap} {q : AVal} {ls : List (List Int)} (h : StG B H q ls) (x : Ext H H') : StG B H' q ls := h.keep x.n fun s _ _ a _ _ _ => x.get s a
theorem K_stGroup {H : AHeap} {p : AVal} {ls : List (List Int)} [hp : LinesI H p ls] [hs : SlimL ls] (hne : ∀ (i : Nat) (h : i < ls.length), ls[i] ≠ []) : Con ext prog 2 73 [p] H fun v H' => ∃ q, v = .agg [q] ∧ StG H.n H' q ls ∧ Ext H H' := by
 refine con_of (show prog 73 = some c73 from rfl) rfl rfl fun n hn => ?_
 obtain ⟨ps, hps, hrw⟩ := hp.it
 haveI := hps
 haveI := hps.one
 have hle := hs.le
 repeat first
  | refine mI ?_
  | (refine mv ?_)
  | (refine ln (by simp only [↓nrmL, nrmK, Nat.reduceEqDiff, ↓reduceIte]; rfl) ?_)
  | refine nw ?_
  | refine nl hKF ?_
  | refine sq ?_
  | refine rg fun KF hKF => ?_
  | refine Wp.block ?_
  | dsimp only [cond_true, cond_false]
 refine Wp.loopS (σ := Nat × AVal) [5, 8, 9, 10, 11, 12, 13, 14, 15, 16, 17, 18, 19] (fun s => [(8, .int .i64 (s.1 : Int))]) (fun H3 s H2 => s.1 ≤ ls.length ∧ H.n + 2 ≤ H2.n ∧ HasRow H2 (H.push (.row [.nslice] true (2 * 43))).n [s.2] true (2 * 43) ∧ HasRow H2 H.n [.nslice] true (2 * 43) ∧ ∃ cells, OwnS H2 s.2 1 s.1 cells 25 ∧ Copied (H.n + 2) H2 cells ls s.1 ∧ (∀ r off len cap sz, s.2 = .slice r off len cap sz → H.n + 2 ≤ r) ∧ Ext H H2) (fun s => ls.length - s.1) (0, .nslice) rfl (fun _ => rfl) ⟨rfl, trivial⟩ ⟨Nat.zero_le _, Nat.le_refl _, (show HasRow ((H.push (.row [.nslice] true (2 * 43))).push (.row [.nslice] true (2 * 43))) (H.push (.row [.nslice] true (2 * 43))).n [.nslice] true (2 * 43) from inferInstance), inferInstance, [], ⟨Or.inl ⟨rfl, rfl, rfl⟩⟩, ⟨fun j h1 h2 => by cases h2⟩, fun _ _ _ _ _ e => (by cases e), Ext0.ext⟩ (by unfold fuel0 at hn; dsimp only; omega) ?_
 rintro ⟨i, op⟩ g H2 ⟨hi, hn2, hrow, hrow0, cells, ho, hc, hf, hx⟩
 dsimp only at hi ho hc hf hrow
 haveI : ExtI H H2 := ⟨hx⟩
 haveI := hrow
 haveI := hrow0
 haveI := ho.sl.one
 simp only [↓nrmL, nrmZ, Nat.reduceEqDiff, ↓reduceIte, Nat.reduceAdd, Int.reduceBEq, Int.reduceBNe]
 cases hcc : decide ((i : Int) < ((ls.length : Nat) : Int))
 ·have hil : i = ls.length := by have := of_decide_eq_false hcc; omega
  subst hil
  repeat first
   | (refine Fo.ldN rfl rfl (by simp only [↓nrmL, nrmZ, Nat.reduceEqDiff, ↓reduceIte, Nat.reduceAdd, Int.reduceBEq, Int.reduceBNe, hcc]; rfl) ?_)
   | (refine bn rfl rfl rfl (by simp only [hcc]; rfl) ?_)
   | (refine so rfl (rfl : _ = AVal.agg _) rfl rfl rfl (by simp only [↓nrmL, nrmZ, Nat.reduceEqDiff, ↓reduceIte, Nat.reduceAdd, Int.reduceBEq, Int.reduceBNe, hcc]; rfl) ?_)
   | refine nl hKF ?_
   | refine sq ?_
   | refine rg fun KF hKF => ?_
   | refine cf rfl ?_
   | refine rt ?_
   | refine xi ?_
   | dsimp only [cond_true, cond_false]
  refine rz trivial ?_
  refine ⟨op, rfl, StG.weak (StG.keep (H := H2) ⟨cells, ho, hc, hf⟩ (Nat.le_refl _) fun s cs e a b c d => ?_) (by omega), ?_⟩
  ·rw [set_get_ne (by omega)]
  ·exact ⟨by simp only [AHeap.set]; exact hx.n, fun s hs => by rw [set_get_ne (by omega), hx.get s hs]⟩
 have hil : i < ls.length := by have := of_decide_eq_true hcc; omega
 have hwi := wa1 (a := i) (by omega)
 obtain ⟨q, hq, hI⟩ := hrw.it i hil
 haveI := hI
 haveI := hI.one
 haveI := hs.it i hil
 repeat first
  | (refine bn rfl rfl rfl (by simp only [hcc]; rfl) ?_)
  | (refine Fo.idx (by simp only [↓nrmL, nrmK, Nat.reduceEqDiff, ↓reduceIte]; rfl) rfl ?_ (by simp only [↓nrmL, nrmZ, Nat.reduceEqDiff, ↓reduceIte, Nat.reduceAdd, Int.reduceBEq, Int.reduceBNe, hcc]; rfl) ?_; (focus omega))
  | refine nl hKF ?_
  | refine sq ?_
  | refine rg fun KF hKF => ?_
  | refine ct rfl ?_
  | refine sk ?_
  | refine Wp.block ?_
 refine Fo.now rfl (exec_ldP (p := p) (j := i) rfl hq) rfl ?_
 refine mv ?_
 refine nl hKF ?_
 dsimp only [cond_true, cond_false]
 refine Fr.dregion0 rfl fun KF hKF => ?_
 refine Fe.pure rfl rfl (by simp only [↓nrmL, nrmZ, Nat.reduceEqDiff, ↓reduceIte, Nat.reduceAdd, Int.reduceBEq, Int.reduceBNe]; rfl) ?_
 refine Er rfl (exec_ld rfl rfl) rfl ?_
 refine Fe.pure rfl rfl (by simp only [↓nrmL, nrmZ, Nat.reduceEqDiff, ↓reduceIte, Nat.reduceAdd, Int.reduceBEq, Int.reduceBNe]; rfl) ?_
 refine Fe.con rfl hn rfl rfl (by simp only [↓nrmL, nrmZ, Nat.reduceEqDiff, ↓reduceIte, Nat.reduceAdd, Int.reduceBEq, Int.reduceBNe, List.map] <;> rfl) (K_CloneI (p := q) (l := ls[i]) (hne i hil)) fun v H3 h5 => ?_
 obtain ⟨h1, h2, h3⟩ := h5
 haveI : ExtI H2 H3 := ⟨h3⟩
 haveI := h1.sl.one
 have ho3 : OwnS H3 op 1 i cells 25 := inferInstance
 have hc3 : Copied (H.n + 2) H3 cells ls i := hc.keep h3.n fun s cs e hs _ _ _ => h3.get s hs
 refine ar ?_
 skip
 refine WpE.effect rfl (exec_bs (cs := [v]) (aFill1 (v := v) rfl rfl rfl)) (by repeat (first | exact trivial | refine ⟨(by first | exact Or.inl (by dsimp only; decide) | exact Or.inr (readOk_of (exec_ld rfl rfl)) | exact Or.inr (readOk_of (exec_ld rfl (by assumption))) | exact Or.inr (readOk_of (exec_ldN rfl rfl rfl)) | exact Or.inr (readOk_of (exec_ldB rfl (by omega))) | exact Or.inr (readOk_of (exec_ldI rfl (by omega))) | exact Or.inr (made_of rfl)), ?_⟩)) ?_
 have hroom : 2 * (i + 1) * 24 ≤ 2 ^ 48 := by omega
 refine WpE.grow (p := op) (q := .slice H3.n 0 1 (some 1) 1) (sz := 1) (k := 1) (cs := cells) (new := [v]) (hq := row_one1 (inferInstance : HasRow _ H3.n [v] true (2 * 25))) rfl rfl rfl (by decide) (by decide) (by decide) hroom (by simp only [List.all_cons, (inferInstance : OneV v).one, List.all_nil, Bool.and_self]) fun op' H9 ho2 hf2 hx2 => ?_
 have hn3 := h3.n
 have hn9 := hx2.n
 simp only [AHeap.push] at hn9
 haveI := ho2.sl.one
 haveI hopne1 : RowNe op (H.push (.row [.nslice] true (2 * 43))).n := ⟨fun r _ _ _ _ e => by have := hf _ _ _ _ _ e; simp only [AHeap.push]; omega⟩
 haveI hopne0 : RowNe op H.n := ⟨fun r _ _ _ _ e => by have := hf _ _ _ _ _ e; omega⟩
 haveI := hx2
 refine ar ?_
 refine Fe.pure rfl rfl (by simp only [↓nrmL, nrmZ, Nat.reduceEqDiff, ↓reduceIte, Nat.reduceAdd, Int.reduceBEq, Int.reduceBNe]; rfl) ?_
 refine Ee rfl (exec_stW (v := op') (l := [op']) rfl rfl rfl rfl) ?_
 refine WpE.nil (hKF _ _ ?_)
 refine rg fun KF hKF => ?_
 refine b0 ?_
 refine mI ?_
 refine nl hKF ?_
 dsimp only [cond_true, cond_false]
 have hkeep : ∀ s cs e, s < H3.n → H.n + 2 ≤ s → H3.get s = .row cs true e → e / 2 = 3 → (H9.set (H.push (.row [.nslice] true (2 * 43))).n (.row [op'] true (2 * 43))).get s = H3.get s := fun s cs e hs hs2 hg he => by
  have hne := ho3.tn hg (fun h7 => by rw [he] at h7; exact absurd h7 (by decide))
  rw [set_get_ne (by simp only [AHeap.push]; omega), hx2.get s (by simp only [AHeap.push]; omega) hne, push_get_lt hs]
 have hcl : cells.length = i := by have := ho.sl.len; omega
 have hopne9 : RowNe op' (H.push (.row [.nslice] true (2 * 43))).n := ⟨fun r _ _ _ _ e => by have := hf2.ge _ _ _ _ _ e; simp only [AHeap.push] at this ⊢; omega⟩
 refine ⟨(i + 1, op'), by dsimp only; omega, ⟨by simp only [↓nrmL, nrmZ, Nat.reduceEqDiff, ↓reduceIte, Nat.reduceAdd, Int.reduceBEq, Int.reduceBNe]; rw [hwi], trivial⟩, by dsimp only; omega, by simp only [AHeap.set]; omega, inferInstance, inferInstance, cells ++ [v], inferInstance, ?_, fun r _ _ _ _ e => by have := hf2.ge _ _ _ _ _ e; simp only [AHeap.push] at this; omega, ?_⟩
 ·have hc9 := hc3.keep (H' := H9.set (H.push (.row [.nslice] true (2 * 43))).n (.row [op'] true (2 * 43))) (by simp only [AHeap.set]; omega) hkeep
  have h9 : Copied (H.n + 2) (H9.set (H.push (.row [.nslice] true (2 * 43))).n (.row [op'] true (2 * 43))) [v] [ls[i]] 1 := by
   refine Copied.keep (H := H3) ⟨fun j a b => ?_⟩ (by simp only [AHeap.set]; omega) hkeep
   obtain rfl : j = 0 := by omega
   exact ⟨v, rfl, h1, fun r _ _ _ _ e => by have := h2.ge _ _ _ _ _ e; omega⟩
  refine ⟨fun j a b => ?_⟩
  by_cases hj : j < i
  ·obtain ⟨q', b1, b2, b3⟩ := hc9.it j a hj
   exact ⟨q', by rw [List.getElem?_append_left (by omega)]; exact b1, b2, b3⟩
  ·obtain rfl : j = i := by dsimp only at b; omega
   obtain ⟨q', b1, b2, b3⟩ := h9.it 0 (by simp) (by decide)
   exact ⟨q', by rw [List.getElem?_append_right (by omega), hcl, Nat.sub_self]; exact b1, b2, b3⟩
 ·refine ⟨by simp only [AHeap.set]; have := hx.n; omega, fun r hr => ?_⟩
  have := hx.n
  rw [set_get_ne (by simp only [AHeap.push]; omega), hx2.get r (by simp only [AHeap.push]; omega) ⟨fun r' _ _ _ _ e => by have := hf _ _ _ _ _ e; omega⟩, push_get_lt (by omega), h3.get r (by omega), hx.get r hr]
end Go.Am

namespace Go.Am
open Go
attribute [local irreducible] Wp WpO WpX WpE
def gapsL (ls : List (List Int)) (m : Nat) : List Int := (List.range m).map (gapG ls)
theorem gapsL_len (ls : List (List Int)) (m : Nat) : (gapsL ls m).length = m := by simp [gapsL]
theorem gapsL_succ (ls : List (List Int)) (m : Nat) : gapsL ls (m + 1) = gapsL ls m ++ [gapG ls m] := by simp [gapsL, List.range_succ]
theorem gapsL_at {ls : List (List Int)} {m k : Nat} (h : k < (gapsL ls m).length) : (gapsL ls m)[k] = gapG ls k := by simp [gapsL]
theorem cellsI_snoc (l : List Int) (x : Int) : cellsI (l ++ [x]) = cellsI l ++ [.int .i64 x] := by simp [cellsI]
theorem K_refGroup {p : AVal} {H : AHeap} {ls : List (List Int)} [hp : LinesI H p ls] [hm : ModL ls] (h5 : ls.length = 5) (hs : ∀ (i : Nat) (h : i < ls.length), ls[i].length < 2 ^ 60) : Con ext prog 1 74 [p] H fun v H' => v = .bool (groupB ls) ∧ Ext H H' := by
 refine con_of (show prog 74 = some c74 from rfl) rfl rfl fun n hn => ?_
 obtain ⟨ps, hps, hrw⟩ := hp.it
 haveI := hps
 haveI := hps.one
 obtain ⟨q0, hq0, hI0⟩ := hrw.it 0 (by omega)
 haveI := hI0
 haveI := hI0.one
 have g0 : lenG ls = ls[0].length := by unfold lenG; rw [getDL_at (by omega)]
 obtain ⟨R, hR⟩ : ∃ R, groupB ls = R := ⟨_, rfl⟩
 rw [hR]
 have hs0 := hs 0 (by omega)
 cases h0 : (((ls[0].length : Nat) : Int) == 0)
 rotate_left
 ·have e00 : ls[0].length = 0 := by
   have : ((ls[0].length : Nat) : Int) = 0 := by simpa using h0
   omega
  have e0 : groupB ls = false := groupB_no fun ⟨a, _⟩ => a (by rw [g0]; exact e00)
  rw [e0] at hR
  subst hR
  repeat first
   | refine mB ?_
   | (refine mv ?_)
   | (refine Fo.idx (by simp only [↓nrmL, nrmK, Nat.reduceEqDiff, ↓reduceIte]; rfl) rfl ?_ (by simp only [↓nrmL, nrmZ, Nat.reduceEqDiff, ↓reduceIte, Nat.reduceAdd, Int.reduceBEq, Int.reduceBNe]; rfl) ?_; (focus omega))
   | refine nl hKF ?_
   | refine sq ?_
   | refine rg fun KF hKF => ?_
  refine Fo.now rfl (exec_ldP (p := p) (j := 0) rfl hq0) rfl ?_
  repeat first
   | refine mI ?_
   | refine mB ?_
   | (refine bn rfl rfl rfl (by simp only [↓nrmL, nrmZ, Nat.reduceEqDiff, ↓reduceIte, Nat.reduceAdd, Int.reduceBEq, Int.reduceBNe, h0]; rfl) ?_)
   | (refine ln (by simp only [↓nrmL, nrmK, Nat.reduceEqDiff, ↓reduceIte]; rfl) ?_)
   | refine nl hKF ?_
   | refine sq ?_
   | refine rg fun KF hKF => ?_
   | refine ct rfl ?_
   | refine rt ?_
   | dsimp only [cond_true, cond_false]
  refine rz trivial ?_
  exact ⟨rfl, Ext0.ext⟩
 have hl0 : ls[0].length ≠ 0 := by
  have : ¬ ((ls[0].length : Nat) : Int) = 0 := by simpa using h0
  omega
 have hws := ws1 (a := ls[0].length) (by omega) (by omega)
 repeat first
  | refine mB ?_
  | (refine mv ?_)
  | (refine Fo.idx (by simp only [↓nrmL, nrmK, Nat.reduceEqDiff, ↓reduceIte]; rfl) rfl ?_ (by simp only [↓nrmL, nrmZ, Nat.reduceEqDiff, ↓reduceIte, Nat.reduceAdd, Int.reduceBEq, Int.reduceBNe]; rfl) ?_; (focus omega))
  | refine nl hKF ?_
  | refine sq ?_
  | refine rg fun KF hKF => ?_
 refine Fo.now rfl (exec_ldP (p := p) (j := 0) rfl hq0) rfl ?_
 repeat first
  | refine mI ?_
  | refine mN ?_
  | (refine bn rfl rfl rfl (by simp only [↓nrmL, nrmZ, Nat.reduceEqDiff, ↓reduceIte, Nat.reduceAdd, Int.reduceBEq, Int.reduceBNe, h0]; rfl) ?_)
  | (refine ln (by simp only [↓nrmL, nrmK, Nat.reduceEqDiff, ↓reduceIte]; rfl) ?_)
  | refine nl hKF ?_
  | refine sq ?_
  | refine rg fun KF hKF => ?_
  | refine cf rfl ?_
  | refine sk ?_
  | refine Wp.block ?_
  | dsimp only [cond_true, cond_false]
 refine Wp.loopS (σ := Nat × AVal) [2, 4, 5, 14, 15, 16, 17, 18, 19, 20, 21, 22, 23, 24, 25, 26, 27, 28, 29, 30, 31, 32, 33, 34, 35, 36, 37, 38, 39, 40, 41, 42, 43, 44, 45, 46, 47, 48, 49, 50, 51, 52, 53, 54, 55, 56, 57, 58, 59, 60, 61, 62, 63, 64] (fun s => [(5, .int .i64 (s.1 : Int)), (4, s.2)]) (fun H3 s H2 => s.1 ≤ 5 ∧ (∀ k, k < s.1 → (ls.getD k []).length = lenG ls) ∧ OwnS H2 s.2 1 (2 * (s.1 - 1)) (cellsI (gapsL ls (2 * (s.1 - 1)))) 3 ∧ FreshS H3 s.2 ∧ Ext0 H3 H2) (fun s => 5 - s.1) (0, .nslice) rfl (fun _ => rfl) ⟨rfl, rfl, trivial⟩ ⟨Nat.zero_le _, fun k hk => (by cases hk), ⟨Or.inl ⟨rfl, rfl, rfl⟩⟩, ⟨fun _ _ _ _ _ e => by cases e⟩, inferInstance⟩ (by unfold fuel0 at hn; dsimp only; omega) ?_
 rintro ⟨i, op⟩ g H2 ⟨hi, hlen, ho, hf, ⟨hx⟩⟩
 dsimp only at hi hlen ho hf
 haveI : ExtI H H2 := ⟨hx⟩
 haveI := ho.sl
 haveI := ho.sl.one
 simp only [↓nrmL, nrmZ, Nat.reduceEqDiff, ↓reduceIte, Nat.reduceAdd, Int.reduceBEq, Int.reduceBNe]
 cases hc : decide ((i : Int) < 5)
 ·have hi5 : i = 5 := by have := of_decide_eq_false hc; omega
  subst hi5
  have hl8 := gapsL_len ls 8
  haveI hI8 : IntsI H2 op (gapsL ls 8) := by unfold IntsI; rw [hl8]; exact ho.sl
  have hbd : ∀ k, -2199023255552 ≤ gapG ls k ∧ gapG ls k ≤ 2199023255552 := fun k => by
   have a1 := hm.it (k / 2 + 1) (colG ls k)
   have a2 := hm.it (k / 2) (colG ls k)
   unfold gapG; omega
  repeat first
   | refine mI ?_
   | (refine bn rfl rfl rfl (by simp only [↓nrmL, nrmZ, Nat.reduceEqDiff, ↓reduceIte, Nat.reduceAdd, Int.reduceBEq, Int.reduceBNe, hc]; rfl) ?_)
   | refine nl hKF ?_
   | refine sq ?_
   | refine rg fun KF hKF => ?_
   | refine cf rfl ?_
   | refine Wp.block ?_
   | refine xi ?_
   | dsimp only [cond_true, cond_false]
  refine Wp.loopS [2, 6, 7, 65, 66, 67, 68, 69, 70, 71, 72, 73, 74, 75, 76, 77, 78, 79, 80, 81, 82, 83, 84, 85, 86, 87, 88, 89, 90, 91, 92, 93, 94] (fun k : Nat => [(6, .int .i64 (k : Int))]) (fun H3 k H4 => k ≤ 8 ∧ (∀ m, m < k → 2 ≤ gapG ls m ∧ gapG ls m ≤ 64 ∧ ∀ k, k < 8 → gapG ls m - gapG ls k ≤ 2) ∧ H4 = H3) (fun k => 8 - k) 0 rfl (fun _ => rfl) ⟨rfl, trivial⟩ ⟨Nat.zero_le _, fun m hm => by omega, rfl⟩ (by unfold fuel0 at hn; omega) ?_
  rintro k g2 H4 ⟨hk, hok, rfl⟩
  simp only [↓nrmL, nrmZ, Nat.reduceEqDiff, ↓reduceIte, Nat.reduceAdd, Int.reduceBEq, Int.reduceBNe]
  cases hck : decide ((k : Int) < 8)
  ·have hk8 : k = 8 := by have := of_decide_eq_false hck; omega
   subst hk8
   have e0 : groupB ls = true := groupB_iff.2 ⟨by rw [g0]; exact hl0, fun j hj => hlen j (by omega), hok⟩
   rw [e0] at hR
   subst hR
   repeat first
    | refine mI ?_
    | refine mB ?_
    | (refine bn rfl rfl rfl (by simp only [↓nrmL, nrmZ, Nat.reduceEqDiff, ↓reduceIte, Nat.reduceAdd, Int.reduceBEq, Int.reduceBNe, hck]; rfl) ?_)
    | refine nl hKF ?_
    | refine sq ?_
    | refine rg fun KF hKF => ?_
    | refine cf rfl ?_
    | refine rt ?_
    | refine xi ?_
    | dsimp only [cond_true, cond_false]
   refine rz trivial ?_
   exact ⟨rfl, Ext0.ext⟩
  have hk8 : k < 8 := by have := of_decide_eq_true hck; omega
  have hkl : k < (gapsL ls 8).length := by omega
  have hgk := gapsL_at hkl
  have hwk := wa1 (a := k) (by omega)
  cases h2 : decide (gapG ls k < 2)
  rotate_left
  ·have e0 : groupB ls = false := groupB_no fun ⟨_, _, a⟩ => by
    have := (a k hk8).1
    have := of_decide_eq_true h2
    omega
   rw [e0] at hR
   subst hR
   repeat first
    | refine ox ?_
    | refine mI ?_
    | refine mB ?_
    | (refine mv ?_)
    | (refine bn rfl rfl rfl (by simp only [↓nrmL, nrmZ, Nat.reduceEqDiff, ↓reduceIte, Nat.reduceAdd, Int.reduceBEq, Int.reduceBNe, hck, hgk, h2]; rfl) ?_)
    | refine tB ?_
    | (refine Fo.idx (by simp only [↓nrmL, nrmK, Nat.reduceEqDiff, ↓reduceIte]; rfl) rfl ?_ (by simp only [↓nrmL, nrmZ, Nat.reduceEqDiff, ↓reduceIte, Nat.reduceAdd, Int.reduceBEq, Int.reduceBNe, hck, hgk, h2]; rfl) ?_; (focus omega))
    | (refine Fo.ldI rfl ?_ (by simp only [↓nrmL, nrmZ, Nat.reduceEqDiff, ↓reduceIte, Nat.reduceAdd, Int.reduceBEq, Int.reduceBNe, hck, hgk, h2]; rfl) ?_; (focus omega))
    | refine nl hKF ?_
    | refine sq ?_
    | refine rg fun KF hKF => ?_
    | refine ct rfl ?_
    | refine sk ?_
    | refine rt ?_
    | refine Wp.block ?_
    | dsimp only [cond_true, cond_false]
   refine rz trivial ?_
   exact ⟨rfl, Ext0.ext⟩
  cases h3 : decide (gapG ls k > 64)
  rotate_left
  ·have e0 : groupB ls = false := groupB_no fun ⟨_, _, a⟩ => by
    have := (a k hk8).2.1
    have := of_decide_eq_true h3
    omega
   rw [e0] at hR
   subst hR
   repeat first
    | refine oy ?_
    | refine mI ?_
    | refine mB ?_
    | (refine mv ?_)
    | (refine bn rfl rfl rfl (by simp only [↓nrmL, nrmZ, Nat.reduceEqDiff, ↓reduceIte, Nat.reduceAdd, Int.reduceBEq, Int.reduceBNe, hck, hgk, h2, h3]; rfl) ?_)
    | refine fB ?_
    | (refine Fo.idx (by simp only [↓nrmL, nrmK, Nat.reduceEqDiff, ↓reduceIte]; rfl) rfl ?_ (by simp only [↓nrmL, nrmZ, Nat.reduceEqDiff, ↓reduceIte, Nat.reduceAdd, Int.reduceBEq, Int.reduceBNe, hck, hgk, h2, h3]; rfl) ?_; (focus omega))
    | (refine Fo.ldI rfl ?_ (by simp only [↓nrmL, nrmZ, Nat.reduceEqDiff, ↓reduceIte, Nat.reduceAdd, Int.reduceBEq, Int.reduceBNe, hck, hgk, h2, h3]; rfl) ?_; (focus omega))
    | refine nl hKF ?_
    | refine sq ?_
    | refine rg fun KF hKF => ?_
    | refine ct rfl ?_
    | refine sk ?_
    | refine rt ?_
    | refine Wp.block ?_
    | dsimp only [cond_true, cond_false]
   refine rz trivial ?_
   exact ⟨rfl, Ext0.ext⟩
  repeat first
   | refine oy ?_
   | refine mI ?_
   | refine mB ?_
   | (refine mv ?_)
   | (refine bn rfl rfl rfl (by simp only [↓nrmL, nrmZ, Nat.reduceEqDiff, ↓reduceIte, Nat.reduceAdd, Int.reduceBEq, Int.reduceBNe, hck, hgk, h2, h3]; rfl) ?_)
   | refine fB ?_
   | (refine Fo.idx (by simp only [↓nrmL, nrmK, Nat.reduceEqDiff, ↓reduceIte]; rfl) rfl ?_ (by simp only [↓nrmL, nrmZ, Nat.reduceEqDiff, ↓reduceIte, Nat.reduceAdd, Int.reduceBEq, Int.reduceBNe, hck, hgk, h2, h3]; rfl) ?_; (focus omega))
   | (refine Fo.ldI rfl ?_ (by simp only [↓nrmL, nrmZ, Nat.reduceEqDiff, ↓reduceIte, Nat.reduceAdd, Int.reduceBEq, Int.reduceBNe, hck, hgk, h2, h3]; rfl) ?_; (focus omega))
   | refine nl hKF ?_
   | refine sq ?_
   | refine rg fun KF hKF => ?_
   | refine ct rfl ?_
   | refine cf rfl ?_
   | refine sk ?_
   | refine Wp.block ?_
   | dsimp only [cond_true, cond_false]
  refine Wp.loopS [2, 7, 81, 82, 83, 84, 85, 86, 87, 88, 89, 90, 91, 92, 93, 94] (fun m : Nat => [(7, .int .i64 (m : Int))]) (fun H3 m H5 => m ≤ 8 ∧ (∀ j, j < m → gapG ls k - gapG ls j ≤ 2) ∧ H5 = H3) (fun m => 8 - m) 0 rfl (fun _ => rfl) ⟨rfl, trivial⟩ ⟨Nat.zero_le _, fun m hm => by omega, rfl⟩ (by unfold fuel0 at hn; omega) ?_
  rintro m g3 H5 ⟨hm8, hok2, rfl⟩
  simp only [↓nrmL, nrmZ, Nat.reduceEqDiff, ↓reduceIte, Nat.reduceAdd, Int.reduceBEq, Int.reduceBNe]
  cases hcm : decide ((m : Int) < 8)
  ·have hm8' : m = 8 := by have := of_decide_eq_false hcm; omega
   subst hm8'
   repeat first
    | refine mI ?_
    | (refine bn rfl rfl rfl (by simp only [↓nrmL, nrmZ, Nat.reduceEqDiff, ↓reduceIte, Nat.reduceAdd, Int.reduceBEq, Int.reduceBNe, hcm]; rfl) ?_)
    | refine b0 ?_
    | refine nl hKF ?_
    | refine sq ?_
    | refine rg fun KF hKF => ?_
    | refine cf rfl ?_
    | refine xi ?_
    | dsimp only [cond_true, cond_false]
   refine ⟨k + 1, by omega, ⟨by simp only [↓nrmL, nrmZ, Nat.reduceEqDiff, ↓reduceIte, Nat.reduceAdd, Int.reduceBEq, Int.reduceBNe]; rw [hwk], trivial⟩, by omega, fun j hj => ?_, rfl⟩
   by_cases e : j = k
   ·subst e
    exact ⟨by have := of_decide_eq_false h2; omega, by have := of_decide_eq_false h3; omega, hok2⟩
   ·exact hok j (by omega)
  have hm8' : m < 8 := by have := of_decide_eq_true hcm; omega
  have hml : m < (gapsL ls 8).length := by omega
  have hgm := gapsL_at hml
  have hwm := wa1 (a := m) (by omega)
  have b1 := hbd k
  have b2 := hbd m
  have hwd : IntKind.i64.wrap (gapG ls k - gapG ls m) = gapG ls k - gapG ls m := w64 (by omega)
  cases h4 : decide (gapG ls k - gapG ls m > 2)
  rotate_left
  ·have e0 : groupB ls = false := groupB_no fun ⟨_, _, a⟩ => by
    have := (a k hk8).2.2 m hm8'
    have := of_decide_eq_true h4
    omega
   rw [e0] at hR
   subst hR
   repeat first
    | refine mI ?_
    | refine mB ?_
    | (refine mv ?_)
    | (refine bn rfl rfl rfl (by simp only [↓nrmL, nrmZ, Nat.reduceEqDiff, ↓reduceIte, Nat.reduceAdd, Int.reduceBEq, Int.reduceBNe, hcm, hgk, hgm, hwd, h4]; rfl) ?_)
    | (refine Fo.idx (by simp only [↓nrmL, nrmK, Nat.reduceEqDiff, ↓reduceIte]; rfl) rfl ?_ (by simp only [↓nrmL, nrmZ, Nat.reduceEqDiff, ↓reduceIte, Nat.reduceAdd, Int.reduceBEq, Int.reduceBNe, hcm, hgk, hgm, hwd, h4]; rfl) ?_; (focus omega))
    | (refine Fo.ldI rfl ?_ (by simp only [↓nrmL, nrmZ, Nat.reduceEqDiff, ↓reduceIte, Nat.reduceAdd, Int.reduceBEq, Int.reduceBNe, hcm, hgk, hgm, hwd, h4]; rfl) ?_; (focus omega))
    | refine nl hKF ?_
    | refine sq ?_
    | refine rg fun KF hKF => ?_
    | refine Fr.quiet rfl rfl fun KF hKF => ?_
    | refine ct rfl ?_
    | refine sk ?_
    | refine rt ?_
    | refine Wp.block ?_
    | dsimp only [cond_true, cond_false]
   refine rz trivial ?_
   exact ⟨rfl, Ext0.ext⟩
  repeat first
   | refine mI ?_
   | (refine mv ?_)
   | (refine bn rfl rfl rfl (by simp only [↓nrmL, nrmZ, Nat.reduceEqDiff, ↓reduceIte, Nat.reduceAdd, Int.reduceBEq, Int.reduceBNe, hcm, hgk, hgm, hwd, h4]; rfl) ?_)
   | refine b0 ?_
   | (refine Fo.idx (by simp only [↓nrmL, nrmK, Nat.reduceEqDiff, ↓reduceIte]; rfl) rfl ?_ (by simp only [↓nrmL, nrmZ, Nat.reduceEqDiff, ↓reduceIte, Nat.reduceAdd, Int.reduceBEq, Int.reduceBNe, hcm, hgk, hgm, hwd, h4]; rfl) ?_; (focus omega))
   | (refine Fo.ldI rfl ?_ (by simp only [↓nrmL, nrmZ, Nat.reduceEqDiff, ↓reduceIte, Nat.reduceAdd, Int.reduceBEq, Int.reduceBNe, hcm, hgk, hgm, hwd, h4]; rfl) ?_; (focus omega))
   | refine nl hKF ?_
   | refine sq ?_
   | refine rg fun KF hKF => ?_
   | refine Fr.quiet rfl rfl fun KF hKF => ?_
   | refine ct rfl ?_
   | refine cf rfl ?_
   | refine sk ?_
   | refine Wp.block ?_
   | dsimp only [cond_true, cond_false]
  refine ⟨m + 1, by omega, ⟨by simp only [↓nrmL, nrmZ, Nat.reduceEqDiff, ↓reduceIte, Nat.reduceAdd, Int.reduceBEq, Int.reduceBNe]; rw [hwm], trivial⟩, by omega, fun j hj => ?_, rfl⟩
  by_cases e : j = m
  ·subst e; have := of_decide_eq_false h4; omega
  ·exact hok2 j (by omega)
 have hi5 : i < 5 := by have := of_decide_eq_true hc; omega
 have hwi := wa1 (a := i) (by omega)
 obtain ⟨qa, hqa, hIa⟩ := hrw.it i (by omega)
 haveI := hIa
 haveI := hIa.one
 have ga : ls.getD i [] = ls[i] := getDL_at (by omega)
 cases h1 : (((ls[i].length : Nat) : Int) != ((ls[0].length : Nat) : Int))
 rotate_left
 ·have e0 : groupB ls = false := groupB_no fun ⟨_, a, _⟩ => by
   have := a i (by omega)
   rw [ga, g0] at this
   rw [this] at h1; simp at h1
  rw [e0] at hR
  subst hR
  repeat first
   | refine mI ?_
   | (refine mv ?_)
   | (refine bn rfl rfl rfl (by simp only [↓nrmL, nrmZ, Nat.reduceEqDiff, ↓reduceIte, Nat.reduceAdd, Int.reduceBEq, Int.reduceBNe, hc]; rfl) ?_)
   | (refine Fo.idx (by simp only [↓nrmL, nrmK, Nat.reduceEqDiff, ↓reduceIte]; rfl) rfl ?_ (by simp only [↓nrmL, nrmZ, Nat.reduceEqDiff, ↓reduceIte, Nat.reduceAdd, Int.reduceBEq, Int.reduceBNe, hc]; rfl) ?_; (focus omega))
   | refine nl hKF ?_
   | refine sq ?_
   | refine rg fun KF hKF => ?_
   | refine ct rfl ?_
   | refine sk ?_
   | refine Wp.block ?_
  refine Fo.now rfl (exec_ldP (p := p) (j := i) rfl hqa) rfl ?_
  refine ln (by simp only [↓nrmL, nrmK, Nat.reduceEqDiff, ↓reduceIte]; rfl) ?_
  refine mI ?_
  refine bn rfl rfl rfl (by simp only [↓nrmL, nrmZ, Nat.reduceEqDiff, ↓reduceIte, Nat.reduceAdd, Int.reduceBEq, Int.reduceBNe, h1]; rfl) ?_
  refine nl hKF ?_
  refine ct rfl ?_
  refine sq ?_
  refine rg fun KF hKF => ?_
  refine mB ?_
  refine nl hKF ?_
  refine rt ?_
  dsimp only [cond_true, cond_false]
  refine rz trivial ?_
  exact ⟨rfl, Ext0.ext⟩
 have hla : ls[i].length = ls[0].length := by have h7 := h1; simp only [bne_eq_false_iff_eq] at h7; omega
 have hlen' : ∀ k, k < i + 1 → (ls.getD k []).length = lenG ls := fun k hk => by
  by_cases e : k = i
  ·rw [e, ga, hla, g0]
  ·exact hlen k (by omega)
 cases h2 : decide ((i : Int) > 0)
 ·have hi0 : i = 0 := by have := of_decide_eq_false h2; omega
  subst hi0
  repeat first
   | refine mI ?_
   | (refine mv ?_)
   | (refine bn rfl rfl rfl (by simp only [↓nrmL, nrmZ, Nat.reduceEqDiff, ↓reduceIte, Nat.reduceAdd, Int.reduceBEq, Int.reduceBNe, hc]; rfl) ?_)
   | (refine Fo.idx (by simp only [↓nrmL, nrmK, Nat.reduceEqDiff, ↓reduceIte]; rfl) rfl ?_ (by simp only [↓nrmL, nrmZ, Nat.reduceEqDiff, ↓reduceIte, Nat.reduceAdd, Int.reduceBEq, Int.reduceBNe, hc]; rfl) ?_; (focus omega))
   | refine nl hKF ?_
   | refine sq ?_
   | refine rg fun KF hKF => ?_
   | refine ct rfl ?_
   | refine sk ?_
   | refine Wp.block ?_
  refine Fo.now rfl (exec_ldP (p := p) (j := 0) rfl hqa) rfl ?_
  repeat first
   | refine mI ?_
   | (refine bn rfl rfl rfl (by simp only [↓nrmL, nrmZ, Nat.reduceEqDiff, ↓reduceIte, Nat.reduceAdd, Int.reduceBEq, Int.reduceBNe, h1, h2]; rfl) ?_)
   | refine b0 ?_
   | (refine ln (by simp only [↓nrmL, nrmK, Nat.reduceEqDiff, ↓reduceIte]; rfl) ?_)
   | refine nl hKF ?_
   | refine sq ?_
   | refine rg fun KF hKF => ?_
   | refine cf rfl ?_
   | refine sk ?_
   | dsimp only [cond_true, cond_false]
  refine ⟨(0 + 1, op), by dsimp only; omega, ⟨by simp only [↓nrmL, nrmZ, Nat.reduceEqDiff, ↓reduceIte, Nat.reduceAdd, Int.reduceBEq, Int.reduceBNe]; rw [hwi], rfl, trivial⟩, by dsimp only; omega, hlen', ho, hf, inferInstance⟩
 have hi0 : 0 < i := by have := of_decide_eq_true h2; omega
 have hwi1 := ws1 (a := i) hi0 (by omega)
 obtain ⟨qb, hqb, hIb⟩ := hrw.it (i - 1) (by omega)
 haveI := hIb
 haveI := hIb.one
 have gb : ls.getD (i - 1) [] = ls[i - 1] := getDL_at (by omega)
 have hlb := hlen (i - 1) (by omega)
 rw [gb, g0] at hlb
 have hxa0 : 0 < ls[i].length := by omega
 have hxb0 : 0 < ls[i - 1].length := by omega
 have hxa1 : ls[0].length - 1 < ls[i].length := by omega
 have hxb1 : ls[0].length - 1 < ls[i - 1].length := by omega
 have hg0 : gapG ls (2 * (i - 1)) = ls[i][0] - ls[i - 1][0] := by
  unfold gapG colG
  rw [show (2 * (i - 1)) / 2 + 1 = i by omega, show (2 * (i - 1)) / 2 = i - 1 by omega, show (2 * (i - 1)) % 2 = 0 by omega, ga, gb]
  simp only [if_true]
  rw [getD_at hxa0, getD_at hxb0]
 have hg1 : gapG ls (2 * (i - 1) + 1) = ls[i][ls[0].length - 1] - ls[i - 1][ls[0].length - 1] := by
  unfold gapG colG
  rw [show (2 * (i - 1) + 1) / 2 + 1 = i by omega, show (2 * (i - 1) + 1) / 2 = i - 1 by omega, show (2 * (i - 1) + 1) % 2 = 1 by omega, ga, gb, g0]
  simp only [Nat.one_ne_zero, if_false]
  rw [getD_at hxa1, getD_at hxb1]
 have ma0 := hm.it i 0
 have mb0 := hm.it (i - 1) 0
 have ma1 := hm.it i (ls[0].length - 1)
 have mb1 := hm.it (i - 1) (ls[0].length - 1)
 rw [ga, getD_at hxa0] at ma0
 rw [gb, getD_at hxb0] at mb0
 rw [ga, getD_at hxa1] at ma1
 rw [gb, getD_at hxb1] at mb1
 have hwd0 := w64m ma0 mb0
 have hwd1 := w64m ma1 mb1
 rw [← hg0] at hwd0
 rw [← hg1] at hwd1
 have hgs0 := gapsL_len ls (2 * (i - 1))
 repeat first
  | refine mI ?_
  | (refine mv ?_)
  | (refine bn rfl rfl rfl (by simp only [↓nrmL, nrmZ, Nat.reduceEqDiff, ↓reduceIte, Nat.reduceAdd, Int.reduceBEq, Int.reduceBNe, hc]; rfl) ?_)
  | (refine Fo.idx (by simp only [↓nrmL, nrmK, Nat.reduceEqDiff, ↓reduceIte]; rfl) rfl ?_ (by simp only [↓nrmL, nrmZ, Nat.reduceEqDiff, ↓reduceIte, Nat.reduceAdd, Int.reduceBEq, Int.reduceBNe, hc]; rfl) ?_; (focus omega))
  | refine nl hKF ?_
  | refine sq ?_
  | refine rg fun KF hKF => ?_
  | refine ct rfl ?_
  | refine sk ?_
  | refine Wp.block ?_
 refine Fo.now rfl (exec_ldP (p := p) (j := i) rfl hqa) rfl ?_
 repeat first
  | refine mI ?_
  | (refine bn rfl rfl rfl (by simp only [↓nrmL, nrmZ, Nat.reduceEqDiff, ↓reduceIte, Nat.reduceAdd, Int.reduceBEq, Int.reduceBNe, h1, h2]; rfl) ?_)
  | (refine ln (by simp only [↓nrmL, nrmK, Nat.reduceEqDiff, ↓reduceIte]; rfl) ?_)
  | refine nl hKF ?_
  | refine sq ?_
  | refine rg fun KF hKF => ?_
  | refine ct rfl ?_
  | refine cf rfl ?_
  | refine sk ?_
  | dsimp only [cond_true, cond_false]
 refine Fr.dregionE [.row [.int .i64 (gapG ls (2 * (i - 1)))] true (2 * 3)] ?_ fun KF hKF => ?_
 ·skip
  refine oracle_pre rfl rfl rfl rfl ?_; (try simp only [↓nrmL, nrmZ, Nat.reduceEqDiff, ↓reduceIte, Nat.reduceAdd, Int.reduceBEq, Int.reduceBNe])
  refine oracle_pre rfl rfl rfl rfl ?_; (try simp only [↓nrmL, nrmZ, Nat.reduceEqDiff, ↓reduceIte, Nat.reduceAdd, Int.reduceBEq, Int.reduceBNe])
  refine oracle_pre rfl rfl rfl rfl ?_; (try simp only [↓nrmL, nrmZ, Nat.reduceEqDiff, ↓reduceIte, Nat.reduceAdd, Int.reduceBEq, Int.reduceBNe])
  refine oracle_pre rfl rfl rfl (exec_idxO (p := p) (a := i) (o := offOf p + i) rfl rfl inferInstance (by omega) (by omega)) ?_
  skip
  refine oracle_pre rfl rfl rfl (exec_ldP (p := p) (j := i) rfl hqa) ?_
  skip
  refine oracle_pre rfl rfl rfl (exec_idxO (p := qa) (a := 0) (o := offOf qa + 0) rfl rfl (inferInstance : IntsI H2 qa ls[i]) (by omega) (by omega)) ?_
  skip
  refine oracle_pre rfl rfl rfl (exec_ldI (p := qa) (j := 0) rfl hxa0) ?_
  refine oracle_pre rfl rfl rfl rfl ?_; (try simp only [↓nrmL, nrmZ, Nat.reduceEqDiff, ↓reduceIte, Nat.reduceAdd, Int.reduceBEq, Int.reduceBNe, hwi1])
  refine oracle_pre rfl rfl rfl rfl ?_; (try simp only [↓nrmL, nrmZ, Nat.reduceEqDiff, ↓reduceIte, Nat.reduceAdd, Int.reduceBEq, Int.reduceBNe, hwi1])
  refine oracle_pre rfl rfl rfl rfl ?_; (try simp only [↓nrmL, nrmZ, Nat.reduceEqDiff, ↓reduceIte, Nat.reduceAdd, Int.reduceBEq, Int.reduceBNe, hwi1])
  refine oracle_pre rfl rfl rfl (exec_idxO (p := p) (a := i - 1) (o := offOf p + (i - 1)) rfl rfl inferInstance (by omega) (by omega)) ?_
  skip
  refine oracle_pre rfl rfl rfl (exec_ldP (p := p) (j := i - 1) rfl hqb) ?_
  skip
  refine oracle_pre rfl rfl rfl (exec_idxO (p := qb) (a := 0) (o := offOf qb + 0) rfl rfl (inferInstance : IntsI H2 qb ls[i - 1]) (by omega) (by omega)) ?_
  skip
  refine oracle_pre rfl rfl rfl (exec_ldI (p := qb) (j := 0) rfl hxb0) ?_
  refine oracle_pre rfl rfl rfl rfl ?_; (try simp only [↓nrmL, nrmZ, Nat.reduceEqDiff, ↓reduceIte, Nat.reduceAdd, Int.reduceBEq, Int.reduceBNe, ← hg0, hwd0])
  refine oracle_made rfl rfl rfl ?_; (try simp only [↓nrmL, nrmZ, Nat.reduceEqDiff, ↓reduceIte, Nat.reduceAdd, Int.reduceBEq, Int.reduceBNe, ← hg0, hwd0])
  exact oracle_none _ _ _ _ rfl
 simp only [pushAll]
 repeat first
  | (refine Fe.pure rfl rfl (by simp only [↓nrmL, nrmZ, Nat.reduceEqDiff, ↓reduceIte, Nat.reduceAdd, Int.reduceBEq, Int.reduceBNe]; rfl) ?_)
  | (refine Fe.pure rfl (exec_idxP (by (try simp only [↓nrmL, nrmZ, Nat.reduceEqDiff, ↓reduceIte, Nat.reduceAdd, Int.reduceBEq, Int.reduceBNe]); rfl) rfl ?_) (by simp only [↓nrmL, nrmZ, Nat.reduceEqDiff, ↓reduceIte, Nat.reduceAdd, Int.reduceBEq, Int.reduceBNe]; rfl) ?_; (focus omega))
 refine Fe.read rfl (exec_ldP (p := p) (j := i) rfl hqa) rfl trivial ?_
 simp only [↓nrmL, nrmZ, Nat.reduceEqDiff, ↓reduceIte, Nat.reduceAdd, Int.reduceBEq, Int.reduceBNe, hwi1]
 repeat first
  | (refine Fe.pure rfl rfl (by simp only [↓nrmL, nrmZ, Nat.reduceEqDiff, ↓reduceIte, Nat.reduceAdd, Int.reduceBEq, Int.reduceBNe, hwi1]; rfl) ?_)
  | (refine Fe.pure rfl (exec_idxP (by (try simp only [↓nrmL, nrmZ, Nat.reduceEqDiff, ↓reduceIte, Nat.reduceAdd, Int.reduceBEq, Int.reduceBNe, hwi1]); rfl) rfl ?_) (by simp only [↓nrmL, nrmZ, Nat.reduceEqDiff, ↓reduceIte, Nat.reduceAdd, Int.reduceBEq, Int.reduceBNe, hwi1]; rfl) ?_; (focus omega))
  | (refine Er rfl (exec_ldI rfl (by omega)) rfl ?_)
 refine Fe.read rfl (exec_ldP (p := p) (j := i - 1) rfl hqb) rfl trivial ?_
 simp only [↓nrmL, nrmZ, Nat.reduceEqDiff, ↓reduceIte, Nat.reduceAdd, Int.reduceBEq, Int.reduceBNe, ← hg0, hwd0]
 refine Fe.pure rfl (exec_idxP (by (try simp only [↓nrmL, nrmZ, Nat.reduceEqDiff, ↓reduceIte, Nat.reduceAdd, Int.reduceBEq, Int.reduceBNe, ← hg0, hwd0]); rfl) rfl ?_) (by simp only [↓nrmL, nrmZ, Nat.reduceEqDiff, ↓reduceIte, Nat.reduceAdd, Int.reduceBEq, Int.reduceBNe, ← hg0, hwd0]; rfl) ?_; (focus omega)
 refine Er rfl (exec_ldI rfl (by omega)) rfl ?_
 refine Fe.pure rfl rfl (by simp only [↓nrmL, nrmZ, Nat.reduceEqDiff, ↓reduceIte, Nat.reduceAdd, Int.reduceBEq, Int.reduceBNe, ← hg0, hwd0]; rfl) ?_
 refine Em rfl rfl ghost_of rfl ?_
 refine WpE.grow (p := op) (q := .slice H2.n 0 1 (some 1) 1) (sz := 1) (k := 1) (cs := cellsI (gapsL ls (2 * (i - 1)))) (new := [.int .i64 (gapG ls (2 * (i - 1)))]) (hq := row_one1 (inferInstance : HasRow _ H2.n [.int .i64 (gapG ls (2 * (i - 1)))] true (2 * 3))) rfl rfl rfl (by decide) (by decide) (by decide) (by omega) rfl fun op1 H4 ho4 hf4 hx4 => ?_
 rw [← cellsI_snoc, ← gapsL_succ] at ho4
 haveI := ho4.sl
 haveI := ho4.sl.one
 haveI := hx4
 have hxx : Ext0 H H4 := ⟨⟨by have := hx4.n; have := hx.n; simp only [AHeap.push] at *; omega, fun r hr => by
  have := hx.n
  rw [hx4.get r (by simp only [AHeap.push]; omega) ⟨fun r' _ _ _ _ e => by have := hf.ge _ _ _ _ _ e; omega⟩, push_get_lt (by omega), hx.get r hr]⟩⟩
 haveI : ExtI H H4 := ⟨hxx.ext⟩
 refine ar ?_
 refine Fe.pure rfl rfl (by simp only [↓nrmL, nrmZ, Nat.reduceEqDiff, ↓reduceIte, Nat.reduceAdd, Int.reduceBEq, Int.reduceBNe]; rfl) ?_
 refine WpE.nil (hKF _ _ ?_)
 dsimp only [cond_true, cond_false]
 refine Fr.dregionE [.row [.int .i64 (gapG ls (2 * (i - 1) + 1))] true (2 * 3)] ?_ fun KF hKF => ?_
 ·skip
  refine oracle_pre rfl rfl rfl rfl ?_; (try simp only [↓nrmL, nrmZ, Nat.reduceEqDiff, ↓reduceIte, Nat.reduceAdd, Int.reduceBEq, Int.reduceBNe])
  refine oracle_pre rfl rfl rfl rfl ?_; (try simp only [↓nrmL, nrmZ, Nat.reduceEqDiff, ↓reduceIte, Nat.reduceAdd, Int.reduceBEq, Int.reduceBNe])
  refine oracle_pre rfl rfl rfl rfl ?_; (try simp only [↓nrmL, nrmZ, Nat.reduceEqDiff, ↓reduceIte, Nat.reduceAdd, Int.reduceBEq, Int.reduceBNe])
  refine oracle_pre rfl rfl rfl (exec_idxO (p := p) (a := i) (o := offOf p + i) rfl rfl inferInstance (by omega) (by omega)) ?_
  skip
  refine oracle_pre rfl rfl rfl (exec_ldP (p := p) (j := i) rfl hqa) ?_
  refine oracle_pre rfl rfl rfl rfl ?_; (try simp only [↓nrmL, nrmZ, Nat.reduceEqDiff, ↓reduceIte, Nat.reduceAdd, Int.reduceBEq, Int.reduceBNe, hws])
  refine oracle_pre rfl rfl rfl rfl ?_; (try simp only [↓nrmL, nrmZ, Nat.reduceEqDiff, ↓reduceIte, Nat.reduceAdd, Int.reduceBEq, Int.reduceBNe, hws])
  refine oracle_pre rfl rfl rfl (exec_idxO (p := qa) (a := ls[0].length - 1) (o := offOf qa + (ls[0].length - 1)) rfl rfl (inferInstance : IntsI H4 qa ls[i]) (by omega) (by omega)) ?_
  skip
  refine oracle_pre rfl rfl rfl (exec_ldI (p := qa) (j := ls[0].length - 1) rfl hxa1) ?_
  refine oracle_pre rfl rfl rfl rfl ?_; (try simp only [↓nrmL, nrmZ, Nat.reduceEqDiff, ↓reduceIte, Nat.reduceAdd, Int.reduceBEq, Int.reduceBNe, hwi1])
  refine oracle_pre rfl rfl rfl rfl ?_; (try simp only [↓nrmL, nrmZ, Nat.reduceEqDiff, ↓reduceIte, Nat.reduceAdd, Int.reduceBEq, Int.reduceBNe, hwi1])
  refine oracle_pre rfl rfl rfl rfl ?_; (try simp only [↓nrmL, nrmZ, Nat.reduceEqDiff, ↓reduceIte, Nat.reduceAdd, Int.reduceBEq, Int.reduceBNe, hwi1])
  refine oracle_pre rfl rfl rfl (exec_idxO (p := p) (a := i - 1) (o := offOf p + (i - 1)) rfl rfl inferInstance (by omega) (by omega)) ?_
  skip
  refine oracle_pre rfl rfl rfl (exec_ldP (p := p) (j := i - 1) rfl hqb) ?_
  refine oracle_pre rfl rfl rfl rfl ?_; (try simp only [↓nrmL, nrmZ, Nat.reduceEqDiff, ↓reduceIte, Nat.reduceAdd, Int.reduceBEq, Int.reduceBNe, hws])
  refine oracle_pre rfl rfl rfl rfl ?_; (try simp only [↓nrmL, nrmZ, Nat.reduceEqDiff, ↓reduceIte, Nat.reduceAdd, Int.reduceBEq, Int.reduceBNe, hws])
  refine oracle_pre rfl rfl rfl (exec_idxO (p := qb) (a := ls[0].length - 1) (o := offOf qb + (ls[0].length - 1)) rfl rfl (inferInstance : IntsI H4 qb ls[i - 1]) (by omega) (by omega)) ?_
  skip
  refine oracle_pre rfl rfl rfl (exec_ldI (p := qb) (j := ls[0].length - 1) rfl hxb1) ?_
  refine oracle_pre rfl rfl rfl rfl ?_; (try simp only [↓nrmL, nrmZ, Nat.reduceEqDiff, ↓reduceIte, Nat.reduceAdd, Int.reduceBEq, Int.reduceBNe, ← hg1, hwd1])
  refine oracle_made rfl rfl rfl ?_; (try simp only [↓nrmL, nrmZ, Nat.reduceEqDiff, ↓reduceIte, Nat.reduceAdd, Int.reduceBEq, Int.reduceBNe, ← hg1, hwd1])
  exact oracle_none _ _ _ _ rfl
 simp only [pushAll]
 repeat first
  | (refine Fe.pure rfl rfl (by simp only [↓nrmL, nrmZ, Nat.reduceEqDiff, ↓reduceIte, Nat.reduceAdd, Int.reduceBEq, Int.reduceBNe]; rfl) ?_)
  | (refine Fe.pure rfl (exec_idxP (by (try simp only [↓nrmL, nrmZ, Nat.reduceEqDiff, ↓reduceIte, Nat.reduceAdd, Int.reduceBEq, Int.reduceBNe]); rfl) rfl ?_) (by simp only [↓nrmL, nrmZ, Nat.reduceEqDiff, ↓reduceIte, Nat.reduceAdd, Int.reduceBEq, Int.reduceBNe]; rfl) ?_; (focus omega))
 refine Fe.read rfl (exec_ldP (p := p) (j := i) rfl hqa) rfl trivial ?_
 simp only [↓nrmL, nrmZ, Nat.reduceEqDiff, ↓reduceIte, Nat.reduceAdd, Int.reduceBEq, Int.reduceBNe, hws, hwi1]
 repeat first
  | (refine Fe.pure rfl rfl (by simp only [↓nrmL, nrmZ, Nat.reduceEqDiff, ↓reduceIte, Nat.reduceAdd, Int.reduceBEq, Int.reduceBNe, hws, hwi1]; rfl) ?_)
  | (refine Fe.pure rfl (exec_idxP (by (try simp only [↓nrmL, nrmZ, Nat.reduceEqDiff, ↓reduceIte, Nat.reduceAdd, Int.reduceBEq, Int.reduceBNe, hws, hwi1]); rfl) rfl ?_) (by simp only [↓nrmL, nrmZ, Nat.reduceEqDiff, ↓reduceIte, Nat.reduceAdd, Int.reduceBEq, Int.reduceBNe, hws, hwi1]; rfl) ?_; (focus omega))
  | (refine Er rfl (exec_ldI rfl (by omega)) rfl ?_)
 refine Fe.read rfl (exec_ldP (p := p) (j := i - 1) rfl hqb) rfl trivial ?_
 simp only [↓nrmL, nrmZ, Nat.reduceEqDiff, ↓reduceIte, Nat.reduceAdd, Int.reduceBEq, Int.reduceBNe, hws, ← hg1, hwd1]
 repeat first
  | (refine Fe.pure rfl rfl (by simp only [↓nrmL, nrmZ, Nat.reduceEqDiff, ↓reduceIte, Nat.reduceAdd, Int.reduceBEq, Int.reduceBNe, hws, ← hg1, hwd1]; rfl) ?_)
  | (refine Em rfl rfl ghost_of rfl ?_)
  | (refine Fe.pure rfl (exec_idxP (by (try simp only [↓nrmL, nrmZ, Nat.reduceEqDiff, ↓reduceIte, Nat.reduceAdd, Int.reduceBEq, Int.reduceBNe, hws, ← hg1, hwd1]); rfl) rfl ?_) (by simp only [↓nrmL, nrmZ, Nat.reduceEqDiff, ↓reduceIte, Nat.reduceAdd, Int.reduceBEq, Int.reduceBNe, hws, ← hg1, hwd1]; rfl) ?_; (focus omega))
  | (refine Er rfl (exec_ldI rfl (by omega)) rfl ?_)
 have hgs1 := gapsL_len ls (2 * (i - 1) + 1)
 refine WpE.grow (p := op1) (q := .slice H4.n 0 1 (some 1) 1) (sz := 1) (k := 1) (cs := cellsI (gapsL ls (2 * (i - 1) + 1))) (new := [.int .i64 (gapG ls (2 * (i - 1) + 1))]) (hq := row_one1 (inferInstance : HasRow _ H4.n [.int .i64 (gapG ls (2 * (i - 1) + 1))] true (2 * 3))) rfl rfl rfl (by decide) (by decide) (by decide) (by omega) rfl fun op2 H6 ho6 hf6 hx6 => ?_
 rw [← cellsI_snoc, ← gapsL_succ] at ho6
 haveI := ho6.sl
 haveI := ho6.sl.one
 haveI := hx6
 refine ar ?_
 refine Fe.pure rfl rfl (by simp only [↓nrmL, nrmZ, Nat.reduceEqDiff, ↓reduceIte, Nat.reduceAdd, Int.reduceBEq, Int.reduceBNe]; rfl) ?_
 refine WpE.nil (hKF _ _ ?_)
 refine rg fun KF hKF => ?_
 refine mI ?_
 refine b0 ?_
 refine mI ?_
 refine nl hKF ?_
 dsimp only [cond_true, cond_false]
 have n4 := hx4.n
 have n6 := hx6.n
 have n2 := hx.n
 simp only [AHeap.push] at n4 n6
 have hlow1 : ∀ r off len cap sz, op1 = .slice r off len cap sz → H.n ≤ r := fun r off len cap sz e => by have := hf4.ge _ _ _ _ _ e; simp only [AHeap.push] at this; omega
 refine ⟨(i + 1, op2), by dsimp only; omega, ⟨by simp only [↓nrmL, nrmZ, Nat.reduceEqDiff, ↓reduceIte, Nat.reduceAdd, Int.reduceBEq, Int.reduceBNe]; rw [hwi], rfl, trivial⟩, by dsimp only; omega, hlen', ?_, ⟨fun r off len cap sz e => by have := hf6.ge _ _ _ _ _ e; simp only [AHeap.push] at this; omega⟩, ⟨⟨by omega, fun r hr => ?_⟩⟩⟩
 ·dsimp only
  rw [show 2 * (i + 1 - 1) = 2 * (i - 1) + 1 + 1 by omega]
  exact ho6
 ·rw [hx6.get r (by simp only [AHeap.push]; omega) ⟨fun r' _ _ _ _ e => by have := hlow1 _ _ _ _ _ e; omega⟩, push_get_lt (by omega), hxx.ext.get r hr]
end Go.Am

namespace Go.Am
open Go
attribute [local irreducible] Wp WpO WpX WpE
instance K_refIsPath {a b : Nat} {p q : AVal} {H : AHeap} {g : List UInt8} {l : List Int} [hp : BytesI H p g] [hq : IntsI H q l] [ha : Side a] [hb : Side b] : PureCon ext prog 54 [.agg [.int .i64 (a : Int), .int .i64 (b : Int), p], q] H 1 (.bool (pathB a b l)) := ⟨by
 refine con_of (show prog 54 = some c54 from rfl) rfl rfl fun n hn => ?_
 have ha := ha.le
 have hb := hb.le
 haveI := hp.one
 haveI := hq.one
 cases h0 : ((a : Int) == 0)
 rotate_left
 ·have hl0 : a = 0 := by simpa using h0
  have e1 : pathB a b l = false := by
   cases h : pathB a b l with
   | false => rfl
   | true => have := (pathB_len h).2; omega
  rw [e1]
  repeat first
   | refine ox ?_
   | refine mB ?_
   | refine fd ?_
   | refine Fo.ld rfl rfl ?_
   | (refine bn rfl rfl rfl (by simp only [h0]; rfl) ?_)
   | refine tB ?_
   | refine bA ?_
   | refine nl hKF ?_
   | refine sq ?_
   | refine rg fun KF hKF => ?_
   | refine ct rfl ?_
   | refine rt ?_
   | dsimp only [cond_true, cond_false]
  refine rz trivial ?_
  exact ⟨rfl, Ext0.ext⟩
 have hl0 : a ≠ 0 := by simpa using h0
 cases hb0 : ((b : Int) == 0)
 rotate_left
 ·have hl0 : b = 0 := by simpa using hb0
  have e1 : pathB a b l = false := by
   cases h : pathB a b l with
   | false => rfl
   | true =>
    have h1 := pathB_len h
    have h2 := pathB_range h (x := 0) (by omega)
    omega
  rw [e1]
  repeat first
   | refine oy ?_
   | refine ox ?_
   | refine mB ?_
   | refine fd ?_
   | refine Fo.ld rfl rfl ?_
   | (refine bn rfl rfl rfl (by simp only [h0, hb0]; rfl) ?_)
   | refine tB ?_
   | refine fB ?_
   | refine bA ?_
   | refine nl hKF ?_
   | refine sq ?_
   | refine rg fun KF hKF => ?_
   | refine ct rfl ?_
   | refine rt ?_
   | dsimp only [cond_true, cond_false]
  refine rz trivial ?_
  exact ⟨rfl, Ext0.ext⟩
 cases h1 : (((l.length : Nat) : Int) != (a : Int))
 rotate_left
 ·have hl1 : l.length ≠ a := by intro e; rw [e] at h1; simp at h1
  have e1 : pathB a b l = false := by simp [pathB, hl1]
  rw [e1]
  repeat first
   | refine oy ?_
   | refine mB ?_
   | (refine mv ?_)
   | refine fd ?_
   | refine Fo.ld rfl rfl ?_
   | (refine bn rfl rfl rfl (by simp only [h0, hb0, h1]; rfl) ?_)
   | refine fB ?_
   | (refine ln (by simp only [↓nrmL, nrmK, Nat.reduceEqDiff, ↓reduceIte]; rfl) ?_)
   | refine bA ?_
   | refine nl hKF ?_
   | refine sq ?_
   | refine rg fun KF hKF => ?_
   | refine ct rfl ?_
   | refine rt ?_
   | dsimp only [cond_true, cond_false]
  refine rz trivial ?_
  exact ⟨rfl, Ext0.ext⟩
 have hl1 : l.length = a := by have h7 := h1; simp only [bne_eq_false_iff_eq] at h7; omega
 have e0 : pathB a b l = okTo b l l.length := by simp [pathB, hl1]; omega
 rw [e0]
 repeat first
  | refine oy ?_
  | refine mI ?_
  | refine mB ?_
  | (refine mv ?_)
  | refine fd ?_
  | refine Fo.ld rfl rfl ?_
  | (refine bn rfl rfl rfl (by simp only [h0, hb0, h1]; rfl) ?_)
  | refine fB ?_
  | (refine ln (by simp only [↓nrmL, nrmK, Nat.reduceEqDiff, ↓reduceIte]; rfl) ?_)
  | refine bA ?_
  | refine nl hKF ?_
  | refine sq ?_
  | refine rg fun KF hKF => ?_
  | refine cf rfl ?_
  | refine sk ?_
  | refine Wp.block ?_
  | dsimp only [cond_true, cond_false]
 refine Wp.loopS [4, 5, 21, 22, 23, 24, 25, 26, 27, 28, 29, 30, 31, 32, 33, 34, 35, 36, 37, 38, 39, 40, 41, 42, 43, 44, 45, 46, 47, 48, 49, 50, 51, 52, 53, 54, 55, 56, 57, 58, 59, 60, 61, 62, 63, 64, 65, 66, 67, 68] (fun x : Nat => [(5, .int .i64 x)]) (fun H3 x H2 => x ≤ l.length ∧ okTo b l x = true ∧ H2 = H3) (fun x => l.length - x) 0 rfl (fun _ => rfl) ⟨rfl, trivial⟩ ⟨Nat.zero_le _, rfl, rfl⟩ (by unfold fuel0 at hn; omega) ?_
 rintro x g2 H2 ⟨hx, hok, rfl⟩
 simp only [↓nrmL, nrmZ, Nat.reduceEqDiff, ↓reduceIte, Nat.reduceAdd, Int.reduceBEq, Int.reduceBNe]
 cases hc : decide ((x : Int) < ((l.length : Nat) : Int))
 ·have hxl : x = l.length := by have := of_decide_eq_false hc; omega
  subst hxl
  rw [hok]
  repeat first
   | refine mI ?_
   | refine mB ?_
   | (refine mv ?_)
   | (refine bn rfl rfl rfl (by simp only [hc]; rfl) ?_)
   | (refine ln (by simp only [↓nrmL, nrmK, Nat.reduceEqDiff, ↓reduceIte]; rfl) ?_)
   | refine nl hKF ?_
   | refine sq ?_
   | refine rg fun KF hKF => ?_
   | refine cf rfl ?_
   | refine rt ?_
   | refine xi ?_
   | dsimp only [cond_true, cond_false]
  refine rz trivial ?_
  exact ⟨rfl, Ext0.ext⟩
 have hxl : x < l.length := by have := of_decide_eq_true hc; omega
 have hw1 := wa1 (a := x) (by omega)
 cases h2 : decide (l[x] < 0)
 rotate_left
 ·rw [okTo_bad (x := x) (n := l.length) (by simp only [okAt, getD_at hxl]; have := of_decide_eq_true h2; rw [decide_eq_false (by omega)]; rfl) hxl]
  repeat first
   | refine ox ?_
   | refine mI ?_
   | refine mB ?_
   | (refine mv ?_)
   | (refine bn rfl rfl rfl (by simp only [hc, h2]; rfl) ?_)
   | refine tB ?_
   | (refine ln (by simp only [↓nrmL, nrmK, Nat.reduceEqDiff, ↓reduceIte]; rfl) ?_)
   | (refine Fo.idx (by simp only [↓nrmL, nrmK, Nat.reduceEqDiff, ↓reduceIte]; rfl) rfl ?_ (by simp only [↓nrmL, nrmZ, Nat.reduceEqDiff, ↓reduceIte, Nat.reduceAdd, Int.reduceBEq, Int.reduceBNe, hc, h2]; rfl) ?_; (focus omega))
   | (refine Fo.ldI rfl ?_ rfl ?_; (focus omega))
   | refine nl hKF ?_
   | refine sq ?_
   | refine rg fun KF hKF => ?_
   | refine Fr.quiet rfl rfl fun KF hKF => ?_
   | refine ct rfl ?_
   | refine sk ?_
   | refine rt ?_
   | refine Wp.block ?_
   | dsimp only [cond_true, cond_false]
  refine rz trivial ?_
  exact ⟨rfl, Ext0.ext⟩
 cases h3 : decide (l[x] ≥ (b : Int))
 rotate_left
 ·rw [okTo_bad (x := x) (n := l.length) (by simp only [okAt, getD_at hxl]; have := of_decide_eq_true h3; rw [decide_eq_false (p := l[x] < (b : Int)) (by omega), Bool.and_false]; rfl) hxl]
  repeat first
   | refine oy ?_
   | refine mI ?_
   | refine mB ?_
   | (refine mv ?_)
   | refine fd ?_
   | refine Fo.ld rfl rfl ?_
   | (refine bn rfl rfl rfl (by simp only [hc, h2, h3]; rfl) ?_)
   | refine fB ?_
   | (refine ln (by simp only [↓nrmL, nrmK, Nat.reduceEqDiff, ↓reduceIte]; rfl) ?_)
   | (refine Fo.idx (by simp only [↓nrmL, nrmK, Nat.reduceEqDiff, ↓reduceIte]; rfl) rfl ?_ (by simp only [↓nrmL, nrmZ, Nat.reduceEqDiff, ↓reduceIte, Nat.reduceAdd, Int.reduceBEq, Int.reduceBNe, hc, h2, h3]; rfl) ?_; (focus omega))
   | (refine Fo.ldI rfl ?_ rfl ?_; (focus omega))
   | refine nl hKF ?_
   | refine sq ?_
   | refine rg fun KF hKF => ?_
   | refine Fr.quiet rfl rfl fun KF hKF => ?_
   | refine ct rfl ?_
   | refine sk ?_
   | refine rt ?_
   | refine Wp.block ?_
   | dsimp only [cond_true, cond_false]
  refine rz trivial ?_
  exact ⟨rfl, Ext0.ext⟩
 have g1 : 0 ≤ l[x] := by have := of_decide_eq_false h2; omega
 have g3 : l[x] < (b : Int) := by have := of_decide_eq_false h3; omega
 cases h4 : decide ((x : Int) > 0)
 ·have hx0 : x = 0 := by have := of_decide_eq_false h4; omega
  subst hx0
  have e2 : okTo b l (0 + 1) = true := by rw [okTo_succ, hok, okAt, getD_at hxl, decide_eq_true g1, decide_eq_true g3]; rfl
  repeat first
   | refine oy ?_
   | refine ox ?_
   | refine Fo.noU rfl ?_
   | refine mI ?_
   | refine mB ?_
   | (refine mv ?_)
   | refine fd ?_
   | refine Fo.ld rfl rfl ?_
   | (refine bn rfl rfl rfl (by simp only [hc, h2, h3, h4]; rfl) ?_)
   | refine b0 ?_
   | refine fB ?_
   | (refine ln (by simp only [↓nrmL, nrmK, Nat.reduceEqDiff, ↓reduceIte]; rfl) ?_)
   | (refine Fo.idx (by simp only [↓nrmL, nrmK, Nat.reduceEqDiff, ↓reduceIte]; rfl) rfl ?_ (by simp only [↓nrmL, nrmZ, Nat.reduceEqDiff, ↓reduceIte, Nat.reduceAdd, Int.reduceBEq, Int.reduceBNe, hc, h2, h3, h4]; rfl) ?_; (focus omega))
   | (refine Fo.ldI rfl ?_ rfl ?_; (focus omega))
   | refine nl hKF ?_
   | refine sq ?_
   | refine rg fun KF hKF => ?_
   | refine Fr.quiet rfl rfl fun KF hKF => ?_
   | refine ct rfl ?_
   | refine cf rfl ?_
   | refine sk ?_
   | refine Wp.block ?_
   | dsimp only [cond_true, cond_false]
  refine ⟨0 + 1, by omega, ⟨by simp only [↓nrmL, nrmZ, Nat.reduceEqDiff, ↓reduceIte, Nat.reduceAdd, Int.reduceBEq, Int.reduceBNe]; rw [hw1], trivial⟩, hxl, e2, rfl⟩
 have hx0 : 0 < x := by have := of_decide_eq_true h4; omega
 have hw2 := ws1 (a := x) hx0 (by omega)
 have hxm : x - 1 < l.length := by omega
 obtain ⟨m1, m2⟩ := okTo_range hok (x := x - 1) (by omega) hxm
 have hw3 : IntKind.i64.wrap (l[x] - l[x - 1]) = l[x] - l[x - 1] := w64 (by omega)
 have hw4 : IntKind.i64.wrap (l[x - 1] - l[x]) = l[x - 1] - l[x] := w64 (by omega)
 cases h5 : decide (l[x] - l[x - 1] > 1)
 rotate_left
 ·rw [okTo_bad (x := x) (n := l.length) (by
   have h5 := of_decide_eq_true h5
   simp only [okAt, getD_at hxl, getD_at hxm]
   rw [decide_eq_false (p := l[x] ≤ l[x - 1] + 1) (by omega), Bool.and_false, Bool.or_false, beq_eq_false_iff_ne.2 (by omega), Bool.and_false]) hxl]
  repeat first
   | refine oy ?_
   | refine ox ?_
   | refine mI ?_
   | refine mB ?_
   | (refine mv ?_)
   | refine fd ?_
   | refine Fo.ld rfl rfl ?_
   | (refine bn rfl rfl rfl (by simp only [hc, h2, h3, h4, hw2, hw3, hw4, h5]; rfl) ?_)
   | refine tB ?_
   | refine fB ?_
   | (refine ln (by simp only [↓nrmL, nrmK, Nat.reduceEqDiff, ↓reduceIte]; rfl) ?_)
   | (refine Fo.idx (by simp only [↓nrmL, nrmK, Nat.reduceEqDiff, ↓reduceIte]; rfl) rfl ?_ (by simp only [↓nrmL, nrmZ, Nat.reduceEqDiff, ↓reduceIte, Nat.reduceAdd, Int.reduceBEq, Int.reduceBNe, hc, h2, h3, h4, hw2, hw3, hw4, h5]; rfl) ?_; (focus omega))
   | (refine Fo.ldI rfl ?_ rfl ?_; (focus omega))
   | refine nl hKF ?_
   | refine sq ?_
   | refine rg fun KF hKF => ?_
   | refine Fr.quiet rfl rfl fun KF hKF => ?_
   | refine ct rfl ?_
   | refine cf rfl ?_
   | refine sk ?_
   | refine rt ?_
   | refine Wp.block ?_
   | dsimp only [cond_true, cond_false]
  refine rz trivial ?_
  exact ⟨rfl, Ext0.ext⟩
 cases h6 : decide (l[x - 1] - l[x] > 1)
 rotate_left
 ·rw [okTo_bad (x := x) (n := l.length) (by
   have h6 := of_decide_eq_true h6
   simp only [okAt, getD_at hxl, getD_at hxm]
   rw [decide_eq_false (p := l[x - 1] - 1 ≤ l[x]) (by omega), Bool.false_and, Bool.or_false, beq_eq_false_iff_ne.2 (by omega), Bool.and_false]) hxl]
  repeat first
   | refine oy ?_
   | refine mI ?_
   | refine mB ?_
   | (refine mv ?_)
   | refine fd ?_
   | refine Fo.ld rfl rfl ?_
   | (refine bn rfl rfl rfl (by simp only [hc, h2, h3, h4, hw2, hw3, hw4, h5, h6]; rfl) ?_)
   | refine tB ?_
   | refine fB ?_
   | (refine ln (by simp only [↓nrmL, nrmK, Nat.reduceEqDiff, ↓reduceIte]; rfl) ?_)
   | (refine Fo.idx (by simp only [↓nrmL, nrmK, Nat.reduceEqDiff, ↓reduceIte]; rfl) rfl ?_ (by simp only [↓nrmL, nrmZ, Nat.reduceEqDiff, ↓reduceIte, Nat.reduceAdd, Int.reduceBEq, Int.reduceBNe, hc, h2, h3, h4, hw2, hw3, hw4, h5, h6]; rfl) ?_; (focus omega))
   | (refine Fo.ldI rfl ?_ rfl ?_; (focus omega))
   | refine nl hKF ?_
   | refine sq ?_
   | refine rg fun KF hKF => ?_
   | refine Fr.quiet rfl rfl fun KF hKF => ?_
   | refine ct rfl ?_
   | refine cf rfl ?_
   | refine sk ?_
   | refine rt ?_
   | refine Wp.block ?_
   | dsimp only [cond_true, cond_false]
  refine rz trivial ?_
  exact ⟨rfl, Ext0.ext⟩
 have e2 : okTo b l (x + 1) = true := by
  have h5 := of_decide_eq_false h5
  have h6 := of_decide_eq_false h6
  rw [okTo_succ, hok, okAt, getD_at hxl, getD_at hxm, decide_eq_true g1, decide_eq_true g3, decide_eq_true (p := l[x - 1] - 1 ≤ l[x]) (by omega), decide_eq_true (p := l[x] ≤ l[x - 1] + 1) (by omega)]
  simp
 repeat first
  | refine oy ?_
  | refine mI ?_
  | refine mB ?_
  | (refine mv ?_)
  | refine fd ?_
  | refine Fo.ld rfl rfl ?_
  | (refine bn rfl rfl rfl (by simp only [hc, h2, h3, h4, hw2, hw3, hw4, h5, h6]; rfl) ?_)
  | refine b0 ?_
  | refine tB ?_
  | refine fB ?_
  | (refine ln (by simp only [↓nrmL, nrmK, Nat.reduceEqDiff, ↓reduceIte]; rfl) ?_)
  | (refine Fo.idx (by simp only [↓nrmL, nrmK, Nat.reduceEqDiff, ↓reduceIte]; rfl) rfl ?_ (by simp only [↓nrmL, nrmZ, Nat.reduceEqDiff, ↓reduceIte, Nat.reduceAdd, Int.reduceBEq, Int.reduceBNe, hc, h2, h3, h4, hw2, hw3, hw4, h5, h6]; rfl) ?_; (focus omega))
  | (refine Fo.ldI rfl ?_ rfl ?_; (focus omega))
  | refine nl hKF ?_
  | refine sq ?_
  | refine rg fun KF hKF => ?_
  | refine Fr.quiet rfl rfl fun KF hKF => ?_
  | refine ct rfl ?_
  | refine cf rfl ?_
  | refine sk ?_
  | refine Wp.block ?_
  | dsimp only [cond_true, cond_false]
 refine ⟨x + 1, by omega, ⟨by simp only [↓nrmL, nrmZ, Nat.reduceEqDiff, ↓reduceIte, Nat.reduceAdd, Int.reduceBEq, Int.reduceBNe]; rw [hw1], trivial⟩, hxl, e2, rfl⟩⟩
theorem fitsB_bad {a b : Nat} {ls : List (List Int)} {x : Nat} (h : pathB a b (ls.getD x []) = false) (hx : x < 5) : fitsB a b ls = false := by
 rw [fitsB, fitTo_bad (x := x) (by rw [fitAt, h]; rfl) hx, Bool.and_false]
theorem aboveB_iff {l m : List Int} : aboveB l m = true ↔ ∀ x, x < l.length → l.getD x 0 < m.getD x 0 := by
 simp [aboveB, belowTo]
theorem fitsB_of {a b : Nat} {ls : List (List Int)} (h5 : ls.length = 5) (hp : ∀ i, i < 5 → pathB a b (ls.getD i []) = true) (hb : ∀ x, x < a → ∀ i, 1 ≤ i → i < 5 → (ls.getD (i - 1) []).getD x 0 < (ls.getD i []).getD x 0) : fitsB a b ls = true := by
 have : fitTo a b ls 5 = true := by
  rw [fitTo, List.all_eq_true]
  intro i hi
  have hi := List.mem_range.1 hi
  rw [fitAt, hp i hi]
  by_cases h0 : i = 0
  ·simp [h0]
  ·have : aboveB (ls.getD (i - 1) []) (ls.getD i []) = true := aboveB_iff.2 fun x hx => hb x (by have := (pathB_len (hp (i - 1) (by omega))).1; omega) i (by omega) hi
   rw [this]; simp
 rw [fitsB, this, h5]; rfl
theorem fitsB_not {a b : Nat} {ls : List (List Int)} {x i : Nat} (hp : ∀ i, i < 5 → pathB a b (ls.getD i []) = true) (hx : x < a) (h1 : 1 ≤ i) (hi : i < 5) (hb : (ls.getD i []).getD x 0 ≤ (ls.getD (i - 1) []).getD x 0) : fitsB a b ls = false := by
 have : aboveB (ls.getD (i - 1) []) (ls.getD i []) = false := by
  cases h : aboveB (ls.getD (i - 1) []) (ls.getD i []) with
  | false => rfl
  | true =>
   have := aboveB_iff.1 h x (by have := (pathB_len (hp (i - 1) (by omega))).1; omega)
   omega
 rw [fitsB, fitTo_bad (x := i) (by rw [fitAt, this, beq_eq_false_iff_ne.2 (by omega), Bool.or_false, Bool.and_false]) hi, Bool.and_false]
instance K_refStFits {a b : Nat} {p q : AVal} {H : AHeap} {g : List UInt8} {ls : List (List Int)} [hp : BytesI H p g] [hq : LinesI H q ls] [ha : Side a] [hb : Side b] : PureCon ext prog 76 [.agg [.int .i64 (a : Int), .int .i64 (b : Int), p], .agg [q]] H 2 (.bool (fitsB a b ls)) := ⟨by
 refine con_of (show prog 76 = some c76 from rfl) rfl rfl fun n hn => ?_
 obtain ⟨ps, hps, hrw⟩ := hq.it
 haveI := hp.one
 haveI := hps.one
 have hal := ha.le
 cases h0 : (((ls.length : Nat) : Int) != 5)
 rotate_left
 ·have e1 : fitsB a b ls = false := by
   have : ls.length ≠ 5 := by intro e; rw [e] at h0; simp at h0
   simp [fitsB, this]
  rw [e1]
  repeat first
   | refine mB ?_
   | refine fd ?_
   | refine Fo.ld rfl rfl ?_
   | (refine bn rfl rfl rfl (by simp only [h0]; rfl) ?_)
   | (refine ln (by simp only [↓nrmL, nrmK, Nat.reduceEqDiff, ↓reduceIte]; rfl) ?_)
   | refine bA ?_
   | refine nl hKF ?_
   | refine sq ?_
   | refine rg fun KF hKF => ?_
   | refine ct rfl ?_
   | refine rt ?_
   | dsimp only [cond_true, cond_false]
  refine rz trivial ?_
  exact ⟨rfl, Ext0.ext⟩
 have hl5 : ls.length = 5 := by have h7 := h0; simp only [bne_eq_false_iff_eq] at h7; omega
 repeat first
  | refine mI ?_
  | refine mB ?_
  | refine fd ?_
  | refine Fo.ld rfl rfl ?_
  | (refine bn rfl rfl rfl (by simp only [h0]; rfl) ?_)
  | (refine ln (by simp only [↓nrmL, nrmK, Nat.reduceEqDiff, ↓reduceIte]; rfl) ?_)
  | refine bA ?_
  | refine nl hKF ?_
  | refine sq ?_
  | refine rg fun KF hKF => ?_
  | refine cf rfl ?_
  | refine sk ?_
  | refine Wp.block ?_
  | dsimp only [cond_true, cond_false]
 refine Wp.loopS [4, 5, 12, 13, 14, 15, 16, 17, 18, 19, 20, 21, 22, 23] (fun x : Nat => [(5, .int .i64 x)]) (fun H3 x H2 => x ≤ 5 ∧ (∀ i, i < x → pathB a b (ls.getD i []) = true) ∧ Ext0 H3 H2) (fun x => 5 - x) 0 rfl (fun _ => rfl) ⟨rfl, trivial⟩ ⟨Nat.zero_le _, fun i hi => by omega, inferInstance⟩ (by unfold fuel0 at hn; omega) ?_
 rintro x g2 H2 ⟨hx, hok, ⟨hx2⟩⟩
 haveI : ExtI _ H2 := ⟨hx2⟩
 simp only [↓nrmL, nrmZ, Nat.reduceEqDiff, ↓reduceIte, Nat.reduceAdd, Int.reduceBEq, Int.reduceBNe]
 cases hc : decide ((x : Int) < 5)
 rotate_left
 ·have hxl : x < ls.length := by have := of_decide_eq_true hc; omega
  have hw1 := wa1 (a := x) (by omega)
  obtain ⟨qi, hqi, hIi⟩ := hrw.it x hxl
  haveI := hIi
  haveI := hIi.one
  cases hpa : pathB a b ls[x]
  ·rw [fitsB_bad (x := x) (by rw [getDL_at hxl, hpa]) (by omega)]
   repeat first
    | refine mI ?_
    | (refine bn rfl rfl rfl (by simp only [hc]; rfl) ?_)
    | refine nl hKF ?_
    | refine sq ?_
    | refine rg fun KF hKF => ?_
    | refine ct rfl ?_
    | refine sk ?_
    | refine Wp.block ?_
    | dsimp only [cond_true, cond_false]
   refine Fr.dregion0 rfl fun KF hKF => ?_
   repeat first
    | (refine Er rfl (exec_ld rfl rfl) rfl ?_)
    | (refine Er rfl (exec_ldN rfl rfl (by simp only [↓nrmL, nrmZ, Nat.reduceEqDiff, ↓reduceIte, Nat.reduceAdd, Int.reduceBEq, Int.reduceBNe]; rfl)) rfl ?_)
    | (refine Fe.pure rfl rfl (by simp only [↓nrmL, nrmZ, Nat.reduceEqDiff, ↓reduceIte, Nat.reduceAdd, Int.reduceBEq, Int.reduceBNe]; rfl) ?_)
    | (refine Fe.pure rfl (exec_idxP (by (try simp only [↓nrmL, nrmZ, Nat.reduceEqDiff, ↓reduceIte, Nat.reduceAdd, Int.reduceBEq, Int.reduceBNe]); rfl) rfl ?_) (by simp only [↓nrmL, nrmZ, Nat.reduceEqDiff, ↓reduceIte, Nat.reduceAdd, Int.reduceBEq, Int.reduceBNe]; rfl) ?_; (focus omega))
   refine Fe.read rfl (exec_ldP (p := q) (j := x) rfl hqi) rfl trivial ?_
   simp only [↓nrmL, nrmZ, Nat.reduceEqDiff, ↓reduceIte, Nat.reduceAdd, Int.reduceBEq, Int.reduceBNe, hpa]
   refine Fe.pcall (v' := ?_) rfl hn rfl (by simp only [↓nrmL, nrmZ, Nat.reduceEqDiff, ↓reduceIte, Nat.reduceAdd, Int.reduceBEq, Int.reduceBNe, hpa, List.map]; rfl) rfl ?hv fun _ _ => ar ?_; case hv => (simp only [hpa]; rfl)
   refine Fe.pure rfl rfl (by simp only [↓nrmL, nrmZ, Nat.reduceEqDiff, ↓reduceIte, Nat.reduceAdd, Int.reduceBEq, Int.reduceBNe, hpa]; rfl) ?_
   refine WpE.nil (hKF _ _ ?_)
   refine ct rfl ?_
   refine sq ?_
   refine rg fun KF hKF => ?_
   refine mB ?_
   refine nl hKF ?_
   refine rt ?_
   dsimp only [cond_true, cond_false]
   refine rz trivial ?_
   exact ⟨rfl, Ext0.ext⟩
  ·skip
   repeat first
    | refine mI ?_
    | (refine bn rfl rfl rfl (by simp only [hc]; rfl) ?_)
    | refine nl hKF ?_
    | refine sq ?_
    | refine rg fun KF hKF => ?_
    | refine ct rfl ?_
    | refine sk ?_
    | refine Wp.block ?_
    | dsimp only [cond_true, cond_false]
   refine Fr.dregion0 rfl fun KF hKF => ?_
   repeat first
    | (refine Er rfl (exec_ld rfl rfl) rfl ?_)
    | (refine Er rfl (exec_ldN rfl rfl (by simp only [↓nrmL, nrmZ, Nat.reduceEqDiff, ↓reduceIte, Nat.reduceAdd, Int.reduceBEq, Int.reduceBNe]; rfl)) rfl ?_)
    | (refine Fe.pure rfl rfl (by simp only [↓nrmL, nrmZ, Nat.reduceEqDiff, ↓reduceIte, Nat.reduceAdd, Int.reduceBEq, Int.reduceBNe]; rfl) ?_)
    | (refine Fe.pure rfl (exec_idxP (by (try simp only [↓nrmL, nrmZ, Nat.reduceEqDiff, ↓reduceIte, Nat.reduceAdd, Int.reduceBEq, Int.reduceBNe]); rfl) rfl ?_) (by simp only [↓nrmL, nrmZ, Nat.reduceEqDiff, ↓reduceIte, Nat.reduceAdd, Int.reduceBEq, Int.reduceBNe]; rfl) ?_; (focus omega))
   refine Fe.read rfl (exec_ldP (p := q) (j := x) rfl hqi) rfl trivial ?_
   simp only [↓nrmL, nrmZ, Nat.reduceEqDiff, ↓reduceIte, Nat.reduceAdd, Int.reduceBEq, Int.reduceBNe, hpa]
   refine Fe.pcall (v' := ?_) rfl hn rfl (by simp only [↓nrmL, nrmZ, Nat.reduceEqDiff, ↓reduceIte, Nat.reduceAdd, Int.reduceBEq, Int.reduceBNe, hpa, List.map]; rfl) rfl ?hv fun _ _ => ar ?_; case hv => (simp only [hpa]; rfl)
   refine Fe.pure rfl rfl (by simp only [↓nrmL, nrmZ, Nat.reduceEqDiff, ↓reduceIte, Nat.reduceAdd, Int.reduceBEq, Int.reduceBNe, hpa]; rfl) ?_
   refine WpE.nil (hKF _ _ ?_)
   refine cf rfl ?_
   refine sk ?_
   refine rg fun KF hKF => ?_
   refine mI ?_
   refine b0 ?_
   refine mI ?_
   refine nl hKF ?_
   dsimp only [cond_true, cond_false]
   refine ⟨x + 1, by omega, ⟨by simp only [↓nrmL, nrmZ, Nat.reduceEqDiff, ↓reduceIte, Nat.reduceAdd, Int.reduceBEq, Int.reduceBNe]; rw [hw1], trivial⟩, by omega, fun i hi => ?_, inferInstance⟩
   by_cases e : i = x
   ·rw [e, getDL_at hxl, hpa]
   ·exact hok i (by omega)
 have hx5 : x = 5 := by have := of_decide_eq_false hc; omega
 rw [hx5] at hok
 repeat first
  | refine mI ?_
  | (refine bn rfl rfl rfl (by simp only [hc]; rfl) ?_)
  | refine nl hKF ?_
  | refine sq ?_
  | refine rg fun KF hKF => ?_
  | refine cf rfl ?_
  | refine Wp.block ?_
  | refine xi ?_
  | dsimp only [cond_true, cond_false]
 refine Wp.loopS [4, 6, 7, 24, 25, 26, 27, 28, 29, 30, 31, 32, 33, 34, 35, 36, 37, 38, 39, 40, 41, 42, 43, 44, 45, 46, 47, 48, 49, 50, 51] (fun x : Nat => [(6, .int .i64 x)]) (fun H3 x H4 => x ≤ a ∧ (∀ c, c < x → ∀ i, 1 ≤ i → i < 5 → (ls.getD (i - 1) []).getD c 0 < (ls.getD i []).getD c 0) ∧ H4 = H3) (fun x => a - x) 0 rfl (fun _ => rfl) ⟨rfl, trivial⟩ ⟨Nat.zero_le _, fun c hc => by omega, rfl⟩ (by unfold fuel0 at hn; omega) ?_
 rintro y g3 H4 ⟨hy, hbel, rfl⟩
 simp only [↓nrmL, nrmZ, Nat.reduceEqDiff, ↓reduceIte, Nat.reduceAdd, Int.reduceBEq, Int.reduceBNe]
 cases hc2 : decide ((y : Int) < (a : Int))
 ·have hya : y = a := by have := of_decide_eq_false hc2; omega
  rw [fitsB_of hl5 hok (fun x hx => hbel x (by omega))]
  repeat first
   | refine mI ?_
   | refine mB ?_
   | refine fd ?_
   | refine Fo.ld rfl rfl ?_
   | (refine bn rfl rfl rfl (by simp only [hc2]; rfl) ?_)
   | refine nl hKF ?_
   | refine sq ?_
   | refine rg fun KF hKF => ?_
   | refine cf rfl ?_
   | refine rt ?_
   | refine xi ?_
   | dsimp only [cond_true, cond_false]
  refine rz trivial ?_
  exact ⟨rfl, Ext0.ext⟩
 have hya : y < a := by have := of_decide_eq_true hc2; omega
 have hw1 := wa1 (a := y) (by omega)
 repeat first
  | refine mI ?_
  | refine fd ?_
  | refine Fo.ld rfl rfl ?_
  | (refine bn rfl rfl rfl (by simp only [hc2]; rfl) ?_)
  | refine nl hKF ?_
  | refine sq ?_
  | refine rg fun KF hKF => ?_
  | refine ct rfl ?_
  | refine sk ?_
  | refine Wp.block ?_
  | dsimp only [cond_true, cond_false]
 refine Wp.loopS [4, 7, 30, 31, 32, 33, 34, 35, 36, 37, 38, 39, 40, 41, 42, 43, 44, 45, 46, 47, 48, 49, 50, 51] (fun i : Nat => [(7, .int .i64 i)]) (fun H3 i H5 => 1 ≤ i ∧ i ≤ 5 ∧ (∀ j, 1 ≤ j → j < i → (ls.getD (j - 1) []).getD y 0 < (ls.getD j []).getD y 0) ∧ H5 = H3) (fun i => 5 - i) 1 rfl (fun _ => rfl) ⟨rfl, trivial⟩ ⟨Nat.le_refl _, by omega, fun j h1 h2 => by omega, rfl⟩ (by unfold fuel0 at hn; omega) ?_
 rintro i g4 H5 ⟨hi1, hi5, hin, rfl⟩
 simp only [↓nrmL, nrmZ, Nat.reduceEqDiff, ↓reduceIte, Nat.reduceAdd, Int.reduceBEq, Int.reduceBNe]
 cases hc3 : decide ((i : Int) < 5)
 ·have hie : i = 5 := by have := of_decide_eq_false hc3; omega
  repeat first
   | refine mI ?_
   | (refine bn rfl rfl rfl (by simp only [hc3]; rfl) ?_)
   | refine b0 ?_
   | refine nl hKF ?_
   | refine sq ?_
   | refine rg fun KF hKF => ?_
   | refine cf rfl ?_
   | refine xi ?_
   | dsimp only [cond_true, cond_false]
  refine ⟨y + 1, by omega, ⟨by simp only [↓nrmL, nrmZ, Nat.reduceEqDiff, ↓reduceIte, Nat.reduceAdd, Int.reduceBEq, Int.reduceBNe]; rw [hw1], trivial⟩, hya, fun c hcy j h1 h2 => ?_, rfl⟩
  by_cases e : c = y
  ·rw [e]; exact hin j h1 (by omega)
  ·exact hbel c (by omega) j h1 h2
 have hie : i < 5 := by have := of_decide_eq_true hc3; omega
 have hw3 := wa1 (a := i) (by omega)
 have hw2 := ws1 (a := i) (by omega) (by omega)
 have hil : i < ls.length := by omega
 have him : i - 1 < ls.length := by omega
 obtain ⟨qi, hqi, hIi⟩ := hrw.it i hil
 obtain ⟨qm, hqm, hIm⟩ := hrw.it (i - 1) him
 haveI := hIi
 haveI := hIm
 haveI := hIi.one
 haveI := hIm.one
 have hyi : y < ls[i].length := by have := (pathB_len (hok i hie)).1; rw [getDL_at hil] at this; omega
 have hym : y < ls[i - 1].length := by have := (pathB_len (hok (i - 1) (by omega))).1; rw [getDL_at him] at this; omega
 cases hle : decide (ls[i][y] ≤ ls[i - 1][y])
 rotate_left
 ·have h9 := of_decide_eq_true hle
  rw [fitsB_not (i := i) (x := y) hok hya hi1 hie (by rw [getDL_at hil, getDL_at him, getD_at hyi, getD_at hym]; exact h9)]
  repeat first
   | refine mI ?_
   | refine fd ?_
   | refine Fo.ld rfl rfl ?_
   | (refine bn rfl rfl rfl (by simp only [hc3]; rfl) ?_)
   | (refine Fo.idx (by simp only [↓nrmL, nrmK, Nat.reduceEqDiff, ↓reduceIte]; rfl) rfl ?_ (by simp only [↓nrmL, nrmZ, Nat.reduceEqDiff, ↓reduceIte, Nat.reduceAdd, Int.reduceBEq, Int.reduceBNe, hc3]; rfl) ?_; (focus omega))
   | refine nl hKF ?_
   | refine sq ?_
   | refine rg fun KF hKF => ?_
   | refine Fr.quiet rfl rfl fun KF hKF => ?_
   | refine ct rfl ?_
   | refine sk ?_
   | refine Wp.block ?_
  refine Fo.now rfl (exec_ldP (p := q) (j := i) rfl hqi) rfl ?_
  simp only [↓nrmL, nrmZ, Nat.reduceEqDiff, ↓reduceIte, Nat.reduceAdd, Int.reduceBEq, Int.reduceBNe, hw2]
  repeat first
   | refine mI ?_
   | refine fd ?_
   | refine Fo.ld rfl rfl ?_
   | (refine bn rfl rfl rfl (by simp only [hw2]; rfl) ?_)
   | (refine Fo.idx (by simp only [↓nrmL, nrmK, Nat.reduceEqDiff, ↓reduceIte]; rfl) rfl ?_ (by simp only [↓nrmL, nrmZ, Nat.reduceEqDiff, ↓reduceIte, Nat.reduceAdd, Int.reduceBEq, Int.reduceBNe, hw2]; rfl) ?_; (focus omega))
   | (refine Fo.ldI rfl ?_ rfl ?_; (focus omega))
  refine Fo.now rfl (exec_ldP (p := q) (j := i - 1) rfl hqm) rfl ?_
  simp only [↓nrmL, nrmZ, Nat.reduceEqDiff, ↓reduceIte, Nat.reduceAdd, Int.reduceBEq, Int.reduceBNe, hle]
  refine mI ?_
  refine Fo.idx (by simp only [↓nrmL, nrmK, Nat.reduceEqDiff, ↓reduceIte]; rfl) rfl ?_ (by simp only [↓nrmL, nrmZ, Nat.reduceEqDiff, ↓reduceIte, Nat.reduceAdd, Int.reduceBEq, Int.reduceBNe, hle]; rfl) ?_; (focus omega)
  refine Fo.ldI rfl ?_ rfl ?_; (focus omega)
  refine bn rfl rfl rfl (by simp only [hle]; rfl) ?_
  refine nl hKF ?_
  refine ct rfl ?_
  refine sq ?_
  refine rg fun KF hKF => ?_
  refine mB ?_
  refine nl hKF ?_
  refine rt ?_
  dsimp only [cond_true, cond_false]
  refine rz trivial ?_
  exact ⟨rfl, Ext0.ext⟩
 have h9 := of_decide_eq_false hle
 repeat first
  | refine mI ?_
  | refine fd ?_
  | refine Fo.ld rfl rfl ?_
  | (refine bn rfl rfl rfl (by simp only [hc3]; rfl) ?_)
  | (refine Fo.idx (by simp only [↓nrmL, nrmK, Nat.reduceEqDiff, ↓reduceIte]; rfl) rfl ?_ (by simp only [↓nrmL, nrmZ, Nat.reduceEqDiff, ↓reduceIte, Nat.reduceAdd, Int.reduceBEq, Int.reduceBNe, hc3]; rfl) ?_; (focus omega))
  | refine nl hKF ?_
  | refine sq ?_
  | refine rg fun KF hKF => ?_
  | refine Fr.quiet rfl rfl fun KF hKF => ?_
  | refine ct rfl ?_
  | refine sk ?_
  | refine Wp.block ?_
 refine Fo.now rfl (exec_ldP (p := q) (j := i) rfl hqi) rfl ?_
 simp only [↓nrmL, nrmZ, Nat.reduceEqDiff, ↓reduceIte, Nat.reduceAdd, Int.reduceBEq, Int.reduceBNe, hw2]
 repeat first
  | refine mI ?_
  | refine fd ?_
  | refine Fo.ld rfl rfl ?_
  | (refine bn rfl rfl rfl (by simp only [hw2]; rfl) ?_)
  | (refine Fo.idx (by simp only [↓nrmL, nrmK, Nat.reduceEqDiff, ↓reduceIte]; rfl) rfl ?_ (by simp only [↓nrmL, nrmZ, Nat.reduceEqDiff, ↓reduceIte, Nat.reduceAdd, Int.reduceBEq, Int.reduceBNe, hw2]; rfl) ?_; (focus omega))
  | (refine Fo.ldI rfl ?_ rfl ?_; (focus omega))
 refine Fo.now rfl (exec_ldP (p := q) (j := i - 1) rfl hqm) rfl ?_
 simp only [↓nrmL, nrmZ, Nat.reduceEqDiff, ↓reduceIte, Nat.reduceAdd, Int.reduceBEq, Int.reduceBNe, hle]
 repeat first
  | refine mI ?_
  | (refine bn rfl rfl rfl (by simp only [hle]; rfl) ?_)
  | refine b0 ?_
  | (refine Fo.idx (by simp only [↓nrmL, nrmK, Nat.reduceEqDiff, ↓reduceIte]; rfl) rfl ?_ (by simp only [↓nrmL, nrmZ, Nat.reduceEqDiff, ↓reduceIte, Nat.reduceAdd, Int.reduceBEq, Int.reduceBNe, hle]; rfl) ?_; (focus omega))
  | (refine Fo.ldI rfl ?_ rfl ?_; (focus omega))
  | refine nl hKF ?_
  | refine rg fun KF hKF => ?_
  | refine cf rfl ?_
  | refine sk ?_
  | dsimp only [cond_true, cond_false]
 refine ⟨i + 1, by omega, ⟨by simp only [↓nrmL, nrmZ, Nat.reduceEqDiff, ↓reduceIte, Nat.reduceAdd, Int.reduceBEq, Int.reduceBNe]; rw [hw3], trivial⟩, by omega, by omega, fun j h1 h2 => ?_, rfl⟩
 by_cases e : j = i
 ·rw [e, getDL_at hil, getDL_at him, getD_at hyi, getD_at hym]; omega
 ·exact hin j h1 (by omega)⟩
end Go.Am


namespace Go.Am
open Go
attribute [local irreducible] Wp WpO WpX WpE
end Go.Am


namespace Go.Am
open Go
attribute [local irreducible] Wp WpO WpX WpE
end Go.Am


namespace Go.Am
open Go
attribute [local irreducible] Wp WpO WpX WpE
structure Ok (a b : Nat) (l : List UInt8) : Prop where
 wa : a ≤ 640
 hb : b ≤ 640
 len : l.length = a * b
 px : pxOk l = true
theorem Ok.sized {a b : Nat} {l : List UInt8} (h : Ok a b l) : sizedB a b l.length = true := by
 have hm : a * b ≤ 640 * 640 := Nat.mul_le_mul h.wa h.hb
 have h1 : sideB a = true := by simp only [sideB, Bool.and_eq_true, decide_eq_true_eq]; have := h.wa; omega
 have h2 : sideB b = true := by simp only [sideB, Bool.and_eq_true, decide_eq_true_eq]; have := h.hb; omega
 unfold sizedB
 rw [h1, h2, wm (by omega), h.len]
 simp
theorem Ok.err {a b : Nat} {l : List UInt8} (h : Ok a b l) : Img.err ⟨a, b, l⟩ = 0 := by
 have h1 : (⟨a, b, l⟩ : Img).sized = true := h.sized
 have h2 := h.px
 unfold Img.err
 rw [h1]
 simp only [h2, cond_true]
end Go.Am


namespace Go.Am
open Go
attribute [local irreducible] Wp WpO WpX WpE
end Go.Am


namespace Go.Am
open Go
attribute [local irreducible] Wp WpO WpX WpE
theorem ok_of {w h : Int} {l : List UInt8} (h0 : (Img.err ⟨w, h, l⟩ == 0) = true) : ∃ a b : Nat, w = a ∧ h = b ∧ Ok a b l := by
 obtain ⟨h1, h2⟩ := Img.ok h0
 obtain ⟨a, b, e1, e2, e3, e4, e5⟩ := sized_nat h1
 exact ⟨a, b, e1, e2, e3, e4, e5, h2⟩
end Go.Am

namespace Go.Am
open Go
attribute [local irreducible] Wp WpO WpX WpE
def checkS (g : Img) (ls : List (List Int)) : Int := bif g.err == 0 then (bif fitsB g.w.toNat g.h.toNat ls then 0 else 10) else g.err
instance K_stCheck {w h : Int} {p q : AVal} {H : AHeap} {l : List UInt8} {ls : List (List Int)} [hp : BytesI H p l] [hq : LinesI H q ls] : PureCon ext prog 31 [.agg [.int .i64 w, .int .i64 h, p], .agg [q]] H 4 (.int .i64 (checkS ⟨w, h, l⟩ ls)) := ⟨by
 refine con_of (show prog 31 = some c31 from rfl) rfl rfl fun n hn => ?_
 obtain ⟨ps, hps, _⟩ := hq.it
 haveI := hp.one
 haveI := hps.one
 cases h0 : (Img.err ⟨w, h, l⟩ == 0)
 ·have e1 : checkS ⟨w, h, l⟩ ls = Img.err ⟨w, h, l⟩ := by simp only [checkS, h0, cond_false]
  rw [e1]
  repeat first
   | refine mI ?_
   | (refine Fo.ldN rfl rfl (by simp only [↓nrmL, nrmZ, Nat.reduceEqDiff, ↓reduceIte, Nat.reduceAdd, Int.reduceBEq, Int.reduceBNe, h0, bne]; rfl) ?_)
   | (refine bn rfl rfl rfl (by simp only [h0, bne]; rfl) ?_)
   | (refine Fo.pcall (v' := ?_) hn rfl (by simp only [↓nrmL, nrmZ, Nat.reduceEqDiff, ↓reduceIte, Nat.reduceAdd, Int.reduceBEq, Int.reduceBNe, h0, bne, List.map]; rfl) rfl ?hv fun _ _ => ?_; case hv => rfl)
   | refine bA ?_
   | refine nl hKF ?_
   | refine sq ?_
   | refine rg fun KF hKF => ?_
   | refine ct rfl ?_
   | refine rt ?_
   | dsimp only [cond_true, cond_false]
  refine rz trivial ?_
  exact ⟨rfl, Ext0.ext⟩
 obtain ⟨a, b, rfl, rfl, ok⟩ := ok_of h0
 haveI : Side a := ⟨ok.wa⟩
 haveI : Side b := ⟨ok.hb⟩
 have e1 : checkS ⟨a, b, l⟩ ls = bif fitsB a b ls then 0 else 10 := by simp only [checkS, h0, cond_true, Int.toNat_natCast]
 cases hf : fitsB a b ls
 ·rw [e1, hf]
  repeat first
   | refine mI ?_
   | (refine Fo.ldN rfl rfl (by simp only [↓nrmL, nrmZ, Nat.reduceEqDiff, ↓reduceIte, Nat.reduceAdd, Int.reduceBEq, Int.reduceBNe, h0, bne]; rfl) ?_)
   | (refine bn rfl rfl rfl (by simp only [h0, bne]; rfl) ?_)
   | (refine Fo.pcall (v' := ?_) hn rfl (by simp only [↓nrmL, nrmZ, Nat.reduceEqDiff, ↓reduceIte, Nat.reduceAdd, Int.reduceBEq, Int.reduceBNe, h0, bne, List.map]; rfl) rfl ?hv fun _ _ => ?_; case hv => rfl)
   | refine bA ?_
   | refine Fo.now rfl rfl rfl ?_
   | refine nl hKF ?_
   | refine sq ?_
   | refine rg fun KF hKF => ?_
   | refine cf rfl ?_
   | refine sk ?_
   | dsimp only [cond_true, cond_false]
  rename AHeap => H1
  haveI : LinesI H1 q ls := hq.ext Ext0.ext
  simp only [hf]
  refine ct rfl ?_
  refine sq ?_
  refine rg fun KF hKF => ?_
  refine mI ?_
  refine nl hKF ?_
  refine rt ?_
  dsimp only [cond_true, cond_false]
  refine rz trivial ?_
  exact ⟨rfl, Ext0.ext⟩
 ·rw [e1, hf]
  repeat first
   | refine mI ?_
   | (refine Fo.ldN rfl rfl (by simp only [↓nrmL, nrmZ, Nat.reduceEqDiff, ↓reduceIte, Nat.reduceAdd, Int.reduceBEq, Int.reduceBNe, h0, bne]; rfl) ?_)
   | (refine bn rfl rfl rfl (by simp only [h0, bne]; rfl) ?_)
   | (refine Fo.pcall (v' := ?_) hn rfl (by simp only [↓nrmL, nrmZ, Nat.reduceEqDiff, ↓reduceIte, Nat.reduceAdd, Int.reduceBEq, Int.reduceBNe, h0, bne, List.map]; rfl) rfl ?hv fun _ _ => ?_; case hv => rfl)
   | refine bA ?_
   | refine Fo.now rfl rfl rfl ?_
   | refine nl hKF ?_
   | refine sq ?_
   | refine rg fun KF hKF => ?_
   | refine cf rfl ?_
   | refine sk ?_
   | dsimp only [cond_true, cond_false]
  rename AHeap => H1
  haveI : LinesI H1 q ls := hq.ext Ext0.ext
  simp only [hf]
  refine cf rfl ?_
  refine sk ?_
  refine sq ?_
  refine rg fun KF hKF => ?_
  refine mI ?_
  refine nl hKF ?_
  refine rt ?_
  dsimp only [cond_true, cond_false]
  refine rz trivial ?_
  exact ⟨rfl, Ext0.ext⟩⟩
instance K_stRefCheck {w h : Int} {p q : AVal} {H : AHeap} {l : List UInt8} {ls : List (List Int)} [hp : BytesI H p l] [hq : LinesI H q ls] : PureCon ext prog 32 [.agg [.int .i64 w, .int .i64 h, p], .agg [q]] H 4 (.int .i64 (checkS ⟨w, h, l⟩ ls)) := ⟨by
 refine con_of (show prog 32 = some c32 from rfl) rfl rfl fun n hn => ?_
 obtain ⟨ps, hps, _⟩ := hq.it
 haveI := hp.one
 haveI := hps.one
 cases h0 : (Img.err ⟨w, h, l⟩ == 0)
 ·have e1 : checkS ⟨w, h, l⟩ ls = Img.err ⟨w, h, l⟩ := by simp only [checkS, h0, cond_false]
  rw [e1]
  repeat first
   | refine mI ?_
   | (refine Fo.ldN rfl rfl (by simp only [↓nrmL, nrmZ, Nat.reduceEqDiff, ↓reduceIte, Nat.reduceAdd, Int.reduceBEq, Int.reduceBNe, h0, bne]; rfl) ?_)
   | (refine bn rfl rfl rfl (by simp only [h0, bne]; rfl) ?_)
   | (refine Fo.pcall (v' := ?_) hn rfl (by simp only [↓nrmL, nrmZ, Nat.reduceEqDiff, ↓reduceIte, Nat.reduceAdd, Int.reduceBEq, Int.reduceBNe, h0, bne, List.map]; rfl) rfl ?hv fun _ _ => ?_; case hv => rfl)
   | refine bA ?_
   | refine nl hKF ?_
   | refine sq ?_
   | refine rg fun KF hKF => ?_
   | refine ct rfl ?_
   | refine rt ?_
   | dsimp only [cond_true, cond_false]
  refine rz trivial ?_
  exact ⟨rfl, Ext0.ext⟩
 obtain ⟨a, b, rfl, rfl, ok⟩ := ok_of h0
 haveI : Side a := ⟨ok.wa⟩
 haveI : Side b := ⟨ok.hb⟩
 have e1 : checkS ⟨a, b, l⟩ ls = bif fitsB a b ls then 0 else 10 := by simp only [checkS, h0, cond_true, Int.toNat_natCast]
 cases hf : fitsB a b ls
 ·rw [e1, hf]
  repeat first
   | refine mI ?_
   | (refine Fo.ldN rfl rfl (by simp only [↓nrmL, nrmZ, Nat.reduceEqDiff, ↓reduceIte, Nat.reduceAdd, Int.reduceBEq, Int.reduceBNe, h0, bne]; rfl) ?_)
   | (refine bn rfl rfl rfl (by simp only [h0, bne]; rfl) ?_)
   | (refine Fo.pcall (v' := ?_) hn rfl (by simp only [↓nrmL, nrmZ, Nat.reduceEqDiff, ↓reduceIte, Nat.reduceAdd, Int.reduceBEq, Int.reduceBNe, h0, bne, List.map]; rfl) rfl ?hv fun _ _ => ?_; case hv => rfl)
   | refine bA ?_
   | refine Fo.now rfl rfl rfl ?_
   | refine nl hKF ?_
   | refine sq ?_
   | refine rg fun KF hKF => ?_
   | refine cf rfl ?_
   | refine sk ?_
   | dsimp only [cond_true, cond_false]
  rename AHeap => H1
  haveI : LinesI H1 q ls := hq.ext Ext0.ext
  simp only [hf]
  refine ct rfl ?_
  refine sq ?_
  refine rg fun KF hKF => ?_
  refine mI ?_
  refine nl hKF ?_
  refine rt ?_
  dsimp only [cond_true, cond_false]
  refine rz trivial ?_
  exact ⟨rfl, Ext0.ext⟩
 ·rw [e1, hf]
  repeat first
   | refine mI ?_
   | (refine Fo.ldN rfl rfl (by simp only [↓nrmL, nrmZ, Nat.reduceEqDiff, ↓reduceIte, Nat.reduceAdd, Int.reduceBEq, Int.reduceBNe, h0, bne]; rfl) ?_)
   | (refine bn rfl rfl rfl (by simp only [h0, bne]; rfl) ?_)
   | (refine Fo.pcall (v' := ?_) hn rfl (by simp only [↓nrmL, nrmZ, Nat.reduceEqDiff, ↓reduceIte, Nat.reduceAdd, Int.reduceBEq, Int.reduceBNe, h0, bne, List.map]; rfl) rfl ?hv fun _ _ => ?_; case hv => rfl)
   | refine bA ?_
   | refine Fo.now rfl rfl rfl ?_
   | refine nl hKF ?_
   | refine sq ?_
   | refine rg fun KF hKF => ?_
   | refine cf rfl ?_
   | refine sk ?_
   | dsimp only [cond_true, cond_false]
  rename AHeap => H1
  haveI : LinesI H1 q ls := hq.ext Ext0.ext
  simp only [hf]
  refine cf rfl ?_
  refine sk ?_
  refine sq ?_
  refine rg fun KF hKF => ?_
  refine mI ?_
  refine nl hKF ?_
  refine rt ?_
  dsimp only [cond_true, cond_false]
  refine rz trivial ?_
  exact ⟨rfl, Ext0.ext⟩⟩
end Go.Am

namespace Go.Am
open Go
attribute [local irreducible] Wp WpO WpX WpE
structure JS (Hb : AHeap) (r : Nat) (R0 : RLoop) (q : AVal) (L : List UInt8) (H : AHeap) : Prop where
 n : Hb.n ≤ H.n
 get : ∀ s, s < Hb.n → RowNe q s → H.get s = Hb.get s
 px : BytesI H q L
 wr : WrS H q
 loop : HasLoop H r R0
theorem JS.row {Hb H : AHeap} {r s : Nat} {R0 : RLoop} {q : AVal} {L : List UInt8} {cs : List AVal} {rw : Bool} {e : TypeId} (h : JS Hb r R0 q L H) (k : HasRow Hb s cs rw e) (hne : RowNe q s) : HasRow H s cs rw e := ⟨Nat.lt_of_lt_of_le k.lt h.n, by rw [h.get s k.lt hne]; exact k.get⟩
theorem JS.slice {Hb H : AHeap} {r : Nat} {R0 : RLoop} {q p : AVal} {L : List UInt8} {sz n : Nat} {cs : List AVal} (h : JS Hb r R0 q L H) (k : SliceAt Hb p sz n cs) (hne : SepS p q) : SliceAt H p sz n cs := k.keep h.n fun s _ _ _ _ e hs => h.get s hs ⟨fun r' _ _ _ _ e' hh => hne.ne _ _ _ _ _ _ _ _ _ _ e e' hh.symm⟩
theorem JS.ext {Hh Hb H : AHeap} {r : Nat} {R0 : RLoop} {q : AVal} {L : List UInt8} (h : JS Hb r R0 q L H) (x : Ext Hh Hb) (f : FreshS Hh q) : Ext Hh H := ⟨Nat.le_trans x.n h.n, fun s hs => by have := x.n; rw [h.get s (by omega) ⟨fun r' _ _ _ _ e => by have := f.ge _ _ _ _ _ e; omega⟩, x.get s hs]⟩
theorem JS.start {Hb : AHeap} {R0 : RLoop} {q : AVal} {L : List UInt8} (k : BytesI Hb q L) (w : WrS Hb q) : JS Hb (Hb.n + 1) R0 q L ((Hb.push .dead).push (.loop R0)) := by
 haveI := k
 haveI := w
 refine ⟨by simp only [AHeap.push]; omega, fun s hs _ => ?_, inferInstance, inferInstance, (inferInstance : HasLoop ((Hb.push .dead).push (.loop R0)) (Hb.push .dead).n R0)⟩
 rw [push_get_lt (by simp only [AHeap.push]; omega), push_get_lt hs]
theorem rct_at {a x y : Nat} (hx : x < a) : (y * a + x) % a = x ∧ (y * a + x) / a = y := by
 constructor
 ·rw [Nat.mul_comm, Nat.mul_add_mod]; exact Nat.mod_eq_of_lt hx
 ·rw [Nat.mul_comm, Nat.mul_add_div (by omega), Nat.div_eq_of_lt hx, Nat.add_zero]
theorem div_inj {a j k : Nat} (h1 : j % a = k % a) (h2 : j / a = k / a) : j = k := by
 have := Nat.div_add_mod j a
 have := Nat.div_add_mod k a
 rw [h1, h2] at *; omega
end Go.Am

namespace Go.Am
open Go
attribute [local irreducible] Wp WpO WpX WpE
end Go.Am

namespace Go.Am
open Go
attribute [local irreducible] Wp WpO WpX WpE
end Go.Am

namespace Go.Am
open Go
section
variable {call : ACall} {lf : Nat} {fr : AFrame} {H : AHeap} {Q : RExit → AFrame → AHeap → Prop} {a b : RCode}
end
end Go.Am

namespace Go.Am
open Go
attribute [local irreducible] Wp WpO WpX WpE
class Z0 (l : List Int) : Prop where
 hp : 0 < l.length
 h0 : l.getD 0 0 = 0
 hs : l.length ≤ 640
structure Wave (w : Nat) (L : List Int) (k : Nat) : Prop where
 len : L.length = w
 near : ∀ x, x + 1 < w → L.getD (x + 1) 0 - L.getD x 0 ≤ 1 ∧ L.getD x 0 - L.getD (x + 1) 0 ≤ 1
 low : ∀ x, -(k : Int) ≤ L.getD x 0 ∧ L.getD x 0 ≤ (k : Int)
 zero : L.getD 0 0 = 0
structure WaveX (w : Nat) (L : List Int) (k X : Nat) (Y : Int) : Prop extends Wave w L k where
 tail : ∀ i, X ≤ i → i < w → L.getD i 0 = Y
 y : -(k : Int) ≤ Y ∧ Y ≤ (k : Int)
theorem getD_out {L : List Int} {x : Nat} (h : L.length ≤ x) : L.getD x 0 = 0 := by rw [List.getD_eq_getElem?_getD, List.getElem?_eq_none h]; rfl
end Go.Am

namespace Go.Am
open Go
attribute [local irreducible] Wp WpO WpX WpE
def lineL (lo : Nat) (L : List Int) (i k : Nat) : List Int := (List.range L.length).map fun x => 5 + (lo : Int) + 36 * i + 6 * k + L.getD x 0
def staveL (lo : Nat) (L : List Int) (i : Nat) : List (List Int) := (List.range 5).map (lineL lo L i)
structure StvR (H : AHeap) (sp : AVal) (ls : List (List Int)) (B : Nat) : Prop where
 it : ∃ r ps e, sp = .slice r 0 ls.length none 1 ∧ HasRow H r ps true e ∧ e / 2 = 25 ∧ ps.length = ls.length ∧ B ≤ r ∧ ∀ j (h : j < ls.length), ∃ rj, ps[j]? = some (.slice rj 0 ls[j].length (some ls[j].length) 1) ∧ HasRow H rj (cellsI ls[j]) true (2 * 3) ∧ B ≤ rj
theorem StvR.keep {H H' : AHeap} {sp : AVal} {ls : List (List Int)} {B : Nat} (h : StvR H sp ls B) (hn : H.n ≤ H'.n) (hg : ∀ s cs e, s < H.n → B ≤ s → H.get s = .row cs true e → (e / 2 = 25 ∨ e = 2 * 3) → H'.get s = H.get s) : StvR H' sp ls B := by
 obtain ⟨r, ps, e, h1, h2, h3, h4, h5, h6⟩ := h.it
 refine ⟨r, ps, e, h1, ⟨Nat.lt_of_lt_of_le h2.lt hn, by rw [hg r ps e h2.lt h5 h2.get (Or.inl h3)]; exact h2.get⟩, h3, h4, h5, fun j hj => ?_⟩
 obtain ⟨rj, a1, a2, a3⟩ := h6 j hj
 exact ⟨rj, a1, ⟨Nat.lt_of_lt_of_le a2.lt hn, by rw [hg rj _ _ a2.lt a3 a2.get (Or.inr rfl)]; exact a2.get⟩, a3⟩
class RowLt (p : AVal) (B : Nat) : Prop where
 lt : ∀ r off len cap sz, p = .slice r off len cap sz → r < B
structure Lns (H : AHeap) (ps : List AVal) (ls : List (List Int)) (B : Nat) : Prop where
 len : ps.length = ls.length
 it : ∀ j (h : j < ls.length), ∃ rj, ps[j]? = some (.slice rj 0 ls[j].length (some ls[j].length) 1) ∧ HasRow H rj (cellsI ls[j]) true (2 * 3) ∧ B ≤ rj
theorem Lns.keep {H H' : AHeap} {ps : List AVal} {ls : List (List Int)} {B : Nat} (h : Lns H ps ls B) (hn : H.n ≤ H'.n) (hg : ∀ s cs, s < H.n → B ≤ s → H.get s = .row cs true (2 * 3) → H'.get s = H.get s) : Lns H' ps ls B := ⟨h.len, fun j hj => by
 obtain ⟨rj, a1, a2, a3⟩ := h.it j hj
 exact ⟨rj, a1, ⟨Nat.lt_of_lt_of_le a2.lt hn, by rw [hg rj _ a2.lt a3 a2.get]; exact a2.get⟩, a3⟩⟩
theorem Lns.stv {H : AHeap} {sp : AVal} {ps : List AVal} {ls : List (List Int)} {B : Nat} (h : Lns H ps ls B) (ho : OwnS H sp 1 ls.length ps 25) (h0 : 0 < ls.length) (hf : ∀ r off len cap sz, sp = .slice r off len cap sz → B ≤ r) : StvR H sp ls B := by
 rcases ho.it with ⟨_, h1, _⟩ | ⟨r, e, h1, h2, h3, h4, h5, h6⟩
 ·omega
 ·exact ⟨r, ps, e, h1, ⟨h2, h3⟩, h4, h.len, hf _ _ _ _ _ h1, h.it⟩
end Go.Am

namespace Go.Am
open Go
attribute [local irreducible] Wp WpO WpX WpE
theorem Wave.mono {w k k' : Nat} {L : List Int} (h : Wave w L k) (hk : k ≤ k') : Wave w L k' := ⟨h.len, h.near, fun x => by have := h.low x; omega, h.zero⟩
section
variable {call : ACall} {fr : AFrame} {H : AHeap} {K : AVal → AHeap → Prop}
end
theorem row_ints {H : AHeap} {r n : Nat} {l : List Int} {w : Bool} {e : TypeId} (h : HasRow H r (cellsI l) w e) (hn : l.length = n) : IntsI H (.slice r 0 n (some n) 1) l := by
 subst hn
 exact ⟨Or.inr ⟨r, 0, some l.length, cellsI l, w, e, rfl, h.lt, h.get, by rw [cellsI_length]; omega, by rw [List.drop_zero, Nat.mul_one, ← cellsI_length l, List.take_length], Nat.le_refl _⟩⟩
instance row_one {H : AHeap} {r : Nat} {a : AVal} {rw : Bool} {ty : TypeId} [h : HasRow H r [a] rw ty] : SliceAt H (.slice r 0 1 (some 1) 1) 1 1 [a] := ⟨Or.inr ⟨r, 0, some 1, _, rw, ty, rfl, h.lt, h.get, by simp, rfl, Nat.le_refl _⟩⟩
theorem ExtP.other {a b c : AHeap} {p q : AVal} (h : ExtP a b p) (k : ExtP b c q) (hq : ∀ r off len cap sz, q = .slice r off len cap sz → a.n ≤ r) : ExtP a c p := ⟨Nat.le_trans h.n k.n, fun r hr hp => by
 rw [k.get r (Nat.lt_of_lt_of_le hr h.n) ⟨fun r' _ _ _ _ e => by have := hq _ _ _ _ _ e; omega⟩]
 exact h.get r hr hp⟩
structure WavyR (H H' : AHeap) (v : AVal) (w h n : Nat) (L : List Int) (lo hi : Nat) (P : List UInt8) (gp op : AVal) (cells : List AVal) (B : Nat) : Prop where
 ev : v = .tuple [.agg [.int .i64 (w : Int), .int .i64 (h : Int), gp], op]
 w1 : 40 ≤ w
 w2 : w ≤ 159
 n1 : 1 ≤ n
 n2 : n ≤ 3
 wave : Wave w L 14
 lo1 : lo ≤ 14
 hi1 : hi ≤ 14
 lo2 : ∀ x, -(lo : Int) ≤ L.getD x 0
 hi2 : ∀ x, L.getD x 0 ≤ (hi : Int)
 eh : h = 36 * n + lo + hi - 1
 ok : Ok w h P
 hgp : BytesI H' gp P
 wr : WrS H' gp
 fr : FreshS H gp
 hop : SliceAt H' op 1 n cells
 stv : ∀ j, j < n → ∃ sp, cells[j]? = some sp ∧ StvR H' sp (staveL lo L j) B
 B1 : H.n ≤ B
 B2 : RowLt gp B
 B3 : ∀ r off len cap sz, op = .slice r off len cap sz → B ≤ r
 ext : Ext H H'
end Go.Am

namespace Go.Am
open Go
attribute [local irreducible] Wp WpO WpX WpE
theorem StvR.lines {H : AHeap} {sp : AVal} {ls : List (List Int)} {B : Nat} (h : StvR H sp ls B) : LinesI H sp ls := by
 obtain ⟨r, ps, e, h1, h2, h3, h4, h5, h6⟩ := h.it
 refine ⟨ps, ?_, ⟨fun i hi => ?_⟩⟩
 ·rw [h1]
  exact ⟨Or.inr ⟨r, 0, none, ps, true, e, rfl, h2.lt, h2.get, by omega, by rw [List.drop_zero, Nat.mul_one, ← h4, List.take_length], Nat.le_refl _⟩⟩
 ·obtain ⟨rj, a1, a2, a3⟩ := h6 i hi
  exact ⟨_, a1, row_ints a2 rfl⟩
theorem StvR.lo {H : AHeap} {sp : AVal} {ls : List (List Int)} {B : Nat} (h : StvR H sp ls B) : ∀ r off len cap sz, sp = .slice r off len cap sz → B ≤ r := by
 obtain ⟨r, ps, e, h1, h2, h3, h4, h5, h6⟩ := h.it
 intro r' off len cap sz e'
 rw [h1] at e'; cases e'; exact h5
end Go.Am


namespace Go.Am
open Go
attribute [local irreducible] Wp WpO WpX WpE
abbrev RunT := Int × Int × Int
def cellsR (l : List RunT) : List AVal := l.flatMap fun r => [.int .i64 r.1, .int .i64 r.2.1, .int .i64 r.2.2]
end Go.Am


namespace Go.Am
open Go
attribute [local irreducible] Wp WpO WpX WpE
instance {H : AHeap} {r : Nat} {a b c : AVal} {rw : Bool} {ty : TypeId} [h : HasRow H r [a, b, c] rw ty] : SliceAt H (.slice r 0 1 (some 1) 3) 3 1 [a, b, c] := ⟨Or.inr ⟨r, 0, some 1, _, rw, ty, rfl, h.lt, h.get, by simp, rfl, Nat.le_refl _⟩⟩
structure JR (Hb : AHeap) (rl r : Nat) (R0 : RLoop) (acc : List RunT) (H : AHeap) : Prop where
 n : Hb.n ≤ H.n
 get : ∀ s, s < Hb.n → s ≠ rl → H.get s = Hb.get s
 cell : ∃ p e, HasRow H rl [p] true e ∧ OwnS H p 3 acc.length (cellsR acc) 110 ∧ RowNe p rl ∧ FreshS Hb p
 loop : HasLoop H r R0
theorem JR.more {Hb H H' : AHeap} {rl r : Nat} {R0 : RLoop} {acc : List RunT} (h : JR Hb rl r R0 acc H) (x : Ext H H') : JR Hb rl r R0 acc H' := by
 obtain ⟨p, e, h1, h2, h3, h4⟩ := h.cell
 haveI : ExtI H H' := ⟨x⟩
 have h5 := h.loop
 have hn := h.n
 exact ⟨Nat.le_trans h.n x.n, fun s hs hne => by rw [x.get s (by omega)]; exact h.get s hs hne, ⟨p, e, inferInstance, inferInstance, h3, h4⟩, inferInstance⟩
end Go.Am


namespace Go.Am
open Go
attribute [local irreducible] Wp WpO WpX WpE
theorem JR.row {Hb H : AHeap} {rl r s : Nat} {R0 : RLoop} {acc : List RunT} {cs : List AVal} {rw : Bool} {e : TypeId} (h : JR Hb rl r R0 acc H) (k : HasRow Hb s cs rw e) (hne : s ≠ rl) : HasRow H s cs rw e := ⟨Nat.lt_of_lt_of_le k.lt h.n, by rw [h.get s k.lt hne]; exact k.get⟩
theorem JR.bytes {Hb H : AHeap} {rl r : Nat} {R0 : RLoop} {acc : List RunT} {p : AVal} {l : List UInt8} (h : JR Hb rl r R0 acc H) (k : BytesI Hb p l) (hne : RowNe p rl) : BytesI H p l := k.keep h.n fun s _ _ _ _ e hs => h.get s hs (hne.ne _ _ _ _ _ e)
theorem JR.ext {Hh Hb H : AHeap} {rl r : Nat} {R0 : RLoop} {acc : List RunT} (h : JR Hb rl r R0 acc H) (x : Ext Hh Hb) (hrl : Hh.n ≤ rl) : Ext Hh H := ⟨Nat.le_trans x.n h.n, fun s hs => by have := x.n; rw [h.get s (by omega) (by omega), x.get s hs]⟩
theorem JR.start {Hb : AHeap} {rl : Nat} {R0 : RLoop} {e : TypeId} (k : HasRow Hb rl [.nslice] true e) : JR Hb rl (Hb.n + 1) R0 [] ((Hb.push .dead).push (.loop R0)) := by
 have hlt := k.lt
 refine ⟨by simp only [AHeap.push]; omega, fun s hs _ => ?_, ⟨.nslice, e, inferInstance, ⟨Or.inl ⟨rfl, rfl, rfl⟩⟩, inferInstance, ⟨fun _ _ _ _ _ q => by cases q⟩⟩, (inferInstance : HasLoop ((Hb.push .dead).push (.loop R0)) (Hb.push .dead).n R0)⟩
 rw [push_get_lt (by simp only [AHeap.push]; omega), push_get_lt hs]
end Go.Am

namespace Go.Am
open Go
attribute [local irreducible] Wp WpO WpX WpE
class StavesI (H : AHeap) (p : AVal) (n : outParam Nat) (cells : outParam (List AVal)) (sts : outParam (List (List (List Int)))) : Prop where
 len : sts.length = n
 sl : SliceAt H p 1 n cells
 it : ∀ (i : Nat) (h : i < sts.length), ∃ q, cells[i]? = some q ∧ LinesI H q sts[i]
theorem StavesI.ext {H H' : AHeap} {p : AVal} {n : Nat} {cells : List AVal} {sts : List (List (List Int))} (h : StavesI H p n cells sts) (x : Ext H H') : StavesI H' p n cells sts := by
 haveI := h.sl
 haveI : ExtI H H' := ⟨x⟩
 refine ⟨h.len, inferInstance, fun i hi => ?_⟩
 obtain ⟨q, h1, h2⟩ := h.it i hi
 exact ⟨q, h1, h2.ext x⟩
def Dr (a : Nat) (sts : List (List (List Int))) (i k x j : Nat) : Prop := ∃ i' k', ∃ (h1 : i' < sts.length) (h2 : k' < sts[i'].length), (i' < i ∨ (i' = i ∧ (k' < k ∨ (k' = k ∧ j % a < x)))) ∧ sts[i'][k'].getD (j % a) 0 = ((j / a : Nat) : Int)
theorem Dr.line {a i k j : Nat} {sts : List (List (List Int))} (ha : 0 < a) : Dr a sts i k a j ↔ Dr a sts i (k + 1) 0 j := by
 have := Nat.mod_lt j ha
 constructor
 ·rintro ⟨i', k', h1, h2, h3, h4⟩; exact ⟨i', k', h1, h2, by omega, h4⟩
 ·rintro ⟨i', k', h1, h2, h3, h4⟩; exact ⟨i', k', h1, h2, by omega, h4⟩
theorem Dr.stave {a i j : Nat} {sts : List (List (List Int))} (hi : i < sts.length) : Dr a sts i sts[i].length 0 j ↔ Dr a sts (i + 1) 0 0 j := by
 constructor
 ·rintro ⟨i', k', h1, h2, h3, h4⟩; exact ⟨i', k', h1, h2, by omega, h4⟩
 ·rintro ⟨i', k', h1, h2, h3, h4⟩
  refine ⟨i', k', h1, h2, ?_, h4⟩
  by_cases e : i' = i
  ·subst e; exact Or.inr ⟨rfl, Or.inl h2⟩
  ·exact Or.inl (by omega)
theorem Dr.none {a j : Nat} {sts : List (List (List Int))} : ¬ Dr a sts 0 0 0 j := by
 rintro ⟨i', k', h1, h2, h3, h4⟩; omega
theorem Dr.next {a i k x y j : Nat} {sts : List (List (List Int))} (hi : i < sts.length) (hk : k < sts[i].length) (hx : x < a) (hy : sts[i][k].getD x 0 = (y : Int)) : Dr a sts i k (x + 1) j ↔ Dr a sts i k x j ∨ j = y * a + x := by
 constructor
 ·rintro ⟨i', k', h1, h2, h3, h4⟩
  by_cases e : i' = i ∧ k' = k ∧ j % a = x
  ·obtain ⟨rfl, rfl, e⟩ := e
   right
   rw [e, hy] at h4
   obtain ⟨d1, d2⟩ := rct_at (y := y) hx
   exact div_inj (a := a) (by rw [e, d1]) (by rw [d2]; omega)
  ·exact Or.inl ⟨i', k', h1, h2, by omega, h4⟩
 ·rintro (⟨i', k', h1, h2, h3, h4⟩ | rfl)
  ·exact ⟨i', k', h1, h2, by omega, h4⟩
  ·obtain ⟨d1, d2⟩ := rct_at (y := y) hx
   exact ⟨i, k, hi, hk, Or.inr ⟨rfl, Or.inr ⟨rfl, by omega⟩⟩, by rw [d1, d2]; exact hy⟩
structure Drawn (L : List UInt8) (n : Nat) (D : Nat → Prop) : Prop where
 len : L.length = n
 it : ∀ j, j < n → (L.getD j 0 = 1 ∧ D j) ∨ (L.getD j 0 = 0 ∧ ¬ D j)
theorem Drawn.congr {L : List UInt8} {n : Nat} {D E : Nat → Prop} (h : Drawn L n D) (hE : ∀ j, D j ↔ E j) : Drawn L n E := ⟨h.len, fun j hj => by rw [← hE j]; exact h.it j hj⟩
theorem Drawn.set {L : List UInt8} {n k : Nat} {D E : Nat → Prop} (h : Drawn L n D) (hk : k < n) (hE : ∀ j, E j ↔ D j ∨ j = k) : Drawn (L.set k 1) n E := by
 refine ⟨by rw [List.length_set]; exact h.len, fun j hj => ?_⟩
 rw [hE j]
 by_cases e : j = k
 ·subst e
  left
  exact ⟨by rw [List.getD_eq_getElem?_getD, List.getElem?_set_self (by rw [h.len]; exact hk)]; rfl, Or.inr rfl⟩
 ·rw [List.getD_eq_getElem?_getD, List.getElem?_set_ne (fun q => e q.symm), ← List.getD_eq_getElem?_getD]
  rcases h.it j hj with ⟨h1, h2⟩ | ⟨h1, h2⟩
  ·exact Or.inl ⟨h1, Or.inl h2⟩
  ·exact Or.inr ⟨h1, fun q => q.elim h2 e⟩
theorem Drawn.zero {n a : Nat} {sts : List (List (List Int))} : Drawn (List.replicate n 0) n (Dr a sts 0 0 0) := ⟨List.length_replicate, fun j hj => Or.inr ⟨by rw [List.getD_eq_getElem?_getD, List.getElem?_replicate, if_pos hj]; rfl, Dr.none⟩⟩
theorem take_one {cells : List AVal} {j : Nat} {q : AVal} (h : cells[j]? = some q) : (cells.drop j).take 1 = [q] := by
 apply List.ext_getElem?
 intro t
 rw [List.getElem?_take, List.getElem?_drop]
 cases t with
 | zero => rw [if_pos (by omega), Nat.add_zero]; exact h
 | succ t => rw [if_neg (by omega)]; rfl
end Go.Am

namespace Go.Am
open Go
attribute [local irreducible] Wp WpO WpX WpE
def StvG (B : Nat) (H : AHeap) (v : AVal) (sts : List (List (List Int))) : Prop := ∃ cells, OwnS H v 1 sts.length cells 43 ∧ (∀ j (h : j < sts.length), ∃ q, cells[j]? = some q ∧ StG B H q sts[j]) ∧ ∀ r off len cap sz, v = .slice r off len cap sz → B ≤ r
theorem SlimL.take {ls : List (List Int)} (h : SlimL ls) (b : Nat) : SlimL (ls.take b) := ⟨by have := h.le; rw [List.length_take]; omega, fun i hi => by
 rw [List.length_take] at hi
 rw [List.getElem_take]
 exact h.it i (by omega)⟩
theorem SlimL.drop {ls : List (List Int)} (h : SlimL ls) (b : Nat) : SlimL (ls.drop b) := ⟨by have := h.le; rw [List.length_drop]; omega, fun i hi => by
 rw [List.length_drop] at hi
 rw [List.getElem_drop]
 exact h.it (b + i) (by omega)⟩
theorem group_ne {ls : List (List Int)} (h5 : ls.length = 5) (hg : groupB ls = true) : ∀ (i : Nat) (h : i < ls.length), ls[i] ≠ [] := fun i hi e => by
 obtain ⟨h0, hl, _⟩ := groupB_iff.1 hg
 have := hl i (by omega)
 rw [getDL_at hi, e] at this
 exact h0 this.symm
def Left (H : AHeap) (pv : AVal) (rs : List (List Int)) : Prop := LinesI H pv rs ∨ (rs = [] ∧ aLenS pv = some (.int .i64 0))
theorem K_Staves {H : AHeap} {p : AVal} {ls : List (List Int)} [hp : LinesI H p ls] [hm : ModL ls] [hs : SlimL ls] (h40 : ls.length ≤ 40) : Con ext prog 3 27 [p] H fun v H' => StvG H.n H' v (stavesS ls) ∧ Ext H H' := by
 refine con_of (show prog 27 = some c27 from rfl) rfl rfl fun n hn => ?_
 obtain ⟨ps0, hps0, hrw0⟩ := hp.it
 haveI := hps0.one
 refine sq ?_
 refine rg fun KF hKF => ?_
 refine mN ?_
 refine nl hKF ?_
 dsimp only [cond_true, cond_false]
 refine Wp.scope ?_
 refine sq ?_
 refine rg fun KF hKF => ?_
 refine mN ?_
 refine nl hKF ?_
 refine sq ?_
 refine Wp.labelW ?_
 refine sq ?_
 refine Wp.block ?_
 dsimp only [cond_true, cond_false]
 refine Wp.loopS (σ := List (List (List Int)) × List (List Int) × AVal × AVal) [0, 3, 4, 5, 6, 7, 8, 9, 10, 11, 12, 13, 14, 15, 16, 17, 18, 19, 20, 21] (fun s => [(0, s.2.2.1), (3, s.2.2.2)]) (fun H3 s H2 => s.1 ++ stavesS s.2.1 = stavesS ls ∧ Left H s.2.2.1 s.2.1 ∧ ModL s.2.1 ∧ SlimL s.2.1 ∧ s.2.1.length ≤ 40 ∧ OneV s.2.2.1 ∧ StvG H.n H2 s.2.2.2 s.1 ∧ Ext0 H H2) (fun s => s.2.1.length) ([], ls, p, .nslice) rfl (fun _ => rfl) ⟨rfl, rfl, trivial⟩ ⟨rfl, Or.inl hp, hm, hs, h40, inferInstance, ⟨[], ⟨Or.inl ⟨rfl, rfl, rfl⟩⟩, fun j hj => (by cases hj), fun _ _ _ _ _ e => (by cases e)⟩, inferInstance⟩ (by unfold fuel0 at hn; dsimp only; omega) ?_
 rintro ⟨acc, rs, pv, op⟩ g H2 ⟨hacc, hl0, hmm, hss, hr40, h1v, hG, ⟨hx⟩⟩
 dsimp only at hacc hl0 hmm hss hr40 h1v hG
 haveI : ExtI H H2 := ⟨hx⟩
 haveI := h1v
 obtain ⟨cells, ho, hit, hlow⟩ := hG
 haveI := ho.sl.one
 simp only [↓nrmL, nrmZ, Nat.reduceEqDiff, ↓reduceIte, Nat.reduceAdd, Int.reduceBEq, Int.reduceBNe]
 rcases hl0 with hl | ⟨rfl, hl⟩
 rotate_left
 ·have e0 := stavesS_few (ls := []) (by decide)
  rw [e0, List.append_nil] at hacc
  refine Wp.block ?_
  refine Wp.block ?_
  refine sq ?_
  refine rg fun KF hKF => ?_
  refine mv ?_
  refine Fo.now rfl (exec_len0 rfl hl) rfl ?_
  refine b0 ?_
  refine mB ?_
  refine nl hKF ?_
  refine ct rfl ?_
  refine xi ?_
  refine sq ?_
  refine rg fun KF hKF => ?_
  refine mv ?_
  refine mv ?_
  refine nl hKF ?_
  refine rt ?_
  dsimp only [cond_true, cond_false]
  refine rz trivial ?_
  rw [← hacc]
  exact ⟨⟨cells, ho, hit, hlow⟩, hx⟩
 obtain ⟨ps, hps, hrw⟩ := hl.it
 haveI := hps
 cases hc : decide (((rs.length : Nat) : Int) < 5)
 rotate_left
 ·have hlt := of_decide_eq_true hc
  have e0 := stavesS_few (ls := rs) (by omega)
  rw [e0, List.append_nil] at hacc
  repeat first
   | refine mB ?_
   | (refine mv ?_)
   | (refine bn rfl rfl rfl (by simp only [hc]; rfl) ?_)
   | (refine ln (by simp only [↓nrmL, nrmK, Nat.reduceEqDiff, ↓reduceIte]; rfl) ?_)
   | refine nl hKF ?_
   | refine sq ?_
   | refine rg fun KF hKF => ?_
   | refine ct rfl ?_
   | refine rt ?_
   | refine Wp.block ?_
   | refine xi ?_
   | dsimp only [cond_true, cond_false]
  refine rz trivial ?_
  rw [← hacc]
  exact ⟨⟨cells, ho, hit, hlow⟩, hx⟩
 have hge : ¬ rs.length < 5 := by have := of_decide_eq_false hc; omega
 have ht5 : (rs.take 5).length = 5 := by rw [List.length_take]; omega
 repeat first
  | refine mB ?_
  | (refine mv ?_)
  | (refine bn rfl rfl rfl (by simp only [hc]; rfl) ?_)
  | (refine ln (by simp only [↓nrmL, nrmK, Nat.reduceEqDiff, ↓reduceIte]; rfl) ?_)
  | refine nl hKF ?_
  | refine sq ?_
  | refine rg fun KF hKF => ?_
  | refine cf rfl ?_
  | refine Wp.block ?_
 refine Fo.subN (p := pv) (ls := rs) (a := 0) (b := 5) rfl hl Ext0.ext (Or.inl ⟨rfl, rfl⟩) (Or.inr ⟨_, rfl⟩) (by omega) (by omega) fun v hv hv1 => ?_
 rw [List.drop_zero, Nat.sub_zero] at hv
 haveI := hv1
 skip
 refine WpO.do (WpX.conD hn rfl rfl (by simp only [↓nrmL, nrmZ, Nat.reduceEqDiff, ↓reduceIte, Nat.reduceAdd, Int.reduceBEq, Int.reduceBNe, List.map] <;> rfl) (K_belong (p := v) (ls := rs.take 5) (hp := hv.ext Ext0.ext) (hm := hmm.take 5) ht5 (fun i h => by have := ((hss.take 5).it i h).le; omega)) fun u H4 h5 => ?_)
 obtain ⟨rfl, hx4⟩ := h5
 haveI : ExtI _ H4 := ⟨hx4⟩
 have hx24 : Ext H2 H4 := Ext0.ext
 have hx04 : Ext H H4 := Ext0.ext
 cases hg : groupB (rs.take 5)
 ·have e0 := stavesS_no hge hg
  rw [e0] at hacc
  refine mB ?_
  refine nl hKF ?_
  refine cf rfl ?_
  refine rg fun KF hKF => ?_
  refine mv ?_
  refine Fo.subN (p := pv) (ls := rs) (a := 1) (b := rs.length) rfl hl hx04 (Or.inr ⟨_, rfl⟩) (Or.inl ⟨rfl, rfl⟩) (by omega) (Nat.le_refl _) fun w hw hw1 => ?_
  have ed : (rs.drop 1).take (rs.length - 1) = rs.drop 1 := List.take_of_length_le (by rw [List.length_drop]; omega)
  rw [ed] at hw
  refine mv ?_
  refine nl hKF ?_
  dsimp only [cond_true, cond_false]
  refine ⟨(acc, rs.drop 1, w, op), by dsimp only; rw [List.length_drop]; omega, ⟨rfl, rfl, trivial⟩, hacc, Or.inl hw, hmm.drop 1, hss.drop 1, by dsimp only; rw [List.length_drop]; omega, hw1, ⟨cells, inferInstance, fun j hj => ?_, hlow⟩, inferInstance⟩
  obtain ⟨q, a1, a2⟩ := hit j hj
  exact ⟨q, a1, a2.ext hx24⟩
 have e0 := stavesS_yes hge hg
 rw [e0] at hacc
 refine mB ?_
 refine nl hKF ?_
 refine ct rfl ?_
 refine sq ?_
 refine rg fun KF hKF => ?_
 refine mv ?_
 refine mv ?_
 refine Fo.subN (p := pv) (ls := rs) (a := 0) (b := 5) rfl hl hx04 (Or.inl ⟨rfl, rfl⟩) (Or.inr ⟨_, rfl⟩) (by omega) (by omega) fun v5 hv5 hv51 => ?_
 rw [List.drop_zero, Nat.sub_zero] at hv5
 haveI := hv51
 skip
 refine WpO.do (WpX.conD hn rfl rfl (by simp only [↓nrmL, nrmZ, Nat.reduceEqDiff, ↓reduceIte, Nat.reduceAdd, Int.reduceBEq, Int.reduceBNe, List.map] <;> rfl) (K_stGroup (p := v5) (ls := rs.take 5) (hp := hv5.ext hx04) (hs := hss.take 5) (group_ne ht5 hg)) fun u H6 h5 => ?_)
 obtain ⟨q, rfl, hq, hx6⟩ := h5
 haveI : ExtI _ H6 := ⟨hx6⟩
 have hx26 : Ext H2 H6 := Ext0.ext
 have n26 := hx26.n
 have n24 := hx24.n
 have n46 := hx6.n
 have n2 := hx.n
 have ho6 : OwnS (H6.push (.row [q] true (2 * 43))) op 1 acc.length cells 43 := inferInstance
 have hal : acc.length ≤ 40 := by
  have h1 := congrArg List.length hacc
  have h2 := stvF_len ls.length ls
  have h3 : (stavesS ls).length ≤ ls.length := h2
  rw [List.length_append] at h1
  omega
 have hq1 : OneV q := by obtain ⟨cs, k1, k2, k3⟩ := hq; exact k1.sl.one
 refine Fo.bslice rfl (by simp only [↓nrmL, nrmZ, Nat.reduceEqDiff, ↓reduceIte, Nat.reduceAdd, Int.reduceBEq, Int.reduceBNe]; rfl) ?_
 refine WpO.do (WpX.growX (p := op) (q := .slice H6.n 0 1 (some 1) 1) (k := 1) (new := [q]) rfl rfl ho6 (row_one1 (inferInstance : HasRow _ H6.n [q] true (2 * 43))) (by decide) (by decide) (by decide) (by omega) (by simp only [List.all_cons, hq1.one, List.all_nil, Bool.and_self]) fun op' H9 ho2 hf2 hx2 => ?_)
 haveI := ho2.sl.one
 have n9 := hx2.n
 simp only [AHeap.push] at n9
 have hx29 : Ext H H9 := ⟨by omega, fun r hr => by
  rw [hx2.get r (by simp only [AHeap.push]; omega) ⟨fun r' _ _ _ _ e => by have := hlow _ _ _ _ _ e; omega⟩, push_get_lt (by omega), hx26.get r (by omega), hx.get r hr]⟩
 haveI : ExtI H H9 := ⟨hx29⟩
 have hkeep : ∀ s cs e, s < H6.n → H6.get s = .row cs true e → (e / 2 = 3 ∨ e / 2 = 25) → H9.get s = H6.get s := fun s cs e hs hg he => by
  have hne := (show OwnS H6 op 1 acc.length cells 43 from inferInstance).tn hg (fun h7 => by rcases he with he | he <;> rw [he] at h7 <;> exact absurd h7 (by decide))
  rw [hx2.get s (by simp only [AHeap.push]; omega) hne, push_get_lt hs]
 have hcl : cells.length = acc.length := by have := ho.sl.len; omega
 have hlow2 : ∀ r off len cap sz, op' = .slice r off len cap sz → H.n ≤ r := fun r _ _ _ _ e => by have := hf2.ge _ _ _ _ _ e; simp only [AHeap.push] at this; omega
 have hnew : ∀ j (h : j < (acc ++ [rs.take 5]).length), ∃ q', (cells ++ [q])[j]? = some q' ∧ StG H.n H9 q' (acc ++ [rs.take 5])[j] := fun j hj => by
  by_cases e : j < acc.length
  ·obtain ⟨q', a1, a2⟩ := hit j e
   refine ⟨q', by rw [List.getElem?_append_left (by omega)]; exact a1, ?_⟩
   rw [List.getElem_append_left e]
   exact (a2.ext hx26).keep (by omega) fun s cs e a _ b c => hkeep s cs e a b c
  ·have ej : j = acc.length := by simp at hj; omega
   subst ej
   refine ⟨q, by rw [List.getElem?_append_right (by omega), hcl, Nat.sub_self]; rfl, ?_⟩
   simp only [List.getElem_append_right (Nat.le_refl _), Nat.sub_self, List.getElem_cons_zero]
   exact (hq.weak (by omega)).keep (by omega) fun s cs e a _ b c => hkeep s cs e a b c
 by_cases h5e : rs.length = 5
 ·skip
  refine mv ?_
  refine nl hKF ?_
  refine rg fun KF hKF => ?_
  refine mv ?_
  refine Fo.subE (p := pv) (ls := rs) (a := 5) rfl (hl.ext Ext0.ext) (Or.inr ⟨_, rfl⟩) (Or.inl ⟨rfl, h5e.symm⟩) (by omega) fun w H10 hw hw1 hx10 => ?_
  have hd5 : rs.drop 5 = [] := List.drop_eq_nil_of_le (by omega)
  rw [hd5] at hacc
  refine mv ?_
  refine nl hKF ?_
  dsimp only [cond_true, cond_false]
  refine ⟨(acc ++ [rs.take 5], [], w, op'), by dsimp only; simp only [List.length_nil]; omega, ⟨rfl, rfl, trivial⟩, by dsimp only; rw [List.append_assoc]; exact hacc, Or.inr ⟨rfl, hw⟩, ⟨fun i x => by simp⟩, ⟨by simp, fun i h => by cases h⟩, by simp, hw1, ⟨cells ++ [q], by dsimp only; rw [List.length_append]; exact (show OwnS H10 op' 1 (acc.length + 1) (cells ++ [q]) 43 from inferInstance), fun j hj => ?_, hlow2⟩, inferInstance⟩
  obtain ⟨q', a1, a2⟩ := hnew j hj
  exact ⟨q', a1, a2.ext hx10.ext⟩
 ·skip
  refine mv ?_
  refine nl hKF ?_
  refine rg fun KF hKF => ?_
  refine mv ?_
  refine Fo.subN (p := pv) (ls := rs) (a := 5) (b := rs.length) rfl hl hx29 (Or.inr ⟨_, rfl⟩) (Or.inl ⟨rfl, rfl⟩) (by omega) (Nat.le_refl _) fun w hw hw1 => ?_
  have ed : (rs.drop 5).take (rs.length - 5) = rs.drop 5 := List.take_of_length_le (by rw [List.length_drop]; omega)
  rw [ed] at hw
  refine mv ?_
  refine nl hKF ?_
  dsimp only [cond_true, cond_false]
  refine ⟨(acc ++ [rs.take 5], rs.drop 5, w, op'), by dsimp only; rw [List.length_drop]; omega, ⟨rfl, rfl, trivial⟩, by dsimp only; rw [List.append_assoc]; exact hacc, Or.inl hw, hmm.drop 5, hss.drop 5, by dsimp only; rw [List.length_drop]; omega, hw1, ⟨cells ++ [q], by dsimp only; rw [List.length_append]; exact ho2, hnew, hlow2⟩, inferInstance⟩
end Go.Am

namespace Go.Am
open Go
attribute [local irreducible] Wp WpO WpX WpE
theorem exec_appK {H : AHeap} {q : AVal} {k r bytes : Nat} {a : AVal} {new : List AVal} {e e0 : TypeId} (g : HasRow H r [a] true e0) (h : SliceAt H q 1 k new) (hb : 0 < bytes) (hroom : 2 * (1 + k) * bytes ≤ 2 ^ 48) (hone : new.all AVal.one = true) :
  ∃ v H', aAppend e 1 bytes (.slice r 0 1 (some 1) 1) q H = some (v, H') ∧ SliceAt H' v 1 (1 + k) (a :: new) ∧ Ext H H' := by
 obtain ⟨hf1, hf2⟩ := aFirst_at h
 have hlen := h.len
 rw [Nat.mul_one] at hlen
 have hg1 := g.get
 have hg0 := g.lt
 have hb0 : ¬ bytes = 0 := by omega
 have ha : aRow r H = some (([a], true), H) := by simp only [aRow, if_pos hg0, hg1]
 by_cases hk : k = 0
 ·subst hk
  have hnil : new = [] := List.eq_nil_of_length_eq_zero hlen
  subst hnil
  refine ⟨.slice r 0 1 (some 1) 1, H, ?_, ⟨Or.inr ⟨r, 0, some 1, [a], true, e0, rfl, hg0, hg1, by simp, rfl, Nat.le_refl _⟩⟩, Ext.refl H⟩
  simp only [aAppend, hf1]
  rw [bind_of hf2]
  simp [hb0]
  rw [bind_of ha]
  rfl
 ·refine ⟨.slice H.n 0 (1 + k) none 1, H.push (.row ([a] ++ new) true (2 * e)), ?_, ⟨Or.inr ⟨H.n, 0, none, [a] ++ new, true, 2 * e, rfl, Nat.lt_succ_self _, push_get_eq, by simp; omega, by rw [List.drop_zero, List.take_of_length_le (by simp; omega)]; rfl, Nat.le_refl _⟩⟩, (Ext.refl H).push _⟩
  simp only [aAppend, hf1]
  rw [bind_of hf2]
  simp only [hone, hlen, Nat.mul_one, Bool.not_true, ne_eq, not_true, decide_false, Nat.one_ne_zero, hb0, Bool.or_false, Bool.false_eq_true, if_false]
  rw [bind_of ha]
  have hcap : ¬ (1 + k ≤ 1) := by omega
  simp only [hk, if_false, if_neg hcap]
  rw [if_pos ⟨by simp, hroom⟩]
  rfl
theorem WpX.appK {call : ACall} {fr : AFrame} {H : AHeap} {K : AVal → AHeap → Prop} {e e0 : TypeId} {x y : ROpd} {q : AVal} {k r bytes : Nat} {a : AVal} {new : List AVal} (hx : x.ev fr = .slice r 0 1 (some 1) 1) (hy : y.ev fr = q) (g : HasRow H r [a] true e0) (h : SliceAt H q 1 k new) (hb : 0 < bytes) (hroom : 2 * (1 + k) * bytes ≤ 2 ^ 48) (hone : new.all AVal.one = true)
  (hK : ∀ v H', SliceAt H' v 1 (1 + k) (a :: new) → ExtI H H' → K v H') : WpX (.append e 1 bytes x y) call fr H K := by
 obtain ⟨v, H', h1, h2, h3⟩ := exec_appK (e := e) g h hb hroom hone
 exact WpX.now (v := v) (H1 := H') (by simp only [ROp.exec, hx, hy]; exact h1) (hK v H' h2 ⟨h3⟩)
theorem LinesI.one {H : AHeap} {p : AVal} {ls : List (List Int)} (h : LinesI H p ls) : OneV p := by
 obtain ⟨ps, h1, h2⟩ := h.it
 exact h1.one
theorem StavesI.ones {H : AHeap} {p : AVal} {n : Nat} {cells : List AVal} {sts : List (List (List Int))} (h : StavesI H p n cells sts) : cells.all AVal.one = true := by
 rw [List.all_eq_true]
 intro c hc
 obtain ⟨i, hi, rfl⟩ := List.getElem_of_mem hc
 have hl := h.sl.len
 have := h.len
 obtain ⟨q, h1, h2⟩ := h.it i (by omega)
 rw [List.getElem?_eq_getElem hi] at h1
 cases h1
 exact h2.one.one
theorem K_refStaves : ∀ (k : Nat) {H : AHeap} {p : AVal} {ls : List (List Int)}, ls.length ≤ k → k ≤ 40 → LinesI H p ls → ModL ls → SlimL ls → Con ext prog (k + 3) 29 [p] H fun v H' => ∃ m cells, StavesI H' v m cells (stavesS ls) ∧ Ext H H' := by
 intro k
 induction k with
 | zero =>
  intro H p ls hk h40 hp hm hs
  refine con_of (show prog 29 = some c29 from rfl) rfl rfl fun n hn => ?_
  obtain ⟨ps, hps, hrw⟩ := hp.it
  haveI := hps
  haveI := hps.one
  have e0 := stavesS_few (ls := ls) (by omega)
  rw [e0]
  have hc : decide (((ls.length : Nat) : Int) < 5) = true := decide_eq_true (by omega)
  repeat first
   | refine mN ?_
   | (refine mv ?_)
   | (refine bn rfl rfl rfl (by simp only [hc]; rfl) ?_)
   | (refine ln (by simp only [↓nrmL, nrmK, Nat.reduceEqDiff, ↓reduceIte]; rfl) ?_)
   | refine nl hKF ?_
   | refine sq ?_
   | refine rg fun KF hKF => ?_
   | refine ct rfl ?_
   | refine rt ?_
   | dsimp only [cond_true, cond_false]
  refine rz trivial ?_
  exact ⟨0, [], ⟨rfl, ⟨Or.inl ⟨rfl, rfl, rfl⟩⟩, fun i h => by cases h⟩, Ext0.ext⟩
 | succ k ih =>
  intro H p ls hk h40 hp hm hs
  refine con_of (show prog 29 = some c29 from rfl) rfl rfl fun n hn => ?_
  obtain ⟨ps, hps, hrw⟩ := hp.it
  haveI := hps
  haveI := hps.one
  cases hc : decide (((ls.length : Nat) : Int) < 5)
  rotate_left
  ·have hlt := of_decide_eq_true hc
   have e0 := stavesS_few (ls := ls) (by omega)
   rw [e0]
   repeat first
    | refine mN ?_
    | (refine mv ?_)
    | (refine bn rfl rfl rfl (by simp only [hc]; rfl) ?_)
    | (refine ln (by simp only [↓nrmL, nrmK, Nat.reduceEqDiff, ↓reduceIte]; rfl) ?_)
    | refine nl hKF ?_
    | refine sq ?_
    | refine rg fun KF hKF => ?_
    | refine ct rfl ?_
    | refine rt ?_
    | dsimp only [cond_true, cond_false]
   refine rz trivial ?_
   exact ⟨0, [], ⟨rfl, ⟨Or.inl ⟨rfl, rfl, rfl⟩⟩, fun i h => by cases h⟩, Ext0.ext⟩
  have hge : ¬ ls.length < 5 := by have := of_decide_eq_false hc; omega
  have ht5 : (ls.take 5).length = 5 := by rw [List.length_take]; omega
  obtain ⟨R, hR⟩ : ∃ R, stavesS ls = R := ⟨_, rfl⟩
  rw [hR]
  repeat first
   | refine mN ?_
   | (refine mv ?_)
   | (refine bn rfl rfl rfl (by simp only [hc]; rfl) ?_)
   | (refine ln (by simp only [↓nrmL, nrmK, Nat.reduceEqDiff, ↓reduceIte]; rfl) ?_)
   | refine nl hKF ?_
   | refine sq ?_
   | refine rg fun KF hKF => ?_
   | refine cf rfl ?_
   | refine sk ?_
  refine Fo.subL (p := p) (ls := ls) (a := 0) (b := 5) rfl hp (Or.inl ⟨rfl, rfl⟩) (Or.inr ⟨_, rfl⟩) (by omega) (by omega) fun v H3 hv hv1 hx3 => ?_
  rw [List.drop_zero, Nat.sub_zero] at hv
  haveI := hv1
  skip
  refine WpO.do (WpX.con (K_refGroup (p := v) (ls := ls.take 5) (hp := hv) (hm := hm.take 5) ht5 (fun i h => by have := ((hs.take 5).it i h).le; omega)) (by omega) rfl (by simp only [↓nrmL, nrmZ, Nat.reduceEqDiff, ↓reduceIte, Nat.reduceAdd, Int.reduceBEq, Int.reduceBNe, List.map] <;> rfl) fun u H4 h5 => ?_)
  obtain ⟨rfl, hx4⟩ := h5
  haveI : ExtI _ H4 := ⟨hx4⟩
  have hx04 : Ext H H4 := Ext0.ext
  cases hg : groupB (ls.take 5)
  ·have e0 := stavesS_no hge hg
   rw [hR] at e0
   subst e0
   refine Fo.now rfl rfl (by simp only [↓nrmL, nrmZ, Nat.reduceEqDiff, ↓reduceIte, Nat.reduceAdd, Int.reduceBEq, Int.reduceBNe, hg]; rfl) ?_
   refine nl hKF ?_
   refine ct rfl ?_
   refine sq ?_
   refine rg fun KF hKF => ?_
   refine mv ?_
   refine Fo.subL (p := p) (ls := ls) (a := 1) (b := ls.length) rfl (hp.ext hx04) (Or.inr ⟨_, rfl⟩) (Or.inl ⟨rfl, rfl⟩) (by omega) (Nat.le_refl _) fun w H5 hw hw1 hx5 => ?_
   have ed : (ls.drop 1).take (ls.length - 1) = ls.drop 1 := List.take_of_length_le (by rw [List.length_drop]; omega)
   rw [ed] at hw
   haveI := hw1
   skip
   refine WpO.do (WpX.con (ih (p := w) (ls := ls.drop 1) (by rw [List.length_drop]; omega) (by omega) hw (hm.drop 1) (hs.drop 1)) (by omega) rfl (by simp only [↓nrmL, nrmZ, Nat.reduceEqDiff, ↓reduceIte, Nat.reduceAdd, Int.reduceBEq, Int.reduceBNe, List.map] <;> rfl) fun u H6 h5 => ?_)
   obtain ⟨m, cells, hS, hx6⟩ := h5
   haveI : ExtI _ H6 := ⟨hx6⟩
   haveI := hS.sl.one
   refine mv ?_
   refine nl hKF ?_
   refine rt ?_
   dsimp only [cond_true, cond_false]
   refine rz trivial ?_
   exact ⟨m, cells, hS, Ext0.ext⟩
  have e0 := stavesS_yes hge hg
  rw [hR] at e0
  subst e0
  refine Fo.now rfl rfl (by simp only [↓nrmL, nrmZ, Nat.reduceEqDiff, ↓reduceIte, Nat.reduceAdd, Int.reduceBEq, Int.reduceBNe, hg]; rfl) ?_
  refine nl hKF ?_
  refine cf rfl ?_
  refine sk ?_
  refine sq ?_
  refine rg fun KF hKF => ?_
  refine mv ?_
  refine Fo.subL (p := p) (ls := ls) (a := 0) (b := 5) rfl (hp.ext hx04) (Or.inl ⟨rfl, rfl⟩) (Or.inr ⟨_, rfl⟩) (by omega) (by omega) fun v5 H5 hv5 hv51 hx5 => ?_
  rw [List.drop_zero, Nat.sub_zero] at hv5
  haveI := hv51
  skip
  refine WpO.do (WpX.con (K_CopyLists (p := v5) (ls := ls.take 5) (hp := hv5) (hs := hs.take 5)) (by omega) rfl (by simp only [↓nrmL, nrmZ, Nat.reduceEqDiff, ↓reduceIte, Nat.reduceAdd, Int.reduceBEq, Int.reduceBNe, List.map] <;> rfl) fun q H6 h5 => ?_)
  obtain ⟨hF, hq1, hfq, hx6⟩ := h5
  haveI : ExtI _ H6 := ⟨hx6⟩
  haveI := hq1
  have hq := hF.now
  have hx06 : Ext H H6 := Ext0.ext
  refine ob (cs' := ?_) ?hc ?_; case hc => (simp only [↓nrmL, nrmZ, Nat.reduceEqDiff, ↓reduceIte, Nat.reduceAdd, Int.reduceBEq, Int.reduceBNe]; rfl)
  refine Fo.bslice rfl (by simp only [↓nrmL, nrmZ, Nat.reduceEqDiff, ↓reduceIte, Nat.reduceAdd, Int.reduceBEq, Int.reduceBNe]; rfl) ?_
  refine mv ?_
  refine nl hKF ?_
  refine sq ?_
  refine rg fun KF hKF => ?_
  refine mv ?_
  refine mv ?_
  refine Fo.subL (p := p) (ls := ls) (a := 5) (b := ls.length) rfl (hp.ext Ext0.ext) (Or.inr ⟨_, rfl⟩) (Or.inl ⟨rfl, rfl⟩) (by omega) (Nat.le_refl _) fun w H7 hw hw1 hx7 => ?_
  have ed : (ls.drop 5).take (ls.length - 5) = ls.drop 5 := List.take_of_length_le (by rw [List.length_drop]; omega)
  rw [ed] at hw
  haveI := hw1
  skip
  refine WpO.do (WpX.con (ih (p := w) (ls := ls.drop 5) (by rw [List.length_drop]; omega) (by omega) hw (hm.drop 5) (hs.drop 5)) (by omega) rfl (by simp only [↓nrmL, nrmZ, Nat.reduceEqDiff, ↓reduceIte, Nat.reduceAdd, Int.reduceBEq, Int.reduceBNe, List.map] <;> rfl) fun u H8 h5 => ?_)
  obtain ⟨m, cells, hS, hx8⟩ := h5
  haveI : ExtI _ H8 := ⟨hx8⟩
  haveI := hS.sl
  haveI := hS.sl.one
  have hml := hS.len
  have hm40 : m ≤ 40 := by
   have h2 := stvF_len (ls.drop 5).length (ls.drop 5)
   have h3 : (stavesS (ls.drop 5)).length ≤ (ls.drop 5).length := h2
   rw [List.length_drop] at h3
   omega
  have hr68 : HasRow H8 H6.n [q] true (2 * 43) := inferInstance
  have hq8 : LinesI H8 q (ls.take 5) := hq.ext Ext0.ext
  skip
  refine WpO.do (WpX.appK (q := u) (k := m) (a := q) (new := cells) rfl rfl hr68 (inferInstance : SliceAt H8 u 1 m cells) (by decide) (by omega) hS.ones fun z H9 hz hx9 => ?_)
  haveI := hz.one
  refine mv ?_
  refine nl hKF ?_
  refine rt ?_
  dsimp only [cond_true, cond_false]
  refine rz trivial ?_
  refine ⟨1 + m, q :: cells, ⟨by rw [List.length_cons]; omega, hz, fun i hi => ?_⟩, Ext0.ext⟩
  cases i with
  | zero => exact ⟨q, rfl, hq8.ext hx9.ext⟩
  | succ i =>
   obtain ⟨q', a1, a2⟩ := hS.it i (by simpa using hi)
   exact ⟨q', by simpa using a1, a2.ext hx9.ext⟩
end Go.Am

namespace Go.Am
open Go
attribute [local irreducible] Wp WpO WpX WpE
theorem K_SameStaves {p q : AVal} {H : AHeap} {m m' : Nat} {cs cs' : List AVal} {sts : List (List (List Int))} (hp : StavesI H p m cs sts) (hq : StavesI H q m' cs' sts) (hs : ∀ (i : Nat) (h : i < sts.length), SlimL sts[i]) (hm : m ≤ 1000) : Con ext prog 4 28 [p, q] H fun v H' => v = .bool true ∧ Ext H H' := by
 refine con_of (show prog 28 = some c28 from rfl) rfl rfl fun n hn => ?_
 have hsp := hp.sl
 have hsq := hq.sl
 haveI := hsp
 haveI := hsq
 haveI := hsp.one
 haveI := hsq.one
 have e1 := hp.len
 have e2 := hq.len
 have hcl : cs.length = m := by have := hsp.len; omega
 have hcl' : cs'.length = m' := by have := hsq.len; omega
 have emm : m' = m := by omega
 subst emm
 have h1 : (((m' : Nat) : Int) != ((m' : Nat) : Int)) = false := by simp
 repeat first
  | refine mI ?_
  | refine mB ?_
  | (refine mv ?_)
  | (refine bn rfl rfl rfl (by simp only [h1]; rfl) ?_)
  | (refine ln (by simp only [↓nrmL, nrmK, Nat.reduceEqDiff, ↓reduceIte]; rfl) ?_)
  | refine nl hKF ?_
  | refine sq ?_
  | refine rg fun KF hKF => ?_
  | refine cf rfl ?_
  | refine sk ?_
  | refine Wp.block ?_
  | dsimp only [cond_true, cond_false]
 refine Wp.loopS [4, 5, 11, 12, 13, 14, 15, 16, 17, 18, 19, 20, 21, 22, 23, 24, 25, 26] (fun i : Nat => [(5, .int .i64 i)]) (fun H3 i H2 => i ≤ m' ∧ Ext0 H3 H2) (fun i => m' - i) 0 rfl (fun _ => rfl) ⟨rfl, trivial⟩ ⟨Nat.zero_le _, inferInstance⟩ (by unfold fuel0 at hn; omega) ?_
 rintro i g H2 ⟨hi, ⟨hx⟩⟩
 haveI : ExtI _ H2 := ⟨hx⟩
 simp only [↓nrmL, nrmZ, Nat.reduceEqDiff, ↓reduceIte, Nat.reduceAdd, Int.reduceBEq, Int.reduceBNe]
 cases hc : decide ((i : Int) < (m' : Int))
 ·skip
  repeat first
   | refine mI ?_
   | refine mB ?_
   | (refine mv ?_)
   | (refine bn rfl rfl rfl (by simp only [hc]; rfl) ?_)
   | (refine ln (by simp only [↓nrmL, nrmK, Nat.reduceEqDiff, ↓reduceIte]; rfl) ?_)
   | refine nl hKF ?_
   | refine sq ?_
   | refine rg fun KF hKF => ?_
   | refine cf rfl ?_
   | refine rt ?_
   | refine xi ?_
   | dsimp only [cond_true, cond_false]
  refine rz trivial ?_
  exact ⟨rfl, Ext0.ext⟩
 have hil : i < m' := by have := of_decide_eq_true hc; omega
 have his : i < sts.length := by omega
 have hw1 := wa1 (a := i) (by omega)
 obtain ⟨a, ha, hLa⟩ := hp.it i his
 obtain ⟨b, hb, hLb⟩ := hq.it i his
 haveI := hLa
 haveI := hLb
 haveI := hLa.one
 haveI := hLb.one
 haveI := hs i his
 have hne : decide (sts[i] = sts[i]) = true := decide_eq_true rfl
 refine sq ?_
 refine sq ?_
 refine rg fun KF hKF => ?_
 refine mI ?_
 refine mv ?_
 refine ln (by simp only [↓nrmL, nrmK, Nat.reduceEqDiff, ↓reduceIte]; rfl) ?_
 refine bn rfl rfl rfl (by simp only [hc]; rfl) ?_
 refine nl hKF ?_
 refine ct rfl ?_
 refine sk ?_
 refine sq ?_
 refine Wp.block ?_
 refine sq ?_
 dsimp only [cond_true, cond_false]
 refine Fr.dregion0 rfl fun KF hKF => ?_
 refine Fe.pure rfl rfl (by simp only [↓nrmL, nrmZ, Nat.reduceEqDiff, ↓reduceIte, Nat.reduceAdd, Int.reduceBEq, Int.reduceBNe]; rfl) ?_
 refine Fe.pure rfl rfl (by simp only [↓nrmL, nrmZ, Nat.reduceEqDiff, ↓reduceIte, Nat.reduceAdd, Int.reduceBEq, Int.reduceBNe]; rfl) ?_
 refine Fe.pure rfl (exec_idxP (by (try simp only [↓nrmL, nrmZ, Nat.reduceEqDiff, ↓reduceIte, Nat.reduceAdd, Int.reduceBEq, Int.reduceBNe]); rfl) rfl ?_) (by simp only [↓nrmL, nrmZ, Nat.reduceEqDiff, ↓reduceIte, Nat.reduceAdd, Int.reduceBEq, Int.reduceBNe]; rfl) ?_; (focus omega)
 refine Fe.read rfl (exec_ldNP (p := p) (j := i) (m := 1) (l := [a]) rfl (by decide) (by omega) (take_one ha)) rfl trivial ?_
 refine Fe.pure rfl rfl (by simp only [↓nrmL, nrmZ, Nat.reduceEqDiff, ↓reduceIte, Nat.reduceAdd, Int.reduceBEq, Int.reduceBNe]; rfl) ?_
 refine Fe.pure rfl rfl (by simp only [↓nrmL, nrmZ, Nat.reduceEqDiff, ↓reduceIte, Nat.reduceAdd, Int.reduceBEq, Int.reduceBNe]; rfl) ?_
 refine Fe.pure rfl (exec_idxP (by (try simp only [↓nrmL, nrmZ, Nat.reduceEqDiff, ↓reduceIte, Nat.reduceAdd, Int.reduceBEq, Int.reduceBNe]); rfl) rfl ?_) (by simp only [↓nrmL, nrmZ, Nat.reduceEqDiff, ↓reduceIte, Nat.reduceAdd, Int.reduceBEq, Int.reduceBNe]; rfl) ?_; (focus omega)
 refine Fe.read rfl (exec_ldNP (p := q) (j := i) (m := 1) (l := [b]) rfl (by decide) (by omega) (take_one hb)) rfl trivial ?_
 simp only [↓nrmL, nrmZ, Nat.reduceEqDiff, ↓reduceIte, Nat.reduceAdd, Int.reduceBEq, Int.reduceBNe, hne]
 refine Fe.pcall (v' := ?_) rfl hn rfl (by simp only [↓nrmL, nrmZ, Nat.reduceEqDiff, ↓reduceIte, Nat.reduceAdd, Int.reduceBEq, Int.reduceBNe, hne, List.map]; rfl) rfl ?hv fun _ _ => ar ?_; case hv => (simp only [hne]; rfl)
 refine Fe.pure rfl rfl rfl ?_
 refine WpE.nil (hKF _ _ ?_)
 refine cf rfl ?_
 refine sk ?_
 refine rg fun KF hKF => ?_
 refine mI ?_
 refine b0 ?_
 refine mI ?_
 refine nl hKF ?_
 dsimp only [cond_true, cond_false]
 refine ⟨i + 1, by omega, ⟨by simp only [↓nrmL, nrmZ, Nat.reduceEqDiff, ↓reduceIte, Nat.reduceAdd, Int.reduceBEq, Int.reduceBNe]; rw [hw1], trivial⟩, by omega, inferInstance⟩
theorem K_IndexL {F : FuncId} {d : Nat} {P : List Int → Bool} {p : AVal} {H : AHeap} {ls : List (List Int)} (hF : ∀ {H : AHeap} {q : AVal} {l : List Int}, IntsI H q l → SlimI l → Con ext prog d F [q] H fun v H' => v = .bool (P l) ∧ Ext H H') (hp : LinesI H p ls) (hs : SlimL ls) : Con ext prog (d + 1) 69 [p, .func (.func F) [] []] H fun v H' => ∃ z : Int, v = .int .i64 z ∧ decide (z ≥ 0) = ls.any P ∧ Ext H H' := by
 refine con_of (show prog 69 = some c69 from rfl) rfl rfl fun n hn => ?_
 obtain ⟨ps, hps, hrw⟩ := hp.it
 haveI := hps
 haveI := hps.one
 have hle := hs.le
 repeat first
  | refine mI ?_
  | (refine mv ?_)
  | (refine ln (by simp only [↓nrmL, nrmK, Nat.reduceEqDiff, ↓reduceIte]; rfl) ?_)
  | refine nl hKF ?_
  | refine sq ?_
  | refine rg fun KF hKF => ?_
  | refine Wp.block ?_
  | dsimp only [cond_true, cond_false]
 refine Wp.loopS [4, 5, 8, 9, 10, 11, 12, 13, 14, 15, 16, 17, 18] (fun i : Nat => [(8, .int .i64 (i : Int))]) (fun H3 i H2 => i ≤ ls.length ∧ (∀ j (h : j < ls.length), j < i → P ls[j] = false) ∧ Ext0 H3 H2) (fun i => ls.length - i) 0 rfl (fun _ => rfl) ⟨rfl, trivial⟩ ⟨Nat.zero_le _, fun j _ hj => by omega, inferInstance⟩ (by unfold fuel0 at hn; omega) ?_
 rintro i g H2 ⟨hi, hno, ⟨hx⟩⟩
 haveI : ExtI _ H2 := ⟨hx⟩
 simp only [↓nrmL, nrmZ, Nat.reduceEqDiff, ↓reduceIte, Nat.reduceAdd, Int.reduceBEq, Int.reduceBNe]
 cases hc : decide ((i : Int) < ((ls.length : Nat) : Int))
 ·have hil : i = ls.length := by have := of_decide_eq_false hc; omega
  have e0 : ls.any P = false := by
   rw [List.any_eq_false]
   intro l hl
   obtain ⟨j, hj, rfl⟩ := List.getElem_of_mem hl
   rw [hno j hj (by omega)]; decide
  repeat first
   | refine mI ?_
   | (refine bn rfl rfl rfl (by simp only [hc]; rfl) ?_)
   | refine nl hKF ?_
   | refine sq ?_
   | refine rg fun KF hKF => ?_
   | refine cf rfl ?_
   | refine rt ?_
   | refine xi ?_
   | dsimp only [cond_true, cond_false]
  refine rz trivial ?_
  exact ⟨-1, rfl, by rw [e0]; rfl, Ext0.ext⟩
 have hil : i < ls.length := by have := of_decide_eq_true hc; omega
 have hwi := wa1 (a := i) (by omega)
 obtain ⟨q, hq, hI⟩ := hrw.it i hil
 haveI := hI
 haveI := hI.one
 repeat first
  | refine mI ?_
  | refine mF ?_
  | (refine mv ?_)
  | (refine bn rfl rfl rfl (by simp only [hc]; rfl) ?_)
  | (refine Fo.idx (by simp only [↓nrmL, nrmK, Nat.reduceEqDiff, ↓reduceIte]; rfl) rfl ?_ (by simp only [↓nrmL, nrmZ, Nat.reduceEqDiff, ↓reduceIte, Nat.reduceAdd, Int.reduceBEq, Int.reduceBNe, hc]; rfl) ?_; (focus omega))
  | refine nl hKF ?_
  | refine sq ?_
  | refine rg fun KF hKF => ?_
  | refine ct rfl ?_
  | refine sk ?_
  | refine Wp.block ?_
 refine Fo.now rfl (exec_ldP (p := p) (j := i) rfl hq) rfl ?_
 refine WpO.do (WpX.con (hF (q := q) (l := ls[i]) inferInstance (hs.it i hil)) hn rfl (by simp only [↓nrmL, nrmZ, Nat.reduceEqDiff, ↓reduceIte, Nat.reduceAdd, Int.reduceBEq, Int.reduceBNe, List.map] <;> rfl) fun v H3 h5 => ?_)
 obtain ⟨rfl, hx3⟩ := h5
 haveI : ExtI _ H3 := ⟨hx3⟩
 cases hP : P ls[i]
 ·skip
  refine nl hKF ?_
  refine cf rfl ?_
  refine sk ?_
  refine rg fun KF hKF => ?_
  refine b0 ?_
  refine mI ?_
  refine nl hKF ?_
  dsimp only [cond_true, cond_false]
  refine ⟨i + 1, by omega, ⟨by simp only [↓nrmL, nrmZ, Nat.reduceEqDiff, ↓reduceIte, Nat.reduceAdd, Int.reduceBEq, Int.reduceBNe]; rw [hwi], trivial⟩, by omega, fun j h1 h2 => ?_, inferInstance⟩
  by_cases e : j = i
  ·subst e; exact hP
  ·exact hno j h1 (by omega)
 ·have e0 : ls.any P = true := List.any_eq_true.2 ⟨_, List.getElem_mem hil, hP⟩
  repeat first
   | refine mI ?_
   | refine nl hKF ?_
   | refine sq ?_
   | refine rg fun KF hKF => ?_
   | refine ct rfl ?_
   | refine rt ?_
   | dsimp only [cond_true, cond_false]
  refine rz trivial ?_
  exact ⟨i, rfl, by rw [e0]; exact decide_eq_true (by omega), Ext0.ext⟩
theorem K_ContainsL {F : FuncId} {d : Nat} {P : List Int → Bool} {p : AVal} {H : AHeap} {ls : List (List Int)} (hF : ∀ {H : AHeap} {q : AVal} {l : List Int}, IntsI H q l → SlimI l → Con ext prog d F [q] H fun v H' => v = .bool (P l) ∧ Ext H H') (hp : LinesI H p ls) (hs : SlimL ls) : Con ext prog (d + 2) 23 [p, .func (.func F) [] []] H fun v H' => v = .bool (ls.any P) ∧ Ext H H' := by
 refine con_of (show prog 23 = some c23 from rfl) rfl rfl fun n hn => ?_
 haveI := hp.one
 repeat first
  | refine mB ?_
  | refine mF ?_
  | (refine mv ?_)
  | refine nl hKF ?_
  | refine sq ?_
  | refine rg fun KF hKF => ?_
 refine WpO.do (WpX.con (K_IndexL hF hp hs) hn rfl (by simp only [↓nrmL, nrmZ, Nat.reduceEqDiff, ↓reduceIte, Nat.reduceAdd, Int.reduceBEq, Int.reduceBNe, List.map] <;> rfl) fun v H3 h5 => ?_)
 obtain ⟨z, rfl, hz, hx3⟩ := h5
 haveI : ExtI _ H3 := ⟨hx3⟩
 refine bn rfl rfl rfl (by simp only [hz]; rfl) ?_
 refine mB ?_
 refine nl hKF ?_
 refine rt ?_
 dsimp only [cond_true, cond_false]
 refine rz trivial ?_
 exact ⟨rfl, Ext0.ext⟩
theorem K_long {H : AHeap} {q : AVal} {l : List Int} (h : IntsI H q l) (hs : SlimI l) : Con ext prog 1 24 [q] H fun v H' => v = .bool (decide (((l.length : Nat) : Int) > 60)) ∧ Ext H H' := by
 refine con_of (show prog 24 = some c24 from rfl) rfl rfl fun n hn => ?_
 haveI := h
 haveI := h.one
 repeat first
  | refine mB ?_
  | (refine mv ?_)
  | refine b0 ?_
  | (refine ln (by simp only [↓nrmL, nrmK, Nat.reduceEqDiff, ↓reduceIte]; rfl) ?_)
  | refine nl hKF ?_
  | refine sq ?_
  | refine rg fun KF hKF => ?_
  | refine rt ?_
  | dsimp only [cond_true, cond_false]
 refine rz trivial ?_
 exact ⟨rfl, Ext0.ext⟩
def hugeB (z : Int) : Bool := decide (z < -1099511627776) || decide (z > 1099511627776)
theorem K_huge1 {H : AHeap} {z : Int} : Con ext prog 1 70 [.int .i64 z] H fun v H' => v = .bool (hugeB z) ∧ Ext H H' := by
 refine con_of (show prog 70 = some c70 from rfl) rfl rfl fun n hn => ?_
 unfold hugeB
 cases h1 : decide (z < -1099511627776)
 ·skip
  repeat first
   | refine oy ?_
   | refine mI ?_
   | refine mB ?_
   | (refine bn rfl rfl rfl (by simp only [h1]; rfl) ?_)
   | refine b0 ?_
   | refine fB ?_
   | refine nl hKF ?_
   | refine sq ?_
   | refine rg fun KF hKF => ?_
   | refine rt ?_
   | dsimp only [cond_true, cond_false]
  refine rz trivial ?_
  exact ⟨by rw [Bool.false_or]; rfl, Ext0.ext⟩
 ·skip
  repeat first
   | refine ox ?_
   | refine mI ?_
   | refine mB ?_
   | (refine bn rfl rfl rfl (by simp only [h1]; rfl) ?_)
   | refine tB ?_
   | refine nl hKF ?_
   | refine sq ?_
   | refine rg fun KF hKF => ?_
   | refine rt ?_
   | dsimp only [cond_true, cond_false]
  refine rz trivial ?_
  exact ⟨by rw [Bool.true_or]; rfl, Ext0.ext⟩
theorem K_IndexZ {p : AVal} {H : AHeap} {l : List Int} (hp : IntsI H p l) (hs : SlimI l) : Con ext prog 2 87 [p, .func (.func 70) [] []] H fun v H' => ∃ z : Int, v = .int .i64 z ∧ decide (z ≥ 0) = l.any hugeB ∧ Ext H H' := by
 refine con_of (show prog 87 = some c87 from rfl) rfl rfl fun n hn => ?_
 haveI := hp
 haveI := hp.one
 have hle := hs.le
 repeat first
  | refine mI ?_
  | (refine mv ?_)
  | (refine ln (by simp only [↓nrmL, nrmK, Nat.reduceEqDiff, ↓reduceIte]; rfl) ?_)
  | refine nl hKF ?_
  | refine sq ?_
  | refine rg fun KF hKF => ?_
  | refine Wp.block ?_
  | dsimp only [cond_true, cond_false]
 refine Wp.loopS [4, 5, 8, 9, 10, 11, 12, 13, 14, 15, 16, 17, 18] (fun i : Nat => [(8, .int .i64 (i : Int))]) (fun H3 i H2 => i ≤ l.length ∧ (∀ j (h : j < l.length), j < i → hugeB l[j] = false) ∧ Ext0 H3 H2) (fun i => l.length - i) 0 rfl (fun _ => rfl) ⟨rfl, trivial⟩ ⟨Nat.zero_le _, fun j _ hj => by omega, inferInstance⟩ (by unfold fuel0 at hn; omega) ?_
 rintro i g H2 ⟨hi, hno, ⟨hx⟩⟩
 haveI : ExtI _ H2 := ⟨hx⟩
 simp only [↓nrmL, nrmZ, Nat.reduceEqDiff, ↓reduceIte, Nat.reduceAdd, Int.reduceBEq, Int.reduceBNe]
 cases hc : decide ((i : Int) < ((l.length : Nat) : Int))
 ·have hil : i = l.length := by have := of_decide_eq_false hc; omega
  have e0 : l.any hugeB = false := by
   rw [List.any_eq_false]
   intro z hl
   obtain ⟨j, hj, rfl⟩ := List.getElem_of_mem hl
   rw [hno j hj (by omega)]; decide
  repeat first
   | refine mI ?_
   | (refine bn rfl rfl rfl (by simp only [hc]; rfl) ?_)
   | refine nl hKF ?_
   | refine sq ?_
   | refine rg fun KF hKF => ?_
   | refine cf rfl ?_
   | refine rt ?_
   | refine xi ?_
   | dsimp only [cond_true, cond_false]
  refine rz trivial ?_
  exact ⟨-1, rfl, by rw [e0]; rfl, Ext0.ext⟩
 have hil : i < l.length := by have := of_decide_eq_true hc; omega
 have hwi := wa1 (a := i) (by omega)
 repeat first
  | refine mI ?_
  | refine mF ?_
  | (refine mv ?_)
  | (refine bn rfl rfl rfl (by simp only [hc]; rfl) ?_)
  | (refine Fo.idx (by simp only [↓nrmL, nrmK, Nat.reduceEqDiff, ↓reduceIte]; rfl) rfl ?_ (by simp only [↓nrmL, nrmZ, Nat.reduceEqDiff, ↓reduceIte, Nat.reduceAdd, Int.reduceBEq, Int.reduceBNe, hc]; rfl) ?_; (focus omega))
  | (refine Fo.ldI rfl ?_ rfl ?_; (focus omega))
  | refine nl hKF ?_
  | refine sq ?_
  | refine rg fun KF hKF => ?_
  | refine ct rfl ?_
  | refine sk ?_
  | refine Wp.block ?_
 refine WpO.do (WpX.con (K_huge1 (z := l[i])) hn rfl (by simp only [↓nrmL, nrmZ, Nat.reduceEqDiff, ↓reduceIte, Nat.reduceAdd, Int.reduceBEq, Int.reduceBNe, List.map] <;> rfl) fun v H3 h5 => ?_)
 obtain ⟨rfl, hx3⟩ := h5
 haveI : ExtI _ H3 := ⟨hx3⟩
 cases hP : hugeB l[i]
 ·skip
  refine nl hKF ?_
  refine cf rfl ?_
  refine sk ?_
  refine rg fun KF hKF => ?_
  refine b0 ?_
  refine mI ?_
  refine nl hKF ?_
  dsimp only [cond_true, cond_false]
  refine ⟨i + 1, by omega, ⟨by simp only [↓nrmL, nrmZ, Nat.reduceEqDiff, ↓reduceIte, Nat.reduceAdd, Int.reduceBEq, Int.reduceBNe]; rw [hwi], trivial⟩, by omega, fun j h1 h2 => ?_, inferInstance⟩
  by_cases e : j = i
  ·subst e; exact hP
  ·exact hno j h1 (by omega)
 ·have e0 : l.any hugeB = true := List.any_eq_true.2 ⟨_, List.getElem_mem hil, hP⟩
  repeat first
   | refine mI ?_
   | refine nl hKF ?_
   | refine sq ?_
   | refine rg fun KF hKF => ?_
   | refine ct rfl ?_
   | refine rt ?_
   | dsimp only [cond_true, cond_false]
  refine rz trivial ?_
  exact ⟨i, rfl, by rw [e0]; exact decide_eq_true (by omega), Ext0.ext⟩
theorem K_huge {H : AHeap} {q : AVal} {l : List Int} (h : IntsI H q l) (hs : SlimI l) : Con ext prog 4 25 [q] H fun v H' => v = .bool (l.any hugeB) ∧ Ext H H' := by
 refine con_of (show prog 25 = some c25 from rfl) rfl rfl fun n hn => ?_
 haveI := h
 haveI := h.one
 repeat first
  | refine mB ?_
  | (refine mv ?_)
  | refine nl hKF ?_
  | refine sq ?_
  | refine rg fun KF hKF => ?_
 refine WpO.do (WpX.con (d := 3) (Q := fun v H' => v = .bool (l.any hugeB) ∧ Ext H H') ?_ hn rfl (by simp only [↓nrmL, nrmZ, Nat.reduceEqDiff, ↓reduceIte, Nat.reduceAdd, Int.reduceBEq, Int.reduceBNe, List.map] <;> rfl) fun v H3 h5 => ?_)
 ·refine con_of (show prog 43 = some c43 from rfl) rfl rfl fun n hn => ?_
  repeat first
   | refine mB ?_
   | refine mF ?_
   | (refine mv ?_)
   | refine nl hKF ?_
   | refine sq ?_
   | refine rg fun KF hKF => ?_
  refine WpO.do (WpX.con (K_IndexZ h hs) hn rfl (by simp only [↓nrmL, nrmZ, Nat.reduceEqDiff, ↓reduceIte, Nat.reduceAdd, Int.reduceBEq, Int.reduceBNe, List.map] <;> rfl) fun v H3 h5 => ?_)
  obtain ⟨z, rfl, hz, hx3⟩ := h5
  haveI : ExtI _ H3 := ⟨hx3⟩
  refine bn rfl rfl rfl (by simp only [hz]; rfl) ?_
  refine mB ?_
  refine nl hKF ?_
  refine rt ?_
  dsimp only [cond_true, cond_false]
  refine rz trivial ?_
  exact ⟨rfl, Ext0.ext⟩
 obtain ⟨rfl, hx3⟩ := h5
 haveI : ExtI _ H3 := ⟨hx3⟩
 refine mB ?_
 refine nl hKF ?_
 refine rt ?_
 dsimp only [cond_true, cond_false]
 refine rz trivial ?_
 exact ⟨rfl, Ext0.ext⟩
end Go.Am

namespace Go.Am
open Go
structure W7 (B : Nat) (H H' : AHeap) : Prop where
  n : H.n ≤ H'.n
  low : ∀ r, r < B → r < H.n → H'.get r = H.get r
  other : ∀ r cs rw e, r < H.n → H.get r = .row cs rw e → e / 2 ≠ 3 → H'.get r = .row cs rw e
  nums : ∀ r cs e, r < H.n → H.get r = .row cs true e → e / 2 = 3 → ∃ cs', H'.get r = .row cs' true e ∧ cs'.length = cs.length
theorem W7.refl (B : Nat) (H : AHeap) : W7 B H H := ⟨Nat.le_refl _, fun _ _ _ => rfl, fun _ _ _ _ _ h _ => h, fun r cs e _ h _ => ⟨cs, h, rfl⟩⟩
theorem W7.ext {B : Nat} {H H' H2 : AHeap} (h : W7 B H H') (x : Ext H' H2) : W7 B H H2 := ⟨Nat.le_trans h.n x.n, fun r a b => by rw [x.get r (Nat.lt_of_lt_of_le b h.n), h.low r a b], fun r cs rw e a b c => by rw [x.get r (Nat.lt_of_lt_of_le a h.n), h.other r cs rw e a b c], fun r cs e a b c => by
  obtain ⟨cs', d1, d2⟩ := h.nums r cs e a b c
  exact ⟨cs', by rw [x.get r (Nat.lt_of_lt_of_le a h.n), d1], d2⟩⟩
theorem W7.write {B : Nat} {H H' : AHeap} (h : W7 B H H') {r : Nat} {cs cs' cs0 : List AVal} {e : TypeId} (hr : B ≤ r) (hg : H'.get r = .row cs true e) (he : e / 2 = 3) (hl : cs'.length = cs.length) (h0 : H.get r = .row cs0 true e) (hrn : r < H.n) : W7 B H (H'.set r (.row cs' true e)) := by
  refine ⟨h.n, fun s a b => by rw [set_get_ne (by omega), h.low s a b], fun s c rw f a b d => ?_, fun s c f a b d => ?_⟩
  · by_cases q : s = r
    · subst q; rw [h0] at b; cases b; exact absurd he d
    · rw [set_get_ne q, h.other s c rw f a b d]
  · by_cases q : s = r
    · subst q
      obtain ⟨c2, d1, d2⟩ := h.nums s c f a b d
      rw [hg] at d1
      cases d1
      rw [h0] at b; cases b
      exact ⟨cs', set_get_eq, by omega⟩
    · obtain ⟨c2, d1, d2⟩ := h.nums s c f a b d
      exact ⟨c2, by rw [set_get_ne q, d1], d2⟩
theorem W7.own {B : Nat} {H H' : AHeap} {p : AVal} {sz n : Nat} {cs : List AVal} {e : TypeId} (h : W7 B H H') (ho : OwnS H p sz n cs e) (he : e ≠ 3) : OwnS H' p sz n cs e := by
  rcases ho.it with ⟨a1, a2, a3⟩ | ⟨r, e', a1, a2, a3, a4, a5, a6⟩
  · exact ⟨Or.inl ⟨a1, a2, a3⟩⟩
  · exact ⟨Or.inr ⟨r, e', a1, Nat.lt_of_lt_of_le a2 h.n, h.other r cs true e' a2 a3 (by rw [a4]; exact he), a4, a5, a6⟩⟩
theorem WpX.st7 {call : ACall} {fr : AFrame} {H : AHeap} {K : AVal → AHeap → Prop} {a x : ROpd} {r off : Nat} {cs : List AVal} {e : TypeId} {k : IntKind} {z : Int} (ha : a.ev fr = .ptr r off) (hx : x.ev fr = .int k z) (hr : r < H.n) (hg : H.get r = .row cs true e) (hl : off < cs.length) (h : K aundef (H.set r (.row (cs.set off (.int k z)) true e))) : WpX (.store 1 a x) call fr H K :=
  WpX.store ha hx rfl hr hg (by simp only [AVal.cells, List.length_singleton]; omega) rfl (by rw [show AVal.cells (.int k z) = [.int k z] from rfl, setAt_one]; exact h)
theorem StvG.stv {B : Nat} {H : AHeap} {v : AVal} {sts : List (List (List Int))} (h : StvG B H v sts) : ∃ cells, StavesI H v sts.length cells sts := by
  obtain ⟨cells, h1, h2, h3⟩ := h
  exact ⟨cells, rfl, h1.sl, fun i hi => by obtain ⟨q, a1, a2⟩ := h2 i hi; exact ⟨q, a1, a2.lines⟩⟩
theorem StvG.ext {B : Nat} {H H' : AHeap} {v : AVal} {sts : List (List (List Int))} (h : StvG B H v sts) (x : Ext H H') : StvG B H' v sts := by
  obtain ⟨cells, h1, h2, h3⟩ := h
  haveI : ExtI H H' := ⟨x⟩
  exact ⟨cells, inferInstance, fun i hi => by obtain ⟨q, a1, a2⟩ := h2 i hi; exact ⟨q, a1, a2.ext x⟩, h3⟩
theorem stvF_slim : ∀ (f : Nat) (ls : List (List Int)), SlimL ls → ∀ (i : Nat) (h : i < (stvF f ls).length), SlimL (stvF f ls)[i] ∧ (∀ (j : Nat) (h2 : j < (stvF f ls)[i].length), (stvF f ls)[i][j] ≠ [])
  | 0, ls, hs, i, h => by cases h
  | f + 1, ls, hs, i, h => by
    simp only [stvF] at h ⊢
    by_cases h1 : ls.length < 5
    · simp only [if_pos h1] at h; cases h
    · by_cases h2 : groupB (ls.take 5) = true
      · simp only [if_neg h1, if_pos h2] at h ⊢
        cases i with
        | zero => exact ⟨hs.take 5, group_ne (ls := ls.take 5) (by rw [List.length_take]; omega) h2⟩
        | succ i => exact stvF_slim f (ls.drop 5) (hs.drop 5) i (by simpa using h)
      · simp only [if_neg h1, if_neg h2] at h ⊢
        exact stvF_slim f (ls.drop 1) (hs.drop 1) i h
theorem any_huge {ls : List (List Int)} {f : Int → Bool} (hf : ∀ z, f z = false → -1099511627776 ≤ z ∧ z ≤ 1099511627776) (h : (ls.any fun l => l.any f) = false) : ModL ls := ⟨fun i x => by
  by_cases hi : i < ls.length
  · rw [getDL_at hi]
    have h1 := List.any_eq_false.1 h ls[i] (List.getElem_mem hi)
    by_cases hx : x < ls[i].length
    · rw [getD_at hx]
      have h2 : (ls[i].any f) = false := by simpa using h1
      exact hf _ (by simpa using List.any_eq_false.1 h2 _ (List.getElem_mem hx))
    · rw [getD_out (by omega)]; omega
  · have : ls.getD i [] = [] := by simp [List.getD_eq_getElem?_getD, List.getElem?_eq_none (by omega : ls.length ≤ i)]
    rw [this]; simp⟩
end Go.Am

namespace Go.Am
open Go
attribute [local irreducible] Wp WpO WpX WpE
end Go.Am

namespace Go.Am
open Go
attribute [local irreducible] Wp WpO WpX WpE
end Go.Am

namespace Go.Am
open Go
attribute [local irreducible] Wp WpO WpX WpE
instance K_Few3 {p : AVal} {H : AHeap} {w h : Int} {l : List UInt8} [hp : BytesI H p l] : PureCon ext prog 11 [.agg [.int .i64 w, .int .i64 h, p]] H 1 (.bool (decide (((l.length : Nat) : Int) ≤ 6000))) := ⟨by
 refine con_of (show prog 11 = some c11 from rfl) rfl rfl fun n hn => ?_
 haveI := hp.one
 repeat first
  | refine mB ?_
  | refine fd ?_
  | refine Fo.ld rfl rfl ?_
  | refine b0 ?_
  | (refine ln (by simp only [↓nrmL, nrmK, Nat.reduceEqDiff, ↓reduceIte]; rfl) ?_)
  | refine bA ?_
  | refine nl hKF ?_
  | refine sq ?_
  | refine rg fun KF hKF => ?_
  | refine rt ?_
  | dsimp only [cond_true, cond_false]
 refine rz trivial ?_
 exact ⟨rfl, Ext0.ext⟩⟩
end Go.Am

namespace Go.Am
open Go
attribute [local irreducible] Wp WpO WpX WpE
theorem K_StaveGroups {w h : Int} {p0 p1 p2 : AVal} {H : AHeap} {l : List UInt8} {ls ss : List (List Int)} [hp0 : LinesI H p0 ls] [hp1 : BytesI H p1 l] [hp2 : LinesI H p2 ss] [hs0 : SlimL ls] [hs2 : SlimL ss] : Con ext prog 50 4 [p0, .agg [.int .i64 w, .int .i64 h, p1], .agg [p2]] H fun v H' => v = .bool true ∧ Ext H H' := by
 refine con_of (show prog 4 = some c4 from rfl) rfl rfl fun n hn => ?_
 obtain ⟨ps0, hps0, hrw0⟩ := hp0.it
 obtain ⟨ps2, hps2, hrw2⟩ := hp2.it
 haveI := hps0
 haveI := hps2
 haveI := hps0.one
 haveI := hps2.one
 haveI := hp1.one
 have hle0 := hs0.le
 have hle2 := hs2.le
 cases h1 : decide (((ls.length : Nat) : Int) > 40)
 rotate_left
 ·skip
  repeat first
   | refine ox ?_
   | refine mB ?_
   | (refine mv ?_)
   | (refine bn rfl rfl rfl (by simp only [h1]; rfl) ?_)
   | refine tB ?_
   | (refine Fo.pcall (v' := ?_) hn rfl (by simp only [h1, List.map]; rfl) rfl ?hv fun _ _ => ?_; case hv => rfl)
   | (refine ln (by simp only [↓nrmL, nrmK, Nat.reduceEqDiff, ↓reduceIte]; rfl) ?_)
   | refine bA ?_
   | refine nl hKF ?_
   | refine sq ?_
   | refine rg fun KF hKF => ?_
   | refine ct rfl ?_
   | refine rt ?_
   | dsimp only [cond_true, cond_false]
  refine rz trivial ?_
  exact ⟨rfl, Ext0.ext⟩
 have h40 : ls.length ≤ 40 := by have := of_decide_eq_false h1; omega
 obtain ⟨A1, hA1⟩ : ∃ A, ls.any (fun l => decide (((l.length : Nat) : Int) > 60)) = A := ⟨_, rfl⟩
 obtain ⟨A2, hA2⟩ : ∃ A, ls.any (fun l => l.any hugeB) = A := ⟨_, rfl⟩
 repeat first
  | refine oy ?_
  | refine mB ?_
  | (refine mv ?_)
  | (refine bn rfl rfl rfl (by simp only [h1]; rfl) ?_)
  | (refine ln (by simp only [↓nrmL, nrmK, Nat.reduceEqDiff, ↓reduceIte]; rfl) ?_)
  | refine bA ?_
  | refine nl hKF ?_
  | refine sq ?_
  | refine rg fun KF hKF => ?_
 refine WpO.do (WpX.con (K_ContainsL (P := fun l => decide (((l.length : Nat) : Int) > 60)) K_long (hp0.ext Ext0.ext) hs0) (by omega) rfl (by simp only [↓nrmL, nrmZ, Nat.reduceEqDiff, ↓reduceIte, Nat.reduceAdd, Int.reduceBEq, Int.reduceBNe, List.map] <;> rfl) fun v H1 h5 => ?_)
 obtain ⟨rfl, hx1⟩ := h5
 haveI : ExtI _ H1 := ⟨hx1⟩
 rw [hA1]
 cases A1
 rotate_left
 ·skip
  repeat first
   | refine ox ?_
   | refine mB ?_
   | refine tB ?_
   | refine fB ?_
   | (refine Fo.pcall (v' := ?_) hn rfl (by simp only [↓nrmL, nrmZ, Nat.reduceEqDiff, ↓reduceIte, Nat.reduceAdd, Int.reduceBEq, Int.reduceBNe, List.map]; rfl) rfl ?hv fun _ _ => ?_; case hv => rfl)
   | refine nl hKF ?_
   | refine sq ?_
   | refine rg fun KF hKF => ?_
   | refine ct rfl ?_
   | refine rt ?_
   | dsimp only [cond_true, cond_false]
  refine rz trivial ?_
  exact ⟨rfl, Ext0.ext⟩
 cases h2 : decide (((l.length : Nat) : Int) ≤ 6000)
 ·skip
  repeat first
   | refine oy ?_
   | refine ox ?_
   | refine mB ?_
   | (refine Fo.ldN rfl rfl (by simp only [↓nrmL, nrmZ, Nat.reduceEqDiff, ↓reduceIte, Nat.reduceAdd, Int.reduceBEq, Int.reduceBNe, h2]; rfl) ?_)
   | refine tB ?_
   | refine fB ?_
   | (refine Fo.pcall (v' := ?_) hn rfl (by simp only [h2, List.map]; rfl) rfl ?hv fun _ _ => ?_; case hv => rfl)
   | (refine Fo.pcall (v' := ?_) hn rfl (by simp only [↓nrmL, nrmZ, Nat.reduceEqDiff, ↓reduceIte, Nat.reduceAdd, Int.reduceBEq, Int.reduceBNe, h2, List.map]; rfl) rfl ?hv fun _ _ => ?_; case hv => (simp only [h2]; rfl))
   | (refine Fo.now rfl rfl (by simp only [↓nrmL, nrmZ, Nat.reduceEqDiff, ↓reduceIte, Nat.reduceAdd, Int.reduceBEq, Int.reduceBNe, h2]; rfl) ?_)
   | refine nl hKF ?_
   | refine sq ?_
   | refine rg fun KF hKF => ?_
   | refine ct rfl ?_
   | refine rt ?_
   | dsimp only [cond_true, cond_false]
  refine rz trivial ?_
  exact ⟨rfl, Ext0.ext⟩
 have hl6 := of_decide_eq_true h2
 cases h3 : decide (((ss.length : Nat) : Int) > 9)
 rotate_left
 ·skip
  repeat first
   | refine oy ?_
   | refine ox ?_
   | refine mB ?_
   | refine fd ?_
   | refine Fo.ld rfl rfl ?_
   | (refine Fo.ldN rfl rfl (by simp only [↓nrmL, nrmZ, Nat.reduceEqDiff, ↓reduceIte, Nat.reduceAdd, Int.reduceBEq, Int.reduceBNe, h2, h3]; rfl) ?_)
   | (refine bn rfl rfl rfl (by simp only [h2, h3]; rfl) ?_)
   | refine tB ?_
   | refine fB ?_
   | (refine Fo.pcall (v' := ?_) hn rfl (by simp only [h2, h3, List.map]; rfl) rfl ?hv fun _ _ => ?_; case hv => rfl)
   | (refine Fo.pcall (v' := ?_) hn rfl (by simp only [↓nrmL, nrmZ, Nat.reduceEqDiff, ↓reduceIte, Nat.reduceAdd, Int.reduceBEq, Int.reduceBNe, h2, h3, List.map]; rfl) rfl ?hv fun _ _ => ?_; case hv => (simp only [h2, h3]; rfl))
   | (refine ln (by simp only [↓nrmL, nrmK, Nat.reduceEqDiff, ↓reduceIte]; rfl) ?_)
   | (refine Fo.now rfl rfl (by simp only [↓nrmL, nrmZ, Nat.reduceEqDiff, ↓reduceIte, Nat.reduceAdd, Int.reduceBEq, Int.reduceBNe, h2, h3]; rfl) ?_)
   | refine nl hKF ?_
   | refine sq ?_
   | refine rg fun KF hKF => ?_
   | refine ct rfl ?_
   | refine rt ?_
   | dsimp only [cond_true, cond_false]
  refine rz trivial ?_
  exact ⟨rfl, Ext0.ext⟩
 repeat first
  | refine oy ?_
  | refine mB ?_
  | (refine mv ?_)
  | refine fd ?_
  | refine Fo.ld rfl rfl ?_
  | (refine Fo.ldN rfl rfl (by simp only [↓nrmL, nrmZ, Nat.reduceEqDiff, ↓reduceIte, Nat.reduceAdd, Int.reduceBEq, Int.reduceBNe, h2, h3]; rfl) ?_)
  | (refine bn rfl rfl rfl (by simp only [h2, h3]; rfl) ?_)
  | refine fB ?_
  | (refine Fo.pcall (v' := ?_) hn rfl (by simp only [↓nrmL, nrmZ, Nat.reduceEqDiff, ↓reduceIte, Nat.reduceAdd, Int.reduceBEq, Int.reduceBNe, h2, h3, List.map]; rfl) rfl ?hv fun _ _ => ?_; case hv => (simp only [h2, h3]; rfl))
  | (refine ln (by simp only [↓nrmL, nrmK, Nat.reduceEqDiff, ↓reduceIte]; rfl) ?_)
  | (refine Fo.now rfl rfl (by simp only [↓nrmL, nrmZ, Nat.reduceEqDiff, ↓reduceIte, Nat.reduceAdd, Int.reduceBEq, Int.reduceBNe, h2, h3]; rfl) ?_)
 refine WpO.do (WpX.con (K_ContainsL (P := fun l => l.any hugeB) K_huge (hp0.ext Ext0.ext) hs0) (by omega) rfl (by simp only [↓nrmL, nrmZ, Nat.reduceEqDiff, ↓reduceIte, Nat.reduceAdd, Int.reduceBEq, Int.reduceBNe, List.map] <;> rfl) fun v H2 h5 => ?_)
 obtain ⟨rfl, hx2⟩ := h5
 haveI : ExtI _ H2 := ⟨hx2⟩
 rw [hA2]
 cases A2
 rotate_left
 ·skip
  refine fB ?_
  refine nl hKF ?_
  refine ct rfl ?_
  refine sq ?_
  refine rg fun KF hKF => ?_
  refine Fo.pcall (v' := ?_) hn rfl (by simp only [↓nrmL, nrmZ, Nat.reduceEqDiff, ↓reduceIte, Nat.reduceAdd, Int.reduceBEq, Int.reduceBNe, List.map]; rfl) rfl ?hv fun _ _ => ?_; case hv => rfl
  refine mB ?_
  refine nl hKF ?_
  refine rt ?_
  dsimp only [cond_true, cond_false]
  refine rz trivial ?_
  exact ⟨rfl, Ext0.ext⟩
 have hmod : ModL ls := any_huge (f := hugeB) (fun z hz => by
  unfold hugeB at hz
  rw [Bool.or_eq_false_iff] at hz
  have a1 := of_decide_eq_false hz.1
  have a2 := of_decide_eq_false hz.2
  omega) hA2
 haveI := hmod
 refine fB ?_
 refine nl hKF ?_
 refine cf rfl ?_
 refine sk ?_
 refine sq ?_
 refine rg fun KF hKF => ?_
 refine mv ?_
 refine WpO.do (WpX.con (K_CopyLists (p := p0) (ls := ls) (hp := hp0.ext Ext0.ext)) (by omega) rfl (by simp only [↓nrmL, nrmZ, Nat.reduceEqDiff, ↓reduceIte, Nat.reduceAdd, Int.reduceBEq, Int.reduceBNe, List.map] <;> rfl) fun own H3 h5 => ?_)
 obtain ⟨hF, hown1, hfown, hx3⟩ := h5
 haveI : ExtI _ H3 := ⟨hx3⟩
 haveI := hown1
 have hown := hF.now
 refine mv ?_
 refine nl hKF ?_
 refine sq ?_
 refine rg fun KF hKF => ?_
 refine mv ?_
 refine WpO.do (WpX.con (K_Staves (p := own) (ls := ls) (hp := hown.ext Ext0.ext) h40) (by omega) rfl (by simp only [↓nrmL, nrmZ, Nat.reduceEqDiff, ↓reduceIte, Nat.reduceAdd, Int.reduceBEq, Int.reduceBNe, List.map] <;> rfl) fun v H4 h5 => ?_)
 obtain ⟨hG, hx4⟩ := h5
 haveI : ExtI _ H4 := ⟨hx4⟩
 have hx04 : Ext H H4 := Ext0.ext
 have hown4 : LinesI H4 own ls := hown.ext Ext0.ext
 obtain ⟨sts, hsts⟩ : ∃ sts, stavesS ls = sts := ⟨_, rfl⟩
 have hslim : ∀ (i : Nat) (h : i < sts.length), SlimL sts[i] ∧ (∀ (j : Nat) (h2 : j < sts[i].length), sts[i][j] ≠ []) := by subst hsts; exact stvF_slim _ ls hs0
 have hstl : sts.length ≤ 40 := by
  have h2 := stvF_len ls.length ls
  have h3 : (stavesS ls).length ≤ ls.length := h2
  rw [hsts] at h3
  omega
 rw [hsts] at hG
 obtain ⟨cs4, hS4⟩ := hG.stv
 haveI := hS4.sl.one
 repeat first
  | (refine mv ?_)
  | refine nl hKF ?_
  | refine sq ?_
  | refine rg fun KF hKF => ?_
 refine WpO.do (WpX.con (K_refStaves 40 (p := p0) (ls := ls) h40 (Nat.le_refl _) (hp0.ext Ext0.ext) hmod hs0) (by omega) rfl (by simp only [↓nrmL, nrmZ, Nat.reduceEqDiff, ↓reduceIte, Nat.reduceAdd, Int.reduceBEq, Int.reduceBNe, List.map] <;> rfl) fun u H5 h5 => ?_)
 obtain ⟨m5, cs5, hS5, hx5⟩ := h5
 haveI : ExtI _ H5 := ⟨hx5⟩
 rw [hsts] at hS5
 haveI := hS5.sl.one
 skip
 refine WpO.do (WpX.con (K_SameStaves (p := v) (q := u) (hS4.ext Ext0.ext) hS5 (fun i h => (hslim i h).1) (by omega)) (by omega) rfl (by simp only [↓nrmL, nrmZ, Nat.reduceEqDiff, ↓reduceIte, Nat.reduceAdd, Int.reduceBEq, Int.reduceBNe, List.map] <;> rfl) fun z H6 h5 => ?_)
 obtain ⟨rfl, hx6⟩ := h5
 haveI : ExtI _ H6 := ⟨hx6⟩
 have hx46 : Ext H4 H6 := Ext0.ext
 obtain ⟨cells, hov, hiv, hlv⟩ := hG.ext hx46
 haveI := hov.sl
 obtain ⟨B, hB⟩ : ∃ B, H3.n = B := ⟨_, rfl⟩
 have hx36 : Ext H3 H6 := Ext0.ext
 have n36 := hx36.n
 rw [hB] at n36
 have hcl : cells.length = sts.length := by have := hov.sl.len; omega
 refine Fo.now rfl rfl (by simp only [↓nrmL, nrmZ, Nat.reduceEqDiff, ↓reduceIte, Nat.reduceAdd, Int.reduceBEq, Int.reduceBNe]; rfl) ?_
 refine nl hKF ?_
 refine cf rfl ?_
 refine sk ?_
 refine sq ?_
 refine sq ?_
 refine rg fun KF hKF => ?_
 refine mv ?_
 refine ln (by simp only [↓nrmL, nrmK, Nat.reduceEqDiff, ↓reduceIte]; rfl) ?_
 refine mI ?_
 refine nl hKF ?_
 refine Wp.block ?_
 dsimp only [cond_true, cond_false]
 refine Wp.loopS [10, 12, 49, 50, 51, 52, 53, 54, 55, 56, 57, 58, 59, 60, 61, 62, 63] (fun i : Nat => [(49, .int .i64 (i : Int))]) (fun _ i H7 => i ≤ sts.length ∧ W7 B H6 H7) (fun i => sts.length - i) 0 rfl (fun _ => rfl) ⟨rfl, trivial⟩ ⟨Nat.zero_le _, W7.refl _ _⟩ (by unfold fuel0 at hn; omega) ?_
 rintro i g H7 ⟨hi, hw7⟩
 have hov7 := hw7.own hov (by decide)
 haveI := hov7.sl
 simp only [↓nrmL, nrmZ, Nat.reduceEqDiff, ↓reduceIte, Nat.reduceAdd, Int.reduceBEq, Int.reduceBNe]
 cases hc : decide ((i : Int) < ((sts.length : Nat) : Int))
 rotate_left
 ·have hil : i < sts.length := by have := of_decide_eq_true hc; omega
  have hwi := wa1 (a := i) (by omega)
  obtain ⟨q, hq, lc, hlo, hlc, hll⟩ := hiv i hil
  have hlo7 := hw7.own hlo (by decide)
  have hlcl : lc.length = sts[i].length := by have := hlo.sl.len; omega
  haveI := hlo7.sl
  haveI := hlo7.sl.one
  have hsle := (hslim i hil).1.le
  repeat first
   | (refine bn rfl rfl rfl (by simp only [hc]; rfl) ?_)
   | (refine Fo.idx (by simp only [↓nrmL, nrmK, Nat.reduceEqDiff, ↓reduceIte]; rfl) rfl ?_ (by simp only [↓nrmL, nrmZ, Nat.reduceEqDiff, ↓reduceIte, Nat.reduceAdd, Int.reduceBEq, Int.reduceBNe, hc]; rfl) ?_; (focus omega))
   | refine nl hKF ?_
   | refine sq ?_
   | refine rg fun KF hKF => ?_
   | refine ct rfl ?_
   | refine sk ?_
   | refine Wp.block ?_
  refine WpO.do (WpX.ldNP (p := v) (j := i) (m := 1) (l := [q]) rfl (by decide) (by omega) (take_one hq) ?_)
  refine nw ?_
  refine so rfl (rfl : _ = AVal.agg _) rfl rfl rfl (by simp only [↓nrmL, nrmZ, Nat.reduceEqDiff, ↓reduceIte, Nat.reduceAdd, Int.reduceBEq, Int.reduceBNe]; rfl) ?_
  refine nl hKF ?_
  refine sq ?_
  refine rg fun KF hKF => ?_
  refine fd ?_
  refine Fo.ld rfl rfl ?_
  refine ln (by simp only [↓nrmL, nrmK, Nat.reduceEqDiff, ↓reduceIte]; rfl) ?_
  refine mI ?_
  refine nl hKF ?_
  refine Wp.block ?_
  dsimp only [cond_true, cond_false]
  refine Wp.loopS [12, 56, 57, 58, 59, 60, 61, 62] (fun j : Nat => [(56, .int .i64 (j : Int))]) (fun _ j H8 => j ≤ sts[i].length ∧ W7 B H6 H8) (fun j => sts[i].length - j) 0 rfl (fun _ => rfl) ⟨rfl, trivial⟩ ⟨Nat.zero_le _, hw7.ext Ext0.ext⟩ (by unfold fuel0 at hn; omega) ?_
  rintro j g2 H8 ⟨hj, hw8⟩
  have hlo8 := hw8.own hlo (by decide)
  haveI := hlo8.sl
  simp only [↓nrmL, nrmZ, Nat.reduceEqDiff, ↓reduceIte, Nat.reduceAdd, Int.reduceBEq, Int.reduceBNe]
  cases hcj : decide ((j : Int) < ((sts[i].length : Nat) : Int))
  ·skip
   repeat first
    | refine mI ?_
    | (refine bn rfl rfl rfl (by simp only [hcj]; rfl) ?_)
    | refine b0 ?_
    | refine nl hKF ?_
    | refine sq ?_
    | refine rg fun KF hKF => ?_
    | refine cf rfl ?_
    | refine xi ?_
    | dsimp only [cond_true, cond_false]
   exact ⟨i + 1, by omega, ⟨by simp only [↓nrmL, nrmZ, Nat.reduceEqDiff, ↓reduceIte, Nat.reduceAdd, Int.reduceBEq, Int.reduceBNe]; rw [hwi], trivial⟩, by omega, hw8⟩
  have hjl : j < sts[i].length := by have := of_decide_eq_true hcj; omega
  have hwj := wa1 (a := j) (by omega)
  obtain ⟨q', hq', ho', hlow'⟩ := hlc.it j hjl hjl
  have hne := (hslim i hil).2 j hjl
  have hpos : 0 < sts[i][j].length := by
   cases hh : sts[i][j] with
   | nil => exact absurd hh hne
   | cons a b => simp
  rcases ho'.it with ⟨_, e0, _⟩ | ⟨r, e', rfl, r2, r3, r4, r5, r6⟩
  ·omega
  obtain ⟨cs', d1, d2⟩ := hw8.nums r _ e' r2 r3 r4
  have hr8 : r < H8.n := Nat.lt_of_lt_of_le r2 hw8.n
  haveI : SliceAt H8 (.slice r 0 sts[i][j].length none 1) 1 sts[i][j].length cs' := ⟨Or.inr ⟨r, 0, none, cs', true, e', rfl, hr8, d1, by omega, by rw [List.drop_zero, List.take_of_length_le (by omega)], Nat.le_refl _⟩⟩
  repeat first
   | (refine bn rfl rfl rfl (by simp only [hcj]; rfl) ?_)
   | (refine Fo.idx (by simp only [↓nrmL, nrmK, Nat.reduceEqDiff, ↓reduceIte]; rfl) rfl ?_ (by simp only [↓nrmL, nrmZ, Nat.reduceEqDiff, ↓reduceIte, Nat.reduceAdd, Int.reduceBEq, Int.reduceBNe, hcj]; rfl) ?_; (focus omega))
   | refine nl hKF ?_
   | refine sq ?_
   | refine rg fun KF hKF => ?_
   | refine ct rfl ?_
   | refine sk ?_
   | refine Wp.block ?_
  refine Fo.now rfl (exec_ldP (p := q) (j := j) rfl hq') rfl ?_
  refine mv ?_
  refine nl hKF ?_
  refine rg fun KF hKF => ?_
  refine mv ?_
  refine Fo.idx (by simp only [↓nrmL, nrmK, Nat.reduceEqDiff, ↓reduceIte]; rfl) rfl ?_ (by simp only [↓nrmL, nrmZ, Nat.reduceEqDiff, ↓reduceIte, Nat.reduceAdd, Int.reduceBEq, Int.reduceBNe]; rfl) ?_; (focus omega)
  refine WpO.do' (WpX.st7 (r := r) (off := 0) (cs := cs') (e := e') rfl rfl hr8 d1 (by omega) ?_)
  refine nl hKF ?_
  refine rg fun KF hKF => ?_
  refine b0 ?_
  refine mI ?_
  refine nl hKF ?_
  dsimp only [cond_true, cond_false]
  exact ⟨j + 1, by omega, ⟨by simp only [↓nrmL, nrmZ, Nat.reduceEqDiff, ↓reduceIte, Nat.reduceAdd, Int.reduceBEq, Int.reduceBNe]; rw [hwj], trivial⟩, by omega, hw8.write (by rw [← hB]; exact hlow' _ _ _ _ _ rfl) d1 r4 (by rw [List.length_set]) r3 r2⟩
 have hx37 : Ext H3 H7 := ⟨Nat.le_trans hx36.n hw7.n, fun r hr => by rw [hw7.low r (by omega) (Nat.lt_of_lt_of_le hr hx36.n), hx36.get r hr]⟩
 haveI : ExtI H3 H7 := ⟨hx37⟩
 have hx07 : Ext H H7 := Ext0.ext
 have hown7 : LinesI H7 own ls := hown.ext hx37
 have hp07 : LinesI H7 p0 ls := hp0.ext hx07
 have hp27 : LinesI H7 p2 ss := hp2.ext hx07
 haveI : Short l := ⟨by omega⟩
 refine sq ?_
 refine rg fun KF hKF => ?_
 refine bn rfl rfl rfl (by simp only [hc]; rfl) ?_
 refine nl hKF ?_
 refine sq ?_
 refine cf rfl ?_
 refine xi ?_
 refine sq ?_
 refine Fr.dregionE [.row [.int .i64 0, .int .i64 0, .nslice] true (2 * 24), .row [.nslice] true (2 * 43)] ?_ fun KF hKF => ?_
 ·skip
  repeat first
   | exact oracle_none _ _ _ _ rfl
   | (refine oracle_not rfl rfl ?_; (try simp only [↓nrmL, nrmZ, Nat.reduceEqDiff, ↓reduceIte, Nat.reduceAdd, Int.reduceBEq, Int.reduceBNe]))
   | (refine oracle_pre rfl rfl rfl (exec_ldN rfl rfl rfl) ?_; (try simp only [↓nrmL, nrmZ, Nat.reduceEqDiff, ↓reduceIte, Nat.reduceAdd, Int.reduceBEq, Int.reduceBNe]))
   | (refine oracle_made rfl rfl rfl ?_; (try simp only [↓nrmL, nrmZ, Nat.reduceEqDiff, ↓reduceIte, Nat.reduceAdd, Int.reduceBEq, Int.reduceBNe]))
 simp only [pushAll]
 refine Er rfl (exec_ldN rfl rfl (by simp only [↓nrmL, nrmZ, Nat.reduceEqDiff, ↓reduceIte, Nat.reduceAdd, Int.reduceBEq, Int.reduceBNe]; rfl)) rfl ?_
 refine Fe.con rfl hn rfl rfl (by simp only [↓nrmL, nrmZ, Nat.reduceEqDiff, ↓reduceIte, Nat.reduceAdd, Int.reduceBEq, Int.reduceBNe, List.map] <;> rfl) (K_CopyInk (a := w) (b := h) (l := l) (by omega)) fun v H8 h5 => ?_
 obtain ⟨a1, e1, ha1, hfa1, hwa1, hxa1⟩ := h5
 subst e1
 try dsimp only at ha1
 haveI : ExtI _ H8 := ⟨hxa1⟩
 haveI := ha1.one
 refine ar ?_
 refine Er rfl (exec_ldN rfl rfl (by simp only [↓nrmL, nrmZ, Nat.reduceEqDiff, ↓reduceIte, Nat.reduceAdd, Int.reduceBEq, Int.reduceBNe]; rfl)) rfl ?_
 refine Fe.con rfl hn rfl rfl (by simp only [↓nrmL, nrmZ, Nat.reduceEqDiff, ↓reduceIte, Nat.reduceAdd, Int.reduceBEq, Int.reduceBNe, List.map] <;> rfl) (K_CopyStave (p := p2) (ls := ss) (hp := hp27.ext Ext0.ext)) fun z H9 h5 => ?_
 obtain ⟨a3, e1, hF9, h1a3, hf3, hx9⟩ := h5
 subst e1
 haveI : ExtI _ H9 := ⟨hx9⟩
 have hF9 := hF9.weak (B' := H7.n + 2) (by have h8 := hxa1.n; simp only [AHeap.push] at h8 ⊢; omega)
 haveI := h1a3
 refine ar ?_
 refine Em rfl rfl ghost_of rfl ?_
 change WpE _ _ (AHeap.n (AHeap.push _ (.row [.int .i64 0, .int .i64 0, .nslice] true (2 * 24)))) _ _ _ _ _ _ _
 repeat first
  | (refine Em rfl rfl ghost_of rfl ?_)
  | (refine Ee rfl (xs rfl (by (try simp only [↓nrmL, nrmZ, Nat.reduceEqDiff, ↓reduceIte, Nat.reduceAdd, Int.reduceBEq, Int.reduceBNe]); rfl) rfl rfl rfl (by (try simp only [↓nrmL, nrmZ, Nat.reduceEqDiff, ↓reduceIte, Nat.reduceAdd, Int.reduceBEq, Int.reduceBNe]); rfl)) ?_)
  | refine WpE.nil (hKF _ _ ?_)
 refine sq ?_
 dsimp only [cond_true, cond_false]
 have d1 : decide (ls = ls) = true := decide_eq_true rfl
 have d2 : decide (ss = ss) = true := decide_eq_true rfl
 have d3 : decide ((⟨w, h, l⟩ : Img) = ⟨w, h, l⟩) = true := decide_eq_true rfl
 have d4 : (checkS ⟨w, h, l⟩ ss == checkS ⟨w, h, l⟩ ss) = true := beq_self_eq_true _
 refine Fr.dregion0 rfl fun KF hKF => ?_
 refine Fe.pure rfl rfl (by simp only [↓nrmL, nrmZ, Nat.reduceEqDiff, ↓reduceIte, Nat.reduceAdd, Int.reduceBEq, Int.reduceBNe]; rfl) ?_
 refine Fe.pure rfl rfl (by simp only [↓nrmL, nrmZ, Nat.reduceEqDiff, ↓reduceIte, Nat.reduceAdd, Int.reduceBEq, Int.reduceBNe]; rfl) ?_
 refine Fe.con rfl hn rfl rfl (by simp only [↓nrmL, nrmZ, Nat.reduceEqDiff, ↓reduceIte, Nat.reduceAdd, Int.reduceBEq, Int.reduceBNe, List.map] <;> rfl) (K_SameLists (p := own) (q := p0) (l := ls) (m := ls) (hp := hown7.ext Ext0.ext) (hq := hp07.ext Ext0.ext)).con fun z H10 h5 => ?_
 obtain ⟨rfl, hx10⟩ := h5
 have hla3 : LinesI H10 a3 ss := LinesI.ext (hF9 _ (by exact Nat.le_refl _) (fun r a b => by rw [set_get_ne (by simp only [AHeap.push]; omega), set_get_ne (by omega)])) hx10
 haveI : ExtI _ H10 := ⟨hx10⟩
 refine ar ?_
 haveI := hla3
 haveI : LinesI H10 p2 ss := hp27.ext Ext0.ext
 simp only [d1, d4, d3, d2]
 repeat first
  | (refine Er rfl (exec_ldN rfl rfl (by simp only [↓nrmL, nrmZ, Nat.reduceEqDiff, ↓reduceIte, Nat.reduceAdd, Int.reduceBEq, Int.reduceBNe, d1, d4, d3, d2]; rfl)) rfl ?_)
  | (refine Fe.pure rfl rfl (by simp only [d1, d4, d3, d2]; rfl) ?_)
  | (refine Fe.pure rfl rfl (by simp only [↓nrmL, nrmZ, Nat.reduceEqDiff, ↓reduceIte, Nat.reduceAdd, Int.reduceBEq, Int.reduceBNe, d1, d4, d3, d2]; rfl) ?_)
  | (refine Fe.pcall (v' := ?_) rfl hn rfl (by simp only [d1, d4, d3, d2, List.map]; rfl) rfl ?hv fun _ _ => ar ?_; case hv => rfl)
  | (refine Fe.pcall (v' := ?_) rfl hn rfl (by simp only [↓nrmL, nrmZ, Nat.reduceEqDiff, ↓reduceIte, Nat.reduceAdd, Int.reduceBEq, Int.reduceBNe, d1, d4, d3, d2, List.map]; rfl) rfl ?hv fun _ _ => ar ?_; case hv => (simp only [d1, d4, d3, d2]; rfl))
  | (refine Fe.pcall (v' := ?_) rfl hn rfl (by simp only [↓nrmL, nrmZ, Nat.reduceEqDiff, ↓reduceIte, Nat.reduceAdd, Int.reduceBEq, Int.reduceBNe, d1, d4, d3, d2, List.map]; rfl) rfl ?hv fun _ _ => ar ?_; case hv => rfl)
  | refine WpE.nil (hKF _ _ ?_)
 refine rt ?_
 dsimp only [cond_true, cond_false]
 refine rz trivial ?_
 exact ⟨rfl, Ext0.ext⟩
end Go.Am

namespace Go.Proofs.Ytpochhefklmnfaa.StaveGroups
open Go.ChangeShapes Go.WideShapes Go.ChangeAt Go.RowKit Go.Am Go.Proofs.Ytpochhefklmnfaa.Laid

theorem con (H : AHeap) (avs : List AVal) (ht : tablesIn aroundT H = true) (h : ArgSW Try.prog H 4 [34, 24, 43] avs) : Con ext prog 50 4 avs H fun v H' => v = .bool true ∧ Ext H H' := by
  obtain ⟨a0, r0, rfl, h0, a1, r1, rfl, h1, a2, r2, rfl, h2, rfl⟩ := h
  obtain ⟨q0, l0, rfl, k0, m0⟩ := shapeW_lists Try.underlying34 Try.underlying25 Try.underlying3 (by kernel_rfl) (by kernel_rfl) (by kernel_rfl) (by kernel_rfl) h0
  haveI := m0
  obtain ⟨w1, hh1, p1, l1, rfl, k1, _⟩ := shapeW_img (ti := 3) (ts := 22) (tb := 5) Try.underlying24 (by kernel_rfl) Try.underlying3 Try.underlying22 Try.underlying5 (by kernel_rfl) h1
  obtain ⟨q2, l2, rfl, k2, m2⟩ := shapeW_stave Try.underlying43 (by kernel_rfl) Try.underlying34 Try.underlying25 Try.underlying3 (by kernel_rfl) (by kernel_rfl) (by kernel_rfl) (by kernel_rfl) h2
  haveI := m2
  have e0 : argV Try.prog 34 [q0] = q0 := by simp only [argV, show aggTy Try.prog 34 = false by kernel_rfl, cond_false, List.headD_cons]
  have e1 : argV Try.prog 24 [.int .i64 w1, .int .i64 hh1, p1] = .agg [.int .i64 w1, .int .i64 hh1, p1] := by simp only [argV, show aggTy Try.prog 24 = true by kernel_rfl, cond_true]
  have e2 : argV Try.prog 43 [q2] = .agg [q2] := by simp only [argV, show aggTy Try.prog 43 = true by kernel_rfl, cond_true]
  rw [e0, e1, e2]
  exact K_StaveGroups (p0 := q0) (p1 := p1) (p2 := q2) (ls := l0) (l := l1) (ss := l2)

theorem contract (H : Type) (enc : TypeId × Value → H) (W : World) (base : Nat) (args : Array Value) (ds gs : List (DataW H)) (before : List MemPlace)
    (hval : ∀ (j : Nat) t v, Try.f4.params[j]? = some t → args[j]? = some v → Value.okWide Try.prog W .any base t v)
    (hW : DataW.Whole enc Try.prog Try.f4.params.toList Rows.staveGroupsSpec.vars false W args.toList ds gs before) (hz : (DataW.weightsEach Try.prog (Try.f4.params.toList ++ (OpenSpec.ofChange Rows.staveGroupsSpec).bare.plain.varTypes Try.prog) (ds ++ gs)).all (· ≤ reachBytes) = true) (hL : laidMetH Try.prog Rows.staveGroupsRow.laid W) :
    Calls Try.prog 4 args W fun e W' => ∃ v, e = .returned v ∧ Rows.staveGroupsSpec.post enc Try.prog Try.f4 false true false false W args v W' := by
  have hW' := hW
  obtain ⟨p, q, hA, _⟩ := hW'
  rw [Try.params4] at hA
  obtain ⟨v0, vs0, d0, ds0, p0, q0, _, rfl, _, _, r0⟩ := trodAll_cons hA
  obtain ⟨v1, vs1, d1, ds1, p1, q1, _, rfl, _, _, r1⟩ := trodAll_cons r0
  obtain ⟨v2, vs2, d2, ds2, p2, q2, _, rfl, _, _, r2⟩ := trodAll_cons r1
  obtain ⟨_, rfl, _⟩ := trodAll_nil r2
  exact law_callsW (tb := 4) (n := 4) (d := 50) (tabs := aroundT) mixed progOk Try.func4 rfl (by decide +kernel) laidOut rowed full (by kernel_rfl) rfl (by kernel_rfl) Try.underlying4 (by kernel_rfl) (by kernel_rfl)
    (fun H avs ht h => con H avs ht (by rw [Try.params4] at h; exact h)) H enc W base args _ gs before rfl hval hW (slim_app hz) around_cells

theorem laid_met (os : Os) : laidMet Try.prog Rows.staveGroupsRow.laid ((laidWorld os).forCall (fun _ _ => 0) ⟨#[], #[.slice none 0 0, .agg #[.int .i64 0, .int .i64 0, .slice none 0 0], .agg #[.slice none 0 0]], []⟩).memory :=
  laidMet_of_run' 8 (by kernel_rfl) (by kernel_rfl)
theorem reads (os : Os) {H : Type} (enc : TypeId × Value → H) : ∃ places, DataW.whole enc Try.prog ((laidWorld os).forCall (fun _ _ => 0) ⟨#[], #[.slice none 0 0, .agg #[.int .i64 0, .int .i64 0, .slice none 0 0], .agg #[.slice none 0 0]], []⟩).memory Try.f4.params.toList Rows.staveGroupsSpec.vars false #[Value.slice none 0 0, .agg #[.int .i64 0, .int .i64 0, .slice none 0 0], .agg #[.slice none 0 0]].toList 8 = some ([.nil, .agg [.lit (.int .i64 0), .lit (.int .i64 0), .nil], .agg [.nil]], [], places) :=
  ⟨[], by kernel_rfl⟩

theorem lifted (os : Os) (started : os.Started) (H : Type) (enc : TypeId × Value → H) (F : Stop.Interp) :
    ReturnsInHanded {} Try.checked os 4 .any ((OpenSpec.ofChange Rows.staveGroupsSpec).preRow enc Try.prog Try.f4 Rows.staveGroupsRow.domain false Rows.staveGroupsRow.laid) (((OpenSpec.ofChange Rows.staveGroupsSpec).at F).post enc Try.prog Try.f4 false true false false) := by
  obtain ⟨places, hx⟩ := reads os enc
  refine returnsInHanded_of_row (C := Try.checked) (s := OpenSpec.ofChange Rows.staveGroupsSpec) own started (by kernel_rfl) Try.func4
    (witness_row_at (enc := enc) (C := Try.checked) false (laidWorld os) #[.slice none 0 0, .agg #[.int .i64 0, .int .i64 0, .slice none 0 0], .agg #[.slice none 0 0]] rfl (by kernel_rfl) (by kernel_rfl) (by kernel_rfl)
      (OpenSpec.preRow_of_cond 8 hx (by kernel_rfl) (fun k hk => by cases hk) (by kernel_rfl) (laid_met os))) ?_
  intro W base args ds gs before hval hW _ _ hz hL _ _
  exact contract H enc W base args ds gs before hval hW hz hL

theorem said : Rows.StaveGroupsSaid :=
  OpenClaim.holds_of_cond 4 Try.f4 rfl rfl rfl rfl rfl rfl rfl ⟨rfl, rfl, rfl, rfl, rfl⟩ rfl rfl rfl rfl rfl (by kernel_rfl) Try.func4 (by kernel_rfl)
    (of_decide_eq_true (by kernel_rfl)) (by unfold Func.isWrapper; first | (rw [if_pos (by decide +kernel)]; kernel_rfl) | (rw [if_neg (by decide +kernel)]; exact ⟨rfl, rfl⟩))
    (fun os started H enc _ F => by rw [OpenClaim.pre_eq_preRow]; exact lifted os started H enc F)
end Go.Proofs.Ytpochhefklmnfaa.StaveGroups
