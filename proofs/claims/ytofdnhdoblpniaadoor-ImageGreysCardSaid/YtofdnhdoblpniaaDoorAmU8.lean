import Derived.Test.YtofdnhdoblpniaaDoorAmU7
set_option linter.unusedSimpArgs false
set_option linter.unusedVariables false
set_option maxHeartbeats 4000000
set_option maxRecDepth 100000
namespace Go.Am
open Go

theorem K_refLevels {w h : Int} {p : AVal} {H : AHeap} {l : List UInt8} [hp : BytesI H p l] (hlen : l.length ≤ 409600) : Con ext prog 1 39 [.agg [.int .i64 w, .int .i64 h, p]] H fun q H' => NewInts H H' q (lv l) := by
  refine con_of (show prog 39 = some c39 from rfl) rfl rfl fun n hn => ?_
  haveI := hp.one
  repeat (first
    | (refine WpO.do (WpX.ld rfl rfl ?_); try simp only [nrm, Nat.reduceEqDiff, reduceIte, Nat.reduceAdd])
    | (refine WpO.do (WpX.ldN rfl rfl rfl ?_); try simp only [nrm, Nat.reduceEqDiff, reduceIte, Nat.reduceAdd])
    | (refine WpO.do (WpX.lenP (by (try simp only [nrm, Nat.reduceEqDiff, reduceIte, Nat.reduceAdd]); rfl) ?_); try simp only [nrm, Nat.reduceEqDiff, reduceIte, Nat.reduceAdd])
    | (refine WpO.now rfl rfl ?_; try simp only [nrm, Nat.reduceEqDiff, reduceIte, Nat.reduceAdd])
    | (refine WpO.do' (WpX.st rfl (by (try simp only [nrm, Nat.reduceEqDiff, reduceIte, Nat.reduceAdd]); rfl) rfl rfl rfl (by repeat (first | rfl | refine allOne_cons ?_)) rfl ?_); try simp only [nrm, Nat.reduceEqDiff, reduceIte, Nat.reduceAdd])
    | (refine WpO.do (WpX.pcall hn rfl (by simp only [nrm, Nat.reduceEqDiff, reduceIte, Nat.reduceAdd, List.map]; rfl) rfl fun _ _ => ?_); try simp only [nrm, Nat.reduceEqDiff, reduceIte, Nat.reduceAdd])
    | (refine WpO.do (WpX.idxP (by (try simp only [nrm, Nat.reduceEqDiff, reduceIte, Nat.reduceAdd]); rfl) rfl ?_ ?_); (focus omega); try simp only [nrm, Nat.reduceEqDiff, reduceIte, Nat.reduceAdd])
    | (refine WpO.do (WpX.ldB rfl ?_ ?_); (focus omega); try simp only [nrm, Nat.reduceEqDiff, reduceIte, Nat.reduceAdd])
    | (refine WpO.do (WpX.ldI rfl ?_ ?_); (focus omega); try simp only [nrm, Nat.reduceEqDiff, reduceIte, Nat.reduceAdd])
    | (refine WpO.do (WpX.build (by repeat (first | refine aFill1 (by (try simp only [nrm, Nat.reduceEqDiff, reduceIte, Nat.reduceAdd]); rfl) rfl ?_ | rfl)) ?_); try simp only [nrm, Nat.reduceEqDiff, reduceIte, Nat.reduceAdd])
    | (refine WpO.guard rfl (fun _ => ?_) (fun h => absurd rfl h))
    | (refine WpO.guard rfl (fun h => absurd h (by decide)) (fun _ => ?_); try simp only [nrm, Nat.reduceEqDiff, reduceIte, Nat.reduceAdd])
    | refine WpO.nil ?_
    | refine Wp.seq ?_
    | refine Wp.region ?_
    | refine Wp.dquiet rfl rfl ?_
    | refine Wp.cond (b := true) rfl ?_
    | refine Wp.cond (b := false) rfl ?_
    | refine Wp.skip ?_
    | refine Wp.ret ?_
    | refine Wp.block ?_
    | refine Wp.exit ?_
    | dsimp only [cond_true, cond_false])
  refine WpO.do (WpX.mkI (n := 256) rfl rfl rfl (by omega) fun q H1 e1 hq hf hw hx => ?_); try simp only [nrm, Nat.reduceEqDiff, reduceIte, Nat.reduceAdd]
  haveI := hq.one
  repeat (first
    | (refine WpO.do (WpX.ld rfl rfl ?_); try simp only [nrm, Nat.reduceEqDiff, reduceIte, Nat.reduceAdd])
    | (refine WpO.do (WpX.ldN rfl rfl rfl ?_); try simp only [nrm, Nat.reduceEqDiff, reduceIte, Nat.reduceAdd])
    | (refine WpO.do (WpX.lenP (by (try simp only [nrm, Nat.reduceEqDiff, reduceIte, Nat.reduceAdd]); rfl) ?_); try simp only [nrm, Nat.reduceEqDiff, reduceIte, Nat.reduceAdd])
    | (refine WpO.now rfl rfl ?_; try simp only [nrm, Nat.reduceEqDiff, reduceIte, Nat.reduceAdd])
    | (refine WpO.do' (WpX.st rfl (by (try simp only [nrm, Nat.reduceEqDiff, reduceIte, Nat.reduceAdd]); rfl) rfl rfl rfl (by repeat (first | rfl | refine allOne_cons ?_)) rfl ?_); try simp only [nrm, Nat.reduceEqDiff, reduceIte, Nat.reduceAdd])
    | (refine WpO.do (WpX.pcall hn rfl (by simp only [nrm, Nat.reduceEqDiff, reduceIte, Nat.reduceAdd, List.map]; rfl) rfl fun _ _ => ?_); try simp only [nrm, Nat.reduceEqDiff, reduceIte, Nat.reduceAdd])
    | (refine WpO.do (WpX.idxP (by (try simp only [nrm, Nat.reduceEqDiff, reduceIte, Nat.reduceAdd]); rfl) rfl ?_ ?_); (focus omega); try simp only [nrm, Nat.reduceEqDiff, reduceIte, Nat.reduceAdd])
    | (refine WpO.do (WpX.ldB rfl ?_ ?_); (focus omega); try simp only [nrm, Nat.reduceEqDiff, reduceIte, Nat.reduceAdd])
    | (refine WpO.do (WpX.ldI rfl ?_ ?_); (focus omega); try simp only [nrm, Nat.reduceEqDiff, reduceIte, Nat.reduceAdd])
    | (refine WpO.do (WpX.build (by repeat (first | refine aFill1 (by (try simp only [nrm, Nat.reduceEqDiff, reduceIte, Nat.reduceAdd]); rfl) rfl ?_ | rfl)) ?_); try simp only [nrm, Nat.reduceEqDiff, reduceIte, Nat.reduceAdd])
    | (refine WpO.guard rfl (fun _ => ?_) (fun h => absurd rfl h))
    | (refine WpO.guard rfl (fun h => absurd h (by decide)) (fun _ => ?_); try simp only [nrm, Nat.reduceEqDiff, reduceIte, Nat.reduceAdd])
    | refine WpO.nil ?_
    | refine Wp.seq ?_
    | refine Wp.region ?_
    | refine Wp.dquiet rfl rfl ?_
    | refine Wp.cond (b := true) rfl ?_
    | refine Wp.cond (b := false) rfl ?_
    | refine Wp.skip ?_
    | refine Wp.ret ?_
    | refine Wp.block ?_
    | refine Wp.exit ?_
    | dsimp only [cond_true, cond_false])
  refine Wp.loopS [4, 6, 7, 8, 9, 10, 11, 12, 13, 14, 15, 16, 17, 18, 19, 20, 21, 22] (fun i : Nat => [(4, .int .i64 i)]) (fun H3 i H2 => i ≤ l.length ∧ IntsI H2 q (lv (l.take i)) ∧ WrS H2 q ∧ ExtP0 H3 H2 q) (fun i => l.length - i) 0 rfl (fun _ => rfl) ⟨rfl, trivial⟩ ⟨Nat.zero_le _, by rw [List.take_zero]; exact hq, inferInstance, inferInstance⟩ (by unfold fuel0 at hn; omega) ?_
  rintro i g H2 ⟨hi, hb2, hw2, ⟨hx2⟩⟩
  simp only [nrm, Nat.reduceEqDiff, reduceIte, Nat.reduceAdd]
  cases hc : decide ((i : Int) < (l.length : Int))
  · have hil : i = l.length := by have := of_decide_eq_false hc; omega
    subst hil
    rw [List.take_length] at hb2
    repeat (first
      | (refine WpO.do (WpX.ld rfl rfl ?_); try simp only [nrm, Nat.reduceEqDiff, reduceIte, Nat.reduceAdd, hc])
      | (refine WpO.do (WpX.ldN rfl rfl rfl ?_); try simp only [nrm, Nat.reduceEqDiff, reduceIte, Nat.reduceAdd, hc])
      | (refine WpO.do (WpX.lenP (by (try simp only [nrm, Nat.reduceEqDiff, reduceIte, Nat.reduceAdd, hc]); rfl) ?_); try simp only [nrm, Nat.reduceEqDiff, reduceIte, Nat.reduceAdd, hc])
      | (refine WpO.now rfl rfl ?_; try simp only [nrm, Nat.reduceEqDiff, reduceIte, Nat.reduceAdd, hc])
      | (refine WpO.do' (WpX.st rfl (by (try simp only [nrm, Nat.reduceEqDiff, reduceIte, Nat.reduceAdd, hc]); rfl) rfl rfl rfl (by repeat (first | rfl | refine allOne_cons ?_)) rfl ?_); try simp only [nrm, Nat.reduceEqDiff, reduceIte, Nat.reduceAdd, hc])
      | (refine WpO.do (WpX.pcall hn rfl (by simp only [nrm, Nat.reduceEqDiff, reduceIte, Nat.reduceAdd, hc, List.map]; rfl) rfl fun _ _ => ?_); try simp only [nrm, Nat.reduceEqDiff, reduceIte, Nat.reduceAdd, hc])
      | (refine WpO.do (WpX.idxP (by (try simp only [nrm, Nat.reduceEqDiff, reduceIte, Nat.reduceAdd, hc]); rfl) rfl ?_ ?_); (focus omega); try simp only [nrm, Nat.reduceEqDiff, reduceIte, Nat.reduceAdd, hc])
      | (refine WpO.do (WpX.ldB rfl ?_ ?_); (focus omega); try simp only [nrm, Nat.reduceEqDiff, reduceIte, Nat.reduceAdd, hc])
      | (refine WpO.do (WpX.ldI rfl ?_ ?_); (focus omega); try simp only [nrm, Nat.reduceEqDiff, reduceIte, Nat.reduceAdd, hc])
      | (refine WpO.do (WpX.build (by repeat (first | refine aFill1 (by (try simp only [nrm, Nat.reduceEqDiff, reduceIte, Nat.reduceAdd, hc]); rfl) rfl ?_ | rfl)) ?_); try simp only [nrm, Nat.reduceEqDiff, reduceIte, Nat.reduceAdd, hc])
      | (refine WpO.guard rfl (fun _ => ?_) (fun h => absurd rfl h))
      | (refine WpO.guard rfl (fun h => absurd h (by decide)) (fun _ => ?_); try simp only [nrm, Nat.reduceEqDiff, reduceIte, Nat.reduceAdd, hc])
      | refine WpO.nil ?_
      | refine Wp.seq ?_
      | refine Wp.region ?_
      | refine Wp.dquiet rfl rfl ?_
      | refine Wp.cond (b := true) rfl ?_
      | refine Wp.cond (b := false) rfl ?_
      | refine Wp.skip ?_
      | refine Wp.ret ?_
      | refine Wp.block ?_
      | refine Wp.exit ?_
      | dsimp only [cond_true, cond_false])
    refine ⟨trivial, _, (by first | rfl | exact getAllC rfl rfl rfl rfl | exact getAllT rfl (getAllC rfl rfl rfl rfl) | exact getAllC rfl rfl rfl (getAllC rfl rfl rfl rfl) | exact getAllC1 rfl rfl rfl), ?_⟩
    exact (show NewInts H H2 q (lv l) from ⟨inferInstance, hf.weak, inferInstance, Ext0.ext⟩)
  · have hil : i < l.length := by have := of_decide_eq_true hc; omega
    have hfl := lv_length (l.take i)
    have hlt : l[i].toNat < 256 := l[i].toNat_lt
    have hw1 := wa1 (a := i) (by omega)
    have hb := lv_bound (l.take i) l[i].toNat
    have hgd : (lv (l.take i)).getD l[i].toNat 0 = (lv (l.take i))[l[i].toNat] := by simp [hfl, hlt]
    rw [hgd, List.length_take, Nat.min_eq_left hi] at hb
    have hw2 : IntKind.i64.wrap ((lv (l.take i))[l[i].toNat] + 1) = (lv (l.take i))[l[i].toNat] + 1 := w64 (by omega)
    repeat (first
      | (refine WpO.do (WpX.ld rfl rfl ?_); try simp only [nrm, Nat.reduceEqDiff, reduceIte, Nat.reduceAdd, hc, hw2])
      | (refine WpO.do (WpX.ldN rfl rfl rfl ?_); try simp only [nrm, Nat.reduceEqDiff, reduceIte, Nat.reduceAdd, hc, hw2])
      | (refine WpO.do (WpX.lenP (by (try simp only [nrm, Nat.reduceEqDiff, reduceIte, Nat.reduceAdd, hc, hw2]); rfl) ?_); try simp only [nrm, Nat.reduceEqDiff, reduceIte, Nat.reduceAdd, hc, hw2])
      | (refine WpO.now rfl rfl ?_; try simp only [nrm, Nat.reduceEqDiff, reduceIte, Nat.reduceAdd, hc, hw2])
      | (refine WpO.do' (WpX.st rfl (by (try simp only [nrm, Nat.reduceEqDiff, reduceIte, Nat.reduceAdd, hc, hw2]); rfl) rfl rfl rfl (by repeat (first | rfl | refine allOne_cons ?_)) rfl ?_); try simp only [nrm, Nat.reduceEqDiff, reduceIte, Nat.reduceAdd, hc, hw2])
      | (refine WpO.do (WpX.pcall hn rfl (by simp only [nrm, Nat.reduceEqDiff, reduceIte, Nat.reduceAdd, hc, hw2, List.map]; rfl) rfl fun _ _ => ?_); try simp only [nrm, Nat.reduceEqDiff, reduceIte, Nat.reduceAdd, hc, hw2])
      | (refine WpO.do (WpX.idxP (by (try simp only [nrm, Nat.reduceEqDiff, reduceIte, Nat.reduceAdd, hc, hw2]); rfl) rfl ?_ ?_); (focus omega); try simp only [nrm, Nat.reduceEqDiff, reduceIte, Nat.reduceAdd, hc, hw2])
      | (refine WpO.do (WpX.ldB rfl ?_ ?_); (focus omega); try simp only [nrm, Nat.reduceEqDiff, reduceIte, Nat.reduceAdd, hc, hw2])
      | (refine WpO.do (WpX.ldI rfl ?_ ?_); (focus omega); try simp only [nrm, Nat.reduceEqDiff, reduceIte, Nat.reduceAdd, hc, hw2])
      | (refine WpO.do (WpX.build (by repeat (first | refine aFill1 (by (try simp only [nrm, Nat.reduceEqDiff, reduceIte, Nat.reduceAdd, hc, hw2]); rfl) rfl ?_ | rfl)) ?_); try simp only [nrm, Nat.reduceEqDiff, reduceIte, Nat.reduceAdd, hc, hw2])
      | (refine WpO.guard rfl (fun _ => ?_) (fun h => absurd rfl h))
      | (refine WpO.guard rfl (fun h => absurd h (by decide)) (fun _ => ?_); try simp only [nrm, Nat.reduceEqDiff, reduceIte, Nat.reduceAdd, hc, hw2])
      | refine WpO.nil ?_
      | refine Wp.seq ?_
      | refine Wp.region ?_
      | refine Wp.dquiet rfl rfl ?_
      | refine Wp.cond (b := true) rfl ?_
      | refine Wp.cond (b := false) rfl ?_
      | refine Wp.skip ?_
      | refine Wp.ret ?_
      | refine Wp.block ?_
      | refine Wp.exit ?_
      | dsimp only [cond_true, cond_false])
    refine WpO.do' (WpX.stI rfl rfl (by omega) fun H4 hb4 hw4 hx4 => ?_)
    repeat (first
      | (refine WpO.do (WpX.ld rfl rfl ?_); try simp only [nrm, Nat.reduceEqDiff, reduceIte, Nat.reduceAdd, hc])
      | (refine WpO.do (WpX.ldN rfl rfl rfl ?_); try simp only [nrm, Nat.reduceEqDiff, reduceIte, Nat.reduceAdd, hc])
      | (refine WpO.do (WpX.lenP (by (try simp only [nrm, Nat.reduceEqDiff, reduceIte, Nat.reduceAdd, hc]); rfl) ?_); try simp only [nrm, Nat.reduceEqDiff, reduceIte, Nat.reduceAdd, hc])
      | (refine WpO.now rfl rfl ?_; try simp only [nrm, Nat.reduceEqDiff, reduceIte, Nat.reduceAdd, hc])
      | (refine WpO.do' (WpX.st rfl (by (try simp only [nrm, Nat.reduceEqDiff, reduceIte, Nat.reduceAdd, hc]); rfl) rfl rfl rfl (by repeat (first | rfl | refine allOne_cons ?_)) rfl ?_); try simp only [nrm, Nat.reduceEqDiff, reduceIte, Nat.reduceAdd, hc])
      | (refine WpO.do (WpX.pcall hn rfl (by simp only [nrm, Nat.reduceEqDiff, reduceIte, Nat.reduceAdd, hc, List.map]; rfl) rfl fun _ _ => ?_); try simp only [nrm, Nat.reduceEqDiff, reduceIte, Nat.reduceAdd, hc])
      | (refine WpO.do (WpX.idxP (by (try simp only [nrm, Nat.reduceEqDiff, reduceIte, Nat.reduceAdd, hc]); rfl) rfl ?_ ?_); (focus omega); try simp only [nrm, Nat.reduceEqDiff, reduceIte, Nat.reduceAdd, hc])
      | (refine WpO.do (WpX.ldB rfl ?_ ?_); (focus omega); try simp only [nrm, Nat.reduceEqDiff, reduceIte, Nat.reduceAdd, hc])
      | (refine WpO.do (WpX.ldI rfl ?_ ?_); (focus omega); try simp only [nrm, Nat.reduceEqDiff, reduceIte, Nat.reduceAdd, hc])
      | (refine WpO.do (WpX.build (by repeat (first | refine aFill1 (by (try simp only [nrm, Nat.reduceEqDiff, reduceIte, Nat.reduceAdd, hc]); rfl) rfl ?_ | rfl)) ?_); try simp only [nrm, Nat.reduceEqDiff, reduceIte, Nat.reduceAdd, hc])
      | (refine WpO.guard rfl (fun _ => ?_) (fun h => absurd rfl h))
      | (refine WpO.guard rfl (fun h => absurd h (by decide)) (fun _ => ?_); try simp only [nrm, Nat.reduceEqDiff, reduceIte, Nat.reduceAdd, hc])
      | refine WpO.nil ?_
      | refine Wp.seq ?_
      | refine Wp.region ?_
      | refine Wp.dquiet rfl rfl ?_
      | refine Wp.cond (b := true) rfl ?_
      | refine Wp.cond (b := false) rfl ?_
      | refine Wp.skip ?_
      | refine Wp.ret ?_
      | refine Wp.block ?_
      | refine Wp.exit ?_
      | dsimp only [cond_true, cond_false])
    refine ⟨i + 1, by omega, ⟨by simp only [nrm, Nat.reduceEqDiff, reduceIte, Nat.reduceAdd]; rw [hw1], trivial⟩, hil, ?_, inferInstance, inferInstance⟩
    rw [lv_take_succ hil]
    simp only [lvStep, hgd]
    exact hb4

theorem eq_of_gets {α : Type} {l m : List α} (hl : l.length = m.length) (h : ∀ j, j < l.length → l[j]? = m[j]?) : l = m := by
  apply List.ext_getElem?
  intro i
  by_cases hi : i < l.length
  · exact h i hi
  · rw [List.getElem?_eq_none (by omega), List.getElem?_eq_none (by omega)]

/-- Short enough for the loops. -/
class Short {α : Type} (l : List α) : Prop where
  le : l.length ≤ 999999

instance K_EqualInts {p q : AVal} {H : AHeap} {l m : List Int} [hp : IntsI H p l] [hq : IntsI H q m] [hs : Short l] : PureCon ext prog 38 [p, q] H 1 (.bool (decide (l = m))) := ⟨by
  refine con_of (show prog 38 = some c38 from rfl) rfl rfl fun n hn => ?_
  have hsl := hs.le
  by_cases hlm : l.length = m.length
  · have h1 : (((l.length : Nat) : Int) != ((m.length : Nat) : Int)) = false := by simp [hlm]
    repeat (first
      | (refine WpO.do (WpX.ld rfl rfl ?_); try simp only [nrm, Nat.reduceEqDiff, reduceIte, Nat.reduceAdd, h1])
      | (refine WpO.do (WpX.ldN rfl rfl rfl ?_); try simp only [nrm, Nat.reduceEqDiff, reduceIte, Nat.reduceAdd, h1])
      | (refine WpO.do (WpX.lenP (by (try simp only [nrm, Nat.reduceEqDiff, reduceIte, Nat.reduceAdd, h1]); rfl) ?_); try simp only [nrm, Nat.reduceEqDiff, reduceIte, Nat.reduceAdd, h1])
      | (refine WpO.now rfl rfl ?_; try simp only [nrm, Nat.reduceEqDiff, reduceIte, Nat.reduceAdd, h1])
      | (refine WpO.do' (WpX.st rfl (by (try simp only [nrm, Nat.reduceEqDiff, reduceIte, Nat.reduceAdd, h1]); rfl) rfl rfl rfl (by repeat (first | rfl | refine allOne_cons ?_)) rfl ?_); try simp only [nrm, Nat.reduceEqDiff, reduceIte, Nat.reduceAdd, h1])
      | (refine WpO.do (WpX.pcall hn rfl (by simp only [nrm, Nat.reduceEqDiff, reduceIte, Nat.reduceAdd, h1, List.map]; rfl) rfl fun _ _ => ?_); try simp only [nrm, Nat.reduceEqDiff, reduceIte, Nat.reduceAdd, h1])
      | (refine WpO.do (WpX.idxP (by (try simp only [nrm, Nat.reduceEqDiff, reduceIte, Nat.reduceAdd, h1]); rfl) rfl ?_ ?_); (focus omega); try simp only [nrm, Nat.reduceEqDiff, reduceIte, Nat.reduceAdd, h1])
      | (refine WpO.do (WpX.ldB rfl ?_ ?_); (focus omega); try simp only [nrm, Nat.reduceEqDiff, reduceIte, Nat.reduceAdd, h1])
      | (refine WpO.do (WpX.ldI rfl ?_ ?_); (focus omega); try simp only [nrm, Nat.reduceEqDiff, reduceIte, Nat.reduceAdd, h1])
      | (refine WpO.do (WpX.build (by repeat (first | refine aFill1 (by (try simp only [nrm, Nat.reduceEqDiff, reduceIte, Nat.reduceAdd, h1]); rfl) rfl ?_ | rfl)) ?_); try simp only [nrm, Nat.reduceEqDiff, reduceIte, Nat.reduceAdd, h1])
      | (refine WpO.guard rfl (fun _ => ?_) (fun h => absurd rfl h))
      | (refine WpO.guard rfl (fun h => absurd h (by decide)) (fun _ => ?_); try simp only [nrm, Nat.reduceEqDiff, reduceIte, Nat.reduceAdd, h1])
      | refine WpO.nil ?_
      | refine Wp.seq ?_
      | refine Wp.region ?_
      | refine Wp.dquiet rfl rfl ?_
      | refine Wp.cond (b := true) rfl ?_
      | refine Wp.cond (b := false) rfl ?_
      | refine Wp.skip ?_
      | refine Wp.ret ?_
      | refine Wp.block ?_
      | refine Wp.exit ?_
      | dsimp only [cond_true, cond_false])
    refine Wp.loopS [4, 5, 13, 14, 15, 16, 17, 18, 19, 20, 21, 22, 23, 24, 25] (fun i : Nat => [(13, .int .i64 i)]) (fun H3 i H2 => i ≤ l.length ∧ (∀ j, j < i → l[j]? = m[j]?) ∧ H2 = H3) (fun i => l.length - i) 0 rfl (fun _ => rfl) ⟨rfl, trivial⟩ ⟨Nat.zero_le _, fun j hj => by omega, rfl⟩ (by unfold fuel0 at hn; omega) ?_
    rintro i g H2 ⟨hi, heq, rfl⟩
    simp only [nrm, Nat.reduceEqDiff, reduceIte, Nat.reduceAdd]
    cases hc : decide ((i : Int) < (l.length : Int))
    · have hil : i = l.length := by have := of_decide_eq_false hc; omega
      subst hil
      have hd : decide (l = m) = true := decide_eq_true (eq_of_gets hlm heq)
      rw [hd]
      repeat (first
        | (refine WpO.do (WpX.ld rfl rfl ?_); try simp only [nrm, Nat.reduceEqDiff, reduceIte, Nat.reduceAdd, hc])
        | (refine WpO.do (WpX.ldN rfl rfl rfl ?_); try simp only [nrm, Nat.reduceEqDiff, reduceIte, Nat.reduceAdd, hc])
        | (refine WpO.do (WpX.lenP (by (try simp only [nrm, Nat.reduceEqDiff, reduceIte, Nat.reduceAdd, hc]); rfl) ?_); try simp only [nrm, Nat.reduceEqDiff, reduceIte, Nat.reduceAdd, hc])
        | (refine WpO.now rfl rfl ?_; try simp only [nrm, Nat.reduceEqDiff, reduceIte, Nat.reduceAdd, hc])
        | (refine WpO.do' (WpX.st rfl (by (try simp only [nrm, Nat.reduceEqDiff, reduceIte, Nat.reduceAdd, hc]); rfl) rfl rfl rfl (by repeat (first | rfl | refine allOne_cons ?_)) rfl ?_); try simp only [nrm, Nat.reduceEqDiff, reduceIte, Nat.reduceAdd, hc])
        | (refine WpO.do (WpX.pcall hn rfl (by simp only [nrm, Nat.reduceEqDiff, reduceIte, Nat.reduceAdd, hc, List.map]; rfl) rfl fun _ _ => ?_); try simp only [nrm, Nat.reduceEqDiff, reduceIte, Nat.reduceAdd, hc])
        | (refine WpO.do (WpX.idxP (by (try simp only [nrm, Nat.reduceEqDiff, reduceIte, Nat.reduceAdd, hc]); rfl) rfl ?_ ?_); (focus omega); try simp only [nrm, Nat.reduceEqDiff, reduceIte, Nat.reduceAdd, hc])
        | (refine WpO.do (WpX.ldB rfl ?_ ?_); (focus omega); try simp only [nrm, Nat.reduceEqDiff, reduceIte, Nat.reduceAdd, hc])
        | (refine WpO.do (WpX.ldI rfl ?_ ?_); (focus omega); try simp only [nrm, Nat.reduceEqDiff, reduceIte, Nat.reduceAdd, hc])
        | (refine WpO.do (WpX.build (by repeat (first | refine aFill1 (by (try simp only [nrm, Nat.reduceEqDiff, reduceIte, Nat.reduceAdd, hc]); rfl) rfl ?_ | rfl)) ?_); try simp only [nrm, Nat.reduceEqDiff, reduceIte, Nat.reduceAdd, hc])
        | (refine WpO.guard rfl (fun _ => ?_) (fun h => absurd rfl h))
        | (refine WpO.guard rfl (fun h => absurd h (by decide)) (fun _ => ?_); try simp only [nrm, Nat.reduceEqDiff, reduceIte, Nat.reduceAdd, hc])
        | refine WpO.nil ?_
        | refine Wp.seq ?_
        | refine Wp.region ?_
        | refine Wp.dquiet rfl rfl ?_
        | refine Wp.cond (b := true) rfl ?_
        | refine Wp.cond (b := false) rfl ?_
        | refine Wp.skip ?_
        | refine Wp.ret ?_
        | refine Wp.block ?_
        | refine Wp.exit ?_
        | dsimp only [cond_true, cond_false])
      refine ⟨trivial, _, (by first | rfl | exact getAllC rfl rfl rfl rfl | exact getAllT rfl (getAllC rfl rfl rfl rfl) | exact getAllC rfl rfl rfl (getAllC rfl rfl rfl rfl) | exact getAllC1 rfl rfl rfl), ?_⟩
      exact ⟨rfl, Ext0.ext⟩
    · have hil : i < l.length := by have := of_decide_eq_true hc; omega
      have him : i < m.length := by omega
      have hw1 := wa1 (a := i) (by omega)
      cases hne : (l[i] != m[i])
      · skip
        repeat (first
          | (refine WpO.do (WpX.ld rfl rfl ?_); try simp only [nrm, Nat.reduceEqDiff, reduceIte, Nat.reduceAdd, hc, hne])
          | (refine WpO.do (WpX.ldN rfl rfl rfl ?_); try simp only [nrm, Nat.reduceEqDiff, reduceIte, Nat.reduceAdd, hc, hne])
          | (refine WpO.do (WpX.lenP (by (try simp only [nrm, Nat.reduceEqDiff, reduceIte, Nat.reduceAdd, hc, hne]); rfl) ?_); try simp only [nrm, Nat.reduceEqDiff, reduceIte, Nat.reduceAdd, hc, hne])
          | (refine WpO.now rfl rfl ?_; try simp only [nrm, Nat.reduceEqDiff, reduceIte, Nat.reduceAdd, hc, hne])
          | (refine WpO.do' (WpX.st rfl (by (try simp only [nrm, Nat.reduceEqDiff, reduceIte, Nat.reduceAdd, hc, hne]); rfl) rfl rfl rfl (by repeat (first | rfl | refine allOne_cons ?_)) rfl ?_); try simp only [nrm, Nat.reduceEqDiff, reduceIte, Nat.reduceAdd, hc, hne])
          | (refine WpO.do (WpX.pcall hn rfl (by simp only [nrm, Nat.reduceEqDiff, reduceIte, Nat.reduceAdd, hc, hne, List.map]; rfl) rfl fun _ _ => ?_); try simp only [nrm, Nat.reduceEqDiff, reduceIte, Nat.reduceAdd, hc, hne])
          | (refine WpO.do (WpX.idxP (by (try simp only [nrm, Nat.reduceEqDiff, reduceIte, Nat.reduceAdd, hc, hne]); rfl) rfl ?_ ?_); (focus omega); try simp only [nrm, Nat.reduceEqDiff, reduceIte, Nat.reduceAdd, hc, hne])
          | (refine WpO.do (WpX.ldB rfl ?_ ?_); (focus omega); try simp only [nrm, Nat.reduceEqDiff, reduceIte, Nat.reduceAdd, hc, hne])
          | (refine WpO.do (WpX.ldI rfl ?_ ?_); (focus omega); try simp only [nrm, Nat.reduceEqDiff, reduceIte, Nat.reduceAdd, hc, hne])
          | (refine WpO.do (WpX.build (by repeat (first | refine aFill1 (by (try simp only [nrm, Nat.reduceEqDiff, reduceIte, Nat.reduceAdd, hc, hne]); rfl) rfl ?_ | rfl)) ?_); try simp only [nrm, Nat.reduceEqDiff, reduceIte, Nat.reduceAdd, hc, hne])
          | (refine WpO.guard rfl (fun _ => ?_) (fun h => absurd rfl h))
          | (refine WpO.guard rfl (fun h => absurd h (by decide)) (fun _ => ?_); try simp only [nrm, Nat.reduceEqDiff, reduceIte, Nat.reduceAdd, hc, hne])
          | refine WpO.nil ?_
          | refine Wp.seq ?_
          | refine Wp.region ?_
          | refine Wp.dquiet rfl rfl ?_
          | refine Wp.cond (b := true) rfl ?_
          | refine Wp.cond (b := false) rfl ?_
          | refine Wp.skip ?_
          | refine Wp.ret ?_
          | refine Wp.block ?_
          | refine Wp.exit ?_
          | dsimp only [cond_true, cond_false])
        refine ⟨i + 1, by omega, ⟨by simp only [nrm, Nat.reduceEqDiff, reduceIte, Nat.reduceAdd]; rw [hw1], trivial⟩, hil, fun j hj => ?_, rfl⟩
        by_cases hj2 : j < i
        · exact heq j hj2
        · have : j = i := by omega
          subst this
          have : l[j] = m[j] := by simpa using hne
          simp [hil, him, this]
      · have hd : decide (l = m) = false := decide_eq_false (fun e => by subst e; simp at hne)
        rw [hd]
        repeat (first
          | (refine WpO.do (WpX.ld rfl rfl ?_); try simp only [nrm, Nat.reduceEqDiff, reduceIte, Nat.reduceAdd, hc, hne])
          | (refine WpO.do (WpX.ldN rfl rfl rfl ?_); try simp only [nrm, Nat.reduceEqDiff, reduceIte, Nat.reduceAdd, hc, hne])
          | (refine WpO.do (WpX.lenP (by (try simp only [nrm, Nat.reduceEqDiff, reduceIte, Nat.reduceAdd, hc, hne]); rfl) ?_); try simp only [nrm, Nat.reduceEqDiff, reduceIte, Nat.reduceAdd, hc, hne])
          | (refine WpO.now rfl rfl ?_; try simp only [nrm, Nat.reduceEqDiff, reduceIte, Nat.reduceAdd, hc, hne])
          | (refine WpO.do' (WpX.st rfl (by (try simp only [nrm, Nat.reduceEqDiff, reduceIte, Nat.reduceAdd, hc, hne]); rfl) rfl rfl rfl (by repeat (first | rfl | refine allOne_cons ?_)) rfl ?_); try simp only [nrm, Nat.reduceEqDiff, reduceIte, Nat.reduceAdd, hc, hne])
          | (refine WpO.do (WpX.pcall hn rfl (by simp only [nrm, Nat.reduceEqDiff, reduceIte, Nat.reduceAdd, hc, hne, List.map]; rfl) rfl fun _ _ => ?_); try simp only [nrm, Nat.reduceEqDiff, reduceIte, Nat.reduceAdd, hc, hne])
          | (refine WpO.do (WpX.idxP (by (try simp only [nrm, Nat.reduceEqDiff, reduceIte, Nat.reduceAdd, hc, hne]); rfl) rfl ?_ ?_); (focus omega); try simp only [nrm, Nat.reduceEqDiff, reduceIte, Nat.reduceAdd, hc, hne])
          | (refine WpO.do (WpX.ldB rfl ?_ ?_); (focus omega); try simp only [nrm, Nat.reduceEqDiff, reduceIte, Nat.reduceAdd, hc, hne])
          | (refine WpO.do (WpX.ldI rfl ?_ ?_); (focus omega); try simp only [nrm, Nat.reduceEqDiff, reduceIte, Nat.reduceAdd, hc, hne])
          | (refine WpO.do (WpX.build (by repeat (first | refine aFill1 (by (try simp only [nrm, Nat.reduceEqDiff, reduceIte, Nat.reduceAdd, hc, hne]); rfl) rfl ?_ | rfl)) ?_); try simp only [nrm, Nat.reduceEqDiff, reduceIte, Nat.reduceAdd, hc, hne])
          | (refine WpO.guard rfl (fun _ => ?_) (fun h => absurd rfl h))
          | (refine WpO.guard rfl (fun h => absurd h (by decide)) (fun _ => ?_); try simp only [nrm, Nat.reduceEqDiff, reduceIte, Nat.reduceAdd, hc, hne])
          | refine WpO.nil ?_
          | refine Wp.seq ?_
          | refine Wp.region ?_
          | refine Wp.dquiet rfl rfl ?_
          | refine Wp.cond (b := true) rfl ?_
          | refine Wp.cond (b := false) rfl ?_
          | refine Wp.skip ?_
          | refine Wp.ret ?_
          | refine Wp.block ?_
          | refine Wp.exit ?_
          | dsimp only [cond_true, cond_false])
        refine ⟨trivial, _, (by first | rfl | exact getAllC rfl rfl rfl rfl | exact getAllT rfl (getAllC rfl rfl rfl rfl) | exact getAllC rfl rfl rfl (getAllC rfl rfl rfl rfl) | exact getAllC1 rfl rfl rfl), ?_⟩
        exact ⟨rfl, Ext0.ext⟩
  · have h1 : (((l.length : Nat) : Int) != ((m.length : Nat) : Int)) = true := by simp; omega
    have hd : decide (l = m) = false := decide_eq_false (fun e => by subst e; exact hlm rfl)
    rw [hd]
    repeat (first
      | (refine WpO.do (WpX.ld rfl rfl ?_); try simp only [nrm, Nat.reduceEqDiff, reduceIte, Nat.reduceAdd, h1])
      | (refine WpO.do (WpX.ldN rfl rfl rfl ?_); try simp only [nrm, Nat.reduceEqDiff, reduceIte, Nat.reduceAdd, h1])
      | (refine WpO.do (WpX.lenP (by (try simp only [nrm, Nat.reduceEqDiff, reduceIte, Nat.reduceAdd, h1]); rfl) ?_); try simp only [nrm, Nat.reduceEqDiff, reduceIte, Nat.reduceAdd, h1])
      | (refine WpO.now rfl rfl ?_; try simp only [nrm, Nat.reduceEqDiff, reduceIte, Nat.reduceAdd, h1])
      | (refine WpO.do' (WpX.st rfl (by (try simp only [nrm, Nat.reduceEqDiff, reduceIte, Nat.reduceAdd, h1]); rfl) rfl rfl rfl (by repeat (first | rfl | refine allOne_cons ?_)) rfl ?_); try simp only [nrm, Nat.reduceEqDiff, reduceIte, Nat.reduceAdd, h1])
      | (refine WpO.do (WpX.pcall hn rfl (by simp only [nrm, Nat.reduceEqDiff, reduceIte, Nat.reduceAdd, h1, List.map]; rfl) rfl fun _ _ => ?_); try simp only [nrm, Nat.reduceEqDiff, reduceIte, Nat.reduceAdd, h1])
      | (refine WpO.do (WpX.idxP (by (try simp only [nrm, Nat.reduceEqDiff, reduceIte, Nat.reduceAdd, h1]); rfl) rfl ?_ ?_); (focus omega); try simp only [nrm, Nat.reduceEqDiff, reduceIte, Nat.reduceAdd, h1])
      | (refine WpO.do (WpX.ldB rfl ?_ ?_); (focus omega); try simp only [nrm, Nat.reduceEqDiff, reduceIte, Nat.reduceAdd, h1])
      | (refine WpO.do (WpX.ldI rfl ?_ ?_); (focus omega); try simp only [nrm, Nat.reduceEqDiff, reduceIte, Nat.reduceAdd, h1])
      | (refine WpO.do (WpX.build (by repeat (first | refine aFill1 (by (try simp only [nrm, Nat.reduceEqDiff, reduceIte, Nat.reduceAdd, h1]); rfl) rfl ?_ | rfl)) ?_); try simp only [nrm, Nat.reduceEqDiff, reduceIte, Nat.reduceAdd, h1])
      | (refine WpO.guard rfl (fun _ => ?_) (fun h => absurd rfl h))
      | (refine WpO.guard rfl (fun h => absurd h (by decide)) (fun _ => ?_); try simp only [nrm, Nat.reduceEqDiff, reduceIte, Nat.reduceAdd, h1])
      | refine WpO.nil ?_
      | refine Wp.seq ?_
      | refine Wp.region ?_
      | refine Wp.dquiet rfl rfl ?_
      | refine Wp.cond (b := true) rfl ?_
      | refine Wp.cond (b := false) rfl ?_
      | refine Wp.skip ?_
      | refine Wp.ret ?_
      | refine Wp.block ?_
      | refine Wp.exit ?_
      | dsimp only [cond_true, cond_false])
    refine ⟨trivial, _, (by first | rfl | exact getAllC rfl rfl rfl rfl | exact getAllT rfl (getAllC rfl rfl rfl rfl) | exact getAllC rfl rfl rfl (getAllC rfl rfl rfl rfl) | exact getAllC1 rfl rfl rfl), ?_⟩
    exact ⟨rfl, Ext0.ext⟩⟩

instance K_SameBytes {p q : AVal} {H : AHeap} {l m : List UInt8} [hp : BytesI H p l] [hq : BytesI H q m] [hs : Short l] : PureCon ext prog 101 [p, q] H 1 (.bool (decide (l = m))) := ⟨by
  refine con_of (show prog 101 = some c101 from rfl) rfl rfl fun n hn => ?_
  have hsl := hs.le
  by_cases hlm : l.length = m.length
  · have h1 : (((l.length : Nat) : Int) != ((m.length : Nat) : Int)) = false := by simp [hlm]
    repeat (first
      | (refine WpO.do (WpX.ld rfl rfl ?_); try simp only [nrm, Nat.reduceEqDiff, reduceIte, Nat.reduceAdd, h1])
      | (refine WpO.do (WpX.ldN rfl rfl rfl ?_); try simp only [nrm, Nat.reduceEqDiff, reduceIte, Nat.reduceAdd, h1])
      | (refine WpO.do (WpX.lenP (by (try simp only [nrm, Nat.reduceEqDiff, reduceIte, Nat.reduceAdd, h1]); rfl) ?_); try simp only [nrm, Nat.reduceEqDiff, reduceIte, Nat.reduceAdd, h1])
      | (refine WpO.now rfl rfl ?_; try simp only [nrm, Nat.reduceEqDiff, reduceIte, Nat.reduceAdd, h1])
      | (refine WpO.do' (WpX.st rfl (by (try simp only [nrm, Nat.reduceEqDiff, reduceIte, Nat.reduceAdd, h1]); rfl) rfl rfl rfl (by repeat (first | rfl | refine allOne_cons ?_)) rfl ?_); try simp only [nrm, Nat.reduceEqDiff, reduceIte, Nat.reduceAdd, h1])
      | (refine WpO.do (WpX.pcall hn rfl (by simp only [nrm, Nat.reduceEqDiff, reduceIte, Nat.reduceAdd, h1, List.map]; rfl) rfl fun _ _ => ?_); try simp only [nrm, Nat.reduceEqDiff, reduceIte, Nat.reduceAdd, h1])
      | (refine WpO.do (WpX.idxP (by (try simp only [nrm, Nat.reduceEqDiff, reduceIte, Nat.reduceAdd, h1]); rfl) rfl ?_ ?_); (focus omega); try simp only [nrm, Nat.reduceEqDiff, reduceIte, Nat.reduceAdd, h1])
      | (refine WpO.do (WpX.ldB rfl ?_ ?_); (focus omega); try simp only [nrm, Nat.reduceEqDiff, reduceIte, Nat.reduceAdd, h1])
      | (refine WpO.do (WpX.ldI rfl ?_ ?_); (focus omega); try simp only [nrm, Nat.reduceEqDiff, reduceIte, Nat.reduceAdd, h1])
      | (refine WpO.do (WpX.build (by repeat (first | refine aFill1 (by (try simp only [nrm, Nat.reduceEqDiff, reduceIte, Nat.reduceAdd, h1]); rfl) rfl ?_ | rfl)) ?_); try simp only [nrm, Nat.reduceEqDiff, reduceIte, Nat.reduceAdd, h1])
      | (refine WpO.guard rfl (fun _ => ?_) (fun h => absurd rfl h))
      | (refine WpO.guard rfl (fun h => absurd h (by decide)) (fun _ => ?_); try simp only [nrm, Nat.reduceEqDiff, reduceIte, Nat.reduceAdd, h1])
      | refine WpO.nil ?_
      | refine Wp.seq ?_
      | refine Wp.region ?_
      | refine Wp.dquiet rfl rfl ?_
      | refine Wp.cond (b := true) rfl ?_
      | refine Wp.cond (b := false) rfl ?_
      | refine Wp.skip ?_
      | refine Wp.ret ?_
      | refine Wp.block ?_
      | refine Wp.exit ?_
      | dsimp only [cond_true, cond_false])
    refine Wp.loopS [4, 5, 11, 12, 13, 14, 15, 16, 17, 18, 19, 20, 21, 22, 23, 24, 25] (fun i : Nat => [(5, .int .i64 i)]) (fun H3 i H2 => i ≤ l.length ∧ (∀ j, j < i → l[j]? = m[j]?) ∧ H2 = H3) (fun i => l.length - i) 0 rfl (fun _ => rfl) ⟨rfl, trivial⟩ ⟨Nat.zero_le _, fun j hj => by omega, rfl⟩ (by unfold fuel0 at hn; omega) ?_
    rintro i g H2 ⟨hi, heq, rfl⟩
    simp only [nrm, Nat.reduceEqDiff, reduceIte, Nat.reduceAdd]
    cases hc : decide ((i : Int) < (l.length : Int))
    · have hil : i = l.length := by have := of_decide_eq_false hc; omega
      subst hil
      have hd : decide (l = m) = true := decide_eq_true (eq_of_gets hlm heq)
      rw [hd]
      repeat (first
        | (refine WpO.do (WpX.ld rfl rfl ?_); try simp only [nrm, Nat.reduceEqDiff, reduceIte, Nat.reduceAdd, hc])
        | (refine WpO.do (WpX.ldN rfl rfl rfl ?_); try simp only [nrm, Nat.reduceEqDiff, reduceIte, Nat.reduceAdd, hc])
        | (refine WpO.do (WpX.lenP (by (try simp only [nrm, Nat.reduceEqDiff, reduceIte, Nat.reduceAdd, hc]); rfl) ?_); try simp only [nrm, Nat.reduceEqDiff, reduceIte, Nat.reduceAdd, hc])
        | (refine WpO.now rfl rfl ?_; try simp only [nrm, Nat.reduceEqDiff, reduceIte, Nat.reduceAdd, hc])
        | (refine WpO.do' (WpX.st rfl (by (try simp only [nrm, Nat.reduceEqDiff, reduceIte, Nat.reduceAdd, hc]); rfl) rfl rfl rfl (by repeat (first | rfl | refine allOne_cons ?_)) rfl ?_); try simp only [nrm, Nat.reduceEqDiff, reduceIte, Nat.reduceAdd, hc])
        | (refine WpO.do (WpX.pcall hn rfl (by simp only [nrm, Nat.reduceEqDiff, reduceIte, Nat.reduceAdd, hc, List.map]; rfl) rfl fun _ _ => ?_); try simp only [nrm, Nat.reduceEqDiff, reduceIte, Nat.reduceAdd, hc])
        | (refine WpO.do (WpX.idxP (by (try simp only [nrm, Nat.reduceEqDiff, reduceIte, Nat.reduceAdd, hc]); rfl) rfl ?_ ?_); (focus omega); try simp only [nrm, Nat.reduceEqDiff, reduceIte, Nat.reduceAdd, hc])
        | (refine WpO.do (WpX.ldB rfl ?_ ?_); (focus omega); try simp only [nrm, Nat.reduceEqDiff, reduceIte, Nat.reduceAdd, hc])
        | (refine WpO.do (WpX.ldI rfl ?_ ?_); (focus omega); try simp only [nrm, Nat.reduceEqDiff, reduceIte, Nat.reduceAdd, hc])
        | (refine WpO.do (WpX.build (by repeat (first | refine aFill1 (by (try simp only [nrm, Nat.reduceEqDiff, reduceIte, Nat.reduceAdd, hc]); rfl) rfl ?_ | rfl)) ?_); try simp only [nrm, Nat.reduceEqDiff, reduceIte, Nat.reduceAdd, hc])
        | (refine WpO.guard rfl (fun _ => ?_) (fun h => absurd rfl h))
        | (refine WpO.guard rfl (fun h => absurd h (by decide)) (fun _ => ?_); try simp only [nrm, Nat.reduceEqDiff, reduceIte, Nat.reduceAdd, hc])
        | refine WpO.nil ?_
        | refine Wp.seq ?_
        | refine Wp.region ?_
        | refine Wp.dquiet rfl rfl ?_
        | refine Wp.cond (b := true) rfl ?_
        | refine Wp.cond (b := false) rfl ?_
        | refine Wp.skip ?_
        | refine Wp.ret ?_
        | refine Wp.block ?_
        | refine Wp.exit ?_
        | dsimp only [cond_true, cond_false])
      refine ⟨trivial, _, (by first | rfl | exact getAllC rfl rfl rfl rfl | exact getAllT rfl (getAllC rfl rfl rfl rfl) | exact getAllC rfl rfl rfl (getAllC rfl rfl rfl rfl) | exact getAllC1 rfl rfl rfl), ?_⟩
      exact ⟨rfl, Ext0.ext⟩
    · have hil : i < l.length := by have := of_decide_eq_true hc; omega
      have him : i < m.length := by omega
      have hw1 := wa1 (a := i) (by omega)
      cases hne : (((l[i].toNat : Nat) : Int) != ((m[i].toNat : Nat) : Int))
      · skip
        repeat (first
          | (refine WpO.do (WpX.ld rfl rfl ?_); try simp only [nrm, Nat.reduceEqDiff, reduceIte, Nat.reduceAdd, hc, hne])
          | (refine WpO.do (WpX.ldN rfl rfl rfl ?_); try simp only [nrm, Nat.reduceEqDiff, reduceIte, Nat.reduceAdd, hc, hne])
          | (refine WpO.do (WpX.lenP (by (try simp only [nrm, Nat.reduceEqDiff, reduceIte, Nat.reduceAdd, hc, hne]); rfl) ?_); try simp only [nrm, Nat.reduceEqDiff, reduceIte, Nat.reduceAdd, hc, hne])
          | (refine WpO.now rfl rfl ?_; try simp only [nrm, Nat.reduceEqDiff, reduceIte, Nat.reduceAdd, hc, hne])
          | (refine WpO.do' (WpX.st rfl (by (try simp only [nrm, Nat.reduceEqDiff, reduceIte, Nat.reduceAdd, hc, hne]); rfl) rfl rfl rfl (by repeat (first | rfl | refine allOne_cons ?_)) rfl ?_); try simp only [nrm, Nat.reduceEqDiff, reduceIte, Nat.reduceAdd, hc, hne])
          | (refine WpO.do (WpX.pcall hn rfl (by simp only [nrm, Nat.reduceEqDiff, reduceIte, Nat.reduceAdd, hc, hne, List.map]; rfl) rfl fun _ _ => ?_); try simp only [nrm, Nat.reduceEqDiff, reduceIte, Nat.reduceAdd, hc, hne])
          | (refine WpO.do (WpX.idxP (by (try simp only [nrm, Nat.reduceEqDiff, reduceIte, Nat.reduceAdd, hc, hne]); rfl) rfl ?_ ?_); (focus omega); try simp only [nrm, Nat.reduceEqDiff, reduceIte, Nat.reduceAdd, hc, hne])
          | (refine WpO.do (WpX.ldB rfl ?_ ?_); (focus omega); try simp only [nrm, Nat.reduceEqDiff, reduceIte, Nat.reduceAdd, hc, hne])
          | (refine WpO.do (WpX.ldI rfl ?_ ?_); (focus omega); try simp only [nrm, Nat.reduceEqDiff, reduceIte, Nat.reduceAdd, hc, hne])
          | (refine WpO.do (WpX.build (by repeat (first | refine aFill1 (by (try simp only [nrm, Nat.reduceEqDiff, reduceIte, Nat.reduceAdd, hc, hne]); rfl) rfl ?_ | rfl)) ?_); try simp only [nrm, Nat.reduceEqDiff, reduceIte, Nat.reduceAdd, hc, hne])
          | (refine WpO.guard rfl (fun _ => ?_) (fun h => absurd rfl h))
          | (refine WpO.guard rfl (fun h => absurd h (by decide)) (fun _ => ?_); try simp only [nrm, Nat.reduceEqDiff, reduceIte, Nat.reduceAdd, hc, hne])
          | refine WpO.nil ?_
          | refine Wp.seq ?_
          | refine Wp.region ?_
          | refine Wp.dquiet rfl rfl ?_
          | refine Wp.cond (b := true) rfl ?_
          | refine Wp.cond (b := false) rfl ?_
          | refine Wp.skip ?_
          | refine Wp.ret ?_
          | refine Wp.block ?_
          | refine Wp.exit ?_
          | dsimp only [cond_true, cond_false])
        refine ⟨i + 1, by omega, ⟨by simp only [nrm, Nat.reduceEqDiff, reduceIte, Nat.reduceAdd]; rw [hw1], trivial⟩, hil, fun j hj => ?_, rfl⟩
        by_cases hj2 : j < i
        · exact heq j hj2
        · have : j = i := by omega
          subst this
          have h2 : l[j].toNat = m[j].toNat := by simp at hne; omega
          have : l[j] = m[j] := UInt8.toNat_inj.1 h2
          simp [hil, him, this]
      · have hd : decide (l = m) = false := decide_eq_false (fun e => by subst e; simp at hne)
        rw [hd]
        repeat (first
          | (refine WpO.do (WpX.ld rfl rfl ?_); try simp only [nrm, Nat.reduceEqDiff, reduceIte, Nat.reduceAdd, hc, hne])
          | (refine WpO.do (WpX.ldN rfl rfl rfl ?_); try simp only [nrm, Nat.reduceEqDiff, reduceIte, Nat.reduceAdd, hc, hne])
          | (refine WpO.do (WpX.lenP (by (try simp only [nrm, Nat.reduceEqDiff, reduceIte, Nat.reduceAdd, hc, hne]); rfl) ?_); try simp only [nrm, Nat.reduceEqDiff, reduceIte, Nat.reduceAdd, hc, hne])
          | (refine WpO.now rfl rfl ?_; try simp only [nrm, Nat.reduceEqDiff, reduceIte, Nat.reduceAdd, hc, hne])
          | (refine WpO.do' (WpX.st rfl (by (try simp only [nrm, Nat.reduceEqDiff, reduceIte, Nat.reduceAdd, hc, hne]); rfl) rfl rfl rfl (by repeat (first | rfl | refine allOne_cons ?_)) rfl ?_); try simp only [nrm, Nat.reduceEqDiff, reduceIte, Nat.reduceAdd, hc, hne])
          | (refine WpO.do (WpX.pcall hn rfl (by simp only [nrm, Nat.reduceEqDiff, reduceIte, Nat.reduceAdd, hc, hne, List.map]; rfl) rfl fun _ _ => ?_); try simp only [nrm, Nat.reduceEqDiff, reduceIte, Nat.reduceAdd, hc, hne])
          | (refine WpO.do (WpX.idxP (by (try simp only [nrm, Nat.reduceEqDiff, reduceIte, Nat.reduceAdd, hc, hne]); rfl) rfl ?_ ?_); (focus omega); try simp only [nrm, Nat.reduceEqDiff, reduceIte, Nat.reduceAdd, hc, hne])
          | (refine WpO.do (WpX.ldB rfl ?_ ?_); (focus omega); try simp only [nrm, Nat.reduceEqDiff, reduceIte, Nat.reduceAdd, hc, hne])
          | (refine WpO.do (WpX.ldI rfl ?_ ?_); (focus omega); try simp only [nrm, Nat.reduceEqDiff, reduceIte, Nat.reduceAdd, hc, hne])
          | (refine WpO.do (WpX.build (by repeat (first | refine aFill1 (by (try simp only [nrm, Nat.reduceEqDiff, reduceIte, Nat.reduceAdd, hc, hne]); rfl) rfl ?_ | rfl)) ?_); try simp only [nrm, Nat.reduceEqDiff, reduceIte, Nat.reduceAdd, hc, hne])
          | (refine WpO.guard rfl (fun _ => ?_) (fun h => absurd rfl h))
          | (refine WpO.guard rfl (fun h => absurd h (by decide)) (fun _ => ?_); try simp only [nrm, Nat.reduceEqDiff, reduceIte, Nat.reduceAdd, hc, hne])
          | refine WpO.nil ?_
          | refine Wp.seq ?_
          | refine Wp.region ?_
          | refine Wp.dquiet rfl rfl ?_
          | refine Wp.cond (b := true) rfl ?_
          | refine Wp.cond (b := false) rfl ?_
          | refine Wp.skip ?_
          | refine Wp.ret ?_
          | refine Wp.block ?_
          | refine Wp.exit ?_
          | dsimp only [cond_true, cond_false])
        refine ⟨trivial, _, (by first | rfl | exact getAllC rfl rfl rfl rfl | exact getAllT rfl (getAllC rfl rfl rfl rfl) | exact getAllC rfl rfl rfl (getAllC rfl rfl rfl rfl) | exact getAllC1 rfl rfl rfl), ?_⟩
        exact ⟨rfl, Ext0.ext⟩
  · have h1 : (((l.length : Nat) : Int) != ((m.length : Nat) : Int)) = true := by simp; omega
    have hd : decide (l = m) = false := decide_eq_false (fun e => by subst e; exact hlm rfl)
    rw [hd]
    repeat (first
      | (refine WpO.do (WpX.ld rfl rfl ?_); try simp only [nrm, Nat.reduceEqDiff, reduceIte, Nat.reduceAdd, h1])
      | (refine WpO.do (WpX.ldN rfl rfl rfl ?_); try simp only [nrm, Nat.reduceEqDiff, reduceIte, Nat.reduceAdd, h1])
      | (refine WpO.do (WpX.lenP (by (try simp only [nrm, Nat.reduceEqDiff, reduceIte, Nat.reduceAdd, h1]); rfl) ?_); try simp only [nrm, Nat.reduceEqDiff, reduceIte, Nat.reduceAdd, h1])
      | (refine WpO.now rfl rfl ?_; try simp only [nrm, Nat.reduceEqDiff, reduceIte, Nat.reduceAdd, h1])
      | (refine WpO.do' (WpX.st rfl (by (try simp only [nrm, Nat.reduceEqDiff, reduceIte, Nat.reduceAdd, h1]); rfl) rfl rfl rfl (by repeat (first | rfl | refine allOne_cons ?_)) rfl ?_); try simp only [nrm, Nat.reduceEqDiff, reduceIte, Nat.reduceAdd, h1])
      | (refine WpO.do (WpX.pcall hn rfl (by simp only [nrm, Nat.reduceEqDiff, reduceIte, Nat.reduceAdd, h1, List.map]; rfl) rfl fun _ _ => ?_); try simp only [nrm, Nat.reduceEqDiff, reduceIte, Nat.reduceAdd, h1])
      | (refine WpO.do (WpX.idxP (by (try simp only [nrm, Nat.reduceEqDiff, reduceIte, Nat.reduceAdd, h1]); rfl) rfl ?_ ?_); (focus omega); try simp only [nrm, Nat.reduceEqDiff, reduceIte, Nat.reduceAdd, h1])
      | (refine WpO.do (WpX.ldB rfl ?_ ?_); (focus omega); try simp only [nrm, Nat.reduceEqDiff, reduceIte, Nat.reduceAdd, h1])
      | (refine WpO.do (WpX.ldI rfl ?_ ?_); (focus omega); try simp only [nrm, Nat.reduceEqDiff, reduceIte, Nat.reduceAdd, h1])
      | (refine WpO.do (WpX.build (by repeat (first | refine aFill1 (by (try simp only [nrm, Nat.reduceEqDiff, reduceIte, Nat.reduceAdd, h1]); rfl) rfl ?_ | rfl)) ?_); try simp only [nrm, Nat.reduceEqDiff, reduceIte, Nat.reduceAdd, h1])
      | (refine WpO.guard rfl (fun _ => ?_) (fun h => absurd rfl h))
      | (refine WpO.guard rfl (fun h => absurd h (by decide)) (fun _ => ?_); try simp only [nrm, Nat.reduceEqDiff, reduceIte, Nat.reduceAdd, h1])
      | refine WpO.nil ?_
      | refine Wp.seq ?_
      | refine Wp.region ?_
      | refine Wp.dquiet rfl rfl ?_
      | refine Wp.cond (b := true) rfl ?_
      | refine Wp.cond (b := false) rfl ?_
      | refine Wp.skip ?_
      | refine Wp.ret ?_
      | refine Wp.block ?_
      | refine Wp.exit ?_
      | dsimp only [cond_true, cond_false])
    refine ⟨trivial, _, (by first | rfl | exact getAllC rfl rfl rfl rfl | exact getAllT rfl (getAllC rfl rfl rfl rfl) | exact getAllC rfl rfl rfl (getAllC rfl rfl rfl rfl) | exact getAllC1 rfl rfl rfl), ?_⟩
    exact ⟨rfl, Ext0.ext⟩⟩

/-- Two images are the same. -/
instance K_SameInk {p q : AVal} {H : AHeap} {w h w' h' : Int} {l m : List UInt8} [hp : BytesI H p l] [hq : BytesI H q m] [hs : Short l] : PureCon ext prog 28 [.agg [.int .i64 w, .int .i64 h, p], .agg [.int .i64 w', .int .i64 h', q]] H 2 (.bool (decide ((⟨w, h, l⟩ : Img) = ⟨w', h', m⟩))) := ⟨by
  refine con_of (show prog 28 = some c28 from rfl) rfl rfl fun n hn => ?_
  haveI := hp.one
  haveI := hq.one
  have e : decide ((⟨w, h, l⟩ : Img) = ⟨w', h', m⟩) = ((w == w') && (h == h') && decide (l = m)) := by
    by_cases h1 : w = w' <;> by_cases h2 : h = h' <;> by_cases h3 : l = m <;> simp [h1, h2, h3]
  rw [e]
  cases h1 : (w == w')
  · skip
    repeat (first
      | (refine WpO.do (WpX.ld rfl rfl ?_); try simp only [nrm, Nat.reduceEqDiff, reduceIte, Nat.reduceAdd, h1])
      | (refine WpO.do (WpX.ldN rfl rfl rfl ?_); try simp only [nrm, Nat.reduceEqDiff, reduceIte, Nat.reduceAdd, h1])
      | (refine WpO.do (WpX.lenP (by (try simp only [nrm, Nat.reduceEqDiff, reduceIte, Nat.reduceAdd, h1]); rfl) ?_); try simp only [nrm, Nat.reduceEqDiff, reduceIte, Nat.reduceAdd, h1])
      | (refine WpO.now rfl rfl ?_; try simp only [nrm, Nat.reduceEqDiff, reduceIte, Nat.reduceAdd, h1])
      | (refine WpO.do' (WpX.st rfl (by (try simp only [nrm, Nat.reduceEqDiff, reduceIte, Nat.reduceAdd, h1]); rfl) rfl rfl rfl (by repeat (first | rfl | refine allOne_cons ?_)) rfl ?_); try simp only [nrm, Nat.reduceEqDiff, reduceIte, Nat.reduceAdd, h1])
      | (refine WpO.do (WpX.pcall hn rfl (by simp only [nrm, Nat.reduceEqDiff, reduceIte, Nat.reduceAdd, h1, List.map]; rfl) rfl fun _ _ => ?_); try simp only [nrm, Nat.reduceEqDiff, reduceIte, Nat.reduceAdd, h1])
      | (refine WpO.do (WpX.idxP (by (try simp only [nrm, Nat.reduceEqDiff, reduceIte, Nat.reduceAdd, h1]); rfl) rfl ?_ ?_); (focus omega); try simp only [nrm, Nat.reduceEqDiff, reduceIte, Nat.reduceAdd, h1])
      | (refine WpO.do (WpX.ldB rfl ?_ ?_); (focus omega); try simp only [nrm, Nat.reduceEqDiff, reduceIte, Nat.reduceAdd, h1])
      | (refine WpO.do (WpX.ldI rfl ?_ ?_); (focus omega); try simp only [nrm, Nat.reduceEqDiff, reduceIte, Nat.reduceAdd, h1])
      | (refine WpO.do (WpX.build (by repeat (first | refine aFill1 (by (try simp only [nrm, Nat.reduceEqDiff, reduceIte, Nat.reduceAdd, h1]); rfl) rfl ?_ | rfl)) ?_); try simp only [nrm, Nat.reduceEqDiff, reduceIte, Nat.reduceAdd, h1])
      | (refine WpO.guard rfl (fun _ => ?_) (fun h => absurd rfl h))
      | (refine WpO.guard rfl (fun h => absurd h (by decide)) (fun _ => ?_); try simp only [nrm, Nat.reduceEqDiff, reduceIte, Nat.reduceAdd, h1])
      | refine WpO.nil ?_
      | refine Wp.seq ?_
      | refine Wp.region ?_
      | refine Wp.dquiet rfl rfl ?_
      | refine Wp.cond (b := true) rfl ?_
      | refine Wp.cond (b := false) rfl ?_
      | refine Wp.skip ?_
      | refine Wp.ret ?_
      | refine Wp.block ?_
      | refine Wp.exit ?_
      | dsimp only [cond_true, cond_false])
    refine ⟨trivial, _, (by first | rfl | exact getAllC rfl rfl rfl rfl | exact getAllT rfl (getAllC rfl rfl rfl rfl) | exact getAllC rfl rfl rfl (getAllC rfl rfl rfl rfl) | exact getAllC1 rfl rfl rfl), ?_⟩
    exact ⟨rfl, Ext0.ext⟩
  cases h2 : (h == h')
  · skip
    repeat (first
      | (refine WpO.do (WpX.ld rfl rfl ?_); try simp only [nrm, Nat.reduceEqDiff, reduceIte, Nat.reduceAdd, h1, h2])
      | (refine WpO.do (WpX.ldN rfl rfl rfl ?_); try simp only [nrm, Nat.reduceEqDiff, reduceIte, Nat.reduceAdd, h1, h2])
      | (refine WpO.do (WpX.lenP (by (try simp only [nrm, Nat.reduceEqDiff, reduceIte, Nat.reduceAdd, h1, h2]); rfl) ?_); try simp only [nrm, Nat.reduceEqDiff, reduceIte, Nat.reduceAdd, h1, h2])
      | (refine WpO.now rfl rfl ?_; try simp only [nrm, Nat.reduceEqDiff, reduceIte, Nat.reduceAdd, h1, h2])
      | (refine WpO.do' (WpX.st rfl (by (try simp only [nrm, Nat.reduceEqDiff, reduceIte, Nat.reduceAdd, h1, h2]); rfl) rfl rfl rfl (by repeat (first | rfl | refine allOne_cons ?_)) rfl ?_); try simp only [nrm, Nat.reduceEqDiff, reduceIte, Nat.reduceAdd, h1, h2])
      | (refine WpO.do (WpX.pcall hn rfl (by simp only [nrm, Nat.reduceEqDiff, reduceIte, Nat.reduceAdd, h1, h2, List.map]; rfl) rfl fun _ _ => ?_); try simp only [nrm, Nat.reduceEqDiff, reduceIte, Nat.reduceAdd, h1, h2])
      | (refine WpO.do (WpX.idxP (by (try simp only [nrm, Nat.reduceEqDiff, reduceIte, Nat.reduceAdd, h1, h2]); rfl) rfl ?_ ?_); (focus omega); try simp only [nrm, Nat.reduceEqDiff, reduceIte, Nat.reduceAdd, h1, h2])
      | (refine WpO.do (WpX.ldB rfl ?_ ?_); (focus omega); try simp only [nrm, Nat.reduceEqDiff, reduceIte, Nat.reduceAdd, h1, h2])
      | (refine WpO.do (WpX.ldI rfl ?_ ?_); (focus omega); try simp only [nrm, Nat.reduceEqDiff, reduceIte, Nat.reduceAdd, h1, h2])
      | (refine WpO.do (WpX.build (by repeat (first | refine aFill1 (by (try simp only [nrm, Nat.reduceEqDiff, reduceIte, Nat.reduceAdd, h1, h2]); rfl) rfl ?_ | rfl)) ?_); try simp only [nrm, Nat.reduceEqDiff, reduceIte, Nat.reduceAdd, h1, h2])
      | (refine WpO.guard rfl (fun _ => ?_) (fun h => absurd rfl h))
      | (refine WpO.guard rfl (fun h => absurd h (by decide)) (fun _ => ?_); try simp only [nrm, Nat.reduceEqDiff, reduceIte, Nat.reduceAdd, h1, h2])
      | refine WpO.nil ?_
      | refine Wp.seq ?_
      | refine Wp.region ?_
      | refine Wp.dquiet rfl rfl ?_
      | refine Wp.cond (b := true) rfl ?_
      | refine Wp.cond (b := false) rfl ?_
      | refine Wp.skip ?_
      | refine Wp.ret ?_
      | refine Wp.block ?_
      | refine Wp.exit ?_
      | dsimp only [cond_true, cond_false])
    refine ⟨trivial, _, (by first | rfl | exact getAllC rfl rfl rfl rfl | exact getAllT rfl (getAllC rfl rfl rfl rfl) | exact getAllC rfl rfl rfl (getAllC rfl rfl rfl rfl) | exact getAllC1 rfl rfl rfl), ?_⟩
    exact ⟨rfl, Ext0.ext⟩
  · skip
    repeat (first
      | (refine WpO.do (WpX.ld rfl rfl ?_); try simp only [nrm, Nat.reduceEqDiff, reduceIte, Nat.reduceAdd, h1, h2])
      | (refine WpO.do (WpX.ldN rfl rfl rfl ?_); try simp only [nrm, Nat.reduceEqDiff, reduceIte, Nat.reduceAdd, h1, h2])
      | (refine WpO.do (WpX.lenP (by (try simp only [nrm, Nat.reduceEqDiff, reduceIte, Nat.reduceAdd, h1, h2]); rfl) ?_); try simp only [nrm, Nat.reduceEqDiff, reduceIte, Nat.reduceAdd, h1, h2])
      | (refine WpO.now rfl rfl ?_; try simp only [nrm, Nat.reduceEqDiff, reduceIte, Nat.reduceAdd, h1, h2])
      | (refine WpO.do' (WpX.st rfl (by (try simp only [nrm, Nat.reduceEqDiff, reduceIte, Nat.reduceAdd, h1, h2]); rfl) rfl rfl rfl (by repeat (first | rfl | refine allOne_cons ?_)) rfl ?_); try simp only [nrm, Nat.reduceEqDiff, reduceIte, Nat.reduceAdd, h1, h2])
      | (refine WpO.do (WpX.pcall hn rfl (by simp only [nrm, Nat.reduceEqDiff, reduceIte, Nat.reduceAdd, h1, h2, List.map]; rfl) rfl fun _ _ => ?_); try simp only [nrm, Nat.reduceEqDiff, reduceIte, Nat.reduceAdd, h1, h2])
      | (refine WpO.do (WpX.idxP (by (try simp only [nrm, Nat.reduceEqDiff, reduceIte, Nat.reduceAdd, h1, h2]); rfl) rfl ?_ ?_); (focus omega); try simp only [nrm, Nat.reduceEqDiff, reduceIte, Nat.reduceAdd, h1, h2])
      | (refine WpO.do (WpX.ldB rfl ?_ ?_); (focus omega); try simp only [nrm, Nat.reduceEqDiff, reduceIte, Nat.reduceAdd, h1, h2])
      | (refine WpO.do (WpX.ldI rfl ?_ ?_); (focus omega); try simp only [nrm, Nat.reduceEqDiff, reduceIte, Nat.reduceAdd, h1, h2])
      | (refine WpO.do (WpX.build (by repeat (first | refine aFill1 (by (try simp only [nrm, Nat.reduceEqDiff, reduceIte, Nat.reduceAdd, h1, h2]); rfl) rfl ?_ | rfl)) ?_); try simp only [nrm, Nat.reduceEqDiff, reduceIte, Nat.reduceAdd, h1, h2])
      | (refine WpO.guard rfl (fun _ => ?_) (fun h => absurd rfl h))
      | (refine WpO.guard rfl (fun h => absurd h (by decide)) (fun _ => ?_); try simp only [nrm, Nat.reduceEqDiff, reduceIte, Nat.reduceAdd, h1, h2])
      | refine WpO.nil ?_
      | refine Wp.seq ?_
      | refine Wp.region ?_
      | refine Wp.dquiet rfl rfl ?_
      | refine Wp.cond (b := true) rfl ?_
      | refine Wp.cond (b := false) rfl ?_
      | refine Wp.skip ?_
      | refine Wp.ret ?_
      | refine Wp.block ?_
      | refine Wp.exit ?_
      | dsimp only [cond_true, cond_false])
    refine ⟨trivial, _, (by first | rfl | exact getAllC rfl rfl rfl rfl | exact getAllT rfl (getAllC rfl rfl rfl rfl) | exact getAllC rfl rfl rfl (getAllC rfl rfl rfl rfl) | exact getAllC1 rfl rfl rfl), ?_⟩
    exact ⟨rfl, Ext0.ext⟩⟩
instance K_SameGrey {p q : AVal} {H : AHeap} {w h w' h' : Int} {l m : List UInt8} [hp : BytesI H p l] [hq : BytesI H q m] [hs : Short l] : PureCon ext prog 41 [.agg [.int .i64 w, .int .i64 h, p], .agg [.int .i64 w', .int .i64 h', q]] H 2 (.bool (decide ((⟨w, h, l⟩ : Img) = ⟨w', h', m⟩))) := ⟨by
  refine con_of (show prog 41 = some c41 from rfl) rfl rfl fun n hn => ?_
  haveI := hp.one
  haveI := hq.one
  have e : decide ((⟨w, h, l⟩ : Img) = ⟨w', h', m⟩) = ((w == w') && (h == h') && decide (l = m)) := by
    by_cases h1 : w = w' <;> by_cases h2 : h = h' <;> by_cases h3 : l = m <;> simp [h1, h2, h3]
  rw [e]
  cases h1 : (w == w')
  · skip
    repeat (first
      | (refine WpO.do (WpX.ld rfl rfl ?_); try simp only [nrm, Nat.reduceEqDiff, reduceIte, Nat.reduceAdd, h1])
      | (refine WpO.do (WpX.ldN rfl rfl rfl ?_); try simp only [nrm, Nat.reduceEqDiff, reduceIte, Nat.reduceAdd, h1])
      | (refine WpO.do (WpX.lenP (by (try simp only [nrm, Nat.reduceEqDiff, reduceIte, Nat.reduceAdd, h1]); rfl) ?_); try simp only [nrm, Nat.reduceEqDiff, reduceIte, Nat.reduceAdd, h1])
      | (refine WpO.now rfl rfl ?_; try simp only [nrm, Nat.reduceEqDiff, reduceIte, Nat.reduceAdd, h1])
      | (refine WpO.do' (WpX.st rfl (by (try simp only [nrm, Nat.reduceEqDiff, reduceIte, Nat.reduceAdd, h1]); rfl) rfl rfl rfl (by repeat (first | rfl | refine allOne_cons ?_)) rfl ?_); try simp only [nrm, Nat.reduceEqDiff, reduceIte, Nat.reduceAdd, h1])
      | (refine WpO.do (WpX.pcall hn rfl (by simp only [nrm, Nat.reduceEqDiff, reduceIte, Nat.reduceAdd, h1, List.map]; rfl) rfl fun _ _ => ?_); try simp only [nrm, Nat.reduceEqDiff, reduceIte, Nat.reduceAdd, h1])
      | (refine WpO.do (WpX.idxP (by (try simp only [nrm, Nat.reduceEqDiff, reduceIte, Nat.reduceAdd, h1]); rfl) rfl ?_ ?_); (focus omega); try simp only [nrm, Nat.reduceEqDiff, reduceIte, Nat.reduceAdd, h1])
      | (refine WpO.do (WpX.ldB rfl ?_ ?_); (focus omega); try simp only [nrm, Nat.reduceEqDiff, reduceIte, Nat.reduceAdd, h1])
      | (refine WpO.do (WpX.ldI rfl ?_ ?_); (focus omega); try simp only [nrm, Nat.reduceEqDiff, reduceIte, Nat.reduceAdd, h1])
      | (refine WpO.do (WpX.build (by repeat (first | refine aFill1 (by (try simp only [nrm, Nat.reduceEqDiff, reduceIte, Nat.reduceAdd, h1]); rfl) rfl ?_ | rfl)) ?_); try simp only [nrm, Nat.reduceEqDiff, reduceIte, Nat.reduceAdd, h1])
      | (refine WpO.guard rfl (fun _ => ?_) (fun h => absurd rfl h))
      | (refine WpO.guard rfl (fun h => absurd h (by decide)) (fun _ => ?_); try simp only [nrm, Nat.reduceEqDiff, reduceIte, Nat.reduceAdd, h1])
      | refine WpO.nil ?_
      | refine Wp.seq ?_
      | refine Wp.region ?_
      | refine Wp.dquiet rfl rfl ?_
      | refine Wp.cond (b := true) rfl ?_
      | refine Wp.cond (b := false) rfl ?_
      | refine Wp.skip ?_
      | refine Wp.ret ?_
      | refine Wp.block ?_
      | refine Wp.exit ?_
      | dsimp only [cond_true, cond_false])
    refine ⟨trivial, _, (by first | rfl | exact getAllC rfl rfl rfl rfl | exact getAllT rfl (getAllC rfl rfl rfl rfl) | exact getAllC rfl rfl rfl (getAllC rfl rfl rfl rfl) | exact getAllC1 rfl rfl rfl), ?_⟩
    exact ⟨rfl, Ext0.ext⟩
  cases h2 : (h == h')
  · skip
    repeat (first
      | (refine WpO.do (WpX.ld rfl rfl ?_); try simp only [nrm, Nat.reduceEqDiff, reduceIte, Nat.reduceAdd, h1, h2])
      | (refine WpO.do (WpX.ldN rfl rfl rfl ?_); try simp only [nrm, Nat.reduceEqDiff, reduceIte, Nat.reduceAdd, h1, h2])
      | (refine WpO.do (WpX.lenP (by (try simp only [nrm, Nat.reduceEqDiff, reduceIte, Nat.reduceAdd, h1, h2]); rfl) ?_); try simp only [nrm, Nat.reduceEqDiff, reduceIte, Nat.reduceAdd, h1, h2])
      | (refine WpO.now rfl rfl ?_; try simp only [nrm, Nat.reduceEqDiff, reduceIte, Nat.reduceAdd, h1, h2])
      | (refine WpO.do' (WpX.st rfl (by (try simp only [nrm, Nat.reduceEqDiff, reduceIte, Nat.reduceAdd, h1, h2]); rfl) rfl rfl rfl (by repeat (first | rfl | refine allOne_cons ?_)) rfl ?_); try simp only [nrm, Nat.reduceEqDiff, reduceIte, Nat.reduceAdd, h1, h2])
      | (refine WpO.do (WpX.pcall hn rfl (by simp only [nrm, Nat.reduceEqDiff, reduceIte, Nat.reduceAdd, h1, h2, List.map]; rfl) rfl fun _ _ => ?_); try simp only [nrm, Nat.reduceEqDiff, reduceIte, Nat.reduceAdd, h1, h2])
      | (refine WpO.do (WpX.idxP (by (try simp only [nrm, Nat.reduceEqDiff, reduceIte, Nat.reduceAdd, h1, h2]); rfl) rfl ?_ ?_); (focus omega); try simp only [nrm, Nat.reduceEqDiff, reduceIte, Nat.reduceAdd, h1, h2])
      | (refine WpO.do (WpX.ldB rfl ?_ ?_); (focus omega); try simp only [nrm, Nat.reduceEqDiff, reduceIte, Nat.reduceAdd, h1, h2])
      | (refine WpO.do (WpX.ldI rfl ?_ ?_); (focus omega); try simp only [nrm, Nat.reduceEqDiff, reduceIte, Nat.reduceAdd, h1, h2])
      | (refine WpO.do (WpX.build (by repeat (first | refine aFill1 (by (try simp only [nrm, Nat.reduceEqDiff, reduceIte, Nat.reduceAdd, h1, h2]); rfl) rfl ?_ | rfl)) ?_); try simp only [nrm, Nat.reduceEqDiff, reduceIte, Nat.reduceAdd, h1, h2])
      | (refine WpO.guard rfl (fun _ => ?_) (fun h => absurd rfl h))
      | (refine WpO.guard rfl (fun h => absurd h (by decide)) (fun _ => ?_); try simp only [nrm, Nat.reduceEqDiff, reduceIte, Nat.reduceAdd, h1, h2])
      | refine WpO.nil ?_
      | refine Wp.seq ?_
      | refine Wp.region ?_
      | refine Wp.dquiet rfl rfl ?_
      | refine Wp.cond (b := true) rfl ?_
      | refine Wp.cond (b := false) rfl ?_
      | refine Wp.skip ?_
      | refine Wp.ret ?_
      | refine Wp.block ?_
      | refine Wp.exit ?_
      | dsimp only [cond_true, cond_false])
    refine ⟨trivial, _, (by first | rfl | exact getAllC rfl rfl rfl rfl | exact getAllT rfl (getAllC rfl rfl rfl rfl) | exact getAllC rfl rfl rfl (getAllC rfl rfl rfl rfl) | exact getAllC1 rfl rfl rfl), ?_⟩
    exact ⟨rfl, Ext0.ext⟩
  · skip
    repeat (first
      | (refine WpO.do (WpX.ld rfl rfl ?_); try simp only [nrm, Nat.reduceEqDiff, reduceIte, Nat.reduceAdd, h1, h2])
      | (refine WpO.do (WpX.ldN rfl rfl rfl ?_); try simp only [nrm, Nat.reduceEqDiff, reduceIte, Nat.reduceAdd, h1, h2])
      | (refine WpO.do (WpX.lenP (by (try simp only [nrm, Nat.reduceEqDiff, reduceIte, Nat.reduceAdd, h1, h2]); rfl) ?_); try simp only [nrm, Nat.reduceEqDiff, reduceIte, Nat.reduceAdd, h1, h2])
      | (refine WpO.now rfl rfl ?_; try simp only [nrm, Nat.reduceEqDiff, reduceIte, Nat.reduceAdd, h1, h2])
      | (refine WpO.do' (WpX.st rfl (by (try simp only [nrm, Nat.reduceEqDiff, reduceIte, Nat.reduceAdd, h1, h2]); rfl) rfl rfl rfl (by repeat (first | rfl | refine allOne_cons ?_)) rfl ?_); try simp only [nrm, Nat.reduceEqDiff, reduceIte, Nat.reduceAdd, h1, h2])
      | (refine WpO.do (WpX.pcall hn rfl (by simp only [nrm, Nat.reduceEqDiff, reduceIte, Nat.reduceAdd, h1, h2, List.map]; rfl) rfl fun _ _ => ?_); try simp only [nrm, Nat.reduceEqDiff, reduceIte, Nat.reduceAdd, h1, h2])
      | (refine WpO.do (WpX.idxP (by (try simp only [nrm, Nat.reduceEqDiff, reduceIte, Nat.reduceAdd, h1, h2]); rfl) rfl ?_ ?_); (focus omega); try simp only [nrm, Nat.reduceEqDiff, reduceIte, Nat.reduceAdd, h1, h2])
      | (refine WpO.do (WpX.ldB rfl ?_ ?_); (focus omega); try simp only [nrm, Nat.reduceEqDiff, reduceIte, Nat.reduceAdd, h1, h2])
      | (refine WpO.do (WpX.ldI rfl ?_ ?_); (focus omega); try simp only [nrm, Nat.reduceEqDiff, reduceIte, Nat.reduceAdd, h1, h2])
      | (refine WpO.do (WpX.build (by repeat (first | refine aFill1 (by (try simp only [nrm, Nat.reduceEqDiff, reduceIte, Nat.reduceAdd, h1, h2]); rfl) rfl ?_ | rfl)) ?_); try simp only [nrm, Nat.reduceEqDiff, reduceIte, Nat.reduceAdd, h1, h2])
      | (refine WpO.guard rfl (fun _ => ?_) (fun h => absurd rfl h))
      | (refine WpO.guard rfl (fun h => absurd h (by decide)) (fun _ => ?_); try simp only [nrm, Nat.reduceEqDiff, reduceIte, Nat.reduceAdd, h1, h2])
      | refine WpO.nil ?_
      | refine Wp.seq ?_
      | refine Wp.region ?_
      | refine Wp.dquiet rfl rfl ?_
      | refine Wp.cond (b := true) rfl ?_
      | refine Wp.cond (b := false) rfl ?_
      | refine Wp.skip ?_
      | refine Wp.ret ?_
      | refine Wp.block ?_
      | refine Wp.exit ?_
      | dsimp only [cond_true, cond_false])
    refine ⟨trivial, _, (by first | rfl | exact getAllC rfl rfl rfl rfl | exact getAllT rfl (getAllC rfl rfl rfl rfl) | exact getAllC rfl rfl rfl (getAllC rfl rfl rfl rfl) | exact getAllC1 rfl rfl rfl), ?_⟩
    exact ⟨rfl, Ext0.ext⟩⟩
/-- The same image, and the same error. -/
instance K_same {p q : AVal} {H : AHeap} {w h w' h' e e' : Int} {l m : List UInt8} [hp : BytesI H p l] [hq : BytesI H q m] [hs : Short l] : PureCon ext prog 40 [.agg [.int .i64 w, .int .i64 h, p], .int .i64 e, .agg [.int .i64 w', .int .i64 h', q], .int .i64 e'] H 3 (.bool (decide ((⟨w, h, l⟩ : Img) = ⟨w', h', m⟩) && (e == e'))) := ⟨by
  refine con_of (show prog 40 = some c40 from rfl) rfl rfl fun n hn => ?_
  haveI := hp.one
  haveI := hq.one
  cases h1 : decide ((⟨w, h, l⟩ : Img) = ⟨w', h', m⟩)
  · skip
    repeat (first
      | (refine WpO.do (WpX.ld rfl rfl ?_); try simp only [nrm, Nat.reduceEqDiff, reduceIte, Nat.reduceAdd, h1])
      | (refine WpO.do (WpX.ldN rfl rfl rfl ?_); try simp only [nrm, Nat.reduceEqDiff, reduceIte, Nat.reduceAdd, h1])
      | (refine WpO.do (WpX.lenP (by (try simp only [nrm, Nat.reduceEqDiff, reduceIte, Nat.reduceAdd, h1]); rfl) ?_); try simp only [nrm, Nat.reduceEqDiff, reduceIte, Nat.reduceAdd, h1])
      | (refine WpO.now rfl rfl ?_; try simp only [nrm, Nat.reduceEqDiff, reduceIte, Nat.reduceAdd, h1])
      | (refine WpO.do' (WpX.st rfl (by (try simp only [nrm, Nat.reduceEqDiff, reduceIte, Nat.reduceAdd, h1]); rfl) rfl rfl rfl (by repeat (first | rfl | refine allOne_cons ?_)) rfl ?_); try simp only [nrm, Nat.reduceEqDiff, reduceIte, Nat.reduceAdd, h1])
      | (refine WpO.do (WpX.pcall hn rfl (by simp only [nrm, Nat.reduceEqDiff, reduceIte, Nat.reduceAdd, h1, List.map]; rfl) rfl fun _ _ => ?_); try simp only [nrm, Nat.reduceEqDiff, reduceIte, Nat.reduceAdd, h1])
      | (refine WpO.do (WpX.idxP (by (try simp only [nrm, Nat.reduceEqDiff, reduceIte, Nat.reduceAdd, h1]); rfl) rfl ?_ ?_); (focus omega); try simp only [nrm, Nat.reduceEqDiff, reduceIte, Nat.reduceAdd, h1])
      | (refine WpO.do (WpX.ldB rfl ?_ ?_); (focus omega); try simp only [nrm, Nat.reduceEqDiff, reduceIte, Nat.reduceAdd, h1])
      | (refine WpO.do (WpX.ldI rfl ?_ ?_); (focus omega); try simp only [nrm, Nat.reduceEqDiff, reduceIte, Nat.reduceAdd, h1])
      | (refine WpO.do (WpX.build (by repeat (first | refine aFill1 (by (try simp only [nrm, Nat.reduceEqDiff, reduceIte, Nat.reduceAdd, h1]); rfl) rfl ?_ | rfl)) ?_); try simp only [nrm, Nat.reduceEqDiff, reduceIte, Nat.reduceAdd, h1])
      | (refine WpO.guard rfl (fun _ => ?_) (fun h => absurd rfl h))
      | (refine WpO.guard rfl (fun h => absurd h (by decide)) (fun _ => ?_); try simp only [nrm, Nat.reduceEqDiff, reduceIte, Nat.reduceAdd, h1])
      | refine WpO.nil ?_
      | refine Wp.seq ?_
      | refine Wp.region ?_
      | refine Wp.dquiet rfl rfl ?_
      | refine Wp.cond (b := true) rfl ?_
      | refine Wp.cond (b := false) rfl ?_
      | refine Wp.skip ?_
      | refine Wp.ret ?_
      | refine Wp.block ?_
      | refine Wp.exit ?_
      | dsimp only [cond_true, cond_false])
    refine ⟨trivial, _, (by first | rfl | exact getAllC rfl rfl rfl rfl | exact getAllT rfl (getAllC rfl rfl rfl rfl) | exact getAllC rfl rfl rfl (getAllC rfl rfl rfl rfl) | exact getAllC1 rfl rfl rfl), ?_⟩
    exact ⟨rfl, Ext0.ext⟩
  · skip
    repeat (first
      | (refine WpO.do (WpX.ld rfl rfl ?_); try simp only [nrm, Nat.reduceEqDiff, reduceIte, Nat.reduceAdd, h1])
      | (refine WpO.do (WpX.ldN rfl rfl rfl ?_); try simp only [nrm, Nat.reduceEqDiff, reduceIte, Nat.reduceAdd, h1])
      | (refine WpO.do (WpX.lenP (by (try simp only [nrm, Nat.reduceEqDiff, reduceIte, Nat.reduceAdd, h1]); rfl) ?_); try simp only [nrm, Nat.reduceEqDiff, reduceIte, Nat.reduceAdd, h1])
      | (refine WpO.now rfl rfl ?_; try simp only [nrm, Nat.reduceEqDiff, reduceIte, Nat.reduceAdd, h1])
      | (refine WpO.do' (WpX.st rfl (by (try simp only [nrm, Nat.reduceEqDiff, reduceIte, Nat.reduceAdd, h1]); rfl) rfl rfl rfl (by repeat (first | rfl | refine allOne_cons ?_)) rfl ?_); try simp only [nrm, Nat.reduceEqDiff, reduceIte, Nat.reduceAdd, h1])
      | (refine WpO.do (WpX.pcall hn rfl (by simp only [nrm, Nat.reduceEqDiff, reduceIte, Nat.reduceAdd, h1, List.map]; rfl) rfl fun _ _ => ?_); try simp only [nrm, Nat.reduceEqDiff, reduceIte, Nat.reduceAdd, h1])
      | (refine WpO.do (WpX.idxP (by (try simp only [nrm, Nat.reduceEqDiff, reduceIte, Nat.reduceAdd, h1]); rfl) rfl ?_ ?_); (focus omega); try simp only [nrm, Nat.reduceEqDiff, reduceIte, Nat.reduceAdd, h1])
      | (refine WpO.do (WpX.ldB rfl ?_ ?_); (focus omega); try simp only [nrm, Nat.reduceEqDiff, reduceIte, Nat.reduceAdd, h1])
      | (refine WpO.do (WpX.ldI rfl ?_ ?_); (focus omega); try simp only [nrm, Nat.reduceEqDiff, reduceIte, Nat.reduceAdd, h1])
      | (refine WpO.do (WpX.build (by repeat (first | refine aFill1 (by (try simp only [nrm, Nat.reduceEqDiff, reduceIte, Nat.reduceAdd, h1]); rfl) rfl ?_ | rfl)) ?_); try simp only [nrm, Nat.reduceEqDiff, reduceIte, Nat.reduceAdd, h1])
      | (refine WpO.guard rfl (fun _ => ?_) (fun h => absurd rfl h))
      | (refine WpO.guard rfl (fun h => absurd h (by decide)) (fun _ => ?_); try simp only [nrm, Nat.reduceEqDiff, reduceIte, Nat.reduceAdd, h1])
      | refine WpO.nil ?_
      | refine Wp.seq ?_
      | refine Wp.region ?_
      | refine Wp.dquiet rfl rfl ?_
      | refine Wp.cond (b := true) rfl ?_
      | refine Wp.cond (b := false) rfl ?_
      | refine Wp.skip ?_
      | refine Wp.ret ?_
      | refine Wp.block ?_
      | refine Wp.exit ?_
      | dsimp only [cond_true, cond_false])
    refine ⟨trivial, _, (by first | rfl | exact getAllC rfl rfl rfl rfl | exact getAllT rfl (getAllC rfl rfl rfl rfl) | exact getAllC rfl rfl rfl (getAllC rfl rfl rfl rfl) | exact getAllC1 rfl rfl rfl), ?_⟩
    exact ⟨rfl, Ext0.ext⟩⟩
end Go.Am
