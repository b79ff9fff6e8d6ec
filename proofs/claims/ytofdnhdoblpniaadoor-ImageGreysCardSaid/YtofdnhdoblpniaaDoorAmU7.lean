import Derived.Test.YtofdnhdoblpniaaDoorAmU6
set_option linter.unusedSimpArgs false
set_option linter.unusedVariables false
set_option maxHeartbeats 4000000
set_option maxRecDepth 100000
namespace Go.Am
open Go

def lvStep (acc : List Int) (b : UInt8) : List Int := acc.set b.toNat (acc.getD b.toNat 0 + 1)
def lv (l : List UInt8) : List Int := l.foldl lvStep (List.replicate 256 0)
theorem lv_take_succ {l : List UInt8} {i : Nat} (h : i < l.length) : lv (l.take (i + 1)) = lvStep (lv (l.take i)) l[i] := by
  unfold lv
  rw [List.take_succ_eq_append_getElem h, List.foldl_append]
  rfl
theorem lv_length (l : List UInt8) : (lv l).length = 256 := by
  have key : ∀ (l : List UInt8) (a : List Int), (l.foldl lvStep a).length = a.length := by
    intro l
    induction l with
    | nil => intro a; rfl
    | cons b l ih => intro a; rw [List.foldl_cons, ih]; simp [lvStep]
  rw [lv, key]; simp
theorem lv_bound (l : List UInt8) (k : Nat) : 0 ≤ (lv l).getD k 0 ∧ (lv l).getD k 0 ≤ l.length := by
  have key : ∀ (l : List UInt8) (a : List Int) (m : Int), (∀ k, 0 ≤ a.getD k 0 ∧ a.getD k 0 ≤ m) → ∀ k, 0 ≤ (l.foldl lvStep a).getD k 0 ∧ (l.foldl lvStep a).getD k 0 ≤ m + l.length := by
    intro l
    induction l with
    | nil => intro a m h k; simpa using h k
    | cons b l ih =>
      intro a m h k
      have := ih (lvStep a b) (m + 1) (fun k => by
        have h1 := h k
        have h2 := h b.toNat
        simp only [lvStep, List.getD_eq_getElem?_getD, List.getElem?_set] at h1 h2 ⊢
        split
        · split
          · simp; omega
          · simp; omega
        · omega) k
      rw [List.foldl_cons]
      simp only [List.length_cons]
      omega
  have := key l (List.replicate 256 0) 0 (fun k => by simp only [List.getD_eq_getElem?_getD, List.getElem?_replicate]; split <;> simp) k
  simpa [lv] using this

def NewInts (H H' : AHeap) (v : AVal) (l : List Int) : Prop := IntsI H' v l ∧ FreshS H v ∧ WrS H' v ∧ Ext H H'
def lvSpec (g : Img) : List Int × Int := if g.sized = false then ([], 2) else (lv g.px, 0)
theorem newNilI {H H' : AHeap} [x : Ext0 H H'] : NewInts H H' .nslice [] := ⟨⟨Or.inl ⟨rfl, rfl, rfl⟩⟩, ⟨fun _ _ _ _ _ e => by cases e⟩, ⟨fun _ _ _ _ _ e => by cases e⟩, x.ext⟩
instance intsNil {H : AHeap} : IntsI H .nslice [] := ⟨Or.inl ⟨rfl, rfl, rfl⟩⟩
instance bytesNil {H : AHeap} : BytesI H .nslice [] := ⟨Or.inl ⟨rfl, rfl, rfl⟩⟩

theorem K_Levels {w h : Int} {p : AVal} {H : AHeap} {l : List UInt8} [hp : BytesI H p l] : Con ext prog 4 37 [.agg [.int .i64 w, .int .i64 h, p]] H fun v H' => ∃ q, v = .tuple [q, .int .i64 (lvSpec ⟨w, h, l⟩).2] ∧ NewInts H H' q (lvSpec ⟨w, h, l⟩).1 := by
  refine con_of (show prog 37 = some c37 from rfl) rfl rfl fun n hn => ?_
  haveI := hp.one
  cases hs : sizedB w h l.length
  · have e1 : lvSpec ⟨w, h, l⟩ = ([], 2) := by simp [lvSpec, Img.sized, hs]
    rw [e1]
    repeat (first
      | (refine WpO.do (WpX.ld rfl rfl ?_); try simp only [nrm, Nat.reduceEqDiff, reduceIte, Nat.reduceAdd, hs, sizeErr])
      | (refine WpO.do (WpX.ldN rfl rfl rfl ?_); try simp only [nrm, Nat.reduceEqDiff, reduceIte, Nat.reduceAdd, hs, sizeErr])
      | (refine WpO.do (WpX.lenP (by (try simp only [nrm, Nat.reduceEqDiff, reduceIte, Nat.reduceAdd, hs, sizeErr]); rfl) ?_); try simp only [nrm, Nat.reduceEqDiff, reduceIte, Nat.reduceAdd, hs, sizeErr])
      | (refine WpO.now rfl rfl ?_; try simp only [nrm, Nat.reduceEqDiff, reduceIte, Nat.reduceAdd, hs, sizeErr])
      | (refine WpO.do' (WpX.st rfl (by (try simp only [nrm, Nat.reduceEqDiff, reduceIte, Nat.reduceAdd, hs, sizeErr]); rfl) rfl rfl rfl (by repeat (first | rfl | refine allOne_cons ?_)) rfl ?_); try simp only [nrm, Nat.reduceEqDiff, reduceIte, Nat.reduceAdd, hs, sizeErr])
      | (refine WpO.do (WpX.pcall hn rfl (by simp only [nrm, Nat.reduceEqDiff, reduceIte, Nat.reduceAdd, hs, sizeErr, List.map]; rfl) rfl fun _ _ => ?_); try simp only [nrm, Nat.reduceEqDiff, reduceIte, Nat.reduceAdd, hs, sizeErr])
      | (refine WpO.do (WpX.idxP (by (try simp only [nrm, Nat.reduceEqDiff, reduceIte, Nat.reduceAdd, hs, sizeErr]); rfl) rfl ?_ ?_); (focus omega); try simp only [nrm, Nat.reduceEqDiff, reduceIte, Nat.reduceAdd, hs, sizeErr])
      | (refine WpO.do (WpX.ldB rfl ?_ ?_); (focus omega); try simp only [nrm, Nat.reduceEqDiff, reduceIte, Nat.reduceAdd, hs, sizeErr])
      | (refine WpO.do (WpX.ldI rfl ?_ ?_); (focus omega); try simp only [nrm, Nat.reduceEqDiff, reduceIte, Nat.reduceAdd, hs, sizeErr])
      | (refine WpO.do (WpX.build (by repeat (first | refine aFill1 (by (try simp only [nrm, Nat.reduceEqDiff, reduceIte, Nat.reduceAdd, hs, sizeErr]); rfl) rfl ?_ | rfl)) ?_); try simp only [nrm, Nat.reduceEqDiff, reduceIte, Nat.reduceAdd, hs, sizeErr])
      | (refine WpO.guard rfl (fun _ => ?_) (fun h => absurd rfl h))
      | (refine WpO.guard rfl (fun h => absurd h (by decide)) (fun _ => ?_); try simp only [nrm, Nat.reduceEqDiff, reduceIte, Nat.reduceAdd, hs, sizeErr])
      | refine WpO.nil ?_
      | refine Wp.seq ?_
      | refine Wp.region ?_
      | refine Wp.dquiet rfl rfl ?_
      | refine Wp.cond (b := true) rfl ?_
      | refine Wp.cond (b := false) rfl ?_
      | refine Wp.skip ?_
      | refine Wp.ret ?_
      | refine Wp.block ?_
      | refine Wp.exit ?_
      | dsimp only [cond_true, cond_false])
    refine ⟨trivial, _, (by first | rfl | exact getAllC rfl rfl rfl rfl | exact getAllT rfl (getAllC rfl rfl rfl rfl) | exact getAllC rfl rfl rfl (getAllC rfl rfl rfl rfl) | exact getAllC1 rfl rfl rfl), ?_⟩
    exact ⟨_, rfl, newNilI⟩
  have e1 : lvSpec ⟨w, h, l⟩ = (lv l, 0) := by simp [lvSpec, Img.sized, hs]
  rw [e1]
  obtain ⟨a, b, rfl, rfl, ha, hb, hl⟩ := sized_nat hs
  have hm : a * b ≤ 640 * 640 := Nat.mul_le_mul ha hb
  repeat (first
    | (refine WpO.do (WpX.ld rfl rfl ?_); try simp only [nrm, Nat.reduceEqDiff, reduceIte, Nat.reduceAdd, hs, sizeErr])
    | (refine WpO.do (WpX.ldN rfl rfl rfl ?_); try simp only [nrm, Nat.reduceEqDiff, reduceIte, Nat.reduceAdd, hs, sizeErr])
    | (refine WpO.do (WpX.lenP (by (try simp only [nrm, Nat.reduceEqDiff, reduceIte, Nat.reduceAdd, hs, sizeErr]); rfl) ?_); try simp only [nrm, Nat.reduceEqDiff, reduceIte, Nat.reduceAdd, hs, sizeErr])
    | (refine WpO.now rfl rfl ?_; try simp only [nrm, Nat.reduceEqDiff, reduceIte, Nat.reduceAdd, hs, sizeErr])
    | (refine WpO.do' (WpX.st rfl (by (try simp only [nrm, Nat.reduceEqDiff, reduceIte, Nat.reduceAdd, hs, sizeErr]); rfl) rfl rfl rfl (by repeat (first | rfl | refine allOne_cons ?_)) rfl ?_); try simp only [nrm, Nat.reduceEqDiff, reduceIte, Nat.reduceAdd, hs, sizeErr])
    | (refine WpO.do (WpX.pcall hn rfl (by simp only [nrm, Nat.reduceEqDiff, reduceIte, Nat.reduceAdd, hs, sizeErr, List.map]; rfl) rfl fun _ _ => ?_); try simp only [nrm, Nat.reduceEqDiff, reduceIte, Nat.reduceAdd, hs, sizeErr])
    | (refine WpO.do (WpX.idxP (by (try simp only [nrm, Nat.reduceEqDiff, reduceIte, Nat.reduceAdd, hs, sizeErr]); rfl) rfl ?_ ?_); (focus omega); try simp only [nrm, Nat.reduceEqDiff, reduceIte, Nat.reduceAdd, hs, sizeErr])
    | (refine WpO.do (WpX.ldB rfl ?_ ?_); (focus omega); try simp only [nrm, Nat.reduceEqDiff, reduceIte, Nat.reduceAdd, hs, sizeErr])
    | (refine WpO.do (WpX.ldI rfl ?_ ?_); (focus omega); try simp only [nrm, Nat.reduceEqDiff, reduceIte, Nat.reduceAdd, hs, sizeErr])
    | (refine WpO.do (WpX.build (by repeat (first | refine aFill1 (by (try simp only [nrm, Nat.reduceEqDiff, reduceIte, Nat.reduceAdd, hs, sizeErr]); rfl) rfl ?_ | rfl)) ?_); try simp only [nrm, Nat.reduceEqDiff, reduceIte, Nat.reduceAdd, hs, sizeErr])
    | (refine WpO.guard rfl (fun _ => ?_) (fun h => absurd rfl h))
    | (refine WpO.guard rfl (fun h => absurd h (by decide)) (fun _ => ?_); try simp only [nrm, Nat.reduceEqDiff, reduceIte, Nat.reduceAdd, hs, sizeErr])
    | refine WpO.nil ?_
    | refine Wp.seq ?_
    | refine Wp.region ?_
    | refine Wp.dquiet rfl rfl ?_
    | refine Wp.cond (b := true) rfl ?_
    | refine Wp.cond (b := false) rfl ?_
    | refine Wp.skip ?_
    | refine Wp.ret ?_
    | refine Wp.block ?_
    | refine Wp.exit ?_
    | dsimp only [cond_true, cond_false])
  refine WpO.do (WpX.mkI (n := 256) rfl rfl rfl (by omega) fun q H1 e1 hq hf hw hx => ?_); try simp only [nrm, Nat.reduceEqDiff, reduceIte, Nat.reduceAdd]
  haveI := hq.one
  repeat (first
    | (refine WpO.do (WpX.ld rfl rfl ?_); try simp only [nrm, Nat.reduceEqDiff, reduceIte, Nat.reduceAdd])
    | (refine WpO.do (WpX.ldN rfl rfl rfl ?_); try simp only [nrm, Nat.reduceEqDiff, reduceIte, Nat.reduceAdd])
    | (refine WpO.do (WpX.lenP (by (try simp only [nrm, Nat.reduceEqDiff, reduceIte, Nat.reduceAdd]); rfl) ?_); try simp only [nrm, Nat.reduceEqDiff, reduceIte, Nat.reduceAdd])
    | (refine WpO.now rfl rfl ?_; try simp only [nrm, Nat.reduceEqDiff, reduceIte, Nat.reduceAdd])
    | (refine WpO.do' (WpX.st rfl (by (try simp only [nrm, Nat.reduceEqDiff, reduceIte, Nat.reduceAdd]); rfl) rfl rfl rfl (by repeat (first | rfl | refine allOne_cons ?_)) rfl ?_); try simp only [nrm, Nat.reduceEqDiff, reduceIte, Nat.reduceAdd])
    | (refine WpO.do (WpX.pcall hn rfl (by simp only [nrm, Nat.reduceEqDiff, reduceIte, Nat.reduceAdd, List.map]; rfl) rfl fun _ _ => ?_); try simp only [nrm, Nat.reduceEqDiff, reduceIte, Nat.reduceAdd])
    | (refine WpO.do (WpX.idxP (by (try simp only [nrm, Nat.reduceEqDiff, reduceIte, Nat.reduceAdd]); rfl) rfl ?_ ?_); (focus omega); try simp only [nrm, Nat.reduceEqDiff, reduceIte, Nat.reduceAdd])
    | (refine WpO.do (WpX.ldB rfl ?_ ?_); (focus omega); try simp only [nrm, Nat.reduceEqDiff, reduceIte, Nat.reduceAdd])
    | (refine WpO.do (WpX.ldI rfl ?_ ?_); (focus omega); try simp only [nrm, Nat.reduceEqDiff, reduceIte, Nat.reduceAdd])
    | (refine WpO.do (WpX.build (by repeat (first | refine aFill1 (by (try simp only [nrm, Nat.reduceEqDiff, reduceIte, Nat.reduceAdd]); rfl) rfl ?_ | rfl)) ?_); try simp only [nrm, Nat.reduceEqDiff, reduceIte, Nat.reduceAdd])
    | (refine WpO.guard rfl (fun _ => ?_) (fun h => absurd rfl h))
    | (refine WpO.guard rfl (fun h => absurd h (by decide)) (fun _ => ?_); try simp only [nrm, Nat.reduceEqDiff, reduceIte, Nat.reduceAdd])
    | refine WpO.nil ?_
    | refine Wp.seq ?_
    | refine Wp.region ?_
    | refine Wp.dquiet rfl rfl ?_
    | refine Wp.cond (b := true) rfl ?_
    | refine Wp.cond (b := false) rfl ?_
    | refine Wp.skip ?_
    | refine Wp.ret ?_
    | refine Wp.block ?_
    | refine Wp.exit ?_
    | dsimp only [cond_true, cond_false])
  refine Wp.loopS [7, 17, 18, 19, 20, 21, 22, 23, 24, 25, 26, 27] (fun i : Nat => [(17, .int .i64 i)]) (fun H3 i H2 => i ≤ l.length ∧ IntsI H2 q (lv (l.take i)) ∧ WrS H2 q ∧ ExtP0 H3 H2 q) (fun i => l.length - i) 0 rfl (fun _ => rfl) ⟨rfl, trivial⟩ ⟨Nat.zero_le _, by rw [List.take_zero]; exact hq, inferInstance, inferInstance⟩ (by unfold fuel0 at hn; omega) ?_
  rintro i g H2 ⟨hi, hb2, hw2, ⟨hx2⟩⟩
  simp only [nrm, Nat.reduceEqDiff, reduceIte, Nat.reduceAdd]
  cases hc : decide ((i : Int) < (l.length : Int))
  · have hil : i = l.length := by have := of_decide_eq_false hc; omega
    subst hil
    rw [List.take_length] at hb2
    repeat (first
      | (refine WpO.do (WpX.ld rfl rfl ?_); try simp only [nrm, Nat.reduceEqDiff, reduceIte, Nat.reduceAdd, hc])
      | (refine WpO.do (WpX.ldN rfl rfl rfl ?_); try simp only [nrm, Nat.reduceEqDiff, reduceIte, Nat.reduceAdd, hc])
      | (refine WpO.do (WpX.lenP (by (try simp only [nrm, Nat.reduceEqDiff, reduceIte, Nat.reduceAdd, hc]); rfl) ?_); try simp only [nrm, Nat.reduceEqDiff, reduceIte, Nat.reduceAdd, hc])
      | (refine WpO.now rfl rfl ?_; try simp only [nrm, Nat.reduceEqDiff, reduceIte, Nat.reduceAdd, hc])
      | (refine WpO.do' (WpX.st rfl (by (try simp only [nrm, Nat.reduceEqDiff, reduceIte, Nat.reduceAdd, hc]); rfl) rfl rfl rfl (by repeat (first | rfl | refine allOne_cons ?_)) rfl ?_); try simp only [nrm, Nat.reduceEqDiff, reduceIte, Nat.reduceAdd, hc])
      | (refine WpO.do (WpX.pcall hn rfl (by simp only [nrm, Nat.reduceEqDiff, reduceIte, Nat.reduceAdd, hc, List.map]; rfl) rfl fun _ _ => ?_); try simp only [nrm, Nat.reduceEqDiff, reduceIte, Nat.reduceAdd, hc])
      | (refine WpO.do (WpX.idxP (by (try simp only [nrm, Nat.reduceEqDiff, reduceIte, Nat.reduceAdd, hc]); rfl) rfl ?_ ?_); (focus omega); try simp only [nrm, Nat.reduceEqDiff, reduceIte, Nat.reduceAdd, hc])
      | (refine WpO.do (WpX.ldB rfl ?_ ?_); (focus omega); try simp only [nrm, Nat.reduceEqDiff, reduceIte, Nat.reduceAdd, hc])
      | (refine WpO.do (WpX.ldI rfl ?_ ?_); (focus omega); try simp only [nrm, Nat.reduceEqDiff, reduceIte, Nat.reduceAdd, hc])
      | (refine WpO.do (WpX.build (by repeat (first | refine aFill1 (by (try simp only [nrm, Nat.reduceEqDiff, reduceIte, Nat.reduceAdd, hc]); rfl) rfl ?_ | rfl)) ?_); try simp only [nrm, Nat.reduceEqDiff, reduceIte, Nat.reduceAdd, hc])
      | (refine WpO.guard rfl (fun _ => ?_) (fun h => absurd rfl h))
      | (refine WpO.guard rfl (fun h => absurd h (by decide)) (fun _ => ?_); try simp only [nrm, Nat.reduceEqDiff, reduceIte, Nat.reduceAdd, hc])
      | refine WpO.nil ?_
      | refine Wp.seq ?_
      | refine Wp.region ?_
      | refine Wp.dquiet rfl rfl ?_
      | refine Wp.cond (b := true) rfl ?_
      | refine Wp.cond (b := false) rfl ?_
      | refine Wp.skip ?_
      | refine Wp.ret ?_
      | refine Wp.block ?_
      | refine Wp.exit ?_
      | dsimp only [cond_true, cond_false])
    refine ⟨trivial, _, (by first | rfl | exact getAllC rfl rfl rfl rfl | exact getAllT rfl (getAllC rfl rfl rfl rfl) | exact getAllC rfl rfl rfl (getAllC rfl rfl rfl rfl) | exact getAllC1 rfl rfl rfl), ?_⟩
    exact ⟨q, rfl, inferInstance, hf.weak, inferInstance, Ext0.ext⟩
  · have hil : i < l.length := by have := of_decide_eq_true hc; omega
    have hfl := lv_length (l.take i)
    have hlt : l[i].toNat < 256 := l[i].toNat_lt
    have hw1 := wa1 (a := i) (by omega)
    have hb := lv_bound (l.take i) l[i].toNat
    have hgd : (lv (l.take i)).getD l[i].toNat 0 = (lv (l.take i))[l[i].toNat] := by simp [hfl, hlt]
    rw [hgd, List.length_take, Nat.min_eq_left hi] at hb
    have hw2 : IntKind.i64.wrap ((lv (l.take i))[l[i].toNat] + 1) = (lv (l.take i))[l[i].toNat] + 1 := w64 (by omega)
    repeat (first
      | (refine WpO.do (WpX.ld rfl rfl ?_); try simp only [nrm, Nat.reduceEqDiff, reduceIte, Nat.reduceAdd, hc, hw2])
      | (refine WpO.do (WpX.ldN rfl rfl rfl ?_); try simp only [nrm, Nat.reduceEqDiff, reduceIte, Nat.reduceAdd, hc, hw2])
      | (refine WpO.do (WpX.lenP (by (try simp only [nrm, Nat.reduceEqDiff, reduceIte, Nat.reduceAdd, hc, hw2]); rfl) ?_); try simp only [nrm, Nat.reduceEqDiff, reduceIte, Nat.reduceAdd, hc, hw2])
      | (refine WpO.now rfl rfl ?_; try simp only [nrm, Nat.reduceEqDiff, reduceIte, Nat.reduceAdd, hc, hw2])
      | (refine WpO.do' (WpX.st rfl (by (try simp only [nrm, Nat.reduceEqDiff, reduceIte, Nat.reduceAdd, hc, hw2]); rfl) rfl rfl rfl (by repeat (first | rfl | refine allOne_cons ?_)) rfl ?_); try simp only [nrm, Nat.reduceEqDiff, reduceIte, Nat.reduceAdd, hc, hw2])
      | (refine WpO.do (WpX.pcall hn rfl (by simp only [nrm, Nat.reduceEqDiff, reduceIte, Nat.reduceAdd, hc, hw2, List.map]; rfl) rfl fun _ _ => ?_); try simp only [nrm, Nat.reduceEqDiff, reduceIte, Nat.reduceAdd, hc, hw2])
      | (refine WpO.do (WpX.idxP (by (try simp only [nrm, Nat.reduceEqDiff, reduceIte, Nat.reduceAdd, hc, hw2]); rfl) rfl ?_ ?_); (focus omega); try simp only [nrm, Nat.reduceEqDiff, reduceIte, Nat.reduceAdd, hc, hw2])
      | (refine WpO.do (WpX.ldB rfl ?_ ?_); (focus omega); try simp only [nrm, Nat.reduceEqDiff, reduceIte, Nat.reduceAdd, hc, hw2])
      | (refine WpO.do (WpX.ldI rfl ?_ ?_); (focus omega); try simp only [nrm, Nat.reduceEqDiff, reduceIte, Nat.reduceAdd, hc, hw2])
      | (refine WpO.do (WpX.build (by repeat (first | refine aFill1 (by (try simp only [nrm, Nat.reduceEqDiff, reduceIte, Nat.reduceAdd, hc, hw2]); rfl) rfl ?_ | rfl)) ?_); try simp only [nrm, Nat.reduceEqDiff, reduceIte, Nat.reduceAdd, hc, hw2])
      | (refine WpO.guard rfl (fun _ => ?_) (fun h => absurd rfl h))
      | (refine WpO.guard rfl (fun h => absurd h (by decide)) (fun _ => ?_); try simp only [nrm, Nat.reduceEqDiff, reduceIte, Nat.reduceAdd, hc, hw2])
      | refine WpO.nil ?_
      | refine Wp.seq ?_
      | refine Wp.region ?_
      | refine Wp.dquiet rfl rfl ?_
      | refine Wp.cond (b := true) rfl ?_
      | refine Wp.cond (b := false) rfl ?_
      | refine Wp.skip ?_
      | refine Wp.ret ?_
      | refine Wp.block ?_
      | refine Wp.exit ?_
      | dsimp only [cond_true, cond_false])
    refine WpO.do' (WpX.stI rfl rfl (by omega) fun H4 hb4 hw4 hx4 => ?_)
    repeat (first
      | (refine WpO.do (WpX.ld rfl rfl ?_); try simp only [nrm, Nat.reduceEqDiff, reduceIte, Nat.reduceAdd, hc])
      | (refine WpO.do (WpX.ldN rfl rfl rfl ?_); try simp only [nrm, Nat.reduceEqDiff, reduceIte, Nat.reduceAdd, hc])
      | (refine WpO.do (WpX.lenP (by (try simp only [nrm, Nat.reduceEqDiff, reduceIte, Nat.reduceAdd, hc]); rfl) ?_); try simp only [nrm, Nat.reduceEqDiff, reduceIte, Nat.reduceAdd, hc])
      | (refine WpO.now rfl rfl ?_; try simp only [nrm, Nat.reduceEqDiff, reduceIte, Nat.reduceAdd, hc])
      | (refine WpO.do' (WpX.st rfl (by (try simp only [nrm, Nat.reduceEqDiff, reduceIte, Nat.reduceAdd, hc]); rfl) rfl rfl rfl (by repeat (first | rfl | refine allOne_cons ?_)) rfl ?_); try simp only [nrm, Nat.reduceEqDiff, reduceIte, Nat.reduceAdd, hc])
      | (refine WpO.do (WpX.pcall hn rfl (by simp only [nrm, Nat.reduceEqDiff, reduceIte, Nat.reduceAdd, hc, List.map]; rfl) rfl fun _ _ => ?_); try simp only [nrm, Nat.reduceEqDiff, reduceIte, Nat.reduceAdd, hc])
      | (refine WpO.do (WpX.idxP (by (try simp only [nrm, Nat.reduceEqDiff, reduceIte, Nat.reduceAdd, hc]); rfl) rfl ?_ ?_); (focus omega); try simp only [nrm, Nat.reduceEqDiff, reduceIte, Nat.reduceAdd, hc])
      | (refine WpO.do (WpX.ldB rfl ?_ ?_); (focus omega); try simp only [nrm, Nat.reduceEqDiff, reduceIte, Nat.reduceAdd, hc])
      | (refine WpO.do (WpX.ldI rfl ?_ ?_); (focus omega); try simp only [nrm, Nat.reduceEqDiff, reduceIte, Nat.reduceAdd, hc])
      | (refine WpO.do (WpX.build (by repeat (first | refine aFill1 (by (try simp only [nrm, Nat.reduceEqDiff, reduceIte, Nat.reduceAdd, hc]); rfl) rfl ?_ | rfl)) ?_); try simp only [nrm, Nat.reduceEqDiff, reduceIte, Nat.reduceAdd, hc])
      | (refine WpO.guard rfl (fun _ => ?_) (fun h => absurd rfl h))
      | (refine WpO.guard rfl (fun h => absurd h (by decide)) (fun _ => ?_); try simp only [nrm, Nat.reduceEqDiff, reduceIte, Nat.reduceAdd, hc])
      | refine WpO.nil ?_
      | refine Wp.seq ?_
      | refine Wp.region ?_
      | refine Wp.dquiet rfl rfl ?_
      | refine Wp.cond (b := true) rfl ?_
      | refine Wp.cond (b := false) rfl ?_
      | refine Wp.skip ?_
      | refine Wp.ret ?_
      | refine Wp.block ?_
      | refine Wp.exit ?_
      | dsimp only [cond_true, cond_false])
    refine ⟨i + 1, by omega, ⟨by simp only [nrm, Nat.reduceEqDiff, reduceIte, Nat.reduceAdd]; rw [hw1], trivial⟩, hil, ?_, inferInstance, inferInstance⟩
    rw [lv_take_succ hil]
    simp only [lvStep, hgd]
    exact hb4
end Go.Am
