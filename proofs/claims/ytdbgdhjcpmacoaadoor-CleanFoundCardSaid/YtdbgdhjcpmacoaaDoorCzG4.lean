/-
  CleanFound returns true for all widths, rows, specks, skews and levels. No condition.
-/
import Derived.Test.YtdbgdhjcpmacoaaDoorAmBE
set_option linter.unusedSimpArgs false
set_option linter.unusedVariables false
set_option maxHeartbeats 8000000
set_option maxRecDepth 100000
set_option synthInstance.maxHeartbeats 4000000
set_option synthInstance.maxSize 1000000000
namespace Go.Am
open Go
section
variable {f : Int → Int × Int}
theorem fs_keep {s : Int × Int} (hs : 0 < s.2) : ∀ l : List Int, (∀ x ∈ l, (f x).2 ≠ 0 ∨ (f x).1 ≤ 0) → l.foldl (fsStep f) s = s
  | [], _ => rfl
  | x :: l, h => by
    have e : fsStep f s x = s := by
      unfold fsStep
      cases h0 : (f x).2 == 0
      · rfl
      · have h0 : (f x).2 = 0 := eq_of_beq h0
        have := h x (List.mem_cons_self ..)
        rw [cond_true, decide_eq_false (by omega), cond_false]
    rw [List.foldl_cons, e]
    exact fs_keep hs l fun y hy => h y (List.mem_cons_of_mem _ hy)
theorem fs_fold {k : Int} (h0 : (f k).2 = 0) (h1 : 0 < (f k).1) : ∀ (l : List Int) (s : Int × Int), l.Nodup → k ∈ l → s.2 ≤ 0 → (∀ x ∈ l, x ≠ k → (f x).2 ≠ 0 ∨ (f x).1 ≤ 0) → l.foldl (fsStep f) s = (k, (f k).1)
  | [], _, _, hk, _, _ => by cases hk
  | x :: l, s, hn, hk, hs, h => by
    rw [List.nodup_cons] at hn
    rw [List.foldl_cons]
    by_cases e : x = k
    · have e2 : fsStep f s x = (k, (f k).1) := by
        unfold fsStep
        rw [e, h0, decide_eq_true (by omega)]; rfl
      rw [e2]
      exact fs_keep h1 l fun y hy => h y (List.mem_cons_of_mem _ hy) (fun q => hn.1 (by rw [e, ← q]; exact hy))
    · refine fs_fold h0 h1 l _ hn.2 ?_ ?_ fun y hy => h y (List.mem_cons_of_mem _ hy)
      · rcases List.mem_cons.1 hk with q | q
        · exact absurd q.symm e
        · exact q
      · have hb := h x (List.mem_cons_self ..) e
        unfold fsStep
        cases h2 : (f x).2 == 0
        · exact hs
        · have h2 : (f x).2 = 0 := eq_of_beq h2
          rw [cond_true]
          cases decide ((f x).1 > s.2)
          · exact hs
          · show (f x).1 ≤ 0
            omega
theorem fs_pick {k : Int} (hk : -3 ≤ k ∧ k ≤ 3) (h0 : (f k).2 = 0) (h1 : 0 < (f k).1) (h : ∀ x, -3 ≤ x → x ≤ 3 → x ≠ k → (f x).2 ≠ 0 ∨ (f x).1 ≤ 0) : (fsA f skAll).1 = k := by
  have hm : ∀ x : Int, -3 ≤ x ∧ x ≤ 3 ↔ x ∈ skAll := fun x => by
    simp only [List.mem_cons, List.not_mem_nil, or_false]
    omega
  unfold fsA
  rw [fs_fold h0 h1 skAll _ (by decide) ((hm k).1 hk) (by decide) fun x hx hne => h x ((hm x).2 hx).1 ((hm x).2 hx).2 hne]
end
theorem full_iff {l : List UInt8} {a y : Nat} (ha : 0 < a) : isFull l a y = true ↔ ∀ x, x < a → l.getD (y * a + x) 0 = 1 := by
  unfold isFull rc
  have hl := List.length_filter_le (fun u => l.getD (y * a + u) 0 == 1) (List.range a)
  rw [List.length_range] at hl
  rw [Bool.and_eq_true, beq_iff_eq, decide_eq_true_eq]
  constructor
  · rintro ⟨h1, _⟩ x hx
    have h2 : ((List.range a).filter fun u => l.getD (y * a + u) 0 == 1).length = (List.range a).length := by rw [List.length_range]; omega
    have h3 := List.length_filter_eq_length_iff.1 h2 x (List.mem_range.2 hx)
    simpa using h3
  · intro h
    have h2 : ((List.range a).filter fun u => l.getD (y * a + u) 0 == 1).length = (List.range a).length := List.length_filter_eq_length_iff.2 fun x hx => by
      have := h x (List.mem_range.1 hx)
      simpa using this
    rw [List.length_range] at h2
    omega
theorem fullN_zero {l : List UInt8} {a : Nat} : ∀ n, (∀ y, y < n → isFull l a y = false) → fullN l a n = 0
  | 0, _ => rfl
  | n + 1, h => by
    unfold fullN
    rw [h n (Nat.lt_succ_self n), cond_false]
    exact fullN_zero n fun y hy => h y (by omega)
theorem fullN_pos {l : List UInt8} {a y : Nat} (h : isFull l a y = true) : ∀ n, y < n → 0 < fullN l a n
  | 0, hy => absurd hy (Nat.not_lt_zero y)
  | n + 1, hy => by
    unfold fullN
    by_cases e : y = n
    · rw [← e, h, cond_true]; omega
    · have := fullN_pos h n (by omega)
      cases isFull l a n
      · exact this
      · rw [cond_true]; omega
theorem cf_at {a x y : Nat} (hx : x < a) : (y * a + x) % a = x ∧ (y * a + x) / a = y := by
  rw [Nat.add_comm, Nat.mul_comm]
  exact ⟨by rw [Nat.add_mul_mod_self_left, Nat.mod_eq_of_lt hx], by rw [Nat.add_mul_div_left _ _ (by omega), Nat.div_eq_of_lt hx, Nat.zero_add]⟩
theorem cf_lt {a c x y : Nat} (hx : x < a) (hy : y < c) : y * a + x < a * c := by
  have h : (y + 1) * a ≤ c * a := Nat.mul_le_mul_right a hy
  rw [Nat.add_mul, Nat.one_mul, Nat.mul_comm c a] at h
  omega
theorem cf_map {f : Nat → UInt8} {n i : Nat} (h : i < n) : ((List.range n).map f).getD i 0 = f i := by simp [h]
theorem un_ink {a b c : Nat} {k k' : Int} {s : List UInt8} {x y : Nat} (hx : x < a) (hy : y < c) (h : (unskewL (skewL s a b k) a c k').getD (y * a + x) 0 = 1) : dropN a k x ≤ y + dropN a k' x ∧ y + dropN a k' x - dropN a k x < b ∧ s.getD ((y + dropN a k' x - dropN a k x) * a + x) 0 = 1 := by
  obtain ⟨e1, e2⟩ := cf_at (y := y) hx
  unfold unskewL at h
  rw [cf_map (cf_lt hx hy)] at h
  unfold unF at h
  rw [e1, e2] at h
  obtain ⟨e3, e4⟩ := cf_at (y := y + dropN a k' x) hx
  by_cases hj : (y + dropN a k' x) * a + x < a * (b + grN a k a)
  · unfold skewL fillP at h
    rw [cf_map hj] at h
    unfold skP skF at h
    rw [e3, e4] at h
    by_cases hq : dropN a k x ≤ y + dropN a k' x ∧ (y + dropN a k' x - dropN a k x < b ∨ (y + dropN a k' x - dropN a k x = b ∧ x < 0))
    · rw [decide_eq_true hq, if_pos rfl] at h
      exact ⟨hq.1, by omega, h⟩
    · rw [decide_eq_false hq] at h
      simp at h
  · have hl : (skewL s a b k).length = a * (b + grN a k a) := by simp [skewL, fillP]
    rw [List.getD_eq_getElem?_getD, List.getElem?_eq_none (by omega)] at h
    simp at h
def inkS (s : List UInt8) (a b : Nat) (x : Nat) (r : Int) : Prop := 0 ≤ r ∧ r < b ∧ s.getD (r.toNat * a + x) 0 = 1
theorem un_none {a b c : Nat} {k k' : Int} {s : List UInt8} {F : Int → Prop} (h : Rul a (inkS s a b) F) (hk : -3 ≤ k ∧ k ≤ 3) (hk' : -3 ≤ k' ∧ k' ≤ 3) (ha : 65 ≤ a) (hne : k ≠ k') : fullN (unskewL (skewL s a b k) a c k') a c = 0 := by
  refine fullN_zero c fun y hy => ?_
  cases hf : isFull (unskewL (skewL s a b k) a c k') a y
  · rfl
  · exfalso
    refine rul_none h hk hk' ha hne (y : Int) fun x hx => ?_
    obtain ⟨h1, h2, h3⟩ := un_ink hx hy ((full_iff (by omega)).1 hf x hx)
    refine ⟨by omega, by omega, ?_⟩
    rw [show ((y : Int) + dropN a k' x - dropN a k x).toNat = y + dropN a k' x - dropN a k x by omega]
    exact h3
theorem cf_inj {a x y x' y' : Nat} (hx : x < a) (hx' : x' < a) (h : y * a + x = y' * a + x') : x = x' ∧ y = y' := by
  have h1 := cf_at (y := y) hx
  have h2 := cf_at (y := y') hx'
  rw [h] at h1
  exact ⟨h1.1.symm.trans h2.1, h1.2.symm.trans h2.2⟩
theorem set_one {M : List UInt8} {j k : Nat} (hj : j < M.length) : (M.set j 1).getD k 0 = 1 ↔ M.getD k 0 = 1 ∨ k = j := by
  rw [List.getD_eq_getElem?_getD, List.getD_eq_getElem?_getD]
  by_cases h : j = k
  · rw [← h, List.getElem?_set_self hj]
    simp
  · rw [List.getElem?_set_ne h]
    simp [Ne.symm h]
theorem paint_step {a b : Nat} {M : List UInt8} {P : Nat → Nat → Prop} {x z : Nat} (hM : M.length = a * b) (hx : x < a) (hz : z < b) (h : ∀ x' r, x' < a → r < b → (M.getD (r * a + x') 0 = 1 ↔ P x' r)) : ∀ x' r, x' < a → r < b → ((M.set (z * a + x) 1).getD (r * a + x') 0 = 1 ↔ P x' r ∨ (x' = x ∧ r = z)) := by
  intro x' r hx' hr
  rw [set_one (by rw [hM]; exact cf_lt hx hz), h x' r hx' hr]
  constructor
  · rintro (q | q)
    · exact Or.inl q
    · exact Or.inr (cf_inj hx' hx q)
  · rintro (q | ⟨q1, q2⟩)
    · exact Or.inl q
    · exact Or.inr (by rw [q1, q2])
theorem pnt_next {A : Prop} {r z x x' : Nat} : ((A ∨ (r = z ∧ x' < x)) ∨ (x' = x ∧ r = z)) ↔ (A ∨ (r = z ∧ x' < x + 1)) := by
  by_cases h : A <;> simp only [h, true_or, false_or] <;> omega
structure RulF (a b : Nat) (l : List UInt8) (F : List Int) : Prop where
  far : ∀ r ∈ F, ∀ r' ∈ F, r ≠ r' → 3 ≤ r - r' ∨ 3 ≤ r' - r
  ink : ∀ x r : Nat, x < a → r < b → (l.getD (r * a + x) 0 = 1 ↔ (r : Int) ∈ F)
  some : ∃ r : Nat, r < b ∧ (r : Int) ∈ F
  none : ∃ r : Nat, r < b ∧ (r : Int) ∉ F
theorem rep_zero {n j : Nat} : (List.replicate n (0 : UInt8)).getD j 0 ≠ 1 := by
  rw [List.getD_eq_getElem?_getD, List.getElem?_replicate]
  split <;> decide
theorem RulF.start {a b : Nat} {l : List UInt8} {F : List Int} (h : RulF a b l F) : Rul a (inkS l a b) (fun r => r ∈ F) :=
  Rul.start (fun r r' h1 h2 h3 => h.far r h1 r' h2 h3) fun x r hx hs => by
    obtain ⟨h0, hb, hi⟩ := hs
    have := (h.ink x r.toNat hx (by omega)).1 hi
    rwa [show ((r.toNat : Nat) : Int) = r by omega] at this
theorem speck_more {a b : Nat} {M : List UInt8} {F : Int → Prop} {x y : Nat} (hM : M.length = a * b) (hx : x < a) (hy : y < b) (h : Rul a (inkS M a b) F)
    (hfree : ∀ v u : Nat, y - 1 ≤ v → v ≤ y + 1 → v < b → x - 1 ≤ u → u ≤ x + 1 → u < a → M.getD (v * a + u) 0 ≠ 1) : Rul a (inkS (M.set (y * a + x) 1) a b) F := by
  refine h.add (u := x) (v := (y : Int)) (fun x' r hx' h1 h2 hs => ?_) fun x' r hx' => ?_
  · obtain ⟨q0, qb, qi⟩ := hs
    exact hfree r.toNat x' (by omega) (by omega) (by omega) (by omega) (by omega) hx' qi
  · unfold inkS
    constructor
    · rintro ⟨q0, qb, qi⟩
      rcases (set_one (by rw [hM]; exact cf_lt hx hy)).1 qi with q | q
      · exact Or.inl ⟨q0, qb, q⟩
      · have := cf_inj hx' hx q
        exact Or.inr ⟨this.1, by omega⟩
    · rintro (⟨q0, qb, qi⟩ | ⟨q1, q2⟩)
      · exact ⟨q0, qb, (set_one (by rw [hM]; exact cf_lt hx hy)).2 (Or.inl qi)⟩
      · refine ⟨by omega, by omega, (set_one (by rw [hM]; exact cf_lt hx hy)).2 (Or.inr ?_)⟩
        rw [q1, q2, Int.toNat_natCast]
end Go.Am
namespace Go.Am
open Go Go.RowKit
def cellsU (l : List Nat) : List AVal := l.map fun (n : Nat) => AVal.int .u16 ((n : Nat) : Int)
abbrev U16I (H : AHeap) (p : AVal) (l : List Nat) : Prop := SliceAt H p 1 l.length (cellsU l)
theorem cellsU_get {l : List Nat} {i : Nat} (h : i < l.length) : (cellsU l)[i]? = some (.int .u16 ((l[i] : Nat) : Int)) := by simp [cellsU, h]
theorem cellsU_take (l : List Nat) (n : Nat) : (cellsU l).take n = cellsU (l.take n) := by simp [cellsU, List.map_take]
section
variable {call : ACall} {fr : AFrame} {H : AHeap}
theorem exec_pre {x y : ROpd} {p : AVal} {k : IntKind} {n b : Nat} {cs : List AVal} (hx : x.ev fr = p) (hy : y.ev fr = .int k (b : Int)) (hb : b ≤ n) [s : SliceAt H p 1 n cs] :
    ∃ v, (ROp.sliceS 1 x none (some y) none).exec call fr H = some (v, H) ∧ SliceAt H v 1 b (cs.take b) ∧ OneV v ∧ (∀ r off len cap sz, v = .slice r off len cap sz → ∃ off' len' cap' sz', p = .slice r off' len' cap' sz') := by
  have hbd : ∀ y0, b ≤ y0 → aBound y0 (.int k (b : Int)) = some b := by
    intro y0 hy0
    simp only [aBound]
    rw [if_pos (by omega), Int.toNat_natCast]
  rcases s.it with ⟨rfl, rfl, rfl⟩ | ⟨r, off, cap, row, rw, e, rfl, hr, hg, hl, hc, hcap⟩
  · have : b = 0 := by omega
    subst this
    refine ⟨.nslice, ?_, ⟨Or.inl ⟨rfl, rfl, rfl⟩⟩, inferInstance, fun _ _ _ _ _ e => by cases e⟩
    simp only [ROp.exec, hx, Option.map_none, Option.map_some, hy, aSliceS, aBounds, aHigh, capD, hbd 0 (Nat.le_refl _), aLow, M.pure]
  · rw [Nat.mul_one] at hl hc
    have hb0 : aBounds n cap none (some (.int k (b : Int))) none = some (0, b, cap) := by
      simp only [aBounds, aHigh, hbd _ (Nat.le_trans hb hcap), aLow]
    have hs : ∀ cap', b ≤ capD b cap' → SliceAt H (.slice r off b cap' 1) 1 b (cs.take b) := fun cap' h' =>
      ⟨Or.inr ⟨r, off, cap', row, rw, e, rfl, hr, hg, by omega, by rw [Nat.mul_one, ← hc, List.take_take, Nat.min_eq_left hb], h'⟩⟩
    cases cap with
    | some c =>
      simp only [capD] at hcap
      by_cases hc0 : c = 0
      · have : b = 0 := by omega
        subst this
        refine ⟨.slice r off 0 (some 0) 1, ?_, hs _ (Nat.zero_le _), inferInstance, fun _ _ _ _ _ e => by cases e; exact ⟨_, _, _, _, rfl⟩⟩
        simp only [ROp.exec, hx, Option.map_none, Option.map_some, hy, aSliceS, ne_eq, not_true, if_false, hb0, M.pure, if_pos hc0]
      · refine ⟨.slice r off b (some c) 1, ?_, hs _ (by simp only [capD]; omega), inferInstance, fun _ _ _ _ _ e => by cases e; exact ⟨_, _, _, _, rfl⟩⟩
        simp only [ROp.exec, hx, Option.map_none, Option.map_some, hy, aSliceS, ne_eq, not_true, if_false, hb0, M.pure, if_neg hc0, Nat.zero_mul, Nat.add_zero, Nat.sub_zero]
    | none =>
      refine ⟨.slice r off b none 1, ?_, hs _ (Nat.le_refl _), inferInstance, fun _ _ _ _ _ e => by cases e; exact ⟨_, _, _, _, rfl⟩⟩
      have h2 : ¬ row.length < off + n := by omega
      have hrow : aRow r H = some ((row, rw), H) := by simp only [aRow, if_pos hr, hg]
      simp only [ROp.exec, hx, Option.map_none, Option.map_some, hy, aSliceS, ne_eq, not_true, if_false, hb0, Nat.mul_one, Nat.one_ne_zero, M.bind, hrow, if_neg h2, or_true, if_true, M.pure, Nat.add_zero, Nat.sub_zero]
theorem Fo.pre {KF : AFrame → AHeap → Prop} {os : List ROper} {d : Nat} {x y : ROpd} {p : AVal} {k : IntKind} {n b : Nat} {cs : List AVal} (hx : x.ev fr = p) (hy : y.ev fr = .int k (b : Int)) (hb : b ≤ n) [s : SliceAt H p 1 n cs]
    (h : ∀ v, SliceAt H v 1 b (cs.take b) → OneV v → (∀ r off len cap sz, v = .slice r off len cap sz → ∃ off' len' cap' sz', p = .slice r off' len' cap' sz') → WpO call os (upd fr d v) H KF) : WpO call (⟨some d, .sliceS 1 x none (some y) none, none⟩ :: os) fr H KF := by
  obtain ⟨v, h1, h2, h3, h4⟩ := exec_pre (call := call) hx hy hb (s := s)
  exact WpO.step rfl ⟨v, H, h1, h v h2 h3 h4⟩
end
section
variable {P : Program} {H : AHeap} {n : Nat} {t e : TypeId} {cs : List AVal}
theorem shapes_u16 (hu : P.underlying e = some (.int .u16)) : ∀ {len : Nat} {cells : List AVal}, shapes (Shape P H (n + 1)) (List.replicate len e) cells → ∃ l : List Nat, l.length = len ∧ cells = cellsU l ∧ ∀ n ∈ l, n < 65536 := by
  intro len
  induction len with
  | zero => intro cells h; exact ⟨[], rfl, h, fun _ q => by cases q⟩
  | succ len ih =>
    intro cells h
    obtain ⟨a, b, rfl, h1, h2⟩ := h
    obtain ⟨i, rfl, hw⟩ := shape_int hu h1
    obtain ⟨x, rfl, hx⟩ := u16_of hw
    obtain ⟨l, hl, rfl, hm⟩ := ih h2
    exact ⟨x :: l, by simp [hl], rfl, fun n q => by
      rcases List.mem_cons.1 q with q | q
      · rw [q]; exact hx
      · exact hm n q⟩
theorem shape_u16s (hu : P.underlying t = some (.slice e)) (he : P.underlying e = some (.int .u16)) (hc : P.cellsOf e = 1) (h : Shape P H (n + 2) t cs) : ∃ p l, cs = [p] ∧ U16I H p l ∧ (∀ n ∈ l, n < 65536) ∧ l.length ≤ maxLen := by
  rw [Shape, hu] at h
  obtain ⟨p, len, cells, rfl, h2, h3, h4⟩ := h
  obtain ⟨l, rfl, rfl, hm⟩ := shapes_u16 he h4
  rw [hc] at h2
  exact ⟨p, l, rfl, h2, hm, h3⟩
end
section
variable {call : ACall} {lf : Nat} {fr : AFrame} {H : AHeap} {Q : RExit → AFrame → AHeap → Prop} {a b : RCode}
theorem Wp.seqE {σ : Type} (L : σ → List (Nat × AVal)) (PH : σ → AHeap → Prop) (h1 : ∀ s g H', PH s H' → Wp call lf b (updL (L s) g) H' Q) (h2 : Wp call lf a fr H fun x fr' H' => match x with | .normal => ∃ s, agrees (L s) fr' ∧ PH s H' | e => Q e fr' H') : Wp call lf (.seq a b) fr H Q :=
  Wp.seq (Wp.mono h2 fun x fr' H' h => by
    cases x with
    | normal =>
      obtain ⟨s, h3, h4⟩ := h
      have := h1 s fr' H' h4
      rwa [updL_agrees h3] at this
    | exit id => exact h
    | ret => exact h)
end
end Go.Am
namespace Go.Am
open Go
attribute [local irreducible] Wp WpO WpX WpE
theorem u8m (c : UInt8) (k : Nat) (hk : 0 < k) : IntKind.i64.wrap ((c.toNat : Int).tmod (k : Int)) = ((c.toNat % k : Nat) : Int) := by
 rw [show (c.toNat : Int).tmod (k : Int) = ((c.toNat % k : Nat) : Int) from rfl]
 have := Nat.mod_lt c.toNat hk
 have := Nat.mod_le c.toNat k
 have := c.toNat_lt
 exact w64 (by omega)
theorem min_nat {a b : Nat} : (if (b : Int) < (a : Int) then (b : Int) else (a : Int)) = ((min a b : Nat) : Int) := by split <;> omega
theorem cellsB_take (l : List UInt8) (k : Nat) : (cellsB l).take k = cellsB (l.take k) := by simp [cellsB, List.map_take]
structure RuS (H : AHeap) (pv : AVal) (F : List Int) (i y : Nat) (Hb : AHeap) : Prop where
 own : OwnS H pv 1 F.length (cellsI F) 3
 len : F.length = i
 le : ∀ t ∈ F, 0 ≤ t ∧ t ≤ (y : Int)
 bd : y ≤ 5 + 6 * i
 fresh : FreshS Hb pv
 ext : Ext Hb H
 far : ∀ r ∈ F, ∀ r' ∈ F, r ≠ r' → 3 ≤ r - r' ∨ 3 ≤ r' - r
theorem one_intsC {H : AHeap} {k : Int} {e : TypeId} : SliceAt (H.push (.row [.int .i64 k] true e)) (.slice H.n 0 1 (some 1) 1) 1 1 [.int .i64 k] := ⟨Or.inr ⟨H.n, 0, some 1, _, true, e, rfl, Nat.lt_succ_self _, push_get_eq, Nat.le_refl _, rfl, Nat.le_refl _⟩⟩
theorem K_RuledF {c : UInt8} {p : AVal} {H : AHeap} {rows : List UInt8} [hp : BytesI H p rows] : Con ext prog 1 14 [.int .u8 (c.toNat : Int), p] H fun v H' => ∃ (a b : Nat) (l : List UInt8) (F : List Int), 65 ≤ a ∧ a ≤ 160 ∧ 2 ≤ b ∧ b ≤ 100 ∧ Ok a b l ∧ RulF a b l F ∧ NewInk H H' v ⟨a, b, l⟩ := by
 refine con_of (show prog 14 = some c14 from rfl) rfl rfl fun n hn => ?_
 haveI := hp.one
 have t96 : IntKind.i64.wrap ((c.toNat : Int).tmod 96) = ((c.toNat % 96 : Nat) : Int) := u8m c 96 (by decide)
 have hc96 := Nat.mod_lt c.toNat (show 0 < 96 by decide)
 obtain ⟨a, ha⟩ : ∃ a, 65 + c.toNat % 96 = a := ⟨_, rfl⟩
 have w1 : IntKind.i64.wrap (65 + ((c.toNat % 96 : Nat) : Int)) = (a : Int) := by rw [w64 (by omega)]; omega
 obtain ⟨k, hk⟩ : ∃ k, min rows.length 12 = k := ⟨_, rfl⟩
 have hmn : (if (12 : Int) < ((rows.length : Nat) : Int) then 12 else ((rows.length : Nat) : Int)) = (k : Int) := by rw [← hk]; exact min_nat (b := 12)
 refine sq ?_
 refine Fr.region fun KF hK1 => ?_
 refine nw ?_
 refine WpO.nil (hK1 _ _ ?_)
 refine sq ?_
 refine Fr.region fun KF hK2 => ?_
 refine mI ?_
 refine b0 ?_
 refine Fo.now rfl rfl (by simp only [t96, w1]; rfl) ?_
 refine bn rfl rfl rfl (by simp only [t96, w1]; rfl) ?_
 refine mI ?_
 refine WpO.nil (hK2 _ _ ?_)
 refine sq ?_
 refine Fr.region fun KF hK3 => ?_
 refine mN ?_
 refine WpO.nil (hK3 _ _ ?_)
 refine sq ?_
 refine Fr.region fun KF hK4 => ?_
 refine mI ?_
 refine WpO.nil (hK4 _ _ ?_)
 refine Wp.seqE (σ := AVal × List Int × Nat) (fun s => [(0, .int .u8 (c.toNat : Int)), (4, .ptr H.n 0), (5, .int .i64 (a : Int)), (6, s.1), (7, .int .i64 (s.2.2 : Int))]) (fun s H' => s.2.1.length ≤ 12 ∧ RuS H' s.1 s.2.1 s.2.1.length s.2.2 (H.push (.row [.int .i64 0, .int .i64 0, .nslice] true (2 * 29)))) ?_ ?_
 rotate_left
 ·skip
  refine sq ?_
  refine rg fun KF hKF => ?_
  refine mv ?_
  refine mv ?_
  refine ln (by simp only [↓nrmL, nrmK, Nat.reduceEqDiff, ↓reduceIte]; rfl) ?_
  refine Fo.now rfl rfl (by simp only [hmn]; rfl) ?_
  refine Fo.pre (p := p) (b := k) rfl rfl (by omega) fun pv hpv hone hsub => ?_
  rw [cellsB_take] at hpv
  have hkl : (rows.take k).length = k := by rw [List.length_take]; omega
  haveI hpv2 : BytesI (H.push (.row [.int .i64 0, .int .i64 0, .nslice] true (2 * 29))) pv (rows.take k) := by unfold BytesI; rw [hkl]; exact hpv
  clear hpv
  haveI := hone
  refine ln (by simp only [↓nrmL, nrmK, Nat.reduceEqDiff, ↓reduceIte]; rfl) ?_
  refine mI ?_
  refine nl hKF ?_
  refine Wp.block ?_
  dsimp only [cond_true, cond_false]
  refine Wp.loopS (σ := Nat × AVal × List Int × Nat) [6, 7, 8, 9, 24, 25, 26, 27, 28, 29, 30, 31, 32, 33, 34, 35, 36, 37, 38, 39, 40, 41, 42, 43, 44] (fun s => [(24, .int .i64 (s.1 : Int)), (6, s.2.1), (7, .int .i64 (s.2.2.2 : Int))]) (fun H3 s H2 => s.1 ≤ k ∧ RuS H2 s.2.1 s.2.2.1 s.1 s.2.2.2 H3) (fun s => k - s.1) (0, .nslice, [], 0) rfl (fun _ => rfl) ⟨rfl, rfl, rfl, trivial⟩ ⟨Nat.zero_le _, ⟨⟨Or.inl ⟨rfl, rfl, rfl⟩⟩, rfl, fun t ht => (by cases ht), by dsimp only; omega, ⟨fun _ _ _ _ _ q => (by cases q)⟩, Ext.refl _, fun t ht => (by cases ht)⟩⟩ (by unfold fuel0 at hn; dsimp only; omega) ?_
  rintro ⟨i, fv, F, y⟩ g H2 ⟨hi, hru⟩
  dsimp only at hi hru
  obtain ⟨r1, r2, r3, r4, r5, r6, r7⟩ := hru
  haveI : ExtI _ H2 := ⟨r6⟩
  haveI := r1
  haveI := r1.sl
  haveI := r1.sl.one
  simp only [↓nrmL, nrmZ, Nat.reduceEqDiff, ↓reduceIte, Nat.reduceAdd, Int.reduceBEq, Int.reduceBNe]
  cases hc : decide ((i : Int) < (((rows.take k).length : Nat) : Int))
  ·have hik : i = k := by have := of_decide_eq_false hc; omega
   refine sq ?_
   refine rg fun KF hKF => ?_
   refine bn rfl rfl rfl (by simp only [hc]; rfl) ?_
   refine nl hKF ?_
   refine sq ?_
   refine cf rfl ?_
   refine xi ?_
   dsimp only [cond_true, cond_false]
   exact ⟨(fv, F, y), ⟨rfl, rfl, rfl, rfl, rfl, trivial⟩, by dsimp only; omega, r1, rfl, r3, by dsimp only; omega, r5, r6, r7⟩
  ·have hik : i < k := by have := of_decide_eq_true hc; omega
   have hil : i < (rows.take k).length := by omega
   have hw1 := wa1 (a := i) (by omega)
   obtain ⟨x, hx⟩ : ∃ x, (rows.take k)[i] = x := ⟨_, rfl⟩
   have t6 : IntKind.i64.wrap ((x.toNat : Int).tmod 6) = ((x.toNat % 6 : Nat) : Int) := u8m x 6 (by decide)
   have t4 : IntKind.i64.wrap ((x.toNat : Int).tmod 4) = ((x.toNat % 4 : Nat) : Int) := u8m x 4 (by decide)
   have hx6 := Nat.mod_lt x.toNat (show 0 < 6 by decide)
   have hx4 := Nat.mod_lt x.toNat (show 0 < 4 by decide)
   have hcs : ∀ z : Int, cellsI F ++ [.int .i64 z] = cellsI (F ++ [z]) := fun z => by simp [cellsI]
   have fin : ∀ (z : Nat) (p' : AVal) (H5 : AHeap), (∀ t ∈ F, t + 3 ≤ (z : Int)) → z ≤ 5 + 6 * (i + 1) → OwnS H5 p' 1 (F.length + 1) (cellsI F ++ [.int .i64 (z : Int)]) 3 → FreshS (H2.push (.row [.int .i64 (z : Int)] true (2 * 3))) p' → ExtP (H2.push (.row [.int .i64 (z : Int)] true (2 * 3))) H5 fv → RuS H5 p' (F ++ [(z : Int)]) (i + 1) z (H.push (.row [.int .i64 0, .int .i64 0, .nslice] true (2 * 29))) := by
    intro z p' H5 h1 h2 h3 h4 h5
    rw [hcs] at h3
    refine ⟨by rw [List.length_append, List.length_singleton]; exact h3, by rw [List.length_append, r2]; rfl, fun t ht => ?_, h2, ⟨fun r off len cap sz q => ?_⟩, ⟨?_, fun r hr => ?_⟩, fun t ht t' ht' hne => ?_⟩
    ·rcases List.mem_append.1 ht with q | q
     ·have := r3 t q; have := h1 t q; exact ⟨by omega, by omega⟩
     ·rw [List.mem_singleton.1 q]; omega
    ·have e1 := h4.ge _ _ _ _ _ q
     have e2 := r6.n
     have e3 : (H2.push (.row [.int .i64 (z : Int)] true (2 * 3))).n = H2.n + 1 := rfl
     omega
    ·have e1 := h5.n
     have e2 := r6.n
     have e3 : (H2.push (.row [.int .i64 (z : Int)] true (2 * 3))).n = H2.n + 1 := rfl
     omega
    ·have e2 := r6.n
     have e3 : (H2.push (.row [.int .i64 (z : Int)] true (2 * 3))).n = H2.n + 1 := rfl
     rw [h5.get r (by omega) ⟨fun r' off len cap sz q => by have := r5.ge _ _ _ _ _ q; omega⟩, push_get_lt (by omega)]
     exact r6.get r hr
    ·rcases List.mem_append.1 ht with q | q <;> rcases List.mem_append.1 ht' with q' | q'
     ·exact r7 t q t' q' hne
     ·rw [List.mem_singleton.1 q']; have := h1 t q; omega
     ·rw [List.mem_singleton.1 q]; have := h1 t' q'; omega
     ·rw [List.mem_singleton.1 q, List.mem_singleton.1 q'] at hne; exact absurd rfl hne
   cases h0 : ((i : Int) == 0)
   ·have w3 : IntKind.i64.wrap (3 + ((x.toNat % 4 : Nat) : Int)) = ((3 + x.toNat % 4 : Nat) : Int) := by rw [w64 (by omega)]; omega
    have w4 : IntKind.i64.wrap ((y : Int) + ((3 + x.toNat % 4 : Nat) : Int)) = ((y + (3 + x.toNat % 4) : Nat) : Int) := wa (by omega)
    repeat first
     | refine mI ?_
     | (refine mv ?_)
     | (refine bn rfl rfl rfl (by simp only [hc, hx, h0, t4, w3, w4]; rfl) ?_)
     | refine b0 ?_
     | (refine Fo.bslice rfl (by simp only [↓nrmL, nrmZ, Nat.reduceEqDiff, ↓reduceIte, Nat.reduceAdd, Int.reduceBEq, Int.reduceBNe, hc, hx, h0, t4, w3, w4]; rfl) ?_)
     | (refine Fo.idx (by simp only [↓nrmL, nrmK, Nat.reduceEqDiff, ↓reduceIte]; rfl) rfl ?_ (by simp only [↓nrmL, nrmZ, Nat.reduceEqDiff, ↓reduceIte, Nat.reduceAdd, Int.reduceBEq, Int.reduceBNe, hc, hx, h0, t4, w3, w4]; rfl) ?_; (focus omega))
     | (refine Fo.ldB rfl ?_ (by simp only [hc, hx, h0, t4, w3, w4]; rfl) ?_; (focus omega))
     | (refine Fo.now rfl rfl (by simp only [hc, hx, h0, t4, w3, w4]; rfl) ?_)
     | refine nl hKF ?_
     | refine sq ?_
     | refine rg fun KF hKF => ?_
     | refine ct rfl ?_
     | refine cf rfl ?_
     | refine sk ?_
     | refine Wp.block ?_
    refine WpO.do (WpX.growX (p := fv) (q := .slice H2.n 0 1 (some 1) 1) (k := 1) (new := [.int .i64 ((y + (3 + x.toNat % 4) : Nat) : Int)]) rfl rfl (by infer_instance) one_intsC (by decide) (by decide) (by decide) (by omega) rfl fun p' H5 ho5 hf5 hx5 => ?_)
    haveI := ho5.sl.one
    refine mv ?_
    refine nl hKF ?_
    refine rg fun KF hKF => ?_
    refine b0 ?_
    refine mI ?_
    refine nl hKF ?_
    dsimp only [cond_true, cond_false]
    exact ⟨(i + 1, p', F ++ [((y + (3 + x.toNat % 4) : Nat) : Int)], y + (3 + x.toNat % 4)), by dsimp only; omega, ⟨by simp only [↓nrmL, nrmZ, Nat.reduceEqDiff, ↓reduceIte, Nat.reduceAdd, Int.reduceBEq, Int.reduceBNe]; rw [hw1], rfl, rfl, trivial⟩, hik, fin _ _ _ (fun t ht => by have := r3 t ht; omega) (by omega) ho5 hf5 hx5⟩
   ·have hi0 : i = 0 := by have := eq_of_beq h0; omega
    have hF : F = [] := List.length_eq_zero_iff.1 (by omega)
    repeat first
     | refine mI ?_
     | (refine mv ?_)
     | (refine bn rfl rfl rfl (by simp only [hc, hx, h0, t6]; rfl) ?_)
     | refine b0 ?_
     | (refine Fo.bslice rfl (by simp only [↓nrmL, nrmZ, Nat.reduceEqDiff, ↓reduceIte, Nat.reduceAdd, Int.reduceBEq, Int.reduceBNe, hc, hx, h0, t6]; rfl) ?_)
     | (refine Fo.idx (by simp only [↓nrmL, nrmK, Nat.reduceEqDiff, ↓reduceIte]; rfl) rfl ?_ (by simp only [↓nrmL, nrmZ, Nat.reduceEqDiff, ↓reduceIte, Nat.reduceAdd, Int.reduceBEq, Int.reduceBNe, hc, hx, h0, t6]; rfl) ?_; (focus omega))
     | (refine Fo.ldB rfl ?_ (by simp only [hc, hx, h0, t6]; rfl) ?_; (focus omega))
     | (refine Fo.now rfl rfl (by simp only [hc, hx, h0, t6]; rfl) ?_)
     | refine nl hKF ?_
     | refine sq ?_
     | refine rg fun KF hKF => ?_
     | refine ct rfl ?_
     | refine sk ?_
     | refine Wp.block ?_
    refine WpO.do (WpX.growX (p := fv) (q := .slice H2.n 0 1 (some 1) 1) (k := 1) (new := [.int .i64 ((x.toNat % 6 : Nat) : Int)]) rfl rfl (by infer_instance) one_intsC (by decide) (by decide) (by decide) (by omega) rfl fun p' H5 ho5 hf5 hx5 => ?_)
    haveI := ho5.sl.one
    refine mv ?_
    refine nl hKF ?_
    refine rg fun KF hKF => ?_
    refine b0 ?_
    refine mI ?_
    refine nl hKF ?_
    dsimp only [cond_true, cond_false]
    exact ⟨(i + 1, p', F ++ [((x.toNat % 6 : Nat) : Int)], x.toNat % 6), by dsimp only; omega, ⟨by simp only [↓nrmL, nrmZ, Nat.reduceEqDiff, ↓reduceIte, Nat.reduceAdd, Int.reduceBEq, Int.reduceBNe]; rw [hw1], rfl, rfl, trivial⟩, hik, fin _ _ _ (fun t ht => by rw [hF] at ht; cases ht) (by omega) ho5 hf5 hx5⟩
 rintro ⟨fv, F, y⟩ g H2 ⟨hF12, hru⟩
 dsimp only at hF12 hru
 obtain ⟨r1, _, r3, r4, r5, r6, r7⟩ := hru
 haveI : ExtI _ H2 := ⟨r6⟩
 haveI := r1
 haveI := r1.sl
 haveI := r1.sl.one
 simp only [updL]
 refine Wp.seqE (σ := AVal × List Int × Nat) (fun s => [(0, .int .u8 (c.toNat : Int)), (4, .ptr H.n 0), (5, .int .i64 (a : Int)), (6, s.1), (7, .int .i64 (s.2.2 : Int))]) (fun s H' => s.2.1.length ≤ 12 ∧ IntsI H' s.1 s.2.1 ∧ FreshS (H.push (.row [.int .i64 0, .int .i64 0, .nslice] true (2 * 29))) s.1 ∧ (∀ t ∈ s.2.1, 0 ≤ t ∧ t ≤ (s.2.2 : Int)) ∧ s.2.2 ≤ 77 ∧ Ext H2 H' ∧ 0 < s.2.1.length ∧ (∀ r ∈ s.2.1, ∀ r' ∈ s.2.1, r ≠ r' → 3 ≤ r - r' ∨ 3 ≤ r' - r)) ?_ ?_
 rotate_left
 ·cases h0 : (((F.length : Nat) : Int) == 0)
  ·skip
   refine sq ?_
   refine rg fun KF hKF => ?_
   refine mv ?_
   refine ln (by simp only [↓nrmL, nrmK, Nat.reduceEqDiff, ↓reduceIte]; rfl) ?_
   refine bn rfl rfl rfl (by simp only [h0]; rfl) ?_
   refine nl hKF ?_
   refine cf rfl ?_
   refine sk ?_
   dsimp only [cond_true, cond_false]
   exact ⟨(fv, F, y), ⟨rfl, rfl, rfl, rfl, rfl, trivial⟩, hF12, r1.sl, r5, r3, by dsimp only; omega, Ext0.ext, by have := ne_of_beq_false h0; dsimp only; omega, r7⟩
  ·skip
   repeat first
    | refine mI ?_
    | (refine mv ?_)
    | (refine bn rfl rfl rfl (by simp only [h0]; rfl) ?_)
    | (refine ln (by simp only [↓nrmL, nrmK, Nat.reduceEqDiff, ↓reduceIte]; rfl) ?_)
    | (refine Fo.bslice rfl (by simp only [↓nrmL, nrmZ, Nat.reduceEqDiff, ↓reduceIte, Nat.reduceAdd, Int.reduceBEq, Int.reduceBNe, h0]; rfl) ?_)
    | refine nl hKF ?_
    | refine sq ?_
    | refine rg fun KF hKF => ?_
    | refine ct rfl ?_
    | dsimp only [cond_true, cond_false]
   refine ⟨(.slice H2.n 0 1 (some 1) 1, [2], 2), ⟨rfl, rfl, rfl, rfl, rfl, trivial⟩, Nat.le_of_ble_eq_true rfl, one_ints, ⟨fun r off len cap sz q => by cases q; exact r6.n⟩, fun t ht => ?_, Nat.le_of_ble_eq_true rfl, Ext0.ext, Nat.zero_lt_one, fun t ht t' ht' hne => ?_⟩
   ·rw [List.mem_singleton.1 ht]
    exact ⟨(Int.natCast_nonneg 2 : (0 : Int) ≤ ((2 : Nat) : Int)), Int.le_refl 2⟩
   ·rw [List.mem_singleton.1 ht, List.mem_singleton.1 ht'] at hne
    exact absurd rfl hne
 rintro ⟨fz, Fz, yz⟩ g2 H3 ⟨hF12, i1, f1, f2, f3, x3, f4, f5⟩
 dsimp only at hF12 i1 f1 f2 f3 f4 f5
 clear r1 r3 r4 r5 r7
 haveI : ExtI H2 H3 := ⟨x3⟩
 haveI := i1
 haveI := i1.one
 simp only [updL]
 have t6 : IntKind.i64.wrap (((c.toNat : Nat) : Int)) = ((c.toNat : Nat) : Int) := wu8 c
 have t7 : ((c.toNat : Nat) : Int).tmod 6 = ((c.toNat % 6 : Nat) : Int) := rfl
 have hc6 := Nat.mod_lt c.toNat (show 0 < 6 by decide)
 obtain ⟨b, hb⟩ : ∃ b, yz + 2 + c.toNat % 6 = b := ⟨_, rfl⟩
 have w2 : IntKind.i64.wrap ((yz : Int) + 2) = ((yz + 2 : Nat) : Int) := by rw [w64 (by omega)]; omega
 have w3 : IntKind.i64.wrap (((yz + 2 : Nat) : Int) + ((c.toNat % 6 : Nat) : Int)) = (b : Int) := by rw [← hb]; exact wa (by omega)
 have hab : a * b ≤ 160 * 84 := Nat.mul_le_mul (by omega) (by omega)
 have w4 : IntKind.i64.wrap ((a : Int) * (b : Int)) = ((a * b : Nat) : Int) := wm (by omega)
 repeat first
  | refine mI ?_
  | (refine bn rfl rfl rfl (by simp only [t6, t7, w2, w3, w4]; rfl) ?_)
  | (refine Fo.now rfl rfl (by simp only [t6, t7, w2, w3, w4]; rfl) ?_)
  | refine sq ?_
  | refine rg fun KF hKF => ?_
 refine WpO.do (WpX.mkB rfl rfl rfl (by omega) fun q H4 e1 hq hf hw' hx => ?_); try simp only [↓nrmL, nrmZ, Nat.reduceEqDiff, ↓reduceIte, Nat.reduceAdd, Int.reduceBEq, Int.reduceBNe]
 haveI := hq.one
 refine ob (cs' := ?_) ?hc ?_; case hc => (simp only [↓nrmL, nrmZ, Nat.reduceEqDiff, ↓reduceIte, Nat.reduceAdd, Int.reduceBEq, Int.reduceBNe]; rfl)
 refine nw ?_
 refine so rfl (rfl : _ = AVal.agg _) rfl rfl rfl (by simp only [↓nrmL, nrmZ, Nat.reduceEqDiff, ↓reduceIte, Nat.reduceAdd, Int.reduceBEq, Int.reduceBNe]; rfl) ?_
 refine nl hKF ?_
 refine sq ?_
 refine sq ?_
 refine rg fun KF hKF => ?_
 refine mv ?_
 refine ln (by simp only [↓nrmL, nrmK, Nat.reduceEqDiff, ↓reduceIte]; rfl) ?_
 refine mI ?_
 refine nl hKF ?_
 refine Wp.block ?_
 dsimp only [cond_true, cond_false]
 refine Wp.loopS (σ := Nat × List UInt8) [12, 13, 68, 69, 70, 71, 72, 73, 74, 75, 76, 77, 78, 79, 80, 81, 82, 83, 84, 85] (fun s => [(68, .int .i64 (s.1 : Int))]) (fun H5 s H6 => s.1 ≤ Fz.length ∧ s.2.length = a * b ∧ pxOk s.2 = true ∧ (∀ x r, x < a → r < b → (s.2.getD (r * a + x) 0 = 1 ↔ (r : Int) ∈ Fz.take s.1)) ∧ BytesI H6 q s.2 ∧ WrS H6 q ∧ ExtP0 H5 H6 q) (fun s => Fz.length - s.1) (0, List.replicate (a * b) 0) rfl (fun _ => rfl) ⟨rfl, trivial⟩ ⟨Nat.zero_le _, List.length_replicate, pxOk_rep _, fun x r _ _ => ⟨fun q => absurd q rep_zero, fun q => (by cases q)⟩, inferInstance, inferInstance, inferInstance⟩ (by unfold fuel0 at hn; dsimp only; omega) ?_
 rintro ⟨i, M⟩ g3 H6 ⟨hi, hM, hpx, hpt, hb6, hw6, ⟨hx6⟩⟩
 dsimp only at hi hM hpx hpt hb6
 simp only [↓nrmL, nrmZ, Nat.reduceEqDiff, ↓reduceIte, Nat.reduceAdd, Int.reduceBEq, Int.reduceBNe]
 cases hc1 : decide ((i : Int) < ((Fz.length : Nat) : Int))
 ·have hie : i = Fz.length := by have := of_decide_eq_false hc1; omega
  rw [hie, List.take_length] at hpt
  have hrf : RulF a b M Fz := ⟨f5, hpt, by
   have h9 := f2 _ (List.getElem_mem f4)
   exact ⟨Fz[0].toNat, by omega, by rw [show ((Fz[0].toNat : Nat) : Int) = Fz[0] by omega]; exact List.getElem_mem f4⟩, ⟨yz + 1, by omega, fun q => by have := (f2 _ q).2; omega⟩⟩
  repeat first
   | (refine Fo.ldN rfl rfl (by simp only [↓nrmL, nrmZ, Nat.reduceEqDiff, ↓reduceIte, Nat.reduceAdd, Int.reduceBEq, Int.reduceBNe, hc1]; rfl) ?_)
   | (refine bn rfl rfl rfl (by simp only [hc1]; rfl) ?_)
   | (refine so rfl (rfl : _ = AVal.agg _) rfl rfl rfl (by simp only [↓nrmL, nrmZ, Nat.reduceEqDiff, ↓reduceIte, Nat.reduceAdd, Int.reduceBEq, Int.reduceBNe, hc1]; rfl) ?_)
   | refine nl hKF ?_
   | refine sq ?_
   | refine rg fun KF hKF => ?_
   | refine cf rfl ?_
   | refine rt ?_
   | refine xi ?_
   | dsimp only [cond_true, cond_false]
  refine rz trivial ?_
  exact ⟨a, b, M, Fz, by omega, by omega, by omega, by omega, ⟨by omega, by omega, hM, hpx⟩, hrf, q, rfl, (show BytesI _ q M from inferInstance), hf.weak, inferInstance, Ext0.ext⟩
 have hil : i < Fz.length := by have := of_decide_eq_true hc1; omega
 have hw1 := wa1 (a := i) (by omega)
 obtain ⟨z, hz⟩ : ∃ z : Nat, Fz[i] = (z : Int) := ⟨Fz[i].toNat, by have := (f2 _ (List.getElem_mem hil)).1; omega⟩
 have hzy : z ≤ yz := by have := (f2 _ (List.getElem_mem hil)).2; omega
 have hza : z * a ≤ 77 * 160 := Nat.mul_le_mul (by omega) (by omega)
 have m1 : IntKind.i64.wrap ((z : Int) * (a : Int)) = ((z * a : Nat) : Int) := wm (by omega)
 repeat first
  | refine mI ?_
  | (refine bn rfl rfl rfl (by simp only [hc1, hz]; rfl) ?_)
  | (refine Fo.idx (by simp only [↓nrmL, nrmK, Nat.reduceEqDiff, ↓reduceIte]; rfl) rfl ?_ (by simp only [↓nrmL, nrmZ, Nat.reduceEqDiff, ↓reduceIte, Nat.reduceAdd, Int.reduceBEq, Int.reduceBNe, hc1, hz]; rfl) ?_; (focus omega))
  | (refine Fo.ldI rfl ?_ (by simp only [hc1, hz]; rfl) ?_; (focus omega))
  | refine nl hKF ?_
  | refine sq ?_
  | refine rg fun KF hKF => ?_
  | refine ct rfl ?_
  | refine sk ?_
  | refine Wp.block ?_
  | dsimp only [cond_true, cond_false]
 refine Wp.loopS (σ := Nat × List UInt8) [13, 73, 74, 75, 76, 77, 78, 79, 80, 81, 82, 83, 84] (fun s => [(73, .int .i64 (s.1 : Int))]) (fun H5 s H7 => s.1 ≤ a ∧ s.2.length = a * b ∧ pxOk s.2 = true ∧ (∀ x r, x < a → r < b → (s.2.getD (r * a + x) 0 = 1 ↔ (r : Int) ∈ Fz.take i ∨ (r = z ∧ x < s.1))) ∧ BytesI H7 q s.2 ∧ WrS H7 q ∧ ExtP0 H5 H7 q) (fun s => a - s.1) (0, M) rfl (fun _ => rfl) ⟨rfl, trivial⟩ ⟨Nat.zero_le _, hM, hpx, fun x r hx hr => by rw [hpt x r hx hr]; exact ⟨Or.inl, fun q => q.elim id fun q => absurd q.2 (Nat.not_lt_zero _)⟩, inferInstance, inferInstance, inferInstance⟩ (by unfold fuel0 at hn; dsimp only; omega) ?_
 rintro ⟨x, M2⟩ g4 H7 ⟨hx0, hM2, hpx2, hpt2, hb7, hw7, ⟨hx7⟩⟩
 dsimp only at hx0 hM2 hpx2 hpt2 hb7
 simp only [↓nrmL, nrmZ, Nat.reduceEqDiff, ↓reduceIte, Nat.reduceAdd, Int.reduceBEq, Int.reduceBNe]
 cases hcx : decide ((x : Int) < (a : Int))
 ·have hxa : x = a := by have := of_decide_eq_false hcx; omega
  have hpt3 : ∀ x' r, x' < a → r < b → (M2.getD (r * a + x') 0 = 1 ↔ (r : Int) ∈ Fz.take (i + 1)) := fun x' r hx' hr => by
   rw [hpt2 x' r hx' hr, List.take_succ_eq_append_getElem hil, List.mem_append, List.mem_singleton, hz]
   constructor
   ·rintro (q | ⟨q, _⟩)
    ·exact Or.inl q
    ·exact Or.inr (by rw [q])
   ·rintro (q | q)
    ·exact Or.inl q
    ·exact Or.inr ⟨by omega, by omega⟩
  repeat first
   | refine mI ?_
   | (refine bn rfl rfl rfl (by simp only [hcx]; rfl) ?_)
   | refine b0 ?_
   | refine nl hKF ?_
   | refine sq ?_
   | refine rg fun KF hKF => ?_
   | refine cf rfl ?_
   | refine xi ?_
   | dsimp only [cond_true, cond_false]
  exact ⟨(i + 1, M2), by dsimp only; omega, ⟨by simp only [↓nrmL, nrmZ, Nat.reduceEqDiff, ↓reduceIte, Nat.reduceAdd, Int.reduceBEq, Int.reduceBNe]; rw [hw1], trivial⟩, hil, hM2, hpx2, hpt3, inferInstance, inferInstance, inferInstance⟩
 ·have hxa : x < a := by have := of_decide_eq_true hcx; omega
  have hw1' := wa1 (a := x) (by omega)
  have m2 : IntKind.i64.wrap (((z * a : Nat) : Int) + (x : Int)) = ((z * a + x : Nat) : Int) := wa (by omega)
  have hlt : z * a + x < a * b := idx_lt hxa (by omega)
  repeat first
   | refine mI ?_
   | refine fd ?_
   | refine Fo.ld rfl rfl ?_
   | (refine bn rfl rfl rfl (by simp only [hcx, m1, m2]; rfl) ?_)
   | (refine Fo.idx (by simp only [↓nrmL, nrmK, Nat.reduceEqDiff, ↓reduceIte]; rfl) rfl ?_ (by simp only [↓nrmL, nrmZ, Nat.reduceEqDiff, ↓reduceIte, Nat.reduceAdd, Int.reduceBEq, Int.reduceBNe, hcx, m1, m2]; rfl) ?_; (focus omega))
   | refine nl hKF ?_
   | refine sq ?_
   | refine rg fun KF hKF => ?_
   | refine ct rfl ?_
   | refine sk ?_
   | refine Wp.block ?_
  refine WpO.do' (WpX.stB (p := q) (j := z * a + x) (l := M2) 1 rfl rfl rfl (by omega) fun H8 hb8 hw8 hx8 => ?_)
  haveI := hx8
  refine nl hKF ?_
  refine rg fun KF hKF => ?_
  refine b0 ?_
  refine mI ?_
  refine nl hKF ?_
  dsimp only [cond_true, cond_false]
  exact ⟨(x + 1, M2.set (z * a + x) 1), by dsimp only; omega, ⟨by simp only [↓nrmL, nrmZ, Nat.reduceEqDiff, ↓reduceIte, Nat.reduceAdd, Int.reduceBEq, Int.reduceBNe]; rw [hw1'], trivial⟩, hxa, by dsimp only; rw [List.length_set]; exact hM2, pxOk_set hpx2 (Or.inr rfl), fun x' r hx' hr => by dsimp only; rw [paint_step (P := fun x' r => (r : Int) ∈ Fz.take i ∨ (r = z ∧ x' < x)) hM2 hxa (by omega) hpt2 x' r hx' hr]; exact pnt_next, hb8, hw8, inferInstance⟩
end Go.Am
namespace Go.Am
open Go
theorem lv_low (c : Nat → Int) : ∀ i, i ≤ 61 → ((lvP c i).2 = -1 ∧ (∀ j, j < i → c j = 0) ∨ (0 ≤ (lvP c i).2 ∧ (lvP c i).2 < i)) ∧ 0 ≤ (lvP c i).1.2 ∧ (lvP c i).1.2 ≤ 60
  | 0, _ => ⟨Or.inl ⟨rfl, fun j hj => absurd hj (Nat.not_lt_zero j)⟩, Int.le_refl _, by show (0 : Int) ≤ 60; decide⟩
  | i + 1, h => by
    obtain ⟨h1, h2, h3⟩ := lv_low c i (by omega)
    unfold lvP
    cases h0 : c i == 0
    · have hn : (0 : Int) ≤ (i : Int) ∧ (i : Int) < ((i + 1 : Nat) : Int) := by omega
      simp only [cond_false]
      refine ⟨Or.inr hn, ?_⟩
      cases hd : decide ((lvP c i).2 ≥ 0)
      · exact ⟨h2, h3⟩
      · have hd := of_decide_eq_true hd
        simp only [cond_true]
        unfold lvU
        cases decide ((i : Int) - (lvP c i).2 > (lvP c i).1.2)
        · exact ⟨h2, h3⟩
        · simp only [cond_true]
          rcases h1 with ⟨h1, _⟩ | h1 <;> omega
    · simp only [cond_true]
      have h0 : c i = 0 := eq_of_beq h0
      refine ⟨?_, h2, h3⟩
      rcases h1 with ⟨h1, h4⟩ | h1
      · exact Or.inl ⟨h1, fun j hj => by
          by_cases e : j = i
          · rw [e]; exact h0
          · exact h4 j (by omega)⟩
      · exact Or.inr (by omega)
theorem lv_gap {c : Nat → Int} (hz : ∀ i, 60 < i → i < 195 → c i = 0) : ∀ d, d ≤ 134 → lvP c (61 + d) = lvP c 61
  | 0, _ => rfl
  | d + 1, h => by
    have e : lvP c (61 + d + 1) = lvP c (61 + d) := by
      conv => lhs; unfold lvP
      rw [hz (61 + d) (by omega) (by omega)]; rfl
    exact e.trans (lv_gap hz d (by omega))
theorem lv_high {c : Nat → Int} (ha : ∃ a, a ≤ 60 ∧ c a ≠ 0) (hz : ∀ i, 60 < i → i < 195 → c i = 0) : ∀ d, d ≤ 61 → (lvP c (195 + d) = lvP c 61 ∧ ∀ j, 195 ≤ j → j < 195 + d → c j = 0) ∨ ((60 < (lvP c (195 + d)).1.1 ∧ (lvP c (195 + d)).1.1 ≤ 195) ∧ 135 ≤ (lvP c (195 + d)).1.2 ∧ 195 ≤ (lvP c (195 + d)).2 ∧ (lvP c (195 + d)).2 < ((195 + d : Nat) : Int))
  | 0, _ => Or.inl ⟨lv_gap hz 134 (Nat.le_refl _), fun j h1 h2 => by omega⟩
  | d + 1, h => by
    have ih := lv_high ha hz d (by omega)
    show _ ∨ _
    rw [show 195 + (d + 1) = 195 + d + 1 by omega]
    cases h0 : c (195 + d) == 0
    · have e : lvP c (195 + d + 1) = ((bif decide ((lvP c (195 + d)).2 ≥ 0) then lvU (lvP c (195 + d)).1 (lvP c (195 + d)).2 ((195 + d : Nat) : Int) else (lvP c (195 + d)).1), ((195 + d : Nat) : Int)) := by
        conv => lhs; unfold lvP
        rw [h0]; rfl
      right
      rw [e]
      dsimp only
      rcases ih with ⟨i1, i2⟩ | ⟨i1, i2, i3, i4⟩
      · obtain ⟨k1, k2, k3⟩ := lv_low c 61 (Nat.le_refl _)
        rw [i1]
        rcases k1 with ⟨_, k4⟩ | ⟨k4, k5⟩
        · obtain ⟨a, q1, q2⟩ := ha
          exact absurd (k4 a (by omega)) q2
        · rw [decide_eq_true (show (lvP c 61).2 ≥ 0 from k4), cond_true]
          unfold lvU
          rw [decide_eq_true (by omega), cond_true]
          obtain ⟨p, hp⟩ : ∃ p : Nat, (lvP c 61).2 = (p : Int) := ⟨(lvP c 61).2.toNat, by omega⟩
          rw [hp] at k5 ⊢
          have e2 : ((p : Int) + ((195 + d : Nat) : Int) + 1).tdiv 2 = (((p + (195 + d) + 1) / 2 : Nat) : Int) := by
            rw [show (p : Int) + ((195 + d : Nat) : Int) + 1 = ((p + (195 + d) + 1 : Nat) : Int) by omega]; rfl
          rw [e2]
          omega
      · rw [decide_eq_true (show (lvP c (195 + d)).2 ≥ 0 by omega), cond_true]
        unfold lvU
        rw [decide_eq_false (by omega), cond_false]
        omega
    · have e : lvP c (195 + d + 1) = lvP c (195 + d) := by
        conv => lhs; unfold lvP
        rw [h0]; rfl
      have h0 : c (195 + d) = 0 := eq_of_beq h0
      rw [e]
      rcases ih with ⟨i1, i2⟩ | ⟨i1, i2, i3, i4⟩
      · exact Or.inl ⟨i1, fun j h1 h2 => by
          by_cases q : j = 195 + d
          · rw [q]; exact h0
          · exact i2 j h1 (by omega)⟩
      · exact Or.inr ⟨i1, i2, i3, by omega⟩
theorem lv_mid {c : Nat → Int} (ha : ∃ a, a ≤ 60 ∧ c a ≠ 0) (hb : ∃ b, 195 ≤ b ∧ b < 256 ∧ c b ≠ 0) (hz : ∀ i, 60 < i → i < 195 → c i = 0) : 60 < (lvP c 256).1.1 ∧ (lvP c 256).1.1 ≤ 195 := by
  rcases lv_high ha hz 61 (Nat.le_refl _) with ⟨_, h⟩ | ⟨h, _⟩
  · obtain ⟨b, q1, q2, q3⟩ := hb
    exact absurd (h b q1 (by omega)) q3
  · exact h
theorem lvStep_other {a : List Int} {x : UInt8} {k : Nat} (h : x.toNat ≠ k) : (lvStep a x).getD k 0 = a.getD k 0 := by
  unfold lvStep
  rw [List.getD_eq_getElem?_getD, List.getElem?_set_ne h, ← List.getD_eq_getElem?_getD]
theorem lvStep_len (a : List Int) (x : UInt8) : (lvStep a x).length = a.length := by simp [lvStep]
theorem lvStep_self {a : List Int} {x : UInt8} (ha : a.length = 256) : (lvStep a x).getD x.toNat 0 = a.getD x.toNat 0 + 1 := by
  have hx : x.toNat < a.length := by have := x.toNat_lt; omega
  unfold lvStep
  rw [List.getD_eq_getElem?_getD (l := a.set _ _), List.getElem?_set_self hx, Option.getD_some]
theorem lv_fold : ∀ (l : List UInt8) (a : List Int) (k : Nat), a.length = 256 → ((∀ x ∈ l, x.toNat ≠ k) → (l.foldl lvStep a).getD k 0 = a.getD k 0) ∧ a.getD k 0 ≤ (l.foldl lvStep a).getD k 0 ∧ ((∃ x ∈ l, x.toNat = k) → a.getD k 0 < (l.foldl lvStep a).getD k 0)
  | [], _, _, _ => ⟨fun _ => rfl, Int.le_refl _, fun ⟨_, h, _⟩ => by cases h⟩
  | y :: l, a, k, ha => by
    obtain ⟨h1, h2, h3⟩ := lv_fold l (lvStep a y) k (by rw [lvStep_len]; exact ha)
    rw [List.foldl_cons]
    by_cases e : y.toNat = k
    · have e2 : (lvStep a y).getD k 0 = a.getD k 0 + 1 := by rw [← e]; exact lvStep_self ha
      exact ⟨fun h => absurd e (h y (List.mem_cons_self ..)), by omega, fun _ => by omega⟩
    · have e2 : (lvStep a y).getD k 0 = a.getD k 0 := lvStep_other e
      refine ⟨fun h => by rw [h1 fun x hx => h x (List.mem_cons_of_mem _ hx), e2], by omega, fun ⟨x, hx, hk⟩ => ?_⟩
      rcases List.mem_cons.1 hx with q | q
      · exact absurd (by rw [← q]; exact hk) e
      · have := h3 ⟨x, q, hk⟩
        omega
theorem lv_zero {l : List UInt8} {k : Nat} (h : ∀ x ∈ l, x.toNat ≠ k) : (lv l).getD k 0 = 0 := by
  unfold lv
  rw [(lv_fold l _ k List.length_replicate).1 h, List.getD_eq_getElem?_getD, List.getElem?_replicate]
  split <;> rfl
theorem lv_some {l : List UInt8} {x : UInt8} (h : x ∈ l) : (lv l).getD x.toNat 0 ≠ 0 := by
  have h3 := (lv_fold l (List.replicate 256 0) x.toNat List.length_replicate).2.2 ⟨x, h, rfl⟩
  have h0 : (List.replicate 256 (0 : Int)).getD x.toNat 0 = 0 := by
    rw [List.getD_eq_getElem?_getD, List.getElem?_replicate]
    split <;> rfl
  unfold lv
  omega
def dB (L : List UInt8) (i : Nat) : UInt8 := if 0 < L.length then L.getD (i % L.length) 0 % 61 else 0
def dirtyV (L : List UInt8) (i : Nat) (p : UInt8) : UInt8 := if p = 0 then 195 + dB L i else dB L i
def dirtyL (L T : List UInt8) : List UInt8 := (List.range T.length).map fun i => dirtyV L i (T.getD i 0)
theorem dB_le (L : List UInt8) (i : Nat) : (dB L i).toNat ≤ 60 := by
  unfold dB
  split
  · rw [UInt8.toNat_mod]
    have : (61 : UInt8).toNat = 61 := rfl
    rw [this]
    have := Nat.mod_lt (L.getD (i % L.length) 0).toNat (show 0 < 61 by decide)
    omega
  · exact Nat.zero_le _
theorem dirtyV_paper (L : List UInt8) (i : Nat) : (dirtyV L i 0).toNat = 195 + (dB L i).toNat := by
  have := dB_le L i
  unfold dirtyV
  rw [if_pos rfl, UInt8.toNat_add, show (195 : UInt8).toNat = 195 from rfl, Nat.mod_eq_of_lt (by omega)]
theorem dirtyV_ink (L : List UInt8) (i : Nat) : dirtyV L i 1 = dB L i := by
  unfold dirtyV
  rw [if_neg (by decide)]
theorem thr_dirty {L T : List UInt8} {t : Int} (h01 : ∀ i, T.getD i 0 = 0 ∨ T.getD i 0 = 1) (ht : 60 < t ∧ t ≤ 195) : (dirtyL L T).map (thrB t) = T := by
  apply List.ext_getElem (by simp [dirtyL])
  intro i h1 h2
  have e : T.getD i 0 = T[i] := by rw [List.getD_eq_getElem?_getD, List.getElem?_eq_getElem h2, Option.getD_some]
  have hd := dB_le L i
  simp only [List.getElem_map, dirtyL, List.getElem_range]
  have h := h01 i
  rw [e] at h ⊢
  unfold thrB
  rcases h with h | h
  · rw [h, if_neg (by rw [dirtyV_paper]; omega)]
  · rw [h, dirtyV_ink, if_pos (by omega)]
theorem level_dirty {L T : List UInt8} (h01 : ∀ i, T.getD i 0 = 0 ∨ T.getD i 0 = 1) (hi : ∃ i, i < T.length ∧ T.getD i 0 = 1) (hp : ∃ i, i < T.length ∧ T.getD i 0 = 0) : 60 < (lvP (fun i => (lv (dirtyL L T)).getD i 0) 256).1.1 ∧ (lvP (fun i => (lv (dirtyL L T)).getD i 0) 256).1.1 ≤ 195 := by
  have hmem : ∀ i, i < T.length → dirtyV L i (T.getD i 0) ∈ dirtyL L T := fun i h => List.mem_map.2 ⟨i, List.mem_range.2 h, rfl⟩
  refine lv_mid ?_ ?_ fun k k1 k2 => lv_zero fun x hx => ?_
  · obtain ⟨i, h1, h2⟩ := hi
    have := hmem i h1
    rw [h2, dirtyV_ink] at this
    exact ⟨_, dB_le L i, lv_some this⟩
  · obtain ⟨i, h1, h2⟩ := hp
    have hm := hmem i h1
    rw [h2] at hm
    have h3 := dirtyV_paper L i
    have h4 := dB_le L i
    exact ⟨_, by omega, by omega, lv_some hm⟩
  · obtain ⟨i, hi, rfl⟩ := List.mem_map.1 hx
    have h4 := dB_le L i
    rcases h01 i with h | h
    · rw [h, dirtyV_paper]; omega
    · rw [h, dirtyV_ink]; omega
end Go.Am
namespace Go.Am
open Go
attribute [local irreducible] Wp WpO WpX WpE
theorem exec_rem {call : ACall} {fr : AFrame} {H : AHeap} {x y : ROpd} {k : IntKind} {a b : Int} (hx : x.ev fr = .int k a) (hy : y.ev fr = .int k b) (hb : b ≠ 0) : (ROp.bin .rem x y).exec call fr H = some (.int k (a.tmod b), H) := by
 simp only [ROp.exec, hx, hy, aBin, intBin, if_neg hb, ne_eq, not_true, if_false, M.ofOption, M.pure]
theorem u8_rem {a b : UInt8} : (a.toNat : Int).tmod (b.toNat : Int) = (((a % b : UInt8).toNat : Nat) : Int) := by
 rw [UInt8.toNat_mod]; rfl
theorem u8_small {x : Int} (h : 0 ≤ x ∧ x < 256) : IntKind.u8.wrap x = x := by
 have h1 : IntKind.u8.wrap x = if (false && decide (x % 2 ^ 8 ≥ 2 ^ 7)) = true then x % 2 ^ 8 - 2 ^ 8 else x % 2 ^ 8 := rfl
 rw [h1]
 simp only [Bool.false_and, Bool.false_eq_true, if_false]
 omega
theorem u8_195 {n : UInt8} (h : n.toNat ≤ 60) : IntKind.u8.wrap (195 + (n.toNat : Int)) = (((195 + n : UInt8).toNat : Nat) : Int) := by
 have e : (195 + n : UInt8).toNat = 195 + n.toNat := by
  rw [UInt8.toNat_add, show (195 : UInt8).toNat = 195 from rfl, Nat.mod_eq_of_lt (by omega)]
 rw [e, u8_small (by omega)]
 omega
def dirF (L l : List UInt8) (i : Nat) : UInt8 := dirtyV L i (l.getD i 0)
theorem dirtyL_filled (L l : List UInt8) : dirtyL L l = filled (dirF L l) l.length l.length := by
 rw [filled_all]; rfl
theorem K_dirty {w h : Int} {p pL : AVal} {H : AHeap} {l L : List UInt8} [hp : BytesI H p l] [hL : BytesI H pL L] (hl : l.length ≤ 409600) : Con ext prog 2 17 [.agg [.int .i64 w, .int .i64 h, p], pL] H fun v H' => NewInk H H' v ⟨w, h, dirtyL L l⟩ := by
 refine con_of (show prog 17 = some c17 from rfl) rfl rfl fun n hn => ?_
 haveI := hp.one
 haveI := hL.one
 rw [dirtyL_filled]
 refine sq ?_
 refine rg fun KF hKF => ?_
 refine bA ?_
 refine nw ?_
 refine nl hKF ?_
 refine sq ?_
 obtain ⟨q, hqe⟩ : ∃ q : AVal, AVal.slice (((H.push (.row [.int .i64 w, .int .i64 h, p] true (2 * 29))).push (.row [.int .i64 0, .int .i64 0, .nslice] true (2 * 24))).n) 0 l.length (some l.length) 1 = q := ⟨_, rfl⟩
 refine Fr.dregionE [.row (cellsB (List.replicate l.length 0)) true (2 * 5), .row [.int .i64 0, .int .i64 0, .nslice] true (2 * 24)] ?_ fun KF hKF => ?_
 ·skip
  repeat first
   | (refine oracle_pre rfl rfl rfl (exec_ld rfl rfl) ?_; (try simp only [↓nrmL, nrmZ, Nat.reduceEqDiff, ↓reduceIte, Nat.reduceAdd, Int.reduceBEq, Int.reduceBNe]))
   | (refine oracle_pre rfl rfl rfl rfl ?_; (try simp only [↓nrmL, nrmZ, Nat.reduceEqDiff, ↓reduceIte, Nat.reduceAdd, Int.reduceBEq, Int.reduceBNe]))
  refine oracle_pre rfl rfl rfl (exec_lenP (p := p) rfl) ?_
  refine oracle_made rfl rfl (made_mkB (a := l.length) rfl rfl (by omega)) ?_
  refine oracle_pre rfl rfl rfl rfl ?_; (try simp only [↓nrmL, nrmZ, Nat.reduceEqDiff, ↓reduceIte, Nat.reduceAdd, Int.reduceBEq, Int.reduceBNe])
  refine oracle_made rfl rfl rfl ?_; (try simp only [↓nrmL, nrmZ, Nat.reduceEqDiff, ↓reduceIte, Nat.reduceAdd, Int.reduceBEq, Int.reduceBNe])
  exact oracle_none _ _ _ _ rfl
 simp only [pushAll]
 obtain ⟨m1, m2, m3⟩ := mk_facts (H := ((H.push (.row [.int .i64 w, .int .i64 h, p] true (2 * 29))).push (.row [.int .i64 0, .int .i64 0, .nslice] true (2 * 24)))) (e := 2 * 5) (mk_bytes l.length)
 rw [hqe] at m1 m2 m3
 haveI := m1.one
 have hq : BytesI (((H.push (.row [.int .i64 w, .int .i64 h, p] true (2 * 29))).push (.row [.int .i64 0, .int .i64 0, .nslice] true (2 * 24))).push (.row (cellsB (List.replicate l.length 0)) true (2 * 5))) q (List.replicate l.length 0) := by
  unfold BytesI; rw [List.length_replicate]; exact m1
 clear m1
 repeat first
  | (refine Er rfl (exec_ld rfl rfl) rfl ?_)
  | (refine Fe.pure rfl (exec_lenP (by (try simp only [↓nrmL, nrmZ, Nat.reduceEqDiff, ↓reduceIte, Nat.reduceAdd, Int.reduceBEq, Int.reduceBNe]); rfl)) rfl ?_)
  | (refine Fe.pure rfl rfl (by simp only [↓nrmL, nrmZ, Nat.reduceEqDiff, ↓reduceIte, Nat.reduceAdd, Int.reduceBEq, Int.reduceBNe]; rfl) ?_)
 refine Fe.made rfl (made_mkB (a := l.length) rfl rfl (by omega)) ghost_of trivial hqe ?_
 change WpE _ _ (AHeap.n (AHeap.push _ (.row (cellsB (List.replicate l.length 0)) true (2 * 5)))) _ _ _ _ _ _ _
 refine Fe.pure rfl (exec_build (by repeat (first | refine aFill1 (by (try simp only [↓nrmL, nrmZ, Nat.reduceEqDiff, ↓reduceIte, Nat.reduceAdd, Int.reduceBEq, Int.reduceBNe]); rfl) rfl ?_ | rfl))) (by simp only [↓nrmL, nrmZ, Nat.reduceEqDiff, ↓reduceIte, Nat.reduceAdd, Int.reduceBEq, Int.reduceBNe]; rfl) ?_
 refine Em rfl rfl ghost_of rfl ?_
 refine Ee rfl (xs rfl (by (try simp only [↓nrmL, nrmZ, Nat.reduceEqDiff, ↓reduceIte, Nat.reduceAdd, Int.reduceBEq, Int.reduceBNe]); rfl) rfl rfl rfl (by (try simp only [↓nrmL, nrmZ, Nat.reduceEqDiff, ↓reduceIte, Nat.reduceAdd, Int.reduceBEq, Int.reduceBNe]); rfl)) ?_
 refine WpE.nil (hKF _ _ ?_)
 refine sq ?_
 refine sq ?_
 refine rg fun KF hKF => ?_
 refine fd ?_
 refine Fo.ld rfl rfl ?_
 refine ln (by simp only [↓nrmL, nrmK, Nat.reduceEqDiff, ↓reduceIte]; rfl) ?_
 refine mI ?_
 refine nl hKF ?_
 refine Wp.block ?_
 dsimp only [cond_true, cond_false]
 refine Wp.loopS [6, 7, 8, 21, 22, 23, 24, 25, 26, 27, 28, 29, 30, 31, 32, 33, 34, 35, 36, 37, 38, 39, 40, 41, 42, 43, 44, 45, 46, 47, 48, 49, 50] (fun i : Nat => [(21, .int .i64 i)]) (fun H3 i H2 => i ≤ l.length ∧ BytesI H2 q (filled (dirF L l) i l.length) ∧ WrS H2 q ∧ ExtP0 H3 H2 q) (fun i => l.length - i) 0 rfl (fun _ => rfl) ⟨rfl, trivial⟩ ⟨Nat.zero_le _, by rw [filled_zero]; infer_instance, inferInstance, inferInstance⟩ (by unfold fuel0 at hn; omega) ?_
 rintro i g H2 ⟨hi, hb2, hw2, ⟨hx2⟩⟩
 simp only [↓nrmL, nrmZ, Nat.reduceEqDiff, ↓reduceIte, Nat.reduceAdd, Int.reduceBEq, Int.reduceBNe]
 cases hc : decide ((i : Int) < (l.length : Int))
 ·have hil : i = l.length := by have := of_decide_eq_false hc; omega
  rw [hil] at hb2
  repeat first
   | (refine Fo.ldN rfl rfl (by simp only [↓nrmL, nrmZ, Nat.reduceEqDiff, ↓reduceIte, Nat.reduceAdd, Int.reduceBEq, Int.reduceBNe, hc]; rfl) ?_)
   | (refine bn rfl rfl rfl (by simp only [hc]; rfl) ?_)
   | (refine so rfl (rfl : _ = AVal.agg _) rfl rfl rfl (by simp only [↓nrmL, nrmZ, Nat.reduceEqDiff, ↓reduceIte, Nat.reduceAdd, Int.reduceBEq, Int.reduceBNe, hc]; rfl) ?_)
   | refine nl hKF ?_
   | refine sq ?_
   | refine rg fun KF hKF => ?_
   | refine cf rfl ?_
   | refine rt ?_
   | refine xi ?_
   | dsimp only [cond_true, cond_false]
  refine rz trivial ?_
  exact ⟨q, rfl, (show BytesI _ q (filled (dirF L l) l.length l.length) from inferInstance), (m2.weak : FreshS H q), inferInstance, Ext0.ext⟩
 have hil : i < l.length := by have := of_decide_eq_true hc; omega
 have hw1 := wa1 (a := i) (by omega)
 have hfl := filled_length (dirF L l) i l.length
 have hfs := filled_succ (f := dirF L l) (k := i) (n := l.length)
 have hd := dB_le L i
 have e0 : l.getD i 0 = l[i] := by rw [List.getD_eq_getElem?_getD, List.getElem?_eq_getElem hil, Option.getD_some]
 have w195 := u8_195 hd
 have hsl : ((filled (dirF L l) i l.length).set i (dB L i)).length = l.length := by rw [List.length_set, hfl]
 have hz : (((l[i].toNat : Nat) : Int) == 0) = decide (l[i] = 0) := by
  rw [Bool.eq_iff_iff, beq_iff_eq, decide_eq_true_eq, ← UInt8.toNat_inj]
  show _ ↔ l[i].toNat = 0
  omega
 have hdir : dirF L l i = if l[i] = 0 then 195 + dB L i else dB L i := by unfold dirF dirtyV; rw [e0]
 cases hl0 : decide (((L.length : Nat) : Int) > 0)
 ·have hdB : dB L i = 0 := by unfold dB; rw [if_neg (by have := of_decide_eq_false hl0; omega)]
  repeat first
   | refine mI ?_
   | (refine mv ?_)
   | refine fd ?_
   | refine Fo.ld rfl rfl ?_
   | (refine bn rfl rfl rfl (by simp only [hc, hl0]; rfl) ?_)
   | (refine ln (by simp only [↓nrmL, nrmK, Nat.reduceEqDiff, ↓reduceIte]; rfl) ?_)
   | (refine Fo.idx (by simp only [↓nrmL, nrmK, Nat.reduceEqDiff, ↓reduceIte]; rfl) rfl ?_ (by simp only [↓nrmL, nrmZ, Nat.reduceEqDiff, ↓reduceIte, Nat.reduceAdd, Int.reduceBEq, Int.reduceBNe, hc, hl0]; rfl) ?_; (focus omega))
   | (refine Fo.ldB rfl ?_ rfl ?_; (focus omega))
   | refine nl hKF ?_
   | refine sq ?_
   | refine rg fun KF hKF => ?_
   | refine ct rfl ?_
   | refine cf rfl ?_
   | refine sk ?_
   | refine Wp.block ?_
  refine WpO.do' (WpX.stB (0 : UInt8) rfl rfl rfl (by rw [hfl]; exact hil) fun H4 hb4 hw4 hx4 => ?_)
  rw [← hdB] at hb4
  haveI := hx4
  cases h0 : decide (l[i] = 0)
  ·rw [h0] at hz
   rw [if_neg (of_decide_eq_false h0)] at hdir
   rw [← hdir, hfs] at hb4
   simp only [↓nrmL, nrmZ, Nat.reduceEqDiff, ↓reduceIte, Nat.reduceAdd, Int.reduceBEq, Int.reduceBNe, hz]
   repeat first
    | refine mI ?_
    | (refine bn rfl rfl rfl (by simp only [hz]; rfl) ?_)
    | refine b0 ?_
    | refine nl hKF ?_
    | refine sq ?_
    | refine rg fun KF hKF => ?_
    | refine cf rfl ?_
    | refine sk ?_
    | dsimp only [cond_true, cond_false]
   exact ⟨i + 1, by omega, ⟨by simp only [↓nrmL, nrmZ, Nat.reduceEqDiff, ↓reduceIte, Nat.reduceAdd, Int.reduceBEq, Int.reduceBNe]; rw [hw1], trivial⟩, hil, hb4, hw4, inferInstance⟩
  ·rw [h0] at hz
   rw [if_pos (of_decide_eq_true h0)] at hdir
   have w196 : IntKind.u8.wrap (195 + 0) = (((195 + dB L i : UInt8).toNat : Nat) : Int) := by rw [hdB]; rfl
   have w197 : IntKind.u8.wrap 195 = (((195 + dB L i : UInt8).toNat : Nat) : Int) := by rw [hdB]; rfl
   simp only [↓nrmL, nrmZ, Nat.reduceEqDiff, ↓reduceIte, Nat.reduceAdd, Int.reduceBEq, Int.reduceBNe, hz, w196, w197]
   repeat first
    | refine mI ?_
    | refine fd ?_
    | refine Fo.ld rfl rfl ?_
    | (refine bn rfl rfl rfl (by simp only [hz, w196, w197]; rfl) ?_)
    | (refine Fo.idx (by simp only [↓nrmL, nrmK, Nat.reduceEqDiff, ↓reduceIte]; rfl) rfl ?_ (by simp only [↓nrmL, nrmZ, Nat.reduceEqDiff, ↓reduceIte, Nat.reduceAdd, Int.reduceBEq, Int.reduceBNe, hz, w196, w197]; rfl) ?_; (focus omega))
    | refine nl hKF ?_
    | refine sq ?_
    | refine rg fun KF hKF => ?_
    | refine ct rfl ?_
   refine WpO.do' (WpX.stB (p := q) (j := i) (l := (filled (dirF L l) i l.length).set i (dB L i)) (195 + dB L i : UInt8) rfl rfl rfl (by rw [List.length_set, hfl]; exact hil) fun H5 hb5 hw5 hx5 => ?_)
   rw [List.set_set, ← hdir, hfs] at hb5
   haveI := hx5
   refine nl hKF ?_
   refine rg fun KF hKF => ?_
   refine b0 ?_
   refine mI ?_
   refine nl hKF ?_
   dsimp only [cond_true, cond_false]
   exact ⟨i + 1, by omega, ⟨by simp only [↓nrmL, nrmZ, Nat.reduceEqDiff, ↓reduceIte, Nat.reduceAdd, Int.reduceBEq, Int.reduceBNe]; rw [hw1], trivial⟩, hil, hb5, hw5, inferInstance⟩
 have hlp : 0 < L.length := by have := of_decide_eq_true hl0; omega
 have hm : i % L.length < L.length := Nat.mod_lt _ hlp
 have e1 : L.getD (i % L.length) 0 = L[i % L.length] := by rw [List.getD_eq_getElem?_getD, List.getElem?_eq_getElem hm, Option.getD_some]
 have hrm : ((i : Nat) : Int).tmod ((L.length : Nat) : Int) = ((i % L.length : Nat) : Int) := rfl
 have h61 : ((L[i % L.length].toNat : Nat) : Int).tmod 61 = (((dB L i).toNat : Nat) : Int) := by
  unfold dB
  rw [if_pos hlp, e1]
  exact u8_rem (b := 61)
 repeat first
  | refine mI ?_
  | (refine mv ?_)
  | (refine bn rfl rfl rfl (by simp only [hc, hl0]; rfl) ?_)
  | (refine ln (by simp only [↓nrmL, nrmK, Nat.reduceEqDiff, ↓reduceIte]; rfl) ?_)
  | (refine Fo.idx (by simp only [↓nrmL, nrmK, Nat.reduceEqDiff, ↓reduceIte]; rfl) rfl ?_ (by simp only [↓nrmL, nrmZ, Nat.reduceEqDiff, ↓reduceIte, Nat.reduceAdd, Int.reduceBEq, Int.reduceBNe, hc, hl0]; rfl) ?_; (focus omega))
  | (refine Fo.ldB rfl ?_ rfl ?_; (focus omega))
  | refine nl hKF ?_
  | refine sq ?_
  | refine rg fun KF hKF => ?_
  | refine ct rfl ?_
  | refine sk ?_
  | refine Wp.block ?_
 refine Fo.now rfl (exec_rem rfl rfl (by omega)) rfl ?_
 simp only [hrm, h61]
 repeat first
  | refine mI ?_
  | refine fd ?_
  | refine Fo.ld rfl rfl ?_
  | (refine bn rfl rfl rfl (by simp only [hrm, h61]; rfl) ?_)
  | (refine Fo.idx (by simp only [↓nrmL, nrmK, Nat.reduceEqDiff, ↓reduceIte]; rfl) rfl ?_ (by simp only [↓nrmL, nrmZ, Nat.reduceEqDiff, ↓reduceIte, Nat.reduceAdd, Int.reduceBEq, Int.reduceBNe, hrm, h61]; rfl) ?_; (focus omega))
  | (refine Fo.ldB rfl ?_ rfl ?_; (focus omega))
  | refine nl hKF ?_
  | refine sq ?_
  | refine rg fun KF hKF => ?_
 refine WpO.do' (WpX.stB (dB L i) rfl rfl rfl (by rw [hfl]; exact hil) fun H4 hb4 hw4 hx4 => ?_)
 haveI := hx4
 cases h0 : decide (l[i] = 0)
 ·rw [h0] at hz
  rw [if_neg (of_decide_eq_false h0)] at hdir
  rw [← hdir, hfs] at hb4
  simp only [↓nrmL, nrmZ, Nat.reduceEqDiff, ↓reduceIte, Nat.reduceAdd, Int.reduceBEq, Int.reduceBNe, hz]
  repeat first
   | refine mI ?_
   | (refine bn rfl rfl rfl (by simp only [hz]; rfl) ?_)
   | refine b0 ?_
   | refine nl hKF ?_
   | refine sq ?_
   | refine rg fun KF hKF => ?_
   | refine cf rfl ?_
   | refine sk ?_
   | dsimp only [cond_true, cond_false]
  exact ⟨i + 1, by omega, ⟨by simp only [↓nrmL, nrmZ, Nat.reduceEqDiff, ↓reduceIte, Nat.reduceAdd, Int.reduceBEq, Int.reduceBNe]; rw [hw1], trivial⟩, hil, hb4, hw4, inferInstance⟩
 ·rw [h0] at hz
  rw [if_pos (of_decide_eq_true h0)] at hdir
  simp only [↓nrmL, nrmZ, Nat.reduceEqDiff, ↓reduceIte, Nat.reduceAdd, Int.reduceBEq, Int.reduceBNe, hz, w195]
  repeat first
   | refine mI ?_
   | refine fd ?_
   | refine Fo.ld rfl rfl ?_
   | (refine bn rfl rfl rfl (by simp only [hz, w195]; rfl) ?_)
   | (refine Fo.idx (by simp only [↓nrmL, nrmK, Nat.reduceEqDiff, ↓reduceIte]; rfl) rfl ?_ (by simp only [↓nrmL, nrmZ, Nat.reduceEqDiff, ↓reduceIte, Nat.reduceAdd, Int.reduceBEq, Int.reduceBNe, hz, w195]; rfl) ?_; (focus omega))
   | refine nl hKF ?_
   | refine sq ?_
   | refine rg fun KF hKF => ?_
   | refine ct rfl ?_
  refine WpO.do' (WpX.stB (p := q) (j := i) (l := (filled (dirF L l) i l.length).set i (dB L i)) (195 + dB L i : UInt8) rfl rfl rfl (by rw [List.length_set, hfl]; exact hil) fun H5 hb5 hw5 hx5 => ?_)
  rw [List.set_set, ← hdir, hfs] at hb5
  haveI := hx5
  refine nl hKF ?_
  refine rg fun KF hKF => ?_
  refine b0 ?_
  refine mI ?_
  refine nl hKF ?_
  dsimp only [cond_true, cond_false]
  exact ⟨i + 1, by omega, ⟨by simp only [↓nrmL, nrmZ, Nat.reduceEqDiff, ↓reduceIte, Nat.reduceAdd, Int.reduceBEq, Int.reduceBNe]; rw [hw1], trivial⟩, hil, hb5, hw5, inferInstance⟩
end Go.Am
namespace Go.Am
open Go
attribute [local irreducible] Wp WpO WpX WpE
theorem exec_quo {call : ACall} {fr : AFrame} {H : AHeap} {x y : ROpd} {a b : Int} (hx : x.ev fr = .int .i64 a) (hy : y.ev fr = .int .i64 b) (hb : b ≠ 0) : (ROp.bin .quo x y).exec call fr H = some (.int .i64 (IntKind.i64.wrap (a.tdiv b)), H) := by
 simp only [ROp.exec, hx, hy, aBin, intBin, if_neg hb, ne_eq, not_true, if_false, M.ofOption, M.pure]
theorem u16_takeD {H : AHeap} {p : AVal} {ch : List Nat} {k : Nat} (h : SliceAt H p 1 k ((cellsU ch).take k)) (hk : k ≤ ch.length) : U16I H p (ch.take k) := by
 rw [cellsU_take] at h
 unfold U16I
 rw [show (ch.take k).length = k by rw [List.length_take]; omega]
 exact h
theorem max0 {y : Nat} : (if (0 : Int) > (y : Int) - 1 then 0 else (y : Int) - 1) = ((y - 1 : Nat) : Int) := by split <;> omega
theorem min1 {y b : Nat} (hb : 0 < b) : (if (b : Int) - 1 < ((y + 1 : Nat) : Int) then (b : Int) - 1 else ((y + 1 : Nat) : Int)) = ((min (y + 1) (b - 1) : Nat) : Int) := by split <;> omega
def Fre (M : List UInt8) (a v0 v1 u0 u1 : Nat) : Prop := ∀ v u : Nat, v0 ≤ v → v < v1 → u0 ≤ u → u < u1 → M.getD (v * a + u) 0 ≠ 1
theorem K_specked {a b : Nat} {p pA : AVal} {H : AHeap} {l : List UInt8} {A : List Nat} {F : Int → Prop} [hp : BytesI H p l] [hc0 : U16I H pA A] (hm : ∀ n ∈ A, n < 65536) (ok : Ok a b l) (ha : 0 < a) (hb : 0 < b) (hR : Rul a (inkS l a b) F) : Con ext prog 4 16 [.agg [.int .i64 a, .int .i64 b, p], pA] H fun v H' => ∃ l', Ok a b l' ∧ Rul a (inkS l' a b) F ∧ (∀ j, l.getD j 0 = 1 → l'.getD j 0 = 1) ∧ NewInk H H' v ⟨a, b, l'⟩ := by
 refine con_of (show prog 16 = some c16 from rfl) rfl rfl fun n hn => ?_
 haveI := hp.one
 haveI := hc0.one
 have hw := ok.wa
 have hh := ok.hb
 have hll := ok.len
 have hab : a * b ≤ 640 * 640 := Nat.mul_le_mul ok.wa ok.hb
 obtain ⟨k, hk⟩ : ∃ k, min A.length 40 = k := ⟨_, rfl⟩
 have hmn : (if (40 : Int) < ((A.length : Nat) : Int) then 40 else ((A.length : Nat) : Int)) = (k : Int) := by rw [← hk]; exact min_nat (b := 40)
 repeat first
  | (refine Fo.ldN rfl rfl (by simp only [↓nrmL, nrmZ, Nat.reduceEqDiff, ↓reduceIte, Nat.reduceAdd, Int.reduceBEq, Int.reduceBNe]; rfl) ?_)
  | refine bA ?_
  | refine nw ?_
  | refine nl hKF ?_
  | refine sq ?_
  | refine rg fun KF hKF => ?_
 refine WpO.do (WpX.conD hn rfl rfl (by simp only [↓nrmL, nrmZ, Nat.reduceEqDiff, ↓reduceIte, Nat.reduceAdd, Int.reduceBEq, Int.reduceBNe, List.map] <;> rfl) (K_CopyInk (a := a) (b := b) (l := l) (by omega)) fun v H1 h5 => ?_)
 obtain ⟨q, e1, hq, hf, hwq, hx⟩ := h5
 subst e1
 try dsimp only at hq
 haveI : ExtI _ H1 := ⟨hx⟩
 haveI := hq.one
 haveI : RowNe q H1.n := ⟨fun r off len cap sz e => by have := hq.lt e; omega⟩
 simp only [hmn]
 refine nw ?_
 refine so rfl (rfl : _ = AVal.agg _) rfl rfl rfl (by simp only [↓nrmL, nrmZ, Nat.reduceEqDiff, ↓reduceIte, Nat.reduceAdd, Int.reduceBEq, Int.reduceBNe, hmn]; rfl) ?_
 refine nl hKF ?_
 refine sq ?_
 refine sq ?_
 refine rg fun KF hKF => ?_
 refine mv ?_
 refine mv ?_
 refine ln (by simp only [↓nrmL, nrmK, Nat.reduceEqDiff, ↓reduceIte]; rfl) ?_
 refine Fo.now rfl rfl (by simp only [hmn]; rfl) ?_
 refine Fo.pre (p := pA) (b := k) rfl rfl (by omega) fun pv hpv hone hsub => ?_
 haveI := u16_takeD hpv (by omega)
 clear hpv
 haveI := hone
 haveI : SepS pv q := ⟨fun r off len cap sz r' off' len' cap' sz' e e' => by
  obtain ⟨_, _, _, _, e2⟩ := hsub _ _ _ _ _ e
  have := hc0.lt e2
  have := hf.ge _ _ _ _ _ e'
  have e3 : ((H.push (.row [.int .i64 a, .int .i64 b, p] true (2 * 29))).push (.row [.int .i64 0, .int .i64 0, .nslice] true (2 * 29))).n = H.n + 1 + 1 := rfl
  omega⟩
 have hkl : (A.take k).length = k := by rw [List.length_take]; omega
 refine ln (by simp only [↓nrmL, nrmK, Nat.reduceEqDiff, ↓reduceIte]; rfl) ?_
 refine mI ?_
 refine nl hKF ?_
 refine Wp.block ?_
 dsimp only [cond_true, cond_false]
 refine Wp.loopS (σ := Nat × List UInt8) [7, 8, 9, 10, 11, 12, 21, 22, 23, 24, 25, 26, 27, 28, 29, 30, 31, 32, 33, 34, 35, 36, 37, 38, 39, 40, 41, 42, 43, 44, 45, 46, 47, 48, 49, 50, 51, 52, 53, 54, 55, 56, 57, 58, 59, 60, 61, 62, 63, 64, 65, 66, 67, 68, 69, 70, 71, 72, 73, 74, 75, 76, 77, 78, 79, 80, 81, 82, 83, 84, 85, 86, 87, 88] (fun s => [(21, .int .i64 (s.1 : Int))]) (fun H3 s H2 => s.1 ≤ k ∧ Ok a b s.2 ∧ Rul a (inkS s.2 a b) F ∧ (∀ j, l.getD j 0 = 1 → s.2.getD j 0 = 1) ∧ BytesI H2 q s.2 ∧ WrS H2 q ∧ ExtP0 H3 H2 q) (fun s => k - s.1) (0, l) rfl (fun _ => rfl) ⟨rfl, trivial⟩ ⟨Nat.zero_le _, ok, hR, fun _ h => h, inferInstance, inferInstance, inferInstance⟩ (by unfold fuel0 at hn; dsimp only; omega) ?_
 rintro ⟨i, M⟩ g H2 ⟨hi, okM, hRM, hin, hbm, hwm, ⟨hx2⟩⟩
 dsimp only at hi okM hRM hin hbm
 have hM := okM.len
 simp only [↓nrmL, nrmZ, Nat.reduceEqDiff, ↓reduceIte, Nat.reduceAdd, Int.reduceBEq, Int.reduceBNe]
 cases hc : decide ((i : Int) < (((A.take k).length : Nat) : Int))
 ·skip
  repeat first
   | (refine Fo.ldN rfl rfl (by simp only [↓nrmL, nrmZ, Nat.reduceEqDiff, ↓reduceIte, Nat.reduceAdd, Int.reduceBEq, Int.reduceBNe, hc]; rfl) ?_)
   | (refine bn rfl rfl rfl (by simp only [hc]; rfl) ?_)
   | (refine so rfl (rfl : _ = AVal.agg _) rfl rfl rfl (by simp only [↓nrmL, nrmZ, Nat.reduceEqDiff, ↓reduceIte, Nat.reduceAdd, Int.reduceBEq, Int.reduceBNe, hc]; rfl) ?_)
   | refine nl hKF ?_
   | refine sq ?_
   | refine rg fun KF hKF => ?_
   | refine cf rfl ?_
   | refine rt ?_
   | refine xi ?_
   | dsimp only [cond_true, cond_false]
  refine rz trivial ?_
  exact ⟨M, okM, hRM, hin, q, rfl, (show BytesI _ q M from inferInstance), hf.weak, inferInstance, Ext0.ext⟩
 have hil : i < (A.take k).length := by have := of_decide_eq_true hc; omega
 have hw1 := wa1 (a := i) (by omega)
 obtain ⟨m, hme⟩ : ∃ m, (A.take k)[i] = m := ⟨_, rfl⟩
 have hml : m < 65536 := by rw [← hme]; exact hm _ (List.mem_of_mem_take (List.getElem_mem hil))
 have c1 : IntKind.i64.wrap (m : Int) = (m : Int) := w64 (by omega)
 obtain ⟨x, hxe⟩ : ∃ x, m % a = x := ⟨_, rfl⟩
 obtain ⟨y, hye⟩ : ∃ y, m / a % b = y := ⟨_, rfl⟩
 have hxa : x < a := by rw [← hxe]; exact Nat.mod_lt _ ha
 have hyb : y < b := by rw [← hye]; exact Nat.mod_lt _ hb
 have t1 : (m : Int).tmod (a : Int) = (x : Int) := by rw [← hxe]; rfl
 obtain ⟨dv, hdv⟩ : ∃ dv, m / a = dv := ⟨_, rfl⟩
 have t2 : (m : Int).tdiv (a : Int) = (dv : Int) := by rw [← hdv]; rfl
 have t3 : (dv : Int).tmod (b : Int) = (y : Int) := by rw [← hye, ← hdv]; rfl
 have hma : dv ≤ m := by rw [← hdv]; exact Nat.div_le_self _ _
 have c2 : IntKind.i64.wrap (dv : Int) = (dv : Int) := w64 (by omega)
 have c3 : IntKind.i64.wrap ((y : Int) - 1) = (y : Int) - 1 := w64 (by omega)
 have c4 : IntKind.i64.wrap ((x : Int) - 1) = (x : Int) - 1 := w64 (by omega)
 have c5 := wa1 (a := y) (by omega)
 have c6 := wa1 (a := x) (by omega)
 have c7 : IntKind.i64.wrap ((b : Int) - 1) = (b : Int) - 1 := w64 (by omega)
 have c8 : IntKind.i64.wrap ((a : Int) - 1) = (a : Int) - 1 := w64 (by omega)
 have d1 := max0 (y := y)
 have d2 := max0 (y := x)
 have d3 := min1 (y := y) hb
 have d4 := min1 (y := x) ha
 obtain ⟨vt, hvt⟩ : ∃ vt, min (y + 1) (b - 1) = vt := ⟨_, rfl⟩
 obtain ⟨ut, hut⟩ : ∃ ut, min (x + 1) (a - 1) = ut := ⟨_, rfl⟩
 rw [hvt] at d3
 rw [hut] at d4
 repeat first
  | (refine bn rfl rfl rfl (by simp only [hc]; rfl) ?_)
  | (refine Fo.idx (by simp only [↓nrmL, nrmK, Nat.reduceEqDiff, ↓reduceIte]; rfl) rfl ?_ (by simp only [↓nrmL, nrmZ, Nat.reduceEqDiff, ↓reduceIte, Nat.reduceAdd, Int.reduceBEq, Int.reduceBNe, hc]; rfl) ?_; (focus omega))
  | refine nl hKF ?_
  | refine sq ?_
  | refine rg fun KF hKF => ?_
  | refine ct rfl ?_
  | refine sk ?_
  | refine Wp.block ?_
 refine WpO.do (WpX.ldP (p := pv) (j := i) (v := .int .u16 (((A.take k)[i] : Nat) : Int)) rfl (cellsU_get hil) ?_)
 simp only [hme, c1]
 refine mI ?_
 refine nl hKF ?_
 refine sq ?_
 refine Fr.quiet rfl rfl fun KF hKF => ?_
 refine mI ?_
 refine Fo.now rfl rfl (by simp only [hme, c1]; rfl) ?_
 refine fd ?_
 refine Fo.ld rfl rfl ?_
 refine Fo.now rfl (exec_rem rfl rfl (by omega)) rfl ?_
 simp only [c1, t1]
 refine mI ?_
 refine Fo.now rfl rfl (by simp only [c1, t1]; rfl) ?_
 refine fd ?_
 refine Fo.ld rfl rfl ?_
 refine Fo.now rfl (exec_quo rfl rfl (by omega)) rfl ?_
 simp only [t2, c2]
 refine fd ?_
 refine Fo.ld rfl rfl ?_
 refine Fo.now rfl (exec_rem rfl rfl (by omega)) rfl ?_
 simp only [t1, t3]
 repeat first
  | refine mI ?_
  | refine mB ?_
  | refine b0 ?_
  | (refine Fo.now rfl rfl (by simp only [t1, t3]; rfl) ?_)
  | refine nl hKF ?_
  | refine sq ?_
  | refine rg fun KF hKF => ?_
  | refine Wp.block ?_
  | dsimp only [cond_true, cond_false]
 simp only [if_true, c3, d1]
 refine Wp.loopS (σ := Nat × Bool) [10, 11, 12, 41, 42, 43, 44, 45, 46, 47, 48, 49, 50, 51, 52, 53, 54, 55, 56, 57, 58, 59, 60, 61, 62, 63, 64, 65, 66, 67, 68, 69, 70, 71, 72, 73, 74, 75, 76, 77] (fun s => [(11, .int .i64 (s.1 : Int)), (10, .bool s.2)]) (fun H3 s H4 => y - 1 ≤ s.1 ∧ s.1 ≤ vt + 1 ∧ (s.2 = true → Fre M a (y - 1) s.1 (x - 1) (ut + 1)) ∧ H4 = H3) (fun s => vt + 1 - s.1) (y - 1, true) rfl (fun _ => rfl) ⟨rfl, rfl, trivial⟩ ⟨Nat.le_refl _, by dsimp only; omega, fun _ v u h1 h2 => (by dsimp only at h2; omega), rfl⟩ (by unfold fuel0 at hn; dsimp only; omega) ?_
 rintro ⟨v, s⟩ g3 H4 ⟨hv1, hv2, hfr, rfl⟩
 dsimp only at hv1 hv2 hfr
 simp only [↓nrmL, nrmZ, Nat.reduceEqDiff, ↓reduceIte, Nat.reduceAdd, Int.reduceBEq, Int.reduceBNe]
 cases hc2 : decide ((v : Int) ≤ (vt : Int))
 ·have hve : v = vt + 1 := by have := of_decide_eq_false hc2; omega
  rw [hve] at hfr
  cases s
  ·skip
   simp only [Bool.false_eq_true, if_false, if_true, c5, c7, d3, hc2]
   repeat first
    | refine mI ?_
    | refine mB ?_
    | refine fd ?_
    | refine Fo.ld rfl rfl ?_
    | (refine bn rfl rfl rfl (by simp only [Bool.false_eq_true, if_false, if_true, c5, c7, d3, hc2]; rfl) ?_)
    | refine b0 ?_
    | (refine Fo.now rfl rfl (by simp only [Bool.false_eq_true, if_false, if_true, c5, c7, d3, hc2]; rfl) ?_)
    | refine nl hKF ?_
    | refine sq ?_
    | refine rg fun KF hKF => ?_
    | refine cf rfl ?_
    | refine sk ?_
    | refine xi ?_
    | dsimp only [cond_true, cond_false]
   exact ⟨(i + 1, M), by dsimp only; omega, ⟨by simp only [↓nrmL, nrmZ, Nat.reduceEqDiff, ↓reduceIte, Nat.reduceAdd, Int.reduceBEq, Int.reduceBNe]; rw [hw1], trivial⟩, by dsimp only; omega, okM, hRM, hin, inferInstance, inferInstance, inferInstance⟩
  ·have hya : y * a ≤ 640 * 640 := Nat.mul_le_mul (by omega) (by omega)
   have m1 : IntKind.i64.wrap ((y : Int) * (a : Int)) = ((y * a : Nat) : Int) := wm (by omega)
   have m2 : IntKind.i64.wrap (((y * a : Nat) : Int) + (x : Int)) = ((y * a + x : Nat) : Int) := wa (by omega)
   have hlt : y * a + x < M.length := by rw [hM]; exact cf_lt hxa hyb
   simp only [Bool.false_eq_true, if_false, if_true, c5, c7, d3, hc2, m1, m2]
   repeat first
    | refine mI ?_
    | refine mB ?_
    | refine fd ?_
    | refine Fo.ld rfl rfl ?_
    | (refine bn rfl rfl rfl (by simp only [Bool.false_eq_true, if_false, if_true, c5, c7, d3, hc2, m1, m2]; rfl) ?_)
    | (refine Fo.idx (by simp only [↓nrmL, nrmK, Nat.reduceEqDiff, ↓reduceIte]; rfl) rfl ?_ (by simp only [↓nrmL, nrmZ, Nat.reduceEqDiff, ↓reduceIte, Nat.reduceAdd, Int.reduceBEq, Int.reduceBNe, Bool.false_eq_true, if_false, if_true, c5, c7, d3, hc2, m1, m2]; rfl) ?_; (focus omega))
    | (refine Fo.now rfl rfl (by simp only [Bool.false_eq_true, if_false, if_true, c5, c7, d3, hc2, m1, m2]; rfl) ?_)
    | refine nl hKF ?_
    | refine sq ?_
    | refine rg fun KF hKF => ?_
    | refine ct rfl ?_
    | refine cf rfl ?_
    | refine xi ?_
   refine WpO.do' (WpX.stB (p := q) (j := y * a + x) (l := M) 1 rfl rfl rfl hlt fun H8 hb8 hw8 hx8 => ?_)
   haveI := hx8
   refine nl hKF ?_
   refine rg fun KF hKF => ?_
   refine b0 ?_
   refine mI ?_
   refine nl hKF ?_
   dsimp only [cond_true, cond_false]
   have hf0 := hfr rfl
   exact ⟨(i + 1, M.set (y * a + x) 1), by dsimp only; omega, ⟨by simp only [↓nrmL, nrmZ, Nat.reduceEqDiff, ↓reduceIte, Nat.reduceAdd, Int.reduceBEq, Int.reduceBNe]; rw [hw1], trivial⟩, by dsimp only; omega, ⟨okM.wa, okM.hb, by dsimp only; rw [List.length_set]; exact hM, pxOk_set okM.px (Or.inr rfl)⟩, speck_more hM hxa hyb hRM (fun v u h1 h2 h3 h4 h5 h6 => hf0 v u h1 (by omega) h4 (by omega)), fun j hj => (set_one hlt).2 (Or.inl (hin j hj)), hb8, hw8, inferInstance⟩
 have hvb : v ≤ vt := by have := of_decide_eq_true hc2; omega
 have w1 := wa1 (a := v) (by omega)
 have hva : v * a ≤ 640 * 640 := Nat.mul_le_mul (by omega) (by omega)
 have m1 : IntKind.i64.wrap ((v : Int) * (a : Int)) = ((v * a : Nat) : Int) := wm (by omega)
 simp only [Bool.false_eq_true, if_false, if_true, c5, c7, d3, hc2, c4, d2]
 repeat first
  | refine mI ?_
  | refine fd ?_
  | refine Fo.ld rfl rfl ?_
  | (refine bn rfl rfl rfl (by simp only [Bool.false_eq_true, if_false, if_true, c5, c7, d3, hc2, c4, d2]; rfl) ?_)
  | (refine Fo.now rfl rfl (by simp only [Bool.false_eq_true, if_false, if_true, c5, c7, d3, hc2, c4, d2]; rfl) ?_)
  | refine nl hKF ?_
  | refine sq ?_
  | refine rg fun KF hKF => ?_
  | refine ct rfl ?_
  | refine sk ?_
  | refine Wp.block ?_
  | dsimp only [cond_true, cond_false]
 refine Wp.loopS (σ := Nat × Bool) [10, 12, 54, 55, 56, 57, 58, 59, 60, 61, 62, 63, 64, 65, 66, 67, 68, 69, 70, 71, 72, 73, 74, 75, 76, 77] (fun s => [(12, .int .i64 (s.1 : Int)), (10, .bool s.2)]) (fun H3 s H4 => x - 1 ≤ s.1 ∧ s.1 ≤ ut + 1 ∧ (s.2 = true → Fre M a (y - 1) v (x - 1) (ut + 1) ∧ Fre M a v (v + 1) (x - 1) s.1) ∧ H4 = H3) (fun s => ut + 1 - s.1) (x - 1, s) rfl (fun _ => rfl) ⟨rfl, rfl, trivial⟩ ⟨Nat.le_refl _, by dsimp only; omega, fun e => ⟨hfr e, fun v u _ _ h1 h2 => (by dsimp only at h2; omega)⟩, rfl⟩ (by unfold fuel0 at hn; dsimp only; omega) ?_
 rintro ⟨u, s4⟩ g4 H5 ⟨hu1, hu2, hfr4, rfl⟩
 dsimp only at hu1 hu2 hfr4
 simp only [↓nrmL, nrmZ, Nat.reduceEqDiff, ↓reduceIte, Nat.reduceAdd, Int.reduceBEq, Int.reduceBNe]
 cases hc4 : decide ((u : Int) ≤ (ut : Int))
 ·have hue : u = ut + 1 := by have := of_decide_eq_false hc4; omega
  repeat first
   | refine mI ?_
   | refine fd ?_
   | refine Fo.ld rfl rfl ?_
   | (refine bn rfl rfl rfl (by simp only [Bool.false_eq_true, if_false, if_true, c6, c8, d4, hc4]; rfl) ?_)
   | refine b0 ?_
   | (refine Fo.now rfl rfl (by simp only [Bool.false_eq_true, if_false, if_true, c6, c8, d4, hc4]; rfl) ?_)
   | refine nl hKF ?_
   | refine sq ?_
   | refine rg fun KF hKF => ?_
   | refine cf rfl ?_
   | refine xi ?_
   | dsimp only [cond_true, cond_false]
  refine ⟨(v + 1, s4), by dsimp only; omega, ⟨by simp only [↓nrmL, nrmZ, Nat.reduceEqDiff, ↓reduceIte, Nat.reduceAdd, Int.reduceBEq, Int.reduceBNe]; rw [w1], rfl, trivial⟩, by dsimp only; omega, by dsimp only; omega, fun e => ?_, rfl⟩
  obtain ⟨q1, q2⟩ := hfr4 e
  rw [hue] at q2
  exact fun v' u' h1 h2 h3 h4 => by
   dsimp only at h2
   rcases Nat.lt_or_ge v' v with h | h
   ·exact q1 v' u' h1 h h3 h4
   ·exact q2 v' u' h h2 h3 h4
 have hub : u ≤ ut := by have := of_decide_eq_true hc4; omega
 have w2 := wa1 (a := u) (by omega)
 have m2 : IntKind.i64.wrap (((v * a : Nat) : Int) + (u : Int)) = ((v * a + u : Nat) : Int) := wa (by omega)
 have hlt : v * a + u < M.length := by rw [hM]; exact cf_lt (by omega) (by omega)
 cases s4
 ·skip
  repeat first
   | refine ox ?_
   | refine mI ?_
   | refine mB ?_
   | refine fd ?_
   | refine Fo.ld rfl rfl ?_
   | (refine bn rfl rfl rfl (by simp only [Bool.false_eq_true, if_false, if_true, c6, c8, d4, hc4]; rfl) ?_)
   | refine b0 ?_
   | refine fB ?_
   | (refine Fo.now rfl rfl (by simp only [Bool.false_eq_true, if_false, if_true, c6, c8, d4, hc4]; rfl) ?_)
   | refine nl hKF ?_
   | refine sq ?_
   | refine rg fun KF hKF => ?_
   | refine ct rfl ?_
   | refine sk ?_
   | refine Wp.block ?_
   | dsimp only [cond_true, cond_false]
  exact ⟨(u + 1, false), by dsimp only; omega, ⟨by simp only [↓nrmL, nrmZ, Nat.reduceEqDiff, ↓reduceIte, Nat.reduceAdd, Int.reduceBEq, Int.reduceBNe]; rw [w2], rfl, trivial⟩, by dsimp only; omega, by dsimp only; omega, fun e => (by cases e), rfl⟩
 ·obtain ⟨bit, hbit⟩ : ∃ z : Bool, (((M[v * a + u].toNat : Nat) : Int) == 0) = z := ⟨_, rfl⟩
  repeat first
   | refine oy ?_
   | refine mI ?_
   | refine mB ?_
   | refine fd ?_
   | refine Fo.ld rfl rfl ?_
   | (refine bn rfl rfl rfl (by simp only [Bool.false_eq_true, if_false, if_true, c6, c8, d4, hc4, m1, m2, hbit]; rfl) ?_)
   | refine b0 ?_
   | refine tB ?_
   | (refine Fo.idx (by simp only [↓nrmL, nrmK, Nat.reduceEqDiff, ↓reduceIte]; rfl) rfl ?_ (by simp only [↓nrmL, nrmZ, Nat.reduceEqDiff, ↓reduceIte, Nat.reduceAdd, Int.reduceBEq, Int.reduceBNe, Bool.false_eq_true, if_false, if_true, c6, c8, d4, hc4, m1, m2, hbit]; rfl) ?_; (focus omega))
   | (refine Fo.ldB rfl ?_ rfl ?_; (focus omega))
   | (refine Fo.now rfl rfl (by simp only [Bool.false_eq_true, if_false, if_true, c6, c8, d4, hc4, m1, m2, hbit]; rfl) ?_)
   | refine nl hKF ?_
   | refine sq ?_
   | refine rg fun KF hKF => ?_
   | refine ct rfl ?_
   | refine sk ?_
   | refine Wp.block ?_
   | dsimp only [cond_true, cond_false]
  refine ⟨(u + 1, bit), by dsimp only; omega, ⟨by simp only [↓nrmL, nrmZ, Nat.reduceEqDiff, ↓reduceIte, Nat.reduceAdd, Int.reduceBEq, Int.reduceBNe]; rw [w2], rfl, trivial⟩, by dsimp only; omega, by dsimp only; omega, fun e => ⟨(hfr4 rfl).1, fun v' u' h1 h2 h3 h4 => ?_⟩, rfl⟩
  dsimp only at e h4
  rw [e] at hbit
  rcases Nat.lt_or_ge u' u with h | h
  ·exact (hfr4 rfl).2 v' u' h1 h2 h3 h
  ·obtain rfl : v' = v := by omega
   obtain rfl : u' = u := by omega
   rw [List.getD_eq_getElem?_getD, List.getElem?_eq_getElem hlt, Option.getD_some]
   intro q
   rw [q] at hbit
   exact absurd (eq_of_beq hbit) (by decide)
end Go.Am
namespace Go.Am
open Go
section
variable {l : List UInt8} {a b : Nat} {N : List Nat} {f : Nat → Bool}
theorem lead_list (l : List UInt8) (a b : Nat) (e : Bool) : ∃ N : List Nat, ∀ i, i < a * b → l.getD i 0 = 1 → Lead l a b e i (N.getD i 0) := by
  classical
  refine ⟨(List.range (a * b)).map (fun i => if h : ∃ m, Lead l a b e i m then h.choose else 0), fun i hi h1 => ?_⟩
  have h := lead_exists (e := e) hi h1
  rw [List.getD_eq_getElem?_getD, List.getElem?_map, List.getElem?_range hi]
  show Lead l a b e i (if h : ∃ m, Lead l a b e i m then h.choose else 0)
  rw [dif_pos h]
  exact h.choose_spec
theorem spk_ink {e : Bool} (hl : l.length = a * b) (hld : ∀ i, i < a * b → l.getD i 0 = 1 → Lead l a b e i (N.getD i 0)) (f : Nat → Bool) (j : Nat) : (spk 0 f l (pcs l N (a * b))).getD j 0 = 1 ↔ l.getD j 0 = 1 ∧ f (pxr l N (N.getD j 0) (a * b)).length = false := by
  by_cases hj : j < l.length
  · rw [spk_get hj]
    constructor
    · intro h
      by_cases q : ∃ ps ∈ pcs l N (a * b), j ∈ ps ∧ f ps.length = true
      · rw [if_pos q] at h; cases h
      · rw [if_neg q] at h
        refine ⟨h, ?_⟩
        cases hf : f (pxr l N (N.getD j 0) (a * b)).length
        · rfl
        · refine absurd ⟨_, pcs_mem hld (by omega) h, ?_, hf⟩ q
          unfold pxr
          rw [List.mem_filter, List.mem_range, Bool.and_eq_true, beq_iff_eq, beq_iff_eq]
          exact ⟨by omega, h, rfl⟩
    · rintro ⟨h1, h2⟩
      rw [if_neg (by
        rintro ⟨ps, g1, g2, g3⟩
        rw [(pcs_of g1 g2).2, h2] at g3; cases g3)]
      exact h1
  · have e1 : (spk 0 f l (pcs l N (a * b))).getD j 0 = 0 := by
      rw [List.getD_eq_getElem?_getD, List.getElem?_eq_none (by rw [spk_length]; omega)]; rfl
    have e2 : l.getD j 0 = 0 := by
      rw [List.getD_eq_getElem?_getD, List.getElem?_eq_none (by omega)]; rfl
    rw [e1, e2]
    constructor
    · intro h; cases h
    · rintro ⟨h, _⟩; cases h
end
section
variable {l : List UInt8} {a b : Nat} {N : List Nat}
theorem mem_pxr {i j n : Nat} : j ∈ pxr l N i n ↔ j < n ∧ l.getD j 0 = 1 ∧ N.getD j 0 = i := by
  unfold pxr
  rw [List.mem_filter, List.mem_range, Bool.and_eq_true, beq_iff_eq, beq_iff_eq]
theorem speck_alone (hld : ∀ i, i < a * b → l.getD i 0 = 1 → Lead l a b true i (N.getD i 0)) {j : Nat} (hj : j < a * b) (hi : l.getD j 0 = 1) (hno : ∀ k, Nb a b true j k → l.getD k 0 = 1 → k = j) : (pxr l N (N.getD j 0) (a * b)).length ≤ 1 := by
  have hr : ∀ k, Reach l a b true j k → k = j := by
    intro k h
    induction h with
    | refl _ _ => rfl
    | step _ h2 h3 ih => rw [ih] at h2; exact hno _ h2 h3
  have hall : ∀ k ∈ pxr l N (N.getD j 0) (a * b), k = j := by
    intro k hk
    obtain ⟨k1, k2, k3⟩ := mem_pxr.1 hk
    have h1 := (hld k k1 k2).1
    rw [k3] at h1
    exact hr k ((hld j hj hi).1.trans h1.symm)
  have hnd : (pxr l N (N.getD j 0) (a * b)).Nodup := List.nodup_range.filter _
  generalize pxr l N (N.getD j 0) (a * b) = P at hall hnd
  match P, hall, hnd with
  | [], _, _ => exact Nat.zero_le _
  | [_], _, _ => exact Nat.le_refl _
  | x :: y :: P, h1, h2 =>
    have e1 := h1 x (List.mem_cons_self ..)
    have e2 := h1 y (List.mem_cons_of_mem _ (List.mem_cons_self ..))
    rw [List.nodup_cons] at h2
    exact absurd (by rw [e1, e2]; exact List.mem_cons_self ..) h2.1
theorem two_stay (hld : ∀ i, i < a * b → l.getD i 0 = 1 → Lead l a b true i (N.getD i 0)) {j k : Nat} (hj : j < a * b) (hi : l.getD j 0 = 1) (hn : Nb a b true j k) (hk : l.getD k 0 = 1) (hne : k ≠ j) : 2 ≤ (pxr l N (N.getD j 0) (a * b)).length := by
  have hkn : N.getD k 0 = N.getD j 0 := (hld k hn.lt hk).unique ((hld j hj hi).same ((Reach.refl hj hi).step hn hk))
  have m1 : j ∈ pxr l N (N.getD j 0) (a * b) := mem_pxr.2 ⟨hj, hi, rfl⟩
  have m2 : k ∈ pxr l N (N.getD j 0) (a * b) := mem_pxr.2 ⟨hn.lt, hk, hkn⟩
  generalize pxr l N (N.getD j 0) (a * b) = P at m1 m2
  match P, m1, m2 with
  | [], m1, _ => cases m1
  | [x], m1, m2 =>
    rw [List.mem_singleton] at m1 m2
    exact absurd (m2.trans m1.symm) hne
  | _ :: _ :: _, _, _ => simp
end
section
variable {U : List UInt8} {a b : Nat} {N : List Nat} {F : Int → Prop}
theorem comp_rows (h : Rul a (inkS U a b) F) (ha : 2 ≤ a) (hF : ∀ r : Nat, F r → r < b → ∀ x, x < a → U.getD (r * a + x) 0 = 1) (hld : ∀ i, i < a * b → U.getD i 0 = 1 → Lead U a b true i (N.getD i 0)) {x r : Nat} (hx : x < a) (hr : r < b) (hi : U.getD (r * a + x) 0 = 1) : 2 ≤ (pxr U N (N.getD (r * a + x) 0) (a * b)).length ↔ F r := by
  obtain ⟨e1, e2⟩ := cf_at (y := r) hx
  constructor
  · intro h2
    refine Classical.byContradiction fun hn => ?_
    have := speck_alone hld (cf_lt hx hr) hi fun k hk hki => ?_
    · omega
    · obtain ⟨t, ht, _, u, v, hu, hv, d1, d2, rfl⟩ := hk
      obtain ⟨b1, b2⟩ := dN_bd t ht
      rw [e1] at d1
      rw [e2] at d2
      obtain ⟨q1, q2⟩ := h.one x r u v hx hu ⟨by omega, by omega, by rw [Int.toNat_natCast]; exact hi⟩ hn ⟨by omega, by omega, by rw [Int.toNat_natCast]; exact hki⟩ (by omega) (by omega)
      have q2 : v = r := by omega
      rw [q1, q2]
  · intro hf
    by_cases h1 : x + 1 < a
    · exact two_stay hld (cf_lt hx hr) hi (k := r * a + (x + 1)) ⟨2, by decide, Or.inl rfl, x + 1, r, h1, hr, by rw [e1]; show ((x + 1 : Nat) : Int) = (x : Int) + 1; omega, by rw [e2]; show (r : Int) = (r : Int) + 0; omega, rfl⟩ (hF r hf hr _ h1) (by omega)
    · exact two_stay hld (cf_lt hx hr) hi (k := r * a + (x - 1)) ⟨6, by decide, Or.inl rfl, x - 1, r, by omega, hr, by rw [e1]; show ((x - 1 : Nat) : Int) = (x : Int) + -1; omega, by rw [e2]; show (r : Int) = (r : Int) + 0; omega, rfl⟩ (hF r hf hr _ (by omega)) (by omega)
theorem left_rows (h : Rul a (inkS U a b) F) (ha : 2 ≤ a) (hF : ∀ r : Nat, F r → r < b → ∀ x, x < a → U.getD (r * a + x) 0 = 1) (hld : ∀ i, i < a * b → U.getD i 0 = 1 → Lead U a b true i (N.getD i 0)) {R g : List UInt8} (hRl : R.length = a * b) (hR : ∀ j, R.getD j 0 = 0 ∨ R.getD j 0 = 1) (hgl : g.length = a * b) (hg : ∀ j, g.getD j 0 = 0 ∨ g.getD j 0 = 1) (hgF : ∀ x r : Nat, x < a → r < b → (g.getD (r * a + x) 0 = 1 ↔ F r)) (hink : ∀ j, R.getD j 0 = 1 ↔ U.getD j 0 = 1 ∧ 2 ≤ (pxr U N (N.getD j 0) (a * b)).length) : R = g := by
  apply List.ext_getElem (by omega)
  intro j h1 h2
  have hj : j < a * b := by omega
  have ha0 : 0 < a := by omega
  have hx : j % a < a := Nat.mod_lt _ ha0
  have hr : j / a < b := Nat.div_lt_of_lt_mul hj
  have hje : j / a * a + j % a = j := by rw [Nat.mul_comm]; exact Nat.div_add_mod j a
  have k1 := hink j
  have k2 := hgF (j % a) (j / a) hx hr
  rw [hje] at k2
  have k3 : R.getD j 0 = 1 ↔ g.getD j 0 = 1 := by
    rw [k1, k2]
    constructor
    · rintro ⟨q1, q2⟩
      have := comp_rows h ha hF hld hx hr (by rw [hje]; exact q1)
      rw [hje] at this
      exact this.1 q2
    · intro q
      have q1 := hF (j / a) q hr (j % a) hx
      have := comp_rows h ha hF hld hx hr q1
      rw [hje] at this q1
      exact ⟨q1, this.2 q⟩
  have e1 : R.getD j 0 = R[j] := by rw [List.getD_eq_getElem?_getD, List.getElem?_eq_getElem h1, Option.getD_some]
  have e2 : g.getD j 0 = g[j] := by rw [List.getD_eq_getElem?_getD, List.getElem?_eq_getElem h2, Option.getD_some]
  have k4 := hR j
  have k5 := hg j
  rw [e1, e2] at k3
  rw [e1] at k4
  rw [e2] at k5
  rcases k4 with k4 | k4 <;> rcases k5 with k5 | k5
  · rw [k4, k5]
  · rw [k5] at k3; rw [k3.2 rfl, k5]
  · rw [k4] at k3; rw [k3.1 rfl, k4]
  · rw [k4, k5]
end
structure Fnd (a b : Nat) (l l' : List UInt8) (F : List Int) (k : Int) : Prop where
  ok : Ok a b l
  rf : RulF a b l F
  ok' : Ok a b l'
  ru : Rul a (inkS l' a b) (fun r => r ∈ F)
  inn : ∀ j, l.getD j 0 = 1 → l'.getD j 0 = 1
  wa : 65 ≤ a
  hb : b ≤ 100
  hk : -3 ≤ k ∧ k ≤ 3
section
variable {a b : Nat} {l l' : List UInt8} {F : List Int} {k : Int}
theorem Fnd.gr (h : Fnd a b l l' F k) : b + grN a k a ≤ 640 := by
  have := gr_le (w := a) h.ok.wa h.hk a (Nat.le_refl _)
  have := h.hb
  omega
theorem Fnd.okT (h : Fnd a b l l' F k) : Ok a (b + grN a k a) (skewL l' a b k) := skewL_ok h.ok' h.gr
theorem Fnd.full (h : Fnd a b l l' F k) {r : Nat} (hr : r < b) (hf : (r : Int) ∈ F) {x : Nat} (hx : x < a) : l'.getD (r * a + x) 0 = 1 := h.inn _ ((h.rf.ink x r hx hr).2 hf)
theorem Fnd.px (h : Fnd a b l l' F k) {x y : Nat} (hx : x < a) (hy : y < b) : ∃ i, i < (skewL l' a b k).length ∧ (skewL l' a b k).getD i 0 = l'.getD (y * a + x) 0 := by
  refine ⟨_, ?_, skew_get hx hy⟩
  have hg := gr_ge (w := a) (k := k) a x hx
  rw [h.okT.len]
  exact cf_lt hx (by omega)
theorem Fnd.level (h : Fnd a b l l' F k) (L : List UInt8) : ∃ t, levelS ⟨a, (b + grN a k a : Nat), dirtyL L (skewL l' a b k)⟩ = (t, 0) ∧ 60 < t ∧ t ≤ 195 ∧ thrSpec ⟨a, (b + grN a k a : Nat), dirtyL L (skewL l' a b k)⟩ t = (⟨a, (b + grN a k a : Nat), skewL l' a b k⟩, 0) ∧ sizedB a (b + grN a k a : Nat) (dirtyL L (skewL l' a b k)).length = true := by
  have ha := h.wa
  have hs : sizedB a (b + grN a k a : Nat) (dirtyL L (skewL l' a b k)).length = true := by
    have := h.okT.sized
    rwa [show (dirtyL L (skewL l' a b k)).length = (skewL l' a b k).length by simp [dirtyL]]
  have h01 : ∀ i, (skewL l' a b k).getD i 0 = 0 ∨ (skewL l' a b k).getD i 0 = 1 := fun i => getD01 h.okT.px i
  have hl := level_dirty (L := L) h01 ?_ ?_
  · refine ⟨_, by simp only [levelS, Img.sized, hs, cond_true], hl.1, hl.2, ?_, hs⟩
    rw [thrSpec_ok hs (by omega) (by omega), thr_dirty h01 hl]
  · obtain ⟨r, hr, hf⟩ := h.rf.some
    obtain ⟨i, hi, e⟩ := h.px (x := 0) (by omega) hr
    exact ⟨i, hi, by rw [e]; exact h.full hr hf (by omega)⟩
  · obtain ⟨r, hr, hf⟩ := h.rf.none
    refine Classical.byContradiction fun hno => hf ?_
    refine h.ru.full (by omega) (r := (r : Int)) fun x hx => ⟨by omega, by omega, ?_⟩
    rw [Int.toNat_natCast]
    rcases getD01 h.ok'.px (r * a + x) with q | q
    · obtain ⟨i, hi, e⟩ := h.px hx hr
      exact absurd ⟨i, hi, by rw [e]; exact q⟩ hno
    · exact q
theorem Fnd.skew (h : Fnd a b l l' F k) : findS ⟨a, (b + grN a k a : Nat), skewL l' a b k⟩ = (k, 0) := by
  have ha := h.wa
  have hsk := skB_iff.2 h.hk
  have hun : unskewL (skewL l' a b k) a b k = l' := un_skew h.ok'.len
  obtain ⟨_, _, u3⟩ := un_ok (k := k) h.okT hsk rfl
  rw [hun] at u3
  have hp : (fsA (fwS ⟨a, (b + grN a k a : Nat), skewL l' a b k⟩) skAll).1 = k := by
    refine fs_pick h.hk (by rw [u3]) ?_ fun x hx1 hx2 hne => ?_
    · rw [u3]
      obtain ⟨r, hr, hf⟩ := h.rf.some
      have := fullN_pos (l := l') (a := a) (y := r) ((full_iff (by omega)).2 fun x hx => h.full hr hf hx) b hr
      dsimp only
      omega
    · have hsx := skB_iff.2 ⟨hx1, hx2⟩
      by_cases hg : grN a x a ≤ b + grN a k a
      · obtain ⟨c, hc⟩ : ∃ c, b + grN a k a = c + grN a x a := ⟨b + grN a k a - grN a x a, by omega⟩
        obtain ⟨_, _, v3⟩ := un_ok (k := x) h.okT hsx hc
        rw [v3, un_none h.ru h.hk ⟨hx1, hx2⟩ ha (Ne.symm hne)]
        exact Or.inr (Int.le_refl 0)
      · rw [(un_no h.okT hsx hg).2]
        exact Or.inl (by decide)
  simp only [findS, h.okT.err, beq_self_eq_true, cond_true, hp]
theorem Fnd.un (h : Fnd a b l l' F k) : unskewS ⟨a, (b + grN a k a : Nat), skewL l' a b k⟩ k = (⟨a, b, l'⟩, 0) := unskew_is h.ok' (skB_iff.2 h.hk) h.gr
theorem Fnd.skewed (h : Fnd a b l l' F k) : skewS ⟨a, b, l'⟩ k = (⟨a, (b + grN a k a : Nat), skewL l' a b k⟩, 0) := skew_is h.ok' (skB_iff.2 h.hk) h.gr
theorem Fnd.left (h : Fnd a b l l' F k) {M L : List Nat} (hlab : Lab l' a b true M L (a * b)) : spk 0 (fun n => !decide ((n : Int) ≥ 2)) l' (pxAll M L.length (a * b)) = l := by
  have ha := h.wa
  obtain ⟨N, hN⟩ := lead_list l' a b true
  rw [pxAll_fls hlab hN]
  refine left_rows h.ru (by omega) (fun r hf hr x hx => h.full hr hf hx) hN (by rw [spk_length]; exact h.ok'.len) (fun j => ?_) h.ok.len (fun j => getD01 h.ok.px j) (fun x r hx hr => h.rf.ink x r hx hr) fun j => ?_
  · by_cases hj : j < l'.length
    · rw [spk_get hj]
      split
      · exact Or.inl rfl
      · exact getD01 h.ok'.px j
    · rw [List.getD_eq_getElem?_getD, List.getElem?_eq_none (by rw [spk_length]; omega)]
      exact Or.inl rfl
  · rw [spk_ink h.ok'.len hN]
    refine and_congr Iff.rfl ?_
    rw [Bool.not_eq_false', decide_eq_true_eq]
    omega
end
end Go.Am
namespace Go.Am
open Go
attribute [local irreducible] Wp WpO WpX WpE
theorem filled_one (w : Nat) : filled (fun _ => 1) w w = List.replicate w 1 := by
 rw [filled_all, List.map_const', List.length_range]
theorem K_lineL {w : Nat} {H : AHeap} (hw : w ≤ 640) : Con ext prog 1 19 [.int .i64 (w : Int)] H fun v H' => NewInk H H' v ⟨w, 1, List.replicate w 1⟩ := by
 refine con_of (show prog 19 = some c19 from rfl) rfl rfl fun n hn => ?_
 repeat first
  | refine mI ?_
  | refine nw ?_
  | refine nl hKF ?_
  | refine sq ?_
  | refine rg fun KF hKF => ?_
 refine WpO.do (WpX.mkB rfl rfl rfl (by omega) fun q H1 e1 hq hf hw' hx => ?_); try simp only [↓nrmL, nrmZ, Nat.reduceEqDiff, ↓reduceIte, Nat.reduceAdd, Int.reduceBEq, Int.reduceBNe]
 haveI := hq.one
 refine ob (cs' := ?_) ?hc ?_; case hc => (simp only [↓nrmL, nrmZ, Nat.reduceEqDiff, ↓reduceIte, Nat.reduceAdd, Int.reduceBEq, Int.reduceBNe]; rfl)
 refine nw ?_
 refine so rfl (rfl : _ = AVal.agg _) rfl rfl rfl (by simp only [↓nrmL, nrmZ, Nat.reduceEqDiff, ↓reduceIte, Nat.reduceAdd, Int.reduceBEq, Int.reduceBNe]; rfl) ?_
 refine nl hKF ?_
 refine sq ?_
 refine sq ?_
 refine rg fun KF hKF => ?_
 refine fd ?_
 refine Fo.ld rfl rfl ?_
 refine ln (by simp only [↓nrmL, nrmK, Nat.reduceEqDiff, ↓reduceIte]; rfl) ?_
 refine mI ?_
 refine nl hKF ?_
 refine Wp.block ?_
 dsimp only [cond_true, cond_false]
 refine Wp.loopS [4, 12, 13, 14, 15, 16, 17, 18, 19] (fun i : Nat => [(12, .int .i64 i)]) (fun H3 i H2 => i ≤ w ∧ BytesI H2 q (filled (fun _ => 1) i w) ∧ WrS H2 q ∧ ExtP0 H3 H2 q) (fun i => w - i) 0 rfl (fun _ => rfl) ⟨rfl, trivial⟩ ⟨Nat.zero_le _, by rw [filled_zero]; infer_instance, inferInstance, inferInstance⟩ (by unfold fuel0 at hn; omega) ?_
 rintro i g H2 ⟨hi, hb2, hw2, ⟨hx2⟩⟩
 simp only [↓nrmL, nrmZ, Nat.reduceEqDiff, ↓reduceIte, Nat.reduceAdd, Int.reduceBEq, Int.reduceBNe, List.length_replicate]
 cases hc : decide ((i : Int) < (w : Int))
 ·have hil : i = w := by have := of_decide_eq_false hc; omega
  subst hil
  rw [filled_one] at hb2
  repeat first
   | (refine Fo.ldN rfl rfl (by simp only [↓nrmL, nrmZ, Nat.reduceEqDiff, ↓reduceIte, Nat.reduceAdd, Int.reduceBEq, Int.reduceBNe, hc]; rfl) ?_)
   | (refine bn rfl rfl rfl (by simp only [hc]; rfl) ?_)
   | (refine so rfl (rfl : _ = AVal.agg _) rfl rfl rfl (by simp only [↓nrmL, nrmZ, Nat.reduceEqDiff, ↓reduceIte, Nat.reduceAdd, Int.reduceBEq, Int.reduceBNe, hc]; rfl) ?_)
   | refine nl hKF ?_
   | refine sq ?_
   | refine rg fun KF hKF => ?_
   | refine cf rfl ?_
   | refine rt ?_
   | refine xi ?_
   | dsimp only [cond_true, cond_false]
  refine rz trivial ?_
  exact ⟨q, rfl, (show BytesI _ q (List.replicate i 1) from inferInstance), hf.weak, inferInstance, Ext0.ext⟩
 ·have hil : i < w := by have := of_decide_eq_true hc; omega
  have hw1 := wa1 (a := i) (by omega)
  have hfl := filled_length (fun _ => (1 : UInt8)) i w
  repeat first
   | refine mI ?_
   | refine fd ?_
   | refine Fo.ld rfl rfl ?_
   | (refine bn rfl rfl rfl (by simp only [hc]; rfl) ?_)
   | (refine Fo.idx (by simp only [↓nrmL, nrmK, Nat.reduceEqDiff, ↓reduceIte]; rfl) rfl ?_ (by simp only [↓nrmL, nrmZ, Nat.reduceEqDiff, ↓reduceIte, Nat.reduceAdd, Int.reduceBEq, Int.reduceBNe, hc]; rfl) ?_; (focus omega))
   | refine nl hKF ?_
   | refine sq ?_
   | refine rg fun KF hKF => ?_
   | refine ct rfl ?_
   | refine sk ?_
   | refine Wp.block ?_
  refine WpO.do' (WpX.stB (p := q) (j := i) (l := filled (fun _ => 1) i w) 1 rfl rfl rfl (by omega) fun H4 hb4 hw4 hx4 => ?_)
  rw [filled_succ (f := fun _ => (1 : UInt8))] at hb4
  haveI := hx4
  refine nl hKF ?_
  refine rg fun KF hKF => ?_
  refine b0 ?_
  refine mI ?_
  refine nl hKF ?_
  dsimp only [cond_true, cond_false]
  refine ⟨i + 1, by omega, ⟨by simp only [↓nrmL, nrmZ, Nat.reduceEqDiff, ↓reduceIte, Nat.reduceAdd, Int.reduceBEq, Int.reduceBNe]; rw [hw1], trivial⟩, hil, hb4, hw4, inferInstance⟩
end Go.Am
namespace Go.Am
open Go
def aw1 : List UInt8 := List.replicate 65 0 ++ List.replicate 64 1 ++ [0] ++ List.replicate 64 1 ++ List.replicate 64 0 ++ [1] ++ List.replicate 128 0
theorem aw_e1 : skewS ⟨((129 : Nat) : Int), 1, List.replicate 129 1⟩ (-1) = (⟨129, 3, aw1⟩, 0) := by decide +kernel
theorem aw_e2 : findS ⟨129, 3, aw1⟩ = (-1, 0) := by decide +kernel
theorem aw_e3 : skewS ⟨((64 : Nat) : Int), 1, List.replicate 64 1⟩ 1 = (⟨64, 1, List.replicate 64 1⟩, 0) := by decide +kernel
theorem aw_e4 : levelS ⟨4, 1, [10, 20, 200, 210]⟩ = (110, 0) := by decide +kernel
theorem aw_e5 : levelS ⟨3, 1, [200, 0, 100]⟩ = (50, 0) := by decide +kernel
end Go.Am
namespace Go.Am
open Go
attribute [local irreducible] Wp WpO WpX WpE
theorem bytes_of {H : AHeap} {r n : Nat} {cs : List AVal} {l : List UInt8} {e : TypeId} (hg : HasRow H r cs true e) (hn : l.length = n) (hc : cs = cellsB l) : BytesI H (.slice r 0 n (some n) 1) l := by
 subst hn hc
 refine ⟨Or.inr ⟨r, 0, some l.length, cellsB l, true, e, rfl, hg.lt, hg.get, by rw [cellsB_length]; omega, ?_, Nat.le_refl _⟩⟩
 rw [List.drop_zero, Nat.mul_one, ← cellsB_length l, List.take_length]
instance K_awake {H : AHeap} : PureCon ext prog 5 [] H 13 (.bool true) := ⟨by
 refine con_of (show prog 5 = some c5 from rfl) rfl rfl fun n hn => ?_
 haveI b1 : BytesI (H.push (.row [.int .u8 10, .int .u8 20, .int .u8 200, .int .u8 210] true (2 * 5))) (.slice H.n 0 4 (some 4) 1) [10, 20, 200, 210] := bytes_of (e := 2 * 5) ⟨Nat.lt_succ_self _, push_get_eq⟩ rfl rfl
 simp only [aw_e4]
 repeat first
  | refine mI ?_
  | refine mB ?_
  | refine mT ?_
  | refine xt ?_
  | (refine Fo.pcall (v' := ?_) hn rfl (by simp only [↓nrmL, nrmZ, Nat.reduceEqDiff, ↓reduceIte, Nat.reduceAdd, Int.reduceBEq, Int.reduceBNe, aw_e4, List.map]; rfl) rfl ?hv fun _ _ => ?_; case hv => (simp only [aw_e4]; rfl))
  | (refine Fo.bslice rfl (by simp only [↓nrmL, nrmZ, Nat.reduceEqDiff, ↓reduceIte, Nat.reduceAdd, Int.reduceBEq, Int.reduceBNe, aw_e4]; rfl) ?_)
  | (refine Fo.now rfl rfl (by simp only [↓nrmL, nrmZ, Nat.reduceEqDiff, ↓reduceIte, Nat.reduceAdd, Int.reduceBEq, Int.reduceBNe, aw_e4]; rfl) ?_)
  | refine nl hKF ?_
  | refine sq ?_
  | refine rg fun KF hKF => ?_
 rename AHeap => H1
 haveI b2 : BytesI (H1.push (.row [.int .u8 200, .int .u8 0, .int .u8 100] true (2 * 5))) (.slice H1.n 0 3 (some 3) 1) [200, 0, 100] := bytes_of (e := 2 * 5) ⟨Nat.lt_succ_self _, push_get_eq⟩ rfl rfl
 refine Fo.pcall (v' := ?_) hn rfl (by simp only [↓nrmL, nrmZ, Nat.reduceEqDiff, ↓reduceIte, Nat.reduceAdd, Int.reduceBEq, Int.reduceBNe, aw_e5, List.map]; rfl) rfl ?hv fun _ _ => ?_; case hv => (simp only [aw_e5]; rfl)
 refine mT ?_
 refine xt ?_
 refine xt ?_
 refine mI ?_
 refine mI ?_
 refine nl hKF ?_
 refine sq ?_
 refine rg fun KF hKF => ?_
 refine WpO.do (WpX.conD hn rfl rfl (by simp only [↓nrmL, nrmZ, Nat.reduceEqDiff, ↓reduceIte, Nat.reduceAdd, Int.reduceBEq, Int.reduceBNe, List.map] <;> rfl) (K_lineL (w := 129) (by decide)) fun v H5 h5 => ?_)
 obtain ⟨q1, e1, hq1, hf1, hw1, hx1⟩ := h5
 subst e1
 try dsimp only at hq1
 haveI : ExtI _ H5 := ⟨hx1⟩
 haveI := hq1.one
 dsimp only [cond_true, cond_false]
 refine WpO.do (WpX.conD hn rfl rfl (by simp only [↓nrmL, nrmZ, Nat.reduceEqDiff, ↓reduceIte, Nat.reduceAdd, Int.reduceBEq, Int.reduceBNe, List.map] <;> rfl) (K_Skew (w := ((129 : Nat) : Int)) (h := 1) (k := -1) (l := List.replicate 129 1)) fun v H6 h5 => ?_)
 rw [aw_e1] at h5
 obtain ⟨u, e1, q2, e2, hq2, hf2, hw2, hx2⟩ := h5
 subst e1 e2
 try dsimp only at hq2
 haveI : ExtI _ H6 := ⟨hx2⟩
 haveI := hq2.one
 simp only [aw_e2]
 repeat first
  | refine mI ?_
  | refine mT ?_
  | (refine Fo.ldN rfl rfl (by simp only [↓nrmL, nrmZ, Nat.reduceEqDiff, ↓reduceIte, Nat.reduceAdd, Int.reduceBEq, Int.reduceBNe, aw_e2]; rfl) ?_)
  | refine xt ?_
  | (refine Fo.pcall (v' := ?_) hn rfl (by simp only [↓nrmL, nrmZ, Nat.reduceEqDiff, ↓reduceIte, Nat.reduceAdd, Int.reduceBEq, Int.reduceBNe, aw_e2, List.map]; rfl) rfl ?hv fun _ _ => ?_; case hv => (simp only [aw_e2]; rfl))
  | refine nw ?_
  | (refine so rfl (rfl : _ = AVal.agg _) rfl rfl rfl (by simp only [↓nrmL, nrmZ, Nat.reduceEqDiff, ↓reduceIte, Nat.reduceAdd, Int.reduceBEq, Int.reduceBNe, aw_e2]; rfl) ?_)
  | refine nl hKF ?_
  | refine sq ?_
  | refine rg fun KF hKF => ?_
 refine WpO.do (WpX.conD hn rfl rfl (by simp only [↓nrmL, nrmZ, Nat.reduceEqDiff, ↓reduceIte, Nat.reduceAdd, Int.reduceBEq, Int.reduceBNe, List.map] <;> rfl) (K_lineL (w := 64) (by decide)) fun v H7 h5 => ?_)
 obtain ⟨q3, e1, hq3, hf3, hw3, hx3⟩ := h5
 subst e1
 try dsimp only at hq3
 haveI : ExtI _ H7 := ⟨hx3⟩
 haveI := hq3.one
 dsimp only [cond_true, cond_false]
 refine WpO.do (WpX.conD hn rfl rfl (by simp only [↓nrmL, nrmZ, Nat.reduceEqDiff, ↓reduceIte, Nat.reduceAdd, Int.reduceBEq, Int.reduceBNe, List.map] <;> rfl) (K_Skew (w := ((64 : Nat) : Int)) (h := 1) (k := 1) (l := List.replicate 64 1)) fun v H8 h5 => ?_)
 rw [aw_e3] at h5
 obtain ⟨u, e1, q4, e2, hq4, hf4, hw4, hx4⟩ := h5
 subst e1 e2
 try dsimp only at hq4
 haveI : ExtI _ H8 := ⟨hx4⟩
 haveI := hq4.one
 refine mT ?_
 refine xt ?_
 refine xt ?_
 refine nw ?_
 refine so rfl (rfl : _ = AVal.agg _) rfl rfl rfl (by simp only [↓nrmL, nrmZ, Nat.reduceEqDiff, ↓reduceIte, Nat.reduceAdd, Int.reduceBEq, Int.reduceBNe]; rfl) ?_
 refine mI ?_
 refine nl hKF ?_
 refine sq ?_
 dsimp only [cond_true, cond_false]
 refine Fr.dregion0 rfl fun KF hKF => ?_
 repeat first
  | (refine Er rfl (exec_ld rfl rfl) rfl ?_)
  | (refine Er rfl (exec_ldN rfl rfl (by simp only [↓nrmL, nrmZ, Nat.reduceEqDiff, ↓reduceIte, Nat.reduceAdd, Int.reduceBEq, Int.reduceBNe]; rfl)) rfl ?_)
  | (refine Fe.pure rfl rfl (by simp only [↓nrmL, nrmZ, Nat.reduceEqDiff, ↓reduceIte, Nat.reduceAdd, Int.reduceBEq, Int.reduceBNe]; rfl) ?_)
 refine Fe.con rfl hn rfl rfl (by simp only [↓nrmL, nrmZ, Nat.reduceEqDiff, ↓reduceIte, Nat.reduceAdd, Int.reduceBEq, Int.reduceBNe, List.map] <;> rfl) (K_lineL (w := 64) (by decide)) fun v H9 h5 => ?_
 obtain ⟨q5, e1, hq5, hf5, hw5, hx5⟩ := h5
 subst e1
 try dsimp only at hq5
 haveI : ExtI _ H9 := ⟨hx5⟩
 haveI := hq5.one
 haveI : Short (List.replicate 64 (1 : UInt8)) := ⟨by rw [List.length_replicate]; decide⟩
 have hs : decide ((⟨64, 1, List.replicate 64 1⟩ : Img) = ⟨64, 1, List.replicate 64 1⟩) = true := decide_eq_true rfl
 refine ar ?_
 simp only [hs]
 refine Fe.pcall (v' := ?_) rfl hn rfl (by simp only [↓nrmL, nrmZ, Nat.reduceEqDiff, ↓reduceIte, Nat.reduceAdd, Int.reduceBEq, Int.reduceBNe, hs, List.map]; rfl) rfl ?hv fun _ _ => ar ?_; case hv => rfl
 refine Fe.pure rfl rfl (by simp only [hs]; rfl) ?_
 refine Fe.pure rfl rfl (by simp only [↓nrmL, nrmZ, Nat.reduceEqDiff, ↓reduceIte, Nat.reduceAdd, Int.reduceBEq, Int.reduceBNe, hs]; rfl) ?_
 refine WpE.nil (hKF _ _ ?_)
 refine rt ?_
 dsimp only [cond_true, cond_false]
 refine rz trivial ?_
 exact ⟨rfl, Ext0.ext⟩⟩
end Go.Am
namespace Go.Am
open Go
attribute [local irreducible] Wp WpO WpX WpE
theorem K_CleanFound {c u : UInt8} {p p2 p3 : AVal} {H : AHeap} {rows lv : List UInt8} {at' : List Nat} [hp : BytesI H p rows] [hc0 : U16I H p2 at'] [hp3 : BytesI H p3 lv] [ht : Tabs H] (hm : ∀ n ∈ at', n < 65536) : Con ext prog 18 4 [.int .u8 (c.toNat : Int), p, p2, .int .u8 (u.toNat : Int), p3] H fun v H' => v = .bool true ∧ Ext H H' := by
 refine con_of (show prog 4 = some c4 from rfl) rfl rfl fun n hn => ?_
 haveI := hp.one
 haveI := hc0.one
 haveI := hp3.one
 obtain ⟨s, hs⟩ : ∃ s : Int, ((u.toNat % 7 : Nat) : Int) - 3 = s := ⟨_, rfl⟩
 have w1 : ((u.toNat : Nat) : Int).tmod 7 = ((u.toNat % 7 : Nat) : Int) := rfl
 have w3 : IntKind.i64.wrap ((u.toNat % 7 : Nat) : Int) = ((u.toNat % 7 : Nat) : Int) := by have h7 := Nat.mod_lt u.toNat (Nat.succ_pos 6); exact w64 (by omega)
 have w4 : IntKind.i64.wrap (((u.toNat % 7 : Nat) : Int) - 3) = s := by rw [w64 (by omega)]; exact hs
 have hsb : -3 ≤ s ∧ s ≤ 3 := by have h7 := Nat.mod_lt u.toNat (Nat.succ_pos 6); omega
 repeat first
  | refine mI ?_
  | refine mB ?_
  | (refine mv ?_)
  | refine nl hKF ?_
  | refine sq ?_
  | refine rg fun KF hKF => ?_
 refine WpO.do (WpX.conD hn rfl rfl (by simp only [↓nrmL, nrmZ, Nat.reduceEqDiff, ↓reduceIte, Nat.reduceAdd, Int.reduceBEq, Int.reduceBNe, List.map] <;> rfl) (K_RuledF (c := c) (rows := rows)) fun v H1 h5 => ?_)
 obtain ⟨a, b, l, F, ha1, ha2, hb1, hb2, ok, rf, q, e1, hq, hf, hw, hx⟩ := h5
 subst e1
 try dsimp only at hq
 haveI : ExtI _ H1 := ⟨hx⟩
 haveI := hq.one
 simp only [w1, w3, w4]
 repeat first
  | refine mI ?_
  | (refine mv ?_)
  | (refine Fo.ldN rfl rfl (by simp only [↓nrmL, nrmZ, Nat.reduceEqDiff, ↓reduceIte, Nat.reduceAdd, Int.reduceBEq, Int.reduceBNe, w1, w3, w4]; rfl) ?_)
  | (refine bn rfl rfl rfl (by simp only [w1, w3, w4]; rfl) ?_)
  | refine nw ?_
  | (refine Fo.now rfl rfl (by simp only [w1, w3, w4]; rfl) ?_)
  | (refine so rfl (rfl : _ = AVal.agg _) rfl rfl rfl (by simp only [↓nrmL, nrmZ, Nat.reduceEqDiff, ↓reduceIte, Nat.reduceAdd, Int.reduceBEq, Int.reduceBNe, w1, w3, w4]; rfl) ?_)
  | refine nl hKF ?_
  | refine sq ?_
  | refine rg fun KF hKF => ?_
 refine WpO.do (WpX.conD hn rfl rfl (by simp only [↓nrmL, nrmZ, Nat.reduceEqDiff, ↓reduceIte, Nat.reduceAdd, Int.reduceBEq, Int.reduceBNe, List.map] <;> rfl) (K_specked (a := a) (b := b) (l := l) (A := at') (F := fun r => r ∈ F) hm ok (by omega) (by omega) rf.start) fun v H2 h5 => ?_)
 obtain ⟨l', ok', hR, hin, q2, e1, hq2, hf2, hw2, hx2⟩ := h5
 subst e1
 try dsimp only at hq2
 have fd : Fnd a b l l' F s := ⟨ok, rf, ok', hR, hin, ha1, hb2, hsb⟩
 haveI : ExtI _ H2 := ⟨hx2⟩
 haveI := hq2.one
 refine mI ?_
 dsimp only [cond_true, cond_false]
 refine WpO.do (WpX.conD hn rfl rfl (by simp only [↓nrmL, nrmZ, Nat.reduceEqDiff, ↓reduceIte, Nat.reduceAdd, Int.reduceBEq, Int.reduceBNe, List.map] <;> rfl) (K_Skew (w := a) (h := b) (k := s) (l := l')) fun v H3 h5 => ?_)
 rw [fd.skewed] at h5
 obtain ⟨v, e1, q3, e2, hq3, hf3, hw3, hx3⟩ := h5
 subst e1 e2
 try dsimp only at hq3
 haveI : ExtI _ H3 := ⟨hx3⟩
 haveI := hq3.one
 have okT := fd.okT
 have hleft := @Fnd.left a b l l' F s fd
 have hun := fd.un
 have hsk := fd.skew
 obtain ⟨t, hlvl, ht1, ht2, hthr, hsz⟩ := fd.level lv
 have hgr := fd.gr
 obtain ⟨T, hT⟩ : ∃ T, skewL l' a b s = T := ⟨_, rfl⟩
 obtain ⟨d, hd⟩ : ∃ d, b + grN a s a = d := ⟨_, rfl⟩
 rw [hT, hd] at okT hun hsk hlvl hthr hsz
 rw [hT] at hq3
 try rw [hd]
 rw [hd] at hgr
 have hTl := okT.len
 have had : a * d ≤ 160 * 640 := Nat.mul_le_mul ha2 hgr
 repeat first
  | refine mI ?_
  | refine mT ?_
  | (refine mv ?_)
  | (refine Fo.ldN rfl rfl (by simp only [↓nrmL, nrmZ, Nat.reduceEqDiff, ↓reduceIte, Nat.reduceAdd, Int.reduceBEq, Int.reduceBNe]; rfl) ?_)
  | (refine bn rfl rfl rfl (by simp only [↓nrmL, nrmZ, Nat.reduceEqDiff, ↓reduceIte, Nat.reduceAdd, Int.reduceBEq, Int.reduceBNe]; rfl) ?_)
  | refine xt ?_
  | refine nw ?_
  | (refine so rfl (rfl : _ = AVal.agg _) rfl rfl rfl (by simp only [↓nrmL, nrmZ, Nat.reduceEqDiff, ↓reduceIte, Nat.reduceAdd, Int.reduceBEq, Int.reduceBNe]; rfl) ?_)
  | refine nl hKF ?_
  | refine sq ?_
  | refine rg fun KF hKF => ?_
  | refine cf rfl ?_
  | refine sk ?_
  | dsimp only [cond_true, cond_false]
 refine WpO.do (WpX.conD hn rfl rfl (by simp only [↓nrmL, nrmZ, Nat.reduceEqDiff, ↓reduceIte, Nat.reduceAdd, Int.reduceBEq, Int.reduceBNe, List.map] <;> rfl) (K_dirty (w := a) (h := d) (l := T) (L := lv) (by omega)) fun v H4 h5 => ?_)
 obtain ⟨q4, e1, hq4, hf4, hw4, hx4⟩ := h5
 subst e1
 try dsimp only at hq4
 obtain ⟨P, hP⟩ : ∃ P, dirtyL lv T = P := ⟨_, rfl⟩
 rw [hP] at hq4 hlvl hthr hsz
 haveI : ExtI _ H4 := ⟨hx4⟩
 haveI := hq4.one
 refine nw ?_
 refine so rfl (rfl : _ = AVal.agg _) rfl rfl rfl (by simp only [↓nrmL, nrmZ, Nat.reduceEqDiff, ↓reduceIte, Nat.reduceAdd, Int.reduceBEq, Int.reduceBNe]; rfl) ?_
 refine nl hKF ?_
 refine sq ?_
 refine rg fun KF hKF => ?_
 refine Fo.ldN rfl rfl (by simp only [↓nrmL, nrmZ, Nat.reduceEqDiff, ↓reduceIte, Nat.reduceAdd, Int.reduceBEq, Int.reduceBNe]; rfl) ?_
 dsimp only [cond_true, cond_false]
 refine WpO.do (WpX.conD hn rfl rfl (by simp only [↓nrmL, nrmZ, Nat.reduceEqDiff, ↓reduceIte, Nat.reduceAdd, Int.reduceBEq, Int.reduceBNe, List.map] <;> rfl) (K_Clean (a := a) (b := d) (l := P) (t := t) hsz hlvl (by omega)) fun v H5 h5 => ?_)
 obtain ⟨T5, k5, c5, U5, M5, L5, q5, hT5, okT5, hfk5, hc5, hU5, okU5, hlab5, rfl, q6, e1, hq5, hf5, hw5, hx5⟩ := h5
 subst e1
 have eT : T5 = T := by rw [hthr] at hT5; injection hT5 with e; injection e with _ _ e; exact e.symm
 subst eT
 have ek : k5 = s := by rw [hsk] at hfk5; injection hfk5 with e; exact e.symm
 subst ek
 have ec : c5 = b := by omega
 subst ec
 have eU : U5 = l' := by rw [hun] at hU5; injection hU5 with e; injection e with _ _ e; exact e.symm
 subst eU
 try dsimp only at hq5
 rw [hleft hlab5] at hq5
 haveI : ExtI _ H5 := ⟨hx5⟩
 haveI := hq5.one
 have hll := ok.len
 have hlab2 : a * c5 ≤ 160 * 100 := Nat.mul_le_mul ha2 hb2
 haveI : Short l := ⟨by omega⟩
 have hsg : decide ((⟨(a : Int), (c5 : Int), l⟩ : Img) = ⟨a, c5, l⟩) = true := decide_eq_true rfl
 have hkk : (k5 != k5) = false := by simp
 have h60 : decide (t ≤ 60) = false := decide_eq_false (by omega)
 have h195 : decide (t > 195) = false := decide_eq_false (by omega)
 have hpr : properB t k5 2 = true := by
  unfold properB
  rw [decide_eq_true (by omega), decide_eq_true (by omega), skB_iff.2 hsb]; rfl
 simp only [hsg, hkk, h60, h195]
 repeat first
  | refine oy ?_
  | refine mI ?_
  | refine mB ?_
  | refine mT ?_
  | refine fd ?_
  | refine Fo.ld rfl rfl ?_
  | (refine Fo.ldN rfl rfl (by simp only [↓nrmL, nrmZ, Nat.reduceEqDiff, ↓reduceIte, Nat.reduceAdd, Int.reduceBEq, Int.reduceBNe, hsg, hkk, h60, h195]; rfl) ?_)
  | (refine bn rfl rfl rfl (by simp only [hsg, hkk, h60, h195]; rfl) ?_)
  | (refine bn rfl rfl rfl (by simp only [↓nrmL, nrmZ, Nat.reduceEqDiff, ↓reduceIte, Nat.reduceAdd, Int.reduceBEq, Int.reduceBNe, hsg, hkk, h60, h195]; rfl) ?_)
  | refine fB ?_
  | refine xt ?_
  | (refine Fo.pcall (v' := ?_) hn rfl (by simp only [↓nrmL, nrmZ, Nat.reduceEqDiff, ↓reduceIte, Nat.reduceAdd, Int.reduceBEq, Int.reduceBNe, hsg, hkk, h60, h195, List.map]; rfl) rfl ?hv fun _ _ => ?_; case hv => (simp only [hsg, hkk, h60, h195]; rfl))
  | refine nw ?_
  | refine Fo.now rfl rfl rfl ?_
  | (refine so rfl (rfl : _ = AVal.agg _) rfl rfl rfl (by simp only [↓nrmL, nrmZ, Nat.reduceEqDiff, ↓reduceIte, Nat.reduceAdd, Int.reduceBEq, Int.reduceBNe, hsg, hkk, h60, h195]; rfl) ?_)
  | refine nl hKF ?_
  | refine sq ?_
  | refine rg fun KF hKF => ?_
  | refine cf rfl ?_
  | refine sk ?_
 refine WpO.do (WpX.conD hn rfl rfl (by simp only [↓nrmL, nrmZ, Nat.reduceEqDiff, ↓reduceIte, Nat.reduceAdd, Int.reduceBEq, Int.reduceBNe, List.map] <;> rfl) (K_Apply (a := a) (b := d) (l := P) (t0 := t) (k0 := k5) (s0 := 2) hsz hpr) fun v H6 h5 => ?_)
 obtain ⟨T7, hT7, okT7, ⟨hg, _⟩ | ⟨c7, U7, M7, L7, hc7, hU7, okU7, hlab7, h5⟩⟩ := h5
 ·exact absurd (by omega) hg
 have eT : T7 = T5 := by rw [hthr] at hT7; injection hT7 with e; injection e with _ _ e; exact e.symm
 subst eT
 have ec : c7 = c5 := by omega
 subst ec
 have eU : U7 = U5 := by rw [hun] at hU7; injection hU7 with e; injection e with _ _ e; exact e.symm
 subst eU
 rw [hleft hlab7] at h5
 obtain ⟨v, e1, q7, e2, hq7, hf7, hw7, hx7⟩ := h5
 subst e1 e2
 try dsimp only at hq7
 haveI : ExtI _ H6 := ⟨hx7⟩
 haveI := hq7.one
 simp only [hsg]
 repeat first
  | refine oy ?_
  | refine mI ?_
  | refine mB ?_
  | refine mT ?_
  | (refine Fo.ldN rfl rfl (by simp only [↓nrmL, nrmZ, Nat.reduceEqDiff, ↓reduceIte, Nat.reduceAdd, Int.reduceBEq, Int.reduceBNe, hsg]; rfl) ?_)
  | (refine bn rfl rfl rfl (by simp only [↓nrmL, nrmZ, Nat.reduceEqDiff, ↓reduceIte, Nat.reduceAdd, Int.reduceBEq, Int.reduceBNe, hsg]; rfl) ?_)
  | refine tB ?_
  | refine xt ?_
  | (refine Fo.pcall (v' := ?_) hn rfl (by simp only [hsg, List.map]; rfl) rfl ?hv fun _ _ => ?_; case hv => rfl)
  | (refine Fo.pcall (v' := ?_) hn rfl (by simp only [↓nrmL, nrmZ, Nat.reduceEqDiff, ↓reduceIte, Nat.reduceAdd, Int.reduceBEq, Int.reduceBNe, hsg, List.map]; rfl) rfl ?hv fun _ _ => ?_; case hv => (simp only [hsg]; rfl))
  | refine nw ?_
  | (refine so rfl (rfl : _ = AVal.agg _) rfl rfl rfl (by simp only [↓nrmL, nrmZ, Nat.reduceEqDiff, ↓reduceIte, Nat.reduceAdd, Int.reduceBEq, Int.reduceBNe, hsg]; rfl) ?_)
  | refine nl hKF ?_
  | refine sq ?_
  | refine rg fun KF hKF => ?_
  | refine rt ?_
  | dsimp only [cond_true, cond_false]
 refine rz trivial ?_
 exact ⟨rfl, Ext0.ext⟩
end Go.Am
namespace Go.Proofs.YtdbgdhjcpmacoaaDoor.CleanFound
open Go.ChangeShapes Go.WideShapes Go.ChangeAt Go.RowKit Go.Am Go.Proofs.YtdbgdhjcpmacoaaDoor.Laid

theorem con (H : AHeap) (avs : List AVal) (ht : tablesIn aroundT H = true) (h : ArgS Tryd.prog H 3 [5, 22, 41, 5, 22] avs) : Con ext prog 18 4 avs H fun v H' => v = .bool true ∧ Ext H H' := by
  obtain ⟨a0, r0, rfl, h0, a1, r1, rfl, h1, a2, r2, rfl, h2, a3, r3, rfl, h3, a4, r4, rfl, h4, rfl⟩ := h
  obtain ⟨i0, rfl, wf0⟩ := shape_int Tryd.underlying5 h0
  obtain ⟨s0, rfl⟩ := u8_of wf0
  obtain ⟨p1, l1, rfl, k1, _⟩ := shape_bytes Tryd.underlying22 Tryd.underlying5 (by kernel_rfl) h1
  haveI o1 := k1.one
  obtain ⟨q2, l2, rfl, k2, m2, n2⟩ := shape_u16s Tryd.underlying41 Tryd.underlying73 (by kernel_rfl) h2
  haveI o2 := k2.one
  obtain ⟨i3, rfl, wf3⟩ := shape_int Tryd.underlying5 h3
  obtain ⟨s3, rfl⟩ := u8_of wf3
  obtain ⟨p4, l4, rfl, k4, _⟩ := shape_bytes Tryd.underlying22 Tryd.underlying5 (by kernel_rfl) h4
  haveI o4 := k4.one
  have e0 : argV Tryd.prog 5 [.int .u8 (s0.toNat : Int)] = .int .u8 (s0.toNat : Int) := by simp only [argV, show aggTy Tryd.prog 5 = false by kernel_rfl, cond_false, List.headD_cons]
  have e1 : argV Tryd.prog 22 [p1] = p1 := by simp only [argV, show aggTy Tryd.prog 22 = false by kernel_rfl, cond_false, List.headD_cons]
  have e2 : argV Tryd.prog 41 [q2] = q2 := by simp only [argV, show aggTy Tryd.prog 41 = false by kernel_rfl, cond_false, List.headD_cons]
  have e3 : argV Tryd.prog 5 [.int .u8 (s3.toNat : Int)] = .int .u8 (s3.toNat : Int) := by simp only [argV, show aggTy Tryd.prog 5 = false by kernel_rfl, cond_false, List.headD_cons]
  have e4 : argV Tryd.prog 22 [p4] = p4 := by simp only [argV, show aggTy Tryd.prog 22 = false by kernel_rfl, cond_false, List.headD_cons]
  haveI : Tabs H := ⟨ht⟩
  rw [e0, e1, e2, e3, e4]
  exact K_CleanFound m2

theorem contract (H : Type) (enc : TypeId × Value → H) (W : World) (base : Nat) (args : Array Value) (ds gs : List (DataW H)) (before : List MemPlace)
    (hval : ∀ (j : Nat) t v, Tryd.f4.params[j]? = some t → args[j]? = some v → Value.okWide Tryd.prog W .any base t v)
    (hW : DataW.Whole enc Tryd.prog Tryd.f4.params.toList Rows.cleanFoundSpec.vars false W args.toList ds gs before) (hL : laidMetH Tryd.prog Rows.cleanFoundRow.laid W) :
    Calls Tryd.prog 4 args W fun e W' => ∃ v, e = .returned v ∧ Rows.cleanFoundSpec.post enc Tryd.prog Tryd.f4 false true false false W args v W' := by
  have hW' := hW
  obtain ⟨p, q, hA, _⟩ := hW'
  rw [Tryd.params4] at hA
  obtain ⟨v0, vs0, d0, ds0, p0, q0, _, rfl, _, _, r0⟩ := trodAll_cons hA
  obtain ⟨v1, vs1, d1, ds1, p1, q1, _, rfl, _, _, r1⟩ := trodAll_cons r0
  obtain ⟨v2, vs2, d2, ds2, p2, q2, _, rfl, _, _, r2⟩ := trodAll_cons r1
  obtain ⟨v3, vs3, d3, ds3, p3, q3, _, rfl, _, _, r3⟩ := trodAll_cons r2
  obtain ⟨v4, vs4, d4, ds4, p4, q4, _, rfl, _, _, r4⟩ := trodAll_cons r3
  obtain ⟨_, rfl, _⟩ := trodAll_nil r4
  exact law_calls (tb := 4) (n := 3) (d := 18) (tabs := aroundT) mixed progOk Tryd.func4 rfl (by decide +kernel) laidOut rowed full (by kernel_rfl) rfl (by kernel_rfl) Tryd.underlying4 (by kernel_rfl) (by kernel_rfl)
    (fun H avs ht h => con H avs ht (by rw [Tryd.params4] at h; exact h)) H enc W base args _ gs before rfl hval hW (around_cells hL)

theorem laid_met (os : Os) : laidMet Tryd.prog Rows.cleanFoundRow.laid ((laidWorld os).forCall (fun _ _ => 0) ⟨#[], #[.int .u8 0, .slice none 0 0, .slice none 0 0, .int .u8 0, .slice none 0 0], []⟩).memory :=
  laidMet_of_run' 8 (by kernel_rfl) (by kernel_rfl)
theorem reads (os : Os) {H : Type} (enc : TypeId × Value → H) : ∃ places, DataW.whole enc Tryd.prog ((laidWorld os).forCall (fun _ _ => 0) ⟨#[], #[.int .u8 0, .slice none 0 0, .slice none 0 0, .int .u8 0, .slice none 0 0], []⟩).memory Tryd.f4.params.toList Rows.cleanFoundSpec.vars false #[Value.int .u8 0, .slice none 0 0, .slice none 0 0, .int .u8 0, .slice none 0 0].toList 8 = some ([.lit (.int .u8 0), .nil, .nil, .lit (.int .u8 0), .nil], [], places) :=
  ⟨[], by kernel_rfl⟩

theorem lifted (os : Os) (started : os.Started) (H : Type) (enc : TypeId × Value → H) (F : Stop.Interp) :
    ReturnsInHanded {} Tryd.checked os 4 .any ((OpenSpec.ofChange Rows.cleanFoundSpec).preRow enc Tryd.prog Tryd.f4 Rows.cleanFoundRow.domain false Rows.cleanFoundRow.laid) (((OpenSpec.ofChange Rows.cleanFoundSpec).at F).post enc Tryd.prog Tryd.f4 false true false false) := by
  obtain ⟨places, hx⟩ := reads os enc
  refine returnsInHanded_of_row (C := Tryd.checked) (s := OpenSpec.ofChange Rows.cleanFoundSpec) own started (by kernel_rfl) Tryd.func4
    (witness_row_at (enc := enc) (C := Tryd.checked) false (laidWorld os) #[.int .u8 0, .slice none 0 0, .slice none 0 0, .int .u8 0, .slice none 0 0] rfl (by kernel_rfl) (by kernel_rfl) (by kernel_rfl)
      (OpenSpec.preRow_of_cond 8 hx (by kernel_rfl) (fun k hk => by cases hk) (by kernel_rfl) (laid_met os))) ?_
  intro W base args ds gs before hval hW _ _ _ hL _ _
  exact contract H enc W base args ds gs before hval hW hL

theorem said : Rows.CleanFoundSaid :=
  OpenClaim.holds_of_cond 4 Tryd.f4 rfl rfl rfl rfl rfl rfl rfl ⟨rfl, rfl, rfl, rfl, rfl⟩ rfl rfl rfl rfl rfl (by kernel_rfl) Tryd.func4 (by kernel_rfl)
    (of_decide_eq_true (by kernel_rfl)) (by unfold Func.isWrapper; first | (rw [if_pos (by decide +kernel)]; kernel_rfl) | (rw [if_neg (by decide +kernel)]; exact ⟨rfl, rfl⟩))
    (fun os started H enc _ F => by rw [OpenClaim.pre_eq_preRow]; exact lifted os started H enc F)
theorem plain (f : FuncId) (fn : Func) (hf : Tryd.pinned.checked.prog.funcNamed "custos/custoslaw02.CleanFound" = some f) (hfn : Tryd.pinned.checked.prog.funcs[f]? = some fn) :
    false = Tryd.pinned.checked.prog.looks [] ∧ ∀ (j : Nat) t, fn.params[j]? = some t → Tryd.pinned.checked.prog.wantsStandIn t = false := by
  obtain rfl : f = 4 := Option.some.inj ((show Tryd.prog.funcNamed "custos/custoslaw02.CleanFound" = some 4 by kernel_rfl).symm.trans hf) |>.symm
  obtain rfl : fn = Tryd.f4 := (Option.some.inj (Tryd.func4.symm.trans hfn)).symm
  refine ⟨by kernel_rfl, fun j t ht => ?_⟩
  have h := List.all_eq_true.1 (show (Tryd.f4.params.toList.all fun t => !(Tryd.prog.wantsStandIn t)) = true by kernel_rfl) t (by simpa using Array.mem_of_getElem? ht)
  have h2 : Tryd.prog.wantsStandIn t = false := by simpa using h
  exact h2

/-- The card. -/
theorem card : Rows.CleanFoundCardSaid :=
  Claim7.holds_tied_plain_at .later [] _ _ _ _ said (fun _ h => by cases h) (by kernel_rfl) (fun _ h => by cases h) cleanFound_row_tie rfl ⟨rfl, rfl⟩ (by kernel_rfl) rfl plain (by kernel_rfl)
end Go.Proofs.YtdbgdhjcpmacoaaDoor.CleanFound
