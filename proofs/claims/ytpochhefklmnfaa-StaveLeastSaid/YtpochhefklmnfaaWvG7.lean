/-
  StaveLeast returns true for all sides, bits, numbers and steps, and leaves them as they were. No condition.
-/
import Derived.Test.YtpochhefklmnfaaAmBE
set_option linter.unusedSimpArgs false
set_option linter.unusedVariables false
set_option maxHeartbeats 32000000
set_option maxRecDepth 100000
set_option synthInstance.maxHeartbeats 4000000
set_option synthInstance.maxSize 1000000000
namespace Go.Am
open Go
def leastP (P : List Int) (w h : Nat) : Int := mnL (colL (restL P w h) h 0) (h - 1)
theorem least_le {P : List Int} {w h y : Nat} (hw : 0 < w) (hy : y < h) : leastP P w h ≤ restF (priF P h) w h (w - 1) y := by
  unfold leastP
  have := mn_le (l := colL (restL P w h) h 0) (k := h - 1) (i := y) (by omega)
  rw [colL_at (rest_len P w h) hw hy, rest_at hw hy, Nat.sub_zero] at this
  exact this
theorem least_in {P : List Int} {w h : Nat} (hw : 0 < w) (hh : 0 < h) : ∃ y, y < h ∧ restF (priF P h) w h (w - 1) y = leastP P w h := by
  obtain ⟨y, h1, h2⟩ := mn_in (l := colL (restL P w h) h 0) (h - 1)
  refine ⟨y, by omega, ?_⟩
  unfold leastP
  rw [h2, colL_at (rest_len P w h) hw (by omega), rest_at hw (by omega), Nat.sub_zero]
inductive TrR (l : List UInt8) (w h : Nat) : List (Nat → Nat) → List Int → Prop
  | nil : TrR l w h [] (surL l w h)
  | snoc {qs : List (Nat → Nat)} {P : List Int} {y0 : Nat} : TrR l w h qs P → qs.length < 60 → 8 * leastP P w h ≤ (w : Int) → y0 < h → restF (priF P h) w h (w - 1) y0 = leastP P w h → (∀ j, j < y0 → restF (priF P h) w h (w - 1) j ≠ leastP P w h) → TrR l w h (qs ++ [folF (priF P h) w h y0]) (forA P (folF (priF P h) w h y0) w h)
def near (q : Nat → Nat) (x y : Nat) : Prop := q x ≤ y + 2 ∧ y ≤ q x + 2
structure TrI (l : List UInt8) (w h : Nat) (qs : List (Nat → Nat)) (P : List Int) : Prop where
  pos : PosL P
  len : P.length = w * h
  many : qs.length ≤ 60
  path : ∀ i (hi : i < qs.length), PathF w h qs[i]
  forb : ∀ x y, x < w → y < h → (∃ i, ∃ (hi : i < qs.length), near qs[i] x y) → priF P h x y = 1920
  free : ∀ x y, x < w → y < h → (∀ i (hi : i < qs.length), ¬ near qs[i] x y) → priF P h x y = prB l (y * w + x)
  apart : ∀ i j (hi : i < qs.length) (hj : j < qs.length) x, x < w → i < j → ¬ near qs[i] x (qs[j] x)
  cheap : ∀ i (hi : i < qs.length), ∃ m : Int, 8 * m ≤ (w : Int) ∧ costF (fun x y => prB l (y * w + x)) w qs[i] (w - 1) = m
theorem cost_congr {P P' : Nat → Nat → Int} {w : Nat} {q : Nat → Nat} (h : ∀ x, x < w → P x (q x) = P' x (q x)) : ∀ d, d < w → costF P w q d = costF P' w q d
  | 0, hd => by simp only [costF]; exact h _ (by omega)
  | d + 1, hd => by
    simp only [costF]
    rw [h _ (by omega), cost_congr h d (by omega)]
theorem chg_pos (a b : Nat) : 0 ≤ chg a b := by unfold chg; split <;> omega
theorem cost_pos {P : Nat → Nat → Int} {w : Nat} {q : Nat → Nat} (hP : ∀ x y, 0 ≤ P x y) : ∀ d, 0 ≤ costF P w q d
  | 0 => hP _ _
  | d + 1 => by
    have h1 := hP (w - 1 - (d + 1)) (q (w - 1 - (d + 1)))
    have h2 := cost_pos (w := w) (q := q) hP d
    have h3 := chg_pos (q (w - 1 - (d + 1))) (q (w - 1 - d))
    simp only [costF]; omega
theorem cost_ge {P : Nat → Nat → Int} {w : Nat} {q : Nat → Nat} (hP : ∀ x y, 0 ≤ P x y) : ∀ d, d < w → ∀ e, e ≤ d → P (w - 1 - e) (q (w - 1 - e)) ≤ costF P w q d
  | 0, _, e, he => by
    obtain rfl : e = 0 := by omega
    exact Int.le_refl _
  | d + 1, hd, e, he => by
    have h1 := hP (w - 1 - (d + 1)) (q (w - 1 - (d + 1)))
    have h2 := cost_pos (w := w) (q := q) hP d
    have h3 := chg_pos (q (w - 1 - (d + 1))) (q (w - 1 - d))
    by_cases e1 : e = d + 1
    · subst e1; simp only [costF]; omega
    · have := cost_ge (w := w) (q := q) hP d (by omega) e (by omega)
      simp only [costF]; omega
theorem tr_inv {l : List UInt8} {w h : Nat} {qs : List (Nat → Nat)} {P : List Int} (hw : 0 < w) (hw640 : w ≤ 640) (hh : 0 < h) (hT : TrR l w h qs P) : TrI l w h qs P := by
  induction hT with
  | nil =>
    exact ⟨surL_pos l w h, surL_len l w h, by simp, fun i hi => (by cases hi), fun x y _ _ ⟨i, hi, _⟩ => (by cases hi), fun x y hx hy _ => surL_at hx hy, fun i j hi => (by cases hi), fun i hi => (by cases hi)⟩
  | @snoc qs P y0 _ hl hm hy hr hf ih =>
    have hP := ih.pos.pos h
    have hlt : restF (priF P h) w h (w - 1) y0 < 1920 := by rw [hr]; omega
    have hpath := fol_path hP hh hy hlt
    have hcost := fol_cost hP hh hy hlt (w - 1) (by omega)
    rw [Nat.sub_self] at hcost
    have hc0 : folF (priF P h) w h y0 0 = y0 := rfl
    rw [hc0, hr] at hcost
    obtain ⟨q, hq⟩ : ∃ q, folF (priF P h) w h y0 = q := ⟨_, rfl⟩
    rw [hq] at hpath hcost ⊢
    have hnn : ∀ x y, 0 ≤ priF P h x y := fun x y => (hP.it x y).1
    -- the path avoids what is forbidden
    have hfree : ∀ x, x < w → ∀ i (hi : i < qs.length), ¬ near qs[i] x (q x) := fun x hx i hi hne => by
      have h1 := ih.forb x (q x) hx (hpath.row x hx) ⟨i, hi, hne⟩
      have h2 := cost_ge (w := w) (q := q) hnn (w - 1) (by omega) (w - 1 - x) (by omega)
      rw [show w - 1 - (w - 1 - x) = x by omega, h1, hcost] at h2
      omega
    have hget : ∀ i (hi : i < (qs ++ [q]).length) (h1 : i < qs.length), (qs ++ [q])[i] = qs[i]'h1 := fun i hi h1 => List.getElem_append_left h1
    have hlast : ∀ i (hi : i < (qs ++ [q]).length), ¬ i < qs.length → (qs ++ [q])[i] = q ∧ i = qs.length := fun i hi h1 => by
      have : i = qs.length := by simp at hi; omega
      subst this
      exact ⟨by simp, rfl⟩
    refine ⟨forA_pos ih.pos, forA_len _ _ _ _, by simp; omega, fun i hi => ?_, fun x y hx hy ⟨i, hi, hne⟩ => ?_, fun x y hx hy hall => ?_, fun i j hi hj x hx hij => ?_, fun i hi => ?_⟩
    · by_cases h1 : i < qs.length
      · rw [hget i hi h1]; exact ih.path i h1
      · rw [(hlast i hi h1).1]; exact hpath
    · rw [forA_at hx hy]
      by_cases h1 : i < qs.length
      · rw [hget i hi h1] at hne
        by_cases hc : q x ≤ y + 2 ∧ y ≤ q x + 2
        · rw [if_pos hc]
        · rw [if_neg hc]; exact ih.forb x y hx hy ⟨i, h1, hne⟩
      · rw [(hlast i hi h1).1] at hne
        exact if_pos hne
    · have h1 := hall qs.length (by simp)
      rw [(hlast qs.length (by simp) (by omega)).1] at h1
      rw [forA_at hx hy, if_neg (show ¬ (q x ≤ y + 2 ∧ y ≤ q x + 2) from h1)]
      refine ih.free x y hx hy fun i hi => ?_
      have h2 := hall i (by simp; omega)
      rwa [hget i (by simp; omega) hi] at h2
    · by_cases h1 : j < qs.length
      · rw [hget j hj h1, hget i hi (by omega)]
        exact ih.apart i j (by omega) h1 x hx hij
      · have h2 := hlast j hj h1
        rw [h2.1, hget i hi (by omega)]
        exact hfree x hx i (by omega)
    · by_cases h1 : i < qs.length
      · rw [hget i hi h1]; exact ih.cheap i h1
      · rw [(hlast i hi h1).1]
        refine ⟨leastP P w h, hm, ?_⟩
        rw [← hcost]
        exact cost_congr (fun x hx => (ih.free x (q x) hx (hpath.row x hx) (hfree x hx)).symm) (w - 1) (by omega)
theorem pigeon : ∀ (n k : Nat) (f : Nat → Nat), (∀ i, i < k → f i < n) → (∀ i j, i < j → j < k → f i ≠ f j) → k ≤ n
  | 0, k, f, h1, h2 => by
    rcases Nat.eq_zero_or_pos k with e | e
    · omega
    · have := h1 0 e; omega
  | n + 1, k, f, h1, h2 => by
    by_cases hk : k = 0
    · omega
    by_cases hc : ∃ i, i < k ∧ f i = n
    · obtain ⟨i, hi, hfi⟩ := hc
      have := pigeon n (k - 1) (fun j => if j = i then f (k - 1) else f j) (fun j hj => by
        by_cases e : j = i
        · rw [if_pos e]
          have a1 := h1 (k - 1) (by omega)
          have a2 := h2 i (k - 1) (by omega) (by omega)
          omega
        · rw [if_neg e]
          have a1 := h1 j (by omega)
          by_cases e2 : j < i
          · have := h2 j i e2 hi; omega
          · have := h2 i j (by omega) (by omega); omega) (fun a b hab hb => by
        by_cases e1 : a = i
        · rw [if_pos e1, if_neg (by omega)]
          exact (h2 b (k - 1) (by omega) (by omega)).symm
        · rw [if_neg e1]
          by_cases e2 : b = i
          · rw [if_pos e2]
            exact h2 a (k - 1) (by omega) (by omega)
          · rw [if_neg e2]
            exact h2 a b hab (by omega))
      omega
    · have := pigeon n k f (fun i hi => by
        have a1 := h1 i hi
        have a2 : f i ≠ n := fun e => hc ⟨i, hi, e⟩
        omega) h2
      omega
theorem TrI.few {l : List UInt8} {w h : Nat} {qs : List (Nat → Nat)} {P : List Int} (h1 : TrI l w h qs P) (hw : 0 < w) : qs.length ≤ (h + 2) / 3 := by
  refine pigeon ((h + 2) / 3) qs.length (fun i => if hi : i < qs.length then qs[i] 0 / 3 else 0) (fun i hi => ?_) (fun i j hij hj => ?_)
  · rw [dif_pos hi]
    have := (h1.path i hi).row 0 hw
    omega
  · rw [dif_pos hj, dif_pos (by omega : i < qs.length)]
    have := h1.apart i j (by omega) hj 0 hw hij
    unfold near at this
    omega
end Go.Am

namespace Go.Am
open Go
section
variable {call : ACall} {n ref : Nat} {its : List DItem} {H0 H : AHeap} {E : List (Nat × AHeap)} {Rd : List (Nat × (AHeap → Bool))} {fr : AFrame} {K : AFrame → AHeap → Prop} {b : Nat} {pre : Bool} {g : Option (Nat × Bool)}
theorem WpE.stC {d : Option Nat} {a x : ROpd} {p v : AVal} {j m : Nat} {cs : List AVal} (hw : ROper.wanted fr ⟨d, .store 1 a x, g⟩ = true) (ha : a.ev fr = .ptr (rowOf p) (offOf p + j)) (hx : x.ev fr = v) [ho : OneV v] [s : SliceAt H p 1 m cs] [w : WrS H p] (hj : j < cs.length)
    (h : ∀ H1, SliceAt H1 p 1 m (cs.set j v) → WrS H1 p → ExtP H H1 p → AllR b H1 Rd ∧ WpE call (n + 1) ref its H0 ((n, H) :: E) Rd (put fr d aundef) H1 K) : WpE call n ref (⟨⟨d, .store 1 a x, g⟩, b, 2, pre⟩ :: its) H0 E Rd fr H K := by
  obtain ⟨u, H1, h1, rfl, h2, h3, h4⟩ := WpX.stP (call := call) (K := fun u H1 => u = aundef ∧ SliceAt H1 p 1 m (cs.set j v) ∧ WrS H1 p ∧ ExtP H H1 p) ha hx ho.cells ho.one hj fun H1 q1 q2 q3 => ⟨rfl, q1, q2, q3⟩
  obtain ⟨h5, h6⟩ := h H1 h2 h3 h4
  exact WpE.effect hw h1 h5 h6
end
def cAt (cs : List AVal) (i : Nat) : AVal := cs.getD i aundef
theorem cAt_some {cs : List AVal} {i : Nat} (h : i < cs.length) : cs[i]? = some (cAt cs i) := by
  unfold cAt
  rw [List.getD_eq_getElem?_getD, List.getElem?_eq_getElem h]; rfl
def swp (cs : List AVal) (i j : Nat) : List AVal := (cs.set i (cAt cs j)).set j (cAt cs i)
theorem swp_len {cs : List AVal} {i j : Nat} : (swp cs i j).length = cs.length := by simp [swp]
theorem cAt_set {cs : List AVal} {i t : Nat} {v : AVal} (h : i < cs.length) : cAt (cs.set i v) t = if t = i then v else cAt cs t := by
  unfold cAt
  rw [List.getD_eq_getElem?_getD, List.getD_eq_getElem?_getD, List.getElem?_set]
  by_cases e : i = t
  · subst e; rw [if_pos rfl, if_pos h, if_pos rfl]; rfl
  · rw [if_neg e, if_neg (fun q => e q.symm)]
theorem cAt_swp {cs : List AVal} {i j t : Nat} (hi : i < cs.length) (hj : j < cs.length) : cAt (swp cs i j) t = if t = j then cAt cs i else if t = i then cAt cs j else cAt cs t := by
  unfold swp
  rw [cAt_set (by rw [List.length_set]; exact hj), cAt_set hi]
def exc (i j t : Nat) : Nat := if t = j then i else if t = i then j else t
theorem exc_exc (i j t : Nat) : exc i j (exc i j t) = t := by
  unfold exc
  by_cases h1 : t = j
  · subst h1
    rw [if_pos rfl]
    by_cases h2 : i = t
    · rw [if_pos h2]; exact h2
    · rw [if_neg h2, if_pos rfl]
  · rw [if_neg h1]
    by_cases h2 : t = i
    · rw [if_pos h2, if_pos rfl]; exact h2.symm
    · rw [if_neg h2, if_neg h1, if_neg h2]
theorem cAt_exc {cs : List AVal} {i j t : Nat} (hi : i < cs.length) (hj : j < cs.length) : cAt (swp cs i j) t = cAt cs (exc i j t) := by
  rw [cAt_swp hi hj]
  unfold exc
  split
  · rfl
  · split <;> rfl
structure Pm (a b : Nat) (cs cs' : List AVal) : Prop where
  len : cs'.length = cs.length
  it : ∃ f g : Nat → Nat, (∀ t, cAt cs' t = cAt cs (f t)) ∧ (∀ t, f (g t) = t) ∧ (∀ t, g (f t) = t) ∧ (∀ t, (t < a ∨ b ≤ t) → f t = t) ∧ (∀ t, a ≤ t → t < b → a ≤ f t ∧ f t < b)
theorem Pm.refl (a b : Nat) (cs : List AVal) : Pm a b cs cs := ⟨rfl, id, id, fun _ => rfl, fun _ => rfl, fun _ => rfl, fun _ _ => rfl, fun _ h1 h2 => ⟨h1, h2⟩⟩
theorem Pm.trans {a b : Nat} {cs cs' cs'' : List AVal} (h : Pm a b cs cs') (k : Pm a b cs' cs'') : Pm a b cs cs'' := by
  obtain ⟨f, g, h1, h2, h3, h4, h5⟩ := h.it
  obtain ⟨f', g', k1, k2, k3, k4, k5⟩ := k.it
  refine ⟨k.len.trans h.len, fun t => f (f' t), fun t => g' (g t), fun t => by rw [k1, h1], fun t => by dsimp only; rw [k2, h2], fun t => by dsimp only; rw [h3, k3], fun t ht => by dsimp only; rw [k4 t ht, h4 t ht], fun t ha hb => ?_⟩
  have := k5 t ha hb
  exact h5 _ this.1 this.2
theorem Pm.swp {a b i j : Nat} {cs : List AVal} (hi : a ≤ i ∧ i < b) (hj : a ≤ j ∧ j < b) (hb : b ≤ cs.length) : Pm a b cs (swp cs i j) := by
  refine ⟨swp_len, exc i j, exc i j, fun t => cAt_exc (by omega) (by omega), exc_exc i j, exc_exc i j, fun t ht => ?_, fun t h1 h2 => ?_⟩
  · unfold exc; rw [if_neg (by omega), if_neg (by omega)]
  · unfold exc; split
    · omega
    · split <;> omega
theorem Pm.weak {a b a' b' : Nat} {cs cs' : List AVal} (h : Pm a b cs cs') (ha : a' ≤ a) (hb : b ≤ b') : Pm a' b' cs cs' := by
  obtain ⟨f, g, h1, h2, h3, h4, h5⟩ := h.it
  refine ⟨h.len, f, g, h1, h2, h3, fun t ht => h4 t (by omega), fun t h6 h7 => ?_⟩
  by_cases h8 : a ≤ t ∧ t < b
  · have := h5 t h8.1 h8.2; omega
  · rw [h4 t (by omega)]; exact ⟨h6, h7⟩
theorem Pm.off {a b t : Nat} {cs cs' : List AVal} (h : Pm a b cs cs') (ht : t < a ∨ b ≤ t) : cAt cs' t = cAt cs t := by
  obtain ⟨f, g, h1, h2, h3, h4, h5⟩ := h.it
  rw [h1, h4 t ht]
theorem Pm.too {a b t : Nat} {cs cs' : List AVal} (h : Pm a b cs cs') (h1 : a ≤ t) (h2 : t < b) : ∃ s, a ≤ s ∧ s < b ∧ cAt cs' s = cAt cs t := by
  obtain ⟨f, g, k1, k2, k3, k4, k5⟩ := h.it
  refine ⟨g t, ?_, ?_, by rw [k1, k2]⟩
  · by_cases hc : a ≤ g t
    · exact hc
    · have := k4 (g t) (by omega); rw [k2] at this; omega
  · by_cases hc : g t < b
    · exact hc
    · have := k4 (g t) (by omega); rw [k2] at this; omega
def cmpI (a b : Int) : Int := if a < b then -1 else if a > b then 1 else 0
theorem cmpI_neg (a b : Int) : decide (cmpI a b < 0) = decide (a < b) := by
  unfold cmpI
  by_cases h : a < b
  · rw [if_pos h, decide_eq_true h]; rfl
  · rw [if_neg h, decide_eq_false h]; split <;> rfl
def Srd (K : AVal → Int) (cs : List AVal) (a b : Nat) : Prop := ∀ i j, a ≤ i → i < j → j < b → K (cAt cs i) ≤ K (cAt cs j)
structure SrtU (ext : Exts) (prog : FuncId → Option RFunc) (H0 : AHeap) (p : AVal) (F : FuncId) (U : AVal → Prop) (K : AVal → Int) : Prop where
  cmp : ∀ H', ExtP H0 H' p → ∀ x y, U x → U y → PureCon ext prog F [x, y] H' 8 (.int .i64 (cmpI (K x) (K y)))
  one : ∀ x, U x → OneV x
structure SrtS (H0 : AHeap) (p : AVal) (n : Nat) (U : AVal → Prop) (cs : List AVal) (H : AHeap) : Prop where
  sl : SliceAt H p 1 n cs
  wr : WrS H p
  ex : ExtP H0 H p
  mem : ∀ j, j < n → U (cAt cs j)
theorem SrtS.len {H0 H : AHeap} {p : AVal} {n : Nat} {U : AVal → Prop} {cs : List AVal} (h : SrtS H0 p n U cs H) : cs.length = n := by have := h.sl.len; omega
theorem SrtS.ext {H0 H H' : AHeap} {p : AVal} {n : Nat} {U : AVal → Prop} {cs : List AVal} (h : SrtS H0 p n U cs H) (x : Ext H H') : SrtS H0 p n U cs H' := by
  haveI := h.sl
  haveI := h.wr
  haveI : ExtI H H' := ⟨x⟩
  exact ⟨inferInstance, inferInstance, h.ex.ext x, h.mem⟩
theorem SrtS.swp {H0 H H' : AHeap} {p : AVal} {n i j : Nat} {U : AVal → Prop} {cs : List AVal} (h : SrtS H0 p n U cs H) (hi : i < n) (hj : j < n) (hs : SliceAt H' p 1 n (swp cs i j)) (hw : WrS H' p) (hx : ExtP H H' p) : SrtS H0 p n U (swp cs i j) H' := by
  have hl := h.len
  refine ⟨hs, hw, h.ex.trans hx, fun t ht => ?_⟩
  rw [cAt_exc (by omega) (by omega)]
  apply h.mem
  unfold exc
  split
  · exact hi
  · split
    · exact hj
    · exact ht
structure InsS (K : AVal → Int) (cs : List AVal) (a i j : Nat) : Prop where
  rest : ∀ s t, a ≤ s → s < t → t ≤ i → s ≠ j → t ≠ j → K (cAt cs s) ≤ K (cAt cs t)
  top : ∀ t, j < t → t ≤ i → K (cAt cs j) ≤ K (cAt cs t)
theorem InsS.start {K : AVal → Int} {cs : List AVal} {a i : Nat} (h : Srd K cs a i) : InsS K cs a i i := ⟨fun s t h1 h2 h3 h4 h5 => h s t h1 h2 (by omega), fun t h1 h2 => by omega⟩
theorem InsS.done {K : AVal → Int} {cs : List AVal} {a i j : Nat} (h : InsS K cs a i j) (hj : a ≤ j) (he : j = a ∨ ¬ K (cAt cs j) < K (cAt cs (j - 1))) : Srd K cs a (i + 1) := by
  intro s t h1 h2 h3
  by_cases e1 : s = j
  · subst e1; exact h.top t h2 (by omega)
  · by_cases e2 : t = j
    · subst e2
      rcases he with he | he
      · omega
      · by_cases e3 : s = t - 1
        · subst e3; omega
        · have := h.rest s (t - 1) h1 (by omega) (by omega) e1 (by omega); omega
    · exact h.rest s t h1 h2 (by omega) e1 e2
theorem InsS.step {K : AVal → Int} {cs : List AVal} {a i j : Nat} (h : InsS K cs a i j) (hj : a < j) (hi : j ≤ i) (hl : i < cs.length) (hlt : K (cAt cs j) < K (cAt cs (j - 1))) : InsS K (swp cs j (j - 1)) a i (j - 1) := by
  have e : ∀ t, cAt (swp cs j (j - 1)) t = if t = j - 1 then cAt cs j else if t = j then cAt cs (j - 1) else cAt cs t := fun t => cAt_swp (by omega) (by omega)
  refine ⟨fun s t h1 h2 h3 h4 h5 => ?_, fun t h1 h2 => ?_⟩
  · rw [e, e, if_neg h4, if_neg h5]
    by_cases e1 : s = j
    · subst e1
      rw [if_pos rfl, if_neg (by omega)]
      exact h.rest (s - 1) t (by omega) (by omega) h3 (by omega) (by omega)
    · rw [if_neg e1]
      by_cases e2 : t = j
      · subst e2
        rw [if_pos rfl]
        exact h.rest s (t - 1) h1 (by omega) (by omega) e1 (by omega)
      · rw [if_neg e2]
        exact h.rest s t h1 h2 h3 e1 e2
  · rw [e, e, if_pos rfl, if_neg (by omega)]
    by_cases e2 : t = j
    · subst e2; rw [if_pos rfl]; omega
    · rw [if_neg e2]
      exact h.top t (by omega) h2
end Go.Am

namespace Go.Am
open Go
attribute [local irreducible] Wp WpO WpX WpE
theorem K_nan {a : Int} {H : AHeap} : Con ext prog 1 99 [.int .i64 a] H fun v H' => v = .bool false ∧ Ext H H' := by
 refine con_of (show prog 99 = some c99 from rfl) rfl rfl fun n hn => ?_
 have h1 : (a != a) = false := by simp
 repeat first
  | refine mI ?_
  | refine mB ?_
  | (refine bn rfl rfl rfl (by simp only [↓nrmL, nrmZ, Nat.reduceEqDiff, ↓reduceIte, Nat.reduceAdd, Int.reduceBEq, Int.reduceBNe, h1]; rfl) ?_)
  | refine nl hKF ?_
  | refine sq ?_
  | refine rg fun KF hKF => ?_
  | refine rt ?_
  | dsimp only [cond_true, cond_false]
 refine rz trivial ?_
 exact ⟨rfl, Ext0.ext⟩
theorem K_Compare {a b : Int} {H : AHeap} : Con ext prog 2 62 [.int .i64 a, .int .i64 b] H fun v H' => v = .int .i64 (cmpI a b) ∧ Ext H H' := by
 refine con_of (show prog 62 = some c62 from rfl) rfl rfl fun n hn => ?_
 haveI n1 : ∀ H, PureCon ext prog 99 [.int .i64 a] H 1 (.bool false) := fun H => ⟨K_nan⟩
 haveI n2 : ∀ H, PureCon ext prog 99 [.int .i64 b] H 1 (.bool false) := fun H => ⟨K_nan⟩
 unfold cmpI
 by_cases h1 : a < b
 ·have d1 : decide (a < b) = true := decide_eq_true h1
  rw [if_pos h1]
  repeat first
   | refine mI ?_
   | refine mB ?_
   | (refine bn rfl rfl rfl (by simp only [↓nrmL, nrmZ, Nat.reduceEqDiff, ↓reduceIte, Nat.reduceAdd, Int.reduceBEq, Int.reduceBNe, d1]; rfl) ?_)
   | (refine Fo.pcall (v' := ?_) hn rfl (by simp only [↓nrmL, nrmZ, Nat.reduceEqDiff, ↓reduceIte, Nat.reduceAdd, Int.reduceBEq, Int.reduceBNe, d1, List.map]; rfl) rfl ?hv fun _ _ => ?_; case hv => rfl)
   | refine nl hKF ?_
   | refine sq ?_
   | refine rg fun KF hKF => ?_
   | refine ct rfl ?_
   | refine cf rfl ?_
   | refine sk ?_
   | refine rt ?_
   | dsimp only [cond_true, cond_false]
  refine rz trivial ?_
  exact ⟨rfl, Ext0.ext⟩
 ·have d1 : decide (a < b) = false := decide_eq_false h1
  rw [if_neg h1]
  by_cases h2 : a > b
  ·have d2 : decide (a > b) = true := decide_eq_true h2
   rw [if_pos h2]
   repeat first
    | refine mI ?_
    | refine mB ?_
    | (refine bn rfl rfl rfl (by simp only [↓nrmL, nrmZ, Nat.reduceEqDiff, ↓reduceIte, Nat.reduceAdd, Int.reduceBEq, Int.reduceBNe, d1, d2]; rfl) ?_)
    | (refine Fo.pcall (v' := ?_) hn rfl (by simp only [↓nrmL, nrmZ, Nat.reduceEqDiff, ↓reduceIte, Nat.reduceAdd, Int.reduceBEq, Int.reduceBNe, d1, d2, List.map]; rfl) rfl ?hv fun _ _ => ?_; case hv => rfl)
    | refine nl hKF ?_
    | refine sq ?_
    | refine rg fun KF hKF => ?_
    | refine ct rfl ?_
    | refine cf rfl ?_
    | refine sk ?_
    | refine rt ?_
    | dsimp only [cond_true, cond_false]
   refine rz trivial ?_
   exact ⟨rfl, Ext0.ext⟩
  ·have d2 : decide (a > b) = false := decide_eq_false h2
   rw [if_neg h2]
   repeat first
    | refine mI ?_
    | refine mB ?_
    | (refine bn rfl rfl rfl (by simp only [↓nrmL, nrmZ, Nat.reduceEqDiff, ↓reduceIte, Nat.reduceAdd, Int.reduceBEq, Int.reduceBNe, d1, d2]; rfl) ?_)
    | (refine Fo.pcall (v' := ?_) hn rfl (by simp only [↓nrmL, nrmZ, Nat.reduceEqDiff, ↓reduceIte, Nat.reduceAdd, Int.reduceBEq, Int.reduceBNe, d1, d2, List.map]; rfl) rfl ?hv fun _ _ => ?_; case hv => rfl)
    | refine nl hKF ?_
    | refine sq ?_
    | refine rg fun KF hKF => ?_
    | refine cf rfl ?_
    | refine sk ?_
    | refine rt ?_
    | dsimp only [cond_true, cond_false]
   refine rz trivial ?_
   exact ⟨rfl, Ext0.ext⟩
theorem K_cmp {p q : AVal} {H : AHeap} {l m : List Int} (hp : IntsI H p l) (hq : IntsI H q m) (h1 : 0 < l.length) (h2 : 0 < m.length) : Con ext prog 3 61 [p, q] H fun v H' => v = .int .i64 (cmpI (l.getD 0 0) (m.getD 0 0)) ∧ Ext H H' := by
 refine con_of (show prog 61 = some c61 from rfl) rfl rfl fun n hn => ?_
 haveI := hp
 haveI := hq
 haveI := hp.one
 haveI := hq.one
 have g1 : l[0] = l.getD 0 0 := (getD_at h1).symm
 have g2 : m[0] = m.getD 0 0 := (getD_at h2).symm
 haveI : ∀ H, PureCon ext prog 62 [.int .i64 (l.getD 0 0), .int .i64 (m.getD 0 0)] H 2 (.int .i64 (cmpI (l.getD 0 0) (m.getD 0 0))) := fun H => ⟨K_Compare⟩
 refine sq ?_
 refine rg fun KF hKF => ?_
 refine mI ?_
 refine nl hKF ?_
 refine sq ?_
 refine Fr.dregion0 rfl fun KF hKF => ?_
 repeat first
  | (refine Fe.pure rfl rfl (by simp only [↓nrmL, nrmZ, Nat.reduceEqDiff, ↓reduceIte, Nat.reduceAdd, Int.reduceBEq, Int.reduceBNe, g1, g2]; rfl) ?_)
  | (refine Fe.pure rfl (exec_idxP (by (try simp only [↓nrmL, nrmZ, Nat.reduceEqDiff, ↓reduceIte, Nat.reduceAdd, Int.reduceBEq, Int.reduceBNe, g1, g2]); rfl) rfl ?_) (by simp only [↓nrmL, nrmZ, Nat.reduceEqDiff, ↓reduceIte, Nat.reduceAdd, Int.reduceBEq, Int.reduceBNe, g1, g2]; rfl) ?_; (focus omega))
  | (refine Er rfl (exec_ldI rfl (by omega)) (by simp only [↓nrmL, nrmZ, Nat.reduceEqDiff, ↓reduceIte, Nat.reduceAdd, Int.reduceBEq, Int.reduceBNe, g1, g2]; rfl) ?_)
  | (refine Fe.pcall (v' := ?_) rfl hn rfl (by simp only [↓nrmL, nrmZ, Nat.reduceEqDiff, ↓reduceIte, Nat.reduceAdd, Int.reduceBEq, Int.reduceBNe, g1, g2, List.map]; rfl) rfl ?hv fun _ _ => ar ?_; case hv => rfl)
  | refine WpE.nil (hKF _ _ ?_)
 refine rt ?_
 dsimp only [cond_true, cond_false]
 refine rz trivial ?_
 exact ⟨rfl, Ext0.ext⟩
theorem K_insert {H0 H : AHeap} {p : AVal} {n a b : Nat} {F : FuncId} {U : AVal → Prop} {K : AVal → Int} {cs : List AVal} (hU : SrtU ext prog H0 p F U K) (hs : SrtS H0 p n U cs H) (hab : a ≤ b) (hb : b ≤ n) (hn40 : n ≤ 2 ^ 40) : Con ext prog 9 114 [p, .int .i64 (a : Int), .int .i64 (b : Int), .func (.func F) [] []] H fun _ H' => ∃ cs', SrtS H0 p n U cs' H' ∧ Pm a b cs cs' ∧ Srd K cs' a b := by
 refine con_of (show prog 114 = some c114 from rfl) rfl rfl fun N hn => ?_
 haveI := hs.sl.one
 have e0 := wa1 (a := a) (by omega)
 refine sq ?_
 refine rg fun KF hKF => ?_
 refine mI ?_
 refine bn rfl rfl rfl (by simp only [↓nrmL, nrmZ, Nat.reduceEqDiff, ↓reduceIte, Nat.reduceAdd, Int.reduceBEq, Int.reduceBNe, e0]; rfl) ?_
 refine mI ?_
 refine nl hKF ?_
 refine Wp.block ?_
 dsimp only [cond_true, cond_false]
 refine Wp.loopS (σ := Nat × List AVal) [8, 9, 12, 13, 14, 15, 16, 17, 18, 19, 20, 21, 22, 23, 24, 25, 26, 27, 28, 29, 30, 31, 32, 33, 34, 35, 36, 37, 38, 39, 40, 41, 42, 43, 44, 45, 46, 47, 48, 49, 50, 51, 52] (fun s => [(8, .int .i64 (s.1 : Int))]) (fun _ s H2 => a + 1 ≤ s.1 ∧ (s.1 ≤ b ∨ s.1 = a + 1) ∧ SrtS H0 p n U s.2 H2 ∧ Pm a b cs s.2 ∧ Srd K s.2 a s.1) (fun s => b + 1 - s.1) (a + 1, cs) rfl (fun _ => rfl) ⟨rfl, trivial⟩ ⟨Nat.le_refl _, Or.inr rfl, hs, Pm.refl _ _ _, fun i j h1 h2 h3 => by dsimp only at h3; omega⟩ (by unfold fuel0 at hn; dsimp only; omega) ?_
 rintro ⟨i, cs1⟩ g H2 ⟨h1, h2, hs1, hp1, hsr1⟩
 dsimp only at h1 h2 hs1 hp1 hsr1
 simp only [↓nrmL, nrmZ, Nat.reduceEqDiff, ↓reduceIte, Nat.reduceAdd, Int.reduceBEq, Int.reduceBNe]
 cases hc : decide ((i : Int) < (b : Int))
 ·have hib := of_decide_eq_false hc
  refine sq ?_
  refine sq ?_
  refine rg fun KF hKF => ?_
  refine mI ?_
  refine mI ?_
  refine bn rfl rfl rfl (by simp only [↓nrmL, nrmZ, Nat.reduceEqDiff, ↓reduceIte, Nat.reduceAdd, Int.reduceBEq, Int.reduceBNe, hc]; rfl) ?_
  refine nl hKF ?_
  refine cf rfl ?_
  refine xi ?_
  dsimp only [cond_true, cond_false]
  refine rz trivial ?_
  refine ⟨cs1, hs1, hp1, fun s t q1 q2 q3 => hsr1 s t q1 q2 (by omega)⟩
 have hib : i < b := by have := of_decide_eq_true hc; omega
 have e1 := wa1 (a := i) (by omega)
 repeat first
  | refine mI ?_
  | (refine bn rfl rfl rfl (by simp only [↓nrmL, nrmZ, Nat.reduceEqDiff, ↓reduceIte, Nat.reduceAdd, Int.reduceBEq, Int.reduceBNe, hc]; rfl) ?_)
  | refine nl hKF ?_
  | refine sq ?_
  | refine rg fun KF hKF => ?_
  | refine ct rfl ?_
  | refine sk ?_
  | refine Wp.block ?_
  | dsimp only [cond_true, cond_false]
 refine Wp.loopS (σ := Nat × List AVal) [9, 18, 19, 20, 21, 22, 23, 24, 25, 26, 27, 28, 29, 30, 31, 32, 33, 34, 35, 36, 37, 38, 39, 40, 41, 42, 43, 44, 45, 46, 47, 48, 49, 50, 51, 52] (fun s => [(9, .int .i64 (s.1 : Int))]) (fun _ s H3 => a ≤ s.1 ∧ s.1 ≤ i ∧ SrtS H0 p n U s.2 H3 ∧ Pm a b cs s.2 ∧ InsS K s.2 a i s.1) (fun s => s.1) (i, cs1) rfl (fun _ => rfl) ⟨rfl, trivial⟩ ⟨by dsimp only; omega, Nat.le_refl _, hs1, hp1, InsS.start hsr1⟩ (by unfold fuel0 at hn; dsimp only; omega) ?_
 rintro ⟨j, cs2⟩ g2 H3 ⟨k1, k2, hs2, hp2, hin⟩
 dsimp only at k1 k2 hs2 hp2 hin
 haveI := hs2.sl
 haveI := hs2.wr
 have hl2 := hs2.len
 simp only [↓nrmL, nrmZ, Nat.reduceEqDiff, ↓reduceIte, Nat.reduceAdd, Int.reduceBEq, Int.reduceBNe]
 by_cases hja : j = a
 ·subst hja
  have hg : decide ((j : Int) > (j : Int)) = false := decide_eq_false (by omega)
  refine sq ?_
  refine sq ?_
  refine Fr.dregion0 rfl fun KF hKF => ?_
  repeat first
   | (refine Fe.pure rfl rfl (by simp only [↓nrmL, nrmZ, Nat.reduceEqDiff, ↓reduceIte, Nat.reduceAdd, Int.reduceBEq, Int.reduceBNe, hg]; rfl) ?_)
   | refine Fe.skip rfl ?_
   | refine WpE.nil (hKF _ _ ?_)
  simp only [e1]
  refine cf rfl ?_
  refine xi ?_
  refine rg fun KF hKF => ?_
  refine mI ?_
  refine bn rfl rfl rfl (by simp only [↓nrmL, nrmZ, Nat.reduceEqDiff, ↓reduceIte, Nat.reduceAdd, Int.reduceBEq, Int.reduceBNe, e1]; rfl) ?_
  refine mI ?_
  refine nl hKF ?_
  dsimp only [cond_true, cond_false]
  exact ⟨(i + 1, cs2), by dsimp only; omega, ⟨rfl, trivial⟩, by dsimp only; omega, by dsimp only; omega, hs2, hp2, hin.done k1 (Or.inl rfl)⟩
 have hja' : a < j := by omega
 have hg : decide ((j : Int) > (a : Int)) = true := decide_eq_true (by omega)
 obtain ⟨j0, hj0⟩ : ∃ j0, j = j0 + 1 := ⟨j - 1, by omega⟩
 have e2 : IntKind.i64.wrap ((j : Int) - 1) = (j0 : Int) := by rw [w64 (by omega)]; omega
 have hj1 : j < cs2.length := by omega
 have hj2 : j0 < cs2.length := by omega
 have c1 := cAt_some hj1
 have c2 := cAt_some hj2
 have u1 := hs2.mem j (by omega)
 have u2 := hs2.mem j0 (by omega)
 haveI := hU.one _ u1
 haveI := hU.one _ u2
 have hjn : j < n := by omega
 have hj0n : j0 < n := by omega
 haveI : ∀ H', ExtP0 H3 H' p → PureCon ext prog F [cAt cs2 j, cAt cs2 j0] H' 8 (.int .i64 (cmpI (K (cAt cs2 j)) (K (cAt cs2 j0)))) := fun H' hx => hU.cmp H' (hs2.ex.trans hx.ext) _ _ u1 u2
 haveI : PureCon ext prog F [cAt cs2 j, cAt cs2 j0] H3 8 (.int .i64 (cmpI (K (cAt cs2 j)) (K (cAt cs2 j0)))) := hU.cmp H3 hs2.ex _ _ u1 u2
 refine sq ?_
 refine sq ?_
 refine Fr.dregion0 rfl fun KF hKF => ?_
 repeat first
  | (refine Fe.pure rfl rfl (by simp only [↓nrmL, nrmZ, Nat.reduceEqDiff, ↓reduceIte, Nat.reduceAdd, Int.reduceBEq, Int.reduceBNe, hg]; rfl) ?_)
  | (refine Fe.pure rfl (exec_idxP (by (try simp only [↓nrmL, nrmZ, Nat.reduceEqDiff, ↓reduceIte, Nat.reduceAdd, Int.reduceBEq, Int.reduceBNe, hg]); rfl) rfl ?_) (by simp only [↓nrmL, nrmZ, Nat.reduceEqDiff, ↓reduceIte, Nat.reduceAdd, Int.reduceBEq, Int.reduceBNe, hg]; rfl) ?_; (focus omega))
 refine Fe.read rfl (exec_ldP (p := p) (j := j) rfl c1) rfl trivial ?_
 simp only [↓nrmL, nrmZ, Nat.reduceEqDiff, ↓reduceIte, Nat.reduceAdd, Int.reduceBEq, Int.reduceBNe, e2]
 repeat first
  | (refine Fe.pure rfl rfl (by simp only [↓nrmL, nrmZ, Nat.reduceEqDiff, ↓reduceIte, Nat.reduceAdd, Int.reduceBEq, Int.reduceBNe, e2]; rfl) ?_)
  | (refine Fe.pure rfl (exec_idxP (by (try simp only [↓nrmL, nrmZ, Nat.reduceEqDiff, ↓reduceIte, Nat.reduceAdd, Int.reduceBEq, Int.reduceBNe, e2]); rfl) rfl ?_) (by simp only [↓nrmL, nrmZ, Nat.reduceEqDiff, ↓reduceIte, Nat.reduceAdd, Int.reduceBEq, Int.reduceBNe, e2]; rfl) ?_; (focus omega))
 refine Fe.read rfl (exec_ldP (p := p) (j := j0) rfl c2) rfl trivial ?_
 cases hlt : decide (K (cAt cs2 j) < K (cAt cs2 j0))
 ·have hc2 : decide (cmpI (K (cAt cs2 j)) (K (cAt cs2 j0)) < 0) = false := by rw [cmpI_neg]; exact hlt
  simp only [↓nrmL, nrmZ, Nat.reduceEqDiff, ↓reduceIte, Nat.reduceAdd, Int.reduceBEq, Int.reduceBNe, hc2]
  repeat first
   | (refine Fe.pure rfl rfl (by simp only [↓nrmL, nrmZ, Nat.reduceEqDiff, ↓reduceIte, Nat.reduceAdd, Int.reduceBEq, Int.reduceBNe, hc2]; rfl) ?_)
   | (refine Fe.pcall (v' := ?_) rfl hn rfl (by simp only [↓nrmL, nrmZ, Nat.reduceEqDiff, ↓reduceIte, Nat.reduceAdd, Int.reduceBEq, Int.reduceBNe, hc2, List.map]; rfl) rfl ?hv fun _ _ => ar ?_; case hv => rfl)
   | refine WpE.nil (hKF _ _ ?_)
  rename AHeap => H4
  rename ExtI H3 H4 => hx4
  simp only [e1]
  refine cf rfl ?_
  refine xi ?_
  refine rg fun KF hKF => ?_
  refine mI ?_
  refine bn rfl rfl rfl (by simp only [↓nrmL, nrmZ, Nat.reduceEqDiff, ↓reduceIte, Nat.reduceAdd, Int.reduceBEq, Int.reduceBNe, e1]; rfl) ?_
  refine mI ?_
  refine nl hKF ?_
  dsimp only [cond_true, cond_false]
  refine ⟨(i + 1, cs2), by dsimp only; omega, ⟨rfl, trivial⟩, by dsimp only; omega, by dsimp only; omega, hs2.ext hx4.ext, hp2, hin.done k1 (Or.inr ?_)⟩
  rw [show j - 1 = j0 by omega]
  exact of_decide_eq_false hlt
 have hc2 : decide (cmpI (K (cAt cs2 j)) (K (cAt cs2 j0)) < 0) = true := by rw [cmpI_neg]; exact hlt
 simp only [↓nrmL, nrmZ, Nat.reduceEqDiff, ↓reduceIte, Nat.reduceAdd, Int.reduceBEq, Int.reduceBNe, hc2]
 repeat first
  | (refine Fe.pure rfl rfl (by simp only [↓nrmL, nrmZ, Nat.reduceEqDiff, ↓reduceIte, Nat.reduceAdd, Int.reduceBEq, Int.reduceBNe, hc2]; rfl) ?_)
  | (refine Fe.pcall (v' := ?_) rfl hn rfl (by simp only [↓nrmL, nrmZ, Nat.reduceEqDiff, ↓reduceIte, Nat.reduceAdd, Int.reduceBEq, Int.reduceBNe, hc2, List.map]; rfl) rfl ?hv fun _ _ => ar ?_; case hv => rfl)
  | refine WpE.nil (hKF _ _ ?_)
 rename AHeap => H4
 rename ExtI H3 H4 => hx4
 have hs4 := hs2.ext hx4.ext
 refine ct rfl ?_
 refine sk ?_
 refine sq ?_
 refine Wp.block ?_
 dsimp only [cond_true, cond_false]
 refine Fr.dregion0 rfl fun KF hKF => ?_
 repeat first
  | (refine Fe.pure rfl rfl (by simp only [↓nrmL, nrmZ, Nat.reduceEqDiff, ↓reduceIte, Nat.reduceAdd, Int.reduceBEq, Int.reduceBNe, e2]; rfl) ?_)
  | (refine Fe.pure rfl (exec_idxP (by (try simp only [↓nrmL, nrmZ, Nat.reduceEqDiff, ↓reduceIte, Nat.reduceAdd, Int.reduceBEq, Int.reduceBNe, e2]); rfl) rfl ?_) (by simp only [↓nrmL, nrmZ, Nat.reduceEqDiff, ↓reduceIte, Nat.reduceAdd, Int.reduceBEq, Int.reduceBNe, e2]; rfl) ?_; (focus omega))
 refine Fe.read rfl (exec_ldP (p := p) (j := j0) rfl c2) rfl trivial ?_
 refine Fe.pure rfl rfl (by simp only [↓nrmL, nrmZ, Nat.reduceEqDiff, ↓reduceIte, Nat.reduceAdd, Int.reduceBEq, Int.reduceBNe]; rfl) ?_
 refine Fe.pure rfl rfl (by simp only [↓nrmL, nrmZ, Nat.reduceEqDiff, ↓reduceIte, Nat.reduceAdd, Int.reduceBEq, Int.reduceBNe]; rfl) ?_
 refine Fe.pure rfl (exec_idxP (by (try simp only [↓nrmL, nrmZ, Nat.reduceEqDiff, ↓reduceIte, Nat.reduceAdd, Int.reduceBEq, Int.reduceBNe]); rfl) rfl ?_) (by simp only [↓nrmL, nrmZ, Nat.reduceEqDiff, ↓reduceIte, Nat.reduceAdd, Int.reduceBEq, Int.reduceBNe]; rfl) ?_; (focus omega)
 refine Fe.read rfl (exec_ldP (p := p) (j := j) rfl c1) rfl trivial ?_
 refine Fe.pure rfl (exec_idxP (by (try simp only [↓nrmL, nrmZ, Nat.reduceEqDiff, ↓reduceIte, Nat.reduceAdd, Int.reduceBEq, Int.reduceBNe]); rfl) rfl ?_) (by simp only [↓nrmL, nrmZ, Nat.reduceEqDiff, ↓reduceIte, Nat.reduceAdd, Int.reduceBEq, Int.reduceBNe]; rfl) ?_; (focus omega)
 refine WpE.stC (p := p) (j := j) (v := cAt cs2 j0) rfl rfl rfl hj1 fun H5 q1 q2 q3 => ar ?_
 refine Fe.pure rfl (exec_idxP (by (try simp only [↓nrmL, nrmZ, Nat.reduceEqDiff, ↓reduceIte, Nat.reduceAdd, Int.reduceBEq, Int.reduceBNe]); rfl) rfl ?_) (by simp only [↓nrmL, nrmZ, Nat.reduceEqDiff, ↓reduceIte, Nat.reduceAdd, Int.reduceBEq, Int.reduceBNe]; rfl) ?_; (focus omega)
 refine WpE.stC (p := p) (j := j0) (v := cAt cs2 j) rfl rfl rfl (by rw [List.length_set]; exact hj2) fun H6 q4 q5 q6 => ar ?_
 refine WpE.nil (hKF _ _ ?_)
 simp only [e2]
 refine rg fun KF hKF => ?_
 refine mI ?_
 refine bn rfl rfl rfl (by simp only [↓nrmL, nrmZ, Nat.reduceEqDiff, ↓reduceIte, Nat.reduceAdd, Int.reduceBEq, Int.reduceBNe, e2]; rfl) ?_
 refine mI ?_
 refine nl hKF ?_
 dsimp only [cond_true, cond_false]
 have e3 : swp cs2 j (j - 1) = (cs2.set j (cAt cs2 j0)).set j0 (cAt cs2 j) := by unfold swp; rw [show j - 1 = j0 by omega]
 exact ⟨(j0, swp cs2 j (j - 1)), by dsimp only; omega, ⟨rfl, trivial⟩, by dsimp only; omega, by dsimp only; omega, hs4.swp hjn (by omega) (by rw [e3]; exact q4) q5 (q3.trans q6), hp2.trans (Pm.swp (by omega) (by omega) (by omega)), by
  have := hin.step hja' k2 (by omega) (by rw [show j - 1 = j0 by omega]; exact of_decide_eq_true hlt)
  rwa [show j - 1 = j0 by omega] at this ⊢⟩
end Go.Am

namespace Go.Am
open Go
attribute [local irreducible] Wp WpO WpX WpE
theorem exec_byteOf {call : ACall} {fr : AFrame} {H : AHeap} {x i : ROpd} {s : ByteArray} {k : IntKind} {j : Nat} (hx : x.ev fr = .str s) (hi : i.ev fr = .int k (j : Int)) (hj : j < s.size) : ∃ b : UInt8, (ROp.indexStr x i).exec call fr H = some (.int .u8 (b.toNat : Int), H) := by
 refine ⟨s[j], ?_⟩
 have h0 : (0 : Int) ≤ (j : Int) := by omega
 simp only [ROp.exec, hx, hi, aIndexStr, if_pos h0, Int.toNat_natCast, getElem?_pos s j hj, M.ofOption, M.pure]
theorem Fo.byteOf {call : ACall} {fr : AFrame} {H : AHeap} {KF : AFrame → AHeap → Prop} {os : List ROper} {d : Nat} {x i : ROpd} {s : ByteArray} {k : IntKind} {j : Nat} (hx : x.ev fr = .str s) (hi : i.ev fr = .int k (j : Int)) (hj : j < s.size) (h : ∀ b : UInt8, WpO call os (upd fr d (.int .u8 (b.toNat : Int))) H KF) : WpO call (⟨some d, .indexStr x i, none⟩ :: os) fr H KF := by
 obtain ⟨b, hb⟩ := exec_byteOf (call := call) (H := H) hx hi hj
 exact Fo.now rfl hb rfl (h b)
theorem K_Len64 {x : Nat} {H : AHeap} (hx : x < 256) : Con ext prog 1 123 [.int .u64 (x : Int)] H fun v H' => (∃ k : Nat, v = .int .i64 (k : Int) ∧ k < 256) ∧ Ext H H' := by
 refine con_of (show prog 123 = some c123 from rfl) rfl rfl fun n hn => ?_
 have d1 : decide ((x : Int) ≥ 4294967296) = false := decide_eq_false (by omega)
 have d2 : decide ((x : Int) ≥ 65536) = false := decide_eq_false (by omega)
 have d3 : decide ((x : Int) ≥ 256) = false := decide_eq_false (by omega)
 have w1 : IntKind.u8.wrap (x : Int) = (x : Int) := by
  have e : ((x : Int) % 256) = (x : Int) := Int.emod_eq_of_lt (by omega) (by omega)
  show (x : Int) % (2 ^ 8 : Int) = x
  simpa using e
 simp only [d1, d2, d3, w1]
 repeat first
  | refine mI ?_
  | (refine bn rfl rfl rfl (by simp only [d1, d2, d3, w1]; rfl) ?_)
  | (refine Fo.now rfl rfl (by simp only [d1, d2, d3, w1]; rfl) ?_)
  | refine nl hKF ?_
  | refine sq ?_
  | refine rg fun KF hKF => ?_
  | refine cf rfl ?_
  | refine sk ?_
 refine Fo.byteOf (k := .u8) (j := x) rfl rfl hx fun b => ?_
 have hb2 := b.toNat_lt
 have w2 : IntKind.i64.wrap (b.toNat : Int) = (b.toNat : Int) := w64 (by omega)
 have w3 : IntKind.i64.wrap (0 + (b.toNat : Int)) = (b.toNat : Int) := by rw [Int.zero_add]; exact w2
 refine Fo.now rfl rfl (by simp only [w2, w3]; rfl) ?_
 refine bn rfl rfl rfl (by simp only [w2, w3]; rfl) ?_
 refine mI ?_
 refine nl hKF ?_
 refine rt ?_
 dsimp only [cond_true, cond_false]
 refine rz trivial ?_
 exact ⟨⟨b.toNat, rfl, hb2⟩, Ext0.ext⟩
theorem K_Len {x : Nat} {H : AHeap} (hx : x < 256) : Con ext prog 2 98 [.int .u64 (x : Int)] H fun v H' => (∃ k : Nat, v = .int .i64 (k : Int) ∧ k < 256) ∧ Ext H H' := by
 refine con_of (show prog 98 = some c98 from rfl) rfl rfl fun n hn => ?_
 repeat first
  | refine mI ?_
  | refine nl hKF ?_
  | refine sq ?_
  | refine rg fun KF hKF => ?_
  | refine cf rfl ?_
  | refine sk ?_
 refine WpO.do (WpX.conD hn rfl rfl (by simp only [↓nrmL, nrmZ, Nat.reduceEqDiff, ↓reduceIte, Nat.reduceAdd, Int.reduceBEq, Int.reduceBNe, List.map] <;> rfl) (K_Len64 hx) fun v H3 h5 => ?_)
 obtain ⟨⟨k, rfl, hk⟩, hx3⟩ := h5
 haveI : ExtI _ H3 := ⟨hx3⟩
 refine mI ?_
 refine nl hKF ?_
 refine rt ?_
 dsimp only [cond_true, cond_false]
 refine rz trivial ?_
 exact ⟨⟨k, rfl, hk⟩, Ext0.ext⟩
abbrev PdqP (H0 : AHeap) (p : AVal) (n : Nat) (F : FuncId) (U : AVal → Prop) (K : AVal → Int) (D : Nat) (cs : List AVal) : Prop := ∀ (H : AHeap) (L : Nat), L < 256 → SrtS H0 p n U cs H → Con ext prog D 97 [p, .int .i64 0, .int .i64 (n : Int), .int .i64 (L : Int), .func (.func F) [] []] H fun _ H' => ∃ cs', SrtS H0 p n U cs' H' ∧ Pm 0 n cs cs' ∧ Srd K cs' 0 n
abbrev PdqQ (F : FuncId) (D cap : Nat) : Prop := ∀ (H0 : AHeap) (p : AVal) (n : Nat) (U : AVal → Prop) (K : AVal → Int) (cs : List AVal), n ≤ cap → n ≤ 60 → SrtU ext prog H0 p F U K → (∀ i j, i < j → j < n → K (cAt cs i) ≠ K (cAt cs j)) → PdqP H0 p n F U K D cs
theorem K_pdqSmall {H0 : AHeap} {p : AVal} {n : Nat} {F : FuncId} {U : AVal → Prop} {K : AVal → Int} (hU : SrtU ext prog H0 p F U K) {cs : List AVal} (hn12 : n ≤ 12) : PdqP H0 p n F U K 10 cs := by
 intro H L _ hs
 refine con_of (show prog 97 = some c97 from rfl) rfl rfl fun N hn => ?_
 haveI := hs.sl.one
 have w1 : IntKind.i64.wrap ((n : Int) - 0) = (n : Int) := by rw [Int.sub_zero]; exact w64 (by omega)
 have d1 : decide ((n : Int) ≤ 12) = true := decide_eq_true (by omega)
 repeat first
  | refine mB ?_
  | refine nl hKF ?_
  | refine sq ?_
  | refine rg fun KF hKF => ?_
  | refine Wp.block ?_
  | dsimp only [cond_true, cond_false]
 refine Wp.loopS [1, 2, 3, 10, 11, 12, 13, 14, 15, 16, 17, 18, 19, 20, 21, 22, 23, 24, 25, 26, 27, 28, 29, 30, 31, 32, 33, 34, 35, 36, 37, 38, 39, 40, 41, 42, 43, 44, 45, 46, 47, 48, 49, 50, 51, 52, 53, 54, 55, 56, 57, 58, 59, 60, 61, 62, 63, 64, 65, 66, 67, 68, 69, 70, 71, 72, 73, 74, 75, 76, 77, 78, 79, 80, 81, 82, 83, 84, 85, 86, 87, 88, 89, 90, 91, 92, 93, 94, 95, 96, 97, 98, 99, 100, 101, 102, 103, 104, 105, 106, 107, 108, 109, 110, 111, 112, 113, 114, 115, 116, 117, 118, 119, 120, 121, 122, 123, 124, 125, 126, 127, 128, 129, 130, 131, 132, 133, 134, 135, 136, 137, 138, 139, 140, 141, 142, 143, 144, 145, 146, 147] (fun _ : Unit => [(1, .int .i64 0), (2, .int .i64 (n : Int))]) (fun _ _ H2 => H2 = H) (fun _ => 0) () rfl (fun _ => rfl) ⟨rfl, rfl, trivial⟩ rfl (by unfold fuel0 at hn; omega) ?_
 rintro _ g H2 rfl
 simp only [↓nrmL, nrmZ, Nat.reduceEqDiff, ↓reduceIte, Nat.reduceAdd, Int.reduceBEq, Int.reduceBNe]
 repeat first
  | refine mI ?_
  | refine mF ?_
  | (refine mv ?_)
  | (refine bn rfl rfl rfl (by simp only [w1, d1]; rfl) ?_)
  | refine nl hKF ?_
  | refine sq ?_
  | refine rg fun KF hKF => ?_
  | refine ct rfl ?_
  | refine Wp.block ?_
 refine WpO.do (WpX.conD hn rfl rfl (by simp only [↓nrmL, nrmZ, Nat.reduceEqDiff, ↓reduceIte, Nat.reduceAdd, Int.reduceBEq, Int.reduceBNe, List.map] <;> rfl) (K_insert (a := 0) (b := n) hU hs (Nat.zero_le _) (Nat.le_refl _) (by omega)) fun v H3 h5 => ?_)
 obtain ⟨cs', a1, a2, a3⟩ := h5
 refine nl hKF ?_
 refine rt ?_
 dsimp only [cond_true, cond_false]
 refine rz trivial ?_
 exact ⟨cs', a1, a2, a3⟩
theorem pdq_small {F : FuncId} : PdqQ F 10 12 := fun H0 p n U K cs h1 _ hU _ => K_pdqSmall hU h1
theorem K_SortFunc {H0 H : AHeap} {p : AVal} {n D : Nat} {F : FuncId} {U : AVal → Prop} {K : AVal → Int} {cs : List AVal} (hs : SrtS H0 p n U cs H) (hn : n < 256) (hp : PdqP H0 p n F U K D cs) (hD : 2 ≤ D) : Con ext prog (D + 1) 60 [p, .func (.func F) [] []] H fun _ H' => ∃ cs', SrtS H0 p n U cs' H' ∧ Pm 0 n cs cs' ∧ Srd K cs' 0 n := by
 refine con_of (show prog 60 = some c60 from rfl) rfl rfl fun N hN => ?_
 haveI := hs.sl
 haveI := hs.sl.one
 have hl := hs.len
 have w1 : IntKind.u64.wrap (n : Int) = (n : Int) := by
  show (n : Int) % (2 ^ 64 : Int) = n
  omega
 repeat first
  | refine mI ?_
  | (refine mv ?_)
  | (refine ln (by simp only [↓nrmL, nrmK, Nat.reduceEqDiff, ↓reduceIte]; rfl) ?_)
  | (refine Fo.now rfl rfl (by simp only [w1]; rfl) ?_)
  | refine nl hKF ?_
  | refine sq ?_
  | refine rg fun KF hKF => ?_
 refine WpO.do (WpX.con (K_Len hn) (Nat.le_trans (Nat.add_le_add_left hD _) hN) rfl (by simp only [↓nrmL, nrmZ, Nat.reduceEqDiff, ↓reduceIte, Nat.reduceAdd, Int.reduceBEq, Int.reduceBNe, List.map] <;> rfl) fun v H3 h5 => ?_)
 obtain ⟨⟨k, rfl, hk⟩, hx3⟩ := h5
 have hs3 := hs.ext hx3
 haveI : ExtI _ H3 := ⟨hx3⟩
 refine mF ?_
 refine WpO.do (WpX.con (hp H3 k hk hs3) hN rfl (by simp only [↓nrmL, nrmZ, Nat.reduceEqDiff, ↓reduceIte, Nat.reduceAdd, Int.reduceBEq, Int.reduceBNe, List.map] <;> rfl) fun v H4 h6 => ?_)
 refine nl hKF ?_
 dsimp only [cond_true, cond_false]
 refine rz trivial ?_
 exact h6
end Go.Am

namespace Go.Am
open Go
attribute [local irreducible] Wp WpO WpX WpE
def lineQ (w : Nat) (q : Nat → Nat) : List Int := (List.range w).map fun x => (q x : Int)
theorem lineQ_len (w : Nat) (q : Nat → Nat) : (lineQ w q).length = w := by simp [lineQ]
theorem lineQ_at {w x : Nat} {q : Nat → Nat} (hx : x < w) : (lineQ w q).getD x 0 = (q x : Int) := by
 rw [getD_at (by rw [lineQ_len]; exact hx)]
 simp [lineQ]
structure TrD (l : List UInt8) (w h : Nat) (qs' : List (Nat → Nat)) : Prop where
 it : ∃ qs P, TrR l w h qs P ∧ (60 ≤ qs.length ∨ (w : Int) < 8 * leastP P w h) ∧ qs'.length = qs.length ∧ (∀ i (hi : i < qs'.length), ∃ j, ∃ (hj : j < qs.length), qs'[i] = qs[j]) ∧ (∀ j (hj : j < qs.length), ∃ i, ∃ (hi : i < qs'.length), qs'[i] = qs[j]) ∧ (∀ i j (hi : i < qs'.length) (hj : j < qs'.length), i < j → qs'[i] 0 < qs'[j] 0)
def keyH (H : AHeap) (v : AVal) : Int := match v with
 | .slice r off _ _ _ => (match H.get r with
  | .row cs _ _ => (match cs[off]? with | some (.int _ z) => z | _ => 0)
  | _ => 0)
 | _ => 0
theorem keyH_row {H : AHeap} {r n : Nat} {c : Option Nat} {l : List Int} {w : Bool} {e : TypeId} (h : HasRow H r (cellsI l) w e) (h0 : 0 < l.length) : keyH H (.slice r 0 n c 1) = l.getD 0 0 := by
 have e1 : (cellsI l)[0]? = some (.int .i64 (l.getD 0 0)) := by
  rw [getD_at h0]; simp [cellsI, h0]
 simp only [keyH, h.get, e1]
theorem K_sortEnd {w h D cap B : Nat} {l : List UInt8} {qs : List (Nat → Nat)} {P : List Int} {H2 : AHeap} {op : AVal} {cells : List AVal} (hw0 : 0 < w) (hD : 10 ≤ D) (hI : TrI l w h qs P) (hT : TrR l w h qs P) (hE : 60 ≤ qs.length ∨ (w : Int) < 8 * leastP P w h) (hsort : PdqQ 61 D cap) (hcap : (h + 2) / 3 ≤ cap)
  (ho : OwnS H2 op 1 qs.length cells 25) (hL : Lns H2 cells (qs.map (lineQ w)) B) : Con ext prog (D + 1) 60 [op, .func (.func 61) [] []] H2 fun _ H' => ∃ qs', LinesI H' op (qs'.map (lineQ w)) ∧ TrD l w h qs' ∧ ExtP H2 H' op := by
 have hlen : cells.length = qs.length := by rw [hL.len, List.length_map]
 have hrow : ∀ j (hj : j < qs.length), ∃ rj, cAt cells j = .slice rj 0 w (some w) 1 ∧ HasRow H2 rj (cellsI (lineQ w qs[j])) true (2 * 3) := fun j hj => by
  obtain ⟨rj, a1, a2, a3⟩ := hL.it j (by rw [List.length_map]; exact hj)
  rw [List.getElem_map] at a1 a2
  rw [lineQ_len] at a1
  exact ⟨rj, by rw [cAt_some (by omega)] at a1; exact Option.some.inj a1, a2⟩
 have hne : ∀ {rj : Nat} {l : List Int}, HasRow H2 rj (cellsI l) true (2 * 3) → RowNe op rj := fun k => ho.tne k.get (by decide)
 have hK : ∀ j (hj : j < qs.length), keyH H2 (cAt cells j) = (qs[j] 0 : Int) := fun j hj => by
  obtain ⟨rj, a1, a2⟩ := hrow j hj
  rw [a1, keyH_row a2 (by rw [lineQ_len]; exact hw0), lineQ_at hw0]
 have hU : SrtU ext prog H2 op 61 (fun v => ∃ j, j < qs.length ∧ v = cAt cells j) (keyH H2) := by
  refine ⟨fun H' hx x y ⟨i, hi, ex⟩ ⟨j, hj, ey⟩ => ?_, fun x ⟨i, hi, ex⟩ => ?_⟩
  ·obtain ⟨ri, a1, a2⟩ := hrow i hi
   obtain ⟨rj, b1, b2⟩ := hrow j hj
   have kx : keyH H2 x = (lineQ w qs[i]).getD 0 0 := by rw [ex, a1, keyH_row a2 (by rw [lineQ_len]; exact hw0)]
   have ky : keyH H2 y = (lineQ w qs[j]).getD 0 0 := by rw [ey, b1, keyH_row b2 (by rw [lineQ_len]; exact hw0)]
   have r1 : HasRow H' ri (cellsI (lineQ w qs[i])) true (2 * 3) := ⟨Nat.lt_of_lt_of_le a2.lt hx.n, by rw [hx.get ri a2.lt (hne a2)]; exact a2.get⟩
   have r2 : HasRow H' rj (cellsI (lineQ w qs[j])) true (2 * 3) := ⟨Nat.lt_of_lt_of_le b2.lt hx.n, by rw [hx.get rj b2.lt (hne b2)]; exact b2.get⟩
   rw [kx, ky, ex, ey, a1, b1]
   refine ⟨fun m hm => ?_⟩
   exact K_cmp (row_ints r1 (lineQ_len w _)) (row_ints r2 (lineQ_len w _)) (by rw [lineQ_len]; exact hw0) (by rw [lineQ_len]; exact hw0) m (by omega)
  ·obtain ⟨ri, a1, a2⟩ := hrow i hi
   rw [ex, a1]
   exact inferInstance
 have hS : SrtS H2 op qs.length (fun v => ∃ j, j < qs.length ∧ v = cAt cells j) cells H2 := ⟨ho.sl, ho.wr, ExtP.refl _ _, fun j hj => ⟨j, hj, rfl⟩⟩
 have hdist : ∀ i j, i < j → j < qs.length → keyH H2 (cAt cells i) ≠ keyH H2 (cAt cells j) := fun i j hij hj => by
  rw [hK i (by omega), hK j hj]
  have := hI.apart i j (by omega) hj 0 hw0 hij
  unfold near at this
  omega
 have hfew := hI.few hw0
 have hmany := hI.many
 refine (K_SortFunc hS (by omega) (hsort H2 op qs.length _ _ cells (by omega) hmany hU hdist) (by omega)).mono fun v H' h5 => ?_
 obtain ⟨cs', hS', hPm, hSr⟩ := h5
 obtain ⟨f, g, p1, p2, p3, p4, p5⟩ := hPm.it
 have hf : ∀ i, i < qs.length → f i < qs.length := fun i hi => (p5 i (Nat.zero_le _) hi).2
 have hg : ∀ i, i < qs.length → g i < qs.length := fun i hi => by
  by_cases hc : g i < qs.length
  ·exact hc
  ·have := p4 (g i) (Or.inr (by omega))
   rw [p2] at this; omega
 obtain ⟨qs', hqs⟩ : ∃ qs' : List (Nat → Nat), (List.range qs.length).map (fun i => qs.getD (f i) id) = qs' := ⟨_, rfl⟩
 have hl' : qs'.length = qs.length := by rw [← hqs]; simp
 have hq' : ∀ i (hi : i < qs'.length) (hi2 : f i < qs.length), qs'[i] = qs[f i] := fun i hi hi2 => by
  subst hqs
  simp [List.getElem?_eq_getElem hi2]
 refine ⟨qs', ?_, ⟨qs, P, hT, hE, hl', fun i hi => ⟨f i, hf i (by omega), hq' i hi (hf i (by omega))⟩, fun j hj => ⟨g j, by rw [hl']; exact hg j hj, by
  have := hq' (g j) (by rw [hl']; exact hg j hj) (by rw [p2]; exact hj)
  rw [this]
  congr 1
  exact p2 j⟩, fun i j hi hj hij => ?_⟩, hS'.ex⟩
 ·refine ⟨cs', by rw [List.length_map, hl']; exact hS'.sl, ⟨fun i hi => ?_⟩⟩
  rw [List.length_map] at hi
  obtain ⟨rj, a1, a2⟩ := hrow (f i) (hf i (by omega))
  have hcl := hS'.len
  have r1 : HasRow H' rj (cellsI (lineQ w (qs[f i]'(hf i (by omega))))) true (2 * 3) := ⟨Nat.lt_of_lt_of_le a2.lt hS'.ex.n, by rw [hS'.ex.get rj a2.lt (hne a2)]; exact a2.get⟩
  refine ⟨.slice rj 0 w (some w) 1, by rw [cAt_some (by omega), p1, a1], ?_⟩
  rw [List.getElem_map, hq' i hi (hf i (by omega))]
  exact row_ints r1 (lineQ_len w _)
 ·have hi2 := hf i (by omega)
  have hj2 := hf j (by omega)
  have h7 := hSr i j (Nat.zero_le _) hij (by omega)
  rw [p1, p1, hK (f i) hi2, hK (f j) hj2] at h7
  rw [hq' i hi hi2, hq' j hj hj2]
  have hne2 : f i ≠ f j := fun e => by
   have : g (f i) = g (f j) := by rw [e]
   rw [p3, p3] at this; omega
  rcases Nat.lt_or_gt_of_ne hne2 with h8 | h8
  ·have := hI.apart _ _ hi2 hj2 0 hw0 h8
   unfold near at this; omega
  ·have := hI.apart _ _ hj2 hi2 0 hw0 h8
   unfold near at this; omega
theorem K_TraceOk {w h D cap : Nat} {p : AVal} {H : AHeap} {l : List UInt8} [hp : BytesI H p l] (ok : Ok w h l) (hw0 : 0 < w) (hh0 : 0 < h) (hD : 10 ≤ D) (hsort : PdqQ 61 D cap) (hcap : (h + 2) / 3 ≤ cap) : Con ext prog (D + 2) 18 [.agg [.int .i64 (w : Int), .int .i64 (h : Int), p]] H fun v H' => ∃ q qs', v = .tuple [q, .int .i64 0] ∧ LinesI H' q (qs'.map (lineQ w)) ∧ TrD l w h qs' ∧ Ext H H' := by
 refine con_of (show prog 18 = some c18 from rfl) rfl rfl fun n hnD => ?_
 have hn : fuel0 + 10 ≤ n := by omega
 haveI := hp.one
 have he := ok.err
 have hl := ok.len
 have hw := ok.wa
 have hh := ok.hb
 have hm : w * h ≤ 640 * 640 := Nat.mul_le_mul hw hh
 have hwh : 0 < w * h := Nat.mul_pos hw0 hh0
 have hl0 : (((l.length : Nat) : Int) == 0) = false := by simp; intro e; rw [e] at hl; simp at hl; omega
 repeat first
  | refine mI ?_
  | refine mN ?_
  | refine fd ?_
  | refine Fo.ld rfl rfl ?_
  | (refine Fo.ldN rfl rfl (by simp only [↓nrmL, nrmZ, Nat.reduceEqDiff, ↓reduceIte, Nat.reduceAdd, Int.reduceBEq, Int.reduceBNe, he, hl0]; rfl) ?_)
  | (refine bn rfl rfl rfl (by simp only [↓nrmL, nrmZ, Nat.reduceEqDiff, ↓reduceIte, Nat.reduceAdd, Int.reduceBEq, Int.reduceBNe, he, hl0]; rfl) ?_)
  | (refine Fo.pcall (v' := ?_) hn rfl (by simp only [↓nrmL, nrmZ, Nat.reduceEqDiff, ↓reduceIte, Nat.reduceAdd, Int.reduceBEq, Int.reduceBNe, he, hl0, List.map]; rfl) rfl ?hv fun _ _ => ?_; case hv => (simp only [↓nrmL, nrmZ, Nat.reduceEqDiff, ↓reduceIte, Nat.reduceAdd, Int.reduceBEq, Int.reduceBNe, he, hl0]; rfl))
  | (refine ln (by simp only [↓nrmL, nrmK, Nat.reduceEqDiff, ↓reduceIte]; rfl) ?_)
  | refine bA ?_
  | refine nl hKF ?_
  | refine sq ?_
  | refine rg fun KF hKF => ?_
  | refine cf rfl ?_
  | refine sk ?_
 rename AHeap => H1
 have hx01 : Ext H H1 := Ext0.ext
 have hb1 : BytesI H1 p l := inferInstance
 refine WpO.do (WpX.conD hn rfl rfl (by simp only [↓nrmL, nrmZ, Nat.reduceEqDiff, ↓reduceIte, Nat.reduceAdd, Int.reduceBEq, Int.reduceBNe, List.map] <;> rfl) (K_survey (w := w) (h := h) (p := p) (l := l) hb1 hw hh hl) fun v Hs h5 => ?_)
 obtain ⟨rp, rr, rfl, hg, hrp0, hrr0, hxs⟩ := h5
 have hx0s := hx01.trans hxs
 haveI : ExtI H Hs := ⟨hx0s⟩
 have nrp := hg.kp.lt
 have nrr := hg.kr.lt
 have n01 := hx01.n
 have nne := hg.ne
 have kp := hg.kp
 have kr := hg.kr
 refine nw ?_
 refine so rfl (rfl : _ = AVal.agg _) rfl rfl rfl (by simp only [↓nrmL, nrmZ, Nat.reduceEqDiff, ↓reduceIte, Nat.reduceAdd, Int.reduceBEq, Int.reduceBNe]; rfl) ?_
 refine nl hKF ?_
 refine sq ?_
 refine rg fun KF hKF => ?_
 refine mN ?_
 refine nl hKF ?_
 refine sq ?_
 refine Wp.block ?_
 dsimp only [cond_true, cond_false]
 refine Wp.loopS (σ := List (Nat → Nat) × AVal) [6, 7, 19, 20, 21, 22, 23, 24, 25, 26, 27, 28, 29, 30, 31, 32, 33, 34, 35, 36, 37, 38] (fun s => [(6, s.2)]) (fun _ s H2 => ∃ P R cells, TrR l w h s.1 P ∧ HasRow H2 rp (cellsI P) true (2 * 3) ∧ HasRow H2 rr (cellsI R) true (2 * 3) ∧ R.length = w * h ∧ HasRow H2 Hs.n [.int .i64 (w : Int), .int .i64 (h : Int), .slice rp 0 (w * h) (some (w * h)) 1, .slice rr 0 (w * h) (some (w * h)) 1] true (2 * 83) ∧ OwnS H2 s.2 1 s.1.length cells 25 ∧ Lns H2 cells (s.1.map (lineQ w)) Hs.n ∧ Ext H H2 ∧ (∀ r off len cap sz, s.2 = .slice r off len cap sz → Hs.n ≤ r)) (fun s => 60 - s.1.length) ([], .nslice) rfl (fun _ => rfl) ⟨rfl, trivial⟩ ⟨surL l w h, List.replicate (w * h) 0, [], TrR.nil, inferInstance, inferInstance, List.length_replicate, inferInstance, ⟨Or.inl ⟨rfl, rfl, rfl⟩⟩, ⟨rfl, fun j hj => by cases hj⟩, Ext0.ext, fun r off len cap sz e => by cases e⟩ (by unfold fuel0 at hn; dsimp only; omega) ?_
 have hend : ∀ (H2 H3 : AHeap) (op : AVal), Ext H H2 → ExtP H2 H3 op → (∀ r off len cap sz, op = .slice r off len cap sz → Hs.n ≤ r) → Ext H H3 := fun H2 H3 op a b c => ⟨Nat.le_trans a.n b.n, fun r hr => by rw [b.get r (Nat.lt_of_lt_of_le hr a.n) ⟨fun r' _ _ _ _ e => by have := c _ _ _ _ _ e; have := hx0s.n; omega⟩, a.get r hr]⟩
 rintro ⟨qs, op⟩ g H2 ⟨P, R, cells, hT, kp2, kr2, hRl, kg2, ho, hL, hx2, hfo⟩
 dsimp only at hT ho hL hfo
 have hI := tr_inv hw0 hw hh0 hT
 haveI := kg2
 haveI := ho.sl
 haveI := ho.sl.one
 have n2 := hx2.n
 have nHs := kg2.lt
 simp only [↓nrmL, nrmZ, Nat.reduceEqDiff, ↓reduceIte, Nat.reduceAdd, Int.reduceBEq, Int.reduceBNe]
 by_cases h60 : qs.length = 60
 ·have hc : decide (((qs.length : Nat) : Int) < 60) = false := decide_eq_false (by omega)
  refine sq ?_
  refine sq ?_
  refine Fr.dregion0 rfl fun KF hKF => ?_
  repeat first
   | (refine Fe.pure rfl (exec_lenP (by (try simp only [↓nrmL, nrmZ, Nat.reduceEqDiff, ↓reduceIte, Nat.reduceAdd, Int.reduceBEq, Int.reduceBNe, hc]); rfl)) rfl ?_)
   | (refine Fe.pure rfl rfl (by simp only [↓nrmL, nrmZ, Nat.reduceEqDiff, ↓reduceIte, Nat.reduceAdd, Int.reduceBEq, Int.reduceBNe, hc]; rfl) ?_)
   | refine Fe.skip rfl ?_
   | refine WpE.nil (hKF _ _ ?_)
  refine cf rfl ?_
  refine xi ?_
  refine sq ?_
  refine rg fun KF hKF => ?_
  refine mv ?_
  refine WpO.do (WpX.con (K_sortEnd hw0 hD hI hT (Or.inl (by omega)) hsort hcap ho hL) hnD rfl (by simp only [↓nrmL, nrmZ, Nat.reduceEqDiff, ↓reduceIte, Nat.reduceAdd, Int.reduceBEq, Int.reduceBNe, List.map] <;> rfl) fun v H3 h6 => ?_)
  obtain ⟨qs', b1, b2, b3⟩ := h6
  repeat first
   | refine mI ?_
   | (refine mv ?_)
   | refine nl hKF ?_
   | refine sq ?_
   | refine rg fun KF hKF => ?_
   | refine rt ?_
   | dsimp only [cond_true, cond_false]
  refine rz trivial ?_
  exact ⟨op, qs', rfl, b1, b2, hend H2 H3 op hx2 b3 hfo⟩
 have h60' : qs.length < 60 := by have := hI.many; omega
 have hc : decide (((qs.length : Nat) : Int) < 60) = true := decide_eq_true (by omega)
 haveI : RowNe (rrV w h rr) Hs.n := ⟨fun r _ _ _ _ e => by cases e; omega⟩
 haveI := kp2
 haveI := kr2
 have hop2 : RowNe op rr := ho.tne kr2.get (by decide)
 have hop3 : RowNe op rp := ho.tne kp2.get (by decide)
 refine sq ?_
 refine sq ?_
 refine Fr.dregion0 rfl fun KF hKF => ?_
 repeat first
  | (refine Er rfl (exec_ldN rfl rfl (by simp only [↓nrmL, nrmZ, Nat.reduceEqDiff, ↓reduceIte, Nat.reduceAdd, Int.reduceBEq, Int.reduceBNe, hc]; rfl)) rfl ?_)
  | (refine Fe.pure rfl (exec_lenP (by (try simp only [↓nrmL, nrmZ, Nat.reduceEqDiff, ↓reduceIte, Nat.reduceAdd, Int.reduceBEq, Int.reduceBNe, hc]); rfl)) rfl ?_)
  | (refine Fe.pure rfl rfl (by simp only [↓nrmL, nrmZ, Nat.reduceEqDiff, ↓reduceIte, Nat.reduceAdd, Int.reduceBEq, Int.reduceBNe, hc]; rfl) ?_)
 refine Fe.con rfl hn rfl rfl (by simp only [↓nrmL, nrmZ, Nat.reduceEqDiff, ↓reduceIte, Nat.reduceAdd, Int.reduceBEq, Int.reduceBNe, List.map] <;> rfl) (K_measure hw hh hw0 hh0 hI.pos ⟨kp2, kr2, hI.len, hRl, nne⟩) fun v H3 h6 => ?_
 obtain ⟨rfl, hg3, hx3⟩ := h6
 rw [show mnL (colL (restL P w h) h 0) (h - 1) = leastP P w h from rfl]
 obtain ⟨M, hM⟩ : ∃ M, leastP P w h = M := ⟨_, rfl⟩
 rw [hM]
 have hMr : 0 ≤ M ∧ M ≤ 3840 := by
  obtain ⟨y, _, y2⟩ := least_in (P := P) hw0 hh0
  rw [← hM, ← y2]
  exact ⟨rest_pos (hI.pos.pos h) _ _, rest_max (hI.pos.pos h) _ _⟩
 have eM : IntKind.i64.wrap (8 * M) = 8 * M := w64 (by omega)
 haveI := hx3
 haveI := hg3.kp
 haveI := hg3.kr
 haveI : SepS op (rrV w h rr) := ⟨fun r _ _ _ _ r' _ _ _ _ e e' => by cases e'; exact hop2.ne _ _ _ _ _ e⟩
 haveI := ho
 have ho3 : OwnS H3 op 1 qs.length cells 25 := inferInstance
 have hL3 : Lns H3 cells (qs.map (lineQ w)) Hs.n := hL.keep hx3.n fun s cs hs hB hg => hx3.get s hs ⟨fun r _ _ _ _ e => by cases e; omega⟩
 have hx03 : Ext H H3 := ⟨Nat.le_trans hx2.n hx3.n, fun r hr => by rw [hx3.get r (Nat.lt_of_lt_of_le hr hx2.n) ⟨fun r' _ _ _ _ e => by cases e; omega⟩, hx2.get r hr]⟩
 have n3 := hx3.n
 refine ar ?_
 cases hcM : decide (8 * M ≤ (w : Int))
 ·have hcM2 := of_decide_eq_false hcM
  simp only [↓nrmL, nrmZ, Nat.reduceEqDiff, ↓reduceIte, Nat.reduceAdd, Int.reduceBEq, Int.reduceBNe, eM, hcM]
  repeat first
   | (refine Er rfl (exec_ld rfl rfl) rfl ?_)
   | (refine Fe.pure rfl rfl (by simp only [↓nrmL, nrmZ, Nat.reduceEqDiff, ↓reduceIte, Nat.reduceAdd, Int.reduceBEq, Int.reduceBNe, eM, hcM]; rfl) ?_)
   | refine WpE.nil (hKF _ _ ?_)
  refine cf rfl ?_
  refine xi ?_
  refine sq ?_
  refine rg fun KF hKF => ?_
  refine mv ?_
  refine WpO.do (WpX.con (K_sortEnd hw0 hD hI hT (Or.inr (by rw [hM]; omega)) hsort hcap ho3 hL3) hnD rfl (by simp only [↓nrmL, nrmZ, Nat.reduceEqDiff, ↓reduceIte, Nat.reduceAdd, Int.reduceBEq, Int.reduceBNe, List.map] <;> rfl) fun v H4 h6 => ?_)
  obtain ⟨qs', b1, b2, b3⟩ := h6
  haveI := ho3.sl.one
  repeat first
   | refine mI ?_
   | (refine mv ?_)
   | refine nl hKF ?_
   | refine sq ?_
   | refine rg fun KF hKF => ?_
   | refine rt ?_
   | dsimp only [cond_true, cond_false]
  refine rz trivial ?_
  exact ⟨op, qs', rfl, b1, b2, hend H3 H4 op hx03 b3 hfo⟩
 have hcM2 := of_decide_eq_true hcM
 simp only [↓nrmL, nrmZ, Nat.reduceEqDiff, ↓reduceIte, Nat.reduceAdd, Int.reduceBEq, Int.reduceBNe, eM, hcM]
 repeat first
  | (refine Er rfl (exec_ld rfl rfl) rfl ?_)
  | (refine Fe.pure rfl rfl (by simp only [↓nrmL, nrmZ, Nat.reduceEqDiff, ↓reduceIte, Nat.reduceAdd, Int.reduceBEq, Int.reduceBNe, eM, hcM]; rfl) ?_)
  | refine WpE.nil (hKF _ _ ?_)
 refine ct rfl ?_
 refine sk ?_
 refine Wp.block ?_
 refine sq ?_
 refine rg fun KF hKF => ?_
 refine Fo.ldN rfl rfl (by simp only [↓nrmL, nrmZ, Nat.reduceEqDiff, ↓reduceIte, Nat.reduceAdd, Int.reduceBEq, Int.reduceBNe]; rfl) ?_
 refine WpO.do (WpX.conD hn rfl rfl (by simp only [↓nrmL, nrmZ, Nat.reduceEqDiff, ↓reduceIte, Nat.reduceAdd, Int.reduceBEq, Int.reduceBNe, List.map] <;> rfl) (K_follow hw hh hw0 hh0 hI.pos hg3 (by rw [show mnL (colL (restL P w h) h 0) (h - 1) = leastP P w h from rfl, hM]; omega)) fun v H4 h7 => ?_)
 obtain ⟨y0, hy0, hy1, hy2, ⟨rq, rfl, hkq, hrq⟩, hx4⟩ := h7
 rw [show mnL (colL (restL P w h) h 0) (h - 1) = leastP P w h from rfl] at hy1 hy2
 haveI : ExtI H3 H4 := ⟨hx4⟩
 have hpth := fol_path (hI.pos.pos h) hh0 hy0 (by rw [hy1, hM]; omega)
 have n4 := hx4.n
 have nrq := hkq.lt
 haveI := hkq
 refine mv ?_
 refine nl hKF ?_
 refine sq ?_
 refine rg fun KF hKF => ?_
 refine Fo.ldN rfl rfl (by simp only [↓nrmL, nrmZ, Nat.reduceEqDiff, ↓reduceIte, Nat.reduceAdd, Int.reduceBEq, Int.reduceBNe]; rfl) ?_
 refine mv ?_
 have kp4 : HasRow H4 rp (cellsI P) true (2 * 3) := inferInstance
 obtain ⟨q, hq⟩ : ∃ q, folF (priF P h) w h y0 = q := ⟨_, rfl⟩
 have epl : pathL P w h y0 = lineQ w q := by unfold pathL lineQ; rw [hq]
 rw [epl] at hkq
 rw [hq] at hpth
 refine WpO.do (WpX.conD hn rfl rfl (by simp only [↓nrmL, nrmZ, Nat.reduceEqDiff, ↓reduceIte, Nat.reduceAdd, Int.reduceBEq, Int.reduceBNe, List.map] <;> rfl) (K_forbid (q := q) hw hh hw0 hh0 hI.len kp4 hkq (by omega) (lineQ_len w q) (fun x hx => ⟨lineQ_at hx, hpth.row x hx⟩)) fun v H5 h8 => ?_)
 obtain ⟨kp5, hx5⟩ := h8
 haveI := kp5
 haveI := hx5
 haveI : RowNe (rrV w h rp) Hs.n := ⟨fun r _ _ _ _ e => by cases e; omega⟩
 haveI : RowNe (rrV w h rp) rr := ⟨fun r _ _ _ _ e => by cases e; omega⟩
 haveI : RowNe (rrV w h rp) rq := ⟨fun r _ _ _ _ e => by cases e; omega⟩
 haveI : SepS op (rrV w h rp) := ⟨fun r _ _ _ _ r' _ _ _ _ e e' => by cases e'; exact hop3.ne _ _ _ _ _ e⟩
 haveI ho4 : OwnS H4 op 1 qs.length cells 25 := inferInstance
 have ho5 : OwnS H5 op 1 qs.length cells 25 := inferInstance
 have kq5 : HasRow H5 rq (cellsI (lineQ w q)) true (2 * 3) := ⟨Nat.lt_of_lt_of_le hkq.lt hx5.n, by rw [hx5.get rq hkq.lt inferInstance]; exact hkq.get⟩
 have hL4 : Lns H4 cells (qs.map (lineQ w)) Hs.n := hL3.keep hx4.n fun s cs hs hB hg => hx4.get s hs
 have hL5 : Lns H5 cells (qs.map (lineQ w)) Hs.n := hL4.keep hx5.n fun s cs hs hB hg => hx5.get s hs ⟨fun r _ _ _ _ e => by cases e; omega⟩
 have hx04 := hx03.trans hx4
 have hx05 : Ext H H5 := ⟨Nat.le_trans hx04.n hx5.n, fun r hr => by rw [hx5.get r (Nat.lt_of_lt_of_le hr hx04.n) ⟨fun r' _ _ _ _ e => by cases e; omega⟩, hx04.get r hr]⟩
 have n5 := hx5.n
 haveI := ho5.sl.one
 refine nl hKF ?_
 refine rg fun KF hKF => ?_
 refine mv ?_
 refine mv ?_
 refine Fo.bslice rfl (by simp only [↓nrmL, nrmZ, Nat.reduceEqDiff, ↓reduceIte, Nat.reduceAdd, Int.reduceBEq, Int.reduceBNe]; rfl) ?_
 refine WpO.do (WpX.growX (p := op) (q := .slice H5.n 0 1 (some 1) 1) (k := 1) (new := [.slice rq 0 w (some w) 1]) rfl rfl (by infer_instance) (row_one1 (inferInstance : HasRow _ H5.n [.slice rq 0 w (some w) 1] true (2 * 25))) (by decide) (by decide) (by decide) (by omega) (by rfl) fun op' H9 ho2 hf2 hx9 => ?_)
 haveI := ho2.sl.one
 haveI := hx9
 refine mv ?_
 refine nl hKF ?_
 dsimp only [cond_true, cond_false]
 have n9 := hx9.n
 simp only [AHeap.push] at n9
 have kr5 : HasRow H5 rr (cellsI (restL P w h)) true (2 * 3) := inferInstance
 have kg5 : HasRow H5 Hs.n [.int .i64 (w : Int), .int .i64 (h : Int), .slice rp 0 (w * h) (some (w * h)) 1, .slice rr 0 (w * h) (some (w * h)) 1] true (2 * 83) := inferInstance
 haveI : RowNe op rp := ho5.tne kp5.get (by decide)
 haveI : RowNe op rr := ho5.tne kr5.get (by decide)
 haveI : RowNe op Hs.n := ho5.tne kg5.get (by decide)
 have keep : ∀ s cs, s < H5.n → H5.get s = .row cs true (2 * 3) → H9.get s = H5.get s := fun s cs hs hg => by
  rw [hx9.get s (by simp only [AHeap.push]; omega) (ho5.tne hg (by decide)), push_get_lt hs]
 have hL9 : Lns H9 cells (qs.map (lineQ w)) Hs.n := hL5.keep (by omega) fun s cs hs hB hg => keep s cs hs hg
 have kq9 : HasRow H9 rq (cellsI (lineQ w q)) true (2 * 3) := ⟨by have := kq5.lt; omega, by rw [keep rq _ kq5.lt kq5.get]; exact kq5.get⟩
 have hsn := hL9.snoc kq9 (by omega)
 rw [lineQ_len] at hsn
 have hfo5 : Ext H H9 := ⟨by omega, fun r hr => by
  rw [hx9.get r (by simp only [AHeap.push]; omega) ⟨fun r' _ _ _ _ e => by have := hfo _ _ _ _ _ e; omega⟩, push_get_lt (by omega), hx05.get r hr]⟩
 refine ⟨(qs ++ [q], op'), by dsimp only; rw [List.length_append]; simp only [List.length_singleton]; omega, ⟨rfl, trivial⟩, forA P q w h, restL P w h, cells ++ [.slice rq 0 w (some w) 1], ?_, inferInstance, inferInstance, rest_len _ _ _, inferInstance, ?_, ?_, hfo5, fun r _ _ _ _ e => by have := hf2.ge _ _ _ _ _ e; simp only [AHeap.push] at this; omega⟩
 ·rw [← hq]
  exact TrR.snoc hT h60' (by rw [hM]; exact hcM2) hy0 hy1 hy2
 ·dsimp only
  rw [List.length_append, List.length_singleton]
  exact ho2
 ·dsimp only
  rw [List.map_append]
  exact hsn
end Go.Am

namespace Go.Am
open Go
end Go.Am

namespace Go.Am
open Go
section
variable {call : ACall} {its : List DItem} {H0 : AHeap} {n ref : Nat} {E : List (Nat × AHeap)} {Rd : List (Nat × (AHeap → Bool))} {fr : AFrame} {H : AHeap} {K : AFrame → AHeap → Prop} {g : Option (Nat × Bool)} {b : Nat} {pre : Bool}
theorem WpE.grow {d : Option Nat} {e : TypeId} {x y : ROpd} {p q : AVal} {sz m k bytes : Nat} {cs new : List AVal} (hw : ROper.wanted fr ⟨d, .append e sz bytes x y, g⟩ = true) (hx : x.ev fr = p) (hy : y.ev fr = q) [h : OwnS H p sz m cs e] [hq : SliceAt H q sz k new] (hsz : 0 < sz) (hb : 0 < bytes) (hk : 0 < k) (hroom : 2 * (m + k) * bytes ≤ 2 ^ 48) (hone : new.all AVal.one = true)
    (hK : ∀ p' H', OwnS H' p' sz (m + k) (cs ++ new) e → FreshS H p' → ExtP H H' p → AllR b H' Rd ∧ WpE call (n + 1) ref its H0 ((n, H) :: E) Rd (put fr d p') H' K) : WpE call n ref (⟨⟨d, .append e sz bytes x y, g⟩, b, 2, pre⟩ :: its) H0 E Rd fr H K := by
  obtain ⟨p', H1, h1, h2, h3, h4⟩ := WpX.grow (call := call) (K := fun v H1 => OwnS H1 v sz (m + k) (cs ++ new) e ∧ FreshS H v ∧ ExtP H H1 p) hx hy hsz hb hk hroom hone fun p' H' q1 q2 q3 => ⟨q1, q2, q3⟩
  obtain ⟨h5, h6⟩ := hK p' H1 h2 h3 h4
  exact WpE.effect hw h1 h5 h6
end
theorem exec_idxO {call : ACall} {fr : AFrame} {H : AHeap} {x i : ROpd} {p : AVal} {sz n a o : Nat} {cs : List AVal} {k : IntKind} (hx : x.ev fr = p) (hi : i.ev fr = .int k (a : Int)) (s : SliceAt H p sz n cs) (h0 : a < n) (ho : offOf p + a * sz = o) : (ROp.idxS sz x i).exec call fr H = some (.ptr (rowOf p) o, H) := by
  subst ho
  rw [exec_idxP hx hi (s := s) (by omega), Int.toNat_natCast]
end Go.Am

namespace Go.Am
open Go
def fwdF (P : Nat → Nat → Int) (q : Nat → Nat) : Nat → Int
  | 0 => 0
  | k + 1 => fwdF P q k + P k (q k) + (if 0 < k then chg (q (k - 1)) (q k) else 0)
theorem fwd_cost {P : Nat → Nat → Int} {w : Nat} {q : Nat → Nat} : ∀ d, d < w → fwdF P q (w - 1 - d) + (if 0 < w - 1 - d then chg (q (w - 1 - d - 1)) (q (w - 1 - d)) else 0) + costF P w q d = fwdF P q w
  | 0, hd => by
    obtain ⟨k, rfl⟩ : ∃ k, w = k + 1 := ⟨w - 1, by omega⟩
    simp only [fwdF, costF, Nat.add_sub_cancel, Nat.sub_zero]
    omega
  | d + 1, hd => by
    have ih := fwd_cost (P := P) (w := w) (q := q) d (by omega)
    obtain ⟨k, hk⟩ : ∃ k, w - 1 - (d + 1) = k := ⟨_, rfl⟩
    have e1 : w - 1 - d = k + 1 := by omega
    rw [e1] at ih
    simp only [costF]
    rw [hk, e1]
    rw [if_pos (Nat.succ_pos k), Nat.add_sub_cancel] at ih
    simp only [fwdF] at ih
    omega
theorem fwd_all {P : Nat → Nat → Int} {w : Nat} {q : Nat → Nat} (hw : 0 < w) : fwdF P q w = costF P w q (w - 1) := by
  have := fwd_cost (P := P) (w := w) (q := q) (w - 1) (by omega)
  rw [Nat.sub_self, if_neg (by omega)] at this
  simp only [fwdF] at this
  omega
theorem fwd_bd {P : Nat → Nat → Int} {q : Nat → Nat} (hP : ∀ x y, 0 ≤ P x y ∧ P x y ≤ 2) : ∀ k, 0 ≤ fwdF P q k ∧ fwdF P q k ≤ 3 * (k : Int)
  | 0 => by simp [fwdF]
  | k + 1 => by
    have h1 := fwd_bd (q := q) hP k
    have h2 := hP k (q k)
    have h3 : 0 ≤ (if 0 < k then chg (q (k - 1)) (q k) else 0) ∧ (if 0 < k then chg (q (k - 1)) (q k) else 0) ≤ 1 := by
      unfold chg
      split
      · split <;> omega
      · omega
    simp only [fwdF]
    omega
theorem prB_bd (l : List UInt8) (i : Nat) : 0 ≤ prB l i ∧ prB l i ≤ 2 := by unfold prB; split <;> omega
theorem no_cross {w h : Nat} {p q : Nat → Nat} (hp : PathF w h p) (hq : PathF w h q) (hn : ∀ x, x < w → ¬ near p x (q x)) (h0 : p 0 < q 0) : ∀ x, x < w → p x + 3 ≤ q x
  | 0, hx => by have := hn 0 hx; unfold near at this; omega
  | x + 1, hx => by
    have ih := no_cross hp hq hn h0 x (by omega)
    have h1 := hp.near x hx
    have h2 := hq.near x hx
    have h3 := hn (x + 1) hx
    unfold near at h3
    omega
theorem TrI.apart2 {l : List UInt8} {w h : Nat} {qs : List (Nat → Nat)} {P : List Int} (hI : TrI l w h qs P) {i j : Nat} (hi : i < qs.length) (hj : j < qs.length) (hne : i ≠ j) {x : Nat} (hx : x < w) : ¬ near qs[i] x (qs[j] x) := by
  rcases Nat.lt_or_gt_of_ne hne with h1 | h1
  · exact hI.apart i j hi hj x hx h1
  · have := hI.apart j i hj hi x hx h1
    unfold near at *
    omega
theorem TrD.lines {l : List UInt8} {w h : Nat} {qs' : List (Nat → Nat)} (hw : 0 < w) (hw640 : w ≤ 640) (hh : 0 < h) (hD : TrD l w h qs') : (∀ i (hi : i < qs'.length), PathF w h qs'[i] ∧ 8 * costF (fun x y => prB l (y * w + x)) w qs'[i] (w - 1) ≤ (w : Int)) ∧ ∀ i j (hi : i < qs'.length) (hj : j < qs'.length), i < j → ∀ x, x < w → qs'[i] x + 3 ≤ qs'[j] x := by
  obtain ⟨qs, P, hT, hE, hl, h1, h2, h3⟩ := hD.it
  have hI := tr_inv hw hw640 hh hT
  have a1 : ∀ i (hi : i < qs'.length), PathF w h qs'[i] ∧ 8 * costF (fun x y => prB l (y * w + x)) w qs'[i] (w - 1) ≤ (w : Int) := fun i hi => by
    obtain ⟨j, hj, e⟩ := h1 i hi
    rw [e]
    obtain ⟨m, m1, m2⟩ := hI.cheap j hj
    exact ⟨hI.path j hj, by rw [m2]; exact m1⟩
  refine ⟨a1, fun i j hi hj hij x hx => ?_⟩
  refine no_cross (a1 i hi).1 (a1 j hj).1 (fun t ht => ?_) (h3 i j hi hj hij) x hx
  obtain ⟨i2, hi2, e1⟩ := h1 i hi
  obtain ⟨j2, hj2, e2⟩ := h1 j hj
  have hne : i2 ≠ j2 := fun e => by
    subst e
    have := h3 i j hi hj hij
    rw [e1, e2] at this; omega
  rw [e1, e2]
  exact hI.apart2 hi2 hj2 hne ht
theorem TrR.first {l : List UInt8} {w h : Nat} {qs : List (Nat → Nat)} {P : List Int} (hw : 0 < w) (hw640 : w ≤ 640) (hh : 0 < h) (hT : TrR l w h qs P) {p : Nat → Nat} (hp : PathF w h p) : (qs = [] → P = surL l w h) ∧ ∀ (h0 : 0 < qs.length), costF (fun x y => prB l (y * w + x)) w qs[0] (w - 1) ≤ costF (fun x y => prB l (y * w + x)) w p (w - 1) := by
  induction hT with
  | nil => exact ⟨fun _ => rfl, fun h0 => by cases h0⟩
  | @snoc qs P y0 hT0 hl hm hy hr hf ih =>
    refine ⟨fun e => by simp at e, fun h0 => ?_⟩
    by_cases hq : 0 < qs.length
    · rw [List.getElem_append_left hq]; exact ih.2 hq
    · have hq0 : qs = [] := List.eq_nil_of_length_eq_zero (by omega)
      subst hq0
      have hP0 := ih.1 rfl
      subst hP0
      have hI := tr_inv hw hw640 hh hT0
      have hP := hI.pos.pos h
      simp only [List.nil_append, List.getElem_cons_zero]
      have hlt : restF (priF (surL l w h) h) w h (w - 1) y0 < 1920 := by rw [hr]; omega
      have hpath := fol_path hP hh hy hlt
      have hcost := fol_cost hP hh hy hlt (w - 1) (by omega)
      rw [Nat.sub_self] at hcost
      have hc0 : folF (priF (surL l w h) h) w h y0 0 = y0 := rfl
      rw [hc0, hr] at hcost
      have c1 : ∀ q : Nat → Nat, PathF w h q → costF (priF (surL l w h) h) w q (w - 1) = costF (fun x y => prB l (y * w + x)) w q (w - 1) := fun q hq => cost_congr (fun x hx => surL_at hx (hq.row x hx)) (w - 1) (by omega)
      rw [← c1 _ hpath, ← c1 _ hp, hcost]
      have h5 := rest_le (P := priF (surL l w h) h) hp (w - 1) (by omega)
      have h6 := least_le (P := surL l w h) hw (hp.row 0 hw)
      rw [Nat.sub_self] at h5
      omega
theorem TrD.least {l : List UInt8} {w h : Nat} {qs' : List (Nat → Nat)} (hw : 0 < w) (hw640 : w ≤ 640) (hh : 0 < h) (hh170 : h ≤ 170) (hD : TrD l w h qs') {p : Nat → Nat} (hp : PathF w h p) : (qs'.length = 0 → (w : Int) < 8 * costF (fun x y => prB l (y * w + x)) w p (w - 1)) ∧ (0 < qs'.length → ∃ i, ∃ (hi : i < qs'.length), costF (fun x y => prB l (y * w + x)) w qs'[i] (w - 1) ≤ costF (fun x y => prB l (y * w + x)) w p (w - 1)) := by
  obtain ⟨qs, P, hT, hE, hl, h1, h2, h3⟩ := hD.it
  have hI := tr_inv hw hw640 hh hT
  have hF := hT.first hw hw640 hh hp
  constructor
  · intro e
    have hq0 : qs = [] := List.eq_nil_of_length_eq_zero (by omega)
    have hP0 := hF.1 hq0
    subst hq0 hP0
    rcases hE with hE | hE
    · simp at hE
    · have c1 : costF (priF (surL l w h) h) w p (w - 1) = costF (fun x y => prB l (y * w + x)) w p (w - 1) := cost_congr (fun x hx => surL_at hx (hp.row x hx)) (w - 1) (by omega)
      have h5 := rest_le (P := priF (surL l w h) h) hp (w - 1) (by omega)
      have h6 := least_le (P := surL l w h) hw (hp.row 0 hw)
      rw [Nat.sub_self] at h5
      omega
  · intro e
    obtain ⟨i, hi, e2⟩ := h2 0 (by omega)
    exact ⟨i, hi, by rw [e2]; exact hF.2 (by omega)⟩
def LastI (H : AHeap) (p : AVal) (l : List Int) : Prop := OwnS H p 1 l.length (cellsI l) 3 ∨ ∃ r e, p = .slice r 0 l.length (some l.length) 1 ∧ HasRow H r (cellsI l) true e ∧ 0 < l.length
theorem LastI.ints {H : AHeap} {p : AVal} {l : List Int} (h : LastI H p l) : IntsI H p l := by
  rcases h with h | ⟨r, e, rfl, h2, h3⟩
  · exact h.sl
  · exact ⟨Or.inr ⟨r, 0, some l.length, cellsI l, true, e, rfl, h2.lt, h2.get, by rw [cellsI_length]; omega, by rw [List.drop_zero, Nat.mul_one, ← cellsI_length l, List.take_length], Nat.le_refl _⟩⟩
theorem LastI.ext {H H' : AHeap} {p : AVal} {l : List Int} (h : LastI H p l) (x : Ext H H') : LastI H' p l := by
  haveI : ExtI H H' := ⟨x⟩
  rcases h with h | ⟨r, e, rfl, h2, h3⟩
  · exact Or.inl inferInstance
  · exact Or.inr ⟨r, e, rfl, inferInstance, h3⟩
theorem exec_growC {H : AHeap} {q : AVal} {r n k bytes : Nat} {cs new : List AVal} {e e' : TypeId} {rw' : Bool} (hr : HasRow H r cs rw' e') (hl : cs.length = n) (hf : aLenOf q = some k ∧ aFirst 1 k q H = some (new, H)) (hnl : new.length = k) (hb : 0 < bytes) (hk : 0 < k) (hroom : 2 * (n + k) * bytes ≤ 2 ^ 48) (hone : new.all AVal.one = true) :
    ∃ p' H', aAppend e 1 bytes (.slice r 0 n (some n) 1) q H = some (p', H') ∧ OwnS H' p' 1 (n + k) (cs ++ new) e ∧ FreshS H p' ∧ Ext H H' := by
  have hk0 : ¬ k = 0 := by omega
  have hb0 : ¬ bytes = 0 := by omega
  refine ⟨.slice H.n 0 (n + k) none 1, H.push (.row (cs ++ new) true (2 * e)), ?_, ⟨Or.inr ⟨H.n, 2 * e, rfl, Nat.lt_succ_self _, push_get_eq, half_even _, by rw [List.length_append, hnl, hl, Nat.mul_one], by omega⟩⟩, ⟨fun _ _ _ _ _ q => by cases q; exact Nat.le_refl _⟩, (Ext.refl H).push _⟩
  have ha : aRow r H = some ((cs, rw'), H) := by simp only [aRow, if_pos hr.lt, hr.get]
  simp only [aAppend, hf.1]
  rw [bind_of hf.2]
  simp only [hone, hnl, Nat.mul_one, Bool.not_true, ne_eq, not_true, decide_false, hb0, Nat.one_ne_zero, Bool.or_false, Bool.false_eq_true, if_false]
  rw [bind_of ha]
  have h1 : ¬ (n + k ≤ n) := by omega
  have h2 : 0 + n ≤ cs.length ∧ 2 * (n + k) * bytes ≤ 2 ^ 48 := ⟨by omega, hroom⟩
  have h3 : ((cs.drop 0).take n) ++ new = cs ++ new := by rw [List.drop_zero, List.take_of_length_le (by omega)]
  simp only [hk0, if_false, if_neg h1, if_pos h2, h3, M.bind, aNew, M.pure]
section
variable {call : ACall} {its : List DItem} {H0 : AHeap} {n ref : Nat} {E : List (Nat × AHeap)} {Rd : List (Nat × (AHeap → Bool))} {fr : AFrame} {H : AHeap} {K : AFrame → AHeap → Prop} {g : Option (Nat × Bool)} {b : Nat} {pre : Bool}
theorem WpE.growL {d : Option Nat} {x y : ROpd} {p q : AVal} {l : List Int} {z : Int} (hw : ROper.wanted fr ⟨d, .append 3 1 8 x y, g⟩ = true) (hx : x.ev fr = p) (hy : y.ev fr = q) (h : LastI H p l) (hq : SliceAt H q 1 1 [.int .i64 z]) (hl : l.length ≤ 2 ^ 40)
    (hK : ∀ p' H', LastI H' p' (l ++ [z]) → FreshS H p' → OneV p' → ExtP H H' p → AllR b H' Rd ∧ WpE call (n + 1) ref its H0 ((n, H) :: E) Rd (put fr d p') H' K) : WpE call n ref (⟨⟨d, .append 3 1 8 x y, g⟩, b, 2, pre⟩ :: its) H0 E Rd fr H K := by
  have hap : cellsI l ++ [.int .i64 z] = cellsI (l ++ [z]) := by simp [cellsI]
  rcases h with h | ⟨r, e, rfl, h2, h3⟩
  · refine WpE.grow (k := 1) (new := [.int .i64 z]) (p := p) (q := q) (h := h) (hq := hq) hw hx hy (by decide) (by decide) (by decide) (by omega) rfl fun p' H' q1 q2 q3 => ?_
    rw [hap] at q1
    refine hK p' H' (Or.inl ?_) q2 q1.sl.one q3
    rw [List.length_append]; exact q1
  · obtain ⟨p', H1, h4, h5, h6, h7⟩ := exec_growC (e := 3) (bytes := 8) h2 (cellsI_length l) (aFirst_at hq) rfl (by decide) (by decide) (by omega) rfl
    rw [hap] at h5
    obtain ⟨h8, h9⟩ := hK p' H1 (Or.inl (by rw [List.length_append]; exact h5)) h6 h5.sl.one ⟨h7.n, fun s hs _ => h7.get s hs⟩
    exact WpE.effect hw (by simp only [ROp.exec, hx, hy]; exact h4) h8 h9
end
end Go.Am

namespace Go.Am
open Go
attribute [local irreducible] Wp WpO WpX WpE
theorem StvR.lines {H : AHeap} {sp : AVal} {ls : List (List Int)} {B : Nat} (h : StvR H sp ls B) : LinesI H sp ls := by
 obtain ⟨r, ps, e, h1, h2, h3, h4, h5, h6⟩ := h.it
 refine ⟨ps, ?_, ⟨fun i hi => ?_⟩⟩
 ·rw [h1]
  exact ⟨Or.inr ⟨r, 0, none, ps, true, e, rfl, h2.lt, h2.get, by omega, by rw [List.drop_zero, Nat.mul_one, ← h4, List.take_length], Nat.le_refl _⟩⟩
 ·obtain ⟨rj, a1, a2, a3⟩ := h6 i hi
  exact ⟨_, a1, row_ints a2 rfl⟩
theorem StvR.lo {H : AHeap} {sp : AVal} {ls : List (List Int)} {B : Nat} (h : StvR H sp ls B) : ∀ r off len cap sz, sp = .slice r off len cap sz → B ≤ r := by
 obtain ⟨r, ps, e, h1, h2, h3, h4, h5, h6⟩ := h.it
 intro r' off len cap sz e'
 rw [h1] at e'; cases e'; exact h5
end Go.Am

namespace Go.Am
open Go
attribute [local irreducible] Wp WpO WpX WpE
end Go.Am

namespace Go.Am
open Go
attribute [local irreducible] Wp WpO WpX WpE
end Go.Am

namespace Go.Am
open Go
attribute [local irreducible] Wp WpO WpX WpE
theorem exec_rem {call : ACall} {fr : AFrame} {H : AHeap} {x y : ROpd} {k : IntKind} {a b : Int} (hx : x.ev fr = .int k a) (hy : y.ev fr = .int k b) (hb : b ≠ 0) : (ROp.bin .rem x y).exec call fr H = some (.int k (a.tmod b), H) := by
 simp only [ROp.exec, hx, hy, aBin, intBin, if_neg hb, ne_eq, not_true, if_false, M.ofOption, M.pure]
end Go.Am

namespace Go.Am
open Go
attribute [local irreducible] Wp WpO WpX WpE
theorem pathB_line {w h : Nat} {q : Nat → Nat} (hw0 : 0 < w) (hq : PathF w h q) : pathB w h (lineQ w q) = true := by
 have hl := lineQ_len w q
 have h1 : okTo h (lineQ w q) (lineQ w q).length = true := by
  rw [hl]
  refine List.all_eq_true.2 fun x hx => ?_
  have hx := List.mem_range.1 hx
  have h2 := hq.row x hx
  unfold okAt
  rw [lineQ_at hx]
  have d1 : decide (0 ≤ (q x : Int)) = true := decide_eq_true (by omega)
  have d2 : decide ((q x : Int) < (h : Int)) = true := decide_eq_true (by omega)
  rw [d1, d2]
  cases x with
  | zero => rfl
  | succ x =>
   have h3 := hq.near x hx
   rw [Nat.add_sub_cancel, lineQ_at (by omega)]
   have d3 : decide ((q x : Int) - 1 ≤ (q (x + 1) : Int)) = true := decide_eq_true (by omega)
   have d4 : decide ((q (x + 1) : Int) ≤ (q x : Int) + 1) = true := decide_eq_true (by omega)
   rw [d3, d4]
   simp
 unfold pathB
 rw [h1, hl]
 have e1 : (w != 0) = true := by simp; omega
 rw [e1]
 simp
class LtF (x w : Nat) : Prop where
 out : x < w
abbrev prF (l : List UInt8) (w x y : Nat) : Int := prB l (y * w + x)
theorem K_CostOk {w h : Nat} {p pq : AVal} {H : AHeap} {l : List UInt8} {q : Nat → Nat} [hp : BytesI H p l] (hq : IntsI H pq (lineQ w q)) (ok : Ok w h l) (hw0 : 0 < w) (hpath : PathF w h q) : Con ext prog 5 15 [.agg [.int .i64 (w : Int), .int .i64 (h : Int), p], pq] H fun v H' => v = .tuple [.int .i64 (costF (prF l w) w q (w - 1)), .int .i64 0] ∧ Ext H H' := by
 refine con_of (show prog 15 = some c15 from rfl) rfl rfl fun n hn => ?_
 haveI := hp.one
 haveI := hq
 haveI := hq.one
 have he := ok.err
 have hw := ok.wa
 have hh := ok.hb
 haveI : Side w := ⟨hw⟩
 haveI : Side h := ⟨hh⟩
 have hpb := pathB_line hw0 hpath
 have hll := lineQ_len w q
 haveI hpr : ∀ (x : Nat) [LtF x w] (H : AHeap) [BytesI H p l], PureCon ext prog 52 [.agg [.int .i64 (w : Int), .int .i64 (h : Int), p], .int .i64 (x : Int), .int .i64 (q x : Int)] H 1 (.int .i64 (prB l (q x * w + x))) := fun x hx H hb => ⟨K_price hb hw hh ok.len hx.out (hpath.row x hx.out)⟩
 have hbd := fwd_bd (P := prF l w) (q := q) (fun x y => prB_bd l (y * w + x))
 repeat first
  | refine mI ?_
  | (refine mv ?_)
  | (refine Fo.ldN rfl rfl (by simp only [↓nrmL, nrmZ, Nat.reduceEqDiff, ↓reduceIte, Nat.reduceAdd, Int.reduceBEq, Int.reduceBNe, he, hpb]; rfl) ?_)
  | (refine bn rfl rfl rfl (by simp only [↓nrmL, nrmZ, Nat.reduceEqDiff, ↓reduceIte, Nat.reduceAdd, Int.reduceBEq, Int.reduceBNe, he, hpb]; rfl) ?_)
  | (refine Fo.pcall (v' := ?_) hn rfl (by simp only [↓nrmL, nrmZ, Nat.reduceEqDiff, ↓reduceIte, Nat.reduceAdd, Int.reduceBEq, Int.reduceBNe, he, hpb, List.map]; rfl) rfl ?hv fun _ _ => ?_; case hv => (simp only [he, hpb]; rfl))
  | (refine ln (by simp only [↓nrmL, nrmK, Nat.reduceEqDiff, ↓reduceIte]; rfl) ?_)
  | refine bA ?_
  | (refine Fo.now rfl rfl (by simp only [↓nrmL, nrmZ, Nat.reduceEqDiff, ↓reduceIte, Nat.reduceAdd, Int.reduceBEq, Int.reduceBNe, he, hpb]; rfl) ?_)
  | refine nl hKF ?_
  | refine sq ?_
  | refine rg fun KF hKF => ?_
  | refine cf rfl ?_
  | refine sk ?_
  | refine Wp.block ?_
  | dsimp only [cond_true, cond_false]
 refine Wp.loopS [7, 8, 9, 21, 22, 23, 24, 25, 26, 27, 28, 29, 30, 31, 32, 33, 34, 35, 36, 37, 38, 39, 40, 41, 42, 43] (fun x : Nat => [(21, .int .i64 (x : Int)), (7, .int .i64 (fwdF (prF l w) q x))]) (fun H3 x H2 => x ≤ w ∧ Ext0 H3 H2) (fun x => w - x) 0 rfl (fun _ => rfl) ⟨rfl, rfl, trivial⟩ ⟨Nat.zero_le _, inferInstance⟩ (by unfold fuel0 at hn; omega) ?_
 rintro x g H2 ⟨hx, ⟨hxx⟩⟩
 haveI : ExtI _ H2 := ⟨hxx⟩
 simp only [↓nrmL, nrmZ, Nat.reduceEqDiff, ↓reduceIte, Nat.reduceAdd, Int.reduceBEq, Int.reduceBNe]
 cases hc : decide ((x : Int) < ((lineQ w q).length : Int))
 ·have hxe : x = w := by have := of_decide_eq_false hc; omega
  repeat first
   | refine mI ?_
   | (refine bn rfl rfl rfl (by simp only [hc]; rfl) ?_)
   | refine nl hKF ?_
   | refine sq ?_
   | refine rg fun KF hKF => ?_
   | refine cf rfl ?_
   | refine rt ?_
   | refine xi ?_
   | dsimp only [cond_true, cond_false]
  refine rz trivial ?_
  exact ⟨by rw [hxe, fwd_all hw0]; rfl, Ext0.ext⟩
 have hxl : x < w := by have := of_decide_eq_true hc; omega
 haveI : LtF x w := ⟨hxl⟩
 have hxq : x < (lineQ w q).length := by omega
 have gx : (lineQ w q)[x] = (q x : Int) := by rw [← getD_at hxq]; exact lineQ_at hxl
 have hwx := wa1 (a := x) (by omega)
 have b1 := hbd x
 have b2 := prB_bd l (q x * w + x)
 have w1 : IntKind.i64.wrap (fwdF (prF l w) q x + prB l (q x * w + x)) = fwdF (prF l w) q x + prB l (q x * w + x) := w64 (by omega)
 cases hc2 : decide ((x : Int) > 0)
 ·have hx0 : ¬ 0 < x := by have := of_decide_eq_false hc2; omega
  have e1 : fwdF (prF l w) q (x + 1) = fwdF (prF l w) q x + prB l (q x * w + x) := by simp only [fwdF]; rw [if_neg hx0]; unfold prF; omega
  repeat first
   | refine mI ?_
   | (refine Fo.ldN rfl rfl (by simp only [↓nrmL, nrmZ, Nat.reduceEqDiff, ↓reduceIte, Nat.reduceAdd, Int.reduceBEq, Int.reduceBNe, hc, gx, w1, hc2, hwx]; rfl) ?_)
   | (refine bn rfl rfl rfl (by simp only [hc, gx, w1, hc2, hwx]; rfl) ?_)
   | (refine Fo.pcall (v' := ?_) hn rfl (by simp only [↓nrmL, nrmZ, Nat.reduceEqDiff, ↓reduceIte, Nat.reduceAdd, Int.reduceBEq, Int.reduceBNe, hc, gx, w1, hc2, hwx, List.map]; rfl) rfl ?hv fun _ _ => ?_; case hv => rfl)
   | (refine Fo.idx (by simp only [↓nrmL, nrmK, Nat.reduceEqDiff, ↓reduceIte]; rfl) rfl ?_ (by simp only [↓nrmL, nrmZ, Nat.reduceEqDiff, ↓reduceIte, Nat.reduceAdd, Int.reduceBEq, Int.reduceBNe, hc, gx, w1, hc2, hwx]; rfl) ?_; (focus omega))
   | (refine Fo.ldI rfl ?_ (by simp only [hc, gx, w1, hc2, hwx]; rfl) ?_; (focus omega))
   | refine nl hKF ?_
   | refine sq ?_
   | refine rg fun KF hKF => ?_
   | refine ct rfl ?_
   | refine cf rfl ?_
   | refine sk ?_
   | refine Wp.block ?_
   | dsimp only [cond_true, cond_false]
  exact ⟨x + 1, by omega, ⟨rfl, by rw [e1]; rfl, trivial⟩, by omega, inferInstance⟩
 have hx0 : 0 < x := by have := of_decide_eq_true hc2; omega
 obtain ⟨x0, rfl⟩ : ∃ x0, x = x0 + 1 := ⟨x - 1, by omega⟩
 have e1 : fwdF (prF l w) q (x0 + 1 + 1) = fwdF (prF l w) q (x0 + 1) + prB l (q (x0 + 1) * w + (x0 + 1)) + chg (q x0) (q (x0 + 1)) := by
  conv => lhs; unfold fwdF
  rw [if_pos hx0, Nat.add_sub_cancel]
 have hxq0 : x0 < (lineQ w q).length := by omega
 have g0 : (lineQ w q)[x0] = (q x0 : Int) := by rw [← getD_at hxq0]; exact lineQ_at (by omega)
 have hs1 : IntKind.i64.wrap (((x0 + 1 : Nat) : Int) - 1) = (x0 : Int) := by rw [w64 (by omega)]; omega
 have b3 : 0 ≤ chg (q x0) (q (x0 + 1)) ∧ chg (q x0) (q (x0 + 1)) ≤ 1 := by unfold chg; split <;> omega
 have w2 : IntKind.i64.wrap (fwdF (prF l w) q (x0 + 1) + prB l (q (x0 + 1) * w + (x0 + 1)) + chg (q x0) (q (x0 + 1))) = fwdF (prF l w) q (x0 + 1 + 1) := by rw [w64 (by omega), e1]
 repeat first
  | refine mI ?_
  | (refine mv ?_)
  | (refine Fo.ldN rfl rfl (by simp only [↓nrmL, nrmZ, Nat.reduceEqDiff, ↓reduceIte, Nat.reduceAdd, Int.reduceBEq, Int.reduceBNe, hc, gx, w1, hc2, g0, hs1, w2, hwx]; rfl) ?_)
  | (refine bn rfl rfl rfl (by simp only [hc, gx, w1, hc2, g0, hs1, w2, hwx]; rfl) ?_)
  | (refine Fo.pcall (v' := ?_) hn rfl (by simp only [↓nrmL, nrmZ, Nat.reduceEqDiff, ↓reduceIte, Nat.reduceAdd, Int.reduceBEq, Int.reduceBNe, hc, gx, w1, hc2, g0, hs1, w2, hwx, List.map]; rfl) rfl ?hv fun _ _ => ?_; case hv => rfl)
  | (refine Fo.idx (by simp only [↓nrmL, nrmK, Nat.reduceEqDiff, ↓reduceIte]; rfl) rfl ?_ (by simp only [↓nrmL, nrmZ, Nat.reduceEqDiff, ↓reduceIte, Nat.reduceAdd, Int.reduceBEq, Int.reduceBNe, hc, gx, w1, hc2, g0, hs1, w2, hwx]; rfl) ?_; (focus omega))
  | (refine Fo.ldI rfl ?_ (by simp only [hc, gx, w1, hc2, g0, hs1, w2, hwx]; rfl) ?_; (focus omega))
  | refine nl hKF ?_
  | refine sq ?_
  | refine rg fun KF hKF => ?_
  | refine ct rfl ?_
  | refine sk ?_
  | refine Wp.block ?_
  | dsimp only [cond_true, cond_false]
 exact ⟨x0 + 1 + 1, by omega, ⟨rfl, rfl, trivial⟩, by omega, inferInstance⟩
theorem bits3 (z : Int) : ∃ k : Nat, k < 4 ∧ Go.bits .and .u8 z 3 = (k : Int) := by
 refine ⟨(BitVec.ofInt 8 z &&& 3#8).toNat, ?_, ?_⟩
 ·rw [BitVec.toNat_and]
  have : (BitVec.ofInt 8 z).toNat &&& (3#8).toNat ≤ (3#8).toNat := Nat.and_le_right
  have e : (3#8).toNat = 3 := rfl
  omega
 ·show IntKind.u8.wrap ((BitVec.ofInt 8 z &&& BitVec.ofInt 8 3).toNat : Int) = _
  exact wrap_u8 (by
   have h1 := (BitVec.ofInt 8 z &&& BitVec.ofInt 8 3).isLt
   omega)
theorem K_TraceNone {w h : Nat} {p : AVal} {H : AHeap} {l : List UInt8} [hp : BytesI H p l] (ok : Ok w h l) (h0 : w = 0 ∨ h = 0) : Con ext prog 5 18 [.agg [.int .i64 (w : Int), .int .i64 (h : Int), p]] H fun v H' => v = .tuple [.nslice, .int .i64 0] ∧ Ext H H' := by
 refine con_of (show prog 18 = some c18 from rfl) rfl rfl fun n hn => ?_
 haveI := hp.one
 have he := ok.err
 have hl := ok.len
 have hl0 : (((l.length : Nat) : Int) == 0) = true := by rcases h0 with rfl | rfl <;> simp [hl]
 repeat first
  | refine mI ?_
  | refine mN ?_
  | refine fd ?_
  | refine Fo.ld rfl rfl ?_
  | (refine Fo.ldN rfl rfl (by simp only [↓nrmL, nrmZ, Nat.reduceEqDiff, ↓reduceIte, Nat.reduceAdd, Int.reduceBEq, Int.reduceBNe, he, hl0]; rfl) ?_)
  | (refine bn rfl rfl rfl (by simp only [he, hl0]; rfl) ?_)
  | (refine bn rfl rfl rfl (by simp only [↓nrmL, nrmZ, Nat.reduceEqDiff, ↓reduceIte, Nat.reduceAdd, Int.reduceBEq, Int.reduceBNe, he, hl0]; rfl) ?_)
  | (refine Fo.pcall (v' := ?_) hn rfl (by simp only [↓nrmL, nrmZ, Nat.reduceEqDiff, ↓reduceIte, Nat.reduceAdd, Int.reduceBEq, Int.reduceBNe, he, hl0, List.map]; rfl) rfl ?hv fun _ _ => ?_; case hv => (simp only [he, hl0]; rfl))
  | (refine ln (by simp only [↓nrmL, nrmK, Nat.reduceEqDiff, ↓reduceIte]; rfl) ?_)
  | refine bA ?_
  | refine nl hKF ?_
  | refine sq ?_
  | refine rg fun KF hKF => ?_
  | refine ct rfl ?_
  | refine cf rfl ?_
  | refine sk ?_
  | refine rt ?_
  | dsimp only [cond_true, cond_false]
 refine rz trivial ?_
 exact ⟨rfl, Ext0.ext⟩
end Go.Am

namespace Go.Am
open Go
section
variable {call : ACall} {fr : AFrame} {H : AHeap} {K : AVal → AHeap → Prop}
end
end Go.Am

namespace Go.Am
open Go
attribute [local irreducible] Wp WpO WpX WpE
theorem lineQ_snoc {x y : Nat} {q : Nat → Nat} : lineQ x q ++ [(y : Int)] = lineQ (x + 1) (fun i => if i = x then y else q i) := by
 unfold lineQ
 rw [List.range_succ, List.map_append]
 congr 1
 ·apply List.map_congr_left
  intro i hi
  have := List.mem_range.1 hi
  dsimp only
  rw [if_neg (by omega)]
 ·simp
structure PreP (h x : Nat) (q : Nat → Nat) : Prop where
 row : ∀ i, i < x → q i < h
 near : ∀ i, i + 1 < x → q i ≤ q (i + 1) + 1 ∧ q (i + 1) ≤ q i + 1
theorem PreP.snoc {h x y : Nat} {q : Nat → Nat} (hq : PreP h (x + 1) q) (hy : y < h) (h1 : q x ≤ y + 1) (h2 : y ≤ q x + 1) : PreP h (x + 1 + 1) (fun i => if i = x + 1 then y else q i) := by
 refine ⟨fun i hi => ?_, fun i hi => ?_⟩
 ·split
  ·exact hy
  ·exact hq.row i (by omega)
 ·rw [if_neg (by omega)]
  by_cases e : i = x
  ·subst e; rw [if_pos rfl]; exact ⟨h1, h2⟩
  ·rw [if_neg (by omega)]; exact hq.near i (by omega)
theorem K_walk {w h : Nat} {p ps : AVal} {H : AHeap} {l steps : List UInt8} {c : UInt8} [hp : BytesI H p l] [hs : BytesI H ps steps] (hw : w ≤ 640) (hh : h ≤ 640) (hw0 : 0 < w) (hh0 : 0 < h) : Con ext prog 2 41 [.agg [.int .i64 (w : Int), .int .i64 (h : Int), p], .int .u8 (c.toNat : Int), ps] H fun v H' => ∃ q, PathF w h q ∧ IntsI H' v (lineQ w q) ∧ Ext H H' := by
 refine con_of (show prog 41 = some c41 from rfl) rfl rfl fun n hn => ?_
 haveI := hp.one
 haveI := hs.one
 have hc8 := c.toNat_lt
 have hbz : (h : Int) ≠ 0 := by omega
 obtain ⟨y0, hy0⟩ : ∃ y0, c.toNat % h = y0 := ⟨_, rfl⟩
 have hy0h : y0 < h := by rw [← hy0]; exact Nat.mod_lt _ hh0
 have q1 : (c.toNat : Int).tmod (h : Int) = (y0 : Int) := by
  have e : (c.toNat : Int).tmod (h : Int) = ((c.toNat % h : Nat) : Int) := rfl
  rw [e, hy0]
 have q0 : IntKind.i64.wrap (c.toNat : Int) = (c.toNat : Int) := w64 (by omega)
 repeat first
  | refine mI ?_
  | refine mN ?_
  | refine fd ?_
  | refine Fo.ld rfl rfl ?_
  | refine bA ?_
  | (refine Fo.now rfl rfl (by simp only [↓nrmL, nrmZ, Nat.reduceEqDiff, ↓reduceIte, Nat.reduceAdd, Int.reduceBEq, Int.reduceBNe, q0]; rfl) ?_)
  | refine nl hKF ?_
  | refine sq ?_
  | refine rg fun KF hKF => ?_
 refine Fo.now rfl (exec_rem rfl rfl hbz) (congrArg _ q1) ?_
 refine Fo.bslice rfl (by simp only [↓nrmL, nrmZ, Nat.reduceEqDiff, ↓reduceIte, Nat.reduceAdd, Int.reduceBEq, Int.reduceBNe]; rfl) ?_
 refine mv ?_
 refine nl hKF ?_
 refine sq ?_
 refine sq ?_
 refine rg fun KF hKF => ?_
 refine mI ?_
 refine nl hKF ?_
 refine Wp.block ?_
 dsimp only [cond_true, cond_false]
 obtain ⟨op0, hop0⟩ : ∃ v, AVal.slice (H.push (.row [.int .i64 (w : Int), .int .i64 (h : Int), p] true (2 * 24))).n 0 1 (some 1) 1 = v := ⟨_, rfl⟩
 refine Wp.loopS (σ := Nat × (Nat → Nat) × AVal) [7, 8, 9, 16, 17, 18, 19, 20, 21, 22, 23, 24, 25, 26, 27, 28, 29, 30, 31, 32, 33, 34, 35, 36, 37, 38, 39, 40, 41, 42, 43, 44, 45, 46, 47, 48, 49, 50, 51, 52, 53, 54, 55] (fun s => [(8, .int .i64 (s.1 : Int)), (7, s.2.2)]) (fun _ s H2 => 1 ≤ s.1 ∧ s.1 ≤ w ∧ PreP h s.1 s.2.1 ∧ LastI H2 s.2.2 (lineQ s.1 s.2.1) ∧ OneV s.2.2 ∧ HasRow H2 H.n [.int .i64 (w : Int), .int .i64 (h : Int), p] true (2 * 24) ∧ Ext H H2 ∧ (∀ r off len cap sz, s.2.2 = .slice r off len cap sz → H.n + 1 ≤ r)) (fun s => w - s.1) (1, fun _ => y0, op0) rfl (fun _ => rfl) ⟨rfl, by rw [← hop0]; rfl, trivial⟩ ⟨Nat.le_refl _, hw0, ⟨fun _ _ => hy0h, fun _ _ => by omega⟩, Or.inr ⟨(H.push (.row [.int .i64 (w : Int), .int .i64 (h : Int), p] true (2 * 24))).n, 2 * 3, by rw [← hop0]; rfl, inferInstance, by rw [lineQ_len]; exact Nat.one_pos⟩, by rw [← hop0]; exact inferInstance, inferInstance, Ext0.ext, fun r _ _ _ _ e => by rw [← hop0] at e; cases e; simp only [AHeap.push]; omega⟩ (by unfold fuel0 at hn; dsimp only; omega) ?_
 rintro ⟨x, q, op⟩ g H2 ⟨hx1, hxw, hP, hL, hone, kb, hxx, hfo⟩
 dsimp only at hx1 hxw hP hL hone hfo
 haveI := hone
 haveI := kb
 haveI : ExtI H H2 := ⟨hxx⟩
 simp only [↓nrmL, nrmZ, Nat.reduceEqDiff, ↓reduceIte, Nat.reduceAdd, Int.reduceBEq, Int.reduceBNe]
 cases hc : decide ((x : Int) < (w : Int))
 ·have hxe : x = w := by have := of_decide_eq_false hc; omega
  subst hxe
  repeat first
   | refine mI ?_
   | (refine mv ?_)
   | refine fd ?_
   | refine Fo.ld rfl rfl ?_
   | (refine bn rfl rfl rfl (by simp only [↓nrmL, nrmZ, Nat.reduceEqDiff, ↓reduceIte, Nat.reduceAdd, Int.reduceBEq, Int.reduceBNe, hc]; rfl) ?_)
   | refine nl hKF ?_
   | refine sq ?_
   | refine rg fun KF hKF => ?_
   | refine cf rfl ?_
   | refine rt ?_
   | refine xi ?_
   | dsimp only [cond_true, cond_false]
  refine rz trivial ?_
  exact ⟨q, ⟨hP.row, hP.near⟩, hL.ints, hxx⟩
 have hxl : x < w := by have := of_decide_eq_true hc; omega
 obtain ⟨x0, rfl⟩ : ∃ x0, x = x0 + 1 := ⟨x - 1, by omega⟩
 have hwx := wa1 (a := x0 + 1) (by omega)
 haveI hLi : IntsI H2 op (lineQ (x0 + 1) q) := hL.ints
 have hxq : x0 < (lineQ (x0 + 1) q).length := by rw [lineQ_len]; omega
 have hll := lineQ_len (x0 + 1) q
 have gx : (lineQ (x0 + 1) q)[x0] = (q x0 : Int) := by rw [← getD_at hxq]; exact lineQ_at (by omega)
 have hqx := hP.row x0 (by omega)
 have w3 : IntKind.i64.wrap (((x0 + 1 : Nat) : Int) - 1) = (x0 : Int) := by rw [w64 (by omega)]; omega
 have w4 : IntKind.i64.wrap ((h : Int) - 1) = ((h - 1 : Nat) : Int) := by rw [w64 (by omega)]; omega
 have t1 : IntKind.i64.wrap (((x0 + 1 : Nat) : Int).tdiv 4) = (((x0 + 1) / 4 : Nat) : Int) := by
  have e : ((x0 + 1 : Nat) : Int).tdiv 4 = (((x0 + 1) / 4 : Nat) : Int) := rfl
  rw [e]; exact w64 (by omega)
 cases hc2 : decide ((((x0 + 1) / 4 : Nat) : Int) < ((steps.length : Nat) : Int))
 ·have d0 : decide ((0 : Int) > 1) = false := rfl
  repeat first
   | refine mI ?_
   | (refine mv ?_)
   | refine fd ?_
   | refine Fo.ld rfl rfl ?_
   | (refine bn rfl rfl rfl (by simp only [↓nrmL, nrmZ, Nat.reduceEqDiff, ↓reduceIte, Nat.reduceAdd, Int.reduceBEq, Int.reduceBNe, hc, t1, hc2, d0]; rfl) ?_)
   | (refine ln (by simp only [↓nrmL, nrmK, Nat.reduceEqDiff, ↓reduceIte]; rfl) ?_)
   | refine nl hKF ?_
   | refine sq ?_
   | refine rg fun KF hKF => ?_
   | refine ct rfl ?_
   | refine cf rfl ?_
   | refine sk ?_
   | refine Wp.block ?_
   | dsimp only [cond_true, cond_false]
  obtain ⟨y1, hy1, hy1b⟩ : ∃ y1 : Nat, (if (0 : Int) > (q x0 : Int) + 0 then (0 : Int) else (q x0 : Int) + 0) = (y1 : Int) ∧ y1 ≤ q x0 + 1 ∧ q x0 ≤ y1 + 1 := ⟨((q x0 : Int) + 0).toNat, by split <;> omega, by omega, by omega⟩
  obtain ⟨y2, hy2, hy2b, hy2c⟩ : ∃ y2 : Nat, (if ((h - 1 : Nat) : Int) < (y1 : Int) then ((h - 1 : Nat) : Int) else (y1 : Int)) = (y2 : Int) ∧ y2 < h ∧ (y2 ≤ q x0 + 1 ∧ q x0 ≤ y2 + 1) := by
   by_cases e : ((h - 1 : Nat) : Int) < (y1 : Int)
   ·exact ⟨h - 1, by rw [if_pos e], by omega, by omega, by omega⟩
   ·exact ⟨y1, by rw [if_neg e], by omega, by omega, by omega⟩
  have w5 : IntKind.i64.wrap ((q x0 : Int) + 0) = (q x0 : Int) + 0 := w64 (by omega)
  refine Fr.dregionE [.row [.int .i64 (y2 : Int)] true (2 * 3)] ?_ fun KF hKF => ?_
  ·skip
   repeat first
    | (refine oracle_pre rfl rfl rfl rfl ?_; (try simp only [↓nrmL, nrmZ, Nat.reduceEqDiff, ↓reduceIte, Nat.reduceAdd, Int.reduceBEq, Int.reduceBNe, w3]))
   refine oracle_pre rfl rfl rfl (exec_idxO (p := op) (a := x0) (o := offOf op + x0) rfl rfl hLi (by omega) (by omega)) ?_
   skip
   refine oracle_pre rfl rfl rfl (exec_ldI (p := op) (j := x0) rfl hxq) ?_
   repeat first
    | exact oracle_none _ _ _ _ rfl
    | (refine oracle_pre rfl rfl rfl (exec_ld rfl rfl) ?_; (try simp only [↓nrmL, nrmZ, Nat.reduceEqDiff, ↓reduceIte, Nat.reduceAdd, Int.reduceBEq, Int.reduceBNe, gx, w5, hy1, w4, hy2]))
    | (refine oracle_pre rfl rfl rfl rfl ?_; (try simp only [↓nrmL, nrmZ, Nat.reduceEqDiff, ↓reduceIte, Nat.reduceAdd, Int.reduceBEq, Int.reduceBNe, gx, w5, hy1, w4, hy2]))
    | (refine oracle_made rfl rfl rfl ?_; (try simp only [↓nrmL, nrmZ, Nat.reduceEqDiff, ↓reduceIte, Nat.reduceAdd, Int.reduceBEq, Int.reduceBNe, gx, w5, hy1, w4, hy2]))
  simp only [pushAll]
  simp only [↓nrmL, nrmZ, Nat.reduceEqDiff, ↓reduceIte, Nat.reduceAdd, Int.reduceBEq, Int.reduceBNe, w3, gx, w5, hy1, w4, hy2]
  repeat first
   | (refine Er rfl (exec_ld rfl rfl) rfl ?_)
   | (refine Fe.pure rfl rfl (by simp only [↓nrmL, nrmZ, Nat.reduceEqDiff, ↓reduceIte, Nat.reduceAdd, Int.reduceBEq, Int.reduceBNe, w3, gx, w5, hy1, w4, hy2]; rfl) ?_)
   | (refine Em rfl rfl ghost_of rfl ?_)
   | (refine Fe.pure rfl (exec_idxP (by (try simp only [↓nrmL, nrmZ, Nat.reduceEqDiff, ↓reduceIte, Nat.reduceAdd, Int.reduceBEq, Int.reduceBNe, w3, gx, w5, hy1, w4, hy2]); rfl) rfl ?_) (by simp only [↓nrmL, nrmZ, Nat.reduceEqDiff, ↓reduceIte, Nat.reduceAdd, Int.reduceBEq, Int.reduceBNe, w3, gx, w5, hy1, w4, hy2]; rfl) ?_; (focus omega))
   | (refine Er rfl (exec_ldI rfl (by omega)) (by simp only [↓nrmL, nrmZ, Nat.reduceEqDiff, ↓reduceIte, Nat.reduceAdd, Int.reduceBEq, Int.reduceBNe, w3, gx, w5, hy1, w4, hy2]; rfl) ?_)
  refine WpE.growL (p := op) (q := .slice H2.n 0 1 (some 1) 1) (l := lineQ (x0 + 1) q) (z := (y2 : Int)) rfl rfl rfl (hL.ext ((Ext.refl H2).push _)) (row_one1 (inferInstance : HasRow _ H2.n [.int .i64 (y2 : Int)] true (2 * 3))) (by rw [lineQ_len]; omega) fun op' H5 hL5 hf5 ho5 hx5 => ar ?_
  haveI := ho5
  haveI := hx5
  refine Fe.pure rfl rfl (by simp only [↓nrmL, nrmZ, Nat.reduceEqDiff, ↓reduceIte, Nat.reduceAdd, Int.reduceBEq, Int.reduceBNe]; rfl) ?_
  refine WpE.nil (hKF _ _ ?_)
  simp only [hwx]
  refine rg fun KF hKF => ?_
  refine mI ?_
  refine bn rfl rfl rfl (by simp only [↓nrmL, nrmZ, Nat.reduceEqDiff, ↓reduceIte, Nat.reduceAdd, Int.reduceBEq, Int.reduceBNe, hwx]; rfl) ?_
  refine mI ?_
  refine nl hKF ?_
  dsimp only [cond_true, cond_false]
  have n5 := hx5.n
  simp only [AHeap.push] at n5
  have n2 := hxx.n
  have hopb : RowNe op H.n := ⟨fun r _ _ _ _ e => by have := hfo _ _ _ _ _ e; omega⟩
  refine ⟨(x0 + 1 + 1, fun i => if i = x0 + 1 then y2 else q i, op'), by dsimp only; omega, ⟨rfl, rfl, trivial⟩, by dsimp only; omega, by dsimp only; omega, hP.snoc hy2b (by omega) (by omega), by dsimp only; rw [← lineQ_snoc]; exact hL5, ho5, ⟨by have := kb.lt; omega, by rw [hx5.get H.n (by have := kb.lt; simp only [AHeap.push]; omega) hopb, push_get_lt kb.lt]; exact kb.get⟩, ⟨by omega, fun r hr => by rw [hx5.get r (by simp only [AHeap.push]; omega) ⟨fun r' _ _ _ _ e => by have := hfo _ _ _ _ _ e; omega⟩, push_get_lt (by omega), hxx.get r hr]⟩, fun r _ _ _ _ e => by have := hf5.ge _ _ _ _ _ e; simp only [AHeap.push] at this; omega⟩
 have hxs : (x0 + 1) / 4 < steps.length := by have := of_decide_eq_true hc2; omega
 have t2 : ((x0 + 1 : Nat) : Int).tmod 4 = (((x0 + 1) % 4 : Nat) : Int) := rfl
 have t3 : IntKind.i64.wrap (2 * (((x0 + 1) % 4 : Nat) : Int)) = ((2 * ((x0 + 1) % 4) : Nat) : Int) := by rw [w64 (by omega)]; omega
 obtain ⟨k, hk, ek⟩ := bits3 ((steps[(x0 + 1) / 4].toNat : Int).fdiv (2 ^ (min (2 * ((x0 + 1) % 4)) IntKind.u8.bits)))
 have w6 : IntKind.i64.wrap (k : Int) = (k : Int) := w64 (by omega)
 have w7 : IntKind.i64.wrap ((k : Int) - 1) = (k : Int) - 1 := w64 (by omega)
 cases hc3 : decide ((k : Int) - 1 > 1)
 ·have hk2 := of_decide_eq_false hc3
  repeat first
   | refine mI ?_
   | (refine mv ?_)
   | refine fd ?_
   | refine Fo.ld rfl rfl ?_
   | (refine bn rfl rfl rfl (by simp only [↓nrmL, nrmZ, Nat.reduceEqDiff, ↓reduceIte, Nat.reduceAdd, Int.reduceBEq, Int.reduceBNe, hc, t1, hc2, t2, t3, ek, w6, w7, hc3]; rfl) ?_)
   | (refine ln (by simp only [↓nrmL, nrmK, Nat.reduceEqDiff, ↓reduceIte]; rfl) ?_)
   | (refine Fo.idx (by simp only [↓nrmL, nrmK, Nat.reduceEqDiff, ↓reduceIte]; rfl) rfl ?_ (by simp only [↓nrmL, nrmZ, Nat.reduceEqDiff, ↓reduceIte, Nat.reduceAdd, Int.reduceBEq, Int.reduceBNe, hc, t1, hc2, t2, t3, ek, w6, w7, hc3]; rfl) ?_; (focus omega))
   | (refine Fo.ldB rfl ?_ rfl ?_; (focus omega))
   | (refine Fo.now rfl rfl (by simp only [↓nrmL, nrmZ, Nat.reduceEqDiff, ↓reduceIte, Nat.reduceAdd, Int.reduceBEq, Int.reduceBNe, hc, t1, hc2, t2, t3, ek, w6, w7, hc3]; rfl) ?_)
   | refine nl hKF ?_
   | refine sq ?_
   | refine rg fun KF hKF => ?_
   | refine ct rfl ?_
   | refine cf rfl ?_
   | refine sk ?_
   | refine Wp.block ?_
   | dsimp only [cond_true, cond_false]
  obtain ⟨y1, hy1, hy1b⟩ : ∃ y1 : Nat, (if (0 : Int) > (q x0 : Int) + ((k : Int) - 1) then (0 : Int) else (q x0 : Int) + ((k : Int) - 1)) = (y1 : Int) ∧ y1 ≤ q x0 + 1 ∧ q x0 ≤ y1 + 1 := ⟨((q x0 : Int) + ((k : Int) - 1)).toNat, by split <;> omega, by omega, by omega⟩
  obtain ⟨y2, hy2, hy2b, hy2c⟩ : ∃ y2 : Nat, (if ((h - 1 : Nat) : Int) < (y1 : Int) then ((h - 1 : Nat) : Int) else (y1 : Int)) = (y2 : Int) ∧ y2 < h ∧ (y2 ≤ q x0 + 1 ∧ q x0 ≤ y2 + 1) := by
   by_cases e : ((h - 1 : Nat) : Int) < (y1 : Int)
   ·exact ⟨h - 1, by rw [if_pos e], by omega, by omega, by omega⟩
   ·exact ⟨y1, by rw [if_neg e], by omega, by omega, by omega⟩
  have w5 : IntKind.i64.wrap ((q x0 : Int) + ((k : Int) - 1)) = (q x0 : Int) + ((k : Int) - 1) := w64 (by omega)
  refine Fr.dregionE [.row [.int .i64 (y2 : Int)] true (2 * 3)] ?_ fun KF hKF => ?_
  ·skip
   repeat first
    | (refine oracle_pre rfl rfl rfl rfl ?_; (try simp only [↓nrmL, nrmZ, Nat.reduceEqDiff, ↓reduceIte, Nat.reduceAdd, Int.reduceBEq, Int.reduceBNe, w3]))
   refine oracle_pre rfl rfl rfl (exec_idxO (p := op) (a := x0) (o := offOf op + x0) rfl rfl hLi (by omega) (by omega)) ?_
   skip
   refine oracle_pre rfl rfl rfl (exec_ldI (p := op) (j := x0) rfl hxq) ?_
   repeat first
    | exact oracle_none _ _ _ _ rfl
    | (refine oracle_pre rfl rfl rfl (exec_ld rfl rfl) ?_; (try simp only [↓nrmL, nrmZ, Nat.reduceEqDiff, ↓reduceIte, Nat.reduceAdd, Int.reduceBEq, Int.reduceBNe, gx, w5, hy1, w4, hy2]))
    | (refine oracle_pre rfl rfl rfl rfl ?_; (try simp only [↓nrmL, nrmZ, Nat.reduceEqDiff, ↓reduceIte, Nat.reduceAdd, Int.reduceBEq, Int.reduceBNe, gx, w5, hy1, w4, hy2]))
    | (refine oracle_made rfl rfl rfl ?_; (try simp only [↓nrmL, nrmZ, Nat.reduceEqDiff, ↓reduceIte, Nat.reduceAdd, Int.reduceBEq, Int.reduceBNe, gx, w5, hy1, w4, hy2]))
  simp only [pushAll]
  simp only [↓nrmL, nrmZ, Nat.reduceEqDiff, ↓reduceIte, Nat.reduceAdd, Int.reduceBEq, Int.reduceBNe, w3, gx, w5, hy1, w4, hy2]
  repeat first
   | (refine Er rfl (exec_ld rfl rfl) rfl ?_)
   | (refine Fe.pure rfl rfl (by simp only [↓nrmL, nrmZ, Nat.reduceEqDiff, ↓reduceIte, Nat.reduceAdd, Int.reduceBEq, Int.reduceBNe, w3, gx, w5, hy1, w4, hy2]; rfl) ?_)
   | (refine Em rfl rfl ghost_of rfl ?_)
   | (refine Fe.pure rfl (exec_idxP (by (try simp only [↓nrmL, nrmZ, Nat.reduceEqDiff, ↓reduceIte, Nat.reduceAdd, Int.reduceBEq, Int.reduceBNe, w3, gx, w5, hy1, w4, hy2]); rfl) rfl ?_) (by simp only [↓nrmL, nrmZ, Nat.reduceEqDiff, ↓reduceIte, Nat.reduceAdd, Int.reduceBEq, Int.reduceBNe, w3, gx, w5, hy1, w4, hy2]; rfl) ?_; (focus omega))
   | (refine Er rfl (exec_ldI rfl (by omega)) (by simp only [↓nrmL, nrmZ, Nat.reduceEqDiff, ↓reduceIte, Nat.reduceAdd, Int.reduceBEq, Int.reduceBNe, w3, gx, w5, hy1, w4, hy2]; rfl) ?_)
  refine WpE.growL (p := op) (q := .slice H2.n 0 1 (some 1) 1) (l := lineQ (x0 + 1) q) (z := (y2 : Int)) rfl rfl rfl (hL.ext ((Ext.refl H2).push _)) (row_one1 (inferInstance : HasRow _ H2.n [.int .i64 (y2 : Int)] true (2 * 3))) (by rw [lineQ_len]; omega) fun op' H5 hL5 hf5 ho5 hx5 => ar ?_
  haveI := ho5
  haveI := hx5
  refine Fe.pure rfl rfl (by simp only [↓nrmL, nrmZ, Nat.reduceEqDiff, ↓reduceIte, Nat.reduceAdd, Int.reduceBEq, Int.reduceBNe]; rfl) ?_
  refine WpE.nil (hKF _ _ ?_)
  simp only [hwx]
  refine rg fun KF hKF => ?_
  refine mI ?_
  refine bn rfl rfl rfl (by simp only [↓nrmL, nrmZ, Nat.reduceEqDiff, ↓reduceIte, Nat.reduceAdd, Int.reduceBEq, Int.reduceBNe, hwx]; rfl) ?_
  refine mI ?_
  refine nl hKF ?_
  dsimp only [cond_true, cond_false]
  have n5 := hx5.n
  simp only [AHeap.push] at n5
  have n2 := hxx.n
  have hopb : RowNe op H.n := ⟨fun r _ _ _ _ e => by have := hfo _ _ _ _ _ e; omega⟩
  refine ⟨(x0 + 1 + 1, fun i => if i = x0 + 1 then y2 else q i, op'), by dsimp only; omega, ⟨rfl, rfl, trivial⟩, by dsimp only; omega, by dsimp only; omega, hP.snoc hy2b (by omega) (by omega), by dsimp only; rw [← lineQ_snoc]; exact hL5, ho5, ⟨by have := kb.lt; omega, by rw [hx5.get H.n (by have := kb.lt; simp only [AHeap.push]; omega) hopb, push_get_lt kb.lt]; exact kb.get⟩, ⟨by omega, fun r hr => by rw [hx5.get r (by simp only [AHeap.push]; omega) ⟨fun r' _ _ _ _ e => by have := hfo _ _ _ _ _ e; omega⟩, push_get_lt (by omega), hxx.get r hr]⟩, fun r _ _ _ _ e => by have := hf5.ge _ _ _ _ _ e; simp only [AHeap.push] at this; omega⟩
 ·skip
  repeat first
   | refine mI ?_
   | (refine mv ?_)
   | refine fd ?_
   | refine Fo.ld rfl rfl ?_
   | (refine bn rfl rfl rfl (by simp only [↓nrmL, nrmZ, Nat.reduceEqDiff, ↓reduceIte, Nat.reduceAdd, Int.reduceBEq, Int.reduceBNe, hc, t1, hc2, t2, t3, ek, w6, w7, hc3]; rfl) ?_)
   | (refine ln (by simp only [↓nrmL, nrmK, Nat.reduceEqDiff, ↓reduceIte]; rfl) ?_)
   | (refine Fo.idx (by simp only [↓nrmL, nrmK, Nat.reduceEqDiff, ↓reduceIte]; rfl) rfl ?_ (by simp only [↓nrmL, nrmZ, Nat.reduceEqDiff, ↓reduceIte, Nat.reduceAdd, Int.reduceBEq, Int.reduceBNe, hc, t1, hc2, t2, t3, ek, w6, w7, hc3]; rfl) ?_; (focus omega))
   | (refine Fo.ldB rfl ?_ rfl ?_; (focus omega))
   | (refine Fo.now rfl rfl (by simp only [↓nrmL, nrmZ, Nat.reduceEqDiff, ↓reduceIte, Nat.reduceAdd, Int.reduceBEq, Int.reduceBNe, hc, t1, hc2, t2, t3, ek, w6, w7, hc3]; rfl) ?_)
   | refine nl hKF ?_
   | refine sq ?_
   | refine rg fun KF hKF => ?_
   | refine ct rfl ?_
   | refine sk ?_
   | refine Wp.block ?_
   | dsimp only [cond_true, cond_false]
  obtain ⟨y1, hy1, hy1b⟩ : ∃ y1 : Nat, (if (0 : Int) > (q x0 : Int) + 0 then (0 : Int) else (q x0 : Int) + 0) = (y1 : Int) ∧ y1 ≤ q x0 + 1 ∧ q x0 ≤ y1 + 1 := ⟨((q x0 : Int) + 0).toNat, by split <;> omega, by omega, by omega⟩
  obtain ⟨y2, hy2, hy2b, hy2c⟩ : ∃ y2 : Nat, (if ((h - 1 : Nat) : Int) < (y1 : Int) then ((h - 1 : Nat) : Int) else (y1 : Int)) = (y2 : Int) ∧ y2 < h ∧ (y2 ≤ q x0 + 1 ∧ q x0 ≤ y2 + 1) := by
   by_cases e : ((h - 1 : Nat) : Int) < (y1 : Int)
   ·exact ⟨h - 1, by rw [if_pos e], by omega, by omega, by omega⟩
   ·exact ⟨y1, by rw [if_neg e], by omega, by omega, by omega⟩
  have w5 : IntKind.i64.wrap ((q x0 : Int) + 0) = (q x0 : Int) + 0 := w64 (by omega)
  refine Fr.dregionE [.row [.int .i64 (y2 : Int)] true (2 * 3)] ?_ fun KF hKF => ?_
  ·skip
   repeat first
    | (refine oracle_pre rfl rfl rfl rfl ?_; (try simp only [↓nrmL, nrmZ, Nat.reduceEqDiff, ↓reduceIte, Nat.reduceAdd, Int.reduceBEq, Int.reduceBNe, w3]))
   refine oracle_pre rfl rfl rfl (exec_idxO (p := op) (a := x0) (o := offOf op + x0) rfl rfl hLi (by omega) (by omega)) ?_
   skip
   refine oracle_pre rfl rfl rfl (exec_ldI (p := op) (j := x0) rfl hxq) ?_
   repeat first
    | exact oracle_none _ _ _ _ rfl
    | (refine oracle_pre rfl rfl rfl (exec_ld rfl rfl) ?_; (try simp only [↓nrmL, nrmZ, Nat.reduceEqDiff, ↓reduceIte, Nat.reduceAdd, Int.reduceBEq, Int.reduceBNe, gx, w5, hy1, w4, hy2]))
    | (refine oracle_pre rfl rfl rfl rfl ?_; (try simp only [↓nrmL, nrmZ, Nat.reduceEqDiff, ↓reduceIte, Nat.reduceAdd, Int.reduceBEq, Int.reduceBNe, gx, w5, hy1, w4, hy2]))
    | (refine oracle_made rfl rfl rfl ?_; (try simp only [↓nrmL, nrmZ, Nat.reduceEqDiff, ↓reduceIte, Nat.reduceAdd, Int.reduceBEq, Int.reduceBNe, gx, w5, hy1, w4, hy2]))
  simp only [pushAll]
  simp only [↓nrmL, nrmZ, Nat.reduceEqDiff, ↓reduceIte, Nat.reduceAdd, Int.reduceBEq, Int.reduceBNe, w3, gx, w5, hy1, w4, hy2]
  repeat first
   | (refine Er rfl (exec_ld rfl rfl) rfl ?_)
   | (refine Fe.pure rfl rfl (by simp only [↓nrmL, nrmZ, Nat.reduceEqDiff, ↓reduceIte, Nat.reduceAdd, Int.reduceBEq, Int.reduceBNe, w3, gx, w5, hy1, w4, hy2]; rfl) ?_)
   | (refine Em rfl rfl ghost_of rfl ?_)
   | (refine Fe.pure rfl (exec_idxP (by (try simp only [↓nrmL, nrmZ, Nat.reduceEqDiff, ↓reduceIte, Nat.reduceAdd, Int.reduceBEq, Int.reduceBNe, w3, gx, w5, hy1, w4, hy2]); rfl) rfl ?_) (by simp only [↓nrmL, nrmZ, Nat.reduceEqDiff, ↓reduceIte, Nat.reduceAdd, Int.reduceBEq, Int.reduceBNe, w3, gx, w5, hy1, w4, hy2]; rfl) ?_; (focus omega))
   | (refine Er rfl (exec_ldI rfl (by omega)) (by simp only [↓nrmL, nrmZ, Nat.reduceEqDiff, ↓reduceIte, Nat.reduceAdd, Int.reduceBEq, Int.reduceBNe, w3, gx, w5, hy1, w4, hy2]; rfl) ?_)
  refine WpE.growL (p := op) (q := .slice H2.n 0 1 (some 1) 1) (l := lineQ (x0 + 1) q) (z := (y2 : Int)) rfl rfl rfl (hL.ext ((Ext.refl H2).push _)) (row_one1 (inferInstance : HasRow _ H2.n [.int .i64 (y2 : Int)] true (2 * 3))) (by rw [lineQ_len]; omega) fun op' H5 hL5 hf5 ho5 hx5 => ar ?_
  haveI := ho5
  haveI := hx5
  refine Fe.pure rfl rfl (by simp only [↓nrmL, nrmZ, Nat.reduceEqDiff, ↓reduceIte, Nat.reduceAdd, Int.reduceBEq, Int.reduceBNe]; rfl) ?_
  refine WpE.nil (hKF _ _ ?_)
  simp only [hwx]
  refine rg fun KF hKF => ?_
  refine mI ?_
  refine bn rfl rfl rfl (by simp only [↓nrmL, nrmZ, Nat.reduceEqDiff, ↓reduceIte, Nat.reduceAdd, Int.reduceBEq, Int.reduceBNe, hwx]; rfl) ?_
  refine mI ?_
  refine nl hKF ?_
  dsimp only [cond_true, cond_false]
  have n5 := hx5.n
  simp only [AHeap.push] at n5
  have n2 := hxx.n
  have hopb : RowNe op H.n := ⟨fun r _ _ _ _ e => by have := hfo _ _ _ _ _ e; omega⟩
  refine ⟨(x0 + 1 + 1, fun i => if i = x0 + 1 then y2 else q i, op'), by dsimp only; omega, ⟨rfl, rfl, trivial⟩, by dsimp only; omega, by dsimp only; omega, hP.snoc hy2b (by omega) (by omega), by dsimp only; rw [← lineQ_snoc]; exact hL5, ho5, ⟨by have := kb.lt; omega, by rw [hx5.get H.n (by have := kb.lt; simp only [AHeap.push]; omega) hopb, push_get_lt kb.lt]; exact kb.get⟩, ⟨by omega, fun r hr => by rw [hx5.get r (by simp only [AHeap.push]; omega) ⟨fun r' _ _ _ _ e => by have := hfo _ _ _ _ _ e; omega⟩, push_get_lt (by omega), hxx.get r hr]⟩, fun r _ _ _ _ e => by have := hf5.ge _ _ _ _ _ e; simp only [AHeap.push] at this; omega⟩
end Go.Am

namespace Go.Am
open Go
theorem Wp.cut {call : ACall} {lf : Nat} {fr : AFrame} {H : AHeap} {Q : RExit → AFrame → AHeap → Prop} {a : RCode} {σ : Type} (L : σ → List (Nat × AVal)) (PH : σ → AHeap → Prop) (h1 : ∀ s g H', PH s H' → Q .normal (updL (L s) g) H') (h2 : Wp call lf a fr H fun x fr' H' => match x with | .normal => ∃ s, agrees (L s) fr' ∧ PH s H' | e => Q e fr' H') : Wp call lf a fr H Q :=
  Wp.mono h2 fun x fr' H' h => by
    cases x with
    | normal =>
      obtain ⟨s, h3, h4⟩ := h
      have := h1 s fr' H' h4
      rwa [updL_agrees h3] at this
    | exit id => exact h
    | ret => exact h
end Go.Am

namespace Go.Am
open Go
attribute [local irreducible] Wp WpO WpX WpE
theorem K_StaveLeast {s : Nat} {c2 c3 : UInt8} {pb ps : AVal} {H : AHeap} {bits steps : List UInt8} [hpb : BytesI H pb bits] [hps : BytesI H ps steps] (hs : s < 65536) : Con ext prog 14 7 [.int .u16 (s : Int), pb, .int .u8 (c2.toNat : Int), .int .u8 (c3.toNat : Int), ps] H fun v H' => v = .bool true ∧ Ext H H' := by
 refine con_of (show prog 7 = some c7 from rfl) rfl rfl fun n hn => ?_
 haveI := hpb.one
 haveI := hps.one
 repeat first
  | refine mI ?_
  | refine mB ?_
  | (refine mv ?_)
  | refine nl hKF ?_
  | refine sq ?_
  | refine rg fun KF hKF => ?_
 refine WpO.do (WpX.conD hn rfl rfl (by simp only [↓nrmL, nrmZ, Nat.reduceEqDiff, ↓reduceIte, Nat.reduceAdd, Int.reduceBEq, Int.reduceBNe, List.map] <;> rfl) (K_Made (s := s) (p := pb) (bits := bits) hs) fun v H1 h5 => ?_)
 obtain ⟨a, b, l, ha, hb, ok, gp, rfl, hgp, hfr, hwr, hx1⟩ := h5
 dsimp only at hgp hwr
 haveI : ExtI H H1 := ⟨hx1⟩
 haveI := hgp
 haveI := hwr
 haveI := hfr
 haveI := hgp.one
 refine nw ?_
 refine so rfl (rfl : _ = AVal.agg _) rfl rfl rfl (by simp only [↓nrmL, nrmZ, Nat.reduceEqDiff, ↓reduceIte, Nat.reduceAdd, Int.reduceBEq, Int.reduceBNe]; rfl) ?_
 refine nl hKF ?_
 refine sq ?_
 refine sq ?_
 refine rg fun KF hKF => ?_
 refine fd ?_
 refine Fo.ld rfl rfl ?_
 refine b0 ?_
 refine mB ?_
 dsimp only [cond_true, cond_false]
 by_cases hz : a = 0 ∨ b = 0
 ·have key : ((a : Int) == 0) = true ∨ (((a : Int) == 0) = false ∧ ((b : Int) == 0) = true) := by
   by_cases e : a = 0
   ·subst e; exact Or.inl rfl
   ·rcases hz with h1 | h1
    ·exact absurd h1 e
    ·subst h1; exact Or.inr ⟨by simp [e], rfl⟩
  rcases key with e0 | ⟨e0, e1⟩
  ·skip
   simp only [e0]
   refine ox ?_
   refine ox ?_
   refine ox ?_
   refine tB ?_
   refine nl hKF ?_
   refine ct rfl ?_
   refine sq ?_
   refine rg fun KF hKF => ?_
   refine Fo.ldN rfl rfl (by simp only [↓nrmL, nrmZ, Nat.reduceEqDiff, ↓reduceIte, Nat.reduceAdd, Int.reduceBEq, Int.reduceBNe, e0]; rfl) ?_
   refine WpO.do (WpX.conD hn rfl rfl (by simp only [↓nrmL, nrmZ, Nat.reduceEqDiff, ↓reduceIte, Nat.reduceAdd, Int.reduceBEq, Int.reduceBNe, List.map] <;> rfl) (K_TraceNone (p := gp) (l := l) ok hz) fun v H3 h6 => ?_)
   obtain ⟨rfl, hx3⟩ := h6
   haveI : ExtI _ H3 := ⟨hx3⟩
   repeat first
    | refine oy ?_
    | refine mI ?_
    | refine mB ?_
    | refine mT ?_
    | refine mN ?_
    | (refine bn rfl rfl rfl (by simp only [↓nrmL, nrmZ, Nat.reduceEqDiff, ↓reduceIte, Nat.reduceAdd, Int.reduceBEq, Int.reduceBNe]; rfl) ?_)
    | refine b0 ?_
    | refine tB ?_
    | refine xt ?_
    | (refine Fo.pcall (v' := ?_) hn rfl (by simp only [↓nrmL, nrmZ, Nat.reduceEqDiff, ↓reduceIte, Nat.reduceAdd, Int.reduceBEq, Int.reduceBNe, List.map]; rfl) rfl ?hv fun _ _ => ?_; case hv => rfl)
    | (refine Fo.len (v := ?_) (rfl : _ = AVal.nslice) ?hv ?_; case hv => rfl)
    | refine nl hKF ?_
    | refine sq ?_
    | refine rg fun KF hKF => ?_
    | refine rt ?_
    | dsimp only [cond_true, cond_false]
   refine rz trivial ?_
   exact ⟨rfl, Ext0.ext⟩
  ·skip
   simp only [e0, e1]
   refine oy ?_
   refine fd ?_
   refine oy ?_
   refine Fo.ld rfl rfl ?_
   refine oy ?_
   refine bn rfl rfl rfl (by simp only [↓nrmL, nrmZ, Nat.reduceEqDiff, ↓reduceIte, Nat.reduceAdd, Int.reduceBEq, Int.reduceBNe, e0, e1]; rfl) ?_
   refine fB ?_
   refine nl hKF ?_
   refine ct rfl ?_
   refine sq ?_
   refine rg fun KF hKF => ?_
   refine Fo.ldN rfl rfl (by simp only [↓nrmL, nrmZ, Nat.reduceEqDiff, ↓reduceIte, Nat.reduceAdd, Int.reduceBEq, Int.reduceBNe, e0, e1]; rfl) ?_
   refine WpO.do (WpX.conD hn rfl rfl (by simp only [↓nrmL, nrmZ, Nat.reduceEqDiff, ↓reduceIte, Nat.reduceAdd, Int.reduceBEq, Int.reduceBNe, List.map] <;> rfl) (K_TraceNone (p := gp) (l := l) ok hz) fun v H3 h6 => ?_)
   obtain ⟨rfl, hx3⟩ := h6
   haveI : ExtI _ H3 := ⟨hx3⟩
   repeat first
    | refine oy ?_
    | refine mI ?_
    | refine mB ?_
    | refine mT ?_
    | refine mN ?_
    | (refine bn rfl rfl rfl (by simp only [↓nrmL, nrmZ, Nat.reduceEqDiff, ↓reduceIte, Nat.reduceAdd, Int.reduceBEq, Int.reduceBNe]; rfl) ?_)
    | refine b0 ?_
    | refine tB ?_
    | refine xt ?_
    | (refine Fo.pcall (v' := ?_) hn rfl (by simp only [↓nrmL, nrmZ, Nat.reduceEqDiff, ↓reduceIte, Nat.reduceAdd, Int.reduceBEq, Int.reduceBNe, List.map]; rfl) rfl ?hv fun _ _ => ?_; case hv => rfl)
    | (refine Fo.len (v := ?_) (rfl : _ = AVal.nslice) ?hv ?_; case hv => rfl)
    | refine nl hKF ?_
    | refine sq ?_
    | refine rg fun KF hKF => ?_
    | refine rt ?_
    | dsimp only [cond_true, cond_false]
   refine rz trivial ?_
   exact ⟨rfl, Ext0.ext⟩
 have ha0 : 0 < a := by omega
 have hb0 : 0 < b := by omega
 have e0 : ((a : Int) == 0) = false := by simp; omega
 have e1 : ((b : Int) == 0) = false := by simp; omega
 have hm : a * b ≤ 40 * 30 := Nat.mul_le_mul ha hb
 haveI hgne : RowNe gp H1.n := ⟨fun r _ _ _ _ e => by have := hgp.lt e; omega⟩
 have n01 := hx1.n
 simp only [e0, e1]
 repeat first
  | refine oy ?_
  | refine mI ?_
  | refine fd ?_
  | refine Fo.ld rfl rfl ?_
  | (refine bn rfl rfl rfl (by simp only [↓nrmL, nrmZ, Nat.reduceEqDiff, ↓reduceIte, Nat.reduceAdd, Int.reduceBEq, Int.reduceBNe, e0, e1]; rfl) ?_)
  | refine b0 ?_
  | refine fB ?_
  | refine nl hKF ?_
  | refine sq ?_
  | refine rg fun KF hKF => ?_
  | refine cf rfl ?_
  | refine sk ?_
  | dsimp only [cond_true, cond_false]
 refine Wp.cut (σ := List UInt8) (fun _ => [(3, .int .u8 (c3.toNat : Int)), (4, ps), (11, .ptr H1.n 0)]) (fun P H' => BytesI H' gp P ∧ P.length = a * b ∧ pxOk P = true ∧ HasRow H' H1.n [.int .i64 (a : Int), .int .i64 (b : Int), gp] true (2 * 24) ∧ Ext H H') ?_ ?_
 rotate_left
 ·cases hf3 : (((c2.toNat : Int).tmod 3) == 0)
  ·skip
   simp only [↓nrmL, nrmZ, Nat.reduceEqDiff, ↓reduceIte, Nat.reduceAdd, Int.reduceBEq, Int.reduceBNe, hf3]
   refine cf rfl ?_
   refine sk ?_
   dsimp only [cond_true, cond_false]
   exact ⟨l, ⟨rfl, rfl, rfl, trivial⟩, inferInstance, ok.len, ok.px, inferInstance, Ext0.ext⟩
  simp only [↓nrmL, nrmZ, Nat.reduceEqDiff, ↓reduceIte, Nat.reduceAdd, Int.reduceBEq, Int.reduceBNe, hf3]
  refine ct rfl ?_
  refine sq ?_
  refine rg fun KF hKF => ?_
  refine fd ?_
  refine Fo.ld rfl rfl ?_
  refine mI ?_
  refine nl hKF ?_
  refine Wp.block ?_
  dsimp only [cond_true, cond_false]
  refine Wp.loopS [14, 56, 57, 58, 59, 60, 61, 62, 63, 64, 65, 66, 67, 68, 69, 70, 71, 72] (fun x : Nat => [(56, .int .i64 (x : Int))]) (fun K0 x H4 => x ≤ a ∧ ∃ P, BytesI H4 gp P ∧ P.length = a * b ∧ pxOk P = true ∧ WrS H4 gp ∧ ExtP0 K0 H4 gp) (fun x => a - x) 0 rfl (fun _ => rfl) ⟨rfl, trivial⟩ ⟨Nat.zero_le _, l, inferInstance, ok.len, ok.px, inferInstance, inferInstance⟩ (by unfold fuel0 at hn; omega) ?_
  rintro x g2 H4 ⟨hx, P4, hP4, hPl4, hPo4, hPw4, ⟨hx4⟩⟩
  haveI := hx4
  have kg4 : HasRow H4 H1.n [.int .i64 (a : Int), .int .i64 (b : Int), gp] true (2 * 24) := inferInstance
  simp only [↓nrmL, nrmZ, Nat.reduceEqDiff, ↓reduceIte, Nat.reduceAdd, Int.reduceBEq, Int.reduceBNe]
  cases hcx : decide ((x : Int) < (a : Int))
  ·skip
   refine sq ?_
   refine rg fun KF hKF => ?_
   refine bn rfl rfl rfl (by simp only [↓nrmL, nrmZ, Nat.reduceEqDiff, ↓reduceIte, Nat.reduceAdd, Int.reduceBEq, Int.reduceBNe, hcx]; rfl) ?_
   refine nl hKF ?_
   refine sq ?_
   refine cf rfl ?_
   refine xi ?_
   dsimp only [cond_true, cond_false]
   refine ⟨P4, ⟨rfl, rfl, rfl, trivial⟩, hP4, hPl4, hPo4, kg4, ⟨by have := hx4.n; simp only [AHeap.push, AHeap.set] at this; omega, fun r hr => ?_⟩⟩
   rw [hx4.get r (by simp only [AHeap.push, AHeap.set]; omega) ⟨fun r' _ _ _ _ e => by have := hfr.ge _ _ _ _ _ e; omega⟩, set_get_ne (by omega), push_get_lt (by omega), hx1.get r hr]
  have hxa : x < a := by have := of_decide_eq_true hcx; omega
  have hwx := wa1 (a := x) (by omega)
  obtain ⟨y, hy⟩ : ∃ y, c2.toNat % b = y := ⟨_, rfl⟩
  have hyb : y < b := by rw [← hy]; exact Nat.mod_lt _ (by omega)
  have q0 : IntKind.i64.wrap (c2.toNat : Int) = (c2.toNat : Int) := by have := c2.toNat_lt; exact w64 (by omega)
  have q1 : (c2.toNat : Int).tmod (b : Int) = (y : Int) := by
   have e : (c2.toNat : Int).tmod (b : Int) = ((c2.toNat % b : Nat) : Int) := rfl
   rw [e, hy]
  have hbz : (b : Int) ≠ 0 := by omega
  have hlt : y * a + x < a * b := idx_lt hxa hyb
  have q2 : IntKind.i64.wrap ((y : Int) * (a : Int)) = ((y * a : Nat) : Int) := wm (by omega)
  have q3 : IntKind.i64.wrap (((y * a : Nat) : Int) + (x : Int)) = ((y * a + x : Nat) : Int) := wa (by omega)
  repeat first
   | refine mI ?_
   | (refine bn rfl rfl rfl (by simp only [↓nrmL, nrmZ, Nat.reduceEqDiff, ↓reduceIte, Nat.reduceAdd, Int.reduceBEq, Int.reduceBNe, hcx]; rfl) ?_)
   | refine nl hKF ?_
   | refine sq ?_
   | refine rg fun KF hKF => ?_
   | refine ct rfl ?_
   | refine sk ?_
   | refine Wp.block ?_
   | dsimp only [cond_true, cond_false]
  refine Fr.dregion0 rfl fun KF hKF => ?_
  repeat first
   | (refine Er rfl (exec_ld rfl rfl) rfl ?_)
   | (refine Fe.pure rfl rfl (by simp only [↓nrmL, nrmZ, Nat.reduceEqDiff, ↓reduceIte, Nat.reduceAdd, Int.reduceBEq, Int.reduceBNe, q0]; rfl) ?_)
  refine Fe.pure rfl (exec_rem rfl rfl hbz) (congrArg _ q1) ?_
  simp only [↓nrmL, nrmZ, Nat.reduceEqDiff, ↓reduceIte, Nat.reduceAdd, Int.reduceBEq, Int.reduceBNe, q2, q3]
  repeat first
   | (refine Er rfl (exec_ld rfl rfl) rfl ?_)
   | (refine Fe.pure rfl rfl (by simp only [↓nrmL, nrmZ, Nat.reduceEqDiff, ↓reduceIte, Nat.reduceAdd, Int.reduceBEq, Int.reduceBNe, q2, q3]; rfl) ?_)
   | (refine Fe.pure rfl (exec_idxP (by (try simp only [↓nrmL, nrmZ, Nat.reduceEqDiff, ↓reduceIte, Nat.reduceAdd, Int.reduceBEq, Int.reduceBNe, q2, q3]); rfl) rfl ?_) (by simp only [↓nrmL, nrmZ, Nat.reduceEqDiff, ↓reduceIte, Nat.reduceAdd, Int.reduceBEq, Int.reduceBNe, q2, q3]; rfl) ?_; (focus omega))
  refine WpE.stB 1 rfl rfl rfl rfl (by omega) fun H5 hb5 hw5 hx5 => ar ?_
  haveI := hx5
  refine WpE.nil (hKF _ _ ?_)
  simp only [hwx]
  refine rg fun KF hKF => ?_
  refine bn rfl rfl rfl (by simp only [↓nrmL, nrmZ, Nat.reduceEqDiff, ↓reduceIte, Nat.reduceAdd, Int.reduceBEq, Int.reduceBNe, hwx]; rfl) ?_
  refine mI ?_
  refine nl hKF ?_
  dsimp only [cond_true, cond_false]
  exact ⟨x + 1, by omega, ⟨rfl, trivial⟩, by omega, P4.set (y * a + x) 1, hb5, by rw [List.length_set]; exact hPl4, pxOk_set hPo4 (Or.inr rfl), hw5, inferInstance⟩
 rintro P g H2 ⟨hP, hPl, hPo, kg, hx2⟩
 dsimp only
 have okP : Ok a b P := ⟨ok.wa, ok.hb, hPl, hPo⟩
 haveI := hP
 haveI := kg
 haveI : ExtI H H2 := ⟨hx2⟩
 haveI hps2 : BytesI H2 ps steps := inferInstance
 simp only [↓nrmL, nrmZ, Nat.reduceEqDiff, ↓reduceIte, Nat.reduceAdd, Int.reduceBEq, Int.reduceBNe]
 refine sq ?_
 refine rg fun KF hKF => ?_
 refine Fo.ldN rfl rfl (by simp only [↓nrmL, nrmZ, Nat.reduceEqDiff, ↓reduceIte, Nat.reduceAdd, Int.reduceBEq, Int.reduceBNe]; rfl) ?_
 refine WpO.do (WpX.conD hn rfl rfl (by simp only [↓nrmL, nrmZ, Nat.reduceEqDiff, ↓reduceIte, Nat.reduceAdd, Int.reduceBEq, Int.reduceBNe, List.map] <;> rfl) (K_TraceOk (D := 10) (cap := 12) (p := gp) (l := P) okP ha0 hb0 (Nat.le_refl _) pdq_small (by omega)) fun v H3 h6 => ?_)
 obtain ⟨q, qs', rfl, hLi, hTD, hx3⟩ := h6
 obtain ⟨pc, hpc, hrw⟩ := hLi.it
 haveI := hpc
 haveI := hpc.one
 haveI : ExtI H2 H3 := ⟨hx3⟩
 have hml : (qs'.map (lineQ a)).length = qs'.length := List.length_map ..
 refine mT ?_
 refine xt ?_
 refine xt ?_
 refine mv ?_
 refine mI ?_
 refine nl hKF ?_
 refine sq ?_
 refine Fr.dregion0 rfl fun KF hKF => ?_
 repeat first
  | (refine Er rfl (exec_ldN rfl rfl (by simp only [↓nrmL, nrmZ, Nat.reduceEqDiff, ↓reduceIte, Nat.reduceAdd, Int.reduceBEq, Int.reduceBNe]; rfl)) rfl ?_)
  | (refine Fe.pure rfl rfl (by simp only [↓nrmL, nrmZ, Nat.reduceEqDiff, ↓reduceIte, Nat.reduceAdd, Int.reduceBEq, Int.reduceBNe]; rfl) ?_)
 refine Fe.con rfl hn rfl rfl (by simp only [↓nrmL, nrmZ, Nat.reduceEqDiff, ↓reduceIte, Nat.reduceAdd, Int.reduceBEq, Int.reduceBNe, List.map] <;> rfl) (K_walk (w := a) (h := b) (p := gp) (ps := ps) (l := P) (steps := steps) (c := c3) (by omega) (by omega) ha0 hb0) fun v H4 h7 => ?_
 obtain ⟨pth, hpth, hvI, hx4⟩ := h7
 haveI : ExtI H3 H4 := ⟨hx4⟩
 haveI := hvI.one
 refine ar ?_
 skip
 refine Fe.con rfl hn rfl rfl (by simp only [↓nrmL, nrmZ, Nat.reduceEqDiff, ↓reduceIte, Nat.reduceAdd, Int.reduceBEq, Int.reduceBNe, List.map] <;> rfl) (K_CostOk (w := a) (h := b) (p := gp) (l := P) (q := pth) hvI okP ha0 hpth) fun v H5 h8 => ?_
 obtain ⟨rfl, hx5⟩ := h8
 haveI : ExtI H4 H5 := ⟨hx5⟩
 obtain ⟨M, hM⟩ : ∃ M, costF (prF P a) a pth (a - 1) = M := ⟨_, rfl⟩
 rw [hM]
 refine ar ?_
 repeat first
  | (refine Fe.pure rfl rfl (by simp only [↓nrmL, nrmZ, Nat.reduceEqDiff, ↓reduceIte, Nat.reduceAdd, Int.reduceBEq, Int.reduceBNe]; rfl) ?_)
  | refine Fe.pure rfl rfl rfl ?_
  | refine WpE.nil (hKF _ _ ?_)
 have hcb : ∀ f : Nat → Nat, 0 ≤ costF (prF P a) a f (a - 1) ∧ costF (prF P a) a f (a - 1) ≤ 120 := fun f => by
  rw [← fwd_all ha0]
  have := fwd_bd (P := prF P a) (q := f) (fun x y => prB_bd P (y * a + x)) a
  omega
 have hMb := hcb pth
 rw [hM] at hMb
 have wM : IntKind.i64.wrap (8 * M) = 8 * M := w64 (by omega)
 have hleast := hTD.least ha0 (by omega) hb0 (by omega) hpth
 rw [show costF (fun x y => prB P (y * a + x)) a pth (a - 1) = M from hM] at hleast
 have hlines := hTD.lines ha0 (by omega) hb0
 have hx05 : Ext H H5 := Ext0.ext
 have kg5 : HasRow H5 H1.n [.int .i64 (a : Int), .int .i64 (b : Int), gp] true (2 * 24) := inferInstance
 have hP5 : BytesI H5 gp P := inferInstance
 have hpc5 : SliceAt H5 q 1 (qs'.map (lineQ a)).length pc := inferInstance
 have hrw5 : Rows H5 pc (qs'.map (lineQ a)) := (hrw.ext hx4).ext hx5
 have hl60 : qs'.length ≤ 60 := by
  obtain ⟨qs, P', hT', hE', hl', _⟩ := hTD.it
  have := (tr_inv ha0 (by omega) hb0 hT').many
  omega
 have hgo : ∀ z : Bool, ((((qs'.map (lineQ a)).length : Nat) : Int) == 0) = z → (z = true → decide (8 * M ≤ (a : Int)) = false) := fun z hz hz1 => by
  subst hz1
  have e : qs'.length = 0 := by rw [hml] at hz; simpa using hz
  have := hleast.1 e
  exact decide_eq_false (by omega)
 cases hz0 : ((((qs'.map (lineQ a)).length : Nat) : Int) == 0)
 rotate_left
 ·have hd := hgo true hz0 rfl
  have hq0 : qs'.length = 0 := by rw [hml] at hz0; simpa using hz0
  simp only [hz0, wM, hd]
  repeat first
   | refine oy ?_
   | refine mI ?_
   | refine mB ?_
   | (refine mv ?_)
   | refine fd ?_
   | refine Fo.ld rfl rfl ?_
   | (refine bn rfl rfl rfl (by simp only [↓nrmL, nrmZ, Nat.reduceEqDiff, ↓reduceIte, Nat.reduceAdd, Int.reduceBEq, Int.reduceBNe, hz0, wM, hd]; rfl) ?_)
   | refine tB ?_
   | refine fB ?_
   | (refine ln (by simp only [↓nrmL, nrmK, Nat.reduceEqDiff, ↓reduceIte]; rfl) ?_)
   | refine nl hKF ?_
   | refine sq ?_
   | refine rg fun KF hKF => ?_
   | refine cf rfl ?_
   | refine sk ?_
   | refine Wp.block ?_
   | dsimp only [cond_true, cond_false]
  refine Wp.loopS [10, 19, 20, 21, 22, 23, 24, 107, 108, 109, 110, 111, 112, 113, 114, 115, 116, 117, 118, 119, 120, 121, 122, 123, 124, 125, 126, 127, 128, 129, 130, 131, 132, 133, 134, 135, 136, 137, 138, 139, 140, 141, 142, 143, 144, 145, 146, 147, 148, 149, 150, 151, 152, 153, 154] (fun _ : Unit => [(107, .int .i64 0), (19, .int .i64 1073741824)]) (fun K0 _ H6 => Ext0 K0 H6) (fun _ => 0) () rfl (fun _ => rfl) ⟨rfl, rfl, trivial⟩ inferInstance (by unfold fuel0 at hn; omega) ?_
  rintro _ g3 H6 ⟨hx6⟩
  haveI : ExtI H5 H6 := ⟨hx6⟩
  have hlt0 : decide ((0 : Int) < (((qs'.map (lineQ a)).length : Nat) : Int)) = false := decide_eq_false (by rw [hml, hq0]; decide)
  simp only [↓nrmL, nrmZ, Nat.reduceEqDiff, ↓reduceIte, Nat.reduceAdd, Int.reduceBEq, Int.reduceBNe]
  repeat first
   | refine oy ?_
   | refine ox ?_
   | refine mB ?_
   | (refine mv ?_)
   | (refine bn rfl rfl rfl (by simp only [↓nrmL, nrmZ, Nat.reduceEqDiff, ↓reduceIte, Nat.reduceAdd, Int.reduceBEq, Int.reduceBNe, hlt0, hz0]; rfl) ?_)
   | refine tB ?_
   | (refine Fo.pcall (v' := ?_) hn rfl (by simp only [↓nrmL, nrmZ, Nat.reduceEqDiff, ↓reduceIte, Nat.reduceAdd, Int.reduceBEq, Int.reduceBNe, hlt0, hz0, List.map]; rfl) rfl ?hv fun _ _ => ?_; case hv => rfl)
   | (refine ln (by simp only [↓nrmL, nrmK, Nat.reduceEqDiff, ↓reduceIte]; rfl) ?_)
   | refine nl hKF ?_
   | refine sq ?_
   | refine rg fun KF hKF => ?_
   | refine cf rfl ?_
   | refine rt ?_
   | refine xi ?_
   | dsimp only [cond_true, cond_false]
  refine rz trivial ?_
  exact ⟨rfl, Ext0.ext⟩
 have hq0 : 0 < qs'.length := by
  rw [hml] at hz0
  have : qs'.length ≠ 0 := fun e => by rw [e] at hz0; cases hz0
  omega
 obtain ⟨i0, hi0, hle0⟩ := hleast.2 hq0
 simp only [hz0]
 repeat first
  | refine oy ?_
  | refine ox ?_
  | refine mI ?_
  | refine mB ?_
  | (refine mv ?_)
  | (refine bn rfl rfl rfl (by simp only [↓nrmL, nrmZ, Nat.reduceEqDiff, ↓reduceIte, Nat.reduceAdd, Int.reduceBEq, Int.reduceBNe, hz0]; rfl) ?_)
  | refine fB ?_
  | (refine ln (by simp only [↓nrmL, nrmK, Nat.reduceEqDiff, ↓reduceIte]; rfl) ?_)
  | refine nl hKF ?_
  | refine sq ?_
  | refine rg fun KF hKF => ?_
  | refine cf rfl ?_
  | refine sk ?_
  | refine Wp.block ?_
  | dsimp only [cond_true, cond_false]
 refine Wp.loopS (σ := Nat × Int) [10, 19, 20, 21, 22, 23, 24, 107, 108, 109, 110, 111, 112, 113, 114, 115, 116, 117, 118, 119, 120, 121, 122, 123, 124, 125, 126, 127, 128, 129, 130, 131, 132, 133, 134, 135, 136, 137, 138, 139, 140, 141, 142, 143, 144, 145, 146, 147, 148, 149, 150, 151, 152, 153, 154] (fun s => [(107, .int .i64 (s.1 : Int)), (19, .int .i64 s.2)]) (fun K0 s H6 => s.1 ≤ qs'.length ∧ 0 ≤ s.2 ∧ s.2 ≤ 1073741824 ∧ (∀ j (hj : j < qs'.length), j < s.1 → s.2 ≤ costF (prF P a) a qs'[j] (a - 1)) ∧ Ext0 K0 H6) (fun s => qs'.length - s.1) (0, 1073741824) rfl (fun _ => rfl) ⟨rfl, rfl, trivial⟩ ⟨Nat.zero_le _, by decide, by decide, fun j _ hj => by dsimp only at hj; omega, inferInstance⟩ (by unfold fuel0 at hn; dsimp only; omega) ?_
 rintro ⟨i, least⟩ g3 H6 ⟨hi, hla, hlb, hmin, ⟨hx6⟩⟩
 dsimp only at hi hla hlb hmin
 haveI : ExtI H5 H6 := ⟨hx6⟩
 simp only [↓nrmL, nrmZ, Nat.reduceEqDiff, ↓reduceIte, Nat.reduceAdd, Int.reduceBEq, Int.reduceBNe]
 cases hci : decide ((i : Int) < (((qs'.map (lineQ a)).length : Nat) : Int))
 ·have hie : i = qs'.length := by have := of_decide_eq_false hci; omega
  have hge : decide (M ≥ least) = true := by
   have h1 := hmin i0 hi0 (by omega)
   have h2 : costF (prF P a) a qs'[i0] (a - 1) ≤ M := hle0
   exact decide_eq_true (by omega)
  repeat first
   | refine oy ?_
   | refine mI ?_
   | refine mB ?_
   | (refine mv ?_)
   | (refine bn rfl rfl rfl (by simp only [↓nrmL, nrmZ, Nat.reduceEqDiff, ↓reduceIte, Nat.reduceAdd, Int.reduceBEq, Int.reduceBNe, hci, hz0, hge]; rfl) ?_)
   | refine tB ?_
   | refine fB ?_
   | (refine Fo.pcall (v' := ?_) hn rfl (by simp only [↓nrmL, nrmZ, Nat.reduceEqDiff, ↓reduceIte, Nat.reduceAdd, Int.reduceBEq, Int.reduceBNe, hci, hz0, hge, List.map]; rfl) rfl ?hv fun _ _ => ?_; case hv => rfl)
   | (refine ln (by simp only [↓nrmL, nrmK, Nat.reduceEqDiff, ↓reduceIte]; rfl) ?_)
   | refine nl hKF ?_
   | refine sq ?_
   | refine rg fun KF hKF => ?_
   | refine cf rfl ?_
   | refine rt ?_
   | refine xi ?_
   | dsimp only [cond_true, cond_false]
  refine rz trivial ?_
  exact ⟨rfl, Ext0.ext⟩
 have hil : i < qs'.length := by have := of_decide_eq_true hci; omega
 have him : i < (qs'.map (lineQ a)).length := by omega
 have hwi := wa1 (a := i) (by omega)
 obtain ⟨li, hci1, hci2⟩ := hrw5.it i him
 rw [List.getElem_map] at hci2
 haveI := hci2
 haveI := hci2.one
 obtain ⟨hpi, hchi⟩ := hlines.1 i hil
 rw [show costF (fun x y => prB P (y * a + x)) a qs'[i] (a - 1) = costF (prF P a) a qs'[i] (a - 1) from rfl] at hchi
 obtain ⟨N, hN⟩ : ∃ N, costF (prF P a) a qs'[i] (a - 1) = N := ⟨_, rfl⟩
 have hNb := hcb qs'[i]
 rw [hN] at hchi hNb
 have wN : IntKind.i64.wrap (8 * N) = 8 * N := w64 (by omega)
 have hdN : decide (8 * N > (a : Int)) = false := decide_eq_false (by omega)
 repeat first
  | refine mI ?_
  | (refine bn rfl rfl rfl (by simp only [↓nrmL, nrmZ, Nat.reduceEqDiff, ↓reduceIte, Nat.reduceAdd, Int.reduceBEq, Int.reduceBNe, hci]; rfl) ?_)
  | (refine Fo.idx (by simp only [↓nrmL, nrmK, Nat.reduceEqDiff, ↓reduceIte]; rfl) rfl ?_ (by simp only [↓nrmL, nrmZ, Nat.reduceEqDiff, ↓reduceIte, Nat.reduceAdd, Int.reduceBEq, Int.reduceBNe, hci]; rfl) ?_; (focus omega))
  | refine nl hKF ?_
  | refine sq ?_
  | refine rg fun KF hKF => ?_
  | refine ct rfl ?_
  | refine sk ?_
  | refine Wp.block ?_
 refine Fo.now rfl (exec_ldP (p := q) (j := i) rfl hci1) rfl ?_
 refine mI ?_
 refine mv ?_
 refine nl hKF ?_
 refine sq ?_
 refine rg fun KF hKF => ?_
 refine Fo.ldN rfl rfl (by simp only [↓nrmL, nrmZ, Nat.reduceEqDiff, ↓reduceIte, Nat.reduceAdd, Int.reduceBEq, Int.reduceBNe]; rfl) ?_
 refine mv ?_
 refine WpO.do (WpX.conD hn rfl rfl (by simp only [↓nrmL, nrmZ, Nat.reduceEqDiff, ↓reduceIte, Nat.reduceAdd, Int.reduceBEq, Int.reduceBNe, List.map] <;> rfl) (K_CostOk (w := a) (h := b) (p := gp) (l := P) (q := qs'[i]) (inferInstance : IntsI H6 li (lineQ a qs'[i])) okP ha0 hpi) fun v H7 h9 => ?_)
 obtain ⟨rfl, hx7⟩ := h9
 rw [hN]
 haveI : ExtI H6 H7 := ⟨hx7⟩
 obtain ⟨L2, hL2⟩ : ∃ L2, (if N < least then N else least) = L2 := ⟨_, rfl⟩
 have hlq := lineQ_len a qs'[i]
 repeat first
  | refine oy ?_
  | refine mI ?_
  | refine mB ?_
  | refine mT ?_
  | (refine mv ?_)
  | refine fd ?_
  | refine Fo.ld rfl rfl ?_
  | (refine bn rfl rfl rfl (by simp only [↓nrmL, nrmZ, Nat.reduceEqDiff, ↓reduceIte, Nat.reduceAdd, Int.reduceBEq, Int.reduceBNe, wN, hdN, hL2]; rfl) ?_)
  | refine fB ?_
  | refine xt ?_
  | (refine ln (by simp only [↓nrmL, nrmK, Nat.reduceEqDiff, ↓reduceIte]; rfl) ?_)
  | (refine Fo.now rfl rfl (by simp only [↓nrmL, nrmZ, Nat.reduceEqDiff, ↓reduceIte, Nat.reduceAdd, Int.reduceBEq, Int.reduceBNe, wN, hdN, hL2]; rfl) ?_)
  | refine nl hKF ?_
  | refine sq ?_
  | refine rg fun KF hKF => ?_
  | refine cf rfl ?_
  | refine sk ?_
  | refine Wp.block ?_
  | dsimp only [cond_true, cond_false]
 refine Wp.loopS [10, 24, 132, 133, 134, 135, 136, 137, 138, 139, 140, 141, 142, 143, 144, 145, 146, 147, 148, 149, 150, 151, 152, 153] (fun x : Nat => [(132, .int .i64 (x : Int))]) (fun K0 x H8 => x ≤ a ∧ Ext0 K0 H8) (fun x => a - x) 0 rfl (fun _ => rfl) ⟨rfl, trivial⟩ ⟨Nat.zero_le _, inferInstance⟩ (by unfold fuel0 at hn; omega) ?_
 rintro x g4 H8 ⟨hxa, ⟨hx8⟩⟩
 haveI : ExtI H7 H8 := ⟨hx8⟩
 simp only [↓nrmL, nrmZ, Nat.reduceEqDiff, ↓reduceIte, Nat.reduceAdd, Int.reduceBEq, Int.reduceBNe]
 cases hcx : decide ((x : Int) < (((lineQ a qs'[i]).length : Nat) : Int))
 ·skip
  repeat first
   | refine mI ?_
   | (refine bn rfl rfl rfl (by simp only [↓nrmL, nrmZ, Nat.reduceEqDiff, ↓reduceIte, Nat.reduceAdd, Int.reduceBEq, Int.reduceBNe, hcx, hwi]; rfl) ?_)
   | refine nl hKF ?_
   | refine sq ?_
   | refine rg fun KF hKF => ?_
   | refine cf rfl ?_
   | refine xi ?_
   | dsimp only [cond_true, cond_false]
  refine ⟨(i + 1, L2), by dsimp only; omega, ⟨rfl, rfl, trivial⟩, by dsimp only; omega, by dsimp only; rw [← hL2]; split <;> omega, by dsimp only; rw [← hL2]; split <;> omega, fun j hj hji => ?_, inferInstance⟩
  dsimp only at hji ⊢
  by_cases e : j = i
  ·subst e; rw [hN, ← hL2]; split <;> omega
  ·have := hmin j hj (by omega)
   rw [← hL2]; split <;> omega
 have hxl : x < a := by have := of_decide_eq_true hcx; omega
 have hwx := wa1 (a := x) (by omega)
 by_cases hi0' : i = 0
 ·have hg0 : decide ((i : Int) > 0) = false := decide_eq_false (by omega)
  repeat first
   | refine ox ?_
   | refine mI ?_
   | refine mB ?_
   | (refine bn rfl rfl rfl (by simp only [↓nrmL, nrmZ, Nat.reduceEqDiff, ↓reduceIte, Nat.reduceAdd, Int.reduceBEq, Int.reduceBNe, hcx, hg0, hwx]; rfl) ?_)
   | refine fB ?_
   | refine nl hKF ?_
   | refine sq ?_
   | refine rg fun KF hKF => ?_
   | refine Fr.quiet rfl rfl fun KF hKF => ?_
   | refine ct rfl ?_
   | refine cf rfl ?_
   | refine sk ?_
   | refine Wp.block ?_
   | dsimp only [cond_true, cond_false]
  exact ⟨x + 1, by omega, ⟨rfl, trivial⟩, by omega, inferInstance⟩
 have hg0 : decide ((i : Int) > 0) = true := decide_eq_true (by omega)
 obtain ⟨j0, hj0⟩ : ∃ j0, i = j0 + 1 := ⟨i - 1, by omega⟩
 have e2 : IntKind.i64.wrap ((i : Int) - 1) = (j0 : Int) := by rw [w64 (by omega)]; omega
 have hj0l : j0 < qs'.length := by omega
 have hj0m : j0 < (qs'.map (lineQ a)).length := by omega
 obtain ⟨lj, hcj1, hcj2⟩ := hrw5.it j0 hj0m
 rw [List.getElem_map] at hcj2
 haveI := hcj2
 haveI := hcj2.one
 have hlj := lineQ_len a qs'[j0]
 have hxi : x < (lineQ a qs'[i]).length := by omega
 have hxj : x < (lineQ a qs'[j0]).length := by omega
 have gi : (lineQ a qs'[i])[x] = (qs'[i] x : Int) := by rw [← getD_at hxi]; exact lineQ_at hxl
 have gj : (lineQ a qs'[j0])[x] = (qs'[j0] x : Int) := by rw [← getD_at hxj]; exact lineQ_at hxl
 have hap := hlines.2 j0 i hj0l hil (by omega) x hxl
 have hri := hpi.row x hxl
 have e3 : IntKind.i64.wrap ((qs'[i] x : Int) - (qs'[j0] x : Int)) = (qs'[i] x : Int) - (qs'[j0] x : Int) := w64 (by omega)
 have e4 : decide ((qs'[i] x : Int) - (qs'[j0] x : Int) ≤ 2) = false := decide_eq_false (by omega)
 repeat first
  | refine oy ?_
  | refine mI ?_
  | refine mB ?_
  | (refine mv ?_)
  | (refine bn rfl rfl rfl (by simp only [↓nrmL, nrmZ, Nat.reduceEqDiff, ↓reduceIte, Nat.reduceAdd, Int.reduceBEq, Int.reduceBNe, hcx, hg0, e2, gi]; rfl) ?_)
  | (refine Fo.idx (by simp only [↓nrmL, nrmK, Nat.reduceEqDiff, ↓reduceIte]; rfl) rfl ?_ (by simp only [↓nrmL, nrmZ, Nat.reduceEqDiff, ↓reduceIte, Nat.reduceAdd, Int.reduceBEq, Int.reduceBNe, hcx, hg0, e2, gi]; rfl) ?_; (focus omega))
  | (refine Fo.ldI rfl ?_ (by simp only [↓nrmL, nrmZ, Nat.reduceEqDiff, ↓reduceIte, Nat.reduceAdd, Int.reduceBEq, Int.reduceBNe, hcx, hg0, e2, gi]; rfl) ?_; (focus omega))
  | refine nl hKF ?_
  | refine sq ?_
  | refine rg fun KF hKF => ?_
  | refine Fr.quiet rfl rfl fun KF hKF => ?_
  | refine ct rfl ?_
  | refine sk ?_
  | refine Wp.block ?_
 refine Fo.now rfl (exec_ldP (p := q) (j := j0) rfl hcj1) rfl ?_
 repeat first
  | refine oy ?_
  | refine mI ?_
  | (refine bn rfl rfl rfl (by simp only [↓nrmL, nrmZ, Nat.reduceEqDiff, ↓reduceIte, Nat.reduceAdd, Int.reduceBEq, Int.reduceBNe, gj, e3, e4, hwx]; rfl) ?_)
  | refine tB ?_
  | (refine Fo.idx (by simp only [↓nrmL, nrmK, Nat.reduceEqDiff, ↓reduceIte]; rfl) rfl ?_ (by simp only [↓nrmL, nrmZ, Nat.reduceEqDiff, ↓reduceIte, Nat.reduceAdd, Int.reduceBEq, Int.reduceBNe, gj, e3, e4, hwx]; rfl) ?_; (focus omega))
  | (refine Fo.ldI rfl ?_ (by simp only [↓nrmL, nrmZ, Nat.reduceEqDiff, ↓reduceIte, Nat.reduceAdd, Int.reduceBEq, Int.reduceBNe, gj, e3, e4, hwx]; rfl) ?_; (focus omega))
  | refine nl hKF ?_
  | refine rg fun KF hKF => ?_
  | refine cf rfl ?_
  | refine sk ?_
  | dsimp only [cond_true, cond_false]
 exact ⟨x + 1, by omega, ⟨rfl, trivial⟩, by omega, inferInstance⟩
end Go.Am

namespace Go.Proofs.Ytpochhefklmnfaa.StaveLeast
open Go.ChangeShapes Go.WideShapes Go.ChangeAt Go.RowKit Go.Am Go.Proofs.Ytpochhefklmnfaa.Laid

theorem con (H : AHeap) (avs : List AVal) (ht : tablesIn aroundT H = true) (h : ArgS Try.prog H 3 [64, 22, 5, 5, 22] avs) : Con ext prog 14 7 avs H fun v H' => v = .bool true ∧ Ext H H' := by
  obtain ⟨a0, r0, rfl, h0, a1, r1, rfl, h1, a2, r2, rfl, h2, a3, r3, rfl, h3, a4, r4, rfl, h4, rfl⟩ := h
  obtain ⟨i0, rfl, wf0⟩ := shape_int Try.underlying64 h0
  obtain ⟨s0, rfl, lt0⟩ := u16_of wf0
  obtain ⟨p1, l1, rfl, k1, _⟩ := shape_bytes Try.underlying22 Try.underlying5 (by kernel_rfl) h1
  haveI o1 := k1.one
  obtain ⟨i2, rfl, wf2⟩ := shape_int Try.underlying5 h2
  obtain ⟨s2, rfl⟩ := u8_of wf2
  obtain ⟨i3, rfl, wf3⟩ := shape_int Try.underlying5 h3
  obtain ⟨s3, rfl⟩ := u8_of wf3
  obtain ⟨p4, l4, rfl, k4, _⟩ := shape_bytes Try.underlying22 Try.underlying5 (by kernel_rfl) h4
  haveI o4 := k4.one
  have e0 : argV Try.prog 64 [.int .u16 (s0 : Int)] = .int .u16 (s0 : Int) := by simp only [argV, show aggTy Try.prog 64 = false by kernel_rfl, cond_false, List.headD_cons]
  have e1 : argV Try.prog 22 [p1] = p1 := by simp only [argV, show aggTy Try.prog 22 = false by kernel_rfl, cond_false, List.headD_cons]
  have e2 : argV Try.prog 5 [.int .u8 (s2.toNat : Int)] = .int .u8 (s2.toNat : Int) := by simp only [argV, show aggTy Try.prog 5 = false by kernel_rfl, cond_false, List.headD_cons]
  have e3 : argV Try.prog 5 [.int .u8 (s3.toNat : Int)] = .int .u8 (s3.toNat : Int) := by simp only [argV, show aggTy Try.prog 5 = false by kernel_rfl, cond_false, List.headD_cons]
  have e4 : argV Try.prog 22 [p4] = p4 := by simp only [argV, show aggTy Try.prog 22 = false by kernel_rfl, cond_false, List.headD_cons]
  rw [e0, e1, e2, e3, e4]
  exact (K_StaveLeast (s := s0) (c2 := s2) (c3 := s3) (pb := p1) (ps := p4) (bits := l1) (steps := l4) lt0)

theorem contract (H : Type) (enc : TypeId × Value → H) (W : World) (base : Nat) (args : Array Value) (ds gs : List (DataW H)) (before : List MemPlace)
    (hval : ∀ (j : Nat) t v, Try.f7.params[j]? = some t → args[j]? = some v → Value.okWide Try.prog W .any base t v)
    (hW : DataW.Whole enc Try.prog Try.f7.params.toList Rows.staveLeastSpec.vars false W args.toList ds gs before) (hL : laidMetH Try.prog Rows.staveLeastRow.laid W) :
    Calls Try.prog 7 args W fun e W' => ∃ v, e = .returned v ∧ Rows.staveLeastSpec.post enc Try.prog Try.f7 false true false false W args v W' := by
  have hW' := hW
  obtain ⟨p, q, hA, _⟩ := hW'
  rw [Try.params7] at hA
  obtain ⟨v0, vs0, d0, ds0, p0, q0, _, rfl, _, _, r0⟩ := trodAll_cons hA
  obtain ⟨v1, vs1, d1, ds1, p1, q1, _, rfl, _, _, r1⟩ := trodAll_cons r0
  obtain ⟨v2, vs2, d2, ds2, p2, q2, _, rfl, _, _, r2⟩ := trodAll_cons r1
  obtain ⟨v3, vs3, d3, ds3, p3, q3, _, rfl, _, _, r3⟩ := trodAll_cons r2
  obtain ⟨v4, vs4, d4, ds4, p4, q4, _, rfl, _, _, r4⟩ := trodAll_cons r3
  obtain ⟨_, rfl, _⟩ := trodAll_nil r4
  exact law_calls (tb := 4) (n := 3) (d := 14) (tabs := aroundT) mixed progOk Try.func7 rfl (by decide +kernel) laidOut rowed full (by kernel_rfl) rfl (by kernel_rfl) Try.underlying4 (by kernel_rfl) (by kernel_rfl)
    (fun H avs ht h => con H avs ht (by rw [Try.params7] at h; exact h)) H enc W base args _ gs before rfl hval hW around_cells

theorem laid_met (os : Os) : laidMet Try.prog Rows.staveLeastRow.laid ((laidWorld os).forCall (fun _ _ => 0) ⟨#[], #[.int .u16 0, .slice none 0 0, .int .u8 0, .int .u8 0, .slice none 0 0], []⟩).memory :=
  laidMet_of_run' 8 (by kernel_rfl) (by kernel_rfl)
theorem reads (os : Os) {H : Type} (enc : TypeId × Value → H) : ∃ places, DataW.whole enc Try.prog ((laidWorld os).forCall (fun _ _ => 0) ⟨#[], #[.int .u16 0, .slice none 0 0, .int .u8 0, .int .u8 0, .slice none 0 0], []⟩).memory Try.f7.params.toList Rows.staveLeastSpec.vars false #[Value.int .u16 0, .slice none 0 0, .int .u8 0, .int .u8 0, .slice none 0 0].toList 8 = some ([.lit (.int .u16 0), .nil, .lit (.int .u8 0), .lit (.int .u8 0), .nil], [], places) :=
  ⟨[], by kernel_rfl⟩

theorem lifted (os : Os) (started : os.Started) (H : Type) (enc : TypeId × Value → H) (F : Stop.Interp) :
    ReturnsInHanded {} Try.checked os 7 .any ((OpenSpec.ofChange Rows.staveLeastSpec).preRow enc Try.prog Try.f7 Rows.staveLeastRow.domain false Rows.staveLeastRow.laid) (((OpenSpec.ofChange Rows.staveLeastSpec).at F).post enc Try.prog Try.f7 false true false false) := by
  obtain ⟨places, hx⟩ := reads os enc
  refine returnsInHanded_of_row (C := Try.checked) (s := OpenSpec.ofChange Rows.staveLeastSpec) own started (by kernel_rfl) Try.func7
    (witness_row_at (enc := enc) (C := Try.checked) false (laidWorld os) #[.int .u16 0, .slice none 0 0, .int .u8 0, .int .u8 0, .slice none 0 0] rfl (by kernel_rfl) (by kernel_rfl) (by kernel_rfl)
      (OpenSpec.preRow_of_cond 8 hx (by kernel_rfl) (fun k hk => by cases hk) (by kernel_rfl) (laid_met os))) ?_
  intro W base args ds gs before hval hW _ _ _ hL _ _
  exact contract H enc W base args ds gs before hval hW hL

theorem said : Rows.StaveLeastSaid :=
  OpenClaim.holds_of_cond 7 Try.f7 rfl rfl rfl rfl rfl rfl rfl ⟨rfl, rfl, rfl, rfl, rfl⟩ rfl rfl rfl rfl rfl (by kernel_rfl) Try.func7 (by kernel_rfl)
    (of_decide_eq_true (by kernel_rfl)) (by unfold Func.isWrapper; first | (rw [if_pos (by decide +kernel)]; kernel_rfl) | (rw [if_neg (by decide +kernel)]; exact ⟨rfl, rfl⟩))
    (fun os started H enc _ F => by rw [OpenClaim.pre_eq_preRow]; exact lifted os started H enc F)
end Go.Proofs.Ytpochhefklmnfaa.StaveLeast
