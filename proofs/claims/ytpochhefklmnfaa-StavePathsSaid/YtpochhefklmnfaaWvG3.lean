/-
  StavePaths returns true for all images and lists of numbers, and leaves them as they were. No condition.
-/
import Derived.Test.YtpochhefklmnfaaAmBF
set_option linter.unusedSimpArgs false
set_option linter.unusedVariables false
set_option maxHeartbeats 64000000
set_option maxRecDepth 100000
set_option synthInstance.maxHeartbeats 4000000
set_option synthInstance.maxSize 1000000000
namespace Go.Am
open Go
abbrev kF (K : AVal → Int) (cs : List AVal) (f t : Nat) : Int := K (cAt cs (f + t))
def kid (r c : Nat) : Prop := c = 2 * r + 1 ∨ c = 2 * r + 2
def HeapF (K : AVal → Int) (cs : List AVal) (f lo hi : Nat) : Prop := ∀ r c, lo ≤ r → kid r c → c < hi → kF K cs f c ≤ kF K cs f r
structure HeapX (K : AVal → Int) (cs : List AVal) (f lo hi x : Nat) : Prop where
  it : ∀ r c, lo ≤ r → r ≠ x → kid r c → c < hi → kF K cs f c ≤ kF K cs f r
  up : ∀ g c, lo ≤ g → kid g x → kid x c → c < hi → kF K cs f c ≤ kF K cs f g
theorem HeapX.start {K : AVal → Int} {cs : List AVal} {f lo hi : Nat} (h : HeapF K cs f (lo + 1) hi) : HeapX K cs f lo hi lo := ⟨fun r c h1 h2 h3 h4 => h r c (by omega) h3 h4, fun g c h1 h2 => by unfold kid at h2; omega⟩
theorem HeapX.done {K : AVal → Int} {cs : List AVal} {f lo hi x : Nat} (h : HeapX K cs f lo hi x) (hx : ∀ c, kid x c → c < hi → kF K cs f c ≤ kF K cs f x) : HeapF K cs f lo hi := fun r c h1 h2 h3 => by
  by_cases e : r = x
  · subst e; exact hx c h2 h3
  · exact h.it r c h1 e h2 h3
theorem kF_swp {K : AVal → Int} {cs : List AVal} {f i j t : Nat} (hi : f + i < cs.length) (hj : f + j < cs.length) : kF K (swp cs (f + i) (f + j)) f t = if t = j then kF K cs f i else if t = i then kF K cs f j else kF K cs f t := by
  unfold kF
  rw [cAt_swp hi hj]
  by_cases e1 : t = j
  · subst e1; rw [if_pos rfl, if_pos rfl]
  · rw [if_neg (by omega), if_neg e1]
    by_cases e2 : t = i
    · subst e2; rw [if_pos rfl, if_pos rfl]
    · rw [if_neg (by omega), if_neg e2]
theorem HeapX.step {K : AVal → Int} {cs : List AVal} {f lo hi x c : Nat} (h : HeapX K cs f lo hi x) (hx : lo ≤ x) (hk : kid x c) (hc : c < hi) (hl : f + hi ≤ cs.length) (hm : ∀ d, kid x d → d < hi → kF K cs f d ≤ kF K cs f c) (hlt : kF K cs f x < kF K cs f c) : HeapX K (swp cs (f + x) (f + c)) f lo hi c := by
  have hxc : x < c := by unfold kid at hk; omega
  have e : ∀ t, kF K (swp cs (f + x) (f + c)) f t = if t = c then kF K cs f x else if t = x then kF K cs f c else kF K cs f t := fun t => kF_swp (by omega) (by omega)
  refine ⟨fun r d h1 h2 h3 h4 => ?_, fun g d h1 h2 h3 h4 => ?_⟩
  · rw [e d, e r, if_neg h2]
    by_cases er : r = x
    · subst er
      rw [if_pos rfl]
      by_cases ed : d = c
      · rw [if_pos ed]; omega
      · rw [if_neg ed, if_neg (by unfold kid at h3; omega)]
        exact hm d h3 h4
    · rw [if_neg er]
      by_cases ed : d = c
      · exfalso
        subst ed
        unfold kid at hk h3
        omega
      · rw [if_neg ed]
        by_cases ed2 : d = x
        · subst ed2
          rw [if_pos rfl]
          exact h.up r c h1 h3 hk hc
        · rw [if_neg ed2]
          exact h.it r d h1 er h3 h4
  · have hg : g = x := by unfold kid at hk h2; omega
    subst hg
    rw [e d, e g, if_neg (by unfold kid at h3; omega), if_neg (by unfold kid at h3; omega), if_neg (by omega), if_pos rfl]
    exact h.it c d (by omega) (by omega) h3 h4
theorem HeapF.top {K : AVal → Int} {cs : List AVal} {f hi : Nat} (h : HeapF K cs f 0 hi) : ∀ t, t < hi → kF K cs f t ≤ kF K cs f 0 := by
  intro t
  induction t using Nat.strongRecOn with
  | _ t ih =>
    intro ht
    by_cases e : t = 0
    · subst e; exact Int.le_refl _
    · have h1 := h ((t - 1) / 2) t (Nat.zero_le _) (by unfold kid; omega) ht
      have h2 := ih ((t - 1) / 2) (by omega) (by omega)
      omega
structure PopS (K : AVal → Int) (cs : List AVal) (f hi i : Nat) : Prop where
  heap : HeapF K cs f 0 i
  tail : ∀ s t, i ≤ s → s < t → t < hi → kF K cs f s ≤ kF K cs f t
  big : ∀ s t, s < i → i ≤ t → t < hi → kF K cs f s ≤ kF K cs f t
theorem PopS.swp {K : AVal → Int} {cs : List AVal} {f hi i : Nat} (h : PopS K cs f hi (i + 1)) (hi' : i < hi) (hl : f + hi ≤ cs.length) : HeapF K (swp cs f (f + i)) f 1 i ∧ (∀ s t, i ≤ s → s < t → t < hi → kF K (swp cs f (f + i)) f s ≤ kF K (swp cs f (f + i)) f t) ∧ ∀ s t, s < i → i ≤ t → t < hi → kF K (swp cs f (f + i)) f s ≤ kF K (swp cs f (f + i)) f t := by
  have e : ∀ t, kF K (Go.Am.swp cs f (f + i)) f t = if t = i then kF K cs f 0 else if t = 0 then kF K cs f i else kF K cs f t := fun t => by
    have := kF_swp (K := K) (cs := cs) (f := f) (i := 0) (j := i) (t := t) (by omega) (by omega)
    exact this
  have ht := h.heap.top
  refine ⟨fun r c h1 h2 h3 => ?_, fun s t h1 h2 h3 => ?_, fun s t h1 h2 h3 => ?_⟩
  · rw [e c, e r, if_neg (by omega), if_neg (by unfold kid at h2; omega), if_neg (by unfold kid at h2; omega), if_neg (by omega)]
    exact h.heap r c (by omega) h2 (by omega)
  · rw [e s, e t, if_neg (by omega : ¬ t = i), if_neg (by omega : ¬ t = 0)]
    by_cases es : s = i
    · rw [if_pos es]; exact h.big 0 t (by omega) (by omega) h3
    · rw [if_neg es, if_neg (by omega)]; exact h.tail s t (by omega) h2 h3
  · have hs : kF K (Go.Am.swp cs f (f + i)) f s = kF K cs f (if s = 0 then i else s) := by
      rw [e s, if_neg (by omega)]
      split <;> rfl
    rw [hs]
    have hlt : (if s = 0 then i else s) < i + 1 := by split <;> omega
    by_cases et : t = i
    · rw [e t, if_pos et]; exact ht _ hlt
    · rw [e t, if_neg et, if_neg (show ¬ t = 0 by omega)]
      exact h.big _ t hlt (by omega) h3
theorem PopS.next {K : AVal → Int} {cs cs' : List AVal} {f hi i : Nat} (hP : Pm f (f + i) cs cs') (hh : HeapF K cs' f 0 i) (h1 : ∀ s t, i ≤ s → s < t → t < hi → kF K cs f s ≤ kF K cs f t) (h2 : ∀ s t, s < i → i ≤ t → t < hi → kF K cs f s ≤ kF K cs f t) : PopS K cs' f hi i := by
  have hoff : ∀ t, i ≤ t → kF K cs' f t = kF K cs f t := fun t ht => by
    unfold kF
    rw [hP.off (Or.inr (by omega))]
  refine ⟨hh, fun s t a b c => ?_, fun s t a b c => ?_⟩
  · rw [hoff s a, hoff t (by omega)]; exact h1 s t a b c
  · rw [hoff t b]
    obtain ⟨u, u1, u2, u3⟩ := hP.fro (t := f + s) (by omega) (by omega)
    have : kF K cs' f s = kF K cs f (u - f) := by
      unfold kF
      rw [u3, show f + (u - f) = u by omega]
    rw [this]
    exact h2 (u - f) t (by omega) b c
end Go.Am

namespace Go.Am
open Go
open Nat renaming reduceEqDiff → qe, reduceAdd → qa
open Int renaming reduceBEq → ze, reduceBNe → zn
attribute [local irreducible] Wp WpO WpX WpE
theorem K_sift {H0 H : AHeap} {p : AVal} {n f lo hi : Nat} {F : FuncId} {U : AVal → Prop} {K : AVal → Int} {cs : List AVal} (hU : SrtU ext prog H0 p F U K) (hs : SrtS H0 p n U cs H) (hlo : lo < hi) (hb : f + hi ≤ n) (hn40 : n ≤ 2 ^ 40) (hH : HeapF K cs f (lo + 1) hi) : Con ext prog 9 134 [p, .int .i64 (lo : Int), .int .i64 (hi : Int), .int .i64 (f : Int), .func (.func F) [] []] H fun _ H' => ∃ cs', SrtS H0 p n U cs' H' ∧ Pm f (f + hi) cs cs' ∧ HeapF K cs' f lo hi := by
 refine con_of (show prog 134 = some c134 from rfl) rfl rfl fun N hn => ?_
 haveI := hs.sl.one
 refine sq ?_
 refine rg fun KF hKF => ?_
 refine mI ?_
 refine mI ?_
 refine nl hKF ?_
 refine Wp.block ?_
 dsimp only
 refine Wp.loopS (σ := Nat × List AVal) [10, 11, 13, 14, 15, 16, 17, 18, 19, 20, 21, 22, 23, 24, 25, 26, 27, 28, 29, 30, 31, 32, 33, 34, 35, 36, 37, 38, 39, 40, 41, 42, 43, 44, 45, 46, 47, 48, 49, 50, 51, 52, 53, 54, 55, 56, 57, 58, 59, 60, 61, 62, 63, 64, 65, 66, 67, 68, 69, 70, 71, 72, 73, 74, 75, 76, 77, 78, 79, 80, 81] (fun s => [(10, .int .i64 (s.1 : Int))]) (fun _ s H2 => lo ≤ s.1 ∧ s.1 < hi ∧ SrtS H0 p n U s.2 H2 ∧ Pm f (f + hi) cs s.2 ∧ HeapX K s.2 f lo hi s.1) (fun s => hi - s.1) (lo, cs) rfl (fun _ => rfl) ⟨rfl, trivial⟩ ⟨Nat.le_refl _, hlo, hs, Pm.refl _ _ _, HeapX.start hH⟩ (by unfold fuel0 at hn; dsimp only; omega) ?_
 rintro ⟨x, cs1⟩ g H1 ⟨hlo, hx, hs1, hp1, hX⟩
 dsimp only at hlo hx hs1 hp1 hX
 haveI := hs1.sl.one
 have e1 : IntKind.i64.wrap (2 * (x : Int)) = ((2 * x : Nat) : Int) := by rw [w64 (by omega)]; omega
 have e2 := wa1 (a := 2 * x) (by omega)
 have hge1 : ∀ z : Bool, decide (((2 * x + 1 : Nat) : Int) ≥ (hi : Int)) = z → True := fun _ _ => trivial
 clear hge1
 simp only [↓nrmL, nrmZ, qe, ↓reduceIte, qa, ze, zn]
 cases hge : decide (((2 * x + 1 : Nat) : Int) ≥ (hi : Int))
 rotate_left
 ·have hge2 := of_decide_eq_true hge
  repeat first | refine mI ?_ | refine bn rfl rfl rfl (by simp only [↓nrmL, nrmZ, qe, ↓reduceIte, qa, ze, zn, e1, e2, hge]; rfl) ?_ | refine nl hKF ?_ | refine sq ?_ | refine rg fun KF hKF => ?_ | refine ct rfl ?_ | refine Wp.block ?_ | refine xi ?_ | dsimp only
  refine rz trivial ?_
  exact ⟨cs1, hs1, hp1, hX.done fun d hd1 hd2 => by unfold kid at hd1; omega⟩
 have hge2 := of_decide_eq_false hge
 have e3 : IntKind.i64.wrap (((2 * x + 1 : Nat) : Int) + 1) = ((2 * x + 1 + 1 : Nat) : Int) := wa1 (by omega)
 have e4 := e3
 have e5 : IntKind.i64.wrap ((f : Int) + ((2 * x + 1 : Nat) : Int)) = ((f + (2 * x + 1) : Nat) : Int) := by rw [w64 (by omega)]; omega
 have e6 := wa1 (a := f + (2 * x + 1)) (by omega)
 refine Wp.block ?_
 refine sq ?_
 refine Fr.region fun KF hK1 => ?_
 repeat first | refine mI ?_ | refine bn rfl rfl rfl (by simp only [↓nrmL, nrmZ, qe, ↓reduceIte, qa, ze, zn, e1, e2]; rfl) ?_
 refine WpO.nil (hK1 _ _ ?_)
 refine sq ?_
 refine sq ?_
 refine Fr.region fun KF hK2 => ?_
 refine mI ?_
 refine mI ?_
 refine bn rfl rfl rfl (by simp only [↓nrmL, nrmZ, qe, ↓reduceIte, qa, ze, zn, hge]; rfl) ?_
 refine WpO.nil (hK2 _ _ ?_)
 refine Wp.cond (b := false) rfl ?_
 refine sk ?_
 refine Wp.seqE (σ := Nat) (fun c => [(0, p), (2, .int .i64 (hi : Int)), (3, .int .i64 (f : Int)), (4, .func (.func F) [] []), (10, .int .i64 (x : Int)), (11, .int .i64 (c : Int))]) (fun c H' => kid x c ∧ c < hi ∧ (∀ d, kid x d → d < hi → kF K cs1 f d ≤ kF K cs1 f c) ∧ SrtS H0 p n U cs1 H') ?_ ?_
 rotate_left
 ·cases hlt1 : decide (((2 * x + 1 + 1 : Nat) : Int) < (hi : Int))
  ·have hlt2 := of_decide_eq_false hlt1
   refine sq ?_
   dsimp only
   refine Fr.dregion0 rfl fun KF hKF => ?_
   repeat first | refine Fe.pure rfl rfl (by simp only [↓nrmL, nrmZ, qe, ↓reduceIte, qa, ze, zn, e3, hlt1]; rfl) ?_ | refine Fe.skip rfl ?_ | refine WpE.nil (hKF _ _ ?_)
   refine cf rfl ?_
   refine sk ?_
   dsimp only
   exact ⟨2 * x + 1, ⟨rfl, rfl, rfl, rfl, rfl, rfl, trivial⟩, Or.inl rfl, by omega, fun d hd1 hd2 => by
    rcases hd1 with e | e
    ·subst e; exact Int.le_refl _
    ·subst e; omega, hs1⟩
  have hlt2 := of_decide_eq_true hlt1
  haveI := hs1.sl
  have hwl := hs1.len
  have c1 := cAt_some (cs := cs1) (i := f + (2 * x + 1)) (by omega)
  have c2 := cAt_some (cs := cs1) (i := f + (2 * x + 1) + 1) (by omega)
  have u1 := hs1.mem (f + (2 * x + 1)) (by omega)
  have u2 := hs1.mem (f + (2 * x + 1) + 1) (by omega)
  haveI := hU.one _ u1
  haveI := hU.one _ u2
  haveI : PureCon ext prog F [cAt cs1 (f + (2 * x + 1)), cAt cs1 (f + (2 * x + 1) + 1)] H1 8 (.int .i64 (cmpI (K (cAt cs1 (f + (2 * x + 1)))) (K (cAt cs1 (f + (2 * x + 1) + 1))))) := hU.cmp H1 hs1.ex _ _ u1 u2
  refine sq ?_
  dsimp only
  refine Fr.dregion0 rfl fun KF hKF => ?_
  repeat first | refine Fe.pure rfl rfl (by simp only [↓nrmL, nrmZ, qe, ↓reduceIte, qa, ze, zn, e3, hlt1, e5, e6]; rfl) ?_ | (refine Fe.pure rfl (exec_idxP (by (try simp only [↓nrmL, nrmZ, qe, ↓reduceIte, qa, ze, zn, e3, hlt1, e5, e6]); rfl) rfl ?_) (by simp only [↓nrmL, nrmZ, qe, ↓reduceIte, qa, ze, zn, e3, hlt1, e5, e6]; rfl) ?_; (focus omega))
  refine Fe.read rfl (exec_ldP (p := p) (j := f + (2 * x + 1)) rfl c1) rfl trivial ?_
  simp only [↓nrmL, nrmZ, qe, ↓reduceIte, qa, ze, zn, e3, hlt1, e5, e6]
  repeat first | refine Fe.pure rfl rfl (by simp only [↓nrmL, nrmZ, qe, ↓reduceIte, qa, ze, zn, e3, hlt1, e5, e6]; rfl) ?_ | (refine Fe.pure rfl (exec_idxP (by (try simp only [↓nrmL, nrmZ, qe, ↓reduceIte, qa, ze, zn, e3, hlt1, e5, e6]); rfl) rfl ?_) (by simp only [↓nrmL, nrmZ, qe, ↓reduceIte, qa, ze, zn, e3, hlt1, e5, e6]; rfl) ?_; (focus omega))
  refine Fe.read rfl (exec_ldP (p := p) (j := f + (2 * x + 1) + 1) rfl c2) rfl trivial ?_
  cases hlt : decide (K (cAt cs1 (f + (2 * x + 1))) < K (cAt cs1 (f + (2 * x + 1) + 1)))
  ·have hc2 : decide (cmpI (K (cAt cs1 (f + (2 * x + 1)))) (K (cAt cs1 (f + (2 * x + 1) + 1))) < 0) = false := by rw [cmpI_neg]; exact hlt
   have hlt' := of_decide_eq_false hlt
   simp only [↓nrmL, nrmZ, qe, ↓reduceIte, qa, ze, zn, hc2]
   repeat first | refine Fe.pure rfl rfl (by simp only [↓nrmL, nrmZ, qe, ↓reduceIte, qa, ze, zn, hc2]; rfl) ?_ | (refine Fe.pcall (v' := ?_) rfl hn rfl (by simp only [↓nrmL, nrmZ, qe, ↓reduceIte, qa, ze, zn, hc2, List.map]; rfl) rfl ?hv fun _ _ => ar ?_; case hv => rfl) | refine WpE.nil (hKF _ _ ?_)
   rename AHeap => H4
   rename ExtI H1 H4 => hx4
   refine cf rfl ?_
   refine sk ?_
   dsimp only
   exact ⟨2 * x + 1, ⟨rfl, rfl, rfl, rfl, rfl, rfl, trivial⟩, Or.inl rfl, by omega, fun d hd1 hd2 => by
    rcases hd1 with e | e
    ·subst e; exact Int.le_refl _
    ·subst e; show K (cAt cs1 (f + (2 * x + 2))) ≤ K (cAt cs1 (f + (2 * x + 1))); rw [show f + (2 * x + 2) = f + (2 * x + 1) + 1 by omega]; omega, hs1.ext hx4.ext⟩
  have hc2 : decide (cmpI (K (cAt cs1 (f + (2 * x + 1)))) (K (cAt cs1 (f + (2 * x + 1) + 1))) < 0) = true := by rw [cmpI_neg]; exact hlt
  have hlt' := of_decide_eq_true hlt
  simp only [↓nrmL, nrmZ, qe, ↓reduceIte, qa, ze, zn, hc2]
  repeat first | refine Fe.pure rfl rfl (by simp only [↓nrmL, nrmZ, qe, ↓reduceIte, qa, ze, zn, hc2]; rfl) ?_ | (refine Fe.pcall (v' := ?_) rfl hn rfl (by simp only [↓nrmL, nrmZ, qe, ↓reduceIte, qa, ze, zn, hc2, List.map]; rfl) rfl ?hv fun _ _ => ar ?_; case hv => rfl) | refine WpE.nil (hKF _ _ ?_)
  rename AHeap => H4
  rename ExtI H1 H4 => hx4
  simp only [e4]
  refine ct rfl ?_
  refine rg fun KF hKF => ?_
  refine mI ?_
  refine bn rfl rfl rfl (by simp only [↓nrmL, nrmZ, qe, ↓reduceIte, qa, ze, zn, e4]; rfl) ?_
  refine mI ?_
  refine nl hKF ?_
  dsimp only
  exact ⟨2 * x + 1 + 1, ⟨rfl, rfl, rfl, rfl, rfl, rfl, trivial⟩, Or.inr rfl, by omega, fun d hd1 hd2 => by
   rcases hd1 with e | e
   ·subst e; show K (cAt cs1 (f + (2 * x + 1))) ≤ K (cAt cs1 (f + (2 * x + 1 + 1))); rw [show f + (2 * x + 1 + 1) = f + (2 * x + 1) + 1 by omega]; omega
   ·subst e; exact Int.le_refl _, hs1.ext hx4.ext⟩
 rintro c g1 H2 ⟨hkid, hc, hbest, hs2⟩
 dsimp only
 haveI := hs2.sl.one
 have hxc : x < c := by unfold kid at hkid; omega
 have e7 : IntKind.i64.wrap ((f : Int) + (x : Int)) = ((f + x : Nat) : Int) := by rw [w64 (by omega)]; omega
 have e8 : IntKind.i64.wrap ((f : Int) + (c : Int)) = ((f + c : Nat) : Int) := by rw [w64 (by omega)]; omega
 simp only [↓nrmL, nrmZ, qe, ↓reduceIte, qa, ze, zn]
 haveI := hs2.sl
 have hwl := hs2.len
 have c1 := cAt_some (cs := cs1) (i := f + x) (by omega)
 have c2 := cAt_some (cs := cs1) (i := f + c) (by omega)
 have u1 := hs2.mem (f + x) (by omega)
 have u2 := hs2.mem (f + c) (by omega)
 haveI := hU.one _ u1
 haveI := hU.one _ u2
 haveI : PureCon ext prog F [cAt cs1 (f + x), cAt cs1 (f + c)] H2 8 (.int .i64 (cmpI (K (cAt cs1 (f + x))) (K (cAt cs1 (f + c))))) := hU.cmp H2 hs2.ex _ _ u1 u2
 refine sq ?_
 refine sq ?_
 refine Fr.dregion0 rfl fun KF hKF => ?_
 repeat first | refine Fe.pure rfl rfl (by simp only [↓nrmL, nrmZ, qe, ↓reduceIte, qa, ze, zn, e7, e8]; rfl) ?_ | (refine Fe.pure rfl (exec_idxP (by (try simp only [↓nrmL, nrmZ, qe, ↓reduceIte, qa, ze, zn, e7, e8]); rfl) rfl ?_) (by simp only [↓nrmL, nrmZ, qe, ↓reduceIte, qa, ze, zn, e7, e8]; rfl) ?_; (focus omega))
 refine Fe.read rfl (exec_ldP (p := p) (j := f + x) rfl c1) rfl trivial ?_
 simp only [↓nrmL, nrmZ, qe, ↓reduceIte, qa, ze, zn, e7, e8]
 repeat first | refine Fe.pure rfl rfl (by simp only [↓nrmL, nrmZ, qe, ↓reduceIte, qa, ze, zn, e7, e8]; rfl) ?_ | (refine Fe.pure rfl (exec_idxP (by (try simp only [↓nrmL, nrmZ, qe, ↓reduceIte, qa, ze, zn, e7, e8]); rfl) rfl ?_) (by simp only [↓nrmL, nrmZ, qe, ↓reduceIte, qa, ze, zn, e7, e8]; rfl) ?_; (focus omega))
 refine Fe.read rfl (exec_ldP (p := p) (j := f + c) rfl c2) rfl trivial ?_
 cases hlt : decide (K (cAt cs1 (f + x)) < K (cAt cs1 (f + c)))
 ·have hc2 : decide (cmpI (K (cAt cs1 (f + x))) (K (cAt cs1 (f + c))) < 0) = false := by rw [cmpI_neg]; exact hlt
  have hlt' := of_decide_eq_false hlt
  simp only [↓nrmL, nrmZ, qe, ↓reduceIte, qa, ze, zn, hc2]
  repeat first | refine Fe.pure rfl rfl (by simp only [↓nrmL, nrmZ, qe, ↓reduceIte, qa, ze, zn, hc2]; rfl) ?_ | (refine Fe.pcall (v' := ?_) rfl hn rfl (by simp only [↓nrmL, nrmZ, qe, ↓reduceIte, qa, ze, zn, hc2, List.map]; rfl) rfl ?hv fun _ _ => ar ?_; case hv => rfl) | refine WpE.nil (hKF _ _ ?_)
  rename AHeap => H4
  rename ExtI H2 H4 => hx4
  refine ct rfl ?_
  refine rt ?_
  dsimp only
  refine rz trivial ?_
  exact ⟨cs1, hs2.ext hx4.ext, hp1, hX.done fun d hd1 hd2 => Int.le_trans (hbest d hd1 hd2) (by unfold kF; omega)⟩
 have hc2 : decide (cmpI (K (cAt cs1 (f + x))) (K (cAt cs1 (f + c))) < 0) = true := by rw [cmpI_neg]; exact hlt
 have hlt' := of_decide_eq_true hlt
 simp only [↓nrmL, nrmZ, qe, ↓reduceIte, qa, ze, zn, hc2]
 repeat first | refine Fe.pure rfl rfl (by simp only [↓nrmL, nrmZ, qe, ↓reduceIte, qa, ze, zn, hc2]; rfl) ?_ | (refine Fe.pcall (v' := ?_) rfl hn rfl (by simp only [↓nrmL, nrmZ, qe, ↓reduceIte, qa, ze, zn, hc2, List.map]; rfl) rfl ?hv fun _ _ => ar ?_; case hv => rfl) | refine WpE.nil (hKF _ _ ?_)
 rename AHeap => H4
 rename ExtI H2 H4 => hx4
 have hs4 := hs2.ext hx4.ext
 have hl4 := hs4.len
 refine cf rfl ?_
 refine sk ?_
 refine sq ?_
 haveI := hs4.sl
 haveI := hs4.wr
 have hwl := hs4.len
 have cw1 := cAt_some (cs := cs1) (i := f + x) (by omega)
 have cw2 := cAt_some (cs := cs1) (i := f + c) (by omega)
 haveI := hU.one _ (hs4.mem (f + x) (by omega))
 haveI := hU.one _ (hs4.mem (f + c) (by omega))
 refine Fr.dregion0 rfl fun KF hKF => ?_
 repeat first | refine Fe.pure rfl rfl (by simp only [↓nrmL, nrmZ, qe, ↓reduceIte, qa, ze, zn, e7, e8]; rfl) ?_ | (refine Fe.pure rfl (exec_idxP (by (try simp only [↓nrmL, nrmZ, qe, ↓reduceIte, qa, ze, zn, e7, e8]); rfl) rfl ?_) (by simp only [↓nrmL, nrmZ, qe, ↓reduceIte, qa, ze, zn, e7, e8]; rfl) ?_; (focus omega))
 refine Fe.read rfl (exec_ldP (p := p) (j := f + c) rfl cw2) rfl trivial ?_
 simp only [↓nrmL, nrmZ, qe, ↓reduceIte, qa, ze, zn, e7, e8]
 repeat first | refine Fe.pure rfl rfl (by simp only [↓nrmL, nrmZ, qe, ↓reduceIte, qa, ze, zn, e7, e8]; rfl) ?_ | (refine Fe.pure rfl (exec_idxP (by (try simp only [↓nrmL, nrmZ, qe, ↓reduceIte, qa, ze, zn, e7, e8]); rfl) rfl ?_) (by simp only [↓nrmL, nrmZ, qe, ↓reduceIte, qa, ze, zn, e7, e8]; rfl) ?_; (focus omega))
 refine Fe.read rfl (exec_ldP (p := p) (j := f + x) rfl cw1) rfl trivial ?_
 simp only [↓nrmL, nrmZ, qe, ↓reduceIte, qa, ze, zn, e7, e8]
 refine Fe.pure rfl (exec_idxP (by (try simp only [↓nrmL, nrmZ, qe, ↓reduceIte, qa, ze, zn, e7, e8]); rfl) rfl ?_) (by simp only [↓nrmL, nrmZ, qe, ↓reduceIte, qa, ze, zn, e7, e8]; rfl) ?_; (focus omega)
 refine WpE.stC (p := p) (j := f + x) (v := cAt cs1 (f + c)) rfl rfl rfl (by omega) fun Hw1 q1 q2 q3 => ar ?_
 simp only [↓nrmL, nrmZ, qe, ↓reduceIte, qa, ze, zn, e7, e8]
 refine Fe.pure rfl (exec_idxP (by (try simp only [↓nrmL, nrmZ, qe, ↓reduceIte, qa, ze, zn, e7, e8]); rfl) rfl ?_) (by simp only [↓nrmL, nrmZ, qe, ↓reduceIte, qa, ze, zn, e7, e8]; rfl) ?_; (focus omega)
 refine WpE.stC (p := p) (j := f + c) (v := cAt cs1 (f + x)) rfl rfl rfl (by rw [List.length_set]; omega) fun Hw q4 q5 q6 => ar ?_
 have hw : SrtS H0 p n U (swp cs1 (f + x) (f + c)) Hw := hs4.swp (by omega) (by omega) q4 q5 (q3.trans q6)
 have hwp : Pm f (f + hi) cs1 (swp cs1 (f + x) (f + c)) := Pm.swp (by omega) (by omega) (by omega)
 refine WpE.nil (hKF _ _ ?_)
 refine rg fun KF hKF => ?_
 refine mI ?_
 refine mI ?_
 refine nl hKF ?_
 dsimp only
 exact ⟨(c, swp cs1 (f + x) (f + c)), by dsimp only; omega, ⟨rfl, trivial⟩, by dsimp only; omega, by dsimp only; omega, hw, hp1.trans hwp, hX.step hlo hkid hc (by omega) hbest (by unfold kF; exact hlt')⟩
end Go.Am

namespace Go.Am
open Go
open Nat renaming reduceEqDiff → qe, reduceAdd → qa
open Int renaming reduceBEq → ze, reduceBNe → zn
attribute [local irreducible] Wp WpO WpX WpE
theorem K_sift0 {H0 H : AHeap} {p : AVal} {n f : Nat} {F : FuncId} {U : AVal → Prop} {cs : List AVal} (hs : SrtS H0 p n U cs H) : Con ext prog 9 134 [p, .int .i64 0, .int .i64 0, .int .i64 (f : Int), .func (.func F) [] []] H fun _ H' => SrtS H0 p n U cs H' := by
 refine con_of (show prog 134 = some c134 from rfl) rfl rfl fun N hn => ?_
 haveI := hs.sl.one
 refine sq ?_
 refine rg fun KF hKF => ?_
 refine mI ?_
 refine mI ?_
 refine nl hKF ?_
 refine Wp.block ?_
 dsimp only
 refine Wp.loopS [10, 11, 13, 14, 15, 16, 17, 18, 19, 20, 21, 22, 23, 24, 25, 26, 27, 28, 29, 30, 31, 32, 33, 34, 35, 36, 37, 38, 39, 40, 41, 42, 43, 44, 45, 46, 47, 48, 49, 50, 51, 52, 53, 54, 55, 56, 57, 58, 59, 60, 61, 62, 63, 64, 65, 66, 67, 68, 69, 70, 71, 72, 73, 74, 75, 76, 77, 78, 79, 80, 81] (fun _ : Unit => [(10, .int .i64 0)]) (fun _ _ H2 => SrtS H0 p n U cs H2) (fun _ => 0) () rfl (fun _ => rfl) ⟨rfl, trivial⟩ hs (by unfold fuel0 at hn; omega) ?_
 rintro _ g H1 hs1
 have e1 : IntKind.i64.wrap (2 * (0 : Int)) = 0 := rfl
 have e2 : IntKind.i64.wrap ((0 : Int) + 1) = 1 := rfl
 have e3 : decide ((1 : Int) ≥ 0) = true := rfl
 simp only [↓nrmL, nrmZ, qe, ↓reduceIte, qa, ze, zn]
 repeat first | refine mI ?_ | refine bn rfl rfl rfl (by simp only [↓nrmL, nrmZ, qe, ↓reduceIte, qa, ze, zn, e1, e2, e3]; rfl) ?_ | refine nl hKF ?_ | refine sq ?_ | refine rg fun KF hKF => ?_ | refine ct rfl ?_ | refine Wp.block ?_ | refine xi ?_ | dsimp only
 refine rz trivial ?_
 exact hs1
theorem K_heapSort {H0 H : AHeap} {p : AVal} {n a b : Nat} {F : FuncId} {U : AVal → Prop} {K : AVal → Int} {cs : List AVal} (hU : SrtU ext prog H0 p F U K) (hs : SrtS H0 p n U cs H) (hab : a < b) (hb : b ≤ n) (hn40 : n ≤ 2 ^ 40) : Con ext prog 10 115 [p, .int .i64 (a : Int), .int .i64 (b : Int), .func (.func F) [] []] H fun _ H' => ∃ cs', SrtS H0 p n U cs' H' ∧ Pm a b cs cs' ∧ Srd K cs' a b := by
 refine con_of (show prog 115 = some c115 from rfl) rfl rfl fun N hn => ?_
 haveI := hs.sl.one
 obtain ⟨l, hl⟩ : ∃ l, b = a + l := ⟨b - a, by omega⟩
 subst hl
 have e1 : IntKind.i64.wrap (((a + l : Nat) : Int) - (a : Int)) = (l : Int) := by rw [w64 (by omega)]; omega
 have e2 : IntKind.i64.wrap ((l : Int) - 1) = ((l - 1 : Nat) : Int) := by rw [w64 (by omega)]; omega
 have e3 : IntKind.i64.wrap (((l - 1 : Nat) : Int).tdiv 2) = (((l - 1) / 2 + 1 : Nat) : Int) - 1 := by
  have e : ((l - 1 : Nat) : Int).tdiv 2 = (((l - 1) / 2 : Nat) : Int) := rfl
  rw [e, w64 (by omega)]; omega
 have e4 : ((l - 1 : Nat) : Int) = ((l : Nat) : Int) - 1 := by omega
 repeat first | refine mI ?_ | refine bn rfl rfl rfl (by simp only [↓nrmL, nrmZ, qe, ↓reduceIte, qa, ze, zn, e1, e2, e3]; rfl) ?_ | refine nl hKF ?_ | refine sq ?_ | refine rg fun KF hKF => ?_ | refine Wp.block ?_ | dsimp only
 refine Wp.loopS (σ := Nat × List AVal) [11, 20, 21, 22, 23, 24, 25, 26, 27, 28, 29] (fun s => [(11, .int .i64 ((s.1 : Int) - 1))]) (fun _ s H2 => s.1 ≤ l ∧ SrtS H0 p n U s.2 H2 ∧ Pm a (a + l) cs s.2 ∧ HeapF K s.2 a s.1 l) (fun s => s.1) ((l - 1) / 2 + 1, cs) rfl (fun _ => rfl) ⟨rfl, trivial⟩ ⟨by dsimp only; omega, hs, Pm.refl _ _ _, fun r c h1 h2 h3 => by unfold kid at h2; dsimp only at h1; omega⟩ (by unfold fuel0 at hn; dsimp only; omega) ?_
 rintro ⟨k, cs1⟩ g H1 ⟨hk, hs1, hp1, hH⟩
 dsimp only at hk hs1 hp1 hH
 haveI := hs1.sl.one
 simp only [↓nrmL, nrmZ, qe, ↓reduceIte, qa, ze, zn]
 cases hge : decide ((k : Int) - 1 ≥ 0)
 rotate_left
 ·have hge2 := of_decide_eq_true hge
  obtain ⟨k0, rfl⟩ : ∃ k0, k = k0 + 1 := ⟨k - 1, by omega⟩
  have e5 : ((k0 + 1 : Nat) : Int) - 1 = (k0 : Int) := by omega
  rw [e5] at hge ⊢
  have e6 : IntKind.i64.wrap ((k0 : Int) - 1) = (k0 : Int) - 1 := w64 (by omega)
  repeat first | refine mI ?_ | refine mF ?_ | refine mv ?_ | refine bn rfl rfl rfl (by simp only [↓nrmL, nrmZ, qe, ↓reduceIte, qa, ze, zn, hge]; rfl) ?_ | refine nl hKF ?_ | refine sq ?_ | refine rg fun KF hKF => ?_ | refine ct rfl ?_ | refine sk ?_ | refine Wp.block ?_
  refine WpO.do (WpX.conD hn rfl rfl (by simp only [↓nrmL, nrmZ, qe, ↓reduceIte, qa, ze, zn, List.map] <;> rfl) (K_sift (f := a) (lo := k0) (hi := l) hU hs1 (by omega) hb hn40 hH) fun v H2 h5 => ?_)
  obtain ⟨cs2, hs2, hp2, hH2⟩ := h5
  repeat first | refine mI ?_ | refine bn rfl rfl rfl (by simp only [↓nrmL, nrmZ, qe, ↓reduceIte, qa, ze, zn, e6]; rfl) ?_ | refine nl hKF ?_ | refine rg fun KF hKF => ?_ | dsimp only
  exact ⟨(k0, cs2), by dsimp only; omega, ⟨rfl, trivial⟩, by dsimp only; omega, hs2, hp1.trans hp2, hH2⟩
 have hge2 := of_decide_eq_false hge
 have hk0 : k = 0 := by omega
 subst hk0
 simp only [hge, e2, e4]
 repeat first | refine mI ?_ | refine bn rfl rfl rfl (by simp only [↓nrmL, nrmZ, qe, ↓reduceIte, qa, ze, zn, hge, e2, e4]; rfl) ?_ | refine nl hKF ?_ | refine sq ?_ | refine rg fun KF hKF => ?_ | refine cf rfl ?_ | refine Wp.block ?_ | refine xi ?_ | dsimp only
 refine Wp.loopS (σ := Nat × List AVal) [12, 32, 33, 34, 35, 36, 37, 38, 39, 40, 41, 42, 43, 44, 45, 46, 47, 48, 49, 50, 51, 52, 53, 54, 55, 56, 57, 58, 59] (fun s => [(12, .int .i64 ((s.1 : Int) - 1))]) (fun _ s H2 => s.1 ≤ l ∧ SrtS H0 p n U s.2 H2 ∧ Pm a (a + l) cs s.2 ∧ PopS K s.2 a l s.1) (fun s => s.1) (l, cs1) rfl (fun _ => rfl) ⟨rfl, trivial⟩ ⟨Nat.le_refl _, hs1, hp1, ⟨hH, fun s t h1 h2 h3 => by dsimp only at h1; omega, fun s t h1 h2 h3 => by dsimp only at h2; omega⟩⟩ (by unfold fuel0 at hn; dsimp only; omega) ?_
 rintro ⟨k, cs3⟩ g3 H3 ⟨hk, hs3, hp3, hP⟩
 dsimp only at hk hs3 hp3 hP
 haveI := hs3.sl.one
 simp only [↓nrmL, nrmZ, qe, ↓reduceIte, qa, ze, zn]
 cases hge' : decide ((k : Int) - 1 ≥ 0)
 ·have hge3 := of_decide_eq_false hge'
  have hk0 : k = 0 := by omega
  subst hk0
  refine sq ?_
  refine sq ?_
  refine rg fun KF hKF => ?_
  refine mI ?_
  refine bn rfl rfl rfl (by simp only [↓nrmL, nrmZ, qe, ↓reduceIte, qa, ze, zn, hge']; rfl) ?_
  refine nl hKF ?_
  refine cf rfl ?_
  refine xi ?_
  dsimp only
  refine rz trivial ?_
  refine ⟨cs3, hs3, hp3, fun i j h1 h2 h3 => ?_⟩
  have := hP.tail (i - a) (j - a) (Nat.zero_le _) (by omega) (by omega)
  unfold kF at this
  rwa [show a + (i - a) = i by omega, show a + (j - a) = j by omega] at this
 have hge3 := of_decide_eq_true hge'
 obtain ⟨i, rfl⟩ : ∃ i, k = i + 1 := ⟨k - 1, by omega⟩
 have e5 : ((i + 1 : Nat) : Int) - 1 = (i : Int) := by omega
 rw [e5] at hge' ⊢
 have e6 : IntKind.i64.wrap ((i : Int) - 1) = (i : Int) - 1 := w64 (by omega)
 have e7 : IntKind.i64.wrap ((a : Int) + (i : Int)) = ((a + i : Nat) : Int) := by rw [w64 (by omega)]; omega
 repeat first | refine mI ?_ | refine bn rfl rfl rfl (by simp only [↓nrmL, nrmZ, qe, ↓reduceIte, qa, ze, zn, hge']; rfl) ?_ | refine nl hKF ?_ | refine sq ?_ | refine rg fun KF hKF => ?_ | refine ct rfl ?_ | refine sk ?_ | refine Wp.block ?_ | dsimp only
 haveI := hs3.sl
 haveI := hs3.wr
 have hwl := hs3.len
 have cw1 := cAt_some (cs := cs3) (i := a) (by omega)
 have cw2 := cAt_some (cs := cs3) (i := a + i) (by omega)
 haveI := hU.one _ (hs3.mem (a) (by omega))
 haveI := hU.one _ (hs3.mem (a + i) (by omega))
 refine Fr.dregion0 rfl fun KF hKF => ?_
 repeat first | refine Fe.pure rfl rfl (by simp only [↓nrmL, nrmZ, qe, ↓reduceIte, qa, ze, zn, e7]; rfl) ?_ | (refine Fe.pure rfl (exec_idxP (by (try simp only [↓nrmL, nrmZ, qe, ↓reduceIte, qa, ze, zn, e7]); rfl) rfl ?_) (by simp only [↓nrmL, nrmZ, qe, ↓reduceIte, qa, ze, zn, e7]; rfl) ?_; (focus omega))
 refine Fe.read rfl (exec_ldP (p := p) (j := a + i) rfl cw2) rfl trivial ?_
 simp only [↓nrmL, nrmZ, qe, ↓reduceIte, qa, ze, zn, e7]
 refine Fe.pure rfl rfl (by simp only [↓nrmL, nrmZ, qe, ↓reduceIte, qa, ze, zn, e7]; rfl) ?_
 refine Fe.pure rfl rfl (by simp only [↓nrmL, nrmZ, qe, ↓reduceIte, qa, ze, zn, e7]; rfl) ?_
 refine Fe.pure rfl (exec_idxP (by (try simp only [↓nrmL, nrmZ, qe, ↓reduceIte, qa, ze, zn, e7]); rfl) rfl ?_) (by simp only [↓nrmL, nrmZ, qe, ↓reduceIte, qa, ze, zn, e7]; rfl) ?_; (focus omega)
 refine Fe.read rfl (exec_ldP (p := p) (j := a) rfl cw1) rfl trivial ?_
 simp only [↓nrmL, nrmZ, qe, ↓reduceIte, qa, ze, zn, e7]
 refine Fe.pure rfl (exec_idxP (by (try simp only [↓nrmL, nrmZ, qe, ↓reduceIte, qa, ze, zn, e7]); rfl) rfl ?_) (by simp only [↓nrmL, nrmZ, qe, ↓reduceIte, qa, ze, zn, e7]; rfl) ?_; (focus omega)
 refine WpE.stC (p := p) (j := a) (v := cAt cs3 (a + i)) rfl rfl rfl (by omega) fun Hw1 q1 q2 q3 => ar ?_
 simp only [↓nrmL, nrmZ, qe, ↓reduceIte, qa, ze, zn, e7]
 refine Fe.pure rfl (exec_idxP (by (try simp only [↓nrmL, nrmZ, qe, ↓reduceIte, qa, ze, zn, e7]); rfl) rfl ?_) (by simp only [↓nrmL, nrmZ, qe, ↓reduceIte, qa, ze, zn, e7]; rfl) ?_; (focus omega)
 refine WpE.stC (p := p) (j := a + i) (v := cAt cs3 (a)) rfl rfl rfl (by rw [List.length_set]; omega) fun Hw q4 q5 q6 => ar ?_
 have hw : SrtS H0 p n U (swp cs3 (a) (a + i)) Hw := hs3.swp (by omega) (by omega) q4 q5 (q3.trans q6)
 have hwp : Pm a (a + l) cs3 (swp cs3 (a) (a + i)) := Pm.swp (by omega) (by omega) (by omega)
 refine WpE.nil (hKF _ _ ?_)
 have hpop := hP.swp (by omega) (by omega)
 haveI := hw.sl.one
 by_cases hi0 : i = 0
 ·subst hi0
  repeat first | refine mI ?_ | refine mF ?_ | refine mv ?_ | refine rg fun KF hKF => ?_
  refine WpO.do (WpX.conD hn rfl rfl (by simp only [↓nrmL, nrmZ, qe, ↓reduceIte, qa, ze, zn, List.map] <;> rfl) (K_sift0 hw) fun v H5 h5 => ?_)
  simp only [↓nrmL, nrmZ, qe, ↓reduceIte, qa, ze, zn, e6]
  repeat first | refine mI ?_ | refine bn rfl rfl rfl (by simp only [↓nrmL, nrmZ, qe, ↓reduceIte, qa, ze, zn, e6]; rfl) ?_ | refine nl hKF ?_ | refine rg fun KF hKF => ?_ | dsimp only
  exact ⟨(0, swp cs3 a (a + 0)), by dsimp only; omega, ⟨rfl, trivial⟩, by dsimp only; omega, h5, hp3.trans hwp, PopS.next (Pm.refl _ _ _) (fun r c h1 h2 h3 => by omega) hpop.2.1 hpop.2.2⟩
 repeat first | refine mI ?_ | refine mF ?_ | refine mv ?_ | refine rg fun KF hKF => ?_
 refine WpO.do (WpX.conD hn rfl rfl (by simp only [↓nrmL, nrmZ, qe, ↓reduceIte, qa, ze, zn, List.map] <;> rfl) (K_sift (f := a) (lo := 0) (hi := i) hU hw (by omega) (by omega) hn40 hpop.1) fun v H5 h5 => ?_)
 obtain ⟨cs5, hs5, hp5, hH5⟩ := h5
 simp only [↓nrmL, nrmZ, qe, ↓reduceIte, qa, ze, zn, e6]
 repeat first | refine mI ?_ | refine bn rfl rfl rfl (by simp only [↓nrmL, nrmZ, qe, ↓reduceIte, qa, ze, zn, e6]; rfl) ?_ | refine nl hKF ?_ | refine rg fun KF hKF => ?_ | dsimp only
 exact ⟨(i, cs5), by dsimp only; omega, ⟨rfl, trivial⟩, by dsimp only; omega, hs5, (hp3.trans hwp).trans (hp5.weak (Nat.le_refl _) (by omega)), PopS.next hp5 hH5 hpop.2.1 hpop.2.2⟩
end Go.Am

namespace Go.Am
open Go
open Nat renaming reduceEqDiff → qe, reduceAdd → qa
open Int renaming reduceBEq → ze, reduceBNe → zn
attribute [local irreducible] Wp WpO WpX WpE
def lenB : ByteArray := ⟨#[0, 1, 2, 2, 3, 3, 3, 3, 4, 4, 4, 4, 4, 4, 4, 4, 5, 5, 5, 5, 5, 5, 5, 5, 5, 5, 5, 5, 5, 5, 5, 5, 6, 6, 6, 6, 6, 6, 6, 6, 6, 6, 6, 6, 6, 6, 6, 6, 6, 6, 6, 6, 6, 6, 6, 6, 6, 6, 6, 6, 6, 6, 6, 6, 7, 7, 7, 7, 7, 7, 7, 7, 7, 7, 7, 7, 7, 7, 7, 7, 7, 7, 7, 7, 7, 7, 7, 7, 7, 7, 7, 7, 7, 7, 7, 7, 7, 7, 7, 7, 7, 7, 7, 7, 7, 7, 7, 7, 7, 7, 7, 7, 7, 7, 7, 7, 7, 7, 7, 7, 7, 7, 7, 7, 7, 7, 7, 7, 8, 8, 8, 8, 8, 8, 8, 8, 8, 8, 8, 8, 8, 8, 8, 8, 8, 8, 8, 8, 8, 8, 8, 8, 8, 8, 8, 8, 8, 8, 8, 8, 8, 8, 8, 8, 8, 8, 8, 8, 8, 8, 8, 8, 8, 8, 8, 8, 8, 8, 8, 8, 8, 8, 8, 8, 8, 8, 8, 8, 8, 8, 8, 8, 8, 8, 8, 8, 8, 8, 8, 8, 8, 8, 8, 8, 8, 8, 8, 8, 8, 8, 8, 8, 8, 8, 8, 8, 8, 8, 8, 8, 8, 8, 8, 8, 8, 8, 8, 8, 8, 8, 8, 8, 8, 8, 8, 8, 8, 8, 8, 8, 8, 8, 8, 8, 8, 8, 8, 8, 8, 8, 8, 8, 8, 8, 8, 8]⟩
def lenN (x : Nat) : Nat := (lenB.data.getD x 0).toNat
theorem lenN_ok : ∀ x : Fin 256, x.val = 0 ∨ (x.val < 2 ^ lenN x.val ∧ 2 ^ lenN x.val ≤ 2 * x.val ∧ lenN x.val ≤ 8) := by decide +kernel
theorem Fo.byteAt {call : ACall} {fr : AFrame} {H : AHeap} {KF : AFrame → AHeap → Prop} {os : List ROper} {d : Nat} {x i : ROpd} {k : IntKind} {j : Nat} (hx : x.ev fr = .str lenB) (hi : i.ev fr = .int k (j : Int)) (hj : j < lenB.size) (h : WpO call os (upd fr d (.int .u8 (lenN j : Int))) H KF) : WpO call (⟨some d, .indexStr x i, none⟩ :: os) fr H KF := by
 have h0 : (0 : Int) ≤ (j : Int) := by omega
 have hv : lenB[j].toNat = lenN j := by
  have hj2 : j < lenB.data.size := hj
  unfold lenN
  rw [Array.getD_eq_getD_getElem?, Array.getElem?_eq_getElem hj2]
  rfl
 have hb : (ROp.indexStr x i).exec call fr H = some (.int .u8 (lenN j : Int), H) := by
  simp only [ROp.exec, hx, hi, aIndexStr, if_pos h0, Int.toNat_natCast, getElem?_pos lenB j hj, M.ofOption, M.pure, hv]
 exact Fo.now rfl hb rfl h
theorem K_LenX64 {x : Nat} {H : AHeap} (hx : x < 256) : Con ext prog 1 123 [.int .u64 (x : Int)] H fun v H' => v = .int .i64 (lenN x : Int) ∧ Ext H H' := by
 refine con_of (show prog 123 = some c123 from rfl) rfl rfl fun n hn => ?_
 have d1 : decide ((x : Int) ≥ 4294967296) = false := decide_eq_false (by omega)
 have d2 : decide ((x : Int) ≥ 65536) = false := decide_eq_false (by omega)
 have d3 : decide ((x : Int) ≥ 256) = false := decide_eq_false (by omega)
 have w1 : IntKind.u8.wrap (x : Int) = (x : Int) := by
  have e : ((x : Int) % 256) = (x : Int) := Int.emod_eq_of_lt (by omega) (by omega)
  show (x : Int) % (2 ^ 8 : Int) = x
  simpa using e
 have hle : lenN x ≤ 256 := by
  rcases lenN_ok ⟨x, hx⟩ with h | h
  ·have e : x = 0 := h
   subst e; decide
  ·have := h.2.2; dsimp only at this; omega
 simp only [d1, d2, d3, w1]
 repeat first | refine mI ?_ | refine bn rfl rfl rfl (by simp only [↓nrmL, nrmZ, qe, ↓reduceIte, qa, ze, zn, d1, d2, d3, w1]; rfl) ?_ | refine Fo.now rfl rfl (by simp only [↓nrmL, nrmZ, qe, ↓reduceIte, qa, ze, zn, d1, d2, d3, w1]; rfl) ?_ | refine nl hKF ?_ | refine sq ?_ | refine rg fun KF hKF => ?_ | refine cf rfl ?_ | refine sk ?_
 refine Fo.byteAt (k := .u8) (j := x) rfl rfl hx ?_
 have w2 : IntKind.i64.wrap (lenN x : Int) = (lenN x : Int) := w64 (by omega)
 have w3 : IntKind.i64.wrap (0 + (lenN x : Int)) = (lenN x : Int) := by rw [Int.zero_add]; exact w2
 refine Fo.now rfl rfl (by simp only [↓nrmL, nrmZ, qe, ↓reduceIte, qa, ze, zn, w2, w3]; rfl) ?_
 refine bn rfl rfl rfl (by simp only [↓nrmL, nrmZ, qe, ↓reduceIte, qa, ze, zn, w2, w3]; rfl) ?_
 refine mI ?_
 refine nl hKF ?_
 refine rt ?_
 dsimp only
 refine rz trivial ?_
 exact ⟨rfl, Ext0.ext⟩
theorem K_LenX {x : Nat} {H : AHeap} (hx : x < 256) : Con ext prog 2 98 [.int .u64 (x : Int)] H fun v H' => v = .int .i64 (lenN x : Int) ∧ Ext H H' := by
 refine con_of (show prog 98 = some c98 from rfl) rfl rfl fun n hn => ?_
 haveI : ∀ H, PureCon ext prog 123 [.int .u64 (x : Int)] H 1 (.int .i64 (lenN x : Int)) := fun H => ⟨K_LenX64 hx⟩
 repeat first | refine mI ?_ | (refine Fo.pcall (v' := ?_) hn rfl (by simp only [↓nrmL, nrmZ, qe, ↓reduceIte, qa, ze, zn, List.map]; rfl) rfl ?hv fun _ _ => ?_; case hv => rfl) | refine nl hKF ?_ | refine sq ?_ | refine rg fun KF hKF => ?_ | refine cf rfl ?_ | refine sk ?_ | refine rt ?_ | dsimp only
 refine rz trivial ?_
 exact ⟨rfl, Ext0.ext⟩
theorem K_pow2 {x : Nat} {H : AHeap} (hx : x < 256) : Con ext prog 3 135 [.int .i64 (x : Int)] H fun v H' => v = .int .u64 ((2 ^ lenN x : Nat) : Int) ∧ Ext H H' := by
 refine con_of (show prog 135 = some c135 from rfl) rfl rfl fun n hn => ?_
 haveI : ∀ H, PureCon ext prog 98 [.int .u64 (x : Int)] H 2 (.int .i64 (lenN x : Int)) := fun H => ⟨K_LenX hx⟩
 have w1 : IntKind.u64.wrap (x : Int) = (x : Int) := by
  show (x : Int) % (2 ^ 64 : Int) = x
  omega
 have hle : lenN x ≤ 8 := by
  rcases lenN_ok ⟨x, hx⟩ with h | h
  ·have e : x = 0 := h
   subst e; decide
  ·exact h.2.2
 have w2 : IntKind.u64.wrap (1 * 2 ^ (min (lenN x) IntKind.u64.bits)) = ((2 ^ lenN x : Nat) : Int) := by
  obtain ⟨k, hk⟩ : ∃ k, lenN x = k := ⟨_, rfl⟩
  rw [hk] at hle ⊢
  have : k = 0 ∨ k = 1 ∨ k = 2 ∨ k = 3 ∨ k = 4 ∨ k = 5 ∨ k = 6 ∨ k = 7 ∨ k = 8 := by omega
  rcases this with rfl | rfl | rfl | rfl | rfl | rfl | rfl | rfl | rfl <;> rfl
 repeat first | refine mI ?_ | refine bn rfl rfl rfl (by simp only [↓nrmL, nrmZ, qe, ↓reduceIte, qa, ze, zn, w1, w2]; rfl) ?_ | (refine Fo.pcall (v' := ?_) hn rfl (by simp only [↓nrmL, nrmZ, qe, ↓reduceIte, qa, ze, zn, w1, w2, List.map]; rfl) rfl ?hv fun _ _ => ?_; case hv => rfl) | refine Fo.now rfl rfl (by simp only [↓nrmL, nrmZ, qe, ↓reduceIte, qa, ze, zn, w1, w2]; rfl) ?_ | refine nl hKF ?_ | refine sq ?_ | refine rg fun KF hKF => ?_ | refine rt ?_ | dsimp only
 refine rz trivial ?_
 exact ⟨rfl, Ext0.ext⟩
theorem K_Next {r : Nat} {z : Int} {e : TypeId} {H : AHeap} (hk : HasRow H r [.int .u64 z] true e) : Con ext prog 1 136 [.ptr r 0] H fun v H' => ∃ z' : Int, v = .int .u64 z' ∧ HasRow H' r [.int .u64 z'] true e ∧ H.n ≤ H'.n ∧ ∀ s, s < H.n → s ≠ r → H'.get s = H.get s := by
 refine con_of (show prog 136 = some c136 from rfl) rfl rfl fun n hn => ?_
 haveI := hk
 have hr := hk.lt
 refine sq ?_
 refine rg fun KF hKF => ?_
 refine mI ?_
 refine nl hKF ?_
 refine sq ?_
 refine Fr.dregion0 rfl fun KF hKF => ?_
 repeat first | refine Er rfl (exec_ld rfl rfl) rfl ?_ | refine Fe.pure rfl rfl (by simp only [↓nrmL, nrmZ, qe, ↓reduceIte, qa, ze, zn]; rfl) ?_ | refine Fe.pure rfl rfl rfl ?_ | refine Ee rfl (xs rfl (by (try simp only [↓nrmL, nrmZ, qe, ↓reduceIte, qa, ze, zn]); rfl) rfl rfl rfl (by (try simp only [↓nrmL, nrmZ, qe, ↓reduceIte, qa, ze, zn]); rfl)) ?_ | refine WpE.nil (hKF _ _ ?_)
 refine sq ?_
 refine Fr.dregion0 rfl fun KF hKF => ?_
 repeat first | refine Er rfl (exec_ld rfl rfl) rfl ?_ | refine Fe.pure rfl rfl (by simp only [↓nrmL, nrmZ, qe, ↓reduceIte, qa, ze, zn]; rfl) ?_ | refine Fe.pure rfl rfl rfl ?_ | refine Ee rfl (xs rfl (by (try simp only [↓nrmL, nrmZ, qe, ↓reduceIte, qa, ze, zn]); rfl) rfl rfl rfl (by (try simp only [↓nrmL, nrmZ, qe, ↓reduceIte, qa, ze, zn]); rfl)) ?_ | refine WpE.nil (hKF _ _ ?_)
 refine sq ?_
 refine Fr.dregion0 rfl fun KF hKF => ?_
 repeat first | refine Er rfl (exec_ld rfl rfl) rfl ?_ | refine Fe.pure rfl rfl (by simp only [↓nrmL, nrmZ, qe, ↓reduceIte, qa, ze, zn]; rfl) ?_ | refine Fe.pure rfl rfl rfl ?_ | refine Ee rfl (xs rfl (by (try simp only [↓nrmL, nrmZ, qe, ↓reduceIte, qa, ze, zn]); rfl) rfl rfl rfl (by (try simp only [↓nrmL, nrmZ, qe, ↓reduceIte, qa, ze, zn]); rfl)) ?_ | refine WpE.nil (hKF _ _ ?_)
 refine sq ?_
 refine rg fun KF hKF => ?_
 refine mP ?_
 refine Fo.now rfl rfl rfl ?_
 refine Fo.ld rfl rfl ?_
 refine mI ?_
 refine nl hKF ?_
 refine rt ?_
 dsimp only
 refine rz trivial ?_
 exact ⟨_, rfl, inferInstance, Nat.le_refl _, fun s hs hne => by rw [set_get_ne hne, set_get_ne hne, set_get_ne hne]⟩
theorem bitsM (z : Int) (M : Nat) (hM : M < 1000) : ∃ k : Nat, k ≤ M ∧ Go.bits .and .u64 z (M : Int) = (k : Int) := by
 refine ⟨(BitVec.ofInt 64 z &&& BitVec.ofInt 64 (M : Int)).toNat, ?_, ?_⟩
 ·rw [BitVec.toNat_and]
  have h1 : (BitVec.ofInt 64 z).toNat &&& (BitVec.ofInt 64 (M : Int)).toNat ≤ (BitVec.ofInt 64 (M : Int)).toNat := Nat.and_le_right
  have h2 : (BitVec.ofInt 64 (M : Int)).toNat = M := by
   rw [BitVec.toNat_ofInt]
   omega
  omega
 ·show IntKind.u64.wrap ((BitVec.ofInt 64 z &&& BitVec.ofInt 64 (M : Int)).toNat : Int) = _
  have h1 := (BitVec.ofInt 64 z &&& BitVec.ofInt 64 (M : Int)).isLt
  show ((BitVec.ofInt 64 z &&& BitVec.ofInt 64 (M : Int)).toNat : Int) % (2 ^ 64 : Int) = _
  omega
theorem SrtS.keep {H0 H H' : AHeap} {p : AVal} {n sp : Nat} {U : AVal → Prop} {cs : List AVal} (h : SrtS H0 p n U cs H) (hl : Low H0 p) (hsp : H0.n ≤ sp) (hn : H.n ≤ H'.n) (hg : ∀ s, s < H.n → s ≠ sp → H'.get s = H.get s) : SrtS H0 p n U cs H' := by
 have hne := hl.ne hsp
 have hp : ∀ r off len cap sz, p = .slice r off len cap sz → r ≠ sp := fun r off len cap sz e => hne.ne r off len cap sz e
 refine ⟨h.sl.keep hn fun s _ _ _ _ e hs => hg s hs (hp _ _ _ _ _ e), h.wr.keep fun r _ _ _ _ e => hg r (h.sl.lt e) (hp _ _ _ _ _ e), ⟨Nat.le_trans h.ex.n hn, fun r hr hq => by rw [hg r (Nat.lt_of_lt_of_le hr h.ex.n) (by omega), h.ex.get r hr hq]⟩, h.mem⟩
theorem K_break {H0 H : AHeap} {p : AVal} {n a b : Nat} {F : FuncId} {U : AVal → Prop} {K : AVal → Int} {cs : List AVal} (hU : SrtU ext prog H0 p F U K) (hs : SrtS H0 p n U cs H) (hl : Low H0 p) (hab : a + 8 ≤ b) (hb : b ≤ n) (hn200 : n ≤ 200) : Con ext prog 9 116 [p, .int .i64 (a : Int), .int .i64 (b : Int), .func (.func F) [] []] H fun _ H' => ∃ cs', SrtS H0 p n U cs' H' ∧ Pm a b cs cs' := by
 refine con_of (show prog 116 = some c116 from rfl) rfl rfl fun N hn => ?_
 haveI := hs.sl.one
 obtain ⟨l, hl'⟩ : ∃ l, b = a + l := ⟨b - a, by omega⟩
 subst hl'
 have e1 : IntKind.i64.wrap (((a + l : Nat) : Int) - (a : Int)) = (l : Int) := by rw [w64 (by omega)]; omega
 have e2 : decide ((l : Int) ≥ 8) = true := decide_eq_true (by omega)
 have e3 : IntKind.u64.wrap (l : Int) = (l : Int) := by
  show (l : Int) % (2 ^ 64 : Int) = l
  omega
 obtain ⟨m, hm⟩ : ∃ m, l / 4 = m := ⟨_, rfl⟩
 have e4 : IntKind.i64.wrap ((l : Int).tdiv 4) = (m : Int) := by
  have e : (l : Int).tdiv 4 = ((l / 4 : Nat) : Int) := rfl
  rw [e, w64 (by omega), hm]
 have e5 : IntKind.i64.wrap ((m : Int) * 2) = ((2 * m : Nat) : Int) := by rw [w64 (by omega)]; omega
 have e6 : IntKind.i64.wrap ((a : Int) + ((2 * m : Nat) : Int)) = ((a + 2 * m : Nat) : Int) := by rw [w64 (by omega)]; omega
 have e7 : IntKind.i64.wrap (((a + 2 * m : Nat) : Int) - 1) = ((a + 2 * m - 1 : Nat) : Int) := by rw [w64 (by omega)]; omega
 have e8 := wa1 (a := a + 2 * m) (by omega)
 have hP : l < 2 ^ lenN l ∧ 2 ^ lenN l ≤ 2 * l := by
  rcases lenN_ok ⟨l, by omega⟩ with h | h
  ·have e : l = 0 := h
   omega
  ·exact ⟨h.1, h.2.1⟩
 obtain ⟨P, hPe⟩ : ∃ P, 2 ^ lenN l = P := ⟨_, rfl⟩
 haveI : ∀ H, PureCon ext prog 135 [.int .i64 (l : Int)] H 3 (.int .u64 (P : Int)) := fun H => ⟨by rw [← hPe]; exact K_pow2 (by omega)⟩
 rw [hPe] at hP
 have e9 : IntKind.u64.wrap ((P : Int) - 1) = ((P - 1 : Nat) : Int) := by
  show ((P : Int) - 1) % (2 ^ 64 : Int) = _
  omega
 have hsn := hs.ex.n
 repeat first | refine mI ?_ | refine bn rfl rfl rfl (by simp only [↓nrmL, nrmZ, qe, ↓reduceIte, qa, ze, zn, e1, e2, e3, e4, e5, e6, e7]; rfl) ?_ | (refine Fo.pcall (v' := ?_) hn rfl (by simp only [↓nrmL, nrmZ, qe, ↓reduceIte, qa, ze, zn, e1, e2, e3, e4, e5, e6, e7, List.map]; rfl) rfl ?hv fun _ _ => ?_; case hv => rfl) | refine nw ?_ | refine Fo.now rfl rfl (by simp only [↓nrmL, nrmZ, qe, ↓reduceIte, qa, ze, zn, e1, e2, e3, e4, e5, e6, e7]; rfl) ?_ | refine so rfl (rfl : _ = AVal.int _ _) rfl rfl rfl (by simp only [↓nrmL, nrmZ, qe, ↓reduceIte, qa, ze, zn, e1, e2, e3, e4, e5, e6, e7]; rfl) ?_ | refine nl hKF ?_ | refine sq ?_ | refine rg fun KF hKF => ?_ | refine ct rfl ?_ | refine Wp.block ?_ | dsimp only
 rename AHeap => H1
 have hx1 : Ext H H1 := Ext0.ext
 have hkr : HasRow H1 H.n [.int .u64 (l : Int)] true (2 * 151) := inferInstance
 refine Wp.loopS (σ := Nat × Int × List AVal) [11, 12, 28, 29, 30, 31, 32, 33, 34, 35, 36, 37, 38, 39, 40, 41, 42, 43, 44, 45, 46, 47, 48, 49, 50, 51, 52, 53, 54, 55, 56, 57, 58, 59, 60, 61, 62, 63, 64, 65, 66] (fun s => [(11, .int .i64 (s.1 : Int))]) (fun _ s H2 => a + 2 * m - 1 ≤ s.1 ∧ s.1 ≤ a + 2 * m + 2 ∧ HasRow H2 H.n [.int .u64 s.2.1] true (2 * 151) ∧ SrtS H0 p n U s.2.2 H2 ∧ Pm a (a + l) cs s.2.2) (fun s => a + 2 * m + 2 - s.1) (a + 2 * m - 1, (l : Int), cs) rfl (fun _ => rfl) ⟨rfl, trivial⟩ ⟨Nat.le_refl _, by dsimp only; omega, hkr, hs.ext hx1, Pm.refl _ _ _⟩ (by unfold fuel0 at hn; dsimp only; omega) ?_
 rintro ⟨i, z, cs1⟩ g H2 ⟨h1, h2, hk, hs2, hp2⟩
 dsimp only at h1 h2 hk hs2 hp2
 haveI := hs2.sl.one
 have hn2 := hk.lt
 simp only [↓nrmL, nrmZ, qe, ↓reduceIte, qa, ze, zn]
 cases hle : decide ((i : Int) ≤ ((a + 2 * m + 1 : Nat) : Int))
 ·skip
  repeat first | refine mI ?_ | refine bn rfl rfl rfl (by simp only [↓nrmL, nrmZ, qe, ↓reduceIte, qa, ze, zn, e4, e5, e6, e8, hle]; rfl) ?_ | refine nl hKF ?_ | refine sq ?_ | refine rg fun KF hKF => ?_ | refine cf rfl ?_ | refine xi ?_ | dsimp only
  refine rz trivial ?_
  exact ⟨cs1, hs2, hp2⟩
 have hle2 := of_decide_eq_true hle
 have ei := wa1 (a := i) (by omega)
 repeat first | refine mI ?_ | refine bn rfl rfl rfl (by simp only [↓nrmL, nrmZ, qe, ↓reduceIte, qa, ze, zn, e4, e5, e6, e8, hle]; rfl) ?_ | refine nl hKF ?_ | refine sq ?_ | refine rg fun KF hKF => ?_ | refine ct rfl ?_ | refine sk ?_ | refine Wp.block ?_
 refine WpO.do (WpX.conD hn rfl rfl (by simp only [↓nrmL, nrmZ, qe, ↓reduceIte, qa, ze, zn, List.map] <;> rfl) (K_Next hk) fun v H3 h5 => ?_)
 obtain ⟨z', rfl, hk3, hn3, hg3⟩ := h5
 have hs3 := hs2.keep hl hsn hn3 hg3
 obtain ⟨k, hkM, ek⟩ := bitsM z' (P - 1) (by omega)
 have e10 : IntKind.i64.wrap (k : Int) = (k : Int) := w64 (by omega)
 have e11 : IntKind.i64.wrap ((k : Int) - (l : Int)) = (k : Int) - (l : Int) := w64 (by omega)
 cases hge : decide ((k : Int) ≥ (l : Int))
 ·have hge2 := of_decide_eq_false hge
  have e12 : IntKind.i64.wrap ((a : Int) + (k : Int)) = ((a + k : Nat) : Int) := by rw [w64 (by omega)]; omega
  repeat first | refine mI ?_ | refine bn rfl rfl rfl (by simp only [↓nrmL, nrmZ, qe, ↓reduceIte, qa, ze, zn, e9, ek, e10, hge]; rfl) ?_ | refine Fo.now rfl rfl (by simp only [↓nrmL, nrmZ, qe, ↓reduceIte, qa, ze, zn, e9, ek, e10, hge]; rfl) ?_ | refine nl hKF ?_ | refine sq ?_ | refine rg fun KF hKF => ?_ | refine cf rfl ?_ | refine sk ?_ | dsimp only
  haveI := hs3.sl
  haveI := hs3.wr
  have hwl := hs3.len
  have cw1 := cAt_some (cs := cs1) (i := i) (by omega)
  have cw2 := cAt_some (cs := cs1) (i := a + k) (by omega)
  haveI := hU.one _ (hs3.mem (i) (by omega))
  haveI := hU.one _ (hs3.mem (a + k) (by omega))
  refine Fr.dregion0 rfl fun KF hKF => ?_
  repeat first | refine Fe.pure rfl rfl (by simp only [↓nrmL, nrmZ, qe, ↓reduceIte, qa, ze, zn, e12]; rfl) ?_ | (refine Fe.pure rfl (exec_idxP (by (try simp only [↓nrmL, nrmZ, qe, ↓reduceIte, qa, ze, zn, e12]); rfl) rfl ?_) (by simp only [↓nrmL, nrmZ, qe, ↓reduceIte, qa, ze, zn, e12]; rfl) ?_; (focus omega))
  refine Fe.read rfl (exec_ldP (p := p) (j := a + k) rfl cw2) rfl trivial ?_
  simp only [↓nrmL, nrmZ, qe, ↓reduceIte, qa, ze, zn, e12]
  refine Fe.pure rfl rfl (by simp only [↓nrmL, nrmZ, qe, ↓reduceIte, qa, ze, zn, e12]; rfl) ?_
  refine Fe.pure rfl rfl (by simp only [↓nrmL, nrmZ, qe, ↓reduceIte, qa, ze, zn, e12]; rfl) ?_
  refine Fe.pure rfl (exec_idxP (by (try simp only [↓nrmL, nrmZ, qe, ↓reduceIte, qa, ze, zn, e12]); rfl) rfl ?_) (by simp only [↓nrmL, nrmZ, qe, ↓reduceIte, qa, ze, zn, e12]; rfl) ?_; (focus omega)
  refine Fe.read rfl (exec_ldP (p := p) (j := i) rfl cw1) rfl trivial ?_
  simp only [↓nrmL, nrmZ, qe, ↓reduceIte, qa, ze, zn, e12]
  refine Fe.pure rfl (exec_idxP (by (try simp only [↓nrmL, nrmZ, qe, ↓reduceIte, qa, ze, zn, e12]); rfl) rfl ?_) (by simp only [↓nrmL, nrmZ, qe, ↓reduceIte, qa, ze, zn, e12]; rfl) ?_; (focus omega)
  refine WpE.stC (p := p) (j := i) (v := cAt cs1 (a + k)) rfl rfl rfl (by omega) fun Hw1 q1 q2 q3 => ar ?_
  simp only [↓nrmL, nrmZ, qe, ↓reduceIte, qa, ze, zn, e12]
  refine Fe.pure rfl (exec_idxP (by (try simp only [↓nrmL, nrmZ, qe, ↓reduceIte, qa, ze, zn, e12]); rfl) rfl ?_) (by simp only [↓nrmL, nrmZ, qe, ↓reduceIte, qa, ze, zn, e12]; rfl) ?_; (focus omega)
  refine WpE.stC (p := p) (j := a + k) (v := cAt cs1 (i)) rfl rfl rfl (by rw [List.length_set]; omega) fun Hw q4 q5 q6 => ar ?_
  have hw : SrtS H0 p n U (swp cs1 (i) (a + k)) Hw := hs3.swp (by omega) (by omega) q4 q5 (q3.trans q6)
  have hwp : Pm a (a + l) cs1 (swp cs1 (i) (a + k)) := Pm.swp (by omega) (by omega) (by omega)
  refine WpE.nil (hKF _ _ ?_)
  simp only [ei]
  refine rg fun KF hKF => ?_
  refine mI ?_
  refine bn rfl rfl rfl (by simp only [↓nrmL, nrmZ, qe, ↓reduceIte, qa, ze, zn, ei]; rfl) ?_
  refine mI ?_
  refine nl hKF ?_
  dsimp only
  have hkw : HasRow Hw H.n [.int .u64 z'] true (2 * 151) := by
   have hx := q3.trans q6
   have hq : RowNe p H.n := hl.ne hsn
   exact ⟨Nat.lt_of_lt_of_le hk3.lt hx.n, by rw [hx.get _ hk3.lt hq]; exact hk3.get⟩
  exact ⟨(i + 1, z', swp cs1 i (a + k)), by dsimp only; omega, ⟨rfl, trivial⟩, by dsimp only; omega, by dsimp only; omega, hkw, hw, hp2.trans hwp⟩
 have hge2 := of_decide_eq_true hge
 obtain ⟨j, hj⟩ : ∃ j, k = l + j := ⟨k - l, by omega⟩
 have e13 : IntKind.i64.wrap ((k : Int) - (l : Int)) = (j : Int) := by rw [w64 (by omega)]; omega
 have e12 : IntKind.i64.wrap ((a : Int) + (j : Int)) = ((a + j : Nat) : Int) := by rw [w64 (by omega)]; omega
 repeat first | refine mI ?_ | refine bn rfl rfl rfl (by simp only [↓nrmL, nrmZ, qe, ↓reduceIte, qa, ze, zn, e9, ek, e10, hge, e13]; rfl) ?_ | refine Fo.now rfl rfl (by simp only [↓nrmL, nrmZ, qe, ↓reduceIte, qa, ze, zn, e9, ek, e10, hge, e13]; rfl) ?_ | refine nl hKF ?_ | refine sq ?_ | refine rg fun KF hKF => ?_ | refine ct rfl ?_ | dsimp only
 haveI := hs3.sl
 haveI := hs3.wr
 have hwl := hs3.len
 have cw1 := cAt_some (cs := cs1) (i := i) (by omega)
 have cw2 := cAt_some (cs := cs1) (i := a + j) (by omega)
 haveI := hU.one _ (hs3.mem (i) (by omega))
 haveI := hU.one _ (hs3.mem (a + j) (by omega))
 refine Fr.dregion0 rfl fun KF hKF => ?_
 repeat first | refine Fe.pure rfl rfl (by simp only [↓nrmL, nrmZ, qe, ↓reduceIte, qa, ze, zn, e12]; rfl) ?_ | (refine Fe.pure rfl (exec_idxP (by (try simp only [↓nrmL, nrmZ, qe, ↓reduceIte, qa, ze, zn, e12]); rfl) rfl ?_) (by simp only [↓nrmL, nrmZ, qe, ↓reduceIte, qa, ze, zn, e12]; rfl) ?_; (focus omega))
 refine Fe.read rfl (exec_ldP (p := p) (j := a + j) rfl cw2) rfl trivial ?_
 simp only [↓nrmL, nrmZ, qe, ↓reduceIte, qa, ze, zn, e12]
 refine Fe.pure rfl rfl (by simp only [↓nrmL, nrmZ, qe, ↓reduceIte, qa, ze, zn, e12]; rfl) ?_
 refine Fe.pure rfl rfl (by simp only [↓nrmL, nrmZ, qe, ↓reduceIte, qa, ze, zn, e12]; rfl) ?_
 refine Fe.pure rfl (exec_idxP (by (try simp only [↓nrmL, nrmZ, qe, ↓reduceIte, qa, ze, zn, e12]); rfl) rfl ?_) (by simp only [↓nrmL, nrmZ, qe, ↓reduceIte, qa, ze, zn, e12]; rfl) ?_; (focus omega)
 refine Fe.read rfl (exec_ldP (p := p) (j := i) rfl cw1) rfl trivial ?_
 simp only [↓nrmL, nrmZ, qe, ↓reduceIte, qa, ze, zn, e12]
 refine Fe.pure rfl (exec_idxP (by (try simp only [↓nrmL, nrmZ, qe, ↓reduceIte, qa, ze, zn, e12]); rfl) rfl ?_) (by simp only [↓nrmL, nrmZ, qe, ↓reduceIte, qa, ze, zn, e12]; rfl) ?_; (focus omega)
 refine WpE.stC (p := p) (j := i) (v := cAt cs1 (a + j)) rfl rfl rfl (by omega) fun Hw1 q1 q2 q3 => ar ?_
 simp only [↓nrmL, nrmZ, qe, ↓reduceIte, qa, ze, zn, e12]
 refine Fe.pure rfl (exec_idxP (by (try simp only [↓nrmL, nrmZ, qe, ↓reduceIte, qa, ze, zn, e12]); rfl) rfl ?_) (by simp only [↓nrmL, nrmZ, qe, ↓reduceIte, qa, ze, zn, e12]; rfl) ?_; (focus omega)
 refine WpE.stC (p := p) (j := a + j) (v := cAt cs1 (i)) rfl rfl rfl (by rw [List.length_set]; omega) fun Hw q4 q5 q6 => ar ?_
 have hw : SrtS H0 p n U (swp cs1 (i) (a + j)) Hw := hs3.swp (by omega) (by omega) q4 q5 (q3.trans q6)
 have hwp : Pm a (a + l) cs1 (swp cs1 (i) (a + j)) := Pm.swp (by omega) (by omega) (by omega)
 refine WpE.nil (hKF _ _ ?_)
 simp only [ei]
 refine rg fun KF hKF => ?_
 refine mI ?_
 refine bn rfl rfl rfl (by simp only [↓nrmL, nrmZ, qe, ↓reduceIte, qa, ze, zn, ei]; rfl) ?_
 refine mI ?_
 refine nl hKF ?_
 dsimp only
 have hkw : HasRow Hw H.n [.int .u64 z'] true (2 * 151) := by
  have hx := q3.trans q6
  have hq : RowNe p H.n := hl.ne hsn
  exact ⟨Nat.lt_of_lt_of_le hk3.lt hx.n, by rw [hx.get _ hk3.lt hq]; exact hk3.get⟩
 exact ⟨(i + 1, z', swp cs1 i (a + j)), by dsimp only; omega, ⟨rfl, trivial⟩, by dsimp only; omega, by dsimp only; omega, hkw, hw, hp2.trans hwp⟩
end Go.Am

namespace Go.Am
open Go
def OutS (K : AVal → Int) (cs : List AVal) (a0 b0 a b : Nat) : Prop := ∀ i j, a0 ≤ i → i < j → j < b0 → (i < a ∨ b ≤ j) → K (cAt cs i) ≤ K (cAt cs j)
theorem OutS.perm {K : AVal → Int} {cs cs' : List AVal} {a0 b0 a b : Nat} (h : OutS K cs a0 b0 a b) (ha : a0 ≤ a) (hb : b ≤ b0) (hP : Pm a b cs cs') : OutS K cs' a0 b0 a b := fun i j h1 h2 h3 h4 => by
  have key : ∀ t, a0 ≤ t → t < b0 → ∃ s, a0 ≤ s ∧ s < b0 ∧ cAt cs' t = cAt cs s ∧ ((t < a ∨ b ≤ t) → s = t) ∧ ((a ≤ t ∧ t < b) → (a ≤ s ∧ s < b)) := fun t ht1 ht2 => by
    by_cases e : a ≤ t ∧ t < b
    · obtain ⟨s, s1, s2, s3⟩ := hP.fro e.1 e.2
      exact ⟨s, by omega, by omega, s3, fun q => by omega, fun _ => ⟨s1, s2⟩⟩
    · exact ⟨t, ht1, ht2, hP.off (by omega), fun _ => rfl, fun q => absurd q e⟩
  obtain ⟨s, s1, s2, s3, s4, s5⟩ := key i h1 (by omega)
  obtain ⟨t, t1, t2, t3, t4, t5⟩ := key j (by omega) h3
  rw [s3, t3]
  rcases h4 with h5 | h5
  · have es := s4 (Or.inl h5)
    by_cases e : a ≤ j ∧ j < b
    · have := t5 e
      exact h s t s1 (by omega) t2 (Or.inl (by omega))
    · have et := t4 (by omega)
      exact h s t s1 (by omega) t2 (Or.inl (by omega))
  · have et := t4 (Or.inr h5)
    by_cases e : a ≤ i ∧ i < b
    · have := s5 e
      exact h s t s1 (by omega) t2 (Or.inr (by omega))
    · have es := s4 (by omega)
      exact h s t s1 (by omega) t2 (Or.inr (by omega))
theorem OutS.done {K : AVal → Int} {cs : List AVal} {a0 b0 a b : Nat} (h : OutS K cs a0 b0 a b) (hs : Srd K cs a b) : Srd K cs a0 b0 := fun i j h1 h2 h3 => by
  by_cases e : i < a ∨ b ≤ j
  · exact h i j h1 h2 h3 e
  · exact hs i j (by omega) h2 (by omega)
structure PartS (K : AVal → Int) (cs : List AVal) (a b m : Nat) : Prop where
  lo : ∀ t, a ≤ t → t < m → K (cAt cs t) ≤ K (cAt cs m)
  hi : ∀ t, m < t → t < b → K (cAt cs m) ≤ K (cAt cs t)
theorem PartS.left {K : AVal → Int} {cs cs' : List AVal} {a b m : Nat} (h : PartS K cs a b m) (hP : Pm a m cs cs') : PartS K cs' a b m := ⟨fun t h1 h2 => by
  obtain ⟨s, s1, s2, s3⟩ := hP.fro h1 h2
  rw [s3, hP.off (t := m) (Or.inr (Nat.le_refl _))]
  exact h.lo s s1 s2, fun t h1 h2 => by
  rw [hP.off (t := m) (Or.inr (Nat.le_refl _)), hP.off (t := t) (Or.inr (by omega))]
  exact h.hi t h1 h2⟩
theorem PartS.right {K : AVal → Int} {cs cs' : List AVal} {a b m : Nat} (h : PartS K cs a b m) (hP : Pm (m + 1) b cs cs') : PartS K cs' a b m := ⟨fun t h1 h2 => by
  rw [hP.off (t := m) (Or.inl (by omega)), hP.off (t := t) (Or.inl (by omega))]
  exact h.lo t h1 h2, fun t h1 h2 => by
  obtain ⟨s, s1, s2, s3⟩ := hP.fro (t := t) (by omega) h2
  rw [s3, hP.off (t := m) (Or.inl (by omega))]
  exact h.hi s (by omega) s2⟩
theorem OutS.left {K : AVal → Int} {cs : List AVal} {a0 b0 a b m : Nat} (h : OutS K cs a0 b0 a b) (hp : PartS K cs a b m) (hs : Srd K cs a m) : OutS K cs a0 b0 (m + 1) b := fun i j h1 h2 h3 h4 => by
  by_cases e : i < a ∨ b ≤ j
  · exact h i j h1 h2 h3 e
  · have hi : i ≤ m := by omega
    by_cases e1 : j < m
    · exact hs i j (by omega) h2 e1
    · by_cases e2 : j = m
      · subst e2; exact hp.lo i (by omega) h2
      · by_cases e3 : i = m
        · subst e3; exact hp.hi j h2 (by omega)
        · exact Int.le_trans (hp.lo i (by omega) (by omega)) (hp.hi j (by omega) (by omega))
theorem OutS.right {K : AVal → Int} {cs : List AVal} {a0 b0 a b m : Nat} (h : OutS K cs a0 b0 a b) (hp : PartS K cs a b m) (hs : Srd K cs (m + 1) b) : OutS K cs a0 b0 a m := fun i j h1 h2 h3 h4 => by
  by_cases e : i < a ∨ b ≤ j
  · exact h i j h1 h2 h3 e
  · have hj : m ≤ j := by omega
    by_cases e1 : m < i
    · exact hs i j (by omega) h2 (by omega)
    · by_cases e2 : i = m
      · subst e2; exact hp.hi j h2 (by omega)
      · by_cases e3 : j = m
        · subst e3; exact hp.lo i (by omega) h2
        · exact Int.le_trans (hp.lo i (by omega) (by omega)) (hp.hi j (by omega) (by omega))
def DisS (K : AVal → Int) (cs : List AVal) (n : Nat) : Prop := ∀ i j, i < n → j < n → i ≠ j → K (cAt cs i) ≠ K (cAt cs j)
theorem DisS.perm {K : AVal → Int} {cs cs' : List AVal} {n a b : Nat} (h : DisS K cs n) (hb : b ≤ n) (hP : Pm a b cs cs') : DisS K cs' n := fun i j hi hj hne => by
  obtain ⟨f, g, p1, p2, p3, p4, p5⟩ := hP.it
  have hf : ∀ t, t < n → f t < n := fun t ht => by
    by_cases e : a ≤ t ∧ t < b
    · have := p5 t e.1 e.2; omega
    · rw [p4 t (by omega)]; exact ht
  rw [p1, p1]
  refine h _ _ (hf i hi) (hf j hj) fun e => hne ?_
  have : g (f i) = g (f j) := by rw [e]
  rwa [p3, p3] at this
end Go.Am

namespace Go.Am
open Go
open Nat renaming reduceEqDiff → qe, reduceAdd → qa
open Int renaming reduceBEq → ze, reduceBNe → zn
attribute [local irreducible] Wp WpO WpX WpE
theorem K_pdq {H0 : AHeap} {p : AVal} {n : Nat} {F : FuncId} {U : AVal → Prop} {K : AVal → Int} (hU : SrtU ext prog H0 p F U K) (hl : Low H0 p) (hn200 : n ≤ 200) : ∀ (m a0 bz0 L0 : Nat) (cs0 : List AVal) (H : AHeap), bz0 - a0 ≤ m → a0 ≤ bz0 → bz0 ≤ n → L0 < 256 → DisS K cs0 n → (a0 = 0 ∨ ∀ t, a0 ≤ t → t < bz0 → K (cAt cs0 (a0 - 1)) ≤ K (cAt cs0 t)) → SrtS H0 p n U cs0 H → Con ext prog (m + 14) 97 [p, .int .i64 (a0 : Int), .int .i64 (bz0 : Int), .int .i64 (L0 : Int), .func (.func F) [] []] H fun _ H' => ∃ cs', SrtS H0 p n U cs' H' ∧ Pm a0 bz0 cs0 cs' ∧ Srd K cs' a0 bz0 := by
 intro m
 induction m with
 | zero =>
  intro a0 bz0 L0 cs0 H hm hab hb hL0 hD0 hpre0 hs0
  have hn40 : n ≤ 2 ^ 40 := by omega
  obtain rfl : bz0 = a0 := by omega
  refine con_of (show prog 97 = some c97 from rfl) rfl rfl fun N hn' => ?_
  have hn : fuel0 + 13 ≤ N := by omega
  haveI := hs0.sl.one
  have e1 : IntKind.i64.wrap ((bz0 : Int) - (bz0 : Int)) = 0 := by rw [Int.sub_self]; rfl
  have d1 : decide ((0 : Int) ≤ 12) = true := rfl
  repeat first | refine mB ?_ | refine nl hKF ?_ | refine sq ?_ | refine rg fun KF hKF => ?_ | refine Wp.block ?_ | dsimp only
  refine Wp.loopS [1, 2, 3, 10, 11, 12, 13, 14, 15, 16, 17, 18, 19, 20, 21, 22, 23, 24, 25, 26, 27, 28, 29, 30, 31, 32, 33, 34, 35, 36, 37, 38, 39, 40, 41, 42, 43, 44, 45, 46, 47, 48, 49, 50, 51, 52, 53, 54, 55, 56, 57, 58, 59, 60, 61, 62, 63, 64, 65, 66, 67, 68, 69, 70, 71, 72, 73, 74, 75, 76, 77, 78, 79, 80, 81, 82, 83, 84, 85, 86, 87, 88, 89, 90, 91, 92, 93, 94, 95, 96, 97, 98, 99, 100, 101, 102, 103, 104, 105, 106, 107, 108, 109, 110, 111, 112, 113, 114, 115, 116, 117, 118, 119, 120, 121, 122, 123, 124, 125, 126, 127, 128, 129, 130, 131, 132, 133, 134, 135, 136, 137, 138, 139, 140, 141, 142, 143, 144, 145, 146, 147] (fun _ : Unit => [(1, .int .i64 (bz0 : Int)), (2, .int .i64 (bz0 : Int))]) (fun _ _ H2 => SrtS H0 p n U cs0 H2) (fun _ => 0) () rfl (fun _ => rfl) ⟨rfl, rfl, trivial⟩ hs0 (by unfold fuel0 at hn; omega) ?_
  rintro _ g H2 hs2
  simp only [↓nrmL, nrmZ, qe, ↓reduceIte, qa, ze, zn]
  repeat first | refine mI ?_ | refine mF ?_ | refine mv ?_ | refine bn rfl rfl rfl (by simp only [↓nrmL, nrmZ, qe, ↓reduceIte, qa, ze, zn, e1, d1]; rfl) ?_ | refine nl hKF ?_ | refine sq ?_ | refine rg fun KF hKF => ?_ | refine ct rfl ?_ | refine Wp.block ?_
  refine WpO.do (WpX.conD hn rfl rfl (by simp only [↓nrmL, nrmZ, qe, ↓reduceIte, qa, ze, zn, List.map] <;> rfl) (K_insert (a := bz0) (b := bz0) hU hs2 (Nat.le_refl _) hb hn40) fun v H3 h5 => ?_)
  refine nl hKF ?_
  refine rt ?_
  dsimp only
  refine rz trivial ?_
  exact h5
 | succ m ih =>
  intro a0 bz0 L0 cs0 H hm hab hb hL0 hD0 hpre0 hs0
  have hn40 : n ≤ 2 ^ 40 := by omega
  refine con_of (show prog 97 = some c97 from rfl) rfl rfl fun N hn' => ?_
  have hnR : fuel0 + (m + 14) ≤ N := hn'
  have hn : fuel0 + 13 ≤ N := by omega
  haveI := hs0.sl.one
  repeat first | refine mB ?_ | refine nl hKF ?_ | refine sq ?_ | refine rg fun KF hKF => ?_ | refine Wp.block ?_ | dsimp only
  refine Wp.loopS (σ := Nat × Nat × Nat × Bool × Bool × List AVal) [1, 2, 3, 10, 11, 12, 13, 14, 15, 16, 17, 18, 19, 20, 21, 22, 23, 24, 25, 26, 27, 28, 29, 30, 31, 32, 33, 34, 35, 36, 37, 38, 39, 40, 41, 42, 43, 44, 45, 46, 47, 48, 49, 50, 51, 52, 53, 54, 55, 56, 57, 58, 59, 60, 61, 62, 63, 64, 65, 66, 67, 68, 69, 70, 71, 72, 73, 74, 75, 76, 77, 78, 79, 80, 81, 82, 83, 84, 85, 86, 87, 88, 89, 90, 91, 92, 93, 94, 95, 96, 97, 98, 99, 100, 101, 102, 103, 104, 105, 106, 107, 108, 109, 110, 111, 112, 113, 114, 115, 116, 117, 118, 119, 120, 121, 122, 123, 124, 125, 126, 127, 128, 129, 130, 131, 132, 133, 134, 135, 136, 137, 138, 139, 140, 141, 142, 143, 144, 145, 146, 147] (fun s => [(1, .int .i64 (s.1 : Int)), (2, .int .i64 (s.2.1 : Int)), (3, .int .i64 (s.2.2.1 : Int)), (10, .bool s.2.2.2.1), (11, .bool s.2.2.2.2.1)]) (fun _ s H2 => a0 ≤ s.1 ∧ s.1 ≤ s.2.1 ∧ s.2.1 ≤ bz0 ∧ s.2.2.1 < 256 ∧ SrtS H0 p n U s.2.2.2.2.2 H2 ∧ Pm a0 bz0 cs0 s.2.2.2.2.2 ∧ OutS K s.2.2.2.2.2 a0 bz0 s.1 s.2.1) (fun s => s.2.1 - s.1) (a0, bz0, L0, true, true, cs0) rfl (fun _ => rfl) ⟨rfl, rfl, rfl, rfl, rfl, trivial⟩ ⟨Nat.le_refl _, hab, Nat.le_refl _, hL0, hs0, Pm.refl _ _ _, fun i j q1 q2 q3 q4 => by dsimp only at q4; omega⟩ (by unfold fuel0 at hn; dsimp only; omega) ?_
  rintro ⟨a, b, L, wb, wp, cs⟩ g H1 ⟨ha, hab1, hb1, hL, hs1, hp1, hout⟩
  dsimp only at ha hab1 hb1 hL hs1 hp1 hout
  haveI := hs1.sl.one
  obtain ⟨l, hl'⟩ : ∃ l, b - a = l := ⟨_, rfl⟩
  have e1 : IntKind.i64.wrap ((b : Int) - (a : Int)) = (l : Int) := by rw [w64 (by omega)]; omega
  have fin : ∀ (cs' : List AVal), Pm a b cs cs' → Srd K cs' a b → Pm a0 bz0 cs0 cs' ∧ Srd K cs' a0 bz0 := fun cs' q1 q2 => ⟨hp1.trans (q1.weak ha hb1), (hout.perm ha hb1 q1).done q2⟩
  simp only [↓nrmL, nrmZ, qe, ↓reduceIte, qa, ze, zn]
  cases h12 : decide ((l : Int) ≤ 12)
  rotate_left
  ·skip
   repeat first | refine mI ?_ | refine mF ?_ | refine mv ?_ | refine bn rfl rfl rfl (by simp only [↓nrmL, nrmZ, qe, ↓reduceIte, qa, ze, zn, e1, h12]; rfl) ?_ | refine nl hKF ?_ | refine sq ?_ | refine rg fun KF hKF => ?_ | refine ct rfl ?_ | refine Wp.block ?_
   refine WpO.do (WpX.conD hn rfl rfl (by simp only [↓nrmL, nrmZ, qe, ↓reduceIte, qa, ze, zn, List.map] <;> rfl) (K_insert (a := a) (b := b) hU hs1 hab1 (by omega) hn40) fun v H3 h5 => ?_)
   obtain ⟨cs', q1, q2, q3⟩ := h5
   refine nl hKF ?_
   refine rt ?_
   dsimp only
   refine rz trivial ?_
   exact ⟨cs', q1, fin cs' q2 q3⟩
  have h12' := of_decide_eq_false h12
  cases hz : ((L : Int) == 0)
  rotate_left
  ·skip
   repeat first | refine mI ?_ | refine mF ?_ | refine mv ?_ | refine bn rfl rfl rfl (by simp only [↓nrmL, nrmZ, qe, ↓reduceIte, qa, ze, zn, e1, h12, hz]; rfl) ?_ | refine nl hKF ?_ | refine sq ?_ | refine rg fun KF hKF => ?_ | refine ct rfl ?_ | refine cf rfl ?_ | refine sk ?_ | refine Wp.block ?_
   refine WpO.do (WpX.conD hn rfl rfl (by simp only [↓nrmL, nrmZ, qe, ↓reduceIte, qa, ze, zn, List.map] <;> rfl) (K_heapSort (a := a) (b := b) hU hs1 (by omega) (by omega) hn40) fun v H3 h5 => ?_)
   obtain ⟨cs', q1, q2, q3⟩ := h5
   refine nl hKF ?_
   refine rt ?_
   dsimp only
   refine rz trivial ?_
   exact ⟨cs', q1, fin cs' q2 q3⟩
  have hz' : L ≠ 0 := fun e => by subst e; simp at hz
  have eL : IntKind.i64.wrap ((L : Int) - 1) = ((L - 1 : Nat) : Int) := by rw [w64 (by omega)]; omega
  have hdis : ∀ cs', Pm a b cs cs' → DisS K cs' n := fun cs' q => (hD0.perm hb hp1).perm (by omega) q
  have hstrict : ∀ cs', Pm a b cs cs' → ∀ t, a ≤ t → t < b → 0 < a → K (cAt cs' (a - 1)) < K (cAt cs' t) := fun cs' q t q1 q2 q3 => by
   have hne := hdis cs' q (a - 1) t (by omega) (by omega) (by omega)
   have hle : K (cAt cs' (a - 1)) ≤ K (cAt cs' t) := by
    by_cases e : a0 ≤ a - 1
    ·exact (hout.perm ha hb1 q) (a - 1) t e (by omega) (by omega) (Or.inl (by omega))
    ·have ea : a = a0 := by omega
     rcases hpre0 with h0 | h0
     ·omega
     ·have hpw := hp1.trans (q.weak ha hb1)
      obtain ⟨u, u1, u2, u3⟩ := hpw.fro (t := t) (by omega) (by omega)
      rw [u3, hpw.off (t := a - 1) (Or.inl (by omega)), ea]
      exact h0 u u1 u2
   omega
  have hpreS : ∀ cs', Pm a b cs cs' → PreS K cs' a b := fun cs' q => by
   by_cases e : a = 0
   ·exact Or.inl e
   ·refine Or.inr fun cs'' q2 t t1 t2 => ?_
    have := hstrict cs'' (q.trans q2) t t1 t2 (by omega)
    omega
  repeat first | refine mI ?_ | refine mB ?_ | refine bn rfl rfl rfl (by simp only [↓nrmL, nrmZ, qe, ↓reduceIte, qa, ze, zn, e1, h12, hz]; rfl) ?_ | refine Fo.now rfl rfl rfl ?_ | refine nl hKF ?_ | refine sq ?_ | refine rg fun KF hKF => ?_ | refine cf rfl ?_ | refine sk ?_ | refine Wp.block ?_ | dsimp only
  refine Wp.cut (σ := Nat × List AVal) (fun s => [(0, p), (1, .int .i64 (a : Int)), (2, .int .i64 (b : Int)), (3, .int .i64 (s.1 : Int)), (4, .func (.func F) [] []), (10, .bool wb), (11, .bool wp), (12, .int .i64 (l : Int))]) (fun s H' => s.1 < 256 ∧ SrtS H0 p n U s.2 H' ∧ Pm a b cs s.2) ?_ ?_
  rotate_left
  ·cases wb
   ·skip
    refine ct rfl ?_
    refine sq ?_
    refine rg fun KF hKF => ?_
    refine mv ?_
    refine mI ?_
    refine mI ?_
    refine mF ?_
    refine WpO.do (WpX.conD hn rfl rfl (by simp only [↓nrmL, nrmZ, qe, ↓reduceIte, qa, ze, zn, List.map] <;> rfl) (K_break (a := a) (b := b) hU hs1 hl (by omega) (by omega) hn200) fun v H3 h5 => ?_)
    obtain ⟨cs', q1, q2⟩ := h5
    simp only [↓nrmL, nrmZ, qe, ↓reduceIte, qa, ze, zn, eL]
    repeat first | refine mI ?_ | refine bn rfl rfl rfl (by simp only [↓nrmL, nrmZ, qe, ↓reduceIte, qa, ze, zn, eL]; rfl) ?_ | refine nl hKF ?_ | refine rg fun KF hKF => ?_ | dsimp only
    exact ⟨(L - 1, cs'), ⟨rfl, rfl, rfl, rfl, rfl, rfl, rfl, rfl, trivial⟩, by dsimp only; omega, q1, q2⟩
   ·skip
    refine cf rfl ?_
    refine sk ?_
    dsimp only
    exact ⟨(L, cs), ⟨rfl, rfl, rfl, rfl, rfl, rfl, rfl, rfl, trivial⟩, hL, hs1, Pm.refl _ _ _⟩
  clear hz hz' eL hL hs1
  rintro ⟨L, cs3⟩ g3 H3 ⟨hL, hs3, hp3⟩
  dsimp only at hL hs3 hp3 ⊢
  haveI := hs3.sl.one
  simp only [↓nrmL, nrmZ, qe, ↓reduceIte, qa, ze, zn]
  refine sq ?_
  refine rg fun KF hKF => ?_
  refine mv ?_
  refine mI ?_
  refine mI ?_
  refine mF ?_
  refine WpO.do (WpX.conD hn rfl rfl (by simp only [↓nrmL, nrmZ, qe, ↓reduceIte, qa, ze, zn, List.map] <;> rfl) (K_pivot (a := a) (b := b) hU hs3 hl (by omega) (by omega) hn40) fun v H4 h5 => ?_)
  obtain ⟨pv, hint, rfl, hpv1, hpv2, hh3, hs4⟩ := h5
  haveI := hs4.sl.one
  repeat first | refine mI ?_ | refine mT ?_ | refine b0 ?_ | refine xt ?_ | refine nl hKF ?_ | refine sq ?_ | refine rg fun KF hKF => ?_ | dsimp only
  refine Wp.cut (σ := Nat × Nat × List AVal) (fun s => [(0, p), (1, .int .i64 (a : Int)), (2, .int .i64 (b : Int)), (3, .int .i64 (L : Int)), (4, .func (.func F) [] []), (10, .bool wb), (11, .bool wp), (12, .int .i64 (l : Int)), (13, .int .i64 (s.1 : Int)), (14, .int .i64 (s.2.1 : Int))]) (fun s H' => a ≤ s.1 ∧ s.1 < b ∧ SrtS H0 p n U s.2.2 H' ∧ Pm a b cs s.2.2) ?_ ?_
  rotate_left
  ·cases h2 : ((hint : Int) == 2)
   ·skip
    refine cf rfl ?_
    refine sk ?_
    dsimp only
    exact ⟨(pv, hint, cs3), ⟨rfl, rfl, rfl, rfl, rfl, rfl, rfl, rfl, rfl, rfl, trivial⟩, hpv1, hpv2, hs4, hp3⟩
   have e2 : IntKind.i64.wrap ((b : Int) - 1) = ((b - 1 : Nat) : Int) := by rw [w64 (by omega)]; omega
   have e3 : IntKind.i64.wrap ((pv : Int) - (a : Int)) = ((pv - a : Nat) : Int) := by rw [w64 (by omega)]; omega
   have e4 : IntKind.i64.wrap (((b - 1 : Nat) : Int) - ((pv - a : Nat) : Int)) = ((b - 1 - (pv - a) : Nat) : Int) := by rw [w64 (by omega)]; omega
   refine ct rfl ?_
   refine sq ?_
   refine rg fun KF hKF => ?_
   refine mv ?_
   refine mI ?_
   refine mI ?_
   refine mF ?_
   refine WpO.do (WpX.conD hn rfl rfl (by simp only [↓nrmL, nrmZ, qe, ↓reduceIte, qa, ze, zn, List.map] <;> rfl) (K_reverse (a := a) (b := b) hU hs4 (by omega) (by omega) hn40) fun v H5 h6 => ?_)
   obtain ⟨cs', q1, q2⟩ := h6
   repeat first | refine mI ?_ | refine bn rfl rfl rfl (by simp only [↓nrmL, nrmZ, qe, ↓reduceIte, qa, ze, zn, e2, e3, e4]; rfl) ?_ | refine nl hKF ?_ | refine sq ?_ | refine rg fun KF hKF => ?_ | dsimp only
   exact ⟨(b - 1 - (pv - a), 1, cs'), ⟨rfl, rfl, rfl, rfl, rfl, rfl, rfl, rfl, rfl, rfl, trivial⟩, by dsimp only; omega, by dsimp only; omega, q1, hp3.trans q2⟩
  clear hpv1 hpv2 hh3 hs4 hs3
  rintro ⟨pv, hint, cs5⟩ g5 H5 ⟨hpv1, hpv2, hs5, hp5⟩
  dsimp only at hpv1 hpv2 hs5 hp5 ⊢
  haveI := hs5.sl.one
  refine Wp.seqE (σ := List AVal) (fun _ => [(0, p), (1, .int .i64 (a : Int)), (2, .int .i64 (b : Int)), (3, .int .i64 (L : Int)), (4, .func (.func F) [] []), (10, .bool wb), (11, .bool wp), (12, .int .i64 (l : Int)), (13, .int .i64 (pv : Int))]) (fun cs6 H' => SrtS H0 p n U cs6 H' ∧ Pm a b cs cs6) ?_ ?_
  rotate_left
  ·simp only [↓nrmL, nrmZ, qe, ↓reduceIte, qa, ze, zn]
   cases wb
   ·skip
    repeat first | refine ox ?_ | refine mB ?_ | refine fB ?_ | refine nl hKF ?_ | refine sq ?_ | refine rg fun KF hKF => ?_ | refine cf rfl ?_ | refine sk ?_ | dsimp only
    exact ⟨cs5, ⟨rfl, rfl, rfl, rfl, rfl, rfl, rfl, rfl, rfl, trivial⟩, hs5, hp5⟩
   cases wp
   ·skip
    repeat first | refine oy ?_ | refine ox ?_ | refine mB ?_ | refine tB ?_ | refine fB ?_ | refine nl hKF ?_ | refine sq ?_ | refine rg fun KF hKF => ?_ | refine cf rfl ?_ | refine sk ?_ | dsimp only
    exact ⟨cs5, ⟨rfl, rfl, rfl, rfl, rfl, rfl, rfl, rfl, rfl, trivial⟩, hs5, hp5⟩
   cases h2 : ((hint : Int) == 1)
   ·skip
    repeat first | refine oy ?_ | refine mI ?_ | refine mB ?_ | refine bn rfl rfl rfl (by simp only [↓nrmL, nrmZ, qe, ↓reduceIte, qa, ze, zn, h2]; rfl) ?_ | refine tB ?_ | refine nl hKF ?_ | refine sq ?_ | refine rg fun KF hKF => ?_ | refine cf rfl ?_ | refine sk ?_ | dsimp only
    exact ⟨cs5, ⟨rfl, rfl, rfl, rfl, rfl, rfl, rfl, rfl, rfl, trivial⟩, hs5, hp5⟩
   repeat first | refine oy ?_ | refine mI ?_ | refine mB ?_ | refine mF ?_ | refine mv ?_ | refine bn rfl rfl rfl (by simp only [↓nrmL, nrmZ, qe, ↓reduceIte, qa, ze, zn, h2]; rfl) ?_ | refine tB ?_ | refine nl hKF ?_ | refine sq ?_ | refine rg fun KF hKF => ?_ | refine ct rfl ?_
   refine WpO.do (WpX.conD hn rfl rfl (by simp only [↓nrmL, nrmZ, qe, ↓reduceIte, qa, ze, zn, List.map] <;> rfl) (K_partial (a := a) (b := b) hU hs5 (by omega) (by omega) hn40 (hpreS cs5 hp5)) fun v H6 h6 => ?_)
   obtain ⟨f, cs', rfl, q1, q2, q3⟩ := h6
   cases f
   ·skip
    refine nl hKF ?_
    refine cf rfl ?_
    refine sk ?_
    dsimp only
    exact ⟨cs', ⟨rfl, rfl, rfl, rfl, rfl, rfl, rfl, rfl, rfl, trivial⟩, q1, hp5.trans q2⟩
   refine nl hKF ?_
   refine ct rfl ?_
   refine rt ?_
   dsimp only
   refine rz trivial ?_
   exact ⟨cs', q1, fin cs' (hp5.trans q2) (q3 rfl)⟩
  clear hs5 hp5
  rintro cs6 g6 H6 ⟨hs6, hp6⟩
  haveI := hs6.sl.one
  have hpv : a ≤ pv ∧ pv < b := ⟨hpv1, hpv2⟩
  refine Wp.seqE (σ := Unit) (fun _ => [(0, p), (1, .int .i64 (a : Int)), (2, .int .i64 (b : Int)), (3, .int .i64 (L : Int)), (4, .func (.func F) [] []), (10, .bool wb), (11, .bool wp), (12, .int .i64 (l : Int)), (13, .int .i64 (pv : Int))]) (fun _ H' => SrtS H0 p n U cs6 H') ?_ ?_
  rotate_left
  ·simp only [↓nrmL, nrmZ, qe, ↓reduceIte, qa, ze, zn]
   cases hg0 : decide ((a : Int) > 0)
   ·skip
    refine sq ?_
    refine Fr.dregion0 rfl fun KF hKF => ?_
    repeat first | refine Fe.pure rfl rfl (by simp only [↓nrmL, nrmZ, qe, ↓reduceIte, qa, ze, zn, hg0]; rfl) ?_ | refine Fe.skip rfl ?_ | refine WpE.nil (hKF _ _ ?_)
    refine cf rfl ?_
    refine sk ?_
    dsimp only
    exact ⟨(), ⟨rfl, rfl, rfl, rfl, rfl, rfl, rfl, rfl, rfl, trivial⟩, hs6⟩
   have ha0' := of_decide_eq_true hg0
   have ha0 : 0 < a := by omega
   have ea : IntKind.i64.wrap ((a : Int) - 1) = ((a - 1 : Nat) : Int) := by rw [w64 (by omega)]; omega
   haveI := hs6.sl
   have hwl := hs6.len
   have c1 := cAt_some (cs := cs6) (i := a - 1) (by omega)
   have c2 := cAt_some (cs := cs6) (i := pv) (by omega)
   have u1 := hs6.mem (a - 1) (by omega)
   have u2 := hs6.mem (pv) (by omega)
   haveI := hU.one _ u1
   haveI := hU.one _ u2
   haveI : PureCon ext prog F [cAt cs6 (a - 1), cAt cs6 (pv)] H6 8 (.int .i64 (cmpI (K (cAt cs6 (a - 1))) (K (cAt cs6 (pv))))) := hU.cmp H6 hs6.ex _ _ u1 u2
   refine sq ?_
   refine Fr.dregion0 rfl fun KF hKF => ?_
   repeat first | refine Fe.pure rfl rfl (by simp only [↓nrmL, nrmZ, qe, ↓reduceIte, qa, ze, zn, hg0, ea]; rfl) ?_ | (refine Fe.pure rfl (exec_idxP (by (try simp only [↓nrmL, nrmZ, qe, ↓reduceIte, qa, ze, zn, hg0, ea]); rfl) rfl ?_) (by simp only [↓nrmL, nrmZ, qe, ↓reduceIte, qa, ze, zn, hg0, ea]; rfl) ?_; (focus omega))
   refine Fe.read rfl (exec_ldP (p := p) (j := a - 1) rfl c1) rfl trivial ?_
   simp only [↓nrmL, nrmZ, qe, ↓reduceIte, qa, ze, zn, hg0, ea]
   refine Fe.pure rfl rfl (by simp only [↓nrmL, nrmZ, qe, ↓reduceIte, qa, ze, zn, hg0, ea]; rfl) ?_
   refine Fe.pure rfl rfl (by simp only [↓nrmL, nrmZ, qe, ↓reduceIte, qa, ze, zn, hg0, ea]; rfl) ?_
   refine Fe.pure rfl (exec_idxP (by (try simp only [↓nrmL, nrmZ, qe, ↓reduceIte, qa, ze, zn, hg0, ea]); rfl) rfl ?_) (by simp only [↓nrmL, nrmZ, qe, ↓reduceIte, qa, ze, zn, hg0, ea]; rfl) ?_; (focus omega)
   refine Fe.read rfl (exec_ldP (p := p) (j := pv) rfl c2) rfl trivial ?_
   cases hlt : decide (K (cAt cs6 (a - 1)) < K (cAt cs6 (pv)))
   ·have hc2 : decide (cmpI (K (cAt cs6 (a - 1))) (K (cAt cs6 (pv))) < 0) = false := by rw [cmpI_neg]; exact hlt
    have hlt' := of_decide_eq_false hlt
    simp only [↓nrmL, nrmZ, qe, ↓reduceIte, qa, ze, zn, hc2]
    repeat first | refine Fe.pure rfl rfl (by simp only [↓nrmL, nrmZ, qe, ↓reduceIte, qa, ze, zn, hc2]; rfl) ?_ | (refine Fe.pcall (v' := ?_) rfl hn rfl (by simp only [↓nrmL, nrmZ, qe, ↓reduceIte, qa, ze, zn, hc2, List.map]; rfl) rfl ?hv fun _ _ => ar ?_; case hv => rfl) | refine WpE.nil (hKF _ _ ?_)
    rename AHeap => H4
    rename ExtI H6 H4 => hx4
    exfalso
    have hst := hstrict cs6 hp6 pv hpv.1 hpv.2 ha0
    omega
   have hc2 : decide (cmpI (K (cAt cs6 (a - 1))) (K (cAt cs6 (pv))) < 0) = true := by rw [cmpI_neg]; exact hlt
   have hlt' := of_decide_eq_true hlt
   simp only [↓nrmL, nrmZ, qe, ↓reduceIte, qa, ze, zn, hc2]
   repeat first | refine Fe.pure rfl rfl (by simp only [↓nrmL, nrmZ, qe, ↓reduceIte, qa, ze, zn, hc2]; rfl) ?_ | (refine Fe.pcall (v' := ?_) rfl hn rfl (by simp only [↓nrmL, nrmZ, qe, ↓reduceIte, qa, ze, zn, hc2, List.map]; rfl) rfl ?hv fun _ _ => ar ?_; case hv => rfl) | refine WpE.nil (hKF _ _ ?_)
   rename AHeap => H4
   rename ExtI H6 H4 => hx4
   refine cf rfl ?_
   refine sk ?_
   dsimp only
   exact ⟨(), ⟨rfl, rfl, rfl, rfl, rfl, rfl, rfl, rfl, rfl, trivial⟩, hs6.ext hx4.ext⟩
  clear hs6
  rintro _ g7 H7 hs7
  haveI := hs7.sl.one
  simp only [↓nrmL, nrmZ, qe, ↓reduceIte, qa, ze, zn]
  repeat first | refine mI ?_ | refine mF ?_ | refine mv ?_ | refine sq ?_ | refine rg fun KF hKF => ?_
  refine WpO.do (WpX.conD hn rfl rfl (by simp only [↓nrmL, nrmZ, qe, ↓reduceIte, qa, ze, zn, List.map] <;> rfl) (K_partition (a := a) (b := b) (pv := pv) hU hs7 hpv (by omega) hn40) fun v H8 h8 => ?_)
  obtain ⟨mid, f, cs8, rfl, hm1, hm2, hs8, hp8, hlow, hhigh⟩ := h8
  have hPS : PartS K cs8 a b mid := ⟨fun t t1 t2 => by have := hlow t t1 t2; omega, fun t t1 t2 => by have := hhigh t t1 t2; omega⟩
  have hpc := hp6.trans hp8
  have hout8 := hout.perm ha hb1 hpc
  have hdis8 := hdis cs8 hpc
  haveI := hs8.sl.one
  have e2 : IntKind.i64.wrap ((mid : Int) - (a : Int)) = ((mid - a : Nat) : Int) := by rw [w64 (by omega)]; omega
  have e3 : IntKind.i64.wrap ((b : Int) - (mid : Int)) = ((b - mid : Nat) : Int) := by rw [w64 (by omega)]; omega
  have e4 : IntKind.i64.wrap ((l : Int).tdiv 8) = ((l / 8 : Nat) : Int) := by
   have e : (l : Int).tdiv 8 = ((l / 8 : Nat) : Int) := rfl
   rw [e, w64 (by omega)]
  have e5 := wa1 (a := mid) (by omega)
  cases hlr : decide (((mid - a : Nat) : Int) < ((b - mid : Nat) : Int))
  ·skip
   repeat first | refine mI ?_ | refine mB ?_ | refine mT ?_ | refine mF ?_ | refine mv ?_ | refine bn rfl rfl rfl (by simp only [↓nrmL, nrmZ, qe, ↓reduceIte, qa, ze, zn, e2, e3, e4, hlr, e5]; rfl) ?_ | refine b0 ?_ | refine xt ?_ | refine nl hKF ?_ | refine sq ?_ | refine rg fun KF hKF => ?_ | refine cf rfl ?_
   refine WpO.do (WpX.con (ih (mid + 1) b L cs8 H8 (by omega) (by omega) (by omega) hL hdis8 (Or.inr fun t t1 t2 => by rw [Nat.add_sub_cancel]; exact hPS.hi t (by omega) t2) hs8) hnR rfl (by simp only [↓nrmL, nrmZ, qe, ↓reduceIte, qa, ze, zn, List.map] <;> rfl) fun v H9 h9 => ?_)
   obtain ⟨cs9, hs9, hp9, hsr9⟩ := h9
   repeat first | refine mI ?_ | refine nl hKF ?_ | refine rg fun KF hKF => ?_ | dsimp only
   exact ⟨(a, mid, L, decide (((b - mid : Nat) : Int) ≥ ((l / 8 : Nat) : Int)), f, cs9), by dsimp only; omega, ⟨rfl, rfl, rfl, rfl, rfl, trivial⟩, ha, by dsimp only; omega, by dsimp only; omega, hL, hs9, hp1.trans ((hpc.trans (hp9.weak (by omega) (Nat.le_refl _))).weak ha hb1), (hout8.perm ha hb1 (hp9.weak (by omega) (Nat.le_refl _))).right (hPS.right hp9) hsr9⟩
  repeat first | refine mI ?_ | refine mB ?_ | refine mT ?_ | refine mF ?_ | refine mv ?_ | refine bn rfl rfl rfl (by simp only [↓nrmL, nrmZ, qe, ↓reduceIte, qa, ze, zn, e2, e3, e4, hlr]; rfl) ?_ | refine b0 ?_ | refine xt ?_ | refine nl hKF ?_ | refine sq ?_ | refine rg fun KF hKF => ?_ | refine ct rfl ?_
  refine WpO.do (WpX.con (ih a mid L cs8 H8 (by omega) (by omega) (by omega) hL hdis8 (by
   by_cases e : a = 0
   ·exact Or.inl e
   ·exact Or.inr fun t t1 t2 => by have := hstrict cs8 hpc t t1 (by omega) (by omega); omega) hs8) hnR rfl (by simp only [↓nrmL, nrmZ, qe, ↓reduceIte, qa, ze, zn, List.map] <;> rfl) fun v H9 h9 => ?_)
  obtain ⟨cs9, hs9, hp9, hsr9⟩ := h9
  repeat first | refine mI ?_ | refine bn rfl rfl rfl (by simp only [↓nrmL, nrmZ, qe, ↓reduceIte, qa, ze, zn, e5]; rfl) ?_ | refine nl hKF ?_ | refine rg fun KF hKF => ?_ | dsimp only
  exact ⟨(mid + 1, b, L, decide (((mid - a : Nat) : Int) ≥ ((l / 8 : Nat) : Int)), f, cs9), by dsimp only; omega, ⟨rfl, rfl, rfl, rfl, rfl, trivial⟩, by dsimp only; omega, by dsimp only; omega, hb1, hL, hs9, hp1.trans ((hpc.trans (hp9.weak (Nat.le_refl _) (by omega))).weak ha hb1), (hout8.perm ha hb1 (hp9.weak (Nat.le_refl _) (by omega))).left (hPS.left hp9) hsr9⟩
theorem pdq_all {F : FuncId} : PdqQ F 74 60 := fun H0 p n U K cs h1 _ hU hdis H L hL hs => by
 have hU2 : SrtU ext prog H p F U K := ⟨fun H' hx x y ux uy => hU.cmp H' (hs.ex.trans hx) x y ux uy, hU.one⟩
 have hl2 : Low H p := ⟨fun r off len cap sz e => hs.sl.lt e⟩
 have hs2 : SrtS H p n U cs H := ⟨hs.sl, hs.wr, ExtP.refl _ _, hs.mem⟩
 have hd2 : DisS K cs n := fun i j hi hj hne => by
  rcases Nat.lt_or_gt_of_ne hne with h | h
  ·exact hdis i j h hj
  ·exact fun e => hdis j i h hi e.symm
 exact (K_pdq hU2 hl2 (by omega) 60 0 n L cs H (by omega) (Nat.zero_le _) (Nat.le_refl _) hL hd2 (Or.inl rfl) hs2).mono fun v H' ⟨cs', q1, q2, q3⟩ => ⟨cs', ⟨q1.sl, q1.wr, hs.ex.trans q1.ex, q1.mem⟩, q2, q3⟩
end Go.Am

namespace Go.Am
open Go
attribute [local irreducible] Wp WpO WpX WpE
end Go.Am

namespace Go.Am
open Go
attribute [local irreducible] Wp WpO WpX WpE
end Go.Am

namespace Go.Am
open Go
open Nat renaming reduceEqDiff → qe, reduceAdd → qa
open Int renaming reduceBEq → ze, reduceBNe → zn
attribute [local irreducible] Wp WpO WpX WpE
instance K_Few3 {p : AVal} {H : AHeap} {w h : Int} {l : List UInt8} [hp : BytesI H p l] : PureCon ext prog 11 [.agg [.int .i64 w, .int .i64 h, p]] H 1 (.bool (decide (((l.length : Nat) : Int) ≤ 6000))) := ⟨by
 refine con_of (show prog 11 = some c11 from rfl) rfl rfl fun n hn => ?_
 haveI := hp.one
 repeat first | refine mB ?_ | refine fd ?_ | refine Fo.ld rfl rfl ?_ | refine b0 ?_ | refine ln (by simp only [↓nrmL, nrmK, qe, ↓reduceIte]; rfl) ?_ | refine bA ?_ | refine nl hKF ?_ | refine sq ?_ | refine rg fun KF hKF => ?_ | refine rt ?_ | dsimp only
 refine rz trivial ?_
 exact ⟨rfl, Ext0.ext⟩⟩
end Go.Am

namespace Go.Am
open Go
open Nat renaming reduceEqDiff → qe, reduceAdd → qa
open Int renaming reduceBEq → ze, reduceBNe → zn
attribute [local irreducible] Wp WpO WpX WpE
theorem K_TraceErr {w h : Int} {p : AVal} {H : AHeap} {l : List UInt8} [hp : BytesI H p l] (he : Img.err ⟨w, h, l⟩ ≠ 0) : Con ext prog 5 18 [.agg [.int .i64 w, .int .i64 h, p]] H fun v H' => v = .tuple [.nslice, .int .i64 (Img.err ⟨w, h, l⟩)] ∧ Ext H H' := by
 refine con_of (show prog 18 = some c18 from rfl) rfl rfl fun n hn => ?_
 haveI := hp.one
 have hne : (Img.err ⟨w, h, l⟩ != 0) = true := by simpa using he
 repeat first | refine mI ?_ | refine mN ?_ | refine Fo.ldN rfl rfl (by simp only [↓nrmL, nrmZ, qe, ↓reduceIte, qa, ze, zn, hne]; rfl) ?_ | refine bn rfl rfl rfl (by simp only [hne]; rfl) ?_ | (refine Fo.pcall (v' := ?_) hn rfl (by simp only [↓nrmL, nrmZ, qe, ↓reduceIte, qa, ze, zn, hne, List.map]; rfl) rfl ?hv fun _ _ => ?_; case hv => rfl) | refine bA ?_ | refine nl hKF ?_ | refine sq ?_ | refine rg fun KF hKF => ?_ | refine ct rfl ?_ | refine rt ?_ | dsimp only
 refine rz trivial ?_
 exact ⟨rfl, Ext0.ext⟩
theorem cost_both {w h : Int} {l : List UInt8} {L : List Int} : ∃ N E : Int, (∀ (H : AHeap) (q pq : AVal) [BytesI H q l] [IntsI H pq L], PureCon ext prog 15 [.agg [.int .i64 w, .int .i64 h, q], pq] H 6 (.tuple [.int .i64 N, .int .i64 E])) ∧ (∀ (H : AHeap) (q pq : AVal) [BytesI H q l] [IntsI H pq L], PureCon ext prog 16 [.agg [.int .i64 w, .int .i64 h, q], pq] H 6 (.tuple [.int .i64 N, .int .i64 E])) := by
 cases h0 : (Img.err ⟨w, h, l⟩ == 0)
 ·have he : Img.err ⟨w, h, l⟩ ≠ 0 := by simpa using h0
  exact ⟨0, _, fun H q pq _ hi => ⟨K_CostErr hi he⟩, fun H q pq _ hi => ⟨K_refCostErr hi he⟩⟩
 ·obtain ⟨a, b, rfl, rfl, ok⟩ := ok_of h0
  cases hb : pathB a b L
  ·exact ⟨0, 1, fun H q pq _ hi => ⟨K_CostNo hi ok hb⟩, fun H q pq _ hi => ⟨K_refCostNo hi ok hb⟩⟩
  ·obtain ⟨f, h1, rfl, h2⟩ := path_list hb
   exact ⟨_, 0, fun H q pq _ hi => ⟨fun n hn => K_CostOk hi ok h2 h1 n (by omega)⟩, fun H q pq _ hi => ⟨K_refCostOk hi ok h2 h1⟩⟩
theorem K_StavePaths {w h : Int} {p pq : AVal} {H : AHeap} {l : List UInt8} {L : List Int} [hp : BytesI H p l] [hq : IntsI H pq L] : Con ext prog 80 3 [.agg [.int .i64 w, .int .i64 h, p], pq] H fun v H' => v = .bool true ∧ Ext H H' := by
 refine con_of (show prog 3 = some c3 from rfl) rfl rfl fun n hn => ?_
 haveI := hp.one
 haveI := hq.one
 cases h1 : decide (((l.length : Nat) : Int) ≤ 6000)
 ·skip
  repeat first | refine ox ?_ | refine mB ?_ | refine Fo.ldN rfl rfl (by simp only [↓nrmL, nrmZ, qe, ↓reduceIte, qa, ze, zn, h1]; rfl) ?_ | refine tB ?_ | (refine Fo.pcall (v' := ?_) hn rfl (by simp only [h1, List.map]; rfl) rfl ?hv fun _ _ => ?_; case hv => rfl) | (refine Fo.pcall (v' := ?_) hn rfl (by simp only [↓nrmL, nrmZ, qe, ↓reduceIte, qa, ze, zn, h1, List.map]; rfl) rfl ?hv fun _ _ => ?_; case hv => (simp only [h1]; rfl)) | refine bA ?_ | refine Fo.now rfl rfl (by simp only [↓nrmL, nrmZ, qe, ↓reduceIte, qa, ze, zn, h1]; rfl) ?_ | refine nl hKF ?_ | refine sq ?_ | refine rg fun KF hKF => ?_ | refine ct rfl ?_ | refine rt ?_ | dsimp only
  refine rz trivial ?_
  exact ⟨rfl, Ext0.ext⟩
 cases h2 : decide (((L.length : Nat) : Int) > 700)
 rotate_left
 ·skip
  repeat first | refine oy ?_ | refine mB ?_ | refine mv ?_ | refine Fo.ldN rfl rfl (by simp only [↓nrmL, nrmZ, qe, ↓reduceIte, qa, ze, zn, h1, h2]; rfl) ?_ | refine bn rfl rfl rfl (by simp only [h1, h2]; rfl) ?_ | refine fB ?_ | (refine Fo.pcall (v' := ?_) hn rfl (by simp only [h1, h2, List.map]; rfl) rfl ?hv fun _ _ => ?_; case hv => rfl) | (refine Fo.pcall (v' := ?_) hn rfl (by simp only [↓nrmL, nrmZ, qe, ↓reduceIte, qa, ze, zn, h1, h2, List.map]; rfl) rfl ?hv fun _ _ => ?_; case hv => (simp only [h1, h2]; rfl)) | refine ln (by simp only [↓nrmL, nrmK, qe, ↓reduceIte]; rfl) ?_ | refine bA ?_ | refine Fo.now rfl rfl (by simp only [↓nrmL, nrmZ, qe, ↓reduceIte, qa, ze, zn, h1, h2]; rfl) ?_ | refine nl hKF ?_ | refine sq ?_ | refine rg fun KF hKF => ?_ | refine ct rfl ?_ | refine rt ?_ | dsimp only
  refine rz trivial ?_
  exact ⟨rfl, Ext0.ext⟩
 have h3 := of_decide_eq_true h1
 have h4 := of_decide_eq_false h2
 haveI : SlimI L := ⟨by omega⟩
 haveI : Short l := ⟨by omega⟩
 obtain ⟨N, E, hC1, hC2⟩ := cost_both (w := w) (h := h) (l := l) (L := L)
 have hN : (N != N) = false := by simp
 have hE : (E != E) = false := by simp
 have hLL : decide (L = L) = true := decide_eq_true rfl
 repeat first | refine oy ?_ | refine mB ?_ | refine mv ?_ | refine Fo.ldN rfl rfl (by simp only [↓nrmL, nrmZ, qe, ↓reduceIte, qa, ze, zn, h1, h2]; rfl) ?_ | refine bn rfl rfl rfl (by simp only [h1, h2]; rfl) ?_ | refine fB ?_ | (refine Fo.pcall (v' := ?_) hn rfl (by simp only [↓nrmL, nrmZ, qe, ↓reduceIte, qa, ze, zn, h1, h2, List.map]; rfl) rfl ?hv fun _ _ => ?_; case hv => (simp only [h1, h2]; rfl)) | refine ln (by simp only [↓nrmL, nrmK, qe, ↓reduceIte]; rfl) ?_ | refine bA ?_ | refine Fo.now rfl rfl (by simp only [↓nrmL, nrmZ, qe, ↓reduceIte, qa, ze, zn, h1, h2]; rfl) ?_ | refine nl hKF ?_ | refine sq ?_ | refine rg fun KF hKF => ?_ | refine cf rfl ?_ | refine sk ?_
 refine WpO.do (WpX.conD hn rfl rfl (by simp only [↓nrmL, nrmZ, qe, ↓reduceIte, qa, ze, zn, List.map] <;> rfl) (K_CopyInk (a := w) (b := h) (l := l) (by omega)) fun v H1 ⟨a1, e1, hb1, hf1, hw1, hx1⟩ => ?_)
 subst e1
 dsimp only at hb1 ⊢
 haveI : ExtI _ H1 := ⟨hx1⟩
 haveI := hb1
 haveI := hb1.one
 refine mv ?_
 refine WpO.do (WpX.conD hn rfl rfl (by simp only [↓nrmL, nrmZ, qe, ↓reduceIte, qa, ze, zn, List.map] <;> rfl) (K_CloneAny (p := pq) (l := L)) fun v H2 ⟨hI2, ho2, hx2⟩ => ?_)
 haveI : ExtI _ H2 := ⟨hx2⟩
 haveI := hI2
 haveI := ho2
 repeat first | refine oy ?_ | refine mI ?_ | refine mB ?_ | refine mT ?_ | refine mv ?_ | refine Fo.ldN rfl rfl (by simp only [↓nrmL, nrmZ, qe, ↓reduceIte, qa, ze, zn, hN, hE, hLL]; rfl) ?_ | refine bn rfl rfl rfl (by simp only [hN, hE, hLL]; rfl) ?_ | refine fB ?_ | refine xt ?_ | (refine Fo.pcall (v' := ?_) hn rfl (by simp only [↓nrmL, nrmZ, qe, ↓reduceIte, qa, ze, zn, hN, hE, hLL, List.map]; rfl) rfl ?hv fun _ _ => ?_; case hv => (simp only [hN, hE, hLL]; rfl)) | (refine Fo.pcall (v' := ?_) hn rfl (by simp only [↓nrmL, nrmZ, qe, ↓reduceIte, qa, ze, zn, hN, hE, hLL, List.map]; rfl) rfl ?hv fun _ _ => ?_; case hv => rfl) | refine nw ?_ | refine Fo.now rfl rfl rfl ?_ | refine so rfl (rfl : _ = AVal.agg _) rfl rfl rfl (by simp only [↓nrmL, nrmZ, qe, ↓reduceIte, qa, ze, zn, hN, hE, hLL]; rfl) ?_ | refine nl hKF ?_ | refine sq ?_ | refine rg fun KF hKF => ?_ | refine cf rfl ?_ | refine sk ?_
 rename AHeap => H3
 have hx03 : Ext H H3 := Ext0.ext
 have hb3 : BytesI H3 a1 l := inferInstance
 have hp3 : BytesI H3 p l := inferInstance
 haveI := hb3
 haveI := hp3
 have himg : decide ((⟨w, h, l⟩ : Img) = ⟨w, h, l⟩) = true := decide_eq_true rfl
 cases h0 : (Img.err ⟨w, h, l⟩ == 0)
 ·have he : Img.err ⟨w, h, l⟩ ≠ 0 := by simpa using h0
  have hne : (Img.err ⟨w, h, l⟩ != 0) = true := by simpa using he
  have hee : (Img.err ⟨w, h, l⟩ == Img.err ⟨w, h, l⟩) = true := by simp
  refine WpO.do (WpX.conD hn rfl rfl (by simp only [↓nrmL, nrmZ, qe, ↓reduceIte, qa, ze, zn, List.map] <;> rfl) (K_TraceErr (p := a1) he) fun v H4 ⟨e4, hx4⟩ => ?_)
  subst e4
  haveI : ExtI H3 H4 := ⟨hx4⟩
  repeat first | refine oy ?_ | refine mI ?_ | refine mB ?_ | refine mT ?_ | refine mN ?_ | refine Fo.ldN rfl rfl (by simp only [↓nrmL, nrmZ, qe, ↓reduceIte, qa, ze, zn, hne, hee, himg]; rfl) ?_ | refine bn rfl rfl rfl (by simp only [hne, hee, himg]; rfl) ?_ | refine b0 ?_ | refine tB ?_ | refine xt ?_ | (refine Fo.pcall (v' := ?_) hn rfl (by simp only [hne, hee, himg, List.map]; rfl) rfl ?hv fun _ _ => ?_; case hv => rfl) | (refine Fo.pcall (v' := ?_) hn rfl (by simp only [↓nrmL, nrmZ, qe, ↓reduceIte, qa, ze, zn, hne, hee, himg, List.map]; rfl) rfl ?hv fun _ _ => ?_; case hv => (simp only [hne, hee, himg]; rfl)) | (refine Fo.pcall (v' := ?_) hn rfl (by simp only [↓nrmL, nrmZ, qe, ↓reduceIte, qa, ze, zn, hne, hee, himg, List.map]; rfl) rfl ?hv fun _ _ => ?_; case hv => rfl) | (refine Fo.len (v := ?_) (rfl : _ = AVal.nslice) ?hv ?_; case hv => rfl) | refine nl hKF ?_ | refine sq ?_ | refine rg fun KF hKF => ?_ | refine ct rfl ?_ | refine rt ?_ | dsimp only
  refine rz trivial ?_
  exact ⟨rfl, Ext0.ext⟩
 obtain ⟨a, b, rfl, rfl, ok⟩ := ok_of h0
 have he := ok.err
 by_cases hz : a = 0 ∨ b = 0
 ·haveI : LinesI H3 .nslice [] := ⟨[], inferInstance, ⟨fun i hi => (by cases hi)⟩⟩
  haveI : SlimL [] := ⟨by simp, fun i hi => (by cases hi)⟩
  have hll : decide (([] : List (List Int)) = []) = true := rfl
  refine WpO.do (WpX.conD hn rfl rfl (by simp only [↓nrmL, nrmZ, qe, ↓reduceIte, qa, ze, zn, List.map] <;> rfl) (K_TraceNone (p := a1) ok hz) fun v H4 ⟨e4, hx4⟩ => ?_)
  subst e4
  haveI : ExtI H3 H4 := ⟨hx4⟩
  repeat first | refine oy ?_ | refine mI ?_ | refine mB ?_ | refine mT ?_ | refine mN ?_ | refine Fo.ldN rfl rfl (by simp only [↓nrmL, nrmZ, qe, ↓reduceIte, qa, ze, zn, he]; rfl) ?_ | refine bn rfl rfl rfl (by simp only [↓nrmL, nrmZ, qe, ↓reduceIte, qa, ze, zn, he]; rfl) ?_ | refine xt ?_ | (refine Fo.pcall (v' := ?_) hn rfl (by simp only [↓nrmL, nrmZ, qe, ↓reduceIte, qa, ze, zn, he, List.map]; rfl) rfl ?hv fun _ _ => ?_; case hv => (simp only [he]; rfl)) | refine nl hKF ?_ | refine sq ?_ | refine rg fun KF hKF => ?_ | refine cf rfl ?_ | refine sk ?_
  refine WpO.do (WpX.conD hn rfl rfl (by simp only [↓nrmL, nrmZ, qe, ↓reduceIte, qa, ze, zn, List.map] <;> rfl) (K_refTraceNone (p := p) (l := l) hz) fun v H5 ⟨e5, hx5⟩ => ?_)
  subst e5
  haveI : ExtI _ H5 := ⟨hx5⟩
  repeat first | refine oy ?_ | refine mB ?_ | refine Fo.ldN rfl rfl (by simp only [↓nrmL, nrmZ, qe, ↓reduceIte, qa, ze, zn, hll, himg]; rfl) ?_ | refine tB ?_ | (refine Fo.pcall (v' := ?_) hn rfl (by simp only [hll, himg, List.map]; rfl) rfl ?hv fun _ _ => ?_; case hv => rfl) | (refine Fo.pcall (v' := ?_) hn rfl (by simp only [↓nrmL, nrmZ, qe, ↓reduceIte, qa, ze, zn, hll, himg, List.map]; rfl) rfl ?hv fun _ _ => ?_; case hv => (simp only [hll, himg]; rfl)) | refine nl hKF ?_ | refine rt ?_ | dsimp only
  refine rz trivial ?_
  exact ⟨rfl, Ext0.ext⟩
 have ha0 : 0 < a := by omega
 have hb0 : 0 < b := by omega
 refine WpO.do (WpX.conD hn rfl rfl (by simp only [↓nrmL, nrmZ, qe, ↓reduceIte, qa, ze, zn, List.map] <;> rfl) (K_TraceOk (D := 74) (cap := 60) (p := a1) (l := l) ok ha0 hb0 (by decide) pdq_all (by omega)) fun v H4 h6 => ?_)
 obtain ⟨q, qs, rfl, hLi, hTD, hx4⟩ := h6
 haveI : ExtI H3 H4 := ⟨hx4⟩
 obtain ⟨pc, hpc, hrw⟩ := hLi.it
 haveI := hpc.one
 haveI := hLi
 haveI hp4 : BytesI H4 p l := inferInstance
 repeat first | refine oy ?_ | refine mI ?_ | refine mB ?_ | refine mT ?_ | refine mv ?_ | refine Fo.ldN rfl rfl (by simp only [↓nrmL, nrmZ, qe, ↓reduceIte, qa, ze, zn, he]; rfl) ?_ | refine bn rfl rfl rfl (by simp only [↓nrmL, nrmZ, qe, ↓reduceIte, qa, ze, zn, he]; rfl) ?_ | refine xt ?_ | (refine Fo.pcall (v' := ?_) hn rfl (by simp only [↓nrmL, nrmZ, qe, ↓reduceIte, qa, ze, zn, he, List.map]; rfl) rfl ?hv fun _ _ => ?_; case hv => (simp only [he]; rfl)) | refine nl hKF ?_ | refine sq ?_ | refine rg fun KF hKF => ?_ | refine cf rfl ?_ | refine sk ?_
 rename AHeap => H5
 have hx45 : Ext H4 H5 := Ext0.ext
 haveI hp5 : BytesI H5 p l := inferInstance
 refine WpO.do (WpX.conD hn rfl rfl (by simp only [↓nrmL, nrmZ, qe, ↓reduceIte, qa, ze, zn, List.map] <;> rfl) (K_refTraceOk (p := p) (l := l) ok ha0 hb0) fun v H6 h7 => ?_)
 obtain ⟨os, hLo, hTS, hx6⟩ := h7
 obtain rfl := hTD.trs.uniq hTS
 haveI : ExtI H5 H6 := ⟨hx6⟩
 obtain ⟨pc2, hpc2, hrw2⟩ := hLo.it
 haveI := hpc2.one
 haveI := hLo
 haveI : LinesI H6 q (qs.map (lineQ a)) := (hLi.ext hx45).ext hx6
 have hq60 : qs.length ≤ 60 := by
  obtain ⟨qs', P', hT', hE', hl', _⟩ := hTD.it
  have := (tr_inv ha0 ok.wa hb0 hT').many
  omega
 haveI : SlimL (qs.map (lineQ a)) := ⟨by rw [List.length_map]; omega, fun i hi => ⟨by rw [List.getElem_map, lineQ_len]; have := ok.wa; omega⟩⟩
 have hll : decide (qs.map (lineQ a) = qs.map (lineQ a)) = true := decide_eq_true rfl
 repeat first | refine oy ?_ | refine mB ?_ | refine Fo.ldN rfl rfl (by simp only [↓nrmL, nrmZ, qe, ↓reduceIte, qa, ze, zn, hll, himg]; rfl) ?_ | refine tB ?_ | (refine Fo.pcall (v' := ?_) hn rfl (by simp only [hll, himg, List.map]; rfl) rfl ?hv fun _ _ => ?_; case hv => rfl) | (refine Fo.pcall (v' := ?_) hn rfl (by simp only [↓nrmL, nrmZ, qe, ↓reduceIte, qa, ze, zn, hll, himg, List.map]; rfl) rfl ?hv fun _ _ => ?_; case hv => (simp only [hll, himg]; rfl)) | refine nl hKF ?_ | refine rt ?_ | dsimp only
 refine rz trivial ?_
 exact ⟨rfl, Ext0.ext⟩
end Go.Am

namespace Go.Proofs.Ytpochhefklmnfaa.StavePaths
open Go.ChangeShapes Go.WideShapes Go.ChangeAt Go.RowKit Go.Am Go.Proofs.Ytpochhefklmnfaa.Laid

theorem con (H : AHeap) (avs : List AVal) (ht : tablesIn aroundT H = true) (h : ArgSW Try.prog H 4 [24, 25] avs) : Con ext prog 80 3 avs H fun v H' => v = .bool true ∧ Ext H H' := by
  obtain ⟨a0, r0, rfl, h0, a1, r1, rfl, h1, rfl⟩ := h
  obtain ⟨w0, hh0, p0, l0, rfl, k0, _⟩ := shapeW_img (ti := 3) (ts := 22) (tb := 5) Try.underlying24 (by kernel_rfl) Try.underlying3 Try.underlying22 Try.underlying5 (by kernel_rfl) h0
  obtain ⟨q1, l1, rfl, k1, m1⟩ := shapeW_ints Try.underlying25 Try.underlying3 (by kernel_rfl) (by kernel_rfl) h1
  haveI := m1
  have e0 : argV Try.prog 24 [.int .i64 w0, .int .i64 hh0, p0] = .agg [.int .i64 w0, .int .i64 hh0, p0] := by simp only [argV, show aggTy Try.prog 24 = true by kernel_rfl, cond_true]
  have e1 : argV Try.prog 25 [q1] = q1 := by simp only [argV, show aggTy Try.prog 25 = false by kernel_rfl, cond_false, List.headD_cons]
  rw [e0, e1]
  exact K_StavePaths (w := w0) (h := hh0) (p := p0) (pq := q1) (l := l0) (L := l1) (hp := k0) (hq := k1)

theorem contract (H : Type) (enc : TypeId × Value → H) (W : World) (base : Nat) (args : Array Value) (ds gs : List (DataW H)) (before : List MemPlace)
    (hval : ∀ (j : Nat) t v, Try.f3.params[j]? = some t → args[j]? = some v → Value.okWide Try.prog W .any base t v)
    (hW : DataW.Whole enc Try.prog Try.f3.params.toList Rows.stavePathsSpec.vars false W args.toList ds gs before) (hz : (DataW.weightsEach Try.prog (Try.f3.params.toList ++ (OpenSpec.ofChange Rows.stavePathsSpec).bare.plain.varTypes Try.prog) (ds ++ gs)).all (· ≤ reachBytes) = true) (hL : laidMetH Try.prog Rows.stavePathsRow.laid W) :
    Calls Try.prog 3 args W fun e W' => ∃ v, e = .returned v ∧ Rows.stavePathsSpec.post enc Try.prog Try.f3 false true false false W args v W' := by
  have hW' := hW
  obtain ⟨p, q, hA, _⟩ := hW'
  rw [Try.params3] at hA
  obtain ⟨v0, vs0, d0, ds0, p0, q0, _, rfl, _, _, r0⟩ := trodAll_cons hA
  obtain ⟨v1, vs1, d1, ds1, p1, q1, _, rfl, _, _, r1⟩ := trodAll_cons r0
  obtain ⟨_, rfl, _⟩ := trodAll_nil r1
  exact law_callsW (tb := 4) (n := 4) (d := 80) (tabs := aroundT) mixed progOk Try.func3 rfl (by decide +kernel) laidOut rowed full (by kernel_rfl) rfl (by kernel_rfl) Try.underlying4 (by kernel_rfl) (by kernel_rfl)
    (fun H avs ht h => con H avs ht (by rw [Try.params3] at h; exact h)) H enc W base args _ gs before rfl hval hW (slim_app hz) around_cells

theorem laid_met (os : Os) : laidMet Try.prog Rows.stavePathsRow.laid ((laidWorld os).forCall (fun _ _ => 0) ⟨#[], #[.agg #[.int .i64 0, .int .i64 0, .slice none 0 0], .slice none 0 0], []⟩).memory :=
  laidMet_of_run' 8 (by kernel_rfl) (by kernel_rfl)
theorem reads (os : Os) {H : Type} (enc : TypeId × Value → H) : ∃ places, DataW.whole enc Try.prog ((laidWorld os).forCall (fun _ _ => 0) ⟨#[], #[.agg #[.int .i64 0, .int .i64 0, .slice none 0 0], .slice none 0 0], []⟩).memory Try.f3.params.toList Rows.stavePathsSpec.vars false #[Value.agg #[.int .i64 0, .int .i64 0, .slice none 0 0], .slice none 0 0].toList 8 = some ([.agg [.lit (.int .i64 0), .lit (.int .i64 0), .nil], .nil], [], places) :=
  ⟨[], by kernel_rfl⟩

theorem lifted (os : Os) (started : os.Started) (H : Type) (enc : TypeId × Value → H) (F : Stop.Interp) :
    ReturnsInHanded {} Try.checked os 3 .any ((OpenSpec.ofChange Rows.stavePathsSpec).preRow enc Try.prog Try.f3 Rows.stavePathsRow.domain false Rows.stavePathsRow.laid) (((OpenSpec.ofChange Rows.stavePathsSpec).at F).post enc Try.prog Try.f3 false true false false) := by
  obtain ⟨places, hx⟩ := reads os enc
  refine returnsInHanded_of_row (C := Try.checked) (s := OpenSpec.ofChange Rows.stavePathsSpec) own started (by kernel_rfl) Try.func3
    (witness_row_at (enc := enc) (C := Try.checked) false (laidWorld os) #[.agg #[.int .i64 0, .int .i64 0, .slice none 0 0], .slice none 0 0] rfl (by kernel_rfl) (by kernel_rfl) (by kernel_rfl)
      (OpenSpec.preRow_of_cond 8 hx (by kernel_rfl) (fun k hk => by cases hk) (by kernel_rfl) (laid_met os))) ?_
  intro W base args ds gs before hval hW _ _ hz hL _ _
  exact contract H enc W base args ds gs before hval hW hz hL

theorem said : Rows.StavePathsSaid :=
  OpenClaim.holds_of_cond 3 Try.f3 rfl rfl rfl rfl rfl rfl rfl ⟨rfl, rfl, rfl, rfl, rfl⟩ rfl rfl rfl rfl rfl (by kernel_rfl) Try.func3 (by kernel_rfl)
    (of_decide_eq_true (by kernel_rfl)) (by unfold Func.isWrapper; first | (rw [if_pos (by decide +kernel)]; kernel_rfl) | (rw [if_neg (by decide +kernel)]; exact ⟨rfl, rfl⟩))
    (fun os started H enc _ F => by rw [OpenClaim.pre_eq_preRow]; exact lifted os started H enc F)
end Go.Proofs.Ytpochhefklmnfaa.StavePaths
