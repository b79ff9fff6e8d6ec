/-
  StaveFound returns true for all numbers and bends, and leaves them as they were. No condition.
-/
import Derived.Test.YtpochhefklmnfaaAmBF
set_option linter.unusedSimpArgs false
set_option linter.unusedVariables false
set_option maxHeartbeats 32000000
set_option maxRecDepth 100000
set_option synthInstance.maxHeartbeats 4000000
set_option synthInstance.maxSize 1000000000
namespace Go.Am
open Go
open Nat renaming reduceEqDiff → qe, reduceAdd → qz
open Int renaming reduceBEq → qn, reduceBNe → qq
attribute [local irreducible] Wp WpO WpX WpE
instance linesNew {H : AHeap} {o o' : AObj} {p : AVal} {ls : List (List Int)} [h : LinesI H p ls] : LinesI ((H.push o).set H.n o') p ls := h.ext (((Ext.refl H).push o).set (Nat.le_refl _) o')
theorem Waves.sortT {l : List UInt8} {w h N : Nat} {r : Nat → Nat → Nat} {bd : Nat → Nat} (W : Waves l w h N r bd) (hN : N < 50) : SortT w h l 20 := fun qs P hT H0 p U K cs hU hK hd => by
 obtain ⟨h1, h2⟩ := W.found hT
 refine pdq_sorted hU (by omega) fun i j hi hij hj => ?_
 have e : ∀ t (ht : t < qs.length), (qs.getD t id) 0 = r t 0 := fun t ht => by
  rw [List.getD_eq_getElem?_getD, List.getElem?_eq_getElem ht]; exact h2 t ht 0 W.w0
 rw [hK i (by omega), hK j hj, e i (by omega), e j hj]
 have := W.apart i j hij (by omega) 0 W.w0
 omega
theorem K_StaveFound {c1 c2 : UInt8} {pb : AVal} {H : AHeap} {bends : List UInt8} [hpb : BytesI H pb bends] : Con ext prog 80 6 [.int .u8 (c1.toNat : Int), .int .u8 (c2.toNat : Int), pb] H fun v H' => v = .bool true ∧ Ext H H' := by
 refine con_of (show prog 6 = some c6 from rfl) rfl rfl fun n0 hn => ?_
 haveI := hpb.one
 repeat first | refine mI ?_ | refine mB ?_ | refine mv ?_ | refine nl hKF ?_ | refine sq ?_ | refine rg fun KF hKF => ?_
 refine WpO.do (WpX.conD hn rfl rfl (by simp only [↓nrmL, nrmZ, qe, ↓reduceIte, qz, qn, qq, List.map] <;> rfl) (K_Wavy (c := c1) (c2 := c2) (p := pb) (bends := bends)) fun v H1 h5 => ?_)
 obtain ⟨w, h, n, L, lo, hi, P, gp, op, cells, B, R⟩ := h5
 obtain ⟨rfl, w1, w2, n1, n2, hW, lo1, hi1, lo2, hi2, eh, ok, hgp, hwr, hfr, hop, hst, B1, B2, B3, hext, hdrw⟩ := R
 haveI : ExtI H H1 := ⟨hext⟩
 haveI := hgp
 haveI := hgp.one
 haveI := hop
 haveI := hop.one
 have hLl := hW.len
 have W := waves_of w1 w2 n2 hW lo2 hi2 eh n1 hdrw
 have hh := ok.hb
 obtain ⟨sts, hsts⟩ : ∃ sts, (List.range n).map (staveL lo L) = sts := ⟨_, rfl⟩
 have hstl : sts.length = n := by rw [← hsts]; simp
 have hsti : ∀ j (h : j < sts.length), sts[j] = staveL lo L j := fun j hj => by subst hsts; simp
 have hSt : StavesI H1 op n cells sts := ⟨hstl, inferInstance, fun j hj => by
  obtain ⟨sp, a1, a2⟩ := hst j (by omega)
  rw [hsti j hj]
  exact ⟨sp, a1, a2.lines⟩⟩
 have hfit : ∀ (j : Nat) (h' : j < sts.length), fitsB w h sts[j] = true := fun j hj => by
  rw [hsti j hj]; exact stave_fits w1 hW lo2 hi2 eh (by omega)
 have hall : sts.all (fitsB w h) = true := by
  rw [List.all_eq_true]
  intro s hs
  obtain ⟨j, hj, rfl⟩ := List.getElem_of_mem hs
  exact hfit j hj
 obtain ⟨ls, hls⟩ : ∃ ls, (List.range (5 * n)).map (lineT lo L) = ls := ⟨_, rfl⟩
 have hlsl : ls.length = 5 * n := by rw [← hls]; simp
 have hlsg : ∀ i, i < 5 * n → ls.getD i [] = lineL lo L (i / 5) (i % 5) := fun i hi => by
  rw [← hls, List.getD_eq_getElem?_getD, List.getElem?_map, List.getElem?_range hi]; rfl
 haveI hmod : ModL ls := ⟨fun i x => by
  by_cases h1 : i < 5 * n
  ·rw [hlsg i h1]
   by_cases h2 : x < L.length
   ·rw [lineL_at h2]
    have := lo2 x
    have := hi2 x
    have : i / 5 < n := by omega
    omega
   ·rw [getD_out (by rw [lineL_len]; omega)]; omega
  ·have : ls.getD i [] = [] := by rw [List.getD_eq_getElem?_getD, List.getElem?_eq_none (by omega)]; rfl
   rw [this]; simp⟩
 haveI hslim : SlimL ls := ⟨by omega, fun i hi => ⟨by rw [← getDL_at hi, hlsg i (by omega), lineL_len]; omega⟩⟩
 have hslimS : ∀ (i : Nat) (h : i < sts.length), SlimL sts[i] := fun i hi => ⟨by rw [hsti i hi]; simp [staveL], fun j hj => ⟨by
  have hj5 : j < 5 := by rw [hsti i hi] at hj; simpa [staveL] using hj
  rw [← getDL_at hj, hsti i hi, stave_get hj5, lineL_len]; omega⟩⟩
 have hstav : stavesS ls = sts := by rw [← hls, ← hsts]; exact staves_all (by omega)
 refine mT ?_
 refine xt ?_
 refine xt ?_
 refine nw ?_
 refine so rfl (rfl : _ = AVal.agg _) rfl rfl rfl (by simp only [↓nrmL, nrmZ, qe, ↓reduceIte, qz, qn, qq]; rfl) ?_
 refine mv ?_
 refine nl hKF ?_
 refine sq ?_
 refine rg fun KF hKF => ?_
 refine Fo.ldN rfl rfl (by simp only [↓nrmL, nrmZ, qe, ↓reduceIte, qz, qn, qq]; rfl) ?_
 refine WpO.do (WpX.conD hn rfl rfl (by simp only [↓nrmL, nrmZ, qe, ↓reduceIte, qz, qn, qq, List.map] <;> rfl) (K_TraceOk (D := 20) (p := gp) (l := P) ok W.w0 W.h0 (by decide) (W.sortT (by omega))) fun v H3 h6 => ?_)
 obtain ⟨q, qs', rfl, hLi, hTD, hx3⟩ := h6
 haveI : ExtI _ H3 := ⟨hx3⟩
 rw [W.lines hTD, lines_T hLl lo2, hls] at hLi
 obtain ⟨pc, hpc, hrw⟩ := hLi.it
 haveI := hpc
 haveI := hpc.one
 haveI := hLi
 repeat first | refine mI ?_ | refine mT ?_ | refine mv ?_ | refine bn rfl rfl rfl (by simp only [↓nrmL, nrmZ, qe, ↓reduceIte, qz, qn, qq]; rfl) ?_ | refine xt ?_ | refine nl hKF ?_ | refine sq ?_ | refine rg fun KF hKF => ?_ | refine cf rfl ?_ | refine sk ?_
 refine WpO.do (WpX.conD hn rfl rfl (by simp only [↓nrmL, nrmZ, qe, ↓reduceIte, qz, qn, qq, List.map] <;> rfl) (K_Staves (p := q) (ls := ls) (by omega)) fun v H4 h7 => ?_)
 obtain ⟨hG, hx4⟩ := h7
 rw [hstav] at hG
 haveI : ExtI _ H4 := ⟨hx4⟩
 obtain ⟨cs4, hS4⟩ := hG.stv
 haveI := hS4.sl
 haveI := hS4.sl.one
 have e5n : IntKind.i64.wrap (5 * (n : Int)) = ((5 * n : Nat) : Int) := by rw [w64 (by omega)]; omega
 have b1 : (((ls.length : Nat) : Int) != ((5 * n : Nat) : Int)) = false := by rw [hlsl]; simp
 have hSt4 : StavesI H4 op n cells sts := hSt.ext Ext0.ext
 repeat first | refine oy ?_ | refine mB ?_ | refine mv ?_ | refine bn rfl rfl rfl (by simp only [e5n, b1]; rfl) ?_ | refine ln (by simp only [↓nrmL, nrmK, qe, ↓reduceIte]; rfl) ?_ | refine nl hKF ?_ | refine sq ?_ | refine rg fun KF hKF => ?_
 refine WpO.do (WpX.conD hn rfl rfl (by simp only [↓nrmL, nrmZ, qe, ↓reduceIte, qz, qn, qq, List.map] <;> rfl) (K_SameStaves (p := v) (q := op) hS4 hSt4 hslimS (by omega)) fun z H5 h8 => ?_)
 obtain ⟨rfl, hx5⟩ := h8
 haveI : ExtI _ H5 := ⟨hx5⟩
 have hgp5 : BytesI H5 gp P := inferInstance
 have hS5 : StavesI H5 v sts.length cs4 sts := hS4.ext hx5
 have hx05 : Ext H H5 := Ext0.ext
 haveI hkb5 : HasRow H5 H1.n [.int .i64 (w : Int), .int .i64 (h : Int), gp] true (2 * 24) := inferInstance
 have hcl4 : cs4.length = sts.length := by have := hS4.sl.len; omega
 haveI := hS5.sl
 refine oy ?_
 refine Fo.now rfl rfl (by simp only [↓nrmL, nrmZ, qe, ↓reduceIte, qz, qn, qq]; rfl) ?_
 refine fB ?_
 refine nl hKF ?_
 refine cf rfl ?_
 refine sk ?_
 refine sq ?_
 refine sq ?_
 refine rg fun KF hKF => ?_
 refine mv ?_
 refine ln (by simp only [↓nrmL, nrmK, qe, ↓reduceIte]; rfl) ?_
 refine mI ?_
 refine nl hKF ?_
 refine Wp.block ?_
 dsimp only
 refine Wp.loopS [6, 13, 14, 15, 16, 17, 18, 19, 53, 54, 55, 56, 57, 58, 59, 60, 61, 62, 63, 64, 65, 66, 67, 68, 69, 70, 71, 72, 73, 74, 75, 76, 77, 78, 79, 80, 81, 82, 83, 84, 85, 86, 87, 88, 89, 90, 91, 92, 93, 94, 95, 96, 97, 98, 99, 100, 101, 102, 103, 104, 105, 106, 107, 108, 109, 110, 111, 112, 113, 114, 115] (fun i : Nat => [(53, .int .i64 (i : Int))]) (fun K0 i H6 => i ≤ n ∧ Ext0 K0 H6) (fun i => n - i) 0 rfl (fun _ => rfl) ⟨rfl, trivial⟩ ⟨Nat.zero_le _, inferInstance⟩ (by unfold fuel0 at hn; omega) ?_
 rintro i g H6 ⟨hin, ⟨hx6⟩⟩
 haveI : ExtI H5 H6 := ⟨hx6⟩
 have hS6 : StavesI H6 v sts.length cs4 sts := hS5.ext hx6
 haveI := hS6.sl
 haveI hgp6 : BytesI H6 gp P := inferInstance
 haveI hkb6 : HasRow H6 H1.n [.int .i64 (w : Int), .int .i64 (h : Int), gp] true (2 * 24) := inferInstance
 simp only [↓nrmL, nrmZ, qe, ↓reduceIte, qz, qn, qq]
 cases hc : decide ((i : Int) < ((sts.length : Nat) : Int))
 ·-- the lines are taken away
  have eR := remS_ok (most := 1) ok hall
  obtain ⟨C, hC⟩ : ∃ C, cutL P w (w * h) ((allR (colO ⟨w, h, P⟩) h w).filter (selR (drawL w h sts) w 1)) = C := ⟨_, rfl⟩
  have hCok : Ok w h C := by rw [← hC]; exact cut_ok ok
  have hC0 : C.count 1 = 0 := by rw [← hC, ← hsts]; exact none_left W ok hLl lo2
  have heC : Img.err ⟨w, h, C⟩ = 0 := hCok.err
  have hC1 : ((C.count 1 : Nat) : Int) = 0 := by rw [hC0]; rfl
  rw [hC] at eR
  repeat first | refine mv ?_ | refine Fo.ldN rfl rfl (by simp only [↓nrmL, nrmZ, qe, ↓reduceIte, qz, qn, qq, hc]; rfl) ?_ | refine bn rfl rfl rfl (by simp only [hc]; rfl) ?_ | refine nl hKF ?_ | refine sq ?_ | refine rg fun KF hKF => ?_ | refine cf rfl ?_ | refine xi ?_
  refine WpO.do (WpX.conD hn rfl rfl (by simp only [↓nrmL, nrmZ, qe, ↓reduceIte, qz, qn, qq, List.map] <;> rfl) (K_Remove (w := w) (h := h) (most := 1) (p := gp) (q := v) (l := P) (sts := sts) (hq := hS6) (by omega)) fun u H7 h9 => ?_)
  rw [eR] at h9
  obtain ⟨x7, e1, p7, e2, hp7, hf7, hw7, hx7⟩ := h9
  subst e1 e2
  dsimp only at hp7 ⊢
  haveI : ExtI _ H7 := ⟨hx7⟩
  haveI := hp7
  haveI := hp7.one
  repeat first | refine oy ?_ | refine mI ?_ | refine mB ?_ | refine mT ?_ | refine Fo.ldN rfl rfl (by simp only [↓nrmL, nrmZ, qe, ↓reduceIte, qz, qn, qq, heC, hC1, cond_true]; rfl) ?_ | refine bn rfl rfl rfl (by simp only [↓nrmL, nrmZ, qe, ↓reduceIte, qz, qn, qq, heC, hC1, cond_true]; rfl) ?_ | refine tB ?_ | refine xt ?_ | (refine Fo.pcall (v' := ?_) hn rfl (by simp only [heC, hC1, cond_true, List.map]; rfl) rfl ?hv fun _ _ => ?_; case hv => rfl) | (refine Fo.pcall (v' := ?_) hn rfl (by simp only [↓nrmL, nrmZ, qe, ↓reduceIte, qz, qn, qq, heC, hC1, cond_true, List.map]; rfl) rfl ?hv fun _ _ => ?_; case hv => (simp only [heC, hC1, cond_true]; rfl)) | refine nw ?_ | refine so rfl (rfl : _ = AVal.agg _) rfl rfl rfl (by simp only [↓nrmL, nrmZ, qe, ↓reduceIte, qz, qn, qq, heC, hC1, cond_true]; rfl) ?_ | refine nl hKF ?_ | refine sq ?_ | refine rg fun KF hKF => ?_ | refine rt ?_ | dsimp only
  refine rz trivial ?_
  exact ⟨rfl, Ext0.ext⟩
 have hil : i < sts.length := by have := of_decide_eq_true hc; omega
 have hwi := wa1 (a := i) (by omega)
 obtain ⟨q6, hq6, hLq⟩ := hS6.it i hil
 rw [hsti i hil] at hLq
 haveI := hLq
 obtain ⟨ps6, hps6, _⟩ := hLq.it
 haveI := hps6.one
 have hfi := hfit i hil
 rw [hsti i hil] at hfi
 have hchk : checkS ⟨w, h, P⟩ (staveL lo L i) = 0 := by simpa using check_ok ok hfi
 have eR : rectS ⟨w, h, P⟩ (staveL lo L i) 26 2 = (⟨w, (29 : Nat), rctL P w h ((staveL lo L i).getD 4 []) 26 29⟩, 0) := rectS_ok (u := 26) (d := 2) ok hfi (by decide)
 obtain ⟨S, hS⟩ : ∃ S, rctL P w h ((staveL lo L i).getD 4 []) 26 29 = S := ⟨_, rfl⟩
 have hSok : Ok w 29 S := by rw [← hS]; exact rct_ok ok.wa (by decide) ok.px
 have hrows : ∀ y, y < 29 → (rowsL S w 29).getD y 0 = if rowS y = true then (w : Int) else 0 := fun y hy => by rw [← hS]; exact strip_rows W hLl lo2 hi2 eh (by omega) hy
 rw [hS] at eR
 repeat first | refine bn rfl rfl rfl (by simp only [hc]; rfl) ?_ | (refine Fo.idx (by simp only [↓nrmL, nrmK, qe, ↓reduceIte]; rfl) rfl ?_ (by simp only [↓nrmL, nrmZ, qe, ↓reduceIte, qz, qn, qq, hc]; rfl) ?_; (focus omega)) | refine nl hKF ?_ | refine sq ?_ | refine rg fun KF hKF => ?_ | refine ct rfl ?_ | refine sk ?_ | refine Wp.block ?_
 refine WpO.do (WpX.ldNP (p := v) (j := i) (m := 1) (l := [q6]) rfl (by decide) (by omega) (take_one hq6) ?_)
 repeat first | refine Fo.ldN rfl rfl (by simp only [↓nrmL, nrmZ, qe, ↓reduceIte, qz, qn, qq]; rfl) ?_ | refine nw ?_ | refine so rfl (rfl : _ = AVal.agg _) rfl rfl rfl (by simp only [↓nrmL, nrmZ, qe, ↓reduceIte, qz, qn, qq]; rfl) ?_ | refine nl hKF ?_ | refine sq ?_ | refine rg fun KF hKF => ?_
 refine WpO.do (WpX.conD hn rfl rfl (by simp only [↓nrmL, nrmZ, qe, ↓reduceIte, qz, qn, qq, List.map] <;> rfl) (K_Rectify (w := w) (h := h) (up := 26) (down := 2) (p := gp) (q := q6) (l := P) (ls := staveL lo L i)) fun u H8 h9 => ?_)
 rw [eR] at h9
 obtain ⟨x8, e1, p8, e2, hp8, hf8, hw8, hx8⟩ := h9
 subst e1 e2
 dsimp only at hp8 ⊢
 haveI : ExtI _ H8 := ⟨hx8⟩
 haveI := hp8
 haveI := hp8.one
 repeat first | refine oy ?_ | refine mI ?_ | refine mB ?_ | refine mT ?_ | refine Fo.ldN rfl rfl (by simp only [↓nrmL, nrmZ, qe, ↓reduceIte, qz, qn, qq, hchk]; rfl) ?_ | refine bn rfl rfl rfl (by simp only [↓nrmL, nrmZ, qe, ↓reduceIte, qz, qn, qq, hchk]; rfl) ?_ | refine fB ?_ | refine xt ?_ | (refine Fo.pcall (v' := ?_) hn rfl (by simp only [↓nrmL, nrmZ, qe, ↓reduceIte, qz, qn, qq, hchk, List.map]; rfl) rfl ?hv fun _ _ => ?_; case hv => (simp only [hchk]; rfl)) | refine nw ?_ | refine so rfl (rfl : _ = AVal.agg _) rfl rfl rfl (by simp only [↓nrmL, nrmZ, qe, ↓reduceIte, qz, qn, qq, hchk]; rfl) ?_ | refine nl hKF ?_ | refine sq ?_ | refine rg fun KF hKF => ?_ | refine cf rfl ?_ | refine sk ?_
 refine WpO.do (WpX.conD hn rfl rfl (by simp only [↓nrmL, nrmZ, qe, ↓reduceIte, qz, qn, qq, List.map] <;> rfl) (K_Profile (a := w) (b := 29) (p := p8) (l := S) hSok) fun u H9 h10 => ?_)
 obtain ⟨pr, pcl, rfl, ⟨hpr, hfpr, _, hx9⟩, ⟨hpcl, _, _, _⟩⟩ := h10
 haveI : ExtI _ H9 := ⟨hx9⟩
 haveI := hpr
 haveI := hpr.one
 haveI := hpcl.one
 have hrl : (rowsL S w 29).length = 29 := by simp [rowsL]
 have b2 : (((rowsL S w 29).length : Nat) : Int) = 29 := by rw [hrl]; rfl
 repeat first | refine oy ?_ | refine mI ?_ | refine mB ?_ | refine mT ?_ | refine mv ?_ | refine bn rfl rfl rfl (by simp only [↓nrmL, nrmZ, qe, ↓reduceIte, qz, qn, qq, b2]; rfl) ?_ | refine fB ?_ | refine xt ?_ | (refine Fo.len (v := ?_) (by simp only [↓nrmL, nrmK, qe, ↓reduceIte]; rfl) ?hv ?_; case hv => (simp only [b2]; rfl)) | refine nl hKF ?_ | refine sq ?_ | refine rg fun KF hKF => ?_ | refine cf rfl ?_ | refine sk ?_ | refine Wp.block ?_ | dsimp only
 refine Wp.loopS [6, 18, 19, 86, 87, 88, 89, 90, 91, 92, 93, 94, 95, 96, 97, 98, 99, 100, 101, 102, 103, 104, 105, 106, 107, 108, 109, 110, 111, 112, 113, 114] (fun y : Nat => [(86, .int .i64 (y : Int))]) (fun K0 y H10 => y ≤ 29 ∧ Ext0 K0 H10) (fun y => 29 - y) 0 rfl (fun _ => rfl) ⟨rfl, trivial⟩ ⟨Nat.zero_le _, inferInstance⟩ (by unfold fuel0 at hn; omega) ?_
 rintro y g2 H10 ⟨hy, ⟨hx10⟩⟩
 haveI : ExtI H9 H10 := ⟨hx10⟩
 simp only [↓nrmL, nrmZ, qe, ↓reduceIte, qz, qn, qq]
 cases hcy : decide ((y : Int) < 29)
 ·skip
  repeat first | refine mI ?_ | refine bn rfl rfl rfl (by simp only [hcy, hwi]; rfl) ?_ | refine nl hKF ?_ | refine sq ?_ | refine rg fun KF hKF => ?_ | refine cf rfl ?_ | refine xi ?_ | dsimp only
  exact ⟨i + 1, by omega, ⟨rfl, trivial⟩, by omega, inferInstance⟩
 have hyl : y < 29 := by have := of_decide_eq_true hcy; omega
 have hwy := wa1 (a := y) (by omega)
 have hyr : y < (rowsL S w 29).length := by omega
 have gy : (rowsL S w 29)[y] = if rowS y = true then (w : Int) else 0 := by rw [← getD_at hyr]; exact hrows y hyl
 have hw0 : ((0 : Int) == (w : Int)) = false := by simp; omega
 have hww : ((w : Int) == (w : Int)) = true := by simp
 have hwn : ((w : Int) != (w : Int)) = false := by simp
 have hwz : ((w : Int) != 0) = true := by simp; omega
 by_cases hy2 : 2 ≤ y
 ·have b3 : decide ((y : Int) ≥ 2) = true := decide_eq_true (by omega)
  have s1 : IntKind.i64.wrap ((y : Int) - 2) = ((y - 2 : Nat) : Int) := by rw [w64 (by omega)]; omega
  have t1 : ((y - 2 : Nat) : Int).tmod 6 = (((y - 2) % 6 : Nat) : Int) := rfl
  by_cases hm : (y - 2) % 6 = 0
  ·have hr : rowS y = true := by unfold rowS; rw [decide_eq_true hy2, decide_eq_true hm]; rfl
   rw [hr, if_pos rfl] at gy
   have b4 : ((((y - 2) % 6 : Nat) : Int) == 0) = true := by rw [hm]; rfl
   repeat first | refine oy ?_ | refine mI ?_ | refine mB ?_ | refine fd ?_ | refine Fo.ld rfl rfl ?_ | refine bn rfl rfl rfl (by simp only [hcy, gy, hww, b3, s1, t1, b4, hwz, hwn, hwy]; rfl) ?_ | refine tB ?_ | refine fB ?_ | (refine Fo.idx (by simp only [↓nrmL, nrmK, qe, ↓reduceIte]; rfl) rfl ?_ (by simp only [↓nrmL, nrmZ, qe, ↓reduceIte, qz, qn, qq, hcy, gy, hww, b3, s1, t1, b4, hwz, hwn, hwy]; rfl) ?_; (focus omega)) | (refine Fo.ldI rfl ?_ (by simp only [hcy, gy, hww, b3, s1, t1, b4, hwz, hwn, hwy]; rfl) ?_; (focus omega)) | refine Fo.now rfl rfl (by simp only [hcy, gy, hww, b3, s1, t1, b4, hwz, hwn, hwy]; rfl) ?_ | refine nl hKF ?_ | refine sq ?_ | refine rg fun KF hKF => ?_ | refine ct rfl ?_ | refine cf rfl ?_ | refine sk ?_ | refine Wp.block ?_ | dsimp only
   exact ⟨y + 1, by omega, ⟨rfl, trivial⟩, by omega, inferInstance⟩
  ·have hr : ¬ rowS y = true := by unfold rowS; rw [decide_eq_true hy2, decide_eq_false hm]; decide
   rw [if_neg hr] at gy
   have b4 : ((((y - 2) % 6 : Nat) : Int) == 0) = false := by simp; omega
   repeat first | refine oy ?_ | refine ox ?_ | refine mI ?_ | refine mB ?_ | refine fd ?_ | refine Fo.ld rfl rfl ?_ | refine bn rfl rfl rfl (by simp only [hcy, gy, hw0, b3, s1, t1, b4, hwy]; rfl) ?_ | refine bn rfl rfl rfl (by simp only [↓nrmL, nrmZ, qe, ↓reduceIte, qz, qn, qq, hcy, gy, hw0, b3, s1, t1, b4, hwy]; rfl) ?_ | refine tB ?_ | refine fB ?_ | (refine Fo.idx (by simp only [↓nrmL, nrmK, qe, ↓reduceIte]; rfl) rfl ?_ (by simp only [↓nrmL, nrmZ, qe, ↓reduceIte, qz, qn, qq, hcy, gy, hw0, b3, s1, t1, b4, hwy]; rfl) ?_; (focus omega)) | (refine Fo.ldI rfl ?_ (by simp only [hcy, gy, hw0, b3, s1, t1, b4, hwy]; rfl) ?_; (focus omega)) | refine Fo.now rfl rfl (by simp only [hcy, gy, hw0, b3, s1, t1, b4, hwy]; rfl) ?_ | refine nl hKF ?_ | refine sq ?_ | refine rg fun KF hKF => ?_ | refine ct rfl ?_ | refine cf rfl ?_ | refine sk ?_ | refine Wp.block ?_ | dsimp only
   exact ⟨y + 1, by omega, ⟨rfl, trivial⟩, by omega, inferInstance⟩
 ·have b3 : decide ((y : Int) ≥ 2) = false := decide_eq_false (by omega)
  have hr : ¬ rowS y = true := by unfold rowS; rw [decide_eq_false hy2]; simp
  rw [if_neg hr] at gy
  repeat first | refine oy ?_ | refine ox ?_ | refine mI ?_ | refine mB ?_ | refine fd ?_ | refine Fo.ld rfl rfl ?_ | refine bn rfl rfl rfl (by simp only [hcy, gy, hw0, b3, hwy]; rfl) ?_ | refine bn rfl rfl rfl (by simp only [↓nrmL, nrmZ, qe, ↓reduceIte, qz, qn, qq, hcy, gy, hw0, b3, hwy]; rfl) ?_ | refine fB ?_ | (refine Fo.idx (by simp only [↓nrmL, nrmK, qe, ↓reduceIte]; rfl) rfl ?_ (by simp only [↓nrmL, nrmZ, qe, ↓reduceIte, qz, qn, qq, hcy, gy, hw0, b3, hwy]; rfl) ?_; (focus omega)) | (refine Fo.ldI rfl ?_ (by simp only [hcy, gy, hw0, b3, hwy]; rfl) ?_; (focus omega)) | refine Fo.now rfl rfl (by simp only [hcy, gy, hw0, b3, hwy]; rfl) ?_ | refine nl hKF ?_ | refine sq ?_ | refine rg fun KF hKF => ?_ | refine ct rfl ?_ | refine cf rfl ?_ | refine sk ?_ | refine Wp.block ?_ | dsimp only
  exact ⟨y + 1, by omega, ⟨rfl, trivial⟩, by omega, inferInstance⟩
end Go.Am

namespace Go.Proofs.Ytpochhefklmnfaa.StaveFound
open Go.ChangeShapes Go.WideShapes Go.ChangeAt Go.RowKit Go.Am Go.Proofs.Ytpochhefklmnfaa.Laid

theorem con (H : AHeap) (avs : List AVal) (ht : tablesIn aroundT H = true) (h : ArgS Try.prog H 3 [5, 5, 22] avs) : Con ext prog 80 6 avs H fun v H' => v = .bool true ∧ Ext H H' := by
  obtain ⟨a0, r0, rfl, h0, a1, r1, rfl, h1, a2, r2, rfl, h2, rfl⟩ := h
  obtain ⟨i0, rfl, wf0⟩ := shape_int Try.underlying5 h0
  obtain ⟨s0, rfl⟩ := u8_of wf0
  obtain ⟨i1, rfl, wf1⟩ := shape_int Try.underlying5 h1
  obtain ⟨s1, rfl⟩ := u8_of wf1
  obtain ⟨p2, l2, rfl, k2, _⟩ := shape_bytes Try.underlying22 Try.underlying5 (by kernel_rfl) h2
  haveI o2 := k2.one
  have e0 : argV Try.prog 5 [.int .u8 (s0.toNat : Int)] = .int .u8 (s0.toNat : Int) := by simp only [argV, show aggTy Try.prog 5 = false by kernel_rfl, cond_false, List.headD_cons]
  have e1 : argV Try.prog 5 [.int .u8 (s1.toNat : Int)] = .int .u8 (s1.toNat : Int) := by simp only [argV, show aggTy Try.prog 5 = false by kernel_rfl, cond_false, List.headD_cons]
  have e2 : argV Try.prog 22 [p2] = p2 := by simp only [argV, show aggTy Try.prog 22 = false by kernel_rfl, cond_false, List.headD_cons]
  rw [e0, e1, e2]
  exact K_StaveFound (c1 := s0) (c2 := s1) (pb := p2) (bends := l2)

theorem contract (H : Type) (enc : TypeId × Value → H) (W : World) (base : Nat) (args : Array Value) (ds gs : List (DataW H)) (before : List MemPlace)
    (hval : ∀ (j : Nat) t v, Try.f6.params[j]? = some t → args[j]? = some v → Value.okWide Try.prog W .any base t v)
    (hW : DataW.Whole enc Try.prog Try.f6.params.toList Rows.staveFoundSpec.vars false W args.toList ds gs before) (hL : laidMetH Try.prog Rows.staveFoundRow.laid W) :
    Calls Try.prog 6 args W fun e W' => ∃ v, e = .returned v ∧ Rows.staveFoundSpec.post enc Try.prog Try.f6 false true false false W args v W' := by
  have hW' := hW
  obtain ⟨p, q, hA, _⟩ := hW'
  rw [Try.params6] at hA
  obtain ⟨v0, vs0, d0, ds0, p0, q0, _, rfl, _, _, r0⟩ := trodAll_cons hA
  obtain ⟨v1, vs1, d1, ds1, p1, q1, _, rfl, _, _, r1⟩ := trodAll_cons r0
  obtain ⟨v2, vs2, d2, ds2, p2, q2, _, rfl, _, _, r2⟩ := trodAll_cons r1
  obtain ⟨_, rfl, _⟩ := trodAll_nil r2
  exact law_calls (tb := 4) (n := 3) (d := 80) (tabs := aroundT) mixed progOk Try.func6 rfl (by decide +kernel) laidOut rowed full (by kernel_rfl) rfl (by kernel_rfl) Try.underlying4 (by kernel_rfl) (by kernel_rfl)
    (fun H avs ht h => con H avs ht (by rw [Try.params6] at h; exact h)) H enc W base args _ gs before rfl hval hW around_cells

theorem laid_met (os : Os) : laidMet Try.prog Rows.staveFoundRow.laid ((laidWorld os).forCall (fun _ _ => 0) ⟨#[], #[.int .u8 0, .int .u8 0, .slice none 0 0], []⟩).memory :=
  laidMet_of_run' 8 (by kernel_rfl) (by kernel_rfl)
theorem reads (os : Os) {H : Type} (enc : TypeId × Value → H) : ∃ places, DataW.whole enc Try.prog ((laidWorld os).forCall (fun _ _ => 0) ⟨#[], #[.int .u8 0, .int .u8 0, .slice none 0 0], []⟩).memory Try.f6.params.toList Rows.staveFoundSpec.vars false #[Value.int .u8 0, .int .u8 0, .slice none 0 0].toList 8 = some ([.lit (.int .u8 0), .lit (.int .u8 0), .nil], [], places) :=
  ⟨[], by kernel_rfl⟩

theorem lifted (os : Os) (started : os.Started) (H : Type) (enc : TypeId × Value → H) (F : Stop.Interp) :
    ReturnsInHanded {} Try.checked os 6 .any ((OpenSpec.ofChange Rows.staveFoundSpec).preRow enc Try.prog Try.f6 Rows.staveFoundRow.domain false Rows.staveFoundRow.laid) (((OpenSpec.ofChange Rows.staveFoundSpec).at F).post enc Try.prog Try.f6 false true false false) := by
  obtain ⟨places, hx⟩ := reads os enc
  refine returnsInHanded_of_row (C := Try.checked) (s := OpenSpec.ofChange Rows.staveFoundSpec) own started (by kernel_rfl) Try.func6
    (witness_row_at (enc := enc) (C := Try.checked) false (laidWorld os) #[.int .u8 0, .int .u8 0, .slice none 0 0] rfl (by kernel_rfl) (by kernel_rfl) (by kernel_rfl)
      (OpenSpec.preRow_of_cond 8 hx (by kernel_rfl) (fun k hk => by cases hk) (by kernel_rfl) (laid_met os))) ?_
  intro W base args ds gs before hval hW _ _ _ hL _ _
  exact contract H enc W base args ds gs before hval hW hL

theorem said : Rows.StaveFoundSaid :=
  OpenClaim.holds_of_cond 6 Try.f6 rfl rfl rfl rfl rfl rfl rfl ⟨rfl, rfl, rfl, rfl, rfl⟩ rfl rfl rfl rfl rfl (by kernel_rfl) Try.func6 (by kernel_rfl)
    (of_decide_eq_true (by kernel_rfl)) (by unfold Func.isWrapper; first | (rw [if_pos (by decide +kernel)]; kernel_rfl) | (rw [if_neg (by decide +kernel)]; exact ⟨rfl, rfl⟩))
    (fun os started H enc _ F => by rw [OpenClaim.pre_eq_preRow]; exact lifted os started H enc F)
end Go.Proofs.Ytpochhefklmnfaa.StaveFound
