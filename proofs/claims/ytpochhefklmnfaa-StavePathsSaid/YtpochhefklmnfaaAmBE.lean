import Derived.Test.YtpochhefklmnfaaAmBD
set_option linter.unusedSimpArgs false
set_option linter.unusedVariables false
set_option maxHeartbeats 32000000
set_option maxRecDepth 100000
set_option synthInstance.maxHeartbeats 4000000
set_option synthInstance.maxSize 1000000000
namespace Go.Am
open Go
open Nat renaming reduceEqDiff → qe, reduceAdd → qa
open Int renaming reduceBEq → ze, reduceBNe → zn
attribute [local irreducible] Wp WpO WpX WpE
instance K_refIsPath {a b : Nat} {p q : AVal} {H : AHeap} {g : List UInt8} {l : List Int} [hp : BytesI H p g] [hq : IntsI H q l] [ha : Side a] [hb : Side b] : PureCon ext prog 54 [.agg [.int .i64 (a : Int), .int .i64 (b : Int), p], q] H 1 (.bool (pathB a b l)) := ⟨by
 refine con_of (show prog 54 = some c54 from rfl) rfl rfl fun n hn => ?_
 have ha := ha.le
 have hb := hb.le
 haveI := hp.one
 haveI := hq.one
 cases h0 : ((a : Int) == 0)
 rotate_left
 ·have hl0 : a = 0 := by simpa using h0
  have e1 : pathB a b l = false := by
   cases h : pathB a b l with
   | false => rfl
   | true => have := (pathB_len h).2; omega
  rw [e1]
  repeat first | refine ox ?_ | refine mB ?_ | refine fd ?_ | refine Fo.ld rfl rfl ?_ | refine bn rfl rfl rfl (by simp only [h0]; rfl) ?_ | refine tB ?_ | refine bA ?_ | refine nl hKF ?_ | refine sq ?_ | refine rg fun KF hKF => ?_ | refine ct rfl ?_ | refine rt ?_ | dsimp only
  refine rz trivial ?_
  exact ⟨rfl, Ext0.ext⟩
 have hl0 : a ≠ 0 := by simpa using h0
 cases hb0 : ((b : Int) == 0)
 rotate_left
 ·have hl0 : b = 0 := by simpa using hb0
  have e1 : pathB a b l = false := by
   cases h : pathB a b l with
   | false => rfl
   | true =>
    have h1 := pathB_len h
    have h2 := pathB_range h (x := 0) (by omega)
    omega
  rw [e1]
  repeat first | refine oy ?_ | refine ox ?_ | refine mB ?_ | refine fd ?_ | refine Fo.ld rfl rfl ?_ | refine bn rfl rfl rfl (by simp only [h0, hb0]; rfl) ?_ | refine tB ?_ | refine fB ?_ | refine bA ?_ | refine nl hKF ?_ | refine sq ?_ | refine rg fun KF hKF => ?_ | refine ct rfl ?_ | refine rt ?_ | dsimp only
  refine rz trivial ?_
  exact ⟨rfl, Ext0.ext⟩
 cases h1 : (((l.length : Nat) : Int) != (a : Int))
 rotate_left
 ·have hl1 : l.length ≠ a := by intro e; rw [e] at h1; simp at h1
  have e1 : pathB a b l = false := by simp [pathB, hl1]
  rw [e1]
  repeat first | refine oy ?_ | refine mB ?_ | refine mv ?_ | refine fd ?_ | refine Fo.ld rfl rfl ?_ | refine bn rfl rfl rfl (by simp only [h0, hb0, h1]; rfl) ?_ | refine fB ?_ | refine ln (by simp only [↓nrmL, nrmK, qe, ↓reduceIte]; rfl) ?_ | refine bA ?_ | refine nl hKF ?_ | refine sq ?_ | refine rg fun KF hKF => ?_ | refine ct rfl ?_ | refine rt ?_ | dsimp only
  refine rz trivial ?_
  exact ⟨rfl, Ext0.ext⟩
 have hl1 : l.length = a := by have h7 := h1; simp only [bne_eq_false_iff_eq] at h7; omega
 have e0 : pathB a b l = okTo b l l.length := by simp [pathB, hl1]; omega
 rw [e0]
 repeat first | refine oy ?_ | refine mI ?_ | refine mB ?_ | refine mv ?_ | refine fd ?_ | refine Fo.ld rfl rfl ?_ | refine bn rfl rfl rfl (by simp only [h0, hb0, h1]; rfl) ?_ | refine fB ?_ | refine ln (by simp only [↓nrmL, nrmK, qe, ↓reduceIte]; rfl) ?_ | refine bA ?_ | refine nl hKF ?_ | refine sq ?_ | refine rg fun KF hKF => ?_ | refine cf rfl ?_ | refine sk ?_ | refine Wp.block ?_ | dsimp only
 refine Wp.loopS [4, 5, 21, 22, 23, 24, 25, 26, 27, 28, 29, 30, 31, 32, 33, 34, 35, 36, 37, 38, 39, 40, 41, 42, 43, 44, 45, 46, 47, 48, 49, 50, 51, 52, 53, 54, 55, 56, 57, 58, 59, 60, 61, 62, 63, 64, 65, 66, 67, 68] (fun x : Nat => [(5, .int .i64 x)]) (fun H3 x H2 => x ≤ l.length ∧ okTo b l x = true ∧ H2 = H3) (fun x => l.length - x) 0 rfl (fun _ => rfl) ⟨rfl, trivial⟩ ⟨Nat.zero_le _, rfl, rfl⟩ (by unfold fuel0 at hn; omega) ?_
 rintro x g2 H2 ⟨hx, hok, rfl⟩
 simp only [↓nrmL, nrmZ, qe, ↓reduceIte, qa, ze, zn]
 cases hc : decide ((x : Int) < ((l.length : Nat) : Int))
 ·have hxl : x = l.length := by have := of_decide_eq_false hc; omega
  subst hxl
  rw [hok]
  repeat first | refine mI ?_ | refine mB ?_ | refine mv ?_ | refine bn rfl rfl rfl (by simp only [hc]; rfl) ?_ | refine ln (by simp only [↓nrmL, nrmK, qe, ↓reduceIte]; rfl) ?_ | refine nl hKF ?_ | refine sq ?_ | refine rg fun KF hKF => ?_ | refine cf rfl ?_ | refine rt ?_ | refine xi ?_ | dsimp only
  refine rz trivial ?_
  exact ⟨rfl, Ext0.ext⟩
 have hxl : x < l.length := by have := of_decide_eq_true hc; omega
 have hw1 := wa1 (a := x) (by omega)
 cases h2 : decide (l[x] < 0)
 rotate_left
 ·rw [okTo_bad (x := x) (n := l.length) (by simp only [okAt, getD_at hxl]; have := of_decide_eq_true h2; rw [decide_eq_false (by omega)]; rfl) hxl]
  repeat first | refine ox ?_ | refine mI ?_ | refine mB ?_ | refine mv ?_ | refine bn rfl rfl rfl (by simp only [hc, h2]; rfl) ?_ | refine tB ?_ | refine ln (by simp only [↓nrmL, nrmK, qe, ↓reduceIte]; rfl) ?_ | (refine Fo.idx (by simp only [↓nrmL, nrmK, qe, ↓reduceIte]; rfl) rfl ?_ (by simp only [↓nrmL, nrmZ, qe, ↓reduceIte, qa, ze, zn, hc, h2]; rfl) ?_; (focus omega)) | (refine Fo.ldI rfl ?_ rfl ?_; (focus omega)) | refine nl hKF ?_ | refine sq ?_ | refine rg fun KF hKF => ?_ | refine Fr.quiet rfl rfl fun KF hKF => ?_ | refine ct rfl ?_ | refine sk ?_ | refine rt ?_ | refine Wp.block ?_ | dsimp only
  refine rz trivial ?_
  exact ⟨rfl, Ext0.ext⟩
 cases h3 : decide (l[x] ≥ (b : Int))
 rotate_left
 ·rw [okTo_bad (x := x) (n := l.length) (by simp only [okAt, getD_at hxl]; have := of_decide_eq_true h3; rw [decide_eq_false (p := l[x] < (b : Int)) (by omega), Bool.and_false]; rfl) hxl]
  repeat first | refine oy ?_ | refine mI ?_ | refine mB ?_ | refine mv ?_ | refine fd ?_ | refine Fo.ld rfl rfl ?_ | refine bn rfl rfl rfl (by simp only [hc, h2, h3]; rfl) ?_ | refine fB ?_ | refine ln (by simp only [↓nrmL, nrmK, qe, ↓reduceIte]; rfl) ?_ | (refine Fo.idx (by simp only [↓nrmL, nrmK, qe, ↓reduceIte]; rfl) rfl ?_ (by simp only [↓nrmL, nrmZ, qe, ↓reduceIte, qa, ze, zn, hc, h2, h3]; rfl) ?_; (focus omega)) | (refine Fo.ldI rfl ?_ rfl ?_; (focus omega)) | refine nl hKF ?_ | refine sq ?_ | refine rg fun KF hKF => ?_ | refine Fr.quiet rfl rfl fun KF hKF => ?_ | refine ct rfl ?_ | refine sk ?_ | refine rt ?_ | refine Wp.block ?_ | dsimp only
  refine rz trivial ?_
  exact ⟨rfl, Ext0.ext⟩
 have g1 : 0 ≤ l[x] := by have := of_decide_eq_false h2; omega
 have g3 : l[x] < (b : Int) := by have := of_decide_eq_false h3; omega
 cases h4 : decide ((x : Int) > 0)
 ·have hx0 : x = 0 := by have := of_decide_eq_false h4; omega
  subst hx0
  have e2 : okTo b l (0 + 1) = true := by rw [okTo_succ, hok, okAt, getD_at hxl, decide_eq_true g1, decide_eq_true g3]; rfl
  repeat first | refine oy ?_ | refine ox ?_ | refine Fo.noU rfl ?_ | refine mI ?_ | refine mB ?_ | refine mv ?_ | refine fd ?_ | refine Fo.ld rfl rfl ?_ | refine bn rfl rfl rfl (by simp only [hc, h2, h3, h4]; rfl) ?_ | refine b0 ?_ | refine fB ?_ | refine ln (by simp only [↓nrmL, nrmK, qe, ↓reduceIte]; rfl) ?_ | (refine Fo.idx (by simp only [↓nrmL, nrmK, qe, ↓reduceIte]; rfl) rfl ?_ (by simp only [↓nrmL, nrmZ, qe, ↓reduceIte, qa, ze, zn, hc, h2, h3, h4]; rfl) ?_; (focus omega)) | (refine Fo.ldI rfl ?_ rfl ?_; (focus omega)) | refine nl hKF ?_ | refine sq ?_ | refine rg fun KF hKF => ?_ | refine Fr.quiet rfl rfl fun KF hKF => ?_ | refine ct rfl ?_ | refine cf rfl ?_ | refine sk ?_ | refine Wp.block ?_ | dsimp only
  refine ⟨0 + 1, by omega, ⟨by simp only [↓nrmL, nrmZ, qe, ↓reduceIte, qa, ze, zn]; rw [hw1], trivial⟩, hxl, e2, rfl⟩
 have hx0 : 0 < x := by have := of_decide_eq_true h4; omega
 have hw2 := ws1 (a := x) hx0 (by omega)
 have hxm : x - 1 < l.length := by omega
 obtain ⟨m1, m2⟩ := okTo_range hok (x := x - 1) (by omega) hxm
 have hw3 : IntKind.i64.wrap (l[x] - l[x - 1]) = l[x] - l[x - 1] := w64 (by omega)
 have hw4 : IntKind.i64.wrap (l[x - 1] - l[x]) = l[x - 1] - l[x] := w64 (by omega)
 cases h5 : decide (l[x] - l[x - 1] > 1)
 rotate_left
 ·rw [okTo_bad (x := x) (n := l.length) (by
   have h5 := of_decide_eq_true h5
   simp only [okAt, getD_at hxl, getD_at hxm]
   rw [decide_eq_false (p := l[x] ≤ l[x - 1] + 1) (by omega), Bool.and_false, Bool.or_false, beq_eq_false_iff_ne.2 (by omega), Bool.and_false]) hxl]
  repeat first | refine oy ?_ | refine ox ?_ | refine mI ?_ | refine mB ?_ | refine mv ?_ | refine fd ?_ | refine Fo.ld rfl rfl ?_ | refine bn rfl rfl rfl (by simp only [hc, h2, h3, h4, hw2, hw3, hw4, h5]; rfl) ?_ | refine tB ?_ | refine fB ?_ | refine ln (by simp only [↓nrmL, nrmK, qe, ↓reduceIte]; rfl) ?_ | (refine Fo.idx (by simp only [↓nrmL, nrmK, qe, ↓reduceIte]; rfl) rfl ?_ (by simp only [↓nrmL, nrmZ, qe, ↓reduceIte, qa, ze, zn, hc, h2, h3, h4, hw2, hw3, hw4, h5]; rfl) ?_; (focus omega)) | (refine Fo.ldI rfl ?_ rfl ?_; (focus omega)) | refine nl hKF ?_ | refine sq ?_ | refine rg fun KF hKF => ?_ | refine Fr.quiet rfl rfl fun KF hKF => ?_ | refine ct rfl ?_ | refine cf rfl ?_ | refine sk ?_ | refine rt ?_ | refine Wp.block ?_ | dsimp only
  refine rz trivial ?_
  exact ⟨rfl, Ext0.ext⟩
 cases h6 : decide (l[x - 1] - l[x] > 1)
 rotate_left
 ·rw [okTo_bad (x := x) (n := l.length) (by
   have h6 := of_decide_eq_true h6
   simp only [okAt, getD_at hxl, getD_at hxm]
   rw [decide_eq_false (p := l[x - 1] - 1 ≤ l[x]) (by omega), Bool.false_and, Bool.or_false, beq_eq_false_iff_ne.2 (by omega), Bool.and_false]) hxl]
  repeat first | refine oy ?_ | refine mI ?_ | refine mB ?_ | refine mv ?_ | refine fd ?_ | refine Fo.ld rfl rfl ?_ | refine bn rfl rfl rfl (by simp only [hc, h2, h3, h4, hw2, hw3, hw4, h5, h6]; rfl) ?_ | refine tB ?_ | refine fB ?_ | refine ln (by simp only [↓nrmL, nrmK, qe, ↓reduceIte]; rfl) ?_ | (refine Fo.idx (by simp only [↓nrmL, nrmK, qe, ↓reduceIte]; rfl) rfl ?_ (by simp only [↓nrmL, nrmZ, qe, ↓reduceIte, qa, ze, zn, hc, h2, h3, h4, hw2, hw3, hw4, h5, h6]; rfl) ?_; (focus omega)) | (refine Fo.ldI rfl ?_ rfl ?_; (focus omega)) | refine nl hKF ?_ | refine sq ?_ | refine rg fun KF hKF => ?_ | refine Fr.quiet rfl rfl fun KF hKF => ?_ | refine ct rfl ?_ | refine cf rfl ?_ | refine sk ?_ | refine rt ?_ | refine Wp.block ?_ | dsimp only
  refine rz trivial ?_
  exact ⟨rfl, Ext0.ext⟩
 have e2 : okTo b l (x + 1) = true := by
  have h5 := of_decide_eq_false h5
  have h6 := of_decide_eq_false h6
  rw [okTo_succ, hok, okAt, getD_at hxl, getD_at hxm, decide_eq_true g1, decide_eq_true g3, decide_eq_true (p := l[x - 1] - 1 ≤ l[x]) (by omega), decide_eq_true (p := l[x] ≤ l[x - 1] + 1) (by omega)]
  simp
 repeat first | refine oy ?_ | refine mI ?_ | refine mB ?_ | refine mv ?_ | refine fd ?_ | refine Fo.ld rfl rfl ?_ | refine bn rfl rfl rfl (by simp only [hc, h2, h3, h4, hw2, hw3, hw4, h5, h6]; rfl) ?_ | refine b0 ?_ | refine tB ?_ | refine fB ?_ | refine ln (by simp only [↓nrmL, nrmK, qe, ↓reduceIte]; rfl) ?_ | (refine Fo.idx (by simp only [↓nrmL, nrmK, qe, ↓reduceIte]; rfl) rfl ?_ (by simp only [↓nrmL, nrmZ, qe, ↓reduceIte, qa, ze, zn, hc, h2, h3, h4, hw2, hw3, hw4, h5, h6]; rfl) ?_; (focus omega)) | (refine Fo.ldI rfl ?_ rfl ?_; (focus omega)) | refine nl hKF ?_ | refine sq ?_ | refine rg fun KF hKF => ?_ | refine Fr.quiet rfl rfl fun KF hKF => ?_ | refine ct rfl ?_ | refine cf rfl ?_ | refine sk ?_ | refine Wp.block ?_ | dsimp only
 refine ⟨x + 1, by omega, ⟨by simp only [↓nrmL, nrmZ, qe, ↓reduceIte, qa, ze, zn]; rw [hw1], trivial⟩, hxl, e2, rfl⟩⟩
end Go.Am

namespace Go.Am
open Go
attribute [local irreducible] Wp WpO WpX WpE
end Go.Am

namespace Go.Am
open Go
attribute [local irreducible] Wp WpO WpX WpE
structure JS (Hb : AHeap) (r : Nat) (R0 : RLoop) (q : AVal) (L : List UInt8) (H : AHeap) : Prop where
 n : Hb.n ≤ H.n
 get : ∀ s, s < Hb.n → RowNe q s → H.get s = Hb.get s
 px : BytesI H q L
 wr : WrS H q
 loop : HasLoop H r R0
theorem JS.row {Hb H : AHeap} {r s : Nat} {R0 : RLoop} {q : AVal} {L : List UInt8} {cs : List AVal} {rw : Bool} {e : TypeId} (h : JS Hb r R0 q L H) (k : HasRow Hb s cs rw e) (hne : RowNe q s) : HasRow H s cs rw e := ⟨Nat.lt_of_lt_of_le k.lt h.n, by rw [h.get s k.lt hne]; exact k.get⟩
theorem JS.slice {Hb H : AHeap} {r : Nat} {R0 : RLoop} {q p : AVal} {L : List UInt8} {sz n : Nat} {cs : List AVal} (h : JS Hb r R0 q L H) (k : SliceAt Hb p sz n cs) (hne : SepS p q) : SliceAt H p sz n cs := k.keep h.n fun s _ _ _ _ e hs => h.get s hs ⟨fun r' _ _ _ _ e' hh => hne.ne _ _ _ _ _ _ _ _ _ _ e e' hh.symm⟩
theorem JS.ext {Hh Hb H : AHeap} {r : Nat} {R0 : RLoop} {q : AVal} {L : List UInt8} (h : JS Hb r R0 q L H) (x : Ext Hh Hb) (f : FreshS Hh q) : Ext Hh H := ⟨Nat.le_trans x.n h.n, fun s hs => by have := x.n; rw [h.get s (by omega) ⟨fun r' _ _ _ _ e => by have := f.ge _ _ _ _ _ e; omega⟩, x.get s hs]⟩
theorem JS.start {Hb : AHeap} {R0 : RLoop} {q : AVal} {L : List UInt8} (k : BytesI Hb q L) (w : WrS Hb q) : JS Hb (Hb.n + 1) R0 q L ((Hb.push .dead).push (.loop R0)) := by
 haveI := k
 haveI := w
 refine ⟨by simp only [AHeap.push]; omega, fun s hs _ => ?_, inferInstance, inferInstance, (inferInstance : HasLoop ((Hb.push .dead).push (.loop R0)) (Hb.push .dead).n R0)⟩
 rw [push_get_lt (by simp only [AHeap.push]; omega), push_get_lt hs]
end Go.Am

namespace Go.Am
open Go
open Nat renaming reduceEqDiff → qe, reduceAdd → qa
open Int renaming reduceBEq → ze, reduceBNe → zn
attribute [local irreducible] Wp WpO WpX WpE
abbrev nxA : RCode := .region [⟨(some 6), .mov (.tmp 12), none⟩]
abbrev nxB : RCode := .block 1 (.seq (.dregion [⟨⟨(some 13), .load none (.tmp 2), none⟩, 0, 1, true⟩,
   ⟨⟨(some 14), .mov (.tmp 6), none⟩, 0, 0, true⟩,
   ⟨⟨(some 15), .idxS 1 (.tmp 13) (.tmp 14), none⟩, 3, 0, true⟩,
   ⟨⟨(some 16), .load none (.tmp 15), none⟩, 7, 1, true⟩,
   ⟨⟨(some 17), .load none (.tmp 3), none⟩, 0, 1, true⟩,
   ⟨⟨(some 18), .mov (.tmp 6), none⟩, 0, 0, true⟩,
   ⟨⟨(some 19), .call (.val (.func (.func 53) [] [])) [(.tmp 17), (.tmp 18)], none⟩, 48, 2, false⟩,
   ⟨⟨(some 20), .bin .add (.tmp 16) (.tmp 19), none⟩, 127, 0, false⟩,
   ⟨⟨(some 7), .mov (.tmp 20), none⟩, 255, 0, false⟩])
  (.seq (.region [⟨(some 21), .mov (.tmp 7), none⟩,
   ⟨(some 22), .load none (.tmp 5), none⟩,
   ⟨(some 23), .bin .lss (.tmp 21) (.tmp 22), none⟩])
  (.cond (.tmp 23) (.region [⟨(some 24), .mov (.tmp 6), none⟩,
    ⟨(some 25), .mov (.tmp 7), none⟩,
    ⟨none, .store 1 (.tmp 4) (.tmp 24), none⟩,
    ⟨none, .store 1 (.tmp 5) (.tmp 25), none⟩])
  (.skip))))
abbrev nxR (d : Nat) (fr : AFrame) : RLoop := ⟨d, 28, fr, [12], nxA, nxB, 0, .normal⟩
structure JX (Hb : AHeap) (ra rb r : Nat) (R0 : RLoop) (a b : Int) (H : AHeap) : Prop where
 n : Hb.n ≤ H.n
 get : ∀ s, s < Hb.n → s ≠ ra → s ≠ rb → H.get s = Hb.get s
 ka : HasRow H ra [.int .i64 a] true (2 * 3)
 kb : HasRow H rb [.int .i64 b] true (2 * 3)
 loop : HasLoop H r R0
theorem JX.row {Hb H : AHeap} {ra rb r s : Nat} {R0 : RLoop} {a b : Int} {cs : List AVal} {rw : Bool} {e : TypeId} (h : JX Hb ra rb r R0 a b H) (k : HasRow Hb s cs rw e) (h1 : s ≠ ra) (h2 : s ≠ rb) : HasRow H s cs rw e := ⟨Nat.lt_of_lt_of_le k.lt h.n, by rw [h.get s k.lt h1 h2]; exact k.get⟩
theorem JX.slice {Hb H : AHeap} {ra rb r : Nat} {R0 : RLoop} {a b : Int} {p : AVal} {sz n : Nat} {cs : List AVal} (h : JX Hb ra rb r R0 a b H) (k : SliceAt Hb p sz n cs) (h1 : RowNe p ra) (h2 : RowNe p rb) : SliceAt H p sz n cs := k.keep h.n fun s _ _ _ _ e hs => h.get s hs (h1.ne _ _ _ _ _ e) (h2.ne _ _ _ _ _ e)
theorem JX.ext {Hh Hb H : AHeap} {ra rb r : Nat} {R0 : RLoop} {a b : Int} (h : JX Hb ra rb r R0 a b H) (x : Ext Hh Hb) (h1 : Hh.n ≤ ra) (h2 : Hh.n ≤ rb) : Ext Hh H := ⟨Nat.le_trans x.n h.n, fun s hs => by have := x.n; rw [h.get s (by omega) (by omega) (by omega), x.get s hs]⟩
theorem JX.start {Hb : AHeap} {ra rb : Nat} {R0 : RLoop} {a b : Int} (ka : HasRow Hb ra [.int .i64 a] true (2 * 3)) (kb : HasRow Hb rb [.int .i64 b] true (2 * 3)) : JX Hb ra rb (Hb.n + 1) R0 a b ((Hb.push .dead).push (.loop R0)) := by
 haveI := ka
 haveI := kb
 refine ⟨by simp only [AHeap.push]; omega, fun s hs _ _ => ?_, inferInstance, inferInstance, (inferInstance : HasLoop ((Hb.push .dead).push (.loop R0)) (Hb.push .dead).n R0)⟩
 rw [push_get_lt (by simp only [AHeap.push]; omega), push_get_lt hs]
theorem row_loop {H : AHeap} {s r : Nat} {cs : List AVal} {rw : Bool} {e : TypeId} {R0 : RLoop} (k : HasRow H s cs rw e) (hl : HasLoop H r R0) : s ≠ r := fun q => by
 subst q
 have := hl.get
 rw [k.get] at this; cases this
theorem sl_loop {H : AHeap} {p : AVal} {sz n : Nat} {cs : List AVal} {r : Nat} {R0 : RLoop} (k : SliceAt H p sz n cs) (hl : HasLoop H r R0) : RowNe p r := ⟨fun r' off len cap sz' e => by
 rcases k.it with ⟨rfl, _⟩ | ⟨r2, off2, cap2, row, rw2, e2, rfl, h2, h3, _⟩
 ·cases e
 ·cases e
  intro e; subst e
  have := hl.get
  rw [h3] at this; cases this⟩
theorem round_nx {Hb H : AHeap} {r2 r3 ra rb r d n y z : Nat} {fr : AFrame} {p : AVal} {l : List Int} {a b : Int} {e2 e3 : TypeId} {w2 w3 : Bool} (h2 : fr 2 = .ptr r2 0) (h3 : fr 3 = .ptr r3 0) (h4 : fr 4 = .ptr ra 0) (h5 : fr 5 = .ptr rb 0) (k2 : HasRow H r2 [p] w2 e2) (k3 : HasRow H r3 [.int .i64 (y : Int)] w3 e3) (kp : IntsI H p l) (pa : RowNe p ra) (pb : RowNe p rb) (n2a : r2 ≠ ra) (n2b : r2 ≠ rb) (n3a : r3 ≠ ra) (n3b : r3 ≠ rb) (nab : ra ≠ rb) (hla : ra < Hb.n) (hlb : rb < Hb.n) (hr : Hb.n ≤ r)
  (hl : ∀ i, 0 ≤ l.getD i 0 ∧ l.getD i 0 ≤ 3840) (hz : z < l.length) (hJ : JX Hb ra rb r (nxR d fr) a b H) (hn : fuel0 + 2 ≤ n) :
  ∃ H', callN ext prog n yieldId [.yield r, .int .i64 (z : Int)] H = some (.bool true, H') ∧ JX Hb ra rb r (nxR d fr) (if l.getD z 0 + chg y z < b then (z : Int) else a) (if l.getD z 0 + chg y z < b then l.getD z 0 + chg y z else b) H' := by
 obtain ⟨k, rfl⟩ : ∃ k, n = k + 1 := ⟨n - 1, by omega⟩
 replace hn : fuel0 + 1 ≤ k := by omega
 haveI := hJ.loop
 haveI := hJ.ka
 haveI := hJ.kb
 haveI : NeR r2 r := ⟨row_loop k2 hJ.loop⟩
 haveI : NeR r3 r := ⟨row_loop k3 hJ.loop⟩
 haveI : NeR ra r := ⟨row_loop hJ.ka hJ.loop⟩
 haveI : NeR rb r := ⟨row_loop hJ.kb hJ.loop⟩
 haveI : NeR ra rb := ⟨nab⟩
 haveI : NeR rb ra := ⟨nab.symm⟩
 haveI : NeR r ra := ⟨(row_loop hJ.ka hJ.loop).symm⟩
 haveI : NeR r rb := ⟨(row_loop hJ.kb hJ.loop).symm⟩
 haveI : RowNe p r := sl_loop kp hJ.loop
 haveI := kp.one
 have hlz := hl z
 have hgz : l.getD z 0 = l[z] := getD_at hz
 rw [hgz] at hlz ⊢
 have hc0 : 0 ≤ chg y z ∧ chg y z ≤ 1 := by unfold chg; split <;> omega
 obtain ⟨C, hC⟩ : ∃ C, l[z] + chg y z = C := ⟨_, rfl⟩
 have hw : IntKind.i64.wrap (l[z] + chg y z) = C := by rw [w64 (by omega), hC]
 rw [hC]
 refine round_next (R := nxR d fr) rfl hJ.loop rfl rfl rfl ?_
 show Wp (callN ext prog k) k nxA (upd fr 12 (.int .i64 (z : Int))) H _
 have hfr : upd fr 12 (.int .i64 (z : Int)) = upd (upd (upd (upd (upd fr 2 (.ptr r2 0)) 3 (.ptr r3 0)) 4 (.ptr ra 0)) 5 (.ptr rb 0)) 12 (.int .i64 (z : Int)) := by
  have e : ∀ (g : AFrame) (k : Nat) (v : AVal), g k = v → upd g k v = g := fun g k v h => funext fun t => by
   simp only [upd]
   cases hh : Nat.beq t k
   ·rfl
   ·have := Nat.eq_of_beq_eq_true hh
    subst this
    rw [cond_true, h]
  rw [e fr 2 _ h2, e fr 3 _ h3, e fr 4 _ h4, e fr 5 _ h5]
 rw [hfr]
 refine rg fun KF hKF => ?_
 refine mI ?_
 refine nl hKF ?_
 dsimp only
 refine ⟨rfl, inferInstance, ?_⟩
 show Wp (callN ext prog k) k nxB _ _ _
 have hn1 := hJ.n
 cases hc : decide (C < b)
 ·have hcf := of_decide_eq_false hc
  rw [if_neg hcf, if_neg hcf]
  refine Wp.block ?_
  refine sq ?_
  refine Fr.dregion0 rfl fun KF hKF => ?_
  repeat first | refine Er rfl (exec_ld rfl rfl) rfl ?_ | refine Fe.pure rfl rfl (by simp only [↓nrmL, nrmZ, qe, ↓reduceIte, qa, ze, zn, hw]; rfl) ?_ | (refine Fe.pure rfl (exec_idxP (by (try simp only [↓nrmL, nrmZ, qe, ↓reduceIte, qa, ze, zn, hw]); rfl) rfl ?_) (by simp only [↓nrmL, nrmZ, qe, ↓reduceIte, qa, ze, zn, hw]; rfl) ?_; (focus omega)) | refine Er rfl (exec_ldI rfl (by omega)) rfl ?_ | (refine Fe.pcall (v' := ?_) rfl hn rfl (by simp only [↓nrmL, nrmZ, qe, ↓reduceIte, qa, ze, zn, hw, List.map]; rfl) rfl ?hv fun _ _ => ar ?_; case hv => rfl) | refine WpE.nil (hKF _ _ ?_)
  simp only [hc]
  refine sq ?_
  refine rg fun KF hKF => ?_
  refine mI ?_
  refine Fo.ld rfl rfl ?_
  refine bn rfl rfl rfl (by simp only [↓nrmL, nrmZ, qe, ↓reduceIte, qa, ze, zn, hc]; rfl) ?_
  refine nl hKF ?_
  refine cf rfl ?_
  refine sk ?_
  dsimp only
  rename AHeap => X
  rename ExtI _ X => hX
  have nX := hX.ext.n
  simp only [AHeap.set] at nX
  refine ⟨rfl, inferInstance, ⟨by simp only [AHeap.set]; omega, fun s hs n1 n2 => ?_, inferInstance, inferInstance, inferInstance⟩⟩
  rw [set_get_ne (by omega), hX.ext.get s (by simp only [AHeap.set]; omega), set_get_ne (by omega)]
  exact hJ.get s hs n1 n2
 have hcf := of_decide_eq_true hc
 rw [if_pos hcf, if_pos hcf]
 refine Wp.block ?_
 refine sq ?_
 refine Fr.dregion0 rfl fun KF hKF => ?_
 repeat first | refine Er rfl (exec_ld rfl rfl) rfl ?_ | refine Fe.pure rfl rfl (by simp only [↓nrmL, nrmZ, qe, ↓reduceIte, qa, ze, zn, hw]; rfl) ?_ | (refine Fe.pure rfl (exec_idxP (by (try simp only [↓nrmL, nrmZ, qe, ↓reduceIte, qa, ze, zn, hw]); rfl) rfl ?_) (by simp only [↓nrmL, nrmZ, qe, ↓reduceIte, qa, ze, zn, hw]; rfl) ?_; (focus omega)) | refine Er rfl (exec_ldI rfl (by omega)) rfl ?_ | (refine Fe.pcall (v' := ?_) rfl hn rfl (by simp only [↓nrmL, nrmZ, qe, ↓reduceIte, qa, ze, zn, hw, List.map]; rfl) rfl ?hv fun _ _ => ar ?_; case hv => rfl) | refine WpE.nil (hKF _ _ ?_)
 simp only [hc]
 repeat first | refine mI ?_ | refine Fo.ld rfl rfl ?_ | refine bn rfl rfl rfl (by simp only [↓nrmL, nrmZ, qe, ↓reduceIte, qa, ze, zn, hc]; rfl) ?_ | refine so rfl (rfl : _ = AVal.int _ _) rfl rfl rfl (by simp only [↓nrmL, nrmZ, qe, ↓reduceIte, qa, ze, zn, hc]; rfl) ?_ | refine nl hKF ?_ | refine sq ?_ | refine rg fun KF hKF => ?_ | refine ct rfl ?_ | dsimp only
 rename AHeap => X
 rename ExtI _ X => hX
 have nX := hX.ext.n
 simp only [AHeap.set] at nX
 refine ⟨rfl, inferInstance, ⟨by simp only [AHeap.set]; omega, fun s hs n1 n2 => ?_, inferInstance, inferInstance, inferInstance⟩⟩
 rw [set_get_ne (by omega), set_get_ne n2, set_get_ne n1, hX.ext.get s (by simp only [AHeap.set]; omega), set_get_ne (by omega)]
 exact hJ.get s hs n1 n2
theorem K_next {y : Nat} {p : AVal} {H : AHeap} {l : List Int} [hp : IntsI H p l] (h0 : 0 < l.length) (h640 : l.length ≤ 640) (hy : y < l.length) (hl : ∀ i, 0 ≤ l.getD i 0 ∧ l.getD i 0 ≤ 3840) : Con ext prog 6 94 [p, .int .i64 (y : Int)] H fun v H' => v = .tuple [.int .i64 ((nxF (fun i => l.getD i 0) l.length y).1 : Int), .int .i64 (nxF (fun i => l.getD i 0) l.length y).2] ∧ Ext H H' := by
 refine con_ofR (show prog 94 = some c94 from rfl) rfl rfl fun n hn => ?_
 obtain ⟨c, hcd⟩ : ∃ c : Nat → Int, (fun i => l.getD i 0) = c := ⟨_, rfl⟩
 have hcv : ∀ i, l.getD i 0 = c i := fun i => by rw [← hcd]
 rw [hcd]
 haveI := hp.one
 repeat first | refine Fo.ld rfl rfl ?_ | refine ln (by simp only [↓nrmL, nrmK, qe, ↓reduceIte]; rfl) ?_ | refine Fo.box1 (rfl : _ = AVal.int _ _) ?_ | refine Fo.box1 (by simp only [↓nrmL, nrmK, qe, ↓reduceIte]; rfl) ?_ | refine nw ?_ | refine so rfl (rfl : _ = AVal.int _ _) rfl rfl rfl (by simp only [↓nrmL, nrmZ, qe, ↓reduceIte, qa, ze, zn]; rfl) ?_ | refine nl hKF ?_ | refine sq ?_ | refine rg fun KF hKF => ?_
 refine WpO.do (WpX.conD hn rfl rfl (by simp only [↓nrmL, nrmZ, qe, ↓reduceIte, qa, ze, zn, List.map] <;> rfl) (K_beside (y := (y : Int)) (h := ((l.length : Nat) : Int))) fun v H2 h5 => ?_)
 obtain ⟨q1, q2, e1, k1, k2, hx2, g1, g2⟩ := h5
 subst e1
 haveI : ExtI _ H2 := ⟨hx2⟩
 have kr2 : HasRow H2 H.n [p] true (2 * 25) := inferInstance
 have kr3 : HasRow H2 (H.push (.row [p] true (2 * 25))).n [.int .i64 (y : Int)] true (2 * 3) := inferInstance
 have kra : HasRow H2 ((H.push (.row [p] true (2 * 25))).push (.row [.int .i64 (y : Int)] true (2 * 3))).n [.int .i64 0] true (2 * 3) := inferInstance
 have krb : HasRow H2 (((H.push (.row [p] true (2 * 25))).push (.row [.int .i64 (y : Int)] true (2 * 3))).push (.row [.int .i64 0] true (2 * 3))).n [.int .i64 1920] true (2 * 3) := inferInstance
 have kp : IntsI H2 p l := inferInstance
 have hx02 : Ext H H2 := Ext0.ext
 have n2 := hx2.n
 simp only [AHeap.push, AHeap.set] at n2 g1 g2
 have pra : RowNe p ((H.push (.row [p] true (2 * 25))).push (.row [.int .i64 (y : Int)] true (2 * 3))).n := ⟨fun r _ _ _ _ e => by have := hp.lt e; simp only [AHeap.push]; omega⟩
 have prb : RowNe p (((H.push (.row [p] true (2 * 25))).push (.row [.int .i64 (y : Int)] true (2 * 3))).push (.row [.int .i64 0] true (2 * 3))).n := ⟨fun r _ _ _ _ e => by have := hp.lt e; simp only [AHeap.push]; omega⟩
 have key : ∀ fr : AFrame, fr 2 = .ptr H.n 0 → fr 3 = .ptr (H.push (.row [p] true (2 * 25))).n 0 → fr 4 = .ptr ((H.push (.row [p] true (2 * 25))).push (.row [.int .i64 (y : Int)] true (2 * 3))).n 0 → fr 5 = .ptr (((H.push (.row [p] true (2 * 25))).push (.row [.int .i64 (y : Int)] true (2 * 3))).push (.row [.int .i64 0] true (2 * 3))).n 0 → ∃ v H3, callN ext prog n 133 [.yield (H2.n + 1), .ptr q1 0, .ptr q2 0] ((H2.push .dead).push (.loop (nxR H2.n fr))) = some (v, H3) ∧ JX H2 ((H.push (.row [p] true (2 * 25))).push (.row [.int .i64 (y : Int)] true (2 * 3))).n (((H.push (.row [p] true (2 * 25))).push (.row [.int .i64 (y : Int)] true (2 * 3))).push (.row [.int .i64 0] true (2 * 3))).n (H2.n + 1) (nxR H2.n fr) ((nxF c l.length y).1 : Int) (nxF c l.length y).2 H3 := fun fr f2 f3 f4 f5 =>
  K_besideI (y := y) (h := l.length) (r := H2.n + 1) (J := fun z H' => JX H2 ((H.push (.row [p] true (2 * 25))).push (.row [.int .i64 (y : Int)] true (2 * 3))).n (((H.push (.row [p] true (2 * 25))).push (.row [.int .i64 (y : Int)] true (2 * 3))).push (.row [.int .i64 0] true (2 * 3))).n (H2.n + 1) (nxR H2.n fr) ((nxTo c y (loB y) (z - loB y)).1 : Int) (nxTo c y (loB y) (z - loB y)).2 H') (D := 2) h0 h640 hy
   (fun z H4 hJ => ⟨hJ.row k1 (by simp only [AHeap.push]; omega) (by simp only [AHeap.push]; omega), hJ.row k2 (by simp only [AHeap.push]; omega) (by simp only [AHeap.push]; omega)⟩)
   (fun z H4 hz1 hz2 hJ m hm => by
    have hzl : z < l.length := by unfold hiB at hz2; omega
    obtain ⟨H', e5, hJ5⟩ := round_nx (y := y) (z := z) (p := p) (l := l) f2 f3 f4 f5 (hJ.row kr2 (by simp only [AHeap.push]; omega) (by simp only [AHeap.push]; omega)) (hJ.row kr3 (by simp only [AHeap.push]; omega) (by simp only [AHeap.push]; omega)) (hJ.slice kp pra prb) pra prb (by simp only [AHeap.push]; omega) (by simp only [AHeap.push]; omega) (by simp only [AHeap.push]; omega) (by simp only [AHeap.push]; omega) (by simp only [AHeap.push]; omega) kra.lt krb.lt (Nat.le_succ _) hl hzl hJ hm
    refine ⟨H', e5, ?_⟩
    rw [show z + 1 - loB y = (z - loB y) + 1 by omega]
    simp only [nxTo]
    rw [show loB y + (z - loB y) = z by omega]
    rw [hcv z] at hJ5
    by_cases hlt : c z + chg y z < (nxTo c y (loB y) (z - loB y)).2
    ·rw [if_pos hlt, if_pos hlt] at hJ5
     rw [if_pos hlt]
     exact hJ5
    ·rw [if_neg hlt, if_neg hlt] at hJ5
     rw [if_neg hlt]
     exact hJ5)
   (by rw [Nat.sub_self]; exact JX.start kra krb) n (by omega)
 have key2 : ∀ (fr : AFrame) (P : AVal → AHeap → RLoop → Prop), fr 2 = .ptr H.n 0 → fr 3 = .ptr (H.push (.row [p] true (2 * 25))).n 0 → fr 4 = .ptr ((H.push (.row [p] true (2 * 25))).push (.row [.int .i64 (y : Int)] true (2 * 3))).n 0 → fr 5 = .ptr (((H.push (.row [p] true (2 * 25))).push (.row [.int .i64 (y : Int)] true (2 * 3))).push (.row [.int .i64 0] true (2 * 3))).n 0 → (∀ v H3, JX H2 ((H.push (.row [p] true (2 * 25))).push (.row [.int .i64 (y : Int)] true (2 * 3))).n (((H.push (.row [p] true (2 * 25))).push (.row [.int .i64 (y : Int)] true (2 * 3))).push (.row [.int .i64 0] true (2 * 3))).n (H2.n + 1) (nxR H2.n fr) ((nxF c l.length y).1 : Int) (nxF c l.length y).2 H3 → P v H3 (nxR H2.n fr)) →
   ∃ v H3 R, callN ext prog n 133 ([] ++ [.yield (H2.n + 1)] ++ [.ptr q1 0, .ptr q2 0]) ((H2.push .dead).push (.loop ⟨H2.n, 28, fr, [12], nxA, nxB, 0, .normal⟩)) = some (v, H3) ∧ H3.get (H2.n + 1) = .loop R ∧ (Nat.beq R.st 1 || Nat.beq R.st 4) = false ∧ P v H3 R := fun fr P f2 f3 f4 f5 hP => by
  obtain ⟨v, H3, e3, hJ⟩ := key fr f2 f3 f4 f5
  exact ⟨v, H3, nxR H2.n fr, e3, hJ.loop.get, rfl, hP v H3 hJ⟩
 refine nl hKF ?_
 refine Wp.block ?_
 dsimp only
 refine Wp.range (gf := 133) (fi := []) (ca := [.ptr q1 0, .ptr q2 0]) (vs := []) rfl rfl rfl ?_
 refine key2 _ _ rfl rfl rfl rfl fun v H3 hJ => ?_
 haveI := hJ.loop
 haveI := hJ.ka
 haveI := hJ.kb
 have n3 := hJ.n
 have hx03 := hJ.ext hx02 (by simp only [AHeap.push]; omega) (by simp only [AHeap.push]; omega)
 haveI : NeR ((H.push (.row [p] true (2 * 25))).push (.row [.int .i64 (y : Int)] true (2 * 3))).n (H2.n + 1) := ⟨by simp only [AHeap.push]; omega⟩
 haveI : NeR (((H.push (.row [p] true (2 * 25))).push (.row [.int .i64 (y : Int)] true (2 * 3))).push (.row [.int .i64 0] true (2 * 3))).n (H2.n + 1) := ⟨by simp only [AHeap.push]; omega⟩
 haveI : NeR (H2.n + 1) ((H.push (.row [p] true (2 * 25))).push (.row [.int .i64 (y : Int)] true (2 * 3))).n := ⟨by simp only [AHeap.push]; omega⟩
 haveI : NeR (H2.n + 1) (((H.push (.row [p] true (2 * 25))).push (.row [.int .i64 (y : Int)] true (2 * 3))).push (.row [.int .i64 0] true (2 * 3))).n := ⟨by simp only [AHeap.push]; omega⟩
 haveI : NeR ((H.push (.row [p] true (2 * 25))).push (.row [.int .i64 (y : Int)] true (2 * 3))).n (((H.push (.row [p] true (2 * 25))).push (.row [.int .i64 (y : Int)] true (2 * 3))).push (.row [.int .i64 0] true (2 * 3))).n := ⟨by simp only [AHeap.push]; omega⟩
 haveI : NeR (((H.push (.row [p] true (2 * 25))).push (.row [.int .i64 (y : Int)] true (2 * 3))).push (.row [.int .i64 0] true (2 * 3))).n ((H.push (.row [p] true (2 * 25))).push (.row [.int .i64 (y : Int)] true (2 * 3))).n := ⟨by simp only [AHeap.push]; omega⟩
 refine sq ?_
 dsimp only
 refine Fr.dregion0 rfl fun KF hKF => ?_
 repeat first | refine Er rfl (exec_ld rfl rfl) rfl ?_ | refine Ee rfl (xs rfl (by (try simp only [↓nrmL, nrmZ, qe, ↓reduceIte, qa, ze, zn]); rfl) rfl rfl rfl (by (try simp only [↓nrmL, nrmZ, qe, ↓reduceIte, qa, ze, zn]); rfl)) ?_ | refine WpE.nil (hKF _ _ ?_)
 refine rt ?_
 dsimp only
 refine ⟨trivial, _, takeMarks1 (d := H2.n) (l := H2.n + 1) inferInstance rfl rfl, _, getAllC1 rfl rfl (getAllC1 rfl rfl rfl), rfl, ⟨by simp only [AHeap.set]; exact hx03.n, fun s hs => ?_⟩⟩
 rw [set_get_ne (by omega), set_get_ne (by simp only [AHeap.push]; omega), set_get_ne (by simp only [AHeap.push]; omega)]
 try rw [set_get_ne (by omega)]
 exact hx03.get s hs
end Go.Am

namespace Go.Am
open Go
attribute [local irreducible] Wp WpO WpX WpE
end Go.Am

namespace Go.Am
open Go
attribute [local irreducible] Wp WpO WpX WpE
end Go.Am

namespace Go.Am
open Go
section
variable {call : ACall} {lf : Nat} {fr : AFrame} {H : AHeap} {Q : RExit → AFrame → AHeap → Prop} {a b : RCode}
end
end Go.Am

namespace Go.Am
open Go
open Nat renaming reduceEqDiff → qe, reduceAdd → qa
open Int renaming reduceBEq → ze, reduceBNe → zn
attribute [local irreducible] Wp WpO WpX WpE
def minI (l : List Int) : Nat → Int
 | 0 => 0
 | i + 1 => if l.getD i 0 < minI l i then l.getD i 0 else minI l i
class Z0 (l : List Int) : Prop where
 hp : 0 < l.length
 h0 : l.getD 0 0 = 0
 hs : l.length ≤ 640
theorem min_succ {l : List Int} {i : Nat} (h : i < l.length) : (if l[i] < minI l i then l[i] else minI l i) = minI l (i + 1) := by
 simp only [minI, getD_at h]
instance K_Min {p : AVal} {H : AHeap} {l : List Int} [hp : IntsI H p l] [hm : Z0 l] : PureCon ext prog 79 [p] H 1 (.int .i64 (minI l l.length)) := ⟨by
 refine con_of (show prog 79 = some c79 from rfl) rfl rfl fun n hn => ?_
 have hpos := hm.hp
 have hs := hm.hs
 have h0 : l[0] = 0 := by rw [← getD_at hpos]; exact hm.h0
 have h1 : decide (((l.length : Nat) : Int) < 1) = false := decide_eq_false (by omega)
 have e1 : minI l 1 = 0 := by simp only [minI, getD_at hpos, h0]; rfl
 repeat first | refine mI ?_ | refine mv ?_ | refine bn rfl rfl rfl (by simp only [h1, h0]; rfl) ?_ | refine ln (by simp only [↓nrmL, nrmK, qe, ↓reduceIte]; rfl) ?_ | (refine Fo.idx (by simp only [↓nrmL, nrmK, qe, ↓reduceIte]; rfl) rfl ?_ (by simp only [↓nrmL, nrmZ, qe, ↓reduceIte, qa, ze, zn, h1, h0]; rfl) ?_; (focus omega)) | (refine Fo.ldI rfl ?_ (by simp only [h1, h0]; rfl) ?_; (focus omega)) | refine nl hKF ?_ | refine sq ?_ | refine rg fun KF hKF => ?_ | refine cf rfl ?_ | refine sk ?_ | refine Wp.block ?_ | dsimp only
 refine Wp.loopS [3, 4, 12, 13, 14, 15, 16, 17, 18, 19, 20, 21, 22, 23] (fun i : Nat => [(4, .int .i64 i), (3, .int .i64 (minI l i))]) (fun H3 i H2 => 1 ≤ i ∧ i ≤ l.length ∧ H2 = H3) (fun i => l.length - i) 1 rfl (fun _ => rfl) ⟨rfl, by simp only [↓nrmL, nrmZ, qe, ↓reduceIte, qa, ze, zn]; rw [e1], trivial⟩ ⟨Nat.le_refl _, hpos, rfl⟩ (by unfold fuel0 at hn; omega) ?_
 rintro i g H2 ⟨hi1, hi, rfl⟩
 simp only [↓nrmL, nrmZ, qe, ↓reduceIte, qa, ze, zn]
 cases hc : decide ((i : Int) < (l.length : Int))
 ·have hil : i = l.length := by have := of_decide_eq_false hc; omega
  repeat first | refine mI ?_ | refine mv ?_ | refine bn rfl rfl rfl (by simp only [hc]; rfl) ?_ | refine ln (by simp only [↓nrmL, nrmK, qe, ↓reduceIte]; rfl) ?_ | refine nl hKF ?_ | refine sq ?_ | refine rg fun KF hKF => ?_ | refine cf rfl ?_ | refine rt ?_ | refine xi ?_ | dsimp only
  refine rz trivial ?_
  exact ⟨by rw [hil]; rfl, Ext0.ext⟩
 ·have hil : i < l.length := by have := of_decide_eq_true hc; omega
  have hw1 := wa1 (a := i) (by omega)
  repeat first | refine mI ?_ | refine mv ?_ | refine bn rfl rfl rfl (by simp only [hc, Bool.false_eq_true, if_false]; rfl) ?_ | refine b0 ?_ | refine ln (by simp only [↓nrmL, nrmK, qe, ↓reduceIte]; rfl) ?_ | (refine Fo.idx (by simp only [↓nrmL, nrmK, qe, ↓reduceIte]; rfl) rfl ?_ (by simp only [↓nrmL, nrmZ, qe, ↓reduceIte, qa, ze, zn, hc, Bool.false_eq_true, if_false]; rfl) ?_; (focus omega)) | (refine Fo.ldI rfl ?_ rfl ?_; (focus omega)) | refine Fo.now rfl rfl (by simp only [hc, Bool.false_eq_true, if_false]; rfl) ?_ | refine nl hKF ?_ | refine sq ?_ | refine rg fun KF hKF => ?_ | refine ct rfl ?_ | refine sk ?_ | refine Wp.block ?_ | dsimp only
  refine ⟨i + 1, by omega, ⟨by simp only [↓nrmL, nrmZ, qe, ↓reduceIte, qa, ze, zn]; rw [hw1], by simp only [↓nrmL, nrmZ, qe, ↓reduceIte, qa, ze, zn]; first | rw [← min_succ hil] | (simp only [Bool.false_eq_true, if_false]; rw [← min_succ hil]), trivial⟩, by omega, by omega, rfl⟩⟩
structure Wave (w : Nat) (L : List Int) (k : Nat) : Prop where
 len : L.length = w
 near : ∀ x, x + 1 < w → L.getD (x + 1) 0 - L.getD x 0 ≤ 1 ∧ L.getD x 0 - L.getD (x + 1) 0 ≤ 1
 low : ∀ x, -(k : Int) ≤ L.getD x 0 ∧ L.getD x 0 ≤ (k : Int)
 zero : L.getD 0 0 = 0
structure WaveX (w : Nat) (L : List Int) (k X : Nat) (Y : Int) : Prop extends Wave w L k where
 tail : ∀ i, X ≤ i → i < w → L.getD i 0 = Y
 y : -(k : Int) ≤ Y ∧ Y ≤ (k : Int)
theorem getD_out {L : List Int} {x : Nat} (h : L.length ≤ x) : L.getD x 0 = 0 := by rw [List.getD_eq_getElem?_getD, List.getElem?_eq_none h]; rfl
end Go.Am

namespace Go.Am
open Go
attribute [local irreducible] Wp WpO WpX WpE
def lineL (lo : Nat) (L : List Int) (i k : Nat) : List Int := (List.range L.length).map fun x => 5 + (lo : Int) + 36 * i + 6 * k + L.getD x 0
def staveL (lo : Nat) (L : List Int) (i : Nat) : List (List Int) := (List.range 5).map (lineL lo L i)
structure StvR (H : AHeap) (sp : AVal) (ls : List (List Int)) (B : Nat) : Prop where
 it : ∃ r ps e, sp = .slice r 0 ls.length none 1 ∧ HasRow H r ps true e ∧ e / 2 = 25 ∧ ps.length = ls.length ∧ B ≤ r ∧ ∀ j (h : j < ls.length), ∃ rj, ps[j]? = some (.slice rj 0 ls[j].length (some ls[j].length) 1) ∧ HasRow H rj (cellsI ls[j]) true (2 * 3) ∧ B ≤ rj
theorem StvR.keep {H H' : AHeap} {sp : AVal} {ls : List (List Int)} {B : Nat} (h : StvR H sp ls B) (hn : H.n ≤ H'.n) (hg : ∀ s cs e, s < H.n → B ≤ s → H.get s = .row cs true e → (e / 2 = 25 ∨ e = 2 * 3) → H'.get s = H.get s) : StvR H' sp ls B := by
 obtain ⟨r, ps, e, h1, h2, h3, h4, h5, h6⟩ := h.it
 refine ⟨r, ps, e, h1, ⟨Nat.lt_of_lt_of_le h2.lt hn, by rw [hg r ps e h2.lt h5 h2.get (Or.inl h3)]; exact h2.get⟩, h3, h4, h5, fun j hj => ?_⟩
 obtain ⟨rj, a1, a2, a3⟩ := h6 j hj
 exact ⟨rj, a1, ⟨Nat.lt_of_lt_of_le a2.lt hn, by rw [hg rj _ _ a2.lt a3 a2.get (Or.inr rfl)]; exact a2.get⟩, a3⟩
class RowLt (p : AVal) (B : Nat) : Prop where
 lt : ∀ r off len cap sz, p = .slice r off len cap sz → r < B
structure Lns (H : AHeap) (ps : List AVal) (ls : List (List Int)) (B : Nat) : Prop where
 len : ps.length = ls.length
 it : ∀ j (h : j < ls.length), ∃ rj, ps[j]? = some (.slice rj 0 ls[j].length (some ls[j].length) 1) ∧ HasRow H rj (cellsI ls[j]) true (2 * 3) ∧ B ≤ rj
theorem Lns.keep {H H' : AHeap} {ps : List AVal} {ls : List (List Int)} {B : Nat} (h : Lns H ps ls B) (hn : H.n ≤ H'.n) (hg : ∀ s cs, s < H.n → B ≤ s → H.get s = .row cs true (2 * 3) → H'.get s = H.get s) : Lns H' ps ls B := ⟨h.len, fun j hj => by
 obtain ⟨rj, a1, a2, a3⟩ := h.it j hj
 exact ⟨rj, a1, ⟨Nat.lt_of_lt_of_le a2.lt hn, by rw [hg rj _ a2.lt a3 a2.get]; exact a2.get⟩, a3⟩⟩
theorem Lns.snoc {H : AHeap} {ps : List AVal} {ls : List (List Int)} {B r : Nat} {l : List Int} (h : Lns H ps ls B) (hr : HasRow H r (cellsI l) true (2 * 3)) (hB : B ≤ r) : Lns H (ps ++ [.slice r 0 l.length (some l.length) 1]) (ls ++ [l]) B := by
 refine ⟨by simp [h.len], fun j hj => ?_⟩
 have hl := h.len
 by_cases e : j < ls.length
 ·obtain ⟨rj, a1, a2, a3⟩ := h.it j e
  rw [List.getElem_append_left e]
  exact ⟨rj, by rw [List.getElem?_append_left (by omega)]; exact a1, a2, a3⟩
 ·have ej : j = ls.length := by simp at hj; omega
  subst ej
  simp only [List.getElem_append_right (Nat.le_refl _), Nat.sub_self, List.getElem_cons_zero]
  exact ⟨r, by rw [← hl, List.getElem?_append_right (Nat.le_refl _), Nat.sub_self]; rfl, hr, hB⟩
theorem Lns.stv {H : AHeap} {sp : AVal} {ps : List AVal} {ls : List (List Int)} {B : Nat} (h : Lns H ps ls B) (ho : OwnS H sp 1 ls.length ps 25) (h0 : 0 < ls.length) (hf : ∀ r off len cap sz, sp = .slice r off len cap sz → B ≤ r) : StvR H sp ls B := by
 rcases ho.it with ⟨_, h1, _⟩ | ⟨r, e, h1, h2, h3, h4, h5, h6⟩
 ·omega
 ·exact ⟨r, ps, e, h1, ⟨h2, h3⟩, h4, h.len, hf _ _ _ _ _ h1, h.it⟩
end Go.Am

namespace Go.Am
open Go
attribute [local irreducible] Wp WpO WpX WpE
theorem Wave.mono {w k k' : Nat} {L : List Int} (h : Wave w L k) (hk : k ≤ k') : Wave w L k' := ⟨h.len, h.near, fun x => by have := h.low x; omega, h.zero⟩
section
variable {call : ACall} {fr : AFrame} {H : AHeap} {K : AVal → AHeap → Prop}
theorem WpX.mkR {e : TypeId} {x y : ROpd} {k k' : IntKind} {n : Nat} (hx : x.ev fr = .int k (n : Int)) (hy : y.ev fr = .int k' (n : Int)) (hn : n ≤ 2 ^ 40) (h : K (.slice H.n 0 n (some n) 1) (H.push (.row (cellsI (List.replicate n 0)) true (2 * e)))) : WpX (.makeSlice e [.int .i64 0] 8 x y) call fr H K := by
 refine WpX.now (exec_mk hx hy (by omega)) ?_
 rw [Int.toNat_natCast, mk_ints]
 exact h
theorem WpX.stR {a x : ROpd} {r j : Nat} {l : List Int} {b : Int} {e : TypeId} (ha : a.ev fr = .ptr r j) (hx : x.ev fr = .int .i64 b) [hg : HasRow H r (cellsI l) true e] (hj : j < l.length) (h : K aundef (H.set r (.row (cellsI (l.set j b)) true e))) : WpX (.store 1 a x) call fr H K := by
 refine WpX.store ha hx rfl hg.lt hg.get (by simp only [AVal.cells, List.length_singleton, cellsI_length]; omega) rfl ?_
 rw [← set_ints] at h
 exact h
end
theorem row_ints {H : AHeap} {r n : Nat} {l : List Int} {w : Bool} {e : TypeId} (h : HasRow H r (cellsI l) w e) (hn : l.length = n) : IntsI H (.slice r 0 n (some n) 1) l := by
 subst hn
 exact ⟨Or.inr ⟨r, 0, some l.length, cellsI l, w, e, rfl, h.lt, h.get, by rw [cellsI_length]; omega, by rw [List.drop_zero, Nat.mul_one, ← cellsI_length l, List.take_length], Nat.le_refl _⟩⟩
instance row_one {H : AHeap} {r : Nat} {a : AVal} {rw : Bool} {ty : TypeId} [h : HasRow H r [a] rw ty] : SliceAt H (.slice r 0 1 (some 1) 1) 1 1 [a] := ⟨Or.inr ⟨r, 0, some 1, _, rw, ty, rfl, h.lt, h.get, by simp, rfl, Nat.le_refl _⟩⟩
def fillI (f : Nat → Int) (x n : Nat) : List Int := (List.range n).map fun t => if t < x then f t else 0
theorem fillI_len (f : Nat → Int) (x n : Nat) : (fillI f x n).length = n := by simp [fillI]
theorem fillI_zero (f : Nat → Int) (n : Nat) : fillI f 0 n = List.replicate n 0 := by
 apply List.ext_getElem <;> simp [fillI]
theorem fillI_set {f : Nat → Int} {x n : Nat} : (fillI f x n).set x (f x) = fillI f (x + 1) n := by
 apply List.ext_getElem
 ·simp [fillI]
 ·intro j h1 h2
  rw [List.getElem_set]
  simp only [fillI, List.getElem_map, List.getElem_range]
  by_cases e : x = j
  ·subst e; rw [if_pos rfl, if_pos (by omega)]
  ·rw [if_neg e]
   by_cases h3 : j < x
   ·rw [if_pos h3, if_pos (by omega)]
   ·rw [if_neg h3, if_neg (by omega)]
theorem fillI_all (f : Nat → Int) (n : Nat) : fillI f n n = (List.range n).map f := by
 unfold fillI
 apply List.map_congr_left
 intro t ht
 rw [if_pos (List.mem_range.1 ht)]
theorem ExtP.pushN {a b : AHeap} {p : AVal} {o : AObj} (h : ExtP a b p) : ExtP a (b.push o) p := ⟨by have := h.n; simp only [AHeap.push]; omega, fun r hr hp => by have := h.n; rw [push_get_lt (by omega)]; exact h.get r hr hp⟩
theorem ExtP.other {a b c : AHeap} {p q : AVal} (h : ExtP a b p) (k : ExtP b c q) (hq : ∀ r off len cap sz, q = .slice r off len cap sz → a.n ≤ r) : ExtP a c p := ⟨Nat.le_trans h.n k.n, fun r hr hp => by
 rw [k.get r (Nat.lt_of_lt_of_le hr h.n) ⟨fun r' _ _ _ _ e => by have := hq _ _ _ _ _ e; omega⟩]
 exact h.get r hr hp⟩
theorem OwnS.tne {H : AHeap} {p : AVal} {sz n s : Nat} {cs cs' : List AVal} {e e' : TypeId} {rw : Bool} (h : OwnS H p sz n cs e) (hg : H.get s = .row cs' rw e') (hne : e' / 2 ≠ e) : RowNe p s := ⟨fun r off len cap sz' q => by
 rcases h.it with ⟨rfl, _⟩ | ⟨r2, e2, rfl, h2, h3, h4, _⟩
 ·cases q
 ·cases q
  intro q; subst q
  rw [hg] at h3; cases h3
  exact hne h4⟩
structure WavyR (H H' : AHeap) (v : AVal) (w h n : Nat) (L : List Int) (lo hi : Nat) (P : List UInt8) (gp op : AVal) (cells : List AVal) (B : Nat) : Prop where
 ev : v = .tuple [.agg [.int .i64 (w : Int), .int .i64 (h : Int), gp], op]
 w1 : 40 ≤ w
 w2 : w ≤ 159
 n1 : 1 ≤ n
 n2 : n ≤ 3
 wave : Wave w L 14
 lo1 : lo ≤ 14
 hi1 : hi ≤ 14
 lo2 : ∀ x, -(lo : Int) ≤ L.getD x 0
 hi2 : ∀ x, L.getD x 0 ≤ (hi : Int)
 eh : h = 36 * n + lo + hi - 1
 ok : Ok w h P
 hgp : BytesI H' gp P
 wr : WrS H' gp
 fr : FreshS H gp
 hop : SliceAt H' op 1 n cells
 stv : ∀ j, j < n → ∃ sp, cells[j]? = some sp ∧ StvR H' sp (staveL lo L j) B
 B1 : H.n ≤ B
 B2 : RowLt gp B
 B3 : ∀ r off len cap sz, op = .slice r off len cap sz → B ≤ r
 ext : Ext H H'
end Go.Am

namespace Go.Am
open Go
open Nat renaming reduceEqDiff → qe, reduceAdd → qa
open Int renaming reduceBEq → ze, reduceBNe → zn
attribute [local irreducible] Wp WpO WpX WpE
theorem exec_subC {call : ACall} {fr : AFrame} {H : AHeap} {x lo hi : ROpd} {r off n c a b : Nat} (hx : x.ev fr = .slice r off n (some c) 1) (hlo : lo.ev fr = .int .i64 (a : Int)) (hhi : hi.ev fr = .int .i64 (b : Int)) (hab : a < b) (hbn : b ≤ n) (hnc : n ≤ c) :
  (ROp.sliceS 1 x (some lo) (some hi) none).exec call fr H = some (.slice r (off + a) (b - a) (some (c - a)) 1, H) := by
 have h1 : aLow b (some (.int .i64 (a : Int))) = some a := by
  have : (0 : Int) ≤ (a : Int) ∧ (a : Int) ≤ (b : Int) := by omega
  simp only [aLow, aBound, if_pos this, Int.toNat_natCast]
 have h2 : aHigh n c (some (.int .i64 (b : Int))) = some b := by
  have : (0 : Int) ≤ (b : Int) ∧ (b : Int) ≤ (c : Int) := by omega
  simp only [aHigh, aBound, if_pos this, Int.toNat_natCast]
 have hb0 : aBounds n (some c) (some (.int .i64 (a : Int))) (some (.int .i64 (b : Int))) none = some (a, b, some c) := by
  simp only [aBounds, capD, h2, h1]
 simp only [ROp.exec, hx, Option.map_some, hlo, hhi, Option.map_none, aSliceS, ne_eq, not_true, if_false, hb0, M.pure, if_neg (show ¬ c = a by omega), Nat.mul_one]
def mnL (l : List Int) : Nat → Int
 | 0 => l.getD 0 0
 | k + 1 => if l.getD (k + 1) 0 < mnL l k then l.getD (k + 1) 0 else mnL l k
theorem mn_le {l : List Int} : ∀ {k i : Nat}, i ≤ k → mnL l k ≤ l.getD i 0
 | 0, i, h => by rw [show i = 0 by omega]; exact Int.le_refl _
 | k + 1, i, h => by
  simp only [mnL]
  by_cases e : i = k + 1
  ·subst e; split <;> omega
  ·have := mn_le (l := l) (k := k) (i := i) (by omega)
   split <;> omega
theorem mn_in {l : List Int} : ∀ k : Nat, ∃ i, i ≤ k ∧ mnL l k = l.getD i 0
 | 0 => ⟨0, Nat.le_refl _, rfl⟩
 | k + 1 => by
  obtain ⟨i, h1, h2⟩ := mn_in (l := l) k
  simp only [mnL]
  split
  ·exact ⟨k + 1, Nat.le_refl _, rfl⟩
  ·exact ⟨i, by omega, h2⟩
theorem K_MinA {p : AVal} {H : AHeap} {l : List Int} [hp : IntsI H p l] (h0 : 0 < l.length) (h1 : l.length ≤ 2 ^ 40) : Con ext prog 1 79 [p] H fun v H' => v = .int .i64 (mnL l (l.length - 1)) ∧ Ext H H' := by
 refine con_of (show prog 79 = some c79 from rfl) rfl rfl fun n hn => ?_
 haveI := hp.one
 have hl1 : decide (((l.length : Nat) : Int) < 1) = false := decide_eq_false (by omega)
 have g0 : l[0] = mnL l 0 := by rw [mnL, getD_at h0]
 repeat first | refine mI ?_ | refine mv ?_ | refine bn rfl rfl rfl (by simp only [hl1, g0]; rfl) ?_ | refine ln (by simp only [↓nrmL, nrmK, qe, ↓reduceIte]; rfl) ?_ | (refine Fo.idx (by simp only [↓nrmL, nrmK, qe, ↓reduceIte]; rfl) rfl ?_ (by simp only [↓nrmL, nrmZ, qe, ↓reduceIte, qa, ze, zn, hl1, g0]; rfl) ?_; (focus omega)) | (refine Fo.ldI rfl ?_ (by simp only [hl1, g0]; rfl) ?_; (focus omega)) | refine nl hKF ?_ | refine sq ?_ | refine rg fun KF hKF => ?_ | refine cf rfl ?_ | refine sk ?_ | refine Wp.block ?_ | dsimp only
 refine Wp.loopS [3, 4, 12, 13, 14, 15, 16, 17, 18, 19, 20, 21, 22, 23] (fun k : Nat => [(4, .int .i64 ((k + 1 : Nat) : Int)), (3, .int .i64 (mnL l k))]) (fun H3 k H2 => k + 1 ≤ l.length ∧ Ext0 H3 H2) (fun k => l.length - (k + 1)) 0 rfl (fun _ => rfl) ⟨rfl, rfl, trivial⟩ ⟨h0, inferInstance⟩ (by unfold fuel0 at hn; omega) ?_
 rintro k g H2 ⟨hk, ⟨hx⟩⟩
 haveI : ExtI _ H2 := ⟨hx⟩
 simp only [↓nrmL, nrmZ, qe, ↓reduceIte, qa, ze, zn]
 cases hc : decide (((k + 1 : Nat) : Int) < ((l.length : Nat) : Int))
 ·have hke : l.length - 1 = k := by have := of_decide_eq_false hc; omega
  rw [hke]
  repeat first | refine mI ?_ | refine mv ?_ | refine bn rfl rfl rfl (by simp only [hc]; rfl) ?_ | refine ln (by simp only [↓nrmL, nrmK, qe, ↓reduceIte]; rfl) ?_ | refine nl hKF ?_ | refine sq ?_ | refine rg fun KF hKF => ?_ | refine cf rfl ?_ | refine rt ?_ | refine xi ?_ | dsimp only
  refine rz trivial ?_
  exact ⟨rfl, Ext0.ext⟩
 have hkl : k + 1 < l.length := by have := of_decide_eq_true hc; omega
 have hwk := wa1 (a := k + 1) (by omega)
 have hm : (if l[k + 1] < mnL l k then l[k + 1] else mnL l k) = mnL l (k + 1) := by rw [mnL, getD_at hkl]
 repeat first | refine mI ?_ | refine mv ?_ | refine bn rfl rfl rfl (by simp only [hc, Bool.false_eq_true, if_false, hm]; rfl) ?_ | refine b0 ?_ | refine ln (by simp only [↓nrmL, nrmK, qe, ↓reduceIte]; rfl) ?_ | (refine Fo.idx (by simp only [↓nrmL, nrmK, qe, ↓reduceIte]; rfl) rfl ?_ (by simp only [↓nrmL, nrmZ, qe, ↓reduceIte, qa, ze, zn, hc, Bool.false_eq_true, if_false, hm]; rfl) ?_; (focus omega)) | (refine Fo.ldI rfl ?_ rfl ?_; (focus omega)) | refine Fo.now rfl rfl (by simp only [hc, Bool.false_eq_true, if_false, hm]; rfl) ?_ | refine nl hKF ?_ | refine sq ?_ | refine rg fun KF hKF => ?_ | refine ct rfl ?_ | refine sk ?_ | refine Wp.block ?_ | dsimp only
 refine ⟨k + 1, by omega, ⟨by simp only [↓nrmL, nrmZ, qe, ↓reduceIte, qa, ze, zn]; rw [hwk], rfl, trivial⟩, by omega, inferInstance⟩
theorem K_IndexA {p : AVal} {H : AHeap} {l : List Int} {z : Int} [hp : IntsI H p l] (h1 : l.length ≤ 2 ^ 40) (hz : ∃ i, i < l.length ∧ l.getD i 0 = z) : Con ext prog 1 96 [p, .int .i64 z] H fun v H' => ∃ i : Nat, v = .int .i64 (i : Int) ∧ i < l.length ∧ l.getD i 0 = z ∧ (∀ j, j < i → l.getD j 0 ≠ z) ∧ Ext H H' := by
 refine con_of (show prog 96 = some c96 from rfl) rfl rfl fun n hn => ?_
 haveI := hp.one
 repeat first | refine mI ?_ | refine mv ?_ | refine ln (by simp only [↓nrmL, nrmK, qe, ↓reduceIte]; rfl) ?_ | refine nl hKF ?_ | refine sq ?_ | refine rg fun KF hKF => ?_ | refine Wp.block ?_ | dsimp only
 refine Wp.loopS [4, 5, 8, 9, 10, 11, 12, 13, 14, 15, 16, 17, 18] (fun i : Nat => [(8, .int .i64 (i : Int))]) (fun H3 i H2 => i ≤ l.length ∧ (∀ j, j < i → l.getD j 0 ≠ z) ∧ Ext0 H3 H2) (fun i => l.length - i) 0 rfl (fun _ => rfl) ⟨rfl, trivial⟩ ⟨Nat.zero_le _, fun j hj => by omega, inferInstance⟩ (by unfold fuel0 at hn; omega) ?_
 rintro i g H2 ⟨hi, hno, ⟨hx⟩⟩
 haveI : ExtI _ H2 := ⟨hx⟩
 simp only [↓nrmL, nrmZ, qe, ↓reduceIte, qa, ze, zn]
 cases hc : decide ((i : Int) < ((l.length : Nat) : Int))
 ·obtain ⟨j, j1, j2⟩ := hz
  have := of_decide_eq_false hc
  exact absurd j2 (hno j (by omega))
 have hil : i < l.length := by have := of_decide_eq_true hc; omega
 have hwi := wa1 (a := i) (by omega)
 have hg := getD_at hil
 cases he : (z == l[i])
 ·skip
  repeat first | refine mI ?_ | refine mv ?_ | refine bn rfl rfl rfl (by simp only [hc, he]; rfl) ?_ | refine b0 ?_ | (refine Fo.idx (by simp only [↓nrmL, nrmK, qe, ↓reduceIte]; rfl) rfl ?_ (by simp only [↓nrmL, nrmZ, qe, ↓reduceIte, qa, ze, zn, hc, he]; rfl) ?_; (focus omega)) | (refine Fo.ldI rfl ?_ rfl ?_; (focus omega)) | refine nl hKF ?_ | refine sq ?_ | refine rg fun KF hKF => ?_ | refine ct rfl ?_ | refine cf rfl ?_ | refine sk ?_ | refine Wp.block ?_ | dsimp only
  refine ⟨i + 1, by omega, ⟨by simp only [↓nrmL, nrmZ, qe, ↓reduceIte, qa, ze, zn]; rw [hwi], trivial⟩, by omega, fun j hj => ?_, inferInstance⟩
  by_cases e : j = i
  ·subst e; rw [hg]; intro q; rw [q] at he; simp at he
  ·exact hno j (by omega)
 ·skip
  repeat first | refine mI ?_ | refine mv ?_ | refine bn rfl rfl rfl (by simp only [hc, he]; rfl) ?_ | (refine Fo.idx (by simp only [↓nrmL, nrmK, qe, ↓reduceIte]; rfl) rfl ?_ (by simp only [↓nrmL, nrmZ, qe, ↓reduceIte, qa, ze, zn, hc, he]; rfl) ?_; (focus omega)) | (refine Fo.ldI rfl ?_ rfl ?_; (focus omega)) | refine nl hKF ?_ | refine sq ?_ | refine rg fun KF hKF => ?_ | refine ct rfl ?_ | refine sk ?_ | refine rt ?_ | refine Wp.block ?_ | dsimp only
  refine rz trivial ?_
  exact ⟨i, rfl, hil, by rw [hg]; exact (by simpa using he : z = l[i]).symm, hno, Ext0.ext⟩
structure GrI (H : AHeap) (rp rr n : Nat) (P R : List Int) : Prop where
 kp : HasRow H rp (cellsI P) true (2 * 3)
 kr : HasRow H rr (cellsI R) true (2 * 3)
 lp : P.length = n
 lr : R.length = n
 ne : rp ≠ rr
abbrev grV (w h rp rr : Nat) : AVal := .agg [.int .i64 (w : Int), .int .i64 (h : Int), .slice rp 0 (w * h) (some (w * h)) 1, .slice rr 0 (w * h) (some (w * h)) 1]
abbrev colV (w h rr x : Nat) : AVal := .slice rr (0 + x * h) ((x + 1) * h - x * h) (some (w * h - x * h)) 1
def colL (R : List Int) (h x : Nat) : List Int := (R.drop (x * h)).take h
theorem col_lt {w h x : Nat} (hx : x < w) : x * h + h ≤ w * h := by
 have := Nat.mul_le_mul_right h (show x + 1 ≤ w by omega)
 rw [Nat.add_mul, Nat.one_mul] at this
 exact this
theorem colL_len {R : List Int} {w h x : Nat} (hl : R.length = w * h) (hx : x < w) : (colL R h x).length = h := by
 have := col_lt (h := h) hx
 unfold colL
 rw [List.length_take, List.length_drop]; omega
theorem colL_at {R : List Int} {w h x y : Nat} (hl : R.length = w * h) (hx : x < w) (hy : y < h) : (colL R h x).getD y 0 = R.getD (x * h + y) 0 := by
 unfold colL
 rw [List.getD_eq_getElem?_getD, List.getElem?_take, if_pos hy, List.getElem?_drop, ← List.getD_eq_getElem?_getD]
theorem col_ints {H : AHeap} {rr w h x : Nat} {R : List Int} (k : HasRow H rr (cellsI R) true (2 * 3)) (hl : R.length = w * h) (hx : x < w) : IntsI H (colV w h rr x) (colL R h x) := by
 have h1 := col_lt (h := h) hx
 have h2 := colL_len hl hx
 unfold IntsI
 rw [h2]
 unfold colV
 rw [show (x + 1) * h - x * h = h by rw [Nat.add_mul, Nat.one_mul]; omega]
 refine ⟨Or.inr ⟨rr, 0 + x * h, some (w * h - x * h), cellsI R, true, _, rfl, k.lt, k.get, by rw [cellsI_length]; omega, ?_, by simp only [capD]; omega⟩⟩
 rw [Nat.mul_one, Nat.zero_add]
 simp [colL, cellsI, List.map_take, List.map_drop]
theorem K_column {w h rp rr x : Nat} {H : AHeap} (hw : w ≤ 640) (hh : h ≤ 640) (h0 : 0 < h) (hx : x < w) : Con ext prog 1 95 [grV w h rp rr, .int .i64 (x : Int)] H fun v H' => v = colV w h rr x ∧ Ext H H' := by
 refine con_of (show prog 95 = some c95 from rfl) rfl rfl fun n hn => ?_
 have h1 := col_lt (h := h) hx
 have hm : w * h ≤ 640 * 640 := Nat.mul_le_mul hw hh
 have e1 : IntKind.i64.wrap ((x : Int) * (h : Int)) = ((x * h : Nat) : Int) := wm (by omega)
 have e2 := wa1 (a := x) (by omega)
 have e3 : IntKind.i64.wrap (((x + 1 : Nat) : Int) * (h : Int)) = (((x + 1) * h : Nat) : Int) := wm (by rw [Nat.add_mul, Nat.one_mul]; omega)
 have hlt : x * h < (x + 1) * h := by rw [Nat.add_mul, Nat.one_mul]; omega
 repeat first | refine mI ?_ | refine mN ?_ | refine fd ?_ | refine Fo.ld rfl rfl ?_ | refine bn rfl rfl rfl (by simp only [e1, e2, e3]; rfl) ?_ | refine bA ?_ | refine nl hKF ?_ | refine sq ?_ | refine rg fun KF hKF => ?_
 refine Fo.now rfl (exec_subC (r := rr) (off := 0) (n := w * h) (c := w * h) (a := x * h) (b := (x + 1) * h) rfl rfl rfl hlt (by rw [Nat.add_mul, Nat.one_mul]; omega) (Nat.le_refl _)) rfl ?_
 refine mv ?_
 refine nl hKF ?_
 refine rt ?_
 dsimp only
 refine rz trivial ?_
 exact ⟨rfl, Ext0.ext⟩
end Go.Am

namespace Go.Am
open Go
theorem WpX.conC {ext : Exts} {prog : FuncId → Option RFunc} {fr : AFrame} {H : AHeap} {K Q : AVal → AHeap → Prop} {n d : Nat} {f : FuncId} {o : ROpd} {l : List ROpd} {args caps : List AVal} (hc : Con ext prog d f args H Q) (hn : fuel0 + d ≤ n) (hf : o.ev fr = .func (.func f) [] caps) (hl : l.map (·.ev fr) ++ caps = args) (h : ∀ v H', Q v H' → K v H') : WpX (.call o l) (callN ext prog n) fr H K := by
  obtain ⟨u, H', h1, h2⟩ := hc n hn
  refine ⟨u, H', ?_, h _ _ h2⟩
  simp only [ROp.exec, hf, aCallV, List.nil_append, hl]
  exact h1
section
variable {call : ACall} {n ref : Nat} {its : List DItem} {H0 H : AHeap} {E : List (Nat × AHeap)} {Rd : List (Nat × (AHeap → Bool))} {fr : AFrame} {K : AFrame → AHeap → Prop} {b : Nat} {pre : Bool} {g : Option (Nat × Bool)}
theorem WpE.stR {d : Option Nat} {a x : ROpd} {r j : Nat} {l : List Int} {c : Int} {e : TypeId} (hw : ROper.wanted fr ⟨d, .store 1 a x, g⟩ = true) (ha : a.ev fr = .ptr r j) (hx : x.ev fr = .int .i64 c) [s : HasRow H r (cellsI l) true e] (hj : j < l.length)
    (h : AllR b (H.set r (.row (cellsI (l.set j c)) true e)) Rd ∧ WpE call (n + 1) ref its H0 ((n, H) :: E) Rd (put fr d aundef) (H.set r (.row (cellsI (l.set j c)) true e)) K) : WpE call n ref (⟨⟨d, .store 1 a x, g⟩, b, 2, pre⟩ :: its) H0 E Rd fr H K := by
  have hc : (cellsI l).set j (.int .i64 c) = cellsI (l.set j c) := by simp [cellsI, List.map_set]
  obtain ⟨v, H1, h1, rfl, rfl⟩ : WpX (.store 1 a x) call fr H fun v H1 => v = aundef ∧ H1 = H.set r (.row (cellsI (l.set j c)) true e) :=
    WpX.store ha hx rfl s.lt s.get (by simp only [AVal.cells, List.length_singleton, cellsI_length]; omega) rfl (by rw [show AVal.cells (.int .i64 c) = [.int .i64 c] from rfl, setAt_one, hc]; exact ⟨rfl, rfl⟩)
  exact WpE.effect hw h1 h.1 h.2
end
end Go.Am

namespace Go.Am
open Go
open Nat renaming reduceEqDiff → qe, reduceAdd → qa
open Int renaming reduceBEq → ze, reduceBNe → zn
attribute [local irreducible] Wp WpO WpX WpE
def priF (P : List Int) (h x y : Nat) : Int := P.getD (x * h + y) 0
def resF (P : List Int) (w h i : Nat) : Int := restF (priF P h) w h (w - 1 - i / h) (i % h)
def mesL (P R : List Int) (w h k j : Nat) : List Int := (List.range (w * h)).map fun i => if w - k ≤ i / h ∨ (i / h + 1 + k = w ∧ i % h < j) then resF P w h i else R.getD i 0
def restL (P : List Int) (w h : Nat) : List Int := (List.range (w * h)).map (resF P w h)
theorem mes_len (P R : List Int) (w h k j : Nat) : (mesL P R w h k j).length = w * h := by simp [mesL]
theorem mes_at {P R : List Int} {w h k j i : Nat} (hi : i < w * h) : (mesL P R w h k j).getD i 0 = if w - k ≤ i / h ∨ (i / h + 1 + k = w ∧ i % h < j) then resF P w h i else R.getD i 0 := by
 rw [getD_at (by rw [mes_len]; exact hi)]
 simp [mesL]
theorem cell_at {h x y : Nat} (hy : y < h) : (x * h + y) / h = x ∧ (x * h + y) % h = y := by
 constructor
 ·rw [Nat.mul_comm, Nat.mul_add_div (by omega), Nat.div_eq_of_lt hy, Nat.add_zero]
 ·rw [Nat.mul_comm, Nat.mul_add_mod]; exact Nat.mod_eq_of_lt hy
theorem mes_zero {P R : List Int} {w h : Nat} (hl : R.length = w * h) : mesL P R w h 0 0 = R := by
 apply List.ext_getElem
 ·rw [mes_len, hl]
 ·intro i h1 h2
  rw [mes_len] at h1
  have : i / h < w := Nat.div_lt_of_lt_mul (by rw [Nat.mul_comm]; exact h1)
  rw [← getD_at, mes_at h1, if_neg (by omega), getD_at h2]
theorem mes_col {P R : List Int} {w h k : Nat} (hk : k < w) : mesL P R w h k h = mesL P R w h (k + 1) 0 := by
 unfold mesL
 apply List.map_congr_left
 intro i hi
 have hi := List.mem_range.1 hi
 have h0 : 0 < h := by
  rcases Nat.eq_zero_or_pos h with e | e
  ·subst e; omega
  ·exact e
 have := Nat.mod_lt i h0
 by_cases hc : w - k ≤ i / h ∨ (i / h + 1 + k = w ∧ i % h < h)
 ·rw [if_pos hc, if_pos (by omega)]
 ·rw [if_neg hc, if_neg (by omega)]
theorem mes_all {P R : List Int} {w h : Nat} : mesL P R w h w 0 = restL P w h := by
 unfold mesL restL
 apply List.map_congr_left
 intro i _
 have := Nat.zero_le (i / h)
 rw [if_pos (by omega)]
theorem cell_inj {h i j : Nat} (h1 : i / h = j / h) (h2 : i % h = j % h) : i = j := by
 have := Nat.div_add_mod i h
 have := Nat.div_add_mod j h
 rw [h1, h2] at *; omega
theorem mes_set {P R : List Int} {w h x k y : Nat} (hx : x + 1 + k = w) (hy : y < h) : (mesL P R w h k y).set (x * h + y) (resF P w h (x * h + y)) = mesL P R w h k (y + 1) := by
 obtain ⟨e1, e2⟩ := cell_at (x := x) hy
 apply List.ext_getElem
 ·simp [mesL]
 ·intro i h1 h2
  rw [List.getElem_set]
  simp only [mesL, List.getElem_map, List.getElem_range]
  by_cases e : x * h + y = i
  ·subst e; rw [if_pos rfl, if_pos (Or.inr ⟨by omega, by omega⟩)]
  ·rw [if_neg e]
   have hne : ¬ (i / h = x ∧ i % h = y) := fun q => e (cell_inj (h := h) (by omega) (by omega))
   by_cases hc : w - k ≤ i / h ∨ (i / h + 1 + k = w ∧ i % h < y)
   ·rw [if_pos hc, if_pos (by omega)]
   ·rw [if_neg hc, if_neg (by omega)]
theorem res_col {P : List Int} {w h x y : Nat} (hx : x < w) (hy : y < h) : resF P w h (x * h + y) = restF (priF P h) w h (w - 1 - x) y := by
 obtain ⟨e1, e2⟩ := cell_at (x := x) hy
 unfold resF
 rw [e1, e2]
theorem rest_at {P : List Int} {w h x y : Nat} (hx : x < w) (hy : y < h) : (restL P w h).getD (x * h + y) 0 = restF (priF P h) w h (w - 1 - x) y := by
 have := col_lt (h := h) hx
 rw [getD_at (by simp [restL]; omega)]
 simp only [restL, List.getElem_map, List.getElem_range]
 exact res_col hx hy
theorem rest_len (P : List Int) (w h : Nat) : (restL P w h).length = w * h := by simp [restL]
class PosL (P : List Int) : Prop where
 it : ∀ i, 0 ≤ P.getD i 0 ∧ P.getD i 0 ≤ 1920
theorem PosL.pos {P : List Int} (hP : PosL P) (h : Nat) : PosP (priF P h) := ⟨fun _ _ => hP.it _⟩
theorem nx_congr {c c' : Nat → Int} {h y : Nat} (hc : ∀ z, z < h → c z = c' z) (h0 : 0 < h) : nxF c h y = nxF c' h y := by
 unfold nxF
 have key : ∀ k, loB y + k ≤ h → nxTo c y (loB y) k = nxTo c' y (loB y) k := by
  intro k
  induction k with
  | zero => intro _; rfl
  | succ k ih =>
   intro hk
   simp only [nxTo]
   rw [ih (by omega), hc _ (by omega)]
 by_cases hlt : loB y ≤ hiB h y + 1
 ·exact key _ (by unfold hiB at *; omega)
 ·rw [show hiB h y + 1 - loB y = 0 by omega]; rfl
theorem mes_colL {P R : List Int} {w h k x j z : Nat} (hx : x + 1 + k = w) (hk : 0 < k) (hz : z < h) : (colL (mesL P R w h k j) h (x + 1)).getD z 0 = restF (priF P h) w h (k - 1) z := by
 have hxw : x + 1 < w := by omega
 have h1 := col_lt (h := h) hxw
 rw [colL_at (mes_len P R w h k j) hxw hz, mes_at (by omega)]
 obtain ⟨e1, e2⟩ := cell_at (x := x + 1) hz
 rw [if_pos (Or.inl (by omega)), res_col hxw hz]
 rw [show w - 1 - (x + 1) = k - 1 by omega]
theorem K_from {w h rp rr q x k y : Nat} {H : AHeap} {P R : List Int} {e : TypeId} (hw : w ≤ 640) (hh : h ≤ 640) (hP : PosL P) (hq : HasRow H q [.int .i64 (w : Int), .int .i64 (h : Int), .slice rp 0 (w * h) (some (w * h)) 1, .slice rr 0 (w * h) (some (w * h)) 1] true e) (hg : GrI H rp rr (w * h) P (mesL P R w h k y)) (hx : x + 1 + k = w) (hy : y < h) : Con ext prog 8 93 [.int .i64 (x : Int), .int .i64 (y : Int), .ptr q 0] H fun v H' => v = .int .i64 (resF P w h (x * h + y)) ∧ Ext H H' := by
 refine con_of (show prog 93 = some c93 from rfl) rfl rfl fun n hn => ?_
 haveI := hq
 have hxw : x < w := by omega
 have h1 := col_lt (h := h) hxw
 have hm : w * h ≤ 640 * 640 := Nat.mul_le_mul hw hh
 haveI hPi : IntsI H (.slice rp 0 (w * h) (some (w * h)) 1) P := row_ints hg.kp hg.lp
 haveI := hPi.one
 have hPl := hg.lp
 have e1 : IntKind.i64.wrap ((x : Int) * (h : Int)) = ((x * h : Nat) : Int) := wm (by omega)
 have e2 : IntKind.i64.wrap (((x * h : Nat) : Int) + (y : Int)) = ((x * h + y : Nat) : Int) := wa (by omega)
 have hi : x * h + y < P.length := by omega
 have eP : P[x * h + y] = priF P h x y := (getD_at hi).symm
 have hpp := hP.it (x * h + y)
 rw [show P.getD (x * h + y) 0 = priF P h x y from rfl] at hpp
 have e3 : IntKind.i64.wrap ((w : Int) - 1) = (w : Int) - 1 := w64 (by omega)
 rw [res_col hxw hy, show w - 1 - x = k by omega]
 rcases Nat.eq_zero_or_pos k with hk | hk
 ·subst hk
  have hc : decide ((x : Int) < (w : Int) - 1) = false := decide_eq_false (by omega)
  have er : restF (priF P h) w h 0 y = priF P h x y := by
   simp only [restF]
   rw [show w - 1 = x by omega]
  rw [er]
  repeat first | refine mI ?_ | refine fd ?_ | refine Fo.ld rfl rfl ?_ | refine bn rfl rfl rfl (by simp only [e1, e2, eP, e3, hc]; rfl) ?_ | (refine Fo.idx (by simp only [↓nrmL, nrmK, qe, ↓reduceIte]; rfl) rfl ?_ (by simp only [↓nrmL, nrmZ, qe, ↓reduceIte, qa, ze, zn, e1, e2, eP, e3, hc]; rfl) ?_; (focus omega)) | (refine Fo.ldI rfl ?_ (by simp only [e1, e2, eP, e3, hc]; rfl) ?_; (focus omega)) | refine nl hKF ?_ | refine sq ?_ | refine rg fun KF hKF => ?_ | refine cf rfl ?_ | refine sk ?_ | refine rt ?_ | dsimp only
  refine rz trivial ?_
  exact ⟨rfl, Ext0.ext⟩
 ·have hc : decide ((x : Int) < (w : Int) - 1) = true := decide_eq_true (by omega)
  have hxw1 : x + 1 < w := by omega
  have er : restF (priF P h) w h k y = priF P h x y + (nxF (restF (priF P h) w h (k - 1)) h y).2 := by
   obtain ⟨k', rfl⟩ : ∃ k', k = k' + 1 := ⟨k - 1, by omega⟩
   simp only [restF]
   rw [show w - 1 - (k' + 1) = x by omega]
   rfl
  have hcl := colL_len (R := mesL P R w h k y) (h := h) (mes_len P R w h k y) hxw1
  have hcol : IntsI H (colV w h rr (x + 1)) (colL (mesL P R w h k y) h (x + 1)) := col_ints hg.kr (mes_len P R w h k y) hxw1
  have hval : ∀ z, z < h → (colL (mesL P R w h k y) h (x + 1)).getD z 0 = restF (priF P h) w h (k - 1) z := fun z hz => mes_colL hx hk hz
  have hrange : ∀ z, 0 ≤ (colL (mesL P R w h k y) h (x + 1)).getD z 0 ∧ (colL (mesL P R w h k y) h (x + 1)).getD z 0 ≤ 3840 := fun z => by
   by_cases hz : z < h
   ·rw [hval z hz]; exact ⟨rest_pos (hP.pos h) _ _, rest_max (hP.pos h) _ _⟩
   ·rw [getD_out (by rw [hcl]; omega)]; omega
  have enx : nxF (fun i => (colL (mesL P R w h k y) h (x + 1)).getD i 0) (colL (mesL P R w h k y) h (x + 1)).length y = nxF (restF (priF P h) w h (k - 1)) h y := by
   rw [hcl]
   exact nx_congr hval (by omega)
  have hcap := nx_cap (restF (priF P h) w h (k - 1)) h y
  have hpo : 0 ≤ (nxF (restF (priF P h) w h (k - 1)) h y).2 := nxTo_pos (rest_pos (hP.pos h) _) _
  obtain ⟨N, hN⟩ : ∃ N, nxF (restF (priF P h) w h (k - 1)) h y = N := ⟨_, rfl⟩
  rw [hN] at enx hcap hpo er
  rw [er]
  have e4 := wa1 (a := x) (by omega)
  have e5 : IntKind.i64.wrap (priF P h x y + N.2) = priF P h x y + N.2 := w64 (by omega)
  haveI hcolC : ∀ H, PureCon ext prog 95 [grV w h rp rr, .int .i64 ((x + 1 : Nat) : Int)] H 1 (colV w h rr (x + 1)) := fun H => ⟨K_column hw hh (by omega) hxw1⟩
  repeat first | refine mI ?_ | refine fd ?_ | refine Fo.ld rfl rfl ?_ | refine Fo.ldN rfl rfl (by simp only [↓nrmL, nrmZ, qe, ↓reduceIte, qa, ze, zn, e1, e2, eP, e3, hc, e4]; rfl) ?_ | refine bn rfl rfl rfl (by simp only [e1, e2, eP, e3, hc, e4]; rfl) ?_ | (refine Fo.pcall (v' := ?_) hn rfl (by simp only [↓nrmL, nrmZ, qe, ↓reduceIte, qa, ze, zn, e1, e2, eP, e3, hc, e4, List.map]; rfl) rfl ?hv fun _ _ => ?_; case hv => rfl) | (refine Fo.idx (by simp only [↓nrmL, nrmK, qe, ↓reduceIte]; rfl) rfl ?_ (by simp only [↓nrmL, nrmZ, qe, ↓reduceIte, qa, ze, zn, e1, e2, eP, e3, hc, e4]; rfl) ?_; (focus omega)) | (refine Fo.ldI rfl ?_ (by simp only [e1, e2, eP, e3, hc, e4]; rfl) ?_; (focus omega)) | refine nl hKF ?_ | refine sq ?_ | refine rg fun KF hKF => ?_ | refine ct rfl ?_
  haveI := hcol
  refine WpO.do (WpX.conD hn rfl rfl (by simp only [↓nrmL, nrmZ, qe, ↓reduceIte, qa, ze, zn, List.map] <;> rfl) (K_next (p := colV w h rr (x + 1)) (y := y) (l := colL (mesL P R w h k y) h (x + 1)) (by omega) (by omega) (by omega) hrange) fun v H5 h5 => ?_)
  obtain ⟨rfl, hx5⟩ := h5
  rw [enx]
  haveI : ExtI _ H5 := ⟨hx5⟩
  simp only [↓nrmL, nrmZ, qe, ↓reduceIte, qa, ze, zn, e5]
  repeat first | refine mI ?_ | refine mT ?_ | refine bn rfl rfl rfl (by simp only [e5]; rfl) ?_ | refine xt ?_ | refine nl hKF ?_ | refine sq ?_ | refine rg fun KF hKF => ?_ | refine rt ?_ | dsimp only
  refine rz trivial ?_
  exact ⟨rfl, Ext0.ext⟩
end Go.Am

namespace Go.Am
open Go
open Nat renaming reduceEqDiff → qe, reduceAdd → qa
open Int renaming reduceBEq → ze, reduceBNe → zn
attribute [local irreducible] Wp WpO WpX WpE
abbrev rrV (w h rr : Nat) : AVal := .slice rr 0 (w * h) (some (w * h)) 1
theorem K_measure {w h rp rr : Nat} {H : AHeap} {P R : List Int} (hw : w ≤ 640) (hh : h ≤ 640) (hw0 : 0 < w) (hh0 : 0 < h) (hP : PosL P) (hg : GrI H rp rr (w * h) P R) : Con ext prog 9 57 [grV w h rp rr] H fun v H' => v = .int .i64 (mnL (colL (restL P w h) h 0) (h - 1)) ∧ GrI H' rp rr (w * h) P (restL P w h) ∧ ExtP H H' (rrV w h rr) := by
 refine con_of (show prog 57 = some c57 from rfl) rfl rfl fun n hn => ?_
 have hm : w * h ≤ 640 * 640 := Nat.mul_le_mul hw hh
 have hrr := hg.kr.lt
 have hrp := hg.kp.lt
 have hne := hg.ne
 haveI : RowNe (rrV w h rr) H.n := ⟨fun r _ _ _ _ e => by cases e; omega⟩
 haveI : NeR H.n rr := ⟨by omega⟩
 haveI : RowNe (rrV w h rr) rp := ⟨fun r _ _ _ _ e => by cases e; omega⟩
 have e1 : IntKind.i64.wrap ((w : Int) - 1) = (w : Int) - 1 := w64 (by omega)
 have hcolC : ∀ x, x < w → ∀ H, PureCon ext prog 95 [grV w h rp rr, .int .i64 (x : Int)] H 1 (colV w h rr x) := fun x hx H => ⟨K_column hw hh hh0 hx⟩
 repeat first | refine mI ?_ | refine mF ?_ | refine fd ?_ | refine Fo.ld rfl rfl ?_ | refine bn rfl rfl rfl (by simp only [e1]; rfl) ?_ | refine bA ?_ | refine Fo.now rfl rfl rfl ?_ | refine nl hKF ?_ | refine sq ?_ | refine rg fun KF hKF => ?_ | refine Wp.block ?_ | dsimp only
 refine Wp.loopS [4, 5, 6, 11, 12, 13, 14, 15, 16, 17, 18, 19, 20, 21, 22, 23, 24, 25, 26, 27, 28, 29, 30] (fun k : Nat => [(4, .int .i64 ((w : Int) - 1 - (k : Int)))]) (fun _ k H2 => k ≤ w ∧ HasRow H2 rr (cellsI (mesL P R w h k 0)) true (2 * 3) ∧ HasRow H2 H.n [.int .i64 (w : Int), .int .i64 (h : Int), .slice rp 0 (w * h) (some (w * h)) 1, .slice rr 0 (w * h) (some (w * h)) 1] true (2 * 83) ∧ ExtP H H2 (rrV w h rr)) (fun k => w - k) 0 rfl (fun _ => rfl) ⟨by simp only [↓nrmL, nrmZ, qe, ↓reduceIte, qa, ze, zn]; rw [show (w : Int) - 1 - ((0 : Nat) : Int) = (w : Int) - 1 by omega], trivial⟩ ⟨Nat.zero_le _, by rw [mes_zero hg.lr]; haveI := hg.kr; exact inferInstance, inferInstance, (ExtP.refl _ _).pushN⟩ (by unfold fuel0 at hn; omega) ?_
 rintro k g H2 ⟨hk, hkr, hq, hx⟩
 haveI := hkr
 haveI := hq
 haveI := hg.kp
 haveI := hx
 have hkp2 : HasRow H2 rp (cellsI P) true (2 * 3) := inferInstance
 simp only [↓nrmL, nrmZ, qe, ↓reduceIte, qa, ze, zn]
 cases hc : decide ((w : Int) - 1 - (k : Int) ≥ 0)
 ·have hke : k = w := by have := of_decide_eq_false hc; omega
  subst hke
  rw [mes_all] at hkr
  haveI := hcolC 0 hw0
  have hci : IntsI H2 (colV k h rr 0) (colL (restL P k h) h 0) := col_ints hkr (rest_len P k h) hw0
  haveI := hci
  have hcl := colL_len (R := restL P k h) (h := h) (rest_len P k h) hw0
  repeat first | refine mI ?_ | refine Fo.ldN rfl rfl (by simp only [↓nrmL, nrmZ, qe, ↓reduceIte, qa, ze, zn, hc]; rfl) ?_ | refine bn rfl rfl rfl (by simp only [hc]; rfl) ?_ | (refine Fo.pcall (v' := ?_) hn rfl (by simp only [↓nrmL, nrmZ, qe, ↓reduceIte, qa, ze, zn, hc, List.map]; rfl) rfl ?hv fun _ _ => ?_; case hv => rfl) | refine nl hKF ?_ | refine sq ?_ | refine rg fun KF hKF => ?_ | refine cf rfl ?_ | refine xi ?_
  refine WpO.do (WpX.conD hn rfl rfl (by simp only [↓nrmL, nrmZ, qe, ↓reduceIte, qa, ze, zn, List.map] <;> rfl) (K_MinA (p := colV k h rr 0) (l := colL (restL P k h) h 0) (by omega) (by omega)) fun v H5 h5 => ?_)
  obtain ⟨rfl, hx5⟩ := h5
  rw [hcl]
  haveI : ExtI _ H5 := ⟨hx5⟩
  refine mI ?_
  refine nl hKF ?_
  refine rt ?_
  dsimp only
  refine rz trivial ?_
  exact ⟨rfl, ⟨inferInstance, by rw [← mes_all (R := R)]; exact inferInstance, hg.lp, rest_len _ _ _, hne⟩, hx.ext (Ext0.ext : Ext H2 H5)⟩
 have hkw : k < w := by have := of_decide_eq_true hc; omega
 obtain ⟨x, hxk⟩ : ∃ x, x + 1 + k = w := ⟨w - 1 - k, by omega⟩
 have ex : (w : Int) - 1 - (k : Int) = (x : Int) := by omega
 have hxw : x < w := by omega
 have h1 := col_lt (h := h) hxw
 haveI := hcolC x hxw
 have hcl0 := colL_len (R := mesL P R w h k 0) (h := h) (mes_len P R w h k 0) hxw
 haveI hci0 : IntsI H2 (colV w h rr x) (colL (mesL P R w h k 0) h x) := col_ints hkr (mes_len P R w h k 0) hxw
 rw [ex] at hc ⊢
 have hcx : decide ((x : Int) ≥ 0) = true := decide_eq_true (by omega)
 repeat first | refine mI ?_ | refine mv ?_ | refine Fo.ldN rfl rfl (by simp only [↓nrmL, nrmZ, qe, ↓reduceIte, qa, ze, zn, hcx, hcl0]; rfl) ?_ | refine bn rfl rfl rfl (by simp only [hcx, hcl0]; rfl) ?_ | (refine Fo.pcall (v' := ?_) hn rfl (by simp only [↓nrmL, nrmZ, qe, ↓reduceIte, qa, ze, zn, hcx, hcl0, List.map]; rfl) rfl ?hv fun _ _ => ?_; case hv => rfl) | (refine Fo.len (v := ?_) (by simp only [↓nrmL, nrmK, qe, ↓reduceIte]; rfl) ?hv ?_; case hv => (simp only [hcx, hcl0]; rfl)) | refine nl hKF ?_ | refine sq ?_ | refine rg fun KF hKF => ?_ | refine ct rfl ?_ | refine sk ?_ | refine Wp.block ?_ | dsimp only
 rename ExtI H2 _ => hx2b
 refine Wp.loopS [6, 20, 21, 22, 23, 24, 25, 26, 27, 28, 29, 30] (fun y : Nat => [(20, .int .i64 (y : Int))]) (fun H3 y H4 => y ≤ h ∧ HasRow H4 rr (cellsI (mesL P R w h k y)) true (2 * 3) ∧ HasRow H4 H.n [.int .i64 (w : Int), .int .i64 (h : Int), .slice rp 0 (w * h) (some (w * h)) 1, .slice rr 0 (w * h) (some (w * h)) 1] true (2 * 83) ∧ ExtP H H4 (rrV w h rr)) (fun y => h - y) 0 rfl (fun _ => rfl) ⟨rfl, trivial⟩ ⟨Nat.zero_le _, inferInstance, inferInstance, hx.ext hx2b.ext⟩ (by unfold fuel0 at hn; omega) ?_
 rintro y g2 H4 ⟨hy, hkr4, hq4, hx4⟩
 haveI := hkr4
 haveI := hq4
 haveI := hx4
 have hkp4 : HasRow H4 rp (cellsI P) true (2 * 3) := inferInstance
 simp only [↓nrmL, nrmZ, qe, ↓reduceIte, qa, ze, zn]
 cases hcy : decide ((y : Int) < (h : Int))
 ·have hye : y = h := by have := of_decide_eq_false hcy; omega
  subst hye
  have e2 : IntKind.i64.wrap ((x : Int) - 1) = (w : Int) - 1 - ((k + 1 : Nat) : Int) := by rw [w64 (by omega)]; omega
  repeat first | refine mI ?_ | refine bn rfl rfl rfl (by simp only [hcy, e2]; rfl) ?_ | refine nl hKF ?_ | refine sq ?_ | refine rg fun KF hKF => ?_ | refine cf rfl ?_ | refine xi ?_ | dsimp only
  exact ⟨k + 1, by omega, ⟨rfl, trivial⟩, by omega, by rw [← mes_col hkw]; exact hkr4, hq4, hx4⟩
 have hyl : y < h := by have := of_decide_eq_true hcy; omega
 have e3 := wa1 (a := y) (by omega)
 have hcl := colL_len (R := mesL P R w h k y) (h := h) (mes_len P R w h k y) hxw
 repeat first | refine mI ?_ | refine mF ?_ | refine mv ?_ | refine bn rfl rfl rfl (by simp only [hcy]; rfl) ?_ | refine nl hKF ?_ | refine sq ?_ | refine rg fun KF hKF => ?_ | refine ct rfl ?_ | refine sk ?_ | refine Wp.block ?_
 refine WpO.do (WpX.conC (K_from hw hh hP hq4 ⟨hkp4, hkr4, hg.lp, mes_len P R w h k y, hne⟩ hxk hyl) (Nat.le_trans (by omega) hn) rfl (by simp only [↓nrmL, nrmZ, qe, ↓reduceIte, qa, ze, zn, List.map] <;> rfl) fun v H5 h5 => ?_)
 obtain ⟨rfl, hx5⟩ := h5
 haveI : ExtI _ H5 := ⟨hx5⟩
 haveI hkr5 : HasRow H5 rr (cellsI (mesL P R w h k y)) true (2 * 3) := inferInstance
 haveI hci : IntsI H5 (colV w h rr x) (colL (mesL P R w h k y) h x) := col_ints hkr5 (mes_len P R w h k y) hxw
 refine Fo.idx (by simp only [↓nrmL, nrmK, qe, ↓reduceIte]; rfl) rfl ?_ (by simp only [↓nrmL, nrmZ, qe, ↓reduceIte, qa, ze, zn, hcl]; rfl) ?_; (focus omega)
 refine WpO.do' (WpX.stR (r := rr) (j := 0 + x * h + y) (l := mesL P R w h k y) rfl rfl (by rw [mes_len]; omega) ?_)
 rw [Nat.zero_add, mes_set hxk hyl]
 refine nl hKF ?_
 refine rg fun KF hKF => ?_
 refine bn rfl rfl rfl (by simp only [e3]; rfl) ?_
 refine mI ?_
 refine nl hKF ?_
 dsimp only
 refine ⟨y + 1, by omega, ⟨rfl, trivial⟩, by omega, inferInstance, inferInstance, ?_⟩
 exact ⟨by have := hx4.n; have := hx5.n; simp only [AHeap.set]; omega, fun s hs hp => by
  have : s ≠ rr := fun e => hp.ne _ _ _ _ _ rfl e.symm
  rw [set_get_ne this, hx5.get s (by have := hx4.n; omega), hx4.get s hs hp]⟩
end Go.Am

namespace Go.Am
open Go
open Nat renaming reduceEqDiff → qe, reduceAdd → qa
open Int renaming reduceBEq → ze, reduceBNe → zn
attribute [local irreducible] Wp WpO WpX WpE
def pathL (P : List Int) (w h y0 : Nat) : List Int := (List.range w).map fun x => (folF (priF P h) w h y0 x : Int)
theorem rest_colL {P : List Int} {w h x z : Nat} (hx : x < w) (hz : z < h) : (colL (restL P w h) h x).getD z 0 = restF (priF P h) w h (w - 1 - x) z := by
 rw [colL_at (rest_len P w h) hx hz, rest_at hx hz]
theorem K_follow {w h rp rr : Nat} {H : AHeap} {P : List Int} (hw : w ≤ 640) (hh : h ≤ 640) (hw0 : 0 < w) (hh0 : 0 < h) (hP : PosL P) (hg : GrI H rp rr (w * h) P (restL P w h)) (hmin : mnL (colL (restL P w h) h 0) (h - 1) < 1920) : Con ext prog 9 58 [grV w h rp rr] H fun v H' => ∃ y0 : Nat, y0 < h ∧ restF (priF P h) w h (w - 1) y0 = mnL (colL (restL P w h) h 0) (h - 1) ∧ (∀ j, j < y0 → restF (priF P h) w h (w - 1) j ≠ mnL (colL (restL P w h) h 0) (h - 1)) ∧ (∃ r, v = .slice r 0 w (some w) 1 ∧ HasRow H' r (cellsI (pathL P w h y0)) true (2 * 3) ∧ H.n ≤ r) ∧ Ext H H' := by
 refine con_of (show prog 58 = some c58 from rfl) rfl rfl fun n hn => ?_
 have hm : w * h ≤ 640 * 640 := Nat.mul_le_mul hw hh
 have hcolC : ∀ x, x < w → ∀ H, PureCon ext prog 95 [grV w h rp rr, .int .i64 (x : Int)] H 1 (colV w h rr x) := fun x hx H => ⟨K_column hw hh hh0 hx⟩
 have hcl : ∀ x, x < w → (colL (restL P w h) h x).length = h := fun x hx => colL_len (rest_len P w h) hx
 have hci : ∀ x, x < w → IntsI H (colV w h rr x) (colL (restL P w h) h x) := fun x hx => col_ints hg.kr (rest_len P w h) hx
 haveI := hcolC 0 hw0
 haveI := hci 0 hw0
 have hcl0 := hcl 0 hw0
 repeat first | refine mN ?_ | refine mv ?_ | refine fd ?_ | refine Fo.ld rfl rfl ?_ | refine Fo.ldN rfl rfl (by simp only [↓nrmL, nrmZ, qe, ↓reduceIte, qa, ze, zn]; rfl) ?_ | (refine Fo.pcall (v' := ?_) hn rfl (by simp only [↓nrmL, nrmZ, qe, ↓reduceIte, qa, ze, zn, List.map]; rfl) rfl ?hv fun _ _ => ?_; case hv => rfl) | refine bA ?_ | refine nl hKF ?_ | refine sq ?_ | refine rg fun KF hKF => ?_
 refine WpO.do (WpX.mkR rfl rfl (by omega) ?_)
 rename AHeap => H1
 rename ExtI _ H1 => hx1
 have hn1 := hx1.ext.n
 simp only [AHeap.push] at hn1
 repeat first | refine mv ?_ | refine nl hKF ?_ | refine sq ?_ | refine rg fun KF hKF => ?_
 refine WpO.do (WpX.conD hn rfl rfl (by simp only [↓nrmL, nrmZ, qe, ↓reduceIte, qa, ze, zn, List.map] <;> rfl) (K_MinA (p := colV w h rr 0) (l := colL (restL P w h) h 0) (by omega) (by omega)) fun v H5 h5 => ?_)
 obtain ⟨rfl, hx5⟩ := h5
 haveI : ExtI _ H5 := ⟨hx5⟩
 rw [hcl0]
 obtain ⟨m, hm0⟩ : ∃ m, mnL (colL (restL P w h) h 0) (h - 1) = m := ⟨_, rfl⟩
 rw [hm0] at hmin ⊢
 skip
 refine WpO.do (WpX.conD hn rfl rfl (by simp only [↓nrmL, nrmZ, qe, ↓reduceIte, qa, ze, zn, List.map] <;> rfl) (K_IndexA (p := colV w h rr 0) (l := colL (restL P w h) h 0) (z := m) (by omega) (by obtain ⟨i, i1, i2⟩ := mn_in (l := colL (restL P w h) h 0) (h - 1); exact ⟨i, by omega, by rw [← i2, hm0]⟩)) fun v H6 h6 => ?_)
 obtain ⟨y0, rfl, hy1, hy2, hy3, hx6⟩ := h6
 haveI : ExtI _ H6 := ⟨hx6⟩
 rw [hcl0] at hy1
 rw [rest_colL hw0 hy1, Nat.sub_zero] at hy2
 have hfol := fol_path (hP.pos h) hh0 hy1 (by rw [hy2]; exact hmin)
 obtain ⟨f, hf⟩ : ∃ f : Nat → Int, (fun x => (folF (priF P h) w h y0 x : Int)) = f := ⟨_, rfl⟩
 have hfx : ∀ x, f x = (folF (priF P h) w h y0 x : Int) := fun x => by rw [← hf]
 haveI hkr6 : HasRow H6 H1.n (cellsI (List.replicate w 0)) true (2 * 3) := inferInstance
 haveI i0 : IntsI H6 (.slice H1.n 0 w (some w) 1) (List.replicate w 0) := row_ints hkr6 List.length_replicate
 haveI := i0.one
 have hrl : 0 < (List.replicate w (0 : Int)).length := by rw [List.length_replicate]; exact hw0
 refine Fo.idx (by simp only [↓nrmL, nrmK, qe, ↓reduceIte]; rfl) rfl ?_ (by simp only [↓nrmL, nrmZ, qe, ↓reduceIte, qa, ze, zn]; rfl) ?_; (focus omega)
 refine WpO.do' (WpX.stR (r := H1.n) (j := 0) (l := List.replicate w 0) rfl rfl (by rw [List.length_replicate]; exact hw0) ?_)
 rw [show ((y0 : Nat) : Int) = f 0 by rw [hfx]; rfl, ← fillI_zero f w, fillI_set]
 repeat first | refine mI ?_ | refine nl hKF ?_ | refine sq ?_ | refine rg fun KF hKF => ?_ | refine Wp.block ?_ | dsimp only
 have hq6 : HasRow H6 H.n [.int .i64 (w : Int), .int .i64 (h : Int), .slice rp 0 (w * h) (some (w * h)) 1, .slice rr 0 (w * h) (some (w * h)) 1] true (2 * 83) := inferInstance
 have hx06 : Ext H H6 := Ext0.ext
 refine Wp.loopS [5, 17, 18, 19, 20, 21, 22, 23, 24, 25, 26, 27, 28, 29, 30, 31, 32, 33, 34, 35, 36, 37] (fun x : Nat => [(5, .int .i64 (x : Int))]) (fun _ x H2 => 1 ≤ x ∧ x ≤ w ∧ HasRow H2 H1.n (cellsI (fillI f x w)) true (2 * 3) ∧ HasRow H2 H.n [.int .i64 (w : Int), .int .i64 (h : Int), .slice rp 0 (w * h) (some (w * h)) 1, .slice rr 0 (w * h) (some (w * h)) 1] true (2 * 83) ∧ Ext H H2) (fun x => w - x) 1 rfl (fun _ => rfl) ⟨rfl, trivial⟩ ⟨Nat.le_refl _, hw0, inferInstance, by haveI : NeR H.n H1.n := ⟨by omega⟩; exact inferInstance, hx06.set (by omega) _⟩ (by unfold fuel0 at hn; omega) ?_
 rintro x g H2 ⟨hx1', hxw, hkr, hq, hx⟩
 haveI := hkr
 haveI := hq
 haveI : ExtI H H2 := ⟨hx⟩
 simp only [↓nrmL, nrmZ, qe, ↓reduceIte, qa, ze, zn]
 cases hc : decide ((x : Int) < (w : Int))
 ·have hxe : x = w := by have := of_decide_eq_false hc; omega
  subst hxe
  repeat first | refine mI ?_ | refine mv ?_ | refine fd ?_ | refine Fo.ld rfl rfl ?_ | refine bn rfl rfl rfl (by simp only [↓nrmL, nrmZ, qe, ↓reduceIte, qa, ze, zn, hc]; rfl) ?_ | refine nl hKF ?_ | refine sq ?_ | refine rg fun KF hKF => ?_ | refine cf rfl ?_ | refine rt ?_ | refine xi ?_ | dsimp only
  refine rz trivial ?_
  have ep : fillI f x x = pathL P x h y0 := by rw [fillI_all, ← hf]; rfl
  refine ⟨y0, hy1, by rw [hm0]; exact hy2, fun j hj => ?_, ⟨_, rfl, by rw [← ep]; exact inferInstance, by omega⟩, Ext0.ext⟩
  have := hy3 j hj
  rw [rest_colL hw0 (by omega), Nat.sub_zero] at this
  rw [hm0]; exact this
 have hxl : x < w := by have := of_decide_eq_true hc; omega
 have hwx := wa1 (a := x) (by omega)
 obtain ⟨x0, rfl⟩ : ∃ x0, x = x0 + 1 := ⟨x - 1, by omega⟩
 have hsub : IntKind.i64.wrap (((x0 + 1 : Nat) : Int) - 1) = (x0 : Int) := by rw [w64 (by omega)]; omega
 have hfl := fillI_len f (x0 + 1) w
 haveI hli : IntsI H2 (.slice H1.n 0 w (some w) 1) (fillI f (x0 + 1) w) := row_ints hkr hfl
 haveI := hcolC (x0 + 1) hxl
 haveI := hci (x0 + 1) hxl
 have hcx := hcl (x0 + 1) hxl
 have hxf : x0 < (fillI f (x0 + 1) w).length := by omega
 have hg0 : (fillI f (x0 + 1) w)[x0] = (folF (priF P h) w h y0 x0 : Int) := by simp [fillI, hfx]
 have hrange : ∀ z, 0 ≤ (colL (restL P w h) h (x0 + 1)).getD z 0 ∧ (colL (restL P w h) h (x0 + 1)).getD z 0 ≤ 3840 := fun z => by
  by_cases hz : z < h
  ·rw [rest_colL hxl hz]; exact ⟨rest_pos (hP.pos h) _ _, rest_max (hP.pos h) _ _⟩
  ·rw [getD_out (by omega)]; omega
 have enx : nxF (fun i => (colL (restL P w h) h (x0 + 1)).getD i 0) (colL (restL P w h) h (x0 + 1)).length (folF (priF P h) w h y0 x0) = nxF (restF (priF P h) w h (w - 1 - (x0 + 1))) h (folF (priF P h) w h y0 x0) := by
  rw [hcx]
  exact nx_congr (fun z hz => rest_colL hxl hz) hh0
 have hfs : f (x0 + 1) = ((nxF (restF (priF P h) w h (w - 1 - (x0 + 1))) h (folF (priF P h) w h y0 x0)).1 : Int) := by rw [hfx]; rfl
 haveI hnx : ∀ (H1 : AHeap) [IntsI H1 (colV w h rr (x0 + 1)) (colL (restL P w h) h (x0 + 1))], PureCon ext prog 94 [colV w h rr (x0 + 1), .int .i64 (folF (priF P h) w h y0 x0 : Int)] H1 6 (.tuple [.int .i64 (f (x0 + 1)), .int .i64 (nxF (restF (priF P h) w h (w - 1 - (x0 + 1))) h (folF (priF P h) w h y0 x0)).2]) := fun H1 hI => ⟨by
  rw [hfs, ← enx]
  exact K_next (by omega) (by omega) (by rw [hcx]; exact hfol.row x0 (by omega)) hrange⟩
 refine sq ?_
 refine sq ?_
 refine rg fun KF hKF => ?_
 refine mI ?_
 refine fd ?_
 refine Fo.ld rfl rfl ?_
 refine bn rfl rfl rfl (by simp only [↓nrmL, nrmZ, qe, ↓reduceIte, qa, ze, zn, hc]; rfl) ?_
 refine nl hKF ?_
 refine ct rfl ?_
 refine sk ?_
 refine sq ?_
 refine Wp.block ?_
 dsimp only
 refine Fr.dregion0 rfl fun KF hKF => ?_
 simp only [↓nrmL, nrmZ, qe, ↓reduceIte, qa, ze, zn, hsub, hg0]
 repeat first | refine Er rfl (exec_ldN rfl rfl (by simp only [↓nrmL, nrmZ, qe, ↓reduceIte, qa, ze, zn, hsub, hg0]; rfl)) rfl ?_ | refine Fe.pure rfl rfl (by simp only [↓nrmL, nrmZ, qe, ↓reduceIte, qa, ze, zn, hsub, hg0]; rfl) ?_ | refine Fe.pure rfl rfl rfl ?_ | (refine Fe.pure rfl (exec_idxP (by (try simp only [↓nrmL, nrmZ, qe, ↓reduceIte, qa, ze, zn, hsub, hg0]); rfl) rfl ?_) (by simp only [↓nrmL, nrmZ, qe, ↓reduceIte, qa, ze, zn, hsub, hg0]; rfl) ?_; (focus omega)) | refine Er rfl (exec_ldI rfl (by omega)) (by simp only [↓nrmL, nrmZ, qe, ↓reduceIte, qa, ze, zn, hsub, hg0]; rfl) ?_ | (refine Fe.pcall (v' := ?_) rfl hn rfl (by simp only [↓nrmL, nrmZ, qe, ↓reduceIte, qa, ze, zn, hsub, hg0, List.map]; rfl) rfl ?hv fun _ _ => ar ?_; case hv => rfl)
 refine WpE.stR (r := H1.n) (j := 0 + (x0 + 1)) (l := fillI f (x0 + 1) w) rfl rfl rfl (by omega) (ar ?_)
 rw [show 0 + (x0 + 1) = x0 + 1 from Nat.zero_add _, fillI_set]
 rename AHeap => H7
 have hx7' : Ext H2 H7 := Ext0.ext
 refine WpE.nil (hKF _ _ ?_)
 simp only [hwx]
 refine rg fun KF hKF => ?_
 refine mI ?_
 refine bn rfl rfl rfl (by simp only [↓nrmL, nrmZ, qe, ↓reduceIte, qa, ze, zn, hwx]; rfl) ?_
 refine mI ?_
 refine nl hKF ?_
 dsimp only
 haveI : NeR H.n H1.n := ⟨by omega⟩
 exact ⟨x0 + 1 + 1, by omega, ⟨rfl, trivial⟩, by omega, by omega, inferInstance, inferInstance, (hx.trans hx7').set (by omega) _⟩
end Go.Am

namespace Go.Am
open Go
open Nat renaming reduceEqDiff → qe, reduceAdd → qa
open Int renaming reduceBEq → ze, reduceBNe → zn
attribute [local irreducible] Wp WpO WpX WpE
def forL (P : List Int) (q : Nat → Nat) (w h x y : Nat) : List Int := (List.range (w * h)).map fun i => if (i / h < x ∨ (i / h = x ∧ i % h < y)) ∧ q (i / h) ≤ i % h + 2 ∧ i % h ≤ q (i / h) + 2 then 1920 else P.getD i 0
theorem for_len (P : List Int) (q : Nat → Nat) (w h x y : Nat) : (forL P q w h x y).length = w * h := by simp [forL]
theorem for_at {P : List Int} {q : Nat → Nat} {w h x y i : Nat} (hi : i < w * h) : (forL P q w h x y).getD i 0 = if (i / h < x ∨ (i / h = x ∧ i % h < y)) ∧ q (i / h) ≤ i % h + 2 ∧ i % h ≤ q (i / h) + 2 then 1920 else P.getD i 0 := by
 rw [getD_at (by rw [for_len]; exact hi)]
 simp [forL]
theorem for_zero {P : List Int} {q : Nat → Nat} {w h : Nat} (hl : P.length = w * h) : forL P q w h 0 0 = P := by
 apply List.ext_getElem
 ·rw [for_len, hl]
 ·intro i h1 h2
  rw [for_len] at h1
  rw [← getD_at, for_at h1, if_neg (by have := Nat.zero_le (i / h); omega), getD_at h2]
theorem for_first {P : List Int} {q : Nat → Nat} {w h x : Nat} : forL P q w h x 0 = forL P q w h x (q x - 2) := by
 unfold forL
 apply List.map_congr_left
 intro i _
 have := Nat.zero_le (i / h)
 by_cases e : i / h = x
 ·subst e
  by_cases hc : (i / h < i / h ∨ (i / h = i / h ∧ i % h < 0)) ∧ q (i / h) ≤ i % h + 2 ∧ i % h ≤ q (i / h) + 2
  ·omega
  ·rw [if_neg hc, if_neg (by omega)]
 ·by_cases hc : (i / h < x ∨ (i / h = x ∧ i % h < 0)) ∧ q (i / h) ≤ i % h + 2 ∧ i % h ≤ q (i / h) + 2
  ·rw [if_pos hc, if_pos ⟨by omega, hc.2⟩]
  ·rw [if_neg hc, if_neg (fun k => hc ⟨by omega, k.2⟩)]
theorem for_col {P : List Int} {q : Nat → Nat} {w h x : Nat} : forL P q w h x (min (q x + 2) (h - 1) + 1) = forL P q w h (x + 1) 0 := by
 unfold forL
 apply List.map_congr_left
 intro i hi
 have hi := List.mem_range.1 hi
 have h0 : 0 < h := by
  rcases Nat.eq_zero_or_pos h with e | e
  ·subst e; omega
  ·exact e
 have hm := Nat.mod_lt i h0
 by_cases e : i / h = x
 ·subst e
  by_cases hc : (i / h < i / h ∨ (i / h = i / h ∧ i % h < min (q (i / h) + 2) (h - 1) + 1)) ∧ q (i / h) ≤ i % h + 2 ∧ i % h ≤ q (i / h) + 2
  ·rw [if_pos hc, if_pos ⟨by omega, hc.2⟩]
  ·rw [if_neg hc, if_neg (fun k => hc ⟨by omega, k.2⟩)]
 ·by_cases hc : (i / h < x ∨ (i / h = x ∧ i % h < min (q x + 2) (h - 1) + 1)) ∧ q (i / h) ≤ i % h + 2 ∧ i % h ≤ q (i / h) + 2
  ·rw [if_pos hc, if_pos ⟨by omega, hc.2⟩]
  ·rw [if_neg hc, if_neg (fun k => hc ⟨by omega, k.2⟩)]
theorem for_set {P : List Int} {q : Nat → Nat} {w h x y : Nat} (h1 : q x ≤ y + 2) (h2 : y ≤ q x + 2) (hy : y < h) : (forL P q w h x y).set (x * h + y) 1920 = forL P q w h x (y + 1) := by
 obtain ⟨e1, e2⟩ := cell_at (x := x) hy
 apply List.ext_getElem
 ·simp [forL]
 ·intro i h3 h4
  rw [List.getElem_set]
  simp only [forL, List.getElem_map, List.getElem_range]
  by_cases e : x * h + y = i
  ·subst e
   rw [if_pos rfl, e1, e2, if_pos ⟨Or.inr ⟨rfl, by omega⟩, h1, h2⟩]
  ·rw [if_neg e]
   have hne : ¬ (i / h = x ∧ i % h = y) := fun k => e (cell_inj (h := h) (by omega) (by omega))
   by_cases hc : (i / h < x ∨ (i / h = x ∧ i % h < y)) ∧ q (i / h) ≤ i % h + 2 ∧ i % h ≤ q (i / h) + 2
   ·rw [if_pos hc, if_pos ⟨by omega, hc.2⟩]
   ·rw [if_neg hc, if_neg (fun k => hc ⟨by omega, k.2⟩)]
def forA (P : List Int) (q : Nat → Nat) (w h : Nat) : List Int := forL P q w h w 0
theorem forA_at {P : List Int} {q : Nat → Nat} {w h x y : Nat} (hx : x < w) (hy : y < h) : priF (forA P q w h) h x y = if q x ≤ y + 2 ∧ y ≤ q x + 2 then 1920 else priF P h x y := by
 have h1 := col_lt (h := h) hx
 obtain ⟨e1, e2⟩ := cell_at (x := x) hy
 unfold priF forA
 rw [for_at (by omega), e1, e2]
 by_cases hc : q x ≤ y + 2 ∧ y ≤ q x + 2
 ·rw [if_pos ⟨Or.inl hx, hc⟩, if_pos hc]
 ·rw [if_neg (fun k => hc k.2), if_neg hc]
theorem forA_len (P : List Int) (q : Nat → Nat) (w h : Nat) : (forA P q w h).length = w * h := for_len _ _ _ _ _ _
theorem forA_pos {P : List Int} {q : Nat → Nat} {w h : Nat} (hP : PosL P) : PosL (forA P q w h) := ⟨fun i => by
 by_cases hi : i < w * h
 ·unfold forA
  rw [for_at hi]
  have := hP.it i
  split <;> omega
 ·rw [getD_out (by rw [forA_len]; omega)]; omega⟩
theorem K_forbid {w h rp rr rq : Nat} {H : AHeap} {P L : List Int} {q : Nat → Nat} {e : TypeId} (hw : w ≤ 640) (hh : h ≤ 640) (hw0 : 0 < w) (hh0 : 0 < h) (hPl : P.length = w * h) (kp : HasRow H rp (cellsI P) true (2 * 3)) (kq : HasRow H rq (cellsI L) true e) (hne : rq ≠ rp) (hL : L.length = w) (hq : ∀ x, x < w → L.getD x 0 = (q x : Int) ∧ q x < h) : Con ext prog 1 59 [grV w h rp rr, .slice rq 0 w (some w) 1] H fun _ H' => HasRow H' rp (cellsI (forA P q w h)) true (2 * 3) ∧ ExtP H H' (rrV w h rp) := by
 refine con_of (show prog 59 = some c59 from rfl) rfl rfl fun n hn => ?_
 have hm : w * h ≤ 640 * 640 := Nat.mul_le_mul hw hh
 have hrp := kp.lt
 have hrq := kq.lt
 haveI : RowNe (rrV w h rp) H.n := ⟨fun r _ _ _ _ e => by cases e; omega⟩
 haveI : RowNe (rrV w h rp) rq := ⟨fun r _ _ _ _ e => by cases e; omega⟩
 haveI : NeR H.n rp := ⟨by omega⟩
 haveI : NeR rq rp := ⟨hne⟩
 haveI hLi : IntsI H (.slice rq 0 w (some w) 1) L := row_ints kq hL
 haveI : SepS (.slice rq 0 w (some w) 1) (rrV w h rp) := ⟨fun r _ _ _ _ r' _ _ _ _ e e' => by cases e; cases e'; exact hne⟩
 haveI := kp
 repeat first | refine mI ?_ | refine mv ?_ | refine ln (by simp only [↓nrmL, nrmK, qe, ↓reduceIte]; rfl) ?_ | refine bA ?_ | refine nl hKF ?_ | refine sq ?_ | refine rg fun KF hKF => ?_ | refine Wp.block ?_ | dsimp only
 refine Wp.loopS [4, 5, 6, 9, 10, 11, 12, 13, 14, 15, 16, 17, 18, 19, 20, 21, 22, 23, 24, 25, 26, 27, 28, 29, 30, 31, 32, 33, 34, 35, 36] (fun x : Nat => [(9, .int .i64 (x : Int))]) (fun _ x H2 => x ≤ w ∧ HasRow H2 rp (cellsI (forL P q w h x 0)) true (2 * 3) ∧ HasRow H2 H.n [.int .i64 (w : Int), .int .i64 (h : Int), .slice rp 0 (w * h) (some (w * h)) 1, .slice rr 0 (w * h) (some (w * h)) 1] true (2 * 83) ∧ ExtP H H2 (rrV w h rp)) (fun x => w - x) 0 rfl (fun _ => rfl) ⟨rfl, trivial⟩ ⟨Nat.zero_le _, by rw [for_zero hPl]; exact inferInstance, inferInstance, (ExtP.refl _ _).pushN⟩ (by unfold fuel0 at hn; omega) ?_
 rintro x g H2 ⟨hx, hkp, hbx, hxp⟩
 haveI := hkp
 haveI := hbx
 haveI := hxp
 simp only [↓nrmL, nrmZ, qe, ↓reduceIte, qa, ze, zn]
 cases hc : decide ((x : Int) < (L.length : Int))
 ·have hxe : x = w := by have := of_decide_eq_false hc; omega
  subst hxe
  refine sq ?_
  refine rg fun KF hKF => ?_
  refine bn rfl rfl rfl (by simp only [hc]; rfl) ?_
  refine nl hKF ?_
  refine sq ?_
  refine cf rfl ?_
  refine xi ?_
  dsimp only
  refine rz trivial ?_
  exact ⟨hkp, hxp⟩
 have hxl : x < w := by have := of_decide_eq_true hc; omega
 have hxL : x < L.length := by omega
 obtain ⟨hqx, hqh⟩ := hq x hxl
 have gx : L[x] = (q x : Int) := by rw [← getD_at hxL]; exact hqx
 have h1 := col_lt (h := h) hxl
 have e1 : IntKind.i64.wrap ((q x : Int) - 2) = (q x : Int) - 2 := w64 (by omega)
 have e2 : (if (0 : Int) > (q x : Int) - 2 then (0 : Int) else (q x : Int) - 2) = ((q x - 2 : Nat) : Int) := by split <;> omega
 have e3 : IntKind.i64.wrap ((q x : Int) + 2) = ((q x + 2 : Nat) : Int) := by rw [w64 (by omega)]; omega
 have e4 : IntKind.i64.wrap ((h : Int) - 1) = ((h - 1 : Nat) : Int) := by rw [w64 (by omega)]; omega
 obtain ⟨hi, hhi⟩ : ∃ hi, min (q x + 2) (h - 1) = hi := ⟨_, rfl⟩
 have e5 : (if ((h - 1 : Nat) : Int) < ((q x + 2 : Nat) : Int) then ((h - 1 : Nat) : Int) else ((q x + 2 : Nat) : Int)) = (hi : Int) := by rw [← hhi]; split <;> omega
 have e6 := wa1 (a := x) (by omega)
 repeat first | refine mI ?_ | refine bn rfl rfl rfl (by simp only [hc, gx, e1, e2]; rfl) ?_ | (refine Fo.idx (by simp only [↓nrmL, nrmK, qe, ↓reduceIte]; rfl) rfl ?_ (by simp only [↓nrmL, nrmZ, qe, ↓reduceIte, qa, ze, zn, hc, gx, e1, e2]; rfl) ?_; (focus omega)) | (refine Fo.ldI rfl ?_ (by simp only [hc, gx, e1, e2]; rfl) ?_; (focus omega)) | refine Fo.now rfl rfl (by simp only [hc, gx, e1, e2]; rfl) ?_ | refine nl hKF ?_ | refine sq ?_ | refine rg fun KF hKF => ?_ | refine ct rfl ?_ | refine sk ?_ | refine Wp.block ?_ | dsimp only
 refine Wp.loopS [6, 17, 18, 19, 20, 21, 22, 23, 24, 25, 26, 27, 28, 29, 30, 31, 32, 33, 34, 35] (fun y : Nat => [(6, .int .i64 (y : Int))]) (fun _ y H4 => q x - 2 ≤ y ∧ y ≤ hi + 1 ∧ HasRow H4 rp (cellsI (forL P q w h x y)) true (2 * 3) ∧ HasRow H4 H.n [.int .i64 (w : Int), .int .i64 (h : Int), .slice rp 0 (w * h) (some (w * h)) 1, .slice rr 0 (w * h) (some (w * h)) 1] true (2 * 83) ∧ ExtP H H4 (rrV w h rp)) (fun y => hi + 1 - y) (q x - 2) rfl (fun _ => rfl) ⟨rfl, trivial⟩ ⟨Nat.le_refl _, by omega, by rw [← for_first]; exact hkp, hbx, hxp⟩ (by unfold fuel0 at hn; omega) ?_
 rintro y g2 H4 ⟨hy1, hy2, hkp4, hbx4, hxp4⟩
 haveI := hkp4
 haveI := hbx4
 haveI := hxp4
 simp only [↓nrmL, nrmZ, qe, ↓reduceIte, qa, ze, zn]
 cases hcy : decide ((y : Int) ≤ (hi : Int))
 ·have hye : y = hi + 1 := by have := of_decide_eq_false hcy; omega
  subst hye
  repeat first | refine mI ?_ | refine fd ?_ | refine Fo.ld rfl rfl ?_ | refine bn rfl rfl rfl (by simp only [e3, e4, Bool.false_eq_true, if_false, e5, hcy, e6]; rfl) ?_ | refine Fo.now rfl rfl (by simp only [e3, e4, Bool.false_eq_true, if_false, e5, hcy, e6]; rfl) ?_ | refine nl hKF ?_ | refine sq ?_ | refine rg fun KF hKF => ?_ | refine cf rfl ?_ | refine xi ?_ | dsimp only
  exact ⟨x + 1, by omega, ⟨rfl, trivial⟩, by omega, by rw [← for_col, hhi]; exact hkp4, hbx4, hxp4⟩
 have hyl : y ≤ hi := by have := of_decide_eq_true hcy; omega
 have hyh : y < h := by omega
 have e7 := wa1 (a := y) (by omega)
 have e8 : IntKind.i64.wrap ((x : Int) * (h : Int)) = ((x * h : Nat) : Int) := wm (by omega)
 have e9 : IntKind.i64.wrap (((x * h : Nat) : Int) + (y : Int)) = ((x * h + y : Nat) : Int) := wa (by omega)
 have hpl := for_len P q w h x y
 haveI hpi : IntsI H4 (.slice rp 0 (w * h) (some (w * h)) 1) (forL P q w h x y) := row_ints hkp4 hpl
 repeat first | refine mI ?_ | refine fd ?_ | refine Fo.ld rfl rfl ?_ | refine bn rfl rfl rfl (by simp only [e3, e4, Bool.false_eq_true, if_false, e5, hcy, e8, e9]; rfl) ?_ | (refine Fo.idx (by simp only [↓nrmL, nrmK, qe, ↓reduceIte]; rfl) rfl ?_ (by simp only [↓nrmL, nrmZ, qe, ↓reduceIte, qa, ze, zn, e3, e4, Bool.false_eq_true, if_false, e5, hcy, e8, e9]; rfl) ?_; (focus omega)) | refine Fo.now rfl rfl (by simp only [e3, e4, Bool.false_eq_true, if_false, e5, hcy, e8, e9]; rfl) ?_ | refine nl hKF ?_ | refine sq ?_ | refine rg fun KF hKF => ?_ | refine ct rfl ?_ | refine sk ?_ | refine Wp.block ?_
 refine WpO.do' (WpX.stR (r := rp) (j := 0 + (x * h + y)) (l := forL P q w h x y) rfl rfl (by omega) ?_)
 rw [show 0 + (x * h + y) = x * h + y from Nat.zero_add _, for_set (by omega) (by omega) hyh]
 simp only [↓nrmL, nrmZ, qe, ↓reduceIte, qa, ze, zn, e7]
 repeat first | refine mI ?_ | refine bn rfl rfl rfl (by simp only [e7]; rfl) ?_ | refine nl hKF ?_ | refine rg fun KF hKF => ?_ | dsimp only
 exact ⟨y + 1, by omega, ⟨rfl, trivial⟩, by omega, by omega, inferInstance, inferInstance, ⟨by have := hxp4.n; simp only [AHeap.set]; omega, fun s hs hp => by
  have : s ≠ rp := fun e => hp.ne _ _ _ _ _ rfl e.symm
  rw [set_get_ne this, hxp4.get s hs hp]⟩⟩
end Go.Am


namespace Go.Am
open Go
attribute [local irreducible] Wp WpO WpX WpE
def rc (l : List UInt8) (a j x : Nat) : Int := (((List.range x).filter fun u => l.getD (j * a + u) 0 == 1).length : Nat)
end Go.Am


namespace Go.Am
open Go
attribute [local irreducible] Wp WpO WpX WpE
theorem made_mkI {fr : AFrame} {e : TypeId} {x y : ROpd} {k k' : IntKind} {a : Nat} (hx : x.ev fr = .int k a) (hy : y.ev fr = .int k' a) (h0 : a ≤ 2 ^ 40) : (ROp.makeSlice e [.int .i64 0] 8 x y).made fr = some (cellsI (List.replicate a 0), e, fun r => .slice r 0 a (some a) 1) := by
 rw [← mk_ints]; exact made_mk hx hy (by omega)
end Go.Am


namespace Go.Am
open Go
attribute [local irreducible] Wp WpO WpX WpE
end Go.Am

namespace Go.Am
open Go
open Nat renaming reduceEqDiff → qe, reduceAdd → qa
open Int renaming reduceBEq → ze, reduceBNe → zn
attribute [local irreducible] Wp WpO WpX WpE
theorem u8_is1 {c : UInt8} : (((c.toNat : Int) == 1) : Bool) = decide (c = 1) := by
 by_cases h : c = 1
 ·subst h; rfl
 ·have h2 : ¬ ((c.toNat : Int) = 1) := fun e => h (UInt8.toNat_inj.1 (by have : (1 : UInt8).toNat = 1 := rfl; omega))
  simp [h, h2]
def prB (l : List UInt8) (i : Nat) : Int := if l.getD i 0 = 1 then 0 else 2
theorem K_price {w h x y : Nat} {p : AVal} {H : AHeap} {l : List UInt8} (hp : BytesI H p l) (hw : w ≤ 640) (hh : h ≤ 640) (hl : l.length = w * h) (hx : x < w) (hy : y < h) : Con ext prog 1 52 [.agg [.int .i64 (w : Int), .int .i64 (h : Int), p], .int .i64 (x : Int), .int .i64 (y : Int)] H fun v H' => v = .int .i64 (prB l (y * w + x)) ∧ Ext H H' := by
 refine con_of (show prog 52 = some c52 from rfl) rfl rfl fun n hn => ?_
 haveI := hp
 haveI := hp.one
 have hm : w * h ≤ 640 * 640 := Nat.mul_le_mul hw hh
 have h1 : y * w + x < w * h := idx_lt hx hy
 have hi : y * w + x < l.length := by omega
 have e1 : IntKind.i64.wrap ((y : Int) * (w : Int)) = ((y * w : Nat) : Int) := wm (by omega)
 have e2 : IntKind.i64.wrap (((y * w : Nat) : Int) + (x : Int)) = ((y * w + x : Nat) : Int) := wa (by omega)
 have hg : l.getD (y * w + x) 0 = l[y * w + x] := by simp [hi]
 by_cases hc : l[y * w + x] = 1
 ·have e3 : (((l[y * w + x].toNat : Int) == 1) : Bool) = true := by rw [u8_is1, hc]; rfl
  have e4 : prB l (y * w + x) = 0 := by unfold prB; rw [hg, if_pos hc]
  rw [e4]
  repeat first | refine mI ?_ | refine fd ?_ | refine Fo.ld rfl rfl ?_ | refine bn rfl rfl rfl (by simp only [↓nrmL, nrmZ, qe, ↓reduceIte, qa, ze, zn, e1, e2, e3]; rfl) ?_ | refine bA ?_ | (refine Fo.idx (by simp only [↓nrmL, nrmK, qe, ↓reduceIte]; rfl) rfl ?_ (by simp only [↓nrmL, nrmZ, qe, ↓reduceIte, qa, ze, zn, e1, e2, e3]; rfl) ?_; (focus omega)) | (refine Fo.ldB rfl ?_ rfl ?_; (focus omega)) | refine nl hKF ?_ | refine sq ?_ | refine rg fun KF hKF => ?_ | refine ct rfl ?_ | refine rt ?_ | dsimp only
  refine rz trivial ?_
  exact ⟨rfl, Ext0.ext⟩
 ·have e3 : (((l[y * w + x].toNat : Int) == 1) : Bool) = false := by rw [u8_is1]; exact decide_eq_false hc
  have e4 : prB l (y * w + x) = 2 := by unfold prB; rw [hg, if_neg hc]
  rw [e4]
  repeat first | refine mI ?_ | refine fd ?_ | refine Fo.ld rfl rfl ?_ | refine bn rfl rfl rfl (by simp only [↓nrmL, nrmZ, qe, ↓reduceIte, qa, ze, zn, e1, e2, e3]; rfl) ?_ | refine bA ?_ | (refine Fo.idx (by simp only [↓nrmL, nrmK, qe, ↓reduceIte]; rfl) rfl ?_ (by simp only [↓nrmL, nrmZ, qe, ↓reduceIte, qa, ze, zn, e1, e2, e3]; rfl) ?_; (focus omega)) | (refine Fo.ldB rfl ?_ rfl ?_; (focus omega)) | refine nl hKF ?_ | refine sq ?_ | refine rg fun KF hKF => ?_ | refine cf rfl ?_ | refine sk ?_ | refine rt ?_ | dsimp only
  refine rz trivial ?_
  exact ⟨rfl, Ext0.ext⟩
def surF (l : List UInt8) (w h i : Nat) : Int := prB l ((i % h) * w + i / h)
def surP (l : List UInt8) (w h x y : Nat) : List Int := (List.range (w * h)).map fun i => if i / h < x ∨ (i / h = x ∧ i % h < y) then surF l w h i else 0
def surL (l : List UInt8) (w h : Nat) : List Int := (List.range (w * h)).map (surF l w h)
theorem surP_len (l : List UInt8) (w h x y : Nat) : (surP l w h x y).length = w * h := by simp [surP]
theorem surL_len (l : List UInt8) (w h : Nat) : (surL l w h).length = w * h := by simp [surL]
theorem surP_zero (l : List UInt8) (w h : Nat) : surP l w h 0 0 = List.replicate (w * h) 0 := by
 apply List.ext_getElem
 ·simp [surP]
 ·intro i h1 h2
  simp only [surP, List.getElem_map, List.getElem_range, List.getElem_replicate]
  have := Nat.zero_le (i / h)
  rw [if_neg (by omega)]
theorem surP_col {l : List UInt8} {w h x : Nat} : surP l w h x h = surP l w h (x + 1) 0 := by
 unfold surP
 apply List.map_congr_left
 intro i hi
 have hi := List.mem_range.1 hi
 have h0 : 0 < h := by
  rcases Nat.eq_zero_or_pos h with e | e
  ·subst e; omega
  ·exact e
 have := Nat.mod_lt i h0
 by_cases hc : i / h < x ∨ (i / h = x ∧ i % h < h)
 ·rw [if_pos hc, if_pos (by omega)]
 ·rw [if_neg hc, if_neg (by omega)]
theorem surP_all {l : List UInt8} {w h : Nat} : surP l w h w 0 = surL l w h := by
 unfold surP surL
 apply List.map_congr_left
 intro i hi
 have hi := List.mem_range.1 hi
 have : i / h < w := Nat.div_lt_of_lt_mul (by rw [Nat.mul_comm]; exact hi)
 rw [if_pos (Or.inl this)]
theorem surP_set {l : List UInt8} {w h x y : Nat} (hy : y < h) : (surP l w h x y).set (x * h + y) (prB l (y * w + x)) = surP l w h x (y + 1) := by
 obtain ⟨e1, e2⟩ := cell_at (x := x) hy
 apply List.ext_getElem
 ·simp [surP]
 ·intro i h3 h4
  rw [List.getElem_set]
  simp only [surP, List.getElem_map, List.getElem_range]
  by_cases e : x * h + y = i
  ·subst e
   rw [if_pos rfl, if_pos (by omega)]
   unfold surF
   rw [e1, e2]
  ·rw [if_neg e]
   have hne : ¬ (i / h = x ∧ i % h = y) := fun k => e (cell_inj (h := h) (by omega) (by omega))
   by_cases hc : i / h < x ∨ (i / h = x ∧ i % h < y)
   ·rw [if_pos hc, if_pos (by omega)]
   ·rw [if_neg hc, if_neg (by omega)]
theorem surL_at {l : List UInt8} {w h x y : Nat} (hx : x < w) (hy : y < h) : priF (surL l w h) h x y = prB l (y * w + x) := by
 have h1 := col_lt (h := h) hx
 obtain ⟨e1, e2⟩ := cell_at (x := x) hy
 unfold priF
 rw [getD_at (by rw [surL_len]; omega)]
 simp only [surL, List.getElem_map, List.getElem_range, surF, e1, e2]
theorem surL_pos (l : List UInt8) (w h : Nat) : PosL (surL l w h) := ⟨fun i => by
 by_cases hi : i < (surL l w h).length
 ·rw [getD_at hi]
  simp only [surL, List.getElem_map, List.getElem_range, surF, prB]
  split <;> omega
 ·rw [getD_out (by omega)]; omega⟩
theorem K_survey {w h : Nat} {p : AVal} {H : AHeap} {l : List UInt8} (hp : BytesI H p l) (hw : w ≤ 640) (hh : h ≤ 640) (hl : l.length = w * h) : Con ext prog 4 56 [.agg [.int .i64 (w : Int), .int .i64 (h : Int), p]] H fun v H' => ∃ rp rr, v = grV w h rp rr ∧ GrI H' rp rr (w * h) (surL l w h) (List.replicate (w * h) 0) ∧ H.n ≤ rp ∧ H.n ≤ rr ∧ Ext H H' := by
 refine con_of (show prog 56 = some c56 from rfl) rfl rfl fun n hn => ?_
 haveI := hp
 haveI := hp.one
 have hm : w * h ≤ 640 * 640 := Nat.mul_le_mul hw hh
 refine sq ?_
 refine rg fun KF hKF => ?_
 refine bA ?_
 refine nw ?_
 refine nl hKF ?_
 refine sq ?_
 refine Fr.dregionE [.row (cellsI (List.replicate l.length 0)) true (2 * 3), .row (cellsI (List.replicate l.length 0)) true (2 * 3), .row [.int .i64 0, .int .i64 0, .nslice, .nslice] true (2 * 83)] ?_ fun KF hKF => ?_
 ·skip
  repeat first | refine oracle_pre rfl rfl rfl (exec_ld rfl rfl) ?_; (try simp only [↓nrmL, nrmZ, qe, ↓reduceIte, qa, ze, zn]) | refine oracle_pre rfl rfl rfl rfl ?_; (try simp only [↓nrmL, nrmZ, qe, ↓reduceIte, qa, ze, zn])
  refine oracle_pre rfl rfl rfl (exec_lenP (p := p) rfl) ?_
  refine oracle_made rfl rfl (made_mkI (a := l.length) rfl rfl (by omega)) ?_
  refine oracle_pre rfl rfl rfl rfl ?_; (try simp only [↓nrmL, nrmZ, qe, ↓reduceIte, qa, ze, zn])
  refine oracle_pre rfl rfl rfl (exec_ld rfl rfl) ?_; (try simp only [↓nrmL, nrmZ, qe, ↓reduceIte, qa, ze, zn])
  refine oracle_pre rfl rfl rfl (exec_lenP (p := p) rfl) ?_
  refine oracle_made rfl rfl (made_mkI (a := l.length) rfl rfl (by omega)) ?_
  refine oracle_pre rfl rfl rfl rfl ?_; (try simp only [↓nrmL, nrmZ, qe, ↓reduceIte, qa, ze, zn])
  refine oracle_made rfl rfl rfl ?_; (try simp only [↓nrmL, nrmZ, qe, ↓reduceIte, qa, ze, zn])
  exact oracle_none _ _ _ _ rfl
 simp only [pushAll]
 repeat first | refine Er rfl (exec_ld rfl rfl) rfl ?_ | refine Fe.pure rfl (exec_lenP (by (try simp only [↓nrmL, nrmZ, qe, ↓reduceIte, qa, ze, zn]); rfl)) rfl ?_ | refine Fe.pure rfl rfl (by simp only [↓nrmL, nrmZ, qe, ↓reduceIte, qa, ze, zn]; rfl) ?_
 refine Fe.made rfl (made_mkI (a := l.length) rfl rfl (by omega)) ghost_of trivial rfl ?_
 change WpE _ _ (AHeap.n (AHeap.push _ (.row (cellsI (List.replicate l.length 0)) true (2 * 3)))) _ _ _ _ _ _ _
 refine Fe.pure rfl rfl (by simp only [↓nrmL, nrmZ, qe, ↓reduceIte, qa, ze, zn]; rfl) ?_
 refine Er rfl (exec_ld rfl rfl) rfl ?_
 refine Fe.pure rfl (exec_lenP (by (try simp only [↓nrmL, nrmZ, qe, ↓reduceIte, qa, ze, zn]); rfl)) rfl ?_
 refine Fe.made rfl (made_mkI (a := l.length) rfl rfl (by omega)) ghost_of trivial rfl ?_
 change WpE _ _ (AHeap.n (AHeap.push _ (.row (cellsI (List.replicate l.length 0)) true (2 * 3)))) _ _ _ _ _ _ _
 refine Fe.pure rfl rfl (by simp only [↓nrmL, nrmZ, qe, ↓reduceIte, qa, ze, zn]; rfl) ?_
 refine Em rfl rfl ghost_of rfl ?_
 refine Ee rfl (xs rfl (by (try simp only [↓nrmL, nrmZ, qe, ↓reduceIte, qa, ze, zn]); rfl) rfl rfl rfl (by (try simp only [↓nrmL, nrmZ, qe, ↓reduceIte, qa, ze, zn]); rfl)) ?_
 refine WpE.nil (hKF _ _ ?_)
 refine sq ?_
 refine sq ?_
 refine rg fun KF hKF => ?_
 refine fd ?_
 refine Fo.ld rfl rfl ?_
 refine mI ?_
 refine nl hKF ?_
 refine Wp.block ?_
 dsimp only
 refine Wp.loopS [4, 5, 21, 22, 23, 24, 25, 26, 27, 28, 29, 30, 31, 32, 33, 34, 35, 36, 37, 38, 39, 40, 41, 42, 43] (fun x : Nat => [(21, .int .i64 (x : Int))]) (fun _ x H2 => x ≤ w ∧ HasRow H2 ((H.push (.row [.int .i64 (w : Int), .int .i64 (h : Int), p] true (2 * 24))).push (.row [.int .i64 0, .int .i64 0, .nslice, .nslice] true (2 * 83))).n (cellsI (surP l w h x 0)) true (2 * 3) ∧ HasRow H2 H.n [.int .i64 (w : Int), .int .i64 (h : Int), p] true (2 * 24) ∧ HasRow H2 (H.push (.row [.int .i64 (w : Int), .int .i64 (h : Int), p] true (2 * 24))).n [.int .i64 0, .int .i64 0, .nslice, .nslice] true (2 * 83) ∧ HasRow H2 ((((H.push (.row [.int .i64 (w : Int), .int .i64 (h : Int), p] true (2 * 24))).push (.row [.int .i64 0, .int .i64 0, .nslice, .nslice] true (2 * 83))).push (.row (cellsI (List.replicate l.length 0)) true (2 * 3))).push (.row (cellsI (List.replicate l.length 0)) true (2 * 3))).n [.int .i64 (w : Int), .int .i64 (h : Int), .slice ((H.push (.row [.int .i64 (w : Int), .int .i64 (h : Int), p] true (2 * 24))).push (.row [.int .i64 0, .int .i64 0, .nslice, .nslice] true (2 * 83))).n 0 l.length (some l.length) 1, .slice (((H.push (.row [.int .i64 (w : Int), .int .i64 (h : Int), p] true (2 * 24))).push (.row [.int .i64 0, .int .i64 0, .nslice, .nslice] true (2 * 83))).push (.row (cellsI (List.replicate l.length 0)) true (2 * 3))).n 0 l.length (some l.length) 1] true (2 * 83) ∧ HasRow H2 (((H.push (.row [.int .i64 (w : Int), .int .i64 (h : Int), p] true (2 * 24))).push (.row [.int .i64 0, .int .i64 0, .nslice, .nslice] true (2 * 83))).push (.row (cellsI (List.replicate l.length 0)) true (2 * 3))).n (cellsI (List.replicate l.length 0)) true (2 * 3) ∧ Ext H H2) (fun x => w - x) 0 rfl (fun _ => rfl) ⟨rfl, trivial⟩ ⟨Nat.zero_le _, by rw [surP_zero, ← hl]; exact inferInstance, inferInstance, inferInstance, inferInstance, inferInstance, Ext0.ext⟩ (by unfold fuel0 at hn; omega) ?_
 rintro x g H2 ⟨hx, k1, k2, k3, k4, k5, hxx⟩
 haveI := k1
 haveI := k2
 haveI := k3
 haveI := k4
 haveI := k5
 haveI : ExtI H H2 := ⟨hxx⟩
 simp only [↓nrmL, nrmZ, qe, ↓reduceIte, qa, ze, zn]
 cases hc : decide ((x : Int) < (w : Int))
 ·have hxe : x = w := by have := of_decide_eq_false hc; omega
  subst hxe
  have k6 : HasRow H2 ((H.push (.row [.int .i64 (x : Int), .int .i64 (h : Int), p] true (2 * 24))).push (.row [.int .i64 0, .int .i64 0, .nslice, .nslice] true (2 * 83))).n (cellsI (surL l x h)) true (2 * 3) := by rw [← surP_all]; exact k1
  repeat first | refine Fo.ldN rfl rfl (by simp only [↓nrmL, nrmZ, qe, ↓reduceIte, qa, ze, zn, hc]; rfl) ?_ | refine bn rfl rfl rfl (by simp only [↓nrmL, nrmZ, qe, ↓reduceIte, qa, ze, zn, hc]; rfl) ?_ | refine so rfl (rfl : _ = AVal.agg _) rfl rfl rfl (by simp only [↓nrmL, nrmZ, qe, ↓reduceIte, qa, ze, zn, hc]; rfl) ?_ | refine nl hKF ?_ | refine sq ?_ | refine rg fun KF hKF => ?_ | refine cf rfl ?_ | refine rt ?_ | refine xi ?_ | dsimp only
  refine rz trivial ?_
  refine ⟨((H.push (.row [.int .i64 (x : Int), .int .i64 (h : Int), p] true (2 * 24))).push (.row [.int .i64 0, .int .i64 0, .nslice, .nslice] true (2 * 83))).n, (((H.push (.row [.int .i64 (x : Int), .int .i64 (h : Int), p] true (2 * 24))).push (.row [.int .i64 0, .int .i64 0, .nslice, .nslice] true (2 * 83))).push (.row (cellsI (List.replicate l.length 0)) true (2 * 3))).n, by unfold grV; rw [← hl]; rfl, ⟨?_, ?_, surL_len _ _ _, List.length_replicate, by simp only [AHeap.push]; omega⟩, by simp only [AHeap.push]; omega, by simp only [AHeap.push]; omega, hxx.set (by simp only [AHeap.push]; omega) _⟩
  ·haveI : NeR ((H.push (.row [.int .i64 (x : Int), .int .i64 (h : Int), p] true (2 * 24))).push (.row [.int .i64 0, .int .i64 0, .nslice, .nslice] true (2 * 83))).n (H.push (.row [.int .i64 (x : Int), .int .i64 (h : Int), p] true (2 * 24))).n := ⟨by simp only [AHeap.push]; omega⟩
   haveI := k6
   exact ⟨by have := k6.lt; exact this, by rw [set_get_ne (by simp only [AHeap.push]; omega)]; exact k6.get⟩
  ·rw [← hl]
   exact ⟨by have := k5.lt; exact this, by rw [set_get_ne (by simp only [AHeap.push]; omega)]; exact k5.get⟩
 have hxl : x < w := by have := of_decide_eq_true hc; omega
 have h1 := col_lt (h := h) hxl
 have e6 := wa1 (a := x) (by omega)
 have hpr : ∀ y, y < h → ∀ (H : AHeap) [BytesI H p l], PureCon ext prog 52 [.agg [.int .i64 (w : Int), .int .i64 (h : Int), p], .int .i64 (x : Int), .int .i64 (y : Int)] H 1 (.int .i64 (prB l (y * w + x))) := fun y hy H hb => ⟨K_price hb hw hh hl hxl hy⟩
 repeat first | refine mI ?_ | refine fd ?_ | refine Fo.ld rfl rfl ?_ | refine bn rfl rfl rfl (by simp only [↓nrmL, nrmZ, qe, ↓reduceIte, qa, ze, zn, hc]; rfl) ?_ | refine nl hKF ?_ | refine sq ?_ | refine rg fun KF hKF => ?_ | refine ct rfl ?_ | refine sk ?_ | refine Wp.block ?_ | dsimp only
 refine Wp.loopS [5, 26, 27, 28, 29, 30, 31, 32, 33, 34, 35, 36, 37, 38, 39, 40, 41, 42] (fun y : Nat => [(26, .int .i64 (y : Int))]) (fun _ y H5 => y ≤ h ∧ HasRow H5 ((H.push (.row [.int .i64 (w : Int), .int .i64 (h : Int), p] true (2 * 24))).push (.row [.int .i64 0, .int .i64 0, .nslice, .nslice] true (2 * 83))).n (cellsI (surP l w h x y)) true (2 * 3) ∧ HasRow H5 H.n [.int .i64 (w : Int), .int .i64 (h : Int), p] true (2 * 24) ∧ HasRow H5 (H.push (.row [.int .i64 (w : Int), .int .i64 (h : Int), p] true (2 * 24))).n [.int .i64 0, .int .i64 0, .nslice, .nslice] true (2 * 83) ∧ HasRow H5 ((((H.push (.row [.int .i64 (w : Int), .int .i64 (h : Int), p] true (2 * 24))).push (.row [.int .i64 0, .int .i64 0, .nslice, .nslice] true (2 * 83))).push (.row (cellsI (List.replicate l.length 0)) true (2 * 3))).push (.row (cellsI (List.replicate l.length 0)) true (2 * 3))).n [.int .i64 (w : Int), .int .i64 (h : Int), .slice ((H.push (.row [.int .i64 (w : Int), .int .i64 (h : Int), p] true (2 * 24))).push (.row [.int .i64 0, .int .i64 0, .nslice, .nslice] true (2 * 83))).n 0 l.length (some l.length) 1, .slice (((H.push (.row [.int .i64 (w : Int), .int .i64 (h : Int), p] true (2 * 24))).push (.row [.int .i64 0, .int .i64 0, .nslice, .nslice] true (2 * 83))).push (.row (cellsI (List.replicate l.length 0)) true (2 * 3))).n 0 l.length (some l.length) 1] true (2 * 83) ∧ HasRow H5 (((H.push (.row [.int .i64 (w : Int), .int .i64 (h : Int), p] true (2 * 24))).push (.row [.int .i64 0, .int .i64 0, .nslice, .nslice] true (2 * 83))).push (.row (cellsI (List.replicate l.length 0)) true (2 * 3))).n (cellsI (List.replicate l.length 0)) true (2 * 3) ∧ Ext H H5) (fun y => h - y) 0 rfl (fun _ => rfl) ⟨rfl, trivial⟩ ⟨Nat.zero_le _, k1, k2, k3, k4, k5, hxx⟩ (by unfold fuel0 at hn; omega) ?_
 rintro y g2 H5 ⟨hy, j1, j2, j3, j4, j5, hxy⟩
 haveI := j1
 haveI := j2
 haveI := j3
 haveI := j4
 haveI := j5
 haveI : ExtI H H5 := ⟨hxy⟩
 simp only [↓nrmL, nrmZ, qe, ↓reduceIte, qa, ze, zn]
 cases hcy : decide ((y : Int) < (h : Int))
 ·have hye : y = h := by have := of_decide_eq_false hcy; omega
  subst hye
  repeat first | refine mI ?_ | refine bn rfl rfl rfl (by simp only [↓nrmL, nrmZ, qe, ↓reduceIte, qa, ze, zn, hcy, e6]; rfl) ?_ | refine nl hKF ?_ | refine sq ?_ | refine rg fun KF hKF => ?_ | refine cf rfl ?_ | refine xi ?_ | dsimp only
  exact ⟨x + 1, by omega, ⟨rfl, trivial⟩, by omega, by rw [← surP_col]; exact j1, j2, j3, j4, j5, hxy⟩
 have hyl : y < h := by have := of_decide_eq_true hcy; omega
 have e7 := wa1 (a := y) (by omega)
 have e8 : IntKind.i64.wrap ((x : Int) * (h : Int)) = ((x * h : Nat) : Int) := wm (by omega)
 have e9 : IntKind.i64.wrap (((x * h : Nat) : Int) + (y : Int)) = ((x * h + y : Nat) : Int) := wa (by omega)
 haveI := hpr y hyl
 have hpl := surP_len l w h x y
 have hll : (surP l w h x y).length = l.length := by omega
 haveI hpi : IntsI H5 (.slice ((H.push (.row [.int .i64 (w : Int), .int .i64 (h : Int), p] true (2 * 24))).push (.row [.int .i64 0, .int .i64 0, .nslice, .nslice] true (2 * 83))).n 0 l.length (some l.length) 1) (surP l w h x y) := row_ints j1 hll
 repeat first | refine mI ?_ | refine bn rfl rfl rfl (by simp only [↓nrmL, nrmZ, qe, ↓reduceIte, qa, ze, zn, hcy]; rfl) ?_ | refine nl hKF ?_ | refine sq ?_ | refine rg fun KF hKF => ?_ | refine ct rfl ?_ | refine sk ?_ | refine Wp.block ?_ | dsimp only
 refine Fr.dregion0 rfl fun KF hKF => ?_
 repeat first | refine Er rfl (exec_ld rfl rfl) rfl ?_ | refine Er rfl (exec_ldN rfl rfl (by simp only [↓nrmL, nrmZ, qe, ↓reduceIte, qa, ze, zn, e8, e9]; rfl)) rfl ?_ | refine Fe.pure rfl rfl (by simp only [↓nrmL, nrmZ, qe, ↓reduceIte, qa, ze, zn, e8, e9]; rfl) ?_ | (refine Fe.pure rfl (exec_idxP (by (try simp only [↓nrmL, nrmZ, qe, ↓reduceIte, qa, ze, zn, e8, e9]); rfl) rfl ?_) (by simp only [↓nrmL, nrmZ, qe, ↓reduceIte, qa, ze, zn, e8, e9]; rfl) ?_; (focus omega)) | (refine Fe.pcall (v' := ?_) rfl hn rfl (by simp only [↓nrmL, nrmZ, qe, ↓reduceIte, qa, ze, zn, e8, e9, List.map]; rfl) rfl ?hv fun _ _ => ar ?_; case hv => rfl)
 refine WpE.stR (r := ((H.push (.row [.int .i64 (w : Int), .int .i64 (h : Int), p] true (2 * 24))).push (.row [.int .i64 0, .int .i64 0, .nslice, .nslice] true (2 * 83))).n) (j := 0 + (x * h + y)) (l := surP l w h x y) rfl rfl rfl (by omega) (ar ?_)
 rw [show 0 + (x * h + y) = x * h + y from Nat.zero_add _, surP_set hyl]
 rename AHeap => H7
 have hx7 : Ext H H7 := Ext0.ext
 refine WpE.nil (hKF _ _ ?_)
 simp only [e7]
 refine rg fun KF hKF => ?_
 refine bn rfl rfl rfl (by simp only [↓nrmL, nrmZ, qe, ↓reduceIte, qa, ze, zn, e7]; rfl) ?_
 refine mI ?_
 refine nl hKF ?_
 dsimp only
 haveI : NeR H.n ((H.push (.row [.int .i64 (w : Int), .int .i64 (h : Int), p] true (2 * 24))).push (.row [.int .i64 0, .int .i64 0, .nslice, .nslice] true (2 * 83))).n := ⟨by simp only [AHeap.push]; omega⟩
 haveI : NeR (H.push (.row [.int .i64 (w : Int), .int .i64 (h : Int), p] true (2 * 24))).n ((H.push (.row [.int .i64 (w : Int), .int .i64 (h : Int), p] true (2 * 24))).push (.row [.int .i64 0, .int .i64 0, .nslice, .nslice] true (2 * 83))).n := ⟨by simp only [AHeap.push]; omega⟩
 haveI : NeR (((H.push (.row [.int .i64 (w : Int), .int .i64 (h : Int), p] true (2 * 24))).push (.row [.int .i64 0, .int .i64 0, .nslice, .nslice] true (2 * 83))).push (.row (cellsI (List.replicate l.length 0)) true (2 * 3))).n ((H.push (.row [.int .i64 (w : Int), .int .i64 (h : Int), p] true (2 * 24))).push (.row [.int .i64 0, .int .i64 0, .nslice, .nslice] true (2 * 83))).n := ⟨by simp only [AHeap.push]; omega⟩
 haveI : NeR ((((H.push (.row [.int .i64 (w : Int), .int .i64 (h : Int), p] true (2 * 24))).push (.row [.int .i64 0, .int .i64 0, .nslice, .nslice] true (2 * 83))).push (.row (cellsI (List.replicate l.length 0)) true (2 * 3))).push (.row (cellsI (List.replicate l.length 0)) true (2 * 3))).n ((H.push (.row [.int .i64 (w : Int), .int .i64 (h : Int), p] true (2 * 24))).push (.row [.int .i64 0, .int .i64 0, .nslice, .nslice] true (2 * 83))).n := ⟨by simp only [AHeap.push]; omega⟩
 exact ⟨y + 1, by omega, ⟨rfl, trivial⟩, by omega, inferInstance, inferInstance, inferInstance, inferInstance, inferInstance, hx7.set (by simp only [AHeap.push]; omega) _⟩
end Go.Am

namespace Go.Am
open Go
def leastP (P : List Int) (w h : Nat) : Int := mnL (colL (restL P w h) h 0) (h - 1)
theorem least_le {P : List Int} {w h y : Nat} (hw : 0 < w) (hy : y < h) : leastP P w h ≤ restF (priF P h) w h (w - 1) y := by
  unfold leastP
  have := mn_le (l := colL (restL P w h) h 0) (k := h - 1) (i := y) (by omega)
  rw [colL_at (rest_len P w h) hw hy, rest_at hw hy, Nat.sub_zero] at this
  exact this
theorem least_in {P : List Int} {w h : Nat} (hw : 0 < w) (hh : 0 < h) : ∃ y, y < h ∧ restF (priF P h) w h (w - 1) y = leastP P w h := by
  obtain ⟨y, h1, h2⟩ := mn_in (l := colL (restL P w h) h 0) (h - 1)
  refine ⟨y, by omega, ?_⟩
  unfold leastP
  rw [h2, colL_at (rest_len P w h) hw (by omega), rest_at hw (by omega), Nat.sub_zero]
inductive TrR (l : List UInt8) (w h : Nat) : List (Nat → Nat) → List Int → Prop
  | nil : TrR l w h [] (surL l w h)
  | snoc {qs : List (Nat → Nat)} {P : List Int} {y0 : Nat} : TrR l w h qs P → qs.length < 60 → 8 * leastP P w h ≤ (w : Int) → y0 < h → restF (priF P h) w h (w - 1) y0 = leastP P w h → (∀ j, j < y0 → restF (priF P h) w h (w - 1) j ≠ leastP P w h) → TrR l w h (qs ++ [folF (priF P h) w h y0]) (forA P (folF (priF P h) w h y0) w h)
def near (q : Nat → Nat) (x y : Nat) : Prop := q x ≤ y + 2 ∧ y ≤ q x + 2
structure TrI (l : List UInt8) (w h : Nat) (qs : List (Nat → Nat)) (P : List Int) : Prop where
  pos : PosL P
  len : P.length = w * h
  many : qs.length ≤ 60
  path : ∀ i (hi : i < qs.length), PathF w h qs[i]
  forb : ∀ x y, x < w → y < h → (∃ i, ∃ (hi : i < qs.length), near qs[i] x y) → priF P h x y = 1920
  free : ∀ x y, x < w → y < h → (∀ i (hi : i < qs.length), ¬ near qs[i] x y) → priF P h x y = prB l (y * w + x)
  apart : ∀ i j (hi : i < qs.length) (hj : j < qs.length) x, x < w → i < j → ¬ near qs[i] x (qs[j] x)
  cheap : ∀ i (hi : i < qs.length), ∃ m : Int, 8 * m ≤ (w : Int) ∧ costF (fun x y => prB l (y * w + x)) w qs[i] (w - 1) = m
theorem cost_congr {P P' : Nat → Nat → Int} {w : Nat} {q : Nat → Nat} (h : ∀ x, x < w → P x (q x) = P' x (q x)) : ∀ d, d < w → costF P w q d = costF P' w q d
  | 0, hd => by simp only [costF]; exact h _ (by omega)
  | d + 1, hd => by
    simp only [costF]
    rw [h _ (by omega), cost_congr h d (by omega)]
theorem chg_pos (a b : Nat) : 0 ≤ chg a b := by unfold chg; split <;> omega
theorem cost_pos {P : Nat → Nat → Int} {w : Nat} {q : Nat → Nat} (hP : ∀ x y, 0 ≤ P x y) : ∀ d, 0 ≤ costF P w q d
  | 0 => hP _ _
  | d + 1 => by
    have h1 := hP (w - 1 - (d + 1)) (q (w - 1 - (d + 1)))
    have h2 := cost_pos (w := w) (q := q) hP d
    have h3 := chg_pos (q (w - 1 - (d + 1))) (q (w - 1 - d))
    simp only [costF]; omega
theorem cost_ge {P : Nat → Nat → Int} {w : Nat} {q : Nat → Nat} (hP : ∀ x y, 0 ≤ P x y) : ∀ d, d < w → ∀ e, e ≤ d → P (w - 1 - e) (q (w - 1 - e)) ≤ costF P w q d
  | 0, _, e, he => by
    obtain rfl : e = 0 := by omega
    exact Int.le_refl _
  | d + 1, hd, e, he => by
    have h1 := hP (w - 1 - (d + 1)) (q (w - 1 - (d + 1)))
    have h2 := cost_pos (w := w) (q := q) hP d
    have h3 := chg_pos (q (w - 1 - (d + 1))) (q (w - 1 - d))
    by_cases e1 : e = d + 1
    · subst e1; simp only [costF]; omega
    · have := cost_ge (w := w) (q := q) hP d (by omega) e (by omega)
      simp only [costF]; omega
theorem tr_inv {l : List UInt8} {w h : Nat} {qs : List (Nat → Nat)} {P : List Int} (hw : 0 < w) (hw640 : w ≤ 640) (hh : 0 < h) (hT : TrR l w h qs P) : TrI l w h qs P := by
  induction hT with
  | nil =>
    exact ⟨surL_pos l w h, surL_len l w h, by simp, fun i hi => (by cases hi), fun x y _ _ ⟨i, hi, _⟩ => (by cases hi), fun x y hx hy _ => surL_at hx hy, fun i j hi => (by cases hi), fun i hi => (by cases hi)⟩
  | @snoc qs P y0 _ hl hm hy hr hf ih =>
    have hP := ih.pos.pos h
    have hlt : restF (priF P h) w h (w - 1) y0 < 1920 := by rw [hr]; omega
    have hpath := fol_path hP hh hy hlt
    have hcost := fol_cost hP hh hy hlt (w - 1) (by omega)
    rw [Nat.sub_self] at hcost
    have hc0 : folF (priF P h) w h y0 0 = y0 := rfl
    rw [hc0, hr] at hcost
    obtain ⟨q, hq⟩ : ∃ q, folF (priF P h) w h y0 = q := ⟨_, rfl⟩
    rw [hq] at hpath hcost ⊢
    have hnn : ∀ x y, 0 ≤ priF P h x y := fun x y => (hP.it x y).1
    -- the path avoids what is forbidden
    have hfree : ∀ x, x < w → ∀ i (hi : i < qs.length), ¬ near qs[i] x (q x) := fun x hx i hi hne => by
      have h1 := ih.forb x (q x) hx (hpath.row x hx) ⟨i, hi, hne⟩
      have h2 := cost_ge (w := w) (q := q) hnn (w - 1) (by omega) (w - 1 - x) (by omega)
      rw [show w - 1 - (w - 1 - x) = x by omega, h1, hcost] at h2
      omega
    have hget : ∀ i (hi : i < (qs ++ [q]).length) (h1 : i < qs.length), (qs ++ [q])[i] = qs[i]'h1 := fun i hi h1 => List.getElem_append_left h1
    have hlast : ∀ i (hi : i < (qs ++ [q]).length), ¬ i < qs.length → (qs ++ [q])[i] = q ∧ i = qs.length := fun i hi h1 => by
      have : i = qs.length := by simp at hi; omega
      subst this
      exact ⟨by simp, rfl⟩
    refine ⟨forA_pos ih.pos, forA_len _ _ _ _, by simp; omega, fun i hi => ?_, fun x y hx hy ⟨i, hi, hne⟩ => ?_, fun x y hx hy hall => ?_, fun i j hi hj x hx hij => ?_, fun i hi => ?_⟩
    · by_cases h1 : i < qs.length
      · rw [hget i hi h1]; exact ih.path i h1
      · rw [(hlast i hi h1).1]; exact hpath
    · rw [forA_at hx hy]
      by_cases h1 : i < qs.length
      · rw [hget i hi h1] at hne
        by_cases hc : q x ≤ y + 2 ∧ y ≤ q x + 2
        · rw [if_pos hc]
        · rw [if_neg hc]; exact ih.forb x y hx hy ⟨i, h1, hne⟩
      · rw [(hlast i hi h1).1] at hne
        exact if_pos hne
    · have h1 := hall qs.length (by simp)
      rw [(hlast qs.length (by simp) (by omega)).1] at h1
      rw [forA_at hx hy, if_neg (show ¬ (q x ≤ y + 2 ∧ y ≤ q x + 2) from h1)]
      refine ih.free x y hx hy fun i hi => ?_
      have h2 := hall i (by simp; omega)
      rwa [hget i (by simp; omega) hi] at h2
    · by_cases h1 : j < qs.length
      · rw [hget j hj h1, hget i hi (by omega)]
        exact ih.apart i j (by omega) h1 x hx hij
      · have h2 := hlast j hj h1
        rw [h2.1, hget i hi (by omega)]
        exact hfree x hx i (by omega)
    · by_cases h1 : i < qs.length
      · rw [hget i hi h1]; exact ih.cheap i h1
      · rw [(hlast i hi h1).1]
        refine ⟨leastP P w h, hm, ?_⟩
        rw [← hcost]
        exact cost_congr (fun x hx => (ih.free x (q x) hx (hpath.row x hx) (hfree x hx)).symm) (w - 1) (by omega)
theorem pigeon : ∀ (n k : Nat) (f : Nat → Nat), (∀ i, i < k → f i < n) → (∀ i j, i < j → j < k → f i ≠ f j) → k ≤ n
  | 0, k, f, h1, h2 => by
    rcases Nat.eq_zero_or_pos k with e | e
    · omega
    · have := h1 0 e; omega
  | n + 1, k, f, h1, h2 => by
    by_cases hk : k = 0
    · omega
    by_cases hc : ∃ i, i < k ∧ f i = n
    · obtain ⟨i, hi, hfi⟩ := hc
      have := pigeon n (k - 1) (fun j => if j = i then f (k - 1) else f j) (fun j hj => by
        by_cases e : j = i
        · rw [if_pos e]
          have a1 := h1 (k - 1) (by omega)
          have a2 := h2 i (k - 1) (by omega) (by omega)
          omega
        · rw [if_neg e]
          have a1 := h1 j (by omega)
          by_cases e2 : j < i
          · have := h2 j i e2 hi; omega
          · have := h2 i j (by omega) (by omega); omega) (fun a b hab hb => by
        by_cases e1 : a = i
        · rw [if_pos e1, if_neg (by omega)]
          exact (h2 b (k - 1) (by omega) (by omega)).symm
        · rw [if_neg e1]
          by_cases e2 : b = i
          · rw [if_pos e2]
            exact h2 a (k - 1) (by omega) (by omega)
          · rw [if_neg e2]
            exact h2 a b hab (by omega))
      omega
    · have := pigeon n k f (fun i hi => by
        have a1 := h1 i hi
        have a2 : f i ≠ n := fun e => hc ⟨i, hi, e⟩
        omega) h2
      omega
theorem TrI.few {l : List UInt8} {w h : Nat} {qs : List (Nat → Nat)} {P : List Int} (h1 : TrI l w h qs P) (hw : 0 < w) : qs.length ≤ (h + 2) / 3 := by
  refine pigeon ((h + 2) / 3) qs.length (fun i => if hi : i < qs.length then qs[i] 0 / 3 else 0) (fun i hi => ?_) (fun i j hij hj => ?_)
  · rw [dif_pos hi]
    have := (h1.path i hi).row 0 hw
    omega
  · rw [dif_pos hj, dif_pos (by omega : i < qs.length)]
    have := h1.apart i j (by omega) hj 0 hw hij
    unfold near at this
    omega
end Go.Am

namespace Go.Am
open Go
section
variable {call : ACall} {n ref : Nat} {its : List DItem} {H0 H : AHeap} {E : List (Nat × AHeap)} {Rd : List (Nat × (AHeap → Bool))} {fr : AFrame} {K : AFrame → AHeap → Prop} {b : Nat} {pre : Bool} {g : Option (Nat × Bool)}
theorem WpE.stC {d : Option Nat} {a x : ROpd} {p v : AVal} {j m : Nat} {cs : List AVal} (hw : ROper.wanted fr ⟨d, .store 1 a x, g⟩ = true) (ha : a.ev fr = .ptr (rowOf p) (offOf p + j)) (hx : x.ev fr = v) [ho : OneV v] [s : SliceAt H p 1 m cs] [w : WrS H p] (hj : j < cs.length)
    (h : ∀ H1, SliceAt H1 p 1 m (cs.set j v) → WrS H1 p → ExtP H H1 p → AllR b H1 Rd ∧ WpE call (n + 1) ref its H0 ((n, H) :: E) Rd (put fr d aundef) H1 K) : WpE call n ref (⟨⟨d, .store 1 a x, g⟩, b, 2, pre⟩ :: its) H0 E Rd fr H K := by
  obtain ⟨u, H1, h1, rfl, h2, h3, h4⟩ := WpX.stP (call := call) (K := fun u H1 => u = aundef ∧ SliceAt H1 p 1 m (cs.set j v) ∧ WrS H1 p ∧ ExtP H H1 p) ha hx ho.cells ho.one hj fun H1 q1 q2 q3 => ⟨rfl, q1, q2, q3⟩
  obtain ⟨h5, h6⟩ := h H1 h2 h3 h4
  exact WpE.effect hw h1 h5 h6
end
def cAt (cs : List AVal) (i : Nat) : AVal := cs.getD i aundef
theorem cAt_some {cs : List AVal} {i : Nat} (h : i < cs.length) : cs[i]? = some (cAt cs i) := by
  unfold cAt
  rw [List.getD_eq_getElem?_getD, List.getElem?_eq_getElem h]; rfl
def swp (cs : List AVal) (i j : Nat) : List AVal := (cs.set i (cAt cs j)).set j (cAt cs i)
theorem swp_len {cs : List AVal} {i j : Nat} : (swp cs i j).length = cs.length := by simp [swp]
theorem cAt_set {cs : List AVal} {i t : Nat} {v : AVal} (h : i < cs.length) : cAt (cs.set i v) t = if t = i then v else cAt cs t := by
  unfold cAt
  rw [List.getD_eq_getElem?_getD, List.getD_eq_getElem?_getD, List.getElem?_set]
  by_cases e : i = t
  · subst e; rw [if_pos rfl, if_pos h, if_pos rfl]; rfl
  · rw [if_neg e, if_neg (fun q => e q.symm)]
theorem cAt_swp {cs : List AVal} {i j t : Nat} (hi : i < cs.length) (hj : j < cs.length) : cAt (swp cs i j) t = if t = j then cAt cs i else if t = i then cAt cs j else cAt cs t := by
  unfold swp
  rw [cAt_set (by rw [List.length_set]; exact hj), cAt_set hi]
def exc (i j t : Nat) : Nat := if t = j then i else if t = i then j else t
theorem exc_exc (i j t : Nat) : exc i j (exc i j t) = t := by
  unfold exc
  by_cases h1 : t = j
  · subst h1
    rw [if_pos rfl]
    by_cases h2 : i = t
    · rw [if_pos h2]; exact h2
    · rw [if_neg h2, if_pos rfl]
  · rw [if_neg h1]
    by_cases h2 : t = i
    · rw [if_pos h2, if_pos rfl]; exact h2.symm
    · rw [if_neg h2, if_neg h1, if_neg h2]
theorem cAt_exc {cs : List AVal} {i j t : Nat} (hi : i < cs.length) (hj : j < cs.length) : cAt (swp cs i j) t = cAt cs (exc i j t) := by
  rw [cAt_swp hi hj]
  unfold exc
  split
  · rfl
  · split <;> rfl
structure Pm (a b : Nat) (cs cs' : List AVal) : Prop where
  len : cs'.length = cs.length
  it : ∃ f g : Nat → Nat, (∀ t, cAt cs' t = cAt cs (f t)) ∧ (∀ t, f (g t) = t) ∧ (∀ t, g (f t) = t) ∧ (∀ t, (t < a ∨ b ≤ t) → f t = t) ∧ (∀ t, a ≤ t → t < b → a ≤ f t ∧ f t < b)
theorem Pm.refl (a b : Nat) (cs : List AVal) : Pm a b cs cs := ⟨rfl, id, id, fun _ => rfl, fun _ => rfl, fun _ => rfl, fun _ _ => rfl, fun _ h1 h2 => ⟨h1, h2⟩⟩
theorem Pm.trans {a b : Nat} {cs cs' cs'' : List AVal} (h : Pm a b cs cs') (k : Pm a b cs' cs'') : Pm a b cs cs'' := by
  obtain ⟨f, g, h1, h2, h3, h4, h5⟩ := h.it
  obtain ⟨f', g', k1, k2, k3, k4, k5⟩ := k.it
  refine ⟨k.len.trans h.len, fun t => f (f' t), fun t => g' (g t), fun t => by rw [k1, h1], fun t => by dsimp only; rw [k2, h2], fun t => by dsimp only; rw [h3, k3], fun t ht => by dsimp only; rw [k4 t ht, h4 t ht], fun t ha hb => ?_⟩
  have := k5 t ha hb
  exact h5 _ this.1 this.2
theorem Pm.swp {a b i j : Nat} {cs : List AVal} (hi : a ≤ i ∧ i < b) (hj : a ≤ j ∧ j < b) (hb : b ≤ cs.length) : Pm a b cs (swp cs i j) := by
  refine ⟨swp_len, exc i j, exc i j, fun t => cAt_exc (by omega) (by omega), exc_exc i j, exc_exc i j, fun t ht => ?_, fun t h1 h2 => ?_⟩
  · unfold exc; rw [if_neg (by omega), if_neg (by omega)]
  · unfold exc; split
    · omega
    · split <;> omega
theorem Pm.weak {a b a' b' : Nat} {cs cs' : List AVal} (h : Pm a b cs cs') (ha : a' ≤ a) (hb : b ≤ b') : Pm a' b' cs cs' := by
  obtain ⟨f, g, h1, h2, h3, h4, h5⟩ := h.it
  refine ⟨h.len, f, g, h1, h2, h3, fun t ht => h4 t (by omega), fun t h6 h7 => ?_⟩
  by_cases h8 : a ≤ t ∧ t < b
  · have := h5 t h8.1 h8.2; omega
  · rw [h4 t (by omega)]; exact ⟨h6, h7⟩
theorem Pm.off {a b t : Nat} {cs cs' : List AVal} (h : Pm a b cs cs') (ht : t < a ∨ b ≤ t) : cAt cs' t = cAt cs t := by
  obtain ⟨f, g, h1, h2, h3, h4, h5⟩ := h.it
  rw [h1, h4 t ht]
theorem Pm.fro {a b t : Nat} {cs cs' : List AVal} (h : Pm a b cs cs') (h1 : a ≤ t) (h2 : t < b) : ∃ s, a ≤ s ∧ s < b ∧ cAt cs' t = cAt cs s := by
  obtain ⟨f, g, k1, k2, k3, k4, k5⟩ := h.it
  have := k5 t h1 h2
  exact ⟨f t, this.1, this.2, k1 t⟩
theorem Pm.too {a b t : Nat} {cs cs' : List AVal} (h : Pm a b cs cs') (h1 : a ≤ t) (h2 : t < b) : ∃ s, a ≤ s ∧ s < b ∧ cAt cs' s = cAt cs t := by
  obtain ⟨f, g, k1, k2, k3, k4, k5⟩ := h.it
  refine ⟨g t, ?_, ?_, by rw [k1, k2]⟩
  · by_cases hc : a ≤ g t
    · exact hc
    · have := k4 (g t) (by omega); rw [k2] at this; omega
  · by_cases hc : g t < b
    · exact hc
    · have := k4 (g t) (by omega); rw [k2] at this; omega
def cmpI (a b : Int) : Int := if a < b then -1 else if a > b then 1 else 0
theorem cmpI_neg (a b : Int) : decide (cmpI a b < 0) = decide (a < b) := by
  unfold cmpI
  by_cases h : a < b
  · rw [if_pos h, decide_eq_true h]; rfl
  · rw [if_neg h, decide_eq_false h]; split <;> rfl
def Srd (K : AVal → Int) (cs : List AVal) (a b : Nat) : Prop := ∀ i j, a ≤ i → i < j → j < b → K (cAt cs i) ≤ K (cAt cs j)
structure SrtU (ext : Exts) (prog : FuncId → Option RFunc) (H0 : AHeap) (p : AVal) (F : FuncId) (U : AVal → Prop) (K : AVal → Int) : Prop where
  cmp : ∀ H', ExtP H0 H' p → ∀ x y, U x → U y → PureCon ext prog F [x, y] H' 8 (.int .i64 (cmpI (K x) (K y)))
  one : ∀ x, U x → OneV x
structure SrtS (H0 : AHeap) (p : AVal) (n : Nat) (U : AVal → Prop) (cs : List AVal) (H : AHeap) : Prop where
  sl : SliceAt H p 1 n cs
  wr : WrS H p
  ex : ExtP H0 H p
  mem : ∀ j, j < n → U (cAt cs j)
theorem SrtS.len {H0 H : AHeap} {p : AVal} {n : Nat} {U : AVal → Prop} {cs : List AVal} (h : SrtS H0 p n U cs H) : cs.length = n := by have := h.sl.len; omega
theorem SrtS.ext {H0 H H' : AHeap} {p : AVal} {n : Nat} {U : AVal → Prop} {cs : List AVal} (h : SrtS H0 p n U cs H) (x : Ext H H') : SrtS H0 p n U cs H' := by
  haveI := h.sl
  haveI := h.wr
  haveI : ExtI H H' := ⟨x⟩
  exact ⟨inferInstance, inferInstance, h.ex.ext x, h.mem⟩
theorem SrtS.swp {H0 H H' : AHeap} {p : AVal} {n i j : Nat} {U : AVal → Prop} {cs : List AVal} (h : SrtS H0 p n U cs H) (hi : i < n) (hj : j < n) (hs : SliceAt H' p 1 n (swp cs i j)) (hw : WrS H' p) (hx : ExtP H H' p) : SrtS H0 p n U (swp cs i j) H' := by
  have hl := h.len
  refine ⟨hs, hw, h.ex.trans hx, fun t ht => ?_⟩
  rw [cAt_exc (by omega) (by omega)]
  apply h.mem
  unfold exc
  split
  · exact hi
  · split
    · exact hj
    · exact ht
structure InsS (K : AVal → Int) (cs : List AVal) (a i j : Nat) : Prop where
  rest : ∀ s t, a ≤ s → s < t → t ≤ i → s ≠ j → t ≠ j → K (cAt cs s) ≤ K (cAt cs t)
  top : ∀ t, j < t → t ≤ i → K (cAt cs j) ≤ K (cAt cs t)
theorem InsS.start {K : AVal → Int} {cs : List AVal} {a i : Nat} (h : Srd K cs a i) : InsS K cs a i i := ⟨fun s t h1 h2 h3 h4 h5 => h s t h1 h2 (by omega), fun t h1 h2 => by omega⟩
theorem InsS.done {K : AVal → Int} {cs : List AVal} {a i j : Nat} (h : InsS K cs a i j) (hj : a ≤ j) (he : j = a ∨ ¬ K (cAt cs j) < K (cAt cs (j - 1))) : Srd K cs a (i + 1) := by
  intro s t h1 h2 h3
  by_cases e1 : s = j
  · subst e1; exact h.top t h2 (by omega)
  · by_cases e2 : t = j
    · subst e2
      rcases he with he | he
      · omega
      · by_cases e3 : s = t - 1
        · subst e3; omega
        · have := h.rest s (t - 1) h1 (by omega) (by omega) e1 (by omega); omega
    · exact h.rest s t h1 h2 (by omega) e1 e2
theorem InsS.step {K : AVal → Int} {cs : List AVal} {a i j : Nat} (h : InsS K cs a i j) (hj : a < j) (hi : j ≤ i) (hl : i < cs.length) (hlt : K (cAt cs j) < K (cAt cs (j - 1))) : InsS K (swp cs j (j - 1)) a i (j - 1) := by
  have e : ∀ t, cAt (swp cs j (j - 1)) t = if t = j - 1 then cAt cs j else if t = j then cAt cs (j - 1) else cAt cs t := fun t => cAt_swp (by omega) (by omega)
  refine ⟨fun s t h1 h2 h3 h4 h5 => ?_, fun t h1 h2 => ?_⟩
  · rw [e, e, if_neg h4, if_neg h5]
    by_cases e1 : s = j
    · subst e1
      rw [if_pos rfl, if_neg (by omega)]
      exact h.rest (s - 1) t (by omega) (by omega) h3 (by omega) (by omega)
    · rw [if_neg e1]
      by_cases e2 : t = j
      · subst e2
        rw [if_pos rfl]
        exact h.rest s (t - 1) h1 (by omega) (by omega) e1 (by omega)
      · rw [if_neg e2]
        exact h.rest s t h1 h2 h3 e1 e2
  · rw [e, e, if_pos rfl, if_neg (by omega)]
    by_cases e2 : t = j
    · subst e2; rw [if_pos rfl]; omega
    · rw [if_neg e2]
      exact h.top t (by omega) h2
end Go.Am

namespace Go.Am
open Go
open Nat renaming reduceEqDiff → qe, reduceAdd → qa
open Int renaming reduceBEq → ze, reduceBNe → zn
attribute [local irreducible] Wp WpO WpX WpE
theorem K_nan {a : Int} {H : AHeap} : Con ext prog 1 99 [.int .i64 a] H fun v H' => v = .bool false ∧ Ext H H' := by
 refine con_of (show prog 99 = some c99 from rfl) rfl rfl fun n hn => ?_
 have h1 : (a != a) = false := by simp
 repeat first | refine mI ?_ | refine mB ?_ | refine bn rfl rfl rfl (by simp only [↓nrmL, nrmZ, qe, ↓reduceIte, qa, ze, zn, h1]; rfl) ?_ | refine nl hKF ?_ | refine sq ?_ | refine rg fun KF hKF => ?_ | refine rt ?_ | dsimp only
 refine rz trivial ?_
 exact ⟨rfl, Ext0.ext⟩
theorem K_Compare {a b : Int} {H : AHeap} : Con ext prog 2 62 [.int .i64 a, .int .i64 b] H fun v H' => v = .int .i64 (cmpI a b) ∧ Ext H H' := by
 refine con_of (show prog 62 = some c62 from rfl) rfl rfl fun n hn => ?_
 haveI n1 : ∀ H, PureCon ext prog 99 [.int .i64 a] H 1 (.bool false) := fun H => ⟨K_nan⟩
 haveI n2 : ∀ H, PureCon ext prog 99 [.int .i64 b] H 1 (.bool false) := fun H => ⟨K_nan⟩
 unfold cmpI
 by_cases h1 : a < b
 ·have d1 : decide (a < b) = true := decide_eq_true h1
  rw [if_pos h1]
  repeat first | refine mI ?_ | refine mB ?_ | refine bn rfl rfl rfl (by simp only [↓nrmL, nrmZ, qe, ↓reduceIte, qa, ze, zn, d1]; rfl) ?_ | (refine Fo.pcall (v' := ?_) hn rfl (by simp only [↓nrmL, nrmZ, qe, ↓reduceIte, qa, ze, zn, d1, List.map]; rfl) rfl ?hv fun _ _ => ?_; case hv => rfl) | refine nl hKF ?_ | refine sq ?_ | refine rg fun KF hKF => ?_ | refine ct rfl ?_ | refine cf rfl ?_ | refine sk ?_ | refine rt ?_ | dsimp only
  refine rz trivial ?_
  exact ⟨rfl, Ext0.ext⟩
 ·have d1 : decide (a < b) = false := decide_eq_false h1
  rw [if_neg h1]
  by_cases h2 : a > b
  ·have d2 : decide (a > b) = true := decide_eq_true h2
   rw [if_pos h2]
   repeat first | refine mI ?_ | refine mB ?_ | refine bn rfl rfl rfl (by simp only [↓nrmL, nrmZ, qe, ↓reduceIte, qa, ze, zn, d1, d2]; rfl) ?_ | (refine Fo.pcall (v' := ?_) hn rfl (by simp only [↓nrmL, nrmZ, qe, ↓reduceIte, qa, ze, zn, d1, d2, List.map]; rfl) rfl ?hv fun _ _ => ?_; case hv => rfl) | refine nl hKF ?_ | refine sq ?_ | refine rg fun KF hKF => ?_ | refine ct rfl ?_ | refine cf rfl ?_ | refine sk ?_ | refine rt ?_ | dsimp only
   refine rz trivial ?_
   exact ⟨rfl, Ext0.ext⟩
  ·have d2 : decide (a > b) = false := decide_eq_false h2
   rw [if_neg h2]
   repeat first | refine mI ?_ | refine mB ?_ | refine bn rfl rfl rfl (by simp only [↓nrmL, nrmZ, qe, ↓reduceIte, qa, ze, zn, d1, d2]; rfl) ?_ | (refine Fo.pcall (v' := ?_) hn rfl (by simp only [↓nrmL, nrmZ, qe, ↓reduceIte, qa, ze, zn, d1, d2, List.map]; rfl) rfl ?hv fun _ _ => ?_; case hv => rfl) | refine nl hKF ?_ | refine sq ?_ | refine rg fun KF hKF => ?_ | refine cf rfl ?_ | refine sk ?_ | refine rt ?_ | dsimp only
   refine rz trivial ?_
   exact ⟨rfl, Ext0.ext⟩
theorem K_cmp {p q : AVal} {H : AHeap} {l m : List Int} (hp : IntsI H p l) (hq : IntsI H q m) (h1 : 0 < l.length) (h2 : 0 < m.length) : Con ext prog 3 61 [p, q] H fun v H' => v = .int .i64 (cmpI (l.getD 0 0) (m.getD 0 0)) ∧ Ext H H' := by
 refine con_of (show prog 61 = some c61 from rfl) rfl rfl fun n hn => ?_
 haveI := hp
 haveI := hq
 haveI := hp.one
 haveI := hq.one
 have g1 : l[0] = l.getD 0 0 := (getD_at h1).symm
 have g2 : m[0] = m.getD 0 0 := (getD_at h2).symm
 haveI : ∀ H, PureCon ext prog 62 [.int .i64 (l.getD 0 0), .int .i64 (m.getD 0 0)] H 2 (.int .i64 (cmpI (l.getD 0 0) (m.getD 0 0))) := fun H => ⟨K_Compare⟩
 refine sq ?_
 refine rg fun KF hKF => ?_
 refine mI ?_
 refine nl hKF ?_
 refine sq ?_
 refine Fr.dregion0 rfl fun KF hKF => ?_
 repeat first | refine Fe.pure rfl rfl (by simp only [↓nrmL, nrmZ, qe, ↓reduceIte, qa, ze, zn, g1, g2]; rfl) ?_ | (refine Fe.pure rfl (exec_idxP (by (try simp only [↓nrmL, nrmZ, qe, ↓reduceIte, qa, ze, zn, g1, g2]); rfl) rfl ?_) (by simp only [↓nrmL, nrmZ, qe, ↓reduceIte, qa, ze, zn, g1, g2]; rfl) ?_; (focus omega)) | refine Er rfl (exec_ldI rfl (by omega)) (by simp only [↓nrmL, nrmZ, qe, ↓reduceIte, qa, ze, zn, g1, g2]; rfl) ?_ | (refine Fe.pcall (v' := ?_) rfl hn rfl (by simp only [↓nrmL, nrmZ, qe, ↓reduceIte, qa, ze, zn, g1, g2, List.map]; rfl) rfl ?hv fun _ _ => ar ?_; case hv => rfl) | refine WpE.nil (hKF _ _ ?_)
 refine rt ?_
 dsimp only
 refine rz trivial ?_
 exact ⟨rfl, Ext0.ext⟩
theorem K_insert {H0 H : AHeap} {p : AVal} {n a b : Nat} {F : FuncId} {U : AVal → Prop} {K : AVal → Int} {cs : List AVal} (hU : SrtU ext prog H0 p F U K) (hs : SrtS H0 p n U cs H) (hab : a ≤ b) (hb : b ≤ n) (hn40 : n ≤ 2 ^ 40) : Con ext prog 9 114 [p, .int .i64 (a : Int), .int .i64 (b : Int), .func (.func F) [] []] H fun _ H' => ∃ cs', SrtS H0 p n U cs' H' ∧ Pm a b cs cs' ∧ Srd K cs' a b := by
 refine con_of (show prog 114 = some c114 from rfl) rfl rfl fun N hn => ?_
 haveI := hs.sl.one
 have e0 := wa1 (a := a) (by omega)
 refine sq ?_
 refine rg fun KF hKF => ?_
 refine mI ?_
 refine bn rfl rfl rfl (by simp only [↓nrmL, nrmZ, qe, ↓reduceIte, qa, ze, zn, e0]; rfl) ?_
 refine mI ?_
 refine nl hKF ?_
 refine Wp.block ?_
 dsimp only
 refine Wp.loopS (σ := Nat × List AVal) [8, 9, 12, 13, 14, 15, 16, 17, 18, 19, 20, 21, 22, 23, 24, 25, 26, 27, 28, 29, 30, 31, 32, 33, 34, 35, 36, 37, 38, 39, 40, 41, 42, 43, 44, 45, 46, 47, 48, 49, 50, 51, 52] (fun s => [(8, .int .i64 (s.1 : Int))]) (fun _ s H2 => a + 1 ≤ s.1 ∧ (s.1 ≤ b ∨ s.1 = a + 1) ∧ SrtS H0 p n U s.2 H2 ∧ Pm a b cs s.2 ∧ Srd K s.2 a s.1) (fun s => b + 1 - s.1) (a + 1, cs) rfl (fun _ => rfl) ⟨rfl, trivial⟩ ⟨Nat.le_refl _, Or.inr rfl, hs, Pm.refl _ _ _, fun i j h1 h2 h3 => by dsimp only at h3; omega⟩ (by unfold fuel0 at hn; dsimp only; omega) ?_
 rintro ⟨i, cs1⟩ g H2 ⟨h1, h2, hs1, hp1, hsr1⟩
 dsimp only at h1 h2 hs1 hp1 hsr1
 simp only [↓nrmL, nrmZ, qe, ↓reduceIte, qa, ze, zn]
 cases hc : decide ((i : Int) < (b : Int))
 ·have hib := of_decide_eq_false hc
  refine sq ?_
  refine sq ?_
  refine rg fun KF hKF => ?_
  refine mI ?_
  refine mI ?_
  refine bn rfl rfl rfl (by simp only [↓nrmL, nrmZ, qe, ↓reduceIte, qa, ze, zn, hc]; rfl) ?_
  refine nl hKF ?_
  refine cf rfl ?_
  refine xi ?_
  dsimp only
  refine rz trivial ?_
  refine ⟨cs1, hs1, hp1, fun s t q1 q2 q3 => hsr1 s t q1 q2 (by omega)⟩
 have hib : i < b := by have := of_decide_eq_true hc; omega
 have e1 := wa1 (a := i) (by omega)
 repeat first | refine mI ?_ | refine bn rfl rfl rfl (by simp only [↓nrmL, nrmZ, qe, ↓reduceIte, qa, ze, zn, hc]; rfl) ?_ | refine nl hKF ?_ | refine sq ?_ | refine rg fun KF hKF => ?_ | refine ct rfl ?_ | refine sk ?_ | refine Wp.block ?_ | dsimp only
 refine Wp.loopS (σ := Nat × List AVal) [9, 18, 19, 20, 21, 22, 23, 24, 25, 26, 27, 28, 29, 30, 31, 32, 33, 34, 35, 36, 37, 38, 39, 40, 41, 42, 43, 44, 45, 46, 47, 48, 49, 50, 51, 52] (fun s => [(9, .int .i64 (s.1 : Int))]) (fun _ s H3 => a ≤ s.1 ∧ s.1 ≤ i ∧ SrtS H0 p n U s.2 H3 ∧ Pm a b cs s.2 ∧ InsS K s.2 a i s.1) (fun s => s.1) (i, cs1) rfl (fun _ => rfl) ⟨rfl, trivial⟩ ⟨by dsimp only; omega, Nat.le_refl _, hs1, hp1, InsS.start hsr1⟩ (by unfold fuel0 at hn; dsimp only; omega) ?_
 rintro ⟨j, cs2⟩ g2 H3 ⟨k1, k2, hs2, hp2, hin⟩
 dsimp only at k1 k2 hs2 hp2 hin
 haveI := hs2.sl
 haveI := hs2.wr
 have hl2 := hs2.len
 simp only [↓nrmL, nrmZ, qe, ↓reduceIte, qa, ze, zn]
 by_cases hja : j = a
 ·subst hja
  have hg : decide ((j : Int) > (j : Int)) = false := decide_eq_false (by omega)
  refine sq ?_
  refine sq ?_
  refine Fr.dregion0 rfl fun KF hKF => ?_
  repeat first | refine Fe.pure rfl rfl (by simp only [↓nrmL, nrmZ, qe, ↓reduceIte, qa, ze, zn, hg]; rfl) ?_ | refine Fe.skip rfl ?_ | refine WpE.nil (hKF _ _ ?_)
  simp only [e1]
  refine cf rfl ?_
  refine xi ?_
  refine rg fun KF hKF => ?_
  refine mI ?_
  refine bn rfl rfl rfl (by simp only [↓nrmL, nrmZ, qe, ↓reduceIte, qa, ze, zn, e1]; rfl) ?_
  refine mI ?_
  refine nl hKF ?_
  dsimp only
  exact ⟨(i + 1, cs2), by dsimp only; omega, ⟨rfl, trivial⟩, by dsimp only; omega, by dsimp only; omega, hs2, hp2, hin.done k1 (Or.inl rfl)⟩
 have hja' : a < j := by omega
 have hg : decide ((j : Int) > (a : Int)) = true := decide_eq_true (by omega)
 obtain ⟨j0, hj0⟩ : ∃ j0, j = j0 + 1 := ⟨j - 1, by omega⟩
 have e2 : IntKind.i64.wrap ((j : Int) - 1) = (j0 : Int) := by rw [w64 (by omega)]; omega
 have hj1 : j < cs2.length := by omega
 have hj2 : j0 < cs2.length := by omega
 have c1 := cAt_some hj1
 have c2 := cAt_some hj2
 have u1 := hs2.mem j (by omega)
 have u2 := hs2.mem j0 (by omega)
 haveI := hU.one _ u1
 haveI := hU.one _ u2
 have hjn : j < n := by omega
 have hj0n : j0 < n := by omega
 haveI : ∀ H', ExtP0 H3 H' p → PureCon ext prog F [cAt cs2 j, cAt cs2 j0] H' 8 (.int .i64 (cmpI (K (cAt cs2 j)) (K (cAt cs2 j0)))) := fun H' hx => hU.cmp H' (hs2.ex.trans hx.ext) _ _ u1 u2
 haveI : PureCon ext prog F [cAt cs2 j, cAt cs2 j0] H3 8 (.int .i64 (cmpI (K (cAt cs2 j)) (K (cAt cs2 j0)))) := hU.cmp H3 hs2.ex _ _ u1 u2
 refine sq ?_
 refine sq ?_
 refine Fr.dregion0 rfl fun KF hKF => ?_
 repeat first | refine Fe.pure rfl rfl (by simp only [↓nrmL, nrmZ, qe, ↓reduceIte, qa, ze, zn, hg]; rfl) ?_ | (refine Fe.pure rfl (exec_idxP (by (try simp only [↓nrmL, nrmZ, qe, ↓reduceIte, qa, ze, zn, hg]); rfl) rfl ?_) (by simp only [↓nrmL, nrmZ, qe, ↓reduceIte, qa, ze, zn, hg]; rfl) ?_; (focus omega))
 refine Fe.read rfl (exec_ldP (p := p) (j := j) rfl c1) rfl trivial ?_
 simp only [↓nrmL, nrmZ, qe, ↓reduceIte, qa, ze, zn, e2]
 repeat first | refine Fe.pure rfl rfl (by simp only [↓nrmL, nrmZ, qe, ↓reduceIte, qa, ze, zn, e2]; rfl) ?_ | (refine Fe.pure rfl (exec_idxP (by (try simp only [↓nrmL, nrmZ, qe, ↓reduceIte, qa, ze, zn, e2]); rfl) rfl ?_) (by simp only [↓nrmL, nrmZ, qe, ↓reduceIte, qa, ze, zn, e2]; rfl) ?_; (focus omega))
 refine Fe.read rfl (exec_ldP (p := p) (j := j0) rfl c2) rfl trivial ?_
 cases hlt : decide (K (cAt cs2 j) < K (cAt cs2 j0))
 ·have hc2 : decide (cmpI (K (cAt cs2 j)) (K (cAt cs2 j0)) < 0) = false := by rw [cmpI_neg]; exact hlt
  simp only [↓nrmL, nrmZ, qe, ↓reduceIte, qa, ze, zn, hc2]
  repeat first | refine Fe.pure rfl rfl (by simp only [↓nrmL, nrmZ, qe, ↓reduceIte, qa, ze, zn, hc2]; rfl) ?_ | (refine Fe.pcall (v' := ?_) rfl hn rfl (by simp only [↓nrmL, nrmZ, qe, ↓reduceIte, qa, ze, zn, hc2, List.map]; rfl) rfl ?hv fun _ _ => ar ?_; case hv => rfl) | refine WpE.nil (hKF _ _ ?_)
  rename AHeap => H4
  rename ExtI H3 H4 => hx4
  simp only [e1]
  refine cf rfl ?_
  refine xi ?_
  refine rg fun KF hKF => ?_
  refine mI ?_
  refine bn rfl rfl rfl (by simp only [↓nrmL, nrmZ, qe, ↓reduceIte, qa, ze, zn, e1]; rfl) ?_
  refine mI ?_
  refine nl hKF ?_
  dsimp only
  refine ⟨(i + 1, cs2), by dsimp only; omega, ⟨rfl, trivial⟩, by dsimp only; omega, by dsimp only; omega, hs2.ext hx4.ext, hp2, hin.done k1 (Or.inr ?_)⟩
  rw [show j - 1 = j0 by omega]
  exact of_decide_eq_false hlt
 have hc2 : decide (cmpI (K (cAt cs2 j)) (K (cAt cs2 j0)) < 0) = true := by rw [cmpI_neg]; exact hlt
 simp only [↓nrmL, nrmZ, qe, ↓reduceIte, qa, ze, zn, hc2]
 repeat first | refine Fe.pure rfl rfl (by simp only [↓nrmL, nrmZ, qe, ↓reduceIte, qa, ze, zn, hc2]; rfl) ?_ | (refine Fe.pcall (v' := ?_) rfl hn rfl (by simp only [↓nrmL, nrmZ, qe, ↓reduceIte, qa, ze, zn, hc2, List.map]; rfl) rfl ?hv fun _ _ => ar ?_; case hv => rfl) | refine WpE.nil (hKF _ _ ?_)
 rename AHeap => H4
 rename ExtI H3 H4 => hx4
 have hs4 := hs2.ext hx4.ext
 refine ct rfl ?_
 refine sk ?_
 refine sq ?_
 refine Wp.block ?_
 dsimp only
 refine Fr.dregion0 rfl fun KF hKF => ?_
 repeat first | refine Fe.pure rfl rfl (by simp only [↓nrmL, nrmZ, qe, ↓reduceIte, qa, ze, zn, e2]; rfl) ?_ | (refine Fe.pure rfl (exec_idxP (by (try simp only [↓nrmL, nrmZ, qe, ↓reduceIte, qa, ze, zn, e2]); rfl) rfl ?_) (by simp only [↓nrmL, nrmZ, qe, ↓reduceIte, qa, ze, zn, e2]; rfl) ?_; (focus omega))
 refine Fe.read rfl (exec_ldP (p := p) (j := j0) rfl c2) rfl trivial ?_
 refine Fe.pure rfl rfl (by simp only [↓nrmL, nrmZ, qe, ↓reduceIte, qa, ze, zn]; rfl) ?_
 refine Fe.pure rfl rfl (by simp only [↓nrmL, nrmZ, qe, ↓reduceIte, qa, ze, zn]; rfl) ?_
 refine Fe.pure rfl (exec_idxP (by (try simp only [↓nrmL, nrmZ, qe, ↓reduceIte, qa, ze, zn]); rfl) rfl ?_) (by simp only [↓nrmL, nrmZ, qe, ↓reduceIte, qa, ze, zn]; rfl) ?_; (focus omega)
 refine Fe.read rfl (exec_ldP (p := p) (j := j) rfl c1) rfl trivial ?_
 refine Fe.pure rfl (exec_idxP (by (try simp only [↓nrmL, nrmZ, qe, ↓reduceIte, qa, ze, zn]); rfl) rfl ?_) (by simp only [↓nrmL, nrmZ, qe, ↓reduceIte, qa, ze, zn]; rfl) ?_; (focus omega)
 refine WpE.stC (p := p) (j := j) (v := cAt cs2 j0) rfl rfl rfl hj1 fun H5 q1 q2 q3 => ar ?_
 refine Fe.pure rfl (exec_idxP (by (try simp only [↓nrmL, nrmZ, qe, ↓reduceIte, qa, ze, zn]); rfl) rfl ?_) (by simp only [↓nrmL, nrmZ, qe, ↓reduceIte, qa, ze, zn]; rfl) ?_; (focus omega)
 refine WpE.stC (p := p) (j := j0) (v := cAt cs2 j) rfl rfl rfl (by rw [List.length_set]; exact hj2) fun H6 q4 q5 q6 => ar ?_
 refine WpE.nil (hKF _ _ ?_)
 simp only [e2]
 refine rg fun KF hKF => ?_
 refine mI ?_
 refine bn rfl rfl rfl (by simp only [↓nrmL, nrmZ, qe, ↓reduceIte, qa, ze, zn, e2]; rfl) ?_
 refine mI ?_
 refine nl hKF ?_
 dsimp only
 have e3 : swp cs2 j (j - 1) = (cs2.set j (cAt cs2 j0)).set j0 (cAt cs2 j) := by unfold swp; rw [show j - 1 = j0 by omega]
 exact ⟨(j0, swp cs2 j (j - 1)), by dsimp only; omega, ⟨rfl, trivial⟩, by dsimp only; omega, by dsimp only; omega, hs4.swp hjn (by omega) (by rw [e3]; exact q4) q5 (q3.trans q6), hp2.trans (Pm.swp (by omega) (by omega) (by omega)), by
  have := hin.step hja' k2 (by omega) (by rw [show j - 1 = j0 by omega]; exact of_decide_eq_true hlt)
  rwa [show j - 1 = j0 by omega] at this ⊢⟩
end Go.Am

namespace Go.Am
open Go
open Nat renaming reduceEqDiff → qe, reduceAdd → qa
open Int renaming reduceBEq → ze, reduceBNe → zn
attribute [local irreducible] Wp WpO WpX WpE
theorem exec_byteOf {call : ACall} {fr : AFrame} {H : AHeap} {x i : ROpd} {s : ByteArray} {k : IntKind} {j : Nat} (hx : x.ev fr = .str s) (hi : i.ev fr = .int k (j : Int)) (hj : j < s.size) : ∃ b : UInt8, (ROp.indexStr x i).exec call fr H = some (.int .u8 (b.toNat : Int), H) := by
 refine ⟨s[j], ?_⟩
 have h0 : (0 : Int) ≤ (j : Int) := by omega
 simp only [ROp.exec, hx, hi, aIndexStr, if_pos h0, Int.toNat_natCast, getElem?_pos s j hj, M.ofOption, M.pure]
theorem Fo.byteOf {call : ACall} {fr : AFrame} {H : AHeap} {KF : AFrame → AHeap → Prop} {os : List ROper} {d : Nat} {x i : ROpd} {s : ByteArray} {k : IntKind} {j : Nat} (hx : x.ev fr = .str s) (hi : i.ev fr = .int k (j : Int)) (hj : j < s.size) (h : ∀ b : UInt8, WpO call os (upd fr d (.int .u8 (b.toNat : Int))) H KF) : WpO call (⟨some d, .indexStr x i, none⟩ :: os) fr H KF := by
 obtain ⟨b, hb⟩ := exec_byteOf (call := call) (H := H) hx hi hj
 exact Fo.now rfl hb rfl (h b)
theorem K_Len64 {x : Nat} {H : AHeap} (hx : x < 256) : Con ext prog 1 123 [.int .u64 (x : Int)] H fun v H' => (∃ k : Nat, v = .int .i64 (k : Int) ∧ k < 256) ∧ Ext H H' := by
 refine con_of (show prog 123 = some c123 from rfl) rfl rfl fun n hn => ?_
 have d1 : decide ((x : Int) ≥ 4294967296) = false := decide_eq_false (by omega)
 have d2 : decide ((x : Int) ≥ 65536) = false := decide_eq_false (by omega)
 have d3 : decide ((x : Int) ≥ 256) = false := decide_eq_false (by omega)
 have w1 : IntKind.u8.wrap (x : Int) = (x : Int) := by
  have e : ((x : Int) % 256) = (x : Int) := Int.emod_eq_of_lt (by omega) (by omega)
  show (x : Int) % (2 ^ 8 : Int) = x
  simpa using e
 simp only [d1, d2, d3, w1]
 repeat first | refine mI ?_ | refine bn rfl rfl rfl (by simp only [d1, d2, d3, w1]; rfl) ?_ | refine Fo.now rfl rfl (by simp only [d1, d2, d3, w1]; rfl) ?_ | refine nl hKF ?_ | refine sq ?_ | refine rg fun KF hKF => ?_ | refine cf rfl ?_ | refine sk ?_
 refine Fo.byteOf (k := .u8) (j := x) rfl rfl hx fun b => ?_
 have hb2 := b.toNat_lt
 have w2 : IntKind.i64.wrap (b.toNat : Int) = (b.toNat : Int) := w64 (by omega)
 have w3 : IntKind.i64.wrap (0 + (b.toNat : Int)) = (b.toNat : Int) := by rw [Int.zero_add]; exact w2
 refine Fo.now rfl rfl (by simp only [w2, w3]; rfl) ?_
 refine bn rfl rfl rfl (by simp only [w2, w3]; rfl) ?_
 refine mI ?_
 refine nl hKF ?_
 refine rt ?_
 dsimp only
 refine rz trivial ?_
 exact ⟨⟨b.toNat, rfl, hb2⟩, Ext0.ext⟩
theorem K_Len {x : Nat} {H : AHeap} (hx : x < 256) : Con ext prog 2 98 [.int .u64 (x : Int)] H fun v H' => (∃ k : Nat, v = .int .i64 (k : Int) ∧ k < 256) ∧ Ext H H' := by
 refine con_of (show prog 98 = some c98 from rfl) rfl rfl fun n hn => ?_
 repeat first | refine mI ?_ | refine nl hKF ?_ | refine sq ?_ | refine rg fun KF hKF => ?_ | refine cf rfl ?_ | refine sk ?_
 refine WpO.do (WpX.conD hn rfl rfl (by simp only [↓nrmL, nrmZ, qe, ↓reduceIte, qa, ze, zn, List.map] <;> rfl) (K_Len64 hx) fun v H3 h5 => ?_)
 obtain ⟨⟨k, rfl, hk⟩, hx3⟩ := h5
 haveI : ExtI _ H3 := ⟨hx3⟩
 refine mI ?_
 refine nl hKF ?_
 refine rt ?_
 dsimp only
 refine rz trivial ?_
 exact ⟨⟨k, rfl, hk⟩, Ext0.ext⟩
abbrev PdqP (H0 : AHeap) (p : AVal) (n : Nat) (F : FuncId) (U : AVal → Prop) (K : AVal → Int) (D : Nat) (cs : List AVal) : Prop := ∀ (H : AHeap) (L : Nat), L < 256 → SrtS H0 p n U cs H → Con ext prog D 97 [p, .int .i64 0, .int .i64 (n : Int), .int .i64 (L : Int), .func (.func F) [] []] H fun _ H' => ∃ cs', SrtS H0 p n U cs' H' ∧ Pm 0 n cs cs' ∧ Srd K cs' 0 n
abbrev PdqQ (F : FuncId) (D cap : Nat) : Prop := ∀ (H0 : AHeap) (p : AVal) (n : Nat) (U : AVal → Prop) (K : AVal → Int) (cs : List AVal), n ≤ cap → n ≤ 60 → SrtU ext prog H0 p F U K → (∀ i j, i < j → j < n → K (cAt cs i) ≠ K (cAt cs j)) → PdqP H0 p n F U K D cs
theorem K_SortFunc {H0 H : AHeap} {p : AVal} {n D : Nat} {F : FuncId} {U : AVal → Prop} {K : AVal → Int} {cs : List AVal} (hs : SrtS H0 p n U cs H) (hn : n < 256) (hp : PdqP H0 p n F U K D cs) (hD : 2 ≤ D) : Con ext prog (D + 1) 60 [p, .func (.func F) [] []] H fun _ H' => ∃ cs', SrtS H0 p n U cs' H' ∧ Pm 0 n cs cs' ∧ Srd K cs' 0 n := by
 refine con_of (show prog 60 = some c60 from rfl) rfl rfl fun N hN => ?_
 haveI := hs.sl
 haveI := hs.sl.one
 have hl := hs.len
 have w1 : IntKind.u64.wrap (n : Int) = (n : Int) := by
  show (n : Int) % (2 ^ 64 : Int) = n
  omega
 repeat first | refine mI ?_ | refine mv ?_ | refine ln (by simp only [↓nrmL, nrmK, qe, ↓reduceIte]; rfl) ?_ | refine Fo.now rfl rfl (by simp only [w1]; rfl) ?_ | refine nl hKF ?_ | refine sq ?_ | refine rg fun KF hKF => ?_
 refine WpO.do (WpX.con (K_Len hn) (Nat.le_trans (Nat.add_le_add_left hD _) hN) rfl (by simp only [↓nrmL, nrmZ, qe, ↓reduceIte, qa, ze, zn, List.map] <;> rfl) fun v H3 h5 => ?_)
 obtain ⟨⟨k, rfl, hk⟩, hx3⟩ := h5
 have hs3 := hs.ext hx3
 haveI : ExtI _ H3 := ⟨hx3⟩
 refine mF ?_
 refine WpO.do (WpX.con (hp H3 k hk hs3) hN rfl (by simp only [↓nrmL, nrmZ, qe, ↓reduceIte, qa, ze, zn, List.map] <;> rfl) fun v H4 h6 => ?_)
 refine nl hKF ?_
 dsimp only
 refine rz trivial ?_
 exact h6
end Go.Am

namespace Go.Am
open Go
open Nat renaming reduceEqDiff → qe, reduceAdd → qa
open Int renaming reduceBEq → ze, reduceBNe → zn
attribute [local irreducible] Wp WpO WpX WpE
def lineQ (w : Nat) (q : Nat → Nat) : List Int := (List.range w).map fun x => (q x : Int)
theorem lineQ_len (w : Nat) (q : Nat → Nat) : (lineQ w q).length = w := by simp [lineQ]
theorem lineQ_at {w x : Nat} {q : Nat → Nat} (hx : x < w) : (lineQ w q).getD x 0 = (q x : Int) := by
 rw [getD_at (by rw [lineQ_len]; exact hx)]
 simp [lineQ]
structure TrD (l : List UInt8) (w h : Nat) (qs' : List (Nat → Nat)) : Prop where
 it : ∃ qs P, TrR l w h qs P ∧ (60 ≤ qs.length ∨ (w : Int) < 8 * leastP P w h) ∧ qs'.length = qs.length ∧ (∀ i (hi : i < qs'.length), ∃ j, ∃ (hj : j < qs.length), qs'[i] = qs[j]) ∧ (∀ j (hj : j < qs.length), ∃ i, ∃ (hi : i < qs'.length), qs'[i] = qs[j]) ∧ (∀ i j (hi : i < qs'.length) (hj : j < qs'.length), i < j → qs'[i] 0 < qs'[j] 0)
def keyH (H : AHeap) (v : AVal) : Int := match v with
 | .slice r off _ _ _ => (match H.get r with
  | .row cs _ _ => (match cs[off]? with | some (.int _ z) => z | _ => 0)
  | _ => 0)
 | _ => 0
theorem keyH_row {H : AHeap} {r n : Nat} {c : Option Nat} {l : List Int} {w : Bool} {e : TypeId} (h : HasRow H r (cellsI l) w e) (h0 : 0 < l.length) : keyH H (.slice r 0 n c 1) = l.getD 0 0 := by
 have e1 : (cellsI l)[0]? = some (.int .i64 (l.getD 0 0)) := by
  rw [getD_at h0]; simp [cellsI, h0]
 simp only [keyH, h.get, e1]
theorem K_sortEnd {w h D cap B : Nat} {l : List UInt8} {qs : List (Nat → Nat)} {P : List Int} {H2 : AHeap} {op : AVal} {cells : List AVal} (hw0 : 0 < w) (hD : 10 ≤ D) (hI : TrI l w h qs P) (hT : TrR l w h qs P) (hE : 60 ≤ qs.length ∨ (w : Int) < 8 * leastP P w h) (hsort : PdqQ 61 D cap) (hcap : min 60 ((h + 2) / 3) ≤ cap)
  (ho : OwnS H2 op 1 qs.length cells 25) (hL : Lns H2 cells (qs.map (lineQ w)) B) : Con ext prog (D + 1) 60 [op, .func (.func 61) [] []] H2 fun _ H' => ∃ qs', LinesI H' op (qs'.map (lineQ w)) ∧ TrD l w h qs' ∧ ExtP H2 H' op := by
 have hlen : cells.length = qs.length := by rw [hL.len, List.length_map]
 have hrow : ∀ j (hj : j < qs.length), ∃ rj, cAt cells j = .slice rj 0 w (some w) 1 ∧ HasRow H2 rj (cellsI (lineQ w qs[j])) true (2 * 3) := fun j hj => by
  obtain ⟨rj, a1, a2, a3⟩ := hL.it j (by rw [List.length_map]; exact hj)
  rw [List.getElem_map] at a1 a2
  rw [lineQ_len] at a1
  exact ⟨rj, by rw [cAt_some (by omega)] at a1; exact Option.some.inj a1, a2⟩
 have hne : ∀ {rj : Nat} {l : List Int}, HasRow H2 rj (cellsI l) true (2 * 3) → RowNe op rj := fun k => ho.tne k.get (by decide)
 have hK : ∀ j (hj : j < qs.length), keyH H2 (cAt cells j) = (qs[j] 0 : Int) := fun j hj => by
  obtain ⟨rj, a1, a2⟩ := hrow j hj
  rw [a1, keyH_row a2 (by rw [lineQ_len]; exact hw0), lineQ_at hw0]
 have hU : SrtU ext prog H2 op 61 (fun v => ∃ j, j < qs.length ∧ v = cAt cells j) (keyH H2) := by
  refine ⟨fun H' hx x y ⟨i, hi, ex⟩ ⟨j, hj, ey⟩ => ?_, fun x ⟨i, hi, ex⟩ => ?_⟩
  ·obtain ⟨ri, a1, a2⟩ := hrow i hi
   obtain ⟨rj, b1, b2⟩ := hrow j hj
   have kx : keyH H2 x = (lineQ w qs[i]).getD 0 0 := by rw [ex, a1, keyH_row a2 (by rw [lineQ_len]; exact hw0)]
   have ky : keyH H2 y = (lineQ w qs[j]).getD 0 0 := by rw [ey, b1, keyH_row b2 (by rw [lineQ_len]; exact hw0)]
   have r1 : HasRow H' ri (cellsI (lineQ w qs[i])) true (2 * 3) := ⟨Nat.lt_of_lt_of_le a2.lt hx.n, by rw [hx.get ri a2.lt (hne a2)]; exact a2.get⟩
   have r2 : HasRow H' rj (cellsI (lineQ w qs[j])) true (2 * 3) := ⟨Nat.lt_of_lt_of_le b2.lt hx.n, by rw [hx.get rj b2.lt (hne b2)]; exact b2.get⟩
   rw [kx, ky, ex, ey, a1, b1]
   refine ⟨fun m hm => ?_⟩
   exact K_cmp (row_ints r1 (lineQ_len w _)) (row_ints r2 (lineQ_len w _)) (by rw [lineQ_len]; exact hw0) (by rw [lineQ_len]; exact hw0) m (by omega)
  ·obtain ⟨ri, a1, a2⟩ := hrow i hi
   rw [ex, a1]
   exact inferInstance
 have hS : SrtS H2 op qs.length (fun v => ∃ j, j < qs.length ∧ v = cAt cells j) cells H2 := ⟨ho.sl, ho.wr, ExtP.refl _ _, fun j hj => ⟨j, hj, rfl⟩⟩
 have hdist : ∀ i j, i < j → j < qs.length → keyH H2 (cAt cells i) ≠ keyH H2 (cAt cells j) := fun i j hij hj => by
  rw [hK i (by omega), hK j hj]
  have := hI.apart i j (by omega) hj 0 hw0 hij
  unfold near at this
  omega
 have hfew := hI.few hw0
 have hmany := hI.many
 refine (K_SortFunc hS (by omega) (hsort H2 op qs.length _ _ cells (by omega) hmany hU hdist) (by omega)).mono fun v H' h5 => ?_
 obtain ⟨cs', hS', hPm, hSr⟩ := h5
 obtain ⟨f, g, p1, p2, p3, p4, p5⟩ := hPm.it
 have hf : ∀ i, i < qs.length → f i < qs.length := fun i hi => (p5 i (Nat.zero_le _) hi).2
 have hg : ∀ i, i < qs.length → g i < qs.length := fun i hi => by
  by_cases hc : g i < qs.length
  ·exact hc
  ·have := p4 (g i) (Or.inr (by omega))
   rw [p2] at this; omega
 obtain ⟨qs', hqs⟩ : ∃ qs' : List (Nat → Nat), (List.range qs.length).map (fun i => qs.getD (f i) id) = qs' := ⟨_, rfl⟩
 have hl' : qs'.length = qs.length := by rw [← hqs]; simp
 have hq' : ∀ i (hi : i < qs'.length) (hi2 : f i < qs.length), qs'[i] = qs[f i] := fun i hi hi2 => by
  subst hqs
  simp [List.getElem?_eq_getElem hi2]
 refine ⟨qs', ?_, ⟨qs, P, hT, hE, hl', fun i hi => ⟨f i, hf i (by omega), hq' i hi (hf i (by omega))⟩, fun j hj => ⟨g j, by rw [hl']; exact hg j hj, by
  have := hq' (g j) (by rw [hl']; exact hg j hj) (by rw [p2]; exact hj)
  rw [this]
  congr 1
  exact p2 j⟩, fun i j hi hj hij => ?_⟩, hS'.ex⟩
 ·refine ⟨cs', by rw [List.length_map, hl']; exact hS'.sl, ⟨fun i hi => ?_⟩⟩
  rw [List.length_map] at hi
  obtain ⟨rj, a1, a2⟩ := hrow (f i) (hf i (by omega))
  have hcl := hS'.len
  have r1 : HasRow H' rj (cellsI (lineQ w (qs[f i]'(hf i (by omega))))) true (2 * 3) := ⟨Nat.lt_of_lt_of_le a2.lt hS'.ex.n, by rw [hS'.ex.get rj a2.lt (hne a2)]; exact a2.get⟩
  refine ⟨.slice rj 0 w (some w) 1, by rw [cAt_some (by omega), p1, a1], ?_⟩
  rw [List.getElem_map, hq' i hi (hf i (by omega))]
  exact row_ints r1 (lineQ_len w _)
 ·have hi2 := hf i (by omega)
  have hj2 := hf j (by omega)
  have h7 := hSr i j (Nat.zero_le _) hij (by omega)
  rw [p1, p1, hK (f i) hi2, hK (f j) hj2] at h7
  rw [hq' i hi hi2, hq' j hj hj2]
  have hne2 : f i ≠ f j := fun e => by
   have : g (f i) = g (f j) := by rw [e]
   rw [p3, p3] at this; omega
  rcases Nat.lt_or_gt_of_ne hne2 with h8 | h8
  ·have := hI.apart _ _ hi2 hj2 0 hw0 h8
   unfold near at this; omega
  ·have := hI.apart _ _ hj2 hi2 0 hw0 h8
   unfold near at this; omega
theorem K_TraceOk {w h D cap : Nat} {p : AVal} {H : AHeap} {l : List UInt8} [hp : BytesI H p l] (ok : Ok w h l) (hw0 : 0 < w) (hh0 : 0 < h) (hD : 10 ≤ D) (hsort : PdqQ 61 D cap) (hcap : min 60 ((h + 2) / 3) ≤ cap) : Con ext prog (D + 2) 18 [.agg [.int .i64 (w : Int), .int .i64 (h : Int), p]] H fun v H' => ∃ q qs', v = .tuple [q, .int .i64 0] ∧ LinesI H' q (qs'.map (lineQ w)) ∧ TrD l w h qs' ∧ Ext H H' := by
 refine con_of (show prog 18 = some c18 from rfl) rfl rfl fun n hnD => ?_
 have hn : fuel0 + 10 ≤ n := by omega
 haveI := hp.one
 have he := ok.err
 have hl := ok.len
 have hw := ok.wa
 have hh := ok.hb
 have hm : w * h ≤ 640 * 640 := Nat.mul_le_mul hw hh
 have hwh : 0 < w * h := Nat.mul_pos hw0 hh0
 have hl0 : (((l.length : Nat) : Int) == 0) = false := by simp; intro e; rw [e] at hl; simp at hl; omega
 repeat first | refine mI ?_ | refine mN ?_ | refine fd ?_ | refine Fo.ld rfl rfl ?_ | refine Fo.ldN rfl rfl (by simp only [↓nrmL, nrmZ, qe, ↓reduceIte, qa, ze, zn, he, hl0]; rfl) ?_ | refine bn rfl rfl rfl (by simp only [↓nrmL, nrmZ, qe, ↓reduceIte, qa, ze, zn, he, hl0]; rfl) ?_ | (refine Fo.pcall (v' := ?_) hn rfl (by simp only [↓nrmL, nrmZ, qe, ↓reduceIte, qa, ze, zn, he, hl0, List.map]; rfl) rfl ?hv fun _ _ => ?_; case hv => (simp only [↓nrmL, nrmZ, qe, ↓reduceIte, qa, ze, zn, he, hl0]; rfl)) | refine ln (by simp only [↓nrmL, nrmK, qe, ↓reduceIte]; rfl) ?_ | refine bA ?_ | refine nl hKF ?_ | refine sq ?_ | refine rg fun KF hKF => ?_ | refine cf rfl ?_ | refine sk ?_
 rename AHeap => H1
 have hx01 : Ext H H1 := Ext0.ext
 have hb1 : BytesI H1 p l := inferInstance
 refine WpO.do (WpX.conD hn rfl rfl (by simp only [↓nrmL, nrmZ, qe, ↓reduceIte, qa, ze, zn, List.map] <;> rfl) (K_survey (w := w) (h := h) (p := p) (l := l) hb1 hw hh hl) fun v Hs h5 => ?_)
 obtain ⟨rp, rr, rfl, hg, hrp0, hrr0, hxs⟩ := h5
 have hx0s := hx01.trans hxs
 haveI : ExtI H Hs := ⟨hx0s⟩
 have nrp := hg.kp.lt
 have nrr := hg.kr.lt
 have n01 := hx01.n
 have nne := hg.ne
 have kp := hg.kp
 have kr := hg.kr
 refine nw ?_
 refine so rfl (rfl : _ = AVal.agg _) rfl rfl rfl (by simp only [↓nrmL, nrmZ, qe, ↓reduceIte, qa, ze, zn]; rfl) ?_
 refine nl hKF ?_
 refine sq ?_
 refine rg fun KF hKF => ?_
 refine mN ?_
 refine nl hKF ?_
 refine sq ?_
 refine Wp.block ?_
 dsimp only
 refine Wp.loopS (σ := List (Nat → Nat) × AVal) [6, 7, 19, 20, 21, 22, 23, 24, 25, 26, 27, 28, 29, 30, 31, 32, 33, 34, 35, 36, 37, 38] (fun s => [(6, s.2)]) (fun _ s H2 => ∃ P R cells, TrR l w h s.1 P ∧ HasRow H2 rp (cellsI P) true (2 * 3) ∧ HasRow H2 rr (cellsI R) true (2 * 3) ∧ R.length = w * h ∧ HasRow H2 Hs.n [.int .i64 (w : Int), .int .i64 (h : Int), .slice rp 0 (w * h) (some (w * h)) 1, .slice rr 0 (w * h) (some (w * h)) 1] true (2 * 83) ∧ OwnS H2 s.2 1 s.1.length cells 25 ∧ Lns H2 cells (s.1.map (lineQ w)) Hs.n ∧ Ext H H2 ∧ (∀ r off len cap sz, s.2 = .slice r off len cap sz → Hs.n ≤ r)) (fun s => 60 - s.1.length) ([], .nslice) rfl (fun _ => rfl) ⟨rfl, trivial⟩ ⟨surL l w h, List.replicate (w * h) 0, [], TrR.nil, inferInstance, inferInstance, List.length_replicate, inferInstance, ⟨Or.inl ⟨rfl, rfl, rfl⟩⟩, ⟨rfl, fun j hj => by cases hj⟩, Ext0.ext, fun r off len cap sz e => by cases e⟩ (by unfold fuel0 at hn; dsimp only; omega) ?_
 have hend : ∀ (H2 H3 : AHeap) (op : AVal), Ext H H2 → ExtP H2 H3 op → (∀ r off len cap sz, op = .slice r off len cap sz → Hs.n ≤ r) → Ext H H3 := fun H2 H3 op a b c => ⟨Nat.le_trans a.n b.n, fun r hr => by rw [b.get r (Nat.lt_of_lt_of_le hr a.n) ⟨fun r' _ _ _ _ e => by have := c _ _ _ _ _ e; have := hx0s.n; omega⟩, a.get r hr]⟩
 rintro ⟨qs, op⟩ g H2 ⟨P, R, cells, hT, kp2, kr2, hRl, kg2, ho, hL, hx2, hfo⟩
 dsimp only at hT ho hL hfo
 have hI := tr_inv hw0 hw hh0 hT
 haveI := kg2
 haveI := ho.sl
 haveI := ho.sl.one
 have n2 := hx2.n
 have nHs := kg2.lt
 simp only [↓nrmL, nrmZ, qe, ↓reduceIte, qa, ze, zn]
 by_cases h60 : qs.length = 60
 ·have hc : decide (((qs.length : Nat) : Int) < 60) = false := decide_eq_false (by omega)
  refine sq ?_
  refine sq ?_
  refine Fr.dregion0 rfl fun KF hKF => ?_
  repeat first | refine Fe.pure rfl (exec_lenP (by (try simp only [↓nrmL, nrmZ, qe, ↓reduceIte, qa, ze, zn, hc]); rfl)) rfl ?_ | refine Fe.pure rfl rfl (by simp only [↓nrmL, nrmZ, qe, ↓reduceIte, qa, ze, zn, hc]; rfl) ?_ | refine Fe.skip rfl ?_ | refine WpE.nil (hKF _ _ ?_)
  refine cf rfl ?_
  refine xi ?_
  refine sq ?_
  refine rg fun KF hKF => ?_
  refine mv ?_
  refine WpO.do (WpX.con (K_sortEnd hw0 hD hI hT (Or.inl (by omega)) hsort hcap ho hL) hnD rfl (by simp only [↓nrmL, nrmZ, qe, ↓reduceIte, qa, ze, zn, List.map] <;> rfl) fun v H3 h6 => ?_)
  obtain ⟨qs', b1, b2, b3⟩ := h6
  repeat first | refine mI ?_ | refine mv ?_ | refine nl hKF ?_ | refine sq ?_ | refine rg fun KF hKF => ?_ | refine rt ?_ | dsimp only
  refine rz trivial ?_
  exact ⟨op, qs', rfl, b1, b2, hend H2 H3 op hx2 b3 hfo⟩
 have h60' : qs.length < 60 := by have := hI.many; omega
 have hc : decide (((qs.length : Nat) : Int) < 60) = true := decide_eq_true (by omega)
 haveI : RowNe (rrV w h rr) Hs.n := ⟨fun r _ _ _ _ e => by cases e; omega⟩
 haveI := kp2
 haveI := kr2
 have hop2 : RowNe op rr := ho.tne kr2.get (by decide)
 have hop3 : RowNe op rp := ho.tne kp2.get (by decide)
 refine sq ?_
 refine sq ?_
 refine Fr.dregion0 rfl fun KF hKF => ?_
 repeat first | refine Er rfl (exec_ldN rfl rfl (by simp only [↓nrmL, nrmZ, qe, ↓reduceIte, qa, ze, zn, hc]; rfl)) rfl ?_ | refine Fe.pure rfl (exec_lenP (by (try simp only [↓nrmL, nrmZ, qe, ↓reduceIte, qa, ze, zn, hc]); rfl)) rfl ?_ | refine Fe.pure rfl rfl (by simp only [↓nrmL, nrmZ, qe, ↓reduceIte, qa, ze, zn, hc]; rfl) ?_
 refine Fe.con rfl hn rfl rfl (by simp only [↓nrmL, nrmZ, qe, ↓reduceIte, qa, ze, zn, List.map] <;> rfl) (K_measure hw hh hw0 hh0 hI.pos ⟨kp2, kr2, hI.len, hRl, nne⟩) fun v H3 h6 => ?_
 obtain ⟨rfl, hg3, hx3⟩ := h6
 rw [show mnL (colL (restL P w h) h 0) (h - 1) = leastP P w h from rfl]
 obtain ⟨M, hM⟩ : ∃ M, leastP P w h = M := ⟨_, rfl⟩
 rw [hM]
 have hMr : 0 ≤ M ∧ M ≤ 3840 := by
  obtain ⟨y, _, y2⟩ := least_in (P := P) hw0 hh0
  rw [← hM, ← y2]
  exact ⟨rest_pos (hI.pos.pos h) _ _, rest_max (hI.pos.pos h) _ _⟩
 have eM : IntKind.i64.wrap (8 * M) = 8 * M := w64 (by omega)
 haveI := hx3
 haveI := hg3.kp
 haveI := hg3.kr
 haveI : SepS op (rrV w h rr) := ⟨fun r _ _ _ _ r' _ _ _ _ e e' => by cases e'; exact hop2.ne _ _ _ _ _ e⟩
 haveI := ho
 have ho3 : OwnS H3 op 1 qs.length cells 25 := inferInstance
 have hL3 : Lns H3 cells (qs.map (lineQ w)) Hs.n := hL.keep hx3.n fun s cs hs hB hg => hx3.get s hs ⟨fun r _ _ _ _ e => by cases e; omega⟩
 have hx03 : Ext H H3 := ⟨Nat.le_trans hx2.n hx3.n, fun r hr => by rw [hx3.get r (Nat.lt_of_lt_of_le hr hx2.n) ⟨fun r' _ _ _ _ e => by cases e; omega⟩, hx2.get r hr]⟩
 have n3 := hx3.n
 refine ar ?_
 cases hcM : decide (8 * M ≤ (w : Int))
 ·have hcM2 := of_decide_eq_false hcM
  simp only [↓nrmL, nrmZ, qe, ↓reduceIte, qa, ze, zn, eM, hcM]
  repeat first | refine Er rfl (exec_ld rfl rfl) rfl ?_ | refine Fe.pure rfl rfl (by simp only [↓nrmL, nrmZ, qe, ↓reduceIte, qa, ze, zn, eM, hcM]; rfl) ?_ | refine WpE.nil (hKF _ _ ?_)
  refine cf rfl ?_
  refine xi ?_
  refine sq ?_
  refine rg fun KF hKF => ?_
  refine mv ?_
  refine WpO.do (WpX.con (K_sortEnd hw0 hD hI hT (Or.inr (by rw [hM]; omega)) hsort hcap ho3 hL3) hnD rfl (by simp only [↓nrmL, nrmZ, qe, ↓reduceIte, qa, ze, zn, List.map] <;> rfl) fun v H4 h6 => ?_)
  obtain ⟨qs', b1, b2, b3⟩ := h6
  haveI := ho3.sl.one
  repeat first | refine mI ?_ | refine mv ?_ | refine nl hKF ?_ | refine sq ?_ | refine rg fun KF hKF => ?_ | refine rt ?_ | dsimp only
  refine rz trivial ?_
  exact ⟨op, qs', rfl, b1, b2, hend H3 H4 op hx03 b3 hfo⟩
 have hcM2 := of_decide_eq_true hcM
 simp only [↓nrmL, nrmZ, qe, ↓reduceIte, qa, ze, zn, eM, hcM]
 repeat first | refine Er rfl (exec_ld rfl rfl) rfl ?_ | refine Fe.pure rfl rfl (by simp only [↓nrmL, nrmZ, qe, ↓reduceIte, qa, ze, zn, eM, hcM]; rfl) ?_ | refine WpE.nil (hKF _ _ ?_)
 refine ct rfl ?_
 refine sk ?_
 refine Wp.block ?_
 refine sq ?_
 refine rg fun KF hKF => ?_
 refine Fo.ldN rfl rfl (by simp only [↓nrmL, nrmZ, qe, ↓reduceIte, qa, ze, zn]; rfl) ?_
 refine WpO.do (WpX.conD hn rfl rfl (by simp only [↓nrmL, nrmZ, qe, ↓reduceIte, qa, ze, zn, List.map] <;> rfl) (K_follow hw hh hw0 hh0 hI.pos hg3 (by rw [show mnL (colL (restL P w h) h 0) (h - 1) = leastP P w h from rfl, hM]; omega)) fun v H4 h7 => ?_)
 obtain ⟨y0, hy0, hy1, hy2, ⟨rq, rfl, hkq, hrq⟩, hx4⟩ := h7
 rw [show mnL (colL (restL P w h) h 0) (h - 1) = leastP P w h from rfl] at hy1 hy2
 haveI : ExtI H3 H4 := ⟨hx4⟩
 have hpth := fol_path (hI.pos.pos h) hh0 hy0 (by rw [hy1, hM]; omega)
 have n4 := hx4.n
 have nrq := hkq.lt
 haveI := hkq
 refine mv ?_
 refine nl hKF ?_
 refine sq ?_
 refine rg fun KF hKF => ?_
 refine Fo.ldN rfl rfl (by simp only [↓nrmL, nrmZ, qe, ↓reduceIte, qa, ze, zn]; rfl) ?_
 refine mv ?_
 have kp4 : HasRow H4 rp (cellsI P) true (2 * 3) := inferInstance
 obtain ⟨q, hq⟩ : ∃ q, folF (priF P h) w h y0 = q := ⟨_, rfl⟩
 have epl : pathL P w h y0 = lineQ w q := by unfold pathL lineQ; rw [hq]
 rw [epl] at hkq
 rw [hq] at hpth
 refine WpO.do (WpX.conD hn rfl rfl (by simp only [↓nrmL, nrmZ, qe, ↓reduceIte, qa, ze, zn, List.map] <;> rfl) (K_forbid (q := q) hw hh hw0 hh0 hI.len kp4 hkq (by omega) (lineQ_len w q) (fun x hx => ⟨lineQ_at hx, hpth.row x hx⟩)) fun v H5 h8 => ?_)
 obtain ⟨kp5, hx5⟩ := h8
 haveI := kp5
 haveI := hx5
 haveI : RowNe (rrV w h rp) Hs.n := ⟨fun r _ _ _ _ e => by cases e; omega⟩
 haveI : RowNe (rrV w h rp) rr := ⟨fun r _ _ _ _ e => by cases e; omega⟩
 haveI : RowNe (rrV w h rp) rq := ⟨fun r _ _ _ _ e => by cases e; omega⟩
 haveI : SepS op (rrV w h rp) := ⟨fun r _ _ _ _ r' _ _ _ _ e e' => by cases e'; exact hop3.ne _ _ _ _ _ e⟩
 haveI ho4 : OwnS H4 op 1 qs.length cells 25 := inferInstance
 have ho5 : OwnS H5 op 1 qs.length cells 25 := inferInstance
 have kq5 : HasRow H5 rq (cellsI (lineQ w q)) true (2 * 3) := ⟨Nat.lt_of_lt_of_le hkq.lt hx5.n, by rw [hx5.get rq hkq.lt inferInstance]; exact hkq.get⟩
 have hL4 : Lns H4 cells (qs.map (lineQ w)) Hs.n := hL3.keep hx4.n fun s cs hs hB hg => hx4.get s hs
 have hL5 : Lns H5 cells (qs.map (lineQ w)) Hs.n := hL4.keep hx5.n fun s cs hs hB hg => hx5.get s hs ⟨fun r _ _ _ _ e => by cases e; omega⟩
 have hx04 := hx03.trans hx4
 have hx05 : Ext H H5 := ⟨Nat.le_trans hx04.n hx5.n, fun r hr => by rw [hx5.get r (Nat.lt_of_lt_of_le hr hx04.n) ⟨fun r' _ _ _ _ e => by cases e; omega⟩, hx04.get r hr]⟩
 have n5 := hx5.n
 haveI := ho5.sl.one
 refine nl hKF ?_
 refine rg fun KF hKF => ?_
 refine mv ?_
 refine mv ?_
 refine Fo.bslice rfl (by simp only [↓nrmL, nrmZ, qe, ↓reduceIte, qa, ze, zn]; rfl) ?_
 refine WpO.do (WpX.growX (p := op) (q := .slice H5.n 0 1 (some 1) 1) (k := 1) (new := [.slice rq 0 w (some w) 1]) rfl rfl (by infer_instance) (row_one1 (inferInstance : HasRow _ H5.n [.slice rq 0 w (some w) 1] true (2 * 25))) (by decide) (by decide) (by decide) (by omega) (by rfl) fun op' H9 ho2 hf2 hx9 => ?_)
 haveI := ho2.sl.one
 haveI := hx9
 refine mv ?_
 refine nl hKF ?_
 dsimp only
 have n9 := hx9.n
 simp only [AHeap.push] at n9
 have kr5 : HasRow H5 rr (cellsI (restL P w h)) true (2 * 3) := inferInstance
 have kg5 : HasRow H5 Hs.n [.int .i64 (w : Int), .int .i64 (h : Int), .slice rp 0 (w * h) (some (w * h)) 1, .slice rr 0 (w * h) (some (w * h)) 1] true (2 * 83) := inferInstance
 haveI : RowNe op rp := ho5.tne kp5.get (by decide)
 haveI : RowNe op rr := ho5.tne kr5.get (by decide)
 haveI : RowNe op Hs.n := ho5.tne kg5.get (by decide)
 have keep : ∀ s cs, s < H5.n → H5.get s = .row cs true (2 * 3) → H9.get s = H5.get s := fun s cs hs hg => by
  rw [hx9.get s (by simp only [AHeap.push]; omega) (ho5.tne hg (by decide)), push_get_lt hs]
 have hL9 : Lns H9 cells (qs.map (lineQ w)) Hs.n := hL5.keep (by omega) fun s cs hs hB hg => keep s cs hs hg
 have kq9 : HasRow H9 rq (cellsI (lineQ w q)) true (2 * 3) := ⟨by have := kq5.lt; omega, by rw [keep rq _ kq5.lt kq5.get]; exact kq5.get⟩
 have hsn := hL9.snoc kq9 (by omega)
 rw [lineQ_len] at hsn
 have hfo5 : Ext H H9 := ⟨by omega, fun r hr => by
  rw [hx9.get r (by simp only [AHeap.push]; omega) ⟨fun r' _ _ _ _ e => by have := hfo _ _ _ _ _ e; omega⟩, push_get_lt (by omega), hx05.get r hr]⟩
 refine ⟨(qs ++ [q], op'), by dsimp only; rw [List.length_append]; simp only [List.length_singleton]; omega, ⟨rfl, trivial⟩, forA P q w h, restL P w h, cells ++ [.slice rq 0 w (some w) 1], ?_, inferInstance, inferInstance, rest_len _ _ _, inferInstance, ?_, ?_, hfo5, fun r _ _ _ _ e => by have := hf2.ge _ _ _ _ _ e; simp only [AHeap.push] at this; omega⟩
 ·rw [← hq]
  exact TrR.snoc hT h60' (by rw [hM]; exact hcM2) hy0 hy1 hy2
 ·dsimp only
  rw [List.length_append, List.length_singleton]
  exact ho2
 ·dsimp only
  rw [List.map_append]
  exact hsn
end Go.Am

namespace Go.Am
open Go
end Go.Am

namespace Go.Am
open Go
section
variable {call : ACall} {its : List DItem} {H0 : AHeap} {n ref : Nat} {E : List (Nat × AHeap)} {Rd : List (Nat × (AHeap → Bool))} {fr : AFrame} {H : AHeap} {K : AFrame → AHeap → Prop} {g : Option (Nat × Bool)} {b : Nat} {pre : Bool}
theorem WpE.grow {d : Option Nat} {e : TypeId} {x y : ROpd} {p q : AVal} {sz m k bytes : Nat} {cs new : List AVal} (hw : ROper.wanted fr ⟨d, .append e sz bytes x y, g⟩ = true) (hx : x.ev fr = p) (hy : y.ev fr = q) [h : OwnS H p sz m cs e] [hq : SliceAt H q sz k new] (hsz : 0 < sz) (hb : 0 < bytes) (hk : 0 < k) (hroom : 2 * (m + k) * bytes ≤ 2 ^ 48) (hone : new.all AVal.one = true)
    (hK : ∀ p' H', OwnS H' p' sz (m + k) (cs ++ new) e → FreshS H p' → ExtP H H' p → AllR b H' Rd ∧ WpE call (n + 1) ref its H0 ((n, H) :: E) Rd (put fr d p') H' K) : WpE call n ref (⟨⟨d, .append e sz bytes x y, g⟩, b, 2, pre⟩ :: its) H0 E Rd fr H K := by
  obtain ⟨p', H1, h1, h2, h3, h4⟩ := WpX.grow (call := call) (K := fun v H1 => OwnS H1 v sz (m + k) (cs ++ new) e ∧ FreshS H v ∧ ExtP H H1 p) hx hy hsz hb hk hroom hone fun p' H' q1 q2 q3 => ⟨q1, q2, q3⟩
  obtain ⟨h5, h6⟩ := hK p' H1 h2 h3 h4
  exact WpE.effect hw h1 h5 h6
end
end Go.Am

namespace Go.Am
open Go
def fwdF (P : Nat → Nat → Int) (q : Nat → Nat) : Nat → Int
  | 0 => 0
  | k + 1 => fwdF P q k + P k (q k) + (if 0 < k then chg (q (k - 1)) (q k) else 0)
theorem fwd_cost {P : Nat → Nat → Int} {w : Nat} {q : Nat → Nat} : ∀ d, d < w → fwdF P q (w - 1 - d) + (if 0 < w - 1 - d then chg (q (w - 1 - d - 1)) (q (w - 1 - d)) else 0) + costF P w q d = fwdF P q w
  | 0, hd => by
    obtain ⟨k, rfl⟩ : ∃ k, w = k + 1 := ⟨w - 1, by omega⟩
    simp only [fwdF, costF, Nat.add_sub_cancel, Nat.sub_zero]
    omega
  | d + 1, hd => by
    have ih := fwd_cost (P := P) (w := w) (q := q) d (by omega)
    obtain ⟨k, hk⟩ : ∃ k, w - 1 - (d + 1) = k := ⟨_, rfl⟩
    have e1 : w - 1 - d = k + 1 := by omega
    rw [e1] at ih
    simp only [costF]
    rw [hk, e1]
    rw [if_pos (Nat.succ_pos k), Nat.add_sub_cancel] at ih
    simp only [fwdF] at ih
    omega
theorem fwd_all {P : Nat → Nat → Int} {w : Nat} {q : Nat → Nat} (hw : 0 < w) : fwdF P q w = costF P w q (w - 1) := by
  have := fwd_cost (P := P) (w := w) (q := q) (w - 1) (by omega)
  rw [Nat.sub_self, if_neg (by omega)] at this
  simp only [fwdF] at this
  omega
theorem fwd_bd {P : Nat → Nat → Int} {q : Nat → Nat} (hP : ∀ x y, 0 ≤ P x y ∧ P x y ≤ 2) : ∀ k, 0 ≤ fwdF P q k ∧ fwdF P q k ≤ 3 * (k : Int)
  | 0 => by simp [fwdF]
  | k + 1 => by
    have h1 := fwd_bd (q := q) hP k
    have h2 := hP k (q k)
    have h3 : 0 ≤ (if 0 < k then chg (q (k - 1)) (q k) else 0) ∧ (if 0 < k then chg (q (k - 1)) (q k) else 0) ≤ 1 := by
      unfold chg
      split
      · split <;> omega
      · omega
    simp only [fwdF]
    omega
theorem prB_bd (l : List UInt8) (i : Nat) : 0 ≤ prB l i ∧ prB l i ≤ 2 := by unfold prB; split <;> omega
theorem no_cross {w h : Nat} {p q : Nat → Nat} (hp : PathF w h p) (hq : PathF w h q) (hn : ∀ x, x < w → ¬ near p x (q x)) (h0 : p 0 < q 0) : ∀ x, x < w → p x + 3 ≤ q x
  | 0, hx => by have := hn 0 hx; unfold near at this; omega
  | x + 1, hx => by
    have ih := no_cross hp hq hn h0 x (by omega)
    have h1 := hp.near x hx
    have h2 := hq.near x hx
    have h3 := hn (x + 1) hx
    unfold near at h3
    omega
theorem TrI.apart2 {l : List UInt8} {w h : Nat} {qs : List (Nat → Nat)} {P : List Int} (hI : TrI l w h qs P) {i j : Nat} (hi : i < qs.length) (hj : j < qs.length) (hne : i ≠ j) {x : Nat} (hx : x < w) : ¬ near qs[i] x (qs[j] x) := by
  rcases Nat.lt_or_gt_of_ne hne with h1 | h1
  · exact hI.apart i j hi hj x hx h1
  · have := hI.apart j i hj hi x hx h1
    unfold near at *
    omega
theorem TrD.lines {l : List UInt8} {w h : Nat} {qs' : List (Nat → Nat)} (hw : 0 < w) (hw640 : w ≤ 640) (hh : 0 < h) (hD : TrD l w h qs') : (∀ i (hi : i < qs'.length), PathF w h qs'[i] ∧ 8 * costF (fun x y => prB l (y * w + x)) w qs'[i] (w - 1) ≤ (w : Int)) ∧ ∀ i j (hi : i < qs'.length) (hj : j < qs'.length), i < j → ∀ x, x < w → qs'[i] x + 3 ≤ qs'[j] x := by
  obtain ⟨qs, P, hT, hE, hl, h1, h2, h3⟩ := hD.it
  have hI := tr_inv hw hw640 hh hT
  have a1 : ∀ i (hi : i < qs'.length), PathF w h qs'[i] ∧ 8 * costF (fun x y => prB l (y * w + x)) w qs'[i] (w - 1) ≤ (w : Int) := fun i hi => by
    obtain ⟨j, hj, e⟩ := h1 i hi
    rw [e]
    obtain ⟨m, m1, m2⟩ := hI.cheap j hj
    exact ⟨hI.path j hj, by rw [m2]; exact m1⟩
  refine ⟨a1, fun i j hi hj hij x hx => ?_⟩
  refine no_cross (a1 i hi).1 (a1 j hj).1 (fun t ht => ?_) (h3 i j hi hj hij) x hx
  obtain ⟨i2, hi2, e1⟩ := h1 i hi
  obtain ⟨j2, hj2, e2⟩ := h1 j hj
  have hne : i2 ≠ j2 := fun e => by
    subst e
    have := h3 i j hi hj hij
    rw [e1, e2] at this; omega
  rw [e1, e2]
  exact hI.apart2 hi2 hj2 hne ht
theorem TrR.first {l : List UInt8} {w h : Nat} {qs : List (Nat → Nat)} {P : List Int} (hw : 0 < w) (hw640 : w ≤ 640) (hh : 0 < h) (hT : TrR l w h qs P) {p : Nat → Nat} (hp : PathF w h p) : (qs = [] → P = surL l w h) ∧ ∀ (h0 : 0 < qs.length), costF (fun x y => prB l (y * w + x)) w qs[0] (w - 1) ≤ costF (fun x y => prB l (y * w + x)) w p (w - 1) := by
  induction hT with
  | nil => exact ⟨fun _ => rfl, fun h0 => by cases h0⟩
  | @snoc qs P y0 hT0 hl hm hy hr hf ih =>
    refine ⟨fun e => by simp at e, fun h0 => ?_⟩
    by_cases hq : 0 < qs.length
    · rw [List.getElem_append_left hq]; exact ih.2 hq
    · have hq0 : qs = [] := List.eq_nil_of_length_eq_zero (by omega)
      subst hq0
      have hP0 := ih.1 rfl
      subst hP0
      have hI := tr_inv hw hw640 hh hT0
      have hP := hI.pos.pos h
      simp only [List.nil_append, List.getElem_cons_zero]
      have hlt : restF (priF (surL l w h) h) w h (w - 1) y0 < 1920 := by rw [hr]; omega
      have hpath := fol_path hP hh hy hlt
      have hcost := fol_cost hP hh hy hlt (w - 1) (by omega)
      rw [Nat.sub_self] at hcost
      have hc0 : folF (priF (surL l w h) h) w h y0 0 = y0 := rfl
      rw [hc0, hr] at hcost
      have c1 : ∀ q : Nat → Nat, PathF w h q → costF (priF (surL l w h) h) w q (w - 1) = costF (fun x y => prB l (y * w + x)) w q (w - 1) := fun q hq => cost_congr (fun x hx => surL_at hx (hq.row x hx)) (w - 1) (by omega)
      rw [← c1 _ hpath, ← c1 _ hp, hcost]
      have h5 := rest_le (P := priF (surL l w h) h) hp (w - 1) (by omega)
      have h6 := least_le (P := surL l w h) hw (hp.row 0 hw)
      rw [Nat.sub_self] at h5
      omega
theorem TrD.least {l : List UInt8} {w h : Nat} {qs' : List (Nat → Nat)} (hw : 0 < w) (hw640 : w ≤ 640) (hh : 0 < h) (hh170 : h ≤ 170) (hD : TrD l w h qs') {p : Nat → Nat} (hp : PathF w h p) : (qs'.length = 0 → (w : Int) < 8 * costF (fun x y => prB l (y * w + x)) w p (w - 1)) ∧ (0 < qs'.length → ∃ i, ∃ (hi : i < qs'.length), costF (fun x y => prB l (y * w + x)) w qs'[i] (w - 1) ≤ costF (fun x y => prB l (y * w + x)) w p (w - 1)) := by
  obtain ⟨qs, P, hT, hE, hl, h1, h2, h3⟩ := hD.it
  have hI := tr_inv hw hw640 hh hT
  have hF := hT.first hw hw640 hh hp
  constructor
  · intro e
    have hq0 : qs = [] := List.eq_nil_of_length_eq_zero (by omega)
    have hP0 := hF.1 hq0
    subst hq0 hP0
    rcases hE with hE | hE
    · simp at hE
    · have c1 : costF (priF (surL l w h) h) w p (w - 1) = costF (fun x y => prB l (y * w + x)) w p (w - 1) := cost_congr (fun x hx => surL_at hx (hp.row x hx)) (w - 1) (by omega)
      have h5 := rest_le (P := priF (surL l w h) h) hp (w - 1) (by omega)
      have h6 := least_le (P := surL l w h) hw (hp.row 0 hw)
      rw [Nat.sub_self] at h5
      omega
  · intro e
    obtain ⟨i, hi, e2⟩ := h2 0 (by omega)
    exact ⟨i, hi, by rw [e2]; exact hF.2 (by omega)⟩
def LastI (H : AHeap) (p : AVal) (l : List Int) : Prop := OwnS H p 1 l.length (cellsI l) 3 ∨ ∃ r e, p = .slice r 0 l.length (some l.length) 1 ∧ HasRow H r (cellsI l) true e ∧ 0 < l.length
theorem LastI.ints {H : AHeap} {p : AVal} {l : List Int} (h : LastI H p l) : IntsI H p l := by
  rcases h with h | ⟨r, e, rfl, h2, h3⟩
  · exact h.sl
  · exact ⟨Or.inr ⟨r, 0, some l.length, cellsI l, true, e, rfl, h2.lt, h2.get, by rw [cellsI_length]; omega, by rw [List.drop_zero, Nat.mul_one, ← cellsI_length l, List.take_length], Nat.le_refl _⟩⟩
theorem LastI.ext {H H' : AHeap} {p : AVal} {l : List Int} (h : LastI H p l) (x : Ext H H') : LastI H' p l := by
  haveI : ExtI H H' := ⟨x⟩
  rcases h with h | ⟨r, e, rfl, h2, h3⟩
  · exact Or.inl inferInstance
  · exact Or.inr ⟨r, e, rfl, inferInstance, h3⟩
section
variable {call : ACall} {its : List DItem} {H0 : AHeap} {n ref : Nat} {E : List (Nat × AHeap)} {Rd : List (Nat × (AHeap → Bool))} {fr : AFrame} {H : AHeap} {K : AFrame → AHeap → Prop} {g : Option (Nat × Bool)} {b : Nat} {pre : Bool}
end
end Go.Am

namespace Go.Am
open Go
def nv (r : Int) : Int := if r < 1920 then r else 1000000000
structure FbR (l fb : List UInt8) (P : List Int) (w h : Nat) : Prop where
  yes : ∀ x y, x < w → y < h → fb.getD (y * w + x) 0 = 1 → priF P h x y = 1920
  no : ∀ x y, x < w → y < h → fb.getD (y * w + x) 0 ≠ 1 → priF P h x y = prB l (y * w + x)
theorem FbR.or {l fb : List UInt8} {P : List Int} {w h : Nat} (hF : FbR l fb P w h) {x y : Nat} (hx : x < w) (hy : y < h) : priF P h x y = 1920 ∨ priF P h x y = prB l (y * w + x) := by
  by_cases e : fb.getD (y * w + x) 0 = 1
  · exact Or.inl (hF.yes x y hx hy e)
  · exact Or.inr (hF.no x y hx hy e)
theorem rest_real {l fb : List UInt8} {P : List Int} {w h : Nat} (hP : PosL P) (hF : FbR l fb P w h) (hh : 0 < h) : ∀ d y, d < w → y < h → restF (priF P h) w h d y < 1920 → restF (priF P h) w h d y ≤ 3 * ((d : Int) + 1) - 1
  | 0, y, hd, hy, hr => by
    simp only [restF] at hr ⊢
    rcases hF.or (x := w - 1) (by omega) hy with e | e
    · omega
    · have := prB_bd l (y * w + (w - 1)); omega
  | d + 1, y, hd, hy, hr => by
    simp only [restF] at hr ⊢
    have hnp : 0 ≤ (nxF (restF (priF P h) w h d) h y).2 := nxTo_pos (rest_pos (hP.pos h) d) _
    have hpp := ((hP.pos h).it (w - 1 - (d + 1)) y).1
    obtain ⟨a1, a2, a3, a4, a5⟩ := nx_at (c := restF (priF P h) w h d) hh (by omega : (nxF (restF (priF P h) w h d) h y).2 < 1920)
    have hc := chg_pos y (nxF (restF (priF P h) w h d) h y).1
    have hc1 : chg y (nxF (restF (priF P h) w h d) h y).1 ≤ 1 := by unfold chg; split <;> omega
    have ih := rest_real hP hF hh d (nxF (restF (priF P h) w h d) h y).1 (by omega) a3 (by omega)
    rcases hF.or (x := w - 1 - (d + 1)) (by omega) hy with e | e
    · omega
    · have := prB_bd l (y * w + (w - 1 - (d + 1)))
      omega
def outG (b t : Int) : Int := if t < 1920 then b + t else 1000000000
def outV (b : Int) (c : Nat → Int) (y k : Nat) : Int := outG b (nxTo c y (loB y) k).2
theorem outV_zero (b : Int) (c : Nat → Int) (y : Nat) : outV b c y 0 = 1000000000 := rfl
theorem outV_skip {b : Int} {c : Nat → Int} {y k : Nat} (h : 1920 ≤ c (loB y + k)) : outV b c y (k + 1) = outV b c y k := by
  have h1 := nxTo_cap (c := c) (y := y) (lo := loB y) k
  have h2 := chg_pos y (loB y + k)
  unfold outV
  have e : nxTo c y (loB y) (k + 1) = nxTo c y (loB y) k := by
    simp only [nxTo]
    rw [if_neg (by omega)]
  rw [e]
theorem outV_take {b : Int} {c : Nat → Int} {y k : Nat} (h0 : 0 ≤ c (loB y + k)) (h : c (loB y + k) ≤ 1917) (hb : 0 ≤ b ∧ b ≤ 2) : (if b + c (loB y + k) + chg y (loB y + k) < outV b c y k then b + c (loB y + k) + chg y (loB y + k) else outV b c y k) = outV b c y (k + 1) := by
  have h2 := chg_pos y (loB y + k)
  have h3 : chg y (loB y + k) ≤ 1 := by unfold chg; split <;> omega
  have h1 := nxTo_cap (c := c) (y := y) (lo := loB y) k
  unfold outV
  by_cases e : c (loB y + k) + chg y (loB y + k) < (nxTo c y (loB y) k).2
  · have e1 : nxTo c y (loB y) (k + 1) = (loB y + k, c (loB y + k) + chg y (loB y + k)) := by
      simp only [nxTo]
      rw [if_pos e]
    rw [e1]
    unfold outG
    dsimp only
    rw [if_pos (show c (loB y + k) + chg y (loB y + k) < 1920 by omega)]
    by_cases e2 : (nxTo c y (loB y) k).2 < 1920
    · rw [if_pos e2, if_pos (by omega)]; omega
    · rw [if_neg e2, if_pos (by omega)]; omega
  · have e1 : nxTo c y (loB y) (k + 1) = nxTo c y (loB y) k := by
      simp only [nxTo]
      rw [if_neg e]
    rw [e1]
    have e2 : (nxTo c y (loB y) k).2 < 1920 := by omega
    unfold outG
    rw [if_pos e2, if_neg (by omega)]
theorem outV_end {l fb : List UInt8} {P : List Int} {w h d y : Nat} (hP : PosL P) (hF : FbR l fb P w h) (hh : 0 < h) (hw : w ≤ 640) (hd : d + 1 < w) (hy : y < h) (hn : fb.getD (y * w + (w - 1 - (d + 1))) 0 ≠ 1) : outV (prB l (y * w + (w - 1 - (d + 1)))) (restF (priF P h) w h d) y (hiB h y + 1 - loB y) = nv (restF (priF P h) w h (d + 1) y) := by
  have e : priF P h (w - 1 - (d + 1)) y = prB l (y * w + (w - 1 - (d + 1))) := hF.no _ y (by omega) hy hn
  have hb := prB_bd l (y * w + (w - 1 - (d + 1)))
  have er : restF (priF P h) w h (d + 1) y = prB l (y * w + (w - 1 - (d + 1))) + (nxF (restF (priF P h) w h d) h y).2 := by
    simp only [restF]
    rw [e]
  rw [er]
  unfold outV
  have hx : (nxTo (restF (priF P h) w h d) y (loB y) (hiB h y + 1 - loB y)) = nxF (restF (priF P h) w h d) h y := rfl
  rw [hx]
  unfold outG nv
  by_cases h1 : (nxF (restF (priF P h) w h d) h y).2 < 1920
  · obtain ⟨a1, a2, a3, a4, a5⟩ := nx_at (c := restF (priF P h) w h d) hh h1
    have hc := chg_pos y (nxF (restF (priF P h) w h d) h y).1
    have hc1 : chg y (nxF (restF (priF P h) w h d) h y).1 ≤ 1 := by unfold chg; split <;> omega
    have := rest_real hP hF hh d (nxF (restF (priF P h) w h d) h y).1 (by omega) a3 (by omega)
    rw [if_pos h1, if_pos (by omega)]
  · have := nx_cap (restF (priF P h) w h d) h y
    rw [if_neg h1, if_neg (by omega)]
def nvL (P : List Int) (w h d : Nat) : List Int := (List.range h).map fun y => nv (restF (priF P h) w h d y)
theorem nvL_len (P : List Int) (w h d : Nat) : (nvL P w h d).length = h := by simp [nvL]
theorem nvL_at {P : List Int} {w h d y : Nat} (hy : y < h) : (nvL P w h d).getD y 0 = nv (restF (priF P h) w h d y) := by
  rw [getD_at (by rw [nvL_len]; exact hy)]
  simp [nvL]
theorem nv_never {r : Int} (h : r ≤ 3840) (h0 : 0 ≤ r) : (nv r == 1000000000) = decide (1920 ≤ r) := by
  unfold nv
  by_cases e : r < 1920
  · rw [if_pos e, decide_eq_false (by omega)]
    simp; omega
  · rw [if_neg e, decide_eq_true (by omega)]; rfl
end Go.Am

namespace Go.Am
open Go
attribute [local irreducible] Wp WpO WpX WpE
theorem StvR.lines {H : AHeap} {sp : AVal} {ls : List (List Int)} {B : Nat} (h : StvR H sp ls B) : LinesI H sp ls := by
 obtain ⟨r, ps, e, h1, h2, h3, h4, h5, h6⟩ := h.it
 refine ⟨ps, ?_, ⟨fun i hi => ?_⟩⟩
 ·rw [h1]
  exact ⟨Or.inr ⟨r, 0, none, ps, true, e, rfl, h2.lt, h2.get, by omega, by rw [List.drop_zero, Nat.mul_one, ← h4, List.take_length], Nat.le_refl _⟩⟩
 ·obtain ⟨rj, a1, a2, a3⟩ := h6 i hi
  exact ⟨_, a1, row_ints a2 rfl⟩
theorem StvR.lo {H : AHeap} {sp : AVal} {ls : List (List Int)} {B : Nat} (h : StvR H sp ls B) : ∀ r off len cap sz, sp = .slice r off len cap sz → B ≤ r := by
 obtain ⟨r, ps, e, h1, h2, h3, h4, h5, h6⟩ := h.it
 intro r' off len cap sz e'
 rw [h1] at e'; cases e'; exact h5
end Go.Am

namespace Go.Am
open Go
attribute [local irreducible] Wp WpO WpX WpE
end Go.Am

namespace Go.Am
open Go
attribute [local irreducible] Wp WpO WpX WpE
end Go.Am

namespace Go.Am
open Go
attribute [local irreducible] Wp WpO WpX WpE
end Go.Am

namespace Go.Am
open Go
open Nat renaming reduceEqDiff → qe, reduceAdd → qa
open Int renaming reduceBEq → ze, reduceBNe → zn
attribute [local irreducible] Wp WpO WpX WpE
theorem pathB_line {w h : Nat} {q : Nat → Nat} (hw0 : 0 < w) (hq : PathF w h q) : pathB w h (lineQ w q) = true := by
 have hl := lineQ_len w q
 have h1 : okTo h (lineQ w q) (lineQ w q).length = true := by
  rw [hl]
  refine List.all_eq_true.2 fun x hx => ?_
  have hx := List.mem_range.1 hx
  have h2 := hq.row x hx
  unfold okAt
  rw [lineQ_at hx]
  have d1 : decide (0 ≤ (q x : Int)) = true := decide_eq_true (by omega)
  have d2 : decide ((q x : Int) < (h : Int)) = true := decide_eq_true (by omega)
  rw [d1, d2]
  cases x with
  | zero => rfl
  | succ x =>
   have h3 := hq.near x hx
   rw [Nat.add_sub_cancel, lineQ_at (by omega)]
   have d3 : decide ((q x : Int) - 1 ≤ (q (x + 1) : Int)) = true := decide_eq_true (by omega)
   have d4 : decide ((q (x + 1) : Int) ≤ (q x : Int) + 1) = true := decide_eq_true (by omega)
   rw [d3, d4]
   simp
 unfold pathB
 rw [h1, hl]
 have e1 : (w != 0) = true := by simp; omega
 rw [e1]
 simp
class LtF (x w : Nat) : Prop where
 out : x < w
abbrev prF (l : List UInt8) (w x y : Nat) : Int := prB l (y * w + x)
theorem K_CostOk {w h : Nat} {p pq : AVal} {H : AHeap} {l : List UInt8} {q : Nat → Nat} [hp : BytesI H p l] (hq : IntsI H pq (lineQ w q)) (ok : Ok w h l) (hw0 : 0 < w) (hpath : PathF w h q) : Con ext prog 5 15 [.agg [.int .i64 (w : Int), .int .i64 (h : Int), p], pq] H fun v H' => v = .tuple [.int .i64 (costF (prF l w) w q (w - 1)), .int .i64 0] ∧ Ext H H' := by
 refine con_of (show prog 15 = some c15 from rfl) rfl rfl fun n hn => ?_
 haveI := hp.one
 haveI := hq
 haveI := hq.one
 have he := ok.err
 have hw := ok.wa
 have hh := ok.hb
 haveI : Side w := ⟨hw⟩
 haveI : Side h := ⟨hh⟩
 have hpb := pathB_line hw0 hpath
 have hll := lineQ_len w q
 haveI hpr : ∀ (x : Nat) [LtF x w] (H : AHeap) [BytesI H p l], PureCon ext prog 52 [.agg [.int .i64 (w : Int), .int .i64 (h : Int), p], .int .i64 (x : Int), .int .i64 (q x : Int)] H 1 (.int .i64 (prB l (q x * w + x))) := fun x hx H hb => ⟨K_price hb hw hh ok.len hx.out (hpath.row x hx.out)⟩
 have hbd := fwd_bd (P := prF l w) (q := q) (fun x y => prB_bd l (y * w + x))
 repeat first | refine mI ?_ | refine mv ?_ | refine Fo.ldN rfl rfl (by simp only [↓nrmL, nrmZ, qe, ↓reduceIte, qa, ze, zn, he, hpb]; rfl) ?_ | refine bn rfl rfl rfl (by simp only [↓nrmL, nrmZ, qe, ↓reduceIte, qa, ze, zn, he, hpb]; rfl) ?_ | (refine Fo.pcall (v' := ?_) hn rfl (by simp only [↓nrmL, nrmZ, qe, ↓reduceIte, qa, ze, zn, he, hpb, List.map]; rfl) rfl ?hv fun _ _ => ?_; case hv => (simp only [he, hpb]; rfl)) | refine ln (by simp only [↓nrmL, nrmK, qe, ↓reduceIte]; rfl) ?_ | refine bA ?_ | refine Fo.now rfl rfl (by simp only [↓nrmL, nrmZ, qe, ↓reduceIte, qa, ze, zn, he, hpb]; rfl) ?_ | refine nl hKF ?_ | refine sq ?_ | refine rg fun KF hKF => ?_ | refine cf rfl ?_ | refine sk ?_ | refine Wp.block ?_ | dsimp only
 refine Wp.loopS [7, 8, 9, 21, 22, 23, 24, 25, 26, 27, 28, 29, 30, 31, 32, 33, 34, 35, 36, 37, 38, 39, 40, 41, 42, 43] (fun x : Nat => [(21, .int .i64 (x : Int)), (7, .int .i64 (fwdF (prF l w) q x))]) (fun H3 x H2 => x ≤ w ∧ Ext0 H3 H2) (fun x => w - x) 0 rfl (fun _ => rfl) ⟨rfl, rfl, trivial⟩ ⟨Nat.zero_le _, inferInstance⟩ (by unfold fuel0 at hn; omega) ?_
 rintro x g H2 ⟨hx, ⟨hxx⟩⟩
 haveI : ExtI _ H2 := ⟨hxx⟩
 simp only [↓nrmL, nrmZ, qe, ↓reduceIte, qa, ze, zn]
 cases hc : decide ((x : Int) < ((lineQ w q).length : Int))
 ·have hxe : x = w := by have := of_decide_eq_false hc; omega
  repeat first | refine mI ?_ | refine bn rfl rfl rfl (by simp only [hc]; rfl) ?_ | refine nl hKF ?_ | refine sq ?_ | refine rg fun KF hKF => ?_ | refine cf rfl ?_ | refine rt ?_ | refine xi ?_ | dsimp only
  refine rz trivial ?_
  exact ⟨by rw [hxe, fwd_all hw0]; rfl, Ext0.ext⟩
 have hxl : x < w := by have := of_decide_eq_true hc; omega
 haveI : LtF x w := ⟨hxl⟩
 have hxq : x < (lineQ w q).length := by omega
 have gx : (lineQ w q)[x] = (q x : Int) := by rw [← getD_at hxq]; exact lineQ_at hxl
 have hwx := wa1 (a := x) (by omega)
 have b1 := hbd x
 have b2 := prB_bd l (q x * w + x)
 have w1 : IntKind.i64.wrap (fwdF (prF l w) q x + prB l (q x * w + x)) = fwdF (prF l w) q x + prB l (q x * w + x) := w64 (by omega)
 cases hc2 : decide ((x : Int) > 0)
 ·have hx0 : ¬ 0 < x := by have := of_decide_eq_false hc2; omega
  have e1 : fwdF (prF l w) q (x + 1) = fwdF (prF l w) q x + prB l (q x * w + x) := by simp only [fwdF]; rw [if_neg hx0]; unfold prF; omega
  repeat first | refine mI ?_ | refine Fo.ldN rfl rfl (by simp only [↓nrmL, nrmZ, qe, ↓reduceIte, qa, ze, zn, hc, gx, w1, hc2, hwx]; rfl) ?_ | refine bn rfl rfl rfl (by simp only [hc, gx, w1, hc2, hwx]; rfl) ?_ | (refine Fo.pcall (v' := ?_) hn rfl (by simp only [↓nrmL, nrmZ, qe, ↓reduceIte, qa, ze, zn, hc, gx, w1, hc2, hwx, List.map]; rfl) rfl ?hv fun _ _ => ?_; case hv => rfl) | (refine Fo.idx (by simp only [↓nrmL, nrmK, qe, ↓reduceIte]; rfl) rfl ?_ (by simp only [↓nrmL, nrmZ, qe, ↓reduceIte, qa, ze, zn, hc, gx, w1, hc2, hwx]; rfl) ?_; (focus omega)) | (refine Fo.ldI rfl ?_ (by simp only [hc, gx, w1, hc2, hwx]; rfl) ?_; (focus omega)) | refine nl hKF ?_ | refine sq ?_ | refine rg fun KF hKF => ?_ | refine ct rfl ?_ | refine cf rfl ?_ | refine sk ?_ | refine Wp.block ?_ | dsimp only
  exact ⟨x + 1, by omega, ⟨rfl, by rw [e1]; rfl, trivial⟩, by omega, inferInstance⟩
 have hx0 : 0 < x := by have := of_decide_eq_true hc2; omega
 obtain ⟨x0, rfl⟩ : ∃ x0, x = x0 + 1 := ⟨x - 1, by omega⟩
 have e1 : fwdF (prF l w) q (x0 + 1 + 1) = fwdF (prF l w) q (x0 + 1) + prB l (q (x0 + 1) * w + (x0 + 1)) + chg (q x0) (q (x0 + 1)) := by
  conv => lhs; unfold fwdF
  rw [if_pos hx0, Nat.add_sub_cancel]
 have hxq0 : x0 < (lineQ w q).length := by omega
 have g0 : (lineQ w q)[x0] = (q x0 : Int) := by rw [← getD_at hxq0]; exact lineQ_at (by omega)
 have hs1 : IntKind.i64.wrap (((x0 + 1 : Nat) : Int) - 1) = (x0 : Int) := by rw [w64 (by omega)]; omega
 have b3 : 0 ≤ chg (q x0) (q (x0 + 1)) ∧ chg (q x0) (q (x0 + 1)) ≤ 1 := by unfold chg; split <;> omega
 have w2 : IntKind.i64.wrap (fwdF (prF l w) q (x0 + 1) + prB l (q (x0 + 1) * w + (x0 + 1)) + chg (q x0) (q (x0 + 1))) = fwdF (prF l w) q (x0 + 1 + 1) := by rw [w64 (by omega), e1]
 repeat first | refine mI ?_ | refine mv ?_ | refine Fo.ldN rfl rfl (by simp only [↓nrmL, nrmZ, qe, ↓reduceIte, qa, ze, zn, hc, gx, w1, hc2, g0, hs1, w2, hwx]; rfl) ?_ | refine bn rfl rfl rfl (by simp only [hc, gx, w1, hc2, g0, hs1, w2, hwx]; rfl) ?_ | (refine Fo.pcall (v' := ?_) hn rfl (by simp only [↓nrmL, nrmZ, qe, ↓reduceIte, qa, ze, zn, hc, gx, w1, hc2, g0, hs1, w2, hwx, List.map]; rfl) rfl ?hv fun _ _ => ?_; case hv => rfl) | (refine Fo.idx (by simp only [↓nrmL, nrmK, qe, ↓reduceIte]; rfl) rfl ?_ (by simp only [↓nrmL, nrmZ, qe, ↓reduceIte, qa, ze, zn, hc, gx, w1, hc2, g0, hs1, w2, hwx]; rfl) ?_; (focus omega)) | (refine Fo.ldI rfl ?_ (by simp only [hc, gx, w1, hc2, g0, hs1, w2, hwx]; rfl) ?_; (focus omega)) | refine nl hKF ?_ | refine sq ?_ | refine rg fun KF hKF => ?_ | refine ct rfl ?_ | refine sk ?_ | refine Wp.block ?_ | dsimp only
 exact ⟨x0 + 1 + 1, by omega, ⟨rfl, rfl, trivial⟩, by omega, inferInstance⟩
theorem K_TraceNone {w h : Nat} {p : AVal} {H : AHeap} {l : List UInt8} [hp : BytesI H p l] (ok : Ok w h l) (h0 : w = 0 ∨ h = 0) : Con ext prog 5 18 [.agg [.int .i64 (w : Int), .int .i64 (h : Int), p]] H fun v H' => v = .tuple [.nslice, .int .i64 0] ∧ Ext H H' := by
 refine con_of (show prog 18 = some c18 from rfl) rfl rfl fun n hn => ?_
 haveI := hp.one
 have he := ok.err
 have hl := ok.len
 have hl0 : (((l.length : Nat) : Int) == 0) = true := by rcases h0 with rfl | rfl <;> simp [hl]
 repeat first | refine mI ?_ | refine mN ?_ | refine fd ?_ | refine Fo.ld rfl rfl ?_ | refine Fo.ldN rfl rfl (by simp only [↓nrmL, nrmZ, qe, ↓reduceIte, qa, ze, zn, he, hl0]; rfl) ?_ | refine bn rfl rfl rfl (by simp only [he, hl0]; rfl) ?_ | refine bn rfl rfl rfl (by simp only [↓nrmL, nrmZ, qe, ↓reduceIte, qa, ze, zn, he, hl0]; rfl) ?_ | (refine Fo.pcall (v' := ?_) hn rfl (by simp only [↓nrmL, nrmZ, qe, ↓reduceIte, qa, ze, zn, he, hl0, List.map]; rfl) rfl ?hv fun _ _ => ?_; case hv => (simp only [he, hl0]; rfl)) | refine ln (by simp only [↓nrmL, nrmK, qe, ↓reduceIte]; rfl) ?_ | refine bA ?_ | refine nl hKF ?_ | refine sq ?_ | refine rg fun KF hKF => ?_ | refine ct rfl ?_ | refine cf rfl ?_ | refine sk ?_ | refine rt ?_ | dsimp only
 refine rz trivial ?_
 exact ⟨rfl, Ext0.ext⟩
end Go.Am

namespace Go.Am
open Go
end Go.Am

namespace Go.Am
open Go
open Nat renaming reduceEqDiff → qe, reduceAdd → qa
open Int renaming reduceBEq → ze, reduceBNe → zn
attribute [local irreducible] Wp WpO WpX WpE
theorem exec_emptyO {H : AHeap} {p : AVal} {sz k r bytes : Nat} {new : List AVal} {e0 : TypeId} (h : SliceAt H p sz k new) (g : HasRow H r [] true e0) (hsz : 0 < sz) (hb : 0 < bytes) (hk : 0 < k) (hroom : 2 * k * bytes ≤ 2 ^ 48) (hone : new.all AVal.one = true) (e : TypeId) :
  ∃ v H', aAppend e sz bytes (.slice r 0 0 (some 0) sz) p H = some (v, H') ∧ OwnS H' v sz k new e ∧ FreshS H v ∧ Ext H H' := by
 obtain ⟨hf1, hf2⟩ := aFirst_at h
 have hlen := h.len
 have hg1 := g.get
 have hg0 := g.lt
 have hs0 : ¬ sz = 0 := by omega
 have hb0 : ¬ bytes = 0 := by omega
 have ha : aRow r H = some (([], true), H) := by simp only [aRow, if_pos hg0, hg1]
 have key : aAppend e sz bytes (.slice r 0 0 (some 0) sz) p H = (if k = 0 then M.pure (.slice r 0 0 (some 0) sz) H else M.bind (aNew (.row new true (2 * e))) (fun r' => M.pure (.slice r' 0 (0 + k) none sz)) H) := by
  simp only [aAppend, hf1]
  rw [bind_of hf2]
  simp only [hone, hlen, Bool.not_true, ne_eq, not_true, decide_false, hs0, hb0, Bool.or_false, Bool.false_eq_true, if_false]
  rw [bind_of ha]
  have hk0 : ¬ k = 0 := by omega
  have hcap : ¬ (0 + k ≤ 0) := by omega
  have hcond : 0 + 0 * sz ≤ ([] : List AVal).length ∧ 2 * (0 + k) * bytes ≤ 2 ^ 48 := ⟨by simp, by rw [Nat.zero_add]; exact hroom⟩
  simp only [hk0, if_false, if_neg hcap]
  rw [if_pos hcond]
  have : (List.take (0 * sz) (List.drop 0 ([] : List AVal)) ++ new) = new := by simp
  rw [this]
 rw [key, if_neg (by omega)]
 refine ⟨.slice H.n 0 (0 + k) none sz, H.push (.row new true (2 * e)), rfl, ?_, ⟨fun r' _ _ _ _ e => by cases e; exact Nat.le_refl _⟩, (Ext.refl H).push _⟩
 rw [Nat.zero_add]
 exact ⟨Or.inr ⟨H.n, 2 * e, rfl, Nat.lt_succ_self _, push_get_eq, Nat.mul_div_cancel_left e (by decide), hlen, hk⟩⟩
theorem WpX.emptyO {call : ACall} {fr : AFrame} {H : AHeap} {K : AVal → AHeap → Prop} {e e0 : TypeId} {x y : ROpd} {p : AVal} {sz k r bytes : Nat} {new : List AVal} (hx : x.ev fr = .slice r 0 0 (some 0) sz) (hy : y.ev fr = p) (h : SliceAt H p sz k new) [g : HasRow H r [] true e0] (hsz : 0 < sz) (hb : 0 < bytes) (hk : 0 < k) (hroom : 2 * k * bytes ≤ 2 ^ 48) (hone : new.all AVal.one = true)
  (hK : ∀ v H', OwnS H' v sz k new e → FreshS H v → ExtI H H' → K v H') : WpX (.append e sz bytes x y) call fr H K := by
 obtain ⟨v, H', h1, h2, h3, h5⟩ := exec_emptyO h g hsz hb hk hroom hone e
 exact WpX.now (v := v) (H1 := H') (by simp only [ROp.exec, hx, hy]; exact h1) (hK v H' h2 h3 ⟨h5⟩)
theorem K_CloneI {p : AVal} {H : AHeap} {l : List Int} [hp : IntsI H p l] [hs : SlimI l] (h0 : l ≠ []) : Con ext prog 1 14 [p] H fun v H' => OwnS H' v 1 l.length (cellsI l) 3 ∧ FreshS H v ∧ Ext H H' := by
 refine con_of (show prog 14 = some c14 from rfl) rfl rfl fun n hn => ?_
 have hle := hs.le
 have hl0 : 0 < l.length := by cases l with | nil => exact absurd rfl h0 | cons a l => simp
 rcases hp.it with ⟨rfl, h0', _⟩ | ⟨r, off, cap, row, rw, e, rfl, hr, hg, hle', hc, _⟩
 ·omega
 ·skip
  repeat first | refine mN ?_ | refine mv ?_ | refine Fo.bslice rfl rfl ?_ | refine Fo.now rfl rfl (by simp only [↓nrmL, nrmZ, qe, ↓reduceIte, qa, ze, zn]; rfl) ?_ | refine nl hKF ?_ | refine sq ?_ | refine rg fun KF hKF => ?_ | refine cf rfl ?_ | refine sk ?_
  refine WpO.do (WpX.emptyO rfl (by simp only [↓nrmL, nrmZ, qe, ↓reduceIte, qa, ze, zn, List.map] <;> rfl) (inferInstance : IntsI _ _ l) (by decide) (by decide) hl0 (by omega) (cellsI_ones l) fun v H1 h1 h2 h3 => ?_)
  haveI := h1.sl.one
  refine mv ?_
  refine nl hKF ?_
  refine rt ?_
  dsimp only
  refine rz trivial ?_
  exact ⟨h1, h2.weak, Ext0.ext⟩
def StG (B : Nat) (H : AHeap) (q : AVal) (ls : List (List Int)) : Prop := ∃ cells, OwnS H q 1 ls.length cells 25 ∧ Copied B H cells ls ls.length ∧ ∀ r off len cap sz, q = .slice r off len cap sz → B ≤ r
theorem StG.lines {B : Nat} {H : AHeap} {q : AVal} {ls : List (List Int)} (h : StG B H q ls) : LinesI H q ls := by
 obtain ⟨cells, h1, h2, h3⟩ := h
 exact ⟨cells, h1.sl, ⟨fun i hi => by obtain ⟨p, a1, a2, a3⟩ := h2.it i hi hi; exact ⟨p, a1, a2.sl⟩⟩⟩
theorem StG.weak {B B' : Nat} {H : AHeap} {q : AVal} {ls : List (List Int)} (h : StG B H q ls) (hB : B' ≤ B) : StG B' H q ls := by
 obtain ⟨cells, h1, h2, h3⟩ := h
 exact ⟨cells, h1, ⟨fun i hi h4 => by obtain ⟨p, a1, a2, a3⟩ := h2.it i hi h4; exact ⟨p, a1, a2, fun r off len cap sz e => Nat.le_trans hB (a3 r off len cap sz e)⟩⟩, fun r off len cap sz e => Nat.le_trans hB (h3 r off len cap sz e)⟩
theorem StG.keep {B : Nat} {H H' : AHeap} {q : AVal} {ls : List (List Int)} (h : StG B H q ls) (hn : H.n ≤ H'.n) (hg : ∀ s cs e, s < H.n → B ≤ s → H.get s = .row cs true e → (e / 2 = 3 ∨ e / 2 = 25) → H'.get s = H.get s) : StG B H' q ls := by
 obtain ⟨cells, h1, h2, h3⟩ := h
 refine ⟨cells, ?_, h2.keep hn fun s cs e a b c d => hg s cs e a b c (Or.inl d), h3⟩
 rcases h1.it with ⟨a1, a2, a3⟩ | ⟨r, e', a1, a2, a3, a4, a5, a6⟩
 ·exact ⟨Or.inl ⟨a1, a2, a3⟩⟩
 ·exact ⟨Or.inr ⟨r, e', a1, by omega, by rw [hg r _ _ a2 (h3 _ _ _ _ _ a1) a3 (Or.inr a4)]; exact a3, a4, a5, a6⟩⟩
theorem StG.ext {B : Nat} {H H' : AHeap} {q : AVal} {ls : List (List Int)} (h : StG B H q ls) (x : Ext H H') : StG B H' q ls := h.keep x.n fun s _ _ a _ _ _ => x.get s a
end Go.Am
