import Derived.Test.YtlbgcpmiedjmoaaDoorAmBE
import Derived.Lib.Strings
set_option linter.unusedSimpArgs false
set_option linter.unusedVariables false
set_option maxHeartbeats 4000000
set_option maxRecDepth 100000
set_option synthInstance.maxHeartbeats 4000000
set_option synthInstance.maxSize 100000
namespace Go.Am
open Go
attribute [local irreducible] Wp WpO WpX WpE

end Go.Am

/- Texts as values, and the steps that use them. -/
set_option maxHeartbeats 4000000
set_option maxRecDepth 100000
namespace Go.Am
open Go
/- ===== texts as lists of bytes ===== -/
abbrev Bs := List UInt8
abbrev strV (l : Bs) : AVal := .str ⟨l.toArray⟩
theorem str_size (l : Bs) : (⟨l.toArray⟩ : ByteArray).size = l.length := by
  show l.toArray.size = l.length
  simp
section
variable {call : ACall} {fr : AFrame} {H : AHeap} {KF : AFrame → AHeap → Prop} {os : List ROper} {d : Nat}
theorem exec_lenStr {x : ROpd} {l : Bs} (hx : x.ev fr = strV l) : (ROp.lenStr x).exec call fr H = some (.int .i64 l.length, H) := by
  simp only [ROp.exec, hx, aLenStr, str_size, M.ofOption, M.pure]
theorem Fo.lenStr {x : ROpd} {l : Bs} {v : AVal} (hx : x.ev fr = strV l) (hv : AVal.int .i64 l.length = v) (h : WpO call os (upd fr d v) H KF) : WpO call (⟨some d, .lenStr x, none⟩ :: os) fr H KF := by
  subst hv; exact WpO.step rfl ⟨_, _, exec_lenStr hx, h⟩
end

theorem Fo.uptr {call : ACall} {fr : AFrame} {H : AHeap} {KF : AFrame → AHeap → Prop} {os : List ROper} {d : Nat} {t s r : Nat} {x : ROpd} {cs : List AVal} (hx : x.ev fr = .ptr r 0) [h : HasRow H r cs true (2 * t)] (hs : Nat.ble s cs.length = true) (h0 : Nat.blt 0 s = true) (hK : WpO call os (upd fr d (.ptr r 0)) H KF) :
    WpO call (⟨some d, .uptr t s x, none⟩ :: os) fr H KF := by
  refine WpO.step rfl ⟨.ptr r 0, H, ?_, hK⟩
  have h1 : Nat.blt r H.n = true := by simpa using h.lt
  have h2 : (Nat.blt r H.n && Nat.beq 0 0 && Nat.blt 0 s) = true := by rw [h1, h0]; rfl
  have h3 : (Nat.beq (2 * t) (2 * t) && Nat.ble s cs.length) = true := by rw [hs]; simp
  have h4 : aUptr t s (.ptr r 0) H = some (.ptr r 0, H) := by
    show (match Nat.blt r H.n && Nat.beq 0 0 && Nat.blt 0 s with
      | true => (match H.get r with
        | .row cs true e => (match Nat.beq e (2 * t) && Nat.ble s cs.length with
          | true => some (AVal.ptr r 0, H)
          | false => none)
        | _ => none)
      | false => none) = _
    rw [h2, h.get]
    simp only [h3]
  show aUptr t s (x.ev fr) H = _
  rw [hx, h4]
theorem WpX.yield {call : ACall} {fr : AFrame} {H : AHeap} {K : AVal → AHeap → Prop} {r : Nat} {o : ROpd} {l : List ROpd} {args : List AVal} (hf : o.ev fr = .yield r) (hl : l.map (·.ev fr) = args) (h : ∃ v H', call yieldId (.yield r :: args) H = some (v, H') ∧ K v H') : WpX (.call o l) call fr H K := by
  obtain ⟨v, H', h1, h2⟩ := h
  refine ⟨v, H', ?_, h2⟩
  simp only [ROp.exec, hf, hl, aCallV]
  exact h1
theorem exec_ldNP {call : ACall} {fr : AFrame} {H : AHeap} {a : ROpd} {p : AVal} {sz n j m : Nat} {cs l : List AVal} (ha : a.ev fr = .ptr (rowOf p) (offOf p + j)) [s : SliceAt H p sz n cs] (hm : 0 < m) (hv : j + m ≤ cs.length) (hl : (cs.drop j).take m = l) : (ROp.load (some m) a).exec call fr H = some (.agg l, H) := by
  obtain ⟨v, H', h1, h2, h3⟩ := WpX.ldNP (call := call) (K := fun v H' => v = .agg l ∧ H' = H) ha hm hv hl ⟨rfl, rfl⟩
  rw [h1, h2, h3]
end Go.Am

set_option maxHeartbeats 4000000
set_option maxRecDepth 100000
namespace Go.Am
open Go
attribute [local irreducible] Wp WpO WpX WpE

abbrev RunT := Int × Int × Int
def cellsR (l : List RunT) : List AVal := l.flatMap fun r => [.int .i64 r.1, .int .i64 r.2.1, .int .i64 r.2.2]
end Go.Am

set_option maxHeartbeats 4000000
set_option maxRecDepth 100000
set_option synthInstance.maxHeartbeats 4000000
set_option synthInstance.maxSize 100000
namespace Go.Am
open Go
attribute [local irreducible] Wp WpO WpX WpE

instance {H : AHeap} {r : Nat} {a b c : AVal} {rw : Bool} {ty : TypeId} [h : HasRow H r [a, b, c] rw ty] : SliceAt H (.slice r 0 1 (some 1) 3) 3 1 [a, b, c] := ⟨Or.inr ⟨r, 0, some 1, _, rw, ty, rfl, h.lt, h.get, by simp, rfl, Nat.le_refl _⟩⟩

/-- Between two rounds: the list so far in the variable's row. -/
structure JR (Hb : AHeap) (rl r : Nat) (R0 : RLoop) (acc : List RunT) (H : AHeap) : Prop where
 n : Hb.n ≤ H.n
 get : ∀ s, s < Hb.n → s ≠ rl → H.get s = Hb.get s
 cell : ∃ p e, HasRow H rl [p] true e ∧ OwnS H p 3 acc.length (cellsR acc) 61 ∧ RowNe p rl ∧ FreshS Hb p
 loop : HasLoop H r R0
theorem JR.more {Hb H H' : AHeap} {rl r : Nat} {R0 : RLoop} {acc : List RunT} (h : JR Hb rl r R0 acc H) (x : Ext H H') : JR Hb rl r R0 acc H' := by
 obtain ⟨p, e, h1, h2, h3, h4⟩ := h.cell
 haveI : ExtI H H' := ⟨x⟩
 have h5 := h.loop
 have hn := h.n
 exact ⟨Nat.le_trans h.n x.n, fun s hs hne => by rw [x.get s (by omega)]; exact h.get s hs hne, ⟨p, e, inferInstance, inferInstance, h3, h4⟩, inferInstance⟩

end Go.Am

set_option maxHeartbeats 4000000
set_option maxRecDepth 100000
set_option synthInstance.maxHeartbeats 4000000
set_option synthInstance.maxSize 100000
namespace Go.Am
open Go
attribute [local irreducible] Wp WpO WpX WpE

theorem JR.row {Hb H : AHeap} {rl r s : Nat} {R0 : RLoop} {acc : List RunT} {cs : List AVal} {rw : Bool} {e : TypeId} (h : JR Hb rl r R0 acc H) (k : HasRow Hb s cs rw e) (hne : s ≠ rl) : HasRow H s cs rw e := ⟨Nat.lt_of_lt_of_le k.lt h.n, by rw [h.get s k.lt hne]; exact k.get⟩
theorem JR.bytes {Hb H : AHeap} {rl r : Nat} {R0 : RLoop} {acc : List RunT} {p : AVal} {l : List UInt8} (h : JR Hb rl r R0 acc H) (k : BytesI Hb p l) (hne : RowNe p rl) : BytesI H p l := k.keep h.n fun s _ _ _ _ e hs => h.get s hs (hne.ne _ _ _ _ _ e)
theorem JR.ext {Hh Hb H : AHeap} {rl r : Nat} {R0 : RLoop} {acc : List RunT} (h : JR Hb rl r R0 acc H) (x : Ext Hh Hb) (hrl : Hh.n ≤ rl) : Ext Hh H := ⟨Nat.le_trans x.n h.n, fun s hs => by have := x.n; rw [h.get s (by omega) (by omega), x.get s hs]⟩
theorem JR.start {Hb : AHeap} {rl : Nat} {R0 : RLoop} {e : TypeId} (k : HasRow Hb rl [.nslice] true e) : JR Hb rl (Hb.n + 1) R0 [] ((Hb.push .dead).push (.loop R0)) := by
 have hlt := k.lt
 refine ⟨by simp only [AHeap.push]; omega, fun s hs _ => ?_, ⟨.nslice, e, inferInstance, ⟨Or.inl ⟨rfl, rfl, rfl⟩⟩, inferInstance, ⟨fun _ _ _ _ _ q => by cases q⟩⟩, (inferInstance : HasLoop ((Hb.push .dead).push (.loop R0)) (Hb.push .dead).n R0)⟩
 rw [push_get_lt (by simp only [AHeap.push]; omega), push_get_lt hs]
end Go.Am

set_option maxHeartbeats 4000000
set_option maxRecDepth 100000
set_option synthInstance.maxHeartbeats 4000000
set_option synthInstance.maxSize 100000
namespace Go.Am
open Go
attribute [local irreducible] Wp WpO WpX WpE

end Go.Am

set_option maxHeartbeats 4000000
set_option maxRecDepth 100000
set_option synthInstance.maxHeartbeats 4000000
set_option synthInstance.maxSize 100000
namespace Go.Am
open Go
attribute [local irreducible] Wp WpO WpX WpE

/-- Two new lists of numbers. -/
def Prof2 (H H' : AHeap) (v : AVal) (r c : List Int) : Prop := ∃ p q, v = .tuple [p, q] ∧ NewInts H H' p r ∧ NewInts H H' q c
theorem rowsP_skip {l : List UInt8} {a b y x : Nat} (hy : y < b) (h : pd l (y * a + x) = 0) : rowsP l a b y (x + 1) = rowsP l a b y x := by
 rw [← rowsP_set, h, Int.add_zero, ← rowsP_get (l := l) (a := a) (b := b) (y := y) (x := x) hy, List.set_getElem_self]
theorem colsP_skip {l : List UInt8} {a y x : Nat} (hx : x < a) (h : pd l (y * a + x) = 0) : colsP l a y (x + 1) = colsP l a y x := by
 rw [← colsP_set, h, Int.add_zero, ← colsP_get (l := l) (a := a) (y := y) (x := x) hx, List.set_getElem_self]
theorem K_refProfile {a b : Nat} {p : AVal} {H : AHeap} {l : List UInt8} [hp : BytesI H p l] (ok : Ok a b l) : Con ext prog 4 51 [.agg [.int .i64 a, .int .i64 b, p]] H fun v H' => Prof2 H H' v (rowsL l a b) (colsL l a b) := by
 refine con_of (show prog 51 = some c51 from rfl) rfl rfl fun n hn => ?_
 haveI := hp.one
 have hwa := ok.wa
 have hhb := ok.hb
 have hm : a * b ≤ 640 * 640 := Nat.mul_le_mul ok.wa ok.hb
 have hl := ok.len
 haveI : Fits a b l := ⟨ok.sized⟩
 obtain ⟨H1, hH1⟩ : ∃ H1 : AHeap, H.push (.row [.int .i64 a, .int .i64 b, p] true (2 * 24)) = H1 := ⟨_, rfl⟩
 refine sq ?_
 refine rg fun KF hKF => ?_
 refine Fo.boxA rfl ?_
 refine mN rfl ?_
 refine mN rfl ?_
 refine WpO.nil (hKF _ _ ?_)
 refine sq ?_
 simp only [hH1]
 haveI hrow : HasRow H1 H.n [.int .i64 a, .int .i64 b, p] true (2 * 24) := by rw [← hH1]; infer_instance
 haveI hpb : BytesI H1 p l := by rw [← hH1]; infer_instance
 haveI hx1 : Ext0 H H1 := by rw [← hH1]; infer_instance
 have f1 := mk_facts (H := H1) (e := 2 * 3) (mk_ints b)
 have f2 := mk_facts (H := H1.push (.row (cellsI (List.replicate b 0)) true (2 * 3))) (e := 2 * 3) (mk_ints a)
 obtain ⟨q1, hq1⟩ : ∃ q : AVal, AVal.slice H1.n 0 b (some b) 1 = q := ⟨_, rfl⟩
 obtain ⟨q2, hq2⟩ : ∃ q : AVal, AVal.slice ((H1.push (.row (cellsI (List.replicate b 0)) true (2 * 3))).n) 0 a (some a) 1 = q := ⟨_, rfl⟩
 rw [hq1] at f1
 rw [hq2] at f2
 obtain ⟨m1, fr1, w1⟩ := f1
 obtain ⟨m2, fr2, w2⟩ := f2
 refine Fr.dregionE [.row (cellsI (List.replicate b 0)) true (2 * 3), .row (cellsI (List.replicate a 0)) true (2 * 3)] ?_ fun KF hKF => ?_
 ·skip
  refine oracle_pre rfl rfl rfl rfl ?_; (try simp only [↓nrmL, nrmZ, Nat.reduceEqDiff, ↓reduceIte, Nat.reduceAdd, Int.reduceBEq, Int.reduceBNe])
  refine oracle_pre rfl rfl rfl (exec_ld rfl rfl) ?_; (try simp only [↓nrmL, nrmZ, Nat.reduceEqDiff, ↓reduceIte, Nat.reduceAdd, Int.reduceBEq, Int.reduceBNe])
  refine oracle_made rfl rfl (made_mkI rfl rfl (by omega)) ?_
  refine oracle_pre rfl rfl rfl rfl ?_; (try simp only [↓nrmL, nrmZ, Nat.reduceEqDiff, ↓reduceIte, Nat.reduceAdd, Int.reduceBEq, Int.reduceBNe])
  refine oracle_pre rfl rfl rfl (exec_ld rfl rfl) ?_; (try simp only [↓nrmL, nrmZ, Nat.reduceEqDiff, ↓reduceIte, Nat.reduceAdd, Int.reduceBEq, Int.reduceBNe])
  refine oracle_made rfl rfl (made_mkI rfl rfl (by omega)) ?_
  exact oracle_none _ _ _ _ rfl
 simp only [pushAll]
 haveI := m1.one
 haveI := m2.one
 have i1 : IntsI (H1.push (.row (cellsI (List.replicate b 0)) true (2 * 3))) q1 (List.replicate b 0) := by
  unfold IntsI; rw [List.length_replicate]; exact m1
 have i2 : IntsI ((H1.push (.row (cellsI (List.replicate b 0)) true (2 * 3))).push (.row (cellsI (List.replicate a 0)) true (2 * 3))) q2 (List.replicate a 0) := by
  unfold IntsI; rw [List.length_replicate]; exact m2
 clear m1 m2
 refine Fe.pure rfl rfl (by simp only [↓nrmL, nrmZ, Nat.reduceEqDiff, ↓reduceIte, Nat.reduceAdd, Int.reduceBEq, Int.reduceBNe]; rfl) ?_
 refine Fe.read rfl (exec_ld rfl rfl) rfl (by repeat (first | exact trivial | refine ⟨(by first | exact Or.inl (by dsimp only; decide) | exact Or.inr (exec_ld rfl rfl) | exact Or.inr (exec_ldN rfl rfl rfl) | exact Or.inr (exec_ldB rfl (by omega)) | exact Or.inr (exec_ldI rfl (by omega)) | exact Or.inr ghost_of), ?_⟩)) ?_
 refine Fe.made rfl (made_mkI rfl rfl (by omega)) ghost_of trivial hq1 ?_
 change WpE _ _ (AHeap.n (AHeap.push _ (.row (cellsI (List.replicate b 0)) true (2 * 3)))) _ _ _ _ _ _ _
 refine Fe.pure rfl rfl (by simp only [↓nrmL, nrmZ, Nat.reduceEqDiff, ↓reduceIte, Nat.reduceAdd, Int.reduceBEq, Int.reduceBNe]; rfl) ?_
 refine Fe.read rfl (exec_ld rfl rfl) rfl (by repeat (first | exact trivial | refine ⟨(by first | exact Or.inl (by dsimp only; decide) | exact Or.inr (exec_ld rfl rfl) | exact Or.inr (exec_ldN rfl rfl rfl) | exact Or.inr (exec_ldB rfl (by omega)) | exact Or.inr (exec_ldI rfl (by omega)) | exact Or.inr ghost_of), ?_⟩)) ?_
 refine Fe.made rfl (made_mkI rfl rfl (by omega)) ghost_of trivial hq2 ?_
 refine Fe.pure rfl rfl (by simp only [↓nrmL, nrmZ, Nat.reduceEqDiff, ↓reduceIte, Nat.reduceAdd, Int.reduceBEq, Int.reduceBNe]; rfl) ?_
 refine Fe.pure rfl rfl (by simp only [↓nrmL, nrmZ, Nat.reduceEqDiff, ↓reduceIte, Nat.reduceAdd, Int.reduceBEq, Int.reduceBNe]; rfl) ?_
 refine WpE.nil (hKF _ _ ?_)
 refine sq ?_
 refine sq ?_
 refine rg fun KF hKF => ?_
 refine mI rfl ?_
 refine WpO.nil (hKF _ _ ?_)
 refine Wp.block ?_
 dsimp only [cond_true, cond_false]
 refine Wp.loopS [6, 7, 14, 15, 16, 17, 18, 19, 20, 21, 22, 23, 24, 25, 26, 27, 28, 29, 30, 31, 32, 33, 34, 35, 36, 37, 38, 39, 40, 41] (fun y : Nat => [(6, .int .i64 y)]) (fun _ y H2 => y ≤ b ∧ IntsI H2 q1 (rowsP l a b y 0) ∧ WrS H2 q1 ∧ IntsI H2 q2 (colsP l a y 0) ∧ WrS H2 q2 ∧ Ext H1 H2) (fun y => b - y) 0 rfl (fun _ => rfl) ⟨rfl, trivial⟩ ⟨Nat.zero_le _, by rw [rowsP_zero]; infer_instance, inferInstance, by rw [colsP_zero]; infer_instance, inferInstance, Ext0.ext⟩ (by unfold fuel0 at hn; omega) ?_
 rintro y g H2 ⟨hy, hr2, hrw2, hc2, hcw2, hxe⟩
 haveI : ExtI H1 H2 := ⟨hxe⟩
 simp only [↓nrmL, nrmZ, Nat.reduceEqDiff, ↓reduceIte, Nat.reduceAdd, Int.reduceBEq, Int.reduceBNe]
 cases hc : decide ((y : Int) < (b : Int))
 ·have hyb : y = b := by have := of_decide_eq_false hc; omega
  subst hyb
  rw [rowsP_all] at hr2
  rw [colsP_all] at hc2
  try simp only [↓nrmL, nrmZ, Nat.reduceEqDiff, ↓reduceIte, Nat.reduceAdd, Int.reduceBEq, Int.reduceBNe, hc]
  refine sq ?_
  refine sq ?_
  refine rg fun KF hKF => ?_
  refine mI rfl ?_
  refine Fo.fa rfl ?_
  refine Fo.ld rfl rfl ?_
  refine Fo.bin rfl rfl rfl (by simp only [↓nrmL, nrmZ, Nat.reduceEqDiff, ↓reduceIte, Nat.reduceAdd, Int.reduceBEq, Int.reduceBNe, hc]; rfl) ?_
  refine WpO.nil (hKF _ _ ?_)
  refine Wp.cond (b := false) rfl ?_
  refine Wp.exit ?_
  refine sq ?_
  refine rg fun KF hKF => ?_
  refine Fo.mov (by simp only [↓nrmL, nrmK, Nat.reduceEqDiff, ↓reduceIte]; rfl) ?_
  refine Fo.mov (by simp only [↓nrmL, nrmK, Nat.reduceEqDiff, ↓reduceIte]; rfl) ?_
  refine Fo.mov (by simp only [↓nrmL, nrmK, Nat.reduceEqDiff, ↓reduceIte]; rfl) ?_
  refine Fo.mov (by simp only [↓nrmL, nrmK, Nat.reduceEqDiff, ↓reduceIte]; rfl) ?_
  refine WpO.nil (hKF _ _ ?_)
  refine Wp.ret ?_
  dsimp only [cond_true, cond_false]
  refine ⟨trivial, _, (by first | rfl | exact getAllC rfl rfl rfl rfl | exact getAllT rfl (getAllC rfl rfl rfl rfl) | exact getAllC rfl rfl rfl (getAllC rfl rfl rfl rfl) | exact getAllC1 rfl rfl rfl), ?_⟩
  exact ⟨q1, q2, rfl, ⟨inferInstance, fr1.weak, inferInstance, Ext0.ext⟩, ⟨inferInstance, fr2.weak, inferInstance, Ext0.ext⟩⟩
 have hyb : y < b := by have := of_decide_eq_true hc; omega
 have hw1 := wa1 (a := y) (by omega)
 have hrl := row_le (a := a) hyb
 try simp only [↓nrmL, nrmZ, Nat.reduceEqDiff, ↓reduceIte, Nat.reduceAdd, Int.reduceBEq, Int.reduceBNe, hc]
 refine sq ?_
 refine sq ?_
 refine rg fun KF hKF => ?_
 refine mI rfl ?_
 refine Fo.fa rfl ?_
 refine Fo.ld rfl rfl ?_
 refine Fo.bin rfl rfl rfl (by simp only [↓nrmL, nrmZ, Nat.reduceEqDiff, ↓reduceIte, Nat.reduceAdd, Int.reduceBEq, Int.reduceBNe, hc]; rfl) ?_
 refine WpO.nil (hKF _ _ ?_)
 refine Wp.cond (b := true) rfl ?_
 refine Wp.skip ?_
 refine sq ?_
 refine Wp.block ?_
 refine sq ?_
 refine rg fun KF hKF => ?_
 refine mI rfl ?_
 refine WpO.nil (hKF _ _ ?_)
 refine Wp.block ?_
 dsimp only [cond_true, cond_false]
 refine Wp.loopS [7, 20, 21, 22, 23, 24, 25, 26, 27, 28, 29, 30, 31, 32, 33, 34, 35, 36, 37, 38, 39, 40, 41] (fun x : Nat => [(7, .int .i64 x)]) (fun _ x H5 => x ≤ a ∧ IntsI H5 q1 (rowsP l a b y x) ∧ WrS H5 q1 ∧ IntsI H5 q2 (colsP l a y x) ∧ WrS H5 q2 ∧ Ext H1 H5) (fun x => a - x) 0 rfl (fun _ => rfl) ⟨rfl, trivial⟩ ⟨Nat.zero_le _, inferInstance, inferInstance, inferInstance, inferInstance, Ext0.ext⟩ (by unfold fuel0 at hn; omega) ?_
 rintro x g2 H5 ⟨hx0, hr5, hrw5, hc5, hcw5, hxe5⟩
 haveI : ExtI H1 H5 := ⟨hxe5⟩
 simp only [↓nrmL, nrmZ, Nat.reduceEqDiff, ↓reduceIte, Nat.reduceAdd, Int.reduceBEq, Int.reduceBNe]
 cases hc2' : decide ((x : Int) < (a : Int))
 ·have hxa : x = a := by have := of_decide_eq_false hc2'; omega
  subst hxa
  rw [rowsP_next] at hr5
  rw [colsP_next] at hc5
  try simp only [↓nrmL, nrmZ, Nat.reduceEqDiff, ↓reduceIte, Nat.reduceAdd, Int.reduceBEq, Int.reduceBNe, hc2']
  refine sq ?_
  refine sq ?_
  refine rg fun KF hKF => ?_
  refine mI rfl ?_
  refine Fo.fa rfl ?_
  refine Fo.ld rfl rfl ?_
  refine Fo.bin rfl rfl rfl (by simp only [↓nrmL, nrmZ, Nat.reduceEqDiff, ↓reduceIte, Nat.reduceAdd, Int.reduceBEq, Int.reduceBNe, hc2']; rfl) ?_
  refine WpO.nil (hKF _ _ ?_)
  refine Wp.cond (b := false) rfl ?_
  refine Wp.exit ?_
  refine rg fun KF hKF => ?_
  refine mI rfl ?_
  refine Fo.bin rfl rfl rfl rfl ?_
  refine mI rfl ?_
  refine WpO.nil (hKF _ _ ?_)
  dsimp only [cond_true, cond_false]
  refine ⟨y + 1, by omega, ⟨by simp only [↓nrmL, nrmZ, Nat.reduceEqDiff, ↓reduceIte, Nat.reduceAdd, Int.reduceBEq, Int.reduceBNe]; rw [hw1], trivial⟩, hyb, inferInstance, inferInstance, inferInstance, inferInstance, Ext0.ext⟩
 have hxa : x < a := by have := of_decide_eq_true hc2'; omega
 have hlt := idx_lt hxa hyb
 have hil : y * a + x < l.length := by omega
 have hw3 := wa1 (a := x) (by omega)
 have hrlen := rowsP_length l a b y x
 have hclen := colsP_length l a y x
 have hrg := rowsP_get (l := l) (a := a) (b := b) (y := y) (x := x) hyb
 have hcg := colsP_get (l := l) (a := a) (y := y) (x := x) hxa
 have b1 := rc_bd l a y x
 have b2 := cc_bd l a x y
 have k1 := inkB_nat (l := l) hxa hyb
 cases ht : inkB a b l x y
 ·rw [k1] at ht
  have h0 : pd l (y * a + x) = 0 := by unfold pd; rw [ht]; rfl
  try simp only [↓nrmL, nrmZ, Nat.reduceEqDiff, ↓reduceIte, Nat.reduceAdd, Int.reduceBEq, Int.reduceBNe, hc2', k1, ht]
  refine sq ?_
  refine sq ?_
  refine rg fun KF hKF => ?_
  refine mI rfl ?_
  refine Fo.fa rfl ?_
  refine Fo.ld rfl rfl ?_
  refine Fo.bin rfl rfl rfl (by simp only [↓nrmL, nrmZ, Nat.reduceEqDiff, ↓reduceIte, Nat.reduceAdd, Int.reduceBEq, Int.reduceBNe, hc2', k1, ht]; rfl) ?_
  refine WpO.nil (hKF _ _ ?_)
  refine Wp.cond (b := true) rfl ?_
  refine Wp.skip ?_
  refine sq ?_
  refine Wp.block ?_
  refine sq ?_
  refine rg fun KF hKF => ?_
  refine Fo.ldN rfl rfl (by simp only [↓nrmL, nrmZ, Nat.reduceEqDiff, ↓reduceIte, Nat.reduceAdd, Int.reduceBEq, Int.reduceBNe, hc2', k1, ht]; rfl) ?_
  refine mI rfl ?_
  refine mI rfl ?_
  refine Fo.pcall (v' := ?_) hn rfl (by simp only [↓nrmL, nrmZ, Nat.reduceEqDiff, ↓reduceIte, Nat.reduceAdd, Int.reduceBEq, Int.reduceBNe, hc2', k1, ht, List.map]; rfl) rfl ?hv fun _ _ => ?_; case hv => (simp only [↓nrmL, nrmZ, Nat.reduceEqDiff, ↓reduceIte, Nat.reduceAdd, Int.reduceBEq, Int.reduceBNe, hc2', k1, ht]; rfl)
  refine WpO.nil (hKF _ _ ?_)
  refine Wp.cond (b := false) rfl ?_
  refine Wp.skip ?_
  refine rg fun KF hKF => ?_
  refine mI rfl ?_
  refine Fo.bin rfl rfl rfl rfl ?_
  refine mI rfl ?_
  refine WpO.nil (hKF _ _ ?_)
  dsimp only [cond_true, cond_false]
  refine ⟨x + 1, by omega, ⟨by simp only [↓nrmL, nrmZ, Nat.reduceEqDiff, ↓reduceIte, Nat.reduceAdd, Int.reduceBEq, Int.reduceBNe]; rw [hw3], trivial⟩, hxa, by rw [rowsP_skip hyb h0]; infer_instance, inferInstance, by rw [colsP_skip hxa h0]; infer_instance, inferInstance, Ext0.ext⟩
 ·rw [k1] at ht
  have h0 : pd l (y * a + x) = 1 := by unfold pd; rw [ht]; rfl
  have hs1 : IntKind.i64.wrap (rc l a y x + 1) = rc l a y x + pd l (y * a + x) := by rw [w64 (by omega), h0]
  have hs2 : IntKind.i64.wrap (cc l a x y + 1) = cc l a x y + pd l (y * a + x) := by rw [w64 (by omega), h0]
  try simp only [↓nrmL, nrmZ, Nat.reduceEqDiff, ↓reduceIte, Nat.reduceAdd, Int.reduceBEq, Int.reduceBNe, hc2', k1, ht, hrg, hs1]
  refine sq ?_
  refine sq ?_
  refine rg fun KF hKF => ?_
  refine mI rfl ?_
  refine Fo.fa rfl ?_
  refine Fo.ld rfl rfl ?_
  refine Fo.bin rfl rfl rfl (by simp only [↓nrmL, nrmZ, Nat.reduceEqDiff, ↓reduceIte, Nat.reduceAdd, Int.reduceBEq, Int.reduceBNe, hc2', k1, ht, hrg, hs1]; rfl) ?_
  refine WpO.nil (hKF _ _ ?_)
  refine Wp.cond (b := true) rfl ?_
  refine Wp.skip ?_
  refine sq ?_
  refine Wp.block ?_
  refine sq ?_
  refine rg fun KF hKF => ?_
  refine Fo.ldN rfl rfl (by simp only [↓nrmL, nrmZ, Nat.reduceEqDiff, ↓reduceIte, Nat.reduceAdd, Int.reduceBEq, Int.reduceBNe, hc2', k1, ht, hrg, hs1]; rfl) ?_
  refine mI rfl ?_
  refine mI rfl ?_
  refine Fo.pcall (v' := ?_) hn rfl (by simp only [↓nrmL, nrmZ, Nat.reduceEqDiff, ↓reduceIte, Nat.reduceAdd, Int.reduceBEq, Int.reduceBNe, hc2', k1, ht, hrg, hs1, List.map]; rfl) rfl ?hv fun _ _ => ?_; case hv => (simp only [↓nrmL, nrmZ, Nat.reduceEqDiff, ↓reduceIte, Nat.reduceAdd, Int.reduceBEq, Int.reduceBNe, hc2', k1, ht, hrg, hs1]; rfl)
  refine WpO.nil (hKF _ _ ?_)
  refine Wp.cond (b := true) rfl ?_
  refine sq ?_
  refine rg fun KF hKF => ?_
  refine Fo.mov (by simp only [↓nrmL, nrmK, Nat.reduceEqDiff, ↓reduceIte]; rfl) ?_
  refine mI rfl ?_
  refine Fo.idx (by simp only [↓nrmL, nrmK, Nat.reduceEqDiff, ↓reduceIte]; rfl) rfl ?_ (by simp only [↓nrmL, nrmZ, Nat.reduceEqDiff, ↓reduceIte, Nat.reduceAdd, Int.reduceBEq, Int.reduceBNe, hc2', k1, ht, hrg, hs1]; rfl) ?_; (focus omega)
  refine Fo.ldI rfl ?_ (by simp only [↓nrmL, nrmZ, Nat.reduceEqDiff, ↓reduceIte, Nat.reduceAdd, Int.reduceBEq, Int.reduceBNe, hc2', k1, ht, hrg, hs1]; rfl) ?_; (focus omega)
  refine Fo.bin rfl rfl rfl (by simp only [↓nrmL, nrmZ, Nat.reduceEqDiff, ↓reduceIte, Nat.reduceAdd, Int.reduceBEq, Int.reduceBNe, hc2', k1, ht, hrg, hs1]; rfl) ?_
  refine Fo.idx (by simp only [↓nrmL, nrmK, Nat.reduceEqDiff, ↓reduceIte]; rfl) rfl ?_ (by simp only [↓nrmL, nrmZ, Nat.reduceEqDiff, ↓reduceIte, Nat.reduceAdd, Int.reduceBEq, Int.reduceBNe, hc2', k1, ht, hrg, hs1]; rfl) ?_; (focus omega)
  refine WpO.do' (WpX.stI (l := rowsP l a b y x) rfl rfl (by omega) fun H6 hb6 hw6 hx6 => ?_)
  rw [rowsP_set] at hb6
  try simp only [↓nrmL, nrmZ, Nat.reduceEqDiff, ↓reduceIte, Nat.reduceAdd, Int.reduceBEq, Int.reduceBNe, hcg, hs2]
  refine WpO.nil (hKF _ _ ?_)
  refine rg fun KF hKF => ?_
  refine Fo.mov (by simp only [↓nrmL, nrmK, Nat.reduceEqDiff, ↓reduceIte]; rfl) ?_
  refine mI rfl ?_
  refine Fo.idx (by simp only [↓nrmL, nrmK, Nat.reduceEqDiff, ↓reduceIte]; rfl) rfl ?_ (by simp only [↓nrmL, nrmZ, Nat.reduceEqDiff, ↓reduceIte, Nat.reduceAdd, Int.reduceBEq, Int.reduceBNe, hcg, hs2]; rfl) ?_; (focus omega)
  refine Fo.ldI rfl ?_ (by simp only [↓nrmL, nrmZ, Nat.reduceEqDiff, ↓reduceIte, Nat.reduceAdd, Int.reduceBEq, Int.reduceBNe, hcg, hs2]; rfl) ?_; (focus omega)
  refine Fo.bin rfl rfl rfl (by simp only [↓nrmL, nrmZ, Nat.reduceEqDiff, ↓reduceIte, Nat.reduceAdd, Int.reduceBEq, Int.reduceBNe, hcg, hs2]; rfl) ?_
  refine Fo.idx (by simp only [↓nrmL, nrmK, Nat.reduceEqDiff, ↓reduceIte]; rfl) rfl ?_ (by simp only [↓nrmL, nrmZ, Nat.reduceEqDiff, ↓reduceIte, Nat.reduceAdd, Int.reduceBEq, Int.reduceBNe, hcg, hs2]; rfl) ?_; (focus omega)
  refine WpO.do' (WpX.stI (l := colsP l a y x) rfl rfl (by omega) fun H7 hb7 hw7 hx7 => ?_)
  rw [colsP_set] at hb7
  refine WpO.nil (hKF _ _ ?_)
  refine rg fun KF hKF => ?_
  refine mI rfl ?_
  refine Fo.bin rfl rfl rfl rfl ?_
  refine mI rfl ?_
  refine WpO.nil (hKF _ _ ?_)
  dsimp only [cond_true, cond_false]
  refine ⟨x + 1, by omega, ⟨by simp only [↓nrmL, nrmZ, Nat.reduceEqDiff, ↓reduceIte, Nat.reduceAdd, Int.reduceBEq, Int.reduceBNe]; rw [hw3], trivial⟩, hxa, inferInstance, inferInstance, hb7, hw7, Ext0.ext⟩
end Go.Am

set_option maxHeartbeats 4000000
set_option maxRecDepth 100000
set_option synthInstance.maxHeartbeats 4000000
set_option synthInstance.maxSize 100000
namespace Go.Am
open Go
attribute [local irreducible] Wp WpO WpX WpE

theorem getD_get {l : List Int} {i : Nat} (h : i < l.length) : l.getD i 0 = l[i] := by simp [h]
theorem rowsL_nn (l : List UInt8) (a b i : Nat) : 0 ≤ (rowsL l a b).getD i 0 := by
 by_cases h : i < b
 ·rw [rowsL, getD_mapA h]; exact (rc_bd l a i a).1
 ·rw [List.getD_eq_getElem?_getD, List.getElem?_eq_none (by simp [rowsL]; omega)]; decide
theorem colsL_nn (l : List UInt8) (a b i : Nat) : 0 ≤ (colsL l a b).getD i 0 := by
 by_cases h : i < a
 ·rw [colsL, getD_mapA h]; exact (cc_bd l a i b).1
 ·rw [List.getD_eq_getElem?_getD, List.getElem?_eq_none (by simp [colsL]; omega)]; decide
theorem K_refBox {a b : Nat} {p : AVal} {H : AHeap} {l : List UInt8} [hp : BytesI H p l] (ok : Ok a b l) : Con ext prog 5 52 [.agg [.int .i64 a, .int .i64 b, p]] H fun v H' => v = .agg [.int .i64 (extL (colsL l a b)).1, .int .i64 (extL (rowsL l a b)).1, .int .i64 (extL (colsL l a b)).2, .int .i64 (extL (rowsL l a b)).2] ∧ Ext H H' := by
 refine con_of (show prog 52 = some c52 from rfl) rfl rfl fun n hn => ?_
 haveI := hp.one
 have hwa := ok.wa
 have hhb := ok.hb
 have hs := rows_sum ok.len
 have hiff : (extL (rowsL l a b)).2 > 0 ↔ (extL (colsL l a b)).2 > 0 := by
  rw [ext_pos (rowsL_nn l a b), ext_pos (colsL_nn l a b), hs.1, hs.2]
 have rn := rowsL_nn l a b
 have cn := colsL_nn l a b
 have rl : (rowsL l a b).length = b := by simp [rowsL]
 have cl : (colsL l a b).length = a := by simp [colsL]
 have hcon : ∀ (K : AHeap) [BytesI K p l], Con ext prog 4 51 [.agg [.int .i64 a, .int .i64 b, p]] K fun v H' => Prof2 K H' v (rowsL l a b) (colsL l a b) := fun K _ => K_refProfile ok
 clear hs
 unfold extL at hiff ⊢
 generalize rowsL l a b = R at *
 generalize colsL l a b = C at *
 rw [rl, cl] at hiff ⊢
 obtain ⟨H0, hH0⟩ : ∃ H0 : AHeap, H.push (.row [.int .i64 a, .int .i64 b, p] true (2 * 24)) = H0 := ⟨_, rfl⟩
 haveI hrow : HasRow H0 H.n [.int .i64 a, .int .i64 b, p] true (2 * 24) := by rw [← hH0]; infer_instance
 haveI hpb : BytesI H0 p l := by rw [← hH0]; infer_instance
 haveI hx0 : Ext0 H H0 := by rw [← hH0]; infer_instance
 refine sq ?_
 refine rg fun KF hKF => ?_
 refine Fo.boxA rfl ?_
 refine Fo.new ?_
 refine WpO.nil (hKF _ _ ?_)
 refine sq ?_
 refine rg fun KF hKF => ?_
 refine Fo.ldN rfl rfl (by simp only [↓nrmL, nrmZ, Nat.reduceEqDiff, ↓reduceIte]; rfl) ?_
 simp only [hH0]
 refine WpO.do (WpX.conD hn rfl rfl (by simp only [↓nrmL, nrmZ, Nat.reduceEqDiff, ↓reduceIte, List.map] <;> rfl) (hcon _) fun v H1 h5 => ?_)
 obtain ⟨q1, q2, e1, ⟨h1, hf1, hw1, hx1⟩, ⟨h2, hf2, hw2, hx2⟩⟩ := h5
 subst e1
 haveI : ExtI _ H1 := ⟨hx1⟩
 haveI := h1.one
 haveI := h2.one
 have hxH1 : Ext H H1 := Ext0.ext
 haveI : LeN H H1.n := ⟨hxH1.n⟩
 haveI hz1 : HasRow H1 H0.n [.int .i64 0, .int .i64 0, .int .i64 0, .int .i64 0] true (2 * 46) := inferInstance
 haveI : NeR H0.n H1.n := ⟨Nat.ne_of_lt hz1.lt⟩
 haveI : RowNe q1 H1.n := inferInstance
 haveI : RowNe q2 H1.n := inferInstance
 clear hcon
 refine mT rfl ?_
 refine Fo.extr rfl rfl ?_
 refine Fo.extr rfl rfl ?_
 refine Fo.mov (by simp only [↓nrmL, nrmK, Nat.reduceEqDiff, ↓reduceIte]; rfl) ?_
 refine Fo.mov (by simp only [↓nrmL, nrmK, Nat.reduceEqDiff, ↓reduceIte]; rfl) ?_
 refine WpO.nil (hKF _ _ ?_)
 refine sq ?_
 refine rg fun KF hKF => ?_
 refine Fo.fa rfl ?_
 refine Fo.ld rfl rfl ?_
 refine Fo.fa rfl ?_
 refine Fo.ld rfl rfl ?_
 refine Fo.build (by repeat (first | refine aFill1 (by first | exact (rfl : _ = AVal.int _ _) | exact (rfl : _ = AVal.ptr _ _) | exact (rfl : _ = AVal.bool _) | exact (rfl : _ = AVal.agg _) | exact (rfl : _ = AVal.tuple _) | exact (rfl : _ = AVal.func _ _ _) | exact (rfl : _ = AVal.nslice) | ((try simp only [↓nrmL, nrmK, Nat.reduceEqDiff, ↓reduceIte]); rfl)) rfl ?_ | rfl)) (by simp only [↓nrmL, nrmZ, Nat.reduceEqDiff, ↓reduceIte]; rfl) ?_
 refine Fo.new ?_
 refine Fo.st rfl (rfl : _ = AVal.agg _) rfl rfl rfl (by repeat (first | rfl | refine allOne_cons ?_)) (by simp only [↓nrmL, nrmZ, Nat.reduceEqDiff, ↓reduceIte]; rfl) ?_
 refine WpO.nil (hKF _ _ ?_)
 refine sq ?_
 refine Wp.block ?_
 dsimp only [cond_true, cond_false]
 refine Wp.loopS [16, 17, 18, 19, 20, 21, 22, 23, 24, 25, 26, 27, 28, 29, 30, 31, 32, 33, 34] (fun _ : Nat => []) (fun _ h H2 => h ≤ b ∧ (∀ i, h ≤ i → i < b → ¬ R.getD i 0 > 0) ∧ HasRow H2 H1.n [.int .i64 0, .int .i64 0, .int .i64 a, .int .i64 h] true (2 * 46) ∧ HasRow H2 H0.n [.int .i64 0, .int .i64 0, .int .i64 0, .int .i64 0] true (2 * 46) ∧ IntsI H2 q1 R ∧ IntsI H2 q2 C ∧ Ext H H2) (fun h => h) b rfl (fun _ => rfl) trivial ⟨Nat.le_refl _, fun i h1 h2 => by omega, inferInstance, inferInstance, inferInstance, inferInstance, Ext0.ext⟩ (by unfold fuel0 at hn; omega) ?_
 rintro h gg H2 ⟨hh, hall, hr2, hz2, hp2, hq2, hx2⟩
 haveI : ExtI H H2 := ⟨hx2⟩
 simp only [↓nrmL, nrmZ, Nat.reduceEqDiff, ↓reduceIte]
 cases hc : decide ((h : Int) > 0)
 ·have h0 : h = 0 := by have := of_decide_eq_false hc; omega
  have z1 : extF R b = (0, 0) := by
   rcases ext_char R b with ⟨e1, e2⟩ | ⟨f, g, e1, e2, e3, e4, e5, e6, e7⟩
   ·exact e2
   ·exact absurd e3 (hall f (by omega) (by omega))
  have z2 : extF C a = (0, 0) := by
   rcases ext_char C a with ⟨e1, e2⟩ | ⟨f, g, e1, e2, e3, e4, e5, e6, e7⟩
   ·exact e2
   ·have : (extF C a).2 > 0 := by rw [e7]; simp only; omega
    have := hiff.2 this
    rw [z1] at this
    exact absurd this (by decide)
  have hz : ((h : Int) == 0) = true := by rw [h0]; rfl
  try simp only [↓nrmL, nrmZ, Nat.reduceEqDiff, ↓reduceIte, hc, hz]
  refine sq ?_
  refine sq ?_
  refine rg fun KF hKF => ?_
  refine Fo.fa rfl ?_
  refine Fo.ld rfl rfl ?_
  refine Fo.bin rfl rfl rfl (by simp only [↓nrmL, nrmZ, Nat.reduceEqDiff, ↓reduceIte, hc, hz]; rfl) ?_
  refine mB rfl ?_
  refine Fo.no rfl rfl ?_
  refine Fo.no rfl rfl ?_
  refine Fo.no rfl rfl ?_
  refine Fo.no rfl rfl ?_
  refine Fo.no rfl rfl ?_
  refine Fo.no rfl rfl ?_
  refine Fo.no rfl rfl ?_
  refine Fo.no rfl rfl ?_
  refine Fo.no rfl rfl ?_
  refine Fo.no rfl rfl ?_
  refine fB rfl rfl ?_
  refine WpO.nil (hKF _ _ ?_)
  refine Wp.cond (b := false) rfl ?_
  refine Wp.exit ?_
  refine sq ?_
  refine sq ?_
  refine rg fun KF hKF => ?_
  refine Fo.fa rfl ?_
  refine Fo.ld rfl rfl ?_
  refine Fo.bin rfl rfl rfl (by simp only [↓nrmL, nrmZ, Nat.reduceEqDiff, ↓reduceIte, hc, hz]; rfl) ?_
  refine WpO.nil (hKF _ _ ?_)
  refine Wp.cond (b := true) rfl ?_
  refine sq ?_
  refine rg fun KF hKF => ?_
  refine Fo.build (by repeat (first | refine aFill1 (by first | exact (rfl : _ = AVal.int _ _) | exact (rfl : _ = AVal.ptr _ _) | exact (rfl : _ = AVal.bool _) | exact (rfl : _ = AVal.agg _) | exact (rfl : _ = AVal.tuple _) | exact (rfl : _ = AVal.func _ _ _) | exact (rfl : _ = AVal.nslice) | ((try simp only [↓nrmL, nrmK, Nat.reduceEqDiff, ↓reduceIte]); rfl)) rfl ?_ | rfl)) rfl ?_
  refine Fo.st rfl (rfl : _ = AVal.agg _) rfl rfl rfl (by repeat (first | rfl | refine allOne_cons ?_)) (by simp only [↓nrmL, nrmZ, Nat.reduceEqDiff, ↓reduceIte, hc, hz]; rfl) ?_
  refine WpO.nil (hKF _ _ ?_)
  refine Wp.ret ?_
  dsimp only [cond_true, cond_false]
  refine ⟨trivial, _, (getAllC rfl rfl rfl rfl), ?_⟩
  refine ⟨?_, Ext0.ext⟩
  rw [z1, z2]
  rfl
 have hpos : h > 0 := by have := of_decide_eq_true hc; omega
 have hz : ((h : Int) == 0) = false := by simp; omega
 have hhr : h - 1 < R.length := by omega
 have e1 : IntKind.i64.wrap (0 + (h : Int)) = (h : Int) := by rw [w64 (by omega)]; omega
 have e1' : IntKind.i64.wrap (h : Int) = (h : Int) := w64 (by omega)
 have e2 : IntKind.i64.wrap ((h : Int) - 1) = ((h - 1 : Nat) : Int) := by rw [w64 (by omega)]; omega
 have hrh := rn (h - 1)
 rw [getD_get hhr] at hrh
 cases h0 : (R[h - 1] == 0)
 ·have h4 : ¬ R[h - 1] = 0 := by simpa using h0
  rcases ext_char R b with ⟨e3, _⟩ | ⟨f, g, e8, e9, e3, e4, e5, e6, e7⟩
  ·have := e3 (h - 1) (by omega)
   rw [getD_get hhr] at this
   omega
  have hgh : h = g + 1 := by
   by_cases q1 : g < h - 1
   ·have := e6 (h - 1) q1 (by omega)
    rw [getD_get hhr] at this
    omega
   ·by_cases q2 : h ≤ g
    ·exact absurd e4 (hall g q2 e9)
    ·omega
  have hC : (extF C a).2 > 0 := hiff.1 (by rw [e7]; simp only; omega)
  rcases ext_char C a with ⟨_, k2⟩ | ⟨f', g', k1, k2, k3, k4, k5, k6, k7⟩
  ·rw [k2] at hC; exact absurd hC (by decide)
  try simp only [↓nrmL, nrmZ, Nat.reduceEqDiff, ↓reduceIte, hc, e1, e1', e2, h0, hz]
  refine sq ?_
  refine sq ?_
  refine rg fun KF hKF => ?_
  refine Fo.fa rfl ?_
  refine Fo.ld rfl rfl ?_
  refine Fo.bin rfl rfl rfl (by simp only [↓nrmL, nrmZ, Nat.reduceEqDiff, ↓reduceIte, hc, e1, e1', e2, h0, hz]; rfl) ?_
  refine mB rfl ?_
  refine Fo.yes rfl rfl ?_
  refine Fo.mov (by simp only [↓nrmL, nrmK, Nat.reduceEqDiff, ↓reduceIte]; rfl) ?_
  refine Fo.yes rfl rfl ?_
  refine Fo.fa rfl ?_
  refine Fo.yes rfl rfl ?_
  refine Fo.ld rfl rfl ?_
  refine Fo.yes rfl rfl ?_
  refine Fo.fa rfl ?_
  refine Fo.yes rfl rfl ?_
  refine Fo.ld rfl rfl ?_
  refine Fo.yes rfl rfl ?_
  refine Fo.bin rfl rfl rfl (by simp only [↓nrmL, nrmZ, Nat.reduceEqDiff, ↓reduceIte, hc, e1, e1', e2, h0, hz]; rfl) ?_
  refine Fo.yes rfl rfl ?_
  refine Fo.bin rfl rfl rfl (by simp only [↓nrmL, nrmZ, Nat.reduceEqDiff, ↓reduceIte, hc, e1, e1', e2, h0, hz]; rfl) ?_
  refine Fo.yes rfl rfl ?_
  refine Fo.idx (by simp only [↓nrmL, nrmK, Nat.reduceEqDiff, ↓reduceIte]; rfl) rfl ?_ (by simp only [↓nrmL, nrmZ, Nat.reduceEqDiff, ↓reduceIte, hc, e1, e1', e2, h0, hz]; rfl) ?_; (focus omega)
  refine Fo.yes rfl rfl ?_
  refine Fo.ldI rfl ?_ rfl ?_; (focus omega)
  refine Fo.yes rfl rfl ?_
  refine Fo.bin rfl rfl rfl (by simp only [↓nrmL, nrmZ, Nat.reduceEqDiff, ↓reduceIte, hc, e1, e1', e2, h0, hz]; rfl) ?_
  refine tB rfl rfl ?_
  refine WpO.nil (hKF _ _ ?_)
  refine Wp.cond (b := false) rfl ?_
  refine Wp.exit ?_
  refine sq ?_
  refine sq ?_
  refine rg fun KF hKF => ?_
  refine Fo.fa rfl ?_
  refine Fo.ld rfl rfl ?_
  refine Fo.bin rfl rfl rfl (by simp only [↓nrmL, nrmZ, Nat.reduceEqDiff, ↓reduceIte, hc, e1, e1', e2, h0, hz]; rfl) ?_
  refine WpO.nil (hKF _ _ ?_)
  refine Wp.cond (b := false) rfl ?_
  refine Wp.skip ?_
  refine sq ?_
  refine Wp.block ?_
  dsimp only [cond_true, cond_false]
  have hst : HasRow H2 H1.n [.int .i64 0, .int .i64 ((0 : Nat) : Int), .int .i64 a, .int .i64 ((g + 1 - 0 : Nat) : Int)] true (2 * 46) := by
   have e9 : ((g + 1 - 0 : Nat) : Int) = (h : Int) := by omega
   rw [e9]
   exact hr2
  refine Wp.loopS [39, 40, 41, 42, 43, 44, 45, 46, 47, 48, 49, 50, 51, 52] (fun _ : Nat => []) (fun _ y H2 => y ≤ f ∧ HasRow H2 H1.n [.int .i64 0, .int .i64 y, .int .i64 a, .int .i64 ((g + 1 - y : Nat) : Int)] true (2 * 46) ∧ HasRow H2 H0.n [.int .i64 0, .int .i64 0, .int .i64 0, .int .i64 0] true (2 * 46) ∧ IntsI H2 q1 R ∧ IntsI H2 q2 C ∧ Ext H H2) (fun y => f - y) 0 rfl (fun _ => rfl) trivial ⟨Nat.zero_le _, hst, inferInstance, inferInstance, inferInstance, Ext0.ext⟩ (by unfold fuel0 at hn; omega) ?_
  rintro y gg H3 ⟨hy, hr3, hz3, hp3, hq3, hx3⟩
  haveI : ExtI H H3 := ⟨hx3⟩
  have hyb : y < R.length := by omega
  have hyw := wa1 (a := y) (by omega)
  have hdw : IntKind.i64.wrap (((g + 1 - y : Nat) : Int) - 1) = ((g + 1 - (y + 1) : Nat) : Int) := by rw [w64 (by omega)]; omega
  have hry := rn y
  rw [getD_get hyb] at hry
  simp only [↓nrmL, nrmZ, Nat.reduceEqDiff, ↓reduceIte]
  cases h2 : (R[y] == 0)
  ·have hyf : y = f := by
    have h4 : ¬ R[y] = 0 := by simpa using h2
    by_cases hh : y = f
    ·exact hh
    ·have := e5 y (by omega)
     rw [getD_get hyb] at this
     omega
   try simp only [↓nrmL, nrmZ, Nat.reduceEqDiff, ↓reduceIte, h2]
   refine sq ?_
   refine sq ?_
   refine rg fun KF hKF => ?_
   refine Fo.mov (by simp only [↓nrmL, nrmK, Nat.reduceEqDiff, ↓reduceIte]; rfl) ?_
   refine Fo.fa rfl ?_
   refine Fo.ld rfl rfl ?_
   refine Fo.idx (by simp only [↓nrmL, nrmK, Nat.reduceEqDiff, ↓reduceIte]; rfl) rfl ?_ (by simp only [↓nrmL, nrmZ, Nat.reduceEqDiff, ↓reduceIte, h2]; rfl) ?_; (focus omega)
   refine Fo.ldI rfl ?_ rfl ?_; (focus omega)
   refine Fo.bin rfl rfl rfl (by simp only [↓nrmL, nrmZ, Nat.reduceEqDiff, ↓reduceIte, h2]; rfl) ?_
   refine WpO.nil (hKF _ _ ?_)
   refine Wp.cond (b := false) rfl ?_
   refine Wp.exit ?_
   refine sq ?_
   refine Wp.block ?_
   dsimp only [cond_true, cond_false]
   refine Wp.loopS [53, 54, 55, 56, 57, 58, 59, 60, 61, 62, 63, 64, 65, 66] (fun _ : Nat => []) (fun _ w H2 => g' < w ∧ w ≤ a ∧ HasRow H2 H1.n [.int .i64 0, .int .i64 f, .int .i64 w, .int .i64 ((g + 1 - f : Nat) : Int)] true (2 * 46) ∧ HasRow H2 H0.n [.int .i64 0, .int .i64 0, .int .i64 0, .int .i64 0] true (2 * 46) ∧ IntsI H2 q1 R ∧ IntsI H2 q2 C ∧ Ext H H2) (fun w => w) a rfl (fun _ => rfl) trivial ⟨by omega, Nat.le_refl _, by rw [← hyf]; infer_instance, inferInstance, inferInstance, inferInstance, Ext0.ext⟩ (by unfold fuel0 at hn; omega) ?_
   rintro w gg H4 ⟨hw0, hwa2, hr4, hz4, hp4, hq4, hx4⟩
   haveI : ExtI H H4 := ⟨hx4⟩
   have hwc : w - 1 < C.length := by omega
   have e1 : IntKind.i64.wrap (0 + (w : Int)) = (w : Int) := by rw [w64 (by omega)]; omega
   have e1' : IntKind.i64.wrap (w : Int) = (w : Int) := w64 (by omega)
   have e2 : IntKind.i64.wrap ((w : Int) - 1) = ((w - 1 : Nat) : Int) := by rw [w64 (by omega)]; omega
   have hcw := cn (w - 1)
   rw [getD_get hwc] at hcw
   simp only [↓nrmL, nrmZ, Nat.reduceEqDiff, ↓reduceIte]
   cases h3 : (C[w - 1] == 0)
   ·have hwg : w = g' + 1 := by
     have h4 : ¬ C[w - 1] = 0 := by simpa using h3
     by_cases hh : w - 1 = g'
     ·omega
     ·have := k6 (w - 1) (by omega) (by omega)
      rw [getD_get hwc] at this
      omega
    try simp only [↓nrmL, nrmZ, Nat.reduceEqDiff, ↓reduceIte, e1, e1', e2, h3]
    refine sq ?_
    refine sq ?_
    refine rg fun KF hKF => ?_
    refine Fo.mov (by simp only [↓nrmL, nrmK, Nat.reduceEqDiff, ↓reduceIte]; rfl) ?_
    refine Fo.fa rfl ?_
    refine Fo.ld rfl rfl ?_
    refine Fo.fa rfl ?_
    refine Fo.ld rfl rfl ?_
    refine Fo.bin rfl rfl rfl (by simp only [↓nrmL, nrmZ, Nat.reduceEqDiff, ↓reduceIte, e1, e1', e2, h3]; rfl) ?_
    refine Fo.bin rfl rfl rfl (by simp only [↓nrmL, nrmZ, Nat.reduceEqDiff, ↓reduceIte, e1, e1', e2, h3]; rfl) ?_
    refine Fo.idx (by simp only [↓nrmL, nrmK, Nat.reduceEqDiff, ↓reduceIte]; rfl) rfl ?_ (by simp only [↓nrmL, nrmZ, Nat.reduceEqDiff, ↓reduceIte, e1, e1', e2, h3]; rfl) ?_; (focus omega)
    refine Fo.ldI rfl ?_ rfl ?_; (focus omega)
    refine Fo.bin rfl rfl rfl (by simp only [↓nrmL, nrmZ, Nat.reduceEqDiff, ↓reduceIte, e1, e1', e2, h3]; rfl) ?_
    refine WpO.nil (hKF _ _ ?_)
    refine Wp.cond (b := false) rfl ?_
    refine Wp.exit ?_
    refine sq ?_
    refine Wp.block ?_
    dsimp only [cond_true, cond_false]
    have hst : HasRow H4 H1.n [.int .i64 ((0 : Nat) : Int), .int .i64 f, .int .i64 ((g' + 1 - 0 : Nat) : Int), .int .i64 ((g + 1 - f : Nat) : Int)] true (2 * 46) := by
     have e9 : ((g' + 1 - 0 : Nat) : Int) = (w : Int) := by omega
     rw [e9]
     exact hr4
    refine Wp.loopS [67, 68, 69, 70, 71, 72, 73, 74, 75, 76, 77, 78, 79, 80] (fun _ : Nat => []) (fun _ x H2 => x ≤ f' ∧ HasRow H2 H1.n [.int .i64 x, .int .i64 f, .int .i64 ((g' + 1 - x : Nat) : Int), .int .i64 ((g + 1 - f : Nat) : Int)] true (2 * 46) ∧ HasRow H2 H0.n [.int .i64 0, .int .i64 0, .int .i64 0, .int .i64 0] true (2 * 46) ∧ IntsI H2 q1 R ∧ IntsI H2 q2 C ∧ Ext H H2) (fun x => f' - x) 0 rfl (fun _ => rfl) trivial ⟨Nat.zero_le _, hst, inferInstance, inferInstance, inferInstance, Ext0.ext⟩ (by unfold fuel0 at hn; omega) ?_
    rintro x gg H5 ⟨hx, hr5, hz5, hp5, hq5, hx5⟩
    haveI : ExtI H H5 := ⟨hx5⟩
    have hxa : x < C.length := by omega
    have hxw := wa1 (a := x) (by omega)
    have hdw : IntKind.i64.wrap (((g' + 1 - x : Nat) : Int) - 1) = ((g' + 1 - (x + 1) : Nat) : Int) := by rw [w64 (by omega)]; omega
    have hcx := cn x
    rw [getD_get hxa] at hcx
    simp only [↓nrmL, nrmZ, Nat.reduceEqDiff, ↓reduceIte]
    cases h3 : (C[x] == 0)
    ·have hxf : x = f' := by
      have h4 : ¬ C[x] = 0 := by simpa using h3
      by_cases hh : x = f'
      ·exact hh
      ·have := k5 x (by omega)
       rw [getD_get hxa] at this
       omega
     try simp only [↓nrmL, nrmZ, Nat.reduceEqDiff, ↓reduceIte, h3]
     refine sq ?_
     refine sq ?_
     refine rg fun KF hKF => ?_
     refine Fo.mov (by simp only [↓nrmL, nrmK, Nat.reduceEqDiff, ↓reduceIte]; rfl) ?_
     refine Fo.fa rfl ?_
     refine Fo.ld rfl rfl ?_
     refine Fo.idx (by simp only [↓nrmL, nrmK, Nat.reduceEqDiff, ↓reduceIte]; rfl) rfl ?_ (by simp only [↓nrmL, nrmZ, Nat.reduceEqDiff, ↓reduceIte, h3]; rfl) ?_; (focus omega)
     refine Fo.ldI rfl ?_ rfl ?_; (focus omega)
     refine Fo.bin rfl rfl rfl (by simp only [↓nrmL, nrmZ, Nat.reduceEqDiff, ↓reduceIte, h3]; rfl) ?_
     refine WpO.nil (hKF _ _ ?_)
     refine Wp.cond (b := false) rfl ?_
     refine Wp.exit ?_
     refine sq ?_
     refine rg fun KF hKF => ?_
     refine Fo.ldN rfl rfl (by simp only [↓nrmL, nrmZ, Nat.reduceEqDiff, ↓reduceIte, h3]; rfl) ?_
     refine Fo.st rfl (rfl : _ = AVal.agg _) rfl rfl rfl (by repeat (first | rfl | refine allOne_cons ?_)) (by simp only [↓nrmL, nrmZ, Nat.reduceEqDiff, ↓reduceIte, h3]; rfl) ?_
     refine WpO.nil (hKF _ _ ?_)
     refine Wp.ret ?_
     dsimp only [cond_true, cond_false]
     refine ⟨trivial, _, (getAllC rfl rfl rfl rfl), ?_⟩
     refine ⟨?_, Ext0.ext⟩
     rw [k7, e7, hxf]
     simp only
     rw [show ((g' + 1 - f' : Nat) : Int) = (g' : Int) + 1 - f' by omega, show ((g + 1 - f : Nat) : Int) = (g : Int) + 1 - f by omega]
     rfl
    ·have h4 : C[x] = 0 := by simpa using h3
     have hxf : x < f' := by
      by_cases hh : x = f'
      ·rw [← hh, getD_get hxa] at k3; omega
      ·omega
     try simp only [↓nrmL, nrmZ, Nat.reduceEqDiff, ↓reduceIte, h3, hxw, hdw]
     refine sq ?_
     refine sq ?_
     refine rg fun KF hKF => ?_
     refine Fo.mov (by simp only [↓nrmL, nrmK, Nat.reduceEqDiff, ↓reduceIte]; rfl) ?_
     refine Fo.fa rfl ?_
     refine Fo.ld rfl rfl ?_
     refine Fo.idx (by simp only [↓nrmL, nrmK, Nat.reduceEqDiff, ↓reduceIte]; rfl) rfl ?_ (by simp only [↓nrmL, nrmZ, Nat.reduceEqDiff, ↓reduceIte, h3, hxw, hdw]; rfl) ?_; (focus omega)
     refine Fo.ldI rfl ?_ rfl ?_; (focus omega)
     refine Fo.bin rfl rfl rfl (by simp only [↓nrmL, nrmZ, Nat.reduceEqDiff, ↓reduceIte, h3, hxw, hdw]; rfl) ?_
     refine WpO.nil (hKF _ _ ?_)
     refine Wp.cond (b := true) rfl ?_
     refine Wp.skip ?_
     refine Wp.block ?_
     refine sq ?_
     refine rg fun KF hKF => ?_
     refine Fo.fa rfl ?_
     refine Fo.ld rfl rfl ?_
     refine Fo.bin rfl rfl rfl (by simp only [↓nrmL, nrmZ, Nat.reduceEqDiff, ↓reduceIte, h3, hxw, hdw]; rfl) ?_
     refine Fo.fa rfl ?_
     refine Fo.st rfl (rfl : _ = AVal.int _ _) rfl rfl rfl (by repeat (first | rfl | refine allOne_cons ?_)) (by simp only [↓nrmL, nrmZ, Nat.reduceEqDiff, ↓reduceIte, h3, hxw, hdw]; rfl) ?_
     refine WpO.nil (hKF _ _ ?_)
     refine rg fun KF hKF => ?_
     refine Fo.fa rfl ?_
     refine Fo.ld rfl rfl ?_
     refine Fo.bin rfl rfl rfl (by simp only [↓nrmL, nrmZ, Nat.reduceEqDiff, ↓reduceIte, h3, hxw, hdw]; rfl) ?_
     refine Fo.fa rfl ?_
     refine Fo.st rfl (rfl : _ = AVal.int _ _) rfl rfl rfl (by repeat (first | rfl | refine allOne_cons ?_)) (by simp only [↓nrmL, nrmZ, Nat.reduceEqDiff, ↓reduceIte, h3, hxw, hdw]; rfl) ?_
     refine WpO.nil (hKF _ _ ?_)
     dsimp only [cond_true, cond_false]
     refine ⟨x + 1, by omega, trivial, by omega, inferInstance, inferInstance, inferInstance, inferInstance, Ext0.ext⟩
   ·have h4 : C[w - 1] = 0 := by simpa using h3
    have hwg : g' < w - 1 := by
     by_cases hh : w - 1 = g'
     ·rw [← hh, getD_get hwc] at k4; omega
     ·omega
    try simp only [↓nrmL, nrmZ, Nat.reduceEqDiff, ↓reduceIte, e1, e1', e2, h3]
    refine sq ?_
    refine sq ?_
    refine rg fun KF hKF => ?_
    refine Fo.mov (by simp only [↓nrmL, nrmK, Nat.reduceEqDiff, ↓reduceIte]; rfl) ?_
    refine Fo.fa rfl ?_
    refine Fo.ld rfl rfl ?_
    refine Fo.fa rfl ?_
    refine Fo.ld rfl rfl ?_
    refine Fo.bin rfl rfl rfl (by simp only [↓nrmL, nrmZ, Nat.reduceEqDiff, ↓reduceIte, e1, e1', e2, h3]; rfl) ?_
    refine Fo.bin rfl rfl rfl (by simp only [↓nrmL, nrmZ, Nat.reduceEqDiff, ↓reduceIte, e1, e1', e2, h3]; rfl) ?_
    refine Fo.idx (by simp only [↓nrmL, nrmK, Nat.reduceEqDiff, ↓reduceIte]; rfl) rfl ?_ (by simp only [↓nrmL, nrmZ, Nat.reduceEqDiff, ↓reduceIte, e1, e1', e2, h3]; rfl) ?_; (focus omega)
    refine Fo.ldI rfl ?_ rfl ?_; (focus omega)
    refine Fo.bin rfl rfl rfl (by simp only [↓nrmL, nrmZ, Nat.reduceEqDiff, ↓reduceIte, e1, e1', e2, h3]; rfl) ?_
    refine WpO.nil (hKF _ _ ?_)
    refine Wp.cond (b := true) rfl ?_
    refine Wp.skip ?_
    refine Wp.block ?_
    refine rg fun KF hKF => ?_
    refine Fo.fa rfl ?_
    refine Fo.ld rfl rfl ?_
    refine Fo.bin rfl rfl rfl (by simp only [↓nrmL, nrmZ, Nat.reduceEqDiff, ↓reduceIte, e1, e1', e2, h3]; rfl) ?_
    refine Fo.fa rfl ?_
    refine Fo.st rfl (rfl : _ = AVal.int _ _) rfl rfl rfl (by repeat (first | rfl | refine allOne_cons ?_)) (by simp only [↓nrmL, nrmZ, Nat.reduceEqDiff, ↓reduceIte, e1, e1', e2, h3]; rfl) ?_
    refine WpO.nil (hKF _ _ ?_)
    dsimp only [cond_true, cond_false]
    refine ⟨w - 1, by omega, trivial, by omega, by omega, inferInstance, inferInstance, inferInstance, inferInstance, Ext0.ext⟩
  ·have h4 : R[y] = 0 := by simpa using h2
   have hyf : y < f := by
    by_cases hh : y = f
    ·rw [← hh, getD_get hyb] at e3; omega
    ·omega
   try simp only [↓nrmL, nrmZ, Nat.reduceEqDiff, ↓reduceIte, h2, hyw, hdw]
   refine sq ?_
   refine sq ?_
   refine rg fun KF hKF => ?_
   refine Fo.mov (by simp only [↓nrmL, nrmK, Nat.reduceEqDiff, ↓reduceIte]; rfl) ?_
   refine Fo.fa rfl ?_
   refine Fo.ld rfl rfl ?_
   refine Fo.idx (by simp only [↓nrmL, nrmK, Nat.reduceEqDiff, ↓reduceIte]; rfl) rfl ?_ (by simp only [↓nrmL, nrmZ, Nat.reduceEqDiff, ↓reduceIte, h2, hyw, hdw]; rfl) ?_; (focus omega)
   refine Fo.ldI rfl ?_ rfl ?_; (focus omega)
   refine Fo.bin rfl rfl rfl (by simp only [↓nrmL, nrmZ, Nat.reduceEqDiff, ↓reduceIte, h2, hyw, hdw]; rfl) ?_
   refine WpO.nil (hKF _ _ ?_)
   refine Wp.cond (b := true) rfl ?_
   refine Wp.skip ?_
   refine Wp.block ?_
   refine sq ?_
   refine rg fun KF hKF => ?_
   refine Fo.fa rfl ?_
   refine Fo.ld rfl rfl ?_
   refine Fo.bin rfl rfl rfl (by simp only [↓nrmL, nrmZ, Nat.reduceEqDiff, ↓reduceIte, h2, hyw, hdw]; rfl) ?_
   refine Fo.fa rfl ?_
   refine Fo.st rfl (rfl : _ = AVal.int _ _) rfl rfl rfl (by repeat (first | rfl | refine allOne_cons ?_)) (by simp only [↓nrmL, nrmZ, Nat.reduceEqDiff, ↓reduceIte, h2, hyw, hdw]; rfl) ?_
   refine WpO.nil (hKF _ _ ?_)
   refine rg fun KF hKF => ?_
   refine Fo.fa rfl ?_
   refine Fo.ld rfl rfl ?_
   refine Fo.bin rfl rfl rfl (by simp only [↓nrmL, nrmZ, Nat.reduceEqDiff, ↓reduceIte, h2, hyw, hdw]; rfl) ?_
   refine Fo.fa rfl ?_
   refine Fo.st rfl (rfl : _ = AVal.int _ _) rfl rfl rfl (by repeat (first | rfl | refine allOne_cons ?_)) (by simp only [↓nrmL, nrmZ, Nat.reduceEqDiff, ↓reduceIte, h2, hyw, hdw]; rfl) ?_
   refine WpO.nil (hKF _ _ ?_)
   dsimp only [cond_true, cond_false]
   refine ⟨y + 1, by omega, trivial, by omega, inferInstance, inferInstance, inferInstance, inferInstance, Ext0.ext⟩
 ·have h4 : R[h - 1] = 0 := by simpa using h0
  try simp only [↓nrmL, nrmZ, Nat.reduceEqDiff, ↓reduceIte, hc, e1, e1', e2, h0]
  refine sq ?_
  refine sq ?_
  refine rg fun KF hKF => ?_
  refine Fo.fa rfl ?_
  refine Fo.ld rfl rfl ?_
  refine Fo.bin rfl rfl rfl (by simp only [↓nrmL, nrmZ, Nat.reduceEqDiff, ↓reduceIte, hc, e1, e1', e2, h0]; rfl) ?_
  refine mB rfl ?_
  refine Fo.yes rfl rfl ?_
  refine Fo.mov (by simp only [↓nrmL, nrmK, Nat.reduceEqDiff, ↓reduceIte]; rfl) ?_
  refine Fo.yes rfl rfl ?_
  refine Fo.fa rfl ?_
  refine Fo.yes rfl rfl ?_
  refine Fo.ld rfl rfl ?_
  refine Fo.yes rfl rfl ?_
  refine Fo.fa rfl ?_
  refine Fo.yes rfl rfl ?_
  refine Fo.ld rfl rfl ?_
  refine Fo.yes rfl rfl ?_
  refine Fo.bin rfl rfl rfl (by simp only [↓nrmL, nrmZ, Nat.reduceEqDiff, ↓reduceIte, hc, e1, e1', e2, h0]; rfl) ?_
  refine Fo.yes rfl rfl ?_
  refine Fo.bin rfl rfl rfl (by simp only [↓nrmL, nrmZ, Nat.reduceEqDiff, ↓reduceIte, hc, e1, e1', e2, h0]; rfl) ?_
  refine Fo.yes rfl rfl ?_
  refine Fo.idx (by simp only [↓nrmL, nrmK, Nat.reduceEqDiff, ↓reduceIte]; rfl) rfl ?_ (by simp only [↓nrmL, nrmZ, Nat.reduceEqDiff, ↓reduceIte, hc, e1, e1', e2, h0]; rfl) ?_; (focus omega)
  refine Fo.yes rfl rfl ?_
  refine Fo.ldI rfl ?_ rfl ?_; (focus omega)
  refine Fo.yes rfl rfl ?_
  refine Fo.bin rfl rfl rfl (by simp only [↓nrmL, nrmZ, Nat.reduceEqDiff, ↓reduceIte, hc, e1, e1', e2, h0]; rfl) ?_
  refine tB rfl rfl ?_
  refine WpO.nil (hKF _ _ ?_)
  refine Wp.cond (b := true) rfl ?_
  refine Wp.skip ?_
  refine Wp.block ?_
  refine rg fun KF hKF => ?_
  refine Fo.fa rfl ?_
  refine Fo.ld rfl rfl ?_
  refine Fo.bin rfl rfl rfl (by simp only [↓nrmL, nrmZ, Nat.reduceEqDiff, ↓reduceIte, hc, e1, e1', e2, h0]; rfl) ?_
  refine Fo.fa rfl ?_
  refine Fo.st rfl (rfl : _ = AVal.int _ _) rfl rfl rfl (by repeat (first | rfl | refine allOne_cons ?_)) (by simp only [↓nrmL, nrmZ, Nat.reduceEqDiff, ↓reduceIte, hc, e1, e1', e2, h0]; rfl) ?_
  refine WpO.nil (hKF _ _ ?_)
  dsimp only [cond_true, cond_false]
  refine ⟨h - 1, by omega, trivial, by omega, fun i q1 q2 => ?_, inferInstance, inferInstance, inferInstance, inferInstance, Ext0.ext⟩
  by_cases hi : i = h - 1
  ·rw [hi, getD_get hhr]; omega
  ·exact hall i (by omega) q2
end Go.Am

/- The reference's components: pixels with one number. -/
set_option maxHeartbeats 4000000
namespace Go.Am
open Go
/-- An image whose ink are some pixels. -/
def inkOf (n : Nat) (ps : List Nat) : List UInt8 := (List.range n).map fun j => if j ∈ ps then 1 else 0
theorem inkOf_length (n : Nat) (ps : List Nat) : (inkOf n ps).length = n := by simp [inkOf]
theorem inkOf_nil (n : Nat) : inkOf n [] = List.replicate n 0 := by
  unfold inkOf
  apply List.ext_getElem?
  intro k
  rw [List.getElem?_map, List.getElem?_replicate]
  by_cases h : k < n
  · rw [List.getElem?_range h, if_pos h]; rfl
  · rw [List.getElem?_eq_none (by simp; omega), if_neg h]; rfl
theorem inkOf_set {n k : Nat} (ps : List Nat) : (inkOf n ps).set k 1 = inkOf n (ps ++ [k]) := by
  unfold inkOf
  apply List.ext_getElem?
  intro j
  by_cases hj : j < n
  · by_cases hk : k = j
    · subst hk
      rw [List.getElem?_set_self (by simpa using hj), List.getElem?_map, List.getElem?_range hj]
      simp
    · rw [List.getElem?_set_ne hk, List.getElem?_map, List.getElem?_map, List.getElem?_range hj]
      have : ¬ j = k := fun q => hk q.symm
      simp [this]
  · rw [List.getElem?_eq_none (by simp; omega), List.getElem?_eq_none (by simp; omega)]
theorem inkOf_ok {a b : Nat} (ha : a ≤ 640) (hb : b ≤ 640) (ps : List Nat) : Ok a b (inkOf (a * b) ps) := by
  refine ⟨ha, hb, inkOf_length _ _, ?_⟩
  unfold pxOk inkOf
  rw [List.all_eq_true]
  intro x hx
  obtain ⟨j, _, rfl⟩ := List.mem_map.1 hx
  split <;> rfl
/-- The pixels before k that have the number i. -/
def pxr (l : List UInt8) (N : List Nat) (i k : Nat) : List Nat := (List.range k).filter fun j => l.getD j 0 == 1 && N.getD j 0 == i
theorem pxr_hit {l : List UInt8} {N : List Nat} {i k : Nat} (h : l.getD k 0 = 1) (g : N.getD k 0 = i) : pxr l N i (k + 1) = pxr l N i k ++ [k] := by
  have hb : (l.getD k 0 == 1 && N.getD k 0 == i) = true := by rw [h, g]; simp
  unfold pxr
  rw [List.range_succ, List.filter_append]
  simp only [List.filter_cons, hb, if_true, List.filter_nil]
theorem pxr_miss {l : List UInt8} {N : List Nat} {i k : Nat} (h : (l.getD k 0 == 1 && N.getD k 0 == i) = false) : pxr l N i (k + 1) = pxr l N i k := by
  unfold pxr
  rw [List.range_succ, List.filter_append]
  simp only [List.filter_cons, h, Bool.false_eq_true, if_false, List.filter_nil, List.append_nil]
theorem pxr_start {l : List UInt8} {N : List Nat} {i : Nat} (h : ∀ j, j < i → N.getD j 0 ≤ j) : pxr l N i i = [] := by
  unfold pxr
  rw [List.filter_eq_nil_iff]
  intro j hj
  have := List.mem_range.1 hj
  have := h j this
  have : (N.getD j 0 == i) = false := beq_eq_false_iff_ne.2 (by omega)
  rw [this, Bool.and_false]; decide
theorem pxr_le (l : List UInt8) (N : List Nat) (i k : Nat) : (pxr l N i k).length ≤ k := by
  unfold pxr
  exact Nat.le_trans (List.length_filter_le _ _) (by simp)
/-- The first pixels before i. -/
def fls (l : List UInt8) (N : List Nat) (i : Nat) : List Nat := (List.range i).filter fun m => l.getD m 0 == 1 && N.getD m 0 == m
theorem fls_hit {l : List UInt8} {N : List Nat} {i : Nat} (h : l.getD i 0 = 1) (g : N.getD i 0 = i) : fls l N (i + 1) = fls l N i ++ [i] := by
  have hb : (l.getD i 0 == 1 && N.getD i 0 == i) = true := by rw [h, g]; simp
  unfold fls
  rw [List.range_succ, List.filter_append]
  simp only [List.filter_cons, hb, if_true, List.filter_nil]
theorem fls_miss {l : List UInt8} {N : List Nat} {i : Nat} (h : (l.getD i 0 == 1 && N.getD i 0 == i) = false) : fls l N (i + 1) = fls l N i := by
  unfold fls
  rw [List.range_succ, List.filter_append]
  simp only [List.filter_cons, h, Bool.false_eq_true, if_false, List.filter_nil, List.append_nil]
theorem fls_le (l : List UInt8) (N : List Nat) (i : Nat) : (fls l N i).length ≤ i := by
  unfold fls
  exact Nat.le_trans (List.length_filter_le _ _) (by simp)
/-- The box of an image, as the reference finds it. -/
def boxR (l : List UInt8) (a b : Nat) : Bx := ⟨(extL (colsL l a b)).1, (extL (rowsL l a b)).1, (extL (colsL l a b)).2, (extL (rowsL l a b)).2⟩
theorem cellsC_snoc (C : List (Bx × AVal)) (c : Bx × AVal) : cellsC (C ++ [c]) = cellsC C ++ (c.1.cells ++ [c.2]) := by
  induction C with
  | nil => rfl
  | cons d C ih => show (d.1.cells ++ [d.2]) ++ cellsC (C ++ [c]) = ((d.1.cells ++ [d.2]) ++ cellsC C) ++ (c.1.cells ++ [c.2]); rw [ih]; simp only [List.append_assoc]
/-- The list that grows: o; each component's list stands for itself. -/
structure RefC (K H : AHeap) (l : List UInt8) (N : List Nat) (a b i : Nat) (o : AVal) (C : List (Bx × AVal)) : Prop where
  own : OwnS H o 5 C.length (cellsC C) 85
  fresh : FreshS K o
  num : C.length = (fls l N i).length
  box : ∀ (k : Nat) c m, C[k]? = some c → (fls l N i)[k]? = some m → c.1 = boxR (inkOf (a * b) (pxr l N m (a * b))) a b
  px : ∀ (k : Nat) c m, C[k]? = some c → (fls l N i)[k]? = some m → SliceAt H c.2 2 (pxr l N m (a * b)).length (cellsK a (pxr l N m (a * b)))
  sep : ∀ (k : Nat) c, C[k]? = some c → SepS c.2 o
  fr : ∀ (k : Nat) c, C[k]? = some c → FreshS K c.2
theorem RefC.begin {K H : AHeap} {l : List UInt8} {N : List Nat} {a b : Nat} : RefC K H l N a b 0 .nslice [] :=
  ⟨⟨Or.inl ⟨rfl, rfl, rfl⟩⟩, ⟨fun _ _ _ _ _ q => by cases q⟩, rfl, fun k c m h => (by simp at h), fun k c m h => (by simp at h), fun k c h => (by simp at h), fun k c h => (by simp at h)⟩
theorem RefC.skip {K H : AHeap} {l : List UInt8} {N : List Nat} {a b i : Nat} {o : AVal} {C : List (Bx × AVal)} (h : RefC K H l N a b i o C) (g : (l.getD i 0 == 1 && N.getD i 0 == i) = false) : RefC K H l N a b (i + 1) o C := by
  obtain ⟨h1, h2, h3, h4, h5, h6, h7⟩ := h
  exact ⟨h1, h2, by rw [fls_miss g]; exact h3, by rw [fls_miss g]; exact h4, by rw [fls_miss g]; exact h5, h6, h7⟩
theorem RefC.ext {K H H' : AHeap} {l : List UInt8} {N : List Nat} {a b i : Nat} {o : AVal} {C : List (Bx × AVal)} (h : RefC K H l N a b i o C) (x : Ext H H') : RefC K H' l N a b i o C := by
  obtain ⟨h1, h2, h3, h4, h5, h6, h7⟩ := h
  haveI : ExtI H H' := ⟨x⟩
  exact ⟨inferInstance, h2, h3, h4, fun k c m q r => by haveI := h5 k c m q r; infer_instance, h6, h7⟩
theorem snoc_at {α : Type} {C : List α} {x y : α} {k : Nat} (h : (C ++ [x])[k]? = some y) : (k < C.length ∧ C[k]? = some y) ∨ (k = C.length ∧ y = x) := by
  by_cases hk : k < C.length
  · rw [List.getElem?_append_left hk] at h; exact Or.inl ⟨hk, h⟩
  · rw [List.getElem?_append_right (by omega)] at h
    cases hj : k - C.length with
    | zero => rw [hj] at h; simp at h; exact Or.inr ⟨by omega, h.symm⟩
    | succ j => rw [hj] at h; simp at h
/-- One component more. -/
theorem RefC.next {K H H' : AHeap} {l : List UInt8} {N : List Nat} {a b i : Nat} {o o' pl : AVal} {C : List (Bx × AVal)} {bx : Bx} (h : RefC K H l N a b i o C) (hl : l.getD i 0 = 1) (hN : N.getD i 0 = i) (ho : OwnS H' o' 5 (C.length + 1) (cellsC C ++ (bx.cells ++ [pl])) 85) (hf : FreshS H o') (hK : Ext K H ∨ FreshS K o') (hx : ExtP H H' o) (hb : bx = boxR (inkOf (a * b) (pxr l N i (a * b))) a b)
    (hp : SliceAt H pl 2 (pxr l N i (a * b)).length (cellsK a (pxr l N i (a * b)))) (hs : SepS pl o) (hg : FreshS K pl) : RefC K H' l N a b (i + 1) o' (C ++ [(bx, pl)]) := by
  refine ⟨by rw [List.length_append, List.length_singleton, cellsC_snoc]; exact ho, ?_, by rw [fls_hit hl hN, List.length_append, List.length_append, h.num]; rfl, fun k c m h1 h2 => ?_, fun k c m h1 h2 => ?_, fun k c h1 => ?_, fun k c h1 => ?_⟩
  · rcases hK with hK | hK
    · exact ⟨fun _ _ _ _ _ q => Nat.le_trans hK.n (hf.ge _ _ _ _ _ q)⟩
    · exact hK
  · rw [fls_hit hl hN] at h2
    rcases snoc_at h1 with ⟨q1, h1⟩ | ⟨q1, rfl⟩
    · rcases snoc_at h2 with ⟨_, h2⟩ | ⟨q2, _⟩
      · exact h.box k c m h1 h2
      · rw [q2, ← h.num] at q1; exact absurd q1 (Nat.lt_irrefl _)
    · rcases snoc_at h2 with ⟨q2, _⟩ | ⟨_, rfl⟩
      · rw [q1, h.num] at q2; exact absurd q2 (Nat.lt_irrefl _)
      · exact hb
  · rw [fls_hit hl hN] at h2
    rcases snoc_at h1 with ⟨q1, h1⟩ | ⟨q1, rfl⟩
    · rcases snoc_at h2 with ⟨_, h2⟩ | ⟨q2, _⟩
      · haveI := h.px k c m h1 h2
        haveI := h.sep k c h1
        infer_instance
      · rw [q2, ← h.num] at q1; exact absurd q1 (Nat.lt_irrefl _)
    · rcases snoc_at h2 with ⟨q2, _⟩ | ⟨_, rfl⟩
      · rw [q1, h.num] at q2; exact absurd q2 (Nat.lt_irrefl _)
      · infer_instance
  · rcases snoc_at h1 with ⟨q1, h1⟩ | ⟨q1, rfl⟩
    · obtain ⟨m, h2⟩ : ∃ m, (fls l N i)[k]? = some m := ⟨_, List.getElem?_eq_getElem (by rw [← h.num]; exact q1)⟩
      haveI := h.px k c m h1 h2
      infer_instance
    · infer_instance
  · rcases snoc_at h1 with ⟨_, h1⟩ | ⟨_, rfl⟩
    · exact h.fr k c h1
    · exact hg
instance {H : AHeap} {r : Nat} {c0 c1 : AVal} {rw : Bool} {e : TypeId} [h : HasRow H r [c0, c1] rw e] : SliceAt H (.slice r 0 1 (some 1) 2) 2 1 [c0, c1] := ⟨Or.inr ⟨r, 0, some 1, _, rw, e, rfl, h.lt, h.get, Nat.le_refl _, rfl, Nat.le_refl _⟩⟩
instance {H : AHeap} {r : Nat} {c0 c1 c2 c3 c4 : AVal} {rw : Bool} {e : TypeId} [h : HasRow H r [c0, c1, c2, c3, c4] rw e] : SliceAt H (.slice r 0 1 (some 1) 5) 5 1 [c0, c1, c2, c3, c4] := ⟨Or.inr ⟨r, 0, some 1, _, rw, e, rfl, h.lt, h.get, Nat.le_refl _, rfl, Nat.le_refl _⟩⟩
theorem exec_stO {call : ACall} {fr : AFrame} {H : AHeap} {a x : ROpd} {r off : Nat} {cs l : List AVal} {e : TypeId} {v : AVal} (ha : a.ev fr = .ptr r off) (hx : x.ev fr = v) [o : OneV v] [hg : HasRow H r cs true e] (hl : Nat.ble (off + 1) cs.length = true) (hs : cs.set off v = l) : (ROp.store 1 a x).exec call fr H = some (aundef, H.set r (.row l true e)) := by
  obtain ⟨u, H1, q1, rfl, rfl⟩ := WpX.store (call := call) (fr := fr) (H := H) (n := 1) (K := fun u H1 => u = aundef ∧ H1 = H.set r (.row (setAt cs off v.cells) true e)) ha hx (by rw [o.cells]; rfl) hg.lt hg.get (by rw [o.cells]; exact Nat.le_of_ble_eq_true hl) (by rw [o.cells, List.all_cons, o.one]; rfl) ⟨rfl, rfl⟩
  rw [o.cells, setAt_one, hs] at q1
  exact q1
end Go.Am

/- Both sides' components are the same: first pixels, pixels, boxes. -/
set_option maxHeartbeats 4000000
namespace Go.Am
open Go
/- ===== strictly increasing lists ===== -/
theorem inc_eq : ∀ {l m : List Nat}, l.Pairwise (· < ·) → m.Pairwise (· < ·) → (∀ x, x ∈ l ↔ x ∈ m) → l = m
  | [], [], _, _, _ => rfl
  | [], y :: m, _, _, h => by have := (h y).2 (List.mem_cons_self ..); cases this
  | x :: l, [], _, _, h => by have := (h x).1 (List.mem_cons_self ..); cases this
  | x :: l, y :: m, h1, h2, h => by
    rw [List.pairwise_cons] at h1 h2
    have hxy : x = y := by
      rcases List.mem_cons.1 ((h x).1 (List.mem_cons_self ..)) with q | q
      · exact q
      · rcases List.mem_cons.1 ((h y).2 (List.mem_cons_self ..)) with r | r
        · exact r.symm
        · have := h2.1 x q; have := h1.1 y r; omega
    subst hxy
    rw [inc_eq h1.2 h2.2 fun z => ?_]
    constructor
    · intro hz
      rcases List.mem_cons.1 ((h z).1 (List.mem_cons_of_mem _ hz)) with q | q
      · have := h1.1 z hz; omega
      · exact q
    · intro hz
      rcases List.mem_cons.1 ((h z).2 (List.mem_cons_of_mem _ hz)) with q | q
      · have := h2.1 z hz; omega
      · exact q
theorem inc_inj {L : List Nat} (h : L.Pairwise (· < ·)) {i k m : Nat} (h1 : L[i]? = some m) (h2 : L[k]? = some m) : i = k := by
  obtain ⟨g1, e1⟩ := List.getElem?_eq_some_iff.1 h1
  obtain ⟨g2, e2⟩ := List.getElem?_eq_some_iff.1 h2
  rw [List.pairwise_iff_getElem] at h
  rcases Nat.lt_trichotomy i k with q | q | q
  · have := h i k g1 g2 q; omega
  · exact q
  · have := h k i g2 g1 q; omega
section
variable {l : List UInt8} {a b : Nat} {e : Bool} {M L N : List Nat}
theorem fls_inc (l : List UInt8) (N : List Nat) (i : Nat) : (fls l N i).Pairwise (· < ·) := by
  unfold fls
  exact List.Pairwise.filter _ List.pairwise_lt_range
theorem fls_eq (h : Lab l a b e M L (a * b)) (hld : ∀ i, i < a * b → l.getD i 0 = 1 → Lead l a b e i (N.getD i 0)) : L = fls l N (a * b) := by
  refine inc_eq h.inc (fls_inc _ _ _) fun m => ?_
  unfold fls
  rw [List.mem_filter, List.mem_range, Bool.and_eq_true, beq_iff_eq, beq_iff_eq]
  constructor
  · intro hm
    obtain ⟨h1, h2⟩ := h.lead m hm
    have h3 := h2.1.start_ok.2
    exact ⟨h1, h3, (hld m h1 h3).unique h2⟩
  · rintro ⟨h1, h2, h3⟩
    have h4 := hld m h1 h2
    rw [h3] at h4
    obtain ⟨m', h5, h6⟩ := h.num m (h.seen m h1 h2)
    have h7 := (h.lead m' (List.mem_of_getElem? h5)).2
    have h8 : m' = m := (h7.same h6).unique h4
    rw [← h8]; exact List.mem_of_getElem? h5
theorem pxs_eq (h : Lab l a b e M L (a * b)) (hld : ∀ i, i < a * b → l.getD i 0 = 1 → Lead l a b e i (N.getD i 0)) {k m : Nat} (hk : L[k]? = some m) : pxs M (a * b) k = pxr l N m (a * b) := by
  unfold pxs pxr
  apply List.filter_congr
  intro j hj
  have hj := List.mem_range.1 hj
  have hm := (h.lead m (List.mem_of_getElem? hk)).2
  rw [Bool.eq_iff_iff, Bool.and_eq_true, beq_iff_eq, beq_iff_eq, beq_iff_eq]
  constructor
  · intro q
    obtain ⟨m', h5, h6⟩ := h.num j (by omega)
    rw [q, Nat.add_sub_cancel, hk] at h5
    cases h5
    have h7 := h6.end_ok.2
    exact ⟨h7, (hld j hj h7).unique (hm.same h6)⟩
  · rintro ⟨q1, q2⟩
    have h4 := hld j hj q1
    rw [q2] at h4
    have h0 := h.seen j hj q1
    obtain ⟨m', h5, h6⟩ := h.num j h0
    have h7 := (h.lead m' (List.mem_of_getElem? h5)).2
    have h8 : m' = m := (h7.same h6).unique h4
    subst h8
    have := inc_inj h.inc h5 hk
    omega
theorem pxr_ne (hld : ∀ i, i < a * b → l.getD i 0 = 1 → Lead l a b e i (N.getD i 0)) {k m : Nat} (hk : (fls l N (a * b))[k]? = some m) : pxr l N m (a * b) ≠ [] ∧ ∀ j ∈ pxr l N m (a * b), j < a * b := by
  have hm := List.mem_of_getElem? hk
  unfold fls at hm
  rw [List.mem_filter, List.mem_range, Bool.and_eq_true, beq_iff_eq, beq_iff_eq] at hm
  refine ⟨fun q => ?_, fun j hj => ?_⟩
  · have : m ∈ pxr l N m (a * b) := by
      unfold pxr
      rw [List.mem_filter, List.mem_range, Bool.and_eq_true, beq_iff_eq, beq_iff_eq]
      exact hm
    rw [q] at this; cases this
  · unfold pxr at hj
    exact List.mem_range.1 (List.mem_filter.1 hj).1
end
/- ===== boxes ===== -/
/-- The least and the greatest value of a function on a list. -/
def Span (f : Nat → Nat) (ps : List Nat) (lo hi : Nat) : Prop := (∀ k ∈ ps, lo ≤ f k ∧ f k ≤ hi) ∧ (∃ k ∈ ps, f k = lo) ∧ ∃ k ∈ ps, f k = hi
theorem Span.unique {f : Nat → Nat} {ps : List Nat} {lo hi lo' hi' : Nat} (h : Span f ps lo hi) (g : Span f ps lo' hi') : lo = lo' ∧ hi = hi' := by
  obtain ⟨h1, ⟨k1, m1, e1⟩, ⟨k2, m2, e2⟩⟩ := h
  obtain ⟨g1, ⟨j1, n1, d1⟩, ⟨j2, n2, d2⟩⟩ := g
  have := h1 j1 n1; have := h1 j2 n2; have := g1 k1 m1; have := g1 k2 m2
  omega
theorem Span.snoc {f : Nat → Nat} {ps : List Nat} {lo hi : Nat} (h : Span f ps lo hi) (k : Nat) : Span f (ps ++ [k]) (min lo (f k)) (max hi (f k)) := by
  obtain ⟨h1, ⟨k1, m1, e1⟩, ⟨k2, m2, e2⟩⟩ := h
  refine ⟨fun j hj => ?_, ?_, ?_⟩
  · rcases List.mem_append.1 hj with q | q
    · have := h1 j q; omega
    · rw [List.mem_singleton] at q; subst q; omega
  · by_cases q : lo ≤ f k
    · exact ⟨k1, List.mem_append_left _ m1, by omega⟩
    · exact ⟨k, List.mem_append_right _ (List.mem_singleton.2 rfl), by omega⟩
  · by_cases q : f k ≤ hi
    · exact ⟨k2, List.mem_append_left _ m2, by omega⟩
    · exact ⟨k, List.mem_append_right _ (List.mem_singleton.2 rfl), by omega⟩
theorem str_nat {lo hi p : Nat} (h : lo ≤ hi) (h1 : hi < 409600) (h2 : p < 409600) : strX (lo : Int) (p : Int) = ((min lo p : Nat) : Int) ∧ strW (lo : Int) ((hi : Int) + 1 - lo) (p : Int) = ((max hi p : Nat) : Int) + 1 - ((min lo p : Nat) : Int) := by
  have e1 : strX (lo : Int) (p : Int) = ((min lo p : Nat) : Int) := by
    unfold strX
    by_cases q : (p : Int) < (lo : Int)
    · rw [if_pos q]; omega
    · rw [if_neg q]; omega
  refine ⟨e1, ?_⟩
  unfold strW
  rw [e1, w64 (show _ ≤ (p : Int) + 1 ∧ _ by omega), w64 (show _ ≤ (lo : Int) + ((hi : Int) + 1 - lo) ∧ _ by omega)]
  by_cases q : (p : Int) + 1 > (lo : Int) + ((hi : Int) + 1 - lo)
  · rw [if_pos q, w64 (by omega)]; omega
  · rw [if_neg q, w64 (by omega)]; omega
theorem bxL_span {a b : Nat} (hab : a * b ≤ 409600) : ∀ {n : Nat} {ps : List Nat}, ps.length = n → ps ≠ [] → (∀ j ∈ ps, j < a * b) → ∃ x1 x2 y1 y2 : Nat, Span (· % a) ps x1 x2 ∧ Span (· / a) ps y1 y2 ∧ x1 ≤ x2 ∧ x2 < 409600 ∧ y1 ≤ y2 ∧ y2 < 409600 ∧ bxL a ps = ⟨x1, y1, (x2 : Int) + 1 - x1, (y2 : Int) + 1 - y1⟩ := by
  intro n
  induction n with
  | zero => intro ps h1 h2; exact absurd (List.eq_nil_of_length_eq_zero h1) h2
  | succ n ih =>
    intro ps h1 _ h3
    rcases snoc_cases ps with rfl | ⟨qs, k, rfl⟩
    · simp at h1
    rw [List.length_append, List.length_singleton] at h1
    have hk : k < a * b := h3 k (List.mem_append_right _ (List.mem_singleton.2 rfl))
    have hm : k % a ≤ k := Nat.mod_le _ _
    have hd : k / a ≤ k := Nat.div_le_self _ _
    rw [bxL_snoc]
    by_cases hq : qs = []
    · subst hq
      refine ⟨k % a, k % a, k / a, k / a, ⟨fun j hj => ?_, ⟨k, List.mem_singleton.2 rfl, rfl⟩, ⟨k, List.mem_singleton.2 rfl, rfl⟩⟩, ⟨fun j hj => ?_, ⟨k, List.mem_singleton.2 rfl, rfl⟩, ⟨k, List.mem_singleton.2 rfl, rfl⟩⟩, Nat.le_refl _, by omega, Nat.le_refl _, by omega, ?_⟩
      · rw [List.nil_append, List.mem_singleton] at hj; subst hj; exact ⟨Nat.le_refl _, Nat.le_refl _⟩
      · rw [List.nil_append, List.mem_singleton] at hj; subst hj; exact ⟨Nat.le_refl _, Nat.le_refl _⟩
      · have e1 : ((k % a : Nat) : Int) + 1 - ((k % a : Nat) : Int) = 1 := by omega
        have e2 : ((k / a : Nat) : Int) + 1 - ((k / a : Nat) : Int) = 1 := by omega
        rw [e1, e2]; rfl
    · obtain ⟨x1, x2, y1, y2, s1, s2, b1, b2, b3, b4, e⟩ := ih (by omega) hq fun j hj => h3 j (List.mem_append_left _ hj)
      refine ⟨min x1 (k % a), max x2 (k % a), min y1 (k / a), max y2 (k / a), s1.snoc k, s2.snoc k, by omega, by omega, by omega, by omega, ?_⟩
      rw [e]
      have hw : ((x2 : Int) + 1 - (x1 : Int) == 0) = false := beq_eq_false_iff_ne.2 (by omega)
      obtain ⟨g1, g2⟩ := str_nat (p := k % a) b1 b2 (by omega)
      obtain ⟨g3, g4⟩ := str_nat (p := k / a) b3 b4 (by omega)
      unfold bxS
      simp only [hw, cond_false, g1, g2, g3, g4]
theorem inkOf_get {n j : Nat} {ps : List Nat} : (inkOf n ps).getD j 0 = 1 ↔ j < n ∧ j ∈ ps := by
  unfold inkOf
  rw [List.getD_eq_getElem?_getD, List.getElem?_map]
  by_cases h : j < n
  · rw [List.getElem?_range h]
    by_cases q : j ∈ ps <;> simp [h, q]
  · rw [List.getElem?_eq_none (by simp; omega)]; simp [h]
theorem filter_pos {P : Nat → Bool} {n : Nat} : ((((List.range n).filter P).length : Nat) : Int) > 0 ↔ ∃ v, v < n ∧ P v = true := by
  have h : 0 < ((List.range n).filter P).length ↔ ∃ v, v < n ∧ P v = true := by
    rw [List.length_pos_iff_exists_mem]
    constructor
    · rintro ⟨v, hv⟩
      rw [List.mem_filter, List.mem_range] at hv
      exact ⟨v, hv⟩
    · rintro ⟨v, hv⟩
      exact ⟨v, by rw [List.mem_filter, List.mem_range]; exact hv⟩
  rw [← h]; omega
theorem getD_mapR {f : Nat → Int} {n i : Nat} : ((List.range n).map f).getD i 0 = if i < n then f i else 0 := by
  rw [List.getD_eq_getElem?_getD, List.getElem?_map]
  by_cases h : i < n
  · rw [List.getElem?_range h, if_pos h]; rfl
  · rw [List.getElem?_eq_none (by simp; omega), if_neg h]; rfl
theorem cols_pos {a b i : Nat} {ps : List Nat} (hps : ∀ j ∈ ps, j < a * b) : (colsL (inkOf (a * b) ps) a b).getD i 0 > 0 ↔ i < a ∧ ∃ j ∈ ps, j % a = i := by
  unfold colsL
  rw [getD_mapR]
  by_cases h : i < a
  · rw [if_pos h]
    unfold cc
    rw [filter_pos]
    constructor
    · rintro ⟨v, hv, hq⟩
      have := inkOf_get.1 (eq_of_beq hq)
      exact ⟨h, v * a + i, this.2, (at_div (v := v) h).1⟩
    · rintro ⟨_, j, hj, hm⟩
      have hlt := hps j hj
      obtain ⟨_, h1, h2, h3⟩ := div_lt hlt
      refine ⟨j / a, h2, ?_⟩
      have e : j / a * a + i = j := by rw [← hm]; exact h3.symm
      rw [e]
      have := inkOf_get.2 ⟨hlt, hj⟩
      rw [this]; rfl
  · rw [if_neg h]
    exact ⟨fun q => absurd q (by decide), fun q => absurd q.1 h⟩
theorem rows_pos {a b i : Nat} {ps : List Nat} (hps : ∀ j ∈ ps, j < a * b) : (rowsL (inkOf (a * b) ps) a b).getD i 0 > 0 ↔ i < b ∧ ∃ j ∈ ps, j / a = i := by
  unfold rowsL
  rw [getD_mapR]
  by_cases h : i < b
  · rw [if_pos h]
    unfold rc
    rw [filter_pos]
    constructor
    · rintro ⟨v, hv, hq⟩
      have := inkOf_get.1 (eq_of_beq hq)
      exact ⟨h, i * a + v, this.2, (at_div (v := i) hv).2⟩
    · rintro ⟨_, j, hj, hm⟩
      have hlt := hps j hj
      obtain ⟨_, h1, h2, h3⟩ := div_lt hlt
      refine ⟨j % a, h1, ?_⟩
      have e : i * a + j % a = j := by rw [← hm]; exact h3.symm
      rw [e]
      have := inkOf_get.2 ⟨hlt, hj⟩
      rw [this]; rfl
  · rw [if_neg h]
    exact ⟨fun q => absurd q (by decide), fun q => absurd q.1 h⟩
theorem ext_span {p : List Int} {n : Nat} {f : Nat → Nat} {ps : List Nat} (hl : p.length = n) (hne : ps ≠ []) (hf : ∀ j ∈ ps, f j < n) (hp : ∀ i, p.getD i 0 > 0 ↔ i < n ∧ ∃ j ∈ ps, f j = i) : ∃ lo hi : Nat, Span f ps lo hi ∧ lo ≤ hi ∧ extL p = ((lo : Int), (hi : Int) + 1 - lo) := by
  obtain ⟨j0, hj0⟩ := List.exists_mem_of_ne_nil ps hne
  unfold extL
  rw [hl]
  rcases ext_char p n with ⟨h, _⟩ | ⟨lo, hi, h1, h2, h3, h4, h5, h6, h7⟩
  · exact absurd ((hp (f j0)).2 ⟨hf j0 hj0, j0, hj0, rfl⟩) (h _ (hf j0 hj0))
  · refine ⟨lo, hi, ⟨fun k hk => ?_, ?_, ?_⟩, h1, h7⟩
    · have hk1 := (hp (f k)).2 ⟨hf k hk, k, hk, rfl⟩
      refine ⟨Nat.le_of_not_lt fun q => h5 _ q hk1, Nat.le_of_not_lt fun q => h6 _ q (hf k hk) hk1⟩
    · obtain ⟨_, j, hj, e⟩ := (hp lo).1 h3; exact ⟨j, hj, e⟩
    · obtain ⟨_, j, hj, e⟩ := (hp hi).1 h4; exact ⟨j, hj, e⟩
/-- Both boxes are the same. -/
theorem boxR_eq {a b : Nat} (hab : a * b ≤ 409600) {ps : List Nat} (hne : ps ≠ []) (hps : ∀ j ∈ ps, j < a * b) : boxR (inkOf (a * b) ps) a b = bxL a ps := by
  obtain ⟨x1, x2, y1, y2, s1, s2, b1, b2, b3, b4, e⟩ := bxL_span hab rfl hne hps
  obtain ⟨u1, u2, t1, _, e1⟩ := ext_span (p := colsL (inkOf (a * b) ps) a b) (n := a) (f := (· % a)) (by simp [colsL]) hne (fun j hj => (div_lt (hps j hj)).2.1) fun i => cols_pos hps
  obtain ⟨v1, v2, t2, _, e2⟩ := ext_span (p := rowsL (inkOf (a * b) ps) a b) (n := b) (f := (· / a)) (by simp [rowsL]) hne (fun j hj => (div_lt (hps j hj)).2.2.1) fun i => rows_pos hps
  obtain ⟨rfl, rfl⟩ := s1.unique t1
  obtain ⟨rfl, rfl⟩ := s2.unique t2
  unfold boxR
  rw [e, e1, e2]
end Go.Am

/- Append to an empty slice that the call has made. -/
set_option maxHeartbeats 4000000
namespace Go.Am
open Go
theorem exec_eqD {call : ACall} {fr : AFrame} {H : AHeap} {neg bb : Bool} {D : EqDesc} {x y : ROpd} {a b v : AVal} (hx : x.ev fr = a) (hy : y.ev fr = b) (he : aEq D a b = some bb) (hv : AVal.bool (match neg with | true => !bb | false => bb) = v) : (ROp.eq neg D x y).exec call fr H = some (v, H) := by
  subst hv
  simp only [ROp.exec, hx, hy, he]
  cases neg <;> rfl
end Go.Am

set_option maxHeartbeats 8000000
set_option maxRecDepth 100000
set_option synthInstance.maxHeartbeats 4000000
set_option synthInstance.maxSize 1000000000
namespace Go.Am
open Go
attribute [local irreducible] Wp WpO WpX WpE

theorem cellsK_length (a : Nat) (l : List Nat) : (cellsK a l).length = l.length * 2 := by
 induction l with
 | nil => rfl
 | cons k l ih => simp only [cellsK, List.flatMap_cons, List.length_append, List.length_cons, List.length_nil] at ih ⊢; omega
theorem cellsK_at {a : Nat} {l : List Nat} {i : Nat} (h : i < l.length) : ((cellsK a l).drop (i * 2)).take 2 = [.int .i64 ((l[i] % a : Nat) : Int), .int .i64 ((l[i] / a : Nat) : Int)] := by
 induction l generalizing i with
 | nil => simp at h
 | cons k l ih =>
  cases i with
  | zero => simp [cellsK]
  | succ i =>
   have : (cellsK a (k :: l)).drop ((i + 1) * 2) = (cellsK a l).drop (i * 2) := by
    rw [show (i + 1) * 2 = 2 + i * 2 by omega, ← List.drop_drop]
    simp [cellsK]
   rw [this]
   simpa using ih (by simpa using h)
theorem cellsC_all {C : List (Bx × AVal)} {k : Nat} {c : Bx × AVal} (h : C[k]? = some c) : ((cellsC C).drop (k * 5)).take 5 = c.1.cells ++ [c.2] := by
 obtain ⟨r, hr⟩ := cellsC_drop C k c h
 rw [hr]; rfl
theorem aEq_pt (x y : Int) : aEq (.fields [some (0, 0, .int), some (1, 0, .int)]) (.agg [.int .i64 x, .int .i64 y]) (.agg [.int .i64 x, .int .i64 y]) = some true := by
 simp [aEq, aEqs, aPart]
theorem aEq_bx (x y w h : Int) : aEq (.fields [some (0, 0, .int), some (1, 0, .int), some (2, 0, .int), some (3, 0, .int)]) (.agg [.int .i64 x, .int .i64 y, .int .i64 w, .int .i64 h]) (.agg [.int .i64 x, .int .i64 y, .int .i64 w, .int .i64 h]) = some true := by
 simp [aEq, aEqs, aPart]
theorem bneI (x : Int) : (x != x) = false := by simp
class Few6 (n : Nat) : Prop where
 le : n ≤ 409600
instance K_EqPts {a : Nat} {l : List Nat} {p q : AVal} {H : AHeap} [hp : SliceAt H p 2 l.length (cellsK a l)] [hq : SliceAt H q 2 l.length (cellsK a l)] [hs : Few6 l.length] : PureCon ext prog 65 [p, q] H 1 (.bool true) := ⟨by
 refine con_of (show prog 65 = some c65 from rfl) rfl rfl fun n hn => ?_
 haveI := hp.one
 haveI := hq.one
 have hll := hs.le
 try simp only [↓nrmL, nrmZ, Nat.reduceEqDiff, ↓reduceIte, bneI]
 refine sq ?_
 refine rg fun KF hKF => ?_
 refine mB rfl ?_
 refine WpO.nil (hKF _ _ ?_)
 refine sq ?_
 refine sq ?_
 refine rg fun KF hKF => ?_
 refine Fo.mov (by simp only [↓nrmL, nrmK, Nat.reduceEqDiff, ↓reduceIte]; rfl) ?_
 refine Fo.len (v := ?_) (by simp only [↓nrmL, nrmK, Nat.reduceEqDiff, ↓reduceIte]; rfl) ?hv ?_; case hv => rfl
 refine Fo.mov (by simp only [↓nrmL, nrmK, Nat.reduceEqDiff, ↓reduceIte]; rfl) ?_
 refine Fo.len (v := ?_) (by simp only [↓nrmL, nrmK, Nat.reduceEqDiff, ↓reduceIte]; rfl) ?hv ?_; case hv => rfl
 refine Fo.bin rfl rfl rfl (by simp only [↓nrmL, nrmZ, Nat.reduceEqDiff, ↓reduceIte, bneI]; rfl) ?_
 refine WpO.nil (hKF _ _ ?_)
 refine Wp.cond (b := false) rfl ?_
 refine Wp.skip ?_
 refine sq ?_
 refine sq ?_
 refine rg fun KF hKF => ?_
 refine Fo.mov (by simp only [↓nrmL, nrmK, Nat.reduceEqDiff, ↓reduceIte]; rfl) ?_
 refine Fo.len (v := ?_) (by simp only [↓nrmL, nrmK, Nat.reduceEqDiff, ↓reduceIte]; rfl) ?hv ?_; case hv => rfl
 refine mI rfl ?_
 refine WpO.nil (hKF _ _ ?_)
 refine Wp.block ?_
 dsimp only [cond_true, cond_false]
 refine Wp.loopS [4, 5, 13, 14, 15, 16, 17, 18, 19, 20, 21, 22, 23, 24, 25] (fun i : Nat => [(13, .int .i64 (i : Int))]) (fun _ i H2 => i ≤ l.length ∧ SliceAt H2 p 2 l.length (cellsK a l) ∧ SliceAt H2 q 2 l.length (cellsK a l) ∧ Ext0 H H2) (fun i => l.length - i) 0 rfl (fun _ => rfl) ⟨rfl, trivial⟩ ⟨Nat.zero_le _, inferInstance, inferInstance, inferInstance⟩ (by unfold fuel0 at hn; omega) ?_
 rintro i g H2 ⟨hi, h1, h2, h3⟩
 simp only [↓nrmL, nrmZ, Nat.reduceEqDiff, ↓reduceIte]
 cases hc : decide ((i : Int) < (l.length : Int))
 ·skip
  try simp only [↓nrmL, nrmZ, Nat.reduceEqDiff, ↓reduceIte, hc]
  refine sq ?_
  refine rg fun KF hKF => ?_
  refine Fo.bin rfl rfl rfl (by simp only [↓nrmL, nrmZ, Nat.reduceEqDiff, ↓reduceIte, hc]; rfl) ?_
  refine WpO.nil (hKF _ _ ?_)
  refine sq ?_
  refine Wp.cond (b := false) rfl ?_
  refine Wp.exit ?_
  refine sq ?_
  refine rg fun KF hKF => ?_
  refine mB rfl ?_
  refine WpO.nil (hKF _ _ ?_)
  refine Wp.ret ?_
  dsimp only [cond_true, cond_false]
  refine ⟨trivial, _, rfl, ?_⟩
  exact ⟨rfl, Ext0.ext⟩
 have hil : i < l.length := by have := of_decide_eq_true hc; omega
 have hw := wa1 (a := i) (by omega)
 have hkl := cellsK_length a l
 try simp only [↓nrmL, nrmZ, Nat.reduceEqDiff, ↓reduceIte, hc]
 refine sq ?_
 refine rg fun KF hKF => ?_
 refine Fo.bin rfl rfl rfl (by simp only [↓nrmL, nrmZ, Nat.reduceEqDiff, ↓reduceIte, hc]; rfl) ?_
 refine WpO.nil (hKF _ _ ?_)
 refine sq ?_
 refine Wp.cond (b := true) rfl ?_
 refine Wp.skip ?_
 refine sq ?_
 refine Wp.block ?_
 refine sq ?_
 refine rg fun KF hKF => ?_
 refine mI rfl ?_
 refine mI rfl ?_
 refine WpO.nil (hKF _ _ ?_)
 refine sq ?_
 refine Fr.quiet rfl rfl fun KF hKF => ?_
 refine Fo.mov (by simp only [↓nrmL, nrmK, Nat.reduceEqDiff, ↓reduceIte]; rfl) ?_
 refine mI rfl ?_
 refine Fo.idx (by simp only [↓nrmL, nrmK, Nat.reduceEqDiff, ↓reduceIte]; rfl) rfl ?_ (by simp only [↓nrmL, nrmZ, Nat.reduceEqDiff, ↓reduceIte, hc]; rfl) ?_; (focus omega)
 refine Fo.now rfl (exec_ldNP (p := p) (j := i * 2) rfl (by decide) (by omega) (cellsK_at hil)) rfl ?_
 refine Fo.mov (by simp only [↓nrmL, nrmK, Nat.reduceEqDiff, ↓reduceIte]; rfl) ?_
 refine mI rfl ?_
 refine Fo.idx (by simp only [↓nrmL, nrmK, Nat.reduceEqDiff, ↓reduceIte]; rfl) rfl ?_ (by simp only [↓nrmL, nrmZ, Nat.reduceEqDiff, ↓reduceIte]; rfl) ?_; (focus omega)
 refine Fo.now rfl (exec_ldNP (p := q) (j := i * 2) rfl (by decide) (by omega) (cellsK_at hil)) rfl ?_
 refine Fo.now rfl (exec_eqD rfl rfl (aEq_pt _ _) rfl) rfl ?_
 refine WpO.nil (hKF _ _ ?_)
 refine Wp.cond (b := false) rfl ?_
 refine Wp.skip ?_
 refine rg fun KF hKF => ?_
 refine Fo.bin rfl rfl rfl rfl ?_
 refine mI rfl ?_
 refine WpO.nil (hKF _ _ ?_)
 dsimp only [cond_true, cond_false]
 refine ⟨i + 1, by omega, ⟨by simp only [↓nrmL, nrmZ, Nat.reduceEqDiff, ↓reduceIte]; rw [hw], trivial⟩, hil, inferInstance, inferInstance, inferInstance⟩⟩
instance K_EqC {a : Nat} {l : List Nat} {x y w h : Int} {p q : AVal} {H : AHeap} [hp : SliceAt H p 2 l.length (cellsK a l)] [hq : SliceAt H q 2 l.length (cellsK a l)] [hs : Few6 l.length] : PureCon ext prog 64 [.agg [.int .i64 x, .int .i64 y, .int .i64 w, .int .i64 h, p], .agg [.int .i64 x, .int .i64 y, .int .i64 w, .int .i64 h, q]] H 2 (.bool true) := ⟨by
 refine con_of (show prog 64 = some c64 from rfl) rfl rfl fun n hn => ?_
 haveI := hp.one
 haveI := hq.one
 refine sq ?_
 refine rg fun KF hKF => ?_
 refine Fo.boxA rfl ?_
 refine Fo.boxA rfl ?_
 refine mB rfl ?_
 refine WpO.nil (hKF _ _ ?_)
 refine sq ?_
 refine rg fun KF hKF => ?_
 refine Fo.fa rfl ?_
 refine Fo.ldN rfl rfl (by simp only [↓nrmL, nrmZ, Nat.reduceEqDiff, ↓reduceIte]; rfl) ?_
 refine Fo.fa rfl ?_
 refine Fo.ldN rfl rfl (by simp only [↓nrmL, nrmZ, Nat.reduceEqDiff, ↓reduceIte]; rfl) ?_
 refine Fo.now rfl (exec_eqD rfl rfl (aEq_bx _ _ _ _) rfl) rfl ?_
 refine mB rfl ?_
 refine Fo.yes rfl rfl ?_
 refine Fo.fa rfl ?_
 refine Fo.yes rfl rfl ?_
 refine Fo.ld rfl rfl ?_
 refine Fo.yes rfl rfl ?_
 refine Fo.fa rfl ?_
 refine Fo.yes rfl rfl ?_
 refine Fo.ld rfl rfl ?_
 refine Fo.yes rfl rfl ?_
 refine Fo.pcall (v' := ?_) hn rfl (by simp only [↓nrmL, nrmZ, Nat.reduceEqDiff, ↓reduceIte, List.map]; rfl) rfl ?hv fun _ _ => ?_; case hv => rfl
 refine tB rfl rfl ?_
 refine mB rfl ?_
 refine WpO.nil (hKF _ _ ?_)
 refine Wp.ret ?_
 dsimp only [cond_true, cond_false]
 refine ⟨trivial, _, rfl, ?_⟩
 exact ⟨rfl, Ext0.ext⟩⟩
/-- A list of components that may be read: their pixels are P. -/
structure CL (H : AHeap) (q : AVal) (a : Nat) (C : List (Bx × AVal)) (P : List (List Nat)) : Prop where
 row : SliceAt H q 5 C.length (cellsC C)
 len : C.length = P.length
 it : ∀ (k : Nat) c l, C[k]? = some c → P[k]? = some l → c.1 = bxL a l ∧ SliceAt H c.2 2 l.length (cellsK a l)
 few : P.length ≤ 409600 ∧ ∀ l ∈ P, l.length ≤ 409600
theorem CL.ext {H H' : AHeap} {q : AVal} {a : Nat} {C : List (Bx × AVal)} {P : List (List Nat)} (h : CL H q a C P) (x : Ext H H') : CL H' q a C P := by
 haveI : ExtI H H' := ⟨x⟩
 haveI := h.row
 exact ⟨inferInstance, h.len, fun k c l h1 h2 => by
  obtain ⟨h3, h4⟩ := h.it k c l h1 h2
  exact ⟨h3, inferInstance⟩, h.few⟩
theorem CL.at {H : AHeap} {q : AVal} {a : Nat} {C : List (Bx × AVal)} {P : List (List Nat)} (h : CL H q a C P) {k : Nat} (hk : k < P.length) : ∃ p, C[k]? = some (bxL a P[k], p) ∧ SliceAt H p 2 P[k].length (cellsK a P[k]) ∧ P[k].length ≤ 409600 := by
 have hC : k < C.length := by rw [h.len]; exact hk
 obtain ⟨h1, h2⟩ := h.it k C[k] P[k] (List.getElem?_eq_getElem hC) (List.getElem?_eq_getElem hk)
 refine ⟨C[k].2, ?_, h2, h.few.2 _ (List.getElem_mem _)⟩
 rw [List.getElem?_eq_getElem hC, ← h1]
theorem K_EqFun {a : Nat} {P : List (List Nat)} {C1 C2 : List (Bx × AVal)} {q1 q2 : AVal} {H : AHeap} (h1 : CL H q1 a C1 P) (h2 : CL H q2 a C2 P) : PureCon ext prog 63 [q1, q2, .func (.func 64) [] []] H 3 (.bool true) := ⟨by
 refine con_of (show prog 63 = some c63 from rfl) rfl rfl fun n hn => ?_
 haveI r1 := h1.row
 haveI r2 := h2.row
 haveI := r1.one
 haveI := r2.one
 have l1 := h1.len
 have l2 := h2.len
 have hf := h1.few.1
 have hneq : (((C1.length : Nat) : Int) != ((C2.length : Nat) : Int)) = false := by rw [l1, l2]; simp
 try simp only [↓nrmL, nrmZ, Nat.reduceEqDiff, ↓reduceIte, Nat.reduceAdd, Int.reduceBEq, Int.reduceBNe, hneq]
 refine sq ?_
 refine rg fun KF hKF => ?_
 refine mB rfl ?_
 refine WpO.nil (hKF _ _ ?_)
 refine sq ?_
 refine sq ?_
 refine rg fun KF hKF => ?_
 refine Fo.mov (by simp only [↓nrmL, nrmK, Nat.reduceEqDiff, ↓reduceIte]; rfl) ?_
 refine Fo.len (v := ?_) (by simp only [↓nrmL, nrmK, Nat.reduceEqDiff, ↓reduceIte]; rfl) ?hv ?_; case hv => rfl
 refine Fo.mov (by simp only [↓nrmL, nrmK, Nat.reduceEqDiff, ↓reduceIte]; rfl) ?_
 refine Fo.len (v := ?_) (by simp only [↓nrmL, nrmK, Nat.reduceEqDiff, ↓reduceIte]; rfl) ?hv ?_; case hv => rfl
 refine Fo.bin rfl rfl rfl (by simp only [↓nrmL, nrmZ, Nat.reduceEqDiff, ↓reduceIte, Nat.reduceAdd, Int.reduceBEq, Int.reduceBNe, hneq]; rfl) ?_
 refine WpO.nil (hKF _ _ ?_)
 refine Wp.cond (b := false) rfl ?_
 refine Wp.skip ?_
 refine sq ?_
 refine sq ?_
 refine rg fun KF hKF => ?_
 refine Fo.mov (by simp only [↓nrmL, nrmK, Nat.reduceEqDiff, ↓reduceIte]; rfl) ?_
 refine Fo.len (v := ?_) (by simp only [↓nrmL, nrmK, Nat.reduceEqDiff, ↓reduceIte]; rfl) ?hv ?_; case hv => rfl
 refine mI rfl ?_
 refine WpO.nil (hKF _ _ ?_)
 refine Wp.block ?_
 dsimp only [cond_true, cond_false]
 refine Wp.loopS [6, 7, 8, 9, 17, 18, 19, 20, 21, 22, 23, 24, 25, 26, 27, 28, 29, 30, 31] (fun i : Nat => [(17, .int .i64 (i : Int))]) (fun _ i H2 => i ≤ P.length ∧ Ext0 H H2) (fun i => P.length - i) 0 rfl (fun _ => rfl) ⟨rfl, trivial⟩ ⟨Nat.zero_le _, inferInstance⟩ (by unfold fuel0 at hn; omega) ?_
 rintro i g H2 ⟨hi, ⟨hx⟩⟩
 haveI : ExtI H H2 := ⟨hx⟩
 simp only [↓nrmL, nrmZ, Nat.reduceEqDiff, ↓reduceIte, Nat.reduceAdd, Int.reduceBEq, Int.reduceBNe]
 cases hc : decide ((i : Int) < ((C1.length : Nat) : Int))
 ·skip
  try simp only [↓nrmL, nrmZ, Nat.reduceEqDiff, ↓reduceIte, Nat.reduceAdd, Int.reduceBEq, Int.reduceBNe, hc]
  refine sq ?_
  refine rg fun KF hKF => ?_
  refine Fo.bin rfl rfl rfl (by simp only [↓nrmL, nrmZ, Nat.reduceEqDiff, ↓reduceIte, Nat.reduceAdd, Int.reduceBEq, Int.reduceBNe, hc]; rfl) ?_
  refine WpO.nil (hKF _ _ ?_)
  refine sq ?_
  refine Wp.cond (b := false) rfl ?_
  refine Wp.exit ?_
  refine sq ?_
  refine rg fun KF hKF => ?_
  refine mB rfl ?_
  refine WpO.nil (hKF _ _ ?_)
  refine Wp.ret ?_
  dsimp only [cond_true, cond_false]
  refine ⟨trivial, _, rfl, ?_⟩
  exact ⟨rfl, Ext0.ext⟩
 have hil : i < P.length := by have := of_decide_eq_true hc; omega
 have hw := wa1 (a := i) (by omega)
 obtain ⟨p1, e1, s1, f1⟩ := (h1.ext hx).at hil
 obtain ⟨p2, e2, s2, _⟩ := (h2.ext hx).at hil
 have g1 := cellsC_all e1
 have g2 := cellsC_all e2
 dsimp only at g1 g2
 haveI := s1.one
 haveI := s2.one
 haveI : Few6 P[i].length := ⟨f1⟩
 have k1 := cellsC_length C1
 have k2 := cellsC_length C2
 generalize bxL a P[i] = bx at g1 g2
 obtain ⟨x, y, w, h⟩ := bx
 unfold Bx.cells at g1 g2
 simp only [List.cons_append, List.nil_append] at g1 g2
 try simp only [↓nrmL, nrmZ, Nat.reduceEqDiff, ↓reduceIte, Nat.reduceAdd, Int.reduceBEq, Int.reduceBNe, hc]
 refine sq ?_
 refine rg fun KF hKF => ?_
 refine Fo.bin rfl rfl rfl (by simp only [↓nrmL, nrmZ, Nat.reduceEqDiff, ↓reduceIte, Nat.reduceAdd, Int.reduceBEq, Int.reduceBNe, hc]; rfl) ?_
 refine WpO.nil (hKF _ _ ?_)
 refine sq ?_
 refine Wp.cond (b := true) rfl ?_
 refine Wp.skip ?_
 refine sq ?_
 refine Wp.block ?_
 refine sq ?_
 refine rg fun KF hKF => ?_
 refine mI rfl ?_
 refine Fo.idx (by simp only [↓nrmL, nrmK, Nat.reduceEqDiff, ↓reduceIte]; rfl) rfl ?_ (by simp only [↓nrmL, nrmZ, Nat.reduceEqDiff, ↓reduceIte, Nat.reduceAdd, Int.reduceBEq, Int.reduceBNe, hc]; rfl) ?_; (focus omega)
 refine Fo.now rfl (exec_ldNP (p := q1) (j := i * 5) rfl (by decide) (by omega) g1) rfl ?_
 refine Fo.new ?_
 refine mI rfl ?_
 refine Fo.st rfl (rfl : _ = AVal.agg _) rfl rfl rfl (by repeat (first | rfl | refine allOne_cons ?_)) (by simp only [↓nrmL, nrmZ, Nat.reduceEqDiff, ↓reduceIte, Nat.reduceAdd, Int.reduceBEq, Int.reduceBNe]; rfl) ?_
 refine WpO.nil (hKF _ _ ?_)
 refine sq ?_
 refine rg fun KF hKF => ?_
 refine Fo.mov (by simp only [↓nrmL, nrmK, Nat.reduceEqDiff, ↓reduceIte]; rfl) ?_
 refine mI rfl ?_
 refine Fo.idx (by simp only [↓nrmL, nrmK, Nat.reduceEqDiff, ↓reduceIte]; rfl) rfl ?_ (by simp only [↓nrmL, nrmZ, Nat.reduceEqDiff, ↓reduceIte, Nat.reduceAdd, Int.reduceBEq, Int.reduceBNe]; rfl) ?_; (focus omega)
 refine Fo.now rfl (exec_ldNP (p := q2) (j := i * 5) rfl (by decide) (by omega) g2) rfl ?_
 refine Fo.new ?_
 refine Fo.st rfl (rfl : _ = AVal.agg _) rfl rfl rfl (by repeat (first | rfl | refine allOne_cons ?_)) (by simp only [↓nrmL, nrmZ, Nat.reduceEqDiff, ↓reduceIte, Nat.reduceAdd, Int.reduceBEq, Int.reduceBNe]; rfl) ?_
 refine WpO.nil (hKF _ _ ?_)
 refine sq ?_
 refine rg fun KF hKF => ?_
 refine mF rfl ?_
 refine Fo.ldN rfl rfl (by simp only [↓nrmL, nrmZ, Nat.reduceEqDiff, ↓reduceIte, Nat.reduceAdd, Int.reduceBEq, Int.reduceBNe]; rfl) ?_
 refine Fo.ldN rfl rfl (by simp only [↓nrmL, nrmZ, Nat.reduceEqDiff, ↓reduceIte, Nat.reduceAdd, Int.reduceBEq, Int.reduceBNe]; rfl) ?_
 refine Fo.pcall (v' := ?_) hn rfl (by simp only [↓nrmL, nrmZ, Nat.reduceEqDiff, ↓reduceIte, Nat.reduceAdd, Int.reduceBEq, Int.reduceBNe, List.map]; rfl) rfl ?hv fun _ _ => ?_; case hv => rfl
 refine Fo.now rfl rfl (by simp only [↓nrmL, nrmZ, Nat.reduceEqDiff, ↓reduceIte, Nat.reduceAdd, Int.reduceBEq, Int.reduceBNe]; rfl) ?_
 refine WpO.nil (hKF _ _ ?_)
 refine Wp.cond (b := false) rfl ?_
 refine Wp.skip ?_
 refine rg fun KF hKF => ?_
 refine Fo.bin rfl rfl rfl rfl ?_
 refine mI rfl ?_
 refine WpO.nil (hKF _ _ ?_)
 dsimp only [cond_true, cond_false]
 refine ⟨i + 1, by omega, ⟨by simp only [↓nrmL, nrmZ, Nat.reduceEqDiff, ↓reduceIte, Nat.reduceAdd, Int.reduceBEq, Int.reduceBNe]; rw [hw], trivial⟩, hil, inferInstance⟩⟩
end Go.Am

/- Components of both sides as one list; an image whose small components are cleared. -/
set_option maxHeartbeats 4000000
namespace Go.Am
open Go
section
variable {l : List UInt8} {a b : Nat} {e : Bool} {M L N : List Nat}
/-- The pixels of the components, as the reference's numbers tell. -/
def pcs (l : List UInt8) (N : List Nat) (n : Nat) : List (List Nat) := (fls l N n).map fun m => pxr l N m n
theorem pxAll_fls (h : Lab l a b e M L (a * b)) (hld : ∀ i, i < a * b → l.getD i 0 = 1 → Lead l a b e i (N.getD i 0)) : pxAll M L.length (a * b) = pcs l N (a * b) := by
  unfold pcs
  rw [← fls_eq h hld]
  apply List.ext_getElem?
  intro k
  rw [List.getElem?_map]
  by_cases hk : k < L.length
  · rw [pxAll_at hk, List.getElem?_eq_getElem hk, Option.map_some, ← pxs_eq h hld (List.getElem?_eq_getElem hk)]
  · rw [List.getElem?_eq_none (by rw [pxAll_length]; omega), List.getElem?_eq_none (by omega)]; rfl
theorem CmpsR.cl {K H : AHeap} {q : AVal} {C : List (Bx × AVal)} (h : CmpsR K H q l a b e M L C) (hab : a * b ≤ 409600) : CL H q a C (pxAll M L.length (a * b)) := by
  have hfew := h.lab.few
  refine ⟨h.cmps.row, by rw [pxAll_length, h.num], fun k c ps h1 h2 => ⟨?_, (h.cmps.own k c ps h1 h2).sl⟩, by rw [pxAll_length]; omega, fun ps hps => ?_⟩
  · have hk : k < L.length := by
      rw [← h.num]
      rcases Nat.lt_or_ge k C.length with q | q
      · exact q
      · rw [List.getElem?_eq_none q] at h1; cases h1
    rw [pxAll_at hk] at h2
    rw [← Option.some.inj h2]
    exact h.box k c h1
  · obtain ⟨k, hk, rfl⟩ := List.mem_map.1 hps
    have := pxs_le M (a * b) k
    omega
theorem RefC.cl {K H : AHeap} {v : AVal} {C : List (Bx × AVal)} (h : RefC K H l N a b (a * b) v C) (hld : ∀ i, i < a * b → l.getD i 0 = 1 → Lead l a b e i (N.getD i 0)) (hab : a * b ≤ 409600) : CL H v a C (pcs l N (a * b)) := by
  have hfew := fls_le l N (a * b)
  unfold pcs
  refine ⟨h.own.sl, by rw [List.length_map, h.num], fun k c ps h1 h2 => ?_, by rw [List.length_map]; omega, fun ps hps => ?_⟩
  · rw [List.getElem?_map] at h2
    obtain ⟨m, hm, rfl⟩ := Option.map_eq_some_iff.1 h2
    obtain ⟨n1, n2⟩ := pxr_ne hld hm
    exact ⟨by rw [h.box k c m h1 hm, boxR_eq hab n1 n2], h.px k c m h1 hm⟩
  · obtain ⟨k, hk, rfl⟩ := List.mem_map.1 hps
    have := pxr_le l N k (a * b)
    omega
end
/-- A list of components that stands apart from a slice which is written. -/
theorem CL.extP {H H' : AHeap} {q p : AVal} {a : Nat} {C : List (Bx × AVal)} {P : List (List Nat)} (h : CL H q a C P) (x : ExtP H H' p) (s : SepS q p) (t : ∀ (k : Nat) c, C[k]? = some c → SepS c.2 p) : CL H' q a C P := by
  haveI := h.row
  exact ⟨inferInstance, h.len, fun k c l h1 h2 => by
    obtain ⟨h3, h4⟩ := h.it k c l h1 h2
    haveI := t k c h1
    exact ⟨h3, inferInstance⟩, h.few⟩
/-- Some pixels are set to one value. -/
def setPx (v : UInt8) (l : List UInt8) (ps : List Nat) : List UInt8 := ps.foldl (fun l k => l.set k v) l
theorem setPx_snoc (v : UInt8) (l : List UInt8) (ps : List Nat) (k : Nat) : setPx v l (ps ++ [k]) = (setPx v l ps).set k v := by
  unfold setPx
  rw [List.foldl_append]; rfl
theorem setPx_length (v : UInt8) (l : List UInt8) (ps : List Nat) : (setPx v l ps).length = l.length := by
  unfold setPx
  induction ps generalizing l with
  | nil => rfl
  | cons k ps ih => rw [List.foldl_cons, ih, List.length_set]
theorem setPx_get {v : UInt8} {l : List UInt8} {ps : List Nat} {j : Nat} (hj : j < l.length) : (setPx v l ps).getD j 0 = if j ∈ ps then v else l.getD j 0 := by
  unfold setPx
  induction ps generalizing l with
  | nil => simp
  | cons k ps ih =>
    rw [List.foldl_cons, ih (by rw [List.length_set]; exact hj)]
    by_cases h1 : j ∈ ps
    · rw [if_pos h1, if_pos (List.mem_cons_of_mem _ h1)]
    · rw [if_neg h1]
      by_cases h2 : k = j
      · subst h2
        rw [if_pos (List.mem_cons_self), List.getD_eq_getElem?_getD, List.getElem?_set_self hj]; rfl
      · rw [if_neg (by rw [List.mem_cons]; rintro (q | q); exact h2 q.symm; exact h1 q), List.getD_eq_getElem?_getD, List.getElem?_set_ne h2, ← List.getD_eq_getElem?_getD]
theorem take_snoc {α : Type} {l : List α} {i : Nat} {x : α} (h : l[i]? = some x) : l.take (i + 1) = l.take i ++ [x] := by
  rw [List.take_add_one, h]; rfl
/-- The components that a test picks out are set to a value. -/
def spk (v : UInt8) (f : Nat → Bool) (l : List UInt8) (P : List (List Nat)) : List UInt8 := P.foldl (fun l ps => bif f ps.length then setPx v l ps else l) l
theorem spk_snoc (v : UInt8) (f : Nat → Bool) (l : List UInt8) (P : List (List Nat)) (ps : List Nat) : spk v f l (P ++ [ps]) = bif f ps.length then setPx v (spk v f l P) ps else spk v f l P := by
  unfold spk
  rw [List.foldl_append]; rfl
theorem spk_length (v : UInt8) (f : Nat → Bool) (l : List UInt8) (P : List (List Nat)) : (spk v f l P).length = l.length := by
  unfold spk
  induction P generalizing l with
  | nil => rfl
  | cons ps P ih =>
    rw [List.foldl_cons, ih]
    cases f ps.length
    · rfl
    · exact setPx_length ..
theorem spk_get {v : UInt8} {f : Nat → Bool} {l : List UInt8} {P : List (List Nat)} {j : Nat} (hj : j < l.length) : (spk v f l P).getD j 0 = if ∃ ps ∈ P, j ∈ ps ∧ f ps.length = true then v else l.getD j 0 := by
  unfold spk
  induction P generalizing l with
  | nil => simp
  | cons ps P ih =>
    rw [List.foldl_cons, ih (by cases f ps.length; exact hj; show j < (setPx v l ps).length; rw [setPx_length]; exact hj)]
    by_cases h1 : ∃ ps ∈ P, j ∈ ps ∧ f ps.length = true
    · rw [if_pos h1, if_pos (by obtain ⟨q, h2, h3⟩ := h1; exact ⟨q, List.mem_cons_of_mem _ h2, h3⟩)]
    · rw [if_neg h1]
      cases h2 : f ps.length
      · rw [if_neg (by
          rintro ⟨q, h3, h4, h5⟩
          rcases List.mem_cons.1 h3 with rfl | h3
          · rw [h2] at h5; cases h5
          · exact h1 ⟨q, h3, h4, h5⟩)]; rfl
      · show (setPx v l ps).getD j 0 = _
        rw [setPx_get hj]
        by_cases h3 : j ∈ ps
        · rw [if_pos h3, if_pos ⟨ps, List.mem_cons_self, h3, h2⟩]
        · rw [if_neg h3, if_neg (by
            rintro ⟨q, h4, h5, h6⟩
            rcases List.mem_cons.1 h4 with rfl | h4
            · exact h3 h5
            · exact h1 ⟨q, h4, h5, h6⟩)]
section
variable {l : List UInt8} {a b : Nat} {e : Bool} {N : List Nat}
theorem pcs_mem (hld : ∀ i, i < a * b → l.getD i 0 = 1 → Lead l a b e i (N.getD i 0)) {j : Nat} (hj : j < a * b) (h1 : l.getD j 0 = 1) : pxr l N (N.getD j 0) (a * b) ∈ pcs l N (a * b) := by
  unfold pcs
  refine List.mem_map.2 ⟨N.getD j 0, ?_, rfl⟩
  have h2 := hld j hj h1
  have h3 := h2.1.end_ok
  have h4 := hld _ h3.1 h3.2
  have h5 := (h2.same h2.1).unique h4
  unfold fls
  rw [List.mem_filter, List.mem_range, Bool.and_eq_true, beq_iff_eq, beq_iff_eq]
  exact ⟨h3.1, h3.2, h5.symm⟩
theorem pcs_of {j : Nat} {ps : List Nat} (h : ps ∈ pcs l N (a * b)) (hj : j ∈ ps) : l.getD j 0 = 1 ∧ ps = pxr l N (N.getD j 0) (a * b) := by
  obtain ⟨m, _, rfl⟩ := List.mem_map.1 h
  have h2 := hj
  unfold pxr at h2
  rw [List.mem_filter, Bool.and_eq_true, beq_iff_eq, beq_iff_eq] at h2
  exact ⟨h2.2.1, by rw [h2.2.2]⟩
theorem pcs_lt {ps : List Nat} {n j : Nat} (h : ps ∈ pcs l N n) (hj : j ∈ ps) : j < n := by
  obtain ⟨m, _, rfl⟩ := List.mem_map.1 h
  unfold pxr at hj
  exact List.mem_range.1 (List.mem_filter.1 hj).1
theorem pxAll_lt {M ps : List Nat} {m n j : Nat} (h : ps ∈ pxAll M m n) (hj : j ∈ ps) : j < n := by
  obtain ⟨m, _, rfl⟩ := List.mem_map.1 h
  unfold pxs at hj
  exact List.mem_range.1 (List.mem_filter.1 hj).1
/-- Small components cleared, or great ones drawn: the same image. -/
theorem spk_same (hl : l.length = a * b) (hpx : pxOk l = true) (hld : ∀ i, i < a * b → l.getD i 0 = 1 → Lead l a b e i (N.getD i 0)) (f : Nat → Bool) : spk 0 (fun n => !f n) l (pcs l N (a * b)) = spk 1 f (List.replicate (a * b) 0) (pcs l N (a * b)) := by
  apply List.ext_getElem
  · rw [spk_length, spk_length, List.length_replicate, hl]
  intro j h1 h2
  have hj : j < l.length := by rw [spk_length] at h1; exact h1
  have hja : j < a * b := by omega
  have e1 := spk_get (v := 0) (f := fun n => !f n) (P := pcs l N (a * b)) hj
  have e2 := spk_get (v := 1) (f := f) (l := List.replicate (a * b) 0) (P := pcs l N (a * b)) (j := j) (by rw [List.length_replicate]; exact hja)
  rw [List.getD_eq_getElem?_getD, List.getElem?_eq_getElem h1, Option.getD_some] at e1
  rw [List.getD_eq_getElem?_getD, List.getElem?_eq_getElem h2, Option.getD_some] at e2
  rw [e1, e2]
  have hz : (List.replicate (a * b) (0 : UInt8)).getD j 0 = 0 := by
    rw [List.getD_eq_getElem?_getD, List.getElem?_replicate, if_pos hja]; rfl
  rw [hz]
  by_cases hi : l.getD j 0 = 1
  · have hm := pcs_mem hld hja hi
    have hjm : j ∈ pxr l N (N.getD j 0) (a * b) := by
      unfold pxr
      rw [List.mem_filter, List.mem_range, Bool.and_eq_true, beq_iff_eq, beq_iff_eq]
      exact ⟨hja, hi, rfl⟩
    cases hf : f (pxr l N (N.getD j 0) (a * b)).length
    · rw [if_pos ⟨_, hm, hjm, by rw [hf]; rfl⟩, if_neg (by
        rintro ⟨ps, g1, g2, g3⟩
        rw [(pcs_of g1 g2).2, hf] at g3; cases g3)]
    · rw [if_neg (by
        rintro ⟨ps, g1, g2, g3⟩
        rw [(pcs_of g1 g2).2] at g3
        rw [hf] at g3; cases g3), if_pos ⟨_, hm, hjm, hf⟩, hi]
  · have h0 : l.getD j 0 = 0 := by
      have := List.all_eq_true.1 hpx l[j] (List.getElem_mem hj)
      rw [List.getD_eq_getElem?_getD, List.getElem?_eq_getElem hj, Option.getD_some] at hi ⊢
      simp at this
      rcases this with q | q
      · exact q
      · exact absurd q hi
    rw [if_neg (by rintro ⟨ps, g1, g2, _⟩; exact hi (pcs_of g1 g2).1), if_neg (by rintro ⟨ps, g1, g2, _⟩; exact hi (pcs_of g1 g2).1), h0]
end
end Go.Am

set_option maxHeartbeats 8000000
set_option maxRecDepth 100000
set_option synthInstance.maxHeartbeats 4000000
set_option synthInstance.maxSize 100000
namespace Go.Am
open Go
attribute [local irreducible] Wp WpO WpX WpE

theorem exec_ringA {call : ACall} {fr : AFrame} {H : AHeap} {x : ROpd} {t : Nat} (hx : x.ev fr = .int .i64 (t : Int)) (ht : t < 8) : (ROp.idxA 8 2 (.val (.ptr 0 0)) x).exec call fr H = some (.ptr 0 (2 * t), H) := by
 have h : (0 : Int) ≤ (t : Int) ∧ (t : Int) < ((8 : Nat) : Int) := by omega
 have e : aIdxA 8 2 (.ptr 0 0) (.int .i64 (t : Int)) = some (.ptr 0 (2 * t)) := by
  show (if 0 ≤ (t : Int) ∧ (t : Int) < ((8 : Nat) : Int) then some (AVal.ptr 0 (0 + (t : Int).toNat * 2)) else none) = _
  rw [if_pos h, Int.toNat_natCast, Nat.zero_add, Nat.mul_comm]
 show M.ofOption (aIdxA 8 2 (.ptr 0 0) (x.ev fr)) H = _
 rw [hx, e]; rfl
theorem around_x : ∀ t < 8, aroundCs[2 * t + 0]? = some (.int .i64 (dxN t))
 | 0, _ | 1, _ | 2, _ | 3, _ | 4, _ | 5, _ | 6, _ | 7, _ => rfl
theorem around_y : ∀ t < 8, aroundCs[2 * t + 1]? = some (.int .i64 (dyN t))
 | 0, _ | 1, _ | 2, _ | 3, _ | 4, _ | 5, _ | 6, _ | 7, _ => rfl

theorem K_flood {a b s0 n0 : Nat} {e : Bool} {p mk : AVal} {H : AHeap} {l : List UInt8} {M0 : List Nat} [hp : BytesI H p l] [hm : IntsI H mk (cN M0)] [hw : WrS H mk] [hsep : SepS p mk] [hs : Fits a b l] [ht : Tabs H] (hz : RowNe mk 0) (hM : M0.length = a * b) (ha : a ≤ 640) (hb : b ≤ 640) (hsl : s0 < a * b) (h1 : l.getD s0 0 = 1) (h0 : M0.getD s0 0 = 0) (hwh : Whole l a b e (fun i => M0.getD i 0) n0) (hn0 : 0 < n0) : Con ext prog 2 160 [.agg [.int .i64 a, .int .i64 b, p], .bool e, mk, .int .i64 s0, .int .i64 n0] H fun _ H' => ∃ M : List Nat, IntsI H' mk (cN M) ∧ WrS H' mk ∧ ExtP H H' mk ∧ M.length = a * b ∧ ∀ i, (Reach l a b e s0 i → M.getD i 0 = n0) ∧ (¬ Reach l a b e s0 i → M.getD i 0 = M0.getD i 0) := by
 refine con_of (show prog 160 = some c160 from rfl) rfl rfl fun n hn => ?_
 haveI := hp.one
 haveI := hm.one
 have hab : a * b ≤ 640 * 640 := Nat.mul_le_mul ha hb
 obtain ⟨a, rfl⟩ : ∃ a', a = a' + 1 := ⟨a - 1, by have := (div_lt hsl).1; omega⟩
 have hsl' : s0 < (cN M0).length := by rw [cN_length]; omega
 refine sq ?_
 refine rg fun KF hKF => ?_
 refine Fo.boxA rfl ?_
 refine WpO.nil (hKF _ _ ?_)
 refine sq ?_
 refine rg fun KF hKF => ?_
 refine mI rfl ?_
 refine WpO.nil (hKF _ _ ?_)
 refine sq ?_
 refine sq ?_
 refine rg fun KF hKF => ?_
 refine mB rfl ?_
 refine WpO.nil (hKF _ _ ?_)
 dsimp only [cond_true, cond_false]
 refine Wp.set2 (y := 2) (x := 1) rfl rfl ?_
 have hst : (bif e then (1 : Int) else 2) = ((stp e : Nat) : Int) := by cases e <;> rfl
 have hst1 : 1 ≤ stp e ∧ stp e ≤ 2 := by cases e <;> decide
 simp only [hst]
 refine sq ?_
 refine rg fun KF hKF => ?_
 refine Fo.mov (by simp only [↓nrmL, nrmK, Nat.reduceEqDiff, ↓reduceIte]; rfl) ?_
 refine mI rfl ?_
 refine mI rfl ?_
 refine Fo.idx (by simp only [↓nrmL, nrmK, Nat.reduceEqDiff, ↓reduceIte]; rfl) rfl ?_ (by simp only [↓nrmL, nrmZ, Nat.reduceEqDiff, ↓reduceIte]; rfl) ?_; (focus omega)
 refine WpO.do' (WpX.stI (p := mk) (j := s0) (l := cN M0) rfl rfl hsl' fun H1 hb1 hw1 hx1 => ?_)
 rw [cN_set] at hb1
 haveI := hx1
 refine WpO.nil (hKF _ _ ?_)
 refine sq ?_
 refine rg fun KF hKF => ?_
 refine mI rfl ?_
 refine Fo.bslice rfl (by simp only [↓nrmL, nrmZ, Nat.reduceEqDiff, ↓reduceIte]; rfl) ?_
 refine Fo.mov (by simp only [↓nrmL, nrmK, Nat.reduceEqDiff, ↓reduceIte]; rfl) ?_
 refine WpO.nil (hKF _ _ ?_)
 refine Wp.block ?_
 dsimp only [cond_true, cond_false]
 have hfl := Flood.begin (e := e) hsl h1 h0 hwh
 have hsM : s0 < M0.length := by omega
 rw [← getD_setN hsM] at hfl
 have hc0 := count_setN hsM h0 hn0
 have hcl := List.count_le_length (a := 0) (l := M0)
 have hfh0 : FHp (H.push (.row [.int .i64 ((a + 1 : Nat) : Int), .int .i64 b, p] true (2 * 24))) mk [.int .i64 ((a + 1 : Nat) : Int), .int .i64 b, p] H.n (.slice H1.n 0 1 (some 1) 1) [s0] (M0.set s0 n0) (H1.push (.row [.int .i64 (s0 : Int)] true (2 * 3))) := ⟨inferInstance, inferInstance, ⟨H1.n, some 1, _, 2 * 3, rfl, Nat.lt_succ_self _, push_get_eq, rfl, Nat.le_refl _, rfl, Or.inr ⟨1, rfl, Nat.one_pos, Nat.le_refl _, Nat.le_refl _⟩⟩, ⟨fun _ _ _ _ _ q => by cases q; exact hx1.n⟩, inferInstance, ExtP0.ext⟩
 refine Wp.loopS [11, 12, 13, 14, 15, 23, 24, 25, 26, 27, 28, 29, 30, 31, 32, 33, 34, 35, 36, 37, 38, 39, 40, 41, 42, 43, 44, 45, 46, 47, 48, 49, 50, 51, 52, 53, 54, 55, 56, 57, 58, 59, 60, 61, 62, 63, 64, 65, 66, 67, 68, 69, 70, 71, 72, 73, 74, 75, 76, 77, 78, 79, 80, 81, 82, 83, 84, 85, 86, 87, 88, 89, 90, 91, 92, 93] (fun s : AVal × List Nat × List Nat => [(11, s.1)]) (fun _ s H2 => FHp (H.push (.row [.int .i64 ((a + 1 : Nat) : Int), .int .i64 b, p] true (2 * 24))) mk [.int .i64 ((a + 1 : Nat) : Int), .int .i64 b, p] H.n s.1 s.2.1 s.2.2 H2 ∧ Flood l (a + 1) b e (fun i => M0.getD i 0) s0 n0 (fun i => s.2.2.getD i 0) s.2.1 none ∧ s.2.1.length + s.2.2.count 0 ≤ (a + 1) * b ∧ s.2.2.length = (a + 1) * b) (fun s => s.2.1.length + 2 * s.2.2.count 0) (.slice H1.n 0 1 (some 1) 1, [s0], M0.set s0 n0) rfl (fun _ => rfl) ⟨rfl, trivial⟩ ⟨hfh0, hfl, by dsimp only [List.length_singleton]; omega, by dsimp only; rw [List.length_set]; exact hM⟩ (by
  unfold fuel0 at hn
  dsimp only [List.length_singleton]
  omega) ?_
 rintro ⟨wt, W, M⟩ g H2 ⟨hfh, hfl2, hbd, hML⟩
 dsimp only at hfh hfl2 hbd hML
 clear hfl hfh0 hx1 hb1 hw1
 obtain ⟨bm, wm, st, fs, g5, hx2⟩ := hfh
 haveI := hx2
 simp only [↓nrmL, nrmZ, Nat.reduceEqDiff, ↓reduceIte]
 rcases snoc_cases W with rfl | ⟨W', w, rfl⟩
 ·haveI : IntsI H2 wt [] := st.ints
  have hc : decide (((([] : List Int).length : Nat) : Int) > 0) = false := rfl
  try simp only [↓nrmL, nrmZ, Nat.reduceEqDiff, ↓reduceIte, hc]
  refine sq ?_
  refine sq ?_
  refine rg fun KF hKF => ?_
  refine Fo.mov (by simp only [↓nrmL, nrmK, Nat.reduceEqDiff, ↓reduceIte]; rfl) ?_
  refine Fo.len (v := ?_) (by simp only [↓nrmL, nrmK, Nat.reduceEqDiff, ↓reduceIte]; rfl) ?hv ?_; case hv => rfl
  refine Fo.bin rfl rfl rfl (by simp only [↓nrmL, nrmZ, Nat.reduceEqDiff, ↓reduceIte, hc]; rfl) ?_
  refine WpO.nil (hKF _ _ ?_)
  refine Wp.cond (b := false) rfl ?_
  refine Wp.exit ?_
  dsimp only [cond_true, cond_false]
  refine ⟨trivial, _, rfl, ?_⟩
  exact ⟨M, inferInstance, wm, ⟨Nat.le_trans (Nat.le_succ _) hx2.n, fun r hr hne => by rw [hx2.get r (Nat.lt_succ_of_lt hr) hne]; exact push_get_lt hr⟩, hML, hfl2.end hwh hsl h1 h0⟩
 ·haveI := st.ints
  have hlW : (cN (W' ++ [w])).length = W'.length + 1 := by rw [cN_length, List.length_append]; rfl
  have hc : decide ((((cN (W' ++ [w])).length : Nat) : Int) > 0) = true := decide_eq_true (by rw [hlW]; omega)
  rw [List.length_append, List.length_singleton] at hbd
  have hwr : IntKind.i64.wrap ((((cN (W' ++ [w])).length : Nat) : Int) - 1) = (W'.length : Int) := by rw [hlW, w64 (by omega)]; omega
  have hge : (cN (W' ++ [w]))[W'.length]'(by rw [hlW]; exact Nat.lt_succ_self _) = (w : Int) := by
   rw [cN_get, List.getD_eq_getElem?_getD, List.getElem?_append_right (Nat.le_refl _), Nat.sub_self]; rfl
  have hwlt : W'.length < (cN (W' ++ [w])).length := by rw [hlW]; exact Nat.lt_succ_self _
  try simp only [↓nrmL, nrmZ, Nat.reduceEqDiff, ↓reduceIte, hc, hwr, hge]
  refine sq ?_
  refine sq ?_
  refine rg fun KF hKF => ?_
  refine Fo.mov (by simp only [↓nrmL, nrmK, Nat.reduceEqDiff, ↓reduceIte]; rfl) ?_
  refine Fo.len (v := ?_) (by simp only [↓nrmL, nrmK, Nat.reduceEqDiff, ↓reduceIte]; rfl) ?hv ?_; case hv => rfl
  refine Fo.bin rfl rfl rfl (by simp only [↓nrmL, nrmZ, Nat.reduceEqDiff, ↓reduceIte, hc, hwr, hge]; rfl) ?_
  refine WpO.nil (hKF _ _ ?_)
  refine Wp.cond (b := true) rfl ?_
  refine Wp.skip ?_
  refine Wp.block ?_
  refine sq ?_
  refine rg fun KF hKF => ?_
  refine Fo.mov (by simp only [↓nrmL, nrmK, Nat.reduceEqDiff, ↓reduceIte]; rfl) ?_
  refine Fo.mov (by simp only [↓nrmL, nrmK, Nat.reduceEqDiff, ↓reduceIte]; rfl) ?_
  refine Fo.len (v := ?_) (by simp only [↓nrmL, nrmK, Nat.reduceEqDiff, ↓reduceIte]; rfl) ?hv ?_; case hv => rfl
  refine Fo.bin rfl rfl rfl (by simp only [↓nrmL, nrmZ, Nat.reduceEqDiff, ↓reduceIte, hc, hwr, hge]; rfl) ?_
  refine Fo.idx (by simp only [↓nrmL, nrmK, Nat.reduceEqDiff, ↓reduceIte]; rfl) rfl ?_ (by simp only [↓nrmL, nrmZ, Nat.reduceEqDiff, ↓reduceIte, hc, hwr, hge]; rfl) ?_; (focus omega)
  refine Fo.ldI rfl ?_ (by simp only [↓nrmL, nrmZ, Nat.reduceEqDiff, ↓reduceIte, hc, hwr, hge]; rfl) ?_; (focus omega)
  refine mI rfl ?_
  refine WpO.nil (hKF _ _ ?_)
  refine sq ?_
  refine rg fun KF hKF => ?_
  refine Fo.mov (by simp only [↓nrmL, nrmK, Nat.reduceEqDiff, ↓reduceIte]; rfl) ?_
  refine Fo.mov (by simp only [↓nrmL, nrmK, Nat.reduceEqDiff, ↓reduceIte]; rfl) ?_
  refine Fo.len (v := ?_) (by simp only [↓nrmL, nrmK, Nat.reduceEqDiff, ↓reduceIte]; rfl) ?hv ?_; case hv => rfl
  refine Fo.bin rfl rfl rfl (by simp only [↓nrmL, nrmZ, Nat.reduceEqDiff, ↓reduceIte, hc, hwr, hge]; rfl) ?_
  refine WpO.do (WpX.cut (p := wt) (l := W') (k := w) rfl rfl st fun wt1 st1 hsub => ?_)
  have fs1 : FreshS (H.push (.row [.int .i64 ((a + 1 : Nat) : Int), .int .i64 b, p] true (2 * 24))) wt1 := ⟨fun r off len cap sz q => by obtain ⟨_, _, q'⟩ := hsub _ _ _ _ _ q; exact fs.ge _ _ _ _ _ q'⟩
  haveI := st1.ints.one
  refine Fo.mov (by simp only [↓nrmL, nrmK, Nat.reduceEqDiff, ↓reduceIte]; rfl) ?_
  refine WpO.nil (hKF _ _ ?_)
  refine sq ?_
  refine rg fun KF hKF => ?_
  refine mI rfl ?_
  refine WpO.nil (hKF _ _ ?_)
  refine Wp.block ?_
  dsimp only [cond_true, cond_false]
  obtain ⟨_, _, hrw, _⟩ := hfl2.pop.hand w 0 rfl
  have hwl := hrw.end_ok.1
  obtain ⟨_, hwm, hwd, _⟩ := div_lt hwl
  have t3 : ∀ y : Nat, y < b → IntKind.i64.wrap ((y : Nat) : Int) = ((y : Nat) : Int) := fun y hy => w64 (by omega)
  have t1 : ((w : Nat) : Int).tmod ((a + 1 : Nat) : Int) = ((w % (a + 1) : Nat) : Int) := rfl
  have t2 : IntKind.i64.wrap (((w : Nat) : Int).tdiv ((a + 1 : Nat) : Int)) = ((w / (a + 1) : Nat) : Int) := by
   rw [show ((w : Nat) : Int).tdiv ((a + 1 : Nat) : Int) = ((w / (a + 1) : Nat) : Int) from rfl]
   exact t3 _ hwd
  refine Wp.loopS [11, 13, 14, 15, 37, 38, 39, 40, 41, 42, 43, 44, 45, 46, 47, 48, 49, 50, 51, 52, 53, 54, 55, 56, 57, 58, 59, 60, 61, 62, 63, 64, 65, 66, 67, 68, 69, 70, 71, 72, 73, 74, 75, 76, 77, 78, 79, 80, 81, 82, 83, 84, 85, 86, 87, 88, 89, 90, 91, 92, 93] (fun s : AVal × List Nat × List Nat × Nat => [(11, s.1), (13, .int .i64 (s.2.2.2 : Int))]) (fun _ s H3 => FHp (H.push (.row [.int .i64 ((a + 1 : Nat) : Int), .int .i64 b, p] true (2 * 24))) mk [.int .i64 ((a + 1 : Nat) : Int), .int .i64 b, p] H.n s.1 s.2.1 s.2.2.1 H3 ∧ Flood l (a + 1) b e (fun i => M0.getD i 0) s0 n0 (fun i => s.2.2.1.getD i 0) s.2.1 (some (w, s.2.2.2)) ∧ (s.2.1.length + s.2.2.1.count 0 ≤ (a + 1) * b ∧ s.2.1.length + 2 * s.2.2.1.count 0 ≤ W'.length + 2 * M.count 0) ∧ s.2.2.1.length = (a + 1) * b ∧ s.2.2.2 ≤ 8 ∧ s.2.2.2 % stp e = 0) (fun s => 8 - s.2.2.2) (wt1, W', M, 0) rfl (fun _ => rfl) ⟨rfl, rfl, trivial⟩ ⟨⟨bm, wm, st1, fs1, g5, hx2⟩, hfl2.pop, ⟨by dsimp only; omega, Nat.le_refl _⟩, hML, Nat.zero_le _, Nat.zero_mod _⟩ (by unfold fuel0 at hn; dsimp only; omega) ?_
  rintro ⟨wt2, W2, M2, t⟩ gg H3 ⟨hfh3, hfl3, ⟨hbd3, hbe3⟩, hML3, ht8, hts⟩
  dsimp only at hfh3 hfl3 hbd3 hbe3 hML3 ht8 hts
  clear hfl2 hx2 bm wm st fs g5
  obtain ⟨bm, wmk, st, fs, g5, hx3⟩ := hfh3
  haveI := hx3
  haveI : IntsI H3 wt2 (cN W2) := st.ints
  haveI := st.ints.one
  obtain ⟨rwt, et, htab⟩ := tab_row ((inferInstance : Tabs (H.push (.row [.int .i64 ((a + 1 : Nat) : Int), .int .i64 b, p] true (2 * 24)))).keep hx3.n (hx3.get 0 (inferInstance : Tabs (H.push (.row [.int .i64 ((a + 1 : Nat) : Int), .int .i64 b, p] true (2 * 24)))).lt hz))
  haveI := htab
  have hM2 : (cN M2).length = (a + 1) * b := by rw [cN_length]; exact hML3
  simp only [↓nrmL, nrmZ, Nat.reduceEqDiff, ↓reduceIte]
  by_cases ht : t < 8
  ·have hc : decide (((t : Nat) : Int) < 8) = true := decide_eq_true (by omega)
   have wx : IntKind.i64.wrap (((w % (a + 1) : Nat) : Int) + dxN t) = ((w % (a + 1) : Nat) : Int) + dxN t := wd (Nat.le_trans (Nat.le_of_lt hwm) ha) (dN_bd t ht).1
   have wy : IntKind.i64.wrap (((w / (a + 1) : Nat) : Int) + dyN t) = ((w / (a + 1) : Nat) : Int) + dyN t := wd (Nat.le_trans (Nat.le_of_lt hwd) hb) (dN_bd t ht).2
   have hi : inkB (a + 1 : Nat) b l (((w % (a + 1) : Nat) : Int) + dxN t) (((w / (a + 1) : Nat) : Int) + dyN t) = ringF (a + 1) b l ((w % (a + 1) : Nat) : Int) ((w / (a + 1) : Nat) : Int) t := rfl
   have ws : IntKind.i64.wrap (((t : Nat) : Int) + ((stp e : Nat) : Int)) = ((t + stp e : Nat) : Int) := by rw [wa (by omega)]
   have hse : t + stp e ≤ 8 ∧ (t + stp e) % stp e = 0 := by
    cases e
    ·simp only [stp, cond_false] at hts ⊢; omega
    ·simp only [stp, cond_true] at hts ⊢; omega
   try simp only [↓nrmL, nrmZ, Nat.reduceEqDiff, ↓reduceIte, hc, t1, t2, wx, wy, hi]
   refine sq ?_
   refine sq ?_
   refine rg fun KF hKF => ?_
   refine mI rfl ?_
   refine Fo.bin rfl rfl rfl (by simp only [↓nrmL, nrmZ, Nat.reduceEqDiff, ↓reduceIte, hc, t1, t2, wx, wy, hi]; rfl) ?_
   refine WpO.nil (hKF _ _ ?_)
   refine Wp.cond (b := true) rfl ?_
   refine Wp.skip ?_
   refine sq ?_
   refine Wp.block ?_
   refine sq ?_
   refine Fr.quiet rfl rfl fun KF hKF => ?_
   refine mI rfl ?_
   refine Fo.fa rfl ?_
   refine Fo.ld rfl rfl ?_
   refine Fo.bin rfl rfl rfl (by simp only [↓nrmL, nrmZ, Nat.reduceEqDiff, ↓reduceIte, hc, t1, t2, wx, wy, hi]; rfl) ?_
   refine mI rfl ?_
   refine Fo.now rfl (exec_ringA rfl ht) rfl ?_
   try simp only [↓nrmL, nrmZ, Nat.reduceEqDiff, ↓reduceIte, hc, t1, t2, wx, wy, hi]
   refine Fo.fa rfl ?_
   refine Fo.now rfl (exec_ld rfl (around_x t ht)) rfl ?_
   try simp only [↓nrmL, nrmZ, Nat.reduceEqDiff, ↓reduceIte, hc, t1, t2, wx, wy, hi]
   refine Fo.bin rfl rfl rfl (by simp only [↓nrmL, nrmZ, Nat.reduceEqDiff, ↓reduceIte, hc, t1, t2, wx, wy, hi]; rfl) ?_
   refine mI rfl ?_
   refine Fo.fa rfl ?_
   refine Fo.ld rfl rfl ?_
   refine Fo.bin rfl rfl rfl (by simp only [↓nrmL, nrmZ, Nat.reduceEqDiff, ↓reduceIte, hc, t1, t2, wx, wy, hi]; rfl) ?_
   refine mI rfl ?_
   refine Fo.now rfl (exec_ringA rfl ht) rfl ?_
   try simp only [↓nrmL, nrmZ, Nat.reduceEqDiff, ↓reduceIte, hc, t1, t2, wx, wy, hi]
   refine Fo.fa rfl ?_
   refine Fo.now rfl (exec_ld rfl (around_y t ht)) rfl ?_
   try simp only [↓nrmL, nrmZ, Nat.reduceEqDiff, ↓reduceIte, hc, t1, t2, wx, wy, hi]
   refine Fo.bin rfl rfl rfl (by simp only [↓nrmL, nrmZ, Nat.reduceEqDiff, ↓reduceIte, hc, t1, t2, wx, wy, hi]; rfl) ?_
   refine mI rfl ?_
   refine mI rfl ?_
   refine WpO.nil (hKF _ _ ?_)
   refine sq ?_
   refine rg fun KF hKF => ?_
   refine Fo.ldN rfl rfl (by simp only [↓nrmL, nrmZ, Nat.reduceEqDiff, ↓reduceIte, hc, t1, t2, wx, wy, hi]; rfl) ?_
   refine mI rfl ?_
   refine mI rfl ?_
   refine Fo.pcall (v' := ?_) hn rfl (by simp only [↓nrmL, nrmZ, Nat.reduceEqDiff, ↓reduceIte, hc, t1, t2, wx, wy, hi, List.map]; rfl) rfl ?hv fun _ _ => ?_; case hv => (simp only [↓nrmL, nrmZ, Nat.reduceEqDiff, ↓reduceIte, hc, t1, t2, wx, wy, hi]; rfl)
   refine mB rfl ?_
   rename AHeap => H4
   rename ExtI H3 H4 => hx4
   have st4 : Stk H4 wt2 3 (cN W2) := st.keep hx4.ext.n fun _ _ _ _ _ _ hr => hx4.ext.get _ hr
   have hx34 : ExtP (H.push (.row [.int .i64 ((a + 1 : Nat) : Int), .int .i64 b, p] true (2 * 24))) H4 mk := hx3.ext hx4.ext
   cases hv : ringF (a + 1) b l ((w % (a + 1) : Nat) : Int) ((w / (a + 1) : Nat) : Int) t
   ·skip
    try simp only [↓nrmL, nrmZ, Nat.reduceEqDiff, ↓reduceIte, ws]
    refine Fo.no rfl rfl ?_
    refine Fo.no rfl rfl ?_
    refine Fo.no rfl rfl ?_
    refine Fo.no rfl rfl ?_
    refine Fo.no rfl rfl ?_
    refine Fo.no rfl rfl ?_
    refine Fo.no rfl rfl ?_
    refine Fo.no rfl rfl ?_
    refine Fo.no rfl rfl ?_
    refine Fo.no rfl rfl ?_
    refine fB rfl rfl ?_
    refine WpO.nil (hKF _ _ ?_)
    refine Wp.cond (b := false) rfl ?_
    refine Wp.skip ?_
    refine rg fun KF hKF => ?_
    refine mI rfl ?_
    refine mI rfl ?_
    refine Fo.bin rfl rfl rfl (by simp only [↓nrmL, nrmZ, Nat.reduceEqDiff, ↓reduceIte, ws]; rfl) ?_
    refine mI rfl ?_
    refine WpO.nil (hKF _ _ ?_)
    dsimp only [cond_true, cond_false]
    refine ⟨(wt2, W2, M2, t + stp e), by dsimp only; omega, ⟨rfl, rfl, trivial⟩, ⟨inferInstance, inferInstance, st4, fs, inferInstance, hx34⟩, (by have hq := hfl3.off hts hv; exact hq), ⟨hbd3, hbe3⟩, hML3, hse⟩
   ·obtain ⟨u, v, e1, e2, hu, hvb, hl1⟩ := inkB_true hv
    have e1' : ((w % (a + 1) : Nat) : Int) + dxN t = (u : Int) := e1
    have e2' : ((w / (a + 1) : Nat) : Int) + dyN t = (v : Int) := e2
    have hnb : isNb (a + 1) b w t (v * (a + 1) + u) := ⟨u, v, hu, hvb, e1.symm, e2.symm, rfl⟩
    have hidx := isNb_lt hnb
    have hva : v * (a + 1) ≤ 640 * 640 := Nat.mul_le_mul (by omega) ha
    have m1 : IntKind.i64.wrap ((((w / (a + 1) : Nat) : Int) + dyN t) * ((a + 1 : Nat) : Int)) = ((v * (a + 1) : Nat) : Int) := by rw [e2']; exact wm (by omega)
    have m2 : IntKind.i64.wrap (((v * (a + 1) : Nat) : Int) + (((w % (a + 1) : Nat) : Int) + dxN t)) = ((v * (a + 1) + u : Nat) : Int) := by rw [e1']; exact wa (by omega)
    have hix : v * (a + 1) + u < (cN M2).length := by rw [hM2]; exact hidx
    have hge2 : (cN M2)[v * (a + 1) + u]'hix = ((M2.getD (v * (a + 1) + u) 0 : Nat) : Int) := cN_get hix
    try simp only [↓nrmL, nrmZ, Nat.reduceEqDiff, ↓reduceIte, m1, m2, hge2]
    refine Fo.yes rfl rfl ?_
    refine Fo.mov (by simp only [↓nrmL, nrmK, Nat.reduceEqDiff, ↓reduceIte]; rfl) ?_
    refine Fo.yes rfl rfl ?_
    refine mI rfl ?_
    refine Fo.yes rfl rfl ?_
    refine Fo.fa rfl ?_
    refine Fo.yes rfl rfl ?_
    refine Fo.ld rfl rfl ?_
    refine Fo.yes rfl rfl ?_
    refine Fo.bin rfl rfl rfl (by simp only [↓nrmL, nrmZ, Nat.reduceEqDiff, ↓reduceIte, m1, m2, hge2]; rfl) ?_
    refine Fo.yes rfl rfl ?_
    refine mI rfl ?_
    refine Fo.yes rfl rfl ?_
    refine Fo.bin rfl rfl rfl (by simp only [↓nrmL, nrmZ, Nat.reduceEqDiff, ↓reduceIte, m1, m2, hge2]; rfl) ?_
    refine Fo.yes rfl rfl ?_
    refine Fo.idx (by simp only [↓nrmL, nrmK, Nat.reduceEqDiff, ↓reduceIte]; rfl) rfl ?_ (by simp only [↓nrmL, nrmZ, Nat.reduceEqDiff, ↓reduceIte, m1, m2, hge2]; rfl) ?_; (focus omega)
    refine Fo.yes rfl rfl ?_
    refine Fo.ldI rfl ?_ (by simp only [↓nrmL, nrmZ, Nat.reduceEqDiff, ↓reduceIte, m1, m2, hge2]; rfl) ?_; (focus omega)
    refine Fo.yes rfl rfl ?_
    refine Fo.bin rfl rfl rfl rfl ?_
    refine tB rfl rfl ?_
    refine WpO.nil (hKF _ _ ?_)
    dsimp only [cond_true, cond_false]
    cases hz0 : (((M2.getD (v * (a + 1) + u) 0 : Nat) : Int) == 0)
    ·skip
     try simp only [↓nrmL, nrmZ, Nat.reduceEqDiff, ↓reduceIte, ws]
     refine Wp.cond (b := false) rfl ?_
     refine Wp.skip ?_
     refine rg fun KF hKF => ?_
     refine mI rfl ?_
     refine mI rfl ?_
     refine Fo.bin rfl rfl rfl (by simp only [↓nrmL, nrmZ, Nat.reduceEqDiff, ↓reduceIte, ws]; rfl) ?_
     refine mI rfl ?_
     refine WpO.nil (hKF _ _ ?_)
     dsimp only [cond_true, cond_false]
     refine ⟨(wt2, W2, M2, t + stp e), by dsimp only; omega, ⟨rfl, rfl, trivial⟩, ⟨inferInstance, inferInstance, st4, fs, inferInstance, hx34⟩, (by have hq := hfl3.been hts hnb (fun q => by rw [q] at hz0; cases hz0); exact hq), ⟨hbd3, hbe3⟩, hML3, hse⟩
    ·have hz1 : M2.getD (v * (a + 1) + u) 0 = 0 := by have := eq_of_beq hz0; omega
     try simp only [↓nrmL, nrmZ, Nat.reduceEqDiff, ↓reduceIte, m1, m2]
     refine Wp.cond (b := true) rfl ?_
     refine sq ?_
     refine rg fun KF hKF => ?_
     refine Fo.mov (by simp only [↓nrmL, nrmK, Nat.reduceEqDiff, ↓reduceIte]; rfl) ?_
     refine mI rfl ?_
     refine Fo.fa rfl ?_
     refine Fo.ld rfl rfl ?_
     refine Fo.bin rfl rfl rfl (by simp only [↓nrmL, nrmZ, Nat.reduceEqDiff, ↓reduceIte, m1, m2]; rfl) ?_
     refine mI rfl ?_
     refine Fo.bin rfl rfl rfl (by simp only [↓nrmL, nrmZ, Nat.reduceEqDiff, ↓reduceIte, m1, m2]; rfl) ?_
     refine mI rfl ?_
     refine Fo.idx (by simp only [↓nrmL, nrmK, Nat.reduceEqDiff, ↓reduceIte]; rfl) rfl ?_ (by simp only [↓nrmL, nrmZ, Nat.reduceEqDiff, ↓reduceIte, m1, m2]; rfl) ?_; (focus omega)
     refine WpO.do' (WpX.stI (p := mk) (j := v * (a + 1) + u) (l := cN M2) rfl rfl hix fun H5 hb5 hw5 hx5 => ?_)
     rw [cN_set] at hb5
     haveI := hx5
     have hsep5 : SepS wt2 mk := inferInstance
     have st5 : Stk H5 wt2 3 (cN W2) := st4.other hx5 hsep5
     try simp only [↓nrmL, nrmZ, Nat.reduceEqDiff, ↓reduceIte, m1, m2]
     refine WpO.nil (hKF _ _ ?_)
     refine rg fun KF hKF => ?_
     refine Fo.mov (by simp only [↓nrmL, nrmK, Nat.reduceEqDiff, ↓reduceIte]; rfl) ?_
     refine mI rfl ?_
     refine Fo.fa rfl ?_
     refine Fo.ld rfl rfl ?_
     refine Fo.bin rfl rfl rfl (by simp only [↓nrmL, nrmZ, Nat.reduceEqDiff, ↓reduceIte, m1, m2]; rfl) ?_
     refine mI rfl ?_
     refine Fo.bin rfl rfl rfl (by simp only [↓nrmL, nrmZ, Nat.reduceEqDiff, ↓reduceIte, m1, m2]; rfl) ?_
     refine Fo.bslice rfl (by simp only [↓nrmL, nrmZ, Nat.reduceEqDiff, ↓reduceIte, m1, m2]; rfl) ?_
     refine WpO.do (WpX.push (p := wt2) (l := W2) (k := v * (a + 1) + u) rfl rfl st5.pushed one_ints (by omega) fun wt6 H6 st6 hx6 hfr6 => ?_)
     haveI := hx6
     haveI : RowNe wt2 H.n := ⟨fun r off len cap sz q => by
      have h6 := fs.ge _ _ _ _ _ q
      have h7 : (H.push (.row [.int .i64 ((a + 1 : Nat) : Int), .int .i64 b, p] true (2 * 24))).n = H.n + 1 := rfl
      omega⟩
     haveI : ExtP0 (H.push (.row [.int .i64 ((a + 1 : Nat) : Int), .int .i64 b, p] true (2 * 24))) H4 mk := ⟨hx34⟩
     have hcs := count_setN (M := M2) (k := v * (a + 1) + u) (v := n0) (by omega) hz1 hn0
     have hxx : ExtP (H.push (.row [.int .i64 ((a + 1 : Nat) : Int), .int .i64 b, p] true (2 * 24))) (H5.push (.row [.int .i64 ((v * (a + 1) + u : Nat) : Int)] true (2 * 3))) mk := ExtP0.ext
     haveI := st6.ints.one
     try simp only [↓nrmL, nrmZ, Nat.reduceEqDiff, ↓reduceIte, ws]
     refine Fo.mov (by simp only [↓nrmL, nrmK, Nat.reduceEqDiff, ↓reduceIte]; rfl) ?_
     refine WpO.nil (hKF _ _ ?_)
     refine rg fun KF hKF => ?_
     refine mI rfl ?_
     refine mI rfl ?_
     refine Fo.bin rfl rfl rfl (by simp only [↓nrmL, nrmZ, Nat.reduceEqDiff, ↓reduceIte, ws]; rfl) ?_
     refine mI rfl ?_
     refine WpO.nil (hKF _ _ ?_)
     dsimp only [cond_true, cond_false]
     refine ⟨(wt6, W2 ++ [v * (a + 1) + u], M2.set (v * (a + 1) + u) n0, t + stp e), by dsimp only; omega, ⟨rfl, rfl, trivial⟩, ⟨inferInstance, inferInstance, st6, hfr6 _ hxx.n fs, inferInstance, hxx.fresh hx6 fs⟩, (by have hq := hfl3.add hts ht hnb hl1 hz1 hwh hn0 (by omega); exact hq), ⟨by dsimp only; rw [List.length_append, List.length_singleton]; omega, by dsimp only; rw [List.length_append, List.length_singleton]; omega⟩, by dsimp only; rw [List.length_set]; exact hML3, hse⟩
  ·obtain rfl : t = 8 := by omega
   have hc : decide (((8 : Nat) : Int) < 8) = false := rfl
   try simp only [↓nrmL, nrmZ, Nat.reduceEqDiff, ↓reduceIte, hc]
   refine sq ?_
   refine sq ?_
   refine rg fun KF hKF => ?_
   refine mI rfl ?_
   refine Fo.bin rfl rfl rfl (by simp only [↓nrmL, nrmZ, Nat.reduceEqDiff, ↓reduceIte, hc]; rfl) ?_
   refine WpO.nil (hKF _ _ ?_)
   refine Wp.cond (b := false) rfl ?_
   refine Wp.exit ?_
   dsimp only [cond_true, cond_false]
   refine ⟨(wt2, W2, M2), by dsimp only; rw [List.length_append, List.length_singleton]; omega, ⟨rfl, trivial⟩, ⟨bm, wmk, st, fs, g5, hx3⟩, hfl3.drop, hbd3, hML3⟩
end Go.Am

set_option maxHeartbeats 8000000
set_option maxRecDepth 100000
set_option synthInstance.maxHeartbeats 4000000
set_option synthInstance.maxSize 100000
namespace Go.Am
open Go
attribute [local irreducible] Wp WpO WpX WpE

theorem K_label {a b : Nat} {e : Bool} {p : AVal} {H : AHeap} {l : List UInt8} [hp : BytesI H p l] [hs : Fits a b l] [ht : Tabs H] (ha : a ≤ 640) (hb : b ≤ 640) : Con ext prog 3 121 [.agg [.int .i64 a, .int .i64 b, p], .bool e] H fun v H' => ∃ mk M L, v = .tuple [mk, .int .i64 ((L : List Nat).length : Nat)] ∧ IntsI H' mk (cN M) ∧ FreshS H mk ∧ WrS H' mk ∧ Ext H H' ∧ Lab l a b e M L (a * b) := by
 refine con_of (show prog 121 = some c121 from rfl) rfl rfl fun n hn => ?_
 haveI := hp.one
 have hab : a * b ≤ 640 * 640 := Nat.mul_le_mul ha hb
 have hlen := hs.len
 refine sq ?_
 refine rg fun KF hKF => ?_
 refine Fo.boxA rfl ?_
 refine mN rfl ?_
 refine mI rfl ?_
 refine WpO.nil (hKF _ _ ?_)
 refine sq ?_
 refine rg fun KF hKF => ?_
 refine Fo.fa rfl ?_
 refine Fo.ld rfl rfl ?_
 refine Fo.len (v := ?_) (by simp only [↓nrmL, nrmK, Nat.reduceEqDiff, ↓reduceIte]; rfl) ?hv ?_; case hv => rfl
 refine WpO.do (WpX.mkI (n := l.length) rfl rfl rfl (by omega) fun q H1 e1 hq hf hw hx => ?_); try simp only [↓nrmL, nrmZ, Nat.reduceEqDiff, ↓reduceIte]
 haveI := hq.one
 have hzr : cN (List.replicate (a * b) 0) = List.replicate l.length 0 := by simp [cN, hlen]
 have hq2 : IntsI H1 q (cN (List.replicate (a * b) 0)) := by rw [hzr]; exact hq
 have hz : RowNe q 0 := ⟨fun r off len cap sz e => by
  have h1 := hf.ge _ _ _ _ _ e
  have h2 : (H.push (.row [.int .i64 (a : Int), .int .i64 (b : Int), p] true (2 * 24))).n = H.n + 1 := rfl
  omega⟩
 refine Fo.mov (by simp only [↓nrmL, nrmK, Nat.reduceEqDiff, ↓reduceIte]; rfl) ?_
 refine WpO.nil (hKF _ _ ?_)
 refine sq ?_
 refine sq ?_
 refine rg fun KF hKF => ?_
 refine Fo.fa rfl ?_
 refine Fo.ld rfl rfl ?_
 refine Fo.len (v := ?_) (by simp only [↓nrmL, nrmK, Nat.reduceEqDiff, ↓reduceIte]; rfl) ?hv ?_; case hv => rfl
 refine mI rfl ?_
 refine WpO.nil (hKF _ _ ?_)
 refine Wp.block ?_
 dsimp only [cond_true, cond_false]
 refine Wp.loopS [5, 6, 7, 15, 16, 17, 18, 19, 20, 21, 22, 23, 24, 25, 26, 27, 28, 29, 30, 31, 32, 33, 34, 35, 36, 37] (fun s : Nat × List Nat × List Nat => [(5, .int .i64 ((s.2.2.length : Nat) : Int)), (15, .int .i64 (s.1 : Int))]) (fun H3 s H2 => s.1 ≤ a * b ∧ Lab l a b e s.2.1 s.2.2 s.1 ∧ IntsI H2 q (cN s.2.1) ∧ WrS H2 q ∧ ExtP0 H3 H2 q) (fun s => a * b - s.1) (0, List.replicate (a * b) 0, []) rfl (fun _ => rfl) ⟨rfl, rfl, trivial⟩ ⟨Nat.zero_le _, Lab.begin, hq2, inferInstance, inferInstance⟩ (by unfold fuel0 at hn; dsimp only; omega) ?_
 rintro ⟨i, M, L⟩ g H2 ⟨hi, hlab, hb2, hw2, ⟨hx2⟩⟩
 dsimp only at hi hlab hb2
 simp only [↓nrmL, nrmZ, Nat.reduceEqDiff, ↓reduceIte]
 have hML : (cN M).length = a * b := by rw [cN_length]; exact hlab.len
 cases hc : decide ((i : Int) < (l.length : Int))
 ·have hil : i = a * b := by have := of_decide_eq_false hc; omega
  subst hil
  try simp only [↓nrmL, nrmZ, Nat.reduceEqDiff, ↓reduceIte, hc]
  refine sq ?_
  refine rg fun KF hKF => ?_
  refine Fo.bin rfl rfl rfl (by simp only [↓nrmL, nrmZ, Nat.reduceEqDiff, ↓reduceIte, hc]; rfl) ?_
  refine WpO.nil (hKF _ _ ?_)
  refine sq ?_
  refine Wp.cond (b := false) rfl ?_
  refine Wp.exit ?_
  refine sq ?_
  refine rg fun KF hKF => ?_
  refine Fo.mov (by simp only [↓nrmL, nrmK, Nat.reduceEqDiff, ↓reduceIte]; rfl) ?_
  refine mI rfl ?_
  refine Fo.mov (by simp only [↓nrmL, nrmK, Nat.reduceEqDiff, ↓reduceIte]; rfl) ?_
  refine mI rfl ?_
  refine WpO.nil (hKF _ _ ?_)
  refine Wp.ret ?_
  dsimp only [cond_true, cond_false]
  refine ⟨trivial, _, rfl, ?_⟩
  exact ⟨q, M, L, rfl, inferInstance, hf.weak, inferInstance, Ext0.ext, hlab⟩
 ·have hil : i < l.length := by have := of_decide_eq_true hc; omega
  have hiab : i < a * b := by omega
  have hw1 := wa1 (a := i) (by omega)
  have hfew := hlab.few
  have hw3 := wa1 (a := L.length) (by omega)
  have hge : (cN M)[i]'(by omega) = ((M.getD i 0 : Nat) : Int) := cN_get _
  have hiM : i < (cN M).length := by omega
  have hld : l.getD i 0 = l[i] := by rw [List.getD_eq_getElem?_getD, List.getElem?_eq_getElem hil]; rfl
  cases hv : (l[i] == 1)
  ·skip
   try simp only [↓nrmL, nrmZ, Nat.reduceEqDiff, ↓reduceIte, hc, u8_one, hv]
   refine sq ?_
   refine rg fun KF hKF => ?_
   refine Fo.bin rfl rfl rfl (by simp only [↓nrmL, nrmZ, Nat.reduceEqDiff, ↓reduceIte, hc, u8_one, hv]; rfl) ?_
   refine WpO.nil (hKF _ _ ?_)
   refine sq ?_
   refine Wp.cond (b := true) rfl ?_
   refine Wp.skip ?_
   refine sq ?_
   refine Wp.block ?_
   refine sq ?_
   refine rg fun KF hKF => ?_
   refine mI rfl ?_
   refine Fo.idx (by simp only [↓nrmL, nrmK, Nat.reduceEqDiff, ↓reduceIte]; rfl) rfl ?_ (by simp only [↓nrmL, nrmZ, Nat.reduceEqDiff, ↓reduceIte, hc, u8_one, hv]; rfl) ?_; (focus omega)
   refine Fo.ldB rfl ?_ rfl ?_; (focus omega)
   refine mI rfl ?_
   refine mI rfl ?_
   refine WpO.nil (hKF _ _ ?_)
   refine sq ?_
   refine rg fun KF hKF => ?_
   refine mI rfl ?_
   refine Fo.bin rfl rfl rfl (by simp only [↓nrmL, nrmZ, Nat.reduceEqDiff, ↓reduceIte, hc, u8_one, hv]; rfl) ?_
   refine mB rfl ?_
   refine Fo.no rfl rfl ?_
   refine Fo.no rfl rfl ?_
   refine Fo.no rfl rfl ?_
   refine Fo.no rfl rfl ?_
   refine Fo.no rfl rfl ?_
   refine fB rfl rfl ?_
   refine WpO.nil (hKF _ _ ?_)
   refine Wp.cond (b := false) rfl ?_
   refine Wp.skip ?_
   refine rg fun KF hKF => ?_
   refine Fo.bin rfl rfl rfl rfl ?_
   refine mI rfl ?_
   refine WpO.nil (hKF _ _ ?_)
   dsimp only [cond_true, cond_false]
   refine ⟨(i + 1, M, L), by dsimp only; omega, ⟨rfl, by simp only [↓nrmL, nrmZ, Nat.reduceEqDiff, ↓reduceIte]; rw [hw1], trivial⟩, hiab, hlab.skip (fun q => by rw [← hld, q] at hv; cases hv), inferInstance, inferInstance, inferInstance⟩
  ·have hl1 : l.getD i 0 = 1 := by rw [hld]; exact eq_of_beq hv
   try simp only [↓nrmL, nrmZ, Nat.reduceEqDiff, ↓reduceIte, hc, u8_one, hv, hge]
   refine sq ?_
   refine rg fun KF hKF => ?_
   refine Fo.bin rfl rfl rfl (by simp only [↓nrmL, nrmZ, Nat.reduceEqDiff, ↓reduceIte, hc, u8_one, hv, hge]; rfl) ?_
   refine WpO.nil (hKF _ _ ?_)
   refine sq ?_
   refine Wp.cond (b := true) rfl ?_
   refine Wp.skip ?_
   refine sq ?_
   refine Wp.block ?_
   refine sq ?_
   refine rg fun KF hKF => ?_
   refine mI rfl ?_
   refine Fo.idx (by simp only [↓nrmL, nrmK, Nat.reduceEqDiff, ↓reduceIte]; rfl) rfl ?_ (by simp only [↓nrmL, nrmZ, Nat.reduceEqDiff, ↓reduceIte, hc, u8_one, hv, hge]; rfl) ?_; (focus omega)
   refine Fo.ldB rfl ?_ rfl ?_; (focus omega)
   refine mI rfl ?_
   refine mI rfl ?_
   refine WpO.nil (hKF _ _ ?_)
   refine sq ?_
   refine rg fun KF hKF => ?_
   refine mI rfl ?_
   refine Fo.bin rfl rfl rfl (by simp only [↓nrmL, nrmZ, Nat.reduceEqDiff, ↓reduceIte, hc, u8_one, hv, hge]; rfl) ?_
   refine mB rfl ?_
   refine Fo.yes rfl rfl ?_
   refine Fo.mov (by simp only [↓nrmL, nrmK, Nat.reduceEqDiff, ↓reduceIte]; rfl) ?_
   refine Fo.yes rfl rfl ?_
   refine mI rfl ?_
   refine Fo.yes rfl rfl ?_
   refine Fo.idx (by simp only [↓nrmL, nrmK, Nat.reduceEqDiff, ↓reduceIte]; rfl) rfl ?_ (by simp only [↓nrmL, nrmZ, Nat.reduceEqDiff, ↓reduceIte, hc, u8_one, hv, hge]; rfl) ?_; (focus omega)
   refine Fo.yes rfl rfl ?_
   refine Fo.ldI rfl ?_ (by simp only [↓nrmL, nrmZ, Nat.reduceEqDiff, ↓reduceIte, hc, u8_one, hv, hge]; rfl) ?_; (focus omega)
   refine Fo.yes rfl rfl ?_
   refine Fo.bin rfl rfl rfl rfl ?_
   refine tB rfl rfl ?_
   refine WpO.nil (hKF _ _ ?_)
   dsimp only [cond_true, cond_false]
   cases hz0 : (((M.getD i 0 : Nat) : Int) == 0)
   ·skip
    refine Wp.cond (b := false) rfl ?_
    refine Wp.skip ?_
    refine rg fun KF hKF => ?_
    refine Fo.bin rfl rfl rfl rfl ?_
    refine mI rfl ?_
    refine WpO.nil (hKF _ _ ?_)
    dsimp only [cond_true, cond_false]
    refine ⟨(i + 1, M, L), by dsimp only; omega, ⟨rfl, by simp only [↓nrmL, nrmZ, Nat.reduceEqDiff, ↓reduceIte]; rw [hw1], trivial⟩, hiab, hlab.skip (fun _ q => by rw [q] at hz0; cases hz0), inferInstance, inferInstance, inferInstance⟩
   ·have h0 : M.getD i 0 = 0 := by have := eq_of_beq hz0; omega
    try simp only [↓nrmL, nrmZ, Nat.reduceEqDiff, ↓reduceIte, hw3]
    refine Wp.cond (b := true) rfl ?_
    refine sq ?_
    refine rg fun KF hKF => ?_
    refine mI rfl ?_
    refine Fo.bin rfl rfl rfl (by simp only [↓nrmL, nrmZ, Nat.reduceEqDiff, ↓reduceIte, hw3]; rfl) ?_
    refine mI rfl ?_
    refine WpO.nil (hKF _ _ ?_)
    refine rg fun KF hKF => ?_
    refine Fo.ldN rfl rfl (by simp only [↓nrmL, nrmZ, Nat.reduceEqDiff, ↓reduceIte, hw3]; rfl) ?_
    refine mB rfl ?_
    refine Fo.mov (by simp only [↓nrmL, nrmK, Nat.reduceEqDiff, ↓reduceIte]; rfl) ?_
    refine mI rfl ?_
    refine mI rfl ?_
    refine WpO.do (WpX.conD hn rfl rfl (by simp only [↓nrmL, nrmZ, Nat.reduceEqDiff, ↓reduceIte, List.map] <;> rfl) (K_flood (e := e) (l := l) (M0 := M) (s0 := i) (n0 := L.length + 1) hz hlab.len ha hb hiab hl1 h0 hlab.whole (Nat.succ_pos _)) fun v H5 h5 => ?_)
    obtain ⟨M', hb5, hw5, hx5, hM', hm'⟩ := h5
    haveI := hx5
    refine WpO.nil (hKF _ _ ?_)
    refine rg fun KF hKF => ?_
    refine Fo.bin rfl rfl rfl rfl ?_
    refine mI rfl ?_
    refine WpO.nil (hKF _ _ ?_)
    dsimp only [cond_true, cond_false]
    refine ⟨(i + 1, M', L ++ [i]), by dsimp only; omega, ⟨by dsimp only; rw [List.length_append, List.length_singleton]; rfl, by simp only [↓nrmL, nrmZ, Nat.reduceEqDiff, ↓reduceIte]; rw [hw1], trivial⟩, hiab, hlab.next hiab hl1 h0 hM' hm', hb5, hw5, inferInstance⟩
end Go.Am

set_option maxHeartbeats 8000000
set_option maxRecDepth 100000
set_option synthInstance.maxHeartbeats 4000000
set_option synthInstance.maxSize 1000000000
namespace Go.Am
open Go
attribute [local irreducible] Wp WpO WpX WpE

theorem K_Components {a b : Nat} {e : Bool} {p : AVal} {H : AHeap} {l : List UInt8} [hp : BytesI H p l] [ht : Tabs H] (ok : Ok a b l) : Con ext prog 5 60 [.agg [.int .i64 a, .int .i64 b, p], .bool e] H fun v H' => ∃ q K M L C, v = .tuple [q, .int .i64 0] ∧ Ext H K ∧ CmpsR K H' q l a b e M L C ∧ FreshS K q ∧ Ext H H' := by
 refine con_of (show prog 60 = some c60 from rfl) rfl rfl fun n hn => ?_
 haveI := hp.one
 haveI : Fits a b l := ⟨ok.sized⟩
 have ee := ok.err
 have ha := ok.wa
 have hb := ok.hb
 have hab : a * b ≤ 640 * 640 := Nat.mul_le_mul ha hb
 try simp only [↓nrmL, nrmZ, Nat.reduceEqDiff, ↓reduceIte, Nat.reduceAdd, Int.reduceBEq, Int.reduceBNe, ee]
 refine sq ?_
 refine rg fun KF hKF => ?_
 refine Fo.boxA rfl ?_
 refine mN rfl ?_
 refine mI rfl ?_
 refine WpO.nil (hKF _ _ ?_)
 refine sq ?_
 refine sq ?_
 refine rg fun KF hKF => ?_
 refine Fo.ldN rfl rfl (by simp only [↓nrmL, nrmZ, Nat.reduceEqDiff, ↓reduceIte, Nat.reduceAdd, Int.reduceBEq, Int.reduceBNe, ee]; rfl) ?_
 refine Fo.pcall (v' := ?_) hn rfl (by simp only [↓nrmL, nrmZ, Nat.reduceEqDiff, ↓reduceIte, Nat.reduceAdd, Int.reduceBEq, Int.reduceBNe, ee, List.map]; rfl) rfl ?hv fun _ _ => ?_; case hv => (simp only [↓nrmL, nrmZ, Nat.reduceEqDiff, ↓reduceIte, Nat.reduceAdd, Int.reduceBEq, Int.reduceBNe, ee]; rfl)
 refine mI rfl ?_
 refine WpO.nil (hKF _ _ ?_)
 refine sq ?_
 refine rg fun KF hKF => ?_
 refine mI rfl ?_
 refine Fo.bin rfl rfl rfl (by simp only [↓nrmL, nrmZ, Nat.reduceEqDiff, ↓reduceIte, Nat.reduceAdd, Int.reduceBEq, Int.reduceBNe, ee]; rfl) ?_
 refine WpO.nil (hKF _ _ ?_)
 refine Wp.cond (b := false) rfl ?_
 refine Wp.skip ?_
 refine sq ?_
 refine rg fun KF hKF => ?_
 refine Fo.ldN rfl rfl (by simp only [↓nrmL, nrmZ, Nat.reduceEqDiff, ↓reduceIte, Nat.reduceAdd, Int.reduceBEq, Int.reduceBNe, ee]; rfl) ?_
 refine mB rfl ?_
 rename AHeap => Hc
 rename ExtI _ Hc => hxc
 refine WpO.do (WpX.conD hn rfl rfl (by simp only [↓nrmL, nrmZ, Nat.reduceEqDiff, ↓reduceIte, Nat.reduceAdd, Int.reduceBEq, Int.reduceBNe, List.map] <;> rfl) (K_label (e := e) (l := l) ha hb) fun v H1 h5 => ?_)
 obtain ⟨mk, M, L, rfl, hm1, hfm, hwm, hx1, hlab⟩ := h5
 haveI : ExtI _ H1 := ⟨hx1⟩
 haveI := hm1.one
 have hE1 : Ext H H1 := Ext0.ext
 haveI hrI : HasRow H1 H.n [.int .i64 (a : Int), .int .i64 (b : Int), p] true (2 * 24) := inferInstance
 have hML : (cN M).length = a * b := by rw [cN_length]; exact hlab.len
 refine mT rfl ?_
 refine Fo.extr rfl rfl ?_
 refine Fo.extr rfl rfl ?_
 refine Fo.mov (by simp only [↓nrmL, nrmK, Nat.reduceEqDiff, ↓reduceIte]; rfl) ?_
 refine mI rfl ?_
 refine WpO.nil (hKF _ _ ?_)
 refine sq ?_
 refine rg fun KF hKF => ?_
 refine mI rfl ?_
 refine WpO.do (WpX.mkC (n := L.length) (K0 := H1) a rfl rfl (by decide) (by have := hlab.few; omega) (Nat.le_refl _) fun q H2 hq hf hx2 => ?_)
 haveI := hq.row.one
 refine Fo.mov (by simp only [↓nrmL, nrmK, Nat.reduceEqDiff, ↓reduceIte]; rfl) ?_
 refine WpO.nil (hKF _ _ ?_)
 refine sq ?_
 refine sq ?_
 refine rg fun KF hKF => ?_
 refine Fo.mov (by simp only [↓nrmL, nrmK, Nat.reduceEqDiff, ↓reduceIte]; rfl) ?_
 refine Fo.len (v := ?_) (by simp only [↓nrmL, nrmK, Nat.reduceEqDiff, ↓reduceIte]; rfl) ?hv ?_; case hv => rfl
 refine mI rfl ?_
 refine WpO.nil (hKF _ _ ?_)
 refine Wp.block ?_
 dsimp only [cond_true, cond_false]
 refine Wp.loopS [10, 11, 12, 13, 29, 30, 31, 32, 33, 34, 35, 36, 37, 38, 39, 40, 41, 42, 43, 44, 45, 46, 47, 48, 49, 50, 51, 52, 53, 54, 55, 56, 57, 58, 59, 60, 61, 62, 63, 64, 65, 66, 67, 68] (fun i : Nat => [(29, .int .i64 (i : Int))]) (fun _ i H4 => i ≤ a * b ∧ (∃ C, C.length = L.length ∧ Cmps H1 H4 q a C (pxAll M L.length i) ∧ ∀ (k : Nat) c, C[k]? = some c → c.1 = bxL a (pxs M i k)) ∧ IntsI H4 mk (cN M) ∧ HasRow H4 H.n [.int .i64 (a : Int), .int .i64 (b : Int), p] true (2 * 24) ∧ Ext0 H1 H4) (fun i => a * b - i) 0 rfl (fun _ => rfl) ⟨rfl, trivial⟩ ⟨Nat.zero_le _, ⟨noC L.length, List.length_replicate .., by rw [pxAll_zero]; exact hq, fun k c hc => by rw [rep_at hc]; rfl⟩, inferInstance, inferInstance, inferInstance⟩ (by unfold fuel0 at hn; omega) ?_
 rintro i g H4 ⟨hi, ⟨C, hCL, hC, hbx⟩, hb4, hr4, hx4⟩
 simp only [↓nrmL, nrmZ, Nat.reduceEqDiff, ↓reduceIte, Nat.reduceAdd, Int.reduceBEq, Int.reduceBNe]
 cases hc : decide ((i : Int) < ((cN M).length : Int))
 ·have hil : i = a * b := by have := of_decide_eq_false hc; omega
  subst hil
  try simp only [↓nrmL, nrmZ, Nat.reduceEqDiff, ↓reduceIte, Nat.reduceAdd, Int.reduceBEq, Int.reduceBNe, hc]
  refine sq ?_
  refine rg fun KF hKF => ?_
  refine Fo.bin rfl rfl rfl (by simp only [↓nrmL, nrmZ, Nat.reduceEqDiff, ↓reduceIte, Nat.reduceAdd, Int.reduceBEq, Int.reduceBNe, hc]; rfl) ?_
  refine WpO.nil (hKF _ _ ?_)
  refine sq ?_
  refine Wp.cond (b := false) rfl ?_
  refine Wp.exit ?_
  refine sq ?_
  refine rg fun KF hKF => ?_
  refine Fo.mov (by simp only [↓nrmL, nrmK, Nat.reduceEqDiff, ↓reduceIte]; rfl) ?_
  refine Fo.mov (by simp only [↓nrmL, nrmK, Nat.reduceEqDiff, ↓reduceIte]; rfl) ?_
  refine mI rfl ?_
  refine WpO.nil (hKF _ _ ?_)
  refine Wp.ret ?_
  dsimp only [cond_true, cond_false]
  refine ⟨trivial, _, rfl, ?_⟩
  exact ⟨q, H1, M, L, C, rfl, hE1, ⟨hlab, hC, hbx, hCL⟩, hf, hE1.trans Ext0.ext⟩
 have hil : i < a * b := by have := of_decide_eq_true hc; omega
 have hw1 := wa1 (a := i) (by omega)
 have hiM : i < (cN M).length := by omega
 have hge : (cN M)[i]'hiM = ((M.getD i 0 : Nat) : Int) := cN_get _
 cases hz0 : (((M.getD i 0 : Nat) : Int) == 0)
 rotate_left
 ·have h0 : M.getD i 0 = 0 := by have := eq_of_beq hz0; omega
  try simp only [↓nrmL, nrmZ, Nat.reduceEqDiff, ↓reduceIte, Nat.reduceAdd, Int.reduceBEq, Int.reduceBNe, hc, hge, hz0]
  refine sq ?_
  refine rg fun KF hKF => ?_
  refine Fo.bin rfl rfl rfl (by simp only [↓nrmL, nrmZ, Nat.reduceEqDiff, ↓reduceIte, Nat.reduceAdd, Int.reduceBEq, Int.reduceBNe, hc, hge, hz0]; rfl) ?_
  refine WpO.nil (hKF _ _ ?_)
  refine sq ?_
  refine Wp.cond (b := true) rfl ?_
  refine Wp.skip ?_
  refine sq ?_
  refine Wp.block ?_
  refine sq ?_
  refine rg fun KF hKF => ?_
  refine mI rfl ?_
  refine Fo.idx (by simp only [↓nrmL, nrmK, Nat.reduceEqDiff, ↓reduceIte]; rfl) rfl ?_ (by simp only [↓nrmL, nrmZ, Nat.reduceEqDiff, ↓reduceIte, Nat.reduceAdd, Int.reduceBEq, Int.reduceBNe, hc, hge, hz0]; rfl) ?_; (focus omega)
  refine Fo.ldI rfl ?_ (by simp only [↓nrmL, nrmZ, Nat.reduceEqDiff, ↓reduceIte, Nat.reduceAdd, Int.reduceBEq, Int.reduceBNe, hc, hge, hz0]; rfl) ?_; (focus omega)
  refine mI rfl ?_
  refine mI rfl ?_
  refine WpO.nil (hKF _ _ ?_)
  refine sq ?_
  refine sq ?_
  refine rg fun KF hKF => ?_
  refine mI rfl ?_
  refine Fo.bin rfl rfl rfl (by simp only [↓nrmL, nrmZ, Nat.reduceEqDiff, ↓reduceIte, Nat.reduceAdd, Int.reduceBEq, Int.reduceBNe, hc, hge, hz0]; rfl) ?_
  refine WpO.nil (hKF _ _ ?_)
  refine Wp.cond (b := true) rfl ?_
  refine Wp.exit ?_
  refine rg fun KF hKF => ?_
  refine Fo.bin rfl rfl rfl rfl ?_
  refine mI rfl ?_
  refine WpO.nil (hKF _ _ ?_)
  dsimp only [cond_true, cond_false]
  refine ⟨i + 1, by omega, ⟨by simp only [↓nrmL, nrmZ, Nat.reduceEqDiff, ↓reduceIte, Nat.reduceAdd, Int.reduceBEq, Int.reduceBNe]; rw [hw1], trivial⟩, hil, ⟨C, hCL, by rw [pxAll_skip h0]; exact hC, fun k c hk => by rw [pxs_miss (by omega)]; exact hbx k c hk⟩, inferInstance, inferInstance, inferInstance⟩
 have h0 : M.getD i 0 ≠ 0 := by have := ne_of_beq_false hz0; omega
 have hlt := hlab.whole.lt i
 try dsimp only at hlt
 obtain ⟨k, hk⟩ : ∃ k, M.getD i 0 = k + 1 := ⟨M.getD i 0 - 1, by omega⟩
 have hkL : k < L.length := by omega
 have hkC : k < C.length := by omega
 obtain ⟨c, hck⟩ : ∃ c, C[k]? = some c := ⟨C[k], List.getElem?_eq_getElem hkC⟩
 have hPk := pxAll_at (M := M) (i := i) hkL
 have hown := hC.own k c _ hck hPk
 have hcr := hC.row
 rw [hk] at hge
 have hs1 : IntKind.i64.wrap (((k + 1 : Nat) : Int) - 1) = (k : Int) := by rw [w64 (by have := hlab.few; omega)]; omega
 have hi6 : i < 640 * 640 := by omega
 have hL6 := hlab.few
 obtain ⟨a', rfl⟩ : ∃ a', a = a' + 1 := ⟨a - 1, by have := (div_lt hil).1; omega⟩
 have t1 : (i : Int).tmod ((a' + 1 : Nat) : Int) = ((i % (a' + 1) : Nat) : Int) := rfl
 have t2 : IntKind.i64.wrap ((i : Int).tdiv ((a' + 1 : Nat) : Int)) = ((i / (a' + 1) : Nat) : Int) := by
  show IntKind.i64.wrap ((i / (a' + 1) : Nat) : Int) = _
  have h9 := Nat.div_le_self i (a' + 1)
  generalize i / (a' + 1) = z at h9
  exact w64 (by omega)
 try simp only [↓nrmL, nrmZ, Nat.reduceEqDiff, ↓reduceIte, Nat.reduceAdd, Int.reduceBEq, Int.reduceBNe, hc, hge, hz0, hs1]
 refine sq ?_
 refine rg fun KF hKF => ?_
 refine Fo.bin rfl rfl rfl (by simp only [↓nrmL, nrmZ, Nat.reduceEqDiff, ↓reduceIte, Nat.reduceAdd, Int.reduceBEq, Int.reduceBNe, hc, hge, hz0, hs1]; rfl) ?_
 refine WpO.nil (hKF _ _ ?_)
 refine sq ?_
 refine Wp.cond (b := true) rfl ?_
 refine Wp.skip ?_
 refine sq ?_
 refine Wp.block ?_
 refine sq ?_
 refine rg fun KF hKF => ?_
 refine mI rfl ?_
 refine Fo.idx (by simp only [↓nrmL, nrmK, Nat.reduceEqDiff, ↓reduceIte]; rfl) rfl ?_ (by simp only [↓nrmL, nrmZ, Nat.reduceEqDiff, ↓reduceIte, Nat.reduceAdd, Int.reduceBEq, Int.reduceBNe, hc, hge, hz0, hs1]; rfl) ?_; (focus omega)
 refine Fo.ldI rfl ?_ (by simp only [↓nrmL, nrmZ, Nat.reduceEqDiff, ↓reduceIte, Nat.reduceAdd, Int.reduceBEq, Int.reduceBNe, hc, hge, hz0, hs1]; rfl) ?_; (focus omega)
 refine mI rfl ?_
 refine mI rfl ?_
 refine WpO.nil (hKF _ _ ?_)
 refine sq ?_
 refine sq ?_
 refine rg fun KF hKF => ?_
 refine mI rfl ?_
 refine Fo.bin rfl rfl rfl rfl ?_
 refine WpO.nil (hKF _ _ ?_)
 refine Wp.cond (b := false) rfl ?_
 refine Wp.skip ?_
 refine sq ?_
 refine rg fun KF hKF => ?_
 refine Fo.mov (by simp only [↓nrmL, nrmK, Nat.reduceEqDiff, ↓reduceIte]; rfl) ?_
 refine mI rfl ?_
 refine Fo.bin rfl rfl rfl (by simp only [↓nrmL, nrmZ, Nat.reduceEqDiff, ↓reduceIte, Nat.reduceAdd, Int.reduceBEq, Int.reduceBNe, hc, hge, hz0, hs1]; rfl) ?_
 refine Fo.idx (by simp only [↓nrmL, nrmK, Nat.reduceEqDiff, ↓reduceIte]; rfl) rfl ?_ (by simp only [↓nrmL, nrmZ, Nat.reduceEqDiff, ↓reduceIte, Nat.reduceAdd, Int.reduceBEq, Int.reduceBNe, hc, hge, hz0, hs1]; rfl) ?_; (focus omega)
 refine mP rfl ?_
 refine WpO.nil (hKF _ _ ?_)
 refine sq ?_
 dsimp only [cond_true, cond_false]
 refine Fr.dregionE [.row [.int .i64 0, .int .i64 0] true (2 * 88)] ?_ fun KF hKF => ?_
 ·skip
  refine oracle_pre rfl rfl rfl rfl ?_; (try simp only [↓nrmL, nrmZ, Nat.reduceEqDiff, ↓reduceIte, Nat.reduceAdd, Int.reduceBEq, Int.reduceBNe, t1, t2])
  refine oracle_pre rfl rfl rfl rfl ?_; (try simp only [↓nrmL, nrmZ, Nat.reduceEqDiff, ↓reduceIte, Nat.reduceAdd, Int.reduceBEq, Int.reduceBNe, t1, t2])
  refine oracle_pre rfl rfl rfl (exec_ld rfl rfl) ?_; (try simp only [↓nrmL, nrmZ, Nat.reduceEqDiff, ↓reduceIte, Nat.reduceAdd, Int.reduceBEq, Int.reduceBNe, t1, t2])
  refine oracle_pre rfl rfl rfl rfl ?_; (try simp only [↓nrmL, nrmZ, Nat.reduceEqDiff, ↓reduceIte, Nat.reduceAdd, Int.reduceBEq, Int.reduceBNe, t1, t2])
  refine oracle_pre rfl rfl rfl rfl ?_; (try simp only [↓nrmL, nrmZ, Nat.reduceEqDiff, ↓reduceIte, Nat.reduceAdd, Int.reduceBEq, Int.reduceBNe, t1, t2])
  refine oracle_pre rfl rfl rfl rfl ?_; (try simp only [↓nrmL, nrmZ, Nat.reduceEqDiff, ↓reduceIte, Nat.reduceAdd, Int.reduceBEq, Int.reduceBNe, t1, t2])
  refine oracle_pre rfl rfl rfl (exec_ld rfl rfl) ?_; (try simp only [↓nrmL, nrmZ, Nat.reduceEqDiff, ↓reduceIte, Nat.reduceAdd, Int.reduceBEq, Int.reduceBNe, t1, t2])
  refine oracle_pre rfl rfl rfl rfl ?_; (try simp only [↓nrmL, nrmZ, Nat.reduceEqDiff, ↓reduceIte, Nat.reduceAdd, Int.reduceBEq, Int.reduceBNe, t1, t2])
  refine oracle_pre rfl rfl rfl rfl ?_; (try simp only [↓nrmL, nrmZ, Nat.reduceEqDiff, ↓reduceIte, Nat.reduceAdd, Int.reduceBEq, Int.reduceBNe, t1, t2])
  refine oracle_made rfl rfl rfl ?_; (try simp only [↓nrmL, nrmZ, Nat.reduceEqDiff, ↓reduceIte, Nat.reduceAdd, Int.reduceBEq, Int.reduceBNe, t1, t2])
  exact oracle_none _ _ _ _ rfl
 simp only [pushAll]
 try simp only [↓nrmL, nrmZ, Nat.reduceEqDiff, ↓reduceIte, Nat.reduceAdd, Int.reduceBEq, Int.reduceBNe, t1, t2]
 refine Fe.pure rfl rfl (by simp only [↓nrmL, nrmZ, Nat.reduceEqDiff, ↓reduceIte, Nat.reduceAdd, Int.reduceBEq, Int.reduceBNe, t1, t2]; rfl) ?_
 refine Fe.pure rfl rfl (by simp only [↓nrmL, nrmZ, Nat.reduceEqDiff, ↓reduceIte, Nat.reduceAdd, Int.reduceBEq, Int.reduceBNe, t1, t2]; rfl) ?_
 refine Fe.read rfl (exec_ld rfl rfl) rfl (by repeat (first | exact trivial | refine ⟨(by first | exact Or.inl (by dsimp only; decide) | exact Or.inr (exec_ld rfl rfl) | exact Or.inr (exec_ldN rfl rfl rfl) | exact Or.inr (exec_ldB rfl (by omega)) | exact Or.inr (exec_ldI rfl (by omega)) | exact Or.inr ghost_of), ?_⟩)) ?_
 refine Fe.pure rfl rfl (by simp only [↓nrmL, nrmZ, Nat.reduceEqDiff, ↓reduceIte, Nat.reduceAdd, Int.reduceBEq, Int.reduceBNe, t1, t2]; rfl) ?_
 refine Fe.pure rfl rfl (by simp only [↓nrmL, nrmZ, Nat.reduceEqDiff, ↓reduceIte, Nat.reduceAdd, Int.reduceBEq, Int.reduceBNe, t1, t2]; rfl) ?_
 refine Fe.pure rfl rfl (by simp only [↓nrmL, nrmZ, Nat.reduceEqDiff, ↓reduceIte, Nat.reduceAdd, Int.reduceBEq, Int.reduceBNe, t1, t2]; rfl) ?_
 refine Fe.read rfl (exec_ld rfl rfl) rfl (by repeat (first | exact trivial | refine ⟨(by first | exact Or.inl (by dsimp only; decide) | exact Or.inr (exec_ld rfl rfl) | exact Or.inr (exec_ldN rfl rfl rfl) | exact Or.inr (exec_ldB rfl (by omega)) | exact Or.inr (exec_ldI rfl (by omega)) | exact Or.inr ghost_of), ?_⟩)) ?_
 refine Fe.pure rfl rfl (by simp only [↓nrmL, nrmZ, Nat.reduceEqDiff, ↓reduceIte, Nat.reduceAdd, Int.reduceBEq, Int.reduceBNe, t1, t2]; rfl) ?_
 refine Fe.pure rfl rfl (by simp only [↓nrmL, nrmZ, Nat.reduceEqDiff, ↓reduceIte, Nat.reduceAdd, Int.reduceBEq, Int.reduceBNe, t1, t2]; rfl) ?_
 refine Fe.made rfl rfl ghost_of (by repeat (first | exact trivial | refine ⟨(by first | exact Or.inl (by dsimp only; decide) | exact Or.inr (exec_ld rfl rfl) | exact Or.inr (exec_ldN rfl rfl rfl) | exact Or.inr (exec_ldB rfl (by omega)) | exact Or.inr (exec_ldI rfl (by omega)) | exact Or.inr ghost_of), ?_⟩)) rfl ?_
 refine Fe.effect0 rfl (exec_st rfl (by (try simp only [↓nrmL, nrmZ, Nat.reduceEqDiff, ↓reduceIte, Nat.reduceAdd, Int.reduceBEq, Int.reduceBNe, t1, t2]); rfl) rfl rfl rfl (by repeat (first | rfl | refine allOne_cons ?_)) (by (try simp only [↓nrmL, nrmZ, Nat.reduceEqDiff, ↓reduceIte, Nat.reduceAdd, Int.reduceBEq, Int.reduceBNe, t1, t2]); rfl)) (by repeat (first | exact trivial | refine ⟨(by first | exact Or.inl (by dsimp only; decide) | exact Or.inr (readOk_of (exec_ld rfl rfl)) | exact Or.inr (readOk_of (exec_ldN rfl rfl rfl)) | exact Or.inr (readOk_of (exec_ldB rfl (by omega))) | exact Or.inr (readOk_of (exec_ldI rfl (by omega))) | exact Or.inr (made_of rfl)), ?_⟩)) ?_
 refine WpE.nil (hKF _ _ ?_)
 refine sq ?_
 obtain ⟨hq4, hq5⟩ := cellsC_at hck
 refine Fr.dregion0 rfl fun KF hKF => ?_
 refine Fe.pure rfl rfl (by simp only [↓nrmL, nrmZ, Nat.reduceEqDiff, ↓reduceIte, Nat.reduceAdd, Int.reduceBEq, Int.reduceBNe]; rfl) ?_
 refine Fe.pure rfl rfl (by simp only [↓nrmL, nrmZ, Nat.reduceEqDiff, ↓reduceIte, Nat.reduceAdd, Int.reduceBEq, Int.reduceBNe]; rfl) ?_
 refine Fe.pure rfl rfl rfl ?_
 refine Fe.pure rfl rfl rfl ?_
 refine Fe.read rfl (exec_ldNP (p := q) (j := k * 5) rfl (by decide) (by rw [cellsC_length]; omega) hq4) rfl trivial ?_
 refine Fe.read rfl (exec_ldN rfl rfl (by simp only [↓nrmL, nrmZ, Nat.reduceEqDiff, ↓reduceIte, Nat.reduceAdd, Int.reduceBEq, Int.reduceBNe]; rfl)) rfl (by repeat (first | exact trivial | refine ⟨(by first | exact Or.inl (by dsimp only; decide) | exact Or.inr (exec_ld rfl rfl) | exact Or.inr (exec_ldN rfl rfl rfl) | exact Or.inr (exec_ldB rfl (by omega)) | exact Or.inr (exec_ldI rfl (by omega)) | exact Or.inr ghost_of), ?_⟩)) ?_
 refine Fe.pcall (v' := ?_) rfl hn rfl (by simp only [↓nrmL, nrmZ, Nat.reduceEqDiff, ↓reduceIte, Nat.reduceAdd, Int.reduceBEq, Int.reduceBNe, List.map]; rfl) rfl ?hv fun _ _ => ⟨(by repeat (first | exact trivial | refine ⟨(by first | exact Or.inl (by dsimp only; decide) | exact Or.inr (readOk_of (exec_ld rfl rfl)) | exact Or.inr (readOk_of (exec_ldN rfl rfl rfl)) | exact Or.inr (readOk_of (exec_ldB rfl (by omega))) | exact Or.inr (readOk_of (exec_ldI rfl (by omega))) | exact Or.inr (made_of rfl)), ?_⟩)), ?_⟩; case hv => rfl
 refine Fe.pure rfl rfl rfl ?_
 refine Fe.pure rfl rfl rfl ?_
 haveI := hC.wr
 refine WpE.stPN (p := q) (j := k * 5) (m := 4) (vs := (bxS c.1 ((i % (a' + 1) : Nat) : Int) ((i / (a' + 1) : Nat) : Int)).cells) rfl rfl rfl rfl (bx_cells _).1 (by decide) (bx_cells _).2 (by rw [cellsC_length]; omega) fun H5 s5 w5 x5 => ⟨(by repeat (first | exact trivial | refine ⟨(by first | exact Or.inl (by dsimp only; decide) | exact Or.inr (readOk_of (exec_ld rfl rfl)) | exact Or.inr (readOk_of (exec_ldN rfl rfl rfl)) | exact Or.inr (readOk_of (exec_ldB rfl (by omega))) | exact Or.inr (readOk_of (exec_ldI rfl (by omega))) | exact Or.inr (made_of rfl)), ?_⟩)), ?_⟩
 rw [cellsC_box _ _ _ (bxS c.1 ((i % (a' + 1) : Nat) : Int) ((i / (a' + 1) : Nat) : Int)) hck] at s5
 refine WpE.nil (hKF _ _ ?_)
 dsimp only [cond_true, cond_false]
 have hck2 : (C.set k (bxS c.1 ((i % (a' + 1) : Nat) : Int) ((i / (a' + 1) : Nat) : Int), c.2))[k]? = some (bxS c.1 ((i % (a' + 1) : Nat) : Int) ((i / (a' + 1) : Nat) : Int), c.2) := List.getElem?_set_self hkC
 obtain ⟨_, hq6⟩ := cellsC_at hck2
 haveI := w5
 haveI : SepS c.2 q := hC.sepq k c hck
 haveI : FreshS H1 c.2 := hC.fresh k c hck
 have hcsl := hown.sl
 haveI : OneV c.2 := hcsl.one
 have hpl := pxs_le M i k
 refine Fr.dregionE [.row [.int .i64 ((i % (a' + 1) : Nat) : Int), .int .i64 ((i / (a' + 1) : Nat) : Int)] true (2 * 88)] ?_ fun KF hKF => ?_
 ·skip
  refine oracle_pre rfl rfl rfl rfl ?_; (try simp only [↓nrmL, nrmZ, Nat.reduceEqDiff, ↓reduceIte, Nat.reduceAdd, Int.reduceBEq, Int.reduceBNe])
  refine oracle_pre rfl rfl rfl rfl ?_; (try simp only [↓nrmL, nrmZ, Nat.reduceEqDiff, ↓reduceIte, Nat.reduceAdd, Int.reduceBEq, Int.reduceBNe])
  refine oracle_pre rfl rfl rfl rfl ?_; (try simp only [↓nrmL, nrmZ, Nat.reduceEqDiff, ↓reduceIte, Nat.reduceAdd, Int.reduceBEq, Int.reduceBNe])
  refine oracle_pre rfl rfl rfl rfl ?_; (try simp only [↓nrmL, nrmZ, Nat.reduceEqDiff, ↓reduceIte, Nat.reduceAdd, Int.reduceBEq, Int.reduceBNe])
  refine oracle_pre rfl rfl rfl (exec_ldP (p := q) (j := k * 5 + 4) rfl hq6) ?_
  refine oracle_pre rfl rfl rfl (exec_ldN rfl rfl rfl) ?_; (try simp only [↓nrmL, nrmZ, Nat.reduceEqDiff, ↓reduceIte, Nat.reduceAdd, Int.reduceBEq, Int.reduceBNe])
  refine oracle_made rfl rfl rfl ?_; (try simp only [↓nrmL, nrmZ, Nat.reduceEqDiff, ↓reduceIte, Nat.reduceAdd, Int.reduceBEq, Int.reduceBNe])
  exact oracle_none _ _ _ _ rfl
 simp only [pushAll]
 refine Fe.pure rfl rfl (by simp only [↓nrmL, nrmZ, Nat.reduceEqDiff, ↓reduceIte, Nat.reduceAdd, Int.reduceBEq, Int.reduceBNe]; rfl) ?_
 refine Fe.pure rfl rfl (by simp only [↓nrmL, nrmZ, Nat.reduceEqDiff, ↓reduceIte, Nat.reduceAdd, Int.reduceBEq, Int.reduceBNe]; rfl) ?_
 refine Fe.pure rfl rfl rfl ?_
 refine Fe.pure rfl rfl rfl ?_
 refine Fe.read rfl (exec_ldP (p := q) (j := k * 5 + 4) rfl hq6) rfl trivial ?_
 refine Fe.read rfl (exec_ldN rfl rfl (by simp only [↓nrmL, nrmZ, Nat.reduceEqDiff, ↓reduceIte, Nat.reduceAdd, Int.reduceBEq, Int.reduceBNe]; rfl)) rfl (by repeat (first | exact trivial | refine ⟨(by first | exact Or.inl (by dsimp only; decide) | exact Or.inr (exec_ld rfl rfl) | exact Or.inr (exec_ldN rfl rfl rfl) | exact Or.inr (exec_ldB rfl (by omega)) | exact Or.inr (exec_ldI rfl (by omega)) | exact Or.inr ghost_of), ?_⟩)) ?_
 refine Fe.made rfl rfl ghost_of (by repeat (first | exact trivial | refine ⟨(by first | exact Or.inl (by dsimp only; decide) | exact Or.inr (exec_ld rfl rfl) | exact Or.inr (exec_ldN rfl rfl rfl) | exact Or.inr (exec_ldB rfl (by omega)) | exact Or.inr (exec_ldI rfl (by omega)) | exact Or.inr ghost_of), ?_⟩)) rfl ?_
 haveI : SepS q c.2 := (hC.sepq k c hck).symm
 haveI hnew : SliceAt (H5.push (.row [.int .i64 ((i % (a' + 1) : Nat) : Int), .int .i64 ((i / (a' + 1) : Nat) : Int)] true (2 * 88))) (.slice H5.n 0 1 (some 1) 2) 2 1 [.int .i64 ((i % (a' + 1) : Nat) : Int), .int .i64 ((i / (a' + 1) : Nat) : Int)] := ⟨Or.inr ⟨H5.n, 0, some 1, _, true, _, rfl, Nat.lt_succ_self _, push_get_eq, Nat.le_refl _, rfl, Nat.le_refl _⟩⟩
 refine WpE.grow (p := c.2) (q := .slice H5.n 0 1 (some 1) 2) (cs := cellsK (a' + 1) (pxs M i k)) (new := [.int .i64 ((i % (a' + 1) : Nat) : Int), .int .i64 ((i / (a' + 1) : Nat) : Int)]) rfl rfl rfl (by decide) (by decide) (by decide) (by omega) rfl fun p' H7 o7 f7 x7 => ⟨(by repeat (first | exact trivial | refine ⟨(by first | exact Or.inl (by dsimp only; decide) | exact Or.inr (readOk_of (exec_ld rfl rfl)) | exact Or.inr (readOk_of (exec_ldN rfl rfl rfl)) | exact Or.inr (readOk_of (exec_ldB rfl (by omega))) | exact Or.inr (readOk_of (exec_ldI rfl (by omega))) | exact Or.inr (made_of rfl)), ?_⟩)), ?_⟩
 rw [← cellsK_snoc] at o7
 haveI := o7.sl.one
 have s7 : SliceAt H7 q 5 C.length (cellsC (C.set k (bxS c.1 ((i % (a' + 1) : Nat) : Int) ((i / (a' + 1) : Nat) : Int), c.2))) := inferInstance
 have w7 : WrS H7 q := inferInstance
 have hp'q : SepS p' q := inferInstance
 have hx7 : Ext0 H1 H7 := inferInstance
 have hb7 : IntsI H7 mk (cN M) := inferInstance
 have hr7 : HasRow H7 H.n [.int .i64 ((a' + 1 : Nat) : Int), .int .i64 (b : Int), p] true (2 * 24) := inferInstance
 refine Fe.pure rfl rfl rfl ?_
 refine Fe.pure rfl rfl rfl ?_
 refine WpE.stPN (p := q) (j := k * 5 + 4) (m := 1) (v := p') (vs := [p']) rfl rfl rfl (OneV.cells (v := p')) rfl (by decide) (by rw [List.all_cons, OneV.one (v := p')]; rfl) (by rw [cellsC_length, List.length_set]; omega) fun H9 s9 w9 x9 => ⟨(by repeat (first | exact trivial | refine ⟨(by first | exact Or.inl (by dsimp only; decide) | exact Or.inr (readOk_of (exec_ld rfl rfl)) | exact Or.inr (readOk_of (exec_ldN rfl rfl rfl)) | exact Or.inr (readOk_of (exec_ldB rfl (by omega))) | exact Or.inr (readOk_of (exec_ldI rfl (by omega))) | exact Or.inr (made_of rfl)), ?_⟩)), ?_⟩
 rw [setAt_one, cellsC_px _ _ _ _ hck2, List.set_set] at s9
 refine WpE.nil (hKF _ _ ?_)
 refine rg fun KF hKF => ?_
 refine Fo.bin rfl rfl rfl rfl ?_
 refine mI rfl ?_
 refine WpO.nil (hKF _ _ ?_)
 dsimp only [cond_true, cond_false]
 have hmv : (C.set k (bxS c.1 ((i % (a' + 1) : Nat) : Int) ((i / (a' + 1) : Nat) : Int), p')).length = L.length := by rw [List.length_set]; exact hCL
 refine ⟨i + 1, by omega, ⟨by simp only [↓nrmL, nrmZ, Nat.reduceEqDiff, ↓reduceIte, Nat.reduceAdd, Int.reduceBEq, Int.reduceBNe]; rw [hw1], trivial⟩, hil, ⟨C.set k (bxS c.1 ((i % (a' + 1) : Nat) : Int) ((i / (a' + 1) : Nat) : Int), p'), hmv, ?_, ?_⟩, inferInstance, inferInstance, inferInstance⟩
 ·rw [pxAll_next hk]
  refine hC.step hPk s9 w9 (OwnS.keep (H := H7) (by simpa using o7) (ExtP.n (p := q) (H := H7)) fun r off len cap sz e1 hr => ExtP.get (p := q) (H := H7) r hr ⟨fun r' off' len' cap' sz' e2 => fun h => hp'q.ne _ _ _ _ _ _ _ _ _ _ e1 e2 h.symm⟩) f7.weak (fun j d h1 h2 => ?_) hp'q (fun j d l' h1 h2 h3 => ?_)
  ·have hjL : j < L.length := by
    rw [← hCL]
    exact (List.getElem?_eq_some_iff.1 h1).1
   haveI o4 := hC.own j d _ h1 (pxAll_at hjL)
   haveI := o4.sl
   haveI : SepS d.2 q := hC.sepq j d h1
   have s5 : SliceAt (H5.push (.row [.int .i64 ((i % (a' + 1) : Nat) : Int), .int .i64 ((i / (a' + 1) : Nat) : Int)] true (2 * 88))) d.2 2 _ _ := inferInstance
   infer_instance
  ·haveI o4 := hC.own j d l' h2 h3
   haveI := o4.sl
   haveI : SepS d.2 q := hC.sepq j d h2
   haveI : SepS d.2 c.2 := hC.sep j k d c h2 hck h1
   have o7 : OwnS H7 d.2 2 l'.length (cellsK (a' + 1) l') 88 := inferInstance
   infer_instance
 ·intro j d hj
  rcases set_at hj with ⟨rfl, rfl⟩ | ⟨hne, hj⟩
  ·rw [pxs_hit hk, bxL_snoc, ← hbx j c hck]
  ·rw [pxs_miss (by omega)]; exact hbx j d hj
end Go.Am

set_option maxHeartbeats 8000000
set_option maxRecDepth 100000
set_option synthInstance.maxHeartbeats 4000000
set_option synthInstance.maxSize 1000000000
namespace Go.Am
open Go
attribute [local irreducible] Wp WpO WpX WpE

theorem K_ComponentsE {w h : Int} {e : Bool} {p : AVal} {H : AHeap} {l : List UInt8} [hp : BytesI H p l] (h0 : (Img.err ⟨w, h, l⟩ == 0) = false) : Con ext prog 5 60 [.agg [.int .i64 w, .int .i64 h, p], .bool e] H fun v H' => v = .tuple [.nslice, .int .i64 (Img.err ⟨w, h, l⟩)] ∧ Ext H H' := by
 refine con_of (show prog 60 = some c60 from rfl) rfl rfl fun n hn => ?_
 haveI := hp.one
 try simp only [↓nrmL, nrmZ, Nat.reduceEqDiff, ↓reduceIte, h0, bne]
 refine sq ?_
 refine rg fun KF hKF => ?_
 refine Fo.boxA rfl ?_
 refine mN rfl ?_
 refine mI rfl ?_
 refine WpO.nil (hKF _ _ ?_)
 refine sq ?_
 refine sq ?_
 refine rg fun KF hKF => ?_
 refine Fo.ldN rfl rfl (by simp only [↓nrmL, nrmZ, Nat.reduceEqDiff, ↓reduceIte, h0, bne]; rfl) ?_
 refine Fo.pcall (v' := ?_) hn rfl (by simp only [↓nrmL, nrmZ, Nat.reduceEqDiff, ↓reduceIte, h0, bne, List.map]; rfl) rfl ?hv fun _ _ => ?_; case hv => rfl
 refine mI rfl ?_
 refine WpO.nil (hKF _ _ ?_)
 refine sq ?_
 refine rg fun KF hKF => ?_
 refine mI rfl ?_
 refine Fo.bin rfl rfl rfl (by simp only [↓nrmL, nrmZ, Nat.reduceEqDiff, ↓reduceIte, h0, bne]; rfl) ?_
 refine WpO.nil (hKF _ _ ?_)
 refine Wp.cond (b := true) rfl ?_
 refine sq ?_
 refine rg fun KF hKF => ?_
 refine mI rfl ?_
 refine mN rfl ?_
 refine mI rfl ?_
 refine WpO.nil (hKF _ _ ?_)
 refine Wp.ret ?_
 dsimp only [cond_true, cond_false]
 refine ⟨trivial, _, rfl, ?_⟩
 exact ⟨rfl, Ext0.ext⟩
theorem K_DespeckleE {w h t : Int} {p : AVal} {H : AHeap} {l : List UInt8} [hp : BytesI H p l] (h0 : (Img.err ⟨w, h, l⟩ == 0) = false) : Con ext prog 6 61 [.agg [.int .i64 w, .int .i64 h, p], .int .i64 t] H fun v H' => InkRes H H' v (.zero, Img.err ⟨w, h, l⟩) := by
 refine con_of (show prog 61 = some c61 from rfl) rfl rfl fun n hn => ?_
 haveI := hp.one
 refine sq ?_
 refine rg fun KF hKF => ?_
 refine Fo.boxA rfl ?_
 refine Fo.new ?_
 refine mI rfl ?_
 refine WpO.nil (hKF _ _ ?_)
 refine sq ?_
 refine rg fun KF hKF => ?_
 refine Fo.ldN rfl rfl (by simp only [↓nrmL, nrmZ, Nat.reduceEqDiff, ↓reduceIte]; rfl) ?_
 refine WpO.do (WpX.conD hn rfl rfl (by simp only [↓nrmL, nrmZ, Nat.reduceEqDiff, ↓reduceIte, List.map] <;> rfl) (K_ComponentsE (e := true) h0) fun v H1 h5 => ?_)
 obtain ⟨e5, hx1⟩ := h5
 subst e5
 haveI : ExtI _ H1 := ⟨hx1⟩
 try simp only [↓nrmL, nrmZ, Nat.reduceEqDiff, ↓reduceIte, h0, bne]
 refine mT rfl ?_
 refine Fo.extr rfl rfl ?_
 refine Fo.extr rfl rfl ?_
 refine mN rfl ?_
 refine mI rfl ?_
 refine WpO.nil (hKF _ _ ?_)
 refine sq ?_
 refine sq ?_
 refine rg fun KF hKF => ?_
 refine mI rfl ?_
 refine Fo.bin rfl rfl rfl (by simp only [↓nrmL, nrmZ, Nat.reduceEqDiff, ↓reduceIte, h0, bne]; rfl) ?_
 refine WpO.nil (hKF _ _ ?_)
 refine Wp.cond (b := true) rfl ?_
 refine sq ?_
 refine rg fun KF hKF => ?_
 refine Fo.build (by repeat (first | refine aFill1 (by first | exact (rfl : _ = AVal.int _ _) | exact (rfl : _ = AVal.ptr _ _) | exact (rfl : _ = AVal.bool _) | exact (rfl : _ = AVal.agg _) | exact (rfl : _ = AVal.tuple _) | exact (rfl : _ = AVal.func _ _ _) | exact (rfl : _ = AVal.nslice) | ((try simp only [↓nrmL, nrmK, Nat.reduceEqDiff, ↓reduceIte]); rfl)) rfl ?_ | rfl)) rfl ?_
 refine mI rfl ?_
 refine Fo.st rfl (rfl : _ = AVal.agg _) rfl rfl rfl (by repeat (first | rfl | refine allOne_cons ?_)) (by simp only [↓nrmL, nrmZ, Nat.reduceEqDiff, ↓reduceIte, h0, bne]; rfl) ?_
 refine mI rfl ?_
 refine WpO.nil (hKF _ _ ?_)
 refine Wp.ret ?_
 dsimp only [cond_true, cond_false]
 refine ⟨trivial, _, (getAllC rfl rfl rfl rfl), ?_⟩
 exact ⟨_, rfl, newZero⟩
theorem K_Despeckle {a b : Nat} {t : Int} {p : AVal} {H : AHeap} {l : List UInt8} [hp : BytesI H p l] [ht : Tabs H] (ok : Ok a b l) : Con ext prog 6 61 [.agg [.int .i64 a, .int .i64 b, p], .int .i64 t] H fun v H' => ∃ M L, Lab l a b true M L (a * b) ∧ InkRes H H' v (⟨a, b, spk 0 (fun n => !decide ((n : Int) ≥ t)) l (pxAll M L.length (a * b))⟩, 0) := by
 refine con_of (show prog 61 = some c61 from rfl) rfl rfl fun n hn => ?_
 haveI := hp.one
 have ha := ok.wa
 have hb := ok.hb
 have hll := ok.len
 have hab : a * b ≤ 640 * 640 := Nat.mul_le_mul ha hb
 refine sq ?_
 refine rg fun KF hKF => ?_
 refine Fo.boxA rfl ?_
 refine Fo.new ?_
 refine mI rfl ?_
 refine WpO.nil (hKF _ _ ?_)
 refine sq ?_
 refine rg fun KF hKF => ?_
 refine Fo.ldN rfl rfl (by simp only [↓nrmL, nrmZ, Nat.reduceEqDiff, ↓reduceIte, Nat.reduceAdd, Int.reduceBEq, Int.reduceBNe]; rfl) ?_
 refine WpO.do (WpX.conD hn rfl rfl (by simp only [↓nrmL, nrmZ, Nat.reduceEqDiff, ↓reduceIte, Nat.reduceAdd, Int.reduceBEq, Int.reduceBNe, List.map] <;> rfl) (K_Components (e := true) ok) fun v H1 h5 => ?_)
 obtain ⟨q, K, M, L, C, e5, hHK, hcr, hfq, hx1⟩ := h5
 subst e5
 haveI : ExtI _ H1 := ⟨hx1⟩
 have hcl := hcr.cl (by omega)
 haveI := hcl.row
 haveI := hcl.row.one
 have hE1 : Ext H H1 := Ext0.ext
 refine mT rfl ?_
 refine Fo.extr rfl rfl ?_
 refine Fo.extr rfl rfl ?_
 refine Fo.mov (by simp only [↓nrmL, nrmK, Nat.reduceEqDiff, ↓reduceIte]; rfl) ?_
 refine mI rfl ?_
 refine WpO.nil (hKF _ _ ?_)
 refine sq ?_
 refine sq ?_
 refine rg fun KF hKF => ?_
 refine mI rfl ?_
 refine Fo.bin rfl rfl rfl (by simp only [↓nrmL, nrmZ, Nat.reduceEqDiff, ↓reduceIte, Nat.reduceAdd, Int.reduceBEq, Int.reduceBNe]; rfl) ?_
 refine WpO.nil (hKF _ _ ?_)
 refine Wp.cond (b := false) rfl ?_
 refine Wp.skip ?_
 refine sq ?_
 refine rg fun KF hKF => ?_
 refine Fo.ldN rfl rfl (by simp only [↓nrmL, nrmZ, Nat.reduceEqDiff, ↓reduceIte, Nat.reduceAdd, Int.reduceBEq, Int.reduceBNe]; rfl) ?_
 refine WpO.do (WpX.conD hn rfl rfl (by simp only [↓nrmL, nrmZ, Nat.reduceEqDiff, ↓reduceIte, Nat.reduceAdd, Int.reduceBEq, Int.reduceBNe, List.map] <;> rfl) (K_twin (l := l) (by omega)) fun v H2 h5 => ?_)
 obtain ⟨o, e1, ho, hfo, hwo, hxo⟩ := h5
 subst e1
 try dsimp only at ho
 haveI : ExtI _ H2 := ⟨hxo⟩
 haveI := ho.one
 refine Fo.new ?_
 refine Fo.st rfl (rfl : _ = AVal.agg _) rfl rfl rfl (by repeat (first | rfl | refine allOne_cons ?_)) (by simp only [↓nrmL, nrmZ, Nat.reduceEqDiff, ↓reduceIte, Nat.reduceAdd, Int.reduceBEq, Int.reduceBNe]; rfl) ?_
 refine WpO.nil (hKF _ _ ?_)
 refine sq ?_
 refine sq ?_
 refine rg fun KF hKF => ?_
 refine Fo.mov (by simp only [↓nrmL, nrmK, Nat.reduceEqDiff, ↓reduceIte]; rfl) ?_
 refine Fo.len (v := ?_) (by simp only [↓nrmL, nrmK, Nat.reduceEqDiff, ↓reduceIte]; rfl) ?hv ?_; case hv => rfl
 refine mI rfl ?_
 refine WpO.nil (hKF _ _ ?_)
 refine Wp.block ?_
 dsimp only [cond_true, cond_false]
 obtain ⟨P, hPe⟩ : ∃ P, pxAll M L.length (a * b) = P := ⟨_, rfl⟩
 have hPlt : ∀ ps ∈ P, ∀ j ∈ ps, j < a * b := fun ps h1 j h2 => by
  rw [← hPe] at h1
  exact pxAll_lt h1 h2
 rw [hPe] at hcl
 have l1 := hcl.len
 have hf := hcl.few.1
 have kc := cellsC_length C
 have hg8 : Ext H1 H2 := hxo
 haveI hfo1 : FreshS H1 o := hfo
 haveI : RowNe o H2.n := inferInstance
 refine Wp.loopS [10, 12, 26, 27, 28, 29, 30, 31, 32, 33, 34, 35, 36, 37, 38, 39, 40, 41, 42, 43, 44, 45, 46, 47, 48, 49, 50, 51, 52, 53, 54] (fun i : Nat => [(26, .int .i64 (i : Int))]) (fun _ i H3 => i ≤ P.length ∧ BytesI H3 o (spk 0 (fun n => !decide ((n : Int) ≥ t)) l (P.take i)) ∧ WrS H3 o ∧ HasRow H3 H2.n [.int .i64 (a : Int), .int .i64 (b : Int), o] true (2 * 24) ∧ HasRow H3 (H.push (.row [.int .i64 (a : Int), .int .i64 (b : Int), p] true (2 * 24))).n [.int .i64 0, .int .i64 0, .nslice] true (2 * 24) ∧ Ext0 H1 H3) (fun i => P.length - i) 0 rfl (fun _ => rfl) ⟨rfl, trivial⟩ ⟨Nat.zero_le _, (by show BytesI _ o l; infer_instance), inferInstance, inferInstance, inferInstance, inferInstance⟩ (by unfold fuel0 at hn; omega) ?_
 rintro i g H3 ⟨hi, hbo, hwo, hr8, hr4, hx3⟩
 haveI : ExtI H1 H3 := ⟨hx3.ext⟩
 simp only [↓nrmL, nrmZ, Nat.reduceEqDiff, ↓reduceIte, Nat.reduceAdd, Int.reduceBEq, Int.reduceBNe]
 cases hc : decide ((i : Int) < ((C.length : Nat) : Int))
 ·have hie : i = P.length := by have := of_decide_eq_false hc; omega
  subst hie
  rw [List.take_length] at hbo
  haveI : Ext0 H H3 := ⟨hE1.trans hx3.ext⟩
  try simp only [↓nrmL, nrmZ, Nat.reduceEqDiff, ↓reduceIte, Nat.reduceAdd, Int.reduceBEq, Int.reduceBNe, hc]
  refine sq ?_
  refine rg fun KF hKF => ?_
  refine Fo.bin rfl rfl rfl (by simp only [↓nrmL, nrmZ, Nat.reduceEqDiff, ↓reduceIte, Nat.reduceAdd, Int.reduceBEq, Int.reduceBNe, hc]; rfl) ?_
  refine WpO.nil (hKF _ _ ?_)
  refine sq ?_
  refine Wp.cond (b := false) rfl ?_
  refine Wp.exit ?_
  refine sq ?_
  refine rg fun KF hKF => ?_
  refine Fo.ldN rfl rfl (by simp only [↓nrmL, nrmZ, Nat.reduceEqDiff, ↓reduceIte, Nat.reduceAdd, Int.reduceBEq, Int.reduceBNe, hc]; rfl) ?_
  refine Fo.st rfl (rfl : _ = AVal.agg _) rfl rfl rfl (by repeat (first | rfl | refine allOne_cons ?_)) (by simp only [↓nrmL, nrmZ, Nat.reduceEqDiff, ↓reduceIte, Nat.reduceAdd, Int.reduceBEq, Int.reduceBNe, hc]; rfl) ?_
  refine mI rfl ?_
  refine WpO.nil (hKF _ _ ?_)
  refine Wp.ret ?_
  dsimp only [cond_true, cond_false]
  refine ⟨trivial, _, (getAllC rfl rfl rfl rfl), ?_⟩
  refine ⟨M, L, hcr.lab, ?_⟩
  rw [hPe]
  exact ⟨_, rfl, o, rfl, inferInstance, FreshS.weak (H := H) (K := H1) hfo1 (x := ⟨hE1⟩), inferInstance, Ext0.ext⟩
 have hil : i < P.length := by have := of_decide_eq_true hc; omega
 have hw := wa1 (a := i) (by omega)
 obtain ⟨p1, e1, s1, f1⟩ := (hcl.ext hx3.ext).at hil
 haveI hsep : SepS p1 o := by
  have h7 := (hcl.it i _ _ e1 (List.getElem?_eq_getElem hil)).2
  dsimp only at h7
  infer_instance
 have g1 := cellsC_all e1
 dsimp only at g1
 haveI := s1.one
 have hsn := spk_snoc 0 (fun n => !decide ((n : Int) ≥ t)) l (P.take i) P[i]
 rw [← take_snoc (List.getElem?_eq_getElem hil)] at hsn
 have hmem : P[i] ∈ P := List.getElem_mem _
 obtain ⟨ps, hps⟩ : ∃ ps, P[i] = ps := ⟨_, rfl⟩
 rw [hps] at g1 s1 f1 hsn hmem
 obtain ⟨cur, hcur⟩ : ∃ cur, spk 0 (fun n => !decide ((n : Int) ≥ t)) l (P.take i) = cur := ⟨_, rfl⟩
 have hcl' : cur.length = a * b := by rw [← hcur, spk_length, hll]
 rw [hcur] at hbo hsn
 generalize bxL a ps = bx at g1
 obtain ⟨x, y, w, h⟩ := bx
 unfold Bx.cells at g1
 simp only [List.cons_append, List.nil_append] at g1
 cases ht2 : decide (((ps.length : Nat) : Int) ≥ t)
 rotate_left
 ·have hsn2 : spk 0 (fun n => !decide ((n : Int) ≥ t)) l (P.take (i + 1)) = cur := by rw [hsn, ht2]; rfl
  try simp only [↓nrmL, nrmZ, Nat.reduceEqDiff, ↓reduceIte, Nat.reduceAdd, Int.reduceBEq, Int.reduceBNe, hc]
  refine sq ?_
  refine rg fun KF hKF => ?_
  refine Fo.bin rfl rfl rfl (by simp only [↓nrmL, nrmZ, Nat.reduceEqDiff, ↓reduceIte, Nat.reduceAdd, Int.reduceBEq, Int.reduceBNe, hc]; rfl) ?_
  refine WpO.nil (hKF _ _ ?_)
  refine sq ?_
  refine Wp.cond (b := true) rfl ?_
  refine Wp.skip ?_
  refine sq ?_
  refine Wp.block ?_
  refine sq ?_
  refine rg fun KF hKF => ?_
  refine Fo.idx (by simp only [↓nrmL, nrmK, Nat.reduceEqDiff, ↓reduceIte]; rfl) rfl ?_ (by simp only [↓nrmL, nrmZ, Nat.reduceEqDiff, ↓reduceIte, Nat.reduceAdd, Int.reduceBEq, Int.reduceBNe, hc]; rfl) ?_; (focus omega)
  refine Fo.now rfl (exec_ldNP (p := q) (j := i * 5) rfl (by decide) (by omega) g1) rfl ?_
  try simp only [↓nrmL, nrmZ, Nat.reduceEqDiff, ↓reduceIte, Nat.reduceAdd, Int.reduceBEq, Int.reduceBNe, ht2]
  refine Fo.new ?_
  refine Fo.st rfl (rfl : _ = AVal.agg _) rfl rfl rfl (by repeat (first | rfl | refine allOne_cons ?_)) (by simp only [↓nrmL, nrmZ, Nat.reduceEqDiff, ↓reduceIte, Nat.reduceAdd, Int.reduceBEq, Int.reduceBNe, ht2]; rfl) ?_
  refine WpO.nil (hKF _ _ ?_)
  refine sq ?_
  refine sq ?_
  refine rg fun KF hKF => ?_
  refine Fo.fa rfl ?_
  refine Fo.ld rfl rfl ?_
  refine Fo.len (v := ?_) (by simp only [↓nrmL, nrmK, Nat.reduceEqDiff, ↓reduceIte]; rfl) ?hv ?_; case hv => rfl
  refine mI rfl ?_
  refine Fo.bin rfl rfl rfl (by simp only [↓nrmL, nrmZ, Nat.reduceEqDiff, ↓reduceIte, Nat.reduceAdd, Int.reduceBEq, Int.reduceBNe, ht2]; rfl) ?_
  refine WpO.nil (hKF _ _ ?_)
  refine Wp.cond (b := true) rfl ?_
  refine Wp.exit ?_
  refine rg fun KF hKF => ?_
  refine Fo.bin rfl rfl rfl rfl ?_
  refine mI rfl ?_
  refine WpO.nil (hKF _ _ ?_)
  dsimp only [cond_true, cond_false]
  refine ⟨i + 1, by omega, ⟨by simp only [↓nrmL, nrmZ, Nat.reduceEqDiff, ↓reduceIte, Nat.reduceAdd, Int.reduceBEq, Int.reduceBNe]; rw [hw], trivial⟩, hil, by rw [hsn2]; infer_instance, inferInstance, inferInstance, inferInstance, inferInstance⟩
 have hsn2 : spk 0 (fun n => !decide ((n : Int) ≥ t)) l (P.take (i + 1)) = setPx 0 cur ps := by rw [hsn, ht2]; rfl
 try simp only [↓nrmL, nrmZ, Nat.reduceEqDiff, ↓reduceIte, Nat.reduceAdd, Int.reduceBEq, Int.reduceBNe, hc]
 refine sq ?_
 refine rg fun KF hKF => ?_
 refine Fo.bin rfl rfl rfl (by simp only [↓nrmL, nrmZ, Nat.reduceEqDiff, ↓reduceIte, Nat.reduceAdd, Int.reduceBEq, Int.reduceBNe, hc]; rfl) ?_
 refine WpO.nil (hKF _ _ ?_)
 refine sq ?_
 refine Wp.cond (b := true) rfl ?_
 refine Wp.skip ?_
 refine sq ?_
 refine Wp.block ?_
 refine sq ?_
 refine rg fun KF hKF => ?_
 refine Fo.idx (by simp only [↓nrmL, nrmK, Nat.reduceEqDiff, ↓reduceIte]; rfl) rfl ?_ (by simp only [↓nrmL, nrmZ, Nat.reduceEqDiff, ↓reduceIte, Nat.reduceAdd, Int.reduceBEq, Int.reduceBNe, hc]; rfl) ?_; (focus omega)
 refine Fo.now rfl (exec_ldNP (p := q) (j := i * 5) rfl (by decide) (by omega) g1) rfl ?_
 try simp only [↓nrmL, nrmZ, Nat.reduceEqDiff, ↓reduceIte, Nat.reduceAdd, Int.reduceBEq, Int.reduceBNe, ht2]
 refine Fo.new ?_
 refine Fo.st rfl (rfl : _ = AVal.agg _) rfl rfl rfl (by repeat (first | rfl | refine allOne_cons ?_)) (by simp only [↓nrmL, nrmZ, Nat.reduceEqDiff, ↓reduceIte, Nat.reduceAdd, Int.reduceBEq, Int.reduceBNe, ht2]; rfl) ?_
 refine WpO.nil (hKF _ _ ?_)
 refine sq ?_
 refine sq ?_
 refine rg fun KF hKF => ?_
 refine Fo.fa rfl ?_
 refine Fo.ld rfl rfl ?_
 refine Fo.len (v := ?_) (by simp only [↓nrmL, nrmK, Nat.reduceEqDiff, ↓reduceIte]; rfl) ?hv ?_; case hv => rfl
 refine mI rfl ?_
 refine Fo.bin rfl rfl rfl (by simp only [↓nrmL, nrmZ, Nat.reduceEqDiff, ↓reduceIte, Nat.reduceAdd, Int.reduceBEq, Int.reduceBNe, ht2]; rfl) ?_
 refine WpO.nil (hKF _ _ ?_)
 refine Wp.cond (b := false) rfl ?_
 refine Wp.skip ?_
 refine sq ?_
 refine rg fun KF hKF => ?_
 refine Fo.fa rfl ?_
 refine Fo.ld rfl rfl ?_
 refine Fo.len (v := ?_) (by simp only [↓nrmL, nrmK, Nat.reduceEqDiff, ↓reduceIte]; rfl) ?hv ?_; case hv => rfl
 refine mI rfl ?_
 refine WpO.nil (hKF _ _ ?_)
 refine Wp.block ?_
 dsimp only [cond_true, cond_false]
 refine Wp.loopS [12, 38, 39, 40, 41, 42, 43, 44, 45, 46, 47, 48, 49, 50, 51, 52, 53] (fun k : Nat => [(38, .int .i64 (k : Int))]) (fun _ k H4 => k ≤ ps.length ∧ BytesI H4 o (setPx 0 cur (ps.take k)) ∧ WrS H4 o ∧ HasRow H4 H2.n [.int .i64 (a : Int), .int .i64 (b : Int), o] true (2 * 24) ∧ HasRow H4 (H.push (.row [.int .i64 (a : Int), .int .i64 (b : Int), p] true (2 * 24))).n [.int .i64 0, .int .i64 0, .nslice] true (2 * 24) ∧ SliceAt H4 p1 2 ps.length (cellsK a ps) ∧ Ext0 H1 H4) (fun k => ps.length - k) 0 rfl (fun _ => rfl) ⟨rfl, trivial⟩ ⟨Nat.zero_le _, (by show BytesI _ o cur; infer_instance), inferInstance, inferInstance, inferInstance, inferInstance, inferInstance⟩ (by unfold fuel0 at hn; omega) ?_
 rintro k gk H4 ⟨hk, hbo4, hwo4, hr84, hr44, hs4, hx4⟩
 haveI : ExtI H1 H4 := ⟨hx4.ext⟩
 simp only [↓nrmL, nrmZ, Nat.reduceEqDiff, ↓reduceIte, Nat.reduceAdd, Int.reduceBEq, Int.reduceBNe]
 cases hck : decide ((k : Int) < ((ps.length : Nat) : Int))
 ·have hke : k = ps.length := by have := of_decide_eq_false hck; omega
  subst hke
  rw [List.take_length, ← hsn2] at hbo4
  try simp only [↓nrmL, nrmZ, Nat.reduceEqDiff, ↓reduceIte, Nat.reduceAdd, Int.reduceBEq, Int.reduceBNe, hck]
  refine sq ?_
  refine rg fun KF hKF => ?_
  refine Fo.bin rfl rfl rfl (by simp only [↓nrmL, nrmZ, Nat.reduceEqDiff, ↓reduceIte, Nat.reduceAdd, Int.reduceBEq, Int.reduceBNe, hck]; rfl) ?_
  refine WpO.nil (hKF _ _ ?_)
  refine sq ?_
  refine Wp.cond (b := false) rfl ?_
  refine Wp.exit ?_
  refine rg fun KF hKF => ?_
  refine Fo.bin rfl rfl rfl rfl ?_
  refine mI rfl ?_
  refine WpO.nil (hKF _ _ ?_)
  dsimp only [cond_true, cond_false]
  refine ⟨i + 1, by omega, ⟨by simp only [↓nrmL, nrmZ, Nat.reduceEqDiff, ↓reduceIte, Nat.reduceAdd, Int.reduceBEq, Int.reduceBNe]; rw [hw], trivial⟩, hil, inferInstance, inferInstance, inferInstance, inferInstance, inferInstance⟩
 have hkl : k < ps.length := by have := of_decide_eq_true hck; omega
 have hwk := wa1 (a := k) (by omega)
 have hkl2 := cellsK_length a ps
 obtain ⟨z, hz⟩ : ∃ z, ps[k] = z := ⟨_, rfl⟩
 have gk2 := cellsK_at (a := a) hkl
 rw [hz] at gk2
 have hza : z < a * b := by rw [← hz]; exact hPlt ps hmem _ (List.getElem_mem _)
 obtain ⟨hh1, hh2, hh3, hh4⟩ := div_lt hza
 have m1 : IntKind.i64.wrap (((z / a : Nat) : Int) * (a : Int)) = ((z / a * a : Nat) : Int) := wm (by omega)
 have m2 : IntKind.i64.wrap (((z / a * a : Nat) : Int) + ((z % a : Nat) : Int)) = (z : Int) := by rw [wa (by omega)]; omega
 have hset := setPx_snoc 0 cur (ps.take k) z
 rw [← hz, ← take_snoc (List.getElem?_eq_getElem hkl)] at hset
 rw [hz] at hset
 try simp only [↓nrmL, nrmZ, Nat.reduceEqDiff, ↓reduceIte, Nat.reduceAdd, Int.reduceBEq, Int.reduceBNe, hck]
 refine sq ?_
 refine rg fun KF hKF => ?_
 refine Fo.bin rfl rfl rfl (by simp only [↓nrmL, nrmZ, Nat.reduceEqDiff, ↓reduceIte, Nat.reduceAdd, Int.reduceBEq, Int.reduceBNe, hck]; rfl) ?_
 refine WpO.nil (hKF _ _ ?_)
 refine sq ?_
 refine Wp.cond (b := true) rfl ?_
 refine Wp.skip ?_
 refine sq ?_
 refine Wp.block ?_
 refine sq ?_
 refine rg fun KF hKF => ?_
 refine Fo.idx (by simp only [↓nrmL, nrmK, Nat.reduceEqDiff, ↓reduceIte]; rfl) rfl ?_ (by simp only [↓nrmL, nrmZ, Nat.reduceEqDiff, ↓reduceIte, Nat.reduceAdd, Int.reduceBEq, Int.reduceBNe, hck]; rfl) ?_; (focus omega)
 refine Fo.now rfl (exec_ldNP (p := p1) (j := k * 2) rfl (by decide) (by omega) gk2) rfl ?_
 have hzl : z < (setPx 0 cur (ps.take k)).length := by rw [setPx_length]; omega
 try simp only [↓nrmL, nrmZ, Nat.reduceEqDiff, ↓reduceIte, Nat.reduceAdd, Int.reduceBEq, Int.reduceBNe, m1, m2]
 refine Fo.new ?_
 refine Fo.st rfl (rfl : _ = AVal.agg _) rfl rfl rfl (by repeat (first | rfl | refine allOne_cons ?_)) (by simp only [↓nrmL, nrmZ, Nat.reduceEqDiff, ↓reduceIte, Nat.reduceAdd, Int.reduceBEq, Int.reduceBNe, m1, m2]; rfl) ?_
 refine WpO.nil (hKF _ _ ?_)
 refine rg fun KF hKF => ?_
 refine Fo.fa rfl ?_
 refine Fo.ld rfl rfl ?_
 refine Fo.fa rfl ?_
 refine Fo.ld rfl rfl ?_
 refine Fo.fa rfl ?_
 refine Fo.ld rfl rfl ?_
 refine Fo.bin rfl rfl rfl (by simp only [↓nrmL, nrmZ, Nat.reduceEqDiff, ↓reduceIte, Nat.reduceAdd, Int.reduceBEq, Int.reduceBNe, m1, m2]; rfl) ?_
 refine Fo.fa rfl ?_
 refine Fo.ld rfl rfl ?_
 refine Fo.bin rfl rfl rfl (by simp only [↓nrmL, nrmZ, Nat.reduceEqDiff, ↓reduceIte, Nat.reduceAdd, Int.reduceBEq, Int.reduceBNe, m1, m2]; rfl) ?_
 refine Fo.idx (by simp only [↓nrmL, nrmK, Nat.reduceEqDiff, ↓reduceIte]; rfl) rfl ?_ (by simp only [↓nrmL, nrmZ, Nat.reduceEqDiff, ↓reduceIte, Nat.reduceAdd, Int.reduceBEq, Int.reduceBNe, m1, m2]; rfl) ?_; (focus omega)
 refine WpO.do' (WpX.stB (p := o) (j := z) (l := setPx 0 cur (ps.take k)) 0 rfl rfl rfl (by rw [setPx_length]; omega) fun H6 hb6 hw6 hx6 => ?_)
 rw [← hset] at hb6
 refine WpO.nil (hKF _ _ ?_)
 refine rg fun KF hKF => ?_
 refine Fo.bin rfl rfl rfl rfl ?_
 refine mI rfl ?_
 refine WpO.nil (hKF _ _ ?_)
 dsimp only [cond_true, cond_false]
 refine ⟨k + 1, by omega, ⟨by simp only [↓nrmL, nrmZ, Nat.reduceEqDiff, ↓reduceIte, Nat.reduceAdd, Int.reduceBEq, Int.reduceBNe]; rw [hwk], trivial⟩, hkl, inferInstance, inferInstance, inferInstance, inferInstance, inferInstance, inferInstance⟩
end Go.Am
