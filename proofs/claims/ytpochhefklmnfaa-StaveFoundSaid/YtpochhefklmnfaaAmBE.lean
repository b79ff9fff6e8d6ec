import Derived.Test.YtpochhefklmnfaaAmBD
set_option linter.unusedSimpArgs false
set_option linter.unusedVariables false
set_option maxHeartbeats 16000000
set_option maxRecDepth 100000
set_option synthInstance.maxHeartbeats 4000000
set_option synthInstance.maxSize 1000000000
namespace Go.Am
open Go
open Nat renaming reduceEqDiff → qe, reduceAdd → qz
open Int renaming reduceBEq → qn, reduceBNe → qq
attribute [local irreducible] Wp WpO WpX WpE
def checkS (g : Img) (ls : List (List Int)) : Int := bif g.err == 0 then (bif fitsB g.w.toNat g.h.toNat ls then 0 else 10) else g.err
instance K_stCheck {w h : Int} {p q : AVal} {H : AHeap} {l : List UInt8} {ls : List (List Int)} [hp : BytesI H p l] [hq : LinesI H q ls] : PureCon ext prog 31 [.agg [.int .i64 w, .int .i64 h, p], .agg [q]] H 4 (.int .i64 (checkS ⟨w, h, l⟩ ls)) := ⟨by
 refine con_of (show prog 31 = some c31 from rfl) rfl rfl fun n hn => ?_
 obtain ⟨ps, hps, _⟩ := hq.it
 haveI := hp.one
 haveI := hps.one
 cases h0 : (Img.err ⟨w, h, l⟩ == 0)
 ·have e1 : checkS ⟨w, h, l⟩ ls = Img.err ⟨w, h, l⟩ := by simp only [checkS, h0, cond_false]
  rw [e1]
  repeat first | refine mI ?_ | refine Fo.ldN rfl rfl (by simp only [↓nrmL, nrmZ, qe, ↓reduceIte, qz, qn, qq, h0, bne]; rfl) ?_ | refine bn rfl rfl rfl (by simp only [h0, bne]; rfl) ?_ | (refine Fo.pcall (v' := ?_) hn rfl (by simp only [↓nrmL, nrmZ, qe, ↓reduceIte, qz, qn, qq, h0, bne, List.map]; rfl) rfl ?hv fun _ _ => ?_; case hv => rfl) | refine bA ?_ | refine nl hKF ?_ | refine sq ?_ | refine rg fun KF hKF => ?_ | refine ct rfl ?_ | refine rt ?_ | dsimp only
  refine rz trivial ?_
  exact ⟨rfl, Ext0.ext⟩
 obtain ⟨a, b, rfl, rfl, ok⟩ := ok_of h0
 haveI : Side a := ⟨ok.wa⟩
 haveI : Side b := ⟨ok.hb⟩
 have e1 : checkS ⟨a, b, l⟩ ls = bif fitsB a b ls then 0 else 10 := by simp only [checkS, h0, cond_true, Int.toNat_natCast]
 cases hf : fitsB a b ls
 ·rw [e1, hf]
  repeat first | refine mI ?_ | refine Fo.ldN rfl rfl (by simp only [↓nrmL, nrmZ, qe, ↓reduceIte, qz, qn, qq, h0, bne]; rfl) ?_ | refine bn rfl rfl rfl (by simp only [h0, bne]; rfl) ?_ | (refine Fo.pcall (v' := ?_) hn rfl (by simp only [↓nrmL, nrmZ, qe, ↓reduceIte, qz, qn, qq, h0, bne, List.map]; rfl) rfl ?hv fun _ _ => ?_; case hv => rfl) | refine bA ?_ | refine Fo.now rfl rfl rfl ?_ | refine nl hKF ?_ | refine sq ?_ | refine rg fun KF hKF => ?_ | refine cf rfl ?_ | refine sk ?_ | dsimp only
  rename AHeap => H1
  haveI : LinesI H1 q ls := hq.ext Ext0.ext
  simp only [hf]
  refine ct rfl ?_
  refine sq ?_
  refine rg fun KF hKF => ?_
  refine mI ?_
  refine nl hKF ?_
  refine rt ?_
  dsimp only
  refine rz trivial ?_
  exact ⟨rfl, Ext0.ext⟩
 ·rw [e1, hf]
  repeat first | refine mI ?_ | refine Fo.ldN rfl rfl (by simp only [↓nrmL, nrmZ, qe, ↓reduceIte, qz, qn, qq, h0, bne]; rfl) ?_ | refine bn rfl rfl rfl (by simp only [h0, bne]; rfl) ?_ | (refine Fo.pcall (v' := ?_) hn rfl (by simp only [↓nrmL, nrmZ, qe, ↓reduceIte, qz, qn, qq, h0, bne, List.map]; rfl) rfl ?hv fun _ _ => ?_; case hv => rfl) | refine bA ?_ | refine Fo.now rfl rfl rfl ?_ | refine nl hKF ?_ | refine sq ?_ | refine rg fun KF hKF => ?_ | refine cf rfl ?_ | refine sk ?_ | dsimp only
  rename AHeap => H1
  haveI : LinesI H1 q ls := hq.ext Ext0.ext
  simp only [hf]
  refine cf rfl ?_
  refine sk ?_
  refine sq ?_
  refine rg fun KF hKF => ?_
  refine mI ?_
  refine nl hKF ?_
  refine rt ?_
  dsimp only
  refine rz trivial ?_
  exact ⟨rfl, Ext0.ext⟩⟩
def loN (m : List Int) (up x : Nat) : Nat := (m.getD x 0).toNat - up
theorem K_common {a b h up : Nat} {m : List Int} {r r6 r7 r5 r4 : Nat} {p6 q4 sp ip : AVal} {ps : List AVal} {e6 e7 e5 e4 : TypeId} {w6 w7 w5 w4 : Bool} {J : Nat → Nat → AHeap → Prop} {H : AHeap} {D : Nat} (ha : a ≤ 640) (hb : b ≤ 640) (hh : h ≤ 640) (hu : up ≤ 640) (hm : pathB a b m = true) (hps : ps[4]? = some q4)
  (hrow : ∀ x y H, J x y H → HasRow H r6 [p6] w6 e6 ∧ SliceAt H p6 1 5 ps ∧ IntsI H q4 m ∧ HasRow H r7 [.int .i64 up] w7 e7 ∧ HasRow H r5 [.int .i64 a, .int .i64 h, sp] w5 e5 ∧ HasRow H r4 [.int .i64 a, .int .i64 b, ip] w4 e4)
  (hnext : ∀ x y H, x < a → loN m up x ≤ y → (y < b → (m.getD x 0).toNat + h ≤ y + up) → J x y H → J (x + 1) (loN m up (x + 1)) H)
  (hy : ∀ x y H, x < a → loN m up x ≤ y → y < b → (m.getD x 0).toNat ≤ y + up → y + up < (m.getD x 0).toNat + h → J x y H → ∀ n, fuel0 + D ≤ n → ∃ H', callN ext prog n yieldId [.yield r, .int .i64 ((y * a + x : Nat) : Int), .int .i64 (((y + up - (m.getD x 0).toNat) * a + x : Nat) : Int)] H = some (.bool true, H') ∧ J x (y + 1) H')
  (hJ : J 0 (loN m up 0) H) : Con ext prog (D + 3) 105 [.yield r, .ptr r6 0, .ptr r7 0, .ptr r5 0, .ptr r4 0] H fun _ H' => J a (loN m up a) H' := by
 refine con_of (show prog 105 = some c105 from rfl) rfl rfl fun n hn => ?_
 obtain ⟨hml, ha0⟩ := pathB_len hm
 obtain ⟨k6, ks, kq, k7, k5, k4⟩ := hrow _ _ _ hJ
 haveI := ks.one
 haveI := kq.one
 refine sq ?_
 refine rg fun KF hKF => ?_
 refine fd ?_
 refine Fo.ld rfl rfl ?_
 refine Fo.idx (by simp only [↓nrmL, nrmK, qe, ↓reduceIte]; rfl) rfl ?_ (by simp only [↓nrmL, nrmZ, qe, ↓reduceIte, qz, qn, qq]; rfl) ?_; (focus omega)
 refine Fo.now rfl (exec_ldP (p := p6) (j := 4) rfl hps) rfl ?_
 refine ln (by simp only [↓nrmL, nrmK, qe, ↓reduceIte]; rfl) ?_
 refine mI ?_
 refine nl hKF ?_
 refine Wp.block ?_
 dsimp only
 refine Wp.loopS [6, 7, 8, 9, 15, 16, 17, 18, 19, 20, 21, 22, 23, 24, 25, 26, 27, 28, 29, 30, 31, 32, 33, 34, 35, 36, 37, 38, 39, 40, 41, 42, 43, 44, 45, 46, 47, 48, 49, 50, 51, 52, 53] (fun x : Nat => [(15, .int .i64 x)]) (fun _ x H2 => x ≤ a ∧ J x (loN m up x) H2) (fun x => a - x) 0 rfl (fun _ => rfl) ⟨rfl, trivial⟩ ⟨Nat.zero_le _, hJ⟩ (by unfold fuel0 at hn; omega) ?_
 rintro x g H2 ⟨hxa, hJ2⟩
 obtain ⟨k6, ks, kq, k7, k5, k4⟩ := hrow _ _ _ hJ2
 simp only [↓nrmL, nrmZ, qe, ↓reduceIte, qz, qn, qq]
 cases hc : decide ((x : Int) < ((m.length : Nat) : Int))
 ·have hxe : x = a := by have := of_decide_eq_false hc; omega
  refine sq ?_
  refine rg fun KF hKF => ?_
  refine bn rfl rfl rfl (by simp only [hc]; rfl) ?_
  refine nl hKF ?_
  refine sq ?_
  refine cf rfl ?_
  refine xi ?_
  dsimp only
  refine rz trivial ?_
  exact hxe ▸ hJ2
 have hxl : x < m.length := by have := of_decide_eq_true hc; omega
 have hx : x < a := by omega
 have hw1 := wa1 (a := x) (by omega)
 obtain ⟨hm0, hmb⟩ := pathB_range hm hxl
 obtain ⟨mx, hmx⟩ : ∃ k : Nat, m[x] = (k : Int) := ⟨m[x].toNat, by omega⟩
 have hgx : (m.getD x 0).toNat = mx := by rw [getD_at hxl, hmx]; rfl
 have hlo : loN m up x = mx - up := by rw [loN, hgx]
 have hsub : IntKind.i64.wrap ((mx : Int) - (up : Int)) = (mx : Int) - (up : Int) := w64 (by omega)
 have hadd : IntKind.i64.wrap ((mx : Int) - (up : Int) + (h : Int)) = (mx : Int) - (up : Int) + (h : Int) := w64 (by omega)
 have hmax : (if (0 : Int) > (mx : Int) - (up : Int) then (0 : Int) else (mx : Int) - (up : Int)) = ((loN m up x : Nat) : Int) := by rw [hlo]; split <;> omega
 repeat first | refine mI ?_ | refine Fo.ld rfl rfl ?_ | refine bn rfl rfl rfl (by simp only [hc, hmx, hsub, hmax]; rfl) ?_ | (refine Fo.idx (by simp only [↓nrmL, nrmK, qe, ↓reduceIte]; rfl) rfl ?_ (by simp only [↓nrmL, nrmZ, qe, ↓reduceIte, qz, qn, qq, hc, hmx, hsub, hmax]; rfl) ?_; (focus omega)) | (refine Fo.ldI rfl ?_ (by simp only [hc, hmx, hsub, hmax]; rfl) ?_; (focus omega)) | refine Fo.now rfl rfl (by simp only [hc, hmx, hsub, hmax]; rfl) ?_ | refine nl hKF ?_ | refine sq ?_ | refine rg fun KF hKF => ?_ | refine ct rfl ?_ | refine sk ?_ | refine Wp.block ?_ | dsimp only
 refine Wp.loopS [9, 25, 26, 27, 28, 29, 30, 31, 32, 33, 34, 35, 36, 37, 38, 39, 40, 41, 42, 43, 44, 45, 46, 47, 48, 49, 50, 51, 52] (fun y : Nat => [(9, .int .i64 y)]) (fun _ y H3 => loN m up x ≤ y ∧ y ≤ 2000 ∧ J x y H3) (fun y => 2000 - y) (loN m up x) rfl (fun _ => rfl) ⟨rfl, trivial⟩ ⟨Nat.le_refl _, by omega, hJ2⟩ (by unfold fuel0 at hn; omega) ?_
 rintro y g2 H3 ⟨hyl, hyb, hJ3⟩
 obtain ⟨k6, ks, kq, k7, k5, k4⟩ := hrow _ _ _ hJ3
 simp only [↓nrmL, nrmZ, qe, ↓reduceIte, qz, qn, qq]
 obtain ⟨z, hz⟩ : ∃ z : Int, (if (b : Int) < (mx : Int) - (up : Int) + (h : Int) then (b : Int) else (mx : Int) - (up : Int) + (h : Int)) = z := ⟨_, rfl⟩
 cases hc2 : decide ((y : Int) < z)
 ·skip
  repeat first | refine mI ?_ | refine fd ?_ | refine Fo.ld rfl rfl ?_ | refine bn rfl rfl rfl (by simp only [hadd, Bool.false_eq_true, if_false, hz, hc2]; rfl) ?_ | refine b0 ?_ | refine Fo.now rfl rfl (by simp only [hadd, Bool.false_eq_true, if_false, hz, hc2]; rfl) ?_ | refine nl hKF ?_ | refine sq ?_ | refine rg fun KF hKF => ?_ | refine cf rfl ?_ | refine xi ?_ | dsimp only
  refine ⟨x + 1, by omega, ⟨by simp only [↓nrmL, nrmZ, qe, ↓reduceIte, qz, qn, qq]; rw [hw1], trivial⟩, by omega, hnext x y H3 hx hyl (fun hyb2 => ?_) hJ3⟩
  have := of_decide_eq_false hc2
  rw [hgx]
  split at hz <;> omega
 have hlt := of_decide_eq_true hc2
 have hy1 : y < b := by split at hz <;> omega
 have hy2 : y + up < mx + h := by split at hz <;> omega
 have hy0 : mx ≤ y + up := by omega
 have hlt1 := idx_lt hx hy1
 have hm1 : a * b ≤ 640 * 640 := Nat.mul_le_mul ha hb
 have hm2 : a * h ≤ 640 * 640 := Nat.mul_le_mul ha hh
 have hlt2 : (y + up - mx) * a + x < a * h := idx_lt hx (by omega)
 have m1 : IntKind.i64.wrap ((y : Int) * (a : Int)) = ((y * a : Nat) : Int) := wm (by omega)
 have m2 : IntKind.i64.wrap (((y * a : Nat) : Int) + (x : Int)) = ((y * a + x : Nat) : Int) := wa (by omega)
 have m3 : IntKind.i64.wrap ((y : Int) - ((mx : Int) - (up : Int))) = ((y + up - mx : Nat) : Int) := by rw [w64 (by omega)]; omega
 have m4 : IntKind.i64.wrap (((y + up - mx : Nat) : Int) * (a : Int)) = (((y + up - mx) * a : Nat) : Int) := wm (by omega)
 have m5 : IntKind.i64.wrap ((((y + up - mx) * a : Nat) : Int) + (x : Int)) = (((y + up - mx) * a + x : Nat) : Int) := wa (by omega)
 obtain ⟨H4, y1, hJ4⟩ := hy x y H3 hx hyl hy1 (by omega) (by omega) hJ3 n (by omega)
 rw [hgx] at y1
 have hw2 := wa1 (a := y) (by omega)
 repeat first | refine mI ?_ | refine mv ?_ | refine fd ?_ | refine Fo.ld rfl rfl ?_ | refine bn rfl rfl rfl (by simp only [hadd, Bool.false_eq_true, if_false, hz, hc2, m1, m2, m3, m4, m5]; rfl) ?_ | refine Fo.now rfl rfl (by simp only [hadd, Bool.false_eq_true, if_false, hz, hc2, m1, m2, m3, m4, m5]; rfl) ?_ | refine nl hKF ?_ | refine sq ?_ | refine rg fun KF hKF => ?_ | refine ct rfl ?_ | refine sk ?_ | refine Wp.block ?_
 refine WpO.do (WpX.yield rfl (by simp only [↓nrmL, nrmZ, qe, ↓reduceIte, qz, qn, qq, List.map] <;> rfl) ⟨_, _, y1, ?_⟩)
 refine Fo.now rfl rfl (by simp only [↓nrmL, nrmZ, qe, ↓reduceIte, qz, qn, qq]; rfl) ?_
 refine nl hKF ?_
 refine cf rfl ?_
 refine sk ?_
 refine rg fun KF hKF => ?_
 refine mI ?_
 refine b0 ?_
 refine mI ?_
 refine nl hKF ?_
 dsimp only
 refine ⟨y + 1, by omega, ⟨by simp only [↓nrmL, nrmZ, qe, ↓reduceIte, qz, qn, qq]; rw [hw2], trivial⟩, by omega, by omega, hJ4⟩
theorem K_commonF {q : AVal} {up : Int} {w h w' h' : Int} {p p' : AVal} {H : AHeap} [hp : OneV p] [hp' : OneV p'] [hq : OneV q] : Con ext prog 1 82 [.agg [.int .i64 w, .int .i64 h, p], .agg [.int .i64 w', .int .i64 h', p'], .agg [q], .int .i64 up] H fun v H' => ∃ r6 r7 r5 r4, v = .func (.func 105) [] [.ptr r6 0, .ptr r7 0, .ptr r5 0, .ptr r4 0] ∧ HasRow H' r6 [q] true (2 * 43) ∧ HasRow H' r7 [.int .i64 up] true (2 * 3) ∧ HasRow H' r5 [.int .i64 w', .int .i64 h', p'] true (2 * 24) ∧ HasRow H' r4 [.int .i64 w, .int .i64 h, p] true (2 * 24) ∧ Ext H H' ∧ H.n ≤ r6 ∧ H.n ≤ r7 ∧ H.n ≤ r5 ∧ H.n ≤ r4 := by
 refine con_of (show prog 82 = some c82 from rfl) rfl rfl fun n hn => ?_
 repeat first | refine mF ?_ | refine mv ?_ | refine bA ?_ | refine Fo.box1 (rfl : _ = AVal.int _ _) ?_ | refine Fo.now rfl rfl rfl ?_ | refine nl hKF ?_ | refine sq ?_ | refine rg fun KF hKF => ?_ | refine rt ?_ | dsimp only
 refine rz trivial ?_
 refine ⟨_, _, _, _, rfl, inferInstance, inferInstance, inferInstance, inferInstance, Ext0.ext, ?_, ?_, ?_, ?_⟩ <;> first | exact Nat.le_refl _ | (simp only [AHeap.push]; omega)
end Go.Am

namespace Go.Am
open Go
attribute [local irreducible] Wp WpO WpX WpE
def mixP (P : Nat → Bool) (f g : Nat → UInt8) (n : Nat) : List UInt8 := (List.range n).map fun k => if P k = true then f k else g k
theorem mixP_length (P : Nat → Bool) (f g : Nat → UInt8) (n : Nat) : (mixP P f g n).length = n := by simp [mixP]
theorem mixP_congr {P Q : Nat → Bool} {f g : Nat → UInt8} {n : Nat} (h : ∀ k, k < n → (Q k = true ↔ P k = true) ∨ f k = g k) : mixP P f g n = mixP Q f g n := by
 unfold mixP
 apply List.map_congr_left
 intro k hk
 have hk := List.mem_range.1 hk
 rcases h k hk with h1 | h1
 ·by_cases hp : P k = true
  ·rw [if_pos hp, if_pos (h1.2 hp)]
  ·rw [if_neg hp, if_neg (fun q => hp (h1.1 q))]
 ·split <;> split <;> simp_all
theorem mixP_set {P Q : Nat → Bool} {f g : Nat → UInt8} {n j : Nat} (h : ∀ k, k < n → (Q k = true ↔ P k = true ∨ k = j)) : (mixP P f g n).set j (f j) = mixP Q f g n := by
 apply List.ext_getElem
 ·simp [mixP]
 ·intro k h1 h2
  have hk : k < n := by simpa [mixP] using h2
  have := h k hk
  rw [List.getElem_set]
  simp only [mixP, List.getElem_map, List.getElem_range]
  by_cases e : j = k
  ·subst e
   rw [if_pos rfl, if_pos (this.2 (Or.inr rfl))]
  ·rw [if_neg e]
   by_cases hp : P k = true
   ·rw [if_pos hp, if_pos (this.2 (Or.inl hp))]
   ·rw [if_neg hp, if_neg (fun q => by rcases this.1 q with h3 | h3; exact hp h3; exact e h3.symm)]
structure JS (Hb : AHeap) (r : Nat) (R0 : RLoop) (q : AVal) (L : List UInt8) (H : AHeap) : Prop where
 n : Hb.n ≤ H.n
 get : ∀ s, s < Hb.n → RowNe q s → H.get s = Hb.get s
 px : BytesI H q L
 wr : WrS H q
 loop : HasLoop H r R0
theorem JS.row {Hb H : AHeap} {r s : Nat} {R0 : RLoop} {q : AVal} {L : List UInt8} {cs : List AVal} {rw : Bool} {e : TypeId} (h : JS Hb r R0 q L H) (k : HasRow Hb s cs rw e) (hne : RowNe q s) : HasRow H s cs rw e := ⟨Nat.lt_of_lt_of_le k.lt h.n, by rw [h.get s k.lt hne]; exact k.get⟩
theorem JS.slice {Hb H : AHeap} {r : Nat} {R0 : RLoop} {q p : AVal} {L : List UInt8} {sz n : Nat} {cs : List AVal} (h : JS Hb r R0 q L H) (k : SliceAt Hb p sz n cs) (hne : SepS p q) : SliceAt H p sz n cs := k.keep h.n fun s _ _ _ _ e hs => h.get s hs ⟨fun r' _ _ _ _ e' hh => hne.ne _ _ _ _ _ _ _ _ _ _ e e' hh.symm⟩
theorem JS.ext {Hh Hb H : AHeap} {r : Nat} {R0 : RLoop} {q : AVal} {L : List UInt8} (h : JS Hb r R0 q L H) (x : Ext Hh Hb) (f : FreshS Hh q) : Ext Hh H := ⟨Nat.le_trans x.n h.n, fun s hs => by have := x.n; rw [h.get s (by omega) ⟨fun r' _ _ _ _ e => by have := f.ge _ _ _ _ _ e; omega⟩, x.get s hs]⟩
theorem JS.start {Hb : AHeap} {R0 : RLoop} {q : AVal} {L : List UInt8} (k : BytesI Hb q L) (w : WrS Hb q) : JS Hb (Hb.n + 1) R0 q L ((Hb.push .dead).push (.loop R0)) := by
 haveI := k
 haveI := w
 refine ⟨by simp only [AHeap.push]; omega, fun s hs _ => ?_, inferInstance, inferInstance, (inferInstance : HasLoop ((Hb.push .dead).push (.loop R0)) (Hb.push .dead).n R0)⟩
 rw [push_get_lt (by simp only [AHeap.push]; omega), push_get_lt hs]
theorem px_ne {H : AHeap} {q : AVal} {r : Nat} {L : List UInt8} {R0 : RLoop} (k : BytesI H q L) (hl : HasLoop H r R0) : RowNe q r := ⟨fun r' off len cap sz e => by
 rcases k.it with ⟨rfl, _⟩ | ⟨r2, off2, cap2, row, rw2, e2, rfl, h2, h3, _⟩
 ·cases e
 ·cases e
  intro e; subst e
  have := hl.get
  rw [h3] at this; cases this⟩
def rctF (l : List UInt8) (a b : Nat) (m : List Int) (up k : Nat) : UInt8 := if up ≤ (m.getD (k % a) 0).toNat + k / a ∧ (m.getD (k % a) 0).toNat + k / a < up + b then l.getD (((m.getD (k % a) 0).toNat + k / a - up) * a + k % a) 0 else 0
def rctL (l : List UInt8) (a b : Nat) (m : List Int) (up h : Nat) : List UInt8 := (List.range (a * h)).map (rctF l a b m up)
def rctP (a : Nat) (m : List Int) (up x y k : Nat) : Bool := decide (k % a < x) || (decide (k % a = x) && decide ((m.getD x 0).toNat + k / a < y + up))
theorem rct_at {a x y : Nat} (hx : x < a) : (y * a + x) % a = x ∧ (y * a + x) / a = y := by
 constructor
 ·rw [Nat.mul_comm, Nat.mul_add_mod]; exact Nat.mod_eq_of_lt hx
 ·rw [Nat.mul_comm, Nat.mul_add_div (by omega), Nat.div_eq_of_lt hx, Nat.add_zero]
theorem div_inj {a j k : Nat} (h1 : j % a = k % a) (h2 : j / a = k / a) : j = k := by
 have := Nat.div_add_mod j a
 have := Nat.div_add_mod k a
 rw [h1, h2] at *; omega
theorem rctP_next {a up x y : Nat} {m : List Int} (hx : x < a) (hy : (m.getD x 0).toNat ≤ y + up) (k : Nat) : rctP a m up x (y + 1) k = true ↔ rctP a m up x y k = true ∨ k = (y + up - (m.getD x 0).toNat) * a + x := by
 simp only [rctP, Bool.or_eq_true, Bool.and_eq_true, decide_eq_true_eq]
 obtain ⟨e1, e2⟩ := rct_at (y := y + up - (m.getD x 0).toNat) hx
 constructor
 ·rintro (h | ⟨h, h2⟩)
  ·exact Or.inl (Or.inl h)
  ·by_cases h3 : (m.getD x 0).toNat + k / a < y + up
   ·exact Or.inl (Or.inr ⟨h, h3⟩)
   ·exact Or.inr (div_inj (a := a) (by rw [e1, h]) (by rw [e2]; omega))
 ·rintro ((h | ⟨h, h2⟩) | h)
  ·exact Or.inl h
  ·exact Or.inr ⟨h, by omega⟩
  ·subst h
   exact Or.inr ⟨e1, by rw [e2]; omega⟩
theorem rctP_col {a b h up x y : Nat} {l : List UInt8} {m : List Int} (hx : x < a) (hy : y < b → (m.getD x 0).toNat + h ≤ y + up) (hl : loN m up x ≤ y) {k : Nat} (hk : k < a * h) : (rctP a m up (x + 1) (loN m up (x + 1)) k = true ↔ rctP a m up x y k = true) ∨ rctF l a b m up k = 0 := by
 have hkh : k / a < h := Nat.div_lt_of_lt_mul hk
 simp only [rctP, Bool.or_eq_true, Bool.and_eq_true, decide_eq_true_eq]
 by_cases h1 : k % a < x
 ·exact Or.inl ⟨fun _ => Or.inl h1, fun _ => Or.inl (by omega)⟩
 by_cases h2 : k % a = x
 ·by_cases h3 : (m.getD x 0).toNat + k / a < y + up
  ·exact Or.inl ⟨fun _ => Or.inr ⟨h2, h3⟩, fun _ => Or.inl (by omega)⟩
  ·right
   rw [rctF, h2, if_neg]
   intro h4
   by_cases h5 : y < b
   ·have := hy h5; omega
   ·omega
 ·by_cases h3 : k % a = x + 1
  ·by_cases h4 : (m.getD (x + 1) 0).toNat + k / a < loN m up (x + 1) + up
   ·right
    rw [rctF, h3, if_neg]
    intro h5
    unfold loN at h4
    have := Nat.zero_le (k / a)
    omega
   ·left
    constructor
    ·rintro (h5 | ⟨_, h5⟩)
     ·omega
     ·exact absurd h5 h4
    ·rintro (h5 | ⟨h5, _⟩)
     ·exact absurd h5 h1
     ·exact absurd h5 h2
  ·left
   constructor
   ·rintro (h5 | ⟨h5, _⟩)
    ·omega
    ·exact absurd h5 h3
   ·rintro (h5 | ⟨h5, _⟩)
    ·exact absurd h5 h1
    ·exact absurd h5 h2
theorem rctP_first {a b up : Nat} {l : List UInt8} {m : List Int} {k : Nat} : (rctP a m up 0 (loN m up 0) k = true ↔ false = true) ∨ rctF l a b m up k = 0 := by
 by_cases h : rctP a m up 0 (loN m up 0) k = true
 ·right
  simp only [rctP, Bool.or_eq_true, Bool.and_eq_true, decide_eq_true_eq] at h
  rcases h with h | ⟨h, h2⟩
  ·omega
  ·rw [rctF, h, if_neg]
   intro h3
   unfold loN at h2
   have := Nat.zero_le (k / a)
   omega
 ·left
  exact ⟨fun q => absurd q h, fun q => by cases q⟩
theorem rct_start {a b up n : Nat} {l : List UInt8} {m : List Int} : List.replicate n (0 : UInt8) = mixP (rctP a m up 0 (loN m up 0)) (rctF l a b m up) (fun _ => 0) n := by
 rw [mixP_congr (Q := fun _ => false) fun k _ => by rcases rctP_first (a := a) (b := b) (up := up) (l := l) (m := m) (k := k) with h | h; exact Or.inl ⟨fun q => (h.2 q), fun q => h.1 q⟩; exact Or.inr h]
 apply List.ext_getElem <;> simp [mixP]
theorem rct_end {a b h up : Nat} {l : List UInt8} {m : List Int} (ha : 0 < a) {y : Nat} : mixP (rctP a m up a y) (rctF l a b m up) (fun _ => 0) (a * h) = rctL l a b m up h := by
 unfold mixP rctL
 apply List.map_congr_left
 intro k _
 rw [if_pos]
 simp only [rctP, Bool.or_eq_true, decide_eq_true_eq]
 exact Or.inl (Nat.mod_lt _ ha)
end Go.Am

namespace Go.Am
open Go
open Nat renaming reduceEqDiff → qe, reduceAdd → qz
open Int renaming reduceBEq → qn, reduceBNe → qq
attribute [local irreducible] Wp WpO WpX WpE
abbrev nxA : RCode := .region [⟨(some 6), .mov (.tmp 12), none⟩]
abbrev nxB : RCode := .block 1 (.seq (.dregion [⟨⟨(some 13), .load none (.tmp 2), none⟩, 0, 1, true⟩,
   ⟨⟨(some 14), .mov (.tmp 6), none⟩, 0, 0, true⟩,
   ⟨⟨(some 15), .idxS 1 (.tmp 13) (.tmp 14), none⟩, 3, 0, true⟩,
   ⟨⟨(some 16), .load none (.tmp 15), none⟩, 7, 1, true⟩,
   ⟨⟨(some 17), .load none (.tmp 3), none⟩, 0, 1, true⟩,
   ⟨⟨(some 18), .mov (.tmp 6), none⟩, 0, 0, true⟩,
   ⟨⟨(some 19), .call (.val (.func (.func 53) [] [])) [(.tmp 17), (.tmp 18)], none⟩, 48, 2, false⟩,
   ⟨⟨(some 20), .bin .add (.tmp 16) (.tmp 19), none⟩, 127, 0, false⟩,
   ⟨⟨(some 7), .mov (.tmp 20), none⟩, 255, 0, false⟩])
  (.seq (.region [⟨(some 21), .mov (.tmp 7), none⟩,
   ⟨(some 22), .load none (.tmp 5), none⟩,
   ⟨(some 23), .bin .lss (.tmp 21) (.tmp 22), none⟩])
  (.cond (.tmp 23) (.region [⟨(some 24), .mov (.tmp 6), none⟩,
    ⟨(some 25), .mov (.tmp 7), none⟩,
    ⟨none, .store 1 (.tmp 4) (.tmp 24), none⟩,
    ⟨none, .store 1 (.tmp 5) (.tmp 25), none⟩])
  (.skip))))
abbrev nxR (d : Nat) (fr : AFrame) : RLoop := ⟨d, 28, fr, [12], nxA, nxB, 0, .normal⟩
structure JX (Hb : AHeap) (ra rb r : Nat) (R0 : RLoop) (a b : Int) (H : AHeap) : Prop where
 n : Hb.n ≤ H.n
 get : ∀ s, s < Hb.n → s ≠ ra → s ≠ rb → H.get s = Hb.get s
 ka : HasRow H ra [.int .i64 a] true (2 * 3)
 kb : HasRow H rb [.int .i64 b] true (2 * 3)
 loop : HasLoop H r R0
theorem JX.row {Hb H : AHeap} {ra rb r s : Nat} {R0 : RLoop} {a b : Int} {cs : List AVal} {rw : Bool} {e : TypeId} (h : JX Hb ra rb r R0 a b H) (k : HasRow Hb s cs rw e) (h1 : s ≠ ra) (h2 : s ≠ rb) : HasRow H s cs rw e := ⟨Nat.lt_of_lt_of_le k.lt h.n, by rw [h.get s k.lt h1 h2]; exact k.get⟩
theorem JX.slice {Hb H : AHeap} {ra rb r : Nat} {R0 : RLoop} {a b : Int} {p : AVal} {sz n : Nat} {cs : List AVal} (h : JX Hb ra rb r R0 a b H) (k : SliceAt Hb p sz n cs) (h1 : RowNe p ra) (h2 : RowNe p rb) : SliceAt H p sz n cs := k.keep h.n fun s _ _ _ _ e hs => h.get s hs (h1.ne _ _ _ _ _ e) (h2.ne _ _ _ _ _ e)
theorem JX.ext {Hh Hb H : AHeap} {ra rb r : Nat} {R0 : RLoop} {a b : Int} (h : JX Hb ra rb r R0 a b H) (x : Ext Hh Hb) (h1 : Hh.n ≤ ra) (h2 : Hh.n ≤ rb) : Ext Hh H := ⟨Nat.le_trans x.n h.n, fun s hs => by have := x.n; rw [h.get s (by omega) (by omega) (by omega), x.get s hs]⟩
theorem JX.start {Hb : AHeap} {ra rb : Nat} {R0 : RLoop} {a b : Int} (ka : HasRow Hb ra [.int .i64 a] true (2 * 3)) (kb : HasRow Hb rb [.int .i64 b] true (2 * 3)) : JX Hb ra rb (Hb.n + 1) R0 a b ((Hb.push .dead).push (.loop R0)) := by
 haveI := ka
 haveI := kb
 refine ⟨by simp only [AHeap.push]; omega, fun s hs _ _ => ?_, inferInstance, inferInstance, (inferInstance : HasLoop ((Hb.push .dead).push (.loop R0)) (Hb.push .dead).n R0)⟩
 rw [push_get_lt (by simp only [AHeap.push]; omega), push_get_lt hs]
theorem row_loop {H : AHeap} {s r : Nat} {cs : List AVal} {rw : Bool} {e : TypeId} {R0 : RLoop} (k : HasRow H s cs rw e) (hl : HasLoop H r R0) : s ≠ r := fun q => by
 subst q
 have := hl.get
 rw [k.get] at this; cases this
theorem sl_loop {H : AHeap} {p : AVal} {sz n : Nat} {cs : List AVal} {r : Nat} {R0 : RLoop} (k : SliceAt H p sz n cs) (hl : HasLoop H r R0) : RowNe p r := ⟨fun r' off len cap sz' e => by
 rcases k.it with ⟨rfl, _⟩ | ⟨r2, off2, cap2, row, rw2, e2, rfl, h2, h3, _⟩
 ·cases e
 ·cases e
  intro e; subst e
  have := hl.get
  rw [h3] at this; cases this⟩
theorem round_nx {Hb H : AHeap} {r2 r3 ra rb r d n y z : Nat} {fr : AFrame} {p : AVal} {l : List Int} {a b : Int} {e2 e3 : TypeId} {w2 w3 : Bool} (h2 : fr 2 = .ptr r2 0) (h3 : fr 3 = .ptr r3 0) (h4 : fr 4 = .ptr ra 0) (h5 : fr 5 = .ptr rb 0) (k2 : HasRow H r2 [p] w2 e2) (k3 : HasRow H r3 [.int .i64 (y : Int)] w3 e3) (kp : IntsI H p l) (pa : RowNe p ra) (pb : RowNe p rb) (n2a : r2 ≠ ra) (n2b : r2 ≠ rb) (n3a : r3 ≠ ra) (n3b : r3 ≠ rb) (nab : ra ≠ rb) (hla : ra < Hb.n) (hlb : rb < Hb.n) (hr : Hb.n ≤ r)
  (hl : ∀ i, 0 ≤ l.getD i 0 ∧ l.getD i 0 ≤ 3840) (hz : z < l.length) (hJ : JX Hb ra rb r (nxR d fr) a b H) (hn : fuel0 + 2 ≤ n) :
  ∃ H', callN ext prog n yieldId [.yield r, .int .i64 (z : Int)] H = some (.bool true, H') ∧ JX Hb ra rb r (nxR d fr) (if l.getD z 0 + chg y z < b then (z : Int) else a) (if l.getD z 0 + chg y z < b then l.getD z 0 + chg y z else b) H' := by
 obtain ⟨k, rfl⟩ : ∃ k, n = k + 1 := ⟨n - 1, by omega⟩
 replace hn : fuel0 + 1 ≤ k := by omega
 haveI := hJ.loop
 haveI := hJ.ka
 haveI := hJ.kb
 haveI : NeR r2 r := ⟨row_loop k2 hJ.loop⟩
 haveI : NeR r3 r := ⟨row_loop k3 hJ.loop⟩
 haveI : NeR ra r := ⟨row_loop hJ.ka hJ.loop⟩
 haveI : NeR rb r := ⟨row_loop hJ.kb hJ.loop⟩
 haveI : NeR ra rb := ⟨nab⟩
 haveI : NeR rb ra := ⟨nab.symm⟩
 haveI : NeR r ra := ⟨(row_loop hJ.ka hJ.loop).symm⟩
 haveI : NeR r rb := ⟨(row_loop hJ.kb hJ.loop).symm⟩
 haveI : RowNe p r := sl_loop kp hJ.loop
 haveI := kp.one
 have hlz := hl z
 have hgz : l.getD z 0 = l[z] := getD_at hz
 rw [hgz] at hlz ⊢
 have hc0 : 0 ≤ chg y z ∧ chg y z ≤ 1 := by unfold chg; split <;> omega
 obtain ⟨C, hC⟩ : ∃ C, l[z] + chg y z = C := ⟨_, rfl⟩
 have hw : IntKind.i64.wrap (l[z] + chg y z) = C := by rw [w64 (by omega), hC]
 rw [hC]
 refine round_next (R := nxR d fr) rfl hJ.loop rfl rfl rfl ?_
 show Wp (callN ext prog k) k nxA (upd fr 12 (.int .i64 (z : Int))) H _
 have hfr : upd fr 12 (.int .i64 (z : Int)) = upd (upd (upd (upd (upd fr 2 (.ptr r2 0)) 3 (.ptr r3 0)) 4 (.ptr ra 0)) 5 (.ptr rb 0)) 12 (.int .i64 (z : Int)) := by
  have e : ∀ (g : AFrame) (k : Nat) (v : AVal), g k = v → upd g k v = g := fun g k v h => funext fun t => by
   simp only [upd]
   cases hh : Nat.beq t k
   ·rfl
   ·have := Nat.eq_of_beq_eq_true hh
    subst this
    rw [cond_true, h]
  rw [e fr 2 _ h2, e fr 3 _ h3, e fr 4 _ h4, e fr 5 _ h5]
 rw [hfr]
 refine rg fun KF hKF => ?_
 refine mI ?_
 refine nl hKF ?_
 dsimp only
 refine ⟨rfl, inferInstance, ?_⟩
 show Wp (callN ext prog k) k nxB _ _ _
 have hn1 := hJ.n
 cases hc : decide (C < b)
 ·have hcf := of_decide_eq_false hc
  rw [if_neg hcf, if_neg hcf]
  refine Wp.block ?_
  refine sq ?_
  refine Fr.dregion0 rfl fun KF hKF => ?_
  repeat first | refine Er rfl (exec_ld rfl rfl) rfl ?_ | refine Fe.pure rfl rfl (by simp only [↓nrmL, nrmZ, qe, ↓reduceIte, qz, qn, qq, hw]; rfl) ?_ | (refine Fe.pure rfl (exec_idxP (by (try simp only [↓nrmL, nrmZ, qe, ↓reduceIte, qz, qn, qq, hw]); rfl) rfl ?_) (by simp only [↓nrmL, nrmZ, qe, ↓reduceIte, qz, qn, qq, hw]; rfl) ?_; (focus omega)) | refine Er rfl (exec_ldI rfl (by omega)) rfl ?_ | (refine Fe.pcall (v' := ?_) rfl hn rfl (by simp only [↓nrmL, nrmZ, qe, ↓reduceIte, qz, qn, qq, hw, List.map]; rfl) rfl ?hv fun _ _ => ar ?_; case hv => rfl) | refine WpE.nil (hKF _ _ ?_)
  simp only [hc]
  refine sq ?_
  refine rg fun KF hKF => ?_
  refine mI ?_
  refine Fo.ld rfl rfl ?_
  refine bn rfl rfl rfl (by simp only [↓nrmL, nrmZ, qe, ↓reduceIte, qz, qn, qq, hc]; rfl) ?_
  refine nl hKF ?_
  refine cf rfl ?_
  refine sk ?_
  dsimp only
  rename AHeap => X
  rename ExtI _ X => hX
  have nX := hX.ext.n
  simp only [AHeap.set] at nX
  refine ⟨rfl, inferInstance, ⟨by simp only [AHeap.set]; omega, fun s hs n1 n2 => ?_, inferInstance, inferInstance, inferInstance⟩⟩
  rw [set_get_ne (by omega), hX.ext.get s (by simp only [AHeap.set]; omega), set_get_ne (by omega)]
  exact hJ.get s hs n1 n2
 have hcf := of_decide_eq_true hc
 rw [if_pos hcf, if_pos hcf]
 refine Wp.block ?_
 refine sq ?_
 refine Fr.dregion0 rfl fun KF hKF => ?_
 repeat first | refine Er rfl (exec_ld rfl rfl) rfl ?_ | refine Fe.pure rfl rfl (by simp only [↓nrmL, nrmZ, qe, ↓reduceIte, qz, qn, qq, hw]; rfl) ?_ | (refine Fe.pure rfl (exec_idxP (by (try simp only [↓nrmL, nrmZ, qe, ↓reduceIte, qz, qn, qq, hw]); rfl) rfl ?_) (by simp only [↓nrmL, nrmZ, qe, ↓reduceIte, qz, qn, qq, hw]; rfl) ?_; (focus omega)) | refine Er rfl (exec_ldI rfl (by omega)) rfl ?_ | (refine Fe.pcall (v' := ?_) rfl hn rfl (by simp only [↓nrmL, nrmZ, qe, ↓reduceIte, qz, qn, qq, hw, List.map]; rfl) rfl ?hv fun _ _ => ar ?_; case hv => rfl) | refine WpE.nil (hKF _ _ ?_)
 simp only [hc]
 repeat first | refine mI ?_ | refine Fo.ld rfl rfl ?_ | refine bn rfl rfl rfl (by simp only [↓nrmL, nrmZ, qe, ↓reduceIte, qz, qn, qq, hc]; rfl) ?_ | refine so rfl (rfl : _ = AVal.int _ _) rfl rfl rfl (by simp only [↓nrmL, nrmZ, qe, ↓reduceIte, qz, qn, qq, hc]; rfl) ?_ | refine nl hKF ?_ | refine sq ?_ | refine rg fun KF hKF => ?_ | refine ct rfl ?_ | dsimp only
 rename AHeap => X
 rename ExtI _ X => hX
 have nX := hX.ext.n
 simp only [AHeap.set] at nX
 refine ⟨rfl, inferInstance, ⟨by simp only [AHeap.set]; omega, fun s hs n1 n2 => ?_, inferInstance, inferInstance, inferInstance⟩⟩
 rw [set_get_ne (by omega), set_get_ne n2, set_get_ne n1, hX.ext.get s (by simp only [AHeap.set]; omega), set_get_ne (by omega)]
 exact hJ.get s hs n1 n2
theorem K_next {y : Nat} {p : AVal} {H : AHeap} {l : List Int} [hp : IntsI H p l] (h0 : 0 < l.length) (h640 : l.length ≤ 640) (hy : y < l.length) (hl : ∀ i, 0 ≤ l.getD i 0 ∧ l.getD i 0 ≤ 3840) : Con ext prog 6 94 [p, .int .i64 (y : Int)] H fun v H' => v = .tuple [.int .i64 ((nxF (fun i => l.getD i 0) l.length y).1 : Int), .int .i64 (nxF (fun i => l.getD i 0) l.length y).2] ∧ Ext H H' := by
 refine con_ofR (show prog 94 = some c94 from rfl) rfl rfl fun n hn => ?_
 obtain ⟨c, hcd⟩ : ∃ c : Nat → Int, (fun i => l.getD i 0) = c := ⟨_, rfl⟩
 have hcv : ∀ i, l.getD i 0 = c i := fun i => by rw [← hcd]
 rw [hcd]
 haveI := hp.one
 repeat first | refine Fo.ld rfl rfl ?_ | refine ln (by simp only [↓nrmL, nrmK, qe, ↓reduceIte]; rfl) ?_ | refine Fo.box1 (rfl : _ = AVal.int _ _) ?_ | refine Fo.box1 (by simp only [↓nrmL, nrmK, qe, ↓reduceIte]; rfl) ?_ | refine nw ?_ | refine so rfl (rfl : _ = AVal.int _ _) rfl rfl rfl (by simp only [↓nrmL, nrmZ, qe, ↓reduceIte, qz, qn, qq]; rfl) ?_ | refine nl hKF ?_ | refine sq ?_ | refine rg fun KF hKF => ?_
 refine WpO.do (WpX.conD hn rfl rfl (by simp only [↓nrmL, nrmZ, qe, ↓reduceIte, qz, qn, qq, List.map] <;> rfl) (K_beside (y := (y : Int)) (h := ((l.length : Nat) : Int))) fun v H2 h5 => ?_)
 obtain ⟨q1, q2, e1, k1, k2, hx2, g1, g2⟩ := h5
 subst e1
 haveI : ExtI _ H2 := ⟨hx2⟩
 have kr2 : HasRow H2 H.n [p] true (2 * 25) := inferInstance
 have kr3 : HasRow H2 (H.push (.row [p] true (2 * 25))).n [.int .i64 (y : Int)] true (2 * 3) := inferInstance
 have kra : HasRow H2 ((H.push (.row [p] true (2 * 25))).push (.row [.int .i64 (y : Int)] true (2 * 3))).n [.int .i64 0] true (2 * 3) := inferInstance
 have krb : HasRow H2 (((H.push (.row [p] true (2 * 25))).push (.row [.int .i64 (y : Int)] true (2 * 3))).push (.row [.int .i64 0] true (2 * 3))).n [.int .i64 1920] true (2 * 3) := inferInstance
 have kp : IntsI H2 p l := inferInstance
 have hx02 : Ext H H2 := Ext0.ext
 have n2 := hx2.n
 simp only [AHeap.push, AHeap.set] at n2 g1 g2
 have pra : RowNe p ((H.push (.row [p] true (2 * 25))).push (.row [.int .i64 (y : Int)] true (2 * 3))).n := ⟨fun r _ _ _ _ e => by have := hp.lt e; simp only [AHeap.push]; omega⟩
 have prb : RowNe p (((H.push (.row [p] true (2 * 25))).push (.row [.int .i64 (y : Int)] true (2 * 3))).push (.row [.int .i64 0] true (2 * 3))).n := ⟨fun r _ _ _ _ e => by have := hp.lt e; simp only [AHeap.push]; omega⟩
 have key : ∀ fr : AFrame, fr 2 = .ptr H.n 0 → fr 3 = .ptr (H.push (.row [p] true (2 * 25))).n 0 → fr 4 = .ptr ((H.push (.row [p] true (2 * 25))).push (.row [.int .i64 (y : Int)] true (2 * 3))).n 0 → fr 5 = .ptr (((H.push (.row [p] true (2 * 25))).push (.row [.int .i64 (y : Int)] true (2 * 3))).push (.row [.int .i64 0] true (2 * 3))).n 0 → ∃ v H3, callN ext prog n 133 [.yield (H2.n + 1), .ptr q1 0, .ptr q2 0] ((H2.push .dead).push (.loop (nxR H2.n fr))) = some (v, H3) ∧ JX H2 ((H.push (.row [p] true (2 * 25))).push (.row [.int .i64 (y : Int)] true (2 * 3))).n (((H.push (.row [p] true (2 * 25))).push (.row [.int .i64 (y : Int)] true (2 * 3))).push (.row [.int .i64 0] true (2 * 3))).n (H2.n + 1) (nxR H2.n fr) ((nxF c l.length y).1 : Int) (nxF c l.length y).2 H3 := fun fr f2 f3 f4 f5 =>
  K_besideI (y := y) (h := l.length) (r := H2.n + 1) (J := fun z H' => JX H2 ((H.push (.row [p] true (2 * 25))).push (.row [.int .i64 (y : Int)] true (2 * 3))).n (((H.push (.row [p] true (2 * 25))).push (.row [.int .i64 (y : Int)] true (2 * 3))).push (.row [.int .i64 0] true (2 * 3))).n (H2.n + 1) (nxR H2.n fr) ((nxTo c y (loB y) (z - loB y)).1 : Int) (nxTo c y (loB y) (z - loB y)).2 H') (D := 2) h0 h640 hy
   (fun z H4 hJ => ⟨hJ.row k1 (by simp only [AHeap.push]; omega) (by simp only [AHeap.push]; omega), hJ.row k2 (by simp only [AHeap.push]; omega) (by simp only [AHeap.push]; omega)⟩)
   (fun z H4 hz1 hz2 hJ m hm => by
    have hzl : z < l.length := by unfold hiB at hz2; omega
    obtain ⟨H', e5, hJ5⟩ := round_nx (y := y) (z := z) (p := p) (l := l) f2 f3 f4 f5 (hJ.row kr2 (by simp only [AHeap.push]; omega) (by simp only [AHeap.push]; omega)) (hJ.row kr3 (by simp only [AHeap.push]; omega) (by simp only [AHeap.push]; omega)) (hJ.slice kp pra prb) pra prb (by simp only [AHeap.push]; omega) (by simp only [AHeap.push]; omega) (by simp only [AHeap.push]; omega) (by simp only [AHeap.push]; omega) (by simp only [AHeap.push]; omega) kra.lt krb.lt (Nat.le_succ _) hl hzl hJ hm
    refine ⟨H', e5, ?_⟩
    rw [show z + 1 - loB y = (z - loB y) + 1 by omega]
    simp only [nxTo]
    rw [show loB y + (z - loB y) = z by omega]
    rw [hcv z] at hJ5
    by_cases hlt : c z + chg y z < (nxTo c y (loB y) (z - loB y)).2
    ·rw [if_pos hlt, if_pos hlt] at hJ5
     rw [if_pos hlt]
     exact hJ5
    ·rw [if_neg hlt, if_neg hlt] at hJ5
     rw [if_neg hlt]
     exact hJ5)
   (by rw [Nat.sub_self]; exact JX.start kra krb) n (by omega)
 have key2 : ∀ (fr : AFrame) (P : AVal → AHeap → RLoop → Prop), fr 2 = .ptr H.n 0 → fr 3 = .ptr (H.push (.row [p] true (2 * 25))).n 0 → fr 4 = .ptr ((H.push (.row [p] true (2 * 25))).push (.row [.int .i64 (y : Int)] true (2 * 3))).n 0 → fr 5 = .ptr (((H.push (.row [p] true (2 * 25))).push (.row [.int .i64 (y : Int)] true (2 * 3))).push (.row [.int .i64 0] true (2 * 3))).n 0 → (∀ v H3, JX H2 ((H.push (.row [p] true (2 * 25))).push (.row [.int .i64 (y : Int)] true (2 * 3))).n (((H.push (.row [p] true (2 * 25))).push (.row [.int .i64 (y : Int)] true (2 * 3))).push (.row [.int .i64 0] true (2 * 3))).n (H2.n + 1) (nxR H2.n fr) ((nxF c l.length y).1 : Int) (nxF c l.length y).2 H3 → P v H3 (nxR H2.n fr)) →
   ∃ v H3 R, callN ext prog n 133 ([] ++ [.yield (H2.n + 1)] ++ [.ptr q1 0, .ptr q2 0]) ((H2.push .dead).push (.loop ⟨H2.n, 28, fr, [12], nxA, nxB, 0, .normal⟩)) = some (v, H3) ∧ H3.get (H2.n + 1) = .loop R ∧ (Nat.beq R.st 1 || Nat.beq R.st 4) = false ∧ P v H3 R := fun fr P f2 f3 f4 f5 hP => by
  obtain ⟨v, H3, e3, hJ⟩ := key fr f2 f3 f4 f5
  exact ⟨v, H3, nxR H2.n fr, e3, hJ.loop.get, rfl, hP v H3 hJ⟩
 refine nl hKF ?_
 refine Wp.block ?_
 dsimp only
 refine Wp.range (gf := 133) (fi := []) (ca := [.ptr q1 0, .ptr q2 0]) (vs := []) rfl rfl rfl ?_
 refine key2 _ _ rfl rfl rfl rfl fun v H3 hJ => ?_
 haveI := hJ.loop
 haveI := hJ.ka
 haveI := hJ.kb
 have n3 := hJ.n
 have hx03 := hJ.ext hx02 (by simp only [AHeap.push]; omega) (by simp only [AHeap.push]; omega)
 haveI : NeR ((H.push (.row [p] true (2 * 25))).push (.row [.int .i64 (y : Int)] true (2 * 3))).n (H2.n + 1) := ⟨by simp only [AHeap.push]; omega⟩
 haveI : NeR (((H.push (.row [p] true (2 * 25))).push (.row [.int .i64 (y : Int)] true (2 * 3))).push (.row [.int .i64 0] true (2 * 3))).n (H2.n + 1) := ⟨by simp only [AHeap.push]; omega⟩
 haveI : NeR (H2.n + 1) ((H.push (.row [p] true (2 * 25))).push (.row [.int .i64 (y : Int)] true (2 * 3))).n := ⟨by simp only [AHeap.push]; omega⟩
 haveI : NeR (H2.n + 1) (((H.push (.row [p] true (2 * 25))).push (.row [.int .i64 (y : Int)] true (2 * 3))).push (.row [.int .i64 0] true (2 * 3))).n := ⟨by simp only [AHeap.push]; omega⟩
 haveI : NeR ((H.push (.row [p] true (2 * 25))).push (.row [.int .i64 (y : Int)] true (2 * 3))).n (((H.push (.row [p] true (2 * 25))).push (.row [.int .i64 (y : Int)] true (2 * 3))).push (.row [.int .i64 0] true (2 * 3))).n := ⟨by simp only [AHeap.push]; omega⟩
 haveI : NeR (((H.push (.row [p] true (2 * 25))).push (.row [.int .i64 (y : Int)] true (2 * 3))).push (.row [.int .i64 0] true (2 * 3))).n ((H.push (.row [p] true (2 * 25))).push (.row [.int .i64 (y : Int)] true (2 * 3))).n := ⟨by simp only [AHeap.push]; omega⟩
 refine sq ?_
 dsimp only
 refine Fr.dregion0 rfl fun KF hKF => ?_
 repeat first | refine Er rfl (exec_ld rfl rfl) rfl ?_ | refine Ee rfl (xs rfl (by (try simp only [↓nrmL, nrmZ, qe, ↓reduceIte, qz, qn, qq]); rfl) rfl rfl rfl (by (try simp only [↓nrmL, nrmZ, qe, ↓reduceIte, qz, qn, qq]); rfl)) ?_ | refine WpE.nil (hKF _ _ ?_)
 refine rt ?_
 dsimp only
 refine ⟨trivial, _, takeMarks1 (d := H2.n) (l := H2.n + 1) inferInstance rfl rfl, _, getAllC1 rfl rfl (getAllC1 rfl rfl rfl), rfl, ⟨by simp only [AHeap.set]; exact hx03.n, fun s hs => ?_⟩⟩
 rw [set_get_ne (by omega), set_get_ne (by simp only [AHeap.push]; omega), set_get_ne (by simp only [AHeap.push]; omega)]
 try rw [set_get_ne (by omega)]
 exact hx03.get s hs
end Go.Am

namespace Go.Am
open Go
open Nat renaming reduceEqDiff → qe, reduceAdd → qz
open Int renaming reduceBEq → qn, reduceBNe → qq
attribute [local irreducible] Wp WpO WpX WpE
theorem exec_fa {call : ACall} {fr : AFrame} {H : AHeap} {x : ROpd} {r o off : Nat} (hx : x.ev fr = .ptr r o) : (ROp.fieldAddr off x).exec call fr H = some (.ptr r (o + off), H) := by simp only [ROp.exec, hx, aFieldAddr, M.ofOption, M.pure]
abbrev recA : RCode := .seq (.region [⟨(some 13), .mov (.tmp 50), none⟩]) (.region [⟨(some 14), .mov (.tmp 51), none⟩])
abbrev recB : RCode := .block 1 (.dregion [⟨⟨(some 52), .fieldAddr 2 (.tmp 11), none⟩, 0, 0, true⟩,
   ⟨⟨(some 53), .load none (.tmp 52), none⟩, 1, 1, true⟩,
   ⟨⟨(some 54), .mov (.tmp 14), none⟩, 0, 0, true⟩,
   ⟨⟨(some 55), .fieldAddr 2 (.tmp 4), none⟩, 0, 0, true⟩,
   ⟨⟨(some 56), .load none (.tmp 55), none⟩, 8, 1, true⟩,
   ⟨⟨(some 57), .mov (.tmp 13), none⟩, 0, 0, true⟩,
   ⟨⟨(some 58), .idxS 1 (.tmp 56) (.tmp 57), none⟩, 56, 0, true⟩,
   ⟨⟨(some 59), .load none (.tmp 58), none⟩, 120, 1, true⟩,
   ⟨⟨(some 60), .idxS 1 (.tmp 53) (.tmp 54), none⟩, 255, 0, true⟩,
   ⟨⟨none, .store 1 (.tmp 60) (.tmp 59), none⟩, 511, 2, false⟩])
abbrev recR (d : Nat) (fr : AFrame) : RLoop := ⟨d, 62, fr, [50, 51], recA, recB, 0, .normal⟩
theorem round_rect {Hb H : AHeap} {r11 r4 r d n i j : Nat} {fr : AFrame} {q p : AVal} {L l : List UInt8} {u v w s : Int} {e11 e4 : TypeId} {w11 w4 : Bool} (h11 : fr 11 = .ptr r11 0) (h4 : fr 4 = .ptr r4 0) (k11 : HasRow H r11 [.int .i64 u, .int .i64 v, q] w11 e11) (k4 : HasRow H r4 [.int .i64 w, .int .i64 s, p] w4 e4) (kp : BytesI H p l) (n11 : RowNe q r11) (n4 : RowNe q r4) (hpq : SepS p q) (hr : Hb.n ≤ r) (hJ : JS Hb r (recR d fr) q L H) (hi : i < l.length) (hj : j < L.length) (hn : fuel0 + 1 ≤ n) :
  ∃ H', callN ext prog n yieldId [.yield r, .int .i64 (i : Int), .int .i64 (j : Int)] H = some (.bool true, H') ∧ JS Hb r (recR d fr) q (L.set j l[i]) H' := by
 obtain ⟨k, rfl⟩ : ∃ k, n = k + 1 := ⟨n - 1, by omega⟩
 haveI := hJ.loop
 haveI := hJ.px
 haveI := hJ.wr
 haveI : RowNe q r := px_ne hJ.px hJ.loop
 haveI : RowNe p r := px_ne kp hJ.loop
 haveI : NeR r11 r := ⟨fun e => by have := k11.get; have h2 := hJ.loop.get; rw [e, h2] at this; cases this⟩
 haveI : NeR r4 r := ⟨fun e => by have := k4.get; have h2 := hJ.loop.get; rw [e, h2] at this; cases this⟩
 haveI := kp.one
 haveI := hJ.px.one
 refine round_next (R := recR d fr) rfl hJ.loop rfl rfl rfl ?_
 show Wp (callN ext prog k) k recA (upd (upd fr 50 (.int .i64 (i : Int))) 51 (.int .i64 (j : Int))) H _
 simp only [h11, h4]
 repeat first | refine mI ?_ | refine nl hKF ?_ | refine sq ?_ | refine rg fun KF hKF => ?_
 refine ⟨rfl, inferInstance, ?_⟩
 show Wp (callN ext prog k) k recB _ _ _
 refine Wp.block ?_
 refine Fr.dregion0 rfl fun KF hKF => ?_
 refine Fe.pure rfl (exec_fa h11) rfl ?_
 refine Er rfl (exec_ld rfl rfl) rfl ?_
 refine Fe.pure rfl rfl (by simp only [↓nrmL, nrmZ, qe, ↓reduceIte, qz, qn, qq]; rfl) ?_
 refine Fe.pure rfl (exec_fa h4) rfl ?_
 repeat first | refine Er rfl (exec_ld rfl rfl) rfl ?_ | refine Fe.pure rfl rfl (by simp only [↓nrmL, nrmZ, qe, ↓reduceIte, qz, qn, qq]; rfl) ?_ | (refine Fe.pure rfl (exec_idxP (by (try simp only [↓nrmL, nrmZ, qe, ↓reduceIte, qz, qn, qq]); rfl) rfl ?_) (by simp only [↓nrmL, nrmZ, qe, ↓reduceIte, qz, qn, qq]; rfl) ?_; (focus omega)) | refine Er rfl (exec_ldB rfl (by omega)) rfl ?_
 refine WpE.stB (l[i]) rfl rfl rfl rfl hj fun H8 hb8 hw8 hx8 => ar ?_
 refine WpE.nil (hKF _ _ ?_)
 dsimp only
 have hn1 := hJ.n
 have hn8 := hx8.n
 refine ⟨rfl, inferInstance, ⟨by simp only [AHeap.set] at hn8 ⊢; omega, fun s hs hne => ?_, inferInstance, inferInstance, inferInstance⟩⟩
 have hsr : s ≠ r := by omega
 rw [set_get_ne hsr, hx8.get s (by simp only [AHeap.set]; omega) hne, set_get_ne hsr]
 exact hJ.get s hs hne
def rectS (g : Img) (ls : List (List Int)) (up down : Int) : Img × Int :=
 bif checkS g ls == 0 then (bif decide (up < 0) || decide (down < 0) then (.zero, 1) else (bif decide (up + down + 1 ≤ 640) then (⟨g.w, up + down + 1, rctL g.px g.w.toNat g.h.toNat (ls.getD 4 []) up.toNat (up + down + 1).toNat⟩, 0) else (.zero, 2))) else (.zero, checkS g ls)
theorem checkS_ok {w h : Int} {l : List UInt8} {ls : List (List Int)} (h0 : (checkS ⟨w, h, l⟩ ls == 0) = true) : ∃ a b : Nat, w = a ∧ h = b ∧ Ok a b l ∧ fitsB a b ls = true := by
 unfold checkS at h0
 cases h1 : (Img.err ⟨w, h, l⟩ == 0)
 ·rw [h1, cond_false] at h0
  rw [h1] at h0; cases h0
 ·obtain ⟨a, b, rfl, rfl, ok⟩ := ok_of h1
  rw [h1, cond_true] at h0
  refine ⟨a, b, rfl, rfl, ok, ?_⟩
  simp only [Int.toNat_natCast] at h0
  cases hf : fitsB a b ls with
  | true => rfl
  | false => rw [hf] at h0; cases h0
theorem K_Rectify {w h up down : Int} {p q : AVal} {H : AHeap} {l : List UInt8} {ls : List (List Int)} [hp : BytesI H p l] [hq : LinesI H q ls] : Con ext prog 9 36 [.agg [.int .i64 w, .int .i64 h, p], .agg [q], .int .i64 up, .int .i64 down] H fun v H' => InkRes H H' v (rectS ⟨w, h, l⟩ ls up down) := by
 refine con_ofR (show prog 36 = some c36 from rfl) rfl rfl fun n hn => ?_
 obtain ⟨ps, hps, hrw⟩ := hq.it
 haveI := hp.one
 haveI := hps.one
 obtain ⟨R, hR⟩ : ∃ R, rectS ⟨w, h, l⟩ ls up down = R := ⟨_, rfl⟩
 rw [hR]
 cases h0 : (checkS ⟨w, h, l⟩ ls == 0)
 ·have e1 : rectS ⟨w, h, l⟩ ls up down = (.zero, checkS ⟨w, h, l⟩ ls) := by simp only [rectS, h0, cond_false]
  rw [e1] at hR
  subst hR
  simp only [h0, bne]
  repeat first | refine mI ?_ | refine Fo.ldN rfl rfl (by simp only [↓nrmL, nrmZ, qe, ↓reduceIte, qz, qn, qq, h0, bne]; rfl) ?_ | refine bn rfl rfl rfl (by simp only [h0, bne]; rfl) ?_ | (refine Fo.pcall (v' := ?_) hn rfl (by simp only [↓nrmL, nrmZ, qe, ↓reduceIte, qz, qn, qq, h0, bne, List.map]; rfl) rfl ?hv fun _ _ => ?_; case hv => rfl) | refine bA ?_ | refine nw ?_ | (refine ob (cs' := ?_) ?hc ?_; case hc => rfl) | refine so rfl (rfl : _ = AVal.agg _) rfl rfl rfl (by simp only [↓nrmL, nrmZ, qe, ↓reduceIte, qz, qn, qq, h0, bne]; rfl) ?_ | refine nl hKF ?_ | refine sq ?_ | refine rg fun KF hKF => ?_ | refine ct rfl ?_ | refine rt ?_ | dsimp only
  exact ⟨trivial, _, rfl, _, getAllC rfl rfl rfl rfl, _, rfl, newZero⟩
 obtain ⟨a, b, rfl, rfl, ok, hfit⟩ := checkS_ok h0
 obtain ⟨hl5, hpaths⟩ := fitsB_iff hfit
 have h4l : 4 < ls.length := by omega
 have hm := hpaths 4 h4l
 obtain ⟨hml, ha0⟩ := pathB_len hm
 obtain ⟨q4, hq4, hI4⟩ := hrw.it 4 h4l
 obtain ⟨m, hmdef⟩ : ∃ m, ls[4] = m := ⟨_, rfl⟩
 rw [hmdef] at hm hml hI4
 haveI := hI4
 have ha := ok.wa
 have hb := ok.hb
 have hlen := ok.len
 cases hu0 : decide (up < 0)
 rotate_left
 ·have e1 : rectS ⟨a, b, l⟩ ls up down = (.zero, 1) := by simp only [rectS, h0, hu0, cond_true, Bool.true_or]
  rw [e1] at hR
  subst hR
  simp only [h0, bne, hu0]
  repeat first | refine ox ?_ | refine mI ?_ | refine mB ?_ | refine Fo.ldN rfl rfl (by simp only [↓nrmL, nrmZ, qe, ↓reduceIte, qz, qn, qq, h0, bne, hu0]; rfl) ?_ | refine bn rfl rfl rfl (by simp only [h0, bne, hu0]; rfl) ?_ | refine tB ?_ | (refine Fo.pcall (v' := ?_) hn rfl (by simp only [↓nrmL, nrmZ, qe, ↓reduceIte, qz, qn, qq, h0, bne, hu0, List.map]; rfl) rfl ?hv fun _ _ => ?_; case hv => rfl) | refine bA ?_ | refine nw ?_ | (refine ob (cs' := ?_) ?hc ?_; case hc => rfl) | refine so rfl (rfl : _ = AVal.agg _) rfl rfl rfl (by simp only [↓nrmL, nrmZ, qe, ↓reduceIte, qz, qn, qq, h0, bne, hu0]; rfl) ?_ | refine nl hKF ?_ | refine sq ?_ | refine rg fun KF hKF => ?_ | refine ct rfl ?_ | refine cf rfl ?_ | refine sk ?_ | refine rt ?_ | dsimp only
  exact ⟨trivial, _, rfl, _, getAllC rfl rfl rfl rfl, _, rfl, newZero⟩
 cases hd0 : decide (down < 0)
 rotate_left
 ·have e1 : rectS ⟨a, b, l⟩ ls up down = (.zero, 1) := by simp only [rectS, h0, hu0, hd0, cond_true, Bool.or_true]
  rw [e1] at hR
  subst hR
  simp only [h0, bne, hu0, hd0]
  repeat first | refine oy ?_ | refine mI ?_ | refine mB ?_ | refine Fo.ldN rfl rfl (by simp only [↓nrmL, nrmZ, qe, ↓reduceIte, qz, qn, qq, h0, bne, hu0, hd0]; rfl) ?_ | refine bn rfl rfl rfl (by simp only [h0, bne, hu0, hd0]; rfl) ?_ | refine fB ?_ | (refine Fo.pcall (v' := ?_) hn rfl (by simp only [↓nrmL, nrmZ, qe, ↓reduceIte, qz, qn, qq, h0, bne, hu0, hd0, List.map]; rfl) rfl ?hv fun _ _ => ?_; case hv => rfl) | refine bA ?_ | refine nw ?_ | (refine ob (cs' := ?_) ?hc ?_; case hc => rfl) | refine so rfl (rfl : _ = AVal.agg _) rfl rfl rfl (by simp only [↓nrmL, nrmZ, qe, ↓reduceIte, qz, qn, qq, h0, bne, hu0, hd0]; rfl) ?_ | refine nl hKF ?_ | refine sq ?_ | refine rg fun KF hKF => ?_ | refine ct rfl ?_ | refine cf rfl ?_ | refine sk ?_ | refine rt ?_ | dsimp only
  exact ⟨trivial, _, rfl, _, getAllC rfl rfl rfl rfl, _, rfl, newZero⟩
 obtain ⟨u, rfl⟩ : ∃ k : Nat, up = k := ⟨up.toNat, by have := of_decide_eq_false hu0; omega⟩
 obtain ⟨d, rfl⟩ : ∃ k : Nat, down = k := ⟨down.toNat, by have := of_decide_eq_false hd0; omega⟩
 obtain ⟨cu, hcu⟩ : ∃ k : Nat, (if (640 : Int) < (u : Int) then (640 : Int) else (u : Int)) = (k : Int) := ⟨min u 640, by split <;> omega⟩
 obtain ⟨cd, hcd⟩ : ∃ k : Nat, (if (640 : Int) < (d : Int) then (640 : Int) else (d : Int)) = (k : Int) := ⟨min d 640, by split <;> omega⟩
 have hcu2 : cu = min u 640 := by split at hcu <;> omega
 have hcd2 : cd = min d 640 := by split at hcd <;> omega
 have m1 : IntKind.i64.wrap ((cu : Int) + (cd : Int)) = ((cu + cd : Nat) : Int) := wa (by omega)
 have m2 := wa1 (a := cu + cd) (by omega)
 have hsa : sideB (a : Int) = true := by unfold sideB; rw [decide_eq_true (by omega), decide_eq_true (by omega)]; rfl
 simp only [h0, bne, hu0, hd0, Bool.false_eq_true, if_false, hcu, hcd, m1, m2]
 repeat first | refine oy ?_ | refine mI ?_ | refine mB ?_ | refine fd ?_ | refine Fo.ld rfl rfl ?_ | refine Fo.ldN rfl rfl (by simp only [↓nrmL, nrmZ, qe, ↓reduceIte, qz, qn, qq, h0, bne, hu0, hd0, Bool.false_eq_true, if_false, hcu, hcd, m1, m2]; rfl) ?_ | refine bn rfl rfl rfl (by simp only [h0, bne, hu0, hd0, Bool.false_eq_true, if_false, hcu, hcd, m1, m2]; rfl) ?_ | refine fB ?_ | (refine Fo.pcall (v' := ?_) hn rfl (by simp only [↓nrmL, nrmZ, qe, ↓reduceIte, qz, qn, qq, h0, bne, hu0, hd0, Bool.false_eq_true, if_false, hcu, hcd, m1, m2, List.map]; rfl) rfl ?hv fun _ _ => ?_; case hv => rfl) | refine bA ?_ | refine nw ?_ | refine Fo.now rfl rfl (by simp only [h0, bne, hu0, hd0, Bool.false_eq_true, if_false, hcu, hcd, m1, m2]; rfl) ?_ | refine nl hKF ?_ | refine sq ?_ | refine rg fun KF hKF => ?_ | refine cf rfl ?_ | refine sk ?_
 refine WpO.do (WpX.conD hn rfl rfl (by simp only [↓nrmL, nrmZ, qe, ↓reduceIte, qz, qn, qq, List.map] <;> rfl) (K_New (w := a) (h := ((cu + cd + 1 : Nat) : Int))) fun v H6 h5 => ?_)
 cases hq : decide ((u : Int) + (d : Int) + 1 ≤ 640)
 ·have hsf : sideB ((cu + cd + 1 : Nat) : Int) = false := by
   have := of_decide_eq_false hq
   unfold sideB; rw [decide_eq_false (p := ((cu + cd + 1 : Nat) : Int) ≤ 640) (by omega), Bool.and_false]
  rw [hsa, hsf] at h5
  have e1 : rectS ⟨a, b, l⟩ ls u d = (.zero, 2) := by simp only [rectS, h0, hu0, hd0, cond_true, Bool.or_false, cond_false, hq]
  rw [e1] at hR
  subst hR
  obtain ⟨x, e1, q2, e2, hq2, hf2, hw2, hx2⟩ := h5
  subst e1 e2
  haveI : ExtI _ H6 := ⟨hx2⟩
  haveI := hq2.one
  try dsimp only [Bool.and_false, cond_false, Img.zero] at hq2
  simp only [Bool.and_false, cond_false, Img.zero]
  repeat first | refine mI ?_ | refine mT ?_ | refine bn rfl rfl rfl (by simp only [↓nrmL, nrmZ, qe, ↓reduceIte, qz, qn, qq, Bool.and_false, cond_false, Img.zero]; rfl) ?_ | refine xt ?_ | refine nw ?_ | (refine ob (cs' := ?_) ?hc ?_; case hc => rfl) | refine so rfl (rfl : _ = AVal.agg _) rfl rfl rfl (by simp only [↓nrmL, nrmZ, qe, ↓reduceIte, qz, qn, qq, Bool.and_false, cond_false, Img.zero]; rfl) ?_ | refine nl hKF ?_ | refine sq ?_ | refine rg fun KF hKF => ?_ | refine ct rfl ?_ | refine rt ?_ | dsimp only
  exact ⟨trivial, _, rfl, _, getAllC rfl rfl rfl rfl, _, rfl, newZero⟩
 have hud : u + d + 1 ≤ 640 := by have := of_decide_eq_true hq; omega
 have ecu : cu = u := by omega
 have ecd : cd = d := by omega
 subst ecu ecd
 obtain ⟨c, hc⟩ : ∃ c, cu + cd + 1 = c := ⟨_, rfl⟩
 have hsc : sideB ((c : Nat) : Int) = true := by unfold sideB; rw [decide_eq_true (by omega), decide_eq_true (by omega)]; rfl
 rw [hc, hsa, hsc] at h5
 have e0 : (cu : Int) + (cd : Int) + 1 = (c : Int) := by omega
 rw [e0] at hq
 have e1 : rectS ⟨a, b, l⟩ ls cu cd = (⟨a, c, rctL l a b m cu c⟩, 0) := by
  simp only [rectS, h0, hu0, hd0, cond_true, Bool.or_false, cond_false, hq, e0, Int.toNat_natCast, getDL_at h4l, hmdef]
 rw [e1] at hR
 subst hR
 obtain ⟨x, e1, sp, e2, hsp, hfsp, hwsp, hxsp⟩ := h5
 subst e1 e2
 simp only [Bool.and_self, cond_true, Int.toNat_natCast] at hsp
 haveI : ExtI _ H6 := ⟨hxsp⟩
 haveI := hsp.one
 have hmn : a * c ≤ 640 * 640 := Nat.mul_le_mul ha (by omega)
 simp only [Bool.and_self, cond_true, hc]
 repeat first | refine mI ?_ | refine mT ?_ | refine Fo.ldN rfl rfl (by simp only [↓nrmL, nrmZ, qe, ↓reduceIte, qz, qn, qq, Bool.and_self, cond_true, hc]; rfl) ?_ | refine bn rfl rfl rfl (by simp only [↓nrmL, nrmZ, qe, ↓reduceIte, qz, qn, qq, Bool.and_self, cond_true, hc]; rfl) ?_ | refine xt ?_ | refine nw ?_ | refine so rfl (rfl : _ = AVal.agg _) rfl rfl rfl (by simp only [↓nrmL, nrmZ, qe, ↓reduceIte, qz, qn, qq, Bool.and_self, cond_true, hc]; rfl) ?_ | refine nl hKF ?_ | refine sq ?_ | refine rg fun KF hKF => ?_ | refine cf rfl ?_ | refine sk ?_
 refine WpO.do (WpX.conD hn rfl rfl (by simp only [↓nrmL, nrmZ, qe, ↓reduceIte, qz, qn, qq, List.map] <;> rfl) (K_commonF (q := q) (up := (cu : Int)) (w := a) (h := b) (w' := a) (h' := c) (p := p) (p' := sp)) fun v H7 h5 => ?_)
 obtain ⟨r6, r7, r5, r4, e2, k6, k7, k5, k4, hx7, g6, g7, g5, g4⟩ := h5
 subst e2
 haveI : ExtI _ H7 := ⟨hx7⟩
 have k11 : HasRow H7 H6.n [.int .i64 a, .int .i64 c, sp] true (2 * 24) := inferInstance
 have k4i : HasRow H7 H.n [.int .i64 a, .int .i64 b, p] true (2 * 24) := inferInstance
 have k8 : HasRow H7 (AHeap.n ((H.push (.row [.int .i64 a, .int .i64 b, p] true (2 * 24))).push (.row [q] true (2 * 43)))) [.int .i64 0, .int .i64 0, .nslice] true (2 * 24) := inferInstance
 have kp : BytesI H7 p l := inferInstance
 have ksp : BytesI H7 sp (List.replicate (a * c) 0) := inferInstance
 have wsp : WrS H7 sp := inferInstance
 have kps : SliceAt H7 q 1 ls.length ps := inferInstance
 have kq4 : IntsI H7 q4 m := inferInstance
 haveI := hfsp
 have n11 : RowNe sp H6.n := inferInstance
 have n4 : RowNe sp H.n := inferInstance
 have n8 : RowNe sp (AHeap.n ((H.push (.row [.int .i64 a, .int .i64 b, p] true (2 * 24))).push (.row [q] true (2 * 43)))) := inferInstance
 have s1 : SepS p sp := inferInstance
 have s2 : SepS q sp := inferInstance
 have s3 : SepS q4 sp := inferInstance
 have n6 : RowNe sp r6 := ⟨fun _ _ _ _ _ e h => by have := hsp.lt e; simp only [AHeap.push, AHeap.set] at g6; omega⟩
 have n7 : RowNe sp r7 := ⟨fun _ _ _ _ _ e h => by have := hsp.lt e; simp only [AHeap.push, AHeap.set] at g7; omega⟩
 have n5 : RowNe sp r5 := ⟨fun _ _ _ _ _ e h => by have := hsp.lt e; simp only [AHeap.push, AHeap.set] at g5; omega⟩
 have n4' : RowNe sp r4 := ⟨fun _ _ _ _ _ e h => by have := hsp.lt e; simp only [AHeap.push, AHeap.set] at g4; omega⟩
 have hx07 : Ext H H7 := Ext0.ext
 have fsp : FreshS H sp := hfsp.weak
 rw [hl5] at kps
 have hu640 : cu ≤ 640 := by omega
 have hc640 : c ≤ 640 := by omega
 have key : ∀ fr : AFrame, fr 11 = .ptr H6.n 0 → fr 4 = .ptr H.n 0 → ∃ v H3, callN ext prog n 105 [.yield (H7.n + 1), .ptr r6 0, .ptr r7 0, .ptr r5 0, .ptr r4 0] ((H7.push .dead).push (.loop (recR H7.n fr))) = some (v, H3) ∧ JS H7 (H7.n + 1) (recR H7.n fr) sp (mixP (rctP a m cu a (loN m cu a)) (rctF l a b m cu) (fun _ => 0) (a * c)) H3 := fun fr h11 h4 =>
  K_common (a := a) (b := b) (h := c) (up := cu) (m := m) (r := H7.n + 1) (p6 := q) (q4 := q4) (sp := sp) (ip := p) (ps := ps) (J := fun x y H => JS H7 (H7.n + 1) (recR H7.n fr) sp (mixP (rctP a m cu x y) (rctF l a b m cu) (fun _ => 0) (a * c)) H) (D := 1) ha hb hc640 hu640 hm hq4
   (fun x y H4 hJ => ⟨hJ.row k6 n6, hJ.slice kps s2, hJ.slice kq4 s3, hJ.row k7 n7, hJ.row k5 n5, hJ.row k4 n4'⟩)
   (fun x y H4 hx hl hy hJ => by rw [mixP_congr (Q := rctP a m cu x y) fun k hk => by rcases rctP_col (l := l) hx hy hl hk with h | h; exact Or.inl h.symm; exact Or.inr h]; exact hJ)
   (fun x y H4 hx hl hyb hy1 hy2 hJ k hk => by
    have hlt1 := idx_lt hx hyb
    have hlt2 : (y + cu - (m.getD x 0).toNat) * a + x < a * c := idx_lt hx (by omega)
    have hil : y * a + x < l.length := by omega
    obtain ⟨H', y1, hJ2⟩ := round_rect (i := y * a + x) (j := (y + cu - (m.getD x 0).toNat) * a + x) h11 h4 (hJ.row k11 n11) (hJ.row k4i n4) (hJ.slice kp s1) n11 n4 s1 (Nat.le_succ _) hJ hil (by rw [mixP_length]; exact hlt2) hk
    refine ⟨H', y1, ?_⟩
    have e : rctF l a b m cu ((y + cu - (m.getD x 0).toNat) * a + x) = l[y * a + x] := by
     obtain ⟨d1, d2⟩ := rct_at (y := y + cu - (m.getD x 0).toNat) hx
     rw [rctF, d1, d2, if_pos (by omega), show (m.getD x 0).toNat + (y + cu - (m.getD x 0).toNat) - cu = y by omega, List.getD_eq_getElem?_getD, List.getElem?_eq_getElem hil, Option.getD_some]
    rw [← e, mixP_set (Q := rctP a m cu x (y + 1)) fun k _ => rctP_next hx hy1 k] at hJ2
    exact hJ2)
   (by rw [← rct_start]; exact JS.start ksp wsp) n (by omega)
 have key2 : ∀ (fr : AFrame) (P : AVal → AHeap → RLoop → Prop), fr 11 = .ptr H6.n 0 → fr 4 = .ptr H.n 0 → (∀ v H3, JS H7 (H7.n + 1) (recR H7.n fr) sp (rctL l a b m cu c) H3 → P v H3 (recR H7.n fr)) →
   ∃ v H3 R, callN ext prog n 105 ([] ++ [.yield (H7.n + 1)] ++ [.ptr r6 0, .ptr r7 0, .ptr r5 0, .ptr r4 0]) ((H7.push .dead).push (.loop ⟨H7.n, 62, fr, [50, 51], recA, recB, 0, .normal⟩)) = some (v, H3) ∧ H3.get (H7.n + 1) = .loop R ∧ (Nat.beq R.st 1 || Nat.beq R.st 4) = false ∧ P v H3 R := fun fr P h11 h4 hP => by
  obtain ⟨v, H3, e3, hJ⟩ := key fr h11 h4
  rw [rct_end ha0] at hJ
  exact ⟨v, H3, recR H7.n fr, e3, hJ.loop.get, rfl, hP v H3 hJ⟩
 refine nl hKF ?_
 refine Wp.block ?_
 dsimp only
 refine Wp.range (gf := 105) (fi := []) (ca := [.ptr r6 0, .ptr r7 0, .ptr r5 0, .ptr r4 0]) (vs := []) rfl rfl rfl ?_
 refine key2 _ _ rfl rfl fun v H3 hJ => ?_
 haveI := hJ.loop
 haveI := hJ.px
 haveI := hJ.wr
 haveI := px_ne hJ.px hJ.loop
 have hx03 := hJ.ext hx07 fsp
 have hH7n := hx07.n
 have hn3 := hJ.n
 haveI := hJ.row k11 n11
 haveI := hJ.row k8 n8
 haveI : NeR H6.n (H7.n + 1) := ⟨by have := k11.lt; omega⟩
 haveI : NeR (AHeap.n ((H.push (.row [.int .i64 a, .int .i64 b, p] true (2 * 24))).push (.row [q] true (2 * 43)))) (H7.n + 1) := ⟨by have := k8.lt; omega⟩
 haveI : NeR (H7.n + 1) (AHeap.n ((H.push (.row [.int .i64 a, .int .i64 b, p] true (2 * 24))).push (.row [q] true (2 * 43)))) := ⟨by have := k8.lt; omega⟩
 haveI : OneV sp := hJ.px.one
 refine sq ?_
 refine rg fun KF hKF => ?_
 refine Fo.ldN rfl rfl (by simp only [↓nrmL, nrmZ, qe, ↓reduceIte, qz, qn, qq]; rfl) ?_
 refine so rfl (rfl : _ = AVal.agg _) rfl rfl rfl (by simp only [↓nrmL, nrmZ, qe, ↓reduceIte, qz, qn, qq]; rfl) ?_
 refine mI ?_
 refine nl hKF ?_
 refine rt ?_
 dsimp only
 refine ⟨trivial, _, takeMarks1 (d := H7.n) (l := H7.n + 1) inferInstance rfl rfl, _, getAllC rfl rfl rfl rfl, _, rfl, sp, rfl, (show BytesI _ sp (rctL l a b m cu c) from inferInstance), fsp, inferInstance, ?_⟩
 refine ⟨by have := hx03.n; simp only [AHeap.set]; exact this, fun s hs => ?_⟩
 have e8 : s ≠ AHeap.n ((H.push (.row [.int .i64 a, .int .i64 b, p] true (2 * 24))).push (.row [q] true (2 * 43))) := by simp only [AHeap.push]; omega
 rw [set_get_ne (by omega), set_get_ne e8, set_get_ne (by omega)]
 exact hx03.get s hs
end Go.Am

namespace Go.Am
open Go
open Nat renaming reduceEqDiff → qe, reduceAdd → qz
open Int renaming reduceBEq → qn, reduceBNe → qq
attribute [local irreducible] Wp WpO WpX WpE
theorem K_stTwin {H : AHeap} {a b : Int} {p : AVal} {l : List UInt8} [hp : BytesI H p l] (hl : l.length < 2 ^ 40) : Con ext prog 2 85 [.agg [.int .i64 a, .int .i64 b, p]] H fun v H' => NewInk H H' v ⟨a, b, l⟩ := by
 refine con_of (show prog 85 = some c85 from rfl) rfl rfl fun n hn => ?_
 haveI := hp.one
 refine sq ?_
 refine rg fun KF hKF => ?_
 refine bA ?_
 refine nw ?_
 refine nl hKF ?_
 refine sq ?_
 refine Fr.dregion0 rfl fun KF hKF => ?_
 repeat first | refine Er rfl (exec_ld rfl rfl) rfl ?_ | refine Fe.pure rfl rfl (by simp only [↓nrmL, nrmZ, qe, ↓reduceIte, qz, qn, qq]; rfl) ?_
 refine Fe.con rfl hn rfl rfl (by simp only [↓nrmL, nrmZ, qe, ↓reduceIte, qz, qn, qq, List.map] <;> rfl) (K_Clone hl) fun v H1 ⟨h1, h2, h3, h4⟩ => ?_
 haveI : ExtI _ H1 := ⟨h4⟩
 haveI := h1.one
 refine ar ?_
 refine Fe.pure rfl (exec_build (by repeat (first | refine aFill1 (by (try simp only [↓nrmL, nrmZ, qe, ↓reduceIte, qz, qn, qq]); rfl) rfl ?_ | rfl))) (by simp only [↓nrmL, nrmZ, qe, ↓reduceIte, qz, qn, qq]; rfl) ?_
 refine Ee rfl (xs rfl (by (try simp only [↓nrmL, nrmZ, qe, ↓reduceIte, qz, qn, qq]); rfl) rfl rfl rfl (by (try simp only [↓nrmL, nrmZ, qe, ↓reduceIte, qz, qn, qq]); rfl)) ?_
 refine WpE.nil (hKF _ _ ?_)
 refine rt ?_
 dsimp only
 refine rz trivial ?_
 exact ⟨v, rfl, inferInstance, h2.weak, inferInstance, Ext0.ext⟩
end Go.Am

namespace Go.Am
open Go
section
variable {call : ACall} {lf : Nat} {fr : AFrame} {H : AHeap} {Q : RExit → AFrame → AHeap → Prop} {a b : RCode}
end
end Go.Am

namespace Go.Am
open Go
open Nat renaming reduceEqDiff → qe, reduceAdd → qz
open Int renaming reduceBEq → qn, reduceBNe → qq
attribute [local irreducible] Wp WpO WpX WpE
theorem u8m (c : UInt8) (k : Nat) (hk : 0 < k) : IntKind.i64.wrap ((c.toNat : Int).tmod (k : Int)) = ((c.toNat % k : Nat) : Int) := by
 have e : (c.toNat : Int).tmod (k : Int) = ((c.toNat % k : Nat) : Int) := by rw [Int.tmod_eq_emod_of_nonneg (by omega)]; rfl
 have := Nat.mod_lt c.toNat hk
 have := c.toNat_lt
 rw [e, w64 (by have := Nat.mod_le c.toNat k; omega)]
theorem min_nat {a b : Nat} : (if (b : Int) < (a : Int) then (b : Int) else (a : Int)) = ((min a b : Nat) : Int) := by split <;> omega
def maxI (l : List Int) : Nat → Int
 | 0 => 0
 | i + 1 => if l.getD i 0 > maxI l i then l.getD i 0 else maxI l i
def minI (l : List Int) : Nat → Int
 | 0 => 0
 | i + 1 => if l.getD i 0 < minI l i then l.getD i 0 else minI l i
theorem max_ge {l : List Int} : ∀ n i, i < n → l.getD i 0 ≤ maxI l n
 | n + 1, i, h => by
  simp only [maxI]
  by_cases e : i = n
  ·subst e; split <;> omega
  ·have := max_ge (l := l) n i (by omega); split <;> omega
theorem min_le {l : List Int} : ∀ n i, i < n → minI l n ≤ l.getD i 0
 | n + 1, i, h => by
  simp only [minI]
  by_cases e : i = n
  ·subst e; split <;> omega
  ·have := min_le (l := l) n i (by omega); split <;> omega
theorem max_in {l : List Int} {c : Int} (hc : 0 ≤ c) (h : ∀ i, l.getD i 0 ≤ c) : ∀ n, 0 ≤ maxI l n ∧ maxI l n ≤ c
 | 0 => ⟨Int.le_refl _, hc⟩
 | n + 1 => by
  have := max_in hc h n
  have := h n
  simp only [maxI]; split <;> omega
theorem min_in {l : List Int} {c : Int} (hc : 0 ≤ c) (h : ∀ i, -c ≤ l.getD i 0) : ∀ n, minI l n ≤ 0 ∧ -c ≤ minI l n
 | 0 => ⟨Int.le_refl _, by simp only [minI]; omega⟩
 | n + 1 => by
  have := min_in hc h n
  have := h n
  simp only [minI]; split <;> omega
class Z0 (l : List Int) : Prop where
 hp : 0 < l.length
 h0 : l.getD 0 0 = 0
 hs : l.length ≤ 640
theorem max_succ {l : List Int} {i : Nat} (h : i < l.length) : (if l[i] > maxI l i then l[i] else maxI l i) = maxI l (i + 1) := by
 simp only [maxI, getD_at h]
theorem min_succ {l : List Int} {i : Nat} (h : i < l.length) : (if l[i] < minI l i then l[i] else minI l i) = minI l (i + 1) := by
 simp only [minI, getD_at h]
instance K_Max {p : AVal} {H : AHeap} {l : List Int} [hp : IntsI H p l] [hm : Z0 l] : PureCon ext prog 80 [p] H 1 (.int .i64 (maxI l l.length)) := ⟨by
 refine con_of (show prog 80 = some c80 from rfl) rfl rfl fun n hn => ?_
 have hpos := hm.hp
 have hs := hm.hs
 have h0 : l[0] = 0 := by rw [← getD_at hpos]; exact hm.h0
 have h1 : decide (((l.length : Nat) : Int) < 1) = false := decide_eq_false (by omega)
 have e1 : maxI l 1 = 0 := by simp only [maxI, getD_at hpos, h0]; rfl
 repeat first | refine mI ?_ | refine mv ?_ | refine bn rfl rfl rfl (by simp only [h1, h0]; rfl) ?_ | refine ln (by simp only [↓nrmL, nrmK, qe, ↓reduceIte]; rfl) ?_ | (refine Fo.idx (by simp only [↓nrmL, nrmK, qe, ↓reduceIte]; rfl) rfl ?_ (by simp only [↓nrmL, nrmZ, qe, ↓reduceIte, qz, qn, qq, h1, h0]; rfl) ?_; (focus omega)) | (refine Fo.ldI rfl ?_ (by simp only [h1, h0]; rfl) ?_; (focus omega)) | refine nl hKF ?_ | refine sq ?_ | refine rg fun KF hKF => ?_ | refine cf rfl ?_ | refine sk ?_ | refine Wp.block ?_ | dsimp only
 refine Wp.loopS [3, 4, 12, 13, 14, 15, 16, 17, 18, 19, 20, 21, 22, 23] (fun i : Nat => [(4, .int .i64 i), (3, .int .i64 (maxI l i))]) (fun H3 i H2 => 1 ≤ i ∧ i ≤ l.length ∧ H2 = H3) (fun i => l.length - i) 1 rfl (fun _ => rfl) ⟨rfl, by simp only [↓nrmL, nrmZ, qe, ↓reduceIte, qz, qn, qq]; rw [e1], trivial⟩ ⟨Nat.le_refl _, hpos, rfl⟩ (by unfold fuel0 at hn; omega) ?_
 rintro i g H2 ⟨hi1, hi, rfl⟩
 simp only [↓nrmL, nrmZ, qe, ↓reduceIte, qz, qn, qq]
 cases hc : decide ((i : Int) < (l.length : Int))
 ·have hil : i = l.length := by have := of_decide_eq_false hc; omega
  repeat first | refine mI ?_ | refine mv ?_ | refine bn rfl rfl rfl (by simp only [hc]; rfl) ?_ | refine ln (by simp only [↓nrmL, nrmK, qe, ↓reduceIte]; rfl) ?_ | refine nl hKF ?_ | refine sq ?_ | refine rg fun KF hKF => ?_ | refine cf rfl ?_ | refine rt ?_ | refine xi ?_ | dsimp only
  refine rz trivial ?_
  exact ⟨by rw [hil]; rfl, Ext0.ext⟩
 ·have hil : i < l.length := by have := of_decide_eq_true hc; omega
  have hw1 := wa1 (a := i) (by omega)
  repeat first | refine mI ?_ | refine mv ?_ | refine bn rfl rfl rfl (by simp only [hc]; rfl) ?_ | refine b0 ?_ | refine ln (by simp only [↓nrmL, nrmK, qe, ↓reduceIte]; rfl) ?_ | (refine Fo.idx (by simp only [↓nrmL, nrmK, qe, ↓reduceIte]; rfl) rfl ?_ (by simp only [↓nrmL, nrmZ, qe, ↓reduceIte, qz, qn, qq, hc]; rfl) ?_; (focus omega)) | (refine Fo.ldI rfl ?_ rfl ?_; (focus omega)) | refine Fo.now rfl rfl (by simp only [hc]; rfl) ?_ | refine nl hKF ?_ | refine sq ?_ | refine rg fun KF hKF => ?_ | refine ct rfl ?_ | refine sk ?_ | refine Wp.block ?_ | dsimp only
  refine ⟨i + 1, by omega, ⟨by simp only [↓nrmL, nrmZ, qe, ↓reduceIte, qz, qn, qq]; rw [hw1], by simp only [↓nrmL, nrmZ, qe, ↓reduceIte, qz, qn, qq]; rw [← max_succ hil], trivial⟩, by omega, by omega, rfl⟩⟩
instance K_Min {p : AVal} {H : AHeap} {l : List Int} [hp : IntsI H p l] [hm : Z0 l] : PureCon ext prog 79 [p] H 1 (.int .i64 (minI l l.length)) := ⟨by
 refine con_of (show prog 79 = some c79 from rfl) rfl rfl fun n hn => ?_
 have hpos := hm.hp
 have hs := hm.hs
 have h0 : l[0] = 0 := by rw [← getD_at hpos]; exact hm.h0
 have h1 : decide (((l.length : Nat) : Int) < 1) = false := decide_eq_false (by omega)
 have e1 : minI l 1 = 0 := by simp only [minI, getD_at hpos, h0]; rfl
 repeat first | refine mI ?_ | refine mv ?_ | refine bn rfl rfl rfl (by simp only [h1, h0]; rfl) ?_ | refine ln (by simp only [↓nrmL, nrmK, qe, ↓reduceIte]; rfl) ?_ | (refine Fo.idx (by simp only [↓nrmL, nrmK, qe, ↓reduceIte]; rfl) rfl ?_ (by simp only [↓nrmL, nrmZ, qe, ↓reduceIte, qz, qn, qq, h1, h0]; rfl) ?_; (focus omega)) | (refine Fo.ldI rfl ?_ (by simp only [h1, h0]; rfl) ?_; (focus omega)) | refine nl hKF ?_ | refine sq ?_ | refine rg fun KF hKF => ?_ | refine cf rfl ?_ | refine sk ?_ | refine Wp.block ?_ | dsimp only
 refine Wp.loopS [3, 4, 12, 13, 14, 15, 16, 17, 18, 19, 20, 21, 22, 23] (fun i : Nat => [(4, .int .i64 i), (3, .int .i64 (minI l i))]) (fun H3 i H2 => 1 ≤ i ∧ i ≤ l.length ∧ H2 = H3) (fun i => l.length - i) 1 rfl (fun _ => rfl) ⟨rfl, by simp only [↓nrmL, nrmZ, qe, ↓reduceIte, qz, qn, qq]; rw [e1], trivial⟩ ⟨Nat.le_refl _, hpos, rfl⟩ (by unfold fuel0 at hn; omega) ?_
 rintro i g H2 ⟨hi1, hi, rfl⟩
 simp only [↓nrmL, nrmZ, qe, ↓reduceIte, qz, qn, qq]
 cases hc : decide ((i : Int) < (l.length : Int))
 ·have hil : i = l.length := by have := of_decide_eq_false hc; omega
  repeat first | refine mI ?_ | refine mv ?_ | refine bn rfl rfl rfl (by simp only [hc]; rfl) ?_ | refine ln (by simp only [↓nrmL, nrmK, qe, ↓reduceIte]; rfl) ?_ | refine nl hKF ?_ | refine sq ?_ | refine rg fun KF hKF => ?_ | refine cf rfl ?_ | refine rt ?_ | refine xi ?_ | dsimp only
  refine rz trivial ?_
  exact ⟨by rw [hil]; rfl, Ext0.ext⟩
 ·have hil : i < l.length := by have := of_decide_eq_true hc; omega
  have hw1 := wa1 (a := i) (by omega)
  repeat first | refine mI ?_ | refine mv ?_ | refine bn rfl rfl rfl (by simp only [hc, Bool.false_eq_true, if_false]; rfl) ?_ | refine b0 ?_ | refine ln (by simp only [↓nrmL, nrmK, qe, ↓reduceIte]; rfl) ?_ | (refine Fo.idx (by simp only [↓nrmL, nrmK, qe, ↓reduceIte]; rfl) rfl ?_ (by simp only [↓nrmL, nrmZ, qe, ↓reduceIte, qz, qn, qq, hc, Bool.false_eq_true, if_false]; rfl) ?_; (focus omega)) | (refine Fo.ldI rfl ?_ rfl ?_; (focus omega)) | refine Fo.now rfl rfl (by simp only [hc, Bool.false_eq_true, if_false]; rfl) ?_ | refine nl hKF ?_ | refine sq ?_ | refine rg fun KF hKF => ?_ | refine ct rfl ?_ | refine sk ?_ | refine Wp.block ?_ | dsimp only
  refine ⟨i + 1, by omega, ⟨by simp only [↓nrmL, nrmZ, qe, ↓reduceIte, qz, qn, qq]; rw [hw1], by simp only [↓nrmL, nrmZ, qe, ↓reduceIte, qz, qn, qq]; first | rw [← min_succ hil] | (simp only [Bool.false_eq_true, if_false]; rw [← min_succ hil]), trivial⟩, by omega, by omega, rfl⟩⟩
def nbF (L : List Int) : Nat → Nat
 | 0 => 0
 | k + 1 => nbF L k + (if k = 0 ∨ L.getD (k - 1) 0 = L.getD k 0 then 0 else 1)
theorem nb_mono (L : List Int) {a b : Nat} (h : a ≤ b) : nbF L a ≤ nbF L b := by
 induction b with
 | zero =>
  obtain rfl : a = 0 := by omega
  exact Nat.le_refl _
 | succ b ih =>
  by_cases e : a = b + 1
  ·subst e; exact Nat.le_refl _
  ·have := ih (by omega)
   simp only [nbF]; omega
theorem nb_congr {L M : List Int} : ∀ {k : Nat}, (∀ j, j < k → L.getD j 0 = M.getD j 0) → nbF L k = nbF M k
 | 0, _ => rfl
 | k + 1, h => by
  simp only [nbF]
  rw [nb_congr (k := k) fun j hj => h j (by omega), h k (by omega)]
  by_cases e : k = 0
  ·simp [e]
  ·rw [h (k - 1) (by omega)]
structure Wave (w : Nat) (L : List Int) (k : Nat) : Prop where
 len : L.length = w
 near : ∀ x, x + 1 < w → L.getD (x + 1) 0 - L.getD x 0 ≤ 1 ∧ L.getD x 0 - L.getD (x + 1) 0 ≤ 1
 low : ∀ x, -(k : Int) ≤ L.getD x 0 ∧ L.getD x 0 ≤ (k : Int)
 zero : L.getD 0 0 = 0
 bend : ∀ x, x + 2 < w → L.getD x 0 = L.getD (x + 1) 0 ∨ L.getD (x + 1) 0 = L.getD (x + 2) 0
 few : 8 * nbF L w ≤ w
structure WaveX (w : Nat) (L : List Int) (k X : Nat) (Y : Int) : Prop extends Wave w L k where
 tail : ∀ i, X ≤ i → i < w → L.getD i 0 = Y
 y : -(k : Int) ≤ Y ∧ Y ≤ (k : Int)
 cnt : 8 * nbF L w ≤ X
theorem waveX_zero (w : Nat) : WaveX w (List.replicate w 0) 0 0 0 := by
 have h : ∀ x, (List.replicate w (0 : Int)).getD x 0 = 0 := fun x => by
  rw [List.getD_eq_getElem?_getD, List.getElem?_replicate]; split <;> rfl
 have hn : nbF (List.replicate w (0 : Int)) w = 0 := by
  have key : ∀ k, nbF (List.replicate w (0 : Int)) k = 0 := fun k => by
   induction k with
   | zero => rfl
   | succ k ih => simp only [nbF]; rw [ih, if_pos (Or.inr (by rw [h, h]))]
  exact key w
 exact ⟨⟨List.length_replicate, fun x _ => by rw [h, h]; omega, fun x => by rw [h]; omega, h 0, fun x _ => Or.inl (by rw [h, h]), by rw [hn]; omega⟩, fun i _ _ => h i, by omega, by rw [hn]; omega⟩
def setR (L : List Int) (X i : Nat) (Y : Int) : List Int := (List.range L.length).map fun j => if X ≤ j ∧ j < i then Y else L.getD j 0
theorem setR_len (L : List Int) (X i : Nat) (Y : Int) : (setR L X i Y).length = L.length := by simp [setR]
theorem setR_at {L : List Int} {X i j : Nat} {Y : Int} (h : j < L.length) : (setR L X i Y).getD j 0 = if X ≤ j ∧ j < i then Y else L.getD j 0 := by
 rw [getD_at (by rw [setR_len]; exact h)]
 simp [setR]
theorem setR_zero (L : List Int) (X : Nat) (Y : Int) : setR L X X Y = L := by
 apply List.ext_getElem
 ·simp [setR]
 ·intro j h1 h2
  simp only [setR, List.getElem_map, List.getElem_range]
  rw [if_neg (by omega), getD_at h2]
theorem setR_set {L : List Int} {X i : Nat} {Y : Int} (hX : X ≤ i) : (setR L X i Y).set i Y = setR L X (i + 1) Y := by
 apply List.ext_getElem
 ·simp [setR]
 ·intro j h1 h2
  rw [List.getElem_set]
  simp only [setR, List.getElem_map, List.getElem_range]
  by_cases e : i = j
  ·subst e; rw [if_pos rfl, if_pos ⟨hX, by omega⟩]
  ·rw [if_neg e]
   by_cases h3 : X ≤ j ∧ j < i
   ·rw [if_pos h3, if_pos ⟨h3.1, by omega⟩]
   ·rw [if_neg h3, if_neg (by omega)]
theorem getD_out {L : List Int} {x : Nat} (h : L.length ≤ x) : L.getD x 0 = 0 := by rw [List.getD_eq_getElem?_getD, List.getElem?_eq_none h]; rfl
theorem wave_bend {w k X X' : Nat} {L : List Int} {Y Y' : Int} (h : WaveX w L k X Y) (hX : X + 8 ≤ X') (hw : X' < w) (hy : Y' = Y - 1 ∨ Y' = Y ∨ Y' = Y + 1) : WaveX w (setR L X' w Y') (k + 1) X' Y' := by
 have hy2 := h.y
 have hl := h.len
 have at' : ∀ j, j < w → (setR L X' w Y').getD j 0 = if X' ≤ j then Y' else L.getD j 0 := fun j hj => by
  rw [setR_at (by omega)]
  by_cases e : X' ≤ j
  ·rw [if_pos ⟨e, hj⟩, if_pos e]
  ·rw [if_neg (fun q => e q.1), if_neg e]
 have hcnt : nbF (setR L X' w Y') w ≤ nbF L w + 1 := by
  have h1 : nbF (setR L X' w Y') X' = nbF L X' := nb_congr fun j hj => by rw [at' j (by omega), if_neg (by omega)]
  have h2 := nb_mono L (show X' ≤ w by omega)
  have h3 : nbF (setR L X' w Y') (X' + 1) ≤ nbF (setR L X' w Y') X' + 1 := by
   simp only [nbF]; split <;> omega
  have h4 : ∀ b, X' < b → b ≤ w → nbF (setR L X' w Y') b = nbF (setR L X' w Y') (X' + 1) := by
   intro b
   induction b with
   | zero => intro q _; omega
   | succ b ih =>
    intro q1 q2
    by_cases e : b = X'
    ·subst e; rfl
    ·rw [← ih (by omega) (by omega)]
     simp only [nbF]
     rw [if_pos (Or.inr (by rw [at' _ (by omega), at' _ (by omega), if_pos (by omega), if_pos (by omega)])), Nat.add_zero]
  rw [h4 w hw (Nat.le_refl _)]
  omega
 have hcn := h.cnt
 refine ⟨⟨by rw [setR_len]; exact hl, fun x hx => ?_, fun x => ?_, ?_, fun x hx => ?_, by omega⟩, fun i hi hiw => ?_, by omega, by omega⟩
 ·rw [at' _ hx, at' _ (by omega)]
  have hn := h.near x hx
  by_cases e1 : X' ≤ x
  ·rw [if_pos e1, if_pos (by omega)]; omega
  ·by_cases e2 : X' ≤ x + 1
   ·rw [if_neg e1, if_pos e2, h.tail x (by omega) (by omega)]; omega
   ·rw [if_neg e1, if_neg e2]; exact hn
 ·by_cases hx : x < w
  ·rw [at' _ hx]
   have := h.low x
   split <;> omega
  ·rw [getD_out (by rw [setR_len]; omega)]; omega
 ·rw [at' _ (by omega), if_neg (by omega)]; exact h.zero
 ·rw [at' _ (by omega), at' _ (by omega), at' _ (by omega)]
  by_cases e1 : X' ≤ x + 1
  ·right; rw [if_pos e1, if_pos (by omega)]
  ·by_cases e2 : X' ≤ x + 2
   ·left; rw [if_neg (by omega), if_neg e1, h.tail x (by omega) (by omega), h.tail (x + 1) (by omega) (by omega)]
   ·rw [if_neg (by omega), if_neg e1, if_neg e2]; exact h.bend x hx
 ·rw [at' _ hiw, if_pos hi]
end Go.Am

namespace Go.Am
open Go
attribute [local irreducible] Wp WpO WpX WpE
theorem w8 {x : Int} (h : 0 ≤ x ∧ x < 256) : IntKind.u8.wrap x = x := by
 simp only [IntKind.wrap, IntKind.bits, IntKind.signed]
 simp
 omega
theorem u8q (c : UInt8) : IntKind.u8.wrap ((c.toNat : Int).tdiv 16) = ((c.toNat / 16 : Nat) : Int) := by
 rw [show (c.toNat : Int).tdiv 16 = ((c.toNat / 16 : Nat) : Int) from rfl]
 have := c.toNat_lt
 exact w8 (by omega)
theorem natm (a k : Nat) (hk : 0 < k) (ha : a < 2 ^ 40) : IntKind.i64.wrap ((a : Int).tmod (k : Int)) = ((a % k : Nat) : Int) := by
 rw [show (a : Int).tmod (k : Int) = ((a % k : Nat) : Int) from rfl]
 have := Nat.mod_le a k
 exact w64 (by omega)
def lineL (lo : Nat) (L : List Int) (i k : Nat) : List Int := (List.range L.length).map fun x => 5 + (lo : Int) + 36 * i + 6 * k + L.getD x 0
def staveL (lo : Nat) (L : List Int) (i : Nat) : List (List Int) := (List.range 5).map (lineL lo L i)
structure StvR (H : AHeap) (sp : AVal) (ls : List (List Int)) (B : Nat) : Prop where
 it : ∃ r ps e, sp = .slice r 0 ls.length none 1 ∧ HasRow H r ps true e ∧ e / 2 = 25 ∧ ps.length = ls.length ∧ B ≤ r ∧ ∀ j (h : j < ls.length), ∃ rj, ps[j]? = some (.slice rj 0 ls[j].length (some ls[j].length) 1) ∧ HasRow H rj (cellsI ls[j]) true (2 * 3) ∧ B ≤ rj
theorem StvR.keep {H H' : AHeap} {sp : AVal} {ls : List (List Int)} {B : Nat} (h : StvR H sp ls B) (hn : H.n ≤ H'.n) (hg : ∀ s cs e, s < H.n → B ≤ s → H.get s = .row cs true e → (e / 2 = 25 ∨ e = 2 * 3) → H'.get s = H.get s) : StvR H' sp ls B := by
 obtain ⟨r, ps, e, h1, h2, h3, h4, h5, h6⟩ := h.it
 refine ⟨r, ps, e, h1, ⟨Nat.lt_of_lt_of_le h2.lt hn, by rw [hg r ps e h2.lt h5 h2.get (Or.inl h3)]; exact h2.get⟩, h3, h4, h5, fun j hj => ?_⟩
 obtain ⟨rj, a1, a2, a3⟩ := h6 j hj
 exact ⟨rj, a1, ⟨Nat.lt_of_lt_of_le a2.lt hn, by rw [hg rj _ _ a2.lt a3 a2.get (Or.inr rfl)]; exact a2.get⟩, a3⟩
class RowLt (p : AVal) (B : Nat) : Prop where
 lt : ∀ r off len cap sz, p = .slice r off len cap sz → r < B
structure Lns (H : AHeap) (ps : List AVal) (ls : List (List Int)) (B : Nat) : Prop where
 len : ps.length = ls.length
 it : ∀ j (h : j < ls.length), ∃ rj, ps[j]? = some (.slice rj 0 ls[j].length (some ls[j].length) 1) ∧ HasRow H rj (cellsI ls[j]) true (2 * 3) ∧ B ≤ rj
theorem Lns.keep {H H' : AHeap} {ps : List AVal} {ls : List (List Int)} {B : Nat} (h : Lns H ps ls B) (hn : H.n ≤ H'.n) (hg : ∀ s cs, s < H.n → B ≤ s → H.get s = .row cs true (2 * 3) → H'.get s = H.get s) : Lns H' ps ls B := ⟨h.len, fun j hj => by
 obtain ⟨rj, a1, a2, a3⟩ := h.it j hj
 exact ⟨rj, a1, ⟨Nat.lt_of_lt_of_le a2.lt hn, by rw [hg rj _ a2.lt a3 a2.get]; exact a2.get⟩, a3⟩⟩
theorem Lns.snoc {H : AHeap} {ps : List AVal} {ls : List (List Int)} {B r : Nat} {l : List Int} (h : Lns H ps ls B) (hr : HasRow H r (cellsI l) true (2 * 3)) (hB : B ≤ r) : Lns H (ps ++ [.slice r 0 l.length (some l.length) 1]) (ls ++ [l]) B := by
 refine ⟨by simp [h.len], fun j hj => ?_⟩
 have hl := h.len
 by_cases e : j < ls.length
 ·obtain ⟨rj, a1, a2, a3⟩ := h.it j e
  rw [List.getElem_append_left e]
  exact ⟨rj, by rw [List.getElem?_append_left (by omega)]; exact a1, a2, a3⟩
 ·have ej : j = ls.length := by simp at hj; omega
  subst ej
  simp only [List.getElem_append_right (Nat.le_refl _), Nat.sub_self, List.getElem_cons_zero]
  exact ⟨r, by rw [← hl, List.getElem?_append_right (Nat.le_refl _), Nat.sub_self]; rfl, hr, hB⟩
theorem Lns.stv {H : AHeap} {sp : AVal} {ps : List AVal} {ls : List (List Int)} {B : Nat} (h : Lns H ps ls B) (ho : OwnS H sp 1 ls.length ps 25) (h0 : 0 < ls.length) (hf : ∀ r off len cap sz, sp = .slice r off len cap sz → B ≤ r) : StvR H sp ls B := by
 rcases ho.it with ⟨_, h1, _⟩ | ⟨r, e, h1, h2, h3, h4, h5, h6⟩
 ·omega
 ·exact ⟨r, ps, e, h1, ⟨h2, h3⟩, h4, h.len, hf _ _ _ _ _ h1, h.it⟩
end Go.Am

namespace Go.Am
open Go
open Nat renaming reduceEqDiff → qe, reduceAdd → qz
open Int renaming reduceBEq → qn, reduceBNe → qq
attribute [local irreducible] Wp WpO WpX WpE
theorem Wave.mono {w k k' : Nat} {L : List Int} (h : Wave w L k) (hk : k ≤ k') : Wave w L k' := ⟨h.len, h.near, fun x => by have := h.low x; omega, h.zero, h.bend, h.few⟩
theorem cellsB_takeW (l : List UInt8) (n : Nat) : (cellsB l).take n = cellsB (l.take n) := by simp [cellsB, List.map_take]
section
variable {call : ACall} {fr : AFrame} {H : AHeap} {K : AVal → AHeap → Prop}
theorem WpX.mkR {e : TypeId} {x y : ROpd} {k k' : IntKind} {n : Nat} (hx : x.ev fr = .int k (n : Int)) (hy : y.ev fr = .int k' (n : Int)) (hn : n ≤ 2 ^ 40) (h : K (.slice H.n 0 n (some n) 1) (H.push (.row (cellsI (List.replicate n 0)) true (2 * e)))) : WpX (.makeSlice e [.int .i64 0] 8 x y) call fr H K := by
 refine WpX.now (exec_mk hx hy (by omega)) ?_
 rw [Int.toNat_natCast, mk_ints]
 exact h
theorem WpX.stR {a x : ROpd} {r j : Nat} {l : List Int} {b : Int} {e : TypeId} (ha : a.ev fr = .ptr r j) (hx : x.ev fr = .int .i64 b) [hg : HasRow H r (cellsI l) true e] (hj : j < l.length) (h : K aundef (H.set r (.row (cellsI (l.set j b)) true e))) : WpX (.store 1 a x) call fr H K := by
 refine WpX.store ha hx rfl hg.lt hg.get (by simp only [AVal.cells, List.length_singleton, cellsI_length]; omega) rfl ?_
 rw [← set_ints] at h
 exact h
end
theorem row_ints {H : AHeap} {r n : Nat} {l : List Int} {w : Bool} {e : TypeId} (h : HasRow H r (cellsI l) w e) (hn : l.length = n) : IntsI H (.slice r 0 n (some n) 1) l := by
 subst hn
 exact ⟨Or.inr ⟨r, 0, some l.length, cellsI l, w, e, rfl, h.lt, h.get, by rw [cellsI_length]; omega, by rw [List.drop_zero, Nat.mul_one, ← cellsI_length l, List.take_length], Nat.le_refl _⟩⟩
instance row_one {H : AHeap} {r : Nat} {a : AVal} {rw : Bool} {ty : TypeId} [h : HasRow H r [a] rw ty] : SliceAt H (.slice r 0 1 (some 1) 1) 1 1 [a] := ⟨Or.inr ⟨r, 0, some 1, _, rw, ty, rfl, h.lt, h.get, by simp, rfl, Nat.le_refl _⟩⟩
def fillI (f : Nat → Int) (x n : Nat) : List Int := (List.range n).map fun t => if t < x then f t else 0
theorem fillI_len (f : Nat → Int) (x n : Nat) : (fillI f x n).length = n := by simp [fillI]
theorem fillI_zero (f : Nat → Int) (n : Nat) : fillI f 0 n = List.replicate n 0 := by
 apply List.ext_getElem <;> simp [fillI]
theorem fillI_set {f : Nat → Int} {x n : Nat} : (fillI f x n).set x (f x) = fillI f (x + 1) n := by
 apply List.ext_getElem
 ·simp [fillI]
 ·intro j h1 h2
  rw [List.getElem_set]
  simp only [fillI, List.getElem_map, List.getElem_range]
  by_cases e : x = j
  ·subst e; rw [if_pos rfl, if_pos (by omega)]
  ·rw [if_neg e]
   by_cases h3 : j < x
   ·rw [if_pos h3, if_pos (by omega)]
   ·rw [if_neg h3, if_neg (by omega)]
theorem fillI_all (f : Nat → Int) (n : Nat) : fillI f n n = (List.range n).map f := by
 unfold fillI
 apply List.map_congr_left
 intro t ht
 rw [if_pos (List.mem_range.1 ht)]
theorem ExtP.setN {a b : AHeap} {p : AVal} {s : Nat} {o : AObj} (h : ExtP a b p) (hs : a.n ≤ s) : ExtP a (b.set s o) p := ⟨h.n, fun r hr hp => by rw [set_get_ne (by omega)]; exact h.get r hr hp⟩
theorem ExtP.pushN {a b : AHeap} {p : AVal} {o : AObj} (h : ExtP a b p) : ExtP a (b.push o) p := ⟨by have := h.n; simp only [AHeap.push]; omega, fun r hr hp => by have := h.n; rw [push_get_lt (by omega)]; exact h.get r hr hp⟩
theorem ExtP.other {a b c : AHeap} {p q : AVal} (h : ExtP a b p) (k : ExtP b c q) (hq : ∀ r off len cap sz, q = .slice r off len cap sz → a.n ≤ r) : ExtP a c p := ⟨Nat.le_trans h.n k.n, fun r hr hp => by
 rw [k.get r (Nat.lt_of_lt_of_le hr h.n) ⟨fun r' _ _ _ _ e => by have := hq _ _ _ _ _ e; omega⟩]
 exact h.get r hr hp⟩
theorem OwnS.tne {H : AHeap} {p : AVal} {sz n s : Nat} {cs cs' : List AVal} {e e' : TypeId} {rw : Bool} (h : OwnS H p sz n cs e) (hg : H.get s = .row cs' rw e') (hne : e' / 2 ≠ e) : RowNe p s := ⟨fun r off len cap sz' q => by
 rcases h.it with ⟨rfl, _⟩ | ⟨r2, e2, rfl, h2, h3, h4, _⟩
 ·cases q
 ·cases q
  intro q; subst q
  rw [hg] at h3; cases h3
  exact hne h4⟩
structure Drw (P : List UInt8) (w h : Nat) (D : Nat → Nat → Prop) : Prop where
 it : ∀ x y, x < w → y < h → (P.getD (y * w + x) 0 = 1 ↔ D x y)
theorem Drw.congr {P : List UInt8} {w h : Nat} {D E : Nat → Nat → Prop} (d : Drw P w h D) (hE : ∀ x y, x < w → y < h → (D x y ↔ E x y)) : Drw P w h E := ⟨fun x y hx hy => by rw [← hE x y hx hy]; exact d.it x y hx hy⟩
theorem Drw.set {P : List UInt8} {w h x y : Nat} {D E : Nat → Nat → Prop} (d : Drw P w h D) (hl : P.length = w * h) (hx : x < w) (hy : y < h) (hE : ∀ x' y', x' < w → y' < h → (E x' y' ↔ D x' y' ∨ (x' = x ∧ y' = y))) : Drw (P.set (y * w + x) 1) w h E := ⟨fun x' y' hx' hy' => by
 have hlt : y * w + x < P.length := by rw [hl]; exact idx_lt hx hy
 rw [hE x' y' hx' hy']
 by_cases e : x' = x ∧ y' = y
 ·obtain ⟨rfl, rfl⟩ := e
  rw [List.getD_eq_getElem?_getD, List.getElem?_set_self hlt]
  exact ⟨fun _ => Or.inr ⟨rfl, rfl⟩, fun _ => rfl⟩
 ·have hne : y * w + x ≠ y' * w + x' := fun q => by
   obtain ⟨e1, e2⟩ := rct_at (y := y) hx
   obtain ⟨e3, e4⟩ := rct_at (y := y') hx'
   exact e ⟨by rw [← e3, ← q, e1], by rw [← e4, ← q, e2]⟩
  rw [List.getD_eq_getElem?_getD, List.getElem?_set_ne hne, ← List.getD_eq_getElem?_getD, d.it x' y' hx' hy']
  exact ⟨Or.inl, fun q => q.elim id fun q => absurd q e⟩⟩
def DrU (lo : Nat) (L : List Int) (i k x0 x y : Nat) : Prop := ∃ j m, m < 5 ∧ (j < i ∨ (j = i ∧ (m < k ∨ (m = k ∧ x < x0)))) ∧ (y : Int) = 5 + (lo : Int) + 36 * (j : Int) + 6 * (m : Int) + L.getD x 0
theorem DrU.none {lo w h n : Nat} {L : List Int} : Drw (List.replicate n 0) w h (DrU lo L 0 0 0) := ⟨fun x y _ _ => by
 have e : (List.replicate n (0 : UInt8)).getD (y * w + x) 0 = 0 := by
  rw [List.getD_eq_getElem?_getD, List.getElem?_replicate]; split <;> rfl
 rw [e]
 exact ⟨fun q => (by cases q), fun ⟨j, m, _, q, _⟩ => (by omega)⟩⟩
theorem DrU.stave {lo i x y : Nat} {L : List Int} : DrU lo L i 5 0 x y ↔ DrU lo L (i + 1) 0 0 x y := by
 constructor
 ·rintro ⟨j, m, h1, h2, h3⟩; exact ⟨j, m, h1, by omega, h3⟩
 ·rintro ⟨j, m, h1, h2, h3⟩; exact ⟨j, m, h1, by omega, h3⟩
theorem DrU.line {lo i k x y w : Nat} {L : List Int} (hx : x < w) : DrU lo L i k w x y ↔ DrU lo L i (k + 1) 0 x y := by
 constructor
 ·rintro ⟨j, m, h1, h2, h3⟩; exact ⟨j, m, h1, by omega, h3⟩
 ·rintro ⟨j, m, h1, h2, h3⟩; exact ⟨j, m, h1, by omega, h3⟩
theorem DrU.next {lo i k x fx x' y' : Nat} {L : List Int} (hk : k < 5) (hf : (fx : Int) = 5 + (lo : Int) + 36 * (i : Int) + 6 * (k : Int) + L.getD x 0) : DrU lo L i k (x + 1) x' y' ↔ DrU lo L i k x x' y' ∨ (x' = x ∧ y' = fx) := by
 constructor
 ·rintro ⟨j, m, h1, h2, h3⟩
  by_cases e : j = i ∧ m = k ∧ x' = x
  ·obtain ⟨rfl, rfl, rfl⟩ := e
   exact Or.inr ⟨rfl, by omega⟩
  ·exact Or.inl ⟨j, m, h1, by omega, h3⟩
 ·rintro (⟨j, m, h1, h2, h3⟩ | ⟨rfl, rfl⟩)
  ·exact ⟨j, m, h1, by omega, h3⟩
  ·exact ⟨i, k, hk, by omega, hf⟩
structure WavyR (H H' : AHeap) (v : AVal) (w h n : Nat) (L : List Int) (lo hi : Nat) (P : List UInt8) (gp op : AVal) (cells : List AVal) (B : Nat) : Prop where
 ev : v = .tuple [.agg [.int .i64 (w : Int), .int .i64 (h : Int), gp], op]
 w1 : 40 ≤ w
 w2 : w ≤ 159
 n1 : 1 ≤ n
 n2 : n ≤ 3
 wave : Wave w L 14
 lo1 : lo ≤ 14
 hi1 : hi ≤ 14
 lo2 : ∀ x, -(lo : Int) ≤ L.getD x 0
 hi2 : ∀ x, L.getD x 0 ≤ (hi : Int)
 eh : h = 36 * n + lo + hi - 1
 ok : Ok w h P
 hgp : BytesI H' gp P
 wr : WrS H' gp
 fr : FreshS H gp
 hop : SliceAt H' op 1 n cells
 stv : ∀ j, j < n → ∃ sp, cells[j]? = some sp ∧ StvR H' sp (staveL lo L j) B
 B1 : H.n ≤ B
 B2 : RowLt gp B
 B3 : ∀ r off len cap sz, op = .slice r off len cap sz → B ≤ r
 ext : Ext H H'
 drw : Drw P w h (DrU lo L n 0 0)
theorem K_Wavy {c c2 : UInt8} {p : AVal} {H : AHeap} {bends : List UInt8} [hp : BytesI H p bends] : Con ext prog 2 35 [.int .u8 (c.toNat : Int), .int .u8 (c2.toNat : Int), p] H fun v H' => ∃ w h n L lo hi P gp op cells B, WavyR H H' v w h n L lo hi P gp op cells B := by
 refine con_of (show prog 35 = some c35 from rfl) rfl rfl fun n0 hn => ?_
 haveI := hp.one
 have t120 : IntKind.i64.wrap ((c.toNat : Int).tmod 120) = ((c.toNat % 120 : Nat) : Int) := u8m c 120 (by decide)
 have hc120 := Nat.mod_lt c.toNat (show 0 < 120 by decide)
 obtain ⟨w, hw⟩ : ∃ w, 40 + c.toNat % 120 = w := ⟨_, rfl⟩
 have w1 : IntKind.i64.wrap (40 + ((c.toNat % 120 : Nat) : Int)) = (w : Int) := by rw [w64 (by omega)]; omega
 obtain ⟨B, hB⟩ : ∃ k, min bends.length 14 = k := ⟨_, rfl⟩
 have hmn : (if (14 : Int) < ((bends.length : Nat) : Int) then 14 else ((bends.length : Nat) : Int)) = (B : Int) := by rw [← hB]; exact min_nat (b := 14)
 refine sq ?_
 refine Fr.region fun KF hK1 => ?_
 refine nw ?_
 refine mN ?_
 refine WpO.nil (hK1 _ _ ?_)
 refine sq ?_
 refine Fr.region fun KF hK2 => ?_
 refine mI ?_
 refine b0 ?_
 refine Fo.now rfl rfl (by simp only [↓nrmL, nrmZ, qe, ↓reduceIte, qz, qn, qq, t120, w1]; rfl) ?_
 refine bn rfl rfl rfl (by simp only [↓nrmL, nrmZ, qe, ↓reduceIte, qz, qn, qq, t120, w1]; rfl) ?_
 refine mI ?_
 refine WpO.nil (hK2 _ _ ?_)
 refine sq ?_
 refine Fr.region fun KF hK3 => ?_
 refine mI ?_
 refine WpO.do (WpX.mkI rfl rfl rfl (by omega) fun rp H1 eH1 hi1 hf1 hw1 hx1 => ?_)
 haveI := hi1.one
 refine mv ?_
 refine WpO.nil (hK3 _ _ ?_)
 refine sq ?_
 refine Fr.region fun KF hK4 => ?_
 refine mI ?_
 refine mI ?_
 refine WpO.nil (hK4 _ _ ?_)
 refine Wp.seqE (σ := List Int) (fun _ => [(1, .int .u8 (c2.toNat : Int)), (6, .ptr H.n 0), (8, .int .i64 (w : Int)), (9, rp)]) (fun L H' => Wave w L 14 ∧ IntsI H' rp L ∧ ExtP H1 H' rp) ?_ ?_
 rotate_left
 ·skip
  refine sq ?_
  refine rg fun KF hKF => ?_
  refine mv ?_
  refine mv ?_
  refine ln (by simp only [↓nrmL, nrmK, qe, ↓reduceIte]; rfl) ?_
  refine Fo.now rfl rfl (by simp only [↓nrmL, nrmZ, qe, ↓reduceIte, qz, qn, qq, hmn, Bool.false_eq_true, if_false]; rfl) ?_
  refine Fo.pre (p := p) (b := B) rfl rfl (by omega) fun pv hpv hone hsub => ?_
  rw [cellsB_takeW] at hpv
  obtain ⟨bb, hbb⟩ : ∃ l, bends.take B = l := ⟨_, rfl⟩
  have hbl : bb.length = B := by rw [← hbb, List.length_take]; omega
  rw [hbb] at hpv
  haveI hpv2 : BytesI H1 pv bb := by unfold BytesI; rw [hbl]; exact hpv
  clear hpv
  haveI := hone
  have hsep : SepS pv rp := ⟨fun r off len cap sz r' off' len' cap' sz' e e' => by
   obtain ⟨o2, l2, c2, s2, e2⟩ := hsub _ _ _ _ _ e
   have h1 := hf1.ge _ _ _ _ _ e'
   have h2 : r < H.n := hp.lt e2
   simp only [AHeap.push] at h1
   omega⟩
  refine ln (by simp only [↓nrmL, nrmK, qe, ↓reduceIte]; rfl) ?_
  refine mI ?_
  refine nl hKF ?_
  refine Wp.block ?_
  dsimp only
  refine Wp.loopS (σ := Nat × Nat × Int × List Int) [10, 11, 13, 14, 38, 39, 40, 41, 42, 43, 44, 45, 46, 47, 48, 49, 50, 51, 52, 53, 54, 55, 56, 57, 58, 59, 60, 61, 62, 63, 64, 65, 66, 67, 68] (fun s => [(38, .int .i64 (s.1 : Int)), (11, .int .i64 (s.2.1 : Int)), (10, .int .i64 s.2.2.1)]) (fun H3 s H2 => s.1 ≤ B ∧ s.2.1 ≤ 200 ∧ IntsI H2 rp s.2.2.2 ∧ WrS H2 rp ∧ WaveX w s.2.2.2 s.1 s.2.1 s.2.2.1 ∧ ExtP0 H3 H2 rp) (fun s => B - s.1) (0, 0, 0, List.replicate w 0) rfl (fun _ => rfl) ⟨rfl, rfl, rfl, trivial⟩ ⟨Nat.zero_le _, Nat.zero_le _, hi1, hw1, waveX_zero w, inferInstance⟩ (by unfold fuel0 at hn; dsimp only; omega) ?_
  rintro ⟨i, X, Y, L⟩ g H2 ⟨hiB, hX, hL, hLw, hWv, ⟨hx2⟩⟩
  dsimp only at hiB hX hL hLw hWv
  haveI := hx2
  haveI : BytesI H2 pv bb := hpv2.keep hx2.n fun r _ _ _ _ e hr => hx2.get r hr ⟨fun r' _ _ _ _ e' hh => hsep.ne _ _ _ _ _ _ _ _ _ _ e e' hh.symm⟩
  simp only [↓nrmL, nrmZ, qe, ↓reduceIte, qz, qn, qq]
  cases hc : decide ((i : Int) < ((bb.length : Nat) : Int))
  ·have hd : i = B := by have := of_decide_eq_false hc; omega
   rw [hbl] at hc
   simp only [hc, hbl]
   refine sq ?_
   refine rg fun KF hKF => ?_
   refine bn rfl rfl rfl (by simp only [↓nrmL, nrmZ, qe, ↓reduceIte, qz, qn, qq, hc, hbl]; rfl) ?_
   refine nl hKF ?_
   refine sq ?_
   refine cf rfl ?_
   refine xi ?_
   dsimp only
   exact ⟨L, ⟨rfl, rfl, rfl, rfl, trivial⟩, hWv.toWave.mono (by omega), hL, hx2⟩
  have hib : i < bb.length := by have := of_decide_eq_true hc; omega
  obtain ⟨x, hx⟩ : ∃ x, bb[i] = x := ⟨_, rfl⟩
  have t16 : IntKind.i64.wrap ((x.toNat : Int).tmod 16) = ((x.toNat % 16 : Nat) : Int) := u8m x 16 (by decide)
  have h16 := Nat.mod_lt x.toNat (show 0 < 16 by decide)
  have w8' : IntKind.i64.wrap (8 + ((x.toNat % 16 : Nat) : Int)) = ((8 + x.toNat % 16 : Nat) : Int) := by rw [w64 (by omega)]; omega
  obtain ⟨X', hX'⟩ : ∃ X', X + (8 + x.toNat % 16) = X' := ⟨_, rfl⟩
  have wX : IntKind.i64.wrap ((X : Int) + ((8 + x.toNat % 16 : Nat) : Int)) = (X' : Int) := by rw [wa (by omega), hX']
  rw [hbl] at hc
  cases hge : decide ((X' : Int) ≥ (w : Int))
  rotate_left
  ·skip
   simp only [hc, hbl, hx, t16, w8', wX, hge]
   repeat first | refine mI ?_ | refine bn rfl rfl rfl (by simp only [↓nrmL, nrmZ, qe, ↓reduceIte, qz, qn, qq, hc, hbl, hx, t16, w8', wX, hge]; rfl) ?_ | refine b0 ?_ | (refine Fo.idx (by simp only [↓nrmL, nrmK, qe, ↓reduceIte]; rfl) rfl ?_ (by simp only [↓nrmL, nrmZ, qe, ↓reduceIte, qz, qn, qq, hc, hbl, hx, t16, w8', wX, hge]; rfl) ?_; (focus omega)) | (refine Fo.ldB rfl ?_ (by simp only [↓nrmL, nrmZ, qe, ↓reduceIte, qz, qn, qq, hc, hbl, hx, t16, w8', wX, hge]; rfl) ?_; (focus omega)) | refine Fo.now rfl rfl (by simp only [↓nrmL, nrmZ, qe, ↓reduceIte, qz, qn, qq, hc, hbl, hx, t16, w8', wX, hge]; rfl) ?_ | refine nl hKF ?_ | refine sq ?_ | refine rg fun KF hKF => ?_ | refine ct rfl ?_ | refine sk ?_ | refine Wp.block ?_ | refine xi ?_ | dsimp only
   exact ⟨L, ⟨rfl, rfl, rfl, rfl, trivial⟩, hWv.toWave.mono (by omega), hL, hx2⟩
  have hlt : X' < w := by have := of_decide_eq_false hge; omega
  have t3 := u8q x
  have t3b : IntKind.i64.wrap (((x.toNat / 16 : Nat) : Int).tmod 3) = ((x.toNat / 16 % 3 : Nat) : Int) := natm (x.toNat / 16) 3 (by decide) (by have := x.toNat_lt; omega)
  have h3 := Nat.mod_lt (x.toNat / 16) (show 0 < 3 by decide)
  have wm1 : IntKind.i64.wrap (((x.toNat / 16 % 3 : Nat) : Int) - 1) = ((x.toNat / 16 % 3 : Nat) : Int) - 1 := w64 (by omega)
  have hYr := hWv.y
  obtain ⟨Y', hY'⟩ : ∃ Y', Y + (((x.toNat / 16 % 3 : Nat) : Int) - 1) = Y' := ⟨_, rfl⟩
  have wY : IntKind.i64.wrap (Y + (((x.toNat / 16 % 3 : Nat) : Int) - 1)) = Y' := by rw [w64 (by omega), hY']
  have hwb := wave_bend hWv (X' := X') (Y' := Y') (by omega) hlt (by omega)
  have hLl := hWv.len
  simp only [hc, hbl, hx, t16, w8', wX, hge, t3, t3b, wm1, wY]
  repeat first | refine mI ?_ | refine bn rfl rfl rfl (by simp only [↓nrmL, nrmZ, qe, ↓reduceIte, qz, qn, qq, hc, hbl, hx, t16, w8', wX, hge, t3, t3b, wm1, wY]; rfl) ?_ | refine b0 ?_ | (refine Fo.idx (by simp only [↓nrmL, nrmK, qe, ↓reduceIte]; rfl) rfl ?_ (by simp only [↓nrmL, nrmZ, qe, ↓reduceIte, qz, qn, qq, hc, hbl, hx, t16, w8', wX, hge, t3, t3b, wm1, wY]; rfl) ?_; (focus omega)) | (refine Fo.ldB rfl ?_ (by simp only [↓nrmL, nrmZ, qe, ↓reduceIte, qz, qn, qq, hc, hbl, hx, t16, w8', wX, hge, t3, t3b, wm1, wY]; rfl) ?_; (focus omega)) | refine Fo.now rfl rfl (by simp only [↓nrmL, nrmZ, qe, ↓reduceIte, qz, qn, qq, hc, hbl, hx, t16, w8', wX, hge, t3, t3b, wm1, wY]; rfl) ?_ | refine nl hKF ?_ | refine sq ?_ | refine rg fun KF hKF => ?_ | refine ct rfl ?_ | refine cf rfl ?_ | refine sk ?_ | refine Wp.block ?_ | dsimp only
  refine Wp.loopS [14, 59, 60, 61, 62, 63, 64, 65, 66, 67] (fun j : Nat => [(14, .int .i64 j)]) (fun H3 j H4 => X' ≤ j ∧ j ≤ w ∧ IntsI H4 rp (setR L X' j Y') ∧ WrS H4 rp ∧ ExtP0 H3 H4 rp) (fun j => w - j) X' rfl (fun _ => rfl) ⟨rfl, trivial⟩ ⟨Nat.le_refl _, by omega, by rw [setR_zero]; exact hL, hLw, inferInstance⟩ (by unfold fuel0 at hn; omega) ?_
  rintro j g2 H4 ⟨hj1, hj2, hL4, hLw4, ⟨hx4⟩⟩
  simp only [↓nrmL, nrmZ, qe, ↓reduceIte, qz, qn, qq]
  cases hcj : decide ((j : Int) < (w : Int))
  ·have hjw : j = w := by have := of_decide_eq_false hcj; omega
   have hwi := wa1 (a := i) (by omega)
   repeat first | refine mI ?_ | refine bn rfl rfl rfl (by simp only [↓nrmL, nrmZ, qe, ↓reduceIte, qz, qn, qq, hcj]; rfl) ?_ | refine b0 ?_ | refine nl hKF ?_ | refine sq ?_ | refine rg fun KF hKF => ?_ | refine cf rfl ?_ | refine xi ?_ | dsimp only
   refine ⟨(i + 1, X', Y', setR L X' w Y'), by dsimp only; omega, ⟨by simp only [↓nrmL, nrmZ, qe, ↓reduceIte, qz, qn, qq]; rw [hwi], rfl, rfl, trivial⟩, by dsimp only; omega, by dsimp only; omega, by dsimp only; rw [← hjw]; exact hL4, hLw4, hwb, ⟨hx2.trans hx4⟩⟩
  have hjw : j < w := by have := of_decide_eq_true hcj; omega
  have hwj := wa1 (a := j) (by omega)
  have hsl := setR_len L X' j Y'
  repeat first | refine mI ?_ | refine mv ?_ | refine bn rfl rfl rfl (by simp only [↓nrmL, nrmZ, qe, ↓reduceIte, qz, qn, qq, hcj]; rfl) ?_ | (refine Fo.idx (by simp only [↓nrmL, nrmK, qe, ↓reduceIte]; rfl) rfl ?_ (by simp only [↓nrmL, nrmZ, qe, ↓reduceIte, qz, qn, qq, hcj]; rfl) ?_; (focus omega)) | refine nl hKF ?_ | refine sq ?_ | refine rg fun KF hKF => ?_ | refine ct rfl ?_ | refine sk ?_ | refine Wp.block ?_
  refine WpO.do' (WpX.stI (p := rp) (j := j) (l := setR L X' j Y') rfl rfl (by omega) fun H5 hb5 hw5 hx5 => ?_)
  rw [setR_set hj1] at hb5
  haveI := hx5
  repeat first | refine mI ?_ | refine b0 ?_ | refine nl hKF ?_ | refine rg fun KF hKF => ?_ | dsimp only
  refine ⟨j + 1, by omega, ⟨by simp only [↓nrmL, nrmZ, qe, ↓reduceIte, qz, qn, qq]; rw [hwj], trivial⟩, by omega, by omega, hb5, hw5, ⟨hx4.trans hx5⟩⟩
 rintro L g H2 ⟨hWv, hL, hx2⟩
 have hLl := hWv.len
 haveI : ExtP H1 H2 rp := hx2
 haveI : Z0 L := ⟨by omega, hWv.zero, by omega⟩
 haveI := hL.one
 obtain ⟨mn1, mn2⟩ := min_in (c := 14) (by omega) (fun i => (hWv.low i).1) L.length
 obtain ⟨mx1, mx2⟩ := max_in (c := 14) (by omega) (fun i => (hWv.low i).2) L.length
 obtain ⟨lo, hlo⟩ : ∃ k : Nat, minI L L.length = -(k : Int) := ⟨(-(minI L L.length)).toNat, by omega⟩
 obtain ⟨hi, hhi⟩ : ∃ k : Nat, maxI L L.length = (k : Int) := ⟨(maxI L L.length).toNat, by omega⟩
 have hlo2 : ∀ x, -(lo : Int) ≤ L.getD x 0 := fun x => by
  by_cases h : x < L.length
  ·have := min_le (l := L) L.length x h; omega
  ·rw [getD_out (by omega)]; omega
 have hhi2 : ∀ x, L.getD x 0 ≤ (hi : Int) := fun x => by
  by_cases h : x < L.length
  ·have := max_ge (l := L) L.length x h; omega
  ·rw [getD_out (by omega)]; omega
 have tn : IntKind.i64.wrap ((c2.toNat : Int).tmod 3) = ((c2.toNat % 3 : Nat) : Int) := u8m c2 3 (by decide)
 have h3 := Nat.mod_lt c2.toNat (show 0 < 3 by decide)
 obtain ⟨n, hndef⟩ : ∃ n, 1 + c2.toNat % 3 = n := ⟨_, rfl⟩
 have wn : IntKind.i64.wrap (1 + ((c2.toNat % 3 : Nat) : Int)) = (n : Int) := by rw [w64 (by omega)]; omega
 obtain ⟨h, hh⟩ : ∃ h, 36 * n + lo + hi - 1 = h := ⟨_, rfl⟩
 have f1 : IntKind.i64.wrap ((hi : Int) - -(lo : Int)) = ((hi + lo : Nat) : Int) := by rw [w64 (by omega)]; omega
 have f2 : IntKind.i64.wrap (5 + ((hi + lo : Nat) : Int)) = ((5 + (hi + lo) : Nat) : Int) := by rw [w64 (by omega)]; omega
 have f3 : IntKind.i64.wrap ((n : Int) * 24) = ((n * 24 : Nat) : Int) := by rw [w64 (by omega)]; omega
 have f4 : IntKind.i64.wrap (((5 + (hi + lo) : Nat) : Int) + ((n * 24 : Nat) : Int)) = ((5 + (hi + lo) + n * 24 : Nat) : Int) := wa (by omega)
 have f5 : IntKind.i64.wrap ((n : Int) - 1) = ((n - 1 : Nat) : Int) := ws1 (by omega) (by omega)
 have f6 : IntKind.i64.wrap (((n - 1 : Nat) : Int) * 12) = (((n - 1) * 12 : Nat) : Int) := by rw [w64 (by omega)]; omega
 have f7 : IntKind.i64.wrap (((5 + (hi + lo) + n * 24 : Nat) : Int) + (((n - 1) * 12 : Nat) : Int)) = ((5 + (hi + lo) + n * 24 + (n - 1) * 12 : Nat) : Int) := wa (by omega)
 have f8 : IntKind.i64.wrap (((5 + (hi + lo) + n * 24 + (n - 1) * 12 : Nat) : Int) + 6) = (h : Int) := by rw [w64 (by omega)]; omega
 have hwh : w * h ≤ 159 * 640 := Nat.mul_le_mul (by omega) (by omega)
 have f9 : IntKind.i64.wrap ((w : Int) * (h : Int)) = ((w * h : Nat) : Int) := wm (by omega)
 simp only [↓nrmL, nrmZ, qe, ↓reduceIte, qz, qn, qq]
 repeat first | refine mI ?_ | refine mv ?_ | refine bn rfl rfl rfl (by simp only [↓nrmL, nrmZ, qe, ↓reduceIte, qz, qn, qq, hlo, hhi, tn, wn, f1, f2, f3, f4, f5, f6, f7, f8, f9]; rfl) ?_ | refine b0 ?_ | (refine Fo.pcall (v' := ?_) hn rfl (by simp only [↓nrmL, nrmZ, qe, ↓reduceIte, qz, qn, qq, hlo, hhi, tn, wn, f1, f2, f3, f4, f5, f6, f7, f8, f9, List.map]; rfl) rfl ?hv fun _ _ => ?_; case hv => (simp only [↓nrmL, nrmZ, qe, ↓reduceIte, qz, qn, qq, hlo, hhi, tn, wn, f1, f2, f3, f4, f5, f6, f7, f8, f9]; rfl)) | refine Fo.now rfl rfl (by simp only [↓nrmL, nrmZ, qe, ↓reduceIte, qz, qn, qq, hlo, hhi, tn, wn, f1, f2, f3, f4, f5, f6, f7, f8, f9]; rfl) ?_ | refine nl hKF ?_ | refine sq ?_ | refine rg fun KF hKF => ?_
 refine WpO.do (WpX.mkB rfl rfl rfl (by omega) fun gp H3 e3 hg3 hf3 hw3 hx3 => ?_)
 haveI := hg3.one
 have hle0 : H.n ≤ H3.n := by have := (inferInstance : Ext0 H H3).ext.n; exact this
 repeat first | refine mI ?_ | refine mN ?_ | refine nw ?_ | (refine ob (cs' := ?_) ?hc ?_; case hc => (simp only [↓nrmL, nrmZ, qe, ↓reduceIte, qz, qn, qq]; rfl)) | refine so rfl (rfl : _ = AVal.agg _) rfl rfl rfl (by simp only [↓nrmL, nrmZ, qe, ↓reduceIte, qz, qn, qq]; rfl) ?_ | refine nl hKF ?_ | refine sq ?_ | refine rg fun KF hKF => ?_ | refine Wp.block ?_ | dsimp only
 refine Wp.loopS (σ := Nat × AVal) [20, 21, 22, 23, 24, 25, 97, 98, 99, 100, 101, 102, 103, 104, 105, 106, 107, 108, 109, 110, 111, 112, 113, 114, 115, 116, 117, 118, 119, 120, 121, 122, 123, 124, 125, 126, 127, 128, 129, 130, 131, 132, 133, 134, 135, 136, 137, 138, 139, 140, 141, 142, 143, 144, 145, 146, 147, 148, 149] (fun s => [(97, .int .i64 (s.1 : Int)), (20, s.2)]) (fun K s H2 => s.1 ≤ n ∧ ∃ P cells, BytesI H2 gp P ∧ P.length = w * h ∧ pxOk P = true ∧ Drw P w h (DrU lo L s.1 0 0) ∧ WrS H2 gp ∧ OwnS H2 s.2 1 s.1 cells 43 ∧ (∀ r off len cap sz, s.2 = .slice r off len cap sz → H3.n < r) ∧ (∀ j, j < s.1 → ∃ sp, cells[j]? = some sp ∧ StvR H2 sp (staveL lo L j) H3.n) ∧ ExtP0 K H2 gp) (fun s => n - s.1) (0, .nslice) rfl (fun _ => rfl) ⟨rfl, rfl, trivial⟩ ⟨Nat.zero_le _, _, [], inferInstance, List.length_replicate, pxOk_rep _, DrU.none, inferInstance, ⟨Or.inl ⟨rfl, rfl, rfl⟩⟩, fun _ _ _ _ _ e => (by cases e), fun j hj => absurd hj (Nat.not_lt_zero _), inferInstance⟩ (by unfold fuel0 at hn; dsimp only; omega) ?_
 rintro ⟨i, op⟩ g2 H5 ⟨hi5, P, cells, hP, hPl, hPo, hPd, hPw, hop, hopf, hst, ⟨hx5⟩⟩
 dsimp only at hi5 hop hopf hst hPd
 haveI := hx5
 haveI := hop.sl.one
 have hgplt : ∀ r off len cap sz, gp = .slice r off len cap sz → r < H3.n := fun r off len cap sz e => hg3.lt e
 have hKn := hx5.n
 simp only [AHeap.push, AHeap.set] at hKn
 haveI sopgp : SepS op gp := ⟨fun r off len cap sz r' off' len' cap' sz' e e' => by have := hopf _ _ _ _ _ e; have := hgplt _ _ _ _ _ e'; omega⟩
 simp only [↓nrmL, nrmZ, qe, ↓reduceIte, qz, qn, qq]
 cases hc : decide ((i : Int) < (n : Int))
 ·have hin : i = n := by have := of_decide_eq_false hc; omega
  subst hin
  have hHn : H.n < H3.n := by
   have h1 : LtN H.n H3 := inferInstance
   exact h1.lt
  haveI k6 : HasRow H5 H.n [.int .i64 0, .int .i64 0, .nslice] true (2 * 24) := inferInstance
  have hx05 : Ext H H5 := Ext0.ext
  repeat first | refine mv ?_ | refine Fo.ldN rfl rfl (by simp only [↓nrmL, nrmZ, qe, ↓reduceIte, qz, qn, qq, hc]; rfl) ?_ | refine bn rfl rfl rfl (by simp only [↓nrmL, nrmZ, qe, ↓reduceIte, qz, qn, qq, hc]; rfl) ?_ | refine so rfl (rfl : _ = AVal.agg _) rfl rfl rfl (by simp only [↓nrmL, nrmZ, qe, ↓reduceIte, qz, qn, qq, hc]; rfl) ?_ | refine nl hKF ?_ | refine sq ?_ | refine rg fun KF hKF => ?_ | refine cf rfl ?_ | refine rt ?_ | refine xi ?_ | dsimp only
  refine rz trivial ?_
  refine ⟨w, h, i, L, lo, hi, P, gp, op, cells, H3.n, rfl, by omega, by omega, by omega, by omega, hWv, by omega, by omega, hlo2, hhi2, by omega, ⟨by omega, by omega, hPl, hPo⟩, inferInstance, inferInstance, hf3.weak, ?_, fun j hj => ?_, hle0, ⟨hgplt⟩, fun r off len cap sz e => Nat.le_of_lt (hopf r off len cap sz e), Ext0.ext, hPd⟩
  ·haveI : RowNe op H.n := ⟨fun r _ _ _ _ e => by have := hopf _ _ _ _ _ e; omega⟩
   haveI := hop.sl
   exact inferInstance
  ·obtain ⟨sp, a1, a2⟩ := hst j hj
   exact ⟨sp, a1, a2.keep (Nat.le_refl _) fun s _ _ _ hs _ _ => set_get_ne (by omega)⟩
 have hin : i < n := by have := of_decide_eq_true hc; omega
 repeat first | refine mI ?_ | refine bn rfl rfl rfl (by simp only [↓nrmL, nrmZ, qe, ↓reduceIte, qz, qn, qq, hc]; rfl) ?_ | refine nw ?_ | refine nl hKF ?_ | refine sq ?_ | refine rg fun KF hKF => ?_ | refine ct rfl ?_ | refine sk ?_ | refine Wp.block ?_ | dsimp only
 refine Wp.loopS [23, 24, 25, 100, 101, 102, 103, 104, 105, 106, 107, 108, 109, 110, 111, 112, 113, 114, 115, 116, 117, 118, 119, 120, 121, 122, 123, 124, 125, 126, 127, 128, 129, 130, 131, 132, 133, 134, 135, 136, 137, 138, 139, 140, 141, 142, 143, 144] (fun k : Nat => [(100, .int .i64 k)]) (fun _ k H6 => k ≤ 5 ∧ ∃ P ps sp, BytesI H6 gp P ∧ P.length = w * h ∧ pxOk P = true ∧ Drw P w h (DrU lo L i k 0) ∧ WrS H6 gp ∧ HasRow H6 H5.n [sp] true (2 * 43) ∧ OwnS H6 sp 1 k ps 25 ∧ (∀ r off len cap sz, sp = .slice r off len cap sz → H5.n < r) ∧ Lns H6 ps ((List.range k).map (lineL lo L i)) (H5.n + 1) ∧ H5.n < H6.n ∧ ExtP H5 H6 gp) (fun k => 5 - k) 0 rfl (fun _ => rfl) ⟨rfl, trivial⟩ ⟨Nat.zero_le _, P, [], .nslice, inferInstance, hPl, hPo, hPd, inferInstance, inferInstance, ⟨Or.inl ⟨rfl, rfl, rfl⟩⟩, fun _ _ _ _ _ e => (by cases e), ⟨rfl, fun j hj => absurd hj (Nat.not_lt_zero _)⟩, by simp only [AHeap.push]; omega, (ExtP.refl _ _).pushN⟩ (by unfold fuel0 at hn; omega) ?_
 rintro k g3 H6 ⟨hk5, P, ps, sp, hP, hPl, hPo, hPd, hPw, hsv, hsp, hspf, hlns, hn6, hx6⟩
 haveI := hx6
 haveI := hsv
 haveI := hsp.sl.one
 haveI := hsp
 have hgpP := hP
 haveI : SepS gp sp := ⟨fun r off len cap sz r' off' len' cap' sz' e e' => by have := hspf _ _ _ _ _ e'; have := hgplt _ _ _ _ _ e; omega⟩
 haveI : SepS sp gp := ⟨fun r off len cap sz r' off' len' cap' sz' e' e => by have := hspf _ _ _ _ _ e'; have := hgplt _ _ _ _ _ e; omega⟩
 have hgp5 : RowNe gp H5.n := ⟨fun r _ _ _ _ e => by have := hgplt _ _ _ _ _ e; omega⟩
 haveI := hgp5
 simp only [↓nrmL, nrmZ, qe, ↓reduceIte, qz, qn, qq]
 cases hck : decide ((k : Int) < 5)
 ·have hke : k = 5 := by have := of_decide_eq_false hck; omega
  subst hke
  have hwi := wa1 (a := i) (by omega)
  haveI := hop
  haveI hop6 : OwnS H6 op 1 i cells 43 := inferInstance
  repeat first | refine mv ?_ | refine Fo.ldN rfl rfl (by simp only [↓nrmL, nrmZ, qe, ↓reduceIte, qz, qn, qq, hck]; rfl) ?_ | refine bn rfl rfl rfl (by simp only [↓nrmL, nrmZ, qe, ↓reduceIte, qz, qn, qq, hck]; rfl) ?_ | refine Fo.bslice rfl (by simp only [↓nrmL, nrmZ, qe, ↓reduceIte, qz, qn, qq, hck]; rfl) ?_ | refine nl hKF ?_ | refine sq ?_ | refine rg fun KF hKF => ?_ | refine cf rfl ?_ | refine xi ?_
  refine WpO.do (WpX.growX (p := op) (q := .slice H6.n 0 1 (some 1) 1) (k := 1) (new := [sp]) rfl rfl (by infer_instance) (by infer_instance) (by decide) (by decide) (by decide) (by omega) (by simp only [List.all_cons, (inferInstance : OneV sp).one, List.all_nil, Bool.and_self]) fun op' H9 ho2 hf2 hx2 => ?_)
  haveI := ho2.sl.one
  haveI := hx2
  refine mv ?_
  refine nl hKF ?_
  refine rg fun KF hKF => ?_
  refine b0 ?_
  refine mI ?_
  refine nl hKF ?_
  dsimp only
  have hn9 := hx2.n
  simp only [AHeap.push] at hn9
  have hkeep : ∀ s cs e, s < H6.n → H6.get s = .row cs true e → (e / 2 = 25 ∨ e = 2 * 3) → H9.get s = H6.get s := fun s cs e hs hg he => by
   have hne := hop6.tne hg (fun h7 => by rcases he with he | he <;> rw [he] at h7 <;> exact absurd h7 (by decide))
   rw [hx2.get s (by simp only [AHeap.push]; omega) hne, push_get_lt hs]
  have hnew := (hlns.stv (by rw [List.length_map, List.length_range]; exact hsp) (by simp) (fun r off len cap sz e => by have := hspf _ _ _ _ _ e; omega))
  haveI : SepS gp op := ⟨fun r off len cap sz r' off' len' cap' sz' e e' => by have := hopf _ _ _ _ _ e'; have := hgplt _ _ _ _ _ e; omega⟩
  have hcl : cells.length = i := by have := hop.sl.len; omega
  refine ⟨(i + 1, op'), by dsimp only; omega, ⟨by simp only [↓nrmL, nrmZ, qe, ↓reduceIte, qz, qn, qq]; rw [hwi], rfl, trivial⟩, by dsimp only; omega, P, cells ++ [sp], inferInstance, hPl, hPo, hPd.congr (fun _ _ _ _ => DrU.stave), inferInstance, ho2, fun r _ _ _ _ e => by have := hf2.ge _ _ _ _ _ e; simp only [AHeap.push] at this; omega, fun j hj => ?_, ⟨(hx5.trans hx6).pushN.other hx2 fun r _ _ _ _ e => ?_⟩⟩
  ·dsimp only at hj
   by_cases hji : j < i
   ·obtain ⟨sj, b1, b2⟩ := hst j hji
    refine ⟨sj, by rw [List.getElem?_append_left (by omega)]; exact b1, ?_⟩
    have b3 : StvR H6 sj (staveL lo L j) H3.n := b2.keep hx6.n fun s cs e hs hB hg he => hx6.get s hs ⟨fun r _ _ _ _ e2 => by have := hgplt _ _ _ _ _ e2; omega⟩
    exact b3.keep (by omega) fun s cs e hs hB hg he => hkeep s cs e hs hg he
   ·have hje : j = i := by omega
    subst hje
    refine ⟨sp, by rw [List.getElem?_append_right (by omega), hcl, Nat.sub_self]; rfl, ?_⟩
    have b3 : StvR H9 sp (staveL lo L j) (H5.n + 1) := hnew.keep (by omega) fun s cs e hs hB hg he => hkeep s cs e hs hg he
    obtain ⟨r, ps', e, c1, c2', c3, c4, c5, c6⟩ := b3.it
    exact ⟨r, ps', e, c1, c2', c3, c4, by omega, fun t ht => by obtain ⟨rj, d1, d2, d3⟩ := c6 t ht; exact ⟨rj, d1, d2, by omega⟩⟩
  ·have := hopf _ _ _ _ _ e
   simp only [AHeap.push, AHeap.set]
   omega
 have hke : k < 5 := by have := of_decide_eq_true hck; omega
 have hwk := wa1 (a := k) (by omega)
 repeat first | refine mI ?_ | refine bn rfl rfl rfl (by simp only [↓nrmL, nrmZ, qe, ↓reduceIte, qz, qn, qq, hck]; rfl) ?_ | refine nl hKF ?_ | refine sq ?_ | refine rg fun KF hKF => ?_ | refine ct rfl ?_ | refine sk ?_ | refine Wp.block ?_
 refine WpO.do (WpX.mkR rfl rfl (by omega) ?_)
 obtain ⟨lp, hlp⟩ : ∃ lp : AVal, AVal.slice H6.n 0 w (some w) 1 = lp := ⟨_, rfl⟩
 obtain ⟨f, hf⟩ : ∃ f : Nat → Int, (fun x => 5 + (lo : Int) + 36 * (i : Int) + 6 * (k : Int) + L.getD x 0) = f := ⟨_, rfl⟩
 have hgp6 : RowNe gp H6.n := inferInstance
 haveI := hgp6
 haveI i0 : IntsI (H6.push (.row (cellsI (List.replicate w 0)) true (2 * 3))) (.slice H6.n 0 w (some w) 1) (List.replicate w 0) := row_ints (w := true) (e := 2 * 3) inferInstance List.length_replicate
 haveI := i0.one
 repeat first | refine mI ?_ | refine mv ?_ | (refine Fo.len (v := ?_) (by simp only [↓nrmL, nrmK, qe, ↓reduceIte]; rfl) ?hv ?_; case hv => (simp only [↓nrmL, nrmZ, qe, ↓reduceIte, qz, qn, qq, List.length_replicate]; rfl)) | refine nl hKF ?_ | refine sq ?_ | refine rg fun KF hKF => ?_ | refine Wp.block ?_ | dsimp only
 refine Wp.loopS [25, 107, 108, 109, 110, 111, 112, 113, 114, 115, 116, 117, 118, 119, 120, 121, 122, 123, 124, 125, 126, 127, 128, 129, 130, 131, 132, 133, 134, 135, 136, 137] (fun x : Nat => [(107, .int .i64 x)]) (fun _ x H8 => x ≤ w ∧ ∃ P, BytesI H8 gp P ∧ P.length = w * h ∧ pxOk P = true ∧ Drw P w h (DrU lo L i k x) ∧ WrS H8 gp ∧ HasRow H8 H6.n (cellsI (fillI f x w)) true (2 * 3) ∧ ExtP H6 H8 gp) (fun x => w - x) 0 rfl (fun _ => rfl) ⟨rfl, trivial⟩ ⟨Nat.zero_le _, P, inferInstance, hPl, hPo, hPd, inferInstance, by rw [fillI_zero]; exact inferInstance, (ExtP.refl _ _).pushN⟩ (by unfold fuel0 at hn; omega) ?_
 rintro x g4 H8 ⟨hxw, P8, hP8, hPl8, hPo8, hPd8, hPw8, hln, hx8⟩
 haveI := hx8
 haveI := hln
 have hfl := fillI_len f x w
 haveI hli : IntsI H8 (.slice H6.n 0 w (some w) 1) (fillI f x w) := row_ints hln hfl
 simp only [↓nrmL, nrmZ, qe, ↓reduceIte, qz, qn, qq]
 cases hcx : decide ((x : Int) < (w : Int))
 ·have hxe : x = w := by have := of_decide_eq_false hcx; omega
  have hline : fillI f x w = lineL lo L i k := by rw [hxe, fillI_all, lineL, hLl, hf]
  have hln8 : HasRow H8 H6.n (cellsI (lineL lo L i k)) true (2 * 3) := by rw [← hline]; exact hln
  have hlen : (lineL lo L i k).length = w := by rw [← hline]; exact hfl
  have hn8 := hx8.n
  have hn8' := hln.lt
  repeat first | refine mv ?_ | refine fd ?_ | refine Fo.ld rfl rfl ?_ | refine bn rfl rfl rfl (by simp only [↓nrmL, nrmZ, qe, ↓reduceIte, qz, qn, qq, hcx]; rfl) ?_ | refine Fo.bslice rfl (by simp only [↓nrmL, nrmZ, qe, ↓reduceIte, qz, qn, qq, hcx]; rfl) ?_ | refine nl hKF ?_ | refine sq ?_ | refine rg fun KF hKF => ?_ | refine cf rfl ?_ | refine xi ?_
  refine WpO.do (WpX.growX (p := sp) (q := .slice H8.n 0 1 (some 1) 1) (k := 1) (new := [.slice H6.n 0 w (some w) 1]) rfl rfl (by infer_instance) (by infer_instance) (by decide) (by decide) (by decide) (by omega) (by rfl) fun sp' H9 ho2 hf2 hx2 => ?_)
  haveI := ho2.sl.one
  haveI := hx2
  haveI : RowNe sp H5.n := hsp.tne hsv.get (by decide)
  haveI : RowNe sp H6.n := ⟨fun r _ _ _ _ e => by have := hsp.sl.lt e; omega⟩
  haveI hsp'5 : RowNe sp' H5.n := ⟨fun r _ _ _ _ e => by have := hf2.ge _ _ _ _ _ e; simp only [AHeap.push] at this; omega⟩
  refine fd ?_
  refine Fo.stO (v := sp') (r := H5.n) (off := 0) rfl rfl rfl rfl ?_
  refine nl hKF ?_
  refine rg fun KF hKF => ?_
  refine b0 ?_
  refine mI ?_
  refine nl hKF ?_
  dsimp only
  have hl8 : Lns H8 ps ((List.range k).map (lineL lo L i)) (H5.n + 1) := hlns.keep hx8.n fun s cs hs hB hg => hx8.get s hs ⟨fun r _ _ _ _ e => by have := hgplt _ _ _ _ _ e; omega⟩
  have hl9 : Lns H9 ps ((List.range k).map (lineL lo L i)) (H5.n + 1) := hl8.keep (by have := hx2.n; simp only [AHeap.push] at this; omega) fun s cs hs hB hg => by
   rw [hx2.get s (by simp only [AHeap.push]; omega) ⟨fun r off len cap sz e hh => by
    have h1 := (inferInstance : OwnS H8 sp 1 k ps 25)
    rcases h1.it with ⟨rfl, _⟩ | ⟨r2, e2, rfl, h2, h3, h4, _⟩
    ·cases e
    ·cases e; rw [← hh, h3] at hg; cases hg; exact absurd h4 (by decide)⟩, push_get_lt hs]
  have hl10 : Lns (H9.set H5.n (.row [sp'] true (2 * 43))) ps ((List.range k).map (lineL lo L i)) (H5.n + 1) := hl9.keep (Nat.le_refl _) fun s cs hs hB hg => set_get_ne (by omega)
  haveI : NeR H6.n H5.n := ⟨by omega⟩
  have hnH9 : H6.n < H9.n := by have := hx2.n; simp only [AHeap.push] at this; omega
  have hsn := hl10.snoc (r := H6.n) (l := lineL lo L i k) ⟨hnH9, by rw [set_get_ne (by omega), hx2.get H6.n (by simp only [AHeap.push]; omega) inferInstance, push_get_lt (by omega)]; exact hln8.get⟩ (by omega)
  rw [hlen] at hsn
  refine ⟨k + 1, by omega, ⟨by simp only [↓nrmL, nrmZ, qe, ↓reduceIte, qz, qn, qq]; rw [hwk], trivial⟩, by omega, P8, ps ++ [.slice H6.n 0 w (some w) 1], sp', inferInstance, hPl8, hPo8, (by rw [hxe] at hPd8; exact hPd8.congr (fun _ _ hx' _ => DrU.line hx')), inferInstance, inferInstance, inferInstance, fun r _ _ _ _ e => by have := hf2.ge _ _ _ _ _ e; simp only [AHeap.push] at this; omega, by rw [List.range_succ, List.map_append]; exact hsn, by have := hx2.n; simp only [AHeap.push, AHeap.set] at this ⊢; omega, ?_⟩
  exact (((hx6.trans hx8).pushN).other hx2 (fun r _ _ _ _ e => by have := hspf _ _ _ _ _ e; omega)).setN (Nat.le_refl _)
 have hxl : x < w := by have := of_decide_eq_true hcx; omega
 have hwx := wa1 (a := x) (by omega)
 have hxL : x < L.length := by omega
 have hLx := hlo2 x
 have hLx2 := hhi2 x
 have gx : L[x] = L.getD x 0 := (getD_at hxL).symm
 obtain ⟨fx, hfx⟩ : ∃ fx : Nat, f x = (fx : Int) := ⟨(f x).toNat, by rw [← hf]; dsimp only; omega⟩
 have hfx2 : 5 + (lo : Int) + 36 * (i : Int) + 6 * (k : Int) + L[x] = (fx : Int) := by rw [gx, ← hfx, ← hf]
 have hfh : fx < h := by omega
 have a1 : IntKind.i64.wrap (5 - -(lo : Int)) = 5 + (lo : Int) := by rw [w64 (by omega)]; omega
 have a2 : IntKind.i64.wrap ((i : Int) * 36) = 36 * (i : Int) := by rw [w64 (by omega)]; omega
 have a3 : IntKind.i64.wrap (5 + (lo : Int) + 36 * (i : Int)) = 5 + (lo : Int) + 36 * (i : Int) := w64 (by omega)
 have a4 : IntKind.i64.wrap (6 * (k : Int)) = 6 * (k : Int) := w64 (by omega)
 have a5 : IntKind.i64.wrap (5 + (lo : Int) + 36 * (i : Int) + 6 * (k : Int)) = 5 + (lo : Int) + 36 * (i : Int) + 6 * (k : Int) := w64 (by omega)
 have a6 : IntKind.i64.wrap (5 + (lo : Int) + 36 * (i : Int) + 6 * (k : Int) + L[x]) = (fx : Int) := by rw [w64 (by omega), hfx2]
 have hlt : fx * w + x < w * h := idx_lt hxl hfh
 have a7 : IntKind.i64.wrap ((fx : Int) * (w : Int)) = ((fx * w : Nat) : Int) := wm (by omega)
 have a8 : IntKind.i64.wrap (((fx * w : Nat) : Int) + (x : Int)) = ((fx * w + x : Nat) : Int) := wa (by omega)
 repeat first | refine mI ?_ | refine mv ?_ | refine bn rfl rfl rfl (by simp only [↓nrmL, nrmZ, qe, ↓reduceIte, qz, qn, qq, hcx, a1, a2, a3, a4, a5, a6]; rfl) ?_ | (refine Fo.idx (by simp only [↓nrmL, nrmK, qe, ↓reduceIte]; rfl) rfl ?_ (by simp only [↓nrmL, nrmZ, qe, ↓reduceIte, qz, qn, qq, hcx, a1, a2, a3, a4, a5, a6]; rfl) ?_; (focus omega)) | (refine Fo.ldI rfl ?_ rfl ?_; (focus omega)) | refine nl hKF ?_ | refine sq ?_ | refine rg fun KF hKF => ?_ | refine ct rfl ?_ | refine sk ?_ | refine Wp.block ?_
 refine WpO.do' (WpX.stR (r := H6.n) (j := 0 + x) (l := fillI f x w) rfl rfl (by omega) ?_)
 rw [Nat.zero_add, ← hfx, fillI_set]
 have hfl1 := fillI_len f (x + 1) w
 haveI hli1 : IntsI (H8.set H6.n (.row (cellsI (fillI f (x + 1) w)) true (2 * 3))) (.slice H6.n 0 w (some w) 1) (fillI f (x + 1) w) := row_ints (w := true) (e := 2 * 3) inferInstance hfl1
 have hg1 : (fillI f (x + 1) w)[x] = (fx : Int) := by simp [fillI, hfx]
 refine nl hKF ?_
 dsimp only
 refine Fr.dregion0 rfl fun KF hKF => ?_
 repeat first | refine Er rfl (exec_ld rfl rfl) rfl ?_ | refine Fe.pure rfl rfl (by simp only [↓nrmL, nrmZ, qe, ↓reduceIte, qz, qn, qq, hg1, a7, a8]; rfl) ?_ | (refine Fe.pure rfl (exec_idxP (by (try simp only [↓nrmL, nrmZ, qe, ↓reduceIte, qz, qn, qq, hg1, a7, a8]); rfl) rfl ?_) (by simp only [↓nrmL, nrmZ, qe, ↓reduceIte, qz, qn, qq, hg1, a7, a8]; rfl) ?_; (focus omega)) | refine Er rfl (exec_ldI rfl (by omega)) (by simp only [↓nrmL, nrmZ, qe, ↓reduceIte, qz, qn, qq, hg1, a7, a8]; rfl) ?_
 refine WpE.stB 1 rfl rfl rfl rfl (by omega) fun H9 hb9 hw9 hx9 => ar ?_
 haveI := hx9
 refine WpE.nil (hKF _ _ ?_)
 refine rg fun KF hKF => ?_
 refine b0 ?_
 refine mI ?_
 refine nl hKF ?_
 dsimp only
 refine ⟨x + 1, by omega, ⟨by simp only [↓nrmL, nrmZ, qe, ↓reduceIte, qz, qn, qq]; rw [hwx], trivial⟩, by omega, P8.set (fx * w + x) 1, hb9, by rw [List.length_set]; exact hPl8, pxOk_set hPo8 (Or.inr rfl), hPd8.set hPl8 hxl hfh (fun _ _ _ _ => DrU.next hke (by rw [← hfx2, gx])), hw9, inferInstance, (hx8.setN (Nat.le_refl _)).trans hx9⟩
end Go.Am

namespace Go.Am
open Go
open Nat renaming reduceEqDiff → qe, reduceAdd → qz
open Int renaming reduceBEq → qn, reduceBNe → qq
attribute [local irreducible] Wp WpO WpX WpE
theorem exec_subC {call : ACall} {fr : AFrame} {H : AHeap} {x lo hi : ROpd} {r off n c a b : Nat} (hx : x.ev fr = .slice r off n (some c) 1) (hlo : lo.ev fr = .int .i64 (a : Int)) (hhi : hi.ev fr = .int .i64 (b : Int)) (hab : a < b) (hbn : b ≤ n) (hnc : n ≤ c) :
  (ROp.sliceS 1 x (some lo) (some hi) none).exec call fr H = some (.slice r (off + a) (b - a) (some (c - a)) 1, H) := by
 have h1 : aLow b (some (.int .i64 (a : Int))) = some a := by
  have : (0 : Int) ≤ (a : Int) ∧ (a : Int) ≤ (b : Int) := by omega
  simp only [aLow, aBound, if_pos this, Int.toNat_natCast]
 have h2 : aHigh n c (some (.int .i64 (b : Int))) = some b := by
  have : (0 : Int) ≤ (b : Int) ∧ (b : Int) ≤ (c : Int) := by omega
  simp only [aHigh, aBound, if_pos this, Int.toNat_natCast]
 have hb0 : aBounds n (some c) (some (.int .i64 (a : Int))) (some (.int .i64 (b : Int))) none = some (a, b, some c) := by
  simp only [aBounds, capD, h2, h1]
 simp only [ROp.exec, hx, Option.map_some, hlo, hhi, Option.map_none, aSliceS, ne_eq, not_true, if_false, hb0, M.pure, if_neg (show ¬ c = a by omega), Nat.mul_one]
def mnL (l : List Int) : Nat → Int
 | 0 => l.getD 0 0
 | k + 1 => if l.getD (k + 1) 0 < mnL l k then l.getD (k + 1) 0 else mnL l k
theorem mn_le {l : List Int} : ∀ {k i : Nat}, i ≤ k → mnL l k ≤ l.getD i 0
 | 0, i, h => by rw [show i = 0 by omega]; exact Int.le_refl _
 | k + 1, i, h => by
  simp only [mnL]
  by_cases e : i = k + 1
  ·subst e; split <;> omega
  ·have := mn_le (l := l) (k := k) (i := i) (by omega)
   split <;> omega
theorem mn_in {l : List Int} : ∀ k : Nat, ∃ i, i ≤ k ∧ mnL l k = l.getD i 0
 | 0 => ⟨0, Nat.le_refl _, rfl⟩
 | k + 1 => by
  obtain ⟨i, h1, h2⟩ := mn_in (l := l) k
  simp only [mnL]
  split
  ·exact ⟨k + 1, Nat.le_refl _, rfl⟩
  ·exact ⟨i, by omega, h2⟩
theorem K_MinA {p : AVal} {H : AHeap} {l : List Int} [hp : IntsI H p l] (h0 : 0 < l.length) (h1 : l.length ≤ 2 ^ 40) : Con ext prog 1 79 [p] H fun v H' => v = .int .i64 (mnL l (l.length - 1)) ∧ Ext H H' := by
 refine con_of (show prog 79 = some c79 from rfl) rfl rfl fun n hn => ?_
 haveI := hp.one
 have hl1 : decide (((l.length : Nat) : Int) < 1) = false := decide_eq_false (by omega)
 have g0 : l[0] = mnL l 0 := by rw [mnL, getD_at h0]
 repeat first | refine mI ?_ | refine mv ?_ | refine bn rfl rfl rfl (by simp only [hl1, g0]; rfl) ?_ | refine ln (by simp only [↓nrmL, nrmK, qe, ↓reduceIte]; rfl) ?_ | (refine Fo.idx (by simp only [↓nrmL, nrmK, qe, ↓reduceIte]; rfl) rfl ?_ (by simp only [↓nrmL, nrmZ, qe, ↓reduceIte, qz, qn, qq, hl1, g0]; rfl) ?_; (focus omega)) | (refine Fo.ldI rfl ?_ (by simp only [hl1, g0]; rfl) ?_; (focus omega)) | refine nl hKF ?_ | refine sq ?_ | refine rg fun KF hKF => ?_ | refine cf rfl ?_ | refine sk ?_ | refine Wp.block ?_ | dsimp only
 refine Wp.loopS [3, 4, 12, 13, 14, 15, 16, 17, 18, 19, 20, 21, 22, 23] (fun k : Nat => [(4, .int .i64 ((k + 1 : Nat) : Int)), (3, .int .i64 (mnL l k))]) (fun H3 k H2 => k + 1 ≤ l.length ∧ Ext0 H3 H2) (fun k => l.length - (k + 1)) 0 rfl (fun _ => rfl) ⟨rfl, rfl, trivial⟩ ⟨h0, inferInstance⟩ (by unfold fuel0 at hn; omega) ?_
 rintro k g H2 ⟨hk, ⟨hx⟩⟩
 haveI : ExtI _ H2 := ⟨hx⟩
 simp only [↓nrmL, nrmZ, qe, ↓reduceIte, qz, qn, qq]
 cases hc : decide (((k + 1 : Nat) : Int) < ((l.length : Nat) : Int))
 ·have hke : l.length - 1 = k := by have := of_decide_eq_false hc; omega
  rw [hke]
  repeat first | refine mI ?_ | refine mv ?_ | refine bn rfl rfl rfl (by simp only [hc]; rfl) ?_ | refine ln (by simp only [↓nrmL, nrmK, qe, ↓reduceIte]; rfl) ?_ | refine nl hKF ?_ | refine sq ?_ | refine rg fun KF hKF => ?_ | refine cf rfl ?_ | refine rt ?_ | refine xi ?_ | dsimp only
  refine rz trivial ?_
  exact ⟨rfl, Ext0.ext⟩
 have hkl : k + 1 < l.length := by have := of_decide_eq_true hc; omega
 have hwk := wa1 (a := k + 1) (by omega)
 have hm : (if l[k + 1] < mnL l k then l[k + 1] else mnL l k) = mnL l (k + 1) := by rw [mnL, getD_at hkl]
 repeat first | refine mI ?_ | refine mv ?_ | refine bn rfl rfl rfl (by simp only [hc, Bool.false_eq_true, if_false, hm]; rfl) ?_ | refine b0 ?_ | refine ln (by simp only [↓nrmL, nrmK, qe, ↓reduceIte]; rfl) ?_ | (refine Fo.idx (by simp only [↓nrmL, nrmK, qe, ↓reduceIte]; rfl) rfl ?_ (by simp only [↓nrmL, nrmZ, qe, ↓reduceIte, qz, qn, qq, hc, Bool.false_eq_true, if_false, hm]; rfl) ?_; (focus omega)) | (refine Fo.ldI rfl ?_ rfl ?_; (focus omega)) | refine Fo.now rfl rfl (by simp only [hc, Bool.false_eq_true, if_false, hm]; rfl) ?_ | refine nl hKF ?_ | refine sq ?_ | refine rg fun KF hKF => ?_ | refine ct rfl ?_ | refine sk ?_ | refine Wp.block ?_ | dsimp only
 refine ⟨k + 1, by omega, ⟨by simp only [↓nrmL, nrmZ, qe, ↓reduceIte, qz, qn, qq]; rw [hwk], rfl, trivial⟩, by omega, inferInstance⟩
theorem K_IndexA {p : AVal} {H : AHeap} {l : List Int} {z : Int} [hp : IntsI H p l] (h1 : l.length ≤ 2 ^ 40) (hz : ∃ i, i < l.length ∧ l.getD i 0 = z) : Con ext prog 1 96 [p, .int .i64 z] H fun v H' => ∃ i : Nat, v = .int .i64 (i : Int) ∧ i < l.length ∧ l.getD i 0 = z ∧ (∀ j, j < i → l.getD j 0 ≠ z) ∧ Ext H H' := by
 refine con_of (show prog 96 = some c96 from rfl) rfl rfl fun n hn => ?_
 haveI := hp.one
 repeat first | refine mI ?_ | refine mv ?_ | refine ln (by simp only [↓nrmL, nrmK, qe, ↓reduceIte]; rfl) ?_ | refine nl hKF ?_ | refine sq ?_ | refine rg fun KF hKF => ?_ | refine Wp.block ?_ | dsimp only
 refine Wp.loopS [4, 5, 8, 9, 10, 11, 12, 13, 14, 15, 16, 17, 18] (fun i : Nat => [(8, .int .i64 (i : Int))]) (fun H3 i H2 => i ≤ l.length ∧ (∀ j, j < i → l.getD j 0 ≠ z) ∧ Ext0 H3 H2) (fun i => l.length - i) 0 rfl (fun _ => rfl) ⟨rfl, trivial⟩ ⟨Nat.zero_le _, fun j hj => by omega, inferInstance⟩ (by unfold fuel0 at hn; omega) ?_
 rintro i g H2 ⟨hi, hno, ⟨hx⟩⟩
 haveI : ExtI _ H2 := ⟨hx⟩
 simp only [↓nrmL, nrmZ, qe, ↓reduceIte, qz, qn, qq]
 cases hc : decide ((i : Int) < ((l.length : Nat) : Int))
 ·obtain ⟨j, j1, j2⟩ := hz
  have := of_decide_eq_false hc
  exact absurd j2 (hno j (by omega))
 have hil : i < l.length := by have := of_decide_eq_true hc; omega
 have hwi := wa1 (a := i) (by omega)
 have hg := getD_at hil
 cases he : (z == l[i])
 ·skip
  repeat first | refine mI ?_ | refine mv ?_ | refine bn rfl rfl rfl (by simp only [hc, he]; rfl) ?_ | refine b0 ?_ | (refine Fo.idx (by simp only [↓nrmL, nrmK, qe, ↓reduceIte]; rfl) rfl ?_ (by simp only [↓nrmL, nrmZ, qe, ↓reduceIte, qz, qn, qq, hc, he]; rfl) ?_; (focus omega)) | (refine Fo.ldI rfl ?_ rfl ?_; (focus omega)) | refine nl hKF ?_ | refine sq ?_ | refine rg fun KF hKF => ?_ | refine ct rfl ?_ | refine cf rfl ?_ | refine sk ?_ | refine Wp.block ?_ | dsimp only
  refine ⟨i + 1, by omega, ⟨by simp only [↓nrmL, nrmZ, qe, ↓reduceIte, qz, qn, qq]; rw [hwi], trivial⟩, by omega, fun j hj => ?_, inferInstance⟩
  by_cases e : j = i
  ·subst e; rw [hg]; intro q; rw [q] at he; simp at he
  ·exact hno j (by omega)
 ·skip
  repeat first | refine mI ?_ | refine mv ?_ | refine bn rfl rfl rfl (by simp only [hc, he]; rfl) ?_ | (refine Fo.idx (by simp only [↓nrmL, nrmK, qe, ↓reduceIte]; rfl) rfl ?_ (by simp only [↓nrmL, nrmZ, qe, ↓reduceIte, qz, qn, qq, hc, he]; rfl) ?_; (focus omega)) | (refine Fo.ldI rfl ?_ rfl ?_; (focus omega)) | refine nl hKF ?_ | refine sq ?_ | refine rg fun KF hKF => ?_ | refine ct rfl ?_ | refine sk ?_ | refine rt ?_ | refine Wp.block ?_ | dsimp only
  refine rz trivial ?_
  exact ⟨i, rfl, hil, by rw [hg]; exact (by simpa using he : z = l[i]).symm, hno, Ext0.ext⟩
structure GrI (H : AHeap) (rp rr n : Nat) (P R : List Int) : Prop where
 kp : HasRow H rp (cellsI P) true (2 * 3)
 kr : HasRow H rr (cellsI R) true (2 * 3)
 lp : P.length = n
 lr : R.length = n
 ne : rp ≠ rr
abbrev grV (w h rp rr : Nat) : AVal := .agg [.int .i64 (w : Int), .int .i64 (h : Int), .slice rp 0 (w * h) (some (w * h)) 1, .slice rr 0 (w * h) (some (w * h)) 1]
abbrev colV (w h rr x : Nat) : AVal := .slice rr (0 + x * h) ((x + 1) * h - x * h) (some (w * h - x * h)) 1
def colL (R : List Int) (h x : Nat) : List Int := (R.drop (x * h)).take h
theorem col_lt {w h x : Nat} (hx : x < w) : x * h + h ≤ w * h := by
 have := Nat.mul_le_mul_right h (show x + 1 ≤ w by omega)
 rw [Nat.add_mul, Nat.one_mul] at this
 exact this
theorem colL_len {R : List Int} {w h x : Nat} (hl : R.length = w * h) (hx : x < w) : (colL R h x).length = h := by
 have := col_lt (h := h) hx
 unfold colL
 rw [List.length_take, List.length_drop]; omega
theorem colL_at {R : List Int} {w h x y : Nat} (hl : R.length = w * h) (hx : x < w) (hy : y < h) : (colL R h x).getD y 0 = R.getD (x * h + y) 0 := by
 unfold colL
 rw [List.getD_eq_getElem?_getD, List.getElem?_take, if_pos hy, List.getElem?_drop, ← List.getD_eq_getElem?_getD]
theorem col_ints {H : AHeap} {rr w h x : Nat} {R : List Int} (k : HasRow H rr (cellsI R) true (2 * 3)) (hl : R.length = w * h) (hx : x < w) : IntsI H (colV w h rr x) (colL R h x) := by
 have h1 := col_lt (h := h) hx
 have h2 := colL_len hl hx
 unfold IntsI
 rw [h2]
 unfold colV
 rw [show (x + 1) * h - x * h = h by rw [Nat.add_mul, Nat.one_mul]; omega]
 refine ⟨Or.inr ⟨rr, 0 + x * h, some (w * h - x * h), cellsI R, true, _, rfl, k.lt, k.get, by rw [cellsI_length]; omega, ?_, by simp only [capD]; omega⟩⟩
 rw [Nat.mul_one, Nat.zero_add]
 simp [colL, cellsI, List.map_take, List.map_drop]
theorem K_column {w h rp rr x : Nat} {H : AHeap} (hw : w ≤ 640) (hh : h ≤ 640) (h0 : 0 < h) (hx : x < w) : Con ext prog 1 95 [grV w h rp rr, .int .i64 (x : Int)] H fun v H' => v = colV w h rr x ∧ Ext H H' := by
 refine con_of (show prog 95 = some c95 from rfl) rfl rfl fun n hn => ?_
 have h1 := col_lt (h := h) hx
 have hm : w * h ≤ 640 * 640 := Nat.mul_le_mul hw hh
 have e1 : IntKind.i64.wrap ((x : Int) * (h : Int)) = ((x * h : Nat) : Int) := wm (by omega)
 have e2 := wa1 (a := x) (by omega)
 have e3 : IntKind.i64.wrap (((x + 1 : Nat) : Int) * (h : Int)) = (((x + 1) * h : Nat) : Int) := wm (by rw [Nat.add_mul, Nat.one_mul]; omega)
 have hlt : x * h < (x + 1) * h := by rw [Nat.add_mul, Nat.one_mul]; omega
 repeat first | refine mI ?_ | refine mN ?_ | refine fd ?_ | refine Fo.ld rfl rfl ?_ | refine bn rfl rfl rfl (by simp only [e1, e2, e3]; rfl) ?_ | refine bA ?_ | refine nl hKF ?_ | refine sq ?_ | refine rg fun KF hKF => ?_
 refine Fo.now rfl (exec_subC (r := rr) (off := 0) (n := w * h) (c := w * h) (a := x * h) (b := (x + 1) * h) rfl rfl rfl hlt (by rw [Nat.add_mul, Nat.one_mul]; omega) (Nat.le_refl _)) rfl ?_
 refine mv ?_
 refine nl hKF ?_
 refine rt ?_
 dsimp only
 refine rz trivial ?_
 exact ⟨rfl, Ext0.ext⟩
end Go.Am

namespace Go.Am
open Go
theorem WpX.conC {ext : Exts} {prog : FuncId → Option RFunc} {fr : AFrame} {H : AHeap} {K Q : AVal → AHeap → Prop} {n d : Nat} {f : FuncId} {o : ROpd} {l : List ROpd} {args caps : List AVal} (hc : Con ext prog d f args H Q) (hn : fuel0 + d ≤ n) (hf : o.ev fr = .func (.func f) [] caps) (hl : l.map (·.ev fr) ++ caps = args) (h : ∀ v H', Q v H' → K v H') : WpX (.call o l) (callN ext prog n) fr H K := by
  obtain ⟨u, H', h1, h2⟩ := hc n hn
  refine ⟨u, H', ?_, h _ _ h2⟩
  simp only [ROp.exec, hf, aCallV, List.nil_append, hl]
  exact h1
section
variable {call : ACall} {n ref : Nat} {its : List DItem} {H0 H : AHeap} {E : List (Nat × AHeap)} {Rd : List (Nat × (AHeap → Bool))} {fr : AFrame} {K : AFrame → AHeap → Prop} {b : Nat} {pre : Bool} {g : Option (Nat × Bool)}
theorem WpE.stR {d : Option Nat} {a x : ROpd} {r j : Nat} {l : List Int} {c : Int} {e : TypeId} (hw : ROper.wanted fr ⟨d, .store 1 a x, g⟩ = true) (ha : a.ev fr = .ptr r j) (hx : x.ev fr = .int .i64 c) [s : HasRow H r (cellsI l) true e] (hj : j < l.length)
    (h : AllR b (H.set r (.row (cellsI (l.set j c)) true e)) Rd ∧ WpE call (n + 1) ref its H0 ((n, H) :: E) Rd (put fr d aundef) (H.set r (.row (cellsI (l.set j c)) true e)) K) : WpE call n ref (⟨⟨d, .store 1 a x, g⟩, b, 2, pre⟩ :: its) H0 E Rd fr H K := by
  have hc : (cellsI l).set j (.int .i64 c) = cellsI (l.set j c) := by simp [cellsI, List.map_set]
  obtain ⟨v, H1, h1, rfl, rfl⟩ : WpX (.store 1 a x) call fr H fun v H1 => v = aundef ∧ H1 = H.set r (.row (cellsI (l.set j c)) true e) :=
    WpX.store ha hx rfl s.lt s.get (by simp only [AVal.cells, List.length_singleton, cellsI_length]; omega) rfl (by rw [show AVal.cells (.int .i64 c) = [.int .i64 c] from rfl, setAt_one, hc]; exact ⟨rfl, rfl⟩)
  exact WpE.effect hw h1 h.1 h.2
end
end Go.Am

namespace Go.Am
open Go
open Nat renaming reduceEqDiff → qe, reduceAdd → qz
open Int renaming reduceBEq → qn, reduceBNe → qq
attribute [local irreducible] Wp WpO WpX WpE
def priF (P : List Int) (h x y : Nat) : Int := P.getD (x * h + y) 0
def resF (P : List Int) (w h i : Nat) : Int := restF (priF P h) w h (w - 1 - i / h) (i % h)
def mesL (P R : List Int) (w h k j : Nat) : List Int := (List.range (w * h)).map fun i => if w - k ≤ i / h ∨ (i / h + 1 + k = w ∧ i % h < j) then resF P w h i else R.getD i 0
def restL (P : List Int) (w h : Nat) : List Int := (List.range (w * h)).map (resF P w h)
theorem mes_len (P R : List Int) (w h k j : Nat) : (mesL P R w h k j).length = w * h := by simp [mesL]
theorem mes_at {P R : List Int} {w h k j i : Nat} (hi : i < w * h) : (mesL P R w h k j).getD i 0 = if w - k ≤ i / h ∨ (i / h + 1 + k = w ∧ i % h < j) then resF P w h i else R.getD i 0 := by
 rw [getD_at (by rw [mes_len]; exact hi)]
 simp [mesL]
theorem cell_at {h x y : Nat} (hy : y < h) : (x * h + y) / h = x ∧ (x * h + y) % h = y := by
 constructor
 ·rw [Nat.mul_comm, Nat.mul_add_div (by omega), Nat.div_eq_of_lt hy, Nat.add_zero]
 ·rw [Nat.mul_comm, Nat.mul_add_mod]; exact Nat.mod_eq_of_lt hy
theorem mes_zero {P R : List Int} {w h : Nat} (hl : R.length = w * h) : mesL P R w h 0 0 = R := by
 apply List.ext_getElem
 ·rw [mes_len, hl]
 ·intro i h1 h2
  rw [mes_len] at h1
  have : i / h < w := Nat.div_lt_of_lt_mul (by rw [Nat.mul_comm]; exact h1)
  rw [← getD_at, mes_at h1, if_neg (by omega), getD_at h2]
theorem mes_col {P R : List Int} {w h k : Nat} (hk : k < w) : mesL P R w h k h = mesL P R w h (k + 1) 0 := by
 unfold mesL
 apply List.map_congr_left
 intro i hi
 have hi := List.mem_range.1 hi
 have h0 : 0 < h := by
  rcases Nat.eq_zero_or_pos h with e | e
  ·subst e; omega
  ·exact e
 have := Nat.mod_lt i h0
 by_cases hc : w - k ≤ i / h ∨ (i / h + 1 + k = w ∧ i % h < h)
 ·rw [if_pos hc, if_pos (by omega)]
 ·rw [if_neg hc, if_neg (by omega)]
theorem mes_all {P R : List Int} {w h : Nat} : mesL P R w h w 0 = restL P w h := by
 unfold mesL restL
 apply List.map_congr_left
 intro i _
 have := Nat.zero_le (i / h)
 rw [if_pos (by omega)]
theorem cell_inj {h i j : Nat} (h1 : i / h = j / h) (h2 : i % h = j % h) : i = j := by
 have := Nat.div_add_mod i h
 have := Nat.div_add_mod j h
 rw [h1, h2] at *; omega
theorem mes_set {P R : List Int} {w h x k y : Nat} (hx : x + 1 + k = w) (hy : y < h) : (mesL P R w h k y).set (x * h + y) (resF P w h (x * h + y)) = mesL P R w h k (y + 1) := by
 obtain ⟨e1, e2⟩ := cell_at (x := x) hy
 apply List.ext_getElem
 ·simp [mesL]
 ·intro i h1 h2
  rw [List.getElem_set]
  simp only [mesL, List.getElem_map, List.getElem_range]
  by_cases e : x * h + y = i
  ·subst e; rw [if_pos rfl, if_pos (Or.inr ⟨by omega, by omega⟩)]
  ·rw [if_neg e]
   have hne : ¬ (i / h = x ∧ i % h = y) := fun q => e (cell_inj (h := h) (by omega) (by omega))
   by_cases hc : w - k ≤ i / h ∨ (i / h + 1 + k = w ∧ i % h < y)
   ·rw [if_pos hc, if_pos (by omega)]
   ·rw [if_neg hc, if_neg (by omega)]
theorem res_col {P : List Int} {w h x y : Nat} (hx : x < w) (hy : y < h) : resF P w h (x * h + y) = restF (priF P h) w h (w - 1 - x) y := by
 obtain ⟨e1, e2⟩ := cell_at (x := x) hy
 unfold resF
 rw [e1, e2]
theorem rest_at {P : List Int} {w h x y : Nat} (hx : x < w) (hy : y < h) : (restL P w h).getD (x * h + y) 0 = restF (priF P h) w h (w - 1 - x) y := by
 have := col_lt (h := h) hx
 rw [getD_at (by simp [restL]; omega)]
 simp only [restL, List.getElem_map, List.getElem_range]
 exact res_col hx hy
theorem rest_len (P : List Int) (w h : Nat) : (restL P w h).length = w * h := by simp [restL]
class PosL (P : List Int) : Prop where
 it : ∀ i, 0 ≤ P.getD i 0 ∧ P.getD i 0 ≤ 1920
theorem PosL.pos {P : List Int} (hP : PosL P) (h : Nat) : PosP (priF P h) := ⟨fun _ _ => hP.it _⟩
theorem nx_congr {c c' : Nat → Int} {h y : Nat} (hc : ∀ z, z < h → c z = c' z) (h0 : 0 < h) : nxF c h y = nxF c' h y := by
 unfold nxF
 have key : ∀ k, loB y + k ≤ h → nxTo c y (loB y) k = nxTo c' y (loB y) k := by
  intro k
  induction k with
  | zero => intro _; rfl
  | succ k ih =>
   intro hk
   simp only [nxTo]
   rw [ih (by omega), hc _ (by omega)]
 by_cases hlt : loB y ≤ hiB h y + 1
 ·exact key _ (by unfold hiB at *; omega)
 ·rw [show hiB h y + 1 - loB y = 0 by omega]; rfl
theorem mes_colL {P R : List Int} {w h k x j z : Nat} (hx : x + 1 + k = w) (hk : 0 < k) (hz : z < h) : (colL (mesL P R w h k j) h (x + 1)).getD z 0 = restF (priF P h) w h (k - 1) z := by
 have hxw : x + 1 < w := by omega
 have h1 := col_lt (h := h) hxw
 rw [colL_at (mes_len P R w h k j) hxw hz, mes_at (by omega)]
 obtain ⟨e1, e2⟩ := cell_at (x := x + 1) hz
 rw [if_pos (Or.inl (by omega)), res_col hxw hz]
 rw [show w - 1 - (x + 1) = k - 1 by omega]
theorem K_from {w h rp rr q x k y : Nat} {H : AHeap} {P R : List Int} {e : TypeId} (hw : w ≤ 640) (hh : h ≤ 640) (hP : PosL P) (hq : HasRow H q [.int .i64 (w : Int), .int .i64 (h : Int), .slice rp 0 (w * h) (some (w * h)) 1, .slice rr 0 (w * h) (some (w * h)) 1] true e) (hg : GrI H rp rr (w * h) P (mesL P R w h k y)) (hx : x + 1 + k = w) (hy : y < h) : Con ext prog 8 93 [.int .i64 (x : Int), .int .i64 (y : Int), .ptr q 0] H fun v H' => v = .int .i64 (resF P w h (x * h + y)) ∧ Ext H H' := by
 refine con_of (show prog 93 = some c93 from rfl) rfl rfl fun n hn => ?_
 haveI := hq
 have hxw : x < w := by omega
 have h1 := col_lt (h := h) hxw
 have hm : w * h ≤ 640 * 640 := Nat.mul_le_mul hw hh
 haveI hPi : IntsI H (.slice rp 0 (w * h) (some (w * h)) 1) P := row_ints hg.kp hg.lp
 haveI := hPi.one
 have hPl := hg.lp
 have e1 : IntKind.i64.wrap ((x : Int) * (h : Int)) = ((x * h : Nat) : Int) := wm (by omega)
 have e2 : IntKind.i64.wrap (((x * h : Nat) : Int) + (y : Int)) = ((x * h + y : Nat) : Int) := wa (by omega)
 have hi : x * h + y < P.length := by omega
 have eP : P[x * h + y] = priF P h x y := (getD_at hi).symm
 have hpp := hP.it (x * h + y)
 rw [show P.getD (x * h + y) 0 = priF P h x y from rfl] at hpp
 have e3 : IntKind.i64.wrap ((w : Int) - 1) = (w : Int) - 1 := w64 (by omega)
 rw [res_col hxw hy, show w - 1 - x = k by omega]
 rcases Nat.eq_zero_or_pos k with hk | hk
 ·subst hk
  have hc : decide ((x : Int) < (w : Int) - 1) = false := decide_eq_false (by omega)
  have er : restF (priF P h) w h 0 y = priF P h x y := by
   simp only [restF]
   rw [show w - 1 = x by omega]
  rw [er]
  repeat first | refine mI ?_ | refine fd ?_ | refine Fo.ld rfl rfl ?_ | refine bn rfl rfl rfl (by simp only [e1, e2, eP, e3, hc]; rfl) ?_ | (refine Fo.idx (by simp only [↓nrmL, nrmK, qe, ↓reduceIte]; rfl) rfl ?_ (by simp only [↓nrmL, nrmZ, qe, ↓reduceIte, qz, qn, qq, e1, e2, eP, e3, hc]; rfl) ?_; (focus omega)) | (refine Fo.ldI rfl ?_ (by simp only [e1, e2, eP, e3, hc]; rfl) ?_; (focus omega)) | refine nl hKF ?_ | refine sq ?_ | refine rg fun KF hKF => ?_ | refine cf rfl ?_ | refine sk ?_ | refine rt ?_ | dsimp only
  refine rz trivial ?_
  exact ⟨rfl, Ext0.ext⟩
 ·have hc : decide ((x : Int) < (w : Int) - 1) = true := decide_eq_true (by omega)
  have hxw1 : x + 1 < w := by omega
  have er : restF (priF P h) w h k y = priF P h x y + (nxF (restF (priF P h) w h (k - 1)) h y).2 := by
   obtain ⟨k', rfl⟩ : ∃ k', k = k' + 1 := ⟨k - 1, by omega⟩
   simp only [restF]
   rw [show w - 1 - (k' + 1) = x by omega]
   rfl
  have hcl := colL_len (R := mesL P R w h k y) (h := h) (mes_len P R w h k y) hxw1
  have hcol : IntsI H (colV w h rr (x + 1)) (colL (mesL P R w h k y) h (x + 1)) := col_ints hg.kr (mes_len P R w h k y) hxw1
  have hval : ∀ z, z < h → (colL (mesL P R w h k y) h (x + 1)).getD z 0 = restF (priF P h) w h (k - 1) z := fun z hz => mes_colL hx hk hz
  have hrange : ∀ z, 0 ≤ (colL (mesL P R w h k y) h (x + 1)).getD z 0 ∧ (colL (mesL P R w h k y) h (x + 1)).getD z 0 ≤ 3840 := fun z => by
   by_cases hz : z < h
   ·rw [hval z hz]; exact ⟨rest_pos (hP.pos h) _ _, rest_max (hP.pos h) _ _⟩
   ·rw [getD_out (by rw [hcl]; omega)]; omega
  have enx : nxF (fun i => (colL (mesL P R w h k y) h (x + 1)).getD i 0) (colL (mesL P R w h k y) h (x + 1)).length y = nxF (restF (priF P h) w h (k - 1)) h y := by
   rw [hcl]
   exact nx_congr hval (by omega)
  have hcap := nx_cap (restF (priF P h) w h (k - 1)) h y
  have hpo : 0 ≤ (nxF (restF (priF P h) w h (k - 1)) h y).2 := nxTo_pos (rest_pos (hP.pos h) _) _
  obtain ⟨N, hN⟩ : ∃ N, nxF (restF (priF P h) w h (k - 1)) h y = N := ⟨_, rfl⟩
  rw [hN] at enx hcap hpo er
  rw [er]
  have e4 := wa1 (a := x) (by omega)
  have e5 : IntKind.i64.wrap (priF P h x y + N.2) = priF P h x y + N.2 := w64 (by omega)
  haveI hcolC : ∀ H, PureCon ext prog 95 [grV w h rp rr, .int .i64 ((x + 1 : Nat) : Int)] H 1 (colV w h rr (x + 1)) := fun H => ⟨K_column hw hh (by omega) hxw1⟩
  repeat first | refine mI ?_ | refine fd ?_ | refine Fo.ld rfl rfl ?_ | refine Fo.ldN rfl rfl (by simp only [↓nrmL, nrmZ, qe, ↓reduceIte, qz, qn, qq, e1, e2, eP, e3, hc, e4]; rfl) ?_ | refine bn rfl rfl rfl (by simp only [e1, e2, eP, e3, hc, e4]; rfl) ?_ | (refine Fo.pcall (v' := ?_) hn rfl (by simp only [↓nrmL, nrmZ, qe, ↓reduceIte, qz, qn, qq, e1, e2, eP, e3, hc, e4, List.map]; rfl) rfl ?hv fun _ _ => ?_; case hv => rfl) | (refine Fo.idx (by simp only [↓nrmL, nrmK, qe, ↓reduceIte]; rfl) rfl ?_ (by simp only [↓nrmL, nrmZ, qe, ↓reduceIte, qz, qn, qq, e1, e2, eP, e3, hc, e4]; rfl) ?_; (focus omega)) | (refine Fo.ldI rfl ?_ (by simp only [e1, e2, eP, e3, hc, e4]; rfl) ?_; (focus omega)) | refine nl hKF ?_ | refine sq ?_ | refine rg fun KF hKF => ?_ | refine ct rfl ?_
  haveI := hcol
  refine WpO.do (WpX.conD hn rfl rfl (by simp only [↓nrmL, nrmZ, qe, ↓reduceIte, qz, qn, qq, List.map] <;> rfl) (K_next (p := colV w h rr (x + 1)) (y := y) (l := colL (mesL P R w h k y) h (x + 1)) (by omega) (by omega) (by omega) hrange) fun v H5 h5 => ?_)
  obtain ⟨rfl, hx5⟩ := h5
  rw [enx]
  haveI : ExtI _ H5 := ⟨hx5⟩
  simp only [↓nrmL, nrmZ, qe, ↓reduceIte, qz, qn, qq, e5]
  repeat first | refine mI ?_ | refine mT ?_ | refine bn rfl rfl rfl (by simp only [e5]; rfl) ?_ | refine xt ?_ | refine nl hKF ?_ | refine sq ?_ | refine rg fun KF hKF => ?_ | refine rt ?_ | dsimp only
  refine rz trivial ?_
  exact ⟨rfl, Ext0.ext⟩
end Go.Am

namespace Go.Am
open Go
open Nat renaming reduceEqDiff → qe, reduceAdd → qz
open Int renaming reduceBEq → qn, reduceBNe → qq
attribute [local irreducible] Wp WpO WpX WpE
abbrev rrV (w h rr : Nat) : AVal := .slice rr 0 (w * h) (some (w * h)) 1
theorem K_measure {w h rp rr : Nat} {H : AHeap} {P R : List Int} (hw : w ≤ 640) (hh : h ≤ 640) (hw0 : 0 < w) (hh0 : 0 < h) (hP : PosL P) (hg : GrI H rp rr (w * h) P R) : Con ext prog 9 57 [grV w h rp rr] H fun v H' => v = .int .i64 (mnL (colL (restL P w h) h 0) (h - 1)) ∧ GrI H' rp rr (w * h) P (restL P w h) ∧ ExtP H H' (rrV w h rr) := by
 refine con_of (show prog 57 = some c57 from rfl) rfl rfl fun n hn => ?_
 have hm : w * h ≤ 640 * 640 := Nat.mul_le_mul hw hh
 have hrr := hg.kr.lt
 have hrp := hg.kp.lt
 have hne := hg.ne
 haveI : RowNe (rrV w h rr) H.n := ⟨fun r _ _ _ _ e => by cases e; omega⟩
 haveI : NeR H.n rr := ⟨by omega⟩
 haveI : RowNe (rrV w h rr) rp := ⟨fun r _ _ _ _ e => by cases e; omega⟩
 have e1 : IntKind.i64.wrap ((w : Int) - 1) = (w : Int) - 1 := w64 (by omega)
 have hcolC : ∀ x, x < w → ∀ H, PureCon ext prog 95 [grV w h rp rr, .int .i64 (x : Int)] H 1 (colV w h rr x) := fun x hx H => ⟨K_column hw hh hh0 hx⟩
 repeat first | refine mI ?_ | refine mF ?_ | refine fd ?_ | refine Fo.ld rfl rfl ?_ | refine bn rfl rfl rfl (by simp only [e1]; rfl) ?_ | refine bA ?_ | refine Fo.now rfl rfl rfl ?_ | refine nl hKF ?_ | refine sq ?_ | refine rg fun KF hKF => ?_ | refine Wp.block ?_ | dsimp only
 refine Wp.loopS [4, 5, 6, 11, 12, 13, 14, 15, 16, 17, 18, 19, 20, 21, 22, 23, 24, 25, 26, 27, 28, 29, 30] (fun k : Nat => [(4, .int .i64 ((w : Int) - 1 - (k : Int)))]) (fun _ k H2 => k ≤ w ∧ HasRow H2 rr (cellsI (mesL P R w h k 0)) true (2 * 3) ∧ HasRow H2 H.n [.int .i64 (w : Int), .int .i64 (h : Int), .slice rp 0 (w * h) (some (w * h)) 1, .slice rr 0 (w * h) (some (w * h)) 1] true (2 * 83) ∧ ExtP H H2 (rrV w h rr)) (fun k => w - k) 0 rfl (fun _ => rfl) ⟨by simp only [↓nrmL, nrmZ, qe, ↓reduceIte, qz, qn, qq]; rw [show (w : Int) - 1 - ((0 : Nat) : Int) = (w : Int) - 1 by omega], trivial⟩ ⟨Nat.zero_le _, by rw [mes_zero hg.lr]; haveI := hg.kr; exact inferInstance, inferInstance, (ExtP.refl _ _).pushN⟩ (by unfold fuel0 at hn; omega) ?_
 rintro k g H2 ⟨hk, hkr, hq, hx⟩
 haveI := hkr
 haveI := hq
 haveI := hg.kp
 haveI := hx
 have hkp2 : HasRow H2 rp (cellsI P) true (2 * 3) := inferInstance
 simp only [↓nrmL, nrmZ, qe, ↓reduceIte, qz, qn, qq]
 cases hc : decide ((w : Int) - 1 - (k : Int) ≥ 0)
 ·have hke : k = w := by have := of_decide_eq_false hc; omega
  subst hke
  rw [mes_all] at hkr
  haveI := hcolC 0 hw0
  have hci : IntsI H2 (colV k h rr 0) (colL (restL P k h) h 0) := col_ints hkr (rest_len P k h) hw0
  haveI := hci
  have hcl := colL_len (R := restL P k h) (h := h) (rest_len P k h) hw0
  repeat first | refine mI ?_ | refine Fo.ldN rfl rfl (by simp only [↓nrmL, nrmZ, qe, ↓reduceIte, qz, qn, qq, hc]; rfl) ?_ | refine bn rfl rfl rfl (by simp only [hc]; rfl) ?_ | (refine Fo.pcall (v' := ?_) hn rfl (by simp only [↓nrmL, nrmZ, qe, ↓reduceIte, qz, qn, qq, hc, List.map]; rfl) rfl ?hv fun _ _ => ?_; case hv => rfl) | refine nl hKF ?_ | refine sq ?_ | refine rg fun KF hKF => ?_ | refine cf rfl ?_ | refine xi ?_
  refine WpO.do (WpX.conD hn rfl rfl (by simp only [↓nrmL, nrmZ, qe, ↓reduceIte, qz, qn, qq, List.map] <;> rfl) (K_MinA (p := colV k h rr 0) (l := colL (restL P k h) h 0) (by omega) (by omega)) fun v H5 h5 => ?_)
  obtain ⟨rfl, hx5⟩ := h5
  rw [hcl]
  haveI : ExtI _ H5 := ⟨hx5⟩
  refine mI ?_
  refine nl hKF ?_
  refine rt ?_
  dsimp only
  refine rz trivial ?_
  exact ⟨rfl, ⟨inferInstance, by rw [← mes_all (R := R)]; exact inferInstance, hg.lp, rest_len _ _ _, hne⟩, hx.ext (Ext0.ext : Ext H2 H5)⟩
 have hkw : k < w := by have := of_decide_eq_true hc; omega
 obtain ⟨x, hxk⟩ : ∃ x, x + 1 + k = w := ⟨w - 1 - k, by omega⟩
 have ex : (w : Int) - 1 - (k : Int) = (x : Int) := by omega
 have hxw : x < w := by omega
 have h1 := col_lt (h := h) hxw
 haveI := hcolC x hxw
 have hcl0 := colL_len (R := mesL P R w h k 0) (h := h) (mes_len P R w h k 0) hxw
 haveI hci0 : IntsI H2 (colV w h rr x) (colL (mesL P R w h k 0) h x) := col_ints hkr (mes_len P R w h k 0) hxw
 rw [ex] at hc ⊢
 have hcx : decide ((x : Int) ≥ 0) = true := decide_eq_true (by omega)
 repeat first | refine mI ?_ | refine mv ?_ | refine Fo.ldN rfl rfl (by simp only [↓nrmL, nrmZ, qe, ↓reduceIte, qz, qn, qq, hcx, hcl0]; rfl) ?_ | refine bn rfl rfl rfl (by simp only [hcx, hcl0]; rfl) ?_ | (refine Fo.pcall (v' := ?_) hn rfl (by simp only [↓nrmL, nrmZ, qe, ↓reduceIte, qz, qn, qq, hcx, hcl0, List.map]; rfl) rfl ?hv fun _ _ => ?_; case hv => rfl) | (refine Fo.len (v := ?_) (by simp only [↓nrmL, nrmK, qe, ↓reduceIte]; rfl) ?hv ?_; case hv => (simp only [hcx, hcl0]; rfl)) | refine nl hKF ?_ | refine sq ?_ | refine rg fun KF hKF => ?_ | refine ct rfl ?_ | refine sk ?_ | refine Wp.block ?_ | dsimp only
 rename ExtI H2 _ => hx2b
 refine Wp.loopS [6, 20, 21, 22, 23, 24, 25, 26, 27, 28, 29, 30] (fun y : Nat => [(20, .int .i64 (y : Int))]) (fun H3 y H4 => y ≤ h ∧ HasRow H4 rr (cellsI (mesL P R w h k y)) true (2 * 3) ∧ HasRow H4 H.n [.int .i64 (w : Int), .int .i64 (h : Int), .slice rp 0 (w * h) (some (w * h)) 1, .slice rr 0 (w * h) (some (w * h)) 1] true (2 * 83) ∧ ExtP H H4 (rrV w h rr)) (fun y => h - y) 0 rfl (fun _ => rfl) ⟨rfl, trivial⟩ ⟨Nat.zero_le _, inferInstance, inferInstance, hx.ext hx2b.ext⟩ (by unfold fuel0 at hn; omega) ?_
 rintro y g2 H4 ⟨hy, hkr4, hq4, hx4⟩
 haveI := hkr4
 haveI := hq4
 haveI := hx4
 have hkp4 : HasRow H4 rp (cellsI P) true (2 * 3) := inferInstance
 simp only [↓nrmL, nrmZ, qe, ↓reduceIte, qz, qn, qq]
 cases hcy : decide ((y : Int) < (h : Int))
 ·have hye : y = h := by have := of_decide_eq_false hcy; omega
  subst hye
  have e2 : IntKind.i64.wrap ((x : Int) - 1) = (w : Int) - 1 - ((k + 1 : Nat) : Int) := by rw [w64 (by omega)]; omega
  repeat first | refine mI ?_ | refine bn rfl rfl rfl (by simp only [hcy, e2]; rfl) ?_ | refine nl hKF ?_ | refine sq ?_ | refine rg fun KF hKF => ?_ | refine cf rfl ?_ | refine xi ?_ | dsimp only
  exact ⟨k + 1, by omega, ⟨rfl, trivial⟩, by omega, by rw [← mes_col hkw]; exact hkr4, hq4, hx4⟩
 have hyl : y < h := by have := of_decide_eq_true hcy; omega
 have e3 := wa1 (a := y) (by omega)
 have hcl := colL_len (R := mesL P R w h k y) (h := h) (mes_len P R w h k y) hxw
 repeat first | refine mI ?_ | refine mF ?_ | refine mv ?_ | refine bn rfl rfl rfl (by simp only [hcy]; rfl) ?_ | refine nl hKF ?_ | refine sq ?_ | refine rg fun KF hKF => ?_ | refine ct rfl ?_ | refine sk ?_ | refine Wp.block ?_
 refine WpO.do (WpX.conC (K_from hw hh hP hq4 ⟨hkp4, hkr4, hg.lp, mes_len P R w h k y, hne⟩ hxk hyl) (Nat.le_trans (by omega) hn) rfl (by simp only [↓nrmL, nrmZ, qe, ↓reduceIte, qz, qn, qq, List.map] <;> rfl) fun v H5 h5 => ?_)
 obtain ⟨rfl, hx5⟩ := h5
 haveI : ExtI _ H5 := ⟨hx5⟩
 haveI hkr5 : HasRow H5 rr (cellsI (mesL P R w h k y)) true (2 * 3) := inferInstance
 haveI hci : IntsI H5 (colV w h rr x) (colL (mesL P R w h k y) h x) := col_ints hkr5 (mes_len P R w h k y) hxw
 refine Fo.idx (by simp only [↓nrmL, nrmK, qe, ↓reduceIte]; rfl) rfl ?_ (by simp only [↓nrmL, nrmZ, qe, ↓reduceIte, qz, qn, qq, hcl]; rfl) ?_; (focus omega)
 refine WpO.do' (WpX.stR (r := rr) (j := 0 + x * h + y) (l := mesL P R w h k y) rfl rfl (by rw [mes_len]; omega) ?_)
 rw [Nat.zero_add, mes_set hxk hyl]
 refine nl hKF ?_
 refine rg fun KF hKF => ?_
 refine bn rfl rfl rfl (by simp only [e3]; rfl) ?_
 refine mI ?_
 refine nl hKF ?_
 dsimp only
 refine ⟨y + 1, by omega, ⟨rfl, trivial⟩, by omega, inferInstance, inferInstance, ?_⟩
 exact ⟨by have := hx4.n; have := hx5.n; simp only [AHeap.set]; omega, fun s hs hp => by
  have : s ≠ rr := fun e => hp.ne _ _ _ _ _ rfl e.symm
  rw [set_get_ne this, hx5.get s (by have := hx4.n; omega), hx4.get s hs hp]⟩
end Go.Am

namespace Go.Am
open Go
open Nat renaming reduceEqDiff → qe, reduceAdd → qz
open Int renaming reduceBEq → qn, reduceBNe → qq
attribute [local irreducible] Wp WpO WpX WpE
def pathL (P : List Int) (w h y0 : Nat) : List Int := (List.range w).map fun x => (folF (priF P h) w h y0 x : Int)
theorem rest_colL {P : List Int} {w h x z : Nat} (hx : x < w) (hz : z < h) : (colL (restL P w h) h x).getD z 0 = restF (priF P h) w h (w - 1 - x) z := by
 rw [colL_at (rest_len P w h) hx hz, rest_at hx hz]
theorem K_follow {w h rp rr : Nat} {H : AHeap} {P : List Int} (hw : w ≤ 640) (hh : h ≤ 640) (hw0 : 0 < w) (hh0 : 0 < h) (hP : PosL P) (hg : GrI H rp rr (w * h) P (restL P w h)) (hmin : mnL (colL (restL P w h) h 0) (h - 1) < 1920) : Con ext prog 9 58 [grV w h rp rr] H fun v H' => ∃ y0 : Nat, y0 < h ∧ restF (priF P h) w h (w - 1) y0 = mnL (colL (restL P w h) h 0) (h - 1) ∧ (∀ j, j < y0 → restF (priF P h) w h (w - 1) j ≠ mnL (colL (restL P w h) h 0) (h - 1)) ∧ (∃ r, v = .slice r 0 w (some w) 1 ∧ HasRow H' r (cellsI (pathL P w h y0)) true (2 * 3) ∧ H.n ≤ r) ∧ Ext H H' := by
 refine con_of (show prog 58 = some c58 from rfl) rfl rfl fun n hn => ?_
 have hm : w * h ≤ 640 * 640 := Nat.mul_le_mul hw hh
 have hcolC : ∀ x, x < w → ∀ H, PureCon ext prog 95 [grV w h rp rr, .int .i64 (x : Int)] H 1 (colV w h rr x) := fun x hx H => ⟨K_column hw hh hh0 hx⟩
 have hcl : ∀ x, x < w → (colL (restL P w h) h x).length = h := fun x hx => colL_len (rest_len P w h) hx
 have hci : ∀ x, x < w → IntsI H (colV w h rr x) (colL (restL P w h) h x) := fun x hx => col_ints hg.kr (rest_len P w h) hx
 haveI := hcolC 0 hw0
 haveI := hci 0 hw0
 have hcl0 := hcl 0 hw0
 repeat first | refine mN ?_ | refine mv ?_ | refine fd ?_ | refine Fo.ld rfl rfl ?_ | refine Fo.ldN rfl rfl (by simp only [↓nrmL, nrmZ, qe, ↓reduceIte, qz, qn, qq]; rfl) ?_ | (refine Fo.pcall (v' := ?_) hn rfl (by simp only [↓nrmL, nrmZ, qe, ↓reduceIte, qz, qn, qq, List.map]; rfl) rfl ?hv fun _ _ => ?_; case hv => rfl) | refine bA ?_ | refine nl hKF ?_ | refine sq ?_ | refine rg fun KF hKF => ?_
 refine WpO.do (WpX.mkR rfl rfl (by omega) ?_)
 rename AHeap => H1
 rename ExtI _ H1 => hx1
 have hn1 := hx1.ext.n
 simp only [AHeap.push] at hn1
 repeat first | refine mv ?_ | refine nl hKF ?_ | refine sq ?_ | refine rg fun KF hKF => ?_
 refine WpO.do (WpX.conD hn rfl rfl (by simp only [↓nrmL, nrmZ, qe, ↓reduceIte, qz, qn, qq, List.map] <;> rfl) (K_MinA (p := colV w h rr 0) (l := colL (restL P w h) h 0) (by omega) (by omega)) fun v H5 h5 => ?_)
 obtain ⟨rfl, hx5⟩ := h5
 haveI : ExtI _ H5 := ⟨hx5⟩
 rw [hcl0]
 obtain ⟨m, hm0⟩ : ∃ m, mnL (colL (restL P w h) h 0) (h - 1) = m := ⟨_, rfl⟩
 rw [hm0] at hmin ⊢
 skip
 refine WpO.do (WpX.conD hn rfl rfl (by simp only [↓nrmL, nrmZ, qe, ↓reduceIte, qz, qn, qq, List.map] <;> rfl) (K_IndexA (p := colV w h rr 0) (l := colL (restL P w h) h 0) (z := m) (by omega) (by obtain ⟨i, i1, i2⟩ := mn_in (l := colL (restL P w h) h 0) (h - 1); exact ⟨i, by omega, by rw [← i2, hm0]⟩)) fun v H6 h6 => ?_)
 obtain ⟨y0, rfl, hy1, hy2, hy3, hx6⟩ := h6
 haveI : ExtI _ H6 := ⟨hx6⟩
 rw [hcl0] at hy1
 rw [rest_colL hw0 hy1, Nat.sub_zero] at hy2
 have hfol := fol_path (hP.pos h) hh0 hy1 (by rw [hy2]; exact hmin)
 obtain ⟨f, hf⟩ : ∃ f : Nat → Int, (fun x => (folF (priF P h) w h y0 x : Int)) = f := ⟨_, rfl⟩
 have hfx : ∀ x, f x = (folF (priF P h) w h y0 x : Int) := fun x => by rw [← hf]
 haveI hkr6 : HasRow H6 H1.n (cellsI (List.replicate w 0)) true (2 * 3) := inferInstance
 haveI i0 : IntsI H6 (.slice H1.n 0 w (some w) 1) (List.replicate w 0) := row_ints hkr6 List.length_replicate
 haveI := i0.one
 have hrl : 0 < (List.replicate w (0 : Int)).length := by rw [List.length_replicate]; exact hw0
 refine Fo.idx (by simp only [↓nrmL, nrmK, qe, ↓reduceIte]; rfl) rfl ?_ (by simp only [↓nrmL, nrmZ, qe, ↓reduceIte, qz, qn, qq]; rfl) ?_; (focus omega)
 refine WpO.do' (WpX.stR (r := H1.n) (j := 0) (l := List.replicate w 0) rfl rfl (by rw [List.length_replicate]; exact hw0) ?_)
 rw [show ((y0 : Nat) : Int) = f 0 by rw [hfx]; rfl, ← fillI_zero f w, fillI_set]
 repeat first | refine mI ?_ | refine nl hKF ?_ | refine sq ?_ | refine rg fun KF hKF => ?_ | refine Wp.block ?_ | dsimp only
 have hq6 : HasRow H6 H.n [.int .i64 (w : Int), .int .i64 (h : Int), .slice rp 0 (w * h) (some (w * h)) 1, .slice rr 0 (w * h) (some (w * h)) 1] true (2 * 83) := inferInstance
 have hx06 : Ext H H6 := Ext0.ext
 refine Wp.loopS [5, 17, 18, 19, 20, 21, 22, 23, 24, 25, 26, 27, 28, 29, 30, 31, 32, 33, 34, 35, 36, 37] (fun x : Nat => [(5, .int .i64 (x : Int))]) (fun _ x H2 => 1 ≤ x ∧ x ≤ w ∧ HasRow H2 H1.n (cellsI (fillI f x w)) true (2 * 3) ∧ HasRow H2 H.n [.int .i64 (w : Int), .int .i64 (h : Int), .slice rp 0 (w * h) (some (w * h)) 1, .slice rr 0 (w * h) (some (w * h)) 1] true (2 * 83) ∧ Ext H H2) (fun x => w - x) 1 rfl (fun _ => rfl) ⟨rfl, trivial⟩ ⟨Nat.le_refl _, hw0, inferInstance, by haveI : NeR H.n H1.n := ⟨by omega⟩; exact inferInstance, hx06.set (by omega) _⟩ (by unfold fuel0 at hn; omega) ?_
 rintro x g H2 ⟨hx1', hxw, hkr, hq, hx⟩
 haveI := hkr
 haveI := hq
 haveI : ExtI H H2 := ⟨hx⟩
 simp only [↓nrmL, nrmZ, qe, ↓reduceIte, qz, qn, qq]
 cases hc : decide ((x : Int) < (w : Int))
 ·have hxe : x = w := by have := of_decide_eq_false hc; omega
  subst hxe
  repeat first | refine mI ?_ | refine mv ?_ | refine fd ?_ | refine Fo.ld rfl rfl ?_ | refine bn rfl rfl rfl (by simp only [↓nrmL, nrmZ, qe, ↓reduceIte, qz, qn, qq, hc]; rfl) ?_ | refine nl hKF ?_ | refine sq ?_ | refine rg fun KF hKF => ?_ | refine cf rfl ?_ | refine rt ?_ | refine xi ?_ | dsimp only
  refine rz trivial ?_
  have ep : fillI f x x = pathL P x h y0 := by rw [fillI_all, ← hf]; rfl
  refine ⟨y0, hy1, by rw [hm0]; exact hy2, fun j hj => ?_, ⟨_, rfl, by rw [← ep]; exact inferInstance, by omega⟩, Ext0.ext⟩
  have := hy3 j hj
  rw [rest_colL hw0 (by omega), Nat.sub_zero] at this
  rw [hm0]; exact this
 have hxl : x < w := by have := of_decide_eq_true hc; omega
 have hwx := wa1 (a := x) (by omega)
 obtain ⟨x0, rfl⟩ : ∃ x0, x = x0 + 1 := ⟨x - 1, by omega⟩
 have hsub : IntKind.i64.wrap (((x0 + 1 : Nat) : Int) - 1) = (x0 : Int) := by rw [w64 (by omega)]; omega
 have hfl := fillI_len f (x0 + 1) w
 haveI hli : IntsI H2 (.slice H1.n 0 w (some w) 1) (fillI f (x0 + 1) w) := row_ints hkr hfl
 haveI := hcolC (x0 + 1) hxl
 haveI := hci (x0 + 1) hxl
 have hcx := hcl (x0 + 1) hxl
 have hxf : x0 < (fillI f (x0 + 1) w).length := by omega
 have hg0 : (fillI f (x0 + 1) w)[x0] = (folF (priF P h) w h y0 x0 : Int) := by simp [fillI, hfx]
 have hrange : ∀ z, 0 ≤ (colL (restL P w h) h (x0 + 1)).getD z 0 ∧ (colL (restL P w h) h (x0 + 1)).getD z 0 ≤ 3840 := fun z => by
  by_cases hz : z < h
  ·rw [rest_colL hxl hz]; exact ⟨rest_pos (hP.pos h) _ _, rest_max (hP.pos h) _ _⟩
  ·rw [getD_out (by omega)]; omega
 have enx : nxF (fun i => (colL (restL P w h) h (x0 + 1)).getD i 0) (colL (restL P w h) h (x0 + 1)).length (folF (priF P h) w h y0 x0) = nxF (restF (priF P h) w h (w - 1 - (x0 + 1))) h (folF (priF P h) w h y0 x0) := by
  rw [hcx]
  exact nx_congr (fun z hz => rest_colL hxl hz) hh0
 have hfs : f (x0 + 1) = ((nxF (restF (priF P h) w h (w - 1 - (x0 + 1))) h (folF (priF P h) w h y0 x0)).1 : Int) := by rw [hfx]; rfl
 haveI hnx : ∀ (H1 : AHeap) [IntsI H1 (colV w h rr (x0 + 1)) (colL (restL P w h) h (x0 + 1))], PureCon ext prog 94 [colV w h rr (x0 + 1), .int .i64 (folF (priF P h) w h y0 x0 : Int)] H1 6 (.tuple [.int .i64 (f (x0 + 1)), .int .i64 (nxF (restF (priF P h) w h (w - 1 - (x0 + 1))) h (folF (priF P h) w h y0 x0)).2]) := fun H1 hI => ⟨by
  rw [hfs, ← enx]
  exact K_next (by omega) (by omega) (by rw [hcx]; exact hfol.row x0 (by omega)) hrange⟩
 refine sq ?_
 refine sq ?_
 refine rg fun KF hKF => ?_
 refine mI ?_
 refine fd ?_
 refine Fo.ld rfl rfl ?_
 refine bn rfl rfl rfl (by simp only [↓nrmL, nrmZ, qe, ↓reduceIte, qz, qn, qq, hc]; rfl) ?_
 refine nl hKF ?_
 refine ct rfl ?_
 refine sk ?_
 refine sq ?_
 refine Wp.block ?_
 dsimp only
 refine Fr.dregion0 rfl fun KF hKF => ?_
 simp only [↓nrmL, nrmZ, qe, ↓reduceIte, qz, qn, qq, hsub, hg0]
 repeat first | refine Er rfl (exec_ldN rfl rfl (by simp only [↓nrmL, nrmZ, qe, ↓reduceIte, qz, qn, qq, hsub, hg0]; rfl)) rfl ?_ | refine Fe.pure rfl rfl (by simp only [↓nrmL, nrmZ, qe, ↓reduceIte, qz, qn, qq, hsub, hg0]; rfl) ?_ | refine Fe.pure rfl rfl rfl ?_ | (refine Fe.pure rfl (exec_idxP (by (try simp only [↓nrmL, nrmZ, qe, ↓reduceIte, qz, qn, qq, hsub, hg0]); rfl) rfl ?_) (by simp only [↓nrmL, nrmZ, qe, ↓reduceIte, qz, qn, qq, hsub, hg0]; rfl) ?_; (focus omega)) | refine Er rfl (exec_ldI rfl (by omega)) (by simp only [↓nrmL, nrmZ, qe, ↓reduceIte, qz, qn, qq, hsub, hg0]; rfl) ?_ | (refine Fe.pcall (v' := ?_) rfl hn rfl (by simp only [↓nrmL, nrmZ, qe, ↓reduceIte, qz, qn, qq, hsub, hg0, List.map]; rfl) rfl ?hv fun _ _ => ar ?_; case hv => rfl)
 refine WpE.stR (r := H1.n) (j := 0 + (x0 + 1)) (l := fillI f (x0 + 1) w) rfl rfl rfl (by omega) (ar ?_)
 rw [show 0 + (x0 + 1) = x0 + 1 from Nat.zero_add _, fillI_set]
 rename AHeap => H7
 have hx7' : Ext H2 H7 := Ext0.ext
 refine WpE.nil (hKF _ _ ?_)
 simp only [hwx]
 refine rg fun KF hKF => ?_
 refine mI ?_
 refine bn rfl rfl rfl (by simp only [↓nrmL, nrmZ, qe, ↓reduceIte, qz, qn, qq, hwx]; rfl) ?_
 refine mI ?_
 refine nl hKF ?_
 dsimp only
 haveI : NeR H.n H1.n := ⟨by omega⟩
 exact ⟨x0 + 1 + 1, by omega, ⟨rfl, trivial⟩, by omega, by omega, inferInstance, inferInstance, (hx.trans hx7').set (by omega) _⟩
end Go.Am

namespace Go.Am
open Go
open Nat renaming reduceEqDiff → qe, reduceAdd → qz
open Int renaming reduceBEq → qn, reduceBNe → qq
attribute [local irreducible] Wp WpO WpX WpE
def forL (P : List Int) (q : Nat → Nat) (w h x y : Nat) : List Int := (List.range (w * h)).map fun i => if (i / h < x ∨ (i / h = x ∧ i % h < y)) ∧ q (i / h) ≤ i % h + 2 ∧ i % h ≤ q (i / h) + 2 then 1920 else P.getD i 0
theorem for_len (P : List Int) (q : Nat → Nat) (w h x y : Nat) : (forL P q w h x y).length = w * h := by simp [forL]
theorem for_at {P : List Int} {q : Nat → Nat} {w h x y i : Nat} (hi : i < w * h) : (forL P q w h x y).getD i 0 = if (i / h < x ∨ (i / h = x ∧ i % h < y)) ∧ q (i / h) ≤ i % h + 2 ∧ i % h ≤ q (i / h) + 2 then 1920 else P.getD i 0 := by
 rw [getD_at (by rw [for_len]; exact hi)]
 simp [forL]
theorem for_zero {P : List Int} {q : Nat → Nat} {w h : Nat} (hl : P.length = w * h) : forL P q w h 0 0 = P := by
 apply List.ext_getElem
 ·rw [for_len, hl]
 ·intro i h1 h2
  rw [for_len] at h1
  rw [← getD_at, for_at h1, if_neg (by have := Nat.zero_le (i / h); omega), getD_at h2]
theorem for_first {P : List Int} {q : Nat → Nat} {w h x : Nat} : forL P q w h x 0 = forL P q w h x (q x - 2) := by
 unfold forL
 apply List.map_congr_left
 intro i _
 have := Nat.zero_le (i / h)
 by_cases e : i / h = x
 ·subst e
  by_cases hc : (i / h < i / h ∨ (i / h = i / h ∧ i % h < 0)) ∧ q (i / h) ≤ i % h + 2 ∧ i % h ≤ q (i / h) + 2
  ·omega
  ·rw [if_neg hc, if_neg (by omega)]
 ·by_cases hc : (i / h < x ∨ (i / h = x ∧ i % h < 0)) ∧ q (i / h) ≤ i % h + 2 ∧ i % h ≤ q (i / h) + 2
  ·rw [if_pos hc, if_pos ⟨by omega, hc.2⟩]
  ·rw [if_neg hc, if_neg (fun k => hc ⟨by omega, k.2⟩)]
theorem for_col {P : List Int} {q : Nat → Nat} {w h x : Nat} : forL P q w h x (min (q x + 2) (h - 1) + 1) = forL P q w h (x + 1) 0 := by
 unfold forL
 apply List.map_congr_left
 intro i hi
 have hi := List.mem_range.1 hi
 have h0 : 0 < h := by
  rcases Nat.eq_zero_or_pos h with e | e
  ·subst e; omega
  ·exact e
 have hm := Nat.mod_lt i h0
 by_cases e : i / h = x
 ·subst e
  by_cases hc : (i / h < i / h ∨ (i / h = i / h ∧ i % h < min (q (i / h) + 2) (h - 1) + 1)) ∧ q (i / h) ≤ i % h + 2 ∧ i % h ≤ q (i / h) + 2
  ·rw [if_pos hc, if_pos ⟨by omega, hc.2⟩]
  ·rw [if_neg hc, if_neg (fun k => hc ⟨by omega, k.2⟩)]
 ·by_cases hc : (i / h < x ∨ (i / h = x ∧ i % h < min (q x + 2) (h - 1) + 1)) ∧ q (i / h) ≤ i % h + 2 ∧ i % h ≤ q (i / h) + 2
  ·rw [if_pos hc, if_pos ⟨by omega, hc.2⟩]
  ·rw [if_neg hc, if_neg (fun k => hc ⟨by omega, k.2⟩)]
theorem for_set {P : List Int} {q : Nat → Nat} {w h x y : Nat} (h1 : q x ≤ y + 2) (h2 : y ≤ q x + 2) (hy : y < h) : (forL P q w h x y).set (x * h + y) 1920 = forL P q w h x (y + 1) := by
 obtain ⟨e1, e2⟩ := cell_at (x := x) hy
 apply List.ext_getElem
 ·simp [forL]
 ·intro i h3 h4
  rw [List.getElem_set]
  simp only [forL, List.getElem_map, List.getElem_range]
  by_cases e : x * h + y = i
  ·subst e
   rw [if_pos rfl, e1, e2, if_pos ⟨Or.inr ⟨rfl, by omega⟩, h1, h2⟩]
  ·rw [if_neg e]
   have hne : ¬ (i / h = x ∧ i % h = y) := fun k => e (cell_inj (h := h) (by omega) (by omega))
   by_cases hc : (i / h < x ∨ (i / h = x ∧ i % h < y)) ∧ q (i / h) ≤ i % h + 2 ∧ i % h ≤ q (i / h) + 2
   ·rw [if_pos hc, if_pos ⟨by omega, hc.2⟩]
   ·rw [if_neg hc, if_neg (fun k => hc ⟨by omega, k.2⟩)]
def forA (P : List Int) (q : Nat → Nat) (w h : Nat) : List Int := forL P q w h w 0
theorem forA_at {P : List Int} {q : Nat → Nat} {w h x y : Nat} (hx : x < w) (hy : y < h) : priF (forA P q w h) h x y = if q x ≤ y + 2 ∧ y ≤ q x + 2 then 1920 else priF P h x y := by
 have h1 := col_lt (h := h) hx
 obtain ⟨e1, e2⟩ := cell_at (x := x) hy
 unfold priF forA
 rw [for_at (by omega), e1, e2]
 by_cases hc : q x ≤ y + 2 ∧ y ≤ q x + 2
 ·rw [if_pos ⟨Or.inl hx, hc⟩, if_pos hc]
 ·rw [if_neg (fun k => hc k.2), if_neg hc]
theorem forA_len (P : List Int) (q : Nat → Nat) (w h : Nat) : (forA P q w h).length = w * h := for_len _ _ _ _ _ _
theorem forA_pos {P : List Int} {q : Nat → Nat} {w h : Nat} (hP : PosL P) : PosL (forA P q w h) := ⟨fun i => by
 by_cases hi : i < w * h
 ·unfold forA
  rw [for_at hi]
  have := hP.it i
  split <;> omega
 ·rw [getD_out (by rw [forA_len]; omega)]; omega⟩
theorem K_forbid {w h rp rr rq : Nat} {H : AHeap} {P L : List Int} {q : Nat → Nat} {e : TypeId} (hw : w ≤ 640) (hh : h ≤ 640) (hw0 : 0 < w) (hh0 : 0 < h) (hPl : P.length = w * h) (kp : HasRow H rp (cellsI P) true (2 * 3)) (kq : HasRow H rq (cellsI L) true e) (hne : rq ≠ rp) (hL : L.length = w) (hq : ∀ x, x < w → L.getD x 0 = (q x : Int) ∧ q x < h) : Con ext prog 1 59 [grV w h rp rr, .slice rq 0 w (some w) 1] H fun _ H' => HasRow H' rp (cellsI (forA P q w h)) true (2 * 3) ∧ ExtP H H' (rrV w h rp) := by
 refine con_of (show prog 59 = some c59 from rfl) rfl rfl fun n hn => ?_
 have hm : w * h ≤ 640 * 640 := Nat.mul_le_mul hw hh
 have hrp := kp.lt
 have hrq := kq.lt
 haveI : RowNe (rrV w h rp) H.n := ⟨fun r _ _ _ _ e => by cases e; omega⟩
 haveI : RowNe (rrV w h rp) rq := ⟨fun r _ _ _ _ e => by cases e; omega⟩
 haveI : NeR H.n rp := ⟨by omega⟩
 haveI : NeR rq rp := ⟨hne⟩
 haveI hLi : IntsI H (.slice rq 0 w (some w) 1) L := row_ints kq hL
 haveI : SepS (.slice rq 0 w (some w) 1) (rrV w h rp) := ⟨fun r _ _ _ _ r' _ _ _ _ e e' => by cases e; cases e'; exact hne⟩
 haveI := kp
 repeat first | refine mI ?_ | refine mv ?_ | refine ln (by simp only [↓nrmL, nrmK, qe, ↓reduceIte]; rfl) ?_ | refine bA ?_ | refine nl hKF ?_ | refine sq ?_ | refine rg fun KF hKF => ?_ | refine Wp.block ?_ | dsimp only
 refine Wp.loopS [4, 5, 6, 9, 10, 11, 12, 13, 14, 15, 16, 17, 18, 19, 20, 21, 22, 23, 24, 25, 26, 27, 28, 29, 30, 31, 32, 33, 34, 35, 36] (fun x : Nat => [(9, .int .i64 (x : Int))]) (fun _ x H2 => x ≤ w ∧ HasRow H2 rp (cellsI (forL P q w h x 0)) true (2 * 3) ∧ HasRow H2 H.n [.int .i64 (w : Int), .int .i64 (h : Int), .slice rp 0 (w * h) (some (w * h)) 1, .slice rr 0 (w * h) (some (w * h)) 1] true (2 * 83) ∧ ExtP H H2 (rrV w h rp)) (fun x => w - x) 0 rfl (fun _ => rfl) ⟨rfl, trivial⟩ ⟨Nat.zero_le _, by rw [for_zero hPl]; exact inferInstance, inferInstance, (ExtP.refl _ _).pushN⟩ (by unfold fuel0 at hn; omega) ?_
 rintro x g H2 ⟨hx, hkp, hbx, hxp⟩
 haveI := hkp
 haveI := hbx
 haveI := hxp
 simp only [↓nrmL, nrmZ, qe, ↓reduceIte, qz, qn, qq]
 cases hc : decide ((x : Int) < (L.length : Int))
 ·have hxe : x = w := by have := of_decide_eq_false hc; omega
  subst hxe
  refine sq ?_
  refine rg fun KF hKF => ?_
  refine bn rfl rfl rfl (by simp only [hc]; rfl) ?_
  refine nl hKF ?_
  refine sq ?_
  refine cf rfl ?_
  refine xi ?_
  dsimp only
  refine rz trivial ?_
  exact ⟨hkp, hxp⟩
 have hxl : x < w := by have := of_decide_eq_true hc; omega
 have hxL : x < L.length := by omega
 obtain ⟨hqx, hqh⟩ := hq x hxl
 have gx : L[x] = (q x : Int) := by rw [← getD_at hxL]; exact hqx
 have h1 := col_lt (h := h) hxl
 have e1 : IntKind.i64.wrap ((q x : Int) - 2) = (q x : Int) - 2 := w64 (by omega)
 have e2 : (if (0 : Int) > (q x : Int) - 2 then (0 : Int) else (q x : Int) - 2) = ((q x - 2 : Nat) : Int) := by split <;> omega
 have e3 : IntKind.i64.wrap ((q x : Int) + 2) = ((q x + 2 : Nat) : Int) := by rw [w64 (by omega)]; omega
 have e4 : IntKind.i64.wrap ((h : Int) - 1) = ((h - 1 : Nat) : Int) := by rw [w64 (by omega)]; omega
 obtain ⟨hi, hhi⟩ : ∃ hi, min (q x + 2) (h - 1) = hi := ⟨_, rfl⟩
 have e5 : (if ((h - 1 : Nat) : Int) < ((q x + 2 : Nat) : Int) then ((h - 1 : Nat) : Int) else ((q x + 2 : Nat) : Int)) = (hi : Int) := by rw [← hhi]; split <;> omega
 have e6 := wa1 (a := x) (by omega)
 repeat first | refine mI ?_ | refine bn rfl rfl rfl (by simp only [hc, gx, e1, e2]; rfl) ?_ | (refine Fo.idx (by simp only [↓nrmL, nrmK, qe, ↓reduceIte]; rfl) rfl ?_ (by simp only [↓nrmL, nrmZ, qe, ↓reduceIte, qz, qn, qq, hc, gx, e1, e2]; rfl) ?_; (focus omega)) | (refine Fo.ldI rfl ?_ (by simp only [hc, gx, e1, e2]; rfl) ?_; (focus omega)) | refine Fo.now rfl rfl (by simp only [hc, gx, e1, e2]; rfl) ?_ | refine nl hKF ?_ | refine sq ?_ | refine rg fun KF hKF => ?_ | refine ct rfl ?_ | refine sk ?_ | refine Wp.block ?_ | dsimp only
 refine Wp.loopS [6, 17, 18, 19, 20, 21, 22, 23, 24, 25, 26, 27, 28, 29, 30, 31, 32, 33, 34, 35] (fun y : Nat => [(6, .int .i64 (y : Int))]) (fun _ y H4 => q x - 2 ≤ y ∧ y ≤ hi + 1 ∧ HasRow H4 rp (cellsI (forL P q w h x y)) true (2 * 3) ∧ HasRow H4 H.n [.int .i64 (w : Int), .int .i64 (h : Int), .slice rp 0 (w * h) (some (w * h)) 1, .slice rr 0 (w * h) (some (w * h)) 1] true (2 * 83) ∧ ExtP H H4 (rrV w h rp)) (fun y => hi + 1 - y) (q x - 2) rfl (fun _ => rfl) ⟨rfl, trivial⟩ ⟨Nat.le_refl _, by omega, by rw [← for_first]; exact hkp, hbx, hxp⟩ (by unfold fuel0 at hn; omega) ?_
 rintro y g2 H4 ⟨hy1, hy2, hkp4, hbx4, hxp4⟩
 haveI := hkp4
 haveI := hbx4
 haveI := hxp4
 simp only [↓nrmL, nrmZ, qe, ↓reduceIte, qz, qn, qq]
 cases hcy : decide ((y : Int) ≤ (hi : Int))
 ·have hye : y = hi + 1 := by have := of_decide_eq_false hcy; omega
  subst hye
  repeat first | refine mI ?_ | refine fd ?_ | refine Fo.ld rfl rfl ?_ | refine bn rfl rfl rfl (by simp only [e3, e4, Bool.false_eq_true, if_false, e5, hcy, e6]; rfl) ?_ | refine Fo.now rfl rfl (by simp only [e3, e4, Bool.false_eq_true, if_false, e5, hcy, e6]; rfl) ?_ | refine nl hKF ?_ | refine sq ?_ | refine rg fun KF hKF => ?_ | refine cf rfl ?_ | refine xi ?_ | dsimp only
  exact ⟨x + 1, by omega, ⟨rfl, trivial⟩, by omega, by rw [← for_col, hhi]; exact hkp4, hbx4, hxp4⟩
 have hyl : y ≤ hi := by have := of_decide_eq_true hcy; omega
 have hyh : y < h := by omega
 have e7 := wa1 (a := y) (by omega)
 have e8 : IntKind.i64.wrap ((x : Int) * (h : Int)) = ((x * h : Nat) : Int) := wm (by omega)
 have e9 : IntKind.i64.wrap (((x * h : Nat) : Int) + (y : Int)) = ((x * h + y : Nat) : Int) := wa (by omega)
 have hpl := for_len P q w h x y
 haveI hpi : IntsI H4 (.slice rp 0 (w * h) (some (w * h)) 1) (forL P q w h x y) := row_ints hkp4 hpl
 repeat first | refine mI ?_ | refine fd ?_ | refine Fo.ld rfl rfl ?_ | refine bn rfl rfl rfl (by simp only [e3, e4, Bool.false_eq_true, if_false, e5, hcy, e8, e9]; rfl) ?_ | (refine Fo.idx (by simp only [↓nrmL, nrmK, qe, ↓reduceIte]; rfl) rfl ?_ (by simp only [↓nrmL, nrmZ, qe, ↓reduceIte, qz, qn, qq, e3, e4, Bool.false_eq_true, if_false, e5, hcy, e8, e9]; rfl) ?_; (focus omega)) | refine Fo.now rfl rfl (by simp only [e3, e4, Bool.false_eq_true, if_false, e5, hcy, e8, e9]; rfl) ?_ | refine nl hKF ?_ | refine sq ?_ | refine rg fun KF hKF => ?_ | refine ct rfl ?_ | refine sk ?_ | refine Wp.block ?_
 refine WpO.do' (WpX.stR (r := rp) (j := 0 + (x * h + y)) (l := forL P q w h x y) rfl rfl (by omega) ?_)
 rw [show 0 + (x * h + y) = x * h + y from Nat.zero_add _, for_set (by omega) (by omega) hyh]
 simp only [↓nrmL, nrmZ, qe, ↓reduceIte, qz, qn, qq, e7]
 repeat first | refine mI ?_ | refine bn rfl rfl rfl (by simp only [e7]; rfl) ?_ | refine nl hKF ?_ | refine rg fun KF hKF => ?_ | dsimp only
 exact ⟨y + 1, by omega, ⟨rfl, trivial⟩, by omega, by omega, inferInstance, inferInstance, ⟨by have := hxp4.n; simp only [AHeap.set]; omega, fun s hs hp => by
  have : s ≠ rp := fun e => hp.ne _ _ _ _ _ rfl e.symm
  rw [set_get_ne this, hxp4.get s hs hp]⟩⟩
end Go.Am


namespace Go.Am
open Go
attribute [local irreducible] Wp WpO WpX WpE
theorem getD_mapA {α : Type} {d : α} {f : Nat → α} {n i : Nat} (h : i < n) : ((List.range n).map f).getD i d = f i := by simp [h]
theorem list_eqA {α : Type} {l m : List α} (d : α) (hl : l.length = m.length) (h : ∀ t, t < l.length → l.getD t d = m.getD t d) : l = m := by
 apply List.ext_getElem hl
 intro i h1 h2
 have := h i h1
 simpa [h1, h2] using this
def pd (l : List UInt8) (k : Nat) : Int := bif l.getD k 0 == 1 then 1 else 0
def rc (l : List UInt8) (a j x : Nat) : Int := (((List.range x).filter fun u => l.getD (j * a + u) 0 == 1).length : Nat)
def cc (l : List UInt8) (a i y : Nat) : Int := (((List.range y).filter fun v => l.getD (v * a + i) 0 == 1).length : Nat)
theorem rc_succ (l : List UInt8) (a j x : Nat) : rc l a j (x + 1) = rc l a j x + pd l (j * a + x) := by
 unfold rc pd
 rw [List.range_succ, List.filter_append, List.length_append]
 cases h : (l.getD (j * a + x) 0 == 1)
 ·rw [List.filter_cons_of_neg (by rw [h]; decide)]; simp
 ·rw [List.filter_cons_of_pos (by rw [h])]; simp
theorem cc_succ (l : List UInt8) (a i y : Nat) : cc l a i (y + 1) = cc l a i y + pd l (y * a + i) := by
 unfold cc pd
 rw [List.range_succ, List.filter_append, List.length_append]
 cases h : (l.getD (y * a + i) 0 == 1)
 ·rw [List.filter_cons_of_neg (by rw [h]; decide)]; simp
 ·rw [List.filter_cons_of_pos (by rw [h])]; simp
theorem rc_bd (l : List UInt8) (a j x : Nat) : 0 ≤ rc l a j x ∧ rc l a j x ≤ x := by
 unfold rc
 have := List.length_filter_le (fun u => l.getD (j * a + u) 0 == 1) (List.range x)
 rw [List.length_range] at this
 omega
theorem cc_bd (l : List UInt8) (a i y : Nat) : 0 ≤ cc l a i y ∧ cc l a i y ≤ y := by
 unfold cc
 have := List.length_filter_le (fun v => l.getD (v * a + i) 0 == 1) (List.range y)
 rw [List.length_range] at this
 omega
theorem pd_bd (l : List UInt8) (k : Nat) : 0 ≤ pd l k ∧ pd l k ≤ 1 := by
 unfold pd
 cases (l.getD k 0 == 1) <;> simp
def rowsP (l : List UInt8) (a b y x : Nat) : List Int := (List.range b).map fun j => if j < y then rc l a j a else if j = y then rc l a j x else 0
def colsP (l : List UInt8) (a y x : Nat) : List Int := (List.range a).map fun i => if i < x then cc l a i (y + 1) else cc l a i y
def rowsL (l : List UInt8) (a b : Nat) : List Int := (List.range b).map fun j => rc l a j a
def colsL (l : List UInt8) (a b : Nat) : List Int := (List.range a).map fun i => cc l a i b
theorem rowsP_length (l : List UInt8) (a b y x : Nat) : (rowsP l a b y x).length = b := by simp [rowsP]
theorem colsP_length (l : List UInt8) (a y x : Nat) : (colsP l a y x).length = a := by simp [colsP]
theorem rowsP_zero (l : List UInt8) (a b : Nat) : rowsP l a b 0 0 = List.replicate b 0 := by
 refine list_eqA 0 (by rw [rowsP_length, List.length_replicate]) fun t ht => ?_
 rw [rowsP_length] at ht
 rw [rowsP, getD_mapA ht, if_neg (by omega)]
 have : rc l a t 0 = 0 := rfl
 rw [this]
 simp [ht]
theorem colsP_zero (l : List UInt8) (a : Nat) : colsP l a 0 0 = List.replicate a 0 := by
 refine list_eqA 0 (by rw [colsP_length, List.length_replicate]) fun t ht => ?_
 rw [colsP_length] at ht
 rw [colsP, getD_mapA ht, if_neg (by omega)]
 have : cc l a t 0 = 0 := rfl
 rw [this]
 simp [ht]
theorem rowsP_next (l : List UInt8) (a b y : Nat) : rowsP l a b y a = rowsP l a b (y + 1) 0 := by
 refine list_eqA 0 (by rw [rowsP_length, rowsP_length]) fun t ht => ?_
 rw [rowsP_length] at ht
 rw [rowsP, rowsP, getD_mapA ht, getD_mapA ht]
 by_cases h1 : t < y
 ·rw [if_pos h1, if_pos (by omega)]
 ·rw [if_neg h1]
  by_cases h2 : t = y
  ·rw [if_pos h2, if_pos (by omega)]
  ·rw [if_neg h2, if_neg (by omega)]
   by_cases h3 : t = y + 1
   ·rw [if_pos h3]; rfl
   ·rw [if_neg h3]
theorem colsP_next (l : List UInt8) (a y : Nat) : colsP l a y a = colsP l a (y + 1) 0 := by
 refine list_eqA 0 (by rw [colsP_length, colsP_length]) fun t ht => ?_
 rw [colsP_length] at ht
 rw [colsP, colsP, getD_mapA ht, getD_mapA ht, if_pos ht, if_neg (by omega)]
theorem rowsP_all (l : List UInt8) (a b : Nat) : rowsP l a b b 0 = rowsL l a b := by
 refine list_eqA 0 (by simp [rowsP_length, rowsL]) fun t ht => ?_
 rw [rowsP_length] at ht
 rw [rowsP, rowsL, getD_mapA ht, getD_mapA ht, if_pos ht]
theorem colsP_all (l : List UInt8) (a b : Nat) : colsP l a b 0 = colsL l a b := by
 refine list_eqA 0 (by simp [colsP_length, colsL]) fun t ht => ?_
 rw [colsP_length] at ht
 rw [colsP, colsL, getD_mapA ht, getD_mapA ht, if_neg (by omega)]
theorem rowsP_get {l : List UInt8} {a b y x : Nat} (hy : y < b) : (rowsP l a b y x)[y]'(by rw [rowsP_length]; exact hy) = rc l a y x := by
 simp [rowsP]
theorem colsP_get {l : List UInt8} {a y x : Nat} (hx : x < a) : (colsP l a y x)[x]'(by rw [colsP_length]; exact hx) = cc l a x y := by
 simp [colsP]
theorem rowsP_set {l : List UInt8} {a b y x : Nat} : (rowsP l a b y x).set y (rc l a y x + pd l (y * a + x)) = rowsP l a b y (x + 1) := by
 refine list_eqA 0 (by rw [List.length_set, rowsP_length, rowsP_length]) fun t ht => ?_
 rw [List.length_set, rowsP_length] at ht
 rw [List.getD_eq_getElem?_getD, List.getElem?_set, rowsP_length, rowsP, rowsP, getD_mapA ht]
 by_cases h1 : y = t
 ·subst h1
  rw [if_pos rfl, if_pos ht, if_neg (by omega), if_pos rfl, rc_succ]; rfl
 ·rw [if_neg h1, ← List.getD_eq_getElem?_getD, getD_mapA ht]
  by_cases h2 : t < y
  ·rw [if_pos h2, if_pos h2]
  ·rw [if_neg h2, if_neg h2, if_neg (fun e => h1 e.symm), if_neg (fun e => h1 e.symm)]
theorem colsP_set {l : List UInt8} {a y x : Nat} : (colsP l a y x).set x (cc l a x y + pd l (y * a + x)) = colsP l a y (x + 1) := by
 refine list_eqA 0 (by rw [List.length_set, colsP_length, colsP_length]) fun t ht => ?_
 rw [List.length_set, colsP_length] at ht
 rw [List.getD_eq_getElem?_getD, List.getElem?_set, colsP_length, colsP, colsP, getD_mapA ht]
 by_cases h1 : x = t
 ·subst h1
  rw [if_pos rfl, if_pos ht, if_pos (by omega), cc_succ]; rfl
 ·rw [if_neg h1, ← List.getD_eq_getElem?_getD, getD_mapA ht]
  by_cases h2 : t < x
  ·rw [if_pos h2, if_pos (by omega)]
  ·rw [if_neg h2, if_neg (by omega)]
def cnt (l : List UInt8) (k : Nat) : Int := ((l.take k).count 1 : Nat)
end Go.Am


namespace Go.Am
open Go
attribute [local irreducible] Wp WpO WpX WpE
theorem made_mkI {fr : AFrame} {e : TypeId} {x y : ROpd} {k k' : IntKind} {a : Nat} (hx : x.ev fr = .int k a) (hy : y.ev fr = .int k' a) (h0 : a ≤ 2 ^ 40) : (ROp.makeSlice e [.int .i64 0] 8 x y).made fr = some (cellsI (List.replicate a 0), e, fun r => .slice r 0 a (some a) 1) := by
 rw [← mk_ints]; exact made_mk hx hy (by omega)
end Go.Am


namespace Go.Am
open Go
open Nat renaming reduceEqDiff → qe, reduceAdd → qz
open Int renaming reduceBEq → qn, reduceBNe → qq
attribute [local irreducible] Wp WpO WpX WpE
def ProfRes (H H' : AHeap) (v : AVal) (r c : List Int) (e : Int) : Prop := ∃ p q, v = .tuple [p, q, .int .i64 e] ∧ NewInts H H' p r ∧ NewInts H H' q c
theorem wpd {l : List UInt8} (h : pxOk l = true) {k : Nat} (hk : k < l.length) : IntKind.i64.wrap ((l[k].toNat : Nat) : Int) = pd l k := by
 rw [wu8]
 unfold pd
 have e : l.getD k 0 = l[k] := by simp [hk]
 rcases px_get h hk with h1 | h1 <;> (rw [e] at h1 ⊢; rw [h1]; rfl)
theorem K_Profile {a b : Nat} {p : AVal} {H : AHeap} {l : List UInt8} [hp : BytesI H p l] (ok : Ok a b l) : Con ext prog 4 37 [.agg [.int .i64 a, .int .i64 b, p]] H fun v H' => ProfRes H H' v (rowsL l a b) (colsL l a b) 0 := by
 refine con_of (show prog 37 = some c37 from rfl) rfl rfl fun n hn => ?_
 haveI := hp.one
 have hwa := ok.wa
 have hhb := ok.hb
 have hm : a * b ≤ 640 * 640 := Nat.mul_le_mul ok.wa ok.hb
 have hl := ok.len
 have he := ok.err
 repeat first | refine mI ?_ | refine mN ?_ | refine Fo.ldN rfl rfl (by simp only [↓nrmL, nrmZ, qe, ↓reduceIte, qz, qn, qq, he]; rfl) ?_ | refine bn rfl rfl rfl (by simp only [↓nrmL, nrmZ, qe, ↓reduceIte, qz, qn, qq, he]; rfl) ?_ | (refine Fo.pcall (v' := ?_) hn rfl (by simp only [↓nrmL, nrmZ, qe, ↓reduceIte, qz, qn, qq, he, List.map]; rfl) rfl ?hv fun _ _ => ?_; case hv => (simp only [he]; rfl)) | refine bA ?_ | refine nl hKF ?_ | refine sq ?_ | refine rg fun KF hKF => ?_ | refine cf rfl ?_ | refine sk ?_
 rename_i H1 hx1
 have f1 := mk_facts (H := H1) (e := 2 * 3) (mk_ints b)
 have f2 := mk_facts (H := H1.push (.row (cellsI (List.replicate b 0)) true (2 * 3))) (e := 2 * 3) (mk_ints a)
 obtain ⟨q1, hq1⟩ : ∃ q : AVal, AVal.slice H1.n 0 b (some b) 1 = q := ⟨_, rfl⟩
 obtain ⟨q2, hq2⟩ : ∃ q : AVal, AVal.slice ((H1.push (.row (cellsI (List.replicate b 0)) true (2 * 3))).n) 0 a (some a) 1 = q := ⟨_, rfl⟩
 rw [hq1] at f1
 rw [hq2] at f2
 obtain ⟨m1, fr1, w1⟩ := f1
 obtain ⟨m2, fr2, w2⟩ := f2
 refine Fr.dregionE [.row (cellsI (List.replicate b 0)) true (2 * 3), .row (cellsI (List.replicate a 0)) true (2 * 3)] ?_ fun KF hKF => ?_
 ·skip
  refine oracle_pre rfl rfl rfl rfl ?_; (try simp only [↓nrmL, nrmZ, qe, ↓reduceIte, qz, qn, qq])
  refine oracle_pre rfl rfl rfl (exec_ld rfl rfl) ?_; (try simp only [↓nrmL, nrmZ, qe, ↓reduceIte, qz, qn, qq])
  refine oracle_made rfl rfl (made_mkI rfl rfl (by omega)) ?_
  refine oracle_pre rfl rfl rfl rfl ?_; (try simp only [↓nrmL, nrmZ, qe, ↓reduceIte, qz, qn, qq])
  refine oracle_pre rfl rfl rfl (exec_ld rfl rfl) ?_; (try simp only [↓nrmL, nrmZ, qe, ↓reduceIte, qz, qn, qq])
  refine oracle_made rfl rfl (made_mkI rfl rfl (by omega)) ?_
  exact oracle_none _ _ _ _ rfl
 simp only [pushAll]
 haveI := m1.one
 haveI := m2.one
 have i1 : IntsI (H1.push (.row (cellsI (List.replicate b 0)) true (2 * 3))) q1 (List.replicate b 0) := by
  unfold IntsI; rw [List.length_replicate]; exact m1
 have i2 : IntsI ((H1.push (.row (cellsI (List.replicate b 0)) true (2 * 3))).push (.row (cellsI (List.replicate a 0)) true (2 * 3))) q2 (List.replicate a 0) := by
  unfold IntsI; rw [List.length_replicate]; exact m2
 clear m1 m2
 refine Fe.pure rfl rfl (by simp only [↓nrmL, nrmZ, qe, ↓reduceIte, qz, qn, qq]; rfl) ?_
 refine Er rfl (exec_ld rfl rfl) rfl ?_
 refine Fe.made rfl (made_mkI rfl rfl (by omega)) ghost_of trivial hq1 ?_
 change WpE _ _ (AHeap.n (AHeap.push _ (.row (cellsI (List.replicate b 0)) true (2 * 3)))) _ _ _ _ _ _ _
 refine Fe.pure rfl rfl (by simp only [↓nrmL, nrmZ, qe, ↓reduceIte, qz, qn, qq]; rfl) ?_
 refine Er rfl (exec_ld rfl rfl) rfl ?_
 refine Fe.made rfl (made_mkI rfl rfl (by omega)) ghost_of trivial hq2 ?_
 refine Fe.pure rfl rfl (by simp only [↓nrmL, nrmZ, qe, ↓reduceIte, qz, qn, qq]; rfl) ?_
 refine Fe.pure rfl rfl (by simp only [↓nrmL, nrmZ, qe, ↓reduceIte, qz, qn, qq]; rfl) ?_
 refine WpE.nil (hKF _ _ ?_)
 refine sq ?_
 refine sq ?_
 refine rg fun KF hKF => ?_
 refine fd ?_
 refine Fo.ld rfl rfl ?_
 refine mI ?_
 refine nl hKF ?_
 refine Wp.block ?_
 dsimp only
 refine Wp.loopS [6, 7, 8, 22, 23, 24, 25, 26, 27, 28, 29, 30, 31, 32, 33, 34, 35, 36, 37, 38, 39, 40, 41, 42, 43, 44, 45, 46, 47, 48, 49, 50, 51] (fun y : Nat => [(22, .int .i64 y)]) (fun _ y H2 => y ≤ b ∧ IntsI H2 q1 (rowsP l a b y 0) ∧ WrS H2 q1 ∧ IntsI H2 q2 (colsP l a y 0) ∧ WrS H2 q2 ∧ Ext H1 H2) (fun y => b - y) 0 rfl (fun _ => rfl) ⟨rfl, trivial⟩ ⟨Nat.zero_le _, by rw [rowsP_zero]; infer_instance, inferInstance, by rw [colsP_zero]; infer_instance, inferInstance, Ext0.ext⟩ (by unfold fuel0 at hn; omega) ?_
 rintro y g H2 ⟨hy, hr2, hrw2, hc2, hcw2, hxe⟩
 haveI : ExtI H1 H2 := ⟨hxe⟩
 simp only [↓nrmL, nrmZ, qe, ↓reduceIte, qz, qn, qq]
 cases hc : decide ((y : Int) < (b : Int))
 ·have hyb : y = b := by have := of_decide_eq_false hc; omega
  subst hyb
  rw [rowsP_all] at hr2
  rw [colsP_all] at hc2
  repeat first | refine mI ?_ | refine mv ?_ | refine bn rfl rfl rfl (by simp only [hc]; rfl) ?_ | refine nl hKF ?_ | refine sq ?_ | refine rg fun KF hKF => ?_ | refine cf rfl ?_ | refine rt ?_ | refine xi ?_ | dsimp only
  refine rz trivial ?_
  exact ⟨q1, q2, rfl, ⟨inferInstance, fr1.weak, inferInstance, Ext0.ext⟩, ⟨inferInstance, fr2.weak, inferInstance, Ext0.ext⟩⟩
 ·have hyb : y < b := by have := of_decide_eq_true hc; omega
  have hw1 := wa1 (a := y) (by omega)
  have hrl := row_le (a := a) hyb
  repeat first | refine mI ?_ | refine Fo.ldN rfl rfl (by simp only [↓nrmL, nrmZ, qe, ↓reduceIte, qz, qn, qq, hc]; rfl) ?_ | refine bn rfl rfl rfl (by simp only [hc]; rfl) ?_ | refine nl hKF ?_ | refine sq ?_ | refine rg fun KF hKF => ?_ | refine ct rfl ?_ | refine sk ?_ | refine Wp.block ?_
  refine WpO.do (WpX.conD hn rfl rfl (by simp only [↓nrmL, nrmZ, qe, ↓reduceIte, qz, qn, qq, List.map] <;> rfl) (K_line (l := l) hl hyb hm hhb) fun v H4 h5 => ?_)
  obtain ⟨hv1, hv2, hx4⟩ := h5
  haveI : ExtI _ H4 := ⟨hx4⟩
  haveI := hv1.one
  refine Fo.lenV (u := ?_) (by simp only [↓nrmL, nrmK, qe, ↓reduceIte]; rfl) ?hv ?_; case hv => rfl
  refine mI ?_
  refine nl hKF ?_
  refine Wp.block ?_
  dsimp only
  refine Wp.loopS [7, 8, 29, 30, 31, 32, 33, 34, 35, 36, 37, 38, 39, 40, 41, 42, 43, 44, 45, 46, 47, 48, 49, 50] (fun x : Nat => [(29, .int .i64 x)]) (fun _ x H5 => x ≤ a ∧ IntsI H5 q1 (rowsP l a b y x) ∧ WrS H5 q1 ∧ IntsI H5 q2 (colsP l a y x) ∧ WrS H5 q2 ∧ Ext H1 H5) (fun x => a - x) 0 rfl (fun _ => rfl) ⟨rfl, trivial⟩ ⟨Nat.zero_le _, inferInstance, inferInstance, inferInstance, inferInstance, Ext0.ext⟩ (by unfold fuel0 at hn; omega) ?_
  rintro x g2 H5 ⟨hx0, hr5, hrw5, hc5, hcw5, hxe5⟩
  haveI : ExtI H1 H5 := ⟨hxe5⟩
  simp only [↓nrmL, nrmZ, qe, ↓reduceIte, qz, qn, qq]
  cases hc2' : decide ((x : Int) < (a : Int))
  ·have hxa : x = a := by have := of_decide_eq_false hc2'; omega
   subst hxa
   rw [rowsP_next] at hr5
   rw [colsP_next] at hc5
   repeat first | refine mI ?_ | refine bn rfl rfl rfl (by simp only [hc2']; rfl) ?_ | refine b0 ?_ | refine nl hKF ?_ | refine sq ?_ | refine rg fun KF hKF => ?_ | refine cf rfl ?_ | refine xi ?_ | dsimp only
   refine ⟨y + 1, by omega, ⟨by simp only [↓nrmL, nrmZ, qe, ↓reduceIte, qz, qn, qq]; rw [hw1], trivial⟩, hyb, inferInstance, inferInstance, inferInstance, inferInstance, Ext0.ext⟩
  ·have hxa : x < a := by have := of_decide_eq_true hc2'; omega
   have hlt := idx_lt hxa hyb
   have hil : y * a + x < l.length := by omega
   have hw3 := wa1 (a := x) (by omega)
   have hpd := wpd ok.px hil
   have hrlen := rowsP_length l a b y x
   have hclen := colsP_length l a y x
   have hrg := rowsP_get (l := l) (a := a) (b := b) (y := y) (x := x) hyb
   have hcg := colsP_get (l := l) (a := a) (y := y) (x := x) hxa
   have b1 := rc_bd l a y x
   have b2 := cc_bd l a x y
   have b3 := pd_bd l (y * a + x)
   have hs1 : IntKind.i64.wrap (rc l a y x + pd l (y * a + x)) = rc l a y x + pd l (y * a + x) := w64 (by omega)
   have hs2 : IntKind.i64.wrap (cc l a x y + pd l (y * a + x)) = cc l a x y + pd l (y * a + x) := w64 (by omega)
   repeat first | refine mI ?_ | refine mv ?_ | refine bn rfl rfl rfl (by simp only [hc2', hpd, hrg, hs1]; rfl) ?_ | (refine Fo.idxV (by simp only [↓nrmL, nrmK, qe, ↓reduceIte]; rfl) rfl ?_ (by simp only [↓nrmL, nrmZ, qe, ↓reduceIte, qz, qn, qq, hc2', hpd, hrg, hs1]; rfl) ?_; (focus omega)) | (refine Fo.idx (by simp only [↓nrmL, nrmK, qe, ↓reduceIte]; rfl) rfl ?_ (by simp only [↓nrmL, nrmZ, qe, ↓reduceIte, qz, qn, qq, hc2', hpd, hrg, hs1]; rfl) ?_; (focus omega)) | (refine Fo.ldB rfl ?_ rfl ?_; (focus omega)) | (refine Fo.ldI rfl ?_ (by simp only [hc2', hpd, hrg, hs1]; rfl) ?_; (focus omega)) | refine Fo.now rfl rfl (by simp only [hc2', hpd, hrg, hs1]; rfl) ?_ | refine nl hKF ?_ | refine sq ?_ | refine rg fun KF hKF => ?_ | refine ct rfl ?_ | refine sk ?_ | refine Wp.block ?_
   refine WpO.do' (WpX.stI (l := rowsP l a b y x) rfl rfl (by omega) fun H6 hb6 hw6 hx6 => ?_)
   rw [rowsP_set] at hb6
   repeat first | refine mI ?_ | refine mv ?_ | refine bn rfl rfl rfl (by simp only [hpd, hcg, hs2]; rfl) ?_ | (refine Fo.idx (by simp only [↓nrmL, nrmK, qe, ↓reduceIte]; rfl) rfl ?_ (by simp only [↓nrmL, nrmZ, qe, ↓reduceIte, qz, qn, qq, hpd, hcg, hs2]; rfl) ?_; (focus omega)) | (refine Fo.ldI rfl ?_ (by simp only [hpd, hcg, hs2]; rfl) ?_; (focus omega)) | refine Fo.now rfl rfl (by simp only [hpd, hcg, hs2]; rfl) ?_ | refine nl hKF ?_ | refine rg fun KF hKF => ?_
   refine WpO.do' (WpX.stI (l := colsP l a y x) rfl rfl (by omega) fun H7 hb7 hw7 hx7 => ?_)
   rw [colsP_set] at hb7
   refine nl hKF ?_
   refine rg fun KF hKF => ?_
   refine b0 ?_
   refine mI ?_
   refine nl hKF ?_
   dsimp only
   refine ⟨x + 1, by omega, ⟨by simp only [↓nrmL, nrmZ, qe, ↓reduceIte, qz, qn, qq]; rw [hw3], trivial⟩, hxa, inferInstance, inferInstance, hb7, hw7, Ext0.ext⟩
end Go.Am

namespace Go.Am
open Go
open Nat renaming reduceEqDiff → qe, reduceAdd → qz
open Int renaming reduceBEq → qn, reduceBNe → qq
attribute [local irreducible] Wp WpO WpX WpE
theorem u8_is1 {c : UInt8} : (((c.toNat : Int) == 1) : Bool) = decide (c = 1) := by
 by_cases h : c = 1
 ·subst h; rfl
 ·have h2 : ¬ ((c.toNat : Int) = 1) := fun e => h (UInt8.toNat_inj.1 (by have : (1 : UInt8).toNat = 1 := rfl; omega))
  simp [h, h2]
def prB (l : List UInt8) (i : Nat) : Int := if l.getD i 0 = 1 then 0 else 2
theorem K_price {w h x y : Nat} {p : AVal} {H : AHeap} {l : List UInt8} (hp : BytesI H p l) (hw : w ≤ 640) (hh : h ≤ 640) (hl : l.length = w * h) (hx : x < w) (hy : y < h) : Con ext prog 1 52 [.agg [.int .i64 (w : Int), .int .i64 (h : Int), p], .int .i64 (x : Int), .int .i64 (y : Int)] H fun v H' => v = .int .i64 (prB l (y * w + x)) ∧ Ext H H' := by
 refine con_of (show prog 52 = some c52 from rfl) rfl rfl fun n hn => ?_
 haveI := hp
 haveI := hp.one
 have hm : w * h ≤ 640 * 640 := Nat.mul_le_mul hw hh
 have h1 : y * w + x < w * h := idx_lt hx hy
 have hi : y * w + x < l.length := by omega
 have e1 : IntKind.i64.wrap ((y : Int) * (w : Int)) = ((y * w : Nat) : Int) := wm (by omega)
 have e2 : IntKind.i64.wrap (((y * w : Nat) : Int) + (x : Int)) = ((y * w + x : Nat) : Int) := wa (by omega)
 have hg : l.getD (y * w + x) 0 = l[y * w + x] := by simp [hi]
 by_cases hc : l[y * w + x] = 1
 ·have e3 : (((l[y * w + x].toNat : Int) == 1) : Bool) = true := by rw [u8_is1, hc]; rfl
  have e4 : prB l (y * w + x) = 0 := by unfold prB; rw [hg, if_pos hc]
  rw [e4]
  repeat first | refine mI ?_ | refine fd ?_ | refine Fo.ld rfl rfl ?_ | refine bn rfl rfl rfl (by simp only [↓nrmL, nrmZ, qe, ↓reduceIte, qz, qn, qq, e1, e2, e3]; rfl) ?_ | refine bA ?_ | (refine Fo.idx (by simp only [↓nrmL, nrmK, qe, ↓reduceIte]; rfl) rfl ?_ (by simp only [↓nrmL, nrmZ, qe, ↓reduceIte, qz, qn, qq, e1, e2, e3]; rfl) ?_; (focus omega)) | (refine Fo.ldB rfl ?_ rfl ?_; (focus omega)) | refine nl hKF ?_ | refine sq ?_ | refine rg fun KF hKF => ?_ | refine ct rfl ?_ | refine rt ?_ | dsimp only
  refine rz trivial ?_
  exact ⟨rfl, Ext0.ext⟩
 ·have e3 : (((l[y * w + x].toNat : Int) == 1) : Bool) = false := by rw [u8_is1]; exact decide_eq_false hc
  have e4 : prB l (y * w + x) = 2 := by unfold prB; rw [hg, if_neg hc]
  rw [e4]
  repeat first | refine mI ?_ | refine fd ?_ | refine Fo.ld rfl rfl ?_ | refine bn rfl rfl rfl (by simp only [↓nrmL, nrmZ, qe, ↓reduceIte, qz, qn, qq, e1, e2, e3]; rfl) ?_ | refine bA ?_ | (refine Fo.idx (by simp only [↓nrmL, nrmK, qe, ↓reduceIte]; rfl) rfl ?_ (by simp only [↓nrmL, nrmZ, qe, ↓reduceIte, qz, qn, qq, e1, e2, e3]; rfl) ?_; (focus omega)) | (refine Fo.ldB rfl ?_ rfl ?_; (focus omega)) | refine nl hKF ?_ | refine sq ?_ | refine rg fun KF hKF => ?_ | refine cf rfl ?_ | refine sk ?_ | refine rt ?_ | dsimp only
  refine rz trivial ?_
  exact ⟨rfl, Ext0.ext⟩
def surF (l : List UInt8) (w h i : Nat) : Int := prB l ((i % h) * w + i / h)
def surP (l : List UInt8) (w h x y : Nat) : List Int := (List.range (w * h)).map fun i => if i / h < x ∨ (i / h = x ∧ i % h < y) then surF l w h i else 0
def surL (l : List UInt8) (w h : Nat) : List Int := (List.range (w * h)).map (surF l w h)
theorem surP_len (l : List UInt8) (w h x y : Nat) : (surP l w h x y).length = w * h := by simp [surP]
theorem surL_len (l : List UInt8) (w h : Nat) : (surL l w h).length = w * h := by simp [surL]
theorem surP_zero (l : List UInt8) (w h : Nat) : surP l w h 0 0 = List.replicate (w * h) 0 := by
 apply List.ext_getElem
 ·simp [surP]
 ·intro i h1 h2
  simp only [surP, List.getElem_map, List.getElem_range, List.getElem_replicate]
  have := Nat.zero_le (i / h)
  rw [if_neg (by omega)]
theorem surP_col {l : List UInt8} {w h x : Nat} : surP l w h x h = surP l w h (x + 1) 0 := by
 unfold surP
 apply List.map_congr_left
 intro i hi
 have hi := List.mem_range.1 hi
 have h0 : 0 < h := by
  rcases Nat.eq_zero_or_pos h with e | e
  ·subst e; omega
  ·exact e
 have := Nat.mod_lt i h0
 by_cases hc : i / h < x ∨ (i / h = x ∧ i % h < h)
 ·rw [if_pos hc, if_pos (by omega)]
 ·rw [if_neg hc, if_neg (by omega)]
theorem surP_all {l : List UInt8} {w h : Nat} : surP l w h w 0 = surL l w h := by
 unfold surP surL
 apply List.map_congr_left
 intro i hi
 have hi := List.mem_range.1 hi
 have : i / h < w := Nat.div_lt_of_lt_mul (by rw [Nat.mul_comm]; exact hi)
 rw [if_pos (Or.inl this)]
theorem surP_set {l : List UInt8} {w h x y : Nat} (hy : y < h) : (surP l w h x y).set (x * h + y) (prB l (y * w + x)) = surP l w h x (y + 1) := by
 obtain ⟨e1, e2⟩ := cell_at (x := x) hy
 apply List.ext_getElem
 ·simp [surP]
 ·intro i h3 h4
  rw [List.getElem_set]
  simp only [surP, List.getElem_map, List.getElem_range]
  by_cases e : x * h + y = i
  ·subst e
   rw [if_pos rfl, if_pos (by omega)]
   unfold surF
   rw [e1, e2]
  ·rw [if_neg e]
   have hne : ¬ (i / h = x ∧ i % h = y) := fun k => e (cell_inj (h := h) (by omega) (by omega))
   by_cases hc : i / h < x ∨ (i / h = x ∧ i % h < y)
   ·rw [if_pos hc, if_pos (by omega)]
   ·rw [if_neg hc, if_neg (by omega)]
theorem surL_at {l : List UInt8} {w h x y : Nat} (hx : x < w) (hy : y < h) : priF (surL l w h) h x y = prB l (y * w + x) := by
 have h1 := col_lt (h := h) hx
 obtain ⟨e1, e2⟩ := cell_at (x := x) hy
 unfold priF
 rw [getD_at (by rw [surL_len]; omega)]
 simp only [surL, List.getElem_map, List.getElem_range, surF, e1, e2]
theorem surL_pos (l : List UInt8) (w h : Nat) : PosL (surL l w h) := ⟨fun i => by
 by_cases hi : i < (surL l w h).length
 ·rw [getD_at hi]
  simp only [surL, List.getElem_map, List.getElem_range, surF, prB]
  split <;> omega
 ·rw [getD_out (by omega)]; omega⟩
theorem K_survey {w h : Nat} {p : AVal} {H : AHeap} {l : List UInt8} (hp : BytesI H p l) (hw : w ≤ 640) (hh : h ≤ 640) (hl : l.length = w * h) : Con ext prog 4 56 [.agg [.int .i64 (w : Int), .int .i64 (h : Int), p]] H fun v H' => ∃ rp rr, v = grV w h rp rr ∧ GrI H' rp rr (w * h) (surL l w h) (List.replicate (w * h) 0) ∧ H.n ≤ rp ∧ H.n ≤ rr ∧ Ext H H' := by
 refine con_of (show prog 56 = some c56 from rfl) rfl rfl fun n hn => ?_
 haveI := hp
 haveI := hp.one
 have hm : w * h ≤ 640 * 640 := Nat.mul_le_mul hw hh
 refine sq ?_
 refine rg fun KF hKF => ?_
 refine bA ?_
 refine nw ?_
 refine nl hKF ?_
 refine sq ?_
 refine Fr.dregionE [.row (cellsI (List.replicate l.length 0)) true (2 * 3), .row (cellsI (List.replicate l.length 0)) true (2 * 3), .row [.int .i64 0, .int .i64 0, .nslice, .nslice] true (2 * 83)] ?_ fun KF hKF => ?_
 ·skip
  repeat first | refine oracle_pre rfl rfl rfl (exec_ld rfl rfl) ?_; (try simp only [↓nrmL, nrmZ, qe, ↓reduceIte, qz, qn, qq]) | refine oracle_pre rfl rfl rfl rfl ?_; (try simp only [↓nrmL, nrmZ, qe, ↓reduceIte, qz, qn, qq])
  refine oracle_pre rfl rfl rfl (exec_lenP (p := p) rfl) ?_
  refine oracle_made rfl rfl (made_mkI (a := l.length) rfl rfl (by omega)) ?_
  refine oracle_pre rfl rfl rfl rfl ?_; (try simp only [↓nrmL, nrmZ, qe, ↓reduceIte, qz, qn, qq])
  refine oracle_pre rfl rfl rfl (exec_ld rfl rfl) ?_; (try simp only [↓nrmL, nrmZ, qe, ↓reduceIte, qz, qn, qq])
  refine oracle_pre rfl rfl rfl (exec_lenP (p := p) rfl) ?_
  refine oracle_made rfl rfl (made_mkI (a := l.length) rfl rfl (by omega)) ?_
  refine oracle_pre rfl rfl rfl rfl ?_; (try simp only [↓nrmL, nrmZ, qe, ↓reduceIte, qz, qn, qq])
  refine oracle_made rfl rfl rfl ?_; (try simp only [↓nrmL, nrmZ, qe, ↓reduceIte, qz, qn, qq])
  exact oracle_none _ _ _ _ rfl
 simp only [pushAll]
 repeat first | refine Er rfl (exec_ld rfl rfl) rfl ?_ | refine Fe.pure rfl (exec_lenP (by (try simp only [↓nrmL, nrmZ, qe, ↓reduceIte, qz, qn, qq]); rfl)) rfl ?_ | refine Fe.pure rfl rfl (by simp only [↓nrmL, nrmZ, qe, ↓reduceIte, qz, qn, qq]; rfl) ?_
 refine Fe.made rfl (made_mkI (a := l.length) rfl rfl (by omega)) ghost_of trivial rfl ?_
 change WpE _ _ (AHeap.n (AHeap.push _ (.row (cellsI (List.replicate l.length 0)) true (2 * 3)))) _ _ _ _ _ _ _
 refine Fe.pure rfl rfl (by simp only [↓nrmL, nrmZ, qe, ↓reduceIte, qz, qn, qq]; rfl) ?_
 refine Er rfl (exec_ld rfl rfl) rfl ?_
 refine Fe.pure rfl (exec_lenP (by (try simp only [↓nrmL, nrmZ, qe, ↓reduceIte, qz, qn, qq]); rfl)) rfl ?_
 refine Fe.made rfl (made_mkI (a := l.length) rfl rfl (by omega)) ghost_of trivial rfl ?_
 change WpE _ _ (AHeap.n (AHeap.push _ (.row (cellsI (List.replicate l.length 0)) true (2 * 3)))) _ _ _ _ _ _ _
 refine Fe.pure rfl rfl (by simp only [↓nrmL, nrmZ, qe, ↓reduceIte, qz, qn, qq]; rfl) ?_
 refine Em rfl rfl ghost_of rfl ?_
 refine Ee rfl (xs rfl (by (try simp only [↓nrmL, nrmZ, qe, ↓reduceIte, qz, qn, qq]); rfl) rfl rfl rfl (by (try simp only [↓nrmL, nrmZ, qe, ↓reduceIte, qz, qn, qq]); rfl)) ?_
 refine WpE.nil (hKF _ _ ?_)
 refine sq ?_
 refine sq ?_
 refine rg fun KF hKF => ?_
 refine fd ?_
 refine Fo.ld rfl rfl ?_
 refine mI ?_
 refine nl hKF ?_
 refine Wp.block ?_
 dsimp only
 refine Wp.loopS [4, 5, 21, 22, 23, 24, 25, 26, 27, 28, 29, 30, 31, 32, 33, 34, 35, 36, 37, 38, 39, 40, 41, 42, 43] (fun x : Nat => [(21, .int .i64 (x : Int))]) (fun _ x H2 => x ≤ w ∧ HasRow H2 ((H.push (.row [.int .i64 (w : Int), .int .i64 (h : Int), p] true (2 * 24))).push (.row [.int .i64 0, .int .i64 0, .nslice, .nslice] true (2 * 83))).n (cellsI (surP l w h x 0)) true (2 * 3) ∧ HasRow H2 H.n [.int .i64 (w : Int), .int .i64 (h : Int), p] true (2 * 24) ∧ HasRow H2 (H.push (.row [.int .i64 (w : Int), .int .i64 (h : Int), p] true (2 * 24))).n [.int .i64 0, .int .i64 0, .nslice, .nslice] true (2 * 83) ∧ HasRow H2 ((((H.push (.row [.int .i64 (w : Int), .int .i64 (h : Int), p] true (2 * 24))).push (.row [.int .i64 0, .int .i64 0, .nslice, .nslice] true (2 * 83))).push (.row (cellsI (List.replicate l.length 0)) true (2 * 3))).push (.row (cellsI (List.replicate l.length 0)) true (2 * 3))).n [.int .i64 (w : Int), .int .i64 (h : Int), .slice ((H.push (.row [.int .i64 (w : Int), .int .i64 (h : Int), p] true (2 * 24))).push (.row [.int .i64 0, .int .i64 0, .nslice, .nslice] true (2 * 83))).n 0 l.length (some l.length) 1, .slice (((H.push (.row [.int .i64 (w : Int), .int .i64 (h : Int), p] true (2 * 24))).push (.row [.int .i64 0, .int .i64 0, .nslice, .nslice] true (2 * 83))).push (.row (cellsI (List.replicate l.length 0)) true (2 * 3))).n 0 l.length (some l.length) 1] true (2 * 83) ∧ HasRow H2 (((H.push (.row [.int .i64 (w : Int), .int .i64 (h : Int), p] true (2 * 24))).push (.row [.int .i64 0, .int .i64 0, .nslice, .nslice] true (2 * 83))).push (.row (cellsI (List.replicate l.length 0)) true (2 * 3))).n (cellsI (List.replicate l.length 0)) true (2 * 3) ∧ Ext H H2) (fun x => w - x) 0 rfl (fun _ => rfl) ⟨rfl, trivial⟩ ⟨Nat.zero_le _, by rw [surP_zero, ← hl]; exact inferInstance, inferInstance, inferInstance, inferInstance, inferInstance, Ext0.ext⟩ (by unfold fuel0 at hn; omega) ?_
 rintro x g H2 ⟨hx, k1, k2, k3, k4, k5, hxx⟩
 haveI := k1
 haveI := k2
 haveI := k3
 haveI := k4
 haveI := k5
 haveI : ExtI H H2 := ⟨hxx⟩
 simp only [↓nrmL, nrmZ, qe, ↓reduceIte, qz, qn, qq]
 cases hc : decide ((x : Int) < (w : Int))
 ·have hxe : x = w := by have := of_decide_eq_false hc; omega
  subst hxe
  have k6 : HasRow H2 ((H.push (.row [.int .i64 (x : Int), .int .i64 (h : Int), p] true (2 * 24))).push (.row [.int .i64 0, .int .i64 0, .nslice, .nslice] true (2 * 83))).n (cellsI (surL l x h)) true (2 * 3) := by rw [← surP_all]; exact k1
  repeat first | refine Fo.ldN rfl rfl (by simp only [↓nrmL, nrmZ, qe, ↓reduceIte, qz, qn, qq, hc]; rfl) ?_ | refine bn rfl rfl rfl (by simp only [↓nrmL, nrmZ, qe, ↓reduceIte, qz, qn, qq, hc]; rfl) ?_ | refine so rfl (rfl : _ = AVal.agg _) rfl rfl rfl (by simp only [↓nrmL, nrmZ, qe, ↓reduceIte, qz, qn, qq, hc]; rfl) ?_ | refine nl hKF ?_ | refine sq ?_ | refine rg fun KF hKF => ?_ | refine cf rfl ?_ | refine rt ?_ | refine xi ?_ | dsimp only
  refine rz trivial ?_
  refine ⟨((H.push (.row [.int .i64 (x : Int), .int .i64 (h : Int), p] true (2 * 24))).push (.row [.int .i64 0, .int .i64 0, .nslice, .nslice] true (2 * 83))).n, (((H.push (.row [.int .i64 (x : Int), .int .i64 (h : Int), p] true (2 * 24))).push (.row [.int .i64 0, .int .i64 0, .nslice, .nslice] true (2 * 83))).push (.row (cellsI (List.replicate l.length 0)) true (2 * 3))).n, by unfold grV; rw [← hl]; rfl, ⟨?_, ?_, surL_len _ _ _, List.length_replicate, by simp only [AHeap.push]; omega⟩, by simp only [AHeap.push]; omega, by simp only [AHeap.push]; omega, hxx.set (by simp only [AHeap.push]; omega) _⟩
  ·haveI : NeR ((H.push (.row [.int .i64 (x : Int), .int .i64 (h : Int), p] true (2 * 24))).push (.row [.int .i64 0, .int .i64 0, .nslice, .nslice] true (2 * 83))).n (H.push (.row [.int .i64 (x : Int), .int .i64 (h : Int), p] true (2 * 24))).n := ⟨by simp only [AHeap.push]; omega⟩
   haveI := k6
   exact ⟨by have := k6.lt; exact this, by rw [set_get_ne (by simp only [AHeap.push]; omega)]; exact k6.get⟩
  ·rw [← hl]
   exact ⟨by have := k5.lt; exact this, by rw [set_get_ne (by simp only [AHeap.push]; omega)]; exact k5.get⟩
 have hxl : x < w := by have := of_decide_eq_true hc; omega
 have h1 := col_lt (h := h) hxl
 have e6 := wa1 (a := x) (by omega)
 have hpr : ∀ y, y < h → ∀ (H : AHeap) [BytesI H p l], PureCon ext prog 52 [.agg [.int .i64 (w : Int), .int .i64 (h : Int), p], .int .i64 (x : Int), .int .i64 (y : Int)] H 1 (.int .i64 (prB l (y * w + x))) := fun y hy H hb => ⟨K_price hb hw hh hl hxl hy⟩
 repeat first | refine mI ?_ | refine fd ?_ | refine Fo.ld rfl rfl ?_ | refine bn rfl rfl rfl (by simp only [↓nrmL, nrmZ, qe, ↓reduceIte, qz, qn, qq, hc]; rfl) ?_ | refine nl hKF ?_ | refine sq ?_ | refine rg fun KF hKF => ?_ | refine ct rfl ?_ | refine sk ?_ | refine Wp.block ?_ | dsimp only
 refine Wp.loopS [5, 26, 27, 28, 29, 30, 31, 32, 33, 34, 35, 36, 37, 38, 39, 40, 41, 42] (fun y : Nat => [(26, .int .i64 (y : Int))]) (fun _ y H5 => y ≤ h ∧ HasRow H5 ((H.push (.row [.int .i64 (w : Int), .int .i64 (h : Int), p] true (2 * 24))).push (.row [.int .i64 0, .int .i64 0, .nslice, .nslice] true (2 * 83))).n (cellsI (surP l w h x y)) true (2 * 3) ∧ HasRow H5 H.n [.int .i64 (w : Int), .int .i64 (h : Int), p] true (2 * 24) ∧ HasRow H5 (H.push (.row [.int .i64 (w : Int), .int .i64 (h : Int), p] true (2 * 24))).n [.int .i64 0, .int .i64 0, .nslice, .nslice] true (2 * 83) ∧ HasRow H5 ((((H.push (.row [.int .i64 (w : Int), .int .i64 (h : Int), p] true (2 * 24))).push (.row [.int .i64 0, .int .i64 0, .nslice, .nslice] true (2 * 83))).push (.row (cellsI (List.replicate l.length 0)) true (2 * 3))).push (.row (cellsI (List.replicate l.length 0)) true (2 * 3))).n [.int .i64 (w : Int), .int .i64 (h : Int), .slice ((H.push (.row [.int .i64 (w : Int), .int .i64 (h : Int), p] true (2 * 24))).push (.row [.int .i64 0, .int .i64 0, .nslice, .nslice] true (2 * 83))).n 0 l.length (some l.length) 1, .slice (((H.push (.row [.int .i64 (w : Int), .int .i64 (h : Int), p] true (2 * 24))).push (.row [.int .i64 0, .int .i64 0, .nslice, .nslice] true (2 * 83))).push (.row (cellsI (List.replicate l.length 0)) true (2 * 3))).n 0 l.length (some l.length) 1] true (2 * 83) ∧ HasRow H5 (((H.push (.row [.int .i64 (w : Int), .int .i64 (h : Int), p] true (2 * 24))).push (.row [.int .i64 0, .int .i64 0, .nslice, .nslice] true (2 * 83))).push (.row (cellsI (List.replicate l.length 0)) true (2 * 3))).n (cellsI (List.replicate l.length 0)) true (2 * 3) ∧ Ext H H5) (fun y => h - y) 0 rfl (fun _ => rfl) ⟨rfl, trivial⟩ ⟨Nat.zero_le _, k1, k2, k3, k4, k5, hxx⟩ (by unfold fuel0 at hn; omega) ?_
 rintro y g2 H5 ⟨hy, j1, j2, j3, j4, j5, hxy⟩
 haveI := j1
 haveI := j2
 haveI := j3
 haveI := j4
 haveI := j5
 haveI : ExtI H H5 := ⟨hxy⟩
 simp only [↓nrmL, nrmZ, qe, ↓reduceIte, qz, qn, qq]
 cases hcy : decide ((y : Int) < (h : Int))
 ·have hye : y = h := by have := of_decide_eq_false hcy; omega
  subst hye
  repeat first | refine mI ?_ | refine bn rfl rfl rfl (by simp only [↓nrmL, nrmZ, qe, ↓reduceIte, qz, qn, qq, hcy, e6]; rfl) ?_ | refine nl hKF ?_ | refine sq ?_ | refine rg fun KF hKF => ?_ | refine cf rfl ?_ | refine xi ?_ | dsimp only
  exact ⟨x + 1, by omega, ⟨rfl, trivial⟩, by omega, by rw [← surP_col]; exact j1, j2, j3, j4, j5, hxy⟩
 have hyl : y < h := by have := of_decide_eq_true hcy; omega
 have e7 := wa1 (a := y) (by omega)
 have e8 : IntKind.i64.wrap ((x : Int) * (h : Int)) = ((x * h : Nat) : Int) := wm (by omega)
 have e9 : IntKind.i64.wrap (((x * h : Nat) : Int) + (y : Int)) = ((x * h + y : Nat) : Int) := wa (by omega)
 haveI := hpr y hyl
 have hpl := surP_len l w h x y
 have hll : (surP l w h x y).length = l.length := by omega
 haveI hpi : IntsI H5 (.slice ((H.push (.row [.int .i64 (w : Int), .int .i64 (h : Int), p] true (2 * 24))).push (.row [.int .i64 0, .int .i64 0, .nslice, .nslice] true (2 * 83))).n 0 l.length (some l.length) 1) (surP l w h x y) := row_ints j1 hll
 repeat first | refine mI ?_ | refine bn rfl rfl rfl (by simp only [↓nrmL, nrmZ, qe, ↓reduceIte, qz, qn, qq, hcy]; rfl) ?_ | refine nl hKF ?_ | refine sq ?_ | refine rg fun KF hKF => ?_ | refine ct rfl ?_ | refine sk ?_ | refine Wp.block ?_ | dsimp only
 refine Fr.dregion0 rfl fun KF hKF => ?_
 repeat first | refine Er rfl (exec_ld rfl rfl) rfl ?_ | refine Er rfl (exec_ldN rfl rfl (by simp only [↓nrmL, nrmZ, qe, ↓reduceIte, qz, qn, qq, e8, e9]; rfl)) rfl ?_ | refine Fe.pure rfl rfl (by simp only [↓nrmL, nrmZ, qe, ↓reduceIte, qz, qn, qq, e8, e9]; rfl) ?_ | (refine Fe.pure rfl (exec_idxP (by (try simp only [↓nrmL, nrmZ, qe, ↓reduceIte, qz, qn, qq, e8, e9]); rfl) rfl ?_) (by simp only [↓nrmL, nrmZ, qe, ↓reduceIte, qz, qn, qq, e8, e9]; rfl) ?_; (focus omega)) | (refine Fe.pcall (v' := ?_) rfl hn rfl (by simp only [↓nrmL, nrmZ, qe, ↓reduceIte, qz, qn, qq, e8, e9, List.map]; rfl) rfl ?hv fun _ _ => ar ?_; case hv => rfl)
 refine WpE.stR (r := ((H.push (.row [.int .i64 (w : Int), .int .i64 (h : Int), p] true (2 * 24))).push (.row [.int .i64 0, .int .i64 0, .nslice, .nslice] true (2 * 83))).n) (j := 0 + (x * h + y)) (l := surP l w h x y) rfl rfl rfl (by omega) (ar ?_)
 rw [show 0 + (x * h + y) = x * h + y from Nat.zero_add _, surP_set hyl]
 rename AHeap => H7
 have hx7 : Ext H H7 := Ext0.ext
 refine WpE.nil (hKF _ _ ?_)
 simp only [e7]
 refine rg fun KF hKF => ?_
 refine bn rfl rfl rfl (by simp only [↓nrmL, nrmZ, qe, ↓reduceIte, qz, qn, qq, e7]; rfl) ?_
 refine mI ?_
 refine nl hKF ?_
 dsimp only
 haveI : NeR H.n ((H.push (.row [.int .i64 (w : Int), .int .i64 (h : Int), p] true (2 * 24))).push (.row [.int .i64 0, .int .i64 0, .nslice, .nslice] true (2 * 83))).n := ⟨by simp only [AHeap.push]; omega⟩
 haveI : NeR (H.push (.row [.int .i64 (w : Int), .int .i64 (h : Int), p] true (2 * 24))).n ((H.push (.row [.int .i64 (w : Int), .int .i64 (h : Int), p] true (2 * 24))).push (.row [.int .i64 0, .int .i64 0, .nslice, .nslice] true (2 * 83))).n := ⟨by simp only [AHeap.push]; omega⟩
 haveI : NeR (((H.push (.row [.int .i64 (w : Int), .int .i64 (h : Int), p] true (2 * 24))).push (.row [.int .i64 0, .int .i64 0, .nslice, .nslice] true (2 * 83))).push (.row (cellsI (List.replicate l.length 0)) true (2 * 3))).n ((H.push (.row [.int .i64 (w : Int), .int .i64 (h : Int), p] true (2 * 24))).push (.row [.int .i64 0, .int .i64 0, .nslice, .nslice] true (2 * 83))).n := ⟨by simp only [AHeap.push]; omega⟩
 haveI : NeR ((((H.push (.row [.int .i64 (w : Int), .int .i64 (h : Int), p] true (2 * 24))).push (.row [.int .i64 0, .int .i64 0, .nslice, .nslice] true (2 * 83))).push (.row (cellsI (List.replicate l.length 0)) true (2 * 3))).push (.row (cellsI (List.replicate l.length 0)) true (2 * 3))).n ((H.push (.row [.int .i64 (w : Int), .int .i64 (h : Int), p] true (2 * 24))).push (.row [.int .i64 0, .int .i64 0, .nslice, .nslice] true (2 * 83))).n := ⟨by simp only [AHeap.push]; omega⟩
 exact ⟨y + 1, by omega, ⟨rfl, trivial⟩, by omega, inferInstance, inferInstance, inferInstance, inferInstance, inferInstance, hx7.set (by simp only [AHeap.push]; omega) _⟩
end Go.Am

namespace Go.Am
open Go
def leastP (P : List Int) (w h : Nat) : Int := mnL (colL (restL P w h) h 0) (h - 1)
theorem least_le {P : List Int} {w h y : Nat} (hw : 0 < w) (hy : y < h) : leastP P w h ≤ restF (priF P h) w h (w - 1) y := by
  unfold leastP
  have := mn_le (l := colL (restL P w h) h 0) (k := h - 1) (i := y) (by omega)
  rw [colL_at (rest_len P w h) hw hy, rest_at hw hy, Nat.sub_zero] at this
  exact this
theorem least_in {P : List Int} {w h : Nat} (hw : 0 < w) (hh : 0 < h) : ∃ y, y < h ∧ restF (priF P h) w h (w - 1) y = leastP P w h := by
  obtain ⟨y, h1, h2⟩ := mn_in (l := colL (restL P w h) h 0) (h - 1)
  refine ⟨y, by omega, ?_⟩
  unfold leastP
  rw [h2, colL_at (rest_len P w h) hw (by omega), rest_at hw (by omega), Nat.sub_zero]
inductive TrR (l : List UInt8) (w h : Nat) : List (Nat → Nat) → List Int → Prop
  | nil : TrR l w h [] (surL l w h)
  | snoc {qs : List (Nat → Nat)} {P : List Int} {y0 : Nat} : TrR l w h qs P → qs.length < 60 → 8 * leastP P w h ≤ (w : Int) → y0 < h → restF (priF P h) w h (w - 1) y0 = leastP P w h → (∀ j, j < y0 → restF (priF P h) w h (w - 1) j ≠ leastP P w h) → TrR l w h (qs ++ [folF (priF P h) w h y0]) (forA P (folF (priF P h) w h y0) w h)
def near (q : Nat → Nat) (x y : Nat) : Prop := q x ≤ y + 2 ∧ y ≤ q x + 2
structure TrI (l : List UInt8) (w h : Nat) (qs : List (Nat → Nat)) (P : List Int) : Prop where
  pos : PosL P
  len : P.length = w * h
  many : qs.length ≤ 60
  path : ∀ i (hi : i < qs.length), PathF w h qs[i]
  forb : ∀ x y, x < w → y < h → (∃ i, ∃ (hi : i < qs.length), near qs[i] x y) → priF P h x y = 1920
  free : ∀ x y, x < w → y < h → (∀ i (hi : i < qs.length), ¬ near qs[i] x y) → priF P h x y = prB l (y * w + x)
  apart : ∀ i j (hi : i < qs.length) (hj : j < qs.length) x, x < w → i < j → ¬ near qs[i] x (qs[j] x)
  cheap : ∀ i (hi : i < qs.length), ∃ m : Int, 8 * m ≤ (w : Int) ∧ costF (fun x y => prB l (y * w + x)) w qs[i] (w - 1) = m
theorem cost_congr {P P' : Nat → Nat → Int} {w : Nat} {q : Nat → Nat} (h : ∀ x, x < w → P x (q x) = P' x (q x)) : ∀ d, d < w → costF P w q d = costF P' w q d
  | 0, hd => by simp only [costF]; exact h _ (by omega)
  | d + 1, hd => by
    simp only [costF]
    rw [h _ (by omega), cost_congr h d (by omega)]
theorem chg_pos (a b : Nat) : 0 ≤ chg a b := by unfold chg; split <;> omega
theorem cost_pos {P : Nat → Nat → Int} {w : Nat} {q : Nat → Nat} (hP : ∀ x y, 0 ≤ P x y) : ∀ d, 0 ≤ costF P w q d
  | 0 => hP _ _
  | d + 1 => by
    have h1 := hP (w - 1 - (d + 1)) (q (w - 1 - (d + 1)))
    have h2 := cost_pos (w := w) (q := q) hP d
    have h3 := chg_pos (q (w - 1 - (d + 1))) (q (w - 1 - d))
    simp only [costF]; omega
theorem cost_ge {P : Nat → Nat → Int} {w : Nat} {q : Nat → Nat} (hP : ∀ x y, 0 ≤ P x y) : ∀ d, d < w → ∀ e, e ≤ d → P (w - 1 - e) (q (w - 1 - e)) ≤ costF P w q d
  | 0, _, e, he => by
    obtain rfl : e = 0 := by omega
    exact Int.le_refl _
  | d + 1, hd, e, he => by
    have h1 := hP (w - 1 - (d + 1)) (q (w - 1 - (d + 1)))
    have h2 := cost_pos (w := w) (q := q) hP d
    have h3 := chg_pos (q (w - 1 - (d + 1))) (q (w - 1 - d))
    by_cases e1 : e = d + 1
    · subst e1; simp only [costF]; omega
    · have := cost_ge (w := w) (q := q) hP d (by omega) e (by omega)
      simp only [costF]; omega
theorem tr_inv {l : List UInt8} {w h : Nat} {qs : List (Nat → Nat)} {P : List Int} (hw : 0 < w) (hw640 : w ≤ 640) (hh : 0 < h) (hT : TrR l w h qs P) : TrI l w h qs P := by
  induction hT with
  | nil =>
    exact ⟨surL_pos l w h, surL_len l w h, by simp, fun i hi => (by cases hi), fun x y _ _ ⟨i, hi, _⟩ => (by cases hi), fun x y hx hy _ => surL_at hx hy, fun i j hi => (by cases hi), fun i hi => (by cases hi)⟩
  | @snoc qs P y0 _ hl hm hy hr hf ih =>
    have hP := ih.pos.pos h
    have hlt : restF (priF P h) w h (w - 1) y0 < 1920 := by rw [hr]; omega
    have hpath := fol_path hP hh hy hlt
    have hcost := fol_cost hP hh hy hlt (w - 1) (by omega)
    rw [Nat.sub_self] at hcost
    have hc0 : folF (priF P h) w h y0 0 = y0 := rfl
    rw [hc0, hr] at hcost
    obtain ⟨q, hq⟩ : ∃ q, folF (priF P h) w h y0 = q := ⟨_, rfl⟩
    rw [hq] at hpath hcost ⊢
    have hnn : ∀ x y, 0 ≤ priF P h x y := fun x y => (hP.it x y).1
    -- the path avoids what is forbidden
    have hfree : ∀ x, x < w → ∀ i (hi : i < qs.length), ¬ near qs[i] x (q x) := fun x hx i hi hne => by
      have h1 := ih.forb x (q x) hx (hpath.row x hx) ⟨i, hi, hne⟩
      have h2 := cost_ge (w := w) (q := q) hnn (w - 1) (by omega) (w - 1 - x) (by omega)
      rw [show w - 1 - (w - 1 - x) = x by omega, h1, hcost] at h2
      omega
    have hget : ∀ i (hi : i < (qs ++ [q]).length) (h1 : i < qs.length), (qs ++ [q])[i] = qs[i]'h1 := fun i hi h1 => List.getElem_append_left h1
    have hlast : ∀ i (hi : i < (qs ++ [q]).length), ¬ i < qs.length → (qs ++ [q])[i] = q ∧ i = qs.length := fun i hi h1 => by
      have : i = qs.length := by simp at hi; omega
      subst this
      exact ⟨by simp, rfl⟩
    refine ⟨forA_pos ih.pos, forA_len _ _ _ _, by simp; omega, fun i hi => ?_, fun x y hx hy ⟨i, hi, hne⟩ => ?_, fun x y hx hy hall => ?_, fun i j hi hj x hx hij => ?_, fun i hi => ?_⟩
    · by_cases h1 : i < qs.length
      · rw [hget i hi h1]; exact ih.path i h1
      · rw [(hlast i hi h1).1]; exact hpath
    · rw [forA_at hx hy]
      by_cases h1 : i < qs.length
      · rw [hget i hi h1] at hne
        by_cases hc : q x ≤ y + 2 ∧ y ≤ q x + 2
        · rw [if_pos hc]
        · rw [if_neg hc]; exact ih.forb x y hx hy ⟨i, h1, hne⟩
      · rw [(hlast i hi h1).1] at hne
        exact if_pos hne
    · have h1 := hall qs.length (by simp)
      rw [(hlast qs.length (by simp) (by omega)).1] at h1
      rw [forA_at hx hy, if_neg (show ¬ (q x ≤ y + 2 ∧ y ≤ q x + 2) from h1)]
      refine ih.free x y hx hy fun i hi => ?_
      have h2 := hall i (by simp; omega)
      rwa [hget i (by simp; omega) hi] at h2
    · by_cases h1 : j < qs.length
      · rw [hget j hj h1, hget i hi (by omega)]
        exact ih.apart i j (by omega) h1 x hx hij
      · have h2 := hlast j hj h1
        rw [h2.1, hget i hi (by omega)]
        exact hfree x hx i (by omega)
    · by_cases h1 : i < qs.length
      · rw [hget i hi h1]; exact ih.cheap i h1
      · rw [(hlast i hi h1).1]
        refine ⟨leastP P w h, hm, ?_⟩
        rw [← hcost]
        exact cost_congr (fun x hx => (ih.free x (q x) hx (hpath.row x hx) (hfree x hx)).symm) (w - 1) (by omega)
theorem pigeon : ∀ (n k : Nat) (f : Nat → Nat), (∀ i, i < k → f i < n) → (∀ i j, i < j → j < k → f i ≠ f j) → k ≤ n
  | 0, k, f, h1, h2 => by
    rcases Nat.eq_zero_or_pos k with e | e
    · omega
    · have := h1 0 e; omega
  | n + 1, k, f, h1, h2 => by
    by_cases hk : k = 0
    · omega
    by_cases hc : ∃ i, i < k ∧ f i = n
    · obtain ⟨i, hi, hfi⟩ := hc
      have := pigeon n (k - 1) (fun j => if j = i then f (k - 1) else f j) (fun j hj => by
        by_cases e : j = i
        · rw [if_pos e]
          have a1 := h1 (k - 1) (by omega)
          have a2 := h2 i (k - 1) (by omega) (by omega)
          omega
        · rw [if_neg e]
          have a1 := h1 j (by omega)
          by_cases e2 : j < i
          · have := h2 j i e2 hi; omega
          · have := h2 i j (by omega) (by omega); omega) (fun a b hab hb => by
        by_cases e1 : a = i
        · rw [if_pos e1, if_neg (by omega)]
          exact (h2 b (k - 1) (by omega) (by omega)).symm
        · rw [if_neg e1]
          by_cases e2 : b = i
          · rw [if_pos e2]
            exact h2 a (k - 1) (by omega) (by omega)
          · rw [if_neg e2]
            exact h2 a b hab (by omega))
      omega
    · have := pigeon n k f (fun i hi => by
        have a1 := h1 i hi
        have a2 : f i ≠ n := fun e => hc ⟨i, hi, e⟩
        omega) h2
      omega
theorem TrI.few {l : List UInt8} {w h : Nat} {qs : List (Nat → Nat)} {P : List Int} (h1 : TrI l w h qs P) (hw : 0 < w) : qs.length ≤ (h + 2) / 3 := by
  refine pigeon ((h + 2) / 3) qs.length (fun i => if hi : i < qs.length then qs[i] 0 / 3 else 0) (fun i hi => ?_) (fun i j hij hj => ?_)
  · rw [dif_pos hi]
    have := (h1.path i hi).row 0 hw
    omega
  · rw [dif_pos hj, dif_pos (by omega : i < qs.length)]
    have := h1.apart i j (by omega) hj 0 hw hij
    unfold near at this
    omega
end Go.Am

namespace Go.Am
open Go
section
variable {call : ACall} {n ref : Nat} {its : List DItem} {H0 H : AHeap} {E : List (Nat × AHeap)} {Rd : List (Nat × (AHeap → Bool))} {fr : AFrame} {K : AFrame → AHeap → Prop} {b : Nat} {pre : Bool} {g : Option (Nat × Bool)}
theorem WpE.stC {d : Option Nat} {a x : ROpd} {p v : AVal} {j m : Nat} {cs : List AVal} (hw : ROper.wanted fr ⟨d, .store 1 a x, g⟩ = true) (ha : a.ev fr = .ptr (rowOf p) (offOf p + j)) (hx : x.ev fr = v) [ho : OneV v] [s : SliceAt H p 1 m cs] [w : WrS H p] (hj : j < cs.length)
    (h : ∀ H1, SliceAt H1 p 1 m (cs.set j v) → WrS H1 p → ExtP H H1 p → AllR b H1 Rd ∧ WpE call (n + 1) ref its H0 ((n, H) :: E) Rd (put fr d aundef) H1 K) : WpE call n ref (⟨⟨d, .store 1 a x, g⟩, b, 2, pre⟩ :: its) H0 E Rd fr H K := by
  obtain ⟨u, H1, h1, rfl, h2, h3, h4⟩ := WpX.stP (call := call) (K := fun u H1 => u = aundef ∧ SliceAt H1 p 1 m (cs.set j v) ∧ WrS H1 p ∧ ExtP H H1 p) ha hx ho.cells ho.one hj fun H1 q1 q2 q3 => ⟨rfl, q1, q2, q3⟩
  obtain ⟨h5, h6⟩ := h H1 h2 h3 h4
  exact WpE.effect hw h1 h5 h6
end
def cAt (cs : List AVal) (i : Nat) : AVal := cs.getD i aundef
theorem cAt_some {cs : List AVal} {i : Nat} (h : i < cs.length) : cs[i]? = some (cAt cs i) := by
  unfold cAt
  rw [List.getD_eq_getElem?_getD, List.getElem?_eq_getElem h]; rfl
def swp (cs : List AVal) (i j : Nat) : List AVal := (cs.set i (cAt cs j)).set j (cAt cs i)
theorem swp_len {cs : List AVal} {i j : Nat} : (swp cs i j).length = cs.length := by simp [swp]
theorem cAt_set {cs : List AVal} {i t : Nat} {v : AVal} (h : i < cs.length) : cAt (cs.set i v) t = if t = i then v else cAt cs t := by
  unfold cAt
  rw [List.getD_eq_getElem?_getD, List.getD_eq_getElem?_getD, List.getElem?_set]
  by_cases e : i = t
  · subst e; rw [if_pos rfl, if_pos h, if_pos rfl]; rfl
  · rw [if_neg e, if_neg (fun q => e q.symm)]
theorem cAt_swp {cs : List AVal} {i j t : Nat} (hi : i < cs.length) (hj : j < cs.length) : cAt (swp cs i j) t = if t = j then cAt cs i else if t = i then cAt cs j else cAt cs t := by
  unfold swp
  rw [cAt_set (by rw [List.length_set]; exact hj), cAt_set hi]
def exc (i j t : Nat) : Nat := if t = j then i else if t = i then j else t
theorem exc_exc (i j t : Nat) : exc i j (exc i j t) = t := by
  unfold exc
  by_cases h1 : t = j
  · subst h1
    rw [if_pos rfl]
    by_cases h2 : i = t
    · rw [if_pos h2]; exact h2
    · rw [if_neg h2, if_pos rfl]
  · rw [if_neg h1]
    by_cases h2 : t = i
    · rw [if_pos h2, if_pos rfl]; exact h2.symm
    · rw [if_neg h2, if_neg h1, if_neg h2]
theorem cAt_exc {cs : List AVal} {i j t : Nat} (hi : i < cs.length) (hj : j < cs.length) : cAt (swp cs i j) t = cAt cs (exc i j t) := by
  rw [cAt_swp hi hj]
  unfold exc
  split
  · rfl
  · split <;> rfl
structure Pm (a b : Nat) (cs cs' : List AVal) : Prop where
  len : cs'.length = cs.length
  it : ∃ f g : Nat → Nat, (∀ t, cAt cs' t = cAt cs (f t)) ∧ (∀ t, f (g t) = t) ∧ (∀ t, g (f t) = t) ∧ (∀ t, (t < a ∨ b ≤ t) → f t = t) ∧ (∀ t, a ≤ t → t < b → a ≤ f t ∧ f t < b)
theorem Pm.refl (a b : Nat) (cs : List AVal) : Pm a b cs cs := ⟨rfl, id, id, fun _ => rfl, fun _ => rfl, fun _ => rfl, fun _ _ => rfl, fun _ h1 h2 => ⟨h1, h2⟩⟩
theorem Pm.trans {a b : Nat} {cs cs' cs'' : List AVal} (h : Pm a b cs cs') (k : Pm a b cs' cs'') : Pm a b cs cs'' := by
  obtain ⟨f, g, h1, h2, h3, h4, h5⟩ := h.it
  obtain ⟨f', g', k1, k2, k3, k4, k5⟩ := k.it
  refine ⟨k.len.trans h.len, fun t => f (f' t), fun t => g' (g t), fun t => by rw [k1, h1], fun t => by dsimp only; rw [k2, h2], fun t => by dsimp only; rw [h3, k3], fun t ht => by dsimp only; rw [k4 t ht, h4 t ht], fun t ha hb => ?_⟩
  have := k5 t ha hb
  exact h5 _ this.1 this.2
theorem Pm.swp {a b i j : Nat} {cs : List AVal} (hi : a ≤ i ∧ i < b) (hj : a ≤ j ∧ j < b) (hb : b ≤ cs.length) : Pm a b cs (swp cs i j) := by
  refine ⟨swp_len, exc i j, exc i j, fun t => cAt_exc (by omega) (by omega), exc_exc i j, exc_exc i j, fun t ht => ?_, fun t h1 h2 => ?_⟩
  · unfold exc; rw [if_neg (by omega), if_neg (by omega)]
  · unfold exc; split
    · omega
    · split <;> omega
theorem Pm.weak {a b a' b' : Nat} {cs cs' : List AVal} (h : Pm a b cs cs') (ha : a' ≤ a) (hb : b ≤ b') : Pm a' b' cs cs' := by
  obtain ⟨f, g, h1, h2, h3, h4, h5⟩ := h.it
  refine ⟨h.len, f, g, h1, h2, h3, fun t ht => h4 t (by omega), fun t h6 h7 => ?_⟩
  by_cases h8 : a ≤ t ∧ t < b
  · have := h5 t h8.1 h8.2; omega
  · rw [h4 t (by omega)]; exact ⟨h6, h7⟩
theorem Pm.off {a b t : Nat} {cs cs' : List AVal} (h : Pm a b cs cs') (ht : t < a ∨ b ≤ t) : cAt cs' t = cAt cs t := by
  obtain ⟨f, g, h1, h2, h3, h4, h5⟩ := h.it
  rw [h1, h4 t ht]
theorem Pm.too {a b t : Nat} {cs cs' : List AVal} (h : Pm a b cs cs') (h1 : a ≤ t) (h2 : t < b) : ∃ s, a ≤ s ∧ s < b ∧ cAt cs' s = cAt cs t := by
  obtain ⟨f, g, k1, k2, k3, k4, k5⟩ := h.it
  refine ⟨g t, ?_, ?_, by rw [k1, k2]⟩
  · by_cases hc : a ≤ g t
    · exact hc
    · have := k4 (g t) (by omega); rw [k2] at this; omega
  · by_cases hc : g t < b
    · exact hc
    · have := k4 (g t) (by omega); rw [k2] at this; omega
def cmpI (a b : Int) : Int := if a < b then -1 else if a > b then 1 else 0
theorem cmpI_neg (a b : Int) : decide (cmpI a b < 0) = decide (a < b) := by
  unfold cmpI
  by_cases h : a < b
  · rw [if_pos h, decide_eq_true h]; rfl
  · rw [if_neg h, decide_eq_false h]; split <;> rfl
def Srd (K : AVal → Int) (cs : List AVal) (a b : Nat) : Prop := ∀ i j, a ≤ i → i < j → j < b → K (cAt cs i) ≤ K (cAt cs j)
structure SrtU (ext : Exts) (prog : FuncId → Option RFunc) (H0 : AHeap) (p : AVal) (F : FuncId) (U : AVal → Prop) (K : AVal → Int) : Prop where
  cmp : ∀ H', ExtP H0 H' p → ∀ x y, U x → U y → PureCon ext prog F [x, y] H' 8 (.int .i64 (cmpI (K x) (K y)))
  one : ∀ x, U x → OneV x
structure SrtS (H0 : AHeap) (p : AVal) (n : Nat) (U : AVal → Prop) (cs : List AVal) (H : AHeap) : Prop where
  sl : SliceAt H p 1 n cs
  wr : WrS H p
  ex : ExtP H0 H p
  mem : ∀ j, j < n → U (cAt cs j)
theorem SrtS.len {H0 H : AHeap} {p : AVal} {n : Nat} {U : AVal → Prop} {cs : List AVal} (h : SrtS H0 p n U cs H) : cs.length = n := by have := h.sl.len; omega
theorem SrtS.ext {H0 H H' : AHeap} {p : AVal} {n : Nat} {U : AVal → Prop} {cs : List AVal} (h : SrtS H0 p n U cs H) (x : Ext H H') : SrtS H0 p n U cs H' := by
  haveI := h.sl
  haveI := h.wr
  haveI : ExtI H H' := ⟨x⟩
  exact ⟨inferInstance, inferInstance, h.ex.ext x, h.mem⟩
theorem SrtS.swp {H0 H H' : AHeap} {p : AVal} {n i j : Nat} {U : AVal → Prop} {cs : List AVal} (h : SrtS H0 p n U cs H) (hi : i < n) (hj : j < n) (hs : SliceAt H' p 1 n (swp cs i j)) (hw : WrS H' p) (hx : ExtP H H' p) : SrtS H0 p n U (swp cs i j) H' := by
  have hl := h.len
  refine ⟨hs, hw, h.ex.trans hx, fun t ht => ?_⟩
  rw [cAt_exc (by omega) (by omega)]
  apply h.mem
  unfold exc
  split
  · exact hi
  · split
    · exact hj
    · exact ht
structure InsS (K : AVal → Int) (cs : List AVal) (a i j : Nat) : Prop where
  rest : ∀ s t, a ≤ s → s < t → t ≤ i → s ≠ j → t ≠ j → K (cAt cs s) ≤ K (cAt cs t)
  top : ∀ t, j < t → t ≤ i → K (cAt cs j) ≤ K (cAt cs t)
theorem InsS.start {K : AVal → Int} {cs : List AVal} {a i : Nat} (h : Srd K cs a i) : InsS K cs a i i := ⟨fun s t h1 h2 h3 h4 h5 => h s t h1 h2 (by omega), fun t h1 h2 => by omega⟩
theorem InsS.done {K : AVal → Int} {cs : List AVal} {a i j : Nat} (h : InsS K cs a i j) (hj : a ≤ j) (he : j = a ∨ ¬ K (cAt cs j) < K (cAt cs (j - 1))) : Srd K cs a (i + 1) := by
  intro s t h1 h2 h3
  by_cases e1 : s = j
  · subst e1; exact h.top t h2 (by omega)
  · by_cases e2 : t = j
    · subst e2
      rcases he with he | he
      · omega
      · by_cases e3 : s = t - 1
        · subst e3; omega
        · have := h.rest s (t - 1) h1 (by omega) (by omega) e1 (by omega); omega
    · exact h.rest s t h1 h2 (by omega) e1 e2
theorem InsS.step {K : AVal → Int} {cs : List AVal} {a i j : Nat} (h : InsS K cs a i j) (hj : a < j) (hi : j ≤ i) (hl : i < cs.length) (hlt : K (cAt cs j) < K (cAt cs (j - 1))) : InsS K (swp cs j (j - 1)) a i (j - 1) := by
  have e : ∀ t, cAt (swp cs j (j - 1)) t = if t = j - 1 then cAt cs j else if t = j then cAt cs (j - 1) else cAt cs t := fun t => cAt_swp (by omega) (by omega)
  refine ⟨fun s t h1 h2 h3 h4 h5 => ?_, fun t h1 h2 => ?_⟩
  · rw [e, e, if_neg h4, if_neg h5]
    by_cases e1 : s = j
    · subst e1
      rw [if_pos rfl, if_neg (by omega)]
      exact h.rest (s - 1) t (by omega) (by omega) h3 (by omega) (by omega)
    · rw [if_neg e1]
      by_cases e2 : t = j
      · subst e2
        rw [if_pos rfl]
        exact h.rest s (t - 1) h1 (by omega) (by omega) e1 (by omega)
      · rw [if_neg e2]
        exact h.rest s t h1 h2 h3 e1 e2
  · rw [e, e, if_pos rfl, if_neg (by omega)]
    by_cases e2 : t = j
    · subst e2; rw [if_pos rfl]; omega
    · rw [if_neg e2]
      exact h.top t (by omega) h2
end Go.Am
