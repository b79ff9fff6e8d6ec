import Derived.Test.YtpochhefklmnfaaGreatAmBD
set_option linter.unusedSimpArgs false
set_option linter.unusedVariables false
set_option maxHeartbeats 32000000
set_option maxRecDepth 100000
set_option synthInstance.maxHeartbeats 4000000
set_option synthInstance.maxSize 1000000000

namespace Go.Am
open Go
attribute [local irreducible] Wp WpO WpX WpE
structure Ok (a b : Nat) (l : List UInt8) : Prop where
 wa : a ≤ 640
 hb : b ≤ 640
 len : l.length = a * b
 px : pxOk l = true
theorem Ok.sized {a b : Nat} {l : List UInt8} (h : Ok a b l) : sizedB a b l.length = true := by
 have hm : a * b ≤ 640 * 640 := Nat.mul_le_mul h.wa h.hb
 have h1 : sideB a = true := by simp only [sideB, Bool.and_eq_true, decide_eq_true_eq]; have := h.wa; omega
 have h2 : sideB b = true := by simp only [sideB, Bool.and_eq_true, decide_eq_true_eq]; have := h.hb; omega
 unfold sizedB
 rw [h1, h2, wm (by omega), h.len]
 simp
theorem Ok.err {a b : Nat} {l : List UInt8} (h : Ok a b l) : Img.err ⟨a, b, l⟩ = 0 := by
 have h1 : (⟨a, b, l⟩ : Img).sized = true := h.sized
 have h2 := h.px
 unfold Img.err
 rw [h1]
 simp only [h2, cond_true]
theorem combOk {a b : Nat} {l m : List UInt8} {op : UInt8 → UInt8 → UInt8} (h : Ok a b l) (k : Ok a b m) : combSpec op ⟨a, b, l⟩ ⟨a, b, m⟩ = (⟨a, b, List.zipWith op l m⟩, 0) := by
 simp only [combSpec, h.err, k.err, beq_self_eq_true, cond_true, Bool.and_self]
end Go.Am


namespace Go.Am
open Go
attribute [local irreducible] Wp WpO WpX WpE
theorem getD_map {f : Nat → UInt8} {n i : Nat} (h : i < n) : ((List.range n).map f).getD i 0 = f i := by simp [h]
theorem list_eq {l m : List UInt8} (hl : l.length = m.length) (h : ∀ t, t < l.length → l.getD t 0 = m.getD t 0) : l = m := by
 apply List.ext_getElem hl
 intro i h1 h2
 have := h i h1
 simpa [h1, h2] using this
end Go.Am


namespace Go.Am
open Go
attribute [local irreducible] Wp WpO WpX WpE
theorem div_lt' {a b t : Nat} (h : t < a * b) : t / a < b := Nat.div_lt_of_lt_mul h
def fillP (P : Nat → Bool) (f : Nat → UInt8) (n : Nat) : List UInt8 := (List.range n).map fun k => if P k = true then f k else 0
theorem fillP_length (P : Nat → Bool) (f : Nat → UInt8) (n : Nat) : (fillP P f n).length = n := by simp [fillP]
theorem fillP_congr {P Q : Nat → Bool} {f : Nat → UInt8} {n : Nat} (h : ∀ k, k < n → (Q k = true ↔ P k = true)) : fillP P f n = fillP Q f n := by
 refine list_eq (by rw [fillP_length, fillP_length]) fun t ht => ?_
 rw [fillP_length] at ht
 rw [fillP, fillP, getD_map ht, getD_map ht]
 have := h t ht
 by_cases h1 : P t = true
 ·rw [if_pos h1, if_pos (this.2 h1)]
 ·rw [if_neg h1, if_neg (fun q => h1 (this.1 q))]
theorem fillP_none {P : Nat → Bool} {f : Nat → UInt8} {n : Nat} (h : ∀ k, k < n → P k = false) : fillP P f n = List.replicate n 0 := by
 refine list_eq (by rw [fillP_length, List.length_replicate]) fun t ht => ?_
 rw [fillP_length] at ht
 rw [fillP, getD_map ht, h t ht]
 simp [ht]
theorem fillP_all {P : Nat → Bool} {f : Nat → UInt8} {n : Nat} (h : ∀ k, k < n → P k = true) : fillP P f n = (List.range n).map f := by
 refine list_eq (by simp [fillP_length]) fun t ht => ?_
 rw [fillP_length] at ht
 rw [fillP, getD_map ht, getD_map ht, h t ht]
 rfl
theorem fillP_set {P Q : Nat → Bool} {f : Nat → UInt8} {n j : Nat} (h : ∀ k, k < n → (Q k = true ↔ P k = true ∨ k = j)) : (fillP P f n).set j (f j) = fillP Q f n := by
 refine list_eq (by rw [List.length_set, fillP_length, fillP_length]) fun t ht => ?_
 rw [List.length_set, fillP_length] at ht
 rw [List.getD_eq_getElem?_getD, List.getElem?_set, fillP_length, fillP, fillP, getD_map ht]
 have := h t ht
 by_cases h1 : j = t
 ·subst h1
  rw [if_pos rfl, if_pos ht, if_pos (this.2 (Or.inr rfl))]; rfl
 ·rw [if_neg h1, ← List.getD_eq_getElem?_getD, getD_map ht]
  by_cases h2 : P t = true
  ·rw [if_pos h2, if_pos (this.2 (Or.inl h2))]
  ·rw [if_neg h2, if_neg (fun q => by rcases this.1 q with q | q; exact h2 q; exact h1 q.symm)]
theorem fillP_skip {P Q : Nat → Bool} {f : Nat → UInt8} {n j : Nat} (h0 : f j = 0) (h : ∀ k, k < n → (Q k = true ↔ P k = true ∨ k = j)) : fillP P f n = fillP Q f n := by
 rw [← fillP_set h, h0]
 refine list_eq (by rw [List.length_set]) fun t ht => ?_
 rw [List.getD_eq_getElem?_getD (l := List.set _ _ _), List.getElem?_set]
 by_cases h1 : j = t
 ·subst h1
  rw [if_pos rfl, if_pos ht, Option.getD_some]
  rw [fillP_length] at ht
  rw [fillP, getD_map ht, h0]
  split <;> rfl
 ·rw [if_neg h1, ← List.getD_eq_getElem?_getD]
theorem getD01 {l : List UInt8} (h : pxOk l = true) (i : Nat) : l.getD i 0 = 0 ∨ l.getD i 0 = 1 := by
 by_cases hi : i < l.length
 ·exact px_get h hi
 ·left; rw [List.getD_eq_getElem?_getD, List.getElem?_eq_none (by omega)]; rfl
theorem ok_of {w h : Int} {l : List UInt8} (h0 : (Img.err ⟨w, h, l⟩ == 0) = true) : ∃ a b : Nat, w = a ∧ h = b ∧ Ok a b l := by
 obtain ⟨h1, h2⟩ := Img.ok h0
 obtain ⟨a, b, e1, e2, e3, e4, e5⟩ := sized_nat h1
 exact ⟨a, b, e1, e2, e3, e4, e5, h2⟩
end Go.Am


namespace Go.Am
open Go
attribute [local irreducible] Wp WpO WpX WpE
end Go.Am


namespace Go.Am
open Go
attribute [local irreducible] Wp WpO WpX WpE
def mixP (P : Nat → Bool) (f g : Nat → UInt8) (n : Nat) : List UInt8 := (List.range n).map fun k => if P k = true then f k else g k
theorem mixP_length (P : Nat → Bool) (f g : Nat → UInt8) (n : Nat) : (mixP P f g n).length = n := by simp [mixP]
theorem mixP_set {P Q : Nat → Bool} {f g : Nat → UInt8} {n j : Nat} (h : ∀ k, k < n → (Q k = true ↔ P k = true ∨ k = j)) : (mixP P f g n).set j (f j) = mixP Q f g n := by
 apply List.ext_getElem
 ·simp [mixP]
 ·intro k h1 h2
  have hk : k < n := by simpa [mixP] using h2
  have := h k hk
  rw [List.getElem_set]
  simp only [mixP, List.getElem_map, List.getElem_range]
  by_cases e : j = k
  ·subst e
   rw [if_pos rfl, if_pos (this.2 (Or.inr rfl))]
  ·rw [if_neg e]
   by_cases hp : P k = true
   ·rw [if_pos hp, if_pos (this.2 (Or.inl hp))]
   ·rw [if_neg hp, if_neg (fun q => by rcases this.1 q with h3 | h3; exact hp h3; exact e h3.symm)]
structure JS (Hb : AHeap) (r : Nat) (R0 : RLoop) (q : AVal) (L : List UInt8) (H : AHeap) : Prop where
 n : Hb.n ≤ H.n
 get : ∀ s, s < Hb.n → RowNe q s → H.get s = Hb.get s
 px : BytesI H q L
 wr : WrS H q
 loop : HasLoop H r R0
theorem JS.row {Hb H : AHeap} {r s : Nat} {R0 : RLoop} {q : AVal} {L : List UInt8} {cs : List AVal} {rw : Bool} {e : TypeId} (h : JS Hb r R0 q L H) (k : HasRow Hb s cs rw e) (hne : RowNe q s) : HasRow H s cs rw e := ⟨Nat.lt_of_lt_of_le k.lt h.n, by rw [h.get s k.lt hne]; exact k.get⟩
theorem JS.slice {Hb H : AHeap} {r : Nat} {R0 : RLoop} {q p : AVal} {L : List UInt8} {sz n : Nat} {cs : List AVal} (h : JS Hb r R0 q L H) (k : SliceAt Hb p sz n cs) (hne : SepS p q) : SliceAt H p sz n cs := k.keep h.n fun s _ _ _ _ e hs => h.get s hs ⟨fun r' _ _ _ _ e' hh => hne.ne _ _ _ _ _ _ _ _ _ _ e e' hh.symm⟩
theorem JS.ext {Hh Hb H : AHeap} {r : Nat} {R0 : RLoop} {q : AVal} {L : List UInt8} (h : JS Hb r R0 q L H) (x : Ext Hh Hb) (f : FreshS Hh q) : Ext Hh H := ⟨Nat.le_trans x.n h.n, fun s hs => by have := x.n; rw [h.get s (by omega) ⟨fun r' _ _ _ _ e => by have := f.ge _ _ _ _ _ e; omega⟩, x.get s hs]⟩
theorem JS.start {Hb : AHeap} {R0 : RLoop} {q : AVal} {L : List UInt8} (k : BytesI Hb q L) (w : WrS Hb q) : JS Hb (Hb.n + 1) R0 q L ((Hb.push .dead).push (.loop R0)) := by
 haveI := k
 haveI := w
 refine ⟨by simp only [AHeap.push]; omega, fun s hs _ => ?_, inferInstance, inferInstance, (inferInstance : HasLoop ((Hb.push .dead).push (.loop R0)) (Hb.push .dead).n R0)⟩
 rw [push_get_lt (by simp only [AHeap.push]; omega), push_get_lt hs]
theorem rct_at {a x y : Nat} (hx : x < a) : (y * a + x) % a = x ∧ (y * a + x) / a = y := by
 constructor
 ·rw [Nat.mul_comm, Nat.mul_add_mod]; exact Nat.mod_eq_of_lt hx
 ·rw [Nat.mul_comm, Nat.mul_add_div (by omega), Nat.div_eq_of_lt hx, Nat.add_zero]
theorem div_inj {a j k : Nat} (h1 : j % a = k % a) (h2 : j / a = k / a) : j = k := by
 have := Nat.div_add_mod j a
 have := Nat.div_add_mod k a
 rw [h1, h2] at *; omega
end Go.Am


namespace Go.Am
open Go
attribute [local irreducible] Wp WpO WpX WpE
end Go.Am


namespace Go.Am
open Go
open Nat renaming reduceEqDiff → qe, reduceAdd → qz
open Int renaming reduceBEq → qa, reduceBNe → qn
attribute [local irreducible] Wp WpO WpX WpE
theorem K_stTwin {H : AHeap} {a b : Int} {p : AVal} {l : List UInt8} [hp : BytesI H p l] (hl : l.length < 2 ^ 40) : Con ext prog 2 32 [.agg [.int .i64 a, .int .i64 b, p]] H fun v H' => NewInk H H' v ⟨a, b, l⟩ := by
 refine con_of (show prog 32 = some c32 from rfl) rfl rfl fun n hn => ?_
 haveI := hp.one
 refine sq ?_
 refine rg fun KF hKF => ?_
 refine bA ?_
 refine nw ?_
 refine nl hKF ?_
 refine sq ?_
 refine Fr.dregion0 rfl fun KF hKF => ?_
 repeat first | refine Er rfl (exec_ld rfl rfl) rfl ?_ | refine Fe.pure rfl rfl (by simp only [↓nrmL, nrmZ, qe, ↓reduceIte, qz, qa, qn]; rfl) ?_
 refine Fe.con rfl hn rfl rfl (by simp only [↓nrmL, nrmZ, qe, ↓reduceIte, qz, qa, qn, List.map] <;> rfl) (K_Clone hl) fun v H1 ⟨h1, h2, h3, h4⟩ => ?_
 haveI : ExtI _ H1 := ⟨h4⟩
 haveI := h1.one
 refine ar ?_
 refine Fe.pure rfl (exec_build (by repeat (first | refine aFill1 (by (try simp only [↓nrmL, nrmZ, qe, ↓reduceIte, qz, qa, qn]); rfl) rfl ?_ | rfl))) (by simp only [↓nrmL, nrmZ, qe, ↓reduceIte, qz, qa, qn]; rfl) ?_
 refine Ee rfl (xs rfl (by (try simp only [↓nrmL, nrmZ, qe, ↓reduceIte, qz, qa, qn]); rfl) rfl rfl rfl (by (try simp only [↓nrmL, nrmZ, qe, ↓reduceIte, qz, qa, qn]); rfl)) ?_
 refine WpE.nil (hKF _ _ ?_)
 refine rt ?_
 dsimp only
 refine rz trivial ?_
 exact ⟨v, rfl, inferInstance, h2.weak, inferInstance, Ext0.ext⟩
end Go.Am

namespace Go.Am
open Go
section
variable {call : ACall} {lf : Nat} {fr : AFrame} {H : AHeap} {Q : RExit → AFrame → AHeap → Prop} {a b : RCode}
end
end Go.Am


namespace Go.Am
open Go
attribute [local irreducible] Wp WpO WpX WpE
class Z0 (l : List Int) : Prop where
 hp : 0 < l.length
 h0 : l.getD 0 0 = 0
 hs : l.length ≤ 640
def nbF (L : List Int) : Nat → Nat
 | 0 => 0
 | k + 1 => nbF L k + (if k = 0 ∨ L.getD (k - 1) 0 = L.getD k 0 then 0 else 1)
structure Wave (w : Nat) (L : List Int) (k : Nat) : Prop where
 len : L.length = w
 near : ∀ x, x + 1 < w → L.getD (x + 1) 0 - L.getD x 0 ≤ 1 ∧ L.getD x 0 - L.getD (x + 1) 0 ≤ 1
 low : ∀ x, -(k : Int) ≤ L.getD x 0 ∧ L.getD x 0 ≤ (k : Int)
 zero : L.getD 0 0 = 0
 bend : ∀ x, x + 2 < w → L.getD x 0 = L.getD (x + 1) 0 ∨ L.getD (x + 1) 0 = L.getD (x + 2) 0
 few : 8 * nbF L w ≤ w
structure WaveX (w : Nat) (L : List Int) (k X : Nat) (Y : Int) : Prop extends Wave w L k where
 tail : ∀ i, X ≤ i → i < w → L.getD i 0 = Y
 y : -(k : Int) ≤ Y ∧ Y ≤ (k : Int)
 cnt : 8 * nbF L w ≤ X
end Go.Am


namespace Go.Am
open Go
attribute [local irreducible] Wp WpO WpX WpE
def lineL (lo : Nat) (L : List Int) (i k : Nat) : List Int := (List.range L.length).map fun x => 5 + (lo : Int) + 36 * i + 6 * k + L.getD x 0
def staveL (lo : Nat) (L : List Int) (i : Nat) : List (List Int) := (List.range 5).map (lineL lo L i)
structure StvR (H : AHeap) (sp : AVal) (ls : List (List Int)) (B : Nat) : Prop where
 it : ∃ r ps e, sp = .slice r 0 ls.length none 1 ∧ HasRow H r ps true e ∧ e / 2 = 53 ∧ ps.length = ls.length ∧ B ≤ r ∧ ∀ j (h : j < ls.length), ∃ rj, ps[j]? = some (.slice rj 0 ls[j].length (some ls[j].length) 1) ∧ HasRow H rj (cellsI ls[j]) true (2 * 3) ∧ B ≤ rj
theorem StvR.keep {H H' : AHeap} {sp : AVal} {ls : List (List Int)} {B : Nat} (h : StvR H sp ls B) (hn : H.n ≤ H'.n) (hg : ∀ s cs e, s < H.n → B ≤ s → H.get s = .row cs true e → (e / 2 = 53 ∨ e = 2 * 3) → H'.get s = H.get s) : StvR H' sp ls B := by
 obtain ⟨r, ps, e, h1, h2, h3, h4, h5, h6⟩ := h.it
 refine ⟨r, ps, e, h1, ⟨Nat.lt_of_lt_of_le h2.lt hn, by rw [hg r ps e h2.lt h5 h2.get (Or.inl h3)]; exact h2.get⟩, h3, h4, h5, fun j hj => ?_⟩
 obtain ⟨rj, a1, a2, a3⟩ := h6 j hj
 exact ⟨rj, a1, ⟨Nat.lt_of_lt_of_le a2.lt hn, by rw [hg rj _ _ a2.lt a3 a2.get (Or.inr rfl)]; exact a2.get⟩, a3⟩
class RowLt (p : AVal) (B : Nat) : Prop where
 lt : ∀ r off len cap sz, p = .slice r off len cap sz → r < B
structure Lns (H : AHeap) (ps : List AVal) (ls : List (List Int)) (B : Nat) : Prop where
 len : ps.length = ls.length
 it : ∀ j (h : j < ls.length), ∃ rj, ps[j]? = some (.slice rj 0 ls[j].length (some ls[j].length) 1) ∧ HasRow H rj (cellsI ls[j]) true (2 * 3) ∧ B ≤ rj
theorem Lns.keep {H H' : AHeap} {ps : List AVal} {ls : List (List Int)} {B : Nat} (h : Lns H ps ls B) (hn : H.n ≤ H'.n) (hg : ∀ s cs, s < H.n → B ≤ s → H.get s = .row cs true (2 * 3) → H'.get s = H.get s) : Lns H' ps ls B := ⟨h.len, fun j hj => by
 obtain ⟨rj, a1, a2, a3⟩ := h.it j hj
 exact ⟨rj, a1, ⟨Nat.lt_of_lt_of_le a2.lt hn, by rw [hg rj _ a2.lt a3 a2.get]; exact a2.get⟩, a3⟩⟩
theorem Lns.stv {H : AHeap} {sp : AVal} {ps : List AVal} {ls : List (List Int)} {B : Nat} (h : Lns H ps ls B) (ho : OwnS H sp 1 ls.length ps 53) (h0 : 0 < ls.length) (hf : ∀ r off len cap sz, sp = .slice r off len cap sz → B ≤ r) : StvR H sp ls B := by
 rcases ho.it with ⟨_, h1, _⟩ | ⟨r, e, h1, h2, h3, h4, h5, h6⟩
 ·omega
 ·exact ⟨r, ps, e, h1, ⟨h2, h3⟩, h4, h.len, hf _ _ _ _ _ h1, h.it⟩
end Go.Am


namespace Go.Am
open Go
attribute [local irreducible] Wp WpO WpX WpE
theorem Wave.mono {w k k' : Nat} {L : List Int} (h : Wave w L k) (hk : k ≤ k') : Wave w L k' := ⟨h.len, h.near, fun x => by have := h.low x; omega, h.zero, h.bend, h.few⟩
section
variable {call : ACall} {fr : AFrame} {H : AHeap} {K : AVal → AHeap → Prop}
theorem WpX.stR {a x : ROpd} {r j : Nat} {l : List Int} {b : Int} {e : TypeId} (ha : a.ev fr = .ptr r j) (hx : x.ev fr = .int .i64 b) [hg : HasRow H r (cellsI l) true e] (hj : j < l.length) (h : K aundef (H.set r (.row (cellsI (l.set j b)) true e))) : WpX (.store 1 a x) call fr H K := by
 refine WpX.store ha hx rfl hg.lt hg.get (by simp only [AVal.cells, List.length_singleton, cellsI_length]; omega) rfl ?_
 rw [← set_ints] at h
 exact h
end
theorem row_ints {H : AHeap} {r n : Nat} {l : List Int} {w : Bool} {e : TypeId} (h : HasRow H r (cellsI l) w e) (hn : l.length = n) : IntsI H (.slice r 0 n (some n) 1) l := by
 subst hn
 exact ⟨Or.inr ⟨r, 0, some l.length, cellsI l, w, e, rfl, h.lt, h.get, by rw [cellsI_length]; omega, by rw [List.drop_zero, Nat.mul_one, ← cellsI_length l, List.take_length], Nat.le_refl _⟩⟩
instance row_one {H : AHeap} {r : Nat} {a : AVal} {rw : Bool} {ty : TypeId} [h : HasRow H r [a] rw ty] : SliceAt H (.slice r 0 1 (some 1) 1) 1 1 [a] := ⟨Or.inr ⟨r, 0, some 1, _, rw, ty, rfl, h.lt, h.get, by simp, rfl, Nat.le_refl _⟩⟩
theorem ExtP.other {a b c : AHeap} {p q : AVal} (h : ExtP a b p) (k : ExtP b c q) (hq : ∀ r off len cap sz, q = .slice r off len cap sz → a.n ≤ r) : ExtP a c p := ⟨Nat.le_trans h.n k.n, fun r hr hp => by
 rw [k.get r (Nat.lt_of_lt_of_le hr h.n) ⟨fun r' _ _ _ _ e => by have := hq _ _ _ _ _ e; omega⟩]
 exact h.get r hr hp⟩
structure Drw (P : List UInt8) (w h : Nat) (D : Nat → Nat → Prop) : Prop where
 it : ∀ x y, x < w → y < h → (P.getD (y * w + x) 0 = 1 ↔ D x y)
theorem Drw.congr {P : List UInt8} {w h : Nat} {D E : Nat → Nat → Prop} (d : Drw P w h D) (hE : ∀ x y, x < w → y < h → (D x y ↔ E x y)) : Drw P w h E := ⟨fun x y hx hy => by rw [← hE x y hx hy]; exact d.it x y hx hy⟩
theorem Drw.set {P : List UInt8} {w h x y : Nat} {D E : Nat → Nat → Prop} (d : Drw P w h D) (hl : P.length = w * h) (hx : x < w) (hy : y < h) (hE : ∀ x' y', x' < w → y' < h → (E x' y' ↔ D x' y' ∨ (x' = x ∧ y' = y))) : Drw (P.set (y * w + x) 1) w h E := ⟨fun x' y' hx' hy' => by
 have hlt : y * w + x < P.length := by rw [hl]; exact idx_lt hx hy
 rw [hE x' y' hx' hy']
 by_cases e : x' = x ∧ y' = y
 ·obtain ⟨rfl, rfl⟩ := e
  rw [List.getD_eq_getElem?_getD, List.getElem?_set_self hlt]
  exact ⟨fun _ => Or.inr ⟨rfl, rfl⟩, fun _ => rfl⟩
 ·have hne : y * w + x ≠ y' * w + x' := fun q => by
   obtain ⟨e1, e2⟩ := rct_at (y := y) hx
   obtain ⟨e3, e4⟩ := rct_at (y := y') hx'
   exact e ⟨by rw [← e3, ← q, e1], by rw [← e4, ← q, e2]⟩
  rw [List.getD_eq_getElem?_getD, List.getElem?_set_ne hne, ← List.getD_eq_getElem?_getD, d.it x' y' hx' hy']
  exact ⟨Or.inl, fun q => q.elim id fun q => absurd q e⟩⟩
def DrU (lo : Nat) (L : List Int) (i k x0 x y : Nat) : Prop := ∃ j m, m < 5 ∧ (j < i ∨ (j = i ∧ (m < k ∨ (m = k ∧ x < x0)))) ∧ (y : Int) = 5 + (lo : Int) + 36 * (j : Int) + 6 * (m : Int) + L.getD x 0
theorem DrU.none {lo w h n : Nat} {L : List Int} : Drw (List.replicate n 0) w h (DrU lo L 0 0 0) := ⟨fun x y _ _ => by
 have e : (List.replicate n (0 : UInt8)).getD (y * w + x) 0 = 0 := by
  rw [List.getD_eq_getElem?_getD, List.getElem?_replicate]; split <;> rfl
 rw [e]
 exact ⟨fun q => (by cases q), fun ⟨j, m, _, q, _⟩ => (by omega)⟩⟩
theorem DrU.stave {lo i x y : Nat} {L : List Int} : DrU lo L i 5 0 x y ↔ DrU lo L (i + 1) 0 0 x y := by
 constructor
 ·rintro ⟨j, m, h1, h2, h3⟩; exact ⟨j, m, h1, by omega, h3⟩
 ·rintro ⟨j, m, h1, h2, h3⟩; exact ⟨j, m, h1, by omega, h3⟩
theorem DrU.line {lo i k x y w : Nat} {L : List Int} (hx : x < w) : DrU lo L i k w x y ↔ DrU lo L i (k + 1) 0 x y := by
 constructor
 ·rintro ⟨j, m, h1, h2, h3⟩; exact ⟨j, m, h1, by omega, h3⟩
 ·rintro ⟨j, m, h1, h2, h3⟩; exact ⟨j, m, h1, by omega, h3⟩
theorem DrU.next {lo i k x fx x' y' : Nat} {L : List Int} (hk : k < 5) (hf : (fx : Int) = 5 + (lo : Int) + 36 * (i : Int) + 6 * (k : Int) + L.getD x 0) : DrU lo L i k (x + 1) x' y' ↔ DrU lo L i k x x' y' ∨ (x' = x ∧ y' = fx) := by
 constructor
 ·rintro ⟨j, m, h1, h2, h3⟩
  by_cases e : j = i ∧ m = k ∧ x' = x
  ·obtain ⟨rfl, rfl, rfl⟩ := e
   exact Or.inr ⟨rfl, by omega⟩
  ·exact Or.inl ⟨j, m, h1, by omega, h3⟩
 ·rintro (⟨j, m, h1, h2, h3⟩ | ⟨rfl, rfl⟩)
  ·exact ⟨j, m, h1, by omega, h3⟩
  ·exact ⟨i, k, hk, by omega, hf⟩
structure WavyR (H H' : AHeap) (v : AVal) (w h n : Nat) (L : List Int) (lo hi : Nat) (P : List UInt8) (gp op : AVal) (cells : List AVal) (B : Nat) : Prop where
 ev : v = .tuple [.agg [.int .i64 (w : Int), .int .i64 (h : Int), gp], op]
 w1 : 40 ≤ w
 w2 : w ≤ 159
 n1 : 1 ≤ n
 n2 : n ≤ 3
 wave : Wave w L 14
 lo1 : lo ≤ 14
 hi1 : hi ≤ 14
 lo2 : ∀ x, -(lo : Int) ≤ L.getD x 0
 hi2 : ∀ x, L.getD x 0 ≤ (hi : Int)
 eh : h = 36 * n + lo + hi - 1
 ok : Ok w h P
 hgp : BytesI H' gp P
 wr : WrS H' gp
 fr : FreshS H gp
 hop : SliceAt H' op 1 n cells
 stv : ∀ j, j < n → ∃ sp, cells[j]? = some sp ∧ StvR H' sp (staveL lo L j) B
 B1 : H.n ≤ B
 B2 : RowLt gp B
 B3 : ∀ r off len cap sz, op = .slice r off len cap sz → B ≤ r
 ext : Ext H H'
 drw : Drw P w h (DrU lo L n 0 0)
end Go.Am


namespace Go.Am
open Go
attribute [local irreducible] Wp WpO WpX WpE
theorem StvR.lines {H : AHeap} {sp : AVal} {ls : List (List Int)} {B : Nat} (h : StvR H sp ls B) : LinesI H sp ls := by
 obtain ⟨r, ps, e, h1, h2, h3, h4, h5, h6⟩ := h.it
 refine ⟨ps, ?_, ⟨fun i hi => ?_⟩⟩
 ·rw [h1]
  exact ⟨Or.inr ⟨r, 0, none, ps, true, e, rfl, h2.lt, h2.get, by omega, by rw [List.drop_zero, Nat.mul_one, ← h4, List.take_length], Nat.le_refl _⟩⟩
 ·obtain ⟨rj, a1, a2, a3⟩ := h6 i hi
  exact ⟨_, a1, row_ints a2 rfl⟩
theorem StvR.lo {H : AHeap} {sp : AVal} {ls : List (List Int)} {B : Nat} (h : StvR H sp ls B) : ∀ r off len cap sz, sp = .slice r off len cap sz → B ≤ r := by
 obtain ⟨r, ps, e, h1, h2, h3, h4, h5, h6⟩ := h.it
 intro r' off len cap sz e'
 rw [h1] at e'; cases e'; exact h5
end Go.Am


namespace Go.Am
open Go
open Nat renaming reduceEqDiff → qe, reduceAdd → qz
open Int renaming reduceBEq → qa, reduceBNe → qn
attribute [local irreducible] Wp WpO WpX WpE
abbrev RunT := Int × Int × Int
def cellsR (l : List RunT) : List AVal := l.flatMap fun r => [.int .i64 r.1, .int .i64 r.2.1, .int .i64 r.2.2]
theorem cellsR_snoc (l : List RunT) (r : RunT) : cellsR (l ++ [r]) = cellsR l ++ [.int .i64 r.1, .int .i64 r.2.1, .int .i64 r.2.2] := by simp [cellsR]
def startB (p : Nat → Bool) (x : Nat) : Bool := p x && !(decide (0 < x) && p (x - 1))
def endF (p : Nat → Bool) (len : Nat) : Nat → Nat → Nat
 | 0, i => i
 | f + 1, i => if i + 1 < len ∧ p (i + 1) = true then endF p len f (i + 1) else i
def endB (p : Nat → Bool) (len i : Nat) : Nat := endF p len len i
theorem endF_eq {p : Nat → Bool} {len e : Nat} (he : e < len) (hno : e + 1 < len → p (e + 1) = false) : ∀ {f i : Nat}, i ≤ e → e - i ≤ f → (∀ t, i ≤ t → t ≤ e → p t = true) → endF p len f i = e
 | 0, i, h1, h2, _ => by simp only [endF]; omega
 | f + 1, i, h1, h2, h3 => by
  simp only [endF]
  by_cases h : i = e
  ·subst h
   rw [if_neg (fun q => by rw [hno q.1] at q; cases q.2)]
  ·rw [if_pos ⟨by omega, h3 (i + 1) (by omega) (by omega)⟩]
   exact endF_eq he hno (by omega) (by omega) fun t a b => h3 t (by omega) b
theorem endB_eq {p : Nat → Bool} {len i e : Nat} (he : e < len) (hno : e + 1 < len → p (e + 1) = false) (hi : i ≤ e) (hall : ∀ t, i ≤ t → t ≤ e → p t = true) : endB p len i = e := endF_eq he hno hi (by omega) hall
def runV (o : Nat → Nat → Bool) (len a x : Nat) : RunT := ((a : Nat), (x : Nat), (endB (o a) len x : Nat))
def preR (o : Nat → Nat → Bool) (len a x : Nat) : List RunT := ((List.range x).filter (startB (o a))).map (runV o len a)
def allR (o : Nat → Nat → Bool) (len y : Nat) : List RunT := (List.range y).flatMap fun a => preR o len a len
theorem preR_zero (o : Nat → Nat → Bool) (len a : Nat) : preR o len a 0 = [] := rfl
theorem preR_on {o : Nat → Nat → Bool} {len a x : Nat} (h : startB (o a) x = true) : preR o len a (x + 1) = preR o len a x ++ [runV o len a x] := by
 simp [preR, List.range_succ, List.filter_append, h]
theorem preR_off {o : Nat → Nat → Bool} {len a x : Nat} (h : startB (o a) x = false) : preR o len a (x + 1) = preR o len a x := by
 simp [preR, List.range_succ, List.filter_append, h]
theorem preR_skip {o : Nat → Nat → Bool} {len a i : Nat} : ∀ {j : Nat}, i ≤ j → (∀ t, i ≤ t → t < j → startB (o a) t = false) → preR o len a j = preR o len a i
 | 0, h, _ => by rw [show i = 0 by omega]
 | j + 1, h, hn => by
  by_cases hij : i = j + 1
  ·rw [hij]
  ·rw [preR_off (hn j (by omega) (by omega))]
   exact preR_skip (by omega) fun t a b => hn t a (by omega)
theorem preR_len (o : Nat → Nat → Bool) (len a x : Nat) : (preR o len a x).length ≤ x := by
 rw [preR, List.length_map]
 have := List.length_filter_le (startB (o a)) (List.range x)
 simpa using this
theorem allR_succ (o : Nat → Nat → Bool) (len y : Nat) : allR o len (y + 1) = allR o len y ++ preR o len y len := by
 simp [allR, List.range_succ]
theorem allR_len (o : Nat → Nat → Bool) (len : Nat) : ∀ y, (allR o len y).length ≤ y * len
 | 0 => by simp [allR]
 | y + 1 => by
  rw [allR_succ, List.length_append, Nat.add_mul, Nat.one_mul]
  have := allR_len o len y
  have := preR_len o len y len
  omega
theorem K_iter {lines len r r1 r2 r3 : Nat} {F : FuncId} {cap : AVal} {o : Nat → Nat → Bool} {J : List RunT → AHeap → Prop} {H : AHeap} {D : Nat} (hl : lines ≤ 640) (hlen : len ≤ 640)
  (hrow : ∀ acc H, J acc H → HasRow H r1 [.int .i64 lines] true (2 * 3) ∧ HasRow H r2 [.int .i64 len] true (2 * 3) ∧ HasRow H r3 [.func (.func F) [] [cap]] true (2 * 70))
  (hext : ∀ acc H H', J acc H → Ext H H' → J acc H')
  (hink : ∀ acc H, J acc H → ∀ a i : Nat, a < lines → i < len → PureCon ext prog F [.int .i64 a, .int .i64 i, cap] H 2 (.bool (o a i)))
  (hy : ∀ acc H, J acc H → acc.length ≤ 409600 → ∀ (a b c : Int) (n : Nat), fuel0 + D ≤ n → ∃ H', callN ext prog n yieldId [.yield r, .agg [.int .i64 a, .int .i64 b, .int .i64 c]] H = some (.bool true, H') ∧ J (acc ++ [(a, b, c)]) H')
  (hJ : J [] H) : Con ext prog (D + 3) 79 [.yield r, .ptr r1 0, .ptr r2 0, .ptr r3 0] H fun _ H' => J (allR o len lines) H' := by
 refine con_of (show prog 79 = some c79 from rfl) rfl rfl fun n hn => ?_
 obtain ⟨k1, k2, k3⟩ := hrow _ _ hJ
 refine sq ?_
 refine rg fun KF hKF => ?_
 refine Fo.ld rfl rfl ?_
 refine mI ?_
 refine nl hKF ?_
 refine Wp.block ?_
 dsimp only
 refine Wp.loopS [5, 6, 7, 9, 10, 11, 12, 13, 14, 15, 16, 17, 18, 19, 20, 21, 22, 23, 24, 25, 26, 27, 28, 29, 30, 31, 32, 33, 34, 35, 36, 37, 38, 39, 40, 41, 42, 43] (fun y : Nat => [(9, .int .i64 y)]) (fun _ y H2 => y ≤ lines ∧ J (allR o len y) H2) (fun y => lines - y) 0 rfl (fun _ => rfl) ⟨rfl, trivial⟩ ⟨Nat.zero_le _, hJ⟩ (by unfold fuel0 at hn; omega) ?_
 rintro y g H2 ⟨hyl, hJ2⟩
 have hal := allR_len o len y
 have hmul : y * len ≤ 640 * 640 := Nat.mul_le_mul (by omega) hlen
 obtain ⟨j1, j2, j3⟩ := hrow _ _ hJ2
 simp only [↓nrmL, nrmZ, qe, ↓reduceIte, qz, qa, qn]
 cases hc : decide ((y : Int) < (lines : Int))
 ·have hyb : y = lines := by have := of_decide_eq_false hc; omega
  refine sq ?_
  refine rg fun KF hKF => ?_
  refine bn rfl rfl rfl (by simp only [hc]; rfl) ?_
  refine nl hKF ?_
  refine sq ?_
  refine cf rfl ?_
  refine xi ?_
  dsimp only
  refine rz trivial ?_
  rw [← hyb]
  exact hJ2
 have hyb : y < lines := by have := of_decide_eq_true hc; omega
 have hw1 := wa1 (a := y) (by omega)
 have hmul2 : (y + 1) * len ≤ 640 * 640 := Nat.mul_le_mul (by omega) hlen
 rw [Nat.add_mul, Nat.one_mul] at hmul2
 repeat first | refine mI ?_ | refine bn rfl rfl rfl (by simp only [hc]; rfl) ?_ | refine nl hKF ?_ | refine sq ?_ | refine rg fun KF hKF => ?_ | refine ct rfl ?_ | refine sk ?_ | refine Wp.block ?_ | dsimp only
 refine Wp.loopS [6, 7, 12, 13, 14, 15, 16, 17, 18, 19, 20, 21, 22, 23, 24, 25, 26, 27, 28, 29, 30, 31, 32, 33, 34, 35, 36, 37, 38, 39, 40, 41, 42] (fun i : Nat => [(6, .int .i64 i)]) (fun _ i H3 => i ≤ len ∧ (i = 0 ∨ o y (i - 1) = false ∨ (i < len → o y i = false)) ∧ J (allR o len y ++ preR o len y i) H3) (fun i => len - i) 0 rfl (fun _ => rfl) ⟨rfl, trivial⟩ ⟨Nat.zero_le _, Or.inl rfl, by rw [preR_zero, List.append_nil]; exact hJ2⟩ (by unfold fuel0 at hn; omega) ?_
 rintro i g2 H3 ⟨hil, hinv, hJ3⟩
 have hpl := preR_len o len y i
 obtain ⟨m1, m2, m3⟩ := hrow _ _ hJ3
 simp only [↓nrmL, nrmZ, qe, ↓reduceIte, qz, qa, qn]
 cases hc2 : decide ((i : Int) < (len : Int))
 ·have hie : i = len := by have := of_decide_eq_false hc2; omega
  repeat first | refine mI ?_ | refine Fo.ld rfl rfl ?_ | refine bn rfl rfl rfl (by simp only [hc2]; rfl) ?_ | refine b0 ?_ | refine nl hKF ?_ | refine sq ?_ | refine rg fun KF hKF => ?_ | refine cf rfl ?_ | refine xi ?_ | dsimp only
  refine ⟨y + 1, by omega, ⟨by simp only [↓nrmL, nrmZ, qe, ↓reduceIte, qz, qa, qn]; rw [hw1], trivial⟩, hyb, ?_⟩
  rw [allR_succ, ← hie]
  exact hie ▸ hJ3
 have hie : i < len := by have := of_decide_eq_true hc2; omega
 have hw2 := wa1 (a := i) (by omega)
 haveI := hink _ _ hJ3 y i hyb hie
 cases ho : o y i
 ·have hst : startB (o y) i = false := by simp [startB, ho]
  rw [ho] at this
  repeat first | refine mI ?_ | refine Fo.ld rfl rfl ?_ | refine bn rfl rfl rfl (by simp only [hc2]; rfl) ?_ | refine nl hKF ?_ | refine sq ?_ | refine rg fun KF hKF => ?_ | refine ct rfl ?_ | refine sk ?_ | refine Wp.block ?_
  refine WpO.do (WpX.pcallC (D := D + 2) (d := 2) (args := [.int .i64 (y : Int), .int .i64 (i : Int), cap]) hn rfl (by simp only [↓nrmL, nrmZ, qe, ↓reduceIte, qz, qa, qn, List.map] <;> rfl) (by rw [Nat.ble_eq]; omega) fun H4 hx4 => ?_)
  repeat first | refine mI ?_ | refine b0 ?_ | refine Fo.now rfl rfl (by simp only [↓nrmL, nrmZ, qe, ↓reduceIte, qz, qa, qn]; rfl) ?_ | refine nl hKF ?_ | refine rg fun KF hKF => ?_ | refine ct rfl ?_ | refine xi ?_ | dsimp only
  refine ⟨i + 1, by omega, ⟨by simp only [↓nrmL, nrmZ, qe, ↓reduceIte, qz, qa, qn]; rw [hw2], trivial⟩, hie, Or.inr (Or.inl (by rw [Nat.add_sub_cancel]; exact ho)), ?_⟩
  rw [preR_off hst]
  exact hext _ _ _ hJ3 Ext0.ext
 have hst : startB (o y) i = true := by
  rcases hinv with h | h | h
  ·subst h; simp [startB, ho]
  ·simp [startB, ho, h]
  ·rw [h hie] at ho; cases ho
 rw [ho] at this
 repeat first | refine mI ?_ | refine Fo.ld rfl rfl ?_ | refine bn rfl rfl rfl (by simp only [hc2]; rfl) ?_ | refine nl hKF ?_ | refine sq ?_ | refine rg fun KF hKF => ?_ | refine ct rfl ?_ | refine sk ?_ | refine Wp.block ?_
 refine WpO.do (WpX.pcallC (D := D + 2) (d := 2) (args := [.int .i64 (y : Int), .int .i64 (i : Int), cap]) hn rfl (by simp only [↓nrmL, nrmZ, qe, ↓reduceIte, qz, qa, qn, List.map] <;> rfl) (by rw [Nat.ble_eq]; omega) fun H4 hx4 => ?_)
 have hJ4 : J _ H4 := hext _ _ _ hJ3 hx4.ext
 repeat first | refine mI ?_ | refine Fo.now rfl rfl (by simp only [↓nrmL, nrmZ, qe, ↓reduceIte, qz, qa, qn]; rfl) ?_ | refine nl hKF ?_ | refine sq ?_ | refine rg fun KF hKF => ?_ | refine cf rfl ?_ | refine sk ?_ | refine Wp.block ?_ | dsimp only
 refine Wp.loopS [6, 23, 24, 25, 26, 27, 28, 29, 30, 31, 32, 33, 34, 35] (fun e : Nat => [(6, .int .i64 e)]) (fun _ e H5 => i ≤ e ∧ e < len ∧ (∀ t, i ≤ t → t ≤ e → o y t = true) ∧ J (allR o len y ++ preR o len y i) H5) (fun e => len - e) i rfl (fun _ => rfl) ⟨rfl, trivial⟩ ⟨Nat.le_refl _, hie, fun t a b => by rw [show t = i by omega]; exact ho, hJ4⟩ (by unfold fuel0 at hn; omega) ?_
 rintro e g3 H5 ⟨hie2, hel, hall, hJ5⟩
 obtain ⟨q1, q2, q3⟩ := hrow _ _ hJ5
 have hw3 := wa1 (a := e) (by omega)
 have fin : ∀ H6, J (allR o len y ++ preR o len y i) H6 → (e + 1 < len → o y (e + 1) = false) → ∃ H', callN ext prog n yieldId [.yield r, .agg [.int .i64 (y : Int), .int .i64 (i : Int), .int .i64 (e : Int)]] H6 = some (.bool true, H') ∧ J (allR o len y ++ preR o len y (e + 1)) H' := by
  intro H6 hJ6 hno
  obtain ⟨H', h1, h2⟩ := hy _ _ hJ6 (by rw [List.length_append]; omega) y i e n (by omega)
  refine ⟨H', h1, ?_⟩
  have e1 : preR o len y (e + 1) = preR o len y i ++ [((y : Int), (i : Int), (e : Int))] := by
   rw [preR_skip (i := i + 1) (by omega) (fun t a b => by
    have : o y (t - 1) = true := hall (t - 1) (by omega) (by omega)
    have h0 : 0 < t := by omega
    simp [startB, this, h0]), preR_on hst, runV, endB_eq hel hno hie2 hall]
  rw [e1, ← List.append_assoc]
  exact h2
 simp only [↓nrmL, nrmZ, qe, ↓reduceIte, qz, qa, qn]
 cases hc3 : decide (((e + 1 : Nat) : Int) < (len : Int))
 ·have hee : ¬ e + 1 < len := by have := of_decide_eq_false hc3; omega
  obtain ⟨H7, y1, y2⟩ := fin H5 hJ5 (fun q => absurd q hee)
  repeat first | refine ox ?_ | refine mI ?_ | refine mB ?_ | refine mv ?_ | refine Fo.ld rfl rfl ?_ | refine bn rfl rfl rfl (by simp only [hw3, hc3]; rfl) ?_ | refine fB ?_ | (refine ob (cs' := ?_) ?hc ?_; case hc => (simp only [↓nrmL, nrmZ, qe, ↓reduceIte, qz, qa, qn, hw3, hc3]; rfl)) | refine nl hKF ?_ | refine sq ?_ | refine rg fun KF hKF => ?_ | refine cf rfl ?_ | refine xi ?_
  refine WpO.do (WpX.yield rfl (by simp only [↓nrmL, nrmZ, qe, ↓reduceIte, qz, qa, qn, List.map] <;> rfl) ⟨_, _, y1, ?_⟩)
  repeat first | refine mI ?_ | refine b0 ?_ | refine Fo.now rfl rfl (by simp only [↓nrmL, nrmZ, qe, ↓reduceIte, qz, qa, qn]; rfl) ?_ | refine nl hKF ?_ | refine rg fun KF hKF => ?_ | refine cf rfl ?_ | refine sk ?_ | dsimp only
  refine ⟨e + 1, by omega, ⟨by simp only [↓nrmL, nrmZ, qe, ↓reduceIte, qz, qa, qn]; rw [hw3], trivial⟩, by omega, Or.inr (Or.inr fun q => absurd q hee), y2⟩
 have hee : e + 1 < len := by have := of_decide_eq_true hc3; omega
 haveI := hink _ _ hJ5 y (e + 1) hyb hee
 cases ho2 : o y (e + 1)
 ·rw [ho2] at this
  repeat first | refine oy ?_ | refine mI ?_ | refine mB ?_ | refine Fo.ld rfl rfl ?_ | refine bn rfl rfl rfl (by simp only [hw3, hc3]; rfl) ?_ | refine sq ?_ | refine rg fun KF hKF => ?_
  refine WpO.do (WpX.pcallC (D := D + 2) (d := 2) (args := [.int .i64 (y : Int), .int .i64 ((e + 1 : Nat) : Int), cap]) hn rfl (by simp only [↓nrmL, nrmZ, qe, ↓reduceIte, qz, qa, qn, List.map] <;> rfl) (by rw [Nat.ble_eq]; omega) fun H6 hx6 => ?_)
  obtain ⟨H7, y1, y2⟩ := fin H6 (hext _ _ _ hJ5 hx6.ext) (fun _ => ho2)
  refine tB ?_
  refine nl hKF ?_
  refine cf rfl ?_
  refine xi ?_
  refine sq ?_
  refine rg fun KF hKF => ?_
  refine mv ?_
  refine mI ?_
  refine mI ?_
  refine mI ?_
  refine ob (cs' := ?_) ?hc ?_; case hc => (simp only [↓nrmL, nrmZ, qe, ↓reduceIte, qz, qa, qn]; rfl)
  refine WpO.do (WpX.yield rfl (by simp only [↓nrmL, nrmZ, qe, ↓reduceIte, qz, qa, qn, List.map] <;> rfl) ⟨_, _, y1, ?_⟩)
  repeat first | refine mI ?_ | refine b0 ?_ | refine Fo.now rfl rfl (by simp only [↓nrmL, nrmZ, qe, ↓reduceIte, qz, qa, qn]; rfl) ?_ | refine nl hKF ?_ | refine rg fun KF hKF => ?_ | refine cf rfl ?_ | refine sk ?_ | dsimp only
  refine ⟨e + 1, by omega, ⟨by simp only [↓nrmL, nrmZ, qe, ↓reduceIte, qz, qa, qn]; rw [hw3], trivial⟩, by omega, Or.inr (Or.inr fun _ => ho2), y2⟩
 ·rw [ho2] at this
  repeat first | refine oy ?_ | refine mI ?_ | refine mB ?_ | refine Fo.ld rfl rfl ?_ | refine bn rfl rfl rfl (by simp only [hw3, hc3]; rfl) ?_ | refine sq ?_ | refine rg fun KF hKF => ?_
  refine WpO.do (WpX.pcallC (D := D + 2) (d := 2) (args := [.int .i64 (y : Int), .int .i64 ((e + 1 : Nat) : Int), cap]) hn rfl (by simp only [↓nrmL, nrmZ, qe, ↓reduceIte, qz, qa, qn, List.map] <;> rfl) (by rw [Nat.ble_eq]; omega) fun H6 hx6 => ?_)
  repeat first | refine mI ?_ | refine b0 ?_ | refine tB ?_ | refine nl hKF ?_ | refine rg fun KF hKF => ?_ | refine ct rfl ?_ | refine sk ?_ | refine Wp.block ?_ | dsimp only
  refine ⟨e + 1, by omega, ⟨by simp only [↓nrmL, nrmZ, qe, ↓reduceIte, qz, qa, qn]; rw [hw3], trivial⟩, by omega, hee, fun t a b => ?_, hext _ _ _ hJ5 Ext0.ext⟩
  by_cases ht : t ≤ e
  ·exact hall t a ht
  ·rw [show t = e + 1 by omega]; exact ho2
end Go.Am


namespace Go.Am
open Go
open Nat renaming reduceEqDiff → qe, reduceAdd → qz
open Int renaming reduceBEq → qa, reduceBNe → qn
attribute [local irreducible] Wp WpO WpX WpE
instance {H : AHeap} {r : Nat} {a b c : AVal} {rw : Bool} {ty : TypeId} [h : HasRow H r [a, b, c] rw ty] : SliceAt H (.slice r 0 1 (some 1) 3) 3 1 [a, b, c] := ⟨Or.inr ⟨r, 0, some 1, _, rw, ty, rfl, h.lt, h.get, by simp, rfl, Nat.le_refl _⟩⟩
abbrev rndA : RCode := .region [⟨(some 6), .new 43 [(.int .i64 0), (.int .i64 0), (.int .i64 0)], none⟩, ⟨none, .store 3 (.tmp 6) (.tmp 18), none⟩]
abbrev rndB : RCode := .block 1 (.region [⟨(some 19), .load none (.tmp 5), none⟩,
   ⟨(some 20), .load (some 3) (.tmp 6), none⟩,
   ⟨(some 21), .buildSlice 43 3 1 [(.int .i64 0), (.int .i64 0), (.int .i64 0)] [(0, 3, (.tmp 20))], none⟩,
   ⟨(some 22), .append 43 3 24 (.tmp 19) (.tmp 21), none⟩,
   ⟨none, .store 1 (.tmp 5) (.tmp 22), none⟩])
abbrev rndL (d : Nat) (fr : AFrame) : RLoop := ⟨d, 24, fr, [18], rndA, rndB, 0, .normal⟩
structure JR (Hb : AHeap) (rl r : Nat) (R0 : RLoop) (acc : List RunT) (H : AHeap) : Prop where
 n : Hb.n ≤ H.n
 get : ∀ s, s < Hb.n → s ≠ rl → H.get s = Hb.get s
 cell : ∃ p e, HasRow H rl [p] true e ∧ OwnS H p 3 acc.length (cellsR acc) 43 ∧ RowNe p rl ∧ FreshS Hb p
 loop : HasLoop H r R0
theorem JR.more {Hb H H' : AHeap} {rl r : Nat} {R0 : RLoop} {acc : List RunT} (h : JR Hb rl r R0 acc H) (x : Ext H H') : JR Hb rl r R0 acc H' := by
 obtain ⟨p, e, h1, h2, h3, h4⟩ := h.cell
 haveI : ExtI H H' := ⟨x⟩
 have h5 := h.loop
 have hn := h.n
 exact ⟨Nat.le_trans h.n x.n, fun s hs hne => by rw [x.get s (by omega)]; exact h.get s hs hne, ⟨p, e, inferInstance, inferInstance, h3, h4⟩, inferInstance⟩
theorem round_rows {Hb H : AHeap} {rl r d n : Nat} {fr : AFrame} {acc : List RunT} {a b c : Int} (h5 : fr 5 = .ptr rl 0) (hrl : rl < Hb.n) (hr : Hb.n ≤ r) (hJ : JR Hb rl r (rndL d fr) acc H) (hlen : acc.length ≤ 409600) (hn : fuel0 + 1 ≤ n) :
  ∃ H', callN ext prog n yieldId [.yield r, .agg [.int .i64 a, .int .i64 b, .int .i64 c]] H = some (.bool true, H') ∧ JR Hb rl r (rndL d fr) (acc ++ [(a, b, c)]) H' := by
 obtain ⟨k, rfl⟩ : ∃ k, n = k + 1 := ⟨n - 1, by omega⟩
 obtain ⟨p, e, h1, ho, hpr, hpf⟩ := hJ.cell
 haveI := hJ.loop
 haveI hne1 : NeR rl r := ⟨by omega⟩
 haveI hne2 : NeR r rl := ⟨by omega⟩
 haveI := ho.sl
 haveI := ho.sl.one
 haveI hpne : RowNe p r := ⟨fun r' off len cap sz q => by
  rcases ho.it with ⟨rfl, _⟩ | ⟨r2, e', rfl, h2, h3, _⟩
  ·cases q
  ·cases q
   intro q; subst q
   have := hJ.loop.get
   rw [h3] at this; cases this⟩
 refine round_next (R := rndL d fr) rfl hJ.loop rfl rfl rfl ?_
 show Wp (callN ext prog k) k rndA (upd fr 18 (.agg [.int .i64 a, .int .i64 b, .int .i64 c])) H _
 simp only [h5]
 refine rg fun KF hKF => ?_
 refine nw ?_
 refine so rfl (rfl : _ = AVal.agg _) rfl rfl rfl (by simp only [↓nrmL, nrmZ, qe, ↓reduceIte, qz, qa, qn, h5]; rfl) ?_
 refine nl hKF ?_
 refine ⟨rfl, inferInstance, ?_⟩
 show Wp (callN ext prog k) k rndB _ _ _
 refine Wp.block ?_
 refine rg fun KF hKF => ?_
 refine Fo.ld (r := rl) (off := 0) h5 rfl ?_
 refine Fo.ldN rfl rfl (by simp only [↓nrmL, nrmZ, qe, ↓reduceIte, qz, qa, qn]; rfl) ?_
 refine Fo.bslice rfl (by simp only [↓nrmL, nrmZ, qe, ↓reduceIte, qz, qa, qn]; rfl) ?_
 refine WpO.do (WpX.growX (p := p) (q := .slice (AHeap.n (AHeap.set (AHeap.set (AHeap.push H _) H.n _) r _)) 0 1 (some 1) 3) (k := 1) (new := [.int .i64 a, .int .i64 b, .int .i64 c]) rfl rfl (by infer_instance) (by infer_instance) (by decide) (by decide) (by decide) (by omega) (by rfl) fun p' H2 ho2 hf2 hx2 => ?_)
 haveI := ho2.sl.one
 skip
 refine Fo.stO (v := p') (r := rl) (off := 0) h5 rfl rfl rfl ?_
 refine nl hKF ?_
 dsimp only
 have hHn := hJ.n
 have hrn := hJ.loop.lt
 have hp'r : RowNe p' r := ⟨fun r' _ _ _ _ q => by have := hf2.ge _ _ _ _ _ q; simp only [AHeap.push, AHeap.set] at this; omega⟩
 have hp'l : RowNe p' rl := ⟨fun r' _ _ _ _ q => by have := hf2.ge _ _ _ _ _ q; simp only [AHeap.push, AHeap.set] at this; omega⟩
 refine ⟨rfl, inferInstance, ?_, ?_, ⟨p', e, ?_, ?_, hp'l, ?_⟩, ?_⟩
 ·have := hx2.n
  simp only [AHeap.push, AHeap.set] at this ⊢
  omega
 ·intro s hs hne
  have hsr : s ≠ r := by omega
  rw [set_get_ne hsr, set_get_ne hne, hx2.get s (by simp only [AHeap.push, AHeap.set]; omega) ⟨fun r' _ _ _ _ q => by have := hpf.ge _ _ _ _ _ q; omega⟩]
  rw [push_get_lt (by simp only [AHeap.push, AHeap.set]; omega), set_get_ne hsr, set_get_ne (by omega), push_get_lt (by omega)]
  exact hJ.get s hs hne
 ·infer_instance
 ·rw [List.length_append, cellsR_snoc]
  infer_instance
 ·refine ⟨fun r' _ _ _ _ q => ?_⟩
  have := hf2.ge _ _ _ _ _ q
  simp only [AHeap.push, AHeap.set] at this
  omega
 ·infer_instance
end Go.Am


namespace Go.Am
open Go
open Nat renaming reduceEqDiff → qe, reduceAdd → qz
open Int renaming reduceBEq → qa, reduceBNe → qn
attribute [local irreducible] Wp WpO WpX WpE
theorem K_runs {x y : Int} {F : FuncId} {cap : AVal} {H : AHeap} : Con ext prog 1 53 [.int .i64 x, .int .i64 y, .func (.func F) [] [cap]] H fun v H' => ∃ r1 r2 r3, v = .func (.func 79) [] [.ptr r1 0, .ptr r2 0, .ptr r3 0] ∧ HasRow H' r1 [.int .i64 x] true (2 * 3) ∧ HasRow H' r2 [.int .i64 y] true (2 * 3) ∧ HasRow H' r3 [.func (.func F) [] [cap]] true (2 * 70) ∧ Ext H H' ∧ H.n ≤ r1 ∧ H.n ≤ r2 ∧ H.n ≤ r3 := by
 refine con_of (show prog 53 = some c53 from rfl) rfl rfl fun n hn => ?_
 repeat first | refine mF ?_ | refine mv ?_ | refine Fo.box1 (rfl : _ = AVal.int _ _) ?_ | refine Fo.box1 (rfl : _ = AVal.func _ _ _) ?_ | refine Fo.now rfl rfl rfl ?_ | refine nl hKF ?_ | refine sq ?_ | refine rg fun KF hKF => ?_ | refine rt ?_ | dsimp only
 refine rz trivial ?_
 exact ⟨_, _, _, rfl, inferInstance, inferInstance, inferInstance, Ext0.ext, Nat.le_refl _, by simp only [AHeap.push]; omega, by simp only [AHeap.push]; omega⟩
instance K_colInk {r : Nat} {p : AVal} {H : AHeap} {w h a i : Int} {l : List UInt8} {rw : Bool} {e : TypeId} [hr : HasRow H r [.int .i64 w, .int .i64 h, p] rw e] [hp : BytesI H p l] [hs : Fits w h l] : PureCon ext prog 54 [.int .i64 a, .int .i64 i, .ptr r 0] H 2 (.bool (inkB w h l a i)) := ⟨by
 refine con_of (show prog 54 = some c54 from rfl) rfl rfl fun n hn => ?_
 haveI := hp.one
 repeat first | refine mI ?_ | refine mB ?_ | refine Fo.ldN rfl rfl (by simp only [↓nrmL, nrmZ, qe, ↓reduceIte, qz, qa, qn]; rfl) ?_ | (refine Fo.pcall (v' := ?_) hn rfl (by simp only [↓nrmL, nrmZ, qe, ↓reduceIte, qz, qa, qn, List.map]; rfl) rfl ?hv fun _ _ => ?_; case hv => rfl) | refine nl hKF ?_ | refine sq ?_ | refine rg fun KF hKF => ?_ | refine rt ?_ | dsimp only
 refine rz trivial ?_
 exact ⟨rfl, Ext0.ext⟩⟩
theorem JR.row {Hb H : AHeap} {rl r s : Nat} {R0 : RLoop} {acc : List RunT} {cs : List AVal} {rw : Bool} {e : TypeId} (h : JR Hb rl r R0 acc H) (k : HasRow Hb s cs rw e) (hne : s ≠ rl) : HasRow H s cs rw e := ⟨Nat.lt_of_lt_of_le k.lt h.n, by rw [h.get s k.lt hne]; exact k.get⟩
theorem JR.bytes {Hb H : AHeap} {rl r : Nat} {R0 : RLoop} {acc : List RunT} {p : AVal} {l : List UInt8} (h : JR Hb rl r R0 acc H) (k : BytesI Hb p l) (hne : RowNe p rl) : BytesI H p l := k.keep h.n fun s _ _ _ _ e hs => h.get s hs (hne.ne _ _ _ _ _ e)
theorem JR.ext {Hh Hb H : AHeap} {rl r : Nat} {R0 : RLoop} {acc : List RunT} (h : JR Hb rl r R0 acc H) (x : Ext Hh Hb) (hrl : Hh.n ≤ rl) : Ext Hh H := ⟨Nat.le_trans x.n h.n, fun s hs => by have := x.n; rw [h.get s (by omega) (by omega), x.get s hs]⟩
theorem JR.start {Hb : AHeap} {rl : Nat} {R0 : RLoop} {e : TypeId} (k : HasRow Hb rl [.nslice] true e) : JR Hb rl (Hb.n + 1) R0 [] ((Hb.push .dead).push (.loop R0)) := by
 have hlt := k.lt
 refine ⟨by simp only [AHeap.push]; omega, fun s hs _ => ?_, ⟨.nslice, e, inferInstance, ⟨Or.inl ⟨rfl, rfl, rfl⟩⟩, inferInstance, ⟨fun _ _ _ _ _ q => by cases q⟩⟩, (inferInstance : HasLoop ((Hb.push .dead).push (.loop R0)) (Hb.push .dead).n R0)⟩
 rw [push_get_lt (by simp only [AHeap.push]; omega), push_get_lt hs]
theorem own_ne {H : AHeap} {p : AVal} {sz n r : Nat} {cs : List AVal} {e : TypeId} {R0 : RLoop} (ho : OwnS H p sz n cs e) (hl : HasLoop H r R0) : RowNe p r := ⟨fun r' off len cap sz q => by
 rcases ho.it with ⟨rfl, _⟩ | ⟨r2, e', rfl, h2, h3, _⟩
 ·cases q
 ·cases q
  intro q; subst q
  have := hl.get
  rw [h3] at this; cases this⟩
def NewRuns (H H' : AHeap) (v : AVal) (l : List RunT) : Prop := OwnS H' v 3 l.length (cellsR l) 43 ∧ FreshS H v ∧ Ext H H'
def RunsRes (H H' : AHeap) (v : AVal) (r : List RunT × Int) : Prop := ∃ q, v = .tuple [q, .int .i64 r.2] ∧ NewRuns H H' q r.1
theorem newRuns0 {H H' : AHeap} [x : Ext0 H H'] : NewRuns H H' .nslice [] := ⟨⟨Or.inl ⟨rfl, rfl, rfl⟩⟩, ⟨fun _ _ _ _ _ e => by cases e⟩, x.ext⟩
def rowO (g : Img) (y x : Nat) : Bool := inkB g.w g.h g.px x y
def colO (g : Img) (x y : Nat) : Bool := inkB g.w g.h g.px x y
def colsSpec (g : Img) : List RunT × Int := bif g.err == 0 then (allR (colO g) g.h.toNat g.w.toNat, 0) else ([], g.err)
theorem K_Columns {p : AVal} {H : AHeap} {w h : Int} {l : List UInt8} [hp : BytesI H p l] : Con ext prog 7 26 [.agg [.int .i64 w, .int .i64 h, p]] H fun v H' => RunsRes H H' v (colsSpec ⟨w, h, l⟩) := by
 refine con_ofR (show prog 26 = some c26 from rfl) rfl rfl fun n hn => ?_
 haveI := hp.one
 cases h0 : (Img.err ⟨w, h, l⟩ == 0)
 ·have e1 : colsSpec ⟨w, h, l⟩ = ([], Img.err ⟨w, h, l⟩) := by simp [colsSpec, h0]
  rw [e1]
  simp only [h0, bne]
  repeat first | refine mI ?_ | refine mN ?_ | refine Fo.ldN rfl rfl (by simp only [↓nrmL, nrmZ, qe, ↓reduceIte, qz, qa, qn, h0, bne]; rfl) ?_ | refine bn rfl rfl rfl (by simp only [h0, bne]; rfl) ?_ | (refine Fo.pcall (v' := ?_) hn rfl (by simp only [↓nrmL, nrmZ, qe, ↓reduceIte, qz, qa, qn, h0, bne, List.map]; rfl) rfl ?hv fun _ _ => ?_; case hv => rfl) | refine bA ?_ | refine nl hKF ?_ | refine sq ?_ | refine rg fun KF hKF => ?_ | refine ct rfl ?_ | refine rt ?_ | dsimp only
  exact ⟨trivial, _, rfl, _, rfl, _, rfl, newRuns0⟩
 obtain ⟨a, b, rfl, rfl, ok⟩ := ok_of h0
 have e1 : colsSpec ⟨a, b, l⟩ = (allR (colO ⟨a, b, l⟩) b a, 0) := by simp [colsSpec, h0]
 rw [e1]
 have ha := ok.wa
 have hb := ok.hb
 haveI : Fits a b l := ⟨ok.sized⟩
 simp only [h0, bne]
 repeat first | refine mI ?_ | refine mN ?_ | refine fd ?_ | refine Fo.ld rfl rfl ?_ | refine Fo.ldN rfl rfl (by simp only [↓nrmL, nrmZ, qe, ↓reduceIte, qz, qa, qn, h0, bne]; rfl) ?_ | refine bn rfl rfl rfl (by simp only [h0, bne]; rfl) ?_ | (refine Fo.pcall (v' := ?_) hn rfl (by simp only [↓nrmL, nrmZ, qe, ↓reduceIte, qz, qa, qn, h0, bne, List.map]; rfl) rfl ?hv fun _ _ => ?_; case hv => rfl) | refine bA ?_ | refine nw ?_ | refine Fo.now rfl rfl (by simp only [↓nrmL, nrmZ, qe, ↓reduceIte, qz, qa, qn, h0, bne]; rfl) ?_ | refine nl hKF ?_ | refine sq ?_ | refine rg fun KF hKF => ?_ | refine cf rfl ?_ | refine sk ?_
 rename AHeap => H1
 refine WpO.do (WpX.conD hn rfl rfl (by simp only [↓nrmL, nrmZ, qe, ↓reduceIte, qz, qa, qn, List.map] <;> rfl) (K_runs (x := a) (y := b) (F := 54) (cap := .ptr H.n 0)) fun v H2 h5 => ?_)
 obtain ⟨r1, r2, r3, e2, k1, k2, k3, hx2, g1, g2, g3⟩ := h5
 subst e2
 haveI : ExtI _ H2 := ⟨hx2⟩
 have hH1 : H.n < H1.n := (inferInstance : LtN H.n H1).lt
 have kl : HasRow H2 H1.n [.nslice] true (2 * 30) := inferInstance
 have kg : HasRow H2 H.n [.int .i64 a, .int .i64 b, p] true (2 * 24) := inferInstance
 have kb : BytesI H2 p l := inferInstance
 have kne : RowNe p H1.n := inferInstance
 have hx02 : Ext H H2 := Ext0.ext
 simp only [AHeap.push] at g1 g2 g3
 have key : ∀ fr : AFrame, fr 5 = .ptr H1.n 0 → ∃ v H3, callN ext prog n 79 [.yield (H2.n + 1), .ptr r1 0, .ptr r2 0, .ptr r3 0] ((H2.push .dead).push (.loop (rndL H2.n fr))) = some (v, H3) ∧ JR H2 H1.n (H2.n + 1) (rndL H2.n fr) (allR (colO ⟨a, b, l⟩) b a) H3 := fun fr h5 =>
  K_iter (lines := a) (len := b) (r := H2.n + 1) (F := 54) (cap := .ptr H.n 0) (o := colO ⟨a, b, l⟩) (J := JR H2 H1.n (H2.n + 1) (rndL H2.n fr)) (D := 1) (by omega) (by omega)
   (fun acc H4 hJ => ⟨hJ.row k1 (by omega), hJ.row k2 (by omega), hJ.row k3 (by omega)⟩)
   (fun acc H4 H5 hJ x => hJ.more x)
   (fun acc H4 hJ c i _ _ => by
    haveI := hJ.row kg (by omega)
    haveI := hJ.bytes kb kne
    exact (inferInstance : PureCon ext prog 54 [.int .i64 c, .int .i64 i, .ptr H.n 0] H4 2 (.bool (inkB a b l c i))))
   (fun acc H4 hJ hlen c d e m hm => round_rows h5 kl.lt (Nat.le_succ _) hJ hlen hm)
   (JR.start kl) n (by omega)
 have key2 : ∀ (fr : AFrame) (P : AVal → AHeap → RLoop → Prop), fr 5 = .ptr H1.n 0 → (∀ v H3, JR H2 H1.n (H2.n + 1) (rndL H2.n fr) (allR (colO ⟨a, b, l⟩) b a) H3 → P v H3 (rndL H2.n fr)) →
   ∃ v H3 R, callN ext prog n 79 ([] ++ [.yield (H2.n + 1)] ++ [.ptr r1 0, .ptr r2 0, .ptr r3 0]) ((H2.push .dead).push (.loop ⟨H2.n, 24, fr, [18], rndA, rndB, 0, .normal⟩)) = some (v, H3) ∧ H3.get (H2.n + 1) = .loop R ∧ (Nat.beq R.st 1 || Nat.beq R.st 4) = false ∧ P v H3 R := fun fr P h5 hP => by
  obtain ⟨v, H3, e3, hJ⟩ := key fr h5
  exact ⟨v, H3, rndL H2.n fr, e3, hJ.loop.get, rfl, hP v H3 hJ⟩
 refine nl hKF ?_
 refine Wp.block ?_
 dsimp only
 refine Wp.range (gf := 79) (fi := []) (ca := [.ptr r1 0, .ptr r2 0, .ptr r3 0]) (vs := []) rfl rfl rfl ?_
 refine key2 _ _ rfl fun v H3 hJ => ?_
 obtain ⟨q, e, c1, c2, c3, c4⟩ := hJ.cell
 haveI := hJ.loop
 haveI hnq := own_ne c2 hJ.loop
 haveI := c2.sl.one
 haveI : NeR H1.n (H2.n + 1) := ⟨by have := kl.lt; omega⟩
 have hx03 := hJ.ext hx02 (by omega)
 have hHn := hx02.n
 refine sq ?_
 refine rg fun KF hKF => ?_
 refine Fo.ld rfl rfl ?_
 refine mv ?_
 refine mI ?_
 refine nl hKF ?_
 refine rt ?_
 dsimp only
 refine ⟨trivial, _, takeMarks1 (d := H2.n) (l := H2.n + 1) inferInstance rfl rfl, _, rfl, q, rfl, inferInstance, c4.weak, ?_⟩
 refine ⟨hx03.n, fun s hs => ?_⟩
 rw [set_get_ne (by omega), set_get_ne (by omega)]
 exact hx03.get s hs
end Go.Am


namespace Go.Am
open Go
open Nat renaming reduceEqDiff → qe, reduceAdd → qz
open Int renaming reduceBEq → qa, reduceBNe → qn
attribute [local irreducible] Wp WpO WpX WpE
class StavesI (H : AHeap) (p : AVal) (n : outParam Nat) (cells : outParam (List AVal)) (sts : outParam (List (List (List Int)))) : Prop where
 len : sts.length = n
 sl : SliceAt H p 1 n cells
 it : ∀ (i : Nat) (h : i < sts.length), ∃ q, cells[i]? = some q ∧ LinesI H q sts[i]
theorem StavesI.ext {H H' : AHeap} {p : AVal} {n : Nat} {cells : List AVal} {sts : List (List (List Int))} (h : StavesI H p n cells sts) (x : Ext H H') : StavesI H' p n cells sts := by
 haveI := h.sl
 haveI : ExtI H H' := ⟨x⟩
 refine ⟨h.len, inferInstance, fun i hi => ?_⟩
 obtain ⟨q, h1, h2⟩ := h.it i hi
 exact ⟨q, h1, h2.ext x⟩
def Dr (a : Nat) (sts : List (List (List Int))) (i k x j : Nat) : Prop := ∃ i' k', ∃ (h1 : i' < sts.length) (h2 : k' < sts[i'].length), (i' < i ∨ (i' = i ∧ (k' < k ∨ (k' = k ∧ j % a < x)))) ∧ sts[i'][k'].getD (j % a) 0 = ((j / a : Nat) : Int)
theorem Dr.line {a i k j : Nat} {sts : List (List (List Int))} (ha : 0 < a) : Dr a sts i k a j ↔ Dr a sts i (k + 1) 0 j := by
 have := Nat.mod_lt j ha
 constructor
 ·rintro ⟨i', k', h1, h2, h3, h4⟩; exact ⟨i', k', h1, h2, by omega, h4⟩
 ·rintro ⟨i', k', h1, h2, h3, h4⟩; exact ⟨i', k', h1, h2, by omega, h4⟩
theorem Dr.stave {a i j : Nat} {sts : List (List (List Int))} (hi : i < sts.length) : Dr a sts i sts[i].length 0 j ↔ Dr a sts (i + 1) 0 0 j := by
 constructor
 ·rintro ⟨i', k', h1, h2, h3, h4⟩; exact ⟨i', k', h1, h2, by omega, h4⟩
 ·rintro ⟨i', k', h1, h2, h3, h4⟩
  refine ⟨i', k', h1, h2, ?_, h4⟩
  by_cases e : i' = i
  ·subst e; exact Or.inr ⟨rfl, Or.inl h2⟩
  ·exact Or.inl (by omega)
theorem Dr.none {a j : Nat} {sts : List (List (List Int))} : ¬ Dr a sts 0 0 0 j := by
 rintro ⟨i', k', h1, h2, h3, h4⟩; omega
theorem Dr.next {a i k x y j : Nat} {sts : List (List (List Int))} (hi : i < sts.length) (hk : k < sts[i].length) (hx : x < a) (hy : sts[i][k].getD x 0 = (y : Int)) : Dr a sts i k (x + 1) j ↔ Dr a sts i k x j ∨ j = y * a + x := by
 constructor
 ·rintro ⟨i', k', h1, h2, h3, h4⟩
  by_cases e : i' = i ∧ k' = k ∧ j % a = x
  ·obtain ⟨rfl, rfl, e⟩ := e
   right
   rw [e, hy] at h4
   obtain ⟨d1, d2⟩ := rct_at (y := y) hx
   exact div_inj (a := a) (by rw [e, d1]) (by rw [d2]; omega)
  ·exact Or.inl ⟨i', k', h1, h2, by omega, h4⟩
 ·rintro (⟨i', k', h1, h2, h3, h4⟩ | rfl)
  ·exact ⟨i', k', h1, h2, by omega, h4⟩
  ·obtain ⟨d1, d2⟩ := rct_at (y := y) hx
   exact ⟨i, k, hi, hk, Or.inr ⟨rfl, Or.inr ⟨rfl, by omega⟩⟩, by rw [d1, d2]; exact hy⟩
structure Drawn (L : List UInt8) (n : Nat) (D : Nat → Prop) : Prop where
 len : L.length = n
 it : ∀ j, j < n → (L.getD j 0 = 1 ∧ D j) ∨ (L.getD j 0 = 0 ∧ ¬ D j)
theorem Drawn.congr {L : List UInt8} {n : Nat} {D E : Nat → Prop} (h : Drawn L n D) (hE : ∀ j, D j ↔ E j) : Drawn L n E := ⟨h.len, fun j hj => by rw [← hE j]; exact h.it j hj⟩
theorem Drawn.set {L : List UInt8} {n k : Nat} {D E : Nat → Prop} (h : Drawn L n D) (hk : k < n) (hE : ∀ j, E j ↔ D j ∨ j = k) : Drawn (L.set k 1) n E := by
 refine ⟨by rw [List.length_set]; exact h.len, fun j hj => ?_⟩
 rw [hE j]
 by_cases e : j = k
 ·subst e
  left
  exact ⟨by rw [List.getD_eq_getElem?_getD, List.getElem?_set_self (by rw [h.len]; exact hk)]; rfl, Or.inr rfl⟩
 ·rw [List.getD_eq_getElem?_getD, List.getElem?_set_ne (fun q => e q.symm), ← List.getD_eq_getElem?_getD]
  rcases h.it j hj with ⟨h1, h2⟩ | ⟨h1, h2⟩
  ·exact Or.inl ⟨h1, Or.inl h2⟩
  ·exact Or.inr ⟨h1, fun q => q.elim h2 e⟩
theorem Drawn.zero {n a : Nat} {sts : List (List (List Int))} : Drawn (List.replicate n 0) n (Dr a sts 0 0 0) := ⟨List.length_replicate, fun j hj => Or.inr ⟨by rw [List.getD_eq_getElem?_getD, List.getElem?_replicate, if_pos hj]; rfl, Dr.none⟩⟩
theorem take_one {cells : List AVal} {j : Nat} {q : AVal} (h : cells[j]? = some q) : (cells.drop j).take 1 = [q] := by
 apply List.ext_getElem?
 intro t
 rw [List.getElem?_take, List.getElem?_drop]
 cases t with
 | zero => rw [if_pos (by omega), Nat.add_zero]; exact h
 | succ t => rw [if_neg (by omega)]; rfl
theorem K_draw {a b m : Nat} {p : AVal} {H : AHeap} {cells : List AVal} {sts : List (List (List Int))} [hp : StavesI H p m cells sts] (ha : a ≤ 640) (hb : b ≤ 640) (hm : m ≤ 1000) (hfit : ∀ (i : Nat) (h : i < sts.length), fitsB a b sts[i] = true) : Con ext prog 1 28 [.int .i64 (a : Int), .int .i64 (b : Int), p] H fun v H' => ∃ L, NewInk H H' v ⟨a, b, L⟩ ∧ Drawn L (a * b) (Dr a sts m 0 0) := by
 refine con_of (show prog 28 = some c28 from rfl) rfl rfl fun n hn => ?_
 have hsl := hp.sl
 haveI := hsl
 haveI := hsl.one
 have hml := hp.len
 have hcl : cells.length = m := by have := hsl.len; omega
 have hab : a * b ≤ 640 * 640 := Nat.mul_le_mul ha hb
 have h1 : IntKind.i64.wrap ((a : Int) * (b : Int)) = ((a * b : Nat) : Int) := wm (by omega)
 repeat first | refine mI ?_ | refine bn rfl rfl rfl (by simp only [h1]; rfl) ?_ | refine nw ?_ | refine nl hKF ?_ | refine sq ?_ | refine rg fun KF hKF => ?_
 refine WpO.do (WpX.mkB rfl rfl rfl (by omega) fun o H1 e1 hb1 hf1 hw1 hx1 => ?_)
 haveI := hb1.one
 refine ob (cs' := ?_) ?hc ?_; case hc => (simp only [↓nrmL, nrmZ, qe, ↓reduceIte, qz, qa, qn]; rfl)
 refine nw ?_
 refine so rfl (rfl : _ = AVal.agg _) rfl rfl rfl (by simp only [↓nrmL, nrmZ, qe, ↓reduceIte, qz, qa, qn]; rfl) ?_
 refine nl hKF ?_
 refine sq ?_
 refine sq ?_
 refine rg fun KF hKF => ?_
 refine mv ?_
 refine ln (by simp only [↓nrmL, nrmK, qe, ↓reduceIte]; rfl) ?_
 refine mI ?_
 refine nl hKF ?_
 refine Wp.block ?_
 dsimp only
 refine Wp.loopS [9, 11, 12, 13, 23, 24, 25, 26, 27, 28, 29, 30, 31, 32, 33, 34, 35, 36, 37, 38, 39, 40, 41, 42, 43, 44, 45, 46, 47, 48, 49, 50, 51] (fun i : Nat => [(23, .int .i64 i)]) (fun H3 i H2 => i ≤ m ∧ ∃ L, BytesI H2 o L ∧ Drawn L (a * b) (Dr a sts i 0 0) ∧ WrS H2 o ∧ ExtP0 H3 H2 o) (fun i => m - i) 0 rfl (fun _ => rfl) ⟨rfl, trivial⟩ ⟨Nat.zero_le _, _, inferInstance, Drawn.zero, inferInstance, inferInstance⟩ (by unfold fuel0 at hn; omega) ?_
 rintro i g H2 ⟨hi, L, hL, hD, hw2, ⟨hx2⟩⟩
 haveI := hx2
 simp only [↓nrmL, nrmZ, qe, ↓reduceIte, qz, qa, qn]
 cases hc : decide ((i : Int) < (m : Int))
 ·have him : i = m := by have := of_decide_eq_false hc; omega
  subst him
  repeat first | refine Fo.ldN rfl rfl (by simp only [↓nrmL, nrmZ, qe, ↓reduceIte, qz, qa, qn, hc]; rfl) ?_ | refine bn rfl rfl rfl (by simp only [hc]; rfl) ?_ | refine so rfl (rfl : _ = AVal.agg _) rfl rfl rfl (by simp only [↓nrmL, nrmZ, qe, ↓reduceIte, qz, qa, qn, hc]; rfl) ?_ | refine nl hKF ?_ | refine sq ?_ | refine rg fun KF hKF => ?_ | refine cf rfl ?_ | refine rt ?_ | refine xi ?_ | dsimp only
  refine rz trivial ?_
  exact ⟨L, ⟨o, rfl, inferInstance, hf1.weak, inferInstance, Ext0.ext⟩, hD⟩
 have him : i < m := by have := of_decide_eq_true hc; omega
 have his : i < sts.length := by omega
 have hwi := wa1 (a := i) (by omega)
 obtain ⟨q, hq, hLq⟩ := hp.it i his
 obtain ⟨qs, hqs, hqr⟩ := hLq.it
 have hfi := hfit i his
 obtain ⟨hl5, hpaths⟩ := fitsB_iff hfi
 haveI := hqs
 haveI := hqs.one
 repeat first | refine bn rfl rfl rfl (by simp only [hc]; rfl) ?_ | (refine Fo.idx (by simp only [↓nrmL, nrmK, qe, ↓reduceIte]; rfl) rfl ?_ (by simp only [↓nrmL, nrmZ, qe, ↓reduceIte, qz, qa, qn, hc]; rfl) ?_; (focus omega)) | refine nl hKF ?_ | refine sq ?_ | refine rg fun KF hKF => ?_ | refine ct rfl ?_ | refine sk ?_ | refine Wp.block ?_
 refine WpO.do (WpX.ldNP (p := p) (j := i) (m := 1) (l := [q]) rfl (by decide) (by omega) (take_one hq) ?_)
 refine nw ?_
 refine so rfl (rfl : _ = AVal.agg _) rfl rfl rfl (by simp only [↓nrmL, nrmZ, qe, ↓reduceIte, qz, qa, qn]; rfl) ?_
 refine nl hKF ?_
 refine sq ?_
 refine rg fun KF hKF => ?_
 refine fd ?_
 refine Fo.ld rfl rfl ?_
 refine ln (by simp only [↓nrmL, nrmK, qe, ↓reduceIte]; rfl) ?_
 refine mI ?_
 refine nl hKF ?_
 refine Wp.block ?_
 dsimp only
 refine Wp.loopS [11, 12, 13, 30, 31, 32, 33, 34, 35, 36, 37, 38, 39, 40, 41, 42, 43, 44, 45, 46, 47, 48, 49, 50] (fun k : Nat => [(30, .int .i64 k)]) (fun H3 k H2 => k ≤ sts[i].length ∧ ∃ L, BytesI H2 o L ∧ Drawn L (a * b) (Dr a sts i k 0) ∧ WrS H2 o ∧ ExtP0 H3 H2 o) (fun k => sts[i].length - k) 0 rfl (fun _ => rfl) ⟨rfl, trivial⟩ ⟨Nat.zero_le _, L, inferInstance, hD, inferInstance, inferInstance⟩ (by unfold fuel0 at hn; omega) ?_
 rintro k g2 H4 ⟨hk, L4, hL4, hD4, hw4, ⟨hx4⟩⟩
 haveI := hx4
 simp only [↓nrmL, nrmZ, qe, ↓reduceIte, qz, qa, qn]
 cases hck : decide ((k : Int) < ((sts[i].length : Nat) : Int))
 ·have hkl : k = sts[i].length := by have := of_decide_eq_false hck; omega
  subst hkl
  repeat first | refine mI ?_ | refine bn rfl rfl rfl (by simp only [hck]; rfl) ?_ | refine b0 ?_ | refine nl hKF ?_ | refine sq ?_ | refine rg fun KF hKF => ?_ | refine cf rfl ?_ | refine xi ?_ | dsimp only
  exact ⟨i + 1, by omega, ⟨by simp only [↓nrmL, nrmZ, qe, ↓reduceIte, qz, qa, qn]; rw [hwi], trivial⟩, by omega, L4, inferInstance, hD4.congr fun j => Dr.stave his, inferInstance, inferInstance⟩
 have hkl : k < sts[i].length := by have := of_decide_eq_true hck; omega
 have hwk := wa1 (a := k) (by omega)
 obtain ⟨q2, hq2, hI2⟩ := hqr.it k hkl
 have hpk := hpaths k hkl
 obtain ⟨hml2, ha0⟩ := pathB_len hpk
 haveI := hI2
 haveI := hI2.one
 repeat first | refine bn rfl rfl rfl (by simp only [hck]; rfl) ?_ | (refine Fo.idx (by simp only [↓nrmL, nrmK, qe, ↓reduceIte]; rfl) rfl ?_ (by simp only [↓nrmL, nrmZ, qe, ↓reduceIte, qz, qa, qn, hck]; rfl) ?_; (focus omega)) | refine nl hKF ?_ | refine sq ?_ | refine rg fun KF hKF => ?_ | refine ct rfl ?_ | refine sk ?_ | refine Wp.block ?_
 refine Fo.now rfl (exec_ldP (p := q) (j := k) rfl hq2) rfl ?_
 refine mv ?_
 refine nl hKF ?_
 refine sq ?_
 refine rg fun KF hKF => ?_
 refine mv ?_
 refine ln (by simp only [↓nrmL, nrmK, qe, ↓reduceIte]; rfl) ?_
 refine mI ?_
 refine nl hKF ?_
 refine Wp.block ?_
 dsimp only
 refine Wp.loopS [12, 13, 36, 37, 38, 39, 40, 41, 42, 43, 44, 45, 46, 47, 48, 49] (fun x : Nat => [(36, .int .i64 x)]) (fun H3 x H2 => x ≤ a ∧ ∃ L, BytesI H2 o L ∧ Drawn L (a * b) (Dr a sts i k x) ∧ WrS H2 o ∧ ExtP0 H3 H2 o) (fun x => a - x) 0 rfl (fun _ => rfl) ⟨rfl, trivial⟩ ⟨Nat.zero_le _, L4, inferInstance, hD4, inferInstance, inferInstance⟩ (by unfold fuel0 at hn; omega) ?_
 rintro x g3 H5 ⟨hx5, L5, hL5, hD5, hw5, ⟨hx5'⟩⟩
 haveI := hx5'
 simp only [↓nrmL, nrmZ, qe, ↓reduceIte, qz, qa, qn]
 cases hcx : decide ((x : Int) < ((sts[i][k].length : Nat) : Int))
 ·have hxa : x = a := by have := of_decide_eq_false hcx; omega
  subst hxa
  repeat first | refine mI ?_ | refine bn rfl rfl rfl (by simp only [hcx]; rfl) ?_ | refine b0 ?_ | refine nl hKF ?_ | refine sq ?_ | refine rg fun KF hKF => ?_ | refine cf rfl ?_ | refine xi ?_ | dsimp only
  exact ⟨k + 1, by omega, ⟨by simp only [↓nrmL, nrmZ, qe, ↓reduceIte, qz, qa, qn]; rw [hwk], trivial⟩, by omega, L5, inferInstance, hD5.congr fun j => Dr.line ha0, inferInstance, inferInstance⟩
 have hxl : x < sts[i][k].length := by have := of_decide_eq_true hcx; omega
 have hxa : x < a := by omega
 have hwx := wa1 (a := x) (by omega)
 obtain ⟨hm0, hmb⟩ := pathB_range hpk hxl
 obtain ⟨y, hy⟩ : ∃ y : Nat, sts[i][k][x] = (y : Int) := ⟨sts[i][k][x].toNat, by omega⟩
 have hlt := idx_lt hxa (show y < b by omega)
 have m1 : IntKind.i64.wrap ((y : Int) * (a : Int)) = ((y * a : Nat) : Int) := wm (by omega)
 have m2 : IntKind.i64.wrap (((y * a : Nat) : Int) + (x : Int)) = ((y * a + x : Nat) : Int) := wa (by omega)
 have hLl := hD5.len
 repeat first | refine mI ?_ | refine fd ?_ | refine Fo.ld rfl rfl ?_ | refine bn rfl rfl rfl (by simp only [hcx, hy, m1, m2]; rfl) ?_ | (refine Fo.idx (by simp only [↓nrmL, nrmK, qe, ↓reduceIte]; rfl) rfl ?_ (by simp only [↓nrmL, nrmZ, qe, ↓reduceIte, qz, qa, qn, hcx, hy, m1, m2]; rfl) ?_; (focus omega)) | (refine Fo.ldI rfl ?_ (by simp only [hcx, hy, m1, m2]; rfl) ?_; (focus omega)) | refine nl hKF ?_ | refine sq ?_ | refine rg fun KF hKF => ?_ | refine ct rfl ?_ | refine sk ?_ | refine Wp.block ?_
 refine WpO.do' (WpX.stB (1 : UInt8) rfl rfl rfl (by omega) fun H6 hb6 hw6 hx6 => ?_)
 haveI := hx6
 refine nl hKF ?_
 refine rg fun KF hKF => ?_
 refine b0 ?_
 refine mI ?_
 refine nl hKF ?_
 dsimp only
 exact ⟨x + 1, by omega, ⟨by simp only [↓nrmL, nrmZ, qe, ↓reduceIte, qz, qa, qn]; rw [hwx], trivial⟩, by omega, _, hb6, hD5.set hlt fun j => Dr.next his hkl hxa (by rw [getD_at hxl]; exact hy), hw6, inferInstance⟩
end Go.Am

namespace Go.Am
open Go Go.RowKit
section
variable {P : Program} {H : AHeap} {n : Nat} {t e : TypeId} {cs : List AVal}
theorem shapesW_ints (hu : P.underlying e = some (.int .i64)) : ∀ {len : Nat} {cells : List AVal}, shapes (ShapeW P H (n + 1)) (List.replicate len e) cells → ∃ l : List Int, l.length = len ∧ cells = cellsI l := by
  intro len
  induction len with
  | zero => intro cells h; exact ⟨[], rfl, h⟩
  | succ len ih =>
    intro cells h
    obtain ⟨a, b, rfl, h1, h2⟩ := h
    obtain ⟨i, rfl, hw⟩ := shapeW_int hu h1
    obtain ⟨l, hl, rfl⟩ := ih h2
    exact ⟨i :: l, by simp [hl], rfl⟩
theorem shapeW_ints (hu : P.underlying t = some (.slice e)) (he : P.underlying e = some (.int .i64)) (hc : P.cellsOf e = 1) (hb : P.bytesOf e = 8) (h : ShapeW P H (n + 2) t cs) : ∃ p l, cs = [p] ∧ IntsI H p l ∧ SlimI l := by
  rw [ShapeW, hu] at h
  obtain ⟨p, len, cells, rfl, h2, h3, h4⟩ := h
  obtain ⟨l, rfl, rfl⟩ := shapesW_ints he h4
  rw [hc] at h2
  rw [hb] at h3
  have := reachBytes_lt
  exact ⟨p, l, rfl, h2, ⟨by omega⟩⟩
theorem shapesW_lists {ei : TypeId} (hu : P.underlying e = some (.slice ei)) (he : P.underlying ei = some (.int .i64)) (hc : P.cellsOf ei = 1) (hb : P.bytesOf ei = 8) : ∀ {len : Nat} {cells : List AVal}, shapes (ShapeW P H (n + 2)) (List.replicate len e) cells → ∃ ls : List (List Int), ls.length = len ∧ cells.length = len ∧ Rows H cells ls ∧ ∀ (i : Nat) (h : i < ls.length), SlimI ls[i] := by
  intro len
  induction len with
  | zero => intro cells h; subst h; exact ⟨[], rfl, rfl, ⟨fun i h => by cases h⟩, fun i h => by cases h⟩
  | succ len ih =>
    intro cells h
    obtain ⟨a, b, rfl, h1, h2⟩ := h
    obtain ⟨p, l, rfl, k1, k2⟩ := shapeW_ints hu he hc hb h1
    obtain ⟨ls, hl, hl2, hr, hs⟩ := ih h2
    refine ⟨l :: ls, by simp [hl], by simp [hl2], ⟨fun i hi => ?_⟩, fun i hi => ?_⟩
    · cases i with
      | zero => exact ⟨p, rfl, k1⟩
      | succ i =>
        obtain ⟨q, h3, h4⟩ := hr.it i (by simpa using hi)
        exact ⟨q, by simpa using h3, h4⟩
    · cases i with
      | zero => exact k2
      | succ i => exact hs i (by simpa using hi)
theorem shapeW_lists {ei : TypeId} (ht : P.underlying t = some (.slice e)) (hu : P.underlying e = some (.slice ei)) (he : P.underlying ei = some (.int .i64)) (hc : P.cellsOf ei = 1) (hb : P.bytesOf ei = 8) (hc2 : P.cellsOf e = 1) (hb2 : P.bytesOf e = 24) (h : ShapeW P H (n + 3) t cs) : ∃ p ls, cs = [p] ∧ LinesI H p ls ∧ SlimL ls := by
  rw [ShapeW, ht] at h
  obtain ⟨p, len, cells, rfl, h2, h3, h4⟩ := h
  obtain ⟨ls, hl, hl2, hr, hs⟩ := shapesW_lists hu he hc hb h4
  subst hl
  rw [hc2] at h2
  rw [hb2] at h3
  have := reachBytes_lt
  exact ⟨p, ls, rfl, ⟨cells, h2, hr⟩, ⟨by omega, hs⟩⟩
theorem shapeW_stave {fs : Array Field} {tl ei : TypeId} (hs : P.underlying t = some (.struct fs)) (hf : (fs.toList.map fun f => f.type) = [tl]) (ht : P.underlying tl = some (.slice e)) (hu : P.underlying e = some (.slice ei)) (he : P.underlying ei = some (.int .i64)) (hc : P.cellsOf ei = 1) (hb : P.bytesOf ei = 8) (hc2 : P.cellsOf e = 1) (hb2 : P.bytesOf e = 24) (h : ShapeW P H (n + 4) t cs) : ∃ p ls, cs = [p] ∧ LinesI H p ls ∧ SlimL ls := by
  have h1 := shapeW_struct hs h
  rw [hf] at h1
  obtain ⟨a, r1, rfl, h2, rfl⟩ := h1
  obtain ⟨p, ls, rfl, h3, h4⟩ := shapeW_lists ht hu he hc hb hc2 hb2 h2
  exact ⟨p, ls, rfl, h3, h4⟩
theorem shapesW_staves {fs : Array Field} {ts tl ei : TypeId} (hs : P.underlying ts = some (.struct fs)) (hf : (fs.toList.map fun f => f.type) = [tl]) (ht : P.underlying tl = some (.slice e)) (hu : P.underlying e = some (.slice ei)) (he : P.underlying ei = some (.int .i64)) (hc : P.cellsOf ei = 1) (hb : P.bytesOf ei = 8) (hc2 : P.cellsOf e = 1) (hb2 : P.bytesOf e = 24) : ∀ {len : Nat} {cells : List AVal}, shapes (ShapeW P H (n + 4)) (List.replicate len ts) cells → ∃ sts : List (List (List Int)), sts.length = len ∧ (∀ (i : Nat) (h : i < sts.length), ∃ q, cells[i]? = some q ∧ LinesI H q sts[i]) ∧ ∀ (i : Nat) (h : i < sts.length), SlimL sts[i] := by
  intro len
  induction len with
  | zero => intro cells h; subst h; exact ⟨[], rfl, fun i h => (by cases h), fun i h => (by cases h)⟩
  | succ len ih =>
    intro cells h
    obtain ⟨a, b, rfl, h1, h2⟩ := h
    obtain ⟨p, l, rfl, k1, k2⟩ := shapeW_stave hs hf ht hu he hc hb hc2 hb2 h1
    obtain ⟨sts, hl, hr, hz⟩ := ih h2
    refine ⟨l :: sts, by simp [hl], fun i hi => ?_, fun i hi => ?_⟩
    · cases i with
      | zero => exact ⟨p, rfl, k1⟩
      | succ i =>
        obtain ⟨q, h3, h4⟩ := hr i (by simpa using hi)
        exact ⟨q, by simpa using h3, h4⟩
    · cases i with
      | zero => exact k2
      | succ i => exact hz i (by simpa using hi)
theorem shapeW_staves {fs : Array Field} {ts tl ei : TypeId} (htt : P.underlying t = some (.slice ts)) (hs : P.underlying ts = some (.struct fs)) (hf : (fs.toList.map fun f => f.type) = [tl]) (ht : P.underlying tl = some (.slice e)) (hu : P.underlying e = some (.slice ei)) (he : P.underlying ei = some (.int .i64)) (hc : P.cellsOf ei = 1) (hb : P.bytesOf ei = 8) (hc2 : P.cellsOf e = 1) (hb2 : P.bytesOf e = 24) (hc3 : P.cellsOf ts = 1) (h : ShapeW P H (n + 5) t cs) : ∃ p m cells sts, cs = [p] ∧ StavesI H p m cells sts ∧ ∀ (i : Nat) (h : i < sts.length), SlimL sts[i] := by
  rw [ShapeW, htt] at h
  obtain ⟨p, len, cells, rfl, h2, h3, h4⟩ := h
  obtain ⟨sts, hl, hr, hz⟩ := shapesW_staves hs hf ht hu he hc hb hc2 hb2 h4
  rw [hc3] at h2
  exact ⟨p, len, cells, sts, rfl, ⟨hl, h2, hr⟩, hz⟩
end
theorem slim_app {P : Program} {Hd : Type} {ts vs : List TypeId} {ds gs : List (DataW Hd)} (h : (DataW.weightsEach P (ts ++ vs) (ds ++ gs)).all (· ≤ reachBytes) = true) : ∀ (j : Nat) t d, ts[j]? = some t → ds[j]? = some d → Slim P t d := fun j t d h1 h2 => by
  have a := (List.getElem?_eq_some_iff.1 h1).1
  have b := (List.getElem?_eq_some_iff.1 h2).1
  exact slim_all h j t d (by rw [List.getElem?_append_left a]; exact h1) (by rw [List.getElem?_append_left b]; exact h2)
end Go.Am


namespace Go.Am
open Go
open Nat renaming reduceEqDiff → qe, reduceAdd → qz
open Int renaming reduceBEq → qa, reduceBNe → qn
attribute [local irreducible] Wp WpO WpX WpE
theorem ink_before {a b x y : Nat} {l : List UInt8} (hx : x < a) (hy : y < b) : inkB a b l ((x : Int) - 1) y = (decide (0 < x) && inkB a b l ((x - 1 : Nat) : Int) y) := by
 cases x with
 | zero =>
  have h1 : decide (((0 : Nat) : Int) - 1 ≥ 0) = false := rfl
  simp only [inkB, h1, Bool.false_and]
  rfl
 | succ x =>
  rw [show (((x + 1 : Nat) : Int) - 1) = ((x + 1 - 1 : Nat) : Int) by omega]
  simp
theorem ink_out {a b x y : Nat} {l : List UInt8} (hx : ¬ x < a) : inkB a b l x y = false := by
 have h1 : decide ((x : Int) < (a : Int)) = false := decide_eq_false (by omega)
 simp only [inkB, h1, Bool.false_and, Bool.and_false]
theorem K_refRows {a b : Nat} {p : AVal} {H : AHeap} {l : List UInt8} [hp : BytesI H p l] (ok : Ok a b l) : Con ext prog 3 58 [.agg [.int .i64 a, .int .i64 b, p]] H fun v H' => NewRuns H H' v (allR (rowO ⟨a, b, l⟩) a b) := by
 refine con_of (show prog 58 = some c58 from rfl) rfl rfl fun n hn => ?_
 haveI := hp.one
 have ha := ok.wa
 have hb := ok.hb
 haveI : Fits a b l := ⟨ok.sized⟩
 repeat first | refine mI ?_ | refine mN ?_ | refine bA ?_ | refine nl hKF ?_ | refine sq ?_ | refine rg fun KF hKF => ?_ | refine Wp.block ?_ | dsimp only
 generalize hHh : H.push (.row [.int .i64 a, .int .i64 b, p] true (2 * 24)) = Hh
 haveI hx0 : ExtI H Hh := ⟨by rw [← hHh]; exact (Ext.refl H).push _⟩
 haveI hrow : HasRow Hh H.n [.int .i64 a, .int .i64 b, p] true (2 * 24) := by rw [← hHh]; infer_instance
 refine Wp.loopS [3, 4, 5, 6, 7, 8, 9, 10, 11, 12, 13, 14, 15, 16, 17, 18, 19, 20, 21, 22, 23, 24, 25, 26, 27, 28, 29, 30, 31, 32, 33, 34, 35, 36, 37, 38, 39, 40, 41, 42, 43, 44, 45] (fun s : Nat × AVal => [(4, .int .i64 s.1), (3, s.2)]) (fun _ s H2 => s.1 ≤ b ∧ OwnS H2 s.2 3 (allR (rowO ⟨a, b, l⟩) a s.1).length (cellsR (allR (rowO ⟨a, b, l⟩) a s.1)) 43 ∧ FreshS Hh s.2 ∧ Ext Hh H2) (fun s => b - s.1) (0, .nslice) rfl (fun _ => rfl) ⟨rfl, rfl, trivial⟩ ⟨Nat.zero_le _, ⟨Or.inl ⟨rfl, rfl, rfl⟩⟩, ⟨fun _ _ _ _ _ e => by cases e⟩, Ext.refl _⟩ (by unfold fuel0 at hn; omega) ?_
 rintro ⟨y, q⟩ g H2 ⟨hy, ho, hf, hx2⟩
 dsimp only at hy ho hf ⊢
 haveI : ExtI Hh H2 := ⟨hx2⟩
 haveI := ho.sl.one
 have hal := allR_len (rowO ⟨a, b, l⟩) a y
 simp only [↓nrmL, nrmZ, qe, ↓reduceIte, qz, qa, qn]
 cases hc : decide ((y : Int) < (b : Int))
 ·have hyb : y = b := by have := of_decide_eq_false hc; omega
  subst hyb
  repeat first | refine mI ?_ | refine mv ?_ | refine fd ?_ | refine Fo.ld rfl rfl ?_ | refine bn rfl rfl rfl (by simp only [hc]; rfl) ?_ | refine nl hKF ?_ | refine sq ?_ | refine rg fun KF hKF => ?_ | refine cf rfl ?_ | refine rt ?_ | refine xi ?_ | dsimp only
  refine rz trivial ?_
  exact ⟨ho, hf.weak, Ext0.ext⟩
 have hyb : y < b := by have := of_decide_eq_true hc; omega
 have hw1 := wa1 (a := y) (by omega)
 have hmul : (y + 1) * a ≤ 640 * 640 := Nat.mul_le_mul (by omega) ha
 rw [Nat.add_mul, Nat.one_mul] at hmul
 repeat first | refine mI ?_ | refine fd ?_ | refine Fo.ld rfl rfl ?_ | refine bn rfl rfl rfl (by simp only [hc]; rfl) ?_ | refine nl hKF ?_ | refine sq ?_ | refine rg fun KF hKF => ?_ | refine ct rfl ?_ | refine sk ?_ | refine Wp.block ?_ | dsimp only
 refine Wp.loopS [3, 5, 6, 13, 14, 15, 16, 17, 18, 19, 20, 21, 22, 23, 24, 25, 26, 27, 28, 29, 30, 31, 32, 33, 34, 35, 36, 37, 38, 39, 40, 41, 42, 43, 44, 45] (fun s : Nat × AVal => [(5, .int .i64 s.1), (3, s.2)]) (fun _ s H3 => s.1 ≤ a ∧ OwnS H3 s.2 3 (allR (rowO ⟨a, b, l⟩) a y ++ preR (rowO ⟨a, b, l⟩) a y s.1).length (cellsR (allR (rowO ⟨a, b, l⟩) a y ++ preR (rowO ⟨a, b, l⟩) a y s.1)) 43 ∧ FreshS Hh s.2 ∧ Ext Hh H3) (fun s => a - s.1) (0, q) rfl (fun _ => rfl) ⟨rfl, rfl, trivial⟩ ⟨Nat.zero_le _, by rw [preR_zero, List.append_nil]; exact ho, hf, hx2⟩ (by unfold fuel0 at hn; omega) ?_
 rintro ⟨x, q2⟩ g2 H3 ⟨hx, ho3, hf3, hx3⟩
 dsimp only at hx ho3 hf3 ⊢
 haveI : ExtI Hh H3 := ⟨hx3⟩
 haveI := ho3.sl.one
 have hpl := preR_len (rowO ⟨a, b, l⟩) a y x
 simp only [↓nrmL, nrmZ, qe, ↓reduceIte, qz, qa, qn]
 cases hc2 : decide ((x : Int) < (a : Int))
 ·have hxa : x = a := by have := of_decide_eq_false hc2; omega
  repeat first | refine mI ?_ | refine fd ?_ | refine Fo.ld rfl rfl ?_ | refine bn rfl rfl rfl (by simp only [hc2]; rfl) ?_ | refine b0 ?_ | refine nl hKF ?_ | refine sq ?_ | refine rg fun KF hKF => ?_ | refine cf rfl ?_ | refine xi ?_ | dsimp only
  refine ⟨(y + 1, q2), by dsimp only; omega, ⟨by simp only [↓nrmL, nrmZ, qe, ↓reduceIte, qz, qa, qn]; rw [hw1], rfl, trivial⟩, hyb, ?_, hf3, hx3⟩
  dsimp only
  rw [allR_succ]
  exact hxa ▸ ho3
 have hxa : x < a := by have := of_decide_eq_true hc2; omega
 have hw2 := wa1 (a := x) (by omega)
 have hw0 : IntKind.i64.wrap ((x : Int) - 1) = (x : Int) - 1 := w64 (by omega)
 have hbef := ink_before (l := l) hxa hyb
 cases h1 : inkB a b l x y
 ·have hst : startB (rowO ⟨a, b, l⟩ y) x = false := by unfold startB; rw [show rowO ⟨a, b, l⟩ y x = false from h1]; rfl
  repeat first | refine ox ?_ | refine mI ?_ | refine mB ?_ | refine fd ?_ | refine Fo.ld rfl rfl ?_ | refine Fo.ldN rfl rfl (by simp only [↓nrmL, nrmZ, qe, ↓reduceIte, qz, qa, qn, hc2, h1]; rfl) ?_ | refine bn rfl rfl rfl (by simp only [hc2, h1]; rfl) ?_ | refine b0 ?_ | refine tB ?_ | (refine Fo.pcall (v' := ?_) hn rfl (by simp only [↓nrmL, nrmZ, qe, ↓reduceIte, qz, qa, qn, hc2, h1, List.map]; rfl) rfl ?hv fun _ _ => ?_; case hv => (simp only [hc2, h1]; rfl)) | refine Fo.now rfl rfl (by simp only [↓nrmL, nrmZ, qe, ↓reduceIte, qz, qa, qn, hc2, h1]; rfl) ?_ | refine nl hKF ?_ | refine sq ?_ | refine rg fun KF hKF => ?_ | refine ct rfl ?_ | refine sk ?_ | refine Wp.block ?_ | refine xi ?_ | dsimp only
  refine ⟨(x + 1, q2), by dsimp only; omega, ⟨by simp only [↓nrmL, nrmZ, qe, ↓reduceIte, qz, qa, qn]; rw [hw2], rfl, trivial⟩, hxa, ?_, hf3, (inferInstance : Ext0 Hh _).ext⟩
  dsimp only
  rw [preR_off hst]
  infer_instance
 cases h2 : inkB a b l ((x : Int) - 1) y
 rotate_left
 ·have hst : startB (rowO ⟨a, b, l⟩ y) x = false := by
   rw [h2] at hbef
   unfold startB
   rw [show (decide (0 < x) && rowO ⟨a, b, l⟩ y (x - 1)) = true from hbef.symm]
   simp
  repeat first | refine oy ?_ | refine mI ?_ | refine mB ?_ | refine fd ?_ | refine Fo.ld rfl rfl ?_ | refine Fo.ldN rfl rfl (by simp only [↓nrmL, nrmZ, qe, ↓reduceIte, qz, qa, qn, hc2, h1, hw0, h2]; rfl) ?_ | refine bn rfl rfl rfl (by simp only [hc2, h1, hw0, h2]; rfl) ?_ | refine b0 ?_ | refine fB ?_ | (refine Fo.pcall (v' := ?_) hn rfl (by simp only [↓nrmL, nrmZ, qe, ↓reduceIte, qz, qa, qn, hc2, h1, hw0, h2, List.map]; rfl) rfl ?hv fun _ _ => ?_; case hv => (simp only [hc2, h1, hw0, h2]; rfl)) | refine Fo.now rfl rfl (by simp only [↓nrmL, nrmZ, qe, ↓reduceIte, qz, qa, qn, hc2, h1, hw0, h2]; rfl) ?_ | refine nl hKF ?_ | refine sq ?_ | refine rg fun KF hKF => ?_ | refine ct rfl ?_ | refine sk ?_ | refine Wp.block ?_ | refine xi ?_ | dsimp only
  refine ⟨(x + 1, q2), by dsimp only; omega, ⟨by simp only [↓nrmL, nrmZ, qe, ↓reduceIte, qz, qa, qn]; rw [hw2], rfl, trivial⟩, hxa, ?_, hf3, (inferInstance : Ext0 Hh _).ext⟩
  dsimp only
  rw [preR_off hst]
  infer_instance
 have hst : startB (rowO ⟨a, b, l⟩ y) x = true := by
  rw [h2] at hbef
  unfold startB
  rw [show (decide (0 < x) && rowO ⟨a, b, l⟩ y (x - 1)) = false from hbef.symm, show rowO ⟨a, b, l⟩ y x = true from h1]
  rfl
 repeat first | refine oy ?_ | refine mI ?_ | refine mB ?_ | refine fd ?_ | refine Fo.ld rfl rfl ?_ | refine Fo.ldN rfl rfl (by simp only [↓nrmL, nrmZ, qe, ↓reduceIte, qz, qa, qn, hc2, h1, hw0, h2]; rfl) ?_ | refine bn rfl rfl rfl (by simp only [hc2, h1, hw0, h2]; rfl) ?_ | refine fB ?_ | (refine Fo.pcall (v' := ?_) hn rfl (by simp only [↓nrmL, nrmZ, qe, ↓reduceIte, qz, qa, qn, hc2, h1, hw0, h2, List.map]; rfl) rfl ?hv fun _ _ => ?_; case hv => (simp only [hc2, h1, hw0, h2]; rfl)) | refine Fo.now rfl rfl (by simp only [↓nrmL, nrmZ, qe, ↓reduceIte, qz, qa, qn, hc2, h1, hw0, h2]; rfl) ?_ | refine nl hKF ?_ | refine sq ?_ | refine rg fun KF hKF => ?_ | refine ct rfl ?_ | refine cf rfl ?_ | refine sk ?_ | refine Wp.block ?_ | dsimp only
 refine Wp.loopS [6, 32, 33, 34, 35, 36, 37, 38] (fun e : Nat => [(6, .int .i64 e)]) (fun _ e H5 => x ≤ e ∧ e < a ∧ (∀ t, x ≤ t → t ≤ e → rowO ⟨a, b, l⟩ y t = true) ∧ OwnS H5 q2 3 (allR (rowO ⟨a, b, l⟩) a y ++ preR (rowO ⟨a, b, l⟩) a y x).length (cellsR (allR (rowO ⟨a, b, l⟩) a y ++ preR (rowO ⟨a, b, l⟩) a y x)) 43 ∧ Ext Hh H5) (fun e => a - e) x rfl (fun _ => rfl) ⟨rfl, trivial⟩ ⟨Nat.le_refl _, hxa, fun t p q => by rw [show t = x by omega]; exact h1, inferInstance, (inferInstance : Ext0 Hh _).ext⟩ (by unfold fuel0 at hn; omega) ?_
 rintro e g3 H5 ⟨hxe, hea, hall, ho5, hx5⟩
 haveI : ExtI Hh H5 := ⟨hx5⟩
 have hw3 := wa1 (a := e) (by omega)
 simp only [↓nrmL, nrmZ, qe, ↓reduceIte, qz, qa, qn]
 cases h3 : inkB a b l ((e + 1 : Nat) : Int) y
 ·have hno : e + 1 < a → rowO ⟨a, b, l⟩ y (e + 1) = false := fun _ => h3
  repeat first | refine mI ?_ | refine mv ?_ | refine Fo.ldN rfl rfl (by simp only [↓nrmL, nrmZ, qe, ↓reduceIte, qz, qa, qn, hw3, h3]; rfl) ?_ | refine bn rfl rfl rfl (by simp only [hw3, h3]; rfl) ?_ | (refine Fo.pcall (v' := ?_) hn rfl (by simp only [↓nrmL, nrmZ, qe, ↓reduceIte, qz, qa, qn, hw3, h3, List.map]; rfl) rfl ?hv fun _ _ => ?_; case hv => (simp only [hw3, h3]; rfl)) | refine Fo.bslice rfl (by simp only [↓nrmL, nrmZ, qe, ↓reduceIte, qz, qa, qn, hw3, h3]; rfl) ?_ | (refine ob (cs' := ?_) ?hc ?_; case hc => (simp only [↓nrmL, nrmZ, qe, ↓reduceIte, qz, qa, qn, hw3, h3]; rfl)) | refine nl hKF ?_ | refine sq ?_ | refine rg fun KF hKF => ?_ | refine cf rfl ?_ | refine xi ?_
  rename AHeap => H6
  refine WpO.do (WpX.growX (p := q2) (q := .slice H6.n 0 1 (some 1) 3) (k := 1) (new := [.int .i64 y, .int .i64 x, .int .i64 e]) rfl rfl (by infer_instance) (by infer_instance) (by decide) (by decide) (by decide) (by rw [List.length_append]; omega) (by rfl) fun p' H7 ho7 hf7 hx7 => ?_)
  haveI := ho7.sl.one
  repeat first | refine mI ?_ | refine mv ?_ | refine b0 ?_ | refine nl hKF ?_ | refine rg fun KF hKF => ?_ | dsimp only
  have hx06 : Ext Hh H6 := (inferInstance : Ext0 Hh H6).ext
  refine ⟨(x + 1, p'), by dsimp only; omega, ⟨by simp only [↓nrmL, nrmZ, qe, ↓reduceIte, qz, qa, qn]; rw [hw2], rfl, trivial⟩, hxa, ?_, ⟨fun _ _ _ _ _ q => ?_⟩, ⟨?_, fun s hs => ?_⟩⟩
  ·dsimp only
   rw [preR_on hst, runV, endB_eq hea hno hxe hall, ← List.append_assoc, List.length_append, cellsR_snoc]
   exact ho7
  ·have := hf7.ge _ _ _ _ _ q
   have := hx06.n
   simp only [AHeap.push] at *
   omega
  ·have := hx7.n
   have := hx06.n
   simp only [AHeap.push] at *
   omega
  ·have := hx06.n
   rw [hx7.get s (by simp only [AHeap.push]; omega) ⟨fun r' _ _ _ _ q => by have := hf3.ge _ _ _ _ _ q; omega⟩, push_get_lt (by omega), hx06.get s hs]
 ·have hlt : e + 1 < a := by
   by_cases q : e + 1 < a
   ·exact q
   ·rw [ink_out q] at h3; cases h3
  repeat first | refine mI ?_ | refine Fo.ldN rfl rfl (by simp only [↓nrmL, nrmZ, qe, ↓reduceIte, qz, qa, qn, hw3, h3]; rfl) ?_ | refine bn rfl rfl rfl (by simp only [hw3, h3]; rfl) ?_ | (refine Fo.pcall (v' := ?_) hn rfl (by simp only [↓nrmL, nrmZ, qe, ↓reduceIte, qz, qa, qn, hw3, h3, List.map]; rfl) rfl ?hv fun _ _ => ?_; case hv => (simp only [hw3, h3]; rfl)) | refine nl hKF ?_ | refine sq ?_ | refine rg fun KF hKF => ?_ | refine ct rfl ?_ | refine sk ?_ | refine Wp.block ?_ | dsimp only
  refine ⟨e + 1, by omega, ⟨rfl, trivial⟩, by omega, hlt, fun t p q => ?_, inferInstance, (inferInstance : Ext0 Hh _).ext⟩
  by_cases ht : t ≤ e
  ·exact hall t p ht
  ·rw [show t = e + 1 by omega]; exact h3
def flpP (b y x k : Nat) : Bool := decide (k % b < y ∨ (k % b = y ∧ k / b < x))
def flipL (l : List UInt8) (a b : Nat) : List UInt8 := (List.range (b * a)).map fun k => l.getD ((k % b) * a + k / b) 0
theorem flpP_zero (b k : Nat) : flpP b 0 0 k = false := by
 have hz := Nat.zero_le (k / b)
 unfold flpP
 exact decide_eq_false (by omega)
theorem flp_iff {b x y k : Nat} (hy : y < b) : (k = x * b + y) ↔ (k % b = y ∧ k / b = x) := by
 constructor
 ·intro h
  subst h
  rw [Nat.mul_comm x b]
  exact ⟨by rw [Nat.mul_add_mod]; exact Nat.mod_eq_of_lt hy, by rw [Nat.mul_add_div (by omega), Nat.div_eq_of_lt hy, Nat.add_zero]⟩
 ·rintro ⟨h1, h2⟩
  have := Nat.div_add_mod k b
  rw [h1, h2, Nat.mul_comm] at this
  omega
theorem flpP_next {b x y k : Nat} (hy : y < b) : flpP b y (x + 1) k = true ↔ flpP b y x k = true ∨ k = x * b + y := by
 rw [flp_iff hy]
 have hz := Nat.zero_le (k / b)
 unfold flpP
 simp only [decide_eq_true_eq]
 omega
theorem flpP_row {a b y k : Nat} (hk : k < b * a) : flpP b (y + 1) 0 k = true ↔ flpP b y a k = true := by
 have hd : k / b < a := Nat.div_lt_of_lt_mul hk
 have hz := Nat.zero_le (k / b)
 unfold flpP
 simp only [decide_eq_true_eq]
 omega
theorem flpP_all {a b k : Nat} (hk : k < b * a) : flpP b b 0 k = true := by
 have hb : 0 < b := by
  rcases Nat.eq_zero_or_pos b with h0 | h0
  ·subst h0; rw [Nat.zero_mul] at hk; omega
  ·exact h0
 unfold flpP
 exact decide_eq_true (Or.inl (Nat.mod_lt k hb))
theorem K_refFlip {a b : Nat} {p : AVal} {H : AHeap} {l : List UInt8} [hp : BytesI H p l] (ok : Ok a b l) : Con ext prog 3 59 [.agg [.int .i64 a, .int .i64 b, p]] H fun v H' => NewInk H H' v ⟨b, a, flipL l a b⟩ := by
 refine con_of (show prog 59 = some c59 from rfl) rfl rfl fun n hn => ?_
 haveI := hp.one
 have ha := ok.wa
 have hb := ok.hb
 have hl := ok.len
 haveI : Fits a b l := ⟨ok.sized⟩
 have hm : a * b ≤ 640 * 640 := Nat.mul_le_mul ha hb
 have hmc : a * b = b * a := Nat.mul_comm a b
 repeat first | refine fd ?_ | refine Fo.ld rfl rfl ?_ | refine bA ?_ | refine nw ?_ | refine nl hKF ?_ | refine sq ?_ | refine rg fun KF hKF => ?_
 refine WpO.do (WpX.conD hn rfl rfl (by simp only [↓nrmL, nrmZ, qe, ↓reduceIte, qz, qa, qn, List.map] <;> rfl) (K_refNew (w := b) (h := a) (by omega) (by omega)) fun v H1 h5 => ?_)
 obtain ⟨q, e2, hq, hf, hw, hx⟩ := h5
 subst e2
 haveI : ExtI _ H1 := ⟨hx⟩
 haveI := hq.one
 have hq : BytesI H1 q (List.replicate (b * a) 0) := hq
 refine nw ?_
 refine so rfl (rfl : _ = AVal.agg _) rfl rfl rfl (by simp only [↓nrmL, nrmZ, qe, ↓reduceIte, qz, qa, qn]; rfl) ?_
 refine nl hKF ?_
 refine sq ?_
 refine sq ?_
 refine rg fun KF hKF => ?_
 refine mI ?_
 refine nl hKF ?_
 refine Wp.block ?_
 dsimp only
 refine Wp.loopS [4, 5, 11, 12, 13, 14, 15, 16, 17, 18, 19, 20, 21, 22, 23, 24, 25, 26, 27, 28, 29, 30] (fun y : Nat => [(4, .int .i64 y)]) (fun H3 y H2 => y ≤ b ∧ BytesI H2 q (fillP (flpP b y 0) (fun k => l.getD ((k % b) * a + k / b) 0) (b * a)) ∧ WrS H2 q ∧ ExtP0 H3 H2 q) (fun y => b - y) 0 rfl (fun _ => rfl) ⟨rfl, trivial⟩ ⟨Nat.zero_le _, by rw [fillP_none (fun k _ => flpP_zero b k)]; infer_instance, inferInstance, inferInstance⟩ (by unfold fuel0 at hn; omega) ?_
 rintro y g H2 ⟨hy, hb2, hw2, ⟨hx2⟩⟩
 simp only [↓nrmL, nrmZ, qe, ↓reduceIte, qz, qa, qn]
 cases hc : decide ((y : Int) < (b : Int))
 ·have hyb : y = b := by have := of_decide_eq_false hc; omega
  subst hyb
  rw [fillP_all (fun k hk => flpP_all hk)] at hb2
  repeat first | refine mI ?_ | refine fd ?_ | refine Fo.ld rfl rfl ?_ | refine Fo.ldN rfl rfl (by simp only [↓nrmL, nrmZ, qe, ↓reduceIte, qz, qa, qn, hc]; rfl) ?_ | refine bn rfl rfl rfl (by simp only [hc]; rfl) ?_ | refine so rfl (rfl : _ = AVal.agg _) rfl rfl rfl (by simp only [↓nrmL, nrmZ, qe, ↓reduceIte, qz, qa, qn, hc]; rfl) ?_ | refine nl hKF ?_ | refine sq ?_ | refine rg fun KF hKF => ?_ | refine cf rfl ?_ | refine rt ?_ | refine xi ?_ | dsimp only
  refine rz trivial ?_
  exact ⟨q, rfl, (show BytesI _ q (flipL l a y) from (inferInstance : BytesI _ q ((List.range (y * a)).map fun k => l.getD ((k % y) * a + k / y) 0))), hf.weak, inferInstance, Ext0.ext⟩
 ·have hyb : y < b := by have := of_decide_eq_true hc; omega
  have hw1 := wa1 (a := y) (by omega)
  have hr := row_le (a := a) hyb
  repeat first | refine mI ?_ | refine fd ?_ | refine Fo.ld rfl rfl ?_ | refine bn rfl rfl rfl (by simp only [hc]; rfl) ?_ | refine nl hKF ?_ | refine sq ?_ | refine rg fun KF hKF => ?_ | refine ct rfl ?_ | refine sk ?_ | refine Wp.block ?_ | dsimp only
  refine Wp.loopS [5, 17, 18, 19, 20, 21, 22, 23, 24, 25, 26, 27, 28, 29, 30] (fun x : Nat => [(5, .int .i64 x)]) (fun H3 x H5 => x ≤ a ∧ BytesI H5 q (fillP (flpP b y x) (fun k => l.getD ((k % b) * a + k / b) 0) (b * a)) ∧ WrS H5 q ∧ ExtP0 H3 H5 q) (fun x => a - x) 0 rfl (fun _ => rfl) ⟨rfl, trivial⟩ ⟨Nat.zero_le _, inferInstance, inferInstance, inferInstance⟩ (by unfold fuel0 at hn; omega) ?_
  rintro x g2 H5 ⟨hx0, hb5, hw5, ⟨hx5⟩⟩
  simp only [↓nrmL, nrmZ, qe, ↓reduceIte, qz, qa, qn]
  cases hc2 : decide ((x : Int) < (a : Int))
  ·have hxa : x = a := by have := of_decide_eq_false hc2; omega
   subst hxa
   repeat first | refine mI ?_ | refine fd ?_ | refine Fo.ld rfl rfl ?_ | refine bn rfl rfl rfl (by simp only [hc2]; rfl) ?_ | refine b0 ?_ | refine nl hKF ?_ | refine sq ?_ | refine rg fun KF hKF => ?_ | refine cf rfl ?_ | refine xi ?_ | dsimp only
   refine ⟨y + 1, by omega, ⟨by simp only [↓nrmL, nrmZ, qe, ↓reduceIte, qz, qa, qn]; rw [hw1], trivial⟩, hyb, by rw [fillP_congr (P := flpP b (y + 1) 0) (Q := flpP b y x) (fun k hk => (flpP_row hk).symm)]; infer_instance, inferInstance, inferInstance⟩
  ·have hxa : x < a := by have := of_decide_eq_true hc2; omega
   have hlt := idx_lt hxa hyb
   have hr2 := row_le (a := b) (b := a) (y := x) hxa
   have hil : y * a + x < l.length := by omega
   have hw3 := wa1 (a := x) (by omega)
   have hfl := fillP_length (flpP b y x) (fun k => l.getD ((k % b) * a + k / b) 0) (b * a)
   have e1 : (fun k => l.getD ((k % b) * a + k / b) 0) (x * b + y) = l.getD (y * a + x) 0 := by
    obtain ⟨q1, q2⟩ := (flp_iff (b := b) (x := x) (k := x * b + y) hyb).1 rfl
    dsimp only
    rw [q1, q2]
   have k1 := inkB_nat (l := l) hxa hyb
   cases ht : inkB a b l x y
   ·rw [k1] at ht
    have h0 : (fun k => l.getD ((k % b) * a + k / b) 0) (x * b + y) = 0 := by
     rw [e1]
     rcases getD01 ok.px (y * a + x) with q1 | q1
     ·exact q1
     ·rw [q1] at ht; cases ht
    repeat first | refine mI ?_ | refine fd ?_ | refine Fo.ld rfl rfl ?_ | refine Fo.ldN rfl rfl (by simp only [↓nrmL, nrmZ, qe, ↓reduceIte, qz, qa, qn, hc2, k1, ht]; rfl) ?_ | refine bn rfl rfl rfl (by simp only [hc2, k1, ht]; rfl) ?_ | refine b0 ?_ | (refine Fo.pcall (v' := ?_) hn rfl (by simp only [↓nrmL, nrmZ, qe, ↓reduceIte, qz, qa, qn, hc2, k1, ht, List.map]; rfl) rfl ?hv fun _ _ => ?_; case hv => (simp only [hc2, k1, ht]; rfl)) | refine nl hKF ?_ | refine sq ?_ | refine rg fun KF hKF => ?_ | refine ct rfl ?_ | refine cf rfl ?_ | refine sk ?_ | refine Wp.block ?_ | dsimp only
    rw [fillP_skip (Q := flpP b y (x + 1)) h0 (fun k _ => flpP_next hyb)] at hb5
    refine ⟨x + 1, by omega, ⟨by simp only [↓nrmL, nrmZ, qe, ↓reduceIte, qz, qa, qn]; rw [hw3], trivial⟩, hxa, inferInstance, inferInstance, inferInstance⟩
   ·rw [k1] at ht
    have h0 : (fun k => l.getD ((k % b) * a + k / b) 0) (x * b + y) = 1 := by
     rw [e1]; simpa using ht
    repeat first | refine mI ?_ | refine fd ?_ | refine Fo.ld rfl rfl ?_ | refine Fo.ldN rfl rfl (by simp only [↓nrmL, nrmZ, qe, ↓reduceIte, qz, qa, qn, hc2, k1, ht]; rfl) ?_ | refine bn rfl rfl rfl (by simp only [hc2, k1, ht]; rfl) ?_ | (refine Fo.pcall (v' := ?_) hn rfl (by simp only [↓nrmL, nrmZ, qe, ↓reduceIte, qz, qa, qn, hc2, k1, ht, List.map]; rfl) rfl ?hv fun _ _ => ?_; case hv => (simp only [hc2, k1, ht]; rfl)) | refine nl hKF ?_ | refine sq ?_ | refine rg fun KF hKF => ?_ | refine ct rfl ?_ | refine sk ?_ | refine Wp.block ?_
    refine WpO.do (WpX.conD hn rfl rfl (by simp only [↓nrmL, nrmZ, qe, ↓reduceIte, qz, qa, qn, List.map] <;> rfl) (K_refSet (y := x) (x := y) (w := b) (by rw [hfl]; omega) (by rw [hfl]; omega)) fun v H6 h5 => ?_)
    obtain ⟨hb6, hw6, hx6⟩ := h5
    rw [← h0, fillP_set (Q := flpP b y (x + 1)) (fun k _ => flpP_next hyb)] at hb6
    repeat first | refine mI ?_ | refine b0 ?_ | refine nl hKF ?_ | refine rg fun KF hKF => ?_ | dsimp only
    refine ⟨x + 1, by omega, ⟨by simp only [↓nrmL, nrmZ, qe, ↓reduceIte, qz, qa, qn]; rw [hw3], trivial⟩, hxa, hb6, hw6, inferInstance⟩
theorem flip_ok {a b : Nat} {l : List UInt8} (ok : Ok a b l) : Ok b a (flipL l a b) := by
 refine ⟨ok.hb, ok.wa, by simp [flipL], ?_⟩
 unfold pxOk
 rw [List.all_eq_true]
 intro c hc
 obtain ⟨k, _, rfl⟩ := List.mem_map.1 hc
 rcases getD01 ok.px ((k % b) * a + k / b) with h | h <;> rw [h] <;> rfl
theorem endF_congr {p q : Nat → Bool} {len : Nat} (h : ∀ t, t < len → p t = q t) : ∀ (f i : Nat), endF p len f i = endF q len f i
 | 0, i => rfl
 | f + 1, i => by
  simp only [endF]
  by_cases hi : i + 1 < len
  ·rw [h (i + 1) hi, endF_congr h f (i + 1)]
  ·rw [if_neg (fun q => hi q.1), if_neg (fun q => hi q.1)]
theorem allR_congr {o o' : Nat → Nat → Bool} {len lines : Nat} (h : ∀ y x, y < lines → x < len → o y x = o' y x) : ∀ y, y ≤ lines → allR o len y = allR o' len y
 | 0, _ => rfl
 | y + 1, hy => by
  rw [allR_succ, allR_succ, allR_congr h y (by omega)]
  congr 1
  unfold preR
  have h1 : (List.range len).filter (startB (o y)) = (List.range len).filter (startB (o' y)) := by
   apply List.filter_congr
   intro x hx
   have hx := List.mem_range.1 hx
   unfold startB
   rw [h y x (by omega) hx, h y (x - 1) (by omega) (by omega)]
  rw [h1]
  apply List.map_congr_left
  intro x hx
  unfold runV endB
  rw [endF_congr (fun t ht => h y t (by omega) ht)]
theorem flip_rows {a b : Nat} {l : List UInt8} : allR (rowO ⟨b, a, flipL l a b⟩) b a = allR (colO ⟨a, b, l⟩) b a := by
 refine allR_congr (lines := a) (fun y x hy hx => ?_) a (Nat.le_refl _)
 show inkB b a (flipL l a b) x y = inkB a b l y x
 rw [inkB_nat hx hy, inkB_nat hy hx]
 have hk : y * b + x < b * a := by
  have := row_le (a := b) (b := a) hy
  rw [Nat.mul_comm b a]
  have h2 : y * b + b ≤ a * b := by rw [← Nat.succ_mul]; exact Nat.mul_le_mul_right b hy
  omega
 obtain ⟨q1, q2⟩ := (flp_iff (b := b) (x := y) (y := x) (k := y * b + x) hx).1 rfl
 unfold flipL
 rw [getD_map hk, q1, q2]
theorem K_refColumns {a b : Nat} {p : AVal} {H : AHeap} {l : List UInt8} [hp : BytesI H p l] (ok : Ok a b l) : Con ext prog 5 31 [.agg [.int .i64 a, .int .i64 b, p]] H fun v H' => NewRuns H H' v (allR (colO ⟨a, b, l⟩) b a) := by
 refine con_of (show prog 31 = some c31 from rfl) rfl rfl fun n hn => ?_
 haveI := hp.one
 repeat first | refine mN ?_ | refine Fo.ldN rfl rfl (by simp only [↓nrmL, nrmZ, qe, ↓reduceIte, qz, qa, qn]; rfl) ?_ | refine bA ?_ | refine nl hKF ?_ | refine sq ?_ | refine rg fun KF hKF => ?_
 refine WpO.do (WpX.conD hn rfl rfl (by simp only [↓nrmL, nrmZ, qe, ↓reduceIte, qz, qa, qn, List.map] <;> rfl) (K_refFlip ok) fun v H1 h5 => ?_)
 obtain ⟨q, e2, hq, hf, hw, hx⟩ := h5
 subst e2
 have hq : BytesI H1 q (flipL l a b) := hq
 haveI : ExtI _ H1 := ⟨hx⟩
 haveI := hq.one
 dsimp only
 refine WpO.do (WpX.conD hn rfl rfl (by simp only [↓nrmL, nrmZ, qe, ↓reduceIte, qz, qa, qn, List.map] <;> rfl) (K_refRows (flip_ok ok)) fun v H2 h5 => ?_)
 obtain ⟨ho, hf2, hx2⟩ := h5
 haveI : ExtI _ H2 := ⟨hx2⟩
 haveI := ho.sl.one
 rw [flip_rows] at ho
 refine mv ?_
 refine nl hKF ?_
 refine rt ?_
 dsimp only
 refine rz trivial ?_
 exact ⟨ho, hf2.weak, Ext0.ext⟩
end Go.Am


namespace Go.Am
open Go
attribute [local irreducible] Wp WpO WpX WpE
abbrev RunsI (H : AHeap) (p : AVal) (l : List RunT) : Prop := SliceAt H p 3 l.length (cellsR l)
def run0 : RunT := (0, 0, 0)
theorem cellsR_length (l : List RunT) : (cellsR l).length = 3 * l.length := by
 induction l with
 | nil => rfl
 | cons r l ih => simp only [cellsR, List.flatMap_cons, List.length_append, List.length_cons, List.length_nil] at *; omega
theorem cellsR_get : ∀ {l : List RunT} {i : Nat}, i < l.length → ((cellsR l).drop (i * 3)).take 3 = [.int .i64 (l.getD i run0).1, .int .i64 (l.getD i run0).2.1, .int .i64 (l.getD i run0).2.2]
 | r :: l, 0, _ => by simp [cellsR]
 | r :: l, i + 1, h => by
  have ih := cellsR_get (l := l) (i := i) (by simpa using h)
  have e : (cellsR (r :: l)).drop ((i + 1) * 3) = (cellsR l).drop (i * 3) := by
   rw [show (i + 1) * 3 = 3 + i * 3 by omega, ← List.drop_drop]
   rfl
  rw [e, ih]
  simp
def okRun (r : RunT) (lines len : Int) : Bool := !(decide (r.1 < 0)) && !(decide (r.1 ≥ lines)) && !(decide (r.2.1 < 0)) && !(decide (r.2.1 > r.2.2)) && !(decide (r.2.2 ≥ len))
def apartB (a b : RunT) : Bool := decide (b.1 > a.1) || ((b.1 == a.1) && decide (b.2.1 > IntKind.i64.wrap (a.2.2 + 1)))
def okAtR (l : List RunT) (lines len : Int) (i : Nat) : Bool := okRun (l.getD i run0) lines len && (decide (i = 0) || apartB (l.getD (i - 1) run0) (l.getD i run0))
def properTo (l : List RunT) (lines len : Int) : Nat → Bool
 | 0 => true
 | i + 1 => properTo l lines len i && okAtR l lines len i
theorem properTo_no {l : List RunT} {lines len : Int} {i : Nat} (h : okAtR l lines len i = false) : ∀ j, i < j → properTo l lines len j = false
 | j + 1, hj => by
  simp only [properTo]
  by_cases hij : i = j
  ·rw [← hij, h, Bool.and_false]
  ·rw [properTo_no h j (by omega), Bool.false_and]
def properB (l : List RunT) (lines len : Int) : Bool := properTo l lines len l.length
class ShortR (l : List RunT) : Prop where
 le : l.length ≤ 409600
end Go.Am


namespace Go.Am
open Go
attribute [local irreducible] Wp WpO WpX WpE
def inRun (r : RunT) (y c : Nat) : Bool := decide (r.1 = (y : Int)) && decide (r.2.1 ≤ (c : Int)) && decide ((c : Int) ≤ r.2.2)
def prt (r : RunT) (y c x : Nat) : Bool := decide (r.1 = (y : Int)) && decide (r.2.1 ≤ (c : Int)) && decide (c < x)
def pB (l : List RunT) (L C : Nat → Nat) (i k : Nat) : Bool := (l.take i).any fun r => inRun r (L k) (C k)
def pP (l : List RunT) (L C : Nat → Nat) (i x k : Nat) : Bool := pB l L C i k || prt (l.getD i run0) (L k) (C k) x
def paint (l : List RunT) (L C : Nat → Nat) (n : Nat) : List UInt8 := (List.range n).map fun k => if (l.any fun r => inRun r (L k) (C k)) = true then 1 else 0
theorem pP_start {l : List RunT} {L C : Nat → Nat} {i f k : Nat} (h : (l.getD i run0).2.1 = (f : Int)) : pP l L C i f k = pB l L C i k := by
 have : prt (l.getD i run0) (L k) (C k) f = false := by
  unfold prt
  rw [h]
  by_cases h1 : C k < f
  ·have h2 : ¬ ((f : Int) ≤ (C k : Int)) := by omega
   rw [decide_eq_false h2]; simp
  ·rw [decide_eq_false h1]; simp
 unfold pP
 rw [this, Bool.or_false]
theorem pP_next {l : List RunT} {L C : Nat → Nat} {i m x j k : Nat} (h1 : (l.getD i run0).1 = (m : Int)) (h2 : (l.getD i run0).2.1 ≤ (x : Int)) (hj : k = j ↔ (L k = m ∧ C k = x)) : pP l L C i (x + 1) k = true ↔ pP l L C i x k = true ∨ k = j := by
 rw [hj]
 unfold pP prt
 rw [h1]
 cases hb : pB l L C i k
 ·simp only [Bool.false_or, Bool.and_eq_true, decide_eq_true_eq]
  constructor
  ·rintro ⟨⟨a, b⟩, c⟩
   by_cases hc : C k < x
   ·exact Or.inl ⟨⟨a, b⟩, hc⟩
   ·exact Or.inr ⟨by omega, by omega⟩
  ·rintro (⟨⟨a, b⟩, c⟩ | ⟨a, b⟩)
   ·exact ⟨⟨a, b⟩, by omega⟩
   ·exact ⟨⟨by omega, by rw [b]; exact h2⟩, by omega⟩
 ·simp
theorem pB_succ {l : List RunT} {L C : Nat → Nat} {i k : Nat} (hi : i < l.length) : pB l L C (i + 1) k = (pB l L C i k || inRun (l.getD i run0) (L k) (C k)) := by
 unfold pB
 have e : l.getD i run0 = l[i] := by simp [hi]
 rw [List.take_succ_eq_append_getElem hi, List.any_append, e]
 simp
theorem pP_end {l : List RunT} {L C : Nat → Nat} {i t k : Nat} (hi : i < l.length) (h : (l.getD i run0).2.2 = (t : Int)) : pP l L C i (t + 1) k = pB l L C (i + 1) k := by
 rw [pB_succ hi]
 unfold pP prt inRun
 rw [h]
 have : decide (C k < t + 1) = decide ((C k : Int) ≤ (t : Int)) := by
  by_cases h1 : C k < t + 1
  ·rw [decide_eq_true h1, decide_eq_true (by omega)]
  ·rw [decide_eq_false h1, decide_eq_false (by omega)]
 rw [this]
theorem okRun_facts {r : RunT} {lines len : Nat} (h : okRun r lines len = true) : ∃ m f t : Nat, r.1 = m ∧ r.2.1 = f ∧ r.2.2 = t ∧ m < lines ∧ f ≤ t ∧ t < len := by
 unfold okRun at h
 simp only [Bool.and_eq_true, Bool.not_eq_true', decide_eq_false_iff_not] at h
 exact ⟨r.1.toNat, r.2.1.toNat, r.2.2.toNat, by omega, by omega, by omega, by omega, by omega, by omega⟩
def fromSpec (w h : Int) (l : List RunT) (lines len : Int) (L C : Nat → Nat) : Img × Int := bif sideB w && sideB h then (bif properB l lines len then (⟨w, h, paint l L C (w.toNat * h.toNat)⟩, 0) else (.zero, 1)) else (.zero, 2)
def rowsImg (w h : Int) (l : List RunT) : Img × Int := fromSpec w h l h w (fun k => k / w.toNat) (fun k => k % w.toNat)
def colsImg (w h : Int) (l : List RunT) : Img × Int := fromSpec w h l w h (fun k => k % w.toNat) (fun k => k / w.toNat)
end Go.Am

namespace Go.Am
open Go
theorem endF_spec {p : Nat → Bool} {len : Nat} : ∀ (f i : Nat), i < len → p i = true → len ≤ i + f + 1 →
    i ≤ endF p len f i ∧ endF p len f i < len ∧ (∀ t, i ≤ t → t ≤ endF p len f i → p t = true) ∧ (endF p len f i + 1 < len → p (endF p len f i + 1) = false)
  | 0, i, hi, hp, hl => by
    simp only [endF]
    refine ⟨Nat.le_refl _, hi, fun t h1 h2 => ?_, fun h => by omega⟩
    obtain rfl : t = i := by omega
    exact hp
  | f + 1, i, hi, hp, hl => by
    simp only [endF]
    by_cases h : i + 1 < len ∧ p (i + 1) = true
    · rw [if_pos h]
      obtain ⟨h1, h2, h3, h4⟩ := endF_spec f (i + 1) h.1 h.2 (by omega)
      refine ⟨by omega, h2, fun t h5 h6 => ?_, h4⟩
      by_cases h7 : t = i
      · rw [h7]; exact hp
      · exact h3 t (by omega) h6
    · rw [if_neg h]
      refine ⟨Nat.le_refl _, hi, fun t h1 h2 => ?_, fun h1 => ?_⟩
      · obtain rfl : t = i := by omega
        exact hp
      · cases hq : p (i + 1)
        · rfl
        · exact absurd ⟨h1, hq⟩ h
theorem endB_spec {p : Nat → Bool} {len i : Nat} (hi : i < len) (hp : p i = true) :
    i ≤ endB p len i ∧ endB p len i < len ∧ (∀ t, i ≤ t → t ≤ endB p len i → p t = true) ∧ (endB p len i + 1 < len → p (endB p len i + 1) = false) := endF_spec len i hi hp (by omega)
theorem start_p {p : Nat → Bool} {s : Nat} (h : startB p s = true) : p s = true ∧ (0 < s → p (s - 1) = false) := by
  unfold startB at h
  simp only [Bool.and_eq_true, Bool.not_eq_true', Bool.and_eq_false_iff, decide_eq_false_iff_not] at h
  exact ⟨h.1, fun h0 => h.2.resolve_left (fun k => k h0)⟩
theorem mem_preR {o : Nat → Nat → Bool} {len a x : Nat} {r : RunT} : r ∈ preR o len a x ↔ ∃ s, s < x ∧ startB (o a) s = true ∧ r = runV o len a s := by
  unfold preR
  simp only [List.mem_map, List.mem_filter, List.mem_range]
  constructor
  · rintro ⟨s, ⟨h1, h2⟩, h3⟩; exact ⟨s, h1, h2, h3.symm⟩
  · rintro ⟨s, h1, h2, h3⟩; exact ⟨s, ⟨h1, h2⟩, h3.symm⟩
theorem mem_allR {o : Nat → Nat → Bool} {len n : Nat} {r : RunT} : r ∈ allR o len n ↔ ∃ a s, a < n ∧ s < len ∧ startB (o a) s = true ∧ r = runV o len a s := by
  unfold allR
  simp only [List.mem_flatMap, List.mem_range, mem_preR]
  constructor
  · rintro ⟨a, h1, s, h2, h3, h4⟩; exact ⟨a, s, h1, h2, h3, h4⟩
  · rintro ⟨a, s, h1, h2, h3, h4⟩; exact ⟨a, h1, s, h2, h3, h4⟩
def before (r q : RunT) : Prop := r.1 < q.1 ∨ (r.1 = q.1 ∧ r.2.2 + 1 < q.2.1)
theorem preR_pair {o : Nat → Nat → Bool} {len a : Nat} : ∀ x, x ≤ len → (preR o len a x).Pairwise before
  | 0, _ => by rw [preR_zero]; exact List.Pairwise.nil
  | x + 1, hx => by
    cases h : startB (o a) x
    · rw [preR_off h]; exact preR_pair x (by omega)
    · rw [preR_on h, List.pairwise_append]
      refine ⟨preR_pair x (by omega), List.pairwise_singleton _ _, fun r hr q hq => ?_⟩
      rw [List.mem_singleton] at hq
      subst hq
      obtain ⟨s, h1, h2, rfl⟩ := mem_preR.1 hr
      obtain ⟨k1, k2, k3, k4⟩ := endB_spec (p := o a) (len := len) (i := s) (by omega) (start_p h2).1
      have h5 := (start_p h).2 (by omega)
      refine Or.inr ⟨rfl, ?_⟩
      show ((endB (o a) len s : Nat) : Int) + 1 < ((x : Nat) : Int)
      by_cases h6 : x - 1 ≤ endB (o a) len s
      · rw [k3 (x - 1) (by omega) h6] at h5; cases h5
      · omega
theorem allR_pair {o : Nat → Nat → Bool} {len : Nat} : ∀ n, (allR o len n).Pairwise before
  | 0 => List.Pairwise.nil
  | n + 1 => by
    rw [allR_succ, List.pairwise_append]
    refine ⟨allR_pair n, preR_pair len (Nat.le_refl _), fun r hr q hq => ?_⟩
    obtain ⟨a, s, h1, h2, h3, rfl⟩ := mem_allR.1 hr
    obtain ⟨s', h4, h5, rfl⟩ := mem_preR.1 hq
    refine Or.inl ?_
    show ((a : Nat) : Int) < ((n : Nat) : Int)
    omega
theorem allR_ok {o : Nat → Nat → Bool} {len n : Nat} {r : RunT} (hr : r ∈ allR o len n) : okRun r (n : Nat) (len : Nat) = true := by
  obtain ⟨a, s, h1, h2, h3, rfl⟩ := mem_allR.1 hr
  obtain ⟨k1, k2, k3, k4⟩ := endB_spec (p := o a) h2 (start_p h3).1
  unfold okRun runV
  simp only [Bool.and_eq_true, Bool.not_eq_true', decide_eq_false_iff_not]
  refine ⟨⟨⟨⟨?_, ?_⟩, ?_⟩, ?_⟩, ?_⟩ <;> omega
theorem properTo_pair {l : List RunT} {n len : Nat} (hlen : len ≤ 640) (hok : ∀ r ∈ l, okRun r (n : Nat) (len : Nat) = true) (hp : l.Pairwise before) : ∀ i, i ≤ l.length → properTo l (n : Nat) (len : Nat) i = true
  | 0, _ => rfl
  | i + 1, hi => by
    simp only [properTo, properTo_pair hlen hok hp i (by omega), Bool.true_and]
    have hil : i < l.length := hi
    have e : l.getD i run0 = l[i] := by simp [hil]
    unfold okAtR
    rw [e, hok _ (List.getElem_mem hil), Bool.true_and]
    cases h0 : decide (i = 0)
    · have hi0 : 0 < i := by have := of_decide_eq_false h0; omega
      have hil2 : i - 1 < l.length := by omega
      have e2 : l.getD (i - 1) run0 = l[i - 1] := by simp [hil2]
      have hb := List.pairwise_iff_getElem.1 hp (i - 1) i hil2 hil (by omega)
      obtain ⟨m, f, t, q1, q2, q3, q4, q5, q6⟩ := okRun_facts (hok _ (List.getElem_mem hil2))
      rw [Bool.false_or, e2]
      unfold apartB
      have hw : IntKind.i64.wrap (l[i - 1].2.2 + 1) = l[i - 1].2.2 + 1 := by
        rw [q3]; exact w64 (by omega)
      rw [hw]
      simp only [Bool.or_eq_true, Bool.and_eq_true, decide_eq_true_eq, beq_iff_eq]
      rcases hb with hb | hb
      · exact Or.inl hb
      · exact Or.inr ⟨hb.1.symm, hb.2⟩
    · rfl
end Go.Am


namespace Go.Am
open Go
open Nat renaming reduceEqDiff → qe, reduceAdd → qz
open Int renaming reduceBEq → qa, reduceBNe → qn
attribute [local irreducible] Wp WpO WpX WpE
def touchB (L : List UInt8) (a x s t : Nat) : Bool := (List.range (t + 1)).any fun y => decide (s ≤ y) && (L.getD (y * a + x) 0 == 1)
theorem touch_no {L : List UInt8} {a x s t : Nat} (h : ∀ z, s ≤ z → z ≤ t → (L.getD (z * a + x) 0 == 1) = false) : touchB L a x s t = false := by
 unfold touchB
 rw [List.any_eq_false]
 intro y hy
 have := List.mem_range.1 hy
 by_cases hs : s ≤ y
 ·rw [h y hs (by omega)]; simp
 ·simp [hs]
theorem touch_yes {L : List UInt8} {a x s t y : Nat} (h1 : s ≤ y) (h2 : y ≤ t) (h : (L.getD (y * a + x) 0 == 1) = true) : touchB L a x s t = true := by
 unfold touchB
 rw [List.any_eq_true]
 exact ⟨y, List.mem_range.2 (by omega), by rw [h]; simp [h1]⟩
theorem K_touches {a b x s t : Nat} {p : AVal} {H : AHeap} {L : List UInt8} [hp : BytesI H p L] (ha : a ≤ 640) (hb : b ≤ 640) (hx : x < a) (ht : t < b) (hl : L.length = a * b) : Con ext prog 1 29 [.agg [.int .i64 (a : Int), .int .i64 (b : Int), p], .agg [.int .i64 (x : Int), .int .i64 (s : Int), .int .i64 (t : Int)]] H fun v H' => v = .bool (touchB L a x s t) ∧ Ext H H' := by
 refine con_of (show prog 29 = some c29 from rfl) rfl rfl fun n hn => ?_
 haveI := hp.one
 repeat first | refine mI ?_ | refine mB ?_ | refine fd ?_ | refine Fo.ld rfl rfl ?_ | refine bA ?_ | refine nl hKF ?_ | refine sq ?_ | refine rg fun KF hKF => ?_ | refine Wp.block ?_ | dsimp only
 by_cases hst : s ≤ t
 ·refine Wp.loopS [4, 5, 8, 9, 10, 11, 12, 13, 14, 15, 16, 17, 18, 19, 20, 21, 22, 23, 24, 25] (fun y : Nat => [(5, .int .i64 y)]) (fun H3 y H2 => s ≤ y ∧ y ≤ t + 1 ∧ (∀ z, s ≤ z → z < y → (L.getD (z * a + x) 0 == 1) = false) ∧ H2 = H3) (fun y => t + 1 - y) s rfl (fun _ => rfl) ⟨rfl, trivial⟩ ⟨Nat.le_refl _, by omega, fun z h1 h2 => by omega, rfl⟩ (by unfold fuel0 at hn; omega) ?_
  rintro y g H2 ⟨hy1, hy2, hno, rfl⟩
  simp only [↓nrmL, nrmZ, qe, ↓reduceIte, qz, qa, qn]
  cases hc : decide ((y : Int) ≤ (t : Int))
  ·have hyt : y = t + 1 := by have := of_decide_eq_false hc; omega
   have e1 : touchB L a x s t = false := touch_no fun z h1 h2 => hno z h1 (by omega)
   rw [e1]
   repeat first | refine mI ?_ | refine mB ?_ | refine fd ?_ | refine Fo.ld rfl rfl ?_ | refine bn rfl rfl rfl (by simp only [hc]; rfl) ?_ | refine nl hKF ?_ | refine sq ?_ | refine rg fun KF hKF => ?_ | refine cf rfl ?_ | refine rt ?_ | refine xi ?_ | dsimp only
   refine rz trivial ?_
   exact ⟨rfl, Ext0.ext⟩
  have hyt : y ≤ t := by have := of_decide_eq_true hc; omega
  have hlt := idx_lt hx (show y < b by omega)
  have hle : a * b ≤ 640 * 640 := Nat.mul_le_mul ha hb
  have m1 : IntKind.i64.wrap ((y : Int) * (a : Int)) = ((y * a : Nat) : Int) := wm (by omega)
  have m2 : IntKind.i64.wrap (((y * a : Nat) : Int) + (x : Int)) = ((y * a + x : Nat) : Int) := wa (by omega)
  have hwy := wa1 (a := y) (by omega)
  have hi : y * a + x < L.length := by omega
  have hg : L.getD (y * a + x) 0 = L[y * a + x] := by rw [List.getD_eq_getElem?_getD, List.getElem?_eq_getElem hi, Option.getD_some]
  cases h1 : (L[y * a + x] == 1)
  ·have h1' : ((((L[y * a + x]).toNat : Nat) : Int) == 1) = false := by rw [u8_one]; exact h1
   repeat first | refine mI ?_ | refine fd ?_ | refine Fo.ld rfl rfl ?_ | refine bn rfl rfl rfl (by simp only [hc, m1, m2, h1']; rfl) ?_ | refine b0 ?_ | (refine Fo.idx (by simp only [↓nrmL, nrmK, qe, ↓reduceIte]; rfl) rfl ?_ (by simp only [↓nrmL, nrmZ, qe, ↓reduceIte, qz, qa, qn, hc, m1, m2, h1']; rfl) ?_; (focus omega)) | (refine Fo.ldB rfl ?_ rfl ?_; (focus omega)) | refine nl hKF ?_ | refine sq ?_ | refine rg fun KF hKF => ?_ | refine ct rfl ?_ | refine cf rfl ?_ | refine sk ?_ | refine Wp.block ?_ | dsimp only
   refine ⟨y + 1, by omega, ⟨by simp only [↓nrmL, nrmZ, qe, ↓reduceIte, qz, qa, qn]; rw [hwy], trivial⟩, by omega, by omega, fun z z1 z2 => ?_, rfl⟩
   by_cases e : z = y
   ·rw [e, hg]; exact h1
   ·exact hno z z1 (by omega)
  ·have h1' : ((((L[y * a + x]).toNat : Nat) : Int) == 1) = true := by rw [u8_one]; exact h1
   have e1 : touchB L a x s t = true := touch_yes hy1 hyt (by rw [hg]; exact h1)
   rw [e1]
   repeat first | refine mI ?_ | refine mB ?_ | refine fd ?_ | refine Fo.ld rfl rfl ?_ | refine bn rfl rfl rfl (by simp only [hc, m1, m2, h1']; rfl) ?_ | (refine Fo.idx (by simp only [↓nrmL, nrmK, qe, ↓reduceIte]; rfl) rfl ?_ (by simp only [↓nrmL, nrmZ, qe, ↓reduceIte, qz, qa, qn, hc, m1, m2, h1']; rfl) ?_; (focus omega)) | (refine Fo.ldB rfl ?_ rfl ?_; (focus omega)) | refine nl hKF ?_ | refine sq ?_ | refine rg fun KF hKF => ?_ | refine ct rfl ?_ | refine sk ?_ | refine rt ?_ | refine Wp.block ?_ | dsimp only
   refine rz trivial ?_
   exact ⟨rfl, Ext0.ext⟩
 ·refine Wp.loopS [4, 5, 8, 9, 10, 11, 12, 13, 14, 15, 16, 17, 18, 19, 20, 21, 22, 23, 24, 25] (fun y : Nat => [(5, .int .i64 y)]) (fun H3 y H2 => y = s ∧ H2 = H3) (fun y => 0) s rfl (fun _ => rfl) ⟨rfl, trivial⟩ ⟨rfl, rfl⟩ (by unfold fuel0 at hn; omega) ?_
  rintro y g H2 ⟨rfl, rfl⟩
  simp only [↓nrmL, nrmZ, qe, ↓reduceIte, qz, qa, qn]
  have hc : decide ((y : Int) ≤ (t : Int)) = false := decide_eq_false (by omega)
  have e1 : touchB L a x y t = false := touch_no fun z h1 h2 => by omega
  rw [e1]
  repeat first | refine mI ?_ | refine mB ?_ | refine fd ?_ | refine Fo.ld rfl rfl ?_ | refine bn rfl rfl rfl (by simp only [hc]; rfl) ?_ | refine nl hKF ?_ | refine sq ?_ | refine rg fun KF hKF => ?_ | refine cf rfl ?_ | refine rt ?_ | refine xi ?_ | dsimp only
  refine rz trivial ?_
  exact ⟨rfl, Ext0.ext⟩
noncomputable def drawL (a b : Nat) (sts : List (List (List Int))) : List UInt8 := by
 classical
 exact (List.range (a * b)).map fun j => if Dr a sts sts.length 0 0 j then 1 else 0
theorem drawn_eq {a b : Nat} {sts : List (List (List Int))} {L : List UInt8} (h : Drawn L (a * b) (Dr a sts sts.length 0 0)) : L = drawL a b sts := by
 classical
 unfold drawL
 apply List.ext_getElem
 ·simp [h.len]
 ·intro i h1 h2
  have hi : i < a * b := by rw [← h.len]; exact h1
  simp only [List.getElem_map, List.getElem_range]
  have hg : L.getD i 0 = L[i] := by rw [List.getD_eq_getElem?_getD, List.getElem?_eq_getElem h1, Option.getD_some]
  rcases h.it i hi with ⟨a1, a2⟩ | ⟨a1, a2⟩
  ·rw [if_pos a2, ← hg, a1]
  ·rw [if_neg a2, ← hg, a1]
def selR (L : List UInt8) (a : Nat) (most : Int) (r : RunT) : Bool := decide (r.2.2 - r.2.1 < most) && touchB L a r.1.toNat r.2.1.toNat r.2.2.toNat
noncomputable def runsS (g : Img) (sts : List (List (List Int))) (most : Int) : List RunT × Int :=
 bif g.err == 0 then (bif sts.all (fitsB g.w.toNat g.h.toNat) then ((allR (colO g) g.h.toNat g.w.toNat).filter (selR (drawL g.w.toNat g.h.toNat sts) g.w.toNat most), 0) else ([], 10)) else ([], g.err)
theorem filter_snoc {α : Type} {l : List α} {f : α → Bool} {i : Nat} (h : i < l.length) : (l.take (i + 1)).filter f = (l.take i).filter f ++ (if f l[i] = true then [l[i]] else []) := by
 rw [List.take_succ_eq_append_getElem h, List.filter_append]
 cases h2 : f l[i] <;> simp [h2]
theorem row_one3 {H : AHeap} {r : Nat} {a b c : AVal} {rw : Bool} {ty : TypeId} (h : HasRow H r [a, b, c] rw ty) : SliceAt H (.slice r 0 1 (some 1) 3) 3 1 [a, b, c] := ⟨Or.inr ⟨r, 0, some 1, _, rw, ty, rfl, h.lt, h.get, by simp, rfl, Nat.le_refl _⟩⟩
theorem K_Runs {w h most : Int} {m : Nat} {p q : AVal} {H : AHeap} {l : List UInt8} {cells : List AVal} {sts : List (List (List Int))} [hp : BytesI H p l] [hq : StavesI H q m cells sts] (hm : m ≤ 1000) : Con ext prog 9 8 [.agg [.int .i64 w, .int .i64 h, p], q, .int .i64 most] H fun v H' => RunsRes H H' v (runsS ⟨w, h, l⟩ sts most) := by
 refine con_of (show prog 8 = some c8 from rfl) rfl rfl fun n hn => ?_
 have hsl := hq.sl
 haveI := hsl
 haveI := hsl.one
 haveI := hp.one
 have hml := hq.len
 have hcl : cells.length = m := by have := hsl.len; omega
 obtain ⟨R, hR⟩ : ∃ R, runsS ⟨w, h, l⟩ sts most = R := ⟨_, rfl⟩
 rw [hR]
 repeat first | refine mI ?_ | refine mN ?_ | refine Fo.ldN rfl rfl (by simp only [↓nrmL, nrmZ, qe, ↓reduceIte, qz, qa, qn]; rfl) ?_ | refine bA ?_ | refine nl hKF ?_ | refine sq ?_ | refine rg fun KF hKF => ?_
 refine WpO.do (WpX.conD hn rfl rfl (by simp only [↓nrmL, nrmZ, qe, ↓reduceIte, qz, qa, qn, List.map] <;> rfl) (K_Columns (l := l)) fun v H3 h5 => ?_)
 obtain ⟨q2, e1, hq2, hfq2, hxq2⟩ := h5
 subst e1
 haveI : ExtI _ H3 := ⟨hxq2⟩
 haveI := hq2.sl.one
 cases h0 : (Img.err ⟨w, h, l⟩ == 0)
 ·have e1 : runsS ⟨w, h, l⟩ sts most = ([], Img.err ⟨w, h, l⟩) := by simp only [runsS, h0, cond_false]
  have e2 : colsSpec ⟨w, h, l⟩ = ([], Img.err ⟨w, h, l⟩) := by simp only [colsSpec, h0, cond_false]
  rw [e1] at hR
  subst hR
  rw [e2] at hq2
  simp only [e2, bne, h0]
  repeat first | refine mI ?_ | refine mT ?_ | refine mN ?_ | refine mv ?_ | refine bn rfl rfl rfl (by simp only [e2, bne, h0]; rfl) ?_ | refine xt ?_ | refine nl hKF ?_ | refine sq ?_ | refine rg fun KF hKF => ?_ | refine ct rfl ?_ | refine rt ?_ | dsimp only
  refine rz trivial ?_
  exact ⟨_, rfl, newRuns0⟩
 obtain ⟨a, b, rfl, rfl, ok⟩ := ok_of h0
 have ha := ok.wa
 have hb := ok.hb
 haveI : Side a := ⟨ha⟩
 haveI : Side b := ⟨hb⟩
 have e2 : colsSpec ⟨a, b, l⟩ = (allR (colO ⟨a, b, l⟩) b a, 0) := by simp only [colsSpec, h0, cond_true, Int.toNat_natCast]
 obtain ⟨C, hC⟩ : ∃ C, allR (colO ⟨a, b, l⟩) b a = C := ⟨_, rfl⟩
 rw [hC] at e2
 rw [e2] at hq2
 have hClen : C.length ≤ 409600 := by
  have h7 := allR_len (colO ⟨a, b, l⟩) b a
  have h8 := Nat.mul_le_mul ha hb
  rw [← hC]; omega
 have hbne : ((0 : Int) != 0) = false := rfl
 simp only [e2, hbne]
 repeat first | refine mI ?_ | refine mT ?_ | refine mv ?_ | refine bn rfl rfl rfl (by simp only [e2, hbne]; rfl) ?_ | refine xt ?_ | refine ln (by simp only [↓nrmL, nrmK, qe, ↓reduceIte]; rfl) ?_ | refine nl hKF ?_ | refine sq ?_ | refine rg fun KF hKF => ?_ | refine cf rfl ?_ | refine sk ?_ | refine Wp.block ?_ | dsimp only
 refine Wp.loopS [6, 7, 11, 26, 27, 28, 29, 30, 31, 32, 33, 34] (fun i : Nat => [(26, .int .i64 i)]) (fun H4 i H5 => i ≤ m ∧ (∀ j (h : j < sts.length), j < i → fitsB a b sts[j] = true) ∧ Ext0 H4 H5) (fun i => m - i) 0 rfl (fun _ => rfl) ⟨rfl, trivial⟩ ⟨Nat.zero_le _, fun j _ hj => by omega, inferInstance⟩ (by unfold fuel0 at hn; omega) ?_
 rintro i g H5 ⟨hi, hok, ⟨hx5⟩⟩
 haveI : ExtI _ H5 := ⟨hx5⟩
 simp only [↓nrmL, nrmZ, qe, ↓reduceIte, qz, qa, qn]
 cases hc : decide ((i : Int) < (m : Int))
 rotate_left
 ·have him : i < m := by have := of_decide_eq_true hc; omega
  have his : i < sts.length := by omega
  have hwi := wa1 (a := i) (by omega)
  obtain ⟨qi, hqi, hLq⟩ := hq.it i his
  obtain ⟨qs, hqs, hqr⟩ := hLq.it
  haveI := hqs
  haveI := hqs.one
  repeat first | refine bn rfl rfl rfl (by simp only [hc]; rfl) ?_ | (refine Fo.idx (by simp only [↓nrmL, nrmK, qe, ↓reduceIte]; rfl) rfl ?_ (by simp only [↓nrmL, nrmZ, qe, ↓reduceIte, qz, qa, qn, hc]; rfl) ?_; (focus omega)) | refine nl hKF ?_ | refine sq ?_ | refine rg fun KF hKF => ?_ | refine ct rfl ?_ | refine sk ?_ | refine Wp.block ?_
  refine WpO.do (WpX.ldNP (p := q) (j := i) (m := 1) (l := [qi]) rfl (by decide) (by omega) (take_one hqi) ?_)
  repeat first | refine Fo.ldN rfl rfl (by simp only [↓nrmL, nrmZ, qe, ↓reduceIte, qz, qa, qn]; rfl) ?_ | refine nw ?_ | refine so rfl (rfl : _ = AVal.agg _) rfl rfl rfl (by simp only [↓nrmL, nrmZ, qe, ↓reduceIte, qz, qa, qn]; rfl) ?_ | refine nl hKF ?_ | refine sq ?_ | refine rg fun KF hKF => ?_
  refine WpO.do (WpX.conD hn rfl rfl (by simp only [↓nrmL, nrmZ, qe, ↓reduceIte, qz, qa, qn, List.map] <;> rfl) (K_fits (a := a) (b := b) (p := p) (q := qi) (g := l) (ls := sts[i]) (hq := hLq.ext Ext0.ext)).con fun v H6 h5 => ?_)
  obtain ⟨rfl, hx6⟩ := h5
  haveI : ExtI _ H6 := ⟨hx6⟩
  cases hf : fitsB a b sts[i]
  ·have e1 : runsS ⟨a, b, l⟩ sts most = ([], 10) := by
    have : sts.all (fitsB a b) = false := by
     cases hh : sts.all (fitsB a b) with
     | false => rfl
     | true =>
      have := List.all_eq_true.1 hh _ (List.getElem_mem his)
      rw [hf] at this; cases this
    simp only [runsS, h0, cond_true, Int.toNat_natCast, this, cond_false]
   rw [e1] at hR
   subst hR
   refine Fo.now rfl rfl (by simp only [↓nrmL, nrmZ, qe, ↓reduceIte, qz, qa, qn, hf]; rfl) ?_
   refine nl hKF ?_
   refine ct rfl ?_
   refine sq ?_
   refine rg fun KF hKF => ?_
   refine mN ?_
   refine mI ?_
   refine nl hKF ?_
   refine rt ?_
   dsimp only
   refine rz trivial ?_
   exact ⟨_, rfl, newRuns0⟩
  ·skip
   refine Fo.now rfl rfl (by simp only [↓nrmL, nrmZ, qe, ↓reduceIte, qz, qa, qn, hf]; rfl) ?_
   refine nl hKF ?_
   refine cf rfl ?_
   refine sk ?_
   refine rg fun KF hKF => ?_
   refine b0 ?_
   refine mI ?_
   refine nl hKF ?_
   dsimp only
   refine ⟨i + 1, by omega, ⟨by simp only [↓nrmL, nrmZ, qe, ↓reduceIte, qz, qa, qn]; rw [hwi], trivial⟩, by omega, fun j h1 h2 => ?_, inferInstance⟩
   by_cases e : j = i
   ·subst e; exact hf
   ·exact hok j h1 (by omega)
 have him : i = m := by have := of_decide_eq_false hc; omega
 have hfit : ∀ (j : Nat) (h : j < sts.length), fitsB a b sts[j] = true := fun j h => hok j h (by omega)
 have hall : sts.all (fitsB a b) = true := by
  rw [List.all_eq_true]
  intro s hs
  obtain ⟨j, hj, rfl⟩ := List.getElem_of_mem hs
  exact hfit j hj
 obtain ⟨L, hL⟩ : ∃ L, drawL a b sts = L := ⟨_, rfl⟩
 have e1 : runsS ⟨a, b, l⟩ sts most = (C.filter (selR L a most), 0) := by simp only [runsS, h0, cond_true, Int.toNat_natCast, hall, hC, hL]
 rw [e1] at hR
 subst hR
 repeat first | refine mv ?_ | refine fd ?_ | refine Fo.ld rfl rfl ?_ | refine bn rfl rfl rfl (by simp only [hc]; rfl) ?_ | refine nl hKF ?_ | refine sq ?_ | refine rg fun KF hKF => ?_ | refine cf rfl ?_ | refine xi ?_
 refine WpO.do (WpX.conD hn rfl rfl (by simp only [↓nrmL, nrmZ, qe, ↓reduceIte, qz, qa, qn, List.map] <;> rfl) (K_draw (a := a) (b := b) (p := q) (sts := sts) (hp := hq.ext Ext0.ext) ha hb hm hfit) fun v H6 h5 => ?_)
 obtain ⟨L', ⟨o, e4, ho, hfo, hwo, hxo⟩, hD⟩ := h5
 subst e4
 rw [← hml] at hD
 have hL' := drawn_eq hD
 rw [hL] at hL'
 subst hL'
 have hLl := hD.len
 dsimp only at ho
 haveI : ExtI _ H6 := ⟨hxo⟩
 haveI := ho.one
 haveI : RunsI H3 q2 C := hq2.sl
 repeat first | refine mI ?_ | refine mN ?_ | refine mv ?_ | refine ln (by simp only [↓nrmL, nrmK, qe, ↓reduceIte]; rfl) ?_ | refine nw ?_ | refine so rfl (rfl : _ = AVal.agg _) rfl rfl rfl (by simp only [↓nrmL, nrmZ, qe, ↓reduceIte, qz, qa, qn]; rfl) ?_ | refine nl hKF ?_ | refine sq ?_ | refine rg fun KF hKF => ?_ | refine Wp.block ?_ | dsimp only
 refine Wp.loopS (σ := Nat × AVal) [13, 15, 43, 44, 45, 46, 47, 48, 49, 50, 51, 52, 53, 54, 55, 56, 57, 58, 59, 60, 61, 62, 63] (fun s => [(43, .int .i64 (s.1 : Int)), (13, s.2)]) (fun K s H7 => s.1 ≤ C.length ∧ OwnS H7 s.2 3 ((C.take s.1).filter (selR L' a most)).length (cellsR ((C.take s.1).filter (selR L' a most))) 43 ∧ FreshS K s.2 ∧ Ext0 K H7) (fun s => C.length - s.1) (0, .nslice) rfl (fun _ => rfl) ⟨rfl, rfl, trivial⟩ ⟨Nat.zero_le _, ⟨Or.inl ⟨rfl, rfl, rfl⟩⟩, ⟨fun _ _ _ _ _ e => by cases e⟩, inferInstance⟩ (by unfold fuel0 at hn; dsimp only; omega) ?_
 rintro ⟨j, op⟩ g2 H7 ⟨hj, hop, hopf, ⟨hx7⟩⟩
 dsimp only at hj hop hopf
 haveI : ExtI _ H7 := ⟨hx7⟩
 haveI := hop.sl
 haveI := hop.sl.one
 simp only [↓nrmL, nrmZ, qe, ↓reduceIte, qz, qa, qn]
 cases hcj : decide ((j : Int) < (C.length : Int))
 ·have hjl : j = C.length := by have := of_decide_eq_false hcj; omega
  subst hjl
  rw [List.take_length] at hop
  repeat first | refine mI ?_ | refine mv ?_ | refine bn rfl rfl rfl (by simp only [hcj]; rfl) ?_ | refine nl hKF ?_ | refine sq ?_ | refine rg fun KF hKF => ?_ | refine cf rfl ?_ | refine rt ?_ | refine xi ?_ | dsimp only
  refine rz trivial ?_
  exact ⟨op, rfl, hop, hopf.weak, Ext0.ext⟩
 have hjl : j < C.length := by have := of_decide_eq_true hcj; omega
 have hwj := wa1 (a := j) (by omega)
 have hmem : C[j] ∈ allR (colO ⟨a, b, l⟩) b a := by rw [hC]; exact List.getElem_mem hjl
 obtain ⟨x, s, hxa, hsb, hst, hr⟩ := mem_allR.1 hmem
 obtain ⟨k1, k2, k3, k4⟩ := endB_spec (p := colO ⟨a, b, l⟩ x) hsb (start_p hst).1
 obtain ⟨t, htd⟩ : ∃ t, endB (colO ⟨a, b, l⟩ x) b s = t := ⟨_, rfl⟩
 rw [htd] at k1 k2
 have hr2 : C[j] = ((x : Int), (s : Int), (t : Int)) := by rw [hr, runV, htd]
 have hcg := cellsR_get (l := C) (i := j) hjl
 have hget : C.getD j run0 = C[j] := by simp [hjl]
 rw [hget, hr2] at hcg
 have hsel : selR L' a most C[j] = (decide ((t : Int) - (s : Int) < most) && touchB L' a x s t) := by rw [hr2]; rfl
 have hsn := filter_snoc (f := selR L' a most) hjl
 have w1 : IntKind.i64.wrap ((t : Int) - (s : Int)) = (t : Int) - (s : Int) := w64 (by omega)
 have hfl : ((C.take j).filter (selR L' a most)).length ≤ j := Nat.le_trans (List.length_filter_le _ _) (by rw [List.length_take]; omega)
 repeat first | refine bn rfl rfl rfl (by simp only [hcj]; rfl) ?_ | (refine Fo.idx (by simp only [↓nrmL, nrmK, qe, ↓reduceIte]; rfl) rfl ?_ (by simp only [↓nrmL, nrmZ, qe, ↓reduceIte, qz, qa, qn, hcj]; rfl) ?_; (focus omega)) | refine nl hKF ?_ | refine sq ?_ | refine rg fun KF hKF => ?_ | refine ct rfl ?_ | refine sk ?_ | refine Wp.block ?_
 refine WpO.do (WpX.ldNP (p := q2) (j := j * 3) (m := 3) rfl (by decide) (by rw [cellsR_length]; omega) hcg ?_)
 cases hd : decide ((t : Int) - (s : Int) < most)
 ·have hs0 : selR L' a most C[j] = false := by rw [hsel, hd]; rfl
  rw [hs0] at hsn
  simp only [Bool.false_eq_true, if_false, List.append_nil] at hsn
  simp only [w1, hd]
  repeat first | refine ox ?_ | refine mI ?_ | refine mB ?_ | refine fd ?_ | refine Fo.ld rfl rfl ?_ | refine bn rfl rfl rfl (by simp only [w1, hd]; rfl) ?_ | refine b0 ?_ | refine fB ?_ | refine nw ?_ | refine so rfl (rfl : _ = AVal.agg _) rfl rfl rfl (by simp only [↓nrmL, nrmZ, qe, ↓reduceIte, qz, qa, qn, w1, hd]; rfl) ?_ | refine nl hKF ?_ | refine sq ?_ | refine rg fun KF hKF => ?_ | refine cf rfl ?_ | refine sk ?_ | dsimp only
  refine ⟨(j + 1, op), by dsimp only; omega, ⟨by simp only [↓nrmL, nrmZ, qe, ↓reduceIte, qz, qa, qn]; rw [hwj], rfl, trivial⟩, by dsimp only; omega, ?_, hopf, inferInstance⟩
  dsimp only
  rw [hsn]; infer_instance
 simp only [w1, hd]
 repeat first | refine oy ?_ | refine mI ?_ | refine mB ?_ | refine fd ?_ | refine Fo.ld rfl rfl ?_ | refine Fo.ldN rfl rfl (by simp only [↓nrmL, nrmZ, qe, ↓reduceIte, qz, qa, qn, w1, hd]; rfl) ?_ | refine bn rfl rfl rfl (by simp only [w1, hd]; rfl) ?_ | refine nw ?_ | refine so rfl (rfl : _ = AVal.agg _) rfl rfl rfl (by simp only [↓nrmL, nrmZ, qe, ↓reduceIte, qz, qa, qn, w1, hd]; rfl) ?_ | refine nl hKF ?_ | refine sq ?_ | refine rg fun KF hKF => ?_
 refine WpO.do (WpX.conD hn rfl rfl (by simp only [↓nrmL, nrmZ, qe, ↓reduceIte, qz, qa, qn, List.map] <;> rfl) (K_touches (a := a) (b := b) (x := x) (s := s) (t := t) (p := o) (L := L') ha hb hxa k2 hLl) fun v H8 h5 => ?_)
 obtain ⟨rfl, hx8⟩ := h5
 haveI : ExtI _ H8 := ⟨hx8⟩
 cases htt : touchB L' a x s t
 ·have hs0 : selR L' a most C[j] = false := by rw [hsel, hd, htt]; rfl
  rw [hs0] at hsn
  simp only [Bool.false_eq_true, if_false, List.append_nil] at hsn
  simp only [↓nrmL, nrmZ, qe, ↓reduceIte, qz, qa, qn, htt]
  refine tB ?_
  refine nl hKF ?_
  refine cf rfl ?_
  refine sk ?_
  refine rg fun KF hKF => ?_
  refine b0 ?_
  refine mI ?_
  refine nl hKF ?_
  dsimp only
  refine ⟨(j + 1, op), by dsimp only; omega, ⟨by simp only [↓nrmL, nrmZ, qe, ↓reduceIte, qz, qa, qn]; rw [hwj], rfl, trivial⟩, by dsimp only; omega, ?_, hopf, inferInstance⟩
  dsimp only
  rw [hsn]; infer_instance
 have hs1 : selR L' a most C[j] = true := by rw [hsel, hd, htt]; rfl
 rw [hs1, if_pos rfl, hr2] at hsn
 have hop8 : OwnS (H8.push (.row [.int .i64 (x : Int), .int .i64 (s : Int), .int .i64 (t : Int)] true (2 * 43))) op 3 ((C.take j).filter (selR L' a most)).length (cellsR ((C.take j).filter (selR L' a most))) 43 := inferInstance
 simp only [↓nrmL, nrmZ, qe, ↓reduceIte, qz, qa, qn, htt]
 refine tB ?_
 refine nl hKF ?_
 refine ct rfl ?_
 refine rg fun KF hKF => ?_
 refine mv ?_
 refine Fo.ldN rfl rfl (by simp only [↓nrmL, nrmZ, qe, ↓reduceIte, qz, qa, qn, htt]; rfl) ?_
 refine Fo.bslice rfl (by simp only [↓nrmL, nrmZ, qe, ↓reduceIte, qz, qa, qn, htt]; rfl) ?_
 refine WpO.do (WpX.growX (p := op) (q := .slice H8.n 0 1 (some 1) 3) (k := 1) (new := [.int .i64 (x : Int), .int .i64 (s : Int), .int .i64 (t : Int)]) rfl rfl hop8 (row_one3 (inferInstance : HasRow _ H8.n [.int .i64 (x : Int), .int .i64 (s : Int), .int .i64 (t : Int)] true (2 * 43))) (by decide) (by decide) (by decide) (by omega) rfl fun op' H9 ho2 hf2 hx2 => ?_)
 haveI := ho2.sl.one
 have hx78 := (inferInstance : Ext0 H7 H8).ext
 have hn9 := hx2.n
 simp only [AHeap.push] at hn9
 have hKn := hx7.n
 refine mv ?_
 refine nl hKF ?_
 refine rg fun KF hKF => ?_
 refine b0 ?_
 refine mI ?_
 refine nl hKF ?_
 dsimp only
 refine ⟨(j + 1, op'), by dsimp only; omega, ⟨by simp only [↓nrmL, nrmZ, qe, ↓reduceIte, qz, qa, qn]; rw [hwj], rfl, trivial⟩, by dsimp only; omega, ?_, ?_, ?_⟩
 ·dsimp only
  rw [hsn, cellsR_snoc, List.length_append]
  exact ho2
 ·exact ⟨fun r _ _ _ _ e => by have h1 := hf2.ge _ _ _ _ _ e; have h2 := hx78.n; simp only [AHeap.push, AHeap.set] at h1 h2 hKn ⊢; omega⟩
 ·refine ⟨by have h2 := hx78.n; omega, fun r hr => ?_⟩
  have h2 := hx78.n
  rw [hx2.get r (by simp only [AHeap.push]; omega) ⟨fun r' _ _ _ _ e => by have := hopf.ge _ _ _ _ _ e; omega⟩, push_get_lt (by omega), hx78.get r (by omega), hx7.get r hr]
end Go.Am

namespace Go.Am
open Go
def lenN (r : RunT) : Nat := (r.2.2 - r.2.1 + 1).toNat
def gapN (r s : RunT) : Nat := (s.2.1 - r.2.2 - 1).toNat
def bump (L : List Int) (j : Nat) : List Int := L.set j (L.getD j 0 + 1)
def darkL (C : List RunT) : Nat → List Int
  | 0 => List.replicate 641 0
  | i + 1 => bump (darkL C i) (lenN (C.getD i run0))
def nextB (C : List RunT) (i : Nat) : Bool := decide (0 < i) && ((C.getD (i - 1) run0).1 == (C.getD i run0).1)
def lightL (C : List RunT) : Nat → List Int
  | 0 => List.replicate 641 0
  | i + 1 => bif nextB C i then bump (lightL C i) (gapN (C.getD (i - 1) run0) (C.getD i run0)) else lightL C i
def mcTo (L : List Int) : Nat → Nat
  | 0 => 0
  | k + 1 => bif decide (L.getD k 0 > L.getD (mcTo L k) 0) then k else mcTo L k
theorem mcTo_lt (L : List Int) : ∀ k, k ≤ 641 → mcTo L k < 641
  | 0, _ => by unfold mcTo; omega
  | k + 1, h => by
    unfold mcTo
    cases decide (L.getD k 0 > L.getD (mcTo L k) 0)
    · exact mcTo_lt L k (by omega)
    · exact h
theorem mcTo_one (L : List Int) : mcTo L 1 = 0 := by
  unfold mcTo
  cases decide (L.getD 0 0 > L.getD (mcTo L 0) 0) <;> rfl
structure Bn (L : List Int) (i : Nat) : Prop where
  len : L.length = 641
  it : ∀ j, 0 ≤ L.getD j 0 ∧ L.getD j 0 ≤ (i : Int)
theorem Bn.zero : Bn (List.replicate 641 0) 0 := ⟨List.length_replicate, fun j => by
  rw [List.getD_eq_getElem?_getD, List.getElem?_replicate]
  split <;> simp⟩
theorem Bn.mono {L : List Int} {i : Nat} (h : Bn L i) : Bn L (i + 1) := ⟨h.len, fun j => by have := h.it j; omega⟩
theorem Bn.bump {L : List Int} {i j : Nat} (h : Bn L i) : Bn (bump L j) (i + 1) := ⟨by unfold Go.Am.bump; rw [List.length_set]; exact h.len, fun k => by
  unfold Go.Am.bump
  have hk := h.it k
  have hj := h.it j
  by_cases e : j = k
  · subst e
    by_cases hl : j < L.length
    · rw [List.getD_eq_getElem?_getD (l := L.set _ _), List.getElem?_set_self (by omega), Option.getD_some]
      omega
    · rw [List.set_eq_of_length_le (by omega)]; omega
  · rw [List.getD_eq_getElem?_getD (l := L.set _ _), List.getElem?_set_ne e, ← List.getD_eq_getElem?_getD]; omega⟩
theorem dark_bn (C : List RunT) : ∀ i, Bn (darkL C i) i
  | 0 => Bn.zero
  | i + 1 => (dark_bn C i).bump
theorem light_bn (C : List RunT) : ∀ i, Bn (lightL C i) i
  | 0 => Bn.zero
  | i + 1 => by
    unfold lightL
    cases nextB C i
    · exact (light_bn C i).mono
    · exact (light_bn C i).bump
theorem ints_getD {L : List Int} {j : Nat} (h : j < L.length) : (cellsI L)[j]? = some (.int .i64 (L.getD j 0)) := by
  unfold cellsI
  rw [List.getElem?_map, List.getElem?_eq_getElem h, List.getD_eq_getElem?_getD, List.getElem?_eq_getElem h]
  rfl
theorem run_facts {o : Nat → Nat → Bool} {len n i : Nat} {C : List RunT} (hC : allR o len n = C) (hi : i < C.length) : ∃ x s t : Nat, C.getD i run0 = ((x : Int), (s : Int), (t : Int)) ∧ C[i] = ((x : Int), (s : Int), (t : Int)) ∧ x < n ∧ s ≤ t ∧ t < len := by
  have hm : C[i] ∈ allR o len n := by rw [hC]; exact List.getElem_mem hi
  obtain ⟨m, f, t, q1, q2, q3, q4, q5, q6⟩ := okRun_facts (allR_ok hm)
  have e : C[i] = ((m : Int), (f : Int), (t : Int)) := by rw [← q1, ← q2, ← q3]
  exact ⟨m, f, t, by rw [← e]; simp [hi], e, q4, q5, q6⟩
theorem run_next {o : Nat → Nat → Bool} {len n i : Nat} {C : List RunT} (hC : allR o len n = C) (hi : i + 1 < C.length) {x s t x' s' t' : Nat} (e : C[i] = ((x : Int), (s : Int), (t : Int))) (e' : C[i + 1] = ((x' : Int), (s' : Int), (t' : Int))) (h : x = x') : t + 1 < s' := by
  have hp : C.Pairwise before := by rw [← hC]; exact allR_pair n
  have hb := List.pairwise_iff_getElem.1 hp i (i + 1) (by omega) hi (by omega)
  rw [e, e'] at hb
  unfold before at hb
  dsimp only at hb
  omega
section
variable {call : ACall} {fr : AFrame} {H : AHeap} {K : AVal → AHeap → Prop}
theorem exec_idxA {n r off j : Nat} {k : IntKind} {x i : ROpd} (hx : x.ev fr = .ptr r off) (hi : i.ev fr = .int k (j : Int)) (h : j < n) : (ROp.idxA n 1 x i).exec call fr H = some (.ptr r (off + j), H) := by
  simp only [ROp.exec, hx, hi, aIdxA, if_pos (show (0 : Int) ≤ (j : Int) ∧ (j : Int) < (n : Int) by omega), M.ofOption, M.pure, Int.toNat_natCast, Nat.mul_one]
theorem exec_indexA {n j : Nat} {k : IntKind} {x i : ROpd} {cs : List AVal} {v : AVal} (hx : x.ev fr = .agg cs) (hi : i.ev fr = .int k (j : Int)) (h : j < n) (hv : cs[j]? = some v) : (ROp.indexA n 1 false x i).exec call fr H = some (v, H) := by
  simp only [ROp.exec, hx, hi, aIndexA, if_pos (show (0 : Int) ≤ (j : Int) ∧ (j : Int) < (n : Int) by omega), M.ofOption, M.pure, Int.toNat_natCast, Nat.mul_one, hv, Bool.false_eq_true, if_false]
theorem exec_ldZ {a : ROpd} {r : Nat} {L : List Int} {w : Bool} {e : TypeId} (ha : a.ev fr = .ptr r 0) (hl : L.length = 641) (s : HasRow H r (cellsI L) w e) : (ROp.load (some 641) a).exec call fr H = some (.agg (cellsI L), H) := by
  haveI := row_ints s hl
  exact exec_ldNP (p := .slice r 0 641 (some 641) 1) (j := 0) ha (by decide) (by rw [cellsI_length, hl]; decide) (by rw [List.drop_zero, ← hl, ← cellsI_length L, List.take_length])
theorem WpX.st2 {a x : ROpd} {r r' j : Nat} {l l' : List Int} {b : Int} {e e' : TypeId} {H0 : AHeap} (hne : r ≠ r') (hx0 : Ext H0 H) (hr : H0.n ≤ r) (ha : a.ev fr = .ptr r j) (hx : x.ev fr = .int .i64 b) (hg : HasRow H r (cellsI l) true e) (hg' : HasRow H r' (cellsI l') true e') (hj : j < l.length) (h : ∀ H1, HasRow H1 r (cellsI (l.set j b)) true e → HasRow H1 r' (cellsI l') true e' → Ext H0 H1 → (∀ (q : Nat) (cs : List AVal) (w : Bool) (e0 : TypeId), q ≠ r → HasRow H q cs w e0 → HasRow H1 q cs w e0) → K aundef H1) : WpX (.store 1 a x) call fr H K :=
  WpX.stR ha hx hj (h _ ⟨hg.lt, set_get_eq⟩ ⟨hg'.lt, by rw [set_get_ne (fun hh => hne hh.symm)]; exact hg'.get⟩ (hx0.set hr _) fun q cs w e0 hq hr0 => ⟨hr0.lt, by rw [set_get_ne hq]; exact hr0.get⟩)
end
section
variable {call : ACall} {n ref : Nat} {its : List DItem} {H0 H : AHeap} {E : List (Nat × AHeap)} {Rd : List (Nat × (AHeap → Bool))} {fr : AFrame} {K : AFrame → AHeap → Prop} {b : Nat} {pre : Bool} {g : Option (Nat × Bool)}
theorem WpE.st2 {d : Option Nat} {a x : ROpd} {r r' j : Nat} {l l' : List Int} {c : Int} {e e' : TypeId} {H00 : AHeap} (hw : ROper.wanted fr ⟨d, .store 1 a x, g⟩ = true) (hne : r ≠ r') (hx0 : Ext H00 H) (hr : H00.n ≤ r) (ha : a.ev fr = .ptr r j) (hx : x.ev fr = .int .i64 c) (hg : HasRow H r (cellsI l) true e) (hg' : HasRow H r' (cellsI l') true e') (hj : j < l.length)
    (h : ∀ H1, HasRow H1 r (cellsI (l.set j c)) true e → HasRow H1 r' (cellsI l') true e' → Ext H00 H1 → AllR b H1 Rd ∧ WpE call (n + 1) ref its H0 ((n, H) :: E) Rd (put fr d aundef) H1 K) : WpE call n ref (⟨⟨d, .store 1 a x, g⟩, b, 2, pre⟩ :: its) H0 E Rd fr H K := by
  obtain ⟨v, H1, h1, rfl, h2, h3, h4⟩ := WpX.st2 (call := call) (K := fun v H1 => v = aundef ∧ HasRow H1 r (cellsI (l.set j c)) true e ∧ HasRow H1 r' (cellsI l') true e' ∧ Ext H00 H1) hne hx0 hr ha hx hg hg' hj fun H1 q1 q2 q3 _ => ⟨rfl, q1, q2, q3⟩
  obtain ⟨h5, h6⟩ := h H1 h2 h3 h4
  exact WpE.effect hw h1 h5 h6
end
class C641 (L : List Int) : Prop where
  len : L.length = 641
def gauS (g : Img) : Int × Int × Int := bif g.err == 0 then (let C := allR (colO g) g.h.toNat g.w.toNat; ((mcTo (darkL C C.length) 641 : Nat), (mcTo (lightL C C.length) 641 : Nat), 0)) else (0, 0, g.err)
end Go.Am


namespace Go.Am
open Go
open Nat renaming reduceEqDiff → qe, reduceAdd → qz
open Int renaming reduceBEq → qa, reduceBNe → qn
attribute [local irreducible] Wp WpO WpX WpE
instance K_most {H : AHeap} {L : List Int} [h6 : C641 L] : PureCon ext prog 35 [.agg (cellsI L)] H 1 (.int .i64 ((mcTo L 641 : Nat) : Int)) := ⟨by
 refine con_of (show prog 35 = some c35 from rfl) rfl rfl fun n hn => ?_
 have hL := h6.len
 repeat first | refine mI ?_ | refine bA ?_ | refine nl hKF ?_ | refine sq ?_ | refine rg fun KF hKF => ?_
 refine Fo.now rfl (exec_ldZ (L := L) rfl hL inferInstance) rfl ?_
 refine mI ?_
 refine nl hKF ?_
 refine Wp.block ?_
 dsimp only
 refine Wp.loopS [3, 4, 5, 7, 8, 9, 10, 11, 12, 13, 14, 15, 16, 17] (fun i : Nat => [(7, .int .i64 (i : Int)), (3, .int .i64 ((mcTo L i : Nat) : Int))]) (fun K i H2 => i ≤ 641 ∧ H2 = K) (fun i => 641 - i) 0 rfl (fun _ => rfl) ⟨rfl, rfl, trivial⟩ ⟨Nat.zero_le _, rfl⟩ (by unfold fuel0 at hn; omega) ?_
 rintro i g H2 ⟨hi, rfl⟩
 simp only [↓nrmL, nrmZ, qe, ↓reduceIte, qz, qa, qn]
 cases hc : decide ((i : Int) < 641)
 ·have hie : i = 641 := by have := of_decide_eq_false hc; omega
  subst hie
  repeat first | refine mI ?_ | refine bn rfl rfl rfl (by simp only [hc]; rfl) ?_ | refine nl hKF ?_ | refine sq ?_ | refine rg fun KF hKF => ?_ | refine cf rfl ?_ | refine rt ?_ | refine xi ?_ | dsimp only
  refine rz trivial ?_
  exact ⟨rfl, Ext0.ext⟩
 have hil : i < 641 := by have := of_decide_eq_true hc; omega
 have hwi := wa1 (a := i) (by omega)
 have hm := mcTo_lt L i hi
 repeat first | refine mI ?_ | refine bn rfl rfl rfl (by simp only [hc]; rfl) ?_ | refine nl hKF ?_ | refine sq ?_ | refine rg fun KF hKF => ?_ | refine ct rfl ?_ | refine sk ?_ | refine Wp.block ?_
 refine Fo.now rfl (exec_indexA (j := i) rfl rfl hil (ints_getD (by omega))) rfl ?_
 repeat first | refine mI ?_ | refine nl hKF ?_ | refine sq ?_ | refine rg fun KF hKF => ?_
 refine Fo.now rfl (exec_idxA (j := mcTo L i) rfl rfl hm) rfl ?_
 refine Fo.now rfl (exec_ld rfl (show (cellsI L)[0 + mcTo L i]? = some (.int .i64 (L.getD (mcTo L i) 0)) by rw [Nat.zero_add]; exact ints_getD (by omega))) rfl ?_
 cases hg : decide (L.getD i 0 > L.getD (mcTo L i) 0)
 ·have e : mcTo L (i + 1) = mcTo L i := by rw [mcTo, hg]; rfl
  simp only [↓nrmL, nrmZ, qe, ↓reduceIte, qz, qa, qn, hg, hwi]
  repeat first | refine mI ?_ | refine bn rfl rfl rfl (by simp only [hg, hwi]; rfl) ?_ | refine nl hKF ?_ | refine rg fun KF hKF => ?_ | refine cf rfl ?_ | refine sk ?_ | dsimp only
  exact ⟨i + 1, by omega, ⟨rfl, by simp only [↓nrmL, nrmZ, qe, ↓reduceIte, qz, qa, qn]; rw [e], trivial⟩, by omega, rfl⟩
 ·have e : mcTo L (i + 1) = i := by rw [mcTo, hg]; rfl
  simp only [↓nrmL, nrmZ, qe, ↓reduceIte, qz, qa, qn, hg, hwi]
  repeat first | refine mI ?_ | refine bn rfl rfl rfl (by simp only [hg, hwi]; rfl) ?_ | refine nl hKF ?_ | refine rg fun KF hKF => ?_ | refine ct rfl ?_ | dsimp only
  exact ⟨i + 1, by omega, ⟨rfl, by simp only [↓nrmL, nrmZ, qe, ↓reduceIte, qz, qa, qn]; rw [e], trivial⟩, by omega, rfl⟩⟩
end Go.Am


namespace Go.Am
open Go
open Nat renaming reduceEqDiff → qe, reduceAdd → qz
open Int renaming reduceBEq → qa, reduceBNe → qn
attribute [local irreducible] Wp WpO WpX WpE
def inR (r : RunT) (x y : Nat) : Bool := r.1 == (x : Int) && (decide (r.2.1 ≤ (y : Int)) && decide ((y : Int) ≤ r.2.2))
def cutL (l : List UInt8) (a n : Nat) (rs : List RunT) : List UInt8 := mixP (fun k => rs.any fun r => inR r (k % a) (k / a)) (fun _ => 0) (fun k => l.getD k 0) n
noncomputable def remS (g : Img) (sts : List (List (List Int))) (most : Int) : Img × Int :=
 bif (runsS g sts most).2 == 0 then (⟨g.w, g.h, cutL g.px g.w.toNat (g.w.toNat * g.h.toNat) (runsS g sts most).1⟩, 0) else (.zero, (runsS g sts most).2)
theorem runsS_mem {g : Img} {sts : List (List (List Int))} {most : Int} {r : RunT} (h : r ∈ (runsS g sts most).1) : r ∈ allR (colO g) g.h.toNat g.w.toNat := by
 unfold runsS at h
 cases h1 : (g.err == 0) with
 | false => rw [h1] at h; cases h
 | true =>
  cases h2 : sts.all (fitsB g.w.toNat g.h.toNat) with
  | false => rw [h1, h2] at h; cases h
  | true =>
   rw [h1, h2] at h
   exact (List.mem_filter.1 h).1
theorem runsS_len (g : Img) (sts : List (List (List Int))) (most : Int) (h : g.h.toNat ≤ 640) (hw : g.w.toNat ≤ 640) : (runsS g sts most).1.length ≤ 409600 := by
 unfold runsS
 cases h1 : (g.err == 0)
 ·simp
 cases h2 : sts.all (fitsB g.w.toNat g.h.toNat)
 ·simp
 ·have h3 := allR_len (colO g) g.h.toNat g.w.toNat
  have h4 := Nat.mul_le_mul hw h
  have h5 := List.length_filter_le (selR (drawL g.w.toNat g.h.toNat sts) g.w.toNat most) (allR (colO g) g.h.toNat g.w.toNat)
  simp only [cond_true]
  omega
theorem runsS_bad {g : Img} {sts : List (List (List Int))} {most : Int} (h : (g.err == 0) = false) : ((runsS g sts most).2 == 0) = false := by
 unfold runsS
 rw [h]
 exact h
def cutP (rs : List RunT) (a i x s y k : Nat) : Bool := ((rs.take i).any fun r => inR r (k % a) (k / a)) || (k % a == x && (decide (s ≤ k / a) && decide (k / a < y)))
theorem cutP_next {rs : List RunT} {a i x s y : Nat} (hx : x < a) (hs : s ≤ y) (k : Nat) : cutP rs a i x s (y + 1) k = true ↔ cutP rs a i x s y k = true ∨ k = y * a + x := by
 simp only [cutP, Bool.or_eq_true, Bool.and_eq_true, decide_eq_true_eq, beq_iff_eq]
 obtain ⟨e1, e2⟩ := rct_at (y := y) hx
 constructor
 ·rintro (h | ⟨h1, h2, h3⟩)
  ·exact Or.inl (Or.inl h)
  ·by_cases h4 : k / a < y
   ·exact Or.inl (Or.inr ⟨h1, h2, h4⟩)
   ·exact Or.inr (div_inj (a := a) (by rw [e1, h1]) (by rw [e2]; omega))
 ·rintro ((h | ⟨h1, h2, h3⟩) | h)
  ·exact Or.inl h
  ·exact Or.inr ⟨h1, h2, by omega⟩
  ·subst h; exact Or.inr ⟨e1, by rw [e2]; exact hs, by rw [e2]; omega⟩
theorem cutP_start (rs : List RunT) (a i x s k : Nat) : cutP rs a i x s s k = ((rs.take i).any fun r => inR r (k % a) (k / a)) := by
 unfold cutP
 have : (k % a == x && (decide (s ≤ k / a) && decide (k / a < s))) = false := by
  by_cases h : s ≤ k / a
  ·rw [decide_eq_false (p := k / a < s) (by omega)]; simp
  ·rw [decide_eq_false h]; simp
 rw [this, Bool.or_false]
theorem cutP_done {rs : List RunT} {a i x s t : Nat} (hi : i < rs.length) (hr : rs[i] = ((x : Int), (s : Int), (t : Int))) (k : Nat) : cutP rs a i x s (t + 1) k = ((rs.take (i + 1)).any fun r => inR r (k % a) (k / a)) := by
 unfold cutP
 rw [List.take_succ_eq_append_getElem hi, List.any_append, hr]
 simp only [List.any_cons, List.any_nil, Bool.or_false, inR]
 congr 1
 rw [Bool.eq_iff_iff]
 simp only [Bool.and_eq_true, decide_eq_true_eq, beq_iff_eq]
 omega
theorem K_Remove {w h most : Int} {m : Nat} {p q : AVal} {H : AHeap} {l : List UInt8} {cells : List AVal} {sts : List (List (List Int))} [hp : BytesI H p l] [hq : StavesI H q m cells sts] (hm : m ≤ 1000) : Con ext prog 10 10 [.agg [.int .i64 w, .int .i64 h, p], q, .int .i64 most] H fun v H' => InkRes H H' v (remS ⟨w, h, l⟩ sts most) := by
 refine con_of (show prog 10 = some c10 from rfl) rfl rfl fun n hn => ?_
 have hsl := hq.sl
 haveI := hsl.one
 haveI := hp.one
 obtain ⟨R, hR⟩ : ∃ R, remS ⟨w, h, l⟩ sts most = R := ⟨_, rfl⟩
 rw [hR]
 repeat first | refine mI ?_ | refine mv ?_ | refine Fo.ldN rfl rfl (by simp only [↓nrmL, nrmZ, qe, ↓reduceIte, qz, qa, qn]; rfl) ?_ | refine bA ?_ | refine nw ?_ | refine nl hKF ?_ | refine sq ?_ | refine rg fun KF hKF => ?_
 refine WpO.do (WpX.conD hn rfl rfl (by simp only [↓nrmL, nrmZ, qe, ↓reduceIte, qz, qa, qn, List.map] <;> rfl) (K_Runs (p := p) (q := q) (l := l) (sts := sts) (hq := hq.ext Ext0.ext) hm) fun v H3 h5 => ?_)
 obtain ⟨q2, e1, hq2, hfq2, hxq2⟩ := h5
 subst e1
 haveI : ExtI _ H3 := ⟨hxq2⟩
 haveI := hq2.sl.one
 cases h0 : ((runsS ⟨w, h, l⟩ sts most).2 == 0)
 ·have e1 : remS ⟨w, h, l⟩ sts most = (.zero, (runsS ⟨w, h, l⟩ sts most).2) := by simp only [remS, h0, cond_false]
  rw [e1] at hR
  subst hR
  repeat first | refine mI ?_ | refine mT ?_ | refine mv ?_ | refine bn rfl rfl rfl (by simp only [h0, bne]; rfl) ?_ | refine xt ?_ | (refine ob (cs' := ?_) ?hc ?_; case hc => rfl) | refine so rfl (rfl : _ = AVal.agg _) rfl rfl rfl (by simp only [↓nrmL, nrmZ, qe, ↓reduceIte, qz, qa, qn, h0, bne]; rfl) ?_ | refine nl hKF ?_ | refine sq ?_ | refine rg fun KF hKF => ?_ | refine ct rfl ?_ | refine rt ?_ | dsimp only
  refine rz trivial ?_
  exact ⟨_, rfl, newZero⟩
 have he0 : (Img.err ⟨w, h, l⟩ == 0) = true := by
  cases hh : (Img.err ⟨w, h, l⟩ == 0)
  ·have := runsS_bad (sts := sts) (most := most) hh
   rw [h0] at this; cases this
  ·rfl
 obtain ⟨a, b, rfl, rfl, ok⟩ := ok_of he0
 have ha := ok.wa
 have hb := ok.hb
 have hlen := ok.len
 have hab : a * b ≤ 640 * 640 := Nat.mul_le_mul ha hb
 obtain ⟨C, hC⟩ : ∃ C, (runsS ⟨a, b, l⟩ sts most).1 = C := ⟨_, rfl⟩
 have hCl : C.length ≤ 409600 := by rw [← hC]; exact runsS_len _ _ _ (by simpa using hb) (by simpa using ha)
 have hCm : ∀ r ∈ C, r ∈ allR (colO ⟨a, b, l⟩) b a := fun r hr => by rw [← hC] at hr; exact runsS_mem hr
 have e1 : remS ⟨a, b, l⟩ sts most = (⟨a, b, cutL l a (a * b) C⟩, 0) := by simp only [remS, h0, cond_true, Int.toNat_natCast, hC]
 rw [e1] at hR
 subst hR
 rw [hC] at hq2
 have hbne : ((0 : Int) != 0) = false := rfl
 have hz : (runsS ⟨a, b, l⟩ sts most).2 = 0 := by simpa using h0
 simp only [hz, hbne]
 repeat first | refine mI ?_ | refine mT ?_ | refine mv ?_ | refine Fo.ldN rfl rfl (by simp only [↓nrmL, nrmZ, qe, ↓reduceIte, qz, qa, qn, hz, hbne]; rfl) ?_ | refine bn rfl rfl rfl (by simp only [hz, hbne]; rfl) ?_ | refine xt ?_ | refine nl hKF ?_ | refine sq ?_ | refine rg fun KF hKF => ?_ | refine cf rfl ?_ | refine sk ?_
 refine WpO.do (WpX.conD hn rfl rfl (by simp only [↓nrmL, nrmZ, qe, ↓reduceIte, qz, qa, qn, List.map] <;> rfl) (K_stTwin (l := l) (by omega)) fun v H6 h5 => ?_)
 obtain ⟨o, e2, ho, hfo, hwo, hxo⟩ := h5
 subst e2
 dsimp only at ho
 haveI : ExtI _ H6 := ⟨hxo⟩
 haveI := ho.one
 haveI : RunsI H3 q2 C := hq2.sl
 refine nw ?_
 refine so rfl (rfl : _ = AVal.agg _) rfl rfl rfl (by simp only [↓nrmL, nrmZ, qe, ↓reduceIte, qz, qa, qn]; rfl) ?_
 refine nl hKF ?_
 refine sq ?_
 refine sq ?_
 refine rg fun KF hKF => ?_
 refine mv ?_
 refine ln (by simp only [↓nrmL, nrmK, qe, ↓reduceIte]; rfl) ?_
 refine mI ?_
 refine nl hKF ?_
 refine Wp.block ?_
 dsimp only
 refine Wp.loopS [12, 13, 29, 30, 31, 32, 33, 34, 35, 36, 37, 38, 39, 40, 41, 42, 43, 44, 45, 46, 47, 48, 49, 50, 51] (fun i : Nat => [(29, .int .i64 i)]) (fun K i H7 => i ≤ C.length ∧ BytesI H7 o (mixP (fun k => (C.take i).any fun r => inR r (k % a) (k / a)) (fun _ => 0) (fun k => l.getD k 0) (a * b)) ∧ WrS H7 o ∧ ExtP0 K H7 o) (fun i => C.length - i) 0 rfl (fun _ => rfl) ⟨rfl, trivial⟩ ⟨Nat.zero_le _, ?_, inferInstance, inferInstance⟩ (by unfold fuel0 at hn; omega) ?_
 ·have e0 : mixP (fun k => (C.take 0).any fun r => inR r (k % a) (k / a)) (fun _ => 0) (fun k => l.getD k 0) (a * b) = l := by
   apply List.ext_getElem
   ·simp [mixP, hlen]
   ·intro j h1 h2
    simp [mixP, List.getD_eq_getElem?_getD, List.getElem?_eq_getElem h2]
  rw [e0]; infer_instance
 rintro i g H7 ⟨hi, hb7, hw7, ⟨hx7⟩⟩
 haveI := hx7
 simp only [↓nrmL, nrmZ, qe, ↓reduceIte, qz, qa, qn]
 cases hc : decide ((i : Int) < (C.length : Int))
 ·have hil : i = C.length := by have := of_decide_eq_false hc; omega
  rw [hil, List.take_length] at hb7
  repeat first | refine mI ?_ | refine Fo.ldN rfl rfl (by simp only [↓nrmL, nrmZ, qe, ↓reduceIte, qz, qa, qn, hc]; rfl) ?_ | refine bn rfl rfl rfl (by simp only [hc]; rfl) ?_ | refine so rfl (rfl : _ = AVal.agg _) rfl rfl rfl (by simp only [↓nrmL, nrmZ, qe, ↓reduceIte, qz, qa, qn, hc]; rfl) ?_ | refine nl hKF ?_ | refine sq ?_ | refine rg fun KF hKF => ?_ | refine cf rfl ?_ | refine rt ?_ | refine xi ?_ | dsimp only
  refine rz trivial ?_
  exact ⟨_, rfl, o, rfl, (show BytesI _ o (cutL l a (a * b) C) from inferInstance), hfo.weak, inferInstance, Ext0.ext⟩
 have hil : i < C.length := by have := of_decide_eq_true hc; omega
 have hwi := wa1 (a := i) (by omega)
 obtain ⟨x, s, hxa, hsb, hst, hr⟩ := mem_allR.1 (hCm _ (List.getElem_mem hil))
 obtain ⟨k1, k2, k3, k4⟩ := endB_spec (p := colO ⟨a, b, l⟩ x) hsb (start_p hst).1
 obtain ⟨t, htd⟩ : ∃ t, endB (colO ⟨a, b, l⟩ x) b s = t := ⟨_, rfl⟩
 rw [htd] at k1 k2
 have hr2 : C[i] = ((x : Int), (s : Int), (t : Int)) := by rw [hr, runV, htd]
 have hcg := cellsR_get (l := C) (i := i) hil
 have hget : C.getD i run0 = C[i] := by simp [hil]
 rw [hget, hr2] at hcg
 repeat first | refine bn rfl rfl rfl (by simp only [hc]; rfl) ?_ | (refine Fo.idx (by simp only [↓nrmL, nrmK, qe, ↓reduceIte]; rfl) rfl ?_ (by simp only [↓nrmL, nrmZ, qe, ↓reduceIte, qz, qa, qn, hc]; rfl) ?_; (focus omega)) | refine nl hKF ?_ | refine sq ?_ | refine rg fun KF hKF => ?_ | refine ct rfl ?_ | refine sk ?_ | refine Wp.block ?_
 refine WpO.do (WpX.ldNP (p := q2) (j := i * 3) (m := 3) rfl (by decide) (by rw [cellsR_length]; omega) hcg ?_)
 refine nw ?_
 refine so rfl (rfl : _ = AVal.agg _) rfl rfl rfl (by simp only [↓nrmL, nrmZ, qe, ↓reduceIte, qz, qa, qn]; rfl) ?_
 refine nl hKF ?_
 refine sq ?_
 refine rg fun KF hKF => ?_
 refine fd ?_
 refine Fo.ld rfl rfl ?_
 refine mI ?_
 refine nl hKF ?_
 refine Wp.block ?_
 dsimp only
 refine Wp.loopS [13, 35, 36, 37, 38, 39, 40, 41, 42, 43, 44, 45, 46, 47, 48, 49, 50] (fun y : Nat => [(13, .int .i64 y)]) (fun K y H8 => s ≤ y ∧ y ≤ t + 1 ∧ BytesI H8 o (mixP (cutP C a i x s y) (fun _ => 0) (fun k => l.getD k 0) (a * b)) ∧ WrS H8 o ∧ ExtP0 K H8 o) (fun y => t + 1 - y) s rfl (fun _ => rfl) ⟨rfl, trivial⟩ ⟨Nat.le_refl _, by omega, by rw [show (cutP C a i x s s) = (fun k => (C.take i).any fun r => inR r (k % a) (k / a)) from funext (cutP_start C a i x s)]; infer_instance, inferInstance, inferInstance⟩ (by unfold fuel0 at hn; omega) ?_
 rintro y g2 H8 ⟨hy1, hy2, hb8, hw8, ⟨hx8⟩⟩
 haveI := hx8
 simp only [↓nrmL, nrmZ, qe, ↓reduceIte, qz, qa, qn]
 cases hcy : decide ((y : Int) ≤ (t : Int))
 ·have hyt : y = t + 1 := by have := of_decide_eq_false hcy; omega
  subst hyt
  rw [show (cutP C a i x s (t + 1)) = (fun k => (C.take (i + 1)).any fun r => inR r (k % a) (k / a)) from funext (cutP_done hil hr2)] at hb8
  repeat first | refine mI ?_ | refine fd ?_ | refine Fo.ld rfl rfl ?_ | refine bn rfl rfl rfl (by simp only [hcy]; rfl) ?_ | refine b0 ?_ | refine nl hKF ?_ | refine sq ?_ | refine rg fun KF hKF => ?_ | refine cf rfl ?_ | refine xi ?_ | dsimp only
  exact ⟨i + 1, by omega, ⟨by simp only [↓nrmL, nrmZ, qe, ↓reduceIte, qz, qa, qn]; rw [hwi], trivial⟩, by omega, inferInstance, inferInstance, inferInstance⟩
 have hyt : y ≤ t := by have := of_decide_eq_true hcy; omega
 have hlt := idx_lt hxa (show y < b by omega)
 have m1 : IntKind.i64.wrap ((y : Int) * (a : Int)) = ((y * a : Nat) : Int) := wm (by omega)
 have m2 : IntKind.i64.wrap (((y * a : Nat) : Int) + (x : Int)) = ((y * a + x : Nat) : Int) := wa (by omega)
 have hwy := wa1 (a := y) (by omega)
 have hml := mixP_length (cutP C a i x s y) (fun _ => 0) (fun k => l.getD k 0) (a * b)
 repeat first | refine mI ?_ | refine fd ?_ | refine Fo.ld rfl rfl ?_ | refine bn rfl rfl rfl (by simp only [hcy, m1, m2]; rfl) ?_ | (refine Fo.idx (by simp only [↓nrmL, nrmK, qe, ↓reduceIte]; rfl) rfl ?_ (by simp only [↓nrmL, nrmZ, qe, ↓reduceIte, qz, qa, qn, hcy, m1, m2]; rfl) ?_; (focus omega)) | refine nl hKF ?_ | refine sq ?_ | refine rg fun KF hKF => ?_ | refine ct rfl ?_ | refine sk ?_ | refine Wp.block ?_
 refine WpO.do' (WpX.stB (0 : UInt8) rfl rfl rfl (by rw [hml]; omega) fun H9 hb9 hw9 hx9 => ?_)
 haveI := hx9
 rw [show (0 : UInt8) = (fun _ : Nat => (0 : UInt8)) (y * a + x) from rfl, mixP_set (Q := cutP C a i x s (y + 1)) fun k _ => cutP_next hxa hy1 k] at hb9
 repeat first | refine mI ?_ | refine b0 ?_ | refine nl hKF ?_ | refine rg fun KF hKF => ?_ | dsimp only
 exact ⟨y + 1, by omega, ⟨by simp only [↓nrmL, nrmZ, qe, ↓reduceIte, qz, qa, qn]; rw [hwy], trivial⟩, by omega, by omega, hb9, hw9, inferInstance⟩
end Go.Am


namespace Go.Am
open Go
open Nat renaming reduceEqDiff → qe, reduceAdd → qz
open Int renaming reduceBEq → qa, reduceBNe → qn
attribute [local irreducible] Wp WpO WpX WpE
theorem K_refFromRows {w h : Int} {p : AVal} {H : AHeap} {l : List RunT} [hp : RunsI H p l] [hs : ShortR l] : Con ext prog 3 61 [.int .i64 w, .int .i64 h, p] H fun v H' => InkRes H H' v (rowsImg w h l) := by
 refine con_of (show prog 61 = some c61 from rfl) rfl rfl fun n hn => ?_
 haveI := hp.one
 have hsl := hs.le
 unfold rowsImg fromSpec
 cases hside : (sideB w && sideB h)
 ·skip
  simp only [hside]
  repeat first | refine mI ?_ | (refine Fo.pcall (v' := ?_) hn rfl (by simp only [↓nrmL, nrmZ, qe, ↓reduceIte, qz, qa, qn, hside, List.map]; rfl) rfl ?hv fun _ _ => ?_; case hv => (simp only [hside]; rfl)) | refine nw ?_ | (refine ob (cs' := ?_) ?hc ?_; case hc => rfl) | refine Fo.now rfl rfl (by simp only [↓nrmL, nrmZ, qe, ↓reduceIte, qz, qa, qn, hside]; rfl) ?_ | refine so rfl (rfl : _ = AVal.agg _) rfl rfl rfl (by simp only [↓nrmL, nrmZ, qe, ↓reduceIte, qz, qa, qn, hside]; rfl) ?_ | refine nl hKF ?_ | refine sq ?_ | refine rg fun KF hKF => ?_ | refine ct rfl ?_ | refine rt ?_ | dsimp only
  refine rz trivial ?_
  exact ⟨_, rfl, newZero⟩
 obtain ⟨a, b, rfl, rfl, ha, hb⟩ : ∃ a b : Nat, w = a ∧ h = b ∧ a ≤ 640 ∧ b ≤ 640 := by
  simp only [sideB, Bool.and_eq_true, decide_eq_true_eq] at hside
  exact ⟨w.toNat, h.toNat, by omega, by omega, by omega, by omega⟩
 have hm : a * b ≤ 640 * 640 := Nat.mul_le_mul ha hb
 simp only [Int.toNat_natCast, cond_true]
 repeat first | refine mI ?_ | (refine Fo.pcall (v' := ?_) hn rfl (by simp only [↓nrmL, nrmZ, qe, ↓reduceIte, qz, qa, qn, hside, List.map]; rfl) rfl ?hv fun _ _ => ?_; case hv => (simp only [hside]; rfl)) | refine nw ?_ | refine Fo.now rfl rfl (by simp only [↓nrmL, nrmZ, qe, ↓reduceIte, qz, qa, qn, hside]; rfl) ?_ | refine nl hKF ?_ | refine sq ?_ | refine rg fun KF hKF => ?_ | refine cf rfl ?_ | refine sk ?_
 refine WpO.do (WpX.conD hn rfl rfl (by simp only [↓nrmL, nrmZ, qe, ↓reduceIte, qz, qa, qn, List.map] <;> rfl) (K_refNew (w := a) (h := b) ha hb) fun v H1 h5 => ?_)
 obtain ⟨q, e2, hq, hf, hwq, hx⟩ := h5
 subst e2
 have hq : BytesI H1 q (List.replicate (a * b) 0) := hq
 haveI : ExtI _ H1 := ⟨hx⟩
 haveI := hq.one
 refine nw ?_
 refine so rfl (rfl : _ = AVal.agg _) rfl rfl rfl (by simp only [↓nrmL, nrmZ, qe, ↓reduceIte, qz, qa, qn]; rfl) ?_
 refine nl hKF ?_
 refine sq ?_
 refine sq ?_
 refine rg fun KF hKF => ?_
 refine mI ?_
 refine nl hKF ?_
 refine Wp.block ?_
 dsimp only
 refine Wp.loopS [7, 9, 10, 11, 12, 21, 22, 23, 24, 25, 26, 27, 28, 29, 30, 31, 32, 33, 34, 35, 36, 37, 38, 39, 40, 41, 42, 43, 44, 45, 46, 47, 48, 49, 50, 51, 52, 53, 54, 55, 56, 57, 58, 59, 60, 61, 62, 63, 64, 65, 66, 67, 68, 69, 70, 71, 72, 73, 74, 75, 76, 77, 78, 79, 80, 81, 82, 83, 84, 85, 86, 87, 88, 89, 90, 91, 92, 93, 94, 95, 96, 97, 98, 99, 100, 101, 102, 103, 104, 105, 106, 107, 108, 109, 110] (fun i : Nat => [(9, .int .i64 i)]) (fun H3 i H2 => i ≤ l.length ∧ properTo l (b : Nat) (a : Nat) i = true ∧ BytesI H2 q (fillP (pB l (fun k => k / a) (fun k => k % a) i) (fun _ => 1) (a * b)) ∧ WrS H2 q ∧ ExtP0 H3 H2 q) (fun i => l.length - i) 0 rfl (fun _ => rfl) ⟨rfl, trivial⟩ ⟨Nat.zero_le _, rfl, by rw [fillP_none (P := pB l (fun k => k / a) (fun k => k % a) 0) (fun k _ => by simp [pB])]; infer_instance, inferInstance, inferInstance⟩ (by unfold fuel0 at hn; omega) ?_
 rintro i g H2 ⟨hi, hpr, hb2, hw2, ⟨hx2⟩⟩
 simp only [↓nrmL, nrmZ, qe, ↓reduceIte, qz, qa, qn]
 cases hc : decide ((i : Int) < (l.length : Int))
 ·have hil : i = l.length := by have := of_decide_eq_false hc; omega
  have hpt : properB l (b : Nat) (a : Nat) = true := by unfold properB; rw [← hil]; exact hpr
  rw [hpt]
  repeat first | refine mI ?_ | refine mv ?_ | refine Fo.ldN rfl rfl (by simp only [↓nrmL, nrmZ, qe, ↓reduceIte, qz, qa, qn, hc]; rfl) ?_ | refine bn rfl rfl rfl (by simp only [hc]; rfl) ?_ | refine ln (by simp only [↓nrmL, nrmK, qe, ↓reduceIte]; rfl) ?_ | refine so rfl (rfl : _ = AVal.agg _) rfl rfl rfl (by simp only [↓nrmL, nrmZ, qe, ↓reduceIte, qz, qa, qn, hc]; rfl) ?_ | refine nl hKF ?_ | refine sq ?_ | refine rg fun KF hKF => ?_ | refine cf rfl ?_ | refine rt ?_ | refine xi ?_ | dsimp only
  refine rz trivial ?_
  refine ⟨_, rfl, q, rfl, (show BytesI _ q (paint l (fun k => k / a) (fun k => k % a) (a * b)) from ?_), hf.weak, inferInstance, Ext0.ext⟩
  have e : fillP (pB l (fun k => k / a) (fun k => k % a) i) (fun _ => 1) (a * b) = paint l (fun k => k / a) (fun k => k % a) (a * b) := by
   unfold fillP paint pB
   rw [hil, List.take_length]
  rw [← e]
  infer_instance
 have hil : i < l.length := by have := of_decide_eq_true hc; omega
 have hw1 := wa1 (a := i) (by omega)
 have hcg := cellsR_get (l := l) (i := i) hil
 generalize hre : l.getD i run0 = r at hcg
 cases g1 : decide (r.1 < 0)
 rotate_left
 ·have hno : okRun r (b : Nat) (a : Nat) = false := by
   cases ho : okRun r (b : Nat) (a : Nat)
   ·rfl
   ·obtain ⟨m, f, t, em, ef, et, hmb, hft, hta⟩ := okRun_facts ho
    have := of_decide_eq_true g1
    omega
  have hoa : okAtR l (b : Nat) (a : Nat) i = false := by unfold okAtR; rw [hre, hno]; rfl
  have hpf : properB l (b : Nat) (a : Nat) = false := properTo_no hoa _ hil
  rw [hpf]
  repeat first | refine mI ?_ | refine mv ?_ | refine bn rfl rfl rfl (by simp only [hc]; rfl) ?_ | refine ln (by simp only [↓nrmL, nrmK, qe, ↓reduceIte]; rfl) ?_ | (refine Fo.idx (by simp only [↓nrmL, nrmK, qe, ↓reduceIte]; rfl) rfl ?_ (by simp only [↓nrmL, nrmZ, qe, ↓reduceIte, qz, qa, qn, hc]; rfl) ?_; (focus omega)) | refine nl hKF ?_ | refine sq ?_ | refine rg fun KF hKF => ?_ | refine ct rfl ?_ | refine sk ?_ | refine Wp.block ?_
  refine WpO.do (WpX.ldNP (p := p) (j := i * 3) (m := 3) rfl (by decide) (by rw [cellsR_length]; omega) hcg ?_)
  repeat first | refine ox ?_ | refine mI ?_ | refine mB ?_ | refine fd ?_ | refine Fo.ld rfl rfl ?_ | refine bn rfl rfl rfl (by simp only [g1]; rfl) ?_ | refine tB ?_ | refine nw ?_ | (refine ob (cs' := ?_) ?hc ?_; case hc => rfl) | refine so rfl (rfl : _ = AVal.agg _) rfl rfl rfl (by simp only [↓nrmL, nrmZ, qe, ↓reduceIte, qz, qa, qn, g1]; rfl) ?_ | refine nl hKF ?_ | refine sq ?_ | refine rg fun KF hKF => ?_ | refine ct rfl ?_ | refine rt ?_ | dsimp only
  refine rz trivial ?_
  exact ⟨_, rfl, newZero⟩
 cases g2 : decide (r.1 ≥ (b : Int))
 rotate_left
 ·have hno : okRun r (b : Nat) (a : Nat) = false := by
   cases ho : okRun r (b : Nat) (a : Nat)
   ·rfl
   ·obtain ⟨m, f, t, em, ef, et, hmb, hft, hta⟩ := okRun_facts ho
    have := of_decide_eq_true g2
    omega
  have hoa : okAtR l (b : Nat) (a : Nat) i = false := by unfold okAtR; rw [hre, hno]; rfl
  have hpf : properB l (b : Nat) (a : Nat) = false := properTo_no hoa _ hil
  rw [hpf]
  repeat first | refine mI ?_ | refine mv ?_ | refine bn rfl rfl rfl (by simp only [hc]; rfl) ?_ | refine ln (by simp only [↓nrmL, nrmK, qe, ↓reduceIte]; rfl) ?_ | (refine Fo.idx (by simp only [↓nrmL, nrmK, qe, ↓reduceIte]; rfl) rfl ?_ (by simp only [↓nrmL, nrmZ, qe, ↓reduceIte, qz, qa, qn, hc]; rfl) ?_; (focus omega)) | refine nl hKF ?_ | refine sq ?_ | refine rg fun KF hKF => ?_ | refine ct rfl ?_ | refine sk ?_ | refine Wp.block ?_
  refine WpO.do (WpX.ldNP (p := p) (j := i * 3) (m := 3) rfl (by decide) (by rw [cellsR_length]; omega) hcg ?_)
  repeat first | refine oy ?_ | refine ox ?_ | refine mI ?_ | refine mB ?_ | refine fd ?_ | refine Fo.ld rfl rfl ?_ | refine bn rfl rfl rfl (by simp only [g1, g2]; rfl) ?_ | refine tB ?_ | refine fB ?_ | refine nw ?_ | (refine ob (cs' := ?_) ?hc ?_; case hc => rfl) | refine so rfl (rfl : _ = AVal.agg _) rfl rfl rfl (by simp only [↓nrmL, nrmZ, qe, ↓reduceIte, qz, qa, qn, g1, g2]; rfl) ?_ | refine nl hKF ?_ | refine sq ?_ | refine rg fun KF hKF => ?_ | refine ct rfl ?_ | refine rt ?_ | dsimp only
  refine rz trivial ?_
  exact ⟨_, rfl, newZero⟩
 cases g3 : decide (r.2.1 < 0)
 rotate_left
 ·have hno : okRun r (b : Nat) (a : Nat) = false := by
   cases ho : okRun r (b : Nat) (a : Nat)
   ·rfl
   ·obtain ⟨m, f, t, em, ef, et, hmb, hft, hta⟩ := okRun_facts ho
    have := of_decide_eq_true g3
    omega
  have hoa : okAtR l (b : Nat) (a : Nat) i = false := by unfold okAtR; rw [hre, hno]; rfl
  have hpf : properB l (b : Nat) (a : Nat) = false := properTo_no hoa _ hil
  rw [hpf]
  repeat first | refine mI ?_ | refine mv ?_ | refine bn rfl rfl rfl (by simp only [hc]; rfl) ?_ | refine ln (by simp only [↓nrmL, nrmK, qe, ↓reduceIte]; rfl) ?_ | (refine Fo.idx (by simp only [↓nrmL, nrmK, qe, ↓reduceIte]; rfl) rfl ?_ (by simp only [↓nrmL, nrmZ, qe, ↓reduceIte, qz, qa, qn, hc]; rfl) ?_; (focus omega)) | refine nl hKF ?_ | refine sq ?_ | refine rg fun KF hKF => ?_ | refine ct rfl ?_ | refine sk ?_ | refine Wp.block ?_
  refine WpO.do (WpX.ldNP (p := p) (j := i * 3) (m := 3) rfl (by decide) (by rw [cellsR_length]; omega) hcg ?_)
  repeat first | refine oy ?_ | refine ox ?_ | refine mI ?_ | refine mB ?_ | refine fd ?_ | refine Fo.ld rfl rfl ?_ | refine bn rfl rfl rfl (by simp only [g1, g2, g3]; rfl) ?_ | refine tB ?_ | refine fB ?_ | refine nw ?_ | (refine ob (cs' := ?_) ?hc ?_; case hc => rfl) | refine so rfl (rfl : _ = AVal.agg _) rfl rfl rfl (by simp only [↓nrmL, nrmZ, qe, ↓reduceIte, qz, qa, qn, g1, g2, g3]; rfl) ?_ | refine nl hKF ?_ | refine sq ?_ | refine rg fun KF hKF => ?_ | refine ct rfl ?_ | refine rt ?_ | dsimp only
  refine rz trivial ?_
  exact ⟨_, rfl, newZero⟩
 cases g4 : decide (r.2.1 ≥ (a : Int))
 rotate_left
 ·have hno : okRun r (b : Nat) (a : Nat) = false := by
   cases ho : okRun r (b : Nat) (a : Nat)
   ·rfl
   ·obtain ⟨m, f, t, em, ef, et, hmb, hft, hta⟩ := okRun_facts ho
    have := of_decide_eq_true g4
    omega
  have hoa : okAtR l (b : Nat) (a : Nat) i = false := by unfold okAtR; rw [hre, hno]; rfl
  have hpf : properB l (b : Nat) (a : Nat) = false := properTo_no hoa _ hil
  rw [hpf]
  repeat first | refine mI ?_ | refine mv ?_ | refine bn rfl rfl rfl (by simp only [hc]; rfl) ?_ | refine ln (by simp only [↓nrmL, nrmK, qe, ↓reduceIte]; rfl) ?_ | (refine Fo.idx (by simp only [↓nrmL, nrmK, qe, ↓reduceIte]; rfl) rfl ?_ (by simp only [↓nrmL, nrmZ, qe, ↓reduceIte, qz, qa, qn, hc]; rfl) ?_; (focus omega)) | refine nl hKF ?_ | refine sq ?_ | refine rg fun KF hKF => ?_ | refine ct rfl ?_ | refine sk ?_ | refine Wp.block ?_
  refine WpO.do (WpX.ldNP (p := p) (j := i * 3) (m := 3) rfl (by decide) (by rw [cellsR_length]; omega) hcg ?_)
  repeat first | refine oy ?_ | refine ox ?_ | refine mI ?_ | refine mB ?_ | refine fd ?_ | refine Fo.ld rfl rfl ?_ | refine bn rfl rfl rfl (by simp only [g1, g2, g3, g4]; rfl) ?_ | refine tB ?_ | refine fB ?_ | refine nw ?_ | (refine ob (cs' := ?_) ?hc ?_; case hc => rfl) | refine so rfl (rfl : _ = AVal.agg _) rfl rfl rfl (by simp only [↓nrmL, nrmZ, qe, ↓reduceIte, qz, qa, qn, g1, g2, g3, g4]; rfl) ?_ | refine nl hKF ?_ | refine sq ?_ | refine rg fun KF hKF => ?_ | refine ct rfl ?_ | refine rt ?_ | dsimp only
  refine rz trivial ?_
  exact ⟨_, rfl, newZero⟩
 cases g5 : decide (r.2.2 < 0)
 rotate_left
 ·have hno : okRun r (b : Nat) (a : Nat) = false := by
   cases ho : okRun r (b : Nat) (a : Nat)
   ·rfl
   ·obtain ⟨m, f, t, em, ef, et, hmb, hft, hta⟩ := okRun_facts ho
    have := of_decide_eq_true g5
    omega
  have hoa : okAtR l (b : Nat) (a : Nat) i = false := by unfold okAtR; rw [hre, hno]; rfl
  have hpf : properB l (b : Nat) (a : Nat) = false := properTo_no hoa _ hil
  rw [hpf]
  repeat first | refine mI ?_ | refine mv ?_ | refine bn rfl rfl rfl (by simp only [hc]; rfl) ?_ | refine ln (by simp only [↓nrmL, nrmK, qe, ↓reduceIte]; rfl) ?_ | (refine Fo.idx (by simp only [↓nrmL, nrmK, qe, ↓reduceIte]; rfl) rfl ?_ (by simp only [↓nrmL, nrmZ, qe, ↓reduceIte, qz, qa, qn, hc]; rfl) ?_; (focus omega)) | refine nl hKF ?_ | refine sq ?_ | refine rg fun KF hKF => ?_ | refine ct rfl ?_ | refine sk ?_ | refine Wp.block ?_
  refine WpO.do (WpX.ldNP (p := p) (j := i * 3) (m := 3) rfl (by decide) (by rw [cellsR_length]; omega) hcg ?_)
  repeat first | refine oy ?_ | refine ox ?_ | refine mI ?_ | refine mB ?_ | refine fd ?_ | refine Fo.ld rfl rfl ?_ | refine bn rfl rfl rfl (by simp only [g1, g2, g3, g4, g5]; rfl) ?_ | refine tB ?_ | refine fB ?_ | refine nw ?_ | (refine ob (cs' := ?_) ?hc ?_; case hc => rfl) | refine so rfl (rfl : _ = AVal.agg _) rfl rfl rfl (by simp only [↓nrmL, nrmZ, qe, ↓reduceIte, qz, qa, qn, g1, g2, g3, g4, g5]; rfl) ?_ | refine nl hKF ?_ | refine sq ?_ | refine rg fun KF hKF => ?_ | refine ct rfl ?_ | refine rt ?_ | dsimp only
  refine rz trivial ?_
  exact ⟨_, rfl, newZero⟩
 cases g6 : decide (r.2.2 ≥ (a : Int))
 rotate_left
 ·have hno : okRun r (b : Nat) (a : Nat) = false := by
   cases ho : okRun r (b : Nat) (a : Nat)
   ·rfl
   ·obtain ⟨m, f, t, em, ef, et, hmb, hft, hta⟩ := okRun_facts ho
    have := of_decide_eq_true g6
    omega
  have hoa : okAtR l (b : Nat) (a : Nat) i = false := by unfold okAtR; rw [hre, hno]; rfl
  have hpf : properB l (b : Nat) (a : Nat) = false := properTo_no hoa _ hil
  rw [hpf]
  repeat first | refine mI ?_ | refine mv ?_ | refine bn rfl rfl rfl (by simp only [hc]; rfl) ?_ | refine ln (by simp only [↓nrmL, nrmK, qe, ↓reduceIte]; rfl) ?_ | (refine Fo.idx (by simp only [↓nrmL, nrmK, qe, ↓reduceIte]; rfl) rfl ?_ (by simp only [↓nrmL, nrmZ, qe, ↓reduceIte, qz, qa, qn, hc]; rfl) ?_; (focus omega)) | refine nl hKF ?_ | refine sq ?_ | refine rg fun KF hKF => ?_ | refine ct rfl ?_ | refine sk ?_ | refine Wp.block ?_
  refine WpO.do (WpX.ldNP (p := p) (j := i * 3) (m := 3) rfl (by decide) (by rw [cellsR_length]; omega) hcg ?_)
  repeat first | refine oy ?_ | refine ox ?_ | refine mI ?_ | refine mB ?_ | refine fd ?_ | refine Fo.ld rfl rfl ?_ | refine bn rfl rfl rfl (by simp only [g1, g2, g3, g4, g5, g6]; rfl) ?_ | refine tB ?_ | refine fB ?_ | refine nw ?_ | (refine ob (cs' := ?_) ?hc ?_; case hc => rfl) | refine so rfl (rfl : _ = AVal.agg _) rfl rfl rfl (by simp only [↓nrmL, nrmZ, qe, ↓reduceIte, qz, qa, qn, g1, g2, g3, g4, g5, g6]; rfl) ?_ | refine nl hKF ?_ | refine sq ?_ | refine rg fun KF hKF => ?_ | refine ct rfl ?_ | refine rt ?_ | dsimp only
  refine rz trivial ?_
  exact ⟨_, rfl, newZero⟩
 cases g7 : decide (r.2.1 > r.2.2)
 rotate_left
 ·have hno : okRun r (b : Nat) (a : Nat) = false := by
   cases ho : okRun r (b : Nat) (a : Nat)
   ·rfl
   ·obtain ⟨m, f, t, em, ef, et, hmb, hft, hta⟩ := okRun_facts ho
    have := of_decide_eq_true g7
    omega
  have hoa : okAtR l (b : Nat) (a : Nat) i = false := by unfold okAtR; rw [hre, hno]; rfl
  have hpf : properB l (b : Nat) (a : Nat) = false := properTo_no hoa _ hil
  rw [hpf]
  repeat first | refine mI ?_ | refine mv ?_ | refine bn rfl rfl rfl (by simp only [hc]; rfl) ?_ | refine ln (by simp only [↓nrmL, nrmK, qe, ↓reduceIte]; rfl) ?_ | (refine Fo.idx (by simp only [↓nrmL, nrmK, qe, ↓reduceIte]; rfl) rfl ?_ (by simp only [↓nrmL, nrmZ, qe, ↓reduceIte, qz, qa, qn, hc]; rfl) ?_; (focus omega)) | refine nl hKF ?_ | refine sq ?_ | refine rg fun KF hKF => ?_ | refine ct rfl ?_ | refine sk ?_ | refine Wp.block ?_
  refine WpO.do (WpX.ldNP (p := p) (j := i * 3) (m := 3) rfl (by decide) (by rw [cellsR_length]; omega) hcg ?_)
  repeat first | refine oy ?_ | refine mI ?_ | refine mB ?_ | refine fd ?_ | refine Fo.ld rfl rfl ?_ | refine bn rfl rfl rfl (by simp only [g1, g2, g3, g4, g5, g6, g7]; rfl) ?_ | refine fB ?_ | refine nw ?_ | (refine ob (cs' := ?_) ?hc ?_; case hc => rfl) | refine so rfl (rfl : _ = AVal.agg _) rfl rfl rfl (by simp only [↓nrmL, nrmZ, qe, ↓reduceIte, qz, qa, qn, g1, g2, g3, g4, g5, g6, g7]; rfl) ?_ | refine nl hKF ?_ | refine sq ?_ | refine rg fun KF hKF => ?_ | refine ct rfl ?_ | refine rt ?_ | dsimp only
  refine rz trivial ?_
  exact ⟨_, rfl, newZero⟩
 have hok : okRun r (b : Nat) (a : Nat) = true := by
  have f1 := of_decide_eq_false g1; have f2 := of_decide_eq_false g2; have f3 := of_decide_eq_false g3; have f6 := of_decide_eq_false g6; have f7 := of_decide_eq_false g7
  unfold okRun
  simp only [Bool.and_eq_true, Bool.not_eq_true', decide_eq_false_iff_not]
  exact ⟨⟨⟨⟨f1, f2⟩, f3⟩, f7⟩, f6⟩
 by_cases hi0 : i = 0
 ·have e0 : decide (((i : Nat) : Int) > 0) = false := decide_eq_false (by omega)
  have hoa : okAtR l (b : Nat) (a : Nat) i = true := by unfold okAtR; rw [hre, hok, decide_eq_true hi0]; rfl
  repeat first | refine mI ?_ | refine mv ?_ | refine bn rfl rfl rfl (by simp only [hc]; rfl) ?_ | refine ln (by simp only [↓nrmL, nrmK, qe, ↓reduceIte]; rfl) ?_ | (refine Fo.idx (by simp only [↓nrmL, nrmK, qe, ↓reduceIte]; rfl) rfl ?_ (by simp only [↓nrmL, nrmZ, qe, ↓reduceIte, qz, qa, qn, hc]; rfl) ?_; (focus omega)) | refine nl hKF ?_ | refine sq ?_ | refine rg fun KF hKF => ?_ | refine ct rfl ?_ | refine sk ?_ | refine Wp.block ?_
  refine WpO.do (WpX.ldNP (p := p) (j := i * 3) (m := 3) rfl (by decide) (by rw [cellsR_length]; omega) hcg ?_)
  repeat first | refine oy ?_ | refine mI ?_ | refine mB ?_ | refine fd ?_ | refine Fo.ld rfl rfl ?_ | refine bn rfl rfl rfl (by simp only [g1, g2, g3, g4, g5, g6, g7, e0]; rfl) ?_ | refine fB ?_ | refine nw ?_ | refine so rfl (rfl : _ = AVal.agg _) rfl rfl rfl (by simp only [↓nrmL, nrmZ, qe, ↓reduceIte, qz, qa, qn, g1, g2, g3, g4, g5, g6, g7, e0]; rfl) ?_ | refine nl hKF ?_ | refine sq ?_ | refine rg fun KF hKF => ?_ | refine cf rfl ?_ | refine sk ?_ | refine Wp.block ?_ | dsimp only
  obtain ⟨m, f, t, em, ef, et, hmb, hft, hta⟩ := okRun_facts hok
  rw [← hre] at em ef et
  refine Wp.loopS [12, 100, 101, 102, 103, 104, 105, 106, 107, 108, 109, 110] (fun x : Nat => [(12, .int .i64 x)]) (fun H3 x H4 => f ≤ x ∧ x ≤ t + 1 ∧ BytesI H4 q (fillP (pP l (fun k => k / a) (fun k => k % a) i x) (fun _ => 1) (a * b)) ∧ WrS H4 q ∧ ExtP0 H3 H4 q) (fun x => t + 1 - x) f rfl (fun _ => rfl) ⟨by simp only [↓nrmL, nrmZ, qe, ↓reduceIte, qz, qa, qn]; rw [← hre, ef], trivial⟩ ⟨Nat.le_refl _, by omega, by rw [show fillP (pP l (fun k => k / a) (fun k => k % a) i f) (fun _ => 1) (a * b) = fillP (pB l (fun k => k / a) (fun k => k % a) i) (fun _ => 1) (a * b) from by unfold fillP; simp only [pP_start ef]]; infer_instance, inferInstance, inferInstance⟩ (by unfold fuel0 at hn; omega) ?_
  rintro x g2 H4 ⟨hfx, hxt, hb4, hw4, ⟨hx4⟩⟩
  have hw3 := wa1 (a := x) (by omega)
  have er1 : r.1 = (m : Int) := by rw [← hre, em]
  have er2 : r.2.2 = (t : Int) := by rw [← hre, et]
  simp only [↓nrmL, nrmZ, qe, ↓reduceIte, qz, qa, qn]
  cases hc2 : decide ((x : Int) ≤ (t : Int))
  ·have hxe : x = t + 1 := by have := of_decide_eq_false hc2; omega
   have e : fillP (pP l (fun k => k / a) (fun k => k % a) i x) (fun _ => 1) (a * b) = fillP (pB l (fun k => k / a) (fun k => k % a) (i + 1)) (fun _ => 1) (a * b) := by
    rw [hxe]; unfold fillP; simp only [pP_end hil et]
   rw [e] at hb4
   simp only [er2, hc2]
   repeat first | refine mI ?_ | refine fd ?_ | refine Fo.ld rfl rfl ?_ | refine bn rfl rfl rfl (by simp only [er2, hc2]; rfl) ?_ | refine b0 ?_ | refine nl hKF ?_ | refine sq ?_ | refine rg fun KF hKF => ?_ | refine cf rfl ?_ | refine xi ?_ | dsimp only
   refine ⟨i + 1, by omega, ⟨by simp only [↓nrmL, nrmZ, qe, ↓reduceIte, qz, qa, qn]; rw [hw1], trivial⟩, hil, by simp only [properTo, hpr, hoa]; rfl, inferInstance, inferInstance, inferInstance⟩
  ·have hxl : x ≤ t := by have := of_decide_eq_true hc2; omega
   have hlt := idx_lt (x := x) (y := m) (w := a) (h := b) (by omega) (by omega)
   have hfl := fillP_length (pP l (fun k => k / a) (fun k => k % a) i x) (fun _ => 1) (a * b)
   simp only [er1, er2] at hx4
   simp only [er1, er2, hc2]
   repeat first | refine mI ?_ | refine fd ?_ | refine Fo.ld rfl rfl ?_ | refine Fo.ldN rfl rfl (by simp only [↓nrmL, nrmZ, qe, ↓reduceIte, qz, qa, qn, er1, er2, hc2]; rfl) ?_ | refine bn rfl rfl rfl (by simp only [er1, er2, hc2]; rfl) ?_ | refine nl hKF ?_ | refine sq ?_ | refine rg fun KF hKF => ?_ | refine ct rfl ?_ | refine sk ?_ | refine Wp.block ?_
   refine WpO.do (WpX.conD hn rfl rfl (by simp only [↓nrmL, nrmZ, qe, ↓reduceIte, qz, qa, qn, List.map, er1] <;> rfl) (K_refSet (y := m) (x := x) (w := a) (p := q) (l := fillP (pP l (fun k => k / a) (fun k => k % a) i x) (fun _ => 1) (a * b)) (by rw [hfl]; exact hlt) (by rw [hfl]; omega)) fun v6 H6 h5 => ?_)
   obtain ⟨hb6, hw6, hx6⟩ := h5
   rw [fillP_set (Q := pP l (fun k => k / a) (fun k => k % a) i (x + 1)) (f := fun _ => 1) (fun k _ => pP_next em (by rw [ef]; omega) ((flp_iff (b := a) (x := m) (y := x) (by omega)).trans And.comm))] at hb6
   repeat first | refine mI ?_ | refine b0 ?_ | refine nl hKF ?_ | refine rg fun KF hKF => ?_ | dsimp only
   refine ⟨x + 1, by omega, ⟨by simp only [↓nrmL, nrmZ, qe, ↓reduceIte, qz, qa, qn]; rw [hw3], trivial⟩, by omega, by omega, hb6, hw6, inferInstance⟩
 have e0 : decide (((i : Nat) : Int) > 0) = true := decide_eq_true (by omega)
 have hwm : IntKind.i64.wrap ((i : Int) - 1) = ((i - 1 : Nat) : Int) := by rw [w64 (by omega)]; omega
 have hcg2 := cellsR_get (l := l) (i := i - 1) (by omega)
 generalize hrs : l.getD (i - 1) run0 = s at hcg2
 cases v1 : decide (s.1 > r.1)
 rotate_left
 ·have hap : apartB s r = false := by
   have := of_decide_eq_true v1
   unfold apartB
   rw [decide_eq_false (show ¬ r.1 > s.1 by omega), show (r.1 == s.1) = false by simp; omega]
   rfl
  have hoa : okAtR l (b : Nat) (a : Nat) i = false := by unfold okAtR; rw [hre, hrs, hap, decide_eq_false hi0]; simp
  have hpf : properB l (b : Nat) (a : Nat) = false := properTo_no hoa _ hil
  rw [hpf]
  repeat first | refine mI ?_ | refine mv ?_ | refine bn rfl rfl rfl (by simp only [hc]; rfl) ?_ | refine ln (by simp only [↓nrmL, nrmK, qe, ↓reduceIte]; rfl) ?_ | (refine Fo.idx (by simp only [↓nrmL, nrmK, qe, ↓reduceIte]; rfl) rfl ?_ (by simp only [↓nrmL, nrmZ, qe, ↓reduceIte, qz, qa, qn, hc]; rfl) ?_; (focus omega)) | refine nl hKF ?_ | refine sq ?_ | refine rg fun KF hKF => ?_ | refine ct rfl ?_ | refine sk ?_ | refine Wp.block ?_
  refine WpO.do (WpX.ldNP (p := p) (j := i * 3) (m := 3) rfl (by decide) (by rw [cellsR_length]; omega) hcg ?_)
  repeat first | refine oy ?_ | refine mI ?_ | refine mB ?_ | refine mv ?_ | refine fd ?_ | refine Fo.ld rfl rfl ?_ | refine bn rfl rfl rfl (by simp only [g1, g2, g3, g4, g5, g6, g7, e0, hwm]; rfl) ?_ | refine fB ?_ | refine nw ?_ | (refine Fo.idx (by simp only [↓nrmL, nrmK, qe, ↓reduceIte]; rfl) rfl ?_ (by simp only [↓nrmL, nrmZ, qe, ↓reduceIte, qz, qa, qn, g1, g2, g3, g4, g5, g6, g7, e0, hwm]; rfl) ?_; (focus omega)) | refine so rfl (rfl : _ = AVal.agg _) rfl rfl rfl (by simp only [↓nrmL, nrmZ, qe, ↓reduceIte, qz, qa, qn, g1, g2, g3, g4, g5, g6, g7, e0, hwm]; rfl) ?_ | refine nl hKF ?_ | refine sq ?_ | refine rg fun KF hKF => ?_ | refine ct rfl ?_ | refine cf rfl ?_ | refine sk ?_
  refine WpO.do (WpX.ldNP (p := p) (j := (i - 1) * 3) (m := 3) rfl (by decide) (by rw [cellsR_length]; omega) hcg2 ?_)
  simp only [↓nrmL, nrmZ, qe, ↓reduceIte, qz, qa, qn, v1]
  repeat first | refine ox ?_ | refine Fo.noU rfl ?_ | refine mI ?_ | refine mB ?_ | refine fd ?_ | refine Fo.ld rfl rfl ?_ | refine bn rfl rfl rfl (by simp only [v1]; rfl) ?_ | refine tB ?_ | refine nw ?_ | (refine ob (cs' := ?_) ?hc ?_; case hc => rfl) | refine so rfl (rfl : _ = AVal.agg _) rfl rfl rfl (by simp only [↓nrmL, nrmZ, qe, ↓reduceIte, qz, qa, qn, v1]; rfl) ?_ | refine nl hKF ?_ | refine sq ?_ | refine rg fun KF hKF => ?_ | refine ct rfl ?_ | refine rt ?_ | dsimp only
  refine rz trivial ?_
  exact ⟨_, rfl, newZero⟩
 cases v2 : (s.1 == r.1)
 ·have hap : apartB s r = true := by
   have h1 := of_decide_eq_false v1
   have h2 : ¬ s.1 = r.1 := by simpa using v2
   unfold apartB
   rw [decide_eq_true (show r.1 > s.1 by omega)]
   rfl
  have hoa : okAtR l (b : Nat) (a : Nat) i = true := by unfold okAtR; rw [hre, hrs, hok, hap]; simp
  repeat first | refine mI ?_ | refine mv ?_ | refine bn rfl rfl rfl (by simp only [hc]; rfl) ?_ | refine ln (by simp only [↓nrmL, nrmK, qe, ↓reduceIte]; rfl) ?_ | (refine Fo.idx (by simp only [↓nrmL, nrmK, qe, ↓reduceIte]; rfl) rfl ?_ (by simp only [↓nrmL, nrmZ, qe, ↓reduceIte, qz, qa, qn, hc]; rfl) ?_; (focus omega)) | refine nl hKF ?_ | refine sq ?_ | refine rg fun KF hKF => ?_ | refine ct rfl ?_ | refine sk ?_ | refine Wp.block ?_
  refine WpO.do (WpX.ldNP (p := p) (j := i * 3) (m := 3) rfl (by decide) (by rw [cellsR_length]; omega) hcg ?_)
  repeat first | refine oy ?_ | refine mI ?_ | refine mB ?_ | refine mv ?_ | refine fd ?_ | refine Fo.ld rfl rfl ?_ | refine bn rfl rfl rfl (by simp only [g1, g2, g3, g4, g5, g6, g7, e0, hwm]; rfl) ?_ | refine fB ?_ | refine nw ?_ | (refine Fo.idx (by simp only [↓nrmL, nrmK, qe, ↓reduceIte]; rfl) rfl ?_ (by simp only [↓nrmL, nrmZ, qe, ↓reduceIte, qz, qa, qn, g1, g2, g3, g4, g5, g6, g7, e0, hwm]; rfl) ?_; (focus omega)) | refine so rfl (rfl : _ = AVal.agg _) rfl rfl rfl (by simp only [↓nrmL, nrmZ, qe, ↓reduceIte, qz, qa, qn, g1, g2, g3, g4, g5, g6, g7, e0, hwm]; rfl) ?_ | refine nl hKF ?_ | refine sq ?_ | refine rg fun KF hKF => ?_ | refine ct rfl ?_ | refine cf rfl ?_ | refine sk ?_
  refine WpO.do (WpX.ldNP (p := p) (j := (i - 1) * 3) (m := 3) rfl (by decide) (by rw [cellsR_length]; omega) hcg2 ?_)
  simp only [↓nrmL, nrmZ, qe, ↓reduceIte, qz, qa, qn, v1, v2]
  repeat first | refine oy ?_ | refine ox ?_ | refine mI ?_ | refine mB ?_ | refine fd ?_ | refine Fo.ld rfl rfl ?_ | refine bn rfl rfl rfl (by simp only [v1, v2]; rfl) ?_ | refine fB ?_ | refine nw ?_ | refine so rfl (rfl : _ = AVal.agg _) rfl rfl rfl (by simp only [↓nrmL, nrmZ, qe, ↓reduceIte, qz, qa, qn, v1, v2]; rfl) ?_ | refine nl hKF ?_ | refine sq ?_ | refine rg fun KF hKF => ?_ | refine cf rfl ?_ | refine sk ?_ | refine Wp.block ?_ | dsimp only
  obtain ⟨m, f, t, em, ef, et, hmb, hft, hta⟩ := okRun_facts hok
  rw [← hre] at em ef et
  refine Wp.loopS [12, 100, 101, 102, 103, 104, 105, 106, 107, 108, 109, 110] (fun x : Nat => [(12, .int .i64 x)]) (fun H3 x H4 => f ≤ x ∧ x ≤ t + 1 ∧ BytesI H4 q (fillP (pP l (fun k => k / a) (fun k => k % a) i x) (fun _ => 1) (a * b)) ∧ WrS H4 q ∧ ExtP0 H3 H4 q) (fun x => t + 1 - x) f rfl (fun _ => rfl) ⟨by simp only [↓nrmL, nrmZ, qe, ↓reduceIte, qz, qa, qn]; rw [← hre, ef], trivial⟩ ⟨Nat.le_refl _, by omega, by rw [show fillP (pP l (fun k => k / a) (fun k => k % a) i f) (fun _ => 1) (a * b) = fillP (pB l (fun k => k / a) (fun k => k % a) i) (fun _ => 1) (a * b) from by unfold fillP; simp only [pP_start ef]]; infer_instance, inferInstance, inferInstance⟩ (by unfold fuel0 at hn; omega) ?_
  rintro x g2 H4 ⟨hfx, hxt, hb4, hw4, ⟨hx4⟩⟩
  have hw3 := wa1 (a := x) (by omega)
  have er1 : r.1 = (m : Int) := by rw [← hre, em]
  have er2 : r.2.2 = (t : Int) := by rw [← hre, et]
  simp only [↓nrmL, nrmZ, qe, ↓reduceIte, qz, qa, qn]
  cases hc2 : decide ((x : Int) ≤ (t : Int))
  ·have hxe : x = t + 1 := by have := of_decide_eq_false hc2; omega
   have e : fillP (pP l (fun k => k / a) (fun k => k % a) i x) (fun _ => 1) (a * b) = fillP (pB l (fun k => k / a) (fun k => k % a) (i + 1)) (fun _ => 1) (a * b) := by
    rw [hxe]; unfold fillP; simp only [pP_end hil et]
   rw [e] at hb4
   simp only [er2, hc2]
   repeat first | refine mI ?_ | refine fd ?_ | refine Fo.ld rfl rfl ?_ | refine bn rfl rfl rfl (by simp only [er2, hc2]; rfl) ?_ | refine b0 ?_ | refine nl hKF ?_ | refine sq ?_ | refine rg fun KF hKF => ?_ | refine cf rfl ?_ | refine xi ?_ | dsimp only
   refine ⟨i + 1, by omega, ⟨by simp only [↓nrmL, nrmZ, qe, ↓reduceIte, qz, qa, qn]; rw [hw1], trivial⟩, hil, by simp only [properTo, hpr, hoa]; rfl, inferInstance, inferInstance, inferInstance⟩
  ·have hxl : x ≤ t := by have := of_decide_eq_true hc2; omega
   have hlt := idx_lt (x := x) (y := m) (w := a) (h := b) (by omega) (by omega)
   have hfl := fillP_length (pP l (fun k => k / a) (fun k => k % a) i x) (fun _ => 1) (a * b)
   simp only [er1, er2] at hx4
   simp only [er1, er2, hc2]
   repeat first | refine mI ?_ | refine fd ?_ | refine Fo.ld rfl rfl ?_ | refine Fo.ldN rfl rfl (by simp only [↓nrmL, nrmZ, qe, ↓reduceIte, qz, qa, qn, er1, er2, hc2]; rfl) ?_ | refine bn rfl rfl rfl (by simp only [er1, er2, hc2]; rfl) ?_ | refine nl hKF ?_ | refine sq ?_ | refine rg fun KF hKF => ?_ | refine ct rfl ?_ | refine sk ?_ | refine Wp.block ?_
   refine WpO.do (WpX.conD hn rfl rfl (by simp only [↓nrmL, nrmZ, qe, ↓reduceIte, qz, qa, qn, List.map, er1] <;> rfl) (K_refSet (y := m) (x := x) (w := a) (p := q) (l := fillP (pP l (fun k => k / a) (fun k => k % a) i x) (fun _ => 1) (a * b)) (by rw [hfl]; exact hlt) (by rw [hfl]; omega)) fun v6 H6 h5 => ?_)
   obtain ⟨hb6, hw6, hx6⟩ := h5
   rw [fillP_set (Q := pP l (fun k => k / a) (fun k => k % a) i (x + 1)) (f := fun _ => 1) (fun k _ => pP_next em (by rw [ef]; omega) ((flp_iff (b := a) (x := m) (y := x) (by omega)).trans And.comm))] at hb6
   repeat first | refine mI ?_ | refine b0 ?_ | refine nl hKF ?_ | refine rg fun KF hKF => ?_ | dsimp only
   refine ⟨x + 1, by omega, ⟨by simp only [↓nrmL, nrmZ, qe, ↓reduceIte, qz, qa, qn]; rw [hw3], trivial⟩, by omega, by omega, hb6, hw6, inferInstance⟩
 have h2 : s.1 = r.1 := by simpa using v2
 cases v3 : decide (IntKind.i64.wrap (s.2.2 + 1) ≥ r.2.1)
 ·have hap : apartB s r = true := by
   have := of_decide_eq_false v3
   unfold apartB
   rw [show (r.1 == s.1) = true by simp [h2], decide_eq_true (show r.2.1 > IntKind.i64.wrap (s.2.2 + 1) by omega)]
   simp
  have hoa : okAtR l (b : Nat) (a : Nat) i = true := by unfold okAtR; rw [hre, hrs, hok, hap]; simp
  repeat first | refine mI ?_ | refine mv ?_ | refine bn rfl rfl rfl (by simp only [hc]; rfl) ?_ | refine ln (by simp only [↓nrmL, nrmK, qe, ↓reduceIte]; rfl) ?_ | (refine Fo.idx (by simp only [↓nrmL, nrmK, qe, ↓reduceIte]; rfl) rfl ?_ (by simp only [↓nrmL, nrmZ, qe, ↓reduceIte, qz, qa, qn, hc]; rfl) ?_; (focus omega)) | refine nl hKF ?_ | refine sq ?_ | refine rg fun KF hKF => ?_ | refine ct rfl ?_ | refine sk ?_ | refine Wp.block ?_
  refine WpO.do (WpX.ldNP (p := p) (j := i * 3) (m := 3) rfl (by decide) (by rw [cellsR_length]; omega) hcg ?_)
  repeat first | refine oy ?_ | refine mI ?_ | refine mB ?_ | refine mv ?_ | refine fd ?_ | refine Fo.ld rfl rfl ?_ | refine bn rfl rfl rfl (by simp only [g1, g2, g3, g4, g5, g6, g7, e0, hwm]; rfl) ?_ | refine fB ?_ | refine nw ?_ | (refine Fo.idx (by simp only [↓nrmL, nrmK, qe, ↓reduceIte]; rfl) rfl ?_ (by simp only [↓nrmL, nrmZ, qe, ↓reduceIte, qz, qa, qn, g1, g2, g3, g4, g5, g6, g7, e0, hwm]; rfl) ?_; (focus omega)) | refine so rfl (rfl : _ = AVal.agg _) rfl rfl rfl (by simp only [↓nrmL, nrmZ, qe, ↓reduceIte, qz, qa, qn, g1, g2, g3, g4, g5, g6, g7, e0, hwm]; rfl) ?_ | refine nl hKF ?_ | refine sq ?_ | refine rg fun KF hKF => ?_ | refine ct rfl ?_ | refine cf rfl ?_ | refine sk ?_
  refine WpO.do (WpX.ldNP (p := p) (j := (i - 1) * 3) (m := 3) rfl (by decide) (by rw [cellsR_length]; omega) hcg2 ?_)
  simp only [↓nrmL, nrmZ, qe, ↓reduceIte, qz, qa, qn, v1, v2, v3]
  repeat first | refine oy ?_ | refine mI ?_ | refine mB ?_ | refine fd ?_ | refine Fo.ld rfl rfl ?_ | refine bn rfl rfl rfl (by simp only [v1, v2, v3]; rfl) ?_ | refine b0 ?_ | refine tB ?_ | refine fB ?_ | refine nw ?_ | refine so rfl (rfl : _ = AVal.agg _) rfl rfl rfl (by simp only [↓nrmL, nrmZ, qe, ↓reduceIte, qz, qa, qn, v1, v2, v3]; rfl) ?_ | refine nl hKF ?_ | refine sq ?_ | refine rg fun KF hKF => ?_ | refine cf rfl ?_ | refine sk ?_ | refine Wp.block ?_ | dsimp only
  obtain ⟨m, f, t, em, ef, et, hmb, hft, hta⟩ := okRun_facts hok
  rw [← hre] at em ef et
  refine Wp.loopS [12, 100, 101, 102, 103, 104, 105, 106, 107, 108, 109, 110] (fun x : Nat => [(12, .int .i64 x)]) (fun H3 x H4 => f ≤ x ∧ x ≤ t + 1 ∧ BytesI H4 q (fillP (pP l (fun k => k / a) (fun k => k % a) i x) (fun _ => 1) (a * b)) ∧ WrS H4 q ∧ ExtP0 H3 H4 q) (fun x => t + 1 - x) f rfl (fun _ => rfl) ⟨by simp only [↓nrmL, nrmZ, qe, ↓reduceIte, qz, qa, qn]; rw [← hre, ef], trivial⟩ ⟨Nat.le_refl _, by omega, by rw [show fillP (pP l (fun k => k / a) (fun k => k % a) i f) (fun _ => 1) (a * b) = fillP (pB l (fun k => k / a) (fun k => k % a) i) (fun _ => 1) (a * b) from by unfold fillP; simp only [pP_start ef]]; infer_instance, inferInstance, inferInstance⟩ (by unfold fuel0 at hn; omega) ?_
  rintro x g2 H4 ⟨hfx, hxt, hb4, hw4, ⟨hx4⟩⟩
  have hw3 := wa1 (a := x) (by omega)
  have er1 : r.1 = (m : Int) := by rw [← hre, em]
  have er2 : r.2.2 = (t : Int) := by rw [← hre, et]
  simp only [↓nrmL, nrmZ, qe, ↓reduceIte, qz, qa, qn]
  cases hc2 : decide ((x : Int) ≤ (t : Int))
  ·have hxe : x = t + 1 := by have := of_decide_eq_false hc2; omega
   have e : fillP (pP l (fun k => k / a) (fun k => k % a) i x) (fun _ => 1) (a * b) = fillP (pB l (fun k => k / a) (fun k => k % a) (i + 1)) (fun _ => 1) (a * b) := by
    rw [hxe]; unfold fillP; simp only [pP_end hil et]
   rw [e] at hb4
   simp only [er2, hc2]
   repeat first | refine mI ?_ | refine fd ?_ | refine Fo.ld rfl rfl ?_ | refine bn rfl rfl rfl (by simp only [er2, hc2]; rfl) ?_ | refine b0 ?_ | refine nl hKF ?_ | refine sq ?_ | refine rg fun KF hKF => ?_ | refine cf rfl ?_ | refine xi ?_ | dsimp only
   refine ⟨i + 1, by omega, ⟨by simp only [↓nrmL, nrmZ, qe, ↓reduceIte, qz, qa, qn]; rw [hw1], trivial⟩, hil, by simp only [properTo, hpr, hoa]; rfl, inferInstance, inferInstance, inferInstance⟩
  ·have hxl : x ≤ t := by have := of_decide_eq_true hc2; omega
   have hlt := idx_lt (x := x) (y := m) (w := a) (h := b) (by omega) (by omega)
   have hfl := fillP_length (pP l (fun k => k / a) (fun k => k % a) i x) (fun _ => 1) (a * b)
   simp only [er1, er2] at hx4
   simp only [er1, er2, hc2]
   repeat first | refine mI ?_ | refine fd ?_ | refine Fo.ld rfl rfl ?_ | refine Fo.ldN rfl rfl (by simp only [↓nrmL, nrmZ, qe, ↓reduceIte, qz, qa, qn, er1, er2, hc2]; rfl) ?_ | refine bn rfl rfl rfl (by simp only [er1, er2, hc2]; rfl) ?_ | refine nl hKF ?_ | refine sq ?_ | refine rg fun KF hKF => ?_ | refine ct rfl ?_ | refine sk ?_ | refine Wp.block ?_
   refine WpO.do (WpX.conD hn rfl rfl (by simp only [↓nrmL, nrmZ, qe, ↓reduceIte, qz, qa, qn, List.map, er1] <;> rfl) (K_refSet (y := m) (x := x) (w := a) (p := q) (l := fillP (pP l (fun k => k / a) (fun k => k % a) i x) (fun _ => 1) (a * b)) (by rw [hfl]; exact hlt) (by rw [hfl]; omega)) fun v6 H6 h5 => ?_)
   obtain ⟨hb6, hw6, hx6⟩ := h5
   rw [fillP_set (Q := pP l (fun k => k / a) (fun k => k % a) i (x + 1)) (f := fun _ => 1) (fun k _ => pP_next em (by rw [ef]; omega) ((flp_iff (b := a) (x := m) (y := x) (by omega)).trans And.comm))] at hb6
   repeat first | refine mI ?_ | refine b0 ?_ | refine nl hKF ?_ | refine rg fun KF hKF => ?_ | dsimp only
   refine ⟨x + 1, by omega, ⟨by simp only [↓nrmL, nrmZ, qe, ↓reduceIte, qz, qa, qn]; rw [hw3], trivial⟩, by omega, by omega, hb6, hw6, inferInstance⟩
 ·have hap : apartB s r = false := by
   have := of_decide_eq_true v3
   unfold apartB
   rw [decide_eq_false (show ¬ r.1 > s.1 by omega), decide_eq_false (show ¬ r.2.1 > IntKind.i64.wrap (s.2.2 + 1) by omega)]
   simp
  have hoa : okAtR l (b : Nat) (a : Nat) i = false := by unfold okAtR; rw [hre, hrs, hap, decide_eq_false hi0]; simp
  have hpf : properB l (b : Nat) (a : Nat) = false := properTo_no hoa _ hil
  rw [hpf]
  repeat first | refine mI ?_ | refine mv ?_ | refine bn rfl rfl rfl (by simp only [hc]; rfl) ?_ | refine ln (by simp only [↓nrmL, nrmK, qe, ↓reduceIte]; rfl) ?_ | (refine Fo.idx (by simp only [↓nrmL, nrmK, qe, ↓reduceIte]; rfl) rfl ?_ (by simp only [↓nrmL, nrmZ, qe, ↓reduceIte, qz, qa, qn, hc]; rfl) ?_; (focus omega)) | refine nl hKF ?_ | refine sq ?_ | refine rg fun KF hKF => ?_ | refine ct rfl ?_ | refine sk ?_ | refine Wp.block ?_
  refine WpO.do (WpX.ldNP (p := p) (j := i * 3) (m := 3) rfl (by decide) (by rw [cellsR_length]; omega) hcg ?_)
  repeat first | refine oy ?_ | refine mI ?_ | refine mB ?_ | refine mv ?_ | refine fd ?_ | refine Fo.ld rfl rfl ?_ | refine bn rfl rfl rfl (by simp only [g1, g2, g3, g4, g5, g6, g7, e0, hwm]; rfl) ?_ | refine fB ?_ | refine nw ?_ | (refine Fo.idx (by simp only [↓nrmL, nrmK, qe, ↓reduceIte]; rfl) rfl ?_ (by simp only [↓nrmL, nrmZ, qe, ↓reduceIte, qz, qa, qn, g1, g2, g3, g4, g5, g6, g7, e0, hwm]; rfl) ?_; (focus omega)) | refine so rfl (rfl : _ = AVal.agg _) rfl rfl rfl (by simp only [↓nrmL, nrmZ, qe, ↓reduceIte, qz, qa, qn, g1, g2, g3, g4, g5, g6, g7, e0, hwm]; rfl) ?_ | refine nl hKF ?_ | refine sq ?_ | refine rg fun KF hKF => ?_ | refine ct rfl ?_ | refine cf rfl ?_ | refine sk ?_
  refine WpO.do (WpX.ldNP (p := p) (j := (i - 1) * 3) (m := 3) rfl (by decide) (by rw [cellsR_length]; omega) hcg2 ?_)
  simp only [↓nrmL, nrmZ, qe, ↓reduceIte, qz, qa, qn, v1, v2, v3]
  repeat first | refine oy ?_ | refine mI ?_ | refine mB ?_ | refine fd ?_ | refine Fo.ld rfl rfl ?_ | refine bn rfl rfl rfl (by simp only [v1, v2, v3]; rfl) ?_ | refine b0 ?_ | refine tB ?_ | refine fB ?_ | refine nw ?_ | (refine ob (cs' := ?_) ?hc ?_; case hc => rfl) | refine so rfl (rfl : _ = AVal.agg _) rfl rfl rfl (by simp only [↓nrmL, nrmZ, qe, ↓reduceIte, qz, qa, qn, v1, v2, v3]; rfl) ?_ | refine nl hKF ?_ | refine sq ?_ | refine rg fun KF hKF => ?_ | refine ct rfl ?_ | refine rt ?_ | dsimp only
  refine rz trivial ?_
  exact ⟨_, rfl, newZero⟩
end Go.Am


namespace Go.Am
open Go
attribute [local irreducible] Wp WpO WpX WpE
theorem getD_mapA {α : Type} {d : α} {f : Nat → α} {n i : Nat} (h : i < n) : ((List.range n).map f).getD i d = f i := by simp [h]
theorem list_eqA {α : Type} {l m : List α} (d : α) (hl : l.length = m.length) (h : ∀ t, t < l.length → l.getD t d = m.getD t d) : l = m := by
 apply List.ext_getElem hl
 intro i h1 h2
 have := h i h1
 simpa [h1, h2] using this
def rc (l : List UInt8) (a j x : Nat) : Int := (((List.range x).filter fun u => l.getD (j * a + u) 0 == 1).length : Nat)
def cnt (l : List UInt8) (k : Nat) : Int := ((l.take k).count 1 : Nat)
end Go.Am


namespace Go.Am
open Go
attribute [local irreducible] Wp WpO WpX WpE
theorem made_mkI {fr : AFrame} {e : TypeId} {x y : ROpd} {k k' : IntKind} {a : Nat} (hx : x.ev fr = .int k a) (hy : y.ev fr = .int k' a) (h0 : a ≤ 2 ^ 40) : (ROp.makeSlice e [.int .i64 0] 8 x y).made fr = some (cellsI (List.replicate a 0), e, fun r => .slice r 0 a (some a) 1) := by
 rw [← mk_ints]; exact made_mk hx hy (by omega)
end Go.Am


namespace Go.Am
open Go
attribute [local irreducible] Wp WpO WpX WpE
end Go.Am


namespace Go.Am
open Go
open Nat renaming reduceEqDiff → qe, reduceAdd → qz
open Int renaming reduceBEq → qa, reduceBNe → qn
attribute [local irreducible] Wp WpO WpX WpE
theorem paint_ok {l : List RunT} {L C : Nat → Nat} {a b : Nat} (ha : a ≤ 640) (hb : b ≤ 640) : Ok a b (paint l L C (a * b)) := by
 refine ⟨ha, hb, by simp [paint], ?_⟩
 unfold pxOk paint
 rw [List.all_eq_true]
 intro c hc
 obtain ⟨k, _, rfl⟩ := List.mem_map.1 hc
 split <;> rfl
theorem flip_paint {l : List RunT} {a b : Nat} : flipL (paint l (fun k => k / b) (fun k => k % b) (b * a)) b a = paint l (fun k => k % a) (fun k => k / a) (a * b) := by
 refine list_eqA 0 (by simp [flipL, paint]) fun t ht => ?_
 have ht : t < a * b := by simpa [flipL] using ht
 have ha : 0 < a := by
  rcases Nat.eq_zero_or_pos a with h | h
  ·subst h; rw [Nat.zero_mul] at ht; omega
  ·exact h
 have h1 : t % a < a := Nat.mod_lt t ha
 have h2 : t / a < b := div_lt' ht
 have hk : (t % a) * b + t / a < b * a := idx_lt h2 h1
 obtain ⟨q1, q2⟩ := (flp_iff (b := b) (x := t % a) (y := t / a) (k := t % a * b + t / a) h2).1 rfl
 unfold flipL paint
 rw [getD_mapA (by omega), getD_mapA hk, getD_mapA ht]
 simp only [q1, q2]
theorem K_refFromColumns {w h : Int} {p : AVal} {H : AHeap} {l : List RunT} [hp : RunsI H p l] [hs : ShortR l] : Con ext prog 4 33 [.int .i64 w, .int .i64 h, p] H fun v H' => InkRes H H' v (colsImg w h l) := by
 refine con_of (show prog 33 = some c33 from rfl) rfl rfl fun n hn => ?_
 haveI := hp.one
 unfold colsImg fromSpec
 cases hside : (sideB w && sideB h)
 ·have hr : rowsImg h w l = (.zero, 2) := by
   unfold rowsImg fromSpec
   rw [Bool.and_comm, hside]; rfl
  repeat first | refine mI ?_ | refine mv ?_ | refine nw ?_ | refine nl hKF ?_ | refine sq ?_ | refine rg fun KF hKF => ?_
  refine WpO.do (WpX.conD hn rfl rfl (by simp only [↓nrmL, nrmZ, qe, ↓reduceIte, qz, qa, qn, List.map] <;> rfl) (K_refFromRows (w := h) (h := w) (l := l)) fun v H1 h5 => ?_)
  rw [hr] at h5
  obtain ⟨q0, e2, q, e3, hq, hf, hwq, hx⟩ := h5
  subst e2
  subst e3
  haveI : ExtI _ H1 := ⟨hx⟩
  haveI := hq.one
  repeat first | refine mI ?_ | refine mT ?_ | refine bn rfl rfl rfl (by simp only [↓nrmL, nrmZ, qe, ↓reduceIte, qz, qa, qn]; rfl) ?_ | refine xt ?_ | refine nw ?_ | (refine ob (cs' := ?_) ?hc ?_; case hc => rfl) | refine so rfl (rfl : _ = AVal.agg _) rfl rfl rfl (by simp only [↓nrmL, nrmZ, qe, ↓reduceIte, qz, qa, qn]; rfl) ?_ | refine nl hKF ?_ | refine sq ?_ | refine rg fun KF hKF => ?_ | refine ct rfl ?_ | refine rt ?_ | dsimp only
  refine rz trivial ?_
  exact ⟨_, rfl, newZero⟩
 obtain ⟨a, b, rfl, rfl, ha, hb⟩ : ∃ a b : Nat, w = a ∧ h = b ∧ a ≤ 640 ∧ b ≤ 640 := by
  simp only [sideB, Bool.and_eq_true, decide_eq_true_eq] at hside
  exact ⟨w.toNat, h.toNat, by omega, by omega, by omega, by omega⟩
 simp only [Int.toNat_natCast, cond_true]
 cases hpr : properB l (a : Int) (b : Int)
 ·have hr : rowsImg (b : Int) (a : Int) l = (.zero, 1) := by
   unfold rowsImg fromSpec
   rw [Bool.and_comm, hside, hpr]; rfl
  repeat first | refine mI ?_ | refine mv ?_ | refine nw ?_ | refine nl hKF ?_ | refine sq ?_ | refine rg fun KF hKF => ?_
  refine WpO.do (WpX.conD hn rfl rfl (by simp only [↓nrmL, nrmZ, qe, ↓reduceIte, qz, qa, qn, List.map] <;> rfl) (K_refFromRows (w := (b : Int)) (h := (a : Int)) (l := l)) fun v H1 h5 => ?_)
  rw [hr] at h5
  obtain ⟨q0, e2, q, e3, hq, hf, hwq, hx⟩ := h5
  subst e2
  subst e3
  haveI : ExtI _ H1 := ⟨hx⟩
  haveI := hq.one
  repeat first | refine mI ?_ | refine mT ?_ | refine bn rfl rfl rfl (by simp only [↓nrmL, nrmZ, qe, ↓reduceIte, qz, qa, qn]; rfl) ?_ | refine xt ?_ | refine nw ?_ | (refine ob (cs' := ?_) ?hc ?_; case hc => rfl) | refine so rfl (rfl : _ = AVal.agg _) rfl rfl rfl (by simp only [↓nrmL, nrmZ, qe, ↓reduceIte, qz, qa, qn]; rfl) ?_ | refine nl hKF ?_ | refine sq ?_ | refine rg fun KF hKF => ?_ | refine ct rfl ?_ | refine rt ?_ | dsimp only
  refine rz trivial ?_
  exact ⟨_, rfl, newZero⟩
 have hr : rowsImg (b : Int) (a : Int) l = (⟨(b : Int), (a : Int), paint l (fun k => k / b) (fun k => k % b) (b * a)⟩, 0) := by
  unfold rowsImg fromSpec
  rw [Bool.and_comm, hside, hpr]; rfl
 repeat first | refine mI ?_ | refine mv ?_ | refine nw ?_ | refine nl hKF ?_ | refine sq ?_ | refine rg fun KF hKF => ?_
 refine WpO.do (WpX.conD hn rfl rfl (by simp only [↓nrmL, nrmZ, qe, ↓reduceIte, qz, qa, qn, List.map] <;> rfl) (K_refFromRows (w := (b : Int)) (h := (a : Int)) (l := l)) fun v H1 h5 => ?_)
 rw [hr] at h5
 obtain ⟨q0, e2, q, e3, hq, hf, hwq, hx⟩ := h5
 subst e2
 subst e3
 haveI : ExtI _ H1 := ⟨hx⟩
 haveI := hq.one
 have hq : BytesI H1 q (paint l (fun k => k / b) (fun k => k % b) (b * a)) := hq
 repeat first | refine mI ?_ | refine mT ?_ | refine Fo.ldN rfl rfl (by simp only [↓nrmL, nrmZ, qe, ↓reduceIte, qz, qa, qn]; rfl) ?_ | refine bn rfl rfl rfl (by simp only [↓nrmL, nrmZ, qe, ↓reduceIte, qz, qa, qn]; rfl) ?_ | refine xt ?_ | refine nw ?_ | refine so rfl (rfl : _ = AVal.agg _) rfl rfl rfl (by simp only [↓nrmL, nrmZ, qe, ↓reduceIte, qz, qa, qn]; rfl) ?_ | refine nl hKF ?_ | refine sq ?_ | refine rg fun KF hKF => ?_ | refine cf rfl ?_ | refine sk ?_ | dsimp only
 refine WpO.do (WpX.conD hn rfl rfl (by simp only [↓nrmL, nrmZ, qe, ↓reduceIte, qz, qa, qn, List.map] <;> rfl) (K_refFlip (paint_ok hb ha)) fun v H2 h5 => ?_)
 obtain ⟨q2, e4, hq2, hf2, hw2, hx2⟩ := h5
 subst e4
 have hq2 : BytesI H2 q2 (flipL (paint l (fun k => k / b) (fun k => k % b) (b * a)) b a) := hq2
 rw [flip_paint] at hq2
 haveI : ExtI _ H2 := ⟨hx2⟩
 haveI := hq2.one
 refine so rfl (rfl : _ = AVal.agg _) rfl rfl rfl (by simp only [↓nrmL, nrmZ, qe, ↓reduceIte, qz, qa, qn]; rfl) ?_
 refine mI ?_
 refine nl hKF ?_
 refine rt ?_
 dsimp only
 refine rz trivial ?_
 exact ⟨_, rfl, q2, rfl, (show BytesI _ q2 (paint l (fun k => k % a) (fun k => k / a) (a * b)) from inferInstance), hf2.weak, inferInstance, Ext0.ext⟩
end Go.Am

namespace Go.Am
open Go
def lineAt (sts : List (List (List Int))) (t : Nat) : List Int := (sts.getD (t / 5) []).getD (t % 5) []
def meets (sts : List (List (List Int))) (x : Nat) (s e : Int) (t : Nat) : Bool := decide (s ≤ (lineAt sts t).getD x 0) && decide ((lineAt sts t).getD x 0 ≤ e)
def metB (sts : List (List (List Int))) (x : Nat) (s e : Int) (k : Nat) : Bool := (List.range k).any (meets sts x s e)
theorem metB_succ (sts : List (List (List Int))) (x : Nat) (s e : Int) (k : Nat) : metB sts x s e (k + 1) = (metB sts x s e k || meets sts x s e k) := by
  simp [metB, List.range_succ, List.any_append]
theorem path_val {a b : Nat} {l : List Int} (h : pathB a b l = true) {x : Nat} (hx : x < a) : 0 ≤ l.getD x 0 ∧ l.getD x 0 < (b : Int) := by
  obtain ⟨h1, h2⟩ := pathB_len h
  have hok : okTo b l l.length = true := by
    simp only [pathB, Bool.and_eq_true] at h
    exact h.2
  have := List.all_eq_true.1 hok x (List.mem_range.2 (by omega))
  simp only [okAt, Bool.and_eq_true, decide_eq_true_eq] at this
  exact ⟨this.1.1, this.1.2⟩
theorem drawL_drawn (a b : Nat) (sts : List (List (List Int))) : Drawn (drawL a b sts) (a * b) (Dr a sts sts.length 0 0) := by
  classical
  refine ⟨by simp [drawL], fun j hj => ?_⟩
  have : (drawL a b sts).getD j 0 = if Dr a sts sts.length 0 0 j then 1 else 0 := by
    unfold drawL
    rw [List.getD_eq_getElem?_getD, List.getElem?_eq_getElem (by simpa using hj), Option.getD_some]
    simp
  rw [this]
  by_cases h : Dr a sts sts.length 0 0 j
  · exact Or.inl ⟨by rw [if_pos h], h⟩
  · exact Or.inr ⟨by rw [if_neg h], h⟩
theorem met_touch {a b x s t : Nat} {sts : List (List (List Int))} (hf : ∀ j (h : j < sts.length), fitsB a b sts[j] = true) (hx : x < a) (ht : t < b) : metB sts x s t (5 * sts.length) = touchB (drawL a b sts) a x s t := by
  have hD := drawL_drawn a b sts
  rw [Bool.eq_iff_iff]
  constructor
  · intro h
    obtain ⟨k, hk, h1⟩ := List.any_eq_true.1 h
    have hk := List.mem_range.1 hk
    unfold meets at h1
    rw [Bool.and_eq_true, decide_eq_true_eq, decide_eq_true_eq] at h1
    have hi : k / 5 < sts.length := by omega
    obtain ⟨f1, f2⟩ := fitsB_iff (hf _ hi)
    have hm : k % 5 < sts[k / 5].length := by omega
    have e : lineAt sts k = sts[k / 5][k % 5] := by
      unfold lineAt
      rw [List.getD_eq_getElem?_getD (l := sts), List.getElem?_eq_getElem hi, Option.getD_some, getDL_at hm]
    rw [e] at h1
    obtain ⟨v1, v2⟩ := path_val (f2 _ hm) hx
    obtain ⟨y, hy⟩ : ∃ y : Nat, sts[k / 5][k % 5].getD x 0 = (y : Int) := ⟨(sts[k / 5][k % 5].getD x 0).toNat, by omega⟩
    refine touch_yes (y := y) (by omega) (by omega) ?_
    rcases hD.it _ (idx_lt hx (show y < b by omega)) with ⟨b1, _⟩ | ⟨_, b2⟩
    · rw [b1]; rfl
    · exfalso
      obtain ⟨e1, e2⟩ := rct_at (y := y) hx
      exact b2 ⟨k / 5, k % 5, hi, hm, Or.inl hi, by rw [e1, e2]; exact hy⟩
  · intro h
    unfold touchB at h
    obtain ⟨y, hy, h1⟩ := List.any_eq_true.1 h
    have hy := List.mem_range.1 hy
    rw [Bool.and_eq_true, decide_eq_true_eq] at h1
    rcases hD.it _ (idx_lt hx (show y < b by omega)) with ⟨_, b2⟩ | ⟨b1, _⟩
    · obtain ⟨i, k, h3, h4, _, h6⟩ := b2
      obtain ⟨e1, e2⟩ := rct_at (y := y) hx
      rw [e1, e2] at h6
      obtain ⟨f1, f2⟩ := fitsB_iff (hf i h3)
      refine List.any_eq_true.2 ⟨5 * i + k, List.mem_range.2 (by omega), ?_⟩
      have e : lineAt sts (5 * i + k) = sts[i][k] := by
        unfold lineAt
        rw [show (5 * i + k) / 5 = i by omega, show (5 * i + k) % 5 = k by omega, List.getD_eq_getElem?_getD (l := sts), List.getElem?_eq_getElem h3, Option.getD_some, getDL_at h4]
      unfold meets
      rw [e, h6, Bool.and_eq_true, decide_eq_true_eq, decide_eq_true_eq]
      omega
    · rw [b1] at h1
      exact absurd h1.2 (by decide)
theorem run_cells {C : List RunT} {j : Nat} {x s t : Int} (hj : j < C.length) (hr : C[j] = (x, s, t)) : (cellsR C)[j * 3]? = some (.int .i64 x) ∧ (cellsR C)[j * 3 + 1]? = some (.int .i64 s) ∧ (cellsR C)[j * 3 + 2]? = some (.int .i64 t) := by
  have hcg := cellsR_get (l := C) (i := j) hj
  have hget : C.getD j run0 = C[j] := by simp [hj]
  rw [hget, hr] at hcg
  have key : ∀ k, k < 3 → (cellsR C)[j * 3 + k]? = (((cellsR C).drop (j * 3)).take 3)[k]? := fun k hk => by
    rw [List.getElem?_take, if_pos hk, List.getElem?_drop]
  have k0 := key 0 (by decide)
  have k1 := key 1 (by decide)
  have k2 := key 2 (by decide)
  rw [hcg] at k0 k1 k2
  exact ⟨k0, k1, k2⟩
end Go.Am


namespace Go.Am
open Go
open Nat renaming reduceEqDiff → qe, reduceAdd → qz
open Int renaming reduceBEq → qa, reduceBNe → qn
attribute [local irreducible] Wp WpO WpX WpE
attribute [local irreducible] z641 darkL lightL
theorem z641_eq (C : List RunT) : z641 = cellsI (darkL C 0) ∧ z641 = cellsI (lightL C 0) := by
 unfold z641 cellsI darkL lightL
 rw [List.map_replicate]
 exact ⟨rfl, rfl⟩
theorem dark_succ {C : List RunT} {i x s t : Nat} (hr : C.getD i run0 = ((x : Int), (s : Int), (t : Int))) (hs : s ≤ t) : (darkL C i).set (t - s + 1) ((darkL C i).getD (t - s + 1) 0 + 1) = darkL C (i + 1) := by
 have e : lenN (C.getD i run0) = t - s + 1 := by rw [hr]; unfold lenN; dsimp only; omega
 conv => rhs; unfold darkL
 rw [e]; rfl
theorem light_same {C : List RunT} {i : Nat} (h : nextB C i = false) : lightL C (i + 1) = lightL C i := by
 conv => lhs; unfold lightL
 rw [h]; rfl
theorem light_succ {C : List RunT} {i x s t x' s' t' : Nat} (h : nextB C i = true) (hr : C.getD (i - 1) run0 = ((x : Int), (s : Int), (t : Int))) (hr' : C.getD i run0 = ((x' : Int), (s' : Int), (t' : Int))) (hs : t + 1 < s') : (lightL C i).set (s' - t - 1) ((lightL C i).getD (s' - t - 1) 0 + 1) = lightL C (i + 1) := by
 have e : gapN (C.getD (i - 1) run0) (C.getD i run0) = s' - t - 1 := by rw [hr, hr']; unfold gapN; dsimp only; omega
 conv => rhs; unfold lightL
 rw [h, e]; rfl
theorem K_Gauge {w h : Int} {p : AVal} {H : AHeap} {l : List UInt8} [hp : BytesI H p l] : Con ext prog 9 12 [.agg [.int .i64 w, .int .i64 h, p]] H fun v H' => v = .tuple [.int .i64 (gauS ⟨w, h, l⟩).1, .int .i64 (gauS ⟨w, h, l⟩).2.1, .int .i64 (gauS ⟨w, h, l⟩).2.2] ∧ Ext H H' := by
 refine con_of (show prog 12 = some c12 from rfl) rfl rfl fun n hn => ?_
 haveI := hp.one
 obtain ⟨R, hR⟩ : ∃ R, gauS ⟨w, h, l⟩ = R := ⟨_, rfl⟩
 rw [hR]
 repeat first | refine mI ?_ | refine Fo.ldN rfl rfl (by simp only [↓nrmL, nrmZ, qe, ↓reduceIte, qz, qa, qn]; rfl) ?_ | refine bA ?_ | refine nl hKF ?_ | refine sq ?_ | refine rg fun KF hKF => ?_
 refine WpO.do (WpX.conD hn rfl rfl (by simp only [↓nrmL, nrmZ, qe, ↓reduceIte, qz, qa, qn, List.map] <;> rfl) (K_Columns (l := l)) fun v H3 h5 => ?_)
 obtain ⟨q2, e1, hq2, hfq2, hxq2⟩ := h5
 subst e1
 haveI : ExtI _ H3 := ⟨hxq2⟩
 haveI := hq2.sl.one
 cases h0 : (Img.err ⟨w, h, l⟩ == 0)
 ·have e1 : gauS ⟨w, h, l⟩ = (0, 0, Img.err ⟨w, h, l⟩) := by simp only [gauS, h0, cond_false]
  have e2 : colsSpec ⟨w, h, l⟩ = ([], Img.err ⟨w, h, l⟩) := by simp only [colsSpec, h0, cond_false]
  rw [e1] at hR
  subst hR
  rw [e2] at hq2
  simp only [e2, bne, h0]
  repeat first | refine mI ?_ | refine mT ?_ | refine mv ?_ | refine bn rfl rfl rfl (by simp only [↓nrmL, nrmZ, qe, ↓reduceIte, qz, qa, qn, e2, bne, h0]; rfl) ?_ | refine xt ?_ | refine nl hKF ?_ | refine sq ?_ | refine rg fun KF hKF => ?_ | refine ct rfl ?_ | refine rt ?_ | dsimp only
  refine rz trivial ?_
  exact ⟨rfl, Ext0.ext⟩
 obtain ⟨a, b, rfl, rfl, ok⟩ := ok_of h0
 have ha := ok.wa
 have hb := ok.hb
 obtain ⟨C, hC⟩ : ∃ C, allR (colO ⟨a, b, l⟩) b a = C := ⟨_, rfl⟩
 have e2 : colsSpec ⟨a, b, l⟩ = (C, 0) := by simp only [colsSpec, h0, cond_true, Int.toNat_natCast, hC]
 have e1 : gauS ⟨a, b, l⟩ = (((mcTo (darkL C C.length) 641 : Nat) : Int), ((mcTo (lightL C C.length) 641 : Nat) : Int), 0) := by simp only [gauS, h0, cond_true, Int.toNat_natCast, hC]
 rw [e1] at hR
 subst hR
 rw [e2] at hq2
 have hClen : C.length ≤ 409600 := by
  have h7 := allR_len (colO ⟨a, b, l⟩) b a
  have h8 := Nat.mul_le_mul ha hb
  rw [← hC]; omega
 have hsl2 := hq2.sl
 haveI := hsl2
 have hbne : ((0 : Int) != 0) = false := rfl
 have hx03 : Ext H H3 := Ext0.ext
 simp only [e2, hbne]
 repeat first | refine mI ?_ | refine mT ?_ | refine mv ?_ | refine bn rfl rfl rfl (by simp only [↓nrmL, nrmZ, qe, ↓reduceIte, qz, qa, qn, e2, hbne]; rfl) ?_ | refine xt ?_ | (refine Fo.len (v := ?_) (by simp only [↓nrmL, nrmK, qe, ↓reduceIte]; rfl) ?hv ?_; case hv => (simp only [↓nrmL, nrmZ, qe, ↓reduceIte, qz, qa, qn, e2, hbne]; rfl)) | refine nw ?_ | refine nl hKF ?_ | refine sq ?_ | refine rg fun KF hKF => ?_ | refine cf rfl ?_ | refine sk ?_ | refine Wp.block ?_ | dsimp only
 have kd : HasRow ((H3.push (.row z641 true (2 * 68))).push (.row z641 true (2 * 68))) H3.n (cellsI (darkL C 0)) true (2 * 68) := by rw [← (z641_eq C).1]; infer_instance
 have kl : HasRow ((H3.push (.row z641 true (2 * 68))).push (.row z641 true (2 * 68))) (H3.n + 1) (cellsI (lightL C 0)) true (2 * 68) := by rw [← (z641_eq C).2]; exact ⟨Nat.lt_succ_self _, push_get_eq⟩
 refine Wp.loopS [8, 9, 20, 21, 22, 23, 24, 25, 26, 27, 28, 29, 30, 31, 32, 33, 34, 35, 36, 37, 38, 39, 40, 41, 42, 43, 44, 45, 46, 47, 48, 49, 50, 51, 52, 53, 54, 55, 56, 57, 58, 59, 60, 61, 62] (fun i : Nat => [(20, .int .i64 (i : Int))]) (fun _ i H5 => i ≤ C.length ∧ HasRow H5 H3.n (cellsI (darkL C i)) true (2 * 68) ∧ HasRow H5 (H3.n + 1) (cellsI (lightL C i)) true (2 * 68) ∧ Ext H3 H5) (fun i => C.length - i) 0 rfl (fun _ => rfl) ⟨rfl, trivial⟩ ⟨Nat.zero_le _, kd, kl, ((Ext.refl H3).push _).push _⟩ (by unfold fuel0 at hn; omega) ?_
 rintro i g H5 ⟨hi, rd, rl, hx5⟩
 haveI := rd
 haveI := rl
 haveI : ExtI H3 H5 := ⟨hx5⟩
 have bd := dark_bn C i
 have bl := light_bn C i
 haveI hsl5 : SliceAt H5 q2 3 C.length (cellsR C) := inferInstance
 simp only [↓nrmL, nrmZ, qe, ↓reduceIte, qz, qa, qn]
 cases hc : decide ((i : Int) < (C.length : Int))
 ·have hie : i = C.length := by have := of_decide_eq_false hc; omega
  subst hie
  repeat first | refine bn rfl rfl rfl (by simp only [↓nrmL, nrmZ, qe, ↓reduceIte, qz, qa, qn, hc]; rfl) ?_ | refine nl hKF ?_ | refine sq ?_ | refine rg fun KF hKF => ?_ | refine cf rfl ?_ | refine xi ?_
  haveI : C641 (darkL C C.length) := ⟨bd.len⟩
  haveI : C641 (lightL C C.length) := ⟨bl.len⟩
  refine Fr.dregion0 rfl fun KF hKF => ?_
  refine Fe.read rfl (exec_ldZ rfl bd.len inferInstance) rfl trivial ?_
  refine Fe.pcall (args := [.agg (cellsI (darkL C C.length))]) (dd := 1) (v := .int .i64 ((mcTo (darkL C C.length) 641 : Nat) : Int)) rfl hn rfl rfl rfl rfl fun H6 hx6 => ar ?_
  haveI := hx6
  refine Fe.read rfl (exec_ldZ (r := H3.n + 1) (L := lightL C C.length) rfl bl.len (inferInstance : HasRow H6 (H3.n + 1) (cellsI (lightL C C.length)) true (2 * 68))) rfl ⟨Or.inr (exec_ldZ (r := H3.n + 1) (L := lightL C C.length) rfl bl.len rl), trivial⟩ ?_
  refine Fe.pcall (args := [.agg (cellsI (lightL C C.length))]) (dd := 1) (v := .int .i64 ((mcTo (lightL C C.length) 641 : Nat) : Int)) rfl hn rfl rfl rfl rfl fun H7 hx7 => ar ?_
  haveI := hx7
  repeat first | refine Fe.pure rfl rfl (by simp only [↓nrmL, nrmZ, qe, ↓reduceIte, qz, qa, qn]; rfl) ?_ | refine WpE.nil (hKF _ _ ?_)
  refine rt ?_
  dsimp only
  refine rz trivial ?_
  exact ⟨rfl, Ext0.ext⟩
 have hil : i < C.length := by have := of_decide_eq_true hc; omega
 have hwi := wa1 (a := i) (by omega)
 obtain ⟨x, s, t, hgd, hr2, hxa, hst, htb⟩ := run_facts hC hil
 obtain ⟨r0, r1, r2⟩ := run_cells hil hr2
 have hcg := cellsR_get (l := C) (i := i) hil
 rw [hgd] at hcg
 have w1 : IntKind.i64.wrap ((t : Int) - (s : Int)) = (t : Int) - (s : Int) := w64 (by omega)
 have w2 : IntKind.i64.wrap ((t : Int) - (s : Int) + 1) = ((t - s + 1 : Nat) : Int) := by rw [w64 (by omega)]; omega
 have hv := ints_getD (L := darkL C i) (j := t - s + 1) (by have := bd.len; omega)
 have hbv := bd.it (t - s + 1)
 obtain ⟨V, hV⟩ : ∃ V, (darkL C i).getD (t - s + 1) 0 = V := ⟨_, rfl⟩
 have hds := dark_succ (i := i) hgd hst
 rw [hV] at hv hbv hds
 have w3 : IntKind.i64.wrap (V + 1) = V + 1 := w64 (by omega)
 repeat first | refine mI ?_ | refine bn rfl rfl rfl (by simp only [↓nrmL, nrmZ, qe, ↓reduceIte, qz, qa, qn, hc]; rfl) ?_ | (refine Fo.idx (by simp only [↓nrmL, nrmK, qe, ↓reduceIte]; rfl) rfl ?_ (by simp only [↓nrmL, nrmZ, qe, ↓reduceIte, qz, qa, qn, hc]; rfl) ?_; (focus omega)) | refine nl hKF ?_ | refine sq ?_ | refine rg fun KF hKF => ?_ | refine ct rfl ?_ | refine sk ?_ | refine Wp.block ?_
 refine WpO.do (WpX.ldNP (p := q2) (j := i * 3) (m := 3) rfl (by decide) (by rw [cellsR_length]; omega) hcg ?_)
 simp only [w1, w2]
 repeat first | refine mI ?_ | refine fd ?_ | refine Fo.ld rfl rfl ?_ | refine bn rfl rfl rfl (by simp only [↓nrmL, nrmZ, qe, ↓reduceIte, qz, qa, qn, w1, w2]; rfl) ?_ | refine nw ?_ | refine so rfl (rfl : _ = AVal.agg _) rfl rfl rfl (by simp only [↓nrmL, nrmZ, qe, ↓reduceIte, qz, qa, qn, w1, w2]; rfl) ?_ | refine nl hKF ?_ | refine sq ?_ | refine rg fun KF hKF => ?_
 refine Fo.now rfl (exec_idxA (j := t - s + 1) rfl rfl (by omega)) rfl ?_
 refine Fo.now rfl (exec_ld rfl (show (cellsI (darkL C i))[0 + (t - s + 1)]? = some (.int .i64 V) by rw [Nat.zero_add]; exact hv)) rfl ?_
 simp only [↓nrmL, nrmZ, qe, ↓reduceIte, qz, qa, qn, w3]
 refine bn rfl rfl rfl (by simp only [↓nrmL, nrmZ, qe, ↓reduceIte, qz, qa, qn, w3]; rfl) ?_
 refine Fo.now rfl (exec_idxA (j := t - s + 1) rfl rfl (by omega)) rfl ?_
 refine WpO.do' (WpX.st2 (H0 := H3) (r := H3.n) (r' := H3.n + 1) (j := 0 + (t - s + 1)) (l := darkL C i) (l' := lightL C i) (by omega) Ext0.ext (Nat.le_refl _) rfl rfl inferInstance inferInstance (by have := bd.len; omega) fun H6 kd6 kl6 hx6 hk6 => ?_)
 rw [Nat.zero_add, hds] at kd6
 haveI := kd6
 haveI := kl6
 haveI : ExtI H3 H6 := ⟨hx6⟩
 haveI kr6 : HasRow H6 H5.n [.int .i64 (x : Int), .int .i64 (s : Int), .int .i64 (t : Int)] true (2 * 43) := hk6 _ _ _ _ (by have := hx5.n; have := rl.lt; omega) inferInstance
 haveI hsl6 : SliceAt H6 q2 3 C.length (cellsR C) := inferInstance
 rcases Nat.eq_zero_or_pos i with h0i | h0i
 ·have hg0 : decide ((i : Int) > 0) = false := decide_eq_false (by omega)
  have hnx : nextB C i = false := by unfold nextB; rw [decide_eq_false (by omega)]; rfl
  simp only [↓nrmL, nrmZ, qe, ↓reduceIte, qz, qa, qn, hg0, hwi]
  repeat first | refine ox ?_ | refine mI ?_ | refine mB ?_ | refine bn rfl rfl rfl (by simp only [↓nrmL, nrmZ, qe, ↓reduceIte, qz, qa, qn, hg0, hwi]; rfl) ?_ | refine fB ?_ | refine nl hKF ?_ | refine sq ?_ | refine rg fun KF hKF => ?_ | refine Fr.quiet rfl rfl fun KF hKF => ?_ | refine cf rfl ?_ | refine sk ?_ | dsimp only
  refine ⟨i + 1, by omega, ⟨rfl, trivial⟩, by omega, inferInstance, by rw [light_same hnx]; infer_instance, hx6⟩
 have hg0 : decide ((i : Int) > 0) = true := decide_eq_true (by omega)
 have hi1 : i - 1 < C.length := by omega
 have w4 : IntKind.i64.wrap ((i : Int) - 1) = ((i - 1 : Nat) : Int) := by rw [w64 (by omega)]; omega
 obtain ⟨x', s', t', hgd', hr2', hxa', hst', htb'⟩ := run_facts hC hi1
 obtain ⟨r0', r1', r2'⟩ := run_cells hi1 hr2'
 have hne : nextB C i = ((x' : Int) == (x : Int)) := by unfold nextB; rw [hgd, hgd', decide_eq_true h0i]; rfl
 simp only [↓nrmL, nrmZ, qe, ↓reduceIte, qz, qa, qn, hg0, w4]
 repeat first | refine oy ?_ | refine mI ?_ | refine mB ?_ | refine mv ?_ | refine fd ?_ | refine bn rfl rfl rfl (by simp only [↓nrmL, nrmZ, qe, ↓reduceIte, qz, qa, qn, hg0, w4]; rfl) ?_ | (refine Fo.idx (by simp only [↓nrmL, nrmK, qe, ↓reduceIte]; rfl) rfl ?_ (by simp only [↓nrmL, nrmZ, qe, ↓reduceIte, qz, qa, qn, hg0, w4]; rfl) ?_; (focus omega)) | refine nl hKF ?_ | refine sq ?_ | refine Fr.quiet rfl rfl fun KF hKF => ?_
 refine Fo.now rfl (exec_ldP (p := q2) (j := (i - 1) * 3) rfl r0') rfl ?_
 cases he : ((x' : Int) == (x : Int))
 ·rw [he] at hne
  repeat first | refine oy ?_ | refine mI ?_ | refine fd ?_ | refine Fo.ld rfl rfl ?_ | refine bn rfl rfl rfl (by simp only [↓nrmL, nrmZ, qe, ↓reduceIte, qz, qa, qn, he, hwi]; rfl) ?_ | refine tB ?_ | refine nl hKF ?_ | refine rg fun KF hKF => ?_ | refine cf rfl ?_ | refine sk ?_ | dsimp only
  refine ⟨i + 1, by omega, ⟨rfl, trivial⟩, by omega, inferInstance, by rw [light_same hne]; infer_instance, hx6⟩
 rw [he] at hne
 have hxx : x' = x := by have := eq_of_beq he; omega
 have hnxt : t' + 1 < s := run_next (i := i - 1) hC (by omega) hr2' (by rw [← hr2]; congr 1; omega) hxx
 have hls := light_succ (i := i) hne hgd' hgd hnxt
 have hv' := ints_getD (L := lightL C i) (j := s - t' - 1) (by have := bl.len; omega)
 have hbv' := bl.it (s - t' - 1)
 obtain ⟨U, hU⟩ : ∃ U, (lightL C i).getD (s - t' - 1) 0 = U := ⟨_, rfl⟩
 rw [hU] at hv' hbv' hls
 have w5 : IntKind.i64.wrap ((s : Int) - (t' : Int)) = (s : Int) - (t' : Int) := w64 (by omega)
 have w6 : IntKind.i64.wrap ((s : Int) - (t' : Int) - 1) = ((s - t' - 1 : Nat) : Int) := by rw [w64 (by omega)]; omega
 have w7 : IntKind.i64.wrap (U + 1) = U + 1 := w64 (by omega)
 refine oy ?_
 refine fd ?_
 refine oy ?_
 refine Fo.ld rfl rfl ?_
 refine oy ?_
 refine bn rfl rfl rfl (by simp only [↓nrmL, nrmZ, qe, ↓reduceIte, qz, qa, qn, he]; rfl) ?_
 refine tB ?_
 refine nl hKF ?_
 refine ct rfl ?_
 dsimp only
 refine Fr.dregion0 rfl fun KF hKF => ?_
 simp only [↓nrmL, nrmZ, qe, ↓reduceIte, qz, qa, qn, w4]
 repeat first | refine Er rfl (exec_ld rfl rfl) rfl ?_ | refine Fe.pure rfl rfl (by simp only [↓nrmL, nrmZ, qe, ↓reduceIte, qz, qa, qn, w4]; rfl) ?_ | refine Fe.pure rfl rfl rfl ?_ | (refine Fe.pure rfl (exec_idxP (by (try simp only [↓nrmL, nrmZ, qe, ↓reduceIte, qz, qa, qn, w4]); rfl) rfl ?_) (by simp only [↓nrmL, nrmZ, qe, ↓reduceIte, qz, qa, qn, w4]; rfl) ?_; (focus omega))
 refine Fe.read rfl (exec_ldP (p := q2) (j := (i - 1) * 3 + 2) rfl r2') rfl trivial ?_
 simp only [↓nrmL, nrmZ, qe, ↓reduceIte, qz, qa, qn, w5, w6]
 refine Fe.pure rfl rfl (by simp only [↓nrmL, nrmZ, qe, ↓reduceIte, qz, qa, qn, w5, w6]; rfl) ?_
 refine Fe.pure rfl rfl (by simp only [↓nrmL, nrmZ, qe, ↓reduceIte, qz, qa, qn, w5, w6]; rfl) ?_
 refine Fe.pure rfl (exec_idxA (j := s - t' - 1) rfl rfl (by omega)) rfl ?_
 refine Fe.read rfl (exec_ld (r := H3.n + 1) rfl (show (cellsI (lightL C i))[0 + (s - t' - 1)]? = some (.int .i64 U) by rw [Nat.zero_add]; exact hv')) rfl trivial ?_
 simp only [↓nrmL, nrmZ, qe, ↓reduceIte, qz, qa, qn, w7]
 refine Fe.pure rfl rfl (by simp only [↓nrmL, nrmZ, qe, ↓reduceIte, qz, qa, qn, w7]; rfl) ?_
 refine Fe.pure rfl (exec_idxA (j := s - t' - 1) rfl rfl (by omega)) rfl ?_
 refine WpE.st2 (H00 := H3) (r := H3.n + 1) (r' := H3.n) (j := 0 + (s - t' - 1)) (l := lightL C i) (l' := darkL C (i + 1)) rfl (by omega) hx6 (by omega) rfl rfl inferInstance inferInstance (by have := bl.len; omega) fun H7 kl7 kd7 hx7 => ar ?_
 rw [Nat.zero_add, hls] at kl7
 refine WpE.nil (hKF _ _ ?_)
 simp only [hwi]
 refine rg fun KF hKF => ?_
 refine bn rfl rfl rfl (by simp only [↓nrmL, nrmZ, qe, ↓reduceIte, qz, qa, qn, hwi]; rfl) ?_
 refine mI ?_
 refine nl hKF ?_
 dsimp only
 refine ⟨i + 1, by omega, ⟨rfl, trivial⟩, by omega, kd7, kl7, hx7⟩
end Go.Am
