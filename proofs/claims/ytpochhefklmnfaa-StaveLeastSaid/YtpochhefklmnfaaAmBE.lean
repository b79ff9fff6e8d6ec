import Derived.Test.YtpochhefklmnfaaAmBD
import Derived.Lib.Strings
set_option linter.unusedSimpArgs false
set_option linter.unusedVariables false
set_option maxHeartbeats 16000000
set_option maxRecDepth 100000
set_option synthInstance.maxHeartbeats 4000000
set_option synthInstance.maxSize 1000000000
namespace Go.Am
open Go
def madeOk (op : ROp) (fr : AFrame) (ref : Nat) (H : AHeap) : Bool := match op.made fr with
  | some (cs, e, _) => ghostIs H ref cs e
  | none => false
def WpE (call : ACall) (n ref : Nat) (its : List DItem) (H0 : AHeap) (E : List (Nat × AHeap)) (Rd : List (Nat × (AHeap → Bool))) (fr : AFrame) (H : AHeap) (K : AFrame → AHeap → Prop) : Prop :=
  ∀ R0 E0 Rd0, R0.length = n → (∀ p ∈ E0, p ∈ E) → (∀ p ∈ Rd0, (p.1, DRec.okAt p.2) ∈ Rd) → DInv R0 H0 H E0 Rd0 → ∃ R1 fr' H', dtext call its ref fr H = some (R1, fr', H') ∧ dcheck (R0 ++ R1) H0 (R0 ++ R1) 0 = true ∧ K fr' H'
def AllE (b : Nat) (ok : AHeap → Prop) : List (Nat × AHeap) → Prop
  | [] => True
  | p :: l => (b.testBit p.1 = true ∨ ok p.2) ∧ AllE b ok l
def AllR (b : Nat) (H : AHeap) : List (Nat × (AHeap → Bool)) → Prop
  | [] => True
  | p :: l => (b.testBit p.1 = true ∨ p.2 H = true) ∧ AllR b H l
theorem AllE.imp {b : Nat} {ok ok' : AHeap → Prop} (f : ∀ H, ok H → ok' H) : ∀ {l : List (Nat × AHeap)}, AllE b ok l → AllE b ok' l
  | [], _ => trivial
  | _ :: _, h => ⟨h.1.imp id (f _), AllE.imp f h.2⟩
theorem AllE.get {b : Nat} {ok : AHeap → Prop} {l : List (Nat × AHeap)} (h : AllE b ok l) : ∀ p ∈ l, b.testBit p.1 = true ∨ ok p.2 := by
  induction l with
  | nil => simp
  | cons q l ih => intro p hp; rcases List.mem_cons.1 hp with rfl | hp; exact h.1; exact ih h.2 p hp
theorem AllR.get {b : Nat} {H : AHeap} {l : List (Nat × (AHeap → Bool))} (h : AllR b H l) : ∀ p ∈ l, b.testBit p.1 = true ∨ p.2 H = true := by
  induction l with
  | nil => simp
  | cons q l ih => intro p hp; rcases List.mem_cons.1 hp with rfl | hp; exact h.1; exact ih h.2 p hp
theorem madeOk_eq {r : DRec} (hc : Nat.beq r.cls 3 = true) : r.okAt = madeOk r.o.op r.fr r.ref := by
  funext H
  unfold DRec.okAt madeOk
  rw [hc]
  rfl
section
variable {call : ACall} {lf n ref : Nat} {its : List DItem} {H0 H H1 : AHeap} {E : List (Nat × AHeap)} {Rd : List (Nat × (AHeap → Bool))} {fr : AFrame} {K : AFrame → AHeap → Prop} {Q : RExit → AFrame → AHeap → Prop} {op : ROp} {v : AVal} {b : Nat} {pre : Bool} {g : Option (Nat × Bool)}
theorem WpE.nil (h : K fr H) : WpE call n ref [] H0 E Rd fr H K := fun R0 E0 Rd0 _ _ _ hI => ⟨[], fr, H, rfl, by rw [List.append_nil]; exact hI.done, h⟩
theorem WpE.next {it : DItem} {R0 : List DRec} {r : DRec} {E' : List (Nat × AHeap)} {Rd' : List (Nat × (AHeap → Bool))} {E0' : List (Nat × AHeap)} {Rd0' : List (Nat × DRec)} {fr1 : AFrame} (hn : R0.length = n) (he : ∀ p ∈ E0', p ∈ E') (hrd : ∀ p ∈ Rd0', (p.1, DRec.okAt p.2) ∈ Rd')
    (hI : DInv (R0 ++ [r]) H0 H1 E0' Rd0') (hd : ∀ R1 fr' H', dtext call its (nextRef it.cls ref) fr1 H1 = some (R1, fr', H') → dtext call (it :: its) ref fr H = some (r :: R1, fr', H')) (h : WpE call (n + 1) (nextRef it.cls ref) its H0 E' Rd' fr1 H1 K) :
    ∃ R1 fr' H', dtext call (it :: its) ref fr H = some (R1, fr', H') ∧ dcheck (R0 ++ R1) H0 (R0 ++ R1) 0 = true ∧ K fr' H' := by
  obtain ⟨R1, fr', H', h1, h2, h3⟩ := h (R0 ++ [r]) E0' Rd0' (by simp [hn]) he hrd hI
  exact ⟨r :: R1, fr', H', hd _ _ _ h1, by rw [List.append_assoc] at h2; exact h2, h3⟩
theorem WpE.skip {d : Option Nat} {cls : Nat} (hw : ROper.wanted fr ⟨d, op, g⟩ = false) (h : WpE call (n + 1) (nextRef cls ref) its H0 E Rd (put fr d aundef) H K) : WpE call n ref (⟨⟨d, op, g⟩, b, cls, pre⟩ :: its) H0 E Rd fr H K := fun R0 E0 Rd0 hn he hrd hI =>
  WpE.next (r := ⟨⟨d, op, g⟩, b, cls, fr, aundef, false, false, H, ref⟩) hn he hrd (hI.plain rfl rfl) (fun R1 fr' H' hd => by
    simp only [dtext, hw, hd]) h
theorem WpE.pure {d : Option Nat} (hw : ROper.wanted fr ⟨d, op, g⟩ = true) (hx : op.exec noCall fr H = some (v, H)) (h : WpE call (n + 1) ref its H0 E Rd (put fr d v) H K) : WpE call n ref (⟨⟨d, op, g⟩, b, 0, pre⟩ :: its) H0 E Rd fr H K := fun R0 E0 Rd0 hn he hrd hI =>
  WpE.next (r := ⟨⟨d, op, g⟩, b, 0, fr, v, true, false, H, ref⟩) hn he hrd (hI.plain rfl rfl) (fun R1 fr' H' hd => by
    simp only [dtext, hw, dstep, look_of hx rfl]
    simp only [Nat.beq, nextRef] at hd ⊢
    simp [hd]) h
theorem WpE.look {d : Option Nat} (hw : ROper.wanted fr ⟨d, op, g⟩ = true) (hx : op.look fr H = some v) (hE : AllE b (fun H2 => op.look fr H2 = some v) E) (h : WpE call (n + 1) ref its H0 E ((n, readOk op fr v) :: Rd) (put fr d v) H K) : WpE call n ref (⟨⟨d, op, g⟩, b, 1, pre⟩ :: its) H0 E Rd fr H K := fun R0 E0 Rd0 hn he hrd hI =>
  WpE.next (r := ⟨⟨d, op, g⟩, b, 1, fr, v, true, false, H, ref⟩) (Rd0' := Rd0 ++ [(R0.length, ⟨⟨d, op, g⟩, b, 1, fr, v, true, false, H, ref⟩)]) hn he (by
      intro p hp
      rcases List.mem_append.1 hp with hp | hp
      · exact List.mem_cons_of_mem _ (hrd p hp)
      · simp only [List.mem_singleton] at hp
        subst hp
        rw [hn, readOk_eq rfl]
        exact List.mem_cons_self)
    (hI.read rfl (okAt_look rfl hx) (fun p hp => (hE.get p (he p hp)).imp id fun q => okAt_look rfl q)) (fun R1 fr' H' hd => by
    simp only [dtext, hw, dstep, hx]
    simp only [Nat.beq, nextRef] at hd ⊢
    simp [hd]) h
theorem WpE.read {d : Option Nat} (hw : ROper.wanted fr ⟨d, op, g⟩ = true) (hx : op.exec noCall fr H = some (v, H)) (hE : AllE b (fun H2 => op.exec noCall fr H2 = some (v, H2)) E) (h : WpE call (n + 1) ref its H0 E ((n, readOk op fr v) :: Rd) (put fr d v) H K) : WpE call n ref (⟨⟨d, op, g⟩, b, 1, pre⟩ :: its) H0 E Rd fr H K :=
  WpE.look hw (look_of hx rfl) (AllE.imp (fun H2 q => look_of q rfl) hE) h
theorem WpE.effect {d : Option Nat} (hw : ROper.wanted fr ⟨d, op, g⟩ = true) (hx : op.exec call fr H = some (v, H1)) (hR : AllR b H1 Rd) (h : WpE call (n + 1) ref its H0 ((n, H) :: E) Rd (put fr d v) H1 K) : WpE call n ref (⟨⟨d, op, g⟩, b, 2, pre⟩ :: its) H0 E Rd fr H K := fun R0 E0 Rd0 hn he hrd hI =>
  WpE.next (r := ⟨⟨d, op, g⟩, b, 2, fr, v, true, true, H1, ref⟩) (E0' := E0 ++ [(n, H)]) hn (by
      intro p hp
      rcases List.mem_append.1 hp with hp | hp
      · exact List.mem_cons_of_mem _ (he p hp)
      · simp only [List.mem_singleton] at hp
        subst hp
        exact List.mem_cons_self) hrd (by
      have := hI.effect (e := ⟨⟨d, op, g⟩, b, 2, fr, v, true, true, H1, ref⟩) rfl rfl fun p hp => hR.get (p.1, p.2.okAt) (hrd p hp)
      rw [hn] at this; exact this) (fun R1 fr' H' hd => by
    simp only [dtext, hw, dstep, hx]
    simp only [Nat.beq, nextRef] at hd ⊢
    simp [hd]) h
theorem WpE.made {d : Option Nat} {cs : List AVal} {e : TypeId} {k : Nat → AVal} (hw : ROper.wanted fr ⟨d, op, g⟩ = true) (hm : op.made fr = some (cs, e, k)) (hg : ghostIs H ref cs e = true) (hE : AllE b (fun H2 => ghostIs H2 ref cs e = true) E) (h : WpE call (n + 1) (ref + 1) its H0 E ((n, madeOk op fr ref) :: Rd) (put fr d (k ref)) H K) : WpE call n ref (⟨⟨d, op, g⟩, b, 3, pre⟩ :: its) H0 E Rd fr H K := fun R0 E0 Rd0 hn he hrd hI =>
  WpE.next (r := ⟨⟨d, op, g⟩, b, 3, fr, k ref, true, false, H, ref⟩) (Rd0' := Rd0 ++ [(R0.length, ⟨⟨d, op, g⟩, b, 3, fr, k ref, true, false, H, ref⟩)]) hn he (by
      intro p hp
      rcases List.mem_append.1 hp with hp | hp
      · exact List.mem_cons_of_mem _ (hrd p hp)
      · simp only [List.mem_singleton] at hp
        subst hp
        rw [hn, madeOk_eq rfl]
        exact List.mem_cons_self)
    (hI.read rfl (by simp only [DRec.okAt, Nat.beq, hm, hg]) (fun p hp => (hE.get p (he p hp)).imp id fun q => by simp only [DRec.okAt, Nat.beq, hm, q])) (fun R1 fr' H' hd => by
    simp only [dtext, hw, dstep]
    simp only [Nat.beq, nextRef, hm, hg] at hd ⊢
    simp [hd]) h
theorem ghost_of {r : Nat} {cs : List AVal} {e : TypeId} [h : HasRow H r cs true (2 * e)] : ghostIs H r cs e = true := by
  unfold ghostIs
  have hlt := h.lt
  simp only [h.get, abeqL_refl, Nat.beq_refl, Bool.and_true, Bool.and_self]
  simpa using hlt
theorem made_of {r : Nat} {cs : List AVal} {e : TypeId} {k : Nat → AVal} (hm : op.made fr = some (cs, e, k)) [h : HasRow H r cs true (2 * e)] : madeOk op fr r H = true := by
  unfold madeOk
  rw [hm]
  exact ghost_of
theorem Wp.dregionE (os : List AObj) (ho : oracle its H.n fr H = os) (h : WpE call 0 H.n its (pushAll H os) [] [] fr (pushAll H os) fun fr' H' => Q .normal fr' H') : Wp call lf (.dregion its) fr H Q := by
  obtain ⟨R1, fr', H', h1, h2, h3⟩ := h [] [] [] rfl (by simp) (by simp) (DInv.nil _)
  refine ⟨.normal, fr', H', ?_, h3⟩
  simp only [RCode.exec, ho, h1]
  simp only [List.nil_append] at h2
  rw [h2]
theorem Wp.dregion0 (hno : (its.all fun it => !(Nat.beq it.cls 3)) = true) (h : WpE call 0 H.n its H [] [] fr H fun fr' H' => Q .normal fr' H') : Wp call lf (.dregion its) fr H Q :=
  Wp.dregionE [] (oracle_none its H.n fr H hno) h
theorem oracle_pre {it : DItem} {os : List AObj} {v : AVal} {H2 : AHeap} (hc : Nat.beq it.cls 3 = false) (hp : it.pre = true) (hw : it.o.wanted fr = true) (hx : it.o.op.exec noCall fr H = some (v, H2)) (h : oracle its ref (put fr it.o.dst v) H = os) : oracle (it :: its) ref fr H = os := by
  simp only [oracle, hc, hp, hw, hx, h]
theorem oracle_made {it : DItem} {os : List AObj} {cs : List AVal} {e : TypeId} {k : Nat → AVal} (hc : Nat.beq it.cls 3 = true) (hw : it.o.wanted fr = true) (hm : it.o.op.made fr = some (cs, e, k)) (h : oracle its (ref + 1) (put fr it.o.dst (k ref)) H = os) : oracle (it :: its) ref fr H = .row cs true (2 * e) :: os := by
  simp only [oracle, hc, hw, hm, h]
theorem made_mk {e : TypeId} {z : AVal} {by_ : Nat} {x y : ROpd} {k k' : IntKind} {a : Nat} (hx : x.ev fr = .int k a) (hy : y.ev fr = .int k' a) (h0 : by_ * a ≤ 2 ^ 47 ∧ a < 2 ^ 62) : (ROp.makeSlice e [z] by_ x y).made fr = some ((List.replicate a [z]).flatten, e, fun r => .slice r 0 a (some a) 1) := by
  have h1 : (0 : Int) ≤ (a : Int) ∧ (a : Int) ≤ a ∧ (by_ : Int) * a ≤ 2 ^ 47 ∧ (a : Int) < 2 ^ 62 := by
    have h2 : ((by_ * a : Nat) : Int) ≤ 2 ^ 47 := by omega
    rw [Int.natCast_mul] at h2
    omega
  simp only [ROp.made, hx, hy, if_pos h1, Int.toNat_natCast, List.length_singleton]
end
theorem WpE.pcall {ext : Exts} {prog : FuncId → Option RFunc} {m dd D : Nat} {f : FuncId} {o : ROpd} {l : List ROpd} {args : List AVal} {v : AVal} {d : Option Nat} {n ref : Nat} {its : List DItem} {H0 H : AHeap} {E : List (Nat × AHeap)} {Rd : List (Nat × (AHeap → Bool))} {fr : AFrame} {K : AFrame → AHeap → Prop} {b : Nat} {pre : Bool} {g : Option (Nat × Bool)}
    (hw : ROper.wanted fr ⟨d, .call o l, g⟩ = true) (hn : fuel0 + D ≤ m) (hf : o.ev fr = .func (.func f) [] []) (hl : l.map (·.ev fr) = args) [hc : PureCon ext prog f args H dd v] (hd : Nat.ble dd D = true)
    (h : ∀ H1, ExtI H H1 → AllR b H1 Rd ∧ WpE (callN ext prog m) (n + 1) ref its H0 ((n, H) :: E) Rd (put fr d v) H1 K) : WpE (callN ext prog m) n ref (⟨⟨d, .call o l, g⟩, b, 2, pre⟩ :: its) H0 E Rd fr H K := by
  obtain ⟨v', H1, hx, hv, hext⟩ := exec_con hc.con (Nat.le_trans (Nat.add_le_add_left (Nat.le_of_ble_eq_true hd) _) hn) hf hl
  subst hv
  obtain ⟨h1, h2⟩ := h H1 ⟨hext⟩
  exact WpE.effect hw hx h1 h2
theorem WpE.con {ext : Exts} {prog : FuncId → Option RFunc} {m dd D : Nat} {f : FuncId} {o : ROpd} {l : List ROpd} {args : List AVal} {R : AVal → AHeap → Prop} {d : Option Nat} {n ref : Nat} {its : List DItem} {H0 H : AHeap} {E : List (Nat × AHeap)} {Rd : List (Nat × (AHeap → Bool))} {fr : AFrame} {K : AFrame → AHeap → Prop} {b : Nat} {pre : Bool} {g : Option (Nat × Bool)}
    (hw : ROper.wanted fr ⟨d, .call o l, g⟩ = true) (hn : fuel0 + D ≤ m) (hd : Nat.ble dd D = true) (hf : o.ev fr = .func (.func f) [] []) (hl : l.map (·.ev fr) = args) (hc : Con ext prog dd f args H R)
    (h : ∀ v H1, R v H1 → AllR b H1 Rd ∧ WpE (callN ext prog m) (n + 1) ref its H0 ((n, H) :: E) Rd (put fr d v) H1 K) : WpE (callN ext prog m) n ref (⟨⟨d, .call o l, g⟩, b, 2, pre⟩ :: its) H0 E Rd fr H K := by
  obtain ⟨v', H1, hx, hv⟩ := exec_con hc (Nat.le_trans (Nat.add_le_add_left (Nat.le_of_ble_eq_true hd) _) hn) hf hl
  obtain ⟨h1, h2⟩ := h v' H1 hv
  exact WpE.effect hw hx h1 h2
section
variable {call : ACall} {fr : AFrame} {H : AHeap}
theorem exec_ldN {a : ROpd} {n r off : Nat} {cs : List AVal} {rw : Bool} {e : TypeId} {l : List AVal} (ha : a.ev fr = .ptr r off) [hg : HasRow H r cs rw e] (hv : Nat.ble (off + n) cs.length = true) (hl : (cs.drop off).take n = l) : (ROp.load (some n) a).exec call fr H = some (.agg l, H) := by
  subst hl
  simp only [ROp.exec, ha, aLoad, M.bind, aRow, if_pos hg.lt, hg.get, if_pos (Nat.le_of_ble_eq_true hv), M.pure]
theorem exec_lenP {x : ROpd} {p : AVal} {sz n : Nat} {cs : List AVal} (hx : x.ev fr = p) [s : SliceAt H p sz n cs] : (ROp.lenS x).exec call fr H = some (.int .i64 n, H) := by
  simp only [ROp.exec, hx, s.lenS, M.ofOption, M.pure]
theorem exec_ldB {a : ROpd} {p : AVal} {j : Nat} {l : List UInt8} (ha : a.ev fr = .ptr (rowOf p) (offOf p + j)) [s : BytesI H p l] (hj : j < l.length) : (ROp.load none a).exec call fr H = some (.int .u8 (l[j].toNat : Int), H) := exec_ldP ha (get_bytes hj)
theorem exec_ldI {a : ROpd} {p : AVal} {j : Nat} {l : List Int} (ha : a.ev fr = .ptr (rowOf p) (offOf p + j)) [s : IntsI H p l] (hj : j < l.length) : (ROp.load none a).exec call fr H = some (.int .i64 l[j], H) := exec_ldP ha (get_ints hj)
end
end Go.Am

namespace Go.Am
open Go
theorem wrap_u8 {n : Nat} (h : n < 256) : IntKind.u8.wrap (n : Int) = (n : Int) := by
  have h1 : IntKind.u8.wrap (n : Int) = if (false && decide ((n : Int) % 2 ^ 8 ≥ 2 ^ 7)) = true then (n : Int) % 2 ^ 8 - 2 ^ 8 else (n : Int) % 2 ^ 8 := rfl
  rw [h1]
  simp only [Bool.false_and, Bool.false_eq_true, if_false]
  omega
class IsU8 (k : Int) (b : outParam UInt8) : Prop where
  eq : k = (b.toNat : Int)
instance : IsU8 0 0 := ⟨rfl⟩
instance : IsU8 1 1 := ⟨rfl⟩
instance {b : UInt8} : IsU8 (b.toNat : Int) b := ⟨rfl⟩
instance {H : AHeap} {r : Nat} {k : Int} {b : UInt8} {rw : Bool} {e : TypeId} [h : HasRow H r [.int .u8 k] rw e] [x : IsU8 k b] : BytesI H (.slice r 0 1 (some 1) 1) [b] :=
  ⟨Or.inr ⟨r, 0, some 1, _, rw, e, rfl, h.lt, h.get, by simp, by rw [x.eq]; rfl, Nat.le_refl _⟩⟩
theorem bytesOf_cellsB (l : List UInt8) : bytesOf (cellsB l) = some l := by
  induction l with
  | nil => rfl
  | cons b l ih =>
    show (match bytesOf (cellsB l) with | some l => some (UInt8.ofNat ((b.toNat : Int)).toNat :: l) | none => none) = _
    rw [ih]
    simp
theorem aBytesFn_at {H : AHeap} {p : AVal} {l : List UInt8} [h : BytesI H p l] (f : List UInt8 → AVal) : aBytesFn f p H = some (f l, H) := by
  rcases h.it with ⟨rfl, h0, _⟩ | ⟨r, off, cap, row, rw, e, rfl, hr, hg, hl, hc, _⟩
  · have : l = [] := List.eq_nil_of_length_eq_zero h0
    subst this; rfl
  · have hl' : off + l.length ≤ row.length := by omega
    have hc' : (row.drop off).take l.length = cellsB l := by rw [← hc, Nat.mul_one]
    simp only [aBytesFn, ne_eq, not_true, if_false, M.bind, aRow, if_pos hr, hg, if_pos hl', hc', bytesOf_cellsB, M.pure]
def pxOk (l : List UInt8) : Bool := l.all fun b => b == 0 || b == 1
theorem count01 (l : List UInt8) : (l.count 0 + l.count 1 = l.length) ↔ pxOk l = true := by
  induction l with
  | nil => simp [pxOk]
  | cons b l ih =>
    have hle : l.count 0 + l.count 1 ≤ l.length := by
      clear ih
      induction l with
      | nil => simp
      | cons c l ihl =>
        simp only [List.count_cons, List.length_cons]
        by_cases h0 : c = 0
        · subst h0; simp; omega
        · by_cases h1 : c = 1
          · subst h1; simp; omega
          · simp [h0, h1]; omega
    simp only [pxOk, List.all_cons, Bool.and_eq_true, Bool.or_eq_true, beq_iff_eq, List.count_cons, List.length_cons] at ih ⊢
    by_cases h0 : b = 0
    · subst h0; simp at ih ⊢; rw [← ih]; omega
    · by_cases h1 : b = 1
      · subst h1; simp at ih ⊢; rw [← ih]; omega
      · simp [h0, h1]; omega
theorem count_le (l : List UInt8) (b : UInt8) : l.count b ≤ l.length := List.count_le_length
end Go.Am
namespace Go.Am
open Go
theorem bind_of {α β : Type} {x : M α} {f : α → M β} {H H' : AHeap} {a : α} (h : x H = some (a, H')) : M.bind x f H = f a H' := by simp [M.bind, h]
end Go.Am
namespace Go.Am
open Go
section
variable {call : ACall} {n ref : Nat} {its : List DItem} {H0 H : AHeap} {E : List (Nat × AHeap)} {Rd : List (Nat × (AHeap → Bool))} {fr : AFrame} {K : AFrame → AHeap → Prop} {b : Nat} {pre : Bool} {g : Option (Nat × Bool)}
theorem WpE.stB {d : Option Nat} {a x : ROpd} {p : AVal} {j : Nat} {l : List UInt8} {k : Int} (c : UInt8) (hw : ROper.wanted fr ⟨d, .store 1 a x, g⟩ = true) (ha : a.ev fr = .ptr (rowOf p) (offOf p + j)) (hx : x.ev fr = .int .u8 k) (hk : k = (c.toNat : Int)) [s : BytesI H p l] [w : WrS H p] (hj : j < l.length)
    (h : ∀ H1, BytesI H1 p (l.set j c) → WrS H1 p → ExtP H H1 p → AllR b H1 Rd ∧ WpE call (n + 1) ref its H0 ((n, H) :: E) Rd (put fr d aundef) H1 K) : WpE call n ref (⟨⟨d, .store 1 a x, g⟩, b, 2, pre⟩ :: its) H0 E Rd fr H K := by
  obtain ⟨v, H1, h1, rfl, h2, h3, h4⟩ := WpX.stB (call := call) (K := fun v H1 => v = aundef ∧ BytesI H1 p (l.set j c) ∧ WrS H1 p ∧ ExtP H H1 p) c ha hx hk hj fun H1 q1 q2 q3 => ⟨rfl, q1, q2, q3⟩
  obtain ⟨h5, h6⟩ := h H1 h2 h3 h4
  exact WpE.effect hw h1 h5 h6
end
end Go.Am

namespace Go.Am
open Go
theorem ag0 (v : AVal) (vs : List AVal) : argFrame (v :: vs) 0 = v := rfl
theorem ag1 (v w : AVal) (vs : List AVal) : argFrame (v :: w :: vs) 1 = w := rfl
theorem ag2 (v w x : AVal) (vs : List AVal) : argFrame (v :: w :: x :: vs) 2 = x := rfl
theorem ag3 (v w x y : AVal) (vs : List AVal) : argFrame (v :: w :: x :: y :: vs) 3 = y := rfl
theorem ag4 (v w x y z : AVal) (vs : List AVal) : argFrame (v :: w :: x :: y :: z :: vs) 4 = z := rfl
theorem fx1 (fr : AFrame) : updL [] fr = fr := rfl
theorem fx2 (p : Nat × AVal) (l : List (Nat × AVal)) (fr : AFrame) : updL (p :: l) fr = upd (updL l fr) p.1 p.2 := rfl
theorem fx3 (g fr : AFrame) : mix [] g fr = fr := rfl
theorem fx4 (d : Nat) (D : List Nat) (g fr : AFrame) : mix (d :: D) g fr = upd (mix D g fr) d (g d) := rfl
theorem nrmS : (∀ (a b : AVal) l, (a :: l).set 4 b = a :: l.set 3 b) ∧ (∀ (a b : AVal) l, (a :: l).set 5 b = a :: l.set 4 b) ∧ (∀ (a b : AVal) l, (a :: l).set 6 b = a :: l.set 5 b) ∧ (∀ (a b : AVal) l, (a :: l).set 7 b = a :: l.set 6 b) ∧ (∀ (a b : AVal) l, (a :: l).set 8 b = a :: l.set 7 b) ∧ (∀ (a b : AVal) l, (a :: l).set 9 b = a :: l.set 8 b) ∧ (∀ (a b : AVal) l, (a :: l).set 10 b = a :: l.set 9 b) ∧ (∀ (a b : AVal) l, (a :: l).set 11 b = a :: l.set 10 b) ∧ (∀ (a b : AVal) l, (a :: l).set 12 b = a :: l.set 11 b) ∧ (∀ (a b : AVal) l, (a :: l).set 13 b = a :: l.set 12 b) ∧ (∀ (a b : AVal) l, (a :: l).set 14 b = a :: l.set 13 b) ∧ (∀ (a b : AVal) l, (a :: l).set 15 b = a :: l.set 14 b) := ⟨fun _ _ _ => rfl, fun _ _ _ => rfl, fun _ _ _ => rfl, fun _ _ _ => rfl, fun _ _ _ => rfl, fun _ _ _ => rfl, fun _ _ _ => rfl, fun _ _ _ => rfl, fun _ _ _ => rfl, fun _ _ _ => rfl, fun _ _ _ => rfl, fun _ _ _ => rfl⟩
theorem nrmK : (∀ v vs, argFrame (v :: vs) 0 = v) ∧ (∀ v w vs, argFrame (v :: w :: vs) 1 = w) ∧ (∀ v w x vs, argFrame (v :: w :: x :: vs) 2 = x) ∧ (∀ v w x y vs, argFrame (v :: w :: x :: y :: vs) 3 = y) ∧ (∀ v w x y z vs, argFrame (v :: w :: x :: y :: z :: vs) 4 = z) ∧ (∀ v w x y z u vs, argFrame (v :: w :: x :: y :: z :: u :: vs) 5 = u) ∧ (∀ fr, updL [] fr = fr) ∧ (∀ p l fr, updL (p :: l) fr = upd (updL l fr) p.1 p.2) ∧ (∀ g fr, mix [] g fr = fr) ∧ (∀ d D g fr, mix (d :: D) g fr = upd (mix D g fr) d (g d)) := ⟨ag0, ag1, ag2, ag3, ag4, fun _ _ _ _ _ _ _ => rfl, fx1, fx2, fx3, fx4⟩
theorem nrmL : (∀ fr t, ROpd.ev fr (.tmp t) = fr t) ∧ (∀ fr v, ROpd.ev fr (.val v) = v) ∧ (∀ fr d v i, upd fr d v i = if i = d then v else fr i) := ⟨fun _ _ => rfl, fun _ _ => rfl, upd_at⟩
section
variable {call : ACall} {lf : Nat} {fr : AFrame} {H : AHeap} {Q : RExit → AFrame → AHeap → Prop} {KF : AFrame → AHeap → Prop} {os : List ROper} {d : Nat}
theorem Fr.region {ops : List ROper} (h : ∀ KF : AFrame → AHeap → Prop, (∀ fr' H', Q .normal fr' H' → KF fr' H') → WpO call ops fr H KF) : Wp call lf (.region ops) fr H Q := Wp.region (h _ fun _ _ q => q)
theorem Fr.quiet {its : List DItem} {ops : List ROper} (hq : quiet its = true) (ho : opsOf its = ops) (h : ∀ KF : AFrame → AHeap → Prop, (∀ fr' H', Q .normal fr' H' → KF fr' H') → WpO call ops fr H KF) : Wp call lf (.dregion its) fr H Q := Wp.dquiet hq ho (h _ fun _ _ q => q)
theorem Fr.dregion0 {its : List DItem} (hno : (its.all fun it => !(Nat.beq it.cls 3)) = true) (h : ∀ KF : AFrame → AHeap → Prop, (∀ fr' H', Q .normal fr' H' → KF fr' H') → WpE call 0 H.n its H [] [] fr H KF) : Wp call lf (.dregion its) fr H Q := Wp.dregion0 hno (h _ fun _ _ q => q)
theorem Fr.dregionE {its : List DItem} (os : List AObj) (ho : oracle its H.n fr H = os) (h : ∀ KF : AFrame → AHeap → Prop, (∀ fr' H', Q .normal fr' H' → KF fr' H') → WpE call 0 H.n its (pushAll H os) [] [] fr (pushAll H os) KF) : Wp call lf (.dregion its) fr H Q := Wp.dregionE os ho (h _ fun _ _ q => q)
theorem Fo.ld {a : ROpd} {r off : Nat} {cs : List AVal} {rw : Bool} {e : TypeId} {v : AVal} (ha : a.ev fr = .ptr r off) [hg : HasRow H r cs rw e] (hv : cs[off]? = some v) (h : WpO call os (upd fr d v) H KF) : WpO call (⟨some d, .load none a, none⟩ :: os) fr H KF := WpO.do (WpX.ld ha hv h)
theorem Fo.ldN {a : ROpd} {n r off : Nat} {cs : List AVal} {rw : Bool} {e : TypeId} {l : List AVal} (ha : a.ev fr = .ptr r off) [hg : HasRow H r cs rw e] (hv : Nat.ble (off + n) cs.length = true) (hl : (cs.drop off).take n = l) (h : WpO call os (upd fr d (.agg l)) H KF) : WpO call (⟨some d, .load (some n) a, none⟩ :: os) fr H KF := WpO.do (WpX.ldN ha hv hl h)
theorem Fo.len {x : ROpd} {p v : AVal} {sz n : Nat} {cs : List AVal} (hx : x.ev fr = p) [s : SliceAt H p sz n cs] (hv : AVal.int .i64 n = v) (h : WpO call os (upd fr d v) H KF) : WpO call (⟨some d, .lenS x, none⟩ :: os) fr H KF := by subst hv; exact WpO.do (WpX.lenP hx h)
theorem Fo.now {op : ROp} {v v' : AVal} {H1 : AHeap} (_ : nowOk op = true) (hx : op.exec call fr H = some (v, H1)) (hv : v = v') (h : WpO call os (upd fr d v') H1 KF) : WpO call (⟨some d, op, none⟩ :: os) fr H KF := by subst hv; exact WpO.step rfl ⟨v, H1, hx, h⟩
theorem Fo.box {e : TypeId} {x : ROpd} {v : AVal} {cs : List AVal} (hx : x.ev fr = v) (hc : v.cells = cs) (h : WpO call os (upd fr d (.ptr H.n 0)) (H.push (.row cs true (2 * e))) KF) : WpO call (⟨some d, .box e x, none⟩ :: os) fr H KF := by subst hx hc; exact WpO.do (WpX.box h)
theorem Fo.new {e : TypeId} {cs : List AVal} (h : WpO call os (upd fr d (.ptr H.n 0)) (H.push (.row cs true (2 * e))) KF) : WpO call (⟨some d, .new e cs, none⟩ :: os) fr H KF := WpO.do (WpX.new h)
theorem Fo.bslice {e : TypeId} {sz len : Nat} {zero : List AVal} {parts : List (Nat × Nat × ROpd)} {cs cs' : List AVal} (hf : aFill fr zero parts = some cs) (hc : cs = cs') (h : WpO call os (upd fr d (.slice H.n 0 len (some len) sz)) (H.push (.row cs' true (2 * e))) KF) : WpO call (⟨some d, .buildSlice e sz len zero parts, none⟩ :: os) fr H KF := by
  subst hc
  exact WpO.step rfl ⟨_, _, by simp only [ROp.exec, hf, M.bind, aNew, M.pure], h⟩
theorem Fo.st {a x : ROpd} {n r off : Nat} {cs : List AVal} {e : TypeId} {v : AVal} {vs l : List AVal} (ha : a.ev fr = .ptr r off) (hx : x.ev fr = v) (hvs : v.cells = vs) (hn : Nat.beq vs.length n = true) [hg : HasRow H r cs true e] (hl : Nat.ble (off + vs.length) cs.length = true) (ho : vs.all AVal.one = true)
    (hs : setAt cs off vs = l) (h : WpO call os fr (H.set r (.row l true e)) KF) : WpO call (⟨none, .store n a x, none⟩ :: os) fr H KF := WpO.do' (WpX.st ha hx hvs hn hl ho hs h)
theorem Fo.idx {x i : ROpd} {p : AVal} {sz n o : Nat} {cs : List AVal} {k : IntKind} {a : Int} (hx : x.ev fr = p) (hi : i.ev fr = .int k a) [s : SliceAt H p sz n cs] (h0 : 0 ≤ a ∧ a < n) (ho : offOf p + a.toNat * sz = o) (h : WpO call os (upd fr d (.ptr (rowOf p) o)) H KF) : WpO call (⟨some d, .idxS sz x i, none⟩ :: os) fr H KF := by
  subst ho; exact WpO.do (WpX.idxP hx hi h0 h)
theorem Fo.ldB {a : ROpd} {p v : AVal} {j : Nat} {l : List UInt8} (ha : a.ev fr = .ptr (rowOf p) (offOf p + j)) [s : BytesI H p l] (hj : j < l.length) (hv : AVal.int .u8 (l[j].toNat : Int) = v) (h : WpO call os (upd fr d v) H KF) : WpO call (⟨some d, .load none a, none⟩ :: os) fr H KF := by
  subst hv; exact WpO.do (WpX.ldB ha hj h)
theorem Fo.ldI {a : ROpd} {p v : AVal} {j : Nat} {l : List Int} (ha : a.ev fr = .ptr (rowOf p) (offOf p + j)) [s : IntsI H p l] (hj : j < l.length) (hv : AVal.int .i64 l[j] = v) (h : WpO call os (upd fr d v) H KF) : WpO call (⟨some d, .load none a, none⟩ :: os) fr H KF := by
  subst hv; exact WpO.do (WpX.ldI ha hj h)
theorem Fo.build {z : List AVal} {ps : List (Nat × Nat × ROpd)} {cs cs' : List AVal} (hf : aFill fr z ps = some cs) (hc : cs = cs') (h : WpO call os (upd fr d (.agg cs')) H KF) : WpO call (⟨some d, .build z ps, none⟩ :: os) fr H KF := by
  subst hc; exact WpO.do (WpX.build hf h)
theorem Fo.yes {d : Option Nat} {op : ROp} {t : Nat} {want b : Bool} (hb : fr t = .bool b) (hw : b = want) (h : WpO call (⟨d, op, none⟩ :: os) fr H KF) : WpO call (⟨d, op, some (t, want)⟩ :: os) fr H KF := WpO.guard hb (fun _ => h) fun q => absurd hw q
theorem Fo.no {d : Nat} {op : ROp} {t : Nat} {want b : Bool} (hb : fr t = .bool b) (hw : (!b) = want) (h : WpO call os (upd fr d aundef) H KF) : WpO call (⟨some d, op, some (t, want)⟩ :: os) fr H KF := WpO.guard hb (fun q => absurd q (by subst hw; cases b <;> decide)) fun _ => h
theorem Fo.noU {d : Nat} {op : ROp} {t : Nat} {want : Bool} (hb : fr t = aundef) (h : WpO call os (upd fr d aundef) H KF) : WpO call (⟨some d, op, some (t, want)⟩ :: os) fr H KF := WpO.skip (by simp only [ROper.wanted, hb, aundef]) h
end
section
variable {ext : Exts} {prog : FuncId → Option RFunc} {fr : AFrame} {H : AHeap} {KF : AFrame → AHeap → Prop} {os : List ROper} {d : Nat}
theorem Fo.pcall {n dd D : Nat} {f : FuncId} {o : ROpd} {l : List ROpd} {args : List AVal} {v v' : AVal} (hn : fuel0 + D ≤ n) (hf : o.ev fr = .func (.func f) [] []) (hl : l.map (·.ev fr) = args) [hc : PureCon ext prog f args H dd v] (hd : Nat.ble dd D = true) (hv : v = v')
    (h : ∀ H1, ExtI H H1 → WpO (callN ext prog n) os (upd fr d v') H1 KF) : WpO (callN ext prog n) (⟨some d, .call o l, none⟩ :: os) fr H KF := by
  subst hv; exact WpO.do (WpX.pcall hn hf hl hd h)
end
section
variable {call : ACall} {n ref : Nat} {its : List DItem} {H0 H H1 : AHeap} {E : List (Nat × AHeap)} {Rd : List (Nat × (AHeap → Bool))} {fr : AFrame} {K : AFrame → AHeap → Prop} {b : Nat} {pre : Bool} {g : Option (Nat × Bool)} {d : Nat}
theorem Fe.pure {op : ROp} {v v' : AVal} (hw : ROper.wanted fr ⟨some d, op, g⟩ = true) (hx : op.exec noCall fr H = some (v, H)) (hv : v = v') (h : WpE call (n + 1) ref its H0 E Rd (upd fr d v') H K) : WpE call n ref (⟨⟨some d, op, g⟩, b, 0, pre⟩ :: its) H0 E Rd fr H K := by
  subst hv; exact WpE.pure hw hx h
theorem Fe.read {op : ROp} {v v' : AVal} (hw : ROper.wanted fr ⟨some d, op, g⟩ = true) (hx : op.exec noCall fr H = some (v, H)) (hv : v = v') (hE : AllE b (fun H2 => op.exec noCall fr H2 = some (v, H2)) E) (h : WpE call (n + 1) ref its H0 E ((n, readOk op fr v) :: Rd) (upd fr d v') H K) : WpE call n ref (⟨⟨some d, op, g⟩, b, 1, pre⟩ :: its) H0 E Rd fr H K := by
  subst hv; exact WpE.read hw hx hE h
theorem Fe.skip {cls : Nat} {op : ROp} (hw : ROper.wanted fr ⟨some d, op, g⟩ = false) (h : WpE call (n + 1) (nextRef cls ref) its H0 E Rd (upd fr d aundef) H K) : WpE call n ref (⟨⟨some d, op, g⟩, b, cls, pre⟩ :: its) H0 E Rd fr H K := WpE.skip hw h
theorem Fe.made {op : ROp} {cs : List AVal} {e : TypeId} {k : Nat → AVal} {v : AVal} (hw : ROper.wanted fr ⟨some d, op, g⟩ = true) (hm : op.made fr = some (cs, e, k)) (hg : ghostIs H ref cs e = true) (hE : AllE b (fun H2 => ghostIs H2 ref cs e = true) E) (hv : k ref = v) (h : WpE call (n + 1) (ref + 1) its H0 E ((n, madeOk op fr ref) :: Rd) (upd fr d v) H K) : WpE call n ref (⟨⟨some d, op, g⟩, b, 3, pre⟩ :: its) H0 E Rd fr H K := by
  subst hv; exact WpE.made hw hm hg hE h
theorem Fe.effect0 {op : ROp} {v : AVal} (hw : ROper.wanted fr ⟨none, op, g⟩ = true) (hx : op.exec call fr H = some (v, H1)) (hR : AllR b H1 Rd) (h : WpE call (n + 1) ref its H0 ((n, H) :: E) Rd fr H1 K) : WpE call n ref (⟨⟨none, op, g⟩, b, 2, pre⟩ :: its) H0 E Rd fr H K := WpE.effect hw hx hR h
end
section
variable {ext : Exts} {prog : FuncId → Option RFunc} {n ref : Nat} {its : List DItem} {H0 H H1 : AHeap} {E : List (Nat × AHeap)} {Rd : List (Nat × (AHeap → Bool))} {fr : AFrame} {K : AFrame → AHeap → Prop} {b : Nat} {pre : Bool} {g : Option (Nat × Bool)} {d : Nat}
theorem Fe.pcall {m dd D : Nat} {f : FuncId} {o : ROpd} {l : List ROpd} {args : List AVal} {v v' : AVal} (hw : ROper.wanted fr ⟨some d, .call o l, g⟩ = true) (hn : fuel0 + D ≤ m) (hf : o.ev fr = .func (.func f) [] []) (hl : l.map (·.ev fr) = args) [hc : PureCon ext prog f args H dd v] (hd : Nat.ble dd D = true) (hv : v = v')
    (h : ∀ H1, ExtI H H1 → AllR b H1 Rd ∧ WpE (callN ext prog m) (n + 1) ref its H0 ((n, H) :: E) Rd (upd fr d v') H1 K) : WpE (callN ext prog m) n ref (⟨⟨some d, .call o l, g⟩, b, 2, pre⟩ :: its) H0 E Rd fr H K := by
  subst hv; exact WpE.pcall hw hn hf hl hd h
theorem Fe.con {m dd D : Nat} {f : FuncId} {o : ROpd} {l : List ROpd} {args : List AVal} {R : AVal → AHeap → Prop} (hw : ROper.wanted fr ⟨some d, .call o l, g⟩ = true) (hn : fuel0 + D ≤ m) (hd : Nat.ble dd D = true) (hf : o.ev fr = .func (.func f) [] []) (hl : l.map (·.ev fr) = args) (hc : Con ext prog dd f args H R)
    (h : ∀ v H1, R v H1 → AllR b H1 Rd ∧ WpE (callN ext prog m) (n + 1) ref its H0 ((n, H) :: E) Rd (upd fr d v) H1 K) : WpE (callN ext prog m) n ref (⟨⟨some d, .call o l, g⟩, b, 2, pre⟩ :: its) H0 E Rd fr H K := WpE.con hw hn hd hf hl hc h
end
end Go.Am
namespace Go.Am
open Go
section
variable {call : ACall} {fr : AFrame} {H : AHeap} {KF : AFrame → AHeap → Prop} {os : List ROper} {d : Nat}
theorem Fo.mov {x : ROpd} {v : AVal} (hx : x.ev fr = v) (h : WpO call os (upd fr d v) H KF) : WpO call (⟨some d, .mov x, none⟩ :: os) fr H KF := by subst hx; exact WpO.do (WpX.mov h)
theorem Fo.fa {x : ROpd} {r o off : Nat} (hx : x.ev fr = .ptr r o) (h : WpO call os (upd fr d (.ptr r (o + off))) H KF) : WpO call (⟨some d, .fieldAddr off x, none⟩ :: os) fr H KF := WpO.do (WpX.fieldAddr hx h)
theorem Fo.pickT {c a b : ROpd} {v : AVal} (hc : c.ev fr = .bool true) (hx : a.ev fr = v) (h : WpO call os (upd fr d v) H KF) : WpO call (⟨some d, .pick c a b, none⟩ :: os) fr H KF := by subst hx; exact WpO.do (WpX.pick hc h)
theorem Fo.pickF {c a b : ROpd} {v : AVal} (hc : c.ev fr = .bool false) (hx : b.ev fr = v) (h : WpO call os (upd fr d v) H KF) : WpO call (⟨some d, .pick c a b, none⟩ :: os) fr H KF := by subst hx; exact WpO.do (WpX.pick hc h)
theorem Fo.extr {x : ROpd} {i : Nat} {vs : List AVal} {v : AVal} (hx : x.ev fr = .tuple vs) (hv : vs[i]? = some v) (h : WpO call os (upd fr d v) H KF) : WpO call (⟨some d, .extract x i, none⟩ :: os) fr H KF := WpO.do (WpX.extract hx hv h)
theorem Fo.bin {op : BinOp} {x y : ROpd} {a b v v' : AVal} (hx : x.ev fr = a) (hy : y.ev fr = b) (hv : aBin op a b = some v) (he : v = v') (h : WpO call os (upd fr d v') H KF) : WpO call (⟨some d, .bin op x y, none⟩ :: os) fr H KF := by
  subst hx hy he
  exact WpO.step rfl ⟨v, H, by simp only [ROp.exec, hv, M.ofOption, M.pure], h⟩
end
end Go.Am
namespace Go.Am
open Go
section
variable {call : ACall} {fr : AFrame} {H : AHeap} {KF : AFrame → AHeap → Prop} {os : List ROper} {d : Nat}
theorem Fo.boxA {e : TypeId} {x : ROpd} {cs : List AVal} (hx : x.ev fr = .agg cs) (h : WpO call os (upd fr d (.ptr H.n 0)) (H.push (.row cs true (2 * e))) KF) : WpO call (⟨some d, .box e x, none⟩ :: os) fr H KF := Fo.box hx rfl h
theorem Fo.box1 {e : TypeId} {x : ROpd} {v : AVal} (hx : x.ev fr = v) [o : OneV v] (h : WpO call os (upd fr d (.ptr H.n 0)) (H.push (.row [v] true (2 * e))) KF) : WpO call (⟨some d, .box e x, none⟩ :: os) fr H KF := Fo.box hx o.cells h
end
end Go.Am

namespace Go.Am
open Go
section
variable {call : ACall} {lf : Nat} {fr : AFrame} {H : AHeap} {Q : RExit → AFrame → AHeap → Prop} {KF : AFrame → AHeap → Prop} {os : List ROper} {d : Nat}
theorem mI {x : ROpd} {k : IntKind} {n : Int} (h : WpO call os (upd fr d (.int k n)) H KF) (hx : x.ev fr = .int k n := by exact rfl) : WpO call (⟨some d, .mov x, none⟩ :: os) fr H KF := Fo.mov hx h
theorem mB {x : ROpd} {b : Bool} (h : WpO call os (upd fr d (.bool b)) H KF) (hx : x.ev fr = .bool b := by exact rfl) : WpO call (⟨some d, .mov x, none⟩ :: os) fr H KF := Fo.mov hx h
theorem mT {x : ROpd} {l : List AVal} (h : WpO call os (upd fr d (.tuple l)) H KF) (hx : x.ev fr = .tuple l := by exact rfl) : WpO call (⟨some d, .mov x, none⟩ :: os) fr H KF := Fo.mov hx h
theorem mF {x : ROpd} {f : Fn} {a b : List AVal} (h : WpO call os (upd fr d (.func f a b)) H KF) (hx : x.ev fr = .func f a b := by exact rfl) : WpO call (⟨some d, .mov x, none⟩ :: os) fr H KF := Fo.mov hx h
theorem mN {x : ROpd} (h : WpO call os (upd fr d .nslice) H KF) (hx : x.ev fr = .nslice := by exact rfl) : WpO call (⟨some d, .mov x, none⟩ :: os) fr H KF := Fo.mov hx h
theorem tB {c a b : ROpd} {n : Bool} (h : WpO call os (upd fr d (.bool n)) H KF) (hc : c.ev fr = .bool true := by exact rfl) (hx : a.ev fr = .bool n := by exact rfl) : WpO call (⟨some d, .pick c a b, none⟩ :: os) fr H KF := Fo.pickT hc hx h
theorem fB {c a b : ROpd} {n : Bool} (h : WpO call os (upd fr d (.bool n)) H KF) (hc : c.ev fr = .bool false := by exact rfl) (hx : b.ev fr = .bool n := by exact rfl) : WpO call (⟨some d, .pick c a b, none⟩ :: os) fr H KF := Fo.pickF hc hx h
theorem sq {a b : RCode} (h : Wp call lf a fr H fun x fr' H' => match x with | .normal => Wp call lf b fr' H' Q | e => Q e fr' H') : Wp call lf (.seq a b) fr H Q := Wp.seq h
theorem rg {ops : List ROper} (h : ∀ KF : AFrame → AHeap → Prop, (∀ fr' H', Q .normal fr' H' → KF fr' H') → WpO call ops fr H KF) : Wp call lf (.region ops) fr H Q := Fr.region h
theorem ct {c : ROpd} {t e : RCode} (hc : c.ev fr = .bool true) (h : Wp call lf t fr H Q) : Wp call lf (.cond c t e) fr H Q := Wp.cond (b := true) hc h
theorem cf {c : ROpd} {t e : RCode} (hc : c.ev fr = .bool false) (h : Wp call lf e fr H Q) : Wp call lf (.cond c t e) fr H Q := Wp.cond (b := false) hc h
theorem nl {A : AFrame → AHeap → Prop} (hK : ∀ fr H, A fr H → KF fr H) (h : A fr H) : WpO call [] fr H KF := WpO.nil (hK _ _ h)
theorem sk (h : Q .normal fr H) : Wp call lf .skip fr H Q := Wp.skip h
theorem rt (h : Q .ret fr H) : Wp call lf .ret fr H Q := Wp.ret h
theorem xi {id : Nat} (h : Q (.exit id) fr H) : Wp call lf (.exit id) fr H Q := Wp.exit h
theorem oy {d : Option Nat} {op : ROp} {t : Nat} {want b : Bool} (h : WpO call (⟨d, op, none⟩ :: os) fr H KF) (hb : fr t = .bool b := by exact rfl) (hw : b = want := by exact rfl) : WpO call (⟨d, op, some (t, want)⟩ :: os) fr H KF := Fo.yes hb hw h
theorem ox {d : Nat} {op : ROp} {t : Nat} {want b : Bool} (h : WpO call os (upd fr d aundef) H KF) (hb : fr t = .bool b := by exact rfl) (hw : (!b) = want := by exact rfl) : WpO call (⟨some d, op, some (t, want)⟩ :: os) fr H KF := Fo.no hb hw h
theorem fd {x : ROpd} {r o off : Nat} (h : WpO call os (upd fr d (.ptr r (o + off))) H KF) (hx : x.ev fr = .ptr r o := by exact rfl) : WpO call (⟨some d, .fieldAddr off x, none⟩ :: os) fr H KF := Fo.fa hx h
theorem mv {x : ROpd} {v : AVal} (h : WpO call os (upd fr d v) H KF) (hx : x.ev fr = v := by simp only [↓nrmL, nrmK, Nat.reduceEqDiff, ↓reduceIte]; rfl) : WpO call (⟨some d, .mov x, none⟩ :: os) fr H KF := Fo.mov hx h
theorem b0 {op : BinOp} {x y : ROpd} {a b v : AVal} (h : WpO call os (upd fr d v) H KF) (hx : x.ev fr = a := by exact rfl) (hy : y.ev fr = b := by exact rfl) (hv : aBin op a b = some v := by exact rfl) : WpO call (⟨some d, .bin op x y, none⟩ :: os) fr H KF := Fo.bin hx hy hv rfl h
theorem bn {op : BinOp} {x y : ROpd} {a b v v' : AVal} (hx : x.ev fr = a) (hy : y.ev fr = b) (hv : aBin op a b = some v) (he : v = v') (h : WpO call os (upd fr d v') H KF) : WpO call (⟨some d, .bin op x y, none⟩ :: os) fr H KF := Fo.bin hx hy hv he h
theorem xt {x : ROpd} {i : Nat} {vs : List AVal} {v : AVal} (h : WpO call os (upd fr d v) H KF) (hx : x.ev fr = .tuple vs := by exact rfl) (hv : vs[i]? = some v := by exact rfl) : WpO call (⟨some d, .extract x i, none⟩ :: os) fr H KF := Fo.extr hx hv h
theorem bA {e : TypeId} {x : ROpd} {cs : List AVal} (h : WpO call os (upd fr d (.ptr H.n 0)) (H.push (.row cs true (2 * e))) KF) (hx : x.ev fr = .agg cs := by exact rfl) : WpO call (⟨some d, .box e x, none⟩ :: os) fr H KF := Fo.boxA hx h
theorem nw {e : TypeId} {cs : List AVal} (h : WpO call os (upd fr d (.ptr H.n 0)) (H.push (.row cs true (2 * e))) KF) : WpO call (⟨some d, .new e cs, none⟩ :: os) fr H KF := Fo.new h
theorem ln {x : ROpd} {p : AVal} {sz n : Nat} {cs : List AVal} (hx : x.ev fr = p) [s : SliceAt H p sz n cs] (h : WpO call os (upd fr d (.int .i64 n)) H KF) : WpO call (⟨some d, .lenS x, none⟩ :: os) fr H KF := Fo.len hx rfl h
theorem ob {z : List AVal} {ps : List (Nat × Nat × ROpd)} {cs cs' : List AVal} (hc : cs = cs') (h : WpO call os (upd fr d (.agg cs')) H KF) (hf : aFill fr z ps = some cs := by repeat (first | refine aFill1 (by first | exact (rfl : _ = AVal.int _ _) | exact (rfl : _ = AVal.ptr _ _) | exact (rfl : _ = AVal.bool _) | exact (rfl : _ = AVal.agg _) | exact (rfl : _ = AVal.tuple _) | exact (rfl : _ = AVal.func _ _ _) | exact (rfl : _ = AVal.nslice) | ((try simp only [↓nrmL, nrmK, Nat.reduceEqDiff, ↓reduceIte]); rfl)) rfl ?_ | rfl)) : WpO call (⟨some d, .build z ps, none⟩ :: os) fr H KF := Fo.build hf hc h
theorem so {a x : ROpd} {n r off : Nat} {cs : List AVal} {e : TypeId} {v : AVal} {vs l : List AVal} {os : List ROper} (ha : a.ev fr = .ptr r off) (hx : x.ev fr = v) (hvs : v.cells = vs) (hn : Nat.beq vs.length n = true) [hg : HasRow H r cs true e] (hl : Nat.ble (off + vs.length) cs.length = true)
    (hs : setAt cs off vs = l) (h : WpO call os fr (H.set r (.row l true e)) KF) (ho : vs.all AVal.one = true := by repeat (first | rfl | refine allOne_cons ?_)) : WpO call (⟨none, .store n a x, none⟩ :: os) fr H KF := Fo.st ha hx hvs hn hl ho hs h
end
theorem xs {call : ACall} {fr : AFrame} {H : AHeap} {a x : ROpd} {n r off : Nat} {cs : List AVal} {e : TypeId} {v : AVal} {vs l : List AVal} (ha : a.ev fr = .ptr r off) (hx : x.ev fr = v) (hvs : v.cells = vs) (hn : Nat.beq vs.length n = true) [hg : HasRow H r cs true e] (hl : Nat.ble (off + vs.length) cs.length = true)
    (hs : setAt cs off vs = l) (ho : vs.all AVal.one = true := by repeat (first | rfl | refine allOne_cons ?_)) : (ROp.store n a x).exec call fr H = some (aundef, H.set r (.row l true e)) := exec_st ha hx hvs hn hl ho hs
theorem rz {A : Prop} {fr : AFrame} {res : List RRes} {H : AHeap} {vs : List AVal} {Q : List AVal → Prop} (hA : A) (h : Q vs) (hg : getAll fr res H = some (vs, H) := by first | rfl | exact getAllC rfl rfl rfl rfl | exact getAllT rfl (getAllC rfl rfl rfl rfl) | exact getAllC rfl rfl rfl (getAllC rfl rfl rfl rfl) | exact getAllC1 rfl rfl rfl) : A ∧ ∃ vs, getAll fr res H = some (vs, H) ∧ Q vs := ⟨hA, vs, hg, h⟩
section
variable {call : ACall} {n ref : Nat} {its : List DItem} {H0 H H1 : AHeap} {E : List (Nat × AHeap)} {Rd : List (Nat × (AHeap → Bool))} {fr : AFrame} {K : AFrame → AHeap → Prop} {b : Nat} {pre : Bool} {g : Option (Nat × Bool)} {d : Nat}
theorem Er {op : ROp} {v v' : AVal} (hw : ROper.wanted fr ⟨some d, op, g⟩ = true) (hx : op.exec noCall fr H = some (v, H)) (hv : v = v') (h : WpE call (n + 1) ref its H0 E ((n, readOk op fr v) :: Rd) (upd fr d v') H K) (hE : AllE b (fun H2 => op.exec noCall fr H2 = some (v, H2)) E := by repeat (first | exact trivial | refine ⟨(by first | exact Or.inl (by dsimp only; decide) | exact Or.inr (exec_ld rfl rfl) | exact Or.inr (exec_ld rfl (by assumption)) | exact Or.inr (exec_ldN rfl rfl rfl) | exact Or.inr (exec_ldB rfl (by omega)) | exact Or.inr (exec_ldI rfl (by omega)) | exact Or.inr ghost_of), ?_⟩)) : WpE call n ref (⟨⟨some d, op, g⟩, b, 1, pre⟩ :: its) H0 E Rd fr H K := Fe.read hw hx hv hE h
theorem Em {op : ROp} {cs : List AVal} {e : TypeId} {k : Nat → AVal} {v : AVal} (hw : ROper.wanted fr ⟨some d, op, g⟩ = true) (hm : op.made fr = some (cs, e, k)) (hg : ghostIs H ref cs e = true) (hv : k ref = v) (h : WpE call (n + 1) (ref + 1) its H0 E ((n, madeOk op fr ref) :: Rd) (upd fr d v) H K) (hE : AllE b (fun H2 => ghostIs H2 ref cs e = true) E := by repeat (first | exact trivial | refine ⟨(by first | exact Or.inl (by dsimp only; decide) | exact Or.inr (exec_ld rfl rfl) | exact Or.inr (exec_ld rfl (by assumption)) | exact Or.inr (exec_ldN rfl rfl rfl) | exact Or.inr (exec_ldB rfl (by omega)) | exact Or.inr (exec_ldI rfl (by omega)) | exact Or.inr ghost_of), ?_⟩)) : WpE call n ref (⟨⟨some d, op, g⟩, b, 3, pre⟩ :: its) H0 E Rd fr H K := Fe.made hw hm hg hE hv h
theorem Ee {op : ROp} {v : AVal} (hw : ROper.wanted fr ⟨none, op, g⟩ = true) (hx : op.exec call fr H = some (v, H1)) (h : WpE call (n + 1) ref its H0 ((n, H) :: E) Rd fr H1 K) (hR : AllR b H1 Rd := by repeat (first | exact trivial | refine ⟨(by first | exact Or.inl (by dsimp only; decide) | exact Or.inr (readOk_of (exec_ld rfl rfl)) | exact Or.inr (readOk_of (exec_ld rfl (by assumption))) | exact Or.inr (readOk_of (exec_ldN rfl rfl rfl)) | exact Or.inr (readOk_of (exec_ldB rfl (by omega))) | exact Or.inr (readOk_of (exec_ldI rfl (by omega))) | exact Or.inr (made_of rfl)), ?_⟩)) : WpE call n ref (⟨⟨none, op, g⟩, b, 2, pre⟩ :: its) H0 E Rd fr H K := Fe.effect0 hw hx hR h
theorem ar {B : Prop} (h : B) (hR : AllR b H1 Rd := by repeat (first | exact trivial | refine ⟨(by first | exact Or.inl (by dsimp only; decide) | exact Or.inr (readOk_of (exec_ld rfl rfl)) | exact Or.inr (readOk_of (exec_ld rfl (by assumption))) | exact Or.inr (readOk_of (exec_ldN rfl rfl rfl)) | exact Or.inr (readOk_of (exec_ldB rfl (by omega))) | exact Or.inr (readOk_of (exec_ldI rfl (by omega))) | exact Or.inr (made_of rfl)), ?_⟩)) : AllR b H1 Rd ∧ B := ⟨hR, h⟩
end
theorem nrmZ : type_of% nrm ∧ type_of% nrmS := ⟨nrm, nrmS⟩
end Go.Am


namespace Go.Am
open Go
attribute [local irreducible] Wp WpO WpX WpE
def sideB (a : Int) : Bool := decide (a ≥ 0) && decide (a ≤ 640)
instance K_side (a : Int) (H : AHeap) : PureCon ext prog 103 [.int .i64 a] H 1 (.bool (sideB a)) := ⟨by
 refine con_of (show prog 103 = some c103 from rfl) rfl rfl fun n hn => ?_
 unfold sideB
 cases h1 : decide (a ≥ 0) <;> cases h2 : decide (a ≤ 640)
 ·skip
  repeat first
   | refine ox ?_
   | refine mI ?_
   | refine mB ?_
   | (refine bn rfl rfl rfl (by simp only [h1, h2]; rfl) ?_)
   | refine fB ?_
   | refine nl hKF ?_
   | refine sq ?_
   | refine rg fun KF hKF => ?_
   | refine rt ?_
   | dsimp only [cond_true, cond_false]
  exact ⟨trivial, _, rfl, rfl, Ext0.ext⟩
 ·skip
  repeat first
   | refine ox ?_
   | refine mI ?_
   | refine mB ?_
   | (refine bn rfl rfl rfl (by simp only [h1, h2]; rfl) ?_)
   | refine fB ?_
   | refine nl hKF ?_
   | refine sq ?_
   | refine rg fun KF hKF => ?_
   | refine rt ?_
   | dsimp only [cond_true, cond_false]
  exact ⟨trivial, _, rfl, rfl, Ext0.ext⟩
 ·skip
  repeat first
   | refine oy ?_
   | refine mI ?_
   | refine mB ?_
   | (refine bn rfl rfl rfl (by simp only [h1, h2]; rfl) ?_)
   | refine tB ?_
   | refine nl hKF ?_
   | refine sq ?_
   | refine rg fun KF hKF => ?_
   | refine rt ?_
   | dsimp only [cond_true, cond_false]
  exact ⟨trivial, _, rfl, rfl, Ext0.ext⟩
 ·skip
  repeat first
   | refine oy ?_
   | refine mI ?_
   | refine mB ?_
   | (refine bn rfl rfl rfl (by simp only [h1, h2]; rfl) ?_)
   | refine tB ?_
   | refine nl hKF ?_
   | refine sq ?_
   | refine rg fun KF hKF => ?_
   | refine rt ?_
   | dsimp only [cond_true, cond_false]
  exact ⟨trivial, _, rfl, rfl, Ext0.ext⟩⟩
instance K_sized (a b k : Int) (H : AHeap) : PureCon ext prog 90 [.int .i64 a, .int .i64 b, .int .i64 k] H 2 (.bool (sideB a && sideB b && (k == IntKind.i64.wrap (a * b)))) := ⟨by
 refine con_of (show prog 90 = some c90 from rfl) rfl rfl fun n hn => ?_
 cases h1 : sideB a
 ·skip
  repeat first
   | refine ox ?_
   | refine mI ?_
   | refine mB ?_
   | refine fB ?_
   | (refine Fo.pcall (v' := ?_) hn rfl (by simp only [↓nrmL, nrmZ, Nat.reduceEqDiff, ↓reduceIte, Nat.reduceAdd, Int.reduceBEq, Int.reduceBNe, h1, List.map]; rfl) rfl ?hv fun _ _ => ?_; case hv => (simp only [h1]; rfl))
   | refine nl hKF ?_
   | refine sq ?_
   | refine rg fun KF hKF => ?_
   | refine rt ?_
   | dsimp only [cond_true, cond_false]
  exact ⟨trivial, _, rfl, rfl, Ext0.ext⟩
 cases h2 : sideB b
 ·skip
  repeat first
   | refine oy ?_
   | refine ox ?_
   | refine mI ?_
   | refine mB ?_
   | refine tB ?_
   | refine fB ?_
   | (refine Fo.pcall (v' := ?_) hn rfl (by simp only [↓nrmL, nrmZ, Nat.reduceEqDiff, ↓reduceIte, Nat.reduceAdd, Int.reduceBEq, Int.reduceBNe, h1, h2, List.map]; rfl) rfl ?hv fun _ _ => ?_; case hv => (simp only [h1, h2]; rfl))
   | refine nl hKF ?_
   | refine sq ?_
   | refine rg fun KF hKF => ?_
   | refine rt ?_
   | dsimp only [cond_true, cond_false]
  exact ⟨trivial, _, rfl, rfl, Ext0.ext⟩
 ·skip
  repeat first
   | refine oy ?_
   | refine mI ?_
   | refine mB ?_
   | refine b0 ?_
   | refine tB ?_
   | (refine Fo.pcall (v' := ?_) hn rfl (by simp only [↓nrmL, nrmZ, Nat.reduceEqDiff, ↓reduceIte, Nat.reduceAdd, Int.reduceBEq, Int.reduceBNe, h1, h2, List.map]; rfl) rfl ?hv fun _ _ => ?_; case hv => (simp only [h1, h2]; rfl))
   | refine nl hKF ?_
   | refine sq ?_
   | refine rg fun KF hKF => ?_
   | refine rt ?_
   | dsimp only [cond_true, cond_false]
  exact ⟨trivial, _, rfl, rfl, Ext0.ext⟩⟩
end Go.Am


namespace Go.Am
open Go
attribute [local irreducible] Wp WpO WpX WpE
structure Img where
 w : Int
 h : Int
 px : List UInt8
 deriving DecidableEq
def Img.zero : Img := ⟨0, 0, []⟩
def sizedB (a b k : Int) : Bool := sideB a && sideB b && (k == IntKind.i64.wrap (a * b))
def Img.sized (g : Img) : Bool := sizedB g.w g.h g.px.length
def NewInk (H H' : AHeap) (v : AVal) (g : Img) : Prop := ∃ p, v = .agg [.int .i64 g.w, .int .i64 g.h, p] ∧ BytesI H' p g.px ∧ FreshS H p ∧ WrS H' p ∧ Ext H H'
end Go.Am


namespace Go.Am
open Go
attribute [local irreducible] Wp WpO WpX WpE
theorem sized_nat {w h : Int} {n : Nat} (hs : sizedB w h n = true) : ∃ a b : Nat, w = a ∧ h = b ∧ a ≤ 640 ∧ b ≤ 640 ∧ n = a * b := by
 simp only [sizedB, sideB, Bool.and_eq_true, decide_eq_true_eq, beq_iff_eq] at hs
 obtain ⟨⟨⟨h1, h2⟩, h3, h4⟩, h5⟩ := hs
 refine ⟨w.toNat, h.toNat, by omega, by omega, by omega, by omega, ?_⟩
 obtain ⟨a, rfl⟩ : ∃ a : Nat, w = a := ⟨w.toNat, by omega⟩
 obtain ⟨b, rfl⟩ : ∃ b : Nat, h = b := ⟨h.toNat, by omega⟩
 have hm : a * b ≤ 640 * 640 := Nat.mul_le_mul (by omega) (by omega)
 rw [← Int.natCast_mul, w64 (by omega)] at h5
 simp only [Int.toNat_natCast]
 omega
end Go.Am


namespace Go.Am
open Go
attribute [local irreducible] Wp WpO WpX WpE
end Go.Am


namespace Go.Am
open Go
attribute [local irreducible] Wp WpO WpX WpE
theorem wm {a b : Nat} (h : a * b < 9223372036854775808) : IntKind.i64.wrap ((a : Int) * (b : Int)) = ((a * b : Nat) : Int) := by rw [← Int.natCast_mul]; exact w64 (by omega)
theorem wa {a b : Nat} (h : a + b < 9223372036854775808) : IntKind.i64.wrap ((a : Int) + (b : Int)) = ((a + b : Nat) : Int) := by rw [← Int.natCast_add]; exact w64 (by omega)
theorem wa1 {a : Nat} (h : a < 9223372036854775807) : IntKind.i64.wrap ((a : Int) + 1) = ((a + 1 : Nat) : Int) := by rw [w64 (by omega)]; omega
theorem idx_lt {x y w h : Nat} (hx : x < w) (hy : y < h) : y * w + x < w * h := by
 have : (y + 1) * w ≤ h * w := Nat.mul_le_mul_right _ hy
 rw [Nat.mul_comm w h]
 rw [Nat.add_mul] at this
 omega
end Go.Am


namespace Go.Am
open Go
attribute [local irreducible] Wp WpO WpX WpE
end Go.Am


namespace Go.Am
open Go
attribute [local irreducible] Wp WpO WpX WpE
def lvStep (acc : List Int) (b : UInt8) : List Int := acc.set b.toNat (acc.getD b.toNat 0 + 1)
def lv (l : List UInt8) : List Int := l.foldl lvStep (List.replicate 256 0)
instance intsNil {H : AHeap} : IntsI H .nslice [] := ⟨Or.inl ⟨rfl, rfl, rfl⟩⟩
instance bytesNil {H : AHeap} : BytesI H .nslice [] := ⟨Or.inl ⟨rfl, rfl, rfl⟩⟩
end Go.Am


namespace Go.Am
open Go
attribute [local irreducible] Wp WpO WpX WpE
class Short {α : Type} (l : List α) : Prop where
 le : l.length ≤ 999999
end Go.Am

namespace Go.Am
open Go
attribute [local irreducible] Wp WpO WpX WpE
instance K_awake {H : AHeap} : PureCon ext prog 12 [] H 0 (.bool true) := ⟨fun n hn => by
 obtain ⟨k, rfl⟩ : ∃ k, n = k + 1 := ⟨n - 1, by unfold fuel0 at hn; omega⟩
 have e1 : prog 12 = some ⟨0, .ext 3, []⟩ := rfl
 refine ⟨.bool true, H, ?_, rfl, Ext.refl H⟩
 rw [call_ext e1]
 rfl⟩
end Go.Am

namespace Go.Am
open Go
attribute [local irreducible] Wp WpO WpX WpE
theorem ws1 {a : Nat} (h : 0 < a) (h2 : a < 9223372036854775807) : IntKind.i64.wrap ((a : Int) - 1) = ((a - 1 : Nat) : Int) := by rw [w64 (by omega)]; omega
def okAt (b : Nat) (l : List Int) (x : Nat) : Bool := decide (0 ≤ l.getD x 0) && decide (l.getD x 0 < (b : Int)) && (x == 0 || (decide (l.getD (x - 1) 0 - 1 ≤ l.getD x 0) && decide (l.getD x 0 ≤ l.getD (x - 1) 0 + 1)))
def okTo (b : Nat) (l : List Int) (x : Nat) : Bool := (List.range x).all (okAt b l)
def pathB (a b : Nat) (l : List Int) : Bool := l.length != 0 && l.length == a && okTo b l l.length
theorem okTo_succ {b : Nat} {l : List Int} {x : Nat} : okTo b l (x + 1) = (okTo b l x && okAt b l x) := by simp [okTo, List.range_succ, List.all_append]
theorem okTo_bad {b : Nat} {l : List Int} {x n : Nat} (h : okAt b l x = false) (hx : x < n) : okTo b l n = false := by
 cases h2 : okTo b l n with
 | false => rfl
 | true =>
  have := List.all_eq_true.1 h2 x (List.mem_range.2 hx)
  rw [h] at this; cases this
theorem okTo_at {b : Nat} {l : List Int} {x n : Nat} (h : okTo b l n = true) (hx : x < n) : okAt b l x = true := List.all_eq_true.1 h x (List.mem_range.2 hx)
theorem getD_at {l : List Int} {x : Nat} (h : x < l.length) : l.getD x 0 = l[x] := by rw [List.getD_eq_getElem?_getD, List.getElem?_eq_getElem h, Option.getD_some]
theorem okTo_range {b : Nat} {l : List Int} {x n : Nat} (h : okTo b l n = true) (hx : x < n) (hl : x < l.length) : 0 ≤ l[x] ∧ l[x] < (b : Int) := by
 have := okTo_at h hx
 simp only [okAt, Bool.and_eq_true, decide_eq_true_eq, getD_at hl] at this
 exact ⟨this.1.1, this.1.2⟩
class Side (n : Nat) : Prop where
 le : n ≤ 640
instance K_isPath {a b : Nat} {p q : AVal} {H : AHeap} {g : List UInt8} {l : List Int} [hp : BytesI H p g] [hq : IntsI H q l] [ha : Side a] [hb : Side b] : PureCon ext prog 51 [.agg [.int .i64 (a : Int), .int .i64 (b : Int), p], q] H 1 (.bool (pathB a b l)) := ⟨by
 refine con_of (show prog 51 = some c51 from rfl) rfl rfl fun n hn => ?_
 have ha := ha.le
 have hb := hb.le
 haveI := hp.one
 haveI := hq.one
 cases h0 : (((l.length : Nat) : Int) == 0)
 rotate_left
 ·have hl0 : l.length = 0 := by simpa using h0
  have e1 : pathB a b l = false := by simp [pathB, hl0]
  rw [e1]
  repeat first
   | refine ox ?_
   | refine mB ?_
   | (refine mv ?_)
   | (refine bn rfl rfl rfl (by simp only [h0]; rfl) ?_)
   | refine tB ?_
   | (refine ln (by simp only [↓nrmL, nrmK, Nat.reduceEqDiff, ↓reduceIte]; rfl) ?_)
   | refine bA ?_
   | refine nl hKF ?_
   | refine sq ?_
   | refine rg fun KF hKF => ?_
   | refine ct rfl ?_
   | refine rt ?_
   | dsimp only [cond_true, cond_false]
  refine rz trivial ?_
  exact ⟨rfl, Ext0.ext⟩
 have hl0 : l.length ≠ 0 := by simpa using h0
 cases h1 : (((l.length : Nat) : Int) != (a : Int))
 rotate_left
 ·have hl1 : l.length ≠ a := by intro e; rw [e] at h1; simp at h1
  have e1 : pathB a b l = false := by simp [pathB, hl1]
  rw [e1]
  repeat first
   | refine oy ?_
   | refine mB ?_
   | (refine mv ?_)
   | refine fd ?_
   | refine Fo.ld rfl rfl ?_
   | (refine bn rfl rfl rfl (by simp only [h0, h1]; rfl) ?_)
   | refine fB ?_
   | (refine ln (by simp only [↓nrmL, nrmK, Nat.reduceEqDiff, ↓reduceIte]; rfl) ?_)
   | refine bA ?_
   | refine nl hKF ?_
   | refine sq ?_
   | refine rg fun KF hKF => ?_
   | refine ct rfl ?_
   | refine rt ?_
   | dsimp only [cond_true, cond_false]
  refine rz trivial ?_
  exact ⟨rfl, Ext0.ext⟩
 have hl1 : l.length = a := by have h7 := h1; simp only [bne_eq_false_iff_eq] at h7; omega
 have e0 : pathB a b l = okTo b l l.length := by simp [pathB, hl1]; omega
 rw [e0]
 repeat first
  | refine oy ?_
  | refine mI ?_
  | refine mB ?_
  | (refine mv ?_)
  | refine fd ?_
  | refine Fo.ld rfl rfl ?_
  | (refine bn rfl rfl rfl (by simp only [h0, h1]; rfl) ?_)
  | refine fB ?_
  | (refine ln (by simp only [↓nrmL, nrmK, Nat.reduceEqDiff, ↓reduceIte]; rfl) ?_)
  | refine bA ?_
  | refine nl hKF ?_
  | refine sq ?_
  | refine rg fun KF hKF => ?_
  | refine cf rfl ?_
  | refine sk ?_
  | refine Wp.block ?_
  | dsimp only [cond_true, cond_false]
 refine Wp.loopS [4, 5, 6, 19, 20, 21, 22, 23, 24, 25, 26, 27, 28, 29, 30, 31, 32, 33, 34, 35, 36, 37, 38, 39, 40, 41, 42, 43, 44, 45, 46, 47, 48, 49, 50, 51, 52, 53, 54] (fun x : Nat => [(19, .int .i64 x)]) (fun H3 x H2 => x ≤ l.length ∧ okTo b l x = true ∧ Ext0 H3 H2 ∧ H2 = H3) (fun x => l.length - x) 0 rfl (fun _ => rfl) ⟨rfl, trivial⟩ ⟨Nat.zero_le _, rfl, inferInstance, rfl⟩ (by unfold fuel0 at hn; omega) ?_
 rintro x g2 H2 ⟨hx, hok, _, rfl⟩
 simp only [↓nrmL, nrmZ, Nat.reduceEqDiff, ↓reduceIte, Nat.reduceAdd, Int.reduceBEq, Int.reduceBNe]
 cases hc : decide ((x : Int) < ((l.length : Nat) : Int))
 ·have hxl : x = l.length := by have := of_decide_eq_false hc; omega
  subst hxl
  rw [hok]
  repeat first
   | refine mB ?_
   | (refine bn rfl rfl rfl (by simp only [hc]; rfl) ?_)
   | refine nl hKF ?_
   | refine sq ?_
   | refine rg fun KF hKF => ?_
   | refine cf rfl ?_
   | refine rt ?_
   | refine xi ?_
   | dsimp only [cond_true, cond_false]
  refine rz trivial ?_
  exact ⟨rfl, Ext0.ext⟩
 have hxl : x < l.length := by have := of_decide_eq_true hc; omega
 have hw1 := wa1 (a := x) (by omega)
 cases h2 : decide (l[x] < 0)
 rotate_left
 ·rw [okTo_bad (x := x) (n := l.length) (by simp only [okAt, getD_at hxl]; have := of_decide_eq_true h2; rw [decide_eq_false (by omega)]; rfl) hxl]
  repeat first
   | refine ox ?_
   | refine mI ?_
   | refine mB ?_
   | (refine bn rfl rfl rfl (by simp only [hc, h2]; rfl) ?_)
   | refine tB ?_
   | (refine Fo.idx (by simp only [↓nrmL, nrmK, Nat.reduceEqDiff, ↓reduceIte]; rfl) rfl ?_ (by simp only [↓nrmL, nrmZ, Nat.reduceEqDiff, ↓reduceIte, Nat.reduceAdd, Int.reduceBEq, Int.reduceBNe, hc, h2]; rfl) ?_; (focus omega))
   | (refine Fo.ldI rfl ?_ rfl ?_; (focus omega))
   | refine nl hKF ?_
   | refine sq ?_
   | refine rg fun KF hKF => ?_
   | refine ct rfl ?_
   | refine sk ?_
   | refine rt ?_
   | refine Wp.block ?_
   | dsimp only [cond_true, cond_false]
  refine rz trivial ?_
  exact ⟨rfl, Ext0.ext⟩
 cases h3 : decide (l[x] ≥ (b : Int))
 rotate_left
 ·rw [okTo_bad (x := x) (n := l.length) (by simp only [okAt, getD_at hxl]; have := of_decide_eq_true h3; rw [decide_eq_false (p := l[x] < (b : Int)) (by omega), Bool.and_false]; rfl) hxl]
  repeat first
   | refine oy ?_
   | refine mI ?_
   | refine mB ?_
   | refine fd ?_
   | refine Fo.ld rfl rfl ?_
   | (refine bn rfl rfl rfl (by simp only [hc, h2, h3]; rfl) ?_)
   | refine fB ?_
   | (refine Fo.idx (by simp only [↓nrmL, nrmK, Nat.reduceEqDiff, ↓reduceIte]; rfl) rfl ?_ (by simp only [↓nrmL, nrmZ, Nat.reduceEqDiff, ↓reduceIte, Nat.reduceAdd, Int.reduceBEq, Int.reduceBNe, hc, h2, h3]; rfl) ?_; (focus omega))
   | (refine Fo.ldI rfl ?_ rfl ?_; (focus omega))
   | refine nl hKF ?_
   | refine sq ?_
   | refine rg fun KF hKF => ?_
   | refine ct rfl ?_
   | refine sk ?_
   | refine rt ?_
   | refine Wp.block ?_
   | dsimp only [cond_true, cond_false]
  refine rz trivial ?_
  exact ⟨rfl, Ext0.ext⟩
 have g1 : 0 ≤ l[x] := by have := of_decide_eq_false h2; omega
 have g3 : l[x] < (b : Int) := by have := of_decide_eq_false h3; omega
 cases h4 : decide ((x : Int) > 0)
 ·have hx0 : x = 0 := by have := of_decide_eq_false h4; omega
  subst hx0
  have e2 : okTo b l (0 + 1) = true := by rw [okTo_succ, hok, okAt, getD_at hxl, decide_eq_true g1, decide_eq_true g3]; rfl
  repeat first
   | refine oy ?_
   | refine ox ?_
   | refine Fo.noU rfl ?_
   | refine mI ?_
   | refine mB ?_
   | refine fd ?_
   | refine Fo.ld rfl rfl ?_
   | (refine bn rfl rfl rfl (by simp only [hc, h2, h3, h4]; rfl) ?_)
   | refine b0 ?_
   | refine fB ?_
   | (refine Fo.idx (by simp only [↓nrmL, nrmK, Nat.reduceEqDiff, ↓reduceIte]; rfl) rfl ?_ (by simp only [↓nrmL, nrmZ, Nat.reduceEqDiff, ↓reduceIte, Nat.reduceAdd, Int.reduceBEq, Int.reduceBNe, hc, h2, h3, h4]; rfl) ?_; (focus omega))
   | (refine Fo.ldI rfl ?_ rfl ?_; (focus omega))
   | refine nl hKF ?_
   | refine sq ?_
   | refine rg fun KF hKF => ?_
   | refine ct rfl ?_
   | refine cf rfl ?_
   | refine sk ?_
   | refine Wp.block ?_
   | dsimp only [cond_true, cond_false]
  refine ⟨0 + 1, by omega, ⟨by simp only [↓nrmL, nrmZ, Nat.reduceEqDiff, ↓reduceIte, Nat.reduceAdd, Int.reduceBEq, Int.reduceBNe]; rw [hw1], trivial⟩, hxl, e2, inferInstance, rfl⟩
 have hx0 : 0 < x := by have := of_decide_eq_true h4; omega
 have hw2 := ws1 (a := x) hx0 (by omega)
 have hxm : x - 1 < l.length := by omega
 obtain ⟨m1, m2⟩ := okTo_range hok (x := x - 1) (by omega) hxm
 have hw3 : IntKind.i64.wrap (l[x - 1] - 1) = l[x - 1] - 1 := w64 (by omega)
 have hw4 : IntKind.i64.wrap (l[x - 1] + 1) = l[x - 1] + 1 := w64 (by omega)
 cases h5 : decide (l[x] < l[x - 1] - 1)
 rotate_left
 ·rw [okTo_bad (x := x) (n := l.length) (by
   have h5 := of_decide_eq_true h5
   simp only [okAt, getD_at hxl, getD_at hxm]
   rw [decide_eq_false (p := l[x - 1] - 1 ≤ l[x]) (by omega), Bool.false_and, Bool.or_false, beq_eq_false_iff_ne.2 (by omega), Bool.and_false]) hxl]
  repeat first
   | refine oy ?_
   | refine ox ?_
   | refine mI ?_
   | refine mB ?_
   | (refine mv ?_)
   | refine fd ?_
   | refine Fo.ld rfl rfl ?_
   | (refine bn rfl rfl rfl (by simp only [hc, h2, h3, h4, hw2, hw3, hw4, h5]; rfl) ?_)
   | refine tB ?_
   | refine fB ?_
   | (refine Fo.idx (by simp only [↓nrmL, nrmK, Nat.reduceEqDiff, ↓reduceIte]; rfl) rfl ?_ (by simp only [↓nrmL, nrmZ, Nat.reduceEqDiff, ↓reduceIte, Nat.reduceAdd, Int.reduceBEq, Int.reduceBNe, hc, h2, h3, h4, hw2, hw3, hw4, h5]; rfl) ?_; (focus omega))
   | (refine Fo.ldI rfl ?_ rfl ?_; (focus omega))
   | refine nl hKF ?_
   | refine sq ?_
   | refine rg fun KF hKF => ?_
   | refine ct rfl ?_
   | refine cf rfl ?_
   | refine sk ?_
   | refine rt ?_
   | refine Wp.block ?_
   | dsimp only [cond_true, cond_false]
  refine rz trivial ?_
  exact ⟨rfl, Ext0.ext⟩
 cases h6 : decide (l[x] > l[x - 1] + 1)
 rotate_left
 ·rw [okTo_bad (x := x) (n := l.length) (by
   have h6 := of_decide_eq_true h6
   simp only [okAt, getD_at hxl, getD_at hxm]
   rw [decide_eq_false (p := l[x] ≤ l[x - 1] + 1) (by omega), Bool.and_false, Bool.or_false, beq_eq_false_iff_ne.2 (by omega), Bool.and_false]) hxl]
  repeat first
   | refine oy ?_
   | refine mI ?_
   | refine mB ?_
   | (refine mv ?_)
   | refine fd ?_
   | refine Fo.ld rfl rfl ?_
   | (refine bn rfl rfl rfl (by simp only [hc, h2, h3, h4, hw2, hw3, hw4, h5, h6]; rfl) ?_)
   | refine tB ?_
   | refine fB ?_
   | (refine Fo.idx (by simp only [↓nrmL, nrmK, Nat.reduceEqDiff, ↓reduceIte]; rfl) rfl ?_ (by simp only [↓nrmL, nrmZ, Nat.reduceEqDiff, ↓reduceIte, Nat.reduceAdd, Int.reduceBEq, Int.reduceBNe, hc, h2, h3, h4, hw2, hw3, hw4, h5, h6]; rfl) ?_; (focus omega))
   | (refine Fo.ldI rfl ?_ rfl ?_; (focus omega))
   | refine nl hKF ?_
   | refine sq ?_
   | refine rg fun KF hKF => ?_
   | refine ct rfl ?_
   | refine cf rfl ?_
   | refine sk ?_
   | refine rt ?_
   | refine Wp.block ?_
   | dsimp only [cond_true, cond_false]
  refine rz trivial ?_
  exact ⟨rfl, Ext0.ext⟩
 have e2 : okTo b l (x + 1) = true := by
  have h5 := of_decide_eq_false h5
  have h6 := of_decide_eq_false h6
  rw [okTo_succ, hok, okAt, getD_at hxl, getD_at hxm, decide_eq_true g1, decide_eq_true g3, decide_eq_true (p := l[x - 1] - 1 ≤ l[x]) (by omega), decide_eq_true (p := l[x] ≤ l[x - 1] + 1) (by omega)]
  simp
 repeat first
  | refine oy ?_
  | refine mI ?_
  | refine mB ?_
  | (refine mv ?_)
  | refine fd ?_
  | refine Fo.ld rfl rfl ?_
  | (refine bn rfl rfl rfl (by simp only [hc, h2, h3, h4, hw2, hw3, hw4, h5, h6]; rfl) ?_)
  | refine b0 ?_
  | refine tB ?_
  | refine fB ?_
  | (refine Fo.idx (by simp only [↓nrmL, nrmK, Nat.reduceEqDiff, ↓reduceIte]; rfl) rfl ?_ (by simp only [↓nrmL, nrmZ, Nat.reduceEqDiff, ↓reduceIte, Nat.reduceAdd, Int.reduceBEq, Int.reduceBNe, hc, h2, h3, h4, hw2, hw3, hw4, h5, h6]; rfl) ?_; (focus omega))
  | (refine Fo.ldI rfl ?_ rfl ?_; (focus omega))
  | refine nl hKF ?_
  | refine sq ?_
  | refine rg fun KF hKF => ?_
  | refine ct rfl ?_
  | refine cf rfl ?_
  | refine sk ?_
  | refine Wp.block ?_
  | dsimp only [cond_true, cond_false]
 refine ⟨x + 1, by omega, ⟨by simp only [↓nrmL, nrmZ, Nat.reduceEqDiff, ↓reduceIte, Nat.reduceAdd, Int.reduceBEq, Int.reduceBNe]; rw [hw1], trivial⟩, hxl, e2, inferInstance, rfl⟩⟩
class LenLe (l m : List Int) : Prop where
 le : l.length ≤ m.length
 sm : l.length ≤ 999999
end Go.Am


namespace Go.Am
open Go
attribute [local irreducible] Wp WpO WpX WpE
instance K_bCount {p : AVal} {H : AHeap} {l : List UInt8} {k : Int} {b : UInt8} [hp : BytesI H p l] [hb : IsU8 k b] : PureCon ext prog 111 [p, .int .u8 k] H 0 (.int .i64 (l.count b : Nat)) := ⟨fun n hn => by
 obtain ⟨m, rfl⟩ : ∃ m, n = m + 1 := ⟨n - 1, by unfold fuel0 at hn; omega⟩
 have e1 : prog 111 = some ⟨0, .ext 0, []⟩ := rfl
 refine ⟨_, H, ?_, rfl, Ext.refl H⟩
 rw [call_ext e1]
 have hb' := hb.eq
 subst hb'
 show aBytesFn (fun l => .int .i64 (Lib.countByte l (UInt8.ofNat ((b.toNat : Int)).toNat))) p H = _
 rw [aBytesFn_at]
 simp [Lib.countByte]⟩
instance K_bytesCount {p q : AVal} {H : AHeap} {l : List UInt8} {b : UInt8} [hp : BytesI H p l] [hq : BytesI H q [b]] : PureCon ext prog 91 [p, q] H 1 (.int .i64 (l.count b : Nat)) := ⟨by
 refine con_of (show prog 91 = some c91 from rfl) rfl rfl fun n hn => ?_
 have e0 : [b].length = 1 := rfl
 repeat first
  | refine mI ?_
  | (refine mv ?_)
  | refine b0 ?_
  | (refine Fo.pcall (v' := ?_) hn rfl (by simp only [↓nrmL, nrmZ, Nat.reduceEqDiff, ↓reduceIte, Nat.reduceAdd, Int.reduceBEq, Int.reduceBNe, e0, List.map]; rfl) rfl ?hv fun _ _ => ?_; case hv => rfl)
  | (refine Fo.len (v := ?_) (by simp only [↓nrmL, nrmK, Nat.reduceEqDiff, ↓reduceIte]; rfl) ?hv ?_; case hv => (simp only [e0]; rfl))
  | (refine Fo.idx (by simp only [↓nrmL, nrmK, Nat.reduceEqDiff, ↓reduceIte]; rfl) rfl ?_ (by simp only [↓nrmL, nrmZ, Nat.reduceEqDiff, ↓reduceIte, Nat.reduceAdd, Int.reduceBEq, Int.reduceBNe, e0]; rfl) ?_; (focus omega))
  | (refine Fo.ldB rfl ?_ rfl ?_; (focus omega))
  | refine nl hKF ?_
  | refine sq ?_
  | refine rg fun KF hKF => ?_
  | refine ct rfl ?_
  | refine cf rfl ?_
  | refine sk ?_
  | refine rt ?_
  | dsimp only [cond_true, cond_false]
 refine rz trivial ?_
 exact ⟨rfl, Ext0.ext⟩⟩
end Go.Am


namespace Go.Am
open Go
attribute [local irreducible] Wp WpO WpX WpE
instance K_count {p : AVal} {H : AHeap} {w h : Int} {l : List UInt8} [hp : BytesI H p l] : PureCon ext prog 86 [.agg [.int .i64 w, .int .i64 h, p]] H 2 (.int .i64 (l.count 1 : Nat)) := ⟨by
 refine con_of (show prog 86 = some c86 from rfl) rfl rfl fun n hn => ?_
 haveI := hp.one
 repeat first
  | refine mI ?_
  | refine fd ?_
  | refine Fo.ld rfl rfl ?_
  | (refine Fo.pcall (v' := ?_) hn rfl (by simp only [↓nrmL, nrmZ, Nat.reduceEqDiff, ↓reduceIte, Nat.reduceAdd, Int.reduceBEq, Int.reduceBNe, List.map]; rfl) rfl ?hv fun _ _ => ?_; case hv => rfl)
  | refine bA ?_
  | (refine Fo.bslice rfl (by simp only [↓nrmL, nrmZ, Nat.reduceEqDiff, ↓reduceIte, Nat.reduceAdd, Int.reduceBEq, Int.reduceBNe]; rfl) ?_)
  | refine nl hKF ?_
  | refine sq ?_
  | refine rg fun KF hKF => ?_
  | refine rt ?_
  | dsimp only [cond_true, cond_false]
 refine rz trivial ?_
 exact ⟨rfl, Ext0.ext⟩⟩
def Img.err (g : Img) : Int := bif g.sized then bif pxOk g.px then 0 else 3 else 2
instance K_Check {p : AVal} {H : AHeap} {w h : Int} {l : List UInt8} [hp : BytesI H p l] : PureCon ext prog 50 [.agg [.int .i64 w, .int .i64 h, p]] H 3 (.int .i64 (Img.err ⟨w, h, l⟩)) := ⟨by
 refine con_of (show prog 50 = some c50 from rfl) rfl rfl fun n hn => ?_
 haveI := hp.one
 unfold Img.err Img.sized sizedB
 cases h1 : (sideB w && sideB h && ((l.length : Nat) == IntKind.i64.wrap (w * h)))
 ·skip
  simp only [h1]
  repeat first
   | refine mI ?_
   | refine fd ?_
   | refine Fo.ld rfl rfl ?_
   | (refine Fo.pcall (v' := ?_) hn rfl (by simp only [↓nrmL, nrmZ, Nat.reduceEqDiff, ↓reduceIte, Nat.reduceAdd, Int.reduceBEq, Int.reduceBNe, h1, List.map]; rfl) rfl ?hv fun _ _ => ?_; case hv => (simp only [↓nrmL, nrmZ, Nat.reduceEqDiff, ↓reduceIte, Nat.reduceAdd, Int.reduceBEq, Int.reduceBNe, h1]; rfl))
   | (refine ln (by simp only [↓nrmL, nrmK, Nat.reduceEqDiff, ↓reduceIte]; rfl) ?_)
   | refine bA ?_
   | (refine Fo.now rfl rfl (by simp only [↓nrmL, nrmZ, Nat.reduceEqDiff, ↓reduceIte, Nat.reduceAdd, Int.reduceBEq, Int.reduceBNe, h1]; rfl) ?_)
   | refine nl hKF ?_
   | refine sq ?_
   | refine rg fun KF hKF => ?_
   | refine ct rfl ?_
   | refine rt ?_
   | dsimp only [cond_true, cond_false]
  refine rz trivial ?_
  exact ⟨rfl, Ext0.ext⟩
 ·obtain ⟨a, b, rfl, rfl, ha, hb, hl⟩ := sized_nat (n := l.length) h1
  have hm : a * b ≤ 640 * 640 := Nat.mul_le_mul ha hb
  have hc0 := count_le l 0
  have hc1 := count_le l 1
  have hw := wa (a := l.count 0) (b := l.count 1) (by omega)
  have h2 : (((l.count 0 + l.count 1 : Nat) : Int) != ((l.length : Nat) : Int)) = !(pxOk l) := by
   have := count01 l
   cases hp : pxOk l
   ·have : l.count 0 + l.count 1 ≠ l.length := fun e => by rw [this] at e; rw [hp] at e; cases e
    simp; omega
   ·have := this.2 hp
    simp [this]
  simp only [h1]
  repeat first
   | refine mI ?_
   | refine fd ?_
   | refine Fo.ld rfl rfl ?_
   | (refine Fo.pcall (v' := ?_) hn rfl (by simp only [↓nrmL, nrmZ, Nat.reduceEqDiff, ↓reduceIte, Nat.reduceAdd, Int.reduceBEq, Int.reduceBNe, h1, List.map]; rfl) rfl ?hv fun _ _ => ?_; case hv => (simp only [↓nrmL, nrmZ, Nat.reduceEqDiff, ↓reduceIte, Nat.reduceAdd, Int.reduceBEq, Int.reduceBNe, h1]; rfl))
   | (refine ln (by simp only [↓nrmL, nrmK, Nat.reduceEqDiff, ↓reduceIte]; rfl) ?_)
   | refine bA ?_
   | (refine Fo.now rfl rfl (by simp only [↓nrmL, nrmZ, Nat.reduceEqDiff, ↓reduceIte, Nat.reduceAdd, Int.reduceBEq, Int.reduceBNe, h1]; rfl) ?_)
   | refine nl hKF ?_
   | refine sq ?_
   | refine rg fun KF hKF => ?_
   | refine cf rfl ?_
   | refine sk ?_
   | dsimp only [cond_true, cond_false]
  refine Fr.dregionE [.row [.int .u8 0] true (2 * 5)] ?_ fun KF hKF => ?_
  ·skip
   refine oracle_pre rfl rfl rfl rfl ?_; (try simp only [↓nrmL, nrmZ, Nat.reduceEqDiff, ↓reduceIte, Nat.reduceAdd, Int.reduceBEq, Int.reduceBNe])
   refine oracle_pre rfl rfl rfl (exec_ld rfl rfl) ?_; (try simp only [↓nrmL, nrmZ, Nat.reduceEqDiff, ↓reduceIte, Nat.reduceAdd, Int.reduceBEq, Int.reduceBNe])
   refine oracle_made rfl rfl rfl ?_; (try simp only [↓nrmL, nrmZ, Nat.reduceEqDiff, ↓reduceIte, Nat.reduceAdd, Int.reduceBEq, Int.reduceBNe])
   exact oracle_none _ _ _ _ rfl
  simp only [pushAll]
  simp only [↓nrmL, nrmZ, Nat.reduceEqDiff, ↓reduceIte, Nat.reduceAdd, Int.reduceBEq, Int.reduceBNe, hw]
  repeat first
   | (refine Er rfl (exec_ld rfl rfl) rfl ?_)
   | (refine Er rfl (exec_ldN rfl rfl (by simp only [↓nrmL, nrmZ, Nat.reduceEqDiff, ↓reduceIte, Nat.reduceAdd, Int.reduceBEq, Int.reduceBNe, hw]; rfl)) rfl ?_)
   | (refine Fe.pure rfl (exec_lenP (by (try simp only [↓nrmL, nrmZ, Nat.reduceEqDiff, ↓reduceIte, Nat.reduceAdd, Int.reduceBEq, Int.reduceBNe, hw]); rfl)) rfl ?_)
   | (refine Fe.pure rfl rfl (by simp only [↓nrmL, nrmZ, Nat.reduceEqDiff, ↓reduceIte, Nat.reduceAdd, Int.reduceBEq, Int.reduceBNe, hw]; rfl) ?_)
   | refine Fe.pure rfl rfl rfl ?_
   | (refine Em rfl rfl ghost_of rfl ?_)
   | (refine Fe.pcall (v' := ?_) rfl hn rfl (by simp only [↓nrmL, nrmZ, Nat.reduceEqDiff, ↓reduceIte, Nat.reduceAdd, Int.reduceBEq, Int.reduceBNe, hw, List.map]; rfl) rfl ?hv fun _ _ => ar ?_; case hv => rfl)
   | refine WpE.nil (hKF _ _ ?_)
  cases hp2 : pxOk l
  ·rw [hp2] at h2
   simp only [hw, h2]
   refine ct rfl ?_
   refine sq ?_
   refine rg fun KF hKF => ?_
   refine mI ?_
   refine nl hKF ?_
   refine rt ?_
   dsimp only [cond_true, cond_false]
   refine rz trivial ?_
   exact ⟨rfl, Ext0.ext⟩
  ·rw [hp2] at h2
   simp only [hw, h2]
   refine cf rfl ?_
   refine sk ?_
   refine sq ?_
   refine rg fun KF hKF => ?_
   refine mI ?_
   refine nl hKF ?_
   refine rt ?_
   dsimp only [cond_true, cond_false]
   refine rz trivial ?_
   exact ⟨rfl, Ext0.ext⟩⟩
end Go.Am


namespace Go.Am
open Go
attribute [local irreducible] Wp WpO WpX WpE
end Go.Am


namespace Go.Am
open Go
attribute [local irreducible] Wp WpO WpX WpE
theorem Img.ok {g : Img} (h : (g.err == 0) = true) : g.sized = true ∧ pxOk g.px = true := by
 unfold Img.err at h
 cases h1 : g.sized
 ·rw [h1] at h; cases h
 ·cases h2 : pxOk g.px
  ·rw [h1, h2] at h; cases h
  ·exact ⟨rfl, rfl⟩
end Go.Am


namespace Go.Am
open Go
attribute [local irreducible] Wp WpO WpX WpE
class PixFn (F : FuncId) (op : outParam (UInt8 → UInt8 → UInt8)) : Prop where
 con : ∀ (a b : UInt8) (H : AHeap), PureCon ext prog F [.int .u8 (a.toNat : Int), .int .u8 (b.toNat : Int)] H 1 (.int .u8 ((op a b).toNat : Int))
instance {F : FuncId} {op : UInt8 → UInt8 → UInt8} {a b : UInt8} {H : AHeap} [h : PixFn F op] : PureCon ext prog F [.int .u8 (a.toNat : Int), .int .u8 (b.toNat : Int)] H 1 (.int .u8 ((op a b).toNat : Int)) := h.con a b H
end Go.Am


namespace Go.Am
open Go
attribute [local irreducible] Wp WpO WpX WpE
class Fits (w h : Int) (l : List UInt8) : Prop where
 it : sizedB w h l.length = true
end Go.Am

namespace Go.Am
open Go
attribute [local irreducible] Wp WpO WpX WpE
class Rows (H : AHeap) (ps : List AVal) (ls : List (List Int)) : Prop where
 it : ∀ (i : Nat) (h : i < ls.length), ∃ q, ps[i]? = some q ∧ IntsI H q ls[i]
class LinesI (H : AHeap) (p : AVal) (ls : outParam (List (List Int))) : Prop where
 it : ∃ ps : List AVal, SliceAt H p 1 ls.length ps ∧ Rows H ps ls
theorem Rows.ext {H H' : AHeap} {ps : List AVal} {ls : List (List Int)} (h : Rows H ps ls) (x : Ext H H') : Rows H' ps ls := ⟨fun i hi => by
 obtain ⟨q, h1, h2⟩ := h.it i hi
 haveI : ExtI H H' := ⟨x⟩
 exact ⟨q, h1, inferInstance⟩⟩
theorem LinesI.ext {H H' : AHeap} {p : AVal} {ls : List (List Int)} (h : LinesI H p ls) (x : Ext H H') : LinesI H' p ls := by
 obtain ⟨ps, h1, h2⟩ := h.it
 haveI : ExtI H H' := ⟨x⟩
 exact ⟨ps, inferInstance, h2.ext x⟩
instance {H : AHeap} {o : AObj} {p : AVal} {ls : List (List Int)} [h : LinesI H p ls] : LinesI (H.push o) p ls := h.ext ((Ext.refl H).push o)
instance {H H' : AHeap} {p : AVal} {ls : List (List Int)} [x : ExtI H H'] [h : LinesI H p ls] : LinesI H' p ls := h.ext x.ext
end Go.Am

namespace Go.Am
open Go
def chg (a b : Nat) : Int := if a = b then 0 else 1
def nxTo (c : Nat → Int) (y lo : Nat) : Nat → Nat × Int
  | 0 => (0, 1920)
  | k + 1 => if c (lo + k) + chg y (lo + k) < (nxTo c y lo k).2 then (lo + k, c (lo + k) + chg y (lo + k)) else nxTo c y lo k
def loB (y : Nat) : Nat := y - 1
def hiB (h y : Nat) : Nat := min (y + 1) (h - 1)
def nxF (c : Nat → Int) (h y : Nat) : Nat × Int := nxTo c y (loB y) (hiB h y + 1 - loB y)
theorem nxTo_le {c : Nat → Int} {y lo : Nat} : ∀ {k j : Nat}, j < k → (nxTo c y lo k).2 ≤ c (lo + j) + chg y (lo + j)
  | k + 1, j, h => by
    simp only [nxTo]
    by_cases e : j = k
    · subst e; split
      · exact Int.le_refl _
      · omega
    · have := nxTo_le (c := c) (y := y) (lo := lo) (k := k) (j := j) (by omega)
      split
      · dsimp only; omega
      · exact this
theorem nxTo_cap {c : Nat → Int} {y lo : Nat} : ∀ k, (nxTo c y lo k).2 ≤ 1920
  | 0 => Int.le_refl _
  | k + 1 => by
    have := nxTo_cap (c := c) (y := y) (lo := lo) k
    simp only [nxTo]
    split
    · dsimp only; omega
    · exact this
theorem nxTo_at {c : Nat → Int} {y lo : Nat} : ∀ {k : Nat}, (nxTo c y lo k).2 < 1920 → ∃ j, j < k ∧ (nxTo c y lo k).1 = lo + j ∧ (nxTo c y lo k).2 = c (lo + j) + chg y (lo + j) ∧ ∀ i, i < j → (nxTo c y lo k).2 < c (lo + i) + chg y (lo + i)
  | 0, h => by simp [nxTo] at h
  | k + 1, h => by
    simp only [nxTo] at h ⊢
    by_cases hc : c (lo + k) + chg y (lo + k) < (nxTo c y lo k).2
    · rw [if_pos hc]
      exact ⟨k, by omega, rfl, rfl, fun i hi => by have := nxTo_le (c := c) (y := y) (lo := lo) hi; dsimp only; omega⟩
    · rw [if_neg hc] at h ⊢
      obtain ⟨j, h1, h2, h3, h4⟩ := nxTo_at h
      exact ⟨j, by omega, h2, h3, h4⟩
theorem nx_le {c : Nat → Int} {h y z : Nat} (h1 : y ≤ z + 1) (h2 : z ≤ y + 1) (h3 : z < h) : (nxF c h y).2 ≤ c z + chg y z := by
  unfold nxF
  have := nxTo_le (c := c) (y := y) (lo := loB y) (k := hiB h y + 1 - loB y) (j := z - loB y) (by unfold loB hiB; omega)
  rw [show loB y + (z - loB y) = z by unfold loB; omega] at this
  exact this
theorem nx_cap (c : Nat → Int) (h y : Nat) : (nxF c h y).2 ≤ 1920 := nxTo_cap _
theorem nx_at {c : Nat → Int} {h y : Nat} (hh : 0 < h) (hl : (nxF c h y).2 < 1920) : y ≤ (nxF c h y).1 + 1 ∧ (nxF c h y).1 ≤ y + 1 ∧ (nxF c h y).1 < h ∧ (nxF c h y).2 = c (nxF c h y).1 + chg y (nxF c h y).1 ∧ ∀ z, y ≤ z + 1 → z < (nxF c h y).1 → (nxF c h y).2 < c z + chg y z := by
  obtain ⟨j, h1, h2, h3, h4⟩ := nxTo_at hl
  unfold nxF
  rw [h2]
  unfold loB hiB at *
  refine ⟨by omega, by omega, by omega, h3, fun z a b => ?_⟩
  have := h4 (z - (y - 1)) (by omega)
  rw [show y - 1 + (z - (y - 1)) = z by omega] at this
  exact this
def restF (P : Nat → Nat → Int) (w h : Nat) : Nat → Nat → Int
  | 0, y => P (w - 1) y
  | d + 1, y => P (w - 1 - (d + 1)) y + (nxF (restF P w h d) h y).2
def costF (P : Nat → Nat → Int) (w : Nat) (q : Nat → Nat) : Nat → Int
  | 0 => P (w - 1) (q (w - 1))
  | d + 1 => P (w - 1 - (d + 1)) (q (w - 1 - (d + 1))) + chg (q (w - 1 - (d + 1))) (q (w - 1 - d)) + costF P w q d
structure PathF (w h : Nat) (q : Nat → Nat) : Prop where
  row : ∀ x, x < w → q x < h
  near : ∀ x, x + 1 < w → q x ≤ q (x + 1) + 1 ∧ q (x + 1) ≤ q x + 1
theorem rest_le {P : Nat → Nat → Int} {w h : Nat} {q : Nat → Nat} (hq : PathF w h q) : ∀ d, d < w → restF P w h d (q (w - 1 - d)) ≤ costF P w q d
  | 0, _ => Int.le_refl _
  | d + 1, hd => by
    have ih := rest_le (P := P) hq d (by omega)
    have hn := hq.near (w - 1 - (d + 1)) (by omega)
    rw [show w - 1 - (d + 1) + 1 = w - 1 - d by omega] at hn
    have h1 := nx_le (c := restF P w h d) (h := h) (y := q (w - 1 - (d + 1))) (z := q (w - 1 - d)) hn.1 hn.2 (hq.row _ (by omega))
    simp only [restF, costF]
    omega
def folF (P : Nat → Nat → Int) (w h y0 : Nat) : Nat → Nat
  | 0 => y0
  | x + 1 => (nxF (restF P w h (w - 1 - (x + 1))) h (folF P w h y0 x)).1
structure PosP (P : Nat → Nat → Int) : Prop where
  it : ∀ x y, 0 ≤ P x y ∧ P x y ≤ 1920
theorem nxTo_pos {c : Nat → Int} {y lo : Nat} (hc : ∀ z, 0 ≤ c z) : ∀ k, 0 ≤ (nxTo c y lo k).2
  | 0 => by simp [nxTo]
  | k + 1 => by
    have := nxTo_pos (y := y) (lo := lo) hc k
    have h2 := hc (lo + k)
    have h3 : 0 ≤ chg y (lo + k) := by unfold chg; split <;> omega
    simp only [nxTo]
    split
    · dsimp only; omega
    · exact this
theorem rest_pos {P : Nat → Nat → Int} (hP : PosP P) {w h : Nat} : ∀ d y, 0 ≤ restF P w h d y
  | 0, y => (hP.it _ _).1
  | d + 1, y => by
    have h1 := (hP.it (w - 1 - (d + 1)) y).1
    have h2 : 0 ≤ (nxF (restF P w h d) h y).2 := nxTo_pos (rest_pos hP d) _
    simp only [restF]
    omega
theorem rest_max {P : Nat → Nat → Int} (hP : PosP P) {w h : Nat} : ∀ d y, restF P w h d y ≤ 3840
  | 0, y => by have := (hP.it (w - 1) y).2; simp only [restF]; omega
  | d + 1, y => by
    have h1 := (hP.it (w - 1 - (d + 1)) y).2
    have h2 := nx_cap (restF P w h d) h y
    simp only [restF]
    omega
theorem fol_rest {P : Nat → Nat → Int} (hP : PosP P) {w h y0 : Nat} (hh : 0 < h) (hy : y0 < h) (hm : restF P w h (w - 1) y0 < 1920) : ∀ x, x < w → folF P w h y0 x < h ∧ restF P w h (w - 1 - x) (folF P w h y0 x) < 1920 ∧ (0 < x → folF P w h y0 (x - 1) ≤ folF P w h y0 x + 1 ∧ folF P w h y0 x ≤ folF P w h y0 (x - 1) + 1 ∧ restF P w h (w - x) (folF P w h y0 (x - 1)) = P (x - 1) (folF P w h y0 (x - 1)) + chg (folF P w h y0 (x - 1)) (folF P w h y0 x) + restF P w h (w - 1 - x) (folF P w h y0 x))
  | 0, hx => ⟨hy, hm, fun h => by omega⟩
  | x + 1, hx => by
    obtain ⟨a1, a2, a3⟩ := fol_rest hP hh hy hm x (by omega)
    have e : w - 1 - x = (w - 1 - (x + 1)) + 1 := by omega
    have hr : restF P w h (w - 1 - x) (folF P w h y0 x) = P x (folF P w h y0 x) + (nxF (restF P w h (w - 1 - (x + 1))) h (folF P w h y0 x)).2 := by
      rw [e]
      simp only [restF]
      rw [show w - 1 - (w - 1 - (x + 1) + 1) = x by omega]
    have hp := (hP.it x (folF P w h y0 x)).1
    have hlt : (nxF (restF P w h (w - 1 - (x + 1))) h (folF P w h y0 x)).2 < 1920 := by omega
    obtain ⟨b1, b2, b3, b4, b5⟩ := nx_at hh hlt
    have hf : folF P w h y0 (x + 1) = (nxF (restF P w h (w - 1 - (x + 1))) h (folF P w h y0 x)).1 := rfl
    refine ⟨by rw [hf]; exact b3, ?_, fun _ => ?_⟩
    · rw [hf]
      have : 0 ≤ chg (folF P w h y0 x) (nxF (restF P w h (w - 1 - (x + 1))) h (folF P w h y0 x)).1 := by unfold chg; split <;> omega
      omega
    · rw [Nat.add_sub_cancel, hf]
      refine ⟨b1, b2, ?_⟩
      rw [show w - (x + 1) = w - 1 - x by omega, hr]
      omega
theorem fol_path {P : Nat → Nat → Int} (hP : PosP P) {w h y0 : Nat} (hh : 0 < h) (hy : y0 < h) (hm : restF P w h (w - 1) y0 < 1920) : PathF w h (folF P w h y0) := by
  have key := fol_rest hP hh hy hm
  refine ⟨fun x hx => (key x hx).1, fun x hx => ?_⟩
  have := (key (x + 1) hx).2.2 (by omega)
  rw [Nat.add_sub_cancel] at this
  exact ⟨this.1, this.2.1⟩
theorem fol_cost {P : Nat → Nat → Int} (hP : PosP P) {w h y0 : Nat} (hh : 0 < h) (hy : y0 < h) (hm : restF P w h (w - 1) y0 < 1920) : ∀ d, d < w → costF P w (folF P w h y0) d = restF P w h d (folF P w h y0 (w - 1 - d))
  | 0, _ => rfl
  | d + 1, hd => by
    have ih := fol_cost hP hh hy hm d (by omega)
    have key := (fol_rest hP hh hy hm (w - 1 - d) (by omega)).2.2 (by omega)
    rw [show w - 1 - d - 1 = w - 1 - (d + 1) by omega, show w - (w - 1 - d) = d + 1 by omega, show w - 1 - (w - 1 - d) = d by omega] at key
    simp only [costF]
    rw [ih, key.2.2]
end Go.Am

namespace Go.Am
open Go
class Part (p : outParam AVal) (v : AVal) (a n : outParam Nat) : Prop where
  it : (n = 0 ∧ aLenS v = some (.int .i64 0) ∧ v.cells = [v] ∧ v.one = true) ∨ ∃ r off len cap cap', p = .slice r off len cap 1 ∧ v = .slice r (off + a) n cap' 1 ∧ a + n ≤ len
theorem Part.one {p v : AVal} {a n : Nat} (h : Part p v a n) : OneV v := by
  rcases h.it with ⟨_, _, h1, h2⟩ | ⟨r, off, len, cap, cap', _, rfl, _⟩
  · exact ⟨h1, h2⟩
  · infer_instance
theorem Part.lenS {p v : AVal} {a n : Nat} (h : Part p v a n) : aLenS v = some (.int .i64 n) := by
  rcases h.it with ⟨rfl, h1, _⟩ | ⟨r, off, len, cap, cap', _, rfl, _⟩
  · exact h1
  · rfl
section
variable {call : ACall} {fr : AFrame} {H : AHeap} {KF : AFrame → AHeap → Prop} {os : List ROper} {d : Nat}
theorem cells_sub {row : List AVal} {l : List UInt8} {off a b : Nat} (hc : (row.drop off).take l.length = cellsB l) (hb : b ≤ l.length) : (row.drop (off + a)).take (b - a) = cellsB ((l.drop a).take (b - a)) := by
  have h1 : (cellsB l).drop a = cellsB (l.drop a) := by simp [cellsB, List.map_drop]
  have h2 : ∀ (k : Nat) (m : List UInt8), (cellsB m).take k = cellsB (m.take k) := fun k m => by simp [cellsB, List.map_take]
  rw [← h2, ← h1, ← hc, List.drop_take, List.drop_drop, List.take_take]
  congr 1
  omega
def bnd (o : Option AVal) (dflt n : Nat) : Prop := (o = none ∧ n = dflt) ∨ ∃ k, o = some (.int k n)
theorem exec_slc {x : ROpd} {lo hi : Option ROpd} {p : AVal} {l : List UInt8} {a b : Nat} (hx : x.ev fr = p) (hlo : bnd (lo.map (·.ev fr)) 0 a) (hhi : bnd (hi.map (·.ev fr)) l.length b) (hab : a ≤ b) (hbl : b ≤ l.length) [s : BytesI H p l] :
    ∃ v H', (ROp.sliceS 1 x lo hi none).exec call fr H = some (v, H') ∧ Part p v a (b - a) ∧ BytesI H' v ((l.drop a).take (b - a)) ∧ Ext H H' := by
  have hlen : ((l.drop a).take (b - a)).length = b - a := by rw [List.length_take, List.length_drop]; omega
  have hl1 : ∀ h, a ≤ h → aLow h (lo.map (·.ev fr)) = some a := by
    intro h hh
    rcases hlo with ⟨h1, rfl⟩ | ⟨k, h1⟩
    · rw [h1]; rfl
    · rw [h1]
      have : (0 : Int) ≤ (a : Int) ∧ (a : Int) ≤ (h : Int) := by omega
      simp only [aLow, aBound, if_pos this, Int.toNat_natCast]
  have hh1 : ∀ y, b ≤ y → aHigh l.length y (hi.map (·.ev fr)) = some b := by
    intro y hy
    rcases hhi with ⟨h1, rfl⟩ | ⟨k, h1⟩
    · rw [h1]; rfl
    · rw [h1]
      have : (0 : Int) ≤ (b : Int) ∧ (b : Int) ≤ (y : Int) := by omega
      simp only [aHigh, aBound, if_pos this, Int.toNat_natCast]
  rcases s.it with ⟨rfl, h0, _⟩ | ⟨r, off, cap, row, rw, e, rfl, hr, hg, hl, hc, hcap⟩
  · have e1 : b = 0 := by omega
    have e2 : a = 0 := by omega
    subst e1 e2
    have hb0 : aBounds 0 (some 0) (lo.map (·.ev fr)) (hi.map (·.ev fr)) none = some (0, 0, some 0) := by
      have h1 := hh1 (capD 0 (some 0)) (Nat.zero_le _)
      rw [h0] at h1
      simp only [aBounds, h1, hl1 0 (Nat.zero_le _)]
    refine ⟨.nslice, H, by simp only [ROp.exec, hx, Option.map_none, aSliceS, hb0, M.pure], ⟨Or.inl ⟨rfl, rfl, rfl, rfl⟩⟩, ?_, Ext.refl H⟩
    have e3 : (l.drop 0).take (0 - 0) = [] := by simp
    rw [e3]
    exact ⟨Or.inl ⟨rfl, rfl, rfl⟩⟩
  · rw [Nat.mul_one] at hl hc
    have hb0 : aBounds l.length cap (lo.map (·.ev fr)) (hi.map (·.ev fr)) none = some (a, b, cap) := by
      simp only [aBounds, hh1 _ (Nat.le_trans hbl hcap), hl1 b hab]
    have hsub := cells_sub (a := a) hc hbl
    have full : ∀ cap', (b - a ≤ capD (b - a) cap') → BytesI H (.slice r (off + a) (b - a) cap' 1) ((l.drop a).take (b - a)) := by
      intro cap' hc'
      unfold BytesI
      rw [hlen]
      exact ⟨Or.inr ⟨r, off + a, cap', row, rw, e, rfl, hr, hg, by omega, by rw [Nat.mul_one]; exact hsub, hc'⟩⟩
    have none0 : a = b → ∀ cap', BytesI H (.slice r off (b - a) cap' 1) ((l.drop a).take (b - a)) := by
      intro hE cap'
      subst hE
      have e3 : (l.drop a).take (a - a) = [] := by simp
      rw [e3, Nat.sub_self]
      exact ⟨Or.inr ⟨r, off, cap', row, rw, e, rfl, hr, hg, by simp; omega, by simp [cellsB], Nat.zero_le _⟩⟩
    cases cap with
    | some c =>
      simp only [capD] at hcap
      by_cases hca : c = a
      · have hE : a = b := by omega
        refine ⟨.slice r off (b - a) (some 0) 1, H, by simp only [ROp.exec, hx, Option.map_none, aSliceS, ne_eq, not_true, if_false, hb0, M.pure, if_pos hca], ⟨Or.inl ⟨by omega, by rw [hE, Nat.sub_self]; rfl, rfl, rfl⟩⟩, none0 hE _, Ext.refl H⟩
      · refine ⟨.slice r (off + a) (b - a) (some (c - a)) 1, H, by simp only [ROp.exec, hx, Option.map_none, aSliceS, ne_eq, not_true, if_false, hb0, M.pure, if_neg hca, Nat.mul_one], ⟨Or.inr ⟨r, off, l.length, some c, some (c - a), rfl, rfl, by omega⟩⟩, full _ (by simp only [capD]; omega), Ext.refl H⟩
    | none =>
      have h2 : ¬ row.length < off + l.length := by omega
      have hrow : aRow r H = some ((row, rw), H) := by simp only [aRow, if_pos hr, hg]
      by_cases hcd : a < b ∨ a = 0
      · refine ⟨.slice r (off + a) (b - a) none 1, H, ?_, ⟨Or.inr ⟨r, off, l.length, none, none, rfl, rfl, by omega⟩⟩, full _ (Nat.le_refl _), Ext.refl H⟩
        simp only [ROp.exec, hx, Option.map_none, aSliceS, ne_eq, not_true, if_false, hb0, Nat.mul_one, Nat.one_ne_zero, M.bind, hrow, if_neg h2, if_pos hcd, M.pure]
      · have hE : a = b := by omega
        refine ⟨.slice H.n 0 0 none 1, H.push (.row [] false 0), ?_, ⟨Or.inl ⟨by omega, rfl, rfl, rfl⟩⟩, ?_, (Ext.refl H).push _⟩
        · simp only [ROp.exec, hx, Option.map_none, aSliceS, ne_eq, not_true, if_false, hb0, Nat.mul_one, Nat.one_ne_zero, M.bind, hrow, if_neg h2, if_neg hcd, M.pure, aNew]
        · have e3 : (l.drop a).take (b - a) = [] := by rw [hE, Nat.sub_self]; simp
          rw [e3]
          exact ⟨Or.inr ⟨H.n, 0, none, [], false, 0, rfl, Nat.lt_succ_self _, push_get_eq, by simp, by simp [cellsB], Nat.zero_le _⟩⟩
theorem Fo.slc {x : ROpd} {lo hi : Option ROpd} {p : AVal} {l : List UInt8} {a b : Nat} (hx : x.ev fr = p) (hlo : bnd (lo.map (·.ev fr)) 0 a) (hhi : bnd (hi.map (·.ev fr)) l.length b) (hab : a ≤ b) (hbl : b ≤ l.length) [s : BytesI H p l]
    (h : ∀ v H1, Part p v a (b - a) → BytesI H1 v ((l.drop a).take (b - a)) → ExtI H H1 → WpO call os (upd fr d v) H1 KF) : WpO call (⟨some d, .sliceS 1 x lo hi none, none⟩ :: os) fr H KF := by
  obtain ⟨v, H1, h1, h2, h3, h4⟩ := exec_slc (call := call) hx hlo hhi hab hbl (s := s)
  exact WpO.step rfl ⟨v, H1, h1, h v H1 h2 h3 ⟨h4⟩⟩
end
end Go.Am

namespace Go.Am
open Go
class OwnS (H : AHeap) (p : AVal) (sz : outParam Nat) (n : outParam Nat) (cs : outParam (List AVal)) (e : outParam TypeId) : Prop where
  it : (p = .nslice ∧ n = 0 ∧ cs = []) ∨ ∃ r e', p = .slice r 0 n none sz ∧ r < H.n ∧ H.get r = .row cs true e' ∧ e' / 2 = e ∧ cs.length = n * sz ∧ 0 < n
theorem OwnS.sl {H : AHeap} {p : AVal} {sz n : Nat} {cs : List AVal} {e : TypeId} (h : OwnS H p sz n cs e) : SliceAt H p sz n cs := by
  rcases h.it with ⟨h1, h2, h3⟩ | ⟨r, e', h1, h2, h3, h4, h5, h6⟩
  · exact ⟨Or.inl ⟨h1, h2, h3⟩⟩
  · exact ⟨Or.inr ⟨r, 0, none, cs, true, e', h1, h2, h3, by omega, by rw [List.drop_zero, List.take_of_length_le (by omega)], Nat.le_refl _⟩⟩
theorem OwnS.wr {H : AHeap} {p : AVal} {sz n : Nat} {cs : List AVal} {e : TypeId} (h : OwnS H p sz n cs e) : WrS H p := ⟨fun r off len cap s q => by
  rcases h.it with ⟨h1, _⟩ | ⟨r', e', h1, h2, h3, _⟩
  · rw [h1] at q; cases q
  · rw [h1] at q; cases q; exact ⟨cs, e', h3⟩⟩
theorem OwnS.keep {H H' : AHeap} {p : AVal} {sz n : Nat} {cs : List AVal} {e : TypeId} (h : OwnS H p sz n cs e) (hn : H.n ≤ H'.n) (hg : ∀ r off len cap sz, p = .slice r off len cap sz → r < H.n → H'.get r = H.get r) : OwnS H' p sz n cs e := by
  rcases h.it with ⟨h1, h2, h3⟩ | ⟨r, e', h1, h2, h3, h4⟩
  · exact ⟨Or.inl ⟨h1, h2, h3⟩⟩
  · exact ⟨Or.inr ⟨r, e', h1, by omega, by rw [hg _ _ _ _ _ h1 h2]; exact h3, h4⟩⟩
instance {H H' : AHeap} {p : AVal} {sz n : Nat} {cs : List AVal} {e : TypeId} [x : ExtI H H'] [h : OwnS H p sz n cs e] : OwnS H' p sz n cs e := h.keep x.ext.n fun _ _ _ _ _ _ hr => x.ext.get _ hr
instance {H : AHeap} {o : AObj} {p : AVal} {sz n : Nat} {cs : List AVal} {e : TypeId} [h : OwnS H p sz n cs e] : OwnS (H.push o) p sz n cs e := h.keep (Nat.le_succ _) fun _ _ _ _ _ _ hr => push_get_lt hr
instance {H : AHeap} {s : Nat} {o : AObj} {p : AVal} {sz n : Nat} {cs : List AVal} {e : TypeId} [h : OwnS H p sz n cs e] [k : RowNe p s] : OwnS (H.set s o) p sz n cs e := h.keep (Nat.le_refl _) fun _ _ _ _ _ e _ => set_get_ne (k.ne _ _ _ _ _ e)
instance {H H' : AHeap} {p q : AVal} {sz n : Nat} {cs : List AVal} {e : TypeId} [x : ExtP H H' q] [h : OwnS H p sz n cs e] [k : SepS p q] : OwnS H' p sz n cs e := h.keep x.n fun r _ _ _ _ e hr => x.get r hr ⟨fun r' _ _ _ _ e' => fun hh => k.ne _ _ _ _ _ _ _ _ _ _ e e' hh.symm⟩
theorem exec_grow {H : AHeap} {p q : AVal} {sz n k bytes : Nat} {cs new : List AVal} {e : TypeId} (h : OwnS H p sz n cs e) (hf : aLenOf q = some k ∧ aFirst sz k q H = some (new, H)) (hnl : new.length = k * sz) (hsz : 0 < sz) (hb : 0 < bytes) (hk : 0 < k) (hroom : 2 * (n + k) * bytes ≤ 2 ^ 48) (hone : new.all AVal.one = true) :
    ∃ p' H', aAppend e sz bytes p q H = some (p', H') ∧ OwnS H' p' sz (n + k) (cs ++ new) e ∧ FreshS H p' ∧ ExtP H H' p := by
  have hk0 : ¬ k = 0 := by omega
  have hs0 : ¬ sz = 0 := by omega
  have hb0 : ¬ bytes = 0 := by omega
  rcases h.it with ⟨rfl, rfl, rfl⟩ | ⟨r, e', rfl, h2, h3, h4, h5, h6⟩
  · refine ⟨.slice H.n 0 k none sz, H.push (.row new true (2 * e)), ?_, ⟨Or.inr ⟨H.n, 2 * e, by rw [Nat.zero_add], Nat.lt_succ_self _, by rw [List.nil_append]; exact push_get_eq, half_even _, by rw [List.nil_append, Nat.zero_add]; exact hnl, by omega⟩⟩, ⟨fun _ _ _ _ _ q => by cases q; exact Nat.le_refl _⟩, ⟨Nat.le_succ _, fun r hr _ => push_get_lt hr⟩⟩
    rw [Nat.zero_add] at hroom
    simp only [aAppend, hf.1]
    rw [bind_of hf.2]
    simp only [hone, hnl, Bool.not_true, ne_eq, not_true, decide_false, hs0, hb0, Bool.or_false, Bool.false_eq_true, if_false, hk0, if_pos hroom, M.bind, aNew, M.pure]
  · have hcl : 0 + n * sz ≤ cs.length := by omega
    have hno : ¬ (0 + (n + k) * sz ≤ cs.length) := by
      have : 0 < k * sz := Nat.mul_pos hk hsz
      rw [Nat.add_mul]; omega
    refine ⟨.slice H.n 0 (n + k) none sz, (H.set r .dead).push (.row (cs ++ new) true (2 * e + 1)), ?_, ⟨Or.inr ⟨H.n, 2 * e + 1, rfl, Nat.lt_succ_self _, push_get_eq (H := H.set r .dead), half_odd _, by rw [List.length_append, hnl, h5, Nat.add_mul], by omega⟩⟩, ⟨fun _ _ _ _ _ q => by cases q; exact Nat.le_refl _⟩, ⟨Nat.le_succ _, fun s hs hne => by
      have hsr : s ≠ r := fun q => hne.ne _ _ _ _ _ rfl q.symm
      rw [push_get_lt (H := H.set r .dead) hs, set_get_ne hsr]⟩⟩
    have ha : aRow r H = some ((cs, true), H) := by simp only [aRow, if_pos h2, h3]
    have hmv : aMove r e (.row (((cs.drop 0).take (n * sz)) ++ new) true (2 * e + 1)) H = some (H.n, (H.set r .dead).push (.row (cs ++ new) true (2 * e + 1))) := by
      simp only [aMove, h3, h4, nbeq_self]
      rw [List.drop_zero, List.take_of_length_le (by omega)]
    simp only [aAppend, hf.1]
    rw [bind_of hf.2]
    simp only [hone, hnl, Bool.not_true, ne_eq, not_true, decide_false, hs0, hb0, Bool.or_false, Bool.false_eq_true, if_false]
    rw [bind_of ha]
    simp only [hk0, if_false, hno, Bool.true_and, decide_eq_true hcl, decide_eq_true hroom, Bool.and_true, if_true]
    rw [bind_of hmv]
    rfl
theorem aFirst_at {H : AHeap} {q : AVal} {sz k : Nat} {new : List AVal} (h : SliceAt H q sz k new) : aLenOf q = some k ∧ aFirst sz k q H = some (new, H) := by
  rcases h.it with ⟨rfl, rfl, rfl⟩ | ⟨r, off, cap, row, rw, e0, rfl, hr, hg, hle, hc, _⟩
  · exact ⟨rfl, rfl⟩
  · exact ⟨rfl, by simp only [aFirst, ne_eq, not_true, if_false, M.bind, aRow, if_pos hr, hg, if_pos hle, hc, M.pure]⟩
section
variable {call : ACall} {fr : AFrame} {H : AHeap} {K : AVal → AHeap → Prop}
theorem WpX.grow {e : TypeId} {x y : ROpd} {p q : AVal} {sz n k bytes : Nat} {cs new : List AVal} (hx : x.ev fr = p) (hy : y.ev fr = q) [h : OwnS H p sz n cs e] [hq : SliceAt H q sz k new] (hsz : 0 < sz) (hb : 0 < bytes) (hk : 0 < k) (hroom : 2 * (n + k) * bytes ≤ 2 ^ 48) (hone : new.all AVal.one = true)
    (hK : ∀ p' H', OwnS H' p' sz (n + k) (cs ++ new) e → FreshS H p' → ExtP H H' p → K p' H') : WpX (.append e sz bytes x y) call fr H K := by
  obtain ⟨p', H', h1, h2, h3, h4⟩ := exec_grow h (aFirst_at hq) hq.len hsz hb hk hroom hone
  exact ⟨p', H', by simp only [ROp.exec, hx, hy]; exact h1, hK p' H' h2 h3 h4⟩
end
class HasLoop (H : AHeap) (r : Nat) (R : outParam RLoop) : Prop where
  lt : r < H.n
  get : H.get r = .loop R
instance {H : AHeap} {r : Nat} {R : RLoop} [h : HasLoop H r R] : LtN r H := ⟨h.lt⟩
theorem HasLoop.ext {H H' : AHeap} {r : Nat} {R : RLoop} (h : HasLoop H r R) (x : Ext H H') : HasLoop H' r R := ⟨Nat.lt_of_lt_of_le h.lt x.n, by rw [x.get r h.lt]; exact h.get⟩
instance {H H' : AHeap} {r : Nat} {R : RLoop} [x : ExtI H H'] [h : HasLoop H r R] : HasLoop H' r R := h.ext x.ext
instance {H : AHeap} {o : AObj} {r : Nat} {R : RLoop} [h : HasLoop H r R] : HasLoop (H.push o) r R := ⟨Nat.lt_succ_of_lt h.lt, by rw [push_get_lt h.lt]; exact h.get⟩
instance {H : AHeap} {R : RLoop} : HasLoop (H.push (.loop R)) H.n R := ⟨Nat.lt_succ_self _, push_get_eq⟩
instance {H : AHeap} {s : Nat} {o : AObj} {r : Nat} {R : RLoop} [h : HasLoop H r R] [k : NeR r s] : HasLoop (H.set s o) r R := ⟨h.lt, by rw [set_get_ne k.ne]; exact h.get⟩
instance {H : AHeap} {r : Nat} {R R' : RLoop} [h : HasLoop H r R'] : HasLoop (H.set r (.loop R)) r R := ⟨h.lt, set_get_eq⟩
instance {H H' : AHeap} {r : Nat} {R : RLoop} {q : AVal} [x : ExtP H H' q] [h : HasLoop H r R] [k : RowNe q r] : HasLoop H' r R := ⟨Nat.lt_of_lt_of_le h.lt x.n, by rw [x.get r h.lt k]; exact h.get⟩
theorem con_ofR {ext : Exts} {prog : FuncId → Option RFunc} {d : Nat} {f : FuncId} {rf : RFunc} {c : RCode} {args : List AVal} {H : AHeap} {Q : AVal → AHeap → Prop} (hp : prog f = some rf) (hc : rf.body = .ranges c) (hn : Nat.ble args.length rf.nt = true)
    (h : ∀ n, fuel0 + d ≤ n → Wp (callN ext prog n) n c (argFrame args) H fun x fr' H' => (match x with | .exit _ => False | _ => True) ∧ ∃ H2, takeMarks (marksOf (fr' rf.nt)) H' = some ((), H2) ∧ ∃ vs, getAll fr' rf.results H2 = some (vs, H2) ∧ Q (aResult vs) H2) : Con ext prog (d + 1) f args H Q := by
  intro n hle
  obtain ⟨k, rfl⟩ : ∃ k, n = k + 1 := ⟨n - 1, by unfold fuel0 at hle; omega⟩
  obtain ⟨nt, body, res⟩ := rf
  simp only [] at hc
  subst hc
  obtain ⟨x, fr', H', h1, h2, H2, h5, vs, h3, h4⟩ := h k (by omega)
  refine ⟨aResult vs, H2, ?_, h4⟩
  have hlt : ¬ nt < args.length := by have := Nat.le_of_ble_eq_true hn; simp only at this; omega
  simp only at h5 h3
  simp only [callN, hp, RFunc.run, if_neg hlt, M.bind, h1]
  cases x with
  | exit i => exact h2.elim
  | normal => simp only [M.bind, h5, h3, M.pure]
  | ret => simp only [M.bind, h5, h3, M.pure]
theorem takeMarks1 {H : AHeap} {d l : Nat} {R : RLoop} (h : HasLoop H l R) (hs : R.st = 3) (hd : R.d = d) : takeMarks [.ptr d l] H = some ((), H.set l (.loop { R with st := 4 })) := by
  have h1 : Nat.blt l H.n = true := by simpa using h.lt
  have h2 : (Nat.beq R.st 3 && Nat.beq R.d d) = true := by rw [hs, hd]; simp
  have h3 : takeMark (.ptr d l) H = some ((), H.set l (.loop { R with st := 4 })) := by
    show (match Nat.blt l H.n, H.get l with
      | true, .loop R => (match Nat.beq R.st 3 && Nat.beq R.d d with
        | true => some ((), H.set l (.loop { R with st := 4 }))
        | false => none)
      | _, _ => none) = _
    rw [h1, h.get]
    simp only [h2]
  show M.bind (takeMark (.ptr d l)) (fun _ => takeMarks []) H = _
  simp only [M.bind, h3, takeMarks, M.pure]
section
variable {call : ACall} {lf : Nat} {fr : AFrame} {H : AHeap} {Q : RExit → AFrame → AHeap → Prop}
theorem Wp.range {fns : List FuncId} {nt : Nat} {g : ROpd} {ps : List Nat} {a b : RCode} {gf : FuncId} {fi ca vs : List AVal} (hg : g.ev fr = .func (.func gf) fi ca) (hv : fr nt = .tuple vs) (hf : fns.contains gf = true)
    (h : ∃ v H2 R, call gf (fi ++ [.yield (H.n + 1)] ++ ca) ((H.push .dead).push (.loop ⟨H.n, nt, fr, ps, a, b, 0, .normal⟩)) = some (v, H2) ∧ H2.get (H.n + 1) = .loop R ∧ (Nat.beq R.st 1 || Nat.beq R.st 4) = false ∧
      Q R.pend (upd fr nt (.tuple (.ptr H.n (H.n + 1) :: vs))) (H2.set (H.n + 1) (.loop { R with st := 3 }))) : Wp call lf (.rangeFunc fns nt g ps a b) fr H Q := by
  obtain ⟨v, H2, R, h1, h2, h3, h4⟩ := h
  refine ⟨_, _, _, ?_, h4⟩
  simp only [RCode.exec, hg, hv, hf, h1, h2, h3]
end
theorem round_next {ext : Exts} {prog : FuncId → Option RFunc} {k r : Nat} {avs : List AVal} {H : AHeap} {K : AHeap → Prop} (hp : prog yieldId = none) {R : RLoop} (hl : HasLoop H r R) (hst : R.st = 0) (hpd : R.pend = .normal) (hlen : (Nat.beq avs.length R.ps.length && R.ps.all (fun t => Nat.blt t R.nt)) = true)
    (h : Wp (callN ext prog k) k R.assign (setAll R.fr (R.ps.zip avs)) H fun x fr1 H1 => x = .normal ∧ HasLoop H1 r R ∧ Wp (callN ext prog k) k R.body fr1 (H1.set r (.loop { R with st := 1 })) fun x _ H2 => x = .normal ∧ HasLoop H2 r { R with st := 1 } ∧ K (H2.set r (.loop R))) :
    ∃ H', callN ext prog (k + 1) yieldId (.yield r :: avs) H = some (.bool true, H') ∧ K H' := by
  obtain ⟨x, fr1, H1, h1, rfl, h2, x2, fr2, H2, h3, rfl, h4, h5⟩ := h
  refine ⟨_, ?_, h5⟩
  have e1 : Nat.blt r H.n = true := by simpa using hl.lt
  have e2 : Nat.beq R.st 0 = true := by rw [hst]; rfl
  have e3 : ({ R with st := 0, pend := .normal } : RLoop) = R := by rw [← hst, ← hpd]
  have e4 : Nat.beq yieldId yieldId = true := by simp
  simp only [callN, hp, e4]
  unfold roundRun
  simp only [e1, hl.get, hlen, h1, h2.get, e2, h3, h4.get, Nat.beq_refl, e3]
end Go.Am

namespace Go.Am
open Go
abbrev Bs := List UInt8
abbrev strV (l : Bs) : AVal := .str ⟨l.toArray⟩
theorem str_size (l : Bs) : (⟨l.toArray⟩ : ByteArray).size = l.length := by
  show l.toArray.size = l.length
  simp
section
variable {call : ACall} {fr : AFrame} {H : AHeap} {KF : AFrame → AHeap → Prop} {os : List ROper} {d : Nat}
theorem exec_lenStr {x : ROpd} {l : Bs} (hx : x.ev fr = strV l) : (ROp.lenStr x).exec call fr H = some (.int .i64 l.length, H) := by
  simp only [ROp.exec, hx, aLenStr, str_size, M.ofOption, M.pure]
theorem Fo.lenStr {x : ROpd} {l : Bs} {v : AVal} (hx : x.ev fr = strV l) (hv : AVal.int .i64 l.length = v) (h : WpO call os (upd fr d v) H KF) : WpO call (⟨some d, .lenStr x, none⟩ :: os) fr H KF := by
  subst hv; exact WpO.step rfl ⟨_, _, exec_lenStr hx, h⟩
end
theorem Fo.uptr {call : ACall} {fr : AFrame} {H : AHeap} {KF : AFrame → AHeap → Prop} {os : List ROper} {d : Nat} {t s r : Nat} {x : ROpd} {cs : List AVal} (hx : x.ev fr = .ptr r 0) [h : HasRow H r cs true (2 * t)] (hs : Nat.ble s cs.length = true) (h0 : Nat.blt 0 s = true) (hK : WpO call os (upd fr d (.ptr r 0)) H KF) :
    WpO call (⟨some d, .uptr t s x, none⟩ :: os) fr H KF := by
  refine WpO.step rfl ⟨.ptr r 0, H, ?_, hK⟩
  have h1 : Nat.blt r H.n = true := by simpa using h.lt
  have h2 : (Nat.blt r H.n && Nat.beq 0 0 && Nat.blt 0 s) = true := by rw [h1, h0]; rfl
  have h3 : (Nat.beq (2 * t) (2 * t) && Nat.ble s cs.length) = true := by rw [hs]; simp
  have h4 : aUptr t s (.ptr r 0) H = some (.ptr r 0, H) := by
    show (match Nat.blt r H.n && Nat.beq 0 0 && Nat.blt 0 s with
      | true => (match H.get r with
        | .row cs true e => (match Nat.beq e (2 * t) && Nat.ble s cs.length with
          | true => some (AVal.ptr r 0, H)
          | false => none)
        | _ => none)
      | false => none) = _
    rw [h2, h.get]
    simp only [h3]
  show aUptr t s (x.ev fr) H = _
  rw [hx, h4]
theorem WpX.growX {call : ACall} {fr : AFrame} {H : AHeap} {K : AVal → AHeap → Prop} {e : TypeId} {x y : ROpd} {p q : AVal} {sz n k bytes : Nat} {cs new : List AVal} (hx : x.ev fr = p) (hy : y.ev fr = q) (h : OwnS H p sz n cs e) (hq : SliceAt H q sz k new) (hsz : 0 < sz) (hb : 0 < bytes) (hk : 0 < k) (hroom : 2 * (n + k) * bytes ≤ 2 ^ 48) (hone : new.all AVal.one = true)
    (hK : ∀ p' H', OwnS H' p' sz (n + k) (cs ++ new) e → FreshS H p' → ExtP H H' p → K p' H') : WpX (.append e sz bytes x y) call fr H K := WpX.grow hx hy hsz hb hk hroom hone hK
theorem WpX.yield {call : ACall} {fr : AFrame} {H : AHeap} {K : AVal → AHeap → Prop} {r : Nat} {o : ROpd} {l : List ROpd} {args : List AVal} (hf : o.ev fr = .yield r) (hl : l.map (·.ev fr) = args) (h : ∃ v H', call yieldId (.yield r :: args) H = some (v, H') ∧ K v H') : WpX (.call o l) call fr H K := by
  obtain ⟨v, H', h1, h2⟩ := h
  refine ⟨v, H', ?_, h2⟩
  simp only [ROp.exec, hf, hl, aCallV]
  exact h1
end Go.Am


namespace Go.Am
open Go
attribute [local irreducible] Wp WpO WpX WpE
end Go.Am


namespace Go.Am
open Go
attribute [local irreducible] Wp WpO WpX WpE
end Go.Am


namespace Go.Am
open Go
attribute [local irreducible] Wp WpO WpX WpE
abbrev RunT := Int × Int × Int
def cellsR (l : List RunT) : List AVal := l.flatMap fun r => [.int .i64 r.1, .int .i64 r.2.1, .int .i64 r.2.2]
end Go.Am


namespace Go.Am
open Go
attribute [local irreducible] Wp WpO WpX WpE
def bitC (z : Int) : UInt8 := ⟨BitVec.ofInt 8 z &&& 1⟩
theorem bitC_eq (z : Int) : Go.bits .and .u8 z 1 = ((bitC z).toNat : Int) := by
 show IntKind.u8.wrap ((BitVec.ofInt 8 z &&& BitVec.ofInt 8 1).toNat : Int) = _
 exact wrap_u8 (by have := (bitC z).toNat_lt; exact this)
theorem bitC_01 (z : Int) : bitC z = 0 ∨ bitC z = 1 := by
 have h : (bitC z).toNat = (BitVec.ofInt 8 z).toNat % 2 := by
  show (BitVec.ofInt 8 z &&& 1#8).toNat = _
  rw [BitVec.toNat_and]
  exact Nat.and_one_is_mod _
 rcases Nat.mod_two_eq_zero_or_one (BitVec.ofInt 8 z).toNat with h0 | h0
 ·exact Or.inl (UInt8.toNat_inj.1 (by rw [h, h0]; rfl))
 ·exact Or.inr (UInt8.toNat_inj.1 (by rw [h, h0]; rfl))
theorem wq8 {i : Nat} (h : i < 9223372036854775808) : IntKind.i64.wrap ((i : Int).tdiv 8) = ((i / 8 : Nat) : Int) := by
 have e : (i : Int).tdiv 8 = ((i / 8 : Nat) : Int) := rfl
 rw [e]; exact w64 (by omega)
theorem wr8 {i : Nat} : (i : Int).tmod 8 = ((i % 8 : Nat) : Int) := rfl
theorem pxOk_rep (n : Nat) : pxOk (List.replicate n 0) = true := by
 simp [pxOk, List.all_replicate]
theorem pxOk_set {l : List UInt8} {i : Nat} {c : UInt8} (h : pxOk l = true) (hc : c = 0 ∨ c = 1) : pxOk (l.set i c) = true := by
 unfold pxOk at h ⊢
 rw [List.all_eq_true] at h ⊢
 intro x hx
 rcases List.mem_or_eq_of_mem_set hx with h1 | rfl
 ·exact h x h1
 ·rcases hc with rfl | rfl <;> rfl
structure Ok (a b : Nat) (l : List UInt8) : Prop where
 wa : a ≤ 640
 hb : b ≤ 640
 len : l.length = a * b
 px : pxOk l = true
theorem Ok.sized {a b : Nat} {l : List UInt8} (h : Ok a b l) : sizedB a b l.length = true := by
 have hm : a * b ≤ 640 * 640 := Nat.mul_le_mul h.wa h.hb
 have h1 : sideB a = true := by simp only [sideB, Bool.and_eq_true, decide_eq_true_eq]; have := h.wa; omega
 have h2 : sideB b = true := by simp only [sideB, Bool.and_eq_true, decide_eq_true_eq]; have := h.hb; omega
 unfold sizedB
 rw [h1, h2, wm (by omega), h.len]
 simp
theorem Ok.err {a b : Nat} {l : List UInt8} (h : Ok a b l) : Img.err ⟨a, b, l⟩ = 0 := by
 have h1 : (⟨a, b, l⟩ : Img).sized = true := h.sized
 have h2 := h.px
 unfold Img.err
 rw [h1]
 simp only [h2, cond_true]
theorem Ok.short {a b : Nat} {l : List UInt8} (h : Ok a b l) : l.length ≤ 409600 := by
 have hm : a * b ≤ 640 * 640 := Nat.mul_le_mul h.wa h.hb
 rw [h.len]; omega
def NewOk (H H' : AHeap) (v : AVal) (wm hm : Nat) : Prop := ∃ (a b : Nat) (l : List UInt8), a ≤ wm ∧ b ≤ hm ∧ Ok a b l ∧ NewInk H H' v ⟨a, b, l⟩
theorem K_Made {s : Nat} {p : AVal} {H : AHeap} {bits : List UInt8} [hp : BytesI H p bits] (hs : s < 65536) : Con ext prog 1 40 [.int .u16 s, p] H fun v H' => NewOk H H' v 40 30 := by
 refine con_of (show prog 40 = some c40 from rfl) rfl rfl fun n hn => ?_
 haveI := hp.one
 have e1 : IntKind.i64.wrap ((s : Int).tmod 41) = ((s % 41 : Nat) : Int) := by
  have e : (s : Int).tmod 41 = ((s % 41 : Nat) : Int) := rfl
  rw [e]; exact w64 (by omega)
 have e2 : IntKind.u16.wrap ((s : Int).tdiv 41) = ((s / 41 : Nat) : Int) := by
  have e : (s : Int).tdiv 41 = ((s / 41 : Nat) : Int) := rfl
  have h1 : IntKind.u16.wrap ((s / 41 : Nat) : Int) = if (false && decide (((s / 41 : Nat) : Int) % 2 ^ 16 ≥ 2 ^ 15)) = true then ((s / 41 : Nat) : Int) % 2 ^ 16 - 2 ^ 16 else ((s / 41 : Nat) : Int) % 2 ^ 16 := rfl
  rw [e, h1]
  simp only [Bool.false_and, Bool.false_eq_true, if_false]
  omega
 have e3 : IntKind.i64.wrap (((s / 41 : Nat) : Int).tmod 31) = ((s / 41 % 31 : Nat) : Int) := by
  have e : ((s / 41 : Nat) : Int).tmod 31 = ((s / 41 % 31 : Nat) : Int) := rfl
  rw [e]; exact w64 (by omega)
 obtain ⟨a, ha⟩ : ∃ a, s % 41 = a := ⟨_, rfl⟩
 obtain ⟨b, hb⟩ : ∃ b, s / 41 % 31 = b := ⟨_, rfl⟩
 rw [ha] at e1
 rw [hb] at e3
 have ha : a ≤ 40 := by omega
 have hb : b ≤ 30 := by omega
 have hm : a * b ≤ 40 * 30 := Nat.mul_le_mul ha hb
 have hc : IntKind.i64.wrap ((a : Int) * (b : Int)) = ((a * b : Nat) : Int) := wm (by omega)
 repeat first
  | refine mI ?_
  | (refine bn rfl rfl rfl (by simp only [↓nrmL, nrmZ, Nat.reduceEqDiff, ↓reduceIte, Nat.reduceAdd, Int.reduceBEq, Int.reduceBNe, e1, e2, e3, hc]; rfl) ?_)
  | refine b0 ?_
  | refine nw ?_
  | (refine Fo.now rfl rfl (by simp only [↓nrmL, nrmZ, Nat.reduceEqDiff, ↓reduceIte, Nat.reduceAdd, Int.reduceBEq, Int.reduceBNe, e1, e2, e3, hc]; rfl) ?_)
  | refine nl hKF ?_
  | refine sq ?_
  | refine rg fun KF hKF => ?_
 refine WpO.do (WpX.mkB rfl rfl rfl (by omega) fun q H1 e1 hq hf hw' hx => ?_); try simp only [↓nrmL, nrmZ, Nat.reduceEqDiff, ↓reduceIte, Nat.reduceAdd, Int.reduceBEq, Int.reduceBNe, hc]
 haveI := hq.one
 refine ob (cs' := ?_) ?hc ?_; case hc => (simp only [↓nrmL, nrmZ, Nat.reduceEqDiff, ↓reduceIte, Nat.reduceAdd, Int.reduceBEq, Int.reduceBNe]; rfl)
 refine nw ?_
 refine so rfl (rfl : _ = AVal.agg _) rfl rfl rfl (by simp only [↓nrmL, nrmZ, Nat.reduceEqDiff, ↓reduceIte, Nat.reduceAdd, Int.reduceBEq, Int.reduceBNe]; rfl) ?_
 refine nl hKF ?_
 refine sq ?_
 refine sq ?_
 refine rg fun KF hKF => ?_
 refine fd ?_
 refine Fo.ld rfl rfl ?_
 refine ln (by simp only [↓nrmL, nrmK, Nat.reduceEqDiff, ↓reduceIte]; rfl) ?_
 refine mI ?_
 refine nl hKF ?_
 refine Wp.block ?_
 dsimp only [cond_true, cond_false]
 refine Wp.loopS [8, 26, 27, 28, 29, 30, 31, 32, 33, 34, 35, 36, 37, 38, 39, 40, 41, 42, 43, 44, 45, 46, 47] (fun t : Nat × List UInt8 => [(26, .int .i64 t.1)]) (fun H3 t H2 => t.1 ≤ a * b ∧ t.2.length = a * b ∧ pxOk t.2 = true ∧ BytesI H2 q t.2 ∧ WrS H2 q ∧ ExtP0 H3 H2 q) (fun t => a * b - t.1) (0, List.replicate (a * b) 0) rfl (fun _ => rfl) ⟨rfl, trivial⟩ ⟨Nat.zero_le _, List.length_replicate, pxOk_rep _, inferInstance, inferInstance, inferInstance⟩ (by unfold fuel0 at hn; omega) ?_
 rintro ⟨i, t⟩ g H2 ⟨hi, hlen, hpx, hb2, hw2, ⟨hx2⟩⟩
 dsimp only at hi hlen hpx hb2
 simp only [↓nrmL, nrmZ, Nat.reduceEqDiff, ↓reduceIte, Nat.reduceAdd, Int.reduceBEq, Int.reduceBNe, List.length_replicate]
 cases hcc : decide ((i : Int) < ((a * b : Nat) : Int))
 ·have hil : i = a * b := by have := of_decide_eq_false hcc; omega
  subst hil
  repeat first
   | (refine Fo.ldN rfl rfl (by simp only [↓nrmL, nrmZ, Nat.reduceEqDiff, ↓reduceIte, Nat.reduceAdd, Int.reduceBEq, Int.reduceBNe, hcc]; rfl) ?_)
   | (refine bn rfl rfl rfl (by simp only [↓nrmL, nrmZ, Nat.reduceEqDiff, ↓reduceIte, Nat.reduceAdd, Int.reduceBEq, Int.reduceBNe, hcc]; rfl) ?_)
   | (refine so rfl (rfl : _ = AVal.agg _) rfl rfl rfl (by simp only [↓nrmL, nrmZ, Nat.reduceEqDiff, ↓reduceIte, Nat.reduceAdd, Int.reduceBEq, Int.reduceBNe, hcc]; rfl) ?_)
   | refine nl hKF ?_
   | refine sq ?_
   | refine rg fun KF hKF => ?_
   | refine cf rfl ?_
   | refine rt ?_
   | refine xi ?_
   | dsimp only [cond_true, cond_false]
  refine rz trivial ?_
  exact ⟨a, b, t, ha, hb, ⟨by omega, by omega, hlen, hpx⟩, q, rfl, (show BytesI _ q t from inferInstance), hf.weak, inferInstance, Ext0.ext⟩
 ·have hil : i < a * b := by have := of_decide_eq_true hcc; omega
  have hw1 := wa1 (a := i) (by omega)
  have hq8 := wq8 (i := i) (by omega)
  cases ht : decide (((i / 8 : Nat) : Int) < ((bits.length : Nat) : Int))
  ·skip
   repeat first
    | refine mI ?_
    | (refine mv ?_)
    | (refine bn rfl rfl rfl (by simp only [↓nrmL, nrmZ, Nat.reduceEqDiff, ↓reduceIte, Nat.reduceAdd, Int.reduceBEq, Int.reduceBNe, hcc, hq8, ht]; rfl) ?_)
    | refine b0 ?_
    | (refine ln (by simp only [↓nrmL, nrmK, Nat.reduceEqDiff, ↓reduceIte]; rfl) ?_)
    | refine nl hKF ?_
    | refine sq ?_
    | refine rg fun KF hKF => ?_
    | refine ct rfl ?_
    | refine cf rfl ?_
    | refine sk ?_
    | refine Wp.block ?_
    | dsimp only [cond_true, cond_false]
   exact ⟨(i + 1, t), by dsimp only; omega, ⟨by simp only [↓nrmL, nrmZ, Nat.reduceEqDiff, ↓reduceIte, Nat.reduceAdd, Int.reduceBEq, Int.reduceBNe]; rw [hw1], trivial⟩, hil, hlen, hpx, hb2, hw2, inferInstance⟩
  ·have hbi : i / 8 < bits.length := by have := of_decide_eq_true ht; omega
   repeat first
    | refine mI ?_
    | (refine mv ?_)
    | (refine bn rfl rfl rfl (by simp only [↓nrmL, nrmZ, Nat.reduceEqDiff, ↓reduceIte, Nat.reduceAdd, Int.reduceBEq, Int.reduceBNe, hcc, hq8, ht]; rfl) ?_)
    | (refine ln (by simp only [↓nrmL, nrmK, Nat.reduceEqDiff, ↓reduceIte]; rfl) ?_)
    | refine nl hKF ?_
    | refine sq ?_
    | refine rg fun KF hKF => ?_
    | refine ct rfl ?_
    | refine sk ?_
    | refine Wp.block ?_
    | dsimp only [cond_true, cond_false]
   refine Fr.dregion0 rfl fun KF hKF => ?_
   repeat first
    | (refine Er rfl (exec_ld rfl rfl) rfl ?_)
    | (refine Fe.pure rfl rfl (by simp only [↓nrmL, nrmZ, Nat.reduceEqDiff, ↓reduceIte, Nat.reduceAdd, Int.reduceBEq, Int.reduceBNe, hq8, wr8]; rfl) ?_)
    | refine Fe.pure rfl rfl rfl ?_
    | (refine Fe.pure rfl (exec_idxP (by (try simp only [↓nrmL, nrmZ, Nat.reduceEqDiff, ↓reduceIte, Nat.reduceAdd, Int.reduceBEq, Int.reduceBNe, hq8, wr8]); rfl) rfl ?_) (by simp only [↓nrmL, nrmZ, Nat.reduceEqDiff, ↓reduceIte, Nat.reduceAdd, Int.reduceBEq, Int.reduceBNe, hq8, wr8]; rfl) ?_; (focus omega))
    | (refine Er rfl (exec_ldB rfl (by omega)) rfl ?_)
   refine WpE.stB (bitC _) rfl rfl rfl (bitC_eq _) (by rw [hlen]; exact hil) fun H4 hb4 hw4 hx4 => ar ?_
   refine WpE.nil (hKF _ _ ?_)
   refine rg fun KF hKF => ?_
   refine b0 ?_
   refine mI ?_
   refine nl hKF ?_
   dsimp only [cond_true, cond_false]
   exact ⟨(i + 1, _), by dsimp only; omega, ⟨by simp only [↓nrmL, nrmZ, Nat.reduceEqDiff, ↓reduceIte, Nat.reduceAdd, Int.reduceBEq, Int.reduceBNe]; rw [hw1], trivial⟩, hil, by rw [List.length_set]; exact hlen, pxOk_set hpx (bitC_01 _), hb4, hw4, inferInstance⟩
end Go.Am


namespace Go.Am
open Go
attribute [local irreducible] Wp WpO WpX WpE
end Go.Am


namespace Go.Am
open Go
attribute [local irreducible] Wp WpO WpX WpE
end Go.Am


namespace Go.Am
open Go
attribute [local irreducible] Wp WpO WpX WpE
instance {H : AHeap} {r : Nat} {a b c : AVal} {rw : Bool} {ty : TypeId} [h : HasRow H r [a, b, c] rw ty] : SliceAt H (.slice r 0 1 (some 1) 3) 3 1 [a, b, c] := ⟨Or.inr ⟨r, 0, some 1, _, rw, ty, rfl, h.lt, h.get, by simp, rfl, Nat.le_refl _⟩⟩
structure JR (Hb : AHeap) (rl r : Nat) (R0 : RLoop) (acc : List RunT) (H : AHeap) : Prop where
 n : Hb.n ≤ H.n
 get : ∀ s, s < Hb.n → s ≠ rl → H.get s = Hb.get s
 cell : ∃ p e, HasRow H rl [p] true e ∧ OwnS H p 3 acc.length (cellsR acc) 110 ∧ RowNe p rl ∧ FreshS Hb p
 loop : HasLoop H r R0
theorem JR.more {Hb H H' : AHeap} {rl r : Nat} {R0 : RLoop} {acc : List RunT} (h : JR Hb rl r R0 acc H) (x : Ext H H') : JR Hb rl r R0 acc H' := by
 obtain ⟨p, e, h1, h2, h3, h4⟩ := h.cell
 haveI : ExtI H H' := ⟨x⟩
 have h5 := h.loop
 have hn := h.n
 exact ⟨Nat.le_trans h.n x.n, fun s hs hne => by rw [x.get s (by omega)]; exact h.get s hs hne, ⟨p, e, inferInstance, inferInstance, h3, h4⟩, inferInstance⟩
end Go.Am


namespace Go.Am
open Go
attribute [local irreducible] Wp WpO WpX WpE
theorem JR.row {Hb H : AHeap} {rl r s : Nat} {R0 : RLoop} {acc : List RunT} {cs : List AVal} {rw : Bool} {e : TypeId} (h : JR Hb rl r R0 acc H) (k : HasRow Hb s cs rw e) (hne : s ≠ rl) : HasRow H s cs rw e := ⟨Nat.lt_of_lt_of_le k.lt h.n, by rw [h.get s k.lt hne]; exact k.get⟩
theorem JR.bytes {Hb H : AHeap} {rl r : Nat} {R0 : RLoop} {acc : List RunT} {p : AVal} {l : List UInt8} (h : JR Hb rl r R0 acc H) (k : BytesI Hb p l) (hne : RowNe p rl) : BytesI H p l := k.keep h.n fun s _ _ _ _ e hs => h.get s hs (hne.ne _ _ _ _ _ e)
theorem JR.ext {Hh Hb H : AHeap} {rl r : Nat} {R0 : RLoop} {acc : List RunT} (h : JR Hb rl r R0 acc H) (x : Ext Hh Hb) (hrl : Hh.n ≤ rl) : Ext Hh H := ⟨Nat.le_trans x.n h.n, fun s hs => by have := x.n; rw [h.get s (by omega) (by omega), x.get s hs]⟩
theorem JR.start {Hb : AHeap} {rl : Nat} {R0 : RLoop} {e : TypeId} (k : HasRow Hb rl [.nslice] true e) : JR Hb rl (Hb.n + 1) R0 [] ((Hb.push .dead).push (.loop R0)) := by
 have hlt := k.lt
 refine ⟨by simp only [AHeap.push]; omega, fun s hs _ => ?_, ⟨.nslice, e, inferInstance, ⟨Or.inl ⟨rfl, rfl, rfl⟩⟩, inferInstance, ⟨fun _ _ _ _ _ q => by cases q⟩⟩, (inferInstance : HasLoop ((Hb.push .dead).push (.loop R0)) (Hb.push .dead).n R0)⟩
 rw [push_get_lt (by simp only [AHeap.push]; omega), push_get_lt hs]
end Go.Am

namespace Go.Am
open Go Go.RowKit
section
variable {call : ACall} {fr : AFrame} {H : AHeap}
theorem exec_pre {x y : ROpd} {p : AVal} {k : IntKind} {n b : Nat} {cs : List AVal} (hx : x.ev fr = p) (hy : y.ev fr = .int k (b : Int)) (hb : b ≤ n) [s : SliceAt H p 1 n cs] :
    ∃ v, (ROp.sliceS 1 x none (some y) none).exec call fr H = some (v, H) ∧ SliceAt H v 1 b (cs.take b) ∧ OneV v ∧ (∀ r off len cap sz, v = .slice r off len cap sz → ∃ off' len' cap' sz', p = .slice r off' len' cap' sz') := by
  have hbd : ∀ y0, b ≤ y0 → aBound y0 (.int k (b : Int)) = some b := by
    intro y0 hy0
    simp only [aBound]
    rw [if_pos (by omega), Int.toNat_natCast]
  rcases s.it with ⟨rfl, rfl, rfl⟩ | ⟨r, off, cap, row, rw, e, rfl, hr, hg, hl, hc, hcap⟩
  · have : b = 0 := by omega
    subst this
    refine ⟨.nslice, ?_, ⟨Or.inl ⟨rfl, rfl, rfl⟩⟩, inferInstance, fun _ _ _ _ _ e => by cases e⟩
    simp only [ROp.exec, hx, Option.map_none, Option.map_some, hy, aSliceS, aBounds, aHigh, capD, hbd 0 (Nat.le_refl _), aLow, M.pure]
  · rw [Nat.mul_one] at hl hc
    have hb0 : aBounds n cap none (some (.int k (b : Int))) none = some (0, b, cap) := by
      simp only [aBounds, aHigh, hbd _ (Nat.le_trans hb hcap), aLow]
    have hs : ∀ cap', b ≤ capD b cap' → SliceAt H (.slice r off b cap' 1) 1 b (cs.take b) := fun cap' h' =>
      ⟨Or.inr ⟨r, off, cap', row, rw, e, rfl, hr, hg, by omega, by rw [Nat.mul_one, ← hc, List.take_take, Nat.min_eq_left hb], h'⟩⟩
    cases cap with
    | some c =>
      simp only [capD] at hcap
      by_cases hc0 : c = 0
      · have : b = 0 := by omega
        subst this
        refine ⟨.slice r off 0 (some 0) 1, ?_, hs _ (Nat.zero_le _), inferInstance, fun _ _ _ _ _ e => by cases e; exact ⟨_, _, _, _, rfl⟩⟩
        simp only [ROp.exec, hx, Option.map_none, Option.map_some, hy, aSliceS, ne_eq, not_true, if_false, hb0, M.pure, if_pos hc0]
      · refine ⟨.slice r off b (some c) 1, ?_, hs _ (by simp only [capD]; omega), inferInstance, fun _ _ _ _ _ e => by cases e; exact ⟨_, _, _, _, rfl⟩⟩
        simp only [ROp.exec, hx, Option.map_none, Option.map_some, hy, aSliceS, ne_eq, not_true, if_false, hb0, M.pure, if_neg hc0, Nat.zero_mul, Nat.add_zero, Nat.sub_zero]
    | none =>
      refine ⟨.slice r off b none 1, ?_, hs _ (Nat.le_refl _), inferInstance, fun _ _ _ _ _ e => by cases e; exact ⟨_, _, _, _, rfl⟩⟩
      have h2 : ¬ row.length < off + n := by omega
      have hrow : aRow r H = some ((row, rw), H) := by simp only [aRow, if_pos hr, hg]
      simp only [ROp.exec, hx, Option.map_none, Option.map_some, hy, aSliceS, ne_eq, not_true, if_false, hb0, Nat.mul_one, Nat.one_ne_zero, M.bind, hrow, if_neg h2, or_true, if_true, M.pure, Nat.add_zero, Nat.sub_zero]
theorem Fo.pre {KF : AFrame → AHeap → Prop} {os : List ROper} {d : Nat} {x y : ROpd} {p : AVal} {k : IntKind} {n b : Nat} {cs : List AVal} (hx : x.ev fr = p) (hy : y.ev fr = .int k (b : Int)) (hb : b ≤ n) [s : SliceAt H p 1 n cs]
    (h : ∀ v, SliceAt H v 1 b (cs.take b) → OneV v → (∀ r off len cap sz, v = .slice r off len cap sz → ∃ off' len' cap' sz', p = .slice r off' len' cap' sz') → WpO call os (upd fr d v) H KF) : WpO call (⟨some d, .sliceS 1 x none (some y) none, none⟩ :: os) fr H KF := by
  obtain ⟨v, h1, h2, h3, h4⟩ := exec_pre (call := call) hx hy hb (s := s)
  exact WpO.step rfl ⟨v, H, h1, h v h2 h3 h4⟩
end
section
variable {P : Program} {H : AHeap} {n : Nat} {t e : TypeId} {cs : List AVal}
end
section
variable {call : ACall} {lf : Nat} {fr : AFrame} {H : AHeap} {Q : RExit → AFrame → AHeap → Prop} {a b : RCode}
end
end Go.Am

namespace Go.Am
open Go
attribute [local irreducible] Wp WpO WpX WpE
class SlimI (l : List Int) : Prop where
 le : l.length ≤ 17592186044416
class SlimL (ls : List (List Int)) : Prop where
 le : ls.length ≤ 5864062014805
 it : ∀ (i : Nat) (h : i < ls.length), SlimI ls[i]
theorem row_one1 {H : AHeap} {r : Nat} {a : AVal} {rw : Bool} {ty : TypeId} (h : HasRow H r [a] rw ty) : SliceAt H (.slice r 0 1 (some 1) 1) 1 1 [a] := ⟨Or.inr ⟨r, 0, some 1, _, rw, ty, rfl, h.lt, h.get, by simp, rfl, Nat.le_refl _⟩⟩
structure Copied (B : Nat) (H : AHeap) (cells : List AVal) (ls : List (List Int)) (i : Nat) : Prop where
 it : ∀ j (h : j < ls.length), j < i → ∃ q, cells[j]? = some q ∧ OwnS H q 1 ls[j].length (cellsI ls[j]) 3 ∧ ∀ r off len cap sz, q = .slice r off len cap sz → B ≤ r
theorem Copied.keep {B : Nat} {H H' : AHeap} {cells : List AVal} {ls : List (List Int)} {i : Nat} (h : Copied B H cells ls i) (hn : H.n ≤ H'.n) (hg : ∀ s cs e, s < H.n → B ≤ s → H.get s = .row cs true e → e / 2 = 3 → H'.get s = H.get s) : Copied B H' cells ls i := ⟨fun j h1 h2 => by
 obtain ⟨q, h3, h4, h5⟩ := h.it j h1 h2
 refine ⟨q, h3, ?_, h5⟩
 rcases h4.it with ⟨a1, a2, a3⟩ | ⟨r, e', a1, a2, a3, a4, a5, a6⟩
 ·exact ⟨Or.inl ⟨a1, a2, a3⟩⟩
 ·exact ⟨Or.inr ⟨r, e', a1, by omega, by rw [hg r _ _ a2 (h5 _ _ _ _ _ a1) a3 a4]; exact a3, a4, a5, a6⟩⟩⟩
def LinesF (B : Nat) (H' : AHeap) (v : AVal) (ls : List (List Int)) : Prop := ∀ H'', H'.n ≤ H''.n → (∀ r, B ≤ r → r < H'.n → H''.get r = H'.get r) → LinesI H'' v ls
theorem LinesF.mk {B : Nat} {H' : AHeap} {v : AVal} {cells : List AVal} {ls : List (List Int)} {e : TypeId} (h : Copied B H' cells ls ls.length) (ho : OwnS H' v 1 ls.length cells e) (hB : ∀ r off len cap sz, v = .slice r off len cap sz → B ≤ r) : LinesF B H' v ls := fun H'' hn hg => by
 have h2 := h.keep hn fun s cs e h1 h2 _ _ => hg s h2 h1
 have ho2 : OwnS H'' v 1 ls.length cells e := ho.keep hn fun r _ _ _ _ e h1 => hg r (hB _ _ _ _ _ e) h1
 exact ⟨cells, ho2.sl, ⟨fun j hj => by obtain ⟨q, a1, a2, _⟩ := h2.it j hj hj; exact ⟨q, a1, a2.sl⟩⟩⟩
theorem LinesF.now {B : Nat} {H' : AHeap} {v : AVal} {ls : List (List Int)} (h : LinesF B H' v ls) : LinesI H' v ls := h H' (Nat.le_refl _) fun _ _ _ => rfl
theorem LinesF.weak {B B' : Nat} {H' : AHeap} {v : AVal} {ls : List (List Int)} (h : LinesF B H' v ls) (hB : B' ≤ B) : LinesF B' H' v ls := fun H'' hn hg => h H'' hn fun r h1 h2 => hg r (by omega) h2
theorem LinesF.step {B : Nat} {H' H2 : AHeap} {v : AVal} {ls : List (List Int)} (h : LinesF B H' v ls) (hn : H'.n ≤ H2.n) (hg : ∀ r, B ≤ r → r < H'.n → H2.get r = H'.get r) : LinesF B H2 v ls := fun H'' hn' hg' => h H'' (by omega) fun r h1 h2 => by rw [hg' r h1 (by omega), hg r h1 h2]
end Go.Am

namespace Go.Am
open Go
attribute [local irreducible] Wp WpO WpX WpE
instance K_change {a b : Nat} {H : AHeap} : PureCon ext prog 53 [.int .i64 (a : Int), .int .i64 (b : Int)] H 1 (.int .i64 (chg a b)) := ⟨by
 refine con_of (show prog 53 = some c53 from rfl) rfl rfl fun n hn => ?_
 cases h0 : ((a : Int) == (b : Int))
 ·have e : chg a b = 1 := by
   unfold chg
   rw [if_neg]
   intro e; subst e; simp at h0
  rw [e]
  repeat first
   | refine mI ?_
   | (refine bn rfl rfl rfl (by simp only [h0]; rfl) ?_)
   | refine nl hKF ?_
   | refine sq ?_
   | refine rg fun KF hKF => ?_
   | refine cf rfl ?_
   | refine sk ?_
   | refine rt ?_
   | dsimp only [cond_true, cond_false]
  refine rz trivial ?_
  exact ⟨rfl, Ext0.ext⟩
 ·have e : chg a b = 0 := by
   unfold chg
   rw [if_pos]
   have : (a : Int) = (b : Int) := by simpa using h0
   omega
  rw [e]
  repeat first
   | refine mI ?_
   | (refine bn rfl rfl rfl (by simp only [h0]; rfl) ?_)
   | refine nl hKF ?_
   | refine sq ?_
   | refine rg fun KF hKF => ?_
   | refine ct rfl ?_
   | refine rt ?_
   | dsimp only [cond_true, cond_false]
  refine rz trivial ?_
  exact ⟨rfl, Ext0.ext⟩⟩
theorem K_beside {y h : Int} {H : AHeap} : Con ext prog 1 113 [.int .i64 y, .int .i64 h] H fun v H' => ∃ r1 r2, v = .func (.func 133) [] [.ptr r1 0, .ptr r2 0] ∧ HasRow H' r1 [.int .i64 y] true (2 * 3) ∧ HasRow H' r2 [.int .i64 h] true (2 * 3) ∧ Ext H H' ∧ H.n ≤ r1 ∧ H.n ≤ r2 := by
 refine con_of (show prog 113 = some c113 from rfl) rfl rfl fun n hn => ?_
 repeat first
  | refine mF ?_
  | (refine mv ?_)
  | refine Fo.box1 (rfl : _ = AVal.int _ _) ?_
  | refine Fo.now rfl rfl rfl ?_
  | refine nl hKF ?_
  | refine sq ?_
  | refine rg fun KF hKF => ?_
  | refine rt ?_
  | dsimp only [cond_true, cond_false]
 refine rz trivial ?_
 exact ⟨_, _, rfl, inferInstance, inferInstance, Ext0.ext, Nat.le_refl _, by simp only [AHeap.push]; omega⟩
theorem K_besideI {y h : Nat} {r r1 r2 : Nat} {e1 e2 : TypeId} {w1 w2 : Bool} {J : Nat → AHeap → Prop} {H : AHeap} {D : Nat} (hh : 0 < h) (hh2 : h ≤ 640) (hy : y < h)
  (hrow : ∀ z H, J z H → HasRow H r1 [.int .i64 (y : Int)] w1 e1 ∧ HasRow H r2 [.int .i64 (h : Int)] w2 e2)
  (hstep : ∀ z H, loB y ≤ z → z ≤ hiB h y → J z H → ∀ n, fuel0 + D ≤ n → ∃ H', callN ext prog n yieldId [.yield r, .int .i64 (z : Int)] H = some (.bool true, H') ∧ J (z + 1) H')
  (hJ : J (loB y) H) : Con ext prog (D + 2) 133 [.yield r, .ptr r1 0, .ptr r2 0] H fun _ H' => J (hiB h y + 1) H' := by
 refine con_of (show prog 133 = some c133 from rfl) rfl rfl fun n hn => ?_
 obtain ⟨k1, k2⟩ := hrow _ _ hJ
 have hmax : (if (0 : Int) > (y : Int) - 1 then (0 : Int) else (y : Int) - 1) = ((loB y : Nat) : Int) := by unfold loB; split <;> omega
 have hsub : IntKind.i64.wrap ((y : Int) - 1) = (y : Int) - 1 := w64 (by omega)
 have hadd := wa1 (a := y) (by omega)
 have hsub2 : IntKind.i64.wrap ((h : Int) - 1) = (h : Int) - 1 := w64 (by omega)
 have hmin : (if (h : Int) - 1 < ((y + 1 : Nat) : Int) then (h : Int) - 1 else ((y + 1 : Nat) : Int)) = ((hiB h y : Nat) : Int) := by unfold hiB; split <;> omega
 have hlo : loB y ≤ hiB h y := by unfold loB hiB; omega
 refine sq ?_
 refine rg fun KF hKF => ?_
 refine Fo.ld rfl rfl ?_
 refine bn rfl rfl rfl (by simp only [hsub, hmax]; rfl) ?_
 refine Fo.now rfl rfl (by simp only [hsub, hmax]; rfl) ?_
 refine mI ?_
 refine nl hKF ?_
 refine Wp.block ?_
 dsimp only [cond_true, cond_false]
 refine Wp.loopS [4, 8, 9, 10, 11, 12, 13, 14, 15, 16, 17, 18, 19, 20] (fun z : Nat => [(4, .int .i64 z)]) (fun _ z H2 => loB y ≤ z ∧ z ≤ hiB h y + 1 ∧ J z H2) (fun z => hiB h y + 1 - z) (loB y) rfl (fun _ => rfl) ⟨rfl, trivial⟩ ⟨Nat.le_refl _, by omega, hJ⟩ (by unfold fuel0 at hn; unfold hiB; omega) ?_
 rintro z g H2 ⟨hz1, hz2, hJ2⟩
 obtain ⟨k1, k2⟩ := hrow _ _ hJ2
 simp only [↓nrmL, nrmZ, Nat.reduceEqDiff, ↓reduceIte, Nat.reduceAdd, Int.reduceBEq, Int.reduceBNe]
 cases hc : decide ((z : Int) ≤ ((hiB h y : Nat) : Int))
 ·have hze : z = hiB h y + 1 := by have := of_decide_eq_false hc; omega
  subst hze
  repeat first
   | refine mI ?_
   | refine Fo.ld rfl rfl ?_
   | (refine bn rfl rfl rfl (by simp only [hadd, hsub2, Bool.false_eq_true, if_false, hmin, hc]; rfl) ?_)
   | (refine Fo.now rfl rfl (by simp only [hadd, hsub2, Bool.false_eq_true, if_false, hmin, hc]; rfl) ?_)
   | refine nl hKF ?_
   | refine sq ?_
   | refine rg fun KF hKF => ?_
   | refine cf rfl ?_
   | refine xi ?_
   | dsimp only [cond_true, cond_false]
  refine rz trivial ?_
  exact hJ2
 have hzl : z ≤ hiB h y := by have := of_decide_eq_true hc; omega
 have hwz := wa1 (a := z) (by unfold hiB at hzl; omega)
 obtain ⟨H3, y1, hJ3⟩ := hstep z H2 hz1 hzl hJ2 n (by omega)
 repeat first
  | refine mI ?_
  | (refine mv ?_)
  | refine Fo.ld rfl rfl ?_
  | (refine bn rfl rfl rfl (by simp only [hadd, hsub2, Bool.false_eq_true, if_false, hmin, hc]; rfl) ?_)
  | (refine Fo.now rfl rfl (by simp only [hadd, hsub2, Bool.false_eq_true, if_false, hmin, hc]; rfl) ?_)
  | refine nl hKF ?_
  | refine sq ?_
  | refine rg fun KF hKF => ?_
  | refine ct rfl ?_
  | refine sk ?_
  | refine Wp.block ?_
 refine WpO.do (WpX.yield rfl rfl ⟨_, H3, y1, ?_⟩)
 refine Fo.now rfl rfl (by simp only [↓nrmL, nrmZ, Nat.reduceEqDiff, ↓reduceIte, Nat.reduceAdd, Int.reduceBEq, Int.reduceBNe]; rfl) ?_
 refine nl hKF ?_
 refine cf rfl ?_
 refine sk ?_
 refine rg fun KF hKF => ?_
 refine mI ?_
 refine b0 ?_
 refine mI ?_
 refine nl hKF ?_
 dsimp only [cond_true, cond_false]
 refine ⟨z + 1, by omega, ⟨by simp only [↓nrmL, nrmZ, Nat.reduceEqDiff, ↓reduceIte, Nat.reduceAdd, Int.reduceBEq, Int.reduceBNe]; rw [hwz], trivial⟩, by omega, by omega, hJ3⟩
end Go.Am

namespace Go.Am
open Go
attribute [local irreducible] Wp WpO WpX WpE
end Go.Am

namespace Go.Am
open Go
attribute [local irreducible] Wp WpO WpX WpE
end Go.Am

namespace Go.Am
open Go
attribute [local irreducible] Wp WpO WpX WpE
structure JS (Hb : AHeap) (r : Nat) (R0 : RLoop) (q : AVal) (L : List UInt8) (H : AHeap) : Prop where
 n : Hb.n ≤ H.n
 get : ∀ s, s < Hb.n → RowNe q s → H.get s = Hb.get s
 px : BytesI H q L
 wr : WrS H q
 loop : HasLoop H r R0
theorem JS.row {Hb H : AHeap} {r s : Nat} {R0 : RLoop} {q : AVal} {L : List UInt8} {cs : List AVal} {rw : Bool} {e : TypeId} (h : JS Hb r R0 q L H) (k : HasRow Hb s cs rw e) (hne : RowNe q s) : HasRow H s cs rw e := ⟨Nat.lt_of_lt_of_le k.lt h.n, by rw [h.get s k.lt hne]; exact k.get⟩
theorem JS.slice {Hb H : AHeap} {r : Nat} {R0 : RLoop} {q p : AVal} {L : List UInt8} {sz n : Nat} {cs : List AVal} (h : JS Hb r R0 q L H) (k : SliceAt Hb p sz n cs) (hne : SepS p q) : SliceAt H p sz n cs := k.keep h.n fun s _ _ _ _ e hs => h.get s hs ⟨fun r' _ _ _ _ e' hh => hne.ne _ _ _ _ _ _ _ _ _ _ e e' hh.symm⟩
theorem JS.ext {Hh Hb H : AHeap} {r : Nat} {R0 : RLoop} {q : AVal} {L : List UInt8} (h : JS Hb r R0 q L H) (x : Ext Hh Hb) (f : FreshS Hh q) : Ext Hh H := ⟨Nat.le_trans x.n h.n, fun s hs => by have := x.n; rw [h.get s (by omega) ⟨fun r' _ _ _ _ e => by have := f.ge _ _ _ _ _ e; omega⟩, x.get s hs]⟩
theorem JS.start {Hb : AHeap} {R0 : RLoop} {q : AVal} {L : List UInt8} (k : BytesI Hb q L) (w : WrS Hb q) : JS Hb (Hb.n + 1) R0 q L ((Hb.push .dead).push (.loop R0)) := by
 haveI := k
 haveI := w
 refine ⟨by simp only [AHeap.push]; omega, fun s hs _ => ?_, inferInstance, inferInstance, (inferInstance : HasLoop ((Hb.push .dead).push (.loop R0)) (Hb.push .dead).n R0)⟩
 rw [push_get_lt (by simp only [AHeap.push]; omega), push_get_lt hs]
end Go.Am

namespace Go.Am
open Go
attribute [local irreducible] Wp WpO WpX WpE
abbrev nxA : RCode := .region [⟨(some 6), .mov (.tmp 12), none⟩]
abbrev nxB : RCode := .block 1 (.seq (.dregion [⟨⟨(some 13), .load none (.tmp 2), none⟩, 0, 1, true⟩,
   ⟨⟨(some 14), .mov (.tmp 6), none⟩, 0, 0, true⟩,
   ⟨⟨(some 15), .idxS 1 (.tmp 13) (.tmp 14), none⟩, 3, 0, true⟩,
   ⟨⟨(some 16), .load none (.tmp 15), none⟩, 7, 1, true⟩,
   ⟨⟨(some 17), .load none (.tmp 3), none⟩, 0, 1, true⟩,
   ⟨⟨(some 18), .mov (.tmp 6), none⟩, 0, 0, true⟩,
   ⟨⟨(some 19), .call (.val (.func (.func 53) [] [])) [(.tmp 17), (.tmp 18)], none⟩, 48, 2, false⟩,
   ⟨⟨(some 20), .bin .add (.tmp 16) (.tmp 19), none⟩, 127, 0, false⟩,
   ⟨⟨(some 7), .mov (.tmp 20), none⟩, 255, 0, false⟩])
  (.seq (.region [⟨(some 21), .mov (.tmp 7), none⟩,
   ⟨(some 22), .load none (.tmp 5), none⟩,
   ⟨(some 23), .bin .lss (.tmp 21) (.tmp 22), none⟩])
  (.cond (.tmp 23) (.region [⟨(some 24), .mov (.tmp 6), none⟩,
    ⟨(some 25), .mov (.tmp 7), none⟩,
    ⟨none, .store 1 (.tmp 4) (.tmp 24), none⟩,
    ⟨none, .store 1 (.tmp 5) (.tmp 25), none⟩])
  (.skip))))
abbrev nxR (d : Nat) (fr : AFrame) : RLoop := ⟨d, 28, fr, [12], nxA, nxB, 0, .normal⟩
structure JX (Hb : AHeap) (ra rb r : Nat) (R0 : RLoop) (a b : Int) (H : AHeap) : Prop where
 n : Hb.n ≤ H.n
 get : ∀ s, s < Hb.n → s ≠ ra → s ≠ rb → H.get s = Hb.get s
 ka : HasRow H ra [.int .i64 a] true (2 * 3)
 kb : HasRow H rb [.int .i64 b] true (2 * 3)
 loop : HasLoop H r R0
theorem JX.row {Hb H : AHeap} {ra rb r s : Nat} {R0 : RLoop} {a b : Int} {cs : List AVal} {rw : Bool} {e : TypeId} (h : JX Hb ra rb r R0 a b H) (k : HasRow Hb s cs rw e) (h1 : s ≠ ra) (h2 : s ≠ rb) : HasRow H s cs rw e := ⟨Nat.lt_of_lt_of_le k.lt h.n, by rw [h.get s k.lt h1 h2]; exact k.get⟩
theorem JX.slice {Hb H : AHeap} {ra rb r : Nat} {R0 : RLoop} {a b : Int} {p : AVal} {sz n : Nat} {cs : List AVal} (h : JX Hb ra rb r R0 a b H) (k : SliceAt Hb p sz n cs) (h1 : RowNe p ra) (h2 : RowNe p rb) : SliceAt H p sz n cs := k.keep h.n fun s _ _ _ _ e hs => h.get s hs (h1.ne _ _ _ _ _ e) (h2.ne _ _ _ _ _ e)
theorem JX.ext {Hh Hb H : AHeap} {ra rb r : Nat} {R0 : RLoop} {a b : Int} (h : JX Hb ra rb r R0 a b H) (x : Ext Hh Hb) (h1 : Hh.n ≤ ra) (h2 : Hh.n ≤ rb) : Ext Hh H := ⟨Nat.le_trans x.n h.n, fun s hs => by have := x.n; rw [h.get s (by omega) (by omega) (by omega), x.get s hs]⟩
theorem JX.start {Hb : AHeap} {ra rb : Nat} {R0 : RLoop} {a b : Int} (ka : HasRow Hb ra [.int .i64 a] true (2 * 3)) (kb : HasRow Hb rb [.int .i64 b] true (2 * 3)) : JX Hb ra rb (Hb.n + 1) R0 a b ((Hb.push .dead).push (.loop R0)) := by
 haveI := ka
 haveI := kb
 refine ⟨by simp only [AHeap.push]; omega, fun s hs _ _ => ?_, inferInstance, inferInstance, (inferInstance : HasLoop ((Hb.push .dead).push (.loop R0)) (Hb.push .dead).n R0)⟩
 rw [push_get_lt (by simp only [AHeap.push]; omega), push_get_lt hs]
theorem row_loop {H : AHeap} {s r : Nat} {cs : List AVal} {rw : Bool} {e : TypeId} {R0 : RLoop} (k : HasRow H s cs rw e) (hl : HasLoop H r R0) : s ≠ r := fun q => by
 subst q
 have := hl.get
 rw [k.get] at this; cases this
theorem sl_loop {H : AHeap} {p : AVal} {sz n : Nat} {cs : List AVal} {r : Nat} {R0 : RLoop} (k : SliceAt H p sz n cs) (hl : HasLoop H r R0) : RowNe p r := ⟨fun r' off len cap sz' e => by
 rcases k.it with ⟨rfl, _⟩ | ⟨r2, off2, cap2, row, rw2, e2, rfl, h2, h3, _⟩
 ·cases e
 ·cases e
  intro e; subst e
  have := hl.get
  rw [h3] at this; cases this⟩
theorem round_nx {Hb H : AHeap} {r2 r3 ra rb r d n y z : Nat} {fr : AFrame} {p : AVal} {l : List Int} {a b : Int} {e2 e3 : TypeId} {w2 w3 : Bool} (h2 : fr 2 = .ptr r2 0) (h3 : fr 3 = .ptr r3 0) (h4 : fr 4 = .ptr ra 0) (h5 : fr 5 = .ptr rb 0) (k2 : HasRow H r2 [p] w2 e2) (k3 : HasRow H r3 [.int .i64 (y : Int)] w3 e3) (kp : IntsI H p l) (pa : RowNe p ra) (pb : RowNe p rb) (n2a : r2 ≠ ra) (n2b : r2 ≠ rb) (n3a : r3 ≠ ra) (n3b : r3 ≠ rb) (nab : ra ≠ rb) (hla : ra < Hb.n) (hlb : rb < Hb.n) (hr : Hb.n ≤ r)
  (hl : ∀ i, 0 ≤ l.getD i 0 ∧ l.getD i 0 ≤ 3840) (hz : z < l.length) (hJ : JX Hb ra rb r (nxR d fr) a b H) (hn : fuel0 + 2 ≤ n) :
  ∃ H', callN ext prog n yieldId [.yield r, .int .i64 (z : Int)] H = some (.bool true, H') ∧ JX Hb ra rb r (nxR d fr) (if l.getD z 0 + chg y z < b then (z : Int) else a) (if l.getD z 0 + chg y z < b then l.getD z 0 + chg y z else b) H' := by
 obtain ⟨k, rfl⟩ : ∃ k, n = k + 1 := ⟨n - 1, by omega⟩
 replace hn : fuel0 + 1 ≤ k := by omega
 haveI := hJ.loop
 haveI := hJ.ka
 haveI := hJ.kb
 haveI : NeR r2 r := ⟨row_loop k2 hJ.loop⟩
 haveI : NeR r3 r := ⟨row_loop k3 hJ.loop⟩
 haveI : NeR ra r := ⟨row_loop hJ.ka hJ.loop⟩
 haveI : NeR rb r := ⟨row_loop hJ.kb hJ.loop⟩
 haveI : NeR ra rb := ⟨nab⟩
 haveI : NeR rb ra := ⟨nab.symm⟩
 haveI : NeR r ra := ⟨(row_loop hJ.ka hJ.loop).symm⟩
 haveI : NeR r rb := ⟨(row_loop hJ.kb hJ.loop).symm⟩
 haveI : RowNe p r := sl_loop kp hJ.loop
 haveI := kp.one
 have hlz := hl z
 have hgz : l.getD z 0 = l[z] := getD_at hz
 rw [hgz] at hlz ⊢
 have hc0 : 0 ≤ chg y z ∧ chg y z ≤ 1 := by unfold chg; split <;> omega
 obtain ⟨C, hC⟩ : ∃ C, l[z] + chg y z = C := ⟨_, rfl⟩
 have hw : IntKind.i64.wrap (l[z] + chg y z) = C := by rw [w64 (by omega), hC]
 rw [hC]
 refine round_next (R := nxR d fr) rfl hJ.loop rfl rfl rfl ?_
 show Wp (callN ext prog k) k nxA (upd fr 12 (.int .i64 (z : Int))) H _
 have hfr : upd fr 12 (.int .i64 (z : Int)) = upd (upd (upd (upd (upd fr 2 (.ptr r2 0)) 3 (.ptr r3 0)) 4 (.ptr ra 0)) 5 (.ptr rb 0)) 12 (.int .i64 (z : Int)) := by
  have e : ∀ (g : AFrame) (k : Nat) (v : AVal), g k = v → upd g k v = g := fun g k v h => funext fun t => by
   simp only [upd]
   cases hh : Nat.beq t k
   ·rfl
   ·have := Nat.eq_of_beq_eq_true hh
    subst this
    rw [cond_true, h]
  rw [e fr 2 _ h2, e fr 3 _ h3, e fr 4 _ h4, e fr 5 _ h5]
 rw [hfr]
 refine rg fun KF hKF => ?_
 refine mI ?_
 refine nl hKF ?_
 dsimp only [cond_true, cond_false]
 refine ⟨rfl, inferInstance, ?_⟩
 show Wp (callN ext prog k) k nxB _ _ _
 have hn1 := hJ.n
 cases hc : decide (C < b)
 ·have hcf := of_decide_eq_false hc
  rw [if_neg hcf, if_neg hcf]
  refine Wp.block ?_
  refine sq ?_
  refine Fr.dregion0 rfl fun KF hKF => ?_
  repeat first
   | (refine Er rfl (exec_ld rfl rfl) rfl ?_)
   | (refine Fe.pure rfl rfl (by simp only [↓nrmL, nrmZ, Nat.reduceEqDiff, ↓reduceIte, Nat.reduceAdd, Int.reduceBEq, Int.reduceBNe, hw]; rfl) ?_)
   | (refine Fe.pure rfl (exec_idxP (by (try simp only [↓nrmL, nrmZ, Nat.reduceEqDiff, ↓reduceIte, Nat.reduceAdd, Int.reduceBEq, Int.reduceBNe, hw]); rfl) rfl ?_) (by simp only [↓nrmL, nrmZ, Nat.reduceEqDiff, ↓reduceIte, Nat.reduceAdd, Int.reduceBEq, Int.reduceBNe, hw]; rfl) ?_; (focus omega))
   | (refine Er rfl (exec_ldI rfl (by omega)) rfl ?_)
   | (refine Fe.pcall (v' := ?_) rfl hn rfl (by simp only [↓nrmL, nrmZ, Nat.reduceEqDiff, ↓reduceIte, Nat.reduceAdd, Int.reduceBEq, Int.reduceBNe, hw, List.map]; rfl) rfl ?hv fun _ _ => ar ?_; case hv => rfl)
   | refine WpE.nil (hKF _ _ ?_)
  simp only [hc]
  refine sq ?_
  refine rg fun KF hKF => ?_
  refine mI ?_
  refine Fo.ld rfl rfl ?_
  refine bn rfl rfl rfl (by simp only [↓nrmL, nrmZ, Nat.reduceEqDiff, ↓reduceIte, Nat.reduceAdd, Int.reduceBEq, Int.reduceBNe, hc]; rfl) ?_
  refine nl hKF ?_
  refine cf rfl ?_
  refine sk ?_
  dsimp only [cond_true, cond_false]
  rename AHeap => X
  rename ExtI _ X => hX
  have nX := hX.ext.n
  simp only [AHeap.set] at nX
  refine ⟨rfl, inferInstance, ⟨by simp only [AHeap.set]; omega, fun s hs n1 n2 => ?_, inferInstance, inferInstance, inferInstance⟩⟩
  rw [set_get_ne (by omega), hX.ext.get s (by simp only [AHeap.set]; omega), set_get_ne (by omega)]
  exact hJ.get s hs n1 n2
 have hcf := of_decide_eq_true hc
 rw [if_pos hcf, if_pos hcf]
 refine Wp.block ?_
 refine sq ?_
 refine Fr.dregion0 rfl fun KF hKF => ?_
 repeat first
  | (refine Er rfl (exec_ld rfl rfl) rfl ?_)
  | (refine Fe.pure rfl rfl (by simp only [↓nrmL, nrmZ, Nat.reduceEqDiff, ↓reduceIte, Nat.reduceAdd, Int.reduceBEq, Int.reduceBNe, hw]; rfl) ?_)
  | (refine Fe.pure rfl (exec_idxP (by (try simp only [↓nrmL, nrmZ, Nat.reduceEqDiff, ↓reduceIte, Nat.reduceAdd, Int.reduceBEq, Int.reduceBNe, hw]); rfl) rfl ?_) (by simp only [↓nrmL, nrmZ, Nat.reduceEqDiff, ↓reduceIte, Nat.reduceAdd, Int.reduceBEq, Int.reduceBNe, hw]; rfl) ?_; (focus omega))
  | (refine Er rfl (exec_ldI rfl (by omega)) rfl ?_)
  | (refine Fe.pcall (v' := ?_) rfl hn rfl (by simp only [↓nrmL, nrmZ, Nat.reduceEqDiff, ↓reduceIte, Nat.reduceAdd, Int.reduceBEq, Int.reduceBNe, hw, List.map]; rfl) rfl ?hv fun _ _ => ar ?_; case hv => rfl)
  | refine WpE.nil (hKF _ _ ?_)
 simp only [hc]
 repeat first
  | refine mI ?_
  | refine Fo.ld rfl rfl ?_
  | (refine bn rfl rfl rfl (by simp only [↓nrmL, nrmZ, Nat.reduceEqDiff, ↓reduceIte, Nat.reduceAdd, Int.reduceBEq, Int.reduceBNe, hc]; rfl) ?_)
  | (refine so rfl (rfl : _ = AVal.int _ _) rfl rfl rfl (by simp only [↓nrmL, nrmZ, Nat.reduceEqDiff, ↓reduceIte, Nat.reduceAdd, Int.reduceBEq, Int.reduceBNe, hc]; rfl) ?_)
  | refine nl hKF ?_
  | refine sq ?_
  | refine rg fun KF hKF => ?_
  | refine ct rfl ?_
  | dsimp only [cond_true, cond_false]
 rename AHeap => X
 rename ExtI _ X => hX
 have nX := hX.ext.n
 simp only [AHeap.set] at nX
 refine ⟨rfl, inferInstance, ⟨by simp only [AHeap.set]; omega, fun s hs n1 n2 => ?_, inferInstance, inferInstance, inferInstance⟩⟩
 rw [set_get_ne (by omega), set_get_ne n2, set_get_ne n1, hX.ext.get s (by simp only [AHeap.set]; omega), set_get_ne (by omega)]
 exact hJ.get s hs n1 n2
theorem K_next {y : Nat} {p : AVal} {H : AHeap} {l : List Int} [hp : IntsI H p l] (h0 : 0 < l.length) (h640 : l.length ≤ 640) (hy : y < l.length) (hl : ∀ i, 0 ≤ l.getD i 0 ∧ l.getD i 0 ≤ 3840) : Con ext prog 6 94 [p, .int .i64 (y : Int)] H fun v H' => v = .tuple [.int .i64 ((nxF (fun i => l.getD i 0) l.length y).1 : Int), .int .i64 (nxF (fun i => l.getD i 0) l.length y).2] ∧ Ext H H' := by
 refine con_ofR (show prog 94 = some c94 from rfl) rfl rfl fun n hn => ?_
 obtain ⟨c, hcd⟩ : ∃ c : Nat → Int, (fun i => l.getD i 0) = c := ⟨_, rfl⟩
 have hcv : ∀ i, l.getD i 0 = c i := fun i => by rw [← hcd]
 rw [hcd]
 haveI := hp.one
 repeat first
  | refine Fo.ld rfl rfl ?_
  | (refine ln (by simp only [↓nrmL, nrmK, Nat.reduceEqDiff, ↓reduceIte]; rfl) ?_)
  | refine Fo.box1 (rfl : _ = AVal.int _ _) ?_
  | (refine Fo.box1 (by simp only [↓nrmL, nrmK, Nat.reduceEqDiff, ↓reduceIte]; rfl) ?_)
  | refine nw ?_
  | (refine so rfl (rfl : _ = AVal.int _ _) rfl rfl rfl (by simp only [↓nrmL, nrmZ, Nat.reduceEqDiff, ↓reduceIte, Nat.reduceAdd, Int.reduceBEq, Int.reduceBNe]; rfl) ?_)
  | refine nl hKF ?_
  | refine sq ?_
  | refine rg fun KF hKF => ?_
 refine WpO.do (WpX.conD hn rfl rfl (by simp only [↓nrmL, nrmZ, Nat.reduceEqDiff, ↓reduceIte, Nat.reduceAdd, Int.reduceBEq, Int.reduceBNe, List.map] <;> rfl) (K_beside (y := (y : Int)) (h := ((l.length : Nat) : Int))) fun v H2 h5 => ?_)
 obtain ⟨q1, q2, e1, k1, k2, hx2, g1, g2⟩ := h5
 subst e1
 haveI : ExtI _ H2 := ⟨hx2⟩
 have kr2 : HasRow H2 H.n [p] true (2 * 25) := inferInstance
 have kr3 : HasRow H2 (H.push (.row [p] true (2 * 25))).n [.int .i64 (y : Int)] true (2 * 3) := inferInstance
 have kra : HasRow H2 ((H.push (.row [p] true (2 * 25))).push (.row [.int .i64 (y : Int)] true (2 * 3))).n [.int .i64 0] true (2 * 3) := inferInstance
 have krb : HasRow H2 (((H.push (.row [p] true (2 * 25))).push (.row [.int .i64 (y : Int)] true (2 * 3))).push (.row [.int .i64 0] true (2 * 3))).n [.int .i64 1920] true (2 * 3) := inferInstance
 have kp : IntsI H2 p l := inferInstance
 have hx02 : Ext H H2 := Ext0.ext
 have n2 := hx2.n
 simp only [AHeap.push, AHeap.set] at n2 g1 g2
 have pra : RowNe p ((H.push (.row [p] true (2 * 25))).push (.row [.int .i64 (y : Int)] true (2 * 3))).n := ⟨fun r _ _ _ _ e => by have := hp.lt e; simp only [AHeap.push]; omega⟩
 have prb : RowNe p (((H.push (.row [p] true (2 * 25))).push (.row [.int .i64 (y : Int)] true (2 * 3))).push (.row [.int .i64 0] true (2 * 3))).n := ⟨fun r _ _ _ _ e => by have := hp.lt e; simp only [AHeap.push]; omega⟩
 have key : ∀ fr : AFrame, fr 2 = .ptr H.n 0 → fr 3 = .ptr (H.push (.row [p] true (2 * 25))).n 0 → fr 4 = .ptr ((H.push (.row [p] true (2 * 25))).push (.row [.int .i64 (y : Int)] true (2 * 3))).n 0 → fr 5 = .ptr (((H.push (.row [p] true (2 * 25))).push (.row [.int .i64 (y : Int)] true (2 * 3))).push (.row [.int .i64 0] true (2 * 3))).n 0 → ∃ v H3, callN ext prog n 133 [.yield (H2.n + 1), .ptr q1 0, .ptr q2 0] ((H2.push .dead).push (.loop (nxR H2.n fr))) = some (v, H3) ∧ JX H2 ((H.push (.row [p] true (2 * 25))).push (.row [.int .i64 (y : Int)] true (2 * 3))).n (((H.push (.row [p] true (2 * 25))).push (.row [.int .i64 (y : Int)] true (2 * 3))).push (.row [.int .i64 0] true (2 * 3))).n (H2.n + 1) (nxR H2.n fr) ((nxF c l.length y).1 : Int) (nxF c l.length y).2 H3 := fun fr f2 f3 f4 f5 =>
  K_besideI (y := y) (h := l.length) (r := H2.n + 1) (J := fun z H' => JX H2 ((H.push (.row [p] true (2 * 25))).push (.row [.int .i64 (y : Int)] true (2 * 3))).n (((H.push (.row [p] true (2 * 25))).push (.row [.int .i64 (y : Int)] true (2 * 3))).push (.row [.int .i64 0] true (2 * 3))).n (H2.n + 1) (nxR H2.n fr) ((nxTo c y (loB y) (z - loB y)).1 : Int) (nxTo c y (loB y) (z - loB y)).2 H') (D := 2) h0 h640 hy
   (fun z H4 hJ => ⟨hJ.row k1 (by simp only [AHeap.push]; omega) (by simp only [AHeap.push]; omega), hJ.row k2 (by simp only [AHeap.push]; omega) (by simp only [AHeap.push]; omega)⟩)
   (fun z H4 hz1 hz2 hJ m hm => by
    have hzl : z < l.length := by unfold hiB at hz2; omega
    obtain ⟨H', e5, hJ5⟩ := round_nx (y := y) (z := z) (p := p) (l := l) f2 f3 f4 f5 (hJ.row kr2 (by simp only [AHeap.push]; omega) (by simp only [AHeap.push]; omega)) (hJ.row kr3 (by simp only [AHeap.push]; omega) (by simp only [AHeap.push]; omega)) (hJ.slice kp pra prb) pra prb (by simp only [AHeap.push]; omega) (by simp only [AHeap.push]; omega) (by simp only [AHeap.push]; omega) (by simp only [AHeap.push]; omega) (by simp only [AHeap.push]; omega) kra.lt krb.lt (Nat.le_succ _) hl hzl hJ hm
    refine ⟨H', e5, ?_⟩
    rw [show z + 1 - loB y = (z - loB y) + 1 by omega]
    simp only [nxTo]
    rw [show loB y + (z - loB y) = z by omega]
    rw [hcv z] at hJ5
    by_cases hlt : c z + chg y z < (nxTo c y (loB y) (z - loB y)).2
    ·rw [if_pos hlt, if_pos hlt] at hJ5
     rw [if_pos hlt]
     exact hJ5
    ·rw [if_neg hlt, if_neg hlt] at hJ5
     rw [if_neg hlt]
     exact hJ5)
   (by rw [Nat.sub_self]; exact JX.start kra krb) n (by omega)
 have key2 : ∀ (fr : AFrame) (P : AVal → AHeap → RLoop → Prop), fr 2 = .ptr H.n 0 → fr 3 = .ptr (H.push (.row [p] true (2 * 25))).n 0 → fr 4 = .ptr ((H.push (.row [p] true (2 * 25))).push (.row [.int .i64 (y : Int)] true (2 * 3))).n 0 → fr 5 = .ptr (((H.push (.row [p] true (2 * 25))).push (.row [.int .i64 (y : Int)] true (2 * 3))).push (.row [.int .i64 0] true (2 * 3))).n 0 → (∀ v H3, JX H2 ((H.push (.row [p] true (2 * 25))).push (.row [.int .i64 (y : Int)] true (2 * 3))).n (((H.push (.row [p] true (2 * 25))).push (.row [.int .i64 (y : Int)] true (2 * 3))).push (.row [.int .i64 0] true (2 * 3))).n (H2.n + 1) (nxR H2.n fr) ((nxF c l.length y).1 : Int) (nxF c l.length y).2 H3 → P v H3 (nxR H2.n fr)) →
   ∃ v H3 R, callN ext prog n 133 ([] ++ [.yield (H2.n + 1)] ++ [.ptr q1 0, .ptr q2 0]) ((H2.push .dead).push (.loop ⟨H2.n, 28, fr, [12], nxA, nxB, 0, .normal⟩)) = some (v, H3) ∧ H3.get (H2.n + 1) = .loop R ∧ (Nat.beq R.st 1 || Nat.beq R.st 4) = false ∧ P v H3 R := fun fr P f2 f3 f4 f5 hP => by
  obtain ⟨v, H3, e3, hJ⟩ := key fr f2 f3 f4 f5
  exact ⟨v, H3, nxR H2.n fr, e3, hJ.loop.get, rfl, hP v H3 hJ⟩
 refine nl hKF ?_
 refine Wp.block ?_
 dsimp only [cond_true, cond_false]
 refine Wp.range (gf := 133) (fi := []) (ca := [.ptr q1 0, .ptr q2 0]) (vs := []) rfl rfl rfl ?_
 refine key2 _ _ rfl rfl rfl rfl fun v H3 hJ => ?_
 haveI := hJ.loop
 haveI := hJ.ka
 haveI := hJ.kb
 have n3 := hJ.n
 have hx03 := hJ.ext hx02 (by simp only [AHeap.push]; omega) (by simp only [AHeap.push]; omega)
 haveI : NeR ((H.push (.row [p] true (2 * 25))).push (.row [.int .i64 (y : Int)] true (2 * 3))).n (H2.n + 1) := ⟨by simp only [AHeap.push]; omega⟩
 haveI : NeR (((H.push (.row [p] true (2 * 25))).push (.row [.int .i64 (y : Int)] true (2 * 3))).push (.row [.int .i64 0] true (2 * 3))).n (H2.n + 1) := ⟨by simp only [AHeap.push]; omega⟩
 haveI : NeR (H2.n + 1) ((H.push (.row [p] true (2 * 25))).push (.row [.int .i64 (y : Int)] true (2 * 3))).n := ⟨by simp only [AHeap.push]; omega⟩
 haveI : NeR (H2.n + 1) (((H.push (.row [p] true (2 * 25))).push (.row [.int .i64 (y : Int)] true (2 * 3))).push (.row [.int .i64 0] true (2 * 3))).n := ⟨by simp only [AHeap.push]; omega⟩
 haveI : NeR ((H.push (.row [p] true (2 * 25))).push (.row [.int .i64 (y : Int)] true (2 * 3))).n (((H.push (.row [p] true (2 * 25))).push (.row [.int .i64 (y : Int)] true (2 * 3))).push (.row [.int .i64 0] true (2 * 3))).n := ⟨by simp only [AHeap.push]; omega⟩
 haveI : NeR (((H.push (.row [p] true (2 * 25))).push (.row [.int .i64 (y : Int)] true (2 * 3))).push (.row [.int .i64 0] true (2 * 3))).n ((H.push (.row [p] true (2 * 25))).push (.row [.int .i64 (y : Int)] true (2 * 3))).n := ⟨by simp only [AHeap.push]; omega⟩
 refine sq ?_
 dsimp only [cond_true, cond_false]
 refine Fr.dregion0 rfl fun KF hKF => ?_
 repeat first
  | (refine Er rfl (exec_ld rfl rfl) rfl ?_)
  | (refine Ee rfl (xs rfl (by (try simp only [↓nrmL, nrmZ, Nat.reduceEqDiff, ↓reduceIte, Nat.reduceAdd, Int.reduceBEq, Int.reduceBNe]); rfl) rfl rfl rfl (by (try simp only [↓nrmL, nrmZ, Nat.reduceEqDiff, ↓reduceIte, Nat.reduceAdd, Int.reduceBEq, Int.reduceBNe]); rfl)) ?_)
  | refine WpE.nil (hKF _ _ ?_)
 refine rt ?_
 dsimp only [cond_true, cond_false]
 refine ⟨trivial, _, takeMarks1 (d := H2.n) (l := H2.n + 1) inferInstance rfl rfl, _, getAllC1 rfl rfl (getAllC1 rfl rfl rfl), rfl, ⟨by simp only [AHeap.set]; exact hx03.n, fun s hs => ?_⟩⟩
 rw [set_get_ne (by omega), set_get_ne (by simp only [AHeap.push]; omega), set_get_ne (by simp only [AHeap.push]; omega)]
 try rw [set_get_ne (by omega)]
 exact hx03.get s hs
end Go.Am

namespace Go.Am
open Go
attribute [local irreducible] Wp WpO WpX WpE
end Go.Am

namespace Go.Am
open Go
attribute [local irreducible] Wp WpO WpX WpE
end Go.Am

namespace Go.Am
open Go
section
variable {call : ACall} {lf : Nat} {fr : AFrame} {H : AHeap} {Q : RExit → AFrame → AHeap → Prop} {a b : RCode}
end
end Go.Am

namespace Go.Am
open Go
attribute [local irreducible] Wp WpO WpX WpE
def minI (l : List Int) : Nat → Int
 | 0 => 0
 | i + 1 => if l.getD i 0 < minI l i then l.getD i 0 else minI l i
class Z0 (l : List Int) : Prop where
 hp : 0 < l.length
 h0 : l.getD 0 0 = 0
 hs : l.length ≤ 640
theorem min_succ {l : List Int} {i : Nat} (h : i < l.length) : (if l[i] < minI l i then l[i] else minI l i) = minI l (i + 1) := by
 simp only [minI, getD_at h]
instance K_Min {p : AVal} {H : AHeap} {l : List Int} [hp : IntsI H p l] [hm : Z0 l] : PureCon ext prog 79 [p] H 1 (.int .i64 (minI l l.length)) := ⟨by
 refine con_of (show prog 79 = some c79 from rfl) rfl rfl fun n hn => ?_
 have hpos := hm.hp
 have hs := hm.hs
 have h0 : l[0] = 0 := by rw [← getD_at hpos]; exact hm.h0
 have h1 : decide (((l.length : Nat) : Int) < 1) = false := decide_eq_false (by omega)
 have e1 : minI l 1 = 0 := by simp only [minI, getD_at hpos, h0]; rfl
 repeat first
  | refine mI ?_
  | (refine mv ?_)
  | (refine bn rfl rfl rfl (by simp only [h1, h0]; rfl) ?_)
  | (refine ln (by simp only [↓nrmL, nrmK, Nat.reduceEqDiff, ↓reduceIte]; rfl) ?_)
  | (refine Fo.idx (by simp only [↓nrmL, nrmK, Nat.reduceEqDiff, ↓reduceIte]; rfl) rfl ?_ (by simp only [↓nrmL, nrmZ, Nat.reduceEqDiff, ↓reduceIte, Nat.reduceAdd, Int.reduceBEq, Int.reduceBNe, h1, h0]; rfl) ?_; (focus omega))
  | (refine Fo.ldI rfl ?_ (by simp only [h1, h0]; rfl) ?_; (focus omega))
  | refine nl hKF ?_
  | refine sq ?_
  | refine rg fun KF hKF => ?_
  | refine cf rfl ?_
  | refine sk ?_
  | refine Wp.block ?_
  | dsimp only [cond_true, cond_false]
 refine Wp.loopS [3, 4, 12, 13, 14, 15, 16, 17, 18, 19, 20, 21, 22, 23] (fun i : Nat => [(4, .int .i64 i), (3, .int .i64 (minI l i))]) (fun H3 i H2 => 1 ≤ i ∧ i ≤ l.length ∧ H2 = H3) (fun i => l.length - i) 1 rfl (fun _ => rfl) ⟨rfl, by simp only [↓nrmL, nrmZ, Nat.reduceEqDiff, ↓reduceIte, Nat.reduceAdd, Int.reduceBEq, Int.reduceBNe]; rw [e1], trivial⟩ ⟨Nat.le_refl _, hpos, rfl⟩ (by unfold fuel0 at hn; omega) ?_
 rintro i g H2 ⟨hi1, hi, rfl⟩
 simp only [↓nrmL, nrmZ, Nat.reduceEqDiff, ↓reduceIte, Nat.reduceAdd, Int.reduceBEq, Int.reduceBNe]
 cases hc : decide ((i : Int) < (l.length : Int))
 ·have hil : i = l.length := by have := of_decide_eq_false hc; omega
  repeat first
   | refine mI ?_
   | (refine mv ?_)
   | (refine bn rfl rfl rfl (by simp only [hc]; rfl) ?_)
   | (refine ln (by simp only [↓nrmL, nrmK, Nat.reduceEqDiff, ↓reduceIte]; rfl) ?_)
   | refine nl hKF ?_
   | refine sq ?_
   | refine rg fun KF hKF => ?_
   | refine cf rfl ?_
   | refine rt ?_
   | refine xi ?_
   | dsimp only [cond_true, cond_false]
  refine rz trivial ?_
  exact ⟨by rw [hil]; rfl, Ext0.ext⟩
 ·have hil : i < l.length := by have := of_decide_eq_true hc; omega
  have hw1 := wa1 (a := i) (by omega)
  repeat first
   | refine mI ?_
   | (refine mv ?_)
   | (refine bn rfl rfl rfl (by simp only [hc, Bool.false_eq_true, if_false]; rfl) ?_)
   | refine b0 ?_
   | (refine ln (by simp only [↓nrmL, nrmK, Nat.reduceEqDiff, ↓reduceIte]; rfl) ?_)
   | (refine Fo.idx (by simp only [↓nrmL, nrmK, Nat.reduceEqDiff, ↓reduceIte]; rfl) rfl ?_ (by simp only [↓nrmL, nrmZ, Nat.reduceEqDiff, ↓reduceIte, Nat.reduceAdd, Int.reduceBEq, Int.reduceBNe, hc, Bool.false_eq_true, if_false]; rfl) ?_; (focus omega))
   | (refine Fo.ldI rfl ?_ rfl ?_; (focus omega))
   | (refine Fo.now rfl rfl (by simp only [hc, Bool.false_eq_true, if_false]; rfl) ?_)
   | refine nl hKF ?_
   | refine sq ?_
   | refine rg fun KF hKF => ?_
   | refine ct rfl ?_
   | refine sk ?_
   | refine Wp.block ?_
   | dsimp only [cond_true, cond_false]
  refine ⟨i + 1, by omega, ⟨by simp only [↓nrmL, nrmZ, Nat.reduceEqDiff, ↓reduceIte, Nat.reduceAdd, Int.reduceBEq, Int.reduceBNe]; rw [hw1], by simp only [↓nrmL, nrmZ, Nat.reduceEqDiff, ↓reduceIte, Nat.reduceAdd, Int.reduceBEq, Int.reduceBNe]; first | rw [← min_succ hil] | (simp only [Bool.false_eq_true, if_false]; rw [← min_succ hil]), trivial⟩, by omega, by omega, rfl⟩⟩
structure Wave (w : Nat) (L : List Int) (k : Nat) : Prop where
 len : L.length = w
 near : ∀ x, x + 1 < w → L.getD (x + 1) 0 - L.getD x 0 ≤ 1 ∧ L.getD x 0 - L.getD (x + 1) 0 ≤ 1
 low : ∀ x, -(k : Int) ≤ L.getD x 0 ∧ L.getD x 0 ≤ (k : Int)
 zero : L.getD 0 0 = 0
structure WaveX (w : Nat) (L : List Int) (k X : Nat) (Y : Int) : Prop extends Wave w L k where
 tail : ∀ i, X ≤ i → i < w → L.getD i 0 = Y
 y : -(k : Int) ≤ Y ∧ Y ≤ (k : Int)
theorem getD_out {L : List Int} {x : Nat} (h : L.length ≤ x) : L.getD x 0 = 0 := by rw [List.getD_eq_getElem?_getD, List.getElem?_eq_none h]; rfl
end Go.Am

namespace Go.Am
open Go
attribute [local irreducible] Wp WpO WpX WpE
def lineL (lo : Nat) (L : List Int) (i k : Nat) : List Int := (List.range L.length).map fun x => 5 + (lo : Int) + 36 * i + 6 * k + L.getD x 0
def staveL (lo : Nat) (L : List Int) (i : Nat) : List (List Int) := (List.range 5).map (lineL lo L i)
structure StvR (H : AHeap) (sp : AVal) (ls : List (List Int)) (B : Nat) : Prop where
 it : ∃ r ps e, sp = .slice r 0 ls.length none 1 ∧ HasRow H r ps true e ∧ e / 2 = 25 ∧ ps.length = ls.length ∧ B ≤ r ∧ ∀ j (h : j < ls.length), ∃ rj, ps[j]? = some (.slice rj 0 ls[j].length (some ls[j].length) 1) ∧ HasRow H rj (cellsI ls[j]) true (2 * 3) ∧ B ≤ rj
theorem StvR.keep {H H' : AHeap} {sp : AVal} {ls : List (List Int)} {B : Nat} (h : StvR H sp ls B) (hn : H.n ≤ H'.n) (hg : ∀ s cs e, s < H.n → B ≤ s → H.get s = .row cs true e → (e / 2 = 25 ∨ e = 2 * 3) → H'.get s = H.get s) : StvR H' sp ls B := by
 obtain ⟨r, ps, e, h1, h2, h3, h4, h5, h6⟩ := h.it
 refine ⟨r, ps, e, h1, ⟨Nat.lt_of_lt_of_le h2.lt hn, by rw [hg r ps e h2.lt h5 h2.get (Or.inl h3)]; exact h2.get⟩, h3, h4, h5, fun j hj => ?_⟩
 obtain ⟨rj, a1, a2, a3⟩ := h6 j hj
 exact ⟨rj, a1, ⟨Nat.lt_of_lt_of_le a2.lt hn, by rw [hg rj _ _ a2.lt a3 a2.get (Or.inr rfl)]; exact a2.get⟩, a3⟩
class RowLt (p : AVal) (B : Nat) : Prop where
 lt : ∀ r off len cap sz, p = .slice r off len cap sz → r < B
structure Lns (H : AHeap) (ps : List AVal) (ls : List (List Int)) (B : Nat) : Prop where
 len : ps.length = ls.length
 it : ∀ j (h : j < ls.length), ∃ rj, ps[j]? = some (.slice rj 0 ls[j].length (some ls[j].length) 1) ∧ HasRow H rj (cellsI ls[j]) true (2 * 3) ∧ B ≤ rj
theorem Lns.keep {H H' : AHeap} {ps : List AVal} {ls : List (List Int)} {B : Nat} (h : Lns H ps ls B) (hn : H.n ≤ H'.n) (hg : ∀ s cs, s < H.n → B ≤ s → H.get s = .row cs true (2 * 3) → H'.get s = H.get s) : Lns H' ps ls B := ⟨h.len, fun j hj => by
 obtain ⟨rj, a1, a2, a3⟩ := h.it j hj
 exact ⟨rj, a1, ⟨Nat.lt_of_lt_of_le a2.lt hn, by rw [hg rj _ a2.lt a3 a2.get]; exact a2.get⟩, a3⟩⟩
theorem Lns.snoc {H : AHeap} {ps : List AVal} {ls : List (List Int)} {B r : Nat} {l : List Int} (h : Lns H ps ls B) (hr : HasRow H r (cellsI l) true (2 * 3)) (hB : B ≤ r) : Lns H (ps ++ [.slice r 0 l.length (some l.length) 1]) (ls ++ [l]) B := by
 refine ⟨by simp [h.len], fun j hj => ?_⟩
 have hl := h.len
 by_cases e : j < ls.length
 ·obtain ⟨rj, a1, a2, a3⟩ := h.it j e
  rw [List.getElem_append_left e]
  exact ⟨rj, by rw [List.getElem?_append_left (by omega)]; exact a1, a2, a3⟩
 ·have ej : j = ls.length := by simp at hj; omega
  subst ej
  simp only [List.getElem_append_right (Nat.le_refl _), Nat.sub_self, List.getElem_cons_zero]
  exact ⟨r, by rw [← hl, List.getElem?_append_right (Nat.le_refl _), Nat.sub_self]; rfl, hr, hB⟩
theorem Lns.stv {H : AHeap} {sp : AVal} {ps : List AVal} {ls : List (List Int)} {B : Nat} (h : Lns H ps ls B) (ho : OwnS H sp 1 ls.length ps 25) (h0 : 0 < ls.length) (hf : ∀ r off len cap sz, sp = .slice r off len cap sz → B ≤ r) : StvR H sp ls B := by
 rcases ho.it with ⟨_, h1, _⟩ | ⟨r, e, h1, h2, h3, h4, h5, h6⟩
 ·omega
 ·exact ⟨r, ps, e, h1, ⟨h2, h3⟩, h4, h.len, hf _ _ _ _ _ h1, h.it⟩
end Go.Am

namespace Go.Am
open Go
attribute [local irreducible] Wp WpO WpX WpE
theorem Wave.mono {w k k' : Nat} {L : List Int} (h : Wave w L k) (hk : k ≤ k') : Wave w L k' := ⟨h.len, h.near, fun x => by have := h.low x; omega, h.zero⟩
section
variable {call : ACall} {fr : AFrame} {H : AHeap} {K : AVal → AHeap → Prop}
theorem WpX.mkR {e : TypeId} {x y : ROpd} {k k' : IntKind} {n : Nat} (hx : x.ev fr = .int k (n : Int)) (hy : y.ev fr = .int k' (n : Int)) (hn : n ≤ 2 ^ 40) (h : K (.slice H.n 0 n (some n) 1) (H.push (.row (cellsI (List.replicate n 0)) true (2 * e)))) : WpX (.makeSlice e [.int .i64 0] 8 x y) call fr H K := by
 refine WpX.now (exec_mk hx hy (by omega)) ?_
 rw [Int.toNat_natCast, mk_ints]
 exact h
theorem WpX.stR {a x : ROpd} {r j : Nat} {l : List Int} {b : Int} {e : TypeId} (ha : a.ev fr = .ptr r j) (hx : x.ev fr = .int .i64 b) [hg : HasRow H r (cellsI l) true e] (hj : j < l.length) (h : K aundef (H.set r (.row (cellsI (l.set j b)) true e))) : WpX (.store 1 a x) call fr H K := by
 refine WpX.store ha hx rfl hg.lt hg.get (by simp only [AVal.cells, List.length_singleton, cellsI_length]; omega) rfl ?_
 rw [← set_ints] at h
 exact h
end
theorem row_ints {H : AHeap} {r n : Nat} {l : List Int} {w : Bool} {e : TypeId} (h : HasRow H r (cellsI l) w e) (hn : l.length = n) : IntsI H (.slice r 0 n (some n) 1) l := by
 subst hn
 exact ⟨Or.inr ⟨r, 0, some l.length, cellsI l, w, e, rfl, h.lt, h.get, by rw [cellsI_length]; omega, by rw [List.drop_zero, Nat.mul_one, ← cellsI_length l, List.take_length], Nat.le_refl _⟩⟩
instance row_one {H : AHeap} {r : Nat} {a : AVal} {rw : Bool} {ty : TypeId} [h : HasRow H r [a] rw ty] : SliceAt H (.slice r 0 1 (some 1) 1) 1 1 [a] := ⟨Or.inr ⟨r, 0, some 1, _, rw, ty, rfl, h.lt, h.get, by simp, rfl, Nat.le_refl _⟩⟩
def fillI (f : Nat → Int) (x n : Nat) : List Int := (List.range n).map fun t => if t < x then f t else 0
theorem fillI_len (f : Nat → Int) (x n : Nat) : (fillI f x n).length = n := by simp [fillI]
theorem fillI_zero (f : Nat → Int) (n : Nat) : fillI f 0 n = List.replicate n 0 := by
 apply List.ext_getElem <;> simp [fillI]
theorem fillI_set {f : Nat → Int} {x n : Nat} : (fillI f x n).set x (f x) = fillI f (x + 1) n := by
 apply List.ext_getElem
 ·simp [fillI]
 ·intro j h1 h2
  rw [List.getElem_set]
  simp only [fillI, List.getElem_map, List.getElem_range]
  by_cases e : x = j
  ·subst e; rw [if_pos rfl, if_pos (by omega)]
  ·rw [if_neg e]
   by_cases h3 : j < x
   ·rw [if_pos h3, if_pos (by omega)]
   ·rw [if_neg h3, if_neg (by omega)]
theorem fillI_all (f : Nat → Int) (n : Nat) : fillI f n n = (List.range n).map f := by
 unfold fillI
 apply List.map_congr_left
 intro t ht
 rw [if_pos (List.mem_range.1 ht)]
theorem ExtP.pushN {a b : AHeap} {p : AVal} {o : AObj} (h : ExtP a b p) : ExtP a (b.push o) p := ⟨by have := h.n; simp only [AHeap.push]; omega, fun r hr hp => by have := h.n; rw [push_get_lt (by omega)]; exact h.get r hr hp⟩
theorem ExtP.other {a b c : AHeap} {p q : AVal} (h : ExtP a b p) (k : ExtP b c q) (hq : ∀ r off len cap sz, q = .slice r off len cap sz → a.n ≤ r) : ExtP a c p := ⟨Nat.le_trans h.n k.n, fun r hr hp => by
 rw [k.get r (Nat.lt_of_lt_of_le hr h.n) ⟨fun r' _ _ _ _ e => by have := hq _ _ _ _ _ e; omega⟩]
 exact h.get r hr hp⟩
theorem OwnS.tne {H : AHeap} {p : AVal} {sz n s : Nat} {cs cs' : List AVal} {e e' : TypeId} {rw : Bool} (h : OwnS H p sz n cs e) (hg : H.get s = .row cs' rw e') (hne : e' / 2 ≠ e) : RowNe p s := ⟨fun r off len cap sz' q => by
 rcases h.it with ⟨rfl, _⟩ | ⟨r2, e2, rfl, h2, h3, h4, _⟩
 ·cases q
 ·cases q
  intro q; subst q
  rw [hg] at h3; cases h3
  exact hne h4⟩
structure WavyR (H H' : AHeap) (v : AVal) (w h n : Nat) (L : List Int) (lo hi : Nat) (P : List UInt8) (gp op : AVal) (cells : List AVal) (B : Nat) : Prop where
 ev : v = .tuple [.agg [.int .i64 (w : Int), .int .i64 (h : Int), gp], op]
 w1 : 40 ≤ w
 w2 : w ≤ 159
 n1 : 1 ≤ n
 n2 : n ≤ 3
 wave : Wave w L 14
 lo1 : lo ≤ 14
 hi1 : hi ≤ 14
 lo2 : ∀ x, -(lo : Int) ≤ L.getD x 0
 hi2 : ∀ x, L.getD x 0 ≤ (hi : Int)
 eh : h = 36 * n + lo + hi - 1
 ok : Ok w h P
 hgp : BytesI H' gp P
 wr : WrS H' gp
 fr : FreshS H gp
 hop : SliceAt H' op 1 n cells
 stv : ∀ j, j < n → ∃ sp, cells[j]? = some sp ∧ StvR H' sp (staveL lo L j) B
 B1 : H.n ≤ B
 B2 : RowLt gp B
 B3 : ∀ r off len cap sz, op = .slice r off len cap sz → B ≤ r
 ext : Ext H H'
end Go.Am

namespace Go.Am
open Go
attribute [local irreducible] Wp WpO WpX WpE
theorem exec_subC {call : ACall} {fr : AFrame} {H : AHeap} {x lo hi : ROpd} {r off n c a b : Nat} (hx : x.ev fr = .slice r off n (some c) 1) (hlo : lo.ev fr = .int .i64 (a : Int)) (hhi : hi.ev fr = .int .i64 (b : Int)) (hab : a < b) (hbn : b ≤ n) (hnc : n ≤ c) :
  (ROp.sliceS 1 x (some lo) (some hi) none).exec call fr H = some (.slice r (off + a) (b - a) (some (c - a)) 1, H) := by
 have h1 : aLow b (some (.int .i64 (a : Int))) = some a := by
  have : (0 : Int) ≤ (a : Int) ∧ (a : Int) ≤ (b : Int) := by omega
  simp only [aLow, aBound, if_pos this, Int.toNat_natCast]
 have h2 : aHigh n c (some (.int .i64 (b : Int))) = some b := by
  have : (0 : Int) ≤ (b : Int) ∧ (b : Int) ≤ (c : Int) := by omega
  simp only [aHigh, aBound, if_pos this, Int.toNat_natCast]
 have hb0 : aBounds n (some c) (some (.int .i64 (a : Int))) (some (.int .i64 (b : Int))) none = some (a, b, some c) := by
  simp only [aBounds, capD, h2, h1]
 simp only [ROp.exec, hx, Option.map_some, hlo, hhi, Option.map_none, aSliceS, ne_eq, not_true, if_false, hb0, M.pure, if_neg (show ¬ c = a by omega), Nat.mul_one]
def mnL (l : List Int) : Nat → Int
 | 0 => l.getD 0 0
 | k + 1 => if l.getD (k + 1) 0 < mnL l k then l.getD (k + 1) 0 else mnL l k
theorem mn_le {l : List Int} : ∀ {k i : Nat}, i ≤ k → mnL l k ≤ l.getD i 0
 | 0, i, h => by rw [show i = 0 by omega]; exact Int.le_refl _
 | k + 1, i, h => by
  simp only [mnL]
  by_cases e : i = k + 1
  ·subst e; split <;> omega
  ·have := mn_le (l := l) (k := k) (i := i) (by omega)
   split <;> omega
theorem mn_in {l : List Int} : ∀ k : Nat, ∃ i, i ≤ k ∧ mnL l k = l.getD i 0
 | 0 => ⟨0, Nat.le_refl _, rfl⟩
 | k + 1 => by
  obtain ⟨i, h1, h2⟩ := mn_in (l := l) k
  simp only [mnL]
  split
  ·exact ⟨k + 1, Nat.le_refl _, rfl⟩
  ·exact ⟨i, by omega, h2⟩
theorem K_MinA {p : AVal} {H : AHeap} {l : List Int} [hp : IntsI H p l] (h0 : 0 < l.length) (h1 : l.length ≤ 2 ^ 40) : Con ext prog 1 79 [p] H fun v H' => v = .int .i64 (mnL l (l.length - 1)) ∧ Ext H H' := by
 refine con_of (show prog 79 = some c79 from rfl) rfl rfl fun n hn => ?_
 haveI := hp.one
 have hl1 : decide (((l.length : Nat) : Int) < 1) = false := decide_eq_false (by omega)
 have g0 : l[0] = mnL l 0 := by rw [mnL, getD_at h0]
 repeat first
  | refine mI ?_
  | (refine mv ?_)
  | (refine bn rfl rfl rfl (by simp only [hl1, g0]; rfl) ?_)
  | (refine ln (by simp only [↓nrmL, nrmK, Nat.reduceEqDiff, ↓reduceIte]; rfl) ?_)
  | (refine Fo.idx (by simp only [↓nrmL, nrmK, Nat.reduceEqDiff, ↓reduceIte]; rfl) rfl ?_ (by simp only [↓nrmL, nrmZ, Nat.reduceEqDiff, ↓reduceIte, Nat.reduceAdd, Int.reduceBEq, Int.reduceBNe, hl1, g0]; rfl) ?_; (focus omega))
  | (refine Fo.ldI rfl ?_ (by simp only [hl1, g0]; rfl) ?_; (focus omega))
  | refine nl hKF ?_
  | refine sq ?_
  | refine rg fun KF hKF => ?_
  | refine cf rfl ?_
  | refine sk ?_
  | refine Wp.block ?_
  | dsimp only [cond_true, cond_false]
 refine Wp.loopS [3, 4, 12, 13, 14, 15, 16, 17, 18, 19, 20, 21, 22, 23] (fun k : Nat => [(4, .int .i64 ((k + 1 : Nat) : Int)), (3, .int .i64 (mnL l k))]) (fun H3 k H2 => k + 1 ≤ l.length ∧ Ext0 H3 H2) (fun k => l.length - (k + 1)) 0 rfl (fun _ => rfl) ⟨rfl, rfl, trivial⟩ ⟨h0, inferInstance⟩ (by unfold fuel0 at hn; omega) ?_
 rintro k g H2 ⟨hk, ⟨hx⟩⟩
 haveI : ExtI _ H2 := ⟨hx⟩
 simp only [↓nrmL, nrmZ, Nat.reduceEqDiff, ↓reduceIte, Nat.reduceAdd, Int.reduceBEq, Int.reduceBNe]
 cases hc : decide (((k + 1 : Nat) : Int) < ((l.length : Nat) : Int))
 ·have hke : l.length - 1 = k := by have := of_decide_eq_false hc; omega
  rw [hke]
  repeat first
   | refine mI ?_
   | (refine mv ?_)
   | (refine bn rfl rfl rfl (by simp only [hc]; rfl) ?_)
   | (refine ln (by simp only [↓nrmL, nrmK, Nat.reduceEqDiff, ↓reduceIte]; rfl) ?_)
   | refine nl hKF ?_
   | refine sq ?_
   | refine rg fun KF hKF => ?_
   | refine cf rfl ?_
   | refine rt ?_
   | refine xi ?_
   | dsimp only [cond_true, cond_false]
  refine rz trivial ?_
  exact ⟨rfl, Ext0.ext⟩
 have hkl : k + 1 < l.length := by have := of_decide_eq_true hc; omega
 have hwk := wa1 (a := k + 1) (by omega)
 have hm : (if l[k + 1] < mnL l k then l[k + 1] else mnL l k) = mnL l (k + 1) := by rw [mnL, getD_at hkl]
 repeat first
  | refine mI ?_
  | (refine mv ?_)
  | (refine bn rfl rfl rfl (by simp only [hc, Bool.false_eq_true, if_false, hm]; rfl) ?_)
  | refine b0 ?_
  | (refine ln (by simp only [↓nrmL, nrmK, Nat.reduceEqDiff, ↓reduceIte]; rfl) ?_)
  | (refine Fo.idx (by simp only [↓nrmL, nrmK, Nat.reduceEqDiff, ↓reduceIte]; rfl) rfl ?_ (by simp only [↓nrmL, nrmZ, Nat.reduceEqDiff, ↓reduceIte, Nat.reduceAdd, Int.reduceBEq, Int.reduceBNe, hc, Bool.false_eq_true, if_false, hm]; rfl) ?_; (focus omega))
  | (refine Fo.ldI rfl ?_ rfl ?_; (focus omega))
  | (refine Fo.now rfl rfl (by simp only [hc, Bool.false_eq_true, if_false, hm]; rfl) ?_)
  | refine nl hKF ?_
  | refine sq ?_
  | refine rg fun KF hKF => ?_
  | refine ct rfl ?_
  | refine sk ?_
  | refine Wp.block ?_
  | dsimp only [cond_true, cond_false]
 refine ⟨k + 1, by omega, ⟨by simp only [↓nrmL, nrmZ, Nat.reduceEqDiff, ↓reduceIte, Nat.reduceAdd, Int.reduceBEq, Int.reduceBNe]; rw [hwk], rfl, trivial⟩, by omega, inferInstance⟩
theorem K_IndexA {p : AVal} {H : AHeap} {l : List Int} {z : Int} [hp : IntsI H p l] (h1 : l.length ≤ 2 ^ 40) (hz : ∃ i, i < l.length ∧ l.getD i 0 = z) : Con ext prog 1 96 [p, .int .i64 z] H fun v H' => ∃ i : Nat, v = .int .i64 (i : Int) ∧ i < l.length ∧ l.getD i 0 = z ∧ (∀ j, j < i → l.getD j 0 ≠ z) ∧ Ext H H' := by
 refine con_of (show prog 96 = some c96 from rfl) rfl rfl fun n hn => ?_
 haveI := hp.one
 repeat first
  | refine mI ?_
  | (refine mv ?_)
  | (refine ln (by simp only [↓nrmL, nrmK, Nat.reduceEqDiff, ↓reduceIte]; rfl) ?_)
  | refine nl hKF ?_
  | refine sq ?_
  | refine rg fun KF hKF => ?_
  | refine Wp.block ?_
  | dsimp only [cond_true, cond_false]
 refine Wp.loopS [4, 5, 8, 9, 10, 11, 12, 13, 14, 15, 16, 17, 18] (fun i : Nat => [(8, .int .i64 (i : Int))]) (fun H3 i H2 => i ≤ l.length ∧ (∀ j, j < i → l.getD j 0 ≠ z) ∧ Ext0 H3 H2) (fun i => l.length - i) 0 rfl (fun _ => rfl) ⟨rfl, trivial⟩ ⟨Nat.zero_le _, fun j hj => by omega, inferInstance⟩ (by unfold fuel0 at hn; omega) ?_
 rintro i g H2 ⟨hi, hno, ⟨hx⟩⟩
 haveI : ExtI _ H2 := ⟨hx⟩
 simp only [↓nrmL, nrmZ, Nat.reduceEqDiff, ↓reduceIte, Nat.reduceAdd, Int.reduceBEq, Int.reduceBNe]
 cases hc : decide ((i : Int) < ((l.length : Nat) : Int))
 ·obtain ⟨j, j1, j2⟩ := hz
  have := of_decide_eq_false hc
  exact absurd j2 (hno j (by omega))
 have hil : i < l.length := by have := of_decide_eq_true hc; omega
 have hwi := wa1 (a := i) (by omega)
 have hg := getD_at hil
 cases he : (z == l[i])
 ·skip
  repeat first
   | refine mI ?_
   | (refine mv ?_)
   | (refine bn rfl rfl rfl (by simp only [hc, he]; rfl) ?_)
   | refine b0 ?_
   | (refine Fo.idx (by simp only [↓nrmL, nrmK, Nat.reduceEqDiff, ↓reduceIte]; rfl) rfl ?_ (by simp only [↓nrmL, nrmZ, Nat.reduceEqDiff, ↓reduceIte, Nat.reduceAdd, Int.reduceBEq, Int.reduceBNe, hc, he]; rfl) ?_; (focus omega))
   | (refine Fo.ldI rfl ?_ rfl ?_; (focus omega))
   | refine nl hKF ?_
   | refine sq ?_
   | refine rg fun KF hKF => ?_
   | refine ct rfl ?_
   | refine cf rfl ?_
   | refine sk ?_
   | refine Wp.block ?_
   | dsimp only [cond_true, cond_false]
  refine ⟨i + 1, by omega, ⟨by simp only [↓nrmL, nrmZ, Nat.reduceEqDiff, ↓reduceIte, Nat.reduceAdd, Int.reduceBEq, Int.reduceBNe]; rw [hwi], trivial⟩, by omega, fun j hj => ?_, inferInstance⟩
  by_cases e : j = i
  ·subst e; rw [hg]; intro q; rw [q] at he; simp at he
  ·exact hno j (by omega)
 ·skip
  repeat first
   | refine mI ?_
   | (refine mv ?_)
   | (refine bn rfl rfl rfl (by simp only [hc, he]; rfl) ?_)
   | (refine Fo.idx (by simp only [↓nrmL, nrmK, Nat.reduceEqDiff, ↓reduceIte]; rfl) rfl ?_ (by simp only [↓nrmL, nrmZ, Nat.reduceEqDiff, ↓reduceIte, Nat.reduceAdd, Int.reduceBEq, Int.reduceBNe, hc, he]; rfl) ?_; (focus omega))
   | (refine Fo.ldI rfl ?_ rfl ?_; (focus omega))
   | refine nl hKF ?_
   | refine sq ?_
   | refine rg fun KF hKF => ?_
   | refine ct rfl ?_
   | refine sk ?_
   | refine rt ?_
   | refine Wp.block ?_
   | dsimp only [cond_true, cond_false]
  refine rz trivial ?_
  exact ⟨i, rfl, hil, by rw [hg]; exact (by simpa using he : z = l[i]).symm, hno, Ext0.ext⟩
structure GrI (H : AHeap) (rp rr n : Nat) (P R : List Int) : Prop where
 kp : HasRow H rp (cellsI P) true (2 * 3)
 kr : HasRow H rr (cellsI R) true (2 * 3)
 lp : P.length = n
 lr : R.length = n
 ne : rp ≠ rr
abbrev grV (w h rp rr : Nat) : AVal := .agg [.int .i64 (w : Int), .int .i64 (h : Int), .slice rp 0 (w * h) (some (w * h)) 1, .slice rr 0 (w * h) (some (w * h)) 1]
abbrev colV (w h rr x : Nat) : AVal := .slice rr (0 + x * h) ((x + 1) * h - x * h) (some (w * h - x * h)) 1
def colL (R : List Int) (h x : Nat) : List Int := (R.drop (x * h)).take h
theorem col_lt {w h x : Nat} (hx : x < w) : x * h + h ≤ w * h := by
 have := Nat.mul_le_mul_right h (show x + 1 ≤ w by omega)
 rw [Nat.add_mul, Nat.one_mul] at this
 exact this
theorem colL_len {R : List Int} {w h x : Nat} (hl : R.length = w * h) (hx : x < w) : (colL R h x).length = h := by
 have := col_lt (h := h) hx
 unfold colL
 rw [List.length_take, List.length_drop]; omega
theorem colL_at {R : List Int} {w h x y : Nat} (hl : R.length = w * h) (hx : x < w) (hy : y < h) : (colL R h x).getD y 0 = R.getD (x * h + y) 0 := by
 unfold colL
 rw [List.getD_eq_getElem?_getD, List.getElem?_take, if_pos hy, List.getElem?_drop, ← List.getD_eq_getElem?_getD]
theorem col_ints {H : AHeap} {rr w h x : Nat} {R : List Int} (k : HasRow H rr (cellsI R) true (2 * 3)) (hl : R.length = w * h) (hx : x < w) : IntsI H (colV w h rr x) (colL R h x) := by
 have h1 := col_lt (h := h) hx
 have h2 := colL_len hl hx
 unfold IntsI
 rw [h2]
 unfold colV
 rw [show (x + 1) * h - x * h = h by rw [Nat.add_mul, Nat.one_mul]; omega]
 refine ⟨Or.inr ⟨rr, 0 + x * h, some (w * h - x * h), cellsI R, true, _, rfl, k.lt, k.get, by rw [cellsI_length]; omega, ?_, by simp only [capD]; omega⟩⟩
 rw [Nat.mul_one, Nat.zero_add]
 simp [colL, cellsI, List.map_take, List.map_drop]
theorem K_column {w h rp rr x : Nat} {H : AHeap} (hw : w ≤ 640) (hh : h ≤ 640) (h0 : 0 < h) (hx : x < w) : Con ext prog 1 95 [grV w h rp rr, .int .i64 (x : Int)] H fun v H' => v = colV w h rr x ∧ Ext H H' := by
 refine con_of (show prog 95 = some c95 from rfl) rfl rfl fun n hn => ?_
 have h1 := col_lt (h := h) hx
 have hm : w * h ≤ 640 * 640 := Nat.mul_le_mul hw hh
 have e1 : IntKind.i64.wrap ((x : Int) * (h : Int)) = ((x * h : Nat) : Int) := wm (by omega)
 have e2 := wa1 (a := x) (by omega)
 have e3 : IntKind.i64.wrap (((x + 1 : Nat) : Int) * (h : Int)) = (((x + 1) * h : Nat) : Int) := wm (by rw [Nat.add_mul, Nat.one_mul]; omega)
 have hlt : x * h < (x + 1) * h := by rw [Nat.add_mul, Nat.one_mul]; omega
 repeat first
  | refine mI ?_
  | refine mN ?_
  | refine fd ?_
  | refine Fo.ld rfl rfl ?_
  | (refine bn rfl rfl rfl (by simp only [e1, e2, e3]; rfl) ?_)
  | refine bA ?_
  | refine nl hKF ?_
  | refine sq ?_
  | refine rg fun KF hKF => ?_
 refine Fo.now rfl (exec_subC (r := rr) (off := 0) (n := w * h) (c := w * h) (a := x * h) (b := (x + 1) * h) rfl rfl rfl hlt (by rw [Nat.add_mul, Nat.one_mul]; omega) (Nat.le_refl _)) rfl ?_
 refine mv ?_
 refine nl hKF ?_
 refine rt ?_
 dsimp only [cond_true, cond_false]
 refine rz trivial ?_
 exact ⟨rfl, Ext0.ext⟩
end Go.Am

namespace Go.Am
open Go
theorem WpX.conC {ext : Exts} {prog : FuncId → Option RFunc} {fr : AFrame} {H : AHeap} {K Q : AVal → AHeap → Prop} {n d : Nat} {f : FuncId} {o : ROpd} {l : List ROpd} {args caps : List AVal} (hc : Con ext prog d f args H Q) (hn : fuel0 + d ≤ n) (hf : o.ev fr = .func (.func f) [] caps) (hl : l.map (·.ev fr) ++ caps = args) (h : ∀ v H', Q v H' → K v H') : WpX (.call o l) (callN ext prog n) fr H K := by
  obtain ⟨u, H', h1, h2⟩ := hc n hn
  refine ⟨u, H', ?_, h _ _ h2⟩
  simp only [ROp.exec, hf, aCallV, List.nil_append, hl]
  exact h1
section
variable {call : ACall} {n ref : Nat} {its : List DItem} {H0 H : AHeap} {E : List (Nat × AHeap)} {Rd : List (Nat × (AHeap → Bool))} {fr : AFrame} {K : AFrame → AHeap → Prop} {b : Nat} {pre : Bool} {g : Option (Nat × Bool)}
theorem WpE.stR {d : Option Nat} {a x : ROpd} {r j : Nat} {l : List Int} {c : Int} {e : TypeId} (hw : ROper.wanted fr ⟨d, .store 1 a x, g⟩ = true) (ha : a.ev fr = .ptr r j) (hx : x.ev fr = .int .i64 c) [s : HasRow H r (cellsI l) true e] (hj : j < l.length)
    (h : AllR b (H.set r (.row (cellsI (l.set j c)) true e)) Rd ∧ WpE call (n + 1) ref its H0 ((n, H) :: E) Rd (put fr d aundef) (H.set r (.row (cellsI (l.set j c)) true e)) K) : WpE call n ref (⟨⟨d, .store 1 a x, g⟩, b, 2, pre⟩ :: its) H0 E Rd fr H K := by
  have hc : (cellsI l).set j (.int .i64 c) = cellsI (l.set j c) := by simp [cellsI, List.map_set]
  obtain ⟨v, H1, h1, rfl, rfl⟩ : WpX (.store 1 a x) call fr H fun v H1 => v = aundef ∧ H1 = H.set r (.row (cellsI (l.set j c)) true e) :=
    WpX.store ha hx rfl s.lt s.get (by simp only [AVal.cells, List.length_singleton, cellsI_length]; omega) rfl (by rw [show AVal.cells (.int .i64 c) = [.int .i64 c] from rfl, setAt_one, hc]; exact ⟨rfl, rfl⟩)
  exact WpE.effect hw h1 h.1 h.2
end
end Go.Am

namespace Go.Am
open Go
attribute [local irreducible] Wp WpO WpX WpE
def priF (P : List Int) (h x y : Nat) : Int := P.getD (x * h + y) 0
def resF (P : List Int) (w h i : Nat) : Int := restF (priF P h) w h (w - 1 - i / h) (i % h)
def mesL (P R : List Int) (w h k j : Nat) : List Int := (List.range (w * h)).map fun i => if w - k ≤ i / h ∨ (i / h + 1 + k = w ∧ i % h < j) then resF P w h i else R.getD i 0
def restL (P : List Int) (w h : Nat) : List Int := (List.range (w * h)).map (resF P w h)
theorem mes_len (P R : List Int) (w h k j : Nat) : (mesL P R w h k j).length = w * h := by simp [mesL]
theorem mes_at {P R : List Int} {w h k j i : Nat} (hi : i < w * h) : (mesL P R w h k j).getD i 0 = if w - k ≤ i / h ∨ (i / h + 1 + k = w ∧ i % h < j) then resF P w h i else R.getD i 0 := by
 rw [getD_at (by rw [mes_len]; exact hi)]
 simp [mesL]
theorem cell_at {h x y : Nat} (hy : y < h) : (x * h + y) / h = x ∧ (x * h + y) % h = y := by
 constructor
 ·rw [Nat.mul_comm, Nat.mul_add_div (by omega), Nat.div_eq_of_lt hy, Nat.add_zero]
 ·rw [Nat.mul_comm, Nat.mul_add_mod]; exact Nat.mod_eq_of_lt hy
theorem mes_zero {P R : List Int} {w h : Nat} (hl : R.length = w * h) : mesL P R w h 0 0 = R := by
 apply List.ext_getElem
 ·rw [mes_len, hl]
 ·intro i h1 h2
  rw [mes_len] at h1
  have : i / h < w := Nat.div_lt_of_lt_mul (by rw [Nat.mul_comm]; exact h1)
  rw [← getD_at, mes_at h1, if_neg (by omega), getD_at h2]
theorem mes_col {P R : List Int} {w h k : Nat} (hk : k < w) : mesL P R w h k h = mesL P R w h (k + 1) 0 := by
 unfold mesL
 apply List.map_congr_left
 intro i hi
 have hi := List.mem_range.1 hi
 have h0 : 0 < h := by
  rcases Nat.eq_zero_or_pos h with e | e
  ·subst e; omega
  ·exact e
 have := Nat.mod_lt i h0
 by_cases hc : w - k ≤ i / h ∨ (i / h + 1 + k = w ∧ i % h < h)
 ·rw [if_pos hc, if_pos (by omega)]
 ·rw [if_neg hc, if_neg (by omega)]
theorem mes_all {P R : List Int} {w h : Nat} : mesL P R w h w 0 = restL P w h := by
 unfold mesL restL
 apply List.map_congr_left
 intro i _
 have := Nat.zero_le (i / h)
 rw [if_pos (by omega)]
theorem cell_inj {h i j : Nat} (h1 : i / h = j / h) (h2 : i % h = j % h) : i = j := by
 have := Nat.div_add_mod i h
 have := Nat.div_add_mod j h
 rw [h1, h2] at *; omega
theorem mes_set {P R : List Int} {w h x k y : Nat} (hx : x + 1 + k = w) (hy : y < h) : (mesL P R w h k y).set (x * h + y) (resF P w h (x * h + y)) = mesL P R w h k (y + 1) := by
 obtain ⟨e1, e2⟩ := cell_at (x := x) hy
 apply List.ext_getElem
 ·simp [mesL]
 ·intro i h1 h2
  rw [List.getElem_set]
  simp only [mesL, List.getElem_map, List.getElem_range]
  by_cases e : x * h + y = i
  ·subst e; rw [if_pos rfl, if_pos (Or.inr ⟨by omega, by omega⟩)]
  ·rw [if_neg e]
   have hne : ¬ (i / h = x ∧ i % h = y) := fun q => e (cell_inj (h := h) (by omega) (by omega))
   by_cases hc : w - k ≤ i / h ∨ (i / h + 1 + k = w ∧ i % h < y)
   ·rw [if_pos hc, if_pos (by omega)]
   ·rw [if_neg hc, if_neg (by omega)]
theorem res_col {P : List Int} {w h x y : Nat} (hx : x < w) (hy : y < h) : resF P w h (x * h + y) = restF (priF P h) w h (w - 1 - x) y := by
 obtain ⟨e1, e2⟩ := cell_at (x := x) hy
 unfold resF
 rw [e1, e2]
theorem rest_at {P : List Int} {w h x y : Nat} (hx : x < w) (hy : y < h) : (restL P w h).getD (x * h + y) 0 = restF (priF P h) w h (w - 1 - x) y := by
 have := col_lt (h := h) hx
 rw [getD_at (by simp [restL]; omega)]
 simp only [restL, List.getElem_map, List.getElem_range]
 exact res_col hx hy
theorem rest_len (P : List Int) (w h : Nat) : (restL P w h).length = w * h := by simp [restL]
class PosL (P : List Int) : Prop where
 it : ∀ i, 0 ≤ P.getD i 0 ∧ P.getD i 0 ≤ 1920
theorem PosL.pos {P : List Int} (hP : PosL P) (h : Nat) : PosP (priF P h) := ⟨fun _ _ => hP.it _⟩
theorem nx_congr {c c' : Nat → Int} {h y : Nat} (hc : ∀ z, z < h → c z = c' z) (h0 : 0 < h) : nxF c h y = nxF c' h y := by
 unfold nxF
 have key : ∀ k, loB y + k ≤ h → nxTo c y (loB y) k = nxTo c' y (loB y) k := by
  intro k
  induction k with
  | zero => intro _; rfl
  | succ k ih =>
   intro hk
   simp only [nxTo]
   rw [ih (by omega), hc _ (by omega)]
 by_cases hlt : loB y ≤ hiB h y + 1
 ·exact key _ (by unfold hiB at *; omega)
 ·rw [show hiB h y + 1 - loB y = 0 by omega]; rfl
theorem mes_colL {P R : List Int} {w h k x j z : Nat} (hx : x + 1 + k = w) (hk : 0 < k) (hz : z < h) : (colL (mesL P R w h k j) h (x + 1)).getD z 0 = restF (priF P h) w h (k - 1) z := by
 have hxw : x + 1 < w := by omega
 have h1 := col_lt (h := h) hxw
 rw [colL_at (mes_len P R w h k j) hxw hz, mes_at (by omega)]
 obtain ⟨e1, e2⟩ := cell_at (x := x + 1) hz
 rw [if_pos (Or.inl (by omega)), res_col hxw hz]
 rw [show w - 1 - (x + 1) = k - 1 by omega]
theorem K_from {w h rp rr q x k y : Nat} {H : AHeap} {P R : List Int} {e : TypeId} (hw : w ≤ 640) (hh : h ≤ 640) (hP : PosL P) (hq : HasRow H q [.int .i64 (w : Int), .int .i64 (h : Int), .slice rp 0 (w * h) (some (w * h)) 1, .slice rr 0 (w * h) (some (w * h)) 1] true e) (hg : GrI H rp rr (w * h) P (mesL P R w h k y)) (hx : x + 1 + k = w) (hy : y < h) : Con ext prog 8 93 [.int .i64 (x : Int), .int .i64 (y : Int), .ptr q 0] H fun v H' => v = .int .i64 (resF P w h (x * h + y)) ∧ Ext H H' := by
 refine con_of (show prog 93 = some c93 from rfl) rfl rfl fun n hn => ?_
 haveI := hq
 have hxw : x < w := by omega
 have h1 := col_lt (h := h) hxw
 have hm : w * h ≤ 640 * 640 := Nat.mul_le_mul hw hh
 haveI hPi : IntsI H (.slice rp 0 (w * h) (some (w * h)) 1) P := row_ints hg.kp hg.lp
 haveI := hPi.one
 have hPl := hg.lp
 have e1 : IntKind.i64.wrap ((x : Int) * (h : Int)) = ((x * h : Nat) : Int) := wm (by omega)
 have e2 : IntKind.i64.wrap (((x * h : Nat) : Int) + (y : Int)) = ((x * h + y : Nat) : Int) := wa (by omega)
 have hi : x * h + y < P.length := by omega
 have eP : P[x * h + y] = priF P h x y := (getD_at hi).symm
 have hpp := hP.it (x * h + y)
 rw [show P.getD (x * h + y) 0 = priF P h x y from rfl] at hpp
 have e3 : IntKind.i64.wrap ((w : Int) - 1) = (w : Int) - 1 := w64 (by omega)
 rw [res_col hxw hy, show w - 1 - x = k by omega]
 rcases Nat.eq_zero_or_pos k with hk | hk
 ·subst hk
  have hc : decide ((x : Int) < (w : Int) - 1) = false := decide_eq_false (by omega)
  have er : restF (priF P h) w h 0 y = priF P h x y := by
   simp only [restF]
   rw [show w - 1 = x by omega]
  rw [er]
  repeat first
   | refine mI ?_
   | refine fd ?_
   | refine Fo.ld rfl rfl ?_
   | (refine bn rfl rfl rfl (by simp only [e1, e2, eP, e3, hc]; rfl) ?_)
   | (refine Fo.idx (by simp only [↓nrmL, nrmK, Nat.reduceEqDiff, ↓reduceIte]; rfl) rfl ?_ (by simp only [↓nrmL, nrmZ, Nat.reduceEqDiff, ↓reduceIte, Nat.reduceAdd, Int.reduceBEq, Int.reduceBNe, e1, e2, eP, e3, hc]; rfl) ?_; (focus omega))
   | (refine Fo.ldI rfl ?_ (by simp only [e1, e2, eP, e3, hc]; rfl) ?_; (focus omega))
   | refine nl hKF ?_
   | refine sq ?_
   | refine rg fun KF hKF => ?_
   | refine cf rfl ?_
   | refine sk ?_
   | refine rt ?_
   | dsimp only [cond_true, cond_false]
  refine rz trivial ?_
  exact ⟨rfl, Ext0.ext⟩
 ·have hc : decide ((x : Int) < (w : Int) - 1) = true := decide_eq_true (by omega)
  have hxw1 : x + 1 < w := by omega
  have er : restF (priF P h) w h k y = priF P h x y + (nxF (restF (priF P h) w h (k - 1)) h y).2 := by
   obtain ⟨k', rfl⟩ : ∃ k', k = k' + 1 := ⟨k - 1, by omega⟩
   simp only [restF]
   rw [show w - 1 - (k' + 1) = x by omega]
   rfl
  have hcl := colL_len (R := mesL P R w h k y) (h := h) (mes_len P R w h k y) hxw1
  have hcol : IntsI H (colV w h rr (x + 1)) (colL (mesL P R w h k y) h (x + 1)) := col_ints hg.kr (mes_len P R w h k y) hxw1
  have hval : ∀ z, z < h → (colL (mesL P R w h k y) h (x + 1)).getD z 0 = restF (priF P h) w h (k - 1) z := fun z hz => mes_colL hx hk hz
  have hrange : ∀ z, 0 ≤ (colL (mesL P R w h k y) h (x + 1)).getD z 0 ∧ (colL (mesL P R w h k y) h (x + 1)).getD z 0 ≤ 3840 := fun z => by
   by_cases hz : z < h
   ·rw [hval z hz]; exact ⟨rest_pos (hP.pos h) _ _, rest_max (hP.pos h) _ _⟩
   ·rw [getD_out (by rw [hcl]; omega)]; omega
  have enx : nxF (fun i => (colL (mesL P R w h k y) h (x + 1)).getD i 0) (colL (mesL P R w h k y) h (x + 1)).length y = nxF (restF (priF P h) w h (k - 1)) h y := by
   rw [hcl]
   exact nx_congr hval (by omega)
  have hcap := nx_cap (restF (priF P h) w h (k - 1)) h y
  have hpo : 0 ≤ (nxF (restF (priF P h) w h (k - 1)) h y).2 := nxTo_pos (rest_pos (hP.pos h) _) _
  obtain ⟨N, hN⟩ : ∃ N, nxF (restF (priF P h) w h (k - 1)) h y = N := ⟨_, rfl⟩
  rw [hN] at enx hcap hpo er
  rw [er]
  have e4 := wa1 (a := x) (by omega)
  have e5 : IntKind.i64.wrap (priF P h x y + N.2) = priF P h x y + N.2 := w64 (by omega)
  haveI hcolC : ∀ H, PureCon ext prog 95 [grV w h rp rr, .int .i64 ((x + 1 : Nat) : Int)] H 1 (colV w h rr (x + 1)) := fun H => ⟨K_column hw hh (by omega) hxw1⟩
  repeat first
   | refine mI ?_
   | refine fd ?_
   | refine Fo.ld rfl rfl ?_
   | (refine Fo.ldN rfl rfl (by simp only [↓nrmL, nrmZ, Nat.reduceEqDiff, ↓reduceIte, Nat.reduceAdd, Int.reduceBEq, Int.reduceBNe, e1, e2, eP, e3, hc, e4]; rfl) ?_)
   | (refine bn rfl rfl rfl (by simp only [e1, e2, eP, e3, hc, e4]; rfl) ?_)
   | (refine Fo.pcall (v' := ?_) hn rfl (by simp only [↓nrmL, nrmZ, Nat.reduceEqDiff, ↓reduceIte, Nat.reduceAdd, Int.reduceBEq, Int.reduceBNe, e1, e2, eP, e3, hc, e4, List.map]; rfl) rfl ?hv fun _ _ => ?_; case hv => rfl)
   | (refine Fo.idx (by simp only [↓nrmL, nrmK, Nat.reduceEqDiff, ↓reduceIte]; rfl) rfl ?_ (by simp only [↓nrmL, nrmZ, Nat.reduceEqDiff, ↓reduceIte, Nat.reduceAdd, Int.reduceBEq, Int.reduceBNe, e1, e2, eP, e3, hc, e4]; rfl) ?_; (focus omega))
   | (refine Fo.ldI rfl ?_ (by simp only [e1, e2, eP, e3, hc, e4]; rfl) ?_; (focus omega))
   | refine nl hKF ?_
   | refine sq ?_
   | refine rg fun KF hKF => ?_
   | refine ct rfl ?_
  haveI := hcol
  refine WpO.do (WpX.conD hn rfl rfl (by simp only [↓nrmL, nrmZ, Nat.reduceEqDiff, ↓reduceIte, Nat.reduceAdd, Int.reduceBEq, Int.reduceBNe, List.map] <;> rfl) (K_next (p := colV w h rr (x + 1)) (y := y) (l := colL (mesL P R w h k y) h (x + 1)) (by omega) (by omega) (by omega) hrange) fun v H5 h5 => ?_)
  obtain ⟨rfl, hx5⟩ := h5
  rw [enx]
  haveI : ExtI _ H5 := ⟨hx5⟩
  simp only [↓nrmL, nrmZ, Nat.reduceEqDiff, ↓reduceIte, Nat.reduceAdd, Int.reduceBEq, Int.reduceBNe, e5]
  repeat first
   | refine mI ?_
   | refine mT ?_
   | (refine bn rfl rfl rfl (by simp only [e5]; rfl) ?_)
   | refine xt ?_
   | refine nl hKF ?_
   | refine sq ?_
   | refine rg fun KF hKF => ?_
   | refine rt ?_
   | dsimp only [cond_true, cond_false]
  refine rz trivial ?_
  exact ⟨rfl, Ext0.ext⟩
end Go.Am

namespace Go.Am
open Go
attribute [local irreducible] Wp WpO WpX WpE
abbrev rrV (w h rr : Nat) : AVal := .slice rr 0 (w * h) (some (w * h)) 1
theorem K_measure {w h rp rr : Nat} {H : AHeap} {P R : List Int} (hw : w ≤ 640) (hh : h ≤ 640) (hw0 : 0 < w) (hh0 : 0 < h) (hP : PosL P) (hg : GrI H rp rr (w * h) P R) : Con ext prog 9 57 [grV w h rp rr] H fun v H' => v = .int .i64 (mnL (colL (restL P w h) h 0) (h - 1)) ∧ GrI H' rp rr (w * h) P (restL P w h) ∧ ExtP H H' (rrV w h rr) := by
 refine con_of (show prog 57 = some c57 from rfl) rfl rfl fun n hn => ?_
 have hm : w * h ≤ 640 * 640 := Nat.mul_le_mul hw hh
 have hrr := hg.kr.lt
 have hrp := hg.kp.lt
 have hne := hg.ne
 haveI : RowNe (rrV w h rr) H.n := ⟨fun r _ _ _ _ e => by cases e; omega⟩
 haveI : NeR H.n rr := ⟨by omega⟩
 haveI : RowNe (rrV w h rr) rp := ⟨fun r _ _ _ _ e => by cases e; omega⟩
 have e1 : IntKind.i64.wrap ((w : Int) - 1) = (w : Int) - 1 := w64 (by omega)
 have hcolC : ∀ x, x < w → ∀ H, PureCon ext prog 95 [grV w h rp rr, .int .i64 (x : Int)] H 1 (colV w h rr x) := fun x hx H => ⟨K_column hw hh hh0 hx⟩
 repeat first
  | refine mI ?_
  | refine mF ?_
  | refine fd ?_
  | refine Fo.ld rfl rfl ?_
  | (refine bn rfl rfl rfl (by simp only [e1]; rfl) ?_)
  | refine bA ?_
  | refine Fo.now rfl rfl rfl ?_
  | refine nl hKF ?_
  | refine sq ?_
  | refine rg fun KF hKF => ?_
  | refine Wp.block ?_
  | dsimp only [cond_true, cond_false]
 refine Wp.loopS [4, 5, 6, 11, 12, 13, 14, 15, 16, 17, 18, 19, 20, 21, 22, 23, 24, 25, 26, 27, 28, 29, 30] (fun k : Nat => [(4, .int .i64 ((w : Int) - 1 - (k : Int)))]) (fun _ k H2 => k ≤ w ∧ HasRow H2 rr (cellsI (mesL P R w h k 0)) true (2 * 3) ∧ HasRow H2 H.n [.int .i64 (w : Int), .int .i64 (h : Int), .slice rp 0 (w * h) (some (w * h)) 1, .slice rr 0 (w * h) (some (w * h)) 1] true (2 * 83) ∧ ExtP H H2 (rrV w h rr)) (fun k => w - k) 0 rfl (fun _ => rfl) ⟨by simp only [↓nrmL, nrmZ, Nat.reduceEqDiff, ↓reduceIte, Nat.reduceAdd, Int.reduceBEq, Int.reduceBNe]; rw [show (w : Int) - 1 - ((0 : Nat) : Int) = (w : Int) - 1 by omega], trivial⟩ ⟨Nat.zero_le _, by rw [mes_zero hg.lr]; haveI := hg.kr; exact inferInstance, inferInstance, (ExtP.refl _ _).pushN⟩ (by unfold fuel0 at hn; omega) ?_
 rintro k g H2 ⟨hk, hkr, hq, hx⟩
 haveI := hkr
 haveI := hq
 haveI := hg.kp
 haveI := hx
 have hkp2 : HasRow H2 rp (cellsI P) true (2 * 3) := inferInstance
 simp only [↓nrmL, nrmZ, Nat.reduceEqDiff, ↓reduceIte, Nat.reduceAdd, Int.reduceBEq, Int.reduceBNe]
 cases hc : decide ((w : Int) - 1 - (k : Int) ≥ 0)
 ·have hke : k = w := by have := of_decide_eq_false hc; omega
  subst hke
  rw [mes_all] at hkr
  haveI := hcolC 0 hw0
  have hci : IntsI H2 (colV k h rr 0) (colL (restL P k h) h 0) := col_ints hkr (rest_len P k h) hw0
  haveI := hci
  have hcl := colL_len (R := restL P k h) (h := h) (rest_len P k h) hw0
  repeat first
   | refine mI ?_
   | (refine Fo.ldN rfl rfl (by simp only [↓nrmL, nrmZ, Nat.reduceEqDiff, ↓reduceIte, Nat.reduceAdd, Int.reduceBEq, Int.reduceBNe, hc]; rfl) ?_)
   | (refine bn rfl rfl rfl (by simp only [hc]; rfl) ?_)
   | (refine Fo.pcall (v' := ?_) hn rfl (by simp only [↓nrmL, nrmZ, Nat.reduceEqDiff, ↓reduceIte, Nat.reduceAdd, Int.reduceBEq, Int.reduceBNe, hc, List.map]; rfl) rfl ?hv fun _ _ => ?_; case hv => rfl)
   | refine nl hKF ?_
   | refine sq ?_
   | refine rg fun KF hKF => ?_
   | refine cf rfl ?_
   | refine xi ?_
  refine WpO.do (WpX.conD hn rfl rfl (by simp only [↓nrmL, nrmZ, Nat.reduceEqDiff, ↓reduceIte, Nat.reduceAdd, Int.reduceBEq, Int.reduceBNe, List.map] <;> rfl) (K_MinA (p := colV k h rr 0) (l := colL (restL P k h) h 0) (by omega) (by omega)) fun v H5 h5 => ?_)
  obtain ⟨rfl, hx5⟩ := h5
  rw [hcl]
  haveI : ExtI _ H5 := ⟨hx5⟩
  refine mI ?_
  refine nl hKF ?_
  refine rt ?_
  dsimp only [cond_true, cond_false]
  refine rz trivial ?_
  exact ⟨rfl, ⟨inferInstance, by rw [← mes_all (R := R)]; exact inferInstance, hg.lp, rest_len _ _ _, hne⟩, hx.ext (Ext0.ext : Ext H2 H5)⟩
 have hkw : k < w := by have := of_decide_eq_true hc; omega
 obtain ⟨x, hxk⟩ : ∃ x, x + 1 + k = w := ⟨w - 1 - k, by omega⟩
 have ex : (w : Int) - 1 - (k : Int) = (x : Int) := by omega
 have hxw : x < w := by omega
 have h1 := col_lt (h := h) hxw
 haveI := hcolC x hxw
 have hcl0 := colL_len (R := mesL P R w h k 0) (h := h) (mes_len P R w h k 0) hxw
 haveI hci0 : IntsI H2 (colV w h rr x) (colL (mesL P R w h k 0) h x) := col_ints hkr (mes_len P R w h k 0) hxw
 rw [ex] at hc ⊢
 have hcx : decide ((x : Int) ≥ 0) = true := decide_eq_true (by omega)
 repeat first
  | refine mI ?_
  | (refine mv ?_)
  | (refine Fo.ldN rfl rfl (by simp only [↓nrmL, nrmZ, Nat.reduceEqDiff, ↓reduceIte, Nat.reduceAdd, Int.reduceBEq, Int.reduceBNe, hcx, hcl0]; rfl) ?_)
  | (refine bn rfl rfl rfl (by simp only [hcx, hcl0]; rfl) ?_)
  | (refine Fo.pcall (v' := ?_) hn rfl (by simp only [↓nrmL, nrmZ, Nat.reduceEqDiff, ↓reduceIte, Nat.reduceAdd, Int.reduceBEq, Int.reduceBNe, hcx, hcl0, List.map]; rfl) rfl ?hv fun _ _ => ?_; case hv => rfl)
  | (refine Fo.len (v := ?_) (by simp only [↓nrmL, nrmK, Nat.reduceEqDiff, ↓reduceIte]; rfl) ?hv ?_; case hv => (simp only [hcx, hcl0]; rfl))
  | refine nl hKF ?_
  | refine sq ?_
  | refine rg fun KF hKF => ?_
  | refine ct rfl ?_
  | refine sk ?_
  | refine Wp.block ?_
  | dsimp only [cond_true, cond_false]
 rename ExtI H2 _ => hx2b
 refine Wp.loopS [6, 20, 21, 22, 23, 24, 25, 26, 27, 28, 29, 30] (fun y : Nat => [(20, .int .i64 (y : Int))]) (fun H3 y H4 => y ≤ h ∧ HasRow H4 rr (cellsI (mesL P R w h k y)) true (2 * 3) ∧ HasRow H4 H.n [.int .i64 (w : Int), .int .i64 (h : Int), .slice rp 0 (w * h) (some (w * h)) 1, .slice rr 0 (w * h) (some (w * h)) 1] true (2 * 83) ∧ ExtP H H4 (rrV w h rr)) (fun y => h - y) 0 rfl (fun _ => rfl) ⟨rfl, trivial⟩ ⟨Nat.zero_le _, inferInstance, inferInstance, hx.ext hx2b.ext⟩ (by unfold fuel0 at hn; omega) ?_
 rintro y g2 H4 ⟨hy, hkr4, hq4, hx4⟩
 haveI := hkr4
 haveI := hq4
 haveI := hx4
 have hkp4 : HasRow H4 rp (cellsI P) true (2 * 3) := inferInstance
 simp only [↓nrmL, nrmZ, Nat.reduceEqDiff, ↓reduceIte, Nat.reduceAdd, Int.reduceBEq, Int.reduceBNe]
 cases hcy : decide ((y : Int) < (h : Int))
 ·have hye : y = h := by have := of_decide_eq_false hcy; omega
  subst hye
  have e2 : IntKind.i64.wrap ((x : Int) - 1) = (w : Int) - 1 - ((k + 1 : Nat) : Int) := by rw [w64 (by omega)]; omega
  repeat first
   | refine mI ?_
   | (refine bn rfl rfl rfl (by simp only [hcy, e2]; rfl) ?_)
   | refine nl hKF ?_
   | refine sq ?_
   | refine rg fun KF hKF => ?_
   | refine cf rfl ?_
   | refine xi ?_
   | dsimp only [cond_true, cond_false]
  exact ⟨k + 1, by omega, ⟨rfl, trivial⟩, by omega, by rw [← mes_col hkw]; exact hkr4, hq4, hx4⟩
 have hyl : y < h := by have := of_decide_eq_true hcy; omega
 have e3 := wa1 (a := y) (by omega)
 have hcl := colL_len (R := mesL P R w h k y) (h := h) (mes_len P R w h k y) hxw
 repeat first
  | refine mI ?_
  | refine mF ?_
  | (refine mv ?_)
  | (refine bn rfl rfl rfl (by simp only [hcy]; rfl) ?_)
  | refine nl hKF ?_
  | refine sq ?_
  | refine rg fun KF hKF => ?_
  | refine ct rfl ?_
  | refine sk ?_
  | refine Wp.block ?_
 refine WpO.do (WpX.conC (K_from hw hh hP hq4 ⟨hkp4, hkr4, hg.lp, mes_len P R w h k y, hne⟩ hxk hyl) (Nat.le_trans (by omega) hn) rfl (by simp only [↓nrmL, nrmZ, Nat.reduceEqDiff, ↓reduceIte, Nat.reduceAdd, Int.reduceBEq, Int.reduceBNe, List.map] <;> rfl) fun v H5 h5 => ?_)
 obtain ⟨rfl, hx5⟩ := h5
 haveI : ExtI _ H5 := ⟨hx5⟩
 haveI hkr5 : HasRow H5 rr (cellsI (mesL P R w h k y)) true (2 * 3) := inferInstance
 haveI hci : IntsI H5 (colV w h rr x) (colL (mesL P R w h k y) h x) := col_ints hkr5 (mes_len P R w h k y) hxw
 refine Fo.idx (by simp only [↓nrmL, nrmK, Nat.reduceEqDiff, ↓reduceIte]; rfl) rfl ?_ (by simp only [↓nrmL, nrmZ, Nat.reduceEqDiff, ↓reduceIte, Nat.reduceAdd, Int.reduceBEq, Int.reduceBNe, hcl]; rfl) ?_; (focus omega)
 refine WpO.do' (WpX.stR (r := rr) (j := 0 + x * h + y) (l := mesL P R w h k y) rfl rfl (by rw [mes_len]; omega) ?_)
 rw [Nat.zero_add, mes_set hxk hyl]
 refine nl hKF ?_
 refine rg fun KF hKF => ?_
 refine bn rfl rfl rfl (by simp only [e3]; rfl) ?_
 refine mI ?_
 refine nl hKF ?_
 dsimp only [cond_true, cond_false]
 refine ⟨y + 1, by omega, ⟨rfl, trivial⟩, by omega, inferInstance, inferInstance, ?_⟩
 exact ⟨by have := hx4.n; have := hx5.n; simp only [AHeap.set]; omega, fun s hs hp => by
  have : s ≠ rr := fun e => hp.ne _ _ _ _ _ rfl e.symm
  rw [set_get_ne this, hx5.get s (by have := hx4.n; omega), hx4.get s hs hp]⟩
end Go.Am

namespace Go.Am
open Go
attribute [local irreducible] Wp WpO WpX WpE
def pathL (P : List Int) (w h y0 : Nat) : List Int := (List.range w).map fun x => (folF (priF P h) w h y0 x : Int)
theorem rest_colL {P : List Int} {w h x z : Nat} (hx : x < w) (hz : z < h) : (colL (restL P w h) h x).getD z 0 = restF (priF P h) w h (w - 1 - x) z := by
 rw [colL_at (rest_len P w h) hx hz, rest_at hx hz]
theorem K_follow {w h rp rr : Nat} {H : AHeap} {P : List Int} (hw : w ≤ 640) (hh : h ≤ 640) (hw0 : 0 < w) (hh0 : 0 < h) (hP : PosL P) (hg : GrI H rp rr (w * h) P (restL P w h)) (hmin : mnL (colL (restL P w h) h 0) (h - 1) < 1920) : Con ext prog 9 58 [grV w h rp rr] H fun v H' => ∃ y0 : Nat, y0 < h ∧ restF (priF P h) w h (w - 1) y0 = mnL (colL (restL P w h) h 0) (h - 1) ∧ (∀ j, j < y0 → restF (priF P h) w h (w - 1) j ≠ mnL (colL (restL P w h) h 0) (h - 1)) ∧ (∃ r, v = .slice r 0 w (some w) 1 ∧ HasRow H' r (cellsI (pathL P w h y0)) true (2 * 3) ∧ H.n ≤ r) ∧ Ext H H' := by
 refine con_of (show prog 58 = some c58 from rfl) rfl rfl fun n hn => ?_
 have hm : w * h ≤ 640 * 640 := Nat.mul_le_mul hw hh
 have hcolC : ∀ x, x < w → ∀ H, PureCon ext prog 95 [grV w h rp rr, .int .i64 (x : Int)] H 1 (colV w h rr x) := fun x hx H => ⟨K_column hw hh hh0 hx⟩
 have hcl : ∀ x, x < w → (colL (restL P w h) h x).length = h := fun x hx => colL_len (rest_len P w h) hx
 have hci : ∀ x, x < w → IntsI H (colV w h rr x) (colL (restL P w h) h x) := fun x hx => col_ints hg.kr (rest_len P w h) hx
 haveI := hcolC 0 hw0
 haveI := hci 0 hw0
 have hcl0 := hcl 0 hw0
 repeat first
  | refine mN ?_
  | (refine mv ?_)
  | refine fd ?_
  | refine Fo.ld rfl rfl ?_
  | (refine Fo.ldN rfl rfl (by simp only [↓nrmL, nrmZ, Nat.reduceEqDiff, ↓reduceIte, Nat.reduceAdd, Int.reduceBEq, Int.reduceBNe]; rfl) ?_)
  | (refine Fo.pcall (v' := ?_) hn rfl (by simp only [↓nrmL, nrmZ, Nat.reduceEqDiff, ↓reduceIte, Nat.reduceAdd, Int.reduceBEq, Int.reduceBNe, List.map]; rfl) rfl ?hv fun _ _ => ?_; case hv => rfl)
  | refine bA ?_
  | refine nl hKF ?_
  | refine sq ?_
  | refine rg fun KF hKF => ?_
 refine WpO.do (WpX.mkR rfl rfl (by omega) ?_)
 rename AHeap => H1
 rename ExtI _ H1 => hx1
 have hn1 := hx1.ext.n
 simp only [AHeap.push] at hn1
 repeat first
  | (refine mv ?_)
  | refine nl hKF ?_
  | refine sq ?_
  | refine rg fun KF hKF => ?_
 refine WpO.do (WpX.conD hn rfl rfl (by simp only [↓nrmL, nrmZ, Nat.reduceEqDiff, ↓reduceIte, Nat.reduceAdd, Int.reduceBEq, Int.reduceBNe, List.map] <;> rfl) (K_MinA (p := colV w h rr 0) (l := colL (restL P w h) h 0) (by omega) (by omega)) fun v H5 h5 => ?_)
 obtain ⟨rfl, hx5⟩ := h5
 haveI : ExtI _ H5 := ⟨hx5⟩
 rw [hcl0]
 obtain ⟨m, hm0⟩ : ∃ m, mnL (colL (restL P w h) h 0) (h - 1) = m := ⟨_, rfl⟩
 rw [hm0] at hmin ⊢
 skip
 refine WpO.do (WpX.conD hn rfl rfl (by simp only [↓nrmL, nrmZ, Nat.reduceEqDiff, ↓reduceIte, Nat.reduceAdd, Int.reduceBEq, Int.reduceBNe, List.map] <;> rfl) (K_IndexA (p := colV w h rr 0) (l := colL (restL P w h) h 0) (z := m) (by omega) (by obtain ⟨i, i1, i2⟩ := mn_in (l := colL (restL P w h) h 0) (h - 1); exact ⟨i, by omega, by rw [← i2, hm0]⟩)) fun v H6 h6 => ?_)
 obtain ⟨y0, rfl, hy1, hy2, hy3, hx6⟩ := h6
 haveI : ExtI _ H6 := ⟨hx6⟩
 rw [hcl0] at hy1
 rw [rest_colL hw0 hy1, Nat.sub_zero] at hy2
 have hfol := fol_path (hP.pos h) hh0 hy1 (by rw [hy2]; exact hmin)
 obtain ⟨f, hf⟩ : ∃ f : Nat → Int, (fun x => (folF (priF P h) w h y0 x : Int)) = f := ⟨_, rfl⟩
 have hfx : ∀ x, f x = (folF (priF P h) w h y0 x : Int) := fun x => by rw [← hf]
 haveI hkr6 : HasRow H6 H1.n (cellsI (List.replicate w 0)) true (2 * 3) := inferInstance
 haveI i0 : IntsI H6 (.slice H1.n 0 w (some w) 1) (List.replicate w 0) := row_ints hkr6 List.length_replicate
 haveI := i0.one
 have hrl : 0 < (List.replicate w (0 : Int)).length := by rw [List.length_replicate]; exact hw0
 refine Fo.idx (by simp only [↓nrmL, nrmK, Nat.reduceEqDiff, ↓reduceIte]; rfl) rfl ?_ (by simp only [↓nrmL, nrmZ, Nat.reduceEqDiff, ↓reduceIte, Nat.reduceAdd, Int.reduceBEq, Int.reduceBNe]; rfl) ?_; (focus omega)
 refine WpO.do' (WpX.stR (r := H1.n) (j := 0) (l := List.replicate w 0) rfl rfl (by rw [List.length_replicate]; exact hw0) ?_)
 rw [show ((y0 : Nat) : Int) = f 0 by rw [hfx]; rfl, ← fillI_zero f w, fillI_set]
 repeat first
  | refine mI ?_
  | refine nl hKF ?_
  | refine sq ?_
  | refine rg fun KF hKF => ?_
  | refine Wp.block ?_
  | dsimp only [cond_true, cond_false]
 have hq6 : HasRow H6 H.n [.int .i64 (w : Int), .int .i64 (h : Int), .slice rp 0 (w * h) (some (w * h)) 1, .slice rr 0 (w * h) (some (w * h)) 1] true (2 * 83) := inferInstance
 have hx06 : Ext H H6 := Ext0.ext
 refine Wp.loopS [5, 17, 18, 19, 20, 21, 22, 23, 24, 25, 26, 27, 28, 29, 30, 31, 32, 33, 34, 35, 36, 37] (fun x : Nat => [(5, .int .i64 (x : Int))]) (fun _ x H2 => 1 ≤ x ∧ x ≤ w ∧ HasRow H2 H1.n (cellsI (fillI f x w)) true (2 * 3) ∧ HasRow H2 H.n [.int .i64 (w : Int), .int .i64 (h : Int), .slice rp 0 (w * h) (some (w * h)) 1, .slice rr 0 (w * h) (some (w * h)) 1] true (2 * 83) ∧ Ext H H2) (fun x => w - x) 1 rfl (fun _ => rfl) ⟨rfl, trivial⟩ ⟨Nat.le_refl _, hw0, inferInstance, by haveI : NeR H.n H1.n := ⟨by omega⟩; exact inferInstance, hx06.set (by omega) _⟩ (by unfold fuel0 at hn; omega) ?_
 rintro x g H2 ⟨hx1', hxw, hkr, hq, hx⟩
 haveI := hkr
 haveI := hq
 haveI : ExtI H H2 := ⟨hx⟩
 simp only [↓nrmL, nrmZ, Nat.reduceEqDiff, ↓reduceIte, Nat.reduceAdd, Int.reduceBEq, Int.reduceBNe]
 cases hc : decide ((x : Int) < (w : Int))
 ·have hxe : x = w := by have := of_decide_eq_false hc; omega
  subst hxe
  repeat first
   | refine mI ?_
   | (refine mv ?_)
   | refine fd ?_
   | refine Fo.ld rfl rfl ?_
   | (refine bn rfl rfl rfl (by simp only [↓nrmL, nrmZ, Nat.reduceEqDiff, ↓reduceIte, Nat.reduceAdd, Int.reduceBEq, Int.reduceBNe, hc]; rfl) ?_)
   | refine nl hKF ?_
   | refine sq ?_
   | refine rg fun KF hKF => ?_
   | refine cf rfl ?_
   | refine rt ?_
   | refine xi ?_
   | dsimp only [cond_true, cond_false]
  refine rz trivial ?_
  have ep : fillI f x x = pathL P x h y0 := by rw [fillI_all, ← hf]; rfl
  refine ⟨y0, hy1, by rw [hm0]; exact hy2, fun j hj => ?_, ⟨_, rfl, by rw [← ep]; exact inferInstance, by omega⟩, Ext0.ext⟩
  have := hy3 j hj
  rw [rest_colL hw0 (by omega), Nat.sub_zero] at this
  rw [hm0]; exact this
 have hxl : x < w := by have := of_decide_eq_true hc; omega
 have hwx := wa1 (a := x) (by omega)
 obtain ⟨x0, rfl⟩ : ∃ x0, x = x0 + 1 := ⟨x - 1, by omega⟩
 have hsub : IntKind.i64.wrap (((x0 + 1 : Nat) : Int) - 1) = (x0 : Int) := by rw [w64 (by omega)]; omega
 have hfl := fillI_len f (x0 + 1) w
 haveI hli : IntsI H2 (.slice H1.n 0 w (some w) 1) (fillI f (x0 + 1) w) := row_ints hkr hfl
 haveI := hcolC (x0 + 1) hxl
 haveI := hci (x0 + 1) hxl
 have hcx := hcl (x0 + 1) hxl
 have hxf : x0 < (fillI f (x0 + 1) w).length := by omega
 have hg0 : (fillI f (x0 + 1) w)[x0] = (folF (priF P h) w h y0 x0 : Int) := by simp [fillI, hfx]
 have hrange : ∀ z, 0 ≤ (colL (restL P w h) h (x0 + 1)).getD z 0 ∧ (colL (restL P w h) h (x0 + 1)).getD z 0 ≤ 3840 := fun z => by
  by_cases hz : z < h
  ·rw [rest_colL hxl hz]; exact ⟨rest_pos (hP.pos h) _ _, rest_max (hP.pos h) _ _⟩
  ·rw [getD_out (by omega)]; omega
 have enx : nxF (fun i => (colL (restL P w h) h (x0 + 1)).getD i 0) (colL (restL P w h) h (x0 + 1)).length (folF (priF P h) w h y0 x0) = nxF (restF (priF P h) w h (w - 1 - (x0 + 1))) h (folF (priF P h) w h y0 x0) := by
  rw [hcx]
  exact nx_congr (fun z hz => rest_colL hxl hz) hh0
 have hfs : f (x0 + 1) = ((nxF (restF (priF P h) w h (w - 1 - (x0 + 1))) h (folF (priF P h) w h y0 x0)).1 : Int) := by rw [hfx]; rfl
 haveI hnx : ∀ (H1 : AHeap) [IntsI H1 (colV w h rr (x0 + 1)) (colL (restL P w h) h (x0 + 1))], PureCon ext prog 94 [colV w h rr (x0 + 1), .int .i64 (folF (priF P h) w h y0 x0 : Int)] H1 6 (.tuple [.int .i64 (f (x0 + 1)), .int .i64 (nxF (restF (priF P h) w h (w - 1 - (x0 + 1))) h (folF (priF P h) w h y0 x0)).2]) := fun H1 hI => ⟨by
  rw [hfs, ← enx]
  exact K_next (by omega) (by omega) (by rw [hcx]; exact hfol.row x0 (by omega)) hrange⟩
 refine sq ?_
 refine sq ?_
 refine rg fun KF hKF => ?_
 refine mI ?_
 refine fd ?_
 refine Fo.ld rfl rfl ?_
 refine bn rfl rfl rfl (by simp only [↓nrmL, nrmZ, Nat.reduceEqDiff, ↓reduceIte, Nat.reduceAdd, Int.reduceBEq, Int.reduceBNe, hc]; rfl) ?_
 refine nl hKF ?_
 refine ct rfl ?_
 refine sk ?_
 refine sq ?_
 refine Wp.block ?_
 dsimp only [cond_true, cond_false]
 refine Fr.dregion0 rfl fun KF hKF => ?_
 simp only [↓nrmL, nrmZ, Nat.reduceEqDiff, ↓reduceIte, Nat.reduceAdd, Int.reduceBEq, Int.reduceBNe, hsub, hg0]
 repeat first
  | (refine Er rfl (exec_ldN rfl rfl (by simp only [↓nrmL, nrmZ, Nat.reduceEqDiff, ↓reduceIte, Nat.reduceAdd, Int.reduceBEq, Int.reduceBNe, hsub, hg0]; rfl)) rfl ?_)
  | (refine Fe.pure rfl rfl (by simp only [↓nrmL, nrmZ, Nat.reduceEqDiff, ↓reduceIte, Nat.reduceAdd, Int.reduceBEq, Int.reduceBNe, hsub, hg0]; rfl) ?_)
  | refine Fe.pure rfl rfl rfl ?_
  | (refine Fe.pure rfl (exec_idxP (by (try simp only [↓nrmL, nrmZ, Nat.reduceEqDiff, ↓reduceIte, Nat.reduceAdd, Int.reduceBEq, Int.reduceBNe, hsub, hg0]); rfl) rfl ?_) (by simp only [↓nrmL, nrmZ, Nat.reduceEqDiff, ↓reduceIte, Nat.reduceAdd, Int.reduceBEq, Int.reduceBNe, hsub, hg0]; rfl) ?_; (focus omega))
  | (refine Er rfl (exec_ldI rfl (by omega)) (by simp only [↓nrmL, nrmZ, Nat.reduceEqDiff, ↓reduceIte, Nat.reduceAdd, Int.reduceBEq, Int.reduceBNe, hsub, hg0]; rfl) ?_)
  | (refine Fe.pcall (v' := ?_) rfl hn rfl (by simp only [↓nrmL, nrmZ, Nat.reduceEqDiff, ↓reduceIte, Nat.reduceAdd, Int.reduceBEq, Int.reduceBNe, hsub, hg0, List.map]; rfl) rfl ?hv fun _ _ => ar ?_; case hv => rfl)
 refine WpE.stR (r := H1.n) (j := 0 + (x0 + 1)) (l := fillI f (x0 + 1) w) rfl rfl rfl (by omega) (ar ?_)
 rw [show 0 + (x0 + 1) = x0 + 1 from Nat.zero_add _, fillI_set]
 rename AHeap => H7
 have hx7' : Ext H2 H7 := Ext0.ext
 refine WpE.nil (hKF _ _ ?_)
 simp only [hwx]
 refine rg fun KF hKF => ?_
 refine mI ?_
 refine bn rfl rfl rfl (by simp only [↓nrmL, nrmZ, Nat.reduceEqDiff, ↓reduceIte, Nat.reduceAdd, Int.reduceBEq, Int.reduceBNe, hwx]; rfl) ?_
 refine mI ?_
 refine nl hKF ?_
 dsimp only [cond_true, cond_false]
 haveI : NeR H.n H1.n := ⟨by omega⟩
 exact ⟨x0 + 1 + 1, by omega, ⟨rfl, trivial⟩, by omega, by omega, inferInstance, inferInstance, (hx.trans hx7').set (by omega) _⟩
end Go.Am

namespace Go.Am
open Go
attribute [local irreducible] Wp WpO WpX WpE
def forL (P : List Int) (q : Nat → Nat) (w h x y : Nat) : List Int := (List.range (w * h)).map fun i => if (i / h < x ∨ (i / h = x ∧ i % h < y)) ∧ q (i / h) ≤ i % h + 2 ∧ i % h ≤ q (i / h) + 2 then 1920 else P.getD i 0
theorem for_len (P : List Int) (q : Nat → Nat) (w h x y : Nat) : (forL P q w h x y).length = w * h := by simp [forL]
theorem for_at {P : List Int} {q : Nat → Nat} {w h x y i : Nat} (hi : i < w * h) : (forL P q w h x y).getD i 0 = if (i / h < x ∨ (i / h = x ∧ i % h < y)) ∧ q (i / h) ≤ i % h + 2 ∧ i % h ≤ q (i / h) + 2 then 1920 else P.getD i 0 := by
 rw [getD_at (by rw [for_len]; exact hi)]
 simp [forL]
theorem for_zero {P : List Int} {q : Nat → Nat} {w h : Nat} (hl : P.length = w * h) : forL P q w h 0 0 = P := by
 apply List.ext_getElem
 ·rw [for_len, hl]
 ·intro i h1 h2
  rw [for_len] at h1
  rw [← getD_at, for_at h1, if_neg (by have := Nat.zero_le (i / h); omega), getD_at h2]
theorem for_first {P : List Int} {q : Nat → Nat} {w h x : Nat} : forL P q w h x 0 = forL P q w h x (q x - 2) := by
 unfold forL
 apply List.map_congr_left
 intro i _
 have := Nat.zero_le (i / h)
 by_cases e : i / h = x
 ·subst e
  by_cases hc : (i / h < i / h ∨ (i / h = i / h ∧ i % h < 0)) ∧ q (i / h) ≤ i % h + 2 ∧ i % h ≤ q (i / h) + 2
  ·omega
  ·rw [if_neg hc, if_neg (by omega)]
 ·by_cases hc : (i / h < x ∨ (i / h = x ∧ i % h < 0)) ∧ q (i / h) ≤ i % h + 2 ∧ i % h ≤ q (i / h) + 2
  ·rw [if_pos hc, if_pos ⟨by omega, hc.2⟩]
  ·rw [if_neg hc, if_neg (fun k => hc ⟨by omega, k.2⟩)]
theorem for_col {P : List Int} {q : Nat → Nat} {w h x : Nat} : forL P q w h x (min (q x + 2) (h - 1) + 1) = forL P q w h (x + 1) 0 := by
 unfold forL
 apply List.map_congr_left
 intro i hi
 have hi := List.mem_range.1 hi
 have h0 : 0 < h := by
  rcases Nat.eq_zero_or_pos h with e | e
  ·subst e; omega
  ·exact e
 have hm := Nat.mod_lt i h0
 by_cases e : i / h = x
 ·subst e
  by_cases hc : (i / h < i / h ∨ (i / h = i / h ∧ i % h < min (q (i / h) + 2) (h - 1) + 1)) ∧ q (i / h) ≤ i % h + 2 ∧ i % h ≤ q (i / h) + 2
  ·rw [if_pos hc, if_pos ⟨by omega, hc.2⟩]
  ·rw [if_neg hc, if_neg (fun k => hc ⟨by omega, k.2⟩)]
 ·by_cases hc : (i / h < x ∨ (i / h = x ∧ i % h < min (q x + 2) (h - 1) + 1)) ∧ q (i / h) ≤ i % h + 2 ∧ i % h ≤ q (i / h) + 2
  ·rw [if_pos hc, if_pos ⟨by omega, hc.2⟩]
  ·rw [if_neg hc, if_neg (fun k => hc ⟨by omega, k.2⟩)]
theorem for_set {P : List Int} {q : Nat → Nat} {w h x y : Nat} (h1 : q x ≤ y + 2) (h2 : y ≤ q x + 2) (hy : y < h) : (forL P q w h x y).set (x * h + y) 1920 = forL P q w h x (y + 1) := by
 obtain ⟨e1, e2⟩ := cell_at (x := x) hy
 apply List.ext_getElem
 ·simp [forL]
 ·intro i h3 h4
  rw [List.getElem_set]
  simp only [forL, List.getElem_map, List.getElem_range]
  by_cases e : x * h + y = i
  ·subst e
   rw [if_pos rfl, e1, e2, if_pos ⟨Or.inr ⟨rfl, by omega⟩, h1, h2⟩]
  ·rw [if_neg e]
   have hne : ¬ (i / h = x ∧ i % h = y) := fun k => e (cell_inj (h := h) (by omega) (by omega))
   by_cases hc : (i / h < x ∨ (i / h = x ∧ i % h < y)) ∧ q (i / h) ≤ i % h + 2 ∧ i % h ≤ q (i / h) + 2
   ·rw [if_pos hc, if_pos ⟨by omega, hc.2⟩]
   ·rw [if_neg hc, if_neg (fun k => hc ⟨by omega, k.2⟩)]
def forA (P : List Int) (q : Nat → Nat) (w h : Nat) : List Int := forL P q w h w 0
theorem forA_at {P : List Int} {q : Nat → Nat} {w h x y : Nat} (hx : x < w) (hy : y < h) : priF (forA P q w h) h x y = if q x ≤ y + 2 ∧ y ≤ q x + 2 then 1920 else priF P h x y := by
 have h1 := col_lt (h := h) hx
 obtain ⟨e1, e2⟩ := cell_at (x := x) hy
 unfold priF forA
 rw [for_at (by omega), e1, e2]
 by_cases hc : q x ≤ y + 2 ∧ y ≤ q x + 2
 ·rw [if_pos ⟨Or.inl hx, hc⟩, if_pos hc]
 ·rw [if_neg (fun k => hc k.2), if_neg hc]
theorem forA_len (P : List Int) (q : Nat → Nat) (w h : Nat) : (forA P q w h).length = w * h := for_len _ _ _ _ _ _
theorem forA_pos {P : List Int} {q : Nat → Nat} {w h : Nat} (hP : PosL P) : PosL (forA P q w h) := ⟨fun i => by
 by_cases hi : i < w * h
 ·unfold forA
  rw [for_at hi]
  have := hP.it i
  split <;> omega
 ·rw [getD_out (by rw [forA_len]; omega)]; omega⟩
theorem K_forbid {w h rp rr rq : Nat} {H : AHeap} {P L : List Int} {q : Nat → Nat} {e : TypeId} (hw : w ≤ 640) (hh : h ≤ 640) (hw0 : 0 < w) (hh0 : 0 < h) (hPl : P.length = w * h) (kp : HasRow H rp (cellsI P) true (2 * 3)) (kq : HasRow H rq (cellsI L) true e) (hne : rq ≠ rp) (hL : L.length = w) (hq : ∀ x, x < w → L.getD x 0 = (q x : Int) ∧ q x < h) : Con ext prog 1 59 [grV w h rp rr, .slice rq 0 w (some w) 1] H fun _ H' => HasRow H' rp (cellsI (forA P q w h)) true (2 * 3) ∧ ExtP H H' (rrV w h rp) := by
 refine con_of (show prog 59 = some c59 from rfl) rfl rfl fun n hn => ?_
 have hm : w * h ≤ 640 * 640 := Nat.mul_le_mul hw hh
 have hrp := kp.lt
 have hrq := kq.lt
 haveI : RowNe (rrV w h rp) H.n := ⟨fun r _ _ _ _ e => by cases e; omega⟩
 haveI : RowNe (rrV w h rp) rq := ⟨fun r _ _ _ _ e => by cases e; omega⟩
 haveI : NeR H.n rp := ⟨by omega⟩
 haveI : NeR rq rp := ⟨hne⟩
 haveI hLi : IntsI H (.slice rq 0 w (some w) 1) L := row_ints kq hL
 haveI : SepS (.slice rq 0 w (some w) 1) (rrV w h rp) := ⟨fun r _ _ _ _ r' _ _ _ _ e e' => by cases e; cases e'; exact hne⟩
 haveI := kp
 repeat first
  | refine mI ?_
  | (refine mv ?_)
  | (refine ln (by simp only [↓nrmL, nrmK, Nat.reduceEqDiff, ↓reduceIte]; rfl) ?_)
  | refine bA ?_
  | refine nl hKF ?_
  | refine sq ?_
  | refine rg fun KF hKF => ?_
  | refine Wp.block ?_
  | dsimp only [cond_true, cond_false]
 refine Wp.loopS [4, 5, 6, 9, 10, 11, 12, 13, 14, 15, 16, 17, 18, 19, 20, 21, 22, 23, 24, 25, 26, 27, 28, 29, 30, 31, 32, 33, 34, 35, 36] (fun x : Nat => [(9, .int .i64 (x : Int))]) (fun _ x H2 => x ≤ w ∧ HasRow H2 rp (cellsI (forL P q w h x 0)) true (2 * 3) ∧ HasRow H2 H.n [.int .i64 (w : Int), .int .i64 (h : Int), .slice rp 0 (w * h) (some (w * h)) 1, .slice rr 0 (w * h) (some (w * h)) 1] true (2 * 83) ∧ ExtP H H2 (rrV w h rp)) (fun x => w - x) 0 rfl (fun _ => rfl) ⟨rfl, trivial⟩ ⟨Nat.zero_le _, by rw [for_zero hPl]; exact inferInstance, inferInstance, (ExtP.refl _ _).pushN⟩ (by unfold fuel0 at hn; omega) ?_
 rintro x g H2 ⟨hx, hkp, hbx, hxp⟩
 haveI := hkp
 haveI := hbx
 haveI := hxp
 simp only [↓nrmL, nrmZ, Nat.reduceEqDiff, ↓reduceIte, Nat.reduceAdd, Int.reduceBEq, Int.reduceBNe]
 cases hc : decide ((x : Int) < (L.length : Int))
 ·have hxe : x = w := by have := of_decide_eq_false hc; omega
  subst hxe
  refine sq ?_
  refine rg fun KF hKF => ?_
  refine bn rfl rfl rfl (by simp only [hc]; rfl) ?_
  refine nl hKF ?_
  refine sq ?_
  refine cf rfl ?_
  refine xi ?_
  dsimp only [cond_true, cond_false]
  refine rz trivial ?_
  exact ⟨hkp, hxp⟩
 have hxl : x < w := by have := of_decide_eq_true hc; omega
 have hxL : x < L.length := by omega
 obtain ⟨hqx, hqh⟩ := hq x hxl
 have gx : L[x] = (q x : Int) := by rw [← getD_at hxL]; exact hqx
 have h1 := col_lt (h := h) hxl
 have e1 : IntKind.i64.wrap ((q x : Int) - 2) = (q x : Int) - 2 := w64 (by omega)
 have e2 : (if (0 : Int) > (q x : Int) - 2 then (0 : Int) else (q x : Int) - 2) = ((q x - 2 : Nat) : Int) := by split <;> omega
 have e3 : IntKind.i64.wrap ((q x : Int) + 2) = ((q x + 2 : Nat) : Int) := by rw [w64 (by omega)]; omega
 have e4 : IntKind.i64.wrap ((h : Int) - 1) = ((h - 1 : Nat) : Int) := by rw [w64 (by omega)]; omega
 obtain ⟨hi, hhi⟩ : ∃ hi, min (q x + 2) (h - 1) = hi := ⟨_, rfl⟩
 have e5 : (if ((h - 1 : Nat) : Int) < ((q x + 2 : Nat) : Int) then ((h - 1 : Nat) : Int) else ((q x + 2 : Nat) : Int)) = (hi : Int) := by rw [← hhi]; split <;> omega
 have e6 := wa1 (a := x) (by omega)
 repeat first
  | refine mI ?_
  | (refine bn rfl rfl rfl (by simp only [hc, gx, e1, e2]; rfl) ?_)
  | (refine Fo.idx (by simp only [↓nrmL, nrmK, Nat.reduceEqDiff, ↓reduceIte]; rfl) rfl ?_ (by simp only [↓nrmL, nrmZ, Nat.reduceEqDiff, ↓reduceIte, Nat.reduceAdd, Int.reduceBEq, Int.reduceBNe, hc, gx, e1, e2]; rfl) ?_; (focus omega))
  | (refine Fo.ldI rfl ?_ (by simp only [hc, gx, e1, e2]; rfl) ?_; (focus omega))
  | (refine Fo.now rfl rfl (by simp only [hc, gx, e1, e2]; rfl) ?_)
  | refine nl hKF ?_
  | refine sq ?_
  | refine rg fun KF hKF => ?_
  | refine ct rfl ?_
  | refine sk ?_
  | refine Wp.block ?_
  | dsimp only [cond_true, cond_false]
 refine Wp.loopS [6, 17, 18, 19, 20, 21, 22, 23, 24, 25, 26, 27, 28, 29, 30, 31, 32, 33, 34, 35] (fun y : Nat => [(6, .int .i64 (y : Int))]) (fun _ y H4 => q x - 2 ≤ y ∧ y ≤ hi + 1 ∧ HasRow H4 rp (cellsI (forL P q w h x y)) true (2 * 3) ∧ HasRow H4 H.n [.int .i64 (w : Int), .int .i64 (h : Int), .slice rp 0 (w * h) (some (w * h)) 1, .slice rr 0 (w * h) (some (w * h)) 1] true (2 * 83) ∧ ExtP H H4 (rrV w h rp)) (fun y => hi + 1 - y) (q x - 2) rfl (fun _ => rfl) ⟨rfl, trivial⟩ ⟨Nat.le_refl _, by omega, by rw [← for_first]; exact hkp, hbx, hxp⟩ (by unfold fuel0 at hn; omega) ?_
 rintro y g2 H4 ⟨hy1, hy2, hkp4, hbx4, hxp4⟩
 haveI := hkp4
 haveI := hbx4
 haveI := hxp4
 simp only [↓nrmL, nrmZ, Nat.reduceEqDiff, ↓reduceIte, Nat.reduceAdd, Int.reduceBEq, Int.reduceBNe]
 cases hcy : decide ((y : Int) ≤ (hi : Int))
 ·have hye : y = hi + 1 := by have := of_decide_eq_false hcy; omega
  subst hye
  repeat first
   | refine mI ?_
   | refine fd ?_
   | refine Fo.ld rfl rfl ?_
   | (refine bn rfl rfl rfl (by simp only [e3, e4, Bool.false_eq_true, if_false, e5, hcy, e6]; rfl) ?_)
   | (refine Fo.now rfl rfl (by simp only [e3, e4, Bool.false_eq_true, if_false, e5, hcy, e6]; rfl) ?_)
   | refine nl hKF ?_
   | refine sq ?_
   | refine rg fun KF hKF => ?_
   | refine cf rfl ?_
   | refine xi ?_
   | dsimp only [cond_true, cond_false]
  exact ⟨x + 1, by omega, ⟨rfl, trivial⟩, by omega, by rw [← for_col, hhi]; exact hkp4, hbx4, hxp4⟩
 have hyl : y ≤ hi := by have := of_decide_eq_true hcy; omega
 have hyh : y < h := by omega
 have e7 := wa1 (a := y) (by omega)
 have e8 : IntKind.i64.wrap ((x : Int) * (h : Int)) = ((x * h : Nat) : Int) := wm (by omega)
 have e9 : IntKind.i64.wrap (((x * h : Nat) : Int) + (y : Int)) = ((x * h + y : Nat) : Int) := wa (by omega)
 have hpl := for_len P q w h x y
 haveI hpi : IntsI H4 (.slice rp 0 (w * h) (some (w * h)) 1) (forL P q w h x y) := row_ints hkp4 hpl
 repeat first
  | refine mI ?_
  | refine fd ?_
  | refine Fo.ld rfl rfl ?_
  | (refine bn rfl rfl rfl (by simp only [e3, e4, Bool.false_eq_true, if_false, e5, hcy, e8, e9]; rfl) ?_)
  | (refine Fo.idx (by simp only [↓nrmL, nrmK, Nat.reduceEqDiff, ↓reduceIte]; rfl) rfl ?_ (by simp only [↓nrmL, nrmZ, Nat.reduceEqDiff, ↓reduceIte, Nat.reduceAdd, Int.reduceBEq, Int.reduceBNe, e3, e4, Bool.false_eq_true, if_false, e5, hcy, e8, e9]; rfl) ?_; (focus omega))
  | (refine Fo.now rfl rfl (by simp only [e3, e4, Bool.false_eq_true, if_false, e5, hcy, e8, e9]; rfl) ?_)
  | refine nl hKF ?_
  | refine sq ?_
  | refine rg fun KF hKF => ?_
  | refine ct rfl ?_
  | refine sk ?_
  | refine Wp.block ?_
 refine WpO.do' (WpX.stR (r := rp) (j := 0 + (x * h + y)) (l := forL P q w h x y) rfl rfl (by omega) ?_)
 rw [show 0 + (x * h + y) = x * h + y from Nat.zero_add _, for_set (by omega) (by omega) hyh]
 simp only [↓nrmL, nrmZ, Nat.reduceEqDiff, ↓reduceIte, Nat.reduceAdd, Int.reduceBEq, Int.reduceBNe, e7]
 repeat first
  | refine mI ?_
  | (refine bn rfl rfl rfl (by simp only [e7]; rfl) ?_)
  | refine nl hKF ?_
  | refine rg fun KF hKF => ?_
  | dsimp only [cond_true, cond_false]
 exact ⟨y + 1, by omega, ⟨rfl, trivial⟩, by omega, by omega, inferInstance, inferInstance, ⟨by have := hxp4.n; simp only [AHeap.set]; omega, fun s hs hp => by
  have : s ≠ rp := fun e => hp.ne _ _ _ _ _ rfl e.symm
  rw [set_get_ne this, hxp4.get s hs hp]⟩⟩
end Go.Am


namespace Go.Am
open Go
attribute [local irreducible] Wp WpO WpX WpE
def rc (l : List UInt8) (a j x : Nat) : Int := (((List.range x).filter fun u => l.getD (j * a + u) 0 == 1).length : Nat)
end Go.Am


namespace Go.Am
open Go
attribute [local irreducible] Wp WpO WpX WpE
theorem made_mkI {fr : AFrame} {e : TypeId} {x y : ROpd} {k k' : IntKind} {a : Nat} (hx : x.ev fr = .int k a) (hy : y.ev fr = .int k' a) (h0 : a ≤ 2 ^ 40) : (ROp.makeSlice e [.int .i64 0] 8 x y).made fr = some (cellsI (List.replicate a 0), e, fun r => .slice r 0 a (some a) 1) := by
 rw [← mk_ints]; exact made_mk hx hy (by omega)
end Go.Am


namespace Go.Am
open Go
attribute [local irreducible] Wp WpO WpX WpE
end Go.Am

namespace Go.Am
open Go
attribute [local irreducible] Wp WpO WpX WpE
theorem u8_is1 {c : UInt8} : (((c.toNat : Int) == 1) : Bool) = decide (c = 1) := by
 by_cases h : c = 1
 ·subst h; rfl
 ·have h2 : ¬ ((c.toNat : Int) = 1) := fun e => h (UInt8.toNat_inj.1 (by have : (1 : UInt8).toNat = 1 := rfl; omega))
  simp [h, h2]
def prB (l : List UInt8) (i : Nat) : Int := if l.getD i 0 = 1 then 0 else 2
theorem K_price {w h x y : Nat} {p : AVal} {H : AHeap} {l : List UInt8} (hp : BytesI H p l) (hw : w ≤ 640) (hh : h ≤ 640) (hl : l.length = w * h) (hx : x < w) (hy : y < h) : Con ext prog 1 52 [.agg [.int .i64 (w : Int), .int .i64 (h : Int), p], .int .i64 (x : Int), .int .i64 (y : Int)] H fun v H' => v = .int .i64 (prB l (y * w + x)) ∧ Ext H H' := by
 refine con_of (show prog 52 = some c52 from rfl) rfl rfl fun n hn => ?_
 haveI := hp
 haveI := hp.one
 have hm : w * h ≤ 640 * 640 := Nat.mul_le_mul hw hh
 have h1 : y * w + x < w * h := idx_lt hx hy
 have hi : y * w + x < l.length := by omega
 have e1 : IntKind.i64.wrap ((y : Int) * (w : Int)) = ((y * w : Nat) : Int) := wm (by omega)
 have e2 : IntKind.i64.wrap (((y * w : Nat) : Int) + (x : Int)) = ((y * w + x : Nat) : Int) := wa (by omega)
 have hg : l.getD (y * w + x) 0 = l[y * w + x] := by simp [hi]
 by_cases hc : l[y * w + x] = 1
 ·have e3 : (((l[y * w + x].toNat : Int) == 1) : Bool) = true := by rw [u8_is1, hc]; rfl
  have e4 : prB l (y * w + x) = 0 := by unfold prB; rw [hg, if_pos hc]
  rw [e4]
  repeat first
   | refine mI ?_
   | refine fd ?_
   | refine Fo.ld rfl rfl ?_
   | (refine bn rfl rfl rfl (by simp only [↓nrmL, nrmZ, Nat.reduceEqDiff, ↓reduceIte, Nat.reduceAdd, Int.reduceBEq, Int.reduceBNe, e1, e2, e3]; rfl) ?_)
   | refine bA ?_
   | (refine Fo.idx (by simp only [↓nrmL, nrmK, Nat.reduceEqDiff, ↓reduceIte]; rfl) rfl ?_ (by simp only [↓nrmL, nrmZ, Nat.reduceEqDiff, ↓reduceIte, Nat.reduceAdd, Int.reduceBEq, Int.reduceBNe, e1, e2, e3]; rfl) ?_; (focus omega))
   | (refine Fo.ldB rfl ?_ rfl ?_; (focus omega))
   | refine nl hKF ?_
   | refine sq ?_
   | refine rg fun KF hKF => ?_
   | refine ct rfl ?_
   | refine rt ?_
   | dsimp only [cond_true, cond_false]
  refine rz trivial ?_
  exact ⟨rfl, Ext0.ext⟩
 ·have e3 : (((l[y * w + x].toNat : Int) == 1) : Bool) = false := by rw [u8_is1]; exact decide_eq_false hc
  have e4 : prB l (y * w + x) = 2 := by unfold prB; rw [hg, if_neg hc]
  rw [e4]
  repeat first
   | refine mI ?_
   | refine fd ?_
   | refine Fo.ld rfl rfl ?_
   | (refine bn rfl rfl rfl (by simp only [↓nrmL, nrmZ, Nat.reduceEqDiff, ↓reduceIte, Nat.reduceAdd, Int.reduceBEq, Int.reduceBNe, e1, e2, e3]; rfl) ?_)
   | refine bA ?_
   | (refine Fo.idx (by simp only [↓nrmL, nrmK, Nat.reduceEqDiff, ↓reduceIte]; rfl) rfl ?_ (by simp only [↓nrmL, nrmZ, Nat.reduceEqDiff, ↓reduceIte, Nat.reduceAdd, Int.reduceBEq, Int.reduceBNe, e1, e2, e3]; rfl) ?_; (focus omega))
   | (refine Fo.ldB rfl ?_ rfl ?_; (focus omega))
   | refine nl hKF ?_
   | refine sq ?_
   | refine rg fun KF hKF => ?_
   | refine cf rfl ?_
   | refine sk ?_
   | refine rt ?_
   | dsimp only [cond_true, cond_false]
  refine rz trivial ?_
  exact ⟨rfl, Ext0.ext⟩
def surF (l : List UInt8) (w h i : Nat) : Int := prB l ((i % h) * w + i / h)
def surP (l : List UInt8) (w h x y : Nat) : List Int := (List.range (w * h)).map fun i => if i / h < x ∨ (i / h = x ∧ i % h < y) then surF l w h i else 0
def surL (l : List UInt8) (w h : Nat) : List Int := (List.range (w * h)).map (surF l w h)
theorem surP_len (l : List UInt8) (w h x y : Nat) : (surP l w h x y).length = w * h := by simp [surP]
theorem surL_len (l : List UInt8) (w h : Nat) : (surL l w h).length = w * h := by simp [surL]
theorem surP_zero (l : List UInt8) (w h : Nat) : surP l w h 0 0 = List.replicate (w * h) 0 := by
 apply List.ext_getElem
 ·simp [surP]
 ·intro i h1 h2
  simp only [surP, List.getElem_map, List.getElem_range, List.getElem_replicate]
  have := Nat.zero_le (i / h)
  rw [if_neg (by omega)]
theorem surP_col {l : List UInt8} {w h x : Nat} : surP l w h x h = surP l w h (x + 1) 0 := by
 unfold surP
 apply List.map_congr_left
 intro i hi
 have hi := List.mem_range.1 hi
 have h0 : 0 < h := by
  rcases Nat.eq_zero_or_pos h with e | e
  ·subst e; omega
  ·exact e
 have := Nat.mod_lt i h0
 by_cases hc : i / h < x ∨ (i / h = x ∧ i % h < h)
 ·rw [if_pos hc, if_pos (by omega)]
 ·rw [if_neg hc, if_neg (by omega)]
theorem surP_all {l : List UInt8} {w h : Nat} : surP l w h w 0 = surL l w h := by
 unfold surP surL
 apply List.map_congr_left
 intro i hi
 have hi := List.mem_range.1 hi
 have : i / h < w := Nat.div_lt_of_lt_mul (by rw [Nat.mul_comm]; exact hi)
 rw [if_pos (Or.inl this)]
theorem surP_set {l : List UInt8} {w h x y : Nat} (hy : y < h) : (surP l w h x y).set (x * h + y) (prB l (y * w + x)) = surP l w h x (y + 1) := by
 obtain ⟨e1, e2⟩ := cell_at (x := x) hy
 apply List.ext_getElem
 ·simp [surP]
 ·intro i h3 h4
  rw [List.getElem_set]
  simp only [surP, List.getElem_map, List.getElem_range]
  by_cases e : x * h + y = i
  ·subst e
   rw [if_pos rfl, if_pos (by omega)]
   unfold surF
   rw [e1, e2]
  ·rw [if_neg e]
   have hne : ¬ (i / h = x ∧ i % h = y) := fun k => e (cell_inj (h := h) (by omega) (by omega))
   by_cases hc : i / h < x ∨ (i / h = x ∧ i % h < y)
   ·rw [if_pos hc, if_pos (by omega)]
   ·rw [if_neg hc, if_neg (by omega)]
theorem surL_at {l : List UInt8} {w h x y : Nat} (hx : x < w) (hy : y < h) : priF (surL l w h) h x y = prB l (y * w + x) := by
 have h1 := col_lt (h := h) hx
 obtain ⟨e1, e2⟩ := cell_at (x := x) hy
 unfold priF
 rw [getD_at (by rw [surL_len]; omega)]
 simp only [surL, List.getElem_map, List.getElem_range, surF, e1, e2]
theorem surL_pos (l : List UInt8) (w h : Nat) : PosL (surL l w h) := ⟨fun i => by
 by_cases hi : i < (surL l w h).length
 ·rw [getD_at hi]
  simp only [surL, List.getElem_map, List.getElem_range, surF, prB]
  split <;> omega
 ·rw [getD_out (by omega)]; omega⟩
theorem K_survey {w h : Nat} {p : AVal} {H : AHeap} {l : List UInt8} (hp : BytesI H p l) (hw : w ≤ 640) (hh : h ≤ 640) (hl : l.length = w * h) : Con ext prog 4 56 [.agg [.int .i64 (w : Int), .int .i64 (h : Int), p]] H fun v H' => ∃ rp rr, v = grV w h rp rr ∧ GrI H' rp rr (w * h) (surL l w h) (List.replicate (w * h) 0) ∧ H.n ≤ rp ∧ H.n ≤ rr ∧ Ext H H' := by
 refine con_of (show prog 56 = some c56 from rfl) rfl rfl fun n hn => ?_
 haveI := hp
 haveI := hp.one
 have hm : w * h ≤ 640 * 640 := Nat.mul_le_mul hw hh
 refine sq ?_
 refine rg fun KF hKF => ?_
 refine bA ?_
 refine nw ?_
 refine nl hKF ?_
 refine sq ?_
 refine Fr.dregionE [.row (cellsI (List.replicate l.length 0)) true (2 * 3), .row (cellsI (List.replicate l.length 0)) true (2 * 3), .row [.int .i64 0, .int .i64 0, .nslice, .nslice] true (2 * 83)] ?_ fun KF hKF => ?_
 ·skip
  repeat first
   | (refine oracle_pre rfl rfl rfl (exec_ld rfl rfl) ?_; (try simp only [↓nrmL, nrmZ, Nat.reduceEqDiff, ↓reduceIte, Nat.reduceAdd, Int.reduceBEq, Int.reduceBNe]))
   | (refine oracle_pre rfl rfl rfl rfl ?_; (try simp only [↓nrmL, nrmZ, Nat.reduceEqDiff, ↓reduceIte, Nat.reduceAdd, Int.reduceBEq, Int.reduceBNe]))
  refine oracle_pre rfl rfl rfl (exec_lenP (p := p) rfl) ?_
  refine oracle_made rfl rfl (made_mkI (a := l.length) rfl rfl (by omega)) ?_
  refine oracle_pre rfl rfl rfl rfl ?_; (try simp only [↓nrmL, nrmZ, Nat.reduceEqDiff, ↓reduceIte, Nat.reduceAdd, Int.reduceBEq, Int.reduceBNe])
  refine oracle_pre rfl rfl rfl (exec_ld rfl rfl) ?_; (try simp only [↓nrmL, nrmZ, Nat.reduceEqDiff, ↓reduceIte, Nat.reduceAdd, Int.reduceBEq, Int.reduceBNe])
  refine oracle_pre rfl rfl rfl (exec_lenP (p := p) rfl) ?_
  refine oracle_made rfl rfl (made_mkI (a := l.length) rfl rfl (by omega)) ?_
  refine oracle_pre rfl rfl rfl rfl ?_; (try simp only [↓nrmL, nrmZ, Nat.reduceEqDiff, ↓reduceIte, Nat.reduceAdd, Int.reduceBEq, Int.reduceBNe])
  refine oracle_made rfl rfl rfl ?_; (try simp only [↓nrmL, nrmZ, Nat.reduceEqDiff, ↓reduceIte, Nat.reduceAdd, Int.reduceBEq, Int.reduceBNe])
  exact oracle_none _ _ _ _ rfl
 simp only [pushAll]
 repeat first
  | (refine Er rfl (exec_ld rfl rfl) rfl ?_)
  | (refine Fe.pure rfl (exec_lenP (by (try simp only [↓nrmL, nrmZ, Nat.reduceEqDiff, ↓reduceIte, Nat.reduceAdd, Int.reduceBEq, Int.reduceBNe]); rfl)) rfl ?_)
  | (refine Fe.pure rfl rfl (by simp only [↓nrmL, nrmZ, Nat.reduceEqDiff, ↓reduceIte, Nat.reduceAdd, Int.reduceBEq, Int.reduceBNe]; rfl) ?_)
 refine Fe.made rfl (made_mkI (a := l.length) rfl rfl (by omega)) ghost_of trivial rfl ?_
 change WpE _ _ (AHeap.n (AHeap.push _ (.row (cellsI (List.replicate l.length 0)) true (2 * 3)))) _ _ _ _ _ _ _
 refine Fe.pure rfl rfl (by simp only [↓nrmL, nrmZ, Nat.reduceEqDiff, ↓reduceIte, Nat.reduceAdd, Int.reduceBEq, Int.reduceBNe]; rfl) ?_
 refine Er rfl (exec_ld rfl rfl) rfl ?_
 refine Fe.pure rfl (exec_lenP (by (try simp only [↓nrmL, nrmZ, Nat.reduceEqDiff, ↓reduceIte, Nat.reduceAdd, Int.reduceBEq, Int.reduceBNe]); rfl)) rfl ?_
 refine Fe.made rfl (made_mkI (a := l.length) rfl rfl (by omega)) ghost_of trivial rfl ?_
 change WpE _ _ (AHeap.n (AHeap.push _ (.row (cellsI (List.replicate l.length 0)) true (2 * 3)))) _ _ _ _ _ _ _
 refine Fe.pure rfl rfl (by simp only [↓nrmL, nrmZ, Nat.reduceEqDiff, ↓reduceIte, Nat.reduceAdd, Int.reduceBEq, Int.reduceBNe]; rfl) ?_
 refine Em rfl rfl ghost_of rfl ?_
 refine Ee rfl (xs rfl (by (try simp only [↓nrmL, nrmZ, Nat.reduceEqDiff, ↓reduceIte, Nat.reduceAdd, Int.reduceBEq, Int.reduceBNe]); rfl) rfl rfl rfl (by (try simp only [↓nrmL, nrmZ, Nat.reduceEqDiff, ↓reduceIte, Nat.reduceAdd, Int.reduceBEq, Int.reduceBNe]); rfl)) ?_
 refine WpE.nil (hKF _ _ ?_)
 refine sq ?_
 refine sq ?_
 refine rg fun KF hKF => ?_
 refine fd ?_
 refine Fo.ld rfl rfl ?_
 refine mI ?_
 refine nl hKF ?_
 refine Wp.block ?_
 dsimp only [cond_true, cond_false]
 refine Wp.loopS [4, 5, 21, 22, 23, 24, 25, 26, 27, 28, 29, 30, 31, 32, 33, 34, 35, 36, 37, 38, 39, 40, 41, 42, 43] (fun x : Nat => [(21, .int .i64 (x : Int))]) (fun _ x H2 => x ≤ w ∧ HasRow H2 ((H.push (.row [.int .i64 (w : Int), .int .i64 (h : Int), p] true (2 * 24))).push (.row [.int .i64 0, .int .i64 0, .nslice, .nslice] true (2 * 83))).n (cellsI (surP l w h x 0)) true (2 * 3) ∧ HasRow H2 H.n [.int .i64 (w : Int), .int .i64 (h : Int), p] true (2 * 24) ∧ HasRow H2 (H.push (.row [.int .i64 (w : Int), .int .i64 (h : Int), p] true (2 * 24))).n [.int .i64 0, .int .i64 0, .nslice, .nslice] true (2 * 83) ∧ HasRow H2 ((((H.push (.row [.int .i64 (w : Int), .int .i64 (h : Int), p] true (2 * 24))).push (.row [.int .i64 0, .int .i64 0, .nslice, .nslice] true (2 * 83))).push (.row (cellsI (List.replicate l.length 0)) true (2 * 3))).push (.row (cellsI (List.replicate l.length 0)) true (2 * 3))).n [.int .i64 (w : Int), .int .i64 (h : Int), .slice ((H.push (.row [.int .i64 (w : Int), .int .i64 (h : Int), p] true (2 * 24))).push (.row [.int .i64 0, .int .i64 0, .nslice, .nslice] true (2 * 83))).n 0 l.length (some l.length) 1, .slice (((H.push (.row [.int .i64 (w : Int), .int .i64 (h : Int), p] true (2 * 24))).push (.row [.int .i64 0, .int .i64 0, .nslice, .nslice] true (2 * 83))).push (.row (cellsI (List.replicate l.length 0)) true (2 * 3))).n 0 l.length (some l.length) 1] true (2 * 83) ∧ HasRow H2 (((H.push (.row [.int .i64 (w : Int), .int .i64 (h : Int), p] true (2 * 24))).push (.row [.int .i64 0, .int .i64 0, .nslice, .nslice] true (2 * 83))).push (.row (cellsI (List.replicate l.length 0)) true (2 * 3))).n (cellsI (List.replicate l.length 0)) true (2 * 3) ∧ Ext H H2) (fun x => w - x) 0 rfl (fun _ => rfl) ⟨rfl, trivial⟩ ⟨Nat.zero_le _, by rw [surP_zero, ← hl]; exact inferInstance, inferInstance, inferInstance, inferInstance, inferInstance, Ext0.ext⟩ (by unfold fuel0 at hn; omega) ?_
 rintro x g H2 ⟨hx, k1, k2, k3, k4, k5, hxx⟩
 haveI := k1
 haveI := k2
 haveI := k3
 haveI := k4
 haveI := k5
 haveI : ExtI H H2 := ⟨hxx⟩
 simp only [↓nrmL, nrmZ, Nat.reduceEqDiff, ↓reduceIte, Nat.reduceAdd, Int.reduceBEq, Int.reduceBNe]
 cases hc : decide ((x : Int) < (w : Int))
 ·have hxe : x = w := by have := of_decide_eq_false hc; omega
  subst hxe
  have k6 : HasRow H2 ((H.push (.row [.int .i64 (x : Int), .int .i64 (h : Int), p] true (2 * 24))).push (.row [.int .i64 0, .int .i64 0, .nslice, .nslice] true (2 * 83))).n (cellsI (surL l x h)) true (2 * 3) := by rw [← surP_all]; exact k1
  repeat first
   | (refine Fo.ldN rfl rfl (by simp only [↓nrmL, nrmZ, Nat.reduceEqDiff, ↓reduceIte, Nat.reduceAdd, Int.reduceBEq, Int.reduceBNe, hc]; rfl) ?_)
   | (refine bn rfl rfl rfl (by simp only [↓nrmL, nrmZ, Nat.reduceEqDiff, ↓reduceIte, Nat.reduceAdd, Int.reduceBEq, Int.reduceBNe, hc]; rfl) ?_)
   | (refine so rfl (rfl : _ = AVal.agg _) rfl rfl rfl (by simp only [↓nrmL, nrmZ, Nat.reduceEqDiff, ↓reduceIte, Nat.reduceAdd, Int.reduceBEq, Int.reduceBNe, hc]; rfl) ?_)
   | refine nl hKF ?_
   | refine sq ?_
   | refine rg fun KF hKF => ?_
   | refine cf rfl ?_
   | refine rt ?_
   | refine xi ?_
   | dsimp only [cond_true, cond_false]
  refine rz trivial ?_
  refine ⟨((H.push (.row [.int .i64 (x : Int), .int .i64 (h : Int), p] true (2 * 24))).push (.row [.int .i64 0, .int .i64 0, .nslice, .nslice] true (2 * 83))).n, (((H.push (.row [.int .i64 (x : Int), .int .i64 (h : Int), p] true (2 * 24))).push (.row [.int .i64 0, .int .i64 0, .nslice, .nslice] true (2 * 83))).push (.row (cellsI (List.replicate l.length 0)) true (2 * 3))).n, by unfold grV; rw [← hl]; rfl, ⟨?_, ?_, surL_len _ _ _, List.length_replicate, by simp only [AHeap.push]; omega⟩, by simp only [AHeap.push]; omega, by simp only [AHeap.push]; omega, hxx.set (by simp only [AHeap.push]; omega) _⟩
  ·haveI : NeR ((H.push (.row [.int .i64 (x : Int), .int .i64 (h : Int), p] true (2 * 24))).push (.row [.int .i64 0, .int .i64 0, .nslice, .nslice] true (2 * 83))).n (H.push (.row [.int .i64 (x : Int), .int .i64 (h : Int), p] true (2 * 24))).n := ⟨by simp only [AHeap.push]; omega⟩
   haveI := k6
   exact ⟨by have := k6.lt; exact this, by rw [set_get_ne (by simp only [AHeap.push]; omega)]; exact k6.get⟩
  ·rw [← hl]
   exact ⟨by have := k5.lt; exact this, by rw [set_get_ne (by simp only [AHeap.push]; omega)]; exact k5.get⟩
 have hxl : x < w := by have := of_decide_eq_true hc; omega
 have h1 := col_lt (h := h) hxl
 have e6 := wa1 (a := x) (by omega)
 have hpr : ∀ y, y < h → ∀ (H : AHeap) [BytesI H p l], PureCon ext prog 52 [.agg [.int .i64 (w : Int), .int .i64 (h : Int), p], .int .i64 (x : Int), .int .i64 (y : Int)] H 1 (.int .i64 (prB l (y * w + x))) := fun y hy H hb => ⟨K_price hb hw hh hl hxl hy⟩
 repeat first
  | refine mI ?_
  | refine fd ?_
  | refine Fo.ld rfl rfl ?_
  | (refine bn rfl rfl rfl (by simp only [↓nrmL, nrmZ, Nat.reduceEqDiff, ↓reduceIte, Nat.reduceAdd, Int.reduceBEq, Int.reduceBNe, hc]; rfl) ?_)
  | refine nl hKF ?_
  | refine sq ?_
  | refine rg fun KF hKF => ?_
  | refine ct rfl ?_
  | refine sk ?_
  | refine Wp.block ?_
  | dsimp only [cond_true, cond_false]
 refine Wp.loopS [5, 26, 27, 28, 29, 30, 31, 32, 33, 34, 35, 36, 37, 38, 39, 40, 41, 42] (fun y : Nat => [(26, .int .i64 (y : Int))]) (fun _ y H5 => y ≤ h ∧ HasRow H5 ((H.push (.row [.int .i64 (w : Int), .int .i64 (h : Int), p] true (2 * 24))).push (.row [.int .i64 0, .int .i64 0, .nslice, .nslice] true (2 * 83))).n (cellsI (surP l w h x y)) true (2 * 3) ∧ HasRow H5 H.n [.int .i64 (w : Int), .int .i64 (h : Int), p] true (2 * 24) ∧ HasRow H5 (H.push (.row [.int .i64 (w : Int), .int .i64 (h : Int), p] true (2 * 24))).n [.int .i64 0, .int .i64 0, .nslice, .nslice] true (2 * 83) ∧ HasRow H5 ((((H.push (.row [.int .i64 (w : Int), .int .i64 (h : Int), p] true (2 * 24))).push (.row [.int .i64 0, .int .i64 0, .nslice, .nslice] true (2 * 83))).push (.row (cellsI (List.replicate l.length 0)) true (2 * 3))).push (.row (cellsI (List.replicate l.length 0)) true (2 * 3))).n [.int .i64 (w : Int), .int .i64 (h : Int), .slice ((H.push (.row [.int .i64 (w : Int), .int .i64 (h : Int), p] true (2 * 24))).push (.row [.int .i64 0, .int .i64 0, .nslice, .nslice] true (2 * 83))).n 0 l.length (some l.length) 1, .slice (((H.push (.row [.int .i64 (w : Int), .int .i64 (h : Int), p] true (2 * 24))).push (.row [.int .i64 0, .int .i64 0, .nslice, .nslice] true (2 * 83))).push (.row (cellsI (List.replicate l.length 0)) true (2 * 3))).n 0 l.length (some l.length) 1] true (2 * 83) ∧ HasRow H5 (((H.push (.row [.int .i64 (w : Int), .int .i64 (h : Int), p] true (2 * 24))).push (.row [.int .i64 0, .int .i64 0, .nslice, .nslice] true (2 * 83))).push (.row (cellsI (List.replicate l.length 0)) true (2 * 3))).n (cellsI (List.replicate l.length 0)) true (2 * 3) ∧ Ext H H5) (fun y => h - y) 0 rfl (fun _ => rfl) ⟨rfl, trivial⟩ ⟨Nat.zero_le _, k1, k2, k3, k4, k5, hxx⟩ (by unfold fuel0 at hn; omega) ?_
 rintro y g2 H5 ⟨hy, j1, j2, j3, j4, j5, hxy⟩
 haveI := j1
 haveI := j2
 haveI := j3
 haveI := j4
 haveI := j5
 haveI : ExtI H H5 := ⟨hxy⟩
 simp only [↓nrmL, nrmZ, Nat.reduceEqDiff, ↓reduceIte, Nat.reduceAdd, Int.reduceBEq, Int.reduceBNe]
 cases hcy : decide ((y : Int) < (h : Int))
 ·have hye : y = h := by have := of_decide_eq_false hcy; omega
  subst hye
  repeat first
   | refine mI ?_
   | (refine bn rfl rfl rfl (by simp only [↓nrmL, nrmZ, Nat.reduceEqDiff, ↓reduceIte, Nat.reduceAdd, Int.reduceBEq, Int.reduceBNe, hcy, e6]; rfl) ?_)
   | refine nl hKF ?_
   | refine sq ?_
   | refine rg fun KF hKF => ?_
   | refine cf rfl ?_
   | refine xi ?_
   | dsimp only [cond_true, cond_false]
  exact ⟨x + 1, by omega, ⟨rfl, trivial⟩, by omega, by rw [← surP_col]; exact j1, j2, j3, j4, j5, hxy⟩
 have hyl : y < h := by have := of_decide_eq_true hcy; omega
 have e7 := wa1 (a := y) (by omega)
 have e8 : IntKind.i64.wrap ((x : Int) * (h : Int)) = ((x * h : Nat) : Int) := wm (by omega)
 have e9 : IntKind.i64.wrap (((x * h : Nat) : Int) + (y : Int)) = ((x * h + y : Nat) : Int) := wa (by omega)
 haveI := hpr y hyl
 have hpl := surP_len l w h x y
 have hll : (surP l w h x y).length = l.length := by omega
 haveI hpi : IntsI H5 (.slice ((H.push (.row [.int .i64 (w : Int), .int .i64 (h : Int), p] true (2 * 24))).push (.row [.int .i64 0, .int .i64 0, .nslice, .nslice] true (2 * 83))).n 0 l.length (some l.length) 1) (surP l w h x y) := row_ints j1 hll
 repeat first
  | refine mI ?_
  | (refine bn rfl rfl rfl (by simp only [↓nrmL, nrmZ, Nat.reduceEqDiff, ↓reduceIte, Nat.reduceAdd, Int.reduceBEq, Int.reduceBNe, hcy]; rfl) ?_)
  | refine nl hKF ?_
  | refine sq ?_
  | refine rg fun KF hKF => ?_
  | refine ct rfl ?_
  | refine sk ?_
  | refine Wp.block ?_
  | dsimp only [cond_true, cond_false]
 refine Fr.dregion0 rfl fun KF hKF => ?_
 repeat first
  | (refine Er rfl (exec_ld rfl rfl) rfl ?_)
  | (refine Er rfl (exec_ldN rfl rfl (by simp only [↓nrmL, nrmZ, Nat.reduceEqDiff, ↓reduceIte, Nat.reduceAdd, Int.reduceBEq, Int.reduceBNe, e8, e9]; rfl)) rfl ?_)
  | (refine Fe.pure rfl rfl (by simp only [↓nrmL, nrmZ, Nat.reduceEqDiff, ↓reduceIte, Nat.reduceAdd, Int.reduceBEq, Int.reduceBNe, e8, e9]; rfl) ?_)
  | (refine Fe.pure rfl (exec_idxP (by (try simp only [↓nrmL, nrmZ, Nat.reduceEqDiff, ↓reduceIte, Nat.reduceAdd, Int.reduceBEq, Int.reduceBNe, e8, e9]); rfl) rfl ?_) (by simp only [↓nrmL, nrmZ, Nat.reduceEqDiff, ↓reduceIte, Nat.reduceAdd, Int.reduceBEq, Int.reduceBNe, e8, e9]; rfl) ?_; (focus omega))
  | (refine Fe.pcall (v' := ?_) rfl hn rfl (by simp only [↓nrmL, nrmZ, Nat.reduceEqDiff, ↓reduceIte, Nat.reduceAdd, Int.reduceBEq, Int.reduceBNe, e8, e9, List.map]; rfl) rfl ?hv fun _ _ => ar ?_; case hv => rfl)
 refine WpE.stR (r := ((H.push (.row [.int .i64 (w : Int), .int .i64 (h : Int), p] true (2 * 24))).push (.row [.int .i64 0, .int .i64 0, .nslice, .nslice] true (2 * 83))).n) (j := 0 + (x * h + y)) (l := surP l w h x y) rfl rfl rfl (by omega) (ar ?_)
 rw [show 0 + (x * h + y) = x * h + y from Nat.zero_add _, surP_set hyl]
 rename AHeap => H7
 have hx7 : Ext H H7 := Ext0.ext
 refine WpE.nil (hKF _ _ ?_)
 simp only [e7]
 refine rg fun KF hKF => ?_
 refine bn rfl rfl rfl (by simp only [↓nrmL, nrmZ, Nat.reduceEqDiff, ↓reduceIte, Nat.reduceAdd, Int.reduceBEq, Int.reduceBNe, e7]; rfl) ?_
 refine mI ?_
 refine nl hKF ?_
 dsimp only [cond_true, cond_false]
 haveI : NeR H.n ((H.push (.row [.int .i64 (w : Int), .int .i64 (h : Int), p] true (2 * 24))).push (.row [.int .i64 0, .int .i64 0, .nslice, .nslice] true (2 * 83))).n := ⟨by simp only [AHeap.push]; omega⟩
 haveI : NeR (H.push (.row [.int .i64 (w : Int), .int .i64 (h : Int), p] true (2 * 24))).n ((H.push (.row [.int .i64 (w : Int), .int .i64 (h : Int), p] true (2 * 24))).push (.row [.int .i64 0, .int .i64 0, .nslice, .nslice] true (2 * 83))).n := ⟨by simp only [AHeap.push]; omega⟩
 haveI : NeR (((H.push (.row [.int .i64 (w : Int), .int .i64 (h : Int), p] true (2 * 24))).push (.row [.int .i64 0, .int .i64 0, .nslice, .nslice] true (2 * 83))).push (.row (cellsI (List.replicate l.length 0)) true (2 * 3))).n ((H.push (.row [.int .i64 (w : Int), .int .i64 (h : Int), p] true (2 * 24))).push (.row [.int .i64 0, .int .i64 0, .nslice, .nslice] true (2 * 83))).n := ⟨by simp only [AHeap.push]; omega⟩
 haveI : NeR ((((H.push (.row [.int .i64 (w : Int), .int .i64 (h : Int), p] true (2 * 24))).push (.row [.int .i64 0, .int .i64 0, .nslice, .nslice] true (2 * 83))).push (.row (cellsI (List.replicate l.length 0)) true (2 * 3))).push (.row (cellsI (List.replicate l.length 0)) true (2 * 3))).n ((H.push (.row [.int .i64 (w : Int), .int .i64 (h : Int), p] true (2 * 24))).push (.row [.int .i64 0, .int .i64 0, .nslice, .nslice] true (2 * 83))).n := ⟨by simp only [AHeap.push]; omega⟩
 exact ⟨y + 1, by omega, ⟨rfl, trivial⟩, by omega, inferInstance, inferInstance, inferInstance, inferInstance, inferInstance, hx7.set (by simp only [AHeap.push]; omega) _⟩
end Go.Am
