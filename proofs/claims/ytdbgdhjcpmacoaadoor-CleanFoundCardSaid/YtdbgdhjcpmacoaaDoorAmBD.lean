import Derived.Test.YtdbgdhjcpmacoaaDoorAmBC
import Derived.Lib.Strings
set_option linter.unusedSimpArgs false
set_option linter.unusedVariables false
set_option maxHeartbeats 4000000
set_option maxRecDepth 100000
set_option synthInstance.maxHeartbeats 4000000
set_option synthInstance.maxSize 1000000000
namespace Go.Am
open Go
def madeOk (op : ROp) (fr : AFrame) (ref : Nat) (H : AHeap) : Bool := match op.made fr with
 | some (cs, e, _) => ghostIs H ref cs e
 | none => false
def WpE (call : ACall) (n ref : Nat) (its : List DItem) (H0 : AHeap) (E : List (Nat × AHeap)) (Rd : List (Nat × (AHeap → Bool))) (fr : AFrame) (H : AHeap) (K : AFrame → AHeap → Prop) : Prop :=
 ∀ R0 E0 Rd0, R0.length = n → (∀ p ∈ E0, p ∈ E) → (∀ p ∈ Rd0, (p.1, DRec.okAt p.2) ∈ Rd) → DInv R0 H0 H E0 Rd0 → ∃ R1 fr' H', dtext call its ref fr H = some (R1, fr', H') ∧ dcheck (R0 ++ R1) H0 (R0 ++ R1) 0 = true ∧ K fr' H'
def AllE (b : Nat) (ok : AHeap → Prop) : List (Nat × AHeap) → Prop
 | [] => True
 | p :: l => (b.testBit p.1 = true ∨ ok p.2) ∧ AllE b ok l
def AllR (b : Nat) (H : AHeap) : List (Nat × (AHeap → Bool)) → Prop
 | [] => True
 | p :: l => (b.testBit p.1 = true ∨ p.2 H = true) ∧ AllR b H l
theorem AllE.imp {b : Nat} {ok ok' : AHeap → Prop} (f : ∀ H, ok H → ok' H) : ∀ {l : List (Nat × AHeap)}, AllE b ok l → AllE b ok' l
 | [], _ => trivial
 | _ :: _, h => ⟨h.1.imp id (f _), AllE.imp f h.2⟩
theorem AllE.get {b : Nat} {ok : AHeap → Prop} {l : List (Nat × AHeap)} (h : AllE b ok l) : ∀ p ∈ l, b.testBit p.1 = true ∨ ok p.2 := by
 induction l with
 | nil => simp
 | cons q l ih => intro p hp; rcases List.mem_cons.1 hp with rfl | hp; exact h.1; exact ih h.2 p hp
theorem AllR.get {b : Nat} {H : AHeap} {l : List (Nat × (AHeap → Bool))} (h : AllR b H l) : ∀ p ∈ l, b.testBit p.1 = true ∨ p.2 H = true := by
 induction l with
 | nil => simp
 | cons q l ih => intro p hp; rcases List.mem_cons.1 hp with rfl | hp; exact h.1; exact ih h.2 p hp
theorem madeOk_eq {r : DRec} (hc : Nat.beq r.cls 3 = true) : r.okAt = madeOk r.o.op r.fr r.ref := by
 funext H
 unfold DRec.okAt madeOk
 rw [hc]
 rfl
section
variable {call : ACall} {lf n ref : Nat} {its : List DItem} {H0 H H1 : AHeap} {E : List (Nat × AHeap)} {Rd : List (Nat × (AHeap → Bool))} {fr : AFrame} {K : AFrame → AHeap → Prop} {Q : RExit → AFrame → AHeap → Prop} {op : ROp} {v : AVal} {b : Nat} {pre : Bool} {g : Option (Nat × Bool)}
theorem WpE.nil (h : K fr H) : WpE call n ref [] H0 E Rd fr H K := fun R0 E0 Rd0 _ _ _ hI => ⟨[], fr, H, rfl, by rw [List.append_nil]; exact hI.done, h⟩
theorem WpE.next {it : DItem} {R0 : List DRec} {r : DRec} {E' : List (Nat × AHeap)} {Rd' : List (Nat × (AHeap → Bool))} {E0' : List (Nat × AHeap)} {Rd0' : List (Nat × DRec)} {fr1 : AFrame} (hn : R0.length = n) (he : ∀ p ∈ E0', p ∈ E') (hrd : ∀ p ∈ Rd0', (p.1, DRec.okAt p.2) ∈ Rd')
  (hI : DInv (R0 ++ [r]) H0 H1 E0' Rd0') (hd : ∀ R1 fr' H', dtext call its (nextRef it.cls ref) fr1 H1 = some (R1, fr', H') → dtext call (it :: its) ref fr H = some (r :: R1, fr', H')) (h : WpE call (n + 1) (nextRef it.cls ref) its H0 E' Rd' fr1 H1 K) :
  ∃ R1 fr' H', dtext call (it :: its) ref fr H = some (R1, fr', H') ∧ dcheck (R0 ++ R1) H0 (R0 ++ R1) 0 = true ∧ K fr' H' := by
 obtain ⟨R1, fr', H', h1, h2, h3⟩ := h (R0 ++ [r]) E0' Rd0' (by simp [hn]) he hrd hI
 exact ⟨r :: R1, fr', H', hd _ _ _ h1, by rw [List.append_assoc] at h2; exact h2, h3⟩
theorem WpE.skip {d : Option Nat} {cls : Nat} (hw : ROper.wanted fr ⟨d, op, g⟩ = false) (h : WpE call (n + 1) (nextRef cls ref) its H0 E Rd (put fr d aundef) H K) : WpE call n ref (⟨⟨d, op, g⟩, b, cls, pre⟩ :: its) H0 E Rd fr H K := fun R0 E0 Rd0 hn he hrd hI =>
 WpE.next (r := ⟨⟨d, op, g⟩, b, cls, fr, aundef, false, false, H, ref⟩) hn he hrd (hI.plain rfl rfl) (fun R1 fr' H' hd => by
  simp only [dtext, hw, hd]) h
theorem WpE.pure {d : Option Nat} (hw : ROper.wanted fr ⟨d, op, g⟩ = true) (hx : op.exec noCall fr H = some (v, H)) (h : WpE call (n + 1) ref its H0 E Rd (put fr d v) H K) : WpE call n ref (⟨⟨d, op, g⟩, b, 0, pre⟩ :: its) H0 E Rd fr H K := fun R0 E0 Rd0 hn he hrd hI =>
 WpE.next (r := ⟨⟨d, op, g⟩, b, 0, fr, v, true, false, H, ref⟩) hn he hrd (hI.plain rfl rfl) (fun R1 fr' H' hd => by
  simp only [dtext, hw, dstep, look_of hx rfl]
  simp only [Nat.beq, nextRef] at hd ⊢
  simp [hd]) h
theorem WpE.look {d : Option Nat} (hw : ROper.wanted fr ⟨d, op, g⟩ = true) (hx : op.look fr H = some v) (hE : AllE b (fun H2 => op.look fr H2 = some v) E) (h : WpE call (n + 1) ref its H0 E ((n, readOk op fr v) :: Rd) (put fr d v) H K) : WpE call n ref (⟨⟨d, op, g⟩, b, 1, pre⟩ :: its) H0 E Rd fr H K := fun R0 E0 Rd0 hn he hrd hI =>
 WpE.next (r := ⟨⟨d, op, g⟩, b, 1, fr, v, true, false, H, ref⟩) (Rd0' := Rd0 ++ [(R0.length, ⟨⟨d, op, g⟩, b, 1, fr, v, true, false, H, ref⟩)]) hn he (by
   intro p hp
   rcases List.mem_append.1 hp with hp | hp
   ·exact List.mem_cons_of_mem _ (hrd p hp)
   ·simp only [List.mem_singleton] at hp
    subst hp
    rw [hn, readOk_eq rfl]
    exact List.mem_cons_self)
  (hI.read rfl (okAt_look rfl hx) (fun p hp => (hE.get p (he p hp)).imp id fun q => okAt_look rfl q)) (fun R1 fr' H' hd => by
  simp only [dtext, hw, dstep, hx]
  simp only [Nat.beq, nextRef] at hd ⊢
  simp [hd]) h
theorem WpE.read {d : Option Nat} (hw : ROper.wanted fr ⟨d, op, g⟩ = true) (hx : op.exec noCall fr H = some (v, H)) (hE : AllE b (fun H2 => op.exec noCall fr H2 = some (v, H2)) E) (h : WpE call (n + 1) ref its H0 E ((n, readOk op fr v) :: Rd) (put fr d v) H K) : WpE call n ref (⟨⟨d, op, g⟩, b, 1, pre⟩ :: its) H0 E Rd fr H K :=
 WpE.look hw (look_of hx rfl) (AllE.imp (fun H2 q => look_of q rfl) hE) h
theorem WpE.effect {d : Option Nat} (hw : ROper.wanted fr ⟨d, op, g⟩ = true) (hx : op.exec call fr H = some (v, H1)) (hR : AllR b H1 Rd) (h : WpE call (n + 1) ref its H0 ((n, H) :: E) Rd (put fr d v) H1 K) : WpE call n ref (⟨⟨d, op, g⟩, b, 2, pre⟩ :: its) H0 E Rd fr H K := fun R0 E0 Rd0 hn he hrd hI =>
 WpE.next (r := ⟨⟨d, op, g⟩, b, 2, fr, v, true, true, H1, ref⟩) (E0' := E0 ++ [(n, H)]) hn (by
   intro p hp
   rcases List.mem_append.1 hp with hp | hp
   ·exact List.mem_cons_of_mem _ (he p hp)
   ·simp only [List.mem_singleton] at hp
    subst hp
    exact List.mem_cons_self) hrd (by
   have := hI.effect (e := ⟨⟨d, op, g⟩, b, 2, fr, v, true, true, H1, ref⟩) rfl rfl fun p hp => hR.get (p.1, p.2.okAt) (hrd p hp)
   rw [hn] at this; exact this) (fun R1 fr' H' hd => by
  simp only [dtext, hw, dstep, hx]
  simp only [Nat.beq, nextRef] at hd ⊢
  simp [hd]) h
theorem WpE.made {d : Option Nat} {cs : List AVal} {e : TypeId} {k : Nat → AVal} (hw : ROper.wanted fr ⟨d, op, g⟩ = true) (hm : op.made fr = some (cs, e, k)) (hg : ghostIs H ref cs e = true) (hE : AllE b (fun H2 => ghostIs H2 ref cs e = true) E) (h : WpE call (n + 1) (ref + 1) its H0 E ((n, madeOk op fr ref) :: Rd) (put fr d (k ref)) H K) : WpE call n ref (⟨⟨d, op, g⟩, b, 3, pre⟩ :: its) H0 E Rd fr H K := fun R0 E0 Rd0 hn he hrd hI =>
 WpE.next (r := ⟨⟨d, op, g⟩, b, 3, fr, k ref, true, false, H, ref⟩) (Rd0' := Rd0 ++ [(R0.length, ⟨⟨d, op, g⟩, b, 3, fr, k ref, true, false, H, ref⟩)]) hn he (by
   intro p hp
   rcases List.mem_append.1 hp with hp | hp
   ·exact List.mem_cons_of_mem _ (hrd p hp)
   ·simp only [List.mem_singleton] at hp
    subst hp
    rw [hn, madeOk_eq rfl]
    exact List.mem_cons_self)
  (hI.read rfl (by simp only [DRec.okAt, Nat.beq, hm, hg]) (fun p hp => (hE.get p (he p hp)).imp id fun q => by simp only [DRec.okAt, Nat.beq, hm, q])) (fun R1 fr' H' hd => by
  simp only [dtext, hw, dstep]
  simp only [Nat.beq, nextRef, hm, hg] at hd ⊢
  simp [hd]) h
theorem ghost_of {r : Nat} {cs : List AVal} {e : TypeId} [h : HasRow H r cs true (2 * e)] : ghostIs H r cs e = true := by
 unfold ghostIs
 have hlt := h.lt
 simp only [h.get, abeqL_refl, Nat.beq_refl, Bool.and_true, Bool.and_self]
 simpa using hlt
theorem made_of {r : Nat} {cs : List AVal} {e : TypeId} {k : Nat → AVal} (hm : op.made fr = some (cs, e, k)) [h : HasRow H r cs true (2 * e)] : madeOk op fr r H = true := by
 unfold madeOk
 rw [hm]
 exact ghost_of
theorem Wp.dregionE (os : List AObj) (ho : oracle its H.n fr H = os) (h : WpE call 0 H.n its (pushAll H os) [] [] fr (pushAll H os) fun fr' H' => Q .normal fr' H') : Wp call lf (.dregion its) fr H Q := by
 obtain ⟨R1, fr', H', h1, h2, h3⟩ := h [] [] [] rfl (by simp) (by simp) (DInv.nil _)
 refine ⟨.normal, fr', H', ?_, h3⟩
 simp only [RCode.exec, ho, h1]
 simp only [List.nil_append] at h2
 rw [h2]
theorem Wp.dregion0 (hno : (its.all fun it => !(Nat.beq it.cls 3)) = true) (h : WpE call 0 H.n its H [] [] fr H fun fr' H' => Q .normal fr' H') : Wp call lf (.dregion its) fr H Q :=
 Wp.dregionE [] (oracle_none its H.n fr H hno) h
theorem oracle_pre {it : DItem} {os : List AObj} {v : AVal} {H2 : AHeap} (hc : Nat.beq it.cls 3 = false) (hp : it.pre = true) (hw : it.o.wanted fr = true) (hx : it.o.op.exec noCall fr H = some (v, H2)) (h : oracle its ref (put fr it.o.dst v) H = os) : oracle (it :: its) ref fr H = os := by
 simp only [oracle, hc, hp, hw, hx, h]
theorem oracle_made {it : DItem} {os : List AObj} {cs : List AVal} {e : TypeId} {k : Nat → AVal} (hc : Nat.beq it.cls 3 = true) (hw : it.o.wanted fr = true) (hm : it.o.op.made fr = some (cs, e, k)) (h : oracle its (ref + 1) (put fr it.o.dst (k ref)) H = os) : oracle (it :: its) ref fr H = .row cs true (2 * e) :: os := by
 simp only [oracle, hc, hw, hm, h]
theorem made_mk {e : TypeId} {z : AVal} {by_ : Nat} {x y : ROpd} {k k' : IntKind} {a : Nat} (hx : x.ev fr = .int k a) (hy : y.ev fr = .int k' a) (h0 : by_ * a ≤ 2 ^ 47 ∧ a < 2 ^ 62) : (ROp.makeSlice e [z] by_ x y).made fr = some ((List.replicate a [z]).flatten, e, fun r => .slice r 0 a (some a) 1) := by
 have h1 : (0 : Int) ≤ (a : Int) ∧ (a : Int) ≤ a ∧ (by_ : Int) * a ≤ 2 ^ 47 ∧ (a : Int) < 2 ^ 62 := by
  have h2 : ((by_ * a : Nat) : Int) ≤ 2 ^ 47 := by omega
  rw [Int.natCast_mul] at h2
  omega
 simp only [ROp.made, hx, hy, if_pos h1, Int.toNat_natCast, List.length_singleton]
end
theorem WpE.pcall {ext : Exts} {prog : FuncId → Option RFunc} {m dd D : Nat} {f : FuncId} {o : ROpd} {l : List ROpd} {args : List AVal} {v : AVal} {d : Option Nat} {n ref : Nat} {its : List DItem} {H0 H : AHeap} {E : List (Nat × AHeap)} {Rd : List (Nat × (AHeap → Bool))} {fr : AFrame} {K : AFrame → AHeap → Prop} {b : Nat} {pre : Bool} {g : Option (Nat × Bool)}
  (hw : ROper.wanted fr ⟨d, .call o l, g⟩ = true) (hn : fuel0 + D ≤ m) (hf : o.ev fr = .func (.func f) [] []) (hl : l.map (·.ev fr) = args) [hc : PureCon ext prog f args H dd v] (hd : Nat.ble dd D = true)
  (h : ∀ H1, ExtI H H1 → AllR b H1 Rd ∧ WpE (callN ext prog m) (n + 1) ref its H0 ((n, H) :: E) Rd (put fr d v) H1 K) : WpE (callN ext prog m) n ref (⟨⟨d, .call o l, g⟩, b, 2, pre⟩ :: its) H0 E Rd fr H K := by
 obtain ⟨v', H1, hx, hv, hext⟩ := exec_con hc.con (Nat.le_trans (Nat.add_le_add_left (Nat.le_of_ble_eq_true hd) _) hn) hf hl
 subst hv
 obtain ⟨h1, h2⟩ := h H1 ⟨hext⟩
 exact WpE.effect hw hx h1 h2
theorem WpE.con {ext : Exts} {prog : FuncId → Option RFunc} {m dd D : Nat} {f : FuncId} {o : ROpd} {l : List ROpd} {args : List AVal} {R : AVal → AHeap → Prop} {d : Option Nat} {n ref : Nat} {its : List DItem} {H0 H : AHeap} {E : List (Nat × AHeap)} {Rd : List (Nat × (AHeap → Bool))} {fr : AFrame} {K : AFrame → AHeap → Prop} {b : Nat} {pre : Bool} {g : Option (Nat × Bool)}
  (hw : ROper.wanted fr ⟨d, .call o l, g⟩ = true) (hn : fuel0 + D ≤ m) (hd : Nat.ble dd D = true) (hf : o.ev fr = .func (.func f) [] []) (hl : l.map (·.ev fr) = args) (hc : Con ext prog dd f args H R)
  (h : ∀ v H1, R v H1 → AllR b H1 Rd ∧ WpE (callN ext prog m) (n + 1) ref its H0 ((n, H) :: E) Rd (put fr d v) H1 K) : WpE (callN ext prog m) n ref (⟨⟨d, .call o l, g⟩, b, 2, pre⟩ :: its) H0 E Rd fr H K := by
 obtain ⟨v', H1, hx, hv⟩ := exec_con hc (Nat.le_trans (Nat.add_le_add_left (Nat.le_of_ble_eq_true hd) _) hn) hf hl
 obtain ⟨h1, h2⟩ := h v' H1 hv
 exact WpE.effect hw hx h1 h2
section
variable {call : ACall} {fr : AFrame} {H : AHeap}
theorem exec_ldN {a : ROpd} {n r off : Nat} {cs : List AVal} {rw : Bool} {e : TypeId} {l : List AVal} (ha : a.ev fr = .ptr r off) [hg : HasRow H r cs rw e] (hv : Nat.ble (off + n) cs.length = true) (hl : (cs.drop off).take n = l) : (ROp.load (some n) a).exec call fr H = some (.agg l, H) := by
 subst hl
 simp only [ROp.exec, ha, aLoad, M.bind, aRow, if_pos hg.lt, hg.get, if_pos (Nat.le_of_ble_eq_true hv), M.pure]
theorem exec_lenP {x : ROpd} {p : AVal} {sz n : Nat} {cs : List AVal} (hx : x.ev fr = p) [s : SliceAt H p sz n cs] : (ROp.lenS x).exec call fr H = some (.int .i64 n, H) := by
 simp only [ROp.exec, hx, s.lenS, M.ofOption, M.pure]
theorem exec_ldB {a : ROpd} {p : AVal} {j : Nat} {l : List UInt8} (ha : a.ev fr = .ptr (rowOf p) (offOf p + j)) [s : BytesI H p l] (hj : j < l.length) : (ROp.load none a).exec call fr H = some (.int .u8 (l[j].toNat : Int), H) := exec_ldP ha (get_bytes hj)
theorem exec_ldI {a : ROpd} {p : AVal} {j : Nat} {l : List Int} (ha : a.ev fr = .ptr (rowOf p) (offOf p + j)) [s : IntsI H p l] (hj : j < l.length) : (ROp.load none a).exec call fr H = some (.int .i64 l[j], H) := exec_ldP ha (get_ints hj)
theorem exec_build {z : List AVal} {ps : List (Nat × Nat × ROpd)} {cs : List AVal} (hf : aFill fr z ps = some cs) : (ROp.build z ps).exec call fr H = some (.agg cs, H) := by simp only [ROp.exec, hf, M.pure]
end
theorem exec_appendNil {H : AHeap} {p : AVal} {l : List UInt8} [h : BytesI H p l] (hl : l.length < 2 ^ 40) (e : TypeId) : ∃ v H', aAppend e 1 1 .nslice p H = some (v, H') ∧ BytesI H' v l ∧ FreshS H v ∧ WrS H' v ∧ Ext H H' := by
 rcases h.it with ⟨rfl, h0, _⟩ | ⟨r, off, cap, row, rw, e0, rfl, hr, hg, hle, hc, _⟩
 ·have : l = [] := List.eq_nil_of_length_eq_zero h0
  subst this
  exact ⟨.nslice, H, rfl, ⟨Or.inl ⟨rfl, rfl, rfl⟩⟩, ⟨fun _ _ _ _ _ e => by cases e⟩, ⟨fun _ _ _ _ _ e => by cases e⟩, Ext.refl H⟩
 ·have hf : aFirst 1 l.length (.slice r off l.length cap 1) H = some (cellsB l, H) := by
   simp only [aFirst, ne_eq, not_true, if_false, M.bind, aRow, if_pos hr, hg, if_pos hle, hc, M.pure]
  by_cases h0 : l = []
  ·subst h0
   refine ⟨.nslice, H, ?_, ⟨Or.inl ⟨rfl, rfl, rfl⟩⟩, ⟨fun _ _ _ _ _ e => by cases e⟩, ⟨fun _ _ _ _ _ e => by cases e⟩, Ext.refl H⟩
   simp only [aAppend, aLenOf, M.bind, hf]
   rfl
  ·have hn0 : ¬ l.length = 0 := by simpa using h0
   refine ⟨.slice H.n 0 l.length none 1, H.push (.row (cellsB l) true (2 * e)), ?_, ⟨Or.inr ⟨H.n, 0, none, cellsB l, true, 2 * e, rfl, Nat.lt_succ_self _, push_get_eq, by simp [cellsB_length], by rw [List.drop_zero, List.take_of_length_le (by rw [cellsB_length]; omega)], Nat.le_refl _⟩⟩, ⟨fun _ _ _ _ _ e => by cases e; exact Nat.le_refl _⟩, ⟨fun _ _ _ _ _ e => by cases e; exact ⟨_, _, push_get_eq⟩⟩, (Ext.refl H).push _⟩
   simp only [aAppend, aLenOf, M.bind, hf, cellsB_one, cellsB_length]
   have hroom : 2 * l.length * 1 ≤ 2 ^ 48 := by omega
   simp only [Bool.not_true, Nat.mul_one, ne_eq, not_true, decide_false, Nat.reduceEqDiff, Bool.or_false, Bool.false_eq_true, if_false, hn0]
   rw [Nat.mul_one] at hroom
   simp only [if_pos hroom, M.bind, aNew, M.pure]
theorem WpX.appendNil {call : ACall} {fr : AFrame} {H : AHeap} {K : AVal → AHeap → Prop} {e : TypeId} {x y : ROpd} {p : AVal} {l : List UInt8} (hx : x.ev fr = .nslice) (hy : y.ev fr = p) [h : BytesI H p l] (hl : l.length < 2 ^ 40)
  (hk : ∀ v H', BytesI H' v l → FreshS H v → WrS H' v → ExtI H H' → K v H') : WpX (.append e 1 1 x y) call fr H K := by
 obtain ⟨v, H', h1, h2, h3, h4, h5⟩ := exec_appendNil (H := H) (p := p) hl e
 exact ⟨v, H', by simp only [ROp.exec, hx, hy]; exact h1, hk v H' h2 h3 h4 ⟨h5⟩⟩
class IsU8 (k : Int) (b : outParam UInt8) : Prop where
 eq : k = (b.toNat : Int)
instance : IsU8 0 0 := ⟨rfl⟩
instance : IsU8 1 1 := ⟨rfl⟩
instance {b : UInt8} : IsU8 (b.toNat : Int) b := ⟨rfl⟩
instance {H : AHeap} {r : Nat} {k : Int} {b : UInt8} {rw : Bool} {e : TypeId} [h : HasRow H r [.int .u8 k] rw e] [x : IsU8 k b] : BytesI H (.slice r 0 1 (some 1) 1) [b] :=
 ⟨Or.inr ⟨r, 0, some 1, _, rw, e, rfl, h.lt, h.get, by simp, by rw [x.eq]; rfl, Nat.le_refl _⟩⟩
theorem bytesOf_cellsB (l : List UInt8) : bytesOf (cellsB l) = some l := by
 induction l with
 | nil => rfl
 | cons b l ih =>
  show (match bytesOf (cellsB l) with | some l => some (UInt8.ofNat ((b.toNat : Int)).toNat :: l) | none => none) = _
  rw [ih]
  simp
theorem aBytesFn_at {H : AHeap} {p : AVal} {l : List UInt8} [h : BytesI H p l] (f : List UInt8 → AVal) : aBytesFn f p H = some (f l, H) := by
 rcases h.it with ⟨rfl, h0, _⟩ | ⟨r, off, cap, row, rw, e, rfl, hr, hg, hl, hc, _⟩
 ·have : l = [] := List.eq_nil_of_length_eq_zero h0
  subst this; rfl
 ·have hl' : off + l.length ≤ row.length := by omega
  have hc' : (row.drop off).take l.length = cellsB l := by rw [← hc, Nat.mul_one]
  simp only [aBytesFn, ne_eq, not_true, if_false, M.bind, aRow, if_pos hr, hg, if_pos hl', hc', bytesOf_cellsB, M.pure]
def pxOk (l : List UInt8) : Bool := l.all fun b => b == 0 || b == 1
theorem count01 (l : List UInt8) : (l.count 0 + l.count 1 = l.length) ↔ pxOk l = true := by
 induction l with
 | nil => simp [pxOk]
 | cons b l ih =>
  have hle : l.count 0 + l.count 1 ≤ l.length := by
   clear ih
   induction l with
   | nil => simp
   | cons c l ihl =>
    simp only [List.count_cons, List.length_cons]
    by_cases h0 : c = 0
    ·subst h0; simp; omega
    ·by_cases h1 : c = 1
     ·subst h1; simp; omega
     ·simp [h0, h1]; omega
  simp only [pxOk, List.all_cons, Bool.and_eq_true, Bool.or_eq_true, beq_iff_eq, List.count_cons, List.length_cons] at ih ⊢
  by_cases h0 : b = 0
  ·subst h0; simp at ih ⊢; rw [← ih]; omega
  ·by_cases h1 : b = 1
   ·subst h1; simp at ih ⊢; rw [← ih]; omega
   ·simp [h0, h1]; omega
theorem count_le (l : List UInt8) (b : UInt8) : l.count b ≤ l.length := List.count_le_length
theorem bind_of {α β : Type} {x : M α} {f : α → M β} {H H' : AHeap} {a : α} (h : x H = some (a, H')) : M.bind x f H = f a H' := by simp [M.bind, h]
theorem exec_appendE {H : AHeap} {p : AVal} {l : List UInt8} {r : Nat} {e0 : TypeId} [h : BytesI H p l] [g : HasRow H r [] true e0] (hl : l.length < 2 ^ 40) (e : TypeId) :
  ∃ v H', aAppend e 1 1 (.slice r 0 0 (some 0) 1) p H = some (v, H') ∧ BytesI H' v l ∧ (∀ r' off len cap sz, v = .slice r' off len cap sz → r' = r ∨ H.n ≤ r') ∧ WrS H' v ∧ Ext H H' := by
 have hf : aLenOf p = some l.length ∧ aFirst 1 l.length p H = some (cellsB l, H) := by
  rcases h.it with ⟨rfl, h0, _⟩ | ⟨r, off, cap, row, rw, e0, rfl, hr, hg, hle, hc, _⟩
  ·have : l = [] := List.eq_nil_of_length_eq_zero h0
   subst this; exact ⟨rfl, rfl⟩
  ·exact ⟨rfl, by simp only [aFirst, ne_eq, not_true, if_false, M.bind, aRow, if_pos hr, hg, if_pos hle, hc, M.pure]⟩
 have hg1 := g.get
 have hg0 := g.lt
 by_cases h0 : l = []
 ·subst h0
  refine ⟨.slice r 0 0 (some 0) 1, H, ?_, ⟨Or.inr ⟨r, 0, some 0, [], true, e0, rfl, hg0, hg1, by simp, by simp [cellsB], Nat.le_refl _⟩⟩, fun r' _ _ _ _ e => by cases e; exact Or.inl rfl, ⟨fun _ _ _ _ _ e => by cases e; exact ⟨_, _, hg1⟩⟩, Ext.refl H⟩
  simp only [aAppend, hf.1, M.bind, List.length_nil] at hf ⊢
  simp only [hf.2]
  simp [cellsB, M.bind, aRow, hg0, hg1, M.pure]
 ·have hn0 : ¬ l.length = 0 := by simpa using h0
  refine ⟨.slice H.n 0 (0 + l.length) none 1, H.push (.row (cellsB l) true (2 * e)), ?_, ?_, fun r' _ _ _ _ e => by cases e; exact Or.inr (Nat.le_refl _), ⟨fun _ _ _ _ _ e => by cases e; exact ⟨_, _, push_get_eq⟩⟩, (Ext.refl H).push _⟩
  ·simp only [aAppend, hf.1, M.bind, hf.2, cellsB_one, cellsB_length]
   have hroom : 2 * (0 + l.length) * 1 ≤ 2 ^ 48 := by omega
   have hcap : ¬ (0 + l.length ≤ 0) := by omega
   have ha : aRow r H = some (([], true), H) := by simp only [aRow, if_pos hg0, hg1]
   rw [Nat.mul_one] at hroom
   simp only [Bool.not_true, Nat.mul_one, ne_eq, not_true, decide_false, Nat.reduceEqDiff, Bool.or_false, Bool.false_eq_true, if_false, hn0, if_neg hcap]
   rw [bind_of ha]
   have hcond : 0 + 0 ≤ ([] : List AVal).length ∧ 2 * (0 + l.length) ≤ 2 ^ 48 := ⟨by simp, hroom⟩
   simp only [if_pos hcond]
   rfl
  ·rw [Nat.zero_add]
   exact ⟨Or.inr ⟨H.n, 0, none, cellsB l, true, 2 * e, rfl, Nat.lt_succ_self _, push_get_eq, by simp [cellsB_length], by rw [List.drop_zero, List.take_of_length_le (by rw [cellsB_length]; omega)], Nat.le_refl _⟩⟩
theorem WpX.appendE {call : ACall} {fr : AFrame} {H : AHeap} {K : AVal → AHeap → Prop} {e e0 : TypeId} {x y : ROpd} {p : AVal} {l : List UInt8} {r : Nat} (hx : x.ev fr = .slice r 0 0 (some 0) 1) (hy : y.ev fr = p) [h : BytesI H p l] [g : HasRow H r [] true e0] (hl : l.length < 2 ^ 40)
  (hk : ∀ v H', BytesI H' v l → (∀ r' off len cap sz, v = .slice r' off len cap sz → r' = r ∨ H.n ≤ r') → WrS H' v → ExtI H H' → K v H') : WpX (.append e 1 1 x y) call fr H K := by
 obtain ⟨v, H', h1, h2, h3, h4, h5⟩ := exec_appendE (H := H) (p := p) (r := r) hl e
 exact ⟨v, H', by simp only [ROp.exec, hx, hy]; exact h1, hk v H' h2 h3 h4 ⟨h5⟩⟩
section
variable {call : ACall} {n ref : Nat} {its : List DItem} {H0 H : AHeap} {E : List (Nat × AHeap)} {Rd : List (Nat × (AHeap → Bool))} {fr : AFrame} {K : AFrame → AHeap → Prop} {b : Nat} {pre : Bool} {g : Option (Nat × Bool)}
theorem WpE.stB {d : Option Nat} {a x : ROpd} {p : AVal} {j : Nat} {l : List UInt8} {k : Int} (c : UInt8) (hw : ROper.wanted fr ⟨d, .store 1 a x, g⟩ = true) (ha : a.ev fr = .ptr (rowOf p) (offOf p + j)) (hx : x.ev fr = .int .u8 k) (hk : k = (c.toNat : Int)) [s : BytesI H p l] [w : WrS H p] (hj : j < l.length)
  (h : ∀ H1, BytesI H1 p (l.set j c) → WrS H1 p → ExtP H H1 p → AllR b H1 Rd ∧ WpE call (n + 1) ref its H0 ((n, H) :: E) Rd (put fr d aundef) H1 K) : WpE call n ref (⟨⟨d, .store 1 a x, g⟩, b, 2, pre⟩ :: its) H0 E Rd fr H K := by
 obtain ⟨v, H1, h1, rfl, h2, h3, h4⟩ := WpX.stB (call := call) (K := fun v H1 => v = aundef ∧ BytesI H1 p (l.set j c) ∧ WrS H1 p ∧ ExtP H H1 p) c ha hx hk hj fun H1 q1 q2 q3 => ⟨rfl, q1, q2, q3⟩
 obtain ⟨h5, h6⟩ := h H1 h2 h3 h4
 exact WpE.effect hw h1 h5 h6
theorem WpE.stI {d : Option Nat} {a x : ROpd} {p : AVal} {j : Nat} {l : List Int} {c : Int} (hw : ROper.wanted fr ⟨d, .store 1 a x, g⟩ = true) (ha : a.ev fr = .ptr (rowOf p) (offOf p + j)) (hx : x.ev fr = .int .i64 c) [s : IntsI H p l] [w : WrS H p] (hj : j < l.length)
  (h : ∀ H1, IntsI H1 p (l.set j c) → WrS H1 p → ExtP H H1 p → AllR b H1 Rd ∧ WpE call (n + 1) ref its H0 ((n, H) :: E) Rd (put fr d aundef) H1 K) : WpE call n ref (⟨⟨d, .store 1 a x, g⟩, b, 2, pre⟩ :: its) H0 E Rd fr H K := by
 obtain ⟨v, H1, h1, rfl, h2, h3, h4⟩ := WpX.stI (call := call) (K := fun v H1 => v = aundef ∧ IntsI H1 p (l.set j c) ∧ WrS H1 p ∧ ExtP H H1 p) ha hx hj fun H1 q1 q2 q3 => ⟨rfl, q1, q2, q3⟩
 obtain ⟨h5, h6⟩ := h H1 h2 h3 h4
 exact WpE.effect hw h1 h5 h6
end
theorem ag0 (v : AVal) (vs : List AVal) : argFrame (v :: vs) 0 = v := rfl
theorem ag1 (v w : AVal) (vs : List AVal) : argFrame (v :: w :: vs) 1 = w := rfl
theorem ag2 (v w x : AVal) (vs : List AVal) : argFrame (v :: w :: x :: vs) 2 = x := rfl
theorem ag3 (v w x y : AVal) (vs : List AVal) : argFrame (v :: w :: x :: y :: vs) 3 = y := rfl
theorem ag4 (v w x y z : AVal) (vs : List AVal) : argFrame (v :: w :: x :: y :: z :: vs) 4 = z := rfl
theorem fx1 (fr : AFrame) : updL [] fr = fr := rfl
theorem fx2 (p : Nat × AVal) (l : List (Nat × AVal)) (fr : AFrame) : updL (p :: l) fr = upd (updL l fr) p.1 p.2 := rfl
theorem fx3 (g fr : AFrame) : mix [] g fr = fr := rfl
theorem fx4 (d : Nat) (D : List Nat) (g fr : AFrame) : mix (d :: D) g fr = upd (mix D g fr) d (g d) := rfl
theorem nrmS : (∀ (a b : AVal) l, (a :: l).set 4 b = a :: l.set 3 b) ∧ (∀ (a b : AVal) l, (a :: l).set 5 b = a :: l.set 4 b) ∧ (∀ (a b : AVal) l, (a :: l).set 6 b = a :: l.set 5 b) ∧ (∀ (a b : AVal) l, (a :: l).set 7 b = a :: l.set 6 b) ∧ (∀ (a b : AVal) l, (a :: l).set 8 b = a :: l.set 7 b) ∧ (∀ (a b : AVal) l, (a :: l).set 9 b = a :: l.set 8 b) ∧ (∀ (a b : AVal) l, (a :: l).set 10 b = a :: l.set 9 b) ∧ (∀ (a b : AVal) l, (a :: l).set 11 b = a :: l.set 10 b) ∧ (∀ (a b : AVal) l, (a :: l).set 12 b = a :: l.set 11 b) ∧ (∀ (a b : AVal) l, (a :: l).set 13 b = a :: l.set 12 b) ∧ (∀ (a b : AVal) l, (a :: l).set 14 b = a :: l.set 13 b) ∧ (∀ (a b : AVal) l, (a :: l).set 15 b = a :: l.set 14 b) := ⟨fun _ _ _ => rfl, fun _ _ _ => rfl, fun _ _ _ => rfl, fun _ _ _ => rfl, fun _ _ _ => rfl, fun _ _ _ => rfl, fun _ _ _ => rfl, fun _ _ _ => rfl, fun _ _ _ => rfl, fun _ _ _ => rfl, fun _ _ _ => rfl, fun _ _ _ => rfl⟩
theorem nrmK : (∀ v vs, argFrame (v :: vs) 0 = v) ∧ (∀ v w vs, argFrame (v :: w :: vs) 1 = w) ∧ (∀ v w x vs, argFrame (v :: w :: x :: vs) 2 = x) ∧ (∀ v w x y vs, argFrame (v :: w :: x :: y :: vs) 3 = y) ∧ (∀ v w x y z vs, argFrame (v :: w :: x :: y :: z :: vs) 4 = z) ∧ (∀ v w x y z u vs, argFrame (v :: w :: x :: y :: z :: u :: vs) 5 = u) ∧ (∀ fr, updL [] fr = fr) ∧ (∀ p l fr, updL (p :: l) fr = upd (updL l fr) p.1 p.2) ∧ (∀ g fr, mix [] g fr = fr) ∧ (∀ d D g fr, mix (d :: D) g fr = upd (mix D g fr) d (g d)) := ⟨ag0, ag1, ag2, ag3, ag4, fun _ _ _ _ _ _ _ => rfl, fx1, fx2, fx3, fx4⟩
theorem nrmL : (∀ fr t, ROpd.ev fr (.tmp t) = fr t) ∧ (∀ fr v, ROpd.ev fr (.val v) = v) ∧ (∀ fr d v i, upd fr d v i = if i = d then v else fr i) := ⟨fun _ _ => rfl, fun _ _ => rfl, upd_at⟩
section
variable {call : ACall} {lf : Nat} {fr : AFrame} {H : AHeap} {Q : RExit → AFrame → AHeap → Prop} {KF : AFrame → AHeap → Prop} {os : List ROper} {d : Nat}
theorem Fr.region {ops : List ROper} (h : ∀ KF : AFrame → AHeap → Prop, (∀ fr' H', Q .normal fr' H' → KF fr' H') → WpO call ops fr H KF) : Wp call lf (.region ops) fr H Q := Wp.region (h _ fun _ _ q => q)
theorem Fr.quiet {its : List DItem} {ops : List ROper} (hq : quiet its = true) (ho : opsOf its = ops) (h : ∀ KF : AFrame → AHeap → Prop, (∀ fr' H', Q .normal fr' H' → KF fr' H') → WpO call ops fr H KF) : Wp call lf (.dregion its) fr H Q := Wp.dquiet hq ho (h _ fun _ _ q => q)
theorem Fr.dregion0 {its : List DItem} (hno : (its.all fun it => !(Nat.beq it.cls 3)) = true) (h : ∀ KF : AFrame → AHeap → Prop, (∀ fr' H', Q .normal fr' H' → KF fr' H') → WpE call 0 H.n its H [] [] fr H KF) : Wp call lf (.dregion its) fr H Q := Wp.dregion0 hno (h _ fun _ _ q => q)
theorem Fr.dregionE {its : List DItem} (os : List AObj) (ho : oracle its H.n fr H = os) (h : ∀ KF : AFrame → AHeap → Prop, (∀ fr' H', Q .normal fr' H' → KF fr' H') → WpE call 0 H.n its (pushAll H os) [] [] fr (pushAll H os) KF) : Wp call lf (.dregion its) fr H Q := Wp.dregionE os ho (h _ fun _ _ q => q)
theorem Fo.ld {a : ROpd} {r off : Nat} {cs : List AVal} {rw : Bool} {e : TypeId} {v : AVal} (ha : a.ev fr = .ptr r off) [hg : HasRow H r cs rw e] (hv : cs[off]? = some v) (h : WpO call os (upd fr d v) H KF) : WpO call (⟨some d, .load none a, none⟩ :: os) fr H KF := WpO.do (WpX.ld ha hv h)
theorem Fo.ldN {a : ROpd} {n r off : Nat} {cs : List AVal} {rw : Bool} {e : TypeId} {l : List AVal} (ha : a.ev fr = .ptr r off) [hg : HasRow H r cs rw e] (hv : Nat.ble (off + n) cs.length = true) (hl : (cs.drop off).take n = l) (h : WpO call os (upd fr d (.agg l)) H KF) : WpO call (⟨some d, .load (some n) a, none⟩ :: os) fr H KF := WpO.do (WpX.ldN ha hv hl h)
theorem Fo.len {x : ROpd} {p v : AVal} {sz n : Nat} {cs : List AVal} (hx : x.ev fr = p) [s : SliceAt H p sz n cs] (hv : AVal.int .i64 n = v) (h : WpO call os (upd fr d v) H KF) : WpO call (⟨some d, .lenS x, none⟩ :: os) fr H KF := by subst hv; exact WpO.do (WpX.lenP hx h)
theorem Fo.now {op : ROp} {v v' : AVal} {H1 : AHeap} (_ : nowOk op = true) (hx : op.exec call fr H = some (v, H1)) (hv : v = v') (h : WpO call os (upd fr d v') H1 KF) : WpO call (⟨some d, op, none⟩ :: os) fr H KF := by subst hv; exact WpO.step rfl ⟨v, H1, hx, h⟩
theorem Fo.box {e : TypeId} {x : ROpd} {v : AVal} {cs : List AVal} (hx : x.ev fr = v) (hc : v.cells = cs) (h : WpO call os (upd fr d (.ptr H.n 0)) (H.push (.row cs true (2 * e))) KF) : WpO call (⟨some d, .box e x, none⟩ :: os) fr H KF := by subst hx hc; exact WpO.do (WpX.box h)
theorem Fo.new {e : TypeId} {cs : List AVal} (h : WpO call os (upd fr d (.ptr H.n 0)) (H.push (.row cs true (2 * e))) KF) : WpO call (⟨some d, .new e cs, none⟩ :: os) fr H KF := WpO.do (WpX.new h)
theorem Fo.bslice {e : TypeId} {sz len : Nat} {zero : List AVal} {parts : List (Nat × Nat × ROpd)} {cs cs' : List AVal} (hf : aFill fr zero parts = some cs) (hc : cs = cs') (h : WpO call os (upd fr d (.slice H.n 0 len (some len) sz)) (H.push (.row cs' true (2 * e))) KF) : WpO call (⟨some d, .buildSlice e sz len zero parts, none⟩ :: os) fr H KF := by
 subst hc
 exact WpO.step rfl ⟨_, _, by simp only [ROp.exec, hf, M.bind, aNew, M.pure], h⟩
theorem Fo.st {a x : ROpd} {n r off : Nat} {cs : List AVal} {e : TypeId} {v : AVal} {vs l : List AVal} (ha : a.ev fr = .ptr r off) (hx : x.ev fr = v) (hvs : v.cells = vs) (hn : Nat.beq vs.length n = true) [hg : HasRow H r cs true e] (hl : Nat.ble (off + vs.length) cs.length = true) (ho : vs.all AVal.one = true)
  (hs : setAt cs off vs = l) (h : WpO call os fr (H.set r (.row l true e)) KF) : WpO call (⟨none, .store n a x, none⟩ :: os) fr H KF := WpO.do' (WpX.st ha hx hvs hn hl ho hs h)
theorem Fo.idx {x i : ROpd} {p : AVal} {sz n o : Nat} {cs : List AVal} {k : IntKind} {a : Int} (hx : x.ev fr = p) (hi : i.ev fr = .int k a) [s : SliceAt H p sz n cs] (h0 : 0 ≤ a ∧ a < n) (ho : offOf p + a.toNat * sz = o) (h : WpO call os (upd fr d (.ptr (rowOf p) o)) H KF) : WpO call (⟨some d, .idxS sz x i, none⟩ :: os) fr H KF := by
 subst ho; exact WpO.do (WpX.idxP hx hi h0 h)
theorem Fo.ldB {a : ROpd} {p v : AVal} {j : Nat} {l : List UInt8} (ha : a.ev fr = .ptr (rowOf p) (offOf p + j)) [s : BytesI H p l] (hj : j < l.length) (hv : AVal.int .u8 (l[j].toNat : Int) = v) (h : WpO call os (upd fr d v) H KF) : WpO call (⟨some d, .load none a, none⟩ :: os) fr H KF := by
 subst hv; exact WpO.do (WpX.ldB ha hj h)
theorem Fo.ldI {a : ROpd} {p v : AVal} {j : Nat} {l : List Int} (ha : a.ev fr = .ptr (rowOf p) (offOf p + j)) [s : IntsI H p l] (hj : j < l.length) (hv : AVal.int .i64 l[j] = v) (h : WpO call os (upd fr d v) H KF) : WpO call (⟨some d, .load none a, none⟩ :: os) fr H KF := by
 subst hv; exact WpO.do (WpX.ldI ha hj h)
theorem Fo.build {z : List AVal} {ps : List (Nat × Nat × ROpd)} {cs cs' : List AVal} (hf : aFill fr z ps = some cs) (hc : cs = cs') (h : WpO call os (upd fr d (.agg cs')) H KF) : WpO call (⟨some d, .build z ps, none⟩ :: os) fr H KF := by
 subst hc; exact WpO.do (WpX.build hf h)
theorem Fo.yes {d : Option Nat} {op : ROp} {t : Nat} {want b : Bool} (hb : fr t = .bool b) (hw : b = want) (h : WpO call (⟨d, op, none⟩ :: os) fr H KF) : WpO call (⟨d, op, some (t, want)⟩ :: os) fr H KF := WpO.guard hb (fun _ => h) fun q => absurd hw q
theorem Fo.no {d : Nat} {op : ROp} {t : Nat} {want b : Bool} (hb : fr t = .bool b) (hw : (!b) = want) (h : WpO call os (upd fr d aundef) H KF) : WpO call (⟨some d, op, some (t, want)⟩ :: os) fr H KF := WpO.guard hb (fun q => absurd q (by subst hw; cases b <;> decide)) fun _ => h
end
section
variable {ext : Exts} {prog : FuncId → Option RFunc} {fr : AFrame} {H : AHeap} {KF : AFrame → AHeap → Prop} {os : List ROper} {d : Nat}
theorem Fo.pcall {n dd D : Nat} {f : FuncId} {o : ROpd} {l : List ROpd} {args : List AVal} {v v' : AVal} (hn : fuel0 + D ≤ n) (hf : o.ev fr = .func (.func f) [] []) (hl : l.map (·.ev fr) = args) [hc : PureCon ext prog f args H dd v] (hd : Nat.ble dd D = true) (hv : v = v')
  (h : ∀ H1, ExtI H H1 → WpO (callN ext prog n) os (upd fr d v') H1 KF) : WpO (callN ext prog n) (⟨some d, .call o l, none⟩ :: os) fr H KF := by
 subst hv; exact WpO.do (WpX.pcall hn hf hl hd h)
end
section
variable {call : ACall} {n ref : Nat} {its : List DItem} {H0 H H1 : AHeap} {E : List (Nat × AHeap)} {Rd : List (Nat × (AHeap → Bool))} {fr : AFrame} {K : AFrame → AHeap → Prop} {b : Nat} {pre : Bool} {g : Option (Nat × Bool)} {d : Nat}
theorem Fe.pure {op : ROp} {v v' : AVal} (hw : ROper.wanted fr ⟨some d, op, g⟩ = true) (hx : op.exec noCall fr H = some (v, H)) (hv : v = v') (h : WpE call (n + 1) ref its H0 E Rd (upd fr d v') H K) : WpE call n ref (⟨⟨some d, op, g⟩, b, 0, pre⟩ :: its) H0 E Rd fr H K := by
 subst hv; exact WpE.pure hw hx h
theorem Fe.read {op : ROp} {v v' : AVal} (hw : ROper.wanted fr ⟨some d, op, g⟩ = true) (hx : op.exec noCall fr H = some (v, H)) (hv : v = v') (hE : AllE b (fun H2 => op.exec noCall fr H2 = some (v, H2)) E) (h : WpE call (n + 1) ref its H0 E ((n, readOk op fr v) :: Rd) (upd fr d v') H K) : WpE call n ref (⟨⟨some d, op, g⟩, b, 1, pre⟩ :: its) H0 E Rd fr H K := by
 subst hv; exact WpE.read hw hx hE h
theorem Fe.skip {cls : Nat} {op : ROp} (hw : ROper.wanted fr ⟨some d, op, g⟩ = false) (h : WpE call (n + 1) (nextRef cls ref) its H0 E Rd (upd fr d aundef) H K) : WpE call n ref (⟨⟨some d, op, g⟩, b, cls, pre⟩ :: its) H0 E Rd fr H K := WpE.skip hw h
theorem Fe.made {op : ROp} {cs : List AVal} {e : TypeId} {k : Nat → AVal} {v : AVal} (hw : ROper.wanted fr ⟨some d, op, g⟩ = true) (hm : op.made fr = some (cs, e, k)) (hg : ghostIs H ref cs e = true) (hE : AllE b (fun H2 => ghostIs H2 ref cs e = true) E) (hv : k ref = v) (h : WpE call (n + 1) (ref + 1) its H0 E ((n, madeOk op fr ref) :: Rd) (upd fr d v) H K) : WpE call n ref (⟨⟨some d, op, g⟩, b, 3, pre⟩ :: its) H0 E Rd fr H K := by
 subst hv; exact WpE.made hw hm hg hE h
theorem Fe.effect0 {op : ROp} {v : AVal} (hw : ROper.wanted fr ⟨none, op, g⟩ = true) (hx : op.exec call fr H = some (v, H1)) (hR : AllR b H1 Rd) (h : WpE call (n + 1) ref its H0 ((n, H) :: E) Rd fr H1 K) : WpE call n ref (⟨⟨none, op, g⟩, b, 2, pre⟩ :: its) H0 E Rd fr H K := WpE.effect hw hx hR h
end
section
variable {ext : Exts} {prog : FuncId → Option RFunc} {n ref : Nat} {its : List DItem} {H0 H H1 : AHeap} {E : List (Nat × AHeap)} {Rd : List (Nat × (AHeap → Bool))} {fr : AFrame} {K : AFrame → AHeap → Prop} {b : Nat} {pre : Bool} {g : Option (Nat × Bool)} {d : Nat}
theorem Fe.pcall {m dd D : Nat} {f : FuncId} {o : ROpd} {l : List ROpd} {args : List AVal} {v v' : AVal} (hw : ROper.wanted fr ⟨some d, .call o l, g⟩ = true) (hn : fuel0 + D ≤ m) (hf : o.ev fr = .func (.func f) [] []) (hl : l.map (·.ev fr) = args) [hc : PureCon ext prog f args H dd v] (hd : Nat.ble dd D = true) (hv : v = v')
  (h : ∀ H1, ExtI H H1 → AllR b H1 Rd ∧ WpE (callN ext prog m) (n + 1) ref its H0 ((n, H) :: E) Rd (upd fr d v') H1 K) : WpE (callN ext prog m) n ref (⟨⟨some d, .call o l, g⟩, b, 2, pre⟩ :: its) H0 E Rd fr H K := by
 subst hv; exact WpE.pcall hw hn hf hl hd h
theorem Fe.con {m dd D : Nat} {f : FuncId} {o : ROpd} {l : List ROpd} {args : List AVal} {R : AVal → AHeap → Prop} (hw : ROper.wanted fr ⟨some d, .call o l, g⟩ = true) (hn : fuel0 + D ≤ m) (hd : Nat.ble dd D = true) (hf : o.ev fr = .func (.func f) [] []) (hl : l.map (·.ev fr) = args) (hc : Con ext prog dd f args H R)
  (h : ∀ v H1, R v H1 → AllR b H1 Rd ∧ WpE (callN ext prog m) (n + 1) ref its H0 ((n, H) :: E) Rd (upd fr d v) H1 K) : WpE (callN ext prog m) n ref (⟨⟨some d, .call o l, g⟩, b, 2, pre⟩ :: its) H0 E Rd fr H K := WpE.con hw hn hd hf hl hc h
end
section
variable {call : ACall} {fr : AFrame} {H : AHeap} {KF : AFrame → AHeap → Prop} {os : List ROper} {d : Nat}
theorem Fo.mov {x : ROpd} {v : AVal} (hx : x.ev fr = v) (h : WpO call os (upd fr d v) H KF) : WpO call (⟨some d, .mov x, none⟩ :: os) fr H KF := by subst hx; exact WpO.do (WpX.mov h)
theorem Fo.fa {x : ROpd} {r o off : Nat} (hx : x.ev fr = .ptr r o) (h : WpO call os (upd fr d (.ptr r (o + off))) H KF) : WpO call (⟨some d, .fieldAddr off x, none⟩ :: os) fr H KF := WpO.do (WpX.fieldAddr hx h)
theorem Fo.pickT {c a b : ROpd} {v : AVal} (hc : c.ev fr = .bool true) (hx : a.ev fr = v) (h : WpO call os (upd fr d v) H KF) : WpO call (⟨some d, .pick c a b, none⟩ :: os) fr H KF := by subst hx; exact WpO.do (WpX.pick hc h)
theorem Fo.pickF {c a b : ROpd} {v : AVal} (hc : c.ev fr = .bool false) (hx : b.ev fr = v) (h : WpO call os (upd fr d v) H KF) : WpO call (⟨some d, .pick c a b, none⟩ :: os) fr H KF := by subst hx; exact WpO.do (WpX.pick hc h)
theorem Fo.extr {x : ROpd} {i : Nat} {vs : List AVal} {v : AVal} (hx : x.ev fr = .tuple vs) (hv : vs[i]? = some v) (h : WpO call os (upd fr d v) H KF) : WpO call (⟨some d, .extract x i, none⟩ :: os) fr H KF := WpO.do (WpX.extract hx hv h)
theorem Fo.bin {op : BinOp} {x y : ROpd} {a b v v' : AVal} (hx : x.ev fr = a) (hy : y.ev fr = b) (hv : aBin op a b = some v) (he : v = v') (h : WpO call os (upd fr d v') H KF) : WpO call (⟨some d, .bin op x y, none⟩ :: os) fr H KF := by
 subst hx hy he
 exact WpO.step rfl ⟨v, H, by simp only [ROp.exec, hv, M.ofOption, M.pure], h⟩
end
section
variable {call : ACall} {fr : AFrame} {H : AHeap} {KF : AFrame → AHeap → Prop} {os : List ROper} {d : Nat}
theorem Fo.boxA {e : TypeId} {x : ROpd} {cs : List AVal} (hx : x.ev fr = .agg cs) (h : WpO call os (upd fr d (.ptr H.n 0)) (H.push (.row cs true (2 * e))) KF) : WpO call (⟨some d, .box e x, none⟩ :: os) fr H KF := Fo.box hx rfl h
theorem Fo.box1 {e : TypeId} {x : ROpd} {v : AVal} (hx : x.ev fr = v) [o : OneV v] (h : WpO call os (upd fr d (.ptr H.n 0)) (H.push (.row [v] true (2 * e))) KF) : WpO call (⟨some d, .box e x, none⟩ :: os) fr H KF := Fo.box hx o.cells h
end
section
variable {call : ACall} {lf : Nat} {fr : AFrame} {H : AHeap} {Q : RExit → AFrame → AHeap → Prop} {KF : AFrame → AHeap → Prop} {os : List ROper} {d : Nat}
theorem mI {x : ROpd} {k : IntKind} {n : Int} (h : WpO call os (upd fr d (.int k n)) H KF) (hx : x.ev fr = .int k n := by exact rfl) : WpO call (⟨some d, .mov x, none⟩ :: os) fr H KF := Fo.mov hx h
theorem mB {x : ROpd} {b : Bool} (h : WpO call os (upd fr d (.bool b)) H KF) (hx : x.ev fr = .bool b := by exact rfl) : WpO call (⟨some d, .mov x, none⟩ :: os) fr H KF := Fo.mov hx h
theorem mP {x : ROpd} {r o : Nat} (h : WpO call os (upd fr d (.ptr r o)) H KF) (hx : x.ev fr = .ptr r o := by exact rfl) : WpO call (⟨some d, .mov x, none⟩ :: os) fr H KF := Fo.mov hx h
theorem mT {x : ROpd} {l : List AVal} (h : WpO call os (upd fr d (.tuple l)) H KF) (hx : x.ev fr = .tuple l := by exact rfl) : WpO call (⟨some d, .mov x, none⟩ :: os) fr H KF := Fo.mov hx h
theorem mN {x : ROpd} (h : WpO call os (upd fr d .nslice) H KF) (hx : x.ev fr = .nslice := by exact rfl) : WpO call (⟨some d, .mov x, none⟩ :: os) fr H KF := Fo.mov hx h
theorem tB {c a b : ROpd} {n : Bool} (h : WpO call os (upd fr d (.bool n)) H KF) (hc : c.ev fr = .bool true := by exact rfl) (hx : a.ev fr = .bool n := by exact rfl) : WpO call (⟨some d, .pick c a b, none⟩ :: os) fr H KF := Fo.pickT hc hx h
theorem fB {c a b : ROpd} {n : Bool} (h : WpO call os (upd fr d (.bool n)) H KF) (hc : c.ev fr = .bool false := by exact rfl) (hx : b.ev fr = .bool n := by exact rfl) : WpO call (⟨some d, .pick c a b, none⟩ :: os) fr H KF := Fo.pickF hc hx h
theorem sq {a b : RCode} (h : Wp call lf a fr H fun x fr' H' => match x with | .normal => Wp call lf b fr' H' Q | e => Q e fr' H') : Wp call lf (.seq a b) fr H Q := Wp.seq h
theorem rg {ops : List ROper} (h : ∀ KF : AFrame → AHeap → Prop, (∀ fr' H', Q .normal fr' H' → KF fr' H') → WpO call ops fr H KF) : Wp call lf (.region ops) fr H Q := Fr.region h
theorem ct {c : ROpd} {t e : RCode} (hc : c.ev fr = .bool true) (h : Wp call lf t fr H Q) : Wp call lf (.cond c t e) fr H Q := Wp.cond (b := true) hc h
theorem cf {c : ROpd} {t e : RCode} (hc : c.ev fr = .bool false) (h : Wp call lf e fr H Q) : Wp call lf (.cond c t e) fr H Q := Wp.cond (b := false) hc h
theorem nl {A : AFrame → AHeap → Prop} (hK : ∀ fr H, A fr H → KF fr H) (h : A fr H) : WpO call [] fr H KF := WpO.nil (hK _ _ h)
theorem sk (h : Q .normal fr H) : Wp call lf .skip fr H Q := Wp.skip h
theorem rt (h : Q .ret fr H) : Wp call lf .ret fr H Q := Wp.ret h
theorem xi {id : Nat} (h : Q (.exit id) fr H) : Wp call lf (.exit id) fr H Q := Wp.exit h
theorem oy {d : Option Nat} {op : ROp} {t : Nat} {want b : Bool} (h : WpO call (⟨d, op, none⟩ :: os) fr H KF) (hb : fr t = .bool b := by exact rfl) (hw : b = want := by exact rfl) : WpO call (⟨d, op, some (t, want)⟩ :: os) fr H KF := Fo.yes hb hw h
theorem ox {d : Nat} {op : ROp} {t : Nat} {want b : Bool} (h : WpO call os (upd fr d aundef) H KF) (hb : fr t = .bool b := by exact rfl) (hw : (!b) = want := by exact rfl) : WpO call (⟨some d, op, some (t, want)⟩ :: os) fr H KF := Fo.no hb hw h
theorem fd {x : ROpd} {r o off : Nat} (h : WpO call os (upd fr d (.ptr r (o + off))) H KF) (hx : x.ev fr = .ptr r o := by exact rfl) : WpO call (⟨some d, .fieldAddr off x, none⟩ :: os) fr H KF := Fo.fa hx h
theorem mv {x : ROpd} {v : AVal} (h : WpO call os (upd fr d v) H KF) (hx : x.ev fr = v := by simp only [↓nrmL, nrmK, Nat.reduceEqDiff, ↓reduceIte]; rfl) : WpO call (⟨some d, .mov x, none⟩ :: os) fr H KF := Fo.mov hx h
theorem b0 {op : BinOp} {x y : ROpd} {a b v : AVal} (h : WpO call os (upd fr d v) H KF) (hx : x.ev fr = a := by exact rfl) (hy : y.ev fr = b := by exact rfl) (hv : aBin op a b = some v := by exact rfl) : WpO call (⟨some d, .bin op x y, none⟩ :: os) fr H KF := Fo.bin hx hy hv rfl h
theorem bn {op : BinOp} {x y : ROpd} {a b v v' : AVal} (hx : x.ev fr = a) (hy : y.ev fr = b) (hv : aBin op a b = some v) (he : v = v') (h : WpO call os (upd fr d v') H KF) : WpO call (⟨some d, .bin op x y, none⟩ :: os) fr H KF := Fo.bin hx hy hv he h
theorem xt {x : ROpd} {i : Nat} {vs : List AVal} {v : AVal} (h : WpO call os (upd fr d v) H KF) (hx : x.ev fr = .tuple vs := by exact rfl) (hv : vs[i]? = some v := by exact rfl) : WpO call (⟨some d, .extract x i, none⟩ :: os) fr H KF := Fo.extr hx hv h
theorem bA {e : TypeId} {x : ROpd} {cs : List AVal} (h : WpO call os (upd fr d (.ptr H.n 0)) (H.push (.row cs true (2 * e))) KF) (hx : x.ev fr = .agg cs := by exact rfl) : WpO call (⟨some d, .box e x, none⟩ :: os) fr H KF := Fo.boxA hx h
theorem nw {e : TypeId} {cs : List AVal} (h : WpO call os (upd fr d (.ptr H.n 0)) (H.push (.row cs true (2 * e))) KF) : WpO call (⟨some d, .new e cs, none⟩ :: os) fr H KF := Fo.new h
theorem ln {x : ROpd} {p : AVal} {sz n : Nat} {cs : List AVal} (hx : x.ev fr = p) [s : SliceAt H p sz n cs] (h : WpO call os (upd fr d (.int .i64 n)) H KF) : WpO call (⟨some d, .lenS x, none⟩ :: os) fr H KF := Fo.len hx rfl h
theorem ob {z : List AVal} {ps : List (Nat × Nat × ROpd)} {cs cs' : List AVal} (hc : cs = cs') (h : WpO call os (upd fr d (.agg cs')) H KF) (hf : aFill fr z ps = some cs := by repeat (first | refine aFill1 (by first | exact (rfl : _ = AVal.int _ _) | exact (rfl : _ = AVal.ptr _ _) | exact (rfl : _ = AVal.bool _) | exact (rfl : _ = AVal.agg _) | exact (rfl : _ = AVal.tuple _) | exact (rfl : _ = AVal.func _ _ _) | exact (rfl : _ = AVal.nslice) | ((try simp only [↓nrmL, nrmK, Nat.reduceEqDiff, ↓reduceIte]); rfl)) rfl ?_ | rfl)) : WpO call (⟨some d, .build z ps, none⟩ :: os) fr H KF := Fo.build hf hc h
theorem so {a x : ROpd} {n r off : Nat} {cs : List AVal} {e : TypeId} {v : AVal} {vs l : List AVal} {os : List ROper} (ha : a.ev fr = .ptr r off) (hx : x.ev fr = v) (hvs : v.cells = vs) (hn : Nat.beq vs.length n = true) [hg : HasRow H r cs true e] (hl : Nat.ble (off + vs.length) cs.length = true)
  (hs : setAt cs off vs = l) (h : WpO call os fr (H.set r (.row l true e)) KF) (ho : vs.all AVal.one = true := by repeat (first | rfl | refine allOne_cons ?_)) : WpO call (⟨none, .store n a x, none⟩ :: os) fr H KF := Fo.st ha hx hvs hn hl ho hs h
end
theorem xs {call : ACall} {fr : AFrame} {H : AHeap} {a x : ROpd} {n r off : Nat} {cs : List AVal} {e : TypeId} {v : AVal} {vs l : List AVal} (ha : a.ev fr = .ptr r off) (hx : x.ev fr = v) (hvs : v.cells = vs) (hn : Nat.beq vs.length n = true) [hg : HasRow H r cs true e] (hl : Nat.ble (off + vs.length) cs.length = true)
  (hs : setAt cs off vs = l) (ho : vs.all AVal.one = true := by repeat (first | rfl | refine allOne_cons ?_)) : (ROp.store n a x).exec call fr H = some (aundef, H.set r (.row l true e)) := exec_st ha hx hvs hn hl ho hs
theorem rz {A : Prop} {fr : AFrame} {res : List RRes} {H : AHeap} {vs : List AVal} {Q : List AVal → Prop} (hA : A) (h : Q vs) (hg : getAll fr res H = some (vs, H) := by first | rfl | exact getAllC rfl rfl rfl rfl | exact getAllT rfl (getAllC rfl rfl rfl rfl) | exact getAllC rfl rfl rfl (getAllC rfl rfl rfl rfl) | exact getAllC1 rfl rfl rfl) : A ∧ ∃ vs, getAll fr res H = some (vs, H) ∧ Q vs := ⟨hA, vs, hg, h⟩
section
variable {call : ACall} {n ref : Nat} {its : List DItem} {H0 H H1 : AHeap} {E : List (Nat × AHeap)} {Rd : List (Nat × (AHeap → Bool))} {fr : AFrame} {K : AFrame → AHeap → Prop} {b : Nat} {pre : Bool} {g : Option (Nat × Bool)} {d : Nat}
theorem Er {op : ROp} {v v' : AVal} (hw : ROper.wanted fr ⟨some d, op, g⟩ = true) (hx : op.exec noCall fr H = some (v, H)) (hv : v = v') (h : WpE call (n + 1) ref its H0 E ((n, readOk op fr v) :: Rd) (upd fr d v') H K) (hE : AllE b (fun H2 => op.exec noCall fr H2 = some (v, H2)) E := by repeat (first | exact trivial | refine ⟨(by first | exact Or.inl (by dsimp only; decide) | exact Or.inr (exec_ld rfl rfl) | exact Or.inr (exec_ld rfl (by assumption)) | exact Or.inr (exec_ldN rfl rfl rfl) | exact Or.inr (exec_ldB rfl (by omega)) | exact Or.inr (exec_ldI rfl (by omega)) | exact Or.inr ghost_of), ?_⟩)) : WpE call n ref (⟨⟨some d, op, g⟩, b, 1, pre⟩ :: its) H0 E Rd fr H K := Fe.read hw hx hv hE h
theorem Em {op : ROp} {cs : List AVal} {e : TypeId} {k : Nat → AVal} {v : AVal} (hw : ROper.wanted fr ⟨some d, op, g⟩ = true) (hm : op.made fr = some (cs, e, k)) (hg : ghostIs H ref cs e = true) (hv : k ref = v) (h : WpE call (n + 1) (ref + 1) its H0 E ((n, madeOk op fr ref) :: Rd) (upd fr d v) H K) (hE : AllE b (fun H2 => ghostIs H2 ref cs e = true) E := by repeat (first | exact trivial | refine ⟨(by first | exact Or.inl (by dsimp only; decide) | exact Or.inr (exec_ld rfl rfl) | exact Or.inr (exec_ld rfl (by assumption)) | exact Or.inr (exec_ldN rfl rfl rfl) | exact Or.inr (exec_ldB rfl (by omega)) | exact Or.inr (exec_ldI rfl (by omega)) | exact Or.inr ghost_of), ?_⟩)) : WpE call n ref (⟨⟨some d, op, g⟩, b, 3, pre⟩ :: its) H0 E Rd fr H K := Fe.made hw hm hg hE hv h
theorem Ee {op : ROp} {v : AVal} (hw : ROper.wanted fr ⟨none, op, g⟩ = true) (hx : op.exec call fr H = some (v, H1)) (h : WpE call (n + 1) ref its H0 ((n, H) :: E) Rd fr H1 K) (hR : AllR b H1 Rd := by repeat (first | exact trivial | refine ⟨(by first | exact Or.inl (by dsimp only; decide) | exact Or.inr (readOk_of (exec_ld rfl rfl)) | exact Or.inr (readOk_of (exec_ld rfl (by assumption))) | exact Or.inr (readOk_of (exec_ldN rfl rfl rfl)) | exact Or.inr (readOk_of (exec_ldB rfl (by omega))) | exact Or.inr (readOk_of (exec_ldI rfl (by omega))) | exact Or.inr (made_of rfl)), ?_⟩)) : WpE call n ref (⟨⟨none, op, g⟩, b, 2, pre⟩ :: its) H0 E Rd fr H K := Fe.effect0 hw hx hR h
theorem ar {B : Prop} (h : B) (hR : AllR b H1 Rd := by repeat (first | exact trivial | refine ⟨(by first | exact Or.inl (by dsimp only; decide) | exact Or.inr (readOk_of (exec_ld rfl rfl)) | exact Or.inr (readOk_of (exec_ld rfl (by assumption))) | exact Or.inr (readOk_of (exec_ldN rfl rfl rfl)) | exact Or.inr (readOk_of (exec_ldB rfl (by omega))) | exact Or.inr (readOk_of (exec_ldI rfl (by omega))) | exact Or.inr (made_of rfl)), ?_⟩)) : AllR b H1 Rd ∧ B := ⟨hR, h⟩
end
theorem nrmZ : type_of% nrm ∧ type_of% nrmS := ⟨nrm, nrmS⟩
end Go.Am
namespace Go.Am
open Go
attribute [local irreducible] Wp WpO WpX WpE
def sideB (a : Int) : Bool := decide (a ≥ 0) && decide (a ≤ 640)
instance K_side (a : Int) (H : AHeap) : PureCon ext prog 62 [.int .i64 a] H 1 (.bool (sideB a)) := ⟨by
 refine con_of (show prog 62 = some c62 from rfl) rfl rfl fun n hn => ?_
 unfold sideB
 cases h1 : decide (a ≥ 0) <;> cases h2 : decide (a ≤ 640)
 ·skip
  repeat first
   | refine ox ?_
   | refine mI ?_
   | refine mB ?_
   | (refine bn rfl rfl rfl (by simp only [h1, h2]; rfl) ?_)
   | refine fB ?_
   | refine nl hKF ?_
   | refine sq ?_
   | refine rg fun KF hKF => ?_
   | refine rt ?_
   | dsimp only [cond_true, cond_false]
  exact ⟨trivial, _, rfl, rfl, Ext0.ext⟩
 ·skip
  repeat first
   | refine ox ?_
   | refine mI ?_
   | refine mB ?_
   | (refine bn rfl rfl rfl (by simp only [h1, h2]; rfl) ?_)
   | refine fB ?_
   | refine nl hKF ?_
   | refine sq ?_
   | refine rg fun KF hKF => ?_
   | refine rt ?_
   | dsimp only [cond_true, cond_false]
  exact ⟨trivial, _, rfl, rfl, Ext0.ext⟩
 ·skip
  repeat first
   | refine oy ?_
   | refine mI ?_
   | refine mB ?_
   | (refine bn rfl rfl rfl (by simp only [h1, h2]; rfl) ?_)
   | refine tB ?_
   | refine nl hKF ?_
   | refine sq ?_
   | refine rg fun KF hKF => ?_
   | refine rt ?_
   | dsimp only [cond_true, cond_false]
  exact ⟨trivial, _, rfl, rfl, Ext0.ext⟩
 ·skip
  repeat first
   | refine oy ?_
   | refine mI ?_
   | refine mB ?_
   | (refine bn rfl rfl rfl (by simp only [h1, h2]; rfl) ?_)
   | refine tB ?_
   | refine nl hKF ?_
   | refine sq ?_
   | refine rg fun KF hKF => ?_
   | refine rt ?_
   | dsimp only [cond_true, cond_false]
  exact ⟨trivial, _, rfl, rfl, Ext0.ext⟩⟩
instance K_sized (a b k : Int) (H : AHeap) : PureCon ext prog 40 [.int .i64 a, .int .i64 b, .int .i64 k] H 2 (.bool (sideB a && sideB b && (k == IntKind.i64.wrap (a * b)))) := ⟨by
 refine con_of (show prog 40 = some c40 from rfl) rfl rfl fun n hn => ?_
 cases h1 : sideB a
 ·skip
  repeat first
   | refine ox ?_
   | refine mI ?_
   | refine mB ?_
   | refine fB ?_
   | (refine Fo.pcall (v' := ?_) hn rfl (by simp only [↓nrmL, nrmZ, Nat.reduceEqDiff, ↓reduceIte, Nat.reduceAdd, Int.reduceBEq, Int.reduceBNe, h1, List.map]; rfl) rfl ?hv fun _ _ => ?_; case hv => (simp only [h1]; rfl))
   | refine nl hKF ?_
   | refine sq ?_
   | refine rg fun KF hKF => ?_
   | refine rt ?_
   | dsimp only [cond_true, cond_false]
  exact ⟨trivial, _, rfl, rfl, Ext0.ext⟩
 cases h2 : sideB b
 ·skip
  repeat first
   | refine oy ?_
   | refine ox ?_
   | refine mI ?_
   | refine mB ?_
   | refine tB ?_
   | refine fB ?_
   | (refine Fo.pcall (v' := ?_) hn rfl (by simp only [↓nrmL, nrmZ, Nat.reduceEqDiff, ↓reduceIte, Nat.reduceAdd, Int.reduceBEq, Int.reduceBNe, h1, h2, List.map]; rfl) rfl ?hv fun _ _ => ?_; case hv => (simp only [h1, h2]; rfl))
   | refine nl hKF ?_
   | refine sq ?_
   | refine rg fun KF hKF => ?_
   | refine rt ?_
   | dsimp only [cond_true, cond_false]
  exact ⟨trivial, _, rfl, rfl, Ext0.ext⟩
 ·skip
  repeat first
   | refine oy ?_
   | refine mI ?_
   | refine mB ?_
   | refine b0 ?_
   | refine tB ?_
   | (refine Fo.pcall (v' := ?_) hn rfl (by simp only [↓nrmL, nrmZ, Nat.reduceEqDiff, ↓reduceIte, Nat.reduceAdd, Int.reduceBEq, Int.reduceBNe, h1, h2, List.map]; rfl) rfl ?hv fun _ _ => ?_; case hv => (simp only [h1, h2]; rfl))
   | refine nl hKF ?_
   | refine sq ?_
   | refine rg fun KF hKF => ?_
   | refine rt ?_
   | dsimp only [cond_true, cond_false]
  exact ⟨trivial, _, rfl, rfl, Ext0.ext⟩⟩
end Go.Am
namespace Go.Am
open Go
attribute [local irreducible] Wp WpO WpX WpE
structure Img where
 w : Int
 h : Int
 px : List UInt8
 deriving DecidableEq
def Img.zero : Img := ⟨0, 0, []⟩
def sizedB (a b k : Int) : Bool := sideB a && sideB b && (k == IntKind.i64.wrap (a * b))
def Img.sized (g : Img) : Bool := sizedB g.w g.h g.px.length
def sizeErr (b : Bool) : Int := bif b then 0 else 2
instance K_CheckGrey {a b : Int} {p : AVal} {H : AHeap} {sz k : Nat} {cs : List AVal} [hp : SliceAt H p sz k cs] : PureCon ext prog 22 [.agg [.int .i64 a, .int .i64 b, p]] H 3 (.int .i64 (sizeErr (sizedB a b k))) := ⟨by
 refine con_of (show prog 22 = some c22 from rfl) rfl rfl fun n hn => ?_
 unfold sizedB
 cases h1 : (sideB a && sideB b && ((k : Int) == IntKind.i64.wrap (a * b)))
 ·skip
  repeat first
   | refine mI ?_
   | refine fd ?_
   | refine Fo.ld rfl rfl ?_
   | (refine Fo.pcall (v' := ?_) hn rfl (by simp only [↓nrmL, nrmZ, Nat.reduceEqDiff, ↓reduceIte, Nat.reduceAdd, Int.reduceBEq, Int.reduceBNe, h1, List.map]; rfl) rfl ?hv fun _ _ => ?_; case hv => (simp only [h1]; rfl))
   | (refine ln (by simp only [↓nrmL, nrmK, Nat.reduceEqDiff, ↓reduceIte]; rfl) ?_)
   | refine bA ?_
   | (refine Fo.now rfl rfl (by simp only [↓nrmL, nrmZ, Nat.reduceEqDiff, ↓reduceIte, Nat.reduceAdd, Int.reduceBEq, Int.reduceBNe, h1]; rfl) ?_)
   | refine nl hKF ?_
   | refine sq ?_
   | refine rg fun KF hKF => ?_
   | refine ct rfl ?_
   | refine rt ?_
   | dsimp only [cond_true, cond_false]
  exact ⟨trivial, _, rfl, rfl, Ext0.ext⟩
 ·skip
  repeat first
   | refine mI ?_
   | refine fd ?_
   | refine Fo.ld rfl rfl ?_
   | (refine Fo.pcall (v' := ?_) hn rfl (by simp only [↓nrmL, nrmZ, Nat.reduceEqDiff, ↓reduceIte, Nat.reduceAdd, Int.reduceBEq, Int.reduceBNe, h1, List.map]; rfl) rfl ?hv fun _ _ => ?_; case hv => (simp only [h1]; rfl))
   | (refine ln (by simp only [↓nrmL, nrmK, Nat.reduceEqDiff, ↓reduceIte]; rfl) ?_)
   | refine bA ?_
   | (refine Fo.now rfl rfl (by simp only [↓nrmL, nrmZ, Nat.reduceEqDiff, ↓reduceIte, Nat.reduceAdd, Int.reduceBEq, Int.reduceBNe, h1]; rfl) ?_)
   | refine nl hKF ?_
   | refine sq ?_
   | refine rg fun KF hKF => ?_
   | refine cf rfl ?_
   | refine sk ?_
   | refine rt ?_
   | dsimp only [cond_true, cond_false]
  exact ⟨trivial, _, rfl, rfl, Ext0.ext⟩⟩
def NewInk (H H' : AHeap) (v : AVal) (g : Img) : Prop := ∃ p, v = .agg [.int .i64 g.w, .int .i64 g.h, p] ∧ BytesI H' p g.px ∧ FreshS H p ∧ WrS H' p ∧ Ext H H'
theorem K_blank {w h : Nat} {H : AHeap} (hw : w ≤ 640) (hh : h ≤ 640) : Con ext prog 1 63 [.int .i64 w, .int .i64 h] H fun v H' => NewInk H H' v ⟨w, h, List.replicate (w * h) 0⟩ := by
 refine con_of (show prog 63 = some c63 from rfl) rfl rfl fun n hn => ?_
 have hm : w * h ≤ 640 * 640 := Nat.mul_le_mul hw hh
 have hc : IntKind.i64.wrap ((w : Int) * (h : Int)) = ((w * h : Nat) : Int) := by rw [← Int.natCast_mul]; exact w64 (by omega)
 repeat first
  | refine mI ?_
  | (refine bn rfl rfl rfl (by simp only [hc]; rfl) ?_)
  | refine nw ?_
  | refine nl hKF ?_
  | refine sq ?_
  | refine rg fun KF hKF => ?_
 refine WpO.do (WpX.mkB rfl rfl rfl (by omega) fun p H1 e1 hb hf hw' hx => ?_); try simp only [↓nrmL, nrmZ, Nat.reduceEqDiff, ↓reduceIte, Nat.reduceAdd, Int.reduceBEq, Int.reduceBNe, hc]
 haveI := hb.one
 refine ob (cs' := ?_) ?hc ?_; case hc => (simp only [↓nrmL, nrmZ, Nat.reduceEqDiff, ↓reduceIte, Nat.reduceAdd, Int.reduceBEq, Int.reduceBNe]; rfl)
 refine so rfl (rfl : _ = AVal.agg _) rfl rfl rfl (by simp only [↓nrmL, nrmZ, Nat.reduceEqDiff, ↓reduceIte, Nat.reduceAdd, Int.reduceBEq, Int.reduceBNe]; rfl) ?_
 refine nl hKF ?_
 refine rt ?_
 dsimp only [cond_true, cond_false]
 refine rz trivial ?_
 exact ⟨p, rfl, inferInstance, hf.weak, inferInstance, Ext0.ext⟩
end Go.Am
namespace Go.Am
open Go
attribute [local irreducible] Wp WpO WpX WpE
theorem sized_nat {w h : Int} {n : Nat} (hs : sizedB w h n = true) : ∃ a b : Nat, w = a ∧ h = b ∧ a ≤ 640 ∧ b ≤ 640 ∧ n = a * b := by
 simp only [sizedB, sideB, Bool.and_eq_true, decide_eq_true_eq, beq_iff_eq] at hs
 obtain ⟨⟨⟨h1, h2⟩, h3, h4⟩, h5⟩ := hs
 refine ⟨w.toNat, h.toNat, by omega, by omega, by omega, by omega, ?_⟩
 obtain ⟨a, rfl⟩ : ∃ a : Nat, w = a := ⟨w.toNat, by omega⟩
 obtain ⟨b, rfl⟩ : ∃ b : Nat, h = b := ⟨h.toNat, by omega⟩
 have hm : a * b ≤ 640 * 640 := Nat.mul_le_mul (by omega) (by omega)
 rw [← Int.natCast_mul, w64 (by omega)] at h5
 simp only [Int.toNat_natCast]
 omega
def fillB (f : UInt8 → UInt8) (i : Nat) (l : List UInt8) : List UInt8 := (l.take i).map f ++ List.replicate (l.length - i) 0
theorem fillB_length (f : UInt8 → UInt8) {i : Nat} {l : List UInt8} (h : i ≤ l.length) : (fillB f i l).length = l.length := by simp [fillB]; omega
theorem fillB_zero (f : UInt8 → UInt8) (l : List UInt8) : fillB f 0 l = List.replicate l.length 0 := by simp [fillB]
theorem fillB_all (f : UInt8 → UInt8) (l : List UInt8) : fillB f l.length l = l.map f := by simp [fillB]
theorem fillB_succ (f : UInt8 → UInt8) {i : Nat} {l : List UInt8} (h : i < l.length) : (fillB f i l).set i (f l[i]) = fillB f (i + 1) l := by
 apply List.ext_getElem
 ·simp [fillB]; omega
 ·intro j h1 h2
  simp only [fillB, List.getElem_set, List.getElem_append, List.length_map, List.length_take, List.getElem_map, List.getElem_take, List.getElem_replicate]
  by_cases hij : i = j
  ·subst hij
   have : i < min (i + 1) l.length := by omega
   simp [this]
  ·by_cases hj : j < i
   ·have h3 : j < min i l.length := by omega
    have h4 : j < min (i + 1) l.length := by omega
    simp [hij, h3, h4]
   ·have h3 : ¬ j < min i l.length := by omega
    have h4 : ¬ j < min (i + 1) l.length := by omega
    simp [hij, h3, h4]
theorem fillB_skip (f : UInt8 → UInt8) {i : Nat} {l : List UInt8} (h : i < l.length) (h0 : f l[i] = 0) : fillB f (i + 1) l = fillB f i l := by
 rw [← fillB_succ f h, h0]
 apply List.ext_getElem
 ·simp
 ·intro j h1 h2
  rw [List.getElem_set]
  split
  ·rename_i e; subst e; simp [fillB, List.getElem_append, h0]
  ·rfl
def thrB (level : Int) (b : UInt8) : UInt8 := if (b.toNat : Int) < level then 1 else 0
def thrSpec (g : Img) (level : Int) : Img × Int :=
 if g.sized = false then (.zero, 2) else if level < 0 ∨ level > 256 then (.zero, 1) else (⟨g.w, g.h, g.px.map (thrB level)⟩, 0)
def InkRes (H H' : AHeap) (v : AVal) (r : Img × Int) : Prop := ∃ q, v = .tuple [q, .int .i64 r.2] ∧ NewInk H H' q r.1
theorem newZero {H H' : AHeap} [x : Ext0 H H'] : NewInk H H' (.agg [.int .i64 0, .int .i64 0, .nslice]) Img.zero := ⟨.nslice, rfl, ⟨Or.inl ⟨rfl, rfl, rfl⟩⟩, ⟨fun _ _ _ _ _ e => by cases e⟩, ⟨fun _ _ _ _ _ e => by cases e⟩, x.ext⟩
theorem K_Threshold {w h level : Int} {p : AVal} {H : AHeap} {l : List UInt8} [hp : BytesI H p l] : Con ext prog 4 44 [.agg [.int .i64 w, .int .i64 h, p], .int .i64 level] H fun v H' => InkRes H H' v (thrSpec ⟨w, h, l⟩ level) := by
 refine con_of (show prog 44 = some c44 from rfl) rfl rfl fun n hn => ?_
 haveI := hp.one
 cases hs : sizedB w h l.length
 ·have e1 : thrSpec ⟨w, h, l⟩ level = (.zero, 2) := by simp [thrSpec, Img.sized, hs]
  rw [e1]
  repeat first
   | refine mI ?_
   | (refine Fo.ldN rfl rfl (by simp only [↓nrmL, nrmZ, Nat.reduceEqDiff, ↓reduceIte, Nat.reduceAdd, Int.reduceBEq, Int.reduceBNe, hs, sizeErr]; rfl) ?_)
   | refine b0 ?_
   | (refine Fo.pcall (v' := ?_) hn rfl (by simp only [↓nrmL, nrmZ, Nat.reduceEqDiff, ↓reduceIte, Nat.reduceAdd, Int.reduceBEq, Int.reduceBNe, hs, sizeErr, List.map]; rfl) rfl ?hv fun _ _ => ?_; case hv => (simp only [hs, sizeErr]; rfl))
   | refine bA ?_
   | refine nw ?_
   | refine Fo.now rfl rfl rfl ?_
   | (refine so rfl (rfl : _ = AVal.agg _) rfl rfl rfl (by simp only [↓nrmL, nrmZ, Nat.reduceEqDiff, ↓reduceIte, Nat.reduceAdd, Int.reduceBEq, Int.reduceBNe, hs, sizeErr]; rfl) ?_)
   | refine nl hKF ?_
   | refine sq ?_
   | refine rg fun KF hKF => ?_
   | refine ct rfl ?_
   | refine rt ?_
   | dsimp only [cond_true, cond_false]
  refine rz trivial ?_
  exact ⟨_, rfl, newZero⟩
 obtain ⟨a, b, rfl, rfl, ha, hb, hl⟩ := sized_nat hs
 by_cases h1 : level < 0
 ·have e1 : thrSpec ⟨a, b, l⟩ level = (.zero, 1) := by simp [thrSpec, Img.sized, hs, h1]
  rw [e1]
  have h1 := decide_eq_true h1
  repeat first
   | refine ox ?_
   | refine mI ?_
   | refine mB ?_
   | (refine Fo.ldN rfl rfl (by simp only [↓nrmL, nrmZ, Nat.reduceEqDiff, ↓reduceIte, Nat.reduceAdd, Int.reduceBEq, Int.reduceBNe, hs, sizeErr, h1]; rfl) ?_)
   | (refine bn rfl rfl rfl (by simp only [hs, sizeErr, h1]; rfl) ?_)
   | refine b0 ?_
   | refine tB ?_
   | (refine Fo.pcall (v' := ?_) hn rfl (by simp only [↓nrmL, nrmZ, Nat.reduceEqDiff, ↓reduceIte, Nat.reduceAdd, Int.reduceBEq, Int.reduceBNe, hs, sizeErr, h1, List.map]; rfl) rfl ?hv fun _ _ => ?_; case hv => (simp only [hs, sizeErr, h1]; rfl))
   | refine bA ?_
   | refine nw ?_
   | refine Fo.now rfl rfl rfl ?_
   | (refine so rfl (rfl : _ = AVal.agg _) rfl rfl rfl (by simp only [↓nrmL, nrmZ, Nat.reduceEqDiff, ↓reduceIte, Nat.reduceAdd, Int.reduceBEq, Int.reduceBNe, hs, sizeErr, h1]; rfl) ?_)
   | refine nl hKF ?_
   | refine sq ?_
   | refine rg fun KF hKF => ?_
   | refine ct rfl ?_
   | refine cf rfl ?_
   | refine sk ?_
   | refine rt ?_
   | dsimp only [cond_true, cond_false]
  refine rz trivial ?_
  exact ⟨_, rfl, newZero⟩
 by_cases h2 : level > 256
 ·have e1 : thrSpec ⟨a, b, l⟩ level = (.zero, 1) := by simp [thrSpec, Img.sized, hs, h2]
  rw [e1]
  have h1 := decide_eq_false h1
  have h2 := decide_eq_true h2
  repeat first
   | refine oy ?_
   | refine mI ?_
   | refine mB ?_
   | (refine Fo.ldN rfl rfl (by simp only [↓nrmL, nrmZ, Nat.reduceEqDiff, ↓reduceIte, Nat.reduceAdd, Int.reduceBEq, Int.reduceBNe, hs, sizeErr, h1, h2]; rfl) ?_)
   | (refine bn rfl rfl rfl (by simp only [hs, sizeErr, h1, h2]; rfl) ?_)
   | refine b0 ?_
   | refine fB ?_
   | (refine Fo.pcall (v' := ?_) hn rfl (by simp only [↓nrmL, nrmZ, Nat.reduceEqDiff, ↓reduceIte, Nat.reduceAdd, Int.reduceBEq, Int.reduceBNe, hs, sizeErr, h1, h2, List.map]; rfl) rfl ?hv fun _ _ => ?_; case hv => (simp only [hs, sizeErr, h1, h2]; rfl))
   | refine bA ?_
   | refine nw ?_
   | refine Fo.now rfl rfl rfl ?_
   | (refine so rfl (rfl : _ = AVal.agg _) rfl rfl rfl (by simp only [↓nrmL, nrmZ, Nat.reduceEqDiff, ↓reduceIte, Nat.reduceAdd, Int.reduceBEq, Int.reduceBNe, hs, sizeErr, h1, h2]; rfl) ?_)
   | refine nl hKF ?_
   | refine sq ?_
   | refine rg fun KF hKF => ?_
   | refine ct rfl ?_
   | refine cf rfl ?_
   | refine sk ?_
   | refine rt ?_
   | dsimp only [cond_true, cond_false]
  refine rz trivial ?_
  exact ⟨_, rfl, newZero⟩
 have e1 : thrSpec ⟨a, b, l⟩ level = (⟨a, b, l.map (thrB level)⟩, 0) := by simp [thrSpec, Img.sized, hs, h1, h2]
 rw [e1]
 have h1 := decide_eq_false h1
 have h2 := decide_eq_false h2
 repeat first
  | refine oy ?_
  | refine mI ?_
  | refine mB ?_
  | refine fd ?_
  | refine Fo.ld rfl rfl ?_
  | (refine Fo.ldN rfl rfl (by simp only [↓nrmL, nrmZ, Nat.reduceEqDiff, ↓reduceIte, Nat.reduceAdd, Int.reduceBEq, Int.reduceBNe, hs, sizeErr, h1, h2]; rfl) ?_)
  | (refine bn rfl rfl rfl (by simp only [hs, sizeErr, h1, h2]; rfl) ?_)
  | refine b0 ?_
  | refine fB ?_
  | (refine Fo.pcall (v' := ?_) hn rfl (by simp only [↓nrmL, nrmZ, Nat.reduceEqDiff, ↓reduceIte, Nat.reduceAdd, Int.reduceBEq, Int.reduceBNe, hs, sizeErr, h1, h2, List.map]; rfl) rfl ?hv fun _ _ => ?_; case hv => (simp only [hs, sizeErr, h1, h2]; rfl))
  | refine bA ?_
  | refine nw ?_
  | refine nl hKF ?_
  | refine sq ?_
  | refine rg fun KF hKF => ?_
  | refine cf rfl ?_
  | refine sk ?_
  | dsimp only [cond_true, cond_false]
 refine WpO.do (WpX.conD hn rfl rfl (by simp only [↓nrmL, nrmZ, Nat.reduceEqDiff, ↓reduceIte, Nat.reduceAdd, Int.reduceBEq, Int.reduceBNe, List.map] <;> rfl) (K_blank (w := a) (h := b) (by omega) (by omega)) fun v H1 ⟨q, e2, hq, hf, hw, hx⟩ => ?_)
 subst e2
 haveI : ExtI _ H1 := ⟨hx⟩
 haveI := hq.one
 have hq : BytesI H1 q (List.replicate (a * b) 0) := hq
 have hm : a * b ≤ 640 * 640 := Nat.mul_le_mul ha hb
 refine nw ?_
 refine so rfl (rfl : _ = AVal.agg _) rfl rfl rfl (by simp only [↓nrmL, nrmZ, Nat.reduceEqDiff, ↓reduceIte, Nat.reduceAdd, Int.reduceBEq, Int.reduceBNe]; rfl) ?_
 refine nl hKF ?_
 refine sq ?_
 refine sq ?_
 refine rg fun KF hKF => ?_
 refine fd ?_
 refine Fo.ld rfl rfl ?_
 refine ln (by simp only [↓nrmL, nrmK, Nat.reduceEqDiff, ↓reduceIte]; rfl) ?_
 refine mI ?_
 refine nl hKF ?_
 refine Wp.block ?_
 dsimp only [cond_true, cond_false]
 refine Wp.loopS [8, 9, 31, 32, 33, 34, 35, 36, 37, 38, 39, 40, 41, 42, 43, 44] (fun i : Nat => [(31, .int .i64 i)]) (fun H3 i H2 => i ≤ l.length ∧ BytesI H2 q (fillB (thrB level) i l) ∧ WrS H2 q ∧ ExtP0 H3 H2 q) (fun i => l.length - i) 0 rfl (fun _ => rfl) ⟨rfl, trivial⟩ ⟨Nat.zero_le _, by rw [fillB_zero, hl]; infer_instance, inferInstance, inferInstance⟩ (by unfold fuel0 at hn; omega) ?_
 rintro i g H2 ⟨hi, hb2, hw2, ⟨hx2⟩⟩
 simp only [↓nrmL, nrmZ, Nat.reduceEqDiff, ↓reduceIte, Nat.reduceAdd, Int.reduceBEq, Int.reduceBNe]
 cases hc : decide ((i : Int) < (l.length : Int))
 ·have hil : i = l.length := by have := of_decide_eq_false hc; omega
  subst hil
  rw [fillB_all] at hb2
  repeat first
   | refine mI ?_
   | (refine Fo.ldN rfl rfl (by simp only [↓nrmL, nrmZ, Nat.reduceEqDiff, ↓reduceIte, Nat.reduceAdd, Int.reduceBEq, Int.reduceBNe, hc]; rfl) ?_)
   | (refine bn rfl rfl rfl (by simp only [hc]; rfl) ?_)
   | (refine so rfl (rfl : _ = AVal.agg _) rfl rfl rfl (by simp only [↓nrmL, nrmZ, Nat.reduceEqDiff, ↓reduceIte, Nat.reduceAdd, Int.reduceBEq, Int.reduceBNe, hc]; rfl) ?_)
   | refine nl hKF ?_
   | refine sq ?_
   | refine rg fun KF hKF => ?_
   | refine cf rfl ?_
   | refine rt ?_
   | refine xi ?_
   | dsimp only [cond_true, cond_false]
  refine rz trivial ?_
  exact ⟨_, rfl, q, rfl, inferInstance, hf.weak, inferInstance, Ext0.ext⟩
 ·have hil : i < l.length := by have := of_decide_eq_true hc; omega
  have hfl := fillB_length (thrB level) hi
  have hcv : IntKind.i64.wrap ((l[i].toNat : Nat) : Int) = (l[i].toNat : Nat) := w64 (by have := l[i].toNat_lt; omega)
  have hw1 : IntKind.i64.wrap ((i : Int) + 1) = ((i + 1 : Nat) : Int) := by rw [w64 (by omega)]; omega
  cases ht : decide (((l[i].toNat : Nat) : Int) < level)
  ·skip
   repeat first
    | refine mI ?_
    | (refine bn rfl rfl rfl (by simp only [hc, hcv, ht]; rfl) ?_)
    | refine b0 ?_
    | (refine Fo.idx (by simp only [↓nrmL, nrmK, Nat.reduceEqDiff, ↓reduceIte]; rfl) rfl ?_ (by simp only [↓nrmL, nrmZ, Nat.reduceEqDiff, ↓reduceIte, Nat.reduceAdd, Int.reduceBEq, Int.reduceBNe, hc, hcv, ht]; rfl) ?_; (focus omega))
    | (refine Fo.ldB rfl ?_ rfl ?_; (focus omega))
    | (refine Fo.now rfl rfl (by simp only [hc, hcv, ht]; rfl) ?_)
    | refine nl hKF ?_
    | refine sq ?_
    | refine rg fun KF hKF => ?_
    | refine ct rfl ?_
    | refine cf rfl ?_
    | refine sk ?_
    | refine Wp.block ?_
    | dsimp only [cond_true, cond_false]
   have h0 : thrB level l[i] = 0 := if_neg (of_decide_eq_false ht)
   refine ⟨i + 1, by omega, ⟨by simp only [↓nrmL, nrmZ, Nat.reduceEqDiff, ↓reduceIte, Nat.reduceAdd, Int.reduceBEq, Int.reduceBNe]; rw [hw1], trivial⟩, hil, by rw [fillB_skip _ hil h0]; infer_instance, inferInstance, inferInstance⟩
  ·skip
   repeat first
    | refine mI ?_
    | refine fd ?_
    | refine Fo.ld rfl rfl ?_
    | (refine bn rfl rfl rfl (by simp only [hc, hcv, ht]; rfl) ?_)
    | (refine Fo.idx (by simp only [↓nrmL, nrmK, Nat.reduceEqDiff, ↓reduceIte]; rfl) rfl ?_ (by simp only [↓nrmL, nrmZ, Nat.reduceEqDiff, ↓reduceIte, Nat.reduceAdd, Int.reduceBEq, Int.reduceBNe, hc, hcv, ht]; rfl) ?_; (focus omega))
    | (refine Fo.ldB rfl ?_ rfl ?_; (focus omega))
    | (refine Fo.now rfl rfl (by simp only [hc, hcv, ht]; rfl) ?_)
    | refine nl hKF ?_
    | refine sq ?_
    | refine rg fun KF hKF => ?_
    | refine ct rfl ?_
    | refine sk ?_
    | refine Wp.block ?_
   refine WpO.do' (WpX.stB 1 rfl rfl rfl (by rw [fillB_length (thrB level) hi]; exact hil) fun H4 hb4 hw4 hx4 => ?_)
   simp only [↓nrmL, nrmZ, Nat.reduceEqDiff, ↓reduceIte, Nat.reduceAdd, Int.reduceBEq, Int.reduceBNe, hc, hcv, ht]
   refine nl hKF ?_
   refine rg fun KF hKF => ?_
   refine b0 ?_
   refine mI ?_
   refine nl hKF ?_
   dsimp only [cond_true, cond_false]
   have h0 : thrB level l[i] = 1 := if_pos (of_decide_eq_true ht)
   refine ⟨i + 1, by omega, ⟨by simp only [↓nrmL, nrmZ, Nat.reduceEqDiff, ↓reduceIte, Nat.reduceAdd, Int.reduceBEq, Int.reduceBNe]; rw [hw1], trivial⟩, hil, by rw [← fillB_succ _ hil, h0]; infer_instance, inferInstance, inferInstance⟩
end Go.Am
namespace Go.Am
open Go
attribute [local irreducible] Wp WpO WpX WpE
def NewBytes (H H' : AHeap) (v : AVal) (l : List UInt8) : Prop := BytesI H' v l ∧ FreshS H v ∧ WrS H' v ∧ Ext H H'
theorem K_CopyBytes {H : AHeap} {p : AVal} {l : List UInt8} [hp : BytesI H p l] (hl : l.length < 2 ^ 40) : Con ext prog 1 21 [p] H fun v H' => NewBytes H H' v l := by
 refine con_of (show prog 21 = some c21 from rfl) rfl rfl fun n hn => ?_
 repeat first
  | refine mN ?_
  | (refine mv ?_)
  | refine nl hKF ?_
  | refine sq ?_
  | refine rg fun KF hKF => ?_
 refine WpO.do (WpX.appendNil rfl (by simp only [↓nrmL, nrmZ, Nat.reduceEqDiff, ↓reduceIte, Nat.reduceAdd, Int.reduceBEq, Int.reduceBNe, List.map] <;> rfl) hl fun v H1 h1 h2 h3 h4 => ?_)
 refine mv ?_
 refine nl hKF ?_
 refine rt ?_
 dsimp only [cond_true, cond_false]
 refine rz trivial ?_
 exact ⟨h1, h2, h3, Ext0.ext⟩
end Go.Am
namespace Go.Am
open Go
attribute [local irreducible] Wp WpO WpX WpE
theorem wm {a b : Nat} (h : a * b < 9223372036854775808) : IntKind.i64.wrap ((a : Int) * (b : Int)) = ((a * b : Nat) : Int) := by rw [← Int.natCast_mul]; exact w64 (by omega)
theorem wa {a b : Nat} (h : a + b < 9223372036854775808) : IntKind.i64.wrap ((a : Int) + (b : Int)) = ((a + b : Nat) : Int) := by rw [← Int.natCast_add]; exact w64 (by omega)
theorem wa1 {a : Nat} (h : a < 9223372036854775807) : IntKind.i64.wrap ((a : Int) + 1) = ((a + 1 : Nat) : Int) := by rw [w64 (by omega)]; omega
theorem wu8 (b : UInt8) : IntKind.i64.wrap ((b.toNat : Nat) : Int) = (b.toNat : Nat) := w64 (by have := b.toNat_lt; omega)
theorem idx_lt {x y w h : Nat} (hx : x < w) (hy : y < h) : y * w + x < w * h := by
 have : (y + 1) * w ≤ h * w := Nat.mul_le_mul_right _ hy
 rw [Nat.mul_comm w h]
 rw [Nat.add_mul] at this
 omega
def filled (f : Nat → UInt8) (k n : Nat) : List UInt8 := (List.range n).map fun i => if i < k then f i else 0
theorem filled_length (f : Nat → UInt8) (k n : Nat) : (filled f k n).length = n := by simp [filled]
theorem filled_zero (f : Nat → UInt8) (n : Nat) : filled f 0 n = List.replicate n 0 := by
 apply List.ext_getElem <;> simp [filled]
theorem filled_all (f : Nat → UInt8) (n : Nat) : filled f n n = (List.range n).map f := by
 apply List.ext_getElem
 ·simp [filled]
 ·intro i h1 h2
  simp [filled] at h1 ⊢
  intro h; omega
theorem filled_succ (f : Nat → UInt8) {k n : Nat} : (filled f k n).set k (f k) = filled f (k + 1) n := by
 apply List.ext_getElem
 ·simp [filled]
 ·intro i h1 h2
  simp only [filled, List.getElem_set, List.getElem_map, List.getElem_range]
  by_cases hik : k = i
  ·subst hik; simp
  ·have : i < k + 1 ↔ i < k := by omega
   simp [hik, this]
end Go.Am
namespace Go.Am
open Go
attribute [local irreducible] Wp WpO WpX WpE
theorem thrSpec_ok {w h : Int} {l : List UInt8} {level : Int} (hs : sizedB w h l.length = true) (h1 : ¬ level < 0) (h2 : ¬ level > 256) : thrSpec ⟨w, h, l⟩ level = (⟨w, h, l.map (thrB level)⟩, 0) := by simp [thrSpec, Img.sized, hs, h1, h2]
end Go.Am
namespace Go.Am
open Go
attribute [local irreducible] Wp WpO WpX WpE
def lvStep (acc : List Int) (b : UInt8) : List Int := acc.set b.toNat (acc.getD b.toNat 0 + 1)
def lv (l : List UInt8) : List Int := l.foldl lvStep (List.replicate 256 0)
theorem lv_take_succ {l : List UInt8} {i : Nat} (h : i < l.length) : lv (l.take (i + 1)) = lvStep (lv (l.take i)) l[i] := by
 unfold lv
 rw [List.take_succ_eq_append_getElem h, List.foldl_append]
 rfl
theorem lv_length (l : List UInt8) : (lv l).length = 256 := by
 have key : ∀ (l : List UInt8) (a : List Int), (l.foldl lvStep a).length = a.length := by
  intro l
  induction l with
  | nil => intro a; rfl
  | cons b l ih => intro a; rw [List.foldl_cons, ih]; simp [lvStep]
 rw [lv, key]; simp
theorem lv_bound (l : List UInt8) (k : Nat) : 0 ≤ (lv l).getD k 0 ∧ (lv l).getD k 0 ≤ l.length := by
 have key : ∀ (l : List UInt8) (a : List Int) (m : Int), (∀ k, 0 ≤ a.getD k 0 ∧ a.getD k 0 ≤ m) → ∀ k, 0 ≤ (l.foldl lvStep a).getD k 0 ∧ (l.foldl lvStep a).getD k 0 ≤ m + l.length := by
  intro l
  induction l with
  | nil => intro a m h k; simpa using h k
  | cons b l ih =>
   intro a m h k
   have := ih (lvStep a b) (m + 1) (fun k => by
    have h1 := h k
    have h2 := h b.toNat
    simp only [lvStep, List.getD_eq_getElem?_getD, List.getElem?_set] at h1 h2 ⊢
    split
    ·split
     ·simp; omega
     ·simp; omega
    ·omega) k
   rw [List.foldl_cons]
   simp only [List.length_cons]
   omega
 have := key l (List.replicate 256 0) 0 (fun k => by simp only [List.getD_eq_getElem?_getD, List.getElem?_replicate]; split <;> simp) k
 simpa [lv] using this
def NewInts (H H' : AHeap) (v : AVal) (l : List Int) : Prop := IntsI H' v l ∧ FreshS H v ∧ WrS H' v ∧ Ext H H'
def lvSpec (g : Img) : List Int × Int := if g.sized = false then ([], 2) else (lv g.px, 0)
theorem newNilI {H H' : AHeap} [x : Ext0 H H'] : NewInts H H' .nslice [] := ⟨⟨Or.inl ⟨rfl, rfl, rfl⟩⟩, ⟨fun _ _ _ _ _ e => by cases e⟩, ⟨fun _ _ _ _ _ e => by cases e⟩, x.ext⟩
instance intsNil {H : AHeap} : IntsI H .nslice [] := ⟨Or.inl ⟨rfl, rfl, rfl⟩⟩
instance bytesNil {H : AHeap} : BytesI H .nslice [] := ⟨Or.inl ⟨rfl, rfl, rfl⟩⟩
theorem K_Levels {w h : Int} {p : AVal} {H : AHeap} {l : List UInt8} [hp : BytesI H p l] : Con ext prog 4 36 [.agg [.int .i64 w, .int .i64 h, p]] H fun v H' => ∃ q, v = .tuple [q, .int .i64 (lvSpec ⟨w, h, l⟩).2] ∧ NewInts H H' q (lvSpec ⟨w, h, l⟩).1 := by
 refine con_of (show prog 36 = some c36 from rfl) rfl rfl fun n hn => ?_
 haveI := hp.one
 cases hs : sizedB w h l.length
 ·have e1 : lvSpec ⟨w, h, l⟩ = ([], 2) := by simp [lvSpec, Img.sized, hs]
  rw [e1]
  simp only [hs, sizeErr]
  repeat first
   | refine mI ?_
   | refine mN ?_
   | (refine Fo.ldN rfl rfl (by simp only [↓nrmL, nrmZ, Nat.reduceEqDiff, ↓reduceIte, Nat.reduceAdd, Int.reduceBEq, Int.reduceBNe, hs, sizeErr]; rfl) ?_)
   | refine b0 ?_
   | (refine Fo.pcall (v' := ?_) hn rfl (by simp only [↓nrmL, nrmZ, Nat.reduceEqDiff, ↓reduceIte, Nat.reduceAdd, Int.reduceBEq, Int.reduceBNe, hs, sizeErr, List.map]; rfl) rfl ?hv fun _ _ => ?_; case hv => (simp only [hs, sizeErr]; rfl))
   | refine bA ?_
   | refine nl hKF ?_
   | refine sq ?_
   | refine rg fun KF hKF => ?_
   | refine ct rfl ?_
   | refine rt ?_
   | dsimp only [cond_true, cond_false]
  refine rz trivial ?_
  exact ⟨_, rfl, newNilI⟩
 have e1 : lvSpec ⟨w, h, l⟩ = (lv l, 0) := by simp [lvSpec, Img.sized, hs]
 rw [e1]
 obtain ⟨a, b, rfl, rfl, ha, hb, hl⟩ := sized_nat hs
 have hm : a * b ≤ 640 * 640 := Nat.mul_le_mul ha hb
 simp only [hs, sizeErr]
 repeat first
  | refine mI ?_
  | refine mN ?_
  | (refine Fo.ldN rfl rfl (by simp only [↓nrmL, nrmZ, Nat.reduceEqDiff, ↓reduceIte, Nat.reduceAdd, Int.reduceBEq, Int.reduceBNe, hs, sizeErr]; rfl) ?_)
  | refine b0 ?_
  | (refine Fo.pcall (v' := ?_) hn rfl (by simp only [↓nrmL, nrmZ, Nat.reduceEqDiff, ↓reduceIte, Nat.reduceAdd, Int.reduceBEq, Int.reduceBNe, hs, sizeErr, List.map]; rfl) rfl ?hv fun _ _ => ?_; case hv => (simp only [hs, sizeErr]; rfl))
  | refine bA ?_
  | refine nl hKF ?_
  | refine sq ?_
  | refine rg fun KF hKF => ?_
  | refine cf rfl ?_
  | refine sk ?_
  | dsimp only [cond_true, cond_false]
 refine WpO.do (WpX.mkI (n := 256) rfl rfl rfl (by omega) fun q H1 e1 hq hf hw hx => ?_); try simp only [↓nrmL, nrmZ, Nat.reduceEqDiff, ↓reduceIte, Nat.reduceAdd, Int.reduceBEq, Int.reduceBNe]
 haveI := hq.one
 refine mv ?_
 refine nl hKF ?_
 refine sq ?_
 refine sq ?_
 refine rg fun KF hKF => ?_
 refine fd ?_
 refine Fo.ld rfl rfl ?_
 refine ln (by simp only [↓nrmL, nrmK, Nat.reduceEqDiff, ↓reduceIte]; rfl) ?_
 refine mI ?_
 refine nl hKF ?_
 refine Wp.block ?_
 dsimp only [cond_true, cond_false]
 refine Wp.loopS [7, 17, 18, 19, 20, 21, 22, 23, 24, 25, 26, 27] (fun i : Nat => [(17, .int .i64 i)]) (fun H3 i H2 => i ≤ l.length ∧ IntsI H2 q (lv (l.take i)) ∧ WrS H2 q ∧ ExtP0 H3 H2 q) (fun i => l.length - i) 0 rfl (fun _ => rfl) ⟨rfl, trivial⟩ ⟨Nat.zero_le _, by rw [List.take_zero]; exact hq, inferInstance, inferInstance⟩ (by unfold fuel0 at hn; omega) ?_
 rintro i g H2 ⟨hi, hb2, hw2, ⟨hx2⟩⟩
 simp only [↓nrmL, nrmZ, Nat.reduceEqDiff, ↓reduceIte, Nat.reduceAdd, Int.reduceBEq, Int.reduceBNe]
 cases hc : decide ((i : Int) < (l.length : Int))
 ·have hil : i = l.length := by have := of_decide_eq_false hc; omega
  subst hil
  rw [List.take_length] at hb2
  repeat first
   | refine mI ?_
   | (refine mv ?_)
   | (refine bn rfl rfl rfl (by simp only [hc]; rfl) ?_)
   | refine nl hKF ?_
   | refine sq ?_
   | refine rg fun KF hKF => ?_
   | refine cf rfl ?_
   | refine rt ?_
   | refine xi ?_
   | dsimp only [cond_true, cond_false]
  refine rz trivial ?_
  exact ⟨q, rfl, inferInstance, hf.weak, inferInstance, Ext0.ext⟩
 ·have hil : i < l.length := by have := of_decide_eq_true hc; omega
  have hfl := lv_length (l.take i)
  have hlt : l[i].toNat < 256 := l[i].toNat_lt
  have hw1 := wa1 (a := i) (by omega)
  have hb := lv_bound (l.take i) l[i].toNat
  have hgd : (lv (l.take i)).getD l[i].toNat 0 = (lv (l.take i))[l[i].toNat] := by simp [hfl, hlt]
  rw [hgd, List.length_take, Nat.min_eq_left hi] at hb
  have hw2 : IntKind.i64.wrap ((lv (l.take i))[l[i].toNat] + 1) = (lv (l.take i))[l[i].toNat] + 1 := w64 (by omega)
  repeat first
   | refine mI ?_
   | (refine mv ?_)
   | (refine bn rfl rfl rfl (by simp only [hc, hw2]; rfl) ?_)
   | (refine Fo.idx (by simp only [↓nrmL, nrmK, Nat.reduceEqDiff, ↓reduceIte]; rfl) rfl ?_ (by simp only [↓nrmL, nrmZ, Nat.reduceEqDiff, ↓reduceIte, Nat.reduceAdd, Int.reduceBEq, Int.reduceBNe, hc, hw2]; rfl) ?_; (focus omega))
   | (refine Fo.ldB rfl ?_ rfl ?_; (focus omega))
   | (refine Fo.ldI rfl ?_ rfl ?_; (focus omega))
   | refine nl hKF ?_
   | refine sq ?_
   | refine rg fun KF hKF => ?_
   | refine ct rfl ?_
   | refine sk ?_
   | refine Wp.block ?_
  refine WpO.do' (WpX.stI rfl rfl (by omega) fun H4 hb4 hw4 hx4 => ?_)
  refine nl hKF ?_
  refine rg fun KF hKF => ?_
  refine b0 ?_
  refine mI ?_
  refine nl hKF ?_
  dsimp only [cond_true, cond_false]
  refine ⟨i + 1, by omega, ⟨by simp only [↓nrmL, nrmZ, Nat.reduceEqDiff, ↓reduceIte, Nat.reduceAdd, Int.reduceBEq, Int.reduceBNe]; rw [hw1], trivial⟩, hil, ?_, inferInstance, inferInstance⟩
  rw [lv_take_succ hil]
  simp only [lvStep, hgd]
  exact hb4
end Go.Am
namespace Go.Am
open Go
attribute [local irreducible] Wp WpO WpX WpE
theorem eq_of_gets {α : Type} {l m : List α} (hl : l.length = m.length) (h : ∀ j, j < l.length → l[j]? = m[j]?) : l = m := by
 apply List.ext_getElem?
 intro i
 by_cases hi : i < l.length
 ·exact h i hi
 ·rw [List.getElem?_eq_none (by omega), List.getElem?_eq_none (by omega)]
class Short {α : Type} (l : List α) : Prop where
 le : l.length ≤ 999999
instance K_SameBytes {p q : AVal} {H : AHeap} {l m : List UInt8} [hp : BytesI H p l] [hq : BytesI H q m] [hs : Short l] : PureCon ext prog 29 [p, q] H 1 (.bool (decide (l = m))) := ⟨by
 refine con_of (show prog 29 = some c29 from rfl) rfl rfl fun n hn => ?_
 have hsl := hs.le
 by_cases hlm : l.length = m.length
 ·have h1 : (((l.length : Nat) : Int) != ((m.length : Nat) : Int)) = false := by simp [hlm]
  repeat first
   | refine mI ?_
   | refine mB ?_
   | (refine mv ?_)
   | (refine bn rfl rfl rfl (by simp only [h1]; rfl) ?_)
   | (refine ln (by simp only [↓nrmL, nrmK, Nat.reduceEqDiff, ↓reduceIte]; rfl) ?_)
   | refine nl hKF ?_
   | refine sq ?_
   | refine rg fun KF hKF => ?_
   | refine cf rfl ?_
   | refine sk ?_
   | refine Wp.block ?_
   | dsimp only [cond_true, cond_false]
  refine Wp.loopS [4, 5, 11, 12, 13, 14, 15, 16, 17, 18, 19, 20, 21, 22, 23, 24, 25] (fun i : Nat => [(5, .int .i64 i)]) (fun H3 i H2 => i ≤ l.length ∧ (∀ j, j < i → l[j]? = m[j]?) ∧ H2 = H3) (fun i => l.length - i) 0 rfl (fun _ => rfl) ⟨rfl, trivial⟩ ⟨Nat.zero_le _, fun j hj => by omega, rfl⟩ (by unfold fuel0 at hn; omega) ?_
  rintro i g H2 ⟨hi, heq, rfl⟩
  simp only [↓nrmL, nrmZ, Nat.reduceEqDiff, ↓reduceIte, Nat.reduceAdd, Int.reduceBEq, Int.reduceBNe]
  cases hc : decide ((i : Int) < (l.length : Int))
  ·have hil : i = l.length := by have := of_decide_eq_false hc; omega
   subst hil
   have hd : decide (l = m) = true := decide_eq_true (eq_of_gets hlm heq)
   rw [hd]
   repeat first
    | refine mI ?_
    | refine mB ?_
    | (refine mv ?_)
    | (refine bn rfl rfl rfl (by simp only [hc]; rfl) ?_)
    | (refine ln (by simp only [↓nrmL, nrmK, Nat.reduceEqDiff, ↓reduceIte]; rfl) ?_)
    | refine nl hKF ?_
    | refine sq ?_
    | refine rg fun KF hKF => ?_
    | refine cf rfl ?_
    | refine rt ?_
    | refine xi ?_
    | dsimp only [cond_true, cond_false]
   refine rz trivial ?_
   exact ⟨rfl, Ext0.ext⟩
  ·have hil : i < l.length := by have := of_decide_eq_true hc; omega
   have him : i < m.length := by omega
   have hw1 := wa1 (a := i) (by omega)
   cases hne : (((l[i].toNat : Nat) : Int) != ((m[i].toNat : Nat) : Int))
   ·skip
    repeat first
     | refine mI ?_
     | (refine mv ?_)
     | (refine bn rfl rfl rfl (by simp only [hc, hne]; rfl) ?_)
     | refine b0 ?_
     | (refine ln (by simp only [↓nrmL, nrmK, Nat.reduceEqDiff, ↓reduceIte]; rfl) ?_)
     | (refine Fo.idx (by simp only [↓nrmL, nrmK, Nat.reduceEqDiff, ↓reduceIte]; rfl) rfl ?_ (by simp only [↓nrmL, nrmZ, Nat.reduceEqDiff, ↓reduceIte, Nat.reduceAdd, Int.reduceBEq, Int.reduceBNe, hc, hne]; rfl) ?_; (focus omega))
     | (refine Fo.ldB rfl ?_ rfl ?_; (focus omega))
     | refine nl hKF ?_
     | refine sq ?_
     | refine rg fun KF hKF => ?_
     | refine Fr.quiet rfl rfl fun KF hKF => ?_
     | refine ct rfl ?_
     | refine cf rfl ?_
     | refine sk ?_
     | refine Wp.block ?_
     | dsimp only [cond_true, cond_false]
    refine ⟨i + 1, by omega, ⟨by simp only [↓nrmL, nrmZ, Nat.reduceEqDiff, ↓reduceIte, Nat.reduceAdd, Int.reduceBEq, Int.reduceBNe]; rw [hw1], trivial⟩, hil, fun j hj => ?_, rfl⟩
    by_cases hj2 : j < i
    ·exact heq j hj2
    ·have : j = i := by omega
     subst this
     have h2 : l[j].toNat = m[j].toNat := by simp at hne; omega
     have : l[j] = m[j] := UInt8.toNat_inj.1 h2
     simp [hil, him, this]
   ·have hd : decide (l = m) = false := decide_eq_false (fun e => by subst e; simp at hne)
    rw [hd]
    repeat first
     | refine mI ?_
     | refine mB ?_
     | (refine mv ?_)
     | (refine bn rfl rfl rfl (by simp only [hc, hne]; rfl) ?_)
     | (refine ln (by simp only [↓nrmL, nrmK, Nat.reduceEqDiff, ↓reduceIte]; rfl) ?_)
     | (refine Fo.idx (by simp only [↓nrmL, nrmK, Nat.reduceEqDiff, ↓reduceIte]; rfl) rfl ?_ (by simp only [↓nrmL, nrmZ, Nat.reduceEqDiff, ↓reduceIte, Nat.reduceAdd, Int.reduceBEq, Int.reduceBNe, hc, hne]; rfl) ?_; (focus omega))
     | (refine Fo.ldB rfl ?_ rfl ?_; (focus omega))
     | refine nl hKF ?_
     | refine sq ?_
     | refine rg fun KF hKF => ?_
     | refine Fr.quiet rfl rfl fun KF hKF => ?_
     | refine ct rfl ?_
     | refine sk ?_
     | refine rt ?_
     | refine Wp.block ?_
     | dsimp only [cond_true, cond_false]
    refine rz trivial ?_
    exact ⟨rfl, Ext0.ext⟩
 ·have h1 : (((l.length : Nat) : Int) != ((m.length : Nat) : Int)) = true := by simp; omega
  have hd : decide (l = m) = false := decide_eq_false (fun e => by subst e; exact hlm rfl)
  rw [hd]
  repeat first
   | refine mB ?_
   | (refine mv ?_)
   | (refine bn rfl rfl rfl (by simp only [h1]; rfl) ?_)
   | (refine ln (by simp only [↓nrmL, nrmK, Nat.reduceEqDiff, ↓reduceIte]; rfl) ?_)
   | refine nl hKF ?_
   | refine sq ?_
   | refine rg fun KF hKF => ?_
   | refine ct rfl ?_
   | refine rt ?_
   | dsimp only [cond_true, cond_false]
  refine rz trivial ?_
  exact ⟨rfl, Ext0.ext⟩⟩
instance K_SameInk {p q : AVal} {H : AHeap} {w h w' h' : Int} {l m : List UInt8} [hp : BytesI H p l] [hq : BytesI H q m] [hs : Short l] : PureCon ext prog 11 [.agg [.int .i64 w, .int .i64 h, p], .agg [.int .i64 w', .int .i64 h', q]] H 2 (.bool (decide ((⟨w, h, l⟩ : Img) = ⟨w', h', m⟩))) := ⟨by
 refine con_of (show prog 11 = some c11 from rfl) rfl rfl fun n hn => ?_
 haveI := hp.one
 haveI := hq.one
 have e : decide ((⟨w, h, l⟩ : Img) = ⟨w', h', m⟩) = ((w == w') && (h == h') && decide (l = m)) := by
  by_cases h1 : w = w' <;> by_cases h2 : h = h' <;> by_cases h3 : l = m <;> simp [h1, h2, h3]
 rw [e]
 cases h1 : (w == w')
 ·skip
  repeat first
   | refine ox ?_
   | refine mB ?_
   | refine fd ?_
   | refine Fo.ld rfl rfl ?_
   | (refine bn rfl rfl rfl (by simp only [h1]; rfl) ?_)
   | refine fB ?_
   | refine bA ?_
   | refine nl hKF ?_
   | refine sq ?_
   | refine rg fun KF hKF => ?_
   | refine rt ?_
   | dsimp only [cond_true, cond_false]
  refine rz trivial ?_
  exact ⟨rfl, Ext0.ext⟩
 cases h2 : (h == h')
 ·skip
  repeat first
   | refine oy ?_
   | refine ox ?_
   | refine mB ?_
   | refine fd ?_
   | refine Fo.ld rfl rfl ?_
   | (refine bn rfl rfl rfl (by simp only [h1, h2]; rfl) ?_)
   | refine tB ?_
   | refine fB ?_
   | refine bA ?_
   | refine nl hKF ?_
   | refine sq ?_
   | refine rg fun KF hKF => ?_
   | refine rt ?_
   | dsimp only [cond_true, cond_false]
  refine rz trivial ?_
  exact ⟨rfl, Ext0.ext⟩
 ·skip
  repeat first
   | refine oy ?_
   | refine mB ?_
   | refine fd ?_
   | refine Fo.ld rfl rfl ?_
   | (refine bn rfl rfl rfl (by simp only [h1, h2]; rfl) ?_)
   | refine tB ?_
   | (refine Fo.pcall (v' := ?_) hn rfl (by simp only [↓nrmL, nrmZ, Nat.reduceEqDiff, ↓reduceIte, Nat.reduceAdd, Int.reduceBEq, Int.reduceBNe, h1, h2, List.map]; rfl) rfl ?hv fun _ _ => ?_; case hv => rfl)
   | refine bA ?_
   | refine nl hKF ?_
   | refine sq ?_
   | refine rg fun KF hKF => ?_
   | refine rt ?_
   | dsimp only [cond_true, cond_false]
  refine rz trivial ?_
  exact ⟨rfl, Ext0.ext⟩⟩
end Go.Am
namespace Go.Am
open Go
attribute [local irreducible] Wp WpO WpX WpE
instance K_bCount {p : AVal} {H : AHeap} {l : List UInt8} {k : Int} {b : UInt8} [hp : BytesI H p l] [hb : IsU8 k b] : PureCon ext prog 72 [p, .int .u8 k] H 0 (.int .i64 (l.count b : Nat)) := ⟨fun n hn => by
 obtain ⟨m, rfl⟩ : ∃ m, n = m + 1 := ⟨n - 1, by unfold fuel0 at hn; omega⟩
 have e1 : prog 72 = some ⟨0, .ext 0, []⟩ := rfl
 refine ⟨_, H, ?_, rfl, Ext.refl H⟩
 rw [call_ext e1]
 have hb' := hb.eq
 subst hb'
 show aBytesFn (fun l => .int .i64 (Lib.countByte l (UInt8.ofNat ((b.toNat : Int)).toNat))) p H = _
 rw [aBytesFn_at]
 simp [Lib.countByte]⟩
instance K_bytesCount {p q : AVal} {H : AHeap} {l : List UInt8} {b : UInt8} [hp : BytesI H p l] [hq : BytesI H q [b]] : PureCon ext prog 64 [p, q] H 1 (.int .i64 (l.count b : Nat)) := ⟨by
 refine con_of (show prog 64 = some c64 from rfl) rfl rfl fun n hn => ?_
 have e0 : [b].length = 1 := rfl
 repeat first
  | refine mI ?_
  | (refine mv ?_)
  | refine b0 ?_
  | (refine Fo.pcall (v' := ?_) hn rfl (by simp only [↓nrmL, nrmZ, Nat.reduceEqDiff, ↓reduceIte, Nat.reduceAdd, Int.reduceBEq, Int.reduceBNe, e0, List.map]; rfl) rfl ?hv fun _ _ => ?_; case hv => rfl)
  | (refine Fo.len (v := ?_) (by simp only [↓nrmL, nrmK, Nat.reduceEqDiff, ↓reduceIte]; rfl) ?hv ?_; case hv => (simp only [e0]; rfl))
  | (refine Fo.idx (by simp only [↓nrmL, nrmK, Nat.reduceEqDiff, ↓reduceIte]; rfl) rfl ?_ (by simp only [↓nrmL, nrmZ, Nat.reduceEqDiff, ↓reduceIte, Nat.reduceAdd, Int.reduceBEq, Int.reduceBNe, e0]; rfl) ?_; (focus omega))
  | (refine Fo.ldB rfl ?_ rfl ?_; (focus omega))
  | refine nl hKF ?_
  | refine sq ?_
  | refine rg fun KF hKF => ?_
  | refine ct rfl ?_
  | refine cf rfl ?_
  | refine sk ?_
  | refine rt ?_
  | dsimp only [cond_true, cond_false]
 refine rz trivial ?_
 exact ⟨rfl, Ext0.ext⟩⟩
end Go.Am
namespace Go.Am
open Go
attribute [local irreducible] Wp WpO WpX WpE
instance K_count {p : AVal} {H : AHeap} {w h : Int} {l : List UInt8} [hp : BytesI H p l] : PureCon ext prog 65 [.agg [.int .i64 w, .int .i64 h, p]] H 2 (.int .i64 (l.count 1 : Nat)) := ⟨by
 refine con_of (show prog 65 = some c65 from rfl) rfl rfl fun n hn => ?_
 haveI := hp.one
 repeat first
  | refine mI ?_
  | refine fd ?_
  | refine Fo.ld rfl rfl ?_
  | (refine Fo.pcall (v' := ?_) hn rfl (by simp only [↓nrmL, nrmZ, Nat.reduceEqDiff, ↓reduceIte, Nat.reduceAdd, Int.reduceBEq, Int.reduceBNe, List.map]; rfl) rfl ?hv fun _ _ => ?_; case hv => rfl)
  | refine bA ?_
  | (refine Fo.bslice rfl (by simp only [↓nrmL, nrmZ, Nat.reduceEqDiff, ↓reduceIte, Nat.reduceAdd, Int.reduceBEq, Int.reduceBNe]; rfl) ?_)
  | refine nl hKF ?_
  | refine sq ?_
  | refine rg fun KF hKF => ?_
  | refine rt ?_
  | dsimp only [cond_true, cond_false]
 refine rz trivial ?_
 exact ⟨rfl, Ext0.ext⟩⟩
def Img.err (g : Img) : Int := bif g.sized then bif pxOk g.px then 0 else 3 else 2
instance K_Check {p : AVal} {H : AHeap} {w h : Int} {l : List UInt8} [hp : BytesI H p l] : PureCon ext prog 37 [.agg [.int .i64 w, .int .i64 h, p]] H 3 (.int .i64 (Img.err ⟨w, h, l⟩)) := ⟨by
 refine con_of (show prog 37 = some c37 from rfl) rfl rfl fun n hn => ?_
 haveI := hp.one
 unfold Img.err Img.sized sizedB
 cases h1 : (sideB w && sideB h && ((l.length : Nat) == IntKind.i64.wrap (w * h)))
 ·skip
  simp only [h1]
  repeat first
   | refine mI ?_
   | refine fd ?_
   | refine Fo.ld rfl rfl ?_
   | (refine Fo.pcall (v' := ?_) hn rfl (by simp only [↓nrmL, nrmZ, Nat.reduceEqDiff, ↓reduceIte, Nat.reduceAdd, Int.reduceBEq, Int.reduceBNe, h1, List.map]; rfl) rfl ?hv fun _ _ => ?_; case hv => (simp only [↓nrmL, nrmZ, Nat.reduceEqDiff, ↓reduceIte, Nat.reduceAdd, Int.reduceBEq, Int.reduceBNe, h1]; rfl))
   | (refine ln (by simp only [↓nrmL, nrmK, Nat.reduceEqDiff, ↓reduceIte]; rfl) ?_)
   | refine bA ?_
   | (refine Fo.now rfl rfl (by simp only [↓nrmL, nrmZ, Nat.reduceEqDiff, ↓reduceIte, Nat.reduceAdd, Int.reduceBEq, Int.reduceBNe, h1]; rfl) ?_)
   | refine nl hKF ?_
   | refine sq ?_
   | refine rg fun KF hKF => ?_
   | refine ct rfl ?_
   | refine rt ?_
   | dsimp only [cond_true, cond_false]
  refine rz trivial ?_
  exact ⟨rfl, Ext0.ext⟩
 ·obtain ⟨a, b, rfl, rfl, ha, hb, hl⟩ := sized_nat (n := l.length) h1
  have hm : a * b ≤ 640 * 640 := Nat.mul_le_mul ha hb
  have hc0 := count_le l 0
  have hc1 := count_le l 1
  have hw := wa (a := l.count 0) (b := l.count 1) (by omega)
  have h2 : (((l.count 0 + l.count 1 : Nat) : Int) != ((l.length : Nat) : Int)) = !(pxOk l) := by
   have := count01 l
   cases hp : pxOk l
   ·have : l.count 0 + l.count 1 ≠ l.length := fun e => by rw [this] at e; rw [hp] at e; cases e
    simp; omega
   ·have := this.2 hp
    simp [this]
  simp only [h1]
  repeat first
   | refine mI ?_
   | refine fd ?_
   | refine Fo.ld rfl rfl ?_
   | (refine Fo.pcall (v' := ?_) hn rfl (by simp only [↓nrmL, nrmZ, Nat.reduceEqDiff, ↓reduceIte, Nat.reduceAdd, Int.reduceBEq, Int.reduceBNe, h1, List.map]; rfl) rfl ?hv fun _ _ => ?_; case hv => (simp only [↓nrmL, nrmZ, Nat.reduceEqDiff, ↓reduceIte, Nat.reduceAdd, Int.reduceBEq, Int.reduceBNe, h1]; rfl))
   | (refine ln (by simp only [↓nrmL, nrmK, Nat.reduceEqDiff, ↓reduceIte]; rfl) ?_)
   | refine bA ?_
   | (refine Fo.now rfl rfl (by simp only [↓nrmL, nrmZ, Nat.reduceEqDiff, ↓reduceIte, Nat.reduceAdd, Int.reduceBEq, Int.reduceBNe, h1]; rfl) ?_)
   | refine nl hKF ?_
   | refine sq ?_
   | refine rg fun KF hKF => ?_
   | refine cf rfl ?_
   | refine sk ?_
   | dsimp only [cond_true, cond_false]
  refine Fr.dregionE [.row [.int .u8 0] true (2 * 5)] ?_ fun KF hKF => ?_
  ·skip
   refine oracle_pre rfl rfl rfl rfl ?_; (try simp only [↓nrmL, nrmZ, Nat.reduceEqDiff, ↓reduceIte, Nat.reduceAdd, Int.reduceBEq, Int.reduceBNe])
   refine oracle_pre rfl rfl rfl (exec_ld rfl rfl) ?_; (try simp only [↓nrmL, nrmZ, Nat.reduceEqDiff, ↓reduceIte, Nat.reduceAdd, Int.reduceBEq, Int.reduceBNe])
   refine oracle_made rfl rfl rfl ?_; (try simp only [↓nrmL, nrmZ, Nat.reduceEqDiff, ↓reduceIte, Nat.reduceAdd, Int.reduceBEq, Int.reduceBNe])
   exact oracle_none _ _ _ _ rfl
  simp only [pushAll]
  simp only [↓nrmL, nrmZ, Nat.reduceEqDiff, ↓reduceIte, Nat.reduceAdd, Int.reduceBEq, Int.reduceBNe, hw]
  repeat first
   | (refine Er rfl (exec_ld rfl rfl) rfl ?_)
   | (refine Er rfl (exec_ldN rfl rfl (by simp only [↓nrmL, nrmZ, Nat.reduceEqDiff, ↓reduceIte, Nat.reduceAdd, Int.reduceBEq, Int.reduceBNe, hw]; rfl)) rfl ?_)
   | (refine Fe.pure rfl (exec_lenP (by (try simp only [↓nrmL, nrmZ, Nat.reduceEqDiff, ↓reduceIte, Nat.reduceAdd, Int.reduceBEq, Int.reduceBNe, hw]); rfl)) rfl ?_)
   | (refine Fe.pure rfl rfl (by simp only [↓nrmL, nrmZ, Nat.reduceEqDiff, ↓reduceIte, Nat.reduceAdd, Int.reduceBEq, Int.reduceBNe, hw]; rfl) ?_)
   | refine Fe.pure rfl rfl rfl ?_
   | (refine Em rfl rfl ghost_of rfl ?_)
   | (refine Fe.pcall (v' := ?_) rfl hn rfl (by simp only [↓nrmL, nrmZ, Nat.reduceEqDiff, ↓reduceIte, Nat.reduceAdd, Int.reduceBEq, Int.reduceBNe, hw, List.map]; rfl) rfl ?hv fun _ _ => ar ?_; case hv => rfl)
   | refine WpE.nil (hKF _ _ ?_)
  cases hp2 : pxOk l
  ·rw [hp2] at h2
   simp only [hw, h2]
   refine ct rfl ?_
   refine sq ?_
   refine rg fun KF hKF => ?_
   refine mI ?_
   refine nl hKF ?_
   refine rt ?_
   dsimp only [cond_true, cond_false]
   refine rz trivial ?_
   exact ⟨rfl, Ext0.ext⟩
  ·rw [hp2] at h2
   simp only [hw, h2]
   refine cf rfl ?_
   refine sk ?_
   refine sq ?_
   refine rg fun KF hKF => ?_
   refine mI ?_
   refine nl hKF ?_
   refine rt ?_
   dsimp only [cond_true, cond_false]
   refine rz trivial ?_
   exact ⟨rfl, Ext0.ext⟩⟩
end Go.Am
namespace Go.Am
open Go
attribute [local irreducible] Wp WpO WpX WpE
theorem K_Clone {H : AHeap} {p : AVal} {l : List UInt8} [hp : BytesI H p l] (hl : l.length < 2 ^ 40) : Con ext prog 1 77 [p] H fun v H' => NewBytes H H' v l := by
 refine con_of (show prog 77 = some c77 from rfl) rfl rfl fun n hn => ?_
 rcases hp.it with ⟨rfl, h0, _⟩ | ⟨r, off, cap, row, rw, e, rfl, hr, hg, hle, hc, _⟩
 ·have : l = [] := List.eq_nil_of_length_eq_zero h0
  subst this
  repeat first
   | refine mN ?_
   | (refine Fo.now rfl rfl (by simp only [↓nrmL, nrmZ, Nat.reduceEqDiff, ↓reduceIte, Nat.reduceAdd, Int.reduceBEq, Int.reduceBNe]; rfl) ?_)
   | refine nl hKF ?_
   | refine sq ?_
   | refine rg fun KF hKF => ?_
   | refine ct rfl ?_
   | refine rt ?_
   | dsimp only [cond_true, cond_false]
  refine rz trivial ?_
  exact (show NewBytes H H .nslice [] from ⟨inferInstance, ⟨fun _ _ _ _ _ e => by cases e⟩, ⟨fun _ _ _ _ _ e => by cases e⟩, Ext0.ext⟩)
 ·skip
  repeat first
   | refine mN ?_
   | (refine mv ?_)
   | refine Fo.bslice rfl rfl ?_
   | (refine Fo.now rfl rfl (by simp only [↓nrmL, nrmZ, Nat.reduceEqDiff, ↓reduceIte, Nat.reduceAdd, Int.reduceBEq, Int.reduceBNe]; rfl) ?_)
   | refine nl hKF ?_
   | refine sq ?_
   | refine rg fun KF hKF => ?_
   | refine cf rfl ?_
   | refine sk ?_
  refine WpO.do (WpX.appendE rfl (by simp only [↓nrmL, nrmZ, Nat.reduceEqDiff, ↓reduceIte, Nat.reduceAdd, Int.reduceBEq, Int.reduceBNe, List.map] <;> rfl) hl fun v H1 h1 h2 h3 h4 => ?_)
  refine mv ?_
  refine nl hKF ?_
  refine rt ?_
  dsimp only [cond_true, cond_false]
  refine rz trivial ?_
  refine (show NewBytes H H1 v l from ⟨h1, ⟨fun r' _ _ _ _ e => ?_⟩, h3, Ext0.ext⟩)
  rcases h2 _ _ _ _ _ e with rfl | h5
  ·exact Nat.le_refl _
  ·exact Nat.le_trans (Nat.le_succ _) h5
theorem K_twin {H : AHeap} {a b : Int} {p : AVal} {l : List UInt8} [hp : BytesI H p l] (hl : l.length < 2 ^ 40) : Con ext prog 2 68 [.agg [.int .i64 a, .int .i64 b, p]] H fun v H' => NewInk H H' v ⟨a, b, l⟩ := by
 refine con_of (show prog 68 = some c68 from rfl) rfl rfl fun n hn => ?_
 haveI := hp.one
 refine sq ?_
 refine rg fun KF hKF => ?_
 refine bA ?_
 refine nw ?_
 refine nl hKF ?_
 refine sq ?_
 refine Fr.dregion0 rfl fun KF hKF => ?_
 repeat first
  | (refine Er rfl (exec_ld rfl rfl) rfl ?_)
  | (refine Fe.pure rfl rfl (by simp only [↓nrmL, nrmZ, Nat.reduceEqDiff, ↓reduceIte, Nat.reduceAdd, Int.reduceBEq, Int.reduceBNe]; rfl) ?_)
 refine Fe.con rfl hn rfl rfl (by simp only [↓nrmL, nrmZ, Nat.reduceEqDiff, ↓reduceIte, Nat.reduceAdd, Int.reduceBEq, Int.reduceBNe, List.map] <;> rfl) (K_Clone hl) fun v H1 ⟨h1, h2, h3, h4⟩ => ?_
 haveI : ExtI _ H1 := ⟨h4⟩
 haveI := h1.one
 refine ar ?_
 refine Fe.pure rfl (exec_build (by repeat (first | refine aFill1 (by (try simp only [↓nrmL, nrmZ, Nat.reduceEqDiff, ↓reduceIte, Nat.reduceAdd, Int.reduceBEq, Int.reduceBNe]); rfl) rfl ?_ | rfl))) (by simp only [↓nrmL, nrmZ, Nat.reduceEqDiff, ↓reduceIte, Nat.reduceAdd, Int.reduceBEq, Int.reduceBNe]; rfl) ?_
 refine Ee rfl (xs rfl (by (try simp only [↓nrmL, nrmZ, Nat.reduceEqDiff, ↓reduceIte, Nat.reduceAdd, Int.reduceBEq, Int.reduceBNe]); rfl) rfl rfl rfl (by (try simp only [↓nrmL, nrmZ, Nat.reduceEqDiff, ↓reduceIte, Nat.reduceAdd, Int.reduceBEq, Int.reduceBNe]); rfl)) ?_
 refine WpE.nil (hKF _ _ ?_)
 refine rt ?_
 dsimp only [cond_true, cond_false]
 refine rz trivial ?_
 exact ⟨v, rfl, inferInstance, h2.weak, inferInstance, Ext0.ext⟩
theorem K_CopyInk {H : AHeap} {a b : Int} {p : AVal} {l : List UInt8} [hp : BytesI H p l] (hl : l.length < 2 ^ 40) : Con ext prog 2 35 [.agg [.int .i64 a, .int .i64 b, p]] H fun v H' => NewInk H H' v ⟨a, b, l⟩ := by
 refine con_of (show prog 35 = some c35 from rfl) rfl rfl fun n hn => ?_
 haveI := hp.one
 refine sq ?_
 refine rg fun KF hKF => ?_
 refine bA ?_
 refine nw ?_
 refine nl hKF ?_
 refine sq ?_
 refine Fr.dregion0 rfl fun KF hKF => ?_
 repeat first
  | (refine Er rfl (exec_ld rfl rfl) rfl ?_)
  | (refine Fe.pure rfl rfl (by simp only [↓nrmL, nrmZ, Nat.reduceEqDiff, ↓reduceIte, Nat.reduceAdd, Int.reduceBEq, Int.reduceBNe]; rfl) ?_)
 refine Fe.con rfl hn rfl rfl (by simp only [↓nrmL, nrmZ, Nat.reduceEqDiff, ↓reduceIte, Nat.reduceAdd, Int.reduceBEq, Int.reduceBNe, List.map] <;> rfl) (K_CopyBytes hl) fun v H1 ⟨h1, h2, h3, h4⟩ => ?_
 haveI : ExtI _ H1 := ⟨h4⟩
 haveI := h1.one
 refine ar ?_
 refine Fe.pure rfl (exec_build (by repeat (first | refine aFill1 (by (try simp only [↓nrmL, nrmZ, Nat.reduceEqDiff, ↓reduceIte, Nat.reduceAdd, Int.reduceBEq, Int.reduceBNe]); rfl) rfl ?_ | rfl))) (by simp only [↓nrmL, nrmZ, Nat.reduceEqDiff, ↓reduceIte, Nat.reduceAdd, Int.reduceBEq, Int.reduceBNe]; rfl) ?_
 refine Ee rfl (xs rfl (by (try simp only [↓nrmL, nrmZ, Nat.reduceEqDiff, ↓reduceIte, Nat.reduceAdd, Int.reduceBEq, Int.reduceBNe]); rfl) rfl rfl rfl (by (try simp only [↓nrmL, nrmZ, Nat.reduceEqDiff, ↓reduceIte, Nat.reduceAdd, Int.reduceBEq, Int.reduceBNe]); rfl)) ?_
 refine WpE.nil (hKF _ _ ?_)
 refine rt ?_
 dsimp only [cond_true, cond_false]
 refine rz trivial ?_
 exact ⟨v, rfl, inferInstance, h2.weak, inferInstance, Ext0.ext⟩
theorem K_New {w h : Int} {H : AHeap} : Con ext prog 3 34 [.int .i64 w, .int .i64 h] H fun v H' => InkRes H H' v (bif sideB w && sideB h then (⟨w, h, List.replicate (w.toNat * h.toNat) 0⟩, 0) else (.zero, 2)) := by
 refine con_of (show prog 34 = some c34 from rfl) rfl rfl fun n hn => ?_
 cases h1 : sideB w
 ·skip
  simp only [h1, Bool.false_and, cond_false]
  repeat first
   | refine ox ?_
   | refine mI ?_
   | refine mB ?_
   | refine tB ?_
   | (refine Fo.pcall (v' := ?_) hn rfl (by simp only [↓nrmL, nrmZ, Nat.reduceEqDiff, ↓reduceIte, Nat.reduceAdd, Int.reduceBEq, Int.reduceBNe, h1, Bool.false_and, cond_false, List.map]; rfl) rfl ?hv fun _ _ => ?_; case hv => (simp only [h1, Bool.false_and, cond_false]; rfl))
   | refine nw ?_
   | (refine Fo.now rfl rfl (by simp only [↓nrmL, nrmZ, Nat.reduceEqDiff, ↓reduceIte, Nat.reduceAdd, Int.reduceBEq, Int.reduceBNe, h1, Bool.false_and, cond_false]; rfl) ?_)
   | refine Fo.now rfl rfl rfl ?_
   | (refine so rfl (rfl : _ = AVal.agg _) rfl rfl rfl (by simp only [↓nrmL, nrmZ, Nat.reduceEqDiff, ↓reduceIte, Nat.reduceAdd, Int.reduceBEq, Int.reduceBNe, h1, Bool.false_and, cond_false]; rfl) ?_)
   | refine nl hKF ?_
   | refine sq ?_
   | refine rg fun KF hKF => ?_
   | refine ct rfl ?_
   | refine rt ?_
   | dsimp only [cond_true, cond_false]
  refine rz trivial ?_
  exact ⟨_, rfl, newZero⟩
 cases h2 : sideB h
 ·skip
  simp only [h1, h2, Bool.false_and, Bool.and_false, cond_false]
  repeat first
   | refine oy ?_
   | refine mI ?_
   | refine mB ?_
   | refine fB ?_
   | (refine Fo.pcall (v' := ?_) hn rfl (by simp only [↓nrmL, nrmZ, Nat.reduceEqDiff, ↓reduceIte, Nat.reduceAdd, Int.reduceBEq, Int.reduceBNe, h1, h2, Bool.false_and, Bool.and_false, cond_false, List.map]; rfl) rfl ?hv fun _ _ => ?_; case hv => (simp only [h1, h2, Bool.false_and, Bool.and_false, cond_false]; rfl))
   | refine nw ?_
   | (refine Fo.now rfl rfl (by simp only [↓nrmL, nrmZ, Nat.reduceEqDiff, ↓reduceIte, Nat.reduceAdd, Int.reduceBEq, Int.reduceBNe, h1, h2, Bool.false_and, Bool.and_false, cond_false]; rfl) ?_)
   | refine Fo.now rfl rfl rfl ?_
   | (refine so rfl (rfl : _ = AVal.agg _) rfl rfl rfl (by simp only [↓nrmL, nrmZ, Nat.reduceEqDiff, ↓reduceIte, Nat.reduceAdd, Int.reduceBEq, Int.reduceBNe, h1, h2, Bool.false_and, Bool.and_false, cond_false]; rfl) ?_)
   | refine nl hKF ?_
   | refine sq ?_
   | refine rg fun KF hKF => ?_
   | refine ct rfl ?_
   | refine rt ?_
   | dsimp only [cond_true, cond_false]
  refine rz trivial ?_
  exact ⟨_, rfl, newZero⟩
 ·have hw : 0 ≤ w ∧ w ≤ 640 := by simpa [sideB] using h1
  have hh : 0 ≤ h ∧ h ≤ 640 := by simpa [sideB] using h2
  obtain ⟨a, rfl⟩ : ∃ a : Nat, w = a := ⟨w.toNat, by omega⟩
  obtain ⟨b, rfl⟩ : ∃ b : Nat, h = b := ⟨h.toNat, by omega⟩
  simp only [↓nrmL, nrmZ, Nat.reduceEqDiff, ↓reduceIte, Nat.reduceAdd, Int.reduceBEq, Int.reduceBNe, h1, h2]
  repeat first
   | refine oy ?_
   | refine mI ?_
   | refine mB ?_
   | refine fB ?_
   | (refine Fo.pcall (v' := ?_) hn rfl (by simp only [↓nrmL, nrmZ, Nat.reduceEqDiff, ↓reduceIte, Nat.reduceAdd, Int.reduceBEq, Int.reduceBNe, h1, h2, List.map]; rfl) rfl ?hv fun _ _ => ?_; case hv => (simp only [h1, h2]; rfl))
   | refine nw ?_
   | (refine Fo.now rfl rfl (by simp only [↓nrmL, nrmZ, Nat.reduceEqDiff, ↓reduceIte, Nat.reduceAdd, Int.reduceBEq, Int.reduceBNe, h1, h2]; rfl) ?_)
   | refine nl hKF ?_
   | refine sq ?_
   | refine rg fun KF hKF => ?_
   | refine cf rfl ?_
   | refine sk ?_
  refine WpO.do (WpX.conD hn rfl rfl (by simp only [↓nrmL, nrmZ, Nat.reduceEqDiff, ↓reduceIte, Nat.reduceAdd, Int.reduceBEq, Int.reduceBNe, List.map] <;> rfl) (K_blank (w := a) (h := b) (by omega) (by omega)) fun v H1 h5 => ?_)
  obtain ⟨q, e2, hq, hf, hw3, hx⟩ := h5
  subst e2
  haveI : ExtI _ H1 := ⟨hx⟩
  haveI := hq.one
  refine so rfl (rfl : _ = AVal.agg _) rfl rfl rfl (by simp only [↓nrmL, nrmZ, Nat.reduceEqDiff, ↓reduceIte, Nat.reduceAdd, Int.reduceBEq, Int.reduceBNe]; rfl) ?_
  refine mI ?_
  refine nl hKF ?_
  refine rt ?_
  dsimp only [cond_true, cond_false]
  refine rz trivial ?_
  exact ⟨_, rfl, q, rfl, inferInstance, hf.weak, inferInstance, Ext0.ext⟩
end Go.Am
namespace Go.Am
open Go
attribute [local irreducible] Wp WpO WpX WpE
theorem Img.ok {g : Img} (h : (g.err == 0) = true) : g.sized = true ∧ pxOk g.px = true := by
 unfold Img.err at h
 cases h1 : g.sized
 ·rw [h1] at h; cases h
 ·cases h2 : pxOk g.px
  ·rw [h1, h2] at h; cases h
  ·exact ⟨rfl, rfl⟩
end Go.Am
namespace Go.Am
open Go
attribute [local irreducible] Wp WpO WpX WpE
class PixFn (F : FuncId) (op : outParam (UInt8 → UInt8 → UInt8)) : Prop where
 con : ∀ (a b : UInt8) (H : AHeap), PureCon ext prog F [.int .u8 (a.toNat : Int), .int .u8 (b.toNat : Int)] H 1 (.int .u8 ((op a b).toNat : Int))
instance {F : FuncId} {op : UInt8 → UInt8 → UInt8} {a b : UInt8} {H : AHeap} [h : PixFn F op] : PureCon ext prog F [.int .u8 (a.toNat : Int), .int .u8 (b.toNat : Int)] H 1 (.int .u8 ((op a b).toNat : Int)) := h.con a b H
end Go.Am
namespace Go.Am
open Go
attribute [local irreducible] Wp WpO WpX WpE
def inkB (w h : Int) (l : List UInt8) (x y : Int) : Bool := decide (x ≥ 0) && (decide (x < w) && (decide (y ≥ 0) && (decide (y < h) && (l.getD (y * w + x).toNat 0 == 1))))
theorem inkB_nat {a b x y : Nat} {l : List UInt8} (hx : x < a) (hy : y < b) : inkB a b l x y = (l.getD (y * a + x) 0 == 1) := by
 have e : ((y : Int) * (a : Int) + (x : Int)).toNat = y * a + x := by rw [← Int.natCast_mul, ← Int.natCast_add]; rfl
 have h1 : decide ((x : Int) ≥ 0) = true := decide_eq_true (by omega)
 have h2 : decide ((x : Int) < (a : Int)) = true := decide_eq_true (by omega)
 have h3 : decide ((y : Int) ≥ 0) = true := decide_eq_true (by omega)
 have h4 : decide ((y : Int) < (b : Int)) = true := decide_eq_true (by omega)
 simp only [inkB, h1, h2, h3, h4, e, Bool.true_and]
class Fits (w h : Int) (l : List UInt8) : Prop where
 it : sizedB w h l.length = true
theorem u8_one (c : UInt8) : (((c.toNat : Nat) : Int) == 1) = (c == 1) := by
 by_cases h : c = 1
 ·subst h; rfl
 ·have h2 : c.toNat ≠ 1 := fun e => h (UInt8.toNat_inj.1 e)
  have h1 : (c == 1) = false := by simpa using h
  rw [h1]
  simp only [beq_eq_false_iff_ne, ne_eq]
  omega
instance K_ink {p : AVal} {H : AHeap} {w h x y : Int} {l : List UInt8} [hp : BytesI H p l] [hs : Fits w h l] : PureCon ext prog 89 [.agg [.int .i64 w, .int .i64 h, p], .int .i64 x, .int .i64 y] H 1 (.bool (inkB w h l x y)) := ⟨by
 refine con_of (show prog 89 = some c89 from rfl) rfl rfl fun n hn => ?_
 haveI := hp.one
 obtain ⟨a, b, rfl, rfl, ha, hb, hl⟩ := sized_nat hs.it
 have hm : a * b ≤ 640 * 640 := Nat.mul_le_mul ha hb
 cases h1 : decide (x ≥ 0)
 ·have e : inkB a b l x y = false := by simp only [inkB, h1, Bool.false_and]
  rw [e]
  repeat first
   | refine ox ?_
   | refine mI ?_
   | refine mB ?_
   | (refine bn rfl rfl rfl (by simp only [h1]; rfl) ?_)
   | refine fB ?_
   | refine bA ?_
   | refine nl hKF ?_
   | refine sq ?_
   | refine rg fun KF hKF => ?_
   | refine rt ?_
   | dsimp only [cond_true, cond_false]
  refine rz trivial ?_
  exact ⟨rfl, Ext0.ext⟩
 cases h2 : decide (x < (a : Int))
 ·have e : inkB a b l x y = false := by simp only [inkB, h1, h2, Bool.false_and, Bool.and_false]
  rw [e]
  repeat first
   | refine oy ?_
   | refine ox ?_
   | refine mI ?_
   | refine mB ?_
   | refine fd ?_
   | refine Fo.ld rfl rfl ?_
   | (refine bn rfl rfl rfl (by simp only [h1, h2]; rfl) ?_)
   | refine tB ?_
   | refine fB ?_
   | refine bA ?_
   | refine nl hKF ?_
   | refine sq ?_
   | refine rg fun KF hKF => ?_
   | refine rt ?_
   | dsimp only [cond_true, cond_false]
  refine rz trivial ?_
  exact ⟨rfl, Ext0.ext⟩
 cases h3 : decide (y ≥ 0)
 ·have e : inkB a b l x y = false := by simp only [inkB, h1, h2, h3, Bool.false_and, Bool.and_false]
  rw [e]
  repeat first
   | refine oy ?_
   | refine ox ?_
   | refine mI ?_
   | refine mB ?_
   | refine fd ?_
   | refine Fo.ld rfl rfl ?_
   | (refine bn rfl rfl rfl (by simp only [h1, h2, h3]; rfl) ?_)
   | refine tB ?_
   | refine fB ?_
   | refine bA ?_
   | refine nl hKF ?_
   | refine sq ?_
   | refine rg fun KF hKF => ?_
   | refine rt ?_
   | dsimp only [cond_true, cond_false]
  refine rz trivial ?_
  exact ⟨rfl, Ext0.ext⟩
 cases h4 : decide (y < (b : Int))
 ·have e : inkB a b l x y = false := by simp only [inkB, h1, h2, h3, h4, Bool.false_and, Bool.and_false]
  rw [e]
  repeat first
   | refine oy ?_
   | refine ox ?_
   | refine mI ?_
   | refine mB ?_
   | refine fd ?_
   | refine Fo.ld rfl rfl ?_
   | (refine bn rfl rfl rfl (by simp only [h1, h2, h3, h4]; rfl) ?_)
   | refine tB ?_
   | refine fB ?_
   | refine bA ?_
   | refine nl hKF ?_
   | refine sq ?_
   | refine rg fun KF hKF => ?_
   | refine rt ?_
   | dsimp only [cond_true, cond_false]
  refine rz trivial ?_
  exact ⟨rfl, Ext0.ext⟩
 obtain ⟨x, rfl⟩ : ∃ k : Nat, x = k := ⟨x.toNat, by have := of_decide_eq_true h1; omega⟩
 obtain ⟨y, rfl⟩ : ∃ k : Nat, y = k := ⟨y.toNat, by have := of_decide_eq_true h3; omega⟩
 have hx : x < a := by have := of_decide_eq_true h2; omega
 have hy : y < b := by have := of_decide_eq_true h4; omega
 have hlt := idx_lt hx hy
 have hil : y * a + x < l.length := by omega
 have h5 : IntKind.i64.wrap ((y : Int) * (a : Int)) = ((y * a : Nat) : Int) := wm (by omega)
 have h6 : IntKind.i64.wrap (((y * a : Nat) : Int) + (x : Int)) = ((y * a + x : Nat) : Int) := wa (by omega)
 have e : inkB a b l x y = (l[y * a + x] == 1) := by rw [inkB_nat hx hy]; simp [hil]
 rw [e]
 repeat first
  | refine oy ?_
  | refine mI ?_
  | refine mB ?_
  | refine fd ?_
  | refine Fo.ld rfl rfl ?_
  | (refine bn rfl rfl rfl (by simp only [h1, h2, h3, h4, h5, h6, u8_one]; rfl) ?_)
  | refine tB ?_
  | refine bA ?_
  | (refine Fo.idx (by simp only [↓nrmL, nrmK, Nat.reduceEqDiff, ↓reduceIte]; rfl) rfl ?_ (by simp only [↓nrmL, nrmZ, Nat.reduceEqDiff, ↓reduceIte, Nat.reduceAdd, Int.reduceBEq, Int.reduceBNe, h1, h2, h3, h4, h5, h6, u8_one]; rfl) ?_; (focus omega))
  | (refine Fo.ldB rfl ?_ rfl ?_; (focus omega))
  | refine nl hKF ?_
  | refine sq ?_
  | refine rg fun KF hKF => ?_
  | refine rt ?_
  | dsimp only [cond_true, cond_false]
 refine rz trivial ?_
 exact ⟨rfl, Ext0.ext⟩⟩
end Go.Am
namespace Go.Am
open Go
attribute [local irreducible] Wp WpO WpX WpE
theorem px_get {l : List UInt8} (h : pxOk l = true) {i : Nat} (hi : i < l.length) : l.getD i 0 = 0 ∨ l.getD i 0 = 1 := by
 have := List.all_eq_true.1 h l[i] (List.getElem_mem hi)
 simp only [Bool.or_eq_true, beq_iff_eq] at this
 simpa [hi] using this
end Go.Am
namespace Go.Am
open Go
attribute [local irreducible] Wp WpO WpX WpE
end Go.Am
namespace Go.Am
open Go
attribute [local irreducible] Wp WpO WpX WpE
theorem pxOk_rep (n : Nat) : pxOk (List.replicate n 0) = true := by
 simp [pxOk, List.all_replicate]
theorem pxOk_set {l : List UInt8} {i : Nat} {c : UInt8} (h : pxOk l = true) (hc : c = 0 ∨ c = 1) : pxOk (l.set i c) = true := by
 unfold pxOk at h ⊢
 rw [List.all_eq_true] at h ⊢
 intro x hx
 rcases List.mem_or_eq_of_mem_set hx with h1 | rfl
 ·exact h x h1
 ·rcases hc with rfl | rfl <;> rfl
structure Ok (a b : Nat) (l : List UInt8) : Prop where
 wa : a ≤ 640
 hb : b ≤ 640
 len : l.length = a * b
 px : pxOk l = true
theorem Ok.sized {a b : Nat} {l : List UInt8} (h : Ok a b l) : sizedB a b l.length = true := by
 have hm : a * b ≤ 640 * 640 := Nat.mul_le_mul h.wa h.hb
 have h1 : sideB a = true := by simp only [sideB, Bool.and_eq_true, decide_eq_true_eq]; have := h.wa; omega
 have h2 : sideB b = true := by simp only [sideB, Bool.and_eq_true, decide_eq_true_eq]; have := h.hb; omega
 unfold sizedB
 rw [h1, h2, wm (by omega), h.len]
 simp
theorem Ok.err {a b : Nat} {l : List UInt8} (h : Ok a b l) : Img.err ⟨a, b, l⟩ = 0 := by
 have h1 : (⟨a, b, l⟩ : Img).sized = true := h.sized
 have h2 := h.px
 unfold Img.err
 rw [h1]
 simp only [h2, cond_true]
end Go.Am
namespace Go.Am
open Go
class Part (p : outParam AVal) (v : AVal) (a n : outParam Nat) : Prop where
 it : (n = 0 ∧ aLenS v = some (.int .i64 0) ∧ v.cells = [v] ∧ v.one = true) ∨ ∃ r off len cap cap', p = .slice r off len cap 1 ∧ v = .slice r (off + a) n cap' 1 ∧ a + n ≤ len
theorem Part.one {p v : AVal} {a n : Nat} (h : Part p v a n) : OneV v := by
 rcases h.it with ⟨_, _, h1, h2⟩ | ⟨r, off, len, cap, cap', _, rfl, _⟩
 ·exact ⟨h1, h2⟩
 ·infer_instance
theorem Part.lenS {p v : AVal} {a n : Nat} (h : Part p v a n) : aLenS v = some (.int .i64 n) := by
 rcases h.it with ⟨rfl, h1, _⟩ | ⟨r, off, len, cap, cap', _, rfl, _⟩
 ·exact h1
 ·rfl
section
variable {call : ACall} {fr : AFrame} {H : AHeap} {KF : AFrame → AHeap → Prop} {os : List ROper} {d : Nat}
theorem exec_idxV {x i : ROpd} {p v : AVal} {a n : Nat} {k : IntKind} {j : Int} (hx : x.ev fr = v) (hi : i.ev fr = .int k j) [s : Part p v a n] (h0 : 0 ≤ j ∧ j < n) : (ROp.idxS 1 x i).exec call fr H = some (.ptr (rowOf p) (offOf p + (a + j.toNat)), H) := by
 rcases s.it with ⟨rfl, _⟩ | ⟨r, off, len, cap, cap', rfl, rfl, _⟩
 ·have := h0.1; have := h0.2; omega
 ·simp only [ROp.exec, hx, hi, aIdxS, true_and, if_pos h0, M.ofOption, M.pure, rowOf, offOf, Nat.mul_one, Nat.add_assoc]
theorem exec_lenV {x : ROpd} {p v : AVal} {a n : Nat} (hx : x.ev fr = v) [s : Part p v a n] : (ROp.lenS x).exec call fr H = some (.int .i64 n, H) := by
 simp only [ROp.exec, hx, s.lenS, M.ofOption, M.pure]
theorem Fo.idxV {x i : ROpd} {p v : AVal} {a n o : Nat} {k : IntKind} {j : Int} (hx : x.ev fr = v) (hi : i.ev fr = .int k j) [s : Part p v a n] (h0 : 0 ≤ j ∧ j < n) (ho : offOf p + (a + j.toNat) = o) (h : WpO call os (upd fr d (.ptr (rowOf p) o)) H KF) : WpO call (⟨some d, .idxS 1 x i, none⟩ :: os) fr H KF := by
 subst ho; exact WpO.step rfl ⟨_, _, exec_idxV hx hi h0, h⟩
theorem Fo.lenV {x : ROpd} {p v u : AVal} {a n : Nat} (hx : x.ev fr = v) [s : Part p v a n] (hv : AVal.int .i64 n = u) (h : WpO call os (upd fr d u) H KF) : WpO call (⟨some d, .lenS x, none⟩ :: os) fr H KF := by
 subst hv; exact WpO.step rfl ⟨_, _, exec_lenV hx, h⟩
theorem cells_sub {row : List AVal} {l : List UInt8} {off a b : Nat} (hc : (row.drop off).take l.length = cellsB l) (hb : b ≤ l.length) : (row.drop (off + a)).take (b - a) = cellsB ((l.drop a).take (b - a)) := by
 have h1 : (cellsB l).drop a = cellsB (l.drop a) := by simp [cellsB, List.map_drop]
 have h2 : ∀ (k : Nat) (m : List UInt8), (cellsB m).take k = cellsB (m.take k) := fun k m => by simp [cellsB, List.map_take]
 rw [← h2, ← h1, ← hc, List.drop_take, List.drop_drop, List.take_take]
 congr 1
 omega
def bnd (o : Option AVal) (dflt n : Nat) : Prop := (o = none ∧ n = dflt) ∨ ∃ k, o = some (.int k n)
theorem exec_slc {x : ROpd} {lo hi : Option ROpd} {p : AVal} {l : List UInt8} {a b : Nat} (hx : x.ev fr = p) (hlo : bnd (lo.map (·.ev fr)) 0 a) (hhi : bnd (hi.map (·.ev fr)) l.length b) (hab : a ≤ b) (hbl : b ≤ l.length) [s : BytesI H p l] :
  ∃ v H', (ROp.sliceS 1 x lo hi none).exec call fr H = some (v, H') ∧ Part p v a (b - a) ∧ BytesI H' v ((l.drop a).take (b - a)) ∧ Ext H H' := by
 have hlen : ((l.drop a).take (b - a)).length = b - a := by rw [List.length_take, List.length_drop]; omega
 have hl1 : ∀ h, a ≤ h → aLow h (lo.map (·.ev fr)) = some a := by
  intro h hh
  rcases hlo with ⟨h1, rfl⟩ | ⟨k, h1⟩
  ·rw [h1]; rfl
  ·rw [h1]
   have : (0 : Int) ≤ (a : Int) ∧ (a : Int) ≤ (h : Int) := by omega
   simp only [aLow, aBound, if_pos this, Int.toNat_natCast]
 have hh1 : ∀ y, b ≤ y → aHigh l.length y (hi.map (·.ev fr)) = some b := by
  intro y hy
  rcases hhi with ⟨h1, rfl⟩ | ⟨k, h1⟩
  ·rw [h1]; rfl
  ·rw [h1]
   have : (0 : Int) ≤ (b : Int) ∧ (b : Int) ≤ (y : Int) := by omega
   simp only [aHigh, aBound, if_pos this, Int.toNat_natCast]
 rcases s.it with ⟨rfl, h0, _⟩ | ⟨r, off, cap, row, rw, e, rfl, hr, hg, hl, hc, hcap⟩
 ·have e1 : b = 0 := by omega
  have e2 : a = 0 := by omega
  subst e1 e2
  have hb0 : aBounds 0 (some 0) (lo.map (·.ev fr)) (hi.map (·.ev fr)) none = some (0, 0, some 0) := by
   have h1 := hh1 (capD 0 (some 0)) (Nat.zero_le _)
   rw [h0] at h1
   simp only [aBounds, h1, hl1 0 (Nat.zero_le _)]
  refine ⟨.nslice, H, by simp only [ROp.exec, hx, Option.map_none, aSliceS, hb0, M.pure], ⟨Or.inl ⟨rfl, rfl, rfl, rfl⟩⟩, ?_, Ext.refl H⟩
  have e3 : (l.drop 0).take (0 - 0) = [] := by simp
  rw [e3]
  exact ⟨Or.inl ⟨rfl, rfl, rfl⟩⟩
 ·rw [Nat.mul_one] at hl hc
  have hb0 : aBounds l.length cap (lo.map (·.ev fr)) (hi.map (·.ev fr)) none = some (a, b, cap) := by
   simp only [aBounds, hh1 _ (Nat.le_trans hbl hcap), hl1 b hab]
  have hsub := cells_sub (a := a) hc hbl
  have full : ∀ cap', (b - a ≤ capD (b - a) cap') → BytesI H (.slice r (off + a) (b - a) cap' 1) ((l.drop a).take (b - a)) := by
   intro cap' hc'
   unfold BytesI
   rw [hlen]
   exact ⟨Or.inr ⟨r, off + a, cap', row, rw, e, rfl, hr, hg, by omega, by rw [Nat.mul_one]; exact hsub, hc'⟩⟩
  have none0 : a = b → ∀ cap', BytesI H (.slice r off (b - a) cap' 1) ((l.drop a).take (b - a)) := by
   intro hE cap'
   subst hE
   have e3 : (l.drop a).take (a - a) = [] := by simp
   rw [e3, Nat.sub_self]
   exact ⟨Or.inr ⟨r, off, cap', row, rw, e, rfl, hr, hg, by simp; omega, by simp [cellsB], Nat.zero_le _⟩⟩
  cases cap with
  | some c =>
   simp only [capD] at hcap
   by_cases hca : c = a
   ·have hE : a = b := by omega
    refine ⟨.slice r off (b - a) (some 0) 1, H, by simp only [ROp.exec, hx, Option.map_none, aSliceS, ne_eq, not_true, if_false, hb0, M.pure, if_pos hca], ⟨Or.inl ⟨by omega, by rw [hE, Nat.sub_self]; rfl, rfl, rfl⟩⟩, none0 hE _, Ext.refl H⟩
   ·refine ⟨.slice r (off + a) (b - a) (some (c - a)) 1, H, by simp only [ROp.exec, hx, Option.map_none, aSliceS, ne_eq, not_true, if_false, hb0, M.pure, if_neg hca, Nat.mul_one], ⟨Or.inr ⟨r, off, l.length, some c, some (c - a), rfl, rfl, by omega⟩⟩, full _ (by simp only [capD]; omega), Ext.refl H⟩
  | none =>
   have h2 : ¬ row.length < off + l.length := by omega
   have hrow : aRow r H = some ((row, rw), H) := by simp only [aRow, if_pos hr, hg]
   by_cases hcd : a < b ∨ a = 0
   ·refine ⟨.slice r (off + a) (b - a) none 1, H, ?_, ⟨Or.inr ⟨r, off, l.length, none, none, rfl, rfl, by omega⟩⟩, full _ (Nat.le_refl _), Ext.refl H⟩
    simp only [ROp.exec, hx, Option.map_none, aSliceS, ne_eq, not_true, if_false, hb0, Nat.mul_one, Nat.one_ne_zero, M.bind, hrow, if_neg h2, if_pos hcd, M.pure]
   ·have hE : a = b := by omega
    refine ⟨.slice H.n 0 0 none 1, H.push (.row [] false 0), ?_, ⟨Or.inl ⟨by omega, rfl, rfl, rfl⟩⟩, ?_, (Ext.refl H).push _⟩
    ·simp only [ROp.exec, hx, Option.map_none, aSliceS, ne_eq, not_true, if_false, hb0, Nat.mul_one, Nat.one_ne_zero, M.bind, hrow, if_neg h2, if_neg hcd, M.pure, aNew]
    ·have e3 : (l.drop a).take (b - a) = [] := by rw [hE, Nat.sub_self]; simp
     rw [e3]
     exact ⟨Or.inr ⟨H.n, 0, none, [], false, 0, rfl, Nat.lt_succ_self _, push_get_eq, by simp, by simp [cellsB], Nat.zero_le _⟩⟩
theorem Fo.slc {x : ROpd} {lo hi : Option ROpd} {p : AVal} {l : List UInt8} {a b : Nat} (hx : x.ev fr = p) (hlo : bnd (lo.map (·.ev fr)) 0 a) (hhi : bnd (hi.map (·.ev fr)) l.length b) (hab : a ≤ b) (hbl : b ≤ l.length) [s : BytesI H p l]
  (h : ∀ v H1, Part p v a (b - a) → BytesI H1 v ((l.drop a).take (b - a)) → ExtI H H1 → WpO call os (upd fr d v) H1 KF) : WpO call (⟨some d, .sliceS 1 x lo hi none, none⟩ :: os) fr H KF := by
 obtain ⟨v, H1, h1, h2, h3, h4⟩ := exec_slc (call := call) hx hlo hhi hab hbl (s := s)
 exact WpO.step rfl ⟨v, H1, h1, h v H1 h2 h3 ⟨h4⟩⟩
end
def rowL (l : List UInt8) (a y : Nat) : List UInt8 := (l.drop (y * a)).take a
theorem row_le {a b y : Nat} (hy : y < b) : y * a + a ≤ a * b := by
 have : (y + 1) * a ≤ b * a := Nat.mul_le_mul_right _ hy
 rw [Nat.add_mul, Nat.one_mul] at this
 rw [Nat.mul_comm a b]; exact this
class OwnS (H : AHeap) (p : AVal) (sz : outParam Nat) (n : outParam Nat) (cs : outParam (List AVal)) (e : outParam TypeId) : Prop where
 it : (p = .nslice ∧ n = 0 ∧ cs = []) ∨ ∃ r e', p = .slice r 0 n none sz ∧ r < H.n ∧ H.get r = .row cs true e' ∧ e' / 2 = e ∧ cs.length = n * sz ∧ 0 < n
theorem OwnS.sl {H : AHeap} {p : AVal} {sz n : Nat} {cs : List AVal} {e : TypeId} (h : OwnS H p sz n cs e) : SliceAt H p sz n cs := by
 rcases h.it with ⟨h1, h2, h3⟩ | ⟨r, e', h1, h2, h3, h4, h5, h6⟩
 ·exact ⟨Or.inl ⟨h1, h2, h3⟩⟩
 ·exact ⟨Or.inr ⟨r, 0, none, cs, true, e', h1, h2, h3, by omega, by rw [List.drop_zero, List.take_of_length_le (by omega)], Nat.le_refl _⟩⟩
theorem OwnS.wr {H : AHeap} {p : AVal} {sz n : Nat} {cs : List AVal} {e : TypeId} (h : OwnS H p sz n cs e) : WrS H p := ⟨fun r off len cap s q => by
 rcases h.it with ⟨h1, _⟩ | ⟨r', e', h1, h2, h3, _⟩
 ·rw [h1] at q; cases q
 ·rw [h1] at q; cases q; exact ⟨cs, e', h3⟩⟩
theorem OwnS.keep {H H' : AHeap} {p : AVal} {sz n : Nat} {cs : List AVal} {e : TypeId} (h : OwnS H p sz n cs e) (hn : H.n ≤ H'.n) (hg : ∀ r off len cap sz, p = .slice r off len cap sz → r < H.n → H'.get r = H.get r) : OwnS H' p sz n cs e := by
 rcases h.it with ⟨h1, h2, h3⟩ | ⟨r, e', h1, h2, h3, h4⟩
 ·exact ⟨Or.inl ⟨h1, h2, h3⟩⟩
 ·exact ⟨Or.inr ⟨r, e', h1, by omega, by rw [hg _ _ _ _ _ h1 h2]; exact h3, h4⟩⟩
instance {H H' : AHeap} {p : AVal} {sz n : Nat} {cs : List AVal} {e : TypeId} [x : ExtI H H'] [h : OwnS H p sz n cs e] : OwnS H' p sz n cs e := h.keep x.ext.n fun _ _ _ _ _ _ hr => x.ext.get _ hr
instance {H : AHeap} {o : AObj} {p : AVal} {sz n : Nat} {cs : List AVal} {e : TypeId} [h : OwnS H p sz n cs e] : OwnS (H.push o) p sz n cs e := h.keep (Nat.le_succ _) fun _ _ _ _ _ _ hr => push_get_lt hr
instance {H : AHeap} {s : Nat} {o : AObj} {p : AVal} {sz n : Nat} {cs : List AVal} {e : TypeId} [h : OwnS H p sz n cs e] [k : RowNe p s] : OwnS (H.set s o) p sz n cs e := h.keep (Nat.le_refl _) fun _ _ _ _ _ e _ => set_get_ne (k.ne _ _ _ _ _ e)
instance {H H' : AHeap} {p q : AVal} {sz n : Nat} {cs : List AVal} {e : TypeId} [x : ExtP H H' q] [h : OwnS H p sz n cs e] [k : SepS p q] : OwnS H' p sz n cs e := h.keep x.n fun r _ _ _ _ e hr => x.get r hr ⟨fun r' _ _ _ _ e' => fun hh => k.ne _ _ _ _ _ _ _ _ _ _ e e' hh.symm⟩
theorem exec_grow {H : AHeap} {p q : AVal} {sz n k bytes : Nat} {cs new : List AVal} {e : TypeId} (h : OwnS H p sz n cs e) (hf : aLenOf q = some k ∧ aFirst sz k q H = some (new, H)) (hnl : new.length = k * sz) (hsz : 0 < sz) (hb : 0 < bytes) (hk : 0 < k) (hroom : 2 * (n + k) * bytes ≤ 2 ^ 48) (hone : new.all AVal.one = true) :
  ∃ p' H', aAppend e sz bytes p q H = some (p', H') ∧ OwnS H' p' sz (n + k) (cs ++ new) e ∧ FreshS H p' ∧ ExtP H H' p := by
 have hk0 : ¬ k = 0 := by omega
 have hs0 : ¬ sz = 0 := by omega
 have hb0 : ¬ bytes = 0 := by omega
 rcases h.it with ⟨rfl, rfl, rfl⟩ | ⟨r, e', rfl, h2, h3, h4, h5, h6⟩
 ·refine ⟨.slice H.n 0 k none sz, H.push (.row new true (2 * e)), ?_, ⟨Or.inr ⟨H.n, 2 * e, by rw [Nat.zero_add], Nat.lt_succ_self _, by rw [List.nil_append]; exact push_get_eq, half_even _, by rw [List.nil_append, Nat.zero_add]; exact hnl, by omega⟩⟩, ⟨fun _ _ _ _ _ q => by cases q; exact Nat.le_refl _⟩, ⟨Nat.le_succ _, fun r hr _ => push_get_lt hr⟩⟩
  rw [Nat.zero_add] at hroom
  simp only [aAppend, hf.1]
  rw [bind_of hf.2]
  simp only [hone, hnl, Bool.not_true, ne_eq, not_true, decide_false, hs0, hb0, Bool.or_false, Bool.false_eq_true, if_false, hk0, if_pos hroom, M.bind, aNew, M.pure]
 ·have hcl : 0 + n * sz ≤ cs.length := by omega
  have hno : ¬ (0 + (n + k) * sz ≤ cs.length) := by
   have : 0 < k * sz := Nat.mul_pos hk hsz
   rw [Nat.add_mul]; omega
  refine ⟨.slice H.n 0 (n + k) none sz, (H.set r .dead).push (.row (cs ++ new) true (2 * e + 1)), ?_, ⟨Or.inr ⟨H.n, 2 * e + 1, rfl, Nat.lt_succ_self _, push_get_eq (H := H.set r .dead), half_odd _, by rw [List.length_append, hnl, h5, Nat.add_mul], by omega⟩⟩, ⟨fun _ _ _ _ _ q => by cases q; exact Nat.le_refl _⟩, ⟨Nat.le_succ _, fun s hs hne => by
   have hsr : s ≠ r := fun q => hne.ne _ _ _ _ _ rfl q.symm
   rw [push_get_lt (H := H.set r .dead) hs, set_get_ne hsr]⟩⟩
  have ha : aRow r H = some ((cs, true), H) := by simp only [aRow, if_pos h2, h3]
  have hmv : aMove r e (.row (((cs.drop 0).take (n * sz)) ++ new) true (2 * e + 1)) H = some (H.n, (H.set r .dead).push (.row (cs ++ new) true (2 * e + 1))) := by
   simp only [aMove, h3, h4, nbeq_self]
   rw [List.drop_zero, List.take_of_length_le (by omega)]
  simp only [aAppend, hf.1]
  rw [bind_of hf.2]
  simp only [hone, hnl, Bool.not_true, ne_eq, not_true, decide_false, hs0, hb0, Bool.or_false, Bool.false_eq_true, if_false]
  rw [bind_of ha]
  simp only [hk0, if_false, hno, Bool.true_and, decide_eq_true hcl, decide_eq_true hroom, Bool.and_true, if_true]
  rw [bind_of hmv]
  rfl
theorem aFirst_at {H : AHeap} {q : AVal} {sz k : Nat} {new : List AVal} (h : SliceAt H q sz k new) : aLenOf q = some k ∧ aFirst sz k q H = some (new, H) := by
 rcases h.it with ⟨rfl, rfl, rfl⟩ | ⟨r, off, cap, row, rw, e0, rfl, hr, hg, hle, hc, _⟩
 ·exact ⟨rfl, rfl⟩
 ·exact ⟨rfl, by simp only [aFirst, ne_eq, not_true, if_false, M.bind, aRow, if_pos hr, hg, if_pos hle, hc, M.pure]⟩
section
variable {call : ACall} {fr : AFrame} {H : AHeap} {K : AVal → AHeap → Prop}
theorem WpX.grow {e : TypeId} {x y : ROpd} {p q : AVal} {sz n k bytes : Nat} {cs new : List AVal} (hx : x.ev fr = p) (hy : y.ev fr = q) [h : OwnS H p sz n cs e] [hq : SliceAt H q sz k new] (hsz : 0 < sz) (hb : 0 < bytes) (hk : 0 < k) (hroom : 2 * (n + k) * bytes ≤ 2 ^ 48) (hone : new.all AVal.one = true)
  (hK : ∀ p' H', OwnS H' p' sz (n + k) (cs ++ new) e → FreshS H p' → ExtP H H' p → K p' H') : WpX (.append e sz bytes x y) call fr H K := by
 obtain ⟨p', H', h1, h2, h3, h4⟩ := exec_grow h (aFirst_at hq) hq.len hsz hb hk hroom hone
 exact ⟨p', H', by simp only [ROp.exec, hx, hy]; exact h1, hK p' H' h2 h3 h4⟩
end
class HasLoop (H : AHeap) (r : Nat) (R : outParam RLoop) : Prop where
 lt : r < H.n
 get : H.get r = .loop R
instance {H : AHeap} {r : Nat} {R : RLoop} [h : HasLoop H r R] : LtN r H := ⟨h.lt⟩
theorem HasLoop.ext {H H' : AHeap} {r : Nat} {R : RLoop} (h : HasLoop H r R) (x : Ext H H') : HasLoop H' r R := ⟨Nat.lt_of_lt_of_le h.lt x.n, by rw [x.get r h.lt]; exact h.get⟩
instance {H H' : AHeap} {r : Nat} {R : RLoop} [x : ExtI H H'] [h : HasLoop H r R] : HasLoop H' r R := h.ext x.ext
instance {H : AHeap} {o : AObj} {r : Nat} {R : RLoop} [h : HasLoop H r R] : HasLoop (H.push o) r R := ⟨Nat.lt_succ_of_lt h.lt, by rw [push_get_lt h.lt]; exact h.get⟩
instance {H : AHeap} {R : RLoop} : HasLoop (H.push (.loop R)) H.n R := ⟨Nat.lt_succ_self _, push_get_eq⟩
instance {H : AHeap} {s : Nat} {o : AObj} {r : Nat} {R : RLoop} [h : HasLoop H r R] [k : NeR r s] : HasLoop (H.set s o) r R := ⟨h.lt, by rw [set_get_ne k.ne]; exact h.get⟩
instance {H : AHeap} {r : Nat} {R R' : RLoop} [h : HasLoop H r R'] : HasLoop (H.set r (.loop R)) r R := ⟨h.lt, set_get_eq⟩
instance {H H' : AHeap} {r : Nat} {R : RLoop} {q : AVal} [x : ExtP H H' q] [h : HasLoop H r R] [k : RowNe q r] : HasLoop H' r R := ⟨Nat.lt_of_lt_of_le h.lt x.n, by rw [x.get r h.lt k]; exact h.get⟩
theorem con_ofR {ext : Exts} {prog : FuncId → Option RFunc} {d : Nat} {f : FuncId} {rf : RFunc} {c : RCode} {args : List AVal} {H : AHeap} {Q : AVal → AHeap → Prop} (hp : prog f = some rf) (hc : rf.body = .ranges c) (hn : Nat.ble args.length rf.nt = true)
  (h : ∀ n, fuel0 + d ≤ n → Wp (callN ext prog n) n c (argFrame args) H fun x fr' H' => (match x with | .exit _ => False | _ => True) ∧ ∃ H2, takeMarks (marksOf (fr' rf.nt)) H' = some ((), H2) ∧ ∃ vs, getAll fr' rf.results H2 = some (vs, H2) ∧ Q (aResult vs) H2) : Con ext prog (d + 1) f args H Q := by
 intro n hle
 obtain ⟨k, rfl⟩ : ∃ k, n = k + 1 := ⟨n - 1, by unfold fuel0 at hle; omega⟩
 obtain ⟨nt, body, res⟩ := rf
 simp only [] at hc
 subst hc
 obtain ⟨x, fr', H', h1, h2, H2, h5, vs, h3, h4⟩ := h k (by omega)
 refine ⟨aResult vs, H2, ?_, h4⟩
 have hlt : ¬ nt < args.length := by have := Nat.le_of_ble_eq_true hn; simp only at this; omega
 simp only at h5 h3
 simp only [callN, hp, RFunc.run, if_neg hlt, M.bind, h1]
 cases x with
 | exit i => exact h2.elim
 | normal => simp only [M.bind, h5, h3, M.pure]
 | ret => simp only [M.bind, h5, h3, M.pure]
theorem takeMarks1 {H : AHeap} {d l : Nat} {R : RLoop} (h : HasLoop H l R) (hs : R.st = 3) (hd : R.d = d) : takeMarks [.ptr d l] H = some ((), H.set l (.loop { R with st := 4 })) := by
 have h1 : Nat.blt l H.n = true := by simpa using h.lt
 have h2 : (Nat.beq R.st 3 && Nat.beq R.d d) = true := by rw [hs, hd]; simp
 have h3 : takeMark (.ptr d l) H = some ((), H.set l (.loop { R with st := 4 })) := by
  show (match Nat.blt l H.n, H.get l with
   | true, .loop R => (match Nat.beq R.st 3 && Nat.beq R.d d with
    | true => some ((), H.set l (.loop { R with st := 4 }))
    | false => none)
   | _, _ => none) = _
  rw [h1, h.get]
  simp only [h2]
 show M.bind (takeMark (.ptr d l)) (fun _ => takeMarks []) H = _
 simp only [M.bind, h3, takeMarks, M.pure]
section
variable {call : ACall} {lf : Nat} {fr : AFrame} {H : AHeap} {Q : RExit → AFrame → AHeap → Prop}
theorem Wp.range {fns : List FuncId} {nt : Nat} {g : ROpd} {ps : List Nat} {a b : RCode} {gf : FuncId} {fi ca vs : List AVal} (hg : g.ev fr = .func (.func gf) fi ca) (hv : fr nt = .tuple vs) (hf : fns.contains gf = true)
  (h : ∃ v H2 R, call gf (fi ++ [.yield (H.n + 1)] ++ ca) ((H.push .dead).push (.loop ⟨H.n, nt, fr, ps, a, b, 0, .normal⟩)) = some (v, H2) ∧ H2.get (H.n + 1) = .loop R ∧ (Nat.beq R.st 1 || Nat.beq R.st 4) = false ∧
   Q R.pend (upd fr nt (.tuple (.ptr H.n (H.n + 1) :: vs))) (H2.set (H.n + 1) (.loop { R with st := 3 }))) : Wp call lf (.rangeFunc fns nt g ps a b) fr H Q := by
 obtain ⟨v, H2, R, h1, h2, h3, h4⟩ := h
 refine ⟨_, _, _, ?_, h4⟩
 simp only [RCode.exec, hg, hv, hf, h1, h2, h3]
end
theorem round_next {ext : Exts} {prog : FuncId → Option RFunc} {k r : Nat} {avs : List AVal} {H : AHeap} {K : AHeap → Prop} (hp : prog yieldId = none) {R : RLoop} (hl : HasLoop H r R) (hst : R.st = 0) (hpd : R.pend = .normal) (hlen : (Nat.beq avs.length R.ps.length && R.ps.all (fun t => Nat.blt t R.nt)) = true)
  (h : Wp (callN ext prog k) k R.assign (setAll R.fr (R.ps.zip avs)) H fun x fr1 H1 => x = .normal ∧ HasLoop H1 r R ∧ Wp (callN ext prog k) k R.body fr1 (H1.set r (.loop { R with st := 1 })) fun x _ H2 => x = .normal ∧ HasLoop H2 r { R with st := 1 } ∧ K (H2.set r (.loop R))) :
  ∃ H', callN ext prog (k + 1) yieldId (.yield r :: avs) H = some (.bool true, H') ∧ K H' := by
 obtain ⟨x, fr1, H1, h1, rfl, h2, x2, fr2, H2, h3, rfl, h4, h5⟩ := h
 refine ⟨_, ?_, h5⟩
 have e1 : Nat.blt r H.n = true := by simpa using hl.lt
 have e2 : Nat.beq R.st 0 = true := by rw [hst]; rfl
 have e3 : ({ R with st := 0, pend := .normal } : RLoop) = R := by rw [← hst, ← hpd]
 have e4 : Nat.beq yieldId yieldId = true := by simp
 simp only [callN, hp, e4]
 unfold roundRun
 simp only [e1, hl.get, hlen, h1, h2.get, e2, h3, h4.get, Nat.beq_refl, e3]
abbrev Bs := List UInt8
abbrev strV (l : Bs) : AVal := .str ⟨l.toArray⟩
theorem str_size (l : Bs) : (⟨l.toArray⟩ : ByteArray).size = l.length := by
 show l.toArray.size = l.length
 simp
section
variable {call : ACall} {fr : AFrame} {H : AHeap} {KF : AFrame → AHeap → Prop} {os : List ROper} {d : Nat}
theorem exec_lenStr {x : ROpd} {l : Bs} (hx : x.ev fr = strV l) : (ROp.lenStr x).exec call fr H = some (.int .i64 l.length, H) := by
 simp only [ROp.exec, hx, aLenStr, str_size, M.ofOption, M.pure]
theorem Fo.lenStr {x : ROpd} {l : Bs} {v : AVal} (hx : x.ev fr = strV l) (hv : AVal.int .i64 l.length = v) (h : WpO call os (upd fr d v) H KF) : WpO call (⟨some d, .lenStr x, none⟩ :: os) fr H KF := by
 subst hv; exact WpO.step rfl ⟨_, _, exec_lenStr hx, h⟩
end
theorem Fo.uptr {call : ACall} {fr : AFrame} {H : AHeap} {KF : AFrame → AHeap → Prop} {os : List ROper} {d : Nat} {t s r : Nat} {x : ROpd} {cs : List AVal} (hx : x.ev fr = .ptr r 0) [h : HasRow H r cs true (2 * t)] (hs : Nat.ble s cs.length = true) (h0 : Nat.blt 0 s = true) (hK : WpO call os (upd fr d (.ptr r 0)) H KF) :
  WpO call (⟨some d, .uptr t s x, none⟩ :: os) fr H KF := by
 refine WpO.step rfl ⟨.ptr r 0, H, ?_, hK⟩
 have h1 : Nat.blt r H.n = true := by simpa using h.lt
 have h2 : (Nat.blt r H.n && Nat.beq 0 0 && Nat.blt 0 s) = true := by rw [h1, h0]; rfl
 have h3 : (Nat.beq (2 * t) (2 * t) && Nat.ble s cs.length) = true := by rw [hs]; simp
 have h4 : aUptr t s (.ptr r 0) H = some (.ptr r 0, H) := by
  show (match Nat.blt r H.n && Nat.beq 0 0 && Nat.blt 0 s with
   | true => (match H.get r with
    | .row cs true e => (match Nat.beq e (2 * t) && Nat.ble s cs.length with
     | true => some (AVal.ptr r 0, H)
     | false => none)
    | _ => none)
   | false => none) = _
  rw [h2, h.get]
  simp only [h3]
 show aUptr t s (x.ev fr) H = _
 rw [hx, h4]
theorem WpX.growX {call : ACall} {fr : AFrame} {H : AHeap} {K : AVal → AHeap → Prop} {e : TypeId} {x y : ROpd} {p q : AVal} {sz n k bytes : Nat} {cs new : List AVal} (hx : x.ev fr = p) (hy : y.ev fr = q) (h : OwnS H p sz n cs e) (hq : SliceAt H q sz k new) (hsz : 0 < sz) (hb : 0 < bytes) (hk : 0 < k) (hroom : 2 * (n + k) * bytes ≤ 2 ^ 48) (hone : new.all AVal.one = true)
  (hK : ∀ p' H', OwnS H' p' sz (n + k) (cs ++ new) e → FreshS H p' → ExtP H H' p → K p' H') : WpX (.append e sz bytes x y) call fr H K := WpX.grow hx hy hsz hb hk hroom hone hK
theorem WpX.yield {call : ACall} {fr : AFrame} {H : AHeap} {K : AVal → AHeap → Prop} {r : Nat} {o : ROpd} {l : List ROpd} {args : List AVal} (hf : o.ev fr = .yield r) (hl : l.map (·.ev fr) = args) (h : ∃ v H', call yieldId (.yield r :: args) H = some (v, H') ∧ K v H') : WpX (.call o l) call fr H K := by
 obtain ⟨v, H', h1, h2⟩ := h
 refine ⟨v, H', ?_, h2⟩
 simp only [ROp.exec, hf, hl, aCallV]
 exact h1
theorem exec_ldNP {call : ACall} {fr : AFrame} {H : AHeap} {a : ROpd} {p : AVal} {sz n j m : Nat} {cs l : List AVal} (ha : a.ev fr = .ptr (rowOf p) (offOf p + j)) [s : SliceAt H p sz n cs] (hm : 0 < m) (hv : j + m ≤ cs.length) (hl : (cs.drop j).take m = l) : (ROp.load (some m) a).exec call fr H = some (.agg l, H) := by
 obtain ⟨v, H', h1, h2, h3⟩ := WpX.ldNP (call := call) (K := fun v H' => v = .agg l ∧ H' = H) ha hm hv hl ⟨rfl, rfl⟩
 rw [h1, h2, h3]
theorem Fo.stO {call : ACall} {fr : AFrame} {H : AHeap} {KF : AFrame → AHeap → Prop} {os : List ROper} {a x : ROpd} {r off : Nat} {cs l : List AVal} {e : TypeId} {v : AVal} (ha : a.ev fr = .ptr r off) (hx : x.ev fr = v) [o : OneV v] [hg : HasRow H r cs true e] (hl : Nat.ble (off + 1) cs.length = true) (hs : cs.set off v = l) (h : WpO call os fr (H.set r (.row l true e)) KF) :
  WpO call (⟨none, .store 1 a x, none⟩ :: os) fr H KF :=
 WpO.do' (WpX.st ha hx o.cells rfl hl (by simp only [List.all_cons, o.one, List.all_nil, Bool.and_self]) (by rw [← hs]; rfl) h)
theorem setAt_get : ∀ (vs cs : List AVal) (off i : Nat), off + vs.length ≤ cs.length → (setAt cs off vs)[i]? = if off ≤ i ∧ i < off + vs.length then vs[i - off]? else cs[i]?
 | [], cs, off, i, _ => by
  rw [if_neg (by simp only [List.length_nil]; omega)]; rfl
 | v :: vs, cs, off, i, h => by
  rw [List.length_cons] at h
  rw [setAt, setAt_get vs (cs.set off v) (off + 1) i (by rw [List.length_set]; omega), List.length_cons]
  by_cases h1 : off = i
  ·subst h1
   rw [if_neg (by omega), if_pos (by omega), List.getElem?_set, if_pos rfl, if_pos (by omega), Nat.sub_self]; rfl
  ·by_cases h2 : off + 1 ≤ i ∧ i < off + 1 + vs.length
   ·rw [if_pos h2, if_pos (by omega), show i - off = (i - (off + 1)) + 1 by omega]; rfl
   ·rw [if_neg h2, if_neg (by omega), List.getElem?_set, if_neg h1]
section
variable {call : ACall} {n ref : Nat} {its : List DItem} {H0 H : AHeap} {E : List (Nat × AHeap)} {Rd : List (Nat × (AHeap → Bool))} {fr : AFrame} {K : AFrame → AHeap → Prop} {bm d : Nat} {pre : Bool} {g : Option (Nat × Bool)}
theorem Fe.slc {x : ROpd} {lo hi : Option ROpd} {p : AVal} {l : List UInt8} {a b : Nat} (hw : ROper.wanted fr ⟨some d, .sliceS 1 x lo hi none, g⟩ = true) (hx : x.ev fr = p) (hlo : bnd (lo.map (·.ev fr)) 0 a) (hhi : bnd (hi.map (·.ev fr)) l.length b) (hab : a ≤ b) (hbl : b ≤ l.length) [s : BytesI H p l]
  (h : ∀ v H1, Part p v a (b - a) → BytesI H1 v ((l.drop a).take (b - a)) → ExtI H H1 → AllR bm H1 Rd ∧ WpE call (n + 1) ref its H0 ((n, H) :: E) Rd (upd fr d v) H1 K) : WpE call n ref (⟨⟨some d, .sliceS 1 x lo hi none, g⟩, bm, 2, pre⟩ :: its) H0 E Rd fr H K := by
 obtain ⟨v, H1, h1, h2, h3, h4⟩ := exec_slc (call := call) hx hlo hhi hab hbl (s := s)
 obtain ⟨h5, h6⟩ := h v H1 h2 h3 ⟨h4⟩
 exact WpE.effect hw h1 h5 h6
end
abbrev rowA (r : Nat) : AVal := .slice r 0 640 (some 640) 1
theorem z640_eq : z640 = cellsI (List.replicate 640 0) := by
  unfold z640 cellsI
  rw [List.map_replicate]
class Len640 (L : List Int) : Prop where
  it : L.length = 640
instance : Len640 (List.replicate 640 0) := ⟨List.length_replicate⟩
instance {L : List Int} {j : Nat} {v : Int} [h : Len640 L] : Len640 (L.set j v) := ⟨by rw [List.length_set]; exact h.it⟩
theorem arr_ints {H : AHeap} {r : Nat} {L : List Int} {rw : Bool} {e : TypeId} (h : HasRow H r (cellsI L) rw e) (hl : L.length = 640) : IntsI H (rowA r) L := by
  refine ⟨Or.inr ⟨r, 0, some 640, cellsI L, rw, e, by rw [hl], h.lt, h.get, by rw [cellsI_length]; omega, ?_, by rw [hl]; exact Nat.le_refl _⟩⟩
  rw [List.drop_zero, Nat.mul_one, ← cellsI_length L, List.take_length]
theorem new640 {H : AHeap} {e : TypeId} : IntsI (H.push (.row z640 true e)) (rowA H.n) (List.replicate 640 0) := by
  rw [z640_eq]
  exact arr_ints (rw := true) (e := e) ⟨Nat.lt_succ_self _, push_get_eq⟩ List.length_replicate
theorem new640w {H : AHeap} {cs : List AVal} {e : TypeId} : WrS (H.push (.row cs true e)) (rowA H.n) := ⟨fun r off len cap sz q => by cases q; exact ⟨_, _, push_get_eq⟩⟩
theorem new640f {H : AHeap} : FreshS H (rowA H.n) := ⟨fun r off len cap sz q => by cases q; exact Nat.le_refl _⟩
section
variable {call : ACall} {fr : AFrame} {H : AHeap}
theorem exec_idxA {n r off j : Nat} {k : IntKind} {x i : ROpd} (hx : x.ev fr = .ptr r off) (hi : i.ev fr = .int k (j : Int)) (h : j < n) : (ROp.idxA n 1 x i).exec call fr H = some (.ptr r (off + j), H) := by
  simp only [ROp.exec, hx, hi, aIdxA, if_pos (show (0 : Int) ≤ (j : Int) ∧ (j : Int) < (n : Int) by omega), M.ofOption, M.pure, Int.toNat_natCast, Nat.mul_one]
theorem exec_ldA {a : ROpd} {r : Nat} {L : List Int} (ha : a.ev fr = .ptr r 0) (hl : L.length = 640) [s : IntsI H (rowA r) L] : (ROp.load (some 640) a).exec call fr H = some (.agg (cellsI L), H) :=
  exec_ldNP (p := rowA r) (j := 0) ha (by decide) (by rw [cellsI_length, hl]; decide) (by rw [List.drop_zero, ← hl, ← cellsI_length L, List.take_length])
theorem getAllA {t r : Nat} {L : List Int} {rs : List RRes} {vs : List AVal} (ha : fr t = .ptr r 0) (hl : L.length = 640) [s : IntsI H (rowA r) L] (h : getAll fr rs H = some (vs, H)) : getAll fr (.cell t (some 640) :: rs) H = some (.agg (cellsI L) :: vs, H) := by
  have e := exec_ldA (call := noCall) (a := .tmp t) ha hl (s := s)
  simp only [ROp.exec, ROpd.ev] at e
  simp only [getAll, RRes.get, M.bind, e, M.pure, h]
theorem setAt_all : ∀ (vs cs : List AVal) (o : Nat), o + vs.length = cs.length → setAt cs o vs = cs.take o ++ vs
  | [], cs, o, h => by
    simp only [List.length_nil, Nat.add_zero] at h
    simp only [setAt, List.append_nil]; rw [h, List.take_length]
  | v :: vs, cs, o, h => by
    simp only [List.length_cons] at h
    simp only [setAt]
    rw [setAt_all vs _ _ (by rw [List.length_set]; omega), List.take_add_one, List.getElem?_set_self (by omega), List.take_set_of_le (Nat.le_refl _)]
    simp
end
section
variable {call : ACall} {fr : AFrame} {H : AHeap} {K : AVal → AHeap → Prop}
theorem WpX.stPN {a x : ROpd} {p : AVal} {sz n j m : Nat} {cs vs : List AVal} {v : AVal} (ha : a.ev fr = .ptr (rowOf p) (offOf p + j)) (hx : x.ev fr = v) (hv : v.cells = vs) (hm : vs.length = m) (hm0 : 0 < m) (ho : vs.all AVal.one = true) [s : SliceAt H p sz n cs] [w : WrS H p] (hj : j + m ≤ cs.length)
    (h : ∀ H1, SliceAt H1 p sz n (setAt cs j vs) → WrS H1 p → ExtP H H1 p → K aundef H1) : WpX (.store m a x) call fr H K := by
  rcases s.it with ⟨_, _, rfl⟩ | ⟨r, off, cap, row, rw, e, rfl, hr, hg, hl, hc, hcap⟩
  · simp at hj; omega
  · obtain ⟨cs', e', hg'⟩ := w.it _ _ _ _ _ rfl
    rw [hg] at hg'; cases hg'
    have hlen := s.len
    refine WpX.store ha hx (by rw [hv]; exact hm) hr hg (by rw [hv, hm]; simp only [offOf]; omega) (by rw [hv]; exact ho) ?_
    rw [hv]
    refine h _ ⟨Or.inr ⟨r, off, cap, setAt row (off + j) vs, true, e, rfl, hr, set_get_eq, by rw [setAt_length]; exact hl, ?_, hcap⟩⟩ ⟨fun r' off' len' cap' sz' e' => by cases e'; exact ⟨_, _, set_get_eq⟩⟩ ⟨Nat.le_refl _, fun r' hr' hne => set_get_ne (fun hh => hne.ne _ _ _ _ _ rfl hh.symm)⟩
    have hcl : cs.length = n * sz := hlen
    rw [← hc] at hj ⊢
    rw [List.length_take, List.length_drop] at hj
    apply List.ext_getElem?
    intro i
    rw [setAt_get _ _ _ _ (by rw [List.length_take, List.length_drop]; omega)]
    rw [List.getElem?_take, List.getElem?_drop, setAt_get _ _ _ _ (by omega), List.getElem?_take, List.getElem?_drop]
    by_cases hi : i < n * sz
    · rw [if_pos hi]
      by_cases hij : j ≤ i ∧ i < j + vs.length
      · rw [if_pos hij, if_pos (by omega), show off + i - (off + j) = i - j by omega]
      · rw [if_neg hij, if_neg (by omega), if_pos hi]
    · rw [if_neg hi, if_neg (by omega), if_neg hi]
end
section
variable {call : ACall} {its : List DItem} {H0 : AHeap} {n ref : Nat} {E : List (Nat × AHeap)} {Rd : List (Nat × (AHeap → Bool))} {fr : AFrame} {H : AHeap} {K : AFrame → AHeap → Prop} {g : Option (Nat × Bool)} {b : Nat} {pre : Bool}
theorem WpE.stPN {d : Option Nat} {a x : ROpd} {p : AVal} {sz k j m : Nat} {cs vs : List AVal} {v : AVal} (hw : ROper.wanted fr ⟨d, .store m a x, g⟩ = true) (ha : a.ev fr = .ptr (rowOf p) (offOf p + j)) (hx : x.ev fr = v) (hv : v.cells = vs) (hm : vs.length = m) (hm0 : 0 < m) (ho : vs.all AVal.one = true) [s : SliceAt H p sz k cs] [w : WrS H p] (hj : j + m ≤ cs.length)
    (h : ∀ H1, SliceAt H1 p sz k (setAt cs j vs) → WrS H1 p → ExtP H H1 p → AllR b H1 Rd ∧ WpE call (n + 1) ref its H0 ((n, H) :: E) Rd (put fr d aundef) H1 K) : WpE call n ref (⟨⟨d, .store m a x, g⟩, b, 2, pre⟩ :: its) H0 E Rd fr H K := by
  obtain ⟨v', H1, h1, rfl, h2, h3, h4⟩ := WpX.stPN (call := call) (K := fun v H1 => v = aundef ∧ SliceAt H1 p sz k (setAt cs j vs) ∧ WrS H1 p ∧ ExtP H H1 p) ha hx hv hm hm0 ho hj fun H1 q1 q2 q3 => ⟨rfl, q1, q2, q3⟩
  obtain ⟨h5, h6⟩ := h H1 h2 h3 h4
  exact WpE.effect hw h1 h5 h6
end
theorem allOne_ints (L : List Int) : (cellsI L).all AVal.one = true := by
  rw [List.all_eq_true]; intro v hv
  unfold cellsI at hv
  obtain ⟨n, _, rfl⟩ := List.mem_map.1 hv
  rfl
theorem set_all640 {L M : List Int} (hl : L.length = 640) (hm : M.length = 640) : setAt (cellsI M) 0 (cellsI L) = cellsI L := by
  rw [setAt_all _ _ _ (by rw [cellsI_length, cellsI_length]; omega)]; rfl
def dropZ (w k x : Int) : Int := bif k < 0 then ((w - 1 - x) * -k).tdiv 64 else (x * k).tdiv 64
def dropN (w : Nat) (k : Int) (x : Nat) : Nat := (dropZ w k x).toNat
theorem dropN_eq {w x : Nat} {k : Int} (hx : x < w) (hw : w ≤ 640) (hk : -3 ≤ k ∧ k ≤ 3) : dropZ w k x = ((dropN w k x : Nat) : Int) ∧ dropN w k x ≤ 29 := by
  unfold dropN dropZ
  by_cases h : k < 0
  · simp only [decide_eq_true h, cond_true]
    obtain ⟨m, hm, h1, h2⟩ : ∃ m : Nat, -k = (m : Int) ∧ 1 ≤ m ∧ m ≤ 3 := ⟨(-k).toNat, by omega, by omega, by omega⟩
    have e : (w : Int) - 1 - x = ((w - 1 - x : Nat) : Int) := by omega
    have h3 : (w - 1 - x) * m ≤ 639 * 3 := Nat.mul_le_mul (by omega) h2
    rw [hm, e, show ((w - 1 - x : Nat) : Int) * (m : Int) = (((w - 1 - x) * m : Nat) : Int) by push_cast; rfl]
    rw [show ((((w - 1 - x) * m : Nat) : Int)).tdiv 64 = ((((w - 1 - x) * m) / 64 : Nat) : Int) from rfl]
    omega
  · simp only [decide_eq_false h, cond_false]
    obtain ⟨m, hm, h2⟩ : ∃ m : Nat, k = (m : Int) ∧ m ≤ 3 := ⟨k.toNat, by omega, by omega⟩
    have h3 : x * m ≤ 639 * 3 := Nat.mul_le_mul (by omega) h2
    rw [hm, show (x : Int) * (m : Int) = ((x * m : Nat) : Int) by push_cast; rfl]
    rw [show (((x * m : Nat) : Int)).tdiv 64 = (((x * m) / 64 : Nat) : Int) from rfl]
    omega
def dropL (w : Nat) (k : Int) (i : Nat) : List Int := (List.range i).map (fun x => (dropN w k x : Int)) ++ List.replicate (640 - i) 0
theorem dropL_zero (w : Nat) (k : Int) : dropL w k 0 = List.replicate 640 0 := by simp only [dropL, List.range_zero, List.map_nil, List.nil_append, Nat.sub_zero]
theorem dropL_length {w : Nat} {k : Int} {i : Nat} (h : i ≤ 640) : (dropL w k i).length = 640 := by simp [dropL]; omega
theorem dropL_set {w : Nat} {k : Int} {i : Nat} (h : i < 640) : (dropL w k i).set i (dropN w k i : Int) = dropL w k (i + 1) := by
  unfold dropL
  rw [List.set_append_right _ _ (by simp), List.range_succ, List.map_append, List.append_assoc]
  congr 1
  rw [List.length_map, List.length_range, Nat.sub_self, show 640 - i = (640 - (i + 1)) + 1 by omega, List.replicate_succ]
  rfl
theorem dropL_get {w : Nat} {k : Int} {i x : Nat} (hx : x < i) (h : i ≤ 640) (hl : x < (dropL w k i).length) : (dropL w k i)[x] = (dropN w k x : Int) := by
  simp only [dropL]
  rw [List.getElem_append_left (by simpa using hx)]
  simp
def maxI (l : List Int) : Nat → Int
  | 0 => 0
  | i + 1 => if l.getD i 0 > maxI l i then l.getD i 0 else maxI l i
def grN (w : Nat) (k : Int) : Nat → Nat
  | 0 => 0
  | i + 1 => if dropN w k i > grN w k i then dropN w k i else grN w k i
theorem max_drop {w : Nat} {k : Int} (hw : w ≤ 640) : ∀ i, i ≤ 640 → maxI (dropL w k w) i = (grN w k (min i w) : Int)
  | 0, _ => by rw [Nat.zero_min]; rfl
  | i + 1, hi => by
    have ih := max_drop (k := k) hw i (by omega)
    by_cases h : i < w
    · rw [Nat.min_eq_left (by omega)] at ih ⊢
      have hd : (dropL w k w).getD i 0 = (dropN w k i : Int) := by
        have hl : i < (dropL w k w).length := by rw [dropL_length hw]; omega
        rw [List.getD_eq_getElem?_getD, List.getElem?_eq_getElem hl, Option.getD_some, dropL_get h hw hl]
      simp only [maxI, grN, hd, ih]
      split <;> split <;> omega
    · rw [Nat.min_eq_right (by omega)] at ih ⊢
      have hd : (dropL w k w).getD i 0 = 0 := by
        have hl : i < (dropL w k w).length := by rw [dropL_length hw]; omega
        rw [List.getD_eq_getElem?_getD, List.getElem?_eq_getElem hl, Option.getD_some]
        simp only [dropL]
        rw [List.getElem_append_right (by simp; omega), List.getElem_replicate]
      simp only [maxI, hd, ih]
      rw [if_neg (by omega)]
theorem gr_le {w : Nat} {k : Int} (hw : w ≤ 640) (hk : -3 ≤ k ∧ k ≤ 3) : ∀ i, i ≤ w → grN w k i ≤ 29
  | 0, _ => Nat.zero_le _
  | i + 1, hi => by
    have := gr_le hw hk i (by omega)
    have := (dropN_eq (x := i) (by omega) hw hk).2
    simp only [grN]; split <;> omega
theorem gr_ge {w : Nat} {k : Int} : ∀ i x, x < i → dropN w k x ≤ grN w k i
  | i + 1, x, h => by
    simp only [grN]
    by_cases e : x = i
    · subst e; split <;> omega
    · have := gr_ge (w := w) (k := k) i x (by omega)
      split <;> omega
section
variable {call : ACall} {fr : AFrame} {H : AHeap}
end
end Go.Am
namespace Go.Am
open Go
attribute [local irreducible] Wp WpO WpX WpE
class ColI (w x : Nat) (k : Int) : Prop where
 hx : x < w
 hw : w ≤ 640
 hk : -3 ≤ k ∧ k ≤ 3
instance K_drop {w x : Nat} {k : Int} {H : AHeap} [c : ColI w x k] : PureCon ext prog 60 [.int .i64 (w : Int), .int .i64 k, .int .i64 (x : Int)] H 1 (.int .i64 (dropN w k x : Int)) := ⟨by
 refine con_of (show prog 60 = some c60 from rfl) rfl rfl fun n hn => ?_
 have hx := c.hx
 have hw := c.hw
 have hk := c.hk
 obtain ⟨e1, e2⟩ := dropN_eq hx hw hk
 have hwr : IntKind.i64.wrap (dropN w k x : Int) = (dropN w k x : Int) := w64 (by omega)
 unfold dropZ at e1
 cases h1 : decide (k < 0)
 ·have h2 : k ≥ 0 := by have := of_decide_eq_false h1; omega
  rw [h1, cond_false] at e1
  have h3 : (x : Int) * k ≤ 639 * 3 := Int.mul_le_mul (by omega) (by omega) h2 (by decide)
  have h4 : 0 ≤ (x : Int) * k := Int.mul_nonneg (by omega) h2
  have w1 : IntKind.i64.wrap ((x : Int) * k) = (x : Int) * k := w64 (by omega)
  have w2 : IntKind.i64.wrap (((x : Int) * k).tdiv 64) = (dropN w k x : Int) := by rw [e1]; exact hwr
  repeat first
   | refine mI ?_
   | (refine bn rfl rfl rfl (by simp only [h1, w1, w2]; rfl) ?_)
   | refine nl hKF ?_
   | refine sq ?_
   | refine rg fun KF hKF => ?_
   | refine cf rfl ?_
   | refine sk ?_
   | refine rt ?_
   | dsimp only [cond_true, cond_false]
  refine rz trivial ?_
  exact ⟨rfl, Ext0.ext⟩
 ·have h2 : k < 0 := of_decide_eq_true h1
  rw [h1, cond_true] at e1
  have h3 : ((w : Int) - 1 - x) * -k ≤ 639 * 3 := Int.mul_le_mul (by omega) (by omega) (by omega) (by decide)
  have h4 : 0 ≤ ((w : Int) - 1 - x) * -k := Int.mul_nonneg (by omega) (by omega)
  have w3 : IntKind.i64.wrap ((w : Int) - 1) = (w : Int) - 1 := w64 (by omega)
  have w4 : IntKind.i64.wrap ((w : Int) - 1 - (x : Int)) = (w : Int) - 1 - (x : Int) := w64 (by omega)
  have w5 : IntKind.i64.wrap (0 - k) = -k := by rw [w64 (by omega), Int.zero_sub]
  have w1 : IntKind.i64.wrap (((w : Int) - 1 - x) * -k) = ((w : Int) - 1 - x) * -k := w64 (by omega)
  have w2 : IntKind.i64.wrap ((((w : Int) - 1 - x) * -k).tdiv 64) = (dropN w k x : Int) := by rw [e1]; exact hwr
  repeat first
   | refine mI ?_
   | (refine bn rfl rfl rfl (by simp only [h1, w3, w4, w5, w1, w2]; rfl) ?_)
   | (refine Fo.now rfl rfl (by simp only [h1, w3, w4, w5, w1, w2]; rfl) ?_)
   | refine nl hKF ?_
   | refine sq ?_
   | refine rg fun KF hKF => ?_
   | refine ct rfl ?_
   | refine rt ?_
   | dsimp only [cond_true, cond_false]
  refine rz trivial ?_
  exact ⟨rfl, Ext0.ext⟩⟩
def skB (k : Int) : Bool := decide (k ≥ -3) && decide (k ≤ 3)
theorem skB_iff {k : Int} : skB k = true ↔ -3 ≤ k ∧ k ≤ 3 := by simp only [skB, Bool.and_eq_true, decide_eq_true_eq]
instance K_isSkew {k : Int} {H : AHeap} : PureCon ext prog 41 [.int .i64 k] H 1 (.bool (skB k)) := ⟨by
 refine con_of (show prog 41 = some c41 from rfl) rfl rfl fun n hn => ?_
 unfold skB
 cases h1 : decide (k ≥ -3)
 ·skip
  repeat first
   | refine ox ?_
   | refine mI ?_
   | refine mB ?_
   | (refine bn rfl rfl rfl (by simp only [h1]; rfl) ?_)
   | refine fB ?_
   | refine nl hKF ?_
   | refine sq ?_
   | refine rg fun KF hKF => ?_
   | refine rt ?_
   | dsimp only [cond_true, cond_false]
  refine rz trivial ?_
  exact ⟨rfl, Ext0.ext⟩
 ·skip
  repeat first
   | refine oy ?_
   | refine mI ?_
   | refine mB ?_
   | (refine bn rfl rfl rfl (by simp only [h1]; rfl) ?_)
   | refine b0 ?_
   | refine tB ?_
   | refine nl hKF ?_
   | refine sq ?_
   | refine rg fun KF hKF => ?_
   | refine rt ?_
   | dsimp only [cond_true, cond_false]
  refine rz trivial ?_
  exact ⟨rfl, Ext0.ext⟩⟩
def ckS (g : Img) (k : Int) : Int := bif g.err == 0 then bif skB k then 0 else 1 else g.err
instance K_checkSkew {w h k : Int} {p : AVal} {H : AHeap} {l : List UInt8} [hp : BytesI H p l] : PureCon ext prog 32 [.agg [.int .i64 w, .int .i64 h, p], .int .i64 k] H 4 (.int .i64 (ckS ⟨w, h, l⟩ k)) := ⟨by
 refine con_of (show prog 32 = some c32 from rfl) rfl rfl fun n hn => ?_
 haveI := hp.one
 unfold ckS
 cases h0 : (Img.err ⟨w, h, l⟩ == 0)
 ·skip
  repeat first
   | refine mI ?_
   | (refine Fo.ldN rfl rfl (by simp only [↓nrmL, nrmZ, Nat.reduceEqDiff, ↓reduceIte, Nat.reduceAdd, Int.reduceBEq, Int.reduceBNe, h0, bne]; rfl) ?_)
   | (refine bn rfl rfl rfl (by simp only [h0, bne]; rfl) ?_)
   | (refine Fo.pcall (v' := ?_) hn rfl (by simp only [↓nrmL, nrmZ, Nat.reduceEqDiff, ↓reduceIte, Nat.reduceAdd, Int.reduceBEq, Int.reduceBNe, h0, bne, List.map]; rfl) rfl ?hv fun _ _ => ?_; case hv => rfl)
   | refine bA ?_
   | refine nl hKF ?_
   | refine sq ?_
   | refine rg fun KF hKF => ?_
   | refine ct rfl ?_
   | refine rt ?_
   | dsimp only [cond_true, cond_false]
  refine rz trivial ?_
  exact ⟨rfl, Ext0.ext⟩
 cases h1 : skB k
 ·skip
  repeat first
   | refine mI ?_
   | (refine Fo.ldN rfl rfl (by simp only [↓nrmL, nrmZ, Nat.reduceEqDiff, ↓reduceIte, Nat.reduceAdd, Int.reduceBEq, Int.reduceBNe, h0, h1, bne]; rfl) ?_)
   | (refine bn rfl rfl rfl (by simp only [h0, h1, bne]; rfl) ?_)
   | (refine Fo.pcall (v' := ?_) hn rfl (by simp only [↓nrmL, nrmZ, Nat.reduceEqDiff, ↓reduceIte, Nat.reduceAdd, Int.reduceBEq, Int.reduceBNe, h0, h1, bne, List.map]; rfl) rfl ?hv fun _ _ => ?_; case hv => (simp only [h0, h1, bne]; rfl))
   | (refine Fo.pcall (v' := ?_) hn rfl (by simp only [↓nrmL, nrmZ, Nat.reduceEqDiff, ↓reduceIte, Nat.reduceAdd, Int.reduceBEq, Int.reduceBNe, h0, h1, bne, List.map]; rfl) rfl ?hv fun _ _ => ?_; case hv => rfl)
   | refine bA ?_
   | (refine Fo.now rfl rfl (by simp only [↓nrmL, nrmZ, Nat.reduceEqDiff, ↓reduceIte, Nat.reduceAdd, Int.reduceBEq, Int.reduceBNe, h0, h1, bne]; rfl) ?_)
   | refine nl hKF ?_
   | refine sq ?_
   | refine rg fun KF hKF => ?_
   | refine ct rfl ?_
   | refine cf rfl ?_
   | refine sk ?_
   | refine rt ?_
   | dsimp only [cond_true, cond_false]
  refine rz trivial ?_
  exact ⟨rfl, Ext0.ext⟩
 ·skip
  repeat first
   | refine mI ?_
   | (refine Fo.ldN rfl rfl (by simp only [↓nrmL, nrmZ, Nat.reduceEqDiff, ↓reduceIte, Nat.reduceAdd, Int.reduceBEq, Int.reduceBNe, h0, h1, bne]; rfl) ?_)
   | (refine bn rfl rfl rfl (by simp only [h0, h1, bne]; rfl) ?_)
   | (refine Fo.pcall (v' := ?_) hn rfl (by simp only [↓nrmL, nrmZ, Nat.reduceEqDiff, ↓reduceIte, Nat.reduceAdd, Int.reduceBEq, Int.reduceBNe, h0, h1, bne, List.map]; rfl) rfl ?hv fun _ _ => ?_; case hv => (simp only [h0, h1, bne]; rfl))
   | (refine Fo.pcall (v' := ?_) hn rfl (by simp only [↓nrmL, nrmZ, Nat.reduceEqDiff, ↓reduceIte, Nat.reduceAdd, Int.reduceBEq, Int.reduceBNe, h0, h1, bne, List.map]; rfl) rfl ?hv fun _ _ => ?_; case hv => rfl)
   | refine bA ?_
   | (refine Fo.now rfl rfl (by simp only [↓nrmL, nrmZ, Nat.reduceEqDiff, ↓reduceIte, Nat.reduceAdd, Int.reduceBEq, Int.reduceBNe, h0, h1, bne]; rfl) ?_)
   | refine nl hKF ?_
   | refine sq ?_
   | refine rg fun KF hKF => ?_
   | refine cf rfl ?_
   | refine sk ?_
   | refine rt ?_
   | dsimp only [cond_true, cond_false]
  refine rz trivial ?_
  exact ⟨rfl, Ext0.ext⟩⟩
end Go.Am
namespace Go.Am
open Go
attribute [local irreducible] Wp WpO WpX WpE
theorem max_one {l : List Int} (hp : 0 < l.length) (h0 : 0 ≤ l[0]) : maxI l 1 = l[0] := by
 have e : l.getD 0 0 = l[0] := by rw [List.getD_eq_getElem?_getD, List.getElem?_eq_getElem hp, Option.getD_some]
 simp only [maxI, e]; split <;> omega
theorem max_succ {l : List Int} {i : Nat} (h : i < l.length) : (if l[i] > maxI l i then l[i] else maxI l i) = maxI l (i + 1) := by
 have e : l.getD i 0 = l[i] := by rw [List.getD_eq_getElem?_getD, List.getElem?_eq_getElem h, Option.getD_some]
 simp only [maxI, e]
class Max1 (l : List Int) : Prop where
 hp : 0 < l.length
 h0 : 0 ≤ l.getD 0 0
 hs : l.length ≤ 640
instance K_Max {p : AVal} {H : AHeap} {l : List Int} [hp : IntsI H p l] [hm : Max1 l] : PureCon ext prog 61 [p] H 1 (.int .i64 (maxI l l.length)) := ⟨by
 refine con_of (show prog 61 = some c61 from rfl) rfl rfl fun n hn => ?_
 have hpos := hm.hp
 have hs := hm.hs
 have h0 : 0 ≤ l[0] := by have := hm.h0; rwa [List.getD_eq_getElem?_getD, List.getElem?_eq_getElem hpos, Option.getD_some] at this
 have h1 : decide (((l.length : Nat) : Int) < 1) = false := decide_eq_false (by omega)
 repeat first
  | refine mI ?_
  | (refine mv ?_)
  | (refine bn rfl rfl rfl (by simp only [h1]; rfl) ?_)
  | (refine ln (by simp only [↓nrmL, nrmK, Nat.reduceEqDiff, ↓reduceIte]; rfl) ?_)
  | (refine Fo.idx (by simp only [↓nrmL, nrmK, Nat.reduceEqDiff, ↓reduceIte]; rfl) rfl ?_ (by simp only [↓nrmL, nrmZ, Nat.reduceEqDiff, ↓reduceIte, Nat.reduceAdd, Int.reduceBEq, Int.reduceBNe, h1]; rfl) ?_; (focus omega))
  | (refine Fo.ldI rfl ?_ rfl ?_; (focus omega))
  | refine nl hKF ?_
  | refine sq ?_
  | refine rg fun KF hKF => ?_
  | refine cf rfl ?_
  | refine sk ?_
  | refine Wp.block ?_
  | dsimp only [cond_true, cond_false]
 refine Wp.loopS [3, 4, 12, 13, 14, 15, 16, 17, 18, 19, 20, 21, 22, 23] (fun i : Nat => [(4, .int .i64 i), (3, .int .i64 (maxI l i))]) (fun H3 i H2 => 1 ≤ i ∧ i ≤ l.length ∧ H2 = H3) (fun i => l.length - i) 1 rfl (fun _ => rfl) ⟨rfl, by simp only [↓nrmL, nrmZ, Nat.reduceEqDiff, ↓reduceIte, Nat.reduceAdd, Int.reduceBEq, Int.reduceBNe]; rw [max_one hpos h0], trivial⟩ ⟨Nat.le_refl _, hpos, rfl⟩ (by unfold fuel0 at hn; omega) ?_
 rintro i g H2 ⟨hi1, hi, rfl⟩
 simp only [↓nrmL, nrmZ, Nat.reduceEqDiff, ↓reduceIte, Nat.reduceAdd, Int.reduceBEq, Int.reduceBNe]
 cases hc : decide ((i : Int) < (l.length : Int))
 ·have hil : i = l.length := by have := of_decide_eq_false hc; omega
  repeat first
   | refine mI ?_
   | (refine mv ?_)
   | (refine bn rfl rfl rfl (by simp only [hc]; rfl) ?_)
   | (refine ln (by simp only [↓nrmL, nrmK, Nat.reduceEqDiff, ↓reduceIte]; rfl) ?_)
   | refine nl hKF ?_
   | refine sq ?_
   | refine rg fun KF hKF => ?_
   | refine cf rfl ?_
   | refine rt ?_
   | refine xi ?_
   | dsimp only [cond_true, cond_false]
  refine rz trivial ?_
  exact ⟨by rw [hil]; rfl, Ext0.ext⟩
 ·have hil : i < l.length := by have := of_decide_eq_true hc; omega
  have hw1 := wa1 (a := i) (by omega)
  repeat first
   | refine mI ?_
   | (refine mv ?_)
   | (refine bn rfl rfl rfl (by simp only [hc]; rfl) ?_)
   | refine b0 ?_
   | (refine ln (by simp only [↓nrmL, nrmK, Nat.reduceEqDiff, ↓reduceIte]; rfl) ?_)
   | (refine Fo.idx (by simp only [↓nrmL, nrmK, Nat.reduceEqDiff, ↓reduceIte]; rfl) rfl ?_ (by simp only [↓nrmL, nrmZ, Nat.reduceEqDiff, ↓reduceIte, Nat.reduceAdd, Int.reduceBEq, Int.reduceBNe, hc]; rfl) ?_; (focus omega))
   | (refine Fo.ldI rfl ?_ rfl ?_; (focus omega))
   | (refine Fo.now rfl rfl (by simp only [hc]; rfl) ?_)
   | refine nl hKF ?_
   | refine sq ?_
   | refine rg fun KF hKF => ?_
   | refine ct rfl ?_
   | refine sk ?_
   | refine Wp.block ?_
   | dsimp only [cond_true, cond_false]
  refine ⟨i + 1, by omega, ⟨by simp only [↓nrmL, nrmZ, Nat.reduceEqDiff, ↓reduceIte, Nat.reduceAdd, Int.reduceBEq, Int.reduceBNe]; rw [hw1], by simp only [↓nrmL, nrmZ, Nat.reduceEqDiff, ↓reduceIte, Nat.reduceAdd, Int.reduceBEq, Int.reduceBNe]; rw [← max_succ hil], trivial⟩, by omega, by omega, rfl⟩⟩
class SkI (w : Nat) (k : Int) : Prop where
 hw : w ≤ 640
 hk : -3 ≤ k ∧ k ≤ 3
theorem drop_nonneg {w : Nat} {k : Int} (hw : w ≤ 640) : 0 ≤ (dropL w k w).getD 0 0 := by
 have hl : 0 < (dropL w k w).length := by rw [dropL_length hw]; omega
 rw [List.getD_eq_getElem?_getD, List.getElem?_eq_getElem hl, Option.getD_some]
 by_cases h : 0 < w
 ·rw [dropL_get h hw hl]; omega
 ·have : w = 0 := by omega
  subst this
  have e := dropL_zero 0 k
  have : (dropL 0 k 0)[0] = 0 := by
   simp only [dropL]
   rw [List.getElem_append_right (by simp), List.getElem_replicate]
  omega
instance K_drops {w : Nat} {k : Int} {H : AHeap} [c : SkI w k] : PureCon ext prog 33 [.int .i64 (w : Int), .int .i64 k] H 3 (.tuple [.agg (cellsI (dropL w k w)), .int .i64 (grN w k w : Int)]) := ⟨by
 refine con_of (show prog 33 = some c33 from rfl) rfl rfl fun n hn => ?_
 have hw := c.hw
 have hk := c.hk
 repeat first
  | refine mI ?_
  | refine nw ?_
  | refine nl hKF ?_
  | refine sq ?_
  | refine rg fun KF hKF => ?_
  | refine Wp.block ?_
  | dsimp only [cond_true, cond_false]
 haveI hn1 : IntsI (H.push (.row z640 true (2 * 68))) (rowA H.n) (dropL w k 0) := by rw [dropL_zero]; exact new640
 haveI hn2 : WrS (H.push (.row z640 true (2 * 68))) (rowA H.n) := new640w
 haveI hn3 : FreshS H (rowA H.n) := new640f
 refine Wp.loopS [6, 8, 9, 10, 11, 12, 13, 14, 15, 16, 17] (fun x : Nat => [(8, .int .i64 x)]) (fun H3 x H2 => x ≤ w ∧ IntsI H2 (rowA H.n) (dropL w k x) ∧ WrS H2 (rowA H.n) ∧ ExtP0 H3 H2 (rowA H.n)) (fun x => w - x) 0 rfl (fun _ => rfl) ⟨rfl, trivial⟩ ⟨Nat.zero_le _, hn1, hn2, inferInstance⟩ (by unfold fuel0 at hn; omega) ?_
 rintro x g H2 ⟨hxw, hb, hwr, ⟨hx2⟩⟩
 simp only [↓nrmL, nrmZ, Nat.reduceEqDiff, ↓reduceIte, Nat.reduceAdd, Int.reduceBEq, Int.reduceBNe]
 cases hc : decide ((x : Int) < (w : Int))
 ·have hil : x = w := by have := of_decide_eq_false hc; omega
  rw [hil] at hb
  have hdl := dropL_length (w := w) (k := k) (i := w) hw
  haveI : Max1 (dropL w k w) := ⟨by omega, drop_nonneg hw, by omega⟩
  have hmx : maxI (dropL w k w) (dropL w k w).length = (grN w k w : Int) := by rw [hdl, max_drop hw 640 (Nat.le_refl _), Nat.min_eq_right hw]
  repeat first
   | (refine bn rfl rfl rfl (by simp only [hc]; rfl) ?_)
   | refine nl hKF ?_
   | refine sq ?_
   | refine rg fun KF hKF => ?_
   | refine cf rfl ?_
   | refine xi ?_
  refine Fr.dregion0 rfl fun KF hKF => ?_
  refine Fe.read rfl (exec_ldA rfl hdl) rfl trivial ?_
  refine Fe.pure rfl rfl rfl ?_
  refine Fe.pcall (args := [rowA H.n]) (dd := 1) (v := .int .i64 (maxI (dropL w k w) (dropL w k w).length)) (v' := .int .i64 (grN w k w : Int)) rfl hn rfl rfl rfl (congrArg (AVal.int .i64) hmx) fun H5 hx5 => ⟨⟨Or.inr (readOk_of (exec_ldA rfl hdl)), trivial⟩, ?_⟩
  haveI := hx5
  refine WpE.stPN (p := rowA H.n) (j := 0) (v := .agg (cellsI (dropL w k w))) (vs := cellsI (dropL w k w)) rfl rfl rfl rfl (by rw [cellsI_length, hdl]) (by decide) (allOne_ints _) (by rw [cellsI_length, hdl]; decide) fun H6 hb6 hw6 hx6 => ⟨⟨Or.inl (by dsimp only; decide), trivial⟩, ?_⟩
  rw [set_all640 hdl hdl] at hb6
  haveI := hx6
  haveI : IntsI H6 (rowA H.n) (dropL w k w) := hb6
  refine Fe.pure rfl rfl (by simp only [↓nrmL, nrmZ, Nat.reduceEqDiff, ↓reduceIte, Nat.reduceAdd, Int.reduceBEq, Int.reduceBNe]; rfl) ?_
  refine WpE.nil (hKF _ _ ?_)
  refine rt ?_
  dsimp only [cond_true, cond_false]
  refine ⟨trivial, _, getAllA rfl hdl rfl, ?_⟩
  exact ⟨rfl, Ext0.ext⟩
 ·have hil : x < w := by have := of_decide_eq_true hc; omega
  have hw1 := wa1 (a := x) (by omega)
  haveI : ColI w x k := ⟨hil, hw, hk⟩
  repeat first
   | refine mI ?_
   | (refine bn rfl rfl rfl (by simp only [hc]; rfl) ?_)
   | (refine Fo.pcall (v' := ?_) hn rfl (by simp only [↓nrmL, nrmZ, Nat.reduceEqDiff, ↓reduceIte, Nat.reduceAdd, Int.reduceBEq, Int.reduceBNe, hc, List.map]; rfl) rfl ?hv fun _ _ => ?_; case hv => rfl)
   | refine nl hKF ?_
   | refine sq ?_
   | refine rg fun KF hKF => ?_
   | refine ct rfl ?_
   | refine sk ?_
   | refine Wp.block ?_
  refine Fo.now rfl (exec_idxA rfl rfl (by omega)) rfl ?_
  skip
  refine WpO.do' (WpX.stI (p := rowA H.n) (j := x) (l := dropL w k x) rfl rfl (by rw [dropL_length (by omega)]; omega) fun H4 hb4 hw4 hx4 => ?_)
  rw [dropL_set (by omega)] at hb4
  haveI := hx4
  refine nl hKF ?_
  refine rg fun KF hKF => ?_
  refine b0 ?_
  refine mI ?_
  refine nl hKF ?_
  dsimp only [cond_true, cond_false]
  refine ⟨x + 1, by omega, ⟨by simp only [↓nrmL, nrmZ, Nat.reduceEqDiff, ↓reduceIte, Nat.reduceAdd, Int.reduceBEq, Int.reduceBNe]; rw [hw1], trivial⟩, hil, hb4, hw4, inferInstance⟩⟩
end Go.Am
namespace Go.Am
open Go
attribute [local irreducible] Wp WpO WpX WpE
theorem K_line {a b y : Nat} {p : AVal} {H : AHeap} {l : List UInt8} [hp : BytesI H p l] (hl : l.length = a * b) (hy : y < b) (hm : a * b ≤ 640 * 640) (hb : b ≤ 640) : Con ext prog 1 85 [.agg [.int .i64 a, .int .i64 b, p], .int .i64 y] H fun v H' => Part p v (y * a) a ∧ BytesI H' v (rowL l a y) ∧ Ext H H' := by
 refine con_of (show prog 85 = some c85 from rfl) rfl rfl fun n hn => ?_
 haveI := hp.one
 have hr := row_le (a := a) hy
 have e1 : (y + 1) * a = y * a + a := by rw [Nat.add_mul, Nat.one_mul]
 have h3 : IntKind.i64.wrap ((y : Int) * (a : Int)) = ((y * a : Nat) : Int) := wm (by omega)
 have h4 := wa1 (a := y) (by omega)
 have h5 : IntKind.i64.wrap (((y + 1 : Nat) : Int) * (a : Int)) = ((y * a + a : Nat) : Int) := by rw [← e1]; exact wm (by omega)
 repeat first
  | refine mI ?_
  | refine mN ?_
  | refine fd ?_
  | refine Fo.ld rfl rfl ?_
  | (refine bn rfl rfl rfl (by simp only [h3, h4, h5]; rfl) ?_)
  | refine bA ?_
  | refine nl hKF ?_
  | refine sq ?_
  | refine rg fun KF hKF => ?_
 refine Fo.slc (p := p) (l := l) (a := y * a) (b := y * a + a) rfl (Or.inr ⟨_, rfl⟩) (Or.inr ⟨_, rfl⟩) (by omega) (by omega) fun v H1 h6 h7 hx => ?_
 rw [Nat.add_sub_cancel_left] at h6 h7
 haveI := h6.one
 refine mv ?_
 refine nl hKF ?_
 refine rt ?_
 dsimp only [cond_true, cond_false]
 refine rz trivial ?_
 exact ⟨h6, h7, Ext0.ext⟩
theorem getD_map {f : Nat → UInt8} {n i : Nat} (h : i < n) : ((List.range n).map f).getD i 0 = f i := by simp [h]
theorem list_eq {l m : List UInt8} (hl : l.length = m.length) (h : ∀ t, t < l.length → l.getD t 0 = m.getD t 0) : l = m := by
 apply List.ext_getElem hl
 intro i h1 h2
 have := h i h1
 simpa [h1, h2] using this
end Go.Am
namespace Go.Am
open Go
attribute [local irreducible] Wp WpO WpX WpE
theorem row_iff {a t y : Nat} (ha : 0 < a) : t / a = y ↔ y * a ≤ t ∧ t < y * a + a := by
 have h1 := Nat.div_add_mod t a
 have h2 := Nat.mod_lt t ha
 constructor
 ·rintro rfl
  rw [Nat.mul_comm] at h1
  omega
 ·rintro ⟨h3, h4⟩
  have h5 : t / a < y + 1 := by
   apply Nat.lt_of_mul_lt_mul_right (a := a)
   rw [Nat.add_mul, Nat.one_mul]
   rw [Nat.mul_comm] at h1
   omega
  have h6 : y < t / a + 1 := by
   apply Nat.lt_of_mul_lt_mul_right (a := a)
   rw [Nat.add_mul, Nat.one_mul]
   rw [Nat.mul_comm] at h1
   omega
  omega
theorem row_mod {a t : Nat} : t = t / a * a + t % a := by
 have h1 := Nat.div_add_mod t a
 rw [Nat.mul_comm] at h1
 omega
theorem row_at {a x y : Nat} (hx : x < a) : (y * a + x) / a = y ∧ (y * a + x) % a = x := by
 have h1 : (y * a + x) / a = y := (row_iff (by omega)).2 ⟨by omega, by omega⟩
 have h2 := row_mod (a := a) (t := y * a + x)
 rw [h1] at h2
 exact ⟨h1, by omega⟩
theorem div_lt' {a b t : Nat} (h : t < a * b) : t / a < b := Nat.div_lt_of_lt_mul h
def fillP (P : Nat → Bool) (f : Nat → UInt8) (n : Nat) : List UInt8 := (List.range n).map fun k => if P k = true then f k else 0
theorem fillP_length (P : Nat → Bool) (f : Nat → UInt8) (n : Nat) : (fillP P f n).length = n := by simp [fillP]
theorem fillP_congr {P Q : Nat → Bool} {f : Nat → UInt8} {n : Nat} (h : ∀ k, k < n → (Q k = true ↔ P k = true)) : fillP P f n = fillP Q f n := by
 refine list_eq (by rw [fillP_length, fillP_length]) fun t ht => ?_
 rw [fillP_length] at ht
 rw [fillP, fillP, getD_map ht, getD_map ht]
 have := h t ht
 by_cases h1 : P t = true
 ·rw [if_pos h1, if_pos (this.2 h1)]
 ·rw [if_neg h1, if_neg (fun q => h1 (this.1 q))]
theorem fillP_none {P : Nat → Bool} {f : Nat → UInt8} {n : Nat} (h : ∀ k, k < n → P k = false) : fillP P f n = List.replicate n 0 := by
 refine list_eq (by rw [fillP_length, List.length_replicate]) fun t ht => ?_
 rw [fillP_length] at ht
 rw [fillP, getD_map ht, h t ht]
 simp [ht]
theorem fillP_set {P Q : Nat → Bool} {f : Nat → UInt8} {n j : Nat} (h : ∀ k, k < n → (Q k = true ↔ P k = true ∨ k = j)) : (fillP P f n).set j (f j) = fillP Q f n := by
 refine list_eq (by rw [List.length_set, fillP_length, fillP_length]) fun t ht => ?_
 rw [List.length_set, fillP_length] at ht
 rw [List.getD_eq_getElem?_getD, List.getElem?_set, fillP_length, fillP, fillP, getD_map ht]
 have := h t ht
 by_cases h1 : j = t
 ·subst h1
  rw [if_pos rfl, if_pos ht, if_pos (this.2 (Or.inr rfl))]; rfl
 ·rw [if_neg h1, ← List.getD_eq_getElem?_getD, getD_map ht]
  by_cases h2 : P t = true
  ·rw [if_pos h2, if_pos (this.2 (Or.inl h2))]
  ·rw [if_neg h2, if_neg (fun q => by rcases this.1 q with q | q; exact h2 q; exact h1 q.symm)]
theorem getD01 {l : List UInt8} (h : pxOk l = true) (i : Nat) : l.getD i 0 = 0 ∨ l.getD i 0 = 1 := by
 by_cases hi : i < l.length
 ·exact px_get h hi
 ·left; rw [List.getD_eq_getElem?_getD, List.getElem?_eq_none (by omega)]; rfl
theorem ok_map_range {f : Nat → UInt8} {n : Nat} (h : ∀ k, f k = 0 ∨ f k = 1) : pxOk ((List.range n).map f) = true := by
 unfold pxOk
 rw [List.all_eq_true]
 intro x hx
 obtain ⟨k, _, rfl⟩ := List.mem_map.1 hx
 rcases h k with h1 | h1 <;> rw [h1] <;> rfl
theorem ok_of {w h : Int} {l : List UInt8} (h0 : (Img.err ⟨w, h, l⟩ == 0) = true) : ∃ a b : Nat, w = a ∧ h = b ∧ Ok a b l := by
 obtain ⟨h1, h2⟩ := Img.ok h0
 obtain ⟨a, b, e1, e2, e3, e4, e5⟩ := sized_nat h1
 exact ⟨a, b, e1, e2, e3, e4, e5, h2⟩
end Go.Am
namespace Go.Am
open Go
def unF (l : List UInt8) (a : Nat) (k : Int) (j : Nat) : UInt8 := l.getD ((j / a + dropN a k (j % a)) * a + j % a) 0
def unskewL (l : List UInt8) (a c : Nat) (k : Int) : List UInt8 := (List.range (a * c)).map (unF l a k)
def unskewS (g : Img) (k : Int) : Img × Int :=
  bif ckS g k == 0 then (bif decide ((grN g.w.toNat k g.w.toNat : Int) ≤ g.h) then (⟨g.w, g.h - grN g.w.toNat k g.w.toNat, unskewL g.px g.w.toNat (g.h.toNat - grN g.w.toNat k g.w.toNat) k⟩, 0) else (.zero, 2)) else (.zero, ckS g k)
def skF (l : List UInt8) (a : Nat) (k : Int) (j : Nat) : UInt8 := l.getD ((j / a - dropN a k (j % a)) * a + j % a) 0
def skP (a : Nat) (k : Int) (y x j : Nat) : Bool := decide (dropN a k (j % a) ≤ j / a ∧ (j / a - dropN a k (j % a) < y ∨ (j / a - dropN a k (j % a) = y ∧ j % a < x)))
def skewL (l : List UInt8) (a b : Nat) (k : Int) : List UInt8 := fillP (skP a k b 0) (skF l a k) (a * (b + grN a k a))
def skewS (g : Img) (k : Int) : Img × Int :=
  bif ckS g k == 0 then (bif decide (g.h + grN g.w.toNat k g.w.toNat ≤ 640) then (⟨g.w, g.h + grN g.w.toNat k g.w.toNat, skewL g.px g.w.toNat g.h.toNat k⟩, 0) else (.zero, 2)) else (.zero, ckS g k)
theorem ckS_zero {w h k : Int} {l : List UInt8} (h0 : (ckS ⟨w, h, l⟩ k == 0) = true) : ∃ a b : Nat, w = a ∧ h = b ∧ Ok a b l ∧ skB k = true := by
  unfold ckS at h0
  cases h1 : (Img.err ⟨w, h, l⟩ == 0)
  · rw [h1, cond_false] at h0; rw [h1] at h0; cases h0
  · rw [h1, cond_true] at h0
    obtain ⟨a, b, e1, e2, ok⟩ := ok_of h1
    refine ⟨a, b, e1, e2, ok, ?_⟩
    cases h2 : skB k
    · rw [h2, cond_false] at h0; cases h0
    · rfl
theorem ckS_ok {a b : Nat} {k : Int} {l : List UInt8} (ok : Ok a b l) (hk : skB k = true) : ckS ⟨a, b, l⟩ k = 0 := by
  unfold ckS
  rw [ok.err, hk]; rfl
theorem un_at {l : List UInt8} {a : Nat} {k : Int} {x y : Nat} (hx : x < a) : unF l a k (y * a + x) = l.getD ((y + dropN a k x) * a + x) 0 := by
  unfold unF
  rw [(row_at hx).1, (row_at hx).2]
theorem sk_at {l : List UInt8} {a : Nat} {k : Int} {x y : Nat} (hx : x < a) : skF l a k ((y + dropN a k x) * a + x) = l.getD (y * a + x) 0 := by
  unfold skF
  rw [(row_at hx).1, (row_at hx).2, Nat.add_sub_cancel]
theorem skP_zero (a : Nat) (k : Int) (j : Nat) : skP a k 0 0 j = false := by
  unfold skP; exact decide_eq_false (by omega)
theorem skP_next {a : Nat} {k : Int} {x y j : Nat} (hx : x < a) : skP a k y (x + 1) j = true ↔ skP a k y x j = true ∨ j = (y + dropN a k x) * a + x := by
  unfold skP
  simp only [decide_eq_true_eq]
  constructor
  · rintro ⟨h1, h2⟩
    by_cases e : j / a - dropN a k (j % a) = y ∧ j % a = x
    · right
      have h3 := row_mod (a := a) (t := j)
      rw [e.2] at h1 h3 e
      have h4 : j / a = y + dropN a k x := by omega
      rw [h4] at h3; exact h3
    · left; exact ⟨h1, by omega⟩
  · rintro (⟨h1, h2⟩ | rfl)
    · exact ⟨h1, by omega⟩
    · rw [(row_at hx).1, (row_at hx).2]; omega
theorem skP_row {a : Nat} {k : Int} {y j : Nat} (ha : 0 < a) : skP a k (y + 1) 0 j = true ↔ skP a k y a j = true := by
  have := Nat.mod_lt j ha
  unfold skP
  simp only [decide_eq_true_eq]
  omega
theorem unskewL_ok {a b c g : Nat} {k : Int} {l : List UInt8} (ok : Ok a b l) (hb : b = c + g) : Ok a c (unskewL l a c k) :=
  ⟨ok.wa, by have := ok.hb; omega, by simp [unskewL], ok_map_range fun _ => getD01 ok.px _⟩
end Go.Am
namespace Go.Am
open Go
attribute [local irreducible] Wp WpO WpX WpE
attribute [local irreducible] dropL z640
theorem K_Unskew {w h k : Int} {p : AVal} {H : AHeap} {l : List UInt8} [hp : BytesI H p l] : Con ext prog 5 47 [.agg [.int .i64 w, .int .i64 h, p], .int .i64 k] H fun v H' => InkRes H H' v (unskewS ⟨w, h, l⟩ k) := by
 refine con_of (show prog 47 = some c47 from rfl) rfl rfl fun n hn => ?_
 haveI := hp.one
 cases h0 : (ckS ⟨w, h, l⟩ k == 0)
 ·have e1 : unskewS ⟨w, h, l⟩ k = (.zero, ckS ⟨w, h, l⟩ k) := by simp only [unskewS, h0, cond_false]
  rw [e1]
  repeat first
   | refine mI ?_
   | (refine Fo.ldN rfl rfl (by simp only [↓nrmL, nrmZ, Nat.reduceEqDiff, ↓reduceIte, Nat.reduceAdd, Int.reduceBEq, Int.reduceBNe, h0, bne]; rfl) ?_)
   | (refine bn rfl rfl rfl (by simp only [↓nrmL, nrmZ, Nat.reduceEqDiff, ↓reduceIte, Nat.reduceAdd, Int.reduceBEq, Int.reduceBNe, h0, bne]; rfl) ?_)
   | (refine Fo.pcall (v' := ?_) hn rfl (by simp only [↓nrmL, nrmZ, Nat.reduceEqDiff, ↓reduceIte, Nat.reduceAdd, Int.reduceBEq, Int.reduceBNe, h0, bne, List.map]; rfl) rfl ?hv fun _ _ => ?_; case hv => rfl)
   | refine bA ?_
   | refine nw ?_
   | refine Fo.now rfl rfl rfl ?_
   | (refine so rfl (rfl : _ = AVal.agg _) rfl rfl rfl (by simp only [↓nrmL, nrmZ, Nat.reduceEqDiff, ↓reduceIte, Nat.reduceAdd, Int.reduceBEq, Int.reduceBNe, h0, bne]; rfl) ?_)
   | refine nl hKF ?_
   | refine sq ?_
   | refine rg fun KF hKF => ?_
   | refine ct rfl ?_
   | refine rt ?_
   | dsimp only [cond_true, cond_false]
  refine rz trivial ?_
  exact ⟨_, rfl, newZero⟩
 obtain ⟨a, b, rfl, rfl, ok, hsk⟩ := ckS_zero h0
 have hk := skB_iff.1 hsk
 have hll := ok.len
 have ha := ok.wa
 have hb := ok.hb
 have hdl := dropL_length (w := a) (k := k) (i := a) ha
 have hgr := gr_le ha hk a (Nat.le_refl _)
 haveI : SkI a k := ⟨ha, hk⟩
 obtain ⟨R, hR⟩ : ∃ R, unskewS ⟨a, b, l⟩ k = R := ⟨_, rfl⟩
 rw [hR]
 repeat first
  | refine mI ?_
  | refine mT ?_
  | refine fd ?_
  | refine Fo.ld rfl rfl ?_
  | (refine Fo.ldN rfl rfl (by simp only [↓nrmL, nrmZ, Nat.reduceEqDiff, ↓reduceIte, Nat.reduceAdd, Int.reduceBEq, Int.reduceBNe, h0, bne]; rfl) ?_)
  | (refine bn rfl rfl rfl (by simp only [↓nrmL, nrmZ, Nat.reduceEqDiff, ↓reduceIte, Nat.reduceAdd, Int.reduceBEq, Int.reduceBNe, h0, bne]; rfl) ?_)
  | refine xt ?_
  | (refine Fo.pcall (v' := ?_) hn rfl (by simp only [↓nrmL, nrmZ, Nat.reduceEqDiff, ↓reduceIte, Nat.reduceAdd, Int.reduceBEq, Int.reduceBNe, h0, bne, List.map]; rfl) rfl ?hv fun _ _ => ?_; case hv => rfl)
  | refine bA ?_
  | refine nw ?_
  | refine nl hKF ?_
  | refine sq ?_
  | refine rg fun KF hKF => ?_
  | refine cf rfl ?_
  | refine sk ?_
 rename AHeap => H4
 haveI := new640 (H := H4) (e := 2 * 68)
 haveI := new640w (H := H4) (cs := z640) (e := 2 * 68)
 haveI : FreshS H4 (rowA H4.n) := new640f
 refine WpO.do' (WpX.stPN (p := rowA H4.n) (j := 0) (v := .agg (cellsI (dropL a k a))) (vs := cellsI (dropL a k a)) rfl rfl rfl (by rw [cellsI_length, hdl]) (by decide) (allOne_ints _) (by rw [cellsI_length, List.length_replicate]; decide) fun H5 hb5 hw5 hx5 => ?_)
 rw [set_all640 hdl List.length_replicate] at hb5
 haveI := hx5
 haveI : IntsI H5 (rowA H4.n) (dropL a k a) := by unfold IntsI; rw [hdl]; exact hb5
 have w1 : IntKind.i64.wrap ((b : Int) - (grN a k a : Int)) = (b : Int) - (grN a k a : Int) := w64 (by omega)
 simp only [↓nrmL, nrmZ, Nat.reduceEqDiff, ↓reduceIte, Nat.reduceAdd, Int.reduceBEq, Int.reduceBNe, w1]
 repeat first
  | refine mI ?_
  | refine fd ?_
  | refine Fo.ld rfl rfl ?_
  | (refine bn rfl rfl rfl (by simp only [↓nrmL, nrmZ, Nat.reduceEqDiff, ↓reduceIte, Nat.reduceAdd, Int.reduceBEq, Int.reduceBNe, w1]; rfl) ?_)
  | refine nl hKF ?_
  | refine sq ?_
  | refine rg fun KF hKF => ?_
 refine WpO.do (WpX.conD hn rfl rfl (by simp only [↓nrmL, nrmZ, Nat.reduceEqDiff, ↓reduceIte, Nat.reduceAdd, Int.reduceBEq, Int.reduceBNe, List.map] <;> rfl) (K_New (w := a) (h := (b : Int) - (grN a k a : Int))) fun v H6 h5 => ?_)
 have hsa : sideB (a : Int) = true := by unfold sideB; rw [decide_eq_true (by omega), decide_eq_true (by omega)]; rfl
 cases hq : decide ((grN a k a : Int) ≤ (b : Int))
 ·have hsf : sideB ((b : Int) - (grN a k a : Int)) = false := by unfold sideB; rw [decide_eq_false (by have := of_decide_eq_false hq; omega)]; rfl
  rw [hsa, hsf] at h5
  have e1 : unskewS ⟨a, b, l⟩ k = (.zero, 2) := by simp only [unskewS, h0, cond_true, Int.toNat_natCast, hq, cond_false]
  rw [e1] at hR
  subst hR
  obtain ⟨u, e1, q, e2, hq, hf, hw, hx⟩ := h5
  subst e1 e2
  haveI : ExtI _ H6 := ⟨hx⟩
  haveI := hq.one
  try dsimp only [Bool.and_false, cond_false, Img.zero] at hq
  simp only [Bool.and_false, cond_false, Img.zero]
  repeat first
   | refine mI ?_
   | refine mT ?_
   | (refine bn rfl rfl rfl (by simp only [↓nrmL, nrmZ, Nat.reduceEqDiff, ↓reduceIte, Nat.reduceAdd, Int.reduceBEq, Int.reduceBNe, Bool.and_false, cond_false, Img.zero]; rfl) ?_)
   | refine xt ?_
   | refine nw ?_
   | refine Fo.now rfl rfl rfl ?_
   | (refine so rfl (rfl : _ = AVal.agg _) rfl rfl rfl (by simp only [↓nrmL, nrmZ, Nat.reduceEqDiff, ↓reduceIte, Nat.reduceAdd, Int.reduceBEq, Int.reduceBNe, Bool.and_false, cond_false, Img.zero]; rfl) ?_)
   | refine nl hKF ?_
   | refine sq ?_
   | refine rg fun KF hKF => ?_
   | refine ct rfl ?_
   | refine rt ?_
   | dsimp only [cond_true, cond_false]
  refine rz trivial ?_
  exact ⟨_, rfl, newZero⟩
 obtain ⟨c, hc⟩ : ∃ c, b = c + grN a k a := ⟨b - grN a k a, by have := of_decide_eq_true hq; omega⟩
 have hbc : (b : Int) - (grN a k a : Int) = (c : Int) := by omega
 have hsc : sideB (c : Int) = true := by unfold sideB; rw [decide_eq_true (by omega), decide_eq_true (by omega)]; rfl
 rw [hbc, hsa, hsc] at h5
 have e1 : unskewS ⟨a, b, l⟩ k = (⟨a, c, unskewL l a c k⟩, 0) := by
  simp only [unskewS, h0, cond_true, Int.toNat_natCast, hq, hbc]
  rw [show b - grN a k a = c by omega]
 rw [e1] at hR
 subst hR
 obtain ⟨u, e1, q, e2, hq, hf, hw, hx⟩ := h5
 subst e1 e2
 simp only [Bool.and_self, cond_true, Int.toNat_natCast] at hq
 haveI : ExtI _ H6 := ⟨hx⟩
 haveI := hq.one
 have hm : a * c ≤ 640 * 640 := Nat.mul_le_mul ha (by omega)
 have hm2 : a * b ≤ 640 * 640 := Nat.mul_le_mul ha hb
 simp only [Bool.and_self, cond_true]
 repeat first
  | refine mI ?_
  | refine mT ?_
  | refine fd ?_
  | refine Fo.ld rfl rfl ?_
  | (refine bn rfl rfl rfl (by simp only [↓nrmL, nrmZ, Nat.reduceEqDiff, ↓reduceIte, Nat.reduceAdd, Int.reduceBEq, Int.reduceBNe, Bool.and_self, cond_true]; rfl) ?_)
  | refine xt ?_
  | refine nw ?_
  | (refine so rfl (rfl : _ = AVal.agg _) rfl rfl rfl (by simp only [↓nrmL, nrmZ, Nat.reduceEqDiff, ↓reduceIte, Nat.reduceAdd, Int.reduceBEq, Int.reduceBNe, Bool.and_self, cond_true]; rfl) ?_)
  | refine nl hKF ?_
  | refine sq ?_
  | refine rg fun KF hKF => ?_
  | refine cf rfl ?_
  | refine sk ?_
  | refine Wp.block ?_
  | dsimp only [cond_true, cond_false]
 refine Wp.loopS [11, 12, 43, 44, 45, 46, 47, 48, 49, 50, 51, 52, 53, 54, 55, 56, 57, 58, 59, 60, 61, 62, 63, 64, 65, 66, 67, 68, 69, 70, 71, 72, 73, 74, 75] (fun y : Nat => [(43, .int .i64 y)]) (fun H3 y H2 => y ≤ c ∧ BytesI H2 q (filled (unF l a k) (y * a) (a * c)) ∧ WrS H2 q ∧ ExtP0 H3 H2 q) (fun y => c - y) 0 rfl (fun _ => rfl) ⟨rfl, trivial⟩ ⟨Nat.zero_le _, by rw [Nat.zero_mul, filled_zero]; infer_instance, inferInstance, inferInstance⟩ (by unfold fuel0 at hn; omega) ?_
 rintro y g H2 ⟨hy, hb2, hw2, ⟨hx2⟩⟩
 simp only [↓nrmL, nrmZ, Nat.reduceEqDiff, ↓reduceIte, Nat.reduceAdd, Int.reduceBEq, Int.reduceBNe]
 cases hcy : decide ((y : Int) < (c : Int))
 ·have hyb : y = c := by have := of_decide_eq_false hcy; omega
  subst hyb
  rw [Nat.mul_comm y a, filled_all] at hb2
  repeat first
   | refine mI ?_
   | (refine Fo.ldN rfl rfl (by simp only [↓nrmL, nrmZ, Nat.reduceEqDiff, ↓reduceIte, Nat.reduceAdd, Int.reduceBEq, Int.reduceBNe, hcy]; rfl) ?_)
   | (refine bn rfl rfl rfl (by simp only [↓nrmL, nrmZ, Nat.reduceEqDiff, ↓reduceIte, Nat.reduceAdd, Int.reduceBEq, Int.reduceBNe, hcy]; rfl) ?_)
   | (refine so rfl (rfl : _ = AVal.agg _) rfl rfl rfl (by simp only [↓nrmL, nrmZ, Nat.reduceEqDiff, ↓reduceIte, Nat.reduceAdd, Int.reduceBEq, Int.reduceBNe, hcy]; rfl) ?_)
   | refine nl hKF ?_
   | refine sq ?_
   | refine rg fun KF hKF => ?_
   | refine cf rfl ?_
   | refine rt ?_
   | refine xi ?_
   | dsimp only [cond_true, cond_false]
  refine rz trivial ?_
  exact ⟨_, rfl, q, rfl, (show BytesI _ q (unskewL l a y k) from inferInstance), hf.weak, inferInstance, Ext0.ext⟩
 ·have hyb : y < c := by have := of_decide_eq_true hcy; omega
  repeat first
   | refine mI ?_
   | refine fd ?_
   | refine Fo.ld rfl rfl ?_
   | (refine bn rfl rfl rfl (by simp only [↓nrmL, nrmZ, Nat.reduceEqDiff, ↓reduceIte, Nat.reduceAdd, Int.reduceBEq, Int.reduceBNe, hcy]; rfl) ?_)
   | refine nl hKF ?_
   | refine sq ?_
   | refine rg fun KF hKF => ?_
   | refine ct rfl ?_
   | refine sk ?_
   | refine Wp.block ?_
   | dsimp only [cond_true, cond_false]
  refine Wp.loopS [12, 48, 49, 50, 51, 52, 53, 54, 55, 56, 57, 58, 59, 60, 61, 62, 63, 64, 65, 66, 67, 68, 69, 70, 71, 72, 73, 74] (fun x : Nat => [(48, .int .i64 x)]) (fun H3 x H7 => x ≤ a ∧ BytesI H7 q (filled (unF l a k) (y * a + x) (a * c)) ∧ WrS H7 q ∧ ExtP0 H3 H7 q) (fun x => a - x) 0 rfl (fun _ => rfl) ⟨rfl, trivial⟩ ⟨Nat.zero_le _, inferInstance, inferInstance, inferInstance⟩ (by unfold fuel0 at hn; omega) ?_
  rintro x g2 H7 ⟨hx0, hb4, hw4, ⟨hx4⟩⟩
  simp only [↓nrmL, nrmZ, Nat.reduceEqDiff, ↓reduceIte, Nat.reduceAdd, Int.reduceBEq, Int.reduceBNe]
  cases hcx : decide ((x : Int) < (a : Int))
  ·have hxa : x = a := by have := of_decide_eq_false hcx; omega
   subst hxa
   have hw1 := wa1 (a := y) (by omega)
   repeat first
    | refine mI ?_
    | (refine bn rfl rfl rfl (by simp only [↓nrmL, nrmZ, Nat.reduceEqDiff, ↓reduceIte, Nat.reduceAdd, Int.reduceBEq, Int.reduceBNe, hcx]; rfl) ?_)
    | refine b0 ?_
    | refine nl hKF ?_
    | refine sq ?_
    | refine rg fun KF hKF => ?_
    | refine cf rfl ?_
    | refine xi ?_
    | dsimp only [cond_true, cond_false]
   refine ⟨y + 1, by omega, ⟨by simp only [↓nrmL, nrmZ, Nat.reduceEqDiff, ↓reduceIte, Nat.reduceAdd, Int.reduceBEq, Int.reduceBNe]; rw [hw1], trivial⟩, hyb, by rw [Nat.add_mul, Nat.one_mul]; infer_instance, inferInstance, inferInstance⟩
  ·have hxa : x < a := by have := of_decide_eq_true hcx; omega
   have hlt := idx_lt hxa hyb
   have hdr := gr_ge (w := a) (k := k) a x hxa
   have hyd : y + dropN a k x < b := by omega
   have hlt2 := idx_lt hxa hyd
   have hil : (y + dropN a k x) * a + x < l.length := by omega
   have hw1 := wa1 (a := x) (by omega)
   have hgd : unF l a k (y * a + x) = l[(y + dropN a k x) * a + x] := by rw [un_at hxa]; simp [hil]
   have hfl := filled_length (unF l a k) (y * a + x) (a * c)
   have hxd : x < (dropL a k a).length := by omega
   have hde : (dropL a k a)[x] = (dropN a k x : Int) := dropL_get hxa ha hxd
   have m1 : IntKind.i64.wrap ((y : Int) * (a : Int)) = ((y * a : Nat) : Int) := wm (by omega)
   have m2 : IntKind.i64.wrap (((y * a : Nat) : Int) + (x : Int)) = ((y * a + x : Nat) : Int) := wa (by omega)
   have m3 : IntKind.i64.wrap ((y : Int) + (dropN a k x : Int)) = ((y + dropN a k x : Nat) : Int) := wa (by omega)
   have m4 : IntKind.i64.wrap (((y + dropN a k x : Nat) : Int) * (a : Int)) = (((y + dropN a k x) * a : Nat) : Int) := wm (by omega)
   have m5 : IntKind.i64.wrap ((((y + dropN a k x) * a : Nat) : Int) + (x : Int)) = (((y + dropN a k x) * a + x : Nat) : Int) := wa (by omega)
   repeat first
    | refine mI ?_
    | (refine bn rfl rfl rfl (by simp only [↓nrmL, nrmZ, Nat.reduceEqDiff, ↓reduceIte, Nat.reduceAdd, Int.reduceBEq, Int.reduceBNe, hcx]; rfl) ?_)
    | refine nl hKF ?_
    | refine sq ?_
    | refine rg fun KF hKF => ?_
    | refine ct rfl ?_
    | refine sk ?_
    | refine Wp.block ?_
    | dsimp only [cond_true, cond_false]
   refine Fr.dregion0 rfl fun KF hKF => ?_
   repeat first
    | (refine Er rfl (exec_ld rfl rfl) rfl ?_)
    | (refine Fe.pure rfl rfl (by simp only [↓nrmL, nrmZ, Nat.reduceEqDiff, ↓reduceIte, Nat.reduceAdd, Int.reduceBEq, Int.reduceBNe, m1, m2]; rfl) ?_)
   refine Fe.pure rfl (exec_idxA (j := x) rfl rfl (by omega)) rfl ?_
   refine Fe.read rfl (exec_ldI (p := rowA H4.n) (j := x) rfl hxd) (congrArg (AVal.int .i64) hde) trivial ?_
   simp only [↓nrmL, nrmZ, Nat.reduceEqDiff, ↓reduceIte, Nat.reduceAdd, Int.reduceBEq, Int.reduceBNe, m1, m2, m3, m4, m5]
   repeat first
    | (refine Er rfl (exec_ld rfl rfl) rfl ?_)
    | (refine Fe.pure rfl rfl (by simp only [↓nrmL, nrmZ, Nat.reduceEqDiff, ↓reduceIte, Nat.reduceAdd, Int.reduceBEq, Int.reduceBNe, m1, m2, m3, m4, m5]; rfl) ?_)
    | (refine Fe.pure rfl (exec_idxP (by (try simp only [↓nrmL, nrmZ, Nat.reduceEqDiff, ↓reduceIte, Nat.reduceAdd, Int.reduceBEq, Int.reduceBNe, m1, m2, m3, m4, m5]); rfl) rfl ?_) (by simp only [↓nrmL, nrmZ, Nat.reduceEqDiff, ↓reduceIte, Nat.reduceAdd, Int.reduceBEq, Int.reduceBNe, m1, m2, m3, m4, m5]; rfl) ?_; (focus omega))
    | (refine Er rfl (exec_ldB rfl (by omega)) rfl ?_)
   refine WpE.stB (l[(y + dropN a k x) * a + x]) rfl rfl rfl rfl (by rw [hfl]; exact hlt) fun H8 hb8 hw8 hx8 => ar ?_
   refine WpE.nil (hKF _ _ ?_)
   refine rg fun KF hKF => ?_
   refine b0 ?_
   refine mI ?_
   refine nl hKF ?_
   dsimp only [cond_true, cond_false]
   refine ⟨x + 1, by omega, ⟨by simp only [↓nrmL, nrmZ, Nat.reduceEqDiff, ↓reduceIte, Nat.reduceAdd, Int.reduceBEq, Int.reduceBNe]; rw [hw1], trivial⟩, hxa, by rw [show y * a + (x + 1) = y * a + x + 1 by omega, ← filled_succ, hgd]; infer_instance, inferInstance, inferInstance⟩
end Go.Am
namespace Go.Am
open Go
attribute [local irreducible] Wp WpO WpX WpE
attribute [local irreducible] dropL z640
theorem K_Skew {w h k : Int} {p : AVal} {H : AHeap} {l : List UInt8} [hp : BytesI H p l] : Con ext prog 5 15 [.agg [.int .i64 w, .int .i64 h, p], .int .i64 k] H fun v H' => InkRes H H' v (skewS ⟨w, h, l⟩ k) := by
 refine con_of (show prog 15 = some c15 from rfl) rfl rfl fun n hn => ?_
 haveI := hp.one
 cases h0 : (ckS ⟨w, h, l⟩ k == 0)
 ·have e1 : skewS ⟨w, h, l⟩ k = (.zero, ckS ⟨w, h, l⟩ k) := by simp only [skewS, h0, cond_false]
  rw [e1]
  repeat first
   | refine mI ?_
   | (refine Fo.ldN rfl rfl (by simp only [↓nrmL, nrmZ, Nat.reduceEqDiff, ↓reduceIte, Nat.reduceAdd, Int.reduceBEq, Int.reduceBNe, h0, bne]; rfl) ?_)
   | (refine bn rfl rfl rfl (by simp only [↓nrmL, nrmZ, Nat.reduceEqDiff, ↓reduceIte, Nat.reduceAdd, Int.reduceBEq, Int.reduceBNe, h0, bne]; rfl) ?_)
   | (refine Fo.pcall (v' := ?_) hn rfl (by simp only [↓nrmL, nrmZ, Nat.reduceEqDiff, ↓reduceIte, Nat.reduceAdd, Int.reduceBEq, Int.reduceBNe, h0, bne, List.map]; rfl) rfl ?hv fun _ _ => ?_; case hv => rfl)
   | refine bA ?_
   | refine nw ?_
   | refine Fo.now rfl rfl rfl ?_
   | (refine so rfl (rfl : _ = AVal.agg _) rfl rfl rfl (by simp only [↓nrmL, nrmZ, Nat.reduceEqDiff, ↓reduceIte, Nat.reduceAdd, Int.reduceBEq, Int.reduceBNe, h0, bne]; rfl) ?_)
   | refine nl hKF ?_
   | refine sq ?_
   | refine rg fun KF hKF => ?_
   | refine ct rfl ?_
   | refine rt ?_
   | dsimp only [cond_true, cond_false]
  refine rz trivial ?_
  exact ⟨_, rfl, newZero⟩
 obtain ⟨a, b, rfl, rfl, ok, hsk⟩ := ckS_zero h0
 have hk := skB_iff.1 hsk
 have hll := ok.len
 have ha := ok.wa
 have hb := ok.hb
 have hdl := dropL_length (w := a) (k := k) (i := a) ha
 have hgr := gr_le ha hk a (Nat.le_refl _)
 haveI : SkI a k := ⟨ha, hk⟩
 obtain ⟨R, hR⟩ : ∃ R, skewS ⟨a, b, l⟩ k = R := ⟨_, rfl⟩
 rw [hR]
 repeat first
  | refine mI ?_
  | refine mT ?_
  | refine fd ?_
  | refine Fo.ld rfl rfl ?_
  | (refine Fo.ldN rfl rfl (by simp only [↓nrmL, nrmZ, Nat.reduceEqDiff, ↓reduceIte, Nat.reduceAdd, Int.reduceBEq, Int.reduceBNe, h0, bne]; rfl) ?_)
  | (refine bn rfl rfl rfl (by simp only [↓nrmL, nrmZ, Nat.reduceEqDiff, ↓reduceIte, Nat.reduceAdd, Int.reduceBEq, Int.reduceBNe, h0, bne]; rfl) ?_)
  | refine xt ?_
  | (refine Fo.pcall (v' := ?_) hn rfl (by simp only [↓nrmL, nrmZ, Nat.reduceEqDiff, ↓reduceIte, Nat.reduceAdd, Int.reduceBEq, Int.reduceBNe, h0, bne, List.map]; rfl) rfl ?hv fun _ _ => ?_; case hv => rfl)
  | refine bA ?_
  | refine nw ?_
  | refine nl hKF ?_
  | refine sq ?_
  | refine rg fun KF hKF => ?_
  | refine cf rfl ?_
  | refine sk ?_
 rename AHeap => H4
 haveI := new640 (H := H4) (e := 2 * 68)
 haveI := new640w (H := H4) (cs := z640) (e := 2 * 68)
 haveI : FreshS H4 (rowA H4.n) := new640f
 refine WpO.do' (WpX.stPN (p := rowA H4.n) (j := 0) (v := .agg (cellsI (dropL a k a))) (vs := cellsI (dropL a k a)) rfl rfl rfl (by rw [cellsI_length, hdl]) (by decide) (allOne_ints _) (by rw [cellsI_length, List.length_replicate]; decide) fun H5 hb5 hw5 hx5 => ?_)
 rw [set_all640 hdl List.length_replicate] at hb5
 haveI := hx5
 haveI : IntsI H5 (rowA H4.n) (dropL a k a) := by unfold IntsI; rw [hdl]; exact hb5
 have w1 : IntKind.i64.wrap ((b : Int) + (grN a k a : Int)) = ((b + grN a k a : Nat) : Int) := wa (by omega)
 simp only [↓nrmL, nrmZ, Nat.reduceEqDiff, ↓reduceIte, Nat.reduceAdd, Int.reduceBEq, Int.reduceBNe, w1]
 repeat first
  | refine mI ?_
  | refine fd ?_
  | refine Fo.ld rfl rfl ?_
  | (refine bn rfl rfl rfl (by simp only [↓nrmL, nrmZ, Nat.reduceEqDiff, ↓reduceIte, Nat.reduceAdd, Int.reduceBEq, Int.reduceBNe, w1]; rfl) ?_)
  | refine nl hKF ?_
  | refine sq ?_
  | refine rg fun KF hKF => ?_
 refine WpO.do (WpX.conD hn rfl rfl (by simp only [↓nrmL, nrmZ, Nat.reduceEqDiff, ↓reduceIte, Nat.reduceAdd, Int.reduceBEq, Int.reduceBNe, List.map] <;> rfl) (K_New (w := a) (h := ((b + grN a k a : Nat) : Int))) fun v H6 h5 => ?_)
 have hsa : sideB (a : Int) = true := by unfold sideB; rw [decide_eq_true (by omega), decide_eq_true (by omega)]; rfl
 obtain ⟨c, hc⟩ : ∃ c, b + grN a k a = c := ⟨_, rfl⟩
 rw [hc] at h5
 cases hq : decide ((b : Int) + (grN a k a : Int) ≤ 640)
 ·have hsf : sideB (c : Int) = false := by unfold sideB; rw [decide_eq_false (p := (c : Int) ≤ 640) (by have := of_decide_eq_false hq; omega), Bool.and_false]
  rw [hsa, hsf] at h5
  have e1 : skewS ⟨a, b, l⟩ k = (.zero, 2) := by simp only [skewS, h0, cond_true, Int.toNat_natCast, hq, cond_false]
  rw [e1] at hR
  subst hR
  obtain ⟨u, e1, q, e2, hq, hf, hw, hx⟩ := h5
  subst e1 e2
  haveI : ExtI _ H6 := ⟨hx⟩
  haveI := hq.one
  try dsimp only [Bool.and_false, cond_false, Img.zero] at hq
  simp only [Bool.and_false, cond_false, Img.zero]
  repeat first
   | refine mI ?_
   | refine mT ?_
   | (refine bn rfl rfl rfl (by simp only [↓nrmL, nrmZ, Nat.reduceEqDiff, ↓reduceIte, Nat.reduceAdd, Int.reduceBEq, Int.reduceBNe, Bool.and_false, cond_false, Img.zero]; rfl) ?_)
   | refine xt ?_
   | refine nw ?_
   | refine Fo.now rfl rfl rfl ?_
   | (refine so rfl (rfl : _ = AVal.agg _) rfl rfl rfl (by simp only [↓nrmL, nrmZ, Nat.reduceEqDiff, ↓reduceIte, Nat.reduceAdd, Int.reduceBEq, Int.reduceBNe, Bool.and_false, cond_false, Img.zero]; rfl) ?_)
   | refine nl hKF ?_
   | refine sq ?_
   | refine rg fun KF hKF => ?_
   | refine ct rfl ?_
   | refine rt ?_
   | dsimp only [cond_true, cond_false]
  refine rz trivial ?_
  exact ⟨_, rfl, newZero⟩
 have hcl : c ≤ 640 := by have := of_decide_eq_true hq; omega
 have hsc : sideB (c : Int) = true := by unfold sideB; rw [decide_eq_true (by omega), decide_eq_true (by omega)]; rfl
 rw [hsa, hsc] at h5
 have e1 : skewS ⟨a, b, l⟩ k = (⟨a, c, fillP (skP a k b 0) (skF l a k) (a * c)⟩, 0) := by
  simp only [skewS, skewL, h0, cond_true, Int.toNat_natCast, hq, hc]
  rw [← hc]; rfl
 rw [e1] at hR
 subst hR
 obtain ⟨u, e1, q, e2, hq, hf, hw, hx⟩ := h5
 subst e1 e2
 simp only [Bool.and_self, cond_true, Int.toNat_natCast] at hq
 haveI : ExtI _ H6 := ⟨hx⟩
 haveI := hq.one
 have hm : a * c ≤ 640 * 640 := Nat.mul_le_mul ha hcl
 have hm2 : a * b ≤ 640 * 640 := Nat.mul_le_mul ha hb
 simp only [Bool.and_self, cond_true]
 repeat first
  | refine mI ?_
  | refine mT ?_
  | refine fd ?_
  | refine Fo.ld rfl rfl ?_
  | (refine bn rfl rfl rfl (by simp only [↓nrmL, nrmZ, Nat.reduceEqDiff, ↓reduceIte, Nat.reduceAdd, Int.reduceBEq, Int.reduceBNe, Bool.and_self, cond_true]; rfl) ?_)
  | refine xt ?_
  | refine nw ?_
  | (refine so rfl (rfl : _ = AVal.agg _) rfl rfl rfl (by simp only [↓nrmL, nrmZ, Nat.reduceEqDiff, ↓reduceIte, Nat.reduceAdd, Int.reduceBEq, Int.reduceBNe, Bool.and_self, cond_true]; rfl) ?_)
  | refine nl hKF ?_
  | refine sq ?_
  | refine rg fun KF hKF => ?_
  | refine cf rfl ?_
  | refine sk ?_
  | refine Wp.block ?_
  | dsimp only [cond_true, cond_false]
 refine Wp.loopS [11, 12, 43, 44, 45, 46, 47, 48, 49, 50, 51, 52, 53, 54, 55, 56, 57, 58, 59, 60, 61, 62, 63, 64, 65, 66, 67, 68, 69, 70, 71, 72, 73, 74, 75] (fun y : Nat => [(43, .int .i64 y)]) (fun H3 y H2 => y ≤ b ∧ BytesI H2 q (fillP (skP a k y 0) (skF l a k) (a * c)) ∧ WrS H2 q ∧ ExtP0 H3 H2 q) (fun y => b - y) 0 rfl (fun _ => rfl) ⟨rfl, trivial⟩ ⟨Nat.zero_le _, by rw [fillP_none fun t _ => skP_zero a k t]; infer_instance, inferInstance, inferInstance⟩ (by unfold fuel0 at hn; omega) ?_
 rintro y g H2 ⟨hy, hb2, hw2, ⟨hx2⟩⟩
 simp only [↓nrmL, nrmZ, Nat.reduceEqDiff, ↓reduceIte, Nat.reduceAdd, Int.reduceBEq, Int.reduceBNe]
 cases hcy : decide ((y : Int) < (b : Int))
 ·have hyb : y = b := by have := of_decide_eq_false hcy; omega
  subst hyb
  repeat first
   | refine mI ?_
   | (refine Fo.ldN rfl rfl (by simp only [↓nrmL, nrmZ, Nat.reduceEqDiff, ↓reduceIte, Nat.reduceAdd, Int.reduceBEq, Int.reduceBNe, hcy]; rfl) ?_)
   | (refine bn rfl rfl rfl (by simp only [↓nrmL, nrmZ, Nat.reduceEqDiff, ↓reduceIte, Nat.reduceAdd, Int.reduceBEq, Int.reduceBNe, hcy]; rfl) ?_)
   | (refine so rfl (rfl : _ = AVal.agg _) rfl rfl rfl (by simp only [↓nrmL, nrmZ, Nat.reduceEqDiff, ↓reduceIte, Nat.reduceAdd, Int.reduceBEq, Int.reduceBNe, hcy]; rfl) ?_)
   | refine nl hKF ?_
   | refine sq ?_
   | refine rg fun KF hKF => ?_
   | refine cf rfl ?_
   | refine rt ?_
   | refine xi ?_
   | dsimp only [cond_true, cond_false]
  refine rz trivial ?_
  exact ⟨_, rfl, q, rfl, (show BytesI _ q (fillP (skP a k y 0) (skF l a k) (a * c)) from inferInstance), hf.weak, inferInstance, Ext0.ext⟩
 ·have hyb : y < b := by have := of_decide_eq_true hcy; omega
  repeat first
   | refine mI ?_
   | refine fd ?_
   | refine Fo.ld rfl rfl ?_
   | (refine bn rfl rfl rfl (by simp only [↓nrmL, nrmZ, Nat.reduceEqDiff, ↓reduceIte, Nat.reduceAdd, Int.reduceBEq, Int.reduceBNe, hcy]; rfl) ?_)
   | refine nl hKF ?_
   | refine sq ?_
   | refine rg fun KF hKF => ?_
   | refine ct rfl ?_
   | refine sk ?_
   | refine Wp.block ?_
   | dsimp only [cond_true, cond_false]
  refine Wp.loopS [12, 48, 49, 50, 51, 52, 53, 54, 55, 56, 57, 58, 59, 60, 61, 62, 63, 64, 65, 66, 67, 68, 69, 70, 71, 72, 73, 74] (fun x : Nat => [(48, .int .i64 x)]) (fun H3 x H7 => x ≤ a ∧ BytesI H7 q (fillP (skP a k y x) (skF l a k) (a * c)) ∧ WrS H7 q ∧ ExtP0 H3 H7 q) (fun x => a - x) 0 rfl (fun _ => rfl) ⟨rfl, trivial⟩ ⟨Nat.zero_le _, inferInstance, inferInstance, inferInstance⟩ (by unfold fuel0 at hn; omega) ?_
  rintro x g2 H7 ⟨hx0, hb4, hw4, ⟨hx4⟩⟩
  simp only [↓nrmL, nrmZ, Nat.reduceEqDiff, ↓reduceIte, Nat.reduceAdd, Int.reduceBEq, Int.reduceBNe]
  cases hcx : decide ((x : Int) < (a : Int))
  ·have hxa : x = a := by have := of_decide_eq_false hcx; omega
   subst hxa
   have hw1 := wa1 (a := y) (by omega)
   rw [fillP_congr (Q := skP x k (y + 1) 0) fun t ht => skP_row (Nat.pos_of_ne_zero (by rintro rfl; simp at ht))] at hb4
   repeat first
    | refine mI ?_
    | (refine bn rfl rfl rfl (by simp only [↓nrmL, nrmZ, Nat.reduceEqDiff, ↓reduceIte, Nat.reduceAdd, Int.reduceBEq, Int.reduceBNe, hcx]; rfl) ?_)
    | refine b0 ?_
    | refine nl hKF ?_
    | refine sq ?_
    | refine rg fun KF hKF => ?_
    | refine cf rfl ?_
    | refine xi ?_
    | dsimp only [cond_true, cond_false]
   refine ⟨y + 1, by omega, ⟨by simp only [↓nrmL, nrmZ, Nat.reduceEqDiff, ↓reduceIte, Nat.reduceAdd, Int.reduceBEq, Int.reduceBNe]; rw [hw1], trivial⟩, hyb, inferInstance, inferInstance, inferInstance⟩
  ·have hxa : x < a := by have := of_decide_eq_true hcx; omega
   have hlt := idx_lt hxa hyb
   have hdr := gr_ge (w := a) (k := k) a x hxa
   have hyd : y + dropN a k x < c := by omega
   have hlt2 := idx_lt hxa hyd
   have hil : y * a + x < l.length := by omega
   have hw1 := wa1 (a := x) (by omega)
   have hgd : skF l a k ((y + dropN a k x) * a + x) = l[y * a + x] := by rw [sk_at hxa]; simp [hil]
   have hfl := fillP_length (skP a k y x) (skF l a k) (a * c)
   have hxd : x < (dropL a k a).length := by omega
   have hde : (dropL a k a)[x] = (dropN a k x : Int) := dropL_get hxa ha hxd
   have m1 : IntKind.i64.wrap ((y : Int) * (a : Int)) = ((y * a : Nat) : Int) := wm (by omega)
   have m2 : IntKind.i64.wrap (((y * a : Nat) : Int) + (x : Int)) = ((y * a + x : Nat) : Int) := wa (by omega)
   have m3 : IntKind.i64.wrap ((y : Int) + (dropN a k x : Int)) = ((y + dropN a k x : Nat) : Int) := wa (by omega)
   have m4 : IntKind.i64.wrap (((y + dropN a k x : Nat) : Int) * (a : Int)) = (((y + dropN a k x) * a : Nat) : Int) := wm (by omega)
   have m5 : IntKind.i64.wrap ((((y + dropN a k x) * a : Nat) : Int) + (x : Int)) = (((y + dropN a k x) * a + x : Nat) : Int) := wa (by omega)
   repeat first
    | refine mI ?_
    | (refine bn rfl rfl rfl (by simp only [↓nrmL, nrmZ, Nat.reduceEqDiff, ↓reduceIte, Nat.reduceAdd, Int.reduceBEq, Int.reduceBNe, hcx]; rfl) ?_)
    | refine nl hKF ?_
    | refine sq ?_
    | refine rg fun KF hKF => ?_
    | refine ct rfl ?_
    | refine sk ?_
    | refine Wp.block ?_
    | dsimp only [cond_true, cond_false]
   refine Fr.dregion0 rfl fun KF hKF => ?_
   repeat first
    | (refine Er rfl (exec_ld rfl rfl) rfl ?_)
    | (refine Fe.pure rfl rfl (by simp only [↓nrmL, nrmZ, Nat.reduceEqDiff, ↓reduceIte, Nat.reduceAdd, Int.reduceBEq, Int.reduceBNe, m1, m2]; rfl) ?_)
   refine Fe.pure rfl (exec_idxA (j := x) rfl rfl (by omega)) rfl ?_
   refine Fe.read rfl (exec_ldI (p := rowA H4.n) (j := x) rfl hxd) (congrArg (AVal.int .i64) hde) trivial ?_
   simp only [↓nrmL, nrmZ, Nat.reduceEqDiff, ↓reduceIte, Nat.reduceAdd, Int.reduceBEq, Int.reduceBNe, m1, m2, m3, m4, m5]
   repeat first
    | (refine Er rfl (exec_ld rfl rfl) rfl ?_)
    | (refine Fe.pure rfl rfl (by simp only [↓nrmL, nrmZ, Nat.reduceEqDiff, ↓reduceIte, Nat.reduceAdd, Int.reduceBEq, Int.reduceBNe, m1, m2, m3, m4, m5]; rfl) ?_)
    | (refine Fe.pure rfl (exec_idxP (by (try simp only [↓nrmL, nrmZ, Nat.reduceEqDiff, ↓reduceIte, Nat.reduceAdd, Int.reduceBEq, Int.reduceBNe, m1, m2, m3, m4, m5]); rfl) rfl ?_) (by simp only [↓nrmL, nrmZ, Nat.reduceEqDiff, ↓reduceIte, Nat.reduceAdd, Int.reduceBEq, Int.reduceBNe, m1, m2, m3, m4, m5]; rfl) ?_; (focus omega))
    | (refine Er rfl (exec_ldB rfl (by omega)) rfl ?_)
   refine WpE.stB (l[y * a + x]) rfl rfl rfl rfl (by rw [hfl]; exact hlt2) fun H8 hb8 hw8 hx8 => ar ?_
   rw [← hgd, fillP_set (Q := skP a k y (x + 1)) fun t _ => skP_next hxa] at hb8
   refine WpE.nil (hKF _ _ ?_)
   refine rg fun KF hKF => ?_
   refine b0 ?_
   refine mI ?_
   refine nl hKF ?_
   dsimp only [cond_true, cond_false]
   refine ⟨x + 1, by omega, ⟨by simp only [↓nrmL, nrmZ, Nat.reduceEqDiff, ↓reduceIte, Nat.reduceAdd, Int.reduceBEq, Int.reduceBNe]; rw [hw1], trivial⟩, hxa, hb8, hw8, inferInstance⟩
end Go.Am
namespace Go.Am
open Go
attribute [local irreducible] Wp WpO WpX WpE
end Go.Am
namespace Go.Am
open Go
attribute [local irreducible] Wp WpO WpX WpE
theorem getD_mapA {α : Type} {d : α} {f : Nat → α} {n i : Nat} (h : i < n) : ((List.range n).map f).getD i d = f i := by simp [h]
theorem list_eqA {α : Type} {l m : List α} (d : α) (hl : l.length = m.length) (h : ∀ t, t < l.length → l.getD t d = m.getD t d) : l = m := by
 apply List.ext_getElem hl
 intro i h1 h2
 have := h i h1
 simpa [h1, h2] using this
def pd (l : List UInt8) (k : Nat) : Int := bif l.getD k 0 == 1 then 1 else 0
def rc (l : List UInt8) (a j x : Nat) : Int := (((List.range x).filter fun u => l.getD (j * a + u) 0 == 1).length : Nat)
def cc (l : List UInt8) (a i y : Nat) : Int := (((List.range y).filter fun v => l.getD (v * a + i) 0 == 1).length : Nat)
theorem rc_succ (l : List UInt8) (a j x : Nat) : rc l a j (x + 1) = rc l a j x + pd l (j * a + x) := by
 unfold rc pd
 rw [List.range_succ, List.filter_append, List.length_append]
 cases h : (l.getD (j * a + x) 0 == 1)
 ·rw [List.filter_cons_of_neg (by rw [h]; decide)]; simp
 ·rw [List.filter_cons_of_pos (by rw [h])]; simp
theorem cc_succ (l : List UInt8) (a i y : Nat) : cc l a i (y + 1) = cc l a i y + pd l (y * a + i) := by
 unfold cc pd
 rw [List.range_succ, List.filter_append, List.length_append]
 cases h : (l.getD (y * a + i) 0 == 1)
 ·rw [List.filter_cons_of_neg (by rw [h]; decide)]; simp
 ·rw [List.filter_cons_of_pos (by rw [h])]; simp
theorem rc_bd (l : List UInt8) (a j x : Nat) : 0 ≤ rc l a j x ∧ rc l a j x ≤ x := by
 unfold rc
 have := List.length_filter_le (fun u => l.getD (j * a + u) 0 == 1) (List.range x)
 rw [List.length_range] at this
 omega
theorem cc_bd (l : List UInt8) (a i y : Nat) : 0 ≤ cc l a i y ∧ cc l a i y ≤ y := by
 unfold cc
 have := List.length_filter_le (fun v => l.getD (v * a + i) 0 == 1) (List.range y)
 rw [List.length_range] at this
 omega
theorem pd_bd (l : List UInt8) (k : Nat) : 0 ≤ pd l k ∧ pd l k ≤ 1 := by
 unfold pd
 cases (l.getD k 0 == 1) <;> simp
def rowsP (l : List UInt8) (a b y x : Nat) : List Int := (List.range b).map fun j => if j < y then rc l a j a else if j = y then rc l a j x else 0
def colsP (l : List UInt8) (a y x : Nat) : List Int := (List.range a).map fun i => if i < x then cc l a i (y + 1) else cc l a i y
def rowsL (l : List UInt8) (a b : Nat) : List Int := (List.range b).map fun j => rc l a j a
def colsL (l : List UInt8) (a b : Nat) : List Int := (List.range a).map fun i => cc l a i b
theorem rowsP_length (l : List UInt8) (a b y x : Nat) : (rowsP l a b y x).length = b := by simp [rowsP]
theorem colsP_length (l : List UInt8) (a y x : Nat) : (colsP l a y x).length = a := by simp [colsP]
theorem rowsP_zero (l : List UInt8) (a b : Nat) : rowsP l a b 0 0 = List.replicate b 0 := by
 refine list_eqA 0 (by rw [rowsP_length, List.length_replicate]) fun t ht => ?_
 rw [rowsP_length] at ht
 rw [rowsP, getD_mapA ht, if_neg (by omega)]
 have : rc l a t 0 = 0 := rfl
 rw [this]
 simp [ht]
theorem colsP_zero (l : List UInt8) (a : Nat) : colsP l a 0 0 = List.replicate a 0 := by
 refine list_eqA 0 (by rw [colsP_length, List.length_replicate]) fun t ht => ?_
 rw [colsP_length] at ht
 rw [colsP, getD_mapA ht, if_neg (by omega)]
 have : cc l a t 0 = 0 := rfl
 rw [this]
 simp [ht]
theorem rowsP_next (l : List UInt8) (a b y : Nat) : rowsP l a b y a = rowsP l a b (y + 1) 0 := by
 refine list_eqA 0 (by rw [rowsP_length, rowsP_length]) fun t ht => ?_
 rw [rowsP_length] at ht
 rw [rowsP, rowsP, getD_mapA ht, getD_mapA ht]
 by_cases h1 : t < y
 ·rw [if_pos h1, if_pos (by omega)]
 ·rw [if_neg h1]
  by_cases h2 : t = y
  ·rw [if_pos h2, if_pos (by omega)]
  ·rw [if_neg h2, if_neg (by omega)]
   by_cases h3 : t = y + 1
   ·rw [if_pos h3]; rfl
   ·rw [if_neg h3]
theorem colsP_next (l : List UInt8) (a y : Nat) : colsP l a y a = colsP l a (y + 1) 0 := by
 refine list_eqA 0 (by rw [colsP_length, colsP_length]) fun t ht => ?_
 rw [colsP_length] at ht
 rw [colsP, colsP, getD_mapA ht, getD_mapA ht, if_pos ht, if_neg (by omega)]
theorem rowsP_all (l : List UInt8) (a b : Nat) : rowsP l a b b 0 = rowsL l a b := by
 refine list_eqA 0 (by simp [rowsP_length, rowsL]) fun t ht => ?_
 rw [rowsP_length] at ht
 rw [rowsP, rowsL, getD_mapA ht, getD_mapA ht, if_pos ht]
theorem colsP_all (l : List UInt8) (a b : Nat) : colsP l a b 0 = colsL l a b := by
 refine list_eqA 0 (by simp [colsP_length, colsL]) fun t ht => ?_
 rw [colsP_length] at ht
 rw [colsP, colsL, getD_mapA ht, getD_mapA ht, if_neg (by omega)]
theorem rowsP_get {l : List UInt8} {a b y x : Nat} (hy : y < b) : (rowsP l a b y x)[y]'(by rw [rowsP_length]; exact hy) = rc l a y x := by
 simp [rowsP]
theorem colsP_get {l : List UInt8} {a y x : Nat} (hx : x < a) : (colsP l a y x)[x]'(by rw [colsP_length]; exact hx) = cc l a x y := by
 simp [colsP]
theorem rowsP_set {l : List UInt8} {a b y x : Nat} : (rowsP l a b y x).set y (rc l a y x + pd l (y * a + x)) = rowsP l a b y (x + 1) := by
 refine list_eqA 0 (by rw [List.length_set, rowsP_length, rowsP_length]) fun t ht => ?_
 rw [List.length_set, rowsP_length] at ht
 rw [List.getD_eq_getElem?_getD, List.getElem?_set, rowsP_length, rowsP, rowsP, getD_mapA ht]
 by_cases h1 : y = t
 ·subst h1
  rw [if_pos rfl, if_pos ht, if_neg (by omega), if_pos rfl, rc_succ]; rfl
 ·rw [if_neg h1, ← List.getD_eq_getElem?_getD, getD_mapA ht]
  by_cases h2 : t < y
  ·rw [if_pos h2, if_pos h2]
  ·rw [if_neg h2, if_neg h2, if_neg (fun e => h1 e.symm), if_neg (fun e => h1 e.symm)]
theorem colsP_set {l : List UInt8} {a y x : Nat} : (colsP l a y x).set x (cc l a x y + pd l (y * a + x)) = colsP l a y (x + 1) := by
 refine list_eqA 0 (by rw [List.length_set, colsP_length, colsP_length]) fun t ht => ?_
 rw [List.length_set, colsP_length] at ht
 rw [List.getD_eq_getElem?_getD, List.getElem?_set, colsP_length, colsP, colsP, getD_mapA ht]
 by_cases h1 : x = t
 ·subst h1
  rw [if_pos rfl, if_pos ht, if_pos (by omega), cc_succ]; rfl
 ·rw [if_neg h1, ← List.getD_eq_getElem?_getD, getD_mapA ht]
  by_cases h2 : t < x
  ·rw [if_pos h2, if_pos (by omega)]
  ·rw [if_neg h2, if_neg (by omega)]
def extS (st : Int × Int) (i : Nat) (v : Int) : Int × Int := if v > 0 then (if st.2 = 0 then ((i : Int), 1) else (st.1, i + 1 - st.1)) else st
def extF (p : List Int) : Nat → Int × Int
 | 0 => (0, 0)
 | k + 1 => extS (extF p k) k (p.getD k 0)
def extL (p : List Int) : Int × Int := extF p p.length
theorem ext_char (p : List Int) (k : Nat) : ((∀ i, i < k → ¬ p.getD i 0 > 0) ∧ extF p k = (0, 0)) ∨ ∃ f g : Nat, f ≤ g ∧ g < k ∧ p.getD f 0 > 0 ∧ p.getD g 0 > 0 ∧ (∀ i, i < f → ¬ p.getD i 0 > 0) ∧ (∀ i, g < i → i < k → ¬ p.getD i 0 > 0) ∧ extF p k = ((f : Int), (g : Int) + 1 - f) := by
 induction k with
 | zero => exact Or.inl ⟨fun i hi => by omega, rfl⟩
 | succ k ih =>
  simp only [extF, extS]
  by_cases hp : p.getD k 0 > 0
  ·rw [if_pos hp]
   right
   rcases ih with ⟨h1, h2⟩ | ⟨f, g, h1, h2, h3, h4, h5, h6, h7⟩
   ·rw [h2, if_pos rfl]
    exact ⟨k, k, Nat.le_refl _, by omega, hp, hp, h1, fun i h3 h4 => by omega, by simp; omega⟩
   ·rw [h7, if_neg (by simp only; omega)]
    exact ⟨f, k, by omega, by omega, h3, hp, h5, fun i h8 h9 => by omega, rfl⟩
  ·rw [if_neg hp]
   rcases ih with ⟨h1, h2⟩ | ⟨f, g, h1, h2, h3, h4, h5, h6, h7⟩
   ·left
    refine ⟨fun i hi => ?_, h2⟩
    by_cases hik : i = k
    ·subst hik; exact hp
    ·exact h1 i (by omega)
   ·right
    refine ⟨f, g, h1, by omega, h3, h4, h5, fun i h8 h9 => ?_, h7⟩
    by_cases hik : i = k
    ·subst hik; exact hp
    ·exact h6 i h8 (by omega)
end Go.Am
namespace Go.Am
open Go
attribute [local irreducible] Wp WpO WpX WpE
abbrev aroundCs : List AVal := [.int .i64 0, .int .i64 (-1), .int .i64 1, .int .i64 (-1), .int .i64 1, .int .i64 0, .int .i64 1, .int .i64 1, .int .i64 0, .int .i64 1, .int .i64 (-1), .int .i64 1, .int .i64 (-1), .int .i64 0, .int .i64 (-1), .int .i64 (-1)]
class Tabs (H : AHeap) : Prop where
 it : tablesIn aroundT H = true
theorem tabs_iff {H : AHeap} : tablesIn aroundT H = true ↔ 1 < H.n ∧ ∃ rw e, H.get 1 = .row aroundCs rw e := by
 simp only [tablesIn, aroundT, List.all_cons, List.all_nil, Bool.and_true, Bool.and_eq_true]
 constructor
 ·rintro ⟨h1, h2⟩
  refine ⟨by simpa using h1, ?_⟩
  cases hg : H.get 1 with
  | row cs rw e => rw [hg] at h2; exact ⟨rw, e, by rw [abeqL_eq h2]⟩
  | _ => rw [hg] at h2; cases h2
 ·rintro ⟨h1, rw, e, hg⟩
  exact ⟨by simpa using h1, by rw [hg]; exact abeqL_refl _⟩
theorem Tabs.keep {H H' : AHeap} (h : Tabs H) (hn : H.n ≤ H'.n) (hg : H'.get 1 = H.get 1) : Tabs H' := by
 obtain ⟨h1, rw, e, h2⟩ := tabs_iff.1 h.it
 exact ⟨tabs_iff.2 ⟨by omega, rw, e, by rw [hg]; exact h2⟩⟩
theorem Tabs.lt {H : AHeap} (h : Tabs H) : 1 < H.n := (tabs_iff.1 h.it).1
theorem Tabs.ext {H H' : AHeap} (h : Tabs H) (x : Ext H H') : Tabs H' := h.keep x.n (x.get 1 h.lt)
class NeZ (s : Nat) : Prop where
 ne : s ≠ 1
instance {K : AHeap} [h : Tabs K] : NeZ K.n := ⟨by have := h.lt; omega⟩
instance {K : AHeap} {s : Nat} [g : GeN K s] [h : Tabs K] : NeZ s := ⟨by have := h.lt; have := g.ge; omega⟩
instance {H H' : AHeap} [x : ExtI H H'] [h : Tabs H] : Tabs H' := h.ext x.ext
instance {H : AHeap} {o : AObj} [h : Tabs H] : Tabs (H.push o) := h.ext ((Ext.refl H).push o)
instance {H : AHeap} {s : Nat} {o : AObj} [h : Tabs H] [z : NeZ s] : Tabs (H.set s o) := h.keep (Nat.le_refl _) (set_get_ne (fun e => z.ne e.symm))
instance {K H H' : AHeap} {p : AVal} [x : ExtP H H' p] [h : Tabs H] [f : FreshS K p] [k : Tabs K] : Tabs H' := h.keep x.n (x.get 1 h.lt ⟨fun r _ _ _ _ e => by have := f.ge _ _ _ _ _ e; have := k.lt; omega⟩)
end Go.Am
namespace Go.Am
open Go
attribute [local irreducible] Wp WpO WpX WpE
theorem made_mkB {fr : AFrame} {e : TypeId} {x y : ROpd} {k k' : IntKind} {a : Nat} (hx : x.ev fr = .int k a) (hy : y.ev fr = .int k' a) (h0 : a ≤ 2 ^ 40) : (ROp.makeSlice e [.int .u8 0] 1 x y).made fr = some (cellsB (List.replicate a 0), e, fun r => .slice r 0 a (some a) 1) := by
 rw [← mk_bytes]; exact made_mk hx hy (by omega)
theorem made_mkI {fr : AFrame} {e : TypeId} {x y : ROpd} {k k' : IntKind} {a : Nat} (hx : x.ev fr = .int k a) (hy : y.ev fr = .int k' a) (h0 : a ≤ 2 ^ 40) : (ROp.makeSlice e [.int .i64 0] 8 x y).made fr = some (cellsI (List.replicate a 0), e, fun r => .slice r 0 a (some a) 1) := by
 rw [← mk_ints]; exact made_mk hx hy (by omega)
end Go.Am
namespace Go.Am
open Go
attribute [local irreducible] Wp WpO WpX WpE
def ProfRes (H H' : AHeap) (v : AVal) (r c : List Int) (e : Int) : Prop := ∃ p q, v = .tuple [p, q, .int .i64 e] ∧ NewInts H H' p r ∧ NewInts H H' q c
theorem wpd {l : List UInt8} (h : pxOk l = true) {k : Nat} (hk : k < l.length) : IntKind.i64.wrap ((l[k].toNat : Nat) : Int) = pd l k := by
 rw [wu8]
 unfold pd
 have e : l.getD k 0 = l[k] := by simp [hk]
 rcases px_get h hk with h1 | h1 <;> (rw [e] at h1 ⊢; rw [h1]; rfl)
theorem K_Profile {a b : Nat} {p : AVal} {H : AHeap} {l : List UInt8} [hp : BytesI H p l] (ok : Ok a b l) : Con ext prog 4 74 [.agg [.int .i64 a, .int .i64 b, p]] H fun v H' => ProfRes H H' v (rowsL l a b) (colsL l a b) 0 := by
 refine con_of (show prog 74 = some c74 from rfl) rfl rfl fun n hn => ?_
 haveI := hp.one
 have hwa := ok.wa
 have hhb := ok.hb
 have hm : a * b ≤ 640 * 640 := Nat.mul_le_mul ok.wa ok.hb
 have hl := ok.len
 have he := ok.err
 repeat first
  | refine mI ?_
  | refine mN ?_
  | (refine Fo.ldN rfl rfl (by simp only [↓nrmL, nrmZ, Nat.reduceEqDiff, ↓reduceIte, Nat.reduceAdd, Int.reduceBEq, Int.reduceBNe, he]; rfl) ?_)
  | (refine bn rfl rfl rfl (by simp only [↓nrmL, nrmZ, Nat.reduceEqDiff, ↓reduceIte, Nat.reduceAdd, Int.reduceBEq, Int.reduceBNe, he]; rfl) ?_)
  | (refine Fo.pcall (v' := ?_) hn rfl (by simp only [↓nrmL, nrmZ, Nat.reduceEqDiff, ↓reduceIte, Nat.reduceAdd, Int.reduceBEq, Int.reduceBNe, he, List.map]; rfl) rfl ?hv fun _ _ => ?_; case hv => (simp only [he]; rfl))
  | refine bA ?_
  | refine nl hKF ?_
  | refine sq ?_
  | refine rg fun KF hKF => ?_
  | refine cf rfl ?_
  | refine sk ?_
 rename_i H1 hx1
 have f1 := mk_facts (H := H1) (e := 2 * 3) (mk_ints b)
 have f2 := mk_facts (H := H1.push (.row (cellsI (List.replicate b 0)) true (2 * 3))) (e := 2 * 3) (mk_ints a)
 obtain ⟨q1, hq1⟩ : ∃ q : AVal, AVal.slice H1.n 0 b (some b) 1 = q := ⟨_, rfl⟩
 obtain ⟨q2, hq2⟩ : ∃ q : AVal, AVal.slice ((H1.push (.row (cellsI (List.replicate b 0)) true (2 * 3))).n) 0 a (some a) 1 = q := ⟨_, rfl⟩
 rw [hq1] at f1
 rw [hq2] at f2
 obtain ⟨m1, fr1, w1⟩ := f1
 obtain ⟨m2, fr2, w2⟩ := f2
 refine Fr.dregionE [.row (cellsI (List.replicate b 0)) true (2 * 3), .row (cellsI (List.replicate a 0)) true (2 * 3)] ?_ fun KF hKF => ?_
 ·skip
  refine oracle_pre rfl rfl rfl rfl ?_; (try simp only [↓nrmL, nrmZ, Nat.reduceEqDiff, ↓reduceIte, Nat.reduceAdd, Int.reduceBEq, Int.reduceBNe])
  refine oracle_pre rfl rfl rfl (exec_ld rfl rfl) ?_; (try simp only [↓nrmL, nrmZ, Nat.reduceEqDiff, ↓reduceIte, Nat.reduceAdd, Int.reduceBEq, Int.reduceBNe])
  refine oracle_made rfl rfl (made_mkI rfl rfl (by omega)) ?_
  refine oracle_pre rfl rfl rfl rfl ?_; (try simp only [↓nrmL, nrmZ, Nat.reduceEqDiff, ↓reduceIte, Nat.reduceAdd, Int.reduceBEq, Int.reduceBNe])
  refine oracle_pre rfl rfl rfl (exec_ld rfl rfl) ?_; (try simp only [↓nrmL, nrmZ, Nat.reduceEqDiff, ↓reduceIte, Nat.reduceAdd, Int.reduceBEq, Int.reduceBNe])
  refine oracle_made rfl rfl (made_mkI rfl rfl (by omega)) ?_
  exact oracle_none _ _ _ _ rfl
 simp only [pushAll]
 haveI := m1.one
 haveI := m2.one
 have i1 : IntsI (H1.push (.row (cellsI (List.replicate b 0)) true (2 * 3))) q1 (List.replicate b 0) := by
  unfold IntsI; rw [List.length_replicate]; exact m1
 have i2 : IntsI ((H1.push (.row (cellsI (List.replicate b 0)) true (2 * 3))).push (.row (cellsI (List.replicate a 0)) true (2 * 3))) q2 (List.replicate a 0) := by
  unfold IntsI; rw [List.length_replicate]; exact m2
 clear m1 m2
 refine Fe.pure rfl rfl (by simp only [↓nrmL, nrmZ, Nat.reduceEqDiff, ↓reduceIte, Nat.reduceAdd, Int.reduceBEq, Int.reduceBNe]; rfl) ?_
 refine Er rfl (exec_ld rfl rfl) rfl ?_
 refine Fe.made rfl (made_mkI rfl rfl (by omega)) ghost_of trivial hq1 ?_
 change WpE _ _ (AHeap.n (AHeap.push _ (.row (cellsI (List.replicate b 0)) true (2 * 3)))) _ _ _ _ _ _ _
 refine Fe.pure rfl rfl (by simp only [↓nrmL, nrmZ, Nat.reduceEqDiff, ↓reduceIte, Nat.reduceAdd, Int.reduceBEq, Int.reduceBNe]; rfl) ?_
 refine Er rfl (exec_ld rfl rfl) rfl ?_
 refine Fe.made rfl (made_mkI rfl rfl (by omega)) ghost_of trivial hq2 ?_
 refine Fe.pure rfl rfl (by simp only [↓nrmL, nrmZ, Nat.reduceEqDiff, ↓reduceIte, Nat.reduceAdd, Int.reduceBEq, Int.reduceBNe]; rfl) ?_
 refine Fe.pure rfl rfl (by simp only [↓nrmL, nrmZ, Nat.reduceEqDiff, ↓reduceIte, Nat.reduceAdd, Int.reduceBEq, Int.reduceBNe]; rfl) ?_
 refine WpE.nil (hKF _ _ ?_)
 refine sq ?_
 refine sq ?_
 refine rg fun KF hKF => ?_
 refine fd ?_
 refine Fo.ld rfl rfl ?_
 refine mI ?_
 refine nl hKF ?_
 refine Wp.block ?_
 dsimp only [cond_true, cond_false]
 refine Wp.loopS [6, 7, 8, 22, 23, 24, 25, 26, 27, 28, 29, 30, 31, 32, 33, 34, 35, 36, 37, 38, 39, 40, 41, 42, 43, 44, 45, 46, 47, 48, 49, 50, 51] (fun y : Nat => [(22, .int .i64 y)]) (fun _ y H2 => y ≤ b ∧ IntsI H2 q1 (rowsP l a b y 0) ∧ WrS H2 q1 ∧ IntsI H2 q2 (colsP l a y 0) ∧ WrS H2 q2 ∧ Ext H1 H2) (fun y => b - y) 0 rfl (fun _ => rfl) ⟨rfl, trivial⟩ ⟨Nat.zero_le _, by rw [rowsP_zero]; infer_instance, inferInstance, by rw [colsP_zero]; infer_instance, inferInstance, Ext0.ext⟩ (by unfold fuel0 at hn; omega) ?_
 rintro y g H2 ⟨hy, hr2, hrw2, hc2, hcw2, hxe⟩
 haveI : ExtI H1 H2 := ⟨hxe⟩
 simp only [↓nrmL, nrmZ, Nat.reduceEqDiff, ↓reduceIte, Nat.reduceAdd, Int.reduceBEq, Int.reduceBNe]
 cases hc : decide ((y : Int) < (b : Int))
 ·have hyb : y = b := by have := of_decide_eq_false hc; omega
  subst hyb
  rw [rowsP_all] at hr2
  rw [colsP_all] at hc2
  repeat first
   | refine mI ?_
   | (refine mv ?_)
   | (refine bn rfl rfl rfl (by simp only [hc]; rfl) ?_)
   | refine nl hKF ?_
   | refine sq ?_
   | refine rg fun KF hKF => ?_
   | refine cf rfl ?_
   | refine rt ?_
   | refine xi ?_
   | dsimp only [cond_true, cond_false]
  refine rz trivial ?_
  exact ⟨q1, q2, rfl, ⟨inferInstance, fr1.weak, inferInstance, Ext0.ext⟩, ⟨inferInstance, fr2.weak, inferInstance, Ext0.ext⟩⟩
 ·have hyb : y < b := by have := of_decide_eq_true hc; omega
  have hw1 := wa1 (a := y) (by omega)
  have hrl := row_le (a := a) hyb
  repeat first
   | refine mI ?_
   | (refine Fo.ldN rfl rfl (by simp only [↓nrmL, nrmZ, Nat.reduceEqDiff, ↓reduceIte, Nat.reduceAdd, Int.reduceBEq, Int.reduceBNe, hc]; rfl) ?_)
   | (refine bn rfl rfl rfl (by simp only [hc]; rfl) ?_)
   | refine nl hKF ?_
   | refine sq ?_
   | refine rg fun KF hKF => ?_
   | refine ct rfl ?_
   | refine sk ?_
   | refine Wp.block ?_
  refine WpO.do (WpX.conD hn rfl rfl (by simp only [↓nrmL, nrmZ, Nat.reduceEqDiff, ↓reduceIte, Nat.reduceAdd, Int.reduceBEq, Int.reduceBNe, List.map] <;> rfl) (K_line (l := l) hl hyb hm hhb) fun v H4 h5 => ?_)
  obtain ⟨hv1, hv2, hx4⟩ := h5
  haveI : ExtI _ H4 := ⟨hx4⟩
  haveI := hv1.one
  refine Fo.lenV (u := ?_) (by simp only [↓nrmL, nrmK, Nat.reduceEqDiff, ↓reduceIte]; rfl) ?hv ?_; case hv => rfl
  refine mI ?_
  refine nl hKF ?_
  refine Wp.block ?_
  dsimp only [cond_true, cond_false]
  refine Wp.loopS [7, 8, 29, 30, 31, 32, 33, 34, 35, 36, 37, 38, 39, 40, 41, 42, 43, 44, 45, 46, 47, 48, 49, 50] (fun x : Nat => [(29, .int .i64 x)]) (fun _ x H5 => x ≤ a ∧ IntsI H5 q1 (rowsP l a b y x) ∧ WrS H5 q1 ∧ IntsI H5 q2 (colsP l a y x) ∧ WrS H5 q2 ∧ Ext H1 H5) (fun x => a - x) 0 rfl (fun _ => rfl) ⟨rfl, trivial⟩ ⟨Nat.zero_le _, inferInstance, inferInstance, inferInstance, inferInstance, Ext0.ext⟩ (by unfold fuel0 at hn; omega) ?_
  rintro x g2 H5 ⟨hx0, hr5, hrw5, hc5, hcw5, hxe5⟩
  haveI : ExtI H1 H5 := ⟨hxe5⟩
  simp only [↓nrmL, nrmZ, Nat.reduceEqDiff, ↓reduceIte, Nat.reduceAdd, Int.reduceBEq, Int.reduceBNe]
  cases hc2' : decide ((x : Int) < (a : Int))
  ·have hxa : x = a := by have := of_decide_eq_false hc2'; omega
   subst hxa
   rw [rowsP_next] at hr5
   rw [colsP_next] at hc5
   repeat first
    | refine mI ?_
    | (refine bn rfl rfl rfl (by simp only [hc2']; rfl) ?_)
    | refine b0 ?_
    | refine nl hKF ?_
    | refine sq ?_
    | refine rg fun KF hKF => ?_
    | refine cf rfl ?_
    | refine xi ?_
    | dsimp only [cond_true, cond_false]
   refine ⟨y + 1, by omega, ⟨by simp only [↓nrmL, nrmZ, Nat.reduceEqDiff, ↓reduceIte, Nat.reduceAdd, Int.reduceBEq, Int.reduceBNe]; rw [hw1], trivial⟩, hyb, inferInstance, inferInstance, inferInstance, inferInstance, Ext0.ext⟩
  ·have hxa : x < a := by have := of_decide_eq_true hc2'; omega
   have hlt := idx_lt hxa hyb
   have hil : y * a + x < l.length := by omega
   have hw3 := wa1 (a := x) (by omega)
   have hpd := wpd ok.px hil
   have hrlen := rowsP_length l a b y x
   have hclen := colsP_length l a y x
   have hrg := rowsP_get (l := l) (a := a) (b := b) (y := y) (x := x) hyb
   have hcg := colsP_get (l := l) (a := a) (y := y) (x := x) hxa
   have b1 := rc_bd l a y x
   have b2 := cc_bd l a x y
   have b3 := pd_bd l (y * a + x)
   have hs1 : IntKind.i64.wrap (rc l a y x + pd l (y * a + x)) = rc l a y x + pd l (y * a + x) := w64 (by omega)
   have hs2 : IntKind.i64.wrap (cc l a x y + pd l (y * a + x)) = cc l a x y + pd l (y * a + x) := w64 (by omega)
   repeat first
    | refine mI ?_
    | (refine mv ?_)
    | (refine bn rfl rfl rfl (by simp only [hc2', hpd, hrg, hs1]; rfl) ?_)
    | (refine Fo.idxV (by simp only [↓nrmL, nrmK, Nat.reduceEqDiff, ↓reduceIte]; rfl) rfl ?_ (by simp only [↓nrmL, nrmZ, Nat.reduceEqDiff, ↓reduceIte, Nat.reduceAdd, Int.reduceBEq, Int.reduceBNe, hc2', hpd, hrg, hs1]; rfl) ?_; (focus omega))
    | (refine Fo.idx (by simp only [↓nrmL, nrmK, Nat.reduceEqDiff, ↓reduceIte]; rfl) rfl ?_ (by simp only [↓nrmL, nrmZ, Nat.reduceEqDiff, ↓reduceIte, Nat.reduceAdd, Int.reduceBEq, Int.reduceBNe, hc2', hpd, hrg, hs1]; rfl) ?_; (focus omega))
    | (refine Fo.ldB rfl ?_ rfl ?_; (focus omega))
    | (refine Fo.ldI rfl ?_ (by simp only [hc2', hpd, hrg, hs1]; rfl) ?_; (focus omega))
    | (refine Fo.now rfl rfl (by simp only [hc2', hpd, hrg, hs1]; rfl) ?_)
    | refine nl hKF ?_
    | refine sq ?_
    | refine rg fun KF hKF => ?_
    | refine ct rfl ?_
    | refine sk ?_
    | refine Wp.block ?_
   refine WpO.do' (WpX.stI (l := rowsP l a b y x) rfl rfl (by omega) fun H6 hb6 hw6 hx6 => ?_)
   rw [rowsP_set] at hb6
   repeat first
    | refine mI ?_
    | (refine mv ?_)
    | (refine bn rfl rfl rfl (by simp only [hpd, hcg, hs2]; rfl) ?_)
    | (refine Fo.idx (by simp only [↓nrmL, nrmK, Nat.reduceEqDiff, ↓reduceIte]; rfl) rfl ?_ (by simp only [↓nrmL, nrmZ, Nat.reduceEqDiff, ↓reduceIte, Nat.reduceAdd, Int.reduceBEq, Int.reduceBNe, hpd, hcg, hs2]; rfl) ?_; (focus omega))
    | (refine Fo.ldI rfl ?_ (by simp only [hpd, hcg, hs2]; rfl) ?_; (focus omega))
    | (refine Fo.now rfl rfl (by simp only [hpd, hcg, hs2]; rfl) ?_)
    | refine nl hKF ?_
    | refine rg fun KF hKF => ?_
   refine WpO.do' (WpX.stI (l := colsP l a y x) rfl rfl (by omega) fun H7 hb7 hw7 hx7 => ?_)
   rw [colsP_set] at hb7
   refine nl hKF ?_
   refine rg fun KF hKF => ?_
   refine b0 ?_
   refine mI ?_
   refine nl hKF ?_
   dsimp only [cond_true, cond_false]
   refine ⟨x + 1, by omega, ⟨by simp only [↓nrmL, nrmZ, Nat.reduceEqDiff, ↓reduceIte, Nat.reduceAdd, Int.reduceBEq, Int.reduceBNe]; rw [hw3], trivial⟩, hxa, inferInstance, inferInstance, hb7, hw7, Ext0.ext⟩
end Go.Am
namespace Go.Am
open Go
attribute [local irreducible] Wp WpO WpX WpE
theorem K_ProfileE {w h : Int} {p : AVal} {H : AHeap} {l : List UInt8} [hp : BytesI H p l] (h0 : (Img.err ⟨w, h, l⟩ == 0) = false) : Con ext prog 4 74 [.agg [.int .i64 w, .int .i64 h, p]] H fun v H' => v = .tuple [.nslice, .nslice, .int .i64 (Img.err ⟨w, h, l⟩)] ∧ Ext H H' := by
 refine con_of (show prog 74 = some c74 from rfl) rfl rfl fun n hn => ?_
 haveI := hp.one
 repeat first
  | refine mI ?_
  | refine mN ?_
  | (refine Fo.ldN rfl rfl (by simp only [↓nrmL, nrmZ, Nat.reduceEqDiff, ↓reduceIte, Nat.reduceAdd, Int.reduceBEq, Int.reduceBNe, h0, bne]; rfl) ?_)
  | (refine bn rfl rfl rfl (by simp only [h0, bne]; rfl) ?_)
  | (refine Fo.pcall (v' := ?_) hn rfl (by simp only [↓nrmL, nrmZ, Nat.reduceEqDiff, ↓reduceIte, Nat.reduceAdd, Int.reduceBEq, Int.reduceBNe, h0, bne, List.map]; rfl) rfl ?hv fun _ _ => ?_; case hv => rfl)
  | refine bA ?_
  | refine nl hKF ?_
  | refine sq ?_
  | refine rg fun KF hKF => ?_
  | refine ct rfl ?_
  | refine rt ?_
  | dsimp only [cond_true, cond_false]
 refine rz trivial ?_
 exact ⟨rfl, Ext0.ext⟩
def isFull (l : List UInt8) (a y : Nat) : Bool := (rc l a y a == (a : Int)) && decide (rc l a y a > 0)
def fullN (l : List UInt8) (a : Nat) : Nat → Nat
 | 0 => 0
 | y + 1 => bif isFull l a y then fullN l a y + 1 else fullN l a y
theorem fullN_le (l : List UInt8) (a : Nat) : ∀ y, fullN l a y ≤ y
 | 0 => Nat.le_refl _
 | y + 1 => by
  have := fullN_le l a y
  simp only [fullN]
  cases isFull l a y <;> simp <;> omega
def fullS (g : Img) : Int × Int := bif g.err == 0 then ((fullN g.px g.w.toNat g.h.toNat : Int), 0) else (0, g.err)
instance K_Full {w h : Int} {p : AVal} {H : AHeap} {l : List UInt8} [hp : BytesI H p l] : PureCon ext prog 66 [.agg [.int .i64 w, .int .i64 h, p]] H 5 (.tuple [.int .i64 (fullS ⟨w, h, l⟩).1, .int .i64 (fullS ⟨w, h, l⟩).2]) := ⟨by
 refine con_of (show prog 66 = some c66 from rfl) rfl rfl fun n hn => ?_
 haveI := hp.one
 cases h0 : (Img.err ⟨w, h, l⟩ == 0)
 ·have e1 : fullS ⟨w, h, l⟩ = (0, Img.err ⟨w, h, l⟩) := by simp only [fullS, h0, cond_false]
  rw [e1]
  repeat first
   | refine mI ?_
   | (refine Fo.ldN rfl rfl (by simp only [↓nrmL, nrmZ, Nat.reduceEqDiff, ↓reduceIte, Nat.reduceAdd, Int.reduceBEq, Int.reduceBNe]; rfl) ?_)
   | refine bA ?_
   | refine nl hKF ?_
   | refine sq ?_
   | refine rg fun KF hKF => ?_
  refine WpO.do (WpX.conD hn rfl rfl (by simp only [↓nrmL, nrmZ, Nat.reduceEqDiff, ↓reduceIte, Nat.reduceAdd, Int.reduceBEq, Int.reduceBNe, List.map] <;> rfl) (K_ProfileE h0) fun v H1 h5 => ?_)
  obtain ⟨rfl, hx1⟩ := h5
  haveI : ExtI _ H1 := ⟨hx1⟩
  repeat first
   | refine mI ?_
   | refine mT ?_
   | refine mN ?_
   | (refine bn rfl rfl rfl (by simp only [h0, bne]; rfl) ?_)
   | refine xt ?_
   | refine nl hKF ?_
   | refine sq ?_
   | refine rg fun KF hKF => ?_
   | refine ct rfl ?_
   | refine rt ?_
   | dsimp only [cond_true, cond_false]
  refine rz trivial ?_
  exact ⟨rfl, Ext0.ext⟩
 obtain ⟨a, b, rfl, rfl, ok⟩ := ok_of h0
 have e1 : fullS ⟨a, b, l⟩ = ((fullN l a b : Int), 0) := by simp only [fullS, h0, cond_true, Int.toNat_natCast]
 rw [e1]
 have hb := ok.hb
 repeat first
  | refine mI ?_
  | (refine Fo.ldN rfl rfl (by simp only [↓nrmL, nrmZ, Nat.reduceEqDiff, ↓reduceIte, Nat.reduceAdd, Int.reduceBEq, Int.reduceBNe]; rfl) ?_)
  | refine bA ?_
  | refine nl hKF ?_
  | refine sq ?_
  | refine rg fun KF hKF => ?_
 refine WpO.do (WpX.conD hn rfl rfl (by simp only [↓nrmL, nrmZ, Nat.reduceEqDiff, ↓reduceIte, Nat.reduceAdd, Int.reduceBEq, Int.reduceBNe, List.map] <;> rfl) (K_Profile ok) fun v H1 h5 => ?_)
 obtain ⟨q1, q2, rfl, ⟨hq1, hf1, hw1, hx1⟩, ⟨hq2, hf2, hw2, _⟩⟩ := h5
 haveI : ExtI _ H1 := ⟨hx1⟩
 haveI := hq1.one
 haveI := hq2.one
 have hrl : (rowsL l a b).length = b := by simp [rowsL]
 repeat first
  | refine mI ?_
  | refine mT ?_
  | (refine mv ?_)
  | (refine bn rfl rfl rfl (by simp only [↓nrmL, nrmZ, Nat.reduceEqDiff, ↓reduceIte, Nat.reduceAdd, Int.reduceBEq, Int.reduceBNe]; rfl) ?_)
  | refine xt ?_
  | (refine ln (by simp only [↓nrmL, nrmK, Nat.reduceEqDiff, ↓reduceIte]; rfl) ?_)
  | refine nl hKF ?_
  | refine sq ?_
  | refine rg fun KF hKF => ?_
  | refine cf rfl ?_
  | refine sk ?_
  | refine Wp.block ?_
  | dsimp only [cond_true, cond_false]
 refine Wp.loopS [7, 9, 21, 22, 23, 24, 25, 26, 27, 28, 29, 30, 31, 32, 33, 34, 35] (fun y : Nat => [(21, .int .i64 y), (7, .int .i64 (fullN l a y : Int))]) (fun H3 y H2 => y ≤ b ∧ H2 = H3) (fun y => b - y) 0 rfl (fun _ => rfl) ⟨rfl, rfl, trivial⟩ ⟨Nat.zero_le _, rfl⟩ (by unfold fuel0 at hn; omega) ?_
 rintro y g H2 ⟨hy, rfl⟩
 simp only [↓nrmL, nrmZ, Nat.reduceEqDiff, ↓reduceIte, Nat.reduceAdd, Int.reduceBEq, Int.reduceBNe]
 cases hc : decide ((y : Int) < (((rowsL l a b).length : Nat) : Int))
 ·have hyb : y = b := by have := of_decide_eq_false hc; omega
  subst hyb
  repeat first
   | refine mI ?_
   | (refine bn rfl rfl rfl (by simp only [hc]; rfl) ?_)
   | refine nl hKF ?_
   | refine sq ?_
   | refine rg fun KF hKF => ?_
   | refine cf rfl ?_
   | refine rt ?_
   | refine xi ?_
   | dsimp only [cond_true, cond_false]
  refine rz trivial ?_
  exact ⟨rfl, Ext0.ext⟩
 ·have hyb : y < b := by have := of_decide_eq_true hc; omega
  have hw1 := wa1 (a := y) (by omega)
  have hle := fullN_le l a y
  have hw3 := wa1 (a := fullN l a y) (by omega)
  have hyl : y < (rowsL l a b).length := by omega
  have hge : (rowsL l a b)[y]'hyl = rc l a y a := by simp [rowsL]
  cases k1 : (rc l a y a == (a : Int))
  ·have e2 : fullN l a (y + 1) = fullN l a y := by simp only [fullN, isFull, k1, Bool.false_and, cond_false]
   repeat first
    | refine ox ?_
    | refine mI ?_
    | refine mB ?_
    | refine fd ?_
    | refine Fo.ld rfl rfl ?_
    | (refine bn rfl rfl rfl (by simp only [hc, hge, k1]; rfl) ?_)
    | refine b0 ?_
    | refine fB ?_
    | (refine Fo.idx (by simp only [↓nrmL, nrmK, Nat.reduceEqDiff, ↓reduceIte]; rfl) rfl ?_ (by simp only [↓nrmL, nrmZ, Nat.reduceEqDiff, ↓reduceIte, Nat.reduceAdd, Int.reduceBEq, Int.reduceBNe, hc, hge, k1]; rfl) ?_; (focus omega))
    | (refine Fo.ldI rfl ?_ (by simp only [hc, hge, k1]; rfl) ?_; (focus omega))
    | refine nl hKF ?_
    | refine sq ?_
    | refine rg fun KF hKF => ?_
    | refine ct rfl ?_
    | refine cf rfl ?_
    | refine sk ?_
    | refine Wp.block ?_
    | dsimp only [cond_true, cond_false]
   refine ⟨y + 1, by omega, ⟨by simp only [↓nrmL, nrmZ, Nat.reduceEqDiff, ↓reduceIte, Nat.reduceAdd, Int.reduceBEq, Int.reduceBNe]; rw [hw1], by simp only [↓nrmL, nrmZ, Nat.reduceEqDiff, ↓reduceIte, Nat.reduceAdd, Int.reduceBEq, Int.reduceBNe]; rw [e2], trivial⟩, hyb, rfl⟩
  cases k2 : decide (rc l a y a > 0)
  ·have e2 : fullN l a (y + 1) = fullN l a y := by simp only [fullN, isFull, k2, Bool.and_false, cond_false]
   repeat first
    | refine oy ?_
    | refine mI ?_
    | refine mB ?_
    | refine fd ?_
    | refine Fo.ld rfl rfl ?_
    | (refine bn rfl rfl rfl (by simp only [hc, hge, k1, k2]; rfl) ?_)
    | refine b0 ?_
    | refine tB ?_
    | (refine Fo.idx (by simp only [↓nrmL, nrmK, Nat.reduceEqDiff, ↓reduceIte]; rfl) rfl ?_ (by simp only [↓nrmL, nrmZ, Nat.reduceEqDiff, ↓reduceIte, Nat.reduceAdd, Int.reduceBEq, Int.reduceBNe, hc, hge, k1, k2]; rfl) ?_; (focus omega))
    | (refine Fo.ldI rfl ?_ (by simp only [hc, hge, k1, k2]; rfl) ?_; (focus omega))
    | refine nl hKF ?_
    | refine sq ?_
    | refine rg fun KF hKF => ?_
    | refine ct rfl ?_
    | refine cf rfl ?_
    | refine sk ?_
    | refine Wp.block ?_
    | dsimp only [cond_true, cond_false]
   refine ⟨y + 1, by omega, ⟨by simp only [↓nrmL, nrmZ, Nat.reduceEqDiff, ↓reduceIte, Nat.reduceAdd, Int.reduceBEq, Int.reduceBNe]; rw [hw1], by simp only [↓nrmL, nrmZ, Nat.reduceEqDiff, ↓reduceIte, Nat.reduceAdd, Int.reduceBEq, Int.reduceBNe]; rw [e2], trivial⟩, hyb, rfl⟩
  ·have e2 : fullN l a (y + 1) = fullN l a y + 1 := by simp only [fullN, isFull, k1, k2, Bool.and_self, cond_true]
   repeat first
    | refine oy ?_
    | refine mI ?_
    | refine mB ?_
    | refine fd ?_
    | refine Fo.ld rfl rfl ?_
    | (refine bn rfl rfl rfl (by simp only [hc, hge, k1, k2]; rfl) ?_)
    | refine b0 ?_
    | refine tB ?_
    | (refine Fo.idx (by simp only [↓nrmL, nrmK, Nat.reduceEqDiff, ↓reduceIte]; rfl) rfl ?_ (by simp only [↓nrmL, nrmZ, Nat.reduceEqDiff, ↓reduceIte, Nat.reduceAdd, Int.reduceBEq, Int.reduceBNe, hc, hge, k1, k2]; rfl) ?_; (focus omega))
    | (refine Fo.ldI rfl ?_ (by simp only [hc, hge, k1, k2]; rfl) ?_; (focus omega))
    | refine nl hKF ?_
    | refine sq ?_
    | refine rg fun KF hKF => ?_
    | refine ct rfl ?_
    | refine sk ?_
    | refine Wp.block ?_
    | dsimp only [cond_true, cond_false]
   refine ⟨y + 1, by omega, ⟨by simp only [↓nrmL, nrmZ, Nat.reduceEqDiff, ↓reduceIte, Nat.reduceAdd, Int.reduceBEq, Int.reduceBNe]; rw [hw1], by simp only [↓nrmL, nrmZ, Nat.reduceEqDiff, ↓reduceIte, Nat.reduceAdd, Int.reduceBEq, Int.reduceBNe]; rw [e2, hw3], trivial⟩, hyb, rfl⟩⟩
class OkI (a b : Nat) (l : List UInt8) : Prop where
 ok : Ok a b l
def fwS (g : Img) (k : Int) : Int × Int := bif (unskewS g k).2 == 0 then fullS (unskewS g k).1 else (0, (unskewS g k).2)
instance K_fullWithout {w h k : Int} {p : AVal} {H : AHeap} {l : List UInt8} [hp : BytesI H p l] : PureCon ext prog 39 [.agg [.int .i64 w, .int .i64 h, p], .int .i64 k] H 7 (.tuple [.int .i64 (fwS ⟨w, h, l⟩ k).1, .int .i64 (fwS ⟨w, h, l⟩ k).2]) := ⟨by
 refine con_of (show prog 39 = some c39 from rfl) rfl rfl fun n hn => ?_
 haveI := hp.one
 repeat first
  | refine mI ?_
  | (refine Fo.ldN rfl rfl (by simp only [↓nrmL, nrmZ, Nat.reduceEqDiff, ↓reduceIte, Nat.reduceAdd, Int.reduceBEq, Int.reduceBNe]; rfl) ?_)
  | refine bA ?_
  | refine nl hKF ?_
  | refine sq ?_
  | refine rg fun KF hKF => ?_
 refine WpO.do (WpX.conD hn rfl rfl (by simp only [↓nrmL, nrmZ, Nat.reduceEqDiff, ↓reduceIte, Nat.reduceAdd, Int.reduceBEq, Int.reduceBNe, List.map] <;> rfl) (K_Unskew (w := w) (h := h) (k := k) (l := l)) fun v H1 h5 => ?_)
 obtain ⟨u, e1, q, e2, hq, hf, hw, hx⟩ := h5
 subst e1 e2
 haveI : ExtI _ H1 := ⟨hx⟩
 haveI := hq.one
 cases h0 : ((unskewS ⟨w, h, l⟩ k).2 == 0)
 ·have e1 : (unskewS ⟨w, h, l⟩ k).2 = (fwS ⟨w, h, l⟩ k).2 ∧ 0 = (fwS ⟨w, h, l⟩ k).1 := by simp only [fwS, h0, cond_false]; exact ⟨trivial, trivial⟩
  repeat first
   | refine mI ?_
   | refine mT ?_
   | (refine bn rfl rfl rfl (by simp only [h0, bne]; rfl) ?_)
   | refine xt ?_
   | refine nw ?_
   | (refine so rfl (rfl : _ = AVal.agg _) rfl rfl rfl (by simp only [↓nrmL, nrmZ, Nat.reduceEqDiff, ↓reduceIte, Nat.reduceAdd, Int.reduceBEq, Int.reduceBNe, h0, bne]; rfl) ?_)
   | refine nl hKF ?_
   | refine sq ?_
   | refine rg fun KF hKF => ?_
   | refine ct rfl ?_
   | refine rt ?_
   | dsimp only [cond_true, cond_false]
  refine rz trivial ?_
  exact ⟨by rw [← e1.1, ← e1.2]; rfl, Ext0.ext⟩
 ·have e1 : fullS (unskewS ⟨w, h, l⟩ k).1 = fwS ⟨w, h, l⟩ k := by simp only [fwS, h0, cond_true]
  repeat first
   | refine mI ?_
   | refine mT ?_
   | (refine Fo.ldN rfl rfl (by simp only [↓nrmL, nrmZ, Nat.reduceEqDiff, ↓reduceIte, Nat.reduceAdd, Int.reduceBEq, Int.reduceBNe, h0, bne]; rfl) ?_)
   | (refine bn rfl rfl rfl (by simp only [h0, bne]; rfl) ?_)
   | refine xt ?_
   | (refine Fo.pcall (v' := ?_) hn rfl (by simp only [↓nrmL, nrmZ, Nat.reduceEqDiff, ↓reduceIte, Nat.reduceAdd, Int.reduceBEq, Int.reduceBNe, h0, bne, List.map]; rfl) rfl ?hv fun _ _ => ?_; case hv => rfl)
   | refine nw ?_
   | (refine so rfl (rfl : _ = AVal.agg _) rfl rfl rfl (by simp only [↓nrmL, nrmZ, Nat.reduceEqDiff, ↓reduceIte, Nat.reduceAdd, Int.reduceBEq, Int.reduceBNe, h0, bne]; rfl) ?_)
   | refine nl hKF ?_
   | refine sq ?_
   | refine rg fun KF hKF => ?_
   | refine cf rfl ?_
   | refine sk ?_
   | refine rt ?_
   | dsimp only [cond_true, cond_false]
  refine rz trivial ?_
  exact ⟨by rw [← e1]; rfl, Ext0.ext⟩⟩
end Go.Am
namespace Go.Am
open Go
section
variable {call : ACall} {lf : Nat} {fr : AFrame} {H : AHeap} {Q : RExit → AFrame → AHeap → Prop} {b : RCode}
def WpN (call : ACall) (lf : Nat) (b : RCode) (k : Nat) (fr : AFrame) (H : AHeap) (Q : RExit → AFrame → AHeap → Prop) : Prop := ∃ x fr' H', loopN (b.exec call lf) k fr H = some ((x, fr'), H') ∧ Q x fr' H'
theorem Wp.rounds (h : WpN call lf b lf fr H Q) : Wp call lf (.loop b) fr H Q := h
theorem WpN.round {k : Nat} (hk : 0 < k) (h : Wp call lf b fr H fun x fr' H' => match x with | .normal => WpN call lf b (k - 1) fr' H' Q | e => Q e fr' H') : WpN call lf b k fr H Q := by
  obtain ⟨j, rfl⟩ : ∃ j, k = j + 1 := ⟨k - 1, by omega⟩
  obtain ⟨x, fr', H', h1, h2⟩ := h
  cases x with
  | normal =>
    obtain ⟨y, f2, H2, h3, h4⟩ := h2
    refine ⟨y, f2, H2, ?_, h4⟩
    simp only [loopN, M.bind, h1]
    exact h3
  | exit id => exact ⟨_, _, _, by simp only [loopN, M.bind, h1, M.pure], h2⟩
  | ret => exact ⟨_, _, _, by simp only [loopN, M.bind, h1, M.pure], h2⟩
end
end Go.Am
