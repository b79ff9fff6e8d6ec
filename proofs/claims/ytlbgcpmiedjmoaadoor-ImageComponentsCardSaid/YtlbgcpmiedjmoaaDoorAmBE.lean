import Derived.Test.YtlbgcpmiedjmoaaDoorAmBD
set_option linter.unusedSimpArgs false
set_option linter.unusedVariables false
/- Regions without order in contracts, with rows made and guards. -/
namespace Go.Am
open Go

def madeOk (op : ROp) (fr : AFrame) (ref : Nat) (H : AHeap) : Bool := match op.made fr with
  | some (cs, e, _) => ghostIs H ref cs e
  | none => false

/-- The rest of a region: n are done; the next row made is ref; E: the effects so far, with the heaps before them; Rd: what was read or made so far. -/
def WpE (call : ACall) (n ref : Nat) (its : List DItem) (H0 : AHeap) (E : List (Nat × AHeap)) (Rd : List (Nat × (AHeap → Bool))) (fr : AFrame) (H : AHeap) (K : AFrame → AHeap → Prop) : Prop :=
  ∀ R0 E0 Rd0, R0.length = n → (∀ p ∈ E0, p ∈ E) → (∀ p ∈ Rd0, (p.1, DRec.okAt p.2) ∈ Rd) → DInv R0 H0 H E0 Rd0 → ∃ R1 fr' H', dtext call its ref fr H = some (R1, fr', H') ∧ dcheck (R0 ++ R1) H0 (R0 ++ R1) 0 = true ∧ K fr' H'

/-- Every effect so far comes before, or did not matter. -/
def AllE (b : Nat) (ok : AHeap → Prop) : List (Nat × AHeap) → Prop
  | [] => True
  | p :: l => (b.testBit p.1 = true ∨ ok p.2) ∧ AllE b ok l
/-- Everything read so far comes before, or still holds. -/
def AllR (b : Nat) (H : AHeap) : List (Nat × (AHeap → Bool)) → Prop
  | [] => True
  | p :: l => (b.testBit p.1 = true ∨ p.2 H = true) ∧ AllR b H l
theorem AllE.imp {b : Nat} {ok ok' : AHeap → Prop} (f : ∀ H, ok H → ok' H) : ∀ {l : List (Nat × AHeap)}, AllE b ok l → AllE b ok' l
  | [], _ => trivial
  | _ :: _, h => ⟨h.1.imp id (f _), AllE.imp f h.2⟩
theorem AllE.get {b : Nat} {ok : AHeap → Prop} {l : List (Nat × AHeap)} (h : AllE b ok l) : ∀ p ∈ l, b.testBit p.1 = true ∨ ok p.2 := by
  induction l with
  | nil => simp
  | cons q l ih => intro p hp; rcases List.mem_cons.1 hp with rfl | hp; exact h.1; exact ih h.2 p hp
theorem AllR.get {b : Nat} {H : AHeap} {l : List (Nat × (AHeap → Bool))} (h : AllR b H l) : ∀ p ∈ l, b.testBit p.1 = true ∨ p.2 H = true := by
  induction l with
  | nil => simp
  | cons q l ih => intro p hp; rcases List.mem_cons.1 hp with rfl | hp; exact h.1; exact ih h.2 p hp

theorem madeOk_eq {r : DRec} (hc : Nat.beq r.cls 3 = true) : r.okAt = madeOk r.o.op r.fr r.ref := by
  funext H
  unfold DRec.okAt madeOk
  rw [hc]
  rfl

section
variable {call : ACall} {lf n ref : Nat} {its : List DItem} {H0 H H1 : AHeap} {E : List (Nat × AHeap)} {Rd : List (Nat × (AHeap → Bool))} {fr : AFrame} {K : AFrame → AHeap → Prop} {Q : RExit → AFrame → AHeap → Prop} {op : ROp} {v : AVal} {b : Nat} {pre : Bool} {g : Option (Nat × Bool)}

theorem WpE.nil (h : K fr H) : WpE call n ref [] H0 E Rd fr H K := fun R0 E0 Rd0 _ _ _ hI => ⟨[], fr, H, rfl, by rw [List.append_nil]; exact hI.done, h⟩

theorem WpE.next {it : DItem} {R0 : List DRec} {r : DRec} {E' : List (Nat × AHeap)} {Rd' : List (Nat × (AHeap → Bool))} {E0' : List (Nat × AHeap)} {Rd0' : List (Nat × DRec)} {fr1 : AFrame} (hn : R0.length = n) (he : ∀ p ∈ E0', p ∈ E') (hrd : ∀ p ∈ Rd0', (p.1, DRec.okAt p.2) ∈ Rd')
    (hI : DInv (R0 ++ [r]) H0 H1 E0' Rd0') (hd : ∀ R1 fr' H', dtext call its (nextRef it.cls ref) fr1 H1 = some (R1, fr', H') → dtext call (it :: its) ref fr H = some (r :: R1, fr', H')) (h : WpE call (n + 1) (nextRef it.cls ref) its H0 E' Rd' fr1 H1 K) :
    ∃ R1 fr' H', dtext call (it :: its) ref fr H = some (R1, fr', H') ∧ dcheck (R0 ++ R1) H0 (R0 ++ R1) 0 = true ∧ K fr' H' := by
  obtain ⟨R1, fr', H', h1, h2, h3⟩ := h (R0 ++ [r]) E0' Rd0' (by simp [hn]) he hrd hI
  exact ⟨r :: R1, fr', H', hd _ _ _ h1, by rw [List.append_assoc] at h2; exact h2, h3⟩

theorem WpE.skip {d : Option Nat} {cls : Nat} (hw : ROper.wanted fr ⟨d, op, g⟩ = false) (h : WpE call (n + 1) (nextRef cls ref) its H0 E Rd (put fr d aundef) H K) : WpE call n ref (⟨⟨d, op, g⟩, b, cls, pre⟩ :: its) H0 E Rd fr H K := fun R0 E0 Rd0 hn he hrd hI =>
  WpE.next (r := ⟨⟨d, op, g⟩, b, cls, fr, aundef, false, false, H, ref⟩) hn he hrd (hI.plain rfl rfl) (fun R1 fr' H' hd => by
    simp only [dtext, hw, hd]) h
theorem WpE.pure {d : Option Nat} (hw : ROper.wanted fr ⟨d, op, g⟩ = true) (hx : op.exec noCall fr H = some (v, H)) (h : WpE call (n + 1) ref its H0 E Rd (put fr d v) H K) : WpE call n ref (⟨⟨d, op, g⟩, b, 0, pre⟩ :: its) H0 E Rd fr H K := fun R0 E0 Rd0 hn he hrd hI =>
  WpE.next (r := ⟨⟨d, op, g⟩, b, 0, fr, v, true, false, H, ref⟩) hn he hrd (hI.plain rfl rfl) (fun R1 fr' H' hd => by
    simp only [dtext, hw, dstep, look_of hx rfl]
    simp only [Nat.beq, nextRef] at hd ⊢
    simp [hd]) h
theorem WpE.look {d : Option Nat} (hw : ROper.wanted fr ⟨d, op, g⟩ = true) (hx : op.look fr H = some v) (hE : AllE b (fun H2 => op.look fr H2 = some v) E) (h : WpE call (n + 1) ref its H0 E ((n, readOk op fr v) :: Rd) (put fr d v) H K) : WpE call n ref (⟨⟨d, op, g⟩, b, 1, pre⟩ :: its) H0 E Rd fr H K := fun R0 E0 Rd0 hn he hrd hI =>
  WpE.next (r := ⟨⟨d, op, g⟩, b, 1, fr, v, true, false, H, ref⟩) (Rd0' := Rd0 ++ [(R0.length, ⟨⟨d, op, g⟩, b, 1, fr, v, true, false, H, ref⟩)]) hn he (by
      intro p hp
      rcases List.mem_append.1 hp with hp | hp
      · exact List.mem_cons_of_mem _ (hrd p hp)
      · simp only [List.mem_singleton] at hp
        subst hp
        rw [hn, readOk_eq rfl]
        exact List.mem_cons_self)
    (hI.read rfl (okAt_look rfl hx) (fun p hp => (hE.get p (he p hp)).imp id fun q => okAt_look rfl q)) (fun R1 fr' H' hd => by
    simp only [dtext, hw, dstep, hx]
    simp only [Nat.beq, nextRef] at hd ⊢
    simp [hd]) h
theorem WpE.read {d : Option Nat} (hw : ROper.wanted fr ⟨d, op, g⟩ = true) (hx : op.exec noCall fr H = some (v, H)) (hE : AllE b (fun H2 => op.exec noCall fr H2 = some (v, H2)) E) (h : WpE call (n + 1) ref its H0 E ((n, readOk op fr v) :: Rd) (put fr d v) H K) : WpE call n ref (⟨⟨d, op, g⟩, b, 1, pre⟩ :: its) H0 E Rd fr H K :=
  WpE.look hw (look_of hx rfl) (AllE.imp (fun H2 q => look_of q rfl) hE) h
theorem WpE.effect {d : Option Nat} (hw : ROper.wanted fr ⟨d, op, g⟩ = true) (hx : op.exec call fr H = some (v, H1)) (hR : AllR b H1 Rd) (h : WpE call (n + 1) ref its H0 ((n, H) :: E) Rd (put fr d v) H1 K) : WpE call n ref (⟨⟨d, op, g⟩, b, 2, pre⟩ :: its) H0 E Rd fr H K := fun R0 E0 Rd0 hn he hrd hI =>
  WpE.next (r := ⟨⟨d, op, g⟩, b, 2, fr, v, true, true, H1, ref⟩) (E0' := E0 ++ [(n, H)]) hn (by
      intro p hp
      rcases List.mem_append.1 hp with hp | hp
      · exact List.mem_cons_of_mem _ (he p hp)
      · simp only [List.mem_singleton] at hp
        subst hp
        exact List.mem_cons_self) hrd (by
      have := hI.effect (e := ⟨⟨d, op, g⟩, b, 2, fr, v, true, true, H1, ref⟩) rfl rfl fun p hp => hR.get (p.1, p.2.okAt) (hrd p hp)
      rw [hn] at this; exact this) (fun R1 fr' H' hd => by
    simp only [dtext, hw, dstep, hx]
    simp only [Nat.beq, nextRef] at hd ⊢
    simp [hd]) h
theorem WpE.made {d : Option Nat} {cs : List AVal} {e : TypeId} {k : Nat → AVal} (hw : ROper.wanted fr ⟨d, op, g⟩ = true) (hm : op.made fr = some (cs, e, k)) (hg : ghostIs H ref cs e = true) (hE : AllE b (fun H2 => ghostIs H2 ref cs e = true) E) (h : WpE call (n + 1) (ref + 1) its H0 E ((n, madeOk op fr ref) :: Rd) (put fr d (k ref)) H K) : WpE call n ref (⟨⟨d, op, g⟩, b, 3, pre⟩ :: its) H0 E Rd fr H K := fun R0 E0 Rd0 hn he hrd hI =>
  WpE.next (r := ⟨⟨d, op, g⟩, b, 3, fr, k ref, true, false, H, ref⟩) (Rd0' := Rd0 ++ [(R0.length, ⟨⟨d, op, g⟩, b, 3, fr, k ref, true, false, H, ref⟩)]) hn he (by
      intro p hp
      rcases List.mem_append.1 hp with hp | hp
      · exact List.mem_cons_of_mem _ (hrd p hp)
      · simp only [List.mem_singleton] at hp
        subst hp
        rw [hn, madeOk_eq rfl]
        exact List.mem_cons_self)
    (hI.read rfl (by simp only [DRec.okAt, Nat.beq, hm, hg]) (fun p hp => (hE.get p (he p hp)).imp id fun q => by simp only [DRec.okAt, Nat.beq, hm, q])) (fun R1 fr' H' hd => by
    simp only [dtext, hw, dstep]
    simp only [Nat.beq, nextRef, hm, hg] at hd ⊢
    simp [hd]) h

theorem ghost_of {r : Nat} {cs : List AVal} {e : TypeId} [h : HasRow H r cs true (2 * e)] : ghostIs H r cs e = true := by
  unfold ghostIs
  have hlt := h.lt
  simp only [h.get, abeqL_refl, Nat.beq_refl, Bool.and_true, Bool.and_self]
  simpa using hlt
theorem made_of {r : Nat} {cs : List AVal} {e : TypeId} {k : Nat → AVal} (hm : op.made fr = some (cs, e, k)) [h : HasRow H r cs true (2 * e)] : madeOk op fr r H = true := by
  unfold madeOk
  rw [hm]
  exact ghost_of

theorem Wp.dregionE (os : List AObj) (ho : oracle its H.n fr H = os) (h : WpE call 0 H.n its (pushAll H os) [] [] fr (pushAll H os) fun fr' H' => Q .normal fr' H') : Wp call lf (.dregion its) fr H Q := by
  obtain ⟨R1, fr', H', h1, h2, h3⟩ := h [] [] [] rfl (by simp) (by simp) (DInv.nil _)
  refine ⟨.normal, fr', H', ?_, h3⟩
  simp only [RCode.exec, ho, h1]
  simp only [List.nil_append] at h2
  rw [h2]
/-- No rows are made. -/
theorem Wp.dregion0 (hno : (its.all fun it => !(Nat.beq it.cls 3)) = true) (h : WpE call 0 H.n its H [] [] fr H fun fr' H' => Q .normal fr' H') : Wp call lf (.dregion its) fr H Q :=
  Wp.dregionE [] (oracle_none its H.n fr H hno) h

theorem oracle_pre {it : DItem} {os : List AObj} {v : AVal} {H2 : AHeap} (hc : Nat.beq it.cls 3 = false) (hp : it.pre = true) (hw : it.o.wanted fr = true) (hx : it.o.op.exec noCall fr H = some (v, H2)) (h : oracle its ref (put fr it.o.dst v) H = os) : oracle (it :: its) ref fr H = os := by
  simp only [oracle, hc, hp, hw, hx, h]
theorem oracle_made {it : DItem} {os : List AObj} {cs : List AVal} {e : TypeId} {k : Nat → AVal} (hc : Nat.beq it.cls 3 = true) (hw : it.o.wanted fr = true) (hm : it.o.op.made fr = some (cs, e, k)) (h : oracle its (ref + 1) (put fr it.o.dst (k ref)) H = os) : oracle (it :: its) ref fr H = .row cs true (2 * e) :: os := by
  simp only [oracle, hc, hw, hm, h]
theorem made_mk {e : TypeId} {z : AVal} {by_ : Nat} {x y : ROpd} {k k' : IntKind} {a : Nat} (hx : x.ev fr = .int k a) (hy : y.ev fr = .int k' a) (h0 : by_ * a ≤ 2 ^ 47 ∧ a < 2 ^ 62) : (ROp.makeSlice e [z] by_ x y).made fr = some ((List.replicate a [z]).flatten, e, fun r => .slice r 0 a (some a) 1) := by
  have h1 : (0 : Int) ≤ (a : Int) ∧ (a : Int) ≤ a ∧ (by_ : Int) * a ≤ 2 ^ 47 ∧ (a : Int) < 2 ^ 62 := by
    have h2 : ((by_ * a : Nat) : Int) ≤ 2 ^ 47 := by omega
    rw [Int.natCast_mul] at h2
    omega
  simp only [ROp.made, hx, hy, if_pos h1, Int.toNat_natCast, List.length_singleton]
end

theorem WpE.pcall {ext : Exts} {prog : FuncId → Option RFunc} {m dd D : Nat} {f : FuncId} {o : ROpd} {l : List ROpd} {args : List AVal} {v : AVal} {d : Option Nat} {n ref : Nat} {its : List DItem} {H0 H : AHeap} {E : List (Nat × AHeap)} {Rd : List (Nat × (AHeap → Bool))} {fr : AFrame} {K : AFrame → AHeap → Prop} {b : Nat} {pre : Bool} {g : Option (Nat × Bool)}
    (hw : ROper.wanted fr ⟨d, .call o l, g⟩ = true) (hn : fuel0 + D ≤ m) (hf : o.ev fr = .func (.func f) [] []) (hl : l.map (·.ev fr) = args) [hc : PureCon ext prog f args H dd v] (hd : Nat.ble dd D = true)
    (h : ∀ H1, ExtI H H1 → AllR b H1 Rd ∧ WpE (callN ext prog m) (n + 1) ref its H0 ((n, H) :: E) Rd (put fr d v) H1 K) : WpE (callN ext prog m) n ref (⟨⟨d, .call o l, g⟩, b, 2, pre⟩ :: its) H0 E Rd fr H K := by
  obtain ⟨v', H1, hx, hv, hext⟩ := exec_con hc.con (Nat.le_trans (Nat.add_le_add_left (Nat.le_of_ble_eq_true hd) _) hn) hf hl
  subst hv
  obtain ⟨h1, h2⟩ := h H1 ⟨hext⟩
  exact WpE.effect hw hx h1 h2
theorem WpE.con {ext : Exts} {prog : FuncId → Option RFunc} {m dd D : Nat} {f : FuncId} {o : ROpd} {l : List ROpd} {args : List AVal} {R : AVal → AHeap → Prop} {d : Option Nat} {n ref : Nat} {its : List DItem} {H0 H : AHeap} {E : List (Nat × AHeap)} {Rd : List (Nat × (AHeap → Bool))} {fr : AFrame} {K : AFrame → AHeap → Prop} {b : Nat} {pre : Bool} {g : Option (Nat × Bool)}
    (hw : ROper.wanted fr ⟨d, .call o l, g⟩ = true) (hn : fuel0 + D ≤ m) (hd : Nat.ble dd D = true) (hf : o.ev fr = .func (.func f) [] []) (hl : l.map (·.ev fr) = args) (hc : Con ext prog dd f args H R)
    (h : ∀ v H1, R v H1 → AllR b H1 Rd ∧ WpE (callN ext prog m) (n + 1) ref its H0 ((n, H) :: E) Rd (put fr d v) H1 K) : WpE (callN ext prog m) n ref (⟨⟨d, .call o l, g⟩, b, 2, pre⟩ :: its) H0 E Rd fr H K := by
  obtain ⟨v', H1, hx, hv⟩ := exec_con hc (Nat.le_trans (Nat.add_le_add_left (Nat.le_of_ble_eq_true hd) _) hn) hf hl
  obtain ⟨h1, h2⟩ := h v' H1 hv
  exact WpE.effect hw hx h1 h2
section
variable {call : ACall} {fr : AFrame} {H : AHeap}
theorem exec_ldN {a : ROpd} {n r off : Nat} {cs : List AVal} {rw : Bool} {e : TypeId} {l : List AVal} (ha : a.ev fr = .ptr r off) [hg : HasRow H r cs rw e] (hv : Nat.ble (off + n) cs.length = true) (hl : (cs.drop off).take n = l) : (ROp.load (some n) a).exec call fr H = some (.agg l, H) := by
  subst hl
  simp only [ROp.exec, ha, aLoad, M.bind, aRow, if_pos hg.lt, hg.get, if_pos (Nat.le_of_ble_eq_true hv), M.pure]
theorem exec_lenP {x : ROpd} {p : AVal} {sz n : Nat} {cs : List AVal} (hx : x.ev fr = p) [s : SliceAt H p sz n cs] : (ROp.lenS x).exec call fr H = some (.int .i64 n, H) := by
  simp only [ROp.exec, hx, s.lenS, M.ofOption, M.pure]
theorem exec_ldB {a : ROpd} {p : AVal} {j : Nat} {l : List UInt8} (ha : a.ev fr = .ptr (rowOf p) (offOf p + j)) [s : BytesI H p l] (hj : j < l.length) : (ROp.load none a).exec call fr H = some (.int .u8 (l[j].toNat : Int), H) := exec_ldP ha (get_bytes hj)
theorem exec_ldI {a : ROpd} {p : AVal} {j : Nat} {l : List Int} (ha : a.ev fr = .ptr (rowOf p) (offOf p + j)) [s : IntsI H p l] (hj : j < l.length) : (ROp.load none a).exec call fr H = some (.int .i64 l[j], H) := exec_ldP ha (get_ints hj)
theorem exec_build {z : List AVal} {ps : List (Nat × Nat × ROpd)} {cs : List AVal} (hf : aFill fr z ps = some cs) : (ROp.build z ps).exec call fr H = some (.agg cs, H) := by simp only [ROp.exec, hf, M.pure]
end

/- ===== append to nothing: copies ===== -/
theorem exec_appendNil {H : AHeap} {p : AVal} {l : List UInt8} [h : BytesI H p l] (hl : l.length < 2 ^ 40) (e : TypeId) : ∃ v H', aAppend e 1 1 .nslice p H = some (v, H') ∧ BytesI H' v l ∧ FreshS H v ∧ WrS H' v ∧ Ext H H' := by
  rcases h.it with ⟨rfl, h0, _⟩ | ⟨r, off, cap, row, rw, e0, rfl, hr, hg, hle, hc, _⟩
  · have : l = [] := List.eq_nil_of_length_eq_zero h0
    subst this
    exact ⟨.nslice, H, rfl, ⟨Or.inl ⟨rfl, rfl, rfl⟩⟩, ⟨fun _ _ _ _ _ e => by cases e⟩, ⟨fun _ _ _ _ _ e => by cases e⟩, Ext.refl H⟩
  · have hf : aFirst 1 l.length (.slice r off l.length cap 1) H = some (cellsB l, H) := by
      simp only [aFirst, ne_eq, not_true, if_false, M.bind, aRow, if_pos hr, hg, if_pos hle, hc, M.pure]
    by_cases h0 : l = []
    · subst h0
      refine ⟨.nslice, H, ?_, ⟨Or.inl ⟨rfl, rfl, rfl⟩⟩, ⟨fun _ _ _ _ _ e => by cases e⟩, ⟨fun _ _ _ _ _ e => by cases e⟩, Ext.refl H⟩
      simp only [aAppend, aLenOf, M.bind, hf]
      rfl
    · have hn0 : ¬ l.length = 0 := by simpa using h0
      refine ⟨.slice H.n 0 l.length none 1, H.push (.row (cellsB l) true (2 * e)), ?_, ⟨Or.inr ⟨H.n, 0, none, cellsB l, true, 2 * e, rfl, Nat.lt_succ_self _, push_get_eq, by simp [cellsB_length], by rw [List.drop_zero, List.take_of_length_le (by rw [cellsB_length]; omega)], Nat.le_refl _⟩⟩, ⟨fun _ _ _ _ _ e => by cases e; exact Nat.le_refl _⟩, ⟨fun _ _ _ _ _ e => by cases e; exact ⟨_, _, push_get_eq⟩⟩, (Ext.refl H).push _⟩
      simp only [aAppend, aLenOf, M.bind, hf, cellsB_one, cellsB_length]
      have hroom : 2 * l.length * 1 ≤ 2 ^ 48 := by omega
      simp only [Bool.not_true, Nat.mul_one, ne_eq, not_true, decide_false, Nat.reduceEqDiff, Bool.or_false, Bool.false_eq_true, if_false, hn0]
      rw [Nat.mul_one] at hroom
      simp only [if_pos hroom, M.bind, aNew, M.pure]
theorem WpX.appendNil {call : ACall} {fr : AFrame} {H : AHeap} {K : AVal → AHeap → Prop} {e : TypeId} {x y : ROpd} {p : AVal} {l : List UInt8} (hx : x.ev fr = .nslice) (hy : y.ev fr = p) [h : BytesI H p l] (hl : l.length < 2 ^ 40)
    (hk : ∀ v H', BytesI H' v l → FreshS H v → WrS H' v → ExtI H H' → K v H') : WpX (.append e 1 1 x y) call fr H K := by
  obtain ⟨v, H', h1, h2, h3, h4, h5⟩ := exec_appendNil (H := H) (p := p) hl e
  exact ⟨v, H', by simp only [ROp.exec, hx, hy]; exact h1, hk v H' h2 h3 h4 ⟨h5⟩⟩
end Go.Am

/- Bytes: bits, counts, one-byte slices. -/
namespace Go.Am
open Go

theorem ofInt_u8 (a : UInt8) : BitVec.ofInt 8 (a.toNat : Int) = a.toBitVec := by
  apply BitVec.eq_of_toNat_eq
  rw [BitVec.ofInt_natCast, BitVec.toNat_ofNat]
  have := a.toNat_lt
  exact Nat.mod_eq_of_lt (by omega)
theorem wrap_u8 {n : Nat} (h : n < 256) : IntKind.u8.wrap (n : Int) = (n : Int) := by
  have h1 : IntKind.u8.wrap (n : Int) = if (false && decide ((n : Int) % 2 ^ 8 ≥ 2 ^ 7)) = true then (n : Int) % 2 ^ 8 - 2 ^ 8 else (n : Int) % 2 ^ 8 := rfl
  rw [h1]
  simp only [Bool.false_and, Bool.false_eq_true, if_false]
  omega
theorem bits_xor (a b : UInt8) : Go.bits .xor .u8 (a.toNat : Int) (b.toNat : Int) = ((a ^^^ b).toNat : Int) := by
  show IntKind.u8.wrap ((BitVec.ofInt 8 (a.toNat : Int) ^^^ BitVec.ofInt 8 (b.toNat : Int)).toNat : Int) = _
  rw [ofInt_u8, ofInt_u8]
  exact wrap_u8 (by have := (a ^^^ b).toNat_lt; exact this)
theorem bits_and (a b : UInt8) : Go.bits .and .u8 (a.toNat : Int) (b.toNat : Int) = ((a &&& b).toNat : Int) := by
  show IntKind.u8.wrap ((BitVec.ofInt 8 (a.toNat : Int) &&& BitVec.ofInt 8 (b.toNat : Int)).toNat : Int) = _
  rw [ofInt_u8, ofInt_u8]
  exact wrap_u8 (by have := (a &&& b).toNat_lt; exact this)
theorem bits_or (a b : UInt8) : Go.bits .or .u8 (a.toNat : Int) (b.toNat : Int) = ((a ||| b).toNat : Int) := by
  show IntKind.u8.wrap ((BitVec.ofInt 8 (a.toNat : Int) ||| BitVec.ofInt 8 (b.toNat : Int)).toNat : Int) = _
  rw [ofInt_u8, ofInt_u8]
  exact wrap_u8 (by have := (a ||| b).toNat_lt; exact this)
theorem bits_andNot (a b : UInt8) : Go.bits .andNot .u8 (a.toNat : Int) (b.toNat : Int) = ((a &&& ~~~b).toNat : Int) := by
  show IntKind.u8.wrap ((BitVec.ofInt 8 (a.toNat : Int) &&& ~~~(BitVec.ofInt 8 (b.toNat : Int))).toNat : Int) = _
  rw [ofInt_u8, ofInt_u8]
  exact wrap_u8 (by have := (a &&& ~~~b).toNat_lt; exact this)

class IsU8 (k : Int) (b : outParam UInt8) : Prop where
  eq : k = (b.toNat : Int)
instance : IsU8 0 0 := ⟨rfl⟩
instance : IsU8 1 1 := ⟨rfl⟩
instance {b : UInt8} : IsU8 (b.toNat : Int) b := ⟨rfl⟩
instance {H : AHeap} {r : Nat} {k : Int} {b : UInt8} {rw : Bool} {e : TypeId} [h : HasRow H r [.int .u8 k] rw e] [x : IsU8 k b] : BytesI H (.slice r 0 1 (some 1) 1) [b] :=
  ⟨Or.inr ⟨r, 0, some 1, _, rw, e, rfl, h.lt, h.get, by simp, by rw [x.eq]; rfl, Nat.le_refl _⟩⟩

theorem bytesOf_cellsB (l : List UInt8) : bytesOf (cellsB l) = some l := by
  induction l with
  | nil => rfl
  | cons b l ih =>
    show (match bytesOf (cellsB l) with | some l => some (UInt8.ofNat ((b.toNat : Int)).toNat :: l) | none => none) = _
    rw [ih]
    simp
theorem aBytesFn_at {H : AHeap} {p : AVal} {l : List UInt8} [h : BytesI H p l] (f : List UInt8 → AVal) : aBytesFn f p H = some (f l, H) := by
  rcases h.it with ⟨rfl, h0, _⟩ | ⟨r, off, cap, row, rw, e, rfl, hr, hg, hl, hc, _⟩
  · have : l = [] := List.eq_nil_of_length_eq_zero h0
    subst this; rfl
  · have hl' : off + l.length ≤ row.length := by omega
    have hc' : (row.drop off).take l.length = cellsB l := by rw [← hc, Nat.mul_one]
    simp only [aBytesFn, ne_eq, not_true, if_false, M.bind, aRow, if_pos hr, hg, if_pos hl', hc', bytesOf_cellsB, M.pure]

/-- Ink and paper alone. -/
def pxOk (l : List UInt8) : Bool := l.all fun b => b == 0 || b == 1
theorem count01 (l : List UInt8) : (l.count 0 + l.count 1 = l.length) ↔ pxOk l = true := by
  induction l with
  | nil => simp [pxOk]
  | cons b l ih =>
    have hle : l.count 0 + l.count 1 ≤ l.length := by
      clear ih
      induction l with
      | nil => simp
      | cons c l ihl =>
        simp only [List.count_cons, List.length_cons]
        by_cases h0 : c = 0
        · subst h0; simp; omega
        · by_cases h1 : c = 1
          · subst h1; simp; omega
          · simp [h0, h1]; omega
    simp only [pxOk, List.all_cons, Bool.and_eq_true, Bool.or_eq_true, beq_iff_eq, List.count_cons, List.length_cons] at ih ⊢
    by_cases h0 : b = 0
    · subst h0; simp at ih ⊢; rw [← ih]; omega
    · by_cases h1 : b = 1
      · subst h1; simp at ih ⊢; rw [← ih]; omega
      · simp [h0, h1]; omega
theorem count_le (l : List UInt8) (b : UInt8) : l.count b ≤ l.length := List.count_le_length
end Go.Am
namespace Go.Am
open Go
theorem bind_of {α β : Type} {x : M α} {f : α → M β} {H H' : AHeap} {a : α} (h : x H = some (a, H')) : M.bind x f H = f a H' := by simp [M.bind, h]
/-- append to an empty slice that the call has made -/
theorem exec_appendE {H : AHeap} {p : AVal} {l : List UInt8} {r : Nat} {e0 : TypeId} [h : BytesI H p l] [g : HasRow H r [] true e0] (hl : l.length < 2 ^ 40) (e : TypeId) :
    ∃ v H', aAppend e 1 1 (.slice r 0 0 (some 0) 1) p H = some (v, H') ∧ BytesI H' v l ∧ (∀ r' off len cap sz, v = .slice r' off len cap sz → r' = r ∨ H.n ≤ r') ∧ WrS H' v ∧ Ext H H' := by
  have hf : aLenOf p = some l.length ∧ aFirst 1 l.length p H = some (cellsB l, H) := by
    rcases h.it with ⟨rfl, h0, _⟩ | ⟨r, off, cap, row, rw, e0, rfl, hr, hg, hle, hc, _⟩
    · have : l = [] := List.eq_nil_of_length_eq_zero h0
      subst this; exact ⟨rfl, rfl⟩
    · exact ⟨rfl, by simp only [aFirst, ne_eq, not_true, if_false, M.bind, aRow, if_pos hr, hg, if_pos hle, hc, M.pure]⟩
  have hg1 := g.get
  have hg0 := g.lt
  by_cases h0 : l = []
  · subst h0
    refine ⟨.slice r 0 0 (some 0) 1, H, ?_, ⟨Or.inr ⟨r, 0, some 0, [], true, e0, rfl, hg0, hg1, by simp, by simp [cellsB], Nat.le_refl _⟩⟩, fun r' _ _ _ _ e => by cases e; exact Or.inl rfl, ⟨fun _ _ _ _ _ e => by cases e; exact ⟨_, _, hg1⟩⟩, Ext.refl H⟩
    simp only [aAppend, hf.1, M.bind, List.length_nil] at hf ⊢
    simp only [hf.2]
    simp [cellsB, M.bind, aRow, hg0, hg1, M.pure]
  · have hn0 : ¬ l.length = 0 := by simpa using h0
    refine ⟨.slice H.n 0 (0 + l.length) none 1, H.push (.row (cellsB l) true (2 * e)), ?_, ?_, fun r' _ _ _ _ e => by cases e; exact Or.inr (Nat.le_refl _), ⟨fun _ _ _ _ _ e => by cases e; exact ⟨_, _, push_get_eq⟩⟩, (Ext.refl H).push _⟩
    · simp only [aAppend, hf.1, M.bind, hf.2, cellsB_one, cellsB_length]
      have hroom : 2 * (0 + l.length) * 1 ≤ 2 ^ 48 := by omega
      have hcap : ¬ (0 + l.length ≤ 0) := by omega
      have ha : aRow r H = some (([], true), H) := by simp only [aRow, if_pos hg0, hg1]
      rw [Nat.mul_one] at hroom
      simp only [Bool.not_true, Nat.mul_one, ne_eq, not_true, decide_false, Nat.reduceEqDiff, Bool.or_false, Bool.false_eq_true, if_false, hn0, if_neg hcap]
      rw [bind_of ha]
      have hcond : 0 + 0 ≤ ([] : List AVal).length ∧ 2 * (0 + l.length) ≤ 2 ^ 48 := ⟨by simp, hroom⟩
      simp only [if_pos hcond]
      rfl
    · rw [Nat.zero_add]
      exact ⟨Or.inr ⟨H.n, 0, none, cellsB l, true, 2 * e, rfl, Nat.lt_succ_self _, push_get_eq, by simp [cellsB_length], by rw [List.drop_zero, List.take_of_length_le (by rw [cellsB_length]; omega)], Nat.le_refl _⟩⟩
theorem WpX.appendE {call : ACall} {fr : AFrame} {H : AHeap} {K : AVal → AHeap → Prop} {e e0 : TypeId} {x y : ROpd} {p : AVal} {l : List UInt8} {r : Nat} (hx : x.ev fr = .slice r 0 0 (some 0) 1) (hy : y.ev fr = p) [h : BytesI H p l] [g : HasRow H r [] true e0] (hl : l.length < 2 ^ 40)
    (hk : ∀ v H', BytesI H' v l → (∀ r' off len cap sz, v = .slice r' off len cap sz → r' = r ∨ H.n ≤ r') → WrS H' v → ExtI H H' → K v H') : WpX (.append e 1 1 x y) call fr H K := by
  obtain ⟨v, H', h1, h2, h3, h4, h5⟩ := exec_appendE (H := H) (p := p) (r := r) hl e
  exact ⟨v, H', by simp only [ROp.exec, hx, hy]; exact h1, hk v H' h2 h3 h4 ⟨h5⟩⟩
end Go.Am
namespace Go.Am
open Go
section
variable {call : ACall} {n ref : Nat} {its : List DItem} {H0 H : AHeap} {E : List (Nat × AHeap)} {Rd : List (Nat × (AHeap → Bool))} {fr : AFrame} {K : AFrame → AHeap → Prop} {b : Nat} {pre : Bool} {g : Option (Nat × Bool)}
theorem WpE.stB {d : Option Nat} {a x : ROpd} {p : AVal} {j : Nat} {l : List UInt8} {k : Int} (c : UInt8) (hw : ROper.wanted fr ⟨d, .store 1 a x, g⟩ = true) (ha : a.ev fr = .ptr (rowOf p) (offOf p + j)) (hx : x.ev fr = .int .u8 k) (hk : k = (c.toNat : Int)) [s : BytesI H p l] [w : WrS H p] (hj : j < l.length)
    (h : ∀ H1, BytesI H1 p (l.set j c) → WrS H1 p → ExtP H H1 p → AllR b H1 Rd ∧ WpE call (n + 1) ref its H0 ((n, H) :: E) Rd (put fr d aundef) H1 K) : WpE call n ref (⟨⟨d, .store 1 a x, g⟩, b, 2, pre⟩ :: its) H0 E Rd fr H K := by
  obtain ⟨v, H1, h1, rfl, h2, h3, h4⟩ := WpX.stB (call := call) (K := fun v H1 => v = aundef ∧ BytesI H1 p (l.set j c) ∧ WrS H1 p ∧ ExtP H H1 p) c ha hx hk hj fun H1 q1 q2 q3 => ⟨rfl, q1, q2, q3⟩
  obtain ⟨h5, h6⟩ := h H1 h2 h3 h4
  exact WpE.effect hw h1 h5 h6
theorem WpE.stI {d : Option Nat} {a x : ROpd} {p : AVal} {j : Nat} {l : List Int} {c : Int} (hw : ROper.wanted fr ⟨d, .store 1 a x, g⟩ = true) (ha : a.ev fr = .ptr (rowOf p) (offOf p + j)) (hx : x.ev fr = .int .i64 c) [s : IntsI H p l] [w : WrS H p] (hj : j < l.length)
    (h : ∀ H1, IntsI H1 p (l.set j c) → WrS H1 p → ExtP H H1 p → AllR b H1 Rd ∧ WpE call (n + 1) ref its H0 ((n, H) :: E) Rd (put fr d aundef) H1 K) : WpE call n ref (⟨⟨d, .store 1 a x, g⟩, b, 2, pre⟩ :: its) H0 E Rd fr H K := by
  obtain ⟨v, H1, h1, rfl, h2, h3, h4⟩ := WpX.stI (call := call) (K := fun v H1 => v = aundef ∧ IntsI H1 p (l.set j c) ∧ WrS H1 p ∧ ExtP H H1 p) ha hx hj fun H1 q1 q2 q3 => ⟨rfl, q1, q2, q3⟩
  obtain ⟨h5, h6⟩ := h H1 h2 h3 h4
  exact WpE.effect hw h1 h5 h6
end
end Go.Am

/- Steps that put in order only what is new. -/
namespace Go.Am
open Go

theorem ag0 (v : AVal) (vs : List AVal) : argFrame (v :: vs) 0 = v := rfl
theorem ag1 (v w : AVal) (vs : List AVal) : argFrame (v :: w :: vs) 1 = w := rfl
theorem ag2 (v w x : AVal) (vs : List AVal) : argFrame (v :: w :: x :: vs) 2 = x := rfl
theorem ag3 (v w x y : AVal) (vs : List AVal) : argFrame (v :: w :: x :: y :: vs) 3 = y := rfl
theorem ag4 (v w x y z : AVal) (vs : List AVal) : argFrame (v :: w :: x :: y :: z :: vs) 4 = z := rfl
theorem fx1 (fr : AFrame) : updL [] fr = fr := rfl
theorem fx2 (p : Nat × AVal) (l : List (Nat × AVal)) (fr : AFrame) : updL (p :: l) fr = upd (updL l fr) p.1 p.2 := rfl
theorem fx3 (g fr : AFrame) : mix [] g fr = fr := rfl
theorem fx4 (d : Nat) (D : List Nat) (g fr : AFrame) : mix (d :: D) g fr = upd (mix D g fr) d (g d) := rfl
theorem nrmS : (∀ (a b : AVal) l, (a :: l).set 4 b = a :: l.set 3 b) ∧ (∀ (a b : AVal) l, (a :: l).set 5 b = a :: l.set 4 b) ∧ (∀ (a b : AVal) l, (a :: l).set 6 b = a :: l.set 5 b) ∧ (∀ (a b : AVal) l, (a :: l).set 7 b = a :: l.set 6 b) ∧ (∀ (a b : AVal) l, (a :: l).set 8 b = a :: l.set 7 b) ∧ (∀ (a b : AVal) l, (a :: l).set 9 b = a :: l.set 8 b) ∧ (∀ (a b : AVal) l, (a :: l).set 10 b = a :: l.set 9 b) ∧ (∀ (a b : AVal) l, (a :: l).set 11 b = a :: l.set 10 b) ∧ (∀ (a b : AVal) l, (a :: l).set 12 b = a :: l.set 11 b) ∧ (∀ (a b : AVal) l, (a :: l).set 13 b = a :: l.set 12 b) ∧ (∀ (a b : AVal) l, (a :: l).set 14 b = a :: l.set 13 b) ∧ (∀ (a b : AVal) l, (a :: l).set 15 b = a :: l.set 14 b) := ⟨fun _ _ _ => rfl, fun _ _ _ => rfl, fun _ _ _ => rfl, fun _ _ _ => rfl, fun _ _ _ => rfl, fun _ _ _ => rfl, fun _ _ _ => rfl, fun _ _ _ => rfl, fun _ _ _ => rfl, fun _ _ _ => rfl, fun _ _ _ => rfl, fun _ _ _ => rfl⟩
theorem nrmK : (∀ v vs, argFrame (v :: vs) 0 = v) ∧ (∀ v w vs, argFrame (v :: w :: vs) 1 = w) ∧ (∀ v w x vs, argFrame (v :: w :: x :: vs) 2 = x) ∧ (∀ v w x y vs, argFrame (v :: w :: x :: y :: vs) 3 = y) ∧ (∀ v w x y z vs, argFrame (v :: w :: x :: y :: z :: vs) 4 = z) ∧ (∀ v w x y z u vs, argFrame (v :: w :: x :: y :: z :: u :: vs) 5 = u) ∧ (∀ fr, updL [] fr = fr) ∧ (∀ p l fr, updL (p :: l) fr = upd (updL l fr) p.1 p.2) ∧ (∀ g fr, mix [] g fr = fr) ∧ (∀ d D g fr, mix (d :: D) g fr = upd (mix D g fr) d (g d)) := ⟨ag0, ag1, ag2, ag3, ag4, fun _ _ _ _ _ _ _ => rfl, fx1, fx2, fx3, fx4⟩
theorem nrmL : (∀ fr t, ROpd.ev fr (.tmp t) = fr t) ∧ (∀ fr v, ROpd.ev fr (.val v) = v) ∧ (∀ fr d v i, upd fr d v i = if i = d then v else fr i) := ⟨fun _ _ => rfl, fun _ _ => rfl, upd_at⟩

section
variable {call : ACall} {lf : Nat} {fr : AFrame} {H : AHeap} {Q : RExit → AFrame → AHeap → Prop} {KF : AFrame → AHeap → Prop} {os : List ROper} {d : Nat}
/-- A region, what comes behind it out of sight. -/
theorem Fr.region {ops : List ROper} (h : ∀ KF : AFrame → AHeap → Prop, (∀ fr' H', Q .normal fr' H' → KF fr' H') → WpO call ops fr H KF) : Wp call lf (.region ops) fr H Q := Wp.region (h _ fun _ _ q => q)
theorem Fr.quiet {its : List DItem} {ops : List ROper} (hq : quiet its = true) (ho : opsOf its = ops) (h : ∀ KF : AFrame → AHeap → Prop, (∀ fr' H', Q .normal fr' H' → KF fr' H') → WpO call ops fr H KF) : Wp call lf (.dregion its) fr H Q := Wp.dquiet hq ho (h _ fun _ _ q => q)
theorem Fr.dregion0 {its : List DItem} (hno : (its.all fun it => !(Nat.beq it.cls 3)) = true) (h : ∀ KF : AFrame → AHeap → Prop, (∀ fr' H', Q .normal fr' H' → KF fr' H') → WpE call 0 H.n its H [] [] fr H KF) : Wp call lf (.dregion its) fr H Q := Wp.dregion0 hno (h _ fun _ _ q => q)
theorem Fr.dregionE {its : List DItem} (os : List AObj) (ho : oracle its H.n fr H = os) (h : ∀ KF : AFrame → AHeap → Prop, (∀ fr' H', Q .normal fr' H' → KF fr' H') → WpE call 0 H.n its (pushAll H os) [] [] fr (pushAll H os) KF) : Wp call lf (.dregion its) fr H Q := Wp.dregionE os ho (h _ fun _ _ q => q)

theorem Fo.ld {a : ROpd} {r off : Nat} {cs : List AVal} {rw : Bool} {e : TypeId} {v : AVal} (ha : a.ev fr = .ptr r off) [hg : HasRow H r cs rw e] (hv : cs[off]? = some v) (h : WpO call os (upd fr d v) H KF) : WpO call (⟨some d, .load none a, none⟩ :: os) fr H KF := WpO.do (WpX.ld ha hv h)
theorem Fo.ldN {a : ROpd} {n r off : Nat} {cs : List AVal} {rw : Bool} {e : TypeId} {l : List AVal} (ha : a.ev fr = .ptr r off) [hg : HasRow H r cs rw e] (hv : Nat.ble (off + n) cs.length = true) (hl : (cs.drop off).take n = l) (h : WpO call os (upd fr d (.agg l)) H KF) : WpO call (⟨some d, .load (some n) a, none⟩ :: os) fr H KF := WpO.do (WpX.ldN ha hv hl h)
theorem Fo.len {x : ROpd} {p v : AVal} {sz n : Nat} {cs : List AVal} (hx : x.ev fr = p) [s : SliceAt H p sz n cs] (hv : AVal.int .i64 n = v) (h : WpO call os (upd fr d v) H KF) : WpO call (⟨some d, .lenS x, none⟩ :: os) fr H KF := by subst hv; exact WpO.do (WpX.lenP hx h)
theorem Fo.now {op : ROp} {v v' : AVal} {H1 : AHeap} (_ : nowOk op = true) (hx : op.exec call fr H = some (v, H1)) (hv : v = v') (h : WpO call os (upd fr d v') H1 KF) : WpO call (⟨some d, op, none⟩ :: os) fr H KF := by subst hv; exact WpO.step rfl ⟨v, H1, hx, h⟩
theorem Fo.box {e : TypeId} {x : ROpd} {v : AVal} {cs : List AVal} (hx : x.ev fr = v) (hc : v.cells = cs) (h : WpO call os (upd fr d (.ptr H.n 0)) (H.push (.row cs true (2 * e))) KF) : WpO call (⟨some d, .box e x, none⟩ :: os) fr H KF := by subst hx hc; exact WpO.do (WpX.box h)
theorem Fo.new {e : TypeId} {cs : List AVal} (h : WpO call os (upd fr d (.ptr H.n 0)) (H.push (.row cs true (2 * e))) KF) : WpO call (⟨some d, .new e cs, none⟩ :: os) fr H KF := WpO.do (WpX.new h)
theorem Fo.bslice {e : TypeId} {sz len : Nat} {zero : List AVal} {parts : List (Nat × Nat × ROpd)} {cs cs' : List AVal} (hf : aFill fr zero parts = some cs) (hc : cs = cs') (h : WpO call os (upd fr d (.slice H.n 0 len (some len) sz)) (H.push (.row cs' true (2 * e))) KF) : WpO call (⟨some d, .buildSlice e sz len zero parts, none⟩ :: os) fr H KF := by
  subst hc
  exact WpO.step rfl ⟨_, _, by simp only [ROp.exec, hf, M.bind, aNew, M.pure], h⟩
theorem Fo.st {a x : ROpd} {n r off : Nat} {cs : List AVal} {e : TypeId} {v : AVal} {vs l : List AVal} (ha : a.ev fr = .ptr r off) (hx : x.ev fr = v) (hvs : v.cells = vs) (hn : Nat.beq vs.length n = true) [hg : HasRow H r cs true e] (hl : Nat.ble (off + vs.length) cs.length = true) (ho : vs.all AVal.one = true)
    (hs : setAt cs off vs = l) (h : WpO call os fr (H.set r (.row l true e)) KF) : WpO call (⟨none, .store n a x, none⟩ :: os) fr H KF := WpO.do' (WpX.st ha hx hvs hn hl ho hs h)
theorem Fo.idx {x i : ROpd} {p : AVal} {sz n o : Nat} {cs : List AVal} {k : IntKind} {a : Int} (hx : x.ev fr = p) (hi : i.ev fr = .int k a) [s : SliceAt H p sz n cs] (h0 : 0 ≤ a ∧ a < n) (ho : offOf p + a.toNat * sz = o) (h : WpO call os (upd fr d (.ptr (rowOf p) o)) H KF) : WpO call (⟨some d, .idxS sz x i, none⟩ :: os) fr H KF := by
  subst ho; exact WpO.do (WpX.idxP hx hi h0 h)
theorem Fo.ldB {a : ROpd} {p v : AVal} {j : Nat} {l : List UInt8} (ha : a.ev fr = .ptr (rowOf p) (offOf p + j)) [s : BytesI H p l] (hj : j < l.length) (hv : AVal.int .u8 (l[j].toNat : Int) = v) (h : WpO call os (upd fr d v) H KF) : WpO call (⟨some d, .load none a, none⟩ :: os) fr H KF := by
  subst hv; exact WpO.do (WpX.ldB ha hj h)
theorem Fo.ldI {a : ROpd} {p v : AVal} {j : Nat} {l : List Int} (ha : a.ev fr = .ptr (rowOf p) (offOf p + j)) [s : IntsI H p l] (hj : j < l.length) (hv : AVal.int .i64 l[j] = v) (h : WpO call os (upd fr d v) H KF) : WpO call (⟨some d, .load none a, none⟩ :: os) fr H KF := by
  subst hv; exact WpO.do (WpX.ldI ha hj h)
theorem Fo.build {z : List AVal} {ps : List (Nat × Nat × ROpd)} {cs cs' : List AVal} (hf : aFill fr z ps = some cs) (hc : cs = cs') (h : WpO call os (upd fr d (.agg cs')) H KF) : WpO call (⟨some d, .build z ps, none⟩ :: os) fr H KF := by
  subst hc; exact WpO.do (WpX.build hf h)
/-- A guard that lets by. -/
theorem Fo.yes {d : Option Nat} {op : ROp} {t : Nat} {want b : Bool} (hb : fr t = .bool b) (hw : b = want) (h : WpO call (⟨d, op, none⟩ :: os) fr H KF) : WpO call (⟨d, op, some (t, want)⟩ :: os) fr H KF := WpO.guard hb (fun _ => h) fun q => absurd hw q
theorem Fo.no {d : Nat} {op : ROp} {t : Nat} {want b : Bool} (hb : fr t = .bool b) (hw : (!b) = want) (h : WpO call os (upd fr d aundef) H KF) : WpO call (⟨some d, op, some (t, want)⟩ :: os) fr H KF := WpO.guard hb (fun q => absurd q (by subst hw; cases b <;> decide)) fun _ => h
end
section
variable {ext : Exts} {prog : FuncId → Option RFunc} {fr : AFrame} {H : AHeap} {KF : AFrame → AHeap → Prop} {os : List ROper} {d : Nat}
theorem Fo.pcall {n dd D : Nat} {f : FuncId} {o : ROpd} {l : List ROpd} {args : List AVal} {v v' : AVal} (hn : fuel0 + D ≤ n) (hf : o.ev fr = .func (.func f) [] []) (hl : l.map (·.ev fr) = args) [hc : PureCon ext prog f args H dd v] (hd : Nat.ble dd D = true) (hv : v = v')
    (h : ∀ H1, ExtI H H1 → WpO (callN ext prog n) os (upd fr d v') H1 KF) : WpO (callN ext prog n) (⟨some d, .call o l, none⟩ :: os) fr H KF := by
  subst hv; exact WpO.do (WpX.pcall hn hf hl hd h)
end
section
variable {call : ACall} {n ref : Nat} {its : List DItem} {H0 H H1 : AHeap} {E : List (Nat × AHeap)} {Rd : List (Nat × (AHeap → Bool))} {fr : AFrame} {K : AFrame → AHeap → Prop} {b : Nat} {pre : Bool} {g : Option (Nat × Bool)} {d : Nat}
theorem Fe.pure {op : ROp} {v v' : AVal} (hw : ROper.wanted fr ⟨some d, op, g⟩ = true) (hx : op.exec noCall fr H = some (v, H)) (hv : v = v') (h : WpE call (n + 1) ref its H0 E Rd (upd fr d v') H K) : WpE call n ref (⟨⟨some d, op, g⟩, b, 0, pre⟩ :: its) H0 E Rd fr H K := by
  subst hv; exact WpE.pure hw hx h
theorem Fe.read {op : ROp} {v v' : AVal} (hw : ROper.wanted fr ⟨some d, op, g⟩ = true) (hx : op.exec noCall fr H = some (v, H)) (hv : v = v') (hE : AllE b (fun H2 => op.exec noCall fr H2 = some (v, H2)) E) (h : WpE call (n + 1) ref its H0 E ((n, readOk op fr v) :: Rd) (upd fr d v') H K) : WpE call n ref (⟨⟨some d, op, g⟩, b, 1, pre⟩ :: its) H0 E Rd fr H K := by
  subst hv; exact WpE.read hw hx hE h
theorem Fe.skip {cls : Nat} {op : ROp} (hw : ROper.wanted fr ⟨some d, op, g⟩ = false) (h : WpE call (n + 1) (nextRef cls ref) its H0 E Rd (upd fr d aundef) H K) : WpE call n ref (⟨⟨some d, op, g⟩, b, cls, pre⟩ :: its) H0 E Rd fr H K := WpE.skip hw h
theorem Fe.made {op : ROp} {cs : List AVal} {e : TypeId} {k : Nat → AVal} {v : AVal} (hw : ROper.wanted fr ⟨some d, op, g⟩ = true) (hm : op.made fr = some (cs, e, k)) (hg : ghostIs H ref cs e = true) (hE : AllE b (fun H2 => ghostIs H2 ref cs e = true) E) (hv : k ref = v) (h : WpE call (n + 1) (ref + 1) its H0 E ((n, madeOk op fr ref) :: Rd) (upd fr d v) H K) : WpE call n ref (⟨⟨some d, op, g⟩, b, 3, pre⟩ :: its) H0 E Rd fr H K := by
  subst hv; exact WpE.made hw hm hg hE h
theorem Fe.effect0 {op : ROp} {v : AVal} (hw : ROper.wanted fr ⟨none, op, g⟩ = true) (hx : op.exec call fr H = some (v, H1)) (hR : AllR b H1 Rd) (h : WpE call (n + 1) ref its H0 ((n, H) :: E) Rd fr H1 K) : WpE call n ref (⟨⟨none, op, g⟩, b, 2, pre⟩ :: its) H0 E Rd fr H K := WpE.effect hw hx hR h
end
section
variable {ext : Exts} {prog : FuncId → Option RFunc} {n ref : Nat} {its : List DItem} {H0 H H1 : AHeap} {E : List (Nat × AHeap)} {Rd : List (Nat × (AHeap → Bool))} {fr : AFrame} {K : AFrame → AHeap → Prop} {b : Nat} {pre : Bool} {g : Option (Nat × Bool)} {d : Nat}
theorem Fe.pcall {m dd D : Nat} {f : FuncId} {o : ROpd} {l : List ROpd} {args : List AVal} {v v' : AVal} (hw : ROper.wanted fr ⟨some d, .call o l, g⟩ = true) (hn : fuel0 + D ≤ m) (hf : o.ev fr = .func (.func f) [] []) (hl : l.map (·.ev fr) = args) [hc : PureCon ext prog f args H dd v] (hd : Nat.ble dd D = true) (hv : v = v')
    (h : ∀ H1, ExtI H H1 → AllR b H1 Rd ∧ WpE (callN ext prog m) (n + 1) ref its H0 ((n, H) :: E) Rd (upd fr d v') H1 K) : WpE (callN ext prog m) n ref (⟨⟨some d, .call o l, g⟩, b, 2, pre⟩ :: its) H0 E Rd fr H K := by
  subst hv; exact WpE.pcall hw hn hf hl hd h
theorem Fe.con {m dd D : Nat} {f : FuncId} {o : ROpd} {l : List ROpd} {args : List AVal} {R : AVal → AHeap → Prop} (hw : ROper.wanted fr ⟨some d, .call o l, g⟩ = true) (hn : fuel0 + D ≤ m) (hd : Nat.ble dd D = true) (hf : o.ev fr = .func (.func f) [] []) (hl : l.map (·.ev fr) = args) (hc : Con ext prog dd f args H R)
    (h : ∀ v H1, R v H1 → AllR b H1 Rd ∧ WpE (callN ext prog m) (n + 1) ref its H0 ((n, H) :: E) Rd (upd fr d v) H1 K) : WpE (callN ext prog m) n ref (⟨⟨some d, .call o l, g⟩, b, 2, pre⟩ :: its) H0 E Rd fr H K := WpE.con hw hn hd hf hl hc h
end
end Go.Am
namespace Go.Am
open Go
section
variable {call : ACall} {fr : AFrame} {H : AHeap} {KF : AFrame → AHeap → Prop} {os : List ROper} {d : Nat}
theorem Fo.mov {x : ROpd} {v : AVal} (hx : x.ev fr = v) (h : WpO call os (upd fr d v) H KF) : WpO call (⟨some d, .mov x, none⟩ :: os) fr H KF := by subst hx; exact WpO.do (WpX.mov h)
theorem Fo.fa {x : ROpd} {r o off : Nat} (hx : x.ev fr = .ptr r o) (h : WpO call os (upd fr d (.ptr r (o + off))) H KF) : WpO call (⟨some d, .fieldAddr off x, none⟩ :: os) fr H KF := WpO.do (WpX.fieldAddr hx h)
theorem Fo.pickT {c a b : ROpd} {v : AVal} (hc : c.ev fr = .bool true) (hx : a.ev fr = v) (h : WpO call os (upd fr d v) H KF) : WpO call (⟨some d, .pick c a b, none⟩ :: os) fr H KF := by subst hx; exact WpO.do (WpX.pick hc h)
theorem Fo.pickF {c a b : ROpd} {v : AVal} (hc : c.ev fr = .bool false) (hx : b.ev fr = v) (h : WpO call os (upd fr d v) H KF) : WpO call (⟨some d, .pick c a b, none⟩ :: os) fr H KF := by subst hx; exact WpO.do (WpX.pick hc h)
theorem Fo.extr {x : ROpd} {i : Nat} {vs : List AVal} {v : AVal} (hx : x.ev fr = .tuple vs) (hv : vs[i]? = some v) (h : WpO call os (upd fr d v) H KF) : WpO call (⟨some d, .extract x i, none⟩ :: os) fr H KF := WpO.do (WpX.extract hx hv h)
theorem Fo.bin {op : BinOp} {x y : ROpd} {a b v v' : AVal} (hx : x.ev fr = a) (hy : y.ev fr = b) (hv : aBin op a b = some v) (he : v = v') (h : WpO call os (upd fr d v') H KF) : WpO call (⟨some d, .bin op x y, none⟩ :: os) fr H KF := by
  subst hx hy he
  exact WpO.step rfl ⟨v, H, by simp only [ROp.exec, hv, M.ofOption, M.pure], h⟩
end
end Go.Am
namespace Go.Am
open Go
section
variable {call : ACall} {fr : AFrame} {H : AHeap} {KF : AFrame → AHeap → Prop} {os : List ROper} {d : Nat}
theorem Fo.boxA {e : TypeId} {x : ROpd} {cs : List AVal} (hx : x.ev fr = .agg cs) (h : WpO call os (upd fr d (.ptr H.n 0)) (H.push (.row cs true (2 * e))) KF) : WpO call (⟨some d, .box e x, none⟩ :: os) fr H KF := Fo.box hx rfl h
end
end Go.Am

/- Short names of steps. -/
namespace Go.Am
open Go
section
variable {call : ACall} {lf : Nat} {fr : AFrame} {H : AHeap} {Q : RExit → AFrame → AHeap → Prop} {KF : AFrame → AHeap → Prop} {os : List ROper} {d : Nat}
theorem mI {x : ROpd} {k : IntKind} {n : Int} (hx : x.ev fr = .int k n) (h : WpO call os (upd fr d (.int k n)) H KF) : WpO call (⟨some d, .mov x, none⟩ :: os) fr H KF := Fo.mov hx h
theorem mB {x : ROpd} {b : Bool} (hx : x.ev fr = .bool b) (h : WpO call os (upd fr d (.bool b)) H KF) : WpO call (⟨some d, .mov x, none⟩ :: os) fr H KF := Fo.mov hx h
theorem mP {x : ROpd} {r o : Nat} (hx : x.ev fr = .ptr r o) (h : WpO call os (upd fr d (.ptr r o)) H KF) : WpO call (⟨some d, .mov x, none⟩ :: os) fr H KF := Fo.mov hx h
theorem mT {x : ROpd} {l : List AVal} (hx : x.ev fr = .tuple l) (h : WpO call os (upd fr d (.tuple l)) H KF) : WpO call (⟨some d, .mov x, none⟩ :: os) fr H KF := Fo.mov hx h
theorem mF {x : ROpd} {f : Fn} {a b : List AVal} (hx : x.ev fr = .func f a b) (h : WpO call os (upd fr d (.func f a b)) H KF) : WpO call (⟨some d, .mov x, none⟩ :: os) fr H KF := Fo.mov hx h
theorem mN {x : ROpd} (hx : x.ev fr = .nslice) (h : WpO call os (upd fr d .nslice) H KF) : WpO call (⟨some d, .mov x, none⟩ :: os) fr H KF := Fo.mov hx h
theorem tB {c a b : ROpd} {n : Bool} (hc : c.ev fr = .bool true) (hx : a.ev fr = .bool n) (h : WpO call os (upd fr d (.bool n)) H KF) : WpO call (⟨some d, .pick c a b, none⟩ :: os) fr H KF := Fo.pickT hc hx h
theorem fB {c a b : ROpd} {n : Bool} (hc : c.ev fr = .bool false) (hx : b.ev fr = .bool n) (h : WpO call os (upd fr d (.bool n)) H KF) : WpO call (⟨some d, .pick c a b, none⟩ :: os) fr H KF := Fo.pickF hc hx h
theorem sq {a b : RCode} (h : Wp call lf a fr H fun x fr' H' => match x with | .normal => Wp call lf b fr' H' Q | e => Q e fr' H') : Wp call lf (.seq a b) fr H Q := Wp.seq h
theorem rg {ops : List ROper} (h : ∀ KF : AFrame → AHeap → Prop, (∀ fr' H', Q .normal fr' H' → KF fr' H') → WpO call ops fr H KF) : Wp call lf (.region ops) fr H Q := Fr.region h
end
theorem nrmZ : type_of% nrm ∧ type_of% nrmS := ⟨nrm, nrmS⟩
end Go.Am

set_option maxHeartbeats 4000000
set_option maxRecDepth 100000
namespace Go.Am
open Go
attribute [local irreducible] Wp WpO WpX WpE
/-- sides -/
def sideB (a : Int) : Bool := decide (a ≥ 0) && decide (a ≤ 640)
instance K_side (a : Int) (H : AHeap) : PureCon ext prog 102 [.int .i64 a] H 1 (.bool (sideB a)) := ⟨by
 refine con_of (show prog 102 = some c102 from rfl) rfl rfl fun n hn => ?_
 unfold sideB
 cases h1 : decide (a ≥ 0) <;> cases h2 : decide (a ≤ 640)
 ·skip
  try simp only [↓nrmL, nrmZ, Nat.reduceEqDiff, ↓reduceIte, Nat.reduceAdd, Int.reduceBEq, Int.reduceBNe, h1, h2]
  refine sq ?_
  refine rg fun KF hKF => ?_
  refine mB rfl ?_
  refine WpO.nil (hKF _ _ ?_)
  refine sq ?_
  refine rg fun KF hKF => ?_
  refine mI rfl ?_
  refine Fo.bin rfl rfl rfl (by simp only [↓nrmL, nrmZ, Nat.reduceEqDiff, ↓reduceIte, Nat.reduceAdd, Int.reduceBEq, Int.reduceBNe, h1, h2]; rfl) ?_
  refine mB rfl ?_
  refine Fo.no rfl rfl ?_
  refine Fo.no rfl rfl ?_
  refine fB rfl rfl ?_
  refine mB rfl ?_
  refine WpO.nil (hKF _ _ ?_)
  refine Wp.ret ?_
  dsimp only [cond_true, cond_false]
  exact ⟨trivial, _, rfl, rfl, Ext0.ext⟩
 ·skip
  try simp only [↓nrmL, nrmZ, Nat.reduceEqDiff, ↓reduceIte, Nat.reduceAdd, Int.reduceBEq, Int.reduceBNe, h1, h2]
  refine sq ?_
  refine rg fun KF hKF => ?_
  refine mB rfl ?_
  refine WpO.nil (hKF _ _ ?_)
  refine sq ?_
  refine rg fun KF hKF => ?_
  refine mI rfl ?_
  refine Fo.bin rfl rfl rfl (by simp only [↓nrmL, nrmZ, Nat.reduceEqDiff, ↓reduceIte, Nat.reduceAdd, Int.reduceBEq, Int.reduceBNe, h1, h2]; rfl) ?_
  refine mB rfl ?_
  refine Fo.no rfl rfl ?_
  refine Fo.no rfl rfl ?_
  refine fB rfl rfl ?_
  refine mB rfl ?_
  refine WpO.nil (hKF _ _ ?_)
  refine Wp.ret ?_
  dsimp only [cond_true, cond_false]
  exact ⟨trivial, _, rfl, rfl, Ext0.ext⟩
 ·skip
  try simp only [↓nrmL, nrmZ, Nat.reduceEqDiff, ↓reduceIte, Nat.reduceAdd, Int.reduceBEq, Int.reduceBNe, h1, h2]
  refine sq ?_
  refine rg fun KF hKF => ?_
  refine mB rfl ?_
  refine WpO.nil (hKF _ _ ?_)
  refine sq ?_
  refine rg fun KF hKF => ?_
  refine mI rfl ?_
  refine Fo.bin rfl rfl rfl (by simp only [↓nrmL, nrmZ, Nat.reduceEqDiff, ↓reduceIte, Nat.reduceAdd, Int.reduceBEq, Int.reduceBNe, h1, h2]; rfl) ?_
  refine mB rfl ?_
  refine Fo.yes rfl rfl ?_
  refine mI rfl ?_
  refine Fo.yes rfl rfl ?_
  refine Fo.bin rfl rfl rfl (by simp only [↓nrmL, nrmZ, Nat.reduceEqDiff, ↓reduceIte, Nat.reduceAdd, Int.reduceBEq, Int.reduceBNe, h1, h2]; rfl) ?_
  refine tB rfl rfl ?_
  refine mB rfl ?_
  refine WpO.nil (hKF _ _ ?_)
  refine Wp.ret ?_
  dsimp only [cond_true, cond_false]
  exact ⟨trivial, _, rfl, rfl, Ext0.ext⟩
 ·skip
  try simp only [↓nrmL, nrmZ, Nat.reduceEqDiff, ↓reduceIte, Nat.reduceAdd, Int.reduceBEq, Int.reduceBNe, h1, h2]
  refine sq ?_
  refine rg fun KF hKF => ?_
  refine mB rfl ?_
  refine WpO.nil (hKF _ _ ?_)
  refine sq ?_
  refine rg fun KF hKF => ?_
  refine mI rfl ?_
  refine Fo.bin rfl rfl rfl (by simp only [↓nrmL, nrmZ, Nat.reduceEqDiff, ↓reduceIte, Nat.reduceAdd, Int.reduceBEq, Int.reduceBNe, h1, h2]; rfl) ?_
  refine mB rfl ?_
  refine Fo.yes rfl rfl ?_
  refine mI rfl ?_
  refine Fo.yes rfl rfl ?_
  refine Fo.bin rfl rfl rfl (by simp only [↓nrmL, nrmZ, Nat.reduceEqDiff, ↓reduceIte, Nat.reduceAdd, Int.reduceBEq, Int.reduceBNe, h1, h2]; rfl) ?_
  refine tB rfl rfl ?_
  refine mB rfl ?_
  refine WpO.nil (hKF _ _ ?_)
  refine Wp.ret ?_
  dsimp only [cond_true, cond_false]
  exact ⟨trivial, _, rfl, rfl, Ext0.ext⟩⟩
instance K_sized (a b k : Int) (H : AHeap) : PureCon ext prog 106 [.int .i64 a, .int .i64 b, .int .i64 k] H 2 (.bool (sideB a && sideB b && (k == IntKind.i64.wrap (a * b)))) := ⟨by
 refine con_of (show prog 106 = some c106 from rfl) rfl rfl fun n hn => ?_
 cases h1 : sideB a
 ·skip
  try simp only [↓nrmL, nrmZ, Nat.reduceEqDiff, ↓reduceIte, Nat.reduceAdd, Int.reduceBEq, Int.reduceBNe, h1]
  refine sq ?_
  refine rg fun KF hKF => ?_
  refine mB rfl ?_
  refine WpO.nil (hKF _ _ ?_)
  refine sq ?_
  refine rg fun KF hKF => ?_
  refine mI rfl ?_
  refine Fo.pcall (v' := ?_) hn rfl (by simp only [↓nrmL, nrmZ, Nat.reduceEqDiff, ↓reduceIte, Nat.reduceAdd, Int.reduceBEq, Int.reduceBNe, h1, List.map]; rfl) rfl ?hv fun _ _ => ?_; case hv => (simp only [↓nrmL, nrmZ, Nat.reduceEqDiff, ↓reduceIte, Nat.reduceAdd, Int.reduceBEq, Int.reduceBNe, h1]; rfl)
  refine mB rfl ?_
  refine Fo.no rfl rfl ?_
  refine Fo.no rfl rfl ?_
  refine fB rfl rfl ?_
  refine mB rfl ?_
  refine Fo.no rfl rfl ?_
  refine Fo.no rfl rfl ?_
  refine Fo.no rfl rfl ?_
  refine Fo.no rfl rfl ?_
  refine Fo.no rfl rfl ?_
  refine fB rfl rfl ?_
  refine mB rfl ?_
  refine WpO.nil (hKF _ _ ?_)
  refine Wp.ret ?_
  dsimp only [cond_true, cond_false]
  exact ⟨trivial, _, rfl, rfl, Ext0.ext⟩
 cases h2 : sideB b
 ·skip
  try simp only [↓nrmL, nrmZ, Nat.reduceEqDiff, ↓reduceIte, Nat.reduceAdd, Int.reduceBEq, Int.reduceBNe, h1, h2]
  refine sq ?_
  refine rg fun KF hKF => ?_
  refine mB rfl ?_
  refine WpO.nil (hKF _ _ ?_)
  refine sq ?_
  refine rg fun KF hKF => ?_
  refine mI rfl ?_
  refine Fo.pcall (v' := ?_) hn rfl (by simp only [↓nrmL, nrmZ, Nat.reduceEqDiff, ↓reduceIte, Nat.reduceAdd, Int.reduceBEq, Int.reduceBNe, h1, h2, List.map]; rfl) rfl ?hv fun _ _ => ?_; case hv => (simp only [↓nrmL, nrmZ, Nat.reduceEqDiff, ↓reduceIte, Nat.reduceAdd, Int.reduceBEq, Int.reduceBNe, h1, h2]; rfl)
  refine mB rfl ?_
  refine Fo.yes rfl rfl ?_
  refine mI rfl ?_
  refine Fo.yes rfl rfl ?_
  refine Fo.pcall (v' := ?_) hn rfl (by simp only [↓nrmL, nrmZ, Nat.reduceEqDiff, ↓reduceIte, Nat.reduceAdd, Int.reduceBEq, Int.reduceBNe, h1, h2, List.map]; rfl) rfl ?hv fun _ _ => ?_; case hv => (simp only [↓nrmL, nrmZ, Nat.reduceEqDiff, ↓reduceIte, Nat.reduceAdd, Int.reduceBEq, Int.reduceBNe, h1, h2]; rfl)
  refine tB rfl rfl ?_
  refine mB rfl ?_
  refine Fo.no rfl rfl ?_
  refine Fo.no rfl rfl ?_
  refine Fo.no rfl rfl ?_
  refine Fo.no rfl rfl ?_
  refine Fo.no rfl rfl ?_
  refine fB rfl rfl ?_
  refine mB rfl ?_
  refine WpO.nil (hKF _ _ ?_)
  refine Wp.ret ?_
  dsimp only [cond_true, cond_false]
  exact ⟨trivial, _, rfl, rfl, Ext0.ext⟩
 ·skip
  try simp only [↓nrmL, nrmZ, Nat.reduceEqDiff, ↓reduceIte, Nat.reduceAdd, Int.reduceBEq, Int.reduceBNe, h1, h2]
  refine sq ?_
  refine rg fun KF hKF => ?_
  refine mB rfl ?_
  refine WpO.nil (hKF _ _ ?_)
  refine sq ?_
  refine rg fun KF hKF => ?_
  refine mI rfl ?_
  refine Fo.pcall (v' := ?_) hn rfl (by simp only [↓nrmL, nrmZ, Nat.reduceEqDiff, ↓reduceIte, Nat.reduceAdd, Int.reduceBEq, Int.reduceBNe, h1, h2, List.map]; rfl) rfl ?hv fun _ _ => ?_; case hv => (simp only [↓nrmL, nrmZ, Nat.reduceEqDiff, ↓reduceIte, Nat.reduceAdd, Int.reduceBEq, Int.reduceBNe, h1, h2]; rfl)
  refine mB rfl ?_
  refine Fo.yes rfl rfl ?_
  refine mI rfl ?_
  refine Fo.yes rfl rfl ?_
  refine Fo.pcall (v' := ?_) hn rfl (by simp only [↓nrmL, nrmZ, Nat.reduceEqDiff, ↓reduceIte, Nat.reduceAdd, Int.reduceBEq, Int.reduceBNe, h1, h2, List.map]; rfl) rfl ?hv fun _ _ => ?_; case hv => (simp only [↓nrmL, nrmZ, Nat.reduceEqDiff, ↓reduceIte, Nat.reduceAdd, Int.reduceBEq, Int.reduceBNe, h1, h2]; rfl)
  refine tB rfl rfl ?_
  refine mB rfl ?_
  refine Fo.yes rfl rfl ?_
  refine mI rfl ?_
  refine Fo.yes rfl rfl ?_
  refine mI rfl ?_
  refine Fo.yes rfl rfl ?_
  refine mI rfl ?_
  refine Fo.yes rfl rfl ?_
  refine Fo.bin rfl rfl rfl rfl ?_
  refine Fo.yes rfl rfl ?_
  refine Fo.bin rfl rfl rfl rfl ?_
  refine tB rfl rfl ?_
  refine mB rfl ?_
  refine WpO.nil (hKF _ _ ?_)
  refine Wp.ret ?_
  dsimp only [cond_true, cond_false]
  exact ⟨trivial, _, rfl, rfl, Ext0.ext⟩⟩
end Go.Am

set_option maxHeartbeats 4000000
set_option maxRecDepth 100000
namespace Go.Am
open Go
attribute [local irreducible] Wp WpO WpX WpE

structure Img where
 w : Int
 h : Int
 px : List UInt8
 deriving DecidableEq
def Img.zero : Img := ⟨0, 0, []⟩
def sizedB (a b k : Int) : Bool := sideB a && sideB b && (k == IntKind.i64.wrap (a * b))
def Img.sized (g : Img) : Bool := sizedB g.w g.h g.px.length
/-- A new image as a result. -/
def NewInk (H H' : AHeap) (v : AVal) (g : Img) : Prop := ∃ p, v = .agg [.int .i64 g.w, .int .i64 g.h, p] ∧ BytesI H' p g.px ∧ FreshS H p ∧ WrS H' p ∧ Ext H H'

end Go.Am

set_option maxHeartbeats 4000000
set_option maxRecDepth 100000
namespace Go.Am
open Go
attribute [local irreducible] Wp WpO WpX WpE

theorem sized_nat {w h : Int} {n : Nat} (hs : sizedB w h n = true) : ∃ a b : Nat, w = a ∧ h = b ∧ a ≤ 640 ∧ b ≤ 640 ∧ n = a * b := by
 simp only [sizedB, sideB, Bool.and_eq_true, decide_eq_true_eq, beq_iff_eq] at hs
 obtain ⟨⟨⟨h1, h2⟩, h3, h4⟩, h5⟩ := hs
 refine ⟨w.toNat, h.toNat, by omega, by omega, by omega, by omega, ?_⟩
 obtain ⟨a, rfl⟩ : ∃ a : Nat, w = a := ⟨w.toNat, by omega⟩
 obtain ⟨b, rfl⟩ : ∃ b : Nat, h = b := ⟨h.toNat, by omega⟩
 have hm : a * b ≤ 640 * 640 := Nat.mul_le_mul (by omega) (by omega)
 rw [← Int.natCast_mul, w64 (by omega)] at h5
 simp only [Int.toNat_natCast]
 omega

/-- A new image and an error as a result. -/
def InkRes (H H' : AHeap) (v : AVal) (r : Img × Int) : Prop := ∃ q, v = .tuple [q, .int .i64 r.2] ∧ NewInk H H' q r.1
theorem newZero {H H' : AHeap} [x : Ext0 H H'] : NewInk H H' (.agg [.int .i64 0, .int .i64 0, .nslice]) Img.zero := ⟨.nslice, rfl, ⟨Or.inl ⟨rfl, rfl, rfl⟩⟩, ⟨fun _ _ _ _ _ e => by cases e⟩, ⟨fun _ _ _ _ _ e => by cases e⟩, x.ext⟩

end Go.Am

set_option maxHeartbeats 4000000
set_option maxRecDepth 100000
namespace Go.Am
open Go
attribute [local irreducible] Wp WpO WpX WpE

/-- A copy as a result. -/
def NewBytes (H H' : AHeap) (v : AVal) (l : List UInt8) : Prop := BytesI H' v l ∧ FreshS H v ∧ WrS H' v ∧ Ext H H'
theorem K_CopyBytes {H : AHeap} {p : AVal} {l : List UInt8} [hp : BytesI H p l] (hl : l.length < 2 ^ 40) : Con ext prog 1 95 [p] H fun v H' => NewBytes H H' v l := by
 refine con_of (show prog 95 = some c95 from rfl) rfl rfl fun n hn => ?_
 refine sq ?_
 refine rg fun KF hKF => ?_
 refine mN rfl ?_
 refine WpO.nil (hKF _ _ ?_)
 refine sq ?_
 refine rg fun KF hKF => ?_
 refine mN rfl ?_
 refine WpO.nil (hKF _ _ ?_)
 refine sq ?_
 refine rg fun KF hKF => ?_
 refine mN rfl ?_
 refine Fo.mov (by simp only [↓nrmL, nrmK, Nat.reduceEqDiff, ↓reduceIte]; rfl) ?_
 refine WpO.do (WpX.appendNil rfl (by simp only [↓nrmL, nrmZ, Nat.reduceEqDiff, ↓reduceIte, Nat.reduceAdd, Int.reduceBEq, Int.reduceBNe, List.map] <;> rfl) hl fun v H1 h1 h2 h3 h4 => ?_)
 refine Fo.mov (by simp only [↓nrmL, nrmK, Nat.reduceEqDiff, ↓reduceIte]; rfl) ?_
 refine WpO.nil (hKF _ _ ?_)
 refine Wp.ret ?_
 dsimp only [cond_true, cond_false]
 refine ⟨trivial, _, (by first | rfl | exact getAllC rfl rfl rfl rfl | exact getAllT rfl (getAllC rfl rfl rfl rfl) | exact getAllC rfl rfl rfl (getAllC rfl rfl rfl rfl) | exact getAllC1 rfl rfl rfl), ?_⟩
 exact ⟨h1, h2, h3, Ext0.ext⟩
end Go.Am

set_option maxHeartbeats 4000000
set_option maxRecDepth 100000
namespace Go.Am
open Go
attribute [local irreducible] Wp WpO WpX WpE

theorem wm {a b : Nat} (h : a * b < 9223372036854775808) : IntKind.i64.wrap ((a : Int) * (b : Int)) = ((a * b : Nat) : Int) := by rw [← Int.natCast_mul]; exact w64 (by omega)
theorem wa {a b : Nat} (h : a + b < 9223372036854775808) : IntKind.i64.wrap ((a : Int) + (b : Int)) = ((a + b : Nat) : Int) := by rw [← Int.natCast_add]; exact w64 (by omega)
theorem wa1 {a : Nat} (h : a < 9223372036854775807) : IntKind.i64.wrap ((a : Int) + 1) = ((a + 1 : Nat) : Int) := by rw [w64 (by omega)]; omega
theorem idx_lt {x y w h : Nat} (hx : x < w) (hy : y < h) : y * w + x < w * h := by
 have : (y + 1) * w ≤ h * w := Nat.mul_le_mul_right _ hy
 rw [Nat.mul_comm w h]
 rw [Nat.add_mul] at this
 omega

instance K_refFits {w h : Int} {H : AHeap} : PureCon ext prog 96 [.int .i64 w, .int .i64 h] H 1 (.bool (sideB w && sideB h)) := ⟨by
 refine con_of (show prog 96 = some c96 from rfl) rfl rfl fun n hn => ?_
 unfold sideB
 cases h1 : decide (w ≥ 0)
 ·skip
  try simp only [↓nrmL, nrmZ, Nat.reduceEqDiff, ↓reduceIte, h1]
  refine sq ?_
  refine rg fun KF hKF => ?_
  refine mB rfl ?_
  refine WpO.nil (hKF _ _ ?_)
  refine sq ?_
  refine rg fun KF hKF => ?_
  refine mI rfl ?_
  refine Fo.bin rfl rfl rfl (by simp only [↓nrmL, nrmZ, Nat.reduceEqDiff, ↓reduceIte, h1]; rfl) ?_
  refine mB rfl ?_
  refine Fo.no rfl rfl ?_
  refine Fo.no rfl rfl ?_
  refine fB rfl rfl ?_
  refine mB rfl ?_
  refine Fo.no rfl rfl ?_
  refine Fo.no rfl rfl ?_
  refine fB rfl rfl ?_
  refine mB rfl ?_
  refine Fo.no rfl rfl ?_
  refine Fo.no rfl rfl ?_
  refine fB rfl rfl ?_
  refine mB rfl ?_
  refine WpO.nil (hKF _ _ ?_)
  refine Wp.ret ?_
  dsimp only [cond_true, cond_false]
  exact ⟨trivial, _, rfl, rfl, Ext0.ext⟩
 cases h2 : decide (w ≤ 640)
 ·skip
  try simp only [↓nrmL, nrmZ, Nat.reduceEqDiff, ↓reduceIte, h1, h2]
  refine sq ?_
  refine rg fun KF hKF => ?_
  refine mB rfl ?_
  refine WpO.nil (hKF _ _ ?_)
  refine sq ?_
  refine rg fun KF hKF => ?_
  refine mI rfl ?_
  refine Fo.bin rfl rfl rfl (by simp only [↓nrmL, nrmZ, Nat.reduceEqDiff, ↓reduceIte, h1, h2]; rfl) ?_
  refine mB rfl ?_
  refine Fo.yes rfl rfl ?_
  refine mI rfl ?_
  refine Fo.yes rfl rfl ?_
  refine Fo.bin rfl rfl rfl (by simp only [↓nrmL, nrmZ, Nat.reduceEqDiff, ↓reduceIte, h1, h2]; rfl) ?_
  refine tB rfl rfl ?_
  refine mB rfl ?_
  refine Fo.no rfl rfl ?_
  refine Fo.no rfl rfl ?_
  refine fB rfl rfl ?_
  refine mB rfl ?_
  refine Fo.no rfl rfl ?_
  refine Fo.no rfl rfl ?_
  refine fB rfl rfl ?_
  refine mB rfl ?_
  refine WpO.nil (hKF _ _ ?_)
  refine Wp.ret ?_
  dsimp only [cond_true, cond_false]
  exact ⟨trivial, _, rfl, rfl, Ext0.ext⟩
 cases h3 : decide (h ≥ 0)
 ·skip
  try simp only [↓nrmL, nrmZ, Nat.reduceEqDiff, ↓reduceIte, h1, h2, h3]
  refine sq ?_
  refine rg fun KF hKF => ?_
  refine mB rfl ?_
  refine WpO.nil (hKF _ _ ?_)
  refine sq ?_
  refine rg fun KF hKF => ?_
  refine mI rfl ?_
  refine Fo.bin rfl rfl rfl (by simp only [↓nrmL, nrmZ, Nat.reduceEqDiff, ↓reduceIte, h1, h2, h3]; rfl) ?_
  refine mB rfl ?_
  refine Fo.yes rfl rfl ?_
  refine mI rfl ?_
  refine Fo.yes rfl rfl ?_
  refine Fo.bin rfl rfl rfl (by simp only [↓nrmL, nrmZ, Nat.reduceEqDiff, ↓reduceIte, h1, h2, h3]; rfl) ?_
  refine tB rfl rfl ?_
  refine mB rfl ?_
  refine Fo.yes rfl rfl ?_
  refine mI rfl ?_
  refine Fo.yes rfl rfl ?_
  refine Fo.bin rfl rfl rfl (by simp only [↓nrmL, nrmZ, Nat.reduceEqDiff, ↓reduceIte, h1, h2, h3]; rfl) ?_
  refine tB rfl rfl ?_
  refine mB rfl ?_
  refine Fo.no rfl rfl ?_
  refine Fo.no rfl rfl ?_
  refine fB rfl rfl ?_
  refine mB rfl ?_
  refine WpO.nil (hKF _ _ ?_)
  refine Wp.ret ?_
  dsimp only [cond_true, cond_false]
  exact ⟨trivial, _, rfl, rfl, Ext0.ext⟩
 cases h4 : decide (h ≤ 640)
 ·skip
  try simp only [↓nrmL, nrmZ, Nat.reduceEqDiff, ↓reduceIte, h1, h2, h3, h4]
  refine sq ?_
  refine rg fun KF hKF => ?_
  refine mB rfl ?_
  refine WpO.nil (hKF _ _ ?_)
  refine sq ?_
  refine rg fun KF hKF => ?_
  refine mI rfl ?_
  refine Fo.bin rfl rfl rfl (by simp only [↓nrmL, nrmZ, Nat.reduceEqDiff, ↓reduceIte, h1, h2, h3, h4]; rfl) ?_
  refine mB rfl ?_
  refine Fo.yes rfl rfl ?_
  refine mI rfl ?_
  refine Fo.yes rfl rfl ?_
  refine Fo.bin rfl rfl rfl (by simp only [↓nrmL, nrmZ, Nat.reduceEqDiff, ↓reduceIte, h1, h2, h3, h4]; rfl) ?_
  refine tB rfl rfl ?_
  refine mB rfl ?_
  refine Fo.yes rfl rfl ?_
  refine mI rfl ?_
  refine Fo.yes rfl rfl ?_
  refine Fo.bin rfl rfl rfl (by simp only [↓nrmL, nrmZ, Nat.reduceEqDiff, ↓reduceIte, h1, h2, h3, h4]; rfl) ?_
  refine tB rfl rfl ?_
  refine mB rfl ?_
  refine Fo.yes rfl rfl ?_
  refine mI rfl ?_
  refine Fo.yes rfl rfl ?_
  refine Fo.bin rfl rfl rfl (by simp only [↓nrmL, nrmZ, Nat.reduceEqDiff, ↓reduceIte, h1, h2, h3, h4]; rfl) ?_
  refine tB rfl rfl ?_
  refine mB rfl ?_
  refine WpO.nil (hKF _ _ ?_)
  refine Wp.ret ?_
  dsimp only [cond_true, cond_false]
  exact ⟨trivial, _, rfl, rfl, Ext0.ext⟩
 ·skip
  try simp only [↓nrmL, nrmZ, Nat.reduceEqDiff, ↓reduceIte, h1, h2, h3, h4]
  refine sq ?_
  refine rg fun KF hKF => ?_
  refine mB rfl ?_
  refine WpO.nil (hKF _ _ ?_)
  refine sq ?_
  refine rg fun KF hKF => ?_
  refine mI rfl ?_
  refine Fo.bin rfl rfl rfl (by simp only [↓nrmL, nrmZ, Nat.reduceEqDiff, ↓reduceIte, h1, h2, h3, h4]; rfl) ?_
  refine mB rfl ?_
  refine Fo.yes rfl rfl ?_
  refine mI rfl ?_
  refine Fo.yes rfl rfl ?_
  refine Fo.bin rfl rfl rfl (by simp only [↓nrmL, nrmZ, Nat.reduceEqDiff, ↓reduceIte, h1, h2, h3, h4]; rfl) ?_
  refine tB rfl rfl ?_
  refine mB rfl ?_
  refine Fo.yes rfl rfl ?_
  refine mI rfl ?_
  refine Fo.yes rfl rfl ?_
  refine Fo.bin rfl rfl rfl (by simp only [↓nrmL, nrmZ, Nat.reduceEqDiff, ↓reduceIte, h1, h2, h3, h4]; rfl) ?_
  refine tB rfl rfl ?_
  refine mB rfl ?_
  refine Fo.yes rfl rfl ?_
  refine mI rfl ?_
  refine Fo.yes rfl rfl ?_
  refine Fo.bin rfl rfl rfl (by simp only [↓nrmL, nrmZ, Nat.reduceEqDiff, ↓reduceIte, h1, h2, h3, h4]; rfl) ?_
  refine tB rfl rfl ?_
  refine mB rfl ?_
  refine WpO.nil (hKF _ _ ?_)
  refine Wp.ret ?_
  dsimp only [cond_true, cond_false]
  exact ⟨trivial, _, rfl, rfl, Ext0.ext⟩⟩

theorem K_refNew {w h : Nat} {H : AHeap} (hw : w ≤ 640) (hh : h ≤ 640) : Con ext prog 1 104 [.int .i64 w, .int .i64 h] H fun v H' => NewInk H H' v ⟨w, h, List.replicate (w * h) 0⟩ := by
 refine con_of (show prog 104 = some c104 from rfl) rfl rfl fun n hn => ?_
 have hm : w * h ≤ 640 * 640 := Nat.mul_le_mul hw hh
 have hc : IntKind.i64.wrap ((w : Int) * (h : Int)) = ((w * h : Nat) : Int) := wm (by omega)
 try simp only [↓nrmL, nrmZ, Nat.reduceEqDiff, ↓reduceIte, hc]
 refine sq ?_
 refine rg fun KF hKF => ?_
 refine Fo.new ?_
 refine WpO.nil (hKF _ _ ?_)
 refine sq ?_
 refine rg fun KF hKF => ?_
 refine mI rfl ?_
 refine mI rfl ?_
 refine mI rfl ?_
 refine mI rfl ?_
 refine Fo.bin rfl rfl rfl (by simp only [↓nrmL, nrmZ, Nat.reduceEqDiff, ↓reduceIte, hc]; rfl) ?_
 refine WpO.do (WpX.mkB rfl rfl rfl (by omega) fun p H1 e1 hb hf hw' hx => ?_); try simp only [↓nrmL, nrmZ, Nat.reduceEqDiff, ↓reduceIte, hc]
 haveI := hb.one
 refine Fo.build (by repeat (first | refine aFill1 (by first | exact (rfl : _ = AVal.int _ _) | exact (rfl : _ = AVal.ptr _ _) | exact (rfl : _ = AVal.bool _) | exact (rfl : _ = AVal.agg _) | exact (rfl : _ = AVal.tuple _) | exact (rfl : _ = AVal.func _ _ _) | exact (rfl : _ = AVal.nslice) | ((try simp only [↓nrmL, nrmK, Nat.reduceEqDiff, ↓reduceIte]); rfl)) rfl ?_ | rfl)) (by simp only [↓nrmL, nrmZ, Nat.reduceEqDiff, ↓reduceIte]; rfl) ?_
 refine Fo.st rfl (rfl : _ = AVal.agg _) rfl rfl rfl (by repeat (first | rfl | refine allOne_cons ?_)) (by simp only [↓nrmL, nrmZ, Nat.reduceEqDiff, ↓reduceIte]; rfl) ?_
 refine WpO.nil (hKF _ _ ?_)
 refine Wp.ret ?_
 dsimp only [cond_true, cond_false]
 refine ⟨trivial, _, (getAllC rfl rfl rfl rfl), ?_⟩
 exact ⟨p, rfl, inferInstance, hf.weak, inferInstance, Ext0.ext⟩

/-- A pixel is set. -/
theorem K_refSet {x y w : Nat} {h : Int} {p : AVal} {H : AHeap} {l : List UInt8} [hp : BytesI H p l] [hw : WrS H p] (hi : y * w + x < l.length) (hl : l.length < 2 ^ 40) : Con ext prog 1 105 [.agg [.int .i64 w, .int .i64 h, p], .int .i64 x, .int .i64 y] H fun v H' => BytesI H' p (l.set (y * w + x) 1) ∧ WrS H' p ∧ ExtP H H' p := by
 refine con_of (show prog 105 = some c105 from rfl) rfl rfl fun n hn => ?_
 haveI := hp.one
 have h1 : IntKind.i64.wrap ((y : Int) * (w : Int)) = ((y * w : Nat) : Int) := wm (by omega)
 have h2 : IntKind.i64.wrap (((y * w : Nat) : Int) + (x : Int)) = ((y * w + x : Nat) : Int) := wa (by omega)
 try simp only [↓nrmL, nrmZ, Nat.reduceEqDiff, ↓reduceIte, h1, h2]
 refine sq ?_
 refine rg fun KF hKF => ?_
 refine Fo.boxA rfl ?_
 refine WpO.nil (hKF _ _ ?_)
 refine rg fun KF hKF => ?_
 refine Fo.fa rfl ?_
 refine Fo.ld rfl rfl ?_
 refine mI rfl ?_
 refine Fo.fa rfl ?_
 refine Fo.ld rfl rfl ?_
 refine Fo.bin rfl rfl rfl (by simp only [↓nrmL, nrmZ, Nat.reduceEqDiff, ↓reduceIte, h1, h2]; rfl) ?_
 refine mI rfl ?_
 refine Fo.bin rfl rfl rfl (by simp only [↓nrmL, nrmZ, Nat.reduceEqDiff, ↓reduceIte, h1, h2]; rfl) ?_
 refine Fo.idx (by simp only [↓nrmL, nrmK, Nat.reduceEqDiff, ↓reduceIte]; rfl) rfl ?_ (by simp only [↓nrmL, nrmZ, Nat.reduceEqDiff, ↓reduceIte, h1, h2]; rfl) ?_; (focus omega)
 refine WpO.do' (WpX.stB 1 rfl rfl rfl hi fun H4 hb4 hw4 hx4 => ?_)
 refine WpO.nil (hKF _ _ ?_)
 dsimp only [cond_true, cond_false]
 exact ⟨trivial, _, rfl, hb4, hw4, (inferInstance : ExtP0 H H4 p).ext⟩
end Go.Am

set_option maxHeartbeats 4000000
set_option maxRecDepth 100000
namespace Go.Am
open Go
attribute [local irreducible] Wp WpO WpX WpE

end Go.Am

set_option maxHeartbeats 4000000
set_option maxRecDepth 100000
namespace Go.Am
open Go
attribute [local irreducible] Wp WpO WpX WpE

def lvStep (acc : List Int) (b : UInt8) : List Int := acc.set b.toNat (acc.getD b.toNat 0 + 1)
def lv (l : List UInt8) : List Int := l.foldl lvStep (List.replicate 256 0)
def NewInts (H H' : AHeap) (v : AVal) (l : List Int) : Prop := IntsI H' v l ∧ FreshS H v ∧ WrS H' v ∧ Ext H H'
instance intsNil {H : AHeap} : IntsI H .nslice [] := ⟨Or.inl ⟨rfl, rfl, rfl⟩⟩
instance bytesNil {H : AHeap} : BytesI H .nslice [] := ⟨Or.inl ⟨rfl, rfl, rfl⟩⟩

end Go.Am

set_option maxHeartbeats 4000000
set_option maxRecDepth 100000
namespace Go.Am
open Go
attribute [local irreducible] Wp WpO WpX WpE

theorem eq_of_gets {α : Type} {l m : List α} (hl : l.length = m.length) (h : ∀ j, j < l.length → l[j]? = m[j]?) : l = m := by
 apply List.ext_getElem?
 intro i
 by_cases hi : i < l.length
 ·exact h i hi
 ·rw [List.getElem?_eq_none (by omega), List.getElem?_eq_none (by omega)]

/-- Short enough for the loops. -/
class Short {α : Type} (l : List α) : Prop where
 le : l.length ≤ 999999

instance K_SameBytes {p q : AVal} {H : AHeap} {l m : List UInt8} [hp : BytesI H p l] [hq : BytesI H q m] [hs : Short l] : PureCon ext prog 108 [p, q] H 1 (.bool (decide (l = m))) := ⟨by
 refine con_of (show prog 108 = some c108 from rfl) rfl rfl fun n hn => ?_
 have hsl := hs.le
 by_cases hlm : l.length = m.length
 ·have h1 : (((l.length : Nat) : Int) != ((m.length : Nat) : Int)) = false := by simp [hlm]
  try simp only [↓nrmL, nrmZ, Nat.reduceEqDiff, ↓reduceIte, h1]
  refine sq ?_
  refine rg fun KF hKF => ?_
  refine mB rfl ?_
  refine WpO.nil (hKF _ _ ?_)
  refine sq ?_
  refine sq ?_
  refine rg fun KF hKF => ?_
  refine Fo.mov (by simp only [↓nrmL, nrmK, Nat.reduceEqDiff, ↓reduceIte]; rfl) ?_
  refine Fo.len (v := ?_) (by simp only [↓nrmL, nrmK, Nat.reduceEqDiff, ↓reduceIte]; rfl) ?hv ?_; case hv => rfl
  refine Fo.mov (by simp only [↓nrmL, nrmK, Nat.reduceEqDiff, ↓reduceIte]; rfl) ?_
  refine Fo.len (v := ?_) (by simp only [↓nrmL, nrmK, Nat.reduceEqDiff, ↓reduceIte]; rfl) ?hv ?_; case hv => rfl
  refine Fo.bin rfl rfl rfl (by simp only [↓nrmL, nrmZ, Nat.reduceEqDiff, ↓reduceIte, h1]; rfl) ?_
  refine WpO.nil (hKF _ _ ?_)
  refine Wp.cond (b := false) rfl ?_
  refine Wp.skip ?_
  refine sq ?_
  refine sq ?_
  refine rg fun KF hKF => ?_
  refine mI rfl ?_
  refine WpO.nil (hKF _ _ ?_)
  refine Wp.block ?_
  dsimp only [cond_true, cond_false]
  refine Wp.loopS [4, 5, 11, 12, 13, 14, 15, 16, 17, 18, 19, 20, 21, 22, 23, 24, 25] (fun i : Nat => [(5, .int .i64 i)]) (fun H3 i H2 => i ≤ l.length ∧ (∀ j, j < i → l[j]? = m[j]?) ∧ H2 = H3) (fun i => l.length - i) 0 rfl (fun _ => rfl) ⟨rfl, trivial⟩ ⟨Nat.zero_le _, fun j hj => by omega, rfl⟩ (by unfold fuel0 at hn; omega) ?_
  rintro i g H2 ⟨hi, heq, rfl⟩
  simp only [↓nrmL, nrmZ, Nat.reduceEqDiff, ↓reduceIte]
  cases hc : decide ((i : Int) < (l.length : Int))
  ·have hil : i = l.length := by have := of_decide_eq_false hc; omega
   subst hil
   have hd : decide (l = m) = true := decide_eq_true (eq_of_gets hlm heq)
   rw [hd]
   try simp only [↓nrmL, nrmZ, Nat.reduceEqDiff, ↓reduceIte, hc]
   refine sq ?_
   refine sq ?_
   refine rg fun KF hKF => ?_
   refine mI rfl ?_
   refine Fo.mov (by simp only [↓nrmL, nrmK, Nat.reduceEqDiff, ↓reduceIte]; rfl) ?_
   refine Fo.len (v := ?_) (by simp only [↓nrmL, nrmK, Nat.reduceEqDiff, ↓reduceIte]; rfl) ?hv ?_; case hv => rfl
   refine Fo.bin rfl rfl rfl (by simp only [↓nrmL, nrmZ, Nat.reduceEqDiff, ↓reduceIte, hc]; rfl) ?_
   refine WpO.nil (hKF _ _ ?_)
   refine Wp.cond (b := false) rfl ?_
   refine Wp.exit ?_
   refine sq ?_
   refine rg fun KF hKF => ?_
   refine mB rfl ?_
   refine WpO.nil (hKF _ _ ?_)
   refine Wp.ret ?_
   dsimp only [cond_true, cond_false]
   refine ⟨trivial, _, rfl, ?_⟩
   exact ⟨rfl, Ext0.ext⟩
  ·have hil : i < l.length := by have := of_decide_eq_true hc; omega
   have him : i < m.length := by omega
   have hw1 := wa1 (a := i) (by omega)
   cases hne : (((l[i].toNat : Nat) : Int) != ((m[i].toNat : Nat) : Int))
   ·skip
    try simp only [↓nrmL, nrmZ, Nat.reduceEqDiff, ↓reduceIte, hc, hne]
    refine sq ?_
    refine sq ?_
    refine rg fun KF hKF => ?_
    refine mI rfl ?_
    refine Fo.mov (by simp only [↓nrmL, nrmK, Nat.reduceEqDiff, ↓reduceIte]; rfl) ?_
    refine Fo.len (v := ?_) (by simp only [↓nrmL, nrmK, Nat.reduceEqDiff, ↓reduceIte]; rfl) ?hv ?_; case hv => rfl
    refine Fo.bin rfl rfl rfl (by simp only [↓nrmL, nrmZ, Nat.reduceEqDiff, ↓reduceIte, hc, hne]; rfl) ?_
    refine WpO.nil (hKF _ _ ?_)
    refine Wp.cond (b := true) rfl ?_
    refine Wp.skip ?_
    refine sq ?_
    refine Wp.block ?_
    refine sq ?_
    refine Fr.quiet rfl rfl fun KF hKF => ?_
    refine Fo.mov (by simp only [↓nrmL, nrmK, Nat.reduceEqDiff, ↓reduceIte]; rfl) ?_
    refine mI rfl ?_
    refine Fo.idx (by simp only [↓nrmL, nrmK, Nat.reduceEqDiff, ↓reduceIte]; rfl) rfl ?_ (by simp only [↓nrmL, nrmZ, Nat.reduceEqDiff, ↓reduceIte, hc, hne]; rfl) ?_; (focus omega)
    refine Fo.ldB rfl ?_ rfl ?_; (focus omega)
    refine Fo.mov (by simp only [↓nrmL, nrmK, Nat.reduceEqDiff, ↓reduceIte]; rfl) ?_
    refine mI rfl ?_
    refine Fo.idx (by simp only [↓nrmL, nrmK, Nat.reduceEqDiff, ↓reduceIte]; rfl) rfl ?_ (by simp only [↓nrmL, nrmZ, Nat.reduceEqDiff, ↓reduceIte, hc, hne]; rfl) ?_; (focus omega)
    refine Fo.ldB rfl ?_ rfl ?_; (focus omega)
    refine Fo.bin rfl rfl rfl (by simp only [↓nrmL, nrmZ, Nat.reduceEqDiff, ↓reduceIte, hc, hne]; rfl) ?_
    refine WpO.nil (hKF _ _ ?_)
    refine Wp.cond (b := false) rfl ?_
    refine Wp.skip ?_
    refine rg fun KF hKF => ?_
    refine mI rfl ?_
    refine Fo.bin rfl rfl rfl rfl ?_
    refine mI rfl ?_
    refine WpO.nil (hKF _ _ ?_)
    dsimp only [cond_true, cond_false]
    refine ⟨i + 1, by omega, ⟨by simp only [↓nrmL, nrmZ, Nat.reduceEqDiff, ↓reduceIte]; rw [hw1], trivial⟩, hil, fun j hj => ?_, rfl⟩
    by_cases hj2 : j < i
    ·exact heq j hj2
    ·have : j = i := by omega
     subst this
     have h2 : l[j].toNat = m[j].toNat := by simp at hne; omega
     have : l[j] = m[j] := UInt8.toNat_inj.1 h2
     simp [hil, him, this]
   ·have hd : decide (l = m) = false := decide_eq_false (fun e => by subst e; simp at hne)
    rw [hd]
    try simp only [↓nrmL, nrmZ, Nat.reduceEqDiff, ↓reduceIte, hc, hne]
    refine sq ?_
    refine sq ?_
    refine rg fun KF hKF => ?_
    refine mI rfl ?_
    refine Fo.mov (by simp only [↓nrmL, nrmK, Nat.reduceEqDiff, ↓reduceIte]; rfl) ?_
    refine Fo.len (v := ?_) (by simp only [↓nrmL, nrmK, Nat.reduceEqDiff, ↓reduceIte]; rfl) ?hv ?_; case hv => rfl
    refine Fo.bin rfl rfl rfl (by simp only [↓nrmL, nrmZ, Nat.reduceEqDiff, ↓reduceIte, hc, hne]; rfl) ?_
    refine WpO.nil (hKF _ _ ?_)
    refine Wp.cond (b := true) rfl ?_
    refine Wp.skip ?_
    refine sq ?_
    refine Wp.block ?_
    refine sq ?_
    refine Fr.quiet rfl rfl fun KF hKF => ?_
    refine Fo.mov (by simp only [↓nrmL, nrmK, Nat.reduceEqDiff, ↓reduceIte]; rfl) ?_
    refine mI rfl ?_
    refine Fo.idx (by simp only [↓nrmL, nrmK, Nat.reduceEqDiff, ↓reduceIte]; rfl) rfl ?_ (by simp only [↓nrmL, nrmZ, Nat.reduceEqDiff, ↓reduceIte, hc, hne]; rfl) ?_; (focus omega)
    refine Fo.ldB rfl ?_ rfl ?_; (focus omega)
    refine Fo.mov (by simp only [↓nrmL, nrmK, Nat.reduceEqDiff, ↓reduceIte]; rfl) ?_
    refine mI rfl ?_
    refine Fo.idx (by simp only [↓nrmL, nrmK, Nat.reduceEqDiff, ↓reduceIte]; rfl) rfl ?_ (by simp only [↓nrmL, nrmZ, Nat.reduceEqDiff, ↓reduceIte, hc, hne]; rfl) ?_; (focus omega)
    refine Fo.ldB rfl ?_ rfl ?_; (focus omega)
    refine Fo.bin rfl rfl rfl (by simp only [↓nrmL, nrmZ, Nat.reduceEqDiff, ↓reduceIte, hc, hne]; rfl) ?_
    refine WpO.nil (hKF _ _ ?_)
    refine Wp.cond (b := true) rfl ?_
    refine sq ?_
    refine rg fun KF hKF => ?_
    refine mB rfl ?_
    refine WpO.nil (hKF _ _ ?_)
    refine Wp.ret ?_
    dsimp only [cond_true, cond_false]
    refine ⟨trivial, _, rfl, ?_⟩
    exact ⟨rfl, Ext0.ext⟩
 ·have h1 : (((l.length : Nat) : Int) != ((m.length : Nat) : Int)) = true := by simp; omega
  have hd : decide (l = m) = false := decide_eq_false (fun e => by subst e; exact hlm rfl)
  rw [hd]
  try simp only [↓nrmL, nrmZ, Nat.reduceEqDiff, ↓reduceIte, h1]
  refine sq ?_
  refine rg fun KF hKF => ?_
  refine mB rfl ?_
  refine WpO.nil (hKF _ _ ?_)
  refine sq ?_
  refine sq ?_
  refine rg fun KF hKF => ?_
  refine Fo.mov (by simp only [↓nrmL, nrmK, Nat.reduceEqDiff, ↓reduceIte]; rfl) ?_
  refine Fo.len (v := ?_) (by simp only [↓nrmL, nrmK, Nat.reduceEqDiff, ↓reduceIte]; rfl) ?hv ?_; case hv => rfl
  refine Fo.mov (by simp only [↓nrmL, nrmK, Nat.reduceEqDiff, ↓reduceIte]; rfl) ?_
  refine Fo.len (v := ?_) (by simp only [↓nrmL, nrmK, Nat.reduceEqDiff, ↓reduceIte]; rfl) ?hv ?_; case hv => rfl
  refine Fo.bin rfl rfl rfl (by simp only [↓nrmL, nrmZ, Nat.reduceEqDiff, ↓reduceIte, h1]; rfl) ?_
  refine WpO.nil (hKF _ _ ?_)
  refine Wp.cond (b := true) rfl ?_
  refine sq ?_
  refine rg fun KF hKF => ?_
  refine mB rfl ?_
  refine WpO.nil (hKF _ _ ?_)
  refine Wp.ret ?_
  dsimp only [cond_true, cond_false]
  refine ⟨trivial, _, rfl, ?_⟩
  exact ⟨rfl, Ext0.ext⟩⟩

/-- Two images are the same. -/
instance K_SameInk {p q : AVal} {H : AHeap} {w h w' h' : Int} {l m : List UInt8} [hp : BytesI H p l] [hq : BytesI H q m] [hs : Short l] : PureCon ext prog 32 [.agg [.int .i64 w, .int .i64 h, p], .agg [.int .i64 w', .int .i64 h', q]] H 2 (.bool (decide ((⟨w, h, l⟩ : Img) = ⟨w', h', m⟩))) := ⟨by
 refine con_of (show prog 32 = some c32 from rfl) rfl rfl fun n hn => ?_
 haveI := hp.one
 haveI := hq.one
 have e : decide ((⟨w, h, l⟩ : Img) = ⟨w', h', m⟩) = ((w == w') && (h == h') && decide (l = m)) := by
  by_cases h1 : w = w' <;> by_cases h2 : h = h' <;> by_cases h3 : l = m <;> simp [h1, h2, h3]
 rw [e]
 cases h1 : (w == w')
 ·skip
  try simp only [↓nrmL, nrmZ, Nat.reduceEqDiff, ↓reduceIte, h1]
  refine sq ?_
  refine rg fun KF hKF => ?_
  refine Fo.boxA rfl ?_
  refine Fo.boxA rfl ?_
  refine mB rfl ?_
  refine WpO.nil (hKF _ _ ?_)
  refine sq ?_
  refine rg fun KF hKF => ?_
  refine Fo.fa rfl ?_
  refine Fo.ld rfl rfl ?_
  refine Fo.fa rfl ?_
  refine Fo.ld rfl rfl ?_
  refine Fo.bin rfl rfl rfl (by simp only [↓nrmL, nrmZ, Nat.reduceEqDiff, ↓reduceIte, h1]; rfl) ?_
  refine mB rfl ?_
  refine Fo.no rfl rfl ?_
  refine Fo.no rfl rfl ?_
  refine Fo.no rfl rfl ?_
  refine Fo.no rfl rfl ?_
  refine Fo.no rfl rfl ?_
  refine fB rfl rfl ?_
  refine mB rfl ?_
  refine Fo.no rfl rfl ?_
  refine Fo.no rfl rfl ?_
  refine Fo.no rfl rfl ?_
  refine Fo.no rfl rfl ?_
  refine Fo.no rfl rfl ?_
  refine fB rfl rfl ?_
  refine mB rfl ?_
  refine WpO.nil (hKF _ _ ?_)
  refine Wp.ret ?_
  dsimp only [cond_true, cond_false]
  refine ⟨trivial, _, rfl, ?_⟩
  exact ⟨rfl, Ext0.ext⟩
 cases h2 : (h == h')
 ·skip
  try simp only [↓nrmL, nrmZ, Nat.reduceEqDiff, ↓reduceIte, h1, h2]
  refine sq ?_
  refine rg fun KF hKF => ?_
  refine Fo.boxA rfl ?_
  refine Fo.boxA rfl ?_
  refine mB rfl ?_
  refine WpO.nil (hKF _ _ ?_)
  refine sq ?_
  refine rg fun KF hKF => ?_
  refine Fo.fa rfl ?_
  refine Fo.ld rfl rfl ?_
  refine Fo.fa rfl ?_
  refine Fo.ld rfl rfl ?_
  refine Fo.bin rfl rfl rfl (by simp only [↓nrmL, nrmZ, Nat.reduceEqDiff, ↓reduceIte, h1, h2]; rfl) ?_
  refine mB rfl ?_
  refine Fo.yes rfl rfl ?_
  refine Fo.fa rfl ?_
  refine Fo.yes rfl rfl ?_
  refine Fo.ld rfl rfl ?_
  refine Fo.yes rfl rfl ?_
  refine Fo.fa rfl ?_
  refine Fo.yes rfl rfl ?_
  refine Fo.ld rfl rfl ?_
  refine Fo.yes rfl rfl ?_
  refine Fo.bin rfl rfl rfl (by simp only [↓nrmL, nrmZ, Nat.reduceEqDiff, ↓reduceIte, h1, h2]; rfl) ?_
  refine tB rfl rfl ?_
  refine mB rfl ?_
  refine Fo.no rfl rfl ?_
  refine Fo.no rfl rfl ?_
  refine Fo.no rfl rfl ?_
  refine Fo.no rfl rfl ?_
  refine Fo.no rfl rfl ?_
  refine fB rfl rfl ?_
  refine mB rfl ?_
  refine WpO.nil (hKF _ _ ?_)
  refine Wp.ret ?_
  dsimp only [cond_true, cond_false]
  refine ⟨trivial, _, rfl, ?_⟩
  exact ⟨rfl, Ext0.ext⟩
 ·skip
  try simp only [↓nrmL, nrmZ, Nat.reduceEqDiff, ↓reduceIte, h1, h2]
  refine sq ?_
  refine rg fun KF hKF => ?_
  refine Fo.boxA rfl ?_
  refine Fo.boxA rfl ?_
  refine mB rfl ?_
  refine WpO.nil (hKF _ _ ?_)
  refine sq ?_
  refine rg fun KF hKF => ?_
  refine Fo.fa rfl ?_
  refine Fo.ld rfl rfl ?_
  refine Fo.fa rfl ?_
  refine Fo.ld rfl rfl ?_
  refine Fo.bin rfl rfl rfl (by simp only [↓nrmL, nrmZ, Nat.reduceEqDiff, ↓reduceIte, h1, h2]; rfl) ?_
  refine mB rfl ?_
  refine Fo.yes rfl rfl ?_
  refine Fo.fa rfl ?_
  refine Fo.yes rfl rfl ?_
  refine Fo.ld rfl rfl ?_
  refine Fo.yes rfl rfl ?_
  refine Fo.fa rfl ?_
  refine Fo.yes rfl rfl ?_
  refine Fo.ld rfl rfl ?_
  refine Fo.yes rfl rfl ?_
  refine Fo.bin rfl rfl rfl (by simp only [↓nrmL, nrmZ, Nat.reduceEqDiff, ↓reduceIte, h1, h2]; rfl) ?_
  refine tB rfl rfl ?_
  refine mB rfl ?_
  refine Fo.yes rfl rfl ?_
  refine Fo.fa rfl ?_
  refine Fo.yes rfl rfl ?_
  refine Fo.ld rfl rfl ?_
  refine Fo.yes rfl rfl ?_
  refine Fo.fa rfl ?_
  refine Fo.yes rfl rfl ?_
  refine Fo.ld rfl rfl ?_
  refine Fo.yes rfl rfl ?_
  refine Fo.pcall (v' := ?_) hn rfl (by simp only [↓nrmL, nrmZ, Nat.reduceEqDiff, ↓reduceIte, h1, h2, List.map]; rfl) rfl ?hv fun _ _ => ?_; case hv => rfl
  refine tB rfl rfl ?_
  refine mB rfl ?_
  refine WpO.nil (hKF _ _ ?_)
  refine Wp.ret ?_
  dsimp only [cond_true, cond_false]
  refine ⟨trivial, _, rfl, ?_⟩
  exact ⟨rfl, Ext0.ext⟩⟩
end Go.Am

set_option maxHeartbeats 4000000
set_option maxRecDepth 100000
namespace Go.Am
open Go
attribute [local irreducible] Wp WpO WpX WpE

/-- bytealg.Count -/
instance K_bCount {p : AVal} {H : AHeap} {l : List UInt8} {k : Int} {b : UInt8} [hp : BytesI H p l] [hb : IsU8 k b] : PureCon ext prog 154 [p, .int .u8 k] H 0 (.int .i64 (l.count b : Nat)) := ⟨fun n hn => by
 obtain ⟨m, rfl⟩ : ∃ m, n = m + 1 := ⟨n - 1, by unfold fuel0 at hn; omega⟩
 have e1 : prog 154 = some ⟨0, .ext 0, []⟩ := rfl
 refine ⟨_, H, ?_, rfl, Ext.refl H⟩
 rw [call_ext e1]
 have hb' := hb.eq
 subst hb'
 show aBytesFn (fun l => .int .i64 (Lib.countByte l (UInt8.ofNat ((b.toNat : Int)).toNat))) p H = _
 rw [aBytesFn_at]
 simp [Lib.countByte]⟩
/-- bytes.Count of one byte -/
instance K_bytesCount {p q : AVal} {H : AHeap} {l : List UInt8} {b : UInt8} [hp : BytesI H p l] [hq : BytesI H q [b]] : PureCon ext prog 107 [p, q] H 1 (.int .i64 (l.count b : Nat)) := ⟨by
 refine con_of (show prog 107 = some c107 from rfl) rfl rfl fun n hn => ?_
 have e0 : [b].length = 1 := rfl
 try simp only [↓nrmL, nrmZ, Nat.reduceEqDiff, ↓reduceIte, Nat.reduceAdd, Int.reduceBEq, Int.reduceBNe, e0]
 refine sq ?_
 refine rg fun KF hKF => ?_
 refine mI rfl ?_
 refine WpO.nil (hKF _ _ ?_)
 refine sq ?_
 refine sq ?_
 refine rg fun KF hKF => ?_
 refine Fo.mov (by simp only [↓nrmL, nrmK, Nat.reduceEqDiff, ↓reduceIte]; rfl) ?_
 refine Fo.len (v := ?_) (by simp only [↓nrmL, nrmK, Nat.reduceEqDiff, ↓reduceIte]; rfl) ?hv ?_; case hv => (simp only [↓nrmL, nrmZ, Nat.reduceEqDiff, ↓reduceIte, Nat.reduceAdd, Int.reduceBEq, Int.reduceBNe, e0]; rfl)
 refine Fo.bin rfl rfl rfl rfl ?_
 refine WpO.nil (hKF _ _ ?_)
 refine Wp.cond (b := false) rfl ?_
 refine Wp.skip ?_
 refine sq ?_
 refine sq ?_
 refine rg fun KF hKF => ?_
 refine Fo.mov (by simp only [↓nrmL, nrmK, Nat.reduceEqDiff, ↓reduceIte]; rfl) ?_
 refine Fo.len (v := ?_) (by simp only [↓nrmL, nrmK, Nat.reduceEqDiff, ↓reduceIte]; rfl) ?hv ?_; case hv => (simp only [↓nrmL, nrmZ, Nat.reduceEqDiff, ↓reduceIte, Nat.reduceAdd, Int.reduceBEq, Int.reduceBNe, e0]; rfl)
 refine Fo.bin rfl rfl rfl rfl ?_
 refine WpO.nil (hKF _ _ ?_)
 refine Wp.cond (b := true) rfl ?_
 refine sq ?_
 refine rg fun KF hKF => ?_
 refine Fo.mov (by simp only [↓nrmL, nrmK, Nat.reduceEqDiff, ↓reduceIte]; rfl) ?_
 refine Fo.mov (by simp only [↓nrmL, nrmK, Nat.reduceEqDiff, ↓reduceIte]; rfl) ?_
 refine Fo.idx (by simp only [↓nrmL, nrmK, Nat.reduceEqDiff, ↓reduceIte]; rfl) rfl ?_ (by simp only [↓nrmL, nrmZ, Nat.reduceEqDiff, ↓reduceIte, Nat.reduceAdd, Int.reduceBEq, Int.reduceBNe, e0]; rfl) ?_; (focus omega)
 refine Fo.ldB rfl ?_ rfl ?_; (focus omega)
 refine Fo.pcall (v' := ?_) hn rfl (by simp only [↓nrmL, nrmZ, Nat.reduceEqDiff, ↓reduceIte, Nat.reduceAdd, Int.reduceBEq, Int.reduceBNe, e0, List.map]; rfl) rfl ?hv fun _ _ => ?_; case hv => rfl
 refine mI rfl ?_
 refine WpO.nil (hKF _ _ ?_)
 refine Wp.ret ?_
 dsimp only [cond_true, cond_false]
 refine ⟨trivial, _, (by first | rfl | exact getAllC rfl rfl rfl rfl | exact getAllT rfl (getAllC rfl rfl rfl rfl) | exact getAllC rfl rfl rfl (getAllC rfl rfl rfl rfl) | exact getAllC1 rfl rfl rfl), ?_⟩
 exact ⟨rfl, Ext0.ext⟩⟩
end Go.Am

set_option maxHeartbeats 4000000
set_option maxRecDepth 100000
namespace Go.Am
open Go
attribute [local irreducible] Wp WpO WpX WpE

instance K_count {p : AVal} {H : AHeap} {w h : Int} {l : List UInt8} [hp : BytesI H p l] : PureCon ext prog 97 [.agg [.int .i64 w, .int .i64 h, p]] H 2 (.int .i64 (l.count 1 : Nat)) := ⟨by
 refine con_of (show prog 97 = some c97 from rfl) rfl rfl fun n hn => ?_
 haveI := hp.one
 refine sq ?_
 refine rg fun KF hKF => ?_
 refine Fo.boxA rfl ?_
 refine mI rfl ?_
 refine WpO.nil (hKF _ _ ?_)
 refine sq ?_
 refine rg fun KF hKF => ?_
 refine Fo.fa rfl ?_
 refine Fo.ld rfl rfl ?_
 refine Fo.bslice rfl (by simp only [↓nrmL, nrmZ, Nat.reduceEqDiff, ↓reduceIte, Nat.reduceAdd, Int.reduceBEq, Int.reduceBNe]; rfl) ?_
 refine Fo.pcall (v' := ?_) hn rfl (by simp only [↓nrmL, nrmZ, Nat.reduceEqDiff, ↓reduceIte, Nat.reduceAdd, Int.reduceBEq, Int.reduceBNe, List.map]; rfl) rfl ?hv fun _ _ => ?_; case hv => rfl
 refine mI rfl ?_
 refine WpO.nil (hKF _ _ ?_)
 refine Wp.ret ?_
 dsimp only [cond_true, cond_false]
 refine ⟨trivial, _, (by first | rfl | exact getAllC rfl rfl rfl rfl | exact getAllT rfl (getAllC rfl rfl rfl rfl) | exact getAllC rfl rfl rfl (getAllC rfl rfl rfl rfl) | exact getAllC1 rfl rfl rfl), ?_⟩
 exact ⟨rfl, Ext0.ext⟩⟩

/-- The error of an image. -/
def Img.err (g : Img) : Int := bif g.sized then bif pxOk g.px then 0 else 3 else 2
instance K_Check {p : AVal} {H : AHeap} {w h : Int} {l : List UInt8} [hp : BytesI H p l] : PureCon ext prog 27 [.agg [.int .i64 w, .int .i64 h, p]] H 3 (.int .i64 (Img.err ⟨w, h, l⟩)) := ⟨by
 refine con_of (show prog 27 = some c27 from rfl) rfl rfl fun n hn => ?_
 haveI := hp.one
 unfold Img.err Img.sized sizedB
 cases h1 : (sideB w && sideB h && ((l.length : Nat) == IntKind.i64.wrap (w * h)))
 ·skip
  try simp only [↓nrmL, nrmZ, Nat.reduceEqDiff, ↓reduceIte, Nat.reduceAdd, Int.reduceBEq, Int.reduceBNe, h1]
  refine sq ?_
  refine rg fun KF hKF => ?_
  refine Fo.boxA rfl ?_
  refine mI rfl ?_
  refine WpO.nil (hKF _ _ ?_)
  refine sq ?_
  refine sq ?_
  refine rg fun KF hKF => ?_
  refine Fo.fa rfl ?_
  refine Fo.ld rfl rfl ?_
  refine Fo.fa rfl ?_
  refine Fo.ld rfl rfl ?_
  refine Fo.fa rfl ?_
  refine Fo.ld rfl rfl ?_
  refine Fo.len (v := ?_) (by simp only [↓nrmL, nrmK, Nat.reduceEqDiff, ↓reduceIte]; rfl) ?hv ?_; case hv => rfl
  refine Fo.pcall (v' := ?_) hn rfl (by simp only [↓nrmL, nrmZ, Nat.reduceEqDiff, ↓reduceIte, Nat.reduceAdd, Int.reduceBEq, Int.reduceBNe, h1, List.map]; rfl) rfl ?hv fun _ _ => ?_; case hv => (simp only [↓nrmL, nrmZ, Nat.reduceEqDiff, ↓reduceIte, Nat.reduceAdd, Int.reduceBEq, Int.reduceBNe, h1]; rfl)
  refine Fo.now rfl rfl (by simp only [↓nrmL, nrmZ, Nat.reduceEqDiff, ↓reduceIte, Nat.reduceAdd, Int.reduceBEq, Int.reduceBNe, h1]; rfl) ?_
  refine WpO.nil (hKF _ _ ?_)
  refine Wp.cond (b := true) rfl ?_
  refine sq ?_
  refine rg fun KF hKF => ?_
  refine mI rfl ?_
  refine WpO.nil (hKF _ _ ?_)
  refine Wp.ret ?_
  dsimp only [cond_true, cond_false]
  refine ⟨trivial, _, (by first | rfl | exact getAllC rfl rfl rfl rfl | exact getAllT rfl (getAllC rfl rfl rfl rfl) | exact getAllC rfl rfl rfl (getAllC rfl rfl rfl rfl) | exact getAllC1 rfl rfl rfl), ?_⟩
  exact ⟨rfl, Ext0.ext⟩
 ·obtain ⟨a, b, rfl, rfl, ha, hb, hl⟩ := sized_nat (n := l.length) h1
  have hm : a * b ≤ 640 * 640 := Nat.mul_le_mul ha hb
  have hc0 := count_le l 0
  have hc1 := count_le l 1
  have hw := wa (a := l.count 0) (b := l.count 1) (by omega)
  have h2 : (((l.count 0 + l.count 1 : Nat) : Int) != ((l.length : Nat) : Int)) = !(pxOk l) := by
   have := count01 l
   cases hp : pxOk l
   ·have : l.count 0 + l.count 1 ≠ l.length := fun e => by rw [this] at e; rw [hp] at e; cases e
    simp; omega
   ·have := this.2 hp
    simp [this]
  try simp only [↓nrmL, nrmZ, Nat.reduceEqDiff, ↓reduceIte, Nat.reduceAdd, Int.reduceBEq, Int.reduceBNe, h1]
  refine sq ?_
  refine rg fun KF hKF => ?_
  refine Fo.boxA rfl ?_
  refine mI rfl ?_
  refine WpO.nil (hKF _ _ ?_)
  refine sq ?_
  refine sq ?_
  refine rg fun KF hKF => ?_
  refine Fo.fa rfl ?_
  refine Fo.ld rfl rfl ?_
  refine Fo.fa rfl ?_
  refine Fo.ld rfl rfl ?_
  refine Fo.fa rfl ?_
  refine Fo.ld rfl rfl ?_
  refine Fo.len (v := ?_) (by simp only [↓nrmL, nrmK, Nat.reduceEqDiff, ↓reduceIte]; rfl) ?hv ?_; case hv => rfl
  refine Fo.pcall (v' := ?_) hn rfl (by simp only [↓nrmL, nrmZ, Nat.reduceEqDiff, ↓reduceIte, Nat.reduceAdd, Int.reduceBEq, Int.reduceBNe, h1, List.map]; rfl) rfl ?hv fun _ _ => ?_; case hv => (simp only [↓nrmL, nrmZ, Nat.reduceEqDiff, ↓reduceIte, Nat.reduceAdd, Int.reduceBEq, Int.reduceBNe, h1]; rfl)
  refine Fo.now rfl rfl (by simp only [↓nrmL, nrmZ, Nat.reduceEqDiff, ↓reduceIte, Nat.reduceAdd, Int.reduceBEq, Int.reduceBNe, h1]; rfl) ?_
  refine WpO.nil (hKF _ _ ?_)
  refine Wp.cond (b := false) rfl ?_
  refine Wp.skip ?_
  refine sq ?_
  refine sq ?_
  dsimp only [cond_true, cond_false]
  refine Fr.dregionE [.row [.int .u8 0] true (2 * 5)] ?_ fun KF hKF => ?_
  ·skip
   refine oracle_pre rfl rfl rfl rfl ?_; (try simp only [↓nrmL, nrmZ, Nat.reduceEqDiff, ↓reduceIte, Nat.reduceAdd, Int.reduceBEq, Int.reduceBNe])
   refine oracle_pre rfl rfl rfl (exec_ld rfl rfl) ?_; (try simp only [↓nrmL, nrmZ, Nat.reduceEqDiff, ↓reduceIte, Nat.reduceAdd, Int.reduceBEq, Int.reduceBNe])
   refine oracle_made rfl rfl rfl ?_; (try simp only [↓nrmL, nrmZ, Nat.reduceEqDiff, ↓reduceIte, Nat.reduceAdd, Int.reduceBEq, Int.reduceBNe])
   exact oracle_none _ _ _ _ rfl
  simp only [pushAll]
  try simp only [↓nrmL, nrmZ, Nat.reduceEqDiff, ↓reduceIte, Nat.reduceAdd, Int.reduceBEq, Int.reduceBNe, hw]
  refine Fe.pure rfl rfl (by simp only [↓nrmL, nrmZ, Nat.reduceEqDiff, ↓reduceIte, Nat.reduceAdd, Int.reduceBEq, Int.reduceBNe, hw]; rfl) ?_
  refine Fe.read rfl (exec_ld rfl rfl) rfl (by repeat (first | exact trivial | refine ⟨(by first | exact Or.inl (by dsimp only; decide) | exact Or.inr (exec_ld rfl rfl) | exact Or.inr (exec_ldN rfl rfl rfl) | exact Or.inr (exec_ldB rfl (by omega)) | exact Or.inr (exec_ldI rfl (by omega)) | exact Or.inr ghost_of), ?_⟩)) ?_
  refine Fe.made rfl rfl ghost_of (by repeat (first | exact trivial | refine ⟨(by first | exact Or.inl (by dsimp only; decide) | exact Or.inr (exec_ld rfl rfl) | exact Or.inr (exec_ldN rfl rfl rfl) | exact Or.inr (exec_ldB rfl (by omega)) | exact Or.inr (exec_ldI rfl (by omega)) | exact Or.inr ghost_of), ?_⟩)) rfl ?_
  refine Fe.pcall (v' := ?_) rfl hn rfl (by simp only [↓nrmL, nrmZ, Nat.reduceEqDiff, ↓reduceIte, Nat.reduceAdd, Int.reduceBEq, Int.reduceBNe, hw, List.map]; rfl) rfl ?hv fun _ _ => ⟨(by repeat (first | exact trivial | refine ⟨(by first | exact Or.inl (by dsimp only; decide) | exact Or.inr (readOk_of (exec_ld rfl rfl)) | exact Or.inr (readOk_of (exec_ldN rfl rfl rfl)) | exact Or.inr (readOk_of (exec_ldB rfl (by omega))) | exact Or.inr (readOk_of (exec_ldI rfl (by omega))) | exact Or.inr (made_of rfl)), ?_⟩)), ?_⟩; case hv => rfl
  refine Fe.read rfl (exec_ldN rfl rfl (by simp only [↓nrmL, nrmZ, Nat.reduceEqDiff, ↓reduceIte, Nat.reduceAdd, Int.reduceBEq, Int.reduceBNe, hw]; rfl)) rfl (by repeat (first | exact trivial | refine ⟨(by first | exact Or.inl (by dsimp only; decide) | exact Or.inr (exec_ld rfl rfl) | exact Or.inr (exec_ldN rfl rfl rfl) | exact Or.inr (exec_ldB rfl (by omega)) | exact Or.inr (exec_ldI rfl (by omega)) | exact Or.inr ghost_of), ?_⟩)) ?_
  refine Fe.pcall (v' := ?_) rfl hn rfl (by simp only [↓nrmL, nrmZ, Nat.reduceEqDiff, ↓reduceIte, Nat.reduceAdd, Int.reduceBEq, Int.reduceBNe, hw, List.map]; rfl) rfl ?hv fun _ _ => ⟨(by repeat (first | exact trivial | refine ⟨(by first | exact Or.inl (by dsimp only; decide) | exact Or.inr (readOk_of (exec_ld rfl rfl)) | exact Or.inr (readOk_of (exec_ldN rfl rfl rfl)) | exact Or.inr (readOk_of (exec_ldB rfl (by omega))) | exact Or.inr (readOk_of (exec_ldI rfl (by omega))) | exact Or.inr (made_of rfl)), ?_⟩)), ?_⟩; case hv => rfl
  refine Fe.pure rfl rfl (by simp only [↓nrmL, nrmZ, Nat.reduceEqDiff, ↓reduceIte, Nat.reduceAdd, Int.reduceBEq, Int.reduceBNe, hw]; rfl) ?_
  refine Fe.pure rfl rfl (by simp only [↓nrmL, nrmZ, Nat.reduceEqDiff, ↓reduceIte, Nat.reduceAdd, Int.reduceBEq, Int.reduceBNe, hw]; rfl) ?_
  refine Fe.read rfl (exec_ld rfl rfl) rfl (by repeat (first | exact trivial | refine ⟨(by first | exact Or.inl (by dsimp only; decide) | exact Or.inr (exec_ld rfl rfl) | exact Or.inr (exec_ldN rfl rfl rfl) | exact Or.inr (exec_ldB rfl (by omega)) | exact Or.inr (exec_ldI rfl (by omega)) | exact Or.inr ghost_of), ?_⟩)) ?_
  refine Fe.pure rfl (exec_lenP (by (try simp only [↓nrmL, nrmZ, Nat.reduceEqDiff, ↓reduceIte, Nat.reduceAdd, Int.reduceBEq, Int.reduceBNe, hw]); rfl)) rfl ?_
  refine Fe.pure rfl rfl rfl ?_
  refine WpE.nil (hKF _ _ ?_)
  cases hp2 : pxOk l
  ·rw [hp2] at h2
   try simp only [↓nrmL, nrmZ, Nat.reduceEqDiff, ↓reduceIte, Nat.reduceAdd, Int.reduceBEq, Int.reduceBNe, hw, h2]
   refine Wp.cond (b := true) rfl ?_
   refine sq ?_
   refine rg fun KF hKF => ?_
   refine mI rfl ?_
   refine WpO.nil (hKF _ _ ?_)
   refine Wp.ret ?_
   dsimp only [cond_true, cond_false]
   refine ⟨trivial, _, (by first | rfl | exact getAllC rfl rfl rfl rfl | exact getAllT rfl (getAllC rfl rfl rfl rfl) | exact getAllC rfl rfl rfl (getAllC rfl rfl rfl rfl) | exact getAllC1 rfl rfl rfl), ?_⟩
   exact ⟨rfl, Ext0.ext⟩
  ·rw [hp2] at h2
   try simp only [↓nrmL, nrmZ, Nat.reduceEqDiff, ↓reduceIte, Nat.reduceAdd, Int.reduceBEq, Int.reduceBNe, hw, h2]
   refine Wp.cond (b := false) rfl ?_
   refine Wp.skip ?_
   refine sq ?_
   refine rg fun KF hKF => ?_
   refine mI rfl ?_
   refine WpO.nil (hKF _ _ ?_)
   refine Wp.ret ?_
   dsimp only [cond_true, cond_false]
   refine ⟨trivial, _, (by first | rfl | exact getAllC rfl rfl rfl rfl | exact getAllT rfl (getAllC rfl rfl rfl rfl) | exact getAllC rfl rfl rfl (getAllC rfl rfl rfl rfl) | exact getAllC1 rfl rfl rfl), ?_⟩
   exact ⟨rfl, Ext0.ext⟩⟩
end Go.Am

set_option maxHeartbeats 4000000
set_option maxRecDepth 100000
namespace Go.Am
open Go
attribute [local irreducible] Wp WpO WpX WpE

theorem K_Clone {H : AHeap} {p : AVal} {l : List UInt8} [hp : BytesI H p l] (hl : l.length < 2 ^ 40) : Con ext prog 1 127 [p] H fun v H' => NewBytes H H' v l := by
 refine con_of (show prog 127 = some c127 from rfl) rfl rfl fun n hn => ?_
 rcases hp.it with ⟨rfl, h0, _⟩ | ⟨r, off, cap, row, rw, e, rfl, hr, hg, hle, hc, _⟩
 ·have : l = [] := List.eq_nil_of_length_eq_zero h0
  subst this
  refine sq ?_
  refine rg fun KF hKF => ?_
  refine mN rfl ?_
  refine WpO.nil (hKF _ _ ?_)
  refine sq ?_
  refine sq ?_
  refine rg fun KF hKF => ?_
  refine mN rfl ?_
  refine Fo.now rfl rfl (by simp only [↓nrmL, nrmZ, Nat.reduceEqDiff, ↓reduceIte]; rfl) ?_
  refine WpO.nil (hKF _ _ ?_)
  refine Wp.cond (b := true) rfl ?_
  refine sq ?_
  refine rg fun KF hKF => ?_
  refine mN rfl ?_
  refine WpO.nil (hKF _ _ ?_)
  refine Wp.ret ?_
  dsimp only [cond_true, cond_false]
  refine ⟨trivial, _, rfl, ?_⟩
  exact (show NewBytes H H .nslice [] from ⟨inferInstance, ⟨fun _ _ _ _ _ e => by cases e⟩, ⟨fun _ _ _ _ _ e => by cases e⟩, Ext0.ext⟩)
 ·skip
  refine sq ?_
  refine rg fun KF hKF => ?_
  refine mN rfl ?_
  refine WpO.nil (hKF _ _ ?_)
  refine sq ?_
  refine sq ?_
  refine rg fun KF hKF => ?_
  refine Fo.mov (by simp only [↓nrmL, nrmK, Nat.reduceEqDiff, ↓reduceIte]; rfl) ?_
  refine Fo.now rfl rfl (by simp only [↓nrmL, nrmZ, Nat.reduceEqDiff, ↓reduceIte]; rfl) ?_
  refine WpO.nil (hKF _ _ ?_)
  refine Wp.cond (b := false) rfl ?_
  refine Wp.skip ?_
  refine sq ?_
  refine rg fun KF hKF => ?_
  refine Fo.bslice rfl rfl ?_
  refine Fo.mov (by simp only [↓nrmL, nrmK, Nat.reduceEqDiff, ↓reduceIte]; rfl) ?_
  refine WpO.do (WpX.appendE rfl (by simp only [↓nrmL, nrmZ, Nat.reduceEqDiff, ↓reduceIte, List.map] <;> rfl) hl fun v H1 h1 h2 h3 h4 => ?_)
  refine Fo.mov (by simp only [↓nrmL, nrmK, Nat.reduceEqDiff, ↓reduceIte]; rfl) ?_
  refine WpO.nil (hKF _ _ ?_)
  refine Wp.ret ?_
  dsimp only [cond_true, cond_false]
  refine ⟨trivial, _, rfl, ?_⟩
  refine (show NewBytes H H1 v l from ⟨h1, ⟨fun r' _ _ _ _ e => ?_⟩, h3, Ext0.ext⟩)
  rcases h2 _ _ _ _ _ e with rfl | h5
  ·exact Nat.le_refl _
  ·exact Nat.le_trans (Nat.le_succ _) h5

theorem K_twin {H : AHeap} {a b : Int} {p : AVal} {l : List UInt8} [hp : BytesI H p l] (hl : l.length < 2 ^ 40) : Con ext prog 2 98 [.agg [.int .i64 a, .int .i64 b, p]] H fun v H' => NewInk H H' v ⟨a, b, l⟩ := by
 refine con_of (show prog 98 = some c98 from rfl) rfl rfl fun n hn => ?_
 haveI := hp.one
 refine sq ?_
 refine rg fun KF hKF => ?_
 refine Fo.boxA rfl ?_
 refine Fo.new ?_
 refine WpO.nil (hKF _ _ ?_)
 refine sq ?_
 refine Fr.dregion0 rfl fun KF hKF => ?_
 refine Fe.pure rfl rfl (by simp only [↓nrmL, nrmZ, Nat.reduceEqDiff, ↓reduceIte]; rfl) ?_
 refine Fe.read rfl (exec_ld rfl rfl) rfl (by repeat (first | exact trivial | refine ⟨(by first | exact Or.inl (by dsimp only; decide) | exact Or.inr (exec_ld rfl rfl) | exact Or.inr (exec_ldN rfl rfl rfl) | exact Or.inr (exec_ldB rfl (by omega)) | exact Or.inr (exec_ldI rfl (by omega)) | exact Or.inr ghost_of), ?_⟩)) ?_
 refine Fe.pure rfl rfl (by simp only [↓nrmL, nrmZ, Nat.reduceEqDiff, ↓reduceIte]; rfl) ?_
 refine Fe.read rfl (exec_ld rfl rfl) rfl (by repeat (first | exact trivial | refine ⟨(by first | exact Or.inl (by dsimp only; decide) | exact Or.inr (exec_ld rfl rfl) | exact Or.inr (exec_ldN rfl rfl rfl) | exact Or.inr (exec_ldB rfl (by omega)) | exact Or.inr (exec_ldI rfl (by omega)) | exact Or.inr ghost_of), ?_⟩)) ?_
 refine Fe.pure rfl rfl (by simp only [↓nrmL, nrmZ, Nat.reduceEqDiff, ↓reduceIte]; rfl) ?_
 refine Fe.read rfl (exec_ld rfl rfl) rfl (by repeat (first | exact trivial | refine ⟨(by first | exact Or.inl (by dsimp only; decide) | exact Or.inr (exec_ld rfl rfl) | exact Or.inr (exec_ldN rfl rfl rfl) | exact Or.inr (exec_ldB rfl (by omega)) | exact Or.inr (exec_ldI rfl (by omega)) | exact Or.inr ghost_of), ?_⟩)) ?_
 refine Fe.con rfl hn rfl rfl (by simp only [↓nrmL, nrmZ, Nat.reduceEqDiff, ↓reduceIte, List.map] <;> rfl) (K_Clone hl) fun v H1 ⟨h1, h2, h3, h4⟩ => ?_
 haveI : ExtI _ H1 := ⟨h4⟩
 haveI := h1.one
 refine ⟨(by repeat (first | exact trivial | refine ⟨(by first | exact Or.inl (by dsimp only; decide) | exact Or.inr (readOk_of (exec_ld rfl rfl)) | exact Or.inr (readOk_of (exec_ldN rfl rfl rfl)) | exact Or.inr (readOk_of (exec_ldB rfl (by omega))) | exact Or.inr (readOk_of (exec_ldI rfl (by omega))) | exact Or.inr (made_of rfl)), ?_⟩)), ?_⟩
 refine Fe.pure rfl (exec_build (by repeat (first | refine aFill1 (by (try simp only [↓nrmL, nrmZ, Nat.reduceEqDiff, ↓reduceIte]); rfl) rfl ?_ | rfl))) (by simp only [↓nrmL, nrmZ, Nat.reduceEqDiff, ↓reduceIte]; rfl) ?_
 refine Fe.effect0 rfl (exec_st rfl (by (try simp only [↓nrmL, nrmZ, Nat.reduceEqDiff, ↓reduceIte]); rfl) rfl rfl rfl (by repeat (first | rfl | refine allOne_cons ?_)) (by (try simp only [↓nrmL, nrmZ, Nat.reduceEqDiff, ↓reduceIte]); rfl)) (by repeat (first | exact trivial | refine ⟨(by first | exact Or.inl (by dsimp only; decide) | exact Or.inr (readOk_of (exec_ld rfl rfl)) | exact Or.inr (readOk_of (exec_ldN rfl rfl rfl)) | exact Or.inr (readOk_of (exec_ldB rfl (by omega))) | exact Or.inr (readOk_of (exec_ldI rfl (by omega))) | exact Or.inr (made_of rfl)), ?_⟩)) ?_
 refine WpE.nil (hKF _ _ ?_)
 refine Wp.ret ?_
 dsimp only [cond_true, cond_false]
 refine ⟨trivial, _, (getAllC rfl rfl rfl rfl), ?_⟩
 exact ⟨v, rfl, inferInstance, h2.weak, inferInstance, Ext0.ext⟩
theorem K_CopyInk {H : AHeap} {a b : Int} {p : AVal} {l : List UInt8} [hp : BytesI H p l] (hl : l.length < 2 ^ 40) : Con ext prog 2 20 [.agg [.int .i64 a, .int .i64 b, p]] H fun v H' => NewInk H H' v ⟨a, b, l⟩ := by
 refine con_of (show prog 20 = some c20 from rfl) rfl rfl fun n hn => ?_
 haveI := hp.one
 refine sq ?_
 refine rg fun KF hKF => ?_
 refine Fo.boxA rfl ?_
 refine Fo.new ?_
 refine WpO.nil (hKF _ _ ?_)
 refine sq ?_
 refine Fr.dregion0 rfl fun KF hKF => ?_
 refine Fe.pure rfl rfl (by simp only [↓nrmL, nrmZ, Nat.reduceEqDiff, ↓reduceIte]; rfl) ?_
 refine Fe.read rfl (exec_ld rfl rfl) rfl (by repeat (first | exact trivial | refine ⟨(by first | exact Or.inl (by dsimp only; decide) | exact Or.inr (exec_ld rfl rfl) | exact Or.inr (exec_ldN rfl rfl rfl) | exact Or.inr (exec_ldB rfl (by omega)) | exact Or.inr (exec_ldI rfl (by omega)) | exact Or.inr ghost_of), ?_⟩)) ?_
 refine Fe.pure rfl rfl (by simp only [↓nrmL, nrmZ, Nat.reduceEqDiff, ↓reduceIte]; rfl) ?_
 refine Fe.read rfl (exec_ld rfl rfl) rfl (by repeat (first | exact trivial | refine ⟨(by first | exact Or.inl (by dsimp only; decide) | exact Or.inr (exec_ld rfl rfl) | exact Or.inr (exec_ldN rfl rfl rfl) | exact Or.inr (exec_ldB rfl (by omega)) | exact Or.inr (exec_ldI rfl (by omega)) | exact Or.inr ghost_of), ?_⟩)) ?_
 refine Fe.pure rfl rfl (by simp only [↓nrmL, nrmZ, Nat.reduceEqDiff, ↓reduceIte]; rfl) ?_
 refine Fe.read rfl (exec_ld rfl rfl) rfl (by repeat (first | exact trivial | refine ⟨(by first | exact Or.inl (by dsimp only; decide) | exact Or.inr (exec_ld rfl rfl) | exact Or.inr (exec_ldN rfl rfl rfl) | exact Or.inr (exec_ldB rfl (by omega)) | exact Or.inr (exec_ldI rfl (by omega)) | exact Or.inr ghost_of), ?_⟩)) ?_
 refine Fe.con rfl hn rfl rfl (by simp only [↓nrmL, nrmZ, Nat.reduceEqDiff, ↓reduceIte, List.map] <;> rfl) (K_CopyBytes hl) fun v H1 ⟨h1, h2, h3, h4⟩ => ?_
 haveI : ExtI _ H1 := ⟨h4⟩
 haveI := h1.one
 refine ⟨(by repeat (first | exact trivial | refine ⟨(by first | exact Or.inl (by dsimp only; decide) | exact Or.inr (readOk_of (exec_ld rfl rfl)) | exact Or.inr (readOk_of (exec_ldN rfl rfl rfl)) | exact Or.inr (readOk_of (exec_ldB rfl (by omega))) | exact Or.inr (readOk_of (exec_ldI rfl (by omega))) | exact Or.inr (made_of rfl)), ?_⟩)), ?_⟩
 refine Fe.pure rfl (exec_build (by repeat (first | refine aFill1 (by (try simp only [↓nrmL, nrmZ, Nat.reduceEqDiff, ↓reduceIte]); rfl) rfl ?_ | rfl))) (by simp only [↓nrmL, nrmZ, Nat.reduceEqDiff, ↓reduceIte]; rfl) ?_
 refine Fe.effect0 rfl (exec_st rfl (by (try simp only [↓nrmL, nrmZ, Nat.reduceEqDiff, ↓reduceIte]); rfl) rfl rfl rfl (by repeat (first | rfl | refine allOne_cons ?_)) (by (try simp only [↓nrmL, nrmZ, Nat.reduceEqDiff, ↓reduceIte]); rfl)) (by repeat (first | exact trivial | refine ⟨(by first | exact Or.inl (by dsimp only; decide) | exact Or.inr (readOk_of (exec_ld rfl rfl)) | exact Or.inr (readOk_of (exec_ldN rfl rfl rfl)) | exact Or.inr (readOk_of (exec_ldB rfl (by omega))) | exact Or.inr (readOk_of (exec_ldI rfl (by omega))) | exact Or.inr (made_of rfl)), ?_⟩)) ?_
 refine WpE.nil (hKF _ _ ?_)
 refine Wp.ret ?_
 dsimp only [cond_true, cond_false]
 refine ⟨trivial, _, (getAllC rfl rfl rfl rfl), ?_⟩
 exact ⟨v, rfl, inferInstance, h2.weak, inferInstance, Ext0.ext⟩

end Go.Am

set_option maxHeartbeats 4000000
set_option maxRecDepth 100000
namespace Go.Am
open Go
attribute [local irreducible] Wp WpO WpX WpE

theorem Img.ok {g : Img} (h : (g.err == 0) = true) : g.sized = true ∧ pxOk g.px = true := by
 unfold Img.err at h
 cases h1 : g.sized
 ·rw [h1] at h; cases h
 ·cases h2 : pxOk g.px
  ·rw [h1, h2] at h; cases h
  ·exact ⟨rfl, rfl⟩

end Go.Am

set_option maxHeartbeats 4000000
set_option maxRecDepth 100000
namespace Go.Am
open Go
attribute [local irreducible] Wp WpO WpX WpE

/-- A function of two pixels. -/
class PixFn (F : FuncId) (op : outParam (UInt8 → UInt8 → UInt8)) : Prop where
 con : ∀ (a b : UInt8) (H : AHeap), PureCon ext prog F [.int .u8 (a.toNat : Int), .int .u8 (b.toNat : Int)] H 1 (.int .u8 ((op a b).toNat : Int))
instance {F : FuncId} {op : UInt8 → UInt8 → UInt8} {a b : UInt8} {H : AHeap} [h : PixFn F op] : PureCon ext prog F [.int .u8 (a.toNat : Int), .int .u8 (b.toNat : Int)] H 1 (.int .u8 ((op a b).toNat : Int)) := h.con a b H

instance pixDistance : PixFn 101 (· ^^^ ·) := ⟨fun a b H => ⟨by
 refine con_of (show prog 101 = some c101 from rfl) rfl rfl fun n hn => ?_
 have h1 := bits_xor a b
 try simp only [↓nrmL, nrmZ, Nat.reduceEqDiff, ↓reduceIte, h1]
 refine sq ?_
 refine rg fun KF hKF => ?_
 refine mI rfl ?_
 refine WpO.nil (hKF _ _ ?_)
 refine sq ?_
 refine rg fun KF hKF => ?_
 refine mI rfl ?_
 refine mI rfl ?_
 refine Fo.bin rfl rfl rfl (by simp only [↓nrmL, nrmZ, Nat.reduceEqDiff, ↓reduceIte, h1]; rfl) ?_
 refine mI rfl ?_
 refine WpO.nil (hKF _ _ ?_)
 refine Wp.ret ?_
 dsimp only [cond_true, cond_false]
 refine ⟨trivial, _, rfl, ?_⟩
 exact ⟨rfl, Ext0.ext⟩⟩⟩
instance pixOr : PixFn 147 (· ||| ·) := ⟨fun a b H => ⟨by
 refine con_of (show prog 147 = some c147 from rfl) rfl rfl fun n hn => ?_
 have h1 := bits_or a b
 try simp only [↓nrmL, nrmZ, Nat.reduceEqDiff, ↓reduceIte, h1]
 refine sq ?_
 refine rg fun KF hKF => ?_
 refine mI rfl ?_
 refine WpO.nil (hKF _ _ ?_)
 refine sq ?_
 refine rg fun KF hKF => ?_
 refine mI rfl ?_
 refine mI rfl ?_
 refine Fo.bin rfl rfl rfl (by simp only [↓nrmL, nrmZ, Nat.reduceEqDiff, ↓reduceIte, h1]; rfl) ?_
 refine mI rfl ?_
 refine WpO.nil (hKF _ _ ?_)
 refine Wp.ret ?_
 dsimp only [cond_true, cond_false]
 refine ⟨trivial, _, rfl, ?_⟩
 exact ⟨rfl, Ext0.ext⟩⟩⟩
instance pixAnd : PixFn 148 (· &&& ·) := ⟨fun a b H => ⟨by
 refine con_of (show prog 148 = some c148 from rfl) rfl rfl fun n hn => ?_
 have h1 := bits_and a b
 try simp only [↓nrmL, nrmZ, Nat.reduceEqDiff, ↓reduceIte, h1]
 refine sq ?_
 refine rg fun KF hKF => ?_
 refine mI rfl ?_
 refine WpO.nil (hKF _ _ ?_)
 refine sq ?_
 refine rg fun KF hKF => ?_
 refine mI rfl ?_
 refine mI rfl ?_
 refine Fo.bin rfl rfl rfl (by simp only [↓nrmL, nrmZ, Nat.reduceEqDiff, ↓reduceIte, h1]; rfl) ?_
 refine mI rfl ?_
 refine WpO.nil (hKF _ _ ?_)
 refine Wp.ret ?_
 dsimp only [cond_true, cond_false]
 refine ⟨trivial, _, rfl, ?_⟩
 exact ⟨rfl, Ext0.ext⟩⟩⟩
instance pixLess : PixFn 149 (fun a b => a &&& ~~~b) := ⟨fun a b H => ⟨by
 refine con_of (show prog 149 = some c149 from rfl) rfl rfl fun n hn => ?_
 have h1 := bits_andNot a b
 try simp only [↓nrmL, nrmZ, Nat.reduceEqDiff, ↓reduceIte, h1]
 refine sq ?_
 refine rg fun KF hKF => ?_
 refine mI rfl ?_
 refine WpO.nil (hKF _ _ ?_)
 refine sq ?_
 refine rg fun KF hKF => ?_
 refine mI rfl ?_
 refine mI rfl ?_
 refine Fo.bin rfl rfl rfl (by simp only [↓nrmL, nrmZ, Nat.reduceEqDiff, ↓reduceIte, h1]; rfl) ?_
 refine mI rfl ?_
 refine WpO.nil (hKF _ _ ?_)
 refine Wp.ret ?_
 dsimp only [cond_true, cond_false]
 refine ⟨trivial, _, rfl, ?_⟩
 exact ⟨rfl, Ext0.ext⟩⟩⟩

end Go.Am

set_option maxHeartbeats 4000000
set_option maxRecDepth 100000
namespace Go.Am
open Go
attribute [local irreducible] Wp WpO WpX WpE

/-- Is a pixel ink? -/
def inkB (w h : Int) (l : List UInt8) (x y : Int) : Bool := decide (x ≥ 0) && (decide (x < w) && (decide (y ≥ 0) && (decide (y < h) && (l.getD (y * w + x).toNat 0 == 1))))
theorem inkB_nat {a b x y : Nat} {l : List UInt8} (hx : x < a) (hy : y < b) : inkB a b l x y = (l.getD (y * a + x) 0 == 1) := by
 have e : ((y : Int) * (a : Int) + (x : Int)).toNat = y * a + x := by rw [← Int.natCast_mul, ← Int.natCast_add]; rfl
 have h1 : decide ((x : Int) ≥ 0) = true := decide_eq_true (by omega)
 have h2 : decide ((x : Int) < (a : Int)) = true := decide_eq_true (by omega)
 have h3 : decide ((y : Int) ≥ 0) = true := decide_eq_true (by omega)
 have h4 : decide ((y : Int) < (b : Int)) = true := decide_eq_true (by omega)
 simp only [inkB, h1, h2, h3, h4, e, Bool.true_and]
/-- The sides and the number of pixels fit. -/
class Fits (w h : Int) (l : List UInt8) : Prop where
 it : sizedB w h l.length = true
theorem u8_one (c : UInt8) : (((c.toNat : Nat) : Int) == 1) = (c == 1) := by
 by_cases h : c = 1
 ·subst h; rfl
 ·have h2 : c.toNat ≠ 1 := fun e => h (UInt8.toNat_inj.1 e)
  have h1 : (c == 1) = false := by simpa using h
  rw [h1]
  simp only [beq_eq_false_iff_ne, ne_eq]
  omega
theorem u8_zero (c : UInt8) : (((c.toNat : Nat) : Int) == 0) = (c == 0) := by
 by_cases h : c = 0
 ·subst h; rfl
 ·have h2 : c.toNat ≠ 0 := fun e => h (UInt8.toNat_inj.1 e)
  have h1 : (c == 0) = false := by simpa using h
  rw [h1]
  simp only [beq_eq_false_iff_ne, ne_eq]
  omega

instance K_refInk {p : AVal} {H : AHeap} {w h x y : Int} {l : List UInt8} [hp : BytesI H p l] [hs : Fits w h l] : PureCon ext prog 35 [.agg [.int .i64 w, .int .i64 h, p], .int .i64 x, .int .i64 y] H 1 (.bool (inkB w h l x y)) := ⟨by
 refine con_of (show prog 35 = some c35 from rfl) rfl rfl fun n hn => ?_
 haveI := hp.one
 obtain ⟨a, b, rfl, rfl, ha, hb, hl⟩ := sized_nat hs.it
 have hm : a * b ≤ 640 * 640 := Nat.mul_le_mul ha hb
 cases h1 : decide (x ≥ 0)
 ·have e : inkB a b l x y = false := by simp only [inkB, h1, Bool.false_and]
  rw [e]
  try simp only [↓nrmL, nrmZ, Nat.reduceEqDiff, ↓reduceIte, h1]
  refine sq ?_
  refine rg fun KF hKF => ?_
  refine Fo.boxA rfl ?_
  refine mB rfl ?_
  refine WpO.nil (hKF _ _ ?_)
  refine sq ?_
  refine rg fun KF hKF => ?_
  refine mI rfl ?_
  refine Fo.bin rfl rfl rfl (by simp only [↓nrmL, nrmZ, Nat.reduceEqDiff, ↓reduceIte, h1]; rfl) ?_
  refine mB rfl ?_
  refine Fo.no rfl rfl ?_
  refine Fo.no rfl rfl ?_
  refine Fo.no rfl rfl ?_
  refine Fo.no rfl rfl ?_
  refine fB rfl rfl ?_
  refine mB rfl ?_
  refine Fo.no rfl rfl ?_
  refine Fo.no rfl rfl ?_
  refine fB rfl rfl ?_
  refine mB rfl ?_
  refine Fo.no rfl rfl ?_
  refine Fo.no rfl rfl ?_
  refine Fo.no rfl rfl ?_
  refine Fo.no rfl rfl ?_
  refine fB rfl rfl ?_
  refine mB rfl ?_
  refine Fo.no rfl rfl ?_
  refine Fo.no rfl rfl ?_
  refine Fo.no rfl rfl ?_
  refine Fo.no rfl rfl ?_
  refine Fo.no rfl rfl ?_
  refine Fo.no rfl rfl ?_
  refine Fo.no rfl rfl ?_
  refine Fo.no rfl rfl ?_
  refine Fo.no rfl rfl ?_
  refine Fo.no rfl rfl ?_
  refine Fo.no rfl rfl ?_
  refine fB rfl rfl ?_
  refine mB rfl ?_
  refine WpO.nil (hKF _ _ ?_)
  refine Wp.ret ?_
  dsimp only [cond_true, cond_false]
  refine ⟨trivial, _, rfl, ?_⟩
  exact ⟨rfl, Ext0.ext⟩
 cases h2 : decide (x < (a : Int))
 ·have e : inkB a b l x y = false := by simp only [inkB, h1, h2, Bool.false_and, Bool.and_false]
  rw [e]
  try simp only [↓nrmL, nrmZ, Nat.reduceEqDiff, ↓reduceIte, h1, h2]
  refine sq ?_
  refine rg fun KF hKF => ?_
  refine Fo.boxA rfl ?_
  refine mB rfl ?_
  refine WpO.nil (hKF _ _ ?_)
  refine sq ?_
  refine rg fun KF hKF => ?_
  refine mI rfl ?_
  refine Fo.bin rfl rfl rfl (by simp only [↓nrmL, nrmZ, Nat.reduceEqDiff, ↓reduceIte, h1, h2]; rfl) ?_
  refine mB rfl ?_
  refine Fo.yes rfl rfl ?_
  refine mI rfl ?_
  refine Fo.yes rfl rfl ?_
  refine Fo.fa rfl ?_
  refine Fo.yes rfl rfl ?_
  refine Fo.ld rfl rfl ?_
  refine Fo.yes rfl rfl ?_
  refine Fo.bin rfl rfl rfl (by simp only [↓nrmL, nrmZ, Nat.reduceEqDiff, ↓reduceIte, h1, h2]; rfl) ?_
  refine tB rfl rfl ?_
  refine mB rfl ?_
  refine Fo.no rfl rfl ?_
  refine Fo.no rfl rfl ?_
  refine fB rfl rfl ?_
  refine mB rfl ?_
  refine Fo.no rfl rfl ?_
  refine Fo.no rfl rfl ?_
  refine Fo.no rfl rfl ?_
  refine Fo.no rfl rfl ?_
  refine fB rfl rfl ?_
  refine mB rfl ?_
  refine Fo.no rfl rfl ?_
  refine Fo.no rfl rfl ?_
  refine Fo.no rfl rfl ?_
  refine Fo.no rfl rfl ?_
  refine Fo.no rfl rfl ?_
  refine Fo.no rfl rfl ?_
  refine Fo.no rfl rfl ?_
  refine Fo.no rfl rfl ?_
  refine Fo.no rfl rfl ?_
  refine Fo.no rfl rfl ?_
  refine Fo.no rfl rfl ?_
  refine fB rfl rfl ?_
  refine mB rfl ?_
  refine WpO.nil (hKF _ _ ?_)
  refine Wp.ret ?_
  dsimp only [cond_true, cond_false]
  refine ⟨trivial, _, rfl, ?_⟩
  exact ⟨rfl, Ext0.ext⟩
 cases h3 : decide (y ≥ 0)
 ·have e : inkB a b l x y = false := by simp only [inkB, h1, h2, h3, Bool.false_and, Bool.and_false]
  rw [e]
  try simp only [↓nrmL, nrmZ, Nat.reduceEqDiff, ↓reduceIte, h1, h2, h3]
  refine sq ?_
  refine rg fun KF hKF => ?_
  refine Fo.boxA rfl ?_
  refine mB rfl ?_
  refine WpO.nil (hKF _ _ ?_)
  refine sq ?_
  refine rg fun KF hKF => ?_
  refine mI rfl ?_
  refine Fo.bin rfl rfl rfl (by simp only [↓nrmL, nrmZ, Nat.reduceEqDiff, ↓reduceIte, h1, h2, h3]; rfl) ?_
  refine mB rfl ?_
  refine Fo.yes rfl rfl ?_
  refine mI rfl ?_
  refine Fo.yes rfl rfl ?_
  refine Fo.fa rfl ?_
  refine Fo.yes rfl rfl ?_
  refine Fo.ld rfl rfl ?_
  refine Fo.yes rfl rfl ?_
  refine Fo.bin rfl rfl rfl (by simp only [↓nrmL, nrmZ, Nat.reduceEqDiff, ↓reduceIte, h1, h2, h3]; rfl) ?_
  refine tB rfl rfl ?_
  refine mB rfl ?_
  refine Fo.yes rfl rfl ?_
  refine mI rfl ?_
  refine Fo.yes rfl rfl ?_
  refine Fo.bin rfl rfl rfl (by simp only [↓nrmL, nrmZ, Nat.reduceEqDiff, ↓reduceIte, h1, h2, h3]; rfl) ?_
  refine tB rfl rfl ?_
  refine mB rfl ?_
  refine Fo.no rfl rfl ?_
  refine Fo.no rfl rfl ?_
  refine Fo.no rfl rfl ?_
  refine Fo.no rfl rfl ?_
  refine fB rfl rfl ?_
  refine mB rfl ?_
  refine Fo.no rfl rfl ?_
  refine Fo.no rfl rfl ?_
  refine Fo.no rfl rfl ?_
  refine Fo.no rfl rfl ?_
  refine Fo.no rfl rfl ?_
  refine Fo.no rfl rfl ?_
  refine Fo.no rfl rfl ?_
  refine Fo.no rfl rfl ?_
  refine Fo.no rfl rfl ?_
  refine Fo.no rfl rfl ?_
  refine Fo.no rfl rfl ?_
  refine fB rfl rfl ?_
  refine mB rfl ?_
  refine WpO.nil (hKF _ _ ?_)
  refine Wp.ret ?_
  dsimp only [cond_true, cond_false]
  refine ⟨trivial, _, rfl, ?_⟩
  exact ⟨rfl, Ext0.ext⟩
 cases h4 : decide (y < (b : Int))
 ·have e : inkB a b l x y = false := by simp only [inkB, h1, h2, h3, h4, Bool.false_and, Bool.and_false]
  rw [e]
  try simp only [↓nrmL, nrmZ, Nat.reduceEqDiff, ↓reduceIte, h1, h2, h3, h4]
  refine sq ?_
  refine rg fun KF hKF => ?_
  refine Fo.boxA rfl ?_
  refine mB rfl ?_
  refine WpO.nil (hKF _ _ ?_)
  refine sq ?_
  refine rg fun KF hKF => ?_
  refine mI rfl ?_
  refine Fo.bin rfl rfl rfl (by simp only [↓nrmL, nrmZ, Nat.reduceEqDiff, ↓reduceIte, h1, h2, h3, h4]; rfl) ?_
  refine mB rfl ?_
  refine Fo.yes rfl rfl ?_
  refine mI rfl ?_
  refine Fo.yes rfl rfl ?_
  refine Fo.fa rfl ?_
  refine Fo.yes rfl rfl ?_
  refine Fo.ld rfl rfl ?_
  refine Fo.yes rfl rfl ?_
  refine Fo.bin rfl rfl rfl (by simp only [↓nrmL, nrmZ, Nat.reduceEqDiff, ↓reduceIte, h1, h2, h3, h4]; rfl) ?_
  refine tB rfl rfl ?_
  refine mB rfl ?_
  refine Fo.yes rfl rfl ?_
  refine mI rfl ?_
  refine Fo.yes rfl rfl ?_
  refine Fo.bin rfl rfl rfl (by simp only [↓nrmL, nrmZ, Nat.reduceEqDiff, ↓reduceIte, h1, h2, h3, h4]; rfl) ?_
  refine tB rfl rfl ?_
  refine mB rfl ?_
  refine Fo.yes rfl rfl ?_
  refine mI rfl ?_
  refine Fo.yes rfl rfl ?_
  refine Fo.fa rfl ?_
  refine Fo.yes rfl rfl ?_
  refine Fo.ld rfl rfl ?_
  refine Fo.yes rfl rfl ?_
  refine Fo.bin rfl rfl rfl (by simp only [↓nrmL, nrmZ, Nat.reduceEqDiff, ↓reduceIte, h1, h2, h3, h4]; rfl) ?_
  refine tB rfl rfl ?_
  refine mB rfl ?_
  refine Fo.no rfl rfl ?_
  refine Fo.no rfl rfl ?_
  refine Fo.no rfl rfl ?_
  refine Fo.no rfl rfl ?_
  refine Fo.no rfl rfl ?_
  refine Fo.no rfl rfl ?_
  refine Fo.no rfl rfl ?_
  refine Fo.no rfl rfl ?_
  refine Fo.no rfl rfl ?_
  refine Fo.no rfl rfl ?_
  refine Fo.no rfl rfl ?_
  refine fB rfl rfl ?_
  refine mB rfl ?_
  refine WpO.nil (hKF _ _ ?_)
  refine Wp.ret ?_
  dsimp only [cond_true, cond_false]
  refine ⟨trivial, _, rfl, ?_⟩
  exact ⟨rfl, Ext0.ext⟩
 obtain ⟨x, rfl⟩ : ∃ k : Nat, x = k := ⟨x.toNat, by have := of_decide_eq_true h1; omega⟩
 obtain ⟨y, rfl⟩ : ∃ k : Nat, y = k := ⟨y.toNat, by have := of_decide_eq_true h3; omega⟩
 have hx : x < a := by have := of_decide_eq_true h2; omega
 have hy : y < b := by have := of_decide_eq_true h4; omega
 have hlt := idx_lt hx hy
 have hil : y * a + x < l.length := by omega
 have h5 : IntKind.i64.wrap ((y : Int) * (a : Int)) = ((y * a : Nat) : Int) := wm (by omega)
 have h6 : IntKind.i64.wrap (((y * a : Nat) : Int) + (x : Int)) = ((y * a + x : Nat) : Int) := wa (by omega)
 have e : inkB a b l x y = (l[y * a + x] == 1) := by rw [inkB_nat hx hy]; simp [hil]
 rw [e]
 try simp only [↓nrmL, nrmZ, Nat.reduceEqDiff, ↓reduceIte, h1, h2, h3, h4, h5, h6, u8_one]
 refine sq ?_
 refine rg fun KF hKF => ?_
 refine Fo.boxA rfl ?_
 refine mB rfl ?_
 refine WpO.nil (hKF _ _ ?_)
 refine sq ?_
 refine rg fun KF hKF => ?_
 refine mI rfl ?_
 refine Fo.bin rfl rfl rfl (by simp only [↓nrmL, nrmZ, Nat.reduceEqDiff, ↓reduceIte, h1, h2, h3, h4, h5, h6, u8_one]; rfl) ?_
 refine mB rfl ?_
 refine Fo.yes rfl rfl ?_
 refine mI rfl ?_
 refine Fo.yes rfl rfl ?_
 refine Fo.fa rfl ?_
 refine Fo.yes rfl rfl ?_
 refine Fo.ld rfl rfl ?_
 refine Fo.yes rfl rfl ?_
 refine Fo.bin rfl rfl rfl (by simp only [↓nrmL, nrmZ, Nat.reduceEqDiff, ↓reduceIte, h1, h2, h3, h4, h5, h6, u8_one]; rfl) ?_
 refine tB rfl rfl ?_
 refine mB rfl ?_
 refine Fo.yes rfl rfl ?_
 refine mI rfl ?_
 refine Fo.yes rfl rfl ?_
 refine Fo.bin rfl rfl rfl (by simp only [↓nrmL, nrmZ, Nat.reduceEqDiff, ↓reduceIte, h1, h2, h3, h4, h5, h6, u8_one]; rfl) ?_
 refine tB rfl rfl ?_
 refine mB rfl ?_
 refine Fo.yes rfl rfl ?_
 refine mI rfl ?_
 refine Fo.yes rfl rfl ?_
 refine Fo.fa rfl ?_
 refine Fo.yes rfl rfl ?_
 refine Fo.ld rfl rfl ?_
 refine Fo.yes rfl rfl ?_
 refine Fo.bin rfl rfl rfl (by simp only [↓nrmL, nrmZ, Nat.reduceEqDiff, ↓reduceIte, h1, h2, h3, h4, h5, h6, u8_one]; rfl) ?_
 refine tB rfl rfl ?_
 refine mB rfl ?_
 refine Fo.yes rfl rfl ?_
 refine Fo.fa rfl ?_
 refine Fo.yes rfl rfl ?_
 refine Fo.ld rfl rfl ?_
 refine Fo.yes rfl rfl ?_
 refine mI rfl ?_
 refine Fo.yes rfl rfl ?_
 refine Fo.fa rfl ?_
 refine Fo.yes rfl rfl ?_
 refine Fo.ld rfl rfl ?_
 refine Fo.yes rfl rfl ?_
 refine Fo.bin rfl rfl rfl (by simp only [↓nrmL, nrmZ, Nat.reduceEqDiff, ↓reduceIte, h1, h2, h3, h4, h5, h6, u8_one]; rfl) ?_
 refine Fo.yes rfl rfl ?_
 refine mI rfl ?_
 refine Fo.yes rfl rfl ?_
 refine Fo.bin rfl rfl rfl (by simp only [↓nrmL, nrmZ, Nat.reduceEqDiff, ↓reduceIte, h1, h2, h3, h4, h5, h6, u8_one]; rfl) ?_
 refine Fo.yes rfl rfl ?_
 refine Fo.idx (by simp only [↓nrmL, nrmK, Nat.reduceEqDiff, ↓reduceIte]; rfl) rfl ?_ (by simp only [↓nrmL, nrmZ, Nat.reduceEqDiff, ↓reduceIte, h1, h2, h3, h4, h5, h6, u8_one]; rfl) ?_; (focus omega)
 refine Fo.yes rfl rfl ?_
 refine Fo.ldB rfl ?_ rfl ?_; (focus omega)
 refine Fo.yes rfl rfl ?_
 refine Fo.bin rfl rfl rfl (by simp only [↓nrmL, nrmZ, Nat.reduceEqDiff, ↓reduceIte, h1, h2, h3, h4, h5, h6, u8_one]; rfl) ?_
 refine tB rfl rfl ?_
 refine mB rfl ?_
 refine WpO.nil (hKF _ _ ?_)
 refine Wp.ret ?_
 dsimp only [cond_true, cond_false]
 refine ⟨trivial, _, rfl, ?_⟩
 exact ⟨rfl, Ext0.ext⟩⟩
instance K_ink {p : AVal} {H : AHeap} {w h x y : Int} {l : List UInt8} [hp : BytesI H p l] [hs : Fits w h l] : PureCon ext prog 109 [.agg [.int .i64 w, .int .i64 h, p], .int .i64 x, .int .i64 y] H 1 (.bool (inkB w h l x y)) := ⟨by
 refine con_of (show prog 109 = some c109 from rfl) rfl rfl fun n hn => ?_
 haveI := hp.one
 obtain ⟨a, b, rfl, rfl, ha, hb, hl⟩ := sized_nat hs.it
 have hm : a * b ≤ 640 * 640 := Nat.mul_le_mul ha hb
 cases h1 : decide (x ≥ 0)
 ·have e : inkB a b l x y = false := by simp only [inkB, h1, Bool.false_and]
  rw [e]
  try simp only [↓nrmL, nrmZ, Nat.reduceEqDiff, ↓reduceIte, h1]
  refine sq ?_
  refine rg fun KF hKF => ?_
  refine Fo.boxA rfl ?_
  refine mB rfl ?_
  refine WpO.nil (hKF _ _ ?_)
  refine sq ?_
  refine rg fun KF hKF => ?_
  refine mI rfl ?_
  refine Fo.bin rfl rfl rfl (by simp only [↓nrmL, nrmZ, Nat.reduceEqDiff, ↓reduceIte, h1]; rfl) ?_
  refine mB rfl ?_
  refine Fo.no rfl rfl ?_
  refine Fo.no rfl rfl ?_
  refine Fo.no rfl rfl ?_
  refine Fo.no rfl rfl ?_
  refine fB rfl rfl ?_
  refine mB rfl ?_
  refine Fo.no rfl rfl ?_
  refine Fo.no rfl rfl ?_
  refine fB rfl rfl ?_
  refine mB rfl ?_
  refine Fo.no rfl rfl ?_
  refine Fo.no rfl rfl ?_
  refine Fo.no rfl rfl ?_
  refine Fo.no rfl rfl ?_
  refine fB rfl rfl ?_
  refine mB rfl ?_
  refine Fo.no rfl rfl ?_
  refine Fo.no rfl rfl ?_
  refine Fo.no rfl rfl ?_
  refine Fo.no rfl rfl ?_
  refine Fo.no rfl rfl ?_
  refine Fo.no rfl rfl ?_
  refine Fo.no rfl rfl ?_
  refine Fo.no rfl rfl ?_
  refine Fo.no rfl rfl ?_
  refine Fo.no rfl rfl ?_
  refine Fo.no rfl rfl ?_
  refine fB rfl rfl ?_
  refine mB rfl ?_
  refine WpO.nil (hKF _ _ ?_)
  refine Wp.ret ?_
  dsimp only [cond_true, cond_false]
  refine ⟨trivial, _, rfl, ?_⟩
  exact ⟨rfl, Ext0.ext⟩
 cases h2 : decide (x < (a : Int))
 ·have e : inkB a b l x y = false := by simp only [inkB, h1, h2, Bool.false_and, Bool.and_false]
  rw [e]
  try simp only [↓nrmL, nrmZ, Nat.reduceEqDiff, ↓reduceIte, h1, h2]
  refine sq ?_
  refine rg fun KF hKF => ?_
  refine Fo.boxA rfl ?_
  refine mB rfl ?_
  refine WpO.nil (hKF _ _ ?_)
  refine sq ?_
  refine rg fun KF hKF => ?_
  refine mI rfl ?_
  refine Fo.bin rfl rfl rfl (by simp only [↓nrmL, nrmZ, Nat.reduceEqDiff, ↓reduceIte, h1, h2]; rfl) ?_
  refine mB rfl ?_
  refine Fo.yes rfl rfl ?_
  refine mI rfl ?_
  refine Fo.yes rfl rfl ?_
  refine Fo.fa rfl ?_
  refine Fo.yes rfl rfl ?_
  refine Fo.ld rfl rfl ?_
  refine Fo.yes rfl rfl ?_
  refine Fo.bin rfl rfl rfl (by simp only [↓nrmL, nrmZ, Nat.reduceEqDiff, ↓reduceIte, h1, h2]; rfl) ?_
  refine tB rfl rfl ?_
  refine mB rfl ?_
  refine Fo.no rfl rfl ?_
  refine Fo.no rfl rfl ?_
  refine fB rfl rfl ?_
  refine mB rfl ?_
  refine Fo.no rfl rfl ?_
  refine Fo.no rfl rfl ?_
  refine Fo.no rfl rfl ?_
  refine Fo.no rfl rfl ?_
  refine fB rfl rfl ?_
  refine mB rfl ?_
  refine Fo.no rfl rfl ?_
  refine Fo.no rfl rfl ?_
  refine Fo.no rfl rfl ?_
  refine Fo.no rfl rfl ?_
  refine Fo.no rfl rfl ?_
  refine Fo.no rfl rfl ?_
  refine Fo.no rfl rfl ?_
  refine Fo.no rfl rfl ?_
  refine Fo.no rfl rfl ?_
  refine Fo.no rfl rfl ?_
  refine Fo.no rfl rfl ?_
  refine fB rfl rfl ?_
  refine mB rfl ?_
  refine WpO.nil (hKF _ _ ?_)
  refine Wp.ret ?_
  dsimp only [cond_true, cond_false]
  refine ⟨trivial, _, rfl, ?_⟩
  exact ⟨rfl, Ext0.ext⟩
 cases h3 : decide (y ≥ 0)
 ·have e : inkB a b l x y = false := by simp only [inkB, h1, h2, h3, Bool.false_and, Bool.and_false]
  rw [e]
  try simp only [↓nrmL, nrmZ, Nat.reduceEqDiff, ↓reduceIte, h1, h2, h3]
  refine sq ?_
  refine rg fun KF hKF => ?_
  refine Fo.boxA rfl ?_
  refine mB rfl ?_
  refine WpO.nil (hKF _ _ ?_)
  refine sq ?_
  refine rg fun KF hKF => ?_
  refine mI rfl ?_
  refine Fo.bin rfl rfl rfl (by simp only [↓nrmL, nrmZ, Nat.reduceEqDiff, ↓reduceIte, h1, h2, h3]; rfl) ?_
  refine mB rfl ?_
  refine Fo.yes rfl rfl ?_
  refine mI rfl ?_
  refine Fo.yes rfl rfl ?_
  refine Fo.fa rfl ?_
  refine Fo.yes rfl rfl ?_
  refine Fo.ld rfl rfl ?_
  refine Fo.yes rfl rfl ?_
  refine Fo.bin rfl rfl rfl (by simp only [↓nrmL, nrmZ, Nat.reduceEqDiff, ↓reduceIte, h1, h2, h3]; rfl) ?_
  refine tB rfl rfl ?_
  refine mB rfl ?_
  refine Fo.yes rfl rfl ?_
  refine mI rfl ?_
  refine Fo.yes rfl rfl ?_
  refine Fo.bin rfl rfl rfl (by simp only [↓nrmL, nrmZ, Nat.reduceEqDiff, ↓reduceIte, h1, h2, h3]; rfl) ?_
  refine tB rfl rfl ?_
  refine mB rfl ?_
  refine Fo.no rfl rfl ?_
  refine Fo.no rfl rfl ?_
  refine Fo.no rfl rfl ?_
  refine Fo.no rfl rfl ?_
  refine fB rfl rfl ?_
  refine mB rfl ?_
  refine Fo.no rfl rfl ?_
  refine Fo.no rfl rfl ?_
  refine Fo.no rfl rfl ?_
  refine Fo.no rfl rfl ?_
  refine Fo.no rfl rfl ?_
  refine Fo.no rfl rfl ?_
  refine Fo.no rfl rfl ?_
  refine Fo.no rfl rfl ?_
  refine Fo.no rfl rfl ?_
  refine Fo.no rfl rfl ?_
  refine Fo.no rfl rfl ?_
  refine fB rfl rfl ?_
  refine mB rfl ?_
  refine WpO.nil (hKF _ _ ?_)
  refine Wp.ret ?_
  dsimp only [cond_true, cond_false]
  refine ⟨trivial, _, rfl, ?_⟩
  exact ⟨rfl, Ext0.ext⟩
 cases h4 : decide (y < (b : Int))
 ·have e : inkB a b l x y = false := by simp only [inkB, h1, h2, h3, h4, Bool.false_and, Bool.and_false]
  rw [e]
  try simp only [↓nrmL, nrmZ, Nat.reduceEqDiff, ↓reduceIte, h1, h2, h3, h4]
  refine sq ?_
  refine rg fun KF hKF => ?_
  refine Fo.boxA rfl ?_
  refine mB rfl ?_
  refine WpO.nil (hKF _ _ ?_)
  refine sq ?_
  refine rg fun KF hKF => ?_
  refine mI rfl ?_
  refine Fo.bin rfl rfl rfl (by simp only [↓nrmL, nrmZ, Nat.reduceEqDiff, ↓reduceIte, h1, h2, h3, h4]; rfl) ?_
  refine mB rfl ?_
  refine Fo.yes rfl rfl ?_
  refine mI rfl ?_
  refine Fo.yes rfl rfl ?_
  refine Fo.fa rfl ?_
  refine Fo.yes rfl rfl ?_
  refine Fo.ld rfl rfl ?_
  refine Fo.yes rfl rfl ?_
  refine Fo.bin rfl rfl rfl (by simp only [↓nrmL, nrmZ, Nat.reduceEqDiff, ↓reduceIte, h1, h2, h3, h4]; rfl) ?_
  refine tB rfl rfl ?_
  refine mB rfl ?_
  refine Fo.yes rfl rfl ?_
  refine mI rfl ?_
  refine Fo.yes rfl rfl ?_
  refine Fo.bin rfl rfl rfl (by simp only [↓nrmL, nrmZ, Nat.reduceEqDiff, ↓reduceIte, h1, h2, h3, h4]; rfl) ?_
  refine tB rfl rfl ?_
  refine mB rfl ?_
  refine Fo.yes rfl rfl ?_
  refine mI rfl ?_
  refine Fo.yes rfl rfl ?_
  refine Fo.fa rfl ?_
  refine Fo.yes rfl rfl ?_
  refine Fo.ld rfl rfl ?_
  refine Fo.yes rfl rfl ?_
  refine Fo.bin rfl rfl rfl (by simp only [↓nrmL, nrmZ, Nat.reduceEqDiff, ↓reduceIte, h1, h2, h3, h4]; rfl) ?_
  refine tB rfl rfl ?_
  refine mB rfl ?_
  refine Fo.no rfl rfl ?_
  refine Fo.no rfl rfl ?_
  refine Fo.no rfl rfl ?_
  refine Fo.no rfl rfl ?_
  refine Fo.no rfl rfl ?_
  refine Fo.no rfl rfl ?_
  refine Fo.no rfl rfl ?_
  refine Fo.no rfl rfl ?_
  refine Fo.no rfl rfl ?_
  refine Fo.no rfl rfl ?_
  refine Fo.no rfl rfl ?_
  refine fB rfl rfl ?_
  refine mB rfl ?_
  refine WpO.nil (hKF _ _ ?_)
  refine Wp.ret ?_
  dsimp only [cond_true, cond_false]
  refine ⟨trivial, _, rfl, ?_⟩
  exact ⟨rfl, Ext0.ext⟩
 obtain ⟨x, rfl⟩ : ∃ k : Nat, x = k := ⟨x.toNat, by have := of_decide_eq_true h1; omega⟩
 obtain ⟨y, rfl⟩ : ∃ k : Nat, y = k := ⟨y.toNat, by have := of_decide_eq_true h3; omega⟩
 have hx : x < a := by have := of_decide_eq_true h2; omega
 have hy : y < b := by have := of_decide_eq_true h4; omega
 have hlt := idx_lt hx hy
 have hil : y * a + x < l.length := by omega
 have h5 : IntKind.i64.wrap ((y : Int) * (a : Int)) = ((y * a : Nat) : Int) := wm (by omega)
 have h6 : IntKind.i64.wrap (((y * a : Nat) : Int) + (x : Int)) = ((y * a + x : Nat) : Int) := wa (by omega)
 have e : inkB a b l x y = (l[y * a + x] == 1) := by rw [inkB_nat hx hy]; simp [hil]
 rw [e]
 try simp only [↓nrmL, nrmZ, Nat.reduceEqDiff, ↓reduceIte, h1, h2, h3, h4, h5, h6, u8_one]
 refine sq ?_
 refine rg fun KF hKF => ?_
 refine Fo.boxA rfl ?_
 refine mB rfl ?_
 refine WpO.nil (hKF _ _ ?_)
 refine sq ?_
 refine rg fun KF hKF => ?_
 refine mI rfl ?_
 refine Fo.bin rfl rfl rfl (by simp only [↓nrmL, nrmZ, Nat.reduceEqDiff, ↓reduceIte, h1, h2, h3, h4, h5, h6, u8_one]; rfl) ?_
 refine mB rfl ?_
 refine Fo.yes rfl rfl ?_
 refine mI rfl ?_
 refine Fo.yes rfl rfl ?_
 refine Fo.fa rfl ?_
 refine Fo.yes rfl rfl ?_
 refine Fo.ld rfl rfl ?_
 refine Fo.yes rfl rfl ?_
 refine Fo.bin rfl rfl rfl (by simp only [↓nrmL, nrmZ, Nat.reduceEqDiff, ↓reduceIte, h1, h2, h3, h4, h5, h6, u8_one]; rfl) ?_
 refine tB rfl rfl ?_
 refine mB rfl ?_
 refine Fo.yes rfl rfl ?_
 refine mI rfl ?_
 refine Fo.yes rfl rfl ?_
 refine Fo.bin rfl rfl rfl (by simp only [↓nrmL, nrmZ, Nat.reduceEqDiff, ↓reduceIte, h1, h2, h3, h4, h5, h6, u8_one]; rfl) ?_
 refine tB rfl rfl ?_
 refine mB rfl ?_
 refine Fo.yes rfl rfl ?_
 refine mI rfl ?_
 refine Fo.yes rfl rfl ?_
 refine Fo.fa rfl ?_
 refine Fo.yes rfl rfl ?_
 refine Fo.ld rfl rfl ?_
 refine Fo.yes rfl rfl ?_
 refine Fo.bin rfl rfl rfl (by simp only [↓nrmL, nrmZ, Nat.reduceEqDiff, ↓reduceIte, h1, h2, h3, h4, h5, h6, u8_one]; rfl) ?_
 refine tB rfl rfl ?_
 refine mB rfl ?_
 refine Fo.yes rfl rfl ?_
 refine Fo.fa rfl ?_
 refine Fo.yes rfl rfl ?_
 refine Fo.ld rfl rfl ?_
 refine Fo.yes rfl rfl ?_
 refine mI rfl ?_
 refine Fo.yes rfl rfl ?_
 refine Fo.fa rfl ?_
 refine Fo.yes rfl rfl ?_
 refine Fo.ld rfl rfl ?_
 refine Fo.yes rfl rfl ?_
 refine Fo.bin rfl rfl rfl (by simp only [↓nrmL, nrmZ, Nat.reduceEqDiff, ↓reduceIte, h1, h2, h3, h4, h5, h6, u8_one]; rfl) ?_
 refine Fo.yes rfl rfl ?_
 refine mI rfl ?_
 refine Fo.yes rfl rfl ?_
 refine Fo.bin rfl rfl rfl (by simp only [↓nrmL, nrmZ, Nat.reduceEqDiff, ↓reduceIte, h1, h2, h3, h4, h5, h6, u8_one]; rfl) ?_
 refine Fo.yes rfl rfl ?_
 refine Fo.idx (by simp only [↓nrmL, nrmK, Nat.reduceEqDiff, ↓reduceIte]; rfl) rfl ?_ (by simp only [↓nrmL, nrmZ, Nat.reduceEqDiff, ↓reduceIte, h1, h2, h3, h4, h5, h6, u8_one]; rfl) ?_; (focus omega)
 refine Fo.yes rfl rfl ?_
 refine Fo.ldB rfl ?_ rfl ?_; (focus omega)
 refine Fo.yes rfl rfl ?_
 refine Fo.bin rfl rfl rfl (by simp only [↓nrmL, nrmZ, Nat.reduceEqDiff, ↓reduceIte, h1, h2, h3, h4, h5, h6, u8_one]; rfl) ?_
 refine tB rfl rfl ?_
 refine mB rfl ?_
 refine WpO.nil (hKF _ _ ?_)
 refine Wp.ret ?_
 dsimp only [cond_true, cond_false]
 refine ⟨trivial, _, rfl, ?_⟩
 exact ⟨rfl, Ext0.ext⟩⟩

theorem pxOk_take {l : List UInt8} {i : Nat} (h : i < l.length) : pxOk (l.take (i + 1)) = (pxOk (l.take i) && (l[i] == 0 || l[i] == 1)) := by
 rw [List.take_succ_eq_append_getElem h]
 simp only [pxOk, List.all_append, List.all_cons, List.all_nil, Bool.and_true]
theorem pxOk_bad {l : List UInt8} {i : Nat} (h : i < l.length) (hb : (l[i] == 0 || l[i] == 1) = false) : pxOk l = false := by
 cases hp : pxOk l
 ·rfl
 ·have := List.all_eq_true.1 hp l[i] (List.getElem_mem h)
  rw [hb] at this; cases this

instance K_refCheck {p : AVal} {H : AHeap} {w h : Int} {l : List UInt8} [hp : BytesI H p l] : PureCon ext prog 21 [.agg [.int .i64 w, .int .i64 h, p]] H 2 (.int .i64 (Img.err ⟨w, h, l⟩)) := ⟨by
 refine con_of (show prog 21 = some c21 from rfl) rfl rfl fun n hn => ?_
 haveI := hp.one
 unfold Img.err Img.sized sizedB
 cases h1 : (sideB w && sideB h)
 ·skip
  try simp only [↓nrmL, nrmZ, Nat.reduceEqDiff, ↓reduceIte, h1]
  refine sq ?_
  refine rg fun KF hKF => ?_
  refine Fo.boxA rfl ?_
  refine mI rfl ?_
  refine WpO.nil (hKF _ _ ?_)
  refine sq ?_
  refine sq ?_
  refine rg fun KF hKF => ?_
  refine Fo.fa rfl ?_
  refine Fo.ld rfl rfl ?_
  refine Fo.fa rfl ?_
  refine Fo.ld rfl rfl ?_
  refine Fo.pcall (v' := ?_) hn rfl (by simp only [↓nrmL, nrmZ, Nat.reduceEqDiff, ↓reduceIte, h1, List.map]; rfl) rfl ?hv fun _ _ => ?_; case hv => (simp only [↓nrmL, nrmZ, Nat.reduceEqDiff, ↓reduceIte, h1]; rfl)
  refine Fo.now rfl rfl (by simp only [↓nrmL, nrmZ, Nat.reduceEqDiff, ↓reduceIte, h1]; rfl) ?_
  refine mB rfl ?_
  refine Fo.no rfl rfl ?_
  refine Fo.no rfl rfl ?_
  refine Fo.no rfl rfl ?_
  refine Fo.no rfl rfl ?_
  refine Fo.no rfl rfl ?_
  refine Fo.no rfl rfl ?_
  refine Fo.no rfl rfl ?_
  refine Fo.no rfl rfl ?_
  refine Fo.no rfl rfl ?_
  refine tB rfl rfl ?_
  refine WpO.nil (hKF _ _ ?_)
  refine Wp.cond (b := true) rfl ?_
  refine sq ?_
  refine rg fun KF hKF => ?_
  refine mI rfl ?_
  refine WpO.nil (hKF _ _ ?_)
  refine Wp.ret ?_
  dsimp only [cond_true, cond_false]
  refine ⟨trivial, _, rfl, ?_⟩
  exact ⟨rfl, Ext0.ext⟩
 cases h2 : (((l.length : Nat) : Int) == IntKind.i64.wrap (w * h))
 ·skip
  try simp only [↓nrmL, nrmZ, Nat.reduceEqDiff, ↓reduceIte, h1, h2, bne]
  refine sq ?_
  refine rg fun KF hKF => ?_
  refine Fo.boxA rfl ?_
  refine mI rfl ?_
  refine WpO.nil (hKF _ _ ?_)
  refine sq ?_
  refine sq ?_
  refine rg fun KF hKF => ?_
  refine Fo.fa rfl ?_
  refine Fo.ld rfl rfl ?_
  refine Fo.fa rfl ?_
  refine Fo.ld rfl rfl ?_
  refine Fo.pcall (v' := ?_) hn rfl (by simp only [↓nrmL, nrmZ, Nat.reduceEqDiff, ↓reduceIte, h1, h2, bne, List.map]; rfl) rfl ?hv fun _ _ => ?_; case hv => (simp only [↓nrmL, nrmZ, Nat.reduceEqDiff, ↓reduceIte, h1, h2, bne]; rfl)
  refine Fo.now rfl rfl (by simp only [↓nrmL, nrmZ, Nat.reduceEqDiff, ↓reduceIte, h1, h2, bne]; rfl) ?_
  refine mB rfl ?_
  refine Fo.yes rfl rfl ?_
  refine Fo.fa rfl ?_
  refine Fo.yes rfl rfl ?_
  refine Fo.ld rfl rfl ?_
  refine Fo.yes rfl rfl ?_
  refine Fo.len (v := ?_) (by simp only [↓nrmL, nrmK, Nat.reduceEqDiff, ↓reduceIte]; rfl) ?hv ?_; case hv => rfl
  refine Fo.yes rfl rfl ?_
  refine Fo.fa rfl ?_
  refine Fo.yes rfl rfl ?_
  refine Fo.ld rfl rfl ?_
  refine Fo.yes rfl rfl ?_
  refine Fo.fa rfl ?_
  refine Fo.yes rfl rfl ?_
  refine Fo.ld rfl rfl ?_
  refine Fo.yes rfl rfl ?_
  refine Fo.bin rfl rfl rfl rfl ?_
  refine Fo.yes rfl rfl ?_
  refine Fo.bin rfl rfl rfl (by simp only [↓nrmL, nrmZ, Nat.reduceEqDiff, ↓reduceIte, h1, h2, bne]; rfl) ?_
  refine fB rfl rfl ?_
  refine WpO.nil (hKF _ _ ?_)
  refine Wp.cond (b := true) rfl ?_
  refine sq ?_
  refine rg fun KF hKF => ?_
  refine mI rfl ?_
  refine WpO.nil (hKF _ _ ?_)
  refine Wp.ret ?_
  dsimp only [cond_true, cond_false]
  refine ⟨trivial, _, rfl, ?_⟩
  exact ⟨rfl, Ext0.ext⟩
 have hs : sizedB w h l.length = true := by unfold sizedB; rw [h1, h2]; rfl
 obtain ⟨a, b, _, _, ha, hb, hl⟩ := sized_nat hs
 have hm : a * b ≤ 640 * 640 := Nat.mul_le_mul ha hb
 try simp only [↓nrmL, nrmZ, Nat.reduceEqDiff, ↓reduceIte, h1, h2, bne]
 refine sq ?_
 refine rg fun KF hKF => ?_
 refine Fo.boxA rfl ?_
 refine mI rfl ?_
 refine WpO.nil (hKF _ _ ?_)
 refine sq ?_
 refine sq ?_
 refine rg fun KF hKF => ?_
 refine Fo.fa rfl ?_
 refine Fo.ld rfl rfl ?_
 refine Fo.fa rfl ?_
 refine Fo.ld rfl rfl ?_
 refine Fo.pcall (v' := ?_) hn rfl (by simp only [↓nrmL, nrmZ, Nat.reduceEqDiff, ↓reduceIte, h1, h2, bne, List.map]; rfl) rfl ?hv fun _ _ => ?_; case hv => (simp only [↓nrmL, nrmZ, Nat.reduceEqDiff, ↓reduceIte, h1, h2, bne]; rfl)
 refine Fo.now rfl rfl (by simp only [↓nrmL, nrmZ, Nat.reduceEqDiff, ↓reduceIte, h1, h2, bne]; rfl) ?_
 refine mB rfl ?_
 refine Fo.yes rfl rfl ?_
 refine Fo.fa rfl ?_
 refine Fo.yes rfl rfl ?_
 refine Fo.ld rfl rfl ?_
 refine Fo.yes rfl rfl ?_
 refine Fo.len (v := ?_) (by simp only [↓nrmL, nrmK, Nat.reduceEqDiff, ↓reduceIte]; rfl) ?hv ?_; case hv => rfl
 refine Fo.yes rfl rfl ?_
 refine Fo.fa rfl ?_
 refine Fo.yes rfl rfl ?_
 refine Fo.ld rfl rfl ?_
 refine Fo.yes rfl rfl ?_
 refine Fo.fa rfl ?_
 refine Fo.yes rfl rfl ?_
 refine Fo.ld rfl rfl ?_
 refine Fo.yes rfl rfl ?_
 refine Fo.bin rfl rfl rfl rfl ?_
 refine Fo.yes rfl rfl ?_
 refine Fo.bin rfl rfl rfl (by simp only [↓nrmL, nrmZ, Nat.reduceEqDiff, ↓reduceIte, h1, h2, bne]; rfl) ?_
 refine fB rfl rfl ?_
 refine WpO.nil (hKF _ _ ?_)
 refine Wp.cond (b := false) rfl ?_
 refine Wp.skip ?_
 refine sq ?_
 refine sq ?_
 refine rg fun KF hKF => ?_
 refine mI rfl ?_
 refine WpO.nil (hKF _ _ ?_)
 refine Wp.block ?_
 dsimp only [cond_true, cond_false]
 refine Wp.loopS [2, 3, 21, 22, 23, 24, 25, 26, 27, 28, 29, 30, 31, 32, 33, 34, 35, 36, 37, 38, 39, 40, 41] (fun i : Nat => [(3, .int .i64 i)]) (fun H3 i H2 => i ≤ l.length ∧ pxOk (l.take i) = true ∧ H2 = H3) (fun i => l.length - i) 0 rfl (fun _ => rfl) ⟨rfl, trivial⟩ ⟨Nat.zero_le _, rfl, rfl⟩ (by unfold fuel0 at hn; omega) ?_
 rintro i g H2 ⟨hi, hok, rfl⟩
 simp only [↓nrmL, nrmZ, Nat.reduceEqDiff, ↓reduceIte]
 cases hc : decide ((i : Int) < (l.length : Int))
 ·have hil : i = l.length := by have := of_decide_eq_false hc; omega
  subst hil
  rw [List.take_length] at hok
  try simp only [↓nrmL, nrmZ, Nat.reduceEqDiff, ↓reduceIte, hc]
  refine sq ?_
  refine sq ?_
  refine rg fun KF hKF => ?_
  refine mI rfl ?_
  refine Fo.fa rfl ?_
  refine Fo.ld rfl rfl ?_
  refine Fo.len (v := ?_) (by simp only [↓nrmL, nrmK, Nat.reduceEqDiff, ↓reduceIte]; rfl) ?hv ?_; case hv => rfl
  refine Fo.bin rfl rfl rfl (by simp only [↓nrmL, nrmZ, Nat.reduceEqDiff, ↓reduceIte, hc]; rfl) ?_
  refine WpO.nil (hKF _ _ ?_)
  refine Wp.cond (b := false) rfl ?_
  refine Wp.exit ?_
  refine sq ?_
  refine rg fun KF hKF => ?_
  refine mI rfl ?_
  refine WpO.nil (hKF _ _ ?_)
  refine Wp.ret ?_
  dsimp only [cond_true, cond_false]
  refine ⟨trivial, _, rfl, ?_⟩
  exact ⟨by rw [hok]; rfl, Ext0.ext⟩
 ·have hil : i < l.length := by have := of_decide_eq_true hc; omega
  have hw1 := wa1 (a := i) (by omega)
  cases h0 : (l[i] == 0)
  ·cases h4 : (l[i] == 1)
   ·skip
    try simp only [↓nrmL, nrmZ, Nat.reduceEqDiff, ↓reduceIte, hc, bne, u8_zero, u8_one, h0, h4]
    refine sq ?_
    refine sq ?_
    refine rg fun KF hKF => ?_
    refine mI rfl ?_
    refine Fo.fa rfl ?_
    refine Fo.ld rfl rfl ?_
    refine Fo.len (v := ?_) (by simp only [↓nrmL, nrmK, Nat.reduceEqDiff, ↓reduceIte]; rfl) ?hv ?_; case hv => rfl
    refine Fo.bin rfl rfl rfl (by simp only [↓nrmL, nrmZ, Nat.reduceEqDiff, ↓reduceIte, hc, bne, u8_zero, u8_one, h0, h4]; rfl) ?_
    refine WpO.nil (hKF _ _ ?_)
    refine Wp.cond (b := true) rfl ?_
    refine Wp.skip ?_
    refine sq ?_
    refine Wp.block ?_
    refine sq ?_
    refine rg fun KF hKF => ?_
    refine Fo.fa rfl ?_
    refine Fo.ld rfl rfl ?_
    refine mI rfl ?_
    refine Fo.idx (by simp only [↓nrmL, nrmK, Nat.reduceEqDiff, ↓reduceIte]; rfl) rfl ?_ (by simp only [↓nrmL, nrmZ, Nat.reduceEqDiff, ↓reduceIte, hc, bne, u8_zero, u8_one, h0, h4]; rfl) ?_; (focus omega)
    refine Fo.ldB rfl ?_ rfl ?_; (focus omega)
    refine Fo.bin rfl rfl rfl (by simp only [↓nrmL, nrmZ, Nat.reduceEqDiff, ↓reduceIte, hc, bne, u8_zero, u8_one, h0, h4]; rfl) ?_
    refine mB rfl ?_
    refine Fo.yes rfl rfl ?_
    refine Fo.fa rfl ?_
    refine Fo.yes rfl rfl ?_
    refine Fo.ld rfl rfl ?_
    refine Fo.yes rfl rfl ?_
    refine mI rfl ?_
    refine Fo.yes rfl rfl ?_
    refine Fo.idx (by simp only [↓nrmL, nrmK, Nat.reduceEqDiff, ↓reduceIte]; rfl) rfl ?_ (by simp only [↓nrmL, nrmZ, Nat.reduceEqDiff, ↓reduceIte, hc, bne, u8_zero, u8_one, h0, h4]; rfl) ?_; (focus omega)
    refine Fo.yes rfl rfl ?_
    refine Fo.ldB rfl ?_ rfl ?_; (focus omega)
    refine Fo.yes rfl rfl ?_
    refine Fo.bin rfl rfl rfl (by simp only [↓nrmL, nrmZ, Nat.reduceEqDiff, ↓reduceIte, hc, bne, u8_zero, u8_one, h0, h4]; rfl) ?_
    refine tB rfl rfl ?_
    refine WpO.nil (hKF _ _ ?_)
    refine Wp.cond (b := true) rfl ?_
    refine sq ?_
    refine rg fun KF hKF => ?_
    refine mI rfl ?_
    refine WpO.nil (hKF _ _ ?_)
    refine Wp.ret ?_
    dsimp only [cond_true, cond_false]
    refine ⟨trivial, _, rfl, ?_⟩
    exact ⟨by rw [pxOk_bad hil (by rw [h0, h4]; rfl)]; rfl, Ext0.ext⟩
   ·skip
    try simp only [↓nrmL, nrmZ, Nat.reduceEqDiff, ↓reduceIte, hc, bne, u8_zero, u8_one, h0, h4]
    refine sq ?_
    refine sq ?_
    refine rg fun KF hKF => ?_
    refine mI rfl ?_
    refine Fo.fa rfl ?_
    refine Fo.ld rfl rfl ?_
    refine Fo.len (v := ?_) (by simp only [↓nrmL, nrmK, Nat.reduceEqDiff, ↓reduceIte]; rfl) ?hv ?_; case hv => rfl
    refine Fo.bin rfl rfl rfl (by simp only [↓nrmL, nrmZ, Nat.reduceEqDiff, ↓reduceIte, hc, bne, u8_zero, u8_one, h0, h4]; rfl) ?_
    refine WpO.nil (hKF _ _ ?_)
    refine Wp.cond (b := true) rfl ?_
    refine Wp.skip ?_
    refine sq ?_
    refine Wp.block ?_
    refine sq ?_
    refine rg fun KF hKF => ?_
    refine Fo.fa rfl ?_
    refine Fo.ld rfl rfl ?_
    refine mI rfl ?_
    refine Fo.idx (by simp only [↓nrmL, nrmK, Nat.reduceEqDiff, ↓reduceIte]; rfl) rfl ?_ (by simp only [↓nrmL, nrmZ, Nat.reduceEqDiff, ↓reduceIte, hc, bne, u8_zero, u8_one, h0, h4]; rfl) ?_; (focus omega)
    refine Fo.ldB rfl ?_ rfl ?_; (focus omega)
    refine Fo.bin rfl rfl rfl (by simp only [↓nrmL, nrmZ, Nat.reduceEqDiff, ↓reduceIte, hc, bne, u8_zero, u8_one, h0, h4]; rfl) ?_
    refine mB rfl ?_
    refine Fo.yes rfl rfl ?_
    refine Fo.fa rfl ?_
    refine Fo.yes rfl rfl ?_
    refine Fo.ld rfl rfl ?_
    refine Fo.yes rfl rfl ?_
    refine mI rfl ?_
    refine Fo.yes rfl rfl ?_
    refine Fo.idx (by simp only [↓nrmL, nrmK, Nat.reduceEqDiff, ↓reduceIte]; rfl) rfl ?_ (by simp only [↓nrmL, nrmZ, Nat.reduceEqDiff, ↓reduceIte, hc, bne, u8_zero, u8_one, h0, h4]; rfl) ?_; (focus omega)
    refine Fo.yes rfl rfl ?_
    refine Fo.ldB rfl ?_ rfl ?_; (focus omega)
    refine Fo.yes rfl rfl ?_
    refine Fo.bin rfl rfl rfl (by simp only [↓nrmL, nrmZ, Nat.reduceEqDiff, ↓reduceIte, hc, bne, u8_zero, u8_one, h0, h4]; rfl) ?_
    refine tB rfl rfl ?_
    refine WpO.nil (hKF _ _ ?_)
    refine Wp.cond (b := false) rfl ?_
    refine Wp.skip ?_
    refine rg fun KF hKF => ?_
    refine mI rfl ?_
    refine Fo.bin rfl rfl rfl rfl ?_
    refine mI rfl ?_
    refine WpO.nil (hKF _ _ ?_)
    dsimp only [cond_true, cond_false]
    exact ⟨i + 1, by omega, ⟨by simp only [↓nrmL, nrmZ, Nat.reduceEqDiff, ↓reduceIte]; rw [hw1], trivial⟩, hil, by rw [pxOk_take hil, hok, h0, h4]; rfl, rfl⟩
  ·skip
   try simp only [↓nrmL, nrmZ, Nat.reduceEqDiff, ↓reduceIte, hc, bne, u8_zero, u8_one, h0]
   refine sq ?_
   refine sq ?_
   refine rg fun KF hKF => ?_
   refine mI rfl ?_
   refine Fo.fa rfl ?_
   refine Fo.ld rfl rfl ?_
   refine Fo.len (v := ?_) (by simp only [↓nrmL, nrmK, Nat.reduceEqDiff, ↓reduceIte]; rfl) ?hv ?_; case hv => rfl
   refine Fo.bin rfl rfl rfl (by simp only [↓nrmL, nrmZ, Nat.reduceEqDiff, ↓reduceIte, hc, bne, u8_zero, u8_one, h0]; rfl) ?_
   refine WpO.nil (hKF _ _ ?_)
   refine Wp.cond (b := true) rfl ?_
   refine Wp.skip ?_
   refine sq ?_
   refine Wp.block ?_
   refine sq ?_
   refine rg fun KF hKF => ?_
   refine Fo.fa rfl ?_
   refine Fo.ld rfl rfl ?_
   refine mI rfl ?_
   refine Fo.idx (by simp only [↓nrmL, nrmK, Nat.reduceEqDiff, ↓reduceIte]; rfl) rfl ?_ (by simp only [↓nrmL, nrmZ, Nat.reduceEqDiff, ↓reduceIte, hc, bne, u8_zero, u8_one, h0]; rfl) ?_; (focus omega)
   refine Fo.ldB rfl ?_ rfl ?_; (focus omega)
   refine Fo.bin rfl rfl rfl (by simp only [↓nrmL, nrmZ, Nat.reduceEqDiff, ↓reduceIte, hc, bne, u8_zero, u8_one, h0]; rfl) ?_
   refine mB rfl ?_
   refine Fo.no rfl rfl ?_
   refine Fo.no rfl rfl ?_
   refine Fo.no rfl rfl ?_
   refine Fo.no rfl rfl ?_
   refine Fo.no rfl rfl ?_
   refine Fo.no rfl rfl ?_
   refine fB rfl rfl ?_
   refine WpO.nil (hKF _ _ ?_)
   refine Wp.cond (b := false) rfl ?_
   refine Wp.skip ?_
   refine rg fun KF hKF => ?_
   refine mI rfl ?_
   refine Fo.bin rfl rfl rfl rfl ?_
   refine mI rfl ?_
   refine WpO.nil (hKF _ _ ?_)
   dsimp only [cond_true, cond_false]
   exact ⟨i + 1, by omega, ⟨by simp only [↓nrmL, nrmZ, Nat.reduceEqDiff, ↓reduceIte]; rw [hw1], trivial⟩, hil, by rw [pxOk_take hil, hok, h0]; rfl, rfl⟩⟩
end Go.Am

set_option maxHeartbeats 4000000
set_option maxRecDepth 100000
namespace Go.Am
open Go
attribute [local irreducible] Wp WpO WpX WpE

end Go.Am

set_option maxHeartbeats 4000000
set_option maxRecDepth 100000
namespace Go.Am
open Go
attribute [local irreducible] Wp WpO WpX WpE

end Go.Am

set_option maxHeartbeats 4000000
set_option maxRecDepth 100000
namespace Go.Am
open Go
attribute [local irreducible] Wp WpO WpX WpE

/-- A valid image. -/
structure Ok (a b : Nat) (l : List UInt8) : Prop where
 wa : a ≤ 640
 hb : b ≤ 640
 len : l.length = a * b
 px : pxOk l = true
theorem Ok.sized {a b : Nat} {l : List UInt8} (h : Ok a b l) : sizedB a b l.length = true := by
 have hm : a * b ≤ 640 * 640 := Nat.mul_le_mul h.wa h.hb
 have h1 : sideB a = true := by simp only [sideB, Bool.and_eq_true, decide_eq_true_eq]; have := h.wa; omega
 have h2 : sideB b = true := by simp only [sideB, Bool.and_eq_true, decide_eq_true_eq]; have := h.hb; omega
 unfold sizedB
 rw [h1, h2, wm (by omega), h.len]
 simp
theorem Ok.err {a b : Nat} {l : List UInt8} (h : Ok a b l) : Img.err ⟨a, b, l⟩ = 0 := by
 have h1 : (⟨a, b, l⟩ : Img).sized = true := h.sized
 have h2 := h.px
 unfold Img.err
 rw [h1]
 simp only [h2, cond_true]
end Go.Am

/- Thinning: passes over an image, and a list of pixels that are due. -/
set_option maxHeartbeats 4000000
namespace Go.Am
open Go

/-- The eight neighbours, clockwise from the upper one. -/
def dxN : Nat → Int
  | 0 => 0 | 1 => 1 | 2 => 1 | 3 => 1 | 4 => 0 | 5 => -1 | 6 => -1 | _ => -1
def dyN : Nat → Int
  | 0 => -1 | 1 => -1 | 2 => 0 | 3 => 1 | 4 => 1 | 5 => 1 | 6 => 0 | _ => -1
theorem dN_opp : ∀ t < 8, dxN ((t + 4) % 8) = -dxN t ∧ dyN ((t + 4) % 8) = -dyN t := by decide
theorem dN_bd : ∀ t < 8, (-1 ≤ dxN t ∧ dxN t ≤ 1) ∧ (-1 ≤ dyN t ∧ dyN t ≤ 1) := by decide
/-- Is there ink beside a place? -/
def ringF (a b : Nat) (l : List UInt8) (x y : Int) (k : Nat) : Bool := inkB a b l (x + dxN k) (y + dyN k)
def bN (c : Bool) : Nat := bif c then 1 else 0
def pcN (f : Nat → Bool) : Nat := bN (!f 0 && (f 1 || f 2)) + bN (!f 2 && (f 3 || f 4)) + bN (!f 4 && (f 5 || f 6)) + bN (!f 6 && (f 7 || f 0))
def nbN (f : Nat → Bool) : Nat := bN (f 0) + bN (f 1) + bN (f 2) + bN (f 3) + bN (f 4) + bN (f 5) + bN (f 6) + bN (f 7)
def goesB (f : Nat → Bool) : Bool := (pcN f == 1) && decide (nbN f > 1)
def goesAt (a b : Nat) (l : List UInt8) (k : Nat) : Bool := goesB (ringF a b l ((k % a : Nat) : Int) ((k / a : Nat) : Int))

theorem inkB_true {a b : Nat} {l : List UInt8} {x y : Int} (h : inkB a b l x y = true) : ∃ u v : Nat, x = u ∧ y = v ∧ u < a ∧ v < b ∧ l.getD (v * a + u) 0 = 1 := by
  unfold inkB at h
  simp only [Bool.and_eq_true, decide_eq_true_eq, beq_iff_eq] at h
  obtain ⟨h1, h2, h3, h4, h5⟩ := h
  refine ⟨x.toNat, y.toNat, by omega, by omega, by omega, by omega, ?_⟩
  have e : (y * (a : Int) + x).toNat = y.toNat * a + x.toNat := by
    obtain ⟨u, rfl⟩ : ∃ u : Nat, x = u := ⟨x.toNat, by omega⟩
    obtain ⟨v, rfl⟩ : ∃ v : Nat, y = v := ⟨y.toNat, by omega⟩
    rw [← Int.natCast_mul, ← Int.natCast_add, Int.toNat_natCast, Int.toNat_natCast, Int.toNat_natCast]
  rw [← e]; exact h5
theorem inkB_mk {a b u v : Nat} {l : List UInt8} (hu : u < a) (hv : v < b) : inkB a b l (u : Int) (v : Int) = (l.getD (v * a + u) 0 == 1) := inkB_nat hu hv
/-- k is the neighbour t of j. -/
def isNb (a b j t k : Nat) : Prop := ∃ u v : Nat, u < a ∧ v < b ∧ (u : Int) = ((j % a : Nat) : Int) + dxN t ∧ (v : Int) = ((j / a : Nat) : Int) + dyN t ∧ k = v * a + u
theorem div_lt {a b k : Nat} (hk : k < a * b) : 0 < a ∧ k % a < a ∧ k / a < b ∧ k = k / a * a + k % a := by
  have ha : 0 < a := by
    rcases Nat.eq_zero_or_pos a with h | h
    · rw [h, Nat.zero_mul] at hk; omega
    · exact h
  refine ⟨ha, Nat.mod_lt _ ha, Nat.div_lt_of_lt_mul hk, ?_⟩
  have := Nat.div_add_mod k a
  rw [Nat.mul_comm] at this
  exact this.symm
theorem at_div {a u v : Nat} (hu : u < a) : (v * a + u) % a = u ∧ (v * a + u) / a = v := by
  constructor
  · rw [Nat.add_comm, Nat.add_mul_mod_self_right, Nat.mod_eq_of_lt hu]
  · rw [Nat.add_comm, Nat.add_mul_div_right _ _ (by omega), Nat.div_eq_of_lt hu, Nat.zero_add]
/-- One pixel looked at; the first ones; whole passes. -/
def stepT (a b : Nat) (l : List UInt8) (k : Nat) : List UInt8 := if l.getD k 0 = 1 ∧ goesAt a b l k = true then l.set k 0 else l
def passT (a b : Nat) (l : List UInt8) : Nat → List UInt8
  | 0 => l
  | k + 1 => stepT a b (passT a b l k) k
theorem Ok.set0 {a b k : Nat} {l : List UInt8} (h : Ok a b l) : Ok a b (l.set k 0) := by
  refine ⟨h.wa, h.hb, by rw [List.length_set]; exact h.len, ?_⟩
  have hp := h.px
  unfold pxOk at hp ⊢
  rw [List.all_eq_true] at hp ⊢
  intro x hx
  rcases List.mem_or_eq_of_mem_set hx with h1 | h1
  · exact hp x h1
  · rw [h1]; rfl
theorem Ok.step {a b k : Nat} {l : List UInt8} (h : Ok a b l) : Ok a b (stepT a b l k) := by
  unfold stepT
  split
  · exact h.set0
  · exact h
theorem Ok.pass {a b : Nat} {l : List UInt8} (h : Ok a b l) : ∀ k, Ok a b (passT a b l k)
  | 0 => h
  | k + 1 => (Ok.pass h k).step
theorem idx_of {a u v : Nat} : (((v : Nat) : Int) * (a : Int) + ((u : Nat) : Int)).toNat = v * a + u := by
  rw [← Int.natCast_mul, ← Int.natCast_add, Int.toNat_natCast]
end Go.Am

/- Components of an image: pixels that lead to each other by neighbours with ink. -/
set_option maxHeartbeats 4000000
namespace Go.Am
open Go

/-- k is a neighbour of j: one of eight, or one of four. -/
def Nb (a b : Nat) (e : Bool) (j k : Nat) : Prop := ∃ t < 8, (e = true ∨ t % 2 = 0) ∧ isNb a b j t k
theorem isNb_lt {a b j t k : Nat} (h : isNb a b j t k) : k < a * b := by
  obtain ⟨u, v, hu, hv, _, _, rfl⟩ := h
  have : (v + 1) * a ≤ b * a := Nat.mul_le_mul_right _ hv
  rw [Nat.add_mul, Nat.one_mul, Nat.mul_comm b a] at this
  omega
theorem Nb.lt {a b j k : Nat} {e : Bool} (h : Nb a b e j k) : k < a * b := by
  obtain ⟨t, _, _, h⟩ := h; exact isNb_lt h
theorem isNb_symm {a b j t k : Nat} (hj : j < a * b) (ht : t < 8) (h : isNb a b j t k) : isNb a b k ((t + 4) % 8) j := by
  obtain ⟨u, v, hu, hv, e1, e2, rfl⟩ := h
  obtain ⟨ha, h1, h2, h3⟩ := div_lt hj
  obtain ⟨o1, o2⟩ := dN_opp t ht
  obtain ⟨d1, d2⟩ := at_div (v := v) hu
  refine ⟨j % a, j / a, h1, h2, ?_, ?_, h3⟩
  · rw [d1, o1]; omega
  · rw [d2, o2]; omega
theorem Nb.symm {a b j k : Nat} {e : Bool} (hj : j < a * b) (h : Nb a b e j k) : Nb a b e k j := by
  obtain ⟨t, ht, he, h⟩ := h
  exact ⟨(t + 4) % 8, Nat.mod_lt _ (by decide), he.imp id (fun q => by omega), isNb_symm hj ht h⟩

/-- From i one comes to j over ink. -/
inductive Reach (l : List UInt8) (a b : Nat) (e : Bool) (i : Nat) : Nat → Prop
  | refl : i < a * b → l.getD i 0 = 1 → Reach l a b e i i
  | step {j k : Nat} : Reach l a b e i j → Nb a b e j k → l.getD k 0 = 1 → Reach l a b e i k
section
variable {l : List UInt8} {a b : Nat} {e : Bool}
theorem Reach.end_ok {i j : Nat} (h : Reach l a b e i j) : j < a * b ∧ l.getD j 0 = 1 := by
  cases h with
  | refl h1 h2 => exact ⟨h1, h2⟩
  | step _ h2 h3 => exact ⟨h2.lt, h3⟩
theorem Reach.start_ok {i j : Nat} (h : Reach l a b e i j) : i < a * b ∧ l.getD i 0 = 1 := by
  induction h with
  | refl h1 h2 => exact ⟨h1, h2⟩
  | step _ _ _ ih => exact ih
theorem Reach.trans {i j k : Nat} (h : Reach l a b e i j) (g : Reach l a b e j k) : Reach l a b e i k := by
  induction g with
  | refl _ _ => exact h
  | step _ h2 h3 ih => exact ih.step h2 h3
theorem Reach.symm {i j : Nat} (h : Reach l a b e i j) : Reach l a b e j i := by
  induction h with
  | refl h1 h2 => exact .refl h1 h2
  | step h1 h2 h3 ih =>
    obtain ⟨k1, k2⟩ := h1.end_ok
    exact ((Reach.refl h2.lt h3).step (h2.symm k1) k2).trans ih
theorem Reach.eight {i j : Nat} (h : Reach l a b e i j) : Reach l a b true i j := by
  induction h with
  | refl h1 h2 => exact .refl h1 h2
  | step _ h2 h3 ih =>
    obtain ⟨t, ht, _, h⟩ := h2
    exact ih.step ⟨t, ht, Or.inl rfl, h⟩ h3

/-- m is the first pixel of i's component. -/
def Lead (l : List UInt8) (a b : Nat) (e : Bool) (i m : Nat) : Prop := Reach l a b e i m ∧ ∀ j, Reach l a b e i j → m ≤ j
theorem Lead.unique {i m m' : Nat} (h : Lead l a b e i m) (g : Lead l a b e i m') : m = m' := Nat.le_antisymm (h.2 _ g.1) (g.2 _ h.1)
theorem Lead.same {i j m : Nat} (h : Lead l a b e i m) (g : Reach l a b e i j) : Lead l a b e j m := ⟨g.symm.trans h.1, fun k hk => h.2 k (g.trans hk)⟩
/-- Numbers that neighbours share, of which each is a pixel of the component that is not behind: they are the first pixels. -/
theorem num_lead {num : Nat → Nat} (hr : ∀ i, i < a * b → l.getD i 0 = 1 → Reach l a b e i (num i) ∧ num i ≤ i) (hs : ∀ i j, i < a * b → l.getD i 0 = 1 → Nb a b e i j → l.getD j 0 = 1 → num i = num j) {i : Nat} (hi : i < a * b) (h1 : l.getD i 0 = 1) : Lead l a b e i (num i) := by
  have hc : ∀ j, Reach l a b e i j → num j = num i := by
    intro j h
    induction h with
    | refl _ _ => rfl
    | step g1 g2 g3 ih =>
      obtain ⟨k1, k2⟩ := g1.end_ok
      rw [← ih, hs _ _ k1 k2 g2 g3]
  refine ⟨(hr i hi h1).1, fun j hj => ?_⟩
  obtain ⟨k1, k2⟩ := hj.end_ok
  rw [← hc j hj]
  exact (hr j k1 k2).2

/-- Marks of whole components, with numbers below n. -/
structure Whole (l : List UInt8) (a b : Nat) (e : Bool) (M : Nat → Nat) (n : Nat) : Prop where
  lt : ∀ i, M i < n
  ink : ∀ i, M i ≠ 0 → i < a * b ∧ l.getD i 0 = 1
  same : ∀ i j, M i ≠ 0 → Reach l a b e i j → M j = M i
/-- How things stand while a component is marked with n: W is waiting; of the pixel at hand, x, the neighbours in P are looked at. -/
structure Flood (l : List UInt8) (a b : Nat) (e : Bool) (M0 : Nat → Nat) (s n : Nat) (M : Nat → Nat) (W : List Nat) (x : Option (Nat × Nat)) : Prop where
  old : ∀ i, M i = M0 i ∨ (M i = n ∧ M0 i = 0 ∧ Reach l a b e s i)
  start : M s = n
  wait : ∀ w ∈ W, M w = n ∧ M0 w = 0 ∧ Reach l a b e s w
  hand : ∀ w c, x = some (w, c) → M w = n ∧ M0 w = 0 ∧ Reach l a b e s w ∧ ∀ t < c, (e = true ∨ t % 2 = 0) → ∀ j, isNb a b w t j → l.getD j 0 = 1 → M j ≠ 0
  done : ∀ i, M i = n → M0 i = 0 → i ∈ W ∨ (∃ c, x = some (i, c)) ∨ ∀ j, Nb a b e i j → l.getD j 0 = 1 → M j ≠ 0
theorem Flood.begin {M0 : Nat → Nat} {s n : Nat} (hs : s < a * b) (h1 : l.getD s 0 = 1) (h0 : M0 s = 0) (hn : Whole l a b e M0 n) : Flood l a b e M0 s n (fun i => if i = s then n else M0 i) [s] none := by
  refine ⟨fun i => ?_, if_pos rfl, fun w hw => ?_, (fun w c h => by cases h), fun i hi h2 => ?_⟩
  · by_cases h : i = s
    · subst h; exact Or.inr ⟨if_pos rfl, h0, .refl hs h1⟩
    · exact Or.inl (if_neg h)
  · rw [List.mem_singleton] at hw; subst hw
    exact ⟨if_pos rfl, h0, .refl hs h1⟩
  · by_cases h : i = s
    · subst h; exact Or.inl (List.mem_singleton.2 rfl)
    · try dsimp only at hi
      rw [if_neg h] at hi
      have := hn.lt i
      omega
theorem Flood.pop {M0 M : Nat → Nat} {s n w : Nat} {W : List Nat} (h : Flood l a b e M0 s n M (W ++ [w]) none) : Flood l a b e M0 s n M W (some (w, 0)) := by
  refine ⟨h.old, h.start, fun v hv => h.wait v (List.mem_append_left _ hv), fun v c hc => ?_, fun i h1 h2 => ?_⟩
  · cases hc
    obtain ⟨g1, g2, g3⟩ := h.wait w (List.mem_append_right _ (List.mem_singleton.2 rfl))
    exact ⟨g1, g2, g3, fun t ht => by omega⟩
  · rcases h.done i h1 h2 with g | ⟨c, g⟩ | g
    · rcases List.mem_append.1 g with g | g
      · exact Or.inl g
      · rw [List.mem_singleton] at g; subst g
        exact Or.inr (Or.inl ⟨0, rfl⟩)
    · cases g
    · exact Or.inr (Or.inr g)
theorem Flood.keep {M0 M : Nat → Nat} {s n w c c' : Nat} {W : List Nat} (h : Flood l a b e M0 s n M W (some (w, c))) (hc : ∀ t, c ≤ t → t < c' → (e = true ∨ t % 2 = 0) → ∀ j, isNb a b w t j → l.getD j 0 = 1 → M j ≠ 0) : Flood l a b e M0 s n M W (some (w, c')) := by
  refine ⟨h.old, h.start, h.wait, fun v d hd => ?_, fun i h1 h2 => ?_⟩
  · cases hd
    obtain ⟨g1, g2, g3, g4⟩ := h.hand w c rfl
    refine ⟨g1, g2, g3, fun t ht he j hj hl => ?_⟩
    rcases Nat.lt_or_ge t c with hlt | hge
    · exact g4 t hlt he j hj hl
    · exact hc t hge ht he j hj hl
  · rcases h.done i h1 h2 with g | ⟨d, g⟩ | g
    · exact Or.inl g
    · cases g; exact Or.inr (Or.inl ⟨c', rfl⟩)
    · exact Or.inr (Or.inr g)
theorem Flood.mark {M0 M : Nat → Nat} {s n w c k t : Nat} {W : List Nat} (hn : 0 < n) (h : Flood l a b e M0 s n M W (some (w, c))) (ht : t < 8) (he : e = true ∨ t % 2 = 0) (hk : isNb a b w t k) (hl : l.getD k 0 = 1) (h0 : M k = 0) (hm : Whole l a b e M0 n) : Flood l a b e M0 s n (fun i => if i = k then n else M i) (W ++ [k]) (some (w, c)) := by
  obtain ⟨g1, g2, g3, g4⟩ := h.hand w c rfl
  have hrk : Reach l a b e s k := g3.step ⟨t, ht, he, hk⟩ hl
  have hk0 : M0 k = 0 := by
    rcases h.old k with q | ⟨q, _⟩
    · rw [← q]; exact h0
    · omega
  have hmono : ∀ i, M i ≠ 0 → (if i = k then n else M i) ≠ 0 := fun i hi => by split <;> omega
  refine ⟨fun i => ?_, ?_, fun v hv => ?_, fun v d hd => ?_, fun i h1 h2 => ?_⟩
  · try dsimp only
    by_cases q : i = k
    · subst q; rw [if_pos rfl]; exact Or.inr ⟨rfl, hk0, hrk⟩
    · rw [if_neg q]; exact h.old i
  · try dsimp only
    split
    · rfl
    · exact h.start
  · try dsimp only
    rcases List.mem_append.1 hv with q | q
    · obtain ⟨f1, f2, f3⟩ := h.wait v q
      refine ⟨?_, f2, f3⟩
      split
      · rfl
      · exact f1
    · rw [List.mem_singleton] at q; subst q
      exact ⟨if_pos rfl, hk0, hrk⟩
  · cases hd
    try dsimp only
    refine ⟨?_, g2, g3, fun t' ht' he' j hj hlj => hmono j (g4 t' ht' he' j hj hlj)⟩
    split
    · rfl
    · exact g1
  · try dsimp only at h1
    by_cases q : i = k
    · subst q; exact Or.inl (List.mem_append_right _ (List.mem_singleton.2 rfl))
    · rw [if_neg q] at h1
      rcases h.done i h1 h2 with f | f | f
      · exact Or.inl (List.mem_append_left _ f)
      · exact Or.inr (Or.inl f)
      · exact Or.inr (Or.inr fun j hj hlj => hmono j (f j hj hlj))
theorem Flood.drop {M0 M : Nat → Nat} {s n w : Nat} {W : List Nat} (h : Flood l a b e M0 s n M W (some (w, 8))) : Flood l a b e M0 s n M W none := by
  obtain ⟨g1, g2, g3, g4⟩ := h.hand w 8 rfl
  refine ⟨h.old, h.start, h.wait, (fun v d hd => by cases hd), fun i h1 h2 => ?_⟩
  rcases h.done i h1 h2 with f | ⟨c, f⟩ | f
  · exact Or.inl f
  · cases f
    exact Or.inr (Or.inr fun j hj hlj => by
      obtain ⟨t, ht, he, hj⟩ := hj
      exact g4 t ht he j hj hlj)
  · exact Or.inr (Or.inr f)
/-- The component is marked, and nothing else. -/
theorem Flood.end {M0 M : Nat → Nat} {s n : Nat} (h : Flood l a b e M0 s n M [] none) (hm : Whole l a b e M0 n) (hs : s < a * b) (h1 : l.getD s 0 = 1) (h0 : M0 s = 0) : ∀ i, (Reach l a b e s i → M i = n) ∧ (¬ Reach l a b e s i → M i = M0 i) := by
  have hz : ∀ i, Reach l a b e s i → M0 i = 0 := by
    intro i hi
    cases hq : M0 i with
    | zero => rfl
    | succ q =>
      have := hm.same i s (by rw [hq]; exact Nat.succ_ne_zero q) hi.symm
      omega
  have hall : ∀ i, Reach l a b e s i → M i = n := by
    intro i hi
    induction hi with
    | refl _ _ => exact h.start
    | step g1 g2 g3 ih =>
      rcases h.done _ ih (hz _ g1) with f | ⟨c, f⟩ | f
      · cases f
      · cases f
      · have hne := f _ g2 g3
        rcases h.old _ with q | ⟨q, _⟩
        · rw [q, hz _ (g1.step g2 g3)] at hne; exact absurd rfl hne
        · exact q
  refine fun i => ⟨hall i, fun hno => ?_⟩
  rcases h.old i with q | ⟨_, _, q⟩
  · exact q
  · exact absurd q hno
theorem Whole.next {M0 M : Nat → Nat} {s n : Nat} (hm : Whole l a b e M0 n) (hn : 0 < n) (hs : s < a * b) (h1 : l.getD s 0 = 1) (h : ∀ i, (Reach l a b e s i → M i = n) ∧ (¬ Reach l a b e s i → M i = M0 i)) : Whole l a b e M (n + 1) := by
  classical
  refine ⟨fun i => ?_, fun i hi => ?_, fun i j hi hr => ?_⟩
  · by_cases q : Reach l a b e s i
    · rw [(h i).1 q]; omega
    · rw [(h i).2 q]; have := hm.lt i; omega
  · by_cases q : Reach l a b e s i
    · exact q.end_ok
    · rw [(h i).2 q] at hi; exact hm.ink i hi
  · by_cases q : Reach l a b e s i
    · rw [(h i).1 q, (h j).1 (q.trans hr)]
    · have q' : ¬ Reach l a b e s j := fun k => q (k.trans hr.symm)
      rw [(h i).2 q] at hi ⊢
      rw [(h j).2 q']
      exact hm.same i j hi hr
end
end Go.Am

/- Parts of slices of bytes. -/
namespace Go.Am
open Go

/-- v is a part of the slice p: n bytes from a on. -/
class Part (p : outParam AVal) (v : AVal) (a n : outParam Nat) : Prop where
  it : (n = 0 ∧ aLenS v = some (.int .i64 0) ∧ v.cells = [v] ∧ v.one = true) ∨ ∃ r off len cap cap', p = .slice r off len cap 1 ∧ v = .slice r (off + a) n cap' 1 ∧ a + n ≤ len
theorem Part.one {p v : AVal} {a n : Nat} (h : Part p v a n) : OneV v := by
  rcases h.it with ⟨_, _, h1, h2⟩ | ⟨r, off, len, cap, cap', _, rfl, _⟩
  · exact ⟨h1, h2⟩
  · infer_instance
theorem Part.lenS {p v : AVal} {a n : Nat} (h : Part p v a n) : aLenS v = some (.int .i64 n) := by
  rcases h.it with ⟨rfl, h1, _⟩ | ⟨r, off, len, cap, cap', _, rfl, _⟩
  · exact h1
  · rfl
section
variable {call : ACall} {fr : AFrame} {H : AHeap} {KF : AFrame → AHeap → Prop} {os : List ROper} {d : Nat}
theorem cells_sub {row : List AVal} {l : List UInt8} {off a b : Nat} (hc : (row.drop off).take l.length = cellsB l) (hb : b ≤ l.length) : (row.drop (off + a)).take (b - a) = cellsB ((l.drop a).take (b - a)) := by
  have h1 : (cellsB l).drop a = cellsB (l.drop a) := by simp [cellsB, List.map_drop]
  have h2 : ∀ (k : Nat) (m : List UInt8), (cellsB m).take k = cellsB (m.take k) := fun k m => by simp [cellsB, List.map_take]
  rw [← h2, ← h1, ← hc, List.drop_take, List.drop_drop, List.take_take]
  congr 1
  omega
/-- What a slice expression's bound says. -/
def bnd (o : Option AVal) (dflt n : Nat) : Prop := (o = none ∧ n = dflt) ∨ ∃ k, o = some (.int k n)
theorem exec_slc {x : ROpd} {lo hi : Option ROpd} {p : AVal} {l : List UInt8} {a b : Nat} (hx : x.ev fr = p) (hlo : bnd (lo.map (·.ev fr)) 0 a) (hhi : bnd (hi.map (·.ev fr)) l.length b) (hab : a ≤ b) (hbl : b ≤ l.length) [s : BytesI H p l] :
    ∃ v H', (ROp.sliceS 1 x lo hi none).exec call fr H = some (v, H') ∧ Part p v a (b - a) ∧ BytesI H' v ((l.drop a).take (b - a)) ∧ Ext H H' := by
  have hlen : ((l.drop a).take (b - a)).length = b - a := by rw [List.length_take, List.length_drop]; omega
  have hl1 : ∀ h, a ≤ h → aLow h (lo.map (·.ev fr)) = some a := by
    intro h hh
    rcases hlo with ⟨h1, rfl⟩ | ⟨k, h1⟩
    · rw [h1]; rfl
    · rw [h1]
      have : (0 : Int) ≤ (a : Int) ∧ (a : Int) ≤ (h : Int) := by omega
      simp only [aLow, aBound, if_pos this, Int.toNat_natCast]
  have hh1 : ∀ y, b ≤ y → aHigh l.length y (hi.map (·.ev fr)) = some b := by
    intro y hy
    rcases hhi with ⟨h1, rfl⟩ | ⟨k, h1⟩
    · rw [h1]; rfl
    · rw [h1]
      have : (0 : Int) ≤ (b : Int) ∧ (b : Int) ≤ (y : Int) := by omega
      simp only [aHigh, aBound, if_pos this, Int.toNat_natCast]
  rcases s.it with ⟨rfl, h0, _⟩ | ⟨r, off, cap, row, rw, e, rfl, hr, hg, hl, hc, hcap⟩
  · have e1 : b = 0 := by omega
    have e2 : a = 0 := by omega
    subst e1 e2
    have hb0 : aBounds 0 (some 0) (lo.map (·.ev fr)) (hi.map (·.ev fr)) none = some (0, 0, some 0) := by
      have h1 := hh1 (capD 0 (some 0)) (Nat.zero_le _)
      rw [h0] at h1
      simp only [aBounds, h1, hl1 0 (Nat.zero_le _)]
    refine ⟨.nslice, H, by simp only [ROp.exec, hx, Option.map_none, aSliceS, hb0, M.pure], ⟨Or.inl ⟨rfl, rfl, rfl, rfl⟩⟩, ?_, Ext.refl H⟩
    have e3 : (l.drop 0).take (0 - 0) = [] := by simp
    rw [e3]
    exact ⟨Or.inl ⟨rfl, rfl, rfl⟩⟩
  · rw [Nat.mul_one] at hl hc
    have hb0 : aBounds l.length cap (lo.map (·.ev fr)) (hi.map (·.ev fr)) none = some (a, b, cap) := by
      simp only [aBounds, hh1 _ (Nat.le_trans hbl hcap), hl1 b hab]
    have hsub := cells_sub (a := a) hc hbl
    have full : ∀ cap', (b - a ≤ capD (b - a) cap') → BytesI H (.slice r (off + a) (b - a) cap' 1) ((l.drop a).take (b - a)) := by
      intro cap' hc'
      unfold BytesI
      rw [hlen]
      exact ⟨Or.inr ⟨r, off + a, cap', row, rw, e, rfl, hr, hg, by omega, by rw [Nat.mul_one]; exact hsub, hc'⟩⟩
    have none0 : a = b → ∀ cap', BytesI H (.slice r off (b - a) cap' 1) ((l.drop a).take (b - a)) := by
      intro hE cap'
      subst hE
      have e3 : (l.drop a).take (a - a) = [] := by simp
      rw [e3, Nat.sub_self]
      exact ⟨Or.inr ⟨r, off, cap', row, rw, e, rfl, hr, hg, by simp; omega, by simp [cellsB], Nat.zero_le _⟩⟩
    cases cap with
    | some c =>
      simp only [capD] at hcap
      by_cases hca : c = a
      · have hE : a = b := by omega
        refine ⟨.slice r off (b - a) (some 0) 1, H, by simp only [ROp.exec, hx, Option.map_none, aSliceS, ne_eq, not_true, if_false, hb0, M.pure, if_pos hca], ⟨Or.inl ⟨by omega, by rw [hE, Nat.sub_self]; rfl, rfl, rfl⟩⟩, none0 hE _, Ext.refl H⟩
      · refine ⟨.slice r (off + a) (b - a) (some (c - a)) 1, H, by simp only [ROp.exec, hx, Option.map_none, aSliceS, ne_eq, not_true, if_false, hb0, M.pure, if_neg hca, Nat.mul_one], ⟨Or.inr ⟨r, off, l.length, some c, some (c - a), rfl, rfl, by omega⟩⟩, full _ (by simp only [capD]; omega), Ext.refl H⟩
    | none =>
      have h2 : ¬ row.length < off + l.length := by omega
      have hrow : aRow r H = some ((row, rw), H) := by simp only [aRow, if_pos hr, hg]
      by_cases hcd : a < b ∨ a = 0
      · refine ⟨.slice r (off + a) (b - a) none 1, H, ?_, ⟨Or.inr ⟨r, off, l.length, none, none, rfl, rfl, by omega⟩⟩, full _ (Nat.le_refl _), Ext.refl H⟩
        simp only [ROp.exec, hx, Option.map_none, aSliceS, ne_eq, not_true, if_false, hb0, Nat.mul_one, Nat.one_ne_zero, M.bind, hrow, if_neg h2, if_pos hcd, M.pure]
      · have hE : a = b := by omega
        refine ⟨.slice H.n 0 0 none 1, H.push (.row [] false 0), ?_, ⟨Or.inl ⟨by omega, rfl, rfl, rfl⟩⟩, ?_, (Ext.refl H).push _⟩
        · simp only [ROp.exec, hx, Option.map_none, aSliceS, ne_eq, not_true, if_false, hb0, Nat.mul_one, Nat.one_ne_zero, M.bind, hrow, if_neg h2, if_neg hcd, M.pure, aNew]
        · have e3 : (l.drop a).take (b - a) = [] := by rw [hE, Nat.sub_self]; simp
          rw [e3]
          exact ⟨Or.inr ⟨H.n, 0, none, [], false, 0, rfl, Nat.lt_succ_self _, push_get_eq, by simp, by simp [cellsB], Nat.zero_le _⟩⟩
theorem Fo.slc {x : ROpd} {lo hi : Option ROpd} {p : AVal} {l : List UInt8} {a b : Nat} (hx : x.ev fr = p) (hlo : bnd (lo.map (·.ev fr)) 0 a) (hhi : bnd (hi.map (·.ev fr)) l.length b) (hab : a ≤ b) (hbl : b ≤ l.length) [s : BytesI H p l]
    (h : ∀ v H1, Part p v a (b - a) → BytesI H1 v ((l.drop a).take (b - a)) → ExtI H H1 → WpO call os (upd fr d v) H1 KF) : WpO call (⟨some d, .sliceS 1 x lo hi none, none⟩ :: os) fr H KF := by
  obtain ⟨v, H1, h1, h2, h3, h4⟩ := exec_slc (call := call) hx hlo hhi hab hbl (s := s)
  exact WpO.step rfl ⟨v, H1, h1, h v H1 h2 h3 ⟨h4⟩⟩
end
theorem row_le {a b y : Nat} (hy : y < b) : y * a + a ≤ a * b := by
  have : (y + 1) * a ≤ b * a := Nat.mul_le_mul_right _ hy
  rw [Nat.add_mul, Nat.one_mul] at this
  rw [Nat.mul_comm a b]; exact this
end Go.Am

/- Slices that grow: append to a slice that the function alone holds. Loops over functions: the rules for contracts. -/
set_option maxHeartbeats 4000000
namespace Go.Am
open Go

/-- A slice that nobody else holds, with all of its row. -/
class OwnS (H : AHeap) (p : AVal) (sz : outParam Nat) (n : outParam Nat) (cs : outParam (List AVal)) (e : outParam TypeId) : Prop where
  it : (p = .nslice ∧ n = 0 ∧ cs = []) ∨ ∃ r e', p = .slice r 0 n none sz ∧ r < H.n ∧ H.get r = .row cs true e' ∧ e' / 2 = e ∧ cs.length = n * sz ∧ 0 < n
theorem OwnS.sl {H : AHeap} {p : AVal} {sz n : Nat} {cs : List AVal} {e : TypeId} (h : OwnS H p sz n cs e) : SliceAt H p sz n cs := by
  rcases h.it with ⟨h1, h2, h3⟩ | ⟨r, e', h1, h2, h3, h4, h5, h6⟩
  · exact ⟨Or.inl ⟨h1, h2, h3⟩⟩
  · exact ⟨Or.inr ⟨r, 0, none, cs, true, e', h1, h2, h3, by omega, by rw [List.drop_zero, List.take_of_length_le (by omega)], Nat.le_refl _⟩⟩
theorem OwnS.wr {H : AHeap} {p : AVal} {sz n : Nat} {cs : List AVal} {e : TypeId} (h : OwnS H p sz n cs e) : WrS H p := ⟨fun r off len cap s q => by
  rcases h.it with ⟨h1, _⟩ | ⟨r', e', h1, h2, h3, _⟩
  · rw [h1] at q; cases q
  · rw [h1] at q; cases q; exact ⟨cs, e', h3⟩⟩
theorem OwnS.keep {H H' : AHeap} {p : AVal} {sz n : Nat} {cs : List AVal} {e : TypeId} (h : OwnS H p sz n cs e) (hn : H.n ≤ H'.n) (hg : ∀ r off len cap sz, p = .slice r off len cap sz → r < H.n → H'.get r = H.get r) : OwnS H' p sz n cs e := by
  rcases h.it with ⟨h1, h2, h3⟩ | ⟨r, e', h1, h2, h3, h4⟩
  · exact ⟨Or.inl ⟨h1, h2, h3⟩⟩
  · exact ⟨Or.inr ⟨r, e', h1, by omega, by rw [hg _ _ _ _ _ h1 h2]; exact h3, h4⟩⟩
instance {H H' : AHeap} {p : AVal} {sz n : Nat} {cs : List AVal} {e : TypeId} [x : ExtI H H'] [h : OwnS H p sz n cs e] : OwnS H' p sz n cs e := h.keep x.ext.n fun _ _ _ _ _ _ hr => x.ext.get _ hr
instance {H : AHeap} {o : AObj} {p : AVal} {sz n : Nat} {cs : List AVal} {e : TypeId} [h : OwnS H p sz n cs e] : OwnS (H.push o) p sz n cs e := h.keep (Nat.le_succ _) fun _ _ _ _ _ _ hr => push_get_lt hr
instance {H : AHeap} {s : Nat} {o : AObj} {p : AVal} {sz n : Nat} {cs : List AVal} {e : TypeId} [h : OwnS H p sz n cs e] [k : RowNe p s] : OwnS (H.set s o) p sz n cs e := h.keep (Nat.le_refl _) fun _ _ _ _ _ e _ => set_get_ne (k.ne _ _ _ _ _ e)
instance {H H' : AHeap} {p q : AVal} {sz n : Nat} {cs : List AVal} {e : TypeId} [x : ExtP H H' q] [h : OwnS H p sz n cs e] [k : SepS p q] : OwnS H' p sz n cs e := h.keep x.n fun r _ _ _ _ e hr => x.get r hr ⟨fun r' _ _ _ _ e' => fun hh => k.ne _ _ _ _ _ _ _ _ _ _ e e' hh.symm⟩

theorem exec_grow {H : AHeap} {p q : AVal} {sz n k bytes : Nat} {cs new : List AVal} {e : TypeId} (h : OwnS H p sz n cs e) (hf : aLenOf q = some k ∧ aFirst sz k q H = some (new, H)) (hnl : new.length = k * sz) (hsz : 0 < sz) (hb : 0 < bytes) (hk : 0 < k) (hroom : 2 * (n + k) * bytes ≤ 2 ^ 48) (hone : new.all AVal.one = true) :
    ∃ p' H', aAppend e sz bytes p q H = some (p', H') ∧ OwnS H' p' sz (n + k) (cs ++ new) e ∧ FreshS H p' ∧ ExtP H H' p := by
  have hk0 : ¬ k = 0 := by omega
  have hs0 : ¬ sz = 0 := by omega
  have hb0 : ¬ bytes = 0 := by omega
  rcases h.it with ⟨rfl, rfl, rfl⟩ | ⟨r, e', rfl, h2, h3, h4, h5, h6⟩
  · refine ⟨.slice H.n 0 k none sz, H.push (.row new true (2 * e)), ?_, ⟨Or.inr ⟨H.n, 2 * e, by rw [Nat.zero_add], Nat.lt_succ_self _, by rw [List.nil_append]; exact push_get_eq, half_even _, by rw [List.nil_append, Nat.zero_add]; exact hnl, by omega⟩⟩, ⟨fun _ _ _ _ _ q => by cases q; exact Nat.le_refl _⟩, ⟨Nat.le_succ _, fun r hr _ => push_get_lt hr⟩⟩
    rw [Nat.zero_add] at hroom
    simp only [aAppend, hf.1]
    rw [bind_of hf.2]
    simp only [hone, hnl, Bool.not_true, ne_eq, not_true, decide_false, hs0, hb0, Bool.or_false, Bool.false_eq_true, if_false, hk0, if_pos hroom, M.bind, aNew, M.pure]
  · have hcl : 0 + n * sz ≤ cs.length := by omega
    have hno : ¬ (0 + (n + k) * sz ≤ cs.length) := by
      have : 0 < k * sz := Nat.mul_pos hk hsz
      rw [Nat.add_mul]; omega
    refine ⟨.slice H.n 0 (n + k) none sz, (H.set r .dead).push (.row (cs ++ new) true (2 * e + 1)), ?_, ⟨Or.inr ⟨H.n, 2 * e + 1, rfl, Nat.lt_succ_self _, push_get_eq (H := H.set r .dead), half_odd _, by rw [List.length_append, hnl, h5, Nat.add_mul], by omega⟩⟩, ⟨fun _ _ _ _ _ q => by cases q; exact Nat.le_refl _⟩, ⟨Nat.le_succ _, fun s hs hne => by
      have hsr : s ≠ r := fun q => hne.ne _ _ _ _ _ rfl q.symm
      rw [push_get_lt (H := H.set r .dead) hs, set_get_ne hsr]⟩⟩
    have ha : aRow r H = some ((cs, true), H) := by simp only [aRow, if_pos h2, h3]
    have hmv : aMove r e (.row (((cs.drop 0).take (n * sz)) ++ new) true (2 * e + 1)) H = some (H.n, (H.set r .dead).push (.row (cs ++ new) true (2 * e + 1))) := by
      simp only [aMove, h3, h4, nbeq_self]
      rw [List.drop_zero, List.take_of_length_le (by omega)]
    simp only [aAppend, hf.1]
    rw [bind_of hf.2]
    simp only [hone, hnl, Bool.not_true, ne_eq, not_true, decide_false, hs0, hb0, Bool.or_false, Bool.false_eq_true, if_false]
    rw [bind_of ha]
    simp only [hk0, if_false, hno, Bool.true_and, decide_eq_true hcl, decide_eq_true hroom, Bool.and_true, if_true]
    rw [bind_of hmv]
    rfl

theorem aFirst_at {H : AHeap} {q : AVal} {sz k : Nat} {new : List AVal} (h : SliceAt H q sz k new) : aLenOf q = some k ∧ aFirst sz k q H = some (new, H) := by
  rcases h.it with ⟨rfl, rfl, rfl⟩ | ⟨r, off, cap, row, rw, e0, rfl, hr, hg, hle, hc, _⟩
  · exact ⟨rfl, rfl⟩
  · exact ⟨rfl, by simp only [aFirst, ne_eq, not_true, if_false, M.bind, aRow, if_pos hr, hg, if_pos hle, hc, M.pure]⟩
section
variable {call : ACall} {fr : AFrame} {H : AHeap} {K : AVal → AHeap → Prop}
theorem WpX.grow {e : TypeId} {x y : ROpd} {p q : AVal} {sz n k bytes : Nat} {cs new : List AVal} (hx : x.ev fr = p) (hy : y.ev fr = q) [h : OwnS H p sz n cs e] [hq : SliceAt H q sz k new] (hsz : 0 < sz) (hb : 0 < bytes) (hk : 0 < k) (hroom : 2 * (n + k) * bytes ≤ 2 ^ 48) (hone : new.all AVal.one = true)
    (hK : ∀ p' H', OwnS H' p' sz (n + k) (cs ++ new) e → FreshS H p' → ExtP H H' p → K p' H') : WpX (.append e sz bytes x y) call fr H K := by
  obtain ⟨p', H', h1, h2, h3, h4⟩ := exec_grow h (aFirst_at hq) hq.len hsz hb hk hroom hone
  exact ⟨p', H', by simp only [ROp.exec, hx, hy]; exact h1, hK p' H' h2 h3 h4⟩
end

/- ===== loops over functions ===== -/
class HasLoop (H : AHeap) (r : Nat) (R : outParam RLoop) : Prop where
  lt : r < H.n
  get : H.get r = .loop R
instance {H : AHeap} {r : Nat} {R : RLoop} [h : HasLoop H r R] : LtN r H := ⟨h.lt⟩
theorem HasLoop.ext {H H' : AHeap} {r : Nat} {R : RLoop} (h : HasLoop H r R) (x : Ext H H') : HasLoop H' r R := ⟨Nat.lt_of_lt_of_le h.lt x.n, by rw [x.get r h.lt]; exact h.get⟩
instance {H H' : AHeap} {r : Nat} {R : RLoop} [x : ExtI H H'] [h : HasLoop H r R] : HasLoop H' r R := h.ext x.ext
instance {H : AHeap} {o : AObj} {r : Nat} {R : RLoop} [h : HasLoop H r R] : HasLoop (H.push o) r R := ⟨Nat.lt_succ_of_lt h.lt, by rw [push_get_lt h.lt]; exact h.get⟩
instance {H : AHeap} {R : RLoop} : HasLoop (H.push (.loop R)) H.n R := ⟨Nat.lt_succ_self _, push_get_eq⟩
instance {H : AHeap} {s : Nat} {o : AObj} {r : Nat} {R : RLoop} [h : HasLoop H r R] [k : NeR r s] : HasLoop (H.set s o) r R := ⟨h.lt, by rw [set_get_ne k.ne]; exact h.get⟩
instance {H : AHeap} {r : Nat} {R R' : RLoop} [h : HasLoop H r R'] : HasLoop (H.set r (.loop R)) r R := ⟨h.lt, set_get_eq⟩
instance {H H' : AHeap} {r : Nat} {R : RLoop} {q : AVal} [x : ExtP H H' q] [h : HasLoop H r R] [k : RowNe q r] : HasLoop H' r R := ⟨Nat.lt_of_lt_of_le h.lt x.n, by rw [x.get r h.lt k]; exact h.get⟩

section
variable {call : ACall} {lf : Nat} {fr : AFrame} {H : AHeap} {Q : RExit → AFrame → AHeap → Prop}
theorem Wp.range {fns : List FuncId} {nt : Nat} {g : ROpd} {ps : List Nat} {a b : RCode} {gf : FuncId} {fi ca vs : List AVal} (hg : g.ev fr = .func (.func gf) fi ca) (hv : fr nt = .tuple vs) (hf : fns.contains gf = true)
    (h : ∃ v H2 R, call gf (fi ++ [.yield (H.n + 1)] ++ ca) ((H.push .dead).push (.loop ⟨H.n, nt, fr, ps, a, b, 0, .normal⟩)) = some (v, H2) ∧ H2.get (H.n + 1) = .loop R ∧ (Nat.beq R.st 1 || Nat.beq R.st 4) = false ∧
      Q R.pend (upd fr nt (.tuple (.ptr H.n (H.n + 1) :: vs))) (H2.set (H.n + 1) (.loop { R with st := 3 }))) : Wp call lf (.rangeFunc fns nt g ps a b) fr H Q := by
  obtain ⟨v, H2, R, h1, h2, h3, h4⟩ := h
  refine ⟨_, _, _, ?_, h4⟩
  simp only [RCode.exec, hg, hv, hf, h1, h2, h3]
end

end Go.Am

set_option maxHeartbeats 4000000
set_option maxRecDepth 100000
namespace Go.Am
open Go
attribute [local irreducible] Wp WpO WpX WpE

/-- The package-level table. -/
abbrev aroundCs : List AVal := [.int .i64 0, .int .i64 (-1), .int .i64 1, .int .i64 (-1), .int .i64 1, .int .i64 0, .int .i64 1, .int .i64 1, .int .i64 0, .int .i64 1, .int .i64 (-1), .int .i64 1, .int .i64 (-1), .int .i64 0, .int .i64 (-1), .int .i64 (-1)]
/-- It is there. -/
class Tabs (H : AHeap) : Prop where
 it : tablesIn aroundT H = true
theorem tabs_iff {H : AHeap} : tablesIn aroundT H = true ↔ 0 < H.n ∧ ∃ rw e, H.get 0 = .row aroundCs rw e := by
 simp only [tablesIn, aroundT, List.all_cons, List.all_nil, Bool.and_true, Bool.and_eq_true]
 constructor
 ·rintro ⟨h1, h2⟩
  refine ⟨by simpa using h1, ?_⟩
  cases hg : H.get 0 with
  | row cs rw e => rw [hg] at h2; exact ⟨rw, e, by rw [abeqL_eq h2]⟩
  | _ => rw [hg] at h2; cases h2
 ·rintro ⟨h1, rw, e, hg⟩
  exact ⟨by simpa using h1, by rw [hg]; exact abeqL_refl _⟩
theorem Tabs.keep {H H' : AHeap} (h : Tabs H) (hn : H.n ≤ H'.n) (hg : H'.get 0 = H.get 0) : Tabs H' := by
 obtain ⟨h1, rw, e, h2⟩ := tabs_iff.1 h.it
 exact ⟨tabs_iff.2 ⟨by omega, rw, e, by rw [hg]; exact h2⟩⟩
theorem Tabs.lt {H : AHeap} (h : Tabs H) : 0 < H.n := (tabs_iff.1 h.it).1
theorem Tabs.ext {H H' : AHeap} (h : Tabs H) (x : Ext H H') : Tabs H' := h.keep x.n (x.get 0 h.lt)
class NeZ (s : Nat) : Prop where
 ne : s ≠ 0
instance {K : AHeap} [h : Tabs K] : NeZ K.n := ⟨by have := h.lt; omega⟩
instance {K : AHeap} {s : Nat} [g : GeN K s] [h : Tabs K] : NeZ s := ⟨by have := h.lt; have := g.ge; omega⟩
instance {H H' : AHeap} [x : ExtI H H'] [h : Tabs H] : Tabs H' := h.ext x.ext
instance {H : AHeap} {o : AObj} [h : Tabs H] : Tabs (H.push o) := h.ext ((Ext.refl H).push o)
instance {H : AHeap} {s : Nat} {o : AObj} [h : Tabs H] [z : NeZ s] : Tabs (H.set s o) := h.keep (Nat.le_refl _) (set_get_ne (fun e => z.ne e.symm))
instance {K H H' : AHeap} {p : AVal} [x : ExtP H H' p] [h : Tabs H] [f : FreshS K p] [k : Tabs K] : Tabs H' := h.keep x.n (x.get 0 h.lt ⟨fun r _ _ _ _ e => by have := f.ge _ _ _ _ _ e; have := k.lt; omega⟩)
theorem aClosed_nil {T : List (Nat × List AVal)} {v : AVal} {H : AHeap} (h : tablesIn T H = true) : aClosed T v [] H = some (v, H) := by
 show (match tablesIn T H with | true => some (v, H) | false => none) = some (v, H)
 rw [h]
instance K_awake {H : AHeap} [h : Tabs H] : PureCon ext prog 19 [] H 0 (.bool true) := ⟨fun n hn => by
 obtain ⟨k, rfl⟩ : ∃ k, n = k + 1 := ⟨n - 1, by unfold fuel0 at hn; omega⟩
 have e1 : prog 19 = some ⟨0, .ext 3, []⟩ := rfl
 refine ⟨.bool true, H, ?_, rfl, Ext.refl H⟩
 rw [call_ext e1]
 exact aClosed_nil h.it⟩

end Go.Am

set_option maxHeartbeats 8000000
set_option maxRecDepth 100000
set_option synthInstance.maxHeartbeats 4000000
set_option synthInstance.maxSize 100000
namespace Go.Am
open Go
attribute [local irreducible] Wp WpO WpX WpE

end Go.Am

/- The table of the neighbours. -/
set_option maxHeartbeats 4000000
namespace Go.Am
open Go
theorem Wp.label {call : ACall} {lf : Nat} {fr : AFrame} {H : AHeap} {Q : RExit → AFrame → AHeap → Prop} (h : Q .normal fr H) : Wp call lf .label fr H Q := ⟨_, _, _, rfl, h⟩
end Go.Am

set_option maxHeartbeats 8000000
set_option maxRecDepth 100000
set_option synthInstance.maxHeartbeats 4000000
set_option synthInstance.maxSize 100000
namespace Go.Am
open Go
attribute [local irreducible] Wp WpO WpX WpE

end Go.Am

set_option maxHeartbeats 8000000
set_option maxRecDepth 100000
set_option synthInstance.maxHeartbeats 4000000
set_option synthInstance.maxSize 100000
namespace Go.Am
open Go
attribute [local irreducible] Wp WpO WpX WpE

end Go.Am

/- A stack of numbers: a list that is cut at its end, and grows there. -/
set_option maxHeartbeats 4000000
namespace Go.Am
open Go

/-- A stack of numbers, which nobody else holds; its row's type is e. -/
structure Stk (H : AHeap) (p : AVal) (e : TypeId) (l : List Int) : Prop where
  it : ∃ r cap row e', p = .slice r 0 l.length cap 1 ∧ r < H.n ∧ H.get r = .row row true e' ∧ e' / 2 = e ∧ l.length ≤ row.length ∧ row.take l.length = cellsI l ∧ (cap = none ∨ ∃ c, cap = some c ∧ 0 < c ∧ c ≤ row.length ∧ l.length ≤ c)
theorem Stk.ints {H : AHeap} {p : AVal} {e : TypeId} {l : List Int} (h : Stk H p e l) : IntsI H p l := by
  obtain ⟨r, cap, row, e', rfl, h1, h2, h3, h4, h5, h6⟩ := h.it
  refine ⟨Or.inr ⟨r, 0, cap, row, true, e', rfl, h1, h2, by omega, by rw [Nat.mul_one, List.drop_zero]; exact h5, ?_⟩⟩
  rcases h6 with rfl | ⟨c, rfl, h6, h7, h8⟩
  · exact Nat.le_refl _
  · exact h8
theorem Stk.keep {H H' : AHeap} {p : AVal} {e : TypeId} {l : List Int} (h : Stk H p e l) (hn : H.n ≤ H'.n) (hg : ∀ r off len cap sz, p = .slice r off len cap sz → r < H.n → H'.get r = H.get r) : Stk H' p e l := by
  obtain ⟨r, cap, row, e', rfl, h1, h2, h3⟩ := h.it
  exact ⟨r, cap, row, e', rfl, Nat.lt_of_lt_of_le h1 hn, by rw [hg _ _ _ _ _ rfl h1]; exact h2, h3⟩
/-- The stack without its last number. -/
theorem exec_cut {H : AHeap} {p : AVal} {e : TypeId} {l : List Int} {k : Int} (h : Stk H p e (l ++ [k])) :
    ∃ p', aSliceS 1 p none (some (.int .i64 (l.length : Int))) none H = some (p', H) ∧ Stk H p' e l ∧ (∀ r off len cap sz, p' = .slice r off len cap sz → ∃ len' cap', p = .slice r off len' cap' sz) := by
  obtain ⟨r, cap, row, e', rfl, h1, h2, h3, h4, h5, h6⟩ := h.it
  rw [List.length_append, List.length_singleton] at h4 h5
  have ht : row.take l.length = cellsI l := by
    have := congrArg (List.take l.length) h5
    rw [List.take_take, Nat.min_eq_left (Nat.le_succ _)] at this
    rw [this]
    simp only [cellsI, List.map_append]
    rw [List.take_left' (by simp)]
  rw [List.length_append, List.length_singleton]
  have hrow : aRow r H = some ((row, true), H) := by simp only [aRow, if_pos h1, h2]
  rcases h6 with rfl | ⟨c, rfl, h6, h7, h8⟩
  · refine ⟨.slice r 0 l.length none 1, ?_, ⟨r, none, row, e', rfl, h1, h2, h3, by omega, ht, Or.inl rfl⟩, fun r' off len cap sz q => by cases q; exact ⟨_, _, rfl⟩⟩
    have hb : aBounds (l.length + 1) none none (some (.int .i64 (l.length : Int))) none = some (0, l.length, none) := by
      have g1 : (0 : Int) ≤ (l.length : Int) ∧ (l.length : Int) ≤ ((capD (l.length + 1) none : Nat) : Int) := by simp only [capD]; omega
      simp only [aBounds, aHigh, aBound, aLow, Int.toNat_natCast]
      rw [if_pos g1]
    have g2 : ¬ row.length < 0 + (l.length + 1) := by omega
    simp only [aSliceS, ne_eq, not_true, if_false, hb, Nat.mul_one, Nat.one_ne_zero, M.bind, hrow, if_neg g2, or_true, if_true, M.pure, Nat.add_zero, Nat.sub_zero]
  · rw [List.length_append, List.length_singleton] at h8
    refine ⟨.slice r 0 l.length (some c) 1, ?_, ⟨r, some c, row, e', rfl, h1, h2, h3, by omega, ht, Or.inr ⟨c, rfl, h6, h7, by omega⟩⟩, fun r' off len cap sz q => by cases q; exact ⟨_, _, rfl⟩⟩
    have hb : aBounds (l.length + 1) (some c) none (some (.int .i64 (l.length : Int))) none = some (0, l.length, some c) := by
      have g1 : (0 : Int) ≤ (l.length : Int) ∧ (l.length : Int) ≤ ((capD (l.length + 1) (some c) : Nat) : Int) := by simp only [capD]; omega
      simp only [aBounds, aHigh, aBound, aLow, Int.toNat_natCast]
      rw [if_pos g1]
    have g2 : ¬ c = 0 := by omega
    simp only [aSliceS, ne_eq, not_true, if_false, hb, if_neg g2, M.pure, Nat.zero_mul, Nat.add_zero, Nat.sub_zero]
/-- The stack with one number more. -/
theorem exec_push {H : AHeap} {p q : AVal} {e : TypeId} {l : List Int} {k : Int} (h : Stk H p e l) (hq : IntsI H q [k]) (hl : 2 * (l.length + 1) * 8 ≤ 2 ^ 48) :
    ∃ p' H', aAppend e 1 8 p q H = some (p', H') ∧ Stk H' p' e (l ++ [k]) ∧ ExtP H H' p ∧ (∀ K : AHeap, K.n ≤ H.n → FreshS K p → FreshS K p') := by
  obtain ⟨hf1, hf2⟩ := aFirst_at hq
  obtain ⟨r, cap, row, e', rfl, h1, h2, h3, h4, h5, h6⟩ := h.it
  have hf1' : aLenOf q = some 1 := hf1
  have hf2' : aFirst 1 1 q H = some ([.int .i64 k], H) := hf2
  have hrow : aRow r H = some ((row, true), H) := by simp only [aRow, if_pos h1, h2]
  have hone : ([AVal.int .i64 k].all AVal.one) = true := rfl
  have hcond : (!([AVal.int .i64 k].all AVal.one) || decide ([AVal.int .i64 k].length ≠ 1 * 1) || decide (1 = 0) || decide (8 = 0)) = false := rfl
  have hput : ∀ row : List AVal, l.length + 1 ≤ row.length → row.take l.length = cellsI l → (setAt row (0 + l.length * 1) [.int .i64 k]).take (l ++ [k]).length = cellsI (l ++ [k]) := by
    intro row g1 g2
    rw [Nat.zero_add, Nat.mul_one]
    show (row.set l.length _).take _ = _
    rw [List.length_append, List.length_singleton]
    apply List.ext_getElem?
    intro i
    rw [List.getElem?_take]
    by_cases hi : i < l.length
    · have g3 := congrArg (fun z => z[i]?) g2
      simp only [List.getElem?_take, if_pos hi] at g3
      rw [if_pos (by omega), List.getElem?_set_ne (by omega), g3]
      simp only [cellsI, List.map_append]
      rw [List.getElem?_append_left (by simp; exact hi)]
    · by_cases hi' : i = l.length
      · subst hi'
        rw [if_pos (Nat.lt_succ_self _), List.getElem?_set_self (by omega)]
        simp [cellsI]
      · rw [if_neg (by omega), List.getElem?_eq_none (by simp [cellsI]; omega)]
  have hnew : (row.take l.length ++ [AVal.int .i64 k]) = cellsI (l ++ [k]) := by rw [h5]; simp [cellsI]
  have hw : ∀ _ : l.length + 1 ≤ row.length, aWrite r (0 + l.length * 1) [.int .i64 k] H = some ((), H.set r (.row (setAt row (0 + l.length * 1) [.int .i64 k]) true e')) := by
    intro g
    simp only [aWrite, if_pos h1, h2, hone, Bool.and_true, Bool.true_and]
    rw [if_pos (decide_eq_true (by simp only [List.length_singleton]; omega))]
  have hin : ∀ cap', (cap' = none ∨ ∃ c, cap' = some c ∧ 0 < c ∧ c ≤ row.length ∧ l.length + 1 ≤ c) → l.length + 1 ≤ row.length → Stk (H.set r (.row (setAt row (0 + l.length * 1) [.int .i64 k]) true e')) (.slice r 0 (l.length + 1) cap' 1) e (l ++ [k]) := by
    intro cap' g1 g2
    refine ⟨r, cap', _, e', by rw [List.length_append, List.length_singleton], h1, set_get_eq, h3, by rw [setAt_length, List.length_append, List.length_singleton]; exact g2, hput row g2 h5, ?_⟩
    rcases g1 with g1 | ⟨c, g1, g3, g4, g5⟩
    · exact Or.inl g1
    · exact Or.inr ⟨c, g1, g3, by rw [setAt_length]; exact g4, by rw [List.length_append, List.length_singleton]; exact g5⟩
  have hout : ∀ e'', e'' / 2 = e → ∀ H2 : AHeap, H2.n = H.n → Stk (H2.push (.row (cellsI (l ++ [k])) true e'')) (.slice H.n 0 (l.length + 1) none 1) e (l ++ [k]) := by
    intro e'' g H2 g2
    have hq0 : (cellsI (l ++ [k])).length = (l ++ [k]).length := cellsI_length _
    refine ⟨H.n, none, _, e'', by rw [List.length_append, List.length_singleton], by rw [← g2]; exact Nat.lt_succ_self _, by rw [← g2]; exact push_get_eq, g, by rw [hq0]; exact Nat.le_refl _, by rw [← hq0, List.take_length], Or.inl rfl⟩
  have hx : ∀ o, ExtP H (H.set r o) (.slice r 0 l.length cap 1) := fun o => ⟨Nat.le_refl _, fun s hs hne => set_get_ne (fun hh => hne.ne _ _ _ _ _ rfl hh.symm)⟩
  rcases h6 with rfl | ⟨c, rfl, h6, h7, h8⟩
  · by_cases g : l.length + 1 ≤ row.length
    · refine ⟨_, _, ?_, hin none (Or.inl rfl) g, hx _, fun K hK f => ⟨fun r' off len cap sz q => by cases q; exact f.ge _ _ _ _ _ rfl⟩⟩
      have hle : 0 + (l.length + 1) * 1 ≤ row.length := by omega
      simp only [aAppend, hf1', M.bind, hf2', hcond, Bool.false_eq_true, if_false]
      simp only [M.bind, if_false, Bool.false_eq_true, ne_eq, not_true, hrow, Nat.one_ne_zero, if_pos hle, hw g]
      rfl
    · refine ⟨.slice H.n 0 (l.length + 1) none 1, (H.set r .dead).push (.row (cellsI (l ++ [k])) true (2 * e + 1)), ?_, hout _ (half_odd _) (H.set r .dead) rfl, ⟨Nat.le_succ _, fun s hs hne => by
        rw [push_get_lt (H := H.set r .dead) hs, set_get_ne (fun hh => hne.ne _ _ _ _ _ rfl hh.symm)]⟩, fun K hK f => ⟨fun r' off len cap sz q => by cases q; exact hK⟩⟩
      have hno : ¬ 0 + (l.length + 1) * 1 ≤ row.length := by omega
      have hcl : 0 + l.length * 1 ≤ row.length := by omega
      have hmv : aMove r e (.row (((row.drop 0).take (l.length * 1)) ++ [.int .i64 k]) true (2 * e + 1)) H = some (H.n, (H.set r .dead).push (.row (cellsI (l ++ [k])) true (2 * e + 1))) := by
        simp only [aMove, h2, h3, nbeq_self]
        rw [List.drop_zero, Nat.mul_one, hnew]
      simp only [aAppend, hf1', M.bind, hf2', hcond, Bool.false_eq_true, if_false]
      simp only [M.bind, if_false, Bool.false_eq_true, ne_eq, not_true, hrow, Nat.one_ne_zero, hno, Bool.true_and, decide_eq_true hcl, decide_eq_true hl, Bool.and_true, if_true, hmv]
      rfl
  · by_cases g : l.length + 1 ≤ c
    · refine ⟨_, _, ?_, hin (some c) (Or.inr ⟨c, rfl, h6, h7, g⟩) (by omega), hx _, fun K hK f => ⟨fun r' off len cap sz q => by cases q; exact f.ge _ _ _ _ _ rfl⟩⟩
      simp only [aAppend, hf1', M.bind, hf2', hcond, Bool.false_eq_true, if_false]
      simp only [M.bind, if_false, Bool.false_eq_true, ne_eq, not_true, hrow, Nat.one_ne_zero, if_pos g, hw (by omega)]
      rfl
    · refine ⟨.slice H.n 0 (l.length + 1) none 1, H.push (.row (cellsI (l ++ [k])) true (2 * e)), ?_, hout _ (half_even _) H rfl, ⟨Nat.le_succ _, fun s hs _ => push_get_lt hs⟩, fun K hK f => ⟨fun r' off len cap sz q => by cases q; exact hK⟩⟩
      have hcl : 0 + l.length * 1 ≤ row.length := by omega
      have hand : 0 + l.length * 1 ≤ row.length ∧ 2 * (l.length + 1) * 8 ≤ 2 ^ 48 := ⟨hcl, hl⟩
      have hnw : aNew (.row (((row.drop 0).take (l.length * 1)) ++ [.int .i64 k]) true (2 * e)) H = some (H.n, H.push (.row (cellsI (l ++ [k])) true (2 * e))) := by
        rw [List.drop_zero, Nat.mul_one, hnew]; rfl
      simp only [aAppend, hf1', M.bind, hf2', hcond, Bool.false_eq_true, if_false]
      simp only [M.bind, if_false, Bool.false_eq_true, ne_eq, not_true, hrow, Nat.one_ne_zero, if_neg g, if_pos hand, hnw]
      rfl

def cN (l : List Nat) : List Int := l.map fun n : Nat => (n : Int)
theorem cN_length (l : List Nat) : (cN l).length = l.length := by simp [cN]
theorem cN_snoc (l : List Nat) (k : Nat) : cN (l ++ [k]) = cN l ++ [(k : Int)] := by simp [cN]
theorem cN_set (l : List Nat) (i k : Nat) : (cN l).set i (k : Int) = cN (l.set i k) := by simp [cN, List.map_set]
theorem cN_get {l : List Nat} {i : Nat} (h : i < (cN l).length) : (cN l)[i] = ((l.getD i 0 : Nat) : Int) := by
  have h' : i < l.length := by rw [cN_length] at h; exact h
  simp only [cN, List.getElem_map, List.getD_eq_getElem?_getD, List.getElem?_eq_getElem h', Option.getD_some]
section
variable {call : ACall} {fr : AFrame} {H : AHeap} {K : AVal → AHeap → Prop}
theorem WpX.cut {x : ROpd} {hi : Option ROpd} {p : AVal} {e : TypeId} {l : List Nat} {k : Nat} (hx : x.ev fr = p) (hhi : hi.map (·.ev fr) = some (.int .i64 (l.length : Int))) (h : Stk H p e (cN (l ++ [k])))
    (hK : ∀ p', Stk H p' e (cN l) → (∀ r off len cap sz, p' = .slice r off len cap sz → ∃ len' cap', p = .slice r off len' cap' sz) → K p' H) : WpX (.sliceS 1 x none hi none) call fr H K := by
  rw [cN_snoc] at h
  obtain ⟨p', h1, h2, h3⟩ := exec_cut h
  rw [cN_length] at h1
  exact ⟨_, _, by simp only [ROp.exec, hx, hhi, Option.map_none]; exact h1, hK p' h2 h3⟩
theorem WpX.push {e : TypeId} {x y : ROpd} {p q : AVal} {l : List Nat} {k : Nat} (hx : x.ev fr = p) (hy : y.ev fr = q) (h : Stk H p e (cN l)) (hq : IntsI H q [(k : Int)]) (hl : 2 * (l.length + 1) * 8 ≤ 2 ^ 48)
    (hK : ∀ p' H', Stk H' p' e (cN (l ++ [k])) → ExtP H H' p → (∀ K : AHeap, K.n ≤ H.n → FreshS K p → FreshS K p') → K p' H') : WpX (.append e 1 8 x y) call fr H K := by
  obtain ⟨p', H', h1, h2, h3, h4⟩ := exec_push h hq (by rw [cN_length]; exact hl)
  rw [← cN_snoc] at h2
  exact ⟨_, _, by simp only [ROp.exec, hx, hy]; exact h1, hK p' H' h2 h3 h4⟩
end
theorem ExtP.fresh {H H2 H3 : AHeap} {p q : AVal} (x : ExtP H H2 p) (y : ExtP H2 H3 q) (f : FreshS H q) : ExtP H H3 p :=
  ⟨Nat.le_trans x.n y.n, fun r hr hn => by
    rw [y.get r (Nat.lt_of_lt_of_le hr x.n) ⟨fun r' off len cap sz e => by have := f.ge _ _ _ _ _ e; omega⟩]
    exact x.get r hr hn⟩
theorem Stk.pushed {H : AHeap} {p : AVal} {e : TypeId} {l : List Int} {o : AObj} (h : Stk H p e l) : Stk (H.push o) p e l := h.keep (Nat.le_succ _) fun _ _ _ _ _ _ hr => push_get_lt hr
theorem Stk.other {H H' : AHeap} {p q : AVal} {e : TypeId} {l : List Int} (h : Stk H p e l) (x : ExtP H H' q) (k : SepS p q) : Stk H' p e l := h.keep x.n fun r _ _ _ _ e hr => x.get r hr ⟨fun r' _ _ _ _ e' => fun hh => k.ne _ _ _ _ _ _ _ _ _ _ e e' hh.symm⟩
/-- How the heap stands while a component is marked: K is the heap at the beginning, mk the marks, r5 the box with the image, wt the stack. -/
structure FHp (K : AHeap) (mk : AVal) (img : List AVal) (r5 : Nat) (wt : AVal) (W M : List Nat) (H2 : AHeap) : Prop where
  bm : IntsI H2 mk (cN M)
  wm : WrS H2 mk
  st : Stk H2 wt 3 (cN W)
  fs : FreshS K wt
  g5 : HasRow H2 r5 img true (2 * 24)
  x : ExtP K H2 mk
/-- The steps between the neighbours that count. -/
def stp (e : Bool) : Nat := bif e then 1 else 2
theorem Wp.set2 {call : ACall} {lf : Nat} {fr : AFrame} {H : AHeap} {Q : RExit → AFrame → AHeap → Prop} {d : Nat} {c : ROpd} {x y : Int} {e : Bool} (hc : c.ev fr = .bool e) (hd : fr d = .int .i64 y) (h : Q .normal (upd fr d (.int .i64 (bif e then x else y))) H) : Wp call lf (.cond c (.region [⟨some d, .mov (.val (.int .i64 x)), none⟩]) .skip) fr H Q := by
  refine Wp.cond hc ?_
  cases e
  · refine Wp.skip ?_
    have : upd fr d (.int .i64 y) = fr := by
      funext i
      rw [upd_at]
      split
      · next q => rw [q, hd]
      · rfl
    rwa [show (bif false then x else y) = y from rfl, this] at h
  · exact Wp.region (WpO.do (WpX.mov (WpO.nil h)))
/-- The table of the neighbours, as a row. -/
theorem tab_row {H : AHeap} (h : Tabs H) : ∃ rw e, HasRow H 0 aroundCs rw e := by
  obtain ⟨h1, rw, e, h2⟩ := tabs_iff.1 h.it
  exact ⟨rw, e, ⟨h1, h2⟩⟩
theorem getD_setN {M : List Nat} {k v : Nat} (h : k < M.length) : (fun i => (M.set k v).getD i 0) = fun i => if i = k then v else M.getD i 0 := by
  funext i
  simp only [List.getD_eq_getElem?_getD]
  by_cases hi : i = k
  · subst hi; rw [if_pos rfl, List.getElem?_set_self h]; rfl
  · rw [if_neg hi, List.getElem?_set_ne (fun e => hi e.symm)]
theorem count_setN {M : List Nat} {k v : Nat} (h : k < M.length) (h0 : M.getD k 0 = 0) (hv : 0 < v) : (M.set k v).count 0 + 1 = M.count 0 := by
  have hk : M[k] = 0 := by
    rw [List.getD_eq_getElem?_getD, List.getElem?_eq_getElem h, Option.getD_some] at h0; exact h0
  have hm : 0 < M.count 0 := List.count_pos_iff.2 (hk ▸ List.getElem_mem h)
  have hvz : (v == 0) = false := by simpa using (by omega : v ≠ 0)
  rw [List.count_set h, hk, hvz]
  simp only [beq_self_eq_true, if_true, Bool.false_eq_true, if_false]
  omega
theorem Fits.len {a b : Nat} {l : List UInt8} (h : Fits a b l) : l.length = a * b := by
  have := h.it
  simp only [sizedB, sideB, Bool.and_eq_true, beq_iff_eq, decide_eq_true_eq] at this
  obtain ⟨⟨⟨h1, h2⟩, h3, h4⟩, h5⟩ := this
  have := Nat.mul_le_mul (show a ≤ 640 by omega) (show b ≤ 640 by omega)
  rw [wm (by omega)] at h5
  omega
theorem snoc_cases (W : List Nat) : W = [] ∨ ∃ W' w, W = W' ++ [w] := by
  rcases List.eq_nil_or_concat W with h | ⟨W', w, h⟩
  · exact Or.inl h
  · exact Or.inr ⟨W', w, by rw [h, List.concat_eq_append]⟩
section
variable {l : List UInt8} {a b : Nat} {e : Bool} {M0 : Nat → Nat} {s n w T : Nat} {W M : List Nat}
theorem ring_nb {t j : Nat} (h : isNb a b w t j) : ringF a b l ((w % a : Nat) : Int) ((w / a : Nat) : Int) t = (l.getD j 0 == 1) := by
  obtain ⟨u, v, hu, hv, e1, e2, rfl⟩ := h
  show inkB a b l (_ + _) (_ + _) = _
  rw [← e1, ← e2]; exact inkB_mk hu hv
theorem nb_unique {t j k : Nat} (h : isNb a b w t j) (g : isNb a b w t k) : j = k := by
  obtain ⟨u, v, _, _, e1, e2, rfl⟩ := h
  obtain ⟨u', v', _, _, e1', e2', rfl⟩ := g
  have h1 : u = u' := by omega
  have h2 : v = v' := by omega
  rw [h1, h2]
theorem stp_even (h : T % stp e = 0) : e = true ∨ T % 2 = 0 := by
  cases e
  · exact Or.inr h
  · exact Or.inl rfl
theorem Flood.next0 {M : Nat → Nat} (h : Flood l a b e M0 s n M W (some (w, T))) (he : T % stp e = 0) (hk : ∀ j, isNb a b w T j → l.getD j 0 = 1 → M j ≠ 0) : Flood l a b e M0 s n M W (some (w, T + stp e)) := by
  refine h.keep fun t h1 h2 h3 j hj hl => ?_
  rcases Nat.lt_or_eq_of_le h1 with h4 | rfl
  · cases e
    · have h5 : T % 2 = 0 := he
      have h6 : t < T + 2 := h2
      rcases h3 with h3 | h3
      · cases h3
      · omega
    · have h6 : t < T + 1 := h2
      omega
  · exact hk j hj hl
theorem Flood.off (h : Flood l a b e M0 s n (fun i => M.getD i 0) W (some (w, T))) (he : T % stp e = 0) (hv : ringF a b l ((w % a : Nat) : Int) ((w / a : Nat) : Int) T = false) : Flood l a b e M0 s n (fun i => M.getD i 0) W (some (w, T + stp e)) :=
  h.next0 he fun j hj hl => by rw [ring_nb hj, hl] at hv; cases hv
theorem Flood.been (h : Flood l a b e M0 s n (fun i => M.getD i 0) W (some (w, T))) (he : T % stp e = 0) {k : Nat} (hk : isNb a b w T k) (h0 : M.getD k 0 ≠ 0) : Flood l a b e M0 s n (fun i => M.getD i 0) W (some (w, T + stp e)) :=
  h.next0 he fun j hj _ => by rw [nb_unique hj hk]; exact h0
theorem Flood.add (h : Flood l a b e M0 s n (fun i => M.getD i 0) W (some (w, T))) (he : T % stp e = 0) {k : Nat} (hT : T < 8) (hk : isNb a b w T k) (hl : l.getD k 0 = 1) (h0 : M.getD k 0 = 0) (hm : Whole l a b e M0 n) (hn : 0 < n) (hkM : k < M.length) : Flood l a b e M0 s n (fun i => (M.set k n).getD i 0) (W ++ [k]) (some (w, T + stp e)) := by
  have h1 := h.mark hn hT (stp_even he) hk hl h0 hm
  rw [← getD_setN hkM] at h1
  refine h1.next0 he fun j hj _ => ?_
  rw [nb_unique hj hk, congrFun (getD_setN hkM) k, if_pos rfl]; omega
end
theorem wd {x : Nat} {d : Int} (h : x ≤ 640) (hd : -1 ≤ d ∧ d ≤ 1) : IntKind.i64.wrap ((x : Int) + d) = (x : Int) + d := w64 (by omega)
theorem one_ints {H : AHeap} {k : Int} {e : TypeId} : IntsI (H.push (.row [.int .i64 k] true e)) (.slice H.n 0 1 (some 1) 1) [k] := ⟨Or.inr ⟨H.n, 0, some 1, _, true, e, rfl, Nat.lt_succ_self _, push_get_eq, Nat.le_refl _, rfl, Nat.le_refl _⟩⟩
end Go.Am

/- Components with numbers: in the order of their first pixels. -/
set_option maxHeartbeats 4000000
namespace Go.Am
open Go
/-- The components that begin before i are marked, with the numbers of their first pixels in L, from 1. -/
structure Lab (l : List UInt8) (a b : Nat) (e : Bool) (M : List Nat) (L : List Nat) (i : Nat) : Prop where
  len : M.length = a * b
  whole : Whole l a b e (fun j => M.getD j 0) (L.length + 1)
  seen : ∀ j, j < i → l.getD j 0 = 1 → M.getD j 0 ≠ 0
  lead : ∀ m ∈ L, m < i ∧ Lead l a b e m m
  inc : L.Pairwise (· < ·)
  num : ∀ j, M.getD j 0 ≠ 0 → ∃ m, L[M.getD j 0 - 1]? = some m ∧ Reach l a b e m j
theorem getD_zeros (n i : Nat) : (List.replicate n 0).getD i 0 = 0 := by
  rw [List.getD_eq_getElem?_getD, List.getElem?_replicate]
  split <;> rfl
section
variable {l : List UInt8} {a b : Nat} {e : Bool} {M L : List Nat} {i : Nat}
theorem Lab.begin : Lab l a b e (List.replicate (a * b) 0) [] 0 :=
  ⟨List.length_replicate .., ⟨fun i => by show (List.replicate (a * b) 0).getD i 0 < _; rw [getD_zeros]; exact Nat.one_pos, fun i h => absurd (getD_zeros _ _) h, fun i j h => absurd (getD_zeros _ _) h⟩, fun j h => absurd h (Nat.not_lt_zero _), fun m h => (by cases h), List.Pairwise.nil, fun j h => absurd (getD_zeros _ _) h⟩
theorem Lab.skip (h : Lab l a b e M L i) (hi : l.getD i 0 = 1 → M.getD i 0 ≠ 0) : Lab l a b e M L (i + 1) :=
  ⟨h.len, h.whole, fun j hj hl => by
    rcases Nat.lt_succ_iff_lt_or_eq.1 hj with q | rfl
    · exact h.seen j q hl
    · exact hi hl, fun m hm => ⟨Nat.lt_succ_of_lt (h.lead m hm).1, (h.lead m hm).2⟩, h.inc, h.num⟩
theorem Lab.fresh (h : Lab l a b e M L i) (hi : i < a * b) (hl : l.getD i 0 = 1) (h0 : M.getD i 0 = 0) : Lead l a b e i i := by
  refine ⟨.refl hi hl, fun j hj => Nat.le_of_not_lt fun hlt => ?_⟩
  have h1 := h.seen j hlt hj.end_ok.2
  have h2 := h.whole.same j i h1 hj.symm
  exact h1 (by rw [← h2]; exact h0)
theorem Lab.next {M' : List Nat} (h : Lab l a b e M L i) (hi : i < a * b) (hl : l.getD i 0 = 1) (h0 : M.getD i 0 = 0) (hM : M'.length = a * b) (hm : ∀ j, (Reach l a b e i j → M'.getD j 0 = L.length + 1) ∧ (¬ Reach l a b e i j → M'.getD j 0 = M.getD j 0)) : Lab l a b e M' (L ++ [i]) (i + 1) := by
  classical
  have hlen : (L ++ [i]).length = L.length + 1 := by simp
  refine ⟨hM, by rw [hlen]; exact h.whole.next (Nat.succ_pos _) hi hl hm, fun j hj hlj => ?_, fun m hmm => ?_, ?_, fun j hj => ?_⟩
  · by_cases q : Reach l a b e i j
    · rw [(hm j).1 q]; exact Nat.succ_ne_zero _
    · rw [(hm j).2 q]
      rcases Nat.lt_succ_iff_lt_or_eq.1 hj with q' | rfl
      · exact h.seen j q' hlj
      · exact absurd (.refl hi hl) q
  · rcases List.mem_append.1 hmm with q | q
    · exact ⟨Nat.lt_succ_of_lt (h.lead m q).1, (h.lead m q).2⟩
    · rw [List.mem_singleton] at q; subst q
      exact ⟨Nat.lt_succ_self _, h.fresh hi hl h0⟩
  · rw [List.pairwise_append]
    exact ⟨h.inc, List.pairwise_singleton _ _, fun x hx y hy => by
      rw [List.mem_singleton] at hy; subst hy; exact (h.lead x hx).1⟩
  · by_cases q : Reach l a b e i j
    · refine ⟨i, ?_, q⟩
      rw [(hm j).1 q, Nat.add_sub_cancel, List.getElem?_append_right (Nat.le_refl _), Nat.sub_self]; rfl
    · rw [(hm j).2 q] at hj ⊢
      obtain ⟨m, h1, h2⟩ := h.num j hj
      refine ⟨m, ?_, h2⟩
      rw [List.getElem?_append_left (by
        rcases Nat.lt_or_ge (M.getD j 0 - 1) L.length with q' | q'
        · exact q'
        · rw [List.getElem?_eq_none q'] at h1; cases h1)]
      exact h1
theorem Lab.few (h : Lab l a b e M L i) : L.length ≤ i := by
  have h1 : ∀ m ∈ L, m < i := fun m hm => (h.lead m hm).1
  have h2 := h.inc
  clear h
  induction i generalizing L with
  | zero =>
    cases L with
    | nil => exact Nat.le_refl _
    | cons x _ => exact absurd (h1 x (List.mem_cons_self ..)) (Nat.not_lt_zero _)
  | succ i ih =>
    rcases snoc_cases L with rfl | ⟨L', w, rfl⟩
    · exact Nat.zero_le _
    · rw [List.pairwise_append] at h2
      rw [List.length_append, List.length_singleton]
      refine Nat.succ_le_succ (ih (fun m hm => ?_) h2.1)
      have h3 := h2.2.2 m hm w (List.mem_singleton.2 rfl)
      have h4 := h1 w (List.mem_append_right _ (List.mem_singleton.2 rfl))
      omega
end
end Go.Am

/- copy: bytes into a part of a slice. -/
set_option maxHeartbeats 4000000
namespace Go.Am
open Go
theorem setAt_get : ∀ (vs cs : List AVal) (off i : Nat), off + vs.length ≤ cs.length → (setAt cs off vs)[i]? = if off ≤ i ∧ i < off + vs.length then vs[i - off]? else cs[i]?
  | [], cs, off, i, _ => by
    rw [if_neg (by simp only [List.length_nil]; omega)]; rfl
  | v :: vs, cs, off, i, h => by
    rw [List.length_cons] at h
    rw [setAt, setAt_get vs (cs.set off v) (off + 1) i (by rw [List.length_set]; omega), List.length_cons]
    by_cases h1 : off = i
    · subst h1
      rw [if_neg (by omega), if_pos (by omega), List.getElem?_set, if_pos rfl, if_pos (by omega), Nat.sub_self]; rfl
    · by_cases h2 : off + 1 ≤ i ∧ i < off + 1 + vs.length
      · rw [if_pos h2, if_pos (by omega), show i - off = (i - (off + 1)) + 1 by omega]; rfl
      · rw [if_neg h2, if_neg (by omega), List.getElem?_set, if_neg h1]
section
variable {call : ACall} {n ref : Nat} {its : List DItem} {H0 H : AHeap} {E : List (Nat × AHeap)} {Rd : List (Nat × (AHeap → Bool))} {fr : AFrame} {K : AFrame → AHeap → Prop} {bm d : Nat} {pre : Bool} {g : Option (Nat × Bool)}
theorem Fe.slc {x : ROpd} {lo hi : Option ROpd} {p : AVal} {l : List UInt8} {a b : Nat} (hw : ROper.wanted fr ⟨some d, .sliceS 1 x lo hi none, g⟩ = true) (hx : x.ev fr = p) (hlo : bnd (lo.map (·.ev fr)) 0 a) (hhi : bnd (hi.map (·.ev fr)) l.length b) (hab : a ≤ b) (hbl : b ≤ l.length) [s : BytesI H p l]
    (h : ∀ v H1, Part p v a (b - a) → BytesI H1 v ((l.drop a).take (b - a)) → ExtI H H1 → AllR bm H1 Rd ∧ WpE call (n + 1) ref its H0 ((n, H) :: E) Rd (upd fr d v) H1 K) : WpE call n ref (⟨⟨some d, .sliceS 1 x lo hi none, g⟩, bm, 2, pre⟩ :: its) H0 E Rd fr H K := by
  obtain ⟨v, H1, h1, h2, h3, h4⟩ := exec_slc (call := call) hx hlo hhi hab hbl (s := s)
  obtain ⟨h5, h6⟩ := h v H1 h2 h3 ⟨h4⟩
  exact WpE.effect hw h1 h5 h6
end
end Go.Am

/- Stores of some cells into a slice; stores and growth as effects of a region without order. -/
set_option maxHeartbeats 4000000
namespace Go.Am
open Go
section
variable {call : ACall} {fr : AFrame} {H : AHeap} {K : AVal → AHeap → Prop}
theorem WpX.stPN {a x : ROpd} {p : AVal} {sz n j m : Nat} {cs vs : List AVal} {v : AVal} (ha : a.ev fr = .ptr (rowOf p) (offOf p + j)) (hx : x.ev fr = v) (hv : v.cells = vs) (hm : vs.length = m) (hm0 : 0 < m) (ho : vs.all AVal.one = true) [s : SliceAt H p sz n cs] [w : WrS H p] (hj : j + m ≤ cs.length)
    (h : ∀ H1, SliceAt H1 p sz n (setAt cs j vs) → WrS H1 p → ExtP H H1 p → K aundef H1) : WpX (.store m a x) call fr H K := by
  rcases s.it with ⟨_, _, rfl⟩ | ⟨r, off, cap, row, rw, e, rfl, hr, hg, hl, hc, hcap⟩
  · simp at hj; omega
  · obtain ⟨cs', e', hg'⟩ := w.it _ _ _ _ _ rfl
    rw [hg] at hg'; cases hg'
    have hlen := s.len
    refine WpX.store ha hx (by rw [hv]; exact hm) hr hg (by rw [hv, hm]; simp only [offOf]; omega) (by rw [hv]; exact ho) ?_
    rw [hv]
    refine h _ ⟨Or.inr ⟨r, off, cap, setAt row (off + j) vs, true, e, rfl, hr, set_get_eq, by rw [setAt_length]; exact hl, ?_, hcap⟩⟩ ⟨fun r' off' len' cap' sz' e' => by cases e'; exact ⟨_, _, set_get_eq⟩⟩ ⟨Nat.le_refl _, fun r' hr' hne => set_get_ne (fun hh => hne.ne _ _ _ _ _ rfl hh.symm)⟩
    have hcl : cs.length = n * sz := hlen
    rw [← hc] at hj ⊢
    rw [List.length_take, List.length_drop] at hj
    apply List.ext_getElem?
    intro i
    rw [setAt_get _ _ _ _ (by rw [List.length_take, List.length_drop]; omega)]
    rw [List.getElem?_take, List.getElem?_drop, setAt_get _ _ _ _ (by omega), List.getElem?_take, List.getElem?_drop]
    by_cases hi : i < n * sz
    · rw [if_pos hi]
      by_cases hij : j ≤ i ∧ i < j + vs.length
      · rw [if_pos hij, if_pos (by omega), show off + i - (off + j) = i - j by omega]
      · rw [if_neg hij, if_neg (by omega), if_pos hi]
    · rw [if_neg hi, if_neg (by omega), if_neg hi]
end
section
variable {call : ACall} {its : List DItem} {H0 : AHeap} {n ref : Nat} {E : List (Nat × AHeap)} {Rd : List (Nat × (AHeap → Bool))} {fr : AFrame} {H : AHeap} {K : AFrame → AHeap → Prop} {g : Option (Nat × Bool)} {b : Nat} {pre : Bool}
theorem WpE.stPN {d : Option Nat} {a x : ROpd} {p : AVal} {sz k j m : Nat} {cs vs : List AVal} {v : AVal} (hw : ROper.wanted fr ⟨d, .store m a x, g⟩ = true) (ha : a.ev fr = .ptr (rowOf p) (offOf p + j)) (hx : x.ev fr = v) (hv : v.cells = vs) (hm : vs.length = m) (hm0 : 0 < m) (ho : vs.all AVal.one = true) [s : SliceAt H p sz k cs] [w : WrS H p] (hj : j + m ≤ cs.length)
    (h : ∀ H1, SliceAt H1 p sz k (setAt cs j vs) → WrS H1 p → ExtP H H1 p → AllR b H1 Rd ∧ WpE call (n + 1) ref its H0 ((n, H) :: E) Rd (put fr d aundef) H1 K) : WpE call n ref (⟨⟨d, .store m a x, g⟩, b, 2, pre⟩ :: its) H0 E Rd fr H K := by
  obtain ⟨v', H1, h1, rfl, h2, h3, h4⟩ := WpX.stPN (call := call) (K := fun v H1 => v = aundef ∧ SliceAt H1 p sz k (setAt cs j vs) ∧ WrS H1 p ∧ ExtP H H1 p) ha hx hv hm hm0 ho hj fun H1 q1 q2 q3 => ⟨rfl, q1, q2, q3⟩
  obtain ⟨h5, h6⟩ := h H1 h2 h3 h4
  exact WpE.effect hw h1 h5 h6
theorem WpE.grow {d : Option Nat} {e : TypeId} {x y : ROpd} {p q : AVal} {sz m k bytes : Nat} {cs new : List AVal} (hw : ROper.wanted fr ⟨d, .append e sz bytes x y, g⟩ = true) (hx : x.ev fr = p) (hy : y.ev fr = q) [h : OwnS H p sz m cs e] [hq : SliceAt H q sz k new] (hsz : 0 < sz) (hb : 0 < bytes) (hk : 0 < k) (hroom : 2 * (m + k) * bytes ≤ 2 ^ 48) (hone : new.all AVal.one = true)
    (hK : ∀ p' H', OwnS H' p' sz (m + k) (cs ++ new) e → FreshS H p' → ExtP H H' p → AllR b H' Rd ∧ WpE call (n + 1) ref its H0 ((n, H) :: E) Rd (put fr d p') H' K) : WpE call n ref (⟨⟨d, .append e sz bytes x y, g⟩, b, 2, pre⟩ :: its) H0 E Rd fr H K := by
  obtain ⟨p', H1, h1, h2, h3, h4⟩ := WpX.grow (call := call) (K := fun v H1 => OwnS H1 v sz (m + k) (cs ++ new) e ∧ FreshS H v ∧ ExtP H H1 p) hx hy hsz hb hk hroom hone fun p' H' q1 q2 q3 => ⟨q1, q2, q3⟩
  obtain ⟨h5, h6⟩ := hK p' H1 h2 h3 h4
  exact WpE.effect hw h1 h5 h6
end
end Go.Am

/- Lists of components: each with its box and a list of its pixels. -/
set_option maxHeartbeats 4000000
namespace Go.Am
open Go
structure Bx where
  x : Int
  y : Int
  w : Int
  h : Int
def Bx.cells (b : Bx) : List AVal := [.int .i64 b.x, .int .i64 b.y, .int .i64 b.w, .int .i64 b.h]
/-- Boxes with their lists, as cells. -/
def cellsC : List (Bx × AVal) → List AVal
  | [] => []
  | c :: C => (c.1.cells ++ [c.2]) ++ cellsC C
theorem cellsC_length : ∀ C : List (Bx × AVal), (cellsC C).length = C.length * 5
  | [] => rfl
  | c :: C => by
    have := cellsC_length C
    simp only [cellsC, Bx.cells, List.length_append, List.length_cons, List.length_nil, this]
    omega
theorem setAt_right (u cs : List AVal) : ∀ (vs : List AVal) (j : Nat), setAt (u ++ cs) (u.length + j) vs = u ++ setAt cs j vs := by
  intro vs
  induction vs generalizing cs with
  | nil => intro j; rfl
  | cons v vs ih =>
    intro j
    show setAt ((u ++ cs).set (u.length + j) v) (u.length + j + 1) vs = u ++ setAt (cs.set j v) (j + 1) vs
    rw [← ih (cs.set j v) (j + 1)]
    congr 1
    apply List.ext_getElem?
    intro i
    by_cases hi : i < u.length
    · rw [List.getElem?_set_ne (by omega), List.getElem?_append_left hi, List.getElem?_append_left hi]
    · rw [List.getElem?_append_right (Nat.le_of_not_lt hi)]
      by_cases hj : u.length + j = i
      · subst hj
        rw [show u.length + j - u.length = j by omega]
        by_cases hc : j < cs.length
        · rw [List.getElem?_set_self (by rw [List.length_append]; omega), List.getElem?_set_self hc]
        · rw [List.getElem?_eq_none (by simp; omega), List.getElem?_eq_none (by simp; omega)]
      · rw [List.getElem?_set_ne hj, List.getElem?_append_right (Nat.le_of_not_lt hi), List.getElem?_set_ne (by omega)]
theorem cellsC_box : ∀ (C : List (Bx × AVal)) (k : Nat) (c : Bx × AVal) (b : Bx), C[k]? = some c → setAt (cellsC C) (k * 5) b.cells = cellsC (C.set k (b, c.2))
  | [], k, c, b, h => by simp at h
  | d :: C, 0, c, b, h => by
    simp only [List.getElem?_cons_zero, Option.some.injEq] at h
    subst h; rfl
  | d :: C, k + 1, c, b, h => by
    have ih := cellsC_box C k c b (by simpa using h)
    have hl : (d.1.cells ++ [d.2]).length = 5 := rfl
    show setAt ((d.1.cells ++ [d.2]) ++ cellsC C) ((k + 1) * 5) b.cells = (d.1.cells ++ [d.2]) ++ cellsC (C.set k (b, c.2))
    rw [show (k + 1) * 5 = (d.1.cells ++ [d.2]).length + k * 5 by rw [hl]; omega, setAt_right, ih]
theorem cellsC_px : ∀ (C : List (Bx × AVal)) (k : Nat) (c : Bx × AVal) (p : AVal), C[k]? = some c → (cellsC C).set (k * 5 + 4) p = cellsC (C.set k (c.1, p))
  | [], k, c, b, h => by simp at h
  | d :: C, 0, c, b, h => by
    simp only [List.getElem?_cons_zero, Option.some.injEq] at h
    subst h; rfl
  | d :: C, k + 1, c, p, h => by
    have ih := cellsC_px C k c p (by simpa using h)
    have hl : (d.1.cells ++ [d.2]).length = 5 := rfl
    have hs := setAt_right (d.1.cells ++ [d.2]) (cellsC C) [p] (k * 5 + 4)
    rw [setAt_one, setAt_one, hl, ih] at hs
    rw [show (k + 1) * 5 + 4 = 5 + (k * 5 + 4) by omega]
    exact hs
theorem cellsC_drop : ∀ (C : List (Bx × AVal)) (k : Nat) (c : Bx × AVal), C[k]? = some c → ∃ r, (cellsC C).drop (k * 5) = c.1.cells ++ [c.2] ++ r
  | [], k, c, h => by simp at h
  | d :: C, 0, c, h => by
    simp only [List.getElem?_cons_zero, Option.some.injEq] at h
    subst h; exact ⟨cellsC C, rfl⟩
  | d :: C, k + 1, c, h => by
    obtain ⟨r, hr⟩ := cellsC_drop C k c (by simpa using h)
    refine ⟨r, ?_⟩
    rw [← hr]
    show ((d.1.cells ++ [d.2]) ++ cellsC C).drop ((k + 1) * 5) = _
    rw [show (k + 1) * 5 = (d.1.cells ++ [d.2]).length + k * 5 by rw [show (d.1.cells ++ [d.2]).length = 5 from rfl]; omega, ← List.drop_drop, List.drop_left]
theorem cellsC_at {C : List (Bx × AVal)} {k : Nat} {c : Bx × AVal} (h : C[k]? = some c) : ((cellsC C).drop (k * 5)).take 4 = c.1.cells ∧ (cellsC C)[k * 5 + 4]? = some c.2 := by
  obtain ⟨r, hr⟩ := cellsC_drop C k c h
  refine ⟨by rw [hr]; rfl, ?_⟩
  have : ((cellsC C).drop (k * 5))[4]? = some c.2 := by rw [hr]; rfl
  rwa [List.getElem?_drop] at this
/-- Pixels of an image of the width a, as points. -/
def cellsK (a : Nat) (l : List Nat) : List AVal := l.flatMap fun k => [.int .i64 ((k % a : Nat) : Int), .int .i64 ((k / a : Nat) : Int)]
theorem cellsK_snoc (a : Nat) (l : List Nat) (k : Nat) : cellsK a (l ++ [k]) = cellsK a l ++ [.int .i64 ((k % a : Nat) : Int), .int .i64 ((k / a : Nat) : Int)] := by simp [cellsK]
/-- A list of components in the heap, each of which alone holds its list of pixels: P; K is an earlier heap. -/
structure Cmps (K H : AHeap) (q : AVal) (a : Nat) (C : List (Bx × AVal)) (P : List (List Nat)) : Prop where
  len : P.length = C.length
  row : SliceAt H q 5 C.length (cellsC C)
  wr : WrS H q
  own : ∀ (k : Nat) c l, C[k]? = some c → P[k]? = some l → OwnS H c.2 2 l.length (cellsK a l) 88
  fresh : ∀ (k : Nat) c, C[k]? = some c → FreshS K c.2
  sep : ∀ (i j : Nat) c d, C[i]? = some c → C[j]? = some d → i ≠ j → SepS c.2 d.2
  sepq : ∀ (k : Nat) c, C[k]? = some c → SepS c.2 q
theorem set_at {α : Type} {C : List α} {k j : Nat} {x y : α} (h : (C.set k x)[j]? = some y) : (j = k ∧ y = x) ∨ (j ≠ k ∧ C[j]? = some y) := by
  by_cases hj : j = k
  · subst hj
    have hlt : j < C.length := by
      rcases Nat.lt_or_ge j C.length with q | q
      · exact q
      · rw [List.getElem?_eq_none (by rw [List.length_set]; exact q)] at h; cases h
    rw [List.getElem?_set_self hlt] at h
    exact Or.inl ⟨rfl, (Option.some.inj h).symm⟩
  · rw [List.getElem?_set_ne (fun e => hj e.symm)] at h
    exact Or.inr ⟨hj, h⟩
theorem SepS.symm {p q : AVal} (h : SepS p q) : SepS q p := ⟨fun r off len cap sz r' off' len' cap' sz' e e' hh => h.ne _ _ _ _ _ _ _ _ _ _ e' e hh.symm⟩
/-- One component has a new box and one pixel more; the other ones stand. -/
theorem Cmps.step {K H H3 : AHeap} {q p' : AVal} {a k i : Nat} {C : List (Bx × AVal)} {P : List (List Nat)} {l : List Nat} {b : Bx} (h : Cmps K H q a C P) (hl : P[k]? = some l) (hs : SliceAt H3 q 5 C.length (cellsC (C.set k (b, p')))) (hw : WrS H3 q) (ho : OwnS H3 p' 2 (l.length + 1) (cellsK a (l ++ [i])) 88) (hf : FreshS K p') (hn : ∀ (j : Nat) d, C[j]? = some d → j ≠ k → SepS d.2 p') (hq : SepS p' q)
    (hkeep : ∀ (j : Nat) d l', j ≠ k → C[j]? = some d → P[j]? = some l' → OwnS H3 d.2 2 l'.length (cellsK a l') 88) : Cmps K H3 q a (C.set k (b, p')) (P.set k (l ++ [i])) := by
  refine ⟨by rw [List.length_set, List.length_set]; exact h.len, by rw [List.length_set]; exact hs, hw, fun j c l' h1 h2 => ?_, fun j c h1 => ?_, fun i' j c d h1 h2 hne => ?_, fun j c h1 => ?_⟩
  · rcases set_at h1 with ⟨rfl, rfl⟩ | ⟨e1, h1⟩
    · rcases set_at h2 with ⟨_, rfl⟩ | ⟨e2, _⟩
      · rw [List.length_append, List.length_singleton]; exact ho
      · exact absurd rfl e2
    · rcases set_at h2 with ⟨e2, _⟩ | ⟨_, h2⟩
      · exact absurd e2 e1
      · exact hkeep j c l' e1 h1 h2
  · rcases set_at h1 with ⟨_, rfl⟩ | ⟨_, h1⟩
    · exact hf
    · exact h.fresh j c h1
  · rcases set_at h1 with ⟨rfl, rfl⟩ | ⟨e1, g1⟩
    · rcases set_at h2 with ⟨e2, _⟩ | ⟨e2, h2⟩
      · exact absurd e2.symm hne
      · exact (hn j d h2 e2).symm
    · rcases set_at h2 with ⟨rfl, rfl⟩ | ⟨_, h2⟩
      · exact hn i' c g1 e1
      · exact h.sep i' j c d g1 h2 hne
  · rcases set_at h1 with ⟨_, rfl⟩ | ⟨_, h1⟩
    · exact hq
    · exact h.sepq j c h1
/-- Components without pixels. -/
def noC (n : Nat) : List (Bx × AVal) := List.replicate n (⟨0, 0, 0, 0⟩, .nslice)
theorem noC_cells (n : Nat) : (List.replicate n [AVal.int .i64 0, .int .i64 0, .int .i64 0, .int .i64 0, .nslice]).flatten = cellsC (noC n) := by
  induction n with
  | zero => rfl
  | succ n ih => rw [List.replicate_succ, List.flatten_cons, ih]; rfl
theorem rep_at {α : Type} {n k : Nat} {x y : α} (h : (List.replicate n x)[k]? = some y) : y = x := by
  rw [List.getElem?_replicate] at h
  split at h
  · exact (Option.some.inj h).symm
  · cases h
theorem WpX.mkC {call : ACall} {fr : AFrame} {H : AHeap} {K : AVal → AHeap → Prop} {e : TypeId} {x y : ROpd} {k k' : IntKind} {n m : Nat} (a : Nat) {K0 : AHeap} (hx : x.ev fr = .int k (n : Int)) (hy : y.ev fr = .int k' (n : Int)) (hm : m ≤ 64) (hn : n ≤ 2 ^ 40) (hK0 : K0.n ≤ H.n)
    (h : ∀ p H1, Cmps K0 H1 p a (noC n) (List.replicate n []) → FreshS H p → ExtI H H1 → K p H1) : WpX (.makeSlice e [.int .i64 0, .int .i64 0, .int .i64 0, .int .i64 0, .nslice] m x y) call fr H K := by
  have h0 : 0 ≤ (n : Int) ∧ (n : Int) ≤ (n : Int) ∧ (m : Int) * (n : Int) ≤ 2 ^ 47 ∧ (n : Int) < 2 ^ 62 := by
    have h1 : m * n ≤ 64 * 2 ^ 40 := Nat.mul_le_mul hm hn
    have h2 : ((m * n : Nat) : Int) = (m : Int) * (n : Int) := Int.natCast_mul m n
    refine ⟨by omega, by omega, by rw [← h2]; omega, by omega⟩
  refine ⟨.slice H.n 0 n (some n) 5, H.push (.row (cellsC (noC n)) true (2 * e)), ?_, h _ _ ?_ ⟨fun r off len cap sz q => by cases q; exact Nat.le_refl _⟩ ⟨(Ext.refl H).push _⟩⟩
  · simp only [ROp.exec, hx, hy, aMakeSlice, if_pos h0, M.bind, aNew, M.pure, Int.toNat_natCast, noC_cells]
    rfl
  · have hlen : (noC n).length = n := List.length_replicate ..
    have hcl := cellsC_length (noC n)
    rw [hlen] at hcl
    refine ⟨by rw [hlen, List.length_replicate], ?_, ⟨fun r off len cap sz q => by cases q; exact ⟨_, _, push_get_eq⟩⟩, fun k c l h1 h2 => ?_, fun k c h1 => ?_, fun i j c d h1 h2 _ => ?_, fun k c h1 => ?_⟩
    · rw [hlen]
      exact ⟨Or.inr ⟨H.n, 0, some n, _, true, _, rfl, Nat.lt_succ_self _, push_get_eq, by omega, by rw [List.drop_zero, List.take_of_length_le (by omega)], Nat.le_refl _⟩⟩
    · rw [rep_at h1, rep_at h2]; exact ⟨Or.inl ⟨rfl, rfl, rfl⟩⟩
    · rw [rep_at h1]; exact ⟨fun _ _ _ _ _ q => by cases q⟩
    · rw [rep_at h1]; exact ⟨fun _ _ _ _ _ _ _ _ _ _ q => by cases q⟩
    · rw [rep_at h1]; exact ⟨fun _ _ _ _ _ _ _ _ _ _ q => by cases q⟩
end Go.Am

set_option maxHeartbeats 4000000
set_option maxRecDepth 100000
namespace Go.Am
open Go
attribute [local irreducible] Wp WpO WpX WpE

/-- Are two pixels neighbours? -/
def nearB (x y u v : Int) (e : Bool) : Bool := !(decide (IntKind.i64.wrap (x - u) < -1) || decide (IntKind.i64.wrap (x - u) > 1) || decide (IntKind.i64.wrap (y - v) < -1) || decide (IntKind.i64.wrap (y - v) > 1)) && (e || ((IntKind.i64.wrap (x - u) == 0) || (IntKind.i64.wrap (y - v) == 0)))
instance K_near {x y u v : Int} {e : Bool} {H : AHeap} : PureCon ext prog 123 [.agg [.int .i64 x, .int .i64 y], .agg [.int .i64 u, .int .i64 v], .bool e] H 1 (.bool (nearB x y u v e)) := ⟨by
 refine con_of (show prog 123 = some c123 from rfl) rfl rfl fun n hn => ?_
 unfold nearB
 refine sq ?_
 refine rg fun KF hKF => ?_
 refine Fo.boxA rfl ?_
 refine Fo.boxA rfl ?_
 refine mB rfl ?_
 refine WpO.nil (hKF _ _ ?_)
 refine sq ?_
 refine Fr.quiet rfl rfl fun KF hKF => ?_
 refine Fo.fa rfl ?_
 refine Fo.ld rfl rfl ?_
 refine Fo.fa rfl ?_
 refine Fo.ld rfl rfl ?_
 refine Fo.bin rfl rfl rfl rfl ?_
 refine Fo.fa rfl ?_
 refine Fo.ld rfl rfl ?_
 refine Fo.fa rfl ?_
 refine Fo.ld rfl rfl ?_
 refine Fo.bin rfl rfl rfl rfl ?_
 refine mI rfl ?_
 refine mI rfl ?_
 refine WpO.nil (hKF _ _ ?_)
 refine sq ?_
 refine sq ?_
 refine rg fun KF hKF => ?_
 refine mI rfl ?_
 refine Fo.bin rfl rfl rfl rfl ?_
 refine mB rfl ?_
 cases g0 : decide (IntKind.i64.wrap (x - u) < -1)
 rotate_left
 ·skip
  refine Fo.no rfl rfl ?_
  refine Fo.no rfl rfl ?_
  refine tB rfl rfl ?_
  refine mB rfl ?_
  refine Fo.no rfl rfl ?_
  refine Fo.no rfl rfl ?_
  refine tB rfl rfl ?_
  refine mB rfl ?_
  refine Fo.no rfl rfl ?_
  refine Fo.no rfl rfl ?_
  refine tB rfl rfl ?_
  refine WpO.nil (hKF _ _ ?_)
  refine Wp.cond (b := true) rfl ?_
  refine sq ?_
  refine rg fun KF hKF => ?_
  refine mB rfl ?_
  refine WpO.nil (hKF _ _ ?_)
  refine Wp.ret ?_
  dsimp only [cond_true, cond_false]
  refine ⟨trivial, _, (by first | rfl | exact getAllC rfl rfl rfl rfl | exact getAllT rfl (getAllC rfl rfl rfl rfl) | exact getAllC rfl rfl rfl (getAllC rfl rfl rfl rfl) | exact getAllC1 rfl rfl rfl), ?_⟩
  exact ⟨by simp only [g0, Bool.or_true, Bool.true_or, Bool.false_or]; rfl, Ext0.ext⟩
 refine Fo.yes rfl rfl ?_
 refine mI rfl ?_
 refine Fo.yes rfl rfl ?_
 refine Fo.bin rfl rfl rfl rfl ?_
 refine fB rfl rfl ?_
 refine mB rfl ?_
 cases g1 : decide (IntKind.i64.wrap (x - u) > 1)
 rotate_left
 ·skip
  refine Fo.no rfl rfl ?_
  refine Fo.no rfl rfl ?_
  refine tB rfl rfl ?_
  refine mB rfl ?_
  refine Fo.no rfl rfl ?_
  refine Fo.no rfl rfl ?_
  refine tB rfl rfl ?_
  refine WpO.nil (hKF _ _ ?_)
  refine Wp.cond (b := true) rfl ?_
  refine sq ?_
  refine rg fun KF hKF => ?_
  refine mB rfl ?_
  refine WpO.nil (hKF _ _ ?_)
  refine Wp.ret ?_
  dsimp only [cond_true, cond_false]
  refine ⟨trivial, _, (by first | rfl | exact getAllC rfl rfl rfl rfl | exact getAllT rfl (getAllC rfl rfl rfl rfl) | exact getAllC rfl rfl rfl (getAllC rfl rfl rfl rfl) | exact getAllC1 rfl rfl rfl), ?_⟩
  exact ⟨by simp only [g0, g1, Bool.or_true, Bool.true_or, Bool.false_or]; rfl, Ext0.ext⟩
 refine Fo.yes rfl rfl ?_
 refine mI rfl ?_
 refine Fo.yes rfl rfl ?_
 refine Fo.bin rfl rfl rfl rfl ?_
 refine fB rfl rfl ?_
 refine mB rfl ?_
 cases g2 : decide (IntKind.i64.wrap (y - v) < -1)
 rotate_left
 ·skip
  refine Fo.no rfl rfl ?_
  refine Fo.no rfl rfl ?_
  refine tB rfl rfl ?_
  refine WpO.nil (hKF _ _ ?_)
  refine Wp.cond (b := true) rfl ?_
  refine sq ?_
  refine rg fun KF hKF => ?_
  refine mB rfl ?_
  refine WpO.nil (hKF _ _ ?_)
  refine Wp.ret ?_
  dsimp only [cond_true, cond_false]
  refine ⟨trivial, _, (by first | rfl | exact getAllC rfl rfl rfl rfl | exact getAllT rfl (getAllC rfl rfl rfl rfl) | exact getAllC rfl rfl rfl (getAllC rfl rfl rfl rfl) | exact getAllC1 rfl rfl rfl), ?_⟩
  exact ⟨by simp only [g0, g1, g2, Bool.or_true, Bool.true_or, Bool.false_or]; rfl, Ext0.ext⟩
 refine Fo.yes rfl rfl ?_
 refine mI rfl ?_
 refine Fo.yes rfl rfl ?_
 refine Fo.bin rfl rfl rfl rfl ?_
 refine fB rfl rfl ?_
 refine WpO.nil (hKF _ _ ?_)
 dsimp only [cond_true, cond_false]
 cases g3 : decide (IntKind.i64.wrap (y - v) > 1)
 rotate_left
 ·skip
  refine Wp.cond (b := true) rfl ?_
  refine sq ?_
  refine rg fun KF hKF => ?_
  refine mB rfl ?_
  refine WpO.nil (hKF _ _ ?_)
  refine Wp.ret ?_
  dsimp only [cond_true, cond_false]
  refine ⟨trivial, _, (by first | rfl | exact getAllC rfl rfl rfl rfl | exact getAllT rfl (getAllC rfl rfl rfl rfl) | exact getAllC rfl rfl rfl (getAllC rfl rfl rfl rfl) | exact getAllC1 rfl rfl rfl), ?_⟩
  exact ⟨by simp only [g0, g1, g2, g3, Bool.or_true, Bool.true_or, Bool.false_or]; rfl, Ext0.ext⟩
 refine Wp.cond (b := false) rfl ?_
 refine Wp.skip ?_
 refine sq ?_
 refine rg fun KF hKF => ?_
 refine mB rfl ?_
 refine mB rfl ?_
 cases e
 ·skip
  refine Fo.yes rfl rfl ?_
  refine mI rfl ?_
  refine Fo.yes rfl rfl ?_
  refine Fo.bin rfl rfl rfl rfl ?_
  refine fB rfl rfl ?_
  refine mB rfl ?_
  cases k1 : (IntKind.i64.wrap (x - u) == 0)
  ·skip
   refine Fo.yes rfl rfl ?_
   refine mI rfl ?_
   refine Fo.yes rfl rfl ?_
   refine Fo.bin rfl rfl rfl rfl ?_
   refine fB rfl rfl ?_
   refine mB rfl ?_
   refine WpO.nil (hKF _ _ ?_)
   refine Wp.ret ?_
   dsimp only [cond_true, cond_false]
   refine ⟨trivial, _, (by first | rfl | exact getAllC rfl rfl rfl rfl | exact getAllT rfl (getAllC rfl rfl rfl rfl) | exact getAllC rfl rfl rfl (getAllC rfl rfl rfl rfl) | exact getAllC1 rfl rfl rfl), ?_⟩
   exact ⟨by simp only [g0, g1, g2, g3, k1]; rfl, Ext0.ext⟩
  ·skip
   refine Fo.no rfl rfl ?_
   refine Fo.no rfl rfl ?_
   refine tB rfl rfl ?_
   refine mB rfl ?_
   refine WpO.nil (hKF _ _ ?_)
   refine Wp.ret ?_
   dsimp only [cond_true, cond_false]
   refine ⟨trivial, _, (by first | rfl | exact getAllC rfl rfl rfl rfl | exact getAllT rfl (getAllC rfl rfl rfl rfl) | exact getAllC rfl rfl rfl (getAllC rfl rfl rfl rfl) | exact getAllC1 rfl rfl rfl), ?_⟩
   exact ⟨by simp only [g0, g1, g2, g3, k1]; rfl, Ext0.ext⟩
 ·skip
  refine Fo.no rfl rfl ?_
  refine Fo.no rfl rfl ?_
  refine tB rfl rfl ?_
  refine mB rfl ?_
  refine Fo.no rfl rfl ?_
  refine Fo.no rfl rfl ?_
  refine tB rfl rfl ?_
  refine mB rfl ?_
  refine WpO.nil (hKF _ _ ?_)
  refine Wp.ret ?_
  dsimp only [cond_true, cond_false]
  refine ⟨trivial, _, (by first | rfl | exact getAllC rfl rfl rfl rfl | exact getAllT rfl (getAllC rfl rfl rfl rfl) | exact getAllC rfl rfl rfl (getAllC rfl rfl rfl rfl) | exact getAllC1 rfl rfl rfl), ?_⟩
  exact ⟨by simp only [g0, g1, g2, g3]; rfl, Ext0.ext⟩⟩
/-- The least rectangle with a rectangle and a pixel. -/
def strX (x px : Int) : Int := if px < x then px else x
def strW (x w px : Int) : Int := IntKind.i64.wrap ((if IntKind.i64.wrap (px + 1) > IntKind.i64.wrap (x + w) then IntKind.i64.wrap (px + 1) else IntKind.i64.wrap (x + w)) - strX x px)
instance K_stretch0 {x y h px py : Int} {H : AHeap} : PureCon ext prog 122 [.agg [.int .i64 x, .int .i64 y, .int .i64 0, .int .i64 h], .agg [.int .i64 px, .int .i64 py]] H 1 (.agg [.int .i64 px, .int .i64 py, .int .i64 1, .int .i64 1]) := ⟨by
 refine con_of (show prog 122 = some c122 from rfl) rfl rfl fun n hn => ?_
 refine sq ?_
 refine rg fun KF hKF => ?_
 refine Fo.boxA rfl ?_
 refine Fo.boxA rfl ?_
 refine Fo.new ?_
 refine WpO.nil (hKF _ _ ?_)
 refine sq ?_
 refine sq ?_
 refine rg fun KF hKF => ?_
 refine Fo.fa rfl ?_
 refine Fo.ld rfl rfl ?_
 refine Fo.bin rfl rfl rfl (by simp only [↓nrmL, nrmZ, Nat.reduceEqDiff, ↓reduceIte, Nat.reduceAdd, Int.reduceBEq, Int.reduceBNe]; rfl) ?_
 refine WpO.nil (hKF _ _ ?_)
 refine Wp.cond (b := true) rfl ?_
 refine sq ?_
 refine rg fun KF hKF => ?_
 refine Fo.fa rfl ?_
 refine Fo.ld rfl rfl ?_
 refine Fo.fa rfl ?_
 refine Fo.ld rfl rfl ?_
 refine Fo.build (by repeat (first | refine aFill1 (by first | exact (rfl : _ = AVal.int _ _) | exact (rfl : _ = AVal.ptr _ _) | exact (rfl : _ = AVal.bool _) | exact (rfl : _ = AVal.agg _) | exact (rfl : _ = AVal.tuple _) | exact (rfl : _ = AVal.func _ _ _) | exact (rfl : _ = AVal.nslice) | ((try simp only [↓nrmL, nrmK, Nat.reduceEqDiff, ↓reduceIte]); rfl)) rfl ?_ | rfl)) (by simp only [↓nrmL, nrmZ, Nat.reduceEqDiff, ↓reduceIte, Nat.reduceAdd, Int.reduceBEq, Int.reduceBNe]; rfl) ?_
 refine Fo.st rfl (rfl : _ = AVal.agg _) rfl rfl rfl (by repeat (first | rfl | refine allOne_cons ?_)) (by simp only [↓nrmL, nrmZ, Nat.reduceEqDiff, ↓reduceIte, Nat.reduceAdd, Int.reduceBEq, Int.reduceBNe]; rfl) ?_
 refine WpO.nil (hKF _ _ ?_)
 refine Wp.ret ?_
 dsimp only [cond_true, cond_false]
 refine ⟨trivial, _, (by first | rfl | exact getAllC rfl rfl rfl rfl | exact getAllT rfl (getAllC rfl rfl rfl rfl) | exact getAllC rfl rfl rfl (getAllC rfl rfl rfl rfl) | exact getAllC1 rfl rfl rfl), ?_⟩
 exact ⟨rfl, Ext0.ext⟩⟩
theorem K_stretch {x y w h px py : Int} {H : AHeap} (hw : (w == 0) = false) : PureCon ext prog 122 [.agg [.int .i64 x, .int .i64 y, .int .i64 w, .int .i64 h], .agg [.int .i64 px, .int .i64 py]] H 1 (.agg [.int .i64 (strX x px), .int .i64 (strX y py), .int .i64 (strW x w px), .int .i64 (strW y h py)]) := ⟨by
 refine con_of (show prog 122 = some c122 from rfl) rfl rfl fun n hn => ?_
 unfold strW strX
 try simp only [↓nrmL, nrmZ, Nat.reduceEqDiff, ↓reduceIte, Nat.reduceAdd, Int.reduceBEq, Int.reduceBNe, hw]
 refine sq ?_
 refine rg fun KF hKF => ?_
 refine Fo.boxA rfl ?_
 refine Fo.boxA rfl ?_
 refine Fo.new ?_
 refine WpO.nil (hKF _ _ ?_)
 refine sq ?_
 refine sq ?_
 refine rg fun KF hKF => ?_
 refine Fo.fa rfl ?_
 refine Fo.ld rfl rfl ?_
 refine Fo.bin rfl rfl rfl (by simp only [↓nrmL, nrmZ, Nat.reduceEqDiff, ↓reduceIte, Nat.reduceAdd, Int.reduceBEq, Int.reduceBNe, hw]; rfl) ?_
 refine WpO.nil (hKF _ _ ?_)
 refine Wp.cond (b := false) rfl ?_
 refine Wp.skip ?_
 refine sq ?_
 refine Fr.quiet rfl rfl fun KF hKF => ?_
 refine Fo.fa rfl ?_
 refine Fo.ld rfl rfl ?_
 refine Fo.fa rfl ?_
 refine Fo.ld rfl rfl ?_
 refine Fo.now rfl rfl rfl ?_
 refine Fo.fa rfl ?_
 refine Fo.ld rfl rfl ?_
 refine Fo.fa rfl ?_
 refine Fo.ld rfl rfl ?_
 refine Fo.now rfl rfl rfl ?_
 refine mI rfl ?_
 refine mI rfl ?_
 refine WpO.nil (hKF _ _ ?_)
 refine sq ?_
 refine rg fun KF hKF => ?_
 refine mI rfl ?_
 refine mI rfl ?_
 refine Fo.fa rfl ?_
 refine Fo.ld rfl rfl ?_
 refine Fo.fa rfl ?_
 refine Fo.ld rfl rfl ?_
 refine Fo.bin rfl rfl rfl rfl ?_
 refine Fo.fa rfl ?_
 refine Fo.ld rfl rfl ?_
 refine Fo.bin rfl rfl rfl rfl ?_
 refine Fo.now rfl rfl (by simp only [↓nrmL, nrmZ, Nat.reduceEqDiff, ↓reduceIte, Nat.reduceAdd, Int.reduceBEq, Int.reduceBNe, hw]; rfl) ?_
 refine mI rfl ?_
 refine Fo.bin rfl rfl rfl rfl ?_
 refine Fo.fa rfl ?_
 refine Fo.ld rfl rfl ?_
 refine Fo.fa rfl ?_
 refine Fo.ld rfl rfl ?_
 refine Fo.bin rfl rfl rfl rfl ?_
 refine Fo.fa rfl ?_
 refine Fo.ld rfl rfl ?_
 refine Fo.bin rfl rfl rfl rfl ?_
 refine Fo.now rfl rfl (by simp only [↓nrmL, nrmZ, Nat.reduceEqDiff, ↓reduceIte, Nat.reduceAdd, Int.reduceBEq, Int.reduceBNe, hw]; rfl) ?_
 refine mI rfl ?_
 refine Fo.bin rfl rfl rfl rfl ?_
 refine Fo.build (by repeat (first | refine aFill1 (by first | exact (rfl : _ = AVal.int _ _) | exact (rfl : _ = AVal.ptr _ _) | exact (rfl : _ = AVal.bool _) | exact (rfl : _ = AVal.agg _) | exact (rfl : _ = AVal.tuple _) | exact (rfl : _ = AVal.func _ _ _) | exact (rfl : _ = AVal.nslice) | ((try simp only [↓nrmL, nrmK, Nat.reduceEqDiff, ↓reduceIte]); rfl)) rfl ?_ | rfl)) (by simp only [↓nrmL, nrmZ, Nat.reduceEqDiff, ↓reduceIte, Nat.reduceAdd, Int.reduceBEq, Int.reduceBNe, hw]; rfl) ?_
 refine Fo.st rfl (rfl : _ = AVal.agg _) rfl rfl rfl (by repeat (first | rfl | refine allOne_cons ?_)) (by simp only [↓nrmL, nrmZ, Nat.reduceEqDiff, ↓reduceIte, Nat.reduceAdd, Int.reduceBEq, Int.reduceBNe, hw]; rfl) ?_
 refine WpO.nil (hKF _ _ ?_)
 refine Wp.ret ?_
 dsimp only [cond_true, cond_false]
 refine ⟨trivial, _, (by first | rfl | exact getAllC rfl rfl rfl rfl | exact getAllT rfl (getAllC rfl rfl rfl rfl) | exact getAllC rfl rfl rfl (getAllC rfl rfl rfl rfl) | exact getAllC1 rfl rfl rfl), ?_⟩
 exact ⟨rfl, Ext0.ext⟩⟩
end Go.Am

/- The pixels of each component, and their boxes. -/
set_option maxHeartbeats 4000000
namespace Go.Am
open Go
/-- The pixels before i that are marked with k + 1. -/
def pxs (M : List Nat) (i k : Nat) : List Nat := (List.range i).filter fun j => M.getD j 0 == k + 1
theorem pxs_hit {M : List Nat} {i k : Nat} (h : M.getD i 0 = k + 1) : pxs M (i + 1) k = pxs M i k ++ [i] := by
  unfold pxs
  have hb : (M.getD i 0 == k + 1) = true := by rw [h]; exact beq_self_eq_true _
  rw [List.range_succ, List.filter_append]
  simp only [List.filter_cons, hb, if_true, List.filter_nil]
theorem pxs_miss {M : List Nat} {i k : Nat} (h : M.getD i 0 ≠ k + 1) : pxs M (i + 1) k = pxs M i k := by
  unfold pxs
  have hb : (M.getD i 0 == k + 1) = false := beq_eq_false_iff_ne.2 h
  rw [List.range_succ, List.filter_append]
  simp only [List.filter_cons, hb, Bool.false_eq_true, if_false, List.filter_nil, List.append_nil]
def pxAll (M : List Nat) (n i : Nat) : List (List Nat) := (List.range n).map (pxs M i)
theorem pxAll_length (M : List Nat) (n i : Nat) : (pxAll M n i).length = n := by simp [pxAll]
theorem pxAll_zero (M : List Nat) (n : Nat) : pxAll M n 0 = List.replicate n [] := by
  unfold pxAll
  apply List.ext_getElem?
  intro k
  rw [List.getElem?_map, List.getElem?_replicate]
  by_cases h : k < n
  · rw [List.getElem?_range h, if_pos h]; rfl
  · rw [List.getElem?_eq_none (by simp; omega), if_neg h]; rfl
theorem pxAll_at {M : List Nat} {n i k : Nat} (h : k < n) : (pxAll M n i)[k]? = some (pxs M i k) := by
  unfold pxAll
  rw [List.getElem?_map, List.getElem?_range h]; rfl
theorem pxAll_skip {M : List Nat} {n i : Nat} (h : M.getD i 0 = 0) : pxAll M n (i + 1) = pxAll M n i := by
  unfold pxAll
  apply List.map_congr_left
  intro k _
  exact pxs_miss (by omega)
theorem pxAll_next {M : List Nat} {n i k : Nat} (h : M.getD i 0 = k + 1) : pxAll M n (i + 1) = (pxAll M n i).set k (pxs M i k ++ [i]) := by
  apply List.ext_getElem?
  intro j
  by_cases hj : j < n
  · rw [pxAll_at hj]
    by_cases hk : k = j
    · subst hk
      rw [List.getElem?_set_self (by rw [pxAll_length]; exact hj), pxs_hit h]
    · rw [List.getElem?_set_ne hk, pxAll_at hj, pxs_miss (by omega)]
  · rw [List.getElem?_eq_none (by rw [pxAll_length]; omega), List.getElem?_eq_none (by rw [List.length_set, pxAll_length]; omega)]
theorem pxs_le (M : List Nat) (i k : Nat) : (pxs M i k).length ≤ i := by
  unfold pxs
  exact Nat.le_trans (List.length_filter_le _ _) (by simp)
/-- A box stretched to a pixel. -/
def bxS (b : Bx) (px py : Int) : Bx := bif b.w == 0 then ⟨px, py, 1, 1⟩ else ⟨strX b.x px, strX b.y py, strW b.x b.w px, strW b.y b.h py⟩
def bxL (a : Nat) (l : List Nat) : Bx := l.foldl (fun b k => bxS b ((k % a : Nat) : Int) ((k / a : Nat) : Int)) ⟨0, 0, 0, 0⟩
theorem bxL_snoc (a : Nat) (l : List Nat) (k : Nat) : bxL a (l ++ [k]) = bxS (bxL a l) ((k % a : Nat) : Int) ((k / a : Nat) : Int) := by
  unfold bxL
  rw [List.foldl_append]; rfl
instance K_stretchB {b : Bx} {px py : Int} {H : AHeap} : PureCon ext prog 122 [.agg b.cells, .agg [.int .i64 px, .int .i64 py]] H 1 (.agg (bxS b px py).cells) := by
  obtain ⟨x, y, w, h⟩ := b
  unfold bxS Bx.cells
  cases hw : w == 0
  · exact K_stretch hw
  · have : w = 0 := eq_of_beq hw
    subst this
    exact K_stretch0
theorem bx_cells (b : Bx) : b.cells.length = 4 ∧ b.cells.all AVal.one = true := ⟨rfl, rfl⟩
/-- What image.Components answers: components in the order of their first pixels, with their boxes. -/
structure CmpsR (K H : AHeap) (q : AVal) (l : List UInt8) (a b : Nat) (e : Bool) (M L : List Nat) (C : List (Bx × AVal)) : Prop where
  lab : Lab l a b e M L (a * b)
  cmps : Cmps K H q a C (pxAll M L.length (a * b))
  box : ∀ (k : Nat) c, C[k]? = some c → c.1 = bxL a (pxs M (a * b) k)
  num : C.length = L.length
end Go.Am

/- The reference's numbers: neighbours take the lesser one, until nothing changes. -/
set_option maxHeartbeats 4000000
namespace Go.Am
open Go
theorem nearB_small {x y u v : Nat} {e : Bool} (hx : x ≤ 640) (hy : y ≤ 640) (hu : u ≤ 640) (hv : v ≤ 640) : nearB x y u v e = true ↔ ((x : Int) - u ≤ 1 ∧ -1 ≤ (x : Int) - u ∧ (y : Int) - v ≤ 1 ∧ -1 ≤ (y : Int) - v) ∧ (e = true ∨ x = u ∨ y = v) := by
  unfold nearB
  rw [w64 (x := (x : Int) - u) (by omega), w64 (x := (y : Int) - v) (by omega)]
  simp only [Bool.and_eq_true, Bool.not_eq_true', Bool.or_eq_false_iff, Bool.or_eq_true, decide_eq_false_iff_not, beq_iff_eq]
  cases e
  · simp only [Bool.false_eq_true, false_or]; omega
  · simp only [true_or, and_true]; omega
theorem nb_of_near {a b x y u v : Nat} {e : Bool} (ha : a ≤ 640) (hb : b ≤ 640) (hx : x < a) (hy : y < b) (hu : u < a) (hv : v < b) (h : nearB x y u v e = true) (hne : ¬ (u = x ∧ v = y)) : Nb a b e (y * a + x) (v * a + u) := by
  obtain ⟨⟨h1, h2, h3, h4⟩, h5⟩ := (nearB_small (by omega) (by omega) (by omega) (by omega)).1 h
  obtain ⟨d1, d2⟩ := at_div (v := y) hx
  have key : ∀ t : Nat, t < 8 → (u : Int) = (x : Int) + dxN t → (v : Int) = (y : Int) + dyN t → (e = true ∨ t % 2 = 0) → Nb a b e (y * a + x) (v * a + u) := fun t ht e1 e2 he => ⟨t, ht, he, u, v, hu, hv, by rw [d1]; exact e1, by rw [d2]; exact e2, rfl⟩
  have hu3 : (u : Int) = x - 1 ∨ (u : Int) = x ∨ (u : Int) = x + 1 := by omega
  have hv3 : (v : Int) = y - 1 ∨ (v : Int) = y ∨ (v : Int) = y + 1 := by omega
  have hd : ∀ q : Int, (u : Int) ≠ x → (v : Int) ≠ y → e = true := fun _ g1 g2 => by
    rcases h5 with h5 | h5 | h5
    · exact h5
    · omega
    · omega
  rcases hu3 with hu3 | hu3 | hu3 <;> rcases hv3 with hv3 | hv3 | hv3
  · exact key 7 (by decide) (by rw [hu3]; rfl) (by rw [hv3]; rfl) (Or.inl (hd 0 (by omega) (by omega)))
  · exact key 6 (by decide) (by rw [hu3]; rfl) (by rw [hv3]; exact (Int.add_zero _).symm) (Or.inr rfl)
  · exact key 5 (by decide) (by rw [hu3]; rfl) (by rw [hv3]; rfl) (Or.inl (hd 0 (by omega) (by omega)))
  · exact key 0 (by decide) (by rw [hu3]; exact (Int.add_zero _).symm) (by rw [hv3]; rfl) (Or.inr rfl)
  · exact absurd ⟨by omega, by omega⟩ hne
  · exact key 4 (by decide) (by rw [hu3]; exact (Int.add_zero _).symm) (by rw [hv3]; rfl) (Or.inr rfl)
  · exact key 1 (by decide) (by rw [hu3]; rfl) (by rw [hv3]; rfl) (Or.inl (hd 0 (by omega) (by omega)))
  · exact key 2 (by decide) (by rw [hu3]; rfl) (by rw [hv3]; exact (Int.add_zero _).symm) (Or.inr rfl)
  · exact key 3 (by decide) (by rw [hu3]; rfl) (by rw [hv3]; rfl) (Or.inl (hd 0 (by omega) (by omega)))
theorem near_of_nb {a b j k : Nat} {e : Bool} (ha : a ≤ 640) (hb : b ≤ 640) (hj : j < a * b) (h : Nb a b e j k) : ∃ u v : Nat, u < a ∧ v < b ∧ k = v * a + u ∧ nearB (j % a : Nat) (j / a : Nat) u v e = true ∧ ∃ ku kv : Nat, ku < 3 ∧ kv < 3 ∧ (u : Int) = ((j % a : Nat) : Int) - 1 + ku ∧ (v : Int) = ((j / a : Nat) : Int) - 1 + kv := by
  obtain ⟨t, ht, he, u, v, hu, hv, e1, e2, rfl⟩ := h
  obtain ⟨_, h1, h2, _⟩ := div_lt hj
  obtain ⟨⟨b1, b2⟩, b3, b4⟩ := dN_bd t ht
  generalize hX : j % a = X at *
  generalize hY : j / a = Y at *
  refine ⟨u, v, hu, hv, rfl, (nearB_small (by omega) (by omega) (by omega) (by omega)).2 ⟨⟨by omega, by omega, by omega, by omega⟩, ?_⟩, (dxN t + 1).toNat, (dyN t + 1).toNat, by omega, by omega, by omega, by omega⟩
  rcases he with he | he
  · exact Or.inl he
  · have hz : ∀ t < 8, t % 2 = 0 → dxN t = 0 ∨ dyN t = 0 := by decide
    rcases hz t ht he with q | q
    · exact Or.inr (Or.inl (by omega))
    · exact Or.inr (Or.inr (by omega))

/-- Numbers of pixels of their components, which are not behind. -/
structure RNum (l : List UInt8) (a b : Nat) (e : Bool) (N : List Nat) : Prop where
  len : N.length = a * b
  le : ∀ i, i < a * b → N.getD i 0 ≤ i
  ink : ∀ i, i < a * b → l.getD i 0 = 1 → Reach l a b e i (N.getD i 0)
section
variable {l : List UInt8} {a b : Nat} {e : Bool} {N : List Nat}
theorem getD_range {n i : Nat} (h : i < n) : (List.range n).getD i 0 = i := by
  rw [List.getD_eq_getElem?_getD, List.getElem?_range h]; rfl
theorem RNum.begin : RNum l a b e (List.range (a * b)) :=
  ⟨List.length_range, fun i hi => by rw [getD_range hi]; exact Nat.le_refl _, fun i hi hl => by rw [getD_range hi]; exact .refl hi hl⟩
theorem RNum.lower {i j : Nat} (h : RNum l a b e N) (hi : i < a * b) (hl : l.getD i 0 = 1) (hn : Nb a b e i j) (hlj : l.getD j 0 = 1) (hlt : N.getD j 0 < N.getD i 0) : RNum l a b e (N.set i (N.getD j 0)) := by
  have hg : ∀ k, (N.set i (N.getD j 0)).getD k 0 = if k = i then N.getD j 0 else N.getD k 0 := fun k => congrFun (getD_setN (by rw [h.len]; exact hi)) k
  refine ⟨by rw [List.length_set]; exact h.len, fun k hk => ?_, fun k hk hlk => ?_⟩
  · rw [hg]
    split
    · next q => rw [q]; have := h.le i hi; omega
    · exact h.le k hk
  · rw [hg]
    split
    · next q => rw [q]; exact ((Reach.refl hi hl).step hn hlj).trans (h.ink j hn.lt hlj)
    · exact h.ink k hk hlk
/-- Nothing changes: the numbers are the first pixels. -/
theorem RNum.fix (h : RNum l a b e N) (hno : ∀ i j, i < a * b → l.getD i 0 = 1 → Nb a b e i j → l.getD j 0 = 1 → ¬ N.getD j 0 < N.getD i 0) {i : Nat} (hi : i < a * b) (hl : l.getD i 0 = 1) : Lead l a b e i (N.getD i 0) :=
  num_lead (num := fun k => N.getD k 0) (fun k hk hlk => ⟨h.ink k hk hlk, h.le k hk⟩) (fun k j hk hlk hn hlj => by
    have h1 := hno k j hk hlk hn hlj
    have h2 := hno j k hn.lt hlj (hn.symm hk) hlk
    exact Nat.le_antisymm (Nat.le_of_not_lt h1) (Nat.le_of_not_lt h2)) hi hl
theorem sum_setN {i v : Nat} (hi : i < N.length) (hv : v < N.getD i 0) : (N.set i v).sum < N.sum := by
  induction N generalizing i with
  | nil => exact absurd hi (Nat.not_lt_zero _)
  | cons x N ih =>
    cases i with
    | zero =>
      have hv' : v < x := hv
      simp only [List.set_cons_zero, List.sum_cons]
      omega
    | succ i =>
      have := ih (Nat.lt_of_succ_lt_succ hi) hv
      simp only [List.set_cons_succ, List.sum_cons]
      omega

/-- The pixel at (u, v) does not make the number at (x, y) less. -/
def Okp (l : List UInt8) (a b : Nat) (e : Bool) (N : List Nat) (x y : Nat) (u v : Int) : Prop := inkB a b l u v = true → nearB x y u v e = true → ¬ N.getD (v * a + u).toNat 0 < N.getD (y * a + x) 0
def Okpix (l : List UInt8) (a b : Nat) (e : Bool) (N : List Nat) (x y : Nat) : Prop := inkB a b l x y = true → ∀ kv < 3, ∀ ku < 3, Okp l a b e N x y ((x : Int) - 1 + (ku : Nat)) ((y : Int) - 1 + (kv : Nat))
theorem ok_all (ha : a ≤ 640) (hb : b ≤ 640) (h : ∀ y < b, ∀ x < a, Okpix l a b e N x y) : ∀ i j, i < a * b → l.getD i 0 = 1 → Nb a b e i j → l.getD j 0 = 1 → ¬ N.getD j 0 < N.getD i 0 := by
  intro i j hi hl hn hlj
  obtain ⟨_, h1, h2, h3⟩ := div_lt hi
  obtain ⟨u, v, hu, hv, rfl, h4, ku, kv, h5, h6, h7, h8⟩ := near_of_nb ha hb hi hn
  have hi1 : inkB a b l ((i % a : Nat) : Int) ((i / a : Nat) : Int) = true := by
    rw [inkB_mk h1 h2, ← h3, hl]; rfl
  have := h _ h2 _ h1 hi1 kv h6 ku h5
  rw [← h7, ← h8] at this
  have h9 := this (by rw [inkB_mk hu hv, hlj]; rfl) h4
  rw [idx_of, ← h3] at h9
  exact h9
end
/-- The numbers while they are laid. -/
def upN (n i : Nat) : List Nat := List.range i ++ List.replicate (n - i) 0
theorem upN_zero (n : Nat) : upN n 0 = List.replicate n 0 := by simp [upN]
theorem upN_all (n : Nat) : upN n n = List.range n := by simp [upN]
theorem upN_length {n i : Nat} (h : i ≤ n) : (upN n i).length = n := by simp [upN]; omega
theorem upN_set {n i : Nat} (h : i < n) : (upN n i).set i i = upN n (i + 1) := by
  apply List.ext_getElem?
  intro k
  have hu : ∀ m k, (upN n m)[k]? = if k < m then some k else if k < m + (n - m) then some 0 else none := by
    intro m k
    unfold upN
    rw [List.getElem?_append, List.length_range]
    split
    · next q => rw [List.getElem?_range q]
    · next q =>
      rw [List.getElem?_replicate]
      by_cases q' : k - m < n - m
      · rw [if_pos q', if_pos (by omega)]
      · rw [if_neg q', if_neg (by omega)]
  by_cases hk : k = i
  · subst hk
    rw [List.getElem?_set_self (by rw [upN_length (Nat.le_of_lt h)]; exact h), hu, if_pos (Nat.lt_succ_self _)]
  · rw [List.getElem?_set_ne (fun q => hk q.symm), hu, hu]
    by_cases h1 : k < i
    · rw [if_pos h1, if_pos (show k < i + 1 by omega)]
    · rw [if_neg h1, if_neg (show ¬ k < i + 1 by omega)]
      by_cases h2 : k < n
      · rw [if_pos (show k < i + (n - i) by omega), if_pos (show k < i + 1 + (n - (i + 1)) by omega)]
      · rw [if_neg (show ¬ k < i + (n - i) by omega), if_neg (show ¬ k < i + 1 + (n - (i + 1)) by omega)]
/-- How a pass over the numbers stands: something has changed, or nothing has and P holds. -/
structure Pas (l : List UInt8) (a b : Nat) (e : Bool) (N0 N : List Nat) (ch : Bool) (P : Prop) : Prop where
  num : RNum l a b e N
  it : (ch = true ∧ N.sum < N0.sum) ∨ (ch = false ∧ N = N0 ∧ P)
theorem Pas.to {l : List UInt8} {a b : Nat} {e : Bool} {N0 N : List Nat} {ch : Bool} {P Q : Prop} (h : Pas l a b e N0 N ch P) (hq : N = N0 → P → Q) : Pas l a b e N0 N ch Q :=
  ⟨h.num, h.it.imp id fun ⟨h1, h2, h3⟩ => ⟨h1, h2, hq h2 h3⟩⟩
theorem sum_range (n : Nat) : 2 * (List.range n).sum + n = n * n := by
  induction n with
  | zero => rfl
  | succ n ih =>
    have e1 : (n + 1) * (n + 1) = n * n + n + (n + 1) := by rw [Nat.add_mul, Nat.mul_add, Nat.mul_one, Nat.one_mul]
    rw [List.range_succ, List.sum_append, List.sum_singleton, e1]
    omega
end Go.Am

set_option maxHeartbeats 4000000
set_option maxRecDepth 100000
namespace Go.Am
open Go
attribute [local irreducible] Wp WpO WpX WpE

end Go.Am

set_option maxHeartbeats 4000000
set_option maxRecDepth 100000
namespace Go.Am
open Go
attribute [local irreducible] Wp WpO WpX WpE

theorem ok_of {w h : Int} {l : List UInt8} (h0 : (Img.err ⟨w, h, l⟩ == 0) = true) : ∃ a b : Nat, w = a ∧ h = b ∧ Ok a b l := by
 obtain ⟨h1, h2⟩ := Img.ok h0
 obtain ⟨a, b, e1, e2, e3, e4, e5⟩ := sized_nat h1
 exact ⟨a, b, e1, e2, e3, e4, e5, h2⟩
end Go.Am

set_option maxHeartbeats 4000000
set_option maxRecDepth 100000
namespace Go.Am
open Go
attribute [local irreducible] Wp WpO WpX WpE

theorem getD_mapA {α : Type} {d : α} {f : Nat → α} {n i : Nat} (h : i < n) : ((List.range n).map f).getD i d = f i := by simp [h]
theorem list_eqA {α : Type} {l m : List α} (d : α) (hl : l.length = m.length) (h : ∀ t, t < l.length → l.getD t d = m.getD t d) : l = m := by
 apply List.ext_getElem hl
 intro i h1 h2
 have := h i h1
 simpa [h1, h2] using this
/-- Ink of a place, as a number. -/
def pd (l : List UInt8) (k : Nat) : Int := bif l.getD k 0 == 1 then 1 else 0
def rc (l : List UInt8) (a j x : Nat) : Int := (((List.range x).filter fun u => l.getD (j * a + u) 0 == 1).length : Nat)
def cc (l : List UInt8) (a i y : Nat) : Int := (((List.range y).filter fun v => l.getD (v * a + i) 0 == 1).length : Nat)
theorem rc_succ (l : List UInt8) (a j x : Nat) : rc l a j (x + 1) = rc l a j x + pd l (j * a + x) := by
 unfold rc pd
 rw [List.range_succ, List.filter_append, List.length_append]
 cases h : (l.getD (j * a + x) 0 == 1)
 ·rw [List.filter_cons_of_neg (by rw [h]; decide)]; simp
 ·rw [List.filter_cons_of_pos (by rw [h])]; simp
theorem cc_succ (l : List UInt8) (a i y : Nat) : cc l a i (y + 1) = cc l a i y + pd l (y * a + i) := by
 unfold cc pd
 rw [List.range_succ, List.filter_append, List.length_append]
 cases h : (l.getD (y * a + i) 0 == 1)
 ·rw [List.filter_cons_of_neg (by rw [h]; decide)]; simp
 ·rw [List.filter_cons_of_pos (by rw [h])]; simp
theorem rc_bd (l : List UInt8) (a j x : Nat) : 0 ≤ rc l a j x ∧ rc l a j x ≤ x := by
 unfold rc
 have := List.length_filter_le (fun u => l.getD (j * a + u) 0 == 1) (List.range x)
 rw [List.length_range] at this
 omega
theorem cc_bd (l : List UInt8) (a i y : Nat) : 0 ≤ cc l a i y ∧ cc l a i y ≤ y := by
 unfold cc
 have := List.length_filter_le (fun v => l.getD (v * a + i) 0 == 1) (List.range y)
 rw [List.length_range] at this
 omega
def rowsP (l : List UInt8) (a b y x : Nat) : List Int := (List.range b).map fun j => if j < y then rc l a j a else if j = y then rc l a j x else 0
def colsP (l : List UInt8) (a y x : Nat) : List Int := (List.range a).map fun i => if i < x then cc l a i (y + 1) else cc l a i y
/-- How much ink the rows, and the columns, have. -/
def rowsL (l : List UInt8) (a b : Nat) : List Int := (List.range b).map fun j => rc l a j a
def colsL (l : List UInt8) (a b : Nat) : List Int := (List.range a).map fun i => cc l a i b
theorem rowsP_length (l : List UInt8) (a b y x : Nat) : (rowsP l a b y x).length = b := by simp [rowsP]
theorem colsP_length (l : List UInt8) (a y x : Nat) : (colsP l a y x).length = a := by simp [colsP]
theorem rowsP_zero (l : List UInt8) (a b : Nat) : rowsP l a b 0 0 = List.replicate b 0 := by
 refine list_eqA 0 (by rw [rowsP_length, List.length_replicate]) fun t ht => ?_
 rw [rowsP_length] at ht
 rw [rowsP, getD_mapA ht, if_neg (by omega)]
 have : rc l a t 0 = 0 := rfl
 rw [this]
 simp [ht]
theorem colsP_zero (l : List UInt8) (a : Nat) : colsP l a 0 0 = List.replicate a 0 := by
 refine list_eqA 0 (by rw [colsP_length, List.length_replicate]) fun t ht => ?_
 rw [colsP_length] at ht
 rw [colsP, getD_mapA ht, if_neg (by omega)]
 have : cc l a t 0 = 0 := rfl
 rw [this]
 simp [ht]
theorem rowsP_next (l : List UInt8) (a b y : Nat) : rowsP l a b y a = rowsP l a b (y + 1) 0 := by
 refine list_eqA 0 (by rw [rowsP_length, rowsP_length]) fun t ht => ?_
 rw [rowsP_length] at ht
 rw [rowsP, rowsP, getD_mapA ht, getD_mapA ht]
 by_cases h1 : t < y
 ·rw [if_pos h1, if_pos (by omega)]
 ·rw [if_neg h1]
  by_cases h2 : t = y
  ·rw [if_pos h2, if_pos (by omega)]
  ·rw [if_neg h2, if_neg (by omega)]
   by_cases h3 : t = y + 1
   ·rw [if_pos h3]; rfl
   ·rw [if_neg h3]
theorem colsP_next (l : List UInt8) (a y : Nat) : colsP l a y a = colsP l a (y + 1) 0 := by
 refine list_eqA 0 (by rw [colsP_length, colsP_length]) fun t ht => ?_
 rw [colsP_length] at ht
 rw [colsP, colsP, getD_mapA ht, getD_mapA ht, if_pos ht, if_neg (by omega)]
theorem rowsP_all (l : List UInt8) (a b : Nat) : rowsP l a b b 0 = rowsL l a b := by
 refine list_eqA 0 (by simp [rowsP_length, rowsL]) fun t ht => ?_
 rw [rowsP_length] at ht
 rw [rowsP, rowsL, getD_mapA ht, getD_mapA ht, if_pos ht]
theorem colsP_all (l : List UInt8) (a b : Nat) : colsP l a b 0 = colsL l a b := by
 refine list_eqA 0 (by simp [colsP_length, colsL]) fun t ht => ?_
 rw [colsP_length] at ht
 rw [colsP, colsL, getD_mapA ht, getD_mapA ht, if_neg (by omega)]
theorem rowsP_get {l : List UInt8} {a b y x : Nat} (hy : y < b) : (rowsP l a b y x)[y]'(by rw [rowsP_length]; exact hy) = rc l a y x := by
 simp [rowsP]
theorem colsP_get {l : List UInt8} {a y x : Nat} (hx : x < a) : (colsP l a y x)[x]'(by rw [colsP_length]; exact hx) = cc l a x y := by
 simp [colsP]
theorem rowsP_set {l : List UInt8} {a b y x : Nat} : (rowsP l a b y x).set y (rc l a y x + pd l (y * a + x)) = rowsP l a b y (x + 1) := by
 refine list_eqA 0 (by rw [List.length_set, rowsP_length, rowsP_length]) fun t ht => ?_
 rw [List.length_set, rowsP_length] at ht
 rw [List.getD_eq_getElem?_getD, List.getElem?_set, rowsP_length, rowsP, rowsP, getD_mapA ht]
 by_cases h1 : y = t
 ·subst h1
  rw [if_pos rfl, if_pos ht, if_neg (by omega), if_pos rfl, rc_succ]; rfl
 ·rw [if_neg h1, ← List.getD_eq_getElem?_getD, getD_mapA ht]
  by_cases h2 : t < y
  ·rw [if_pos h2, if_pos h2]
  ·rw [if_neg h2, if_neg h2, if_neg (fun e => h1 e.symm), if_neg (fun e => h1 e.symm)]
theorem colsP_set {l : List UInt8} {a y x : Nat} : (colsP l a y x).set x (cc l a x y + pd l (y * a + x)) = colsP l a y (x + 1) := by
 refine list_eqA 0 (by rw [List.length_set, colsP_length, colsP_length]) fun t ht => ?_
 rw [List.length_set, colsP_length] at ht
 rw [List.getD_eq_getElem?_getD, List.getElem?_set, colsP_length, colsP, colsP, getD_mapA ht]
 by_cases h1 : x = t
 ·subst h1
  rw [if_pos rfl, if_pos ht, if_pos (by omega), cc_succ]; rfl
 ·rw [if_neg h1, ← List.getD_eq_getElem?_getD, getD_mapA ht]
  by_cases h2 : t < x
  ·rw [if_pos h2, if_pos (by omega)]
  ·rw [if_neg h2, if_neg (by omega)]

/- sums -/
theorem sum_set {L : List Int} {i : Nat} {d : Int} (h : i < L.length) : (L.set i (L[i] + d)).sum = L.sum + d := by
 induction L generalizing i with
 | nil => simp at h
 | cons x L ih =>
  cases i with
  | zero => simp; omega
  | succ i =>
   simp only [List.set_cons_succ, List.sum_cons, List.getElem_cons_succ]
   rw [ih (by simpa using h)]; omega
def cnt (l : List UInt8) (k : Nat) : Int := ((l.take k).count 1 : Nat)
theorem cnt_succ {l : List UInt8} {k : Nat} (h : k < l.length) : cnt l (k + 1) = cnt l k + pd l k := by
 unfold cnt pd
 rw [List.take_succ_eq_append_getElem h, List.count_append, List.count_singleton]
 have : l.getD k 0 = l[k] := by simp [h]
 rw [this]
 cases (l[k] == 1) <;> simp
theorem sums {l : List UInt8} {a b : Nat} (hl : l.length = a * b) : ∀ y, y ≤ b → (rowsP l a b y 0).sum = cnt l (y * a) ∧ (colsP l a y 0).sum = cnt l (y * a)
 | 0, _ => by
  rw [rowsP_zero, colsP_zero]
  simp [cnt, List.sum_replicate_int]
 | y + 1, hy => by
  have hr := row_le (a := a) (b := b) (y := y) (by omega)
  have key : ∀ x, x ≤ a → (rowsP l a b y x).sum = cnt l (y * a + x) ∧ (colsP l a y x).sum = cnt l (y * a + x) := by
   intro x
   induction x with
   | zero => intro _; exact sums hl y (by omega)
   | succ x ih =>
    intro hx
    obtain ⟨h1, h2⟩ := ih (by omega)
    have e1 := cnt_succ (l := l) (k := y * a + x) (by omega)
    rw [show y * a + (x + 1) = y * a + x + 1 by omega, e1, ← h1]
    constructor
    ·rw [← rowsP_set, ← rowsP_get (l := l) (a := a) (b := b) (y := y) (x := x) (by omega), sum_set]
    ·rw [← colsP_set, ← colsP_get (l := l) (a := a) (y := y) (x := x) (by omega), sum_set, h2, h1]
  obtain ⟨h1, h2⟩ := key a (Nat.le_refl _)
  rw [← rowsP_next, ← colsP_next, Nat.add_mul, Nat.one_mul]
  exact ⟨h1, h2⟩
theorem rows_sum {l : List UInt8} {a b : Nat} (hl : l.length = a * b) : (rowsL l a b).sum = (l.count 1 : Nat) ∧ (colsL l a b).sum = (l.count 1 : Nat) := by
 have h := sums hl b (Nat.le_refl _)
 rw [rowsP_all, colsP_all] at h
 have e : cnt l (b * a) = (l.count 1 : Nat) := by unfold cnt; rw [Nat.mul_comm, ← hl, List.take_length]
 rw [e] at h
 exact h

/- extents -/
def extS (st : Int × Int) (i : Nat) (v : Int) : Int × Int := if v > 0 then (if st.2 = 0 then ((i : Int), 1) else (st.1, i + 1 - st.1)) else st
def extF (p : List Int) : Nat → Int × Int
 | 0 => (0, 0)
 | k + 1 => extS (extF p k) k (p.getD k 0)
def extL (p : List Int) : Int × Int := extF p p.length
theorem ext_char (p : List Int) (k : Nat) : ((∀ i, i < k → ¬ p.getD i 0 > 0) ∧ extF p k = (0, 0)) ∨ ∃ f g : Nat, f ≤ g ∧ g < k ∧ p.getD f 0 > 0 ∧ p.getD g 0 > 0 ∧ (∀ i, i < f → ¬ p.getD i 0 > 0) ∧ (∀ i, g < i → i < k → ¬ p.getD i 0 > 0) ∧ extF p k = ((f : Int), (g : Int) + 1 - f) := by
 induction k with
 | zero => exact Or.inl ⟨fun i hi => by omega, rfl⟩
 | succ k ih =>
  simp only [extF, extS]
  by_cases hp : p.getD k 0 > 0
  ·rw [if_pos hp]
   right
   rcases ih with ⟨h1, h2⟩ | ⟨f, g, h1, h2, h3, h4, h5, h6, h7⟩
   ·rw [h2, if_pos rfl]
    exact ⟨k, k, Nat.le_refl _, by omega, hp, hp, h1, fun i h3 h4 => by omega, by simp; omega⟩
   ·rw [h7, if_neg (by simp only; omega)]
    exact ⟨f, k, by omega, by omega, h3, hp, h5, fun i h8 h9 => by omega, rfl⟩
  ·rw [if_neg hp]
   rcases ih with ⟨h1, h2⟩ | ⟨f, g, h1, h2, h3, h4, h5, h6, h7⟩
   ·left
    refine ⟨fun i hi => ?_, h2⟩
    by_cases hik : i = k
    ·subst hik; exact hp
    ·exact h1 i (by omega)
   ·right
    refine ⟨f, g, h1, by omega, h3, h4, h5, fun i h8 h9 => ?_, h7⟩
    by_cases hik : i = k
    ·subst hik; exact hp
    ·exact h6 i h8 (by omega)
theorem sum_pos {p : List Int} (h : ∀ i, 0 ≤ p.getD i 0) : (p.sum > 0 ↔ ∃ i, i < p.length ∧ p.getD i 0 > 0) ∧ 0 ≤ p.sum := by
 induction p with
 | nil => simp
 | cons x p ih =>
  have h0 : 0 ≤ x := by simpa using h 0
  have hi := ih (fun i => by simpa using h (i + 1))
  rw [List.sum_cons]
  refine ⟨⟨fun q => ?_, ?_⟩, by have := hi.2; omega⟩
  ·by_cases hx : x > 0
   ·exact ⟨0, by simp, by simpa using hx⟩
   ·obtain ⟨i, h1, h2⟩ := hi.1.1 (by omega)
    exact ⟨i + 1, by simp; omega, by simpa using h2⟩
  ·rintro ⟨i, h1, h2⟩
   cases i with
   | zero =>
    have : x > 0 := by simpa using h2
    have := hi.2
    omega
   | succ i =>
    have := hi.1.2 ⟨i, by simpa using h1, by simpa using h2⟩
    omega
theorem ext_pos {p : List Int} (h : ∀ i, 0 ≤ p.getD i 0) : (extL p).2 > 0 ↔ p.sum > 0 := by
 rw [(sum_pos h).1]
 unfold extL
 rcases ext_char p p.length with ⟨h1, h2⟩ | ⟨f, g, h1, h2, h3, h4, h5, h6, h7⟩
 ·rw [h2]
  constructor
  ·intro q; exact absurd q (by decide)
  ·rintro ⟨i, h3, h4⟩; exact absurd h4 (h1 i h3)
 ·rw [h7]
  constructor
  ·intro _; exact ⟨f, by omega, h3⟩
  ·intro _; simp only; omega
end Go.Am

set_option maxHeartbeats 4000000
set_option maxRecDepth 100000
namespace Go.Am
open Go
attribute [local irreducible] Wp WpO WpX WpE

theorem made_mkI {fr : AFrame} {e : TypeId} {x y : ROpd} {k k' : IntKind} {a : Nat} (hx : x.ev fr = .int k a) (hy : y.ev fr = .int k' a) (h0 : a ≤ 2 ^ 40) : (ROp.makeSlice e [.int .i64 0] 8 x y).made fr = some (cellsI (List.replicate a 0), e, fun r => .slice r 0 a (some a) 1) := by
 rw [← mk_ints]; exact made_mk hx hy (by omega)
end Go.Am
