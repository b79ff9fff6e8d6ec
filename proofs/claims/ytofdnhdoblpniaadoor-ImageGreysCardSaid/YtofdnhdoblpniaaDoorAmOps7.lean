/- Pointers that are seen as no type for a while; strings that share a row's bytes. -/
import Derived.Test.YtofdnhdoblpniaaDoorAmOps6
import Derived.Lib.UnsafeStr
set_option linter.unusedSimpArgs false
set_option linter.unusedVariables false
namespace Go.Am
open Go Go.RowKit

section
variable {P : Program} {S : Base} {m : RMap} {H H' : AHeap} {w : World}

theorem even_mod (n : Nat) : (2 * n) % 2 = 0 := by omega
theorem depth_pos (P : Program) : 0 < P.depth := by unfold Program.depth; omega

theorem cellsOf_eq {t : TypeId} {s : Nat} (h : cSize P t = some s) : P.cellsOf t = s := by
  unfold cSize at h
  unfold Program.cellsOf
  cases hi : P.info? t with
  | none => rw [hi] at h; cases h
  | some i => rw [hi] at h; simpa using h

theorem sameLayout_self (d : Nat) (t : TypeId) : sameLayout P (d + 1) t t = true := by simp [sameLayout]

theorem liesAt_own {t : TypeId} {s : Nat} (hs : P.cellsOf t = s) (hs0 : 0 < s) (count off n : Nat) (ho : off % s = 0) (hn : off / s + n ≤ count) : liesAt P P.depth t count off t n = true := by
  obtain ⟨d, hd⟩ : ∃ d, P.depth = d + 1 := ⟨P.depth - 1, by have := depth_pos P; omega⟩
  rw [hd]
  simp only [liesAt]
  rw [hd]
  simp [rowAt, hs, Nat.ne_of_gt hs0, ho, hn, sameLayout_self]

theorem viewAt_cells {r : Nat} {c : Array Value} {e : TypeId} {fz : Nat × Nat} (h : w.heap[r]? = some (.cells c e fz)) : (viewAt r).run P w = .ok none w := by
  simp [viewAt, World.shape?, h]
theorem seenAt_cells {a : Addr} {c : Array Value} {e : TypeId} {fz : Nat × Nat} (h : w.heap[a.block]? = some (.cells c e fz)) : (Conv.seenAt a).run P w = .ok a w := by
  simp [Conv.seenAt, viewAt_cells h]

theorem aUptr_some {t : TypeId} {s r off : Nat} {u : AVal} (hx : aUptr t s (.ptr r off) H = some (u, H')) :
    H' = H ∧ u = .ptr r off ∧ off = 0 ∧ r < H.n ∧ 0 < s ∧ ∃ cs, H.get r = .row cs true (2 * t) ∧ s ≤ cs.length := by
  unfold aUptr at hx
  cases hc : (Nat.blt r H.n && Nat.beq off 0 && Nat.blt 0 s) with
  | false => simp only [hc] at hx; cases hx
  | true =>
    simp only [hc] at hx
    simp only [Bool.and_eq_true] at hc
    obtain ⟨⟨h1, h2⟩, h3⟩ := hc
    have h1' : r < H.n := by simpa using h1
    have h3' : 0 < s := by simpa using h3
    cases hg : H.get r with
    | row cs rw e =>
      rw [hg] at hx
      cases rw with
      | false => cases hx
      | true =>
        simp only [] at hx
        cases hk : (Nat.beq e (2 * t) && Nat.ble s cs.length) with
        | false => rw [hk] at hx; cases hx
        | true =>
          rw [hk] at hx; cases hx
          simp only [Bool.and_eq_true] at hk
          have hk1 := Nat.eq_of_beq_eq_true hk.1
          have hk2 : s ≤ cs.length := Nat.le_of_ble_eq_true hk.2
          exact ⟨rfl, rfl, Nat.eq_of_beq_eq_true h2, h1', h3', cs, by rw [hk1], hk2⟩
    | _ => rw [hg] at hx; cases hx

theorem sim_uptr {d d' : TypeId} {t : TypeId} {s : Nat} (hs : cSize P t = some s) (hd : (P.underlying d = some (.pointer t) ∧ P.underlying d' = some .unsafePointer) ∨ (P.underlying d = some .unsafePointer ∧ P.underlying d' = some (.pointer t)))
    {av u : AVal} {x : Value} (ha : emb m av = some x) (h : HRel S m H w) (hx : aUptr t s av H = some (u, H')) : (convert d d' x).run P w = .ok x w ∧ emb m u = some x ∧ H' = H := by
  cases av with
  | nptr =>
    obtain ⟨rfl, rfl⟩ := pure_some hx
    simp only [emb] at ha; cases ha
    refine ⟨?_, by simp [emb], rfl⟩
    rcases hd with ⟨h1, h2⟩ | ⟨h1, h2⟩ <;> simp [convert, run_underlying h1, run_underlying h2, Conv.unsafePointer]
  | ptr r off =>
    obtain ⟨rfl, rfl, rfl, hr, hs0, cs, hg, hle⟩ := aUptr_some hx
    obtain ⟨p, hp, rfl⟩ := emb_ptr_some ha
    have hok := h.row r cs true _ p hr hg hp
    obtain ⟨c, fz, hh, hsp, hz⟩ := (hok.own rfl).1.2
    obtain ⟨hz1, hz2⟩ := hz (even_mod t)
    rw [half_even] at hh
    have hlen := hok.len
    have hadd : p.1.add 0 = p.1 := by simp [Addr.add]
    rw [hadd]
    have hcs : s ≤ c.size := by omega
    have hlies := liesAt_own (P := P) (cellsOf_eq hs) hs0 (c.size / s) 0 1 (by simp) (by simp; exact Nat.div_pos hcs hs0)
    refine ⟨?_, by rw [emb_ptr_mk hp, hadd], rfl⟩
    rcases hd with ⟨h1, h2⟩ | ⟨h1, h2⟩
    · have hne : ¬ (s = 0) := by omega
      have hc0 : ¬ (c.size = 0) := by omega
      simp [convert, run_underlying h1, run_underlying h2, Conv.unsafePointer, seenAt_cells hh, cellsIn, World.shape?, hh, run_sizeOf hs, hne, hz1, hc0]
    · have hne : ¬ (s = 0) := by omega
      simp [convert, run_underlying h1, run_underlying h2, Conv.unsafePointer, seenAt_cells hh, variablesAt, World.shape?, hh, run_sizeOf hs, hne, hz1, cellsOf_eq hs, hlies]
  | _ => exact (fail_some (H := H) hx).elim

theorem run_sliceData_none (at' : Array TypeId) (ty : TypeId) (n c : Nat) : (Builtin.unsafeSliceData_ at' ty #[.slice none n c]).run P w = .ok (.pointer none) w := by
  have hdef : Builtin.unsafeSliceData_ at' ty #[.slice none n c] = pure (.pointer none) := rfl
  rw [hdef]; simp
theorem run_sliceData_some (at' : Array TypeId) (ty : TypeId) (a : Addr) (n c : Nat) (hc : c ≠ 0) : (Builtin.unsafeSliceData_ at' ty #[.slice (some a) n c]).run P w = .ok (.pointer (some a)) w := by
  have hdef : Builtin.unsafeSliceData_ at' ty #[.slice (some a) n c] = (do
    if c ≠ 0 then pure (.pointer (some a))
    else if (← viewAt a.block).isSome then pure (.pointer (some a))
    else pure (.pointer (some ⟨← newObj (.view a (← elemOf ty)), 0, none⟩))) := rfl
  rw [hdef, if_pos hc]; simp

theorem sim_sliceData {sz : Nat} {at' : Array TypeId} {ty : TypeId} {av u : AVal} {x : Value} (ha : emb m av = some x) (h : HRel S m H w) (hx : aSliceData sz av H = some (u, H')) :
    ∃ y, (Builtin.unsafeSliceData_ at' ty #[x]).run P w = .ok y w ∧ emb m u = some y ∧ H' = H := by
  cases av with
  | nslice =>
    obtain ⟨rfl, rfl⟩ := pure_some hx
    simp only [emb] at ha; cases ha
    exact ⟨.pointer none, run_sliceData_none _ _ _ _, by simp [emb], rfl⟩
  | slice r off len cap s =>
    obtain ⟨p, hp, rfl⟩ := emb_slice_some ha
    cases cap with
    | some c =>
      simp only [aSliceData] at hx
      split at hx
      · exact (fail_some hx).elim
      · rename_i hc
        obtain ⟨rfl, rfl⟩ := pure_some hx
        exact ⟨_, run_sliceData_some _ _ _ _ _ hc, by rw [emb_ptr_mk hp], rfl⟩
    | none =>
      simp only [aSliceData] at hx
      obtain ⟨⟨cs, rw⟩, H1, h1, h2⟩ := bind_some hx
      obtain ⟨rfl, hr, e, hg⟩ := aRow_some h1
      simp only [] at h2
      split at h2
      · rename_i hc
        obtain ⟨rfl, rfl⟩ := pure_some h2
        obtain ⟨rfl, hs0, hle⟩ := hc
        have hlen := (h.row r cs rw e p hr hg hp).len
        have hcap : (p.2 - off) / s ≠ 0 := Nat.ne_of_gt (Nat.div_pos (by omega) hs0)
        exact ⟨_, run_sliceData_some _ _ _ _ _ hcap, by rw [emb_ptr_mk hp], rfl⟩
      · exact (fail_some h2).elim
  | _ => exact (fail_some (H := H) hx).elim

theorem cell_freeze (w : World) (a : Addr) (n : Nat) (b : Addr) : (w.freeze a n).cell? b = w.cell? b := by
  unfold World.freeze
  split
  · rfl
  · unfold World.cell?
    simp only [Array.getElem?_modify]
    by_cases hb : a.block = b.block
    · simp only [hb, if_true]
      cases hq : w.heap[b.block]? with
      | none => rfl
      | some o => cases o <;> rfl
    · simp only [hb, if_false]
theorem heap_freeze_ne {w : World} {a : Addr} {n : Nat} {b : Nat} (h : a.block ≠ b) : (w.freeze a n).heap[b]? = w.heap[b]? := by
  unfold World.freeze
  split
  · rfl
  · simp only [Array.getElem?_modify, if_neg h]
theorem frozen_freeze_ne {w : World} {a : Addr} {n : Nat} {b : Addr} (h : a.block ≠ b.block) : (w.freeze a n).frozen? b = w.frozen? b := by
  unfold World.frozen?
  rw [heap_freeze_ne h]

theorem HRel.freeze (h : HRel S m H w) {r : Nat} {cs : List AVal} {e : TypeId} {p : Addr × Nat} (hr : r < H.n) (hg : H.get r = .row cs true e) (hp : m r = some p) {a : Addr} (ha : a.block = p.1.block) (n : Nat) :
    HRel S m (H.set r (.row cs false e)) (w.freeze a n) := by
  have hok := h.row r cs true e p hr hg hp
  have hB := (hok.own rfl).1.1
  have key : ∀ s cs1 rw1 e1, (H.set r (.row cs false e)).get s = .row cs1 rw1 e1 → (s = r ∧ cs1 = cs ∧ rw1 = false ∧ e1 = e) ∨ (s ≠ r ∧ H.get s = .row cs1 rw1 e1) := by
    intro s cs1 rw1 e1 hs
    by_cases hsr : s = r
    · subst hsr; rw [set_get_eq] at hs; cases hs; exact Or.inl ⟨rfl, rfl, rfl, rfl⟩
    · rw [set_get_ne hsr] at hs; exact Or.inr ⟨hsr, hs⟩
  refine ⟨Lib.below_freeze h.below (by rw [ha]; exact hB) n, ?_, h.glob, h.fresh, h.away, ?_, ?_⟩
  · have : (w.freeze a n).heap.size = w.heap.size := by unfold World.freeze; split <;> simp
    rw [this]; exact h.size
  · intro s cs1 rw1 e1 q hs hgs hq
    rcases key s cs1 rw1 e1 hgs with ⟨rfl, rfl, rfl, rfl⟩ | ⟨hsr, hgs⟩
    · rw [hp] at hq; cases hq
      exact ⟨fun i v hi => by rw [cell_freeze]; exact hok.cell i v hi, hok.len, fun q => by cases q⟩
    · have hoks := h.row s cs1 rw1 e1 q hs hgs hq
      refine ⟨fun i v hi => by rw [cell_freeze]; exact hoks.cell i v hi, hoks.len, fun hrw => ?_⟩
      subst hrw
      have hne : a.block ≠ q.1.block := by
        rcases h.apart r s cs true e cs1 e1 p q hr hs (Ne.symm hsr) hg hgs hp hq with ⟨_, h2⟩ | h2
        · cases h2
        · rw [ha]; exact h2
      refine ⟨⟨(hoks.own rfl).1.1, by rw [heap_freeze_ne hne]; exact (hoks.own rfl).1.2⟩, fun i hi => ?_⟩
      rw [cell_freeze, frozen_freeze_ne (by rw [add_block]; exact hne)]
      exact (hoks.own rfl).2 i hi
  · intro s t cs1 rw1 e1 cs2 e2 q1 q2 hs ht hne hg1 hg2 hq1 hq2
    rcases key t cs2 true e2 hg2 with ⟨_, _, h3, _⟩ | ⟨htr, hk2⟩
    · cases h3
    rcases key s cs1 rw1 e1 hg1 with ⟨rfl, rfl, rfl, rfl⟩ | ⟨hsr, hk1⟩
    · rcases h.apart s t cs1 true e1 cs2 e2 q1 q2 hs ht hne hg hk2 hq1 hq2 with ⟨_, h2⟩ | h2
      · cases h2
      · exact Or.inr h2
    · exact h.apart s t cs1 rw1 e1 cs2 e2 q1 q2 hs ht hne hk1 hk2 hq1 hq2

theorem run_unsafeString_zero {at' : Array TypeId} {pt : TypeId} (h0 : at'[0]? = some pt) (ty : TypeId) (p : Option Addr) : (Builtin.unsafeString_ at' ty #[.pointer p, .int .i64 0]).run P w = .ok (.string .empty) w := by
  have hmax : IntKind.i64.max = 9223372036854775807 := rfl
  cases p with
  | none =>
    have hdef : Builtin.unsafeString_ at' ty #[.pointer none, .int .i64 0] =
        (do
          let n ← asInt (.int .i64 0)
          let some _ := at'[0]? | stuck "unsafe.String: no argument types"
          if n < 0 then runtimePanic (.error "unsafe.String: len out of range")
          if n > IntKind.i64.max then unsupported (.unsafePointer "String: a length above the largest int")
          if n = 0 then pure (.string .empty)
          else runtimePanic (.error "unsafe.String: ptr is nil and len is not zero")) := rfl
    rw [hdef, h0]
    simp [asInt, asIntOf, hmax]
  | some a =>
    have hdef : Builtin.unsafeString_ at' ty #[.pointer (some a), .int .i64 0] =
        (do
          let n ← asInt (.int .i64 0)
          let some pt := at'[0]? | stuck "unsafe.String: no argument types"
          if n < 0 then runtimePanic (.error "unsafe.String: len out of range")
          if n > IntKind.i64.max then unsupported (.unsafePointer "String: a length above the largest int")
          if n = 0 then pure (.string .empty)
          else if ← variablesAt a (← elemOf pt) n.toNat then do
            let s ← loadBytes a .empty n.toNat
            freeze a n.toNat
            pure (.string s)
          else unsupported (.unsafePointer "String: not so many bytes at ptr")) := rfl
    rw [hdef, h0]
    simp [asInt, asIntOf, hmax]

theorem run_loadBytes_ints : ∀ (ns : List Int) (a : Addr) (acc : ByteArray), (∀ j x, ns[j]? = some x → w.cell? (a.add j) = some (.int .u8 x)) →
    (loadBytes a acc ns.length).run P w = .ok ⟨acc.data ++ (ns.map fun n => UInt8.ofNat n.toNat).toArray⟩ w
  | [], a, acc, _ => by simp [loadBytes]
  | x :: l, a, acc, h => by
    have h0 : w.cell? a = some (.int .u8 x) := by
      have := h 0 x rfl
      simpa [Addr.add] using this
    have ih := run_loadBytes_ints l (a.add 1) (acc.push (UInt8.ofNat x.toNat)) (fun j y hy => by
      have := h (j + 1) y (by simpa using hy)
      rw [add_add, Nat.add_comm]; exact this)
    simp only [List.length_cons, loadBytes, Sem.run_bind, run_load, h0, Result.andThen_ok]
    have hpush : acc.push x.toNat.toUInt8 = acc.push (UInt8.ofNat x.toNat) := rfl
    rw [hpush, ih]
    simp

theorem run_unsafeString_at {at' : Array TypeId} {pt e : TypeId} (h0 : at'[0]? = some pt) (ty : TypeId) (hp : P.underlying pt = some (.pointer e)) (hc : P.cellsOf e = 1) {a : Addr} {cells : Nat} (hsh : w.shape? a.block = some (e, cells)) (ns : List Int) (hl0 : ns ≠ []) (hn : a.off + ns.length ≤ cells) (h63 : ns.length < 2 ^ 62)
    (hcell : ∀ j x, ns[j]? = some x → w.cell? (a.add j) = some (.int .u8 x)) :
    (Builtin.unsafeString_ at' ty #[.pointer (some a), .int .i64 ns.length]).run P w = .ok (.string ⟨(ns.map fun n => UInt8.ofNat n.toNat).toArray⟩) (w.freeze a ns.length) := by
  have hl : ns.length ≠ 0 := by simpa using hl0
  have hlb := run_loadBytes_ints (P := P) (w := w) ns a .empty hcell
  have hlies := liesAt_own (P := P) hc (by decide) (cells / P.cellsOf e) a.off ns.length (by simp [Nat.mod_one]) (by rw [hc]; simpa using hn)
  have h63' : ¬ (9223372036854775807 : Int) < (ns.length : Int) := by omega
  have hdef : Builtin.unsafeString_ at' ty #[.pointer (some a), .int .i64 ns.length] =
      (do
        let n ← asInt (.int .i64 ns.length)
        let some pt := at'[0]? | stuck "unsafe.String: no argument types"
        if n < 0 then runtimePanic (.error "unsafe.String: len out of range")
        if n > IntKind.i64.max then unsupported (.unsafePointer "String: a length above the largest int")
        if n = 0 then pure (.string .empty)
        else if ← variablesAt a (← elemOf pt) n.toNat then do
          let s ← loadBytes a .empty n.toNat
          freeze a n.toNat
          pure (.string s)
        else unsupported (.unsafePointer "String: not so many bytes at ptr")) := rfl
  rw [hdef, h0]
  have hmax : IntKind.i64.max = 9223372036854775807 := rfl
  have hneg : ¬ (ns.length : Int) < 0 := by omega
  simp [asInt, asIntOf, hmax, h63', hneg, hl, variablesAt, hsh, elemOf, run_underlying hp, hlies, hlb]

theorem aUnsafeStr_some {t : TypeId} {r off : Nat} {n : Int} {u : AVal} (hn : n ≠ 0) (hx : aUnsafeRow t r off n H = some (u, H')) :
    r < H.n ∧ 0 < n ∧ n < 2 ^ 62 ∧ ∃ cs e l, H.get r = .row cs true e ∧ e / 2 = t ∧ off + n.toNat ≤ cs.length ∧ bytesOf ((cs.drop off).take n.toNat) = some l ∧ u = .str ⟨l.toArray⟩ ∧ H' = H.set r (.row cs false e) := by
  unfold aUnsafeRow at hx
  cases hc : (Nat.blt r H.n && decide (0 ≤ n) && decide (n < 2 ^ 62)) with
  | false => simp only [hc] at hx; cases hx
  | true =>
    simp only [hc] at hx
    simp only [Bool.and_eq_true, decide_eq_true_eq] at hc
    obtain ⟨⟨h1, h2⟩, h3⟩ := hc
    have h1' : r < H.n := by simpa using h1
    cases hg : H.get r with
    | row cs rw e =>
      rw [hg] at hx
      cases rw with
      | false => cases hx
      | true =>
        simp only [] at hx
        cases hk : (Nat.beq (e / 2) t && Nat.ble (off + n.toNat) cs.length) with
        | false => rw [hk] at hx; cases hx
        | true =>
          rw [hk] at hx
          simp only [Bool.and_eq_true] at hk
          simp only [] at hx
          cases hb : bytesOf ((cs.drop off).take n.toNat) with
          | none => rw [hb] at hx; cases hx
          | some l =>
            rw [hb] at hx; cases hx
            exact ⟨h1', by omega, h3, cs, e, l, rfl, Nat.eq_of_beq_eq_true hk.1, Nat.le_of_ble_eq_true hk.2, hb, rfl, rfl⟩
    | _ => rw [hg] at hx; cases hx

theorem sim_unsafeStr {at' : Array TypeId} {pt e ty : TypeId} (h0 : at'[0]? = some pt) (hpt : P.underlying pt = some (.pointer e)) (he1 : cSize P e = some 1) {av bv u : AVal} {x y : Value} (ha : emb m av = some x) (hb : emb m bv = some y)
    (h : HRel S m H w) (hx : aUnsafeStr e av bv H = some (u, H')) : ∃ z w', (Builtin.unsafeString_ at' ty #[x, y]).run P w = .ok z w' ∧ emb m u = some z ∧ HRel S m H' w' := by
  have hzero : ∀ {n : Int} {p : Option Addr}, n = 0 → y = .int .i64 n → x = .pointer p → u = .str .empty → H' = H → ∃ z w', (Builtin.unsafeString_ at' ty #[x, y]).run P w = .ok z w' ∧ emb m u = some z ∧ HRel S m H' w' := by
    intro n p hn hy hxx hu hH
    subst hn hy hxx hu hH
    exact ⟨_, w, run_unsafeString_zero h0 ty p, by simp [emb], h⟩
  cases bv with
  | int k n =>
    simp only [emb] at hb; cases hb
    cases k <;> try (cases av <;> exact (fail_some (H := H) hx).elim)
    cases av with
    | nptr =>
      simp only [aUnsafeStr] at hx
      split at hx
      · rename_i hn
        obtain ⟨rfl, rfl⟩ := pure_some hx
        simp only [emb] at ha; cases ha
        exact hzero hn rfl rfl rfl rfl
      · exact (fail_some hx).elim
    | ptr r off =>
      obtain ⟨p, hp, rfl⟩ := emb_ptr_some ha
      by_cases hn : n = 0
      · subst hn
        obtain ⟨rfl, rfl⟩ := pure_some (H := H) (H' := H') (a := AVal.str .empty) (b := u) hx
        exact hzero rfl rfl rfl rfl rfl
      · obtain ⟨hr, hn0, hn2, cs, e2, l, hg, he2, hle, hbs, rfl, rfl⟩ := aUnsafeStr_some hn (by simpa only [aUnsafeStr, if_neg hn] using hx)
        have hok := h.row r cs true e2 p hr hg hp
        obtain ⟨c, fz, hh, hsp, _⟩ := (hok.own rfl).1.2
        obtain ⟨ns, hns, hl⟩ := bytesOf_some hbs
        have hlen : ns.length = n.toNat := by
          have h1 : ((cs.drop off).take n.toNat).length = n.toNat := by simp; omega
          rw [hns] at h1; simpa using h1
        have hcell : ∀ j b, ns[j]? = some b → w.cell? ((p.1.add off).add j) = some (.int .u8 b) := fun j b hj => by
          have hjn : j < n.toNat := by rw [← hlen]; exact (List.getElem?_eq_some_iff.1 hj).1
          have h1 : cs[off + j]? = some (.int .u8 b) := by
            have h2 : ((cs.drop off).take n.toNat)[j]? = some (.int .u8 b) := by rw [hns]; simp [hj]
            rw [List.getElem?_take_of_lt hjn, List.getElem?_drop] at h2; exact h2
          obtain ⟨y, h3, h4⟩ := hok.cell _ _ h1
          simp only [emb] at h3; cases h3
          rw [add_add]; exact h4
        have hoff : ∀ i, (p.1.add i).off = p.1.off + i := fun i => by unfold Addr.add; split <;> simp_all
        have hsz : p.1.off + off + ns.length ≤ c.size := by
          have hlast := ((hok.own rfl).2 (off + n.toNat - 1) (by have := hok.len; omega)).1
          obtain ⟨u, hu⟩ := Option.isSome_iff_exists.1 hlast
          simp only [World.cell?, add_block, hh, add_spot hsp, hoff] at hu
          have := (Array.getElem?_eq_some_iff.1 hu).1
          omega
        have hrun := run_unsafeString_at (P := P) (w := w) (at' := at') h0 ty hpt (cellsOf_eq he1) (a := p.1.add off) (cells := c.size) (by rw [add_block]; simp [World.shape?, hh, he2]) ns (by intro e; rw [e] at hlen; simp at hlen; omega) (by rw [hoff]; exact hsz) (by omega) hcell
        have hnl : (ns.length : Int) = n := by omega
        rw [hnl, ← hl] at hrun
        exact ⟨_, _, hrun, by simp [emb], h.freeze hr hg hp (add_block _ _) _⟩
    | _ => exact (fail_some (H := H) hx).elim
  | _ => cases av <;> exact (fail_some (H := H) hx).elim
end
end Go.Am
