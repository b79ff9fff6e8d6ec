/- Functions without a body do what the small machine says. -/
import Derived.Test.YtofdnhdoblpniaaDoorAmExt
import Derived.Test.YtofdnhdoblpniaaDoorAmFun
import Derived.Lib.BytesEntry
import Derived.Laws.Externs
set_option linter.unusedSimpArgs false
set_option linter.unusedVariables false
namespace Go.Am
open Go Go.RowKit

section
variable {P : Program} {S : Base} {m : RMap} {H H' : AHeap} {w : World}

theorem aBytesFn_some {f : List UInt8 → AVal} {e : Array Value → Sem Value} {bv : Value} (hstr : ∀ (s : ByteArray) (w : World), ∃ y, (e #[.string s, bv]).run P w = .ok y w ∧ emb m (f s.data.toList) = some y)
    (hnil : ∀ (l c : Nat) (w : World), ∃ y, (e #[.slice none l c, bv]).run P w = .ok y w ∧ emb m (f []) = some y)
    (hsl : ∀ (a : Addr) (n c : Nat) (xs : List Int) (w : World), xs.length = n → (∀ j x, xs[j]? = some x → w.cell? (a.add j) = some (.int .u8 x)) → ∃ y, (e #[.slice (some a) n c, bv]).run P w = .ok y w ∧ emb m (f (xs.map fun n => UInt8.ofNat n.toNat)) = some y)
    {av u : AVal} {x : Value} (ha : emb m av = some x) (h : HRel S m H w) (hx : aBytesFn f av H = some (u, H')) : ∃ y, (e #[x, bv]).run P w = .ok y w ∧ Out S m u H' y w := by
  cases av with
  | nslice =>
    obtain ⟨rfl, rfl⟩ := pure_some hx
    simp only [emb] at ha; cases ha
    obtain ⟨y, h1, h2⟩ := hnil 0 0 w
    exact ⟨y, h1, Out.same h h2⟩
  | str s =>
    obtain ⟨rfl, rfl⟩ := pure_some hx
    simp only [emb] at ha; cases ha
    obtain ⟨y, h1, h2⟩ := hstr s w
    exact ⟨y, h1, Out.same h h2⟩
  | slice r off len cap s =>
    obtain ⟨p, hp, rfl⟩ := emb_slice_some ha
    simp only [aBytesFn] at hx
    by_cases hs : s ≠ 1
    · rw [if_pos hs] at hx; exact (fail_some hx).elim
    · rw [if_neg hs] at hx
      obtain ⟨⟨cs, rw⟩, H1, h1, h2⟩ := bind_some hx
      obtain ⟨rfl, hr, e', hg⟩ := aRow_some h1
      simp only [] at h2
      by_cases hq : off + len ≤ cs.length
      · rw [if_pos hq] at h2
        cases hb : bytesOf ((cs.drop off).take len) with
        | none => rw [hb] at h2; exact (fail_some h2).elim
        | some l =>
          rw [hb] at h2
          obtain ⟨rfl, rfl⟩ := pure_some h2
          obtain ⟨ns, hns, rfl⟩ := bytesOf_some hb
          have hok := h.row r cs rw e' p hr hg hp
          have hlen : ns.length = len := by
            have h1 : ((cs.drop off).take len).length = len := by simp; omega
            rw [hns] at h1; simpa using h1
          obtain ⟨y, h3, h4⟩ := hsl (p.1.add off) len (capR cap ((p.2 - off) / s)) ns w hlen fun j b hj => by
            have hjn : j < len := by rw [← hlen]; exact (List.getElem?_eq_some_iff.1 hj).1
            have h1 : cs[off + j]? = some (.int .u8 b) := by
              have h2 : ((cs.drop off).take len)[j]? = some (.int .u8 b) := by rw [hns]; simp [hj]
              rw [List.getElem?_take_of_lt hjn, List.getElem?_drop] at h2; exact h2
            obtain ⟨y, h3, h4⟩ := hok.cell _ _ h1
            simp only [emb] at h3; cases h3
            rw [add_add]; exact h4
          exact ⟨y, h3, Out.same h h4⟩
      · rw [if_neg hq] at h2; exact (fail_some h2).elim
  | _ => exact (fail_some (H := H) hx).elim

theorem yields_extern {f : FuncId} {fn : Func} {e : Array Value → Sem Value} (hf : P.funcs[f]? = some fn) (hname : (fn.name == "runtime.NumGoroutine") = false)
    (hb : fn.body.isNone = true) (hn : Extern.findNext fn = none) (he : Extern.find fn = some e) {args : Array Value} {y : Value} {R : Value → World → Prop} (hr : (e args).run P w = .ok y w) (h : R y w) : Yields P (callFunc f args) w R := by
  unfold Yields
  rw [run_callFunc_extern hf hname hb hn he, hr]
  exact h

theorem ext_count {ext : Exts} {k : Nat} (hk : ext k = aCount) {f : FuncId} {fn : Func} (hf : P.funcs[f]? = some fn) (hname : (fn.name == "runtime.NumGoroutine") = false)
    (hb : fn.body.isNone = true) (hn : Extern.findNext fn = none) (he : Extern.find fn = some Extern.BytealgCount.count) : ExtSim P ext f k := by
  intro S args H v H' m w vargs hG hx h ha
  rw [hk] at hx
  match args, hx, ha with
  | [x, .int .u8 b], hx, ha =>
    obtain ⟨y, ys, h1, h2, rfl⟩ := embL_cons ha
    obtain ⟨z, zs, h3, h4, rfl⟩ := embL_cons h2
    simp only [embL] at h4; cases h4
    simp only [emb] at h3; cases h3
    obtain ⟨q, h5, h6⟩ := aBytesFn_some (P := P) (e := Extern.BytealgCount.count) (bv := .int .u8 b) (f := fun l => .int .i64 (Lib.countByte l (UInt8.ofNat b.toNat)))
      (fun s w => ⟨_, Lib.run_countString s b w, by simp [emb] <;> rfl⟩)
      (fun l c w => ⟨_, Lib.run_countString .empty b w, by simp [emb] <;> rfl⟩)
      (fun a n c xs w hl hc => by
        have hload := Lib.run_loadBytesX (P := P) w xs a .empty hc
        rw [hl] at hload
        have hs := Lib.run_countString (P := P) ⟨(Lib.bytesOf xs).toArray⟩ b w
        have he : (⟨ByteArray.empty.data ++ (Lib.bytesOf xs).toArray⟩ : ByteArray) = ⟨(Lib.bytesOf xs).toArray⟩ := by
          apply ByteArray.ext
          show (#[] : Array UInt8) ++ (Lib.bytesOf xs).toArray = (Lib.bytesOf xs).toArray
          simp
        rw [he] at hload
        refine ⟨.int .i64 (Lib.countByte (Lib.bytesOf xs) b.toNat.toUInt8), ?_, by simp [emb] <;> rfl⟩
        change Sem.run P (do
          let b' ← Extern.Bytes.bytesOf (.slice (some a) n c)
          let c' ← Extern.Bytes.asByte (.int .u8 b)
          pure (goInt (b'.foldl (fun n x => if x == c' then n + 1 else n) (0 : Nat)))) w = _
        change Sem.run P (do
          let b' ← Extern.Bytes.bytesOf (.string ⟨(Lib.bytesOf xs).toArray⟩)
          let c' ← Extern.Bytes.asByte (.int .u8 b)
          pure (goInt (b'.foldl (fun n x => if x == c' then n + 1 else n) (0 : Nat)))) w = _ at hs
        simp only [Extern.Bytes.bytesOf, Sem.run_bind, Sem.run_pure, hload, Result.andThen] at hs ⊢
        simpa using hs) h1 h hx
    exact yields_extern hf hname hb hn he h5 h6

theorem ext_indexByte {ext : Exts} {k : Nat} (hk : ext k = aIndexByte) {f : FuncId} {fn : Func} (hf : P.funcs[f]? = some fn) (hname : (fn.name == "runtime.NumGoroutine") = false)
    (hb : fn.body.isNone = true) (hn : Extern.findNext fn = none) (he : Extern.find fn = some Extern.BytealgIndexByte.indexByte) : ExtSim P ext f k := by
  intro S args H v H' m w vargs hG hx h ha
  rw [hk] at hx
  match args, hx, ha with
  | [x, .int .u8 b], hx, ha =>
    obtain ⟨y, ys, h1, h2, rfl⟩ := embL_cons ha
    obtain ⟨z, zs, h3, h4, rfl⟩ := embL_cons h2
    simp only [embL] at h4; cases h4
    simp only [emb] at h3; cases h3
    obtain ⟨q, h5, h6⟩ := aBytesFn_some (P := P) (e := Extern.BytealgIndexByte.indexByte) (bv := .int .u8 b) (f := fun l => .int .i64 (Lib.indexByte l (UInt8.ofNat b.toNat)))
      (fun s w => ⟨_, Lib.run_indexByteString s b w, by simp [emb] <;> rfl⟩)
      (fun l c w => ⟨_, Lib.run_indexByteNil w l c b, by simp [emb] <;> rfl⟩)
      (fun a n c xs w hl hc => by
        have hload := Lib.run_loadBytesX (P := P) w xs a .empty hc
        rw [hl] at hload
        have hs := Lib.run_indexByteString (P := P) ⟨(Lib.bytesOf xs).toArray⟩ b w
        have he : (⟨ByteArray.empty.data ++ (Lib.bytesOf xs).toArray⟩ : ByteArray) = ⟨(Lib.bytesOf xs).toArray⟩ := by
          apply ByteArray.ext
          show (#[] : Array UInt8) ++ (Lib.bytesOf xs).toArray = (Lib.bytesOf xs).toArray
          simp
        rw [he] at hload
        refine ⟨.int .i64 (Lib.indexByte (Lib.bytesOf xs) b.toNat.toUInt8), ?_, by simp [emb] <;> rfl⟩
        change Sem.run P (do
          let b' ← Extern.Bytes.bytesOf (.slice (some a) n c)
          let c' ← Extern.Bytes.asByte (.int .u8 b)
          match (List.range b'.size).find? fun i => b'[i]! == c' with
          | some i => pure (goInt i)
          | none => pure (goInt (-1))) w = _
        change Sem.run P (do
          let b' ← Extern.Bytes.bytesOf (.string ⟨(Lib.bytesOf xs).toArray⟩)
          let c' ← Extern.Bytes.asByte (.int .u8 b)
          match (List.range b'.size).find? fun i => b'[i]! == c' with
          | some i => pure (goInt i)
          | none => pure (goInt (-1))) w = _ at hs
        simp only [Extern.Bytes.bytesOf, Sem.run_bind, Sem.run_pure, hload, Result.andThen] at hs ⊢
        exact hs) h1 h hx
    exact yields_extern hf hname hb hn he h5 h6

theorem ext_self {ext : Exts} {k : Nat} (hk : ext k = aSelf) {f : FuncId} {fn : Func} (hf : P.funcs[f]? = some fn) (hname : (fn.name == "runtime.NumGoroutine") = false)
    (hb : fn.body.isNone = true) (hn : Extern.findNext fn = none) (he : Extern.find fn = some Extern.AbiNoEscape.same) : ExtSim P ext f k := by
  intro S args H v H' m w vargs hG hx h ha
  rw [hk] at hx
  match args, hx, ha with
  | [x], hx, ha =>
    obtain ⟨y, ys, h1, h2, rfl⟩ := embL_cons ha
    simp only [embL] at h2; cases h2
    obtain ⟨rfl, rfl⟩ := pure_some hx
    have hr : (Extern.AbiNoEscape.same #[y]).run P w = .ok y w := by
      have : Extern.AbiNoEscape.same #[y] = pure y := rfl
      rw [this]; simp
    exact yields_extern hf hname hb hn he hr (Out.same h h1)
end
end Go.Am
