/- Plain arguments, by their types. -/
import Derived.Test.YtofdnhdoblpniaaDoorAmTop
set_option linter.unusedSimpArgs false
set_option linter.unusedVariables false
namespace Go.Am
open Go Go.RowKit

section
variable {P : Program} {H : AHeap} {n : Nat} {t e : TypeId} {cs : List AVal}
theorem shape_int {k : IntKind} (hu : P.underlying t = some (.int k)) (h : Shape P H (n + 1) t cs) : ∃ i, cs = [.int k i] ∧ (Lit.int k i).wf = true := by simpa only [Shape, hu] using h
theorem shape_bool (hu : P.underlying t = some .bool) (h : Shape P H (n + 1) t cs) : ∃ b, cs = [.bool b] := by simpa only [Shape, hu] using h
theorem shape_str (hu : P.underlying t = some .string) (h : Shape P H (n + 1) t cs) : ∃ s : ByteArray, cs = [.str s] ∧ s.size ≤ maxLen := by simpa only [Shape, hu] using h
theorem shape_struct {fs : Array Field} (hu : P.underlying t = some (.struct fs)) (h : Shape P H (n + 1) t cs) : shapes (Shape P H n) (fs.toList.map fun f => f.type) cs := by simpa only [Shape, hu] using h

theorem u8_of {i : Int} (h : (Lit.int .u8 i).wf = true) : ∃ b : UInt8, i = (b.toNat : Int) := by
  have h1 : 0 ≤ i ∧ i < 256 := by
    simp only [Lit.wf, IntKind.has] at h
    revert h
    simp [IntKind.min, IntKind.max, IntKind.bits, IntKind.signed]
    intro a b
    constructor <;> omega
  refine ⟨UInt8.ofNat i.toNat, ?_⟩
  simp only [UInt8.toNat_ofNat']
  omega
theorem shapes_bytes (hu : P.underlying e = some (.int .u8)) : ∀ {len : Nat} {cells : List AVal}, shapes (Shape P H (n + 1)) (List.replicate len e) cells → ∃ l : List UInt8, l.length = len ∧ cells = cellsB l := by
  intro len
  induction len with
  | zero => intro cells h; exact ⟨[], rfl, h⟩
  | succ len ih =>
    intro cells h
    obtain ⟨a, b, rfl, h1, h2⟩ := h
    obtain ⟨i, rfl, hw⟩ := shape_int hu h1
    obtain ⟨x, rfl⟩ := u8_of hw
    obtain ⟨l, hl, rfl⟩ := ih h2
    exact ⟨x :: l, by simp [hl], rfl⟩
theorem shape_bytes (hu : P.underlying t = some (.slice e)) (he : P.underlying e = some (.int .u8)) (hc : P.cellsOf e = 1) (h : Shape P H (n + 2) t cs) : ∃ p l, cs = [p] ∧ BytesI H p l ∧ l.length ≤ maxLen := by
  rw [Shape, hu] at h
  obtain ⟨p, len, cells, rfl, h2, h3, h4⟩ := h
  obtain ⟨l, rfl, rfl⟩ := shapes_bytes he h4
  rw [hc] at h2
  exact ⟨p, l, rfl, h2, h3⟩
/-- An image: two sides and its pixels. -/
theorem shape_img {fs : Array Field} {ti ts tb : TypeId} (hu : P.underlying t = some (.struct fs)) (hf : (fs.toList.map fun f => f.type) = [ti, ti, ts]) (hi : P.underlying ti = some (.int .i64)) (hs : P.underlying ts = some (.slice tb)) (hb : P.underlying tb = some (.int .u8)) (hc : P.cellsOf tb = 1)
    (h : Shape P H (n + 3) t cs) : ∃ w h p l, cs = [.int .i64 w, .int .i64 h, p] ∧ BytesI H p l ∧ l.length ≤ maxLen := by
  have h1 := shape_struct hu h
  rw [hf] at h1
  obtain ⟨a, r1, rfl, h2, b, r2, rfl, h3, c, r3, rfl, h4, rfl⟩ := h1
  obtain ⟨w, rfl, _⟩ := shape_int hi h2
  obtain ⟨hh, rfl, _⟩ := shape_int hi h3
  obtain ⟨p, l, rfl, h5, h6⟩ := shape_bytes hs hb hc h4
  exact ⟨w, hh, p, l, rfl, h5, h6⟩
end
end Go.Am
