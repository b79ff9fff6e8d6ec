/- Bytes in slices. -/
import Derived.Test.YtofdnhdoblpniaaDoorAmDreg
set_option linter.unusedSimpArgs false
set_option linter.unusedVariables false
namespace Go.Am
open Go

def cellsB (l : List UInt8) : List AVal := l.map fun b => .int .u8 b.toNat
/-- A slice that holds these bytes. -/
inductive BytesAt (H : AHeap) : AVal → List UInt8 → Prop
  | nil : BytesAt H .nslice []
  | slice {r off : Nat} {cap : Option Nat} {cs : List AVal} {rw : Bool} {e : TypeId} {l : List UInt8} (hr : r < H.n) (hg : H.get r = .row cs rw e) (hl : off + l.length ≤ cs.length) (hc : (cs.drop off).take l.length = cellsB l) : BytesAt H (.slice r off l.length cap 1) l
theorem BytesAt.ext {H H' : AHeap} {p : AVal} {l : List UInt8} (h : BytesAt H p l) (x : Ext H H') : BytesAt H' p l := by
  cases h with
  | nil => exact .nil
  | slice hr hg hl hc => exact .slice (Nat.lt_of_lt_of_le hr x.n) (by rw [x.get _ hr]; exact hg) hl hc
theorem BytesAt.len {H : AHeap} {p : AVal} {l : List UInt8} (h : BytesAt H p l) : aLenS p = some (.int .i64 l.length) := by
  cases h <;> rfl
theorem cellsB_one (l : List UInt8) : (cellsB l).all AVal.one = true := by simp [cellsB, AVal.one]
theorem cellsB_length (l : List UInt8) : (cellsB l).length = l.length := by simp [cellsB]

/-- A slice whose row is new. -/
def NewS (H : AHeap) (q : AVal) : Prop := ∀ r off len cap sz, q = .slice r off len cap sz → H.n ≤ r
theorem NewS.mono {H H' : AHeap} {q : AVal} (h : NewS H' q) (hn : H.n ≤ H'.n) : NewS H q := fun r off len cap sz e => Nat.le_trans hn (h r off len cap sz e)
theorem BytesAt.set {H : AHeap} {q : AVal} {l : List UInt8} (h : BytesAt H q l) {s : Nat} (hs : ∀ r off len cap sz, q = .slice r off len cap sz → r ≠ s) (o : AObj) : BytesAt (H.set s o) q l := by
  cases h with
  | nil => exact .nil
  | slice hr hg hl hc => exact .slice hr (by rw [set_get_ne (hs _ _ _ _ _ rfl)]; exact hg) hl hc

theorem append_copy {H : AHeap} {p : AVal} {l : List UInt8} (h : BytesAt H p l) (hl : l.length < 2 ^ 40) (e : TypeId) : ∃ v H', aAppend e 1 1 .nslice p H = some (v, H') ∧ Ext H H' ∧ BytesAt H' v l ∧ NewS H v := by
  cases h with
  | nil => exact ⟨.nslice, H, rfl, Ext.refl H, .nil, fun _ _ _ _ _ e => by cases e⟩
  | @slice r off cap cs rw e0 l hr hg hle hc =>
    have hf : aFirst 1 l.length (.slice r off l.length cap 1) H = some (cellsB l, H) := by
      simp only [aFirst, ne_eq, not_true, if_false, M.bind, aRow, if_pos hr, hg, Nat.mul_one, if_pos hle, hc, M.pure]
    by_cases h0 : l = []
    · subst h0
      refine ⟨.nslice, H, ?_, Ext.refl H, .nil, fun _ _ _ _ _ e => by cases e⟩
      simp only [aAppend, aLenOf, M.bind, hf]
      rfl
    · have hn0 : ¬ l.length = 0 := by simpa using h0
      refine ⟨.slice H.n 0 l.length none 1, H.push (.row (cellsB l) true (2 * e)), ?_, (Ext.refl H).push _, ?_, fun _ _ _ _ _ e => by cases e; exact Nat.le_refl _⟩
      · simp only [aAppend, aLenOf, M.bind, hf, cellsB_one, cellsB_length]
        have hroom : 2 * l.length * 1 ≤ 2 ^ 48 := by omega
        simp only [Bool.not_true, Nat.mul_one, ne_eq, not_true, decide_false, Nat.reduceEqDiff, Bool.or_false, Bool.false_eq_true, if_false, hn0]
        rw [Nat.mul_one] at hroom
        simp only [if_pos hroom, M.bind, aNew, M.pure]
      · exact .slice (Nat.lt_succ_self _) push_get_eq (by simp [cellsB_length]) (by rw [List.drop_zero, List.take_of_length_le (by rw [cellsB_length]; exact Nat.le_refl _)])

theorem WpX.copyBytes {call : ACall} {fr : AFrame} {H : AHeap} {K : AVal → AHeap → Prop} {e : TypeId} {x y : ROpd} {p : AVal} {l : List UInt8} (hx : x.ev fr = .nslice) (hy : y.ev fr = p) (h : BytesAt H p l) (hl : l.length < 2 ^ 40)
    (hk : ∀ v H', Ext H H' → BytesAt H' v l → NewS H v → K v H') : WpX (.append e 1 1 x y) call fr H K := by
  obtain ⟨v, H', h1, h2, h3, h4⟩ := append_copy h hl e
  exact ⟨v, H', by simp only [ROp.exec, hx, hy]; exact h1, hk v H' h2 h3 h4⟩

theorem exec_ld {call : ACall} {fr : AFrame} {H : AHeap} {a : ROpd} {r off : Nat} {cs : List AVal} {rw : Bool} {e : TypeId} {v : AVal} (ha : a.ev fr = .ptr r off) [hg : HasRow H r cs rw e] (hv : cs[off]? = some v) : (ROp.load none a).exec call fr H = some (v, H) := by
  simp only [ROp.exec, ha, aLoad, M.bind, aRow, if_pos hg.lt, hg.get, hv, M.pure]
theorem exec_st {call : ACall} {fr : AFrame} {H : AHeap} {a x : ROpd} {n r off : Nat} {cs : List AVal} {e : TypeId} {v : AVal} {vs l : List AVal} (ha : a.ev fr = .ptr r off) (hx : x.ev fr = v) (hvs : v.cells = vs) (hn : Nat.beq vs.length n = true) [hg : HasRow H r cs true e] (hl : Nat.ble (off + vs.length) cs.length = true) (ho : vs.all AVal.one = true)
    (hs : setAt cs off vs = l) : (ROp.store n a x).exec call fr H = some (aundef, H.set r (.row l true e)) := by
  subst hvs hs
  simp only [ROp.exec, ha, hx, aStore, if_pos (Nat.eq_of_beq_eq_true hn), M.bind, aWrite, if_pos hg.lt, hg.get, Bool.true_and, decide_eq_true (Nat.le_of_ble_eq_true hl), ho, if_true, M.pure]
theorem exec_con {ext : Exts} {prog : FuncId → Option RFunc} {n d : Nat} {f : FuncId} {o : ROpd} {l : List ROpd} {args : List AVal} {fr : AFrame} {H : AHeap} {Q : AVal → AHeap → Prop} (hc : Con ext prog d f args H Q) (hd : fuel0 + d ≤ n) (hf : o.ev fr = .func (.func f) [] []) (hl : l.map (·.ev fr) = args) :
    ∃ v H', (ROp.call o l).exec (callN ext prog n) fr H = some (v, H') ∧ Q v H' := by
  obtain ⟨v, H', h1, h2⟩ := hc n hd
  exact ⟨v, H', by simp only [ROp.exec, hf, hl, aCallV, List.nil_append, List.append_nil]; exact h1, h2⟩
theorem getAll1 {fr : AFrame} {H : AHeap} {t m r off : Nat} {cs : List AVal} {rw : Bool} {e : TypeId} (ha : fr t = .ptr r off) [hg : HasRow H r cs rw e] (hv : Nat.ble (off + m) cs.length = true) : getAll fr [.cell t (some m)] H = some ([.agg ((cs.drop off).take m)], H) := by
  simp only [getAll, RRes.get, ha, aLoad, M.bind, aRow, if_pos hg.lt, hg.get, if_pos (Nat.le_of_ble_eq_true hv), M.pure]
theorem exec_build3 {call : ACall} {fr : AFrame} {H : AHeap} {x y z : ROpd} {a b c z0 z1 z2 : AVal} (hx : x.ev fr = a) (hy : y.ev fr = b) (hz : z.ev fr = c) (ha : a.cells = [a]) (hb : b.cells = [b]) (hc : c.cells = [c]) :
    (ROp.build [z0, z1, z2] [(0, 1, x), (1, 1, y), (2, 1, z)]).exec call fr H = some (.agg [a, b, c], H) := by
  have hf : aFill fr [z0, z1, z2] [(0, 1, x), (1, 1, y), (2, 1, z)] = some [a, b, c] := by
    simp [aFill, hx, hy, hz, ha, hb, hc, setAt]
  simp only [ROp.exec, hf, M.pure]
end Go.Am
