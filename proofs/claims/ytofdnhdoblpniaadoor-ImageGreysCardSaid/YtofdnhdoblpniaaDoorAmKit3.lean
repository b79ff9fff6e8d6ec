/- Calls by instances; bytes and ints in slices, steps. -/
import Derived.Test.YtofdnhdoblpniaaDoorAmKit2
set_option linter.unusedSimpArgs false
set_option linter.unusedVariables false
namespace Go.Am
open Go

/-- A function that leaves the heap as it is, but for garbage, and whose result is known. -/
class PureCon (ext : Exts) (prog : FuncId → Option RFunc) (f : FuncId) (args : List AVal) (H : AHeap) (d : outParam Nat) (v : outParam AVal) : Prop where
  con : Con ext prog d f args H fun u H' => u = v ∧ Ext H H'

section
variable {ext : Exts} {prog : FuncId → Option RFunc} {fr : AFrame} {H : AHeap} {K : AVal → AHeap → Prop} {KF : AFrame → AHeap → Prop}
theorem WpX.pcall {n d D : Nat} {f : FuncId} {o : ROpd} {l : List ROpd} {args : List AVal} {v : AVal} (hn : fuel0 + D ≤ n) (hf : o.ev fr = .func (.func f) [] []) (hl : l.map (·.ev fr) = args) [hc : PureCon ext prog f args H d v] (hd : Nat.ble d D = true)
    (h : ∀ H1, ExtI H H1 → K v H1) : WpX (.call o l) (callN ext prog n) fr H K :=
  WpX.con hc.con (Nat.le_trans (Nat.add_le_add_left (Nat.le_of_ble_eq_true hd) _) hn) hf hl fun u H1 ⟨hu, hx⟩ => by subst hu; exact h H1 ⟨hx⟩
/-- Any contract, with depth enough. -/
theorem WpX.conD {n d D : Nat} {f : FuncId} {o : ROpd} {l : List ROpd} {args : List AVal} {Q : AVal → AHeap → Prop} (hn : fuel0 + D ≤ n) (hd : Nat.ble d D = true) (hf : o.ev fr = .func (.func f) [] []) (hl : l.map (·.ev fr) = args) (hc : Con ext prog d f args H Q)
    (h : ∀ v H', Q v H' → K v H') : WpX (.call o l) (callN ext prog n) fr H K :=
  WpX.con hc (Nat.le_trans (Nat.add_le_add_left (Nat.le_of_ble_eq_true hd) _) hn) hf hl h
end

section
variable {call : ACall} {fr : AFrame} {H : AHeap} {K : AVal → AHeap → Prop} {KF : AFrame → AHeap → Prop}
theorem WpX.ldB {a : ROpd} {p : AVal} {j : Nat} {l : List UInt8} (ha : a.ev fr = .ptr (rowOf p) (offOf p + j)) [s : BytesI H p l] (hj : j < l.length) (h : K (.int .u8 (l[j].toNat : Int)) H) : WpX (.load none a) call fr H K := WpX.ldP ha (get_bytes hj) h
theorem WpX.ldI {a : ROpd} {p : AVal} {j : Nat} {l : List Int} (ha : a.ev fr = .ptr (rowOf p) (offOf p + j)) [s : IntsI H p l] (hj : j < l.length) (h : K (.int .i64 l[j]) H) : WpX (.load none a) call fr H K := WpX.ldP ha (get_ints hj) h
theorem WpX.stB {a x : ROpd} {p : AVal} {j : Nat} {l : List UInt8} {k : Int} (b : UInt8) (ha : a.ev fr = .ptr (rowOf p) (offOf p + j)) (hx : x.ev fr = .int .u8 k) (hk : k = (b.toNat : Int)) [s : BytesI H p l] [w : WrS H p] (hj : j < l.length)
    (h : ∀ H1, BytesI H1 p (l.set j b) → WrS H1 p → ExtP H H1 p → K aundef H1) : WpX (.store 1 a x) call fr H K := by
  subst hk
  refine WpX.stP ha hx rfl rfl (by rw [cellsB_length]; exact hj) fun H1 h1 h2 h3 => h H1 ?_ h2 h3
  rw [set_bytes] at h1
  unfold BytesI
  rw [List.length_set]
  exact h1
theorem WpX.stI {a x : ROpd} {p : AVal} {j : Nat} {l : List Int} {b : Int} (ha : a.ev fr = .ptr (rowOf p) (offOf p + j)) (hx : x.ev fr = .int .i64 b) [s : IntsI H p l] [w : WrS H p] (hj : j < l.length)
    (h : ∀ H1, IntsI H1 p (l.set j b) → WrS H1 p → ExtP H H1 p → K aundef H1) : WpX (.store 1 a x) call fr H K := by
  refine WpX.stP ha hx rfl rfl (by rw [cellsI_length]; exact hj) fun H1 h1 h2 h3 => h H1 ?_ h2 h3
  rw [set_ints] at h1
  unfold IntsI
  rw [List.length_set]
  exact h1
/-- A value of one cell. -/
class OneV (v : AVal) : Prop where
  cells : v.cells = [v]
  one : v.one = true
instance {k : IntKind} {n : Int} : OneV (.int k n) := ⟨rfl, rfl⟩
instance {b : Bool} : OneV (.bool b) := ⟨rfl, rfl⟩
instance {b : ByteArray} : OneV (.str b) := ⟨rfl, rfl⟩
instance : OneV .nptr := ⟨rfl, rfl⟩
instance {r off : Nat} : OneV (.ptr r off) := ⟨rfl, rfl⟩
instance : OneV .nslice := ⟨rfl, rfl⟩
instance {r off len : Nat} {cap : Option Nat} {sz : Nat} : OneV (.slice r off len cap sz) := ⟨rfl, rfl⟩
instance {f : Fn} {a b : List AVal} : OneV (.func f a b) := ⟨rfl, rfl⟩
instance : OneV .nfunc := ⟨rfl, rfl⟩
instance : OneV .niface := ⟨rfl, rfl⟩
theorem SliceAt.one {H : AHeap} {p : AVal} {sz n : Nat} {cs : List AVal} (h : SliceAt H p sz n cs) : OneV p := by
  rcases h.it with ⟨rfl, _⟩ | ⟨r, off, cap, row, rw, e, rfl, _⟩ <;> infer_instance
theorem aFill1 {cells : List AVal} {off : Nat} {x : ROpd} {v : AVal} {rest : List (Nat × Nat × ROpd)} {r : Option (List AVal)} (hx : x.ev fr = v) [o : OneV v] (ho : Nat.ble (off + 1) cells.length = true) (h : aFill fr (cells.set off v) rest = r) : aFill fr cells ((off, 1, x) :: rest) = r := by
  have h1 : ¬ (off + 1 > cells.length) := by have := Nat.le_of_ble_eq_true ho; omega
  simp only [aFill, hx, o.cells, List.length_singleton, ne_eq, not_true, false_or, if_neg h1, setAt_one]
  exact h
theorem allOne_cons {v : AVal} {l : List AVal} [o : OneV v] (h : l.all AVal.one = true) : (v :: l).all AVal.one = true := by simp only [List.all_cons, o.one, h, Bool.and_self]
theorem getAllT {t : Nat} {rs : List RRes} {v : AVal} {vs : List AVal} (hv : fr t = v) (h : getAll fr rs H = some (vs, H)) : getAll fr (.tmp t :: rs) H = some (v :: vs, H) := by
  subst hv
  simp only [getAll, RRes.get, M.bind, M.pure, h]
theorem getAllC {t m r off : Nat} {cs l : List AVal} {rw : Bool} {e : TypeId} {rs : List RRes} {vs : List AVal} (ha : fr t = .ptr r off) [hg : HasRow H r cs rw e] (hv : Nat.ble (off + m) cs.length = true) (hl : (cs.drop off).take m = l) (h : getAll fr rs H = some (vs, H)) : getAll fr (.cell t (some m) :: rs) H = some (.agg l :: vs, H) := by
  subst hl
  simp only [getAll, RRes.get, ha, aLoad, M.bind, aRow, if_pos hg.lt, hg.get, if_pos (Nat.le_of_ble_eq_true hv), M.pure, h]
theorem getAllC1 {t r off : Nat} {cs : List AVal} {v : AVal} {rw : Bool} {e : TypeId} {rs : List RRes} {vs : List AVal} (ha : fr t = .ptr r off) [hg : HasRow H r cs rw e] (hv : cs[off]? = some v) (h : getAll fr rs H = some (vs, H)) : getAll fr (.cell t none :: rs) H = some (v :: vs, H) := by
  simp only [getAll, RRes.get, ha, aLoad, M.bind, aRow, if_pos hg.lt, hg.get, hv, M.pure, h]
theorem Wp.condB {c : ROpd} {t e : RCode} {b : Bool} {lf : Nat} {Q : RExit → AFrame → AHeap → Prop} (hc : c.ev fr = .bool b) (h1 : b = true → Wp call lf t fr H Q) (h2 : b = false → Wp call lf e fr H Q) : Wp call lf (.cond c t e) fr H Q := by
  cases b with
  | true => exact Wp.cond hc (h1 rfl)
  | false => exact Wp.cond hc (h2 rfl)
end
end Go.Am
