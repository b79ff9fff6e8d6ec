/- Rows found by instances: what lies where, through the steps that a piece of code has made. -/
import Derived.Test.YtofdnhdoblpniaaDoorAmStep
set_option linter.unusedSimpArgs false
set_option linter.unusedVariables false
namespace Go.Am
open Go

class HasRow (H : AHeap) (r : Nat) (cs : outParam (List AVal)) (rw : outParam Bool) (e : outParam TypeId) : Prop where
  lt : r < H.n
  get : H.get r = .row cs rw e
class LtN (r : Nat) (H : AHeap) : Prop where
  lt : r < H.n
class NeR (r s : Nat) : Prop where
  ne : r ≠ s
class ExtI (H : outParam AHeap) (H' : AHeap) : Prop where
  ext : Ext H H'
class GeN (H : outParam AHeap) (r : Nat) : Prop where
  ge : H.n ≤ r

instance {H : AHeap} {r : Nat} {cs : List AVal} {rw : Bool} {e : TypeId} [h : HasRow H r cs rw e] : LtN r H := ⟨h.lt⟩
instance {H : AHeap} {r : Nat} [h : LtN r H] : NeR r H.n := ⟨Nat.ne_of_lt h.lt⟩
instance {H : AHeap} {r : Nat} [h : LtN r H] : NeR H.n r := ⟨fun e => Nat.ne_of_lt h.lt e.symm⟩
instance {H : AHeap} {r s : Nat} [h : LtN r H] [k : GeN H s] : NeR r s := ⟨Nat.ne_of_lt (Nat.lt_of_lt_of_le h.lt k.ge)⟩
instance {H : AHeap} {r s : Nat} [h : LtN r H] [k : GeN H s] : NeR s r := ⟨fun e => Nat.ne_of_lt (Nat.lt_of_lt_of_le h.lt k.ge) e.symm⟩
instance {H H' : AHeap} {r : Nat} {cs : List AVal} {rw : Bool} {e : TypeId} [x : ExtI H H'] [h : HasRow H r cs rw e] : HasRow H' r cs rw e := ⟨Nat.lt_of_lt_of_le h.lt x.ext.n, by rw [x.ext.get r h.lt]; exact h.get⟩
instance {H : AHeap} {o : AObj} {r : Nat} {cs : List AVal} {rw : Bool} {e : TypeId} [h : HasRow H r cs rw e] : HasRow (H.push o) r cs rw e := ⟨Nat.lt_succ_of_lt h.lt, by rw [push_get_lt h.lt]; exact h.get⟩
instance {H : AHeap} {cs : List AVal} {rw : Bool} {e : TypeId} : HasRow (H.push (.row cs rw e)) H.n cs rw e := ⟨Nat.lt_succ_self _, push_get_eq⟩
instance {H : AHeap} {s : Nat} {o : AObj} {r : Nat} {cs : List AVal} {rw : Bool} {e : TypeId} [h : HasRow H r cs rw e] [k : NeR r s] : HasRow (H.set s o) r cs rw e := ⟨h.lt, by rw [set_get_ne k.ne]; exact h.get⟩
instance {H : AHeap} {r : Nat} {cs cs0 : List AVal} {rw rw0 : Bool} {e e0 : TypeId} [h : HasRow H r cs0 rw0 e0] : HasRow (H.set r (.row cs rw e)) r cs rw e := ⟨h.lt, set_get_eq⟩

section
variable {call : ACall} {fr : AFrame} {H : AHeap} {K : AVal → AHeap → Prop} {KF : AFrame → AHeap → Prop}
theorem WpX.ld {a : ROpd} {r off : Nat} {cs : List AVal} {rw : Bool} {e : TypeId} {v : AVal} (ha : a.ev fr = .ptr r off) [hg : HasRow H r cs rw e] (hv : cs[off]? = some v) (h : K v H) : WpX (.load none a) call fr H K := WpX.load1 ha hg.lt hg.get hv h
theorem WpX.ldN {a : ROpd} {n r off : Nat} {cs : List AVal} {rw : Bool} {e : TypeId} {l : List AVal} (ha : a.ev fr = .ptr r off) [hg : HasRow H r cs rw e] (hv : Nat.ble (off + n) cs.length = true) (hl : (cs.drop off).take n = l) (h : K (.agg l) H) : WpX (.load (some n) a) call fr H K :=
  WpX.loadN ha hg.lt hg.get (Nat.le_of_ble_eq_true hv) (by rw [hl]; exact h)
theorem WpX.st {a x : ROpd} {n r off : Nat} {cs : List AVal} {e : TypeId} {v : AVal} {vs l : List AVal} (ha : a.ev fr = .ptr r off) (hx : x.ev fr = v) (hvs : v.cells = vs) (hn : Nat.beq vs.length n = true) [hg : HasRow H r cs true e] (hl : Nat.ble (off + vs.length) cs.length = true) (ho : vs.all AVal.one = true)
    (hs : setAt cs off vs = l) (h : K aundef (H.set r (.row l true e))) : WpX (.store n a x) call fr H K := by
  subst hvs hs
  exact WpX.store ha hx (Nat.eq_of_beq_eq_true hn) hg.lt hg.get (Nat.le_of_ble_eq_true hl) ho h
end

/-- Contracts: fuel enough is explicit. -/
def fuel0 : Nat := 1000000
def Con (ext : Exts) (prog : FuncId → Option RFunc) (d : Nat) (f : FuncId) (args : List AVal) (H : AHeap) (Q : AVal → AHeap → Prop) : Prop :=
  ∀ n, fuel0 + d ≤ n → ∃ v H', callN ext prog n f args H = some (v, H') ∧ Q v H'
theorem Con.evs {ext : Exts} {prog : FuncId → Option RFunc} {d : Nat} {f : FuncId} {args : List AVal} {H : AHeap} {Q : AVal → AHeap → Prop} (h : Con ext prog d f args H Q) : Evs ext prog f args H Q := ⟨fuel0 + d, h⟩
theorem Con.mono {ext : Exts} {prog : FuncId → Option RFunc} {d : Nat} {f : FuncId} {args : List AVal} {H : AHeap} {Q Q' : AVal → AHeap → Prop} (h : Con ext prog d f args H Q) (hq : ∀ v H', Q v H' → Q' v H') : Con ext prog d f args H Q' := fun n hn => by
  obtain ⟨v, H', h1, h2⟩ := h n hn
  exact ⟨v, H', h1, hq _ _ h2⟩
theorem con_of {ext : Exts} {prog : FuncId → Option RFunc} {d : Nat} {f : FuncId} {rf : RFunc} {c : RCode} {args : List AVal} {H : AHeap} {Q : AVal → AHeap → Prop} (hp : prog f = some rf) (hc : rf.body = .code c) (hn : Nat.ble args.length rf.nt = true)
    (h : ∀ n, fuel0 + d ≤ n → Wp (callN ext prog n) n c (argFrame args) H fun x fr' H' => (match x with | .exit _ => False | _ => True) ∧ ∃ vs, getAll fr' rf.results H' = some (vs, H') ∧ Q (aResult vs) H') : Con ext prog (d + 1) f args H Q := by
  intro n hle
  obtain ⟨k, rfl⟩ : ∃ k, n = k + 1 := ⟨n - 1, by unfold fuel0 at hle; omega⟩
  obtain ⟨nt, body, res⟩ := rf
  simp only [] at hc
  subst hc
  obtain ⟨x, fr', H', h1, h2, vs, h3, h4⟩ := h k (by omega)
  refine ⟨aResult vs, H', ?_, h4⟩
  have hlt : ¬ nt < args.length := by have := Nat.le_of_ble_eq_true hn; simp only at this; omega
  simp only [callN, hp, RFunc.run, if_neg hlt, M.bind, h1]
  cases x with
  | exit i => exact h2.elim
  | normal => simp only [M.bind, h3, M.pure]
  | ret => simp only [M.bind, h3, M.pure]
theorem WpX.con {ext : Exts} {prog : FuncId → Option RFunc} {n d : Nat} {f : FuncId} {o : ROpd} {l : List ROpd} {args : List AVal} {fr : AFrame} {H : AHeap} {K Q : AVal → AHeap → Prop} (hc : Con ext prog d f args H Q) (hd : fuel0 + d ≤ n) (hf : o.ev fr = .func (.func f) [] []) (hl : l.map (·.ev fr) = args)
    (h : ∀ v H', Q v H' → K v H') : WpX (.call o l) (callN ext prog n) fr H K := by
  obtain ⟨v, H', h1, h2⟩ := hc n hd
  exact WpX.enter hf ⟨v, H', by rw [hl]; exact h1, h _ _ h2⟩
end Go.Am
