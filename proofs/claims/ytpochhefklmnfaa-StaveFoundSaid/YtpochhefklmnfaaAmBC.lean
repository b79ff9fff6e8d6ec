import Derived.Test.YtpochhefklmnfaaAmBB
import Derived.ReadAgain
import Derived.WideShapes
import Derived.ChangeShapes
import Derived.OpenShut
import Derived.ChangeStays
import Derived.ChangeSame
import Derived.RowKit
import Derived.ChangeOld
import Derived.Lib.Bytealg
import Derived.Lib.BytesEntry
import Derived.Laws.Externs
set_option linter.unusedSimpArgs false
set_option linter.unusedVariables false
set_option maxRecDepth 100000
set_option maxHeartbeats 4000000
namespace Go.Am
open Go
theorem getp (H : AHeap) (o : AObj) (r : Nat) : (H.push o).get r = if r = H.n then o else H.get r := by
  by_cases h : r = H.n
  · subst h; simp [push_get_eq]
  · simp [AHeap.push, nbeq_ne h, h]
theorem np (H : AHeap) (o : AObj) : (H.push o).n = H.n + 1 := rfl
theorem ns (H : AHeap) (s : Nat) (o : AObj) : (H.set s o).n = H.n := rfl
structure Ext (H H' : AHeap) : Prop where
  n : H.n ≤ H'.n
  get : ∀ r, r < H.n → H'.get r = H.get r
theorem Ext.refl (H : AHeap) : Ext H H := ⟨Nat.le_refl _, fun _ _ => rfl⟩
theorem Ext.trans {a b c : AHeap} (h : Ext a b) (k : Ext b c) : Ext a c := ⟨Nat.le_trans h.n k.n, fun r hr => by rw [k.get r (Nat.lt_of_lt_of_le hr h.n), h.get r hr]⟩
theorem Ext.push {a b : AHeap} (h : Ext a b) (o : AObj) : Ext a (b.push o) := ⟨Nat.le_succ_of_le h.n, fun r hr => by rw [push_get_lt (Nat.lt_of_lt_of_le hr h.n)]; exact h.get r hr⟩
theorem Ext.set {a b : AHeap} (h : Ext a b) {s : Nat} (hs : a.n ≤ s) (o : AObj) : Ext a (b.set s o) := ⟨h.n, fun r hr => by rw [set_get_ne (by omega)]; exact h.get r hr⟩
section
variable {call : ACall} {fr : AFrame} {H : AHeap} {K : AVal → AHeap → Prop} {KF : AFrame → AHeap → Prop}
theorem WpX.load1 {a : ROpd} {r off : Nat} {cs : List AVal} {rw : Bool} {e : TypeId} {v : AVal} (ha : a.ev fr = .ptr r off) (hr : r < H.n) (hg : H.get r = .row cs rw e) (hv : cs[off]? = some v) (h : K v H) : WpX (.load none a) call fr H K :=
  ⟨v, H, by simp only [ROp.exec, ha, aLoad, M.bind, aRow, if_pos hr, hg, hv, M.pure], h⟩
theorem WpX.loadN {a : ROpd} {n r off : Nat} {cs : List AVal} {rw : Bool} {e : TypeId} (ha : a.ev fr = .ptr r off) (hr : r < H.n) (hg : H.get r = .row cs rw e) (hv : off + n ≤ cs.length) (h : K (.agg ((cs.drop off).take n)) H) : WpX (.load (some n) a) call fr H K :=
  ⟨_, H, by simp only [ROp.exec, ha, aLoad, M.bind, aRow, if_pos hr, hg, if_pos hv, M.pure], h⟩
theorem WpX.store {a x : ROpd} {n r off : Nat} {cs : List AVal} {e : TypeId} {v : AVal} (ha : a.ev fr = .ptr r off) (hx : x.ev fr = v) (hn : v.cells.length = n) (hr : r < H.n) (hg : H.get r = .row cs true e) (hl : off + v.cells.length ≤ cs.length) (ho : v.cells.all AVal.one = true)
    (h : K aundef (H.set r (.row (setAt cs off v.cells) true e))) : WpX (.store n a x) call fr H K :=
  ⟨_, _, by simp only [ROp.exec, ha, hx, aStore, if_pos hn, M.bind, aWrite, if_pos hr, hg, Bool.true_and, decide_eq_true hl, ho, if_true, M.pure], h⟩
theorem WpX.box {e : TypeId} {x : ROpd} (h : K (.ptr H.n 0) (H.push (.row (x.ev fr).cells true (2 * e)))) : WpX (.box e x) call fr H K := ⟨_, _, rfl, h⟩
theorem WpX.new {e : TypeId} {cs : List AVal} (h : K (.ptr H.n 0) (H.push (.row cs true (2 * e)))) : WpX (.new e cs) call fr H K := ⟨_, _, rfl, h⟩
end
theorem upd_at (fr : AFrame) (d : Nat) (v : AVal) (i : Nat) : upd fr d v i = if i = d then v else fr i := by
  by_cases h : i = d
  · subst h; simp [upd]
  · simp [upd, nbeq_ne h, h]
section
variable {call : ACall} {fr : AFrame} {H : AHeap} {K : AVal → AHeap → Prop} {KF : AFrame → AHeap → Prop}
theorem WpO.do {d : Nat} {op : ROp} {os : List ROper} (hx : WpX op call fr H fun v H1 => WpO call os (upd fr d v) H1 KF) : WpO call (⟨some d, op, none⟩ :: os) fr H KF := WpO.step rfl hx
theorem WpO.do' {op : ROp} {os : List ROper} (hx : WpX op call fr H fun _ H1 => WpO call os fr H1 KF) : WpO call (⟨none, op, none⟩ :: os) fr H KF := WpO.step rfl hx
theorem wanted_some {fr : AFrame} {d : Option Nat} {op : ROp} {t : Nat} {want b : Bool} (hb : fr t = .bool b) : ROper.wanted fr ⟨d, op, some (t, want)⟩ = (b == want) := by
  simp only [ROper.wanted, hb]
  cases b <;> cases want <;> rfl
theorem WpO.guard {d : Option Nat} {op : ROp} {t : Nat} {want b : Bool} {os : List ROper} (hb : fr t = .bool b) (h1 : b = want → WpO call (⟨d, op, none⟩ :: os) fr H KF) (h2 : b ≠ want → WpO call os (put fr d aundef) H KF) : WpO call (⟨d, op, some (t, want)⟩ :: os) fr H KF := by
  by_cases h : b = want
  · obtain ⟨fr', H', h3, h4⟩ := h1 h
    refine ⟨fr', H', ?_, h4⟩
    have hw1 : ROper.wanted fr ⟨d, op, some (t, want)⟩ = true := by rw [wanted_some hb, h]; simp
    simp only [execOps, hw1]
    simpa only [execOps, ROper.wanted] using h3
  · exact WpO.skip (by rw [wanted_some hb]; simpa using h) (h2 h)
theorem WpX.mov {x : ROpd} (h : K (x.ev fr) H) : WpX (.mov x) call fr H K := ⟨_, _, rfl, h⟩
theorem WpX.geq {x y : ROpd} {k : IntKind} {a b : Int} (hx : x.ev fr = .int k a) (hy : y.ev fr = .int k b) (h : K (.bool (decide (a ≥ b))) H) : WpX (.bin .geq x y) call fr H K := ⟨_, _, by simp only [ROp.exec, hx, hy, aBin, intBin, ne_eq, not_true, if_false, M.ofOption, M.pure], h⟩
theorem WpX.leq {x y : ROpd} {k : IntKind} {a b : Int} (hx : x.ev fr = .int k a) (hy : y.ev fr = .int k b) (h : K (.bool (decide (a ≤ b))) H) : WpX (.bin .leq x y) call fr H K := ⟨_, _, by simp only [ROp.exec, hx, hy, aBin, intBin, ne_eq, not_true, if_false, M.ofOption, M.pure], h⟩
theorem WpX.lss {x y : ROpd} {k : IntKind} {a b : Int} (hx : x.ev fr = .int k a) (hy : y.ev fr = .int k b) (h : K (.bool (decide (a < b))) H) : WpX (.bin .lss x y) call fr H K := ⟨_, _, by simp only [ROp.exec, hx, hy, aBin, intBin, ne_eq, not_true, if_false, M.ofOption, M.pure], h⟩
theorem WpX.gtr {x y : ROpd} {k : IntKind} {a b : Int} (hx : x.ev fr = .int k a) (hy : y.ev fr = .int k b) (h : K (.bool (decide (a > b))) H) : WpX (.bin .gtr x y) call fr H K := ⟨_, _, by simp only [ROp.exec, hx, hy, aBin, intBin, ne_eq, not_true, if_false, M.ofOption, M.pure], h⟩
theorem WpX.eql {x y : ROpd} {k : IntKind} {a b : Int} (hx : x.ev fr = .int k a) (hy : y.ev fr = .int k b) (h : K (.bool (a == b)) H) : WpX (.bin .eql x y) call fr H K := ⟨_, _, by simp only [ROp.exec, hx, hy, aBin, intBin, ne_eq, not_true, if_false, M.ofOption, M.pure], h⟩
theorem WpX.neq {x y : ROpd} {k : IntKind} {a b : Int} (hx : x.ev fr = .int k a) (hy : y.ev fr = .int k b) (h : K (.bool (a != b)) H) : WpX (.bin .neq x y) call fr H K := ⟨_, _, by simp only [ROp.exec, hx, hy, aBin, intBin, ne_eq, not_true, if_false, M.ofOption, M.pure], h⟩
theorem WpX.add {x y : ROpd} {k : IntKind} {a b : Int} (hx : x.ev fr = .int k a) (hy : y.ev fr = .int k b) (h : K (.int k (k.wrap (a + b))) H) : WpX (.bin .add x y) call fr H K := ⟨_, _, by simp only [ROp.exec, hx, hy, aBin, intBin, ne_eq, not_true, if_false, M.ofOption, M.pure], h⟩
theorem WpX.sub {x y : ROpd} {k : IntKind} {a b : Int} (hx : x.ev fr = .int k a) (hy : y.ev fr = .int k b) (h : K (.int k (k.wrap (a - b))) H) : WpX (.bin .sub x y) call fr H K := ⟨_, _, by simp only [ROp.exec, hx, hy, aBin, intBin, ne_eq, not_true, if_false, M.ofOption, M.pure], h⟩
theorem WpX.mul {x y : ROpd} {k : IntKind} {a b : Int} (hx : x.ev fr = .int k a) (hy : y.ev fr = .int k b) (h : K (.int k (k.wrap (a * b))) H) : WpX (.bin .mul x y) call fr H K := ⟨_, _, by simp only [ROp.exec, hx, hy, aBin, intBin, ne_eq, not_true, if_false, M.ofOption, M.pure], h⟩
theorem WpX.not {x : ROpd} {b : Bool} (hx : x.ev fr = .bool b) (h : K (.bool (!b)) H) : WpX (.un .not x) call fr H K := ⟨_, _, by simp only [ROp.exec, hx, aUn, M.ofOption, M.pure], h⟩
theorem WpX.pick {c x y : ROpd} {b : Bool} (hc : c.ev fr = .bool b) (h : K (bif b then x.ev fr else y.ev fr) H) : WpX (.pick c x y) call fr H K := ⟨_, _, by simp only [ROp.exec, hc, M.pure]; cases b <;> rfl, h⟩
theorem WpX.fieldAddr {x : ROpd} {r o off : Nat} (hx : x.ev fr = .ptr r o) (h : K (.ptr r (o + off)) H) : WpX (.fieldAddr off x) call fr H K := ⟨_, _, by simp only [ROp.exec, hx, aFieldAddr, M.ofOption, M.pure], h⟩
theorem WpX.lenS {x : ROpd} {p v : AVal} (hx : x.ev fr = p) (hp : aLenS p = some v) (h : K v H) : WpX (.lenS x) call fr H K := ⟨_, _, by simp only [ROp.exec, hx, hp, M.ofOption, M.pure], h⟩
theorem WpX.convInt {x : ROpd} {k k' : IntKind} {n : Int} (hx : x.ev fr = .int k' n) (h : K (.int k (k.wrap n)) H) : WpX (.convInt k x) call fr H K := ⟨_, _, by simp only [ROp.exec, hx, M.pure], h⟩
theorem WpX.idxS {x i : ROpd} {sz r off len : Nat} {cap : Option Nat} {k : IntKind} {n : Int} (hx : x.ev fr = .slice r off len cap sz) (hi : i.ev fr = .int k n) (h0 : 0 ≤ n) (h1 : n < len) (h : K (.ptr r (off + n.toNat * sz)) H) : WpX (.idxS sz x i) call fr H K :=
  ⟨_, _, by simp only [ROp.exec, hx, hi, aIdxS, true_and, if_pos (And.intro h0 h1), M.ofOption, M.pure], h⟩
theorem WpX.extract {x : ROpd} {i : Nat} {vs : List AVal} {v : AVal} (hx : x.ev fr = .tuple vs) (hv : vs[i]? = some v) (h : K v H) : WpX (.extract x i) call fr H K := ⟨_, _, by simp only [ROp.exec, hx, aExtract, hv, M.ofOption, M.pure], h⟩
theorem WpX.build {z : List AVal} {ps : List (Nat × Nat × ROpd)} {cs : List AVal} (hf : aFill fr z ps = some cs) (h : K (.agg cs) H) : WpX (.build z ps) call fr H K := ⟨_, _, by simp only [ROp.exec, hf, M.pure], h⟩
end
end Go.Am

namespace Go.Am
open Go
class HasRow (H : AHeap) (r : Nat) (cs : outParam (List AVal)) (rw : outParam Bool) (e : outParam TypeId) : Prop where
  lt : r < H.n
  get : H.get r = .row cs rw e
class LtN (r : Nat) (H : AHeap) : Prop where
  lt : r < H.n
class NeR (r s : Nat) : Prop where
  ne : r ≠ s
class ExtI (H : outParam AHeap) (H' : AHeap) : Prop where
  ext : Ext H H'
class GeN (H : outParam AHeap) (r : Nat) : Prop where
  ge : H.n ≤ r
instance {H : AHeap} {r : Nat} {cs : List AVal} {rw : Bool} {e : TypeId} [h : HasRow H r cs rw e] : LtN r H := ⟨h.lt⟩
instance {H : AHeap} {r : Nat} [h : LtN r H] : NeR r H.n := ⟨Nat.ne_of_lt h.lt⟩
instance {H : AHeap} {r : Nat} [h : LtN r H] : NeR H.n r := ⟨fun e => Nat.ne_of_lt h.lt e.symm⟩
instance {H : AHeap} {r s : Nat} [h : LtN r H] [k : GeN H s] : NeR r s := ⟨Nat.ne_of_lt (Nat.lt_of_lt_of_le h.lt k.ge)⟩
instance {H : AHeap} {r s : Nat} [h : LtN r H] [k : GeN H s] : NeR s r := ⟨fun e => Nat.ne_of_lt (Nat.lt_of_lt_of_le h.lt k.ge) e.symm⟩
instance {H H' : AHeap} {r : Nat} {cs : List AVal} {rw : Bool} {e : TypeId} [x : ExtI H H'] [h : HasRow H r cs rw e] : HasRow H' r cs rw e := ⟨Nat.lt_of_lt_of_le h.lt x.ext.n, by rw [x.ext.get r h.lt]; exact h.get⟩
instance {H : AHeap} {o : AObj} {r : Nat} {cs : List AVal} {rw : Bool} {e : TypeId} [h : HasRow H r cs rw e] : HasRow (H.push o) r cs rw e := ⟨Nat.lt_succ_of_lt h.lt, by rw [push_get_lt h.lt]; exact h.get⟩
instance {H : AHeap} {cs : List AVal} {rw : Bool} {e : TypeId} : HasRow (H.push (.row cs rw e)) H.n cs rw e := ⟨Nat.lt_succ_self _, push_get_eq⟩
instance {H : AHeap} {s : Nat} {o : AObj} {r : Nat} {cs : List AVal} {rw : Bool} {e : TypeId} [h : HasRow H r cs rw e] [k : NeR r s] : HasRow (H.set s o) r cs rw e := ⟨h.lt, by rw [set_get_ne k.ne]; exact h.get⟩
instance {H : AHeap} {r : Nat} {cs cs0 : List AVal} {rw rw0 : Bool} {e e0 : TypeId} [h : HasRow H r cs0 rw0 e0] : HasRow (H.set r (.row cs rw e)) r cs rw e := ⟨h.lt, set_get_eq⟩
section
variable {call : ACall} {fr : AFrame} {H : AHeap} {K : AVal → AHeap → Prop} {KF : AFrame → AHeap → Prop}
theorem WpX.ld {a : ROpd} {r off : Nat} {cs : List AVal} {rw : Bool} {e : TypeId} {v : AVal} (ha : a.ev fr = .ptr r off) [hg : HasRow H r cs rw e] (hv : cs[off]? = some v) (h : K v H) : WpX (.load none a) call fr H K := WpX.load1 ha hg.lt hg.get hv h
theorem WpX.ldN {a : ROpd} {n r off : Nat} {cs : List AVal} {rw : Bool} {e : TypeId} {l : List AVal} (ha : a.ev fr = .ptr r off) [hg : HasRow H r cs rw e] (hv : Nat.ble (off + n) cs.length = true) (hl : (cs.drop off).take n = l) (h : K (.agg l) H) : WpX (.load (some n) a) call fr H K :=
  WpX.loadN ha hg.lt hg.get (Nat.le_of_ble_eq_true hv) (by rw [hl]; exact h)
theorem WpX.st {a x : ROpd} {n r off : Nat} {cs : List AVal} {e : TypeId} {v : AVal} {vs l : List AVal} (ha : a.ev fr = .ptr r off) (hx : x.ev fr = v) (hvs : v.cells = vs) (hn : Nat.beq vs.length n = true) [hg : HasRow H r cs true e] (hl : Nat.ble (off + vs.length) cs.length = true) (ho : vs.all AVal.one = true)
    (hs : setAt cs off vs = l) (h : K aundef (H.set r (.row l true e))) : WpX (.store n a x) call fr H K := by
  subst hvs hs
  exact WpX.store ha hx (Nat.eq_of_beq_eq_true hn) hg.lt hg.get (Nat.le_of_ble_eq_true hl) ho h
end
def fuel0 : Nat := 1125899906842624
def Con (ext : Exts) (prog : FuncId → Option RFunc) (d : Nat) (f : FuncId) (args : List AVal) (H : AHeap) (Q : AVal → AHeap → Prop) : Prop :=
  ∀ n, fuel0 + d ≤ n → ∃ v H', callN ext prog n f args H = some (v, H') ∧ Q v H'
theorem Con.evs {ext : Exts} {prog : FuncId → Option RFunc} {d : Nat} {f : FuncId} {args : List AVal} {H : AHeap} {Q : AVal → AHeap → Prop} (h : Con ext prog d f args H Q) : Evs ext prog f args H Q := ⟨fuel0 + d, h⟩
theorem Con.mono {ext : Exts} {prog : FuncId → Option RFunc} {d : Nat} {f : FuncId} {args : List AVal} {H : AHeap} {Q Q' : AVal → AHeap → Prop} (h : Con ext prog d f args H Q) (hq : ∀ v H', Q v H' → Q' v H') : Con ext prog d f args H Q' := fun n hn => by
  obtain ⟨v, H', h1, h2⟩ := h n hn
  exact ⟨v, H', h1, hq _ _ h2⟩
theorem con_of {ext : Exts} {prog : FuncId → Option RFunc} {d : Nat} {f : FuncId} {rf : RFunc} {c : RCode} {args : List AVal} {H : AHeap} {Q : AVal → AHeap → Prop} (hp : prog f = some rf) (hc : rf.body = .code c) (hn : Nat.ble args.length rf.nt = true)
    (h : ∀ n, fuel0 + d ≤ n → Wp (callN ext prog n) n c (argFrame args) H fun x fr' H' => (match x with | .exit _ => False | _ => True) ∧ ∃ vs, getAll fr' rf.results H' = some (vs, H') ∧ Q (aResult vs) H') : Con ext prog (d + 1) f args H Q := by
  intro n hle
  obtain ⟨k, rfl⟩ : ∃ k, n = k + 1 := ⟨n - 1, by unfold fuel0 at hle; omega⟩
  obtain ⟨nt, body, res⟩ := rf
  simp only [] at hc
  subst hc
  obtain ⟨x, fr', H', h1, h2, vs, h3, h4⟩ := h k (by omega)
  refine ⟨aResult vs, H', ?_, h4⟩
  have hlt : ¬ nt < args.length := by have := Nat.le_of_ble_eq_true hn; simp only at this; omega
  simp only [callN, hp, RFunc.run, if_neg hlt, M.bind, h1]
  cases x with
  | exit i => exact h2.elim
  | normal => simp only [M.bind, h3, M.pure]
  | ret => simp only [M.bind, h3, M.pure]
theorem WpX.con {ext : Exts} {prog : FuncId → Option RFunc} {n d : Nat} {f : FuncId} {o : ROpd} {l : List ROpd} {args : List AVal} {fr : AFrame} {H : AHeap} {K Q : AVal → AHeap → Prop} (hc : Con ext prog d f args H Q) (hd : fuel0 + d ≤ n) (hf : o.ev fr = .func (.func f) [] []) (hl : l.map (·.ev fr) = args)
    (h : ∀ v H', Q v H' → K v H') : WpX (.call o l) (callN ext prog n) fr H K := by
  obtain ⟨v, H', h1, h2⟩ := hc n hd
  exact WpX.enter hf ⟨v, H', by rw [hl]; exact h1, h _ _ h2⟩
end Go.Am

namespace Go.Am
open Go
mutual
theorem abeq_refl : ∀ (v : AVal), abeq v v = true
  | .bool b => by simp [abeq]
  | .int k n => by simp [abeq]
  | .str s => by simp [abeq]
  | .nptr => by simp [abeq]
  | .ptr r o => by simp [abeq]
  | .nslice => by simp [abeq]
  | .slice r o l c z => by simp [abeq]
  | .nfunc => by simp [abeq]
  | .func f a b => by simp [abeq, abeqL_refl a, abeqL_refl b]
  | .niface => by simp [abeq]
  | .iface t v => by simp [abeq, abeq_refl v]
  | .agg l => by simp [abeq, abeqL_refl l]
  | .tuple l => by simp [abeq, abeqL_refl l]
  | .yield r => by simp [abeq]
  | .eslice r o l z => by simp [abeq]
  | .map r => by simp [abeq]
  | .nmap => rfl
theorem abeqL_refl : ∀ (l : List AVal), abeqL l l = true
  | [] => by simp [abeqL]
  | v :: l => by simp [abeqL, abeq_refl v, abeqL_refl l]
end
theorem okAt_look {r : DRec} {H : AHeap} (hc : Nat.beq r.cls 3 = false) (hx : r.o.op.look r.fr H = some r.v) : r.okAt H = true := by
  simp only [DRec.okAt, hc, hx, abeq_refl]
theorem okAt_read {r : DRec} {H : AHeap} (hc : Nat.beq r.cls 3 = false) (hx : r.o.op.exec noCall r.fr H = some (r.v, H)) : r.okAt H = true := okAt_look hc (look_of hx rfl)
def Good (r : DRec) (k : Nat) (R0 : List DRec) (H0 cur : AHeap) (may : Bool) : Prop := ∀ rest, r.chk k rest R0.length cur may = true → r.chk k (R0 ++ rest) 0 H0 true = true
theorem Good.nil {r : DRec} {k : Nat} {H0 : AHeap} : Good r k [] H0 H0 true := fun _ h => h
theorem Good.other {r : DRec} {k : Nat} {R0 : List DRec} {H0 cur : AHeap} {may : Bool} {e : DRec} (h : Good r k R0 H0 cur may) (he : e.eff = false) : Good r k (R0 ++ [e]) H0 cur may := fun rest hr => by
  rw [List.append_assoc]
  refine h _ ?_
  simp only [List.singleton_append, DRec.chk, he]
  simpa using hr
theorem Good.effect {r : DRec} {k : Nat} {R0 : List DRec} {H0 cur : AHeap} {may : Bool} {e : DRec} (h : Good r k R0 H0 cur may) (he : e.eff = true) (hok : may = false ∨ r.b.testBit R0.length = true ∨ r.okAt cur = true) : Good r k (R0 ++ [e]) H0 e.hp (!(e.b.testBit k)) := fun rest hr => by
  rw [List.append_assoc]
  refine h _ ?_
  simp only [List.singleton_append, DRec.chk, he, Bool.and_eq_true, Bool.or_eq_true, Bool.not_eq_true']
  refine ⟨?_, by simpa using hr⟩
  rcases hok with h | h | h
  · exact Or.inl (Or.inl h)
  · exact Or.inl (Or.inr h)
  · exact Or.inr h
structure DInv (R0 : List DRec) (H0 H : AHeap) (E : List (Nat × AHeap)) (Rd : List (Nat × DRec)) : Prop where
  good : ∀ r k, (∀ p ∈ E, r.b.testBit p.1 = true ∨ r.okAt p.2 = true) → ∃ m, Good r k R0 H0 H m
  reads : ∀ j r, R0[j]? = some r → r.want = true → (Nat.beq r.cls 1 || Nat.beq r.cls 3) = true → (j, r) ∈ Rd
  ok : ∀ p ∈ Rd, ∃ m, Good p.2 p.1 R0 H0 H m ∧ (m = true → p.2.okAt H = true)
theorem DInv.nil (H0 : AHeap) : DInv [] H0 H0 [] [] := ⟨fun _ _ _ => ⟨true, Good.nil⟩, fun j r h => by simp at h, fun p hp => by simp at hp⟩
theorem DInv.done {R0 : List DRec} {H0 H : AHeap} {E : List (Nat × AHeap)} {Rd : List (Nat × DRec)} (h : DInv R0 H0 H E Rd) : dcheck R0 H0 R0 0 = true := by
  have key : ∀ (rs : List DRec) (k : Nat), (∀ j r, rs[j]? = some r → R0[k + j]? = some r) → dcheck R0 H0 rs k = true := by
    intro rs
    induction rs with
    | nil => intro k _; rfl
    | cons r rs ih =>
      intro k hk
      simp only [dcheck, Bool.and_eq_true]
      refine ⟨?_, ih (k + 1) fun j q hq => by have := hk (j + 1) q (by simpa using hq); rwa [show k + 1 + j = k + (j + 1) by omega]⟩
      cases hc : (r.want && (Nat.beq r.cls 1 || Nat.beq r.cls 3)) with
      | false => rfl
      | true =>
        simp only [Bool.and_eq_true] at hc
        have hr : R0[k]? = some r := by simpa using hk 0 r rfl
        obtain ⟨m, h1, h2⟩ := h.ok _ (h.reads k r hr hc.1 hc.2)
        have h3 := h1 [] (by simp only [DRec.chk, Bool.or_eq_true, Bool.not_eq_true']; cases m <;> simp_all)
        simpa using h3
  exact key R0 0 fun j r hj => by simpa using hj
theorem get_snoc {R0 : List DRec} {e r : DRec} {j : Nat} (h : (R0 ++ [e])[j]? = some r) : R0[j]? = some r ∨ (j = R0.length ∧ r = e) := by
  by_cases hj : j < R0.length
  · rw [List.getElem?_append_left hj] at h; exact Or.inl h
  · rw [List.getElem?_append_right (by omega)] at h
    cases hq : j - R0.length with
    | zero => rw [hq] at h; simp at h; exact Or.inr ⟨by omega, h.symm⟩
    | succ q => rw [hq] at h; simp at h
theorem DInv.plain {R0 : List DRec} {H0 H : AHeap} {E : List (Nat × AHeap)} {Rd : List (Nat × DRec)} {e : DRec} (h : DInv R0 H0 H E Rd) (he : e.eff = false) (hn : (e.want && (Nat.beq e.cls 1 || Nat.beq e.cls 3)) = false) : DInv (R0 ++ [e]) H0 H E Rd := by
  refine ⟨fun r k hr => by obtain ⟨m, hm⟩ := h.good r k hr; exact ⟨m, hm.other he⟩, fun j r hj hw hc => ?_, fun p hp => by obtain ⟨m, h1, h2⟩ := h.ok p hp; exact ⟨m, h1.other he, h2⟩⟩
  rcases get_snoc hj with h1 | ⟨_, rfl⟩
  · exact h.reads j r h1 hw hc
  · rw [hw, hc] at hn; cases hn
theorem DInv.read {R0 : List DRec} {H0 H : AHeap} {E : List (Nat × AHeap)} {Rd : List (Nat × DRec)} {e : DRec} (h : DInv R0 H0 H E Rd) (he : e.eff = false) (hok : e.okAt H = true) (hE : ∀ p ∈ E, e.b.testBit p.1 = true ∨ e.okAt p.2 = true) : DInv (R0 ++ [e]) H0 H E (Rd ++ [(R0.length, e)]) := by
  refine ⟨fun r k hr => by obtain ⟨m, hm⟩ := h.good r k hr; exact ⟨m, hm.other he⟩, fun j r hj hw hc => ?_, fun p hp => ?_⟩
  · rcases get_snoc hj with h1 | ⟨rfl, rfl⟩
    · exact List.mem_append_left _ (h.reads j r h1 hw hc)
    · simp
  · rcases List.mem_append.1 hp with hp | hp
    · obtain ⟨m, h1, h2⟩ := h.ok p hp; exact ⟨m, h1.other he, h2⟩
    · simp only [List.mem_singleton] at hp; subst hp
      obtain ⟨m, hm⟩ := h.good e R0.length hE
      exact ⟨m, hm.other he, fun _ => hok⟩
theorem DInv.effect {R0 : List DRec} {H0 H : AHeap} {E : List (Nat × AHeap)} {Rd : List (Nat × DRec)} {e : DRec} (h : DInv R0 H0 H E Rd) (he : e.eff = true) (hn : (Nat.beq e.cls 1 || Nat.beq e.cls 3) = false)
    (hR : ∀ p ∈ Rd, e.b.testBit p.1 = true ∨ p.2.okAt e.hp = true) : DInv (R0 ++ [e]) H0 e.hp (E ++ [(R0.length, H)]) Rd := by
  refine ⟨fun r k hr => ?_, fun j r hj hw hc => ?_, fun p hp => ?_⟩
  · obtain ⟨m, hm⟩ := h.good r k fun p hp => hr p (List.mem_append_left _ hp)
    exact ⟨_, hm.effect he (Or.inr (hr (R0.length, H) (by simp)))⟩
  · rcases get_snoc hj with h1 | ⟨_, rfl⟩
    · exact h.reads j r h1 hw hc
    · rw [hc] at hn; cases hn
  · obtain ⟨m, h1, h2⟩ := h.ok p hp
    refine ⟨_, h1.effect he (by cases m with | false => exact Or.inl rfl | true => exact Or.inr (Or.inr (h2 rfl))), fun hm => ?_⟩
    rcases hR p hp with h3 | h3
    · rw [h3] at hm; cases hm
    · exact h3
def readOk (op : ROp) (fr : AFrame) (v : AVal) (H : AHeap) : Bool := match op.look fr H with
  | some v' => abeq v' v
  | none => false
theorem readOk_eq {r : DRec} (hc : Nat.beq r.cls 3 = false) : r.okAt = readOk r.o.op r.fr r.v := by
  funext H
  unfold DRec.okAt readOk
  rw [hc]
  rfl
theorem readOk_look {op : ROp} {fr : AFrame} {v : AVal} {H : AHeap} (h : op.look fr H = some v) : readOk op fr v H = true := by
  unfold readOk
  rw [h]
  simp [abeq_refl]
theorem readOk_of {op : ROp} {fr : AFrame} {v : AVal} {H : AHeap} (h : op.exec noCall fr H = some (v, H)) : readOk op fr v H = true := readOk_look (look_of h rfl)
def WpD (call : ACall) (n : Nat) (its : List DItem) (H0 : AHeap) (E : List (Nat × AHeap)) (Rd : List (Nat × (AHeap → Bool))) (fr : AFrame) (H : AHeap) (K : AFrame → AHeap → Prop) : Prop :=
  ∀ R0 Rd0 ref, R0.length = n → (Rd0.map fun (p : Nat × DRec) => (p.1, p.2.okAt)) = Rd → DInv R0 H0 H E Rd0 → ∃ R1 fr' H', dtext call its ref fr H = some (R1, fr', H') ∧ dcheck (R0 ++ R1) H0 (R0 ++ R1) 0 = true ∧ K fr' H'
section
variable {call : ACall} {lf n : Nat} {its : List DItem} {H0 H H1 : AHeap} {E : List (Nat × AHeap)} {Rd : List (Nat × (AHeap → Bool))} {fr : AFrame} {K : AFrame → AHeap → Prop} {Q : RExit → AFrame → AHeap → Prop} {op : ROp} {v : AVal} {b : Nat} {pre : Bool}
theorem WpD.nil (h : K fr H) : WpD call n [] H0 E Rd fr H K := fun R0 Rd0 ref _ _ hI => ⟨[], fr, H, rfl, by rw [List.append_nil]; exact hI.done, h⟩
theorem WpD.next {it : DItem} {R0 : List DRec} {ref : Nat} {r : DRec} {E' : List (Nat × AHeap)} {Rd' : List (Nat × (AHeap → Bool))} {Rd0' : List (Nat × DRec)} {fr1 : AFrame} (hn : R0.length = n) (hrd : (Rd0'.map fun (p : Nat × DRec) => (p.1, p.2.okAt)) = Rd')
    (hI : DInv (R0 ++ [r]) H0 H1 E' Rd0') (hd : ∀ R1 fr' H', dtext call its (nextRef it.cls ref) fr1 H1 = some (R1, fr', H') → dtext call (it :: its) ref fr H = some (r :: R1, fr', H')) (h : WpD call (n + 1) its H0 E' Rd' fr1 H1 K) :
    ∃ R1 fr' H', dtext call (it :: its) ref fr H = some (R1, fr', H') ∧ dcheck (R0 ++ R1) H0 (R0 ++ R1) 0 = true ∧ K fr' H' := by
  obtain ⟨R1, fr', H', h1, h2, h3⟩ := h (R0 ++ [r]) Rd0' (nextRef it.cls ref) (by simp [hn]) hrd hI
  exact ⟨r :: R1, fr', H', hd _ _ _ h1, by rw [List.append_assoc] at h2; exact h2, h3⟩
theorem WpD.pure {d : Option Nat} (hx : op.exec noCall fr H = some (v, H)) (h : WpD call (n + 1) its H0 E Rd (put fr d v) H K) : WpD call n (⟨⟨d, op, none⟩, b, 0, pre⟩ :: its) H0 E Rd fr H K := fun R0 Rd0 ref hn hrd hI =>
  WpD.next (r := ⟨⟨d, op, none⟩, b, 0, fr, v, true, false, H, ref⟩) hn hrd (hI.plain rfl rfl) (fun R1 fr' H' hd => by
    simp only [dtext, ROper.wanted, dstep, look_of hx rfl]
    simp only [Nat.beq, nextRef] at hd ⊢
    simp [hd]) h
theorem WpD.read {d : Option Nat} (hx : op.exec noCall fr H = some (v, H)) (hE : ∀ p ∈ E, b.testBit p.1 = true ∨ op.exec noCall fr p.2 = some (v, p.2)) (h : WpD call (n + 1) its H0 E (Rd ++ [(n, readOk op fr v)]) (put fr d v) H K) : WpD call n (⟨⟨d, op, none⟩, b, 1, pre⟩ :: its) H0 E Rd fr H K := fun R0 Rd0 ref hn hrd hI =>
  WpD.next (r := ⟨⟨d, op, none⟩, b, 1, fr, v, true, false, H, ref⟩) (Rd0' := Rd0 ++ [(R0.length, ⟨⟨d, op, none⟩, b, 1, fr, v, true, false, H, ref⟩)]) hn (by
      rw [List.map_append, hrd]
      simp only [List.map_cons, List.map_nil, hn]
      rw [readOk_eq rfl])
    (hI.read rfl (okAt_read rfl hx) (fun p hp => (hE p hp).imp id fun q => okAt_read rfl q)) (fun R1 fr' H' hd => by
    simp only [dtext, ROper.wanted, dstep, look_of hx rfl]
    simp only [Nat.beq, nextRef] at hd ⊢
    simp [hd]) h
theorem WpD.effect {d : Option Nat} (hx : op.exec call fr H = some (v, H1)) (hR : ∀ p ∈ Rd, b.testBit p.1 = true ∨ p.2 H1 = true) (h : WpD call (n + 1) its H0 (E ++ [(n, H)]) Rd (put fr d v) H1 K) : WpD call n (⟨⟨d, op, none⟩, b, 2, pre⟩ :: its) H0 E Rd fr H K := fun R0 Rd0 ref hn hrd hI =>
  WpD.next (r := ⟨⟨d, op, none⟩, b, 2, fr, v, true, true, H1, ref⟩) (E' := E ++ [(n, H)]) hn hrd (by
      have := hI.effect (e := ⟨⟨d, op, none⟩, b, 2, fr, v, true, true, H1, ref⟩) rfl rfl fun p hp => hR (p.1, p.2.okAt) (by rw [← hrd]; exact List.mem_map.2 ⟨p, hp, rfl⟩)
      rw [hn] at this; exact this) (fun R1 fr' H' hd => by
    simp only [dtext, ROper.wanted, dstep, hx]
    simp only [Nat.beq, nextRef] at hd ⊢
    simp [hd]) h
theorem oracle_none : ∀ (its : List DItem) (ref : Nat) (fr : AFrame) (H : AHeap), (its.all fun it => !(Nat.beq it.cls 3)) = true → oracle its ref fr H = [] := fun its ref fr H h => by
  have hc : cnt3 its = 0 := by
    induction its with
    | nil => rfl
    | cons it its ih =>
      simp only [List.all_cons, Bool.and_eq_true, Bool.not_eq_true'] at h
      simp only [cnt3, h.1, ih h.2]
  exact List.eq_nil_of_length_eq_zero (by rw [oracle_length, hc])
theorem Wp.dregion (hno : (its.all fun it => !(Nat.beq it.cls 3)) = true) (h : WpD call 0 its H [] [] fr H fun fr' H' => Q .normal fr' H') : Wp call lf (.dregion its) fr H Q := by
  obtain ⟨R1, fr', H', h1, h2, h3⟩ := h [] [] H.n rfl rfl (DInv.nil H)
  refine ⟨.normal, fr', H', ?_, h3⟩
  simp only [RCode.exec, oracle_none its H.n fr H hno, pushAll, h1]
  simp only [List.nil_append] at h2
  rw [h2]
end
end Go.Am

namespace Go.Am
open Go
def cellsB (l : List UInt8) : List AVal := l.map fun b => .int .u8 b.toNat
inductive BytesAt (H : AHeap) : AVal → List UInt8 → Prop
  | nil : BytesAt H .nslice []
  | slice {r off : Nat} {cap : Option Nat} {cs : List AVal} {rw : Bool} {e : TypeId} {l : List UInt8} (hr : r < H.n) (hg : H.get r = .row cs rw e) (hl : off + l.length ≤ cs.length) (hc : (cs.drop off).take l.length = cellsB l) : BytesAt H (.slice r off l.length cap 1) l
theorem BytesAt.ext {H H' : AHeap} {p : AVal} {l : List UInt8} (h : BytesAt H p l) (x : Ext H H') : BytesAt H' p l := by
  cases h with
  | nil => exact .nil
  | slice hr hg hl hc => exact .slice (Nat.lt_of_lt_of_le hr x.n) (by rw [x.get _ hr]; exact hg) hl hc
theorem BytesAt.len {H : AHeap} {p : AVal} {l : List UInt8} (h : BytesAt H p l) : aLenS p = some (.int .i64 l.length) := by
  cases h <;> rfl
theorem cellsB_one (l : List UInt8) : (cellsB l).all AVal.one = true := by simp [cellsB, AVal.one]
theorem cellsB_length (l : List UInt8) : (cellsB l).length = l.length := by simp [cellsB]
def NewS (H : AHeap) (q : AVal) : Prop := ∀ r off len cap sz, q = .slice r off len cap sz → H.n ≤ r
theorem NewS.mono {H H' : AHeap} {q : AVal} (h : NewS H' q) (hn : H.n ≤ H'.n) : NewS H q := fun r off len cap sz e => Nat.le_trans hn (h r off len cap sz e)
theorem BytesAt.set {H : AHeap} {q : AVal} {l : List UInt8} (h : BytesAt H q l) {s : Nat} (hs : ∀ r off len cap sz, q = .slice r off len cap sz → r ≠ s) (o : AObj) : BytesAt (H.set s o) q l := by
  cases h with
  | nil => exact .nil
  | slice hr hg hl hc => exact .slice hr (by rw [set_get_ne (hs _ _ _ _ _ rfl)]; exact hg) hl hc
theorem exec_ld {call : ACall} {fr : AFrame} {H : AHeap} {a : ROpd} {r off : Nat} {cs : List AVal} {rw : Bool} {e : TypeId} {v : AVal} (ha : a.ev fr = .ptr r off) [hg : HasRow H r cs rw e] (hv : cs[off]? = some v) : (ROp.load none a).exec call fr H = some (v, H) := by
  simp only [ROp.exec, ha, aLoad, M.bind, aRow, if_pos hg.lt, hg.get, hv, M.pure]
theorem exec_st {call : ACall} {fr : AFrame} {H : AHeap} {a x : ROpd} {n r off : Nat} {cs : List AVal} {e : TypeId} {v : AVal} {vs l : List AVal} (ha : a.ev fr = .ptr r off) (hx : x.ev fr = v) (hvs : v.cells = vs) (hn : Nat.beq vs.length n = true) [hg : HasRow H r cs true e] (hl : Nat.ble (off + vs.length) cs.length = true) (ho : vs.all AVal.one = true)
    (hs : setAt cs off vs = l) : (ROp.store n a x).exec call fr H = some (aundef, H.set r (.row l true e)) := by
  subst hvs hs
  simp only [ROp.exec, ha, hx, aStore, if_pos (Nat.eq_of_beq_eq_true hn), M.bind, aWrite, if_pos hg.lt, hg.get, Bool.true_and, decide_eq_true (Nat.le_of_ble_eq_true hl), ho, if_true, M.pure]
theorem exec_con {ext : Exts} {prog : FuncId → Option RFunc} {n d : Nat} {f : FuncId} {o : ROpd} {l : List ROpd} {args : List AVal} {fr : AFrame} {H : AHeap} {Q : AVal → AHeap → Prop} (hc : Con ext prog d f args H Q) (hd : fuel0 + d ≤ n) (hf : o.ev fr = .func (.func f) [] []) (hl : l.map (·.ev fr) = args) :
    ∃ v H', (ROp.call o l).exec (callN ext prog n) fr H = some (v, H') ∧ Q v H' := by
  obtain ⟨v, H', h1, h2⟩ := hc n hd
  exact ⟨v, H', by simp only [ROp.exec, hf, hl, aCallV, List.nil_append, List.append_nil]; exact h1, h2⟩
end Go.Am

namespace Go.Am
open Go
def memN (d : Nat) : List Nat → Bool
  | [] => false
  | x :: xs => cond (Nat.beq d x) true (memN d xs)
def dstIn (D : List Nat) : Option Nat → Bool
  | some d => memN d D
  | none => true
def opsIn (D : List Nat) : List ROper → Bool
  | [] => true
  | o :: os => cond (dstIn D o.dst) (opsIn D os) false
def itsIn (D : List Nat) : List DItem → Bool
  | [] => true
  | o :: os => cond (dstIn D o.o.dst) (itsIn D os) false
def RCode.within (D : List Nat) : RCode → Bool
  | .region ops => opsIn D ops
  | .dregion its => itsIn D its
  | .seq a b => _root_.cond (a.within D) (b.within D) false
  | .cond _ t e => _root_.cond (t.within D) (e.within D) false
  | .block _ b => b.within D
  | .loop b => b.within D
  | .scope b => b.within D
  | .rangeFunc .. => false
  | _ => true
theorem cond_tt {a b : Bool} (h : cond a b false = true) : a = true ∧ b = true := by cases a <;> simp_all
theorem put_off {D : List Nat} {d : Option Nat} (h : dstIn D d = true) {t : Nat} (ht : memN t D = false) (fr : AFrame) (v : AVal) : put fr d v t = fr t := by
  cases d with
  | none => rfl
  | some d =>
    have hne : Nat.beq t d = false := by
      cases hb : Nat.beq t d with
      | false => rfl
      | true => rw [Nat.eq_of_beq_eq_true hb] at ht; simp only [dstIn] at h; rw [h] at ht; cases ht
    simp only [put, upd, hne, cond_false]
theorem execOps_off {call : ACall} {D : List Nat} : ∀ {ops : List ROper} {fr fr' : AFrame} {H H' : AHeap}, opsIn D ops = true → execOps call ops fr H = some (fr', H') → ∀ t, memN t D = false → fr' t = fr t := by
  intro ops
  induction ops with
  | nil => intro fr fr' H H' _ h t _; cases h; rfl
  | cons o os ih =>
    intro fr fr' H H' hD h t ht
    obtain ⟨hd, hos⟩ := cond_tt hD
    simp only [execOps] at h
    cases hw : o.wanted fr with
    | true =>
      rw [hw] at h
      obtain ⟨v, H1, h1, h2⟩ := bind_some h
      rw [ih hos h2 t ht, put_off hd ht]
    | false =>
      rw [hw] at h
      rw [ih hos h t ht, put_off hd ht]
theorem dtext_off {call : ACall} {D : List Nat} : ∀ {its : List DItem} {ref : Nat} {fr fr' : AFrame} {H H' : AHeap} {R : List DRec}, itsIn D its = true → dtext call its ref fr H = some (R, fr', H') → ∀ t, memN t D = false → fr' t = fr t := by
  intro its
  induction its with
  | nil => intro ref fr fr' H H' R _ h t _; cases h; rfl
  | cons o os ih =>
    intro ref fr fr' H H' R hD h t ht
    obtain ⟨hd, hos⟩ := cond_tt hD
    simp only [dtext] at h
    cases hw : o.o.wanted fr with
    | true =>
      rw [hw] at h
      simp only [] at h
      cases hs : dstep call o ref fr H with
      | none => rw [hs] at h; cases h
      | some p =>
        obtain ⟨v, eff, H1⟩ := p
        rw [hs] at h
        simp only [] at h
        cases hr : dtext call os (nextRef o.cls ref) (put fr o.o.dst v) H1 with
        | none => rw [hr] at h; cases h
        | some q =>
          obtain ⟨R1, f1, H2⟩ := q
          rw [hr] at h
          cases h
          rw [ih hos hr t ht, put_off hd ht]
    | false =>
      rw [hw] at h
      simp only [] at h
      cases hr : dtext call os (nextRef o.cls ref) (put fr o.o.dst aundef) H with
      | none => rw [hr] at h; cases h
      | some q =>
        obtain ⟨R1, f1, H2⟩ := q
        rw [hr] at h
        cases h
        rw [ih hos hr t ht, put_off hd ht]
theorem exec_off {call : ACall} {lf : Nat} {D : List Nat} : ∀ {c : RCode} {fr fr' : AFrame} {H H' : AHeap} {x : RExit}, c.within D = true → c.exec call lf fr H = some ((x, fr'), H') → ∀ t, memN t D = false → fr' t = fr t := by
  intro c
  induction c with
  | skip => intro fr fr' H H' x _ h t _; cases h; rfl
  | label => intro fr fr' H H' x _ h t _; cases h; rfl
  | exit id => intro fr fr' H H' x _ h t _; cases h; rfl
  | ret => intro fr fr' H H' x _ h t _; cases h; rfl
  | fail => intro fr fr' H H' x _ h t _; cases h
  | region ops =>
    intro fr fr' H H' x hD h t ht
    obtain ⟨f1, H1, h1, h2⟩ := bind_some h
    cases h2
    exact execOps_off hD h1 t ht
  | dregion its =>
    intro fr fr' H H' x hD h t ht
    simp only [RCode.exec] at h
    split at h
    · rename_i R f1 H1 hd
      split at h
      · cases h; exact dtext_off hD hd t ht
      · cases h
    · cases h
  | seq a b iha ihb =>
    intro fr fr' H H' x hD h t ht
    obtain ⟨hda, hdb⟩ := cond_tt hD
    obtain ⟨⟨y, f1⟩, H1, h1, h2⟩ := bind_some h
    cases y with
    | normal => rw [ihb hdb h2 t ht, iha hda h1 t ht]
    | exit id => cases h2; exact iha hda h1 t ht
    | ret => cases h2; exact iha hda h1 t ht
  | cond c a b iha ihb =>
    intro fr fr' H H' x hD h t ht
    obtain ⟨hda, hdb⟩ := cond_tt hD
    simp only [RCode.exec] at h
    cases hc : c.ev fr with
    | bool b0 =>
      rw [hc] at h
      cases b0 with
      | true => exact iha hda h t ht
      | false => exact ihb hdb h t ht
    | _ => rw [hc] at h; cases h
  | block id b ih =>
    intro fr fr' H H' x hD h t ht
    obtain ⟨⟨y, f1⟩, H1, h1, h2⟩ := bind_some h
    cases y with
    | normal => cases h2; exact ih hD h1 t ht
    | ret => cases h2; exact ih hD h1 t ht
    | exit i =>
      simp only [] at h2
      cases hb : Nat.beq i id with
      | true => rw [hb] at h2; cases h2; exact ih hD h1 t ht
      | false => rw [hb] at h2; cases h2; exact ih hD h1 t ht
  | scope b ih => intro fr fr' H H' x hD h t ht; exact ih hD h t ht
  | rangeFunc fns nt g ps a b _ _ => intro fr fr' H H' x hD; cases hD
  | loop b ih =>
    intro fr fr' H H' x hD h t ht
    have key : ∀ (n : Nat) (fr fr' : AFrame) (H H' : AHeap) (x : RExit), loopN (b.exec call lf) n fr H = some ((x, fr'), H') → fr' t = fr t := by
      intro n
      induction n with
      | zero => intro fr fr' H H' x h; cases h
      | succ n ihn =>
        intro fr fr' H H' x h
        obtain ⟨⟨y, f1⟩, H1, h1, h2⟩ := bind_some h
        cases y with
        | normal => rw [ihn _ _ _ _ _ h2, ih hD h1 t ht]
        | exit i => cases h2; exact ih hD h1 t ht
        | ret => cases h2; exact ih hD h1 t ht
    exact key lf fr fr' H H' x h
def mix : List Nat → AFrame → AFrame → AFrame
  | [], _, fr => fr
  | d :: D, g, fr => upd (mix D g fr) d (g d)
def updL : List (Nat × AVal) → AFrame → AFrame
  | [], fr => fr
  | p :: l, fr => upd (updL l fr) p.1 p.2
def agrees : List (Nat × AVal) → AFrame → Prop
  | [], _ => True
  | p :: l, fr => fr p.1 = p.2 ∧ agrees l fr
def keysIn (D : List Nat) : List (Nat × AVal) → Bool
  | [] => true
  | p :: l => cond (memN p.1 D) (keysIn D l) false
theorem mix_off {D : List Nat} {t : Nat} (h : memN t D = false) (g fr : AFrame) : mix D g fr t = fr t := by
  induction D with
  | nil => rfl
  | cons d D ih =>
    simp only [memN] at h
    cases hb : Nat.beq t d with
    | true => rw [hb] at h; cases h
    | false => rw [hb] at h; simp only [mix, upd, hb, cond_false]; exact ih h
theorem mix_on {D : List Nat} {t : Nat} (h : memN t D = true) (g fr : AFrame) : mix D g fr t = g t := by
  induction D with
  | nil => cases h
  | cons d D ih =>
    simp only [memN] at h
    cases hb : Nat.beq t d with
    | true => simp only [mix, upd, hb, cond_true]; rw [Nat.eq_of_beq_eq_true hb]
    | false => rw [hb] at h; simp only [mix, upd, hb, cond_false]; exact ih h
theorem updL_agrees {l : List (Nat × AVal)} {fr : AFrame} (h : agrees l fr) : updL l fr = fr := by
  induction l with
  | nil => rfl
  | cons p l ih =>
    simp only [updL, ih h.2]
    funext i
    cases hb : Nat.beq i p.1 with
    | true => simp only [upd, hb, cond_true]; rw [Nat.eq_of_beq_eq_true hb]; exact h.1.symm
    | false => simp only [upd, hb, cond_false]
theorem updL_off {D : List Nat} {l : List (Nat × AVal)} (hk : keysIn D l = true) {t : Nat} (h : memN t D = false) (fr : AFrame) : updL l fr t = fr t := by
  induction l with
  | nil => rfl
  | cons p l ih =>
    obtain ⟨h1, h2⟩ := cond_tt hk
    cases hb : Nat.beq t p.1 with
    | true => rw [← Nat.eq_of_beq_eq_true hb, h] at h1; cases h1
    | false => simp only [updL, upd, hb, cond_false]; exact ih h2
theorem mix_self {D : List Nat} {f fr : AFrame} (h : ∀ t, memN t D = false → f t = fr t) : mix D f fr = f := by
  funext t
  cases hm : memN t D with
  | true => exact mix_on hm f fr
  | false => rw [mix_off hm, h t hm]
section
variable {call : ACall} {lf : Nat} {fr : AFrame} {H : AHeap} {Q : RExit → AFrame → AHeap → Prop} {K : AFrame → AHeap → Prop}
theorem Wp.loopS {σ : Type} {b : RCode} (D : List Nat) (vals : σ → List (Nat × AVal)) (I : AHeap → σ → AHeap → Prop) (μ : σ → Nat) (s0 : σ) (hD : b.within D = true) (hk : ∀ s, keysIn D (vals s) = true)
    (ha : agrees (vals s0) fr) (hi : I H s0 H) (hμ : μ s0 < lf)
    (step : ∀ s g H1, I H s H1 → Wp call lf b (updL (vals s) (mix D g fr)) H1 fun x fr' H' => match x with | .normal => ∃ s', μ s' < μ s ∧ agrees (vals s') fr' ∧ I H s' H' | e => Q e fr' H') : Wp call lf (.loop b) fr H Q := by
  refine Wp.loop (fun k f H1 => ∃ s g, k = μ s ∧ I H s H1 ∧ f = updL (vals s) (mix D g fr)) ?_ hμ ⟨s0, fr, rfl, hi, by rw [mix_self (fun _ _ => rfl), updL_agrees ha]⟩
  rintro k f H0 ⟨s, g, rfl, hI, rfl⟩
  obtain ⟨x, fr', H', h1, h2⟩ := step s g H0 hI
  refine ⟨x, fr', H', h1, ?_⟩
  cases x with
  | normal =>
    obtain ⟨s', h3, h4, h5⟩ := h2
    refine ⟨μ s', h3, s', fr', rfl, h5, ?_⟩
    have hoff : ∀ t, memN t D = false → fr' t = fr t := fun t ht => by rw [exec_off hD h1 t ht, updL_off (hk s) ht, mix_off ht]
    rw [mix_self hoff, updL_agrees h4]
  | exit i => exact h2
  | ret => exact h2
end
theorem dcheck_none {R : List DRec} {H0 : AHeap} (h : ∀ r ∈ R, r.eff = false) (hok : ∀ r ∈ R, r.want = true → (Nat.beq r.cls 1 || Nat.beq r.cls 3) = true → r.okAt H0 = true) : dcheck R H0 R 0 = true := by
  have hchk : ∀ (r : DRec) (k : Nat) (es : List DRec) (i : Nat), (∀ e ∈ es, e.eff = false) → r.okAt H0 = true → r.chk k es i H0 true = true := by
    intro r k es
    induction es with
    | nil => intro i _ h; simp [DRec.chk, h]
    | cons e es ih => intro i he h; simp only [DRec.chk, he e (by simp)]; exact ih _ (fun x hx => he x (by simp [hx])) h
  have key : ∀ (rs : List DRec) (k : Nat), (∀ r ∈ rs, r ∈ R) → dcheck R H0 rs k = true := by
    intro rs
    induction rs with
    | nil => intro k _; rfl
    | cons r rs ih =>
      intro k hm
      simp only [dcheck, Bool.and_eq_true]
      refine ⟨?_, ih _ fun x hx => hm x (by simp [hx])⟩
      cases hc : (r.want && (Nat.beq r.cls 1 || Nat.beq r.cls 3)) with
      | false => rfl
      | true =>
        simp only [Bool.and_eq_true] at hc
        exact hchk r k R 0 h (hok r (hm r (by simp)) hc.1 hc.2)
  exact key R 0 fun _ h => h
def quietOp : ROp → Bool
  | .sliceS .. => false
  | op => Nat.ble op.kind 1
def quiet : List DItem → Bool
  | [] => true
  | o :: os => _root_.cond (quietOp o.o.op && Nat.ble o.cls 1) (quiet os) false
def opsOf : List DItem → List ROper
  | [] => []
  | o :: os => o.o :: opsOf os
theorem quietOp_same {call : ACall} {fr : AFrame} {op : ROp} {H H' : AHeap} {v : AVal} (hq : quietOp op = true) (hx : op.exec call fr H = some (v, H')) : H' = H ∧ ∀ call', op.exec call' fr H = some (v, H) := by
  have hk : op.kind ≤ 1 := by cases op <;> simp_all [quietOp]
  have hn : H'.n = H.n := by
    by_cases h0 : op.kind = 0
    · have := exec_pure h0 hx call H
      rw [hx] at this; cases this; rfl
    · have h1 : op.kind = 1 := by omega
      cases op <;> simp only [ROp.kind] at h0 h1 <;> first | (exact absurd rfl h0) | (cases h1; done) | skip
      · rw [aLoad_same hx]
      · simp [quietOp] at hq
      · rw [aBytesToStr_same hx]
      · rw [aUptr_same hx]
      · rw [aSliceData_same hx]
      · rw [aLookup_same hx]
  exact exec_reads hk hx hn
theorem dtext_quiet {call : ACall} : ∀ {its : List DItem} {ref : Nat} {fr fr' : AFrame} {H H' : AHeap}, quiet its = true → execOps call (opsOf its) fr H = some (fr', H') → H' = H ∧ ∃ R, dtext call its ref fr H = some (R, fr', H) ∧ ∀ r ∈ R, r.eff = false ∧ (r.want = true → (Nat.beq r.cls 1 || Nat.beq r.cls 3) = true → r.okAt H = true) := by
  intro its
  induction its with
  | nil => intro ref fr fr' H H' _ h; cases h; exact ⟨rfl, [], rfl, by simp⟩
  | cons o os ih =>
    intro ref fr fr' H H' hq h
    obtain ⟨hq1, hq2⟩ := cond_tt hq
    simp only [Bool.and_eq_true] at hq1
    have hcls : o.cls ≤ 1 := Nat.le_of_ble_eq_true hq1.2
    have h3 : Nat.beq o.cls 3 = false := by apply nbeq_ne; omega
    have h2 : Nat.beq o.cls 2 = false := by apply nbeq_ne; omega
    simp only [opsOf, execOps] at h
    cases hw : o.o.wanted fr with
    | false =>
      rw [hw] at h
      obtain ⟨e1, R, hR, hall⟩ := ih (ref := nextRef o.cls ref) hq2 h
      refine ⟨e1, ⟨o.o, o.b, o.cls, fr, aundef, false, false, H, ref⟩ :: R, by simp only [dtext, hw, hR], ?_⟩
      intro r hr
      rcases List.mem_cons.1 hr with rfl | hr
      · exact ⟨rfl, fun h => by cases h⟩
      · exact hall r hr
    | true =>
      rw [hw] at h
      obtain ⟨v, H1, hx, hrest⟩ := bind_some h
      obtain ⟨e1, hc⟩ := quietOp_same hq1.1 hx
      subst e1
      obtain ⟨e2, R, hR, hall⟩ := ih (ref := nextRef o.cls ref) hq2 hrest
      refine ⟨e2, ⟨o.o, o.b, o.cls, fr, v, true, false, H1, ref⟩ :: R, ?_, ?_⟩
      · simp only [dtext, hw, dstep, h2, h3, look_of (hc noCall) rfl]
        simp [hR]
      · intro r hr
        rcases List.mem_cons.1 hr with rfl | hr
        · exact ⟨rfl, fun _ _ => okAt_read h3 (hc noCall)⟩
        · exact hall r hr
theorem quiet_no3 : ∀ {its : List DItem}, quiet its = true → (its.all fun it => !(Nat.beq it.cls 3)) = true := by
  intro its
  induction its with
  | nil => intro _; rfl
  | cons o os ih =>
    intro hq
    obtain ⟨hq1, hq2⟩ := cond_tt hq
    simp only [Bool.and_eq_true] at hq1
    have hcls : o.cls ≤ 1 := Nat.le_of_ble_eq_true hq1.2
    have h3 : Nat.beq o.cls 3 = false := by apply nbeq_ne; omega
    simp only [List.all_cons, h3, ih hq2]; rfl
section
variable {call : ACall} {lf : Nat} {fr : AFrame} {H : AHeap} {Q : RExit → AFrame → AHeap → Prop} {K : AFrame → AHeap → Prop}
theorem Wp.dquiet {its : List DItem} {ops : List ROper} (hq : quiet its = true) (ho : opsOf its = ops) (h : WpO call ops fr H fun fr' H' => Q .normal fr' H') : Wp call lf (.dregion its) fr H Q := by
  subst ho
  obtain ⟨fr', H', h1, h2⟩ := h
  obtain ⟨rfl, R, hR, hall⟩ := dtext_quiet (ref := H.n) hq h1
  refine ⟨.normal, fr', H', ?_, h2⟩
  simp only [RCode.exec, oracle_none its H'.n fr H' (quiet_no3 hq), pushAll, hR]
  rw [dcheck_none (fun r hr => (hall r hr).1) fun r hr => (hall r hr).2]
end
end Go.Am

namespace Go.Am
open Go
def cellsI (l : List Int) : List AVal := l.map fun n => .int .i64 n
theorem cellsI_length (l : List Int) : (cellsI l).length = l.length := by simp [cellsI]
def rowOf : AVal → Nat
  | .slice r _ _ _ _ => r
  | _ => 0
def offOf : AVal → Nat
  | .slice _ off _ _ _ => off
  | _ => 0
class SliceAt (H : AHeap) (p : AVal) (sz : outParam Nat) (n : outParam Nat) (cs : outParam (List AVal)) : Prop where
  it : (p = .nslice ∧ n = 0 ∧ cs = []) ∨ ∃ r off cap row rw e, p = .slice r off n cap sz ∧ r < H.n ∧ H.get r = .row row rw e ∧ off + n * sz ≤ row.length ∧ (row.drop off).take (n * sz) = cs ∧ n ≤ capD n cap
class WrS (H : AHeap) (p : AVal) : Prop where
  it : ∀ r off len cap sz, p = .slice r off len cap sz → ∃ cs e, H.get r = .row cs true e
class RowNe (p : AVal) (s : Nat) : Prop where
  ne : ∀ r off len cap sz, p = .slice r off len cap sz → r ≠ s
class FreshS (H : outParam AHeap) (p : AVal) : Prop where
  ge : ∀ r off len cap sz, p = .slice r off len cap sz → H.n ≤ r
class SepS (p q : AVal) : Prop where
  ne : ∀ r off len cap sz r' off' len' cap' sz', p = .slice r off len cap sz → q = .slice r' off' len' cap' sz' → r ≠ r'
class ExtP (H : outParam AHeap) (H' : AHeap) (p : outParam AVal) : Prop where
  n : H.n ≤ H'.n
  get : ∀ r, r < H.n → RowNe p r → H'.get r = H.get r
class Ext0 (H H' : AHeap) : Prop where
  ext : Ext H H'
class LeN (H : AHeap) (s : Nat) : Prop where
  le : H.n ≤ s
abbrev BytesI (H : AHeap) (p : AVal) (l : List UInt8) : Prop := SliceAt H p 1 l.length (cellsB l)
abbrev IntsI (H : AHeap) (p : AVal) (l : List Int) : Prop := SliceAt H p 1 l.length (cellsI l)
theorem SliceAt.len {H : AHeap} {p : AVal} {sz n : Nat} {cs : List AVal} (h : SliceAt H p sz n cs) : cs.length = n * sz := by
  rcases h.it with ⟨_, rfl, rfl⟩ | ⟨r, off, cap, row, rw, e, _, _, _, hl, hc, _⟩
  · simp
  · rw [← hc, List.length_take, List.length_drop]; omega
theorem SliceAt.lenS {H : AHeap} {p : AVal} {sz n : Nat} {cs : List AVal} (h : SliceAt H p sz n cs) : aLenS p = some (.int .i64 n) := by
  rcases h.it with ⟨rfl, rfl, _⟩ | ⟨r, off, cap, row, rw, e, rfl, _⟩ <;> rfl
theorem SliceAt.lt {H : AHeap} {p : AVal} {sz n : Nat} {cs : List AVal} (h : SliceAt H p sz n cs) {r off len : Nat} {cap : Option Nat} {s : Nat} (e : p = .slice r off len cap s) : r < H.n := by
  rcases h.it with ⟨rfl, _⟩ | ⟨r, off, cap, row, rw, e, rfl, hr, _⟩
  · cases e
  · cases e; exact hr
theorem SliceAt.keep {H H' : AHeap} {p : AVal} {sz n : Nat} {cs : List AVal} (h : SliceAt H p sz n cs) (hn : H.n ≤ H'.n) (hg : ∀ r off len cap sz, p = .slice r off len cap sz → r < H.n → H'.get r = H.get r) : SliceAt H' p sz n cs := by
  rcases h.it with ⟨h1, h2, h3⟩ | ⟨r, off, cap, row, rw, e, h1, h2, h3, h4, h5⟩
  · exact ⟨Or.inl ⟨h1, h2, h3⟩⟩
  · exact ⟨Or.inr ⟨r, off, cap, row, rw, e, h1, by omega, by rw [hg _ _ _ _ _ h1 h2]; exact h3, h4, h5⟩⟩
theorem WrS.keep {H H' : AHeap} {p : AVal} (h : WrS H p) (hg : ∀ r off len cap sz, p = .slice r off len cap sz → H'.get r = H.get r) : WrS H' p := ⟨fun r off len cap sz e => by rw [hg _ _ _ _ _ e]; exact h.it _ _ _ _ _ e⟩
instance {s : Nat} {p : AVal} {K : AHeap} [f : FreshS K p] [l : LtN s K] : RowNe p s := ⟨fun r off len cap sz e => by have := f.ge _ _ _ _ _ e; have := l.lt; omega⟩
instance {H : AHeap} {p : AVal} {sz n : Nat} {cs : List AVal} [h : SliceAt H p sz n cs] : RowNe p H.n := ⟨fun r off len cap s e => Nat.ne_of_lt (h.lt e)⟩
instance {K : AHeap} {s : Nat} {p : AVal} {sz n : Nat} {cs : List AVal} [g : GeN K s] [h : SliceAt K p sz n cs] : RowNe p s := ⟨fun r off len cap sz e => by have := h.lt e; have := g.ge; omega⟩
instance {s : Nat} : RowNe .nslice s := ⟨fun _ _ _ _ _ e => by cases e⟩
instance {K : AHeap} {p q : AVal} {sz n : Nat} {cs : List AVal} [f : FreshS K p] [h : SliceAt K q sz n cs] : SepS p q := ⟨fun r off len cap sz r' off' len' cap' sz' e e' => by have := f.ge _ _ _ _ _ e; have := h.lt e'; omega⟩
instance {K : AHeap} {p q : AVal} {sz n : Nat} {cs : List AVal} [f : FreshS K p] [h : SliceAt K q sz n cs] : SepS q p := ⟨fun r off len cap sz r' off' len' cap' sz' e e' => by have := f.ge _ _ _ _ _ e'; have := h.lt e; omega⟩
instance {q : AVal} : SepS .nslice q := ⟨fun _ _ _ _ _ _ _ _ _ _ e => by cases e⟩
instance {H : AHeap} : SliceAt H .nslice 1 0 [] := ⟨Or.inl ⟨rfl, rfl, rfl⟩⟩
instance {H H' : AHeap} {p : AVal} {sz n : Nat} {cs : List AVal} [x : ExtI H H'] [h : SliceAt H p sz n cs] : SliceAt H' p sz n cs := h.keep x.ext.n fun _ _ _ _ _ _ hr => x.ext.get _ hr
instance {H : AHeap} {o : AObj} {p : AVal} {sz n : Nat} {cs : List AVal} [h : SliceAt H p sz n cs] : SliceAt (H.push o) p sz n cs := h.keep (Nat.le_succ _) fun _ _ _ _ _ _ hr => push_get_lt hr
instance {H : AHeap} {s : Nat} {o : AObj} {p : AVal} {sz n : Nat} {cs : List AVal} [h : SliceAt H p sz n cs] [k : RowNe p s] : SliceAt (H.set s o) p sz n cs := h.keep (Nat.le_refl _) fun _ _ _ _ _ e _ => set_get_ne (k.ne _ _ _ _ _ e)
instance {H H' : AHeap} {p q : AVal} {sz n : Nat} {cs : List AVal} [x : ExtP H H' q] [h : SliceAt H p sz n cs] [k : SepS p q] : SliceAt H' p sz n cs := h.keep x.n fun r _ _ _ _ e hr => x.get r hr ⟨fun r' _ _ _ _ e' => fun hh => k.ne _ _ _ _ _ _ _ _ _ _ e e' hh.symm⟩
instance {H H' : AHeap} {r : Nat} {cs : List AVal} {rw : Bool} {e : TypeId} {q : AVal} [x : ExtP H H' q] [h : HasRow H r cs rw e] [k : RowNe q r] : HasRow H' r cs rw e := ⟨Nat.lt_of_lt_of_le h.lt x.n, by rw [x.get r h.lt k]; exact h.get⟩
instance {H H' : AHeap} {p : AVal} {sz n : Nat} {cs : List AVal} [x : ExtI H H'] [w : WrS H p] [h : SliceAt H p sz n cs] : WrS H' p := w.keep fun _ _ _ _ _ e => x.ext.get _ (h.lt e)
instance {H : AHeap} {o : AObj} {p : AVal} {sz n : Nat} {cs : List AVal} [w : WrS H p] [h : SliceAt H p sz n cs] : WrS (H.push o) p := w.keep fun _ _ _ _ _ e => push_get_lt (h.lt e)
instance {H : AHeap} {s : Nat} {o : AObj} {p : AVal} [w : WrS H p] [k : RowNe p s] : WrS (H.set s o) p := w.keep fun _ _ _ _ _ e => set_get_ne (k.ne _ _ _ _ _ e)
instance {H H' : AHeap} {p q : AVal} {sz n : Nat} {cs : List AVal} [x : ExtP H H' q] [w : WrS H p] [h : SliceAt H p sz n cs] [k : SepS p q] : WrS H' p := w.keep fun r _ _ _ _ e => x.get r (h.lt e) ⟨fun r' _ _ _ _ e' => fun hh => k.ne _ _ _ _ _ _ _ _ _ _ e e' hh.symm⟩
instance {H : AHeap} : Ext0 H H := ⟨Ext.refl H⟩
instance {H H' : AHeap} {o : AObj} [x : Ext0 H H'] : Ext0 H (H'.push o) := ⟨x.ext.push o⟩
instance {H H' : AHeap} {s : Nat} {o : AObj} [x : Ext0 H H'] [l : LeN H s] : Ext0 H (H'.set s o) := ⟨x.ext.set l.le o⟩
instance {H H1 H2 : AHeap} [y : ExtI H1 H2] [x : Ext0 H H1] : Ext0 H H2 := ⟨x.ext.trans y.ext⟩
instance {H K : AHeap} [x : Ext0 H K] : LeN H K.n := ⟨x.ext.n⟩
instance {H K : AHeap} {s : Nat} [g : GeN K s] [x : Ext0 H K] : LeN H s := ⟨Nat.le_trans x.ext.n g.ge⟩
instance {H K H1 H2 : AHeap} {p : AVal} [y : ExtP H1 H2 p] [f : FreshS K p] [z : Ext0 H K] [x : Ext0 H H1] : Ext0 H H2 := ⟨⟨Nat.le_trans x.ext.n y.n, fun r hr => by
  rw [y.get r (Nat.lt_of_lt_of_le hr x.ext.n) ⟨fun r' _ _ _ _ e => by have := f.ge _ _ _ _ _ e; have := z.ext.n; omega⟩]
  exact x.ext.get r hr⟩⟩
theorem FreshS.weak {H K : AHeap} {p : AVal} (f : FreshS K p) [x : Ext0 H K] : FreshS H p := ⟨fun _ _ _ _ _ e => Nat.le_trans x.ext.n (f.ge _ _ _ _ _ e)⟩
theorem ExtP.refl (H : AHeap) (p : AVal) : ExtP H H p := ⟨Nat.le_refl _, fun _ _ _ => rfl⟩
theorem ExtP.trans {a b c : AHeap} {p : AVal} (h : ExtP a b p) (k : ExtP b c p) : ExtP a c p := ⟨Nat.le_trans h.n k.n, fun r hr hp => by rw [k.get r (Nat.lt_of_lt_of_le hr h.n) hp, h.get r hr hp]⟩
theorem ExtP.ext {a b c : AHeap} {p : AVal} (h : ExtP a b p) (k : Ext b c) : ExtP a c p := ⟨Nat.le_trans h.n k.n, fun r hr hp => by rw [k.get r (Nat.lt_of_lt_of_le hr h.n), h.get r hr hp]⟩
class ExtP0 (H H' : AHeap) (p : AVal) : Prop where
  ext : ExtP H H' p
instance {H : AHeap} {p : AVal} : ExtP0 H H p := ⟨ExtP.refl H p⟩
instance {H H' : AHeap} {p : AVal} {o : AObj} [x : ExtP0 H H' p] : ExtP0 H (H'.push o) p := ⟨x.ext.ext ((Ext.refl H').push o)⟩
instance {H H1 H2 : AHeap} {p : AVal} [y : ExtI H1 H2] [x : ExtP0 H H1 p] : ExtP0 H H2 p := ⟨x.ext.ext y.ext⟩
instance {H H1 H2 : AHeap} {p : AVal} [y : ExtP H1 H2 p] [x : ExtP0 H H1 p] : ExtP0 H H2 p := ⟨x.ext.trans y⟩
class LeP (H : AHeap) (p : AVal) (s : Nat) : Prop where
  le : H.n ≤ s
instance {H K : AHeap} {p : AVal} [x : ExtP0 H K p] : LeP H p K.n := ⟨x.ext.n⟩
instance {H H' : AHeap} {p : AVal} {s : Nat} {o : AObj} [x : ExtP0 H H' p] [l : LeP H p s] : ExtP0 H (H'.set s o) p := ⟨x.ext.n, fun r hr hp => by rw [set_get_ne (by have := l.le; omega)]; exact x.ext.get r hr hp⟩
instance {H K H1 H2 : AHeap} {p q : AVal} [y : ExtP H1 H2 q] [f : FreshS K q] [z : ExtP0 H K p] [x : ExtP0 H H1 p] : ExtP0 H H2 p := ⟨Nat.le_trans x.ext.n y.n, fun r hr hp => by
  rw [y.get r (Nat.lt_of_lt_of_le hr x.ext.n) ⟨fun r' _ _ _ _ e => by have := f.ge _ _ _ _ _ e; have := z.ext.n; omega⟩]
  exact x.ext.get r hr hp⟩
section
variable {call : ACall} {fr : AFrame} {H : AHeap} {K : AVal → AHeap → Prop} {KF : AFrame → AHeap → Prop}
def nowOk : ROp → Bool
  | .makeSlice .. => false
  | _ => true
theorem WpO.now {d : Nat} {op : ROp} {os : List ROper} {v : AVal} {H1 : AHeap} (_ : nowOk op = true) (hx : op.exec call fr H = some (v, H1)) (h : WpO call os (upd fr d v) H1 KF) : WpO call (⟨some d, op, none⟩ :: os) fr H KF := WpO.step rfl ⟨v, H1, hx, h⟩
theorem WpX.lenP {x : ROpd} {p : AVal} {sz n : Nat} {cs : List AVal} (hx : x.ev fr = p) [s : SliceAt H p sz n cs] (h : K (.int .i64 n) H) : WpX (.lenS x) call fr H K := ⟨_, _, by simp only [ROp.exec, hx, s.lenS, M.ofOption, M.pure], h⟩
theorem exec_idxP {x i : ROpd} {p : AVal} {sz n : Nat} {cs : List AVal} {k : IntKind} {a : Int} (hx : x.ev fr = p) (hi : i.ev fr = .int k a) [s : SliceAt H p sz n cs] (h0 : 0 ≤ a ∧ a < n) : (ROp.idxS sz x i).exec call fr H = some (.ptr (rowOf p) (offOf p + a.toNat * sz), H) := by
  rcases s.it with ⟨_, rfl, _⟩ | ⟨r, off, cap, row, rw, e, rfl, _, _, hl, hc, _⟩
  · have := h0.1; have := h0.2; omega
  · simp only [ROp.exec, hx, hi, aIdxS, true_and, if_pos h0, M.ofOption, M.pure, rowOf, offOf]
theorem WpX.idxP {x i : ROpd} {p : AVal} {sz n : Nat} {cs : List AVal} {k : IntKind} {a : Int} (hx : x.ev fr = p) (hi : i.ev fr = .int k a) [s : SliceAt H p sz n cs] (h0 : 0 ≤ a ∧ a < n) (h : K (.ptr (rowOf p) (offOf p + a.toNat * sz)) H) : WpX (.idxS sz x i) call fr H K :=
  ⟨_, _, exec_idxP hx hi h0, h⟩
theorem exec_ldP {a : ROpd} {p : AVal} {sz n j : Nat} {cs : List AVal} {v : AVal} (ha : a.ev fr = .ptr (rowOf p) (offOf p + j)) [s : SliceAt H p sz n cs] (hv : cs[j]? = some v) : (ROp.load none a).exec call fr H = some (v, H) := by
  rcases s.it with ⟨_, _, rfl⟩ | ⟨r, off, cap, row, rw, e, rfl, hr, hg, hl, hc, hcap⟩
  · cases hv
  · have hj : j < n * sz := by
      have := (List.getElem?_eq_some_iff.1 hv).1
      have := s.len; omega
    have : row[off + j]? = some v := by
      rw [← hc, List.getElem?_take, if_pos hj, List.getElem?_drop] at hv
      exact hv
    simp only [ROp.exec, ha, aLoad, M.bind, aRow, rowOf, offOf, if_pos hr, hg, this, M.pure]
theorem WpX.ldP {a : ROpd} {p : AVal} {sz n j : Nat} {cs : List AVal} {v : AVal} (ha : a.ev fr = .ptr (rowOf p) (offOf p + j)) [s : SliceAt H p sz n cs] (hv : cs[j]? = some v) (h : K v H) : WpX (.load none a) call fr H K := ⟨_, _, exec_ldP ha hv, h⟩
theorem WpX.ldNP {a : ROpd} {p : AVal} {sz n j m : Nat} {cs l : List AVal} (ha : a.ev fr = .ptr (rowOf p) (offOf p + j)) [s : SliceAt H p sz n cs] (hm : 0 < m) (hv : j + m ≤ cs.length) (hl : (cs.drop j).take m = l) (h : K (.agg l) H) : WpX (.load (some m) a) call fr H K := by
  rcases s.it with ⟨_, _, rfl⟩ | ⟨r, off, cap, row, rw, e, rfl, hr, hg, hl', hc, _⟩
  · simp at hv; omega
  · have hlen := s.len
    refine WpX.loadN ha hr hg (by simp only [offOf]; omega) ?_
    have : (row.drop (offOf (.slice r off n cap sz) + j)).take m = l := by
      rw [← hl, ← hc]
      simp only [offOf]
      rw [List.drop_take, List.take_take, List.drop_drop, Nat.min_eq_left (by omega)]
    rw [this]; exact h
theorem setAt_one (cs : List AVal) (j : Nat) (v : AVal) : setAt cs j [v] = cs.set j v := rfl
theorem WpX.stP {a x : ROpd} {p : AVal} {sz n j : Nat} {cs : List AVal} {v : AVal} (ha : a.ev fr = .ptr (rowOf p) (offOf p + j)) (hx : x.ev fr = v) (hv : v.cells = [v]) (ho : v.one = true) [s : SliceAt H p sz n cs] [w : WrS H p] (hj : j < cs.length)
    (h : ∀ H1, SliceAt H1 p sz n (cs.set j v) → WrS H1 p → ExtP H H1 p → K aundef H1) : WpX (.store 1 a x) call fr H K := by
  rcases s.it with ⟨_, _, rfl⟩ | ⟨r, off, cap, row, rw, e, rfl, hr, hg, hl, hc, hcap⟩
  · simp at hj
  · obtain ⟨cs', e', hg'⟩ := w.it _ _ _ _ _ rfl
    rw [hg] at hg'; cases hg'
    have hlen := s.len
    refine WpX.store ha hx (by rw [hv]; rfl) hr hg (by rw [hv]; simp only [offOf, List.length_singleton]; omega) (by rw [hv]; simp only [List.all_cons, List.all_nil, ho]; rfl) ?_
    rw [hv, setAt_one]
    refine h _ ⟨Or.inr ⟨r, off, cap, row.set (off + j) v, true, e, rfl, hr, set_get_eq, by simpa using hl, ?_, hcap⟩⟩ ⟨fun r' off' len' cap' sz' e' => by cases e'; exact ⟨_, _, set_get_eq⟩⟩ ⟨Nat.le_refl _, fun r' hr' hne => set_get_ne (fun hh => hne.ne _ _ _ _ _ rfl hh.symm)⟩
    rw [← hc]
    apply List.ext_getElem?
    intro i
    simp only [List.getElem?_take, List.getElem?_drop, List.getElem?_set, List.length_take, List.length_drop]
    by_cases hij : j = i
    · subst hij
      have h1 : j < n * sz := by omega
      have h2 : off + j < row.length := by omega
      have h3 : j < min (n * sz) (row.length - off) := by omega
      simp [h1, h2, h3]
    · have : ¬ off + j = off + i := by omega
      simp [hij, this]
theorem mk_bytes (n : Nat) : (List.replicate n [AVal.int .u8 0]).flatten = cellsB (List.replicate n 0) := by
  induction n with
  | zero => rfl
  | succ n ih => rw [List.replicate_succ, List.flatten_cons, ih]; rfl
theorem mk_ints (n : Nat) : (List.replicate n [AVal.int .i64 0]).flatten = cellsI (List.replicate n 0) := by
  induction n with
  | zero => rfl
  | succ n ih => rw [List.replicate_succ, List.flatten_cons, ih]; rfl
theorem exec_mk {e : TypeId} {b : Nat} {z : AVal} {x y : ROpd} {k k' : IntKind} {a : Int} (hx : x.ev fr = .int k a) (hy : y.ev fr = .int k' a) (h0 : 0 ≤ a ∧ a ≤ a ∧ b * a ≤ 2 ^ 47 ∧ a < 2 ^ 62) : (ROp.makeSlice e [z] b x y).exec call fr H = some (.slice H.n 0 a.toNat (some a.toNat) 1, H.push (.row ((List.replicate a.toNat [z]).flatten) true (2 * e))) := by
  simp only [ROp.exec, hx, hy, aMakeSlice, if_pos h0, M.bind, aNew, M.pure, List.length_singleton]
theorem mk_facts {z : AVal} {n : Nat} {e : TypeId} {l : List AVal} (hl : (List.replicate n [z]).flatten = l) : SliceAt (H.push (.row l true e)) (.slice H.n 0 n (some n) 1) 1 n l ∧ FreshS H (.slice H.n 0 n (some n) 1) ∧ WrS (H.push (.row l true e)) (.slice H.n 0 n (some n) 1) := by
  have hlen : l.length = n := by rw [← hl]; simp
  refine ⟨⟨Or.inr ⟨H.n, 0, some n, l, true, e, rfl, Nat.lt_succ_self _, push_get_eq, by omega, ?_, Nat.le_refl _⟩⟩, ⟨fun r off len cap sz e => by cases e; exact Nat.le_refl _⟩, ⟨fun r off len cap sz e => by cases e; exact ⟨_, _, push_get_eq⟩⟩⟩
  rw [List.drop_zero, List.take_of_length_le (by omega)]
theorem WpX.mkB {e : TypeId} {x y : ROpd} {k k' : IntKind} {a : Int} {n : Nat} (hx : x.ev fr = .int k a) (hy : y.ev fr = .int k' a) (ha : a = n) (hn : n ≤ 2 ^ 40)
    (h : ∀ p H1, H1 = H.push (.row (cellsB (List.replicate n 0)) true (2 * e)) → BytesI H1 p (List.replicate n 0) → FreshS H p → WrS H1 p → ExtI H H1 → K p H1) : WpX (.makeSlice e [.int .u8 0] 1 x y) call fr H K := by
  subst ha
  obtain ⟨h1, h2, h3⟩ := mk_facts (H := H) (e := 2 * e) (mk_bytes n)
  refine ⟨_, _, exec_mk hx hy (by omega), ?_⟩
  rw [Int.toNat_natCast, mk_bytes]
  refine h _ _ rfl ?_ h2 h3 ⟨(Ext.refl H).push _⟩
  unfold BytesI
  rw [List.length_replicate]
  exact h1
theorem WpX.mkI {e : TypeId} {x y : ROpd} {k k' : IntKind} {a : Int} {n : Nat} (hx : x.ev fr = .int k a) (hy : y.ev fr = .int k' a) (ha : a = n) (hn : n ≤ 2 ^ 40)
    (h : ∀ p H1, H1 = H.push (.row (cellsI (List.replicate n 0)) true (2 * e)) → IntsI H1 p (List.replicate n 0) → FreshS H p → WrS H1 p → ExtI H H1 → K p H1) : WpX (.makeSlice e [.int .i64 0] 8 x y) call fr H K := by
  subst ha
  obtain ⟨h1, h2, h3⟩ := mk_facts (H := H) (e := 2 * e) (mk_ints n)
  refine ⟨_, _, exec_mk hx hy (by omega), ?_⟩
  rw [Int.toNat_natCast, mk_ints]
  refine h _ _ rfl ?_ h2 h3 ⟨(Ext.refl H).push _⟩
  unfold IntsI
  rw [List.length_replicate]
  exact h1
theorem get_bytes {l : List UInt8} {i : Nat} (h : i < l.length) : (cellsB l)[i]? = some (.int .u8 (l[i].toNat : Int)) := by simp [cellsB, h]
theorem get_ints {l : List Int} {i : Nat} (h : i < l.length) : (cellsI l)[i]? = some (.int .i64 l[i]) := by simp [cellsI, h]
theorem set_bytes {l : List UInt8} {i : Nat} {b : UInt8} : (cellsB l).set i (.int .u8 (b.toNat : Int)) = cellsB (l.set i b) := by simp [cellsB, List.map_set]
theorem set_ints {l : List Int} {i : Nat} {n : Int} : (cellsI l).set i (.int .i64 n) = cellsI (l.set i n) := by simp [cellsI, List.map_set]
end
theorem w64 {x : Int} (h : -9223372036854775808 ≤ x ∧ x < 9223372036854775808) : IntKind.i64.wrap x = x := by
  have h1 : IntKind.i64.wrap x = if (true && decide (x % 2 ^ 64 ≥ 2 ^ 63)) = true then x % 2 ^ 64 - 2 ^ 64 else x % 2 ^ 64 := rfl
  rw [h1]
  by_cases hh : x % 2 ^ 64 ≥ 2 ^ 63
  · simp only [hh, decide_true, Bool.and_true, if_true]; omega
  · simp only [hh, decide_false, Bool.and_false, Bool.false_eq_true, if_false]; omega
theorem nrm : (∀ l, (AVal.agg l).cells = l) ∧ (∀ fr t, ROpd.ev fr (.tmp t) = fr t) ∧ (∀ fr v, ROpd.ev fr (.val v) = v) ∧ (∀ fr d v i, upd fr d v i = if i = d then v else fr i) ∧ (∀ fr d v, put fr (some d) v = upd fr d v) ∧ (∀ fr v, put fr none v = fr) ∧ (∀ v vs, argFrame (v :: vs) 0 = v) ∧ (∀ v w vs, argFrame (v :: w :: vs) 1 = w) ∧ (∀ v w x vs, argFrame (v :: w :: x :: vs) 2 = x) ∧ (∀ v w x y vs, argFrame (v :: w :: x :: y :: vs) 3 = y) ∧ (∀ v w x y z vs, argFrame (v :: w :: x :: y :: z :: vs) 4 = z) ∧ (∀ a b : AVal, (match true with | true => a | false => b) = a) ∧ (∀ a b : AVal, (match false with | true => a | false => b) = b) ∧ (∀ a b : AVal, cond true a b = a) ∧ (∀ a b : AVal, cond false a b = b) ∧ (!true) = false ∧ (!false) = true ∧ (∀ n : Nat, 0 + n = n) ∧ (∀ n : Nat, ((n : Int)).toNat = n) ∧ (∀ n : Nat, n * 1 = n) ∧ (∀ fr, updL [] fr = fr) ∧ (∀ p l fr, updL (p :: l) fr = upd (updL l fr) p.1 p.2) ∧ (∀ g fr, mix [] g fr = fr) ∧ (∀ d D g fr, mix (d :: D) g fr = upd (mix D g fr) d (g d)) ∧ (∀ l, (cellsB l).length = l.length) ∧ (∀ l, (cellsI l).length = l.length) ∧ (∀ (a b : AVal) l, (a :: l).set 0 b = b :: l) ∧ (∀ (a b : AVal) l, (a :: l).set 1 b = a :: l.set 0 b) ∧ (∀ (a b : AVal) l, (a :: l).set 2 b = a :: l.set 1 b) ∧ (∀ (a b : AVal) l, (a :: l).set 3 b = a :: l.set 2 b) ∧ (∀ (a : AVal) l n, List.take (n + 1) (a :: l) = a :: List.take n l) ∧ (∀ l : List AVal, List.take 0 l = []) ∧ (∀ l : List AVal, List.drop 0 l = l) ∧ (∀ (a : AVal) l n, List.drop (n + 1) (a :: l) = List.drop n l) ∧ (∀ k n, (AVal.int k n).cells = [AVal.int k n]) ∧ (∀ b, (AVal.bool b).cells = [AVal.bool b]) ∧ (∀ b, (AVal.str b).cells = [AVal.str b]) ∧ (∀ r o, (AVal.ptr r o).cells = [AVal.ptr r o]) ∧ AVal.nslice.cells = [AVal.nslice] ∧ (∀ r o l c z, (AVal.slice r o l c z).cells = [AVal.slice r o l c z]) ∧ Int.toNat 0 = 0 ∧ (∀ cs off, setAt cs off [] = cs) ∧ (∀ cs off v vs, setAt cs off (v :: vs) = setAt (cs.set off v) (off + 1) vs) := by
  refine ⟨fun _ => rfl, fun _ _ => rfl, fun _ _ => rfl, upd_at, fun _ _ _ => rfl, fun _ _ => rfl, fun _ _ => rfl, fun _ _ _ => rfl, fun _ _ _ _ => rfl, fun _ _ _ _ _ => rfl, fun _ _ _ _ _ _ => rfl, fun _ _ => rfl, fun _ _ => rfl, fun _ _ => rfl, fun _ _ => rfl, rfl, rfl, Nat.zero_add, Int.toNat_natCast, Nat.mul_one, fun _ => rfl, fun _ _ _ => rfl, fun _ _ => rfl, fun _ _ _ _ => rfl, cellsB_length, cellsI_length, fun _ _ _ => rfl, fun _ _ _ => rfl, fun _ _ _ => rfl, fun _ _ _ => rfl, fun _ _ _ => rfl, fun _ => rfl, fun _ => rfl, fun _ _ _ => rfl, fun _ _ => rfl, fun _ => rfl, fun _ => rfl, fun _ _ => rfl, rfl, fun _ _ _ _ _ => rfl, rfl, fun _ _ => rfl, fun _ _ _ _ => rfl⟩
end Go.Am

namespace Go.Am
open Go Go.RowKit
section
variable {P : Program} {S : Base} {m : RMap} {H : AHeap} {w w' : World}
def tablesIn (T : List (Nat × List AVal)) (H : AHeap) : Bool := T.all fun t => Nat.blt t.1 H.n && match H.get t.1 with | .row cs _ _ => abeqL cs t.2 | _ => false
def tableObj : List (Nat × List AVal) → Nat → AObj
  | [], _ => .dead
  | (g, cs) :: T, i => cond (Nat.beq i g) (.row cs false 0) (tableObj T i)
def tableHeap (G : Nat) (T : List (Nat × List AVal)) : AHeap := ⟨G, tableObj T⟩
def globMap (G L : Nat) : RMap := fun g => if g < G then some (⟨g, 0, none⟩, L) else none
def longest : List (Nat × List AVal) → Nat
  | [] => 0
  | t :: T => t.2.length + longest T
theorem le_longest {T : List (Nat × List AVal)} {t : Nat × List AVal} (h : t ∈ T) : t.2.length ≤ longest T := by
  induction T with
  | nil => simp at h
  | cons u T ih =>
    simp only [longest]
    rcases List.mem_cons.1 h with rfl | h
    · omega
    · have := ih h; omega
theorem tableObj_loop {R : RLoop} : ∀ {T : List (Nat × List AVal)} {i : Nat}, tableObj T i ≠ .loop R
  | [], i => fun e => by cases e
  | (g, cs) :: T, i => fun e => by
    simp only [tableObj] at e
    cases h : Nat.beq i g with
    | true => rw [h] at e; cases e
    | false => rw [h] at e; exact tableObj_loop e
theorem tableObj_map {es : List (AVal × AVal)} : ∀ {T : List (Nat × List AVal)} {i : Nat}, tableObj T i ≠ .mapo es
  | [], i => fun e => by cases e
  | (g, cs) :: T, i => fun e => by
    simp only [tableObj] at e
    cases h : Nat.beq i g with
    | true => rw [h] at e; cases e
    | false => rw [h] at e; exact tableObj_map e
theorem tableObj_row {T : List (Nat × List AVal)} {i : Nat} {cs : List AVal} {rw : Bool} {e : TypeId} (h : tableObj T i = .row cs rw e) : (i, cs) ∈ T ∧ rw = false := by
  induction T with
  | nil => cases h
  | cons t T ih =>
    obtain ⟨g, l⟩ := t
    simp only [tableObj] at h
    cases hb : Nat.beq i g with
    | true =>
      rw [hb] at h; cases h
      have := Nat.eq_of_beq_eq_true hb
      subst this
      exact ⟨by simp, rfl⟩
    | false =>
      rw [hb] at h
      obtain ⟨h1, h2⟩ := ih h
      exact ⟨List.mem_cons_of_mem _ h1, h2⟩
def plainV : AVal → Bool
  | .bool _ | .int _ _ | .str _ | .nptr | .nslice | .nfunc | .niface => true
  | _ => false
theorem plain_emb {v : AVal} (h : plainV v = true) (m m' : RMap) : emb m v = emb m' v := by cases v <;> first | rfl | (simp [plainV] at h)
def aClosed (T : List (Nat × List AVal)) (v : AVal) : List AVal → M AVal
  | [] => fun H => match tablesIn T H with | true => some (v, H) | false => none
  | _ => M.fail
theorem ext_closed (hmix : P.follows .mixedOrders = true) {ext0 : Exts} {prog0 : FuncId → Option RFunc} (hP : ProgOk P ext0 prog0) {T : List (Nat × List AVal)} {f : FuncId} {fn : Func} {c : Code} (hfn : P.funcs[f]? = some fn) (hb : fn.body = some c) (hname : fn.name ≠ "runtime.NumGoroutine")
    {n : Nat} {v : AVal} (hv : plainV v = true) (hT : (T.all fun t => Nat.blt t.1 P.globals.size && t.2.all plainV) = true) (hrun : ∃ H', callN ext0 prog0 n f [] (tableHeap P.globals.size T) = some (v, H'))
    {ext : Exts} {k : Nat} (hk : ext k = aClosed T v) : ExtSim P ext f k := by
  intro S args H u H' m w vargs hG hx h ha
  rw [hk] at hx
  cases args with
  | cons a l => exact (fail_some (H := H) hx).elim
  | nil =>
    simp only [embL] at ha; cases ha
    unfold aClosed at hx
    cases ht : tablesIn T H with
    | false => simp only [ht] at hx; cases hx
    | true =>
      simp only [ht, Option.some.injEq, Prod.mk.injEq] at hx
      obtain ⟨rfl, rfl⟩ := hx
      obtain ⟨H1, hrun⟩ := hrun
      simp only [tablesIn, List.all_eq_true, Bool.and_eq_true] at ht hT
      have hrel : HRel ⟨w.heap.size, w, P.globals.size, fun _ => False, cCode P⟩ (globMap P.globals.size (longest T)) (tableHeap P.globals.size T) w := by
        refine ⟨Below.refl _ _, Nat.le_refl _, fun g hg => ⟨longest T, by simp only at hg; simp [globMap, hg]⟩, fun r hr => by simp only [tableHeap] at hr; simp [globMap]; omega, fun r hr => hr.elim, ?_, ?_, ⟨fun r R p _ h _ => absurd h tableObj_loop, fun r s R R' p q L L' _ _ _ h => absurd h tableObj_loop, ⟨fun r es p _ h _ => absurd h tableObj_map, fun r s es es' p q _ _ _ h => absurd h tableObj_map⟩⟩⟩
        · intro r cs rw e p hr hg hp
          obtain ⟨hmem, rfl⟩ := tableObj_row hg
          have hT1 := hT _ hmem
          have ht1 := ht _ hmem
          simp only [] at hT1 ht1
          have hrG : r < P.globals.size := by simpa using hT1.1
          have hp' : p = (⟨r, 0, none⟩, longest T) := by simp only [globMap, hrG, if_true] at hp; exact (Option.some.inj hp).symm
          subst hp'
          obtain ⟨k, hmk⟩ := h.glob r (by rw [hG]; exact hrG)
          have hrn : r < H.n := by simpa using ht1.1
          cases hgr : H.get r with
          | row cs' rw' e' =>
            have ht2 := ht1.2
            rw [hgr] at ht2
            simp only [] at ht2
            have hcs := abeqL_eq ht2
            subst hcs
            have hok := h.row r cs' rw' e' _ hrn hgr hmk
            refine ⟨fun i u hi => ?_, le_longest hmem, fun q => by cases q⟩
            obtain ⟨x, h1, h2⟩ := hok.cell i u hi
            have hpl : plainV u = true := hT1.2 u (List.mem_of_getElem? hi)
            exact ⟨x, by rw [plain_emb hpl _ m]; exact h1, h2⟩
          | _ => have ht2 := ht1.2; rw [hgr] at ht2; cases ht2
        · intro r s cs rw e cs' e' p q hr hs hne hg1 hg2 hp hq
          exact absurd (tableObj_row hg2).2 (by decide)
      have hy := sim_callN hmix hP n ⟨w.heap.size, w, P.globals.size, fun _ => False, cCode P⟩ rfl rfl f [] (tableHeap P.globals.size T) v H1 (globMap P.globals.size (longest T)) w [] hrun hrel (by simp [embL])
      rw [callN_sem hP hrun] at hy
      refine hy.mono fun x w' ⟨m', _, hx, hrel'⟩ => ?_
      refine ⟨m, Le.refl _, by rw [plain_emb hv m m']; exact hx, h.kept hrel'.below⟩
end
end Go.Am

namespace Go.Am
open Go Go.RowKit
def plainT (P : Program) : Nat → TypeId → Bool
  | 0, _ => false
  | n + 1, t => match P.underlying t with
    | some .bool => true
    | some .string => true
    | some (.int _) => true
    | some (.slice e) => plainT P n e
    | some (.struct fs) => fs.toList.all fun f => plainT P n f.type
    | some (.array _ e) => plainT P n e
    | _ => false
def shapes (S : TypeId → List AVal → Prop) : List TypeId → List AVal → Prop
  | [], cs => cs = []
  | t :: ts, cs => ∃ a b, cs = a ++ b ∧ S t a ∧ shapes S ts b
def Shape (P : Program) (H : AHeap) : Nat → TypeId → List AVal → Prop
  | 0, _, _ => False
  | n + 1, t, cs => match P.underlying t with
    | some .bool => ∃ b, cs = [.bool b]
    | some .string => ∃ s : ByteArray, cs = [.str s] ∧ s.size ≤ maxLen
    | some (.int k) => ∃ i, cs = [.int k i] ∧ (Lit.int k i).wf = true
    | some (.slice e) => ∃ p len cells, cs = [p] ∧ SliceAt H p (P.cellsOf e) len cells ∧ len ≤ maxLen ∧ shapes (Shape P H n) (List.replicate len e) cells
    | some (.struct fs) => shapes (Shape P H n) (fs.toList.map fun f => f.type) cs
    | some (.array k e) => shapes (Shape P H n) (List.replicate k e) cs
    | _ => False
theorem shapes_mono {S S' : TypeId → List AVal → Prop} (h : ∀ t a, S t a → S' t a) : ∀ {ts : List TypeId} {cs : List AVal}, shapes S ts cs → shapes S' ts cs := by
  intro ts
  induction ts with
  | nil => intro cs h; exact h
  | cons t ts ih =>
    intro cs hs
    obtain ⟨a, b, e, h1, h2⟩ := hs
    exact ⟨a, b, e, h _ _ h1, ih h2⟩
theorem Shape.ext {P : Program} {H H' : AHeap} (x : Ext H H') : ∀ {n : Nat} {t : TypeId} {cs : List AVal}, Shape P H n t cs → Shape P H' n t cs := by
  intro n
  induction n with
  | zero => intro t cs h; exact h
  | succ n ih =>
    intro t cs h
    cases hu : P.underlying t with
    | none => simp only [Shape, hu] at h
    | some d => cases d with
      | slice e =>
        simp only [Shape, hu] at h ⊢
        obtain ⟨p, len, cells, h1, h2, h3, h4⟩ := h
        haveI : ExtI H H' := ⟨x⟩
        exact ⟨p, len, cells, h1, inferInstance, h3, shapes_mono (fun t a => ih) h4⟩
      | struct fs => simp only [Shape, hu] at h ⊢; exact shapes_mono (fun t a => ih) h
      | array k e => simp only [Shape, hu] at h ⊢; exact shapes_mono (fun t a => ih) h
      | _ => simp only [Shape, hu] at h ⊢ <;> exact h
theorem shapes_ext {P : Program} {H H' : AHeap} (x : Ext H H') {n : Nat} {ts : List TypeId} {cs : List AVal} (h : shapes (Shape P H n) ts cs) : shapes (Shape P H' n) ts cs := shapes_mono (fun _ _ => Shape.ext x) h
def RO (H : AHeap) : Prop := ∀ r cs rw e, H.get r = .row cs rw e → rw = false
section
variable {P : Program} {S : Base} {m : RMap} {H : AHeap} {w : World}
theorem HRel.addRow (h : HRel S m H w) (hro : RO H) (hgh : ∀ r, ¬ S.ghost r) {cs : List AVal} {a : Addr} (hc : ∀ (i : Nat) (v : AVal), cs[i]? = some v → ∃ x, emb m v = some x ∧ w.cell? (a.add i) = some x) :
    Le m (m.add H.n (a, cs.length)) ∧ HRel S (m.add H.n (a, cs.length)) (H.push (.row cs false 0)) w ∧ RO (H.push (.row cs false 0)) := by
  have hm := le_add (m := m) (n := H.n) (a, cs.length) (h.fresh H.n (Nat.le_refl _))
  have hro' : RO (H.push (.row cs false 0)) := by
    intro r cs' rw e hg
    rw [getp] at hg
    split at hg
    · cases hg; rfl
    · exact hro _ _ _ _ hg
  refine ⟨hm, ⟨h.below, h.size, fun g hg => ?_, fun r hr => ?_, fun r hr => absurd hr (hgh r), fun r cs' rw e p hr hg hp => ?_, fun r s cs' rw e cs2 e2 p q hr hs hne hg1 hg2 => ?_, h.loops.push hm still (fun e => by cases e) fun r hr => add_ne hr⟩, hro'⟩
  · obtain ⟨k, hk⟩ := h.glob g hg
    exact ⟨k, hm _ _ hk⟩
  · have : r ≠ H.n := by simp only [np] at hr; omega
    rw [add_ne this]
    exact h.fresh r (by simp only [np] at hr; omega)
  · rw [getp] at hg
    by_cases hrn : r = H.n
    · rw [if_pos hrn] at hg
      cases hg
      rw [hrn, add_eq] at hp
      cases hp
      refine ⟨fun i v hi => ?_, Nat.le_refl _, fun q => by cases q⟩
      obtain ⟨x, h1, h2⟩ := hc i v hi
      exact ⟨x, emb_mono hm _ _ h1, h2⟩
    · rw [if_neg hrn] at hg
      rw [add_ne hrn] at hp
      exact (h.row r cs' rw e p (by simp only [np] at hr; omega) hg hp).mono hm (Keeps.refl _ _) (fun _ => rfl) fun _ => rfl
  · have := hro' _ _ _ _ hg2
    cases this
theorem some_bind {α β : Type} {x : Option α} {f : α → Option β} {y : β} (h : x.bind f = some y) : ∃ a, x = some a ∧ f a = some y := by
  cases x with
  | none => cases h
  | some a => exact ⟨a, rfl, h⟩
theorem some_map {α β : Type} {x : Option α} {f : α → β} {y : β} (h : x.map f = some y) : ∃ a, x = some a ∧ f a = y := by
  cases x with
  | none => cases h
  | some a => exact ⟨a, rfl, Option.some.inj h⟩
theorem mapM_cons_some {α β : Type} {f : α → Option β} {x : α} {l : List α} {r : List β} (h : (x :: l).mapM f = some r) : ∃ a t, f x = some a ∧ l.mapM f = some t ∧ r = a :: t := by
  rw [List.mapM_cons] at h
  obtain ⟨a, h1, h2⟩ := some_bind h
  obtain ⟨t, h3, h4⟩ := some_bind h2
  exact ⟨a, t, h1, h3, (Option.some.inj h4).symm⟩
theorem cells?_len {w : World} {base : Nat} {a : Addr} {n : Nat} {cs : List Value} (h : w.cells? base a n = some cs) : cs.length = n ∧ ∀ (i : Nat) (x : Value), cs[i]? = some x → w.cell? (a.add i) = some x := by
  unfold World.cells? at h
  split at h
  · have key : ∀ (l : List Nat) (cs : List Value), l.mapM (fun i => w.cell? (a.add i)) = some cs → cs.length = l.length ∧ ∀ (i : Nat) (x : Value), cs[i]? = some x → ∃ k : Nat, l[i]? = some k ∧ w.cell? (a.add k) = some x := by
      intro l
      induction l with
      | nil => intro cs h; simp at h; subst h; simp
      | cons k l ih =>
        intro cs h
        obtain ⟨v, t, h1, h2, rfl⟩ := mapM_cons_some h
        obtain ⟨h3, h4⟩ := ih t h2
        refine ⟨by simp [h3], fun i x hi => ?_⟩
        cases i with
        | zero => simp at hi; subst hi; exact ⟨k, rfl, h1⟩
        | succ i => simp at hi ⊢; exact h4 i x hi
    obtain ⟨h1, h2⟩ := key _ _ h
    refine ⟨by simpa using h1, fun i x hi => ?_⟩
    obtain ⟨k, h3, h4⟩ := h2 i x hi
    have hlt : i < n := by
      have := (List.getElem?_eq_some_iff.1 h3).1
      simpa using this
    rw [List.getElem?_range hlt] at h3
    cases h3
    exact h4
  · cases h
variable {Hd : Type} {enc : TypeId × Value → Hd} {base : Nat} {spare : Nat → Bool} {held : Bool} {T : TypeId → Prop}
def Opened (P : Program) (S : Base) (w : World) (m : RMap) (H : AHeap) (cs : List Value) (Q : AHeap → List AVal → Prop) : Prop :=
  ∃ H' m' acs, Ext H H' ∧ Le m m' ∧ HRel S m' H' w ∧ RO H' ∧ embL m' acs = some cs ∧ Q H' acs
theorem open_pieces {n f : Nat} (hgh : ∀ r, ¬ S.ghost r)
    (ih : ∀ (t : TypeId) (cs : List Value) (x : DataW Hd × List MemPlace) (m : RMap) (H : AHeap), T t → plainT P n t = true → DataW.trod enc P w base spare held f t cs = some x → HRel S m H w → RO H → Opened P S w m H cs fun H' acs => Shape P H' n t acs) :
    ∀ (ts : List TypeId) (pieces : List (List Value)) (m : RMap) (H : AHeap), ts.length = pieces.length → (∀ t ∈ ts, T t ∧ plainT P n t = true) → (∀ (i : Nat) (t : TypeId) (cs : List Value), ts[i]? = some t → pieces[i]? = some cs → ∃ x, DataW.trod enc P w base spare held f t cs = some x) → HRel S m H w → RO H →
    Opened P S w m H pieces.flatten fun H' acs => shapes (Shape P H' n) ts acs := by
  intro ts
  induction ts with
  | nil =>
    intro pieces m H hl _ _ h hro
    have : pieces = [] := List.eq_nil_of_length_eq_zero (by simpa using hl.symm)
    subst this
    exact ⟨H, m, [], Ext.refl H, Le.refl m, h, hro, by simp [embL], rfl⟩
  | cons t ts iht =>
    intro pieces m H hl hT hx h hro
    cases pieces with
    | nil => simp at hl
    | cons cs pieces =>
      obtain ⟨x, hx0⟩ := hx 0 t cs rfl rfl
      obtain ⟨ht, hp⟩ := hT t (by simp)
      obtain ⟨H1, m1, a, e1, l1, r1, o1, b1, s1⟩ := ih t cs x m H ht hp hx0 h hro
      obtain ⟨H2, m2, b, e2, l2, r2, o2, b2, s2⟩ := iht pieces m1 H1 (by simpa using hl) (fun t h => hT t (by simp [h])) (fun i t cs h1 h2 => hx (i + 1) t cs (by simpa using h1) (by simpa using h2)) r1 o1
      exact ⟨H2, m2, a ++ b, e1.trans e2, Le.trans l1 l2, r2, o2, by rw [List.flatten_cons]; exact embL_append (embL_mono l2 _ _ b1) b2, a, b, rfl, s1.ext e2, s2⟩
theorem flatten_cut : ∀ (ss : List Nat) (cs : List Value), cs.length = ss.sum → ((List.range ss.length).map fun i => (cs.drop (ss.take i).sum).take (ss.getD i 0)).flatten = cs := by
  intro ss
  induction ss with
  | nil => intro cs h; simp at h; simp [h]
  | cons s ss ih =>
    intro cs h
    simp only [List.sum_cons] at h
    rw [List.length_cons, List.range_succ_eq_map, List.map_cons, List.flatten_cons, List.map_map]
    have : ((List.range ss.length).map ((fun i => (cs.drop ((s :: ss).take i).sum).take ((s :: ss).getD i 0)) ∘ Nat.succ)) = (List.range ss.length).map fun i => ((cs.drop s).drop (ss.take i).sum).take (ss.getD i 0) := by
      apply List.map_congr_left
      intro i _
      simp [List.drop_drop]
    rw [this, ih (cs.drop s) (by simp; omega)]
    simp
theorem open_trod (hgh : ∀ r, ¬ S.ghost r) (K : Kids P T) (hz : ∀ t e, T t → P.underlying t = some (.slice e) → 0 < P.cellsOf e) : ∀ (n f : Nat) (t : TypeId) (cs : List Value) (x : DataW Hd × List MemPlace) (m : RMap) (H : AHeap), T t → plainT P n t = true →
    DataW.trod enc P w base spare held f t cs = some x → HRel S m H w → RO H → Opened P S w m H cs fun H' acs => Shape P H' n t acs := by
  intro n
  induction n with
  | zero => intro f t cs x m H _ hp; simp [plainT] at hp
  | succ n ih =>
    intro f t cs x m H hT hp hx h hro
    unfold plainT at hp
    split at hp <;> rename_i hu
    · obtain ⟨b, rfl, _⟩ := DataW.trod_bool hu hx
      exact ⟨H, m, [.bool b], Ext.refl H, Le.refl m, h, hro, by simp [embL, emb], by simp [Shape, hu]⟩
    · obtain ⟨s, rfl, _, hs⟩ := DataW.trod_string hu hx
      exact ⟨H, m, [.str s], Ext.refl H, Le.refl m, h, hro, by simp [embL, emb], by simp [Shape, hu]; exact hs⟩
    · rename_i k
      obtain ⟨i, rfl, _, hw⟩ := DataW.trod_int hu hx
      exact ⟨H, m, [.int k i], Ext.refl H, Le.refl m, h, hro, by simp [embL, emb], by simp [Shape, hu, hw]⟩
    · -- slice
      rename_i e
      have he := K.slice hT hu
      have hz0 := hz t e hT hu
      rcases DataW.trod_slice hu hx with ⟨rfl, _⟩ | ⟨a, len, cap, elems, rest, n', hn', rfl, _, hb, hcond1, hcond2, hlen0, hel, _, _⟩
      · exact ⟨H, m, [.nslice], Ext.refl H, Le.refl m, h, hro, by simp [embL, emb], by simp only [Shape, hu]; exact ⟨.nslice, 0, [], rfl, ⟨Or.inl ⟨rfl, rfl, rfl⟩⟩, by simp, rfl⟩⟩
      · subst hn'
        have key : ∀ (k : Nat), k ≤ len → ∃ pieces : List (List Value), pieces.length = k ∧ ∀ i, i < k → ∃ cs x, pieces[i]? = some cs ∧ w.cells? base (a.add (i * P.cellsOf e)) (P.cellsOf e) = some cs ∧ DataW.trod enc P w base spare held n' e cs = some x := by
          intro k
          induction k with
          | zero => intro _; exact ⟨[], rfl, fun i h => by omega⟩
          | succ k ihk =>
            intro hk
            obtain ⟨pieces, h7, h8⟩ := ihk (by omega)
            have h9 := hel k (by omega)
            rw [List.getElem?_eq_getElem (by omega)] at h9
            obtain ⟨cs, h10, h11⟩ := some_bind h9
            refine ⟨pieces ++ [cs], by simp [h7], fun i hi => ?_⟩
            by_cases hik : i < k
            · obtain ⟨c, x, q1, q2, q3⟩ := h8 i hik
              exact ⟨c, x, by rw [List.getElem?_append_left (by omega)]; exact q1, q2, q3⟩
            · obtain rfl : i = k := by omega
              exact ⟨cs, _, by rw [List.getElem?_append_right (by omega)]; simp [h7], h10, h11⟩
        obtain ⟨pieces, hpl, hpi'⟩ := key len (Nat.le_refl _)
        skip
        obtain ⟨H1, m1, acs, e1, l1, r1, o1, b1, s1⟩ := open_pieces (P := P) (T := T) (n := n) (f := n') (enc := enc) (base := base) (spare := spare) (held := held) hgh (ih n') (List.replicate len e) pieces m H (by simp [hpl]) (fun t ht => by rw [(List.mem_replicate.1 ht).2]; exact ⟨he, hp⟩)
          (fun i t cs h3 h4 => by
            have hi : i < len := by have := (List.getElem?_eq_some_iff.1 h3).1; simpa using this
            obtain ⟨c, x, q1, q2, q3⟩ := hpi' i hi
            rw [List.getElem?_replicate, if_pos hi] at h3
            cases h3
            rw [q1] at h4; cases h4
            exact ⟨x, q3⟩) h hro
        have hall : ∀ c ∈ pieces, c.length = P.cellsOf e := fun c hc => by
          obtain ⟨i, hi⟩ := List.getElem?_of_mem hc
          have hlt : i < len := by have := (List.getElem?_eq_some_iff.1 hi).1; omega
          obtain ⟨c', x, q1, q2, q3⟩ := hpi' i hlt
          rw [hi] at q1; cases q1
          exact (cells?_len q2).1
        have hcells : ∀ (i : Nat) (x : Value), pieces.flatten[i]? = some x → w.cell? (a.add i) = some x := by
          have gen : ∀ (ps : List (List Value)) (o : Nat), (∀ c ∈ ps, c.length = P.cellsOf e) → (∀ i c, ps[i]? = some c → ∀ k x, c[k]? = some x → w.cell? (a.add ((o + i) * P.cellsOf e + k)) = some x) → ∀ (i : Nat) (x : Value), ps.flatten[i]? = some x → w.cell? (a.add (o * P.cellsOf e + i)) = some x := by
            intro ps
            induction ps with
            | nil => intro o _ _ i x h; simp at h
            | cons c ps ihp =>
              intro o hl hc i x hi
              rw [List.flatten_cons] at hi
              have hcl := hl c (by simp)
              by_cases hic : i < c.length
              · rw [List.getElem?_append_left hic] at hi
                simpa using hc 0 c rfl i x hi
              · rw [List.getElem?_append_right (by omega)] at hi
                have := ihp (o + 1) (fun c h => hl c (by simp [h])) (fun j c hj k x hk => by
                  have := hc (j + 1) c (by simpa using hj) k x hk
                  rwa [show o + (j + 1) = o + 1 + j by omega] at this) (i - c.length) x hi
                have e3 : (o + 1) * P.cellsOf e + (i - c.length) = o * P.cellsOf e + i := by rw [Nat.add_mul]; omega
                rwa [e3] at this
          intro i x hi
          have := gen pieces 0 hall (fun j c hj k x hk => by
            have hlt : j < len := by have := (List.getElem?_eq_some_iff.1 hj).1; omega
            obtain ⟨c', y, q1, q2, q3⟩ := hpi' j hlt
            rw [hj] at q1; cases q1
            have := (cells?_len q2).2 k x hk
            rw [add_add] at this
            simpa using this) i x hi
          simpa using this
        have hflen : acs.length = len * P.cellsOf e := by
          have h3 := embL_length b1
          rw [← h3]
          have : ∀ (ps : List (List Value)), (∀ c ∈ ps, c.length = P.cellsOf e) → ps.flatten.length = ps.length * P.cellsOf e := by
            intro ps
            induction ps with
            | nil => intro _; simp
            | cons c ps ihp => intro hl; rw [List.flatten_cons, List.length_append, hl c (by simp), ihp (fun c h => hl c (by simp [h])), List.length_cons, Nat.add_mul]; omega
          rw [this pieces hall, hpl]
        obtain ⟨g1, g2, g3⟩ := r1.addRow o1 hgh (cs := acs) (a := a) (fun i v hi => by
          obtain ⟨x, q1, q2⟩ := embL_get b1 hi
          exact ⟨x, q1, hcells i x q2⟩)
        refine ⟨H1.push (.row acs false 0), _, [.slice H1.n 0 len (some cap) (P.cellsOf e)], e1.push _, Le.trans l1 g1, g2, g3, ?_, ?_⟩
        · simp [embL, emb, add_eq, capR, Addr.add]
        · simp only [Shape, hu]
          refine ⟨_, len, acs, rfl, ⟨Or.inr ⟨H1.n, 0, some cap, acs, false, 0, rfl, Nat.lt_succ_self _, push_get_eq, by omega, ?_, by simp only [capD]; omega⟩⟩, by omega, shapes_ext ((Ext.refl H1).push _) s1⟩
          rw [List.drop_zero, List.take_of_length_le (by omega)]
    · -- struct
      rename_i fs
      obtain ⟨hk1, hk2, hk3⟩ := K.struct hT hu
      obtain ⟨xs, n', hn', _, hlen, hxl, hxs⟩ := DataW.trod_struct hu hx
      subst hn'
      have key : ∀ (i : Nat) (f : Field), fs.toList[i]? = some f → ∃ x, DataW.trod enc P w base spare held n' f.type ((cs.drop f.offset).take (P.cellsOf f.type)) = some x := fun i f hf => by
        have hlt : i < fs.size := by have := (List.getElem?_eq_some_iff.1 hf).1; simpa using this
        have := hxs i f (by simpa using hf)
        rw [List.getElem?_eq_getElem (by omega)] at this
        exact ⟨_, this⟩
      have hsz : (fs.toList.map fun f => P.cellsOf f.type).length = fs.toList.length := by simp
      have hcut := flatten_cut (fs.toList.map fun f => P.cellsOf f.type) cs (by rw [hlen, hk2])
      obtain ⟨H1, m1, acs, e1, l1, r1, o1, b1, s1⟩ := open_pieces (P := P) (T := T) (n := n) (f := n') (enc := enc) (base := base) (spare := spare) (held := held) hgh (ih n') (fs.toList.map fun f => f.type) _ m H (by simp [hsz] : _ = ((List.range (fs.toList.map fun f => P.cellsOf f.type).length).map fun i => (cs.drop ((fs.toList.map fun f => P.cellsOf f.type).take i).sum).take ((fs.toList.map fun f => P.cellsOf f.type).getD i 0)).length)
        (fun t ht => by
          obtain ⟨f, hf, rfl⟩ := List.mem_map.1 ht
          exact ⟨hk1 f hf, List.all_eq_true.1 hp f hf⟩)
        (fun i t c h3 h4 => by
          rw [List.getElem?_map] at h3
          obtain ⟨f, hf, rfl⟩ := some_map h3
          obtain ⟨x, hx1⟩ := key i f hf
          have hi : i < fs.toList.length := (List.getElem?_eq_some_iff.1 hf).1
          rw [List.getElem?_map, List.getElem?_range (by simpa using hi)] at h4
          simp only [Option.map_some, Option.some.injEq] at h4
          have h5 : (fs.toList.map fun f => P.cellsOf f.type).getD i 0 = P.cellsOf f.type := by simp only [List.getD_eq_getElem?_getD, List.getElem?_map, hf, Option.map_some, Option.getD_some]
          have h6 := hk3 i f hf
          rw [List.map_take] at h6
          rw [h5, ← h6] at h4
          subst h4
          exact ⟨x, hx1⟩) h hro
      rw [hcut] at b1
      exact ⟨H1, m1, acs, e1, l1, r1, o1, b1, by simp only [Shape, hu]; exact s1⟩
    · -- array
      rename_i k e
      obtain ⟨he, hsz⟩ := K.array hT hu
      obtain ⟨xs, n', hn', _, hlen, hxl, hxs⟩ := DataW.trod_array hu hx
      subst hn'
      have key : ∀ (i : Nat), i < k → ∃ x, DataW.trod enc P w base spare held n' e ((cs.drop (i * P.cellsOf e)).take (P.cellsOf e)) = some x := fun i hi => by
        have := hxs i hi
        rw [List.getElem?_eq_getElem (by omega)] at this
        exact ⟨_, this⟩
      have hcut := flatten_cut (List.replicate k (P.cellsOf e)) cs (by rw [hlen, hsz]; simp)
      obtain ⟨H1, m1, acs, e1, l1, r1, o1, b1, s1⟩ := open_pieces (P := P) (T := T) (n := n) (f := n') (enc := enc) (base := base) (spare := spare) (held := held) hgh (ih n') (List.replicate k e) _ m H (by simp : _ = ((List.range (List.replicate k (P.cellsOf e)).length).map fun i => (cs.drop ((List.replicate k (P.cellsOf e)).take i).sum).take ((List.replicate k (P.cellsOf e)).getD i 0)).length)
        (fun t ht => by rw [(List.mem_replicate.1 ht).2]; exact ⟨he, hp⟩)
        (fun i t c h3 h4 => by
          have hi : i < k := by have := (List.getElem?_eq_some_iff.1 h3).1; simpa using this
          rw [List.getElem?_replicate, if_pos hi] at h3
          cases h3
          obtain ⟨x, hx1⟩ := key i hi
          rw [List.getElem?_map, List.getElem?_range (by simpa using hi)] at h4
          simp only [Option.map_some, Option.some.injEq] at h4
          have h5 : (List.replicate k (P.cellsOf e)).getD i 0 = P.cellsOf e := by simp [List.getD_eq_getElem?_getD, List.getElem?_replicate, hi]
          have h6 : ((List.replicate k (P.cellsOf e)).take i).sum = i * P.cellsOf e := by simp [List.take_replicate, Nat.min_eq_left (Nat.le_of_lt hi)]
          rw [h5, h6] at h4
          subst h4
          exact ⟨x, hx1⟩) h hro
      rw [hcut] at b1
      exact ⟨H1, m1, acs, e1, l1, r1, o1, b1, by simp only [Shape, hu]; exact s1⟩
    · cases hp
end
end Go.Am

namespace Go.Am
open Go
class PureCon (ext : Exts) (prog : FuncId → Option RFunc) (f : FuncId) (args : List AVal) (H : AHeap) (d : outParam Nat) (v : outParam AVal) : Prop where
  con : Con ext prog d f args H fun u H' => u = v ∧ Ext H H'
theorem call_ext {ext : Exts} {prog : FuncId → Option RFunc} {k f nt e : Nat} {args : List AVal} {res : List RRes} (h : prog f = some ⟨nt, .ext e, res⟩) : callN ext prog (k + 1) f args = ext e args := by
  simp only [callN, h, RFunc.run]
section
variable {ext : Exts} {prog : FuncId → Option RFunc} {fr : AFrame} {H : AHeap} {K : AVal → AHeap → Prop} {KF : AFrame → AHeap → Prop}
theorem WpX.pcall {n d D : Nat} {f : FuncId} {o : ROpd} {l : List ROpd} {args : List AVal} {v : AVal} (hn : fuel0 + D ≤ n) (hf : o.ev fr = .func (.func f) [] []) (hl : l.map (·.ev fr) = args) [hc : PureCon ext prog f args H d v] (hd : Nat.ble d D = true)
    (h : ∀ H1, ExtI H H1 → K v H1) : WpX (.call o l) (callN ext prog n) fr H K :=
  WpX.con hc.con (Nat.le_trans (Nat.add_le_add_left (Nat.le_of_ble_eq_true hd) _) hn) hf hl fun u H1 ⟨hu, hx⟩ => by subst hu; exact h H1 ⟨hx⟩
theorem WpX.conD {n d D : Nat} {f : FuncId} {o : ROpd} {l : List ROpd} {args : List AVal} {Q : AVal → AHeap → Prop} (hn : fuel0 + D ≤ n) (hd : Nat.ble d D = true) (hf : o.ev fr = .func (.func f) [] []) (hl : l.map (·.ev fr) = args) (hc : Con ext prog d f args H Q)
    (h : ∀ v H', Q v H' → K v H') : WpX (.call o l) (callN ext prog n) fr H K :=
  WpX.con hc (Nat.le_trans (Nat.add_le_add_left (Nat.le_of_ble_eq_true hd) _) hn) hf hl h
end
section
variable {call : ACall} {fr : AFrame} {H : AHeap} {K : AVal → AHeap → Prop} {KF : AFrame → AHeap → Prop}
theorem WpX.ldB {a : ROpd} {p : AVal} {j : Nat} {l : List UInt8} (ha : a.ev fr = .ptr (rowOf p) (offOf p + j)) [s : BytesI H p l] (hj : j < l.length) (h : K (.int .u8 (l[j].toNat : Int)) H) : WpX (.load none a) call fr H K := WpX.ldP ha (get_bytes hj) h
theorem WpX.ldI {a : ROpd} {p : AVal} {j : Nat} {l : List Int} (ha : a.ev fr = .ptr (rowOf p) (offOf p + j)) [s : IntsI H p l] (hj : j < l.length) (h : K (.int .i64 l[j]) H) : WpX (.load none a) call fr H K := WpX.ldP ha (get_ints hj) h
theorem WpX.stB {a x : ROpd} {p : AVal} {j : Nat} {l : List UInt8} {k : Int} (b : UInt8) (ha : a.ev fr = .ptr (rowOf p) (offOf p + j)) (hx : x.ev fr = .int .u8 k) (hk : k = (b.toNat : Int)) [s : BytesI H p l] [w : WrS H p] (hj : j < l.length)
    (h : ∀ H1, BytesI H1 p (l.set j b) → WrS H1 p → ExtP H H1 p → K aundef H1) : WpX (.store 1 a x) call fr H K := by
  subst hk
  refine WpX.stP ha hx rfl rfl (by rw [cellsB_length]; exact hj) fun H1 h1 h2 h3 => h H1 ?_ h2 h3
  rw [set_bytes] at h1
  unfold BytesI
  rw [List.length_set]
  exact h1
theorem WpX.stI {a x : ROpd} {p : AVal} {j : Nat} {l : List Int} {b : Int} (ha : a.ev fr = .ptr (rowOf p) (offOf p + j)) (hx : x.ev fr = .int .i64 b) [s : IntsI H p l] [w : WrS H p] (hj : j < l.length)
    (h : ∀ H1, IntsI H1 p (l.set j b) → WrS H1 p → ExtP H H1 p → K aundef H1) : WpX (.store 1 a x) call fr H K := by
  refine WpX.stP ha hx rfl rfl (by rw [cellsI_length]; exact hj) fun H1 h1 h2 h3 => h H1 ?_ h2 h3
  rw [set_ints] at h1
  unfold IntsI
  rw [List.length_set]
  exact h1
class OneV (v : AVal) : Prop where
  cells : v.cells = [v]
  one : v.one = true
instance {k : IntKind} {n : Int} : OneV (.int k n) := ⟨rfl, rfl⟩
instance {b : Bool} : OneV (.bool b) := ⟨rfl, rfl⟩
instance {b : ByteArray} : OneV (.str b) := ⟨rfl, rfl⟩
instance : OneV .nptr := ⟨rfl, rfl⟩
instance {r off : Nat} : OneV (.ptr r off) := ⟨rfl, rfl⟩
instance : OneV .nslice := ⟨rfl, rfl⟩
instance {r off len : Nat} {cap : Option Nat} {sz : Nat} : OneV (.slice r off len cap sz) := ⟨rfl, rfl⟩
instance {f : Fn} {a b : List AVal} : OneV (.func f a b) := ⟨rfl, rfl⟩
instance : OneV .nfunc := ⟨rfl, rfl⟩
instance : OneV .niface := ⟨rfl, rfl⟩
theorem SliceAt.one {H : AHeap} {p : AVal} {sz n : Nat} {cs : List AVal} (h : SliceAt H p sz n cs) : OneV p := by
  rcases h.it with ⟨rfl, _⟩ | ⟨r, off, cap, row, rw, e, rfl, _⟩ <;> infer_instance
theorem aFill1 {cells : List AVal} {off : Nat} {x : ROpd} {v : AVal} {rest : List (Nat × Nat × ROpd)} {r : Option (List AVal)} (hx : x.ev fr = v) [o : OneV v] (ho : Nat.ble (off + 1) cells.length = true) (h : aFill fr (cells.set off v) rest = r) : aFill fr cells ((off, 1, x) :: rest) = r := by
  have h1 : ¬ (off + 1 > cells.length) := by have := Nat.le_of_ble_eq_true ho; omega
  simp only [aFill, hx, o.cells, List.length_singleton, ne_eq, not_true, false_or, if_neg h1, setAt_one]
  exact h
theorem allOne_cons {v : AVal} {l : List AVal} [o : OneV v] (h : l.all AVal.one = true) : (v :: l).all AVal.one = true := by simp only [List.all_cons, o.one, h, Bool.and_self]
theorem getAllT {t : Nat} {rs : List RRes} {v : AVal} {vs : List AVal} (hv : fr t = v) (h : getAll fr rs H = some (vs, H)) : getAll fr (.tmp t :: rs) H = some (v :: vs, H) := by
  subst hv
  simp only [getAll, RRes.get, M.bind, M.pure, h]
theorem getAllC {t m r off : Nat} {cs l : List AVal} {rw : Bool} {e : TypeId} {rs : List RRes} {vs : List AVal} (ha : fr t = .ptr r off) [hg : HasRow H r cs rw e] (hv : Nat.ble (off + m) cs.length = true) (hl : (cs.drop off).take m = l) (h : getAll fr rs H = some (vs, H)) : getAll fr (.cell t (some m) :: rs) H = some (.agg l :: vs, H) := by
  subst hl
  simp only [getAll, RRes.get, ha, aLoad, M.bind, aRow, if_pos hg.lt, hg.get, if_pos (Nat.le_of_ble_eq_true hv), M.pure, h]
theorem getAllC1 {t r off : Nat} {cs : List AVal} {v : AVal} {rw : Bool} {e : TypeId} {rs : List RRes} {vs : List AVal} (ha : fr t = .ptr r off) [hg : HasRow H r cs rw e] (hv : cs[off]? = some v) (h : getAll fr rs H = some (vs, H)) : getAll fr (.cell t none :: rs) H = some (v :: vs, H) := by
  simp only [getAll, RRes.get, ha, aLoad, M.bind, aRow, if_pos hg.lt, hg.get, hv, M.pure, h]
end
end Go.Am

namespace Go.Am
open Go Go.RowKit Go.ChangeShapes Go.WideShapes
def aggTy (P : Program) (t : TypeId) : Bool := match P.underlying t with
  | some (.struct _) => true
  | some (.array _ _) => true
  | _ => false
def argV (P : Program) (t : TypeId) (acs : List AVal) : AVal := bif aggTy P t then .agg acs else acs.headD .nptr
def ArgS (P : Program) (H : AHeap) (n : Nat) : List TypeId → List AVal → Prop
  | [], avs => avs = []
  | t :: ts, avs => ∃ acs rest, avs = argV P t acs :: rest ∧ Shape P H n t acs ∧ ArgS P H n ts rest
theorem ArgS.ext {P : Program} {H H' : AHeap} (x : Ext H H') {n : Nat} : ∀ {ts : List TypeId} {avs : List AVal}, ArgS P H n ts avs → ArgS P H' n ts avs := by
  intro ts
  induction ts with
  | nil => intro avs h; exact h
  | cons t ts ih =>
    intro avs h
    obtain ⟨acs, rest, e, h1, h2⟩ := h
    exact ⟨acs, rest, e, h1.ext x, ih h2⟩
section
variable {P : Program} {S : Base} {m : RMap} {H : AHeap} {w : World} {Hd : Type} {enc : TypeId × Value → Hd} {T : TypeId → Prop}
theorem open_arg (hgh : ∀ r, ¬ S.ghost r) (K : Kids P T) (hz : ∀ t e, T t → P.underlying t = some (.slice e) → 0 < P.cellsOf e) {n : Nat} {t : TypeId} {v : Value} {d : DataW Hd} {ps : List MemPlace} (hT : T t) (hp : plainT P n t = true)
    (hok : Value.okWide P w .any 0 t v ∨ ∃ b, Value.okWide P w .any b t v) (hd : DataW.Trod enc P w 0 (fun _ => true) true t v d ps) (h : HRel S m H w) (hro : RO H) :
    ∃ H' m' acs, Ext H H' ∧ Le m m' ∧ HRel S m' H' w ∧ RO H' ∧ emb m' (argV P t acs) = some v ∧ Shape P H' n t acs := by
  obtain ⟨b, hok⟩ : ∃ b, Value.okWide P w .any b t v := by rcases hok with h | h; exact ⟨0, h⟩; exact h
  obtain ⟨f, hf⟩ := hd
  obtain ⟨H', m', acs, h1, h2, h3, h4, h5, h6⟩ := open_trod hgh K hz n f t _ _ m H hT hp hf h hro
  refine ⟨H', m', acs, h1, h2, h3, h4, ?_, h6⟩
  have one : v.cells = #[v] → aggTy P t = false → emb m' (argV P t acs) = some v := by
    intro hc ha
    rw [hc] at h5
    have hl := embL_length h5
    match acs, hl with
    | [a], _ =>
      obtain ⟨x, xs, q1, q2, q3⟩ := embL_cons h5
      simp at q3
      simp only [argV, ha, cond_false, List.headD_cons]
      rw [q1, q3.1]
  cases n with
  | zero => simp [plainT] at hp
  | succ n =>
    unfold plainT at hp
    split at hp <;> rename_i hu
    · obtain ⟨b, rfl⟩ := okWide_bool hu hok
      exact one rfl (by simp [aggTy, hu])
    · obtain ⟨b, rfl⟩ := okWide_string hu hok
      exact one rfl (by simp [aggTy, hu])
    · obtain ⟨b, rfl⟩ := okWide_int hu hok
      exact one rfl (by simp [aggTy, hu])
    · obtain ⟨a, len, cap, rfl⟩ := okWide_slice hu hok
      exact one rfl (by simp [aggTy, hu])
    · obtain ⟨cs, rfl, _⟩ := okWide_struct hu hok
      have ha : aggTy P t = true := by simp [aggTy, hu]
      simp only [argV, ha, cond_true, emb]
      simp only [Value.cells] at h5
      rw [h5]
    · have hcs : ∃ cs, v = .agg cs := by
        simp only [Value.okWide, hu] at hok
        obtain ⟨cs, e, _⟩ := hok
        exact ⟨cs, e⟩
      obtain ⟨cs, rfl⟩ := hcs
      have ha : aggTy P t = true := by simp [aggTy, hu]
      simp only [argV, ha, cond_true, emb]
      simp only [Value.cells] at h5
      rw [h5]
    · cases hp
theorem open_args (hgh : ∀ r, ¬ S.ghost r) (K : Kids P T) (hz : ∀ t e, T t → P.underlying t = some (.slice e) → 0 < P.cellsOf e) {n b : Nat} : ∀ (ts : List TypeId) (vs : List Value) (ds : List (DataW Hd)) (ps : List MemPlace) (m : RMap) (H : AHeap), (∀ t ∈ ts, T t ∧ plainT P n t = true) →
    (∀ (j : Nat) t v, ts[j]? = some t → vs[j]? = some v → Value.okWide P w .any b t v) → DataW.TrodAll enc P w 0 (fun _ => true) true ts vs ds ps → HRel S m H w → RO H →
    ∃ H' m' avs, Ext H H' ∧ Le m m' ∧ HRel S m' H' w ∧ RO H' ∧ embL m' avs = some vs ∧ ArgS P H' n ts avs := by
  intro ts
  induction ts with
  | nil =>
    intro vs ds ps m H _ _ hd h hro
    obtain ⟨rfl, _, _⟩ := trodAll_nil hd
    exact ⟨H, m, [], Ext.refl H, Le.refl m, h, hro, by simp [embL], rfl⟩
  | cons t ts ih =>
    intro vs ds ps m H hT hok hd h hro
    obtain ⟨v, vs', d, ds', p, q, rfl, rfl, rfl, h1, h2⟩ := trodAll_cons hd
    obtain ⟨hTt, hpt⟩ := hT t (by simp)
    obtain ⟨H1, m1, acs, e1, l1, r1, o1, b1, s1⟩ := open_arg hgh K hz hTt hpt (Or.inr ⟨b, hok 0 t v rfl rfl⟩) h1 h hro
    obtain ⟨H2, m2, avs, e2, l2, r2, o2, b2, s2⟩ := ih vs' ds' q m1 H1 (fun t h => hT t (by simp [h])) (fun j t v q1 q2 => hok (j + 1) t v (by simpa using q1) (by simpa using q2)) h2 r1 o1
    exact ⟨H2, m2, argV P t acs :: avs, e1.trans e2, Le.trans l1 l2, r2, o2, embL_mk (emb_mono l2 _ _ b1) b2, acs, avs, rfl, s1.ext e2, s2⟩
theorem args_stay (K : Kids P T) (hz : ∀ t e, T t → P.underlying t = some (.slice e) → 0 < P.cellsOf e) {w' : World} (hb : Below w.heap.size w w') {sp : Nat → Bool} : ∀ {ts : List TypeId} {vs : List Value} {ds : List (DataW Hd)} {ps : List MemPlace}, (∀ t ∈ ts, T t) →
    DataW.TrodAll enc P w 0 (fun _ => true) true ts vs ds ps → (∀ p ∈ ps, p.block < w.heap.size) → (∀ p ∈ ps, sp p.block = true) → DataW.TrodAll enc P w' 0 sp true ts vs ds ps
  | [], [], [], _, _, h, _, _ => h
  | _ :: _, _ :: _, _ :: _, _, hT, ⟨p, q, h1, h2, e⟩, hlt, hs => by
    obtain ⟨f, hf⟩ := h1
    refine ⟨p, q, ⟨f, ?_⟩, args_stay K hz hb (fun t ht => hT t (List.mem_cons.2 (Or.inr ht))) h2 (fun x hx => hlt x (by rw [e]; exact List.mem_append_right _ hx)) fun x hx => hs x (by rw [e]; exact List.mem_append_right _ hx), e⟩
    exact DataW.trod_stays K (fun {t e} => hz t e) (by intro h; cases h) (hT _ (List.mem_cons.2 (Or.inl rfl))) hf (fun x hx => hb.same (hlt x (by rw [e]; exact List.mem_append_left _ hx))) fun x hx => hs x (by rw [e]; exact List.mem_append_left _ hx)
theorem post_true {fn : Func} {s : ChangeSpec} {apart fresh handsOn again : Bool} {w' : World} {args : Array Value} {ds gs : List (DataW Hd)} {before : List MemPlace} {tb : TypeId} (K : Kids P T) (hz : ∀ t e, T t → P.underlying t = some (.slice e) → 0 < P.cellsOf e) (hT : ∀ t ∈ fn.params.toList, T t)
    (hvars : s.vars = []) (hfn : s.fn Hd ds = { results := [.lit (.bool true)], args := ds }) (hrt : fn.resultTypes = #[tb]) (htb : P.underlying tb = some .bool)
    (hW : DataW.Whole enc P fn.params.toList s.vars apart w args.toList ds gs before) (hb : Below w.heap.size w w') : s.post enc P fn apart fresh handsOn again w args (.bool true) w' := by
  have hlt := hW.lt
  have hW' := hW
  obtain ⟨p, q, hA, hV, rfl, hfz, hnd⟩ := hW
  rw [hvars] at hV
  obtain ⟨rfl, rfl⟩ := trodVars_none hV
  rw [List.append_nil] at *
  have hv0 : ∀ sp : Nat → Bool, DataW.TrodVars enc P w' sp s.vars ([] : List (DataW Hd)) [] := fun sp => by rw [hvars]; rfl
  have hres : ∀ (b : Nat) (sp : Nat → Bool) (hd : Bool), DataW.TrodAll enc P w' b sp hd fn.resultTypes.toList ((Value.bool true).resultList fn.resultTypes.size) [.lit (.bool true)] [] := fun b sp hd => by
    rw [hrt]
    exact trodAll_cons_mk (shut_bool htb true) trodAll_mk0
  have hargs : ∀ sp : Nat → Bool, (∀ x ∈ p, sp x.block = true) → DataW.TrodAll enc P w' 0 sp true fn.params.toList args.toList ds p := fun sp hs => args_stay K hz hb hT hA hlt hs
  refine ⟨ds, [], p, [], p, [], hW', ?_, ?_, ?_, ?_, fun _ => ⟨?_, [.lit (.bool true)] ++ ds, [], p, ⟨p, [], ?_, hv0 _, by simp, ?_, hnd⟩, fun x hx _ => hx⟩⟩
  · rw [List.append_nil, hfn]; exact hres _ _ _
  · rw [List.append_nil, hfn]; exact hargs _ fun x hx => by simpa using hlt x hx
  · rw [List.append_nil, hfn]; exact hv0 _
  · exact hb.frame _
  · intro j t r hj hr
    rw [hrt] at hj hr
    cases j with
    | zero =>
      simp at hj
      subst hj
      simp [Value.resultList] at hr
      subst hr
      exact okWide_bool_mk htb _
    | succ j => simp at hj
  · simpa using trodAll_append (hargs (fun _ => true) fun _ _ => rfl) (hres 0 (fun _ => true) true)
  · intro b off hp
    have h1 := hlt _ hp
    rw [hb.frozen (p := ⟨b, off, none⟩) h1]
    exact hfz b off hp
end
theorem law_calls {P : Program} {ext : Exts} {prog : FuncId → Option RFunc} {f : FuncId} {fn : Func} {c : Code} {s : ChangeSpec} {apart fresh handsOn again : Bool} {tb : TypeId} {tabs : List (Nat × List AVal)} {n d : Nat}
    (hmix : P.follows .mixedOrders = true) (hP : ProgOk P ext prog) (hfn : P.funcs[f]? = some fn) (hb : fn.body = some c) (hname : fn.name ≠ "runtime.NumGoroutine")
    (hl : laidOutB P = true) (hm : mapsRowed P = true) (hz : ∀ t e, t < P.types.size → P.underlying t = some (.slice e) → 0 < P.cellsOf e) (hplain : (fn.params.toList.all fun t => decide (t < P.types.size) && plainT P n t) = true)
    (hvars : s.vars = []) (hrt : fn.resultTypes = #[tb]) (htb : P.underlying tb = some .bool) (htabs0 : tablesIn tabs (tableHeap P.globals.size tabs) = true) (htabs : (tabs.all fun t => Nat.blt t.1 P.globals.size && t.2.all plainV) = true)
    (hcon : ∀ (H : AHeap) (avs : List AVal), tablesIn tabs H = true → ArgS P H n fn.params.toList avs → Con ext prog d f avs H fun v H' => v = .bool true ∧ Ext H H')
    (Hd : Type) (enc : TypeId × Value → Hd) (W : World) (base : Nat) (args : Array Value) (ds gs : List (DataW Hd)) (before : List MemPlace)
    (hspec : s.fn Hd ds = { results := [.lit (.bool true)], args := ds })
    (hval : ∀ (j : Nat) t v, fn.params[j]? = some t → args[j]? = some v → Value.okWide P W .any base t v) (hW : DataW.Whole enc P fn.params.toList s.vars apart W args.toList ds gs before)
    (hcells : ∀ t ∈ tabs, ∀ (i : Nat) (v : AVal), t.2[i]? = some v → ∃ x, emb (fun _ => none) v = some x ∧ W.cell? ⟨t.1, i, none⟩ = some x) :
    Calls P f args W fun e W' => ∃ v, e = .returned v ∧ s.post enc P fn apart fresh handsOn again W args v W' := by
  have K := kids_rows (P := P) hl hm
  have hpl := List.all_eq_true.1 hplain
  have hT : ∀ t ∈ fn.params.toList, t < P.types.size ∧ plainT P n t = true := fun t ht => by
    have := hpl t ht
    simpa using this
  have htab := List.all_eq_true.1 htabs
  -- the tables
  have hrel : HRel ⟨W.heap.size, W, P.globals.size, fun _ => False, cCode P⟩ (globMap P.globals.size (longest tabs)) (tableHeap P.globals.size tabs) W := by
    refine ⟨Below.refl _ _, Nat.le_refl _, fun g hg => ⟨longest tabs, by simp only at hg; simp [globMap, hg]⟩, fun r hr => by simp only [tableHeap] at hr; simp [globMap]; omega, fun r hr => hr.elim, ?_, ?_, ⟨fun r R p _ h _ => absurd h tableObj_loop, fun r s R R' p q L L' _ _ _ h => absurd h tableObj_loop, ⟨fun r es p _ h _ => absurd h tableObj_map, fun r s es es' p q _ _ _ h => absurd h tableObj_map⟩⟩⟩
    · intro r cs rw e p hr hg hp
      obtain ⟨hmem, rfl⟩ := tableObj_row hg
      have hT1 := htab _ hmem
      simp only [Bool.and_eq_true] at hT1
      have hrG : r < P.globals.size := by simpa using hT1.1
      have hp' : p = (⟨r, 0, none⟩, longest tabs) := by simp only [globMap, hrG, if_true] at hp; exact (Option.some.inj hp).symm
      subst hp'
      refine ⟨fun i v hi => ?_, le_longest hmem, fun q => by cases q⟩
      obtain ⟨x, h1, h2⟩ := hcells _ hmem i v hi
      have hv : plainV v = true := List.all_eq_true.1 hT1.2 v (List.mem_of_getElem? hi)
      refine ⟨x, by rw [plain_emb hv _ (fun _ => none)]; exact h1, ?_⟩
      cases i <;> simpa [Addr.add] using h2
    · intro r s' cs rw e cs' e' p q hr hs hne hg1 hg2 hp hq
      exact absurd (tableObj_row hg2).2 (by decide)
  have hro : RO (tableHeap P.globals.size tabs) := fun r cs rw e hg => (tableObj_row hg).2
  obtain ⟨p, q, hA, hrest⟩ := hW
  obtain ⟨H', m', avs, e1, l1, r1, o1, b1, s1⟩ := open_args (P := P) (T := (· < P.types.size)) (fun _ h => h) K hz (n := n) (b := base) fn.params.toList args.toList ds p _ _ hT (fun j t v q1 q2 => hval j t v (by simpa using q1) (by simpa using q2)) hA hrel hro
  have htabs' : tablesIn tabs H' = true := by
    refine List.all_eq_true.2 fun t ht => ?_
    have hT1 := htab _ ht
    simp only [Bool.and_eq_true] at hT1 ⊢
    have htG : t.1 < P.globals.size := by simpa using hT1.1
    have hlt : t.1 < (tableHeap P.globals.size tabs).n := htG
    have hn : t.1 < H'.n := Nat.lt_of_lt_of_le hlt e1.n
    have h0 := List.all_eq_true.1 htabs0 t ht
    simp only [Bool.and_eq_true] at h0
    refine ⟨by simpa using hn, ?_⟩
    rw [e1.get _ hlt]
    exact h0.2
  have hc := calls_of_evs hmix hP rfl rfl hfn hb hname r1 (args := avs) (vargs := args) b1 (hcon H' avs htabs' s1).evs
  refine hc.mono fun e W' ⟨x, v, H2, he, ⟨hv, hx2⟩, m2, hl2, hemb, hr2⟩ => ?_
  subst hv
  simp only [emb, Option.some.injEq] at hemb
  subst hemb
  exact ⟨_, he, post_true (T := (· < P.types.size)) K hz (fun t ht => (hT t ht).1) hvars hspec hrt htb ⟨p, q, hA, hrest⟩ hr2.below⟩
section
variable {P : Program} {w : World} {Hd : Type} {enc : TypeId × Value → Hd} {base : Nat} {spare : Nat → Bool} {held : Bool} {T : TypeId → Prop}
end
end Go.Am

namespace Go.Am
open Go Go.RowKit
section
variable {P : Program} {H : AHeap} {n : Nat} {t e : TypeId} {cs : List AVal}
theorem shape_int {k : IntKind} (hu : P.underlying t = some (.int k)) (h : Shape P H (n + 1) t cs) : ∃ i, cs = [.int k i] ∧ (Lit.int k i).wf = true := by simpa only [Shape, hu] using h
theorem u8_of {i : Int} (h : (Lit.int .u8 i).wf = true) : ∃ b : UInt8, i = (b.toNat : Int) := by
  have h1 : 0 ≤ i ∧ i < 256 := by
    simp only [Lit.wf, IntKind.has] at h
    revert h
    simp [IntKind.min, IntKind.max, IntKind.bits, IntKind.signed]
    intro a b
    constructor <;> omega
  refine ⟨UInt8.ofNat i.toNat, ?_⟩
  simp only [UInt8.toNat_ofNat']
  omega
theorem shapes_bytes (hu : P.underlying e = some (.int .u8)) : ∀ {len : Nat} {cells : List AVal}, shapes (Shape P H (n + 1)) (List.replicate len e) cells → ∃ l : List UInt8, l.length = len ∧ cells = cellsB l := by
  intro len
  induction len with
  | zero => intro cells h; exact ⟨[], rfl, h⟩
  | succ len ih =>
    intro cells h
    obtain ⟨a, b, rfl, h1, h2⟩ := h
    obtain ⟨i, rfl, hw⟩ := shape_int hu h1
    obtain ⟨x, rfl⟩ := u8_of hw
    obtain ⟨l, hl, rfl⟩ := ih h2
    exact ⟨x :: l, by simp [hl], rfl⟩
theorem shape_bytes (hu : P.underlying t = some (.slice e)) (he : P.underlying e = some (.int .u8)) (hc : P.cellsOf e = 1) (h : Shape P H (n + 2) t cs) : ∃ p l, cs = [p] ∧ BytesI H p l ∧ l.length ≤ maxLen := by
  rw [Shape, hu] at h
  obtain ⟨p, len, cells, rfl, h2, h3, h4⟩ := h
  obtain ⟨l, rfl, rfl⟩ := shapes_bytes he h4
  rw [hc] at h2
  exact ⟨p, l, rfl, h2, h3⟩
end
end Go.Am

namespace Go.Am
open Go
def aBytesFn (f : List UInt8 → AVal) : AVal → M AVal
  | .nslice => M.pure (f [])
  | .str s => M.pure (f s.data.toList)
  | .slice r off len _ s => if s ≠ 1 then M.fail else M.bind (aRow r) fun (cs, _) => if off + len ≤ cs.length then match bytesOf ((cs.drop off).take len) with
      | some l => M.pure (f l)
      | none => M.fail
    else M.fail
  | _ => M.fail
def aCount : List AVal → M AVal
  | [x, .int .u8 b] => aBytesFn (fun l => .int .i64 (Lib.countByte l (UInt8.ofNat b.toNat))) x
  | _ => M.fail
def aIndexByte : List AVal → M AVal
  | [x, .int .u8 b] => aBytesFn (fun l => .int .i64 (Lib.indexByte l (UInt8.ofNat b.toNat))) x
  | _ => M.fail
def aSelf : List AVal → M AVal
  | [x] => M.pure x
  | _ => M.fail
end Go.Am

namespace Go.Am
open Go Go.RowKit
def dg (n : Nat) : UInt8 := UInt8.ofNat (48 + n)
def digs (n : Nat) : List UInt8 := if n < 10 then [dg n] else if n < 100 then [dg (n / 10), dg (n % 10)] else [dg (n / 100), dg (n / 10 % 10), dg (n % 10)]
section
variable {P : Program}
def aFam (T : List (Nat × List AVal)) (F : List AVal → Option AVal) (args : List AVal) : M AVal := fun H => match tablesIn T H, F args with | true, some v => some (v, H) | _, _ => none
theorem plain_embL {l : List AVal} (h : l.all plainV = true) (m m' : RMap) : embL m l = embL m' l := by
  induction l with
  | nil => simp [embL]
  | cons a l ih =>
    rw [List.all_cons, Bool.and_eq_true] at h
    simp only [embL, plain_emb h.1 m m', ih h.2]
theorem ext_fam (hmix : P.follows .mixedOrders = true) {ext0 : Exts} {prog0 : FuncId → Option RFunc} (hP : ProgOk P ext0 prog0) {T : List (Nat × List AVal)} {F : List AVal → Option AVal} {f : FuncId} {fn : Func} (hfn : P.funcs[f]? = some fn)
    {n : Nat} (hT : (T.all fun t => Nat.blt t.1 P.globals.size && t.2.all plainV) = true) (hF : ∀ args v, F args = some v → args.all plainV = true ∧ plainV v = true ∧ ∃ H', callN ext0 prog0 n f args (tableHeap P.globals.size T) = some (v, H'))
    {ext : Exts} {k : Nat} (hk : ext k = aFam T F) : ExtSim P ext f k := by
  intro S args H u H' m w vargs hG hx h ha
  rw [hk] at hx
  unfold aFam at hx
  cases ht : tablesIn T H with
  | false => simp only [ht] at hx; cases hx
  | true =>
  cases hFa : F args with
  | none => simp only [ht, hFa] at hx; cases hx
  | some v =>
      simp only [ht, hFa, Option.some.injEq, Prod.mk.injEq] at hx
      obtain ⟨rfl, rfl⟩ := hx
      obtain ⟨hpa, hv, H1, hrun⟩ := hF _ _ hFa
      simp only [tablesIn, List.all_eq_true, Bool.and_eq_true] at ht hT
      have hrel : HRel ⟨w.heap.size, w, P.globals.size, fun _ => False, cCode P⟩ (globMap P.globals.size (longest T)) (tableHeap P.globals.size T) w := by
        refine ⟨Below.refl _ _, Nat.le_refl _, fun g hg => ⟨longest T, by simp only at hg; simp [globMap, hg]⟩, fun r hr => by simp only [tableHeap] at hr; simp [globMap]; omega, fun r hr => hr.elim, ?_, ?_, ⟨fun r R p _ h _ => absurd h tableObj_loop, fun r s R R' p q L L' _ _ _ h => absurd h tableObj_loop, ⟨fun r es p _ h _ => absurd h tableObj_map, fun r s es es' p q _ _ _ h => absurd h tableObj_map⟩⟩⟩
        · intro r cs rw e p hr hg hp
          obtain ⟨hmem, rfl⟩ := tableObj_row hg
          have hT1 := hT _ hmem
          have ht1 := ht _ hmem
          simp only [] at hT1 ht1
          have hrG : r < P.globals.size := by simpa using hT1.1
          have hp' : p = (⟨r, 0, none⟩, longest T) := by simp only [globMap, hrG, if_true] at hp; exact (Option.some.inj hp).symm
          subst hp'
          obtain ⟨k, hmk⟩ := h.glob r (by rw [hG]; exact hrG)
          have hrn : r < H.n := by simpa using ht1.1
          cases hgr : H.get r with
          | row cs' rw' e' =>
            have ht2 := ht1.2
            rw [hgr] at ht2
            simp only [] at ht2
            have hcs := abeqL_eq ht2
            subst hcs
            have hok := h.row r cs' rw' e' _ hrn hgr hmk
            refine ⟨fun i u hi => ?_, le_longest hmem, fun q => by cases q⟩
            obtain ⟨x, h1, h2⟩ := hok.cell i u hi
            have hpl : plainV u = true := hT1.2 u (List.mem_of_getElem? hi)
            exact ⟨x, by rw [plain_emb hpl _ m]; exact h1, h2⟩
          | _ => have ht2 := ht1.2; rw [hgr] at ht2; cases ht2
        · intro r s cs rw e cs' e' p q hr hs hne hg1 hg2 hp hq
          exact absurd (tableObj_row hg2).2 (by decide)
      have hy := sim_callN hmix hP n ⟨w.heap.size, w, P.globals.size, fun _ => False, cCode P⟩ rfl rfl f args (tableHeap P.globals.size T) v H1 (globMap P.globals.size (longest T)) w vargs hrun hrel (by rw [plain_embL hpa _ m]; exact ha)
      rw [hP.sem hfn] at hy
      refine hy.mono fun x w' ⟨m', _, hx, hrel'⟩ => ?_
      exact ⟨m, Le.refl _, by rw [plain_emb hv m m']; exact hx, h.kept hrel'.below⟩
end
end Go.Am

namespace Go.Am
open Go
def aroundT : List (Nat × List AVal) := []
section
open Go.Am.ROpd renaming tmp → t, val → v
open Go.Am.ROp renaming mov → m, load → l, bin → b, idxS → a, fieldAddr → f, call → C, lenS → n, pick → p, store → S, extract → e
open Go.Am.AVal renaming int → i, bool → w, func → F, nslice → N
open Go.Am.RCode renaming seq → q, region → g, cond → c, block → B, loop → L, skip → k, exit → x, dregion → G, ret → R
open Go.IntKind renaming i64 → I
open Go.Fn renaming func → J
open Option renaming some → s, none → o
open Bool renaming true → T, false → U
def c6 : RFunc := ⟨140,.code (q (g [⟨s 6,m (v (w U)),o⟩]) (q (g [⟨s 24,m (t 0),o⟩,⟨s 25,m (t 1),o⟩,⟨s 26,m (t 2),o⟩,⟨s 27,C (v (F (J 35) [] [])) [t 24,t 25,t 26],o⟩,⟨s 23,m (t 27),o⟩,⟨s 28,e (t 23) 0,o⟩,⟨s 29,e (t 23) 1,o⟩,⟨s 7,.new 24 [(i I 0),(i I 0),N],o⟩,⟨o,S 3 (t 7) (t 28),o⟩,⟨s 8,m (t 29),o⟩]) (q (g [⟨s 31,l (s 3) (t 7),o⟩,⟨s 32,C (v (F (J 18) [] [])) [t 31],o⟩,⟨s 30,m (t 32),o⟩,⟨s 33,e (t 30) 0,o⟩,⟨s 34,e (t 30) 1,o⟩,⟨s 9,m (t 33),o⟩,⟨s 10,m (t 34),o⟩]) (q (q (g [⟨s 35,m (t 10),o⟩,⟨s 36,b .neq (t 35) (v (i I 0)),o⟩]) (c (t 36) (q (g [⟨s 6,m (v (w U)),o⟩]) R) k)) (q (g [⟨s 37,m (t 9),o⟩,⟨s 38,C (v (F (J 27) [] [])) [t 37],o⟩,⟨s 11,m (t 38),o⟩]) (q (q (g [⟨s 39,m (t 9),o⟩,⟨s 40,n (t 39),o⟩,⟨s 41,m (t 8),o⟩,⟨s 42,n (t 41),o⟩,⟨s 43,b .mul (v (i I 5)) (t 42),o⟩,⟨s 44,b .neq (t 40) (t 43),o⟩,⟨s 45,m (t 44),o⟩,⟨s 46,m (t 11),s (45,U)⟩,⟨s 47,m (t 8),s (45,U)⟩,⟨s 48,C (v (F (J 28) [] [])) [t 46,t 47],s (45,U)⟩,⟨s 49,.un .not (t 48),s (45,U)⟩,⟨s 50,p (t 45) (v (w T)) (t 49),o⟩]) (c (t 50) (q (g [⟨s 6,m (v (w U)),o⟩]) R) k)) (q (q (g [⟨s 51,m (t 11),o⟩,⟨s 52,n (t 51),o⟩,⟨s 53,m (v (i I 0)),o⟩]) (B 0 (L (q (g [⟨s 54,b .lss (t 53) (t 52),o⟩]) (q (c (t 54) k (x 0)) (q (B 1 (q (g [⟨s 55,a 1 (t 51) (t 53),o⟩,⟨s 56,l (s 1) (t 55),o⟩,⟨s 13,.new 43 [N],o⟩,⟨o,S 1 (t 13) (t 56),o⟩]) (q (g [⟨s 58,l (s 3) (t 7),o⟩,⟨s 59,l (s 1) (t 13),o⟩,⟨s 60,C (v (F (J 36) [] [])) [t 58,t 59,(v (i I 26)),(v (i I 2))],o⟩,⟨s 57,m (t 60),o⟩,⟨s 61,e (t 57) 0,o⟩,⟨s 62,e (t 57) 1,o⟩,⟨s 14,.new 24 [(i I 0),(i I 0),N],o⟩,⟨o,S 3 (t 14) (t 61),o⟩,⟨s 15,m (t 62),o⟩]) (q (q (g [⟨s 63,m (t 15),o⟩,⟨s 64,b .neq (t 63) (v (i I 0)),o⟩,⟨s 65,m (t 64),o⟩,⟨s 66,l (s 3) (t 7),s (65,U)⟩,⟨s 67,l (s 1) (t 13),s (65,U)⟩,⟨s 68,C (v (F (J 31) [] [])) [t 66,t 67],s (65,U)⟩,⟨s 69,b .neq (t 68) (v (i I 0)),s (65,U)⟩,⟨s 70,p (t 65) (v (w T)) (t 69),o⟩]) (c (t 70) (q (g [⟨s 6,m (v (w U)),o⟩]) R) k)) (q (g [⟨s 72,l (s 3) (t 14),o⟩,⟨s 73,C (v (F (J 37) [] [])) [t 72],o⟩,⟨s 71,m (t 73),o⟩,⟨s 74,e (t 71) 0,o⟩,⟨s 75,e (t 71) 1,o⟩,⟨s 76,e (t 71) 2,o⟩,⟨s 16,m (t 74),o⟩,⟨s 17,m (t 75),o⟩,⟨s 15,m (t 76),o⟩]) (q (q (g [⟨s 77,m (t 15),o⟩,⟨s 78,b .neq (t 77) (v (i I 0)),o⟩,⟨s 79,m (t 78),o⟩,⟨s 80,m (t 16),s (79,U)⟩,⟨s 81,n (t 80),s (79,U)⟩,⟨s 82,b .neq (t 81) (v (i I 29)),s (79,U)⟩,⟨s 83,p (t 79) (v (w T)) (t 82),o⟩]) (c (t 83) (q (g [⟨s 6,m (v (w U)),o⟩]) R) k)) (q (g [⟨s 84,m (t 16),o⟩,⟨s 85,n (t 84),o⟩,⟨s 86,m (v (i I 0)),o⟩]) (B 2 (L (q (g [⟨s 87,b .lss (t 86) (t 85),o⟩]) (q (c (t 87) k (x 2)) (q (B 3 (q (g [⟨s 88,m (t 86),o⟩,⟨s 89,a 1 (t 84) (t 86),o⟩,⟨s 90,l o (t 89),o⟩,⟨s 18,m (t 88),o⟩,⟨s 19,m (t 90),o⟩]) (q (g [⟨s 91,m (t 19),o⟩,⟨s 92,f 0 (t 7),o⟩,⟨s 93,l o (t 92),o⟩,⟨s 94,b .eql (t 91) (t 93),o⟩,⟨s 95,m (t 18),o⟩,⟨s 96,b .geq (t 95) (v (i I 2)),o⟩,⟨s 97,m (t 96),o⟩,⟨s 98,m (t 18),s (97,T)⟩,⟨s 99,b .sub (t 98) (v (i I 2)),s (97,T)⟩,⟨s 100,b .rem (t 99) (v (i I 6)),s (97,T)⟩,⟨s 101,b .eql (t 100) (v (i I 0)),s (97,T)⟩,⟨s 102,p (t 97) (t 101) (v (w U)),o⟩,⟨s 103,.eq T .bool (t 94) (t 102),o⟩,⟨s 104,m (t 103),o⟩,⟨s 105,m (t 19),s (104,U)⟩,⟨s 106,b .neq (t 105) (v (i I 0)),s (104,U)⟩,⟨s 107,m (t 106),s (104,U)⟩,⟨s 108,m (t 19),s (107,T)⟩,⟨s 109,f 0 (t 7),s (107,T)⟩,⟨s 110,l o (t 109),s (107,T)⟩,⟨s 111,b .neq (t 108) (t 110),s (107,T)⟩,⟨s 112,p (t 107) (t 111) (v (w U)),s (104,U)⟩,⟨s 113,p (t 104) (v (w T)) (t 112),o⟩]) (c (t 113) (q (g [⟨s 6,m (v (w U)),o⟩]) R) k)))) (g [⟨s 114,b .add (t 86) (v (i I 1)),o⟩,⟨s 86,m (t 114),o⟩]))))))))))))) (g [⟨s 115,b .add (t 53) (v (i I 1)),o⟩,⟨s 53,m (t 115),o⟩]))))))) (q (g [⟨s 117,l (s 3) (t 7),o⟩,⟨s 118,m (t 11),o⟩,⟨s 119,C (v (F (J 38) [] [])) [t 117,t 118,(v (i I 1))],o⟩,⟨s 116,m (t 119),o⟩,⟨s 120,e (t 116) 0,o⟩,⟨s 121,e (t 116) 1,o⟩,⟨s 20,.new 24 [(i I 0),(i I 0),N],o⟩,⟨o,S 3 (t 20) (t 120),o⟩,⟨s 10,m (t 121),o⟩]) (q (g [⟨s 123,l (s 3) (t 20),o⟩,⟨s 124,C (v (F (J 39) [] [])) [t 123],o⟩,⟨s 122,m (t 124),o⟩,⟨s 125,e (t 122) 0,o⟩,⟨s 126,e (t 122) 1,o⟩,⟨s 21,m (t 125),o⟩,⟨s 22,m (t 126),o⟩]) (q (g [⟨s 127,m (t 10),o⟩,⟨s 128,b .eql (t 127) (v (i I 0)),o⟩,⟨s 129,m (t 128),o⟩,⟨s 130,m (t 22),s (129,T)⟩,⟨s 131,b .eql (t 130) (v (i I 0)),s (129,T)⟩,⟨s 132,p (t 129) (t 131) (v (w U)),o⟩,⟨s 133,m (t 132),o⟩,⟨s 134,m (t 21),s (133,T)⟩,⟨s 135,b .eql (t 134) (v (i I 0)),s (133,T)⟩,⟨s 136,p (t 133) (t 135) (v (w U)),o⟩,⟨s 137,m (t 136),o⟩,⟨s 138,C (v (F (J 12) [] [])) [],s (137,T)⟩,⟨s 139,p (t 137) (t 138) (v (w U)),o⟩,⟨s 6,m (t 139),o⟩]) R)))))))))),[.tmp 6]⟩
def c12 : RFunc := ⟨84,.code (q (g [⟨s 0,m (v (w U)),o⟩]) (q (g [⟨s 6,C (v (F (J 47) [] [])) [(v (i I 7))],o⟩,⟨s 1,.new 24 [(i I 0),(i I 0),N],o⟩,⟨o,S 3 (t 1) (t 6),o⟩]) (q (g [⟨s 8,l (s 3) (t 1),o⟩,⟨s 9,C (v (F (J 18) [] [])) [t 8],o⟩,⟨s 7,m (t 9),o⟩,⟨s 10,e (t 7) 0,o⟩,⟨s 11,e (t 7) 1,o⟩,⟨s 2,m (t 10),o⟩,⟨s 3,m (t 11),o⟩]) (q (G [⟨⟨s 13,l (s 3) (t 1),o⟩,0,1,T⟩,⟨⟨s 14,.buildSlice 3 1 1 [(i I 0)] [(0,1,(v (i I 2)))],o⟩,0,3,T⟩,⟨⟨s 15,C (v (F (J 48) [] [])) [(v (i I 16)),t 14],o⟩,2,2,U⟩,⟨⟨s 16,a 1 (t 15) (v (i I 0)),o⟩,6,0,U⟩,⟨⟨s 17,l o (t 16),o⟩,14,1,U⟩,⟨⟨s 18,C (v (F (J 15) [] [])) [t 13,t 17],o⟩,31,2,U⟩,⟨⟨s 12,m (t 18),o⟩,63,0,U⟩,⟨⟨s 19,e (t 12) 0,o⟩,127,0,U⟩,⟨⟨s 20,e (t 12) 1,o⟩,127,0,U⟩,⟨⟨s 4,m (t 19),o⟩,255,0,U⟩,⟨⟨s 5,m (t 20),o⟩,1023,0,U⟩]) (q (q (G [⟨⟨s 21,m (t 3),o⟩,0,0,T⟩,⟨⟨s 22,b .neq (t 21) (v (i I 0)),o⟩,1,0,T⟩,⟨⟨s 23,m (t 22),o⟩,3,0,T⟩,⟨⟨s 24,m (t 5),s (23,U)⟩,7,0,T⟩,⟨⟨s 25,b .neq (t 24) (v (i I 0)),s (23,U)⟩,15,0,T⟩,⟨⟨s 26,p (t 23) (v (w T)) (t 25),o⟩,31,0,T⟩,⟨⟨s 27,m (t 26),o⟩,63,0,T⟩,⟨⟨s 28,m (t 2),s (27,U)⟩,127,0,T⟩,⟨⟨s 29,n (t 28),s (27,U)⟩,255,0,T⟩,⟨⟨s 30,b .neq (t 29) (v (i I 1)),s (27,U)⟩,511,0,T⟩,⟨⟨s 31,p (t 27) (v (w T)) (t 30),o⟩,1023,0,T⟩,⟨⟨s 32,m (t 31),o⟩,2047,0,T⟩,⟨⟨s 33,m (t 2),s (32,U)⟩,4095,0,T⟩,⟨⟨s 34,a 1 (t 33) (v (i I 0)),s (32,U)⟩,8191,0,T⟩,⟨⟨s 35,l o (t 34),s (32,U)⟩,16383,1,T⟩,⟨⟨s 36,.buildSlice 3 1 1 [(i I 0)] [(0,1,(v (i I 2)))],s (32,U)⟩,4095,3,T⟩,⟨⟨s 37,C (v (F (J 48) [] [])) [(v (i I 16)),t 36],s (32,U)⟩,36863,2,U⟩,⟨⟨s 38,a 1 (t 37) (v (i I 0)),s (32,U)⟩,102399,0,U⟩,⟨⟨s 39,l o (t 38),s (32,U)⟩,233471,1,U⟩,⟨⟨s 40,C (v (F (J 17) [] [])) [t 35,t 39],s (32,U)⟩,524287,2,U⟩,⟨⟨s 41,.un .not (t 40),s (32,U)⟩,1048575,0,U⟩,⟨⟨s 42,p (t 32) (v (w T)) (t 41),o⟩,2097151,0,U⟩,⟨⟨s 43,m (t 42),o⟩,4194303,0,U⟩,⟨⟨s 44,m (t 4),s (43,U)⟩,8388607,0,U⟩,⟨⟨s 45,b .neq (t 44) (v (i I 2)),s (43,U)⟩,16777215,0,U⟩,⟨⟨s 46,p (t 43) (v (w T)) (t 45),o⟩,33554431,0,U⟩]) (c (t 46) (q (g [⟨s 0,m (v (w U)),o⟩]) R) k)) (q (g [⟨s 47,f 2 (t 1),o⟩,⟨s 48,l o (t 47),o⟩,⟨s 49,a 1 (t 48) (v (i I 23)),o⟩,⟨o,S 1 (t 49) (v (i .u8 1)),o⟩]) (q (g [⟨s 51,l (s 3) (t 1),o⟩,⟨s 52,C (v (F (J 18) [] [])) [t 51],o⟩,⟨s 50,m (t 52),o⟩,⟨s 53,e (t 50) 0,o⟩,⟨s 54,e (t 50) 1,o⟩,⟨s 2,m (t 53),o⟩,⟨s 3,m (t 54),o⟩]) (q (g [⟨s 55,m (t 3),o⟩,⟨s 56,b .eql (t 55) (v (i I 0)),o⟩,⟨s 57,m (t 56),o⟩,⟨s 58,m (t 2),s (57,T)⟩,⟨s 59,n (t 58),s (57,T)⟩,⟨s 60,b .eql (t 59) (v (i I 1)),s (57,T)⟩,⟨s 61,p (t 57) (t 60) (v (w U)),o⟩,⟨s 62,m (t 61),o⟩,⟨s 63,m (t 2),s (62,T)⟩,⟨s 64,a 1 (t 63) (v (i I 0)),s (62,T)⟩,⟨s 65,l o (t 64),s (62,T)⟩,⟨s 66,a 1 (t 65) (v (i I 7)),s (62,T)⟩,⟨s 67,l o (t 66),s (62,T)⟩,⟨s 68,b .eql (t 67) (v (i I 1)),s (62,T)⟩,⟨s 69,p (t 62) (t 68) (v (w U)),o⟩,⟨s 70,m (t 69),o⟩,⟨s 71,.buildSlice 3 1 5 [(i I 0),(i I 0),(i I 0),(i I 0),(i I 0)] [(0,1,(v (i I 4))),(1,1,(v (i I 10))),(2,1,(v (i I 16))),(3,1,(v (i I 22))),(4,1,(v (i I 28)))],s (70,T)⟩,⟨s 72,C (v (F (J 48) [] [])) [(v (i I 3)),t 71],s (70,T)⟩,⟨s 73,C (v (F (J 27) [] [])) [t 72],s (70,T)⟩,⟨s 74,n (t 73),s (70,T)⟩,⟨s 75,b .eql (t 74) (v (i I 1)),s (70,T)⟩,⟨s 76,p (t 70) (t 75) (v (w U)),o⟩,⟨s 77,m (t 76),o⟩,⟨s 78,.buildSlice 3 1 5 [(i I 0),(i I 0),(i I 0),(i I 0),(i I 0)] [(0,1,(v (i I 4))),(1,1,(v (i I 10))),(2,1,(v (i I 16))),(3,1,(v (i I 22))),(4,1,(v (i I 31)))],s (77,T)⟩,⟨s 79,C (v (F (J 48) [] [])) [(v (i I 3)),t 78],s (77,T)⟩,⟨s 80,C (v (F (J 27) [] [])) [t 79],s (77,T)⟩,⟨s 81,n (t 80),s (77,T)⟩,⟨s 82,b .eql (t 81) (v (i I 0)),s (77,T)⟩,⟨s 83,p (t 77) (t 82) (v (w U)),o⟩,⟨s 0,m (t 83),o⟩]) R)))))))),[.tmp 0]⟩
def c14 : RFunc := ⟨8,.code (q (g [⟨s 2,m (v N),o⟩]) (q (q (g [⟨s 3,m (t 0),o⟩,⟨s 4,.eq U .slice (t 3) (v N),o⟩]) (c (t 4) (q (g [⟨s 2,m (v N),o⟩]) R) k)) (q (g [⟨s 5,.buildSlice 3 1 0 [] [],o⟩,⟨s 6,m (t 0),o⟩,⟨s 7,.append 3 1 8 (t 5) (t 6),o⟩,⟨s 2,m (t 7),o⟩]) R))),[.tmp 2]⟩
def c15 : RFunc := ⟨45,.code (q (g [⟨s 2,.box 24 (t 0),o⟩,⟨s 4,m (v (i I 0)),o⟩,⟨s 5,m (v (i I 0)),o⟩]) (q (q (g [⟨s 10,l (s 3) (t 2),o⟩,⟨s 11,C (v (F (J 50) [] [])) [t 10],o⟩,⟨s 6,m (t 11),o⟩]) (q (g [⟨s 12,m (t 6),o⟩,⟨s 13,b .neq (t 12) (v (i I 0)),o⟩]) (c (t 13) (q (g [⟨s 14,m (t 6),o⟩,⟨s 4,m (v (i I 0)),o⟩,⟨s 5,m (t 14),o⟩]) R) k))) (q (q (g [⟨s 15,l (s 3) (t 2),o⟩,⟨s 16,m (t 1),o⟩,⟨s 17,C (v (F (J 51) [] [])) [t 15,t 16],o⟩,⟨s 18,.un .not (t 17),o⟩]) (c (t 18) (q (g [⟨s 4,m (v (i I 0)),o⟩,⟨s 5,m (v (i I 1)),o⟩]) R) k)) (q (g [⟨s 7,m (v (i I 0)),o⟩]) (q (q (g [⟨s 19,m (t 1),o⟩,⟨s 20,n (t 19),o⟩,⟨s 21,m (v (i I 0)),o⟩]) (B 0 (L (q (g [⟨s 22,b .lss (t 21) (t 20),o⟩]) (q (c (t 22) k (x 0)) (q (B 1 (q (g [⟨s 23,m (t 21),o⟩,⟨s 24,a 1 (t 19) (t 21),o⟩,⟨s 25,l o (t 24),o⟩,⟨s 8,m (t 23),o⟩,⟨s 9,m (t 25),o⟩]) (q (g [⟨s 26,m (t 7),o⟩,⟨s 27,l (s 3) (t 2),o⟩,⟨s 28,m (t 8),o⟩,⟨s 29,m (t 9),o⟩,⟨s 30,C (v (F (J 52) [] [])) [t 27,t 28,t 29],o⟩,⟨s 31,b .add (t 26) (t 30),o⟩,⟨s 7,m (t 31),o⟩]) (q (g [⟨s 32,m (t 8),o⟩,⟨s 33,b .gtr (t 32) (v (i I 0)),o⟩]) (c (t 33) (g [⟨s 34,m (t 7),o⟩,⟨s 35,m (t 1),o⟩,⟨s 36,m (t 8),o⟩,⟨s 37,b .sub (t 36) (v (i I 1)),o⟩,⟨s 38,a 1 (t 35) (t 37),o⟩,⟨s 39,l o (t 38),o⟩,⟨s 40,m (t 9),o⟩,⟨s 41,C (v (F (J 53) [] [])) [t 39,t 40],o⟩,⟨s 42,b .add (t 34) (t 41),o⟩,⟨s 7,m (t 42),o⟩]) k))))) (g [⟨s 43,b .add (t 21) (v (i I 1)),o⟩,⟨s 21,m (t 43),o⟩]))))))) (q (g [⟨s 44,m (t 7),o⟩,⟨s 4,m (t 44),o⟩,⟨s 5,m (v (i I 0)),o⟩]) R)))))),[.tmp 4,.tmp 5]⟩
def c17 : RFunc := ⟨26,.code (q (g [⟨s 4,m (v (w U)),o⟩]) (q (q (g [⟨s 6,m (t 0),o⟩,⟨s 7,n (t 6),o⟩,⟨s 8,m (t 1),o⟩,⟨s 9,n (t 8),o⟩,⟨s 10,b .neq (t 7) (t 9),o⟩]) (c (t 10) (q (g [⟨s 4,m (v (w U)),o⟩]) R) k)) (q (q (g [⟨s 11,m (t 0),o⟩,⟨s 12,n (t 11),o⟩,⟨s 13,m (v (i I 0)),o⟩]) (B 0 (L (q (g [⟨s 14,b .lss (t 13) (t 12),o⟩]) (q (c (t 14) k (x 0)) (q (B 1 (q (g [⟨s 15,m (t 13),o⟩,⟨s 5,m (t 15),o⟩]) (q (G [⟨⟨s 16,m (t 0),o⟩,0,0,T⟩,⟨⟨s 17,m (t 5),o⟩,0,0,T⟩,⟨⟨s 18,a 1 (t 16) (t 17),o⟩,3,0,T⟩,⟨⟨s 19,l o (t 18),o⟩,7,1,T⟩,⟨⟨s 20,m (t 1),o⟩,0,0,T⟩,⟨⟨s 21,m (t 5),o⟩,0,0,T⟩,⟨⟨s 22,a 1 (t 20) (t 21),o⟩,48,0,T⟩,⟨⟨s 23,l o (t 22),o⟩,112,1,T⟩,⟨⟨s 24,b .neq (t 19) (t 23),o⟩,255,0,T⟩]) (c (t 24) (q (g [⟨s 4,m (v (w U)),o⟩]) R) k)))) (g [⟨s 25,b .add (t 13) (v (i I 1)),o⟩,⟨s 13,m (t 25),o⟩]))))))) (q (g [⟨s 4,m (v (w T)),o⟩]) R)))),[.tmp 4]⟩
def c18 : RFunc := ⟨42,.code (q (g [⟨s 1,.box 24 (t 0),o⟩,⟨s 2,m (v N),o⟩,⟨s 3,m (v (i I 0)),o⟩]) (q (q (g [⟨s 8,l (s 3) (t 1),o⟩,⟨s 9,C (v (F (J 50) [] [])) [t 8],o⟩,⟨s 4,m (t 9),o⟩]) (q (g [⟨s 10,m (t 4),o⟩,⟨s 11,b .neq (t 10) (v (i I 0)),o⟩]) (c (t 11) (q (g [⟨s 12,m (t 4),o⟩,⟨s 2,m (v N),o⟩,⟨s 3,m (t 12),o⟩]) R) k))) (q (q (g [⟨s 13,f 2 (t 1),o⟩,⟨s 14,l o (t 13),o⟩,⟨s 15,n (t 14),o⟩,⟨s 16,b .eql (t 15) (v (i I 0)),o⟩]) (c (t 16) (q (g [⟨s 2,m (v N),o⟩,⟨s 3,m (v (i I 0)),o⟩]) R) k)) (q (g [⟨s 17,l (s 3) (t 1),o⟩,⟨s 18,C (v (F (J 56) [] [])) [t 17],o⟩,⟨s 5,.new 83 [(i I 0),(i I 0),N,N],o⟩,⟨o,S 4 (t 5) (t 18),o⟩]) (q (g [⟨s 6,m (v N),o⟩]) (q (B 0 (L (q (q (G [⟨⟨s 19,m (t 6),o⟩,0,0,T⟩,⟨⟨s 20,n (t 19),o⟩,1,0,T⟩,⟨⟨s 21,b .lss (t 20) (v (i I 60)),o⟩,3,0,T⟩,⟨⟨s 22,m (t 21),o⟩,7,0,T⟩,⟨⟨s 23,l (s 4) (t 5),s (22,T)⟩,15,1,T⟩,⟨⟨s 24,C (v (F (J 57) [] [])) [t 23],s (22,T)⟩,31,2,U⟩,⟨⟨s 25,b .mul (v (i I 8)) (t 24),s (22,T)⟩,63,0,U⟩,⟨⟨s 26,f 0 (t 5),s (22,T)⟩,15,0,T⟩,⟨⟨s 27,l o (t 26),s (22,T)⟩,143,1,T⟩,⟨⟨s 28,b .leq (t 25) (t 27),s (22,T)⟩,511,0,U⟩,⟨⟨s 29,p (t 22) (t 28) (v (w U)),o⟩,1023,0,U⟩]) (c (t 29) k (x 0))) (B 1 (q (g [⟨s 30,l (s 4) (t 5),o⟩,⟨s 31,C (v (F (J 58) [] [])) [t 30],o⟩,⟨s 7,m (t 31),o⟩]) (q (g [⟨s 32,l (s 4) (t 5),o⟩,⟨s 33,m (t 7),o⟩,⟨s 34,C (v (F (J 59) [] [])) [t 32,t 33],o⟩]) (g [⟨s 35,m (t 6),o⟩,⟨s 36,m (t 7),o⟩,⟨s 37,.buildSlice 25 1 1 [N] [(0,1,(t 36))],o⟩,⟨s 38,.append 25 1 24 (t 35) (t 37),o⟩,⟨s 6,m (t 38),o⟩]))))))) (q (g [⟨s 39,m (t 6),o⟩,⟨s 40,C (v (F (J 60) [] [])) [t 39,(v (F (J 61) [] []))],o⟩]) (q (g [⟨s 41,m (t 6),o⟩,⟨s 2,m (t 41),o⟩,⟨s 3,m (v (i I 0)),o⟩]) R)))))))),[.tmp 2,.tmp 3]⟩
def c21 : RFunc := ⟨27,.code (q (g [⟨s 4,m (v (w U)),o⟩]) (q (q (g [⟨s 6,m (t 0),o⟩,⟨s 7,n (t 6),o⟩,⟨s 8,m (t 1),o⟩,⟨s 9,n (t 8),o⟩,⟨s 10,b .neq (t 7) (t 9),o⟩]) (c (t 10) (q (g [⟨s 4,m (v (w U)),o⟩]) R) k)) (q (q (g [⟨s 5,m (v (i I 0)),o⟩]) (B 0 (L (q (q (g [⟨s 11,m (t 5),o⟩,⟨s 12,m (t 0),o⟩,⟨s 13,n (t 12),o⟩,⟨s 14,b .lss (t 11) (t 13),o⟩]) (c (t 14) k (x 0))) (q (B 1 (q (G [⟨⟨s 17,m (t 0),o⟩,0,0,T⟩,⟨⟨s 18,m (t 5),o⟩,0,0,T⟩,⟨⟨s 19,a 1 (t 17) (t 18),o⟩,3,0,T⟩,⟨⟨s 20,l o (t 19),o⟩,7,1,T⟩,⟨⟨s 21,m (t 1),o⟩,0,0,T⟩,⟨⟨s 22,m (t 5),o⟩,0,0,T⟩,⟨⟨s 23,a 1 (t 21) (t 22),o⟩,48,0,T⟩,⟨⟨s 24,l o (t 23),o⟩,112,1,T⟩,⟨⟨s 25,C (v (F (J 65) [] [])) [t 20,t 24],o⟩,255,2,U⟩,⟨⟨s 26,.un .not (t 25),o⟩,511,0,U⟩]) (c (t 26) (q (g [⟨s 4,m (v (w U)),o⟩]) R) k))) (g [⟨s 15,m (t 5),o⟩,⟨s 16,b .add (t 15) (v (i I 1)),o⟩,⟨s 5,m (t 16),o⟩])))))) (q (g [⟨s 4,m (v (w T)),o⟩]) R)))),[.tmp 4]⟩
def c27 : RFunc := ⟨23,.code (q (g [⟨s 2,m (v N),o⟩]) (.scope (q (g [⟨s 3,m (v N),o⟩]) (q .label (q (B 0 (L (B 1 (B 2 (q (g [⟨s 7,m (t 0),o⟩,⟨s 8,n (t 7),o⟩,⟨s 9,b .lss (t 8) (v (i I 5)),o⟩,⟨s 6,m (t 9),o⟩]) (c (t 6) (x 0) (q (g [⟨s 11,m (t 0),o⟩,⟨s 12,.sliceS 1 (t 11) o (s (v (i I 5))) o,o⟩,⟨s 13,C (v (F (J 72) [] [])) [t 12],o⟩,⟨s 10,m (t 13),o⟩]) (c (t 10) (q (g [⟨s 14,m (t 3),o⟩,⟨s 15,m (t 0),o⟩,⟨s 16,.sliceS 1 (t 15) o (s (v (i I 5))) o,o⟩,⟨s 17,C (v (F (J 73) [] [])) [t 16],o⟩,⟨s 18,.buildSlice 43 1 1 [N] [(0,1,(t 17))],o⟩,⟨s 19,.append 43 1 24 (t 14) (t 18),o⟩,⟨s 3,m (t 19),o⟩]) (g [⟨s 20,m (t 0),o⟩,⟨s 21,.sliceS 1 (t 20) (s (v (i I 5))) o o,o⟩,⟨s 0,m (t 21),o⟩])) (g [⟨s 4,m (t 0),o⟩,⟨s 5,.sliceS 1 (t 4) (s (v (i I 1))) o o,o⟩,⟨s 0,m (t 5),o⟩]))))))))) (q (g [⟨s 22,m (t 3),o⟩,⟨s 2,m (t 22),o⟩]) R)))))),[.tmp 2]⟩
def c28 : RFunc := ⟨27,.code (q (g [⟨s 4,m (v (w U)),o⟩]) (q (q (g [⟨s 6,m (t 0),o⟩,⟨s 7,n (t 6),o⟩,⟨s 8,m (t 1),o⟩,⟨s 9,n (t 8),o⟩,⟨s 10,b .neq (t 7) (t 9),o⟩]) (c (t 10) (q (g [⟨s 4,m (v (w U)),o⟩]) R) k)) (q (q (g [⟨s 5,m (v (i I 0)),o⟩]) (B 0 (L (q (q (g [⟨s 11,m (t 5),o⟩,⟨s 12,m (t 0),o⟩,⟨s 13,n (t 12),o⟩,⟨s 14,b .lss (t 11) (t 13),o⟩]) (c (t 14) k (x 0))) (q (B 1 (q (G [⟨⟨s 17,m (t 0),o⟩,0,0,T⟩,⟨⟨s 18,m (t 5),o⟩,0,0,T⟩,⟨⟨s 19,a 1 (t 17) (t 18),o⟩,3,0,T⟩,⟨⟨s 20,l (s 1) (t 19),o⟩,7,1,T⟩,⟨⟨s 21,m (t 1),o⟩,0,0,T⟩,⟨⟨s 22,m (t 5),o⟩,0,0,T⟩,⟨⟨s 23,a 1 (t 21) (t 22),o⟩,48,0,T⟩,⟨⟨s 24,l (s 1) (t 23),o⟩,112,1,T⟩,⟨⟨s 25,C (v (F (J 33) [] [])) [t 20,t 24],o⟩,255,2,U⟩,⟨⟨s 26,.un .not (t 25),o⟩,511,0,U⟩]) (c (t 26) (q (g [⟨s 4,m (v (w U)),o⟩]) R) k))) (g [⟨s 15,m (t 5),o⟩,⟨s 16,b .add (t 15) (v (i I 1)),o⟩,⟨s 5,m (t 16),o⟩])))))) (q (g [⟨s 4,m (v (w T)),o⟩]) R)))),[.tmp 4]⟩
def c31 : RFunc := ⟨15,.code (q (g [⟨s 2,.box 24 (t 0),o⟩,⟨s 3,.box 43 (t 1),o⟩,⟨s 4,m (v (i I 0)),o⟩]) (q (q (g [⟨s 6,l (s 3) (t 2),o⟩,⟨s 7,C (v (F (J 50) [] [])) [t 6],o⟩,⟨s 5,m (t 7),o⟩]) (q (g [⟨s 8,m (t 5),o⟩,⟨s 9,b .neq (t 8) (v (i I 0)),o⟩]) (c (t 9) (q (g [⟨s 10,m (t 5),o⟩,⟨s 4,m (t 10),o⟩]) R) k))) (q (q (g [⟨s 11,l (s 3) (t 2),o⟩,⟨s 12,l (s 1) (t 3),o⟩,⟨s 13,C (v (F (J 75) [] [])) [t 11,t 12],o⟩,⟨s 14,.un .not (t 13),o⟩]) (c (t 14) (q (g [⟨s 4,m (v (i I 10)),o⟩]) R) k)) (q (g [⟨s 4,m (v (i I 0)),o⟩]) R)))),[.tmp 4]⟩
def c33 : RFunc := ⟨10,.code (q (g [⟨s 2,.box 43 (t 0),o⟩,⟨s 3,.box 43 (t 1),o⟩,⟨s 4,m (v (w U)),o⟩]) (q (g [⟨s 5,f 0 (t 2),o⟩,⟨s 6,l o (t 5),o⟩,⟨s 7,f 0 (t 3),o⟩,⟨s 8,l o (t 7),o⟩,⟨s 9,C (v (F (J 21) [] [])) [t 6,t 8],o⟩,⟨s 4,m (t 9),o⟩]) R)),[.tmp 4]⟩
def c35 : RFunc := ⟨152,.code (q (g [⟨s 6,.new 24 [(i I 0),(i I 0),N],o⟩,⟨s 7,m (v N),o⟩]) (q (g [⟨s 26,m (t 0),o⟩,⟨s 27,b .rem (t 26) (v (i .u8 120)),o⟩,⟨s 28,.convInt I (t 27),o⟩,⟨s 29,b .add (v (i I 40)) (t 28),o⟩,⟨s 8,m (t 29),o⟩]) (q (g [⟨s 30,m (t 8),o⟩,⟨s 31,.makeSlice 3 [(i I 0)] 8 (t 30) (t 30),o⟩,⟨s 9,m (t 31),o⟩]) (q (g [⟨s 10,m (v (i I 0)),o⟩,⟨s 11,m (v (i I 0)),o⟩]) (q (q (g [⟨s 32,m (t 2),o⟩,⟨s 33,m (t 2),o⟩,⟨s 34,n (t 33),o⟩,⟨s 35,.minmax U [t 34,(v (i I 14))],o⟩,⟨s 36,.sliceS 1 (t 32) o (s (t 35)) o,o⟩,⟨s 37,n (t 36),o⟩,⟨s 38,m (v (i I 0)),o⟩]) (B 0 (L (q (g [⟨s 39,b .lss (t 38) (t 37),o⟩]) (q (c (t 39) k (x 0)) (q (B 1 (q (g [⟨s 40,a 1 (t 36) (t 38),o⟩,⟨s 41,l o (t 40),o⟩,⟨s 13,m (t 41),o⟩]) (q (g [⟨s 42,m (t 11),o⟩,⟨s 43,m (t 13),o⟩,⟨s 44,b .rem (t 43) (v (i .u8 16)),o⟩,⟨s 45,.convInt I (t 44),o⟩,⟨s 46,b .add (v (i I 8)) (t 45),o⟩,⟨s 47,b .add (t 42) (t 46),o⟩,⟨s 11,m (t 47),o⟩]) (q (q (g [⟨s 48,m (t 11),o⟩,⟨s 49,m (t 8),o⟩,⟨s 50,b .geq (t 48) (t 49),o⟩]) (c (t 50) (x 0) k)) (q (g [⟨s 51,m (t 10),o⟩,⟨s 52,m (t 13),o⟩,⟨s 53,b .quo (t 52) (v (i .u8 16)),o⟩,⟨s 54,b .rem (t 53) (v (i .u8 3)),o⟩,⟨s 55,.convInt I (t 54),o⟩,⟨s 56,b .sub (t 55) (v (i I 1)),o⟩,⟨s 57,b .add (t 51) (t 56),o⟩,⟨s 10,m (t 57),o⟩]) (q (g [⟨s 58,m (t 11),o⟩,⟨s 14,m (t 58),o⟩]) (B 2 (L (q (q (g [⟨s 59,m (t 14),o⟩,⟨s 60,m (t 8),o⟩,⟨s 61,b .lss (t 59) (t 60),o⟩]) (c (t 61) k (x 2))) (q (B 3 (g [⟨s 64,m (t 9),o⟩,⟨s 65,m (t 14),o⟩,⟨s 66,m (t 10),o⟩,⟨s 67,a 1 (t 64) (t 65),o⟩,⟨o,S 1 (t 67) (t 66),o⟩])) (g [⟨s 62,m (t 14),o⟩,⟨s 63,b .add (t 62) (v (i I 1)),o⟩,⟨s 14,m (t 63),o⟩]))))))))))) (g [⟨s 68,b .add (t 38) (v (i I 1)),o⟩,⟨s 38,m (t 68),o⟩]))))))) (q (g [⟨s 69,m (t 9),o⟩,⟨s 70,C (v (F (J 79) [] [])) [t 69],o⟩,⟨s 71,m (t 9),o⟩,⟨s 72,C (v (F (J 80) [] [])) [t 71],o⟩,⟨s 15,m (t 70),o⟩,⟨s 16,m (t 72),o⟩]) (q (g [⟨s 73,m (t 1),o⟩,⟨s 74,b .rem (t 73) (v (i .u8 3)),o⟩,⟨s 75,.convInt I (t 74),o⟩,⟨s 76,b .add (v (i I 1)) (t 75),o⟩,⟨s 17,m (t 76),o⟩]) (q (g [⟨s 77,m (t 16),o⟩,⟨s 78,m (t 15),o⟩,⟨s 79,b .sub (t 77) (t 78),o⟩,⟨s 80,b .add (v (i I 5)) (t 79),o⟩,⟨s 81,m (t 17),o⟩,⟨s 82,b .mul (t 81) (v (i I 24)),o⟩,⟨s 83,b .add (t 80) (t 82),o⟩,⟨s 84,m (t 17),o⟩,⟨s 85,b .sub (t 84) (v (i I 1)),o⟩,⟨s 86,b .mul (t 85) (v (i I 12)),o⟩,⟨s 87,b .add (t 83) (t 86),o⟩,⟨s 88,b .add (t 87) (v (i I 6)),o⟩,⟨s 18,m (t 88),o⟩]) (q (g [⟨s 89,m (t 8),o⟩,⟨s 90,m (t 18),o⟩,⟨s 91,m (t 8),o⟩,⟨s 92,m (t 18),o⟩,⟨s 93,b .mul (t 91) (t 92),o⟩,⟨s 94,.makeSlice 5 [(i .u8 0)] 1 (t 93) (t 93),o⟩,⟨s 95,.build [(i I 0),(i I 0),N] [(0,1,(t 89)),(1,1,(t 90)),(2,1,(t 94))],o⟩,⟨s 19,.new 24 [(i I 0),(i I 0),N],o⟩,⟨o,S 3 (t 19) (t 95),o⟩]) (q (g [⟨s 20,m (v N),o⟩]) (q (q (g [⟨s 96,m (t 17),o⟩,⟨s 97,m (v (i I 0)),o⟩]) (B 4 (L (q (g [⟨s 98,b .lss (t 97) (t 96),o⟩]) (q (c (t 98) k (x 4)) (q (B 5 (q (g [⟨s 99,m (t 97),o⟩,⟨s 21,m (t 99),o⟩]) (q (g [⟨s 22,.new 43 [N],o⟩]) (q (q (g [⟨s 100,m (v (i I 0)),o⟩]) (B 6 (L (q (g [⟨s 101,b .lss (t 100) (v (i I 5)),o⟩]) (q (c (t 101) k (x 6)) (q (B 7 (q (g [⟨s 102,m (t 100),o⟩,⟨s 23,m (t 102),o⟩]) (q (g [⟨s 103,m (t 8),o⟩,⟨s 104,.makeSlice 3 [(i I 0)] 8 (t 103) (t 103),o⟩,⟨s 24,m (t 104),o⟩]) (q (q (g [⟨s 105,m (t 24),o⟩,⟨s 106,n (t 105),o⟩,⟨s 107,m (v (i I 0)),o⟩]) (B 8 (L (q (g [⟨s 108,b .lss (t 107) (t 106),o⟩]) (q (c (t 108) k (x 8)) (q (B 9 (q (g [⟨s 109,m (t 107),o⟩,⟨s 25,m (t 109),o⟩]) (q (g [⟨s 110,m (t 24),o⟩,⟨s 111,m (t 25),o⟩,⟨s 112,m (t 15),o⟩,⟨s 113,b .sub (v (i I 5)) (t 112),o⟩,⟨s 114,m (t 21),o⟩,⟨s 115,b .mul (t 114) (v (i I 36)),o⟩,⟨s 116,b .add (t 113) (t 115),o⟩,⟨s 117,m (t 23),o⟩,⟨s 118,b .mul (v (i I 6)) (t 117),o⟩,⟨s 119,b .add (t 116) (t 118),o⟩,⟨s 120,m (t 9),o⟩,⟨s 121,m (t 25),o⟩,⟨s 122,a 1 (t 120) (t 121),o⟩,⟨s 123,l o (t 122),o⟩,⟨s 124,b .add (t 119) (t 123),o⟩,⟨s 125,a 1 (t 110) (t 111),o⟩,⟨o,S 1 (t 125) (t 124),o⟩]) (G [⟨⟨s 126,f 2 (t 19),o⟩,0,0,T⟩,⟨⟨s 127,l o (t 126),o⟩,1,1,T⟩,⟨⟨s 128,m (t 24),o⟩,0,0,T⟩,⟨⟨s 129,m (t 25),o⟩,0,0,T⟩,⟨⟨s 130,a 1 (t 128) (t 129),o⟩,12,0,T⟩,⟨⟨s 131,l o (t 130),o⟩,28,1,T⟩,⟨⟨s 132,m (t 8),o⟩,0,0,T⟩,⟨⟨s 133,b .mul (t 131) (t 132),o⟩,124,0,T⟩,⟨⟨s 134,m (t 25),o⟩,0,0,T⟩,⟨⟨s 135,b .add (t 133) (t 134),o⟩,508,0,T⟩,⟨⟨s 136,a 1 (t 127) (t 135),o⟩,1023,0,T⟩,⟨⟨o,S 1 (t 136) (v (i .u8 1)),o⟩,2047,2,U⟩])))) (g [⟨s 137,b .add (t 107) (v (i I 1)),o⟩,⟨s 107,m (t 137),o⟩]))))))) (g [⟨s 138,f 0 (t 22),o⟩,⟨s 139,l o (t 138),o⟩,⟨s 140,m (t 24),o⟩,⟨s 141,.buildSlice 25 1 1 [N] [(0,1,(t 140))],o⟩,⟨s 142,.append 25 1 24 (t 139) (t 141),o⟩,⟨s 143,f 0 (t 22),o⟩,⟨o,S 1 (t 143) (t 142),o⟩]))))) (g [⟨s 144,b .add (t 100) (v (i I 1)),o⟩,⟨s 100,m (t 144),o⟩]))))))) (g [⟨s 145,m (t 20),o⟩,⟨s 146,l (s 1) (t 22),o⟩,⟨s 147,.buildSlice 43 1 1 [N] [(0,1,(t 146))],o⟩,⟨s 148,.append 43 1 24 (t 145) (t 147),o⟩,⟨s 20,m (t 148),o⟩]))))) (g [⟨s 149,b .add (t 97) (v (i I 1)),o⟩,⟨s 97,m (t 149),o⟩]))))))) (q (g [⟨s 150,l (s 3) (t 19),o⟩,⟨s 151,m (t 20),o⟩,⟨o,S 3 (t 6) (t 150),o⟩,⟨s 7,m (t 151),o⟩]) R)))))))))))),[.cell 6 (some 3),.tmp 7]⟩
def c36 : RFunc := ⟨62,.ranges (q (g [⟨s 4,.box 24 (t 0),o⟩,⟨s 5,.box 43 (t 1),o⟩,⟨s 8,.new 24 [(i I 0),(i I 0),N],o⟩,⟨s 9,m (v (i I 0)),o⟩]) (q (q (g [⟨s 15,l (s 3) (t 4),o⟩,⟨s 16,l (s 1) (t 5),o⟩,⟨s 17,C (v (F (J 31) [] [])) [t 15,t 16],o⟩,⟨s 10,m (t 17),o⟩]) (q (g [⟨s 18,m (t 10),o⟩,⟨s 19,b .neq (t 18) (v (i I 0)),o⟩]) (c (t 19) (q (g [⟨s 20,.build [(i I 0),(i I 0),N] [],o⟩,⟨s 21,m (t 10),o⟩,⟨o,S 3 (t 8) (t 20),o⟩,⟨s 9,m (t 21),o⟩]) R) k))) (q (q (g [⟨s 22,m (t 2),o⟩,⟨s 23,b .lss (t 22) (v (i I 0)),o⟩,⟨s 24,m (t 23),o⟩,⟨s 25,m (t 3),s (24,U)⟩,⟨s 26,b .lss (t 25) (v (i I 0)),s (24,U)⟩,⟨s 27,p (t 24) (v (w T)) (t 26),o⟩]) (c (t 27) (q (g [⟨s 28,.build [(i I 0),(i I 0),N] [],o⟩,⟨o,S 3 (t 8) (t 28),o⟩,⟨s 9,m (v (i I 1)),o⟩]) R) k)) (q (g [⟨s 30,f 0 (t 4),o⟩,⟨s 31,l o (t 30),o⟩,⟨s 32,m (t 2),o⟩,⟨s 33,.minmax U [t 32,(v (i I 640))],o⟩,⟨s 34,m (t 3),o⟩,⟨s 35,.minmax U [t 34,(v (i I 640))],o⟩,⟨s 36,b .add (t 33) (t 35),o⟩,⟨s 37,b .add (t 36) (v (i I 1)),o⟩,⟨s 38,C (v (F (J 81) [] [])) [t 31,t 37],o⟩,⟨s 29,m (t 38),o⟩,⟨s 39,e (t 29) 0,o⟩,⟨s 40,e (t 29) 1,o⟩,⟨s 11,.new 24 [(i I 0),(i I 0),N],o⟩,⟨o,S 3 (t 11) (t 39),o⟩,⟨s 12,m (t 40),o⟩]) (q (q (g [⟨s 41,m (t 12),o⟩,⟨s 42,b .neq (t 41) (v (i I 0)),o⟩]) (c (t 42) (q (g [⟨s 43,.build [(i I 0),(i I 0),N] [],o⟩,⟨s 44,m (t 12),o⟩,⟨o,S 3 (t 8) (t 43),o⟩,⟨s 9,m (t 44),o⟩]) R) k)) (q (q (g [⟨s 45,l (s 3) (t 4),o⟩,⟨s 46,l (s 3) (t 11),o⟩,⟨s 47,l (s 1) (t 5),o⟩,⟨s 48,m (t 2),o⟩,⟨s 49,C (v (F (J 82) [] [])) [t 45,t 46,t 47,t 48],o⟩]) (B 0 (.rangeFunc [2,3,4,5,6,7,8,9,10,11,12,13,14,15,16,17,18,19,20,21,22,23,24,25,26,27,28,29,30,31,32,33,34,35,36,37,38,39,40,41,42,43,44,45,46,47,48,49,50,51,52,53,54,55,56,57,58,59,60,61,62,63,64,65,66,67,68,69,70,71,72,73,74,75,76,77,78,79,80,81,82,83,84,85,86,87,88,89,90,91,92,93,94,95,96,97,98,99,100,101,102,103,104,105,106,107,108,109,110,112,113,114,115,116,117,118,119,120,121,122,123,124,125,126,127,128,129,131,132,133,134,135,136,137,138,139,141,142] 62 (t 49) [50,51] (q (g [⟨s 13,m (t 50),o⟩]) (g [⟨s 14,m (t 51),o⟩])) (B 1 (G [⟨⟨s 52,f 2 (t 11),o⟩,0,0,T⟩,⟨⟨s 53,l o (t 52),o⟩,1,1,T⟩,⟨⟨s 54,m (t 14),o⟩,0,0,T⟩,⟨⟨s 55,f 2 (t 4),o⟩,0,0,T⟩,⟨⟨s 56,l o (t 55),o⟩,8,1,T⟩,⟨⟨s 57,m (t 13),o⟩,0,0,T⟩,⟨⟨s 58,a 1 (t 56) (t 57),o⟩,56,0,T⟩,⟨⟨s 59,l o (t 58),o⟩,120,1,T⟩,⟨⟨s 60,a 1 (t 53) (t 54),o⟩,255,0,T⟩,⟨⟨o,S 1 (t 60) (t 59),o⟩,511,2,U⟩]))))) (q (g [⟨s 61,l (s 3) (t 11),o⟩,⟨o,S 3 (t 8) (t 61),o⟩,⟨s 9,m (v (i I 0)),o⟩]) R))))))),[.cell 8 (some 3),.tmp 9]⟩
def c37 : RFunc := ⟨54,.code (q (g [⟨s 1,.box 24 (t 0),o⟩,⟨s 2,m (v N),o⟩,⟨s 3,m (v N),o⟩,⟨s 4,m (v (i I 0)),o⟩]) (q (q (g [⟨s 9,l (s 3) (t 1),o⟩,⟨s 10,C (v (F (J 50) [] [])) [t 9],o⟩,⟨s 5,m (t 10),o⟩]) (q (g [⟨s 11,m (t 5),o⟩,⟨s 12,b .neq (t 11) (v (i I 0)),o⟩]) (c (t 12) (q (g [⟨s 13,m (t 5),o⟩,⟨s 2,m (v N),o⟩,⟨s 3,m (v N),o⟩,⟨s 4,m (t 13),o⟩]) R) k))) (q (G [⟨⟨s 14,f 1 (t 1),o⟩,0,0,T⟩,⟨⟨s 15,l o (t 14),o⟩,1,1,T⟩,⟨⟨s 16,.makeSlice 3 [(i I 0)] 8 (t 15) (t 15),o⟩,3,3,T⟩,⟨⟨s 17,f 0 (t 1),o⟩,0,0,T⟩,⟨⟨s 18,l o (t 17),o⟩,8,1,T⟩,⟨⟨s 19,.makeSlice 3 [(i I 0)] 8 (t 18) (t 18),o⟩,24,3,T⟩,⟨⟨s 2,m (t 16),o⟩,7,0,T⟩,⟨⟨s 3,m (t 19),o⟩,127,0,T⟩]) (q (q (g [⟨s 20,f 1 (t 1),o⟩,⟨s 21,l o (t 20),o⟩,⟨s 22,m (v (i I 0)),o⟩]) (B 0 (L (q (g [⟨s 23,b .lss (t 22) (t 21),o⟩]) (q (c (t 23) k (x 0)) (q (B 1 (q (g [⟨s 24,m (t 22),o⟩,⟨s 6,m (t 24),o⟩]) (q (g [⟨s 25,l (s 3) (t 1),o⟩,⟨s 26,m (t 6),o⟩,⟨s 27,C (v (F (J 83) [] [])) [t 25,t 26],o⟩,⟨s 28,n (t 27),o⟩,⟨s 29,m (v (i I 0)),o⟩]) (B 2 (L (q (g [⟨s 30,b .lss (t 29) (t 28),o⟩]) (q (c (t 30) k (x 2)) (q (B 3 (q (g [⟨s 31,m (t 29),o⟩,⟨s 32,a 1 (t 27) (t 29),o⟩,⟨s 33,l o (t 32),o⟩,⟨s 7,m (t 31),o⟩,⟨s 8,m (t 33),o⟩]) (q (g [⟨s 34,m (t 2),o⟩,⟨s 35,m (t 6),o⟩,⟨s 36,a 1 (t 34) (t 35),o⟩,⟨s 37,l o (t 36),o⟩,⟨s 38,m (t 8),o⟩,⟨s 39,.convInt I (t 38),o⟩,⟨s 40,b .add (t 37) (t 39),o⟩,⟨s 41,a 1 (t 34) (t 35),o⟩,⟨o,S 1 (t 41) (t 40),o⟩]) (g [⟨s 42,m (t 3),o⟩,⟨s 43,m (t 7),o⟩,⟨s 44,a 1 (t 42) (t 43),o⟩,⟨s 45,l o (t 44),o⟩,⟨s 46,m (t 8),o⟩,⟨s 47,.convInt I (t 46),o⟩,⟨s 48,b .add (t 45) (t 47),o⟩,⟨s 49,a 1 (t 42) (t 43),o⟩,⟨o,S 1 (t 49) (t 48),o⟩])))) (g [⟨s 50,b .add (t 29) (v (i I 1)),o⟩,⟨s 29,m (t 50),o⟩]))))))))) (g [⟨s 51,b .add (t 22) (v (i I 1)),o⟩,⟨s 22,m (t 51),o⟩]))))))) (q (g [⟨s 52,m (t 2),o⟩,⟨s 53,m (t 3),o⟩,⟨s 2,m (t 52),o⟩,⟨s 3,m (t 53),o⟩,⟨s 4,m (v (i I 0)),o⟩]) R))))),[.tmp 2,.tmp 3,.tmp 4]⟩
def c38 : RFunc := ⟨53,.code (q (g [⟨s 3,.box 24 (t 0),o⟩,⟨s 6,.new 24 [(i I 0),(i I 0),N],o⟩,⟨s 7,m (v (i I 0)),o⟩]) (q (g [⟨s 15,l (s 3) (t 3),o⟩,⟨s 16,m (t 1),o⟩,⟨s 17,m (t 2),o⟩,⟨s 18,C (v (F (J 84) [] [])) [t 15,t 16,t 17],o⟩,⟨s 14,m (t 18),o⟩,⟨s 19,e (t 14) 0,o⟩,⟨s 20,e (t 14) 1,o⟩,⟨s 8,m (t 19),o⟩,⟨s 9,m (t 20),o⟩]) (q (q (g [⟨s 21,m (t 9),o⟩,⟨s 22,b .neq (t 21) (v (i I 0)),o⟩]) (c (t 22) (q (g [⟨s 23,.build [(i I 0),(i I 0),N] [],o⟩,⟨s 24,m (t 9),o⟩,⟨o,S 3 (t 6) (t 23),o⟩,⟨s 7,m (t 24),o⟩]) R) k)) (q (g [⟨s 25,l (s 3) (t 3),o⟩,⟨s 26,C (v (F (J 85) [] [])) [t 25],o⟩,⟨s 10,.new 24 [(i I 0),(i I 0),N],o⟩,⟨o,S 3 (t 10) (t 26),o⟩]) (q (q (g [⟨s 27,m (t 8),o⟩,⟨s 28,n (t 27),o⟩,⟨s 29,m (v (i I 0)),o⟩]) (B 0 (L (q (g [⟨s 30,b .lss (t 29) (t 28),o⟩]) (q (c (t 30) k (x 0)) (q (B 1 (q (g [⟨s 31,a 3 (t 27) (t 29),o⟩,⟨s 32,l (s 3) (t 31),o⟩,⟨s 12,.new 110 [(i I 0),(i I 0),(i I 0)],o⟩,⟨o,S 3 (t 12) (t 32),o⟩]) (q (g [⟨s 33,f 1 (t 12),o⟩,⟨s 34,l o (t 33),o⟩,⟨s 13,m (t 34),o⟩]) (B 2 (L (q (q (g [⟨s 35,m (t 13),o⟩,⟨s 36,f 2 (t 12),o⟩,⟨s 37,l o (t 36),o⟩,⟨s 38,b .leq (t 35) (t 37),o⟩]) (c (t 38) k (x 2))) (q (B 3 (g [⟨s 41,f 2 (t 10),o⟩,⟨s 42,l o (t 41),o⟩,⟨s 43,m (t 13),o⟩,⟨s 44,f 0 (t 10),o⟩,⟨s 45,l o (t 44),o⟩,⟨s 46,b .mul (t 43) (t 45),o⟩,⟨s 47,f 0 (t 12),o⟩,⟨s 48,l o (t 47),o⟩,⟨s 49,b .add (t 46) (t 48),o⟩,⟨s 50,a 1 (t 42) (t 49),o⟩,⟨o,S 1 (t 50) (v (i .u8 0)),o⟩])) (g [⟨s 39,m (t 13),o⟩,⟨s 40,b .add (t 39) (v (i I 1)),o⟩,⟨s 13,m (t 40),o⟩])))))))) (g [⟨s 51,b .add (t 29) (v (i I 1)),o⟩,⟨s 29,m (t 51),o⟩]))))))) (q (g [⟨s 52,l (s 3) (t 10),o⟩,⟨o,S 3 (t 6) (t 52),o⟩,⟨s 7,m (v (i I 0)),o⟩]) R)))))),[.cell 6 (some 3),.tmp 7]⟩
def c39 : RFunc := ⟨12,.code (q (g [⟨s 1,.box 24 (t 0),o⟩,⟨s 2,m (v (i I 0)),o⟩,⟨s 3,m (v (i I 0)),o⟩]) (q (q (g [⟨s 5,l (s 3) (t 1),o⟩,⟨s 6,C (v (F (J 50) [] [])) [t 5],o⟩,⟨s 4,m (t 6),o⟩]) (q (g [⟨s 7,m (t 4),o⟩,⟨s 8,b .neq (t 7) (v (i I 0)),o⟩]) (c (t 8) (q (g [⟨s 9,m (t 4),o⟩,⟨s 2,m (v (i I 0)),o⟩,⟨s 3,m (t 9),o⟩]) R) k))) (q (g [⟨s 10,l (s 3) (t 1),o⟩,⟨s 11,C (v (F (J 86) [] [])) [t 10],o⟩,⟨s 2,m (t 11),o⟩,⟨s 3,m (v (i I 0)),o⟩]) R))),[.tmp 2,.tmp 3]⟩
def c47 : RFunc := ⟨20,.code (q (g [⟨s 2,.new 24 [(i I 0),(i I 0),N],o⟩]) (q (g [⟨s 5,.makeSlice 5 [(i .u8 0)] 1 (v (i I 80)) (v (i I 80)),o⟩,⟨s 6,.build [(i I 0),(i I 0),N] [(0,1,(v (i I 16))),(1,1,(v (i I 5))),(2,1,(t 5))],o⟩,⟨s 3,.new 24 [(i I 0),(i I 0),N],o⟩,⟨o,S 3 (t 3) (t 6),o⟩]) (q (q (g [⟨s 7,m (v (i I 0)),o⟩]) (B 0 (L (q (g [⟨s 8,b .lss (t 7) (v (i I 16)),o⟩]) (q (c (t 8) k (x 0)) (q (B 1 (q (g [⟨s 9,m (t 7),o⟩,⟨s 4,m (t 9),o⟩]) (q (g [⟨s 10,m (t 4),o⟩,⟨s 11,m (t 0),o⟩,⟨s 12,b .neq (t 10) (t 11),o⟩]) (c (t 12) (g [⟨s 13,f 2 (t 3),o⟩,⟨s 14,l o (t 13),o⟩,⟨s 15,m (t 4),o⟩,⟨s 16,b .add (v (i I 32)) (t 15),o⟩,⟨s 17,a 1 (t 14) (t 16),o⟩,⟨o,S 1 (t 17) (v (i .u8 1)),o⟩]) k)))) (g [⟨s 18,b .add (t 7) (v (i I 1)),o⟩,⟨s 7,m (t 18),o⟩]))))))) (q (g [⟨s 19,l (s 3) (t 3),o⟩,⟨o,S 3 (t 2) (t 19),o⟩]) R)))),[.cell 2 (some 3)]⟩
def c48 : RFunc := ⟨34,.code (q (g [⟨s 4,m (v N),o⟩]) (q (g [⟨s 5,m (v N),o⟩]) (q (q (g [⟨s 10,m (t 1),o⟩,⟨s 11,n (t 10),o⟩,⟨s 12,m (v (i I 0)),o⟩]) (B 0 (L (q (g [⟨s 13,b .lss (t 12) (t 11),o⟩]) (q (c (t 13) k (x 0)) (q (B 1 (q (g [⟨s 14,a 1 (t 10) (t 12),o⟩,⟨s 15,l o (t 14),o⟩,⟨s 7,m (t 15),o⟩]) (q (g [⟨s 16,m (t 0),o⟩,⟨s 17,.makeSlice 3 [(i I 0)] 8 (t 16) (t 16),o⟩,⟨s 8,m (t 17),o⟩]) (q (q (g [⟨s 18,m (t 8),o⟩,⟨s 19,n (t 18),o⟩,⟨s 20,m (v (i I 0)),o⟩]) (B 2 (L (q (g [⟨s 21,b .lss (t 20) (t 19),o⟩]) (q (c (t 21) k (x 2)) (q (B 3 (q (g [⟨s 22,m (t 20),o⟩,⟨s 9,m (t 22),o⟩]) (g [⟨s 23,m (t 8),o⟩,⟨s 24,m (t 9),o⟩,⟨s 25,m (t 7),o⟩,⟨s 26,a 1 (t 23) (t 24),o⟩,⟨o,S 1 (t 26) (t 25),o⟩]))) (g [⟨s 27,b .add (t 20) (v (i I 1)),o⟩,⟨s 20,m (t 27),o⟩]))))))) (g [⟨s 28,m (t 5),o⟩,⟨s 29,m (t 8),o⟩,⟨s 30,.buildSlice 25 1 1 [N] [(0,1,(t 29))],o⟩,⟨s 31,.append 25 1 24 (t 28) (t 30),o⟩,⟨s 5,m (t 31),o⟩]))))) (g [⟨s 32,b .add (t 12) (v (i I 1)),o⟩,⟨s 12,m (t 32),o⟩]))))))) (q (g [⟨s 33,m (t 5),o⟩,⟨s 4,m (t 33),o⟩]) R)))),[.tmp 4]⟩
def c50 : RFunc := ⟨23,.code (q (g [⟨s 1,.box 24 (t 0),o⟩,⟨s 2,m (v (i I 0)),o⟩]) (q (q (g [⟨s 3,f 0 (t 1),o⟩,⟨s 4,l o (t 3),o⟩,⟨s 5,f 1 (t 1),o⟩,⟨s 6,l o (t 5),o⟩,⟨s 7,f 2 (t 1),o⟩,⟨s 8,l o (t 7),o⟩,⟨s 9,n (t 8),o⟩,⟨s 10,C (v (F (J 90) [] [])) [t 4,t 6,t 9],o⟩,⟨s 11,.un .not (t 10),o⟩]) (c (t 11) (q (g [⟨s 2,m (v (i I 2)),o⟩]) R) k)) (q (q (G [⟨⟨s 12,f 2 (t 1),o⟩,0,0,T⟩,⟨⟨s 13,l o (t 12),o⟩,1,1,T⟩,⟨⟨s 14,.buildSlice 5 1 1 [(i .u8 0)] [(0,1,(v (i .u8 0)))],o⟩,0,3,T⟩,⟨⟨s 15,C (v (F (J 91) [] [])) [t 13,t 14],o⟩,7,2,U⟩,⟨⟨s 16,l (s 3) (t 1),o⟩,0,1,T⟩,⟨⟨s 17,C (v (F (J 86) [] [])) [t 16],o⟩,31,2,U⟩,⟨⟨s 18,b .add (t 15) (t 17),o⟩,63,0,U⟩,⟨⟨s 19,f 2 (t 1),o⟩,0,0,T⟩,⟨⟨s 20,l o (t 19),o⟩,128,1,T⟩,⟨⟨s 21,n (t 20),o⟩,384,0,T⟩,⟨⟨s 22,b .neq (t 18) (t 21),o⟩,1023,0,U⟩]) (c (t 22) (q (g [⟨s 2,m (v (i I 3)),o⟩]) R) k)) (q (g [⟨s 2,m (v (i I 0)),o⟩]) R)))),[.tmp 2]⟩
def c51 : RFunc := ⟨55,.code (q (g [⟨s 2,.box 24 (t 0),o⟩,⟨s 4,m (v (w U)),o⟩]) (q (q (g [⟨s 7,m (t 1),o⟩,⟨s 8,n (t 7),o⟩,⟨s 9,b .eql (t 8) (v (i I 0)),o⟩,⟨s 10,m (t 9),o⟩,⟨s 11,m (t 1),s (10,U)⟩,⟨s 12,n (t 11),s (10,U)⟩,⟨s 13,f 0 (t 2),s (10,U)⟩,⟨s 14,l o (t 13),s (10,U)⟩,⟨s 15,b .neq (t 12) (t 14),s (10,U)⟩,⟨s 16,p (t 10) (v (w T)) (t 15),o⟩]) (c (t 16) (q (g [⟨s 4,m (v (w U)),o⟩]) R) k)) (q (q (g [⟨s 17,m (t 1),o⟩,⟨s 18,n (t 17),o⟩,⟨s 19,m (v (i I 0)),o⟩]) (B 0 (L (q (g [⟨s 20,b .lss (t 19) (t 18),o⟩]) (q (c (t 20) k (x 0)) (q (B 1 (q (g [⟨s 21,m (t 19),o⟩,⟨s 22,a 1 (t 17) (t 19),o⟩,⟨s 23,l o (t 22),o⟩,⟨s 5,m (t 21),o⟩,⟨s 6,m (t 23),o⟩]) (q (q (g [⟨s 24,m (t 6),o⟩,⟨s 25,b .lss (t 24) (v (i I 0)),o⟩,⟨s 26,m (t 25),o⟩,⟨s 27,m (t 6),s (26,U)⟩,⟨s 28,f 1 (t 2),s (26,U)⟩,⟨s 29,l o (t 28),s (26,U)⟩,⟨s 30,b .geq (t 27) (t 29),s (26,U)⟩,⟨s 31,p (t 26) (v (w T)) (t 30),o⟩]) (c (t 31) (q (g [⟨s 4,m (v (w U)),o⟩]) R) k)) (q (g [⟨s 32,m (t 5),o⟩,⟨s 33,b .gtr (t 32) (v (i I 0)),o⟩,⟨s 34,m (t 33),o⟩,⟨s 35,m (t 6),s (34,T)⟩,⟨s 36,m (t 1),s (34,T)⟩,⟨s 37,m (t 5),s (34,T)⟩,⟨s 38,b .sub (t 37) (v (i I 1)),s (34,T)⟩,⟨s 39,a 1 (t 36) (t 38),s (34,T)⟩,⟨s 40,l o (t 39),s (34,T)⟩,⟨s 41,b .sub (t 40) (v (i I 1)),s (34,T)⟩,⟨s 42,b .lss (t 35) (t 41),s (34,T)⟩,⟨s 43,m (t 42),s (34,T)⟩,⟨s 44,m (t 6),s (43,U)⟩,⟨s 45,m (t 1),s (43,U)⟩,⟨s 46,m (t 5),s (43,U)⟩,⟨s 47,b .sub (t 46) (v (i I 1)),s (43,U)⟩,⟨s 48,a 1 (t 45) (t 47),s (43,U)⟩,⟨s 49,l o (t 48),s (43,U)⟩,⟨s 50,b .add (t 49) (v (i I 1)),s (43,U)⟩,⟨s 51,b .gtr (t 44) (t 50),s (43,U)⟩,⟨s 52,p (t 43) (v (w T)) (t 51),s (34,T)⟩,⟨s 53,p (t 34) (t 52) (v (w U)),o⟩]) (c (t 53) (q (g [⟨s 4,m (v (w U)),o⟩]) R) k))))) (g [⟨s 54,b .add (t 19) (v (i I 1)),o⟩,⟨s 19,m (t 54),o⟩]))))))) (q (g [⟨s 4,m (v (w T)),o⟩]) R)))),[.tmp 4]⟩
def c52 : RFunc := ⟨18,.code (q (g [⟨s 3,.box 24 (t 0),o⟩,⟨s 6,m (v (i I 0)),o⟩]) (q (q (g [⟨s 7,f 2 (t 3),o⟩,⟨s 8,l o (t 7),o⟩,⟨s 9,m (t 2),o⟩,⟨s 10,f 0 (t 3),o⟩,⟨s 11,l o (t 10),o⟩,⟨s 12,b .mul (t 9) (t 11),o⟩,⟨s 13,m (t 1),o⟩,⟨s 14,b .add (t 12) (t 13),o⟩,⟨s 15,a 1 (t 8) (t 14),o⟩,⟨s 16,l o (t 15),o⟩,⟨s 17,b .eql (t 16) (v (i .u8 1)),o⟩]) (c (t 17) (q (g [⟨s 6,m (v (i I 0)),o⟩]) R) k)) (q (g [⟨s 6,m (v (i I 2)),o⟩]) R))),[.tmp 6]⟩
def c53 : RFunc := ⟨8,.code (q (g [⟨s 4,m (v (i I 0)),o⟩]) (q (q (g [⟨s 5,m (t 0),o⟩,⟨s 6,m (t 1),o⟩,⟨s 7,b .eql (t 5) (t 6),o⟩]) (c (t 7) (q (g [⟨s 4,m (v (i I 0)),o⟩]) R) k)) (q (g [⟨s 4,m (v (i I 1)),o⟩]) R))),[.tmp 4]⟩
def c56 : RFunc := ⟨45,.code (q (g [⟨s 1,.box 24 (t 0),o⟩,⟨s 2,.new 83 [(i I 0),(i I 0),N,N],o⟩]) (q (G [⟨⟨s 6,f 0 (t 1),o⟩,0,0,T⟩,⟨⟨s 7,l o (t 6),o⟩,1,1,T⟩,⟨⟨s 8,f 1 (t 1),o⟩,0,0,T⟩,⟨⟨s 9,l o (t 8),o⟩,4,1,T⟩,⟨⟨s 10,f 2 (t 1),o⟩,0,0,T⟩,⟨⟨s 11,l o (t 10),o⟩,16,1,T⟩,⟨⟨s 12,n (t 11),o⟩,48,0,T⟩,⟨⟨s 13,.makeSlice 3 [(i I 0)] 8 (t 12) (t 12),o⟩,112,3,T⟩,⟨⟨s 14,f 2 (t 1),o⟩,0,0,T⟩,⟨⟨s 15,l o (t 14),o⟩,256,1,T⟩,⟨⟨s 16,n (t 15),o⟩,768,0,T⟩,⟨⟨s 17,.makeSlice 3 [(i I 0)] 8 (t 16) (t 16),o⟩,1792,3,T⟩,⟨⟨s 18,.build [(i I 0),(i I 0),N,N] [(0,1,(t 7)),(1,1,(t 9)),(2,1,(t 13)),(3,1,(t 17))],o⟩,4095,0,T⟩,⟨⟨s 3,.new 83 [(i I 0),(i I 0),N,N],o⟩,0,3,T⟩,⟨⟨o,S 4 (t 3) (t 18),o⟩,16383,2,U⟩]) (q (q (g [⟨s 19,f 0 (t 3),o⟩,⟨s 20,l o (t 19),o⟩,⟨s 21,m (v (i I 0)),o⟩]) (B 0 (L (q (g [⟨s 22,b .lss (t 21) (t 20),o⟩]) (q (c (t 22) k (x 0)) (q (B 1 (q (g [⟨s 23,m (t 21),o⟩,⟨s 4,m (t 23),o⟩]) (q (g [⟨s 24,f 1 (t 3),o⟩,⟨s 25,l o (t 24),o⟩,⟨s 26,m (v (i I 0)),o⟩]) (B 2 (L (q (g [⟨s 27,b .lss (t 26) (t 25),o⟩]) (q (c (t 27) k (x 2)) (q (B 3 (q (g [⟨s 28,m (t 26),o⟩,⟨s 5,m (t 28),o⟩]) (G [⟨⟨s 29,f 2 (t 3),o⟩,0,0,T⟩,⟨⟨s 30,l o (t 29),o⟩,1,1,T⟩,⟨⟨s 31,m (t 4),o⟩,0,0,T⟩,⟨⟨s 32,f 1 (t 3),o⟩,0,0,T⟩,⟨⟨s 33,l o (t 32),o⟩,8,1,T⟩,⟨⟨s 34,b .mul (t 31) (t 33),o⟩,28,0,T⟩,⟨⟨s 35,m (t 5),o⟩,0,0,T⟩,⟨⟨s 36,b .add (t 34) (t 35),o⟩,124,0,T⟩,⟨⟨s 37,l (s 3) (t 1),o⟩,0,1,T⟩,⟨⟨s 38,m (t 4),o⟩,0,0,T⟩,⟨⟨s 39,m (t 5),o⟩,0,0,T⟩,⟨⟨s 40,C (v (F (J 52) [] [])) [t 37,t 38,t 39],o⟩,1792,2,U⟩,⟨⟨s 41,a 1 (t 30) (t 36),o⟩,4095,0,T⟩,⟨⟨o,S 1 (t 41) (t 40),o⟩,8191,2,U⟩]))) (g [⟨s 42,b .add (t 26) (v (i I 1)),o⟩,⟨s 26,m (t 42),o⟩]))))))))) (g [⟨s 43,b .add (t 21) (v (i I 1)),o⟩,⟨s 21,m (t 43),o⟩]))))))) (q (g [⟨s 44,l (s 4) (t 3),o⟩,⟨o,S 4 (t 2) (t 44),o⟩]) R)))),[.cell 2 (some 4)]⟩
def c57 : RFunc := ⟨34,.code (q (g [⟨s 1,.box 83 (t 0),o⟩,⟨s 2,m (v (i I 0)),o⟩]) (q (g [⟨s 7,.mkFunc (J 93) [] [t 1],o⟩,⟨s 3,m (t 7),o⟩]) (q (q (g [⟨s 8,f 0 (t 1),o⟩,⟨s 9,l o (t 8),o⟩,⟨s 10,b .sub (t 9) (v (i I 1)),o⟩,⟨s 4,m (t 10),o⟩]) (B 0 (L (q (q (g [⟨s 11,m (t 4),o⟩,⟨s 12,b .geq (t 11) (v (i I 0)),o⟩]) (c (t 12) k (x 0))) (q (B 1 (q (g [⟨s 15,l (s 4) (t 1),o⟩,⟨s 16,m (t 4),o⟩,⟨s 17,C (v (F (J 95) [] [])) [t 15,t 16],o⟩,⟨s 5,m (t 17),o⟩]) (q (g [⟨s 18,m (t 5),o⟩,⟨s 19,n (t 18),o⟩,⟨s 20,m (v (i I 0)),o⟩]) (B 2 (L (q (g [⟨s 21,b .lss (t 20) (t 19),o⟩]) (q (c (t 21) k (x 2)) (q (B 3 (q (g [⟨s 22,m (t 20),o⟩,⟨s 6,m (t 22),o⟩]) (g [⟨s 23,m (t 5),o⟩,⟨s 24,m (t 6),o⟩,⟨s 25,m (t 3),o⟩,⟨s 26,m (t 4),o⟩,⟨s 27,m (t 6),o⟩,⟨s 28,C (t 25) [t 26,t 27],o⟩,⟨s 29,a 1 (t 23) (t 24),o⟩,⟨o,S 1 (t 29) (t 28),o⟩]))) (g [⟨s 30,b .add (t 20) (v (i I 1)),o⟩,⟨s 20,m (t 30),o⟩]))))))))) (g [⟨s 13,m (t 4),o⟩,⟨s 14,b .sub (t 13) (v (i I 1)),o⟩,⟨s 4,m (t 14),o⟩])))))) (q (g [⟨s 31,l (s 4) (t 1),o⟩,⟨s 32,C (v (F (J 95) [] [])) [t 31,(v (i I 0))],o⟩,⟨s 33,C (v (F (J 79) [] [])) [t 32],o⟩,⟨s 2,m (t 33),o⟩]) R)))),[.tmp 2]⟩
def c58 : RFunc := ⟨39,.code (q (g [⟨s 1,.box 83 (t 0),o⟩,⟨s 2,m (v N),o⟩]) (q (g [⟨s 6,l (s 4) (t 1),o⟩,⟨s 7,C (v (F (J 95) [] [])) [t 6,(v (i I 0))],o⟩,⟨s 3,m (t 7),o⟩]) (q (g [⟨s 8,f 0 (t 1),o⟩,⟨s 9,l o (t 8),o⟩,⟨s 10,.makeSlice 3 [(i I 0)] 8 (t 9) (t 9),o⟩,⟨s 4,m (t 10),o⟩]) (q (g [⟨s 11,m (t 4),o⟩,⟨s 12,m (t 3),o⟩,⟨s 13,m (t 3),o⟩,⟨s 14,C (v (F (J 79) [] [])) [t 13],o⟩,⟨s 15,C (v (F (J 96) [] [])) [t 12,t 14],o⟩,⟨s 16,a 1 (t 11) (v (i I 0)),o⟩,⟨o,S 1 (t 16) (t 15),o⟩]) (q (q (g [⟨s 5,m (v (i I 1)),o⟩]) (B 0 (L (q (q (g [⟨s 17,m (t 5),o⟩,⟨s 18,f 0 (t 1),o⟩,⟨s 19,l o (t 18),o⟩,⟨s 20,b .lss (t 17) (t 19),o⟩]) (c (t 20) k (x 0))) (q (B 1 (G [⟨⟨s 24,m (t 4),o⟩,0,0,T⟩,⟨⟨s 25,m (t 5),o⟩,0,0,T⟩,⟨⟨s 26,l (s 4) (t 1),o⟩,0,1,T⟩,⟨⟨s 27,m (t 5),o⟩,0,0,T⟩,⟨⟨s 28,C (v (F (J 95) [] [])) [t 26,t 27],o⟩,12,2,U⟩,⟨⟨s 29,m (t 4),o⟩,0,0,T⟩,⟨⟨s 30,m (t 5),o⟩,0,0,T⟩,⟨⟨s 31,b .sub (t 30) (v (i I 1)),o⟩,64,0,T⟩,⟨⟨s 32,a 1 (t 29) (t 31),o⟩,224,0,T⟩,⟨⟨s 33,l o (t 32),o⟩,480,1,T⟩,⟨⟨s 34,C (v (F (J 94) [] [])) [t 28,t 33],o⟩,1020,2,U⟩,⟨⟨s 23,m (t 34),o⟩,2044,0,U⟩,⟨⟨s 35,e (t 23) 0,o⟩,4092,0,U⟩,⟨⟨s 36,e (t 23) 1,o⟩,4092,0,U⟩,⟨⟨s 37,a 1 (t 24) (t 25),o⟩,8191,0,T⟩,⟨⟨o,S 1 (t 37) (t 35),o⟩,24575,2,U⟩])) (g [⟨s 21,m (t 5),o⟩,⟨s 22,b .add (t 21) (v (i I 1)),o⟩,⟨s 5,m (t 22),o⟩])))))) (q (g [⟨s 38,m (t 4),o⟩,⟨s 2,m (t 38),o⟩]) R)))))),[.tmp 2]⟩
def c59 : RFunc := ⟨37,.code (q (g [⟨s 2,.box 83 (t 0),o⟩]) (q (g [⟨s 7,m (t 1),o⟩,⟨s 8,n (t 7),o⟩,⟨s 9,m (v (i I 0)),o⟩]) (B 0 (L (q (g [⟨s 10,b .lss (t 9) (t 8),o⟩]) (q (c (t 10) k (x 0)) (q (B 1 (q (g [⟨s 11,m (t 9),o⟩,⟨s 12,a 1 (t 7) (t 9),o⟩,⟨s 13,l o (t 12),o⟩,⟨s 4,m (t 11),o⟩,⟨s 5,m (t 13),o⟩]) (q (g [⟨s 14,m (t 5),o⟩,⟨s 15,b .sub (t 14) (v (i I 2)),o⟩,⟨s 16,.minmax T [t 15,(v (i I 0))],o⟩,⟨s 6,m (t 16),o⟩]) (B 2 (L (q (q (g [⟨s 17,m (t 6),o⟩,⟨s 18,m (t 5),o⟩,⟨s 19,b .add (t 18) (v (i I 2)),o⟩,⟨s 20,f 1 (t 2),o⟩,⟨s 21,l o (t 20),o⟩,⟨s 22,b .sub (t 21) (v (i I 1)),o⟩,⟨s 23,.minmax U [t 19,t 22],o⟩,⟨s 24,b .leq (t 17) (t 23),o⟩]) (c (t 24) k (x 2))) (q (B 3 (g [⟨s 27,f 2 (t 2),o⟩,⟨s 28,l o (t 27),o⟩,⟨s 29,m (t 4),o⟩,⟨s 30,f 1 (t 2),o⟩,⟨s 31,l o (t 30),o⟩,⟨s 32,b .mul (t 29) (t 31),o⟩,⟨s 33,m (t 6),o⟩,⟨s 34,b .add (t 32) (t 33),o⟩,⟨s 35,a 1 (t 28) (t 34),o⟩,⟨o,S 1 (t 35) (v (i I 1920)),o⟩])) (g [⟨s 25,m (t 6),o⟩,⟨s 26,b .add (t 25) (v (i I 1)),o⟩,⟨s 6,m (t 26),o⟩])))))))) (g [⟨s 36,b .add (t 9) (v (i I 1)),o⟩,⟨s 9,m (t 36),o⟩])))))))),[]⟩
def c60 : RFunc := ⟨14,.code (q (g [⟨s 5,m (t 0),o⟩,⟨s 6,n (t 5),o⟩,⟨s 4,m (t 6),o⟩]) (g [⟨s 7,m (t 0),o⟩,⟨s 8,m (t 4),o⟩,⟨s 9,m (t 4),o⟩,⟨s 10,.convInt .u64 (t 9),o⟩,⟨s 11,C (v (F (J 98) [] [])) [t 10],o⟩,⟨s 12,m (t 1),o⟩,⟨s 13,C (v (F (J 97) [] [])) [t 7,(v (i I 0)),t 8,t 11,t 12],o⟩])),[]⟩
def c61 : RFunc := ⟨12,.code (q (g [⟨s 4,m (v (i I 0)),o⟩]) (q (G [⟨⟨s 5,m (t 0),o⟩,0,0,T⟩,⟨⟨s 6,a 1 (t 5) (v (i I 0)),o⟩,1,0,T⟩,⟨⟨s 7,l o (t 6),o⟩,3,1,T⟩,⟨⟨s 8,m (t 1),o⟩,0,0,T⟩,⟨⟨s 9,a 1 (t 8) (v (i I 0)),o⟩,8,0,T⟩,⟨⟨s 10,l o (t 9),o⟩,24,1,T⟩,⟨⟨s 11,C (v (F (J 62) [] [])) [t 7,t 10],o⟩,63,2,U⟩,⟨⟨s 4,m (t 11),o⟩,127,0,U⟩]) R)),[.tmp 4]⟩
def c62 : RFunc := ⟨20,.code (q (g [⟨s 4,m (v (i I 0)),o⟩]) (q (g [⟨s 7,m (t 0),o⟩,⟨s 8,C (v (F (J 99) [] [])) [t 7],o⟩,⟨s 5,m (t 8),o⟩]) (q (g [⟨s 9,m (t 1),o⟩,⟨s 10,C (v (F (J 99) [] [])) [t 9],o⟩,⟨s 6,m (t 10),o⟩]) (q (q (g [⟨s 11,m (t 5),o⟩]) (c (t 11) (q (q (g [⟨s 12,m (t 6),o⟩]) (c (t 12) (q (g [⟨s 4,m (v (i I 0)),o⟩]) R) k)) (q (g [⟨s 4,m (v (i I (-1))),o⟩]) R)) k)) (q (q (g [⟨s 13,m (t 6),o⟩]) (c (t 13) (q (g [⟨s 4,m (v (i I 1)),o⟩]) R) k)) (q (q (g [⟨s 14,m (t 0),o⟩,⟨s 15,m (t 1),o⟩,⟨s 16,b .lss (t 14) (t 15),o⟩]) (c (t 16) (q (g [⟨s 4,m (v (i I (-1))),o⟩]) R) k)) (q (q (g [⟨s 17,m (t 0),o⟩,⟨s 18,m (t 1),o⟩,⟨s 19,b .gtr (t 17) (t 18),o⟩]) (c (t 19) (q (g [⟨s 4,m (v (i I 1)),o⟩]) R) k)) (q (g [⟨s 4,m (v (i I 0)),o⟩]) R)))))))),[.tmp 4]⟩
def c65 : RFunc := ⟨26,.code (q (g [⟨s 4,m (v (w U)),o⟩]) (q (q (g [⟨s 6,m (t 0),o⟩,⟨s 7,n (t 6),o⟩,⟨s 8,m (t 1),o⟩,⟨s 9,n (t 8),o⟩,⟨s 10,b .neq (t 7) (t 9),o⟩]) (c (t 10) (q (g [⟨s 4,m (v (w U)),o⟩]) R) k)) (q (q (g [⟨s 5,m (v (i I 0)),o⟩]) (B 0 (L (q (q (g [⟨s 11,m (t 5),o⟩,⟨s 12,m (t 0),o⟩,⟨s 13,n (t 12),o⟩,⟨s 14,b .lss (t 11) (t 13),o⟩]) (c (t 14) k (x 0))) (q (B 1 (q (G [⟨⟨s 17,m (t 0),o⟩,0,0,T⟩,⟨⟨s 18,m (t 5),o⟩,0,0,T⟩,⟨⟨s 19,a 1 (t 17) (t 18),o⟩,3,0,T⟩,⟨⟨s 20,l o (t 19),o⟩,7,1,T⟩,⟨⟨s 21,m (t 1),o⟩,0,0,T⟩,⟨⟨s 22,m (t 5),o⟩,0,0,T⟩,⟨⟨s 23,a 1 (t 21) (t 22),o⟩,48,0,T⟩,⟨⟨s 24,l o (t 23),o⟩,112,1,T⟩,⟨⟨s 25,b .neq (t 20) (t 24),o⟩,255,0,T⟩]) (c (t 25) (q (g [⟨s 4,m (v (w U)),o⟩]) R) k))) (g [⟨s 15,m (t 5),o⟩,⟨s 16,b .add (t 15) (v (i I 1)),o⟩,⟨s 5,m (t 16),o⟩])))))) (q (g [⟨s 4,m (v (w T)),o⟩]) R)))),[.tmp 4]⟩
def c72 : RFunc := ⟨78,.code (q (g [⟨s 2,m (v (w U)),o⟩]) (q (g [⟨s 12,m (t 0),o⟩,⟨s 13,a 1 (t 12) (v (i I 0)),o⟩,⟨s 14,l o (t 13),o⟩,⟨s 15,n (t 14),o⟩,⟨s 3,m (t 15),o⟩]) (q (q (g [⟨s 16,m (t 3),o⟩,⟨s 17,b .eql (t 16) (v (i I 0)),o⟩]) (c (t 17) (q (g [⟨s 2,m (v (w U)),o⟩]) R) k)) (q (g [⟨s 4,m (v (i I 64)),o⟩,⟨s 5,m (v (i I 2)),o⟩]) (q (q (g [⟨s 18,m (t 0),o⟩,⟨s 19,.sliceS 1 (t 18) (s (v (i I 1))) o o,o⟩,⟨s 20,n (t 19),o⟩,⟨s 21,m (v (i I 0)),o⟩]) (B 0 (L (q (g [⟨s 22,b .lss (t 21) (t 20),o⟩]) (q (c (t 22) k (x 0)) (q (B 1 (q (g [⟨s 23,m (t 21),o⟩,⟨s 24,a 1 (t 19) (t 21),o⟩,⟨s 25,l o (t 24),o⟩,⟨s 6,m (t 23),o⟩,⟨s 7,m (t 25),o⟩]) (q (g [⟨s 26,m (t 0),o⟩,⟨s 27,m (t 6),o⟩,⟨s 28,a 1 (t 26) (t 27),o⟩,⟨s 29,l o (t 28),o⟩,⟨s 8,m (t 29),o⟩]) (q (q (g [⟨s 30,m (t 7),o⟩,⟨s 31,n (t 30),o⟩,⟨s 32,m (t 3),o⟩,⟨s 33,b .neq (t 31) (t 32),o⟩]) (c (t 33) (q (g [⟨s 2,m (v (w U)),o⟩]) R) k)) (q (g [⟨s 34,m (t 3),o⟩,⟨s 35,b .sub (t 34) (v (i I 1)),o⟩,⟨s 36,.build [(i I 0),(i I 0)] [(0,1,(v (i I 0))),(1,1,(t 35))],o⟩,⟨s 37,m (v (i I 0)),o⟩]) (B 2 (L (q (g [⟨s 38,b .lss (t 37) (v (i I 2)),o⟩]) (q (c (t 38) k (x 2)) (q (B 3 (q (g [⟨s 39,.indexA 2 1 U (t 36) (t 37),o⟩,⟨s 10,m (t 39),o⟩]) (q (G [⟨⟨s 40,m (t 7),o⟩,0,0,T⟩,⟨⟨s 41,m (t 10),o⟩,0,0,T⟩,⟨⟨s 42,a 1 (t 40) (t 41),o⟩,3,0,T⟩,⟨⟨s 43,l o (t 42),o⟩,7,1,T⟩,⟨⟨s 44,m (t 8),o⟩,0,0,T⟩,⟨⟨s 45,m (t 10),o⟩,0,0,T⟩,⟨⟨s 46,a 1 (t 44) (t 45),o⟩,48,0,T⟩,⟨⟨s 47,l o (t 46),o⟩,112,1,T⟩,⟨⟨s 48,b .sub (t 43) (t 47),o⟩,255,0,T⟩,⟨⟨s 11,m (t 48),o⟩,511,0,T⟩]) (q (q (G [⟨⟨s 49,m (t 7),o⟩,0,0,T⟩,⟨⟨s 50,m (t 10),o⟩,0,0,T⟩,⟨⟨s 51,a 1 (t 49) (t 50),o⟩,3,0,T⟩,⟨⟨s 52,l o (t 51),o⟩,7,1,T⟩,⟨⟨s 53,m (t 8),o⟩,0,0,T⟩,⟨⟨s 54,m (t 10),o⟩,0,0,T⟩,⟨⟨s 55,a 1 (t 53) (t 54),o⟩,48,0,T⟩,⟨⟨s 56,l o (t 55),o⟩,112,1,T⟩,⟨⟨s 57,b .lss (t 52) (t 56),o⟩,255,0,T⟩,⟨⟨s 58,m (t 57),o⟩,511,0,T⟩,⟨⟨s 59,m (t 11),s (58,U)⟩,1023,0,T⟩,⟨⟨s 60,b .lss (t 59) (v (i I 2)),s (58,U)⟩,2047,0,T⟩,⟨⟨s 61,p (t 58) (v (w T)) (t 60),o⟩,4095,0,T⟩,⟨⟨s 62,m (t 61),o⟩,8191,0,T⟩,⟨⟨s 63,m (t 11),s (62,U)⟩,16383,0,T⟩,⟨⟨s 64,b .gtr (t 63) (v (i I 64)),s (62,U)⟩,32767,0,T⟩,⟨⟨s 65,p (t 62) (v (w T)) (t 64),o⟩,65535,0,T⟩]) (c (t 65) (q (g [⟨s 2,m (v (w U)),o⟩]) R) k)) (g [⟨s 66,m (t 4),o⟩,⟨s 67,m (t 11),o⟩,⟨s 68,.minmax U [t 66,t 67],o⟩,⟨s 69,m (t 5),o⟩,⟨s 70,m (t 11),o⟩,⟨s 71,.minmax T [t 69,t 70],o⟩,⟨s 4,m (t 68),o⟩,⟨s 5,m (t 71),o⟩]))))) (g [⟨s 72,b .add (t 37) (v (i I 1)),o⟩,⟨s 37,m (t 72),o⟩]))))))))))) (g [⟨s 73,b .add (t 21) (v (i I 1)),o⟩,⟨s 21,m (t 73),o⟩]))))))) (q (g [⟨s 74,m (t 5),o⟩,⟨s 75,m (t 4),o⟩,⟨s 76,b .sub (t 74) (t 75),o⟩,⟨s 77,b .leq (t 76) (v (i I 2)),o⟩,⟨s 2,m (t 77),o⟩]) R)))))),[.tmp 2]⟩
def c73 : RFunc := ⟨21,.code (q (g [⟨s 2,.new 43 [N],o⟩]) (q (g [⟨s 3,.new 43 [N],o⟩]) (q (q (g [⟨s 6,m (t 0),o⟩,⟨s 7,n (t 6),o⟩,⟨s 8,m (v (i I 0)),o⟩]) (B 0 (L (q (g [⟨s 9,b .lss (t 8) (t 7),o⟩]) (q (c (t 9) k (x 0)) (q (B 1 (q (g [⟨s 10,a 1 (t 6) (t 8),o⟩,⟨s 11,l o (t 10),o⟩,⟨s 5,m (t 11),o⟩]) (G [⟨⟨s 12,f 0 (t 3),o⟩,0,0,T⟩,⟨⟨s 13,l o (t 12),o⟩,1,1,T⟩,⟨⟨s 14,m (t 5),o⟩,0,0,T⟩,⟨⟨s 15,C (v (F (J 14) [] [])) [t 14],o⟩,4,2,U⟩,⟨⟨s 16,.buildSlice 25 1 1 [N] [(0,1,(t 15))],o⟩,12,2,U⟩,⟨⟨s 17,.append 25 1 24 (t 13) (t 16),o⟩,31,2,U⟩,⟨⟨s 18,f 0 (t 3),o⟩,63,0,T⟩,⟨⟨o,S 1 (t 18) (t 17),o⟩,127,2,U⟩]))) (g [⟨s 19,b .add (t 8) (v (i I 1)),o⟩,⟨s 8,m (t 19),o⟩]))))))) (q (g [⟨s 20,l (s 1) (t 3),o⟩,⟨o,S 1 (t 2) (t 20),o⟩]) R)))),[.cell 2 (some 1)]⟩
def c75 : RFunc := ⟨39,.code (q (g [⟨s 2,.box 24 (t 0),o⟩,⟨s 3,.box 43 (t 1),o⟩,⟨s 4,m (v (w U)),o⟩]) (q (q (g [⟨s 7,f 0 (t 3),o⟩,⟨s 8,l o (t 7),o⟩,⟨s 9,n (t 8),o⟩,⟨s 10,b .neq (t 9) (v (i I 5)),o⟩]) (c (t 10) (q (g [⟨s 4,m (v (w U)),o⟩]) R) k)) (q (q (g [⟨s 11,f 0 (t 3),o⟩,⟨s 12,l o (t 11),o⟩,⟨s 13,n (t 12),o⟩,⟨s 14,m (v (i I 0)),o⟩]) (B 0 (L (q (g [⟨s 15,b .lss (t 14) (t 13),o⟩]) (q (c (t 15) k (x 0)) (q (B 1 (q (g [⟨s 16,m (t 14),o⟩,⟨s 17,a 1 (t 12) (t 14),o⟩,⟨s 18,l o (t 17),o⟩,⟨s 5,m (t 16),o⟩,⟨s 6,m (t 18),o⟩]) (q (g [⟨s 19,l (s 3) (t 2),o⟩,⟨s 20,m (t 6),o⟩,⟨s 21,C (v (F (J 51) [] [])) [t 19,t 20],o⟩,⟨s 22,.un .not (t 21),o⟩,⟨s 23,m (t 22),o⟩,⟨s 24,m (t 5),s (23,U)⟩,⟨s 25,b .gtr (t 24) (v (i I 0)),s (23,U)⟩,⟨s 26,m (t 25),s (23,U)⟩,⟨s 27,f 0 (t 3),s (26,T)⟩,⟨s 28,l o (t 27),s (26,T)⟩,⟨s 29,m (t 5),s (26,T)⟩,⟨s 30,b .sub (t 29) (v (i I 1)),s (26,T)⟩,⟨s 31,a 1 (t 28) (t 30),s (26,T)⟩,⟨s 32,l o (t 31),s (26,T)⟩,⟨s 33,m (t 6),s (26,T)⟩,⟨s 34,C (v (F (J 101) [] [])) [t 32,t 33],s (26,T)⟩,⟨s 35,.un .not (t 34),s (26,T)⟩,⟨s 36,p (t 26) (t 35) (v (w U)),s (23,U)⟩,⟨s 37,p (t 23) (v (w T)) (t 36),o⟩]) (c (t 37) (q (g [⟨s 4,m (v (w U)),o⟩]) R) k)))) (g [⟨s 38,b .add (t 14) (v (i I 1)),o⟩,⟨s 14,m (t 38),o⟩]))))))) (q (g [⟨s 4,m (v (w T)),o⟩]) R)))),[.tmp 4]⟩
def c79 : RFunc := ⟨25,.code (q (g [⟨s 2,m (v (i I 0)),o⟩]) (q (q (g [⟨s 5,m (t 0),o⟩,⟨s 6,n (t 5),o⟩,⟨s 7,b .lss (t 6) (v (i I 1)),o⟩]) (c (t 7) .fail k)) (q (g [⟨s 9,m (t 0),o⟩,⟨s 10,a 1 (t 9) (v (i I 0)),o⟩,⟨s 11,l o (t 10),o⟩,⟨s 3,m (t 11),o⟩]) (q (q (g [⟨s 4,m (v (i I 1)),o⟩]) (B 0 (L (q (q (g [⟨s 12,m (t 4),o⟩,⟨s 13,m (t 0),o⟩,⟨s 14,n (t 13),o⟩,⟨s 15,b .lss (t 12) (t 14),o⟩]) (c (t 15) k (x 0))) (q (B 1 (g [⟨s 18,m (t 3),o⟩,⟨s 19,m (t 0),o⟩,⟨s 20,m (t 4),o⟩,⟨s 21,a 1 (t 19) (t 20),o⟩,⟨s 22,l o (t 21),o⟩,⟨s 23,.minmax U [t 18,t 22],o⟩,⟨s 3,m (t 23),o⟩])) (g [⟨s 16,m (t 4),o⟩,⟨s 17,b .add (t 16) (v (i I 1)),o⟩,⟨s 4,m (t 17),o⟩])))))) (q (g [⟨s 24,m (t 3),o⟩,⟨s 2,m (t 24),o⟩]) R))))),[.tmp 2]⟩
def c80 : RFunc := ⟨25,.code (q (g [⟨s 2,m (v (i I 0)),o⟩]) (q (q (g [⟨s 5,m (t 0),o⟩,⟨s 6,n (t 5),o⟩,⟨s 7,b .lss (t 6) (v (i I 1)),o⟩]) (c (t 7) .fail k)) (q (g [⟨s 9,m (t 0),o⟩,⟨s 10,a 1 (t 9) (v (i I 0)),o⟩,⟨s 11,l o (t 10),o⟩,⟨s 3,m (t 11),o⟩]) (q (q (g [⟨s 4,m (v (i I 1)),o⟩]) (B 0 (L (q (q (g [⟨s 12,m (t 4),o⟩,⟨s 13,m (t 0),o⟩,⟨s 14,n (t 13),o⟩,⟨s 15,b .lss (t 12) (t 14),o⟩]) (c (t 15) k (x 0))) (q (B 1 (g [⟨s 18,m (t 3),o⟩,⟨s 19,m (t 0),o⟩,⟨s 20,m (t 4),o⟩,⟨s 21,a 1 (t 19) (t 20),o⟩,⟨s 22,l o (t 21),o⟩,⟨s 23,.minmax T [t 18,t 22],o⟩,⟨s 3,m (t 23),o⟩])) (g [⟨s 16,m (t 4),o⟩,⟨s 17,b .add (t 16) (v (i I 1)),o⟩,⟨s 4,m (t 17),o⟩])))))) (q (g [⟨s 24,m (t 3),o⟩,⟨s 2,m (t 24),o⟩]) R))))),[.tmp 2]⟩
def c81 : RFunc := ⟨18,.code (q (g [⟨s 4,.new 24 [(i I 0),(i I 0),N],o⟩,⟨s 5,m (v (i I 0)),o⟩]) (q (q (g [⟨s 6,m (t 0),o⟩,⟨s 7,C (v (F (J 103) [] [])) [t 6],o⟩,⟨s 8,.un .not (t 7),o⟩,⟨s 9,m (t 8),o⟩,⟨s 10,m (t 1),s (9,U)⟩,⟨s 11,C (v (F (J 103) [] [])) [t 10],s (9,U)⟩,⟨s 12,.un .not (t 11),s (9,U)⟩,⟨s 13,p (t 9) (v (w T)) (t 12),o⟩]) (c (t 13) (q (g [⟨s 14,.build [(i I 0),(i I 0),N] [],o⟩,⟨o,S 3 (t 4) (t 14),o⟩,⟨s 5,m (v (i I 2)),o⟩]) R) k)) (q (g [⟨s 15,m (t 0),o⟩,⟨s 16,m (t 1),o⟩,⟨s 17,C (v (F (J 104) [] [])) [t 15,t 16],o⟩,⟨o,S 3 (t 4) (t 17),o⟩,⟨s 5,m (v (i I 0)),o⟩]) R))),[.cell 4 (some 3),.tmp 5]⟩
def c82 : RFunc := ⟨10,.code (q (g [⟨s 4,.box 24 (t 0),o⟩,⟨s 5,.box 24 (t 1),o⟩,⟨s 6,.box 43 (t 2),o⟩,⟨s 7,.box 3 (t 3),o⟩,⟨s 8,m (v .nfunc),o⟩]) (q (g [⟨s 9,.mkFunc (J 105) [] [t 6,t 7,t 5,t 4],o⟩,⟨s 8,m (t 9),o⟩]) R)),[.tmp 8]⟩
def c83 : RFunc := ⟨17,.code (q (g [⟨s 2,.box 24 (t 0),o⟩,⟨s 4,m (v N),o⟩]) (q (g [⟨s 5,f 2 (t 2),o⟩,⟨s 6,l o (t 5),o⟩,⟨s 7,m (t 1),o⟩,⟨s 8,f 0 (t 2),o⟩,⟨s 9,l o (t 8),o⟩,⟨s 10,b .mul (t 7) (t 9),o⟩,⟨s 11,m (t 1),o⟩,⟨s 12,b .add (t 11) (v (i I 1)),o⟩,⟨s 13,f 0 (t 2),o⟩,⟨s 14,l o (t 13),o⟩,⟨s 15,b .mul (t 12) (t 14),o⟩,⟨s 16,.sliceS 1 (t 6) (s (t 10)) (s (t 15)) o,o⟩,⟨s 4,m (t 16),o⟩]) R)),[.tmp 4]⟩
def c84 : RFunc := ⟨65,.code (q (g [⟨s 3,.box 24 (t 0),o⟩,⟨s 6,m (v N),o⟩,⟨s 7,m (v (i I 0)),o⟩]) (q (g [⟨s 17,l (s 3) (t 3),o⟩,⟨s 18,C (v (F (J 106) [] [])) [t 17],o⟩,⟨s 16,m (t 18),o⟩,⟨s 19,e (t 16) 0,o⟩,⟨s 20,e (t 16) 1,o⟩,⟨s 8,m (t 19),o⟩,⟨s 9,m (t 20),o⟩]) (q (q (g [⟨s 21,m (t 9),o⟩,⟨s 22,b .neq (t 21) (v (i I 0)),o⟩]) (c (t 22) (q (g [⟨s 23,m (t 9),o⟩,⟨s 6,m (v N),o⟩,⟨s 7,m (t 23),o⟩]) R) k)) (q (q (g [⟨s 24,m (t 1),o⟩,⟨s 25,n (t 24),o⟩,⟨s 26,m (v (i I 0)),o⟩]) (B 0 (L (q (g [⟨s 27,b .lss (t 26) (t 25),o⟩]) (q (c (t 27) k (x 0)) (q (B 1 (q (g [⟨s 28,a 1 (t 24) (t 26),o⟩,⟨s 29,l (s 1) (t 28),o⟩,⟨s 11,.new 43 [N],o⟩,⟨o,S 1 (t 11) (t 29),o⟩]) (q (g [⟨s 30,l (s 3) (t 3),o⟩,⟨s 31,l (s 1) (t 11),o⟩,⟨s 32,C (v (F (J 75) [] [])) [t 30,t 31],o⟩,⟨s 33,.un .not (t 32),o⟩]) (c (t 33) (q (g [⟨s 6,m (v N),o⟩,⟨s 7,m (v (i I 10)),o⟩]) R) k)))) (g [⟨s 34,b .add (t 26) (v (i I 1)),o⟩,⟨s 26,m (t 34),o⟩]))))))) (q (g [⟨s 35,f 0 (t 3),o⟩,⟨s 36,l o (t 35),o⟩,⟨s 37,f 1 (t 3),o⟩,⟨s 38,l o (t 37),o⟩,⟨s 39,m (t 1),o⟩,⟨s 40,C (v (F (J 107) [] [])) [t 36,t 38,t 39],o⟩,⟨s 12,.new 24 [(i I 0),(i I 0),N],o⟩,⟨o,S 3 (t 12) (t 40),o⟩]) (q (g [⟨s 13,m (v N),o⟩]) (q (q (g [⟨s 41,m (t 8),o⟩,⟨s 42,n (t 41),o⟩,⟨s 43,m (v (i I 0)),o⟩]) (B 2 (L (q (g [⟨s 44,b .lss (t 43) (t 42),o⟩]) (q (c (t 44) k (x 2)) (q (B 3 (q (g [⟨s 45,a 3 (t 41) (t 43),o⟩,⟨s 46,l (s 3) (t 45),o⟩,⟨s 15,.new 110 [(i I 0),(i I 0),(i I 0)],o⟩,⟨o,S 3 (t 15) (t 46),o⟩]) (q (g [⟨s 47,f 2 (t 15),o⟩,⟨s 48,l o (t 47),o⟩,⟨s 49,f 1 (t 15),o⟩,⟨s 50,l o (t 49),o⟩,⟨s 51,b .sub (t 48) (t 50),o⟩,⟨s 52,m (t 2),o⟩,⟨s 53,b .lss (t 51) (t 52),o⟩,⟨s 54,m (t 53),o⟩,⟨s 55,l (s 3) (t 12),s (54,T)⟩,⟨s 56,l (s 3) (t 15),s (54,T)⟩,⟨s 57,C (v (F (J 108) [] [])) [t 55,t 56],s (54,T)⟩,⟨s 58,p (t 54) (t 57) (v (w U)),o⟩]) (c (t 58) (g [⟨s 59,m (t 13),o⟩,⟨s 60,l (s 3) (t 15),o⟩,⟨s 61,.buildSlice 110 3 1 [(i I 0),(i I 0),(i I 0)] [(0,3,(t 60))],o⟩,⟨s 62,.append 110 3 24 (t 59) (t 61),o⟩,⟨s 13,m (t 62),o⟩]) k)))) (g [⟨s 63,b .add (t 43) (v (i I 1)),o⟩,⟨s 43,m (t 63),o⟩]))))))) (q (g [⟨s 64,m (t 13),o⟩,⟨s 6,m (t 64),o⟩,⟨s 7,m (v (i I 0)),o⟩]) R)))))))),[.tmp 6,.tmp 7]⟩
def c85 : RFunc := ⟨11,.code (q (g [⟨s 1,.box 24 (t 0),o⟩,⟨s 2,.new 24 [(i I 0),(i I 0),N],o⟩]) (q (G [⟨⟨s 3,f 0 (t 1),o⟩,0,0,T⟩,⟨⟨s 4,l o (t 3),o⟩,1,1,T⟩,⟨⟨s 5,f 1 (t 1),o⟩,0,0,T⟩,⟨⟨s 6,l o (t 5),o⟩,4,1,T⟩,⟨⟨s 7,f 2 (t 1),o⟩,0,0,T⟩,⟨⟨s 8,l o (t 7),o⟩,16,1,T⟩,⟨⟨s 9,C (v (F (J 109) [] [])) [t 8],o⟩,48,2,U⟩,⟨⟨s 10,.build [(i I 0),(i I 0),N] [(0,1,(t 4)),(1,1,(t 6)),(2,1,(t 9))],o⟩,127,0,U⟩,⟨⟨o,S 3 (t 2) (t 10),o⟩,255,2,U⟩]) R)),[.cell 2 (some 3)]⟩
def c86 : RFunc := ⟨7,.code (q (g [⟨s 1,.box 24 (t 0),o⟩,⟨s 2,m (v (i I 0)),o⟩]) (q (g [⟨s 3,f 2 (t 1),o⟩,⟨s 4,l o (t 3),o⟩,⟨s 5,.buildSlice 5 1 1 [(i .u8 0)] [(0,1,(v (i .u8 1)))],o⟩,⟨s 6,C (v (F (J 91) [] [])) [t 4,t 5],o⟩,⟨s 2,m (t 6),o⟩]) R)),[.tmp 2]⟩
def c90 : RFunc := ⟨20,.code (q (g [⟨s 6,m (v (w U)),o⟩]) (q (g [⟨s 7,m (t 0),o⟩,⟨s 8,C (v (F (J 103) [] [])) [t 7],o⟩,⟨s 9,m (t 8),o⟩,⟨s 10,m (t 1),s (9,T)⟩,⟨s 11,C (v (F (J 103) [] [])) [t 10],s (9,T)⟩,⟨s 12,p (t 9) (t 11) (v (w U)),o⟩,⟨s 13,m (t 12),o⟩,⟨s 14,m (t 2),s (13,T)⟩,⟨s 15,m (t 0),s (13,T)⟩,⟨s 16,m (t 1),s (13,T)⟩,⟨s 17,b .mul (t 15) (t 16),s (13,T)⟩,⟨s 18,b .eql (t 14) (t 17),s (13,T)⟩,⟨s 19,p (t 13) (t 18) (v (w U)),o⟩,⟨s 6,m (t 19),o⟩]) R)),[.tmp 6]⟩
def c91 : RFunc := ⟨35,.code (q (g [⟨s 4,m (v (i I 0)),o⟩]) (q (q (g [⟨s 7,m (t 1),o⟩,⟨s 8,n (t 7),o⟩,⟨s 9,b .eql (t 8) (v (i I 0)),o⟩]) (c (t 9) (q (g [⟨s 10,m (t 0),o⟩,⟨s 11,C (v (F (J 110) [] [])) [t 10],o⟩,⟨s 12,b .add (t 11) (v (i I 1)),o⟩,⟨s 4,m (t 12),o⟩]) R) k)) (q (q (g [⟨s 13,m (t 1),o⟩,⟨s 14,n (t 13),o⟩,⟨s 15,b .eql (t 14) (v (i I 1)),o⟩]) (c (t 15) (q (g [⟨s 16,m (t 0),o⟩,⟨s 17,m (t 1),o⟩,⟨s 18,a 1 (t 17) (v (i I 0)),o⟩,⟨s 19,l o (t 18),o⟩,⟨s 20,C (v (F (J 111) [] [])) [t 16,t 19],o⟩,⟨s 4,m (t 20),o⟩]) R) k)) (q (g [⟨s 5,m (v (i I 0)),o⟩]) (B 0 (L (B 1 (q (g [⟨s 21,m (t 0),o⟩,⟨s 22,m (t 1),o⟩,⟨s 23,C (v (F (J 112) [] [])) [t 21,t 22],o⟩,⟨s 6,m (t 23),o⟩]) (q (q (g [⟨s 24,m (t 6),o⟩,⟨s 25,b .eql (t 24) (v (i I (-1))),o⟩]) (c (t 25) (q (g [⟨s 26,m (t 5),o⟩,⟨s 4,m (t 26),o⟩]) R) k)) (q (g [⟨s 27,m (t 5),o⟩,⟨s 28,b .add (t 27) (v (i I 1)),o⟩,⟨s 5,m (t 28),o⟩]) (g [⟨s 29,m (t 0),o⟩,⟨s 30,m (t 6),o⟩,⟨s 31,m (t 1),o⟩,⟨s 32,n (t 31),o⟩,⟨s 33,b .add (t 30) (t 32),o⟩,⟨s 34,.sliceS 1 (t 29) (s (t 33)) o o,o⟩,⟨s 0,m (t 34),o⟩]))))))))))),[.tmp 4]⟩
def c93 : RFunc := ⟨37,.code (q (g [⟨s 5,m (v (i I 0)),o⟩]) (q (g [⟨s 9,f 2 (t 2),o⟩,⟨s 10,l o (t 9),o⟩,⟨s 11,m (t 0),o⟩,⟨s 12,f 1 (t 2),o⟩,⟨s 13,l o (t 12),o⟩,⟨s 14,b .mul (t 11) (t 13),o⟩,⟨s 15,m (t 1),o⟩,⟨s 16,b .add (t 14) (t 15),o⟩,⟨s 17,a 1 (t 10) (t 16),o⟩,⟨s 18,l o (t 17),o⟩,⟨s 6,m (t 18),o⟩]) (q (q (g [⟨s 19,m (t 0),o⟩,⟨s 20,f 0 (t 2),o⟩,⟨s 21,l o (t 20),o⟩,⟨s 22,b .sub (t 21) (v (i I 1)),o⟩,⟨s 23,b .lss (t 19) (t 22),o⟩]) (c (t 23) (q (g [⟨s 25,l (s 4) (t 2),o⟩,⟨s 26,m (t 0),o⟩,⟨s 27,b .add (t 26) (v (i I 1)),o⟩,⟨s 28,C (v (F (J 95) [] [])) [t 25,t 27],o⟩,⟨s 29,m (t 1),o⟩,⟨s 30,C (v (F (J 94) [] [])) [t 28,t 29],o⟩,⟨s 24,m (t 30),o⟩,⟨s 31,e (t 24) 0,o⟩,⟨s 32,e (t 24) 1,o⟩,⟨s 7,m (t 31),o⟩,⟨s 8,m (t 32),o⟩]) (g [⟨s 33,m (t 6),o⟩,⟨s 34,m (t 8),o⟩,⟨s 35,b .add (t 33) (t 34),o⟩,⟨s 6,m (t 35),o⟩])) k)) (q (g [⟨s 36,m (t 6),o⟩,⟨s 5,m (t 36),o⟩]) R)))),[.tmp 5]⟩
def c94 : RFunc := ⟨28,.ranges (q (g [⟨s 2,.box 25 (t 0),o⟩,⟨s 3,.box 3 (t 1),o⟩,⟨s 4,.new 3 [(i I 0)],o⟩,⟨s 5,.new 3 [(i I 0)],o⟩]) (q (g [⟨o,S 1 (t 5) (v (i I 1920)),o⟩]) (q (q (g [⟨s 8,l o (t 3),o⟩,⟨s 9,l o (t 2),o⟩,⟨s 10,n (t 9),o⟩,⟨s 11,C (v (F (J 113) [] [])) [t 8,t 10],o⟩]) (B 0 (.rangeFunc [2,3,4,5,6,7,8,9,10,11,12,13,14,15,16,17,18,19,20,21,22,23,24,25,26,27,28,29,30,31,32,33,34,35,36,37,38,39,40,41,42,43,44,45,46,47,48,49,50,51,52,53,54,55,56,57,58,59,60,61,62,63,64,65,66,67,68,69,70,71,72,73,74,75,76,77,78,79,80,81,82,83,84,85,86,87,88,89,90,91,92,93,94,95,96,97,98,99,100,101,102,103,104,105,106,107,108,109,110,112,113,114,115,116,117,118,119,120,121,122,123,124,125,126,127,128,129,131,132,133,134,135,136,137,138,139,141,142] 28 (t 11) [12] (g [⟨s 6,m (t 12),o⟩]) (B 1 (q (G [⟨⟨s 13,l o (t 2),o⟩,0,1,T⟩,⟨⟨s 14,m (t 6),o⟩,0,0,T⟩,⟨⟨s 15,a 1 (t 13) (t 14),o⟩,3,0,T⟩,⟨⟨s 16,l o (t 15),o⟩,7,1,T⟩,⟨⟨s 17,l o (t 3),o⟩,0,1,T⟩,⟨⟨s 18,m (t 6),o⟩,0,0,T⟩,⟨⟨s 19,C (v (F (J 53) [] [])) [t 17,t 18],o⟩,48,2,U⟩,⟨⟨s 20,b .add (t 16) (t 19),o⟩,127,0,U⟩,⟨⟨s 7,m (t 20),o⟩,255,0,U⟩]) (q (g [⟨s 21,m (t 7),o⟩,⟨s 22,l o (t 5),o⟩,⟨s 23,b .lss (t 21) (t 22),o⟩]) (c (t 23) (g [⟨s 24,m (t 6),o⟩,⟨s 25,m (t 7),o⟩,⟨o,S 1 (t 4) (t 24),o⟩,⟨o,S 1 (t 5) (t 25),o⟩]) k))))))) (q (G [⟨⟨s 26,l o (t 4),o⟩,0,1,T⟩,⟨⟨s 27,l o (t 5),o⟩,0,1,T⟩,⟨⟨o,S 1 (t 4) (t 26),o⟩,1,2,U⟩,⟨⟨o,S 1 (t 5) (t 27),o⟩,7,2,U⟩]) R)))),[.cell 4 none,.cell 5 none]⟩
def c95 : RFunc := ⟨17,.code (q (g [⟨s 2,.box 83 (t 0),o⟩,⟨s 4,m (v N),o⟩]) (q (g [⟨s 5,f 3 (t 2),o⟩,⟨s 6,l o (t 5),o⟩,⟨s 7,m (t 1),o⟩,⟨s 8,f 1 (t 2),o⟩,⟨s 9,l o (t 8),o⟩,⟨s 10,b .mul (t 7) (t 9),o⟩,⟨s 11,m (t 1),o⟩,⟨s 12,b .add (t 11) (v (i I 1)),o⟩,⟨s 13,f 1 (t 2),o⟩,⟨s 14,l o (t 13),o⟩,⟨s 15,b .mul (t 12) (t 14),o⟩,⟨s 16,.sliceS 1 (t 6) (s (t 10)) (s (t 15)) o,o⟩,⟨s 4,m (t 16),o⟩]) R)),[.tmp 4]⟩
def c96 : RFunc := ⟨19,.code (q (g [⟨s 4,m (v (i I 0)),o⟩]) (q (q (g [⟨s 6,m (t 0),o⟩,⟨s 7,n (t 6),o⟩,⟨s 8,m (v (i I 0)),o⟩]) (B 0 (L (q (g [⟨s 9,b .lss (t 8) (t 7),o⟩]) (q (c (t 9) k (x 0)) (q (B 1 (q (g [⟨s 10,m (t 8),o⟩,⟨s 5,m (t 10),o⟩]) (q (g [⟨s 11,m (t 1),o⟩,⟨s 12,m (t 0),o⟩,⟨s 13,m (t 5),o⟩,⟨s 14,a 1 (t 12) (t 13),o⟩,⟨s 15,l o (t 14),o⟩,⟨s 16,b .eql (t 11) (t 15),o⟩]) (c (t 16) (q (g [⟨s 17,m (t 5),o⟩,⟨s 4,m (t 17),o⟩]) R) k)))) (g [⟨s 18,b .add (t 8) (v (i I 1)),o⟩,⟨s 8,m (t 18),o⟩]))))))) (q (g [⟨s 4,m (v (i I (-1))),o⟩]) R))),[.tmp 4]⟩
def c97 : RFunc := ⟨148,.code (q (g [⟨s 10,m (v (w T)),o⟩]) (q (g [⟨s 11,m (v (w T)),o⟩]) (B 0 (L (B 1 (q (g [⟨s 21,m (t 2),o⟩,⟨s 22,m (t 1),o⟩,⟨s 23,b .sub (t 21) (t 22),o⟩,⟨s 12,m (t 23),o⟩]) (q (q (g [⟨s 24,m (t 12),o⟩,⟨s 25,b .leq (t 24) (v (i I 12)),o⟩]) (c (t 25) (q (g [⟨s 26,m (t 0),o⟩,⟨s 27,m (t 1),o⟩,⟨s 28,m (t 2),o⟩,⟨s 29,m (t 4),o⟩,⟨s 30,C (v (F (J 114) [] [])) [t 26,t 27,t 28,t 29],o⟩]) R) k)) (q (q (g [⟨s 31,m (t 3),o⟩,⟨s 32,b .eql (t 31) (v (i I 0)),o⟩]) (c (t 32) (q (g [⟨s 33,m (t 0),o⟩,⟨s 34,m (t 1),o⟩,⟨s 35,m (t 2),o⟩,⟨s 36,m (t 4),o⟩,⟨s 37,C (v (F (J 115) [] [])) [t 33,t 34,t 35,t 36],o⟩]) R) k)) (q (q (g [⟨s 38,m (t 10),o⟩,⟨s 39,.un .not (t 38),o⟩]) (c (t 39) (q (g [⟨s 40,m (t 0),o⟩,⟨s 41,m (t 1),o⟩,⟨s 42,m (t 2),o⟩,⟨s 43,m (t 4),o⟩,⟨s 44,C (v (F (J 116) [] [])) [t 40,t 41,t 42,t 43],o⟩]) (g [⟨s 45,m (t 3),o⟩,⟨s 46,b .sub (t 45) (v (i I 1)),o⟩,⟨s 3,m (t 46),o⟩])) k)) (q (g [⟨s 48,m (t 0),o⟩,⟨s 49,m (t 1),o⟩,⟨s 50,m (t 2),o⟩,⟨s 51,m (t 4),o⟩,⟨s 52,C (v (F (J 117) [] [])) [t 48,t 49,t 50,t 51],o⟩,⟨s 47,m (t 52),o⟩,⟨s 53,e (t 47) 0,o⟩,⟨s 54,e (t 47) 1,o⟩,⟨s 13,m (t 53),o⟩,⟨s 14,m (t 54),o⟩]) (q (q (g [⟨s 55,m (t 14),o⟩,⟨s 56,b .eql (t 55) (v (i I 2)),o⟩]) (c (t 56) (q (g [⟨s 57,m (t 0),o⟩,⟨s 58,m (t 1),o⟩,⟨s 59,m (t 2),o⟩,⟨s 60,m (t 4),o⟩,⟨s 61,C (v (F (J 118) [] [])) [t 57,t 58,t 59,t 60],o⟩]) (q (g [⟨s 62,m (t 2),o⟩,⟨s 63,b .sub (t 62) (v (i I 1)),o⟩,⟨s 64,m (t 13),o⟩,⟨s 65,m (t 1),o⟩,⟨s 66,b .sub (t 64) (t 65),o⟩,⟨s 67,b .sub (t 63) (t 66),o⟩,⟨s 13,m (t 67),o⟩]) (g [⟨s 14,m (v (i I 1)),o⟩]))) k)) (q (q (g [⟨s 68,m (t 10),o⟩,⟨s 69,m (t 68),o⟩,⟨s 70,m (t 11),s (69,T)⟩,⟨s 71,p (t 69) (t 70) (v (w U)),o⟩,⟨s 72,m (t 71),o⟩,⟨s 73,m (t 14),s (72,T)⟩,⟨s 74,b .eql (t 73) (v (i I 1)),s (72,T)⟩,⟨s 75,p (t 72) (t 74) (v (w U)),o⟩]) (c (t 75) (q (g [⟨s 76,m (t 0),o⟩,⟨s 77,m (t 1),o⟩,⟨s 78,m (t 2),o⟩,⟨s 79,m (t 4),o⟩,⟨s 80,C (v (F (J 119) [] [])) [t 76,t 77,t 78,t 79],o⟩]) (c (t 80) R k)) k)) (q (q (G [⟨⟨s 81,m (t 1),o⟩,0,0,T⟩,⟨⟨s 82,b .gtr (t 81) (v (i I 0)),o⟩,1,0,T⟩,⟨⟨s 83,m (t 82),o⟩,3,0,T⟩,⟨⟨s 84,m (t 4),s (83,T)⟩,7,0,T⟩,⟨⟨s 85,m (t 0),s (83,T)⟩,7,0,T⟩,⟨⟨s 86,m (t 1),s (83,T)⟩,7,0,T⟩,⟨⟨s 87,b .sub (t 86) (v (i I 1)),s (83,T)⟩,39,0,T⟩,⟨⟨s 88,a 1 (t 85) (t 87),s (83,T)⟩,119,0,T⟩,⟨⟨s 89,l o (t 88),s (83,T)⟩,247,1,T⟩,⟨⟨s 90,m (t 0),s (83,T)⟩,7,0,T⟩,⟨⟨s 91,m (t 13),s (83,T)⟩,7,0,T⟩,⟨⟨s 92,a 1 (t 90) (t 91),s (83,T)⟩,1543,0,T⟩,⟨⟨s 93,l o (t 92),s (83,T)⟩,3591,1,T⟩,⟨⟨s 94,C (t 84) [t 89,t 93],s (83,T)⟩,8191,2,U⟩,⟨⟨s 95,b .lss (t 94) (v (i I 0)),s (83,T)⟩,16383,0,U⟩,⟨⟨s 96,.un .not (t 95),s (83,T)⟩,32767,0,U⟩,⟨⟨s 97,p (t 83) (t 96) (v (w U)),o⟩,65535,0,U⟩]) (c (t 97) (q (g [⟨s 98,m (t 0),o⟩,⟨s 99,m (t 1),o⟩,⟨s 100,m (t 2),o⟩,⟨s 101,m (t 13),o⟩,⟨s 102,m (t 4),o⟩,⟨s 103,C (v (F (J 120) [] [])) [t 98,t 99,t 100,t 101,t 102],o⟩,⟨s 15,m (t 103),o⟩]) (q (g [⟨s 104,m (t 15),o⟩,⟨s 1,m (t 104),o⟩]) (x 1))) k)) (q (g [⟨s 106,m (t 0),o⟩,⟨s 107,m (t 1),o⟩,⟨s 108,m (t 2),o⟩,⟨s 109,m (t 13),o⟩,⟨s 110,m (t 4),o⟩,⟨s 111,C (v (F (J 121) [] [])) [t 106,t 107,t 108,t 109,t 110],o⟩,⟨s 105,m (t 111),o⟩,⟨s 112,e (t 105) 0,o⟩,⟨s 113,e (t 105) 1,o⟩,⟨s 16,m (t 112),o⟩,⟨s 17,m (t 113),o⟩]) (q (g [⟨s 114,m (t 17),o⟩,⟨s 11,m (t 114),o⟩]) (q (g [⟨s 115,m (t 16),o⟩,⟨s 116,m (t 1),o⟩,⟨s 117,b .sub (t 115) (t 116),o⟩,⟨s 118,m (t 2),o⟩,⟨s 119,m (t 16),o⟩,⟨s 120,b .sub (t 118) (t 119),o⟩,⟨s 18,m (t 117),o⟩,⟨s 19,m (t 120),o⟩]) (q (g [⟨s 121,m (t 12),o⟩,⟨s 122,b .quo (t 121) (v (i I 8)),o⟩,⟨s 20,m (t 122),o⟩]) (q (g [⟨s 123,m (t 18),o⟩,⟨s 124,m (t 19),o⟩,⟨s 125,b .lss (t 123) (t 124),o⟩]) (c (t 125) (q (g [⟨s 126,m (t 18),o⟩,⟨s 127,m (t 20),o⟩,⟨s 128,b .geq (t 126) (t 127),o⟩,⟨s 10,m (t 128),o⟩]) (q (g [⟨s 129,m (t 0),o⟩,⟨s 130,m (t 1),o⟩,⟨s 131,m (t 16),o⟩,⟨s 132,m (t 3),o⟩,⟨s 133,m (t 4),o⟩,⟨s 134,C (v (F (J 97) [] [])) [t 129,t 130,t 131,t 132,t 133],o⟩]) (g [⟨s 135,m (t 16),o⟩,⟨s 136,b .add (t 135) (v (i I 1)),o⟩,⟨s 1,m (t 136),o⟩]))) (q (g [⟨s 137,m (t 19),o⟩,⟨s 138,m (t 20),o⟩,⟨s 139,b .geq (t 137) (t 138),o⟩,⟨s 10,m (t 139),o⟩]) (q (g [⟨s 140,m (t 0),o⟩,⟨s 141,m (t 16),o⟩,⟨s 142,b .add (t 141) (v (i I 1)),o⟩,⟨s 143,m (t 2),o⟩,⟨s 144,m (t 3),o⟩,⟨s 145,m (t 4),o⟩,⟨s 146,C (v (F (J 97) [] [])) [t 140,t 142,t 143,t 144,t 145],o⟩]) (g [⟨s 147,m (t 16),o⟩,⟨s 2,m (t 147),o⟩])))))))))))))))))))))),[]⟩
def c98 : RFunc := ⟨8,.code (q (g [⟨s 2,m (v (i I 0)),o⟩]) (q (c (v (w U)) (q (g [⟨s 3,m (t 0),o⟩,⟨s 4,.convInt .u32 (t 3),o⟩,⟨s 5,C (v (F (J 122) [] [])) [t 4],o⟩,⟨s 2,m (t 5),o⟩]) R) k) (q (g [⟨s 6,m (t 0),o⟩,⟨s 7,C (v (F (J 123) [] [])) [t 6],o⟩,⟨s 2,m (t 7),o⟩]) R))),[.tmp 2]⟩
def c99 : RFunc := ⟨6,.code (q (g [⟨s 2,m (v (w U)),o⟩]) (q (g [⟨s 3,m (t 0),o⟩,⟨s 4,m (t 0),o⟩,⟨s 5,b .neq (t 3) (t 4),o⟩,⟨s 2,m (t 5),o⟩]) R)),[.tmp 2]⟩
def c101 : RFunc := ⟨21,.code (q (g [⟨s 4,m (v (w U)),o⟩]) (q (q (g [⟨s 6,m (t 0),o⟩,⟨s 7,n (t 6),o⟩,⟨s 8,m (v (i I 0)),o⟩]) (B 0 (L (q (g [⟨s 9,b .lss (t 8) (t 7),o⟩]) (q (c (t 9) k (x 0)) (q (B 1 (q (g [⟨s 10,m (t 8),o⟩,⟨s 5,m (t 10),o⟩]) (q (G [⟨⟨s 11,m (t 0),o⟩,0,0,T⟩,⟨⟨s 12,m (t 5),o⟩,0,0,T⟩,⟨⟨s 13,a 1 (t 11) (t 12),o⟩,3,0,T⟩,⟨⟨s 14,l o (t 13),o⟩,7,1,T⟩,⟨⟨s 15,m (t 1),o⟩,0,0,T⟩,⟨⟨s 16,m (t 5),o⟩,0,0,T⟩,⟨⟨s 17,a 1 (t 15) (t 16),o⟩,48,0,T⟩,⟨⟨s 18,l o (t 17),o⟩,112,1,T⟩,⟨⟨s 19,b .geq (t 14) (t 18),o⟩,255,0,T⟩]) (c (t 19) (q (g [⟨s 4,m (v (w U)),o⟩]) R) k)))) (g [⟨s 20,b .add (t 8) (v (i I 1)),o⟩,⟨s 8,m (t 20),o⟩]))))))) (q (g [⟨s 4,m (v (w T)),o⟩]) R))),[.tmp 4]⟩
def c103 : RFunc := ⟨9,.code (q (g [⟨s 2,m (v (w U)),o⟩]) (q (g [⟨s 3,m (t 0),o⟩,⟨s 4,b .geq (t 3) (v (i I 0)),o⟩,⟨s 5,m (t 4),o⟩,⟨s 6,m (t 0),s (5,T)⟩,⟨s 7,b .leq (t 6) (v (i I 640)),s (5,T)⟩,⟨s 8,p (t 5) (t 7) (v (w U)),o⟩,⟨s 2,m (t 8),o⟩]) R)),[.tmp 2]⟩
def c104 : RFunc := ⟨12,.code (q (g [⟨s 4,.new 24 [(i I 0),(i I 0),N],o⟩]) (q (g [⟨s 5,m (t 0),o⟩,⟨s 6,m (t 1),o⟩,⟨s 7,m (t 0),o⟩,⟨s 8,m (t 1),o⟩,⟨s 9,b .mul (t 7) (t 8),o⟩,⟨s 10,.makeSlice 5 [(i .u8 0)] 1 (t 9) (t 9),o⟩,⟨s 11,.build [(i I 0),(i I 0),N] [(0,1,(t 5)),(1,1,(t 6)),(2,1,(t 10))],o⟩,⟨o,S 3 (t 4) (t 11),o⟩]) R)),[.cell 4 (some 3)]⟩
def c105 : RFunc := ⟨54,.code (q (g [⟨s 10,f 0 (t 1),o⟩,⟨s 11,l o (t 10),o⟩,⟨s 12,a 1 (t 11) (v (i I 4)),o⟩,⟨s 13,l o (t 12),o⟩,⟨s 14,n (t 13),o⟩,⟨s 15,m (v (i I 0)),o⟩]) (B 0 (L (q (g [⟨s 16,b .lss (t 15) (t 14),o⟩]) (q (c (t 16) k (x 0)) (q (B 1 (q (g [⟨s 17,m (t 15),o⟩,⟨s 18,a 1 (t 13) (t 15),o⟩,⟨s 19,l o (t 18),o⟩,⟨s 6,m (t 17),o⟩,⟨s 7,m (t 19),o⟩]) (q (g [⟨s 20,m (t 7),o⟩,⟨s 21,l o (t 2),o⟩,⟨s 22,b .sub (t 20) (t 21),o⟩,⟨s 8,m (t 22),o⟩]) (q (g [⟨s 23,m (t 8),o⟩,⟨s 24,.minmax T [t 23,(v (i I 0))],o⟩,⟨s 9,m (t 24),o⟩]) (B 2 (L (q (q (g [⟨s 25,m (t 9),o⟩,⟨s 26,m (t 8),o⟩,⟨s 27,f 1 (t 3),o⟩,⟨s 28,l o (t 27),o⟩,⟨s 29,b .add (t 26) (t 28),o⟩,⟨s 30,f 1 (t 4),o⟩,⟨s 31,l o (t 30),o⟩,⟨s 32,.minmax U [t 29,t 31],o⟩,⟨s 33,b .lss (t 25) (t 32),o⟩]) (c (t 33) k (x 2))) (q (B 3 (q (g [⟨s 36,m (t 0),o⟩,⟨s 37,m (t 9),o⟩,⟨s 38,f 0 (t 4),o⟩,⟨s 39,l o (t 38),o⟩,⟨s 40,b .mul (t 37) (t 39),o⟩,⟨s 41,m (t 6),o⟩,⟨s 42,b .add (t 40) (t 41),o⟩,⟨s 43,m (t 9),o⟩,⟨s 44,m (t 8),o⟩,⟨s 45,b .sub (t 43) (t 44),o⟩,⟨s 46,f 0 (t 3),o⟩,⟨s 47,l o (t 46),o⟩,⟨s 48,b .mul (t 45) (t 47),o⟩,⟨s 49,m (t 6),o⟩,⟨s 50,b .add (t 48) (t 49),o⟩,⟨s 51,C (t 36) [t 42,t 50],o⟩,⟨s 52,.un .not (t 51),o⟩]) (c (t 52) R k))) (g [⟨s 34,m (t 9),o⟩,⟨s 35,b .add (t 34) (v (i I 1)),o⟩,⟨s 9,m (t 35),o⟩]))))))))) (g [⟨s 53,b .add (t 15) (v (i I 1)),o⟩,⟨s 15,m (t 53),o⟩]))))))),[]⟩
def c106 : RFunc := ⟨24,.ranges (q (g [⟨s 1,.box 24 (t 0),o⟩,⟨s 2,m (v N),o⟩,⟨s 3,m (v (i I 0)),o⟩]) (q (q (g [⟨s 7,l (s 3) (t 1),o⟩,⟨s 8,C (v (F (J 50) [] [])) [t 7],o⟩,⟨s 4,m (t 8),o⟩]) (q (g [⟨s 9,m (t 4),o⟩,⟨s 10,b .neq (t 9) (v (i I 0)),o⟩]) (c (t 10) (q (g [⟨s 11,m (t 4),o⟩,⟨s 2,m (v N),o⟩,⟨s 3,m (t 11),o⟩]) R) k))) (q (g [⟨s 5,.new 106 [N],o⟩]) (q (q (g [⟨s 12,f 0 (t 1),o⟩,⟨s 13,l o (t 12),o⟩,⟨s 14,f 1 (t 1),o⟩,⟨s 15,l o (t 14),o⟩,⟨s 16,.mkFunc (J 125) [] [t 1],o⟩,⟨s 17,C (v (F (J 124) [] [])) [t 13,t 15,t 16],o⟩]) (B 0 (.rangeFunc [2,3,4,5,6,7,8,9,10,11,12,13,14,15,16,17,18,19,20,21,22,23,24,25,26,27,28,29,30,31,32,33,34,35,36,37,38,39,40,41,42,43,44,45,46,47,48,49,50,51,52,53,54,55,56,57,58,59,60,61,62,63,64,65,66,67,68,69,70,71,72,73,74,75,76,77,78,79,80,81,82,83,84,85,86,87,88,89,90,91,92,93,94,95,96,97,98,99,100,101,102,103,104,105,106,107,108,109,110,112,113,114,115,116,117,118,119,120,121,122,123,124,125,126,127,128,129,131,132,133,134,135,136,137,138,139,141,142] 24 (t 17) [18] (g [⟨s 6,.new 110 [(i I 0),(i I 0),(i I 0)],o⟩,⟨o,S 3 (t 6) (t 18),o⟩]) (B 1 (g [⟨s 19,l o (t 5),o⟩,⟨s 20,l (s 3) (t 6),o⟩,⟨s 21,.buildSlice 110 3 1 [(i I 0),(i I 0),(i I 0)] [(0,3,(t 20))],o⟩,⟨s 22,.append 110 3 24 (t 19) (t 21),o⟩,⟨o,S 1 (t 5) (t 22),o⟩]))))) (q (g [⟨s 23,l o (t 5),o⟩,⟨s 2,m (t 23),o⟩,⟨s 3,m (v (i I 0)),o⟩]) R))))),[.tmp 2,.tmp 3]⟩
def c107 : RFunc := ⟨53,.code (q (g [⟨s 6,.new 24 [(i I 0),(i I 0),N],o⟩]) (q (g [⟨s 14,m (t 0),o⟩,⟨s 15,m (t 1),o⟩,⟨s 16,m (t 0),o⟩,⟨s 17,m (t 1),o⟩,⟨s 18,b .mul (t 16) (t 17),o⟩,⟨s 19,.makeSlice 5 [(i .u8 0)] 1 (t 18) (t 18),o⟩,⟨s 20,.build [(i I 0),(i I 0),N] [(0,1,(t 14)),(1,1,(t 15)),(2,1,(t 19))],o⟩,⟨s 7,.new 24 [(i I 0),(i I 0),N],o⟩,⟨o,S 3 (t 7) (t 20),o⟩]) (q (q (g [⟨s 21,m (t 2),o⟩,⟨s 22,n (t 21),o⟩,⟨s 23,m (v (i I 0)),o⟩]) (B 0 (L (q (g [⟨s 24,b .lss (t 23) (t 22),o⟩]) (q (c (t 24) k (x 0)) (q (B 1 (q (g [⟨s 25,a 1 (t 21) (t 23),o⟩,⟨s 26,l (s 1) (t 25),o⟩,⟨s 9,.new 43 [N],o⟩,⟨o,S 1 (t 9) (t 26),o⟩]) (q (g [⟨s 27,f 0 (t 9),o⟩,⟨s 28,l o (t 27),o⟩,⟨s 29,n (t 28),o⟩,⟨s 30,m (v (i I 0)),o⟩]) (B 2 (L (q (g [⟨s 31,b .lss (t 30) (t 29),o⟩]) (q (c (t 31) k (x 2)) (q (B 3 (q (g [⟨s 32,a 1 (t 28) (t 30),o⟩,⟨s 33,l o (t 32),o⟩,⟨s 11,m (t 33),o⟩]) (q (g [⟨s 34,m (t 11),o⟩,⟨s 35,n (t 34),o⟩,⟨s 36,m (v (i I 0)),o⟩]) (B 4 (L (q (g [⟨s 37,b .lss (t 36) (t 35),o⟩]) (q (c (t 37) k (x 4)) (q (B 5 (q (g [⟨s 38,m (t 36),o⟩,⟨s 39,a 1 (t 34) (t 36),o⟩,⟨s 40,l o (t 39),o⟩,⟨s 12,m (t 38),o⟩,⟨s 13,m (t 40),o⟩]) (g [⟨s 41,f 2 (t 7),o⟩,⟨s 42,l o (t 41),o⟩,⟨s 43,m (t 13),o⟩,⟨s 44,m (t 0),o⟩,⟨s 45,b .mul (t 43) (t 44),o⟩,⟨s 46,m (t 12),o⟩,⟨s 47,b .add (t 45) (t 46),o⟩,⟨s 48,a 1 (t 42) (t 47),o⟩,⟨o,S 1 (t 48) (v (i .u8 1)),o⟩]))) (g [⟨s 49,b .add (t 36) (v (i I 1)),o⟩,⟨s 36,m (t 49),o⟩]))))))))) (g [⟨s 50,b .add (t 30) (v (i I 1)),o⟩,⟨s 30,m (t 50),o⟩]))))))))) (g [⟨s 51,b .add (t 23) (v (i I 1)),o⟩,⟨s 23,m (t 51),o⟩]))))))) (q (g [⟨s 52,l (s 3) (t 7),o⟩,⟨o,S 3 (t 6) (t 52),o⟩]) R)))),[.cell 6 (some 3)]⟩
def c108 : RFunc := ⟨26,.code (q (g [⟨s 2,.box 24 (t 0),o⟩,⟨s 3,.box 110 (t 1),o⟩,⟨s 4,m (v (w U)),o⟩]) (q (q (g [⟨s 6,f 1 (t 3),o⟩,⟨s 7,l o (t 6),o⟩,⟨s 5,m (t 7),o⟩]) (B 0 (L (q (q (g [⟨s 8,m (t 5),o⟩,⟨s 9,f 2 (t 3),o⟩,⟨s 10,l o (t 9),o⟩,⟨s 11,b .leq (t 8) (t 10),o⟩]) (c (t 11) k (x 0))) (q (B 1 (q (g [⟨s 14,f 2 (t 2),o⟩,⟨s 15,l o (t 14),o⟩,⟨s 16,m (t 5),o⟩,⟨s 17,f 0 (t 2),o⟩,⟨s 18,l o (t 17),o⟩,⟨s 19,b .mul (t 16) (t 18),o⟩,⟨s 20,f 0 (t 3),o⟩,⟨s 21,l o (t 20),o⟩,⟨s 22,b .add (t 19) (t 21),o⟩,⟨s 23,a 1 (t 15) (t 22),o⟩,⟨s 24,l o (t 23),o⟩,⟨s 25,b .eql (t 24) (v (i .u8 1)),o⟩]) (c (t 25) (q (g [⟨s 4,m (v (w T)),o⟩]) R) k))) (g [⟨s 12,m (t 5),o⟩,⟨s 13,b .add (t 12) (v (i I 1)),o⟩,⟨s 5,m (t 13),o⟩])))))) (q (g [⟨s 4,m (v (w U)),o⟩]) R))),[.tmp 4]⟩
def c109 : RFunc := ⟨8,.code (q (g [⟨s 2,m (v N),o⟩]) (q (q (g [⟨s 3,m (t 0),o⟩,⟨s 4,.eq U .slice (t 3) (v N),o⟩]) (c (t 4) (q (g [⟨s 2,m (v N),o⟩]) R) k)) (q (g [⟨s 5,.buildSlice 5 1 0 [] [],o⟩,⟨s 6,m (t 0),o⟩,⟨s 7,.append 5 1 1 (t 5) (t 6),o⟩,⟨s 2,m (t 7),o⟩]) R))),[.tmp 2]⟩
def c113 : RFunc := ⟨6,.code (q (g [⟨s 2,.box 3 (t 0),o⟩,⟨s 3,.box 3 (t 1),o⟩,⟨s 4,m (v .nfunc),o⟩]) (q (g [⟨s 5,.mkFunc (J 133) [] [t 2,t 3],o⟩,⟨s 4,m (t 5),o⟩]) R)),[.tmp 4]⟩
def c114 : RFunc := ⟨53,.code (q (g [⟨s 10,m (t 1),o⟩,⟨s 11,b .add (t 10) (v (i I 1)),o⟩,⟨s 8,m (t 11),o⟩]) (B 0 (L (q (q (g [⟨s 12,m (t 8),o⟩,⟨s 13,m (t 2),o⟩,⟨s 14,b .lss (t 12) (t 13),o⟩]) (c (t 14) k (x 0))) (q (B 1 (q (g [⟨s 17,m (t 8),o⟩,⟨s 9,m (t 17),o⟩]) (B 2 (L (q (q (G [⟨⟨s 18,m (t 9),o⟩,0,0,T⟩,⟨⟨s 19,m (t 1),o⟩,0,0,T⟩,⟨⟨s 20,b .gtr (t 18) (t 19),o⟩,3,0,T⟩,⟨⟨s 21,m (t 20),o⟩,7,0,T⟩,⟨⟨s 22,m (t 3),s (21,T)⟩,15,0,T⟩,⟨⟨s 23,m (t 0),s (21,T)⟩,15,0,T⟩,⟨⟨s 24,m (t 9),s (21,T)⟩,15,0,T⟩,⟨⟨s 25,a 1 (t 23) (t 24),s (21,T)⟩,111,0,T⟩,⟨⟨s 26,l o (t 25),s (21,T)⟩,239,1,T⟩,⟨⟨s 27,m (t 0),s (21,T)⟩,15,0,T⟩,⟨⟨s 28,m (t 9),s (21,T)⟩,15,0,T⟩,⟨⟨s 29,b .sub (t 28) (v (i I 1)),s (21,T)⟩,1039,0,T⟩,⟨⟨s 30,a 1 (t 27) (t 29),s (21,T)⟩,3599,0,T⟩,⟨⟨s 31,l o (t 30),s (21,T)⟩,7695,1,T⟩,⟨⟨s 32,C (t 22) [t 26,t 31],s (21,T)⟩,16383,2,U⟩,⟨⟨s 33,b .lss (t 32) (v (i I 0)),s (21,T)⟩,32767,0,U⟩,⟨⟨s 34,p (t 21) (t 33) (v (w U)),o⟩,65535,0,U⟩]) (c (t 34) k (x 2))) (q (B 3 (G [⟨⟨s 37,m (t 0),o⟩,0,0,T⟩,⟨⟨s 38,m (t 9),o⟩,0,0,T⟩,⟨⟨s 39,m (t 0),o⟩,0,0,T⟩,⟨⟨s 40,m (t 9),o⟩,0,0,T⟩,⟨⟨s 41,b .sub (t 40) (v (i I 1)),o⟩,8,0,T⟩,⟨⟨s 42,m (t 0),o⟩,0,0,T⟩,⟨⟨s 43,m (t 9),o⟩,0,0,T⟩,⟨⟨s 44,b .sub (t 43) (v (i I 1)),o⟩,64,0,T⟩,⟨⟨s 45,a 1 (t 42) (t 44),o⟩,224,0,T⟩,⟨⟨s 46,l o (t 45),o⟩,480,1,T⟩,⟨⟨s 47,m (t 0),o⟩,0,0,T⟩,⟨⟨s 48,m (t 9),o⟩,0,0,T⟩,⟨⟨s 49,a 1 (t 47) (t 48),o⟩,3072,0,T⟩,⟨⟨s 50,l o (t 49),o⟩,7168,1,T⟩,⟨⟨s 51,a 1 (t 37) (t 38),o⟩,16355,0,T⟩,⟨⟨o,S 1 (t 51) (t 46),o⟩,32739,2,U⟩,⟨⟨s 52,a 1 (t 39) (t 41),o⟩,65535,0,T⟩,⟨⟨o,S 1 (t 52) (t 50),o⟩,131071,2,U⟩])) (g [⟨s 35,m (t 9),o⟩,⟨s 36,b .sub (t 35) (v (i I 1)),o⟩,⟨s 9,m (t 36),o⟩]))))))) (g [⟨s 15,m (t 8),o⟩,⟨s 16,b .add (t 15) (v (i I 1)),o⟩,⟨s 8,m (t 16),o⟩])))))),[]⟩
def c117 : RFunc := ⟨63,.code (q (g [⟨s 8,m (v (i I 0)),o⟩,⟨s 9,m (v (i I 0)),o⟩]) (q (g [⟨s 15,m (t 2),o⟩,⟨s 16,m (t 1),o⟩,⟨s 17,b .sub (t 15) (t 16),o⟩,⟨s 10,m (t 17),o⟩]) (q (g [⟨s 11,.new 3 [(i I 0)],o⟩]) (q (g [⟨s 18,m (t 1),o⟩,⟨s 19,m (t 10),o⟩,⟨s 20,b .quo (t 19) (v (i I 4)),o⟩,⟨s 21,b .mul (t 20) (v (i I 1)),o⟩,⟨s 22,b .add (t 18) (t 21),o⟩,⟨s 12,m (t 22),o⟩]) (q (g [⟨s 23,m (t 1),o⟩,⟨s 24,m (t 10),o⟩,⟨s 25,b .quo (t 24) (v (i I 4)),o⟩,⟨s 26,b .mul (t 25) (v (i I 2)),o⟩,⟨s 27,b .add (t 23) (t 26),o⟩,⟨s 13,m (t 27),o⟩]) (q (g [⟨s 28,m (t 1),o⟩,⟨s 29,m (t 10),o⟩,⟨s 30,b .quo (t 29) (v (i I 4)),o⟩,⟨s 31,b .mul (t 30) (v (i I 3)),o⟩,⟨s 32,b .add (t 28) (t 31),o⟩,⟨s 14,m (t 32),o⟩]) (q (q (g [⟨s 33,m (t 10),o⟩,⟨s 34,b .geq (t 33) (v (i I 8)),o⟩]) (c (t 34) (q (q (g [⟨s 35,m (t 10),o⟩,⟨s 36,b .geq (t 35) (v (i I 50)),o⟩]) (c (t 36) (q (g [⟨s 37,m (t 0),o⟩,⟨s 38,m (t 12),o⟩,⟨s 39,m (t 3),o⟩,⟨s 40,C (v (F (J 137) [] [])) [t 37,t 38,t 11,t 39],o⟩,⟨s 12,m (t 40),o⟩]) (q (g [⟨s 41,m (t 0),o⟩,⟨s 42,m (t 13),o⟩,⟨s 43,m (t 3),o⟩,⟨s 44,C (v (F (J 137) [] [])) [t 41,t 42,t 11,t 43],o⟩,⟨s 13,m (t 44),o⟩]) (g [⟨s 45,m (t 0),o⟩,⟨s 46,m (t 14),o⟩,⟨s 47,m (t 3),o⟩,⟨s 48,C (v (F (J 137) [] [])) [t 45,t 46,t 11,t 47],o⟩,⟨s 14,m (t 48),o⟩]))) k)) (g [⟨s 49,m (t 0),o⟩,⟨s 50,m (t 12),o⟩,⟨s 51,m (t 13),o⟩,⟨s 52,m (t 14),o⟩,⟨s 53,m (t 3),o⟩,⟨s 54,C (v (F (J 138) [] [])) [t 49,t 50,t 51,t 52,t 11,t 53],o⟩,⟨s 13,m (t 54),o⟩])) k)) (q (g [⟨s 55,l o (t 11),o⟩]) (B 0 (q (g [⟨s 58,b .eql (t 55) (v (i I 0)),o⟩,⟨s 57,m (t 58),o⟩]) (c (t 57) (q (g [⟨s 59,m (t 13),o⟩,⟨s 8,m (t 59),o⟩,⟨s 9,m (v (i I 1)),o⟩]) R) (q (g [⟨s 61,b .eql (t 55) (v (i I 12)),o⟩,⟨s 60,m (t 61),o⟩]) (c (t 60) (q (g [⟨s 62,m (t 13),o⟩,⟨s 8,m (t 62),o⟩,⟨s 9,m (v (i I 2)),o⟩]) R) (q (g [⟨s 56,m (t 13),o⟩,⟨s 8,m (t 56),o⟩,⟨s 9,m (v (i I 0)),o⟩]) R)))))))))))))),[.tmp 8,.tmp 9]⟩
def c119 : RFunc := ⟨141,.code (q (g [⟨s 8,m (v (w U)),o⟩]) (q (g [⟨s 13,m (t 1),o⟩,⟨s 14,b .add (t 13) (v (i I 1)),o⟩,⟨s 9,m (t 14),o⟩]) (q (q (g [⟨s 10,m (v (i I 0)),o⟩]) (B 0 (L (q (q (g [⟨s 15,m (t 10),o⟩,⟨s 16,b .lss (t 15) (v (i I 5)),o⟩]) (c (t 16) k (x 0))) (q (B 1 (q (B 2 (L (q (q (G [⟨⟨s 19,m (t 9),o⟩,0,0,T⟩,⟨⟨s 20,m (t 2),o⟩,0,0,T⟩,⟨⟨s 21,b .lss (t 19) (t 20),o⟩,3,0,T⟩,⟨⟨s 22,m (t 21),o⟩,7,0,T⟩,⟨⟨s 23,m (t 3),s (22,T)⟩,15,0,T⟩,⟨⟨s 24,m (t 0),s (22,T)⟩,15,0,T⟩,⟨⟨s 25,m (t 9),s (22,T)⟩,15,0,T⟩,⟨⟨s 26,a 1 (t 24) (t 25),s (22,T)⟩,111,0,T⟩,⟨⟨s 27,l o (t 26),s (22,T)⟩,239,1,T⟩,⟨⟨s 28,m (t 0),s (22,T)⟩,15,0,T⟩,⟨⟨s 29,m (t 9),s (22,T)⟩,15,0,T⟩,⟨⟨s 30,b .sub (t 29) (v (i I 1)),s (22,T)⟩,1039,0,T⟩,⟨⟨s 31,a 1 (t 28) (t 30),s (22,T)⟩,3599,0,T⟩,⟨⟨s 32,l o (t 31),s (22,T)⟩,7695,1,T⟩,⟨⟨s 33,C (t 23) [t 27,t 32],s (22,T)⟩,16383,2,U⟩,⟨⟨s 34,b .lss (t 33) (v (i I 0)),s (22,T)⟩,32767,0,U⟩,⟨⟨s 35,.un .not (t 34),s (22,T)⟩,65535,0,U⟩,⟨⟨s 36,p (t 22) (t 35) (v (w U)),o⟩,131071,0,U⟩]) (c (t 36) k (x 2))) (B 3 (g [⟨s 37,m (t 9),o⟩,⟨s 38,b .add (t 37) (v (i I 1)),o⟩,⟨s 9,m (t 38),o⟩]))))) (q (q (g [⟨s 39,m (t 9),o⟩,⟨s 40,m (t 2),o⟩,⟨s 41,b .eql (t 39) (t 40),o⟩]) (c (t 41) (q (g [⟨s 8,m (v (w T)),o⟩]) R) k)) (q (q (g [⟨s 42,m (t 2),o⟩,⟨s 43,m (t 1),o⟩,⟨s 44,b .sub (t 42) (t 43),o⟩,⟨s 45,b .lss (t 44) (v (i I 50)),o⟩]) (c (t 45) (q (g [⟨s 8,m (v (w U)),o⟩]) R) k)) (q (G [⟨⟨s 46,m (t 0),o⟩,0,0,T⟩,⟨⟨s 47,m (t 9),o⟩,0,0,T⟩,⟨⟨s 48,m (t 0),o⟩,0,0,T⟩,⟨⟨s 49,m (t 9),o⟩,0,0,T⟩,⟨⟨s 50,b .sub (t 49) (v (i I 1)),o⟩,8,0,T⟩,⟨⟨s 51,m (t 0),o⟩,0,0,T⟩,⟨⟨s 52,m (t 9),o⟩,0,0,T⟩,⟨⟨s 53,b .sub (t 52) (v (i I 1)),o⟩,64,0,T⟩,⟨⟨s 54,a 1 (t 51) (t 53),o⟩,224,0,T⟩,⟨⟨s 55,l o (t 54),o⟩,480,1,T⟩,⟨⟨s 56,m (t 0),o⟩,0,0,T⟩,⟨⟨s 57,m (t 9),o⟩,0,0,T⟩,⟨⟨s 58,a 1 (t 56) (t 57),o⟩,3072,0,T⟩,⟨⟨s 59,l o (t 58),o⟩,7168,1,T⟩,⟨⟨s 60,a 1 (t 46) (t 47),o⟩,16355,0,T⟩,⟨⟨o,S 1 (t 60) (t 55),o⟩,32739,2,U⟩,⟨⟨s 61,a 1 (t 48) (t 50),o⟩,65535,0,T⟩,⟨⟨o,S 1 (t 61) (t 59),o⟩,131071,2,U⟩]) (q (q (g [⟨s 62,m (t 9),o⟩,⟨s 63,m (t 1),o⟩,⟨s 64,b .sub (t 62) (t 63),o⟩,⟨s 65,b .geq (t 64) (v (i I 2)),o⟩]) (c (t 65) (q (g [⟨s 66,m (t 9),o⟩,⟨s 67,b .sub (t 66) (v (i I 1)),o⟩,⟨s 11,m (t 67),o⟩]) (B 4 (L (q (q (g [⟨s 68,m (t 11),o⟩,⟨s 69,b .geq (t 68) (v (i I 1)),o⟩]) (c (t 69) k (x 4))) (q (B 5 (q (q (G [⟨⟨s 72,m (t 3),o⟩,0,0,T⟩,⟨⟨s 73,m (t 0),o⟩,0,0,T⟩,⟨⟨s 74,m (t 11),o⟩,0,0,T⟩,⟨⟨s 75,a 1 (t 73) (t 74),o⟩,6,0,T⟩,⟨⟨s 76,l o (t 75),o⟩,14,1,T⟩,⟨⟨s 77,m (t 0),o⟩,0,0,T⟩,⟨⟨s 78,m (t 11),o⟩,0,0,T⟩,⟨⟨s 79,b .sub (t 78) (v (i I 1)),o⟩,64,0,T⟩,⟨⟨s 80,a 1 (t 77) (t 79),o⟩,224,0,T⟩,⟨⟨s 81,l o (t 80),o⟩,480,1,T⟩,⟨⟨s 82,C (t 72) [t 76,t 81],o⟩,1023,2,U⟩,⟨⟨s 83,b .lss (t 82) (v (i I 0)),o⟩,2047,0,U⟩,⟨⟨s 84,.un .not (t 83),o⟩,4095,0,U⟩]) (c (t 84) (x 4) k)) (G [⟨⟨s 85,m (t 0),o⟩,0,0,T⟩,⟨⟨s 86,m (t 11),o⟩,0,0,T⟩,⟨⟨s 87,m (t 0),o⟩,0,0,T⟩,⟨⟨s 88,m (t 11),o⟩,0,0,T⟩,⟨⟨s 89,b .sub (t 88) (v (i I 1)),o⟩,8,0,T⟩,⟨⟨s 90,m (t 0),o⟩,0,0,T⟩,⟨⟨s 91,m (t 11),o⟩,0,0,T⟩,⟨⟨s 92,b .sub (t 91) (v (i I 1)),o⟩,64,0,T⟩,⟨⟨s 93,a 1 (t 90) (t 92),o⟩,224,0,T⟩,⟨⟨s 94,l o (t 93),o⟩,480,1,T⟩,⟨⟨s 95,m (t 0),o⟩,0,0,T⟩,⟨⟨s 96,m (t 11),o⟩,0,0,T⟩,⟨⟨s 97,a 1 (t 95) (t 96),o⟩,3072,0,T⟩,⟨⟨s 98,l o (t 97),o⟩,7168,1,T⟩,⟨⟨s 99,a 1 (t 85) (t 86),o⟩,16355,0,T⟩,⟨⟨o,S 1 (t 99) (t 94),o⟩,32739,2,U⟩,⟨⟨s 100,a 1 (t 87) (t 89),o⟩,65535,0,T⟩,⟨⟨o,S 1 (t 100) (t 98),o⟩,131071,2,U⟩]))) (g [⟨s 70,m (t 11),o⟩,⟨s 71,b .sub (t 70) (v (i I 1)),o⟩,⟨s 11,m (t 71),o⟩])))))) k)) (q (g [⟨s 101,m (t 2),o⟩,⟨s 102,m (t 9),o⟩,⟨s 103,b .sub (t 101) (t 102),o⟩,⟨s 104,b .geq (t 103) (v (i I 2)),o⟩]) (c (t 104) (q (g [⟨s 105,m (t 9),o⟩,⟨s 106,b .add (t 105) (v (i I 1)),o⟩,⟨s 12,m (t 106),o⟩]) (B 6 (L (q (q (g [⟨s 107,m (t 12),o⟩,⟨s 108,m (t 2),o⟩,⟨s 109,b .lss (t 107) (t 108),o⟩]) (c (t 109) k (x 6))) (q (B 7 (q (q (G [⟨⟨s 112,m (t 3),o⟩,0,0,T⟩,⟨⟨s 113,m (t 0),o⟩,0,0,T⟩,⟨⟨s 114,m (t 12),o⟩,0,0,T⟩,⟨⟨s 115,a 1 (t 113) (t 114),o⟩,6,0,T⟩,⟨⟨s 116,l o (t 115),o⟩,14,1,T⟩,⟨⟨s 117,m (t 0),o⟩,0,0,T⟩,⟨⟨s 118,m (t 12),o⟩,0,0,T⟩,⟨⟨s 119,b .sub (t 118) (v (i I 1)),o⟩,64,0,T⟩,⟨⟨s 120,a 1 (t 117) (t 119),o⟩,224,0,T⟩,⟨⟨s 121,l o (t 120),o⟩,480,1,T⟩,⟨⟨s 122,C (t 112) [t 116,t 121],o⟩,1023,2,U⟩,⟨⟨s 123,b .lss (t 122) (v (i I 0)),o⟩,2047,0,U⟩,⟨⟨s 124,.un .not (t 123),o⟩,4095,0,U⟩]) (c (t 124) (x 6) k)) (G [⟨⟨s 125,m (t 0),o⟩,0,0,T⟩,⟨⟨s 126,m (t 12),o⟩,0,0,T⟩,⟨⟨s 127,m (t 0),o⟩,0,0,T⟩,⟨⟨s 128,m (t 12),o⟩,0,0,T⟩,⟨⟨s 129,b .sub (t 128) (v (i I 1)),o⟩,8,0,T⟩,⟨⟨s 130,m (t 0),o⟩,0,0,T⟩,⟨⟨s 131,m (t 12),o⟩,0,0,T⟩,⟨⟨s 132,b .sub (t 131) (v (i I 1)),o⟩,64,0,T⟩,⟨⟨s 133,a 1 (t 130) (t 132),o⟩,224,0,T⟩,⟨⟨s 134,l o (t 133),o⟩,480,1,T⟩,⟨⟨s 135,m (t 0),o⟩,0,0,T⟩,⟨⟨s 136,m (t 12),o⟩,0,0,T⟩,⟨⟨s 137,a 1 (t 135) (t 136),o⟩,3072,0,T⟩,⟨⟨s 138,l o (t 137),o⟩,7168,1,T⟩,⟨⟨s 139,a 1 (t 125) (t 126),o⟩,16355,0,T⟩,⟨⟨o,S 1 (t 139) (t 134),o⟩,32739,2,U⟩,⟨⟨s 140,a 1 (t 127) (t 129),o⟩,65535,0,T⟩,⟨⟨o,S 1 (t 140) (t 138),o⟩,131071,2,U⟩]))) (g [⟨s 110,m (t 12),o⟩,⟨s 111,b .add (t 110) (v (i I 1)),o⟩,⟨s 12,m (t 111),o⟩])))))) k)))))))) (g [⟨s 17,m (t 10),o⟩,⟨s 18,b .add (t 17) (v (i I 1)),o⟩,⟨s 10,m (t 18),o⟩])))))) (q (g [⟨s 8,m (v (w U)),o⟩]) R)))),[.tmp 8]⟩
def c123 : RFunc := ⟨25,.code (q (g [⟨s 2,m (v (i I 0)),o⟩]) (q (q (g [⟨s 3,m (t 0),o⟩,⟨s 4,b .geq (t 3) (v (i .u64 4294967296)),o⟩]) (c (t 4) (q (g [⟨s 5,m (t 0),o⟩,⟨s 6,b .shr (t 5) (v (i .u64 32)),o⟩,⟨s 0,m (t 6),o⟩]) (g [⟨s 2,m (v (i I 32)),o⟩])) k)) (q (q (g [⟨s 7,m (t 0),o⟩,⟨s 8,b .geq (t 7) (v (i .u64 65536)),o⟩]) (c (t 8) (q (g [⟨s 9,m (t 0),o⟩,⟨s 10,b .shr (t 9) (v (i .u64 16)),o⟩,⟨s 0,m (t 10),o⟩]) (g [⟨s 11,m (t 2),o⟩,⟨s 12,b .add (t 11) (v (i I 16)),o⟩,⟨s 2,m (t 12),o⟩])) k)) (q (q (g [⟨s 13,m (t 0),o⟩,⟨s 14,b .geq (t 13) (v (i .u64 256)),o⟩]) (c (t 14) (q (g [⟨s 15,m (t 0),o⟩,⟨s 16,b .shr (t 15) (v (i .u64 8)),o⟩,⟨s 0,m (t 16),o⟩]) (g [⟨s 17,m (t 2),o⟩,⟨s 18,b .add (t 17) (v (i I 8)),o⟩,⟨s 2,m (t 18),o⟩])) k)) (q (g [⟨s 19,m (t 2),o⟩,⟨s 20,m (t 0),o⟩,⟨s 21,.convInt .u8 (t 20),o⟩,⟨s 22,.indexStr (v (.str ⟨#[0,1,2,2,3,3,3,3,4,4,4,4,4,4,4,4,5,5,5,5,5,5,5,5,5,5,5,5,5,5,5,5,6,6,6,6,6,6,6,6,6,6,6,6,6,6,6,6,6,6,6,6,6,6,6,6,6,6,6,6,6,6,6,6,7,7,7,7,7,7,7,7,7,7,7,7,7,7,7,7,7,7,7,7,7,7,7,7,7,7,7,7,7,7,7,7,7,7,7,7,7,7,7,7,7,7,7,7,7,7,7,7,7,7,7,7,7,7,7,7,7,7,7,7,7,7,7,7,8,8,8,8,8,8,8,8,8,8,8,8,8,8,8,8,8,8,8,8,8,8,8,8,8,8,8,8,8,8,8,8,8,8,8,8,8,8,8,8,8,8,8,8,8,8,8,8,8,8,8,8,8,8,8,8,8,8,8,8,8,8,8,8,8,8,8,8,8,8,8,8,8,8,8,8,8,8,8,8,8,8,8,8,8,8,8,8,8,8,8,8,8,8,8,8,8,8,8,8,8,8,8,8,8,8,8,8,8,8,8,8,8,8,8,8,8,8,8,8,8,8,8,8,8,8,8,8]⟩)) (t 21),o⟩,⟨s 23,.convInt I (t 22),o⟩,⟨s 24,b .add (t 19) (t 23),o⟩,⟨s 2,m (t 24),o⟩]) R))))),[.tmp 2]⟩
def c124 : RFunc := ⟨8,.code (q (g [⟨s 3,.box 3 (t 0),o⟩,⟨s 4,.box 3 (t 1),o⟩,⟨s 5,.box 90 (t 2),o⟩,⟨s 6,m (v .nfunc),o⟩]) (q (g [⟨s 7,.mkFunc (J 139) [] [t 3,t 4,t 5],o⟩,⟨s 6,m (t 7),o⟩]) R)),[.tmp 6]⟩
def c125 : RFunc := ⟨10,.code (q (g [⟨s 5,m (v (w U)),o⟩]) (q (g [⟨s 6,l (s 3) (t 2),o⟩,⟨s 7,m (t 0),o⟩,⟨s 8,m (t 1),o⟩,⟨s 9,C (v (F (J 126) [] [])) [t 6,t 7,t 8],o⟩,⟨s 5,m (t 9),o⟩]) R)),[.tmp 5]⟩
def c126 : RFunc := ⟨38,.code (q (g [⟨s 3,.box 24 (t 0),o⟩,⟨s 6,m (v (w U)),o⟩]) (q (g [⟨s 7,m (t 1),o⟩,⟨s 8,b .geq (t 7) (v (i I 0)),o⟩,⟨s 9,m (t 8),o⟩,⟨s 10,m (t 1),s (9,T)⟩,⟨s 11,f 0 (t 3),s (9,T)⟩,⟨s 12,l o (t 11),s (9,T)⟩,⟨s 13,b .lss (t 10) (t 12),s (9,T)⟩,⟨s 14,p (t 9) (t 13) (v (w U)),o⟩,⟨s 15,m (t 14),o⟩,⟨s 16,m (t 2),s (15,T)⟩,⟨s 17,b .geq (t 16) (v (i I 0)),s (15,T)⟩,⟨s 18,p (t 15) (t 17) (v (w U)),o⟩,⟨s 19,m (t 18),o⟩,⟨s 20,m (t 2),s (19,T)⟩,⟨s 21,f 1 (t 3),s (19,T)⟩,⟨s 22,l o (t 21),s (19,T)⟩,⟨s 23,b .lss (t 20) (t 22),s (19,T)⟩,⟨s 24,p (t 19) (t 23) (v (w U)),o⟩,⟨s 25,m (t 24),o⟩,⟨s 26,f 2 (t 3),s (25,T)⟩,⟨s 27,l o (t 26),s (25,T)⟩,⟨s 28,m (t 2),s (25,T)⟩,⟨s 29,f 0 (t 3),s (25,T)⟩,⟨s 30,l o (t 29),s (25,T)⟩,⟨s 31,b .mul (t 28) (t 30),s (25,T)⟩,⟨s 32,m (t 1),s (25,T)⟩,⟨s 33,b .add (t 31) (t 32),s (25,T)⟩,⟨s 34,a 1 (t 27) (t 33),s (25,T)⟩,⟨s 35,l o (t 34),s (25,T)⟩,⟨s 36,b .eql (t 35) (v (i .u8 1)),s (25,T)⟩,⟨s 37,p (t 25) (t 36) (v (w U)),o⟩,⟨s 6,m (t 37),o⟩]) R)),[.tmp 6]⟩
def c133 : RFunc := ⟨21,.code (q (g [⟨s 5,l o (t 1),o⟩,⟨s 6,b .sub (t 5) (v (i I 1)),o⟩,⟨s 7,.minmax T [t 6,(v (i I 0))],o⟩,⟨s 4,m (t 7),o⟩]) (B 0 (L (q (q (g [⟨s 8,m (t 4),o⟩,⟨s 9,l o (t 1),o⟩,⟨s 10,b .add (t 9) (v (i I 1)),o⟩,⟨s 11,l o (t 2),o⟩,⟨s 12,b .sub (t 11) (v (i I 1)),o⟩,⟨s 13,.minmax U [t 10,t 12],o⟩,⟨s 14,b .leq (t 8) (t 13),o⟩]) (c (t 14) k (x 0))) (q (B 1 (q (g [⟨s 17,m (t 0),o⟩,⟨s 18,m (t 4),o⟩,⟨s 19,C (t 17) [t 18],o⟩,⟨s 20,.un .not (t 19),o⟩]) (c (t 20) R k))) (g [⟨s 15,m (t 4),o⟩,⟨s 16,b .add (t 15) (v (i I 1)),o⟩,⟨s 4,m (t 16),o⟩])))))),[]⟩
def c138 : RFunc := ⟨41,.code (q (g [⟨s 12,m (v (i I 0)),o⟩]) (q (g [⟨s 14,m (t 0),o⟩,⟨s 15,m (t 1),o⟩,⟨s 16,m (t 2),o⟩,⟨s 17,m (t 4),o⟩,⟨s 18,m (t 5),o⟩,⟨s 19,C (v (F (J 142) [] [])) [t 14,t 15,t 16,t 17,t 18],o⟩,⟨s 13,m (t 19),o⟩,⟨s 20,e (t 13) 0,o⟩,⟨s 21,e (t 13) 1,o⟩,⟨s 1,m (t 20),o⟩,⟨s 2,m (t 21),o⟩]) (q (g [⟨s 23,m (t 0),o⟩,⟨s 24,m (t 2),o⟩,⟨s 25,m (t 3),o⟩,⟨s 26,m (t 4),o⟩,⟨s 27,m (t 5),o⟩,⟨s 28,C (v (F (J 142) [] [])) [t 23,t 24,t 25,t 26,t 27],o⟩,⟨s 22,m (t 28),o⟩,⟨s 29,e (t 22) 0,o⟩,⟨s 30,e (t 22) 1,o⟩,⟨s 2,m (t 29),o⟩,⟨s 3,m (t 30),o⟩]) (q (g [⟨s 32,m (t 0),o⟩,⟨s 33,m (t 1),o⟩,⟨s 34,m (t 2),o⟩,⟨s 35,m (t 4),o⟩,⟨s 36,m (t 5),o⟩,⟨s 37,C (v (F (J 142) [] [])) [t 32,t 33,t 34,t 35,t 36],o⟩,⟨s 31,m (t 37),o⟩,⟨s 38,e (t 31) 0,o⟩,⟨s 39,e (t 31) 1,o⟩,⟨s 1,m (t 38),o⟩,⟨s 2,m (t 39),o⟩]) (q (g [⟨s 40,m (t 2),o⟩,⟨s 12,m (t 40),o⟩]) R))))),[.tmp 12]⟩
def c139 : RFunc := ⟨44,.code (q (g [⟨s 8,l o (t 1),o⟩,⟨s 9,m (v (i I 0)),o⟩]) (B 0 (L (q (g [⟨s 10,b .lss (t 9) (t 8),o⟩]) (q (c (t 10) k (x 0)) (q (B 1 (q (g [⟨s 11,m (t 9),o⟩,⟨s 5,m (t 11),o⟩]) (q (g [⟨s 6,m (v (i I 0)),o⟩]) (B 2 (L (q (q (g [⟨s 12,m (t 6),o⟩,⟨s 13,l o (t 2),o⟩,⟨s 14,b .lss (t 12) (t 13),o⟩]) (c (t 14) k (x 2))) (q (B 3 (q (q (g [⟨s 17,l o (t 3),o⟩,⟨s 18,m (t 5),o⟩,⟨s 19,m (t 6),o⟩,⟨s 20,C (t 17) [t 18,t 19],o⟩,⟨s 21,.un .not (t 20),o⟩]) (c (t 21) (x 3) k)) (q (g [⟨s 22,m (t 6),o⟩,⟨s 7,m (t 22),o⟩]) (q (B 4 (L (q (q (g [⟨s 23,m (t 6),o⟩,⟨s 24,b .add (t 23) (v (i I 1)),o⟩,⟨s 25,l o (t 2),o⟩,⟨s 26,b .lss (t 24) (t 25),o⟩,⟨s 27,m (t 26),o⟩,⟨s 28,l o (t 3),s (27,T)⟩,⟨s 29,m (t 5),s (27,T)⟩,⟨s 30,m (t 6),s (27,T)⟩,⟨s 31,b .add (t 30) (v (i I 1)),s (27,T)⟩,⟨s 32,C (t 28) [t 29,t 31],s (27,T)⟩,⟨s 33,p (t 27) (t 32) (v (w U)),o⟩]) (c (t 33) k (x 4))) (B 5 (g [⟨s 34,m (t 6),o⟩,⟨s 35,b .add (t 34) (v (i I 1)),o⟩,⟨s 6,m (t 35),o⟩]))))) (q (g [⟨s 36,m (t 0),o⟩,⟨s 37,m (t 5),o⟩,⟨s 38,m (t 7),o⟩,⟨s 39,m (t 6),o⟩,⟨s 40,.build [(i I 0),(i I 0),(i I 0)] [(0,1,(t 37)),(1,1,(t 38)),(2,1,(t 39))],o⟩,⟨s 41,C (t 36) [t 40],o⟩,⟨s 42,.un .not (t 41),o⟩]) (c (t 42) R k)))))) (g [⟨s 15,m (t 6),o⟩,⟨s 16,b .add (t 15) (v (i I 1)),o⟩,⟨s 6,m (t 16),o⟩])))))))) (g [⟨s 43,b .add (t 9) (v (i I 1)),o⟩,⟨s 9,m (t 43),o⟩]))))))),[]⟩
def c142 : RFunc := ⟨32,.code (q (g [⟨s 10,m (v (i I 0)),o⟩,⟨s 11,m (v (i I 0)),o⟩]) (q (q (G [⟨⟨s 12,m (t 4),o⟩,0,0,T⟩,⟨⟨s 13,m (t 0),o⟩,0,0,T⟩,⟨⟨s 14,m (t 2),o⟩,0,0,T⟩,⟨⟨s 15,a 1 (t 13) (t 14),o⟩,6,0,T⟩,⟨⟨s 16,l o (t 15),o⟩,14,1,T⟩,⟨⟨s 17,m (t 0),o⟩,0,0,T⟩,⟨⟨s 18,m (t 1),o⟩,0,0,T⟩,⟨⟨s 19,a 1 (t 17) (t 18),o⟩,96,0,T⟩,⟨⟨s 20,l o (t 19),o⟩,224,1,T⟩,⟨⟨s 21,C (t 12) [t 16,t 20],o⟩,511,2,U⟩,⟨⟨s 22,b .lss (t 21) (v (i I 0)),o⟩,1023,0,U⟩]) (c (t 22) (q (g [⟨s 23,m (t 3),o⟩,⟨s 24,.nilCheck (t 23),o⟩,⟨s 25,l o (t 24),o⟩,⟨s 26,b .add (t 25) (v (i I 1)),o⟩,⟨s 27,.nilCheck (t 23),o⟩,⟨o,S 1 (t 27) (t 26),o⟩]) (q (g [⟨s 28,m (t 2),o⟩,⟨s 29,m (t 1),o⟩,⟨s 10,m (t 28),o⟩,⟨s 11,m (t 29),o⟩]) R)) k)) (q (g [⟨s 30,m (t 1),o⟩,⟨s 31,m (t 2),o⟩,⟨s 10,m (t 30),o⟩,⟨s 11,m (t 31),o⟩]) R))),[.tmp 10,.tmp 11]⟩
end
end Go.Am

namespace Go.Am
open Go
def ext : Exts := fun k args => match k with
  | 0 => aCount args
  | 1 => aIndexByte args
  | 2 => aSelf args
  | 3 => aClosed aroundT (.bool true) args
  | _ => M.fail
def prog0 : FuncId → Option RFunc := fun f => (cond (Nat.blt f 72) (cond (Nat.blt f 50) (cond (Nat.blt f 18) (cond (Nat.blt f 15) (cond (Nat.blt f 14) (cond (Nat.beq f 12) (some c12) none) (cond (Nat.beq f 14) (some c14) none)) (cond (Nat.blt f 17) (cond (Nat.beq f 15) (some c15) none) (cond (Nat.beq f 17) (some c17) none))) (cond (Nat.blt f 47) (cond (Nat.blt f 27) (cond (Nat.beq f 18) (some c18) none) (cond (Nat.beq f 27) (some c27) none)) (cond (Nat.blt f 48) (cond (Nat.beq f 47) (some c47) none) (cond (Nat.beq f 48) (some c48) none)))) (cond (Nat.blt f 56) (cond (Nat.blt f 52) (cond (Nat.blt f 51) (cond (Nat.beq f 50) (some c50) none) (cond (Nat.beq f 51) (some c51) none)) (cond (Nat.blt f 53) (cond (Nat.beq f 52) (some c52) none) (cond (Nat.beq f 53) (some c53) none))) (cond (Nat.blt f 58) (cond (Nat.blt f 57) (cond (Nat.beq f 56) (some c56) none) (cond (Nat.beq f 57) (some c57) none)) (cond (Nat.blt f 59) (cond (Nat.beq f 58) (some c58) none) (cond (Nat.blt f 60) (cond (Nat.beq f 59) (some c59) none) (cond (Nat.beq f 60) (some c60) none)))))) (cond (Nat.blt f 96) (cond (Nat.blt f 90) (cond (Nat.blt f 79) (cond (Nat.blt f 73) (cond (Nat.beq f 72) (some c72) none) (cond (Nat.beq f 73) (some c73) none)) (cond (Nat.blt f 86) (cond (Nat.beq f 79) (some c79) none) (cond (Nat.beq f 86) (some c86) none))) (cond (Nat.blt f 93) (cond (Nat.blt f 91) (cond (Nat.beq f 90) (some c90) none) (cond (Nat.beq f 91) (some c91) none)) (cond (Nat.blt f 94) (cond (Nat.beq f 93) (some c93) none) (cond (Nat.blt f 95) (cond (Nat.beq f 94) (some c94) none) (cond (Nat.beq f 95) (some c95) none))))) (cond (Nat.blt f 111) (cond (Nat.blt f 98) (cond (Nat.blt f 97) (cond (Nat.beq f 96) (some c96) none) (cond (Nat.beq f 97) (some c97) none)) (cond (Nat.blt f 103) (cond (Nat.beq f 98) (some c98) none) (cond (Nat.beq f 103) (some c103) none))) (cond (Nat.blt f 114) (cond (Nat.blt f 113) (cond (Nat.beq f 111) (some ⟨0, .ext 0, []⟩) none) (cond (Nat.beq f 113) (some c113) none)) (cond (Nat.blt f 123) (cond (Nat.beq f 114) (some c114) none) (cond (Nat.blt f 133) (cond (Nat.beq f 123) (some c123) none) (cond (Nat.beq f 133) (some c133) none)))))))
def prog : FuncId → Option RFunc := fun f => (cond (Nat.blt f 84) (cond (Nat.blt f 53) (cond (Nat.blt f 33) (cond (Nat.blt f 21) (cond (Nat.blt f 14) (cond (Nat.blt f 12) (cond (Nat.beq f 6) (some c6) none) (cond (Nat.beq f 12) (some ⟨0, .ext 3, []⟩) none)) (cond (Nat.blt f 18) (cond (Nat.beq f 14) (some c14) none) (cond (Nat.beq f 18) (some c18) none))) (cond (Nat.blt f 28) (cond (Nat.blt f 27) (cond (Nat.beq f 21) (some c21) none) (cond (Nat.beq f 27) (some c27) none)) (cond (Nat.blt f 31) (cond (Nat.beq f 28) (some c28) none) (cond (Nat.beq f 31) (some c31) none)))) (cond (Nat.blt f 38) (cond (Nat.blt f 36) (cond (Nat.blt f 35) (cond (Nat.beq f 33) (some c33) none) (cond (Nat.beq f 35) (some c35) none)) (cond (Nat.blt f 37) (cond (Nat.beq f 36) (some c36) none) (cond (Nat.beq f 37) (some c37) none))) (cond (Nat.blt f 50) (cond (Nat.blt f 39) (cond (Nat.beq f 38) (some c38) none) (cond (Nat.beq f 39) (some c39) none)) (cond (Nat.blt f 51) (cond (Nat.beq f 50) (some c50) none) (cond (Nat.blt f 52) (cond (Nat.beq f 51) (some c51) none) (cond (Nat.beq f 52) (some c52) none)))))) (cond (Nat.blt f 65) (cond (Nat.blt f 59) (cond (Nat.blt f 57) (cond (Nat.blt f 56) (cond (Nat.beq f 53) (some c53) none) (cond (Nat.beq f 56) (some c56) none)) (cond (Nat.blt f 58) (cond (Nat.beq f 57) (some c57) none) (cond (Nat.beq f 58) (some c58) none))) (cond (Nat.blt f 61) (cond (Nat.blt f 60) (cond (Nat.beq f 59) (some c59) none) (cond (Nat.beq f 60) (some c60) none)) (cond (Nat.blt f 62) (cond (Nat.beq f 61) (some c61) none) (cond (Nat.beq f 62) (some c62) none)))) (cond (Nat.blt f 79) (cond (Nat.blt f 73) (cond (Nat.blt f 72) (cond (Nat.beq f 65) (some c65) none) (cond (Nat.beq f 72) (some c72) none)) (cond (Nat.blt f 75) (cond (Nat.beq f 73) (some c73) none) (cond (Nat.beq f 75) (some c75) none))) (cond (Nat.blt f 81) (cond (Nat.blt f 80) (cond (Nat.beq f 79) (some c79) none) (cond (Nat.beq f 80) (some c80) none)) (cond (Nat.blt f 82) (cond (Nat.beq f 81) (some c81) none) (cond (Nat.blt f 83) (cond (Nat.beq f 82) (some c82) none) (cond (Nat.beq f 83) (some c83) none))))))) (cond (Nat.blt f 107) (cond (Nat.blt f 96) (cond (Nat.blt f 91) (cond (Nat.blt f 86) (cond (Nat.blt f 85) (cond (Nat.beq f 84) (some c84) none) (cond (Nat.beq f 85) (some c85) none)) (cond (Nat.blt f 90) (cond (Nat.beq f 86) (some c86) none) (cond (Nat.beq f 90) (some c90) none))) (cond (Nat.blt f 94) (cond (Nat.blt f 93) (cond (Nat.beq f 91) (some c91) none) (cond (Nat.beq f 93) (some c93) none)) (cond (Nat.blt f 95) (cond (Nat.beq f 94) (some c94) none) (cond (Nat.beq f 95) (some c95) none)))) (cond (Nat.blt f 101) (cond (Nat.blt f 98) (cond (Nat.blt f 97) (cond (Nat.beq f 96) (some c96) none) (cond (Nat.beq f 97) (some c97) none)) (cond (Nat.blt f 99) (cond (Nat.beq f 98) (some c98) none) (cond (Nat.beq f 99) (some c99) none))) (cond (Nat.blt f 104) (cond (Nat.blt f 103) (cond (Nat.beq f 101) (some c101) none) (cond (Nat.beq f 103) (some c103) none)) (cond (Nat.blt f 105) (cond (Nat.beq f 104) (some c104) none) (cond (Nat.blt f 106) (cond (Nat.beq f 105) (some c105) none) (cond (Nat.beq f 106) (some c106) none)))))) (cond (Nat.blt f 123) (cond (Nat.blt f 113) (cond (Nat.blt f 109) (cond (Nat.blt f 108) (cond (Nat.beq f 107) (some c107) none) (cond (Nat.beq f 108) (some c108) none)) (cond (Nat.blt f 111) (cond (Nat.beq f 109) (some c109) none) (cond (Nat.beq f 111) (some ⟨0, .ext 0, []⟩) none))) (cond (Nat.blt f 117) (cond (Nat.blt f 114) (cond (Nat.beq f 113) (some c113) none) (cond (Nat.beq f 114) (some c114) none)) (cond (Nat.blt f 119) (cond (Nat.beq f 117) (some c117) none) (cond (Nat.beq f 119) (some c119) none)))) (cond (Nat.blt f 133) (cond (Nat.blt f 125) (cond (Nat.blt f 124) (cond (Nat.beq f 123) (some c123) none) (cond (Nat.beq f 124) (some c124) none)) (cond (Nat.blt f 126) (cond (Nat.beq f 125) (some c125) none) (cond (Nat.beq f 126) (some c126) none))) (cond (Nat.blt f 139) (cond (Nat.blt f 138) (cond (Nat.beq f 133) (some c133) none) (cond (Nat.beq f 138) (some c138) none)) (cond (Nat.blt f 140) (cond (Nat.beq f 139) (some c139) none) (cond (Nat.blt f 142) (cond (Nat.beq f 140) (some ⟨0, .ext 1, []⟩) none) (cond (Nat.beq f 142) (some c142) none))))))))
end Go.Am

namespace Go.Am
open Go Go.RowKit
section
variable {P : Program} {S : Base} {m : RMap} {H H' : AHeap} {w : World}
theorem aBytesFn_some {f : List UInt8 → AVal} {e : Array Value → Sem Value} {bv : Value} (hstr : ∀ (s : ByteArray) (w : World), ∃ y, (e #[.string s, bv]).run P w = .ok y w ∧ emb m (f s.data.toList) = some y)
    (hnil : ∀ (l c : Nat) (w : World), ∃ y, (e #[.slice none l c, bv]).run P w = .ok y w ∧ emb m (f []) = some y)
    (hsl : ∀ (a : Addr) (n c : Nat) (xs : List Int) (w : World), xs.length = n → (∀ j x, xs[j]? = some x → w.cell? (a.add j) = some (.int .u8 x)) → ∃ y, (e #[.slice (some a) n c, bv]).run P w = .ok y w ∧ emb m (f (xs.map fun n => UInt8.ofNat n.toNat)) = some y)
    {av u : AVal} {x : Value} (ha : emb m av = some x) (h : HRel S m H w) (hx : aBytesFn f av H = some (u, H')) : ∃ y, (e #[x, bv]).run P w = .ok y w ∧ Out S m u H' y w := by
  cases av with
  | nslice =>
    obtain ⟨rfl, rfl⟩ := pure_some hx
    simp only [emb] at ha; cases ha
    obtain ⟨y, h1, h2⟩ := hnil 0 0 w
    exact ⟨y, h1, Out.same h h2⟩
  | str s =>
    obtain ⟨rfl, rfl⟩ := pure_some hx
    simp only [emb] at ha; cases ha
    obtain ⟨y, h1, h2⟩ := hstr s w
    exact ⟨y, h1, Out.same h h2⟩
  | slice r off len cap s =>
    obtain ⟨p, hp, rfl⟩ := emb_slice_some ha
    simp only [aBytesFn] at hx
    by_cases hs : s ≠ 1
    · rw [if_pos hs] at hx; exact (fail_some hx).elim
    · rw [if_neg hs] at hx
      obtain ⟨⟨cs, rw⟩, H1, h1, h2⟩ := bind_some hx
      obtain ⟨rfl, hr, e', hg⟩ := aRow_some h1
      simp only [] at h2
      by_cases hq : off + len ≤ cs.length
      · rw [if_pos hq] at h2
        cases hb : bytesOf ((cs.drop off).take len) with
        | none => rw [hb] at h2; exact (fail_some h2).elim
        | some l =>
          rw [hb] at h2
          obtain ⟨rfl, rfl⟩ := pure_some h2
          obtain ⟨ns, hns, rfl⟩ := bytesOf_some hb
          have hok := h.row r cs rw e' p hr hg hp
          have hlen : ns.length = len := by
            have h1 : ((cs.drop off).take len).length = len := by simp; omega
            rw [hns] at h1; simpa using h1
          obtain ⟨y, h3, h4⟩ := hsl (p.1.add off) len (capR cap ((p.2 - off) / s)) ns w hlen fun j b hj => by
            have hjn : j < len := by rw [← hlen]; exact (List.getElem?_eq_some_iff.1 hj).1
            have h1 : cs[off + j]? = some (.int .u8 b) := by
              have h2 : ((cs.drop off).take len)[j]? = some (.int .u8 b) := by rw [hns]; simp [hj]
              rw [List.getElem?_take_of_lt hjn, List.getElem?_drop] at h2; exact h2
            obtain ⟨y, h3, h4⟩ := hok.cell _ _ h1
            simp only [emb] at h3; cases h3
            rw [add_add]; exact h4
          exact ⟨y, h3, Out.same h h4⟩
      · rw [if_neg hq] at h2; exact (fail_some h2).elim
  | _ => exact (fail_some (H := H) hx).elim
theorem yields_extern {f : FuncId} {fn : Func} {e : Array Value → Sem Value} (hf : P.funcs[f]? = some fn) (hname : (fn.name == "runtime.NumGoroutine") = false)
    (hb : fn.body.isNone = true) (hn : Extern.findNext fn = none) (he : Extern.find fn = some e) {args : Array Value} {y : Value} {R : Value → World → Prop} (hr : (e args).run P w = .ok y w) (h : R y w) : Yields P (callFunc f args) w R := by
  unfold Yields
  rw [run_callFunc_extern hf hname hb hn he, hr]
  exact h
theorem sem_bind_of {α β : Type} {P : Program} {w : World} {x : Sem α} {f : α → Sem β} {a : α} {w' : World} {r : Result β} (h : x.run P w = .ok a w') (h2 : (x >>= f).run P w = r) : (f a).run P w' = r := by
  rw [← h2]
  simp [h]
theorem ext_count {ext : Exts} {k : Nat} (hk : ext k = aCount) {f : FuncId} {fn : Func} (hf : P.funcs[f]? = some fn) (hname : (fn.name == "runtime.NumGoroutine") = false)
    (hb : fn.body.isNone = true) (hn : Extern.findNext fn = none) (he : Extern.find fn = some Extern.BytealgCount.count) : ExtSim P ext f k := by
  intro S args H v H' m w vargs hG hx h ha
  rw [hk] at hx
  match args, hx, ha with
  | [x, .int .u8 b], hx, ha =>
    obtain ⟨y, ys, h1, h2, rfl⟩ := embL_cons ha
    obtain ⟨z, zs, h3, h4, rfl⟩ := embL_cons h2
    simp only [embL] at h4; cases h4
    simp only [emb] at h3; cases h3
    obtain ⟨q, h5, h6⟩ := aBytesFn_some (P := P) (e := Extern.BytealgCount.count) (bv := .int .u8 b) (f := fun l => .int .i64 (Lib.countByte l (UInt8.ofNat b.toNat)))
      (fun s w => ⟨_, Lib.run_countString s b w, by simp [emb] <;> rfl⟩)
      (fun l c w => ⟨_, Lib.run_countString .empty b w, by simp [emb] <;> rfl⟩)
      (fun a n c xs w hl hc => by
        have hload := Lib.run_loadBytesX (P := P) w xs a .empty hc
        rw [hl] at hload
        have hs := Lib.run_countString (P := P) ⟨(Lib.bytesOf xs).toArray⟩ b w
        have he : (⟨ByteArray.empty.data ++ (Lib.bytesOf xs).toArray⟩ : ByteArray) = ⟨(Lib.bytesOf xs).toArray⟩ := by
          apply ByteArray.ext
          show (#[] : Array UInt8) ++ (Lib.bytesOf xs).toArray = (Lib.bytesOf xs).toArray
          simp
        rw [he] at hload
        refine ⟨.int .i64 (Lib.countByte (Lib.bytesOf xs) b.toNat.toUInt8), ?_, by simp [emb] <;> rfl⟩
        have hb1 : (Extern.Bytes.bytesOf (.slice (some a) n c)).run P w = .ok ⟨(Lib.bytesOf xs).toArray⟩ w := by simpa [Extern.Bytes.bytesOf] using hload
        have hb2 : (Extern.Bytes.bytesOf (.string ⟨(Lib.bytesOf xs).toArray⟩)).run P w = .ok ⟨(Lib.bytesOf xs).toArray⟩ w := by simp [Extern.Bytes.bytesOf]
        refine sem_bind_ok hb1 ?_
        have hs2 := sem_bind_of hb2 hs
        exact hs2) h1 h hx
    exact yields_extern hf hname hb hn he h5 h6
theorem ext_indexByte {ext : Exts} {k : Nat} (hk : ext k = aIndexByte) {f : FuncId} {fn : Func} (hf : P.funcs[f]? = some fn) (hname : (fn.name == "runtime.NumGoroutine") = false)
    (hb : fn.body.isNone = true) (hn : Extern.findNext fn = none) (he : Extern.find fn = some Extern.BytealgIndexByte.indexByte) : ExtSim P ext f k := by
  intro S args H v H' m w vargs hG hx h ha
  rw [hk] at hx
  match args, hx, ha with
  | [x, .int .u8 b], hx, ha =>
    obtain ⟨y, ys, h1, h2, rfl⟩ := embL_cons ha
    obtain ⟨z, zs, h3, h4, rfl⟩ := embL_cons h2
    simp only [embL] at h4; cases h4
    simp only [emb] at h3; cases h3
    obtain ⟨q, h5, h6⟩ := aBytesFn_some (P := P) (e := Extern.BytealgIndexByte.indexByte) (bv := .int .u8 b) (f := fun l => .int .i64 (Lib.indexByte l (UInt8.ofNat b.toNat)))
      (fun s w => ⟨_, Lib.run_indexByteString s b w, by simp [emb] <;> rfl⟩)
      (fun l c w => ⟨_, Lib.run_indexByteNil w l c b, by simp [emb] <;> rfl⟩)
      (fun a n c xs w hl hc => by
        have hload := Lib.run_loadBytesX (P := P) w xs a .empty hc
        rw [hl] at hload
        have hs := Lib.run_indexByteString (P := P) ⟨(Lib.bytesOf xs).toArray⟩ b w
        have he : (⟨ByteArray.empty.data ++ (Lib.bytesOf xs).toArray⟩ : ByteArray) = ⟨(Lib.bytesOf xs).toArray⟩ := by
          apply ByteArray.ext
          show (#[] : Array UInt8) ++ (Lib.bytesOf xs).toArray = (Lib.bytesOf xs).toArray
          simp
        rw [he] at hload
        refine ⟨.int .i64 (Lib.indexByte (Lib.bytesOf xs) b.toNat.toUInt8), ?_, by simp [emb] <;> rfl⟩
        have hb1 : (Extern.Bytes.bytesOf (.slice (some a) n c)).run P w = .ok ⟨(Lib.bytesOf xs).toArray⟩ w := by simpa [Extern.Bytes.bytesOf] using hload
        have hb2 : (Extern.Bytes.bytesOf (.string ⟨(Lib.bytesOf xs).toArray⟩)).run P w = .ok ⟨(Lib.bytesOf xs).toArray⟩ w := by simp [Extern.Bytes.bytesOf]
        refine sem_bind_ok hb1 ?_
        have hs2 := sem_bind_of hb2 hs
        exact hs2) h1 h hx
    exact yields_extern hf hname hb hn he h5 h6
theorem ext_self {ext : Exts} {k : Nat} (hk : ext k = aSelf) {f : FuncId} {fn : Func} (hf : P.funcs[f]? = some fn) (hname : (fn.name == "runtime.NumGoroutine") = false)
    (hb : fn.body.isNone = true) (hn : Extern.findNext fn = none) (he : Extern.find fn = some Extern.AbiNoEscape.same) : ExtSim P ext f k := by
  intro S args H v H' m w vargs hG hx h ha
  rw [hk] at hx
  match args, hx, ha with
  | [x], hx, ha =>
    obtain ⟨y, ys, h1, h2, rfl⟩ := embL_cons ha
    simp only [embL] at h2; cases h2
    obtain ⟨rfl, rfl⟩ := pure_some hx
    have hr : (Extern.AbiNoEscape.same #[y]).run P w = .ok y w := by
      have : Extern.AbiNoEscape.same #[y] = pure y := rfl
      rw [this]; simp
    exact yields_extern hf hname hb hn he hr (Out.same h h1)
end
end Go.Am
