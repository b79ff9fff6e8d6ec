import Derived.Test.YtpochhefklmnfaaGreatAmBB
import Derived.ReadAgain
import Derived.WideShapes
import Derived.ChangeShapes
import Derived.OpenShut
import Derived.ChangeStays
import Derived.ChangeSame
import Derived.RowKit
import Derived.ChangeOld
import Derived.Lib.Bytealg
import Derived.Lib.BytesEntry
import Derived.Laws.Externs
set_option linter.unusedSimpArgs false
set_option linter.unusedVariables false
set_option maxRecDepth 100000
set_option maxHeartbeats 4000000
namespace Go.Am
open Go
theorem getp (H : AHeap) (o : AObj) (r : Nat) : (H.push o).get r = if r = H.n then o else H.get r := by
  by_cases h : r = H.n
  · subst h; simp [push_get_eq]
  · simp [AHeap.push, nbeq_ne h, h]
theorem np (H : AHeap) (o : AObj) : (H.push o).n = H.n + 1 := rfl
theorem ns (H : AHeap) (s : Nat) (o : AObj) : (H.set s o).n = H.n := rfl
structure Ext (H H' : AHeap) : Prop where
  n : H.n ≤ H'.n
  get : ∀ r, r < H.n → H'.get r = H.get r
theorem Ext.refl (H : AHeap) : Ext H H := ⟨Nat.le_refl _, fun _ _ => rfl⟩
theorem Ext.trans {a b c : AHeap} (h : Ext a b) (k : Ext b c) : Ext a c := ⟨Nat.le_trans h.n k.n, fun r hr => by rw [k.get r (Nat.lt_of_lt_of_le hr h.n), h.get r hr]⟩
theorem Ext.push {a b : AHeap} (h : Ext a b) (o : AObj) : Ext a (b.push o) := ⟨Nat.le_succ_of_le h.n, fun r hr => by rw [push_get_lt (Nat.lt_of_lt_of_le hr h.n)]; exact h.get r hr⟩
theorem Ext.set {a b : AHeap} (h : Ext a b) {s : Nat} (hs : a.n ≤ s) (o : AObj) : Ext a (b.set s o) := ⟨h.n, fun r hr => by rw [set_get_ne (by omega)]; exact h.get r hr⟩
section
variable {call : ACall} {fr : AFrame} {H : AHeap} {K : AVal → AHeap → Prop} {KF : AFrame → AHeap → Prop}
theorem WpX.load1 {a : ROpd} {r off : Nat} {cs : List AVal} {rw : Bool} {e : TypeId} {v : AVal} (ha : a.ev fr = .ptr r off) (hr : r < H.n) (hg : H.get r = .row cs rw e) (hv : cs[off]? = some v) (h : K v H) : WpX (.load none a) call fr H K :=
  ⟨v, H, by simp only [ROp.exec, ha, aLoad, M.bind, aRow, if_pos hr, hg, hv, M.pure], h⟩
theorem WpX.loadN {a : ROpd} {n r off : Nat} {cs : List AVal} {rw : Bool} {e : TypeId} (ha : a.ev fr = .ptr r off) (hr : r < H.n) (hg : H.get r = .row cs rw e) (hv : off + n ≤ cs.length) (h : K (.agg ((cs.drop off).take n)) H) : WpX (.load (some n) a) call fr H K :=
  ⟨_, H, by simp only [ROp.exec, ha, aLoad, M.bind, aRow, if_pos hr, hg, if_pos hv, M.pure], h⟩
theorem WpX.store {a x : ROpd} {n r off : Nat} {cs : List AVal} {e : TypeId} {v : AVal} (ha : a.ev fr = .ptr r off) (hx : x.ev fr = v) (hn : v.cells.length = n) (hr : r < H.n) (hg : H.get r = .row cs true e) (hl : off + v.cells.length ≤ cs.length) (ho : v.cells.all AVal.one = true)
    (h : K aundef (H.set r (.row (setAt cs off v.cells) true e))) : WpX (.store n a x) call fr H K :=
  ⟨_, _, by simp only [ROp.exec, ha, hx, aStore, if_pos hn, M.bind, aWrite, if_pos hr, hg, Bool.true_and, decide_eq_true hl, ho, if_true, M.pure], h⟩
theorem WpX.box {e : TypeId} {x : ROpd} (h : K (.ptr H.n 0) (H.push (.row (x.ev fr).cells true (2 * e)))) : WpX (.box e x) call fr H K := ⟨_, _, rfl, h⟩
theorem WpX.new {e : TypeId} {cs : List AVal} (h : K (.ptr H.n 0) (H.push (.row cs true (2 * e)))) : WpX (.new e cs) call fr H K := ⟨_, _, rfl, h⟩
end
theorem upd_at (fr : AFrame) (d : Nat) (v : AVal) (i : Nat) : upd fr d v i = if i = d then v else fr i := by
  by_cases h : i = d
  · subst h; simp [upd]
  · simp [upd, nbeq_ne h, h]
section
variable {call : ACall} {fr : AFrame} {H : AHeap} {K : AVal → AHeap → Prop} {KF : AFrame → AHeap → Prop}
theorem WpO.do {d : Nat} {op : ROp} {os : List ROper} (hx : WpX op call fr H fun v H1 => WpO call os (upd fr d v) H1 KF) : WpO call (⟨some d, op, none⟩ :: os) fr H KF := WpO.step rfl hx
theorem WpO.do' {op : ROp} {os : List ROper} (hx : WpX op call fr H fun _ H1 => WpO call os fr H1 KF) : WpO call (⟨none, op, none⟩ :: os) fr H KF := WpO.step rfl hx
theorem wanted_some {fr : AFrame} {d : Option Nat} {op : ROp} {t : Nat} {want b : Bool} (hb : fr t = .bool b) : ROper.wanted fr ⟨d, op, some (t, want)⟩ = (b == want) := by
  simp only [ROper.wanted, hb]
  cases b <;> cases want <;> rfl
theorem WpO.guard {d : Option Nat} {op : ROp} {t : Nat} {want b : Bool} {os : List ROper} (hb : fr t = .bool b) (h1 : b = want → WpO call (⟨d, op, none⟩ :: os) fr H KF) (h2 : b ≠ want → WpO call os (put fr d aundef) H KF) : WpO call (⟨d, op, some (t, want)⟩ :: os) fr H KF := by
  by_cases h : b = want
  · obtain ⟨fr', H', h3, h4⟩ := h1 h
    refine ⟨fr', H', ?_, h4⟩
    have hw1 : ROper.wanted fr ⟨d, op, some (t, want)⟩ = true := by rw [wanted_some hb, h]; simp
    simp only [execOps, hw1]
    simpa only [execOps, ROper.wanted] using h3
  · exact WpO.skip (by rw [wanted_some hb]; simpa using h) (h2 h)
theorem WpX.mov {x : ROpd} (h : K (x.ev fr) H) : WpX (.mov x) call fr H K := ⟨_, _, rfl, h⟩
theorem WpX.geq {x y : ROpd} {k : IntKind} {a b : Int} (hx : x.ev fr = .int k a) (hy : y.ev fr = .int k b) (h : K (.bool (decide (a ≥ b))) H) : WpX (.bin .geq x y) call fr H K := ⟨_, _, by simp only [ROp.exec, hx, hy, aBin, intBin, ne_eq, not_true, if_false, M.ofOption, M.pure], h⟩
theorem WpX.leq {x y : ROpd} {k : IntKind} {a b : Int} (hx : x.ev fr = .int k a) (hy : y.ev fr = .int k b) (h : K (.bool (decide (a ≤ b))) H) : WpX (.bin .leq x y) call fr H K := ⟨_, _, by simp only [ROp.exec, hx, hy, aBin, intBin, ne_eq, not_true, if_false, M.ofOption, M.pure], h⟩
theorem WpX.lss {x y : ROpd} {k : IntKind} {a b : Int} (hx : x.ev fr = .int k a) (hy : y.ev fr = .int k b) (h : K (.bool (decide (a < b))) H) : WpX (.bin .lss x y) call fr H K := ⟨_, _, by simp only [ROp.exec, hx, hy, aBin, intBin, ne_eq, not_true, if_false, M.ofOption, M.pure], h⟩
theorem WpX.gtr {x y : ROpd} {k : IntKind} {a b : Int} (hx : x.ev fr = .int k a) (hy : y.ev fr = .int k b) (h : K (.bool (decide (a > b))) H) : WpX (.bin .gtr x y) call fr H K := ⟨_, _, by simp only [ROp.exec, hx, hy, aBin, intBin, ne_eq, not_true, if_false, M.ofOption, M.pure], h⟩
theorem WpX.eql {x y : ROpd} {k : IntKind} {a b : Int} (hx : x.ev fr = .int k a) (hy : y.ev fr = .int k b) (h : K (.bool (a == b)) H) : WpX (.bin .eql x y) call fr H K := ⟨_, _, by simp only [ROp.exec, hx, hy, aBin, intBin, ne_eq, not_true, if_false, M.ofOption, M.pure], h⟩
theorem WpX.neq {x y : ROpd} {k : IntKind} {a b : Int} (hx : x.ev fr = .int k a) (hy : y.ev fr = .int k b) (h : K (.bool (a != b)) H) : WpX (.bin .neq x y) call fr H K := ⟨_, _, by simp only [ROp.exec, hx, hy, aBin, intBin, ne_eq, not_true, if_false, M.ofOption, M.pure], h⟩
theorem WpX.add {x y : ROpd} {k : IntKind} {a b : Int} (hx : x.ev fr = .int k a) (hy : y.ev fr = .int k b) (h : K (.int k (k.wrap (a + b))) H) : WpX (.bin .add x y) call fr H K := ⟨_, _, by simp only [ROp.exec, hx, hy, aBin, intBin, ne_eq, not_true, if_false, M.ofOption, M.pure], h⟩
theorem WpX.sub {x y : ROpd} {k : IntKind} {a b : Int} (hx : x.ev fr = .int k a) (hy : y.ev fr = .int k b) (h : K (.int k (k.wrap (a - b))) H) : WpX (.bin .sub x y) call fr H K := ⟨_, _, by simp only [ROp.exec, hx, hy, aBin, intBin, ne_eq, not_true, if_false, M.ofOption, M.pure], h⟩
theorem WpX.mul {x y : ROpd} {k : IntKind} {a b : Int} (hx : x.ev fr = .int k a) (hy : y.ev fr = .int k b) (h : K (.int k (k.wrap (a * b))) H) : WpX (.bin .mul x y) call fr H K := ⟨_, _, by simp only [ROp.exec, hx, hy, aBin, intBin, ne_eq, not_true, if_false, M.ofOption, M.pure], h⟩
theorem WpX.not {x : ROpd} {b : Bool} (hx : x.ev fr = .bool b) (h : K (.bool (!b)) H) : WpX (.un .not x) call fr H K := ⟨_, _, by simp only [ROp.exec, hx, aUn, M.ofOption, M.pure], h⟩
theorem WpX.pick {c x y : ROpd} {b : Bool} (hc : c.ev fr = .bool b) (h : K (bif b then x.ev fr else y.ev fr) H) : WpX (.pick c x y) call fr H K := ⟨_, _, by simp only [ROp.exec, hc, M.pure]; cases b <;> rfl, h⟩
theorem WpX.fieldAddr {x : ROpd} {r o off : Nat} (hx : x.ev fr = .ptr r o) (h : K (.ptr r (o + off)) H) : WpX (.fieldAddr off x) call fr H K := ⟨_, _, by simp only [ROp.exec, hx, aFieldAddr, M.ofOption, M.pure], h⟩
theorem WpX.lenS {x : ROpd} {p v : AVal} (hx : x.ev fr = p) (hp : aLenS p = some v) (h : K v H) : WpX (.lenS x) call fr H K := ⟨_, _, by simp only [ROp.exec, hx, hp, M.ofOption, M.pure], h⟩
theorem WpX.convInt {x : ROpd} {k k' : IntKind} {n : Int} (hx : x.ev fr = .int k' n) (h : K (.int k (k.wrap n)) H) : WpX (.convInt k x) call fr H K := ⟨_, _, by simp only [ROp.exec, hx, M.pure], h⟩
theorem WpX.idxS {x i : ROpd} {sz r off len : Nat} {cap : Option Nat} {k : IntKind} {n : Int} (hx : x.ev fr = .slice r off len cap sz) (hi : i.ev fr = .int k n) (h0 : 0 ≤ n) (h1 : n < len) (h : K (.ptr r (off + n.toNat * sz)) H) : WpX (.idxS sz x i) call fr H K :=
  ⟨_, _, by simp only [ROp.exec, hx, hi, aIdxS, true_and, if_pos (And.intro h0 h1), M.ofOption, M.pure], h⟩
theorem WpX.extract {x : ROpd} {i : Nat} {vs : List AVal} {v : AVal} (hx : x.ev fr = .tuple vs) (hv : vs[i]? = some v) (h : K v H) : WpX (.extract x i) call fr H K := ⟨_, _, by simp only [ROp.exec, hx, aExtract, hv, M.ofOption, M.pure], h⟩
theorem WpX.build {z : List AVal} {ps : List (Nat × Nat × ROpd)} {cs : List AVal} (hf : aFill fr z ps = some cs) (h : K (.agg cs) H) : WpX (.build z ps) call fr H K := ⟨_, _, by simp only [ROp.exec, hf, M.pure], h⟩
end
end Go.Am

namespace Go.Am
open Go
class HasRow (H : AHeap) (r : Nat) (cs : outParam (List AVal)) (rw : outParam Bool) (e : outParam TypeId) : Prop where
  lt : r < H.n
  get : H.get r = .row cs rw e
class LtN (r : Nat) (H : AHeap) : Prop where
  lt : r < H.n
class NeR (r s : Nat) : Prop where
  ne : r ≠ s
class ExtI (H : outParam AHeap) (H' : AHeap) : Prop where
  ext : Ext H H'
class GeN (H : outParam AHeap) (r : Nat) : Prop where
  ge : H.n ≤ r
instance {H : AHeap} {r : Nat} {cs : List AVal} {rw : Bool} {e : TypeId} [h : HasRow H r cs rw e] : LtN r H := ⟨h.lt⟩
instance {H : AHeap} {r : Nat} [h : LtN r H] : NeR r H.n := ⟨Nat.ne_of_lt h.lt⟩
instance {H : AHeap} {r : Nat} [h : LtN r H] : NeR H.n r := ⟨fun e => Nat.ne_of_lt h.lt e.symm⟩
instance {H : AHeap} {r s : Nat} [h : LtN r H] [k : GeN H s] : NeR r s := ⟨Nat.ne_of_lt (Nat.lt_of_lt_of_le h.lt k.ge)⟩
instance {H : AHeap} {r s : Nat} [h : LtN r H] [k : GeN H s] : NeR s r := ⟨fun e => Nat.ne_of_lt (Nat.lt_of_lt_of_le h.lt k.ge) e.symm⟩
instance {H H' : AHeap} {r : Nat} {cs : List AVal} {rw : Bool} {e : TypeId} [x : ExtI H H'] [h : HasRow H r cs rw e] : HasRow H' r cs rw e := ⟨Nat.lt_of_lt_of_le h.lt x.ext.n, by rw [x.ext.get r h.lt]; exact h.get⟩
instance {H : AHeap} {o : AObj} {r : Nat} {cs : List AVal} {rw : Bool} {e : TypeId} [h : HasRow H r cs rw e] : HasRow (H.push o) r cs rw e := ⟨Nat.lt_succ_of_lt h.lt, by rw [push_get_lt h.lt]; exact h.get⟩
instance {H : AHeap} {cs : List AVal} {rw : Bool} {e : TypeId} : HasRow (H.push (.row cs rw e)) H.n cs rw e := ⟨Nat.lt_succ_self _, push_get_eq⟩
instance {H : AHeap} {s : Nat} {o : AObj} {r : Nat} {cs : List AVal} {rw : Bool} {e : TypeId} [h : HasRow H r cs rw e] [k : NeR r s] : HasRow (H.set s o) r cs rw e := ⟨h.lt, by rw [set_get_ne k.ne]; exact h.get⟩
instance {H : AHeap} {r : Nat} {cs cs0 : List AVal} {rw rw0 : Bool} {e e0 : TypeId} [h : HasRow H r cs0 rw0 e0] : HasRow (H.set r (.row cs rw e)) r cs rw e := ⟨h.lt, set_get_eq⟩
section
variable {call : ACall} {fr : AFrame} {H : AHeap} {K : AVal → AHeap → Prop} {KF : AFrame → AHeap → Prop}
theorem WpX.ld {a : ROpd} {r off : Nat} {cs : List AVal} {rw : Bool} {e : TypeId} {v : AVal} (ha : a.ev fr = .ptr r off) [hg : HasRow H r cs rw e] (hv : cs[off]? = some v) (h : K v H) : WpX (.load none a) call fr H K := WpX.load1 ha hg.lt hg.get hv h
theorem WpX.ldN {a : ROpd} {n r off : Nat} {cs : List AVal} {rw : Bool} {e : TypeId} {l : List AVal} (ha : a.ev fr = .ptr r off) [hg : HasRow H r cs rw e] (hv : Nat.ble (off + n) cs.length = true) (hl : (cs.drop off).take n = l) (h : K (.agg l) H) : WpX (.load (some n) a) call fr H K :=
  WpX.loadN ha hg.lt hg.get (Nat.le_of_ble_eq_true hv) (by rw [hl]; exact h)
theorem WpX.st {a x : ROpd} {n r off : Nat} {cs : List AVal} {e : TypeId} {v : AVal} {vs l : List AVal} (ha : a.ev fr = .ptr r off) (hx : x.ev fr = v) (hvs : v.cells = vs) (hn : Nat.beq vs.length n = true) [hg : HasRow H r cs true e] (hl : Nat.ble (off + vs.length) cs.length = true) (ho : vs.all AVal.one = true)
    (hs : setAt cs off vs = l) (h : K aundef (H.set r (.row l true e))) : WpX (.store n a x) call fr H K := by
  subst hvs hs
  exact WpX.store ha hx (Nat.eq_of_beq_eq_true hn) hg.lt hg.get (Nat.le_of_ble_eq_true hl) ho h
end
def fuel0 : Nat := 1125899906842624
def Con (ext : Exts) (prog : FuncId → Option RFunc) (d : Nat) (f : FuncId) (args : List AVal) (H : AHeap) (Q : AVal → AHeap → Prop) : Prop :=
  ∀ n, fuel0 + d ≤ n → ∃ v H', callN ext prog n f args H = some (v, H') ∧ Q v H'
theorem Con.evs {ext : Exts} {prog : FuncId → Option RFunc} {d : Nat} {f : FuncId} {args : List AVal} {H : AHeap} {Q : AVal → AHeap → Prop} (h : Con ext prog d f args H Q) : Evs ext prog f args H Q := ⟨fuel0 + d, h⟩
theorem Con.mono {ext : Exts} {prog : FuncId → Option RFunc} {d : Nat} {f : FuncId} {args : List AVal} {H : AHeap} {Q Q' : AVal → AHeap → Prop} (h : Con ext prog d f args H Q) (hq : ∀ v H', Q v H' → Q' v H') : Con ext prog d f args H Q' := fun n hn => by
  obtain ⟨v, H', h1, h2⟩ := h n hn
  exact ⟨v, H', h1, hq _ _ h2⟩
theorem con_of {ext : Exts} {prog : FuncId → Option RFunc} {d : Nat} {f : FuncId} {rf : RFunc} {c : RCode} {args : List AVal} {H : AHeap} {Q : AVal → AHeap → Prop} (hp : prog f = some rf) (hc : rf.body = .code c) (hn : Nat.ble args.length rf.nt = true)
    (h : ∀ n, fuel0 + d ≤ n → Wp (callN ext prog n) n c (argFrame args) H fun x fr' H' => (match x with | .exit _ => False | _ => True) ∧ ∃ vs, getAll fr' rf.results H' = some (vs, H') ∧ Q (aResult vs) H') : Con ext prog (d + 1) f args H Q := by
  intro n hle
  obtain ⟨k, rfl⟩ : ∃ k, n = k + 1 := ⟨n - 1, by unfold fuel0 at hle; omega⟩
  obtain ⟨nt, body, res⟩ := rf
  simp only [] at hc
  subst hc
  obtain ⟨x, fr', H', h1, h2, vs, h3, h4⟩ := h k (by omega)
  refine ⟨aResult vs, H', ?_, h4⟩
  have hlt : ¬ nt < args.length := by have := Nat.le_of_ble_eq_true hn; simp only at this; omega
  simp only [callN, hp, RFunc.run, if_neg hlt, M.bind, h1]
  cases x with
  | exit i => exact h2.elim
  | normal => simp only [M.bind, h3, M.pure]
  | ret => simp only [M.bind, h3, M.pure]
theorem WpX.con {ext : Exts} {prog : FuncId → Option RFunc} {n d : Nat} {f : FuncId} {o : ROpd} {l : List ROpd} {args : List AVal} {fr : AFrame} {H : AHeap} {K Q : AVal → AHeap → Prop} (hc : Con ext prog d f args H Q) (hd : fuel0 + d ≤ n) (hf : o.ev fr = .func (.func f) [] []) (hl : l.map (·.ev fr) = args)
    (h : ∀ v H', Q v H' → K v H') : WpX (.call o l) (callN ext prog n) fr H K := by
  obtain ⟨v, H', h1, h2⟩ := hc n hd
  exact WpX.enter hf ⟨v, H', by rw [hl]; exact h1, h _ _ h2⟩
end Go.Am

namespace Go.Am
open Go
mutual
theorem abeq_refl : ∀ (v : AVal), abeq v v = true
  | .bool b => by simp [abeq]
  | .int k n => by simp [abeq]
  | .str s => by simp [abeq]
  | .nptr => by simp [abeq]
  | .ptr r o => by simp [abeq]
  | .nslice => by simp [abeq]
  | .slice r o l c z => by simp [abeq]
  | .nfunc => by simp [abeq]
  | .func f a b => by simp [abeq, abeqL_refl a, abeqL_refl b]
  | .niface => by simp [abeq]
  | .iface t v => by simp [abeq, abeq_refl v]
  | .agg l => by simp [abeq, abeqL_refl l]
  | .tuple l => by simp [abeq, abeqL_refl l]
  | .yield r => by simp [abeq]
  | .eslice r o l z => by simp [abeq]
  | .map r => by simp [abeq]
  | .nmap => rfl
theorem abeqL_refl : ∀ (l : List AVal), abeqL l l = true
  | [] => by simp [abeqL]
  | v :: l => by simp [abeqL, abeq_refl v, abeqL_refl l]
end
theorem okAt_look {r : DRec} {H : AHeap} (hc : Nat.beq r.cls 3 = false) (hx : r.o.op.look r.fr H = some r.v) : r.okAt H = true := by
  simp only [DRec.okAt, hc, hx, abeq_refl]
theorem okAt_read {r : DRec} {H : AHeap} (hc : Nat.beq r.cls 3 = false) (hx : r.o.op.exec noCall r.fr H = some (r.v, H)) : r.okAt H = true := okAt_look hc (look_of hx rfl)
def Good (r : DRec) (k : Nat) (R0 : List DRec) (H0 cur : AHeap) (may : Bool) : Prop := ∀ rest, r.chk k rest R0.length cur may = true → r.chk k (R0 ++ rest) 0 H0 true = true
theorem Good.nil {r : DRec} {k : Nat} {H0 : AHeap} : Good r k [] H0 H0 true := fun _ h => h
theorem Good.other {r : DRec} {k : Nat} {R0 : List DRec} {H0 cur : AHeap} {may : Bool} {e : DRec} (h : Good r k R0 H0 cur may) (he : e.eff = false) : Good r k (R0 ++ [e]) H0 cur may := fun rest hr => by
  rw [List.append_assoc]
  refine h _ ?_
  simp only [List.singleton_append, DRec.chk, he]
  simpa using hr
theorem Good.effect {r : DRec} {k : Nat} {R0 : List DRec} {H0 cur : AHeap} {may : Bool} {e : DRec} (h : Good r k R0 H0 cur may) (he : e.eff = true) (hok : may = false ∨ r.b.testBit R0.length = true ∨ r.okAt cur = true) : Good r k (R0 ++ [e]) H0 e.hp (!(e.b.testBit k)) := fun rest hr => by
  rw [List.append_assoc]
  refine h _ ?_
  simp only [List.singleton_append, DRec.chk, he, Bool.and_eq_true, Bool.or_eq_true, Bool.not_eq_true']
  refine ⟨?_, by simpa using hr⟩
  rcases hok with h | h | h
  · exact Or.inl (Or.inl h)
  · exact Or.inl (Or.inr h)
  · exact Or.inr h
structure DInv (R0 : List DRec) (H0 H : AHeap) (E : List (Nat × AHeap)) (Rd : List (Nat × DRec)) : Prop where
  good : ∀ r k, (∀ p ∈ E, r.b.testBit p.1 = true ∨ r.okAt p.2 = true) → ∃ m, Good r k R0 H0 H m
  reads : ∀ j r, R0[j]? = some r → r.want = true → (Nat.beq r.cls 1 || Nat.beq r.cls 3) = true → (j, r) ∈ Rd
  ok : ∀ p ∈ Rd, ∃ m, Good p.2 p.1 R0 H0 H m ∧ (m = true → p.2.okAt H = true)
theorem DInv.nil (H0 : AHeap) : DInv [] H0 H0 [] [] := ⟨fun _ _ _ => ⟨true, Good.nil⟩, fun j r h => by simp at h, fun p hp => by simp at hp⟩
theorem DInv.done {R0 : List DRec} {H0 H : AHeap} {E : List (Nat × AHeap)} {Rd : List (Nat × DRec)} (h : DInv R0 H0 H E Rd) : dcheck R0 H0 R0 0 = true := by
  have key : ∀ (rs : List DRec) (k : Nat), (∀ j r, rs[j]? = some r → R0[k + j]? = some r) → dcheck R0 H0 rs k = true := by
    intro rs
    induction rs with
    | nil => intro k _; rfl
    | cons r rs ih =>
      intro k hk
      simp only [dcheck, Bool.and_eq_true]
      refine ⟨?_, ih (k + 1) fun j q hq => by have := hk (j + 1) q (by simpa using hq); rwa [show k + 1 + j = k + (j + 1) by omega]⟩
      cases hc : (r.want && (Nat.beq r.cls 1 || Nat.beq r.cls 3)) with
      | false => rfl
      | true =>
        simp only [Bool.and_eq_true] at hc
        have hr : R0[k]? = some r := by simpa using hk 0 r rfl
        obtain ⟨m, h1, h2⟩ := h.ok _ (h.reads k r hr hc.1 hc.2)
        have h3 := h1 [] (by simp only [DRec.chk, Bool.or_eq_true, Bool.not_eq_true']; cases m <;> simp_all)
        simpa using h3
  exact key R0 0 fun j r hj => by simpa using hj
theorem get_snoc {R0 : List DRec} {e r : DRec} {j : Nat} (h : (R0 ++ [e])[j]? = some r) : R0[j]? = some r ∨ (j = R0.length ∧ r = e) := by
  by_cases hj : j < R0.length
  · rw [List.getElem?_append_left hj] at h; exact Or.inl h
  · rw [List.getElem?_append_right (by omega)] at h
    cases hq : j - R0.length with
    | zero => rw [hq] at h; simp at h; exact Or.inr ⟨by omega, h.symm⟩
    | succ q => rw [hq] at h; simp at h
theorem DInv.plain {R0 : List DRec} {H0 H : AHeap} {E : List (Nat × AHeap)} {Rd : List (Nat × DRec)} {e : DRec} (h : DInv R0 H0 H E Rd) (he : e.eff = false) (hn : (e.want && (Nat.beq e.cls 1 || Nat.beq e.cls 3)) = false) : DInv (R0 ++ [e]) H0 H E Rd := by
  refine ⟨fun r k hr => by obtain ⟨m, hm⟩ := h.good r k hr; exact ⟨m, hm.other he⟩, fun j r hj hw hc => ?_, fun p hp => by obtain ⟨m, h1, h2⟩ := h.ok p hp; exact ⟨m, h1.other he, h2⟩⟩
  rcases get_snoc hj with h1 | ⟨_, rfl⟩
  · exact h.reads j r h1 hw hc
  · rw [hw, hc] at hn; cases hn
theorem DInv.read {R0 : List DRec} {H0 H : AHeap} {E : List (Nat × AHeap)} {Rd : List (Nat × DRec)} {e : DRec} (h : DInv R0 H0 H E Rd) (he : e.eff = false) (hok : e.okAt H = true) (hE : ∀ p ∈ E, e.b.testBit p.1 = true ∨ e.okAt p.2 = true) : DInv (R0 ++ [e]) H0 H E (Rd ++ [(R0.length, e)]) := by
  refine ⟨fun r k hr => by obtain ⟨m, hm⟩ := h.good r k hr; exact ⟨m, hm.other he⟩, fun j r hj hw hc => ?_, fun p hp => ?_⟩
  · rcases get_snoc hj with h1 | ⟨rfl, rfl⟩
    · exact List.mem_append_left _ (h.reads j r h1 hw hc)
    · simp
  · rcases List.mem_append.1 hp with hp | hp
    · obtain ⟨m, h1, h2⟩ := h.ok p hp; exact ⟨m, h1.other he, h2⟩
    · simp only [List.mem_singleton] at hp; subst hp
      obtain ⟨m, hm⟩ := h.good e R0.length hE
      exact ⟨m, hm.other he, fun _ => hok⟩
theorem DInv.effect {R0 : List DRec} {H0 H : AHeap} {E : List (Nat × AHeap)} {Rd : List (Nat × DRec)} {e : DRec} (h : DInv R0 H0 H E Rd) (he : e.eff = true) (hn : (Nat.beq e.cls 1 || Nat.beq e.cls 3) = false)
    (hR : ∀ p ∈ Rd, e.b.testBit p.1 = true ∨ p.2.okAt e.hp = true) : DInv (R0 ++ [e]) H0 e.hp (E ++ [(R0.length, H)]) Rd := by
  refine ⟨fun r k hr => ?_, fun j r hj hw hc => ?_, fun p hp => ?_⟩
  · obtain ⟨m, hm⟩ := h.good r k fun p hp => hr p (List.mem_append_left _ hp)
    exact ⟨_, hm.effect he (Or.inr (hr (R0.length, H) (by simp)))⟩
  · rcases get_snoc hj with h1 | ⟨_, rfl⟩
    · exact h.reads j r h1 hw hc
    · rw [hc] at hn; cases hn
  · obtain ⟨m, h1, h2⟩ := h.ok p hp
    refine ⟨_, h1.effect he (by cases m with | false => exact Or.inl rfl | true => exact Or.inr (Or.inr (h2 rfl))), fun hm => ?_⟩
    rcases hR p hp with h3 | h3
    · rw [h3] at hm; cases hm
    · exact h3
def readOk (op : ROp) (fr : AFrame) (v : AVal) (H : AHeap) : Bool := match op.look fr H with
  | some v' => abeq v' v
  | none => false
theorem readOk_eq {r : DRec} (hc : Nat.beq r.cls 3 = false) : r.okAt = readOk r.o.op r.fr r.v := by
  funext H
  unfold DRec.okAt readOk
  rw [hc]
  rfl
theorem readOk_look {op : ROp} {fr : AFrame} {v : AVal} {H : AHeap} (h : op.look fr H = some v) : readOk op fr v H = true := by
  unfold readOk
  rw [h]
  simp [abeq_refl]
theorem readOk_of {op : ROp} {fr : AFrame} {v : AVal} {H : AHeap} (h : op.exec noCall fr H = some (v, H)) : readOk op fr v H = true := readOk_look (look_of h rfl)
def WpD (call : ACall) (n : Nat) (its : List DItem) (H0 : AHeap) (E : List (Nat × AHeap)) (Rd : List (Nat × (AHeap → Bool))) (fr : AFrame) (H : AHeap) (K : AFrame → AHeap → Prop) : Prop :=
  ∀ R0 Rd0 ref, R0.length = n → (Rd0.map fun (p : Nat × DRec) => (p.1, p.2.okAt)) = Rd → DInv R0 H0 H E Rd0 → ∃ R1 fr' H', dtext call its ref fr H = some (R1, fr', H') ∧ dcheck (R0 ++ R1) H0 (R0 ++ R1) 0 = true ∧ K fr' H'
section
variable {call : ACall} {lf n : Nat} {its : List DItem} {H0 H H1 : AHeap} {E : List (Nat × AHeap)} {Rd : List (Nat × (AHeap → Bool))} {fr : AFrame} {K : AFrame → AHeap → Prop} {Q : RExit → AFrame → AHeap → Prop} {op : ROp} {v : AVal} {b : Nat} {pre : Bool}
theorem WpD.nil (h : K fr H) : WpD call n [] H0 E Rd fr H K := fun R0 Rd0 ref _ _ hI => ⟨[], fr, H, rfl, by rw [List.append_nil]; exact hI.done, h⟩
theorem WpD.next {it : DItem} {R0 : List DRec} {ref : Nat} {r : DRec} {E' : List (Nat × AHeap)} {Rd' : List (Nat × (AHeap → Bool))} {Rd0' : List (Nat × DRec)} {fr1 : AFrame} (hn : R0.length = n) (hrd : (Rd0'.map fun (p : Nat × DRec) => (p.1, p.2.okAt)) = Rd')
    (hI : DInv (R0 ++ [r]) H0 H1 E' Rd0') (hd : ∀ R1 fr' H', dtext call its (nextRef it.cls ref) fr1 H1 = some (R1, fr', H') → dtext call (it :: its) ref fr H = some (r :: R1, fr', H')) (h : WpD call (n + 1) its H0 E' Rd' fr1 H1 K) :
    ∃ R1 fr' H', dtext call (it :: its) ref fr H = some (R1, fr', H') ∧ dcheck (R0 ++ R1) H0 (R0 ++ R1) 0 = true ∧ K fr' H' := by
  obtain ⟨R1, fr', H', h1, h2, h3⟩ := h (R0 ++ [r]) Rd0' (nextRef it.cls ref) (by simp [hn]) hrd hI
  exact ⟨r :: R1, fr', H', hd _ _ _ h1, by rw [List.append_assoc] at h2; exact h2, h3⟩
theorem WpD.pure {d : Option Nat} (hx : op.exec noCall fr H = some (v, H)) (h : WpD call (n + 1) its H0 E Rd (put fr d v) H K) : WpD call n (⟨⟨d, op, none⟩, b, 0, pre⟩ :: its) H0 E Rd fr H K := fun R0 Rd0 ref hn hrd hI =>
  WpD.next (r := ⟨⟨d, op, none⟩, b, 0, fr, v, true, false, H, ref⟩) hn hrd (hI.plain rfl rfl) (fun R1 fr' H' hd => by
    simp only [dtext, ROper.wanted, dstep, look_of hx rfl]
    simp only [Nat.beq, nextRef] at hd ⊢
    simp [hd]) h
theorem WpD.read {d : Option Nat} (hx : op.exec noCall fr H = some (v, H)) (hE : ∀ p ∈ E, b.testBit p.1 = true ∨ op.exec noCall fr p.2 = some (v, p.2)) (h : WpD call (n + 1) its H0 E (Rd ++ [(n, readOk op fr v)]) (put fr d v) H K) : WpD call n (⟨⟨d, op, none⟩, b, 1, pre⟩ :: its) H0 E Rd fr H K := fun R0 Rd0 ref hn hrd hI =>
  WpD.next (r := ⟨⟨d, op, none⟩, b, 1, fr, v, true, false, H, ref⟩) (Rd0' := Rd0 ++ [(R0.length, ⟨⟨d, op, none⟩, b, 1, fr, v, true, false, H, ref⟩)]) hn (by
      rw [List.map_append, hrd]
      simp only [List.map_cons, List.map_nil, hn]
      rw [readOk_eq rfl])
    (hI.read rfl (okAt_read rfl hx) (fun p hp => (hE p hp).imp id fun q => okAt_read rfl q)) (fun R1 fr' H' hd => by
    simp only [dtext, ROper.wanted, dstep, look_of hx rfl]
    simp only [Nat.beq, nextRef] at hd ⊢
    simp [hd]) h
theorem WpD.effect {d : Option Nat} (hx : op.exec call fr H = some (v, H1)) (hR : ∀ p ∈ Rd, b.testBit p.1 = true ∨ p.2 H1 = true) (h : WpD call (n + 1) its H0 (E ++ [(n, H)]) Rd (put fr d v) H1 K) : WpD call n (⟨⟨d, op, none⟩, b, 2, pre⟩ :: its) H0 E Rd fr H K := fun R0 Rd0 ref hn hrd hI =>
  WpD.next (r := ⟨⟨d, op, none⟩, b, 2, fr, v, true, true, H1, ref⟩) (E' := E ++ [(n, H)]) hn hrd (by
      have := hI.effect (e := ⟨⟨d, op, none⟩, b, 2, fr, v, true, true, H1, ref⟩) rfl rfl fun p hp => hR (p.1, p.2.okAt) (by rw [← hrd]; exact List.mem_map.2 ⟨p, hp, rfl⟩)
      rw [hn] at this; exact this) (fun R1 fr' H' hd => by
    simp only [dtext, ROper.wanted, dstep, hx]
    simp only [Nat.beq, nextRef] at hd ⊢
    simp [hd]) h
theorem oracle_none : ∀ (its : List DItem) (ref : Nat) (fr : AFrame) (H : AHeap), (its.all fun it => !(Nat.beq it.cls 3)) = true → oracle its ref fr H = [] := fun its ref fr H h => by
  have hc : cnt3 its = 0 := by
    induction its with
    | nil => rfl
    | cons it its ih =>
      simp only [List.all_cons, Bool.and_eq_true, Bool.not_eq_true'] at h
      simp only [cnt3, h.1, ih h.2]
  exact List.eq_nil_of_length_eq_zero (by rw [oracle_length, hc])
theorem Wp.dregion (hno : (its.all fun it => !(Nat.beq it.cls 3)) = true) (h : WpD call 0 its H [] [] fr H fun fr' H' => Q .normal fr' H') : Wp call lf (.dregion its) fr H Q := by
  obtain ⟨R1, fr', H', h1, h2, h3⟩ := h [] [] H.n rfl rfl (DInv.nil H)
  refine ⟨.normal, fr', H', ?_, h3⟩
  simp only [RCode.exec, oracle_none its H.n fr H hno, pushAll, h1]
  simp only [List.nil_append] at h2
  rw [h2]
end
end Go.Am

namespace Go.Am
open Go
def cellsB (l : List UInt8) : List AVal := l.map fun b => .int .u8 b.toNat
inductive BytesAt (H : AHeap) : AVal → List UInt8 → Prop
  | nil : BytesAt H .nslice []
  | slice {r off : Nat} {cap : Option Nat} {cs : List AVal} {rw : Bool} {e : TypeId} {l : List UInt8} (hr : r < H.n) (hg : H.get r = .row cs rw e) (hl : off + l.length ≤ cs.length) (hc : (cs.drop off).take l.length = cellsB l) : BytesAt H (.slice r off l.length cap 1) l
theorem BytesAt.ext {H H' : AHeap} {p : AVal} {l : List UInt8} (h : BytesAt H p l) (x : Ext H H') : BytesAt H' p l := by
  cases h with
  | nil => exact .nil
  | slice hr hg hl hc => exact .slice (Nat.lt_of_lt_of_le hr x.n) (by rw [x.get _ hr]; exact hg) hl hc
theorem BytesAt.len {H : AHeap} {p : AVal} {l : List UInt8} (h : BytesAt H p l) : aLenS p = some (.int .i64 l.length) := by
  cases h <;> rfl
theorem cellsB_one (l : List UInt8) : (cellsB l).all AVal.one = true := by simp [cellsB, AVal.one]
theorem cellsB_length (l : List UInt8) : (cellsB l).length = l.length := by simp [cellsB]
def NewS (H : AHeap) (q : AVal) : Prop := ∀ r off len cap sz, q = .slice r off len cap sz → H.n ≤ r
theorem NewS.mono {H H' : AHeap} {q : AVal} (h : NewS H' q) (hn : H.n ≤ H'.n) : NewS H q := fun r off len cap sz e => Nat.le_trans hn (h r off len cap sz e)
theorem BytesAt.set {H : AHeap} {q : AVal} {l : List UInt8} (h : BytesAt H q l) {s : Nat} (hs : ∀ r off len cap sz, q = .slice r off len cap sz → r ≠ s) (o : AObj) : BytesAt (H.set s o) q l := by
  cases h with
  | nil => exact .nil
  | slice hr hg hl hc => exact .slice hr (by rw [set_get_ne (hs _ _ _ _ _ rfl)]; exact hg) hl hc
theorem exec_ld {call : ACall} {fr : AFrame} {H : AHeap} {a : ROpd} {r off : Nat} {cs : List AVal} {rw : Bool} {e : TypeId} {v : AVal} (ha : a.ev fr = .ptr r off) [hg : HasRow H r cs rw e] (hv : cs[off]? = some v) : (ROp.load none a).exec call fr H = some (v, H) := by
  simp only [ROp.exec, ha, aLoad, M.bind, aRow, if_pos hg.lt, hg.get, hv, M.pure]
theorem exec_st {call : ACall} {fr : AFrame} {H : AHeap} {a x : ROpd} {n r off : Nat} {cs : List AVal} {e : TypeId} {v : AVal} {vs l : List AVal} (ha : a.ev fr = .ptr r off) (hx : x.ev fr = v) (hvs : v.cells = vs) (hn : Nat.beq vs.length n = true) [hg : HasRow H r cs true e] (hl : Nat.ble (off + vs.length) cs.length = true) (ho : vs.all AVal.one = true)
    (hs : setAt cs off vs = l) : (ROp.store n a x).exec call fr H = some (aundef, H.set r (.row l true e)) := by
  subst hvs hs
  simp only [ROp.exec, ha, hx, aStore, if_pos (Nat.eq_of_beq_eq_true hn), M.bind, aWrite, if_pos hg.lt, hg.get, Bool.true_and, decide_eq_true (Nat.le_of_ble_eq_true hl), ho, if_true, M.pure]
theorem exec_con {ext : Exts} {prog : FuncId → Option RFunc} {n d : Nat} {f : FuncId} {o : ROpd} {l : List ROpd} {args : List AVal} {fr : AFrame} {H : AHeap} {Q : AVal → AHeap → Prop} (hc : Con ext prog d f args H Q) (hd : fuel0 + d ≤ n) (hf : o.ev fr = .func (.func f) [] []) (hl : l.map (·.ev fr) = args) :
    ∃ v H', (ROp.call o l).exec (callN ext prog n) fr H = some (v, H') ∧ Q v H' := by
  obtain ⟨v, H', h1, h2⟩ := hc n hd
  exact ⟨v, H', by simp only [ROp.exec, hf, hl, aCallV, List.nil_append, List.append_nil]; exact h1, h2⟩
end Go.Am

namespace Go.Am
open Go
def memN (d : Nat) : List Nat → Bool
  | [] => false
  | x :: xs => cond (Nat.beq d x) true (memN d xs)
def dstIn (D : List Nat) : Option Nat → Bool
  | some d => memN d D
  | none => true
def opsIn (D : List Nat) : List ROper → Bool
  | [] => true
  | o :: os => cond (dstIn D o.dst) (opsIn D os) false
def itsIn (D : List Nat) : List DItem → Bool
  | [] => true
  | o :: os => cond (dstIn D o.o.dst) (itsIn D os) false
def RCode.within (D : List Nat) : RCode → Bool
  | .region ops => opsIn D ops
  | .dregion its => itsIn D its
  | .seq a b => _root_.cond (a.within D) (b.within D) false
  | .cond _ t e => _root_.cond (t.within D) (e.within D) false
  | .block _ b => b.within D
  | .loop b => b.within D
  | .scope b => b.within D
  | .rangeFunc .. => false
  | _ => true
theorem cond_tt {a b : Bool} (h : cond a b false = true) : a = true ∧ b = true := by cases a <;> simp_all
theorem put_off {D : List Nat} {d : Option Nat} (h : dstIn D d = true) {t : Nat} (ht : memN t D = false) (fr : AFrame) (v : AVal) : put fr d v t = fr t := by
  cases d with
  | none => rfl
  | some d =>
    have hne : Nat.beq t d = false := by
      cases hb : Nat.beq t d with
      | false => rfl
      | true => rw [Nat.eq_of_beq_eq_true hb] at ht; simp only [dstIn] at h; rw [h] at ht; cases ht
    simp only [put, upd, hne, cond_false]
theorem execOps_off {call : ACall} {D : List Nat} : ∀ {ops : List ROper} {fr fr' : AFrame} {H H' : AHeap}, opsIn D ops = true → execOps call ops fr H = some (fr', H') → ∀ t, memN t D = false → fr' t = fr t := by
  intro ops
  induction ops with
  | nil => intro fr fr' H H' _ h t _; cases h; rfl
  | cons o os ih =>
    intro fr fr' H H' hD h t ht
    obtain ⟨hd, hos⟩ := cond_tt hD
    simp only [execOps] at h
    cases hw : o.wanted fr with
    | true =>
      rw [hw] at h
      obtain ⟨v, H1, h1, h2⟩ := bind_some h
      rw [ih hos h2 t ht, put_off hd ht]
    | false =>
      rw [hw] at h
      rw [ih hos h t ht, put_off hd ht]
theorem dtext_off {call : ACall} {D : List Nat} : ∀ {its : List DItem} {ref : Nat} {fr fr' : AFrame} {H H' : AHeap} {R : List DRec}, itsIn D its = true → dtext call its ref fr H = some (R, fr', H') → ∀ t, memN t D = false → fr' t = fr t := by
  intro its
  induction its with
  | nil => intro ref fr fr' H H' R _ h t _; cases h; rfl
  | cons o os ih =>
    intro ref fr fr' H H' R hD h t ht
    obtain ⟨hd, hos⟩ := cond_tt hD
    simp only [dtext] at h
    cases hw : o.o.wanted fr with
    | true =>
      rw [hw] at h
      simp only [] at h
      cases hs : dstep call o ref fr H with
      | none => rw [hs] at h; cases h
      | some p =>
        obtain ⟨v, eff, H1⟩ := p
        rw [hs] at h
        simp only [] at h
        cases hr : dtext call os (nextRef o.cls ref) (put fr o.o.dst v) H1 with
        | none => rw [hr] at h; cases h
        | some q =>
          obtain ⟨R1, f1, H2⟩ := q
          rw [hr] at h
          cases h
          rw [ih hos hr t ht, put_off hd ht]
    | false =>
      rw [hw] at h
      simp only [] at h
      cases hr : dtext call os (nextRef o.cls ref) (put fr o.o.dst aundef) H with
      | none => rw [hr] at h; cases h
      | some q =>
        obtain ⟨R1, f1, H2⟩ := q
        rw [hr] at h
        cases h
        rw [ih hos hr t ht, put_off hd ht]
theorem exec_off {call : ACall} {lf : Nat} {D : List Nat} : ∀ {c : RCode} {fr fr' : AFrame} {H H' : AHeap} {x : RExit}, c.within D = true → c.exec call lf fr H = some ((x, fr'), H') → ∀ t, memN t D = false → fr' t = fr t := by
  intro c
  induction c with
  | skip => intro fr fr' H H' x _ h t _; cases h; rfl
  | label => intro fr fr' H H' x _ h t _; cases h; rfl
  | exit id => intro fr fr' H H' x _ h t _; cases h; rfl
  | ret => intro fr fr' H H' x _ h t _; cases h; rfl
  | fail => intro fr fr' H H' x _ h t _; cases h
  | region ops =>
    intro fr fr' H H' x hD h t ht
    obtain ⟨f1, H1, h1, h2⟩ := bind_some h
    cases h2
    exact execOps_off hD h1 t ht
  | dregion its =>
    intro fr fr' H H' x hD h t ht
    simp only [RCode.exec] at h
    split at h
    · rename_i R f1 H1 hd
      split at h
      · cases h; exact dtext_off hD hd t ht
      · cases h
    · cases h
  | seq a b iha ihb =>
    intro fr fr' H H' x hD h t ht
    obtain ⟨hda, hdb⟩ := cond_tt hD
    obtain ⟨⟨y, f1⟩, H1, h1, h2⟩ := bind_some h
    cases y with
    | normal => rw [ihb hdb h2 t ht, iha hda h1 t ht]
    | exit id => cases h2; exact iha hda h1 t ht
    | ret => cases h2; exact iha hda h1 t ht
  | cond c a b iha ihb =>
    intro fr fr' H H' x hD h t ht
    obtain ⟨hda, hdb⟩ := cond_tt hD
    simp only [RCode.exec] at h
    cases hc : c.ev fr with
    | bool b0 =>
      rw [hc] at h
      cases b0 with
      | true => exact iha hda h t ht
      | false => exact ihb hdb h t ht
    | _ => rw [hc] at h; cases h
  | block id b ih =>
    intro fr fr' H H' x hD h t ht
    obtain ⟨⟨y, f1⟩, H1, h1, h2⟩ := bind_some h
    cases y with
    | normal => cases h2; exact ih hD h1 t ht
    | ret => cases h2; exact ih hD h1 t ht
    | exit i =>
      simp only [] at h2
      cases hb : Nat.beq i id with
      | true => rw [hb] at h2; cases h2; exact ih hD h1 t ht
      | false => rw [hb] at h2; cases h2; exact ih hD h1 t ht
  | scope b ih => intro fr fr' H H' x hD h t ht; exact ih hD h t ht
  | rangeFunc fns nt g ps a b _ _ => intro fr fr' H H' x hD; cases hD
  | loop b ih =>
    intro fr fr' H H' x hD h t ht
    have key : ∀ (n : Nat) (fr fr' : AFrame) (H H' : AHeap) (x : RExit), loopN (b.exec call lf) n fr H = some ((x, fr'), H') → fr' t = fr t := by
      intro n
      induction n with
      | zero => intro fr fr' H H' x h; cases h
      | succ n ihn =>
        intro fr fr' H H' x h
        obtain ⟨⟨y, f1⟩, H1, h1, h2⟩ := bind_some h
        cases y with
        | normal => rw [ihn _ _ _ _ _ h2, ih hD h1 t ht]
        | exit i => cases h2; exact ih hD h1 t ht
        | ret => cases h2; exact ih hD h1 t ht
    exact key lf fr fr' H H' x h
def mix : List Nat → AFrame → AFrame → AFrame
  | [], _, fr => fr
  | d :: D, g, fr => upd (mix D g fr) d (g d)
def updL : List (Nat × AVal) → AFrame → AFrame
  | [], fr => fr
  | p :: l, fr => upd (updL l fr) p.1 p.2
def agrees : List (Nat × AVal) → AFrame → Prop
  | [], _ => True
  | p :: l, fr => fr p.1 = p.2 ∧ agrees l fr
def keysIn (D : List Nat) : List (Nat × AVal) → Bool
  | [] => true
  | p :: l => cond (memN p.1 D) (keysIn D l) false
theorem mix_off {D : List Nat} {t : Nat} (h : memN t D = false) (g fr : AFrame) : mix D g fr t = fr t := by
  induction D with
  | nil => rfl
  | cons d D ih =>
    simp only [memN] at h
    cases hb : Nat.beq t d with
    | true => rw [hb] at h; cases h
    | false => rw [hb] at h; simp only [mix, upd, hb, cond_false]; exact ih h
theorem mix_on {D : List Nat} {t : Nat} (h : memN t D = true) (g fr : AFrame) : mix D g fr t = g t := by
  induction D with
  | nil => cases h
  | cons d D ih =>
    simp only [memN] at h
    cases hb : Nat.beq t d with
    | true => simp only [mix, upd, hb, cond_true]; rw [Nat.eq_of_beq_eq_true hb]
    | false => rw [hb] at h; simp only [mix, upd, hb, cond_false]; exact ih h
theorem updL_agrees {l : List (Nat × AVal)} {fr : AFrame} (h : agrees l fr) : updL l fr = fr := by
  induction l with
  | nil => rfl
  | cons p l ih =>
    simp only [updL, ih h.2]
    funext i
    cases hb : Nat.beq i p.1 with
    | true => simp only [upd, hb, cond_true]; rw [Nat.eq_of_beq_eq_true hb]; exact h.1.symm
    | false => simp only [upd, hb, cond_false]
theorem updL_off {D : List Nat} {l : List (Nat × AVal)} (hk : keysIn D l = true) {t : Nat} (h : memN t D = false) (fr : AFrame) : updL l fr t = fr t := by
  induction l with
  | nil => rfl
  | cons p l ih =>
    obtain ⟨h1, h2⟩ := cond_tt hk
    cases hb : Nat.beq t p.1 with
    | true => rw [← Nat.eq_of_beq_eq_true hb, h] at h1; cases h1
    | false => simp only [updL, upd, hb, cond_false]; exact ih h2
theorem mix_self {D : List Nat} {f fr : AFrame} (h : ∀ t, memN t D = false → f t = fr t) : mix D f fr = f := by
  funext t
  cases hm : memN t D with
  | true => exact mix_on hm f fr
  | false => rw [mix_off hm, h t hm]
section
variable {call : ACall} {lf : Nat} {fr : AFrame} {H : AHeap} {Q : RExit → AFrame → AHeap → Prop} {K : AFrame → AHeap → Prop}
theorem Wp.loopS {σ : Type} {b : RCode} (D : List Nat) (vals : σ → List (Nat × AVal)) (I : AHeap → σ → AHeap → Prop) (μ : σ → Nat) (s0 : σ) (hD : b.within D = true) (hk : ∀ s, keysIn D (vals s) = true)
    (ha : agrees (vals s0) fr) (hi : I H s0 H) (hμ : μ s0 < lf)
    (step : ∀ s g H1, I H s H1 → Wp call lf b (updL (vals s) (mix D g fr)) H1 fun x fr' H' => match x with | .normal => ∃ s', μ s' < μ s ∧ agrees (vals s') fr' ∧ I H s' H' | e => Q e fr' H') : Wp call lf (.loop b) fr H Q := by
  refine Wp.loop (fun k f H1 => ∃ s g, k = μ s ∧ I H s H1 ∧ f = updL (vals s) (mix D g fr)) ?_ hμ ⟨s0, fr, rfl, hi, by rw [mix_self (fun _ _ => rfl), updL_agrees ha]⟩
  rintro k f H0 ⟨s, g, rfl, hI, rfl⟩
  obtain ⟨x, fr', H', h1, h2⟩ := step s g H0 hI
  refine ⟨x, fr', H', h1, ?_⟩
  cases x with
  | normal =>
    obtain ⟨s', h3, h4, h5⟩ := h2
    refine ⟨μ s', h3, s', fr', rfl, h5, ?_⟩
    have hoff : ∀ t, memN t D = false → fr' t = fr t := fun t ht => by rw [exec_off hD h1 t ht, updL_off (hk s) ht, mix_off ht]
    rw [mix_self hoff, updL_agrees h4]
  | exit i => exact h2
  | ret => exact h2
end
theorem dcheck_none {R : List DRec} {H0 : AHeap} (h : ∀ r ∈ R, r.eff = false) (hok : ∀ r ∈ R, r.want = true → (Nat.beq r.cls 1 || Nat.beq r.cls 3) = true → r.okAt H0 = true) : dcheck R H0 R 0 = true := by
  have hchk : ∀ (r : DRec) (k : Nat) (es : List DRec) (i : Nat), (∀ e ∈ es, e.eff = false) → r.okAt H0 = true → r.chk k es i H0 true = true := by
    intro r k es
    induction es with
    | nil => intro i _ h; simp [DRec.chk, h]
    | cons e es ih => intro i he h; simp only [DRec.chk, he e (by simp)]; exact ih _ (fun x hx => he x (by simp [hx])) h
  have key : ∀ (rs : List DRec) (k : Nat), (∀ r ∈ rs, r ∈ R) → dcheck R H0 rs k = true := by
    intro rs
    induction rs with
    | nil => intro k _; rfl
    | cons r rs ih =>
      intro k hm
      simp only [dcheck, Bool.and_eq_true]
      refine ⟨?_, ih _ fun x hx => hm x (by simp [hx])⟩
      cases hc : (r.want && (Nat.beq r.cls 1 || Nat.beq r.cls 3)) with
      | false => rfl
      | true =>
        simp only [Bool.and_eq_true] at hc
        exact hchk r k R 0 h (hok r (hm r (by simp)) hc.1 hc.2)
  exact key R 0 fun _ h => h
def quietOp : ROp → Bool
  | .sliceS .. => false
  | op => Nat.ble op.kind 1
def quiet : List DItem → Bool
  | [] => true
  | o :: os => _root_.cond (quietOp o.o.op && Nat.ble o.cls 1) (quiet os) false
def opsOf : List DItem → List ROper
  | [] => []
  | o :: os => o.o :: opsOf os
theorem quietOp_same {call : ACall} {fr : AFrame} {op : ROp} {H H' : AHeap} {v : AVal} (hq : quietOp op = true) (hx : op.exec call fr H = some (v, H')) : H' = H ∧ ∀ call', op.exec call' fr H = some (v, H) := by
  have hk : op.kind ≤ 1 := by cases op <;> simp_all [quietOp]
  have hn : H'.n = H.n := by
    by_cases h0 : op.kind = 0
    · have := exec_pure h0 hx call H
      rw [hx] at this; cases this; rfl
    · have h1 : op.kind = 1 := by omega
      cases op <;> simp only [ROp.kind] at h0 h1 <;> first | (exact absurd rfl h0) | (cases h1; done) | skip
      · rw [aLoad_same hx]
      · simp [quietOp] at hq
      · rw [aBytesToStr_same hx]
      · rw [aUptr_same hx]
      · rw [aSliceData_same hx]
      · rw [aLookup_same hx]
  exact exec_reads hk hx hn
theorem dtext_quiet {call : ACall} : ∀ {its : List DItem} {ref : Nat} {fr fr' : AFrame} {H H' : AHeap}, quiet its = true → execOps call (opsOf its) fr H = some (fr', H') → H' = H ∧ ∃ R, dtext call its ref fr H = some (R, fr', H) ∧ ∀ r ∈ R, r.eff = false ∧ (r.want = true → (Nat.beq r.cls 1 || Nat.beq r.cls 3) = true → r.okAt H = true) := by
  intro its
  induction its with
  | nil => intro ref fr fr' H H' _ h; cases h; exact ⟨rfl, [], rfl, by simp⟩
  | cons o os ih =>
    intro ref fr fr' H H' hq h
    obtain ⟨hq1, hq2⟩ := cond_tt hq
    simp only [Bool.and_eq_true] at hq1
    have hcls : o.cls ≤ 1 := Nat.le_of_ble_eq_true hq1.2
    have h3 : Nat.beq o.cls 3 = false := by apply nbeq_ne; omega
    have h2 : Nat.beq o.cls 2 = false := by apply nbeq_ne; omega
    simp only [opsOf, execOps] at h
    cases hw : o.o.wanted fr with
    | false =>
      rw [hw] at h
      obtain ⟨e1, R, hR, hall⟩ := ih (ref := nextRef o.cls ref) hq2 h
      refine ⟨e1, ⟨o.o, o.b, o.cls, fr, aundef, false, false, H, ref⟩ :: R, by simp only [dtext, hw, hR], ?_⟩
      intro r hr
      rcases List.mem_cons.1 hr with rfl | hr
      · exact ⟨rfl, fun h => by cases h⟩
      · exact hall r hr
    | true =>
      rw [hw] at h
      obtain ⟨v, H1, hx, hrest⟩ := bind_some h
      obtain ⟨e1, hc⟩ := quietOp_same hq1.1 hx
      subst e1
      obtain ⟨e2, R, hR, hall⟩ := ih (ref := nextRef o.cls ref) hq2 hrest
      refine ⟨e2, ⟨o.o, o.b, o.cls, fr, v, true, false, H1, ref⟩ :: R, ?_, ?_⟩
      · simp only [dtext, hw, dstep, h2, h3, look_of (hc noCall) rfl]
        simp [hR]
      · intro r hr
        rcases List.mem_cons.1 hr with rfl | hr
        · exact ⟨rfl, fun _ _ => okAt_read h3 (hc noCall)⟩
        · exact hall r hr
theorem quiet_no3 : ∀ {its : List DItem}, quiet its = true → (its.all fun it => !(Nat.beq it.cls 3)) = true := by
  intro its
  induction its with
  | nil => intro _; rfl
  | cons o os ih =>
    intro hq
    obtain ⟨hq1, hq2⟩ := cond_tt hq
    simp only [Bool.and_eq_true] at hq1
    have hcls : o.cls ≤ 1 := Nat.le_of_ble_eq_true hq1.2
    have h3 : Nat.beq o.cls 3 = false := by apply nbeq_ne; omega
    simp only [List.all_cons, h3, ih hq2]; rfl
section
variable {call : ACall} {lf : Nat} {fr : AFrame} {H : AHeap} {Q : RExit → AFrame → AHeap → Prop} {K : AFrame → AHeap → Prop}
theorem Wp.dquiet {its : List DItem} {ops : List ROper} (hq : quiet its = true) (ho : opsOf its = ops) (h : WpO call ops fr H fun fr' H' => Q .normal fr' H') : Wp call lf (.dregion its) fr H Q := by
  subst ho
  obtain ⟨fr', H', h1, h2⟩ := h
  obtain ⟨rfl, R, hR, hall⟩ := dtext_quiet (ref := H.n) hq h1
  refine ⟨.normal, fr', H', ?_, h2⟩
  simp only [RCode.exec, oracle_none its H'.n fr H' (quiet_no3 hq), pushAll, hR]
  rw [dcheck_none (fun r hr => (hall r hr).1) fun r hr => (hall r hr).2]
end
end Go.Am

namespace Go.Am
open Go
def cellsI (l : List Int) : List AVal := l.map fun n => .int .i64 n
theorem cellsI_length (l : List Int) : (cellsI l).length = l.length := by simp [cellsI]
def rowOf : AVal → Nat
  | .slice r _ _ _ _ => r
  | _ => 0
def offOf : AVal → Nat
  | .slice _ off _ _ _ => off
  | _ => 0
class SliceAt (H : AHeap) (p : AVal) (sz : outParam Nat) (n : outParam Nat) (cs : outParam (List AVal)) : Prop where
  it : (p = .nslice ∧ n = 0 ∧ cs = []) ∨ ∃ r off cap row rw e, p = .slice r off n cap sz ∧ r < H.n ∧ H.get r = .row row rw e ∧ off + n * sz ≤ row.length ∧ (row.drop off).take (n * sz) = cs ∧ n ≤ capD n cap
class WrS (H : AHeap) (p : AVal) : Prop where
  it : ∀ r off len cap sz, p = .slice r off len cap sz → ∃ cs e, H.get r = .row cs true e
class RowNe (p : AVal) (s : Nat) : Prop where
  ne : ∀ r off len cap sz, p = .slice r off len cap sz → r ≠ s
class FreshS (H : outParam AHeap) (p : AVal) : Prop where
  ge : ∀ r off len cap sz, p = .slice r off len cap sz → H.n ≤ r
class SepS (p q : AVal) : Prop where
  ne : ∀ r off len cap sz r' off' len' cap' sz', p = .slice r off len cap sz → q = .slice r' off' len' cap' sz' → r ≠ r'
class ExtP (H : outParam AHeap) (H' : AHeap) (p : outParam AVal) : Prop where
  n : H.n ≤ H'.n
  get : ∀ r, r < H.n → RowNe p r → H'.get r = H.get r
class Ext0 (H H' : AHeap) : Prop where
  ext : Ext H H'
class LeN (H : AHeap) (s : Nat) : Prop where
  le : H.n ≤ s
abbrev BytesI (H : AHeap) (p : AVal) (l : List UInt8) : Prop := SliceAt H p 1 l.length (cellsB l)
abbrev IntsI (H : AHeap) (p : AVal) (l : List Int) : Prop := SliceAt H p 1 l.length (cellsI l)
theorem SliceAt.len {H : AHeap} {p : AVal} {sz n : Nat} {cs : List AVal} (h : SliceAt H p sz n cs) : cs.length = n * sz := by
  rcases h.it with ⟨_, rfl, rfl⟩ | ⟨r, off, cap, row, rw, e, _, _, _, hl, hc, _⟩
  · simp
  · rw [← hc, List.length_take, List.length_drop]; omega
theorem SliceAt.lenS {H : AHeap} {p : AVal} {sz n : Nat} {cs : List AVal} (h : SliceAt H p sz n cs) : aLenS p = some (.int .i64 n) := by
  rcases h.it with ⟨rfl, rfl, _⟩ | ⟨r, off, cap, row, rw, e, rfl, _⟩ <;> rfl
theorem SliceAt.lt {H : AHeap} {p : AVal} {sz n : Nat} {cs : List AVal} (h : SliceAt H p sz n cs) {r off len : Nat} {cap : Option Nat} {s : Nat} (e : p = .slice r off len cap s) : r < H.n := by
  rcases h.it with ⟨rfl, _⟩ | ⟨r, off, cap, row, rw, e, rfl, hr, _⟩
  · cases e
  · cases e; exact hr
theorem SliceAt.keep {H H' : AHeap} {p : AVal} {sz n : Nat} {cs : List AVal} (h : SliceAt H p sz n cs) (hn : H.n ≤ H'.n) (hg : ∀ r off len cap sz, p = .slice r off len cap sz → r < H.n → H'.get r = H.get r) : SliceAt H' p sz n cs := by
  rcases h.it with ⟨h1, h2, h3⟩ | ⟨r, off, cap, row, rw, e, h1, h2, h3, h4, h5⟩
  · exact ⟨Or.inl ⟨h1, h2, h3⟩⟩
  · exact ⟨Or.inr ⟨r, off, cap, row, rw, e, h1, by omega, by rw [hg _ _ _ _ _ h1 h2]; exact h3, h4, h5⟩⟩
theorem WrS.keep {H H' : AHeap} {p : AVal} (h : WrS H p) (hg : ∀ r off len cap sz, p = .slice r off len cap sz → H'.get r = H.get r) : WrS H' p := ⟨fun r off len cap sz e => by rw [hg _ _ _ _ _ e]; exact h.it _ _ _ _ _ e⟩
instance {s : Nat} {p : AVal} {K : AHeap} [f : FreshS K p] [l : LtN s K] : RowNe p s := ⟨fun r off len cap sz e => by have := f.ge _ _ _ _ _ e; have := l.lt; omega⟩
instance {H : AHeap} {p : AVal} {sz n : Nat} {cs : List AVal} [h : SliceAt H p sz n cs] : RowNe p H.n := ⟨fun r off len cap s e => Nat.ne_of_lt (h.lt e)⟩
instance {K : AHeap} {s : Nat} {p : AVal} {sz n : Nat} {cs : List AVal} [g : GeN K s] [h : SliceAt K p sz n cs] : RowNe p s := ⟨fun r off len cap sz e => by have := h.lt e; have := g.ge; omega⟩
instance {s : Nat} : RowNe .nslice s := ⟨fun _ _ _ _ _ e => by cases e⟩
instance {K : AHeap} {p q : AVal} {sz n : Nat} {cs : List AVal} [f : FreshS K p] [h : SliceAt K q sz n cs] : SepS p q := ⟨fun r off len cap sz r' off' len' cap' sz' e e' => by have := f.ge _ _ _ _ _ e; have := h.lt e'; omega⟩
instance {K : AHeap} {p q : AVal} {sz n : Nat} {cs : List AVal} [f : FreshS K p] [h : SliceAt K q sz n cs] : SepS q p := ⟨fun r off len cap sz r' off' len' cap' sz' e e' => by have := f.ge _ _ _ _ _ e'; have := h.lt e; omega⟩
instance {q : AVal} : SepS .nslice q := ⟨fun _ _ _ _ _ _ _ _ _ _ e => by cases e⟩
instance {H : AHeap} : SliceAt H .nslice 1 0 [] := ⟨Or.inl ⟨rfl, rfl, rfl⟩⟩
instance {H H' : AHeap} {p : AVal} {sz n : Nat} {cs : List AVal} [x : ExtI H H'] [h : SliceAt H p sz n cs] : SliceAt H' p sz n cs := h.keep x.ext.n fun _ _ _ _ _ _ hr => x.ext.get _ hr
instance {H : AHeap} {o : AObj} {p : AVal} {sz n : Nat} {cs : List AVal} [h : SliceAt H p sz n cs] : SliceAt (H.push o) p sz n cs := h.keep (Nat.le_succ _) fun _ _ _ _ _ _ hr => push_get_lt hr
instance {H : AHeap} {s : Nat} {o : AObj} {p : AVal} {sz n : Nat} {cs : List AVal} [h : SliceAt H p sz n cs] [k : RowNe p s] : SliceAt (H.set s o) p sz n cs := h.keep (Nat.le_refl _) fun _ _ _ _ _ e _ => set_get_ne (k.ne _ _ _ _ _ e)
instance {H H' : AHeap} {p q : AVal} {sz n : Nat} {cs : List AVal} [x : ExtP H H' q] [h : SliceAt H p sz n cs] [k : SepS p q] : SliceAt H' p sz n cs := h.keep x.n fun r _ _ _ _ e hr => x.get r hr ⟨fun r' _ _ _ _ e' => fun hh => k.ne _ _ _ _ _ _ _ _ _ _ e e' hh.symm⟩
instance {H H' : AHeap} {r : Nat} {cs : List AVal} {rw : Bool} {e : TypeId} {q : AVal} [x : ExtP H H' q] [h : HasRow H r cs rw e] [k : RowNe q r] : HasRow H' r cs rw e := ⟨Nat.lt_of_lt_of_le h.lt x.n, by rw [x.get r h.lt k]; exact h.get⟩
instance {H H' : AHeap} {p : AVal} {sz n : Nat} {cs : List AVal} [x : ExtI H H'] [w : WrS H p] [h : SliceAt H p sz n cs] : WrS H' p := w.keep fun _ _ _ _ _ e => x.ext.get _ (h.lt e)
instance {H : AHeap} {o : AObj} {p : AVal} {sz n : Nat} {cs : List AVal} [w : WrS H p] [h : SliceAt H p sz n cs] : WrS (H.push o) p := w.keep fun _ _ _ _ _ e => push_get_lt (h.lt e)
instance {H : AHeap} {s : Nat} {o : AObj} {p : AVal} [w : WrS H p] [k : RowNe p s] : WrS (H.set s o) p := w.keep fun _ _ _ _ _ e => set_get_ne (k.ne _ _ _ _ _ e)
instance {H H' : AHeap} {p q : AVal} {sz n : Nat} {cs : List AVal} [x : ExtP H H' q] [w : WrS H p] [h : SliceAt H p sz n cs] [k : SepS p q] : WrS H' p := w.keep fun r _ _ _ _ e => x.get r (h.lt e) ⟨fun r' _ _ _ _ e' => fun hh => k.ne _ _ _ _ _ _ _ _ _ _ e e' hh.symm⟩
instance {H : AHeap} : Ext0 H H := ⟨Ext.refl H⟩
instance {H H' : AHeap} {o : AObj} [x : Ext0 H H'] : Ext0 H (H'.push o) := ⟨x.ext.push o⟩
instance {H H' : AHeap} {s : Nat} {o : AObj} [x : Ext0 H H'] [l : LeN H s] : Ext0 H (H'.set s o) := ⟨x.ext.set l.le o⟩
instance {H H1 H2 : AHeap} [y : ExtI H1 H2] [x : Ext0 H H1] : Ext0 H H2 := ⟨x.ext.trans y.ext⟩
instance {H K : AHeap} [x : Ext0 H K] : LeN H K.n := ⟨x.ext.n⟩
instance {H K : AHeap} {s : Nat} [g : GeN K s] [x : Ext0 H K] : LeN H s := ⟨Nat.le_trans x.ext.n g.ge⟩
instance {H K H1 H2 : AHeap} {p : AVal} [y : ExtP H1 H2 p] [f : FreshS K p] [z : Ext0 H K] [x : Ext0 H H1] : Ext0 H H2 := ⟨⟨Nat.le_trans x.ext.n y.n, fun r hr => by
  rw [y.get r (Nat.lt_of_lt_of_le hr x.ext.n) ⟨fun r' _ _ _ _ e => by have := f.ge _ _ _ _ _ e; have := z.ext.n; omega⟩]
  exact x.ext.get r hr⟩⟩
theorem FreshS.weak {H K : AHeap} {p : AVal} (f : FreshS K p) [x : Ext0 H K] : FreshS H p := ⟨fun _ _ _ _ _ e => Nat.le_trans x.ext.n (f.ge _ _ _ _ _ e)⟩
theorem ExtP.refl (H : AHeap) (p : AVal) : ExtP H H p := ⟨Nat.le_refl _, fun _ _ _ => rfl⟩
theorem ExtP.trans {a b c : AHeap} {p : AVal} (h : ExtP a b p) (k : ExtP b c p) : ExtP a c p := ⟨Nat.le_trans h.n k.n, fun r hr hp => by rw [k.get r (Nat.lt_of_lt_of_le hr h.n) hp, h.get r hr hp]⟩
theorem ExtP.ext {a b c : AHeap} {p : AVal} (h : ExtP a b p) (k : Ext b c) : ExtP a c p := ⟨Nat.le_trans h.n k.n, fun r hr hp => by rw [k.get r (Nat.lt_of_lt_of_le hr h.n), h.get r hr hp]⟩
class ExtP0 (H H' : AHeap) (p : AVal) : Prop where
  ext : ExtP H H' p
instance {H : AHeap} {p : AVal} : ExtP0 H H p := ⟨ExtP.refl H p⟩
instance {H H' : AHeap} {p : AVal} {o : AObj} [x : ExtP0 H H' p] : ExtP0 H (H'.push o) p := ⟨x.ext.ext ((Ext.refl H').push o)⟩
instance {H H1 H2 : AHeap} {p : AVal} [y : ExtI H1 H2] [x : ExtP0 H H1 p] : ExtP0 H H2 p := ⟨x.ext.ext y.ext⟩
instance {H H1 H2 : AHeap} {p : AVal} [y : ExtP H1 H2 p] [x : ExtP0 H H1 p] : ExtP0 H H2 p := ⟨x.ext.trans y⟩
class LeP (H : AHeap) (p : AVal) (s : Nat) : Prop where
  le : H.n ≤ s
instance {H K : AHeap} {p : AVal} [x : ExtP0 H K p] : LeP H p K.n := ⟨x.ext.n⟩
instance {H H' : AHeap} {p : AVal} {s : Nat} {o : AObj} [x : ExtP0 H H' p] [l : LeP H p s] : ExtP0 H (H'.set s o) p := ⟨x.ext.n, fun r hr hp => by rw [set_get_ne (by have := l.le; omega)]; exact x.ext.get r hr hp⟩
instance {H K H1 H2 : AHeap} {p q : AVal} [y : ExtP H1 H2 q] [f : FreshS K q] [z : ExtP0 H K p] [x : ExtP0 H H1 p] : ExtP0 H H2 p := ⟨Nat.le_trans x.ext.n y.n, fun r hr hp => by
  rw [y.get r (Nat.lt_of_lt_of_le hr x.ext.n) ⟨fun r' _ _ _ _ e => by have := f.ge _ _ _ _ _ e; have := z.ext.n; omega⟩]
  exact x.ext.get r hr hp⟩
section
variable {call : ACall} {fr : AFrame} {H : AHeap} {K : AVal → AHeap → Prop} {KF : AFrame → AHeap → Prop}
def nowOk : ROp → Bool
  | .makeSlice .. => false
  | _ => true
theorem WpO.now {d : Nat} {op : ROp} {os : List ROper} {v : AVal} {H1 : AHeap} (_ : nowOk op = true) (hx : op.exec call fr H = some (v, H1)) (h : WpO call os (upd fr d v) H1 KF) : WpO call (⟨some d, op, none⟩ :: os) fr H KF := WpO.step rfl ⟨v, H1, hx, h⟩
theorem WpX.lenP {x : ROpd} {p : AVal} {sz n : Nat} {cs : List AVal} (hx : x.ev fr = p) [s : SliceAt H p sz n cs] (h : K (.int .i64 n) H) : WpX (.lenS x) call fr H K := ⟨_, _, by simp only [ROp.exec, hx, s.lenS, M.ofOption, M.pure], h⟩
theorem exec_idxP {x i : ROpd} {p : AVal} {sz n : Nat} {cs : List AVal} {k : IntKind} {a : Int} (hx : x.ev fr = p) (hi : i.ev fr = .int k a) [s : SliceAt H p sz n cs] (h0 : 0 ≤ a ∧ a < n) : (ROp.idxS sz x i).exec call fr H = some (.ptr (rowOf p) (offOf p + a.toNat * sz), H) := by
  rcases s.it with ⟨_, rfl, _⟩ | ⟨r, off, cap, row, rw, e, rfl, _, _, hl, hc, _⟩
  · have := h0.1; have := h0.2; omega
  · simp only [ROp.exec, hx, hi, aIdxS, true_and, if_pos h0, M.ofOption, M.pure, rowOf, offOf]
theorem WpX.idxP {x i : ROpd} {p : AVal} {sz n : Nat} {cs : List AVal} {k : IntKind} {a : Int} (hx : x.ev fr = p) (hi : i.ev fr = .int k a) [s : SliceAt H p sz n cs] (h0 : 0 ≤ a ∧ a < n) (h : K (.ptr (rowOf p) (offOf p + a.toNat * sz)) H) : WpX (.idxS sz x i) call fr H K :=
  ⟨_, _, exec_idxP hx hi h0, h⟩
theorem exec_ldP {a : ROpd} {p : AVal} {sz n j : Nat} {cs : List AVal} {v : AVal} (ha : a.ev fr = .ptr (rowOf p) (offOf p + j)) [s : SliceAt H p sz n cs] (hv : cs[j]? = some v) : (ROp.load none a).exec call fr H = some (v, H) := by
  rcases s.it with ⟨_, _, rfl⟩ | ⟨r, off, cap, row, rw, e, rfl, hr, hg, hl, hc, hcap⟩
  · cases hv
  · have hj : j < n * sz := by
      have := (List.getElem?_eq_some_iff.1 hv).1
      have := s.len; omega
    have : row[off + j]? = some v := by
      rw [← hc, List.getElem?_take, if_pos hj, List.getElem?_drop] at hv
      exact hv
    simp only [ROp.exec, ha, aLoad, M.bind, aRow, rowOf, offOf, if_pos hr, hg, this, M.pure]
theorem WpX.ldP {a : ROpd} {p : AVal} {sz n j : Nat} {cs : List AVal} {v : AVal} (ha : a.ev fr = .ptr (rowOf p) (offOf p + j)) [s : SliceAt H p sz n cs] (hv : cs[j]? = some v) (h : K v H) : WpX (.load none a) call fr H K := ⟨_, _, exec_ldP ha hv, h⟩
theorem WpX.ldNP {a : ROpd} {p : AVal} {sz n j m : Nat} {cs l : List AVal} (ha : a.ev fr = .ptr (rowOf p) (offOf p + j)) [s : SliceAt H p sz n cs] (hm : 0 < m) (hv : j + m ≤ cs.length) (hl : (cs.drop j).take m = l) (h : K (.agg l) H) : WpX (.load (some m) a) call fr H K := by
  rcases s.it with ⟨_, _, rfl⟩ | ⟨r, off, cap, row, rw, e, rfl, hr, hg, hl', hc, _⟩
  · simp at hv; omega
  · have hlen := s.len
    refine WpX.loadN ha hr hg (by simp only [offOf]; omega) ?_
    have : (row.drop (offOf (.slice r off n cap sz) + j)).take m = l := by
      rw [← hl, ← hc]
      simp only [offOf]
      rw [List.drop_take, List.take_take, List.drop_drop, Nat.min_eq_left (by omega)]
    rw [this]; exact h
theorem setAt_one (cs : List AVal) (j : Nat) (v : AVal) : setAt cs j [v] = cs.set j v := rfl
theorem WpX.stP {a x : ROpd} {p : AVal} {sz n j : Nat} {cs : List AVal} {v : AVal} (ha : a.ev fr = .ptr (rowOf p) (offOf p + j)) (hx : x.ev fr = v) (hv : v.cells = [v]) (ho : v.one = true) [s : SliceAt H p sz n cs] [w : WrS H p] (hj : j < cs.length)
    (h : ∀ H1, SliceAt H1 p sz n (cs.set j v) → WrS H1 p → ExtP H H1 p → K aundef H1) : WpX (.store 1 a x) call fr H K := by
  rcases s.it with ⟨_, _, rfl⟩ | ⟨r, off, cap, row, rw, e, rfl, hr, hg, hl, hc, hcap⟩
  · simp at hj
  · obtain ⟨cs', e', hg'⟩ := w.it _ _ _ _ _ rfl
    rw [hg] at hg'; cases hg'
    have hlen := s.len
    refine WpX.store ha hx (by rw [hv]; rfl) hr hg (by rw [hv]; simp only [offOf, List.length_singleton]; omega) (by rw [hv]; simp only [List.all_cons, List.all_nil, ho]; rfl) ?_
    rw [hv, setAt_one]
    refine h _ ⟨Or.inr ⟨r, off, cap, row.set (off + j) v, true, e, rfl, hr, set_get_eq, by simpa using hl, ?_, hcap⟩⟩ ⟨fun r' off' len' cap' sz' e' => by cases e'; exact ⟨_, _, set_get_eq⟩⟩ ⟨Nat.le_refl _, fun r' hr' hne => set_get_ne (fun hh => hne.ne _ _ _ _ _ rfl hh.symm)⟩
    rw [← hc]
    apply List.ext_getElem?
    intro i
    simp only [List.getElem?_take, List.getElem?_drop, List.getElem?_set, List.length_take, List.length_drop]
    by_cases hij : j = i
    · subst hij
      have h1 : j < n * sz := by omega
      have h2 : off + j < row.length := by omega
      have h3 : j < min (n * sz) (row.length - off) := by omega
      simp [h1, h2, h3]
    · have : ¬ off + j = off + i := by omega
      simp [hij, this]
theorem mk_bytes (n : Nat) : (List.replicate n [AVal.int .u8 0]).flatten = cellsB (List.replicate n 0) := by
  induction n with
  | zero => rfl
  | succ n ih => rw [List.replicate_succ, List.flatten_cons, ih]; rfl
theorem mk_ints (n : Nat) : (List.replicate n [AVal.int .i64 0]).flatten = cellsI (List.replicate n 0) := by
  induction n with
  | zero => rfl
  | succ n ih => rw [List.replicate_succ, List.flatten_cons, ih]; rfl
theorem exec_mk {e : TypeId} {b : Nat} {z : AVal} {x y : ROpd} {k k' : IntKind} {a : Int} (hx : x.ev fr = .int k a) (hy : y.ev fr = .int k' a) (h0 : 0 ≤ a ∧ a ≤ a ∧ b * a ≤ 2 ^ 47 ∧ a < 2 ^ 62) : (ROp.makeSlice e [z] b x y).exec call fr H = some (.slice H.n 0 a.toNat (some a.toNat) 1, H.push (.row ((List.replicate a.toNat [z]).flatten) true (2 * e))) := by
  simp only [ROp.exec, hx, hy, aMakeSlice, if_pos h0, M.bind, aNew, M.pure, List.length_singleton]
theorem mk_facts {z : AVal} {n : Nat} {e : TypeId} {l : List AVal} (hl : (List.replicate n [z]).flatten = l) : SliceAt (H.push (.row l true e)) (.slice H.n 0 n (some n) 1) 1 n l ∧ FreshS H (.slice H.n 0 n (some n) 1) ∧ WrS (H.push (.row l true e)) (.slice H.n 0 n (some n) 1) := by
  have hlen : l.length = n := by rw [← hl]; simp
  refine ⟨⟨Or.inr ⟨H.n, 0, some n, l, true, e, rfl, Nat.lt_succ_self _, push_get_eq, by omega, ?_, Nat.le_refl _⟩⟩, ⟨fun r off len cap sz e => by cases e; exact Nat.le_refl _⟩, ⟨fun r off len cap sz e => by cases e; exact ⟨_, _, push_get_eq⟩⟩⟩
  rw [List.drop_zero, List.take_of_length_le (by omega)]
theorem WpX.mkB {e : TypeId} {x y : ROpd} {k k' : IntKind} {a : Int} {n : Nat} (hx : x.ev fr = .int k a) (hy : y.ev fr = .int k' a) (ha : a = n) (hn : n ≤ 2 ^ 40)
    (h : ∀ p H1, H1 = H.push (.row (cellsB (List.replicate n 0)) true (2 * e)) → BytesI H1 p (List.replicate n 0) → FreshS H p → WrS H1 p → ExtI H H1 → K p H1) : WpX (.makeSlice e [.int .u8 0] 1 x y) call fr H K := by
  subst ha
  obtain ⟨h1, h2, h3⟩ := mk_facts (H := H) (e := 2 * e) (mk_bytes n)
  refine ⟨_, _, exec_mk hx hy (by omega), ?_⟩
  rw [Int.toNat_natCast, mk_bytes]
  refine h _ _ rfl ?_ h2 h3 ⟨(Ext.refl H).push _⟩
  unfold BytesI
  rw [List.length_replicate]
  exact h1
theorem get_bytes {l : List UInt8} {i : Nat} (h : i < l.length) : (cellsB l)[i]? = some (.int .u8 (l[i].toNat : Int)) := by simp [cellsB, h]
theorem get_ints {l : List Int} {i : Nat} (h : i < l.length) : (cellsI l)[i]? = some (.int .i64 l[i]) := by simp [cellsI, h]
theorem set_bytes {l : List UInt8} {i : Nat} {b : UInt8} : (cellsB l).set i (.int .u8 (b.toNat : Int)) = cellsB (l.set i b) := by simp [cellsB, List.map_set]
theorem set_ints {l : List Int} {i : Nat} {n : Int} : (cellsI l).set i (.int .i64 n) = cellsI (l.set i n) := by simp [cellsI, List.map_set]
end
theorem w64 {x : Int} (h : -9223372036854775808 ≤ x ∧ x < 9223372036854775808) : IntKind.i64.wrap x = x := by
  have h1 : IntKind.i64.wrap x = if (true && decide (x % 2 ^ 64 ≥ 2 ^ 63)) = true then x % 2 ^ 64 - 2 ^ 64 else x % 2 ^ 64 := rfl
  rw [h1]
  by_cases hh : x % 2 ^ 64 ≥ 2 ^ 63
  · simp only [hh, decide_true, Bool.and_true, if_true]; omega
  · simp only [hh, decide_false, Bool.and_false, Bool.false_eq_true, if_false]; omega
theorem nrm : (∀ l, (AVal.agg l).cells = l) ∧ (∀ fr t, ROpd.ev fr (.tmp t) = fr t) ∧ (∀ fr v, ROpd.ev fr (.val v) = v) ∧ (∀ fr d v i, upd fr d v i = if i = d then v else fr i) ∧ (∀ fr d v, put fr (some d) v = upd fr d v) ∧ (∀ fr v, put fr none v = fr) ∧ (∀ v vs, argFrame (v :: vs) 0 = v) ∧ (∀ v w vs, argFrame (v :: w :: vs) 1 = w) ∧ (∀ v w x vs, argFrame (v :: w :: x :: vs) 2 = x) ∧ (∀ v w x y vs, argFrame (v :: w :: x :: y :: vs) 3 = y) ∧ (∀ v w x y z vs, argFrame (v :: w :: x :: y :: z :: vs) 4 = z) ∧ (∀ a b : AVal, (match true with | true => a | false => b) = a) ∧ (∀ a b : AVal, (match false with | true => a | false => b) = b) ∧ (∀ a b : AVal, cond true a b = a) ∧ (∀ a b : AVal, cond false a b = b) ∧ (!true) = false ∧ (!false) = true ∧ (∀ n : Nat, 0 + n = n) ∧ (∀ n : Nat, ((n : Int)).toNat = n) ∧ (∀ n : Nat, n * 1 = n) ∧ (∀ fr, updL [] fr = fr) ∧ (∀ p l fr, updL (p :: l) fr = upd (updL l fr) p.1 p.2) ∧ (∀ g fr, mix [] g fr = fr) ∧ (∀ d D g fr, mix (d :: D) g fr = upd (mix D g fr) d (g d)) ∧ (∀ l, (cellsB l).length = l.length) ∧ (∀ l, (cellsI l).length = l.length) ∧ (∀ (a b : AVal) l, (a :: l).set 0 b = b :: l) ∧ (∀ (a b : AVal) l, (a :: l).set 1 b = a :: l.set 0 b) ∧ (∀ (a b : AVal) l, (a :: l).set 2 b = a :: l.set 1 b) ∧ (∀ (a b : AVal) l, (a :: l).set 3 b = a :: l.set 2 b) ∧ (∀ (a : AVal) l n, List.take (n + 1) (a :: l) = a :: List.take n l) ∧ (∀ l : List AVal, List.take 0 l = []) ∧ (∀ l : List AVal, List.drop 0 l = l) ∧ (∀ (a : AVal) l n, List.drop (n + 1) (a :: l) = List.drop n l) ∧ (∀ k n, (AVal.int k n).cells = [AVal.int k n]) ∧ (∀ b, (AVal.bool b).cells = [AVal.bool b]) ∧ (∀ b, (AVal.str b).cells = [AVal.str b]) ∧ (∀ r o, (AVal.ptr r o).cells = [AVal.ptr r o]) ∧ AVal.nslice.cells = [AVal.nslice] ∧ (∀ r o l c z, (AVal.slice r o l c z).cells = [AVal.slice r o l c z]) ∧ Int.toNat 0 = 0 ∧ (∀ cs off, setAt cs off [] = cs) ∧ (∀ cs off v vs, setAt cs off (v :: vs) = setAt (cs.set off v) (off + 1) vs) := by
  refine ⟨fun _ => rfl, fun _ _ => rfl, fun _ _ => rfl, upd_at, fun _ _ _ => rfl, fun _ _ => rfl, fun _ _ => rfl, fun _ _ _ => rfl, fun _ _ _ _ => rfl, fun _ _ _ _ _ => rfl, fun _ _ _ _ _ _ => rfl, fun _ _ => rfl, fun _ _ => rfl, fun _ _ => rfl, fun _ _ => rfl, rfl, rfl, Nat.zero_add, Int.toNat_natCast, Nat.mul_one, fun _ => rfl, fun _ _ _ => rfl, fun _ _ => rfl, fun _ _ _ _ => rfl, cellsB_length, cellsI_length, fun _ _ _ => rfl, fun _ _ _ => rfl, fun _ _ _ => rfl, fun _ _ _ => rfl, fun _ _ _ => rfl, fun _ => rfl, fun _ => rfl, fun _ _ _ => rfl, fun _ _ => rfl, fun _ => rfl, fun _ => rfl, fun _ _ => rfl, rfl, fun _ _ _ _ _ => rfl, rfl, fun _ _ => rfl, fun _ _ _ _ => rfl⟩
end Go.Am

namespace Go.Am
open Go Go.RowKit
section
variable {P : Program} {S : Base} {m : RMap} {H : AHeap} {w w' : World}
def tablesIn (T : List (Nat × List AVal)) (H : AHeap) : Bool := T.all fun t => Nat.blt t.1 H.n && match H.get t.1 with | .row cs _ _ => abeqL cs t.2 | _ => false
def tableObj : List (Nat × List AVal) → Nat → AObj
  | [], _ => .dead
  | (g, cs) :: T, i => cond (Nat.beq i g) (.row cs false 0) (tableObj T i)
def tableHeap (G : Nat) (T : List (Nat × List AVal)) : AHeap := ⟨G, tableObj T⟩
def globMap (G L : Nat) : RMap := fun g => if g < G then some (⟨g, 0, none⟩, L) else none
def longest : List (Nat × List AVal) → Nat
  | [] => 0
  | t :: T => t.2.length + longest T
theorem le_longest {T : List (Nat × List AVal)} {t : Nat × List AVal} (h : t ∈ T) : t.2.length ≤ longest T := by
  induction T with
  | nil => simp at h
  | cons u T ih =>
    simp only [longest]
    rcases List.mem_cons.1 h with rfl | h
    · omega
    · have := ih h; omega
theorem tableObj_loop {R : RLoop} : ∀ {T : List (Nat × List AVal)} {i : Nat}, tableObj T i ≠ .loop R
  | [], i => fun e => by cases e
  | (g, cs) :: T, i => fun e => by
    simp only [tableObj] at e
    cases h : Nat.beq i g with
    | true => rw [h] at e; cases e
    | false => rw [h] at e; exact tableObj_loop e
theorem tableObj_map {es : List (AVal × AVal)} : ∀ {T : List (Nat × List AVal)} {i : Nat}, tableObj T i ≠ .mapo es
  | [], i => fun e => by cases e
  | (g, cs) :: T, i => fun e => by
    simp only [tableObj] at e
    cases h : Nat.beq i g with
    | true => rw [h] at e; cases e
    | false => rw [h] at e; exact tableObj_map e
theorem tableObj_row {T : List (Nat × List AVal)} {i : Nat} {cs : List AVal} {rw : Bool} {e : TypeId} (h : tableObj T i = .row cs rw e) : (i, cs) ∈ T ∧ rw = false := by
  induction T with
  | nil => cases h
  | cons t T ih =>
    obtain ⟨g, l⟩ := t
    simp only [tableObj] at h
    cases hb : Nat.beq i g with
    | true =>
      rw [hb] at h; cases h
      have := Nat.eq_of_beq_eq_true hb
      subst this
      exact ⟨by simp, rfl⟩
    | false =>
      rw [hb] at h
      obtain ⟨h1, h2⟩ := ih h
      exact ⟨List.mem_cons_of_mem _ h1, h2⟩
def plainV : AVal → Bool
  | .bool _ | .int _ _ | .str _ | .nptr | .nslice | .nfunc | .niface => true
  | _ => false
theorem plain_emb {v : AVal} (h : plainV v = true) (m m' : RMap) : emb m v = emb m' v := by cases v <;> first | rfl | (simp [plainV] at h)
def aClosed (T : List (Nat × List AVal)) (v : AVal) : List AVal → M AVal
  | [] => fun H => match tablesIn T H with | true => some (v, H) | false => none
  | _ => M.fail
theorem ext_closed (hmix : P.follows .mixedOrders = true) {ext0 : Exts} {prog0 : FuncId → Option RFunc} (hP : ProgOk P ext0 prog0) {T : List (Nat × List AVal)} {f : FuncId} {fn : Func} {c : Code} (hfn : P.funcs[f]? = some fn) (hb : fn.body = some c) (hname : fn.name ≠ "runtime.NumGoroutine")
    {n : Nat} {v : AVal} (hv : plainV v = true) (hT : (T.all fun t => Nat.blt t.1 P.globals.size && t.2.all plainV) = true) (hrun : ∃ H', callN ext0 prog0 n f [] (tableHeap P.globals.size T) = some (v, H'))
    {ext : Exts} {k : Nat} (hk : ext k = aClosed T v) : ExtSim P ext f k := by
  intro S args H u H' m w vargs hG hx h ha
  rw [hk] at hx
  cases args with
  | cons a l => exact (fail_some (H := H) hx).elim
  | nil =>
    simp only [embL] at ha; cases ha
    unfold aClosed at hx
    cases ht : tablesIn T H with
    | false => simp only [ht] at hx; cases hx
    | true =>
      simp only [ht, Option.some.injEq, Prod.mk.injEq] at hx
      obtain ⟨rfl, rfl⟩ := hx
      obtain ⟨H1, hrun⟩ := hrun
      simp only [tablesIn, List.all_eq_true, Bool.and_eq_true] at ht hT
      have hrel : HRel ⟨w.heap.size, w, P.globals.size, fun _ => False, cCode P⟩ (globMap P.globals.size (longest T)) (tableHeap P.globals.size T) w := by
        refine ⟨Below.refl _ _, Nat.le_refl _, fun g hg => ⟨longest T, by simp only at hg; simp [globMap, hg]⟩, fun r hr => by simp only [tableHeap] at hr; simp [globMap]; omega, fun r hr => hr.elim, ?_, ?_, ⟨fun r R p _ h _ => absurd h tableObj_loop, fun r s R R' p q L L' _ _ _ h => absurd h tableObj_loop, ⟨fun r es p _ h _ => absurd h tableObj_map, fun r s es es' p q _ _ _ h => absurd h tableObj_map⟩⟩⟩
        · intro r cs rw e p hr hg hp
          obtain ⟨hmem, rfl⟩ := tableObj_row hg
          have hT1 := hT _ hmem
          have ht1 := ht _ hmem
          simp only [] at hT1 ht1
          have hrG : r < P.globals.size := by simpa using hT1.1
          have hp' : p = (⟨r, 0, none⟩, longest T) := by simp only [globMap, hrG, if_true] at hp; exact (Option.some.inj hp).symm
          subst hp'
          obtain ⟨k, hmk⟩ := h.glob r (by rw [hG]; exact hrG)
          have hrn : r < H.n := by simpa using ht1.1
          cases hgr : H.get r with
          | row cs' rw' e' =>
            have ht2 := ht1.2
            rw [hgr] at ht2
            simp only [] at ht2
            have hcs := abeqL_eq ht2
            subst hcs
            have hok := h.row r cs' rw' e' _ hrn hgr hmk
            refine ⟨fun i u hi => ?_, le_longest hmem, fun q => by cases q⟩
            obtain ⟨x, h1, h2⟩ := hok.cell i u hi
            have hpl : plainV u = true := hT1.2 u (List.mem_of_getElem? hi)
            exact ⟨x, by rw [plain_emb hpl _ m]; exact h1, h2⟩
          | _ => have ht2 := ht1.2; rw [hgr] at ht2; cases ht2
        · intro r s cs rw e cs' e' p q hr hs hne hg1 hg2 hp hq
          exact absurd (tableObj_row hg2).2 (by decide)
      have hy := sim_callN hmix hP n ⟨w.heap.size, w, P.globals.size, fun _ => False, cCode P⟩ rfl rfl f [] (tableHeap P.globals.size T) v H1 (globMap P.globals.size (longest T)) w [] hrun hrel (by simp [embL])
      rw [callN_sem hP hrun] at hy
      refine hy.mono fun x w' ⟨m', _, hx, hrel'⟩ => ?_
      refine ⟨m, Le.refl _, by rw [plain_emb hv m m']; exact hx, h.kept hrel'.below⟩
end
end Go.Am

namespace Go.Am
open Go Go.RowKit
def plainT (P : Program) : Nat → TypeId → Bool
  | 0, _ => false
  | n + 1, t => match P.underlying t with
    | some .bool => true
    | some .string => true
    | some (.int _) => true
    | some (.slice e) => plainT P n e
    | some (.struct fs) => fs.toList.all fun f => plainT P n f.type
    | some (.array _ e) => plainT P n e
    | _ => false
def shapes (S : TypeId → List AVal → Prop) : List TypeId → List AVal → Prop
  | [], cs => cs = []
  | t :: ts, cs => ∃ a b, cs = a ++ b ∧ S t a ∧ shapes S ts b
def Shape (P : Program) (H : AHeap) : Nat → TypeId → List AVal → Prop
  | 0, _, _ => False
  | n + 1, t, cs => match P.underlying t with
    | some .bool => ∃ b, cs = [.bool b]
    | some .string => ∃ s : ByteArray, cs = [.str s] ∧ s.size ≤ maxLen
    | some (.int k) => ∃ i, cs = [.int k i] ∧ (Lit.int k i).wf = true
    | some (.slice e) => ∃ p len cells, cs = [p] ∧ SliceAt H p (P.cellsOf e) len cells ∧ len ≤ maxLen ∧ shapes (Shape P H n) (List.replicate len e) cells
    | some (.struct fs) => shapes (Shape P H n) (fs.toList.map fun f => f.type) cs
    | some (.array k e) => shapes (Shape P H n) (List.replicate k e) cs
    | _ => False
theorem shapes_mono {S S' : TypeId → List AVal → Prop} (h : ∀ t a, S t a → S' t a) : ∀ {ts : List TypeId} {cs : List AVal}, shapes S ts cs → shapes S' ts cs := by
  intro ts
  induction ts with
  | nil => intro cs h; exact h
  | cons t ts ih =>
    intro cs hs
    obtain ⟨a, b, e, h1, h2⟩ := hs
    exact ⟨a, b, e, h _ _ h1, ih h2⟩
theorem Shape.ext {P : Program} {H H' : AHeap} (x : Ext H H') : ∀ {n : Nat} {t : TypeId} {cs : List AVal}, Shape P H n t cs → Shape P H' n t cs := by
  intro n
  induction n with
  | zero => intro t cs h; exact h
  | succ n ih =>
    intro t cs h
    cases hu : P.underlying t with
    | none => simp only [Shape, hu] at h
    | some d => cases d with
      | slice e =>
        simp only [Shape, hu] at h ⊢
        obtain ⟨p, len, cells, h1, h2, h3, h4⟩ := h
        haveI : ExtI H H' := ⟨x⟩
        exact ⟨p, len, cells, h1, inferInstance, h3, shapes_mono (fun t a => ih) h4⟩
      | struct fs => simp only [Shape, hu] at h ⊢; exact shapes_mono (fun t a => ih) h
      | array k e => simp only [Shape, hu] at h ⊢; exact shapes_mono (fun t a => ih) h
      | _ => simp only [Shape, hu] at h ⊢ <;> exact h
def RO (H : AHeap) : Prop := ∀ r cs rw e, H.get r = .row cs rw e → rw = false
section
variable {P : Program} {S : Base} {m : RMap} {H : AHeap} {w : World}
theorem HRel.addRow (h : HRel S m H w) (hro : RO H) (hgh : ∀ r, ¬ S.ghost r) {cs : List AVal} {a : Addr} (hc : ∀ (i : Nat) (v : AVal), cs[i]? = some v → ∃ x, emb m v = some x ∧ w.cell? (a.add i) = some x) :
    Le m (m.add H.n (a, cs.length)) ∧ HRel S (m.add H.n (a, cs.length)) (H.push (.row cs false 0)) w ∧ RO (H.push (.row cs false 0)) := by
  have hm := le_add (m := m) (n := H.n) (a, cs.length) (h.fresh H.n (Nat.le_refl _))
  have hro' : RO (H.push (.row cs false 0)) := by
    intro r cs' rw e hg
    rw [getp] at hg
    split at hg
    · cases hg; rfl
    · exact hro _ _ _ _ hg
  refine ⟨hm, ⟨h.below, h.size, fun g hg => ?_, fun r hr => ?_, fun r hr => absurd hr (hgh r), fun r cs' rw e p hr hg hp => ?_, fun r s cs' rw e cs2 e2 p q hr hs hne hg1 hg2 => ?_, h.loops.push hm still (fun e => by cases e) fun r hr => add_ne hr⟩, hro'⟩
  · obtain ⟨k, hk⟩ := h.glob g hg
    exact ⟨k, hm _ _ hk⟩
  · have : r ≠ H.n := by simp only [np] at hr; omega
    rw [add_ne this]
    exact h.fresh r (by simp only [np] at hr; omega)
  · rw [getp] at hg
    by_cases hrn : r = H.n
    · rw [if_pos hrn] at hg
      cases hg
      rw [hrn, add_eq] at hp
      cases hp
      refine ⟨fun i v hi => ?_, Nat.le_refl _, fun q => by cases q⟩
      obtain ⟨x, h1, h2⟩ := hc i v hi
      exact ⟨x, emb_mono hm _ _ h1, h2⟩
    · rw [if_neg hrn] at hg
      rw [add_ne hrn] at hp
      exact (h.row r cs' rw e p (by simp only [np] at hr; omega) hg hp).mono hm (Keeps.refl _ _) (fun _ => rfl) fun _ => rfl
  · have := hro' _ _ _ _ hg2
    cases this
theorem some_bind {α β : Type} {x : Option α} {f : α → Option β} {y : β} (h : x.bind f = some y) : ∃ a, x = some a ∧ f a = some y := by
  cases x with
  | none => cases h
  | some a => exact ⟨a, rfl, h⟩
theorem some_map {α β : Type} {x : Option α} {f : α → β} {y : β} (h : x.map f = some y) : ∃ a, x = some a ∧ f a = y := by
  cases x with
  | none => cases h
  | some a => exact ⟨a, rfl, Option.some.inj h⟩
theorem mapM_cons_some {α β : Type} {f : α → Option β} {x : α} {l : List α} {r : List β} (h : (x :: l).mapM f = some r) : ∃ a t, f x = some a ∧ l.mapM f = some t ∧ r = a :: t := by
  rw [List.mapM_cons] at h
  obtain ⟨a, h1, h2⟩ := some_bind h
  obtain ⟨t, h3, h4⟩ := some_bind h2
  exact ⟨a, t, h1, h3, (Option.some.inj h4).symm⟩
theorem cells?_len {w : World} {base : Nat} {a : Addr} {n : Nat} {cs : List Value} (h : w.cells? base a n = some cs) : cs.length = n ∧ ∀ (i : Nat) (x : Value), cs[i]? = some x → w.cell? (a.add i) = some x := by
  unfold World.cells? at h
  split at h
  · have key : ∀ (l : List Nat) (cs : List Value), l.mapM (fun i => w.cell? (a.add i)) = some cs → cs.length = l.length ∧ ∀ (i : Nat) (x : Value), cs[i]? = some x → ∃ k : Nat, l[i]? = some k ∧ w.cell? (a.add k) = some x := by
      intro l
      induction l with
      | nil => intro cs h; simp at h; subst h; simp
      | cons k l ih =>
        intro cs h
        obtain ⟨v, t, h1, h2, rfl⟩ := mapM_cons_some h
        obtain ⟨h3, h4⟩ := ih t h2
        refine ⟨by simp [h3], fun i x hi => ?_⟩
        cases i with
        | zero => simp at hi; subst hi; exact ⟨k, rfl, h1⟩
        | succ i => simp at hi ⊢; exact h4 i x hi
    obtain ⟨h1, h2⟩ := key _ _ h
    refine ⟨by simpa using h1, fun i x hi => ?_⟩
    obtain ⟨k, h3, h4⟩ := h2 i x hi
    have hlt : i < n := by
      have := (List.getElem?_eq_some_iff.1 h3).1
      simpa using this
    rw [List.getElem?_range hlt] at h3
    cases h3
    exact h4
  · cases h
variable {Hd : Type} {enc : TypeId × Value → Hd} {base : Nat} {spare : Nat → Bool} {held : Bool} {T : TypeId → Prop}
def Opened (P : Program) (S : Base) (w : World) (m : RMap) (H : AHeap) (cs : List Value) (Q : AHeap → List AVal → Prop) : Prop :=
  ∃ H' m' acs, Ext H H' ∧ Le m m' ∧ HRel S m' H' w ∧ RO H' ∧ embL m' acs = some cs ∧ Q H' acs
theorem flatten_cut : ∀ (ss : List Nat) (cs : List Value), cs.length = ss.sum → ((List.range ss.length).map fun i => (cs.drop (ss.take i).sum).take (ss.getD i 0)).flatten = cs := by
  intro ss
  induction ss with
  | nil => intro cs h; simp at h; simp [h]
  | cons s ss ih =>
    intro cs h
    simp only [List.sum_cons] at h
    rw [List.length_cons, List.range_succ_eq_map, List.map_cons, List.flatten_cons, List.map_map]
    have : ((List.range ss.length).map ((fun i => (cs.drop ((s :: ss).take i).sum).take ((s :: ss).getD i 0)) ∘ Nat.succ)) = (List.range ss.length).map fun i => ((cs.drop s).drop (ss.take i).sum).take (ss.getD i 0) := by
      apply List.map_congr_left
      intro i _
      simp [List.drop_drop]
    rw [this, ih (cs.drop s) (by simp; omega)]
    simp
end
end Go.Am

namespace Go.Am
open Go
class PureCon (ext : Exts) (prog : FuncId → Option RFunc) (f : FuncId) (args : List AVal) (H : AHeap) (d : outParam Nat) (v : outParam AVal) : Prop where
  con : Con ext prog d f args H fun u H' => u = v ∧ Ext H H'
theorem call_ext {ext : Exts} {prog : FuncId → Option RFunc} {k f nt e : Nat} {args : List AVal} {res : List RRes} (h : prog f = some ⟨nt, .ext e, res⟩) : callN ext prog (k + 1) f args = ext e args := by
  simp only [callN, h, RFunc.run]
section
variable {ext : Exts} {prog : FuncId → Option RFunc} {fr : AFrame} {H : AHeap} {K : AVal → AHeap → Prop} {KF : AFrame → AHeap → Prop}
theorem WpX.pcall {n d D : Nat} {f : FuncId} {o : ROpd} {l : List ROpd} {args : List AVal} {v : AVal} (hn : fuel0 + D ≤ n) (hf : o.ev fr = .func (.func f) [] []) (hl : l.map (·.ev fr) = args) [hc : PureCon ext prog f args H d v] (hd : Nat.ble d D = true)
    (h : ∀ H1, ExtI H H1 → K v H1) : WpX (.call o l) (callN ext prog n) fr H K :=
  WpX.con hc.con (Nat.le_trans (Nat.add_le_add_left (Nat.le_of_ble_eq_true hd) _) hn) hf hl fun u H1 ⟨hu, hx⟩ => by subst hu; exact h H1 ⟨hx⟩
theorem WpX.conD {n d D : Nat} {f : FuncId} {o : ROpd} {l : List ROpd} {args : List AVal} {Q : AVal → AHeap → Prop} (hn : fuel0 + D ≤ n) (hd : Nat.ble d D = true) (hf : o.ev fr = .func (.func f) [] []) (hl : l.map (·.ev fr) = args) (hc : Con ext prog d f args H Q)
    (h : ∀ v H', Q v H' → K v H') : WpX (.call o l) (callN ext prog n) fr H K :=
  WpX.con hc (Nat.le_trans (Nat.add_le_add_left (Nat.le_of_ble_eq_true hd) _) hn) hf hl h
end
section
variable {call : ACall} {fr : AFrame} {H : AHeap} {K : AVal → AHeap → Prop} {KF : AFrame → AHeap → Prop}
theorem WpX.ldB {a : ROpd} {p : AVal} {j : Nat} {l : List UInt8} (ha : a.ev fr = .ptr (rowOf p) (offOf p + j)) [s : BytesI H p l] (hj : j < l.length) (h : K (.int .u8 (l[j].toNat : Int)) H) : WpX (.load none a) call fr H K := WpX.ldP ha (get_bytes hj) h
theorem WpX.ldI {a : ROpd} {p : AVal} {j : Nat} {l : List Int} (ha : a.ev fr = .ptr (rowOf p) (offOf p + j)) [s : IntsI H p l] (hj : j < l.length) (h : K (.int .i64 l[j]) H) : WpX (.load none a) call fr H K := WpX.ldP ha (get_ints hj) h
theorem WpX.stB {a x : ROpd} {p : AVal} {j : Nat} {l : List UInt8} {k : Int} (b : UInt8) (ha : a.ev fr = .ptr (rowOf p) (offOf p + j)) (hx : x.ev fr = .int .u8 k) (hk : k = (b.toNat : Int)) [s : BytesI H p l] [w : WrS H p] (hj : j < l.length)
    (h : ∀ H1, BytesI H1 p (l.set j b) → WrS H1 p → ExtP H H1 p → K aundef H1) : WpX (.store 1 a x) call fr H K := by
  subst hk
  refine WpX.stP ha hx rfl rfl (by rw [cellsB_length]; exact hj) fun H1 h1 h2 h3 => h H1 ?_ h2 h3
  rw [set_bytes] at h1
  unfold BytesI
  rw [List.length_set]
  exact h1
class OneV (v : AVal) : Prop where
  cells : v.cells = [v]
  one : v.one = true
instance {k : IntKind} {n : Int} : OneV (.int k n) := ⟨rfl, rfl⟩
instance {b : Bool} : OneV (.bool b) := ⟨rfl, rfl⟩
instance {b : ByteArray} : OneV (.str b) := ⟨rfl, rfl⟩
instance : OneV .nptr := ⟨rfl, rfl⟩
instance {r off : Nat} : OneV (.ptr r off) := ⟨rfl, rfl⟩
instance : OneV .nslice := ⟨rfl, rfl⟩
instance {r off len : Nat} {cap : Option Nat} {sz : Nat} : OneV (.slice r off len cap sz) := ⟨rfl, rfl⟩
instance {f : Fn} {a b : List AVal} : OneV (.func f a b) := ⟨rfl, rfl⟩
instance : OneV .nfunc := ⟨rfl, rfl⟩
instance : OneV .niface := ⟨rfl, rfl⟩
theorem SliceAt.one {H : AHeap} {p : AVal} {sz n : Nat} {cs : List AVal} (h : SliceAt H p sz n cs) : OneV p := by
  rcases h.it with ⟨rfl, _⟩ | ⟨r, off, cap, row, rw, e, rfl, _⟩ <;> infer_instance
theorem aFill1 {cells : List AVal} {off : Nat} {x : ROpd} {v : AVal} {rest : List (Nat × Nat × ROpd)} {r : Option (List AVal)} (hx : x.ev fr = v) [o : OneV v] (ho : Nat.ble (off + 1) cells.length = true) (h : aFill fr (cells.set off v) rest = r) : aFill fr cells ((off, 1, x) :: rest) = r := by
  have h1 : ¬ (off + 1 > cells.length) := by have := Nat.le_of_ble_eq_true ho; omega
  simp only [aFill, hx, o.cells, List.length_singleton, ne_eq, not_true, false_or, if_neg h1, setAt_one]
  exact h
theorem allOne_cons {v : AVal} {l : List AVal} [o : OneV v] (h : l.all AVal.one = true) : (v :: l).all AVal.one = true := by simp only [List.all_cons, o.one, h, Bool.and_self]
theorem getAllT {t : Nat} {rs : List RRes} {v : AVal} {vs : List AVal} (hv : fr t = v) (h : getAll fr rs H = some (vs, H)) : getAll fr (.tmp t :: rs) H = some (v :: vs, H) := by
  subst hv
  simp only [getAll, RRes.get, M.bind, M.pure, h]
theorem getAllC {t m r off : Nat} {cs l : List AVal} {rw : Bool} {e : TypeId} {rs : List RRes} {vs : List AVal} (ha : fr t = .ptr r off) [hg : HasRow H r cs rw e] (hv : Nat.ble (off + m) cs.length = true) (hl : (cs.drop off).take m = l) (h : getAll fr rs H = some (vs, H)) : getAll fr (.cell t (some m) :: rs) H = some (.agg l :: vs, H) := by
  subst hl
  simp only [getAll, RRes.get, ha, aLoad, M.bind, aRow, if_pos hg.lt, hg.get, if_pos (Nat.le_of_ble_eq_true hv), M.pure, h]
theorem getAllC1 {t r off : Nat} {cs : List AVal} {v : AVal} {rw : Bool} {e : TypeId} {rs : List RRes} {vs : List AVal} (ha : fr t = .ptr r off) [hg : HasRow H r cs rw e] (hv : cs[off]? = some v) (h : getAll fr rs H = some (vs, H)) : getAll fr (.cell t none :: rs) H = some (v :: vs, H) := by
  simp only [getAll, RRes.get, ha, aLoad, M.bind, aRow, if_pos hg.lt, hg.get, hv, M.pure, h]
end
end Go.Am

namespace Go.Am
open Go Go.RowKit Go.ChangeShapes Go.WideShapes
def aggTy (P : Program) (t : TypeId) : Bool := match P.underlying t with
  | some (.struct _) => true
  | some (.array _ _) => true
  | _ => false
def argV (P : Program) (t : TypeId) (acs : List AVal) : AVal := bif aggTy P t then .agg acs else acs.headD .nptr
def ArgS (P : Program) (H : AHeap) (n : Nat) : List TypeId → List AVal → Prop
  | [], avs => avs = []
  | t :: ts, avs => ∃ acs rest, avs = argV P t acs :: rest ∧ Shape P H n t acs ∧ ArgS P H n ts rest
theorem ArgS.ext {P : Program} {H H' : AHeap} (x : Ext H H') {n : Nat} : ∀ {ts : List TypeId} {avs : List AVal}, ArgS P H n ts avs → ArgS P H' n ts avs := by
  intro ts
  induction ts with
  | nil => intro avs h; exact h
  | cons t ts ih =>
    intro avs h
    obtain ⟨acs, rest, e, h1, h2⟩ := h
    exact ⟨acs, rest, e, h1.ext x, ih h2⟩
section
variable {P : Program} {S : Base} {m : RMap} {H : AHeap} {w : World} {Hd : Type} {enc : TypeId × Value → Hd} {T : TypeId → Prop}
theorem args_stay (K : Kids P T) (hz : ∀ t e, T t → P.underlying t = some (.slice e) → 0 < P.cellsOf e) {w' : World} (hb : Below w.heap.size w w') {sp : Nat → Bool} : ∀ {ts : List TypeId} {vs : List Value} {ds : List (DataW Hd)} {ps : List MemPlace}, (∀ t ∈ ts, T t) →
    DataW.TrodAll enc P w 0 (fun _ => true) true ts vs ds ps → (∀ p ∈ ps, p.block < w.heap.size) → (∀ p ∈ ps, sp p.block = true) → DataW.TrodAll enc P w' 0 sp true ts vs ds ps
  | [], [], [], _, _, h, _, _ => h
  | _ :: _, _ :: _, _ :: _, _, hT, ⟨p, q, h1, h2, e⟩, hlt, hs => by
    obtain ⟨f, hf⟩ := h1
    refine ⟨p, q, ⟨f, ?_⟩, args_stay K hz hb (fun t ht => hT t (List.mem_cons.2 (Or.inr ht))) h2 (fun x hx => hlt x (by rw [e]; exact List.mem_append_right _ hx)) fun x hx => hs x (by rw [e]; exact List.mem_append_right _ hx), e⟩
    exact DataW.trod_stays K (fun {t e} => hz t e) (by intro h; cases h) (hT _ (List.mem_cons.2 (Or.inl rfl))) hf (fun x hx => hb.same (hlt x (by rw [e]; exact List.mem_append_left _ hx))) fun x hx => hs x (by rw [e]; exact List.mem_append_left _ hx)
theorem post_true {fn : Func} {s : ChangeSpec} {apart fresh handsOn again : Bool} {w' : World} {args : Array Value} {ds gs : List (DataW Hd)} {before : List MemPlace} {tb : TypeId} (K : Kids P T) (hz : ∀ t e, T t → P.underlying t = some (.slice e) → 0 < P.cellsOf e) (hT : ∀ t ∈ fn.params.toList, T t)
    (hvars : s.vars = []) (hfn : s.fn Hd ds = { results := [.lit (.bool true)], args := ds }) (hrt : fn.resultTypes = #[tb]) (htb : P.underlying tb = some .bool)
    (hW : DataW.Whole enc P fn.params.toList s.vars apart w args.toList ds gs before) (hb : Below w.heap.size w w') : s.post enc P fn apart fresh handsOn again w args (.bool true) w' := by
  have hlt := hW.lt
  have hW' := hW
  obtain ⟨p, q, hA, hV, rfl, hfz, hnd⟩ := hW
  rw [hvars] at hV
  obtain ⟨rfl, rfl⟩ := trodVars_none hV
  rw [List.append_nil] at *
  have hv0 : ∀ sp : Nat → Bool, DataW.TrodVars enc P w' sp s.vars ([] : List (DataW Hd)) [] := fun sp => by rw [hvars]; rfl
  have hres : ∀ (b : Nat) (sp : Nat → Bool) (hd : Bool), DataW.TrodAll enc P w' b sp hd fn.resultTypes.toList ((Value.bool true).resultList fn.resultTypes.size) [.lit (.bool true)] [] := fun b sp hd => by
    rw [hrt]
    exact trodAll_cons_mk (shut_bool htb true) trodAll_mk0
  have hargs : ∀ sp : Nat → Bool, (∀ x ∈ p, sp x.block = true) → DataW.TrodAll enc P w' 0 sp true fn.params.toList args.toList ds p := fun sp hs => args_stay K hz hb hT hA hlt hs
  refine ⟨ds, [], p, [], p, [], hW', ?_, ?_, ?_, ?_, fun _ => ⟨?_, [.lit (.bool true)] ++ ds, [], p, ⟨p, [], ?_, hv0 _, by simp, ?_, hnd⟩, fun x hx _ => hx⟩⟩
  · rw [List.append_nil, hfn]; exact hres _ _ _
  · rw [List.append_nil, hfn]; exact hargs _ fun x hx => by simpa using hlt x hx
  · rw [List.append_nil, hfn]; exact hv0 _
  · exact hb.frame _
  · intro j t r hj hr
    rw [hrt] at hj hr
    cases j with
    | zero =>
      simp at hj
      subst hj
      simp [Value.resultList] at hr
      subst hr
      exact okWide_bool_mk htb _
    | succ j => simp at hj
  · simpa using trodAll_append (hargs (fun _ => true) fun _ _ => rfl) (hres 0 (fun _ => true) true)
  · intro b off hp
    have h1 := hlt _ hp
    rw [hb.frozen (p := ⟨b, off, none⟩) h1]
    exact hfz b off hp
end
section
variable {P : Program} {w : World} {Hd : Type} {enc : TypeId × Value → Hd} {base : Nat} {spare : Nat → Bool} {held : Bool} {T : TypeId → Prop}
end
end Go.Am

namespace Go.Am
open Go Go.RowKit
section
variable {P : Program} {H : AHeap} {n : Nat} {t e : TypeId} {cs : List AVal}
theorem u8_of {i : Int} (h : (Lit.int .u8 i).wf = true) : ∃ b : UInt8, i = (b.toNat : Int) := by
  have h1 : 0 ≤ i ∧ i < 256 := by
    simp only [Lit.wf, IntKind.has] at h
    revert h
    simp [IntKind.min, IntKind.max, IntKind.bits, IntKind.signed]
    intro a b
    constructor <;> omega
  refine ⟨UInt8.ofNat i.toNat, ?_⟩
  simp only [UInt8.toNat_ofNat']
  omega
end
end Go.Am

namespace Go.Am
open Go
def aBytesFn (f : List UInt8 → AVal) : AVal → M AVal
  | .nslice => M.pure (f [])
  | .str s => M.pure (f s.data.toList)
  | .slice r off len _ s => if s ≠ 1 then M.fail else M.bind (aRow r) fun (cs, _) => if off + len ≤ cs.length then match bytesOf ((cs.drop off).take len) with
      | some l => M.pure (f l)
      | none => M.fail
    else M.fail
  | _ => M.fail
def aCount : List AVal → M AVal
  | [x, .int .u8 b] => aBytesFn (fun l => .int .i64 (Lib.countByte l (UInt8.ofNat b.toNat))) x
  | _ => M.fail
def aIndexByte : List AVal → M AVal
  | [x, .int .u8 b] => aBytesFn (fun l => .int .i64 (Lib.indexByte l (UInt8.ofNat b.toNat))) x
  | _ => M.fail
def aSelf : List AVal → M AVal
  | [x] => M.pure x
  | _ => M.fail
end Go.Am

namespace Go.Am
open Go Go.RowKit
def dg (n : Nat) : UInt8 := UInt8.ofNat (48 + n)
def digs (n : Nat) : List UInt8 := if n < 10 then [dg n] else if n < 100 then [dg (n / 10), dg (n % 10)] else [dg (n / 100), dg (n / 10 % 10), dg (n % 10)]
section
variable {P : Program}
def aFam (T : List (Nat × List AVal)) (F : List AVal → Option AVal) (args : List AVal) : M AVal := fun H => match tablesIn T H, F args with | true, some v => some (v, H) | _, _ => none
theorem plain_embL {l : List AVal} (h : l.all plainV = true) (m m' : RMap) : embL m l = embL m' l := by
  induction l with
  | nil => simp [embL]
  | cons a l ih =>
    rw [List.all_cons, Bool.and_eq_true] at h
    simp only [embL, plain_emb h.1 m m', ih h.2]
theorem ext_fam (hmix : P.follows .mixedOrders = true) {ext0 : Exts} {prog0 : FuncId → Option RFunc} (hP : ProgOk P ext0 prog0) {T : List (Nat × List AVal)} {F : List AVal → Option AVal} {f : FuncId} {fn : Func} (hfn : P.funcs[f]? = some fn)
    {n : Nat} (hT : (T.all fun t => Nat.blt t.1 P.globals.size && t.2.all plainV) = true) (hF : ∀ args v, F args = some v → args.all plainV = true ∧ plainV v = true ∧ ∃ H', callN ext0 prog0 n f args (tableHeap P.globals.size T) = some (v, H'))
    {ext : Exts} {k : Nat} (hk : ext k = aFam T F) : ExtSim P ext f k := by
  intro S args H u H' m w vargs hG hx h ha
  rw [hk] at hx
  unfold aFam at hx
  cases ht : tablesIn T H with
  | false => simp only [ht] at hx; cases hx
  | true =>
  cases hFa : F args with
  | none => simp only [ht, hFa] at hx; cases hx
  | some v =>
      simp only [ht, hFa, Option.some.injEq, Prod.mk.injEq] at hx
      obtain ⟨rfl, rfl⟩ := hx
      obtain ⟨hpa, hv, H1, hrun⟩ := hF _ _ hFa
      simp only [tablesIn, List.all_eq_true, Bool.and_eq_true] at ht hT
      have hrel : HRel ⟨w.heap.size, w, P.globals.size, fun _ => False, cCode P⟩ (globMap P.globals.size (longest T)) (tableHeap P.globals.size T) w := by
        refine ⟨Below.refl _ _, Nat.le_refl _, fun g hg => ⟨longest T, by simp only at hg; simp [globMap, hg]⟩, fun r hr => by simp only [tableHeap] at hr; simp [globMap]; omega, fun r hr => hr.elim, ?_, ?_, ⟨fun r R p _ h _ => absurd h tableObj_loop, fun r s R R' p q L L' _ _ _ h => absurd h tableObj_loop, ⟨fun r es p _ h _ => absurd h tableObj_map, fun r s es es' p q _ _ _ h => absurd h tableObj_map⟩⟩⟩
        · intro r cs rw e p hr hg hp
          obtain ⟨hmem, rfl⟩ := tableObj_row hg
          have hT1 := hT _ hmem
          have ht1 := ht _ hmem
          simp only [] at hT1 ht1
          have hrG : r < P.globals.size := by simpa using hT1.1
          have hp' : p = (⟨r, 0, none⟩, longest T) := by simp only [globMap, hrG, if_true] at hp; exact (Option.some.inj hp).symm
          subst hp'
          obtain ⟨k, hmk⟩ := h.glob r (by rw [hG]; exact hrG)
          have hrn : r < H.n := by simpa using ht1.1
          cases hgr : H.get r with
          | row cs' rw' e' =>
            have ht2 := ht1.2
            rw [hgr] at ht2
            simp only [] at ht2
            have hcs := abeqL_eq ht2
            subst hcs
            have hok := h.row r cs' rw' e' _ hrn hgr hmk
            refine ⟨fun i u hi => ?_, le_longest hmem, fun q => by cases q⟩
            obtain ⟨x, h1, h2⟩ := hok.cell i u hi
            have hpl : plainV u = true := hT1.2 u (List.mem_of_getElem? hi)
            exact ⟨x, by rw [plain_emb hpl _ m]; exact h1, h2⟩
          | _ => have ht2 := ht1.2; rw [hgr] at ht2; cases ht2
        · intro r s cs rw e cs' e' p q hr hs hne hg1 hg2 hp hq
          exact absurd (tableObj_row hg2).2 (by decide)
      have hy := sim_callN hmix hP n ⟨w.heap.size, w, P.globals.size, fun _ => False, cCode P⟩ rfl rfl f args (tableHeap P.globals.size T) v H1 (globMap P.globals.size (longest T)) w vargs hrun hrel (by rw [plain_embL hpa _ m]; exact ha)
      rw [hP.sem hfn] at hy
      refine hy.mono fun x w' ⟨m', _, hx, hrel'⟩ => ?_
      exact ⟨m, Le.refl _, by rw [plain_emb hv m m']; exact hx, h.kept hrel'.below⟩
end
end Go.Am

namespace Go.Am
open Go
def z641 : List AVal := List.replicate 641 (.int .i64 0)
def aroundT : List (Nat × List AVal) := []
section
open Go.Am.ROpd renaming tmp → t, val → v
open Go.Am.ROp renaming mov → m, load → l, bin → b, idxS → a, fieldAddr → f, call → C, lenS → n, pick → p, store → S, extract → e
open Go.Am.AVal renaming int → i, bool → w, func → F, nslice → N
open Go.Am.RCode renaming seq → q, region → g, cond → c, block → B, loop → L, skip → k, exit → x, dregion → G, ret → R
open Go.IntKind renaming i64 → I
open Go.Fn renaming func → J
open Option renaming some → s, none → o
open Bool renaming true → T, false → U
def c3 : RFunc := ⟨127,.code (q (g [⟨s 3,.box 24 (t 0),o⟩,⟨s 6,m (v (w U)),o⟩]) (q (q (g [⟨s 23,l (s 3) (t 3),o⟩,⟨s 24,C (v (F (J 4) [] [])) [t 23],o⟩,⟨s 25,.un .not (t 24),o⟩,⟨s 26,m (t 25),o⟩,⟨s 27,m (t 1),s (26,U)⟩,⟨s 28,n (t 27),s (26,U)⟩,⟨s 29,b .gtr (t 28) (v (i I 5)),s (26,U)⟩,⟨s 30,p (t 26) (v (w T)) (t 29),o⟩]) (c (t 30) (q (g [⟨s 31,C (v (F (J 5) [] [])) [],o⟩,⟨s 6,m (t 31),o⟩]) R) k)) (q (g [⟨s 32,l (s 3) (t 3),o⟩,⟨s 33,C (v (F (J 6) [] [])) [t 32],o⟩,⟨s 34,m (t 1),o⟩,⟨s 35,C (v (F (J 7) [] [])) [t 34],o⟩,⟨s 7,.new 24 [(i I 0),(i I 0),N],o⟩,⟨o,S 3 (t 7) (t 33),o⟩,⟨s 8,m (t 35),o⟩]) (q (g [⟨s 37,l (s 3) (t 7),o⟩,⟨s 38,m (t 8),o⟩,⟨s 39,m (t 2),o⟩,⟨s 40,C (v (F (J 8) [] [])) [t 37,t 38,t 39],o⟩,⟨s 36,m (t 40),o⟩,⟨s 41,e (t 36) 0,o⟩,⟨s 42,e (t 36) 1,o⟩,⟨s 9,m (t 41),o⟩,⟨s 10,m (t 42),o⟩]) (q (g [⟨s 44,l (s 3) (t 3),o⟩,⟨s 45,m (t 1),o⟩,⟨s 46,m (t 2),o⟩,⟨s 47,C (v (F (J 9) [] [])) [t 44,t 45,t 46],o⟩,⟨s 43,m (t 47),o⟩,⟨s 48,e (t 43) 0,o⟩,⟨s 49,e (t 43) 1,o⟩,⟨s 11,m (t 48),o⟩,⟨s 12,m (t 49),o⟩]) (q (g [⟨s 51,l (s 3) (t 7),o⟩,⟨s 52,m (t 8),o⟩,⟨s 53,m (t 2),o⟩,⟨s 54,C (v (F (J 10) [] [])) [t 51,t 52,t 53],o⟩,⟨s 50,m (t 54),o⟩,⟨s 55,e (t 50) 0,o⟩,⟨s 56,e (t 50) 1,o⟩,⟨s 13,.new 24 [(i I 0),(i I 0),N],o⟩,⟨o,S 3 (t 13) (t 55),o⟩,⟨s 14,m (t 56),o⟩]) (q (g [⟨s 58,l (s 3) (t 3),o⟩,⟨s 59,m (t 1),o⟩,⟨s 60,m (t 2),o⟩,⟨s 61,C (v (F (J 11) [] [])) [t 58,t 59,t 60],o⟩,⟨s 57,m (t 61),o⟩,⟨s 62,e (t 57) 0,o⟩,⟨s 63,e (t 57) 1,o⟩,⟨s 15,.new 24 [(i I 0),(i I 0),N],o⟩,⟨o,S 3 (t 15) (t 62),o⟩,⟨s 16,m (t 63),o⟩]) (q (g [⟨s 65,l (s 3) (t 7),o⟩,⟨s 66,C (v (F (J 12) [] [])) [t 65],o⟩,⟨s 64,m (t 66),o⟩,⟨s 67,e (t 64) 0,o⟩,⟨s 68,e (t 64) 1,o⟩,⟨s 69,e (t 64) 2,o⟩,⟨s 17,m (t 67),o⟩,⟨s 18,m (t 68),o⟩,⟨s 19,m (t 69),o⟩]) (q (q (g [⟨s 70,l (s 3) (t 3),o⟩,⟨s 71,C (v (F (J 13) [] [])) [t 70],o⟩,⟨s 20,m (t 71),o⟩]) (q (g [⟨s 72,m (t 19),o⟩,⟨s 73,m (t 20),o⟩,⟨s 74,b .neq (t 72) (t 73),o⟩]) (c (t 74) (q (g [⟨s 6,m (v (w U)),o⟩]) R) (q (g [⟨s 75,m (t 20),o⟩,⟨s 76,b .eql (t 75) (v (i I 0)),o⟩]) (c (t 76) (q (g [⟨s 78,l (s 3) (t 3),o⟩,⟨s 79,C (v (F (J 14) [] [])) [t 78],o⟩,⟨s 77,m (t 79),o⟩,⟨s 80,e (t 77) 0,o⟩,⟨s 81,e (t 77) 1,o⟩,⟨s 21,m (t 80),o⟩,⟨s 22,m (t 81),o⟩]) (q (g [⟨s 82,m (t 17),o⟩,⟨s 83,m (t 21),o⟩,⟨s 84,b .neq (t 82) (t 83),o⟩,⟨s 85,m (t 84),o⟩,⟨s 86,m (t 18),s (85,U)⟩,⟨s 87,m (t 22),s (85,U)⟩,⟨s 88,b .neq (t 86) (t 87),s (85,U)⟩,⟨s 89,p (t 85) (v (w T)) (t 88),o⟩]) (c (t 89) (q (g [⟨s 6,m (v (w U)),o⟩]) R) k))) (q (g [⟨s 90,m (t 17),o⟩,⟨s 91,b .neq (t 90) (v (i I 0)),o⟩,⟨s 92,m (t 91),o⟩,⟨s 93,m (t 18),s (92,U)⟩,⟨s 94,b .neq (t 93) (v (i I 0)),s (92,U)⟩,⟨s 95,p (t 92) (v (w T)) (t 94),o⟩]) (c (t 95) (q (g [⟨s 6,m (v (w U)),o⟩]) R) k))))))) (q (g [⟨s 96,m (t 9),o⟩,⟨s 97,m (t 11),o⟩,⟨s 98,C (v (F (J 15) [] [])) [t 96,t 97],o⟩,⟨s 99,m (t 98),o⟩,⟨s 100,m (t 10),s (99,T)⟩,⟨s 101,m (t 12),s (99,T)⟩,⟨s 102,b .eql (t 100) (t 101),s (99,T)⟩,⟨s 103,p (t 99) (t 102) (v (w U)),o⟩,⟨s 104,m (t 103),o⟩,⟨s 105,l (s 3) (t 13),s (104,T)⟩,⟨s 106,l (s 3) (t 15),s (104,T)⟩,⟨s 107,C (v (F (J 16) [] [])) [t 105,t 106],s (104,T)⟩,⟨s 108,p (t 104) (t 107) (v (w U)),o⟩,⟨s 109,m (t 108),o⟩,⟨s 110,m (t 14),s (109,T)⟩,⟨s 111,m (t 16),s (109,T)⟩,⟨s 112,b .eql (t 110) (t 111),s (109,T)⟩,⟨s 113,p (t 109) (t 112) (v (w U)),o⟩,⟨s 114,m (t 113),o⟩,⟨s 115,l (s 3) (t 7),s (114,T)⟩,⟨s 116,l (s 3) (t 3),s (114,T)⟩,⟨s 117,C (v (F (J 16) [] [])) [t 115,t 116],s (114,T)⟩,⟨s 118,p (t 114) (t 117) (v (w U)),o⟩,⟨s 119,m (t 118),o⟩,⟨s 120,m (t 8),s (119,T)⟩,⟨s 121,m (t 1),s (119,T)⟩,⟨s 122,C (v (F (J 17) [] [])) [t 120,t 121],s (119,T)⟩,⟨s 123,p (t 119) (t 122) (v (w U)),o⟩,⟨s 124,m (t 123),o⟩,⟨s 125,C (v (F (J 5) [] [])) [],s (124,T)⟩,⟨s 126,p (t 124) (t 125) (v (w U)),o⟩,⟨s 6,m (t 126),o⟩]) R)))))))))),[.tmp 6]⟩
def c4 : RFunc := ⟨7,.code (q (g [⟨s 1,.box 24 (t 0),o⟩,⟨s 2,m (v (w U)),o⟩]) (q (g [⟨s 3,f 2 (t 1),o⟩,⟨s 4,l o (t 3),o⟩,⟨s 5,n (t 4),o⟩,⟨s 6,b .leq (t 5) (v (i I 6000)),o⟩,⟨s 2,m (t 6),o⟩]) R)),[.tmp 2]⟩
def c5 : RFunc := ⟨84,.code (q (g [⟨s 0,m (v (w U)),o⟩]) (q (g [⟨s 6,C (v (F (J 18) [] [])) [(v (i I 7))],o⟩,⟨s 1,.new 24 [(i I 0),(i I 0),N],o⟩,⟨o,S 3 (t 1) (t 6),o⟩]) (q (g [⟨s 8,l (s 3) (t 1),o⟩,⟨s 9,C (v (F (J 19) [] [])) [t 8],o⟩,⟨s 7,m (t 9),o⟩,⟨s 10,e (t 7) 0,o⟩,⟨s 11,e (t 7) 1,o⟩,⟨s 2,m (t 10),o⟩,⟨s 3,m (t 11),o⟩]) (q (G [⟨⟨s 13,l (s 3) (t 1),o⟩,0,1,T⟩,⟨⟨s 14,.buildSlice 3 1 1 [(i I 0)] [(0,1,(v (i I 2)))],o⟩,0,3,T⟩,⟨⟨s 15,C (v (F (J 21) [] [])) [(v (i I 16)),t 14],o⟩,2,2,U⟩,⟨⟨s 16,a 1 (t 15) (v (i I 0)),o⟩,6,0,U⟩,⟨⟨s 17,l o (t 16),o⟩,14,1,U⟩,⟨⟨s 18,C (v (F (J 20) [] [])) [t 13,t 17],o⟩,31,2,U⟩,⟨⟨s 12,m (t 18),o⟩,63,0,U⟩,⟨⟨s 19,e (t 12) 0,o⟩,127,0,U⟩,⟨⟨s 20,e (t 12) 1,o⟩,127,0,U⟩,⟨⟨s 4,m (t 19),o⟩,255,0,U⟩,⟨⟨s 5,m (t 20),o⟩,1023,0,U⟩]) (q (q (G [⟨⟨s 21,m (t 3),o⟩,0,0,T⟩,⟨⟨s 22,b .neq (t 21) (v (i I 0)),o⟩,1,0,T⟩,⟨⟨s 23,m (t 22),o⟩,3,0,T⟩,⟨⟨s 24,m (t 5),s (23,U)⟩,7,0,T⟩,⟨⟨s 25,b .neq (t 24) (v (i I 0)),s (23,U)⟩,15,0,T⟩,⟨⟨s 26,p (t 23) (v (w T)) (t 25),o⟩,31,0,T⟩,⟨⟨s 27,m (t 26),o⟩,63,0,T⟩,⟨⟨s 28,m (t 2),s (27,U)⟩,127,0,T⟩,⟨⟨s 29,n (t 28),s (27,U)⟩,255,0,T⟩,⟨⟨s 30,b .neq (t 29) (v (i I 1)),s (27,U)⟩,511,0,T⟩,⟨⟨s 31,p (t 27) (v (w T)) (t 30),o⟩,1023,0,T⟩,⟨⟨s 32,m (t 31),o⟩,2047,0,T⟩,⟨⟨s 33,m (t 2),s (32,U)⟩,4095,0,T⟩,⟨⟨s 34,a 1 (t 33) (v (i I 0)),s (32,U)⟩,8191,0,T⟩,⟨⟨s 35,l o (t 34),s (32,U)⟩,16383,1,T⟩,⟨⟨s 36,.buildSlice 3 1 1 [(i I 0)] [(0,1,(v (i I 2)))],s (32,U)⟩,4095,3,T⟩,⟨⟨s 37,C (v (F (J 21) [] [])) [(v (i I 16)),t 36],s (32,U)⟩,36863,2,U⟩,⟨⟨s 38,a 1 (t 37) (v (i I 0)),s (32,U)⟩,102399,0,U⟩,⟨⟨s 39,l o (t 38),s (32,U)⟩,233471,1,U⟩,⟨⟨s 40,C (v (F (J 22) [] [])) [t 35,t 39],s (32,U)⟩,524287,2,U⟩,⟨⟨s 41,.un .not (t 40),s (32,U)⟩,1048575,0,U⟩,⟨⟨s 42,p (t 32) (v (w T)) (t 41),o⟩,2097151,0,U⟩,⟨⟨s 43,m (t 42),o⟩,4194303,0,U⟩,⟨⟨s 44,m (t 4),s (43,U)⟩,8388607,0,U⟩,⟨⟨s 45,b .neq (t 44) (v (i I 2)),s (43,U)⟩,16777215,0,U⟩,⟨⟨s 46,p (t 43) (v (w T)) (t 45),o⟩,33554431,0,U⟩]) (c (t 46) (q (g [⟨s 0,m (v (w U)),o⟩]) R) k)) (q (g [⟨s 47,f 2 (t 1),o⟩,⟨s 48,l o (t 47),o⟩,⟨s 49,a 1 (t 48) (v (i I 23)),o⟩,⟨o,S 1 (t 49) (v (i .u8 1)),o⟩]) (q (g [⟨s 51,l (s 3) (t 1),o⟩,⟨s 52,C (v (F (J 19) [] [])) [t 51],o⟩,⟨s 50,m (t 52),o⟩,⟨s 53,e (t 50) 0,o⟩,⟨s 54,e (t 50) 1,o⟩,⟨s 2,m (t 53),o⟩,⟨s 3,m (t 54),o⟩]) (q (g [⟨s 55,m (t 3),o⟩,⟨s 56,b .eql (t 55) (v (i I 0)),o⟩,⟨s 57,m (t 56),o⟩,⟨s 58,m (t 2),s (57,T)⟩,⟨s 59,n (t 58),s (57,T)⟩,⟨s 60,b .eql (t 59) (v (i I 1)),s (57,T)⟩,⟨s 61,p (t 57) (t 60) (v (w U)),o⟩,⟨s 62,m (t 61),o⟩,⟨s 63,m (t 2),s (62,T)⟩,⟨s 64,a 1 (t 63) (v (i I 0)),s (62,T)⟩,⟨s 65,l o (t 64),s (62,T)⟩,⟨s 66,a 1 (t 65) (v (i I 7)),s (62,T)⟩,⟨s 67,l o (t 66),s (62,T)⟩,⟨s 68,b .eql (t 67) (v (i I 1)),s (62,T)⟩,⟨s 69,p (t 62) (t 68) (v (w U)),o⟩,⟨s 70,m (t 69),o⟩,⟨s 71,.buildSlice 3 1 5 [(i I 0),(i I 0),(i I 0),(i I 0),(i I 0)] [(0,1,(v (i I 4))),(1,1,(v (i I 10))),(2,1,(v (i I 16))),(3,1,(v (i I 22))),(4,1,(v (i I 28)))],s (70,T)⟩,⟨s 72,C (v (F (J 21) [] [])) [(v (i I 3)),t 71],s (70,T)⟩,⟨s 73,C (v (F (J 23) [] [])) [t 72],s (70,T)⟩,⟨s 74,n (t 73),s (70,T)⟩,⟨s 75,b .eql (t 74) (v (i I 1)),s (70,T)⟩,⟨s 76,p (t 70) (t 75) (v (w U)),o⟩,⟨s 77,m (t 76),o⟩,⟨s 78,.buildSlice 3 1 5 [(i I 0),(i I 0),(i I 0),(i I 0),(i I 0)] [(0,1,(v (i I 4))),(1,1,(v (i I 10))),(2,1,(v (i I 16))),(3,1,(v (i I 22))),(4,1,(v (i I 31)))],s (77,T)⟩,⟨s 79,C (v (F (J 21) [] [])) [(v (i I 3)),t 78],s (77,T)⟩,⟨s 80,C (v (F (J 23) [] [])) [t 79],s (77,T)⟩,⟨s 81,n (t 80),s (77,T)⟩,⟨s 82,b .eql (t 81) (v (i I 0)),s (77,T)⟩,⟨s 83,p (t 77) (t 82) (v (w U)),o⟩,⟨s 0,m (t 83),o⟩]) R)))))))),[.tmp 0]⟩
def c6 : RFunc := ⟨11,.code (q (g [⟨s 1,.box 24 (t 0),o⟩,⟨s 2,.new 24 [(i I 0),(i I 0),N],o⟩]) (q (G [⟨⟨s 3,f 0 (t 1),o⟩,0,0,T⟩,⟨⟨s 4,l o (t 3),o⟩,1,1,T⟩,⟨⟨s 5,f 1 (t 1),o⟩,0,0,T⟩,⟨⟨s 6,l o (t 5),o⟩,4,1,T⟩,⟨⟨s 7,f 2 (t 1),o⟩,0,0,T⟩,⟨⟨s 8,l o (t 7),o⟩,16,1,T⟩,⟨⟨s 9,C (v (F (J 24) [] [])) [t 8],o⟩,48,2,U⟩,⟨⟨s 10,.build [(i I 0),(i I 0),N] [(0,1,(t 4)),(1,1,(t 6)),(2,1,(t 9))],o⟩,127,0,U⟩,⟨⟨o,S 3 (t 2) (t 10),o⟩,255,2,U⟩]) R)),[.cell 2 (some 3)]⟩
def c7 : RFunc := ⟨20,.code (q (g [⟨s 2,m (v N),o⟩]) (q (g [⟨s 3,m (v N),o⟩]) (q (q (g [⟨s 4,m (v (i I 0)),o⟩]) (B 0 (L (q (q (g [⟨s 5,m (t 4),o⟩,⟨s 6,m (t 0),o⟩,⟨s 7,n (t 6),o⟩,⟨s 8,b .lss (t 5) (t 7),o⟩]) (c (t 8) k (x 0))) (q (B 1 (g [⟨s 11,m (t 3),o⟩,⟨s 12,m (t 0),o⟩,⟨s 13,m (t 4),o⟩,⟨s 14,a 1 (t 12) (t 13),o⟩,⟨s 15,l (s 1) (t 14),o⟩,⟨s 16,C (v (F (J 25) [] [])) [t 15],o⟩,⟨s 17,.buildSlice 59 1 1 [N] [(0,1,(t 16))],o⟩,⟨s 18,.append 59 1 24 (t 11) (t 17),o⟩,⟨s 3,m (t 18),o⟩])) (g [⟨s 9,m (t 4),o⟩,⟨s 10,b .add (t 9) (v (i I 1)),o⟩,⟨s 4,m (t 10),o⟩])))))) (q (g [⟨s 19,m (t 3),o⟩,⟨s 2,m (t 19),o⟩]) R)))),[.tmp 2]⟩
def c8 : RFunc := ⟨65,.code (q (g [⟨s 3,.box 24 (t 0),o⟩,⟨s 6,m (v N),o⟩,⟨s 7,m (v (i I 0)),o⟩]) (q (g [⟨s 17,l (s 3) (t 3),o⟩,⟨s 18,C (v (F (J 26) [] [])) [t 17],o⟩,⟨s 16,m (t 18),o⟩,⟨s 19,e (t 16) 0,o⟩,⟨s 20,e (t 16) 1,o⟩,⟨s 8,m (t 19),o⟩,⟨s 9,m (t 20),o⟩]) (q (q (g [⟨s 21,m (t 9),o⟩,⟨s 22,b .neq (t 21) (v (i I 0)),o⟩]) (c (t 22) (q (g [⟨s 23,m (t 9),o⟩,⟨s 6,m (v N),o⟩,⟨s 7,m (t 23),o⟩]) R) k)) (q (q (g [⟨s 24,m (t 1),o⟩,⟨s 25,n (t 24),o⟩,⟨s 26,m (v (i I 0)),o⟩]) (B 0 (L (q (g [⟨s 27,b .lss (t 26) (t 25),o⟩]) (q (c (t 27) k (x 0)) (q (B 1 (q (g [⟨s 28,a 1 (t 24) (t 26),o⟩,⟨s 29,l (s 1) (t 28),o⟩,⟨s 11,.new 59 [N],o⟩,⟨o,S 1 (t 11) (t 29),o⟩]) (q (g [⟨s 30,l (s 3) (t 3),o⟩,⟨s 31,l (s 1) (t 11),o⟩,⟨s 32,C (v (F (J 27) [] [])) [t 30,t 31],o⟩,⟨s 33,.un .not (t 32),o⟩]) (c (t 33) (q (g [⟨s 6,m (v N),o⟩,⟨s 7,m (v (i I 10)),o⟩]) R) k)))) (g [⟨s 34,b .add (t 26) (v (i I 1)),o⟩,⟨s 26,m (t 34),o⟩]))))))) (q (g [⟨s 35,f 0 (t 3),o⟩,⟨s 36,l o (t 35),o⟩,⟨s 37,f 1 (t 3),o⟩,⟨s 38,l o (t 37),o⟩,⟨s 39,m (t 1),o⟩,⟨s 40,C (v (F (J 28) [] [])) [t 36,t 38,t 39],o⟩,⟨s 12,.new 24 [(i I 0),(i I 0),N],o⟩,⟨o,S 3 (t 12) (t 40),o⟩]) (q (g [⟨s 13,m (v N),o⟩]) (q (q (g [⟨s 41,m (t 8),o⟩,⟨s 42,n (t 41),o⟩,⟨s 43,m (v (i I 0)),o⟩]) (B 2 (L (q (g [⟨s 44,b .lss (t 43) (t 42),o⟩]) (q (c (t 44) k (x 2)) (q (B 3 (q (g [⟨s 45,a 3 (t 41) (t 43),o⟩,⟨s 46,l (s 3) (t 45),o⟩,⟨s 15,.new 43 [(i I 0),(i I 0),(i I 0)],o⟩,⟨o,S 3 (t 15) (t 46),o⟩]) (q (g [⟨s 47,f 2 (t 15),o⟩,⟨s 48,l o (t 47),o⟩,⟨s 49,f 1 (t 15),o⟩,⟨s 50,l o (t 49),o⟩,⟨s 51,b .sub (t 48) (t 50),o⟩,⟨s 52,m (t 2),o⟩,⟨s 53,b .lss (t 51) (t 52),o⟩,⟨s 54,m (t 53),o⟩,⟨s 55,l (s 3) (t 12),s (54,T)⟩,⟨s 56,l (s 3) (t 15),s (54,T)⟩,⟨s 57,C (v (F (J 29) [] [])) [t 55,t 56],s (54,T)⟩,⟨s 58,p (t 54) (t 57) (v (w U)),o⟩]) (c (t 58) (g [⟨s 59,m (t 13),o⟩,⟨s 60,l (s 3) (t 15),o⟩,⟨s 61,.buildSlice 43 3 1 [(i I 0),(i I 0),(i I 0)] [(0,3,(t 60))],o⟩,⟨s 62,.append 43 3 24 (t 59) (t 61),o⟩,⟨s 13,m (t 62),o⟩]) k)))) (g [⟨s 63,b .add (t 43) (v (i I 1)),o⟩,⟨s 43,m (t 63),o⟩]))))))) (q (g [⟨s 64,m (t 13),o⟩,⟨s 6,m (t 64),o⟩,⟨s 7,m (v (i I 0)),o⟩]) R)))))))),[.tmp 6,.tmp 7]⟩
def c9 : RFunc := ⟨110,.code (q (g [⟨s 3,.box 24 (t 0),o⟩,⟨s 6,m (v N),o⟩,⟨s 7,m (v (i I 0)),o⟩]) (q (q (g [⟨s 16,l (s 3) (t 3),o⟩,⟨s 17,C (v (F (J 13) [] [])) [t 16],o⟩,⟨s 8,m (t 17),o⟩]) (q (g [⟨s 18,m (t 8),o⟩,⟨s 19,b .neq (t 18) (v (i I 0)),o⟩]) (c (t 19) (q (g [⟨s 20,m (t 8),o⟩,⟨s 6,m (v N),o⟩,⟨s 7,m (t 20),o⟩]) R) k))) (q (q (g [⟨s 9,m (v (i I 0)),o⟩]) (B 0 (L (q (q (g [⟨s 21,m (t 9),o⟩,⟨s 22,m (t 1),o⟩,⟨s 23,n (t 22),o⟩,⟨s 24,b .lss (t 21) (t 23),o⟩]) (c (t 24) k (x 0))) (q (B 1 (q (G [⟨⟨s 27,l (s 3) (t 3),o⟩,0,1,T⟩,⟨⟨s 28,m (t 1),o⟩,0,0,T⟩,⟨⟨s 29,m (t 9),o⟩,0,0,T⟩,⟨⟨s 30,a 1 (t 28) (t 29),o⟩,6,0,T⟩,⟨⟨s 31,l (s 1) (t 30),o⟩,14,1,T⟩,⟨⟨s 32,C (v (F (J 30) [] [])) [t 27,t 31],o⟩,31,2,U⟩,⟨⟨s 33,.un .not (t 32),o⟩,63,0,U⟩]) (c (t 33) (q (g [⟨s 6,m (v N),o⟩,⟨s 7,m (v (i I 10)),o⟩]) R) k))) (g [⟨s 25,m (t 9),o⟩,⟨s 26,b .add (t 25) (v (i I 1)),o⟩,⟨s 9,m (t 26),o⟩])))))) (q (g [⟨s 10,m (v N),o⟩]) (q (g [⟨s 34,l (s 3) (t 3),o⟩,⟨s 35,C (v (F (J 31) [] [])) [t 34],o⟩,⟨s 11,m (t 35),o⟩]) (q (q (g [⟨s 12,m (v (i I 0)),o⟩]) (B 2 (L (q (q (g [⟨s 36,m (t 12),o⟩,⟨s 37,m (t 11),o⟩,⟨s 38,n (t 37),o⟩,⟨s 39,b .lss (t 36) (t 38),o⟩]) (c (t 39) k (x 2))) (q (B 3 (q (g [⟨s 13,m (v (w U)),o⟩]) (q (q (g [⟨s 14,m (v (i I 0)),o⟩]) (B 4 (L (q (q (g [⟨s 42,m (t 14),o⟩,⟨s 43,m (t 1),o⟩,⟨s 44,n (t 43),o⟩,⟨s 45,b .mul (v (i I 5)) (t 44),o⟩,⟨s 46,b .lss (t 42) (t 45),o⟩]) (c (t 46) k (x 4))) (q (B 5 (q (G [⟨⟨s 49,m (t 1),o⟩,0,0,T⟩,⟨⟨s 50,m (t 14),o⟩,0,0,T⟩,⟨⟨s 51,b .quo (t 50) (v (i I 5)),o⟩,2,0,T⟩,⟨⟨s 52,a 1 (t 49) (t 51),o⟩,7,0,T⟩,⟨⟨s 53,f 0 (t 52),o⟩,15,0,T⟩,⟨⟨s 54,l o (t 53),o⟩,31,1,T⟩,⟨⟨s 55,m (t 14),o⟩,0,0,T⟩,⟨⟨s 56,b .rem (t 55) (v (i I 5)),o⟩,64,0,T⟩,⟨⟨s 57,a 1 (t 54) (t 56),o⟩,255,0,T⟩,⟨⟨s 58,l o (t 57),o⟩,511,1,T⟩,⟨⟨s 59,m (t 11),o⟩,0,0,T⟩,⟨⟨s 60,m (t 12),o⟩,0,0,T⟩,⟨⟨s 61,a 3 (t 59) (t 60),o⟩,3072,0,T⟩,⟨⟨s 62,f 0 (t 61),o⟩,7168,0,T⟩,⟨⟨s 63,l o (t 62),o⟩,15360,1,T⟩,⟨⟨s 64,a 1 (t 58) (t 63),o⟩,32767,0,T⟩,⟨⟨s 65,l o (t 64),o⟩,65535,1,T⟩,⟨⟨s 15,m (t 65),o⟩,131071,0,T⟩]) (g [⟨s 66,m (t 13),o⟩,⟨s 67,m (t 66),o⟩,⟨s 68,m (t 15),s (67,U)⟩,⟨s 69,m (t 11),s (67,U)⟩,⟨s 70,m (t 12),s (67,U)⟩,⟨s 71,a 3 (t 69) (t 70),s (67,U)⟩,⟨s 72,f 1 (t 71),s (67,U)⟩,⟨s 73,l o (t 72),s (67,U)⟩,⟨s 74,b .geq (t 68) (t 73),s (67,U)⟩,⟨s 75,m (t 74),s (67,U)⟩,⟨s 76,m (t 15),s (75,T)⟩,⟨s 77,m (t 11),s (75,T)⟩,⟨s 78,m (t 12),s (75,T)⟩,⟨s 79,a 3 (t 77) (t 78),s (75,T)⟩,⟨s 80,f 2 (t 79),s (75,T)⟩,⟨s 81,l o (t 80),s (75,T)⟩,⟨s 82,b .leq (t 76) (t 81),s (75,T)⟩,⟨s 83,p (t 75) (t 82) (v (w U)),s (67,U)⟩,⟨s 84,p (t 67) (v (w T)) (t 83),o⟩,⟨s 13,m (t 84),o⟩]))) (g [⟨s 47,m (t 14),o⟩,⟨s 48,b .add (t 47) (v (i I 1)),o⟩,⟨s 14,m (t 48),o⟩])))))) (q (G [⟨⟨s 85,m (t 13),o⟩,0,0,T⟩,⟨⟨s 86,m (t 85),o⟩,1,0,T⟩,⟨⟨s 87,m (t 11),s (86,T)⟩,3,0,T⟩,⟨⟨s 88,m (t 12),s (86,T)⟩,3,0,T⟩,⟨⟨s 89,a 3 (t 87) (t 88),s (86,T)⟩,15,0,T⟩,⟨⟨s 90,f 2 (t 89),s (86,T)⟩,31,0,T⟩,⟨⟨s 91,l o (t 90),s (86,T)⟩,63,1,T⟩,⟨⟨s 92,m (t 11),s (86,T)⟩,3,0,T⟩,⟨⟨s 93,m (t 12),s (86,T)⟩,3,0,T⟩,⟨⟨s 94,a 3 (t 92) (t 93),s (86,T)⟩,387,0,T⟩,⟨⟨s 95,f 1 (t 94),s (86,T)⟩,899,0,T⟩,⟨⟨s 96,l o (t 95),s (86,T)⟩,1923,1,T⟩,⟨⟨s 97,b .sub (t 91) (t 96),s (86,T)⟩,4095,0,T⟩,⟨⟨s 98,b .add (t 97) (v (i I 1)),s (86,T)⟩,8191,0,T⟩,⟨⟨s 99,m (t 2),s (86,T)⟩,3,0,T⟩,⟨⟨s 100,b .leq (t 98) (t 99),s (86,T)⟩,32767,0,T⟩,⟨⟨s 101,p (t 86) (t 100) (v (w U)),o⟩,65535,0,T⟩]) (c (t 101) (g [⟨s 102,m (t 10),o⟩,⟨s 103,m (t 11),o⟩,⟨s 104,m (t 12),o⟩,⟨s 105,a 3 (t 103) (t 104),o⟩,⟨s 106,l (s 3) (t 105),o⟩,⟨s 107,.buildSlice 43 3 1 [(i I 0),(i I 0),(i I 0)] [(0,3,(t 106))],o⟩,⟨s 108,.append 43 3 24 (t 102) (t 107),o⟩,⟨s 10,m (t 108),o⟩]) k))))) (g [⟨s 40,m (t 12),o⟩,⟨s 41,b .add (t 40) (v (i I 1)),o⟩,⟨s 12,m (t 41),o⟩])))))) (q (g [⟨s 109,m (t 10),o⟩,⟨s 6,m (t 109),o⟩,⟨s 7,m (v (i I 0)),o⟩]) R))))))),[.tmp 6,.tmp 7]⟩
def c10 : RFunc := ⟨53,.code (q (g [⟨s 3,.box 24 (t 0),o⟩,⟨s 6,.new 24 [(i I 0),(i I 0),N],o⟩,⟨s 7,m (v (i I 0)),o⟩]) (q (g [⟨s 15,l (s 3) (t 3),o⟩,⟨s 16,m (t 1),o⟩,⟨s 17,m (t 2),o⟩,⟨s 18,C (v (F (J 8) [] [])) [t 15,t 16,t 17],o⟩,⟨s 14,m (t 18),o⟩,⟨s 19,e (t 14) 0,o⟩,⟨s 20,e (t 14) 1,o⟩,⟨s 8,m (t 19),o⟩,⟨s 9,m (t 20),o⟩]) (q (q (g [⟨s 21,m (t 9),o⟩,⟨s 22,b .neq (t 21) (v (i I 0)),o⟩]) (c (t 22) (q (g [⟨s 23,.build [(i I 0),(i I 0),N] [],o⟩,⟨s 24,m (t 9),o⟩,⟨o,S 3 (t 6) (t 23),o⟩,⟨s 7,m (t 24),o⟩]) R) k)) (q (g [⟨s 25,l (s 3) (t 3),o⟩,⟨s 26,C (v (F (J 32) [] [])) [t 25],o⟩,⟨s 10,.new 24 [(i I 0),(i I 0),N],o⟩,⟨o,S 3 (t 10) (t 26),o⟩]) (q (q (g [⟨s 27,m (t 8),o⟩,⟨s 28,n (t 27),o⟩,⟨s 29,m (v (i I 0)),o⟩]) (B 0 (L (q (g [⟨s 30,b .lss (t 29) (t 28),o⟩]) (q (c (t 30) k (x 0)) (q (B 1 (q (g [⟨s 31,a 3 (t 27) (t 29),o⟩,⟨s 32,l (s 3) (t 31),o⟩,⟨s 12,.new 43 [(i I 0),(i I 0),(i I 0)],o⟩,⟨o,S 3 (t 12) (t 32),o⟩]) (q (g [⟨s 33,f 1 (t 12),o⟩,⟨s 34,l o (t 33),o⟩,⟨s 13,m (t 34),o⟩]) (B 2 (L (q (q (g [⟨s 35,m (t 13),o⟩,⟨s 36,f 2 (t 12),o⟩,⟨s 37,l o (t 36),o⟩,⟨s 38,b .leq (t 35) (t 37),o⟩]) (c (t 38) k (x 2))) (q (B 3 (g [⟨s 41,f 2 (t 10),o⟩,⟨s 42,l o (t 41),o⟩,⟨s 43,m (t 13),o⟩,⟨s 44,f 0 (t 10),o⟩,⟨s 45,l o (t 44),o⟩,⟨s 46,b .mul (t 43) (t 45),o⟩,⟨s 47,f 0 (t 12),o⟩,⟨s 48,l o (t 47),o⟩,⟨s 49,b .add (t 46) (t 48),o⟩,⟨s 50,a 1 (t 42) (t 49),o⟩,⟨o,S 1 (t 50) (v (i .u8 0)),o⟩])) (g [⟨s 39,m (t 13),o⟩,⟨s 40,b .add (t 39) (v (i I 1)),o⟩,⟨s 13,m (t 40),o⟩])))))))) (g [⟨s 51,b .add (t 29) (v (i I 1)),o⟩,⟨s 29,m (t 51),o⟩]))))))) (q (g [⟨s 52,l (s 3) (t 10),o⟩,⟨o,S 3 (t 6) (t 52),o⟩,⟨s 7,m (v (i I 0)),o⟩]) R)))))),[.cell 6 (some 3),.tmp 7]⟩
def c11 : RFunc := ⟨37,.code (q (g [⟨s 3,.box 24 (t 0),o⟩,⟨s 6,.new 24 [(i I 0),(i I 0),N],o⟩,⟨s 7,m (v (i I 0)),o⟩]) (q (g [⟨s 13,l (s 3) (t 3),o⟩,⟨s 14,m (t 1),o⟩,⟨s 15,m (t 2),o⟩,⟨s 16,C (v (F (J 9) [] [])) [t 13,t 14,t 15],o⟩,⟨s 12,m (t 16),o⟩,⟨s 17,e (t 12) 0,o⟩,⟨s 18,e (t 12) 1,o⟩,⟨s 8,m (t 17),o⟩,⟨s 9,m (t 18),o⟩]) (q (q (g [⟨s 19,m (t 9),o⟩,⟨s 20,b .neq (t 19) (v (i I 0)),o⟩]) (c (t 20) (q (g [⟨s 21,.build [(i I 0),(i I 0),N] [],o⟩,⟨s 22,m (t 9),o⟩,⟨o,S 3 (t 6) (t 21),o⟩,⟨s 7,m (t 22),o⟩]) R) k)) (q (g [⟨s 24,f 0 (t 3),o⟩,⟨s 25,l o (t 24),o⟩,⟨s 26,f 1 (t 3),o⟩,⟨s 27,l o (t 26),o⟩,⟨s 28,m (t 8),o⟩,⟨s 29,C (v (F (J 33) [] [])) [t 25,t 27,t 28],o⟩,⟨s 23,m (t 29),o⟩,⟨s 30,e (t 23) 0,o⟩,⟨s 31,e (t 23) 1,o⟩,⟨s 10,.new 24 [(i I 0),(i I 0),N],o⟩,⟨o,S 3 (t 10) (t 30),o⟩,⟨s 11,m (t 31),o⟩]) (q (g [⟨s 32,l (s 3) (t 3),o⟩,⟨s 33,l (s 3) (t 10),o⟩,⟨s 34,C (v (F (J 34) [] [])) [t 32,t 33,(v (i I 2))],o⟩,⟨s 35,e (t 34) 0,o⟩,⟨s 36,e (t 34) 1,o⟩,⟨o,S 3 (t 6) (t 35),o⟩,⟨s 7,m (t 36),o⟩]) R))))),[.cell 6 (some 3),.tmp 7]⟩
def c12 : RFunc := ⟨67,.code (q (g [⟨s 1,.box 24 (t 0),o⟩,⟨s 2,m (v (i I 0)),o⟩,⟨s 3,m (v (i I 0)),o⟩,⟨s 4,m (v (i I 0)),o⟩]) (q (g [⟨s 11,l (s 3) (t 1),o⟩,⟨s 12,C (v (F (J 26) [] [])) [t 11],o⟩,⟨s 10,m (t 12),o⟩,⟨s 13,e (t 10) 0,o⟩,⟨s 14,e (t 10) 1,o⟩,⟨s 5,m (t 13),o⟩,⟨s 4,m (t 14),o⟩]) (q (q (g [⟨s 15,m (t 4),o⟩,⟨s 16,b .neq (t 15) (v (i I 0)),o⟩]) (c (t 16) (q (g [⟨s 17,m (t 4),o⟩,⟨s 2,m (v (i I 0)),o⟩,⟨s 3,m (v (i I 0)),o⟩,⟨s 4,m (t 17),o⟩]) R) k)) (q (g [⟨s 6,.new 68 z641,o⟩,⟨s 7,.new 68 z641,o⟩]) (q (q (g [⟨s 18,m (t 5),o⟩,⟨s 19,n (t 18),o⟩,⟨s 20,m (v (i I 0)),o⟩]) (B 0 (L (q (g [⟨s 21,b .lss (t 20) (t 19),o⟩]) (q (c (t 21) k (x 0)) (q (B 1 (q (g [⟨s 22,m (t 20),o⟩,⟨s 23,a 3 (t 18) (t 20),o⟩,⟨s 24,l (s 3) (t 23),o⟩,⟨s 9,.new 43 [(i I 0),(i I 0),(i I 0)],o⟩,⟨s 8,m (t 22),o⟩,⟨o,S 3 (t 9) (t 24),o⟩]) (q (g [⟨s 25,f 2 (t 9),o⟩,⟨s 26,l o (t 25),o⟩,⟨s 27,f 1 (t 9),o⟩,⟨s 28,l o (t 27),o⟩,⟨s 29,b .sub (t 26) (t 28),o⟩,⟨s 30,b .add (t 29) (v (i I 1)),o⟩,⟨s 31,.idxA 641 1 (t 6) (t 30),o⟩,⟨s 32,l o (t 31),o⟩,⟨s 33,b .add (t 32) (v (i I 1)),o⟩,⟨s 34,.idxA 641 1 (t 6) (t 30),o⟩,⟨o,S 1 (t 34) (t 33),o⟩]) (q (G [⟨⟨s 35,m (t 8),o⟩,0,0,T⟩,⟨⟨s 36,b .gtr (t 35) (v (i I 0)),o⟩,1,0,T⟩,⟨⟨s 37,m (t 36),o⟩,3,0,T⟩,⟨⟨s 38,m (t 5),s (37,T)⟩,7,0,T⟩,⟨⟨s 39,m (t 8),s (37,T)⟩,7,0,T⟩,⟨⟨s 40,b .sub (t 39) (v (i I 1)),s (37,T)⟩,23,0,T⟩,⟨⟨s 41,a 3 (t 38) (t 40),s (37,T)⟩,63,0,T⟩,⟨⟨s 42,f 0 (t 41),s (37,T)⟩,127,0,T⟩,⟨⟨s 43,l o (t 42),s (37,T)⟩,255,1,T⟩,⟨⟨s 44,f 0 (t 9),s (37,T)⟩,7,0,T⟩,⟨⟨s 45,l o (t 44),s (37,T)⟩,519,1,T⟩,⟨⟨s 46,b .eql (t 43) (t 45),s (37,T)⟩,2047,0,T⟩,⟨⟨s 47,p (t 37) (t 46) (v (w U)),o⟩,4095,0,T⟩]) (c (t 47) (G [⟨⟨s 48,f 1 (t 9),o⟩,0,0,T⟩,⟨⟨s 49,l o (t 48),o⟩,1,1,T⟩,⟨⟨s 50,m (t 5),o⟩,0,0,T⟩,⟨⟨s 51,m (t 8),o⟩,0,0,T⟩,⟨⟨s 52,b .sub (t 51) (v (i I 1)),o⟩,8,0,T⟩,⟨⟨s 53,a 3 (t 50) (t 52),o⟩,28,0,T⟩,⟨⟨s 54,f 2 (t 53),o⟩,60,0,T⟩,⟨⟨s 55,l o (t 54),o⟩,124,1,T⟩,⟨⟨s 56,b .sub (t 49) (t 55),o⟩,255,0,T⟩,⟨⟨s 57,b .sub (t 56) (v (i I 1)),o⟩,511,0,T⟩,⟨⟨s 58,.idxA 641 1 (t 7) (t 57),o⟩,1023,0,T⟩,⟨⟨s 59,l o (t 58),o⟩,2047,1,T⟩,⟨⟨s 60,b .add (t 59) (v (i I 1)),o⟩,4095,0,T⟩,⟨⟨s 61,.idxA 641 1 (t 7) (t 57),o⟩,8191,0,T⟩,⟨⟨o,S 1 (t 61) (t 60),o⟩,16383,2,U⟩]) k))))) (g [⟨s 62,b .add (t 20) (v (i I 1)),o⟩,⟨s 20,m (t 62),o⟩]))))))) (q (G [⟨⟨s 63,l (s 641) (t 6),o⟩,0,1,T⟩,⟨⟨s 64,C (v (F (J 35) [] [])) [t 63],o⟩,1,2,U⟩,⟨⟨s 65,l (s 641) (t 7),o⟩,0,1,T⟩,⟨⟨s 66,C (v (F (J 35) [] [])) [t 65],o⟩,7,2,U⟩,⟨⟨s 2,m (t 64),o⟩,15,0,U⟩,⟨⟨s 3,m (t 66),o⟩,31,0,U⟩,⟨⟨s 4,m (v (i I 0)),o⟩,63,0,T⟩]) R)))))),[.tmp 2,.tmp 3,.tmp 4]⟩
def c13 : RFunc := ⟨42,.code (q (g [⟨s 1,.box 24 (t 0),o⟩,⟨s 2,m (v (i I 0)),o⟩]) (q (q (g [⟨s 4,f 0 (t 1),o⟩,⟨s 5,l o (t 4),o⟩,⟨s 6,f 1 (t 1),o⟩,⟨s 7,l o (t 6),o⟩,⟨s 8,C (v (F (J 36) [] [])) [t 5,t 7],o⟩,⟨s 9,.un .not (t 8),o⟩,⟨s 10,m (t 9),o⟩,⟨s 11,f 2 (t 1),s (10,U)⟩,⟨s 12,l o (t 11),s (10,U)⟩,⟨s 13,n (t 12),s (10,U)⟩,⟨s 14,f 0 (t 1),s (10,U)⟩,⟨s 15,l o (t 14),s (10,U)⟩,⟨s 16,f 1 (t 1),s (10,U)⟩,⟨s 17,l o (t 16),s (10,U)⟩,⟨s 18,b .mul (t 15) (t 17),s (10,U)⟩,⟨s 19,b .neq (t 13) (t 18),s (10,U)⟩,⟨s 20,p (t 10) (v (w T)) (t 19),o⟩]) (c (t 20) (q (g [⟨s 2,m (v (i I 2)),o⟩]) R) k)) (q (q (g [⟨s 3,m (v (i I 0)),o⟩]) (B 0 (L (q (q (g [⟨s 21,m (t 3),o⟩,⟨s 22,f 2 (t 1),o⟩,⟨s 23,l o (t 22),o⟩,⟨s 24,n (t 23),o⟩,⟨s 25,b .lss (t 21) (t 24),o⟩]) (c (t 25) k (x 0))) (q (B 1 (q (g [⟨s 28,f 2 (t 1),o⟩,⟨s 29,l o (t 28),o⟩,⟨s 30,m (t 3),o⟩,⟨s 31,a 1 (t 29) (t 30),o⟩,⟨s 32,l o (t 31),o⟩,⟨s 33,b .neq (t 32) (v (i .u8 0)),o⟩,⟨s 34,m (t 33),o⟩,⟨s 35,f 2 (t 1),s (34,T)⟩,⟨s 36,l o (t 35),s (34,T)⟩,⟨s 37,m (t 3),s (34,T)⟩,⟨s 38,a 1 (t 36) (t 37),s (34,T)⟩,⟨s 39,l o (t 38),s (34,T)⟩,⟨s 40,b .neq (t 39) (v (i .u8 1)),s (34,T)⟩,⟨s 41,p (t 34) (t 40) (v (w U)),o⟩]) (c (t 41) (q (g [⟨s 2,m (v (i I 3)),o⟩]) R) k))) (g [⟨s 26,m (t 3),o⟩,⟨s 27,b .add (t 26) (v (i I 1)),o⟩,⟨s 3,m (t 27),o⟩])))))) (q (g [⟨s 2,m (v (i I 0)),o⟩]) R)))),[.tmp 2]⟩
def c14 : RFunc := ⟨98,.code (q (g [⟨s 1,.box 24 (t 0),o⟩,⟨s 2,m (v (i I 0)),o⟩,⟨s 3,m (v (i I 0)),o⟩]) (q (g [⟨s 11,l (s 3) (t 1),o⟩,⟨s 12,C (v (F (J 31) [] [])) [t 11],o⟩,⟨s 4,m (t 12),o⟩]) (q (G [⟨⟨s 13,.makeSlice 3 [(i I 0)] 8 (v (i I 641)) (v (i I 641)),o⟩,0,3,T⟩,⟨⟨s 14,.makeSlice 3 [(i I 0)] 8 (v (i I 641)) (v (i I 641)),o⟩,0,3,T⟩,⟨⟨s 5,m (t 13),o⟩,1,0,T⟩,⟨⟨s 6,m (t 14),o⟩,7,0,T⟩]) (q (q (g [⟨s 7,m (v (i I 0)),o⟩]) (B 0 (L (q (q (g [⟨s 15,m (t 7),o⟩,⟨s 16,m (t 4),o⟩,⟨s 17,n (t 16),o⟩,⟨s 18,b .lss (t 15) (t 17),o⟩]) (c (t 18) k (x 0))) (q (B 1 (q (G [⟨⟨s 21,m (t 5),o⟩,0,0,T⟩,⟨⟨s 22,m (t 4),o⟩,0,0,T⟩,⟨⟨s 23,m (t 7),o⟩,0,0,T⟩,⟨⟨s 24,a 3 (t 22) (t 23),o⟩,6,0,T⟩,⟨⟨s 25,f 2 (t 24),o⟩,14,0,T⟩,⟨⟨s 26,l o (t 25),o⟩,30,1,T⟩,⟨⟨s 27,m (t 4),o⟩,0,0,T⟩,⟨⟨s 28,m (t 7),o⟩,0,0,T⟩,⟨⟨s 29,a 3 (t 27) (t 28),o⟩,192,0,T⟩,⟨⟨s 30,f 1 (t 29),o⟩,448,0,T⟩,⟨⟨s 31,l o (t 30),o⟩,960,1,T⟩,⟨⟨s 32,b .sub (t 26) (t 31),o⟩,2046,0,T⟩,⟨⟨s 33,b .add (t 32) (v (i I 1)),o⟩,4094,0,T⟩,⟨⟨s 34,a 1 (t 21) (t 33),o⟩,8191,0,T⟩,⟨⟨s 35,l o (t 34),o⟩,16383,1,T⟩,⟨⟨s 36,b .add (t 35) (v (i I 1)),o⟩,32767,0,T⟩,⟨⟨s 37,a 1 (t 21) (t 33),o⟩,65535,0,T⟩,⟨⟨o,S 1 (t 37) (t 36),o⟩,131071,2,U⟩]) (q (G [⟨⟨s 38,m (t 7),o⟩,0,0,T⟩,⟨⟨s 39,b .gtr (t 38) (v (i I 0)),o⟩,1,0,T⟩,⟨⟨s 40,m (t 39),o⟩,3,0,T⟩,⟨⟨s 41,m (t 4),s (40,T)⟩,7,0,T⟩,⟨⟨s 42,m (t 7),s (40,T)⟩,7,0,T⟩,⟨⟨s 43,b .sub (t 42) (v (i I 1)),s (40,T)⟩,23,0,T⟩,⟨⟨s 44,a 3 (t 41) (t 43),s (40,T)⟩,63,0,T⟩,⟨⟨s 45,f 0 (t 44),s (40,T)⟩,127,0,T⟩,⟨⟨s 46,l o (t 45),s (40,T)⟩,255,1,T⟩,⟨⟨s 47,m (t 4),s (40,T)⟩,7,0,T⟩,⟨⟨s 48,m (t 7),s (40,T)⟩,7,0,T⟩,⟨⟨s 49,a 3 (t 47) (t 48),s (40,T)⟩,1543,0,T⟩,⟨⟨s 50,f 0 (t 49),s (40,T)⟩,3591,0,T⟩,⟨⟨s 51,l o (t 50),s (40,T)⟩,7687,1,T⟩,⟨⟨s 52,b .eql (t 46) (t 51),s (40,T)⟩,16383,0,T⟩,⟨⟨s 53,p (t 40) (t 52) (v (w U)),o⟩,32767,0,T⟩]) (c (t 53) (G [⟨⟨s 54,m (t 6),o⟩,0,0,T⟩,⟨⟨s 55,m (t 4),o⟩,0,0,T⟩,⟨⟨s 56,m (t 7),o⟩,0,0,T⟩,⟨⟨s 57,a 3 (t 55) (t 56),o⟩,6,0,T⟩,⟨⟨s 58,f 1 (t 57),o⟩,14,0,T⟩,⟨⟨s 59,l o (t 58),o⟩,30,1,T⟩,⟨⟨s 60,m (t 4),o⟩,0,0,T⟩,⟨⟨s 61,m (t 7),o⟩,0,0,T⟩,⟨⟨s 62,b .sub (t 61) (v (i I 1)),o⟩,128,0,T⟩,⟨⟨s 63,a 3 (t 60) (t 62),o⟩,448,0,T⟩,⟨⟨s 64,f 2 (t 63),o⟩,960,0,T⟩,⟨⟨s 65,l o (t 64),o⟩,1984,1,T⟩,⟨⟨s 66,b .sub (t 59) (t 65),o⟩,4094,0,T⟩,⟨⟨s 67,b .sub (t 66) (v (i I 1)),o⟩,8190,0,T⟩,⟨⟨s 68,a 1 (t 54) (t 67),o⟩,16383,0,T⟩,⟨⟨s 69,l o (t 68),o⟩,32767,1,T⟩,⟨⟨s 70,b .add (t 69) (v (i I 1)),o⟩,65535,0,T⟩,⟨⟨s 71,a 1 (t 54) (t 67),o⟩,131071,0,T⟩,⟨⟨o,S 1 (t 71) (t 70),o⟩,262143,2,U⟩]) k)))) (g [⟨s 19,m (t 7),o⟩,⟨s 20,b .add (t 19) (v (i I 1)),o⟩,⟨s 7,m (t 20),o⟩])))))) (q (g [⟨s 8,m (v (i I 0)),o⟩,⟨s 9,m (v (i I 0)),o⟩]) (q (q (g [⟨s 10,m (v (i I 1)),o⟩]) (B 2 (L (q (q (g [⟨s 72,m (t 10),o⟩,⟨s 73,b .leq (t 72) (v (i I 640)),o⟩]) (c (t 73) k (x 2))) (q (B 3 (q (q (G [⟨⟨s 76,m (t 5),o⟩,0,0,T⟩,⟨⟨s 77,m (t 10),o⟩,0,0,T⟩,⟨⟨s 78,a 1 (t 76) (t 77),o⟩,3,0,T⟩,⟨⟨s 79,l o (t 78),o⟩,7,1,T⟩,⟨⟨s 80,m (t 5),o⟩,0,0,T⟩,⟨⟨s 81,m (t 8),o⟩,0,0,T⟩,⟨⟨s 82,a 1 (t 80) (t 81),o⟩,48,0,T⟩,⟨⟨s 83,l o (t 82),o⟩,112,1,T⟩,⟨⟨s 84,b .gtr (t 79) (t 83),o⟩,255,0,T⟩]) (c (t 84) (g [⟨s 85,m (t 10),o⟩,⟨s 8,m (t 85),o⟩]) k)) (q (G [⟨⟨s 86,m (t 6),o⟩,0,0,T⟩,⟨⟨s 87,m (t 10),o⟩,0,0,T⟩,⟨⟨s 88,a 1 (t 86) (t 87),o⟩,3,0,T⟩,⟨⟨s 89,l o (t 88),o⟩,7,1,T⟩,⟨⟨s 90,m (t 6),o⟩,0,0,T⟩,⟨⟨s 91,m (t 9),o⟩,0,0,T⟩,⟨⟨s 92,a 1 (t 90) (t 91),o⟩,48,0,T⟩,⟨⟨s 93,l o (t 92),o⟩,112,1,T⟩,⟨⟨s 94,b .gtr (t 89) (t 93),o⟩,255,0,T⟩]) (c (t 94) (g [⟨s 95,m (t 10),o⟩,⟨s 9,m (t 95),o⟩]) k)))) (g [⟨s 74,m (t 10),o⟩,⟨s 75,b .add (t 74) (v (i I 1)),o⟩,⟨s 10,m (t 75),o⟩])))))) (q (g [⟨s 96,m (t 8),o⟩,⟨s 97,m (t 9),o⟩,⟨s 2,m (t 96),o⟩,⟨s 3,m (t 97),o⟩]) R))))))),[.tmp 2,.tmp 3]⟩
def c15 : RFunc := ⟨26,.code (.seq (.region [⟨some 4,.mov (.val (.bool false)),none⟩]) (.seq (.seq (.region [⟨some 6,.mov (.tmp 0),none⟩,⟨some 7,.lenS (.tmp 6),none⟩,⟨some 8,.mov (.tmp 1),none⟩,⟨some 9,.lenS (.tmp 8),none⟩,⟨some 10,.bin .neq (.tmp 7) (.tmp 9),none⟩]) (.cond (.tmp 10) (.seq (.region [⟨some 4,.mov (.val (.bool false)),none⟩]) .ret) .skip)) (.seq (.seq (.region [⟨some 11,.mov (.tmp 0),none⟩,⟨some 12,.lenS (.tmp 11),none⟩,⟨some 13,.mov (.val (.int .i64 0)),none⟩]) (.block 0 (.loop (.seq (.region [⟨some 14,.bin .lss (.tmp 13) (.tmp 12),none⟩]) (.seq (.cond (.tmp 14) .skip (.exit 0)) (.seq (.block 1 (.seq (.region [⟨some 15,.mov (.tmp 13),none⟩,⟨some 5,.mov (.tmp 15),none⟩]) (.seq (.dregion [⟨⟨some 16,.mov (.tmp 0),none⟩,0,0,true⟩,⟨⟨some 17,.mov (.tmp 5),none⟩,0,0,true⟩,⟨⟨some 18,.idxS 3 (.tmp 16) (.tmp 17),none⟩,3,0,true⟩,⟨⟨some 19,.load (some 3) (.tmp 18),none⟩,7,1,true⟩,⟨⟨some 20,.mov (.tmp 1),none⟩,0,0,true⟩,⟨⟨some 21,.mov (.tmp 5),none⟩,0,0,true⟩,⟨⟨some 22,.idxS 3 (.tmp 20) (.tmp 21),none⟩,48,0,true⟩,⟨⟨some 23,.load (some 3) (.tmp 22),none⟩,112,1,true⟩,⟨⟨some 24,.eq true (.fields [some (0,0,.int),some (1,0,.int),some (2,0,.int)]) (.tmp 19) (.tmp 23),none⟩,255,0,true⟩]) (.cond (.tmp 24) (.seq (.region [⟨some 4,.mov (.val (.bool false)),none⟩]) .ret) .skip)))) (.region [⟨some 25,.bin .add (.tmp 13) (.val (.int .i64 1)),none⟩,⟨some 13,.mov (.tmp 25),none⟩]))))))) (.seq (.region [⟨some 4,.mov (.val (.bool true)),none⟩]) .ret)))),[.tmp 4]⟩
def c16 : RFunc := ⟨24,.code (q (g [⟨s 2,.box 24 (t 0),o⟩,⟨s 3,.box 24 (t 1),o⟩,⟨s 4,m (v (w U)),o⟩]) (q (g [⟨s 5,f 0 (t 2),o⟩,⟨s 6,l o (t 5),o⟩,⟨s 7,f 0 (t 3),o⟩,⟨s 8,l o (t 7),o⟩,⟨s 9,b .eql (t 6) (t 8),o⟩,⟨s 10,m (t 9),o⟩,⟨s 11,f 1 (t 2),s (10,T)⟩,⟨s 12,l o (t 11),s (10,T)⟩,⟨s 13,f 1 (t 3),s (10,T)⟩,⟨s 14,l o (t 13),s (10,T)⟩,⟨s 15,b .eql (t 12) (t 14),s (10,T)⟩,⟨s 16,p (t 10) (t 15) (v (w U)),o⟩,⟨s 17,m (t 16),o⟩,⟨s 18,f 2 (t 2),s (17,T)⟩,⟨s 19,l o (t 18),s (17,T)⟩,⟨s 20,f 2 (t 3),s (17,T)⟩,⟨s 21,l o (t 20),s (17,T)⟩,⟨s 22,C (v (F (J 37) [] [])) [t 19,t 21],s (17,T)⟩,⟨s 23,p (t 17) (t 22) (v (w U)),o⟩,⟨s 4,m (t 23),o⟩]) R)),[.tmp 4]⟩
def c17 : RFunc := ⟨27,.code (q (g [⟨s 4,m (v (w U)),o⟩]) (q (q (g [⟨s 6,m (t 0),o⟩,⟨s 7,n (t 6),o⟩,⟨s 8,m (t 1),o⟩,⟨s 9,n (t 8),o⟩,⟨s 10,b .neq (t 7) (t 9),o⟩]) (c (t 10) (q (g [⟨s 4,m (v (w U)),o⟩]) R) k)) (q (q (g [⟨s 5,m (v (i I 0)),o⟩]) (B 0 (L (q (q (g [⟨s 11,m (t 5),o⟩,⟨s 12,m (t 0),o⟩,⟨s 13,n (t 12),o⟩,⟨s 14,b .lss (t 11) (t 13),o⟩]) (c (t 14) k (x 0))) (q (B 1 (q (G [⟨⟨s 17,m (t 0),o⟩,0,0,T⟩,⟨⟨s 18,m (t 5),o⟩,0,0,T⟩,⟨⟨s 19,a 1 (t 17) (t 18),o⟩,3,0,T⟩,⟨⟨s 20,l (s 1) (t 19),o⟩,7,1,T⟩,⟨⟨s 21,m (t 1),o⟩,0,0,T⟩,⟨⟨s 22,m (t 5),o⟩,0,0,T⟩,⟨⟨s 23,a 1 (t 21) (t 22),o⟩,48,0,T⟩,⟨⟨s 24,l (s 1) (t 23),o⟩,112,1,T⟩,⟨⟨s 25,C (v (F (J 38) [] [])) [t 20,t 24],o⟩,255,2,U⟩,⟨⟨s 26,.un .not (t 25),o⟩,511,0,U⟩]) (c (t 26) (q (g [⟨s 4,m (v (w U)),o⟩]) R) k))) (g [⟨s 15,m (t 5),o⟩,⟨s 16,b .add (t 15) (v (i I 1)),o⟩,⟨s 5,m (t 16),o⟩])))))) (q (g [⟨s 4,m (v (w T)),o⟩]) R)))),[.tmp 4]⟩
def c18 : RFunc := ⟨20,.code (q (g [⟨s 2,.new 24 [(i I 0),(i I 0),N],o⟩]) (q (g [⟨s 5,.makeSlice 5 [(i .u8 0)] 1 (v (i I 80)) (v (i I 80)),o⟩,⟨s 6,.build [(i I 0),(i I 0),N] [(0,1,(v (i I 16))),(1,1,(v (i I 5))),(2,1,(t 5))],o⟩,⟨s 3,.new 24 [(i I 0),(i I 0),N],o⟩,⟨o,S 3 (t 3) (t 6),o⟩]) (q (q (g [⟨s 7,m (v (i I 0)),o⟩]) (B 0 (L (q (g [⟨s 8,b .lss (t 7) (v (i I 16)),o⟩]) (q (c (t 8) k (x 0)) (q (B 1 (q (g [⟨s 9,m (t 7),o⟩,⟨s 4,m (t 9),o⟩]) (q (g [⟨s 10,m (t 4),o⟩,⟨s 11,m (t 0),o⟩,⟨s 12,b .neq (t 10) (t 11),o⟩]) (c (t 12) (g [⟨s 13,f 2 (t 3),o⟩,⟨s 14,l o (t 13),o⟩,⟨s 15,m (t 4),o⟩,⟨s 16,b .add (v (i I 32)) (t 15),o⟩,⟨s 17,a 1 (t 14) (t 16),o⟩,⟨o,S 1 (t 17) (v (i .u8 1)),o⟩]) k)))) (g [⟨s 18,b .add (t 7) (v (i I 1)),o⟩,⟨s 7,m (t 18),o⟩]))))))) (q (g [⟨s 19,l (s 3) (t 3),o⟩,⟨o,S 3 (t 2) (t 19),o⟩]) R)))),[.cell 2 (some 3)]⟩
def c19 : RFunc := ⟨42,.code (q (g [⟨s 1,.box 24 (t 0),o⟩,⟨s 2,m (v N),o⟩,⟨s 3,m (v (i I 0)),o⟩]) (q (q (g [⟨s 8,l (s 3) (t 1),o⟩,⟨s 9,C (v (F (J 39) [] [])) [t 8],o⟩,⟨s 4,m (t 9),o⟩]) (q (g [⟨s 10,m (t 4),o⟩,⟨s 11,b .neq (t 10) (v (i I 0)),o⟩]) (c (t 11) (q (g [⟨s 12,m (t 4),o⟩,⟨s 2,m (v N),o⟩,⟨s 3,m (t 12),o⟩]) R) k))) (q (q (g [⟨s 13,f 2 (t 1),o⟩,⟨s 14,l o (t 13),o⟩,⟨s 15,n (t 14),o⟩,⟨s 16,b .eql (t 15) (v (i I 0)),o⟩]) (c (t 16) (q (g [⟨s 2,m (v N),o⟩,⟨s 3,m (v (i I 0)),o⟩]) R) k)) (q (g [⟨s 17,l (s 3) (t 1),o⟩,⟨s 18,C (v (F (J 40) [] [])) [t 17],o⟩,⟨s 5,.new 74 [(i I 0),(i I 0),N,N],o⟩,⟨o,S 4 (t 5) (t 18),o⟩]) (q (g [⟨s 6,m (v N),o⟩]) (q (B 0 (L (q (q (G [⟨⟨s 19,m (t 6),o⟩,0,0,T⟩,⟨⟨s 20,n (t 19),o⟩,1,0,T⟩,⟨⟨s 21,b .lss (t 20) (v (i I 60)),o⟩,3,0,T⟩,⟨⟨s 22,m (t 21),o⟩,7,0,T⟩,⟨⟨s 23,l (s 4) (t 5),s (22,T)⟩,15,1,T⟩,⟨⟨s 24,C (v (F (J 41) [] [])) [t 23],s (22,T)⟩,31,2,U⟩,⟨⟨s 25,b .mul (v (i I 8)) (t 24),s (22,T)⟩,63,0,U⟩,⟨⟨s 26,f 0 (t 5),s (22,T)⟩,15,0,T⟩,⟨⟨s 27,l o (t 26),s (22,T)⟩,143,1,T⟩,⟨⟨s 28,b .leq (t 25) (t 27),s (22,T)⟩,511,0,U⟩,⟨⟨s 29,p (t 22) (t 28) (v (w U)),o⟩,1023,0,U⟩]) (c (t 29) k (x 0))) (B 1 (q (g [⟨s 30,l (s 4) (t 5),o⟩,⟨s 31,C (v (F (J 42) [] [])) [t 30],o⟩,⟨s 7,m (t 31),o⟩]) (q (g [⟨s 32,l (s 4) (t 5),o⟩,⟨s 33,m (t 7),o⟩,⟨s 34,C (v (F (J 43) [] [])) [t 32,t 33],o⟩]) (g [⟨s 35,m (t 6),o⟩,⟨s 36,m (t 7),o⟩,⟨s 37,.buildSlice 53 1 1 [N] [(0,1,(t 36))],o⟩,⟨s 38,.append 53 1 24 (t 35) (t 37),o⟩,⟨s 6,m (t 38),o⟩]))))))) (q (g [⟨s 39,m (t 6),o⟩,⟨s 40,C (v (F (J 44) [] [])) [t 39,(v (F (J 45) [] []))],o⟩]) (q (g [⟨s 41,m (t 6),o⟩,⟨s 2,m (t 41),o⟩,⟨s 3,m (v (i I 0)),o⟩]) R)))))))),[.tmp 2,.tmp 3]⟩
def c20 : RFunc := ⟨45,.code (q (g [⟨s 2,.box 24 (t 0),o⟩,⟨s 4,m (v (i I 0)),o⟩,⟨s 5,m (v (i I 0)),o⟩]) (q (q (g [⟨s 10,l (s 3) (t 2),o⟩,⟨s 11,C (v (F (J 39) [] [])) [t 10],o⟩,⟨s 6,m (t 11),o⟩]) (q (g [⟨s 12,m (t 6),o⟩,⟨s 13,b .neq (t 12) (v (i I 0)),o⟩]) (c (t 13) (q (g [⟨s 14,m (t 6),o⟩,⟨s 4,m (v (i I 0)),o⟩,⟨s 5,m (t 14),o⟩]) R) k))) (q (q (g [⟨s 15,l (s 3) (t 2),o⟩,⟨s 16,m (t 1),o⟩,⟨s 17,C (v (F (J 47) [] [])) [t 15,t 16],o⟩,⟨s 18,.un .not (t 17),o⟩]) (c (t 18) (q (g [⟨s 4,m (v (i I 0)),o⟩,⟨s 5,m (v (i I 1)),o⟩]) R) k)) (q (g [⟨s 7,m (v (i I 0)),o⟩]) (q (q (g [⟨s 19,m (t 1),o⟩,⟨s 20,n (t 19),o⟩,⟨s 21,m (v (i I 0)),o⟩]) (B 0 (L (q (g [⟨s 22,b .lss (t 21) (t 20),o⟩]) (q (c (t 22) k (x 0)) (q (B 1 (q (g [⟨s 23,m (t 21),o⟩,⟨s 24,a 1 (t 19) (t 21),o⟩,⟨s 25,l o (t 24),o⟩,⟨s 8,m (t 23),o⟩,⟨s 9,m (t 25),o⟩]) (q (g [⟨s 26,m (t 7),o⟩,⟨s 27,l (s 3) (t 2),o⟩,⟨s 28,m (t 8),o⟩,⟨s 29,m (t 9),o⟩,⟨s 30,C (v (F (J 48) [] [])) [t 27,t 28,t 29],o⟩,⟨s 31,b .add (t 26) (t 30),o⟩,⟨s 7,m (t 31),o⟩]) (q (g [⟨s 32,m (t 8),o⟩,⟨s 33,b .gtr (t 32) (v (i I 0)),o⟩]) (c (t 33) (g [⟨s 34,m (t 7),o⟩,⟨s 35,m (t 1),o⟩,⟨s 36,m (t 8),o⟩,⟨s 37,b .sub (t 36) (v (i I 1)),o⟩,⟨s 38,a 1 (t 35) (t 37),o⟩,⟨s 39,l o (t 38),o⟩,⟨s 40,m (t 9),o⟩,⟨s 41,C (v (F (J 49) [] [])) [t 39,t 40],o⟩,⟨s 42,b .add (t 34) (t 41),o⟩,⟨s 7,m (t 42),o⟩]) k))))) (g [⟨s 43,b .add (t 21) (v (i I 1)),o⟩,⟨s 21,m (t 43),o⟩]))))))) (q (g [⟨s 44,m (t 7),o⟩,⟨s 4,m (t 44),o⟩,⟨s 5,m (v (i I 0)),o⟩]) R)))))),[.tmp 4,.tmp 5]⟩
def c21 : RFunc := ⟨34,.code (q (g [⟨s 4,m (v N),o⟩]) (q (g [⟨s 5,m (v N),o⟩]) (q (q (g [⟨s 10,m (t 1),o⟩,⟨s 11,n (t 10),o⟩,⟨s 12,m (v (i I 0)),o⟩]) (B 0 (L (q (g [⟨s 13,b .lss (t 12) (t 11),o⟩]) (q (c (t 13) k (x 0)) (q (B 1 (q (g [⟨s 14,a 1 (t 10) (t 12),o⟩,⟨s 15,l o (t 14),o⟩,⟨s 7,m (t 15),o⟩]) (q (g [⟨s 16,m (t 0),o⟩,⟨s 17,.makeSlice 3 [(i I 0)] 8 (t 16) (t 16),o⟩,⟨s 8,m (t 17),o⟩]) (q (q (g [⟨s 18,m (t 8),o⟩,⟨s 19,n (t 18),o⟩,⟨s 20,m (v (i I 0)),o⟩]) (B 2 (L (q (g [⟨s 21,b .lss (t 20) (t 19),o⟩]) (q (c (t 21) k (x 2)) (q (B 3 (q (g [⟨s 22,m (t 20),o⟩,⟨s 9,m (t 22),o⟩]) (g [⟨s 23,m (t 8),o⟩,⟨s 24,m (t 9),o⟩,⟨s 25,m (t 7),o⟩,⟨s 26,a 1 (t 23) (t 24),o⟩,⟨o,S 1 (t 26) (t 25),o⟩]))) (g [⟨s 27,b .add (t 20) (v (i I 1)),o⟩,⟨s 20,m (t 27),o⟩]))))))) (g [⟨s 28,m (t 5),o⟩,⟨s 29,m (t 8),o⟩,⟨s 30,.buildSlice 53 1 1 [N] [(0,1,(t 29))],o⟩,⟨s 31,.append 53 1 24 (t 28) (t 30),o⟩,⟨s 5,m (t 31),o⟩]))))) (g [⟨s 32,b .add (t 12) (v (i I 1)),o⟩,⟨s 12,m (t 32),o⟩]))))))) (q (g [⟨s 33,m (t 5),o⟩,⟨s 4,m (t 33),o⟩]) R)))),[.tmp 4]⟩
def c22 : RFunc := ⟨26,.code (q (g [⟨s 4,m (v (w U)),o⟩]) (q (q (g [⟨s 6,m (t 0),o⟩,⟨s 7,n (t 6),o⟩,⟨s 8,m (t 1),o⟩,⟨s 9,n (t 8),o⟩,⟨s 10,b .neq (t 7) (t 9),o⟩]) (c (t 10) (q (g [⟨s 4,m (v (w U)),o⟩]) R) k)) (q (q (g [⟨s 11,m (t 0),o⟩,⟨s 12,n (t 11),o⟩,⟨s 13,m (v (i I 0)),o⟩]) (B 0 (L (q (g [⟨s 14,b .lss (t 13) (t 12),o⟩]) (q (c (t 14) k (x 0)) (q (B 1 (q (g [⟨s 15,m (t 13),o⟩,⟨s 5,m (t 15),o⟩]) (q (G [⟨⟨s 16,m (t 0),o⟩,0,0,T⟩,⟨⟨s 17,m (t 5),o⟩,0,0,T⟩,⟨⟨s 18,a 1 (t 16) (t 17),o⟩,3,0,T⟩,⟨⟨s 19,l o (t 18),o⟩,7,1,T⟩,⟨⟨s 20,m (t 1),o⟩,0,0,T⟩,⟨⟨s 21,m (t 5),o⟩,0,0,T⟩,⟨⟨s 22,a 1 (t 20) (t 21),o⟩,48,0,T⟩,⟨⟨s 23,l o (t 22),o⟩,112,1,T⟩,⟨⟨s 24,b .neq (t 19) (t 23),o⟩,255,0,T⟩]) (c (t 24) (q (g [⟨s 4,m (v (w U)),o⟩]) R) k)))) (g [⟨s 25,b .add (t 13) (v (i I 1)),o⟩,⟨s 13,m (t 25),o⟩]))))))) (q (g [⟨s 4,m (v (w T)),o⟩]) R)))),[.tmp 4]⟩
def c23 : RFunc := ⟨23,.code (q (g [⟨s 2,m (v N),o⟩]) (.scope (q (g [⟨s 3,m (v N),o⟩]) (q .label (q (B 0 (L (B 1 (B 2 (q (g [⟨s 7,m (t 0),o⟩,⟨s 8,n (t 7),o⟩,⟨s 9,b .lss (t 8) (v (i I 5)),o⟩,⟨s 6,m (t 9),o⟩]) (c (t 6) (x 0) (q (g [⟨s 11,m (t 0),o⟩,⟨s 12,.sliceS 1 (t 11) o (s (v (i I 5))) o,o⟩,⟨s 13,C (v (F (J 50) [] [])) [t 12],o⟩,⟨s 10,m (t 13),o⟩]) (c (t 10) (q (g [⟨s 14,m (t 3),o⟩,⟨s 15,m (t 0),o⟩,⟨s 16,.sliceS 1 (t 15) o (s (v (i I 5))) o,o⟩,⟨s 17,C (v (F (J 51) [] [])) [t 16],o⟩,⟨s 18,.buildSlice 59 1 1 [N] [(0,1,(t 17))],o⟩,⟨s 19,.append 59 1 24 (t 14) (t 18),o⟩,⟨s 3,m (t 19),o⟩]) (g [⟨s 20,m (t 0),o⟩,⟨s 21,.sliceS 1 (t 20) (s (v (i I 5))) o o,o⟩,⟨s 0,m (t 21),o⟩])) (g [⟨s 4,m (t 0),o⟩,⟨s 5,.sliceS 1 (t 4) (s (v (i I 1))) o o,o⟩,⟨s 0,m (t 5),o⟩]))))))))) (q (g [⟨s 22,m (t 3),o⟩,⟨s 2,m (t 22),o⟩]) R)))))),[.tmp 2]⟩
def c24 : RFunc := ⟨7,.code (q (g [⟨s 2,m (v N),o⟩]) (q (g [⟨s 3,m (v N),o⟩]) (q (g [⟨s 4,m (t 3),o⟩,⟨s 5,m (t 0),o⟩,⟨s 6,.append 5 1 1 (t 4) (t 5),o⟩,⟨s 2,m (t 6),o⟩]) R))),[.tmp 2]⟩
def c25 : RFunc := ⟨7,.code (q (g [⟨s 1,.box 59 (t 0),o⟩,⟨s 2,.new 59 [N],o⟩]) (q (g [⟨s 3,f 0 (t 1),o⟩,⟨s 4,l o (t 3),o⟩,⟨s 5,C (v (F (J 52) [] [])) [t 4],o⟩,⟨s 6,.build [N] [(0,1,(t 5))],o⟩,⟨o,S 1 (t 2) (t 6),o⟩]) R)),[.cell 2 (some 1)]⟩
def c26 : RFunc := ⟨24,.ranges (q (g [⟨s 1,.box 24 (t 0),o⟩,⟨s 2,m (v N),o⟩,⟨s 3,m (v (i I 0)),o⟩]) (q (q (g [⟨s 7,l (s 3) (t 1),o⟩,⟨s 8,C (v (F (J 39) [] [])) [t 7],o⟩,⟨s 4,m (t 8),o⟩]) (q (g [⟨s 9,m (t 4),o⟩,⟨s 10,b .neq (t 9) (v (i I 0)),o⟩]) (c (t 10) (q (g [⟨s 11,m (t 4),o⟩,⟨s 2,m (v N),o⟩,⟨s 3,m (t 11),o⟩]) R) k))) (q (g [⟨s 5,.new 30 [N],o⟩]) (q (q (g [⟨s 12,f 0 (t 1),o⟩,⟨s 13,l o (t 12),o⟩,⟨s 14,f 1 (t 1),o⟩,⟨s 15,l o (t 14),o⟩,⟨s 16,.mkFunc (J 54) [] [t 1],o⟩,⟨s 17,C (v (F (J 53) [] [])) [t 13,t 15,t 16],o⟩]) (B 0 (.rangeFunc [2,3,4,5,6,7,8,9,10,11,12,13,14,15,16,17,18,19,20,21,22,23,24,25,26,27,28,29,30,31,32,33,34,35,36,37,38,39,40,41,42,43,44,45,46,47,48,49,50,51,52,53,54,55,56,57,58,59,60,61,62,63,64,65,66,67,68,69,70,71,72,73,74,75,76,77,78,79,80,81,82,84,85,86,87,88,89,90,91,92,93,94,95,96,97,98,100,101,102,103,104,105,106,107,109,110] 24 (t 17) [18] (g [⟨s 6,.new 43 [(i I 0),(i I 0),(i I 0)],o⟩,⟨o,S 3 (t 6) (t 18),o⟩]) (B 1 (g [⟨s 19,l o (t 5),o⟩,⟨s 20,l (s 3) (t 6),o⟩,⟨s 21,.buildSlice 43 3 1 [(i I 0),(i I 0),(i I 0)] [(0,3,(t 20))],o⟩,⟨s 22,.append 43 3 24 (t 19) (t 21),o⟩,⟨o,S 1 (t 5) (t 22),o⟩]))))) (q (g [⟨s 23,l o (t 5),o⟩,⟨s 2,m (t 23),o⟩,⟨s 3,m (v (i I 0)),o⟩]) R))))),[.tmp 2,.tmp 3]⟩
def c27 : RFunc := ⟨39,.code (q (g [⟨s 2,.box 24 (t 0),o⟩,⟨s 3,.box 59 (t 1),o⟩,⟨s 4,m (v (w U)),o⟩]) (q (q (g [⟨s 7,f 0 (t 3),o⟩,⟨s 8,l o (t 7),o⟩,⟨s 9,n (t 8),o⟩,⟨s 10,b .neq (t 9) (v (i I 5)),o⟩]) (c (t 10) (q (g [⟨s 4,m (v (w U)),o⟩]) R) k)) (q (q (g [⟨s 11,f 0 (t 3),o⟩,⟨s 12,l o (t 11),o⟩,⟨s 13,n (t 12),o⟩,⟨s 14,m (v (i I 0)),o⟩]) (B 0 (L (q (g [⟨s 15,b .lss (t 14) (t 13),o⟩]) (q (c (t 15) k (x 0)) (q (B 1 (q (g [⟨s 16,m (t 14),o⟩,⟨s 17,a 1 (t 12) (t 14),o⟩,⟨s 18,l o (t 17),o⟩,⟨s 5,m (t 16),o⟩,⟨s 6,m (t 18),o⟩]) (q (g [⟨s 19,l (s 3) (t 2),o⟩,⟨s 20,m (t 6),o⟩,⟨s 21,C (v (F (J 47) [] [])) [t 19,t 20],o⟩,⟨s 22,.un .not (t 21),o⟩,⟨s 23,m (t 22),o⟩,⟨s 24,m (t 5),s (23,U)⟩,⟨s 25,b .gtr (t 24) (v (i I 0)),s (23,U)⟩,⟨s 26,m (t 25),s (23,U)⟩,⟨s 27,f 0 (t 3),s (26,T)⟩,⟨s 28,l o (t 27),s (26,T)⟩,⟨s 29,m (t 5),s (26,T)⟩,⟨s 30,b .sub (t 29) (v (i I 1)),s (26,T)⟩,⟨s 31,a 1 (t 28) (t 30),s (26,T)⟩,⟨s 32,l o (t 31),s (26,T)⟩,⟨s 33,m (t 6),s (26,T)⟩,⟨s 34,C (v (F (J 56) [] [])) [t 32,t 33],s (26,T)⟩,⟨s 35,.un .not (t 34),s (26,T)⟩,⟨s 36,p (t 26) (t 35) (v (w U)),s (23,U)⟩,⟨s 37,p (t 23) (v (w T)) (t 36),o⟩]) (c (t 37) (q (g [⟨s 4,m (v (w U)),o⟩]) R) k)))) (g [⟨s 38,b .add (t 14) (v (i I 1)),o⟩,⟨s 14,m (t 38),o⟩]))))))) (q (g [⟨s 4,m (v (w T)),o⟩]) R)))),[.tmp 4]⟩
def c28 : RFunc := ⟨53,.code (q (g [⟨s 6,.new 24 [(i I 0),(i I 0),N],o⟩]) (q (g [⟨s 14,m (t 0),o⟩,⟨s 15,m (t 1),o⟩,⟨s 16,m (t 0),o⟩,⟨s 17,m (t 1),o⟩,⟨s 18,b .mul (t 16) (t 17),o⟩,⟨s 19,.makeSlice 5 [(i .u8 0)] 1 (t 18) (t 18),o⟩,⟨s 20,.build [(i I 0),(i I 0),N] [(0,1,(t 14)),(1,1,(t 15)),(2,1,(t 19))],o⟩,⟨s 7,.new 24 [(i I 0),(i I 0),N],o⟩,⟨o,S 3 (t 7) (t 20),o⟩]) (q (q (g [⟨s 21,m (t 2),o⟩,⟨s 22,n (t 21),o⟩,⟨s 23,m (v (i I 0)),o⟩]) (B 0 (L (q (g [⟨s 24,b .lss (t 23) (t 22),o⟩]) (q (c (t 24) k (x 0)) (q (B 1 (q (g [⟨s 25,a 1 (t 21) (t 23),o⟩,⟨s 26,l (s 1) (t 25),o⟩,⟨s 9,.new 59 [N],o⟩,⟨o,S 1 (t 9) (t 26),o⟩]) (q (g [⟨s 27,f 0 (t 9),o⟩,⟨s 28,l o (t 27),o⟩,⟨s 29,n (t 28),o⟩,⟨s 30,m (v (i I 0)),o⟩]) (B 2 (L (q (g [⟨s 31,b .lss (t 30) (t 29),o⟩]) (q (c (t 31) k (x 2)) (q (B 3 (q (g [⟨s 32,a 1 (t 28) (t 30),o⟩,⟨s 33,l o (t 32),o⟩,⟨s 11,m (t 33),o⟩]) (q (g [⟨s 34,m (t 11),o⟩,⟨s 35,n (t 34),o⟩,⟨s 36,m (v (i I 0)),o⟩]) (B 4 (L (q (g [⟨s 37,b .lss (t 36) (t 35),o⟩]) (q (c (t 37) k (x 4)) (q (B 5 (q (g [⟨s 38,m (t 36),o⟩,⟨s 39,a 1 (t 34) (t 36),o⟩,⟨s 40,l o (t 39),o⟩,⟨s 12,m (t 38),o⟩,⟨s 13,m (t 40),o⟩]) (g [⟨s 41,f 2 (t 7),o⟩,⟨s 42,l o (t 41),o⟩,⟨s 43,m (t 13),o⟩,⟨s 44,m (t 0),o⟩,⟨s 45,b .mul (t 43) (t 44),o⟩,⟨s 46,m (t 12),o⟩,⟨s 47,b .add (t 45) (t 46),o⟩,⟨s 48,a 1 (t 42) (t 47),o⟩,⟨o,S 1 (t 48) (v (i .u8 1)),o⟩]))) (g [⟨s 49,b .add (t 36) (v (i I 1)),o⟩,⟨s 36,m (t 49),o⟩]))))))))) (g [⟨s 50,b .add (t 30) (v (i I 1)),o⟩,⟨s 30,m (t 50),o⟩]))))))))) (g [⟨s 51,b .add (t 23) (v (i I 1)),o⟩,⟨s 23,m (t 51),o⟩]))))))) (q (g [⟨s 52,l (s 3) (t 7),o⟩,⟨o,S 3 (t 6) (t 52),o⟩]) R)))),[.cell 6 (some 3)]⟩
def c29 : RFunc := ⟨26,.code (q (g [⟨s 2,.box 24 (t 0),o⟩,⟨s 3,.box 43 (t 1),o⟩,⟨s 4,m (v (w U)),o⟩]) (q (q (g [⟨s 6,f 1 (t 3),o⟩,⟨s 7,l o (t 6),o⟩,⟨s 5,m (t 7),o⟩]) (B 0 (L (q (q (g [⟨s 8,m (t 5),o⟩,⟨s 9,f 2 (t 3),o⟩,⟨s 10,l o (t 9),o⟩,⟨s 11,b .leq (t 8) (t 10),o⟩]) (c (t 11) k (x 0))) (q (B 1 (q (g [⟨s 14,f 2 (t 2),o⟩,⟨s 15,l o (t 14),o⟩,⟨s 16,m (t 5),o⟩,⟨s 17,f 0 (t 2),o⟩,⟨s 18,l o (t 17),o⟩,⟨s 19,b .mul (t 16) (t 18),o⟩,⟨s 20,f 0 (t 3),o⟩,⟨s 21,l o (t 20),o⟩,⟨s 22,b .add (t 19) (t 21),o⟩,⟨s 23,a 1 (t 15) (t 22),o⟩,⟨s 24,l o (t 23),o⟩,⟨s 25,b .eql (t 24) (v (i .u8 1)),o⟩]) (c (t 25) (q (g [⟨s 4,m (v (w T)),o⟩]) R) k))) (g [⟨s 12,m (t 5),o⟩,⟨s 13,b .add (t 12) (v (i I 1)),o⟩,⟨s 5,m (t 13),o⟩])))))) (q (g [⟨s 4,m (v (w U)),o⟩]) R))),[.tmp 4]⟩
def c30 : RFunc := ⟨52,.code (q (g [⟨s 2,.box 24 (t 0),o⟩,⟨s 3,.box 59 (t 1),o⟩,⟨s 4,m (v (w U)),o⟩]) (q (q (g [⟨s 8,f 0 (t 3),o⟩,⟨s 9,l o (t 8),o⟩,⟨s 10,n (t 9),o⟩,⟨s 11,b .neq (t 10) (v (i I 5)),o⟩]) (c (t 11) (q (g [⟨s 4,m (v (w U)),o⟩]) R) k)) (q (q (g [⟨s 5,m (v (i I 0)),o⟩]) (B 0 (L (q (q (g [⟨s 12,m (t 5),o⟩,⟨s 13,b .lss (t 12) (v (i I 5)),o⟩]) (c (t 13) k (x 0))) (q (B 1 (q (G [⟨⟨s 16,l (s 3) (t 2),o⟩,0,1,T⟩,⟨⟨s 17,f 0 (t 3),o⟩,0,0,T⟩,⟨⟨s 18,l o (t 17),o⟩,2,1,T⟩,⟨⟨s 19,m (t 5),o⟩,0,0,T⟩,⟨⟨s 20,a 1 (t 18) (t 19),o⟩,14,0,T⟩,⟨⟨s 21,l o (t 20),o⟩,30,1,T⟩,⟨⟨s 22,C (v (F (J 57) [] [])) [t 16,t 21],o⟩,63,2,U⟩,⟨⟨s 23,.un .not (t 22),o⟩,127,0,U⟩]) (c (t 23) (q (g [⟨s 4,m (v (w U)),o⟩]) R) k))) (g [⟨s 14,m (t 5),o⟩,⟨s 15,b .add (t 14) (v (i I 1)),o⟩,⟨s 5,m (t 15),o⟩])))))) (q (q (g [⟨s 6,m (v (i I 0)),o⟩]) (B 2 (L (q (q (g [⟨s 24,m (t 6),o⟩,⟨s 25,f 0 (t 2),o⟩,⟨s 26,l o (t 25),o⟩,⟨s 27,b .lss (t 24) (t 26),o⟩]) (c (t 27) k (x 2))) (q (B 3 (q (g [⟨s 7,m (v (i I 1)),o⟩]) (B 4 (L (q (q (g [⟨s 30,m (t 7),o⟩,⟨s 31,b .lss (t 30) (v (i I 5)),o⟩]) (c (t 31) k (x 4))) (q (B 5 (q (G [⟨⟨s 34,f 0 (t 3),o⟩,0,0,T⟩,⟨⟨s 35,l o (t 34),o⟩,1,1,T⟩,⟨⟨s 36,m (t 7),o⟩,0,0,T⟩,⟨⟨s 37,a 1 (t 35) (t 36),o⟩,7,0,T⟩,⟨⟨s 38,l o (t 37),o⟩,15,1,T⟩,⟨⟨s 39,m (t 6),o⟩,0,0,T⟩,⟨⟨s 40,a 1 (t 38) (t 39),o⟩,63,0,T⟩,⟨⟨s 41,l o (t 40),o⟩,127,1,T⟩,⟨⟨s 42,f 0 (t 3),o⟩,0,0,T⟩,⟨⟨s 43,l o (t 42),o⟩,256,1,T⟩,⟨⟨s 44,m (t 7),o⟩,0,0,T⟩,⟨⟨s 45,b .sub (t 44) (v (i I 1)),o⟩,1024,0,T⟩,⟨⟨s 46,a 1 (t 43) (t 45),o⟩,3840,0,T⟩,⟨⟨s 47,l o (t 46),o⟩,7936,1,T⟩,⟨⟨s 48,m (t 6),o⟩,0,0,T⟩,⟨⟨s 49,a 1 (t 47) (t 48),o⟩,32512,0,T⟩,⟨⟨s 50,l o (t 49),o⟩,65280,1,T⟩,⟨⟨s 51,b .leq (t 41) (t 50),o⟩,131071,0,T⟩]) (c (t 51) (q (g [⟨s 4,m (v (w U)),o⟩]) R) k))) (g [⟨s 32,m (t 7),o⟩,⟨s 33,b .add (t 32) (v (i I 1)),o⟩,⟨s 7,m (t 33),o⟩]))))))) (g [⟨s 28,m (t 6),o⟩,⟨s 29,b .add (t 28) (v (i I 1)),o⟩,⟨s 6,m (t 29),o⟩])))))) (q (g [⟨s 4,m (v (w T)),o⟩]) R))))),[.tmp 4]⟩
def c31 : RFunc := ⟨6,.code (q (g [⟨s 1,.box 24 (t 0),o⟩,⟨s 2,m (v N),o⟩]) (q (g [⟨s 3,l (s 3) (t 1),o⟩,⟨s 4,C (v (F (J 59) [] [])) [t 3],o⟩,⟨s 5,C (v (F (J 58) [] [])) [t 4],o⟩,⟨s 2,m (t 5),o⟩]) R)),[.tmp 2]⟩
def c32 : RFunc := ⟨11,.code (q (g [⟨s 1,.box 24 (t 0),o⟩,⟨s 2,.new 24 [(i I 0),(i I 0),N],o⟩]) (q (G [⟨⟨s 3,f 0 (t 1),o⟩,0,0,T⟩,⟨⟨s 4,l o (t 3),o⟩,1,1,T⟩,⟨⟨s 5,f 1 (t 1),o⟩,0,0,T⟩,⟨⟨s 6,l o (t 5),o⟩,4,1,T⟩,⟨⟨s 7,f 2 (t 1),o⟩,0,0,T⟩,⟨⟨s 8,l o (t 7),o⟩,16,1,T⟩,⟨⟨s 9,C (v (F (J 60) [] [])) [t 8],o⟩,48,2,U⟩,⟨⟨s 10,.build [(i I 0),(i I 0),N] [(0,1,(t 4)),(1,1,(t 6)),(2,1,(t 9))],o⟩,127,0,U⟩,⟨⟨o,S 3 (t 2) (t 10),o⟩,255,2,U⟩]) R)),[.cell 2 (some 3)]⟩
def c33 : RFunc := ⟨23,.code (q (g [⟨s 6,.new 24 [(i I 0),(i I 0),N],o⟩,⟨s 7,m (v (i I 0)),o⟩]) (q (g [⟨s 11,m (t 1),o⟩,⟨s 12,m (t 0),o⟩,⟨s 13,m (t 2),o⟩,⟨s 14,C (v (F (J 61) [] [])) [t 11,t 12,t 13],o⟩,⟨s 10,m (t 14),o⟩,⟨s 15,e (t 10) 0,o⟩,⟨s 16,e (t 10) 1,o⟩,⟨s 8,.new 24 [(i I 0),(i I 0),N],o⟩,⟨o,S 3 (t 8) (t 15),o⟩,⟨s 9,m (t 16),o⟩]) (q (q (g [⟨s 17,m (t 9),o⟩,⟨s 18,b .neq (t 17) (v (i I 0)),o⟩]) (c (t 18) (q (g [⟨s 19,.build [(i I 0),(i I 0),N] [],o⟩,⟨s 20,m (t 9),o⟩,⟨o,S 3 (t 6) (t 19),o⟩,⟨s 7,m (t 20),o⟩]) R) k)) (q (g [⟨s 21,l (s 3) (t 8),o⟩,⟨s 22,C (v (F (J 59) [] [])) [t 21],o⟩,⟨o,S 3 (t 6) (t 22),o⟩,⟨s 7,m (v (i I 0)),o⟩]) R)))),[.cell 6 (some 3),.tmp 7]⟩
def c34 : RFunc := ⟨108,.code (q (g [⟨s 3,.box 24 (t 0),o⟩,⟨s 4,.box 24 (t 1),o⟩,⟨s 6,.new 24 [(i I 0),(i I 0),N],o⟩,⟨s 7,m (v (i I 0)),o⟩]) (q (q (g [⟨s 15,l (s 3) (t 3),o⟩,⟨s 16,C (v (F (J 13) [] [])) [t 15],o⟩,⟨s 8,m (t 16),o⟩]) (q (g [⟨s 17,m (t 8),o⟩,⟨s 18,b .neq (t 17) (v (i I 0)),o⟩]) (c (t 18) (q (g [⟨s 19,.build [(i I 0),(i I 0),N] [],o⟩,⟨s 20,m (t 8),o⟩,⟨o,S 3 (t 6) (t 19),o⟩,⟨s 7,m (t 20),o⟩]) R) k))) (q (q (g [⟨s 21,l (s 3) (t 4),o⟩,⟨s 22,C (v (F (J 13) [] [])) [t 21],o⟩,⟨s 9,m (t 22),o⟩]) (q (g [⟨s 23,m (t 9),o⟩,⟨s 24,b .neq (t 23) (v (i I 0)),o⟩]) (c (t 24) (q (g [⟨s 25,.build [(i I 0),(i I 0),N] [],o⟩,⟨s 26,m (t 9),o⟩,⟨o,S 3 (t 6) (t 25),o⟩,⟨s 7,m (t 26),o⟩]) R) k))) (q (q (g [⟨s 27,f 0 (t 3),o⟩,⟨s 28,l o (t 27),o⟩,⟨s 29,f 0 (t 4),o⟩,⟨s 30,l o (t 29),o⟩,⟨s 31,b .neq (t 28) (t 30),o⟩,⟨s 32,m (t 31),o⟩,⟨s 33,f 1 (t 3),s (32,U)⟩,⟨s 34,l o (t 33),s (32,U)⟩,⟨s 35,f 1 (t 4),s (32,U)⟩,⟨s 36,l o (t 35),s (32,U)⟩,⟨s 37,b .neq (t 34) (t 36),s (32,U)⟩,⟨s 38,p (t 32) (v (w T)) (t 37),o⟩]) (c (t 38) (q (g [⟨s 39,.build [(i I 0),(i I 0),N] [],o⟩,⟨o,S 3 (t 6) (t 39),o⟩,⟨s 7,m (v (i I 2)),o⟩]) R) k)) (q (g [⟨s 40,f 0 (t 3),o⟩,⟨s 41,l o (t 40),o⟩,⟨s 42,f 1 (t 3),o⟩,⟨s 43,l o (t 42),o⟩,⟨s 44,C (v (F (J 62) [] [])) [t 41,t 43],o⟩,⟨s 10,.new 24 [(i I 0),(i I 0),N],o⟩,⟨o,S 3 (t 10) (t 44),o⟩]) (q (q (g [⟨s 11,m (v (i I 0)),o⟩]) (B 0 (L (q (q (g [⟨s 45,m (t 11),o⟩,⟨s 46,f 1 (t 3),o⟩,⟨s 47,l o (t 46),o⟩,⟨s 48,b .lss (t 45) (t 47),o⟩]) (c (t 48) k (x 0))) (q (B 1 (q (g [⟨s 12,m (v (i I 0)),o⟩]) (B 2 (L (q (q (g [⟨s 51,m (t 12),o⟩,⟨s 52,f 0 (t 3),o⟩,⟨s 53,l o (t 52),o⟩,⟨s 54,b .lss (t 51) (t 53),o⟩]) (c (t 54) k (x 2))) (q (B 3 (q (G [⟨⟨s 57,l (s 3) (t 3),o⟩,0,1,T⟩,⟨⟨s 58,m (t 12),o⟩,0,0,T⟩,⟨⟨s 59,m (t 11),o⟩,0,0,T⟩,⟨⟨s 60,C (v (F (J 63) [] [])) [t 57,t 58,t 59],o⟩,7,2,U⟩,⟨⟨s 61,l (s 3) (t 4),o⟩,0,1,T⟩,⟨⟨s 62,m (t 12),o⟩,0,0,T⟩,⟨⟨s 63,m (t 11),o⟩,0,0,T⟩,⟨⟨s 64,C (v (F (J 63) [] [])) [t 61,t 62,t 63],o⟩,127,2,U⟩,⟨⟨s 13,m (t 60),o⟩,255,0,U⟩,⟨⟨s 14,m (t 64),o⟩,511,0,U⟩]) (q (g [⟨s 65,m (t 2),o⟩,⟨s 66,b .eql (t 65) (v (i I 0)),o⟩,⟨s 67,m (t 66),o⟩,⟨s 68,m (t 13),s (67,T)⟩,⟨s 69,m (t 68),s (67,T)⟩,⟨s 70,m (t 14),s (69,U)⟩,⟨s 71,p (t 69) (v (w T)) (t 70),s (67,T)⟩,⟨s 72,p (t 67) (t 71) (v (w U)),o⟩,⟨s 73,m (t 72),o⟩,⟨s 74,m (t 2),s (73,U)⟩,⟨s 75,b .eql (t 74) (v (i I 1)),s (73,U)⟩,⟨s 76,m (t 75),s (73,U)⟩,⟨s 77,m (t 13),s (76,T)⟩,⟨s 78,p (t 76) (t 77) (v (w U)),s (73,U)⟩,⟨s 79,m (t 78),s (73,U)⟩,⟨s 80,m (t 14),s (79,T)⟩,⟨s 81,p (t 79) (t 80) (v (w U)),s (73,U)⟩,⟨s 82,p (t 73) (v (w T)) (t 81),o⟩,⟨s 83,m (t 82),o⟩,⟨s 84,m (t 2),s (83,U)⟩,⟨s 85,b .eql (t 84) (v (i I 2)),s (83,U)⟩,⟨s 86,m (t 85),s (83,U)⟩,⟨s 87,m (t 13),s (86,T)⟩,⟨s 88,p (t 86) (t 87) (v (w U)),s (83,U)⟩,⟨s 89,m (t 88),s (83,U)⟩,⟨s 90,m (t 14),s (89,T)⟩,⟨s 91,.un .not (t 90),s (89,T)⟩,⟨s 92,p (t 89) (t 91) (v (w U)),s (83,U)⟩,⟨s 93,p (t 83) (v (w T)) (t 92),o⟩,⟨s 94,m (t 93),o⟩,⟨s 95,m (t 2),s (94,U)⟩,⟨s 96,b .eql (t 95) (v (i I 3)),s (94,U)⟩,⟨s 97,m (t 96),s (94,U)⟩,⟨s 98,m (t 13),s (97,T)⟩,⟨s 99,m (t 14),s (97,T)⟩,⟨s 100,.eq T .bool (t 98) (t 99),s (97,T)⟩,⟨s 101,p (t 97) (t 100) (v (w U)),s (94,U)⟩,⟨s 102,p (t 94) (v (w T)) (t 101),o⟩]) (c (t 102) (g [⟨s 103,l (s 3) (t 10),o⟩,⟨s 104,m (t 12),o⟩,⟨s 105,m (t 11),o⟩,⟨s 106,C (v (F (J 64) [] [])) [t 103,t 104,t 105],o⟩]) k)))) (g [⟨s 55,m (t 12),o⟩,⟨s 56,b .add (t 55) (v (i I 1)),o⟩,⟨s 12,m (t 56),o⟩]))))))) (g [⟨s 49,m (t 11),o⟩,⟨s 50,b .add (t 49) (v (i I 1)),o⟩,⟨s 11,m (t 50),o⟩])))))) (q (g [⟨s 107,l (s 3) (t 10),o⟩,⟨o,S 3 (t 6) (t 107),o⟩,⟨s 7,m (v (i I 0)),o⟩]) R))))))),[.cell 6 (some 3),.tmp 7]⟩
def c35 : RFunc := ⟨19,.code (q (g [⟨s 1,.box 68 (t 0),o⟩,⟨s 2,m (v (i I 0)),o⟩]) (q (g [⟨s 3,m (v (i I 0)),o⟩]) (q (q (g [⟨s 6,l (s 641) (t 1),o⟩,⟨s 7,m (v (i I 0)),o⟩]) (B 0 (L (q (g [⟨s 8,b .lss (t 7) (v (i I 641)),o⟩]) (q (c (t 8) k (x 0)) (q (B 1 (q (g [⟨s 9,m (t 7),o⟩,⟨s 10,.indexA 641 1 U (t 6) (t 7),o⟩,⟨s 4,m (t 9),o⟩,⟨s 5,m (t 10),o⟩]) (q (g [⟨s 11,m (t 5),o⟩,⟨s 12,m (t 3),o⟩,⟨s 13,.idxA 641 1 (t 1) (t 12),o⟩,⟨s 14,l o (t 13),o⟩,⟨s 15,b .gtr (t 11) (t 14),o⟩]) (c (t 15) (g [⟨s 16,m (t 4),o⟩,⟨s 3,m (t 16),o⟩]) k)))) (g [⟨s 17,b .add (t 7) (v (i I 1)),o⟩,⟨s 7,m (t 17),o⟩]))))))) (q (g [⟨s 18,m (t 3),o⟩,⟨s 2,m (t 18),o⟩]) R)))),[.tmp 2]⟩
def c36 : RFunc := ⟨19,.code (q (g [⟨s 4,m (v (w U)),o⟩]) (q (g [⟨s 5,m (t 0),o⟩,⟨s 6,b .geq (t 5) (v (i I 0)),o⟩,⟨s 7,m (t 6),o⟩,⟨s 8,m (t 0),s (7,T)⟩,⟨s 9,b .leq (t 8) (v (i I 640)),s (7,T)⟩,⟨s 10,p (t 7) (t 9) (v (w U)),o⟩,⟨s 11,m (t 10),o⟩,⟨s 12,m (t 1),s (11,T)⟩,⟨s 13,b .geq (t 12) (v (i I 0)),s (11,T)⟩,⟨s 14,p (t 11) (t 13) (v (w U)),o⟩,⟨s 15,m (t 14),o⟩,⟨s 16,m (t 1),s (15,T)⟩,⟨s 17,b .leq (t 16) (v (i I 640)),s (15,T)⟩,⟨s 18,p (t 15) (t 17) (v (w U)),o⟩,⟨s 4,m (t 18),o⟩]) R)),[.tmp 4]⟩
def c37 : RFunc := ⟨26,.code (q (g [⟨s 4,m (v (w U)),o⟩]) (q (q (g [⟨s 6,m (t 0),o⟩,⟨s 7,n (t 6),o⟩,⟨s 8,m (t 1),o⟩,⟨s 9,n (t 8),o⟩,⟨s 10,b .neq (t 7) (t 9),o⟩]) (c (t 10) (q (g [⟨s 4,m (v (w U)),o⟩]) R) k)) (q (q (g [⟨s 5,m (v (i I 0)),o⟩]) (B 0 (L (q (q (g [⟨s 11,m (t 5),o⟩,⟨s 12,m (t 0),o⟩,⟨s 13,n (t 12),o⟩,⟨s 14,b .lss (t 11) (t 13),o⟩]) (c (t 14) k (x 0))) (q (B 1 (q (G [⟨⟨s 17,m (t 0),o⟩,0,0,T⟩,⟨⟨s 18,m (t 5),o⟩,0,0,T⟩,⟨⟨s 19,a 1 (t 17) (t 18),o⟩,3,0,T⟩,⟨⟨s 20,l o (t 19),o⟩,7,1,T⟩,⟨⟨s 21,m (t 1),o⟩,0,0,T⟩,⟨⟨s 22,m (t 5),o⟩,0,0,T⟩,⟨⟨s 23,a 1 (t 21) (t 22),o⟩,48,0,T⟩,⟨⟨s 24,l o (t 23),o⟩,112,1,T⟩,⟨⟨s 25,b .neq (t 20) (t 24),o⟩,255,0,T⟩]) (c (t 25) (q (g [⟨s 4,m (v (w U)),o⟩]) R) k))) (g [⟨s 15,m (t 5),o⟩,⟨s 16,b .add (t 15) (v (i I 1)),o⟩,⟨s 5,m (t 16),o⟩])))))) (q (g [⟨s 4,m (v (w T)),o⟩]) R)))),[.tmp 4]⟩
def c38 : RFunc := ⟨10,.code (q (g [⟨s 2,.box 59 (t 0),o⟩,⟨s 3,.box 59 (t 1),o⟩,⟨s 4,m (v (w U)),o⟩]) (q (g [⟨s 5,f 0 (t 2),o⟩,⟨s 6,l o (t 5),o⟩,⟨s 7,f 0 (t 3),o⟩,⟨s 8,l o (t 7),o⟩,⟨s 9,C (v (F (J 65) [] [])) [t 6,t 8],o⟩,⟨s 4,m (t 9),o⟩]) R)),[.tmp 4]⟩
def c39 : RFunc := ⟨23,.code (q (g [⟨s 1,.box 24 (t 0),o⟩,⟨s 2,m (v (i I 0)),o⟩]) (q (q (g [⟨s 3,f 0 (t 1),o⟩,⟨s 4,l o (t 3),o⟩,⟨s 5,f 1 (t 1),o⟩,⟨s 6,l o (t 5),o⟩,⟨s 7,f 2 (t 1),o⟩,⟨s 8,l o (t 7),o⟩,⟨s 9,n (t 8),o⟩,⟨s 10,C (v (F (J 66) [] [])) [t 4,t 6,t 9],o⟩,⟨s 11,.un .not (t 10),o⟩]) (c (t 11) (q (g [⟨s 2,m (v (i I 2)),o⟩]) R) k)) (q (q (G [⟨⟨s 12,f 2 (t 1),o⟩,0,0,T⟩,⟨⟨s 13,l o (t 12),o⟩,1,1,T⟩,⟨⟨s 14,.buildSlice 5 1 1 [(i .u8 0)] [(0,1,(v (i .u8 0)))],o⟩,0,3,T⟩,⟨⟨s 15,C (v (F (J 67) [] [])) [t 13,t 14],o⟩,7,2,U⟩,⟨⟨s 16,l (s 3) (t 1),o⟩,0,1,T⟩,⟨⟨s 17,C (v (F (J 68) [] [])) [t 16],o⟩,31,2,U⟩,⟨⟨s 18,b .add (t 15) (t 17),o⟩,63,0,U⟩,⟨⟨s 19,f 2 (t 1),o⟩,0,0,T⟩,⟨⟨s 20,l o (t 19),o⟩,128,1,T⟩,⟨⟨s 21,n (t 20),o⟩,384,0,T⟩,⟨⟨s 22,b .neq (t 18) (t 21),o⟩,1023,0,U⟩]) (c (t 22) (q (g [⟨s 2,m (v (i I 3)),o⟩]) R) k)) (q (g [⟨s 2,m (v (i I 0)),o⟩]) R)))),[.tmp 2]⟩
def c40 : RFunc := ⟨45,.code (q (g [⟨s 1,.box 24 (t 0),o⟩,⟨s 2,.new 74 [(i I 0),(i I 0),N,N],o⟩]) (q (G [⟨⟨s 6,f 0 (t 1),o⟩,0,0,T⟩,⟨⟨s 7,l o (t 6),o⟩,1,1,T⟩,⟨⟨s 8,f 1 (t 1),o⟩,0,0,T⟩,⟨⟨s 9,l o (t 8),o⟩,4,1,T⟩,⟨⟨s 10,f 2 (t 1),o⟩,0,0,T⟩,⟨⟨s 11,l o (t 10),o⟩,16,1,T⟩,⟨⟨s 12,n (t 11),o⟩,48,0,T⟩,⟨⟨s 13,.makeSlice 3 [(i I 0)] 8 (t 12) (t 12),o⟩,112,3,T⟩,⟨⟨s 14,f 2 (t 1),o⟩,0,0,T⟩,⟨⟨s 15,l o (t 14),o⟩,256,1,T⟩,⟨⟨s 16,n (t 15),o⟩,768,0,T⟩,⟨⟨s 17,.makeSlice 3 [(i I 0)] 8 (t 16) (t 16),o⟩,1792,3,T⟩,⟨⟨s 18,.build [(i I 0),(i I 0),N,N] [(0,1,(t 7)),(1,1,(t 9)),(2,1,(t 13)),(3,1,(t 17))],o⟩,4095,0,T⟩,⟨⟨s 3,.new 74 [(i I 0),(i I 0),N,N],o⟩,0,3,T⟩,⟨⟨o,S 4 (t 3) (t 18),o⟩,16383,2,U⟩]) (q (q (g [⟨s 19,f 0 (t 3),o⟩,⟨s 20,l o (t 19),o⟩,⟨s 21,m (v (i I 0)),o⟩]) (B 0 (L (q (g [⟨s 22,b .lss (t 21) (t 20),o⟩]) (q (c (t 22) k (x 0)) (q (B 1 (q (g [⟨s 23,m (t 21),o⟩,⟨s 4,m (t 23),o⟩]) (q (g [⟨s 24,f 1 (t 3),o⟩,⟨s 25,l o (t 24),o⟩,⟨s 26,m (v (i I 0)),o⟩]) (B 2 (L (q (g [⟨s 27,b .lss (t 26) (t 25),o⟩]) (q (c (t 27) k (x 2)) (q (B 3 (q (g [⟨s 28,m (t 26),o⟩,⟨s 5,m (t 28),o⟩]) (G [⟨⟨s 29,f 2 (t 3),o⟩,0,0,T⟩,⟨⟨s 30,l o (t 29),o⟩,1,1,T⟩,⟨⟨s 31,m (t 4),o⟩,0,0,T⟩,⟨⟨s 32,f 1 (t 3),o⟩,0,0,T⟩,⟨⟨s 33,l o (t 32),o⟩,8,1,T⟩,⟨⟨s 34,b .mul (t 31) (t 33),o⟩,28,0,T⟩,⟨⟨s 35,m (t 5),o⟩,0,0,T⟩,⟨⟨s 36,b .add (t 34) (t 35),o⟩,124,0,T⟩,⟨⟨s 37,l (s 3) (t 1),o⟩,0,1,T⟩,⟨⟨s 38,m (t 4),o⟩,0,0,T⟩,⟨⟨s 39,m (t 5),o⟩,0,0,T⟩,⟨⟨s 40,C (v (F (J 48) [] [])) [t 37,t 38,t 39],o⟩,1792,2,U⟩,⟨⟨s 41,a 1 (t 30) (t 36),o⟩,4095,0,T⟩,⟨⟨o,S 1 (t 41) (t 40),o⟩,8191,2,U⟩]))) (g [⟨s 42,b .add (t 26) (v (i I 1)),o⟩,⟨s 26,m (t 42),o⟩]))))))))) (g [⟨s 43,b .add (t 21) (v (i I 1)),o⟩,⟨s 21,m (t 43),o⟩]))))))) (q (g [⟨s 44,l (s 4) (t 3),o⟩,⟨o,S 4 (t 2) (t 44),o⟩]) R)))),[.cell 2 (some 4)]⟩
def c41 : RFunc := ⟨34,.code (q (g [⟨s 1,.box 74 (t 0),o⟩,⟨s 2,m (v (i I 0)),o⟩]) (q (g [⟨s 7,.mkFunc (J 69) [] [t 1],o⟩,⟨s 3,m (t 7),o⟩]) (q (q (g [⟨s 8,f 0 (t 1),o⟩,⟨s 9,l o (t 8),o⟩,⟨s 10,b .sub (t 9) (v (i I 1)),o⟩,⟨s 4,m (t 10),o⟩]) (B 0 (L (q (q (g [⟨s 11,m (t 4),o⟩,⟨s 12,b .geq (t 11) (v (i I 0)),o⟩]) (c (t 12) k (x 0))) (q (B 1 (q (g [⟨s 15,l (s 4) (t 1),o⟩,⟨s 16,m (t 4),o⟩,⟨s 17,C (v (F (J 71) [] [])) [t 15,t 16],o⟩,⟨s 5,m (t 17),o⟩]) (q (g [⟨s 18,m (t 5),o⟩,⟨s 19,n (t 18),o⟩,⟨s 20,m (v (i I 0)),o⟩]) (B 2 (L (q (g [⟨s 21,b .lss (t 20) (t 19),o⟩]) (q (c (t 21) k (x 2)) (q (B 3 (q (g [⟨s 22,m (t 20),o⟩,⟨s 6,m (t 22),o⟩]) (g [⟨s 23,m (t 5),o⟩,⟨s 24,m (t 6),o⟩,⟨s 25,m (t 3),o⟩,⟨s 26,m (t 4),o⟩,⟨s 27,m (t 6),o⟩,⟨s 28,C (t 25) [t 26,t 27],o⟩,⟨s 29,a 1 (t 23) (t 24),o⟩,⟨o,S 1 (t 29) (t 28),o⟩]))) (g [⟨s 30,b .add (t 20) (v (i I 1)),o⟩,⟨s 20,m (t 30),o⟩]))))))))) (g [⟨s 13,m (t 4),o⟩,⟨s 14,b .sub (t 13) (v (i I 1)),o⟩,⟨s 4,m (t 14),o⟩])))))) (q (g [⟨s 31,l (s 4) (t 1),o⟩,⟨s 32,C (v (F (J 71) [] [])) [t 31,(v (i I 0))],o⟩,⟨s 33,C (v (F (J 72) [] [])) [t 32],o⟩,⟨s 2,m (t 33),o⟩]) R)))),[.tmp 2]⟩
def c42 : RFunc := ⟨39,.code (q (g [⟨s 1,.box 74 (t 0),o⟩,⟨s 2,m (v N),o⟩]) (q (g [⟨s 6,l (s 4) (t 1),o⟩,⟨s 7,C (v (F (J 71) [] [])) [t 6,(v (i I 0))],o⟩,⟨s 3,m (t 7),o⟩]) (q (g [⟨s 8,f 0 (t 1),o⟩,⟨s 9,l o (t 8),o⟩,⟨s 10,.makeSlice 3 [(i I 0)] 8 (t 9) (t 9),o⟩,⟨s 4,m (t 10),o⟩]) (q (g [⟨s 11,m (t 4),o⟩,⟨s 12,m (t 3),o⟩,⟨s 13,m (t 3),o⟩,⟨s 14,C (v (F (J 72) [] [])) [t 13],o⟩,⟨s 15,C (v (F (J 73) [] [])) [t 12,t 14],o⟩,⟨s 16,a 1 (t 11) (v (i I 0)),o⟩,⟨o,S 1 (t 16) (t 15),o⟩]) (q (q (g [⟨s 5,m (v (i I 1)),o⟩]) (B 0 (L (q (q (g [⟨s 17,m (t 5),o⟩,⟨s 18,f 0 (t 1),o⟩,⟨s 19,l o (t 18),o⟩,⟨s 20,b .lss (t 17) (t 19),o⟩]) (c (t 20) k (x 0))) (q (B 1 (G [⟨⟨s 24,m (t 4),o⟩,0,0,T⟩,⟨⟨s 25,m (t 5),o⟩,0,0,T⟩,⟨⟨s 26,l (s 4) (t 1),o⟩,0,1,T⟩,⟨⟨s 27,m (t 5),o⟩,0,0,T⟩,⟨⟨s 28,C (v (F (J 71) [] [])) [t 26,t 27],o⟩,12,2,U⟩,⟨⟨s 29,m (t 4),o⟩,0,0,T⟩,⟨⟨s 30,m (t 5),o⟩,0,0,T⟩,⟨⟨s 31,b .sub (t 30) (v (i I 1)),o⟩,64,0,T⟩,⟨⟨s 32,a 1 (t 29) (t 31),o⟩,224,0,T⟩,⟨⟨s 33,l o (t 32),o⟩,480,1,T⟩,⟨⟨s 34,C (v (F (J 70) [] [])) [t 28,t 33],o⟩,1020,2,U⟩,⟨⟨s 23,m (t 34),o⟩,2044,0,U⟩,⟨⟨s 35,e (t 23) 0,o⟩,4092,0,U⟩,⟨⟨s 36,e (t 23) 1,o⟩,4092,0,U⟩,⟨⟨s 37,a 1 (t 24) (t 25),o⟩,8191,0,T⟩,⟨⟨o,S 1 (t 37) (t 35),o⟩,24575,2,U⟩])) (g [⟨s 21,m (t 5),o⟩,⟨s 22,b .add (t 21) (v (i I 1)),o⟩,⟨s 5,m (t 22),o⟩])))))) (q (g [⟨s 38,m (t 4),o⟩,⟨s 2,m (t 38),o⟩]) R)))))),[.tmp 2]⟩
def c43 : RFunc := ⟨37,.code (q (g [⟨s 2,.box 74 (t 0),o⟩]) (q (g [⟨s 7,m (t 1),o⟩,⟨s 8,n (t 7),o⟩,⟨s 9,m (v (i I 0)),o⟩]) (B 0 (L (q (g [⟨s 10,b .lss (t 9) (t 8),o⟩]) (q (c (t 10) k (x 0)) (q (B 1 (q (g [⟨s 11,m (t 9),o⟩,⟨s 12,a 1 (t 7) (t 9),o⟩,⟨s 13,l o (t 12),o⟩,⟨s 4,m (t 11),o⟩,⟨s 5,m (t 13),o⟩]) (q (g [⟨s 14,m (t 5),o⟩,⟨s 15,b .sub (t 14) (v (i I 2)),o⟩,⟨s 16,.minmax T [t 15,(v (i I 0))],o⟩,⟨s 6,m (t 16),o⟩]) (B 2 (L (q (q (g [⟨s 17,m (t 6),o⟩,⟨s 18,m (t 5),o⟩,⟨s 19,b .add (t 18) (v (i I 2)),o⟩,⟨s 20,f 1 (t 2),o⟩,⟨s 21,l o (t 20),o⟩,⟨s 22,b .sub (t 21) (v (i I 1)),o⟩,⟨s 23,.minmax U [t 19,t 22],o⟩,⟨s 24,b .leq (t 17) (t 23),o⟩]) (c (t 24) k (x 2))) (q (B 3 (g [⟨s 27,f 2 (t 2),o⟩,⟨s 28,l o (t 27),o⟩,⟨s 29,m (t 4),o⟩,⟨s 30,f 1 (t 2),o⟩,⟨s 31,l o (t 30),o⟩,⟨s 32,b .mul (t 29) (t 31),o⟩,⟨s 33,m (t 6),o⟩,⟨s 34,b .add (t 32) (t 33),o⟩,⟨s 35,a 1 (t 28) (t 34),o⟩,⟨o,S 1 (t 35) (v (i I 1920)),o⟩])) (g [⟨s 25,m (t 6),o⟩,⟨s 26,b .add (t 25) (v (i I 1)),o⟩,⟨s 6,m (t 26),o⟩])))))))) (g [⟨s 36,b .add (t 9) (v (i I 1)),o⟩,⟨s 9,m (t 36),o⟩])))))))),[]⟩
def c44 : RFunc := ⟨14,.code (q (g [⟨s 5,m (t 0),o⟩,⟨s 6,n (t 5),o⟩,⟨s 4,m (t 6),o⟩]) (g [⟨s 7,m (t 0),o⟩,⟨s 8,m (t 4),o⟩,⟨s 9,m (t 4),o⟩,⟨s 10,.convInt .u64 (t 9),o⟩,⟨s 11,C (v (F (J 75) [] [])) [t 10],o⟩,⟨s 12,m (t 1),o⟩,⟨s 13,C (v (F (J 74) [] [])) [t 7,(v (i I 0)),t 8,t 11,t 12],o⟩])),[]⟩
def c47 : RFunc := ⟨55,.code (q (g [⟨s 2,.box 24 (t 0),o⟩,⟨s 4,m (v (w U)),o⟩]) (q (q (g [⟨s 7,m (t 1),o⟩,⟨s 8,n (t 7),o⟩,⟨s 9,b .eql (t 8) (v (i I 0)),o⟩,⟨s 10,m (t 9),o⟩,⟨s 11,m (t 1),s (10,U)⟩,⟨s 12,n (t 11),s (10,U)⟩,⟨s 13,f 0 (t 2),s (10,U)⟩,⟨s 14,l o (t 13),s (10,U)⟩,⟨s 15,b .neq (t 12) (t 14),s (10,U)⟩,⟨s 16,p (t 10) (v (w T)) (t 15),o⟩]) (c (t 16) (q (g [⟨s 4,m (v (w U)),o⟩]) R) k)) (q (q (g [⟨s 17,m (t 1),o⟩,⟨s 18,n (t 17),o⟩,⟨s 19,m (v (i I 0)),o⟩]) (B 0 (L (q (g [⟨s 20,b .lss (t 19) (t 18),o⟩]) (q (c (t 20) k (x 0)) (q (B 1 (q (g [⟨s 21,m (t 19),o⟩,⟨s 22,a 1 (t 17) (t 19),o⟩,⟨s 23,l o (t 22),o⟩,⟨s 5,m (t 21),o⟩,⟨s 6,m (t 23),o⟩]) (q (q (g [⟨s 24,m (t 6),o⟩,⟨s 25,b .lss (t 24) (v (i I 0)),o⟩,⟨s 26,m (t 25),o⟩,⟨s 27,m (t 6),s (26,U)⟩,⟨s 28,f 1 (t 2),s (26,U)⟩,⟨s 29,l o (t 28),s (26,U)⟩,⟨s 30,b .geq (t 27) (t 29),s (26,U)⟩,⟨s 31,p (t 26) (v (w T)) (t 30),o⟩]) (c (t 31) (q (g [⟨s 4,m (v (w U)),o⟩]) R) k)) (q (g [⟨s 32,m (t 5),o⟩,⟨s 33,b .gtr (t 32) (v (i I 0)),o⟩,⟨s 34,m (t 33),o⟩,⟨s 35,m (t 6),s (34,T)⟩,⟨s 36,m (t 1),s (34,T)⟩,⟨s 37,m (t 5),s (34,T)⟩,⟨s 38,b .sub (t 37) (v (i I 1)),s (34,T)⟩,⟨s 39,a 1 (t 36) (t 38),s (34,T)⟩,⟨s 40,l o (t 39),s (34,T)⟩,⟨s 41,b .sub (t 40) (v (i I 1)),s (34,T)⟩,⟨s 42,b .lss (t 35) (t 41),s (34,T)⟩,⟨s 43,m (t 42),s (34,T)⟩,⟨s 44,m (t 6),s (43,U)⟩,⟨s 45,m (t 1),s (43,U)⟩,⟨s 46,m (t 5),s (43,U)⟩,⟨s 47,b .sub (t 46) (v (i I 1)),s (43,U)⟩,⟨s 48,a 1 (t 45) (t 47),s (43,U)⟩,⟨s 49,l o (t 48),s (43,U)⟩,⟨s 50,b .add (t 49) (v (i I 1)),s (43,U)⟩,⟨s 51,b .gtr (t 44) (t 50),s (43,U)⟩,⟨s 52,p (t 43) (v (w T)) (t 51),s (34,T)⟩,⟨s 53,p (t 34) (t 52) (v (w U)),o⟩]) (c (t 53) (q (g [⟨s 4,m (v (w U)),o⟩]) R) k))))) (g [⟨s 54,b .add (t 19) (v (i I 1)),o⟩,⟨s 19,m (t 54),o⟩]))))))) (q (g [⟨s 4,m (v (w T)),o⟩]) R)))),[.tmp 4]⟩
def c48 : RFunc := ⟨18,.code (q (g [⟨s 3,.box 24 (t 0),o⟩,⟨s 6,m (v (i I 0)),o⟩]) (q (q (g [⟨s 7,f 2 (t 3),o⟩,⟨s 8,l o (t 7),o⟩,⟨s 9,m (t 2),o⟩,⟨s 10,f 0 (t 3),o⟩,⟨s 11,l o (t 10),o⟩,⟨s 12,b .mul (t 9) (t 11),o⟩,⟨s 13,m (t 1),o⟩,⟨s 14,b .add (t 12) (t 13),o⟩,⟨s 15,a 1 (t 8) (t 14),o⟩,⟨s 16,l o (t 15),o⟩,⟨s 17,b .eql (t 16) (v (i .u8 1)),o⟩]) (c (t 17) (q (g [⟨s 6,m (v (i I 0)),o⟩]) R) k)) (q (g [⟨s 6,m (v (i I 2)),o⟩]) R))),[.tmp 6]⟩
def c49 : RFunc := ⟨8,.code (q (g [⟨s 4,m (v (i I 0)),o⟩]) (q (q (g [⟨s 5,m (t 0),o⟩,⟨s 6,m (t 1),o⟩,⟨s 7,b .eql (t 5) (t 6),o⟩]) (c (t 7) (q (g [⟨s 4,m (v (i I 0)),o⟩]) R) k)) (q (g [⟨s 4,m (v (i I 1)),o⟩]) R))),[.tmp 4]⟩
def c50 : RFunc := ⟨78,.code (q (g [⟨s 2,m (v (w U)),o⟩]) (q (g [⟨s 12,m (t 0),o⟩,⟨s 13,a 1 (t 12) (v (i I 0)),o⟩,⟨s 14,l o (t 13),o⟩,⟨s 15,n (t 14),o⟩,⟨s 3,m (t 15),o⟩]) (q (q (g [⟨s 16,m (t 3),o⟩,⟨s 17,b .eql (t 16) (v (i I 0)),o⟩]) (c (t 17) (q (g [⟨s 2,m (v (w U)),o⟩]) R) k)) (q (g [⟨s 4,m (v (i I 64)),o⟩,⟨s 5,m (v (i I 2)),o⟩]) (q (q (g [⟨s 18,m (t 0),o⟩,⟨s 19,.sliceS 1 (t 18) (s (v (i I 1))) o o,o⟩,⟨s 20,n (t 19),o⟩,⟨s 21,m (v (i I 0)),o⟩]) (B 0 (L (q (g [⟨s 22,b .lss (t 21) (t 20),o⟩]) (q (c (t 22) k (x 0)) (q (B 1 (q (g [⟨s 23,m (t 21),o⟩,⟨s 24,a 1 (t 19) (t 21),o⟩,⟨s 25,l o (t 24),o⟩,⟨s 6,m (t 23),o⟩,⟨s 7,m (t 25),o⟩]) (q (g [⟨s 26,m (t 0),o⟩,⟨s 27,m (t 6),o⟩,⟨s 28,a 1 (t 26) (t 27),o⟩,⟨s 29,l o (t 28),o⟩,⟨s 8,m (t 29),o⟩]) (q (q (g [⟨s 30,m (t 7),o⟩,⟨s 31,n (t 30),o⟩,⟨s 32,m (t 3),o⟩,⟨s 33,b .neq (t 31) (t 32),o⟩]) (c (t 33) (q (g [⟨s 2,m (v (w U)),o⟩]) R) k)) (q (g [⟨s 34,m (t 3),o⟩,⟨s 35,b .sub (t 34) (v (i I 1)),o⟩,⟨s 36,.build [(i I 0),(i I 0)] [(0,1,(v (i I 0))),(1,1,(t 35))],o⟩,⟨s 37,m (v (i I 0)),o⟩]) (B 2 (L (q (g [⟨s 38,b .lss (t 37) (v (i I 2)),o⟩]) (q (c (t 38) k (x 2)) (q (B 3 (q (g [⟨s 39,.indexA 2 1 U (t 36) (t 37),o⟩,⟨s 10,m (t 39),o⟩]) (q (G [⟨⟨s 40,m (t 7),o⟩,0,0,T⟩,⟨⟨s 41,m (t 10),o⟩,0,0,T⟩,⟨⟨s 42,a 1 (t 40) (t 41),o⟩,3,0,T⟩,⟨⟨s 43,l o (t 42),o⟩,7,1,T⟩,⟨⟨s 44,m (t 8),o⟩,0,0,T⟩,⟨⟨s 45,m (t 10),o⟩,0,0,T⟩,⟨⟨s 46,a 1 (t 44) (t 45),o⟩,48,0,T⟩,⟨⟨s 47,l o (t 46),o⟩,112,1,T⟩,⟨⟨s 48,b .sub (t 43) (t 47),o⟩,255,0,T⟩,⟨⟨s 11,m (t 48),o⟩,511,0,T⟩]) (q (q (G [⟨⟨s 49,m (t 7),o⟩,0,0,T⟩,⟨⟨s 50,m (t 10),o⟩,0,0,T⟩,⟨⟨s 51,a 1 (t 49) (t 50),o⟩,3,0,T⟩,⟨⟨s 52,l o (t 51),o⟩,7,1,T⟩,⟨⟨s 53,m (t 8),o⟩,0,0,T⟩,⟨⟨s 54,m (t 10),o⟩,0,0,T⟩,⟨⟨s 55,a 1 (t 53) (t 54),o⟩,48,0,T⟩,⟨⟨s 56,l o (t 55),o⟩,112,1,T⟩,⟨⟨s 57,b .lss (t 52) (t 56),o⟩,255,0,T⟩,⟨⟨s 58,m (t 57),o⟩,511,0,T⟩,⟨⟨s 59,m (t 11),s (58,U)⟩,1023,0,T⟩,⟨⟨s 60,b .lss (t 59) (v (i I 2)),s (58,U)⟩,2047,0,T⟩,⟨⟨s 61,p (t 58) (v (w T)) (t 60),o⟩,4095,0,T⟩,⟨⟨s 62,m (t 61),o⟩,8191,0,T⟩,⟨⟨s 63,m (t 11),s (62,U)⟩,16383,0,T⟩,⟨⟨s 64,b .gtr (t 63) (v (i I 64)),s (62,U)⟩,32767,0,T⟩,⟨⟨s 65,p (t 62) (v (w T)) (t 64),o⟩,65535,0,T⟩]) (c (t 65) (q (g [⟨s 2,m (v (w U)),o⟩]) R) k)) (g [⟨s 66,m (t 4),o⟩,⟨s 67,m (t 11),o⟩,⟨s 68,.minmax U [t 66,t 67],o⟩,⟨s 69,m (t 5),o⟩,⟨s 70,m (t 11),o⟩,⟨s 71,.minmax T [t 69,t 70],o⟩,⟨s 4,m (t 68),o⟩,⟨s 5,m (t 71),o⟩]))))) (g [⟨s 72,b .add (t 37) (v (i I 1)),o⟩,⟨s 37,m (t 72),o⟩]))))))))))) (g [⟨s 73,b .add (t 21) (v (i I 1)),o⟩,⟨s 21,m (t 73),o⟩]))))))) (q (g [⟨s 74,m (t 5),o⟩,⟨s 75,m (t 4),o⟩,⟨s 76,b .sub (t 74) (t 75),o⟩,⟨s 77,b .leq (t 76) (v (i I 2)),o⟩,⟨s 2,m (t 77),o⟩]) R)))))),[.tmp 2]⟩
def c51 : RFunc := ⟨21,.code (q (g [⟨s 2,.new 59 [N],o⟩]) (q (g [⟨s 3,.new 59 [N],o⟩]) (q (q (g [⟨s 6,m (t 0),o⟩,⟨s 7,n (t 6),o⟩,⟨s 8,m (v (i I 0)),o⟩]) (B 0 (L (q (g [⟨s 9,b .lss (t 8) (t 7),o⟩]) (q (c (t 9) k (x 0)) (q (B 1 (q (g [⟨s 10,a 1 (t 6) (t 8),o⟩,⟨s 11,l o (t 10),o⟩,⟨s 5,m (t 11),o⟩]) (G [⟨⟨s 12,f 0 (t 3),o⟩,0,0,T⟩,⟨⟨s 13,l o (t 12),o⟩,1,1,T⟩,⟨⟨s 14,m (t 5),o⟩,0,0,T⟩,⟨⟨s 15,C (v (F (J 77) [] [])) [t 14],o⟩,4,2,U⟩,⟨⟨s 16,.buildSlice 53 1 1 [N] [(0,1,(t 15))],o⟩,12,2,U⟩,⟨⟨s 17,.append 53 1 24 (t 13) (t 16),o⟩,31,2,U⟩,⟨⟨s 18,f 0 (t 3),o⟩,63,0,T⟩,⟨⟨o,S 1 (t 18) (t 17),o⟩,127,2,U⟩]))) (g [⟨s 19,b .add (t 8) (v (i I 1)),o⟩,⟨s 8,m (t 19),o⟩]))))))) (q (g [⟨s 20,l (s 1) (t 3),o⟩,⟨o,S 1 (t 2) (t 20),o⟩]) R)))),[.cell 2 (some 1)]⟩
def c52 : RFunc := ⟨20,.code (q (g [⟨s 2,m (v N),o⟩]) (q (g [⟨s 3,m (v N),o⟩]) (q (q (g [⟨s 4,m (v (i I 0)),o⟩]) (B 0 (L (q (q (g [⟨s 5,m (t 4),o⟩,⟨s 6,m (t 0),o⟩,⟨s 7,n (t 6),o⟩,⟨s 8,b .lss (t 5) (t 7),o⟩]) (c (t 8) k (x 0))) (q (B 1 (g [⟨s 11,m (t 3),o⟩,⟨s 12,m (t 0),o⟩,⟨s 13,m (t 4),o⟩,⟨s 14,a 1 (t 12) (t 13),o⟩,⟨s 15,l o (t 14),o⟩,⟨s 16,C (v (F (J 78) [] [])) [t 15],o⟩,⟨s 17,.buildSlice 53 1 1 [N] [(0,1,(t 16))],o⟩,⟨s 18,.append 53 1 24 (t 11) (t 17),o⟩,⟨s 3,m (t 18),o⟩])) (g [⟨s 9,m (t 4),o⟩,⟨s 10,b .add (t 9) (v (i I 1)),o⟩,⟨s 4,m (t 10),o⟩])))))) (q (g [⟨s 19,m (t 3),o⟩,⟨s 2,m (t 19),o⟩]) R)))),[.tmp 2]⟩
def c53 : RFunc := ⟨8,.code (q (g [⟨s 3,.box 3 (t 0),o⟩,⟨s 4,.box 3 (t 1),o⟩,⟨s 5,.box 70 (t 2),o⟩,⟨s 6,m (v .nfunc),o⟩]) (q (g [⟨s 7,.mkFunc (J 79) [] [t 3,t 4,t 5],o⟩,⟨s 6,m (t 7),o⟩]) R)),[.tmp 6]⟩
def c54 : RFunc := ⟨10,.code (q (g [⟨s 5,m (v (w U)),o⟩]) (q (g [⟨s 6,l (s 3) (t 2),o⟩,⟨s 7,m (t 0),o⟩,⟨s 8,m (t 1),o⟩,⟨s 9,C (v (F (J 55) [] [])) [t 6,t 7,t 8],o⟩,⟨s 5,m (t 9),o⟩]) R)),[.tmp 5]⟩
def c55 : RFunc := ⟨38,.code (q (g [⟨s 3,.box 24 (t 0),o⟩,⟨s 6,m (v (w U)),o⟩]) (q (g [⟨s 7,m (t 1),o⟩,⟨s 8,b .geq (t 7) (v (i I 0)),o⟩,⟨s 9,m (t 8),o⟩,⟨s 10,m (t 1),s (9,T)⟩,⟨s 11,f 0 (t 3),s (9,T)⟩,⟨s 12,l o (t 11),s (9,T)⟩,⟨s 13,b .lss (t 10) (t 12),s (9,T)⟩,⟨s 14,p (t 9) (t 13) (v (w U)),o⟩,⟨s 15,m (t 14),o⟩,⟨s 16,m (t 2),s (15,T)⟩,⟨s 17,b .geq (t 16) (v (i I 0)),s (15,T)⟩,⟨s 18,p (t 15) (t 17) (v (w U)),o⟩,⟨s 19,m (t 18),o⟩,⟨s 20,m (t 2),s (19,T)⟩,⟨s 21,f 1 (t 3),s (19,T)⟩,⟨s 22,l o (t 21),s (19,T)⟩,⟨s 23,b .lss (t 20) (t 22),s (19,T)⟩,⟨s 24,p (t 19) (t 23) (v (w U)),o⟩,⟨s 25,m (t 24),o⟩,⟨s 26,f 2 (t 3),s (25,T)⟩,⟨s 27,l o (t 26),s (25,T)⟩,⟨s 28,m (t 2),s (25,T)⟩,⟨s 29,f 0 (t 3),s (25,T)⟩,⟨s 30,l o (t 29),s (25,T)⟩,⟨s 31,b .mul (t 28) (t 30),s (25,T)⟩,⟨s 32,m (t 1),s (25,T)⟩,⟨s 33,b .add (t 31) (t 32),s (25,T)⟩,⟨s 34,a 1 (t 27) (t 33),s (25,T)⟩,⟨s 35,l o (t 34),s (25,T)⟩,⟨s 36,b .eql (t 35) (v (i .u8 1)),s (25,T)⟩,⟨s 37,p (t 25) (t 36) (v (w U)),o⟩,⟨s 6,m (t 37),o⟩]) R)),[.tmp 6]⟩
def c56 : RFunc := ⟨21,.code (q (g [⟨s 4,m (v (w U)),o⟩]) (q (q (g [⟨s 6,m (t 0),o⟩,⟨s 7,n (t 6),o⟩,⟨s 8,m (v (i I 0)),o⟩]) (B 0 (L (q (g [⟨s 9,b .lss (t 8) (t 7),o⟩]) (q (c (t 9) k (x 0)) (q (B 1 (q (g [⟨s 10,m (t 8),o⟩,⟨s 5,m (t 10),o⟩]) (q (G [⟨⟨s 11,m (t 0),o⟩,0,0,T⟩,⟨⟨s 12,m (t 5),o⟩,0,0,T⟩,⟨⟨s 13,a 1 (t 11) (t 12),o⟩,3,0,T⟩,⟨⟨s 14,l o (t 13),o⟩,7,1,T⟩,⟨⟨s 15,m (t 1),o⟩,0,0,T⟩,⟨⟨s 16,m (t 5),o⟩,0,0,T⟩,⟨⟨s 17,a 1 (t 15) (t 16),o⟩,48,0,T⟩,⟨⟨s 18,l o (t 17),o⟩,112,1,T⟩,⟨⟨s 19,b .geq (t 14) (t 18),o⟩,255,0,T⟩]) (c (t 19) (q (g [⟨s 4,m (v (w U)),o⟩]) R) k)))) (g [⟨s 20,b .add (t 8) (v (i I 1)),o⟩,⟨s 8,m (t 20),o⟩]))))))) (q (g [⟨s 4,m (v (w T)),o⟩]) R))),[.tmp 4]⟩
def c57 : RFunc := ⟨69,.code (q (g [⟨s 2,.box 24 (t 0),o⟩,⟨s 4,m (v (w U)),o⟩]) (q (q (g [⟨s 6,f 0 (t 2),o⟩,⟨s 7,l o (t 6),o⟩,⟨s 8,b .eql (t 7) (v (i I 0)),o⟩,⟨s 9,m (t 8),o⟩,⟨s 10,f 1 (t 2),s (9,U)⟩,⟨s 11,l o (t 10),s (9,U)⟩,⟨s 12,b .eql (t 11) (v (i I 0)),s (9,U)⟩,⟨s 13,p (t 9) (v (w T)) (t 12),o⟩,⟨s 14,m (t 13),o⟩,⟨s 15,m (t 1),s (14,U)⟩,⟨s 16,n (t 15),s (14,U)⟩,⟨s 17,f 0 (t 2),s (14,U)⟩,⟨s 18,l o (t 17),s (14,U)⟩,⟨s 19,b .neq (t 16) (t 18),s (14,U)⟩,⟨s 20,p (t 14) (v (w T)) (t 19),o⟩]) (c (t 20) (q (g [⟨s 4,m (v (w U)),o⟩]) R) k)) (q (q (g [⟨s 5,m (v (i I 0)),o⟩]) (B 0 (L (q (q (g [⟨s 21,m (t 5),o⟩,⟨s 22,m (t 1),o⟩,⟨s 23,n (t 22),o⟩,⟨s 24,b .lss (t 21) (t 23),o⟩]) (c (t 24) k (x 0))) (q (B 1 (q (q (G [⟨⟨s 27,m (t 1),o⟩,0,0,T⟩,⟨⟨s 28,m (t 5),o⟩,0,0,T⟩,⟨⟨s 29,a 1 (t 27) (t 28),o⟩,3,0,T⟩,⟨⟨s 30,l o (t 29),o⟩,7,1,T⟩,⟨⟨s 31,b .lss (t 30) (v (i I 0)),o⟩,15,0,T⟩,⟨⟨s 32,m (t 31),o⟩,31,0,T⟩,⟨⟨s 33,m (t 1),s (32,U)⟩,63,0,T⟩,⟨⟨s 34,m (t 5),s (32,U)⟩,63,0,T⟩,⟨⟨s 35,a 1 (t 33) (t 34),s (32,U)⟩,255,0,T⟩,⟨⟨s 36,l o (t 35),s (32,U)⟩,511,1,T⟩,⟨⟨s 37,f 1 (t 2),s (32,U)⟩,63,0,T⟩,⟨⟨s 38,l o (t 37),s (32,U)⟩,1087,1,T⟩,⟨⟨s 39,b .geq (t 36) (t 38),s (32,U)⟩,4095,0,T⟩,⟨⟨s 40,p (t 32) (v (w T)) (t 39),o⟩,8191,0,T⟩]) (c (t 40) (q (g [⟨s 4,m (v (w U)),o⟩]) R) k)) (q (G [⟨⟨s 41,m (t 5),o⟩,0,0,T⟩,⟨⟨s 42,b .gtr (t 41) (v (i I 0)),o⟩,1,0,T⟩,⟨⟨s 43,m (t 42),o⟩,3,0,T⟩,⟨⟨s 44,m (t 1),s (43,T)⟩,7,0,T⟩,⟨⟨s 45,m (t 5),s (43,T)⟩,7,0,T⟩,⟨⟨s 46,a 1 (t 44) (t 45),s (43,T)⟩,31,0,T⟩,⟨⟨s 47,l o (t 46),s (43,T)⟩,63,1,T⟩,⟨⟨s 48,m (t 1),s (43,T)⟩,7,0,T⟩,⟨⟨s 49,m (t 5),s (43,T)⟩,7,0,T⟩,⟨⟨s 50,b .sub (t 49) (v (i I 1)),s (43,T)⟩,263,0,T⟩,⟨⟨s 51,a 1 (t 48) (t 50),s (43,T)⟩,903,0,T⟩,⟨⟨s 52,l o (t 51),s (43,T)⟩,1927,1,T⟩,⟨⟨s 53,b .sub (t 47) (t 52),s (43,T)⟩,4095,0,T⟩,⟨⟨s 54,b .gtr (t 53) (v (i I 1)),s (43,T)⟩,8191,0,T⟩,⟨⟨s 55,m (t 54),s (43,T)⟩,16383,0,T⟩,⟨⟨s 56,m (t 1),s (55,U)⟩,32767,0,T⟩,⟨⟨s 57,m (t 5),s (55,U)⟩,32767,0,T⟩,⟨⟨s 58,b .sub (t 57) (v (i I 1)),s (55,U)⟩,98303,0,T⟩,⟨⟨s 59,a 1 (t 56) (t 58),s (55,U)⟩,262143,0,T⟩,⟨⟨s 60,l o (t 59),s (55,U)⟩,524287,1,T⟩,⟨⟨s 61,m (t 1),s (55,U)⟩,32767,0,T⟩,⟨⟨s 62,m (t 5),s (55,U)⟩,32767,0,T⟩,⟨⟨s 63,a 1 (t 61) (t 62),s (55,U)⟩,3178495,0,T⟩,⟨⟨s 64,l o (t 63),s (55,U)⟩,7372799,1,T⟩,⟨⟨s 65,b .sub (t 60) (t 64),s (55,U)⟩,16777215,0,T⟩,⟨⟨s 66,b .gtr (t 65) (v (i I 1)),s (55,U)⟩,33554431,0,T⟩,⟨⟨s 67,p (t 55) (v (w T)) (t 66),s (43,T)⟩,67108863,0,T⟩,⟨⟨s 68,p (t 43) (t 67) (v (w U)),o⟩,134217727,0,T⟩]) (c (t 68) (q (g [⟨s 4,m (v (w U)),o⟩]) R) k)))) (g [⟨s 25,m (t 5),o⟩,⟨s 26,b .add (t 25) (v (i I 1)),o⟩,⟨s 5,m (t 26),o⟩])))))) (q (g [⟨s 4,m (v (w T)),o⟩]) R)))),[.tmp 4]⟩
def c58 : RFunc := ⟨47,.code (q (g [⟨s 1,.box 24 (t 0),o⟩,⟨s 2,m (v N),o⟩]) (q (g [⟨s 3,m (v N),o⟩]) (q (q (g [⟨s 4,m (v (i I 0)),o⟩]) (B 0 (L (q (q (g [⟨s 7,m (t 4),o⟩,⟨s 8,f 1 (t 1),o⟩,⟨s 9,l o (t 8),o⟩,⟨s 10,b .lss (t 7) (t 9),o⟩]) (c (t 10) k (x 0))) (q (B 1 (q (g [⟨s 5,m (v (i I 0)),o⟩]) (B 2 (L (q (q (g [⟨s 13,m (t 5),o⟩,⟨s 14,f 0 (t 1),o⟩,⟨s 15,l o (t 14),o⟩,⟨s 16,b .lss (t 13) (t 15),o⟩]) (c (t 16) k (x 2))) (q (B 3 (q (q (g [⟨s 19,l (s 3) (t 1),o⟩,⟨s 20,m (t 5),o⟩,⟨s 21,m (t 4),o⟩,⟨s 22,C (v (F (J 63) [] [])) [t 19,t 20,t 21],o⟩,⟨s 23,.un .not (t 22),o⟩,⟨s 24,m (t 23),o⟩,⟨s 25,l (s 3) (t 1),s (24,U)⟩,⟨s 26,m (t 5),s (24,U)⟩,⟨s 27,b .sub (t 26) (v (i I 1)),s (24,U)⟩,⟨s 28,m (t 4),s (24,U)⟩,⟨s 29,C (v (F (J 63) [] [])) [t 25,t 27,t 28],s (24,U)⟩,⟨s 30,p (t 24) (v (w T)) (t 29),o⟩]) (c (t 30) (x 3) k)) (q (g [⟨s 31,m (t 5),o⟩,⟨s 6,m (t 31),o⟩]) (q (B 4 (L (q (q (g [⟨s 32,l (s 3) (t 1),o⟩,⟨s 33,m (t 6),o⟩,⟨s 34,b .add (t 33) (v (i I 1)),o⟩,⟨s 35,m (t 4),o⟩,⟨s 36,C (v (F (J 63) [] [])) [t 32,t 34,t 35],o⟩]) (c (t 36) k (x 4))) (B 5 (g [⟨s 37,m (t 6),o⟩,⟨s 38,b .add (t 37) (v (i I 1)),o⟩,⟨s 6,m (t 38),o⟩]))))) (g [⟨s 39,m (t 3),o⟩,⟨s 40,m (t 4),o⟩,⟨s 41,m (t 5),o⟩,⟨s 42,m (t 6),o⟩,⟨s 43,.build [(i I 0),(i I 0),(i I 0)] [(0,1,(t 40)),(1,1,(t 41)),(2,1,(t 42))],o⟩,⟨s 44,.buildSlice 43 3 1 [(i I 0),(i I 0),(i I 0)] [(0,3,(t 43))],o⟩,⟨s 45,.append 43 3 24 (t 39) (t 44),o⟩,⟨s 3,m (t 45),o⟩]))))) (g [⟨s 17,m (t 5),o⟩,⟨s 18,b .add (t 17) (v (i I 1)),o⟩,⟨s 5,m (t 18),o⟩]))))))) (g [⟨s 11,m (t 4),o⟩,⟨s 12,b .add (t 11) (v (i I 1)),o⟩,⟨s 4,m (t 12),o⟩])))))) (q (g [⟨s 46,m (t 3),o⟩,⟨s 2,m (t 46),o⟩]) R)))),[.tmp 2]⟩
def c59 : RFunc := ⟨32,.code (q (g [⟨s 1,.box 24 (t 0),o⟩,⟨s 2,.new 24 [(i I 0),(i I 0),N],o⟩]) (q (g [⟨s 6,f 1 (t 1),o⟩,⟨s 7,l o (t 6),o⟩,⟨s 8,f 0 (t 1),o⟩,⟨s 9,l o (t 8),o⟩,⟨s 10,C (v (F (J 62) [] [])) [t 7,t 9],o⟩,⟨s 3,.new 24 [(i I 0),(i I 0),N],o⟩,⟨o,S 3 (t 3) (t 10),o⟩]) (q (q (g [⟨s 4,m (v (i I 0)),o⟩]) (B 0 (L (q (q (g [⟨s 11,m (t 4),o⟩,⟨s 12,f 1 (t 1),o⟩,⟨s 13,l o (t 12),o⟩,⟨s 14,b .lss (t 11) (t 13),o⟩]) (c (t 14) k (x 0))) (q (B 1 (q (g [⟨s 5,m (v (i I 0)),o⟩]) (B 2 (L (q (q (g [⟨s 17,m (t 5),o⟩,⟨s 18,f 0 (t 1),o⟩,⟨s 19,l o (t 18),o⟩,⟨s 20,b .lss (t 17) (t 19),o⟩]) (c (t 20) k (x 2))) (q (B 3 (q (g [⟨s 23,l (s 3) (t 1),o⟩,⟨s 24,m (t 5),o⟩,⟨s 25,m (t 4),o⟩,⟨s 26,C (v (F (J 63) [] [])) [t 23,t 24,t 25],o⟩]) (c (t 26) (g [⟨s 27,l (s 3) (t 3),o⟩,⟨s 28,m (t 4),o⟩,⟨s 29,m (t 5),o⟩,⟨s 30,C (v (F (J 64) [] [])) [t 27,t 28,t 29],o⟩]) k))) (g [⟨s 21,m (t 5),o⟩,⟨s 22,b .add (t 21) (v (i I 1)),o⟩,⟨s 5,m (t 22),o⟩]))))))) (g [⟨s 15,m (t 4),o⟩,⟨s 16,b .add (t 15) (v (i I 1)),o⟩,⟨s 4,m (t 16),o⟩])))))) (q (g [⟨s 31,l (s 3) (t 3),o⟩,⟨o,S 3 (t 2) (t 31),o⟩]) R)))),[.cell 2 (some 3)]⟩
def c60 : RFunc := ⟨8,.code (q (g [⟨s 2,m (v N),o⟩]) (q (q (g [⟨s 3,m (t 0),o⟩,⟨s 4,.eq U .slice (t 3) (v N),o⟩]) (c (t 4) (q (g [⟨s 2,m (v N),o⟩]) R) k)) (q (g [⟨s 5,.buildSlice 5 1 0 [] [],o⟩,⟨s 6,m (t 0),o⟩,⟨s 7,.append 5 1 1 (t 5) (t 6),o⟩,⟨s 2,m (t 7),o⟩]) R))),[.tmp 2]⟩
def c61 : RFunc := ⟨112,.code (q (g [⟨s 6,.new 24 [(i I 0),(i I 0),N],o⟩,⟨s 7,m (v (i I 0)),o⟩]) (q (q (g [⟨s 13,m (t 0),o⟩,⟨s 14,m (t 1),o⟩,⟨s 15,C (v (F (J 36) [] [])) [t 13,t 14],o⟩,⟨s 16,.un .not (t 15),o⟩]) (c (t 16) (q (g [⟨s 17,.build [(i I 0),(i I 0),N] [],o⟩,⟨o,S 3 (t 6) (t 17),o⟩,⟨s 7,m (v (i I 2)),o⟩]) R) k)) (q (g [⟨s 18,m (t 0),o⟩,⟨s 19,m (t 1),o⟩,⟨s 20,C (v (F (J 62) [] [])) [t 18,t 19],o⟩,⟨s 8,.new 24 [(i I 0),(i I 0),N],o⟩,⟨o,S 3 (t 8) (t 20),o⟩]) (q (q (g [⟨s 9,m (v (i I 0)),o⟩]) (B 0 (L (q (q (g [⟨s 21,m (t 9),o⟩,⟨s 22,m (t 2),o⟩,⟨s 23,n (t 22),o⟩,⟨s 24,b .lss (t 21) (t 23),o⟩]) (c (t 24) k (x 0))) (q (B 1 (q (g [⟨s 27,m (t 2),o⟩,⟨s 28,m (t 9),o⟩,⟨s 29,a 3 (t 27) (t 28),o⟩,⟨s 30,l (s 3) (t 29),o⟩,⟨s 10,.new 43 [(i I 0),(i I 0),(i I 0)],o⟩,⟨o,S 3 (t 10) (t 30),o⟩]) (q (q (g [⟨s 31,f 0 (t 10),o⟩,⟨s 32,l o (t 31),o⟩,⟨s 33,b .lss (t 32) (v (i I 0)),o⟩,⟨s 34,m (t 33),o⟩,⟨s 35,f 0 (t 10),s (34,U)⟩,⟨s 36,l o (t 35),s (34,U)⟩,⟨s 37,m (t 1),s (34,U)⟩,⟨s 38,b .geq (t 36) (t 37),s (34,U)⟩,⟨s 39,p (t 34) (v (w T)) (t 38),o⟩,⟨s 40,m (t 39),o⟩,⟨s 41,f 1 (t 10),s (40,U)⟩,⟨s 42,l o (t 41),s (40,U)⟩,⟨s 43,b .lss (t 42) (v (i I 0)),s (40,U)⟩,⟨s 44,p (t 40) (v (w T)) (t 43),o⟩,⟨s 45,m (t 44),o⟩,⟨s 46,f 1 (t 10),s (45,U)⟩,⟨s 47,l o (t 46),s (45,U)⟩,⟨s 48,m (t 0),s (45,U)⟩,⟨s 49,b .geq (t 47) (t 48),s (45,U)⟩,⟨s 50,p (t 45) (v (w T)) (t 49),o⟩,⟨s 51,m (t 50),o⟩,⟨s 52,f 2 (t 10),s (51,U)⟩,⟨s 53,l o (t 52),s (51,U)⟩,⟨s 54,b .lss (t 53) (v (i I 0)),s (51,U)⟩,⟨s 55,p (t 51) (v (w T)) (t 54),o⟩,⟨s 56,m (t 55),o⟩,⟨s 57,f 2 (t 10),s (56,U)⟩,⟨s 58,l o (t 57),s (56,U)⟩,⟨s 59,m (t 0),s (56,U)⟩,⟨s 60,b .geq (t 58) (t 59),s (56,U)⟩,⟨s 61,p (t 56) (v (w T)) (t 60),o⟩,⟨s 62,m (t 61),o⟩,⟨s 63,f 1 (t 10),s (62,U)⟩,⟨s 64,l o (t 63),s (62,U)⟩,⟨s 65,f 2 (t 10),s (62,U)⟩,⟨s 66,l o (t 65),s (62,U)⟩,⟨s 67,b .gtr (t 64) (t 66),s (62,U)⟩,⟨s 68,p (t 62) (v (w T)) (t 67),o⟩]) (c (t 68) (q (g [⟨s 69,.build [(i I 0),(i I 0),N] [],o⟩,⟨o,S 3 (t 6) (t 69),o⟩,⟨s 7,m (v (i I 1)),o⟩]) R) k)) (q (q (g [⟨s 70,m (t 9),o⟩,⟨s 71,b .gtr (t 70) (v (i I 0)),o⟩]) (c (t 71) (q (g [⟨s 72,m (t 2),o⟩,⟨s 73,m (t 9),o⟩,⟨s 74,b .sub (t 73) (v (i I 1)),o⟩,⟨s 75,a 3 (t 72) (t 74),o⟩,⟨s 76,l (s 3) (t 75),o⟩,⟨s 11,.new 43 [(i I 0),(i I 0),(i I 0)],o⟩,⟨o,S 3 (t 11) (t 76),o⟩]) (q (g [⟨s 77,f 0 (t 11),o⟩,⟨s 78,l o (t 77),o⟩,⟨s 79,f 0 (t 10),o⟩,⟨s 80,l o (t 79),o⟩,⟨s 81,b .gtr (t 78) (t 80),o⟩,⟨s 82,m (t 81),o⟩,⟨s 83,f 0 (t 11),s (82,U)⟩,⟨s 84,l o (t 83),s (82,U)⟩,⟨s 85,f 0 (t 10),s (82,U)⟩,⟨s 86,l o (t 85),s (82,U)⟩,⟨s 87,b .eql (t 84) (t 86),s (82,U)⟩,⟨s 88,m (t 87),s (82,U)⟩,⟨s 89,f 2 (t 11),s (88,T)⟩,⟨s 90,l o (t 89),s (88,T)⟩,⟨s 91,b .add (t 90) (v (i I 1)),s (88,T)⟩,⟨s 92,f 1 (t 10),s (88,T)⟩,⟨s 93,l o (t 92),s (88,T)⟩,⟨s 94,b .geq (t 91) (t 93),s (88,T)⟩,⟨s 95,p (t 88) (t 94) (v (w U)),s (82,U)⟩,⟨s 96,p (t 82) (v (w T)) (t 95),o⟩]) (c (t 96) (q (g [⟨s 97,.build [(i I 0),(i I 0),N] [],o⟩,⟨o,S 3 (t 6) (t 97),o⟩,⟨s 7,m (v (i I 1)),o⟩]) R) k))) k)) (q (g [⟨s 98,f 1 (t 10),o⟩,⟨s 99,l o (t 98),o⟩,⟨s 12,m (t 99),o⟩]) (B 2 (L (q (q (g [⟨s 100,m (t 12),o⟩,⟨s 101,f 2 (t 10),o⟩,⟨s 102,l o (t 101),o⟩,⟨s 103,b .leq (t 100) (t 102),o⟩]) (c (t 103) k (x 2))) (q (B 3 (g [⟨s 106,l (s 3) (t 8),o⟩,⟨s 107,m (t 12),o⟩,⟨s 108,f 0 (t 10),o⟩,⟨s 109,l o (t 108),o⟩,⟨s 110,C (v (F (J 64) [] [])) [t 106,t 107,t 109],o⟩])) (g [⟨s 104,m (t 12),o⟩,⟨s 105,b .add (t 104) (v (i I 1)),o⟩,⟨s 12,m (t 105),o⟩])))))))))) (g [⟨s 25,m (t 9),o⟩,⟨s 26,b .add (t 25) (v (i I 1)),o⟩,⟨s 9,m (t 26),o⟩])))))) (q (g [⟨s 111,l (s 3) (t 8),o⟩,⟨o,S 3 (t 6) (t 111),o⟩,⟨s 7,m (v (i I 0)),o⟩]) R))))),[.cell 6 (some 3),.tmp 7]⟩
def c62 : RFunc := ⟨12,.code (q (g [⟨s 4,.new 24 [(i I 0),(i I 0),N],o⟩]) (q (g [⟨s 5,m (t 0),o⟩,⟨s 6,m (t 1),o⟩,⟨s 7,m (t 0),o⟩,⟨s 8,m (t 1),o⟩,⟨s 9,b .mul (t 7) (t 8),o⟩,⟨s 10,.makeSlice 5 [(i .u8 0)] 1 (t 9) (t 9),o⟩,⟨s 11,.build [(i I 0),(i I 0),N] [(0,1,(t 5)),(1,1,(t 6)),(2,1,(t 10))],o⟩,⟨o,S 3 (t 4) (t 11),o⟩]) R)),[.cell 4 (some 3)]⟩
def c63 : RFunc := ⟨38,.code (q (g [⟨s 3,.box 24 (t 0),o⟩,⟨s 6,m (v (w U)),o⟩]) (q (g [⟨s 7,m (t 1),o⟩,⟨s 8,b .geq (t 7) (v (i I 0)),o⟩,⟨s 9,m (t 8),o⟩,⟨s 10,m (t 1),s (9,T)⟩,⟨s 11,f 0 (t 3),s (9,T)⟩,⟨s 12,l o (t 11),s (9,T)⟩,⟨s 13,b .lss (t 10) (t 12),s (9,T)⟩,⟨s 14,p (t 9) (t 13) (v (w U)),o⟩,⟨s 15,m (t 14),o⟩,⟨s 16,m (t 2),s (15,T)⟩,⟨s 17,b .geq (t 16) (v (i I 0)),s (15,T)⟩,⟨s 18,p (t 15) (t 17) (v (w U)),o⟩,⟨s 19,m (t 18),o⟩,⟨s 20,m (t 2),s (19,T)⟩,⟨s 21,f 1 (t 3),s (19,T)⟩,⟨s 22,l o (t 21),s (19,T)⟩,⟨s 23,b .lss (t 20) (t 22),s (19,T)⟩,⟨s 24,p (t 19) (t 23) (v (w U)),o⟩,⟨s 25,m (t 24),o⟩,⟨s 26,f 2 (t 3),s (25,T)⟩,⟨s 27,l o (t 26),s (25,T)⟩,⟨s 28,m (t 2),s (25,T)⟩,⟨s 29,f 0 (t 3),s (25,T)⟩,⟨s 30,l o (t 29),s (25,T)⟩,⟨s 31,b .mul (t 28) (t 30),s (25,T)⟩,⟨s 32,m (t 1),s (25,T)⟩,⟨s 33,b .add (t 31) (t 32),s (25,T)⟩,⟨s 34,a 1 (t 27) (t 33),s (25,T)⟩,⟨s 35,l o (t 34),s (25,T)⟩,⟨s 36,b .eql (t 35) (v (i .u8 1)),s (25,T)⟩,⟨s 37,p (t 25) (t 36) (v (w U)),o⟩,⟨s 6,m (t 37),o⟩]) R)),[.tmp 6]⟩
def c64 : RFunc := ⟨15,.code (q (g [⟨s 3,.box 24 (t 0),o⟩]) (g [⟨s 6,f 2 (t 3),o⟩,⟨s 7,l o (t 6),o⟩,⟨s 8,m (t 2),o⟩,⟨s 9,f 0 (t 3),o⟩,⟨s 10,l o (t 9),o⟩,⟨s 11,b .mul (t 8) (t 10),o⟩,⟨s 12,m (t 1),o⟩,⟨s 13,b .add (t 11) (t 12),o⟩,⟨s 14,a 1 (t 7) (t 13),o⟩,⟨o,S 1 (t 14) (v (i .u8 1)),o⟩])),[]⟩
def c65 : RFunc := ⟨27,.code (q (g [⟨s 4,m (v (w U)),o⟩]) (q (q (g [⟨s 6,m (t 0),o⟩,⟨s 7,n (t 6),o⟩,⟨s 8,m (t 1),o⟩,⟨s 9,n (t 8),o⟩,⟨s 10,b .neq (t 7) (t 9),o⟩]) (c (t 10) (q (g [⟨s 4,m (v (w U)),o⟩]) R) k)) (q (q (g [⟨s 5,m (v (i I 0)),o⟩]) (B 0 (L (q (q (g [⟨s 11,m (t 5),o⟩,⟨s 12,m (t 0),o⟩,⟨s 13,n (t 12),o⟩,⟨s 14,b .lss (t 11) (t 13),o⟩]) (c (t 14) k (x 0))) (q (B 1 (q (G [⟨⟨s 17,m (t 0),o⟩,0,0,T⟩,⟨⟨s 18,m (t 5),o⟩,0,0,T⟩,⟨⟨s 19,a 1 (t 17) (t 18),o⟩,3,0,T⟩,⟨⟨s 20,l o (t 19),o⟩,7,1,T⟩,⟨⟨s 21,m (t 1),o⟩,0,0,T⟩,⟨⟨s 22,m (t 5),o⟩,0,0,T⟩,⟨⟨s 23,a 1 (t 21) (t 22),o⟩,48,0,T⟩,⟨⟨s 24,l o (t 23),o⟩,112,1,T⟩,⟨⟨s 25,C (v (F (J 80) [] [])) [t 20,t 24],o⟩,255,2,U⟩,⟨⟨s 26,.un .not (t 25),o⟩,511,0,U⟩]) (c (t 26) (q (g [⟨s 4,m (v (w U)),o⟩]) R) k))) (g [⟨s 15,m (t 5),o⟩,⟨s 16,b .add (t 15) (v (i I 1)),o⟩,⟨s 5,m (t 16),o⟩])))))) (q (g [⟨s 4,m (v (w T)),o⟩]) R)))),[.tmp 4]⟩
def c66 : RFunc := ⟨20,.code (q (g [⟨s 6,m (v (w U)),o⟩]) (q (g [⟨s 7,m (t 0),o⟩,⟨s 8,C (v (F (J 81) [] [])) [t 7],o⟩,⟨s 9,m (t 8),o⟩,⟨s 10,m (t 1),s (9,T)⟩,⟨s 11,C (v (F (J 81) [] [])) [t 10],s (9,T)⟩,⟨s 12,p (t 9) (t 11) (v (w U)),o⟩,⟨s 13,m (t 12),o⟩,⟨s 14,m (t 2),s (13,T)⟩,⟨s 15,m (t 0),s (13,T)⟩,⟨s 16,m (t 1),s (13,T)⟩,⟨s 17,b .mul (t 15) (t 16),s (13,T)⟩,⟨s 18,b .eql (t 14) (t 17),s (13,T)⟩,⟨s 19,p (t 13) (t 18) (v (w U)),o⟩,⟨s 6,m (t 19),o⟩]) R)),[.tmp 6]⟩
def c67 : RFunc := ⟨35,.code (q (g [⟨s 4,m (v (i I 0)),o⟩]) (q (q (g [⟨s 7,m (t 1),o⟩,⟨s 8,n (t 7),o⟩,⟨s 9,b .eql (t 8) (v (i I 0)),o⟩]) (c (t 9) (q (g [⟨s 10,m (t 0),o⟩,⟨s 11,C (v (F (J 82) [] [])) [t 10],o⟩,⟨s 12,b .add (t 11) (v (i I 1)),o⟩,⟨s 4,m (t 12),o⟩]) R) k)) (q (q (g [⟨s 13,m (t 1),o⟩,⟨s 14,n (t 13),o⟩,⟨s 15,b .eql (t 14) (v (i I 1)),o⟩]) (c (t 15) (q (g [⟨s 16,m (t 0),o⟩,⟨s 17,m (t 1),o⟩,⟨s 18,a 1 (t 17) (v (i I 0)),o⟩,⟨s 19,l o (t 18),o⟩,⟨s 20,C (v (F (J 83) [] [])) [t 16,t 19],o⟩,⟨s 4,m (t 20),o⟩]) R) k)) (q (g [⟨s 5,m (v (i I 0)),o⟩]) (B 0 (L (B 1 (q (g [⟨s 21,m (t 0),o⟩,⟨s 22,m (t 1),o⟩,⟨s 23,C (v (F (J 84) [] [])) [t 21,t 22],o⟩,⟨s 6,m (t 23),o⟩]) (q (q (g [⟨s 24,m (t 6),o⟩,⟨s 25,b .eql (t 24) (v (i I (-1))),o⟩]) (c (t 25) (q (g [⟨s 26,m (t 5),o⟩,⟨s 4,m (t 26),o⟩]) R) k)) (q (g [⟨s 27,m (t 5),o⟩,⟨s 28,b .add (t 27) (v (i I 1)),o⟩,⟨s 5,m (t 28),o⟩]) (g [⟨s 29,m (t 0),o⟩,⟨s 30,m (t 6),o⟩,⟨s 31,m (t 1),o⟩,⟨s 32,n (t 31),o⟩,⟨s 33,b .add (t 30) (t 32),o⟩,⟨s 34,.sliceS 1 (t 29) (s (t 33)) o o,o⟩,⟨s 0,m (t 34),o⟩]))))))))))),[.tmp 4]⟩
def c68 : RFunc := ⟨7,.code (q (g [⟨s 1,.box 24 (t 0),o⟩,⟨s 2,m (v (i I 0)),o⟩]) (q (g [⟨s 3,f 2 (t 1),o⟩,⟨s 4,l o (t 3),o⟩,⟨s 5,.buildSlice 5 1 1 [(i .u8 0)] [(0,1,(v (i .u8 1)))],o⟩,⟨s 6,C (v (F (J 67) [] [])) [t 4,t 5],o⟩,⟨s 2,m (t 6),o⟩]) R)),[.tmp 2]⟩
def c69 : RFunc := ⟨37,.code (q (g [⟨s 5,m (v (i I 0)),o⟩]) (q (g [⟨s 9,f 2 (t 2),o⟩,⟨s 10,l o (t 9),o⟩,⟨s 11,m (t 0),o⟩,⟨s 12,f 1 (t 2),o⟩,⟨s 13,l o (t 12),o⟩,⟨s 14,b .mul (t 11) (t 13),o⟩,⟨s 15,m (t 1),o⟩,⟨s 16,b .add (t 14) (t 15),o⟩,⟨s 17,a 1 (t 10) (t 16),o⟩,⟨s 18,l o (t 17),o⟩,⟨s 6,m (t 18),o⟩]) (q (q (g [⟨s 19,m (t 0),o⟩,⟨s 20,f 0 (t 2),o⟩,⟨s 21,l o (t 20),o⟩,⟨s 22,b .sub (t 21) (v (i I 1)),o⟩,⟨s 23,b .lss (t 19) (t 22),o⟩]) (c (t 23) (q (g [⟨s 25,l (s 4) (t 2),o⟩,⟨s 26,m (t 0),o⟩,⟨s 27,b .add (t 26) (v (i I 1)),o⟩,⟨s 28,C (v (F (J 71) [] [])) [t 25,t 27],o⟩,⟨s 29,m (t 1),o⟩,⟨s 30,C (v (F (J 70) [] [])) [t 28,t 29],o⟩,⟨s 24,m (t 30),o⟩,⟨s 31,e (t 24) 0,o⟩,⟨s 32,e (t 24) 1,o⟩,⟨s 7,m (t 31),o⟩,⟨s 8,m (t 32),o⟩]) (g [⟨s 33,m (t 6),o⟩,⟨s 34,m (t 8),o⟩,⟨s 35,b .add (t 33) (t 34),o⟩,⟨s 6,m (t 35),o⟩])) k)) (q (g [⟨s 36,m (t 6),o⟩,⟨s 5,m (t 36),o⟩]) R)))),[.tmp 5]⟩
def c70 : RFunc := ⟨28,.ranges (q (g [⟨s 2,.box 53 (t 0),o⟩,⟨s 3,.box 3 (t 1),o⟩,⟨s 4,.new 3 [(i I 0)],o⟩,⟨s 5,.new 3 [(i I 0)],o⟩]) (q (g [⟨o,S 1 (t 5) (v (i I 1920)),o⟩]) (q (q (g [⟨s 8,l o (t 3),o⟩,⟨s 9,l o (t 2),o⟩,⟨s 10,n (t 9),o⟩,⟨s 11,C (v (F (J 85) [] [])) [t 8,t 10],o⟩]) (B 0 (.rangeFunc [2,3,4,5,6,7,8,9,10,11,12,13,14,15,16,17,18,19,20,21,22,23,24,25,26,27,28,29,30,31,32,33,34,35,36,37,38,39,40,41,42,43,44,45,46,47,48,49,50,51,52,53,54,55,56,57,58,59,60,61,62,63,64,65,66,67,68,69,70,71,72,73,74,75,76,77,78,79,80,81,82,84,85,86,87,88,89,90,91,92,93,94,95,96,97,98,100,101,102,103,104,105,106,107,109,110] 28 (t 11) [12] (g [⟨s 6,m (t 12),o⟩]) (B 1 (q (G [⟨⟨s 13,l o (t 2),o⟩,0,1,T⟩,⟨⟨s 14,m (t 6),o⟩,0,0,T⟩,⟨⟨s 15,a 1 (t 13) (t 14),o⟩,3,0,T⟩,⟨⟨s 16,l o (t 15),o⟩,7,1,T⟩,⟨⟨s 17,l o (t 3),o⟩,0,1,T⟩,⟨⟨s 18,m (t 6),o⟩,0,0,T⟩,⟨⟨s 19,C (v (F (J 49) [] [])) [t 17,t 18],o⟩,48,2,U⟩,⟨⟨s 20,b .add (t 16) (t 19),o⟩,127,0,U⟩,⟨⟨s 7,m (t 20),o⟩,255,0,U⟩]) (q (g [⟨s 21,m (t 7),o⟩,⟨s 22,l o (t 5),o⟩,⟨s 23,b .lss (t 21) (t 22),o⟩]) (c (t 23) (g [⟨s 24,m (t 6),o⟩,⟨s 25,m (t 7),o⟩,⟨o,S 1 (t 4) (t 24),o⟩,⟨o,S 1 (t 5) (t 25),o⟩]) k))))))) (q (G [⟨⟨s 26,l o (t 4),o⟩,0,1,T⟩,⟨⟨s 27,l o (t 5),o⟩,0,1,T⟩,⟨⟨o,S 1 (t 4) (t 26),o⟩,1,2,U⟩,⟨⟨o,S 1 (t 5) (t 27),o⟩,7,2,U⟩]) R)))),[.cell 4 none,.cell 5 none]⟩
def c71 : RFunc := ⟨17,.code (q (g [⟨s 2,.box 74 (t 0),o⟩,⟨s 4,m (v N),o⟩]) (q (g [⟨s 5,f 3 (t 2),o⟩,⟨s 6,l o (t 5),o⟩,⟨s 7,m (t 1),o⟩,⟨s 8,f 1 (t 2),o⟩,⟨s 9,l o (t 8),o⟩,⟨s 10,b .mul (t 7) (t 9),o⟩,⟨s 11,m (t 1),o⟩,⟨s 12,b .add (t 11) (v (i I 1)),o⟩,⟨s 13,f 1 (t 2),o⟩,⟨s 14,l o (t 13),o⟩,⟨s 15,b .mul (t 12) (t 14),o⟩,⟨s 16,.sliceS 1 (t 6) (s (t 10)) (s (t 15)) o,o⟩,⟨s 4,m (t 16),o⟩]) R)),[.tmp 4]⟩
def c72 : RFunc := ⟨25,.code (q (g [⟨s 2,m (v (i I 0)),o⟩]) (q (q (g [⟨s 5,m (t 0),o⟩,⟨s 6,n (t 5),o⟩,⟨s 7,b .lss (t 6) (v (i I 1)),o⟩]) (c (t 7) .fail k)) (q (g [⟨s 9,m (t 0),o⟩,⟨s 10,a 1 (t 9) (v (i I 0)),o⟩,⟨s 11,l o (t 10),o⟩,⟨s 3,m (t 11),o⟩]) (q (q (g [⟨s 4,m (v (i I 1)),o⟩]) (B 0 (L (q (q (g [⟨s 12,m (t 4),o⟩,⟨s 13,m (t 0),o⟩,⟨s 14,n (t 13),o⟩,⟨s 15,b .lss (t 12) (t 14),o⟩]) (c (t 15) k (x 0))) (q (B 1 (g [⟨s 18,m (t 3),o⟩,⟨s 19,m (t 0),o⟩,⟨s 20,m (t 4),o⟩,⟨s 21,a 1 (t 19) (t 20),o⟩,⟨s 22,l o (t 21),o⟩,⟨s 23,.minmax U [t 18,t 22],o⟩,⟨s 3,m (t 23),o⟩])) (g [⟨s 16,m (t 4),o⟩,⟨s 17,b .add (t 16) (v (i I 1)),o⟩,⟨s 4,m (t 17),o⟩])))))) (q (g [⟨s 24,m (t 3),o⟩,⟨s 2,m (t 24),o⟩]) R))))),[.tmp 2]⟩
def c73 : RFunc := ⟨19,.code (q (g [⟨s 4,m (v (i I 0)),o⟩]) (q (q (g [⟨s 6,m (t 0),o⟩,⟨s 7,n (t 6),o⟩,⟨s 8,m (v (i I 0)),o⟩]) (B 0 (L (q (g [⟨s 9,b .lss (t 8) (t 7),o⟩]) (q (c (t 9) k (x 0)) (q (B 1 (q (g [⟨s 10,m (t 8),o⟩,⟨s 5,m (t 10),o⟩]) (q (g [⟨s 11,m (t 1),o⟩,⟨s 12,m (t 0),o⟩,⟨s 13,m (t 5),o⟩,⟨s 14,a 1 (t 12) (t 13),o⟩,⟨s 15,l o (t 14),o⟩,⟨s 16,b .eql (t 11) (t 15),o⟩]) (c (t 16) (q (g [⟨s 17,m (t 5),o⟩,⟨s 4,m (t 17),o⟩]) R) k)))) (g [⟨s 18,b .add (t 8) (v (i I 1)),o⟩,⟨s 8,m (t 18),o⟩]))))))) (q (g [⟨s 4,m (v (i I (-1))),o⟩]) R))),[.tmp 4]⟩
def c74 : RFunc := ⟨148,.code (q (g [⟨s 10,m (v (w T)),o⟩]) (q (g [⟨s 11,m (v (w T)),o⟩]) (B 0 (L (B 1 (q (g [⟨s 21,m (t 2),o⟩,⟨s 22,m (t 1),o⟩,⟨s 23,b .sub (t 21) (t 22),o⟩,⟨s 12,m (t 23),o⟩]) (q (q (g [⟨s 24,m (t 12),o⟩,⟨s 25,b .leq (t 24) (v (i I 12)),o⟩]) (c (t 25) (q (g [⟨s 26,m (t 0),o⟩,⟨s 27,m (t 1),o⟩,⟨s 28,m (t 2),o⟩,⟨s 29,m (t 4),o⟩,⟨s 30,C (v (F (J 86) [] [])) [t 26,t 27,t 28,t 29],o⟩]) R) k)) (q (q (g [⟨s 31,m (t 3),o⟩,⟨s 32,b .eql (t 31) (v (i I 0)),o⟩]) (c (t 32) (q (g [⟨s 33,m (t 0),o⟩,⟨s 34,m (t 1),o⟩,⟨s 35,m (t 2),o⟩,⟨s 36,m (t 4),o⟩,⟨s 37,C (v (F (J 87) [] [])) [t 33,t 34,t 35,t 36],o⟩]) R) k)) (q (q (g [⟨s 38,m (t 10),o⟩,⟨s 39,.un .not (t 38),o⟩]) (c (t 39) (q (g [⟨s 40,m (t 0),o⟩,⟨s 41,m (t 1),o⟩,⟨s 42,m (t 2),o⟩,⟨s 43,m (t 4),o⟩,⟨s 44,C (v (F (J 88) [] [])) [t 40,t 41,t 42,t 43],o⟩]) (g [⟨s 45,m (t 3),o⟩,⟨s 46,b .sub (t 45) (v (i I 1)),o⟩,⟨s 3,m (t 46),o⟩])) k)) (q (g [⟨s 48,m (t 0),o⟩,⟨s 49,m (t 1),o⟩,⟨s 50,m (t 2),o⟩,⟨s 51,m (t 4),o⟩,⟨s 52,C (v (F (J 89) [] [])) [t 48,t 49,t 50,t 51],o⟩,⟨s 47,m (t 52),o⟩,⟨s 53,e (t 47) 0,o⟩,⟨s 54,e (t 47) 1,o⟩,⟨s 13,m (t 53),o⟩,⟨s 14,m (t 54),o⟩]) (q (q (g [⟨s 55,m (t 14),o⟩,⟨s 56,b .eql (t 55) (v (i I 2)),o⟩]) (c (t 56) (q (g [⟨s 57,m (t 0),o⟩,⟨s 58,m (t 1),o⟩,⟨s 59,m (t 2),o⟩,⟨s 60,m (t 4),o⟩,⟨s 61,C (v (F (J 90) [] [])) [t 57,t 58,t 59,t 60],o⟩]) (q (g [⟨s 62,m (t 2),o⟩,⟨s 63,b .sub (t 62) (v (i I 1)),o⟩,⟨s 64,m (t 13),o⟩,⟨s 65,m (t 1),o⟩,⟨s 66,b .sub (t 64) (t 65),o⟩,⟨s 67,b .sub (t 63) (t 66),o⟩,⟨s 13,m (t 67),o⟩]) (g [⟨s 14,m (v (i I 1)),o⟩]))) k)) (q (q (g [⟨s 68,m (t 10),o⟩,⟨s 69,m (t 68),o⟩,⟨s 70,m (t 11),s (69,T)⟩,⟨s 71,p (t 69) (t 70) (v (w U)),o⟩,⟨s 72,m (t 71),o⟩,⟨s 73,m (t 14),s (72,T)⟩,⟨s 74,b .eql (t 73) (v (i I 1)),s (72,T)⟩,⟨s 75,p (t 72) (t 74) (v (w U)),o⟩]) (c (t 75) (q (g [⟨s 76,m (t 0),o⟩,⟨s 77,m (t 1),o⟩,⟨s 78,m (t 2),o⟩,⟨s 79,m (t 4),o⟩,⟨s 80,C (v (F (J 91) [] [])) [t 76,t 77,t 78,t 79],o⟩]) (c (t 80) R k)) k)) (q (q (G [⟨⟨s 81,m (t 1),o⟩,0,0,T⟩,⟨⟨s 82,b .gtr (t 81) (v (i I 0)),o⟩,1,0,T⟩,⟨⟨s 83,m (t 82),o⟩,3,0,T⟩,⟨⟨s 84,m (t 4),s (83,T)⟩,7,0,T⟩,⟨⟨s 85,m (t 0),s (83,T)⟩,7,0,T⟩,⟨⟨s 86,m (t 1),s (83,T)⟩,7,0,T⟩,⟨⟨s 87,b .sub (t 86) (v (i I 1)),s (83,T)⟩,39,0,T⟩,⟨⟨s 88,a 1 (t 85) (t 87),s (83,T)⟩,119,0,T⟩,⟨⟨s 89,l o (t 88),s (83,T)⟩,247,1,T⟩,⟨⟨s 90,m (t 0),s (83,T)⟩,7,0,T⟩,⟨⟨s 91,m (t 13),s (83,T)⟩,7,0,T⟩,⟨⟨s 92,a 1 (t 90) (t 91),s (83,T)⟩,1543,0,T⟩,⟨⟨s 93,l o (t 92),s (83,T)⟩,3591,1,T⟩,⟨⟨s 94,C (t 84) [t 89,t 93],s (83,T)⟩,8191,2,U⟩,⟨⟨s 95,b .lss (t 94) (v (i I 0)),s (83,T)⟩,16383,0,U⟩,⟨⟨s 96,.un .not (t 95),s (83,T)⟩,32767,0,U⟩,⟨⟨s 97,p (t 83) (t 96) (v (w U)),o⟩,65535,0,U⟩]) (c (t 97) (q (g [⟨s 98,m (t 0),o⟩,⟨s 99,m (t 1),o⟩,⟨s 100,m (t 2),o⟩,⟨s 101,m (t 13),o⟩,⟨s 102,m (t 4),o⟩,⟨s 103,C (v (F (J 92) [] [])) [t 98,t 99,t 100,t 101,t 102],o⟩,⟨s 15,m (t 103),o⟩]) (q (g [⟨s 104,m (t 15),o⟩,⟨s 1,m (t 104),o⟩]) (x 1))) k)) (q (g [⟨s 106,m (t 0),o⟩,⟨s 107,m (t 1),o⟩,⟨s 108,m (t 2),o⟩,⟨s 109,m (t 13),o⟩,⟨s 110,m (t 4),o⟩,⟨s 111,C (v (F (J 93) [] [])) [t 106,t 107,t 108,t 109,t 110],o⟩,⟨s 105,m (t 111),o⟩,⟨s 112,e (t 105) 0,o⟩,⟨s 113,e (t 105) 1,o⟩,⟨s 16,m (t 112),o⟩,⟨s 17,m (t 113),o⟩]) (q (g [⟨s 114,m (t 17),o⟩,⟨s 11,m (t 114),o⟩]) (q (g [⟨s 115,m (t 16),o⟩,⟨s 116,m (t 1),o⟩,⟨s 117,b .sub (t 115) (t 116),o⟩,⟨s 118,m (t 2),o⟩,⟨s 119,m (t 16),o⟩,⟨s 120,b .sub (t 118) (t 119),o⟩,⟨s 18,m (t 117),o⟩,⟨s 19,m (t 120),o⟩]) (q (g [⟨s 121,m (t 12),o⟩,⟨s 122,b .quo (t 121) (v (i I 8)),o⟩,⟨s 20,m (t 122),o⟩]) (q (g [⟨s 123,m (t 18),o⟩,⟨s 124,m (t 19),o⟩,⟨s 125,b .lss (t 123) (t 124),o⟩]) (c (t 125) (q (g [⟨s 126,m (t 18),o⟩,⟨s 127,m (t 20),o⟩,⟨s 128,b .geq (t 126) (t 127),o⟩,⟨s 10,m (t 128),o⟩]) (q (g [⟨s 129,m (t 0),o⟩,⟨s 130,m (t 1),o⟩,⟨s 131,m (t 16),o⟩,⟨s 132,m (t 3),o⟩,⟨s 133,m (t 4),o⟩,⟨s 134,C (v (F (J 74) [] [])) [t 129,t 130,t 131,t 132,t 133],o⟩]) (g [⟨s 135,m (t 16),o⟩,⟨s 136,b .add (t 135) (v (i I 1)),o⟩,⟨s 1,m (t 136),o⟩]))) (q (g [⟨s 137,m (t 19),o⟩,⟨s 138,m (t 20),o⟩,⟨s 139,b .geq (t 137) (t 138),o⟩,⟨s 10,m (t 139),o⟩]) (q (g [⟨s 140,m (t 0),o⟩,⟨s 141,m (t 16),o⟩,⟨s 142,b .add (t 141) (v (i I 1)),o⟩,⟨s 143,m (t 2),o⟩,⟨s 144,m (t 3),o⟩,⟨s 145,m (t 4),o⟩,⟨s 146,C (v (F (J 74) [] [])) [t 140,t 142,t 143,t 144,t 145],o⟩]) (g [⟨s 147,m (t 16),o⟩,⟨s 2,m (t 147),o⟩])))))))))))))))))))))),[]⟩
def c75 : RFunc := ⟨8,.code (q (g [⟨s 2,m (v (i I 0)),o⟩]) (q (c (v (w U)) (q (g [⟨s 3,m (t 0),o⟩,⟨s 4,.convInt .u32 (t 3),o⟩,⟨s 5,C (v (F (J 94) [] [])) [t 4],o⟩,⟨s 2,m (t 5),o⟩]) R) k) (q (g [⟨s 6,m (t 0),o⟩,⟨s 7,C (v (F (J 95) [] [])) [t 6],o⟩,⟨s 2,m (t 7),o⟩]) R))),[.tmp 2]⟩
def c77 : RFunc := ⟨8,.code (q (g [⟨s 2,m (v N),o⟩]) (q (q (g [⟨s 3,m (t 0),o⟩,⟨s 4,.eq U .slice (t 3) (v N),o⟩]) (c (t 4) (q (g [⟨s 2,m (v N),o⟩]) R) k)) (q (g [⟨s 5,.buildSlice 3 1 0 [] [],o⟩,⟨s 6,m (t 0),o⟩,⟨s 7,.append 3 1 8 (t 5) (t 6),o⟩,⟨s 2,m (t 7),o⟩]) R))),[.tmp 2]⟩
def c78 : RFunc := ⟨7,.code (q (g [⟨s 2,m (v N),o⟩]) (q (g [⟨s 3,m (v N),o⟩]) (q (g [⟨s 4,m (t 3),o⟩,⟨s 5,m (t 0),o⟩,⟨s 6,.append 3 1 8 (t 4) (t 5),o⟩,⟨s 2,m (t 6),o⟩]) R))),[.tmp 2]⟩
def c79 : RFunc := ⟨44,.code (q (g [⟨s 8,l o (t 1),o⟩,⟨s 9,m (v (i I 0)),o⟩]) (B 0 (L (q (g [⟨s 10,b .lss (t 9) (t 8),o⟩]) (q (c (t 10) k (x 0)) (q (B 1 (q (g [⟨s 11,m (t 9),o⟩,⟨s 5,m (t 11),o⟩]) (q (g [⟨s 6,m (v (i I 0)),o⟩]) (B 2 (L (q (q (g [⟨s 12,m (t 6),o⟩,⟨s 13,l o (t 2),o⟩,⟨s 14,b .lss (t 12) (t 13),o⟩]) (c (t 14) k (x 2))) (q (B 3 (q (q (g [⟨s 17,l o (t 3),o⟩,⟨s 18,m (t 5),o⟩,⟨s 19,m (t 6),o⟩,⟨s 20,C (t 17) [t 18,t 19],o⟩,⟨s 21,.un .not (t 20),o⟩]) (c (t 21) (x 3) k)) (q (g [⟨s 22,m (t 6),o⟩,⟨s 7,m (t 22),o⟩]) (q (B 4 (L (q (q (g [⟨s 23,m (t 6),o⟩,⟨s 24,b .add (t 23) (v (i I 1)),o⟩,⟨s 25,l o (t 2),o⟩,⟨s 26,b .lss (t 24) (t 25),o⟩,⟨s 27,m (t 26),o⟩,⟨s 28,l o (t 3),s (27,T)⟩,⟨s 29,m (t 5),s (27,T)⟩,⟨s 30,m (t 6),s (27,T)⟩,⟨s 31,b .add (t 30) (v (i I 1)),s (27,T)⟩,⟨s 32,C (t 28) [t 29,t 31],s (27,T)⟩,⟨s 33,p (t 27) (t 32) (v (w U)),o⟩]) (c (t 33) k (x 4))) (B 5 (g [⟨s 34,m (t 6),o⟩,⟨s 35,b .add (t 34) (v (i I 1)),o⟩,⟨s 6,m (t 35),o⟩]))))) (q (g [⟨s 36,m (t 0),o⟩,⟨s 37,m (t 5),o⟩,⟨s 38,m (t 7),o⟩,⟨s 39,m (t 6),o⟩,⟨s 40,.build [(i I 0),(i I 0),(i I 0)] [(0,1,(t 37)),(1,1,(t 38)),(2,1,(t 39))],o⟩,⟨s 41,C (t 36) [t 40],o⟩,⟨s 42,.un .not (t 41),o⟩]) (c (t 42) R k)))))) (g [⟨s 15,m (t 6),o⟩,⟨s 16,b .add (t 15) (v (i I 1)),o⟩,⟨s 6,m (t 16),o⟩])))))))) (g [⟨s 43,b .add (t 9) (v (i I 1)),o⟩,⟨s 9,m (t 43),o⟩]))))))),[]⟩
def c80 : RFunc := ⟨26,.code (q (g [⟨s 4,m (v (w U)),o⟩]) (q (q (g [⟨s 6,m (t 0),o⟩,⟨s 7,n (t 6),o⟩,⟨s 8,m (t 1),o⟩,⟨s 9,n (t 8),o⟩,⟨s 10,b .neq (t 7) (t 9),o⟩]) (c (t 10) (q (g [⟨s 4,m (v (w U)),o⟩]) R) k)) (q (q (g [⟨s 5,m (v (i I 0)),o⟩]) (B 0 (L (q (q (g [⟨s 11,m (t 5),o⟩,⟨s 12,m (t 0),o⟩,⟨s 13,n (t 12),o⟩,⟨s 14,b .lss (t 11) (t 13),o⟩]) (c (t 14) k (x 0))) (q (B 1 (q (G [⟨⟨s 17,m (t 0),o⟩,0,0,T⟩,⟨⟨s 18,m (t 5),o⟩,0,0,T⟩,⟨⟨s 19,a 1 (t 17) (t 18),o⟩,3,0,T⟩,⟨⟨s 20,l o (t 19),o⟩,7,1,T⟩,⟨⟨s 21,m (t 1),o⟩,0,0,T⟩,⟨⟨s 22,m (t 5),o⟩,0,0,T⟩,⟨⟨s 23,a 1 (t 21) (t 22),o⟩,48,0,T⟩,⟨⟨s 24,l o (t 23),o⟩,112,1,T⟩,⟨⟨s 25,b .neq (t 20) (t 24),o⟩,255,0,T⟩]) (c (t 25) (q (g [⟨s 4,m (v (w U)),o⟩]) R) k))) (g [⟨s 15,m (t 5),o⟩,⟨s 16,b .add (t 15) (v (i I 1)),o⟩,⟨s 5,m (t 16),o⟩])))))) (q (g [⟨s 4,m (v (w T)),o⟩]) R)))),[.tmp 4]⟩
def c81 : RFunc := ⟨9,.code (q (g [⟨s 2,m (v (w U)),o⟩]) (q (g [⟨s 3,m (t 0),o⟩,⟨s 4,b .geq (t 3) (v (i I 0)),o⟩,⟨s 5,m (t 4),o⟩,⟨s 6,m (t 0),s (5,T)⟩,⟨s 7,b .leq (t 6) (v (i I 640)),s (5,T)⟩,⟨s 8,p (t 5) (t 7) (v (w U)),o⟩,⟨s 2,m (t 8),o⟩]) R)),[.tmp 2]⟩
def c85 : RFunc := ⟨6,.code (q (g [⟨s 2,.box 3 (t 0),o⟩,⟨s 3,.box 3 (t 1),o⟩,⟨s 4,m (v .nfunc),o⟩]) (q (g [⟨s 5,.mkFunc (J 102) [] [t 2,t 3],o⟩,⟨s 4,m (t 5),o⟩]) R)),[.tmp 4]⟩
def c86 : RFunc := ⟨53,.code (q (g [⟨s 10,m (t 1),o⟩,⟨s 11,b .add (t 10) (v (i I 1)),o⟩,⟨s 8,m (t 11),o⟩]) (B 0 (L (q (q (g [⟨s 12,m (t 8),o⟩,⟨s 13,m (t 2),o⟩,⟨s 14,b .lss (t 12) (t 13),o⟩]) (c (t 14) k (x 0))) (q (B 1 (q (g [⟨s 17,m (t 8),o⟩,⟨s 9,m (t 17),o⟩]) (B 2 (L (q (q (G [⟨⟨s 18,m (t 9),o⟩,0,0,T⟩,⟨⟨s 19,m (t 1),o⟩,0,0,T⟩,⟨⟨s 20,b .gtr (t 18) (t 19),o⟩,3,0,T⟩,⟨⟨s 21,m (t 20),o⟩,7,0,T⟩,⟨⟨s 22,m (t 3),s (21,T)⟩,15,0,T⟩,⟨⟨s 23,m (t 0),s (21,T)⟩,15,0,T⟩,⟨⟨s 24,m (t 9),s (21,T)⟩,15,0,T⟩,⟨⟨s 25,a 1 (t 23) (t 24),s (21,T)⟩,111,0,T⟩,⟨⟨s 26,l o (t 25),s (21,T)⟩,239,1,T⟩,⟨⟨s 27,m (t 0),s (21,T)⟩,15,0,T⟩,⟨⟨s 28,m (t 9),s (21,T)⟩,15,0,T⟩,⟨⟨s 29,b .sub (t 28) (v (i I 1)),s (21,T)⟩,1039,0,T⟩,⟨⟨s 30,a 1 (t 27) (t 29),s (21,T)⟩,3599,0,T⟩,⟨⟨s 31,l o (t 30),s (21,T)⟩,7695,1,T⟩,⟨⟨s 32,C (t 22) [t 26,t 31],s (21,T)⟩,16383,2,U⟩,⟨⟨s 33,b .lss (t 32) (v (i I 0)),s (21,T)⟩,32767,0,U⟩,⟨⟨s 34,p (t 21) (t 33) (v (w U)),o⟩,65535,0,U⟩]) (c (t 34) k (x 2))) (q (B 3 (G [⟨⟨s 37,m (t 0),o⟩,0,0,T⟩,⟨⟨s 38,m (t 9),o⟩,0,0,T⟩,⟨⟨s 39,m (t 0),o⟩,0,0,T⟩,⟨⟨s 40,m (t 9),o⟩,0,0,T⟩,⟨⟨s 41,b .sub (t 40) (v (i I 1)),o⟩,8,0,T⟩,⟨⟨s 42,m (t 0),o⟩,0,0,T⟩,⟨⟨s 43,m (t 9),o⟩,0,0,T⟩,⟨⟨s 44,b .sub (t 43) (v (i I 1)),o⟩,64,0,T⟩,⟨⟨s 45,a 1 (t 42) (t 44),o⟩,224,0,T⟩,⟨⟨s 46,l o (t 45),o⟩,480,1,T⟩,⟨⟨s 47,m (t 0),o⟩,0,0,T⟩,⟨⟨s 48,m (t 9),o⟩,0,0,T⟩,⟨⟨s 49,a 1 (t 47) (t 48),o⟩,3072,0,T⟩,⟨⟨s 50,l o (t 49),o⟩,7168,1,T⟩,⟨⟨s 51,a 1 (t 37) (t 38),o⟩,16355,0,T⟩,⟨⟨o,S 1 (t 51) (t 46),o⟩,32739,2,U⟩,⟨⟨s 52,a 1 (t 39) (t 41),o⟩,65535,0,T⟩,⟨⟨o,S 1 (t 52) (t 50),o⟩,131071,2,U⟩])) (g [⟨s 35,m (t 9),o⟩,⟨s 36,b .sub (t 35) (v (i I 1)),o⟩,⟨s 9,m (t 36),o⟩]))))))) (g [⟨s 15,m (t 8),o⟩,⟨s 16,b .add (t 15) (v (i I 1)),o⟩,⟨s 8,m (t 16),o⟩])))))),[]⟩
def c95 : RFunc := ⟨25,.code (q (g [⟨s 2,m (v (i I 0)),o⟩]) (q (q (g [⟨s 3,m (t 0),o⟩,⟨s 4,b .geq (t 3) (v (i .u64 4294967296)),o⟩]) (c (t 4) (q (g [⟨s 5,m (t 0),o⟩,⟨s 6,b .shr (t 5) (v (i .u64 32)),o⟩,⟨s 0,m (t 6),o⟩]) (g [⟨s 2,m (v (i I 32)),o⟩])) k)) (q (q (g [⟨s 7,m (t 0),o⟩,⟨s 8,b .geq (t 7) (v (i .u64 65536)),o⟩]) (c (t 8) (q (g [⟨s 9,m (t 0),o⟩,⟨s 10,b .shr (t 9) (v (i .u64 16)),o⟩,⟨s 0,m (t 10),o⟩]) (g [⟨s 11,m (t 2),o⟩,⟨s 12,b .add (t 11) (v (i I 16)),o⟩,⟨s 2,m (t 12),o⟩])) k)) (q (q (g [⟨s 13,m (t 0),o⟩,⟨s 14,b .geq (t 13) (v (i .u64 256)),o⟩]) (c (t 14) (q (g [⟨s 15,m (t 0),o⟩,⟨s 16,b .shr (t 15) (v (i .u64 8)),o⟩,⟨s 0,m (t 16),o⟩]) (g [⟨s 17,m (t 2),o⟩,⟨s 18,b .add (t 17) (v (i I 8)),o⟩,⟨s 2,m (t 18),o⟩])) k)) (q (g [⟨s 19,m (t 2),o⟩,⟨s 20,m (t 0),o⟩,⟨s 21,.convInt .u8 (t 20),o⟩,⟨s 22,.indexStr (v (.str ⟨#[0,1,2,2,3,3,3,3,4,4,4,4,4,4,4,4,5,5,5,5,5,5,5,5,5,5,5,5,5,5,5,5,6,6,6,6,6,6,6,6,6,6,6,6,6,6,6,6,6,6,6,6,6,6,6,6,6,6,6,6,6,6,6,6,7,7,7,7,7,7,7,7,7,7,7,7,7,7,7,7,7,7,7,7,7,7,7,7,7,7,7,7,7,7,7,7,7,7,7,7,7,7,7,7,7,7,7,7,7,7,7,7,7,7,7,7,7,7,7,7,7,7,7,7,7,7,7,7,8,8,8,8,8,8,8,8,8,8,8,8,8,8,8,8,8,8,8,8,8,8,8,8,8,8,8,8,8,8,8,8,8,8,8,8,8,8,8,8,8,8,8,8,8,8,8,8,8,8,8,8,8,8,8,8,8,8,8,8,8,8,8,8,8,8,8,8,8,8,8,8,8,8,8,8,8,8,8,8,8,8,8,8,8,8,8,8,8,8,8,8,8,8,8,8,8,8,8,8,8,8,8,8,8,8,8,8,8,8,8,8,8,8,8,8,8,8,8,8,8,8,8,8,8,8,8,8]⟩)) (t 21),o⟩,⟨s 23,.convInt I (t 22),o⟩,⟨s 24,b .add (t 19) (t 23),o⟩,⟨s 2,m (t 24),o⟩]) R))))),[.tmp 2]⟩
def c102 : RFunc := ⟨21,.code (q (g [⟨s 5,l o (t 1),o⟩,⟨s 6,b .sub (t 5) (v (i I 1)),o⟩,⟨s 7,.minmax T [t 6,(v (i I 0))],o⟩,⟨s 4,m (t 7),o⟩]) (B 0 (L (q (q (g [⟨s 8,m (t 4),o⟩,⟨s 9,l o (t 1),o⟩,⟨s 10,b .add (t 9) (v (i I 1)),o⟩,⟨s 11,l o (t 2),o⟩,⟨s 12,b .sub (t 11) (v (i I 1)),o⟩,⟨s 13,.minmax U [t 10,t 12],o⟩,⟨s 14,b .leq (t 8) (t 13),o⟩]) (c (t 14) k (x 0))) (q (B 1 (q (g [⟨s 17,m (t 0),o⟩,⟨s 18,m (t 4),o⟩,⟨s 19,C (t 17) [t 18],o⟩,⟨s 20,.un .not (t 19),o⟩]) (c (t 20) R k))) (g [⟨s 15,m (t 4),o⟩,⟨s 16,b .add (t 15) (v (i I 1)),o⟩,⟨s 4,m (t 16),o⟩])))))),[]⟩
end
end Go.Am

namespace Go.Am
open Go
def ext : Exts := fun k args => match k with
  | 0 => aCount args
  | 1 => aIndexByte args
  | 2 => aSelf args
  | 3 => aClosed aroundT (.bool true) args
  | _ => M.fail
def prog0 : FuncId → Option RFunc := fun f => (cond (Nat.blt f 51) (cond (Nat.blt f 40) (cond (Nat.blt f 21) (cond (Nat.blt f 19) (cond (Nat.blt f 18) (cond (Nat.beq f 5) (some c5) none) (cond (Nat.beq f 18) (some c18) none)) (cond (Nat.blt f 20) (cond (Nat.beq f 19) (some c19) none) (cond (Nat.beq f 20) (some c20) none))) (cond (Nat.blt f 23) (cond (Nat.blt f 22) (cond (Nat.beq f 21) (some c21) none) (cond (Nat.beq f 22) (some c22) none)) (cond (Nat.blt f 39) (cond (Nat.beq f 23) (some c23) none) (cond (Nat.beq f 39) (some c39) none)))) (cond (Nat.blt f 44) (cond (Nat.blt f 42) (cond (Nat.blt f 41) (cond (Nat.beq f 40) (some c40) none) (cond (Nat.beq f 41) (some c41) none)) (cond (Nat.blt f 43) (cond (Nat.beq f 42) (some c42) none) (cond (Nat.beq f 43) (some c43) none))) (cond (Nat.blt f 48) (cond (Nat.blt f 47) (cond (Nat.beq f 44) (some c44) none) (cond (Nat.beq f 47) (some c47) none)) (cond (Nat.blt f 49) (cond (Nat.beq f 48) (some c48) none) (cond (Nat.blt f 50) (cond (Nat.beq f 49) (some c49) none) (cond (Nat.beq f 50) (some c50) none)))))) (cond (Nat.blt f 74) (cond (Nat.blt f 69) (cond (Nat.blt f 67) (cond (Nat.blt f 66) (cond (Nat.beq f 51) (some c51) none) (cond (Nat.beq f 66) (some c66) none)) (cond (Nat.blt f 68) (cond (Nat.beq f 67) (some c67) none) (cond (Nat.beq f 68) (some c68) none))) (cond (Nat.blt f 71) (cond (Nat.blt f 70) (cond (Nat.beq f 69) (some c69) none) (cond (Nat.beq f 70) (some c70) none)) (cond (Nat.blt f 72) (cond (Nat.beq f 71) (some c71) none) (cond (Nat.blt f 73) (cond (Nat.beq f 72) (some c72) none) (cond (Nat.beq f 73) (some c73) none))))) (cond (Nat.blt f 83) (cond (Nat.blt f 77) (cond (Nat.blt f 75) (cond (Nat.beq f 74) (some c74) none) (cond (Nat.beq f 75) (some c75) none)) (cond (Nat.blt f 81) (cond (Nat.beq f 77) (some c77) none) (cond (Nat.beq f 81) (some c81) none))) (cond (Nat.blt f 86) (cond (Nat.blt f 85) (cond (Nat.beq f 83) (some ⟨0, .ext 0, []⟩) none) (cond (Nat.beq f 85) (some c85) none)) (cond (Nat.blt f 95) (cond (Nat.beq f 86) (some c86) none) (cond (Nat.blt f 102) (cond (Nat.beq f 95) (some c95) none) (cond (Nat.beq f 102) (some c102) none)))))))
def prog : FuncId → Option RFunc := fun f => (cond (Nat.blt f 36) (cond (Nat.blt f 16) (cond (Nat.blt f 9) (cond (Nat.blt f 6) (cond (Nat.blt f 4) (cond (Nat.beq f 3) (some c3) none) (cond (Nat.blt f 5) (cond (Nat.beq f 4) (some c4) none) (cond (Nat.beq f 5) (some ⟨0, .ext 3, []⟩) none))) (cond (Nat.blt f 7) (cond (Nat.beq f 6) (some c6) none) (cond (Nat.blt f 8) (cond (Nat.beq f 7) (some c7) none) (cond (Nat.beq f 8) (some c8) none)))) (cond (Nat.blt f 12) (cond (Nat.blt f 10) (cond (Nat.beq f 9) (some c9) none) (cond (Nat.blt f 11) (cond (Nat.beq f 10) (some c10) none) (cond (Nat.beq f 11) (some c11) none))) (cond (Nat.blt f 14) (cond (Nat.blt f 13) (cond (Nat.beq f 12) (some c12) none) (cond (Nat.beq f 13) (some c13) none)) (cond (Nat.blt f 15) (cond (Nat.beq f 14) (some c14) none) (cond (Nat.beq f 15) (some c15) none))))) (cond (Nat.blt f 29) (cond (Nat.blt f 25) (cond (Nat.blt f 17) (cond (Nat.beq f 16) (some c16) none) (cond (Nat.blt f 24) (cond (Nat.beq f 17) (some c17) none) (cond (Nat.beq f 24) (some c24) none))) (cond (Nat.blt f 27) (cond (Nat.blt f 26) (cond (Nat.beq f 25) (some c25) none) (cond (Nat.beq f 26) (some c26) none)) (cond (Nat.blt f 28) (cond (Nat.beq f 27) (some c27) none) (cond (Nat.beq f 28) (some c28) none)))) (cond (Nat.blt f 32) (cond (Nat.blt f 30) (cond (Nat.beq f 29) (some c29) none) (cond (Nat.blt f 31) (cond (Nat.beq f 30) (some c30) none) (cond (Nat.beq f 31) (some c31) none))) (cond (Nat.blt f 34) (cond (Nat.blt f 33) (cond (Nat.beq f 32) (some c32) none) (cond (Nat.beq f 33) (some c33) none)) (cond (Nat.blt f 35) (cond (Nat.beq f 34) (some c34) none) (cond (Nat.beq f 35) (some c35) none)))))) (cond (Nat.blt f 61) (cond (Nat.blt f 54) (cond (Nat.blt f 39) (cond (Nat.blt f 37) (cond (Nat.beq f 36) (some c36) none) (cond (Nat.blt f 38) (cond (Nat.beq f 37) (some c37) none) (cond (Nat.beq f 38) (some c38) none))) (cond (Nat.blt f 52) (cond (Nat.blt f 47) (cond (Nat.beq f 39) (some c39) none) (cond (Nat.beq f 47) (some c47) none)) (cond (Nat.blt f 53) (cond (Nat.beq f 52) (some c52) none) (cond (Nat.beq f 53) (some c53) none)))) (cond (Nat.blt f 57) (cond (Nat.blt f 55) (cond (Nat.beq f 54) (some c54) none) (cond (Nat.blt f 56) (cond (Nat.beq f 55) (some c55) none) (cond (Nat.beq f 56) (some c56) none))) (cond (Nat.blt f 59) (cond (Nat.blt f 58) (cond (Nat.beq f 57) (some c57) none) (cond (Nat.beq f 58) (some c58) none)) (cond (Nat.blt f 60) (cond (Nat.beq f 59) (some c59) none) (cond (Nat.beq f 60) (some c60) none))))) (cond (Nat.blt f 68) (cond (Nat.blt f 64) (cond (Nat.blt f 62) (cond (Nat.beq f 61) (some c61) none) (cond (Nat.blt f 63) (cond (Nat.beq f 62) (some c62) none) (cond (Nat.beq f 63) (some c63) none))) (cond (Nat.blt f 66) (cond (Nat.blt f 65) (cond (Nat.beq f 64) (some c64) none) (cond (Nat.beq f 65) (some c65) none)) (cond (Nat.blt f 67) (cond (Nat.beq f 66) (some c66) none) (cond (Nat.beq f 67) (some c67) none)))) (cond (Nat.blt f 80) (cond (Nat.blt f 78) (cond (Nat.beq f 68) (some c68) none) (cond (Nat.blt f 79) (cond (Nat.beq f 78) (some c78) none) (cond (Nat.beq f 79) (some c79) none))) (cond (Nat.blt f 83) (cond (Nat.blt f 81) (cond (Nat.beq f 80) (some c80) none) (cond (Nat.beq f 81) (some c81) none)) (cond (Nat.blt f 108) (cond (Nat.beq f 83) (some ⟨0, .ext 0, []⟩) none) (cond (Nat.beq f 108) (some ⟨0, .ext 1, []⟩) none)))))))
end Go.Am

namespace Go.Am
open Go Go.RowKit
section
variable {P : Program} {S : Base} {m : RMap} {H H' : AHeap} {w : World}
theorem aBytesFn_some {f : List UInt8 → AVal} {e : Array Value → Sem Value} {bv : Value} (hstr : ∀ (s : ByteArray) (w : World), ∃ y, (e #[.string s, bv]).run P w = .ok y w ∧ emb m (f s.data.toList) = some y)
    (hnil : ∀ (l c : Nat) (w : World), ∃ y, (e #[.slice none l c, bv]).run P w = .ok y w ∧ emb m (f []) = some y)
    (hsl : ∀ (a : Addr) (n c : Nat) (xs : List Int) (w : World), xs.length = n → (∀ j x, xs[j]? = some x → w.cell? (a.add j) = some (.int .u8 x)) → ∃ y, (e #[.slice (some a) n c, bv]).run P w = .ok y w ∧ emb m (f (xs.map fun n => UInt8.ofNat n.toNat)) = some y)
    {av u : AVal} {x : Value} (ha : emb m av = some x) (h : HRel S m H w) (hx : aBytesFn f av H = some (u, H')) : ∃ y, (e #[x, bv]).run P w = .ok y w ∧ Out S m u H' y w := by
  cases av with
  | nslice =>
    obtain ⟨rfl, rfl⟩ := pure_some hx
    simp only [emb] at ha; cases ha
    obtain ⟨y, h1, h2⟩ := hnil 0 0 w
    exact ⟨y, h1, Out.same h h2⟩
  | str s =>
    obtain ⟨rfl, rfl⟩ := pure_some hx
    simp only [emb] at ha; cases ha
    obtain ⟨y, h1, h2⟩ := hstr s w
    exact ⟨y, h1, Out.same h h2⟩
  | slice r off len cap s =>
    obtain ⟨p, hp, rfl⟩ := emb_slice_some ha
    simp only [aBytesFn] at hx
    by_cases hs : s ≠ 1
    · rw [if_pos hs] at hx; exact (fail_some hx).elim
    · rw [if_neg hs] at hx
      obtain ⟨⟨cs, rw⟩, H1, h1, h2⟩ := bind_some hx
      obtain ⟨rfl, hr, e', hg⟩ := aRow_some h1
      simp only [] at h2
      by_cases hq : off + len ≤ cs.length
      · rw [if_pos hq] at h2
        cases hb : bytesOf ((cs.drop off).take len) with
        | none => rw [hb] at h2; exact (fail_some h2).elim
        | some l =>
          rw [hb] at h2
          obtain ⟨rfl, rfl⟩ := pure_some h2
          obtain ⟨ns, hns, rfl⟩ := bytesOf_some hb
          have hok := h.row r cs rw e' p hr hg hp
          have hlen : ns.length = len := by
            have h1 : ((cs.drop off).take len).length = len := by simp; omega
            rw [hns] at h1; simpa using h1
          obtain ⟨y, h3, h4⟩ := hsl (p.1.add off) len (capR cap ((p.2 - off) / s)) ns w hlen fun j b hj => by
            have hjn : j < len := by rw [← hlen]; exact (List.getElem?_eq_some_iff.1 hj).1
            have h1 : cs[off + j]? = some (.int .u8 b) := by
              have h2 : ((cs.drop off).take len)[j]? = some (.int .u8 b) := by rw [hns]; simp [hj]
              rw [List.getElem?_take_of_lt hjn, List.getElem?_drop] at h2; exact h2
            obtain ⟨y, h3, h4⟩ := hok.cell _ _ h1
            simp only [emb] at h3; cases h3
            rw [add_add]; exact h4
          exact ⟨y, h3, Out.same h h4⟩
      · rw [if_neg hq] at h2; exact (fail_some h2).elim
  | _ => exact (fail_some (H := H) hx).elim
theorem yields_extern {f : FuncId} {fn : Func} {e : Array Value → Sem Value} (hf : P.funcs[f]? = some fn) (hname : (fn.name == "runtime.NumGoroutine") = false)
    (hb : fn.body.isNone = true) (hn : Extern.findNext fn = none) (he : Extern.find fn = some e) {args : Array Value} {y : Value} {R : Value → World → Prop} (hr : (e args).run P w = .ok y w) (h : R y w) : Yields P (callFunc f args) w R := by
  unfold Yields
  rw [run_callFunc_extern hf hname hb hn he, hr]
  exact h
theorem sem_bind_of {α β : Type} {P : Program} {w : World} {x : Sem α} {f : α → Sem β} {a : α} {w' : World} {r : Result β} (h : x.run P w = .ok a w') (h2 : (x >>= f).run P w = r) : (f a).run P w' = r := by
  rw [← h2]
  simp [h]
theorem ext_count {ext : Exts} {k : Nat} (hk : ext k = aCount) {f : FuncId} {fn : Func} (hf : P.funcs[f]? = some fn) (hname : (fn.name == "runtime.NumGoroutine") = false)
    (hb : fn.body.isNone = true) (hn : Extern.findNext fn = none) (he : Extern.find fn = some Extern.BytealgCount.count) : ExtSim P ext f k := by
  intro S args H v H' m w vargs hG hx h ha
  rw [hk] at hx
  match args, hx, ha with
  | [x, .int .u8 b], hx, ha =>
    obtain ⟨y, ys, h1, h2, rfl⟩ := embL_cons ha
    obtain ⟨z, zs, h3, h4, rfl⟩ := embL_cons h2
    simp only [embL] at h4; cases h4
    simp only [emb] at h3; cases h3
    obtain ⟨q, h5, h6⟩ := aBytesFn_some (P := P) (e := Extern.BytealgCount.count) (bv := .int .u8 b) (f := fun l => .int .i64 (Lib.countByte l (UInt8.ofNat b.toNat)))
      (fun s w => ⟨_, Lib.run_countString s b w, by simp [emb] <;> rfl⟩)
      (fun l c w => ⟨_, Lib.run_countString .empty b w, by simp [emb] <;> rfl⟩)
      (fun a n c xs w hl hc => by
        have hload := Lib.run_loadBytesX (P := P) w xs a .empty hc
        rw [hl] at hload
        have hs := Lib.run_countString (P := P) ⟨(Lib.bytesOf xs).toArray⟩ b w
        have he : (⟨ByteArray.empty.data ++ (Lib.bytesOf xs).toArray⟩ : ByteArray) = ⟨(Lib.bytesOf xs).toArray⟩ := by
          apply ByteArray.ext
          show (#[] : Array UInt8) ++ (Lib.bytesOf xs).toArray = (Lib.bytesOf xs).toArray
          simp
        rw [he] at hload
        refine ⟨.int .i64 (Lib.countByte (Lib.bytesOf xs) b.toNat.toUInt8), ?_, by simp [emb] <;> rfl⟩
        have hb1 : (Extern.Bytes.bytesOf (.slice (some a) n c)).run P w = .ok ⟨(Lib.bytesOf xs).toArray⟩ w := by simpa [Extern.Bytes.bytesOf] using hload
        have hb2 : (Extern.Bytes.bytesOf (.string ⟨(Lib.bytesOf xs).toArray⟩)).run P w = .ok ⟨(Lib.bytesOf xs).toArray⟩ w := by simp [Extern.Bytes.bytesOf]
        refine sem_bind_ok hb1 ?_
        have hs2 := sem_bind_of hb2 hs
        exact hs2) h1 h hx
    exact yields_extern hf hname hb hn he h5 h6
theorem ext_indexByte {ext : Exts} {k : Nat} (hk : ext k = aIndexByte) {f : FuncId} {fn : Func} (hf : P.funcs[f]? = some fn) (hname : (fn.name == "runtime.NumGoroutine") = false)
    (hb : fn.body.isNone = true) (hn : Extern.findNext fn = none) (he : Extern.find fn = some Extern.BytealgIndexByte.indexByte) : ExtSim P ext f k := by
  intro S args H v H' m w vargs hG hx h ha
  rw [hk] at hx
  match args, hx, ha with
  | [x, .int .u8 b], hx, ha =>
    obtain ⟨y, ys, h1, h2, rfl⟩ := embL_cons ha
    obtain ⟨z, zs, h3, h4, rfl⟩ := embL_cons h2
    simp only [embL] at h4; cases h4
    simp only [emb] at h3; cases h3
    obtain ⟨q, h5, h6⟩ := aBytesFn_some (P := P) (e := Extern.BytealgIndexByte.indexByte) (bv := .int .u8 b) (f := fun l => .int .i64 (Lib.indexByte l (UInt8.ofNat b.toNat)))
      (fun s w => ⟨_, Lib.run_indexByteString s b w, by simp [emb] <;> rfl⟩)
      (fun l c w => ⟨_, Lib.run_indexByteNil w l c b, by simp [emb] <;> rfl⟩)
      (fun a n c xs w hl hc => by
        have hload := Lib.run_loadBytesX (P := P) w xs a .empty hc
        rw [hl] at hload
        have hs := Lib.run_indexByteString (P := P) ⟨(Lib.bytesOf xs).toArray⟩ b w
        have he : (⟨ByteArray.empty.data ++ (Lib.bytesOf xs).toArray⟩ : ByteArray) = ⟨(Lib.bytesOf xs).toArray⟩ := by
          apply ByteArray.ext
          show (#[] : Array UInt8) ++ (Lib.bytesOf xs).toArray = (Lib.bytesOf xs).toArray
          simp
        rw [he] at hload
        refine ⟨.int .i64 (Lib.indexByte (Lib.bytesOf xs) b.toNat.toUInt8), ?_, by simp [emb] <;> rfl⟩
        have hb1 : (Extern.Bytes.bytesOf (.slice (some a) n c)).run P w = .ok ⟨(Lib.bytesOf xs).toArray⟩ w := by simpa [Extern.Bytes.bytesOf] using hload
        have hb2 : (Extern.Bytes.bytesOf (.string ⟨(Lib.bytesOf xs).toArray⟩)).run P w = .ok ⟨(Lib.bytesOf xs).toArray⟩ w := by simp [Extern.Bytes.bytesOf]
        refine sem_bind_ok hb1 ?_
        have hs2 := sem_bind_of hb2 hs
        exact hs2) h1 h hx
    exact yields_extern hf hname hb hn he h5 h6
theorem ext_self {ext : Exts} {k : Nat} (hk : ext k = aSelf) {f : FuncId} {fn : Func} (hf : P.funcs[f]? = some fn) (hname : (fn.name == "runtime.NumGoroutine") = false)
    (hb : fn.body.isNone = true) (hn : Extern.findNext fn = none) (he : Extern.find fn = some Extern.AbiNoEscape.same) : ExtSim P ext f k := by
  intro S args H v H' m w vargs hG hx h ha
  rw [hk] at hx
  match args, hx, ha with
  | [x], hx, ha =>
    obtain ⟨y, ys, h1, h2, rfl⟩ := embL_cons ha
    simp only [embL] at h2; cases h2
    obtain ⟨rfl, rfl⟩ := pure_some hx
    have hr : (Extern.AbiNoEscape.same #[y]).run P w = .ok y w := by
      have : Extern.AbiNoEscape.same #[y] = pure y := rfl
      rw [this]; simp
    exact yields_extern hf hname hb hn he hr (Out.same h h1)
end
end Go.Am

set_option linter.unusedVariables false
namespace Go.Am
open Go
noncomputable def fA : AVal → AVal := @AVal.rec (fun _ => AVal) (fun _ => PUnit) AVal.bool AVal.int AVal.str AVal.nptr AVal.ptr AVal.nslice AVal.slice AVal.nfunc (fun f a b _ _ => AVal.func f a b) AVal.niface (fun t v _ => AVal.iface t v) (fun l _ => AVal.agg l) (fun l _ => AVal.tuple l) AVal.yield AVal.eslice AVal.map AVal.nmap PUnit.unit (fun _ _ _ _ => PUnit.unit)
theorem fA_eq (v : AVal) : fA v = v := by cases v <;> rfl
noncomputable def fO : AObj → AObj := @AObj.rec (fun _ => AObj) AObj.dead AObj.row AObj.iter AObj.loop AObj.mapo
theorem fO_eq (v : AObj) : fO v = v := by cases v <;> rfl
noncomputable def hF (H : AHeap) : AHeap := ⟨Nat.add H.n 0, fun i => fO (H.get i)⟩
theorem hF_eq (H : AHeap) : hF H = H := by simp only [hF, fO_eq]; rfl
noncomputable def xl (fr : AFrame) (d : Nat) (v : AVal) : AFrame := fun i => @Bool.rec (fun _ => AVal) (fA (fr i)) v (Nat.beq i d)
theorem xl_eq (fr : AFrame) (d : Nat) (v : AVal) : xl fr d v = upd fr d v := by
  funext i
  unfold xl upd
  rw [fA_eq]
  cases Nat.beq i d <;> rfl
noncomputable def xput (fr : AFrame) (d : Option Nat) (v : AVal) : AFrame := @Option.rec Nat (fun _ => AFrame) fr (fun d => xl fr d v) d
theorem xput_eq (fr : AFrame) (d : Option Nat) (v : AVal) : xput fr d v = put fr d v := by
  cases d with
  | none => rfl
  | some d => exact xl_eq fr d v
noncomputable def xev (fr : AFrame) (x : ROpd) : AVal := @ROpd.rec (fun _ => AVal) (fun t => fr t) (fun v => v) x
theorem xev_eq (fr : AFrame) (x : ROpd) : xev fr x = x.ev fr := by cases x <;> rfl
noncomputable def xwant (o : ROper) (fr : AFrame) : Bool := @Option.rec (Nat × Bool) (fun _ => Bool) true (fun g => match fr g.1 with | .bool b => (match g.2 with | true => b | false => !b) | _ => false) o.guard
theorem xwant_eq (o : ROper) (fr : AFrame) : xwant o fr = o.wanted fr := by
  unfold xwant ROper.wanted
  cases o.guard with
  | none => rfl
  | some g => rfl
noncomputable def xW (r : Option (AVal × AHeap)) : Option (AVal × AHeap) := match r with | some (v, H) => some (v, hF H) | none => none
theorem xW_eq (r : Option (AVal × AHeap)) : xW r = r := by
  cases r with
  | none => rfl
  | some p => simp only [xW, hF_eq]
abbrev XF := ACall → AFrame → AHeap → Option (AVal × AHeap)
noncomputable def x_mov : ROpd → XF := fun x _ fr H => some (xev fr x, H)
noncomputable def x_pick : ROpd → ROpd → ROpd → XF := fun c a b _ fr H => match xev fr c with | .bool t => some (match t with | true => xev fr a | false => xev fr b, H) | _ => none
noncomputable def x_new : TypeId → (List AVal) → XF := fun e cs _ _ H => some (.ptr H.n 0, hF (H.push (.row cs true (2 * e))))
noncomputable def x_box : TypeId → ROpd → XF := fun e x _ fr H => some (.ptr H.n 0, hF (H.push (.row (xev fr x).cells true (2 * e))))
noncomputable def x_build : (List AVal) → (List (Nat × Nat × ROpd)) → XF := fun x0 x1 call fr H => ROp.exec call fr (ROp.build x0 x1) H
noncomputable def x_buildSlice : TypeId → Nat → Nat → (List AVal) → (List (Nat × Nat × ROpd)) → XF := fun x0 x1 x2 x3 x4 call fr H => xW (ROp.exec call fr (ROp.buildSlice x0 x1 x2 x3 x4) H)
noncomputable def x_load : (Option Nat) → ROpd → XF := fun g a _ fr H => aLoad g (xev fr a) H
noncomputable def x_store : Nat → ROpd → ROpd → XF := fun n a x _ fr H => xW (aStore n (xev fr a) (xev fr x) H)
noncomputable def x_nilCheck : ROpd → XF := fun x0 call fr H => ROp.exec call fr (ROp.nilCheck x0) H
noncomputable def x_bin : BinOp → ROpd → ROpd → XF := fun op x y _ fr H => M.ofOption (aBin op (xev fr x) (xev fr y)) H
noncomputable def x_eq : Bool → EqDesc → ROpd → ROpd → XF := fun x0 x1 x2 x3 call fr H => ROp.exec call fr (ROp.eq x0 x1 x2 x3) H
noncomputable def x_un : UnOp → ROpd → XF := fun x0 x1 call fr H => ROp.exec call fr (ROp.un x0 x1) H
noncomputable def x_convInt : IntKind → ROpd → XF := fun x0 x1 call fr H => ROp.exec call fr (ROp.convInt x0 x1) H
noncomputable def x_mkIface : TypeId → ROpd → XF := fun x0 x1 call fr H => ROp.exec call fr (ROp.mkIface x0 x1) H
noncomputable def x_mkFunc : Fn → (List ROpd) → (List ROpd) → XF := fun fn first caps _ fr H => some (.func fn (first.map (·.ev fr)) (caps.map (·.ev fr)), H)
noncomputable def x_makeSlice : TypeId → (List AVal) → Nat → ROpd → ROpd → XF := fun x0 x1 x2 x3 x4 call fr H => xW (ROp.exec call fr (ROp.makeSlice x0 x1 x2 x3 x4) H)
noncomputable def x_sliceS : Nat → ROpd → (Option ROpd) → (Option ROpd) → (Option ROpd) → XF := fun sz x lo hi mx _ fr H => aSliceS sz (xev fr x) (lo.map (·.ev fr)) (hi.map (·.ev fr)) (mx.map (·.ev fr)) H
noncomputable def x_sliceStr : ROpd → (Option ROpd) → (Option ROpd) → XF := fun x0 x1 x2 call fr H => ROp.exec call fr (ROp.sliceStr x0 x1 x2) H
noncomputable def x_sliceArr : Nat → Nat → ROpd → (Option ROpd) → (Option ROpd) → (Option ROpd) → XF := fun x0 x1 x2 x3 x4 x5 call fr H => ROp.exec call fr (ROp.sliceArr x0 x1 x2 x3 x4 x5) H
noncomputable def x_fieldAddr : Nat → ROpd → XF := fun off x _ fr H => M.ofOption (aFieldAddr off (xev fr x)) H
noncomputable def x_field : (Option Nat) → Nat → ROpd → XF := fun x0 x1 x2 call fr H => ROp.exec call fr (ROp.field x0 x1 x2) H
noncomputable def x_idxS : Nat → ROpd → ROpd → XF := fun sz x i _ fr H => M.ofOption (aIdxS sz (xev fr x) (xev fr i)) H
noncomputable def x_idxA : Nat → Nat → ROpd → ROpd → XF := fun x0 x1 x2 x3 call fr H => ROp.exec call fr (ROp.idxA x0 x1 x2 x3) H
noncomputable def x_indexA : Nat → Nat → Bool → ROpd → ROpd → XF := fun x0 x1 x2 x3 x4 call fr H => ROp.exec call fr (ROp.indexA x0 x1 x2 x3 x4) H
noncomputable def x_indexStr : ROpd → ROpd → XF := fun x0 x1 call fr H => ROp.exec call fr (ROp.indexStr x0 x1) H
noncomputable def x_rangeStr : ROpd → XF := fun x0 call fr H => ROp.exec call fr (ROp.rangeStr x0) H
noncomputable def x_nextStr : ROpd → XF := fun x0 call fr H => ROp.exec call fr (ROp.nextStr x0) H
noncomputable def x_extract : ROpd → Nat → XF := fun x i _ fr H => M.ofOption (aExtract i (xev fr x)) H
noncomputable def x_call : ROpd → (List ROpd) → XF := fun f args call fr H => aCallV call (xev fr f) (args.map (·.ev fr)) H
noncomputable def x_lenS : ROpd → XF := fun x _ fr H => M.ofOption (aLenS (xev fr x)) H
noncomputable def x_lenStr : ROpd → XF := fun x0 call fr H => ROp.exec call fr (ROp.lenStr x0) H
noncomputable def x_lenA : Nat → XF := fun x0 call fr H => ROp.exec call fr (ROp.lenA x0) H
noncomputable def x_capS : ROpd → XF := fun x0 call fr H => ROp.exec call fr (ROp.capS x0) H
noncomputable def x_appendZ : TypeId → Nat → Nat → (List AVal) → ROpd → ROpd → XF := fun x0 x1 x2 x3 x4 x5 call fr H => xW (ROp.exec call fr (ROp.appendZ x0 x1 x2 x3 x4 x5) H)
noncomputable def x_append : TypeId → Nat → Nat → ROpd → ROpd → XF := fun e sz bytes x y _ fr H => xW (aAppend e sz bytes (xev fr x) (xev fr y) H)
noncomputable def x_copy : Nat → ROpd → ROpd → XF := fun x0 x1 x2 call fr H => xW (ROp.exec call fr (ROp.copy x0 x1 x2) H)
noncomputable def x_minmax : Bool → (List ROpd) → XF := fun b xs _ fr H => (match xs with | [] => M.fail | x :: rest => M.ofOption (aMinMax b (xev fr x) (rest.map (fun y => ROpd.ev fr y)))) H
noncomputable def x_bytesToStr : ROpd → XF := fun x0 call fr H => xW (ROp.exec call fr (ROp.bytesToStr x0) H)
noncomputable def x_strToBytes : TypeId → ROpd → XF := fun x0 x1 call fr H => xW (ROp.exec call fr (ROp.strToBytes x0 x1) H)
noncomputable def x_uptr : TypeId → Nat → ROpd → XF := fun x0 x1 x2 call fr H => xW (ROp.exec call fr (ROp.uptr x0 x1 x2) H)
noncomputable def x_sliceData : Nat → ROpd → XF := fun x0 x1 call fr H => xW (ROp.exec call fr (ROp.sliceData x0 x1) H)
noncomputable def x_unsafeStr : TypeId → ROpd → ROpd → XF := fun x0 x1 x2 call fr H => xW (ROp.exec call fr (ROp.unsafeStr x0 x1 x2) H)
noncomputable def x_lookup : EqDesc → AVal → Bool → ROpd → ROpd → XF := fun x0 x1 x2 x3 x4 call fr H => ROp.exec call fr (ROp.lookup x0 x1 x2 x3 x4) H
noncomputable def x_mapLit : (List (AVal × AVal)) → XF := fun x0 call fr H => ROp.exec call fr (ROp.mapLit x0) H
noncomputable def xOp : ROp → XF := @ROp.rec (fun _ => XF) x_mov x_pick x_new x_box x_build x_buildSlice x_load x_store x_nilCheck x_bin x_eq x_un x_convInt x_mkIface x_mkFunc x_makeSlice x_sliceS x_sliceStr x_sliceArr x_fieldAddr x_field x_idxS x_idxA x_indexA x_indexStr x_rangeStr x_nextStr x_extract x_call x_lenS x_lenStr x_lenA x_capS x_appendZ x_append x_copy x_minmax x_bytesToStr x_strToBytes x_uptr x_sliceData x_unsafeStr x_lookup x_mapLit
theorem xOp_eq (op : ROp) (call : ACall) (fr : AFrame) (H : AHeap) : xOp op call fr H = op.exec call fr H := by
  cases op
  case pick c a b =>
    show x_pick c a b call fr H = _
    simp only [x_pick, xev_eq, ROp.exec]
    cases c.ev fr <;> rfl
  all_goals first
    | rfl
    | exact xW_eq _
    | (unfold xOp; simp only [x_mov, x_new, x_box, x_load, x_store, x_bin, x_fieldAddr, x_idxS, x_extract, x_call, x_lenS, x_sliceS, x_append, x_minmax, xev_eq, hF_eq, xW_eq]; rfl)
abbrev XO := ACall → AFrame → AHeap → Option (AFrame × AHeap)
def xNil : XO := fun _ fr H => some (fr, H)
noncomputable def xCons (o : ROper) (_ : List ROper) (ih : XO) : XO := fun call fr H => @Bool.rec (fun _ => Option (AFrame × AHeap)) (ih call (xput fr o.dst aundef) H)
  (@Option.rec (AVal × AHeap) (fun _ => Option (AFrame × AHeap)) none (fun p => @Prod.rec AVal AHeap (fun _ => Option (AFrame × AHeap)) (fun v H' => @Option.rec Nat (fun _ => Option (AFrame × AHeap)) (ih call fr H') (fun d => ih call (xl fr d v) H') o.dst) p) (xOp o.op call fr H)) (xwant o fr)
noncomputable def xOps : List ROper → XO := @List.rec ROper (fun _ => XO) xNil xCons
theorem xOps_eq (call : ACall) : ∀ (os : List ROper) (fr : AFrame) (H : AHeap), xOps os call fr H = execOps call os fr H := by
  intro os
  induction os with
  | nil => intro fr H; rfl
  | cons o os ih =>
    intro fr H
    show xCons o os (xOps os) call fr H = _
    unfold xCons execOps
    rw [xwant_eq, xOp_eq]
    cases o.wanted fr with
    | false => rw [xput_eq]; exact ih _ _
    | true =>
      simp only [M.bind]
      cases o.op.exec call fr H with
      | none => rfl
      | some r =>
        obtain ⟨v, H'⟩ := r
        simp only
        rw [← ih]
        cases o.dst with
        | none => rfl
        | some d =>
          show xOps os call (xl fr d v) H' = _
          rw [xl_eq]
          rfl
abbrev XT := Nat → ACall → AFrame → AHeap → Option (List DRec × AFrame × AHeap)
noncomputable def xLook (fr : AFrame) (op : ROp) (H : AHeap) : Option AVal :=
  match xOp op noCall fr H with
  | some (v, H1) => match Nat.beq H1.n H.n with
    | true => some v
    | false => match op with
      | .sliceS sz x lo hi mx => aSliceE sz (x.ev fr) (lo.map (·.ev fr)) (hi.map (·.ev fr)) (mx.map (·.ev fr))
      | _ => none
  | none => none
theorem xLook_eq (fr : AFrame) (op : ROp) (H : AHeap) : xLook fr op H = op.look fr H := by
  unfold xLook ROp.look
  rw [xOp_eq]
  rfl
noncomputable def xStep (call : ACall) (it : DItem) (ref : Nat) (fr : AFrame) (H : AHeap) : Option (AVal × Bool × AHeap) :=
  match Nat.beq it.cls 2 with
  | true => match xOp it.o.op call fr H with
    | some (v, H1) => some (v, true, H1)
    | none => none
  | false => match Nat.beq it.cls 3 with
    | true => match it.o.op.made fr with
      | some (cs, e, k) => match ghostIs H ref cs e with | true => some (k ref, false, H) | false => none
      | none => none
    | false => match xLook fr it.o.op H with
      | some v => some (v, false, H)
      | none => none
theorem xStep_eq (call : ACall) (it : DItem) (ref : Nat) (fr : AFrame) (H : AHeap) : xStep call it ref fr H = dstep call it ref fr H := by
  unfold xStep dstep
  rw [xOp_eq, xLook_eq]
  rfl
def xTNil : XT := fun _ _ fr H => some ([], fr, H)
noncomputable def xTCons (it : DItem) (_ : List DItem) (ih : XT) : XT := fun ref call fr H =>
    match it.o.wanted fr with
    | false => match ih (nextRef it.cls ref) call (xput fr it.o.dst aundef) H with
      | some (R, fr', H') => some (⟨it.o, it.b, it.cls, fr, aundef, false, false, H, ref⟩ :: R, fr', H')
      | none => none
    | true => match xStep call it ref fr H with
      | none => none
      | some (v, eff, H1) => match ih (nextRef it.cls ref) call (xput fr it.o.dst v) H1 with
        | some (R, fr', H') => some (⟨it.o, it.b, it.cls, fr, v, true, eff, H1, ref⟩ :: R, fr', H')
        | none => none
noncomputable def xText : List DItem → XT := @List.rec DItem (fun _ => XT) xTNil xTCons
theorem xText_eq (call : ACall) : ∀ (its : List DItem) (ref : Nat) (fr : AFrame) (H : AHeap), xText its ref call fr H = dtext call its ref fr H := by
  intro its
  induction its with
  | nil => intro ref fr H; rfl
  | cons it its ih =>
    intro ref fr H
    show xTCons it its (xText its) ref call fr H = _
    unfold xTCons dtext
    simp only [xput_eq]
    cases it.o.wanted fr with
    | false => simp only [ih]; rfl
    | true =>
      simp only [xStep_eq]
      cases dstep call it ref fr H with
      | none => rfl
      | some r => simp only [ih]; rfl
noncomputable def xOkAt (r : DRec) (H : AHeap) : Bool :=
  match Nat.beq r.cls 3 with
  | true => match r.o.op.made r.fr with
    | some (cs, e, _) => ghostIs H r.ref cs e
    | none => false
  | false => match xLook r.fr r.o.op H with
    | some v => abeq v r.v
    | none => false
theorem xOkAt_eq (r : DRec) (H : AHeap) : xOkAt r H = r.okAt H := by
  unfold xOkAt DRec.okAt
  rw [xLook_eq]
  rfl
noncomputable def xChk (r : DRec) (k : Nat) : List DRec → Nat → AHeap → Bool → Bool := @List.rec DRec (fun _ => Nat → AHeap → Bool → Bool)
  (fun _ cur may => match may with | true => xOkAt r cur | false => true)
  (fun e _ ih i cur may => match e.eff with
    | false => ih (i + 1) cur may
    | true => match may with
      | false => ih (i + 1) e.hp (!(e.b.testBit k))
      | true => match r.b.testBit i with
        | true => ih (i + 1) e.hp (!(e.b.testBit k))
        | false => match xOkAt r cur with
          | true => ih (i + 1) e.hp (!(e.b.testBit k))
          | false => false)
theorem xChk_eq (r : DRec) (k : Nat) : ∀ (es : List DRec) (i : Nat) (cur : AHeap) (may : Bool), xChk r k es i cur may = r.chk k es i cur may := by
  intro es
  induction es with
  | nil =>
    intro i cur may
    cases may
    · rfl
    · show xOkAt r cur = (false || r.okAt cur)
      rw [xOkAt_eq]; rfl
  | cons e es ih =>
    intro i cur may
    unfold DRec.chk
    show (match e.eff with
    | false => xChk r k es (i + 1) cur may
    | true => match may with
      | false => xChk r k es (i + 1) e.hp (!(e.b.testBit k))
      | true => match r.b.testBit i with
        | true => xChk r k es (i + 1) e.hp (!(e.b.testBit k))
        | false => match xOkAt r cur with
          | true => xChk r k es (i + 1) e.hp (!(e.b.testBit k))
          | false => false) = _
    cases e.eff with
    | false => exact ih _ _ _
    | true =>
      simp only [ih, xOkAt_eq]
      cases may <;> cases r.b.testBit i <;> cases r.okAt cur <;> simp
noncomputable def xCheck (R : List DRec) (H0 : AHeap) : List DRec → Nat → Bool := @List.rec DRec (fun _ => Nat → Bool)
  (fun _ => true)
  (fun r _ ih k => match r.want with
    | false => ih (k + 1)
    | true => match Nat.beq r.cls 1 with
      | true => (match xChk r k R 0 H0 true with | true => ih (k + 1) | false => false)
      | false => match Nat.beq r.cls 3 with
        | true => (match xChk r k R 0 H0 true with | true => ih (k + 1) | false => false)
        | false => ih (k + 1))
theorem xCheck_eq (R : List DRec) (H0 : AHeap) : ∀ (rs : List DRec) (k : Nat), xCheck R H0 rs k = dcheck R H0 rs k := by
  intro rs
  induction rs with
  | nil => intro k; rfl
  | cons r rs ih =>
    intro k
    unfold dcheck
    show (match r.want with
    | false => xCheck R H0 rs (k + 1)
    | true => match Nat.beq r.cls 1 with
      | true => (match xChk r k R 0 H0 true with | true => xCheck R H0 rs (k + 1) | false => false)
      | false => match Nat.beq r.cls 3 with
        | true => (match xChk r k R 0 H0 true with | true => xCheck R H0 rs (k + 1) | false => false)
        | false => xCheck R H0 rs (k + 1)) = _
    simp only [ih, xChk_eq]
    cases r.want <;> cases Nat.beq r.cls 1 <;> cases Nat.beq r.cls 3 <;> simp <;> cases r.chk k R 0 H0 true <;> rfl
abbrev XC := ACall → Nat → AFrame → AHeap → Option ((RExit × AFrame) × AHeap)
def xSkip : XC := fun _ _ fr H => some ((.normal, fr), H)
noncomputable def xRegion (ops : List ROper) : XC := fun call _ fr H => match xOps ops call fr H with
  | some (fr', H') => some ((.normal, fr'), H')
  | none => none
noncomputable def xDregion (ops : List DItem) : XC := fun call _ fr H => match xText ops H.n call fr (hF (pushAll H (oracle ops H.n fr H))) with
  | some (R, fr', H') => match xCheck R (hF (pushAll H (oracle ops H.n fr H))) R 0 with | true => some ((.normal, fr'), H') | false => none
  | none => none
noncomputable def xSeq (_ _ : RCode) (a b : XC) : XC := fun call lf fr H => @Option.rec ((RExit × AFrame) × AHeap) (fun _ => Option ((RExit × AFrame) × AHeap)) none
  (fun p => @Prod.rec (RExit × AFrame) AHeap (fun _ => Option ((RExit × AFrame) × AHeap)) (fun y H' => @Prod.rec RExit AFrame (fun _ => Option ((RExit × AFrame) × AHeap)) (fun x fr' => match x with
    | .normal => b call lf fr' H'
    | e => some ((e, fr'), H')) y) p) (a call lf fr H)
noncomputable def xCond (c : ROpd) (_ _ : RCode) (t e : XC) : XC := fun call lf fr H => match xev fr c with
  | .bool b => match b with | true => t call lf fr H | false => e call lf fr H
  | _ => none
def xBlock (id : Nat) (_ : RCode) (b : XC) : XC := fun call lf fr H => match b call lf fr H with
  | some ((x, fr'), H') => match x with
    | .exit id' => match Nat.beq id' id with | true => some ((.normal, fr'), H') | false => some ((.exit id', fr'), H')
    | e => some ((e, fr'), H')
  | none => none
noncomputable def xLoopN (body : AFrame → AHeap → Option ((RExit × AFrame) × AHeap)) : Nat → AFrame → AHeap → Option ((RExit × AFrame) × AHeap) := @Nat.rec (fun _ => AFrame → AHeap → Option ((RExit × AFrame) × AHeap))
  (fun _ _ => none)
  (fun _ ih fr H => match body fr H with
    | some ((x, fr'), H') => match x with
      | .normal => ih fr' H'
      | e => some ((e, fr'), H')
    | none => none)
noncomputable def xLoop (_ : RCode) (b : XC) : XC := fun call lf fr H => xLoopN (b call lf) lf fr H
def xScope (_ : RCode) (b : XC) : XC := b
def xExit (id : Nat) : XC := fun _ _ fr H => some ((.exit id, fr), H)
def xRet : XC := fun _ _ fr H => some ((.ret, fr), H)
def xFail : XC := fun _ _ _ _ => none
noncomputable def xRange (fns : List FuncId) (nt : Nat) (g : ROpd) (ps : List Nat) (a b : RCode) (_ _ : XC) : XC := fun call _ fr H => match g.ev fr, fr nt with
    | .func (.func gf) fi ca, .tuple vs => match fns.contains gf with
      | true => match call gf (fi ++ [.yield (H.n + 1)] ++ ca) (hF ((H.push .dead).push (.loop ⟨H.n, nt, fr, ps, a, b, 0, .normal⟩))) with
        | some (_, H2) => match H2.get (H.n + 1) with
          | .loop R => match Nat.beq R.st 1 || Nat.beq R.st 4 with
            | false => some ((R.pend, upd fr nt (.tuple (.ptr H.n (H.n + 1) :: vs))), hF <| H2.set (H.n + 1) (.loop { R with st := 3 }))
            | true => none
          | _ => none
        | none => none
      | false => none
    | _, _ => none
noncomputable def xCode : RCode → XC := @RCode.rec (fun _ => XC) xSkip xRegion xDregion xSeq xCond xBlock xLoop xScope xSkip xExit xRet xFail xRange
noncomputable def xRun (ext : Exts) (call : ACall) (lf : Nat) (fn : RFunc) (args : List AVal) (H : AHeap) : Option (AVal × AHeap) :=
  match fn.body with
  | .ext name => ext name args H
  | .code c => match Nat.blt fn.nt args.length with
    | true => none
    | false => match xCode c call lf (argFrame args) H with
      | some ((x, fr), H1) => match x with
        | .exit _ => none
        | _ => match getAll fr fn.results H1 with
          | some (vs, H2) => some (aResult vs, H2)
          | none => none
      | none => none
  | .ranges c => match Nat.blt fn.nt args.length with
    | true => none
    | false => match xCode c call lf (argFrame args) H with
      | some ((x, fr), H1) => match x with
        | .exit _ => none
        | _ => match takeMarks (marksOf (fr fn.nt)) H1 with
          | some (_, H2) => match getAll fr fn.results H2 with
            | some (vs, H3) => some (aResult vs, H3)
            | none => none
          | none => none
      | none => none
noncomputable def xRound (call : ACall) (lf : Nat) (r : Nat) (args : List AVal) (H : AHeap) : Option (AVal × AHeap) :=
  match Nat.blt r H.n, H.get r with
  | true, .loop R => match Nat.beq args.length R.ps.length && R.ps.all (fun t => Nat.blt t R.nt) with
    | true => match xCode R.assign call lf (setAll R.fr (R.ps.zip args)) H with
      | some ((.normal, fr1), H1) => match H1.get r with
        | .loop R1 => match Nat.beq R1.st 0 with
          | true => match xCode R.body call lf fr1 (hF (H1.set r (.loop { R1 with st := 1 }))) with
            | some ((x, _), H2) => match H2.get r with
              | .loop R2 => match Nat.beq R2.st 1 with
                | true => some (.bool (match x with | .normal => true | _ => false), hF <| H2.set r (.loop { R2 with st := (match x with | .normal => 0 | _ => 2), pend := x }))
                | false => none
              | _ => none
            | none => none
          | false => none
        | _ => none
      | _ => none
    | false => none
  | _, _ => none
noncomputable def xCallN (ext : Exts) (prog : FuncId → Option RFunc) : Nat → ACall := @Nat.rec (fun _ => ACall) (fun _ _ _ => none)
  (fun n ih f args H => match prog f with
    | some fn => xRun ext ih n fn args H
    | none => match Nat.beq f yieldId, args with
      | true, .yield r :: as1 => xRound ih n r as1 H
      | _, _ => none)
theorem xLoopN_eq (body : AFrame → M (RExit × AFrame)) : ∀ (n : Nat) (fr : AFrame) (H : AHeap), xLoopN body n fr H = loopN body n fr H := by
  intro n
  induction n with
  | zero => intro fr H; rfl
  | succ n ih =>
    intro fr H
    show (match body fr H with
    | some ((x, fr'), H') => match x with
      | .normal => xLoopN body n fr' H'
      | e => some ((e, fr'), H')
    | none => none) = _
    simp only [loopN, M.bind]
    cases body fr H with
    | none => rfl
    | some r =>
      obtain ⟨⟨x, fr'⟩, H'⟩ := r
      cases x with
      | normal => exact ih _ _
      | _ => rfl
theorem xCode_eq (call : ACall) (lf : Nat) : ∀ (c : RCode) (fr : AFrame) (H : AHeap), xCode c call lf fr H = c.exec call lf fr H := by
  intro c
  induction c with
  | skip => intro fr H; rfl
  | label => intro fr H; rfl
  | exit id => intro fr H; rfl
  | ret => intro fr H; rfl
  | fail => intro fr H; rfl
  | region ops =>
    intro fr H
    show xRegion ops call lf fr H = _
    simp only [xRegion, xOps_eq, RCode.exec, M.bind]
    cases execOps call ops fr H <;> rfl
  | dregion ops =>
    intro fr H
    show xDregion ops call lf fr H = _
    simp only [xDregion, hF_eq, xText_eq, xCheck_eq, RCode.exec]
    rfl
  | seq a b iha ihb =>
    intro fr H
    show xSeq a b (xCode a) (xCode b) call lf fr H = _
    simp only [xSeq, iha, RCode.exec, M.bind]
    cases a.exec call lf fr H with
    | none => rfl
    | some r =>
      obtain ⟨⟨x, fr'⟩, H'⟩ := r
      cases x with
      | normal => exact ihb _ _
      | _ => rfl
  | cond c t e iht ihe =>
    intro fr H
    show xCond c t e (xCode t) (xCode e) call lf fr H = _
    simp only [xCond, xev_eq, iht, ihe, RCode.exec]
    cases c.ev fr with
    | bool b => cases b <;> rfl
    | _ => rfl
  | block id b ih =>
    intro fr H
    show xBlock id b (xCode b) call lf fr H = _
    simp only [xBlock, ih, RCode.exec, M.bind]
    cases b.exec call lf fr H with
    | none => rfl
    | some r =>
      obtain ⟨⟨x, fr'⟩, H'⟩ := r
      cases x with
      | exit id' => simp only; cases Nat.beq id' id <;> rfl
      | _ => rfl
  | loop b ih =>
    intro fr H
    show xLoopN (xCode b call lf) lf fr H = _
    rw [show xCode b call lf = b.exec call lf from funext fun fr => funext fun H => ih fr H, xLoopN_eq]
    rfl
  | scope b ih => intro fr H; exact ih fr H
  | rangeFunc fns nt g ps a b _ _ =>
    intro fr H
    show xRange fns nt g ps a b (xCode a) (xCode b) call lf fr H = _
    simp only [xRange, hF_eq, RCode.exec]
    rfl
theorem xRun_eq (ext : Exts) (call : ACall) (lf : Nat) (fn : RFunc) (args : List AVal) (H : AHeap) : xRun ext call lf fn args H = fn.run ext call lf args H := by
  unfold xRun RFunc.run
  cases fn.body with
  | ext name => rfl
  | code c =>
    simp only [xCode_eq]
    cases e : Nat.blt fn.nt args.length with
    | true =>
      have h : fn.nt < args.length := by rw [← Nat.blt_eq]; exact e
      rw [if_pos h]; rfl
    | false =>
      have h : ¬ fn.nt < args.length := by rw [← Nat.blt_eq, e]; exact Bool.noConfusion
      rw [if_neg h]
      simp only [M.bind]
      cases c.exec call lf (argFrame args) H with
      | none => rfl
      | some r =>
        obtain ⟨⟨x, fr⟩, H1⟩ := r
        cases x <;> first
          | rfl
          | (simp only [M.bind]; cases getAll fr fn.results H1 <;> rfl)
  | ranges c =>
    simp only [xCode_eq]
    cases e : Nat.blt fn.nt args.length with
    | true =>
      have h : fn.nt < args.length := by rw [← Nat.blt_eq]; exact e
      rw [if_pos h]; rfl
    | false =>
      have h : ¬ fn.nt < args.length := by rw [← Nat.blt_eq, e]; exact Bool.noConfusion
      rw [if_neg h]
      simp only [M.bind]
      cases c.exec call lf (argFrame args) H with
      | none => rfl
      | some r =>
        obtain ⟨⟨x, fr⟩, H1⟩ := r
        cases x <;> first
          | rfl
          | (simp only [M.bind]
             cases takeMarks (marksOf (fr fn.nt)) H1 with
             | none => rfl
             | some r2 =>
               obtain ⟨u, H2⟩ := r2
               simp only
               cases getAll fr fn.results H2 <;> rfl)
theorem xRound_eq (call : ACall) (lf : Nat) (r : Nat) (args : List AVal) (H : AHeap) : xRound call lf r args H = roundRun call lf r args H := by
  unfold xRound roundRun
  simp only [xCode_eq, hF_eq]
  rfl
theorem xCallN_eq (ext : Exts) (prog : FuncId → Option RFunc) : ∀ (n : Nat) (f : FuncId) (args : List AVal) (H : AHeap), xCallN ext prog n f args H = callN ext prog n f args H := by
  intro n
  induction n with
  | zero => intro f args H; rfl
  | succ n ih =>
    intro f args H
    have ih' : xCallN ext prog n = callN ext prog n := funext fun f => funext fun a => funext fun H => ih f a H
    show (match prog f with
    | some fn => xRun ext (xCallN ext prog n) n fn args H
    | none => match Nat.beq f yieldId, args with
      | true, .yield r :: as1 => xRound (xCallN ext prog n) n r as1 H
      | _, _ => none) = _
    unfold callN
    simp only [ih', xRun_eq, xRound_eq]
    cases prog f with
    | some fn => rfl
    | none =>
      cases Nat.beq f yieldId <;> cases args with
      | nil => rfl
      | cons a l => cases a <;> rfl
end Go.Am
