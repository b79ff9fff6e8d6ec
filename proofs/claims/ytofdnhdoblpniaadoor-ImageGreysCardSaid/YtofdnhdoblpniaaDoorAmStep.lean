/- Steps of a contract's proof. -/
import Derived.Test.YtofdnhdoblpniaaDoorAmHoare
set_option linter.unusedSimpArgs false
set_option linter.unusedVariables false
namespace Go.Am
open Go

theorem nbeq_decide (a b : Nat) : Nat.beq a b = decide (a = b) := by
  by_cases h : a = b
  · subst h; simp
  · simp [nbeq_ne h, h]
theorem getp (H : AHeap) (o : AObj) (r : Nat) : (H.push o).get r = if r = H.n then o else H.get r := by
  by_cases h : r = H.n
  · subst h; simp [push_get_eq]
  · simp [AHeap.push, nbeq_ne h, h]
theorem gets (H : AHeap) (s : Nat) (o : AObj) (r : Nat) : (H.set s o).get r = if r = s then o else H.get r := by
  by_cases h : r = s
  · subst h; simp [set_get_eq]
  · simp [set_get_ne h, h]
theorem np (H : AHeap) (o : AObj) : (H.push o).n = H.n + 1 := rfl
theorem ns (H : AHeap) (s : Nat) (o : AObj) : (H.set s o).n = H.n := rfl

/-- What was there stands. -/
structure Ext (H H' : AHeap) : Prop where
  n : H.n ≤ H'.n
  get : ∀ r, r < H.n → H'.get r = H.get r
theorem Ext.refl (H : AHeap) : Ext H H := ⟨Nat.le_refl _, fun _ _ => rfl⟩
theorem Ext.trans {a b c : AHeap} (h : Ext a b) (k : Ext b c) : Ext a c := ⟨Nat.le_trans h.n k.n, fun r hr => by rw [k.get r (Nat.lt_of_lt_of_le hr h.n), h.get r hr]⟩
theorem Ext.push {a b : AHeap} (h : Ext a b) (o : AObj) : Ext a (b.push o) := ⟨Nat.le_succ_of_le h.n, fun r hr => by rw [push_get_lt (Nat.lt_of_lt_of_le hr h.n)]; exact h.get r hr⟩
theorem Ext.set {a b : AHeap} (h : Ext a b) {s : Nat} (hs : a.n ≤ s) (o : AObj) : Ext a (b.set s o) := ⟨h.n, fun r hr => by rw [set_get_ne (by omega)]; exact h.get r hr⟩

section
variable {call : ACall} {fr : AFrame} {H : AHeap} {K : AVal → AHeap → Prop} {KF : AFrame → AHeap → Prop}
theorem WpX.load1 {a : ROpd} {r off : Nat} {cs : List AVal} {rw : Bool} {e : TypeId} {v : AVal} (ha : a.ev fr = .ptr r off) (hr : r < H.n) (hg : H.get r = .row cs rw e) (hv : cs[off]? = some v) (h : K v H) : WpX (.load none a) call fr H K :=
  ⟨v, H, by simp only [ROp.exec, ha, aLoad, M.bind, aRow, if_pos hr, hg, hv, M.pure], h⟩
theorem WpX.loadN {a : ROpd} {n r off : Nat} {cs : List AVal} {rw : Bool} {e : TypeId} (ha : a.ev fr = .ptr r off) (hr : r < H.n) (hg : H.get r = .row cs rw e) (hv : off + n ≤ cs.length) (h : K (.agg ((cs.drop off).take n)) H) : WpX (.load (some n) a) call fr H K :=
  ⟨_, H, by simp only [ROp.exec, ha, aLoad, M.bind, aRow, if_pos hr, hg, if_pos hv, M.pure], h⟩
theorem WpX.store {a x : ROpd} {n r off : Nat} {cs : List AVal} {e : TypeId} {v : AVal} (ha : a.ev fr = .ptr r off) (hx : x.ev fr = v) (hn : v.cells.length = n) (hr : r < H.n) (hg : H.get r = .row cs true e) (hl : off + v.cells.length ≤ cs.length) (ho : v.cells.all AVal.one = true)
    (h : K aundef (H.set r (.row (setAt cs off v.cells) true e))) : WpX (.store n a x) call fr H K :=
  ⟨_, _, by simp only [ROp.exec, ha, hx, aStore, if_pos hn, M.bind, aWrite, if_pos hr, hg, Bool.true_and, decide_eq_true hl, ho, if_true, M.pure], h⟩
theorem WpX.box {e : TypeId} {x : ROpd} (h : K (.ptr H.n 0) (H.push (.row (x.ev fr).cells true (2 * e)))) : WpX (.box e x) call fr H K := ⟨_, _, rfl, h⟩
theorem WpX.new {e : TypeId} {cs : List AVal} (h : K (.ptr H.n 0) (H.push (.row cs true (2 * e)))) : WpX (.new e cs) call fr H K := ⟨_, _, rfl, h⟩
end

theorem upd_at (fr : AFrame) (d : Nat) (v : AVal) (i : Nat) : upd fr d v i = if i = d then v else fr i := by
  by_cases h : i = d
  · subst h; simp [upd]
  · simp [upd, nbeq_ne h, h]
theorem put_some (fr : AFrame) (d : Nat) (v : AVal) : put fr (some d) v = upd fr d v := rfl
theorem put_none (fr : AFrame) (v : AVal) : put fr none v = fr := rfl
theorem cells_agg (l : List AVal) : (AVal.agg l).cells = l := rfl
theorem ev_tmp (fr : AFrame) (t : Nat) : ROpd.ev fr (.tmp t) = fr t := rfl
theorem ev_val (fr : AFrame) (v : AVal) : ROpd.ev fr (.val v) = v := rfl
theorem arg0 (v : AVal) (vs : List AVal) : argFrame (v :: vs) 0 = v := rfl
theorem arg1 (v w : AVal) (vs : List AVal) : argFrame (v :: w :: vs) 1 = w := rfl
theorem arg2 (v w x : AVal) (vs : List AVal) : argFrame (v :: w :: x :: vs) 2 = x := rfl
theorem arg3 (v w x y : AVal) (vs : List AVal) : argFrame (v :: w :: x :: y :: vs) 3 = y := rfl

section
variable {call : ACall} {fr : AFrame} {H : AHeap} {K : AVal → AHeap → Prop} {KF : AFrame → AHeap → Prop}
theorem WpO.do {d : Nat} {op : ROp} {os : List ROper} (hx : WpX op call fr H fun v H1 => WpO call os (upd fr d v) H1 KF) : WpO call (⟨some d, op, none⟩ :: os) fr H KF := WpO.step rfl hx
theorem WpO.do' {op : ROp} {os : List ROper} (hx : WpX op call fr H fun _ H1 => WpO call os fr H1 KF) : WpO call (⟨none, op, none⟩ :: os) fr H KF := WpO.step rfl hx
theorem wanted_some {fr : AFrame} {d : Option Nat} {op : ROp} {t : Nat} {want b : Bool} (hb : fr t = .bool b) : ROper.wanted fr ⟨d, op, some (t, want)⟩ = (b == want) := by
  simp only [ROper.wanted, hb]
  cases b <;> cases want <;> rfl
theorem WpO.guard {d : Option Nat} {op : ROp} {t : Nat} {want b : Bool} {os : List ROper} (hb : fr t = .bool b) (h1 : b = want → WpO call (⟨d, op, none⟩ :: os) fr H KF) (h2 : b ≠ want → WpO call os (put fr d aundef) H KF) : WpO call (⟨d, op, some (t, want)⟩ :: os) fr H KF := by
  by_cases h : b = want
  · obtain ⟨fr', H', h3, h4⟩ := h1 h
    refine ⟨fr', H', ?_, h4⟩
    have hw1 : ROper.wanted fr ⟨d, op, some (t, want)⟩ = true := by rw [wanted_some hb, h]; simp
    simp only [execOps, hw1]
    simpa only [execOps, ROper.wanted] using h3
  · exact WpO.skip (by rw [wanted_some hb]; simpa using h) (h2 h)
theorem WpX.mov {x : ROpd} (h : K (x.ev fr) H) : WpX (.mov x) call fr H K := ⟨_, _, rfl, h⟩
theorem WpX.geq {x y : ROpd} {k : IntKind} {a b : Int} (hx : x.ev fr = .int k a) (hy : y.ev fr = .int k b) (h : K (.bool (decide (a ≥ b))) H) : WpX (.bin .geq x y) call fr H K := ⟨_, _, by simp only [ROp.exec, hx, hy, aBin, intBin, ne_eq, not_true, if_false, M.ofOption, M.pure], h⟩
theorem WpX.leq {x y : ROpd} {k : IntKind} {a b : Int} (hx : x.ev fr = .int k a) (hy : y.ev fr = .int k b) (h : K (.bool (decide (a ≤ b))) H) : WpX (.bin .leq x y) call fr H K := ⟨_, _, by simp only [ROp.exec, hx, hy, aBin, intBin, ne_eq, not_true, if_false, M.ofOption, M.pure], h⟩
theorem WpX.lss {x y : ROpd} {k : IntKind} {a b : Int} (hx : x.ev fr = .int k a) (hy : y.ev fr = .int k b) (h : K (.bool (decide (a < b))) H) : WpX (.bin .lss x y) call fr H K := ⟨_, _, by simp only [ROp.exec, hx, hy, aBin, intBin, ne_eq, not_true, if_false, M.ofOption, M.pure], h⟩
theorem WpX.gtr {x y : ROpd} {k : IntKind} {a b : Int} (hx : x.ev fr = .int k a) (hy : y.ev fr = .int k b) (h : K (.bool (decide (a > b))) H) : WpX (.bin .gtr x y) call fr H K := ⟨_, _, by simp only [ROp.exec, hx, hy, aBin, intBin, ne_eq, not_true, if_false, M.ofOption, M.pure], h⟩
theorem WpX.eql {x y : ROpd} {k : IntKind} {a b : Int} (hx : x.ev fr = .int k a) (hy : y.ev fr = .int k b) (h : K (.bool (a == b)) H) : WpX (.bin .eql x y) call fr H K := ⟨_, _, by simp only [ROp.exec, hx, hy, aBin, intBin, ne_eq, not_true, if_false, M.ofOption, M.pure], h⟩
theorem WpX.neq {x y : ROpd} {k : IntKind} {a b : Int} (hx : x.ev fr = .int k a) (hy : y.ev fr = .int k b) (h : K (.bool (a != b)) H) : WpX (.bin .neq x y) call fr H K := ⟨_, _, by simp only [ROp.exec, hx, hy, aBin, intBin, ne_eq, not_true, if_false, M.ofOption, M.pure], h⟩
theorem WpX.add {x y : ROpd} {k : IntKind} {a b : Int} (hx : x.ev fr = .int k a) (hy : y.ev fr = .int k b) (h : K (.int k (k.wrap (a + b))) H) : WpX (.bin .add x y) call fr H K := ⟨_, _, by simp only [ROp.exec, hx, hy, aBin, intBin, ne_eq, not_true, if_false, M.ofOption, M.pure], h⟩
theorem WpX.sub {x y : ROpd} {k : IntKind} {a b : Int} (hx : x.ev fr = .int k a) (hy : y.ev fr = .int k b) (h : K (.int k (k.wrap (a - b))) H) : WpX (.bin .sub x y) call fr H K := ⟨_, _, by simp only [ROp.exec, hx, hy, aBin, intBin, ne_eq, not_true, if_false, M.ofOption, M.pure], h⟩
theorem WpX.mul {x y : ROpd} {k : IntKind} {a b : Int} (hx : x.ev fr = .int k a) (hy : y.ev fr = .int k b) (h : K (.int k (k.wrap (a * b))) H) : WpX (.bin .mul x y) call fr H K := ⟨_, _, by simp only [ROp.exec, hx, hy, aBin, intBin, ne_eq, not_true, if_false, M.ofOption, M.pure], h⟩
theorem WpX.not {x : ROpd} {b : Bool} (hx : x.ev fr = .bool b) (h : K (.bool (!b)) H) : WpX (.un .not x) call fr H K := ⟨_, _, by simp only [ROp.exec, hx, aUn, M.ofOption, M.pure], h⟩
theorem WpX.pick {c x y : ROpd} {b : Bool} (hc : c.ev fr = .bool b) (h : K (bif b then x.ev fr else y.ev fr) H) : WpX (.pick c x y) call fr H K := ⟨_, _, by simp only [ROp.exec, hc, M.pure]; cases b <;> rfl, h⟩
theorem WpX.fieldAddr {x : ROpd} {r o off : Nat} (hx : x.ev fr = .ptr r o) (h : K (.ptr r (o + off)) H) : WpX (.fieldAddr off x) call fr H K := ⟨_, _, by simp only [ROp.exec, hx, aFieldAddr, M.ofOption, M.pure], h⟩
theorem WpX.lenS {x : ROpd} {p v : AVal} (hx : x.ev fr = p) (hp : aLenS p = some v) (h : K v H) : WpX (.lenS x) call fr H K := ⟨_, _, by simp only [ROp.exec, hx, hp, M.ofOption, M.pure], h⟩
theorem WpX.convInt {x : ROpd} {k k' : IntKind} {n : Int} (hx : x.ev fr = .int k' n) (h : K (.int k (k.wrap n)) H) : WpX (.convInt k x) call fr H K := ⟨_, _, by simp only [ROp.exec, hx, M.pure], h⟩
theorem WpX.idxS {x i : ROpd} {sz r off len : Nat} {cap : Option Nat} {k : IntKind} {n : Int} (hx : x.ev fr = .slice r off len cap sz) (hi : i.ev fr = .int k n) (h0 : 0 ≤ n) (h1 : n < len) (h : K (.ptr r (off + n.toNat * sz)) H) : WpX (.idxS sz x i) call fr H K :=
  ⟨_, _, by simp only [ROp.exec, hx, hi, aIdxS, true_and, if_pos (And.intro h0 h1), M.ofOption, M.pure], h⟩
theorem WpX.extract {x : ROpd} {i : Nat} {vs : List AVal} {v : AVal} (hx : x.ev fr = .tuple vs) (hv : vs[i]? = some v) (h : K v H) : WpX (.extract x i) call fr H K := ⟨_, _, by simp only [ROp.exec, hx, aExtract, hv, M.ofOption, M.pure], h⟩
theorem WpX.build {z : List AVal} {ps : List (Nat × Nat × ROpd)} {cs : List AVal} (hf : aFill fr z ps = some cs) (h : K (.agg cs) H) : WpX (.build z ps) call fr H K := ⟨_, _, by simp only [ROp.exec, hf, M.pure], h⟩
end
end Go.Am
