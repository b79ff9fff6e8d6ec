import Derived.Test.YtfohnngeckaljaaGreatDoorAmBD
import Derived.Lib.Strings
set_option linter.unusedSimpArgs false
set_option linter.unusedVariables false
set_option maxHeartbeats 8000000
set_option maxRecDepth 100000
set_option synthInstance.maxHeartbeats 4000000
set_option synthInstance.maxSize 1000000000
namespace Go.Am
open Go
theorem ag0 (v : AVal) (vs : List AVal) : argFrame (v :: vs) 0 = v := rfl
theorem ag1 (v w : AVal) (vs : List AVal) : argFrame (v :: w :: vs) 1 = w := rfl
theorem ag2 (v w x : AVal) (vs : List AVal) : argFrame (v :: w :: x :: vs) 2 = x := rfl
theorem ag3 (v w x y : AVal) (vs : List AVal) : argFrame (v :: w :: x :: y :: vs) 3 = y := rfl
theorem ag4 (v w x y z : AVal) (vs : List AVal) : argFrame (v :: w :: x :: y :: z :: vs) 4 = z := rfl
theorem fx1 (fr : AFrame) : updL [] fr = fr := rfl
theorem fx2 (p : Nat × AVal) (l : List (Nat × AVal)) (fr : AFrame) : updL (p :: l) fr = upd (updL l fr) p.1 p.2 := rfl
theorem fx3 (g fr : AFrame) : mix [] g fr = fr := rfl
theorem fx4 (d : Nat) (D : List Nat) (g fr : AFrame) : mix (d :: D) g fr = upd (mix D g fr) d (g d) := rfl
theorem nrmS : (∀ (a b : AVal) l, (a :: l).set 4 b = a :: l.set 3 b) ∧ (∀ (a b : AVal) l, (a :: l).set 5 b = a :: l.set 4 b) ∧ (∀ (a b : AVal) l, (a :: l).set 6 b = a :: l.set 5 b) ∧ (∀ (a b : AVal) l, (a :: l).set 7 b = a :: l.set 6 b) ∧ (∀ (a b : AVal) l, (a :: l).set 8 b = a :: l.set 7 b) ∧ (∀ (a b : AVal) l, (a :: l).set 9 b = a :: l.set 8 b) ∧ (∀ (a b : AVal) l, (a :: l).set 10 b = a :: l.set 9 b) ∧ (∀ (a b : AVal) l, (a :: l).set 11 b = a :: l.set 10 b) ∧ (∀ (a b : AVal) l, (a :: l).set 12 b = a :: l.set 11 b) ∧ (∀ (a b : AVal) l, (a :: l).set 13 b = a :: l.set 12 b) ∧ (∀ (a b : AVal) l, (a :: l).set 14 b = a :: l.set 13 b) ∧ (∀ (a b : AVal) l, (a :: l).set 15 b = a :: l.set 14 b) := ⟨fun _ _ _ => rfl, fun _ _ _ => rfl, fun _ _ _ => rfl, fun _ _ _ => rfl, fun _ _ _ => rfl, fun _ _ _ => rfl, fun _ _ _ => rfl, fun _ _ _ => rfl, fun _ _ _ => rfl, fun _ _ _ => rfl, fun _ _ _ => rfl, fun _ _ _ => rfl⟩
theorem nrmK : (∀ v vs, argFrame (v :: vs) 0 = v) ∧ (∀ v w vs, argFrame (v :: w :: vs) 1 = w) ∧ (∀ v w x vs, argFrame (v :: w :: x :: vs) 2 = x) ∧ (∀ v w x y vs, argFrame (v :: w :: x :: y :: vs) 3 = y) ∧ (∀ v w x y z vs, argFrame (v :: w :: x :: y :: z :: vs) 4 = z) ∧ (∀ v w x y z u vs, argFrame (v :: w :: x :: y :: z :: u :: vs) 5 = u) ∧ (∀ fr, updL [] fr = fr) ∧ (∀ p l fr, updL (p :: l) fr = upd (updL l fr) p.1 p.2) ∧ (∀ g fr, mix [] g fr = fr) ∧ (∀ d D g fr, mix (d :: D) g fr = upd (mix D g fr) d (g d)) := ⟨ag0, ag1, ag2, ag3, ag4, fun _ _ _ _ _ _ _ => rfl, fx1, fx2, fx3, fx4⟩
theorem nrmL : (∀ fr t, ROpd.ev fr (.tmp t) = fr t) ∧ (∀ fr v, ROpd.ev fr (.val v) = v) ∧ (∀ fr d v i, upd fr d v i = if i = d then v else fr i) := ⟨fun _ _ => rfl, fun _ _ => rfl, upd_at⟩
section
variable {call : ACall} {lf : Nat} {fr : AFrame} {H : AHeap} {Q : RExit → AFrame → AHeap → Prop} {KF : AFrame → AHeap → Prop} {os : List ROper} {d : Nat}
theorem Fr.region {ops : List ROper} (h : ∀ KF : AFrame → AHeap → Prop, (∀ fr' H', Q .normal fr' H' → KF fr' H') → WpO call ops fr H KF) : Wp call lf (.region ops) fr H Q := Wp.region (h _ fun _ _ q => q)
theorem Fr.quiet {its : List DItem} {ops : List ROper} (hq : quiet its = true) (ho : opsOf its = ops) (h : ∀ KF : AFrame → AHeap → Prop, (∀ fr' H', Q .normal fr' H' → KF fr' H') → WpO call ops fr H KF) : Wp call lf (.dregion its) fr H Q := Wp.dquiet hq ho (h _ fun _ _ q => q)
theorem Fr.dregion0 {its : List DItem} (hno : (its.all fun it => !(Nat.beq it.cls 3)) = true) (h : ∀ KF : AFrame → AHeap → Prop, (∀ fr' H', Q .normal fr' H' → KF fr' H') → WpE call 0 H.n its H [] [] fr H KF) : Wp call lf (.dregion its) fr H Q := Wp.dregion0 hno (h _ fun _ _ q => q)
theorem Fr.dregionE {its : List DItem} (os : List AObj) (ho : oracle its H.n fr H = os) (h : ∀ KF : AFrame → AHeap → Prop, (∀ fr' H', Q .normal fr' H' → KF fr' H') → WpE call 0 H.n its (pushAll H os) [] [] fr (pushAll H os) KF) : Wp call lf (.dregion its) fr H Q := Wp.dregionE os ho (h _ fun _ _ q => q)
theorem Fo.ld {a : ROpd} {r off : Nat} {cs : List AVal} {rw : Bool} {e : TypeId} {v : AVal} (ha : a.ev fr = .ptr r off) [hg : HasRow H r cs rw e] (hv : cs[off]? = some v) (h : WpO call os (upd fr d v) H KF) : WpO call (⟨some d, .load none a, none⟩ :: os) fr H KF := WpO.do (WpX.ld ha hv h)
theorem Fo.ldN {a : ROpd} {n r off : Nat} {cs : List AVal} {rw : Bool} {e : TypeId} {l : List AVal} (ha : a.ev fr = .ptr r off) [hg : HasRow H r cs rw e] (hv : Nat.ble (off + n) cs.length = true) (hl : (cs.drop off).take n = l) (h : WpO call os (upd fr d (.agg l)) H KF) : WpO call (⟨some d, .load (some n) a, none⟩ :: os) fr H KF := WpO.do (WpX.ldN ha hv hl h)
theorem Fo.len {x : ROpd} {p v : AVal} {sz n : Nat} {cs : List AVal} (hx : x.ev fr = p) [s : SliceAt H p sz n cs] (hv : AVal.int .i64 n = v) (h : WpO call os (upd fr d v) H KF) : WpO call (⟨some d, .lenS x, none⟩ :: os) fr H KF := by subst hv; exact WpO.do (WpX.lenP hx h)
theorem Fo.now {op : ROp} {v v' : AVal} {H1 : AHeap} (_ : nowOk op = true) (hx : op.exec call fr H = some (v, H1)) (hv : v = v') (h : WpO call os (upd fr d v') H1 KF) : WpO call (⟨some d, op, none⟩ :: os) fr H KF := by subst hv; exact WpO.step rfl ⟨v, H1, hx, h⟩
theorem Fo.box {e : TypeId} {x : ROpd} {v : AVal} {cs : List AVal} (hx : x.ev fr = v) (hc : v.cells = cs) (h : WpO call os (upd fr d (.ptr H.n 0)) (H.push (.row cs true (2 * e))) KF) : WpO call (⟨some d, .box e x, none⟩ :: os) fr H KF := by subst hx hc; exact WpO.do (WpX.box h)
theorem Fo.new {e : TypeId} {cs : List AVal} (h : WpO call os (upd fr d (.ptr H.n 0)) (H.push (.row cs true (2 * e))) KF) : WpO call (⟨some d, .new e cs, none⟩ :: os) fr H KF := WpO.do (WpX.new h)
theorem Fo.bslice {e : TypeId} {sz len : Nat} {zero : List AVal} {parts : List (Nat × Nat × ROpd)} {cs cs' : List AVal} (hf : aFill fr zero parts = some cs) (hc : cs = cs') (h : WpO call os (upd fr d (.slice H.n 0 len (some len) sz)) (H.push (.row cs' true (2 * e))) KF) : WpO call (⟨some d, .buildSlice e sz len zero parts, none⟩ :: os) fr H KF := by
  subst hc
  exact WpO.step rfl ⟨_, _, by simp only [ROp.exec, hf, M.bind, aNew, M.pure], h⟩
theorem Fo.st {a x : ROpd} {n r off : Nat} {cs : List AVal} {e : TypeId} {v : AVal} {vs l : List AVal} (ha : a.ev fr = .ptr r off) (hx : x.ev fr = v) (hvs : v.cells = vs) (hn : Nat.beq vs.length n = true) [hg : HasRow H r cs true e] (hl : Nat.ble (off + vs.length) cs.length = true) (ho : vs.all AVal.one = true)
    (hs : setAt cs off vs = l) (h : WpO call os fr (H.set r (.row l true e)) KF) : WpO call (⟨none, .store n a x, none⟩ :: os) fr H KF := WpO.do' (WpX.st ha hx hvs hn hl ho hs h)
theorem Fo.idx {x i : ROpd} {p : AVal} {sz n o : Nat} {cs : List AVal} {k : IntKind} {a : Int} (hx : x.ev fr = p) (hi : i.ev fr = .int k a) [s : SliceAt H p sz n cs] (h0 : 0 ≤ a ∧ a < n) (ho : offOf p + a.toNat * sz = o) (h : WpO call os (upd fr d (.ptr (rowOf p) o)) H KF) : WpO call (⟨some d, .idxS sz x i, none⟩ :: os) fr H KF := by
  subst ho; exact WpO.do (WpX.idxP hx hi h0 h)
theorem Fo.ldB {a : ROpd} {p v : AVal} {j : Nat} {l : List UInt8} (ha : a.ev fr = .ptr (rowOf p) (offOf p + j)) [s : BytesI H p l] (hj : j < l.length) (hv : AVal.int .u8 (l[j].toNat : Int) = v) (h : WpO call os (upd fr d v) H KF) : WpO call (⟨some d, .load none a, none⟩ :: os) fr H KF := by
  subst hv; exact WpO.do (WpX.ldB ha hj h)
theorem Fo.ldI {a : ROpd} {p v : AVal} {j : Nat} {l : List Int} (ha : a.ev fr = .ptr (rowOf p) (offOf p + j)) [s : IntsI H p l] (hj : j < l.length) (hv : AVal.int .i64 l[j] = v) (h : WpO call os (upd fr d v) H KF) : WpO call (⟨some d, .load none a, none⟩ :: os) fr H KF := by
  subst hv; exact WpO.do (WpX.ldI ha hj h)
theorem Fo.build {z : List AVal} {ps : List (Nat × Nat × ROpd)} {cs cs' : List AVal} (hf : aFill fr z ps = some cs) (hc : cs = cs') (h : WpO call os (upd fr d (.agg cs')) H KF) : WpO call (⟨some d, .build z ps, none⟩ :: os) fr H KF := by
  subst hc; exact WpO.do (WpX.build hf h)
theorem Fo.yes {d : Option Nat} {op : ROp} {t : Nat} {want b : Bool} (hb : fr t = .bool b) (hw : b = want) (h : WpO call (⟨d, op, none⟩ :: os) fr H KF) : WpO call (⟨d, op, some (t, want)⟩ :: os) fr H KF := WpO.guard hb (fun _ => h) fun q => absurd hw q
theorem Fo.no {d : Nat} {op : ROp} {t : Nat} {want b : Bool} (hb : fr t = .bool b) (hw : (!b) = want) (h : WpO call os (upd fr d aundef) H KF) : WpO call (⟨some d, op, some (t, want)⟩ :: os) fr H KF := WpO.guard hb (fun q => absurd q (by subst hw; cases b <;> decide)) fun _ => h
end
section
variable {ext : Exts} {prog : FuncId → Option RFunc} {fr : AFrame} {H : AHeap} {KF : AFrame → AHeap → Prop} {os : List ROper} {d : Nat}
theorem Fo.pcall {n dd D : Nat} {f : FuncId} {o : ROpd} {l : List ROpd} {args : List AVal} {v v' : AVal} (hn : fuel0 + D ≤ n) (hf : o.ev fr = .func (.func f) [] []) (hl : l.map (·.ev fr) = args) [hc : PureCon ext prog f args H dd v] (hd : Nat.ble dd D = true) (hv : v = v')
    (h : ∀ H1, ExtI H H1 → WpO (callN ext prog n) os (upd fr d v') H1 KF) : WpO (callN ext prog n) (⟨some d, .call o l, none⟩ :: os) fr H KF := by
  subst hv; exact WpO.do (WpX.pcall hn hf hl hd h)
end
section
variable {call : ACall} {n ref : Nat} {its : List DItem} {H0 H H1 : AHeap} {E : List (Nat × AHeap)} {Rd : List (Nat × (AHeap → Bool))} {fr : AFrame} {K : AFrame → AHeap → Prop} {b : Nat} {pre : Bool} {g : Option (Nat × Bool)} {d : Nat}
theorem Fe.pure {op : ROp} {v v' : AVal} (hw : ROper.wanted fr ⟨some d, op, g⟩ = true) (hx : op.exec noCall fr H = some (v, H)) (hv : v = v') (h : WpE call (n + 1) ref its H0 E Rd (upd fr d v') H K) : WpE call n ref (⟨⟨some d, op, g⟩, b, 0, pre⟩ :: its) H0 E Rd fr H K := by
  subst hv; exact WpE.pure hw hx h
theorem Fe.read {op : ROp} {v v' : AVal} (hw : ROper.wanted fr ⟨some d, op, g⟩ = true) (hx : op.exec noCall fr H = some (v, H)) (hv : v = v') (hE : AllE b (fun H2 => op.exec noCall fr H2 = some (v, H2)) E) (h : WpE call (n + 1) ref its H0 E ((n, readOk op fr v) :: Rd) (upd fr d v') H K) : WpE call n ref (⟨⟨some d, op, g⟩, b, 1, pre⟩ :: its) H0 E Rd fr H K := by
  subst hv; exact WpE.read hw hx hE h
theorem Fe.skip {cls : Nat} {op : ROp} (hw : ROper.wanted fr ⟨some d, op, g⟩ = false) (h : WpE call (n + 1) (nextRef cls ref) its H0 E Rd (upd fr d aundef) H K) : WpE call n ref (⟨⟨some d, op, g⟩, b, cls, pre⟩ :: its) H0 E Rd fr H K := WpE.skip hw h
theorem Fe.made {op : ROp} {cs : List AVal} {e : TypeId} {k : Nat → AVal} {v : AVal} (hw : ROper.wanted fr ⟨some d, op, g⟩ = true) (hm : op.made fr = some (cs, e, k)) (hg : ghostIs H ref cs e = true) (hE : AllE b (fun H2 => ghostIs H2 ref cs e = true) E) (hv : k ref = v) (h : WpE call (n + 1) (ref + 1) its H0 E ((n, madeOk op fr ref) :: Rd) (upd fr d v) H K) : WpE call n ref (⟨⟨some d, op, g⟩, b, 3, pre⟩ :: its) H0 E Rd fr H K := by
  subst hv; exact WpE.made hw hm hg hE h
theorem Fe.effect0 {op : ROp} {v : AVal} (hw : ROper.wanted fr ⟨none, op, g⟩ = true) (hx : op.exec call fr H = some (v, H1)) (hR : AllR b H1 Rd) (h : WpE call (n + 1) ref its H0 ((n, H) :: E) Rd fr H1 K) : WpE call n ref (⟨⟨none, op, g⟩, b, 2, pre⟩ :: its) H0 E Rd fr H K := WpE.effect hw hx hR h
end
section
variable {ext : Exts} {prog : FuncId → Option RFunc} {n ref : Nat} {its : List DItem} {H0 H H1 : AHeap} {E : List (Nat × AHeap)} {Rd : List (Nat × (AHeap → Bool))} {fr : AFrame} {K : AFrame → AHeap → Prop} {b : Nat} {pre : Bool} {g : Option (Nat × Bool)} {d : Nat}
theorem Fe.pcall {m dd D : Nat} {f : FuncId} {o : ROpd} {l : List ROpd} {args : List AVal} {v v' : AVal} (hw : ROper.wanted fr ⟨some d, .call o l, g⟩ = true) (hn : fuel0 + D ≤ m) (hf : o.ev fr = .func (.func f) [] []) (hl : l.map (·.ev fr) = args) [hc : PureCon ext prog f args H dd v] (hd : Nat.ble dd D = true) (hv : v = v')
    (h : ∀ H1, ExtI H H1 → AllR b H1 Rd ∧ WpE (callN ext prog m) (n + 1) ref its H0 ((n, H) :: E) Rd (upd fr d v') H1 K) : WpE (callN ext prog m) n ref (⟨⟨some d, .call o l, g⟩, b, 2, pre⟩ :: its) H0 E Rd fr H K := by
  subst hv; exact WpE.pcall hw hn hf hl hd h
theorem Fe.con {m dd D : Nat} {f : FuncId} {o : ROpd} {l : List ROpd} {args : List AVal} {R : AVal → AHeap → Prop} (hw : ROper.wanted fr ⟨some d, .call o l, g⟩ = true) (hn : fuel0 + D ≤ m) (hd : Nat.ble dd D = true) (hf : o.ev fr = .func (.func f) [] []) (hl : l.map (·.ev fr) = args) (hc : Con ext prog dd f args H R)
    (h : ∀ v H1, R v H1 → AllR b H1 Rd ∧ WpE (callN ext prog m) (n + 1) ref its H0 ((n, H) :: E) Rd (upd fr d v) H1 K) : WpE (callN ext prog m) n ref (⟨⟨some d, .call o l, g⟩, b, 2, pre⟩ :: its) H0 E Rd fr H K := WpE.con hw hn hd hf hl hc h
end
end Go.Am
namespace Go.Am
open Go
section
variable {call : ACall} {fr : AFrame} {H : AHeap} {KF : AFrame → AHeap → Prop} {os : List ROper} {d : Nat}
theorem Fo.mov {x : ROpd} {v : AVal} (hx : x.ev fr = v) (h : WpO call os (upd fr d v) H KF) : WpO call (⟨some d, .mov x, none⟩ :: os) fr H KF := by subst hx; exact WpO.do (WpX.mov h)
theorem Fo.fa {x : ROpd} {r o off : Nat} (hx : x.ev fr = .ptr r o) (h : WpO call os (upd fr d (.ptr r (o + off))) H KF) : WpO call (⟨some d, .fieldAddr off x, none⟩ :: os) fr H KF := WpO.do (WpX.fieldAddr hx h)
theorem Fo.pickT {c a b : ROpd} {v : AVal} (hc : c.ev fr = .bool true) (hx : a.ev fr = v) (h : WpO call os (upd fr d v) H KF) : WpO call (⟨some d, .pick c a b, none⟩ :: os) fr H KF := by subst hx; exact WpO.do (WpX.pick hc h)
theorem Fo.pickF {c a b : ROpd} {v : AVal} (hc : c.ev fr = .bool false) (hx : b.ev fr = v) (h : WpO call os (upd fr d v) H KF) : WpO call (⟨some d, .pick c a b, none⟩ :: os) fr H KF := by subst hx; exact WpO.do (WpX.pick hc h)
theorem Fo.extr {x : ROpd} {i : Nat} {vs : List AVal} {v : AVal} (hx : x.ev fr = .tuple vs) (hv : vs[i]? = some v) (h : WpO call os (upd fr d v) H KF) : WpO call (⟨some d, .extract x i, none⟩ :: os) fr H KF := WpO.do (WpX.extract hx hv h)
theorem Fo.bin {op : BinOp} {x y : ROpd} {a b v v' : AVal} (hx : x.ev fr = a) (hy : y.ev fr = b) (hv : aBin op a b = some v) (he : v = v') (h : WpO call os (upd fr d v') H KF) : WpO call (⟨some d, .bin op x y, none⟩ :: os) fr H KF := by
  subst hx hy he
  exact WpO.step rfl ⟨v, H, by simp only [ROp.exec, hv, M.ofOption, M.pure], h⟩
end
end Go.Am
namespace Go.Am
open Go
section
variable {call : ACall} {fr : AFrame} {H : AHeap} {KF : AFrame → AHeap → Prop} {os : List ROper} {d : Nat}
theorem Fo.box1 {e : TypeId} {x : ROpd} {v : AVal} (hx : x.ev fr = v) [o : OneV v] (h : WpO call os (upd fr d (.ptr H.n 0)) (H.push (.row [v] true (2 * e))) KF) : WpO call (⟨some d, .box e x, none⟩ :: os) fr H KF := Fo.box hx o.cells h
end
end Go.Am

namespace Go.Am
open Go
section
variable {call : ACall} {lf : Nat} {fr : AFrame} {H : AHeap} {Q : RExit → AFrame → AHeap → Prop} {KF : AFrame → AHeap → Prop} {os : List ROper} {d : Nat}
theorem mI {x : ROpd} {k : IntKind} {n : Int} (h : WpO call os (upd fr d (.int k n)) H KF) (hx : x.ev fr = .int k n := by exact rfl) : WpO call (⟨some d, .mov x, none⟩ :: os) fr H KF := Fo.mov hx h
theorem mB {x : ROpd} {b : Bool} (h : WpO call os (upd fr d (.bool b)) H KF) (hx : x.ev fr = .bool b := by exact rfl) : WpO call (⟨some d, .mov x, none⟩ :: os) fr H KF := Fo.mov hx h
theorem mT {x : ROpd} {l : List AVal} (h : WpO call os (upd fr d (.tuple l)) H KF) (hx : x.ev fr = .tuple l := by exact rfl) : WpO call (⟨some d, .mov x, none⟩ :: os) fr H KF := Fo.mov hx h
theorem mF {x : ROpd} {f : Fn} {a b : List AVal} (h : WpO call os (upd fr d (.func f a b)) H KF) (hx : x.ev fr = .func f a b := by exact rfl) : WpO call (⟨some d, .mov x, none⟩ :: os) fr H KF := Fo.mov hx h
theorem mN {x : ROpd} (h : WpO call os (upd fr d .nslice) H KF) (hx : x.ev fr = .nslice := by exact rfl) : WpO call (⟨some d, .mov x, none⟩ :: os) fr H KF := Fo.mov hx h
theorem tB {c a b : ROpd} {n : Bool} (h : WpO call os (upd fr d (.bool n)) H KF) (hc : c.ev fr = .bool true := by exact rfl) (hx : a.ev fr = .bool n := by exact rfl) : WpO call (⟨some d, .pick c a b, none⟩ :: os) fr H KF := Fo.pickT hc hx h
theorem fB {c a b : ROpd} {n : Bool} (h : WpO call os (upd fr d (.bool n)) H KF) (hc : c.ev fr = .bool false := by exact rfl) (hx : b.ev fr = .bool n := by exact rfl) : WpO call (⟨some d, .pick c a b, none⟩ :: os) fr H KF := Fo.pickF hc hx h
theorem sq {a b : RCode} (h : Wp call lf a fr H fun x fr' H' => match x with | .normal => Wp call lf b fr' H' Q | e => Q e fr' H') : Wp call lf (.seq a b) fr H Q := Wp.seq h
theorem rg {ops : List ROper} (h : ∀ KF : AFrame → AHeap → Prop, (∀ fr' H', Q .normal fr' H' → KF fr' H') → WpO call ops fr H KF) : Wp call lf (.region ops) fr H Q := Fr.region h
theorem ct {c : ROpd} {t e : RCode} (hc : c.ev fr = .bool true) (h : Wp call lf t fr H Q) : Wp call lf (.cond c t e) fr H Q := Wp.cond (b := true) hc h
theorem cf {c : ROpd} {t e : RCode} (hc : c.ev fr = .bool false) (h : Wp call lf e fr H Q) : Wp call lf (.cond c t e) fr H Q := Wp.cond (b := false) hc h
theorem nl {A : AFrame → AHeap → Prop} (hK : ∀ fr H, A fr H → KF fr H) (h : A fr H) : WpO call [] fr H KF := WpO.nil (hK _ _ h)
theorem sk (h : Q .normal fr H) : Wp call lf .skip fr H Q := Wp.skip h
theorem rt (h : Q .ret fr H) : Wp call lf .ret fr H Q := Wp.ret h
theorem xi {id : Nat} (h : Q (.exit id) fr H) : Wp call lf (.exit id) fr H Q := Wp.exit h
theorem oy {d : Option Nat} {op : ROp} {t : Nat} {want b : Bool} (h : WpO call (⟨d, op, none⟩ :: os) fr H KF) (hb : fr t = .bool b := by exact rfl) (hw : b = want := by exact rfl) : WpO call (⟨d, op, some (t, want)⟩ :: os) fr H KF := Fo.yes hb hw h
theorem ox {d : Nat} {op : ROp} {t : Nat} {want b : Bool} (h : WpO call os (upd fr d aundef) H KF) (hb : fr t = .bool b := by exact rfl) (hw : (!b) = want := by exact rfl) : WpO call (⟨some d, op, some (t, want)⟩ :: os) fr H KF := Fo.no hb hw h
theorem fd {x : ROpd} {r o off : Nat} (h : WpO call os (upd fr d (.ptr r (o + off))) H KF) (hx : x.ev fr = .ptr r o := by exact rfl) : WpO call (⟨some d, .fieldAddr off x, none⟩ :: os) fr H KF := Fo.fa hx h
theorem mv {x : ROpd} {v : AVal} (h : WpO call os (upd fr d v) H KF) (hx : x.ev fr = v := by simp only [↓nrmL, nrmK, Nat.reduceEqDiff, ↓reduceIte]; rfl) : WpO call (⟨some d, .mov x, none⟩ :: os) fr H KF := Fo.mov hx h
theorem b0 {op : BinOp} {x y : ROpd} {a b v : AVal} (h : WpO call os (upd fr d v) H KF) (hx : x.ev fr = a := by exact rfl) (hy : y.ev fr = b := by exact rfl) (hv : aBin op a b = some v := by exact rfl) : WpO call (⟨some d, .bin op x y, none⟩ :: os) fr H KF := Fo.bin hx hy hv rfl h
theorem bn {op : BinOp} {x y : ROpd} {a b v v' : AVal} (hx : x.ev fr = a) (hy : y.ev fr = b) (hv : aBin op a b = some v) (he : v = v') (h : WpO call os (upd fr d v') H KF) : WpO call (⟨some d, .bin op x y, none⟩ :: os) fr H KF := Fo.bin hx hy hv he h
theorem xt {x : ROpd} {i : Nat} {vs : List AVal} {v : AVal} (h : WpO call os (upd fr d v) H KF) (hx : x.ev fr = .tuple vs := by exact rfl) (hv : vs[i]? = some v := by exact rfl) : WpO call (⟨some d, .extract x i, none⟩ :: os) fr H KF := Fo.extr hx hv h
theorem nw {e : TypeId} {cs : List AVal} (h : WpO call os (upd fr d (.ptr H.n 0)) (H.push (.row cs true (2 * e))) KF) : WpO call (⟨some d, .new e cs, none⟩ :: os) fr H KF := Fo.new h
theorem ln {x : ROpd} {p : AVal} {sz n : Nat} {cs : List AVal} (hx : x.ev fr = p) [s : SliceAt H p sz n cs] (h : WpO call os (upd fr d (.int .i64 n)) H KF) : WpO call (⟨some d, .lenS x, none⟩ :: os) fr H KF := Fo.len hx rfl h
theorem ob {z : List AVal} {ps : List (Nat × Nat × ROpd)} {cs cs' : List AVal} (hc : cs = cs') (h : WpO call os (upd fr d (.agg cs')) H KF) (hf : aFill fr z ps = some cs := by repeat (first | refine aFill1 (by first | exact (rfl : _ = AVal.int _ _) | exact (rfl : _ = AVal.ptr _ _) | exact (rfl : _ = AVal.bool _) | exact (rfl : _ = AVal.agg _) | exact (rfl : _ = AVal.tuple _) | exact (rfl : _ = AVal.func _ _ _) | exact (rfl : _ = AVal.nslice) | ((try simp only [↓nrmL, nrmK, Nat.reduceEqDiff, ↓reduceIte]); rfl)) rfl ?_ | rfl)) : WpO call (⟨some d, .build z ps, none⟩ :: os) fr H KF := Fo.build hf hc h
theorem so {a x : ROpd} {n r off : Nat} {cs : List AVal} {e : TypeId} {v : AVal} {vs l : List AVal} {os : List ROper} (ha : a.ev fr = .ptr r off) (hx : x.ev fr = v) (hvs : v.cells = vs) (hn : Nat.beq vs.length n = true) [hg : HasRow H r cs true e] (hl : Nat.ble (off + vs.length) cs.length = true)
    (hs : setAt cs off vs = l) (h : WpO call os fr (H.set r (.row l true e)) KF) (ho : vs.all AVal.one = true := by repeat (first | rfl | refine allOne_cons ?_)) : WpO call (⟨none, .store n a x, none⟩ :: os) fr H KF := Fo.st ha hx hvs hn hl ho hs h
end
theorem xs {call : ACall} {fr : AFrame} {H : AHeap} {a x : ROpd} {n r off : Nat} {cs : List AVal} {e : TypeId} {v : AVal} {vs l : List AVal} (ha : a.ev fr = .ptr r off) (hx : x.ev fr = v) (hvs : v.cells = vs) (hn : Nat.beq vs.length n = true) [hg : HasRow H r cs true e] (hl : Nat.ble (off + vs.length) cs.length = true)
    (hs : setAt cs off vs = l) (ho : vs.all AVal.one = true := by repeat (first | rfl | refine allOne_cons ?_)) : (ROp.store n a x).exec call fr H = some (aundef, H.set r (.row l true e)) := exec_st ha hx hvs hn hl ho hs
theorem rz {A : Prop} {fr : AFrame} {res : List RRes} {H : AHeap} {vs : List AVal} {Q : List AVal → Prop} (hA : A) (h : Q vs) (hg : getAll fr res H = some (vs, H) := by first | rfl | exact getAllC rfl rfl rfl rfl | exact getAllT rfl (getAllC rfl rfl rfl rfl) | exact getAllC rfl rfl rfl (getAllC rfl rfl rfl rfl) | exact getAllC1 rfl rfl rfl) : A ∧ ∃ vs, getAll fr res H = some (vs, H) ∧ Q vs := ⟨hA, vs, hg, h⟩
section
variable {call : ACall} {n ref : Nat} {its : List DItem} {H0 H H1 : AHeap} {E : List (Nat × AHeap)} {Rd : List (Nat × (AHeap → Bool))} {fr : AFrame} {K : AFrame → AHeap → Prop} {b : Nat} {pre : Bool} {g : Option (Nat × Bool)} {d : Nat}
theorem Er {op : ROp} {v v' : AVal} (hw : ROper.wanted fr ⟨some d, op, g⟩ = true) (hx : op.exec noCall fr H = some (v, H)) (hv : v = v') (h : WpE call (n + 1) ref its H0 E ((n, readOk op fr v) :: Rd) (upd fr d v') H K) (hE : AllE b (fun H2 => op.exec noCall fr H2 = some (v, H2)) E := by repeat (first | exact trivial | refine ⟨(by first | exact Or.inl (by dsimp only; decide) | exact Or.inr (exec_ld rfl rfl) | exact Or.inr (exec_ld rfl (by assumption)) | exact Or.inr (exec_ldN rfl rfl rfl) | exact Or.inr (exec_ldB rfl (by omega)) | exact Or.inr (exec_ldI rfl (by omega)) | exact Or.inr ghost_of), ?_⟩)) : WpE call n ref (⟨⟨some d, op, g⟩, b, 1, pre⟩ :: its) H0 E Rd fr H K := Fe.read hw hx hv hE h
theorem Em {op : ROp} {cs : List AVal} {e : TypeId} {k : Nat → AVal} {v : AVal} (hw : ROper.wanted fr ⟨some d, op, g⟩ = true) (hm : op.made fr = some (cs, e, k)) (hg : ghostIs H ref cs e = true) (hv : k ref = v) (h : WpE call (n + 1) (ref + 1) its H0 E ((n, madeOk op fr ref) :: Rd) (upd fr d v) H K) (hE : AllE b (fun H2 => ghostIs H2 ref cs e = true) E := by repeat (first | exact trivial | refine ⟨(by first | exact Or.inl (by dsimp only; decide) | exact Or.inr (exec_ld rfl rfl) | exact Or.inr (exec_ld rfl (by assumption)) | exact Or.inr (exec_ldN rfl rfl rfl) | exact Or.inr (exec_ldB rfl (by omega)) | exact Or.inr (exec_ldI rfl (by omega)) | exact Or.inr ghost_of), ?_⟩)) : WpE call n ref (⟨⟨some d, op, g⟩, b, 3, pre⟩ :: its) H0 E Rd fr H K := Fe.made hw hm hg hE hv h
theorem Ee {op : ROp} {v : AVal} (hw : ROper.wanted fr ⟨none, op, g⟩ = true) (hx : op.exec call fr H = some (v, H1)) (h : WpE call (n + 1) ref its H0 ((n, H) :: E) Rd fr H1 K) (hR : AllR b H1 Rd := by repeat (first | exact trivial | refine ⟨(by first | exact Or.inl (by dsimp only; decide) | exact Or.inr (readOk_of (exec_ld rfl rfl)) | exact Or.inr (readOk_of (exec_ld rfl (by assumption))) | exact Or.inr (readOk_of (exec_ldN rfl rfl rfl)) | exact Or.inr (readOk_of (exec_ldB rfl (by omega))) | exact Or.inr (readOk_of (exec_ldI rfl (by omega))) | exact Or.inr (made_of rfl)), ?_⟩)) : WpE call n ref (⟨⟨none, op, g⟩, b, 2, pre⟩ :: its) H0 E Rd fr H K := Fe.effect0 hw hx hR h
theorem ar {B : Prop} (h : B) (hR : AllR b H1 Rd := by repeat (first | exact trivial | refine ⟨(by first | exact Or.inl (by dsimp only; decide) | exact Or.inr (readOk_of (exec_ld rfl rfl)) | exact Or.inr (readOk_of (exec_ld rfl (by assumption))) | exact Or.inr (readOk_of (exec_ldN rfl rfl rfl)) | exact Or.inr (readOk_of (exec_ldB rfl (by omega))) | exact Or.inr (readOk_of (exec_ldI rfl (by omega))) | exact Or.inr (made_of rfl)), ?_⟩)) : AllR b H1 Rd ∧ B := ⟨hR, h⟩
end
theorem nrmZ : type_of% nrm ∧ type_of% nrmS := ⟨nrm, nrmS⟩
end Go.Am

namespace Go.Am
open Go
class Part (p : outParam AVal) (v : AVal) (a n : outParam Nat) : Prop where
  it : (n = 0 ∧ aLenS v = some (.int .i64 0) ∧ v.cells = [v] ∧ v.one = true) ∨ ∃ r off len cap cap', p = .slice r off len cap 1 ∧ v = .slice r (off + a) n cap' 1 ∧ a + n ≤ len
theorem Part.one {p v : AVal} {a n : Nat} (h : Part p v a n) : OneV v := by
  rcases h.it with ⟨_, _, h1, h2⟩ | ⟨r, off, len, cap, cap', _, rfl, _⟩
  · exact ⟨h1, h2⟩
  · infer_instance
theorem Part.lenS {p v : AVal} {a n : Nat} (h : Part p v a n) : aLenS v = some (.int .i64 n) := by
  rcases h.it with ⟨rfl, h1, _⟩ | ⟨r, off, len, cap, cap', _, rfl, _⟩
  · exact h1
  · rfl
section
variable {call : ACall} {fr : AFrame} {H : AHeap} {KF : AFrame → AHeap → Prop} {os : List ROper} {d : Nat}
theorem cells_sub {row : List AVal} {l : List UInt8} {off a b : Nat} (hc : (row.drop off).take l.length = cellsB l) (hb : b ≤ l.length) : (row.drop (off + a)).take (b - a) = cellsB ((l.drop a).take (b - a)) := by
  have h1 : (cellsB l).drop a = cellsB (l.drop a) := by simp [cellsB, List.map_drop]
  have h2 : ∀ (k : Nat) (m : List UInt8), (cellsB m).take k = cellsB (m.take k) := fun k m => by simp [cellsB, List.map_take]
  rw [← h2, ← h1, ← hc, List.drop_take, List.drop_drop, List.take_take]
  congr 1
  omega
def bnd (o : Option AVal) (dflt n : Nat) : Prop := (o = none ∧ n = dflt) ∨ ∃ k, o = some (.int k n)
theorem exec_slc {x : ROpd} {lo hi : Option ROpd} {p : AVal} {l : List UInt8} {a b : Nat} (hx : x.ev fr = p) (hlo : bnd (lo.map (·.ev fr)) 0 a) (hhi : bnd (hi.map (·.ev fr)) l.length b) (hab : a ≤ b) (hbl : b ≤ l.length) [s : BytesI H p l] :
    ∃ v H', (ROp.sliceS 1 x lo hi none).exec call fr H = some (v, H') ∧ Part p v a (b - a) ∧ BytesI H' v ((l.drop a).take (b - a)) ∧ Ext H H' := by
  have hlen : ((l.drop a).take (b - a)).length = b - a := by rw [List.length_take, List.length_drop]; omega
  have hl1 : ∀ h, a ≤ h → aLow h (lo.map (·.ev fr)) = some a := by
    intro h hh
    rcases hlo with ⟨h1, rfl⟩ | ⟨k, h1⟩
    · rw [h1]; rfl
    · rw [h1]
      have : (0 : Int) ≤ (a : Int) ∧ (a : Int) ≤ (h : Int) := by omega
      simp only [aLow, aBound, if_pos this, Int.toNat_natCast]
  have hh1 : ∀ y, b ≤ y → aHigh l.length y (hi.map (·.ev fr)) = some b := by
    intro y hy
    rcases hhi with ⟨h1, rfl⟩ | ⟨k, h1⟩
    · rw [h1]; rfl
    · rw [h1]
      have : (0 : Int) ≤ (b : Int) ∧ (b : Int) ≤ (y : Int) := by omega
      simp only [aHigh, aBound, if_pos this, Int.toNat_natCast]
  rcases s.it with ⟨rfl, h0, _⟩ | ⟨r, off, cap, row, rw, e, rfl, hr, hg, hl, hc, hcap⟩
  · have e1 : b = 0 := by omega
    have e2 : a = 0 := by omega
    subst e1 e2
    have hb0 : aBounds 0 (some 0) (lo.map (·.ev fr)) (hi.map (·.ev fr)) none = some (0, 0, some 0) := by
      have h1 := hh1 (capD 0 (some 0)) (Nat.zero_le _)
      rw [h0] at h1
      simp only [aBounds, h1, hl1 0 (Nat.zero_le _)]
    refine ⟨.nslice, H, by simp only [ROp.exec, hx, Option.map_none, aSliceS, hb0, M.pure], ⟨Or.inl ⟨rfl, rfl, rfl, rfl⟩⟩, ?_, Ext.refl H⟩
    have e3 : (l.drop 0).take (0 - 0) = [] := by simp
    rw [e3]
    exact ⟨Or.inl ⟨rfl, rfl, rfl⟩⟩
  · rw [Nat.mul_one] at hl hc
    have hb0 : aBounds l.length cap (lo.map (·.ev fr)) (hi.map (·.ev fr)) none = some (a, b, cap) := by
      simp only [aBounds, hh1 _ (Nat.le_trans hbl hcap), hl1 b hab]
    have hsub := cells_sub (a := a) hc hbl
    have full : ∀ cap', (b - a ≤ capD (b - a) cap') → BytesI H (.slice r (off + a) (b - a) cap' 1) ((l.drop a).take (b - a)) := by
      intro cap' hc'
      unfold BytesI
      rw [hlen]
      exact ⟨Or.inr ⟨r, off + a, cap', row, rw, e, rfl, hr, hg, by omega, by rw [Nat.mul_one]; exact hsub, hc'⟩⟩
    have none0 : a = b → ∀ cap', BytesI H (.slice r off (b - a) cap' 1) ((l.drop a).take (b - a)) := by
      intro hE cap'
      subst hE
      have e3 : (l.drop a).take (a - a) = [] := by simp
      rw [e3, Nat.sub_self]
      exact ⟨Or.inr ⟨r, off, cap', row, rw, e, rfl, hr, hg, by simp; omega, by simp [cellsB], Nat.zero_le _⟩⟩
    cases cap with
    | some c =>
      simp only [capD] at hcap
      by_cases hca : c = a
      · have hE : a = b := by omega
        refine ⟨.slice r off (b - a) (some 0) 1, H, by simp only [ROp.exec, hx, Option.map_none, aSliceS, ne_eq, not_true, if_false, hb0, M.pure, if_pos hca], ⟨Or.inl ⟨by omega, by rw [hE, Nat.sub_self]; rfl, rfl, rfl⟩⟩, none0 hE _, Ext.refl H⟩
      · refine ⟨.slice r (off + a) (b - a) (some (c - a)) 1, H, by simp only [ROp.exec, hx, Option.map_none, aSliceS, ne_eq, not_true, if_false, hb0, M.pure, if_neg hca, Nat.mul_one], ⟨Or.inr ⟨r, off, l.length, some c, some (c - a), rfl, rfl, by omega⟩⟩, full _ (by simp only [capD]; omega), Ext.refl H⟩
    | none =>
      have h2 : ¬ row.length < off + l.length := by omega
      have hrow : aRow r H = some ((row, rw), H) := by simp only [aRow, if_pos hr, hg]
      by_cases hcd : a < b ∨ a = 0
      · refine ⟨.slice r (off + a) (b - a) none 1, H, ?_, ⟨Or.inr ⟨r, off, l.length, none, none, rfl, rfl, by omega⟩⟩, full _ (Nat.le_refl _), Ext.refl H⟩
        simp only [ROp.exec, hx, Option.map_none, aSliceS, ne_eq, not_true, if_false, hb0, Nat.mul_one, Nat.one_ne_zero, M.bind, hrow, if_neg h2, if_pos hcd, M.pure]
      · have hE : a = b := by omega
        refine ⟨.slice H.n 0 0 none 1, H.push (.row [] false 0), ?_, ⟨Or.inl ⟨by omega, rfl, rfl, rfl⟩⟩, ?_, (Ext.refl H).push _⟩
        · simp only [ROp.exec, hx, Option.map_none, aSliceS, ne_eq, not_true, if_false, hb0, Nat.mul_one, Nat.one_ne_zero, M.bind, hrow, if_neg h2, if_neg hcd, M.pure, aNew]
        · have e3 : (l.drop a).take (b - a) = [] := by rw [hE, Nat.sub_self]; simp
          rw [e3]
          exact ⟨Or.inr ⟨H.n, 0, none, [], false, 0, rfl, Nat.lt_succ_self _, push_get_eq, by simp, by simp [cellsB], Nat.zero_le _⟩⟩
theorem Fo.slc {x : ROpd} {lo hi : Option ROpd} {p : AVal} {l : List UInt8} {a b : Nat} (hx : x.ev fr = p) (hlo : bnd (lo.map (·.ev fr)) 0 a) (hhi : bnd (hi.map (·.ev fr)) l.length b) (hab : a ≤ b) (hbl : b ≤ l.length) [s : BytesI H p l]
    (h : ∀ v H1, Part p v a (b - a) → BytesI H1 v ((l.drop a).take (b - a)) → ExtI H H1 → WpO call os (upd fr d v) H1 KF) : WpO call (⟨some d, .sliceS 1 x lo hi none, none⟩ :: os) fr H KF := by
  obtain ⟨v, H1, h1, h2, h3, h4⟩ := exec_slc (call := call) hx hlo hhi hab hbl (s := s)
  exact WpO.step rfl ⟨v, H1, h1, h v H1 h2 h3 ⟨h4⟩⟩
end
end Go.Am

namespace Go.Am
open Go
class OwnS (H : AHeap) (p : AVal) (sz : outParam Nat) (n : outParam Nat) (cs : outParam (List AVal)) (e : outParam TypeId) : Prop where
  it : (p = .nslice ∧ n = 0 ∧ cs = []) ∨ ∃ r e', p = .slice r 0 n none sz ∧ r < H.n ∧ H.get r = .row cs true e' ∧ e' / 2 = e ∧ cs.length = n * sz ∧ 0 < n
theorem OwnS.sl {H : AHeap} {p : AVal} {sz n : Nat} {cs : List AVal} {e : TypeId} (h : OwnS H p sz n cs e) : SliceAt H p sz n cs := by
  rcases h.it with ⟨h1, h2, h3⟩ | ⟨r, e', h1, h2, h3, h4, h5, h6⟩
  · exact ⟨Or.inl ⟨h1, h2, h3⟩⟩
  · exact ⟨Or.inr ⟨r, 0, none, cs, true, e', h1, h2, h3, by omega, by rw [List.drop_zero, List.take_of_length_le (by omega)], Nat.le_refl _⟩⟩
theorem OwnS.wr {H : AHeap} {p : AVal} {sz n : Nat} {cs : List AVal} {e : TypeId} (h : OwnS H p sz n cs e) : WrS H p := ⟨fun r off len cap s q => by
  rcases h.it with ⟨h1, _⟩ | ⟨r', e', h1, h2, h3, _⟩
  · rw [h1] at q; cases q
  · rw [h1] at q; cases q; exact ⟨cs, e', h3⟩⟩
theorem OwnS.keep {H H' : AHeap} {p : AVal} {sz n : Nat} {cs : List AVal} {e : TypeId} (h : OwnS H p sz n cs e) (hn : H.n ≤ H'.n) (hg : ∀ r off len cap sz, p = .slice r off len cap sz → r < H.n → H'.get r = H.get r) : OwnS H' p sz n cs e := by
  rcases h.it with ⟨h1, h2, h3⟩ | ⟨r, e', h1, h2, h3, h4⟩
  · exact ⟨Or.inl ⟨h1, h2, h3⟩⟩
  · exact ⟨Or.inr ⟨r, e', h1, by omega, by rw [hg _ _ _ _ _ h1 h2]; exact h3, h4⟩⟩
instance {H H' : AHeap} {p : AVal} {sz n : Nat} {cs : List AVal} {e : TypeId} [x : ExtI H H'] [h : OwnS H p sz n cs e] : OwnS H' p sz n cs e := h.keep x.ext.n fun _ _ _ _ _ _ hr => x.ext.get _ hr
instance {H : AHeap} {o : AObj} {p : AVal} {sz n : Nat} {cs : List AVal} {e : TypeId} [h : OwnS H p sz n cs e] : OwnS (H.push o) p sz n cs e := h.keep (Nat.le_succ _) fun _ _ _ _ _ _ hr => push_get_lt hr
instance {H : AHeap} {s : Nat} {o : AObj} {p : AVal} {sz n : Nat} {cs : List AVal} {e : TypeId} [h : OwnS H p sz n cs e] [k : RowNe p s] : OwnS (H.set s o) p sz n cs e := h.keep (Nat.le_refl _) fun _ _ _ _ _ e _ => set_get_ne (k.ne _ _ _ _ _ e)
instance {H H' : AHeap} {p q : AVal} {sz n : Nat} {cs : List AVal} {e : TypeId} [x : ExtP H H' q] [h : OwnS H p sz n cs e] [k : SepS p q] : OwnS H' p sz n cs e := h.keep x.n fun r _ _ _ _ e hr => x.get r hr ⟨fun r' _ _ _ _ e' => fun hh => k.ne _ _ _ _ _ _ _ _ _ _ e e' hh.symm⟩
theorem exec_grow {H : AHeap} {p q : AVal} {sz n k bytes : Nat} {cs new : List AVal} {e : TypeId} (h : OwnS H p sz n cs e) (hf : aLenOf q = some k ∧ aFirst sz k q H = some (new, H)) (hnl : new.length = k * sz) (hsz : 0 < sz) (hb : 0 < bytes) (hk : 0 < k) (hroom : 2 * (n + k) * bytes ≤ 2 ^ 48) (hone : new.all AVal.one = true) :
    ∃ p' H', aAppend e sz bytes p q H = some (p', H') ∧ OwnS H' p' sz (n + k) (cs ++ new) e ∧ FreshS H p' ∧ ExtP H H' p := by
  have hk0 : ¬ k = 0 := by omega
  have hs0 : ¬ sz = 0 := by omega
  have hb0 : ¬ bytes = 0 := by omega
  rcases h.it with ⟨rfl, rfl, rfl⟩ | ⟨r, e', rfl, h2, h3, h4, h5, h6⟩
  · refine ⟨.slice H.n 0 k none sz, H.push (.row new true (2 * e)), ?_, ⟨Or.inr ⟨H.n, 2 * e, by rw [Nat.zero_add], Nat.lt_succ_self _, by rw [List.nil_append]; exact push_get_eq, half_even _, by rw [List.nil_append, Nat.zero_add]; exact hnl, by omega⟩⟩, ⟨fun _ _ _ _ _ q => by cases q; exact Nat.le_refl _⟩, ⟨Nat.le_succ _, fun r hr _ => push_get_lt hr⟩⟩
    rw [Nat.zero_add] at hroom
    simp only [aAppend, hf.1]
    rw [bind_of hf.2]
    simp only [hone, hnl, Bool.not_true, ne_eq, not_true, decide_false, hs0, hb0, Bool.or_false, Bool.false_eq_true, if_false, hk0, if_pos hroom, M.bind, aNew, M.pure]
  · have hcl : 0 + n * sz ≤ cs.length := by omega
    have hno : ¬ (0 + (n + k) * sz ≤ cs.length) := by
      have : 0 < k * sz := Nat.mul_pos hk hsz
      rw [Nat.add_mul]; omega
    refine ⟨.slice H.n 0 (n + k) none sz, (H.set r .dead).push (.row (cs ++ new) true (2 * e + 1)), ?_, ⟨Or.inr ⟨H.n, 2 * e + 1, rfl, Nat.lt_succ_self _, push_get_eq (H := H.set r .dead), half_odd _, by rw [List.length_append, hnl, h5, Nat.add_mul], by omega⟩⟩, ⟨fun _ _ _ _ _ q => by cases q; exact Nat.le_refl _⟩, ⟨Nat.le_succ _, fun s hs hne => by
      have hsr : s ≠ r := fun q => hne.ne _ _ _ _ _ rfl q.symm
      rw [push_get_lt (H := H.set r .dead) hs, set_get_ne hsr]⟩⟩
    have ha : aRow r H = some ((cs, true), H) := by simp only [aRow, if_pos h2, h3]
    have hmv : aMove r e (.row (((cs.drop 0).take (n * sz)) ++ new) true (2 * e + 1)) H = some (H.n, (H.set r .dead).push (.row (cs ++ new) true (2 * e + 1))) := by
      simp only [aMove, h3, h4, nbeq_self]
      rw [List.drop_zero, List.take_of_length_le (by omega)]
    simp only [aAppend, hf.1]
    rw [bind_of hf.2]
    simp only [hone, hnl, Bool.not_true, ne_eq, not_true, decide_false, hs0, hb0, Bool.or_false, Bool.false_eq_true, if_false]
    rw [bind_of ha]
    simp only [hk0, if_false, hno, Bool.true_and, decide_eq_true hcl, decide_eq_true hroom, Bool.and_true, if_true]
    rw [bind_of hmv]
    rfl
theorem aFirst_at {H : AHeap} {q : AVal} {sz k : Nat} {new : List AVal} (h : SliceAt H q sz k new) : aLenOf q = some k ∧ aFirst sz k q H = some (new, H) := by
  rcases h.it with ⟨rfl, rfl, rfl⟩ | ⟨r, off, cap, row, rw, e0, rfl, hr, hg, hle, hc, _⟩
  · exact ⟨rfl, rfl⟩
  · exact ⟨rfl, by simp only [aFirst, ne_eq, not_true, if_false, M.bind, aRow, if_pos hr, hg, if_pos hle, hc, M.pure]⟩
section
variable {call : ACall} {fr : AFrame} {H : AHeap} {K : AVal → AHeap → Prop}
theorem WpX.grow {e : TypeId} {x y : ROpd} {p q : AVal} {sz n k bytes : Nat} {cs new : List AVal} (hx : x.ev fr = p) (hy : y.ev fr = q) [h : OwnS H p sz n cs e] [hq : SliceAt H q sz k new] (hsz : 0 < sz) (hb : 0 < bytes) (hk : 0 < k) (hroom : 2 * (n + k) * bytes ≤ 2 ^ 48) (hone : new.all AVal.one = true)
    (hK : ∀ p' H', OwnS H' p' sz (n + k) (cs ++ new) e → FreshS H p' → ExtP H H' p → K p' H') : WpX (.append e sz bytes x y) call fr H K := by
  obtain ⟨p', H', h1, h2, h3, h4⟩ := exec_grow h (aFirst_at hq) hq.len hsz hb hk hroom hone
  exact ⟨p', H', by simp only [ROp.exec, hx, hy]; exact h1, hK p' H' h2 h3 h4⟩
end
class HasLoop (H : AHeap) (r : Nat) (R : outParam RLoop) : Prop where
  lt : r < H.n
  get : H.get r = .loop R
instance {H : AHeap} {r : Nat} {R : RLoop} [h : HasLoop H r R] : LtN r H := ⟨h.lt⟩
theorem HasLoop.ext {H H' : AHeap} {r : Nat} {R : RLoop} (h : HasLoop H r R) (x : Ext H H') : HasLoop H' r R := ⟨Nat.lt_of_lt_of_le h.lt x.n, by rw [x.get r h.lt]; exact h.get⟩
instance {H H' : AHeap} {r : Nat} {R : RLoop} [x : ExtI H H'] [h : HasLoop H r R] : HasLoop H' r R := h.ext x.ext
instance {H : AHeap} {o : AObj} {r : Nat} {R : RLoop} [h : HasLoop H r R] : HasLoop (H.push o) r R := ⟨Nat.lt_succ_of_lt h.lt, by rw [push_get_lt h.lt]; exact h.get⟩
instance {H : AHeap} {R : RLoop} : HasLoop (H.push (.loop R)) H.n R := ⟨Nat.lt_succ_self _, push_get_eq⟩
instance {H : AHeap} {s : Nat} {o : AObj} {r : Nat} {R : RLoop} [h : HasLoop H r R] [k : NeR r s] : HasLoop (H.set s o) r R := ⟨h.lt, by rw [set_get_ne k.ne]; exact h.get⟩
instance {H : AHeap} {r : Nat} {R R' : RLoop} [h : HasLoop H r R'] : HasLoop (H.set r (.loop R)) r R := ⟨h.lt, set_get_eq⟩
instance {H H' : AHeap} {r : Nat} {R : RLoop} {q : AVal} [x : ExtP H H' q] [h : HasLoop H r R] [k : RowNe q r] : HasLoop H' r R := ⟨Nat.lt_of_lt_of_le h.lt x.n, by rw [x.get r h.lt k]; exact h.get⟩
section
variable {call : ACall} {lf : Nat} {fr : AFrame} {H : AHeap} {Q : RExit → AFrame → AHeap → Prop}
theorem Wp.range {fns : List FuncId} {nt : Nat} {g : ROpd} {ps : List Nat} {a b : RCode} {gf : FuncId} {fi ca vs : List AVal} (hg : g.ev fr = .func (.func gf) fi ca) (hv : fr nt = .tuple vs) (hf : fns.contains gf = true)
    (h : ∃ v H2 R, call gf (fi ++ [.yield (H.n + 1)] ++ ca) ((H.push .dead).push (.loop ⟨H.n, nt, fr, ps, a, b, 0, .normal⟩)) = some (v, H2) ∧ H2.get (H.n + 1) = .loop R ∧ (Nat.beq R.st 1 || Nat.beq R.st 4) = false ∧
      Q R.pend (upd fr nt (.tuple (.ptr H.n (H.n + 1) :: vs))) (H2.set (H.n + 1) (.loop { R with st := 3 }))) : Wp call lf (.rangeFunc fns nt g ps a b) fr H Q := by
  obtain ⟨v, H2, R, h1, h2, h3, h4⟩ := h
  refine ⟨_, _, _, ?_, h4⟩
  simp only [RCode.exec, hg, hv, hf, h1, h2, h3]
end
end Go.Am

namespace Go.Am
open Go
abbrev Bs := List UInt8
abbrev strV (l : Bs) : AVal := .str ⟨l.toArray⟩
theorem str_size (l : Bs) : (⟨l.toArray⟩ : ByteArray).size = l.length := by
  show l.toArray.size = l.length
  simp
theorem str_get {l : Bs} {i : Nat} (h : i < l.length) : (⟨l.toArray⟩ : ByteArray)[i]? = some l[i] := by
  have h2 : i < (⟨l.toArray⟩ : ByteArray).size := by rw [str_size]; exact h
  rw [getElem?_pos _ i h2]
  rfl
section
variable {call : ACall} {fr : AFrame} {H : AHeap} {KF : AFrame → AHeap → Prop} {os : List ROper} {d : Nat}
theorem exec_lenStr {x : ROpd} {l : Bs} (hx : x.ev fr = strV l) : (ROp.lenStr x).exec call fr H = some (.int .i64 l.length, H) := by
  simp only [ROp.exec, hx, aLenStr, str_size, M.ofOption, M.pure]
theorem exec_idxStr {x i : ROpd} {l : Bs} {k : IntKind} {j : Nat} (hx : x.ev fr = strV l) (hi : i.ev fr = .int k j) (hj : j < l.length) : (ROp.indexStr x i).exec call fr H = some (.int .u8 (l[j].toNat : Int), H) := by
  have h0 : (0 : Int) ≤ (j : Int) := by omega
  simp only [ROp.exec, hx, hi, aIndexStr, if_pos h0, Int.toNat_natCast, str_get hj, M.ofOption, M.pure]
theorem Fo.lenStr {x : ROpd} {l : Bs} {v : AVal} (hx : x.ev fr = strV l) (hv : AVal.int .i64 l.length = v) (h : WpO call os (upd fr d v) H KF) : WpO call (⟨some d, .lenStr x, none⟩ :: os) fr H KF := by
  subst hv; exact WpO.step rfl ⟨_, _, exec_lenStr hx, h⟩
theorem Fo.idxStr {x i : ROpd} {l : Bs} {k : IntKind} {j : Nat} {v : AVal} (hx : x.ev fr = strV l) (hi : i.ev fr = .int k j) (hj : j < l.length) (hv : AVal.int .u8 (l[j].toNat : Int) = v) (h : WpO call os (upd fr d v) H KF) : WpO call (⟨some d, .indexStr x i, none⟩ :: os) fr H KF := by
  subst hv; exact WpO.step rfl ⟨_, _, exec_idxStr hx hi hj, h⟩
end
theorem Fo.uptr {call : ACall} {fr : AFrame} {H : AHeap} {KF : AFrame → AHeap → Prop} {os : List ROper} {d : Nat} {t s r : Nat} {x : ROpd} {cs : List AVal} (hx : x.ev fr = .ptr r 0) [h : HasRow H r cs true (2 * t)] (hs : Nat.ble s cs.length = true) (h0 : Nat.blt 0 s = true) (hK : WpO call os (upd fr d (.ptr r 0)) H KF) :
    WpO call (⟨some d, .uptr t s x, none⟩ :: os) fr H KF := by
  refine WpO.step rfl ⟨.ptr r 0, H, ?_, hK⟩
  have h1 : Nat.blt r H.n = true := by simpa using h.lt
  have h2 : (Nat.blt r H.n && Nat.beq 0 0 && Nat.blt 0 s) = true := by rw [h1, h0]; rfl
  have h3 : (Nat.beq (2 * t) (2 * t) && Nat.ble s cs.length) = true := by rw [hs]; simp
  have h4 : aUptr t s (.ptr r 0) H = some (.ptr r 0, H) := by
    show (match Nat.blt r H.n && Nat.beq 0 0 && Nat.blt 0 s with
      | true => (match H.get r with
        | .row cs true e => (match Nat.beq e (2 * t) && Nat.ble s cs.length with
          | true => some (AVal.ptr r 0, H)
          | false => none)
        | _ => none)
      | false => none) = _
    rw [h2, h.get]
    simp only [h3]
  show aUptr t s (x.ev fr) H = _
  rw [hx, h4]
theorem WpX.growX {call : ACall} {fr : AFrame} {H : AHeap} {K : AVal → AHeap → Prop} {e : TypeId} {x y : ROpd} {p q : AVal} {sz n k bytes : Nat} {cs new : List AVal} (hx : x.ev fr = p) (hy : y.ev fr = q) (h : OwnS H p sz n cs e) (hq : SliceAt H q sz k new) (hsz : 0 < sz) (hb : 0 < bytes) (hk : 0 < k) (hroom : 2 * (n + k) * bytes ≤ 2 ^ 48) (hone : new.all AVal.one = true)
    (hK : ∀ p' H', OwnS H' p' sz (n + k) (cs ++ new) e → FreshS H p' → ExtP H H' p → K p' H') : WpX (.append e sz bytes x y) call fr H K := WpX.grow hx hy hsz hb hk hroom hone hK
theorem WpX.pcallC {ext : Exts} {prog : FuncId → Option RFunc} {fr : AFrame} {H : AHeap} {K : AVal → AHeap → Prop} {n d D : Nat} {f : FuncId} {o : ROpd} {l : List ROpd} {args caps : List AVal} {v : AVal} (hn : fuel0 + D ≤ n) (hf : o.ev fr = .func (.func f) [] caps) (hl : l.map (·.ev fr) ++ caps = args) [hc : PureCon ext prog f args H d v] (hd : Nat.ble d D = true) (h : ∀ H1, ExtI H H1 → K v H1) : WpX (.call o l) (callN ext prog n) fr H K := by
  obtain ⟨u, H', h1, rfl, h2⟩ := hc.con n (by have := Nat.le_of_ble_eq_true hd; omega)
  refine ⟨u, H', ?_, h H' ⟨h2⟩⟩
  simp only [ROp.exec, hf, aCallV, List.nil_append, hl]
  exact h1
theorem WpX.yield {call : ACall} {fr : AFrame} {H : AHeap} {K : AVal → AHeap → Prop} {r : Nat} {o : ROpd} {l : List ROpd} {args : List AVal} (hf : o.ev fr = .yield r) (hl : l.map (·.ev fr) = args) (h : ∃ v H', call yieldId (.yield r :: args) H = some (v, H') ∧ K v H') : WpX (.call o l) call fr H K := by
  obtain ⟨v, H', h1, h2⟩ := h
  refine ⟨v, H', ?_, h2⟩
  simp only [ROp.exec, hf, hl, aCallV]
  exact h1
theorem exec_ldNP {call : ACall} {fr : AFrame} {H : AHeap} {a : ROpd} {p : AVal} {sz n j m : Nat} {cs l : List AVal} (ha : a.ev fr = .ptr (rowOf p) (offOf p + j)) [s : SliceAt H p sz n cs] (hm : 0 < m) (hv : j + m ≤ cs.length) (hl : (cs.drop j).take m = l) : (ROp.load (some m) a).exec call fr H = some (.agg l, H) := by
  obtain ⟨v, H', h1, h2, h3⟩ := WpX.ldNP (call := call) (K := fun v H' => v = .agg l ∧ H' = H) ha hm hv hl ⟨rfl, rfl⟩
  rw [h1, h2, h3]
end Go.Am

namespace Go.Am
open Go
theorem wa {a b : Nat} (h : a + b < 9223372036854775808) : IntKind.i64.wrap ((a : Int) + (b : Int)) = ((a + b : Nat) : Int) := by rw [← Int.natCast_add]; exact w64 (by omega)
theorem wa1 {a : Nat} (h : a < 9223372036854775807) : IntKind.i64.wrap ((a : Int) + 1) = ((a + 1 : Nat) : Int) := by rw [w64 (by omega)]; omega
class LeT (n m : Nat) : Prop where
  le : n ≤ m
def lv : Bs → Bs → Nat
  | [], m => m.length
  | x :: l, [] => l.length + 1
  | x :: l, y :: m => if x = y then lv l m else 1 + min (lv l m) (min (lv l (y :: m)) (lv (x :: l) m))
  termination_by l m => l.length + m.length
theorem lv_nil {m : Bs} : lv [] m = m.length := by rw [lv]
theorem lv_end {l : Bs} : lv l [] = l.length := by cases l <;> rw [lv] <;> rfl
theorem lv_eq {x : UInt8} {l m : Bs} : lv (x :: l) (x :: m) = lv l m := by rw [lv, if_pos rfl]
theorem lv_ne {x y : UInt8} {l m : Bs} (h : x ≠ y) : lv (x :: l) (y :: m) = 1 + min (lv l m) (min (lv l (y :: m)) (lv (x :: l) m)) := by rw [lv, if_neg h]
inductive Ed : Bs → Bs → Nat → Prop
  | nil : Ed [] [] 0
  | keep {x l m n} : Ed l m n → Ed (x :: l) (x :: m) n
  | turn {x y l m n} : Ed l m n → Ed (x :: l) (y :: m) (n + 1)
  | ins {y l m n} : Ed l m n → Ed l (y :: m) (n + 1)
  | del {x l m n} : Ed l m n → Ed (x :: l) m (n + 1)
theorem Ed.all : ∀ m : Bs, Ed [] m m.length
  | [] => .nil
  | _ :: m => .ins (Ed.all m)
theorem Ed.none : ∀ l : Bs, Ed l [] l.length
  | [] => .nil
  | _ :: l => .del (Ed.none l)
theorem Ed.symm {l m : Bs} {n : Nat} (h : Ed l m n) : Ed m l n := by
  induction h with
  | nil => exact .nil
  | keep _ ih => exact .keep ih
  | turn _ ih => exact .turn ih
  | ins _ ih => exact .del ih
  | del _ ih => exact .ins ih
theorem Ed.len {l m : Bs} {n : Nat} (h : Ed l m n) : l.length ≤ m.length + n ∧ m.length ≤ l.length + n := by
  induction h with
  | nil => simp
  | keep _ ih => simp only [List.length_cons]; omega
  | turn _ ih => simp only [List.length_cons]; omega
  | ins _ ih => simp only [List.length_cons]; omega
  | del _ ih => simp only [List.length_cons]; omega
theorem Ed.drop {l m : Bs} {n : Nat} (h : Ed l m n) : ∀ {x l'}, l = x :: l' → ∃ k, k ≤ n + 1 ∧ Ed l' m k := by
  induction h with
  | nil => intro x l' e; cases e
  | keep h _ => intro x l' e; cases e; exact ⟨_, Nat.le_refl _, .ins h⟩
  | turn h _ => intro x l' e; cases e; exact ⟨_, by omega, .ins h⟩
  | ins _ ih =>
    intro x l' e
    obtain ⟨k, h1, h2⟩ := ih e
    exact ⟨k + 1, by omega, .ins h2⟩
  | del h _ => intro x l' e; cases e; exact ⟨_, by omega, h⟩
theorem lv_le {l m : Bs} {n : Nat} (h : Ed l m n) : lv l m ≤ n := by
  have key : ∀ (s n : Nat) (l m : Bs), l.length + m.length = s → Ed l m n → lv l m ≤ n := by
    intro s
    induction s using Nat.strongRecOn with
    | ind s ih =>
    intro n l m hs h
    cases h with
    | nil => rw [lv_nil]; simp
    | keep h1 => rw [lv_eq]; exact ih _ (by rw [← hs]; simp only [List.length_cons]; omega) _ _ _ rfl h1
    | @turn x y l m n h1 =>
      have h2 := ih _ (by rw [← hs]; simp only [List.length_cons]; omega) _ _ _ rfl h1
      by_cases e : x = y
      · subst e; rw [lv_eq]; omega
      · rw [lv_ne e]; omega
    | @ins y l m n h1 =>
      have h2 := ih _ (by rw [← hs]; simp only [List.length_cons]; omega) _ _ _ rfl h1
      cases l with
      | nil => rw [lv_nil]; rw [lv_nil] at h2; simp only [List.length_cons]; omega
      | cons x l =>
        by_cases e : x = y
        · subst e
          rw [lv_eq]
          obtain ⟨k, h3, h4⟩ := h1.drop rfl
          have := ih _ (by rw [← hs]; simp only [List.length_cons]; omega) _ _ _ rfl h4
          omega
        · rw [lv_ne e]; omega
    | @del x l m n h1 =>
      have h2 := ih _ (by rw [← hs]; simp only [List.length_cons]; omega) _ _ _ rfl h1
      cases m with
      | nil => rw [lv_end]; rw [lv_end] at h2; simp only [List.length_cons]; omega
      | cons y m =>
        by_cases e : x = y
        · subst e
          rw [lv_eq]
          obtain ⟨k, h3, h4⟩ := h1.symm.drop rfl
          have := ih _ (by rw [← hs]; simp only [List.length_cons]; omega) _ _ _ rfl h4.symm
          omega
        · rw [lv_ne e]; omega
  exact key _ n l m rfl h
theorem Ed.trans {a b c : Bs} {p q : Nat} (h : Ed a b p) (k : Ed b c q) : ∃ r, r ≤ p + q ∧ Ed a c r := by
  have key : ∀ (s p q : Nat) (a b c : Bs), a.length + b.length + c.length = s → Ed a b p → Ed b c q → ∃ r, r ≤ p + q ∧ Ed a c r := by
    intro s
    induction s using Nat.strongRecOn with
    | ind s ih =>
    intro p q a b c hs h k
    cases h with
    | nil => exact ⟨q, by omega, k⟩
    | @del x l m n h1 =>
      obtain ⟨r, h2, h3⟩ := ih _ (by rw [← hs]; simp only [List.length_cons]; omega) _ _ _ _ _ rfl h1 k
      exact ⟨r + 1, by omega, .del h3⟩
    | @ins y l m n h1 =>
      cases k with
      | keep k1 =>
        obtain ⟨r, h2, h3⟩ := ih _ (by rw [← hs]; simp only [List.length_cons]; omega) _ _ _ _ _ rfl h1 k1
        exact ⟨r + 1, by omega, .ins h3⟩
      | turn k1 =>
        obtain ⟨r, h2, h3⟩ := ih _ (by rw [← hs]; simp only [List.length_cons]; omega) _ _ _ _ _ rfl h1 k1
        exact ⟨r + 1, by omega, .ins h3⟩
      | ins k1 =>
        obtain ⟨r, h2, h3⟩ := ih _ (by rw [← hs]; simp only [List.length_cons]; omega) _ _ _ _ _ rfl (Ed.ins (y := y) h1) k1
        exact ⟨r + 1, by omega, .ins h3⟩
      | del k1 =>
        obtain ⟨r, h2, h3⟩ := ih _ (by rw [← hs]; simp only [List.length_cons]; omega) _ _ _ _ _ rfl h1 k1
        exact ⟨r, by omega, h3⟩
    | @keep x l m n h1 =>
      cases k with
      | keep k1 =>
        obtain ⟨r, h2, h3⟩ := ih _ (by rw [← hs]; simp only [List.length_cons]; omega) _ _ _ _ _ rfl h1 k1
        exact ⟨r, by omega, .keep h3⟩
      | turn k1 =>
        obtain ⟨r, h2, h3⟩ := ih _ (by rw [← hs]; simp only [List.length_cons]; omega) _ _ _ _ _ rfl h1 k1
        exact ⟨r + 1, by omega, .turn h3⟩
      | ins k1 =>
        obtain ⟨r, h2, h3⟩ := ih _ (by rw [← hs]; simp only [List.length_cons]; omega) _ _ _ _ _ rfl (Ed.keep (x := x) h1) k1
        exact ⟨r + 1, by omega, .ins h3⟩
      | del k1 =>
        obtain ⟨r, h2, h3⟩ := ih _ (by rw [← hs]; simp only [List.length_cons]; omega) _ _ _ _ _ rfl h1 k1
        exact ⟨r + 1, by omega, .del h3⟩
    | @turn x y l m n h1 =>
      cases k with
      | keep k1 =>
        obtain ⟨r, h2, h3⟩ := ih _ (by rw [← hs]; simp only [List.length_cons]; omega) _ _ _ _ _ rfl h1 k1
        exact ⟨r + 1, by omega, .turn h3⟩
      | turn k1 =>
        obtain ⟨r, h2, h3⟩ := ih _ (by rw [← hs]; simp only [List.length_cons]; omega) _ _ _ _ _ rfl h1 k1
        exact ⟨r + 1, by omega, .turn h3⟩
      | ins k1 =>
        obtain ⟨r, h2, h3⟩ := ih _ (by rw [← hs]; simp only [List.length_cons]; omega) _ _ _ _ _ rfl (Ed.turn (x := x) (y := y) h1) k1
        exact ⟨r + 1, by omega, .ins h3⟩
      | del k1 =>
        obtain ⟨r, h2, h3⟩ := ih _ (by rw [← hs]; simp only [List.length_cons]; omega) _ _ _ _ _ rfl h1 k1
        exact ⟨r + 1, by omega, .del h3⟩
  exact key _ p q a b c rfl h k
theorem Ed.append {a b c d : Bs} {p q : Nat} (h : Ed a b p) (k : Ed c d q) : Ed (a ++ c) (b ++ d) (p + q) := by
  induction h with
  | nil => rw [Nat.zero_add]; exact k
  | keep _ ih => exact .keep ih
  | turn _ ih => rw [Nat.add_right_comm]; exact .turn ih
  | ins _ ih => rw [Nat.add_right_comm]; exact .ins ih
  | del _ ih => rw [Nat.add_right_comm]; exact .del ih
theorem Ed.refl : ∀ l : Bs, Ed l l 0
  | [] => .nil
  | _ :: l => .keep (Ed.refl l)
theorem Ed.rev {a b : Bs} {n : Nat} (h : Ed a b n) : Ed a.reverse b.reverse n := by
  induction h with
  | nil => exact .nil
  | @keep x l m n _ ih => rw [List.reverse_cons, List.reverse_cons]; exact ih.append (.keep .nil)
  | @turn x y l m n _ ih => rw [List.reverse_cons, List.reverse_cons]; exact ih.append (.turn (n := 0) .nil)
  | @ins y l m n _ ih => rw [List.reverse_cons]; have := ih.append (Ed.ins (y := y) .nil); rwa [List.append_nil] at this
  | @del x l m n _ ih => rw [List.reverse_cons]; have := ih.append (Ed.del (x := x) .nil); rwa [List.append_nil] at this
theorem Ed.zero {a b : Bs} {n : Nat} (h : Ed a b n) : n = 0 → a = b := by
  induction h with
  | nil => intro _; rfl
  | keep _ ih => intro e; rw [ih e]
  | turn _ _ => intro e; omega
  | ins _ _ => intro e; omega
  | del _ _ => intro e; omega
def lev (a b : Bs) : Nat := lv a.reverse b.reverse
theorem lev_le {a b : Bs} {n : Nat} (h : Ed a b n) : lev a b ≤ n := lv_le h.rev
theorem lev_max : ∀ a b : Bs, ∃ n, n ≤ max a.length b.length ∧ Ed a b n
  | [], b => ⟨b.length, by simp, Ed.all b⟩
  | a, [] => ⟨a.length, by simp, Ed.none a⟩
  | x :: a, y :: b => by
    obtain ⟨n, h1, h2⟩ := lev_max a b
    exact ⟨n + 1, by simp only [List.length_cons]; omega, .turn h2⟩
theorem lev_most (a b : Bs) : lev a b ≤ max a.length b.length := by
  obtain ⟨n, h1, h2⟩ := lev_max a b
  exact Nat.le_trans (lev_le h2) h1
def lvD (a b : Bs) (i j : Nat) : Nat := lev (a.take i) (b.take j)
theorem lvD_0 (a b : Bs) {j : Nat} (h : j ≤ b.length) : lvD a b 0 j = j := by
  simp only [lvD, lev, List.take_zero, List.reverse_nil, lv_nil, List.length_reverse, List.length_take]; omega
theorem lvD_end (a b : Bs) {i : Nat} (h : i ≤ a.length) : lvD a b i 0 = i := by
  simp only [lvD, lev, List.take_zero, List.reverse_nil, lv_end, List.length_reverse, List.length_take]; omega
theorem take_rev {a : Bs} {i : Nat} (h : i < a.length) : (a.take (i + 1)).reverse = a[i] :: (a.take i).reverse := by
  rw [List.take_succ_eq_append_getElem h, List.reverse_append]; rfl
theorem lvD_eq {a b : Bs} {i j : Nat} (hi : i < a.length) (hj : j < b.length) (h : a[i] = b[j]) : lvD a b (i + 1) (j + 1) = lvD a b i j := by
  simp only [lvD, lev, take_rev hi, take_rev hj, h, lv_eq]
theorem lvD_ne {a b : Bs} {i j : Nat} (hi : i < a.length) (hj : j < b.length) (h : a[i] ≠ b[j]) : lvD a b (i + 1) (j + 1) = 1 + min (lvD a b i j) (min (lvD a b (i + 1) j) (lvD a b i (j + 1))) := by
  have := lv_ne (l := (a.take i).reverse) (m := (b.take j).reverse) h
  rw [← take_rev hi, ← take_rev hj] at this
  simp only [lvD, lev]
  rw [this, Nat.min_comm (lv (List.take i a).reverse (List.take (j + 1) b).reverse)]
theorem lvD_all (a b : Bs) : lvD a b a.length b.length = lev a b := by simp only [lvD, List.take_length]
theorem lvD_le {a b : Bs} {i j : Nat} (hi : i ≤ a.length) (hj : j ≤ b.length) : lvD a b i j ≤ i + j := by
  have := lev_most (a.take i) (b.take j)
  simp only [lvD, List.length_take] at *
  omega
def mixR (a b : Bs) (n i j : Nat) : List Int := (List.range (n + 1)).map fun k => if k < j then (lvD a b (i + 1) k : Int) else (lvD a b i k : Int)
theorem mixR_len (a b : Bs) (n i j : Nat) : (mixR a b n i j).length = n + 1 := by simp [mixR]
theorem mixR_get {a b : Bs} {n i j k : Nat} (h : k < (mixR a b n i j).length) : (mixR a b n i j)[k] = if k < j then (lvD a b (i + 1) k : Int) else (lvD a b i k : Int) := by simp [mixR]
theorem mixR_set {a b : Bs} {n i j : Nat} : (mixR a b n i j).set j (lvD a b (i + 1) j : Int) = mixR a b n i (j + 1) := by
  apply List.ext_getElem
  · simp [mixR]
  · intro k h1 h2
    rw [List.getElem_set, mixR_get h2]
    by_cases e : j = k
    · subst e; simp
    · rw [if_neg e, mixR_get]
      have : k < j ↔ k < j + 1 := by omega
      simp only [this]
theorem mixR_done {a b : Bs} {n i : Nat} : mixR a b n i (n + 1) = mixR a b n (i + 1) 0 := by
  apply List.ext_getElem
  · simp [mixR]
  · intro k h1 h2
    rw [mixR_get h1, mixR_get h2]
    simp only [mixR_len] at h1
    simp [h1]
def upR (n k : Nat) : List Int := (List.range (n + 1)).map fun i : Nat => if i < k then (i : Int) else 0
theorem upR_len (n k : Nat) : (upR n k).length = n + 1 := by simp [upR]
theorem upR_zero (n : Nat) : upR n 0 = List.replicate (n + 1) 0 := by apply List.ext_getElem <;> simp [upR]
theorem upR_set {n k : Nat} : (upR n k).set k (k : Int) = upR n (k + 1) := by
  apply List.ext_getElem
  · simp [upR]
  · intro i h1 h2
    simp only [upR, List.getElem_set, List.getElem_map, List.getElem_range]
    by_cases e : k = i
    · subst e; simp
    · rw [if_neg e]
      have : i < k ↔ i < k + 1 := by omega
      simp only [this]
theorem upR_done (a b : Bs) : upR b.length (b.length + 1) = mixR a b b.length 0 0 := by
  apply List.ext_getElem
  · simp [upR, mixR]
  · intro i h1 h2
    rw [mixR_get h2]
    rw [upR_len] at h1
    rw [if_neg (Nat.not_lt_zero _), lvD_0 a b (by omega)]
    simp [upR, h1]
end Go.Am

namespace Go.Am
open Go
open Nat renaming reduceEqDiff → qe, reduceAdd → qz
open Int renaming reduceBEq → qa, reduceBNe → qn
attribute [local irreducible] Wp WpO WpX WpE
instance K_Distance {a b : Bs} {H : AHeap} [ha : LeT a.length 1000000] [hb : LeT b.length 1000000] : PureCon ext prog 28 [strV a, strV b] H 1 (.int .i64 (lev a b : Int)) := ⟨by
 refine con_of (show prog 28 = some c28 from rfl) rfl rfl fun n hn => ?_
 have hal := ha.le
 have hbl := hb.le
 have hw1 := wa1 (a := b.length) (by omega)
 repeat first | refine Fo.lenStr (rfl : _ = strV _) rfl ?_ | refine Fo.mov (rfl : _ = strV _) ?_ | refine mv ?_ | refine bn rfl rfl rfl (by simp only [hw1]; rfl) ?_ | refine nl hKF ?_ | refine sq ?_ | refine rg fun KF hKF => ?_
 refine WpO.do (WpX.mkI (n := b.length + 1) rfl rfl rfl (by omega) fun q H1 e1 hq hf hw hx => ?_)
 clear e1
 haveI := hq.one
 repeat first | refine mv ?_ | (refine Fo.len (v := ?_) (by simp only [↓nrmL, nrmK, qe, ↓reduceIte]; rfl) ?hv ?_; case hv => (simp only [List.length_replicate]; rfl)) | refine nl hKF ?_ | refine sq ?_ | refine rg fun KF hKF => ?_ | refine Wp.block ?_ | dsimp only
 refine Wp.loopS [6, 17, 18, 19, 20, 21, 22, 23, 24] (fun k : Nat => [(17, .int .i64 (k : Int))]) (fun H3 k H2 => k ≤ b.length + 1 ∧ IntsI H2 q (upR b.length k) ∧ WrS H2 q ∧ ExtP0 H3 H2 q) (fun k => b.length + 1 - k) 0 rfl (fun _ => rfl) ⟨rfl, trivial⟩ ⟨Nat.zero_le _, by rw [upR_zero]; exact hq, inferInstance, inferInstance⟩ (by unfold fuel0 at hn; omega) ?_
 rintro k g H2 ⟨hk, hb2, hw2, ⟨hx2⟩⟩
 simp only [↓nrmL, nrmZ, qe, ↓reduceIte, qz, qa, qn]
 cases hc : decide ((k : Int) < ((b.length + 1 : Nat) : Int))
 ·have hkb : k = b.length + 1 := by have := of_decide_eq_false hc; omega
  subst hkb
  rw [upR_done a b] at hb2
  repeat first | refine Fo.lenStr (rfl : _ = strV _) rfl ?_ | refine Fo.mov (rfl : _ = strV _) ?_ | refine mv ?_ | refine bn rfl rfl rfl (by simp only [hc]; rfl) ?_ | refine nl hKF ?_ | refine sq ?_ | refine rg fun KF hKF => ?_ | refine cf rfl ?_ | refine Wp.block ?_ | refine xi ?_ | dsimp only
  refine Wp.loopS [7, 8, 9, 10, 27, 28, 29, 30, 31, 32, 33, 34, 35, 36, 37, 38, 39, 40, 41, 42, 43, 44, 45, 46, 47, 48, 49, 50, 51, 52, 53, 54, 55, 56, 57, 58, 59, 60, 61, 62, 63, 64, 65, 66, 67, 68, 69, 70, 71, 72, 73, 74] (fun i : Nat => [(27, .int .i64 (i : Int))]) (fun H3 i H4 => i ≤ a.length ∧ IntsI H4 q (mixR a b b.length i 0) ∧ WrS H4 q ∧ ExtP0 H3 H4 q) (fun i => a.length - i) 0 rfl (fun _ => rfl) ⟨rfl, trivial⟩ ⟨Nat.zero_le _, inferInstance, inferInstance, inferInstance⟩ (by unfold fuel0 at hn; omega) ?_
  rintro i g2 H4 ⟨hi, hb4, hw4, ⟨hx4⟩⟩
  simp only [↓nrmL, nrmZ, qe, ↓reduceIte, qz, qa, qn]
  have hm0 := mixR_len a b b.length i 0
  cases hc2 : decide ((i : Int) < (a.length : Int))
  ·have hia : i = a.length := by have := of_decide_eq_false hc2; omega
   subst hia
   have hg : (mixR a b b.length a.length 0)[b.length]'(by omega) = (lev a b : Int) := by rw [mixR_get, if_neg (Nat.not_lt_zero _), lvD_all]
   repeat first | refine Fo.lenStr (rfl : _ = strV _) rfl ?_ | refine Fo.mov (rfl : _ = strV _) ?_ | refine mv ?_ | refine bn rfl rfl rfl (by simp only [hc2, hg]; rfl) ?_ | (refine Fo.idx (by simp only [↓nrmL, nrmK, qe, ↓reduceIte]; rfl) rfl ?_ (by simp only [↓nrmL, nrmZ, qe, ↓reduceIte, qz, qa, qn, hc2, hg]; rfl) ?_; (focus omega)) | (refine Fo.ldI rfl ?_ (by simp only [hc2, hg]; rfl) ?_; (focus omega)) | refine nl hKF ?_ | refine sq ?_ | refine rg fun KF hKF => ?_ | refine cf rfl ?_ | refine rt ?_ | refine xi ?_ | dsimp only
   refine rz trivial ?_
   exact ⟨rfl, Ext0.ext⟩
  have hil : i < a.length := by have := of_decide_eq_true hc2; omega
  have hwi := wa1 (a := i) (by omega)
  have hg0 : (mixR a b b.length i 0)[0]'(by omega) = (i : Int) := by rw [mixR_get, if_neg (Nat.not_lt_zero _), lvD_end _ _ hi]
  repeat first | refine mv ?_ | refine bn rfl rfl rfl (by simp only [hc2, hg0, hwi]; rfl) ?_ | (refine Fo.idx (by simp only [↓nrmL, nrmK, qe, ↓reduceIte]; rfl) rfl ?_ (by simp only [↓nrmL, nrmZ, qe, ↓reduceIte, qz, qa, qn, hc2, hg0, hwi]; rfl) ?_; (focus omega)) | (refine Fo.ldI rfl ?_ (by simp only [hc2, hg0, hwi]; rfl) ?_; (focus omega)) | refine nl hKF ?_ | refine sq ?_ | refine rg fun KF hKF => ?_ | refine ct rfl ?_ | refine sk ?_ | refine Wp.block ?_
  refine WpO.do' (WpX.stI (p := q) (j := 0) (l := mixR a b b.length i 0) rfl rfl (by omega) fun H5 hb5 hw5 hx5 => ?_)
  rw [show ((i + 1 : Nat) : Int) = (lvD a b (i + 1) 0 : Int) by rw [lvD_end _ _ (by omega)], mixR_set] at hb5
  refine nl hKF ?_
  refine sq ?_
  refine rg fun KF hKF => ?_
  refine Fo.mov (rfl : _ = strV _) ?_
  refine Fo.lenStr (rfl : _ = strV _) rfl ?_
  refine mv ?_
  refine nl hKF ?_
  refine Wp.block ?_
  dsimp only
  refine Wp.loopS [8, 9, 10, 40, 41, 42, 43, 44, 45, 46, 47, 48, 49, 50, 51, 52, 53, 54, 55, 56, 57, 58, 59, 60, 61, 62, 63, 64, 65, 66, 67, 68, 69, 70, 71, 72, 73] (fun j : Nat => [(40, .int .i64 (j : Int)), (8, .int .i64 (lvD a b i j : Int))]) (fun H3 j H6 => j ≤ b.length ∧ IntsI H6 q (mixR a b b.length i (j + 1)) ∧ WrS H6 q ∧ ExtP0 H3 H6 q) (fun j => b.length - j) 0 rfl (fun _ => rfl) ⟨rfl, by simp only [↓nrmL, nrmZ, qe, ↓reduceIte, qz, qa, qn]; rw [lvD_end _ _ hi], trivial⟩ ⟨Nat.zero_le _, inferInstance, inferInstance, inferInstance⟩ (by unfold fuel0 at hn; omega) ?_
  rintro j g3 H6 ⟨hj, hb6, hw6, ⟨hx6⟩⟩
  simp only [↓nrmL, nrmZ, qe, ↓reduceIte, qz, qa, qn]
  have hmj := mixR_len a b b.length i (j + 1)
  cases hc3 : decide ((j : Int) < (b.length : Int))
  ·have hjb : j = b.length := by have := of_decide_eq_false hc3; omega
   subst hjb
   rw [mixR_done] at hb6
   repeat first | refine mv ?_ | refine bn rfl rfl rfl (by simp only [hc3]; rfl) ?_ | refine b0 ?_ | refine nl hKF ?_ | refine sq ?_ | refine rg fun KF hKF => ?_ | refine cf rfl ?_ | refine xi ?_ | dsimp only
   refine ⟨i + 1, by omega, ⟨by simp only [↓nrmL, nrmZ, qe, ↓reduceIte, qz, qa, qn]; rw [hwi], trivial⟩, by omega, inferInstance, inferInstance, inferInstance⟩
  have hjl : j < b.length := by have := of_decide_eq_true hc3; omega
  have hwj := wa1 (a := j) (by omega)
  have hgj : (mixR a b b.length i (j + 1))[j]'(by omega) = (lvD a b (i + 1) j : Int) := by rw [mixR_get, if_pos (Nat.lt_succ_self _)]
  have hgj1 : (mixR a b b.length i (j + 1))[j + 1]'(by omega) = (lvD a b i (j + 1) : Int) := by rw [mixR_get, if_neg (Nat.lt_irrefl _)]
  cases hd : ((a[i].toNat : Int) != (b[j].toNat : Int))
  ·have he : a[i] = b[j] := by
    apply UInt8.toNat_inj.1
    have : (a[i].toNat : Int) = (b[j].toNat : Int) := by simpa using hd
    omega
   repeat first | (refine Fo.idxStr (rfl : _ = strV _) rfl ?_ rfl ?_; (focus omega)) | refine Fo.mov (rfl : _ = strV _) ?_ | refine mv ?_ | refine bn rfl rfl rfl (by simp only [hc3, hd, hwj, hgj1]; rfl) ?_ | (refine Fo.idx (by simp only [↓nrmL, nrmK, qe, ↓reduceIte]; rfl) rfl ?_ (by simp only [↓nrmL, nrmZ, qe, ↓reduceIte, qz, qa, qn, hc3, hd, hwj, hgj1]; rfl) ?_; (focus omega)) | (refine Fo.ldI rfl ?_ (by simp only [hc3, hd, hwj, hgj1]; rfl) ?_; (focus omega)) | refine nl hKF ?_ | refine sq ?_ | refine rg fun KF hKF => ?_ | refine Fr.quiet rfl rfl fun KF hKF => ?_ | refine ct rfl ?_ | refine cf rfl ?_ | refine sk ?_ | refine Wp.block ?_
   refine WpO.do' (WpX.stI (p := q) (j := j + 1) (l := mixR a b b.length i (j + 1)) rfl rfl (by omega) fun H7 hb7 hw7 hx7 => ?_)
   rw [← lvD_eq hil hjl he, mixR_set] at hb7
   refine nl hKF ?_
   refine rg fun KF hKF => ?_
   refine bn rfl rfl rfl (by simp only [hwj]; rfl) ?_
   refine mv ?_
   refine nl hKF ?_
   dsimp only
   refine ⟨j + 1, by omega, ⟨(by simp only [↓nrmL, nrmZ, qe, ↓reduceIte, qz, qa, qn, List.map] <;> rfl), rfl, trivial⟩, by omega, inferInstance, inferInstance, inferInstance⟩
  ·have he : a[i] ≠ b[j] := fun e => by rw [e] at hd; simp at hd
   have hle : lvD a b i j ≤ i + j := lvD_le hi hj
   have hmn : IntKind.i64.wrap (1 + (if (lvD a b i (j + 1) : Int) < (if (lvD a b (i + 1) j : Int) < (lvD a b i j : Int) then (lvD a b (i + 1) j : Int) else (lvD a b i j : Int)) then (lvD a b i (j + 1) : Int) else (if (lvD a b (i + 1) j : Int) < (lvD a b i j : Int) then (lvD a b (i + 1) j : Int) else (lvD a b i j : Int)))) = (lvD a b (i + 1) (j + 1) : Int) := by
    rw [lvD_ne hil hjl he]
    rw [w64 (by repeat' split; all_goals omega)]
    repeat' split
    all_goals omega
   repeat first | (refine Fo.idxStr (rfl : _ = strV _) rfl ?_ rfl ?_; (focus omega)) | refine Fo.mov (rfl : _ = strV _) ?_ | refine mv ?_ | refine bn rfl rfl rfl (by simp only [hc3, hd, hwj, hgj, hgj1, Bool.false_eq_true, if_false, hmn]; rfl) ?_ | (refine Fo.idx (by simp only [↓nrmL, nrmK, qe, ↓reduceIte]; rfl) rfl ?_ (by simp only [↓nrmL, nrmZ, qe, ↓reduceIte, qz, qa, qn, hc3, hd, hwj, hgj, hgj1, Bool.false_eq_true, if_false, hmn]; rfl) ?_; (focus omega)) | (refine Fo.ldI rfl ?_ (by simp only [hc3, hd, hwj, hgj, hgj1, Bool.false_eq_true, if_false, hmn]; rfl) ?_; (focus omega)) | refine Fo.now rfl rfl (by simp only [hc3, hd, hwj, hgj, hgj1, Bool.false_eq_true, if_false, hmn]; rfl) ?_ | refine nl hKF ?_ | refine sq ?_ | refine rg fun KF hKF => ?_ | refine Fr.quiet rfl rfl fun KF hKF => ?_ | refine ct rfl ?_ | refine sk ?_ | refine Wp.block ?_
   refine WpO.do' (WpX.stI (p := q) (j := j + 1) (l := mixR a b b.length i (j + 1)) rfl rfl (by omega) fun H7 hb7 hw7 hx7 => ?_)
   rw [mixR_set] at hb7
   refine nl hKF ?_
   refine rg fun KF hKF => ?_
   refine bn rfl rfl rfl (by simp only [hwj]; rfl) ?_
   refine mv ?_
   refine nl hKF ?_
   dsimp only
   refine ⟨j + 1, by omega, ⟨(by simp only [↓nrmL, nrmZ, qe, ↓reduceIte, qz, qa, qn, List.map] <;> rfl), rfl, trivial⟩, by omega, inferInstance, inferInstance, inferInstance⟩
 have hkl : k < b.length + 1 := by have := of_decide_eq_true hc; omega
 have hwk := wa1 (a := k) (by omega)
 have hul := upR_len b.length k
 repeat first | refine mv ?_ | refine bn rfl rfl rfl (by simp only [hc]; rfl) ?_ | (refine Fo.idx (by simp only [↓nrmL, nrmK, qe, ↓reduceIte]; rfl) rfl ?_ (by simp only [↓nrmL, nrmZ, qe, ↓reduceIte, qz, qa, qn, hc]; rfl) ?_; (focus omega)) | refine nl hKF ?_ | refine sq ?_ | refine rg fun KF hKF => ?_ | refine ct rfl ?_ | refine sk ?_ | refine Wp.block ?_
 refine WpO.do' (WpX.stI (p := q) (j := k) (l := upR b.length k) rfl rfl (by omega) fun H5 hb5 hw5 hx5 => ?_)
 rw [upR_set] at hb5
 refine nl hKF ?_
 refine rg fun KF hKF => ?_
 refine bn rfl rfl rfl (by simp only [hwk]; rfl) ?_
 refine mv ?_
 refine nl hKF ?_
 dsimp only
 refine ⟨k + 1, by omega, ⟨(by simp only [↓nrmL, nrmZ, qe, ↓reduceIte, qz, qa, qn, List.map] <;> rfl), trivial⟩, by omega, inferInstance, inferInstance, inferInstance⟩⟩
end Go.Am

namespace Go.Am
open Go
theorem setAt_get : ∀ (vs cs : List AVal) (off i : Nat), off + vs.length ≤ cs.length → (setAt cs off vs)[i]? = if off ≤ i ∧ i < off + vs.length then vs[i - off]? else cs[i]?
  | [], cs, off, i, _ => by
    rw [if_neg (by simp only [List.length_nil]; omega)]; rfl
  | v :: vs, cs, off, i, h => by
    rw [List.length_cons] at h
    rw [setAt, setAt_get vs (cs.set off v) (off + 1) i (by rw [List.length_set]; omega), List.length_cons]
    by_cases h1 : off = i
    · subst h1
      rw [if_neg (by omega), if_pos (by omega), List.getElem?_set, if_pos rfl, if_pos (by omega), Nat.sub_self]; rfl
    · by_cases h2 : off + 1 ≤ i ∧ i < off + 1 + vs.length
      · rw [if_pos h2, if_pos (by omega), show i - off = (i - (off + 1)) + 1 by omega]; rfl
      · rw [if_neg h2, if_neg (by omega), List.getElem?_set, if_neg h1]
section
variable {call : ACall} {n ref : Nat} {its : List DItem} {H0 H : AHeap} {E : List (Nat × AHeap)} {Rd : List (Nat × (AHeap → Bool))} {fr : AFrame} {K : AFrame → AHeap → Prop} {bm d : Nat} {pre : Bool} {g : Option (Nat × Bool)}
theorem Fe.slc {x : ROpd} {lo hi : Option ROpd} {p : AVal} {l : List UInt8} {a b : Nat} (hw : ROper.wanted fr ⟨some d, .sliceS 1 x lo hi none, g⟩ = true) (hx : x.ev fr = p) (hlo : bnd (lo.map (·.ev fr)) 0 a) (hhi : bnd (hi.map (·.ev fr)) l.length b) (hab : a ≤ b) (hbl : b ≤ l.length) [s : BytesI H p l]
    (h : ∀ v H1, Part p v a (b - a) → BytesI H1 v ((l.drop a).take (b - a)) → ExtI H H1 → AllR bm H1 Rd ∧ WpE call (n + 1) ref its H0 ((n, H) :: E) Rd (upd fr d v) H1 K) : WpE call n ref (⟨⟨some d, .sliceS 1 x lo hi none, g⟩, bm, 2, pre⟩ :: its) H0 E Rd fr H K := by
  obtain ⟨v, H1, h1, h2, h3, h4⟩ := exec_slc (call := call) hx hlo hhi hab hbl (s := s)
  obtain ⟨h5, h6⟩ := h v H1 h2 h3 ⟨h4⟩
  exact WpE.effect hw h1 h5 h6
end
end Go.Am

namespace Go.Am
open Go
abbrev rowN (r n : Nat) : AVal := .slice r 0 n (some n) 1
theorem arr_at {H : AHeap} {r n : Nat} {cs : List AVal} {rw : Bool} {e : TypeId} (h : HasRow H r cs rw e) (hl : cs.length = n) : SliceAt H (rowN r n) 1 n cs :=
  ⟨Or.inr ⟨r, 0, some n, cs, rw, e, rfl, h.lt, h.get, by omega, by rw [List.drop_zero, List.take_of_length_le (by omega)], Nat.le_refl _⟩⟩
theorem newN {H : AHeap} {n : Nat} {cs : List AVal} {e : TypeId} (hl : cs.length = n) : SliceAt (H.push (.row cs true e)) (rowN H.n n) 1 n cs := arr_at (rw := true) (e := e) ⟨Nat.lt_succ_self _, push_get_eq⟩ hl
theorem newNw {H : AHeap} {n : Nat} {cs : List AVal} {e : TypeId} : WrS (H.push (.row cs true e)) (rowN H.n n) := ⟨fun r off len cap sz q => by cases q; exact ⟨_, _, push_get_eq⟩⟩
theorem newNf {H : AHeap} {n : Nat} : FreshS H (rowN H.n n) := ⟨fun r off len cap sz q => by cases q; exact Nat.le_refl _⟩
section
variable {call : ACall} {fr : AFrame} {H : AHeap}
theorem exec_idxA {n s r off j : Nat} {k : IntKind} {x i : ROpd} (hx : x.ev fr = .ptr r off) (hi : i.ev fr = .int k (j : Int)) (h : j < n) : (ROp.idxA n s x i).exec call fr H = some (.ptr r (off + j * s), H) := by
  simp only [ROp.exec, hx, hi, aIdxA, if_pos (show (0 : Int) ≤ (j : Int) ∧ (j : Int) < (n : Int) by omega), M.ofOption, M.pure, Int.toNat_natCast]
theorem exec_ldA {a : ROpd} {r n : Nat} {cs : List AVal} (ha : a.ev fr = .ptr r 0) (hn : 0 < n) [s : SliceAt H (rowN r n) 1 n cs] : (ROp.load (some n) a).exec call fr H = some (.agg cs, H) :=
  exec_ldNP (p := rowN r n) (j := 0) ha hn (by have := s.len; omega) (by rw [List.drop_zero, List.take_of_length_le (by have := s.len; omega)])
theorem getAllA {t r n : Nat} {cs : List AVal} {rs : List RRes} {vs : List AVal} (ha : fr t = .ptr r 0) (hn : 0 < n) [s : SliceAt H (rowN r n) 1 n cs] (h : getAll fr rs H = some (vs, H)) : getAll fr (.cell t (some n) :: rs) H = some (.agg cs :: vs, H) := by
  have e := exec_ldA (call := noCall) (a := .tmp t) ha hn (s := s)
  simp only [ROp.exec, ROpd.ev] at e
  simp only [getAll, RRes.get, M.bind, e, M.pure, h]
theorem setAt_all : ∀ (vs cs : List AVal) (o : Nat), o + vs.length = cs.length → setAt cs o vs = cs.take o ++ vs
  | [], cs, o, h => by
    simp only [List.length_nil, Nat.add_zero] at h
    simp only [setAt, List.append_nil]; rw [h, List.take_length]
  | v :: vs, cs, o, h => by
    simp only [List.length_cons] at h
    simp only [setAt]
    rw [setAt_all vs _ _ (by rw [List.length_set]; omega), List.take_add_one, List.getElem?_set_self (by omega), List.take_set_of_le (Nat.le_refl _)]
    simp
theorem setAt_whole {vs cs : List AVal} (h : vs.length = cs.length) : setAt cs 0 vs = vs := by rw [setAt_all _ _ _ (by omega)]; rfl
end
section
variable {call : ACall} {fr : AFrame} {H : AHeap} {K : AVal → AHeap → Prop}
theorem WpX.stPN {a x : ROpd} {p : AVal} {sz n j m : Nat} {cs vs : List AVal} {v : AVal} (ha : a.ev fr = .ptr (rowOf p) (offOf p + j)) (hx : x.ev fr = v) (hv : v.cells = vs) (hm : vs.length = m) (hm0 : 0 < m) (ho : vs.all AVal.one = true) [s : SliceAt H p sz n cs] [w : WrS H p] (hj : j + m ≤ cs.length)
    (h : ∀ H1, SliceAt H1 p sz n (setAt cs j vs) → WrS H1 p → ExtP H H1 p → K aundef H1) : WpX (.store m a x) call fr H K := by
  rcases s.it with ⟨_, _, rfl⟩ | ⟨r, off, cap, row, rw, e, rfl, hr, hg, hl, hc, hcap⟩
  · simp at hj; omega
  · obtain ⟨cs', e', hg'⟩ := w.it _ _ _ _ _ rfl
    rw [hg] at hg'; cases hg'
    have hlen := s.len
    refine WpX.store ha hx (by rw [hv]; exact hm) hr hg (by rw [hv, hm]; simp only [offOf]; omega) (by rw [hv]; exact ho) ?_
    rw [hv]
    refine h _ ⟨Or.inr ⟨r, off, cap, setAt row (off + j) vs, true, e, rfl, hr, set_get_eq, by rw [setAt_length]; exact hl, ?_, hcap⟩⟩ ⟨fun r' off' len' cap' sz' e' => by cases e'; exact ⟨_, _, set_get_eq⟩⟩ ⟨Nat.le_refl _, fun r' hr' hne => set_get_ne (fun hh => hne.ne _ _ _ _ _ rfl hh.symm)⟩
    have hcl : cs.length = n * sz := hlen
    rw [← hc] at hj ⊢
    rw [List.length_take, List.length_drop] at hj
    apply List.ext_getElem?
    intro i
    rw [setAt_get _ _ _ _ (by rw [List.length_take, List.length_drop]; omega)]
    rw [List.getElem?_take, List.getElem?_drop, setAt_get _ _ _ _ (by omega), List.getElem?_take, List.getElem?_drop]
    by_cases hi : i < n * sz
    · rw [if_pos hi]
      by_cases hij : j ≤ i ∧ i < j + vs.length
      · rw [if_pos hij, if_pos (by omega), show off + i - (off + j) = i - j by omega]
      · rw [if_neg hij, if_neg (by omega), if_pos hi]
    · rw [if_neg hi, if_neg (by omega), if_neg hi]
end
section
variable {call : ACall} {its : List DItem} {H0 : AHeap} {n ref : Nat} {E : List (Nat × AHeap)} {Rd : List (Nat × (AHeap → Bool))} {fr : AFrame} {H : AHeap} {K : AFrame → AHeap → Prop} {g : Option (Nat × Bool)} {b : Nat} {pre : Bool}
theorem WpE.stPN {d : Option Nat} {a x : ROpd} {p : AVal} {sz k j m : Nat} {cs vs : List AVal} {v : AVal} (hw : ROper.wanted fr ⟨d, .store m a x, g⟩ = true) (ha : a.ev fr = .ptr (rowOf p) (offOf p + j)) (hx : x.ev fr = v) (hv : v.cells = vs) (hm : vs.length = m) (hm0 : 0 < m) (ho : vs.all AVal.one = true) [s : SliceAt H p sz k cs] [w : WrS H p] (hj : j + m ≤ cs.length)
    (h : ∀ H1, SliceAt H1 p sz k (setAt cs j vs) → WrS H1 p → ExtP H H1 p → AllR b H1 Rd ∧ WpE call (n + 1) ref its H0 ((n, H) :: E) Rd (put fr d aundef) H1 K) : WpE call n ref (⟨⟨d, .store m a x, g⟩, b, 2, pre⟩ :: its) H0 E Rd fr H K := by
  obtain ⟨v', H1, h1, rfl, h2, h3, h4⟩ := WpX.stPN (call := call) (K := fun v H1 => v = aundef ∧ SliceAt H1 p sz k (setAt cs j vs) ∧ WrS H1 p ∧ ExtP H H1 p) ha hx hv hm hm0 ho hj fun H1 q1 q2 q3 => ⟨rfl, q1, q2, q3⟩
  obtain ⟨h5, h6⟩ := h H1 h2 h3 h4
  exact WpE.effect hw h1 h5 h6
end
theorem allOne_ints (L : List Int) : (cellsI L).all AVal.one = true := by
  rw [List.all_eq_true]; intro v hv
  unfold cellsI at hv
  obtain ⟨n, _, rfl⟩ := List.mem_map.1 hv
  rfl
def cellsT (l : List Bool) : List AVal := l.map AVal.bool
theorem cellsT_length (l : List Bool) : (cellsT l).length = l.length := by simp [cellsT]
abbrev BoolsI (H : AHeap) (p : AVal) (l : List Bool) : Prop := SliceAt H p 1 l.length (cellsT l)
theorem cellsT_get {l : List Bool} {i : Nat} (h : i < l.length) : (cellsT l)[i]? = some (.bool l[i]) := by simp [cellsT, h]
theorem cellsT_set {l : List Bool} {i : Nat} {b : Bool} : (cellsT l).set i (.bool b) = cellsT (l.set i b) := by simp [cellsT, List.map_set]
end Go.Am

namespace Go.Am
open Go
abbrev Opts := List (Int × Int)
def cellsO (l : Opts) : List AVal := l.flatMap fun o => [.int .i64 o.1, .int .i64 o.2]
theorem cellsO_length (l : Opts) : (cellsO l).length = 2 * l.length := by
  unfold cellsO
  induction l with
  | nil => rfl
  | cons a l ih => rw [List.flatMap_cons, List.length_append, ih, List.length_cons]; simp only [List.length_cons, List.length_nil]; omega
theorem cellsO_append (l m : Opts) : cellsO (l ++ m) = cellsO l ++ cellsO m := by simp [cellsO, List.flatMap_append]
theorem cellsO_drop (l : Opts) (i : Nat) : (cellsO l).drop (2 * i) = cellsO (l.drop i) := by
  conv => lhs; rw [← List.take_append_drop i l, cellsO_append]
  by_cases h : i ≤ l.length
  · rw [List.drop_append_of_le_length (by rw [cellsO_length, List.length_take]; omega), List.drop_eq_nil_of_le (by rw [cellsO_length, List.length_take]; omega)]; rfl
  · rw [List.drop_eq_nil_of_le (by rw [List.length_append, cellsO_length, cellsO_length, List.length_take, List.length_drop]; omega), List.drop_eq_nil_of_le (by omega)]; rfl
theorem cellsO_two {l : Opts} {i : Nat} (h : i < l.length) : ((cellsO l).drop (i * 2)).take 2 = [.int .i64 l[i].1, .int .i64 l[i].2] := by
  rw [Nat.mul_comm, cellsO_drop, List.drop_eq_getElem_cons h]; rfl
theorem cellsO_fst {l : Opts} {i : Nat} (h : i < l.length) : (cellsO l)[i * 2]? = some (.int .i64 l[i].1) := by
  have := congrArg (·[0]?) (cellsO_two h)
  simpa [List.getElem?_take, List.getElem?_drop] using this
theorem cellsO_snd {l : Opts} {i : Nat} (h : i < l.length) : (cellsO l)[i * 2 + 1]? = some (.int .i64 l[i].2) := by
  have := congrArg (·[1]?) (cellsO_two h)
  simpa [List.getElem?_take, List.getElem?_drop] using this
abbrev OptsI (H : AHeap) (p : AVal) (l : Opts) : Prop := SliceAt H p 2 l.length (cellsO l)
class ListI {α : Type} (Q : AHeap → AVal → α → Prop) (H : AHeap) (p : AVal) (ls : outParam (List α)) : Prop where
  it : ∃ ps : List AVal, SliceAt H p 1 ls.length ps ∧ ∀ (i : Nat) (h : i < ls.length), ∃ q, ps[i]? = some q ∧ Q H q ls[i]
class Stb {α : Type} (Q : AHeap → AVal → α → Prop) : Prop where
  ext : ∀ {H H' : AHeap} {p : AVal} {x : α}, Q H p x → Ext H H' → Q H' p x
  one : ∀ {H : AHeap} {p : AVal} {x : α}, Q H p x → OneV p
instance : Stb OptsI := ⟨fun {H H' p x} h e => by haveI : ExtI H H' := ⟨e⟩; exact (inferInstance : SliceAt H' p 2 _ _), fun h => SliceAt.one h⟩
theorem ListI.ext {α : Type} {Q : AHeap → AVal → α → Prop} [s : Stb Q] {H H' : AHeap} {p : AVal} {ls : List α} (h : ListI Q H p ls) (x : Ext H H') : ListI Q H' p ls := by
  obtain ⟨ps, h1, h2⟩ := h.it
  haveI : ExtI H H' := ⟨x⟩
  exact ⟨ps, inferInstance, fun i hi => by obtain ⟨q, h3, h4⟩ := h2 i hi; exact ⟨q, h3, s.ext h4 x⟩⟩
instance {α : Type} {Q : AHeap → AVal → α → Prop} [Stb Q] {H : AHeap} {o : AObj} {p : AVal} {ls : List α} [h : ListI Q H p ls] : ListI Q (H.push o) p ls := h.ext ((Ext.refl H).push o)
instance {α : Type} {Q : AHeap → AVal → α → Prop} [Stb Q] {H H' : AHeap} {p : AVal} {ls : List α} [x : ExtI H H'] [h : ListI Q H p ls] : ListI Q H' p ls := h.ext x.ext
theorem ListI.one {α : Type} {Q : AHeap → AVal → α → Prop} {H : AHeap} {p : AVal} {ls : List α} (h : ListI Q H p ls) : OneV p := by obtain ⟨ps, h1, h2⟩ := h.it; exact h1.one
abbrev LineI := ListI OptsI
instance : Stb LineI := ⟨fun h x => ListI.ext h x, fun h => ListI.one h⟩
def never : Int := 1000000
def inO (o : Int × Int) : Bool := (decide (0 ≤ o.2) && decide (o.2 ≤ 1000000)) && (decide (0 ≤ o.1) && decide (o.1 ≤ 27))
def getO (l : Opts) (k : Nat) : Int × Int := l.getD k (0, 0)
theorem getO_at {l : Opts} {k : Nat} (h : k < l.length) : getO l k = l[k] := by rw [getO, List.getD_eq_getElem?_getD, List.getElem?_eq_getElem h, Option.getD_some]
def seenB (l : Opts) (k : Nat) (v : Int) : Bool := (l.take k).any fun o => o.1 == v
def okO (l : Opts) (k : Nat) : Bool := inO (getO l k) && !(seenB l k (getO l k).1)
def signTo (l : Opts) (k : Nat) : Bool := (List.range k).all (okO l)
def signB (l : Opts) : Bool := signTo l l.length
theorem signTo_succ {l : Opts} {k : Nat} : signTo l (k + 1) = (signTo l k && okO l k) := by simp [signTo, List.range_succ, List.all_append]
theorem signTo_bad {l : Opts} {k n : Nat} (h : okO l k = false) (hk : k < n) : signTo l n = false := by
  cases h2 : signTo l n with
  | false => rfl
  | true =>
    have := List.all_eq_true.1 h2 k (List.mem_range.2 hk)
    rw [h] at this; cases this
theorem signTo_ok {l : Opts} {k n : Nat} (h : signTo l n = true) (hk : k < n) : okO l k = true := List.all_eq_true.1 h k (List.mem_range.2 hk)
theorem seenB_succ {l : Opts} {k : Nat} {v : Int} (h : k < l.length) : seenB l (k + 1) v = (seenB l k v || l[k].1 == v) := by
  simp only [seenB, List.take_succ_eq_append_getElem h, List.any_append, List.any_cons, List.any_nil, Bool.or_false]
def costO (l : Opts) (c : Int) : Int := l.foldl (fun m o => if o.1 = c then o.2 else m) never
def costTo (l : Opts) (k : Nat) (c : Int) : Int := costO (l.take k) c
theorem costTo_all (l : Opts) (c : Int) : costTo l l.length c = costO l c := by simp [costTo]
theorem costTo_succ {l : Opts} {k : Nat} {c : Int} (h : k < l.length) : costTo l (k + 1) c = if l[k].1 = c then l[k].2 else costTo l k c := by
  simp only [costTo, costO, List.take_succ_eq_append_getElem h, List.foldl_append, List.foldl_cons, List.foldl_nil]
theorem costO_range {l : Opts} (h : signB l = true) (c : Int) : 0 ≤ costO l c ∧ costO l c ≤ never := by
  have key : ∀ k, k ≤ l.length → 0 ≤ costTo l k c ∧ costTo l k c ≤ never := by
    intro k
    induction k with
    | zero => intro _; simp [costTo, costO, never]
    | succ k ih =>
      intro hk
      rw [costTo_succ (by omega)]
      split
      · have := signTo_ok h (show k < l.length by omega)
        simp only [okO, getO_at (show k < l.length by omega), inO, Bool.and_eq_true, decide_eq_true_eq] at this
        exact ⟨this.1.1.1, this.1.1.2⟩
      · exact ih (by omega)
  rw [← costTo_all]
  exact key _ (Nat.le_refl _)
def costL (l : Opts) : List Int := (List.range 28).map fun c : Nat => costO l c
theorem costL_length (l : Opts) : (costL l).length = 28 := by simp [costL]
theorem costL_get {l : Opts} {c : Nat} (h : c < (costL l).length) : (costL l)[c] = costO l c := by simp [costL]
def lowB (c : UInt8) : Bool := decide (97 ≤ c.toNat) && decide (c.toNat ≤ 122)
def letS (c : UInt8) : Nat := bif lowB c then c.toNat - 96 else (bif c == 45 then 27 else 0)
theorem letS_lt (c : UInt8) : letS c < 28 := by
  unfold letS lowB
  cases h : (decide (97 ≤ c.toNat) && decide (c.toNat ≤ 122))
  · simp only [cond_false]; cases c == 45 <;> decide
  · simp only [Bool.and_eq_true, decide_eq_true_eq] at h
    simp only [cond_true]; omega
def blankS (ls : List Opts) (k : Nat) : Int := ((ls.drop k).map fun l => costO l 0).sum
theorem blankS_end (ls : List Opts) {k : Nat} (h : ls.length ≤ k) : blankS ls k = 0 := by simp [blankS, List.drop_eq_nil_of_le h]
theorem blankS_at {ls : List Opts} {k : Nat} (h : k < ls.length) : blankS ls k = costO ls[k] 0 + blankS ls (k + 1) := by
  rw [blankS, List.drop_eq_getElem_cons h, List.map_cons, List.sum_cons]; rfl
def lettS (ls : List Opts) (s : Bs) (k : Nat) : Int := ((List.range k).map fun i => costO (ls.getD i []) (letS (s.getD i 0))).sum
theorem lettS_succ {ls : List Opts} {s : Bs} {k : Nat} : lettS ls s (k + 1) = lettS ls s k + costO (ls.getD k []) (letS (s.getD k 0)) := by
  simp [lettS, List.range_succ, List.map_append, List.sum_append]
def badLine (ls : List Opts) : Int := if ls.length > 24 then 4 else if ls.all signB then 0 else 1
def costS (ls : List Opts) (s : Bs) : Int × Int :=
  if badLine ls ≠ 0 then (0, badLine ls) else if s.length > ls.length ∨ ¬ (s.all fun c => letS c != 0) then (0, 45) else (lettS ls s s.length + blankS ls s.length, 0)
end Go.Am
namespace Go.Am
open Go
section
variable {call : ACall} {fr : AFrame} {H : AHeap} {KF : AFrame → AHeap → Prop} {os : List ROper} {d : Nat}
theorem Fo.idxA {x i : ROpd} {n r j : Nat} {k : IntKind} (hx : x.ev fr = .ptr r 0) (hi : i.ev fr = .int k (j : Int)) (hj : j < n) (h : WpO call os (upd fr d (.ptr (rowOf (rowN r n)) (offOf (rowN r n) + j))) H KF) : WpO call (⟨some d, .idxA n 1 x i, none⟩ :: os) fr H KF :=
  WpO.step rfl ⟨_, H, exec_idxA hx hi hj, by rw [Nat.mul_one]; exact h⟩
theorem Fo.ldP {a : ROpd} {p : AVal} {sz n j : Nat} {cs : List AVal} {v : AVal} (ha : a.ev fr = .ptr (rowOf p) (offOf p + j)) [s : SliceAt H p sz n cs] (hv : cs[j]? = some v) (h : WpO call os (upd fr d v) H KF) : WpO call (⟨some d, .load none a, none⟩ :: os) fr H KF :=
  WpO.step rfl ⟨_, H, exec_ldP ha hv, h⟩
theorem Fo.ldO {a : ROpd} {p : AVal} {k : Nat} {l : Opts} (ha : a.ev fr = .ptr (rowOf p) (offOf p + k * 2)) [s : OptsI H p l] (hk : k < l.length) (h : WpO call os (upd fr d (.agg [.int .i64 l[k].1, .int .i64 l[k].2])) H KF) : WpO call (⟨some d, .load (some 2) a, none⟩ :: os) fr H KF :=
  WpO.step rfl ⟨_, H, exec_ldNP (p := p) (j := k * 2) ha (by decide) (by rw [cellsO_length]; omega) (cellsO_two hk), h⟩
theorem made_mkZ {e : TypeId} {z : List AVal} {b : Nat} {x y : ROpd} {k k' : IntKind} {a : Nat} (hx : x.ev fr = .int k a) (hy : y.ev fr = .int k' a) (h0 : b * a ≤ 2 ^ 47 ∧ a < 2 ^ 62) : (ROp.makeSlice e z b x y).made fr = some ((List.replicate a z).flatten, e, fun r => .slice r 0 a (some a) z.length) := by
  have h1 : (0 : Int) ≤ (a : Int) ∧ (a : Int) ≤ a ∧ (b : Int) * a ≤ 2 ^ 47 ∧ (a : Int) < 2 ^ 62 := by
    have h2 : ((b * a : Nat) : Int) ≤ 2 ^ 47 := by omega
    rw [Int.natCast_mul] at h2
    omega
  simp only [ROp.made, hx, hy, if_pos h1, Int.toNat_natCast]
end
def seenL (l : Opts) (k : Nat) : List Bool := (List.range 28).map fun v : Nat => seenB l k v
theorem seenL_length (l : Opts) (k : Nat) : (seenL l k).length = 28 := by simp [seenL]
theorem seenL_get {l : Opts} {k v : Nat} (h : v < (seenL l k).length) : (seenL l k)[v] = seenB l k v := by simp [seenL]
theorem seenL_zero (l : Opts) : seenL l 0 = List.replicate 28 false := by
  apply List.ext_getElem
  · simp [seenL]
  · intro i h1 h2
    rw [List.getElem_replicate, seenL_get h1]; rfl
theorem seenL_set {l : Opts} {k v : Nat} (h : k < l.length) (hv : l[k].1 = (v : Int)) (hlt : v < 28) : (seenL l k).set v true = seenL l (k + 1) := by
  apply List.ext_getElem
  · simp [seenL]
  · intro i h1 h2
    rw [List.getElem_set, seenL_get h2, seenB_succ h, hv]
    by_cases e : v = i
    · subst e; simp
    · rw [if_neg e, seenL_get]
      have : ((v : Int) == (i : Int)) = false := beq_eq_false_iff_ne.2 (by omega)
      rw [this, Bool.or_false]
def nevL (k : Nat) : List Int := (List.range 28).map fun i => if i < k then never else 0
theorem nevL_length (k : Nat) : (nevL k).length = 28 := by simp [nevL]
theorem nevL_zero : nevL 0 = List.replicate 28 0 := by
  apply List.ext_getElem
  · simp [nevL]
  · intro i h1 h2
    rw [List.getElem_replicate]
    simp only [nevL, List.getElem_map, List.getElem_range, Nat.not_lt_zero, if_false]
theorem nevL_set {k : Nat} : (nevL k).set k never = nevL (k + 1) := by
  apply List.ext_getElem
  · simp [nevL]
  · intro i h1 h2
    simp only [nevL, List.getElem_set, List.getElem_map, List.getElem_range]
    by_cases e : k = i
    · subst e; simp
    · have : i < k ↔ i < k + 1 := by omega
      simp only [e, if_false, this]
def costK (l : Opts) (k : Nat) : List Int := (List.range 28).map fun c : Nat => costTo l k c
theorem costK_length (l : Opts) (k : Nat) : (costK l k).length = 28 := by simp [costK]
theorem costK_zero (l : Opts) : nevL 28 = costK l 0 := by
  apply List.ext_getElem
  · simp [nevL, costK]
  · intro i h1 h2
    have : i < 28 := by simpa [nevL] using h1
    simp [nevL, costK, costTo, costO, this]
theorem costK_all (l : Opts) : costK l l.length = costL l := by simp [costK, costL, costTo_all]
theorem costK_set {l : Opts} {k v : Nat} (h : k < l.length) (hv : l[k].1 = (v : Int)) (hlt : v < 28) : (costK l k).set v l[k].2 = costK l (k + 1) := by
  apply List.ext_getElem
  · simp [costK]
  · intro i h1 h2
    simp only [costK, List.getElem_set, List.getElem_map, List.getElem_range, costTo_succ h, hv]
    by_cases e : v = i
    · subst e; simp
    · have : ¬ ((v : Int) = (i : Int)) := by omega
      simp only [e, if_false, this]
end Go.Am
namespace Go.Am
open Go
theorem mkZ_facts {H : AHeap} {z : List AVal} {n : Nat} {e : TypeId} {l : List AVal} (hl : (List.replicate n z).flatten = l) : SliceAt (H.push (.row l true e)) (.slice H.n 0 n (some n) z.length) z.length n l ∧ FreshS H (.slice H.n 0 n (some n) z.length) ∧ WrS (H.push (.row l true e)) (.slice H.n 0 n (some n) z.length) := by
  have hlen : l.length = n * z.length := by rw [← hl]; simp
  refine ⟨⟨Or.inr ⟨H.n, 0, some n, l, true, e, rfl, Nat.lt_succ_self _, push_get_eq, by omega, ?_, Nat.le_refl _⟩⟩, ⟨fun r off len cap sz e => by cases e; exact Nat.le_refl _⟩, ⟨fun r off len cap sz e => by cases e; exact ⟨_, _, push_get_eq⟩⟩⟩
  rw [List.drop_zero, List.take_of_length_le (by omega)]
theorem cellsI_append (l m : List Int) : cellsI (l ++ m) = cellsI l ++ cellsI m := by simp [cellsI]
theorem setAt_mid {a b b' c : List AVal} (h : b.length = b'.length) : setAt (a ++ (b ++ c)) a.length b' = a ++ (b' ++ c) := by
  apply List.ext_getElem?
  intro i
  rw [setAt_get _ _ _ _ (by simp only [List.length_append]; omega)]
  by_cases h1 : a.length ≤ i
  · rw [List.getElem?_append_right h1, List.getElem?_append_right h1]
    by_cases h2 : i < a.length + b'.length
    · rw [if_pos ⟨h1, h2⟩, List.getElem?_append_left (by omega)]
    · rw [if_neg (by omega), List.getElem?_append_right (by omega), List.getElem?_append_right (by omega), h]
  · rw [if_neg (by omega), List.getElem?_append_left (by omega), List.getElem?_append_left (by omega)]
theorem flat_length (ls : List Opts) : (ls.flatMap costL).length = ls.length * 28 := by
  induction ls with
  | nil => rfl
  | cons l ls ih => rw [List.flatMap_cons, List.length_append, ih, costL_length, List.length_cons]; omega
theorem flat_get : ∀ (ls : List Opts) (i c : Nat) (h : i < ls.length) (_ : c < 28), (ls.flatMap costL)[i * 28 + c]? = some (costO ls[i] c)
  | l :: ls, 0, c, h, hc => by
    rw [List.flatMap_cons, List.getElem?_append_left (by rw [costL_length]; omega), Nat.zero_mul, Nat.zero_add, List.getElem?_eq_getElem (by rw [costL_length]; exact hc), costL_get]; rfl
  | l :: ls, i + 1, c, h, hc => by
    rw [List.flatMap_cons, List.getElem?_append_right (by rw [costL_length]; omega), costL_length, show (i + 1) * 28 + c - 28 = i * 28 + c by omega]
    exact flat_get ls i c (by simpa using h) hc
def shL (ls : List Opts) (k : Nat) : List Int := (ls.take k).flatMap costL ++ List.replicate (28 * (ls.length - k)) 0
theorem shL_zero (ls : List Opts) : (List.replicate ls.length (List.replicate 28 (AVal.int .i64 0))).flatten = cellsI (shL ls 0) := by
  simp only [shL, List.take_zero, List.flatMap_nil, List.nil_append, Nat.sub_zero]
  induction ls with
  | nil => rfl
  | cons l ls ih =>
    rw [List.length_cons, List.replicate_succ, List.flatten_cons, ih, show 28 * (ls.length + 1) = 28 + 28 * ls.length by omega, ← List.replicate_append_replicate, cellsI_append]
    rfl
theorem shL_all (ls : List Opts) : shL ls ls.length = ls.flatMap costL := by simp [shL]
theorem shL_length {ls : List Opts} {k : Nat} (h : k ≤ ls.length) : (shL ls k).length = ls.length * 28 := by
  rw [shL, List.length_append, flat_length, List.length_replicate, List.length_take, Nat.min_eq_left h]; omega
theorem shL_set {ls : List Opts} {k : Nat} (h : k < ls.length) : setAt (cellsI (shL ls k)) (k * 28) (cellsI (costL ls[k])) = cellsI (shL ls (k + 1)) := by
  have e1 : shL ls k = (ls.take k).flatMap costL ++ (List.replicate 28 0 ++ List.replicate (28 * (ls.length - (k + 1))) 0) := by
    rw [shL, List.replicate_append_replicate, show 28 + 28 * (ls.length - (k + 1)) = 28 * (ls.length - k) by omega]
  have e2 : shL ls (k + 1) = (ls.take k).flatMap costL ++ (costL ls[k] ++ List.replicate (28 * (ls.length - (k + 1))) 0) := by
    rw [shL, List.take_succ_eq_append_getElem h, List.flatMap_append, List.append_assoc]; simp
  have e3 : k * 28 = (cellsI ((ls.take k).flatMap costL)).length := by rw [cellsI_length, flat_length, List.length_take, Nat.min_eq_left (by omega)]
  rw [e1, e2, e3, cellsI_append, cellsI_append, cellsI_append, cellsI_append, setAt_mid (by rw [cellsI_length, cellsI_length, costL_length, List.length_replicate])]
def blJ (ls : List Opts) (j : Nat) : List Int := (List.range (ls.length + 1)).map fun k => if j ≤ k then blankS ls k else 0
theorem blJ_length (ls : List Opts) (j : Nat) : (blJ ls j).length = ls.length + 1 := by simp [blJ]
theorem blJ_get {ls : List Opts} {j k : Nat} (h : k < (blJ ls j).length) : (blJ ls j)[k] = if j ≤ k then blankS ls k else 0 := by simp [blJ]
theorem blJ_start (ls : List Opts) : List.replicate (ls.length + 1) 0 = blJ ls ls.length := by
  apply List.ext_getElem
  · simp [blJ]
  · intro i h1 h2
    rw [blJ_get h2, List.getElem_replicate]
    split
    · rw [blankS_end ls (by assumption)]
    · rfl
theorem blJ_set {ls : List Opts} {j : Nat} (h : j < ls.length + 1) : (blJ ls (j + 1)).set j (blankS ls j) = blJ ls j := by
  apply List.ext_getElem
  · simp [blJ]
  · intro i h1 h2
    rw [List.getElem_set, blJ_get h2]
    by_cases e : j = i
    · subst e; simp
    · rw [if_neg e, blJ_get]
      have : j + 1 ≤ i ↔ j ≤ i := by omega
      simp only [this]
def blankL (ls : List Opts) : List Int := blJ ls 0
theorem blankL_length (ls : List Opts) : (blankL ls).length = ls.length + 1 := blJ_length ls 0
theorem blankL_get {ls : List Opts} {k : Nat} (h : k < (blankL ls).length) : (blankL ls)[k] = blankS ls k := by
  have h2 : k < (blJ ls 0).length := h
  show (blJ ls 0)[k] = _
  rw [blJ_get h2, if_pos (Nat.zero_le _)]
theorem blank_range {ls : List Opts} (h : ls.all signB = true) : ∀ k, 0 ≤ blankS ls k ∧ blankS ls k ≤ never * ((ls.length - k : Nat) : Int) := by
  have key : ∀ m k, ls.length - k = m → 0 ≤ blankS ls k ∧ blankS ls k ≤ never * (m : Int) := by
    intro m
    induction m with
    | zero => intro k hk; rw [blankS_end ls (by omega)]; simp
    | succ m ih =>
      intro k hk
      have hkl : k < ls.length := by omega
      have h1 := ih (k + 1) (by omega)
      have h2 := costO_range (List.all_eq_true.1 h _ (List.getElem_mem hkl)) 0
      rw [blankS_at hkl]
      unfold never at *
      omega
  exact fun k => key _ k rfl
structure SheetI (H : AHeap) (ps pb : AVal) (ls : List Opts) : Prop where
  signs : SliceAt H ps 28 ls.length (cellsI (ls.flatMap costL))
  blanks : IntsI H pb (blankL ls)
end Go.Am
namespace Go.Am
open Go
def prtR (a b : Bs) (n i k : Nat) : List Int := (List.range (n + 1)).map fun c => if c < k then (lvD a b i c : Int) else 0
theorem prtR_len (a b : Bs) (n i k : Nat) : (prtR a b n i k).length = n + 1 := by simp [prtR]
theorem prtR_zero (a b : Bs) (n i : Nat) : List.replicate (n + 1) 0 = prtR a b n i 0 := by
  apply List.ext_getElem
  · simp [prtR]
  · intro c h1 h2
    simp [prtR]
theorem prtR_get {a b : Bs} {n i k c : Nat} (h : c < (prtR a b n i k).length) : (prtR a b n i k)[c] = if c < k then (lvD a b i c : Int) else 0 := by simp [prtR]
theorem prtR_set {a b : Bs} {n i k : Nat} : (prtR a b n i k).set k (lvD a b i k : Int) = prtR a b n i (k + 1) := by
  apply List.ext_getElem
  · simp [prtR]
  · intro c h1 h2
    rw [List.getElem_set, prtR_get h2]
    by_cases e : k = c
    · subst e; simp
    · rw [if_neg e, prtR_get]
      have : c < k ↔ c < k + 1 := by omega
      simp only [this]
theorem mk_nils (n : Nat) : (List.replicate n [AVal.nslice]).flatten = List.replicate n .nslice := by
  induction n with
  | zero => rfl
  | succ n ih => rw [List.replicate_succ, List.flatten_cons, ih, List.replicate_succ]; rfl
theorem WpX.mkN {call : ACall} {fr : AFrame} {H : AHeap} {K : AVal → AHeap → Prop} {e : TypeId} {x y : ROpd} {k k' : IntKind} {n : Nat} (hx : x.ev fr = .int k (n : Int)) (hy : y.ev fr = .int k' (n : Int)) (hn : n ≤ 2 ^ 40)
    (h : ∀ p H1, SliceAt H1 p 1 n (List.replicate n .nslice) → FreshS H p → WrS H1 p → ExtI H H1 → K p H1) : WpX (.makeSlice e [.nslice] 24 x y) call fr H K := by
  obtain ⟨h1, h2, h3⟩ := mk_facts (H := H) (e := 2 * e) (z := .nslice) (n := n) (mk_nils n)
  refine ⟨_, _, exec_mk hx hy (by omega), ?_⟩
  rw [Int.toNat_natCast, mk_nils]
  exact h _ _ h1 h2 h3 ⟨(Ext.refl H).push _⟩
end Go.Am
namespace Go.Am
open Go
section
variable {call : ACall} {fr : AFrame} {H : AHeap} {KF : AFrame → AHeap → Prop} {os : List ROper} {d : Nat}
theorem exec_ldO1 {a : ROpd} {p : AVal} {k : Nat} {l : Opts} (ha : a.ev fr = .ptr (rowOf p) (offOf p + k * 2)) [s : OptsI H p l] (hk : k < l.length) : (ROp.load none a).exec call fr H = some (.int .i64 l[k].1, H) :=
  exec_ldP (p := p) (j := k * 2) ha (cellsO_fst hk)
theorem exec_ldO2 {a : ROpd} {p : AVal} {k : Nat} {l : Opts} (ha : a.ev fr = .ptr (rowOf p) (offOf p + k * 2 + 1)) [s : OptsI H p l] (hk : k < l.length) : (ROp.load none a).exec call fr H = some (.int .i64 l[k].2, H) :=
  exec_ldP (p := p) (j := k * 2 + 1) ha (cellsO_snd hk)
theorem Fo.ldO1 {a : ROpd} {p : AVal} {k : Nat} {l : Opts} (ha : a.ev fr = .ptr (rowOf p) (offOf p + k * 2)) [s : OptsI H p l] (hk : k < l.length) (h : WpO call os (upd fr d (.int .i64 l[k].1)) H KF) : WpO call (⟨some d, .load none a, none⟩ :: os) fr H KF := WpO.step rfl ⟨_, H, exec_ldO1 ha hk, h⟩
theorem Fo.ldO2 {a : ROpd} {p : AVal} {k : Nat} {l : Opts} (ha : a.ev fr = .ptr (rowOf p) (offOf p + k * 2 + 1)) [s : OptsI H p l] (hk : k < l.length) (h : WpO call os (upd fr d (.int .i64 l[k].2)) H KF) : WpO call (⟨some d, .load none a, none⟩ :: os) fr H KF := WpO.step rfl ⟨_, H, exec_ldO2 ha hk, h⟩
end
def charS (s : Bs) (i : Nat) : Int := if i < s.length then (letS (s.getD i 0) : Int) else 0
def sumS (ls : List Opts) (s : Bs) (k : Nat) : Int := ((List.range k).map fun i => costO (ls.getD i []) (charS s i)).sum
theorem sumS_succ {ls : List Opts} {s : Bs} {k : Nat} : sumS ls s (k + 1) = sumS ls s k + costO (ls.getD k []) (charS s k) := by
  simp [sumS, List.range_succ, List.map_append, List.sum_append]
theorem sumS_lett {ls : List Opts} {s : Bs} : ∀ {k : Nat}, k ≤ s.length → sumS ls s k = lettS ls s k
  | 0, _ => rfl
  | k + 1, h => by rw [sumS_succ, lettS_succ, sumS_lett (by omega), charS, if_pos (by omega)]
theorem sumS_blank {ls : List Opts} {s : Bs} (hs : s.length ≤ ls.length) : ∀ {k : Nat}, s.length ≤ k → k ≤ ls.length → sumS ls s k + blankS ls k = lettS ls s s.length + blankS ls s.length
  | 0, h, _ => by have : s.length = 0 := by omega
                  rw [this]; rfl
  | k + 1, h, hk => by
    by_cases e : s.length = k + 1
    · rw [← e, sumS_lett (Nat.le_refl _)]
    · have h1 := sumS_blank hs (k := k) (by omega) (by omega)
      have h2 : ls.getD k [] = ls[k] := by rw [List.getD_eq_getElem?_getD, List.getElem?_eq_getElem (by omega), Option.getD_some]
      rw [sumS_succ, charS, if_neg (by omega), h2]
      rw [blankS_at (show k < ls.length by omega)] at h1
      omega
theorem sumS_all {ls : List Opts} {s : Bs} (hs : s.length ≤ ls.length) : sumS ls s ls.length = lettS ls s s.length + blankS ls s.length := by
  have := sumS_blank hs hs (Nat.le_refl _)
  rwa [blankS_end ls (Nat.le_refl _), Int.add_zero] at this
end Go.Am

namespace Go.Am
open Go
section
variable {call : ACall} {lf : Nat} {fr : AFrame} {H : AHeap} {Q : RExit → AFrame → AHeap → Prop} {b : RCode}
def WpN (call : ACall) (lf : Nat) (b : RCode) (k : Nat) (fr : AFrame) (H : AHeap) (Q : RExit → AFrame → AHeap → Prop) : Prop := ∃ x fr' H', loopN (b.exec call lf) k fr H = some ((x, fr'), H') ∧ Q x fr' H'
theorem Wp.rounds (h : WpN call lf b lf fr H Q) : Wp call lf (.loop b) fr H Q := h
theorem WpN.round {k : Nat} (hk : 0 < k) (h : Wp call lf b fr H fun x fr' H' => match x with | .normal => WpN call lf b (k - 1) fr' H' Q | e => Q e fr' H') : WpN call lf b k fr H Q := by
  obtain ⟨j, rfl⟩ : ∃ j, k = j + 1 := ⟨k - 1, by omega⟩
  obtain ⟨x, fr', H', h1, h2⟩ := h
  cases x with
  | normal =>
    obtain ⟨y, f2, H2, h3, h4⟩ := h2
    refine ⟨y, f2, H2, ?_, h4⟩
    simp only [loopN, M.bind, h1]
    exact h3
  | exit id => exact ⟨_, _, _, by simp only [loopN, M.bind, h1, M.pure], h2⟩
  | ret => exact ⟨_, _, _, by simp only [loopN, M.bind, h1, M.pure], h2⟩
theorem exec_eqT {neg : Bool} {d : EqDesc} {x y : ROpd} {a b : AVal} {r : Bool} (hx : x.ev fr = a) (hy : y.ev fr = b) (h : aEq d a b = some r) : (ROp.eq neg d x y).exec call fr H = some (.bool (match neg with | true => !r | false => r), H) := by
  subst hx hy
  simp only [ROp.exec, h, M.pure]; cases neg <;> rfl
end
end Go.Am

namespace Go.Am
open Go
open Nat renaming reduceEqDiff → qe, reduceAdd → qz
open Int renaming reduceBEq → qa, reduceBNe → qn
attribute [local irreducible] Wp WpO WpX WpE
instance K_awake {H : AHeap} : PureCon ext prog 11 [] H 0 (.bool true) := ⟨fun n hn => by
 obtain ⟨k, rfl⟩ : ∃ k, n = k + 1 := ⟨n - 1, by unfold fuel0 at hn; omega⟩
 have e1 : prog 11 = some ⟨0, .ext 3, []⟩ := rfl
 refine ⟨.bool true, H, ?_, rfl, Ext.refl H⟩
 rw [call_ext e1]
 rfl⟩
instance K_withinI {n a b : Int} {H : AHeap} : PureCon ext prog 109 [.int .i64 n, .int .i64 a, .int .i64 b] H 1 (.bool (decide (a ≤ n) && decide (n ≤ b))) := ⟨by
 refine con_of (show prog 109 = some c109 from rfl) rfl rfl fun m hn => ?_
 cases h1 : decide (a ≤ n)
 ·skip
  repeat first | refine ox ?_ | refine mI ?_ | refine mB ?_ | refine bn rfl rfl rfl (by simp only [h1]; rfl) ?_ | refine fB ?_ | refine nl hKF ?_ | refine sq ?_ | refine rg fun KF hKF => ?_ | refine rt ?_ | dsimp only
  refine rz trivial ?_
  exact ⟨rfl, Ext0.ext⟩
 ·skip
  repeat first | refine oy ?_ | refine mI ?_ | refine mB ?_ | refine bn rfl rfl rfl (by simp only [h1]; rfl) ?_ | refine b0 ?_ | refine tB ?_ | refine nl hKF ?_ | refine sq ?_ | refine rg fun KF hKF => ?_ | refine rt ?_ | dsimp only
  refine rz trivial ?_
  exact ⟨rfl, Ext0.ext⟩⟩
instance K_withinB {n a b : Int} {H : AHeap} : PureCon ext prog 114 [.int .u8 n, .int .u8 a, .int .u8 b] H 1 (.bool (decide (a ≤ n) && decide (n ≤ b))) := ⟨by
 refine con_of (show prog 114 = some c114 from rfl) rfl rfl fun m hn => ?_
 cases h1 : decide (a ≤ n)
 ·skip
  repeat first | refine ox ?_ | refine mI ?_ | refine mB ?_ | refine bn rfl rfl rfl (by simp only [h1]; rfl) ?_ | refine fB ?_ | refine nl hKF ?_ | refine sq ?_ | refine rg fun KF hKF => ?_ | refine rt ?_ | dsimp only
  refine rz trivial ?_
  exact ⟨rfl, Ext0.ext⟩
 ·skip
  repeat first | refine oy ?_ | refine mI ?_ | refine mB ?_ | refine bn rfl rfl rfl (by simp only [h1]; rfl) ?_ | refine b0 ?_ | refine tB ?_ | refine nl hKF ?_ | refine sq ?_ | refine rg fun KF hKF => ?_ | refine rt ?_ | dsimp only
  refine rz trivial ?_
  exact ⟨rfl, Ext0.ext⟩⟩
theorem low_int (c : UInt8) : (decide ((97 : Int) ≤ (c.toNat : Int)) && decide ((c.toNat : Int) ≤ 122)) = lowB c := by
 have e1 : decide ((97 : Int) ≤ (c.toNat : Int)) = decide (97 ≤ c.toNat) := decide_eq_decide.2 (by omega)
 have e2 : decide ((c.toNat : Int) ≤ 122) = decide (c.toNat ≤ 122) := decide_eq_decide.2 (by omega)
 rw [e1, e2]; rfl
theorem low_range {c : UInt8} (h : lowB c = true) : 97 ≤ c.toNat ∧ c.toNat ≤ 122 := by
 simp only [lowB, Bool.and_eq_true, decide_eq_true_eq] at h; exact h
instance K_isLetter {c : UInt8} {H : AHeap} : PureCon ext prog 63 [.int .u8 (c.toNat : Int)] H 2 (.bool (lowB c)) := ⟨by
 refine con_of (show prog 63 = some c63 from rfl) rfl rfl fun m hn => ?_
 have e := low_int c
 repeat first | refine mI ?_ | refine mB ?_ | (refine Fo.pcall (v' := ?_) hn rfl (by simp only [↓nrmL, nrmZ, qe, ↓reduceIte, qz, qa, qn, e, List.map]; rfl) rfl ?hv fun _ _ => ?_; case hv => (simp only [e]; rfl)) | refine nl hKF ?_ | refine sq ?_ | refine rg fun KF hKF => ?_ | refine rt ?_ | dsimp only
 refine rz trivial ?_
 exact ⟨rfl, Ext0.ext⟩⟩
theorem wsub97 {c : Nat} (h : 97 ≤ c ∧ c ≤ 122) : IntKind.u8.wrap ((c : Int) - 97) = ((c - 97 : Nat) : Int) := by
 have : IntKind.u8.wrap ((c : Int) - 97) = ((c : Int) - 97) % 2 ^ 8 := by
  unfold IntKind.wrap
  simp [IntKind.signed, IntKind.bits]
 omega
instance K_Letter {c : UInt8} {H : AHeap} : PureCon ext prog 16 [.int .u8 (c.toNat : Int)] H 3 (.int .i64 (letS c : Int)) := ⟨by
 refine con_of (show prog 16 = some c16 from rfl) rfl rfl fun m hn => ?_
 cases h : lowB c
 ·cases h2 : c == 45
  ·have e : letS c = 0 := by unfold letS; rw [h, h2]; rfl
   have h3 : ((c.toNat : Int) == 45) = false := by
    rw [beq_eq_false_iff_ne] at h2 ⊢
    intro q; exact h2 (UInt8.toNat_inj.1 (by have : (45 : UInt8).toNat = 45 := rfl; omega))
   repeat first | refine mI ?_ | refine mB ?_ | refine bn rfl rfl rfl (by simp only [h, h3]; rfl) ?_ | (refine Fo.pcall (v' := ?_) hn rfl (by simp only [↓nrmL, nrmZ, qe, ↓reduceIte, qz, qa, qn, h, h3, List.map]; rfl) rfl ?hv fun _ _ => ?_; case hv => (simp only [h, h3]; rfl)) | refine nl hKF ?_ | refine sq ?_ | refine rg fun KF hKF => ?_ | refine cf rfl ?_ | refine sk ?_ | refine rt ?_ | refine Wp.block ?_ | dsimp only
   refine rz trivial ?_
   exact ⟨by rw [e]; rfl, Ext0.ext⟩
  ·have e : letS c = 27 := by unfold letS; rw [h, h2]; rfl
   have h3 : ((c.toNat : Int) == 45) = true := by
    have : c = 45 := by simpa using h2
    rw [this]; rfl
   repeat first | refine mI ?_ | refine mB ?_ | refine bn rfl rfl rfl (by simp only [h, h3]; rfl) ?_ | (refine Fo.pcall (v' := ?_) hn rfl (by simp only [↓nrmL, nrmZ, qe, ↓reduceIte, qz, qa, qn, h, h3, List.map]; rfl) rfl ?hv fun _ _ => ?_; case hv => (simp only [h, h3]; rfl)) | refine nl hKF ?_ | refine sq ?_ | refine rg fun KF hKF => ?_ | refine ct rfl ?_ | refine cf rfl ?_ | refine rt ?_ | refine Wp.block ?_ | dsimp only
   refine rz trivial ?_
   exact ⟨by rw [e]; rfl, Ext0.ext⟩
 ·have hr := low_range h
  have e : letS c = c.toNat - 96 := by unfold letS; rw [h]; rfl
  have w1 := wsub97 hr
  have w2 : IntKind.i64.wrap ((c.toNat - 97 : Nat) : Int) = ((c.toNat - 97 : Nat) : Int) := w64 (by omega)
  have w3 : IntKind.i64.wrap (((c.toNat - 97 : Nat) : Int) + 1) = ((c.toNat - 96 : Nat) : Int) := by rw [w64 (by omega)]; omega
  repeat first | refine mI ?_ | refine mB ?_ | refine bn rfl rfl rfl (by simp only [h, w1, w2, w3]; rfl) ?_ | (refine Fo.pcall (v' := ?_) hn rfl (by simp only [↓nrmL, nrmZ, qe, ↓reduceIte, qz, qa, qn, h, w1, w2, w3, List.map]; rfl) rfl ?hv fun _ _ => ?_; case hv => (simp only [h, w1, w2, w3]; rfl)) | refine Fo.now rfl rfl (by simp only [h, w1, w2, w3]; rfl) ?_ | refine nl hKF ?_ | refine sq ?_ | refine rg fun KF hKF => ?_ | refine ct rfl ?_ | refine rt ?_ | refine Wp.block ?_ | dsimp only
  refine rz trivial ?_
  exact ⟨by rw [e]; rfl, Ext0.ext⟩⟩
instance K_lower {c : UInt8} {H : AHeap} : PureCon ext prog 64 [.int .u8 (c.toNat : Int)] H 1 (.bool (lowB c)) := ⟨by
 refine con_of (show prog 64 = some c64 from rfl) rfl rfl fun m hn => ?_
 have e1 : decide ((c.toNat : Int) ≥ 97) = decide (97 ≤ c.toNat) := decide_eq_decide.2 (by omega)
 have e2 : decide ((c.toNat : Int) ≤ 122) = decide (c.toNat ≤ 122) := decide_eq_decide.2 (by omega)
 cases h1 : decide (97 ≤ c.toNat)
 ·have e : lowB c = false := by unfold lowB; rw [h1]; rfl
  repeat first | refine ox ?_ | refine mI ?_ | refine mB ?_ | refine bn rfl rfl rfl (by simp only [e1, h1]; rfl) ?_ | refine fB ?_ | refine nl hKF ?_ | refine sq ?_ | refine rg fun KF hKF => ?_ | refine rt ?_ | dsimp only
  refine rz trivial ?_
  exact ⟨by rw [e]; rfl, Ext0.ext⟩
 ·have e : lowB c = decide (c.toNat ≤ 122) := by unfold lowB; rw [h1]; rfl
  repeat first | refine oy ?_ | refine mI ?_ | refine mB ?_ | refine bn rfl rfl rfl (by simp only [e1, h1, e2]; rfl) ?_ | refine tB ?_ | refine nl hKF ?_ | refine sq ?_ | refine rg fun KF hKF => ?_ | refine rt ?_ | dsimp only
  refine rz trivial ?_
  exact ⟨by rw [e]; rfl, Ext0.ext⟩⟩
instance K_refLetter {c : UInt8} {H : AHeap} : PureCon ext prog 17 [.int .u8 (c.toNat : Int)] H 2 (.int .i64 (letS c : Int)) := ⟨by
 refine con_of (show prog 17 = some c17 from rfl) rfl rfl fun m hn => ?_
 cases h : lowB c
 ·cases h2 : c == 45
  ·have e : letS c = 0 := by unfold letS; rw [h, h2]; rfl
   have h3 : ((c.toNat : Int) == 45) = false := by
    rw [beq_eq_false_iff_ne] at h2 ⊢
    intro q; exact h2 (UInt8.toNat_inj.1 (by have : (45 : UInt8).toNat = 45 := rfl; omega))
   repeat first | refine mI ?_ | refine bn rfl rfl rfl (by simp only [h, h3]; rfl) ?_ | (refine Fo.pcall (v' := ?_) hn rfl (by simp only [↓nrmL, nrmZ, qe, ↓reduceIte, qz, qa, qn, h, h3, List.map]; rfl) rfl ?hv fun _ _ => ?_; case hv => (simp only [h, h3]; rfl)) | refine nl hKF ?_ | refine sq ?_ | refine rg fun KF hKF => ?_ | refine cf rfl ?_ | refine sk ?_ | refine rt ?_ | dsimp only
   refine rz trivial ?_
   exact ⟨by rw [e]; rfl, Ext0.ext⟩
  ·have e : letS c = 27 := by unfold letS; rw [h, h2]; rfl
   have h3 : ((c.toNat : Int) == 45) = true := by
    have : c = 45 := by simpa using h2
    rw [this]; rfl
   repeat first | refine mI ?_ | refine bn rfl rfl rfl (by simp only [h, h3]; rfl) ?_ | (refine Fo.pcall (v' := ?_) hn rfl (by simp only [↓nrmL, nrmZ, qe, ↓reduceIte, qz, qa, qn, h, h3, List.map]; rfl) rfl ?hv fun _ _ => ?_; case hv => (simp only [h, h3]; rfl)) | refine nl hKF ?_ | refine sq ?_ | refine rg fun KF hKF => ?_ | refine ct rfl ?_ | refine cf rfl ?_ | refine sk ?_ | refine rt ?_ | dsimp only
   refine rz trivial ?_
   exact ⟨by rw [e]; rfl, Ext0.ext⟩
 ·have hr := low_range h
  have e : letS c = c.toNat - 96 := by unfold letS; rw [h]; rfl
  have w2 : IntKind.i64.wrap (c.toNat : Int) = (c.toNat : Int) := w64 (by omega)
  have w3 : IntKind.i64.wrap ((c.toNat : Int) - 96) = ((c.toNat - 96 : Nat) : Int) := by rw [w64 (by omega)]; omega
  repeat first | refine mI ?_ | refine bn rfl rfl rfl (by simp only [h, w2, w3]; rfl) ?_ | (refine Fo.pcall (v' := ?_) hn rfl (by simp only [↓nrmL, nrmZ, qe, ↓reduceIte, qz, qa, qn, h, w2, w3, List.map]; rfl) rfl ?hv fun _ _ => ?_; case hv => (simp only [h, w2, w3]; rfl)) | refine Fo.now rfl rfl (by simp only [h, w2, w3]; rfl) ?_ | refine nl hKF ?_ | refine sq ?_ | refine rg fun KF hKF => ?_ | refine ct rfl ?_ | refine rt ?_ | dsimp only
  refine rz trivial ?_
  exact ⟨by rw [e]; rfl, Ext0.ext⟩⟩
def firstB (g : UInt8 → Bool) (l : Bs) : Int := match l.findIdx? g with | some i => (i : Int) | none => -1
theorem firstB_hit {g : UInt8 → Bool} {l : Bs} {k : Nat} (hk : k < l.length) (h1 : g l[k] = true) (h2 : ∀ j (hj : j < k), g (l[j]'(by omega)) = false) : firstB g l = (k : Int) := by
 have : l.findIdx? g = some k := by
  rw [List.findIdx?_eq_some_iff_getElem]
  exact ⟨hk, h1, fun j hj => by rw [h2 j hj]; decide⟩
 rw [firstB, this]
theorem firstB_none {g : UInt8 → Bool} {l : Bs} (h2 : ∀ j (hj : j < l.length), g l[j] = false) : firstB g l = -1 := by
 have : l.findIdx? g = none := by
  rw [List.findIdx?_eq_none_iff]
  intro x hx
  obtain ⟨j, hj, rfl⟩ := List.mem_iff_getElem.1 hx
  rw [h2 j hj]
 rw [firstB, this]
theorem firstB_any (g : UInt8 → Bool) (l : Bs) : decide (firstB g l ≥ 0) = l.any g := by
 unfold firstB
 cases h : l.findIdx? g with
 | none =>
  rw [List.findIdx?_eq_none_iff] at h
  have : l.any g = false := by rw [List.any_eq_false]; intro x hx; rw [h x hx]; decide
  rw [this]; rfl
 | some i =>
  rw [List.findIdx?_eq_some_iff_getElem] at h
  obtain ⟨hi, h1, _⟩ := h
  have : l.any g = true := List.any_eq_true.2 ⟨_, List.getElem_mem hi, h1⟩
  rw [this]; exact decide_eq_true (show ((i : Nat) : Int) ≥ 0 by omega)
theorem K_IndexB {l : Bs} {p : AVal} {f d : Nat} {caps : List AVal} {g : UInt8 → Bool} {H : AHeap} [hp : BytesI H p l] (hl : l.length ≤ 2 ^ 40) (hF : ∀ (b : UInt8) (H1 : AHeap), Ext H H1 → PureCon ext prog f (.int .u8 (b.toNat : Int) :: caps) H1 d (.bool (g b))) : Con ext prog (d + 1) 142 [p, .func (.func f) [] caps] H fun v H' => v = .int .i64 (firstB g l) ∧ Ext H H' := by
 refine con_of (show prog 142 = some c142 from rfl) rfl rfl fun n hn => ?_
 haveI := hp.one
 repeat first | refine mI ?_ | refine mv ?_ | refine ln (by simp only [↓nrmL, nrmK, qe, ↓reduceIte]; rfl) ?_ | refine nl hKF ?_ | refine sq ?_ | refine rg fun KF hKF => ?_ | refine Wp.block ?_ | dsimp only
 refine Wp.loopS [4, 5, 8, 9, 10, 11, 12, 13, 14, 15, 16, 17, 18] (fun k : Nat => [(8, .int .i64 (k : Int))]) (fun H3 k H2 => k ≤ l.length ∧ (∀ j (hj : j < l.length), j < k → g l[j] = false) ∧ Ext0 H3 H2) (fun k => l.length - k) 0 rfl (fun _ => rfl) ⟨rfl, trivial⟩ ⟨Nat.zero_le _, fun j _ h => absurd h (Nat.not_lt_zero _), inferInstance⟩ (by unfold fuel0 at hn; omega) ?_
 rintro k g1 H2 ⟨hk, hb, ⟨hx⟩⟩
 haveI : ExtI _ H2 := ⟨hx⟩
 simp only [↓nrmL, nrmZ, qe, ↓reduceIte, qz, qa, qn]
 cases hc : decide ((k : Int) < (l.length : Int))
 ·have hkl : k = l.length := by have := of_decide_eq_false hc; omega
  subst hkl
  rw [firstB_none (fun j hj => hb j hj hj)]
  repeat first | refine mI ?_ | refine bn rfl rfl rfl (by simp only [hc]; rfl) ?_ | refine nl hKF ?_ | refine sq ?_ | refine rg fun KF hKF => ?_ | refine cf rfl ?_ | refine rt ?_ | refine xi ?_ | dsimp only
  refine rz trivial ?_
  exact ⟨rfl, Ext0.ext⟩
 have hkl : k < l.length := by have := of_decide_eq_true hc; omega
 have hwk := wa1 (a := k) (by omega)
 repeat first | refine mI ?_ | refine mF ?_ | refine mv ?_ | refine bn rfl rfl rfl (by simp only [hc]; rfl) ?_ | (refine Fo.idx (by simp only [↓nrmL, nrmK, qe, ↓reduceIte]; rfl) rfl ?_ (by simp only [↓nrmL, nrmZ, qe, ↓reduceIte, qz, qa, qn, hc]; rfl) ?_; (focus omega)) | (refine Fo.ldB rfl ?_ rfl ?_; (focus omega)) | refine nl hKF ?_ | refine sq ?_ | refine rg fun KF hKF => ?_ | refine ct rfl ?_ | refine sk ?_ | refine Wp.block ?_
 haveI h1 := hF l[k] H2 Ext0.ext
 refine WpO.do (WpX.pcallC (args := .int .u8 (l[k].toNat : Int) :: caps) hn rfl (by simp only [↓nrmL, nrmZ, qe, ↓reduceIte, qz, qa, qn, List.map] <;> rfl) (Nat.ble_self_eq_true _) fun H3 hx3 => ?_)
 haveI := hx3
 cases hg : g l[k]
 ·skip
  refine nl hKF ?_
  refine cf rfl ?_
  refine sk ?_
  refine rg fun KF hKF => ?_
  refine b0 ?_
  refine mI ?_
  refine nl hKF ?_
  dsimp only
  refine ⟨k + 1, by omega, ⟨by simp only [↓nrmL, nrmZ, qe, ↓reduceIte, qz, qa, qn]; rw [hwk], trivial⟩, hkl, fun j hj hjk => ?_, inferInstance⟩
  by_cases e : j = k
  ·subst e; exact hg
  ·exact hb j hj (by omega)
 ·have ef := firstB_hit hkl hg (fun j hj => hb j (by omega) hj)
  repeat first | refine mI ?_ | refine nl hKF ?_ | refine sq ?_ | refine rg fun KF hKF => ?_ | refine ct rfl ?_ | refine rt ?_ | dsimp only
  refine rz trivial ?_
  exact ⟨by rw [ef]; rfl, Ext0.ext⟩
theorem K_ContainsB {l : Bs} {p : AVal} {f d : Nat} {caps : List AVal} {g : UInt8 → Bool} {H : AHeap} [hp : BytesI H p l] (hl : l.length ≤ 2 ^ 40) (hF : ∀ (b : UInt8) (H1 : AHeap), Ext H H1 → PureCon ext prog f (.int .u8 (b.toNat : Int) :: caps) H1 d (.bool (g b))) : Con ext prog (d + 2) 119 [p, .func (.func f) [] caps] H fun v H' => v = .bool (l.any g) ∧ Ext H H' := by
 refine con_of (show prog 119 = some c119 from rfl) rfl rfl fun n hn => ?_
 haveI := hp.one
 repeat first | refine mB ?_ | refine mF ?_ | refine mv ?_ | refine nl hKF ?_ | refine sq ?_ | refine rg fun KF hKF => ?_
 refine WpO.do (WpX.con (K_IndexB (l := l) (p := p) hl hF) hn rfl (by simp only [↓nrmL, nrmZ, qe, ↓reduceIte, qz, qa, qn, List.map] <;> rfl) fun v H1 h5 => ?_)
 obtain ⟨rfl, hx⟩ := h5
 haveI : ExtI _ H1 := ⟨hx⟩
 have e := firstB_any g l
 refine bn rfl rfl rfl (by simp only [e]; rfl) ?_
 refine mB ?_
 refine nl hKF ?_
 refine rt ?_
 dsimp only
 refine rz trivial ?_
 exact ⟨rfl, Ext0.ext⟩
theorem K_allOfB {l : Bs} {p : AVal} {f d : Nat} {g : UInt8 → Bool} {H : AHeap} [hp : BytesI H p l] (hl : l.length ≤ 2 ^ 40) (hF : ∀ (b : UInt8) (H1 : AHeap), PureCon ext prog f [.int .u8 (b.toNat : Int)] H1 d (.bool (g b))) : Con ext prog (d + 4) 72 [p, .func (.func f) [] []] H fun v H' => v = .bool (l.all g) ∧ Ext H H' := by
 refine con_of (show prog 72 = some c72 from rfl) rfl rfl fun n hn => ?_
 haveI := hp.one
 repeat first | refine mB ?_ | refine mv ?_ | refine Fo.box1 (rfl : _ = AVal.func _ _ _) ?_ | refine Fo.now rfl rfl rfl ?_ | refine nl hKF ?_ | refine sq ?_ | refine rg fun KF hKF => ?_
 refine WpO.do (WpX.con (K_ContainsB (d := d + 1) (l := l) (p := p) (g := fun b => !(g b)) hl ?_) hn rfl (by simp only [↓nrmL, nrmZ, qe, ↓reduceIte, qz, qa, qn, List.map] <;> rfl) fun v H1 h5 => ?_)
 ·intro b H1 hx
  haveI : ExtI _ H1 := ⟨hx⟩
  refine ⟨?_⟩
  refine con_of (show prog 120 = some c120 from rfl) rfl rfl fun m hm => ?_
  repeat first | refine mI ?_ | refine mB ?_ | refine Fo.ld rfl rfl ?_ | refine nl hKF ?_ | refine sq ?_ | refine rg fun KF hKF => ?_
  haveI h1 := hF b H1
  refine WpO.do (WpX.pcallC (args := [.int .u8 (b.toNat : Int)]) hm rfl (by simp only [↓nrmL, nrmZ, qe, ↓reduceIte, qz, qa, qn, List.map] <;> rfl) (Nat.ble_self_eq_true _) fun H3 hx3 => ?_)
  haveI := hx3
  refine Fo.now rfl rfl rfl ?_
  refine mB ?_
  refine nl hKF ?_
  refine rt ?_
  dsimp only
  refine rz trivial ?_
  exact ⟨rfl, Ext0.ext⟩
 obtain ⟨rfl, hx⟩ := h5
 haveI : ExtI _ H1 := ⟨hx⟩
 have e : (!(l.any fun b => !(g b))) = l.all g := by rw [List.all_eq_not_any_not]
 refine Fo.now rfl rfl (by simp only [e]; rfl) ?_
 refine mB ?_
 refine nl hKF ?_
 refine rt ?_
 dsimp only
 refine rz trivial ?_
 exact ⟨rfl, Ext0.ext⟩
end Go.Am

namespace Go.Am
open Go
open Nat renaming reduceEqDiff → qe, reduceAdd → qz
open Int renaming reduceBEq → qa, reduceBNe → qn
attribute [local irreducible] Wp WpO WpX WpE
instance K_isSign {l : Opts} {p : AVal} {H : AHeap} [hp : OptsI H p l] [hl : LeT l.length 1000000] : PureCon ext prog 117 [p] H 2 (.bool (signB l)) := ⟨by
 refine con_of (show prog 117 = some c117 from rfl) rfl rfl fun n hn => ?_
 haveI := hp.one
 have hll := hl.le
 repeat first | refine mI ?_ | refine mB ?_ | refine mv ?_ | refine ln (by simp only [↓nrmL, nrmK, qe, ↓reduceIte]; rfl) ?_ | refine nw ?_ | refine nl hKF ?_ | refine sq ?_ | refine rg fun KF hKF => ?_ | refine Wp.block ?_ | dsimp only
 obtain ⟨r, hr⟩ : ∃ r, r = H.n := ⟨_, rfl⟩
 haveI i1 : BoolsI (H.push (.row f28 true (2 * 154))) (rowN H.n 28) (seenL l 0) := by rw [seenL_zero]; exact newN (cs := f28) rfl
 haveI i2 : WrS (H.push (.row f28 true (2 * 154))) (rowN H.n 28) := newNw
 haveI i3 : FreshS H (rowN H.n 28) := newNf
 refine Wp.loopS [2, 5, 8, 9, 10, 11, 12, 13, 14, 15, 16, 17, 18, 19, 20, 21, 22, 23, 24, 25, 26, 27, 28, 29, 30, 31] (fun k : Nat => [(8, .int .i64 (k : Int))]) (fun H3 k H2 => k ≤ l.length ∧ signTo l k = true ∧ BoolsI H2 (rowN H.n 28) (seenL l k) ∧ WrS H2 (rowN H.n 28) ∧ ExtP0 H3 H2 (rowN H.n 28)) (fun k => l.length - k) 0 rfl (fun _ => rfl) ⟨rfl, trivial⟩ ⟨Nat.zero_le _, rfl, i1, i2, inferInstance⟩ (by unfold fuel0 at hn; omega) ?_
 rintro k g H2 ⟨hk, hs, hb2, hw2, ⟨hx2⟩⟩
 simp only [↓nrmL, nrmZ, qe, ↓reduceIte, qz, qa, qn]
 cases hc : decide ((k : Int) < (l.length : Int))
 ·have hkl : k = l.length := by have := of_decide_eq_false hc; omega
  subst hkl
  have e : signB l = true := hs
  repeat first | refine mB ?_ | refine bn rfl rfl rfl (by simp only [hc]; rfl) ?_ | refine nl hKF ?_ | refine sq ?_ | refine rg fun KF hKF => ?_ | refine cf rfl ?_ | refine rt ?_ | refine xi ?_ | dsimp only
  refine rz trivial ?_
  exact ⟨by rw [e]; rfl, Ext0.ext⟩
 have hkl : k < l.length := by have := of_decide_eq_true hc; omega
 have hwk := wa1 (a := k) (by omega)
 have hg := getO_at hkl
 cases m1 : (decide ((0 : Int) ≤ l[k].2) && decide (l[k].2 ≤ 1000000))
 ·have e : signB l = false := signTo_bad (k := k) (by simp only [okO, inO, hg, m1, Bool.false_and]) hkl
  repeat first | refine ox ?_ | refine mB ?_ | refine fd ?_ | refine Fo.ld rfl rfl ?_ | refine bn rfl rfl rfl (by simp only [hc, m1]; rfl) ?_ | refine tB ?_ | (refine Fo.pcall (v' := ?_) hn rfl (by simp only [↓nrmL, nrmZ, qe, ↓reduceIte, qz, qa, qn, hc, m1, List.map]; rfl) rfl ?hv fun _ _ => ?_; case hv => (simp only [hc, m1]; rfl)) | refine nw ?_ | (refine Fo.idx (by simp only [↓nrmL, nrmK, qe, ↓reduceIte]; rfl) rfl ?_ (by simp only [↓nrmL, nrmZ, qe, ↓reduceIte, qz, qa, qn, hc, m1]; rfl) ?_; (focus omega)) | (refine Fo.ldO rfl ?_ ?_; (focus omega)) | refine Fo.now rfl rfl (by simp only [↓nrmL, nrmZ, qe, ↓reduceIte, qz, qa, qn, hc, m1]; rfl) ?_ | refine so rfl (rfl : _ = AVal.agg _) rfl rfl rfl (by simp only [↓nrmL, nrmZ, qe, ↓reduceIte, qz, qa, qn, hc, m1]; rfl) ?_ | refine nl hKF ?_ | refine sq ?_ | refine rg fun KF hKF => ?_ | refine ct rfl ?_ | refine sk ?_ | refine rt ?_ | refine Wp.block ?_ | dsimp only
  refine rz trivial ?_
  exact ⟨by rw [e]; rfl, Ext0.ext⟩
 cases m2 : (decide ((0 : Int) ≤ l[k].1) && decide (l[k].1 ≤ 27))
 ·have e : signB l = false := signTo_bad (k := k) (by simp only [okO, inO, hg, m1, m2, Bool.false_and, Bool.and_false]) hkl
  repeat first | refine oy ?_ | refine ox ?_ | refine mB ?_ | refine fd ?_ | refine Fo.ld rfl rfl ?_ | refine bn rfl rfl rfl (by simp only [hc, m1, m2]; rfl) ?_ | refine tB ?_ | refine fB ?_ | (refine Fo.pcall (v' := ?_) hn rfl (by simp only [↓nrmL, nrmZ, qe, ↓reduceIte, qz, qa, qn, hc, m1, m2, List.map]; rfl) rfl ?hv fun _ _ => ?_; case hv => (simp only [hc, m1, m2]; rfl)) | refine nw ?_ | (refine Fo.idx (by simp only [↓nrmL, nrmK, qe, ↓reduceIte]; rfl) rfl ?_ (by simp only [↓nrmL, nrmZ, qe, ↓reduceIte, qz, qa, qn, hc, m1, m2]; rfl) ?_; (focus omega)) | (refine Fo.ldO rfl ?_ ?_; (focus omega)) | refine Fo.now rfl rfl (by simp only [↓nrmL, nrmZ, qe, ↓reduceIte, qz, qa, qn, hc, m1, m2]; rfl) ?_ | refine so rfl (rfl : _ = AVal.agg _) rfl rfl rfl (by simp only [↓nrmL, nrmZ, qe, ↓reduceIte, qz, qa, qn, hc, m1, m2]; rfl) ?_ | refine nl hKF ?_ | refine sq ?_ | refine rg fun KF hKF => ?_ | refine ct rfl ?_ | refine sk ?_ | refine rt ?_ | refine Wp.block ?_ | dsimp only
  refine rz trivial ?_
  exact ⟨by rw [e]; rfl, Ext0.ext⟩
 have hin : inO l[k] = true := by simp only [inO, m1, m2, Bool.and_self]
 have hv0 : 0 ≤ l[k].1 ∧ l[k].1 ≤ 27 := by simpa only [Bool.and_eq_true, decide_eq_true_eq] using m2
 obtain ⟨v, hv⟩ : ∃ v : Nat, l[k].1 = (v : Int) := ⟨l[k].1.toNat, by omega⟩
 have hvl : v < 28 := by omega
 have hsl := seenL_length l k
 have hgs : (seenL l k)[v]'(by omega) = seenB l k v := seenL_get (by omega)
 rw [hv] at m2
 cases hsn : seenB l k (v : Int)
 ·have e : signTo l (k + 1) = true := by rw [signTo_succ, hs, okO, hg, hin, hv, hsn]; rfl
  repeat first | refine oy ?_ | refine mB ?_ | refine fd ?_ | refine Fo.ld rfl rfl ?_ | refine bn rfl rfl rfl (by simp only [hc, m1, hv, m2]; rfl) ?_ | refine fB ?_ | (refine Fo.pcall (v' := ?_) hn rfl (by simp only [↓nrmL, nrmZ, qe, ↓reduceIte, qz, qa, qn, hc, m1, hv, m2, List.map]; rfl) rfl ?hv fun _ _ => ?_; case hv => (simp only [hc, m1, hv, m2]; rfl)) | refine nw ?_ | (refine Fo.idx (by simp only [↓nrmL, nrmK, qe, ↓reduceIte]; rfl) rfl ?_ (by simp only [↓nrmL, nrmZ, qe, ↓reduceIte, qz, qa, qn, hc, m1, hv, m2]; rfl) ?_; (focus omega)) | (refine Fo.ldO rfl ?_ ?_; (focus omega)) | refine Fo.now rfl rfl (by simp only [↓nrmL, nrmZ, qe, ↓reduceIte, qz, qa, qn, hc, m1, hv, m2]; rfl) ?_ | refine so rfl (rfl : _ = AVal.agg _) rfl rfl rfl (by simp only [hc, m1, hv, m2]; rfl) ?_ | refine nl hKF ?_ | refine sq ?_ | refine rg fun KF hKF => ?_ | refine ct rfl ?_ | refine sk ?_ | refine Wp.block ?_
  refine Fo.idxA (n := 28) (r := H.n) (j := v) rfl rfl hvl ?_
  refine oy ?_
  refine Fo.ldP (p := rowN H.n 28) (j := v) rfl (cellsT_get (by omega)) ?_
  simp only [hgs, hsn]
  refine fB ?_
  refine nl hKF ?_
  refine cf rfl ?_
  refine sk ?_
  refine rg fun KF hKF => ?_
  refine fd ?_
  refine Fo.ld rfl rfl ?_
  refine Fo.idxA (n := 28) (r := H.n) (j := v) rfl rfl hvl ?_
  skip
  refine WpO.do' (WpX.stP (p := rowN H.n 28) (j := v) (v := .bool true) rfl rfl rfl rfl (by rw [cellsT_length]; omega) fun H7 hb7 hw7 hx7 => ?_)
  rw [cellsT_set, seenL_set hkl hv hvl] at hb7
  haveI hb8 : BoolsI H7 (rowN H.n 28) (seenL l (k + 1)) := by unfold BoolsI; rw [seenL_length]; rw [seenL_length] at hb7; exact hb7
  refine nl hKF ?_
  refine rg fun KF hKF => ?_
  refine b0 ?_
  refine mI ?_
  refine nl hKF ?_
  dsimp only
  refine ⟨k + 1, by omega, ⟨by simp only [↓nrmL, nrmZ, qe, ↓reduceIte, qz, qa, qn]; rw [hwk], trivial⟩, hkl, e, inferInstance, inferInstance, inferInstance⟩
 ·have e : signB l = false := signTo_bad (k := k) (by simp only [okO, hg, hv, hsn, Bool.not_true, Bool.and_false]) hkl
  repeat first | refine oy ?_ | refine mB ?_ | refine fd ?_ | refine Fo.ld rfl rfl ?_ | refine bn rfl rfl rfl (by simp only [hc, m1, hv, m2]; rfl) ?_ | refine fB ?_ | (refine Fo.pcall (v' := ?_) hn rfl (by simp only [↓nrmL, nrmZ, qe, ↓reduceIte, qz, qa, qn, hc, m1, hv, m2, List.map]; rfl) rfl ?hv fun _ _ => ?_; case hv => (simp only [hc, m1, hv, m2]; rfl)) | refine nw ?_ | (refine Fo.idx (by simp only [↓nrmL, nrmK, qe, ↓reduceIte]; rfl) rfl ?_ (by simp only [↓nrmL, nrmZ, qe, ↓reduceIte, qz, qa, qn, hc, m1, hv, m2]; rfl) ?_; (focus omega)) | (refine Fo.ldO rfl ?_ ?_; (focus omega)) | refine Fo.now rfl rfl (by simp only [↓nrmL, nrmZ, qe, ↓reduceIte, qz, qa, qn, hc, m1, hv, m2]; rfl) ?_ | refine so rfl (rfl : _ = AVal.agg _) rfl rfl rfl (by simp only [hc, m1, hv, m2]; rfl) ?_ | refine nl hKF ?_ | refine sq ?_ | refine rg fun KF hKF => ?_ | refine ct rfl ?_ | refine sk ?_ | refine Wp.block ?_
  refine Fo.idxA (n := 28) (r := H.n) (j := v) rfl rfl hvl ?_
  refine oy ?_
  refine Fo.ldP (p := rowN H.n 28) (j := v) rfl (cellsT_get (by omega)) ?_
  simp only [hgs, hsn]
  refine fB ?_
  refine nl hKF ?_
  refine ct rfl ?_
  refine sq ?_
  refine rg fun KF hKF => ?_
  refine mB ?_
  refine nl hKF ?_
  refine rt ?_
  dsimp only
  refine rz trivial ?_
  exact ⟨by rw [e]; rfl, Ext0.ext⟩⟩
theorem K_costs {l : Opts} {p : AVal} {H : AHeap} [hp : OptsI H p l] [hl : LeT l.length 1000000] (hs : signB l = true) : Con ext prog 1 118 [p] H fun v H' => v = .agg (cellsI (costL l)) ∧ Ext H H' := by
 refine con_of (show prog 118 = some c118 from rfl) rfl rfl fun n hn => ?_
 haveI := hp.one
 have hll := hl.le
 repeat first | refine mI ?_ | refine nw ?_ | refine nl hKF ?_ | refine sq ?_ | refine rg fun KF hKF => ?_ | refine Wp.block ?_ | dsimp only
 haveI j1 : SliceAt (H.push (.row z28 true (2 * 119))) (rowN H.n 28) 1 28 z28 := newN rfl
 haveI j2 : WrS (H.push (.row z28 true (2 * 119))) (rowN H.n 28) := newNw
 haveI j3 : FreshS H (rowN H.n 28) := newNf
 haveI i1 : IntsI ((H.push (.row z28 true (2 * 119))).push (.row z28 true (2 * 119))) (rowN (H.n + 1) 28) (nevL 0) := by rw [nevL_zero]; exact newN (H := H.push (.row z28 true (2 * 119))) (cs := z28) rfl
 haveI i2 : WrS ((H.push (.row z28 true (2 * 119))).push (.row z28 true (2 * 119))) (rowN (H.n + 1) 28) := newNw (H := H.push (.row z28 true (2 * 119)))
 haveI i3 : FreshS (H.push (.row z28 true (2 * 119))) (rowN (H.n + 1) 28) := newNf (H := H.push (.row z28 true (2 * 119)))
 refine Wp.loopS [4, 7, 8, 9, 10, 11, 12] (fun k : Nat => [(7, .int .i64 (k : Int))]) (fun H3 k H2 => k ≤ 28 ∧ IntsI H2 (rowN (H.n + 1) 28) (nevL k) ∧ WrS H2 (rowN (H.n + 1) 28) ∧ ExtP0 H3 H2 (rowN (H.n + 1) 28)) (fun k => 28 - k) 0 rfl (fun _ => rfl) ⟨rfl, trivial⟩ ⟨Nat.zero_le _, i1, i2, inferInstance⟩ (by unfold fuel0 at hn; omega) ?_
 rintro k g H2 ⟨hk, hb2, hw2, ⟨hx2⟩⟩
 simp only [↓nrmL, nrmZ, qe, ↓reduceIte, qz, qa, qn]
 have hnl := nevL_length k
 cases hc : decide ((k : Int) < 28)
 rotate_left
 ·have hkl : k < 28 := by have := of_decide_eq_true hc; omega
  have hwk := wa1 (a := k) (by omega)
  repeat first | refine mI ?_ | refine bn rfl rfl rfl (by simp only [hc]; rfl) ?_ | refine nl hKF ?_ | refine sq ?_ | refine rg fun KF hKF => ?_ | refine ct rfl ?_ | refine sk ?_ | refine Wp.block ?_
  refine Fo.idxA (n := 28) (r := H.n + 1) (j := k) rfl rfl hkl ?_
  skip
  refine WpO.do' (WpX.stI (p := rowN (H.n + 1) 28) (j := k) (l := nevL k) (b := never) rfl rfl (by omega) fun H7 hb7 hw7 hx7 => ?_)
  rw [nevL_set] at hb7
  refine nl hKF ?_
  refine rg fun KF hKF => ?_
  refine b0 ?_
  refine mI ?_
  refine nl hKF ?_
  dsimp only
  refine ⟨k + 1, by omega, ⟨by simp only [↓nrmL, nrmZ, qe, ↓reduceIte, qz, qa, qn]; rw [hwk], trivial⟩, hkl, inferInstance, inferInstance, inferInstance⟩
 have hkl : k = 28 := by have := of_decide_eq_false hc; omega
 subst hkl
 rw [costK_zero l] at hb2
 repeat first | refine mI ?_ | refine mv ?_ | refine bn rfl rfl rfl (by simp only [hc]; rfl) ?_ | refine ln (by simp only [↓nrmL, nrmK, qe, ↓reduceIte]; rfl) ?_ | refine nl hKF ?_ | refine sq ?_ | refine rg fun KF hKF => ?_ | refine cf rfl ?_ | refine Wp.block ?_ | refine xi ?_ | dsimp only
 refine Wp.loopS [6, 15, 16, 17, 18, 19, 20, 21, 22, 23, 24] (fun k : Nat => [(15, .int .i64 (k : Int))]) (fun H3 k H4 => k ≤ l.length ∧ IntsI H4 (rowN (H.n + 1) 28) (costK l k) ∧ WrS H4 (rowN (H.n + 1) 28) ∧ ExtP0 H3 H4 (rowN (H.n + 1) 28)) (fun k => l.length - k) 0 rfl (fun _ => rfl) ⟨rfl, trivial⟩ ⟨Nat.zero_le _, hb2, hw2, inferInstance⟩ (by unfold fuel0 at hn; omega) ?_
 rintro k g2 H4 ⟨hk2, hb4, hw4, ⟨hx4⟩⟩
 simp only [↓nrmL, nrmZ, qe, ↓reduceIte, qz, qa, qn]
 have hck := costK_length l k
 cases hc2 : decide ((k : Int) < (l.length : Int))
 rotate_left
 ·have hkl : k < l.length := by have := of_decide_eq_true hc2; omega
  have hwk := wa1 (a := k) (by omega)
  have hok := signTo_ok hs hkl
  rw [okO, getO_at hkl, Bool.and_eq_true] at hok
  have hin := hok.1
  simp only [inO, Bool.and_eq_true, decide_eq_true_eq] at hin
  obtain ⟨v, hv⟩ : ∃ v : Nat, l[k].1 = (v : Int) := ⟨l[k].1.toNat, by omega⟩
  have hvl : v < 28 := by omega
  repeat first | refine fd ?_ | refine Fo.ld rfl rfl ?_ | refine bn rfl rfl rfl (by simp only [hc2, hv]; rfl) ?_ | refine nw ?_ | (refine Fo.idx (by simp only [↓nrmL, nrmK, qe, ↓reduceIte]; rfl) rfl ?_ (by simp only [↓nrmL, nrmZ, qe, ↓reduceIte, qz, qa, qn, hc2, hv]; rfl) ?_; (focus omega)) | (refine Fo.ldO rfl ?_ ?_; (focus omega)) | refine so rfl (rfl : _ = AVal.agg _) rfl rfl rfl (by simp only [hc2, hv]; rfl) ?_ | refine nl hKF ?_ | refine sq ?_ | refine rg fun KF hKF => ?_ | refine ct rfl ?_ | refine sk ?_ | refine Wp.block ?_
  refine Fo.idxA (n := 28) (r := H.n + 1) (j := v) rfl rfl hvl ?_
  skip
  refine WpO.do' (WpX.stI (p := rowN (H.n + 1) 28) (j := v) (l := costK l k) (b := l[k].2) rfl rfl (by omega) fun H7 hb7 hw7 hx7 => ?_)
  rw [costK_set hkl hv hvl] at hb7
  refine nl hKF ?_
  refine rg fun KF hKF => ?_
  refine b0 ?_
  refine mI ?_
  refine nl hKF ?_
  dsimp only
  refine ⟨k + 1, by omega, ⟨by simp only [↓nrmL, nrmZ, qe, ↓reduceIte, qz, qa, qn]; rw [hwk], trivial⟩, hkl, inferInstance, inferInstance, inferInstance⟩
 have hkl : k = l.length := by have := of_decide_eq_false hc2; omega
 subst hkl
 rw [costK_all] at hb4
 repeat first | refine bn rfl rfl rfl (by simp only [hc2]; rfl) ?_ | refine nl hKF ?_ | refine sq ?_ | refine rg fun KF hKF => ?_ | refine cf rfl ?_ | refine xi ?_
 refine Fo.now rfl (exec_ldA (r := H.n + 1) (n := 28) rfl (by decide) (s := by have := hb4; unfold IntsI at this; rwa [costL_length] at this)) rfl ?_
 refine WpO.do' (WpX.stPN (p := rowN H.n 28) (j := 0) (m := 28) (v := .agg (cellsI (costL l))) (vs := cellsI (costL l)) rfl rfl rfl (by rw [cellsI_length, costL_length]) (by decide) (allOne_ints _) (by decide) fun H8 hb8 hw8 hx8 => ?_)
 rw [setAt_whole (by rw [cellsI_length, costL_length]; rfl)] at hb8
 refine nl hKF ?_
 refine rt ?_
 dsimp only
 refine ⟨trivial, _, getAllA (n := 28) rfl (by decide) rfl, rfl, Ext0.ext⟩
end Go.Am

namespace Go.Am
open Go
open Nat renaming reduceEqDiff → qe, reduceAdd → qz
open Int renaming reduceBEq → qa, reduceBNe → qn
attribute [local irreducible] Wp WpO WpX WpE
class SlimO (ls : List Opts) : Prop where
 len : ls.length ≤ 100000000000
 it : ∀ (i : Nat) (h : i < ls.length), ls[i].length ≤ 1000000
theorem K_newSheet {ls : List Opts} {p : AVal} {H : AHeap} [hp : LineI H p ls] [hsl : SlimO ls] : Con ext prog 3 71 [p] H fun v H' => Ext H H' ∧ ((badLine ls ≠ 0 ∧ v = .tuple [.agg [.nslice, .nslice], .int .i64 (badLine ls)]) ∨ (badLine ls = 0 ∧ ls.length ≤ 24 ∧ ls.all signB = true ∧ ∃ ps pb, v = .tuple [.agg [ps, pb], .int .i64 0] ∧ SheetI H' ps pb ls)) := by
 refine con_of (show prog 71 = some c71 from rfl) rfl rfl fun n hn => ?_
 obtain ⟨qs, hqs, hrw⟩ := hp.it
 haveI := hqs.one
 have hlen := hsl.len
 cases h24 : decide ((ls.length : Int) > 24)
 rotate_left
 ·have e : badLine ls = 4 := by have := of_decide_eq_true h24; unfold badLine; rw [if_pos (by omega)]
  repeat first | refine mI ?_ | refine mv ?_ | refine bn rfl rfl rfl (by simp only [↓nrmL, nrmZ, qe, ↓reduceIte, qz, qa, qn, h24]; rfl) ?_ | refine ln (by simp only [↓nrmL, nrmK, qe, ↓reduceIte]; rfl) ?_ | refine nw ?_ | (refine ob (cs' := ?_) ?hc ?_; case hc => rfl) | refine so rfl (rfl : _ = AVal.agg _) rfl rfl rfl (by simp only [↓nrmL, nrmZ, qe, ↓reduceIte, qz, qa, qn, h24]; rfl) ?_ | refine nl hKF ?_ | refine sq ?_ | refine rg fun KF hKF => ?_ | refine ct rfl ?_ | refine rt ?_ | dsimp only
  refine rz trivial ?_
  exact ⟨Ext0.ext, Or.inl ⟨by rw [e]; decide, by rw [e]; rfl⟩⟩
 have hl24 : ls.length ≤ 24 := by have := of_decide_eq_false h24; omega
 have hw1 := wa1 (a := ls.length) (by omega)
 repeat first | refine mI ?_ | refine mv ?_ | refine bn rfl rfl rfl (by simp only [↓nrmL, nrmZ, qe, ↓reduceIte, qz, qa, qn, h24]; rfl) ?_ | refine ln (by simp only [↓nrmL, nrmK, qe, ↓reduceIte]; rfl) ?_ | refine nw ?_ | refine nl hKF ?_ | refine sq ?_ | refine rg fun KF hKF => ?_ | refine cf rfl ?_ | refine sk ?_
 obtain ⟨H0, eH⟩ : ∃ H0, H0 = H.push (.row [.nslice, .nslice] true (2 * 114)) := ⟨_, rfl⟩
 have g1 := mkZ_facts (H := H0) (z := z28) (e := 2 * 119) (n := ls.length) rfl
 have g2 := mk_facts (H := H0.push (.row ((List.replicate ls.length z28).flatten) true (2 * 119))) (e := 2 * 3) (z := .int .i64 0) (n := ls.length + 1) rfl
 obtain ⟨ps, hps⟩ : ∃ q : AVal, AVal.slice H0.n 0 ls.length (some ls.length) 28 = q := ⟨_, rfl⟩
 obtain ⟨pb, hpb⟩ : ∃ q : AVal, AVal.slice ((H0.push (.row ((List.replicate ls.length z28).flatten) true (2 * 119))).n) 0 (ls.length + 1) (some (ls.length + 1)) 1 = q := ⟨_, rfl⟩
 rw [show z28.length = 28 from rfl, hps] at g1
 rw [hpb] at g2
 obtain ⟨m1, fr1, w1⟩ := g1
 obtain ⟨m2, fr2, w2⟩ := g2
 rw [← eH]
 haveI : ExtI H H0 := ⟨by rw [eH]; exact (Ext.refl H).push _⟩
 refine Fr.dregionE [.row ((List.replicate ls.length z28).flatten) true (2 * 119), .row ((List.replicate (ls.length + 1) [.int .i64 0]).flatten) true (2 * 3), .row [.nslice, .nslice] true (2 * 114)] ?_ fun KF hKF => ?_
 ·skip
  refine oracle_pre rfl rfl rfl rfl ?_; (try simp only [↓nrmL, nrmZ, qe, ↓reduceIte, qz, qa, qn])
  refine oracle_pre rfl rfl rfl (exec_lenP (p := p) rfl) ?_
  skip
  refine oracle_made rfl rfl (made_mkZ (a := ls.length) (b := 224) rfl rfl (by omega)) ?_
  refine oracle_pre rfl rfl rfl rfl ?_; (try simp only [↓nrmL, nrmZ, qe, ↓reduceIte, qz, qa, qn])
  refine oracle_pre rfl rfl rfl (exec_lenP (p := p) rfl) ?_
  refine oracle_pre rfl rfl rfl rfl ?_; (try simp only [↓nrmL, nrmZ, qe, ↓reduceIte, qz, qa, qn, hw1])
  refine oracle_made rfl rfl (made_mkZ (a := ls.length + 1) (b := 8) rfl rfl (by omega)) ?_
  refine oracle_pre rfl rfl rfl rfl ?_; (try simp only [↓nrmL, nrmZ, qe, ↓reduceIte, qz, qa, qn])
  refine oracle_made rfl rfl rfl ?_; (try simp only [↓nrmL, nrmZ, qe, ↓reduceIte, qz, qa, qn])
  exact oracle_none _ _ _ _ rfl
 simp only [pushAll]
 haveI := m1.one
 haveI := m2.one
 refine Fe.pure rfl rfl (by simp only [↓nrmL, nrmZ, qe, ↓reduceIte, qz, qa, qn]; rfl) ?_
 refine Fe.pure rfl (exec_lenP (by (try simp only [↓nrmL, nrmZ, qe, ↓reduceIte, qz, qa, qn]); rfl)) rfl ?_
 refine Fe.made rfl (made_mkZ (a := ls.length) (b := 224) rfl rfl (by omega)) ghost_of trivial hps ?_
 simp only [↓nrmL, nrmZ, qe, ↓reduceIte, qz, qa, qn, hw1]
 refine Fe.pure rfl rfl (by simp only [↓nrmL, nrmZ, qe, ↓reduceIte, qz, qa, qn, hw1]; rfl) ?_
 refine Fe.pure rfl (exec_lenP (by (try simp only [↓nrmL, nrmZ, qe, ↓reduceIte, qz, qa, qn, hw1]); rfl)) rfl ?_
 refine Fe.pure rfl rfl (by simp only [↓nrmL, nrmZ, qe, ↓reduceIte, qz, qa, qn, hw1]; rfl) ?_
 change WpE _ _ (AHeap.n (AHeap.push _ (.row ((List.replicate ls.length z28).flatten) true (2 * 119)))) _ _ _ _ _ _ _
 simp only [↓nrmL, nrmZ, qe, ↓reduceIte, qz, qa, qn, hw1]
 refine Fe.made rfl (made_mkZ (a := ls.length + 1) (b := 8) rfl rfl (by omega)) ghost_of trivial hpb ?_
 refine Fe.pure rfl (exec_build (by repeat (first | refine aFill1 (by (try simp only [↓nrmL, nrmZ, qe, ↓reduceIte, qz, qa, qn]); rfl) rfl ?_ | rfl))) (by simp only [↓nrmL, nrmZ, qe, ↓reduceIte, qz, qa, qn]; rfl) ?_
 change WpE _ _ (AHeap.n (AHeap.push _ (.row ((List.replicate (ls.length + 1) [AVal.int .i64 0]).flatten) true (2 * 3)))) _ _ _ _ _ _ _
 refine Em rfl rfl ghost_of rfl ?_
 refine Ee rfl (xs rfl (by (try simp only [↓nrmL, nrmZ, qe, ↓reduceIte, qz, qa, qn]); rfl) rfl rfl rfl (by (try simp only [↓nrmL, nrmZ, qe, ↓reduceIte, qz, qa, qn]); rfl)) ?_
 refine WpE.nil (hKF _ _ ?_)
 have c1 : HasRow ((((H0.push (.row ((List.replicate ls.length z28).flatten) true (2 * 119))).push (.row ((List.replicate (ls.length + 1) [.int .i64 0]).flatten) true (2 * 3))).push (.row [.nslice, .nslice] true (2 * 114))).set ((H0.push (.row ((List.replicate ls.length z28).flatten) true (2 * 119))).push (.row ((List.replicate (ls.length + 1) [.int .i64 0]).flatten) true (2 * 3))).n (.row [ps, pb] true (2 * 114))) ((H0.push (.row ((List.replicate ls.length z28).flatten) true (2 * 119))).push (.row ((List.replicate (ls.length + 1) [.int .i64 0]).flatten) true (2 * 3))).n [ps, pb] true (2 * 114) := inferInstance
 have c2 : SliceAt ((((H0.push (.row ((List.replicate ls.length z28).flatten) true (2 * 119))).push (.row ((List.replicate (ls.length + 1) [.int .i64 0]).flatten) true (2 * 3))).push (.row [.nslice, .nslice] true (2 * 114))).set ((H0.push (.row ((List.replicate ls.length z28).flatten) true (2 * 119))).push (.row ((List.replicate (ls.length + 1) [.int .i64 0]).flatten) true (2 * 3))).n (.row [ps, pb] true (2 * 114))) ps 28 ls.length ((List.replicate ls.length z28).flatten) := inferInstance
 have c3 : WrS ((((H0.push (.row ((List.replicate ls.length z28).flatten) true (2 * 119))).push (.row ((List.replicate (ls.length + 1) [.int .i64 0]).flatten) true (2 * 3))).push (.row [.nslice, .nslice] true (2 * 114))).set ((H0.push (.row ((List.replicate ls.length z28).flatten) true (2 * 119))).push (.row ((List.replicate (ls.length + 1) [.int .i64 0]).flatten) true (2 * 3))).n (.row [ps, pb] true (2 * 114))) ps := inferInstance
 have c4 : SliceAt ((((H0.push (.row ((List.replicate ls.length z28).flatten) true (2 * 119))).push (.row ((List.replicate (ls.length + 1) [.int .i64 0]).flatten) true (2 * 3))).push (.row [.nslice, .nslice] true (2 * 114))).set ((H0.push (.row ((List.replicate ls.length z28).flatten) true (2 * 119))).push (.row ((List.replicate (ls.length + 1) [.int .i64 0]).flatten) true (2 * 3))).n (.row [ps, pb] true (2 * 114))) pb 1 (ls.length + 1) ((List.replicate (ls.length + 1) [.int .i64 0]).flatten) := inferInstance
 have c5 : WrS ((((H0.push (.row ((List.replicate ls.length z28).flatten) true (2 * 119))).push (.row ((List.replicate (ls.length + 1) [.int .i64 0]).flatten) true (2 * 3))).push (.row [.nslice, .nslice] true (2 * 114))).set ((H0.push (.row ((List.replicate ls.length z28).flatten) true (2 * 119))).push (.row ((List.replicate (ls.length + 1) [.int .i64 0]).flatten) true (2 * 3))).n (.row [ps, pb] true (2 * 114))) pb := inferInstance
 have c6 : Ext H ((((H0.push (.row ((List.replicate ls.length z28).flatten) true (2 * 119))).push (.row ((List.replicate (ls.length + 1) [.int .i64 0]).flatten) true (2 * 3))).push (.row [.nslice, .nslice] true (2 * 114))).set ((H0.push (.row ((List.replicate ls.length z28).flatten) true (2 * 119))).push (.row ((List.replicate (ls.length + 1) [.int .i64 0]).flatten) true (2 * 3))).n (.row [ps, pb] true (2 * 114))) := Ext0.ext
 have c7 : HasRow ((((H0.push (.row ((List.replicate ls.length z28).flatten) true (2 * 119))).push (.row ((List.replicate (ls.length + 1) [.int .i64 0]).flatten) true (2 * 3))).push (.row [.nslice, .nslice] true (2 * 114))).set ((H0.push (.row ((List.replicate ls.length z28).flatten) true (2 * 119))).push (.row ((List.replicate (ls.length + 1) [.int .i64 0]).flatten) true (2 * 3))).n (.row [ps, pb] true (2 * 114))) H.n [.nslice, .nslice] true (2 * 114) := by
  haveI : HasRow H0 H.n [.nslice, .nslice] true (2 * 114) := by rw [eH]; infer_instance
  infer_instance
 haveI s1 : SepS ps pb := inferInstance
 haveI s2 : SepS pb ps := inferInstance
 have r1 : RowNe ps ((H0.push (.row ((List.replicate ls.length z28).flatten) true (2 * 119))).push (.row ((List.replicate (ls.length + 1) [.int .i64 0]).flatten) true (2 * 3))).n := inferInstance
 have r2 : RowNe pb ((H0.push (.row ((List.replicate ls.length z28).flatten) true (2 * 119))).push (.row ((List.replicate (ls.length + 1) [.int .i64 0]).flatten) true (2 * 3))).n := inferInstance
 haveI : HasRow H0 H.n [.nslice, .nslice] true (2 * 114) := by rw [eH]; infer_instance
 haveI : HasRow (H0.push (.row ((List.replicate ls.length z28).flatten) true (2 * 119))) H.n [.nslice, .nslice] true (2 * 114) := inferInstance
 haveI r3 : RowNe ps H.n := inferInstance
 haveI r4 : RowNe pb H.n := inferInstance
 haveI f1 : FreshS H ps := fr1.weak
 haveI f2 : FreshS H pb := fr2.weak
 have f3 : H.n ≤ ((H0.push (.row ((List.replicate ls.length z28).flatten) true (2 * 119))).push (.row ((List.replicate (ls.length + 1) [.int .i64 0]).flatten) true (2 * 3))).n := by rw [eH]; simp only [AHeap.push]; omega
 generalize hHS : AHeap.set _ _ _ = HS at c1 c2 c3 c4 c5 c6 c7 ⊢
 generalize hC : AHeap.n _ = C at c1 r1 r2 f3 ⊢
 rw [mk_ints, blJ_start] at c4
 replace c4 : IntsI HS pb (blJ ls ls.length) := by unfold IntsI; rw [blJ_length]; exact c4
 replace c2 : SliceAt HS ps 28 ls.length (cellsI (shL ls 0)) := by rw [← shL_zero]; exact c2
 clear hHS hC m1 m2 w1 w2 fr1 fr2 eH
 haveI : ExtI H HS := ⟨c6⟩
 refine sq ?_
 refine sq ?_
 refine rg fun KF hKF => ?_
 refine mv ?_
 refine ln (by simp only [↓nrmL, nrmK, qe, ↓reduceIte]; rfl) ?_
 refine mI ?_
 refine nl hKF ?_
 refine Wp.block ?_
 dsimp only
 refine Wp.loopS [3, 5, 6, 22, 23, 24, 25, 26, 27, 28, 29, 30, 31, 32, 33, 34, 35, 36, 37] (fun k : Nat => [(22, .int .i64 (k : Int))]) (fun _ k H2 => k ≤ ls.length ∧ (∀ (i : Nat) (h : i < ls.length), i < k → signB ls[i] = true) ∧ SliceAt H2 ps 28 ls.length (cellsI (shL ls k)) ∧ WrS H2 ps ∧ IntsI H2 pb (blJ ls ls.length) ∧ WrS H2 pb ∧ HasRow H2 C [ps, pb] true (2 * 114) ∧ HasRow H2 H.n [.nslice, .nslice] true (2 * 114) ∧ Ext H H2) (fun k => ls.length - k) 0 rfl (fun _ => rfl) ⟨rfl, trivial⟩ ⟨Nat.zero_le _, fun i _ h => absurd h (Nat.not_lt_zero _), c2, c3, c4, c5, c1, c7, c6⟩ (by unfold fuel0 at hn; omega) ?_
 rintro k g H2 ⟨hk, hsg, hs2, hw2, hb2, hbw2, hC2, hR2, hx2⟩
 haveI : ExtI H H2 := ⟨hx2⟩
 simp only [↓nrmL, nrmZ, qe, ↓reduceIte, qz, qa, qn]
 cases hc : decide ((k : Int) < (ls.length : Int))
 rotate_left
 ·have hkl : k < ls.length := by have := of_decide_eq_true hc; omega
  have hwk := wa1 (a := k) (by omega)
  obtain ⟨q, hq, hIq⟩ := hrw k hkl
  haveI := hIq
  haveI := hIq.one
  haveI : LeT ls[k].length 1000000 := ⟨hsl.it k hkl⟩
  cases hsb : signB ls[k]
  ·have e : badLine ls = 1 := by
    unfold badLine
    rw [if_neg (by omega), if_neg]
    intro h
    have := List.all_eq_true.1 h _ (List.getElem_mem hkl)
    rw [hsb] at this; cases this
   repeat first | refine mI ?_ | refine mv ?_ | refine bn rfl rfl rfl (by simp only [↓nrmL, nrmZ, qe, ↓reduceIte, qz, qa, qn, hc, hsb]; rfl) ?_ | (refine Fo.pcall (v' := ?_) hn rfl (by simp only [↓nrmL, nrmZ, qe, ↓reduceIte, qz, qa, qn, hc, hsb, List.map]; rfl) rfl ?hv fun _ _ => ?_; case hv => (simp only [↓nrmL, nrmZ, qe, ↓reduceIte, qz, qa, qn, hc, hsb]; rfl)) | (refine Fo.idx (by simp only [↓nrmL, nrmK, qe, ↓reduceIte]; rfl) rfl ?_ (by simp only [↓nrmL, nrmZ, qe, ↓reduceIte, qz, qa, qn, hc, hsb]; rfl) ?_; (focus omega)) | refine Fo.ldP rfl (by assumption) ?_ | (refine ob (cs' := ?_) ?hc ?_; case hc => rfl) | refine Fo.now rfl rfl (by simp only [↓nrmL, nrmZ, qe, ↓reduceIte, qz, qa, qn, hc, hsb]; rfl) ?_ | refine so rfl (rfl : _ = AVal.agg _) rfl rfl rfl (by simp only [↓nrmL, nrmZ, qe, ↓reduceIte, qz, qa, qn, hc, hsb]; rfl) ?_ | refine nl hKF ?_ | refine sq ?_ | refine rg fun KF hKF => ?_ | refine ct rfl ?_ | refine sk ?_ | refine rt ?_ | refine Wp.block ?_ | dsimp only
   refine rz trivial ?_
   exact ⟨Ext0.ext, Or.inl ⟨by rw [e]; decide, by rw [e]; rfl⟩⟩
  ·skip
   repeat first | refine mI ?_ | refine mv ?_ | refine bn rfl rfl rfl (by simp only [↓nrmL, nrmZ, qe, ↓reduceIte, qz, qa, qn, hc, hsb]; rfl) ?_ | (refine Fo.pcall (v' := ?_) hn rfl (by simp only [↓nrmL, nrmZ, qe, ↓reduceIte, qz, qa, qn, hc, hsb, List.map]; rfl) rfl ?hv fun _ _ => ?_; case hv => (simp only [↓nrmL, nrmZ, qe, ↓reduceIte, qz, qa, qn, hc, hsb]; rfl)) | (refine Fo.idx (by simp only [↓nrmL, nrmK, qe, ↓reduceIte]; rfl) rfl ?_ (by simp only [↓nrmL, nrmZ, qe, ↓reduceIte, qz, qa, qn, hc, hsb]; rfl) ?_; (focus omega)) | refine Fo.ldP rfl (by assumption) ?_ | refine Fo.now rfl rfl (by simp only [↓nrmL, nrmZ, qe, ↓reduceIte, qz, qa, qn, hc, hsb]; rfl) ?_ | refine nl hKF ?_ | refine sq ?_ | refine rg fun KF hKF => ?_ | refine ct rfl ?_ | refine cf rfl ?_ | refine sk ?_ | refine Wp.block ?_ | dsimp only
   refine Fr.dregion0 rfl fun KF hKF => ?_
   repeat first | refine Er rfl (exec_ld rfl rfl) rfl ?_ | refine Fe.pure rfl rfl (by simp only [↓nrmL, nrmZ, qe, ↓reduceIte, qz, qa, qn]; rfl) ?_
   refine Fe.con rfl hn rfl rfl (by simp only [↓nrmL, nrmZ, qe, ↓reduceIte, qz, qa, qn, List.map] <;> rfl) (K_costs (l := ls[k]) hsb) fun v H5 h5 => ?_
   obtain ⟨rfl, hx5⟩ := h5
   haveI : ExtI _ H5 := ⟨hx5⟩
   refine ar ?_
   refine Fe.pure rfl (exec_idxP (by (try simp only [↓nrmL, nrmZ, qe, ↓reduceIte, qz, qa, qn]); rfl) rfl ?_) (by simp only [↓nrmL, nrmZ, qe, ↓reduceIte, qz, qa, qn]; rfl) ?_; (focus omega)
   refine WpE.stPN (p := ps) (j := k * 28) (m := 28) (v := .agg (cellsI (costL ls[k]))) (vs := cellsI (costL ls[k])) rfl rfl rfl rfl (by rw [cellsI_length, costL_length]) (by decide) (allOne_ints _) (by rw [cellsI_length, shL_length hk]; omega) fun H8 hb8 hw8 hx8 => ?_
   rw [shL_set hkl] at hb8
   refine ar ?_
   refine WpE.nil (hKF _ _ ?_)
   refine rg fun KF hKF => ?_
   refine b0 ?_
   refine mI ?_
   refine nl hKF ?_
   dsimp only
   refine ⟨k + 1, by omega, ⟨by simp only [↓nrmL, nrmZ, qe, ↓reduceIte, qz, qa, qn]; rw [hwk], trivial⟩, hkl, fun i hi hik => ?_, hb8, hw8, inferInstance, inferInstance, inferInstance, inferInstance, Ext0.ext⟩
   by_cases e : i = k
   ·subst e; exact hsb
   ·exact hsg i hi (by omega)
 have hkl : k = ls.length := by have := of_decide_eq_false hc; omega
 subst hkl
 have hall : ls.all signB = true := List.all_eq_true.2 fun x hx => by
  obtain ⟨i, hi, rfl⟩ := List.mem_iff_getElem.1 hx
  exact hsg i hi hi
 have hbad : badLine ls = 0 := by unfold badLine; rw [if_neg (by omega), if_pos hall]
 have hws : IntKind.i64.wrap ((ls.length : Int) - 1) = (ls.length : Int) - 1 := w64 (by omega)
 repeat first | refine mI ?_ | refine mv ?_ | refine bn rfl rfl rfl (by simp only [↓nrmL, nrmZ, qe, ↓reduceIte, qz, qa, qn, hc, hws]; rfl) ?_ | refine ln (by simp only [↓nrmL, nrmK, qe, ↓reduceIte]; rfl) ?_ | refine nl hKF ?_ | refine sq ?_ | refine rg fun KF hKF => ?_ | refine cf rfl ?_ | refine Wp.block ?_ | refine xi ?_ | dsimp only
 refine Wp.loopS [7, 41, 42, 43, 44, 45, 46, 47, 48, 49, 50, 51, 52, 53, 54, 55, 56, 57, 58, 59, 60, 61] (fun j : Nat => [(7, .int .i64 ((j : Int) - 1))]) (fun _ j H4 => j ≤ ls.length ∧ IntsI H4 pb (blJ ls j) ∧ WrS H4 pb ∧ SliceAt H4 ps 28 ls.length (cellsI (shL ls ls.length)) ∧ HasRow H4 C [ps, pb] true (2 * 114) ∧ HasRow H4 H.n [.nslice, .nslice] true (2 * 114) ∧ Ext H H4) (fun j => j) ls.length rfl (fun _ => rfl) ⟨rfl, trivial⟩ ⟨Nat.le_refl _, hb2, hbw2, hs2, hC2, hR2, hx2⟩ (by unfold fuel0 at hn; omega) ?_
 rintro j g2 H4 ⟨hj, hb4, hbw4, hs4, hC4, hR4, hx4⟩
 haveI : ExtI H H4 := ⟨hx4⟩
 simp only [↓nrmL, nrmZ, qe, ↓reduceIte, qz, qa, qn]
 cases j with
 | zero =>
  have hz : decide ((((0 : Nat) : Int) - 1) ≥ 0) = false := rfl
  repeat first | refine mI ?_ | refine Fo.ldN rfl rfl (by simp only [↓nrmL, nrmZ, qe, ↓reduceIte, qz, qa, qn, hz]; rfl) ?_ | refine bn rfl rfl rfl (by simp only [↓nrmL, nrmZ, qe, ↓reduceIte, qz, qa, qn, hz]; rfl) ?_ | refine so rfl (rfl : _ = AVal.agg _) rfl rfl rfl (by simp only [↓nrmL, nrmZ, qe, ↓reduceIte, qz, qa, qn, hz]; rfl) ?_ | refine nl hKF ?_ | refine sq ?_ | refine rg fun KF hKF => ?_ | refine cf rfl ?_ | refine rt ?_ | refine xi ?_ | dsimp only
  refine rz trivial ?_
  refine ⟨Ext0.ext, Or.inr ⟨hbad, hl24, hall, ps, pb, rfl, ⟨?_, ?_⟩⟩⟩
  ·rw [← shL_all]; infer_instance
  ·show IntsI _ pb (blJ ls 0)
   infer_instance
 | succ i =>
  have hi : i < ls.length := by omega
  have e1 : (((i + 1 : Nat) : Int) - 1) = (i : Int) := by omega
  have hz : decide ((i : Int) ≥ 0) = true := decide_eq_true (by omega)
  have hwi := wa1 (a := i) (by omega)
  have hbl := blJ_length ls (i + 1)
  have hr := blank_range hall (i + 1)
  have hr2 := costO_range (List.all_eq_true.1 hall _ (List.getElem_mem hi)) 0
  have hg1 : (blJ ls (i + 1))[i + 1]'(by omega) = blankS ls (i + 1) := by rw [blJ_get, if_pos (Nat.le_refl _)]
  have hwb : IntKind.i64.wrap (blankS ls (i + 1) + costO ls[i] 0) = blankS ls i := by
   rw [blankS_at hi, w64 (by unfold never at *; omega)]; omega
  simp only [e1, hz]
  refine sq ?_
  refine sq ?_
  refine rg fun KF hKF => ?_
  refine mI ?_
  refine bn rfl rfl rfl (by simp only [↓nrmL, nrmZ, qe, ↓reduceIte, qz, qa, qn, e1, hz]; rfl) ?_
  refine nl hKF ?_
  refine ct rfl ?_
  refine sk ?_
  refine sq ?_
  refine Wp.block ?_
  dsimp only
  refine Fr.dregion0 rfl fun KF hKF => ?_
  repeat first | refine Er rfl (exec_ld rfl rfl) rfl ?_ | refine Fe.pure rfl rfl (by simp only [↓nrmL, nrmZ, qe, ↓reduceIte, qz, qa, qn, hwi, hg1]; rfl) ?_ | (refine Fe.pure rfl (exec_idxP (by (try simp only [↓nrmL, nrmZ, qe, ↓reduceIte, qz, qa, qn, hwi, hg1]); rfl) rfl ?_) (by simp only [↓nrmL, nrmZ, qe, ↓reduceIte, qz, qa, qn, hwi, hg1]; rfl) ?_; (focus omega)) | refine Er rfl (exec_ldI rfl (by omega)) (by simp only [↓nrmL, nrmZ, qe, ↓reduceIte, qz, qa, qn, hwi, hg1]; rfl) ?_
  have hget : (cellsI (shL ls ls.length))[i * 28]? = some (.int .i64 (costO ls[i] 0)) := by
   have := flat_get ls i 0 hi (by decide)
   rw [Nat.add_zero] at this
   rw [shL_all, cellsI, List.getElem?_map, this]; rfl
  refine Fe.read rfl (exec_ldP (p := ps) (j := i * 28) rfl hget) rfl trivial ?_
  simp only [↓nrmL, nrmZ, qe, ↓reduceIte, qz, qa, qn, hwb]
  refine Fe.pure rfl rfl (by simp only [↓nrmL, nrmZ, qe, ↓reduceIte, qz, qa, qn, hwb]; rfl) ?_
  refine Fe.pure rfl (exec_idxP (by (try simp only [↓nrmL, nrmZ, qe, ↓reduceIte, qz, qa, qn, hwb]); rfl) rfl ?_) (by simp only [↓nrmL, nrmZ, qe, ↓reduceIte, qz, qa, qn, hwb]; rfl) ?_; (focus omega)
  refine WpE.stI (p := pb) (j := i) (l := blJ ls (i + 1)) (c := blankS ls i) rfl rfl rfl (by omega) fun H9 hb9 hw9 hx9 => ar ?_
  rw [blJ_set (by omega)] at hb9
  refine WpE.nil (hKF _ _ ?_)
  have hws2 : IntKind.i64.wrap ((i : Int) - 1) = (i : Int) - 1 := w64 (by omega)
  simp only [hws2]
  refine rg fun KF hKF => ?_
  refine mI ?_
  refine bn rfl rfl rfl (by simp only [↓nrmL, nrmZ, qe, ↓reduceIte, qz, qa, qn, hws2]; rfl) ?_
  refine mI ?_
  refine nl hKF ?_
  dsimp only
  refine ⟨i, Nat.lt_succ_self _, ⟨(by simp only [↓nrmL, nrmZ, qe, ↓reduceIte, qz, qa, qn, List.map] <;> rfl), trivial⟩, by omega, hb9, hw9, inferInstance, inferInstance, inferInstance, Ext0.ext⟩
end Go.Am

namespace Go.Am
open Go
open Nat renaming reduceEqDiff → qe, reduceAdd → qz
open Int renaming reduceBEq → qa, reduceBNe → qn
attribute [local irreducible] Wp WpO WpX WpE
def okC (c : UInt8) : Bool := letS c != 0
instance K_Cost1 {c : UInt8} {H : AHeap} : PureCon ext prog 73 [.int .u8 (c.toNat : Int)] H 4 (.bool (okC c)) := ⟨by
 refine con_of (show prog 73 = some c73 from rfl) rfl rfl fun m hn => ?_
 have e : (((letS c : Nat) : Int) != 0) = okC c := by
  unfold okC
  cases h : letS c != 0
  ·have : letS c = 0 := by simpa using h
   rw [this]; rfl
  ·have : letS c ≠ 0 := by simpa using h
   exact bne_iff_ne.2 (by omega)
 repeat first | refine mI ?_ | refine mB ?_ | refine bn rfl rfl rfl (by simp only [e]; rfl) ?_ | (refine Fo.pcall (v' := ?_) hn rfl (by simp only [↓nrmL, nrmZ, qe, ↓reduceIte, qz, qa, qn, e, List.map]; rfl) rfl ?hv fun _ _ => ?_; case hv => rfl) | refine nl hKF ?_ | refine sq ?_ | refine rg fun KF hKF => ?_ | refine rt ?_ | dsimp only
 refine rz trivial ?_
 exact ⟨rfl, Ext0.ext⟩⟩
theorem lett_range {ls : List Opts} {s : Bs} (h : ls.all signB = true) : ∀ k, k ≤ ls.length → 0 ≤ lettS ls s k ∧ lettS ls s k ≤ never * (k : Int)
 | 0, _ => by simp [lettS]
 | k + 1, hk => by
  have h1 := lett_range (s := s) h k (by omega)
  have e : ls.getD k [] = ls[k] := by rw [List.getD_eq_getElem?_getD, List.getElem?_eq_getElem (by omega), Option.getD_some]
  have h2 := costO_range (List.all_eq_true.1 h _ (List.getElem_mem (show k < ls.length by omega))) (letS (s.getD k 0))
  rw [lettS_succ, e]
  unfold never at *
  omega
theorem bytes_stb {H : AHeap} {e : TypeId} {l : Bs} : BytesI (H.push (.row (l.map fun b => .int .u8 b.toNat) true e)) (.slice H.n 0 (⟨l.toArray⟩ : ByteArray).size none 1) l := by
 have e1 : (⟨l.toArray⟩ : ByteArray).size = l.length := str_size l
 rw [e1]
 exact ⟨Or.inr ⟨H.n, 0, none, cellsB l, true, e, rfl, Nat.lt_succ_self _, push_get_eq, by rw [cellsB_length]; omega, by rw [List.drop_zero, List.take_of_length_le (by rw [cellsB_length]; omega)], Nat.le_refl _⟩⟩
theorem getLD_at {ls : List Opts} {x : Nat} (h : x < ls.length) : ls.getD x [] = ls[x] := by rw [List.getD_eq_getElem?_getD, List.getElem?_eq_getElem h, Option.getD_some]
theorem getBD_at {l : Bs} {x : Nat} (h : x < l.length) : l.getD x 0 = l[x] := by rw [List.getD_eq_getElem?_getD, List.getElem?_eq_getElem h, Option.getD_some]
def outC (r : Int × Int) : AVal := .tuple [.int .i64 r.1, .int .i64 r.2]
instance K_Cost {ls : List Opts} {s : Bs} {p : AVal} {H : AHeap} [hp : LineI H p ls] [hsl : SlimO ls] [hls : LeT s.length 1000000] : PureCon ext prog 26 [p, strV s] H 12 (outC (costS ls s)) := ⟨by
 refine con_of (show prog 26 = some c26 from rfl) rfl rfl fun n hn => ?_
 obtain ⟨qs, hqs, _⟩ := hp.it
 haveI := hqs.one
 have hll := hls.le
 repeat first | refine mI ?_ | refine mv ?_ | refine nl hKF ?_ | refine sq ?_ | refine rg fun KF hKF => ?_
 refine WpO.do (WpX.conD hn rfl rfl (by simp only [↓nrmL, nrmZ, qe, ↓reduceIte, qz, qa, qn, List.map] <;> rfl) (K_newSheet (ls := ls)) fun v H1 h5 => ?_)
 obtain ⟨hx1, h6⟩ := h5
 haveI : ExtI _ H1 := ⟨hx1⟩
 rcases h6 with ⟨hb, rfl⟩ | ⟨hb, hl24, hall, ps, pb, rfl, hsh⟩
 ·have e : costS ls s = (0, badLine ls) := by unfold costS; rw [if_pos hb]
  have hne : (badLine ls != 0) = true := by simpa using hb
  repeat first | refine mI ?_ | refine mT ?_ | refine bn rfl rfl rfl (by simp only [hne]; rfl) ?_ | refine xt ?_ | refine nw ?_ | refine so rfl (rfl : _ = AVal.agg _) rfl rfl rfl (by simp only [↓nrmL, nrmZ, qe, ↓reduceIte, qz, qa, qn, hne]; rfl) ?_ | refine nl hKF ?_ | refine sq ?_ | refine rg fun KF hKF => ?_ | refine ct rfl ?_ | refine rt ?_ | dsimp only
  refine rz trivial ?_
  exact ⟨by rw [e]; rfl, Ext0.ext⟩
 have i1 := hsh.signs
 have i2 := hsh.blanks
 haveI := i1
 haveI := i2
 haveI := i1.one
 haveI := i2.one
 cases h1 : decide ((s.length : Int) > (ls.length : Int))
 rotate_left
 ·have e : costS ls s = (0, 45) := by
   have := of_decide_eq_true h1
   unfold costS; rw [if_neg (by simpa using hb), if_pos (Or.inl (by omega))]
  repeat first | refine Fo.lenStr (rfl : _ = strV _) rfl ?_ | refine Fo.mov (rfl : _ = strV _) ?_ | refine mv ?_ | refine ox ?_ | refine bn rfl rfl rfl (by simp only [h1]; rfl) ?_ | refine bn rfl rfl rfl (by simp only [↓nrmL, nrmZ, qe, ↓reduceIte, qz, qa, qn, h1]; rfl) ?_ | refine tB ?_ | refine xt ?_ | refine ln (by simp only [↓nrmL, nrmK, qe, ↓reduceIte]; rfl) ?_ | refine nw ?_ | refine so rfl (rfl : _ = AVal.agg _) rfl rfl rfl (by simp only [↓nrmL, nrmZ, qe, ↓reduceIte, qz, qa, qn, h1]; rfl) ?_ | refine nl hKF ?_ | refine sq ?_ | refine rg fun KF hKF => ?_ | refine ct rfl ?_ | refine cf rfl ?_ | refine sk ?_ | refine rt ?_ | dsimp only
  refine rz trivial ?_
  exact ⟨by rw [e]; rfl, Ext0.ext⟩
 have hsl2 : s.length ≤ ls.length := by have := of_decide_eq_false h1; omega
 repeat first | refine Fo.lenStr (rfl : _ = strV _) rfl ?_ | refine Fo.mov (rfl : _ = strV _) ?_ | refine mv ?_ | refine oy ?_ | refine bn rfl rfl rfl (by simp only [h1]; rfl) ?_ | refine bn rfl rfl rfl (by simp only [↓nrmL, nrmZ, qe, ↓reduceIte, qz, qa, qn, h1]; rfl) ?_ | refine xt ?_ | refine ln (by simp only [↓nrmL, nrmK, qe, ↓reduceIte]; rfl) ?_ | refine nw ?_ | refine Fo.now rfl rfl rfl ?_ | refine so rfl (rfl : _ = AVal.agg _) rfl rfl rfl (by simp only [↓nrmL, nrmZ, qe, ↓reduceIte, qz, qa, qn, h1]; rfl) ?_ | refine nl hKF ?_ | refine sq ?_ | refine rg fun KF hKF => ?_ | refine cf rfl ?_ | refine sk ?_ | dsimp only
 refine WpO.do (WpX.con (K_allOfB (hp := bytes_stb) (l := s) (g := okC) (d := 4) (by omega) (fun b H1 => inferInstance)) (by omega) rfl (by simp only [↓nrmL, nrmZ, qe, ↓reduceIte, qz, qa, qn, List.map] <;> rfl) fun v H2 h5 => ?_)
 obtain ⟨rfl, hx2⟩ := h5
 haveI : ExtI _ H2 := ⟨hx2⟩
 cases h2 : s.all okC
 ·have e : costS ls s = (0, 45) := by
   unfold costS; rw [if_neg (by simpa using hb), if_pos (Or.inr (by have : (s.all fun c => letS c != 0) = false := h2; rw [this]; decide))]
  refine oy ?_
  refine Fo.now rfl rfl (by simp only [↓nrmL, nrmZ, qe, ↓reduceIte, qz, qa, qn, h2]; rfl) ?_
  refine fB ?_
  refine nl hKF ?_
  refine ct rfl ?_
  refine sq ?_
  refine rg fun KF hKF => ?_
  refine mI ?_
  refine mI ?_
  refine nl hKF ?_
  refine rt ?_
  dsimp only
  refine rz trivial ?_
  exact ⟨by rw [e]; rfl, Ext0.ext⟩
 have e : costS ls s = (lettS ls s s.length + blankS ls s.length, 0) := by
  unfold costS; rw [if_neg (by simpa using hb), if_neg (fun h => h.elim (fun h => absurd h (by omega)) (fun h => h h2))]
 have hbl := blankL_length ls
 have hg : (blankL ls)[s.length]'(by omega) = blankS ls s.length := blankL_get (by omega)
 have hbr := blank_range hall s.length
 repeat first | refine Fo.lenStr (rfl : _ = strV _) rfl ?_ | refine Fo.mov (rfl : _ = strV _) ?_ | refine mv ?_ | refine oy ?_ | refine fd ?_ | refine Fo.ld rfl rfl ?_ | refine fB ?_ | (refine Fo.idx (by simp only [↓nrmL, nrmK, qe, ↓reduceIte]; rfl) rfl ?_ (by simp only [↓nrmL, nrmZ, qe, ↓reduceIte, qz, qa, qn, h2, hg]; rfl) ?_; (focus omega)) | (refine Fo.ldI rfl ?_ (by simp only [h2, hg]; rfl) ?_; (focus omega)) | refine Fo.now rfl rfl (by simp only [↓nrmL, nrmZ, qe, ↓reduceIte, qz, qa, qn, h2, hg]; rfl) ?_ | refine nl hKF ?_ | refine sq ?_ | refine rg fun KF hKF => ?_ | refine cf rfl ?_ | refine sk ?_ | refine Wp.block ?_ | dsimp only
 refine Wp.loopS [8, 9, 37, 38, 39, 40, 41, 42, 43, 44, 45, 46, 47, 48, 49, 50, 51, 52] (fun k : Nat => [(37, .int .i64 (k : Int)), (8, .int .i64 (lettS ls s k + blankS ls s.length))]) (fun H3 k H4 => k ≤ s.length ∧ Ext0 H3 H4) (fun k => s.length - k) 0 rfl (fun _ => rfl) ⟨rfl, by simp only [↓nrmL, nrmZ, qe, ↓reduceIte, qz, qa, qn]; simp [lettS], trivial⟩ ⟨Nat.zero_le _, inferInstance⟩ (by unfold fuel0 at hn; omega) ?_
 rintro k g H4 ⟨hk, ⟨hx4⟩⟩
 haveI : ExtI _ H4 := ⟨hx4⟩
 simp only [↓nrmL, nrmZ, qe, ↓reduceIte, qz, qa, qn]
 cases hc : decide ((k : Int) < (s.length : Int))
 ·have hkl : k = s.length := by have := of_decide_eq_false hc; omega
  subst hkl
  repeat first | refine mI ?_ | refine bn rfl rfl rfl (by simp only [hc]; rfl) ?_ | refine nl hKF ?_ | refine sq ?_ | refine rg fun KF hKF => ?_ | refine cf rfl ?_ | refine rt ?_ | refine xi ?_ | dsimp only
  refine rz trivial ?_
  exact ⟨by rw [e]; rfl, Ext0.ext⟩
 have hkl : k < s.length := by have := of_decide_eq_true hc; omega
 have hwk := wa1 (a := k) (by omega)
 have hkn : k < ls.length := by omega
 have hlr := lett_range (s := s) hall k (by omega)
 have hco := costO_range (List.all_eq_true.1 hall _ (List.getElem_mem hkn)) (letS s[k])
 have hws : IntKind.i64.wrap (lettS ls s k + blankS ls s.length + costO ls[k] (letS s[k])) = lettS ls s (k + 1) + blankS ls s.length := by
  rw [lettS_succ, getLD_at hkn, getBD_at hkl, w64 (by unfold never at *; omega)]; omega
 repeat first | refine mI ?_ | refine bn rfl rfl rfl (by simp only [hc]; rfl) ?_ | refine nl hKF ?_ | refine sq ?_ | refine rg fun KF hKF => ?_ | refine ct rfl ?_ | refine sk ?_ | refine Wp.block ?_ | dsimp only
 refine Fr.dregion0 rfl fun KF hKF => ?_
 repeat first | refine Er rfl (exec_ld rfl rfl) rfl ?_ | refine Fe.pure rfl rfl (by simp only [↓nrmL, nrmZ, qe, ↓reduceIte, qz, qa, qn]; rfl) ?_
 refine Fe.pure rfl (exec_idxStr (l := s) rfl rfl hkl) rfl ?_
 refine Fe.pcall (v' := ?_) rfl hn rfl (by simp only [↓nrmL, nrmZ, qe, ↓reduceIte, qz, qa, qn, List.map]; rfl) rfl ?hv fun _ _ => ar ?_; case hv => rfl
 refine Fe.pure rfl (exec_idxP (by (try simp only [↓nrmL, nrmZ, qe, ↓reduceIte, qz, qa, qn]); rfl) rfl ?_) (by simp only [↓nrmL, nrmZ, qe, ↓reduceIte, qz, qa, qn]; rfl) ?_; (focus omega)
 refine Fe.pure rfl (exec_idxA (j := letS s[k]) rfl rfl (letS_lt _)) rfl ?_
 have hget : (cellsI (ls.flatMap costL))[k * 28 + letS s[k]]? = some (.int .i64 (costO ls[k] (letS s[k]))) := by
  rw [cellsI, List.getElem?_map, flat_get ls k _ hkn (letS_lt _)]; rfl
 refine Fe.read rfl (exec_ldP (p := ps) (j := k * 28 + letS s[k]) (by simp only [↓nrmL, nrmZ, qe, ↓reduceIte, qz, qa, qn]; rw [Nat.add_assoc]) hget) rfl ⟨Or.inl (by dsimp only; decide), trivial⟩ ?_
 simp only [↓nrmL, nrmZ, qe, ↓reduceIte, qz, qa, qn, hws]
 refine Fe.pure rfl rfl (by simp only [hws]; rfl) ?_
 refine Fe.pure rfl rfl (by simp only [↓nrmL, nrmZ, qe, ↓reduceIte, qz, qa, qn, hws]; rfl) ?_
 refine WpE.nil (hKF _ _ ?_)
 refine rg fun KF hKF => ?_
 refine b0 ?_
 refine mI ?_
 refine nl hKF ?_
 dsimp only
 refine ⟨k + 1, by omega, ⟨by simp only [↓nrmL, nrmZ, qe, ↓reduceIte, qz, qa, qn]; rw [hwk], rfl, trivial⟩, by omega, inferInstance⟩⟩
end Go.Am

namespace Go.Am
open Go
open Nat renaming reduceEqDiff → qe, reduceAdd → qz
open Int renaming reduceBEq → qa, reduceBNe → qn
attribute [local irreducible] Wp WpO WpX WpE
theorem lev_nil1 (a b : Bs) (h : a.length = 0 ∨ b.length = 0) : lev a b = a.length + b.length := by
 rcases h with h | h
 ·obtain rfl : a = [] := List.length_eq_zero_iff.1 h
  simp [lev, lv_nil]
 ·obtain rfl : b = [] := List.length_eq_zero_iff.1 h
  simp [lev, lv_end]
instance K_refDistance {a b : Bs} {H : AHeap} [ha : LeT a.length 1000000] [hb : LeT b.length 1000000] : PureCon ext prog 29 [strV a, strV b] H 1 (.int .i64 (lev a b : Int)) := ⟨by
 refine con_of (show prog 29 = some c29 from rfl) rfl rfl fun n hn => ?_
 have hal := ha.le
 have hbl := hb.le
 have hwab : IntKind.i64.wrap ((a.length : Int) + (b.length : Int)) = ((a.length + b.length : Nat) : Int) := wa (by omega)
 cases h1 : ((a.length : Int) == 0)
 rotate_left
 ·have e := lev_nil1 a b (Or.inl (by have : (a.length : Int) = 0 := (by simpa using h1); omega))
  simp only [h1, hwab]
  repeat first | refine Fo.lenStr (rfl : _ = strV _) rfl ?_ | refine Fo.mov (rfl : _ = strV _) ?_ | refine mv ?_ | refine ox ?_ | refine bn rfl rfl rfl (by simp only [↓nrmL, nrmZ, qe, ↓reduceIte, qz, qa, qn, h1, hwab]; rfl) ?_ | refine tB ?_ | refine nl hKF ?_ | refine sq ?_ | refine rg fun KF hKF => ?_ | refine ct rfl ?_ | refine rt ?_ | dsimp only
  refine rz trivial ?_
  exact ⟨by rw [e]; rfl, Ext0.ext⟩
 cases h2 : ((b.length : Int) == 0)
 rotate_left
 ·have e := lev_nil1 a b (Or.inr (by have : (b.length : Int) = 0 := (by simpa using h2); omega))
  simp only [h1, h2, hwab]
  repeat first | refine Fo.lenStr (rfl : _ = strV _) rfl ?_ | refine Fo.mov (rfl : _ = strV _) ?_ | refine mv ?_ | refine oy ?_ | refine bn rfl rfl rfl (by simp only [↓nrmL, nrmZ, qe, ↓reduceIte, qz, qa, qn, h1, h2, hwab]; rfl) ?_ | refine fB ?_ | refine nl hKF ?_ | refine sq ?_ | refine rg fun KF hKF => ?_ | refine ct rfl ?_ | refine rt ?_ | dsimp only
  refine rz trivial ?_
  exact ⟨by rw [e]; rfl, Ext0.ext⟩
 have hwa1 := wa1 (a := a.length) (by omega)
 have hwb1 := wa1 (a := b.length) (by omega)
 simp only [h1, h2, hwa1]
 repeat first | refine Fo.lenStr (rfl : _ = strV _) rfl ?_ | refine Fo.mov (rfl : _ = strV _) ?_ | refine mv ?_ | refine oy ?_ | refine bn rfl rfl rfl (by simp only [↓nrmL, nrmZ, qe, ↓reduceIte, qz, qa, qn, h1, h2, hwa1]; rfl) ?_ | refine fB ?_ | refine nl hKF ?_ | refine sq ?_ | refine rg fun KF hKF => ?_ | refine cf rfl ?_ | refine sk ?_
 refine WpO.do (WpX.mkN (n := a.length + 1) rfl rfl (by omega) fun q0 H1 hq0 hf0 hw0 hx0 => ?_)
 haveI := hq0.one
 repeat first | refine mv ?_ | refine nl hKF ?_ | refine sq ?_ | refine rg fun KF hKF => ?_ | refine Wp.block ?_ | dsimp only
 refine Wp.loopS [6, 7, 25, 26, 27, 28, 29, 30, 31, 32, 33, 34, 35, 36, 37, 38, 39, 40, 41, 42, 43, 44, 45, 46, 47, 48, 49, 50, 51, 52, 53, 54, 55, 56, 57, 58, 59, 60, 61, 62, 63, 64, 65, 66, 67, 68, 69, 70, 71, 72, 73, 74, 75, 76, 77, 78, 79, 80, 81, 82, 83, 84, 85, 86, 87, 88, 89, 90, 91, 92, 93, 94, 95, 96, 97, 98, 99, 100, 101, 102, 103, 104, 105, 106, 107, 108, 109, 110, 111, 112, 113, 114, 115, 116, 117, 118, 119, 120, 121] (fun i : Nat => [(6, .int .i64 (i : Int))]) (fun _ i H2 => i ≤ a.length + 1 ∧ WrS H2 q0 ∧ Ext H H2 ∧ ∃ qs, SliceAt H2 q0 1 (a.length + 1) qs ∧ ∀ r, r < i → ∃ q, qs[r]? = some q ∧ IntsI H2 q (mixR a b b.length r 0) ∧ SepS q q0) (fun i => a.length + 1 - i) 0 rfl (fun _ => rfl) ⟨rfl, trivial⟩ ⟨Nat.zero_le _, inferInstance, Ext0.ext, _, hq0, fun r h => absurd h (Nat.not_lt_zero _)⟩ (by unfold fuel0 at hn; omega) ?_
 rintro i g H2 ⟨hi, hw2, hx2, qs, hqs, hrows⟩
 haveI : ExtI H H2 := ⟨hx2⟩
 simp only [↓nrmL, nrmZ, qe, ↓reduceIte, qz, qa, qn]
 cases hc : decide ((i : Int) ≤ (a.length : Int))
 ·have hia : i = a.length + 1 := by have := of_decide_eq_false hc; omega
  subst hia
  obtain ⟨q, hq, hI, _⟩ := hrows a.length (Nat.lt_succ_self _)
  haveI := hI
  haveI := hI.one
  have hml := mixR_len a b b.length a.length 0
  have hg : (mixR a b b.length a.length 0)[b.length]'(by omega) = (lev a b : Int) := by rw [mixR_get, if_neg (Nat.not_lt_zero _), lvD_all]
  repeat first | refine Fo.lenStr (rfl : _ = strV _) rfl ?_ | refine Fo.mov (rfl : _ = strV _) ?_ | refine mv ?_ | refine bn rfl rfl rfl (by simp only [↓nrmL, nrmZ, qe, ↓reduceIte, qz, qa, qn, hc, hg]; rfl) ?_ | (refine Fo.idx (by simp only [↓nrmL, nrmK, qe, ↓reduceIte]; rfl) rfl ?_ (by simp only [↓nrmL, nrmZ, qe, ↓reduceIte, qz, qa, qn, hc, hg]; rfl) ?_; (focus omega)) | refine Fo.ldP rfl (by assumption) ?_ | (refine Fo.ldI rfl ?_ (by simp only [↓nrmL, nrmZ, qe, ↓reduceIte, qz, qa, qn, hc, hg]; rfl) ?_; (focus omega)) | refine nl hKF ?_ | refine sq ?_ | refine rg fun KF hKF => ?_ | refine cf rfl ?_ | refine rt ?_ | refine xi ?_ | dsimp only
  refine rz trivial ?_
  exact ⟨rfl, Ext0.ext⟩
 have hil : i ≤ a.length := by have := of_decide_eq_true hc; omega
 have hwi := wa1 (a := i) (by omega)
 repeat first | refine Fo.lenStr (rfl : _ = strV _) rfl ?_ | refine Fo.mov (rfl : _ = strV _) ?_ | refine mv ?_ | refine bn rfl rfl rfl (by simp only [↓nrmL, nrmZ, qe, ↓reduceIte, qz, qa, qn, hc, hwb1]; rfl) ?_ | refine nl hKF ?_ | refine sq ?_ | refine rg fun KF hKF => ?_ | refine ct rfl ?_ | refine sk ?_ | refine Wp.block ?_
 refine WpO.do (WpX.mkI (n := b.length + 1) rfl rfl rfl (by omega) fun q H3 e3 hq3 hf3 hw3 hx3 => ?_)
 clear e3
 haveI := hq3.one
 have hlq := hqs.len
 refine Fo.idx (by simp only [↓nrmL, nrmK, qe, ↓reduceIte]; rfl) rfl ?_ (by simp only [↓nrmL, nrmZ, qe, ↓reduceIte, qz, qa, qn]; rfl) ?_; (focus omega)
 refine WpO.do' (WpX.stP (p := q0) (j := i) (v := q) rfl rfl (OneV.cells) (OneV.one) (by omega) fun H4 hb4 hw4 hx4 => ?_)
 haveI spq : SepS q q0 := inferInstance
 haveI spq' : SepS q0 q := inferInstance
 haveI hq4 : IntsI H4 q (prtR a b b.length i 0) := by rw [← prtR_zero]; infer_instance
 haveI hwq4 : WrS H4 q := inferInstance
 have hqi : (qs.set i q)[i]? = some q := List.getElem?_set_self (by omega)
 have hrow4 : ∀ r, r < i → ∃ q', (qs.set i q)[r]? = some q' ∧ IntsI H4 q' (mixR a b b.length r 0) ∧ SepS q' q0 ∧ SepS q' q := fun r hr => by
  obtain ⟨q', h3, h4, h5⟩ := hrows r hr
  haveI := h4
  haveI := h5
  exact ⟨q', by rw [List.getElem?_set_ne (by omega)]; exact h3, inferInstance, h5, inferInstance⟩
 have hext4 : Ext H H4 := Ext0.ext
 have hfq : FreshS H q := hf3.weak
 refine nl hKF ?_
 refine sq ?_
 refine rg fun KF hKF => ?_
 refine mv ?_
 refine nl hKF ?_
 refine Wp.block ?_
 dsimp only
 refine Wp.loopS [7, 38, 39, 40, 41, 42, 43, 44, 45, 46, 47, 48, 49, 50, 51, 52, 53, 54, 55, 56, 57, 58, 59, 60, 61, 62, 63, 64, 65, 66, 67, 68, 69, 70, 71, 72, 73, 74, 75, 76, 77, 78, 79, 80, 81, 82, 83, 84, 85, 86, 87, 88, 89, 90, 91, 92, 93, 94, 95, 96, 97, 98, 99, 100, 101, 102, 103, 104, 105, 106, 107, 108, 109, 110, 111, 112, 113, 114, 115, 116, 117, 118, 119, 120, 121] (fun k : Nat => [(7, .int .i64 (k : Int))]) (fun H5 k H6 => k ≤ b.length + 1 ∧ IntsI H6 q (prtR a b b.length i k) ∧ WrS H6 q ∧ ExtP0 H5 H6 q) (fun k => b.length + 1 - k) 0 rfl (fun _ => rfl) ⟨rfl, trivial⟩ ⟨Nat.zero_le _, inferInstance, inferInstance, inferInstance⟩ (by unfold fuel0 at hn; omega) ?_
 rintro k g2 H6 ⟨hk, hb6, hw6, ⟨hx6⟩⟩
 simp only [↓nrmL, nrmZ, qe, ↓reduceIte, qz, qa, qn]
 have hpl := prtR_len a b b.length i k
 cases hc2 : decide ((k : Int) ≤ (b.length : Int))
 ·have hkb : k = b.length + 1 := by have := of_decide_eq_false hc2; omega
  subst hkb
  have hfull : prtR a b b.length i (b.length + 1) = mixR a b b.length i 0 := by
   apply List.ext_getElem
   ·rw [prtR_len, mixR_len]
   ·intro c h3 h4
    rw [prtR_get h3, mixR_get h4, if_neg (Nat.not_lt_zero _), if_pos (by rw [prtR_len] at h3; exact h3)]
  rw [hfull] at hb6
  repeat first | refine Fo.lenStr (rfl : _ = strV _) rfl ?_ | refine Fo.mov (rfl : _ = strV _) ?_ | refine mv ?_ | refine bn rfl rfl rfl (by simp only [↓nrmL, nrmZ, qe, ↓reduceIte, qz, qa, qn, hc2]; rfl) ?_ | refine b0 ?_ | refine nl hKF ?_ | refine sq ?_ | refine rg fun KF hKF => ?_ | refine cf rfl ?_ | refine xi ?_ | dsimp only
  haveI : ExtI H H4 := ⟨hext4⟩
  have hext6 : Ext H H6 := by
   refine ⟨Nat.le_trans hext4.n hx6.n, fun r hr => ?_⟩
   rw [hx6.get r (Nat.lt_of_lt_of_le hr hext4.n) ⟨fun r' off len cap sz e => by have := hfq.ge _ _ _ _ _ e; omega⟩]
   exact hext4.get r hr
  refine ⟨i + 1, by omega, ⟨by simp only [↓nrmL, nrmZ, qe, ↓reduceIte, qz, qa, qn]; rw [hwi], trivial⟩, by omega, inferInstance, hext6, qs.set i q, inferInstance, fun r hr => ?_⟩
  by_cases e : r = i
  ·subst e
   exact ⟨q, hqi, hb6, spq⟩
  ·obtain ⟨q', h3, h4, h5, h6⟩ := hrow4 r (by omega)
   haveI := h4
   haveI := h6
   exact ⟨q', h3, inferInstance, h5⟩
 have hkl : k ≤ b.length := by have := of_decide_eq_true hc2; omega
 have hwk := wa1 (a := k) (by omega)
 cases h3 : ((i : Int) == 0)
 rotate_left
 ·have hi0 : i = 0 := by have : (i : Int) = 0 := (by simpa using h3); omega
  have hv : ((k : Nat) : Int) = (lvD a b i k : Int) := by rw [hi0, lvD_0 _ _ hkl]
  repeat first | refine Fo.lenStr (rfl : _ = strV _) rfl ?_ | refine Fo.mov (rfl : _ = strV _) ?_ | refine mv ?_ | refine bn rfl rfl rfl (by simp only [↓nrmL, nrmZ, qe, ↓reduceIte, qz, qa, qn, hc2, h3]; rfl) ?_ | (refine Fo.idx (by simp only [↓nrmL, nrmK, qe, ↓reduceIte]; rfl) rfl ?_ (by simp only [↓nrmL, nrmZ, qe, ↓reduceIte, qz, qa, qn, hc2, h3]; rfl) ?_; (focus omega)) | refine Fo.ldP rfl (by assumption) ?_ | refine nl hKF ?_ | refine sq ?_ | refine rg fun KF hKF => ?_ | refine ct rfl ?_ | refine sk ?_ | refine Wp.block ?_
  refine WpO.do' (WpX.stI (p := q) (j := k) (l := prtR a b b.length i k) (b := (k : Int)) rfl rfl (by omega) fun H7 hb7 hw7 hx7 => ?_)
  rw [hv, prtR_set] at hb7
  repeat first | refine mv ?_ | refine b0 ?_ | refine nl hKF ?_ | refine rg fun KF hKF => ?_ | dsimp only
  refine ⟨k + 1, by omega, ⟨by simp only [↓nrmL, nrmZ, qe, ↓reduceIte, qz, qa, qn]; rw [hwk], trivial⟩, by omega, inferInstance, inferInstance, inferInstance⟩
 have hi0 : 0 < i := by have := beq_eq_false_iff_ne.1 h3; omega
 cases h4 : ((k : Int) == 0)
 rotate_left
 ·have hk0 : k = 0 := by have : (k : Int) = 0 := (by simpa using h4); omega
  have hv : ((i : Nat) : Int) = (lvD a b i k : Int) := by rw [hk0, lvD_end _ _ hil]
  repeat first | refine Fo.lenStr (rfl : _ = strV _) rfl ?_ | refine Fo.mov (rfl : _ = strV _) ?_ | refine mv ?_ | refine bn rfl rfl rfl (by simp only [↓nrmL, nrmZ, qe, ↓reduceIte, qz, qa, qn, hc2, h3, h4]; rfl) ?_ | (refine Fo.idx (by simp only [↓nrmL, nrmK, qe, ↓reduceIte]; rfl) rfl ?_ (by simp only [↓nrmL, nrmZ, qe, ↓reduceIte, qz, qa, qn, hc2, h3, h4]; rfl) ?_; (focus omega)) | refine Fo.ldP rfl (by assumption) ?_ | refine nl hKF ?_ | refine sq ?_ | refine rg fun KF hKF => ?_ | refine ct rfl ?_ | refine cf rfl ?_ | refine sk ?_ | refine Wp.block ?_
  refine WpO.do' (WpX.stI (p := q) (j := k) (l := prtR a b b.length i k) (b := (i : Int)) rfl rfl (by omega) fun H7 hb7 hw7 hx7 => ?_)
  rw [hv, prtR_set] at hb7
  repeat first | refine mv ?_ | refine b0 ?_ | refine nl hKF ?_ | refine rg fun KF hKF => ?_ | dsimp only
  refine ⟨k + 1, by omega, ⟨by simp only [↓nrmL, nrmZ, qe, ↓reduceIte, qz, qa, qn]; rw [hwk], trivial⟩, by omega, inferInstance, inferInstance, inferInstance⟩
 have hk0 : 0 < k := by have := beq_eq_false_iff_ne.1 h4; omega
 obtain ⟨i', rfl⟩ : ∃ i', i = i' + 1 := ⟨i - 1, by omega⟩
 obtain ⟨k', rfl⟩ : ∃ k', k = k' + 1 := ⟨k - 1, by omega⟩
 have hia : i' < a.length := by omega
 have hkb : k' < b.length := by omega
 have hwi1 : IntKind.i64.wrap (((i' + 1 : Nat) : Int) - 1) = (i' : Int) := by rw [w64 (by omega)]; omega
 have hwk1 : IntKind.i64.wrap (((k' + 1 : Nat) : Int) - 1) = (k' : Int) := by rw [w64 (by omega)]; omega
 obtain ⟨q', h5, h6, h7, h8⟩ := hrow4 i' (Nat.lt_succ_self _)
 haveI := h6
 haveI := h8
 haveI := h6.one
 have hml := mixR_len a b b.length i' 0
 have hm1 : (mixR a b b.length i' 0)[k']'(by omega) = (lvD a b i' k' : Int) := by rw [mixR_get, if_neg (Nat.not_lt_zero _)]
 have hm2 : (mixR a b b.length i' 0)[k' + 1]'(by omega) = (lvD a b i' (k' + 1) : Int) := by rw [mixR_get, if_neg (Nat.not_lt_zero _)]
 have hm3 : (prtR a b b.length (i' + 1) (k' + 1))[k']'(by omega) = (lvD a b (i' + 1) k' : Int) := by rw [prtR_get, if_pos (Nat.lt_succ_self _)]
 haveI hq6 : IntsI H6 q' (mixR a b b.length i' 0) := inferInstance
 haveI hqq : SliceAt H6 q0 1 (a.length + 1) (qs.set (i' + 1) q) := inferInstance
 cases hd : ((a[i'].toNat : Int) == (b[k'].toNat : Int))
 ·have he : a[i'] ≠ b[k'] := fun e => by rw [e] at hd; simp at hd
  have hle : lvD a b i' k' ≤ i' + k' := lvD_le (by omega) (by omega)
  have hmn : IntKind.i64.wrap (1 + (if (lvD a b (i' + 1) k' : Int) < (if (lvD a b i' (k' + 1) : Int) < (lvD a b i' k' : Int) then (lvD a b i' (k' + 1) : Int) else (lvD a b i' k' : Int)) then (lvD a b (i' + 1) k' : Int) else (if (lvD a b i' (k' + 1) : Int) < (lvD a b i' k' : Int) then (lvD a b i' (k' + 1) : Int) else (lvD a b i' k' : Int)))) = (lvD a b (i' + 1) (k' + 1) : Int) := by
   rw [lvD_ne hia hkb he]
   rw [w64 (by repeat' split; all_goals omega)]
   repeat' split
   all_goals omega
  repeat first | refine Fo.lenStr (rfl : _ = strV _) rfl ?_ | (refine Fo.idxStr (rfl : _ = strV _) rfl ?_ rfl ?_; (focus omega)) | refine Fo.mov (rfl : _ = strV _) ?_ | refine mv ?_ | refine bn rfl rfl rfl (by simp only [↓nrmL, nrmZ, qe, ↓reduceIte, qz, qa, qn, hc2, h3, h4, hwi1, hwk1, hd]; rfl) ?_ | refine nl hKF ?_ | refine sq ?_ | refine rg fun KF hKF => ?_ | refine Fr.quiet rfl rfl fun KF hKF => ?_ | refine ct rfl ?_ | refine cf rfl ?_ | refine sk ?_ | refine Wp.block ?_ | dsimp only
  refine Fr.dregion0 rfl fun KF hKF => ?_
  repeat first | refine Fe.pure rfl rfl (by simp only [↓nrmL, nrmZ, qe, ↓reduceIte, qz, qa, qn, hwi1, hwk1, hm1, hm2, hm3, Bool.false_eq_true, if_false, hmn]; rfl) ?_ | (refine Fe.pure rfl (exec_idxP (by (try simp only [↓nrmL, nrmZ, qe, ↓reduceIte, qz, qa, qn, hwi1, hwk1, hm1, hm2, hm3, Bool.false_eq_true, if_false, hmn]); rfl) rfl ?_) (by simp only [↓nrmL, nrmZ, qe, ↓reduceIte, qz, qa, qn, hwi1, hwk1, hm1, hm2, hm3, Bool.false_eq_true, if_false, hmn]; rfl) ?_; (focus omega)) | refine Er rfl (exec_ldP rfl (by assumption)) rfl ?_ | refine Er rfl (exec_ldI rfl (by omega)) (by simp only [↓nrmL, nrmZ, qe, ↓reduceIte, qz, qa, qn, hwi1, hwk1, hm1, hm2, hm3, Bool.false_eq_true, if_false, hmn]; rfl) ?_
  refine WpE.stI (p := q) (j := k' + 1) (l := prtR a b b.length (i' + 1) (k' + 1)) (c := (lvD a b (i' + 1) (k' + 1) : Int)) rfl rfl rfl (by omega) fun H7 hb7 hw7 hx7 => ar ?_
  rw [prtR_set] at hb7
  refine WpE.nil (hKF _ _ ?_)
  refine rg fun KF hKF => ?_
  refine mv ?_
  refine b0 ?_
  refine mv ?_
  refine nl hKF ?_
  dsimp only
  refine ⟨k' + 1 + 1, by omega, ⟨by simp only [↓nrmL, nrmZ, qe, ↓reduceIte, qz, qa, qn]; rw [hwk], trivial⟩, by omega, inferInstance, inferInstance, inferInstance⟩
 ·have he : a[i'] = b[k'] := by
   apply UInt8.toNat_inj.1
   have : (a[i'].toNat : Int) = (b[k'].toNat : Int) := by simpa using hd
   omega
  repeat first | refine Fo.lenStr (rfl : _ = strV _) rfl ?_ | (refine Fo.idxStr (rfl : _ = strV _) rfl ?_ rfl ?_; (focus omega)) | refine Fo.mov (rfl : _ = strV _) ?_ | refine mv ?_ | refine bn rfl rfl rfl (by simp only [↓nrmL, nrmZ, qe, ↓reduceIte, qz, qa, qn, hc2, h3, h4, hwi1, hwk1, hd]; rfl) ?_ | refine nl hKF ?_ | refine sq ?_ | refine rg fun KF hKF => ?_ | refine Fr.quiet rfl rfl fun KF hKF => ?_ | refine ct rfl ?_ | refine cf rfl ?_ | refine sk ?_ | refine Wp.block ?_ | dsimp only
  refine Fr.dregion0 rfl fun KF hKF => ?_
  repeat first | refine Fe.pure rfl rfl (by simp only [↓nrmL, nrmZ, qe, ↓reduceIte, qz, qa, qn, hwi1, hwk1, hm1]; rfl) ?_ | (refine Fe.pure rfl (exec_idxP (by (try simp only [↓nrmL, nrmZ, qe, ↓reduceIte, qz, qa, qn, hwi1, hwk1, hm1]); rfl) rfl ?_) (by simp only [↓nrmL, nrmZ, qe, ↓reduceIte, qz, qa, qn, hwi1, hwk1, hm1]; rfl) ?_; (focus omega)) | refine Er rfl (exec_ldP rfl (by assumption)) rfl ?_ | refine Er rfl (exec_ldI rfl (by omega)) (by simp only [↓nrmL, nrmZ, qe, ↓reduceIte, qz, qa, qn, hwi1, hwk1, hm1]; rfl) ?_
  refine WpE.stI (p := q) (j := k' + 1) (l := prtR a b b.length (i' + 1) (k' + 1)) (c := (lvD a b i' k' : Int)) rfl rfl rfl (by omega) fun H7 hb7 hw7 hx7 => ar ?_
  rw [← lvD_eq hia hkb he, prtR_set] at hb7
  refine WpE.nil (hKF _ _ ?_)
  refine rg fun KF hKF => ?_
  refine mv ?_
  refine b0 ?_
  refine mv ?_
  refine nl hKF ?_
  dsimp only
  refine ⟨k' + 1 + 1, by omega, ⟨by simp only [↓nrmL, nrmZ, qe, ↓reduceIte, qz, qa, qn]; rw [hwk], trivial⟩, by omega, inferInstance, inferInstance, inferInstance⟩⟩
end Go.Am

namespace Go.Am
open Go
open Nat renaming reduceEqDiff → qe, reduceAdd → qz
open Int renaming reduceBEq → qa, reduceBNe → qn
attribute [local irreducible] Wp WpO WpX WpE
instance K_check {ls : List Opts} {p : AVal} {H : AHeap} [hp : LineI H p ls] [hsl : SlimO ls] : PureCon ext prog 74 [p] H 1 (.int .i64 (badLine ls)) := ⟨by
 refine con_of (show prog 74 = some c74 from rfl) rfl rfl fun n hn => ?_
 obtain ⟨qs, hqs, hrw⟩ := hp.it
 haveI := hqs.one
 have hlen := hsl.len
 cases h24 : decide ((ls.length : Int) > 24)
 rotate_left
 ·have e : badLine ls = 4 := by have := of_decide_eq_true h24; unfold badLine; rw [if_pos (by omega)]
  repeat first | refine mI ?_ | refine mv ?_ | refine bn rfl rfl rfl (by simp only [h24]; rfl) ?_ | refine ln (by simp only [↓nrmL, nrmK, qe, ↓reduceIte]; rfl) ?_ | refine nl hKF ?_ | refine sq ?_ | refine rg fun KF hKF => ?_ | refine ct rfl ?_ | refine rt ?_ | dsimp only
  refine rz trivial ?_
  exact ⟨by rw [e]; rfl, Ext0.ext⟩
 have hl24 : ls.length ≤ 24 := by have := of_decide_eq_false h24; omega
 have ebad : ∀ {i : Nat} (hi : i < ls.length), signB ls[i] = false → badLine ls = 1 := fun hi h => by
  unfold badLine
  rw [if_neg (by omega), if_neg]
  intro h2
  have := List.all_eq_true.1 h2 _ (List.getElem_mem hi)
  rw [h] at this; cases this
 repeat first | refine mI ?_ | refine mv ?_ | refine bn rfl rfl rfl (by simp only [h24]; rfl) ?_ | refine ln (by simp only [↓nrmL, nrmK, qe, ↓reduceIte]; rfl) ?_ | refine nl hKF ?_ | refine sq ?_ | refine rg fun KF hKF => ?_ | refine cf rfl ?_ | refine sk ?_ | refine Wp.block ?_ | dsimp only
 refine Wp.loopS [2, 3, 4, 5, 6, 10, 11, 12, 13, 14, 15, 16, 17, 18, 19, 20, 21, 22, 23, 24, 25, 26, 27, 28, 29, 30, 31, 32, 33, 34, 35, 36, 37, 38, 39, 40, 41, 42, 43, 44, 45, 46, 47, 48, 49, 50, 51, 52, 53, 54, 55, 56, 57, 58, 59, 60, 61, 62, 63, 64, 65] (fun i : Nat => [(3, .int .i64 (i : Int))]) (fun _ i H2 => i ≤ ls.length ∧ (∀ (r : Nat) (h : r < ls.length), r < i → signB ls[r] = true) ∧ Ext H H2) (fun i => ls.length - i) 0 rfl (fun _ => rfl) ⟨rfl, trivial⟩ ⟨Nat.zero_le _, fun r _ h => absurd h (Nat.not_lt_zero _), Ext0.ext⟩ (by unfold fuel0 at hn; omega) ?_
 rintro i g H2 ⟨hi, hsg, hx2⟩
 haveI : ExtI H H2 := ⟨hx2⟩
 simp only [↓nrmL, nrmZ, qe, ↓reduceIte, qz, qa, qn]
 cases hc : decide ((i : Int) < (ls.length : Int))
 ·have hil : i = ls.length := by have := of_decide_eq_false hc; omega
  subst hil
  have e : badLine ls = 0 := by
   unfold badLine
   rw [if_neg (by omega), if_pos]
   exact List.all_eq_true.2 fun x hx => by
    obtain ⟨r, hr, rfl⟩ := List.mem_iff_getElem.1 hx
    exact hsg r hr hr
  repeat first | refine mI ?_ | refine mv ?_ | refine bn rfl rfl rfl (by simp only [hc]; rfl) ?_ | refine ln (by simp only [↓nrmL, nrmK, qe, ↓reduceIte]; rfl) ?_ | refine nl hKF ?_ | refine sq ?_ | refine rg fun KF hKF => ?_ | refine cf rfl ?_ | refine rt ?_ | refine xi ?_ | dsimp only
  refine rz trivial ?_
  exact ⟨by rw [e]; rfl, Ext0.ext⟩
 have hil : i < ls.length := by have := of_decide_eq_true hc; omega
 have hwi := wa1 (a := i) (by omega)
 obtain ⟨q, hq, hI⟩ := hrw i hil
 haveI := hI
 haveI := hI.one
 have hll := hsl.it i hil
 obtain ⟨l, el⟩ : ∃ l, l = ls[i] := ⟨_, rfl⟩
 rw [← el] at hI hll
 haveI := hI
 repeat first | refine mI ?_ | refine mv ?_ | refine bn rfl rfl rfl (by simp only [hc]; rfl) ?_ | refine ln (by simp only [↓nrmL, nrmK, qe, ↓reduceIte]; rfl) ?_ | refine nl hKF ?_ | refine sq ?_ | refine rg fun KF hKF => ?_ | refine ct rfl ?_ | refine sk ?_ | refine Wp.block ?_ | dsimp only
 refine Wp.loopS [2, 4, 5, 6, 16, 17, 18, 19, 20, 21, 22, 23, 24, 25, 26, 27, 28, 29, 30, 31, 32, 33, 34, 35, 36, 37, 38, 39, 40, 41, 42, 43, 44, 45, 46, 47, 48, 49, 50, 51, 52, 53, 54, 55, 56, 57, 58, 59, 60, 61, 62, 63, 64, 65] (fun k : Nat => [(4, .int .i64 (k : Int))]) (fun _ k H4 => k ≤ l.length ∧ signTo l k = true ∧ Ext H H4) (fun k => l.length - k) 0 rfl (fun _ => rfl) ⟨rfl, trivial⟩ ⟨Nat.zero_le _, rfl, hx2⟩ (by unfold fuel0 at hn; omega) ?_
 rintro k g2 H4 ⟨hk, hst, hx4⟩
 haveI : ExtI H H4 := ⟨hx4⟩
 simp only [↓nrmL, nrmZ, qe, ↓reduceIte, qz, qa, qn]
 cases hc2 : decide ((k : Int) < (l.length : Int))
 ·have hkl : k = l.length := by have := of_decide_eq_false hc2; omega
  subst hkl
  repeat first | refine mI ?_ | refine mv ?_ | refine bn rfl rfl rfl (by simp only [hc2]; rfl) ?_ | refine b0 ?_ | refine ln (by simp only [↓nrmL, nrmK, qe, ↓reduceIte]; rfl) ?_ | (refine Fo.idx (by simp only [↓nrmL, nrmK, qe, ↓reduceIte]; rfl) rfl ?_ (by simp only [↓nrmL, nrmZ, qe, ↓reduceIte, qz, qa, qn, hc2]; rfl) ?_; (focus omega)) | refine Fo.ldP rfl (by assumption) ?_ | refine nl hKF ?_ | refine sq ?_ | refine rg fun KF hKF => ?_ | refine cf rfl ?_ | refine xi ?_ | dsimp only
  refine ⟨i + 1, by omega, ⟨by simp only [↓nrmL, nrmZ, qe, ↓reduceIte, qz, qa, qn]; rw [hwi], trivial⟩, by omega, fun r hr hri => ?_, Ext0.ext⟩
  by_cases e : r = i
  ·subst e; rw [← el]; exact hst
  ·exact hsg r hr (by omega)
 have hkl : k < l.length := by have := of_decide_eq_true hc2; omega
 have hwk := wa1 (a := k) (by omega)
 have hg := getO_at hkl
 have ebk : okO l k = false → badLine ls = 1 := fun h => ebad hil (by rw [← el]; exact signTo_bad h hkl)
 cases m1 : decide (l[k].2 < 0)
 rotate_left
 ·have e := ebk (by have := of_decide_eq_true m1; simp only [okO, inO, hg]; rw [decide_eq_false (show ¬ 0 ≤ l[k].2 by omega)]; simp)
  repeat first | refine ox ?_ | refine mI ?_ | refine mB ?_ | refine mv ?_ | refine fd ?_ | refine Fo.ld rfl rfl ?_ | refine bn rfl rfl rfl (by simp only [hc2, m1]; rfl) ?_ | refine tB ?_ | refine ln (by simp only [↓nrmL, nrmK, qe, ↓reduceIte]; rfl) ?_ | refine nw ?_ | (refine Fo.idx (by simp only [↓nrmL, nrmK, qe, ↓reduceIte]; rfl) rfl ?_ (by simp only [↓nrmL, nrmZ, qe, ↓reduceIte, qz, qa, qn, hc2, m1]; rfl) ?_; (focus omega)) | refine Fo.ldP rfl (by assumption) ?_ | (refine Fo.ldO rfl ?_ ?_; (focus omega)) | refine so rfl (rfl : _ = AVal.agg _) rfl rfl rfl (by simp only [↓nrmL, nrmZ, qe, ↓reduceIte, qz, qa, qn, hc2, m1]; rfl) ?_ | refine nl hKF ?_ | refine sq ?_ | refine rg fun KF hKF => ?_ | refine ct rfl ?_ | refine sk ?_ | refine rt ?_ | refine Wp.block ?_ | dsimp only
  refine rz trivial ?_
  exact ⟨by rw [e]; rfl, Ext0.ext⟩
 cases m2 : decide (l[k].2 > 1000000)
 rotate_left
 ·have e := ebk (by have := of_decide_eq_true m2; simp only [okO, inO, hg]; rw [decide_eq_false (show ¬ l[k].2 ≤ 1000000 by omega)]; simp)
  repeat first | refine oy ?_ | refine ox ?_ | refine mI ?_ | refine mB ?_ | refine mv ?_ | refine fd ?_ | refine Fo.ld rfl rfl ?_ | refine bn rfl rfl rfl (by simp only [hc2, m1, m2]; rfl) ?_ | refine tB ?_ | refine fB ?_ | refine ln (by simp only [↓nrmL, nrmK, qe, ↓reduceIte]; rfl) ?_ | refine nw ?_ | (refine Fo.idx (by simp only [↓nrmL, nrmK, qe, ↓reduceIte]; rfl) rfl ?_ (by simp only [↓nrmL, nrmZ, qe, ↓reduceIte, qz, qa, qn, hc2, m1, m2]; rfl) ?_; (focus omega)) | refine Fo.ldP rfl (by assumption) ?_ | (refine Fo.ldO rfl ?_ ?_; (focus omega)) | refine so rfl (rfl : _ = AVal.agg _) rfl rfl rfl (by simp only [↓nrmL, nrmZ, qe, ↓reduceIte, qz, qa, qn, hc2, m1, m2]; rfl) ?_ | refine nl hKF ?_ | refine sq ?_ | refine rg fun KF hKF => ?_ | refine ct rfl ?_ | refine sk ?_ | refine rt ?_ | refine Wp.block ?_ | dsimp only
  refine rz trivial ?_
  exact ⟨by rw [e]; rfl, Ext0.ext⟩
 cases m3 : decide (l[k].1 < 0)
 rotate_left
 ·have e := ebk (by have := of_decide_eq_true m3; simp only [okO, inO, hg]; rw [decide_eq_false (show ¬ 0 ≤ l[k].1 by omega)]; simp)
  repeat first | refine oy ?_ | refine ox ?_ | refine mI ?_ | refine mB ?_ | refine mv ?_ | refine fd ?_ | refine Fo.ld rfl rfl ?_ | refine bn rfl rfl rfl (by simp only [hc2, m1, m2, m3]; rfl) ?_ | refine tB ?_ | refine fB ?_ | refine ln (by simp only [↓nrmL, nrmK, qe, ↓reduceIte]; rfl) ?_ | refine nw ?_ | (refine Fo.idx (by simp only [↓nrmL, nrmK, qe, ↓reduceIte]; rfl) rfl ?_ (by simp only [↓nrmL, nrmZ, qe, ↓reduceIte, qz, qa, qn, hc2, m1, m2, m3]; rfl) ?_; (focus omega)) | refine Fo.ldP rfl (by assumption) ?_ | (refine Fo.ldO rfl ?_ ?_; (focus omega)) | refine so rfl (rfl : _ = AVal.agg _) rfl rfl rfl (by simp only [↓nrmL, nrmZ, qe, ↓reduceIte, qz, qa, qn, hc2, m1, m2, m3]; rfl) ?_ | refine nl hKF ?_ | refine sq ?_ | refine rg fun KF hKF => ?_ | refine ct rfl ?_ | refine sk ?_ | refine rt ?_ | refine Wp.block ?_ | dsimp only
  refine rz trivial ?_
  exact ⟨by rw [e]; rfl, Ext0.ext⟩
 cases m4 : decide (l[k].1 > 27)
 rotate_left
 ·have e := ebk (by have := of_decide_eq_true m4; simp only [okO, inO, hg]; rw [decide_eq_false (show ¬ l[k].1 ≤ 27 by omega)]; simp)
  repeat first | refine oy ?_ | refine mI ?_ | refine mB ?_ | refine mv ?_ | refine fd ?_ | refine Fo.ld rfl rfl ?_ | refine bn rfl rfl rfl (by simp only [hc2, m1, m2, m3, m4]; rfl) ?_ | refine fB ?_ | refine ln (by simp only [↓nrmL, nrmK, qe, ↓reduceIte]; rfl) ?_ | refine nw ?_ | (refine Fo.idx (by simp only [↓nrmL, nrmK, qe, ↓reduceIte]; rfl) rfl ?_ (by simp only [↓nrmL, nrmZ, qe, ↓reduceIte, qz, qa, qn, hc2, m1, m2, m3, m4]; rfl) ?_; (focus omega)) | refine Fo.ldP rfl (by assumption) ?_ | (refine Fo.ldO rfl ?_ ?_; (focus omega)) | refine so rfl (rfl : _ = AVal.agg _) rfl rfl rfl (by simp only [↓nrmL, nrmZ, qe, ↓reduceIte, qz, qa, qn, hc2, m1, m2, m3, m4]; rfl) ?_ | refine nl hKF ?_ | refine sq ?_ | refine rg fun KF hKF => ?_ | refine ct rfl ?_ | refine sk ?_ | refine rt ?_ | refine Wp.block ?_ | dsimp only
  refine rz trivial ?_
  exact ⟨by rw [e]; rfl, Ext0.ext⟩
 have hin : inO l[k] = true := by
  have := of_decide_eq_false m1; have := of_decide_eq_false m2; have := of_decide_eq_false m3; have := of_decide_eq_false m4
  simp only [inO, Bool.and_eq_true, decide_eq_true_eq]; omega
 repeat first | refine oy ?_ | refine mI ?_ | refine mB ?_ | refine mv ?_ | refine fd ?_ | refine Fo.ld rfl rfl ?_ | refine bn rfl rfl rfl (by simp only [hc2, m1, m2, m3, m4]; rfl) ?_ | refine fB ?_ | refine ln (by simp only [↓nrmL, nrmK, qe, ↓reduceIte]; rfl) ?_ | refine nw ?_ | (refine Fo.idx (by simp only [↓nrmL, nrmK, qe, ↓reduceIte]; rfl) rfl ?_ (by simp only [↓nrmL, nrmZ, qe, ↓reduceIte, qz, qa, qn, hc2, m1, m2, m3, m4]; rfl) ?_; (focus omega)) | refine Fo.ldP rfl (by assumption) ?_ | (refine Fo.ldO rfl ?_ ?_; (focus omega)) | refine so rfl (rfl : _ = AVal.agg _) rfl rfl rfl (by simp only [↓nrmL, nrmZ, qe, ↓reduceIte, qz, qa, qn, hc2, m1, m2, m3, m4]; rfl) ?_ | refine nl hKF ?_ | refine sq ?_ | refine rg fun KF hKF => ?_ | refine ct rfl ?_ | refine cf rfl ?_ | refine sk ?_ | refine Wp.block ?_ | dsimp only
 refine Wp.loopS [2, 6, 50, 51, 52, 53, 54, 55, 56, 57, 58, 59, 60, 61, 62, 63, 64, 65] (fun j : Nat => [(6, .int .i64 (j : Int))]) (fun H5 j H6 => j ≤ k ∧ (∀ (r : Nat) (h : r < l.length), r < j → l[r].1 ≠ l[k].1) ∧ Ext0 H5 H6) (fun j => k - j) 0 rfl (fun _ => rfl) ⟨rfl, trivial⟩ ⟨Nat.zero_le _, fun r _ h => absurd h (Nat.not_lt_zero _), inferInstance⟩ (by unfold fuel0 at hn; omega) ?_
 rintro j g3 H6 ⟨hj, hno, ⟨hx6⟩⟩
 haveI : ExtI _ H6 := ⟨hx6⟩
 simp only [↓nrmL, nrmZ, qe, ↓reduceIte, qz, qa, qn]
 cases hc3 : decide ((j : Int) < (k : Int))
 ·have hjk : j = k := by have := of_decide_eq_false hc3; omega
  subst hjk
  have hsn : seenB l j l[j].1 = false := by
   rw [seenB, List.any_eq_false]
   intro o ho
   obtain ⟨r, hr, rfl⟩ := List.mem_iff_getElem.1 ho
   rw [List.length_take] at hr
   rw [List.getElem_take]
   simpa using hno r (by omega) (by omega)
  have e2 : signTo l (j + 1) = true := by rw [signTo_succ, hst, okO, hg, hin, hsn]; rfl
  repeat first | refine mI ?_ | refine bn rfl rfl rfl (by simp only [hc3]; rfl) ?_ | refine b0 ?_ | refine nl hKF ?_ | refine sq ?_ | refine rg fun KF hKF => ?_ | refine cf rfl ?_ | refine xi ?_ | dsimp only
  refine ⟨j + 1, by omega, ⟨by simp only [↓nrmL, nrmZ, qe, ↓reduceIte, qz, qa, qn]; rw [hwk], trivial⟩, by omega, e2, Ext0.ext⟩
 have hjk : j < k := by have := of_decide_eq_true hc3; omega
 have hwj := wa1 (a := j) (by omega)
 cases hd : (l[j].1 == l[k].1)
 ·skip
  repeat first | refine mI ?_ | refine mv ?_ | refine fd ?_ | refine Fo.ld rfl rfl ?_ | refine bn rfl rfl rfl (by simp only [hc3, hd]; rfl) ?_ | refine b0 ?_ | (refine Fo.idx (by simp only [↓nrmL, nrmK, qe, ↓reduceIte]; rfl) rfl ?_ (by simp only [↓nrmL, nrmZ, qe, ↓reduceIte, qz, qa, qn, hc3, hd]; rfl) ?_; (focus omega)) | refine Fo.ldP rfl (by assumption) ?_ | (refine Fo.ldO1 rfl ?_ ?_; (focus omega)) | refine nl hKF ?_ | refine sq ?_ | refine rg fun KF hKF => ?_ | refine Fr.quiet rfl rfl fun KF hKF => ?_ | refine ct rfl ?_ | refine cf rfl ?_ | refine sk ?_ | refine Wp.block ?_ | dsimp only
  refine ⟨j + 1, by omega, ⟨by simp only [↓nrmL, nrmZ, qe, ↓reduceIte, qz, qa, qn]; rw [hwj], trivial⟩, by omega, fun r hr hrj => ?_, inferInstance⟩
  by_cases e : r = j
  ·subst e; simpa using hd
  ·exact hno r hr (by omega)
 ·have e := ebk (by
   have : seenB l k l[k].1 = true := by
    rw [seenB, List.any_eq_true]
    exact ⟨l[j], List.mem_take_iff_getElem.2 ⟨j, by omega, rfl⟩, hd⟩
   simp only [okO, hg, this, Bool.not_true, Bool.and_false])
  repeat first | refine mI ?_ | refine mv ?_ | refine fd ?_ | refine Fo.ld rfl rfl ?_ | refine bn rfl rfl rfl (by simp only [hc3, hd]; rfl) ?_ | (refine Fo.idx (by simp only [↓nrmL, nrmK, qe, ↓reduceIte]; rfl) rfl ?_ (by simp only [↓nrmL, nrmZ, qe, ↓reduceIte, qz, qa, qn, hc3, hd]; rfl) ?_; (focus omega)) | refine Fo.ldP rfl (by assumption) ?_ | (refine Fo.ldO1 rfl ?_ ?_; (focus omega)) | refine nl hKF ?_ | refine sq ?_ | refine rg fun KF hKF => ?_ | refine Fr.quiet rfl rfl fun KF hKF => ?_ | refine ct rfl ?_ | refine sk ?_ | refine rt ?_ | refine Wp.block ?_ | dsimp only
  refine rz trivial ?_
  exact ⟨by rw [e]; rfl, Ext0.ext⟩⟩
theorem charS_in {s : Bs} {i : Nat} (h : i < s.length) : charS s i = letS s[i] := by
 rw [charS, if_pos h, getBD_at h]
theorem K_sum {ls : List Opts} {s : Bs} {p : AVal} {H : AHeap} [hp : LineI H p ls] [hsl : SlimO ls] [hls : LeT s.length 1000000] (hl24 : ls.length ≤ 24) (hall : ls.all signB = true) : Con ext prog 3 75 [p, strV s] H fun v H' => v = .int .i64 (sumS ls s ls.length) ∧ Ext H H' := by
 refine con_of (show prog 75 = some c75 from rfl) rfl rfl fun n hn => ?_
 obtain ⟨qs, hqs, hrw⟩ := hp.it
 haveI := hqs.one
 have hlen := hsl.len
 have hll := hls.le
 have hrange : ∀ k, k ≤ ls.length → 0 ≤ sumS ls s k ∧ sumS ls s k ≤ never * (k : Int) := by
  intro k
  induction k with
  | zero => intro _; simp [sumS]
  | succ k ih =>
   intro hk
   have h1 := ih (by omega)
   have h2 := costO_range (List.all_eq_true.1 hall _ (List.getElem_mem (show k < ls.length by omega))) (charS s k)
   rw [sumS_succ, getLD_at (by omega)]
   unfold never at *
   omega
 repeat first | refine mI ?_ | refine nl hKF ?_ | refine sq ?_ | refine rg fun KF hKF => ?_ | refine Wp.block ?_ | dsimp only
 refine Wp.loopS [5, 6, 7, 8, 9, 10, 11, 12, 13, 14, 15, 16, 17, 18, 19, 20, 21, 22, 23, 24, 25, 26, 27, 28, 29, 30, 31, 32, 33, 34, 35, 36, 37, 38, 39, 40, 41, 42, 43, 44, 45, 46, 47, 48, 49, 50, 51, 52, 53] (fun i : Nat => [(6, .int .i64 (i : Int)), (5, .int .i64 (sumS ls s i))]) (fun _ i H2 => i ≤ ls.length ∧ Ext H H2) (fun i => ls.length - i) 0 rfl (fun _ => rfl) ⟨rfl, rfl, trivial⟩ ⟨Nat.zero_le _, Ext0.ext⟩ (by unfold fuel0 at hn; omega) ?_
 rintro i g H2 ⟨hi, hx2⟩
 haveI : ExtI H H2 := ⟨hx2⟩
 simp only [↓nrmL, nrmZ, qe, ↓reduceIte, qz, qa, qn]
 cases hc : decide ((i : Int) < (ls.length : Int))
 ·have hil : i = ls.length := by have := of_decide_eq_false hc; omega
  subst hil
  repeat first | refine mI ?_ | refine mv ?_ | refine bn rfl rfl rfl (by simp only [hc]; rfl) ?_ | refine ln (by simp only [↓nrmL, nrmK, qe, ↓reduceIte]; rfl) ?_ | refine nl hKF ?_ | refine sq ?_ | refine rg fun KF hKF => ?_ | refine cf rfl ?_ | refine rt ?_ | refine xi ?_ | dsimp only
  refine rz trivial ?_
  exact ⟨rfl, Ext0.ext⟩
 have hil : i < ls.length := by have := of_decide_eq_true hc; omega
 have hwi := wa1 (a := i) (by omega)
 obtain ⟨q, hq, hI⟩ := hrw i hil
 haveI := hI
 haveI := hI.one
 have hlk := hsl.it i hil
 obtain ⟨l, el⟩ : ∃ l, l = ls[i] := ⟨_, rfl⟩
 rw [← el] at hI hlk
 haveI := hI
 have hr := hrange i hi
 have hco := costO_range (List.all_eq_true.1 hall _ (List.getElem_mem hil)) (charS s i)
 rw [← el] at hco
 have hws : IntKind.i64.wrap (sumS ls s i + costO l (charS s i)) = sumS ls s (i + 1) := by
  rw [sumS_succ, getLD_at hil, ← el, w64 (by unfold never at *; omega)]
 obtain ⟨c, ec⟩ : ∃ c, c = charS s i := ⟨_, rfl⟩
 rw [← ec] at hws
 cases h1 : decide ((i : Int) < (s.length : Int))
 ·have hc0 : c = 0 := by rw [ec, charS, if_neg (by have := of_decide_eq_false h1; omega)]
  rw [hc0] at hws
  repeat first | refine Fo.lenStr (rfl : _ = strV _) rfl ?_ | refine Fo.mov (rfl : _ = strV _) ?_ | refine mv ?_ | refine bn rfl rfl rfl (by simp only [hc, h1]; rfl) ?_ | refine ln (by simp only [↓nrmL, nrmK, qe, ↓reduceIte]; rfl) ?_ | refine nl hKF ?_ | refine sq ?_ | refine rg fun KF hKF => ?_ | refine ct rfl ?_ | refine cf rfl ?_ | refine sk ?_ | refine Wp.block ?_ | dsimp only
  refine Wp.loopS [8, 9, 24, 25, 26, 27, 28, 29, 30, 31, 32, 33, 34, 35, 36, 37, 38, 39, 40, 41, 42, 43, 44, 45, 46, 47, 48, 49, 50] (fun k : Nat => [(9, .int .i64 (k : Int)), (8, .int .i64 (costTo l k 0))]) (fun _ k H4 => k ≤ l.length ∧ Ext H H4) (fun k => l.length - k) 0 rfl (fun _ => rfl) ⟨rfl, rfl, trivial⟩ ⟨Nat.zero_le _, Ext0.ext⟩ (by unfold fuel0 at hn; omega) ?_
  rintro k g2 H4 ⟨hk, hx4⟩
  haveI : ExtI H H4 := ⟨hx4⟩
  simp only [↓nrmL, nrmZ, qe, ↓reduceIte, qz, qa, qn]
  cases hc2 : decide ((k : Int) < (l.length : Int))
  ·have hkl : k = l.length := by have := of_decide_eq_false hc2; omega
   subst hkl
   rw [← costTo_all] at hws
   repeat first | refine mI ?_ | refine mv ?_ | refine bn rfl rfl rfl (by simp only [hc2, hws]; rfl) ?_ | refine b0 ?_ | refine ln (by simp only [↓nrmL, nrmK, qe, ↓reduceIte]; rfl) ?_ | (refine Fo.idx (by simp only [↓nrmL, nrmK, qe, ↓reduceIte]; rfl) rfl ?_ (by simp only [↓nrmL, nrmZ, qe, ↓reduceIte, qz, qa, qn, hc2, hws]; rfl) ?_; (focus omega)) | refine Fo.ldP rfl (by assumption) ?_ | refine nl hKF ?_ | refine sq ?_ | refine rg fun KF hKF => ?_ | refine cf rfl ?_ | refine xi ?_ | dsimp only
   refine ⟨i + 1, by omega, ⟨by simp only [↓nrmL, nrmZ, qe, ↓reduceIte, qz, qa, qn]; rw [hwi], rfl, trivial⟩, hil, Ext0.ext⟩
  have hkl : k < l.length := by have := of_decide_eq_true hc2; omega
  have hwk := wa1 (a := k) (by omega)
  have hcs := costTo_succ (l := l) (k := k) (c := 0) hkl
  cases hd : (l[k].1 == 0)
  ·rw [if_neg (by simpa using hd)] at hcs
   repeat first | refine mI ?_ | refine mv ?_ | refine fd ?_ | refine bn rfl rfl rfl (by simp only [hc2, hd]; rfl) ?_ | refine b0 ?_ | refine ln (by simp only [↓nrmL, nrmK, qe, ↓reduceIte]; rfl) ?_ | (refine Fo.idx (by simp only [↓nrmL, nrmK, qe, ↓reduceIte]; rfl) rfl ?_ (by simp only [↓nrmL, nrmZ, qe, ↓reduceIte, qz, qa, qn, hc2, hd]; rfl) ?_; (focus omega)) | refine Fo.ldP rfl (by assumption) ?_ | (refine Fo.ldO1 rfl ?_ ?_; (focus omega)) | refine nl hKF ?_ | refine sq ?_ | refine rg fun KF hKF => ?_ | refine ct rfl ?_ | refine cf rfl ?_ | refine sk ?_ | refine Wp.block ?_ | dsimp only
   refine ⟨k + 1, by omega, ⟨by simp only [↓nrmL, nrmZ, qe, ↓reduceIte, qz, qa, qn]; rw [hwk], by simp only [↓nrmL, nrmZ, qe, ↓reduceIte, qz, qa, qn]; rw [hcs], trivial⟩, by omega, Ext0.ext⟩
  ·rw [if_pos (by simpa using hd)] at hcs
   repeat first | refine mI ?_ | refine mv ?_ | refine fd ?_ | refine bn rfl rfl rfl (by simp only [hc2, hd]; rfl) ?_ | refine b0 ?_ | refine ln (by simp only [↓nrmL, nrmK, qe, ↓reduceIte]; rfl) ?_ | (refine Fo.idx (by simp only [↓nrmL, nrmK, qe, ↓reduceIte]; rfl) rfl ?_ (by simp only [↓nrmL, nrmZ, qe, ↓reduceIte, qz, qa, qn, hc2, hd]; rfl) ?_; (focus omega)) | refine Fo.ldP rfl (by assumption) ?_ | (refine Fo.ldO1 rfl ?_ ?_; (focus omega)) | (refine Fo.ldO2 rfl ?_ ?_; (focus omega)) | refine nl hKF ?_ | refine sq ?_ | refine rg fun KF hKF => ?_ | refine ct rfl ?_ | refine sk ?_ | refine Wp.block ?_ | dsimp only
   refine ⟨k + 1, by omega, ⟨by simp only [↓nrmL, nrmZ, qe, ↓reduceIte, qz, qa, qn]; rw [hwk], by simp only [↓nrmL, nrmZ, qe, ↓reduceIte, qz, qa, qn]; rw [hcs], trivial⟩, by omega, Ext0.ext⟩
 ·have his : i < s.length := by have := of_decide_eq_true h1; omega
  have hcl := charS_in his
  rw [hcl] at ec
  rw [ec] at hws
  repeat first | refine Fo.lenStr (rfl : _ = strV _) rfl ?_ | (refine Fo.idxStr (rfl : _ = strV _) rfl ?_ rfl ?_; (focus omega)) | refine Fo.mov (rfl : _ = strV _) ?_ | refine mv ?_ | refine bn rfl rfl rfl (by simp only [hc, h1]; rfl) ?_ | (refine Fo.pcall (v' := ?_) hn rfl (by simp only [↓nrmL, nrmZ, qe, ↓reduceIte, qz, qa, qn, hc, h1, List.map]; rfl) rfl ?hv fun _ _ => ?_; case hv => rfl) | refine ln (by simp only [↓nrmL, nrmK, qe, ↓reduceIte]; rfl) ?_ | refine nl hKF ?_ | refine sq ?_ | refine rg fun KF hKF => ?_ | refine ct rfl ?_ | refine sk ?_ | refine Wp.block ?_ | dsimp only
  refine Wp.loopS [8, 9, 24, 25, 26, 27, 28, 29, 30, 31, 32, 33, 34, 35, 36, 37, 38, 39, 40, 41, 42, 43, 44, 45, 46, 47, 48, 49, 50] (fun k : Nat => [(9, .int .i64 (k : Int)), (8, .int .i64 (costTo l k (letS s[i] : Int)))]) (fun _ k H4 => k ≤ l.length ∧ Ext H H4) (fun k => l.length - k) 0 rfl (fun _ => rfl) ⟨rfl, rfl, trivial⟩ ⟨Nat.zero_le _, Ext0.ext⟩ (by unfold fuel0 at hn; omega) ?_
  rintro k g2 H4 ⟨hk, hx4⟩
  haveI : ExtI H H4 := ⟨hx4⟩
  simp only [↓nrmL, nrmZ, qe, ↓reduceIte, qz, qa, qn]
  cases hc2 : decide ((k : Int) < (l.length : Int))
  ·have hkl : k = l.length := by have := of_decide_eq_false hc2; omega
   subst hkl
   rw [← costTo_all] at hws
   repeat first | refine mI ?_ | refine mv ?_ | refine bn rfl rfl rfl (by simp only [hc2, hws]; rfl) ?_ | refine b0 ?_ | refine ln (by simp only [↓nrmL, nrmK, qe, ↓reduceIte]; rfl) ?_ | (refine Fo.idx (by simp only [↓nrmL, nrmK, qe, ↓reduceIte]; rfl) rfl ?_ (by simp only [↓nrmL, nrmZ, qe, ↓reduceIte, qz, qa, qn, hc2, hws]; rfl) ?_; (focus omega)) | refine Fo.ldP rfl (by assumption) ?_ | refine nl hKF ?_ | refine sq ?_ | refine rg fun KF hKF => ?_ | refine cf rfl ?_ | refine xi ?_ | dsimp only
   refine ⟨i + 1, by omega, ⟨by simp only [↓nrmL, nrmZ, qe, ↓reduceIte, qz, qa, qn]; rw [hwi], rfl, trivial⟩, hil, Ext0.ext⟩
  have hkl : k < l.length := by have := of_decide_eq_true hc2; omega
  have hwk := wa1 (a := k) (by omega)
  have hcs := costTo_succ (l := l) (k := k) (c := (letS s[i] : Int)) hkl
  cases hd : (l[k].1 == (letS s[i] : Int))
  ·rw [if_neg (by simpa using hd)] at hcs
   repeat first | refine mI ?_ | refine mv ?_ | refine fd ?_ | refine bn rfl rfl rfl (by simp only [hc2, hd]; rfl) ?_ | refine b0 ?_ | refine ln (by simp only [↓nrmL, nrmK, qe, ↓reduceIte]; rfl) ?_ | (refine Fo.idx (by simp only [↓nrmL, nrmK, qe, ↓reduceIte]; rfl) rfl ?_ (by simp only [↓nrmL, nrmZ, qe, ↓reduceIte, qz, qa, qn, hc2, hd]; rfl) ?_; (focus omega)) | refine Fo.ldP rfl (by assumption) ?_ | (refine Fo.ldO1 rfl ?_ ?_; (focus omega)) | refine nl hKF ?_ | refine sq ?_ | refine rg fun KF hKF => ?_ | refine ct rfl ?_ | refine cf rfl ?_ | refine sk ?_ | refine Wp.block ?_ | dsimp only
   refine ⟨k + 1, by omega, ⟨by simp only [↓nrmL, nrmZ, qe, ↓reduceIte, qz, qa, qn]; rw [hwk], by simp only [↓nrmL, nrmZ, qe, ↓reduceIte, qz, qa, qn]; rw [hcs], trivial⟩, by omega, Ext0.ext⟩
  ·rw [if_pos (by simpa using hd)] at hcs
   repeat first | refine mI ?_ | refine mv ?_ | refine fd ?_ | refine bn rfl rfl rfl (by simp only [hc2, hd]; rfl) ?_ | refine b0 ?_ | refine ln (by simp only [↓nrmL, nrmK, qe, ↓reduceIte]; rfl) ?_ | (refine Fo.idx (by simp only [↓nrmL, nrmK, qe, ↓reduceIte]; rfl) rfl ?_ (by simp only [↓nrmL, nrmZ, qe, ↓reduceIte, qz, qa, qn, hc2, hd]; rfl) ?_; (focus omega)) | refine Fo.ldP rfl (by assumption) ?_ | (refine Fo.ldO1 rfl ?_ ?_; (focus omega)) | (refine Fo.ldO2 rfl ?_ ?_; (focus omega)) | refine nl hKF ?_ | refine sq ?_ | refine rg fun KF hKF => ?_ | refine ct rfl ?_ | refine sk ?_ | refine Wp.block ?_ | dsimp only
   refine ⟨k + 1, by omega, ⟨by simp only [↓nrmL, nrmZ, qe, ↓reduceIte, qz, qa, qn]; rw [hwk], by simp only [↓nrmL, nrmZ, qe, ↓reduceIte, qz, qa, qn]; rw [hcs], trivial⟩, by omega, Ext0.ext⟩
end Go.Am

namespace Go.Am
open Go
open Nat renaming reduceEqDiff → qe, reduceAdd → qz
open Int renaming reduceBEq → qa, reduceBNe → qn
attribute [local irreducible] Wp WpO WpX WpE
instance K_refCost {ls : List Opts} {s : Bs} {p : AVal} {H : AHeap} [hp : LineI H p ls] [hsl : SlimO ls] [hls : LeT s.length 1000000] : PureCon ext prog 27 [p, strV s] H 12 (outC (costS ls s)) := ⟨by
 refine con_of (show prog 27 = some c27 from rfl) rfl rfl fun n hn => ?_
 haveI := hp.one
 have hll := hls.le
 cases hb : (badLine ls != 0)
 rotate_left
 ·have e : costS ls s = (0, badLine ls) := by unfold costS; rw [if_pos (by simpa using hb)]
  repeat first | refine mI ?_ | refine mv ?_ | refine bn rfl rfl rfl (by simp only [hb]; rfl) ?_ | (refine Fo.pcall (v' := ?_) hn rfl (by simp only [↓nrmL, nrmZ, qe, ↓reduceIte, qz, qa, qn, hb, List.map]; rfl) rfl ?hv fun _ _ => ?_; case hv => rfl) | refine nl hKF ?_ | refine sq ?_ | refine rg fun KF hKF => ?_ | refine ct rfl ?_ | refine rt ?_ | dsimp only
  refine rz trivial ?_
  exact ⟨by rw [e]; rfl, Ext0.ext⟩
 have hb0 : badLine ls = 0 := by simpa using hb
 obtain ⟨hl24, hall⟩ : ls.length ≤ 24 ∧ ls.all signB = true := by
  unfold badLine at hb0
  by_cases h : ls.length > 24
  ·rw [if_pos h] at hb0; cases hb0
  ·rw [if_neg h] at hb0
   by_cases h2 : ls.all signB = true
   ·exact ⟨by omega, h2⟩
   ·rw [if_neg h2] at hb0; cases hb0
 obtain ⟨qs, hqs, _⟩ := hp.it
 repeat first | refine mI ?_ | refine mv ?_ | refine bn rfl rfl rfl (by simp only [hb]; rfl) ?_ | (refine Fo.pcall (v' := ?_) hn rfl (by simp only [↓nrmL, nrmZ, qe, ↓reduceIte, qz, qa, qn, hb, List.map]; rfl) rfl ?hv fun _ _ => ?_; case hv => rfl) | refine nl hKF ?_ | refine sq ?_ | refine rg fun KF hKF => ?_ | refine cf rfl ?_ | refine sk ?_ | refine Wp.block ?_ | dsimp only
 refine Wp.loopS [4, 5, 7, 13, 14, 15, 16, 17, 18, 19, 20, 21, 22, 23] (fun k : Nat => [(7, .int .i64 (k : Int))]) (fun _ k H2 => k ≤ s.length ∧ (∀ (r : Nat) (h : r < s.length), r < k → okC s[r] = true) ∧ Ext H H2) (fun k => s.length - k) 0 rfl (fun _ => rfl) ⟨rfl, trivial⟩ ⟨Nat.zero_le _, fun r _ h => absurd h (Nat.not_lt_zero _), Ext0.ext⟩ (by unfold fuel0 at hn; omega) ?_
 rintro k g H2 ⟨hk, hok, hx2⟩
 haveI : ExtI H H2 := ⟨hx2⟩
 simp only [↓nrmL, nrmZ, qe, ↓reduceIte, qz, qa, qn]
 cases hc : decide ((k : Int) < (s.length : Int))
 ·have hkl : k = s.length := by have := of_decide_eq_false hc; omega
  subst hkl
  have hall2 : s.all okC = true := List.all_eq_true.2 fun x hx => by
   obtain ⟨r, hr, rfl⟩ := List.mem_iff_getElem.1 hx
   exact hok r hr hr
  cases h1 : decide ((s.length : Int) > (ls.length : Int))
  ·have hsl2 : s.length ≤ ls.length := by have := of_decide_eq_false h1; omega
   have e : costS ls s = (sumS ls s ls.length, 0) := by
    unfold costS; rw [if_neg (by simpa using hb0), if_neg (fun h => h.elim (fun h => absurd h (by omega)) (fun h => h hall2)), sumS_all hsl2]
   repeat first | refine Fo.lenStr (rfl : _ = strV _) rfl ?_ | refine Fo.mov (rfl : _ = strV _) ?_ | refine mv ?_ | refine bn rfl rfl rfl (by simp only [hc, h1]; rfl) ?_ | refine ln (by simp only [↓nrmL, nrmK, qe, ↓reduceIte]; rfl) ?_ | refine nl hKF ?_ | refine sq ?_ | refine rg fun KF hKF => ?_ | refine cf rfl ?_ | refine sk ?_ | refine xi ?_
   refine WpO.do (WpX.conD hn rfl rfl (by simp only [↓nrmL, nrmZ, qe, ↓reduceIte, qz, qa, qn, List.map] <;> rfl) (K_sum (ls := ls) (s := s) hl24 hall) fun v H3 h5 => ?_)
   obtain ⟨rfl, hx3⟩ := h5
   haveI : ExtI _ H3 := ⟨hx3⟩
   refine mI ?_
   refine mI ?_
   refine nl hKF ?_
   refine rt ?_
   dsimp only
   refine rz trivial ?_
   exact ⟨by rw [e]; rfl, Ext0.ext⟩
  ·have e : costS ls s = (0, 45) := by
    have := of_decide_eq_true h1
    unfold costS; rw [if_neg (by simpa using hb0), if_pos (Or.inl (by omega))]
   repeat first | refine Fo.lenStr (rfl : _ = strV _) rfl ?_ | refine Fo.mov (rfl : _ = strV _) ?_ | refine mv ?_ | refine bn rfl rfl rfl (by simp only [hc, h1]; rfl) ?_ | refine ln (by simp only [↓nrmL, nrmK, qe, ↓reduceIte]; rfl) ?_ | refine nl hKF ?_ | refine sq ?_ | refine rg fun KF hKF => ?_ | refine ct rfl ?_ | refine cf rfl ?_ | refine rt ?_ | refine xi ?_ | dsimp only
   refine rz trivial ?_
   exact ⟨by rw [e]; rfl, Ext0.ext⟩
 have hkl : k < s.length := by have := of_decide_eq_true hc; omega
 have hwk := wa1 (a := k) (by omega)
 have e0 : (((letS s[k] : Nat) : Int) == 0) = !(okC s[k]) := by
  unfold okC
  cases h : letS s[k] != 0
  ·have : letS s[k] = 0 := by simpa using h
   rw [this]; rfl
  ·have : letS s[k] ≠ 0 := by simpa using h
   exact beq_eq_false_iff_ne.2 (by omega)
 cases hd : okC s[k]
 ·have e : costS ls s = (0, 45) := by
   unfold costS; rw [if_neg (by simpa using hb0), if_pos (Or.inr _)]
   intro h
   have := List.all_eq_true.1 h _ (List.getElem_mem hkl)
   have h2 : okC s[k] = true := this
   rw [hd] at h2; cases h2
  rw [hd] at e0
  repeat first | refine Fo.lenStr (rfl : _ = strV _) rfl ?_ | (refine Fo.idxStr (rfl : _ = strV _) rfl ?_ rfl ?_; (focus omega)) | refine Fo.mov (rfl : _ = strV _) ?_ | refine mv ?_ | refine bn rfl rfl rfl (by simp only [hc, e0, Bool.not_false]; rfl) ?_ | (refine Fo.pcall (v' := ?_) hn rfl (by simp only [↓nrmL, nrmZ, qe, ↓reduceIte, qz, qa, qn, hc, e0, Bool.not_false, List.map]; rfl) rfl ?hv fun _ _ => ?_; case hv => rfl) | refine nl hKF ?_ | refine sq ?_ | refine rg fun KF hKF => ?_ | refine ct rfl ?_ | refine sk ?_ | refine rt ?_ | refine Wp.block ?_ | dsimp only
  refine rz trivial ?_
  exact ⟨by rw [e]; rfl, Ext0.ext⟩
 ·rw [hd] at e0
  repeat first | refine Fo.lenStr (rfl : _ = strV _) rfl ?_ | (refine Fo.idxStr (rfl : _ = strV _) rfl ?_ rfl ?_; (focus omega)) | refine Fo.mov (rfl : _ = strV _) ?_ | refine mv ?_ | refine bn rfl rfl rfl (by simp only [hc, e0, Bool.not_true]; rfl) ?_ | refine b0 ?_ | (refine Fo.pcall (v' := ?_) hn rfl (by simp only [↓nrmL, nrmZ, qe, ↓reduceIte, qz, qa, qn, hc, e0, Bool.not_true, List.map]; rfl) rfl ?hv fun _ _ => ?_; case hv => rfl) | refine nl hKF ?_ | refine sq ?_ | refine rg fun KF hKF => ?_ | refine ct rfl ?_ | refine cf rfl ?_ | refine sk ?_ | refine Wp.block ?_ | dsimp only
  refine ⟨k + 1, by omega, ⟨by simp only [↓nrmL, nrmZ, qe, ↓reduceIte, qz, qa, qn]; rw [hwk], trivial⟩, by omega, fun r hr hrk => ?_, Ext0.ext⟩
  by_cases e : r = k
  ·subst e; exact hd
  ·exact hok r hr (by omega)⟩
def longS (ls : List Opts) : Bool := decide (ls.length > 30) || ls.any fun l => decide (l.length > 40)
def firstO (ls : List Opts) : Int := match ls.findIdx? (fun l => decide (l.length > 40)) with | some i => (i : Int) | none => -1
theorem firstO_any (ls : List Opts) : decide (firstO ls ≥ 0) = ls.any fun l => decide (l.length > 40) := by
 unfold firstO
 cases h : ls.findIdx? fun l => decide (l.length > 40) with
 | none =>
  rw [List.findIdx?_eq_none_iff] at h
  have : (ls.any fun l => decide (l.length > 40)) = false := by rw [List.any_eq_false]; intro x hx; rw [h x hx]; decide
  rw [this]; rfl
 | some i =>
  rw [List.findIdx?_eq_some_iff_getElem] at h
  obtain ⟨hi, h1, _⟩ := h
  have : (ls.any fun l => decide (l.length > 40)) = true := List.any_eq_true.2 ⟨_, List.getElem_mem hi, h1⟩
  rw [this]; exact decide_eq_true (show ((i : Nat) : Int) ≥ 0 by omega)
class SlimA (ls : List Opts) : Prop where
 len : ls.length ≤ 5864062014805
 it : ∀ (i : Nat) (h : i < ls.length), ls[i].length ≤ 8796093022208
instance K_long1 {l : Opts} {p : AVal} {H : AHeap} [hp : OptsI H p l] : PureCon ext prog 69 [p] H 1 (.bool (decide (l.length > 40))) := ⟨by
 refine con_of (show prog 69 = some c69 from rfl) rfl rfl fun n hn => ?_
 haveI := hp.one
 have e : decide ((l.length : Int) > 40) = decide (l.length > 40) := decide_eq_decide.2 (by omega)
 repeat first | refine mB ?_ | refine mv ?_ | refine bn rfl rfl rfl (by simp only [e]; rfl) ?_ | refine ln (by simp only [↓nrmL, nrmK, qe, ↓reduceIte]; rfl) ?_ | refine nl hKF ?_ | refine sq ?_ | refine rg fun KF hKF => ?_ | refine rt ?_ | dsimp only
 refine rz trivial ?_
 exact ⟨rfl, Ext0.ext⟩⟩
instance K_indexLong {ls : List Opts} {p : AVal} {H : AHeap} [hp : LineI H p ls] [hs : SlimA ls] : PureCon ext prog 116 [p, .func (.func 69) [] []] H 2 (.int .i64 (firstO ls)) := ⟨by
 refine con_of (show prog 116 = some c116 from rfl) rfl rfl fun n hn => ?_
 obtain ⟨qs, hqs, hrw⟩ := hp.it
 haveI := hqs.one
 have hlen := hs.len
 repeat first | refine mI ?_ | refine mv ?_ | refine ln (by simp only [↓nrmL, nrmK, qe, ↓reduceIte]; rfl) ?_ | refine nl hKF ?_ | refine sq ?_ | refine rg fun KF hKF => ?_ | refine Wp.block ?_ | dsimp only
 refine Wp.loopS [4, 5, 8, 9, 10, 11, 12, 13, 14, 15, 16, 17, 18] (fun k : Nat => [(8, .int .i64 (k : Int))]) (fun _ k H2 => k ≤ ls.length ∧ (∀ (r : Nat) (h : r < ls.length), r < k → decide (ls[r].length > 40) = false) ∧ Ext H H2) (fun k => ls.length - k) 0 rfl (fun _ => rfl) ⟨rfl, trivial⟩ ⟨Nat.zero_le _, fun r _ h => absurd h (Nat.not_lt_zero _), Ext0.ext⟩ (by unfold fuel0 at hn; omega) ?_
 rintro k g1 H2 ⟨hk, hb, hx⟩
 haveI : ExtI H H2 := ⟨hx⟩
 simp only [↓nrmL, nrmZ, qe, ↓reduceIte, qz, qa, qn]
 cases hc : decide ((k : Int) < (ls.length : Int))
 ·have hkl : k = ls.length := by have := of_decide_eq_false hc; omega
  subst hkl
  have e : firstO ls = -1 := by
   unfold firstO
   rw [List.findIdx?_eq_none_iff.2 fun x hx => ?_]
   obtain ⟨j, hj, rfl⟩ := List.mem_iff_getElem.1 hx
   exact hb j hj hj
  repeat first | refine mI ?_ | refine bn rfl rfl rfl (by simp only [hc]; rfl) ?_ | refine nl hKF ?_ | refine sq ?_ | refine rg fun KF hKF => ?_ | refine cf rfl ?_ | refine rt ?_ | refine xi ?_ | dsimp only
  refine rz trivial ?_
  exact ⟨by rw [e]; rfl, Ext0.ext⟩
 have hkl : k < ls.length := by have := of_decide_eq_true hc; omega
 have hwk := wa1 (a := k) (by omega)
 obtain ⟨q, hq, hI⟩ := hrw k hkl
 haveI := hI
 haveI := hI.one
 cases hg : decide (ls[k].length > 40)
 ·skip
  repeat first | refine mI ?_ | refine mF ?_ | refine mv ?_ | refine bn rfl rfl rfl (by simp only [hc, hg]; rfl) ?_ | refine b0 ?_ | (refine Fo.pcall (v' := ?_) hn rfl (by simp only [↓nrmL, nrmZ, qe, ↓reduceIte, qz, qa, qn, hc, hg, List.map]; rfl) rfl ?hv fun _ _ => ?_; case hv => (simp only [hc, hg]; rfl)) | (refine Fo.idx (by simp only [↓nrmL, nrmK, qe, ↓reduceIte]; rfl) rfl ?_ (by simp only [↓nrmL, nrmZ, qe, ↓reduceIte, qz, qa, qn, hc, hg]; rfl) ?_; (focus omega)) | refine Fo.ldP rfl (by assumption) ?_ | refine nl hKF ?_ | refine sq ?_ | refine rg fun KF hKF => ?_ | refine ct rfl ?_ | refine cf rfl ?_ | refine sk ?_ | refine Wp.block ?_ | dsimp only
  refine ⟨k + 1, by omega, ⟨by simp only [↓nrmL, nrmZ, qe, ↓reduceIte, qz, qa, qn]; rw [hwk], trivial⟩, hkl, fun j hj hjk => ?_, Ext0.ext⟩
  by_cases e : j = k
  ·subst e; exact hg
  ·exact hb j hj (by omega)
 ·have e : firstO ls = (k : Int) := by
   unfold firstO
   rw [List.findIdx?_eq_some_iff_getElem.2 ⟨hkl, hg, fun j hj => by rw [hb j (by omega) hj]; decide⟩]
  repeat first | refine mI ?_ | refine mF ?_ | refine mv ?_ | refine bn rfl rfl rfl (by simp only [hc, hg]; rfl) ?_ | (refine Fo.pcall (v' := ?_) hn rfl (by simp only [↓nrmL, nrmZ, qe, ↓reduceIte, qz, qa, qn, hc, hg, List.map]; rfl) rfl ?hv fun _ _ => ?_; case hv => (simp only [hc, hg]; rfl)) | (refine Fo.idx (by simp only [↓nrmL, nrmK, qe, ↓reduceIte]; rfl) rfl ?_ (by simp only [↓nrmL, nrmZ, qe, ↓reduceIte, qz, qa, qn, hc, hg]; rfl) ?_; (focus omega)) | refine Fo.ldP rfl (by assumption) ?_ | refine nl hKF ?_ | refine sq ?_ | refine rg fun KF hKF => ?_ | refine ct rfl ?_ | refine sk ?_ | refine rt ?_ | refine Wp.block ?_ | dsimp only
  refine rz trivial ?_
  exact ⟨by rw [e]; rfl, Ext0.ext⟩⟩
instance K_containsLong {ls : List Opts} {p : AVal} {H : AHeap} [hp : LineI H p ls] [hs : SlimA ls] : PureCon ext prog 68 [p, .func (.func 69) [] []] H 3 (.bool (ls.any fun l => decide (l.length > 40))) := ⟨by
 refine con_of (show prog 68 = some c68 from rfl) rfl rfl fun n hn => ?_
 haveI := hp.one
 have e := firstO_any ls
 repeat first | refine mB ?_ | refine mF ?_ | refine mv ?_ | refine bn rfl rfl rfl (by simp only [e]; rfl) ?_ | (refine Fo.pcall (v' := ?_) hn rfl (by simp only [↓nrmL, nrmZ, qe, ↓reduceIte, qz, qa, qn, e, List.map]; rfl) rfl ?hv fun _ _ => ?_; case hv => rfl) | refine nl hKF ?_ | refine sq ?_ | refine rg fun KF hKF => ?_ | refine rt ?_ | dsimp only
 refine rz trivial ?_
 exact ⟨rfl, Ext0.ext⟩⟩
instance K_long {ls : List Opts} {p : AVal} {H : AHeap} [hp : LineI H p ls] [hs : SlimA ls] : PureCon ext prog 24 [p] H 4 (.bool (longS ls)) := ⟨by
 refine con_of (show prog 24 = some c24 from rfl) rfl rfl fun n hn => ?_
 haveI := hp.one
 obtain ⟨qs, hqs, _⟩ := hp.it
 have e1 : decide ((ls.length : Int) > 30) = decide (ls.length > 30) := decide_eq_decide.2 (by omega)
 cases h : decide (ls.length > 30)
 ·have e : longS ls = ls.any fun l => decide (l.length > 40) := by unfold longS; rw [h]; rfl
  repeat first | refine oy ?_ | refine mB ?_ | refine mv ?_ | refine bn rfl rfl rfl (by simp only [e1, h]; rfl) ?_ | refine fB ?_ | (refine Fo.pcall (v' := ?_) hn rfl (by simp only [↓nrmL, nrmZ, qe, ↓reduceIte, qz, qa, qn, e1, h, List.map]; rfl) rfl ?hv fun _ _ => ?_; case hv => rfl) | refine ln (by simp only [↓nrmL, nrmK, qe, ↓reduceIte]; rfl) ?_ | refine nl hKF ?_ | refine sq ?_ | refine rg fun KF hKF => ?_ | refine rt ?_ | dsimp only
  refine rz trivial ?_
  exact ⟨by rw [e]; rfl, Ext0.ext⟩
 ·have e : longS ls = true := by unfold longS; rw [h]; rfl
  repeat first | refine ox ?_ | refine mB ?_ | refine mv ?_ | refine bn rfl rfl rfl (by simp only [e1, h]; rfl) ?_ | refine tB ?_ | refine ln (by simp only [↓nrmL, nrmK, qe, ↓reduceIte]; rfl) ?_ | refine nl hKF ?_ | refine sq ?_ | refine rg fun KF hKF => ?_ | refine rt ?_ | dsimp only
  refine rz trivial ?_
  exact ⟨by rw [e]; rfl, Ext0.ext⟩⟩
end Go.Am

namespace Go.Am
open Go Go.RowKit
section
variable {P : Program} {H : AHeap} {n : Nat} {t e : TypeId} {cs : List AVal}
theorem shapesW_opts {fs : Array Field} {ti : TypeId} (hu : P.underlying e = some (.struct fs)) (hf : (fs.toList.map fun f => f.type) = [ti, ti]) (hi : P.underlying ti = some (.int .i64)) : ∀ {len : Nat} {cells : List AVal}, shapes (ShapeW P H (n + 2)) (List.replicate len e) cells → ∃ l : Opts, l.length = len ∧ cells = cellsO l := by
  intro len
  induction len with
  | zero => intro cells h; exact ⟨[], rfl, h⟩
  | succ len ih =>
    intro cells h
    obtain ⟨a, b, rfl, h1, h2⟩ := h
    have h3 := shapeW_struct hu h1
    rw [hf] at h3
    obtain ⟨c, r1, rfl, h4, d, r2, rfl, h5, rfl⟩ := h3
    obtain ⟨x, rfl, _⟩ := shapeW_int hi h4
    obtain ⟨y, rfl, _⟩ := shapeW_int hi h5
    obtain ⟨l, hl, rfl⟩ := ih h2
    exact ⟨(x, y) :: l, by simp [hl], rfl⟩
theorem shapeW_opts {fs : Array Field} {ti : TypeId} (ht : P.underlying t = some (.slice e)) (hu : P.underlying e = some (.struct fs)) (hf : (fs.toList.map fun f => f.type) = [ti, ti]) (hi : P.underlying ti = some (.int .i64)) (hc : P.cellsOf e = 2) (hb : P.bytesOf e = 16) (h : ShapeW P H (n + 3) t cs) : ∃ p l, cs = [p] ∧ OptsI H p l ∧ l.length ≤ 8796093022208 := by
  rw [ShapeW, ht] at h
  obtain ⟨p, len, cells, rfl, h2, h3, h4⟩ := h
  obtain ⟨l, rfl, rfl⟩ := shapesW_opts hu hf hi h4
  rw [hc] at h2
  rw [hb] at h3
  have := reachBytes_lt
  exact ⟨p, l, rfl, h2, by omega⟩
theorem shapesW_line {eo : TypeId} {fs : Array Field} {ti : TypeId} (he : P.underlying e = some (.slice eo)) (hu : P.underlying eo = some (.struct fs)) (hf : (fs.toList.map fun f => f.type) = [ti, ti]) (hi : P.underlying ti = some (.int .i64)) (hc : P.cellsOf eo = 2) (hb : P.bytesOf eo = 16) : ∀ {len : Nat} {cells : List AVal}, shapes (ShapeW P H (n + 3)) (List.replicate len e) cells → ∃ ls : List Opts, ls.length = len ∧ cells.length = len ∧ (∀ (i : Nat) (h : i < ls.length), ∃ q, cells[i]? = some q ∧ OptsI H q ls[i]) ∧ ∀ (i : Nat) (h : i < ls.length), ls[i].length ≤ 8796093022208 := by
  intro len
  induction len with
  | zero => intro cells h; subst h; exact ⟨[], rfl, rfl, (fun i h => absurd h (Nat.not_lt_zero _)), (fun i h => absurd h (Nat.not_lt_zero _))⟩
  | succ len ih =>
    intro cells h
    obtain ⟨a, b, rfl, h1, h2⟩ := h
    obtain ⟨p, l, rfl, k1, k2⟩ := shapeW_opts he hu hf hi hc hb h1
    obtain ⟨ls, hl, hl2, hr, hs⟩ := ih h2
    refine ⟨l :: ls, by simp [hl], by simp [hl2], fun i hi => ?_, fun i hi => ?_⟩
    · cases i with
      | zero => exact ⟨p, rfl, k1⟩
      | succ i =>
        obtain ⟨q, h3, h4⟩ := hr i (by simpa using hi)
        exact ⟨q, by simpa using h3, h4⟩
    · cases i with
      | zero => exact k2
      | succ i => exact hs i (by simpa using hi)
theorem shapeW_line {eo : TypeId} {fs : Array Field} {ti : TypeId} (ht : P.underlying t = some (.slice e)) (he : P.underlying e = some (.slice eo)) (hu : P.underlying eo = some (.struct fs)) (hf : (fs.toList.map fun f => f.type) = [ti, ti]) (hi : P.underlying ti = some (.int .i64)) (hc : P.cellsOf eo = 2) (hb : P.bytesOf eo = 16) (hc2 : P.cellsOf e = 1) (hb2 : P.bytesOf e = 24) (h : ShapeW P H (n + 4) t cs) : ∃ p ls, cs = [p] ∧ LineI H p ls ∧ SlimA ls := by
  rw [ShapeW, ht] at h
  obtain ⟨p, len, cells, rfl, h2, h3, h4⟩ := h
  obtain ⟨ls, hl, hl2, hr, hs⟩ := shapesW_line he hu hf hi hc hb h4
  subst hl
  rw [hc2] at h2
  rw [hb2] at h3
  have := reachBytes_lt
  exact ⟨p, ls, rfl, ⟨cells, h2, hr⟩, ⟨by omega, hs⟩⟩
end
end Go.Am

namespace Go.Am
open Go
theorem exec_appendAny {H : AHeap} {p : AVal} {sz k bytes : Nat} {cs : List AVal} (h : SliceAt H p sz k cs) (hsz : 0 < sz) (hb : 0 < bytes) (hroom : 2 * k * bytes ≤ 2 ^ 48) (hone : cs.all AVal.one = true) (e : TypeId) :
    ∃ v H', aAppend e sz bytes .nslice p H = some (v, H') ∧ OwnS H' v sz k cs e ∧ FreshS H v ∧ Ext H H' := by
  by_cases hk : k = 0
  · subst hk
    have hcs : cs = [] := by have := h.len; simpa using this
    subst hcs
    refine ⟨.nslice, H, ?_, ⟨Or.inl ⟨rfl, rfl, rfl⟩⟩, ⟨fun _ _ _ _ _ e => by cases e⟩, Ext.refl H⟩
    obtain ⟨h1, h2⟩ := aFirst_at h
    simp only [aAppend, h1, M.bind, h2]
    simp [show ¬ bytes = 0 by omega, show ¬ sz = 0 by omega]
    rfl
  · obtain ⟨v, H', h1, h2, h3, h4⟩ := exec_grow (H := H) (p := .nslice) (q := p) (sz := sz) (n := 0) (k := k) (bytes := bytes) (cs := []) (new := cs) (e := e) ⟨Or.inl ⟨rfl, rfl, rfl⟩⟩ (aFirst_at h) (h.len) hsz hb (by omega) (by rw [Nat.zero_add]; exact hroom) hone
    rw [Nat.zero_add, List.nil_append] at h2
    exact ⟨v, H', h1, h2, h3, ⟨h4.n, fun r hr => h4.get r hr ⟨fun _ _ _ _ _ e => by cases e⟩⟩⟩
theorem WpX.appendAny {call : ACall} {fr : AFrame} {H : AHeap} {K : AVal → AHeap → Prop} {e : TypeId} {x y : ROpd} {p : AVal} {sz k bytes : Nat} {cs : List AVal} (hx : x.ev fr = .nslice) (hy : y.ev fr = p) (h : SliceAt H p sz k cs) (hsz : 0 < sz) (hb : 0 < bytes) (hroom : 2 * k * bytes ≤ 2 ^ 48) (hone : cs.all AVal.one = true)
    (hk : ∀ v H', OwnS H' v sz k cs e → FreshS H v → ExtI H H' → K v H') : WpX (.append e sz bytes x y) call fr H K := by
  obtain ⟨v, H', h1, h2, h3, h5⟩ := exec_appendAny h hsz hb hroom hone e
  exact WpX.now (v := v) (H1 := H') (by simp only [ROp.exec, hx, hy]; exact h1) (hk v H' h2 h3 ⟨h5⟩)
theorem cellsO_ones (l : Opts) : (cellsO l).all AVal.one = true := by
  rw [List.all_eq_true]
  intro v hv
  unfold cellsO at hv
  obtain ⟨o, _, ho⟩ := List.mem_flatMap.1 hv
  simp only [List.mem_cons, List.not_mem_nil, or_false] at ho
  rcases ho with rfl | rfl <;> rfl
theorem row_one1 {H : AHeap} {r : Nat} {a : AVal} {rw : Bool} {ty : TypeId} (h : HasRow H r [a] rw ty) : SliceAt H (.slice r 0 1 (some 1) 1) 1 1 [a] := ⟨Or.inr ⟨r, 0, some 1, _, rw, ty, rfl, h.lt, h.get, by simp, rfl, Nat.le_refl _⟩⟩
theorem OwnS.tn {H : AHeap} {p : AVal} {sz n s : Nat} {cs cs' : List AVal} {e e' : TypeId} {rw : Bool} (h : OwnS H p sz n cs e) (hg : H.get s = .row cs' rw e') (hne : e' / 2 ≠ e) : RowNe p s := ⟨fun r off len cap sz' q => by
  rcases h.it with ⟨rfl, _⟩ | ⟨r2, e2, rfl, h2, h3, h4, _⟩
  · cases q
  · cases q
    intro q; subst q
    rw [hg] at h3; cases h3
    exact hne h4⟩
structure CopiedO (ty : TypeId) (B : Nat) (H : AHeap) (cells : List AVal) (ls : List Opts) (i : Nat) : Prop where
  it : ∀ j (h : j < ls.length), j < i → ∃ q, cells[j]? = some q ∧ OwnS H q 2 ls[j].length (cellsO ls[j]) ty ∧ ∀ r off len cap sz, q = .slice r off len cap sz → B ≤ r
theorem CopiedO.keep {ty : TypeId} {B : Nat} {H H' : AHeap} {cells : List AVal} {ls : List Opts} {i : Nat} (h : CopiedO ty B H cells ls i) (hn : H.n ≤ H'.n) (hg : ∀ s cs e, s < H.n → B ≤ s → H.get s = .row cs true e → e / 2 = ty → H'.get s = H.get s) : CopiedO ty B H' cells ls i := ⟨fun j h1 h2 => by
  obtain ⟨q, h3, h4, h5⟩ := h.it j h1 h2
  refine ⟨q, h3, ?_, h5⟩
  rcases h4.it with ⟨a1, a2, a3⟩ | ⟨r, e', a1, a2, a3, a4, a5, a6⟩
  · exact ⟨Or.inl ⟨a1, a2, a3⟩⟩
  · exact ⟨Or.inr ⟨r, e', a1, by omega, by rw [hg r _ _ a2 (h5 _ _ _ _ _ a1) a3 a4]; exact a3, a4, a5, a6⟩⟩⟩
def LineF (B : Nat) (H' : AHeap) (v : AVal) (ls : List Opts) : Prop := ∀ H'', H'.n ≤ H''.n → (∀ r, B ≤ r → r < H'.n → H''.get r = H'.get r) → LineI H'' v ls
theorem LineF.mk {ty : TypeId} {B : Nat} {H' : AHeap} {v : AVal} {cells : List AVal} {ls : List Opts} {e : TypeId} (h : CopiedO ty B H' cells ls ls.length) (ho : OwnS H' v 1 ls.length cells e) (hB : ∀ r off len cap sz, v = .slice r off len cap sz → B ≤ r) : LineF B H' v ls := fun H'' hn hg => by
  have h2 := h.keep hn fun s cs e h1 h2 _ _ => hg s h2 h1
  have ho2 : OwnS H'' v 1 ls.length cells e := ho.keep hn fun r _ _ _ _ e h1 => hg r (hB _ _ _ _ _ e) h1
  exact ⟨cells, ho2.sl, fun j hj => by obtain ⟨q, a1, a2, _⟩ := h2.it j hj hj; exact ⟨q, a1, a2.sl⟩⟩
theorem LineF.now {B : Nat} {H' : AHeap} {v : AVal} {ls : List Opts} (h : LineF B H' v ls) : LineI H' v ls := h H' (Nat.le_refl _) fun _ _ _ => rfl
end Go.Am
