import Derived.Below
import Derived.Laws.Cells
import Derived.CallsIn
import Derived.Laws.BytesArg
import Derived.Laws.IdiomStrings
import Derived.Laws.AppendOwn
import Derived.Laws.StructEq
import Derived.Lib.UnsafeStr
set_option linter.unusedSimpArgs false
set_option linter.unusedVariables false
set_option maxHeartbeats 2000000
namespace Go.Am
open Go
inductive AVal where
  | bool (b : Bool)
  | int (k : IntKind) (n : Int)
  | str (s : ByteArray)
  | nptr
  | ptr (r off : Nat)
  | nslice
  | slice (r off len : Nat) (cap : Option Nat) (sz : Nat)
  | nfunc
  | func (fn : Fn) (first captured : List AVal)
  | niface
  | iface (t : TypeId) (v : AVal)
  | agg (cs : List AVal)
  | tuple (vs : List AVal)
  | yield (r : Nat)
    | eslice (r off l sz : Nat)
    | map (r : Nat)
  | nmap
  deriving Inhabited
def yieldId : FuncId := 4611686018427387904
def fnOk : Fn → Bool
  | .func f => !Nat.beq f yieldId
  | _ => true
abbrev RMap := Nat → Option (Addr × Nat)
def capR (cap : Option Nat) (d : Nat) : Nat := match cap with | some c => c | none => d
mutual
def emb (m : RMap) : AVal → Option Value
  | .bool b => some (.bool b)
  | .int k n => some (.int k n)
  | .str s => some (.string s)
  | .nptr => some (.pointer none)
  | .ptr r off => match m r with | some p => some (.pointer (some (p.1.add off))) | none => none
  | .nslice => some (.slice none 0 0)
  | .slice r off len cap sz => match m r with | some p => some (.slice (some (p.1.add off)) len (capR cap ((p.2 - off) / sz))) | none => none
  | .nfunc => some .nilFunc
  | .func fn fi ca => match fnOk fn, embL m fi, embL m ca with | true, some a, some b => some (.func fn a.toArray b.toArray) | _, _, _ => none
  | .yield r => match m r with | some p => some (.func (.yield p.1.block) #[] #[]) | none => none
  | .eslice r off l sz => match m r with | some p => some (.slice (some (if (p.2 - off) / sz = l then p.1.add off else p.1.add (off + l * sz))) 0 ((p.2 - off) / sz - l)) | none => none
  | .map r => match m r with | some p => some (.map (some p.1.block)) | none => none
  | .nmap => some (.map none)
  | .niface => some .nilIface
  | .iface t v => match emb m v with | some x => some (.iface t x) | none => none
  | .agg cs => match embL m cs with | some l => some (.agg l.toArray) | none => none
  | .tuple vs => match embL m vs with | some l => some (.tuple l.toArray) | none => none
def embL (m : RMap) : List AVal → Option (List Value)
  | [] => some []
  | v :: vs => match emb m v, embL m vs with | some x, some l => some (x :: l) | _, _ => none
end
def aundef : AVal := .tuple []
def AVal.cells : AVal → List AVal
  | .agg cs => cs
  | v => [v]
abbrev AFrame := Nat → AVal
def upd (fr : AFrame) (d : Nat) (v : AVal) : AFrame := fun i => cond (Nat.beq i d) v (fr i)
inductive ROpd where
  | tmp (t : Nat)
  | val (v : AVal)
  deriving Inhabited
def ROpd.ev (fr : AFrame) : ROpd → AVal
  | .tmp t => fr t
  | .val v => v
inductive EqDesc where
  | bool | int | str | ptr | slice | func
  | fields (fs : List (Option (Nat × Nat × EqDesc)))    -- agg (some n) or cell at an offset: offset, cells (0 for one cell that is no aggregate), how
  | map
  | iface (lit : Bool) (ts : List TypeId)    -- whether an operand is the literal nil; types of numbers that can be compared
  deriving Inhabited
inductive ROp where
  | mov (x : ROpd)
  | pick (c a b : ROpd)
  | new (e : TypeId) (cs : List AVal)
  | box (e : TypeId) (x : ROpd)
  | build (zero : List AVal) (parts : List (Nat × Nat × ROpd))
  | buildSlice (e : TypeId) (sz len : Nat) (zero : List AVal) (parts : List (Nat × Nat × ROpd))
  | load (agg : Option Nat) (a : ROpd)
  | store (n : Nat) (a x : ROpd)
  | nilCheck (x : ROpd)
  | bin (op : BinOp) (x y : ROpd)
  | eq (neg : Bool) (d : EqDesc) (x y : ROpd)
  | un (op : UnOp) (x : ROpd)
  | convInt (k : IntKind) (x : ROpd)
  | mkIface (t : TypeId) (x : ROpd)
  | mkFunc (fn : Fn) (first captured : List ROpd)
  | makeSlice (e : TypeId) (zero : List AVal) (bytes : Nat) (len cap : ROpd)
  | sliceS (sz : Nat) (x : ROpd) (lo hi mx : Option ROpd)
  | sliceStr (x : ROpd) (lo hi : Option ROpd)
  | sliceArr (n sz : Nat) (x : ROpd) (lo hi mx : Option ROpd)
  | fieldAddr (off : Nat) (x : ROpd)
  | field (agg : Option Nat) (off : Nat) (x : ROpd)
  | idxS (sz : Nat) (x i : ROpd)
  | idxA (n sz : Nat) (x i : ROpd)
  | indexA (n sz : Nat) (agg : Bool) (x i : ROpd)
  | indexStr (x i : ROpd)
  | rangeStr (x : ROpd)
  | nextStr (x : ROpd)
  | extract (x : ROpd) (i : Nat)
  | call (f : ROpd) (args : List ROpd)
  | lenS (x : ROpd) | lenStr (x : ROpd) | lenA (n : Nat) | capS (x : ROpd) | appendZ (e : TypeId) (sz bytes : Nat) (zero : List AVal) (x n : ROpd)
  | append (e : TypeId) (sz bytes : Nat) (x y : ROpd)
  | copy (sz : Nat) (x y : ROpd)
  | minmax (max : Bool) (xs : List ROpd)
  | bytesToStr (x : ROpd)
  | strToBytes (e : TypeId) (x : ROpd)
  | uptr (t : TypeId) (s : Nat) (x : ROpd)
  | sliceData (sz : Nat) (x : ROpd)
  | unsafeStr (e : TypeId) (x n : ROpd)
  | lookup (d : EqDesc) (zero : AVal) (ok : Bool) (x k : ROpd)
  | mapLit (es : List (AVal × AVal))
  | mapSet (d : EqDesc) (x k v : ROpd)
  | lenM (x : ROpd)
  deriving Inhabited
structure ROper where
  dst : Option Nat
  op : ROp
  guard : Option (Nat × Bool)
  deriving Inhabited
structure DItem where
  o : ROper
  b : Nat
  cls : Nat
  pre : Bool
  deriving Inhabited
inductive RCode where
  | skip
  | region (ops : List ROper)
  | dregion (ops : List DItem)
  | seq (a b : RCode)
  | cond (c : ROpd) (t e : RCode)
  | block (id : Nat) (b : RCode)
  | loop (b : RCode)
  | scope (b : RCode)
  | label
  | exit (id : Nat)
  | ret
  | fail
  | rangeFunc (fns : List FuncId) (nt : Nat) (g : ROpd) (ps : List Nat) (a b : RCode)
  deriving Inhabited
inductive RRes where
  | tmp (t : Nat)
  | cell (t : Nat) (agg : Option Nat)
  deriving Inhabited
inductive RBody where
  | code (c : RCode)
  | ext (k : Nat)
  | ranges (c : RCode)
  deriving Inhabited
structure RFunc where
  nt : Nat
  body : RBody
  results : List RRes
  deriving Inhabited
inductive RExit where
  | normal | exit (id : Nat) | ret
  deriving Inhabited
structure RLoop where
  d : Nat
  nt : Nat
  fr : AFrame
  ps : List Nat
  assign : RCode
  body : RCode
  st : Nat
  pend : RExit
  deriving Inhabited
inductive AObj where
  | dead
  | row (cs : List AVal) (rw : Bool) (e : TypeId)
  | iter (s : ByteArray) (pos : Nat)
  | loop (L : RLoop)
  | mapo (es : List (AVal × AVal))
  deriving Inhabited
structure AHeap where
  n : Nat
  get : Nat → AObj
def AHeap.set (H : AHeap) (r : Nat) (o : AObj) : AHeap := ⟨H.n, fun i => cond (Nat.beq i r) o (H.get i)⟩
def AHeap.push (H : AHeap) (o : AObj) : AHeap := ⟨H.n + 1, fun i => cond (Nat.beq i H.n) o (H.get i)⟩
def M (α : Type) : Type := AHeap → Option (α × AHeap)
@[inline] def M.pure {α : Type} (a : α) : M α := fun H => some (a, H)
@[inline] def M.bind {α β : Type} (x : M α) (f : α → M β) : M β := fun H => match x H with | some (a, H') => f a H' | none => none
def M.fail {α : Type} : M α := fun _ => none
def M.ofOption {α : Type} : Option α → M α
  | some a => M.pure a
  | none => M.fail
def intBin (op : BinOp) (k k' : IntKind) (a b : Int) : Option AVal :=
  match op with
  | .shl => if b < 0 then none else some (.int k (k.wrap (a * 2 ^ (min b.toNat k.bits))))
  | .shr => if b < 0 then none else some (.int k (a.fdiv (2 ^ (min b.toNat k.bits))))
  | _ =>
    if k ≠ k' then none else
    match op with
    | .add => some (.int k (k.wrap (a + b)))
    | .sub => some (.int k (k.wrap (a - b)))
    | .mul => some (.int k (k.wrap (a * b)))
    | .quo => if b = 0 then none else some (.int k (k.wrap (a.tdiv b)))
    | .rem => if b = 0 then none else some (.int k (a.tmod b))
    | .and => some (.int k (Go.bits .and k a b))
    | .or => some (.int k (Go.bits .or k a b))
    | .xor => some (.int k (Go.bits .xor k a b))
    | .andNot => some (.int k (Go.bits .andNot k a b))
    | .eql => some (.bool (a == b))
    | .neq => some (.bool (a != b))
    | .lss => some (.bool (decide (a < b)))
    | .leq => some (.bool (decide (a ≤ b)))
    | .gtr => some (.bool (decide (a > b)))
    | .geq => some (.bool (decide (a ≥ b)))
    | _ => none
def strBin (op : BinOp) (x y : ByteArray) : Option AVal :=
  match op with
  | .add => if ((x.size + y.size : Nat) : Int) > IntKind.i64.max then none else some (.str (x ++ y))
  | .eql => some (.bool (x.toList == y.toList))
  | .neq => some (.bool (!(x.toList == y.toList)))
  | .lss => some (.bool (Op.bytesLess x.toList y.toList))
  | .leq => some (.bool (Op.bytesLess x.toList y.toList || x.toList == y.toList))
  | .gtr => some (.bool (!(Op.bytesLess x.toList y.toList || x.toList == y.toList)))
  | .geq => some (.bool (!(Op.bytesLess x.toList y.toList)))
  | _ => none
def aBin (op : BinOp) : AVal → AVal → Option AVal
  | .int k a, .int k' b => intBin op k k' a b
  | .str a, .str b => strBin op a b
  | _, _ => none
def aPart (agg : Nat) (cs : List AVal) (off : Nat) : Option AVal :=
  if agg = 0 then cs[off]? else some (.agg ((cs.drop off).take agg))
def aNum : AVal → AVal → Option Bool
  | .int k a, .int k' b => if k = k' then some (a == b) else none
  | _, _ => none
mutual
def aEq : EqDesc → AVal → AVal → Option Bool
  | .bool, .bool a, .bool b => some (a == b)
  | .int, .int k a, .int k' b => if k = k' then some (a == b) else none
  | .str, .str a, .str b => some (a == b)
  | .ptr, .nptr, .nptr => some true
  | .ptr, .ptr r o, .ptr r' o' => if r = r' ∧ o = o' then some true else none
  | .ptr, .nptr, .ptr _ _ => some false
  | .ptr, .ptr _ _, .nptr => some false
  | .slice, .nslice, .nslice => some true
  | .slice, .nslice, .slice .. => some false
  | .slice, .slice .., .nslice => some false
  | .func, .nfunc, .nfunc => some true
  | .func, .nfunc, .func .. => some false
  | .func, .func .., .nfunc => some false
  | .fields fs, .agg xs, .agg ys => aEqs fs xs ys
  | .map, .nmap, .nmap => some true
  | .map, .nmap, .map _ => some false
  | .map, .map _, .nmap => some false
  | .iface c _, .niface, .niface => if c then some true else none
  | .iface _ _, .niface, .iface _ _ => some false
  | .iface _ _, .iface _ _, .niface => some false
  | .iface _ ts, .iface t v, .iface t' v' => if t ≠ t' then some false else if ts.contains t then aNum v v' else none
  | _, _, _ => none
def aEqs : List (Option (Nat × Nat × EqDesc)) → List AVal → List AVal → Option Bool
  | [], _, _ => some true
  | none :: fs, xs, ys => aEqs fs xs ys
  | some (off, agg, d) :: fs, xs, ys =>
    match aPart agg xs off, aPart agg ys off with
    | some a, some b => match aEq d a b with
      | some true => aEqs fs xs ys
      | some false => some false
      | none => none
    | _, _ => none
end
def aUn (op : UnOp) : AVal → Option AVal
  | .int k n => match op with
    | .neg => some (.int k (k.wrap (0 - n)))
    | .xor => some (.int k (Go.bits .xor k (if k.signed then -1 else k.max) n))
    | _ => none
  | .bool b => match op with | .not => some (.bool !b) | _ => none
  | _ => none
def setAt (cs : List AVal) : Nat → List AVal → List AVal
  | _, [] => cs
  | off, v :: vs => setAt (cs.set off v) (off + 1) vs
def aFill (fr : AFrame) (cells : List AVal) : List (Nat × Nat × ROpd) → Option (List AVal)
  | [] => some cells
  | (off, size, x) :: rest =>
    let vs := (x.ev fr).cells
    if vs.length ≠ size ∨ off + vs.length > cells.length then none else aFill fr (setAt cells off vs) rest
def aNew (o : AObj) : M Nat := fun H => some (H.n, H.push o)
def aRow (r : Nat) : M (List AVal × Bool) := fun H => if r < H.n then match H.get r with | .row cs rw _ => some ((cs, rw), H) | _ => none else none
def aMove (r : Nat) (e : TypeId) (o : AObj) : M Nat := fun H => match H.get r with
  | .row _ _ e' => match Nat.beq (e' / 2) e with | true => some (H.n, (H.set r .dead).push o) | false => none
  | _ => none
def aLoad (agg : Option Nat) : AVal → M AVal
  | .ptr r off => M.bind (aRow r) fun (cs, _) =>
    match agg with
    | some n => if off + n ≤ cs.length then M.pure (.agg ((cs.drop off).take n)) else M.fail
    | none => match cs[off]? with | some v => M.pure v | none => M.fail
  | _ => M.fail
def AVal.one : AVal → Bool
  | .agg _ | .tuple _ => false
  | _ => true
def aWrite (r off : Nat) (vs : List AVal) : M Unit := fun H =>
  if r < H.n then
    match H.get r with
    | .row cs rw e => if rw && decide (off + vs.length ≤ cs.length) && vs.all AVal.one then some ((), H.set r (.row (setAt cs off vs) rw e)) else none
    | _ => none
  else none
def aStore (n : Nat) : AVal → AVal → M AVal
  | .ptr r off, v => if v.cells.length = n then M.bind (aWrite r off v.cells) fun _ => M.pure aundef else M.fail
  | _, _ => M.fail
def aNilCheck : AVal → Option AVal
  | .ptr r off => some (.ptr r off)
  | _ => none
def aBound (y : Nat) : AVal → Option Nat
  | .int _ i => if 0 ≤ i ∧ i ≤ y then some i.toNat else none
  | _ => none
def aLow (h : Nat) : Option AVal → Option Nat
  | none => some 0
  | some v => aBound h v
def aHigh (len y : Nat) : Option AVal → Option Nat
  | none => some len
  | some v => aBound y v
def capD (len : Nat) : Option Nat → Nat | some c => c | none => len
def aBounds (len : Nat) (cap : Option Nat) (lo hi mx : Option AVal) : Option (Nat × Nat × Option Nat) :=
  match mx with
  | some mv => match hi, aBound (capD len cap) mv with
    | some hv, some mm => match aBound mm hv with
      | some h => match aLow h lo with | some l => some (l, h, some mm) | none => none
      | none => none
    | _, _ => none
  | none => match aHigh len (capD len cap) hi with
    | some h => match aLow h lo with | some l => some (l, h, cap) | none => none
    | none => none
def aSliceS (sz : Nat) (x : AVal) (lo hi mx : Option AVal) : M AVal :=
  match x with
  | .nslice => match aBounds 0 (some 0) lo hi mx with
    | some (_, _, _) => M.pure .nslice
    | none => M.fail
  | .slice r off len cap s =>
    if s ≠ sz then M.fail else
    match aBounds len cap lo hi mx with
    | none => M.fail
    | some (l, h, mm) =>
      match cap with
      | some _ => match mm with
        | some m => M.pure (if m = l then .slice r off (h - l) (some 0) sz else .slice r (off + l * sz) (h - l) (some (m - l)) sz)
        | none => M.fail
      | none =>
        if sz = 0 then M.fail
        else M.bind (aRow r) fun (cs, _) => if cs.length < off + len * sz then M.fail
        else match mm with
        | some m => M.pure (if m = l then .slice r off (h - l) (some 0) sz else .slice r (off + l * sz) (h - l) (some (m - l)) sz)
        | none =>
          if l < h ∨ l = 0 then M.pure (.slice r (off + l * sz) (h - l) none sz)
          else M.bind (aNew (.row [] false 0)) fun r' => M.pure (.slice r' 0 0 none sz)
  | _ => M.fail
def aSliceArr (n sz : Nat) (x : AVal) (lo hi mx : Option AVal) : Option AVal :=
  match x with
  | .ptr r off =>
    match aBounds n (some n) lo hi mx with
    | some (l, h, some m) => if m = l then some (.slice r off (h - l) (some 0) sz) else some (.slice r (off + l * sz) (h - l) (some (m - l)) sz)
    | _ => none
  | _ => none
def aSliceStr (x : AVal) (lo hi : Option AVal) : Option AVal :=
  match x with
  | .str s => match aBounds s.size (some s.size) lo hi none with
    | some (l, h, _) => some (.str (s.extract l h))
    | none => none
  | _ => none
def aIdxS (sz : Nat) : AVal → AVal → Option AVal
  | .slice r off len _ s, .int _ i => if s = sz ∧ 0 ≤ i ∧ i < len then some (.ptr r (off + i.toNat * sz)) else none
  | _, _ => none
def aIdxA (n sz : Nat) : AVal → AVal → Option AVal
  | .ptr r off, .int _ i => if 0 ≤ i ∧ i < n then some (.ptr r (off + i.toNat * sz)) else none
  | _, _ => none
def aIndexA (n sz : Nat) (agg : Bool) : AVal → AVal → Option AVal
  | .agg cs, .int _ i => if 0 ≤ i ∧ i < n then (if agg then some (.agg ((cs.drop (i.toNat * sz)).take sz)) else cs[i.toNat * sz]?) else none
  | _, _ => none
def aIndexStr : AVal → AVal → Option AVal
  | .str s, .int _ i => if 0 ≤ i then (match s[i.toNat]? with | some b => some (.int .u8 b.toNat) | none => none) else none
  | _, _ => none
def aField (agg : Option Nat) (off : Nat) : AVal → Option AVal
  | .agg cs => match agg with | some n => some (.agg ((cs.drop off).take n)) | none => cs[off]?
  | _ => none
def aFieldAddr (off : Nat) : AVal → Option AVal
  | .ptr r o => some (.ptr r (o + off))
  | _ => none
def aExtract (i : Nat) : AVal → Option AVal
  | .tuple vs => vs[i]?
  | _ => none
def aLenS : AVal → Option AVal
  | .nslice => some (.int .i64 0)
  | .slice _ _ len _ _ => some (.int .i64 len)
  | _ => none
def aCapS : AVal → Option AVal
  | .nslice => some (.int .i64 0)
  | .slice _ _ _ (some c) _ => some (.int .i64 c)
  | _ => none
def aLenStr : AVal → Option AVal
  | .str s => some (.int .i64 s.size)
  | _ => none
def aMinMax (max : Bool) : AVal → List AVal → Option AVal
  | v, [] => some v
  | .int k x, .int _ y :: rest => aMinMax max (.int k (if max then (if y > x then y else x) else (if y < x then y else x))) rest
  | _, _ => none
def aMakeSlice (e : TypeId) (zero : List AVal) (bytes : Nat) : AVal → AVal → M AVal
  | .int _ len, .int _ cap =>
    if 0 ≤ len ∧ len ≤ cap ∧ bytes * cap ≤ 2 ^ 47 ∧ cap < 2 ^ 62 then
      M.bind (aNew (.row ((List.replicate cap.toNat zero).flatten) true (2 * e))) fun r => M.pure (.slice r 0 len.toNat (some cap.toNat) zero.length)
    else M.fail
  | _, _ => M.fail
def aFirst (sz n : Nat) : AVal → M (List AVal)
  | .nslice => M.pure []
  | .slice r off _ _ s => if s ≠ sz then M.fail else M.bind (aRow r) fun (cs, _) => if off + n * sz ≤ cs.length then M.pure ((cs.drop off).take (n * sz)) else M.fail
  | .str s => M.pure ((s.extract 0 n).data.toList.map fun b => .int .u8 b.toNat)
  | _ => M.fail
def aLenOf : AVal → Option Nat
  | .nslice => some 0
  | .eslice .. => some 0
  | .slice _ _ len _ _ => some len
  | .str s => some s.size
  | _ => none
def aAppend (e : TypeId) (sz bytes : Nat) (s x : AVal) : M AVal :=
  match aLenOf x with
  | none => M.fail
  | some n =>
    M.bind (aFirst sz n x) fun new =>
    if !(new.all AVal.one) || decide (new.length ≠ n * sz) || decide (sz = 0) || decide (bytes = 0) then M.fail else
    match s with
    | .nslice =>
      if n = 0 then M.pure .nslice
      else if 2 * n * bytes ≤ 2 ^ 48 then M.bind (aNew (.row new true (2 * e))) fun r => M.pure (.slice r 0 n none sz) else M.fail
    | .slice r off len cap s' =>
      if s' ≠ sz then M.fail else
      M.bind (aRow r) fun (cs, rw) =>
      if n = 0 then (match cap with
        | some c => if len ≤ c then M.pure s else M.fail
        | none => if off + len * sz ≤ cs.length then M.pure s else M.fail) else
      match cap with
      | some c =>
        if len + n ≤ c then M.bind (aWrite r (off + len * sz) new) fun _ => M.pure (.slice r off (len + n) (some c) sz)
        else if off + len * sz ≤ cs.length ∧ 2 * (len + n) * bytes ≤ 2 ^ 48 then
          M.bind (aNew (.row ((cs.drop off).take (len * sz) ++ new) true (2 * e))) fun r' => M.pure (.slice r' 0 (len + n) none sz)
        else M.fail
      | none =>
        if off + (len + n) * sz ≤ cs.length then M.bind (aWrite r (off + len * sz) new) fun _ => M.pure (.slice r off (len + n) none sz)
        else if rw && decide (off + len * sz ≤ cs.length) && decide (2 * (len + n) * bytes ≤ 2 ^ 48) then
          M.bind (aMove r e (.row ((cs.drop off).take (len * sz) ++ new) true (2 * e + 1))) fun r' => M.pure (.slice r' 0 (len + n) none sz)
        else M.fail
    | _ => M.fail
def aAppendZ (e : TypeId) (sz bytes : Nat) (z : List AVal) (s x : AVal) : M AVal :=
  match s, x with
  | .nslice, .int .i64 l =>
    if 0 < l ∧ 2 * l.toNat * bytes ≤ 2 ^ 48 ∧ 0 < bytes ∧ 0 < sz ∧ z.length = sz then M.bind (aNew (.row (List.replicate l.toNat z).flatten true (2 * e))) fun r => M.pure (.slice r 0 l.toNat none sz) else M.fail
  | _, _ => M.fail
def aCopy (sz : Nat) (d x : AVal) : M AVal :=
  match aLenOf x, aLenOf d with
  | some a, some b =>
    let n := min a b
    M.bind (aFirst sz n x) fun new =>
    if decide (new.length ≠ n * sz) then M.fail else
    match d with
    | .nslice => M.pure (.int .i64 n)
    | .eslice .. => M.pure (.int .i64 n)
    | .slice r off _ _ s => if s ≠ sz then M.fail else if new.isEmpty then M.pure (.int .i64 n) else M.bind (aWrite r off new) fun _ => M.pure (.int .i64 n)
    | _ => M.fail
  | _, _ => M.fail
def bytesOf : List AVal → Option (List UInt8)
  | [] => some []
  | .int .u8 n :: vs => match bytesOf vs with | some l => some (UInt8.ofNat n.toNat :: l) | none => none
  | _ => none
def aBytesToStr : AVal → M AVal
  | .nslice => M.pure (.str .empty)
  | .slice r off len _ s => if s ≠ 1 then M.fail else M.bind (aRow r) fun (cs, _) => if off + len ≤ cs.length then
      match bytesOf ((cs.drop off).take len) with | some l => M.pure (.str ⟨l.toArray⟩) | none => M.fail
    else M.fail
  | _ => M.fail
def aStrToBytes (e : TypeId) : AVal → M AVal
  | .str s => M.bind (aNew (.row (s.data.toList.map fun b => .int .u8 b.toNat) true (2 * e))) fun r => M.pure (.slice r 0 s.size none 1)
  | _ => M.fail
def aUptr (t : TypeId) (s : Nat) : AVal → M AVal
  | .nptr => M.pure .nptr
  | .ptr r off => fun H => match Nat.blt r H.n && Nat.beq off 0 && Nat.blt 0 s with
    | true => match H.get r with
      | .row cs true e => match Nat.beq e (2 * t) && Nat.ble s cs.length with
        | true => some (.ptr r off, H)
        | false => none
      | _ => none
    | false => none
  | _ => M.fail
def aSliceData (sz : Nat) : AVal → M AVal
  | .nslice => M.pure .nptr
  | .slice r off _ cap s => match cap with
    | some c => if c = 0 then M.fail else M.pure (.ptr r off)
    | none => M.bind (aRow r) fun (cs, _) => if s = sz ∧ 0 < sz ∧ off + sz ≤ cs.length then M.pure (.ptr r off) else M.fail
  | _ => M.fail
def aUnsafeRow (t : TypeId) (r off : Nat) (n : Int) : M AVal := fun H => match Nat.blt r H.n && decide (0 ≤ n) && decide (n < 2 ^ 62) with
  | true => match H.get r with
    | .row cs true e => match Nat.beq (e / 2) t && Nat.ble (off + n.toNat) cs.length with
      | true => match bytesOf ((cs.drop off).take n.toNat) with
        | some l => some (.str ⟨l.toArray⟩, H.set r (.row cs false e))
        | none => none
      | false => none
    | _ => none
  | false => none
def aUnsafeStr (t : TypeId) : AVal → AVal → M AVal
  | .nptr, .int .i64 n => if n = 0 then M.pure (.str .empty) else M.fail
  | .ptr r off, .int .i64 n => if n = 0 then M.pure (.str .empty) else aUnsafeRow t r off n
  | _, _ => M.fail
mutual
def abeq : AVal → AVal → Bool
  | .bool a, .bool b => a == b
  | .int k a, .int k' b => decide (k = k') && decide (a = b)
  | .str a, .str b => decide (a = b)
  | .nptr, .nptr => true
  | .ptr r o, .ptr r' o' => Nat.beq r r' && Nat.beq o o'
  | .nslice, .nslice => true
  | .slice r o l c z, .slice r' o' l' c' z' => Nat.beq r r' && Nat.beq o o' && Nat.beq l l' && decide (c = c') && Nat.beq z z'
  | .nfunc, .nfunc => true
  | .func f a b, .func f' a' b' => decide (f = f') && abeqL a a' && abeqL b b'
  | .niface, .niface => true
  | .iface t v, .iface t' v' => Nat.beq t t' && abeq v v'
  | .agg a, .agg b => abeqL a b
  | .tuple a, .tuple b => abeqL a b
  | .yield r, .yield r' => Nat.beq r r'
  | .eslice r o l z, .eslice r' o' l' z' => Nat.beq r r' && Nat.beq o o' && Nat.beq l l' && Nat.beq z z'
  | .map r, .map r' => Nat.beq r r'
  | .nmap, .nmap => true
  | _, _ => false
def abeqL : List AVal → List AVal → Bool
  | [], [] => true
  | a :: as, b :: bs => abeq a b && abeqL as bs
  | _, _ => false
end
def aFind (d : EqDesc) (k : AVal) : List (AVal × AVal) → Option (Option AVal)
  | [] => some none
  | e :: es => match aEq d k e.1, aFind d k es with
    | some true, some none => some (some e.2)
    | some false, r => r
    | _, _ => none
def aFound (zero : AVal) (ok : Bool) (f : Option AVal) : AVal := match ok with
  | true => .tuple [f.getD zero, .bool f.isSome]
  | false => f.getD zero
def aLookup (d : EqDesc) (zero : AVal) (ok : Bool) (x k : AVal) : M AVal := fun H => match x with
  | .map r => match Nat.blt r H.n, aEq d k k, H.get r with
    | true, some true, .mapo es => match aFind d k es with
      | some f => some (aFound zero ok f, H)
      | none => none
    | _, _, _ => none
  | .nmap => match aEq d k k with
    | some true => some (aFound zero ok none, H)
    | _ => none
  | _ => none
def aDel (d : EqDesc) (k : AVal) : List (AVal × AVal) → Option (List (AVal × AVal))
  | [] => some []
  | e :: es => match aEq d k e.1 with
    | some true => match abeq k e.1, aFind d k es with
      | true, some none => some es
      | _, _ => none
    | some false => match aDel d k es with
      | some l => some (e :: l)
      | none => none
    | none => none
def scalarV : AVal → Bool
  | .bool _ | .int _ _ | .str _ => true
  | _ => false
def keyV : AVal → Bool
  | .agg l => l.all scalarV
  | v => scalarV v
def aMapSet (d : EqDesc) (x k v : AVal) : M AVal := fun H => match x with
  | .map r => match Nat.blt r H.n, keyV k, aEq d k k, H.get r with
    | true, true, some true, .mapo es => match aDel d k es with
      | some l => some (aundef, H.set r (.mapo ((k, v) :: l)))
      | none => none
    | _, _, _, _ => none
  | _ => none
def aRune (s : ByteArray) (i : Nat) : Nat × Nat := match Nat.blt (s.get! i).toNat 128 with
  | true => ((s.get! i).toNat, 1)
  | false => Utf8.decode s i
def aRange (x : AVal) : M AVal := fun H => match x with
  | .str s => some (.ptr H.n 0, H.push (.iter s 0))
  | _ => none
def aNext (x : AVal) : M AVal := fun H => match x with
  | .ptr r off => match Nat.blt r H.n && Nat.beq off 0, H.get r with
    | true, .iter s pos => match Nat.blt pos s.size with
      | true => some (.tuple [.bool true, .int .i64 pos, .int .i32 (aRune s pos).1], H.set r (.iter s (pos + (aRune s pos).2)))
      | false => some (.tuple [.bool false], H)
    | _, _ => none
  | _ => none
def aLenM (x : AVal) : M AVal := fun H => match x with
  | .map r => match Nat.blt r H.n, H.get r with
    | true, .mapo es => some (.int .i64 es.length, H)
    | _, _ => none
  | .nmap => some (.int .i64 0, H)
  | _ => none
abbrev ACall := FuncId → List AVal → M AVal
def aCallV (call : ACall) : AVal → List AVal → M AVal
  | .func (.func f) first caps, args => call f (first ++ args ++ caps)
  | .yield r, args => call yieldId (.yield r :: args)
  | _, _ => M.fail
def ROp.exec (call : ACall) (fr : AFrame) : ROp → M AVal
  | .mov x => M.pure (x.ev fr)
  | .pick c a b => match c.ev fr with
    | .bool t => M.pure (match t with | true => a.ev fr | false => b.ev fr)
    | _ => M.fail
  | .new e cs => M.bind (aNew (.row cs true (2 * e))) fun r => M.pure (.ptr r 0)
  | .box e x => M.bind (aNew (.row (x.ev fr).cells true (2 * e))) fun r => M.pure (.ptr r 0)
  | .build zero parts => match aFill fr zero parts with | some cs => M.pure (.agg cs) | none => M.fail
  | .buildSlice e sz len zero parts => match aFill fr zero parts with
    | some cs => M.bind (aNew (.row cs true (2 * e))) fun r => M.pure (.slice r 0 len (some len) sz)
    | none => M.fail
  | .load agg a => aLoad agg (a.ev fr)
  | .store n a x => aStore n (a.ev fr) (x.ev fr)
  | .nilCheck x => M.ofOption (aNilCheck (x.ev fr))
  | .bin op x y => M.ofOption (aBin op (x.ev fr) (y.ev fr))
  | .eq neg d x y => match aEq d (x.ev fr) (y.ev fr) with
    | some b => M.pure (.bool (match neg with | true => !b | false => b))
    | none => M.fail
  | .un op x => M.ofOption (aUn op (x.ev fr))
  | .convInt k x => match x.ev fr with | .int _ n => M.pure (.int k (k.wrap n)) | _ => M.fail
  | .mkIface t x => M.pure (.iface t (x.ev fr))
  | .mkFunc fn first caps => M.pure (.func fn (first.map (·.ev fr)) (caps.map (·.ev fr)))
  | .makeSlice e zero bytes l c => aMakeSlice e zero bytes (l.ev fr) (c.ev fr)
  | .sliceS sz x lo hi mx => (aSliceS sz (x.ev fr) (lo.map (·.ev fr)) (hi.map (·.ev fr)) (mx.map (·.ev fr)))
  | .sliceStr x lo hi => M.ofOption (aSliceStr (x.ev fr) (lo.map (·.ev fr)) (hi.map (·.ev fr)))
  | .sliceArr n sz x lo hi mx => M.ofOption (aSliceArr n sz (x.ev fr) (lo.map (·.ev fr)) (hi.map (·.ev fr)) (mx.map (·.ev fr)))
  | .fieldAddr off x => M.ofOption (aFieldAddr off (x.ev fr))
  | .field agg off x => M.ofOption (aField agg off (x.ev fr))
  | .idxS sz x i => M.ofOption (aIdxS sz (x.ev fr) (i.ev fr))
  | .idxA n sz x i => M.ofOption (aIdxA n sz (x.ev fr) (i.ev fr))
  | .indexA n sz agg x i => M.ofOption (aIndexA n sz agg (x.ev fr) (i.ev fr))
  | .indexStr x i => M.ofOption (aIndexStr (x.ev fr) (i.ev fr))
  | .rangeStr x => aRange (x.ev fr)
  | .nextStr x => aNext (x.ev fr)
  | .extract x i => M.ofOption (aExtract i (x.ev fr))
  | .call f args => aCallV call (f.ev fr) (args.map (·.ev fr))
  | .lenS x => M.ofOption (aLenS (x.ev fr))
  | .capS x => M.ofOption (aCapS (x.ev fr))
  | .appendZ e sz b z x n => aAppendZ e sz b z (x.ev fr) (n.ev fr)
  | .lenStr x => M.ofOption (aLenStr (x.ev fr))
  | .lenA n => M.pure (.int .i64 n)
  | .append e sz bytes x y => aAppend e sz bytes (x.ev fr) (y.ev fr)
  | .copy sz x y => aCopy sz (x.ev fr) (y.ev fr)
  | .minmax max xs => match xs with | [] => M.fail | x :: rest => M.ofOption (aMinMax max (x.ev fr) (rest.map (·.ev fr)))
  | .bytesToStr x => aBytesToStr (x.ev fr)
  | .strToBytes e x => aStrToBytes e (x.ev fr)
  | .uptr t s x => aUptr t s (x.ev fr)
  | .sliceData sz x => aSliceData sz (x.ev fr)
  | .unsafeStr e x n => aUnsafeStr e (x.ev fr) (n.ev fr)
  | .lookup d z ok x k => aLookup d z ok (x.ev fr) (k.ev fr)
  | .mapLit es => fun H => some (.map H.n, H.push (.mapo es))
  | .mapSet d x k v => aMapSet d (x.ev fr) (k.ev fr) (v.ev fr)
  | .lenM x => aLenM (x.ev fr)
def ROp.kind : ROp → Nat
  | .mov _ | .pick .. | .build .. | .nilCheck _ | .bin .. | .eq .. | .un .. | .convInt .. | .mkIface .. | .mkFunc .. | .sliceStr .. | .sliceArr .. | .fieldAddr .. | .field .. | .idxS .. | .idxA .. | .indexA .. | .indexStr .. | .extract ..
  | .lenS _ | .capS _ | .lenStr _ | .lenA _ | .minmax .. => 0
  | .load .. | .sliceS .. | .bytesToStr _ | .uptr .. | .sliceData .. | .lookup .. | .lenM _ => 1
  | .new .. | .box .. | .buildSlice .. | .makeSlice .. => 3
  | _ => 2
def ROpd.tmps : ROpd → List Nat
  | .tmp t => [t]
  | .val _ => []
def optTmps : Option ROpd → List Nat
  | some x => x.tmps
  | none => []
def ROp.tmps : ROp → List Nat
  | .mov x | .box _ x | .load _ x | .nilCheck x | .un _ x | .convInt _ x | .mkIface _ x | .sliceStr x none none | .fieldAddr _ x | .field _ _ x | .rangeStr x | .nextStr x | .extract x _ | .lenS x | .capS x | .lenStr x | .bytesToStr x | .strToBytes _ x | .uptr _ _ x | .sliceData _ x | .lenM x => x.tmps
  | .pick c a b => c.tmps ++ a.tmps ++ b.tmps
  | .new _ _ | .lenA _ | .mapLit _ => []
  | .build _ ps | .buildSlice _ _ _ _ ps => ps.flatMap fun p => p.2.2.tmps
  | .store _ a x | .bin _ a x | .eq _ _ a x | .makeSlice _ _ _ a x | .idxS _ a x | .idxA _ _ a x | .indexA _ _ _ a x | .indexStr a x | .append _ _ _ a x | .appendZ _ _ _ _ a x | .copy _ a x | .unsafeStr _ a x | .lookup _ _ _ a x => a.tmps ++ x.tmps
  | .mkFunc _ a b => a.flatMap ROpd.tmps ++ b.flatMap ROpd.tmps
  | .sliceS _ x lo hi mx | .sliceArr _ _ x lo hi mx => x.tmps ++ optTmps lo ++ optTmps hi ++ optTmps mx
  | .sliceStr x lo hi => x.tmps ++ optTmps lo ++ optTmps hi
  | .call f l => f.tmps ++ l.flatMap ROpd.tmps
  | .minmax _ l => l.flatMap ROpd.tmps
  | .mapSet _ x k v => x.tmps ++ k.tmps ++ v.tmps
def ROper.wanted (fr : AFrame) (o : ROper) : Bool :=
  match o.guard with
  | none => true
  | some (t, want) => match fr t with | .bool b => (match want with | true => b | false => !b) | _ => false
def put (fr : AFrame) (d : Option Nat) (v : AVal) : AFrame := match d with | some d => upd fr d v | none => fr
def execOps (call : ACall) : List ROper → AFrame → M AFrame
  | [], fr => M.pure fr
  | o :: os, fr => match o.wanted fr with
    | true => M.bind (o.op.exec call fr) fun v => execOps call os (put fr o.dst v)
    | false => execOps call os (put fr o.dst aundef)
def ROp.made (fr : AFrame) : ROp → Option (List AVal × TypeId × (Nat → AVal))
  | .new e cs => some (cs, e, fun r => .ptr r 0)
  | .box e x => some ((x.ev fr).cells, e, fun r => .ptr r 0)
  | .buildSlice e sz len zero parts => match aFill fr zero parts with
    | some cs => some (cs, e, fun r => .slice r 0 len (some len) sz)
    | none => none
  | .makeSlice e zero bytes l c => match l.ev fr, c.ev fr with
    | .int _ len, .int _ cap =>
      if 0 ≤ len ∧ len ≤ cap ∧ bytes * cap ≤ 2 ^ 47 ∧ cap < 2 ^ 62 then some ((List.replicate cap.toNat zero).flatten, e, fun r => .slice r 0 len.toNat (some cap.toNat) zero.length) else none
    | _, _ => none
  | _ => none
structure DRec where
  o : ROper
  b : Nat
  cls : Nat
  fr : AFrame
  v : AVal
  want : Bool
  eff : Bool
  hp : AHeap
  ref : Nat
def noCall : ACall := fun _ _ => M.fail
def aSliceE (sz : Nat) (x : AVal) (lo hi mx : Option AVal) : Option AVal :=
  match x with
  | .slice r off len none _ => match aBounds len none lo hi mx with
    | some (l, _, none) => some (.eslice r off l sz)
    | _ => none
  | _ => none
def ROp.look (fr : AFrame) (op : ROp) (H : AHeap) : Option AVal :=
  match op.exec noCall fr H with
  | some (v, H1) => match Nat.beq H1.n H.n with
    | true => some v
    | false => match op with
      | .sliceS sz x lo hi mx => aSliceE sz (x.ev fr) (lo.map (·.ev fr)) (hi.map (·.ev fr)) (mx.map (·.ev fr))
      | _ => none
  | none => none
theorem look_of {fr : AFrame} {op : ROp} {H H1 : AHeap} {v : AVal} (h : op.exec noCall fr H = some (v, H1)) (hn : H1.n = H.n) : op.look fr H = some v := by
  have h0 : Nat.beq H1.n H.n = true := by rw [hn]; exact Nat.beq_refl _
  simp only [ROp.look, h, h0]
def ghostIs (H : AHeap) (ref : Nat) (cs : List AVal) (e : TypeId) : Bool :=
  Nat.blt ref H.n && match H.get ref with | .row cs' true e' => abeqL cs' cs && Nat.beq e' (2 * e) | _ => false
def dstep (call : ACall) (it : DItem) (ref : Nat) (fr : AFrame) (H : AHeap) : Option (AVal × Bool × AHeap) :=
  match Nat.beq it.cls 2 with
  | true => match it.o.op.exec call fr H with
    | some (v, H1) => some (v, true, H1)
    | none => none
  | false => match Nat.beq it.cls 3 with
    | true => match it.o.op.made fr with
      | some (cs, e, k) => match ghostIs H ref cs e with | true => some (k ref, false, H) | false => none
      | none => none
    | false => match it.o.op.look fr H with
      | some v => some (v, false, H)
      | none => none
def nextRef (cls ref : Nat) : Nat := match Nat.beq cls 3 with | true => ref + 1 | false => ref
def dtext (call : ACall) : List DItem → Nat → AFrame → AHeap → Option (List DRec × AFrame × AHeap)
  | [], _, fr, H => some ([], fr, H)
  | it :: rest, ref, fr, H =>
    match it.o.wanted fr with
    | false => match dtext call rest (nextRef it.cls ref) (put fr it.o.dst aundef) H with
      | some (R, fr', H') => some (⟨it.o, it.b, it.cls, fr, aundef, false, false, H, ref⟩ :: R, fr', H')
      | none => none
    | true => match dstep call it ref fr H with
      | none => none
      | some (v, eff, H1) => match dtext call rest (nextRef it.cls ref) (put fr it.o.dst v) H1 with
        | some (R, fr', H') => some (⟨it.o, it.b, it.cls, fr, v, true, eff, H1, ref⟩ :: R, fr', H')
        | none => none
def DRec.okAt (r : DRec) (H : AHeap) : Bool :=
  match Nat.beq r.cls 3 with
  | true => match r.o.op.made r.fr with
    | some (cs, e, _) => ghostIs H r.ref cs e
    | none => false
  | false => match r.o.op.look r.fr H with
    | some v => abeq v r.v
    | none => false
def DRec.chk (r : DRec) (k : Nat) : List DRec → Nat → AHeap → Bool → Bool
  | [], _, cur, may => !may || r.okAt cur
  | e :: es, i, cur, may => match e.eff with
    | false => r.chk k es (i + 1) cur may
    | true => (!may || r.b.testBit i || r.okAt cur) && r.chk k es (i + 1) e.hp (!(e.b.testBit k))
def dcheck (R : List DRec) (H0 : AHeap) : List DRec → Nat → Bool
  | [], _ => true
  | r :: rs, k => (match r.want && (Nat.beq r.cls 1 || Nat.beq r.cls 3) with | true => r.chk k R 0 H0 true | false => true) && dcheck R H0 rs (k + 1)
def oracle : List DItem → Nat → AFrame → AHeap → List AObj
  | [], _, _, _ => []
  | it :: rest, ref, fr, H =>
    match Nat.beq it.cls 3 with
    | true => match it.o.wanted fr with
      | true => match it.o.op.made fr with
        | some (cs, e, k) => .row cs true (2 * e) :: oracle rest (ref + 1) (put fr it.o.dst (k ref)) H
        | none => .dead :: oracle rest (ref + 1) fr H
      | false => .dead :: oracle rest (ref + 1) (put fr it.o.dst aundef) H
    | false => match it.pre with
      | true => match it.o.wanted fr with
        | true => match it.o.op.exec noCall fr H with
          | some (v, _) => oracle rest ref (put fr it.o.dst v) H
          | none => oracle rest ref fr H
        | false => oracle rest ref (put fr it.o.dst aundef) H
      | false => oracle rest ref fr H
def pushAll (H : AHeap) : List AObj → AHeap
  | [] => H
  | o :: os => pushAll (H.push o) os
def ROper.looks (o : ROper) : List Nat := o.op.tmps ++ (match o.guard with | some (t, _) => [t] | none => [])
def clash (x y : DItem) : Bool :=
  (match x.o.dst with | some d => y.o.looks.contains d || (match y.o.dst with | some e => Nat.beq d e | none => false) | none => false) ||
  (match y.o.dst with | some d => x.o.looks.contains d | none => false) ||
  (Nat.beq x.cls 2 && Nat.beq y.cls 2)
def clashes (y : DItem) : List DItem → Nat → Bool
  | [], _ => true
  | x :: xs, i => (!(clash x y) || y.b.testBit i) && clashes y xs (i + 1)
def orderOk : List DItem → List DItem → Bool
  | [], _ => true
  | y :: rest, before => clashes y before 0 && (Nat.beq y.cls y.o.op.kind || Nat.beq y.cls 2) && orderOk rest (before ++ [y])
def loopN (body : AFrame → M (RExit × AFrame)) : Nat → AFrame → M (RExit × AFrame)
  | 0, _ => M.fail
  | n + 1, fr => M.bind (body fr) fun (x, fr') => match x with
    | .normal => loopN body n fr'
    | e => M.pure (e, fr')
def RCode.exec (call : ACall) (lf : Nat) : RCode → AFrame → M (RExit × AFrame)
  | .skip, fr => M.pure (.normal, fr)
  | .label, fr => M.pure (.normal, fr)
  | .region ops, fr => M.bind (execOps call ops fr) fun fr' => M.pure (.normal, fr')
  | .dregion ops, fr => fun H => match dtext call ops H.n fr (pushAll H (oracle ops H.n fr H)) with
    | some (R, fr', H') => match dcheck R (pushAll H (oracle ops H.n fr H)) R 0 with | true => some ((.normal, fr'), H') | false => none
    | none => none
  | .seq a b, fr => M.bind (a.exec call lf fr) fun (x, fr') => match x with
    | .normal => b.exec call lf fr'
    | e => M.pure (e, fr')
  | .cond c t e, fr => match c.ev fr with
    | .bool b => match b with | true => t.exec call lf fr | false => e.exec call lf fr
    | _ => M.fail
  | .block id b, fr => M.bind (b.exec call lf fr) fun (x, fr') => match x with
    | .exit id' => match Nat.beq id' id with | true => M.pure (.normal, fr') | false => M.pure (.exit id', fr')
    | e => M.pure (e, fr')
  | .loop b, fr => loopN (b.exec call lf) lf fr
  | .scope b, fr => b.exec call lf fr
  | .exit id, fr => M.pure (.exit id, fr)
  | .ret, fr => M.pure (.ret, fr)
  | .fail, _ => M.fail
  | .rangeFunc fns nt g ps a b, fr => fun H => match g.ev fr, fr nt with
    | .func (.func gf) fi ca, .tuple vs => match fns.contains gf with
      | true => match call gf (fi ++ [.yield (H.n + 1)] ++ ca) ((H.push .dead).push (.loop ⟨H.n, nt, fr, ps, a, b, 0, .normal⟩)) with
        | some (_, H2) => match H2.get (H.n + 1) with
          | .loop R => match Nat.beq R.st 1 || Nat.beq R.st 4 with
            | false => some ((R.pend, upd fr nt (.tuple (.ptr H.n (H.n + 1) :: vs))), H2.set (H.n + 1) (.loop { R with st := 3 }))
            | true => none
          | _ => none
        | none => none
      | false => none
    | _, _ => none
def takeMark : AVal → M Unit
  | .ptr d l => fun H => match Nat.blt l H.n, H.get l with
    | true, .loop R => match Nat.beq R.st 3 && Nat.beq R.d d with
      | true => some ((), H.set l (.loop { R with st := 4 }))
      | false => none
    | _, _ => none
  | _ => M.fail
def takeMarks : List AVal → M Unit
  | [] => M.pure ()
  | v :: vs => M.bind (takeMark v) fun _ => takeMarks vs
def marksOf : AVal → List AVal
  | .tuple vs => vs
  | _ => []
def RRes.get (fr : AFrame) : RRes → M AVal
  | .tmp t => M.pure (fr t)
  | .cell t agg => aLoad agg (fr t)
def getAll (fr : AFrame) : List RRes → M (List AVal)
  | [] => M.pure []
  | r :: rs => M.bind (r.get fr) fun v => M.bind (getAll fr rs) fun vs => M.pure (v :: vs)
def aResult : List AVal → AVal
  | [v] => v
  | vs => .tuple vs
def argFrame : List AVal → AFrame
  | [] => fun _ => aundef
  | v :: vs => fun i => match i with | 0 => v | i + 1 => argFrame vs i
abbrev Exts := Nat → List AVal → M AVal
def RFunc.run (ext : Exts) (call : ACall) (lf : Nat) (fn : RFunc) (args : List AVal) : M AVal :=
  match fn.body with
  | .ext name => ext name args
  | .code c => if fn.nt < args.length then M.fail else M.bind (c.exec call lf (argFrame args)) fun (x, fr) => match x with
    | .exit _ => M.fail
    | _ => M.bind (getAll fr fn.results) fun vs => M.pure (aResult vs)
  | .ranges c => if fn.nt < args.length then M.fail else M.bind (c.exec call lf (argFrame args)) fun (x, fr) => match x with
    | .exit _ => M.fail
    | _ => M.bind (takeMarks (marksOf (fr fn.nt))) fun _ => M.bind (getAll fr fn.results) fun vs => M.pure (aResult vs)
def setAll (fr : AFrame) : List (Nat × AVal) → AFrame
  | [] => fr
  | (t, v) :: l => setAll (upd fr t v) l
def roundRun (call : ACall) (lf : Nat) (r : Nat) (args : List AVal) : M AVal := fun H =>
  match Nat.blt r H.n, H.get r with
  | true, .loop R => match Nat.beq args.length R.ps.length && R.ps.all (fun t => Nat.blt t R.nt) with
    | true => match R.assign.exec call lf (setAll R.fr (R.ps.zip args)) H with
      | some ((.normal, fr1), H1) => match H1.get r with
        | .loop R1 => match Nat.beq R1.st 0 with
          | true => match R.body.exec call lf fr1 (H1.set r (.loop { R1 with st := 1 })) with
            | some ((x, _), H2) => match H2.get r with
              | .loop R2 => match Nat.beq R2.st 1 with
                | true => some (.bool (match x with | .normal => true | _ => false), H2.set r (.loop { R2 with st := (match x with | .normal => 0 | _ => 2), pend := x }))
                | false => none
              | _ => none
            | none => none
          | false => none
        | _ => none
      | _ => none
    | false => none
  | _, _ => none
def callN (ext : Exts) (prog : FuncId → Option RFunc) : Nat → ACall
  | 0, _, _ => M.fail
  | n + 1, f, args => match prog f with
    | some fn => fn.run ext (callN ext prog n) n args
    | none => match Nat.beq f yieldId, args with
      | true, .yield r :: as => roundRun (callN ext prog n) n r as
      | _, _ => M.fail
end Go.Am

namespace Go.Am
open Go
mutual
def ofV : Value → Option AVal
  | .bool b => some (.bool b)
  | .int k n => some (.int k n)
  | .string s => some (.str s)
  | .pointer none => some .nptr
  | .slice none 0 0 => some .nslice
  | .map none => some .nmap
  | .nilFunc => some .nfunc
  | .nilIface => some .niface
  | .agg ⟨cs⟩ => match ofVL cs with | some l => some (.agg l) | none => none
  | .tuple ⟨vs⟩ => match ofVL vs with | some l => some (.tuple l) | none => none
  | .iface t v => match ofV v with | some x => some (.iface t x) | none => none
  | _ => none
def ofVL : List Value → Option (List AVal)
  | [] => some []
  | v :: vs => match ofV v, ofVL vs with | some x, some l => some (x :: l) | _, _ => none
end
def cOpd (G nt : Nat) : Operand → Option ROpd
  | .tmp t => if t < nt then some (.tmp t) else none
  | .const v => match ofV v with | some x => some (.val x) | none => none
  | .global g => if g < G then some (.val (.ptr g 0)) else none
  | .func f => match Nat.beq f yieldId with | false => some (.val (.func (.func f) [] [])) | true => none
def cOpds (G nt : Nat) : List Operand → Option (List ROpd)
  | [] => some []
  | x :: xs => match cOpd G nt x, cOpds G nt xs with | some a, some l => some (a :: l) | _, _ => none
def cOpt (G nt : Nat) : Option Operand → Option (Option ROpd)
  | none => some none
  | some x => match cOpd G nt x with | some a => some (some a) | none => none
section
variable (P : Program)
def cAgg (t : TypeId) : Option (Option Nat) :=
  match P.underlying t, P.info? t with
  | some (.struct _), some i | some (.array _ _), some i => some (some i.size)
  | some _, some i => if i.size = 1 then some none else none
  | _, _ => none
def cZero (t : TypeId) : Option (List AVal) :=
  match P.info? t with
  | some i => match i.zero with
    | some v => match ofV v with | some x => some x.cells | none => none
    | none => none
  | none => none
def cSize (t : TypeId) : Option Nat := (P.info? t).map (·.size)
def cBytes (t : TypeId) : Option Nat := (P.info? t).map (·.bytes)
def cParts (nt : Nat) (place : Nat → Option (Nat × Nat)) : List (Nat × Operand) → Option (List (Nat × Nat × ROpd))
  | [] => some []
  | (i, x) :: rest => match place i, cOpd P.globals.size nt x, cParts nt place rest with
    | some (off, size), some a, some l => some ((off, size, a) :: l)
    | _, _, _ => none
def cPlaces : List Field → Option (List (Nat × Nat))
  | [] => some []
  | f :: fs => match cSize P f.type, cPlaces fs with
    | some n, some l => some ((f.offset, n) :: l)
    | _, _ => none
def aggN (g : Option Nat) : Nat := match g with | some k => k | none => 0
mutual
def cEq : Nat → TypeId → Option EqDesc
  | 0, _ => none
  | d + 1, t =>
    match P.underlying t with
    | some .bool => some .bool
    | some (.int _) => some .int
    | some .string => some .str
    | some (.pointer e) => match cSize P e with | some _ => some .ptr | none => none
    | some (.slice _) => some .slice
    | some (.func _ _ _) => some .func
    | some (.map _ _) => some .map
    | some (.struct fs) => if P.stoodInHeld t || P.eqGuardType P.depth t then none else
        match cEqs d fs.toList with | some l => some (.fields l) | none => none
    | _ => none
def cEqs : Nat → List Field → Option (List (Option (Nat × Nat × EqDesc)))
  | 0, _ => none
  | _, [] => some []
  | d + 1, f :: fs =>
    if f.name = "_" then (match cEqs d fs with | some l => some (none :: l) | none => none) else
    match cEq d f.type, cAgg P f.type, cEqs d fs with
    | some q, some agg, some l => if agg = some 0 then none else some (some (f.offset, aggN agg, q) :: l)
    | _, _, _ => none
end
def numType (t : TypeId) : Bool := match P.underlying t, P.info? t with
  | some (.int _), some i => i.comparable
  | _, _ => false
def numTypes : List TypeId := (List.range P.types.size).filter (numType P)
def litNil : Operand → Bool
  | .const _ => true
  | _ => false
def ifaceD (x y : Operand) : EqDesc := match litNil x || litNil y with
  | true => .iface true []
  | false => .iface false (numTypes P)
def cEqOp (op : BinOp) (q : Option EqDesc) (x y : Option ROpd) : Option ROp :=
  match op, q, x, y with
  | .eql, some d, some x, some y => some (.eq false d x y)
  | .neq, some d, some x, some y => some (.eq true d x y)
  | _, _, _, _ => none
def cZeroV (t : TypeId) : Option AVal := match P.info? t with
  | some i => match i.zero with | some v => ofV v | none => none
  | none => none
mutual
def cKey : Nat → TypeId → Bool
  | 0, _ => false
  | d + 1, t =>
    match P.underlying t with
    | some .bool | some (.int _) | some .string => true
    | some (.struct fs) => cKeys d fs.toList
    | _ => false
def cKeys : Nat → List Field → Bool
  | 0, _ => false
  | _, [] => true
  | d + 1, f :: fs => (f.name = "_" || cKey d f.type) && cKeys d fs
end
def hintOk : Option Operand → Bool
  | none => true
  | some (.const (.int _ _)) => true
  | _ => false
def cOp (nt : Nat) (o : Oper) : Option ROp :=
  let u := cOpd P.globals.size nt
  match o.op with
  | .move x | .assign x => match u x with | some a => some (.mov a) | none => none
  | .pick c x y => match u c, u x, u y with | some c, some x, some y => some (.pick c x y) | _, _, _ => none
  | .alloc e => match cZero P e with | some z => some (.new e z) | none => none
  | .box e x => match u x with | some a => some (.box e a) | none => none
  | .build t ps =>
    match cZero P t, P.underlying t with
    | some z, some (.struct fs) => match cPlaces P fs.toList with
      | some pl => match cParts P nt (pl[·]?) ps.toList with | some l => some (.build z l) | none => none
      | none => none
    | some z, some (.array _ e) => match cSize P e with
      | some s => match cParts P nt (fun i => some (i * s, s)) ps.toList with | some l => some (.build z l) | none => none
      | none => none
    | _, _ => none
  | .buildSlice t len ps =>
    match P.underlying t with
    | some (.slice e) => match cSize P e, cZero P e with
      | some s, some z => if z.length = s ∧ 0 < s ∧ len * s ≤ 2 ^ 24 then
          match cParts P nt (fun i => some (i * s, s)) ps.toList with | some l => some (.buildSlice e s len (List.replicate len z).flatten l) | none => none
        else none
      | _, _ => none
    | _ => none
  | .load t a => match cAgg P t, u a with | some g, some a => some (.load g a) | _, _ => none
  | .store t a x => match cSize P t, u a, u x with | some n, some a, some x => some (.store n a x) | _, _, _ => none
  | .nilCheck x => match u x with | some a => some (.nilCheck a) | none => none
  | .binOp op t x y _ =>
    match P.underlying t with
    | some (.int _) | some .string => match u x, u y with | some x, some y => some (.bin op x y) | _, _ => none
    | some (.interface _) => cEqOp op (some (ifaceD P x y)) (u x) (u y)
    | _ => cEqOp op (cEq P 60 t) (u x) (u y)
  | .unOp op _ x => match u x with | some a => some (.un op a) | none => none
  | .convert s d x =>
    match P.underlying s, P.underlying d, u x with
    | some (.int _), some (.int k), some a => some (.convInt k a)
    | some (.slice e), some .string, some a => match P.underlying e, cSize P e with | some (.int .u8), some 1 => some (.bytesToStr a) | _, _ => none
    | some .string, some (.slice e), some a => match P.underlying e, cSize P e with | some (.int .u8), some 1 => some (.strToBytes e a) | _, _ => none
    | some (.pointer t), some .unsafePointer, some a => (cSize P t).map fun s => .uptr t s a
    | some .unsafePointer, some (.pointer t), some a => (cSize P t).map fun s => .uptr t s a
    | _, _, _ => none
  | .makeInterface t x => match P.underlying t, u x with
    | some (.interface _), _ => none
    | some _, some a => some (.mkIface t a)
    | _, _ => none
  | .makeFunc fn a b => match fnOk fn, cOpds P.globals.size nt a.toList, cOpds P.globals.size nt b.toList with | true, some a, some b => some (.mkFunc fn a b) | _, _, _ => none
  | .makeSlice t l c => match P.underlying t with
    | some (.slice e) => match cSize P e, cZero P e, cBytes P e, u l, u c with
      | some s, some z, some b, some l, some c => if z.length = s ∧ 0 < s then some (.makeSlice e z b l c) else none
      | _, _, _, _, _ => none
    | _ => none
  | .slice t x lo hi mx => match u x, cOpt P.globals.size nt lo, cOpt P.globals.size nt hi, cOpt P.globals.size nt mx with
    | some x, some lo, some hi, some mx => match P.underlying t with
      | some .string => match mx with | none => some (.sliceStr x lo hi) | some _ => none
      | some (.slice e) => (cSize P e).map fun s => .sliceS s x lo hi mx
      | some (.array n e) => (cSize P e).map fun s => .sliceArr n s x lo hi mx
      | _ => none
    | _, _, _, _ => none
  | .fieldAddr t x f => match P.underlying t, u x with
    | some (.struct fs), some a => match fs[f]? with
      | some f => match cSize P f.type with
        | some n => if n = 0 then none else some (.fieldAddr f.offset a)
        | none => none
      | none => none
    | _, _ => none
  | .field t x f => match P.underlying t, u x with
    | some (.struct fs), some a => match fs[f]? with
      | some f => match cAgg P f.type with | some g => some (.field g f.offset a) | none => none
      | none => none
    | _, _ => none
  | .indexAddr t x i => match P.underlying t, u x, u i with
    | some (.slice e), some x, some i => (cSize P e).map fun s => .idxS s x i
    | some (.array n e), some x, some i => (cSize P e).map fun s => .idxA n s x i
    | _, _, _ => none
  | .index t x i => match P.underlying t, u x, u i with
    | some .string, some x, some i => some (.indexStr x i)
    | some (.array n e), some x, some i => match cAgg P e, cSize P e with
      | some g, some s => some (.indexA n s g.isSome x i)
      | _, _ => none
    | _, _, _ => none
  | .extract x i => match u x with | some a => some (.extract a i) | none => none
  | .lookup t x k ok => match P.underlying t, u x, u k with
    | some (.map kt e), some x, some k => match cEq P 60 kt, cKey P 60 kt, cZeroV P e with
      | some d, true, some z => some (.lookup d z ok x k)
      | _, _, _ => none
    | _, _, _ => none
  | .makeMap t r => match hintOk r, P.underlying t with
    | true, some (.map _ _) => some (.mapLit [])
    | _, _ => none
  | .mapUpdate t x k v => match P.underlying t, u x, u k, u v with
    | some (.map kt _), some x, some k, some v => match cEq P 60 kt, cKey P 60 kt with
      | some d, true => some (.mapSet d x k v)
      | _, _ => none
    | _, _, _, _ => none
  | .range t x => match P.underlying t, u x with | some .string, some x => some (.rangeStr x) | _, _ => none
  | .next x b => match b, u x with | true, some x => some (.nextStr x) | _, _ => none
  | .call { callee := .value f, args, .. } => match u f, cOpds P.globals.size nt args.toList with | some f, some l => some (.call f l) | _, _ => none
  | .call { callee := .builtin b, args, argTypes } =>
    match b with
    | .len => match argTypes[0]?, args[0]? with
      | some t, some x => match P.underlying t, u x with
        | some .string, some a => some (.lenStr a)
        | some (.slice _), some a => some (.lenS a)
        | some (.map _ _), some a => some (.lenM a)
        | some (.array n _), _ => some (.lenA n)
        | _, _ => none
      | _, _ => none
    | .cap => match argTypes[0]?, args[0]? with
      | some t, some x => match P.underlying t, u x with
        | some (.slice _), some a => some (.capS a)
        | _, _ => none
      | _, _ => none
    | .append => match argTypes[0]?, argTypes[1]?, args[0]?, args[1]? with
      | some t, some t', some x, some y => match P.underlying t, P.underlying t', u x, u y with
        | some (.slice e), some (.int .i64), some x, some y => match cSize P e, cBytes P e, cZero P e with
          | some s, some b, some z => some (.appendZ e s b z x y)
          | _, _, _ => none
        | some (.slice _), some (.int _), _, _ => none
        | some (.slice e), some _, some x, some y => match cSize P e, cBytes P e, cZero P e with
          | some s, some b, some z => if z.length = s then some (.append e s b x y) else none
          | _, _, _ => none
        | _, _, _, _ => none
      | _, _, _, _ => none
    | .copy => match argTypes[0]?, args[0]?, args[1]? with
      | some t, some x, some y => match P.underlying t, u x, u y with
        | some (.slice e), some x, some y => (cSize P e).map fun s => .copy s x y
        | _, _, _ => none
      | _, _, _ => none
    | .unsafeSliceData => match argTypes[0]?, args[0]?, args[1]? with
      | some t, some x, none => match P.underlying t, u x with
        | some (.slice e), some x => (cSize P e).map fun s => .sliceData s x
        | _, _ => none
      | _, _, _ => none
    | .unsafeString => match argTypes[0]?, args[0]?, args[1]?, args[2]? with
      | some t, some x, some y, none => match P.underlying t, u x, u y with
        | some (.pointer e), some x, some y => match P.underlying e, cSize P e with | some (.int .u8), some 1 => some (.unsafeStr e x y) | _, _ => none
        | _, _, _ => none
      | _, _, _, _ => none
    | .min => match cOpds P.globals.size nt args.toList with | some l => some (.minmax false l) | none => none
    | .max => match cOpds P.globals.size nt args.toList with | some l => some (.minmax true l) | none => none
    | _ => none
  | _ => none
def cGuard (nt : Nat) (ops : Array Oper) : Option (Nat × Bool) → Option (Option (Nat × Bool))
  | none => some none
  | some (j, b) => match (ops[j]?).bind (·.dst) with
    | some t => if t < nt then some (some (t, b)) else none
    | none => none
def cDst (nt : Nat) : Option Tmp → Option (Option Nat)
  | none => some none
  | some d => if d < nt then some (some d) else none
def cOpers (nt : Nat) (ops : Array Oper) : List Oper → Option (List ROper)
  | [] => some []
  | o :: os => match cOp P nt o, cDst nt o.dst, cGuard nt ops o.guard, cOpers nt ops os with
    | some op, some dst, some guard, some l => some ({ dst, op, guard } :: l)
    | _, _, _, _ => none
def maskOk (masks : List Nat) (after : List Edge) (j : Nat) : Bool :=
  after.all (fun e => !(Region.binds .any e) || decide (e.on < j)) &&
  (List.range masks.length).all fun i => !((masks.getD j 0).testBit i) || after.any fun e => Region.binds .any e && decide (e.on < j) && (Nat.beq e.on i || (masks.getD e.on 0).testBit i)
def masksOk (masks : List Nat) : List Oper → Nat → Bool
  | [], _ => true
  | o :: os, j => maskOk masks o.after.toList j && masksOk masks os (j + 1)
def slc : ROp → Bool
  | .sliceS .. => true
  | _ => false
def items (ef : Bool) : List ROper → List Nat → List Nat → List DItem
  | o :: os, b :: bs, bad =>
    let pre := !(Nat.beq o.op.kind 2) && o.looks.all fun t => !(bad.contains t)
    { o, b, cls := if (Nat.beq o.op.kind 3 || (ef && slc o.op)) && !pre then 2 else o.op.kind, pre } :: items ef os bs (if pre then bad else match o.dst with | some d => d :: bad | none => bad)
  | _, _, _ => []
def drawOk (ef : Bool) (ops : List Oper) (masks : List Nat) (l : List ROper) : Bool := Nat.beq masks.length ops.length && masksOk masks ops 0 && orderOk (items ef l masks []) []
def cDraw (ops : List Oper) (masks : List Nat) (l : List ROper) : Option RCode :=
  match drawOk true ops masks l with
  | true => some (.dregion (items true l masks []))
  | false => match drawOk false ops masks l with
    | true => some (.dregion (items false l masks []))
    | false => none
inductive LIt where
  | make (d : Nat) (t : TypeId)
  | ins (q : EqDesc) (rk rv : ROpd) (k v : AVal)
  | val (ro : ROp) (d : Nat) (v : AVal)
  | ref (d x : Nat)
  deriving Inhabited
def LIt.dst : LIt → Option Nat
  | .make d _ | .val _ d _ | .ref d _ => some d
  | .ins .. => none
def LIt.reads (dm : Nat) : LIt → List Nat
  | .make .. => []
  | .ins _ rk rv _ _ => dm :: (rk.tmps ++ rv.tmps)
  | .val ro _ _ => ro.tmps
  | .ref _ x => [x]
def LIt.wr (t : Nat) (it : LIt) : Bool := match it.dst with | some d => Nat.beq d t | none => false
def litC (done : List LIt) (t : Nat) : Option AVal := match done.find? (LIt.wr t) with | some (.val _ _ v) => some v | _ => none
def litF (done : List LIt) : AFrame := fun t => match litC done t with | some v => v | none => aundef
def litMap (done : List LIt) (t : Nat) : Bool := match done.find? (LIt.wr t) with | some (.make ..) | some (.ref ..) => true | _ => false
def litKnown (done : List LIt) (ts : List Nat) : Bool := ts.all fun t => (litC done t).isSome
def emptyHeap : AHeap := ⟨0, fun _ => .dead⟩
def litVal (nt : Nat) (done : List LIt) (o : Oper) (ro : ROp) : Option LIt := match o.dst with
  | some d => if d < nt ∧ Nat.beq ro.kind 0 = true ∧ litKnown done ro.tmps = true then
      match ro.exec noCall (litF done) emptyHeap with | some (v, _) => some (.val ro d v) | none => none
    else none
  | none => none
def litRef (nt : Nat) (done : List LIt) (o : Oper) : ROp → Option LIt
  | .mov (.tmp x) => match litMap done x, o.dst with
    | true, some d => if d < nt then some (.ref d x) else none
    | _, _ => none
  | _ => none
def litIns (nt dm : Nat) (tm : TypeId) (done : List LIt) (t : TypeId) (mt : Operand) (k v : Operand) : Option LIt :=
  match mt, P.underlying t, cOpd P.globals.size nt k, cOpd P.globals.size nt v with
  | .tmp m, some (.map kt _), some rk, some rv => match cEq P 60 kt with
    | some q => if m = dm ∧ t = tm ∧ cKey P 60 kt = true ∧ litKnown done (rk.tmps ++ rv.tmps) = true ∧ aEq q (rk.ev (litF done)) (rk.ev (litF done)) = some true then some (.ins q rk rv (rk.ev (litF done)) (rv.ev (litF done))) else none
    | none => none
  | _, _, _, _ => none
def litOp (nt dm : Nat) (tm : TypeId) (done : List LIt) (o : Oper) : Option LIt := match o.guard with
  | some _ => none
  | none => match o.op with
    | .insert t m k v => match o.dst with | none => litIns P nt dm tm done t m k v | some _ => none
    | _ => match cOp P nt o with
      | some ro => match litRef nt done o ro with
        | some it => some it
        | none => litVal nt done o ro
      | none => none
def litScan (nt dm : Nat) (tm : TypeId) : List Oper → List LIt → Option (List LIt)
  | [], done => some done
  | o :: os, done => match litOp P nt dm tm done o with | some it => litScan nt dm tm os (done ++ [it]) | none => none
def litEnts : List LIt → List (AVal × AVal)
  | [] => []
  | .ins _ _ _ k v :: l => (k, v) :: litEnts l
  | _ :: l => litEnts l
def litCode (dm : Nat) : List LIt → List ROper
  | [] => []
  | .val _ d v :: l => ⟨some d, .mov (.val v), none⟩ :: litCode dm l
  | .ref d _ :: l => ⟨some d, .mov (.tmp dm), none⟩ :: litCode dm l
  | _ :: l => litCode dm l
def litReads (dm : Nat) (L : List LIt) (masks : List Nat) : Bool :=
  (List.range L.length).all fun k => match L[k]? with
    | some it => (it.reads dm).all fun t => (List.range k).any fun j => (match L[j]? with | some x => x.wr t | none => false) && (masks.getD k 0).testBit j
    | none => false
def litDsts : List LIt → Bool
  | [] => true
  | it :: l => (match it.dst with | some d => l.all fun x => !(x.wr d) | none => true) && litDsts l
def litApart : List LIt → Bool
  | [] => true
  | .ins q _ _ k _ :: l => (l.all fun x => match x with | .ins q' _ _ k' _ => (match aEq q k k' with | some false => true | _ => false) && (match aEq q' k' k with | some false => true | _ => false) | _ => true) && litApart l
  | _ :: l => litApart l
def cLit (nt : Nat) (ops : List Oper) (masks : List Nat) : Option RCode := match ops with
  | o :: os => match o.guard, o.op, o.dst with
    | none, .makeMap t none, some d => match litScan P nt d t os [.make d t] with
      | some L => if d < nt ∧ Nat.beq masks.length ops.length = true ∧ masksOk masks ops 0 = true ∧ litReads d L masks = true ∧ litDsts L = true ∧ litApart L = true then
          some (.region (⟨some d, .mapLit (litEnts L), none⟩ :: litCode d (L.drop 1)))
        else none
      | none => none
    | _, _, _ => none
  | [] => none
def cCode (nt : Nat) : Code → Option RCode
  | .skip => some .skip
  | .label _ => some .label
  | .region _ ops false => match cOpers P nt ops ops.toList with | some l => some (.region l) | none => some .fail
  | .region _ ops true => match cOpers P nt ops ops.toList with
    | some l => match cDraw ops.toList (Region.before ops).toList l with | some c => some c | none => some .fail
    | none => match cLit P nt ops.toList (Region.before ops).toList with | some c => some c | none => some .fail
  | .seq a b => match cCode nt a, cCode nt b with | some a, some b => some (.seq a b) | _, _ => none
  | .cond c t e => match cOpd P.globals.size nt c, cCode nt t, cCode nt e with | some c, some t, some e => some (.cond c t e) | _, _, _ => none
  | .block id b => match cCode nt b with | some b => some (.block id b) | none => none
  | .loop b => match cCode nt b with | some b => some (.loop b) | none => none
  | .scope b => match cCode nt b with | some b => some (.scope b) | none => none
  | .exit id => some (.exit id)
  | .ret => some .ret
  | _ => some .fail
def entered (f : FuncId) : Bool := match P.funcs[f]? with
  | some fn => fn.body.isSome && !(fn.name == "runtime.NumGoroutine")
  | none => false
def enteredAll : List FuncId := (List.range P.funcs.size).filter (entered P)
def ranges : Code → Bool
  | .seq a b => ranges a || ranges b
  | .cond _ t e => ranges t || ranges e
  | .block _ b | .loop b | .scope b => ranges b
  | .rangeFunc .. => true
  | _ => false
def cTop (nt : Nat) : Code → Option RCode
  | .seq a b => match cTop nt a, cTop nt b with | some a, some b => some (.seq a b) | _, _ => none
  | .cond c t e => match cOpd P.globals.size nt c, cTop nt t, cTop nt e with | some c, some t, some e => some (.cond c t e) | _, _, _ => none
  | .block id b => match cTop nt b with | some b => some (.block id b) | none => none
  | .loop b => match cTop nt b with | some b => some (.loop b) | none => none
  | .scope b => match cTop nt b with | some b => some (.scope b) | none => none
  | .rangeFunc g ps a b => match cOpd P.globals.size nt g, cCode P nt a, cCode P nt b with | some g, some a, some b => some (.rangeFunc (enteredAll P) nt g ps.toList a b) | _, _, _ => none
  | c => cCode P nt c
def cRes (nt : Nat) : List ResultVar → Option (List RRes)
  | [] => some []
  | .tmp t :: rs => match cRes nt rs with | some l => if t < nt then some (.tmp t :: l) else none | none => none
  | .cell a t :: rs => match cAgg P t, cRes nt rs with | some g, some l => if a < nt then some (.cell a g :: l) else none | _, _ => none
def cFunc (fn : Func) : Option RFunc :=
  if fn.name == "runtime.NumGoroutine" then none else
  match fn.body with
  | some c => match ranges c with
    | false => match cCode P fn.ntmps c, cRes P fn.ntmps fn.results.toList with
      | some c, some r => some { nt := fn.ntmps, body := .code c, results := r }
      | _, _ => none
    | true => match cTop P fn.ntmps c, cRes P fn.ntmps fn.results.toList with
      | some c, some r => some { nt := fn.ntmps, body := .ranges c, results := r }
      | _, _ => none
  | none => none
end
end Go.Am

namespace Go.Am
open Go Go.RowKit
theorem embL_cons {m : RMap} {v : AVal} {vs : List AVal} {l : List Value} (h : embL m (v :: vs) = some l) :
    ∃ x xs, emb m v = some x ∧ embL m vs = some xs ∧ l = x :: xs := by
  rw [embL] at h
  split at h
  · rename_i x xs h1 h2
    exact ⟨x, xs, h1, h2, (Option.some.inj h).symm⟩
  · cases h
theorem embL_mk {m : RMap} {v : AVal} {vs : List AVal} {x : Value} {xs : List Value} (h1 : emb m v = some x) (h2 : embL m vs = some xs) :
    embL m (v :: vs) = some (x :: xs) := by simp [embL, h1, h2]
def Le (m m' : RMap) : Prop := ∀ r p, m r = some p → m' r = some p
theorem Le.refl (m : RMap) : Le m m := fun _ _ h => h
theorem Le.trans {a b c : RMap} (h : Le a b) (k : Le b c) : Le a c := fun r p hp => k r p (h r p hp)
theorem get_mono {m m' : RMap} (h : Le m m') {r : Nat} {p : Addr × Nat} (hp : m r = some p) : m' r = some p := h r p hp
def RMap.add (m : RMap) (n : Nat) (x : Addr × Nat) : RMap := fun r => if r = n then some x else m r
theorem add_eq {m : RMap} {n : Nat} {x : Addr × Nat} : (m.add n x) n = some x := by simp [RMap.add]
theorem add_ne {m : RMap} {n r : Nat} {x : Addr × Nat} (h : r ≠ n) : (m.add n x) r = m r := by simp [RMap.add, h]
theorem le_add {m : RMap} {n : Nat} (x : Addr × Nat) (h : m n = none) : Le m (m.add n x) := fun r p hp => by
  by_cases hr : r = n
  · subst hr; rw [h] at hp; cases hp
  · rw [add_ne hr]; exact hp
mutual
theorem emb_mono {m m' : RMap} (h : Le m m') : ∀ (v : AVal) (x : Value), emb m v = some x → emb m' v = some x
  | .bool b, x, hx => by simpa [emb] using hx
  | .int k n, x, hx => by simpa [emb] using hx
  | .str s, x, hx => by simpa [emb] using hx
  | .nptr, x, hx => by simpa [emb] using hx
  | .nslice, x, hx => by simpa [emb] using hx
  | .nfunc, x, hx => by simpa [emb] using hx
  | .niface, x, hx => by simpa [emb] using hx
  | .ptr r off, x, hx => by
    simp only [emb] at hx ⊢
    split at hx
    · rename_i p hp; rw [get_mono h hp]; exact hx
    · cases hx
  | .slice r off len cap sz, x, hx => by
    simp only [emb] at hx ⊢
    split at hx
    · rename_i p hp; rw [get_mono h hp]; exact hx
    · cases hx
  | .func fn fi ca, x, hx => by
    simp only [emb] at hx ⊢
    split at hx
    · rename_i a b h0 h1 h2; rw [h0, embL_mono h _ _ h1, embL_mono h _ _ h2]; exact hx
    · cases hx
  | .yield r, x, hx => by
    simp only [emb] at hx ⊢
    split at hx
    · rename_i p hp; rw [get_mono h hp]; exact hx
    · cases hx
  | .eslice r off l sz, x, hx => by
    simp only [emb] at hx ⊢
    split at hx
    · rename_i p hp; rw [get_mono h hp]; exact hx
    · cases hx
  | .nmap, x, hx => by simpa [emb] using hx
  | .map r, x, hx => by
    simp only [emb] at hx ⊢
    split at hx
    · rename_i p hp; rw [get_mono h hp]; exact hx
    · cases hx
  | .iface t v, x, hx => by
    simp only [emb] at hx ⊢
    split at hx
    · rename_i y hy; rw [emb_mono h _ _ hy]; exact hx
    · cases hx
  | .agg cs, x, hx => by
    simp only [emb] at hx ⊢
    split at hx
    · rename_i y hy; rw [embL_mono h _ _ hy]; exact hx
    · cases hx
  | .tuple cs, x, hx => by
    simp only [emb] at hx ⊢
    split at hx
    · rename_i y hy; rw [embL_mono h _ _ hy]; exact hx
    · cases hx
theorem embL_mono {m m' : RMap} (h : Le m m') : ∀ (l : List AVal) (x : List Value), embL m l = some x → embL m' l = some x
  | [], x, hx => by simpa [embL] using hx
  | v :: vs, x, hx => by
    obtain ⟨y, ys, h1, h2, rfl⟩ := embL_cons hx
    exact embL_mk (emb_mono h _ _ h1) (embL_mono h _ _ h2)
end
mutual
theorem ofV_emb (m : RMap) : ∀ (x : Value) (v : AVal), ofV x = some v → emb m v = some x
  | .bool b, v, h => by simp [ofV] at h; subst h; simp [emb]
  | .int k n, v, h => by simp [ofV] at h; subst h; simp [emb]
  | .string s, v, h => by simp [ofV] at h; subst h; simp [emb]
  | .pointer none, v, h => by simp [ofV] at h; subst h; simp [emb]
  | .pointer (some a), v, h => by simp [ofV] at h
  | .slice none 0 0, v, h => by simp [ofV] at h; subst h; simp [emb]
  | .slice none (_ + 1) _, v, h => by simp [ofV] at h
  | .slice none 0 (_ + 1), v, h => by simp [ofV] at h
  | .slice (some _) _ _, v, h => by simp [ofV] at h
  | .nilFunc, v, h => by simp [ofV] at h; subst h; simp [emb]
  | .nilIface, v, h => by simp [ofV] at h; subst h; simp [emb]
  | .agg ⟨cs⟩, v, h => by
    simp only [ofV] at h
    split at h
    · rename_i l hl; cases h; simp [emb, ofVL_emb m cs _ hl]
    · cases h
  | .tuple ⟨cs⟩, v, h => by
    simp only [ofV] at h
    split at h
    · rename_i l hl; cases h; simp [emb, ofVL_emb m cs _ hl]
    · cases h
  | .iface t x, v, h => by
    simp only [ofV] at h
    split at h
    · rename_i l hl; cases h; simp [emb, ofV_emb m x _ hl]
    · cases h
  | .float _ _, v, h => by simp [ofV] at h
  | .complex _ _ _, v, h => by simp [ofV] at h
  | .map none, v, h => by simp [ofV] at h; subst h; simp [emb]
  | .map (some _), v, h => by simp [ofV] at h
  | .chan _, v, h => by simp [ofV] at h
  | .func _ _ _, v, h => by simp [ofV] at h
theorem ofVL_emb (m : RMap) : ∀ (x : List Value) (v : List AVal), ofVL x = some v → embL m v = some x
  | [], v, h => by simp [ofVL] at h; subst h; simp [embL]
  | x :: xs, v, h => by
    simp only [ofVL] at h
    split at h
    · rename_i a l h1 h2; cases h; exact embL_mk (ofV_emb m x _ h1) (ofVL_emb m xs _ h2)
    · cases h
end
theorem embL_length {m : RMap} : ∀ {l : List AVal} {x : List Value}, embL m l = some x → x.length = l.length
  | [], x, h => by simp [embL] at h; subst h; rfl
  | v :: vs, x, h => by
    obtain ⟨y, ys, _, h2, rfl⟩ := embL_cons h
    simp [embL_length h2]
theorem embL_get {m : RMap} : ∀ {l : List AVal} {x : List Value}, embL m l = some x → ∀ {i : Nat} {v : AVal}, l[i]? = some v → ∃ y, emb m v = some y ∧ x[i]? = some y
  | [], x, h, i, v, hi => by simp at hi
  | a :: as, x, h, i, v, hi => by
    obtain ⟨y, ys, h1, h2, rfl⟩ := embL_cons h
    cases i with
    | zero => simp at hi; subst hi; exact ⟨y, h1, rfl⟩
    | succ i => simp at hi ⊢; exact embL_get h2 hi
theorem embL_of_get {m : RMap} : ∀ {l : List AVal} {x : List Value}, x.length = l.length → (∀ (i : Nat) (v : AVal), l[i]? = some v → ∃ y, emb m v = some y ∧ x[i]? = some y) → embL m l = some x
  | [], x, hl, _ => by cases x <;> simp_all [embL]
  | a :: as, x, hl, h => by
    cases x with
    | nil => simp at hl
    | cons y ys =>
      obtain ⟨z, hz, hy⟩ := h 0 a rfl
      simp at hy; subst hy
      exact embL_mk hz (embL_of_get (by simpa using hl) fun i v hi => by simpa using h (i + 1) v (by simpa using hi))
theorem embL_append {m : RMap} {a b : List AVal} {x y : List Value} (h1 : embL m a = some x) (h2 : embL m b = some y) : embL m (a ++ b) = some (x ++ y) := by
  induction a generalizing x with
  | nil => simp [embL] at h1; subst h1; simpa using h2
  | cons v vs ih =>
    obtain ⟨z, zs, h3, h4, rfl⟩ := embL_cons h1
    exact embL_mk h3 (ih h4)
theorem embL_take {m : RMap} {a : List AVal} {x : List Value} (h : embL m a = some x) (n : Nat) : embL m (a.take n) = some (x.take n) := by
  induction a generalizing x n with
  | nil => simp [embL] at h; subst h; simp [embL]
  | cons v vs ih =>
    obtain ⟨z, zs, h3, h4, rfl⟩ := embL_cons h
    cases n with
    | zero => simp [embL]
    | succ n => simpa using embL_mk h3 (ih h4 n)
theorem embL_drop {m : RMap} {a : List AVal} {x : List Value} (h : embL m a = some x) (n : Nat) : embL m (a.drop n) = some (x.drop n) := by
  induction a generalizing x n with
  | nil => simp [embL] at h; subst h; simp [embL]
  | cons v vs ih =>
    obtain ⟨z, zs, h3, h4, rfl⟩ := embL_cons h
    cases n with
    | zero => simpa using embL_mk h3 h4
    | succ n => simpa using ih h4 n
theorem emb_cells {m : RMap} {v : AVal} {x : Value} (h : emb m v = some x) : embL m v.cells = some x.cells.toList := by
  cases v <;> simp only [emb] at h
  case agg cs =>
    split at h
    · rename_i l hl; cases h; simpa [AVal.cells, Value.cells] using hl
    · cases h
  case ptr => split at h <;> first | (cases h; done) | (cases h; simp [AVal.cells, Value.cells, embL, emb, *])
  case slice => split at h <;> first | (cases h; done) | (cases h; simp [AVal.cells, Value.cells, embL, emb, *])
  case eslice =>
    cases hr : ‹RMap› _ with
    | none => rw [hr] at h; cases h
    | some p => rw [hr] at h; cases h; simp [AVal.cells, Value.cells, embL, emb, hr]
  case map =>
    cases hr : ‹RMap› _ with
    | none => rw [hr] at h; cases h
    | some p => rw [hr] at h; cases h; simp [AVal.cells, Value.cells, embL, emb, hr]
  case func => split at h <;> first | (cases h; done) | (cases h; simp [AVal.cells, Value.cells, embL, emb, *])
  case yield => split at h <;> first | (cases h; done) | (cases h; simp [AVal.cells, Value.cells, embL, emb, *])
  case iface => split at h <;> first | (cases h; done) | (cases h; simp [AVal.cells, Value.cells, embL, emb, *])
  case tuple => split at h <;> first | (cases h; done) | (cases h; simp [AVal.cells, Value.cells, embL, emb, *])
  all_goals (cases h; simp [AVal.cells, Value.cells, embL, emb])
theorem emb_one {m : RMap} {v : AVal} {x : Value} (h : emb m v = some x) (h1 : v.one = true) : x.oneCell' = true := by
  cases v <;> simp only [emb] at h <;> first | (simp [AVal.one] at h1; done) | (cases h; rfl) | (split at h <;> first | (cases h; done) | (cases h; rfl))
theorem add_add (a : Addr) (i j : Nat) : (a.add i).add j = a.add (i + j) := by
  unfold Addr.add
  split <;> split <;> simp_all [Nat.add_assoc]
theorem add_block (a : Addr) (i : Nat) : (a.add i).block = a.block := by unfold Addr.add; split <;> rfl
theorem add_spot {a : Addr} (h : a.spot = none) {i : Nat} : (a.add i).spot = none := by unfold Addr.add; split <;> simp_all
theorem add_inj {a : Addr} {i j : Nat} (h : a.add i = a.add j) : i = j := by
  unfold Addr.add at h
  split at h <;> split at h <;> simp_all
  · have := congrArg Addr.off h; simp at this; omega
  · have := congrArg Addr.off h; simp at this; omega
structure RowOk (B : Nat) (m : RMap) (w : World) (a : Addr) (k : Nat) (cs : List AVal) (rw : Bool) (e : TypeId) : Prop where
  cell : ∀ (i : Nat) (v : AVal), cs[i]? = some v → ∃ x, emb m v = some x ∧ w.cell? (a.add i) = some x
  len : cs.length ≤ k
  own : rw = true → (B ≤ a.block ∧ ∃ c fz, w.heap[a.block]? = some (.cells c (e / 2) fz) ∧ a.spot = none ∧ (e % 2 = 0 → a.off = 0 ∧ c.size = k)) ∧ ∀ i, i < k → (w.cell? (a.add i)).isSome = true ∧ w.frozen? (a.add i) = false
structure Base where
  B : Nat
  W0 : World
  G : Nat
  ghost : Nat → Prop
  code : Nat → Code → Option RCode := fun _ _ => none
def FRel (nt : Nat) (m : RMap) (fr : AFrame) (tmps : Array Value) : Prop := tmps.size = nt ∧ ∀ i, i < nt → ∃ x, emb m (fr i) = some x ∧ tmps[i]? = some x
theorem FRel.mono {nt : Nat} {m m' : RMap} {fr : AFrame} {tmps : Array Value} (h : FRel nt m fr tmps) (hm : Le m m') : FRel nt m' fr tmps :=
  ⟨h.1, fun i hi => by obtain ⟨x, h1, h2⟩ := h.2 i hi; exact ⟨x, emb_mono hm _ _ h1, h2⟩⟩
def RExit.jump : RExit → Option Code
  | .normal => none
  | .exit id => some (.exit id)
  | .ret => some .ret
def stOf : Nat → LoopState
  | 0 => .ready
  | 1 => .busy
  | 2 => .done
  | _ => .exhausted
def notCells (o : Obj) : Prop := ∀ c t fz, o ≠ .cells c t fz
structure LoopOk (S : Base) (m : RMap) (w : World) (b : Nat) (R : RLoop) (L : Loop) : Prop where
  obj : w.heap[b]? = some (.loop L)
  low : S.B ≤ b
  st : L.state = stOf R.st
  pend : L.pending = R.pend.jump
  ps : L.params.toList = R.ps
  fr : FRel R.nt m R.fr L.tmps
  assign : S.code R.nt L.assign = some R.assign
  body : S.code R.nt L.body = some R.body
  dlow : S.B ≤ L.defers
  blk : ∃ k, m R.d = some (⟨L.defers, 0, none⟩, k)
  defers : w.heap[L.defers]? = some (.deferred (if R.st = 4 then none else some []))
def AObj.odd : AObj → Bool
  | .loop _ | .mapo _ | .iter _ _ => true
  | _ => false
def embE (m : RMap) : List (AVal × AVal) → Option (List (Value × Value))
  | [] => some []
  | e :: es => match emb m e.1, emb m e.2, embE m es with | some x, some y, some l => some ((x, y) :: l) | _, _, _ => none
theorem embE_cons {m : RMap} {e : AVal × AVal} {es : List (AVal × AVal)} {l : List (Value × Value)} (h : embE m (e :: es) = some l) :
    ∃ x y xs, emb m e.1 = some x ∧ emb m e.2 = some y ∧ embE m es = some xs ∧ l = (x, y) :: xs := by
  rw [embE] at h
  split at h
  · rename_i x y xs h1 h2 h3
    exact ⟨x, y, xs, h1, h2, h3, (Option.some.inj h).symm⟩
  · cases h
theorem embE_mk {m : RMap} {e : AVal × AVal} {es : List (AVal × AVal)} {x y : Value} {xs : List (Value × Value)} (h1 : emb m e.1 = some x) (h2 : emb m e.2 = some y) (h3 : embE m es = some xs) : embE m (e :: es) = some ((x, y) :: xs) := by
  simp [embE, h1, h2, h3]
theorem embE_mono {m m' : RMap} (h : Le m m') : ∀ {es : List (AVal × AVal)} {l : List (Value × Value)}, embE m es = some l → embE m' es = some l
  | [], l, hx => by simpa [embE] using hx
  | e :: es, l, hx => by
    obtain ⟨x, y, xs, h1, h2, h3, rfl⟩ := embE_cons hx
    exact embE_mk (emb_mono h _ _ h1) (emb_mono h _ _ h2) (embE_mono h h3)
def MapOk (m : RMap) (w : World) (b : Nat) (es : List (AVal × AVal)) : Prop :=
  ∃ es' c xs, w.heap[b]? = some (.map es' c) ∧ embE m es = some xs ∧ List.Perm (es'.toList.map fun e => (e.key, e.val)) xs
theorem MapOk.mono {m m' : RMap} {w w' : World} {b : Nat} {es : List (AVal × AVal)} (h : MapOk m w b es) (hm : Le m m') (hk : ∀ (es : Array MapEntry) (c : Nat), w.heap[b]? = some (Obj.map es c) → w'.heap[b]? = some (Obj.map es c)) : MapOk m' w' b es := by
  obtain ⟨es', c, xs, h1, h2, h3⟩ := h
  exact ⟨es', c, xs, hk _ _ h1, embE_mono hm h2, h3⟩
theorem embE_perm {m : RMap} {es es2 : List (AVal × AVal)} (hp : List.Perm es es2) : ∀ {xs : List (Value × Value)}, embE m es = some xs → ∃ xs2, embE m es2 = some xs2 ∧ List.Perm xs xs2 := by
  induction hp with
  | nil => intro xs h; exact ⟨xs, h, List.Perm.refl _⟩
  | cons e _ ih =>
    intro xs h
    obtain ⟨x, y, l, h1, h2, h3, rfl⟩ := embE_cons h
    obtain ⟨l2, h4, h5⟩ := ih h3
    exact ⟨_, embE_mk h1 h2 h4, h5.cons _⟩
  | swap a b l =>
    intro xs h
    obtain ⟨x, y, l1, h1, h2, h3, rfl⟩ := embE_cons h
    obtain ⟨x', y', l2, h4, h5, h6, rfl⟩ := embE_cons h3
    exact ⟨_, embE_mk h4 h5 (embE_mk h1 h2 h6), List.Perm.swap _ _ _⟩
  | trans _ _ ih1 ih2 =>
    intro xs h
    obtain ⟨l1, h1, h2⟩ := ih1 h
    obtain ⟨l2, h3, h4⟩ := ih2 h1
    exact ⟨l2, h3, h2.trans h4⟩
structure MapsOk (S : Base) (m : RMap) (H : AHeap) (w : World) : Prop where
  ok : ∀ r es p, r < H.n → H.get r = .mapo es → m r = some p → S.B ≤ p.1.block ∧ MapOk m w p.1.block es
  apart : ∀ r s es es' p q, r < H.n → s < H.n → r ≠ s → H.get r = .mapo es → H.get s = .mapo es' → m r = some p → m s = some q → p.1.block ≠ q.1.block
structure ItersOk (S : Base) (m : RMap) (H : AHeap) (w : World) : Prop where
  ok : ∀ r s k p, r < H.n → H.get r = .iter s k → m r = some p → S.B ≤ p.1.block ∧ p.1.off = 0 ∧ p.1.spot = none ∧ w.heap[p.1.block]? = some (.stringIter s k)
  apart : ∀ r r' s k s' k' p q, r < H.n → r' < H.n → r ≠ r' → H.get r = .iter s k → H.get r' = .iter s' k' → m r = some p → m r' = some q → p.1.block ≠ q.1.block
structure Loops (S : Base) (m : RMap) (H : AHeap) (w : World) : Prop where
  ok : ∀ r R p, r < H.n → H.get r = .loop R → m r = some p → ∃ L, LoopOk S m w p.1.block R L
  apart : ∀ r s R R' p q L L', r < H.n → s < H.n → r ≠ s → H.get r = .loop R → H.get s = .loop R' → m r = some p → m s = some q → w.heap[p.1.block]? = some (.loop L) → w.heap[q.1.block]? = some (.loop L') → p.1.block ≠ q.1.block ∧ L.defers ≠ L'.defers
  maps : MapsOk S m H w
  iters : ItersOk S m H w
theorem Loops.keepIters {S : Base} {m m' : RMap} {H H' : AHeap} {w w' : World} (h : Loops S m H w) (hk : ∀ (b : Nat) (s : ByteArray) (k : Nat), w.heap[b]? = some (Obj.stringIter s k) → w'.heap[b]? = some (Obj.stringIter s k))
    (hr : ∀ r s k p, r < H'.n → H'.get r = .iter s k → m' r = some p → r < H.n ∧ H.get r = .iter s k ∧ m r = some p) : ItersOk S m' H' w' := ⟨fun r s k p h1 h2 h3 => by
  obtain ⟨k1, k2, k3⟩ := hr r s k p h1 h2 h3
  obtain ⟨k4, k5, k6, k7⟩ := h.iters.ok r s k p k1 k2 k3
  exact ⟨k4, k5, k6, hk _ _ _ k7⟩, fun r r' s k s' k' p q h1 h2 hne h3 h4 h5 h6 => by
  obtain ⟨k1, k2, k3⟩ := hr r s k p h1 h3 h5
  obtain ⟨j1, j2, j3⟩ := hr r' s' k' q h2 h4 h6
  exact h.iters.apart r r' s k s' k' p q k1 j1 hne k2 j2 k3 j3⟩
theorem Loops.ghost {S : Base} {m : RMap} {H : AHeap} {w : World} (g : Nat → Prop) (h : Loops S m H w) : Loops { S with ghost := g } m H w :=
  ⟨fun r R p a b c => by obtain ⟨L, k⟩ := h.ok r R p a b c; exact ⟨L, k.obj, k.low, k.st, k.pend, k.ps, k.fr, k.assign, k.body, k.dlow, k.blk, k.defers⟩, h.apart, ⟨h.maps.ok, h.maps.apart⟩, ⟨h.iters.ok, h.iters.apart⟩⟩
theorem Loops.keepMaps {S : Base} {m m' : RMap} {H H' : AHeap} {w w' : World} (h : Loops S m H w) (hm : Le m m') (hk : ∀ (b : Nat) (es : Array MapEntry) (c : Nat), w.heap[b]? = some (Obj.map es c) → w'.heap[b]? = some (Obj.map es c))
    (hr : ∀ r es p, r < H'.n → H'.get r = .mapo es → m' r = some p → r < H.n ∧ H.get r = .mapo es ∧ m r = some p) : MapsOk S m' H' w' := ⟨fun r es p h1 h2 h3 => by
  obtain ⟨k1, k2, k3⟩ := hr r es p h1 h2 h3
  obtain ⟨k4, k5⟩ := h.maps.ok r es p k1 k2 k3
  exact ⟨k4, k5.mono hm fun es c => hk _ es c⟩, fun r s es es' p q h1 h2 hne h3 h4 h5 h6 => by
  obtain ⟨k1, k2, k3⟩ := hr r es p h1 h3 h5
  obtain ⟨j1, j2, j3⟩ := hr s es' q h2 h4 h6
  exact h.maps.apart r s es es' p q k1 j1 hne k2 j2 k3 j3⟩
theorem Loops.move {S : Base} {m m' : RMap} {H H' : AHeap} {w w' : World} (h : Loops S m H w) (hm : Le m m') (hk : ∀ (b : Nat) (o : Obj), notCells o → w.heap[b]? = some o → w'.heap[b]? = some o)
    (hr0 : ∀ r o p, o.odd = true → r < H'.n → H'.get r = o → m' r = some p → r < H.n ∧ H.get r = o ∧ m r = some p) : Loops S m' H' w' := by
  have hr : ∀ r R p, r < H'.n → H'.get r = .loop R → m' r = some p → r < H.n ∧ H.get r = .loop R ∧ m r = some p := fun r R p => hr0 r _ p rfl
  have hl : ∀ L, notCells (.loop L) := fun L c t fz e => by cases e
  have hd : ∀ L, notCells (.deferred L) := fun L c t fz e => by cases e
  refine ⟨fun r R p h1 h2 h3 => ?_, fun r s R R' p q L L' h1 h2 hne h3 h4 h5 h6 h7 h8 => ?_, h.keepMaps hm (fun b es c => hk b _ (fun c t fz e => by cases e)) fun r es p => hr0 r _ p rfl, h.keepIters (fun b es c => hk b _ (fun c t fz e => by cases e)) fun r s k p => hr0 r _ p rfl⟩
  · obtain ⟨k1, k2, k3⟩ := hr r R p h1 h2 h3
    obtain ⟨L, ok⟩ := h.ok r R p k1 k2 k3
    exact ⟨L, hk _ _ (hl _) ok.obj, ok.low, ok.st, ok.pend, ok.ps, ⟨ok.fr.1, fun i hi => by obtain ⟨x, q1, q2⟩ := ok.fr.2 i hi; exact ⟨x, emb_mono hm _ _ q1, q2⟩⟩, ok.assign, ok.body, ok.dlow, by obtain ⟨k, q⟩ := ok.blk; exact ⟨k, hm _ _ q⟩, hk _ _ (hd _) ok.defers⟩
  · obtain ⟨k1, k2, k3⟩ := hr r R p h1 h3 h5
    obtain ⟨j1, j2, j3⟩ := hr s R' q h2 h4 h6
    obtain ⟨L1, ok1⟩ := h.ok r R p k1 k2 k3
    obtain ⟨L2, ok2⟩ := h.ok s R' q j1 j2 j3
    have e1 := hk _ _ (hl _) ok1.obj
    have e2 := hk _ _ (hl _) ok2.obj
    rw [h7] at e1; rw [h8] at e2
    cases e1; cases e2
    exact h.apart r s R R' p q _ _ k1 j1 hne k2 j2 k3 j3 ok1.obj ok2.obj
theorem Loops.push {S : Base} {m m' : RMap} {H : AHeap} {w w' : World} (h : Loops S m H w) (hm : Le m m') (hk : ∀ (b : Nat) (o : Obj), notCells o → w.heap[b]? = some o → w'.heap[b]? = some o) {o : AObj} (ho : o.odd = true → m' H.n = none) (ha : ∀ r, r ≠ H.n → m' r = m r) : Loops S m' (H.push o) w' :=
  h.move hm hk fun r R p hR h1 h2 h3 => by
    by_cases hrn : r = H.n
    · subst hrn
      have : (H.push o).get H.n = o := by simp [AHeap.push]
      rw [this] at h2
      rw [ho (by rw [h2]; exact hR)] at h3; cases h3
    · have hr' : r < H.n := by simp [AHeap.push] at h1; omega
      have : Nat.beq r H.n = false := by
        cases h' : Nat.beq r H.n with
        | false => rfl
        | true => exact absurd (Nat.eq_of_beq_eq_true h') hrn
      refine ⟨hr', by simpa [AHeap.push, this] using h2, by rw [← ha r hrn]; exact h3⟩
theorem Loops.set {S : Base} {m : RMap} {H : AHeap} {w w' : World} (h : Loops S m H w) (hk : ∀ (b : Nat) (o : Obj), notCells o → w.heap[b]? = some o → w'.heap[b]? = some o) {s : Nat} {o : AObj} (ho : o.odd = false) : Loops S m (H.set s o) w' :=
  h.move (Le.refl _) hk fun r R p hR h1 h2 h3 => by
    by_cases hrn : r = s
    · subst hrn
      have : (H.set r o).get r = o := by simp [AHeap.set]
      rw [this] at h2
      rw [← h2, ho] at hR; cases hR
    · have : Nat.beq r s = false := by
        cases h' : Nat.beq r s with
        | false => rfl
        | true => exact absurd (Nat.eq_of_beq_eq_true h') hrn
      exact ⟨h1, by simpa [AHeap.set, this] using h2, h3⟩
theorem still {w : World} : ∀ (b : Nat) (o : Obj), notCells o → w.heap[b]? = some o → w.heap[b]? = some o := fun _ _ _ h => h
theorem still_alloc {w : World} (o' : Obj) : ∀ (b : Nat) (o : Obj), notCells o → w.heap[b]? = some o → (w.alloc o').heap[b]? = some o := fun b o _ h => by
  have hb : b < w.heap.size := (Array.getElem?_eq_some_iff.1 h).1
  rw [Below.heap_alloc _ _ _ hb]; exact h
theorem still_setCell {w : World} (a : Addr) (v : Value) : ∀ (b : Nat) (o : Obj), notCells o → w.heap[b]? = some o → (w.setCell a v).heap[b]? = some o := fun b o hn h => by
  simp only [World.setCell, Array.getElem?_modify]
  by_cases hb : a.block = b
  · simp only [hb, if_true, h, Option.map_some]
    cases o with
    | cells c t fz => exact absurd rfl (hn c t fz)
    | _ => rfl
  · simp [hb, h]
structure HRel (S : Base) (m : RMap) (H : AHeap) (w : World) : Prop where
  below : Below S.B S.W0 w
  size : S.B ≤ w.heap.size
  glob : ∀ g, g < S.G → ∃ k, m g = some (⟨g, 0, none⟩, k)
  fresh : ∀ r, H.n ≤ r → m r = none
  away : ∀ r, S.ghost r → m r = none ∧ r < H.n
  row : ∀ r cs rw e p, r < H.n → H.get r = .row cs rw e → m r = some p → RowOk S.B m w p.1 p.2 cs rw e
  apart : ∀ r s cs rw e cs' e' p q, r < H.n → s < H.n → r ≠ s → H.get r = .row cs rw e → H.get s = .row cs' true e' → m r = some p → m s = some q → (cs = [] ∧ rw = false) ∨ p.1.block ≠ q.1.block
  loops : Loops S m H w
def Keeps (w w' : World) (b : Nat) : Prop := ∀ c e fz, w.heap[b]? = some (.cells c e fz) → ∃ c' fz', w'.heap[b]? = some (.cells c' e fz') ∧ c'.size = c.size
theorem RowOk.mono {B : Nat} {m m' : RMap} {w w' : World} {a : Addr} {k : Nat} {cs : List AVal} {rw : Bool} {e : TypeId} (h : RowOk B m w a k cs rw e) (hm : Le m m') (hs : Keeps w w' a.block)
    (hc : ∀ i, w'.cell? (a.add i) = w.cell? (a.add i)) (hf : ∀ i, w'.frozen? (a.add i) = w.frozen? (a.add i)) : RowOk B m' w' a k cs rw e :=
  ⟨fun i v hi => by obtain ⟨x, h1, h2⟩ := h.cell i v hi; exact ⟨x, emb_mono hm _ _ h1, by rw [hc]; exact h2⟩, h.len,
   fun hr => ⟨⟨(h.own hr).1.1, by obtain ⟨c, fz, hh, hsp, hz⟩ := (h.own hr).1.2; obtain ⟨c', fz', h1, h2⟩ := hs _ _ _ hh; exact ⟨c', fz', h1, hsp, fun q => by rw [h2]; exact hz q⟩⟩, fun i hi => by rw [hc, hf]; exact (h.own hr).2 i hi⟩⟩
theorem Keeps.refl (w : World) (b : Nat) : Keeps w w b := fun c _ fz h => ⟨c, fz, h, rfl⟩
theorem Keeps.alloc (w : World) (o : Obj) (b : Nat) : Keeps w (w.alloc o) b := fun c e fz h => ⟨c, fz, by
  have hb : b < w.heap.size := (Array.getElem?_eq_some_iff.1 h).1
  rw [Below.heap_alloc _ _ _ hb]; exact ⟨h, rfl⟩⟩
theorem Keeps.setCell (w : World) (a : Addr) (v : Value) (b : Nat) : Keeps w (w.setCell a v) b := fun c e fz h => by
  simp only [World.setCell, Array.getElem?_modify]
  by_cases hb : a.block = b
  · simp [hb, h]; split <;> simp
  · simp [hb, h]
theorem HRel.drew {S : Base} {m : RMap} {H : AHeap} {w : World} (h : HRel S m H w) : HRel S m H w.drew :=
  ⟨h.below.drew, h.size, h.glob, h.fresh, h.away, fun r cs rw e p hr hg hp => (h.row r cs rw e p hr hg hp).mono (Le.refl _) (Keeps.refl _ _) (fun _ => rfl) (fun _ => rfl), h.apart, h.loops.move (Le.refl _) still fun _ _ _ _ a b c => ⟨a, b, c⟩⟩
theorem nbeq_ne {a b : Nat} (h : a ≠ b) : Nat.beq a b = false := by
  cases h' : Nat.beq a b with
  | false => rfl
  | true => exact absurd (Nat.eq_of_beq_eq_true h') h
theorem nbeq_self (a : Nat) : Nat.beq a a = true := by simp
theorem push_get_lt {H : AHeap} {o : AObj} {r : Nat} (h : r < H.n) : (H.push o).get r = H.get r := by
  simp [AHeap.push, nbeq_ne (show r ≠ H.n by omega)]
theorem push_get_eq {H : AHeap} {o : AObj} : (H.push o).get H.n = o := by simp [AHeap.push]
theorem set_get_eq {H : AHeap} {o : AObj} {r : Nat} : (H.set r o).get r = o := by simp [AHeap.set]
theorem set_get_ne {H : AHeap} {o : AObj} {r s : Nat} (h : s ≠ r) : (H.set r o).get s = H.get s := by
  simp [AHeap.set, nbeq_ne h]
theorem cell_alloc_old {w : World} {o : Obj} {a : Addr} (h : a.block < w.heap.size) : (w.alloc o).cell? a = w.cell? a := World.cell?_alloc_lt w o a h
theorem cell_lt {w : World} {a : Addr} {v : Value} (h : w.cell? a = some v) : a.block < w.heap.size := World.block_lt_of_cell? w a h
theorem RowOk.block_lt {B : Nat} {m : RMap} {w : World} {a : Addr} {k : Nat} {cs : List AVal} {rw : Bool} {e : TypeId} (h : RowOk B m w a k cs rw e) (hne : cs ≠ []) : a.block < w.heap.size := by
  cases cs with
  | nil => exact absurd rfl hne
  | cons v vs =>
    obtain ⟨x, _, hx⟩ := h.cell 0 v rfl
    have := cell_lt hx
    rwa [add_block] at this
theorem RowOk.own_lt {B : Nat} {m : RMap} {w : World} {a : Addr} {k : Nat} {cs : List AVal} {e : TypeId} (h : RowOk B m w a k cs true e) : a.block < w.heap.size := by
  obtain ⟨c, fz, hh, _⟩ := (h.own rfl).1.2
  exact (Array.getElem?_eq_some_iff.1 hh).1
theorem RowOk.alloc {B : Nat} {m m' : RMap} {w : World} {a : Addr} {k : Nat} {cs : List AVal} {rw : Bool} {e : TypeId} (h : RowOk B m w a k cs rw e) (hm : Le m m') (o : Obj) : RowOk B m' (w.alloc o) a k cs rw e := by
  refine ⟨fun i v hi => ?_, h.len, fun hr => ⟨⟨(h.own hr).1.1, by obtain ⟨c, fz, hh, hsp, hz⟩ := (h.own hr).1.2; obtain ⟨c', fz', h1, h2⟩ := Keeps.alloc w o _ _ _ _ hh; exact ⟨c', fz', h1, hsp, fun q => by rw [h2]; exact hz q⟩⟩, fun i hi => ?_⟩⟩
  · obtain ⟨x, h1, h2⟩ := h.cell i v hi
    exact ⟨x, emb_mono hm _ _ h1, by rw [cell_alloc_old (cell_lt h2)]; exact h2⟩
  · obtain ⟨h1, h2⟩ := (h.own hr).2 i hi
    obtain ⟨u, hu⟩ := Option.isSome_iff_exists.1 h1
    have hlt := cell_lt hu
    rw [cell_alloc_old hlt]
    refine ⟨h1, ?_⟩
    rw [World.frozen?_alloc_old w o _ (Nat.ne_of_lt hlt)]; exact h2
theorem cell_alloc_fz {w : World} {c : Array Value} {t : TypeId} {fz : Nat × Nat} (i : Nat) : (w.alloc (.cells c t fz)).cell? ⟨w.heap.size, i, none⟩ = c[i]? := by
  show World.cell? { w with heap := w.heap.push _ } _ = _
  simp only [World.cell?]; simp
theorem frozen_alloc_fz {w : World} {c : Array Value} {t : TypeId} {fz : Nat × Nat} (i : Nat) : (w.alloc (.cells c t fz)).frozen? ⟨w.heap.size, i, none⟩ = (fz.1 ≤ i && i < fz.2) := by
  show World.frozen? { w with heap := w.heap.push _ } _ = _
  simp only [World.frozen?]; simp
theorem HRel.allocFz {S : Base} {m : RMap} {H : AHeap} {w : World} (h : HRel S m H w) {cs : List AVal} {xs : List Value} (hx : embL m cs = some xs) (rest : List Value) (e : TypeId) (fz : Nat × Nat) (hfz : ∀ i, i < (xs ++ rest).length → (decide (fz.1 ≤ i) && decide (i < fz.2)) = false) :
    HRel S (m.add H.n (⟨w.heap.size, 0, none⟩, (xs ++ rest).length)) (H.push (.row cs true (2 * e))) (w.alloc (.cells (xs ++ rest).toArray e fz)) := by
  have hlen := embL_length hx
  have hle := le_add (m := m) (⟨w.heap.size, 0, none⟩, (xs ++ rest).length) (h.fresh H.n (Nat.le_refl _))
  refine ⟨h.below.alloc h.size _, by simp; have := h.size; omega, fun g hg => by obtain ⟨k, hk⟩ := h.glob g hg; exact ⟨k, get_mono hle hk⟩, fun r hr => ?_, fun r hr => ?_, ?_, ?_, h.loops.push hle (still_alloc _) (fun e => by cases e) fun r hr => add_ne hr⟩
  · simp only [AHeap.push] at hr
    rw [add_ne (by omega)]; exact h.fresh r (by omega)
  · have := h.away r hr
    exact ⟨by rw [add_ne (by omega)]; exact this.1, by simp only [AHeap.push]; omega⟩
  · intro r cs' rw e' p hr hg hp
    by_cases hrn : r = H.n
    · subst hrn
      rw [push_get_eq] at hg
      cases hg
      rw [add_eq] at hp; cases hp
      refine ⟨fun i v hi => ?_, by simp; omega, fun _ => ⟨⟨h.size, (xs ++ rest).toArray, fz, by show (w.heap.push _)[w.heap.size]? = _; simp, rfl, fun _ => ⟨rfl, by simp⟩⟩, fun i hi => ?_⟩⟩
      · obtain ⟨y, hy, hy2⟩ := embL_get hx hi
        refine ⟨y, emb_mono hle _ _ hy, ?_⟩
        simp only [Addr.add_lit, Nat.zero_add]
        rw [cell_alloc_fz]
        have hil : i < xs.length := (List.getElem?_eq_some_iff.1 hy2).1
        simp [List.getElem?_append_left hil, hy2]
      · simp only [Addr.add_lit, Nat.zero_add]
        rw [cell_alloc_fz, frozen_alloc_fz]
        refine ⟨?_, hfz i hi⟩
        simp only [List.length_append] at hi
        simp; omega
    · have hr' : r < H.n := by simp [AHeap.push] at hr; omega
      rw [push_get_lt hr'] at hg
      rw [add_ne hrn] at hp
      exact (h.row r cs' rw e' p hr' hg hp).alloc hle _
  · intro r s cs1 rw1 e1 cs2 e2 p q hr hs hne hg1 hg2 hp hq
    by_cases hrn : r = H.n
    · subst hrn
      have hs' : s < H.n := by simp [AHeap.push] at hs; omega
      rw [add_eq] at hp
      cases hp
      rw [push_get_lt hs'] at hg2
      rw [add_ne (by omega)] at hq
      have h2 := h.row s cs2 true e2 q hs' hg2 hq
      right
      have := h2.own_lt
      simp only; omega
    · have hr' : r < H.n := by simp [AHeap.push] at hr; omega
      rw [push_get_lt hr'] at hg1
      rw [add_ne hrn] at hp
      by_cases hsn : s = H.n
      · subst hsn
        rw [add_eq] at hq
        cases hq
        have h2 := h.row r cs1 rw1 e1 p hr' hg1 hp
        by_cases hc : cs1 = [] ∧ rw1 = false
        · exact Or.inl hc
        · have hlt : p.1.block < w.heap.size := by
            cases rw1 with
            | true => exact h2.own_lt
            | false => exact h2.block_lt fun e => hc ⟨e, rfl⟩
          exact Or.inr (by simp only; omega)
      · have hs' : s < H.n := by simp [AHeap.push] at hs; omega
        rw [push_get_lt hs'] at hg2
        rw [add_ne hsn] at hq
        exact h.apart r s cs1 rw1 e1 cs2 e2 p q hr' hs' hne hg1 hg2 hp hq
theorem HRel.alloc {S : Base} {m : RMap} {H : AHeap} {w : World} (h : HRel S m H w) {cs : List AVal} {xs : List Value} (hx : embL m cs = some xs) (rest : List Value) (e : TypeId) :
    HRel S (m.add H.n (⟨w.heap.size, 0, none⟩, (xs ++ rest).length)) (H.push (.row cs true (2 * e))) (w.alloc (.cells (xs ++ rest).toArray e)) :=
  h.allocFz hx rest e (0, 0) (fun i _ => by simp)
theorem HRel.emptyRow {S : Base} {m : RMap} {H : AHeap} {w : World} (h : HRel S m H w) (p : Addr × Nat) :
    HRel S (m.add H.n p) (H.push (.row [] false 0)) w := by
  have hle := le_add (m := m) p (h.fresh H.n (Nat.le_refl _))
  refine ⟨h.below, h.size, fun g hg => by obtain ⟨k, hk⟩ := h.glob g hg; exact ⟨k, get_mono hle hk⟩, fun r hr => ?_, fun r hr => ?_, ?_, ?_, h.loops.push hle still (fun e => by cases e) fun r hr => add_ne hr⟩
  · simp only [AHeap.push] at hr
    rw [add_ne (by omega)]; exact h.fresh r (by omega)
  · have := h.away r hr
    exact ⟨by rw [add_ne (by omega)]; exact this.1, by simp only [AHeap.push]; omega⟩
  · intro r cs rw e q hr hg hq
    by_cases hrn : r = H.n
    · subst hrn
      rw [push_get_eq] at hg; cases hg
      exact ⟨fun i v hi => by simp at hi, by simp, fun e => by cases e⟩
    · have hr' : r < H.n := by simp [AHeap.push] at hr; omega
      rw [push_get_lt hr'] at hg
      rw [add_ne hrn] at hq
      exact (h.row r cs rw e q hr' hg hq).mono hle (Keeps.refl _ _) (fun _ => rfl) (fun _ => rfl)
  · intro r s cs1 rw1 e1 cs2 e2 p' q hr hs hne hg1 hg2 hp hq
    by_cases hrn : r = H.n
    · subst hrn
      rw [push_get_eq] at hg1; cases hg1; exact Or.inl ⟨rfl, rfl⟩
    · have hr' : r < H.n := by simp [AHeap.push] at hr; omega
      by_cases hsn : s = H.n
      · subst hsn; rw [push_get_eq] at hg2; cases hg2
      · have hs' : s < H.n := by simp [AHeap.push] at hs; omega
        rw [push_get_lt hr'] at hg1; rw [push_get_lt hs'] at hg2
        rw [add_ne hrn] at hp
        rw [add_ne hsn] at hq
        exact h.apart r s cs1 rw1 e1 cs2 e2 p' q hr' hs' hne hg1 hg2 hp hq
theorem HRel.ghost {S : Base} {m : RMap} {H : AHeap} {w : World} (h : HRel S m H w) (o : AObj) : HRel S m (H.push o) w := by
  refine ⟨h.below, h.size, h.glob, fun r hr => h.fresh r (by simp only [AHeap.push] at hr; omega), fun r hr => ⟨(h.away r hr).1, by have := (h.away r hr).2; simp only [AHeap.push]; omega⟩, ?_, ?_, h.loops.push (Le.refl _) still (fun _ => h.fresh _ (Nat.le_refl _)) fun r hr => rfl⟩
  · intro r cs rw e q hr hg hq
    have hr' : r < H.n := by
      rcases Nat.lt_or_ge r H.n with h' | h'
      · exact h'
      · rw [h.fresh r h'] at hq; cases hq
    rw [push_get_lt hr'] at hg
    exact h.row r cs rw e q hr' hg hq
  · intro r s cs1 rw1 e1 cs2 e2 p q hr hs hne hg1 hg2 hp hq
    have hr' : r < H.n := by
      rcases Nat.lt_or_ge r H.n with h' | h'
      · exact h'
      · rw [h.fresh r h'] at hp; cases hp
    have hs' : s < H.n := by
      rcases Nat.lt_or_ge s H.n with h' | h'
      · exact h'
      · rw [h.fresh s h'] at hq; cases hq
    rw [push_get_lt hr'] at hg1; rw [push_get_lt hs'] at hg2
    exact h.apart r s cs1 rw1 e1 cs2 e2 p q hr' hs' hne hg1 hg2 hp hq
theorem HRel.less {S : Base} {m : RMap} {H : AHeap} {w : World} (h : HRel S m H w) (g : Nat → Prop) (hg : ∀ r, g r → S.ghost r) : HRel { S with ghost := g } m H w :=
  ⟨h.below, h.size, h.glob, h.fresh, fun r hr => h.away r (hg r hr), h.row, h.apart, h.loops.ghost g⟩
theorem HRel.more {S : Base} {m : RMap} {H : AHeap} {w : World} (h : HRel S m H w) (g : Nat → Prop) (hg : ∀ r, g r → m r = none ∧ r < H.n) : HRel { S with ghost := g } m H w :=
  ⟨h.below, h.size, h.glob, h.fresh, hg, h.row, h.apart, h.loops.ghost g⟩
theorem HRel.born {S : Base} {m : RMap} {H : AHeap} {w : World} (h : HRel S m H w) {r0 : Nat} (hr0 : r0 < H.n) {cs : List AVal} {e : TypeId} (hg0 : H.get r0 = .row cs true (2 * e)) (hm0 : m r0 = none) (hng : ¬ S.ghost r0) {xs : List Value} (hx : embL m cs = some xs) :
    HRel S (m.add r0 (⟨w.heap.size, 0, none⟩, xs.length)) H (w.alloc (.cells xs.toArray e)) := by
  have hle := le_add (m := m) (⟨w.heap.size, 0, none⟩, xs.length) hm0
  refine ⟨h.below.alloc h.size _, by simp; have := h.size; omega, fun g hg => by obtain ⟨k, hk⟩ := h.glob g hg; exact ⟨k, get_mono hle hk⟩, fun r hr => ?_, fun r hr => ?_, ?_, ?_, h.loops.move hle (still_alloc _) fun r R p hR h1 h2 h3 => ⟨h1, h2, by
    rw [add_ne (fun e => by rw [e, hg0] at h2; rw [← h2] at hR; cases hR)] at h3; exact h3⟩⟩
  · rw [add_ne (by omega)]; exact h.fresh r hr
  · have := h.away r hr
    exact ⟨by rw [add_ne (fun e => hng (by rw [← e]; exact hr))]; exact this.1, this.2⟩
  · intro r cs' rw e' p hr hg hp
    by_cases hrn : r = r0
    · subst hrn
      rw [hg0] at hg; cases hg
      rw [add_eq] at hp; cases hp
      refine ⟨fun i v hi => ?_, by simp [embL_length hx], fun _ => ⟨⟨h.size, xs.toArray, (0, 0), by show (w.heap.push _)[w.heap.size]? = _; simp, rfl, fun _ => ⟨rfl, by simp⟩⟩, fun i hi => ?_⟩⟩
      · obtain ⟨y, hy, hy2⟩ := embL_get hx hi
        refine ⟨y, emb_mono hle _ _ hy, ?_⟩
        simp only [Addr.add_lit, Nat.zero_add]
        rw [cell_alloc_fz]
        simpa using hy2
      · simp only [Addr.add_lit, Nat.zero_add]
        rw [cell_alloc_fz, frozen_alloc_fz]
        simp only at hi
        exact ⟨by simp [hi], by simp⟩
    · rw [add_ne hrn] at hp
      exact (h.row r cs' rw e' p hr hg hp).alloc hle _
  · intro r s cs1 rw1 e1 cs2 e2 p q hr hs hne hg1 hg2 hp hq
    by_cases hrn : r = r0
    · subst hrn
      rw [add_eq] at hp; cases hp
      rw [add_ne (Ne.symm hne)] at hq
      have := (h.row s cs2 true e2 q hs hg2 hq).own_lt
      right; simp only; omega
    · rw [add_ne hrn] at hp
      by_cases hsn : s = r0
      · subst hsn
        rw [add_eq] at hq; cases hq
        have h2 := h.row r cs1 rw1 e1 p hr hg1 hp
        by_cases hc : cs1 = [] ∧ rw1 = false
        · exact Or.inl hc
        · have hlt : p.1.block < w.heap.size := by
            cases rw1 with
            | true => exact h2.own_lt
            | false => exact h2.block_lt fun e => hc ⟨e, rfl⟩
          exact Or.inr (by simp only; omega)
      · rw [add_ne hsn] at hq
        exact h.apart r s cs1 rw1 e1 cs2 e2 p q hr hs hne hg1 hg2 hp hq
theorem block_ne_of_setCell {w : World} {a b : Addr} {u : Value} (h : a.block ≠ b.block) : (w.setCell a u).cell? b = w.cell? b :=
  World.cell?_setCell_other w a b u (fun e => h (by rw [e]))
theorem setCell_some {w : World} {a : Addr} {u : Value} (h : (w.cell? a).isSome = true) (b : Addr) (hb : (w.cell? b).isSome = true) : ((w.setCell a u).cell? b).isSome = true := by
  by_cases e : b = a
  · subst e
    obtain ⟨y, hy⟩ := Option.isSome_iff_exists.1 h
    rw [World.cell?_setCell_same w _ _ hy]; rfl
  · rw [World.cell?_setCell_other w _ _ _ (Ne.symm e)]; exact hb
theorem HRel.setAny {S : Base} {m : RMap} {H : AHeap} {w : World} (h : HRel S m H w) {r i : Nat} {cs cs' : List AVal} {e : TypeId} {p : Addr × Nat} (hr : r < H.n) (hg : H.get r = .row cs true e) (hp : m r = some p)
    {v : AVal} {x : Value} (hik : i < p.2) (hl : cs'.length ≤ p.2) (hcs : ∀ j u, cs'[j]? = some u → (j = i ∧ u = v) ∨ (j ≠ i ∧ cs[j]? = some u)) (hv : emb m v = some x) :
    HRel S m (H.set r (.row cs' true e)) (w.setCell (p.1.add i) x) ∧ (w.cell? (p.1.add i)).isSome = true ∧ w.frozen? (p.1.add i) = false := by
  have hok := h.row r cs true e p hr hg hp
  obtain ⟨⟨hB, hbl⟩, hown⟩ := hok.own rfl
  refine ⟨⟨h.below.setCell (by rw [add_block]; exact hB) _, by simpa using h.size, h.glob, h.fresh, h.away, ?_, ?_, h.loops.set (still_setCell _ _) rfl⟩, hown i hik⟩
  · intro s cs1 rw e' q hs hgs hq
    by_cases hsr : s = r
    · subst hsr
      rw [set_get_eq] at hgs; cases hgs
      rw [hp] at hq; cases hq
      refine ⟨fun j u hj => ?_, hl, fun _ => ⟨⟨hB, by obtain ⟨c, fz, hh, hsp, hz⟩ := hbl; obtain ⟨c', fz', h1, h2⟩ := Keeps.setCell _ _ _ _ _ _ _ hh; exact ⟨c', fz', h1, hsp, fun q => by rw [h2]; exact hz q⟩⟩, fun j hj => ?_⟩⟩
      · rcases hcs j u hj with ⟨rfl, rfl⟩ | ⟨hji, hj'⟩
        · obtain ⟨y, hy⟩ := Option.isSome_iff_exists.1 (hown j hik).1
          exact ⟨x, hv, World.cell?_setCell_same w _ _ hy⟩
        · obtain ⟨y, h1, h2⟩ := hok.cell j u hj'
          exact ⟨y, h1, by rw [World.cell?_setCell_other w _ _ _ (fun e => hji (add_inj e).symm)]; exact h2⟩
      · obtain ⟨h1, h2⟩ := hown j hj
        exact ⟨setCell_some (hown i hik).1 _ h1, by simpa using h2⟩
    · rw [set_get_ne hsr] at hgs
      have hokq := h.row s cs1 rw e' q hs hgs hq
      have hap := h.apart s r cs1 rw e' cs e q p hs hr hsr hgs hg hq hp
      by_cases hc : cs1 = [] ∧ rw = false
      · obtain ⟨rfl, rfl⟩ := hc
        exact ⟨fun j u hj => by simp at hj, hokq.len, fun hrw => by cases hrw⟩
      · have hb : q.1.block ≠ p.1.block := hap.resolve_left hc
        refine hokq.mono (Le.refl _) (Keeps.setCell _ _ _ _) (fun j => ?_) (fun j => by simp)
        exact block_ne_of_setCell (by rw [add_block, add_block]; exact Ne.symm hb)
  · intro s t cs1 rw1 e1 cs2 e2 q1 q2 hs ht hne hg1 hg2 hq1 hq2
    have key : ∀ s cs1 rw1 e1, (H.set r (.row cs' true e)).get s = .row cs1 rw1 e1 → ∃ cs0, H.get s = .row cs0 rw1 e1 ∧ (cs0 = [] ∧ rw1 = false → cs1 = [] ∧ rw1 = false) := by
      intro s cs1 rw1 e1 hg1
      by_cases hsr : s = r
      · subst hsr; rw [set_get_eq] at hg1; cases hg1
        exact ⟨cs, hg, fun e => by cases e.2⟩
      · rw [set_get_ne hsr] at hg1; exact ⟨cs1, hg1, id⟩
    obtain ⟨c1, k1, k1'⟩ := key s cs1 rw1 e1 hg1
    obtain ⟨c2, k2, _⟩ := key t cs2 true e2 hg2
    exact (h.apart s t c1 rw1 e1 c2 e2 q1 q2 hs ht hne k1 k2 hq1 hq2).imp k1' id
theorem HRel.set1 {S : Base} {m : RMap} {H : AHeap} {w : World} (h : HRel S m H w) {r i : Nat} {cs : List AVal} {e : TypeId} {p : Addr × Nat} (hr : r < H.n) (hg : H.get r = .row cs true e) (hp : m r = some p)
    (hi : i < cs.length) {v : AVal} {x : Value} (hv : emb m v = some x) :
    HRel S m (H.set r (.row (cs.set i v) true e)) (w.setCell (p.1.add i) x) ∧ (w.cell? (p.1.add i)).isSome = true ∧ w.frozen? (p.1.add i) = false := by
  have hok := h.row r cs true e p hr hg hp
  have := hok.len
  refine h.setAny hr hg hp (by omega) (by simpa using this) (fun j u hj => ?_) hv
  by_cases hji : j = i
  · subst hji
    rw [List.getElem?_set_self hi] at hj; cases hj; exact Or.inl ⟨rfl, rfl⟩
  · rw [List.getElem?_set_ne (Ne.symm hji)] at hj; exact Or.inr ⟨hji, hj⟩
theorem HRel.kill {S : Base} {m : RMap} {H : AHeap} {w : World} (h : HRel S m H w) (r : Nat) : HRel S m (H.set r .dead) w := by
  have key : ∀ s cs rw e, (H.set r .dead).get s = .row cs rw e → H.get s = .row cs rw e := by
    intro s cs rw e hg
    by_cases hsr : s = r
    · subst hsr; rw [set_get_eq] at hg; cases hg
    · rwa [set_get_ne hsr] at hg
  exact ⟨h.below, h.size, h.glob, h.fresh, h.away, fun s cs rw e p hs hg hp => h.row s cs rw e p hs (key _ _ _ _ hg) hp,
    fun s t cs1 rw1 e1 cs2 e2 q1 q2 hs ht hne hg1 hg2 hq1 hq2 => h.apart s t cs1 rw1 e1 cs2 e2 q1 q2 hs ht hne (key _ _ _ _ hg1) (key _ _ _ _ hg2) hq1 hq2, h.loops.set still rfl⟩
theorem setAt_length : ∀ (vs cs : List AVal) (off : Nat), (setAt cs off vs).length = cs.length
  | [], _, _ => rfl
  | _ :: vs, cs, off => by simp [setAt, setAt_length vs]
theorem set_set (H : AHeap) (r : Nat) (a b : AObj) : (H.set r a).set r b = H.set r b := by
  simp only [AHeap.set, AHeap.mk.injEq, true_and]
  funext i
  cases Nat.beq i r <;> rfl
theorem set_self {H : AHeap} {r : Nat} {o : AObj} (hg : H.get r = o) : H.set r o = H := by
  simp only [AHeap.set]
  cases H with
  | mk n get =>
    simp only [AHeap.mk.injEq, true_and] at hg ⊢
    funext j
    cases hb : Nat.beq j r with
    | false => rfl
    | true => have := Nat.eq_of_beq_eq_true hb; subst this; exact hg.symm
theorem run_storeCells {P : Program} {S : Base} {m : RMap} : ∀ (vs : List AVal) (xs : List Value) (H : AHeap) (w : World) (r off : Nat) (cs : List AVal) (e : TypeId) (p : Addr × Nat) (a : Addr) (i : Nat),
    HRel S m H w → r < H.n → H.get r = .row cs true e → m r = some p → off + vs.length ≤ cs.length → embL m vs = some xs → vs.all AVal.one = true → (∀ j, a.add (i + j) = p.1.add (off + j)) →
    ∃ w', (storeCells a xs i).run P w = .ok () w' ∧ HRel S m (H.set r (.row (setAt cs off vs) true e)) w'
  | [], xs, H, w, r, off, cs, e, p, a, i, h, hr, hg, hp, hl, hx, ho, _ => by
    simp [embL] at hx; subst hx
    exact ⟨w, by simp [storeCells], by rw [setAt, set_self hg]; exact h⟩
  | v :: vs, xs, H, w, r, off, cs, e, p, a, i, h, hr, hg, hp, hl, hx, ho, haj => by
    obtain ⟨x, ys, hv, hvs, rfl⟩ := embL_cons hx
    simp only [List.all_cons, Bool.and_eq_true] at ho
    simp only [List.length_cons] at hl
    obtain ⟨h', hsome, hfr⟩ := h.set1 hr hg hp (i := off) (by omega) hv
    obtain ⟨u, hu⟩ := Option.isSome_iff_exists.1 hsome
    obtain ⟨w', hw, hrel⟩ := run_storeCells (P := P) vs ys (H.set r (.row (cs.set off v) true e)) (w.setCell (p.1.add off) x) r (off + 1) (cs.set off v) e p a (i + 1) h'
      (by simpa [AHeap.set] using hr) set_get_eq hp (by simp; omega) hvs ho.2
      (fun j => by have := haj (1 + j); simpa [Nat.add_assoc] using this)
    refine ⟨w', ?_, ?_⟩
    · simp only [storeCells, Sem.run_bind]
      have ha := haj 0
      simp only [Nat.add_zero] at ha
      rw [ha, run_store P w _ x _ (emb_one hv ho.1), hu]
      simp only [hfr, Bool.false_eq_true, if_false, Result.andThen_ok]
      exact hw
    · rw [set_set] at hrel
      exact hrel
theorem half_moved (n : Nat) : (2 * (n / 2) + 1) / 2 = n / 2 := by omega
theorem odd_moved (n : Nat) : (2 * n + 1) % 2 = 1 := by omega
theorem half_odd (n : Nat) : (2 * n + 1) / 2 = n := by omega
theorem half_even (n : Nat) : (2 * n) / 2 = n := by omega
theorem HRel.retag {S : Base} {m : RMap} {H : AHeap} {w : World} {cs : List AVal} {e : TypeId} (h : HRel S m (H.push (.row cs true (2 * e))) w) : HRel S m (H.push (.row cs true (2 * e + 1))) w := by
  have key : ∀ s cs1 rw1 e1, (H.push (.row cs true (2 * e + 1))).get s = .row cs1 rw1 e1 → ∃ e0, (H.push (.row cs true (2 * e))).get s = .row cs1 rw1 e0 ∧ (e0 = e1 ∨ (e0 = 2 * e ∧ e1 = 2 * e + 1)) := by
    intro s cs1 rw1 e1 hg
    by_cases hs : s = H.n
    · subst hs
      rw [push_get_eq] at hg; cases hg
      exact ⟨2 * e, push_get_eq, Or.inr ⟨rfl, rfl⟩⟩
    · refine ⟨e1, ?_, Or.inl rfl⟩
      simp only [AHeap.push, nbeq_ne hs] at hg ⊢
      exact hg
  refine ⟨h.below, h.size, h.glob, h.fresh, h.away, ?_, ?_, h.loops.move (Le.refl _) still fun r R p hR h1 h2 h3 => ⟨h1, ?_, h3⟩⟩
  rotate_left
  rotate_left
  · by_cases hs : r = H.n
    · subst hs; rw [push_get_eq] at h2; rw [← h2] at hR; cases hR
    · simp only [AHeap.push, nbeq_ne hs] at h2 ⊢; exact h2
  · intro r cs1 rw1 e1 p hr hg hp
    obtain ⟨e0, hg0, hor⟩ := key _ _ _ _ hg
    have hok := h.row r cs1 rw1 e0 p hr hg0 hp
    rcases hor with rfl | ⟨rfl, rfl⟩
    · exact hok
    · refine ⟨hok.cell, hok.len, fun q => ⟨⟨(hok.own q).1.1, ?_⟩, (hok.own q).2⟩⟩
      obtain ⟨c, fz, hh, hsp, _⟩ := (hok.own q).1.2
      exact ⟨c, fz, by rw [hh, half_even, half_odd], hsp, fun q => absurd q (by rw [odd_moved]; decide)⟩
  · intro r s cs1 rw1 e1 cs2 e2 p q hr hs hne hg1 hg2 hp hq
    obtain ⟨e3, hg3, _⟩ := key _ _ _ _ hg1
    obtain ⟨e4, hg4, _⟩ := key _ _ _ _ hg2
    exact h.apart r s cs1 rw1 e3 cs2 e4 p q hr hs hne hg3 hg4 hp hq
theorem HRel.move {S : Base} {m : RMap} {H : AHeap} {w : World} (h : HRel S m H w) {r off k : Nat} {cs : List AVal} {e : TypeId} {p : Addr × Nat} (hr : r < H.n) (hg : H.get r = .row cs true e) (hp : m r = some p) (hk : off + k ≤ cs.length) :
    HRel S (m.add H.n (p.1.add off, p.2 - off)) ((H.set r .dead).push (.row ((cs.drop off).take k) true (2 * (e / 2) + 1))) w := by
  have hok := h.row r cs true e p hr hg hp
  have hlc := hok.len
  obtain ⟨⟨hB, hbl⟩, hown⟩ := hok.own rfl
  have hn : (H.set r .dead).n = H.n := rfl
  have hle := le_add (m := m) (p.1.add off, p.2 - off) (h.fresh H.n (Nat.le_refl _))
  have live : ∀ s cs1 rw e1, s < H.n → (H.set r .dead).get s = .row cs1 rw e1 → s ≠ r ∧ H.get s = .row cs1 rw e1 := by
    intro s cs1 rw e1 hs hgs
    by_cases hsr : s = r
    · subst hsr; rw [set_get_eq] at hgs; cases hgs
    · rw [set_get_ne hsr] at hgs; exact ⟨hsr, hgs⟩
  refine ⟨h.below, h.size, fun g hg => by obtain ⟨k, hk⟩ := h.glob g hg; exact ⟨k, get_mono hle hk⟩, fun r hr => ?_, fun r hr => ?_, ?_, ?_, (h.loops.set still (s := r) (o := .dead) rfl).push hle still (fun e => by cases e) fun r hr => add_ne hr⟩
  · simp only [AHeap.push, hn] at hr
    rw [add_ne (by omega)]; exact h.fresh r (by omega)
  · have := h.away r hr
    exact ⟨by rw [add_ne (by omega)]; exact this.1, by simp only [AHeap.push, hn]; omega⟩
  · intro s cs1 rw e1 q hs hgs hq
    by_cases hsn : s = H.n
    · subst hsn
      rw [show H.n = (H.set r .dead).n from rfl, push_get_eq] at hgs; cases hgs
      rw [add_eq] at hq; cases hq
      refine ⟨fun i v hi => ?_, by simp; omega, fun _ => ⟨⟨by rw [add_block]; exact hB, by rw [add_block]; obtain ⟨c, fz, hh, hsp, _⟩ := hbl; exact ⟨c, fz, by rw [hh, half_moved], by simp only [add_spot hsp], fun q => absurd q (by rw [odd_moved]; decide)⟩⟩, fun i hi => ?_⟩⟩
      · have hik : i < k := by have := (List.getElem?_eq_some_iff.1 hi).1; simp at this; omega
        rw [List.getElem?_take_of_lt hik, List.getElem?_drop] at hi
        obtain ⟨y, h1, h2⟩ := hok.cell _ _ hi
        exact ⟨y, emb_mono hle _ _ h1, by simp only [add_add]; exact h2⟩
      · simp only [add_add]; exact hown _ (by simp only at hi; omega)
    · have hs' : s < H.n := by simp [AHeap.push, hn] at hs; omega
      rw [push_get_lt (by rw [hn]; exact hs')] at hgs
      obtain ⟨_, hgs'⟩ := live s cs1 rw e1 hs' hgs
      rw [add_ne hsn] at hq
      exact (h.row s cs1 rw e1 q hs' hgs' hq).mono hle (Keeps.refl _ _) (fun _ => rfl) (fun _ => rfl)
  · intro s t cs1 rw1 e1 cs2 e2 q1 q2 hs ht hne hg1 hg2 hq1 hq2
    by_cases hsn : s = H.n
    · subst hsn
      have ht' : t < H.n := by simp [AHeap.push, hn] at ht; omega
      rw [add_eq] at hq1; cases hq1
      rw [push_get_lt (by rw [hn]; exact ht')] at hg2
      obtain ⟨htr, hg2'⟩ := live t cs2 true e2 ht' hg2
      rw [add_ne (by omega)] at hq2
      right
      rw [add_block]
      rcases h.apart r t cs true e cs2 e2 p q2 hr ht' (Ne.symm htr) hg hg2' hp hq2 with hh | hh
      · cases hh.2
      · exact hh
    · have hs' : s < H.n := by simp [AHeap.push, hn] at hs; omega
      rw [push_get_lt (by rw [hn]; exact hs')] at hg1
      obtain ⟨hsr, hg1'⟩ := live s cs1 rw1 e1 hs' hg1
      rw [add_ne hsn] at hq1
      by_cases htn : t = H.n
      · subst htn
        rw [add_eq] at hq2; cases hq2
        rw [add_block]
        exact h.apart s r cs1 rw1 e1 cs e q1 p hs' hr hsr hg1' hg hq1 hp
      · have ht' : t < H.n := by simp [AHeap.push, hn] at ht; omega
        rw [push_get_lt (by rw [hn]; exact ht')] at hg2
        obtain ⟨htr, hg2'⟩ := live t cs2 true e2 ht' hg2
        rw [add_ne htn] at hq2
        exact h.apart s t cs1 rw1 e1 cs2 e2 q1 q2 hs' ht' hne hg1' hg2' hq1 hq2
theorem run_extCells {P : Program} {S : Base} {m : RMap} : ∀ (vs : List AVal) (xs : List Value) (H : AHeap) (w : World) (r : Nat) (cs : List AVal) (e : TypeId) (p : Addr × Nat) (a : Addr) (i : Nat),
    HRel S m H w → r < H.n → H.get r = .row cs true e → m r = some p → cs.length + vs.length ≤ p.2 → embL m vs = some xs → vs.all AVal.one = true → (∀ j, a.add (i + j) = p.1.add (cs.length + j)) →
    ∃ w', (storeCells a xs i).run P w = .ok () w' ∧ HRel S m (H.set r (.row (cs ++ vs) true e)) w'
  | [], xs, H, w, r, cs, e, p, a, i, h, hr, hg, hp, hl, hx, ho, _ => by
    simp [embL] at hx; subst hx
    exact ⟨w, by simp [storeCells], by rw [List.append_nil, set_self hg]; exact h⟩
  | v :: vs, xs, H, w, r, cs, e, p, a, i, h, hr, hg, hp, hl, hx, ho, haj => by
    obtain ⟨x, ys, hv, hvs, rfl⟩ := embL_cons hx
    simp only [List.all_cons, Bool.and_eq_true] at ho
    simp only [List.length_cons] at hl
    obtain ⟨h', hsome, hfr⟩ := h.setAny hr hg hp (i := cs.length) (cs' := cs ++ [v]) (by omega) (by simp; omega) (fun j u hj => by
      by_cases hjl : j < cs.length
      · rw [List.getElem?_append_left hjl] at hj; exact Or.inr ⟨by omega, hj⟩
      · rw [List.getElem?_append_right (by omega)] at hj
        have : j - cs.length = 0 := by
          cases hq : j - cs.length with
          | zero => rfl
          | succ q => rw [hq] at hj; simp at hj
        rw [this] at hj; cases hj
        exact Or.inl ⟨by omega, rfl⟩) hv
    obtain ⟨u, hu⟩ := Option.isSome_iff_exists.1 hsome
    obtain ⟨w', hw, hrel⟩ := run_extCells (P := P) vs ys (H.set r (.row (cs ++ [v]) true e)) (w.setCell (p.1.add cs.length) x) r (cs ++ [v]) e p a (i + 1) h'
      (by simpa [AHeap.set] using hr) set_get_eq hp (by simp; omega) hvs ho.2
      (fun j => by have := haj (1 + j); simpa [Nat.add_assoc] using this)
    refine ⟨w', ?_, ?_⟩
    · simp only [storeCells, Sem.run_bind]
      have ha := haj 0
      simp only [Nat.add_zero] at ha
      rw [ha, run_store P w _ x _ (emb_one hv ho.1), hu]
      simp only [hfr, Bool.false_eq_true, if_false, Result.andThen_ok]
      exact hw
    · rw [set_set] at hrel
      simpa using hrel
end Go.Am

namespace Go.Am
open Go Go.RowKit
theorem bind_some {α β : Type} {x : M α} {f : α → M β} {H : AHeap} {r : β × AHeap} (h : M.bind x f H = some r) : ∃ a H1, x H = some (a, H1) ∧ f a H1 = some r := by
  unfold M.bind at h
  split at h
  · rename_i a H1 h1; exact ⟨a, H1, h1, h⟩
  · cases h
theorem pure_some {α : Type} {a b : α} {H H' : AHeap} (h : M.pure a H = some (b, H')) : b = a ∧ H' = H := by
  unfold M.pure at h; cases h; exact ⟨rfl, rfl⟩
theorem fail_some {α : Type} {H : AHeap} {r : α × AHeap} (h : (M.fail : M α) H = some r) : False := by unfold M.fail at h; cases h
theorem ofOption_some {α : Type} {o : Option α} {a : α} {H H' : AHeap} (h : M.ofOption o H = some (a, H')) : o = some a ∧ H' = H := by
  cases o with
  | none => exact (fail_some (H := H) h).elim
  | some b => obtain ⟨rfl, rfl⟩ := pure_some h; exact ⟨rfl, rfl⟩
theorem aRow_some {r : Nat} {H H' : AHeap} {p : List AVal × Bool} (h : aRow r H = some (p, H')) : H' = H ∧ r < H.n ∧ ∃ e, H.get r = .row p.1 p.2 e := by
  unfold aRow at h
  split at h
  · rename_i hr
    split at h
    · rename_i cs rw e hg; cases h; exact ⟨rfl, hr, e, hg⟩
    · cases h
  · cases h
theorem aNew_some {o : AObj} {r : Nat} {H H' : AHeap} (h : aNew o H = some (r, H')) : r = H.n ∧ H' = H.push o := by
  unfold aNew at h; cases h; exact ⟨rfl, rfl⟩
def Globs (G : Nat) (m : RMap) : Prop := ∀ g, g < G → ∃ k, m g = some (⟨g, 0, none⟩, k)
theorem cOpd_ev {G nt : Nat} {x : Operand} {r : ROpd} {m : RMap} {fr : AFrame} {a : Act} (hc : cOpd G nt x = some r) (hf : FRel nt m fr a.tmps) (hg : Globs G m) :
    emb m (r.ev fr) = some (a.eval x) := by
  cases x with
  | tmp t =>
    simp only [cOpd] at hc
    split at hc
    · rename_i ht; cases hc
      obtain ⟨x, h1, h2⟩ := hf.2 t ht
      simp only [ROpd.ev, Act.eval]
      rw [h1]
      simp [Array.getD_eq_getD_getElem?, h2]
    · cases hc
  | const v =>
    simp only [cOpd] at hc
    split at hc
    · rename_i y hy; cases hc; exact ofV_emb m v y hy
    · cases hc
  | global g =>
    simp only [cOpd] at hc
    split at hc
    · rename_i hlt; cases hc
      obtain ⟨k, hk⟩ := hg g hlt
      simp [ROpd.ev, emb, hk, Act.eval, Addr.add]
    · cases hc
  | func f =>
    simp only [cOpd] at hc
    split at hc
    · rename_i hy; cases hc; simp [ROpd.ev, emb, embL, Act.eval, fnOk, hy]
    · cases hc
theorem cOpds_ev {G nt : Nat} {m : RMap} {fr : AFrame} {a : Act} (hf : FRel nt m fr a.tmps) (hg : Globs G m) : ∀ {xs : List Operand} {rs : List ROpd}, cOpds G nt xs = some rs →
    embL m (rs.map (·.ev fr)) = some (xs.map a.eval)
  | [], rs, hc => by simp [cOpds] at hc; subst hc; simp [embL]
  | x :: xs, rs, hc => by
    simp only [cOpds] at hc
    split at hc
    · rename_i r l h1 h2; cases hc
      exact embL_mk (cOpd_ev h1 hf hg) (cOpds_ev hf hg h2)
    · cases hc
def Yields (P : Program) (s : Sem Next) (w : World) (R : Value → World → Prop) : Prop :=
  match s.run P w with
  | .ok (.value v) w' => R v w'
  | .ok .skip w' => R undef w'
  | .ok (.enter f args) w' => Calls P f args w' fun e w'' => ∃ v, e = .returned v ∧ R v w''
  | .ok (.round l f tmps assign body) w' => RoundIn Fence.wide 0 P l f tmps assign body w' fun e w'' => ∃ v, e = .returned v ∧ R v w''
  | _ => False
theorem yields_v {P : Program} {s : Sem Value} {w w' : World} {x : Value} {R : Value → World → Prop} (h : s.run P w = .ok x w') (hr : R x w') : Yields P (do pure (.value (← s))) w R := by
  simp only [Yields, Sem.run_bind, h, Result.andThen_ok, Sem.run_pure]; exact hr
theorem yields_u {P : Program} {s : Sem Unit} {w w' : World} {R : Value → World → Prop} (h : s.run P w = .ok () w') (hr : R undef w') : Yields P (do s; pure .skip) w R := by
  simp only [Yields, Sem.run_bind, h, Result.andThen_ok, Sem.run_pure]; exact hr
theorem yields_pure {P : Program} {x : Value} {w : World} {R : Value → World → Prop} (hr : R x w) : Yields P (pure (.value x)) w R := by
  simp only [Yields, Sem.run_pure]; exact hr
theorem Yields.mono {P : Program} {s : Sem Next} {w : World} {R R' : Value → World → Prop} (h : Yields P s w R) (hr : ∀ v w', R v w' → R' v w') : Yields P s w R' := by
  unfold Yields at h ⊢
  cases hs : s.run P w with
  | halt e w' => rw [hs] at h; exact h.elim
  | ok n w' =>
    rw [hs] at h
    cases n with
    | value v => exact hr _ _ h
    | skip => exact hr _ _ h
    | enter f args => exact h.mono fun e w'' ⟨v, h1, h2⟩ => ⟨v, h1, hr _ _ h2⟩
    | round l f tmps assign body => exact RoundIn.mono h fun e w'' ⟨v, h1, h2⟩ => ⟨v, h1, hr _ _ h2⟩
    | _ => exact h.elim
def Out (S : Base) (m : RMap) (v : AVal) (H' : AHeap) (x : Value) (w' : World) : Prop := ∃ m', Le m m' ∧ emb m' v = some x ∧ HRel S m' H' w'
theorem Out.same {S : Base} {m : RMap} {v : AVal} {H : AHeap} {x : Value} {w : World} (h : HRel S m H w) (hv : emb m v = some x) : Out S m v H x w := ⟨m, Le.refl _, hv, h⟩
section
variable {P : Program} {S : Base} {m : RMap} {H H' : AHeap} {w : World}
theorem run_sizeOf {t : TypeId} {n : Nat} (h : cSize P t = some n) (w : World) : (sizeOf t).run P w = .ok n w := by
  unfold cSize at h
  cases hi : P.info? t with
  | none => rw [hi] at h; cases h
  | some i => rw [hi] at h; cases h; simp [sizeOf, typeInfo, hi]
theorem cAgg_some {t : TypeId} {n : Nat} (h : cAgg P t = some (some n)) (w : World) : (isAgg t).run P w = .ok true w ∧ (sizeOf t).run P w = .ok n w := by
  unfold cAgg at h
  split at h
  · rename_i hu hi; cases h; exact ⟨by simp [isAgg, run_underlying hu], by simp [sizeOf, typeInfo, hi]⟩
  · rename_i hu hi; cases h; exact ⟨by simp [isAgg, run_underlying hu], by simp [sizeOf, typeInfo, hi]⟩
  · split at h <;> cases h
  · cases h
theorem cAgg_none {t : TypeId} (h : cAgg P t = some none) (w : World) : (isAgg t).run P w = .ok false w ∧ (sizeOf t).run P w = .ok 1 w := by
  unfold cAgg at h
  split at h
  · cases h
  · cases h
  · rename_i d i h1 h2 hu hi
    split at h
    · rename_i h3
      refine ⟨?_, by simp [sizeOf, typeInfo, hi, h3]⟩
      simp only [isAgg, Sem.run_bind, run_underlying hu, Result.andThen_ok]
      cases d <;> first | rfl | (exact absurd rfl (h1 _)) | (exact absurd rfl (h2 _ _))
    · cases h
  · cases h
theorem cAgg_size {t : TypeId} {g : Option Nat} (h : cAgg P t = some g) (w : World) : (sizeOf t).run P w = .ok (match g with | some n => n | none => 1) w := by
  cases g with
  | none => exact (cAgg_none h w).2
  | some n => exact (cAgg_some h w).2
theorem sim_load {t : TypeId} {agg : Option Nat} {av u : AVal} {x : Value} (hc : cAgg P t = some agg) (hv : emb m av = some x) (h : HRel S m H w) (hx : aLoad agg av H = some (u, H')) :
    ∃ a y, x = .pointer (some a) ∧ (loadVar t a).run P w = .ok y w ∧ emb m u = some y ∧ H' = H := by
  cases av <;> simp only [aLoad] at hx <;> try exact (fail_some hx).elim
  rename_i r off
  obtain ⟨⟨cs, rw⟩, H1, h1, h2⟩ := bind_some hx
  obtain ⟨rfl, hr, e, hg⟩ := aRow_some h1
  obtain ⟨p, hp, rfl⟩ : ∃ p, m r = some p ∧ x = .pointer (some (p.1.add off)) := by
    simp only [emb] at hv
    split at hv
    · rename_i p hp; cases hv; exact ⟨p, hp, rfl⟩
    · cases hv
  have hok := h.row r cs rw e p hr hg hp
  cases agg with
  | none =>
    simp only [] at h2
    cases hvv : cs[off]? with
    | some v =>
      rw [hvv] at h2
      obtain ⟨rfl, rfl⟩ := pure_some h2
      obtain ⟨y, hy, hcell⟩ := hok.cell off _ hvv
      refine ⟨_, y, rfl, ?_, hy, rfl⟩
      simp [loadVar, (cAgg_none hc w).1, hcell]
    | none => rw [hvv] at h2; exact (fail_some h2).elim
  | some n =>
    simp only [] at h2
    split at h2
    · rename_i hle
      obtain ⟨rfl, rfl⟩ := pure_some h2
      -- the cells
      have hex : ∃ l, embL m ((cs.drop off).take n) = some l ∧ l.length = n ∧ ∀ j v, l[j]? = some v → w.cell? ((p.1.add off).add j) = some v := by
        have hlen : ((cs.drop off).take n).length = n := by simp; omega
        refine ⟨(List.range n).map fun j => ((w.cell? ((p.1.add off).add j)).getD undef), ?_, by simp, ?_⟩
        · refine embL_of_get (by simp; omega) fun i v hi => ?_
          have hin : i < n := by have := (List.getElem?_eq_some_iff.1 hi).1; omega
          have hcs : cs[off + i]? = some v := by
            rw [List.getElem?_take_of_lt hin, List.getElem?_drop] at hi; exact hi
          obtain ⟨y, hy, hcell⟩ := hok.cell _ _ hcs
          exact ⟨y, hy, by simp [hin, add_add, hcell]⟩
        · intro j v hj
          have hjn : j < n := by have := (List.getElem?_eq_some_iff.1 hj).1; simpa using this
          obtain ⟨u, hu⟩ : ∃ u, cs[off + j]? = some u := ⟨cs[off + j], List.getElem?_eq_getElem (by omega)⟩
          obtain ⟨y, hy, hcell⟩ := hok.cell _ _ hu
          simp [hjn, add_add, hcell] at hj
          subst hj
          rw [add_add]; exact hcell
      obtain ⟨l, hl, hln, hcl⟩ := hex
      refine ⟨_, .agg l.toArray, rfl, ?_, by simp [emb, hl], rfl⟩
      have hrun := run_loadCells_list (P := P) w (p.1.add off) l hcl
      rw [hln] at hrun
      simp [loadVar, (cAgg_some hc w).1, (cAgg_some hc w).2, hrun]
    · exact (fail_some h2).elim
end
end Go.Am

namespace Go.Am
open Go Go.RowKit
section
variable {P : Program} {S : Base} {m : RMap} {H H' : AHeap} {w : World}
theorem aWrite_some {r off : Nat} {vs : List AVal} {u : Unit} (h : aWrite r off vs H = some (u, H')) :
    ∃ cs e, r < H.n ∧ H.get r = .row cs true e ∧ off + vs.length ≤ cs.length ∧ vs.all AVal.one = true ∧ H' = H.set r (.row (setAt cs off vs) true e) := by
  unfold aWrite at h
  split at h
  · rename_i hr
    split at h
    · rename_i cs rw e hg
      split at h
      · rename_i hc
        simp only [Bool.and_eq_true, decide_eq_true_eq] at hc
        obtain ⟨⟨rfl, h2⟩, h3⟩ := hc
        cases h
        exact ⟨cs, e, hr, hg, h2, h3, rfl⟩
      · cases h
    · cases h
  · cases h
theorem sim_write {r off : Nat} {vs : List AVal} {xs : List Value} {u : Unit} {p : Addr × Nat} {a : Addr} (h : HRel S m H w) (hx : aWrite r off vs H = some (u, H')) (hp : m r = some p) (hv : embL m vs = some xs)
    (ha : a = p.1.add off) : ∃ w', (storeCells a xs).run P w = .ok () w' ∧ HRel S m H' w' := by
  obtain ⟨cs, e, hr, hg, hl, ho, rfl⟩ := aWrite_some hx
  exact run_storeCells vs xs H w r off cs e p a 0 h hr hg hp hl hv ho (fun j => by subst ha; rw [add_add]; simp)
theorem sim_store {t : TypeId} {n : Nat} {av bv u : AVal} {x y : Value} (hc : cSize P t = some n) (ha : emb m av = some x) (hb : emb m bv = some y) (h : HRel S m H w) (hx : aStore n av bv H = some (u, H')) :
    ∃ w', (Instr.storeAt t x y).run P w = .ok () w' ∧ Out S m u H' undef w' := by
  cases av <;> simp only [aStore] at hx <;> try exact (fail_some hx).elim
  rename_i r off
  split at hx
  · rename_i hn
    obtain ⟨q, H1, h1, h2⟩ := bind_some hx
    obtain ⟨rfl, rfl⟩ := pure_some h2
    have hcells := emb_cells hb
    obtain ⟨cs, e, hr, hg, _⟩ := aWrite_some h1
    obtain ⟨p, hp, rfl⟩ : ∃ p, m r = some p ∧ x = .pointer (some (p.1.add off)) := by
      simp only [emb] at ha
      split at ha
      · rename_i p hp; cases ha; exact ⟨p, hp, rfl⟩
      · cases ha
    obtain ⟨w', hw, hrel⟩ := sim_write (P := P) (a := p.1.add off) h h1 hp hcells rfl
    refine ⟨w', ?_, m, Le.refl _, by simp [aundef, emb, embL, undef], hrel⟩
    have hsz : y.cells.size = n := by have := embL_length hcells; simp at this; omega
    simp [Instr.storeAt, Instr.sureAddr, storeVar, run_sizeOf hc, hsz, hw]
  · exact (fail_some hx).elim
theorem out_new {cs : List AVal} {xs : List Value} (h : HRel S m H w) (hx : embL m cs = some xs) (e : TypeId) :
    Out S m (.ptr H.n 0) (H.push (.row cs true (2 * e))) (.pointer (some ⟨w.heap.size, 0, none⟩)) (w.alloc (.cells xs.toArray e)) := by
  have := h.alloc hx [] e
  simp only [List.append_nil] at this
  exact ⟨_, le_add _ (h.fresh _ (Nat.le_refl _)), by simp [emb, add_eq, Addr.add], this⟩
theorem out_newSlice {cs : List AVal} {xs : List Value} (h : HRel S m H w) (hx : embL m cs = some xs) (rest : List Value) (e : TypeId) (len sz : Nat) (cap : Option Nat) (c : Nat)
    (hc : capR cap ((xs ++ rest).length / sz) = c) :
    Out S m (.slice H.n 0 len cap sz) (H.push (.row cs true (2 * e))) (.slice (some ⟨w.heap.size, 0, none⟩) len c) (w.alloc (.cells (xs ++ rest).toArray e)) := by
  refine ⟨_, le_add _ (h.fresh _ (Nat.le_refl _)), ?_, h.alloc hx rest e⟩
  subst hc
  cases cap <;> simp [emb, add_eq, Addr.add]
theorem cZero_some {t : TypeId} {z : List AVal} (h : cZero P t = some z) (w : World) : ∃ v, (zeroValue t).run P w = .ok v w ∧ ∀ m, embL m z = some v.cells.toList := by
  unfold cZero at h
  split at h
  · rename_i i hi
    split at h
    · rename_i v hv
      split at h
      · rename_i x hx; cases h
        exact ⟨v, by simp [zeroValue, typeInfo, hi, hv], fun m => emb_cells (ofV_emb m v x hx)⟩
      · cases h
    · cases h
  · cases h
theorem sim_new {e : TypeId} {z : List AVal} (hc : cZero P e = some z) (h : HRel S m H w) :
    ∃ x w', (Instr.alloc e true (.tuple #[])).run P w = .ok x w' ∧ Out S m (.ptr H.n 0) (H.push (.row z true (2 * e))) x w' := by
  obtain ⟨v, hv, hz⟩ := cZero_some hc w
  refine ⟨_, _, ?_, out_new h (hz m) e⟩
  simp [Instr.alloc, hv, newVar, newRow]
theorem sim_box {e : TypeId} {v : AVal} {x : Value} (hv : emb m v = some x) (h : HRel S m H w) :
    ∃ y w', (Instr.box e x).run P w = .ok y w' ∧ Out S m (.ptr H.n 0) (H.push (.row v.cells true (2 * e))) y w' := by
  refine ⟨_, _, ?_, out_new h (emb_cells hv) e⟩
  simp [Instr.box, newVar, newRow]
theorem foldl_setAt {m : RMap} : ∀ (vs : List AVal) (xs : List Value) (cs : List AVal) (ys : List Value) (off k : Nat), embL m vs = some xs → embL m cs = some ys → off + k + vs.length ≤ cs.length →
    embL m (setAt cs (off + k) vs) = some ((xs.zipIdx k).foldl (fun cs (c, j) => cs.set (off + j) c) ys)
  | [], xs, cs, ys, off, k, h1, h2, _ => by simp [embL] at h1; subst h1; simpa [setAt] using h2
  | v :: vs, xs, cs, ys, off, k, h1, h2, hl => by
    obtain ⟨x, xs', hv, hvs, rfl⟩ := embL_cons h1
    simp only [List.zipIdx_cons, List.foldl_cons, setAt]
    simp only [List.length_cons] at hl
    have hlen := embL_length h2
    refine foldl_setAt vs xs' (cs.set (off + k) v) (ys.set (off + k) x) off (k + 1) hvs ?_ (by simp; omega)
    refine embL_of_get (by simp [hlen]) fun i u hi => ?_
    by_cases hik : i = off + k
    · subst hik
      rw [List.getElem?_set_self (by omega)] at hi; cases hi
      exact ⟨x, hv, List.getElem?_set_self (by omega)⟩
    · rw [List.getElem?_set_ne (Ne.symm hik)] at hi
      obtain ⟨y, hy1, hy2⟩ := embL_get h2 hi
      exact ⟨y, hy1, by rw [List.getElem?_set_ne (Ne.symm hik)]; exact hy2⟩
theorem zipIdx_foldl_toList (ys : Array Value) (xs : Array Value) (off : Nat) :
    ((xs.zipIdx).foldl (fun cs (c, j) => cs.setIfInBounds (off + j) c) ys).toList = (xs.toList.zipIdx 0).foldl (fun cs (c, j) => cs.set (off + j) c) ys.toList := by
  have : ∀ (l : List (Value × Nat)) (ys : Array Value), (l.foldl (fun cs (c, j) => cs.setIfInBounds (off + j) c) ys).toList = l.foldl (fun cs (c, j) => cs.set (off + j) c) ys.toList := by
    intro l
    induction l with
    | nil => intro ys; rfl
    | cons a l ih => intro ys; simp only [List.foldl_cons]; rw [ih]; simp
  rw [← Array.foldl_toList, this]
  simp
theorem sim_fill {nt : Nat} {fr : AFrame} {a : Act} (hf : FRel nt m fr a.tmps) (hg : Globs P.globals.size m) {place : Nat → Option (Nat × Nat)} : ∀ {parts : List (Nat × Operand)} {l : List (Nat × Nat × ROpd)} {cells out : List AVal} {ys : Array Value},
    (∀ p ∈ parts, True) → cParts P nt place parts = some l → aFill fr cells l = some out → embL m cells = some ys.toList → ∃ zs, Instr.fill place ys (parts.map fun (i, x) => (i, a.eval x)) = some zs ∧ embL m out = some zs.toList
  | [], l, cells, out, ys, _, hc, hx, hy => by
    simp [cParts] at hc; subst hc; simp [aFill] at hx; subst hx
    exact ⟨ys, by simp [Instr.fill], hy⟩
  | (i, x) :: rest, l, cells, out, ys, _, hc, hx, hy => by
    simp only [cParts] at hc
    split at hc
    · rename_i off size r l' h1 h2 h3
      cases hc
      simp only [aFill] at hx
      split at hx
      · cases hx
      · rename_i hcond
        have hev := cOpd_ev h2 hf hg
        have hcl := emb_cells hev
        have hlen := embL_length hcl
        have hlen2 := embL_length hy
        have hs := foldl_setAt _ _ cells ys.toList off 0 hcl hy (by omega)
        have := zipIdx_foldl_toList ys (a.eval x).cells off
        rw [← this] at hs
        obtain ⟨zs, hz1, hz2⟩ := sim_fill hf hg (fun _ _ => trivial) h3 hx hs
        refine ⟨zs, ?_, hz2⟩
        simp only [List.map_cons, Instr.fill, h1]
        have hc1 : ¬ ((a.eval x).cells.size ≠ size ∨ off + (a.eval x).cells.size > ys.size) := by
          simp only [Array.length_toList] at hlen hlen2; omega
        simp only [ne_eq, Bool.or_eq_true, decide_eq_true_eq] at hc1 ⊢
        simp_all
    · cases hc
theorem mapM_places {fs : List Field} {pl : List (Nat × Nat)} (h : cPlaces P fs = some pl) : (fs.mapM (m := Sem) fun f => do pure (f.offset, ← sizeOf f.type)).run P w = .ok pl w := by
  induction fs generalizing pl with
  | nil => simp [cPlaces] at h; subst h; simp
  | cons f fs ih =>
    simp only [cPlaces] at h
    split at h
    · rename_i n l h1 h2; cases h
      rw [List.mapM_cons]
      simp only [Sem.run_bind, run_sizeOf h1, Result.andThen_ok, Sem.run_pure, ih h2]
    · cases h
theorem sim_build {nt : Nat} {fr : AFrame} {a : Act} (hf : FRel nt m fr a.tmps) (h : HRel S m H w) (hg : Globs P.globals.size m) {t : TypeId} {ps : Array (Nat × Operand)} {ro : ROp} {u : AVal} {call : ACall}
    (hc : (match cZero P t, P.underlying t with
    | some z, some (.struct fs) => match cPlaces P fs.toList with
      | some pl => match cParts P nt (pl[·]?) ps.toList with | some l => some (ROp.build z l) | none => none
      | none => none
    | some z, some (.array _ e) => match cSize P e with
      | some s => match cParts P nt (fun i => some (i * s, s)) ps.toList with | some l => some (.build z l) | none => none
      | none => none
    | _, _ => none) = some ro) (hx : ro.exec call fr H = some (u, H')) : ∃ x, (Instr.build t (ps.map fun (i, x) => (i, a.eval x))).run P w = .ok x w ∧ emb m u = some x ∧ H' = H := by
  split at hc
  · rename_i z fs hz hu
    split at hc
    · rename_i pl hpl
      split at hc
      · rename_i l hl; cases hc
        simp only [ROp.exec] at hx
        cases hcs : aFill fr z l with
        | none => rw [hcs] at hx; exact (fail_some hx).elim
        | some cs =>
          rw [hcs] at hx
          obtain ⟨rfl, rfl⟩ := pure_some hx
          obtain ⟨v, hv, hz'⟩ := cZero_some hz w
          obtain ⟨zs, h1, h2⟩ := sim_fill hf hg (fun _ _ => trivial) hl hcs (hz' m)
          refine ⟨.agg zs, ?_, by simp [emb, h2], rfl⟩
          have hm := mapM_places (P := P) (w := w) hpl
          simp only [Instr.build, Sem.run_bind, hv, Result.andThen_ok, run_underlying hu, Array.mapM_eq_mapM_toList, Sem.run_map, hm]
          simp [h1]
      · cases hc
    · cases hc
  · rename_i z n e hz hu
    split at hc
    · rename_i s hs
      split at hc
      · rename_i l hl; cases hc
        simp only [ROp.exec] at hx
        cases hcs : aFill fr z l with
        | none => rw [hcs] at hx; exact (fail_some hx).elim
        | some cs =>
          rw [hcs] at hx
          obtain ⟨rfl, rfl⟩ := pure_some hx
          obtain ⟨v, hv, hz'⟩ := cZero_some hz w
          obtain ⟨zs, h1, h2⟩ := sim_fill hf hg (fun _ _ => trivial) hl hcs (hz' m)
          refine ⟨.agg zs, ?_, by simp [emb, h2], rfl⟩
          simp only [Instr.build, Sem.run_bind, hv, Result.andThen_ok, run_underlying hu, run_sizeOf hs]
          simp [h1]
      · cases hc
    · cases hc
  · cases hc
theorem replicate_flatten (zero : Array Value) (n : Nat) (hz : 0 < zero.size) : ((Array.range (n * zero.size)).map (zero[· % zero.size]!)).toList = (List.replicate n zero.toList).flatten := by
  apply List.ext_getElem?
  intro i
  simp only [Array.toList_map, Array.toList_range]
  by_cases hi : i < n * zero.size
  · have hm : i % zero.size < zero.size := Nat.mod_lt _ hz
    have hd : i / zero.size < n := Nat.div_lt_of_lt_mul (by rw [Nat.mul_comm]; exact hi)
    rw [List.getElem?_map, List.getElem?_range hi]
    have : ∀ (n : Nat) (l : List Value) (i : Nat), 0 < l.length → i < n * l.length → (List.replicate n l).flatten[i]? = l[i % l.length]? := by
      intro n l
      induction n with
      | zero => intro i _ h; simp at h
      | succ n ih =>
        intro i hl hi
        rw [List.replicate_succ, List.flatten_cons]
        by_cases h : i < l.length
        · rw [List.getElem?_append_left h, Nat.mod_eq_of_lt h]
        · rw [List.getElem?_append_right (by omega), ih _ hl (by have : (n + 1) * l.length = n * l.length + l.length := Nat.succ_mul _ _; omega)]
          rw [show i % l.length = (i - l.length) % l.length from Nat.mod_eq_sub_mod (by omega)]
    rw [this n zero.toList i (by simpa using hz) (by simpa using hi)]
    simp [hm]
  · rw [List.getElem?_eq_none (by simp; omega), List.getElem?_eq_none (by simp [List.length_flatten]; omega)]
theorem embL_replicate {z : List AVal} {l : List Value} (h : embL m z = some l) : ∀ n, embL m (List.replicate n z).flatten = some (List.replicate n l).flatten
  | 0 => by simp [embL]
  | n + 1 => by rw [List.replicate_succ, List.replicate_succ, List.flatten_cons, List.flatten_cons]; exact embL_append h (embL_replicate h n)
theorem sim_buildSlice {nt : Nat} {fr : AFrame} {a : Act} (hf : FRel nt m fr a.tmps) (h : HRel S m H w) (hg : Globs P.globals.size m) {t e : TypeId} {len s : Nat} {z : List AVal} {ps : Array (Nat × Operand)} {l : List (Nat × Nat × ROpd)} {u : AVal} {call : ACall}
    (hu : P.underlying t = some (.slice e)) (hs : cSize P e = some s) (hz : cZero P e = some z) (hcond : z.length = s ∧ 0 < s ∧ len * s ≤ 2 ^ 24) (hl : cParts P nt (fun i => some (i * s, s)) ps.toList = some l)
    (hx : (ROp.buildSlice e s len (List.replicate len z).flatten l).exec call fr H = some (u, H')) : ∃ x w', (Instr.buildSlice t len (ps.map fun (i, x) => (i, a.eval x))).run P w = .ok x w' ∧ Out S m u H' x w' := by
  simp only [ROp.exec] at hx
  cases hcs : aFill fr (List.replicate len z).flatten l with
  | none => rw [hcs] at hx; exact (fail_some hx).elim
  | some cs =>
    rw [hcs] at hx
    obtain ⟨r, H1, h1, h2⟩ := bind_some hx
    obtain ⟨rfl, rfl⟩ := aNew_some h1
    obtain ⟨rfl, rfl⟩ := pure_some h2
    obtain ⟨v, hv, hz'⟩ := cZero_some hz w
    obtain ⟨hz1, hz2, hz3⟩ := hcond
    have hzl := embL_length (hz' m)
    have hvs : v.cells.size = s := by simp at hzl; omega
    have hrep := embL_replicate (hz' m) len
    rw [← replicate_flatten v.cells len (by omega)] at hrep
    obtain ⟨zs, h3, h4⟩ := sim_fill hf hg (fun _ _ => trivial) hl hcs hrep
    have hout := out_newSlice h h4 [] e len s (some len) len rfl
    simp only [List.append_nil] at hout
    refine ⟨_, _, ?_, hout⟩
    simp only [hvs] at h3
    have hn0 : len = 0 ∨ len * s ≠ 0 := by
      rcases Nat.eq_zero_or_pos len with h | h
      · exact Or.inl h
      · exact Or.inr (Nat.ne_of_gt (Nat.mul_pos h hz2))
    simp only [Instr.buildSlice, Sem.run_bind, run_underlying hu, Result.andThen_ok, run_sizeOf hs]
    rw [if_neg (by omega)]
    rcases hn0 with h0 | h0
    · subst h0
      have hemp : ∀ (f : Nat → Value), (Array.range 0).map f = #[] := fun f => by simp [Array.range_zero']
      simp only [Nat.zero_mul, hemp] at h3
      simp only [Nat.zero_mul, if_true, Sem.run_bind, Sem.run_pure, Result.andThen_ok, hemp]
      simp [newRow, h3]
    · rw [if_neg h0]
      simp [hv, hvs, h3, newRow]
end
end Go.Am

namespace Go.Am
open Go Go.RowKit
section
variable {P : Program} {S : Base} {m : RMap} {H H' : AHeap} {w : World}
theorem emb_int_mk (k : IntKind) (n : Int) : emb m (.int k n) = some (.int k n) := by simp [emb]
theorem emb_bool_mk (b : Bool) : emb m (.bool b) = some (.bool b) := by simp [emb]
theorem sim_intBin {op : BinOp} {t : TypeId} {k k' : IntKind} {a b : Int} {x y : Operand} {u : AVal} (hx : intBin op k k' a b = some u) :
    ∃ z, (do eqGuard op t x y (.int k a) (.int k' b); binOp op t (.int k a) (.int k' b) : Sem Value).run P w = .ok z w ∧ emb m u = some z := by
  have hg : eqGuard op t x y (.int k a) (.int k' b) = pure () := eqGuard_at_int op t x y _ k a
  rw [hg]
  simp only [Sem.run_bind, Sem.run_pure, Result.andThen_ok]
  cases op <;> simp only [intBin] at hx
  case shl =>
    split at hx
    · cases hx
    · rename_i h; cases hx
      refine ⟨_, ?_, emb_int_mk _ _⟩
      simp only [binOp, Op.shift]
      rw [if_neg h]; rfl
  case shr =>
    split at hx
    · cases hx
    · rename_i h; cases hx
      refine ⟨_, ?_, emb_int_mk _ _⟩
      simp only [binOp, Op.shift]
      rw [if_neg h]; rfl
  all_goals
    split at hx
    · cases hx
    rename_i hk
    simp only [ne_eq, Decidable.not_not] at hk
    subst hk
  case add => cases hx; exact ⟨.int k (k.wrap (a + b)), by rw [binOp_add]; rfl, emb_int_mk _ _⟩
  case sub => cases hx; exact ⟨.int k (k.wrap (a - b)), by rw [binOp_sub]; rfl, emb_int_mk _ _⟩
  case mul => cases hx; exact ⟨.int k (k.wrap (a * b)), by rw [binOp_mul]; rfl, emb_int_mk _ _⟩
  case quo =>
    split at hx
    · cases hx
    · rename_i hb; cases hx
      exact ⟨.int k (k.wrap (a.tdiv b)), by rw [binOp_quo]; simp [Op.intDiv, hb], emb_int_mk _ _⟩
  case rem =>
    split at hx
    · cases hx
    · rename_i hb; cases hx
      exact ⟨.int k (a.tmod b), by rw [binOp_rem]; simp [Op.intDiv, hb], emb_int_mk _ _⟩
  case and => cases hx; exact ⟨.int k (Go.bits .and k a b), by rw [binOp_and, intBits_and]; rfl, emb_int_mk _ _⟩
  case or => cases hx; exact ⟨.int k (Go.bits .or k a b), by rw [binOp_or, intBits_or]; rfl, emb_int_mk _ _⟩
  case xor => cases hx; exact ⟨.int k (Go.bits .xor k a b), by rw [binOp_xor, intBits_xor]; rfl, emb_int_mk _ _⟩
  case andNot => cases hx; exact ⟨.int k (Go.bits .andNot k a b), by rw [binOp_andNot, intBits_andNot]; rfl, emb_int_mk _ _⟩
  case eql => cases hx; exact ⟨.bool (a == b), by rw [binOp_eql]; rfl, emb_bool_mk _⟩
  case neq => cases hx; exact ⟨.bool (a != b), by rw [binOp_neq]; rfl, emb_bool_mk _⟩
  case lss => cases hx; exact ⟨.bool (decide (a < b)), by rw [binOp_lss]; rfl, emb_bool_mk _⟩
  case leq => cases hx; exact ⟨.bool (decide (a ≤ b)), by rw [binOp_leq]; rfl, emb_bool_mk _⟩
  case gtr => cases hx; exact ⟨.bool (decide (a > b)), by rw [binOp_gtr]; rfl, emb_bool_mk _⟩
  case geq => cases hx; exact ⟨.bool (decide (a ≥ b)), by rw [binOp_geq]; rfl, emb_bool_mk _⟩
  all_goals cases hx
theorem sim_strBin {op : BinOp} {t : TypeId} {a b : ByteArray} {x y : Operand} {u : AVal} (hx : strBin op a b = some u) :
    ∃ z, (do eqGuard op t x y (.string a) (.string b); binOp op t (.string a) (.string b) : Sem Value).run P w = .ok z w ∧ emb m u = some z := by
  rw [eqGuard_at_string op t x y _ a]
  simp only [Sem.run_bind, Sem.run_pure, Result.andThen_ok]
  cases op <;> simp only [strBin] at hx
  case add =>
    split at hx
    · cases hx
    · rename_i h; cases hx
      exact ⟨.string (a ++ b), by simp only [binOp, Op.stringOp]; rw [if_neg h]; rfl, by simp [emb]⟩
  all_goals first
    | (cases hx; done)
    | (cases hx; exact ⟨_, rfl, emb_bool_mk _⟩)
theorem sim_bin {op : BinOp} {t : TypeId} {av bv u : AVal} {xv yv : Value} {x y : Operand} (ha : emb m av = some xv) (hb : emb m bv = some yv) (hx : aBin op av bv = some u) :
    ∃ z, (do eqGuard op t x y xv yv; binOp op t xv yv : Sem Value).run P w = .ok z w ∧ emb m u = some z := by
  cases av <;> cases bv <;> simp only [aBin] at hx <;> try (cases hx; done)
  · simp only [emb] at ha hb; cases ha; cases hb; exact sim_intBin hx
  · simp only [emb] at ha hb; cases ha; cases hb; exact sim_strBin hx
theorem sim_un {op : UnOp} {av u : AVal} {x : Value} (ha : emb m av = some x) (hx : aUn op av = some u) : ∃ z, (Op.unary op x).run P w = .ok z w ∧ emb m u = some z := by
  cases av <;> simp only [aUn] at hx <;> try (cases hx; done)
  · simp only [emb] at ha; cases ha
    cases op <;> simp only at hx <;> cases hx
    exact ⟨_, rfl, emb_bool_mk _⟩
  · simp only [emb] at ha; cases ha
    cases op <;> simp only at hx <;> cases hx
    · exact ⟨_, rfl, emb_int_mk _ _⟩
    · exact ⟨_, rfl, emb_int_mk _ _⟩
theorem sim_bound {av : AVal} {x : Value} {y y' n : Nat} {code : BoundsCode} (ha : emb m av = some x) (hx : aBound y av = some n) (hy : y ≤ y') : (Instr.sliceBound x y' code).run P w = .ok n w ∧ n ≤ y := by
  cases av <;> simp only [aBound] at hx <;> try (cases hx; done)
  rename_i k i
  simp only [emb] at ha; cases ha
  split at hx
  · rename_i h; cases hx
    refine ⟨?_, by omega⟩
    simp only [Instr.sliceBound, asIntOf, Sem.run_bind, Sem.run_pure, Result.andThen_ok]
    rw [if_pos ⟨h.1, by omega⟩]; rfl
  · cases hx
def OptE (m : RMap) : Option AVal → Option Value → Prop
  | none, none => True
  | some v, some x => emb m v = some x
  | _, _ => False
theorem cOpt_ev {G nt : Nat} {m : RMap} {fr : AFrame} {a : Act} (hf : FRel nt m fr a.tmps) (hg : Globs G m) {x : Option Operand} {r : Option ROpd} (hc : cOpt G nt x = some r) : OptE m (r.map (·.ev fr)) (x.map a.eval) := by
  cases x with
  | none => simp [cOpt] at hc; subst hc; trivial
  | some x =>
    simp only [cOpt] at hc
    split at hc
    · rename_i y hy; cases hc; exact cOpd_ev hy hf hg
    · cases hc
theorem sim_bounds {isSlice : Bool} {len rc : Nat} {cap : Option Nat} {lo hi mx : Option AVal} {lo' hi' mx' : Option Value} {l hh : Nat} {mm : Option Nat}
    (h1 : OptE m lo lo') (h2 : OptE m hi hi') (h3 : OptE m mx mx')
    (hcap : ∀ c, cap = some c → rc = c) (hcap' : cap = none → len ≤ rc) (hx : aBounds len cap lo hi mx = some (l, hh, mm)) :
    ∃ M, (Instr.sliceBounds isSlice len rc lo' hi' mx').run P w = .ok (l, hh, M) w ∧ l ≤ hh ∧ (∀ M', mm = some M' → M = M') ∧ (mm = none → M = rc ∧ cap = none ∧ hh ≤ len ∧ mx = none) := by
  have hcl : capD len cap ≤ rc := by
    cases cap with
    | none => exact hcap' rfl
    | some c => exact Nat.le_of_eq (hcap c rfl).symm
  have low : ∀ (h l : Nat) (code : BoundsCode), aLow h lo = some l → (match lo' with | some v => Instr.sliceBound v h code | none => pure 0).run P w = .ok l w ∧ l ≤ h := by
    intro h l code hl
    cases lo with
    | none => cases lo' with
      | none => simp [aLow] at hl; subst hl; exact ⟨rfl, Nat.zero_le _⟩
      | some _ => exact h1.elim
    | some v => cases lo' with
      | none => exact h1.elim
      | some x => exact sim_bound (P := P) h1 hl (Nat.le_refl _)
  unfold aBounds at hx
  cases mx with
  | some mv =>
    cases mx' with
    | none => exact h3.elim
    | some mx' =>
      cases hi with
      | none => cases hx
      | some hv =>
        cases hi' with
        | none => exact h2.elim
        | some hi' =>
          simp only [] at hx
          cases hm : aBound (capD len cap) mv with
          | none => rw [hm] at hx; cases hx
          | some mm' =>
            rw [hm] at hx
            simp only [] at hx
            cases hb : aBound mm' hv with
            | none => rw [hb] at hx; cases hx
            | some h =>
              rw [hb] at hx
              simp only [] at hx
              cases hl : aLow h lo with
              | none => rw [hl] at hx; cases hx
              | some l' =>
                rw [hl] at hx
                cases hx
                obtain ⟨r1, r1'⟩ := sim_bound (P := P) (w := w) (code := if isSlice then .slice3Acap else .slice3Alen) h3 hm hcl
                obtain ⟨r2, r2'⟩ := sim_bound (P := P) (w := w) (code := .slice3B) h2 hb (Nat.le_refl _)
                obtain ⟨r3, r3'⟩ := low hh l .slice3C hl
                refine ⟨mm', ?_, r3', fun M' e => Option.some.inj e, fun e => by cases e⟩
                simp only [Instr.sliceBounds, Sem.run_bind, r1, Result.andThen_ok, r2, Option.isSome_some, if_true]
                cases lo' with
                | none => simp at r3; subst r3; simp
                | some x => simp only at r3; simp [r3]
  | none =>
    cases mx' with
    | some _ => exact h3.elim
    | none =>
      simp only [] at hx
      cases hb : aHigh len (capD len cap) hi with
      | none => rw [hb] at hx; cases hx
      | some h =>
        rw [hb] at hx
        simp only [] at hx
        cases hl : aLow h lo with
        | none => rw [hl] at hx; cases hx
        | some l' =>
          rw [hl] at hx
          cases hx
          obtain ⟨r3, r3'⟩ := low hh l .sliceB hl
          have r2 : (match hi' with | some v => Instr.sliceBound v rc (if isSlice then .sliceAcap else .sliceAlen) | none => pure len).run P w = .ok hh w ∧ (cap = none → hh ≤ len) := by
            cases hi with
            | none => cases hi' with
              | none => simp [aHigh] at hb; subst hb; exact ⟨rfl, fun _ => Nat.le_refl _⟩
              | some _ => exact h2.elim
            | some v => cases hi' with
              | none => exact h2.elim
              | some x =>
                obtain ⟨q1, q2⟩ := sim_bound (P := P) (w := w) (code := if isSlice then .sliceAcap else .sliceAlen) h2 hb hcl
                exact ⟨q1, fun e => by subst e; exact q2⟩
          refine ⟨rc, ?_, r3', fun M' e => hcap M' e, fun e => by subst e; exact ⟨rfl, rfl, r2.2 rfl, rfl⟩⟩
          simp only [Instr.sliceBounds, Sem.run_bind, Sem.run_pure, Result.andThen_ok]
          cases hi' with
          | none =>
            have r2' := r2.1
            simp only [Sem.run_pure] at r2'
            have e2 : len = hh := by cases r2'; rfl
            subst e2
            cases lo' with
            | none =>
              simp only [Sem.run_pure] at r3
              have e3 : 0 = l := by cases r3; rfl
              subst e3; simp
            | some x => simp only [] at r3; simp [r3]
          | some y =>
            have r2' := r2.1
            simp only [] at r2'
            cases lo' with
            | none =>
              simp only [Sem.run_pure] at r3
              have e3 : 0 = l := by cases r3; rfl
              subst e3; simp [r2']
            | some x => simp only [] at r3; simp [r2', r3]
end
end Go.Am

namespace Go.Am
open Go Go.RowKit
section
variable {P : Program} {S : Base} {m : RMap} {H H' : AHeap} {w : World}
theorem emb_slice_some {r off len sz : Nat} {cap : Option Nat} {x : Value} (h : emb m (.slice r off len cap sz) = some x) :
    ∃ p, m r = some p ∧ x = .slice (some (p.1.add off)) len (capR cap ((p.2 - off) / sz)) := by
  simp only [emb] at h
  split at h
  · rename_i p hp; cases h; exact ⟨p, hp, rfl⟩
  · cases h
theorem emb_ptr_some {r off : Nat} {x : Value} (h : emb m (.ptr r off) = some x) : ∃ p, m r = some p ∧ x = .pointer (some (p.1.add off)) := by
  simp only [emb] at h
  split at h
  · rename_i p hp; cases h; exact ⟨p, hp, rfl⟩
  · cases h
theorem emb_eslice_some {r off l sz : Nat} {x : Value} (h : emb m (.eslice r off l sz) = some x) : ∃ a c, x = .slice (some a) 0 c := by
  simp only [emb] at h
  split at h
  · cases h; exact ⟨_, _, rfl⟩
  · cases h
theorem emb_slice_mk {r off len sz : Nat} {cap : Option Nat} {p : Addr × Nat} (hp : m r = some p) : emb m (.slice r off len cap sz) = some (.slice (some (p.1.add off)) len (capR cap ((p.2 - off) / sz))) := by
  simp [emb, hp]
theorem emb_ptr_mk {r off : Nat} {p : Addr × Nat} (hp : m r = some p) : emb m (.ptr r off) = some (.pointer (some (p.1.add off))) := by simp [emb, hp]
theorem run_sliceOp {t e : TypeId} {s : Nat} (hu : P.underlying t = some (.slice e)) (hs : cSize P e = some s) {ba : Option Addr} {len cap l h M : Nat} {lo hi mx : Option Value} (hb : (Instr.sliceBounds true len cap lo hi mx).run P w = .ok (l, h, M) w) :
    (Instr.sliceAt t (.slice ba len cap) lo hi mx).run P w = .ok (.slice (if M = l then ba else ba.map (·.add (l * s))) (h - l) (M - l)) w := by
  simp [Instr.sliceAt, Instr.slice, run_underlying hu, hb, run_sizeOf hs]
theorem sim_sliceS {t e : TypeId} {s : Nat} (hu : P.underlying t = some (.slice e)) (hs : cSize P e = some s) {av u : AVal} {x : Value} {lo hi mx : Option AVal} {lo' hi' mx' : Option Value}
    (ha : emb m av = some x) (h1 : OptE m lo lo') (h2 : OptE m hi hi') (h3 : OptE m mx mx') (h : HRel S m H w) (hx : aSliceS s av lo hi mx H = some (u, H')) :
    ∃ y, (Instr.sliceAt t x lo' hi' mx').run P w = .ok y w ∧ Out S m u H' y w := by
  cases av <;> simp only [aSliceS] at hx <;> try exact (fail_some hx).elim
  · -- nil
    simp only [emb] at ha; cases ha
    cases hb : aBounds 0 (some 0) lo hi mx with
    | none => rw [hb] at hx; exact (fail_some hx).elim
    | some q =>
      obtain ⟨l, hh, mm⟩ := q
      rw [hb] at hx
      obtain ⟨rfl, rfl⟩ := pure_some hx
      obtain ⟨M, hr, hle, hM, _⟩ := sim_bounds (P := P) (w := w) (isSlice := true) (rc := 0) h1 h2 h3 (fun c e => by cases e; rfl) (fun e => by cases e) hb
      refine ⟨.slice none 0 0, ?_, Out.same h (by simp [emb])⟩
      rw [run_sliceOp hu hs hr]
      -- all bounds are 0
      have hz : M = 0 ∧ hh = 0 := by
        have hbnd : ∀ (y : Nat) v n, aBound y v = some n → n ≤ y := by
          intro y v n hv
          cases v <;> simp only [aBound] at hv <;> try (cases hv; done)
          split at hv <;> cases hv; omega
        unfold aBounds at hb
        cases mx with
        | none =>
          simp only [] at hb
          cases hH : aHigh 0 (capD 0 (some 0)) hi with
          | none => rw [hH] at hb; cases hb
          | some h' =>
            rw [hH] at hb; simp only [] at hb
            cases hL : aLow h' lo with
            | none => rw [hL] at hb; cases hb
            | some l' =>
              rw [hL] at hb; cases hb
              refine ⟨hM 0 rfl, ?_⟩
              cases hi with
              | none => simp [aHigh] at hH; exact hH.symm
              | some v => exact Nat.le_zero.1 (hbnd _ _ _ hH)
        | some mv => cases hi with
          | none => cases hb
          | some hv =>
            simp only [] at hb
            cases hm : aBound (capD 0 (some 0)) mv with
            | none => rw [hm] at hb; cases hb
            | some mm' =>
              rw [hm] at hb; simp only [] at hb
              have := Nat.le_zero.1 (hbnd _ _ _ hm)
              subst this
              cases hH : aBound 0 hv with
              | none => rw [hH] at hb; cases hb
              | some h' =>
                rw [hH] at hb; simp only [] at hb
                have := Nat.le_zero.1 (hbnd _ _ _ hH)
                subst this
                cases hL : aLow 0 lo with
                | none => rw [hL] at hb; cases hb
                | some l' => rw [hL] at hb; cases hb; exact ⟨hM 0 rfl, rfl⟩
      obtain ⟨rfl, rfl⟩ := hz
      have : l = 0 := by omega
      subst this
      simp
  · -- a slice
    rename_i r off len cap sz
    obtain ⟨p, hp, rfl⟩ := emb_slice_some ha
    split at hx
    · exact (fail_some hx).elim
    rename_i hsz
    simp only [ne_eq, Decidable.not_not] at hsz
    subst hsz
    cases hb : aBounds len cap lo hi mx with
    | none => rw [hb] at hx; exact (fail_some hx).elim
    | some q =>
      obtain ⟨l, hh, mm⟩ := q
      rw [hb] at hx
      have emit : ∀ (rc M M' : Nat), M = M' → (Instr.sliceBounds true len rc lo' hi' mx').run P w = .ok (l, hh, M) w →
          ∃ y, (Instr.sliceAt t (.slice (some (p.1.add off)) len rc) lo' hi' mx').run P w = .ok y w ∧ Out S m (if M' = l then .slice r off (hh - l) (some 0) sz else .slice r (off + l * sz) (hh - l) (some (M' - l)) sz) H y w := by
        intro rc M M' e hr
        subst e
        refine ⟨_, run_sliceOp hu hs hr, Out.same h ?_⟩
        split
        · rename_i e; subst e; rw [emb_slice_mk hp]; simp [capR]
        · rename_i e; rw [emb_slice_mk hp]; simp [add_add, capR]
      cases cap with
      | some c =>
        simp only [] at hx
        cases mm with
        | none => exact (fail_some hx).elim
        | some M' =>
          obtain ⟨rfl, rfl⟩ := pure_some hx
          obtain ⟨M, hr, hle, hM, _⟩ := sim_bounds (P := P) (w := w) (isSlice := true) (rc := c) h1 h2 h3 (fun c e => by cases e; rfl) (fun e => by cases e) hb
          exact emit c M M' (hM M' rfl) hr
      | none =>
        simp only [] at hx
        split at hx
        · exact (fail_some hx).elim
        rename_i hs0
        obtain ⟨⟨cs, rw⟩, H1, h4, h5⟩ := bind_some hx
        obtain ⟨rfl, hr, e', hg⟩ := aRow_some h4
        have hok := h.row r cs rw e' p hr hg hp
        split at h5
        · exact (fail_some h5).elim
        rename_i hlen
        have hlc := hok.len
        have hspos : 0 < sz := Nat.pos_of_ne_zero hs0
        have hcap : len ≤ (p.2 - off) / sz := by
          rw [Nat.le_div_iff_mul_le hspos]; simp only at hlen; omega
        obtain ⟨M, hrun, hle, hM1, hM⟩ := sim_bounds (P := P) (w := w) (isSlice := true) (rc := (p.2 - off) / sz) h1 h2 h3 (fun c e => by cases e) (fun _ => hcap) hb
        cases mm with
        | some M' =>
          obtain ⟨rfl, rfl⟩ := pure_some h5
          exact emit _ M M' (hM1 M' rfl) hrun
        | none =>
          obtain ⟨rfl, _, hhl, _⟩ := hM rfl
          have hrun' := run_sliceOp hu hs hrun (ba := some (p.1.add off))
          have hdiv : (p.2 - off) / sz - l = (p.2 - (off + l * sz)) / sz := by
            rw [← Nat.sub_sub, Nat.mul_comm l sz, Nat.sub_mul_div]
          simp only [] at h5
          split at h5
          · rename_i hcond
            obtain ⟨rfl, rfl⟩ := pure_some h5
            refine ⟨_, hrun', Out.same h ?_⟩
            rw [emb_slice_mk hp]
            rcases hcond with hlt | rfl
            · rw [if_neg (by omega)]
              simp [add_add, hdiv, capR]
            · simp [Addr.add_zero', capR]
          · rename_i hcond
            obtain ⟨r', H2, h6, h7⟩ := bind_some h5
            obtain ⟨rfl, rfl⟩ := aNew_some h6
            obtain ⟨rfl, rfl⟩ := pure_some h7
            have hl0 : hh - l = 0 := by omega
            refine ⟨_, hrun', m.add _ ((if (p.2 - off) / sz = l then p.1.add off else (p.1.add off).add (l * sz)), ((p.2 - off) / sz - l) * sz), le_add _ (h.fresh _ (Nat.le_refl _)), ?_, h.emptyRow _⟩
            rw [emb_slice_mk (add_eq), hl0]
            simp only [Addr.add_zero', Nat.sub_zero, Nat.mul_div_cancel _ hspos, capR]
            split <;> simp
theorem sim_sliceE {t e : TypeId} {s : Nat} (hu : P.underlying t = some (.slice e)) (hs : cSize P e = some s) {av u v : AVal} {x : Value} {lo hi mx : Option AVal} {lo' hi' mx' : Option Value}
    (ha : emb m av = some x) (h1 : OptE m lo lo') (h2 : OptE m hi hi') (h3 : OptE m mx mx') (h : HRel S m H w) (hx : aSliceS s av lo hi mx H = some (u, H')) (hn : H'.n ≠ H.n) (hE : aSliceE s av lo hi mx = some v) :
    ∃ y, (Instr.sliceAt t x lo' hi' mx').run P w = .ok y w ∧ Out S m v H y w := by
  cases av <;> (try cases hE; done)
  rename_i r off len cap sz
  cases cap with
  | some c => cases hE
  | none =>
    simp only [aSliceE] at hE
    obtain ⟨p, hp, rfl⟩ := emb_slice_some ha
    simp only [aSliceS] at hx
    split at hx
    · exact (fail_some hx).elim
    rename_i hsz
    simp only [ne_eq, Decidable.not_not] at hsz
    subst hsz
    cases hb : aBounds len none lo hi mx with
    | none => rw [hb] at hE; cases hE
    | some q =>
      obtain ⟨l, hh, mm⟩ := q
      rw [hb] at hx hE
      cases mm with
      | some m' => cases hE
      | none =>
        cases hE
        simp only [] at hx
        split at hx
        · exact (fail_some hx).elim
        rename_i hs0
        obtain ⟨⟨cs, rw⟩, H1, h4, h5⟩ := bind_some hx
        obtain ⟨rfl, hr, e', hg⟩ := aRow_some h4
        have hok := h.row r cs rw e' p hr hg hp
        split at h5
        · exact (fail_some h5).elim
        rename_i hlen
        have hlc := hok.len
        have hspos : 0 < sz := Nat.pos_of_ne_zero hs0
        have hcap : len ≤ (p.2 - off) / sz := by
          rw [Nat.le_div_iff_mul_le hspos]; simp only at hlen; omega
        obtain ⟨M, hrun, hle, hM1, hM⟩ := sim_bounds (P := P) (w := w) (isSlice := true) (rc := (p.2 - off) / sz) h1 h2 h3 (fun c e => by cases e) (fun _ => hcap) hb
        obtain ⟨rfl, _, hhl, _⟩ := hM rfl
        have hrun' := run_sliceOp hu hs hrun (ba := some (p.1.add off))
        split at h5
        · obtain ⟨rfl, rfl⟩ := pure_some h5
          exact absurd rfl hn
        · rename_i hcond
          have hl0 : hh - l = 0 := by omega
          refine ⟨_, hrun', Out.same h ?_⟩
          simp only [emb, hp, hl0]
          split <;> simp [add_add]
theorem sim_sliceStr {t : TypeId} (hu : P.underlying t = some .string) {av u : AVal} {x : Value} {lo hi : Option AVal} {lo' hi' : Option Value}
    (ha : emb m av = some x) (h1 : OptE m lo lo') (h2 : OptE m hi hi') (hx : aSliceStr av lo hi = some u) :
    ∃ y, (Instr.sliceAt t x lo' hi' none).run P w = .ok y w ∧ emb m u = some y := by
  cases av <;> simp only [aSliceStr] at hx <;> try (cases hx; done)
  rename_i s
  simp only [emb] at ha; cases ha
  cases hb : aBounds s.size (some s.size) lo hi none with
  | none => rw [hb] at hx; cases hx
  | some q =>
    obtain ⟨l, hh, mm⟩ := q
    rw [hb] at hx; cases hx
    obtain ⟨M, hr, _⟩ := sim_bounds (P := P) (w := w) (isSlice := false) (rc := s.size) (mx := none) (mx' := none) h1 h2 trivial (fun c e => by cases e; rfl) (fun e => by cases e) hb
    refine ⟨.string (s.extract l hh), ?_, by simp [emb]⟩
    simp [Instr.sliceAt, Instr.slice, run_underlying hu, hr]
theorem sim_sliceArr {t e : TypeId} {n s : Nat} (hu : P.underlying t = some (.array n e)) (hs : cSize P e = some s) {av u : AVal} {x : Value} {lo hi mx : Option AVal} {lo' hi' mx' : Option Value}
    (ha : emb m av = some x) (h1 : OptE m lo lo') (h2 : OptE m hi hi') (h3 : OptE m mx mx') (hx : aSliceArr n s av lo hi mx = some u) :
    ∃ y, (Instr.sliceAt t x lo' hi' mx').run P w = .ok y w ∧ emb m u = some y := by
  cases av <;> simp only [aSliceArr] at hx <;> try (cases hx; done)
  rename_i r off
  obtain ⟨p, hp, rfl⟩ := emb_ptr_some ha
  cases hb : aBounds n (some n) lo hi mx with
  | none => rw [hb] at hx; cases hx
  | some q =>
    obtain ⟨l, hh, mm⟩ := q
    rw [hb] at hx
    cases mm with
    | none => cases hx
    | some M' =>
      obtain ⟨M, hr, _, hM, _⟩ := sim_bounds (P := P) (w := w) (isSlice := false) (rc := n) h1 h2 h3 (fun c e => by cases e; rfl) (fun e => by cases e) hb
      obtain rfl := hM M' rfl
      simp only [] at hx
      refine ⟨.slice (some (if M = l then p.1.add off else (p.1.add off).add (l * s))) (hh - l) (M - l), ?_, ?_⟩
      · simp [Instr.sliceAt, run_underlying hu, Instr.sureAddr, hr, run_sizeOf hs]
      · split at hx
        · rename_i e; subst e; cases hx; rw [emb_slice_mk hp]; simp [capR]
        · rename_i e; cases hx; rw [emb_slice_mk hp]; simp [capR, e, add_add]
theorem sim_idxS {t e : TypeId} {s : Nat} (hu : P.underlying t = some (.slice e)) (hs : cSize P e = some s) {av iv u : AVal} {x i : Value} (ha : emb m av = some x) (hi : emb m iv = some i) (hx : aIdxS s av iv = some u) :
    ∃ y, (Instr.indexAt t x i).run P w = .ok y w ∧ emb m u = some y := by
  cases av <;> simp only [aIdxS] at hx <;> try (cases hx; done)
  cases iv <;> simp only [] at hx <;> try (cases hx; done)
  obtain ⟨p, hp, rfl⟩ := emb_slice_some ha
  simp only [emb] at hi; cases hi
  split at hx
  · rename_i hc; obtain ⟨rfl, h0, h1⟩ := hc
    cases hx
    refine ⟨_, ?_, emb_ptr_mk hp⟩
    simp only [Instr.indexAt, asIntOf, Sem.run_bind, Sem.run_pure, Result.andThen_ok, run_underlying hu]
    rw [if_pos ⟨h0, h1⟩]
    simp [run_sizeOf hs, add_add]
  · cases hx
theorem sim_idxA {t e : TypeId} {n s : Nat} (hu : P.underlying t = some (.array n e)) (hs : cSize P e = some s) {av iv u : AVal} {x i : Value} (ha : emb m av = some x) (hi : emb m iv = some i) (hx : aIdxA n s av iv = some u) :
    ∃ y, (Instr.indexAt t x i).run P w = .ok y w ∧ emb m u = some y := by
  cases av <;> simp only [aIdxA] at hx <;> try (cases hx; done)
  cases iv <;> simp only [] at hx <;> try (cases hx; done)
  obtain ⟨p, hp, rfl⟩ := emb_ptr_some ha
  simp only [emb] at hi; cases hi
  split at hx
  · rename_i hc; obtain ⟨h0, h1⟩ := hc
    cases hx
    refine ⟨_, ?_, emb_ptr_mk hp⟩
    simp only [Instr.indexAt, asIntOf, Sem.run_bind, Sem.run_pure, Result.andThen_ok, run_underlying hu, Instr.sureAddr]
    rw [if_pos ⟨h0, h1⟩]
    simp [run_sizeOf hs, add_add]
  · cases hx
theorem emb_agg_some {cs : List AVal} {x : Value} (h : emb m (.agg cs) = some x) : ∃ l, embL m cs = some l ∧ x = .agg l.toArray := by
  simp only [emb] at h
  split at h
  · rename_i l hl; cases h; exact ⟨l, hl, rfl⟩
  · cases h
theorem sim_part {t : TypeId} {g : Option Nat} (hg : cAgg P t = some g) {cs : List AVal} {l : List Value} (hl : embL m cs = some l) {off : Nat} {u : AVal} (hx : aField g off (.agg cs) = some u) :
    ∃ y, (part t l.toArray off).run P w = .ok y w ∧ emb m u = some y := by
  simp only [aField] at hx
  cases g with
  | some n =>
    simp only [] at hx; cases hx
    refine ⟨.agg ((l.drop off).take n).toArray, ?_, by simp [emb, embL_take (embL_drop hl off) n]⟩
    simp only [part, Sem.run_bind, (cAgg_some hg w).1, Result.andThen_ok, if_true, (cAgg_some hg w).2, Sem.run_pure]
    congr 2
    simp
  | none =>
    simp only [] at hx
    obtain ⟨y, hy, hy2⟩ := embL_get hl hx
    refine ⟨y, ?_, hy⟩
    simp only [part, Sem.run_bind, (cAgg_none hg w).1, Result.andThen_ok]
    simp [hy2]
theorem sim_indexA {t e : TypeId} {n s : Nat} {g : Option Nat} (hu : P.underlying t = some (.array n e)) (hs : cSize P e = some s) (hg : cAgg P e = some g) {av iv u : AVal} {x i : Value} (ha : emb m av = some x) (hi : emb m iv = some i) (hx : aIndexA n s g.isSome av iv = some u) :
    ∃ y, (Instr.index t x i).run P w = .ok y w ∧ emb m u = some y := by
  cases av <;> simp only [aIndexA] at hx <;> try (cases hx; done)
  cases iv <;> simp only [] at hx <;> try (cases hx; done)
  rename_i cs k i
  obtain ⟨l, hl, rfl⟩ := emb_agg_some ha
  simp only [emb] at hi; cases hi
  split at hx
  · rename_i hc
    have hgs : aField g (i.toNat * s) (.agg cs) = some u := by
      simp only [aField]
      cases g with
      | none => simpa using hx
      | some n =>
        have h1 := cAgg_size hg w
        have h2 := run_sizeOf hs w
        rw [h1] at h2
        have : n = s := by injection h2
        subst this
        simpa using hx
    obtain ⟨y, hy, hy2⟩ := sim_part (P := P) (w := w) hg hl hgs
    refine ⟨y, ?_, hy2⟩
    simp only [Instr.index, asIntOf, Sem.run_bind, Sem.run_pure, Result.andThen_ok, run_underlying hu]
    rw [if_pos hc]
    simp [run_sizeOf hs, hy]
  · cases hx
theorem sim_indexStr {t : TypeId} (hu : P.underlying t = some .string) {av iv u : AVal} {x i : Value} (ha : emb m av = some x) (hi : emb m iv = some i) (hx : aIndexStr av iv = some u) :
    ∃ y, (Instr.index t x i).run P w = .ok y w ∧ emb m u = some y := by
  cases av <;> simp only [aIndexStr] at hx <;> try (cases hx; done)
  cases iv <;> simp only [] at hx <;> try (cases hx; done)
  rename_i s k i
  simp only [emb] at ha hi; cases ha; cases hi
  split at hx
  · rename_i h0
    cases hb : s[i.toNat]? with
    | none => rw [hb] at hx; cases hx
    | some b =>
      rw [hb] at hx; cases hx
      refine ⟨_, ?_, emb_int_mk _ _⟩
      simp only [Instr.index, asIntOf, Sem.run_bind, Sem.run_pure, Result.andThen_ok, run_underlying hu, h0, if_true, hb]
  · cases hx
theorem sim_field {t : TypeId} {fs : Array Field} {i : Nat} {f : Field} {g : Option Nat} (hu : P.underlying t = some (.struct fs)) (hf : fs[i]? = some f) (hg : cAgg P f.type = some g) {av u : AVal} {x : Value} (ha : emb m av = some x) (hx : aField g f.offset av = some u) :
    ∃ y, (Instr.field t x i).run P w = .ok y w ∧ emb m u = some y := by
  cases av <;> try (simp only [aField] at hx; cases hx; done)
  obtain ⟨l, hl, rfl⟩ := emb_agg_some ha
  obtain ⟨y, hy, hy2⟩ := sim_part (P := P) (w := w) hg hl hx
  refine ⟨y, ?_, hy2⟩
  simp [Instr.field, run_underlying hu, hf, asAgg, hy]
theorem sim_fieldAddr {t : TypeId} {fs : Array Field} {i n : Nat} {f : Field} (hu : P.underlying t = some (.struct fs)) (hf : fs[i]? = some f) (hn : cSize P f.type = some n) (hn0 : n ≠ 0) {av u : AVal} {x : Value} (ha : emb m av = some x) (hx : aFieldAddr f.offset av = some u) :
    ∃ y, (Instr.fieldAt t x i).run P w = .ok y w ∧ emb m u = some y := by
  cases av <;> simp only [aFieldAddr] at hx <;> try (cases hx; done)
  obtain ⟨p, hp, rfl⟩ := emb_ptr_some ha
  cases hx
  refine ⟨_, ?_, emb_ptr_mk hp⟩
  simp [Instr.fieldAt, run_underlying hu, hf, Instr.sureAddr, fieldPlace, run_sizeOf hn, hn0, add_add]
theorem sim_extract {i : Nat} {av u : AVal} {x : Value} (ha : emb m av = some x) (hx : aExtract i av = some u) :
    ∃ y, (Instr.extract x i).run P w = .ok y w ∧ emb m u = some y := by
  cases av <;> simp only [aExtract] at hx <;> try (cases hx; done)
  simp only [emb] at ha
  split at ha
  · rename_i l hl; cases ha
    obtain ⟨y, hy, hy2⟩ := embL_get hl hx
    exact ⟨y, by simp [Instr.extract, hy2], hy⟩
  · cases ha
theorem sim_lenS {t ty e : TypeId} (hu : P.underlying t = some (.slice e)) {av u : AVal} {x : Value} (ha : emb m av = some x) (hx : aLenS av = some u) :
    ∃ y, (Builtin.len_ #[t] ty #[x]).run P w = .ok y w ∧ emb m u = some y := by
  cases av <;> simp only [aLenS] at hx <;> try (cases hx; done)
  · cases hx; simp only [emb] at ha; cases ha
    exact ⟨_, by simp [Builtin.len_, run_underlying hu]; rfl, by simp [emb, goInt]⟩
  · cases hx
    obtain ⟨p, hp, rfl⟩ := emb_slice_some ha
    exact ⟨_, by simp [Builtin.len_, run_underlying hu]; rfl, by simp [emb, goInt]⟩
theorem sim_capS {ats : Array TypeId} {vals : Array Value} {t ty e : TypeId} {av u : AVal} {x : Value} (ht : ats[0]? = some t) (hv : vals[0]? = some x) (hu : P.underlying t = some (.slice e)) (ha : emb m av = some x) (hx : aCapS av = some u) :
    ∃ y, (Builtin.cap_ ats ty vals).run P w = .ok y w ∧ emb m u = some y := by
  cases av with
  | nslice =>
    cases hx; simp only [emb] at ha; cases ha
    exact ⟨_, by simp [Builtin.cap_, ht, hv, run_underlying hu]; rfl, by simp [emb, goInt]⟩
  | slice r off len cap sz =>
    cases cap with
    | none => cases hx
    | some c =>
      cases hx
      obtain ⟨p, hp, rfl⟩ := emb_slice_some ha
      exact ⟨_, by simp [Builtin.cap_, ht, hv, run_underlying hu]; rfl, by simp [emb, goInt, capR]⟩
  | _ => cases hx
theorem sim_lenStr {t ty : TypeId} (hu : P.underlying t = some .string) {av u : AVal} {x : Value} (ha : emb m av = some x) (hx : aLenStr av = some u) :
    ∃ y, (Builtin.len_ #[t] ty #[x]).run P w = .ok y w ∧ emb m u = some y := by
  cases av <;> simp only [aLenStr] at hx <;> try (cases hx; done)
  cases hx; simp only [emb] at ha; cases ha
  exact ⟨_, by simp [Builtin.len_, run_underlying hu]; rfl, by simp [emb, goInt]⟩
end
end Go.Am

namespace Go.Am
open Go Go.RowKit
section
variable {P : Program} {S : Base} {m : RMap} {H H' : AHeap} {w : World}
theorem loadRange (h : HRel S m H w) {r off k : Nat} {cs : List AVal} {rw : Bool} {e : TypeId} {p : Addr × Nat} (hr : r < H.n) (hg : H.get r = .row cs rw e) (hp : m r = some p) (hk : off + k ≤ cs.length) :
    ∃ l, embL m ((cs.drop off).take k) = some l ∧ (loadCells (p.1.add off) k).run P w = .ok l.toArray w := by
  have hok := h.row r cs rw e p hr hg hp
  have hlen : ((cs.drop off).take k).length = k := by simp; omega
  have hex : ∃ l, embL m ((cs.drop off).take k) = some l ∧ l.length = k ∧ ∀ j v, l[j]? = some v → w.cell? ((p.1.add off).add j) = some v := by
    refine ⟨(List.range k).map fun j => ((w.cell? ((p.1.add off).add j)).getD undef), ?_, by simp, ?_⟩
    · refine embL_of_get (by simp; omega) fun i v hi => ?_
      have hin : i < k := by have := (List.getElem?_eq_some_iff.1 hi).1; omega
      have hcs : cs[off + i]? = some v := by
        rw [List.getElem?_take_of_lt hin, List.getElem?_drop] at hi; exact hi
      obtain ⟨y, hy, hcell⟩ := hok.cell _ _ hcs
      exact ⟨y, hy, by simp [hin, add_add, hcell]⟩
    · intro j v hj
      have hjn : j < k := by have := (List.getElem?_eq_some_iff.1 hj).1; simpa using this
      obtain ⟨u, hu⟩ : ∃ u, cs[off + j]? = some u := ⟨cs[off + j], List.getElem?_eq_getElem (by omega)⟩
      obtain ⟨y, hy, hcell⟩ := hok.cell _ _ hu
      simp [hjn, add_add, hcell] at hj
      subst hj
      rw [add_add]; exact hcell
  obtain ⟨l, hl, hln, hcl⟩ := hex
  have hrun := run_loadCells_list (P := P) w (p.1.add off) l hcl
  rw [hln] at hrun
  exact ⟨l, hl, hrun⟩
theorem emb_map_bytes (l : List UInt8) : embL m (l.map fun b => AVal.int .u8 b.toNat) = some (l.map fun b => Value.int .u8 b.toNat) := by
  induction l with
  | nil => simp [embL]
  | cons a l ih => exact embL_mk (emb_int_mk _ _) ih
theorem sim_first {sz n : Nat} {xv : AVal} {x : Value} {new : List AVal} (ha : emb m xv = some x) (hx : aFirst sz n xv H = some (new, H')) :
    H' = H ∧ ∀ w, HRel S m H w → ∃ arr : Array Value, (Builtin.firstCells sz n x).run P w = .ok arr w ∧ embL m new = some arr.toList := by
  cases xv <;> simp only [aFirst] at hx <;> try exact (fail_some hx).elim
  · rename_i s
    obtain ⟨rfl, rfl⟩ := pure_some hx
    simp only [emb] at ha; cases ha
    refine ⟨rfl, fun w _ => ⟨_, rfl, ?_⟩⟩
    rw [Array.toList_map]
    exact emb_map_bytes _
  · obtain ⟨rfl, rfl⟩ := pure_some hx
    simp only [emb] at ha; cases ha
    exact ⟨rfl, fun w _ => ⟨#[], rfl, by simp [embL]⟩⟩
  · obtain ⟨p, hp, rfl⟩ := emb_slice_some ha
    split at hx
    · exact (fail_some hx).elim
    rename_i hs
    simp only [ne_eq, Decidable.not_not] at hs; subst hs
    obtain ⟨⟨cs, rw⟩, H1, h1, h2⟩ := bind_some hx
    obtain ⟨rfl, hr, e, hg⟩ := aRow_some h1
    split at h2
    · rename_i hle
      obtain ⟨rfl, rfl⟩ := pure_some h2
      refine ⟨rfl, fun w h => ?_⟩
      obtain ⟨l, hl, hrun⟩ := loadRange (P := P) h hr hg hp hle
      exact ⟨l.toArray, hrun, by simpa using hl⟩
    · exact (fail_some h2).elim
theorem sim_lenOf {av : AVal} {x : Value} {n : Nat} (ha : emb m av = some x) (hx : aLenOf av = some n) : (Builtin.lenOf x).run P w = .ok n w := by
  cases av <;> simp only [aLenOf] at hx <;> try (cases hx; done)
  · simp only [emb] at ha; cases ha; cases hx; rfl
  · simp only [emb] at ha; cases ha; cases hx; rfl
  · obtain ⟨p, hp, rfl⟩ := emb_slice_some ha; cases hx; rfl
  · obtain ⟨a, c, rfl⟩ := emb_eslice_some ha; cases hx; rfl
theorem growBy_le (newLen : Nat) : ∀ (rounds c : Nat), 256 ≤ c → c ≤ 2 * newLen → Builtin.growBy newLen rounds c ≤ 2 * newLen
  | 0, c, _, h => by simpa [Builtin.growBy] using h
  | r + 1, c, h1, h2 => by
    simp only [Builtin.growBy]
    split
    · exact h2
    · exact growBy_le newLen r _ (by omega) (by omega)
theorem nextslicecap_le {newLen oldCap : Nat} (h : oldCap < newLen) : Builtin.nextslicecap newLen oldCap ≤ 2 * newLen := by
  unfold Builtin.nextslicecap
  split
  · omega
  · split
    · omega
    · exact growBy_le _ _ _ (by omega) (by omega)
theorem run_chooseCap {need old : Nat} {e : TypeId} (w : World) : ∃ c, need ≤ c ∧ (choose (.appendCap need old e)).run P w = .ok c w.drew := by
  refine ⟨_, ?_, by rw [run_choose]; simp [Question.forced]; exact rfl⟩
  simp [Question.cut]
theorem zeroCells_length (z : Array Value) (n : Nat) : (Builtin.zeroCells z n).size = n * z.size := by simp [Builtin.zeroCells]
theorem run_append_grow {t t' ty e : TypeId} {sz bytes n sLen sCap : Nat} {z : List AVal} {d' : TypeDesc} (hu : P.underlying t = some (.slice e)) (hu' : P.underlying t' = some d') (hnt : ∀ k, d' ≠ .int k) (hs : cSize P e = some sz) (hb : cBytes P e = some bytes) (hz : cZero P e = some z) (hzl : z.length = sz)
    (_hsz : 0 < sz) (hbytes : 0 < bytes) {base : Option Addr} {x : Value} (hn : ∀ w, (Builtin.lenOf x).run P w = .ok n w) (hgrow : sCap < sLen + n) (hroom : 2 * (sLen + n) * bytes ≤ 2 ^ 48)
    {old new : Array Value} (hold : (Builtin.firstCells sz sLen (.slice base sLen sCap)).run P w.drew = .ok old w.drew) (hnew : (Builtin.firstCells sz n x).run P w.drew = .ok new w.drew) :
    ∃ (newCap : Nat) (rest : List Value), sLen + n ≤ newCap ∧ rest.length = (newCap - (sLen + n)) * sz ∧
      (Builtin.append_ #[t, t'] ty #[.slice base sLen sCap, x]).run P w = .ok (.slice (some ⟨w.heap.size, 0, none⟩) (sLen + n) newCap) (w.drew.alloc (.cells (old ++ new ++ rest.toArray) e)) := by
  obtain ⟨c, hc, hrun⟩ := run_chooseCap (P := P) (need := sLen + n) (old := sCap) (e := e) w
  obtain ⟨v, hv, hz'⟩ := cZero_some hz w.drew
  have hvs : v.cells.size = sz := by have := embL_length (hz' fun _ => none); simp at this; omega
  refine ⟨c, (Builtin.zeroCells v.cells (c - (sLen + n))).toList, hc, by simp [zeroCells_length, hvs], ?_⟩
  have hti : ∃ i, P.info? e = some i ∧ i.bytes = bytes := by
    unfold cBytes at hb
    cases hi : P.info? e with
    | none => rw [hi] at hb; cases hb
    | some i => rw [hi] at hb; exact ⟨i, rfl, by simpa using hb⟩
  obtain ⟨i, hi, hib⟩ := hti
  have hrti : ∀ w, (typeInfo e).run P w = .ok i w := fun w => by simp [typeInfo, hi]
  have hnc : Builtin.nextslicecap (sLen + n) sCap * bytes ≤ 2 ^ 48 := by
    have := nextslicecap_le hgrow
    exact Nat.le_trans (Nat.mul_le_mul_right _ this) hroom
  have hlhs : (Builtin.append_ #[t, t'] ty #[.slice base sLen sCap, x]).run P w = .ok (.slice (some ⟨w.heap.size, 0, none⟩) (sLen + n) c) (w.drew.alloc (.cells (old ++ new ++ (Builtin.zeroCells v.cells (c - (sLen + n)))) e)) := by
    unfold Builtin.append_
    simp only [List.getElem?_toArray, List.getElem?_cons_zero, List.getElem?_cons_succ, Sem.run_bind, run_underlying hu, Result.andThen_ok, run_sizeOf hs, run_underlying hu', Sem.run_pure]
    simp only [Bool.false_eq_true, if_false, Sem.run_bind, hn, Result.andThen_ok]
    rw [if_neg (by omega)]
    simp only [Sem.run_bind, hrti, Result.andThen_ok, hib]
    rw [if_neg (by intro hh; have := hh.2; simp at this; omega)]
    simp only [Sem.run_bind, hrti, Result.andThen_ok, hib]
    rw [if_neg (by omega)]
    simp only [Sem.run_bind, hrun, hrti, Result.andThen_ok, run_askRoom, hold, hnew, Bool.not_false, if_true, hv]
    simp [newRow]
    rfl
  simpa using hlhs
theorem run_append_fits {t t' ty e : TypeId} {sz n sLen sCap : Nat} {d' : TypeDesc} (hu : P.underlying t = some (.slice e)) (hu' : P.underlying t' = some d') (hnt : ∀ k, d' ≠ .int k) (hs : cSize P e = some sz)
    {base : Option Addr} {x : Value} (hn : ∀ w, (Builtin.lenOf x).run P w = .ok n w) (hfit : sLen + n ≤ sCap) {new : Array Value} (hnew : (Builtin.firstCells sz n x).run P w = .ok new w) {w' : World}
    (hst : (match base with | some a => (storeCells (a.add (sLen * sz)) new.toList).run P w = .ok () w' | none => w' = w)) :
    (Builtin.append_ #[t, t'] ty #[.slice base sLen sCap, x]).run P w = .ok (.slice base (sLen + n) sCap) w' := by
  unfold Builtin.append_
  simp only [List.getElem?_toArray, List.getElem?_cons_zero, List.getElem?_cons_succ, Sem.run_bind, run_underlying hu, Result.andThen_ok, run_sizeOf hs, run_underlying hu', Sem.run_pure]
  simp only [Bool.false_eq_true, if_false, Sem.run_bind, hn, Result.andThen_ok]
  rw [if_pos hfit]
  simp only [Sem.run_bind, Bool.not_false, if_true, hnew, Result.andThen_ok]
  cases base with
  | some a => simp only [] at hst; simp [hst]
  | none => simp only [] at hst; subst hst; simp
theorem sim_append {t t' ty e : TypeId} {sz bytes : Nat} {z : List AVal} {d' : TypeDesc} (hu : P.underlying t = some (.slice e)) (hu' : P.underlying t' = some d') (hnt : ∀ k, d' ≠ .int k) (hs : cSize P e = some sz) (hb : cBytes P e = some bytes) (hz : cZero P e = some z) (hzl : z.length = sz)
    {av bv u : AVal} {x y : Value} (ha : emb m av = some x) (hbv : emb m bv = some y) (h : HRel S m H w) (hx : aAppend e sz bytes av bv H = some (u, H')) :
    ∃ v w', (Builtin.append_ #[t, t'] ty #[x, y]).run P w = .ok v w' ∧ Out S m u H' v w' := by
  unfold aAppend at hx
  cases hn : aLenOf bv with
  | none => rw [hn] at hx; exact (fail_some hx).elim
  | some n =>
    rw [hn] at hx
    simp only [] at hx
    obtain ⟨new, H1, h1, h2⟩ := bind_some hx
    obtain ⟨rfl, hfirst⟩ := sim_first (S := S) (P := P) hbv h1
    have hlen : ∀ w, (Builtin.lenOf y).run P w = .ok n w := fun w => sim_lenOf hbv hn
    split at h2
    · exact (fail_some h2).elim
    rename_i hcond
    simp only [Bool.or_eq_true, Bool.not_eq_true', decide_eq_true_eq, not_or, Bool.not_eq_false, ne_eq, Decidable.not_not] at hcond
    obtain ⟨⟨⟨hone, hnl⟩, hsz0⟩, hby0⟩ := hcond
    have hsz : 0 < sz := Nat.pos_of_ne_zero hsz0
    have hbytes : 0 < bytes := Nat.pos_of_ne_zero hby0
    cases av <;> simp only [] at h2 <;> try exact (fail_some h2).elim
    · -- nil
      simp only [emb] at ha; cases ha
      split at h2
      · rename_i hn0; subst hn0
        obtain ⟨rfl, rfl⟩ := pure_some h2
        obtain ⟨arr, hf, he⟩ := hfirst w h
        exact ⟨_, w, run_append_fits hu hu' hnt hs hlen (Nat.le_refl _) hf rfl, Out.same h (by simp [emb])⟩
      · rename_i hn0
        split at h2
        · rename_i hroom
          obtain ⟨r, H2, h3, h4⟩ := bind_some h2
          obtain ⟨rfl, rfl⟩ := aNew_some h3
          obtain ⟨rfl, rfl⟩ := pure_some h4
          obtain ⟨arr, hf, he⟩ := hfirst w.drew h.drew
          obtain ⟨c, rest, hc, hrl, hrun⟩ := run_append_grow (ty := ty) (base := none) (sLen := 0) (sCap := 0) (old := #[]) hu hu' hnt hs hb hz hzl hsz hbytes hlen (by omega) (by simpa using hroom) rfl hf
          have hal := embL_length he
          have hout := out_newSlice h.drew he rest e n sz none c (by
            simp only [capR, List.length_append, hal, hnl, hrl]
            rw [← Nat.add_mul, Nat.mul_div_cancel _ hsz]; omega)
          refine ⟨_, _, hrun, ?_⟩
          have e2 : #[] ++ arr ++ rest.toArray = (arr.toList ++ rest).toArray := by apply Array.ext'; simp
          rw [e2]
          simpa using hout
        · exact (fail_some h2).elim
    · -- a slice
      rename_i r off len cap s'
      obtain ⟨p, hp, rfl⟩ := emb_slice_some ha
      split at h2
      · exact (fail_some h2).elim
      rename_i hs'
      simp only [ne_eq, Decidable.not_not] at hs'; subst hs'
      obtain ⟨⟨cs, rw⟩, H2, h3, h4⟩ := bind_some h2
      obtain ⟨rfl, hr, e', hg⟩ := aRow_some h3
      have hok := h.row r cs rw e' p hr hg hp
      have hlc := hok.len
      simp only [] at h4 hg
      -- growth
      have grow : ∀ (rc : Nat), rc < len + n → off + len * s' ≤ cs.length → 2 * (len + n) * bytes ≤ 2 ^ 48 →
          ∃ w', (∃ v, (Builtin.append_ #[t, t'] ty #[.slice (some (p.1.add off)) len rc, y]).run P w = .ok v w' ∧ Out S m (.slice H2.n 0 (len + n) none s') (H2.push (.row ((cs.drop off).take (len * s') ++ new) true (2 * e))) v w') ∧
            (∀ r0, ∃ v, (Builtin.append_ #[t, t'] ty #[.slice (some (p.1.add off)) len rc, y]).run P w = .ok v w' ∧ Out S m (.slice H2.n 0 (len + n) none s') ((H2.set r0 .dead).push (.row ((cs.drop off).take (len * s') ++ new) true (2 * e + 1))) v w') := by
        intro rc hrc hle hroom
        obtain ⟨arr, hf, he⟩ := hfirst w.drew h.drew
        obtain ⟨l, hl, hload⟩ := loadRange (P := P) h.drew hr hg hp hle
        obtain ⟨c, rest, hc, hrl, hrun⟩ := run_append_grow (ty := ty) (base := some (p.1.add off)) (sLen := len) (sCap := rc) (old := l.toArray) hu hu' hnt hs hb hz hzl hsz hbytes hlen hrc hroom hload hf
        have hall := embL_length hl
        have hal := embL_length he
        have hl2 : ((cs.drop off).take (len * s')).length = len * s' := by simp; omega
        have hcap : capR none ((l ++ arr.toList ++ rest).length / s') = c := by
          simp only [capR, List.length_append, hall, hl2, hal, hnl, hrl]
          rw [← Nat.add_mul, ← Nat.add_mul, Nat.mul_div_cancel _ hsz]; omega
        refine ⟨_, ⟨_, hrun, ?_⟩, fun r0 => ⟨_, hrun, ?_⟩⟩
        · have hout := out_newSlice h.drew (embL_append hl he) rest e (len + n) s' none c hcap
          rw [show l.toArray ++ arr ++ rest.toArray = (l ++ arr.toList ++ rest).toArray from by apply Array.ext'; simp]
          exact hout
        · obtain ⟨m2, ho1, ho2, ho3⟩ := out_newSlice (h.drew.kill r0) (embL_append hl he) rest e (len + n) s' none c hcap
          rw [show l.toArray ++ arr ++ rest.toArray = (l ++ arr.toList ++ rest).toArray from by apply Array.ext'; simp]
          exact ⟨m2, ho1, ho2, ho3.retag⟩
      split at h4
      · -- nothing
        rename_i hn0; subst hn0
        obtain ⟨arr, hf, he⟩ := hfirst w h
        have hnil : new = [] := List.eq_nil_of_length_eq_zero (by omega)
        subst hnil
        have harr : arr.toList = [] := by simp [embL] at he; exact he.symm ▸ rfl
        have hst : (storeCells ((p.1.add off).add (len * s')) arr.toList).run P w = .ok () w := by rw [harr]; simp [storeCells]
        cases cap with
        | some c =>
          simp only [] at h4
          split at h4
          · rename_i hle
            obtain ⟨rfl, rfl⟩ := pure_some h4
            exact ⟨_, w, run_append_fits hu hu' hnt hs hlen (by simpa [capR] using hle) hf hst, Out.same h (by rw [emb_slice_mk hp]; simp)⟩
          · exact (fail_some h4).elim
        | none =>
          simp only [] at h4
          split at h4
          · rename_i hle
            obtain ⟨rfl, rfl⟩ := pure_some h4
            have : len ≤ (p.2 - off) / s' := by rw [Nat.le_div_iff_mul_le hsz]; omega
            exact ⟨_, w, run_append_fits hu hu' hnt hs hlen (by simpa [capR] using this) hf hst, Out.same h (by rw [emb_slice_mk hp]; simp)⟩
          · exact (fail_some h4).elim
      · rename_i hn0
        cases cap with
        | some c =>
          simp only [] at h4
          split at h4
          · rename_i hfit
            obtain ⟨q, H3, h5, h6⟩ := bind_some h4
            obtain ⟨rfl, rfl⟩ := pure_some h6
            obtain ⟨arr, hf, he⟩ := hfirst w h
            obtain ⟨w', hst, hrel⟩ := sim_write (P := P) (a := (p.1.add off).add (len * s')) h h5 hp he (by rw [add_add])
            exact ⟨_, w', run_append_fits hu hu' hnt hs hlen (by simpa [capR] using hfit) hf hst, m, Le.refl _, by rw [emb_slice_mk hp], hrel⟩
          · rename_i hfit
            split at h4
            · rename_i hroom
              obtain ⟨r', H3, h5, h6⟩ := bind_some h4
              obtain ⟨rfl, rfl⟩ := aNew_some h5
              obtain ⟨rfl, rfl⟩ := pure_some h6
              obtain ⟨w', ⟨v, hv⟩, _⟩ := grow c (by omega) hroom.1 hroom.2
              exact ⟨v, w', hv⟩
            · exact (fail_some h4).elim
        | none =>
          simp only [] at h4
          split at h4
          · rename_i hfit
            obtain ⟨q, H3, h5, h6⟩ := bind_some h4
            obtain ⟨rfl, rfl⟩ := pure_some h6
            obtain ⟨arr, hf, he⟩ := hfirst w h
            obtain ⟨w', hst, hrel⟩ := sim_write (P := P) (a := (p.1.add off).add (len * s')) h h5 hp he (by rw [add_add])
            have : len + n ≤ (p.2 - off) / s' := by rw [Nat.le_div_iff_mul_le hsz]; omega
            exact ⟨_, w', run_append_fits hu hu' hnt hs hlen (by simpa [capR] using this) hf hst, m, Le.refl _, by rw [emb_slice_mk hp], hrel⟩
          · rename_i hfit
            by_cases hcond : (rw && decide (off + len * s' ≤ cs.length) && decide (2 * (len + n) * bytes ≤ 2 ^ 48)) = true
            · rw [if_pos hcond] at h4
              simp only [Bool.and_eq_true, decide_eq_true_eq] at hcond
              obtain ⟨⟨rfl, hle⟩, hroom⟩ := hcond
              obtain ⟨r', H3, h5, h6⟩ := bind_some h4
              obtain ⟨rfl, rfl⟩ := pure_some h6
              unfold aMove at h5
              rw [hg] at h5
              simp only [] at h5
              cases hbe : Nat.beq (e' / 2) e with
              | false => rw [hbe] at h5; cases h5
              | true =>
              rw [hbe] at h5
              have := Nat.eq_of_beq_eq_true hbe
              subst this
              cases h5
              by_cases hreal : len + n ≤ (p.2 - off) / s'
              · -- in place, beyond what the row was
                obtain ⟨arr, hf, he⟩ := hfirst w h
                have hmv := h.move hr hg hp hle
                have hcells : (len + n) * s' ≤ p.2 - off := by rwa [Nat.le_div_iff_mul_le hsz] at hreal
                have hl2 : ((cs.drop off).take (len * s')).length = len * s' := by simp; omega
                obtain ⟨w', hst, hrel⟩ := run_extCells (P := P) new arr.toList _ w H2.n ((cs.drop off).take (len * s')) (2 * (e' / 2) + 1) (p.1.add off, p.2 - off) ((p.1.add off).add (len * s')) 0 hmv (by simp [AHeap.push, AHeap.set]) (by exact push_get_eq) add_eq
                  (by rw [hl2, hnl, ← Nat.add_mul]; exact hcells) (embL_mono (le_add _ (h.fresh _ (Nat.le_refl _))) _ _ he) hone (fun j => by simp only [add_add, hl2]; congr 1; omega)
                refine ⟨_, w', run_append_fits hu hu' hnt hs hlen (by simpa [capR] using hreal) hf hst, m.add H2.n (p.1.add off, p.2 - off), le_add _ (h.fresh _ (Nat.le_refl _)), ?_, ?_⟩
                · rw [emb_slice_mk add_eq]
                  simp [capR, Addr.add_zero']
                · have e3 : ((H2.set r .dead).push (.row ((cs.drop off).take (len * s')) true (2 * (e' / 2) + 1))).set H2.n (.row ((cs.drop off).take (len * s') ++ new) true (2 * (e' / 2) + 1)) = (H2.set r .dead).push (.row ((cs.drop off).take (len * s') ++ new) true (2 * (e' / 2) + 1)) := by
                    simp only [AHeap.push, AHeap.set, AHeap.mk.injEq, true_and]
                    funext i
                    cases Nat.beq i H2.n <;> rfl
                  rw [e3] at hrel; exact hrel
              · obtain ⟨w', _, hh⟩ := grow ((p.2 - off) / s') (by omega) hle hroom
                obtain ⟨v, hv1, hv2⟩ := hh r
                exact ⟨v, w', by simpa [capR] using hv1, hv2⟩
            · rw [if_neg hcond] at h4; exact (fail_some h4).elim
end
end Go.Am

namespace Go.Am
open Go Go.RowKit
section
variable {P : Program} {S : Base} {m : RMap} {H H' : AHeap} {w : World}
theorem emb_slice_nil {x : Value} (h : emb m .nslice = some x) : x = .slice none 0 0 := by simp only [emb] at h; cases h; rfl
theorem run_typeInfo {e : TypeId} {b : Nat} (hb : cBytes P e = some b) : ∃ i, (∀ w, (typeInfo e).run P w = .ok i w) ∧ i.bytes = b := by
  unfold cBytes at hb
  cases hi : P.info? e with
  | none => rw [hi] at hb; cases hb
  | some i => rw [hi] at hb; exact ⟨i, fun w => by simp [typeInfo, hi], by simpa using hb⟩
theorem sim_makeSlice {t e : TypeId} {s b : Nat} {z : List AVal} (hu : P.underlying t = some (.slice e)) (hs : cSize P e = some s) (hz : cZero P e = some z) (hb : cBytes P e = some b) (hzs : z.length = s) (hs0 : 0 < s)
    {lv cv u : AVal} {x y : Value} (hl : emb m lv = some x) (hc : emb m cv = some y) (h : HRel S m H w) (hx : aMakeSlice e z b lv cv H = some (u, H')) :
    ∃ v w', (Instr.makeSlice t x y).run P w = .ok v w' ∧ Out S m u H' v w' := by
  cases lv <;> cases cv <;> simp only [aMakeSlice] at hx <;> try exact (fail_some hx).elim
  rename_i k1 len k2 cap
  simp only [emb] at hl hc; cases hl; cases hc
  split at hx
  · rename_i hcond
    obtain ⟨h0, h1, h2, h3⟩ := hcond
    obtain ⟨r, H1, h4, h5⟩ := bind_some hx
    obtain ⟨rfl, rfl⟩ := aNew_some h4
    obtain ⟨rfl, rfl⟩ := pure_some h5
    obtain ⟨i, hi, hib⟩ := run_typeInfo hb
    have wl : IntKind.i64.wrap len = len := by rw [IntKind.wrap_i64]; omega
    have wc : IntKind.i64.wrap cap = cap := by rw [IntKind.wrap_i64]; omega
    obtain ⟨v, hv, hz'⟩ := cZero_some hz w
    have hvs : v.cells.size = s := by have := embL_length (hz' m); simp at this; omega
    have hrep := embL_replicate (hz' m) cap.toNat
    rw [← replicate_flatten v.cells cap.toNat (by omega)] at hrep
    have hout := out_newSlice h hrep [] e len.toNat z.length (some cap.toNat) cap.toNat rfl
    simp only [List.append_nil, Array.toArray_toList] at hout
    refine ⟨_, _, ?_, hout⟩
    have hbig : ¬ (b * cap > 2 ^ 48) := by
      have : (b : Int) * cap ≤ 2 ^ 47 := h2
      omega
    simp only [Instr.makeSlice, Sem.run_bind, run_underlying hu, Result.andThen_ok, asInt, asIntOf, Sem.run_pure, hi, hib, wl, wc]
    rw [if_neg (by
      simp only [Bool.or_eq_true, decide_eq_true_eq, not_or]
      refine ⟨⟨⟨by omega, by simpa using hbig⟩, by omega⟩, by omega⟩)]
    simp only [Sem.run_bind, run_askRoom, Result.andThen_ok, run_sizeOf hs]
    by_cases hc0 : cap.toNat * s = 0
    · have : cap.toNat = 0 := by
        rcases Nat.mul_eq_zero.1 hc0 with h | h
        · exact h
        · omega
      rw [if_pos hc0]
      simp only [Sem.run_pure, Result.andThen_ok, newRow, Sem.run_bind, run_newObj, this, Nat.zero_mul]
      have hemp : ∀ (f : Nat → Value), (Array.range 0).map f = #[] := fun f => by simp [Array.range_zero']
      rw [hemp, hemp]
      rfl
    · rw [if_neg hc0]
      simp only [Sem.run_bind, hv, Sem.run_pure, Result.andThen_ok, newRow, run_newObj, hvs]
      rfl
  · exact (fail_some hx).elim
theorem sim_appendZ {t t' ty e : TypeId} {sz bytes : Nat} {z : List AVal} (hu : P.underlying t = some (.slice e)) (hu' : P.underlying t' = some (.int .i64)) (hs : cSize P e = some sz) (hb : cBytes P e = some bytes) (hz : cZero P e = some z)
    {av bv u : AVal} {x y : Value} (ha : emb m av = some x) (hbv : emb m bv = some y) (h : HRel S m H w) (hx : aAppendZ e sz bytes z av bv H = some (u, H')) :
    ∃ v w', (Builtin.append_ #[t, t'] ty #[x, y]).run P w = .ok v w' ∧ Out S m u H' v w' := by
  unfold aAppendZ at hx
  split at hx
  · rename_i l
    simp only [emb] at ha hbv; cases ha; cases hbv
    split at hx
    · rename_i hcond
      obtain ⟨hl0, hroom, hbytes, hsz, hzl⟩ := hcond
      obtain ⟨r, H1, h4, h5⟩ := bind_some hx
      obtain ⟨rfl, rfl⟩ := aNew_some h4
      obtain ⟨rfl, rfl⟩ := pure_some h5
      obtain ⟨n, rfl⟩ : ∃ n : Nat, l = n := ⟨l.toNat, by omega⟩
      simp only [Int.toNat_natCast] at hroom ⊢
      have hn0 : 0 < n := by omega
      have hnb : n * 1 ≤ n * bytes := Nat.mul_le_mul_left _ hbytes
      have hassoc : 2 * n * bytes = 2 * (n * bytes) := Nat.mul_assoc 2 n bytes
      have wl : IntKind.i64.wrap (n : Int) = n := by rw [IntKind.wrap_i64]; omega
      obtain ⟨c, hc, hrun⟩ := run_chooseCap (P := P) (need := 0 + n) (old := 0) (e := e) w
      obtain ⟨v, hv, hz'⟩ := cZero_some hz w.drew
      have hvs : v.cells.size = sz := by have := embL_length (hz' m); simp at this; omega
      obtain ⟨i, hi, hib⟩ := run_typeInfo hb
      have hnc : Builtin.nextslicecap (0 + n) 0 * bytes ≤ 2 ^ 48 := by
        have := nextslicecap_le (newLen := 0 + n) (oldCap := 0) (by omega)
        have h2 := Nat.mul_le_mul_right bytes this
        have h3 : 2 * (0 + n) * bytes = 2 * (n * bytes) := by rw [Nat.zero_add, Nat.mul_assoc]
        omega
      have hrep := embL_replicate (hz' m) n
      rw [← replicate_flatten v.cells n (by omega)] at hrep
      have hlen : ((Array.range (n * v.cells.size)).map (v.cells[· % v.cells.size]!)).toList.length = n * sz := by simp [hvs]
      have hout := out_newSlice h.drew hrep (Builtin.zeroCells v.cells (c - (0 + n))).toList e n sz none c (by
        simp only [capR, List.length_append, hlen]
        rw [Array.length_toList, zeroCells_length, hvs, ← Nat.add_mul, Nat.mul_div_cancel _ hsz]; omega)
      have e2 : ((((Array.range (n * v.cells.size)).map (v.cells[· % v.cells.size]!)).toList) ++ (Builtin.zeroCells v.cells (c - (0 + n))).toList).toArray = ((Array.range (n * v.cells.size)).map (v.cells[· % v.cells.size]!)) ++ (Builtin.zeroCells v.cells (c - (0 + n))) := by apply Array.ext'; simp
      rw [e2] at hout
      refine ⟨_, _, ?_, hout⟩
      unfold Builtin.append_
      simp only [List.getElem?_toArray, List.getElem?_cons_zero, List.getElem?_cons_succ, Sem.run_bind, run_underlying hu, Result.andThen_ok, run_sizeOf hs, run_underlying hu', Sem.run_pure]
      simp only [if_true, Sem.run_bind, asInt, asIntOf, Sem.run_pure, Result.andThen_ok, wl, hi, hib]
      rw [if_neg (by omega)]
      simp only [Sem.run_bind, hi, Result.andThen_ok, hib]
      rw [if_neg (by
        intro hh
        have h3 : ((n * bytes : Nat) : Int) = (n : Int) * (bytes : Int) := Int.natCast_mul n bytes
        omega)]
      simp only [Sem.run_bind, Sem.run_pure, Result.andThen_ok, Int.toNat_natCast]
      rw [if_neg (by omega)]
      simp only [Sem.run_bind, hi, Result.andThen_ok, hib]
      have hmax : IntKind.i64.max = 9223372036854775807 := rfl
      rw [if_neg (by intro hh; have h9 := hh.1; rw [hmax] at h9; omega)]
      simp only [Sem.run_bind, hi, Result.andThen_ok, hib]
      rw [if_neg (by omega)]
      have hns : ¬ n * sz = 0 := by
        intro h0
        rcases Nat.mul_eq_zero.1 h0 with h1 | h1 <;> omega
      simp only [Sem.run_bind, hrun, hi, Result.andThen_ok, run_askRoom, hib, Builtin.firstCells, Sem.run_pure, Bool.not_true, Bool.false_eq_true, if_false, hns, hv]
      simp [newRow, Builtin.zeroCells]
      rfl
    · exact (fail_some hx).elim
  · exact (fail_some hx).elim
theorem sim_copy {t t' ty e : TypeId} {sz : Nat} (hu : P.underlying t = some (.slice e)) (hs : cSize P e = some sz) {dv xv u : AVal} {d x : Value} (hd : emb m dv = some d) (hxv : emb m xv = some x) (h : HRel S m H w) (hx : aCopy sz dv xv H = some (u, H')) :
    ∃ v w', (Builtin.copy_ #[t, t'] ty #[d, x]).run P w = .ok v w' ∧ Out S m u H' v w' := by
  unfold aCopy at hx
  cases ha : aLenOf xv with
  | none => rw [ha] at hx; exact (fail_some hx).elim
  | some a =>
    cases hb : aLenOf dv with
    | none => rw [ha, hb] at hx; exact (fail_some hx).elim
    | some b =>
      rw [ha, hb] at hx
      simp only [] at hx
      obtain ⟨new, H1, h1, h2⟩ := bind_some hx
      obtain ⟨rfl, hfirst⟩ := sim_first (S := S) (P := P) hxv h1
      split at h2
      · exact (fail_some h2).elim
      rename_i hnl
      simp only [decide_eq_true_eq, ne_eq, Decidable.not_not] at hnl
      have hlen : ∀ w, (Builtin.lenOf x).run P w = .ok a w := fun w => sim_lenOf hxv ha
      obtain ⟨arr, hf, he⟩ := hfirst w h
      have core : ∀ (base : Option Addr) (cap : Nat) (w' : World), d = .slice base b cap → (match base with | some a => (storeCells a arr.toList).run P w = .ok () w' | none => w' = w) → (Builtin.copy_ #[t, t'] ty #[d, x]).run P w = .ok (goInt (min a b : Nat)) w' := by
        intro base cap w' hd' hst
        subst hd'
        unfold Builtin.copy_
        simp only [List.getElem?_toArray, List.getElem?_cons_zero, List.getElem?_cons_succ, Sem.run_bind, run_underlying hu, Result.andThen_ok, run_sizeOf hs, hlen]
        have : Nat.min a b = min a b := rfl
        rw [this, hf]
        cases base with
        | some a => simp only [] at hst; simp [hst]
        | none => simp only [] at hst; subst hst; simp
      cases dv <;> simp only [] at h2 <;> try exact (fail_some h2).elim
      · obtain ⟨rfl, rfl⟩ := pure_some h2
        have hd' := emb_slice_nil hd
        simp only [aLenOf] at hb; cases hb
        exact ⟨_, w, core none 0 w hd' rfl, Out.same h (by simp [emb, goInt])⟩
      · rename_i r off len cap s'
        obtain ⟨p, hp, rfl⟩ := emb_slice_some hd
        simp only [aLenOf] at hb; cases hb
        split at h2
        · exact (fail_some h2).elim
        split at h2
        · rename_i hemp
          obtain ⟨rfl, rfl⟩ := pure_some h2
          simp only [List.isEmpty_iff] at hemp
          subst hemp
          have harr : arr.toList = [] := by simp [embL] at he; exact he.symm ▸ rfl
          exact ⟨_, w, core (some (p.1.add off)) _ w rfl (by simp only []; rw [harr]; simp [storeCells]), Out.same h (by simp [emb, goInt])⟩
        · obtain ⟨q, H2, h3, h4⟩ := bind_some h2
          obtain ⟨rfl, rfl⟩ := pure_some h4
          obtain ⟨w', hst, hrel⟩ := sim_write (P := P) (a := p.1.add off) h h3 hp he rfl
          exact ⟨_, w', core (some (p.1.add off)) _ w' rfl hst, m, Le.refl _, by simp [emb, goInt], hrel⟩
      · rename_i r off l s'
        obtain ⟨ad, c, rfl⟩ := emb_eslice_some hd
        simp only [aLenOf] at hb; cases hb
        obtain ⟨rfl, rfl⟩ := pure_some h2
        have hemp : new = [] := List.eq_nil_of_length_eq_zero (by rw [hnl]; simp)
        subst hemp
        have harr : arr.toList = [] := by simp [embL] at he; exact he.symm ▸ rfl
        exact ⟨_, w, core (some ad) c w rfl (by simp only []; rw [harr]; simp [storeCells]), Out.same h (by simp [emb, goInt])⟩
theorem sim_minmax {mx : Bool} : ∀ (rest : List AVal) (ys : List Value) (v u : AVal) (x : Value), embL m rest = some ys → emb m v = some x → aMinMax mx v rest = some u →
    ∃ y, (ys.foldlM (if mx then Builtin.max2 else Builtin.min2) x).run P w = .ok y w ∧ emb m u = some y
  | [], ys, v, u, x, h1, h2, hx => by
    simp [embL] at h1; subst h1
    simp only [aMinMax] at hx; cases hx
    exact ⟨x, by simp, h2⟩
  | r :: rest, ys, v, u, x, h1, h2, hx => by
    obtain ⟨y, ys', hy, hys, rfl⟩ := embL_cons h1
    cases v <;> cases r <;> simp only [aMinMax] at hx <;> try (cases hx; done)
    simp only [emb] at h2 hy; cases h2; cases hy
    obtain ⟨z, hz1, hz2⟩ := sim_minmax rest ys' _ u _ hys (emb_int_mk _ _) hx
    refine ⟨z, ?_, hz2⟩
    cases mx
    · simp only [Bool.false_eq_true, if_false, List.foldlM_cons, Sem.run_bind, Builtin.min2, Sem.run_pure, Result.andThen_ok] at hz1 ⊢
      exact hz1
    · simp only [if_true, List.foldlM_cons, Sem.run_bind, Builtin.max2, Sem.run_pure, Result.andThen_ok] at hz1 ⊢
      exact hz1
theorem sim_conv_int {t d : TypeId} {k : IntKind} {ds : TypeDesc} (hs : P.underlying t = some ds) (hd : P.underlying d = some (.int k)) {k0 : IntKind} {n : Int} :
    (convert t d (.int k0 n)).run P w = .ok (.int k (k.wrap n)) w := by
  simp [convert, run_underlying hs, run_underlying hd, Conv.intToInt]
theorem bytesOf_some : ∀ {vs : List AVal} {l : List UInt8}, bytesOf vs = some l → ∃ ns : List Int, vs = ns.map (AVal.int .u8) ∧ l = ns.map fun n => UInt8.ofNat n.toNat
  | [], l, h => by simp [bytesOf] at h; subst h; exact ⟨[], rfl, rfl⟩
  | v :: vs, l, h => by
    cases v <;> try (simp [bytesOf] at h; done)
    rename_i k n
    cases k <;> try (simp [bytesOf] at h; done)
    simp only [bytesOf] at h
    cases hb : bytesOf vs with
    | none => rw [hb] at h; cases h
    | some l' =>
      rw [hb] at h; cases h
      obtain ⟨ns, rfl, rfl⟩ := bytesOf_some hb
      exact ⟨n :: ns, rfl, rfl⟩
theorem embL_ints {m : RMap} {k : IntKind} : ∀ (ns : List Int), embL m (ns.map (AVal.int k)) = some (ns.map (Value.int k))
  | [] => by simp [embL]
  | n :: ns => embL_mk (emb_int_mk _ _) (embL_ints ns)
theorem sim_bytesToStr {t d e : TypeId} (hs : P.underlying t = some (.slice e)) (hd : P.underlying d = some .string) (he : P.underlying e = some (.int .u8)) {av u : AVal} {x : Value} (ha : emb m av = some x) (h : HRel S m H w) (hx : aBytesToStr av H = some (u, H')) :
    ∃ y, (convert t d x).run P w = .ok y w ∧ Out S m u H' y w := by
  cases av <;> simp only [aBytesToStr] at hx <;> try exact (fail_some hx).elim
  · obtain ⟨rfl, rfl⟩ := pure_some hx
    have := emb_slice_nil ha
    subst this
    exact ⟨.string .empty, run_convert_bytes_nil w t e hs he 0 0 d hd, Out.same h (by simp [emb])⟩
  · rename_i r off len cap s'
    obtain ⟨p, hp, rfl⟩ := emb_slice_some ha
    split at hx
    · exact (fail_some hx).elim
    obtain ⟨⟨cs, rw⟩, H1, h1, h2⟩ := bind_some hx
    obtain ⟨rfl, hr, e', hg⟩ := aRow_some h1
    simp only [] at h2 hg
    split at h2
    · rename_i hle
      cases hb : bytesOf ((cs.drop off).take len) with
      | none => rw [hb] at h2; exact (fail_some h2).elim
      | some l =>
        rw [hb] at h2
        obtain ⟨rfl, rfl⟩ := pure_some h2
        obtain ⟨xs, hxs, hload⟩ := loadRange (P := P) h hr hg hp hle
        obtain ⟨ns, hns, rfl⟩ := bytesOf_some hb
        rw [hns, embL_ints] at hxs
        cases hxs
        refine ⟨.string ⟨(ns.map fun n => UInt8.ofNat n.toNat).toArray⟩, ?_, Out.same h (by simp [emb])⟩
        rw [run_convert_bytes_string w t d e _ _ _ hs he hd, run_bytesToString w _ _ _ ns hload, foldl_push_bytes]
        simp [ByteArray.empty, ByteArray.emptyWithCapacity]
        rfl
    · exact (fail_some h2).elim
theorem sim_strToBytes {t d e : TypeId} (hs : P.underlying t = some .string) (hd : P.underlying d = some (.slice e)) (he : P.underlying e = some (.int .u8)) {av u : AVal} {x : Value} (ha : emb m av = some x) (h : HRel S m H w) (hx : aStrToBytes e av H = some (u, H')) :
    ∃ y w', (convert t d x).run P w = .ok y w' ∧ Out S m u H' y w' := by
  cases av <;> simp only [aStrToBytes] at hx <;> try exact (fail_some hx).elim
  rename_i s
  simp only [emb] at ha; cases ha
  obtain ⟨r, H1, h1, h2⟩ := bind_some hx
  obtain ⟨rfl, rfl⟩ := aNew_some h1
  obtain ⟨rfl, rfl⟩ := pure_some h2
  refine ⟨_, _, run_bytes_of_string w t d e s hs hd he, ?_⟩
  have hcap := grownCap_ge w s.size 0 e
  generalize grownCap w s.size 0 e = c at hcap
  have hrow : bytesRow s c = (s.data.toList.map (fun (b : UInt8) => Value.int .u8 b.toNat) ++ List.replicate (c - s.size) (Value.int .u8 0)).toArray := by
    apply Array.ext'; simp [bytesRow]
  have hsz : (bytesRow s c).size = c := by simp [bytesRow]; omega
  rw [hsz]
  have hl : (s.data.toList.map (fun (b : UInt8) => Value.int .u8 b.toNat) ++ List.replicate (c - s.size) (Value.int .u8 0)).length = c := by simp; omega
  have hal := h.drew.allocFz (emb_map_bytes s.data.toList) (List.replicate (c - s.size) (.int .u8 0)) e (c, c + 1) (fun i hi => by rw [hl] at hi; simp; omega)
  rw [← hrow, hl] at hal
  refine ⟨_, le_add _ (h.fresh _ (Nat.le_refl _)), ?_, hal⟩
  rw [emb_slice_mk add_eq]
  simp [capR, Addr.add_zero']
theorem sim_aPart {t : TypeId} {g : Option Nat} (hg : cAgg P t = some g) (hg0 : g ≠ some 0) {cs : List AVal} {l : List Value} (hl : embL m cs = some l) {off : Nat} {u : AVal} (hx : aPart (aggN g) cs off = some u) :
    ∃ y, (part t l.toArray off).run P w = .ok y w ∧ emb m u = some y := by
  refine sim_part (P := P) (w := w) hg hl ?_
  unfold aPart at hx
  simp only [aField]
  unfold aggN at hx
  cases g with
  | none => simpa using hx
  | some k =>
    simp only [] at hx ⊢
    rw [if_neg (fun e => hg0 (by rw [e]))] at hx
    exact hx
theorem sim_eqs (d : Nat) : ∀ w : World,
    (∀ (t : TypeId) (q : EqDesc) (a b : AVal) (r : Bool) (x y : Value) (D : Nat), cEq P d t = some q → aEq q a b = some r → emb m a = some x → emb m b = some y → d ≤ D → (Op.equalIn D t x y).run P w = .ok r w) ∧
    (∀ (fs : List Field) (l : List (Option (Nat × Nat × EqDesc))) (xs ys : List AVal) (xs' ys' : List Value) (r : Bool) (D : Nat), cEqs P d fs = some l → aEqs l xs ys = some r → embL m xs = some xs' → embL m ys = some ys' → d ≤ D →
      (Op.eqFields D xs'.toArray ys'.toArray fs).run P w = .ok r w) := by
  induction d with
  | zero => exact fun w => ⟨fun t q a b r x y D h => by simp [cEq] at h, fun fs l xs ys xs' ys' r D h => by simp [cEqs] at h⟩
  | succ d ih =>
    intro w
    constructor
    · intro t q a b r x y D hc he hx hy hD
      obtain ⟨D', rfl⟩ : ∃ D', D = D' + 1 := ⟨D - 1, by omega⟩
      unfold cEq at hc
      cases hu : P.underlying t with
      | none => rw [hu] at hc; cases hc
      | some ds =>
        rw [hu] at hc
        cases ds <;> simp only [] at hc <;> try (cases hc; done)
        case bool =>
          cases hc
          cases a <;> cases b <;> simp only [aEq] at he <;> try (cases he; done)
          cases he; simp only [emb] at hx hy; cases hx; cases hy
          exact run_equalIn_bool' w D' t _ _ hu
        case int k =>
          cases hc
          cases a <;> cases b <;> simp only [aEq] at he <;> try (cases he; done)
          split at he
          · rename_i hk; subst hk; cases he
            simp only [emb] at hx hy; cases hx; cases hy
            exact run_equalIn_int w D' t _ _ _ _ hu
          · cases he
        case string =>
          cases hc
          cases a <;> cases b <;> simp only [aEq] at he <;> try (cases he; done)
          cases he; simp only [emb] at hx hy; cases hx; cases hy
          rw [beq_toListBytes]
          exact run_equalIn_string w D' t _ _ hu
        case pointer e =>
          cases hz : cSize P e with
          | none => rw [hz] at hc; cases hc
          | some sz =>
          rw [hz] at hc
          cases hc
          cases a <;> cases b <;> simp only [aEq] at he <;> try (cases he; done)
          · cases he; simp only [emb] at hx hy; cases hx; cases hy
            simp [Op.equalIn, run_underlying hu]
          · cases he; obtain ⟨p, hp, rfl⟩ := emb_ptr_some hy; simp only [emb] at hx; cases hx
            simp [Op.equalIn, run_underlying hu]
          · cases he; obtain ⟨p, hp, rfl⟩ := emb_ptr_some hx; simp only [emb] at hy; cases hy
            simp [Op.equalIn, run_underlying hu]
          · split at he
            · rename_i hro; cases he
              obtain ⟨rfl, rfl⟩ := hro
              obtain ⟨p, hp, rfl⟩ := emb_ptr_some hx
              rw [hx] at hy; cases hy
              by_cases hs0 : sz = 0
              · simp [Op.equalIn, run_underlying hu, run_sizeOf hz, hs0]
              · simp [Op.equalIn, run_underlying hu, run_sizeOf hz, hs0, sameAddr]
            · cases he
        case slice e =>
          cases hc
          cases a <;> cases b <;> simp only [aEq] at he <;> try (cases he; done)
          · cases he; simp only [emb] at hx hy; cases hx; cases hy
            simp [Op.equalIn, run_underlying hu]
          · cases he; obtain ⟨p, hp, rfl⟩ := emb_slice_some hy; simp only [emb] at hx; cases hx
            simp [Op.equalIn, run_underlying hu]
          · cases he; obtain ⟨p, hp, rfl⟩ := emb_slice_some hx; simp only [emb] at hy; cases hy
            simp [Op.equalIn, run_underlying hu]
        case func ps rs v =>
          cases hc
          cases a <;> cases b <;> simp only [aEq] at he <;> try (cases he; done)
          · cases he; simp only [emb] at hx hy; cases hx; cases hy
            simp [Op.equalIn, run_underlying hu]
          · cases he; simp only [emb] at hx hy; cases hx
            split at hy <;> cases hy
            simp [Op.equalIn, run_underlying hu]
          · cases he; simp only [emb] at hx hy; cases hy
            split at hx <;> cases hx
            simp [Op.equalIn, run_underlying hu]
        case map kt et =>
          cases hc
          cases a <;> cases b <;> simp only [aEq] at he <;> try (cases he; done)
          · cases he; simp only [emb] at hx hy; cases hy
            split at hx <;> cases hx
            simp [Op.equalIn, run_underlying hu]
          · cases he; simp only [emb] at hx hy; cases hx
            split at hy <;> cases hy
            simp [Op.equalIn, run_underlying hu]
          · cases he; simp only [emb] at hx hy; cases hx; cases hy
            simp [Op.equalIn, run_underlying hu]
        case struct fs =>
          split at hc
          · cases hc
          rename_i hg
          simp only [Bool.or_eq_true, not_or, Bool.not_eq_true] at hg
          cases hl : cEqs P d fs.toList with
          | none => rw [hl] at hc; cases hc
          | some l =>
            rw [hl] at hc; cases hc
            cases a <;> cases b <;> simp only [aEq] at he <;> try (cases he; done)
            obtain ⟨xs', hx1, rfl⟩ := emb_agg_some hx
            obtain ⟨ys', hy1, rfl⟩ := emb_agg_some hy
            have hfo : P.fieldsOf t = fs := by simp [Program.fieldsOf, hu]
            rw [run_equalIn_struct w D' t _ _ (by rw [hfo]; exact hu) hg.1, hfo]
            exact (ih w).2 fs.toList l _ _ xs' ys' r D' hl he hx1 hy1 (by omega)
    · intro fs l xs ys xs' ys' r D hc he hx hy hD
      cases fs with
      | nil =>
        simp only [cEqs] at hc; cases hc
        simp only [aEqs] at he; cases he
        simp [Op.eqFields]
      | cons f fs =>
        unfold cEqs at hc
        split at hc
        · rename_i hn
          cases hl : cEqs P d fs with
          | none => rw [hl] at hc; cases hc
          | some l' =>
            rw [hl] at hc; cases hc
            simp only [aEqs] at he
            simp only [Op.eqFields, hn, ne_eq, not_true_eq_false, if_false]
            exact (ih w).2 fs l' xs ys xs' ys' r D hl he hx hy (by omega)
        · rename_i hn
          cases hq : cEq P d f.type with
          | none => rw [hq] at hc; cases hc
          | some q =>
            cases hg : cAgg P f.type with
            | none => rw [hq, hg] at hc; cases hc
            | some g =>
              cases hl : cEqs P d fs with
              | none => rw [hq, hg, hl] at hc; cases hc
              | some l' =>
                rw [hq, hg, hl] at hc
                simp only [] at hc
                split at hc
                · cases hc
                rename_i hg0
                cases hc
                simp only [aEqs] at he
                cases ha : aPart (aggN g) xs f.offset with
                | none => rw [ha] at he; cases he
                | some a =>
                  cases hb : aPart (aggN g) ys f.offset with
                  | none => rw [ha, hb] at he; cases he
                  | some b =>
                    rw [ha, hb] at he
                    simp only [] at he
                    obtain ⟨x, hx1, hx2⟩ := sim_aPart (P := P) (w := w) hg (fun e => hg0 (by rw [e])) hx ha
                    obtain ⟨y, hy1, hy2⟩ := sim_aPart (P := P) (w := w) hg (fun e => hg0 (by rw [e])) hy hb
                    simp only [Op.eqFields, ne_eq, hn, not_false_eq_true, if_true, Sem.run_bind, hx1, hy1, Result.andThen_ok]
                    cases hr : aEq q a b with
                    | none => rw [hr] at he; cases he
                    | some r1 =>
                      rw [hr] at he
                      have hi := (ih w).1 f.type q a b r1 x y D hq hr hx2 hy2 (by omega)
                      rw [hi]
                      cases r1 with
                      | false => simp only [] at he; cases he; simp
                      | true =>
                        simp only [] at he
                        simp only [Result.andThen_ok, Bool.not_true, Bool.false_eq_true, if_false]
                        exact (ih w).2 fs l' xs ys xs' ys' r D hl he hx hy (by omega)
theorem aEq_agg {q : EqDesc} {xs : List AVal} {b : AVal} {r : Bool} (h : aEq q (.agg xs) b = some r) : ∃ fs ys, q = .fields fs ∧ b = .agg ys := by
  cases q <;> cases b <;> first | exact ⟨_, _, rfl, rfl⟩ | (simp [aEq] at h)
theorem aEq_int {q : EqDesc} {k : IntKind} {n : Int} {b : AVal} {r : Bool} (h : aEq q (.int k n) b = some r) : q = .int := by
  cases q <;> cases b <;> first | rfl | (simp [aEq] at h)
theorem aEq_str {q : EqDesc} {s : ByteArray} {b : AVal} {r : Bool} (h : aEq q (.str s) b = some r) : q = .str := by
  cases q <;> cases b <;> first | rfl | (simp [aEq] at h)
theorem aEq_niface {q : EqDesc} {b : AVal} {r : Bool} (hq : ∀ c ts, q ≠ .iface c ts) (h : aEq q .niface b = some r) : False := by
  cases q <;> first | exact hq _ _ rfl | (cases b <;> simp [aEq] at h)
theorem cEq_iface {d : Nat} {t : TypeId} {q : EqDesc} (h : cEq P d t = some q) : ∀ c ts, q ≠ .iface c ts := by
  intro c ts e
  subst e
  cases d with
  | zero => simp [cEq] at h
  | succ d =>
    unfold cEq at h
    cases hu : P.underlying t with
    | none => rw [hu] at h; cases h
    | some ds =>
      rw [hu] at h
      cases ds <;> simp only [] at h <;> try (cases h; done)
      all_goals first
        | (split at h <;> cases h; done)
        | (split at h; cases h; split at h <;> cases h)
theorem cEq_int {d : Nat} {t : TypeId} (h : cEq P d t = some .int) : ∃ k, P.underlying t = some (.int k) := by
  cases d with
  | zero => simp [cEq] at h
  | succ d =>
    unfold cEq at h
    cases hu : P.underlying t with
    | none => rw [hu] at h; cases h
    | some ds =>
      rw [hu] at h
      cases ds <;> simp only [] at h <;> try (cases h; done)
      all_goals first
        | exact ⟨_, rfl⟩
        | (split at h <;> cases h; done)
        | (split at h; cases h; split at h <;> cases h)
theorem cEq_str {d : Nat} {t : TypeId} (h : cEq P d t = some .str) : P.underlying t = some .string := by
  cases d with
  | zero => simp [cEq] at h
  | succ d =>
    unfold cEq at h
    cases hu : P.underlying t with
    | none => rw [hu] at h; cases h
    | some ds =>
      rw [hu] at h
      cases ds <;> simp only [] at h <;> try (cases h; done)
      all_goals first
        | rfl
        | (split at h <;> cases h; done)
        | (split at h; cases h; split at h <;> cases h)
theorem cEq_fields {d : Nat} {t : TypeId} {l : List (Option (Nat × Nat × EqDesc))} (h : cEq P d t = some (.fields l)) : P.eqGuardType P.depth t = false := by
  cases d with
  | zero => simp [cEq] at h
  | succ d =>
    unfold cEq at h
    cases hu : P.underlying t with
    | none => rw [hu] at h; cases h
    | some ds =>
      rw [hu] at h
      cases ds <;> simp only [] at h <;> try (cases h; done)
      · split at h <;> cases h
      split at h
      · cases h
      · rename_i hg; simp only [Bool.or_eq_true, not_or, Bool.not_eq_true] at hg; exact hg.2
def Value.other : Value → Bool
  | .int _ _ | .float _ _ | .complex _ _ _ | .string _ => false
  | _ => true
theorem binOp_eql_other {t : TypeId} {x y : Value} (h : Value.other x = true) : binOp .eql t x y = (do pure (.bool (← Op.equal t x y))) := by
  cases x <;> first | rfl | (simp [Value.other] at h)
theorem binOp_neq_other {t : TypeId} {x y : Value} (h : Value.other x = true) : binOp .neq t x y = (do pure (.bool (!(← Op.equal t x y)))) := by
  cases x <;> first | rfl | (simp [Value.other] at h)
theorem sim_eq {neg : Bool} {t : TypeId} {q : EqDesc} (hc : cEq P 60 t = some q) {av bv : AVal} {x y : Value} {r : Bool} {xo yo : Operand} (ha : emb m av = some x) (hb : emb m bv = some y) (he : aEq q av bv = some r)
    (hni : ∀ k, P.underlying t ≠ some (.int k)) (hns : P.underlying t ≠ some .string) :
    (do eqGuard (match neg with | true => .neq | false => .eql) t xo yo x y; binOp (match neg with | true => .neq | false => .eql) t x y : Sem Value).run P w = .ok (.bool (match neg with | true => !r | false => r)) w := by
  have heq := (sim_eqs (P := P) (m := m) 60 w).1 t q av bv r x y 10000 hc he ha hb (by decide)
  have hx : Value.other x = true ∧ (∀ op, (eqGuard op t xo yo x y).run P w = .ok () w) := by
    cases av with
    | int k n => exact absurd (cEq_int (by rw [aEq_int he] at hc; exact hc)) (fun ⟨k, hk⟩ => hni k hk)
    | str s => exact absurd (cEq_str (by rw [aEq_str he] at hc; exact hc)) hns
    | niface => exact (aEq_niface (cEq_iface hc) he).elim
    | agg cs =>
      obtain ⟨l, hl, rfl⟩ := emb_agg_some ha
      obtain ⟨fs, ys, rfl, rfl⟩ := aEq_agg he
      obtain ⟨l', hl', rfl⟩ := emb_agg_some hb
      exact ⟨rfl, fun op => run_eqGuard_agg w op t _ _ _ _ (cEq_fields hc)⟩
    | bool b => simp only [emb] at ha; cases ha; exact ⟨rfl, fun op => by cases op <;> rfl⟩
    | nptr => simp only [emb] at ha; cases ha; exact ⟨rfl, fun op => by cases op <;> rfl⟩
    | nslice => simp only [emb] at ha; cases ha; exact ⟨rfl, fun op => by cases op <;> rfl⟩
    | nfunc => simp only [emb] at ha; cases ha; exact ⟨rfl, fun op => by cases op <;> rfl⟩
    | ptr r off => obtain ⟨p, hp, rfl⟩ := emb_ptr_some ha; exact ⟨rfl, fun op => by cases op <;> rfl⟩
    | slice r off len cap sz => obtain ⟨p, hp, rfl⟩ := emb_slice_some ha; exact ⟨rfl, fun op => by cases op <;> rfl⟩
    | func fn a b => simp only [emb] at ha; split at ha <;> cases ha; exact ⟨rfl, fun op => by cases op <;> rfl⟩
    | iface t v => simp only [emb] at ha; split at ha <;> cases ha; exact ⟨rfl, fun op => by cases op <;> rfl⟩
    | tuple vs => simp only [emb] at ha; split at ha <;> cases ha; exact ⟨rfl, fun op => by cases op <;> rfl⟩
    | yield r => simp only [emb] at ha; split at ha <;> cases ha; exact ⟨rfl, fun op => by cases op <;> rfl⟩
    | eslice r off l sz => obtain ⟨a, c, rfl⟩ := emb_eslice_some ha; exact ⟨rfl, fun op => by cases op <;> rfl⟩
    | nmap => simp only [emb] at ha; cases ha; exact ⟨rfl, fun op => by cases op <;> rfl⟩
    | map r => simp only [emb] at ha; split at ha <;> cases ha; exact ⟨rfl, fun op => by cases op <;> rfl⟩
  simp only [Sem.run_bind, hx.2, Result.andThen_ok]
  cases neg
  · simp only []
    rw [binOp_eql_other hx.1]
    simp [Op.equal, Op.maxDepth, heq]
  · simp only []
    rw [binOp_neq_other hx.1]
    simp [Op.equal, Op.maxDepth, heq]
end
end Go.Am

namespace Go.Am
open Go
variable {P : Program} {m : RMap} {w : World} {t : TypeId} {ms : Array (String × TypeId)}
theorem numTypes_mem {t : TypeId} (h : (numTypes P).contains t = true) : ∃ k i, P.underlying t = some (.int k) ∧ P.info? t = some i ∧ i.comparable = true := by
  have h1 : t ∈ numTypes P := by simpa using h
  have h2 := (List.mem_filter.1 h1).2
  unfold numType at h2
  split at h2
  · rename_i k i h3 h4; exact ⟨k, i, h3, h4, h2⟩
  · cases h2
theorem eqI_nn (hu : P.underlying t = some (.interface ms)) (D : Nat) : (Op.equalIn (D + 1) t .nilIface .nilIface).run P w = .ok true w := by
  simp [Op.equalIn, run_underlying hu]
theorem eqI_ni (hu : P.underlying t = some (.interface ms)) (D : Nat) {ty : TypeId} {v : Value} : (Op.equalIn (D + 1) t .nilIface (.iface ty v)).run P w = .ok false w := by
  simp [Op.equalIn, run_underlying hu]
theorem eqI_in (hu : P.underlying t = some (.interface ms)) (D : Nat) {ty : TypeId} {v : Value} : (Op.equalIn (D + 1) t (.iface ty v) .nilIface).run P w = .ok false w := by
  simp [Op.equalIn, run_underlying hu]
theorem eqI_ne (hu : P.underlying t = some (.interface ms)) (D : Nat) {ty tz : TypeId} {v u : Value} (h : ty ≠ tz) : (Op.equalIn (D + 1) t (.iface ty v) (.iface tz u)).run P w = .ok false w := by
  simp [Op.equalIn, run_underlying hu, h]
theorem eqI_num (hu : P.underlying t = some (.interface ms)) (D : Nat) {ty : TypeId} {k k' : IntKind} {a b : Int} {i : TypeInfo} (h1 : P.underlying ty = some (.int k)) (h2 : P.info? ty = some i) (h3 : i.comparable = true) : (Op.equalIn (D + 1 + 1) t (.iface ty (.int k' a)) (.iface ty (.int k' b))).run P w = .ok (a == b) w := by
  have h4 := run_equalIn_int (P := P) w D ty k' k a b h1
  rw [Op.equalIn]
  simp only [Sem.run_bind, run_underlying hu, Result.andThen_ok, ne_eq, not_true, if_false, typeInfo, h2, h3]
  simp [h2, h3, h4]
theorem guard_lit {op : BinOp} {xo yo : Operand} (h : (litNil xo || litNil yo) = true) : (eqGuard op t xo yo .nilIface .nilIface).run P w = .ok () w := by
  unfold eqGuard
  cases op <;> first | rfl | (cases xo <;> cases yo <;> first | rfl | (exfalso; revert h; simp [litNil]; done))
theorem emb_iface_some {ty : TypeId} {v : AVal} {x : Value} (h : emb m (.iface ty v) = some x) : ∃ y, emb m v = some y ∧ x = .iface ty y := by
  simp only [emb] at h
  split at h
  · rename_i y hy; cases h; exact ⟨y, hy, rfl⟩
  · cases h
theorem sim_eqI {neg : Bool} (hu : P.underlying t = some (.interface ms)) {av bv : AVal} {x y : Value} {r : Bool} {xo yo : Operand} (ha : emb m av = some x) (hb : emb m bv = some y) (he : aEq (ifaceD P xo yo) av bv = some r) :
    (do eqGuard (match neg with | true => .neq | false => .eql) t xo yo x y; binOp (match neg with | true => .neq | false => .eql) t x y : Sem Value).run P w = .ok (.bool (match neg with | true => !r | false => r)) w := by
  have key : Value.other x = true ∧ (∀ op, (eqGuard op t xo yo x y).run P w = .ok () w) ∧ (∀ D, (Op.equalIn (D + 1 + 1) t x y).run P w = .ok r w) := by
    obtain ⟨c, ts, hd, hc1, hc2⟩ : ∃ c ts, ifaceD P xo yo = .iface c ts ∧ (c = true → (litNil xo || litNil yo) = true) ∧ (∀ t, ts.contains t = true → (numTypes P).contains t = true) := by
      unfold ifaceD
      cases hl : litNil xo || litNil yo
      · exact ⟨false, _, rfl, fun e => (by cases e), fun _ e => e⟩
      · exact ⟨true, [], rfl, fun _ => rfl, fun _ e => (by simp at e)⟩
    rw [hd] at he
    cases av <;> try (simp only [aEq] at he; cases he; done)
    · cases bv <;> try (simp only [aEq] at he; cases he; done)
      · simp only [aEq] at he
        cases c
        · simp at he
        · simp only [if_true] at he
          cases he
          simp only [emb] at ha hb
          cases ha; cases hb
          exact ⟨rfl, fun op => guard_lit (hc1 rfl), fun D => eqI_nn hu _⟩
      · simp only [aEq] at he
        cases he
        obtain ⟨y', _, rfl⟩ := emb_iface_some hb
        simp only [emb] at ha
        cases ha
        exact ⟨rfl, fun op => by cases op <;> rfl, fun D => eqI_ni hu _⟩
    · cases bv <;> try (simp only [aEq] at he; cases he; done)
      · simp only [aEq] at he
        cases he
        obtain ⟨y', _, rfl⟩ := emb_iface_some ha
        simp only [emb] at hb
        cases hb
        exact ⟨rfl, fun op => by cases op <;> rfl, fun D => eqI_in hu _⟩
      · rename_i t1 v1 t2 v2
        obtain ⟨y1, e1, rfl⟩ := emb_iface_some ha
        obtain ⟨y2, e2, rfl⟩ := emb_iface_some hb
        refine ⟨rfl, fun op => by cases op <;> rfl, fun D => ?_⟩
        simp only [aEq] at he
        by_cases hne : t1 = t2
        · subst hne
          rw [if_neg (fun q => q rfl)] at he
          split at he
          · rename_i hcon
            obtain ⟨k, i, h1, h2, h3⟩ := numTypes_mem (hc2 _ hcon)
            cases v1 <;> try (simp only [aNum] at he; cases he; done)
            cases v2 <;> try (simp only [aNum] at he; cases he; done)
            simp only [aNum] at he
            split at he
            · rename_i hk; subst hk; cases he
              simp only [emb] at e1 e2
              cases e1; cases e2
              exact eqI_num hu D h1 h2 h3
            · cases he
          · cases he
        · rw [if_pos hne] at he
          cases he
          exact eqI_ne hu _ hne
  have heq : (Op.equalIn 10000 t x y).run P w = .ok r w := key.2.2 9998
  simp only [Sem.run_bind, key.2.1, Result.andThen_ok]
  cases neg
  · simp only []
    rw [binOp_eql_other key.1]
    simp [Op.equal, Op.maxDepth, heq]
  · simp only []
    rw [binOp_neq_other key.1]
    simp [Op.equal, Op.maxDepth, heq]
end Go.Am

namespace Go.Am
open Go Go.RowKit
section
variable {P : Program} {S : Base} {m : RMap} {H H' : AHeap} {w : World}
theorem even_mod (n : Nat) : (2 * n) % 2 = 0 := by omega
theorem depth_pos (P : Program) : 0 < P.depth := by unfold Program.depth; omega
theorem cellsOf_eq {t : TypeId} {s : Nat} (h : cSize P t = some s) : P.cellsOf t = s := by
  unfold cSize at h
  unfold Program.cellsOf
  cases hi : P.info? t with
  | none => rw [hi] at h; cases h
  | some i => rw [hi] at h; simpa using h
theorem sameLayout_self (d : Nat) (t : TypeId) : sameLayout P (d + 1) t t = true := by simp [sameLayout]
theorem liesAt_own {t : TypeId} {s : Nat} (hs : P.cellsOf t = s) (hs0 : 0 < s) (count off n : Nat) (ho : off % s = 0) (hn : off / s + n ≤ count) : liesAt P P.depth t count off t n = true := by
  obtain ⟨d, hd⟩ : ∃ d, P.depth = d + 1 := ⟨P.depth - 1, by have := depth_pos P; omega⟩
  rw [hd]
  simp only [liesAt]
  rw [hd]
  simp [rowAt, hs, Nat.ne_of_gt hs0, ho, hn, sameLayout_self]
theorem viewAt_cells {r : Nat} {c : Array Value} {e : TypeId} {fz : Nat × Nat} (h : w.heap[r]? = some (.cells c e fz)) : (viewAt r).run P w = .ok none w := by
  simp [viewAt, World.shape?, h]
theorem seenAt_cells {a : Addr} {c : Array Value} {e : TypeId} {fz : Nat × Nat} (h : w.heap[a.block]? = some (.cells c e fz)) : (Conv.seenAt a).run P w = .ok a w := by
  simp [Conv.seenAt, viewAt_cells h]
theorem aUptr_some {t : TypeId} {s r off : Nat} {u : AVal} (hx : aUptr t s (.ptr r off) H = some (u, H')) :
    H' = H ∧ u = .ptr r off ∧ off = 0 ∧ r < H.n ∧ 0 < s ∧ ∃ cs, H.get r = .row cs true (2 * t) ∧ s ≤ cs.length := by
  unfold aUptr at hx
  cases hc : (Nat.blt r H.n && Nat.beq off 0 && Nat.blt 0 s) with
  | false => simp only [hc] at hx; cases hx
  | true =>
    simp only [hc] at hx
    simp only [Bool.and_eq_true] at hc
    obtain ⟨⟨h1, h2⟩, h3⟩ := hc
    have h1' : r < H.n := by simpa using h1
    have h3' : 0 < s := by simpa using h3
    cases hg : H.get r with
    | row cs rw e =>
      rw [hg] at hx
      cases rw with
      | false => cases hx
      | true =>
        simp only [] at hx
        cases hk : (Nat.beq e (2 * t) && Nat.ble s cs.length) with
        | false => rw [hk] at hx; cases hx
        | true =>
          rw [hk] at hx; cases hx
          simp only [Bool.and_eq_true] at hk
          have hk1 := Nat.eq_of_beq_eq_true hk.1
          have hk2 : s ≤ cs.length := Nat.le_of_ble_eq_true hk.2
          exact ⟨rfl, rfl, Nat.eq_of_beq_eq_true h2, h1', h3', cs, by rw [hk1], hk2⟩
    | _ => rw [hg] at hx; cases hx
theorem sim_uptr {d d' : TypeId} {t : TypeId} {s : Nat} (hs : cSize P t = some s) (hd : (P.underlying d = some (.pointer t) ∧ P.underlying d' = some .unsafePointer) ∨ (P.underlying d = some .unsafePointer ∧ P.underlying d' = some (.pointer t)))
    {av u : AVal} {x : Value} (ha : emb m av = some x) (h : HRel S m H w) (hx : aUptr t s av H = some (u, H')) : (convert d d' x).run P w = .ok x w ∧ emb m u = some x ∧ H' = H := by
  cases av with
  | nptr =>
    obtain ⟨rfl, rfl⟩ := pure_some hx
    simp only [emb] at ha; cases ha
    refine ⟨?_, by simp [emb], rfl⟩
    rcases hd with ⟨h1, h2⟩ | ⟨h1, h2⟩ <;> simp [convert, run_underlying h1, run_underlying h2, Conv.unsafePointer]
  | ptr r off =>
    obtain ⟨rfl, rfl, rfl, hr, hs0, cs, hg, hle⟩ := aUptr_some hx
    obtain ⟨p, hp, rfl⟩ := emb_ptr_some ha
    have hok := h.row r cs true _ p hr hg hp
    obtain ⟨c, fz, hh, hsp, hz⟩ := (hok.own rfl).1.2
    obtain ⟨hz1, hz2⟩ := hz (even_mod t)
    rw [half_even] at hh
    have hlen := hok.len
    have hadd : p.1.add 0 = p.1 := by simp [Addr.add]
    rw [hadd]
    have hcs : s ≤ c.size := by omega
    have hlies := liesAt_own (P := P) (cellsOf_eq hs) hs0 (c.size / s) 0 1 (by simp) (by simp; exact Nat.div_pos hcs hs0)
    refine ⟨?_, by rw [emb_ptr_mk hp, hadd], rfl⟩
    rcases hd with ⟨h1, h2⟩ | ⟨h1, h2⟩
    · have hne : ¬ (s = 0) := by omega
      have hc0 : ¬ (c.size = 0) := by omega
      simp [convert, run_underlying h1, run_underlying h2, Conv.unsafePointer, seenAt_cells hh, cellsIn, World.shape?, hh, run_sizeOf hs, hne, hz1, hc0]
    · have hne : ¬ (s = 0) := by omega
      simp [convert, run_underlying h1, run_underlying h2, Conv.unsafePointer, seenAt_cells hh, variablesAt, World.shape?, hh, run_sizeOf hs, hne, hz1, cellsOf_eq hs, hlies]
  | _ => exact (fail_some (H := H) hx).elim
theorem run_sliceData_none (at' : Array TypeId) (ty : TypeId) (n c : Nat) : (Builtin.unsafeSliceData_ at' ty #[.slice none n c]).run P w = .ok (.pointer none) w := by
  show Sem.run P (pure (Value.pointer none)) w = _
  simp
theorem run_sliceData_some (at' : Array TypeId) (ty : TypeId) (a : Addr) (n c : Nat) (hc : c ≠ 0) : (Builtin.unsafeSliceData_ at' ty #[.slice (some a) n c]).run P w = .ok (.pointer (some a)) w := by
  show Sem.run P (if c ≠ 0 then _ else _) w = _
  rw [if_pos hc]
  simp
theorem sim_sliceData {sz : Nat} {at' : Array TypeId} {ty : TypeId} {av u : AVal} {x : Value} (ha : emb m av = some x) (h : HRel S m H w) (hx : aSliceData sz av H = some (u, H')) :
    ∃ y, (Builtin.unsafeSliceData_ at' ty #[x]).run P w = .ok y w ∧ emb m u = some y ∧ H' = H := by
  cases av with
  | nslice =>
    obtain ⟨rfl, rfl⟩ := pure_some hx
    simp only [emb] at ha; cases ha
    exact ⟨.pointer none, run_sliceData_none _ _ _ _, by simp [emb], rfl⟩
  | slice r off len cap s =>
    obtain ⟨p, hp, rfl⟩ := emb_slice_some ha
    cases cap with
    | some c =>
      simp only [aSliceData] at hx
      split at hx
      · exact (fail_some hx).elim
      · rename_i hc
        obtain ⟨rfl, rfl⟩ := pure_some hx
        exact ⟨_, run_sliceData_some _ _ _ _ _ hc, by rw [emb_ptr_mk hp], rfl⟩
    | none =>
      simp only [aSliceData] at hx
      obtain ⟨⟨cs, rw⟩, H1, h1, h2⟩ := bind_some hx
      obtain ⟨rfl, hr, e, hg⟩ := aRow_some h1
      simp only [] at h2
      split at h2
      · rename_i hc
        obtain ⟨rfl, rfl⟩ := pure_some h2
        obtain ⟨rfl, hs0, hle⟩ := hc
        have hlen := (h.row r cs rw e p hr hg hp).len
        have hcap : (p.2 - off) / s ≠ 0 := Nat.ne_of_gt (Nat.div_pos (by omega) hs0)
        exact ⟨_, run_sliceData_some _ _ _ _ _ hcap, by rw [emb_ptr_mk hp], rfl⟩
      · exact (fail_some h2).elim
  | _ => exact (fail_some (H := H) hx).elim
theorem cell_freeze (w : World) (a : Addr) (n : Nat) (b : Addr) : (w.freeze a n).cell? b = w.cell? b := by
  unfold World.freeze
  split
  · rfl
  · unfold World.cell?
    simp only [Array.getElem?_modify]
    by_cases hb : a.block = b.block
    · simp only [hb, if_true]
      cases hq : w.heap[b.block]? with
      | none => rfl
      | some o => cases o <;> rfl
    · simp only [hb, if_false]
theorem heap_freeze_ne {w : World} {a : Addr} {n : Nat} {b : Nat} (h : a.block ≠ b) : (w.freeze a n).heap[b]? = w.heap[b]? := by
  unfold World.freeze
  split
  · rfl
  · simp only [Array.getElem?_modify, if_neg h]
theorem frozen_freeze_ne {w : World} {a : Addr} {n : Nat} {b : Addr} (h : a.block ≠ b.block) : (w.freeze a n).frozen? b = w.frozen? b := by
  unfold World.frozen?
  rw [heap_freeze_ne h]
theorem still_freeze (a : Addr) (n : Nat) : ∀ (b : Nat) (o : Obj), notCells o → w.heap[b]? = some o → (w.freeze a n).heap[b]? = some o := fun b o hn h => by
  by_cases hb : a.block = b
  · subst hb
    unfold World.freeze
    split
    · exact h
    · simp only [Array.getElem?_modify, if_true, h, Option.map_some]
      cases o with
      | cells c t fz => exact absurd rfl (hn c t fz)
      | _ => rfl
  · rw [heap_freeze_ne hb]; exact h
theorem HRel.freeze (h : HRel S m H w) {r : Nat} {cs : List AVal} {e : TypeId} {p : Addr × Nat} (hr : r < H.n) (hg : H.get r = .row cs true e) (hp : m r = some p) {a : Addr} (ha : a.block = p.1.block) (n : Nat) :
    HRel S m (H.set r (.row cs false e)) (w.freeze a n) := by
  have hok := h.row r cs true e p hr hg hp
  have hB := (hok.own rfl).1.1
  have key : ∀ s cs1 rw1 e1, (H.set r (.row cs false e)).get s = .row cs1 rw1 e1 → (s = r ∧ cs1 = cs ∧ rw1 = false ∧ e1 = e) ∨ (s ≠ r ∧ H.get s = .row cs1 rw1 e1) := by
    intro s cs1 rw1 e1 hs
    by_cases hsr : s = r
    · subst hsr; rw [set_get_eq] at hs; cases hs; exact Or.inl ⟨rfl, rfl, rfl, rfl⟩
    · rw [set_get_ne hsr] at hs; exact Or.inr ⟨hsr, hs⟩
  refine ⟨Lib.below_freeze h.below (by rw [ha]; exact hB) n, ?_, h.glob, h.fresh, h.away, ?_, ?_, h.loops.set (still_freeze a n) rfl⟩
  · have : (w.freeze a n).heap.size = w.heap.size := by unfold World.freeze; split <;> simp
    rw [this]; exact h.size
  · intro s cs1 rw1 e1 q hs hgs hq
    rcases key s cs1 rw1 e1 hgs with ⟨rfl, rfl, rfl, rfl⟩ | ⟨hsr, hgs⟩
    · rw [hp] at hq; cases hq
      exact ⟨fun i v hi => by rw [cell_freeze]; exact hok.cell i v hi, hok.len, fun q => by cases q⟩
    · have hoks := h.row s cs1 rw1 e1 q hs hgs hq
      refine ⟨fun i v hi => by rw [cell_freeze]; exact hoks.cell i v hi, hoks.len, fun hrw => ?_⟩
      subst hrw
      have hne : a.block ≠ q.1.block := by
        rcases h.apart r s cs true e cs1 e1 p q hr hs (Ne.symm hsr) hg hgs hp hq with ⟨_, h2⟩ | h2
        · cases h2
        · rw [ha]; exact h2
      refine ⟨⟨(hoks.own rfl).1.1, by rw [heap_freeze_ne hne]; exact (hoks.own rfl).1.2⟩, fun i hi => ?_⟩
      rw [cell_freeze, frozen_freeze_ne (by rw [add_block]; exact hne)]
      exact (hoks.own rfl).2 i hi
  · intro s t cs1 rw1 e1 cs2 e2 q1 q2 hs ht hne hg1 hg2 hq1 hq2
    rcases key t cs2 true e2 hg2 with ⟨_, _, h3, _⟩ | ⟨htr, hk2⟩
    · cases h3
    rcases key s cs1 rw1 e1 hg1 with ⟨rfl, rfl, rfl, rfl⟩ | ⟨hsr, hk1⟩
    · rcases h.apart s t cs1 true e1 cs2 e2 q1 q2 hs ht hne hg hk2 hq1 hq2 with ⟨_, h2⟩ | h2
      · cases h2
      · exact Or.inr h2
    · exact h.apart s t cs1 rw1 e1 cs2 e2 q1 q2 hs ht hne hk1 hk2 hq1 hq2
theorem sem_bind_ok {α β : Type} {x : Sem α} {f : α → Sem β} {a : α} {w' : World} (h : x.run P w = .ok a w') {r : Result β} (h2 : (f a).run P w' = r) : (x >>= f).run P w = r := by
  subst h2
  simp [h]
theorem run_unsafeString_zero {at' : Array TypeId} {pt : TypeId} (h0 : at'[0]? = some pt) (ty : TypeId) (p : Option Addr) : (Builtin.unsafeString_ at' ty #[.pointer p, .int .i64 0]).run P w = .ok (.string .empty) w := by
  have hmax : IntKind.i64.max = 9223372036854775807 := rfl
  cases p with
  | none =>
    refine sem_bind_ok (x := asInt (.int .i64 0)) (a := 0) (w' := w) (by simp [asInt, asIntOf]) ?_
    rw [h0]
    simp [hmax]
  | some a =>
    refine sem_bind_ok (x := asInt (.int .i64 0)) (a := 0) (w' := w) (by simp [asInt, asIntOf]) ?_
    rw [h0]
    simp [hmax]
theorem run_loadBytes_ints : ∀ (ns : List Int) (a : Addr) (acc : ByteArray), (∀ j x, ns[j]? = some x → w.cell? (a.add j) = some (.int .u8 x)) →
    (loadBytes a acc ns.length).run P w = .ok ⟨acc.data ++ (ns.map fun n => UInt8.ofNat n.toNat).toArray⟩ w
  | [], a, acc, _ => by simp [loadBytes]
  | x :: l, a, acc, h => by
    have h0 : w.cell? a = some (.int .u8 x) := by
      have := h 0 x rfl
      simpa [Addr.add] using this
    have ih := run_loadBytes_ints l (a.add 1) (acc.push (UInt8.ofNat x.toNat)) (fun j y hy => by
      have := h (j + 1) y (by simpa using hy)
      rw [add_add, Nat.add_comm]; exact this)
    simp only [List.length_cons, loadBytes, Sem.run_bind, run_load, h0, Result.andThen_ok]
    have hpush : acc.push x.toNat.toUInt8 = acc.push (UInt8.ofNat x.toNat) := rfl
    rw [hpush, ih]
    simp
theorem run_unsafeString_at {at' : Array TypeId} {pt e : TypeId} (h0 : at'[0]? = some pt) (ty : TypeId) (hp : P.underlying pt = some (.pointer e)) (hc : P.cellsOf e = 1) {a : Addr} {cells : Nat} (hsh : w.shape? a.block = some (e, cells)) (ns : List Int) (hl0 : ns ≠ []) (hn : a.off + ns.length ≤ cells) (h63 : ns.length < 2 ^ 62)
    (hcell : ∀ j x, ns[j]? = some x → w.cell? (a.add j) = some (.int .u8 x)) :
    (Builtin.unsafeString_ at' ty #[.pointer (some a), .int .i64 ns.length]).run P w = .ok (.string ⟨(ns.map fun n => UInt8.ofNat n.toNat).toArray⟩) (w.freeze a ns.length) := by
  have hl : ns.length ≠ 0 := by simpa using hl0
  have hlb := run_loadBytes_ints (P := P) (w := w) ns a .empty hcell
  have hlies := liesAt_own (P := P) hc (by decide) (cells / P.cellsOf e) a.off ns.length (by simp [Nat.mod_one]) (by rw [hc]; simpa using hn)
  have h63' : ¬ (9223372036854775807 : Int) < (ns.length : Int) := by omega
  have hmax : IntKind.i64.max = 9223372036854775807 := rfl
  have hneg : ¬ (ns.length : Int) < 0 := by omega
  refine sem_bind_ok (x := asInt (.int .i64 ns.length)) (a := ns.length) (w' := w) (by simp [asInt, asIntOf]) ?_
  rw [h0]
  simp [hmax, h63', hneg, hl, variablesAt, hsh, elemOf, run_underlying hp, hlies, hlb]
theorem aUnsafeStr_some {t : TypeId} {r off : Nat} {n : Int} {u : AVal} (hn : n ≠ 0) (hx : aUnsafeRow t r off n H = some (u, H')) :
    r < H.n ∧ 0 < n ∧ n < 2 ^ 62 ∧ ∃ cs e l, H.get r = .row cs true e ∧ e / 2 = t ∧ off + n.toNat ≤ cs.length ∧ bytesOf ((cs.drop off).take n.toNat) = some l ∧ u = .str ⟨l.toArray⟩ ∧ H' = H.set r (.row cs false e) := by
  unfold aUnsafeRow at hx
  cases hc : (Nat.blt r H.n && decide (0 ≤ n) && decide (n < 2 ^ 62)) with
  | false => simp only [hc] at hx; cases hx
  | true =>
    simp only [hc] at hx
    simp only [Bool.and_eq_true, decide_eq_true_eq] at hc
    obtain ⟨⟨h1, h2⟩, h3⟩ := hc
    have h1' : r < H.n := by simpa using h1
    cases hg : H.get r with
    | row cs rw e =>
      rw [hg] at hx
      cases rw with
      | false => cases hx
      | true =>
        simp only [] at hx
        cases hk : (Nat.beq (e / 2) t && Nat.ble (off + n.toNat) cs.length) with
        | false => rw [hk] at hx; cases hx
        | true =>
          rw [hk] at hx
          simp only [Bool.and_eq_true] at hk
          simp only [] at hx
          cases hb : bytesOf ((cs.drop off).take n.toNat) with
          | none => rw [hb] at hx; cases hx
          | some l =>
            rw [hb] at hx; cases hx
            exact ⟨h1', by omega, h3, cs, e, l, rfl, Nat.eq_of_beq_eq_true hk.1, Nat.le_of_ble_eq_true hk.2, hb, rfl, rfl⟩
    | _ => rw [hg] at hx; cases hx
theorem sim_unsafeStr {at' : Array TypeId} {pt e ty : TypeId} (h0 : at'[0]? = some pt) (hpt : P.underlying pt = some (.pointer e)) (he1 : cSize P e = some 1) {av bv u : AVal} {x y : Value} (ha : emb m av = some x) (hb : emb m bv = some y)
    (h : HRel S m H w) (hx : aUnsafeStr e av bv H = some (u, H')) : ∃ z w', (Builtin.unsafeString_ at' ty #[x, y]).run P w = .ok z w' ∧ emb m u = some z ∧ HRel S m H' w' := by
  have hzero : ∀ {n : Int} {p : Option Addr}, n = 0 → y = .int .i64 n → x = .pointer p → u = .str .empty → H' = H → ∃ z w', (Builtin.unsafeString_ at' ty #[x, y]).run P w = .ok z w' ∧ emb m u = some z ∧ HRel S m H' w' := by
    intro n p hn hy hxx hu hH
    subst hn hy hxx hu hH
    exact ⟨_, w, run_unsafeString_zero h0 ty p, by simp [emb], h⟩
  cases bv with
  | int k n =>
    simp only [emb] at hb; cases hb
    cases k <;> try (cases av <;> exact (fail_some (H := H) hx).elim)
    cases av with
    | nptr =>
      simp only [aUnsafeStr] at hx
      split at hx
      · rename_i hn
        obtain ⟨rfl, rfl⟩ := pure_some hx
        simp only [emb] at ha; cases ha
        exact hzero hn rfl rfl rfl rfl
      · exact (fail_some hx).elim
    | ptr r off =>
      obtain ⟨p, hp, rfl⟩ := emb_ptr_some ha
      by_cases hn : n = 0
      · subst hn
        obtain ⟨rfl, rfl⟩ := pure_some (H := H) (H' := H') (a := AVal.str .empty) (b := u) hx
        exact hzero rfl rfl rfl rfl rfl
      · obtain ⟨hr, hn0, hn2, cs, e2, l, hg, he2, hle, hbs, rfl, rfl⟩ := aUnsafeStr_some hn (by simpa only [aUnsafeStr, if_neg hn] using hx)
        have hok := h.row r cs true e2 p hr hg hp
        obtain ⟨c, fz, hh, hsp, _⟩ := (hok.own rfl).1.2
        obtain ⟨ns, hns, hl⟩ := bytesOf_some hbs
        have hlen : ns.length = n.toNat := by
          have h1 : ((cs.drop off).take n.toNat).length = n.toNat := by simp; omega
          rw [hns] at h1; simpa using h1
        have hcell : ∀ j b, ns[j]? = some b → w.cell? ((p.1.add off).add j) = some (.int .u8 b) := fun j b hj => by
          have hjn : j < n.toNat := by rw [← hlen]; exact (List.getElem?_eq_some_iff.1 hj).1
          have h1 : cs[off + j]? = some (.int .u8 b) := by
            have h2 : ((cs.drop off).take n.toNat)[j]? = some (.int .u8 b) := by rw [hns]; simp [hj]
            rw [List.getElem?_take_of_lt hjn, List.getElem?_drop] at h2; exact h2
          obtain ⟨y, h3, h4⟩ := hok.cell _ _ h1
          simp only [emb] at h3; cases h3
          rw [add_add]; exact h4
        have hoff : ∀ i, (p.1.add i).off = p.1.off + i := fun i => by unfold Addr.add; split <;> simp_all
        have hsz : p.1.off + off + ns.length ≤ c.size := by
          have hlast := ((hok.own rfl).2 (off + n.toNat - 1) (by have := hok.len; omega)).1
          obtain ⟨u, hu⟩ := Option.isSome_iff_exists.1 hlast
          simp only [World.cell?, add_block, hh, add_spot hsp, hoff] at hu
          have := (Array.getElem?_eq_some_iff.1 hu).1
          omega
        have hrun := run_unsafeString_at (P := P) (w := w) (at' := at') h0 ty hpt (cellsOf_eq he1) (a := p.1.add off) (cells := c.size) (by rw [add_block]; simp [World.shape?, hh, he2]) ns (by intro e; rw [e] at hlen; simp at hlen; omega) (by rw [hoff]; exact hsz) (by omega) hcell
        have hnl : (ns.length : Int) = n := by omega
        rw [hnl, ← hl] at hrun
        exact ⟨_, _, hrun, by simp [emb], h.freeze hr hg hp (add_block _ _) _⟩
    | _ => exact (fail_some (H := H) hx).elim
  | _ => cases av <;> exact (fail_some (H := H) hx).elim
end
end Go.Am
