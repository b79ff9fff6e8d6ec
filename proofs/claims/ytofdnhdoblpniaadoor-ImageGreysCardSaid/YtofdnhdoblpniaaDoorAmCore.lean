/- The small machine: values, heap, resolved code and its evaluator. It imports nothing of a program. -/
import Derived.Below
set_option linter.unusedSimpArgs false
set_option linter.unusedVariables false
namespace Go.Am
open Go

inductive AVal where
  | bool (b : Bool)
  | int (k : IntKind) (n : Int)
  | str (s : ByteArray)
  | nptr
  | ptr (r off : Nat)
  | nslice
  | slice (r off len : Nat) (cap : Option Nat) (sz : Nat)
  | nfunc
  | func (fn : Fn) (first captured : List AVal)
  | niface
  | iface (t : TypeId) (v : AVal)
  | agg (cs : List AVal)
  | tuple (vs : List AVal)
  deriving Inhabited

/-- Where each row lies: an address, and the cells from it on; a row that is not there yet has no place. -/
abbrev RMap := Nat → Option (Addr × Nat)

def capR (cap : Option Nat) (d : Nat) : Nat := match cap with | some c => c | none => d

mutual
def emb (m : RMap) : AVal → Option Value
  | .bool b => some (.bool b)
  | .int k n => some (.int k n)
  | .str s => some (.string s)
  | .nptr => some (.pointer none)
  | .ptr r off => match m r with | some p => some (.pointer (some (p.1.add off))) | none => none
  | .nslice => some (.slice none 0 0)
  | .slice r off len cap sz => match m r with | some p => some (.slice (some (p.1.add off)) len (capR cap ((p.2 - off) / sz))) | none => none
  | .nfunc => some .nilFunc
  | .func fn fi ca => match embL m fi, embL m ca with | some a, some b => some (.func fn a.toArray b.toArray) | _, _ => none
  | .niface => some .nilIface
  | .iface t v => match emb m v with | some x => some (.iface t x) | none => none
  | .agg cs => match embL m cs with | some l => some (.agg l.toArray) | none => none
  | .tuple vs => match embL m vs with | some l => some (.tuple l.toArray) | none => none
def embL (m : RMap) : List AVal → Option (List Value)
  | [] => some []
  | v :: vs => match emb m v, embL m vs with | some x, some l => some (x :: l) | _, _ => none
end

def aundef : AVal := .tuple []

def AVal.cells : AVal → List AVal
  | .agg cs => cs
  | v => [v]

/-- A row: its cells, whether it may be written, and twice its type, and one more if it may begin within its block. -/
inductive AObj where
  | dead
  | row (cs : List AVal) (rw : Bool) (e : TypeId)
  | iter (s : ByteArray) (pos : Nat)
  deriving Inhabited

structure AHeap where
  n : Nat
  get : Nat → AObj

def AHeap.set (H : AHeap) (r : Nat) (o : AObj) : AHeap := ⟨H.n, fun i => cond (Nat.beq i r) o (H.get i)⟩
def AHeap.push (H : AHeap) (o : AObj) : AHeap := ⟨H.n + 1, fun i => cond (Nat.beq i H.n) o (H.get i)⟩

abbrev AFrame := Nat → AVal
def upd (fr : AFrame) (d : Nat) (v : AVal) : AFrame := fun i => cond (Nat.beq i d) v (fr i)

def M (α : Type) : Type := AHeap → Option (α × AHeap)
@[inline] def M.pure {α : Type} (a : α) : M α := fun H => some (a, H)
@[inline] def M.bind {α β : Type} (x : M α) (f : α → M β) : M β := fun H => match x H with | some (a, H') => f a H' | none => none
def M.fail {α : Type} : M α := fun _ => none
def M.ofOption {α : Type} : Option α → M α
  | some a => M.pure a
  | none => M.fail

inductive ROpd where
  | tmp (t : Nat)
  | val (v : AVal)
  deriving Inhabited

def ROpd.ev (fr : AFrame) : ROpd → AVal
  | .tmp t => fr t
  | .val v => v

/-- How two values of a type are compared. -/
inductive EqDesc where
  | bool | int | str | ptr | slice | func
  | fields (fs : List (Option (Nat × Nat × EqDesc)))    -- agg (some n) or cell at an offset: offset, cells (0 for one cell that is no aggregate), how
  deriving Inhabited

inductive ROp where
  | mov (x : ROpd)
  | pick (c a b : ROpd)
  | new (e : TypeId) (cs : List AVal)
  | box (e : TypeId) (x : ROpd)
  | build (zero : List AVal) (parts : List (Nat × Nat × ROpd))
  | buildSlice (e : TypeId) (sz len : Nat) (zero : List AVal) (parts : List (Nat × Nat × ROpd))
  | load (agg : Option Nat) (a : ROpd)
  | store (n : Nat) (a x : ROpd)
  | nilCheck (x : ROpd)
  | bin (op : BinOp) (x y : ROpd)
  | eq (neg : Bool) (d : EqDesc) (x y : ROpd)
  | un (op : UnOp) (x : ROpd)
  | convInt (k : IntKind) (x : ROpd)
  | mkIface (t : TypeId) (x : ROpd)
  | mkFunc (fn : Fn) (first captured : List ROpd)
  | makeSlice (e : TypeId) (zero : List AVal) (bytes : Nat) (len cap : ROpd)
  | sliceS (sz : Nat) (x : ROpd) (lo hi mx : Option ROpd)
  | sliceStr (x : ROpd) (lo hi : Option ROpd)
  | sliceArr (n sz : Nat) (x : ROpd) (lo hi mx : Option ROpd)
  | fieldAddr (off : Nat) (x : ROpd)
  | field (agg : Option Nat) (off : Nat) (x : ROpd)
  | idxS (sz : Nat) (x i : ROpd)
  | idxA (n sz : Nat) (x i : ROpd)
  | indexA (n sz : Nat) (agg : Bool) (x i : ROpd)
  | indexStr (x i : ROpd)
  | rangeStr (x : ROpd)
  | nextStr (x : ROpd)
  | extract (x : ROpd) (i : Nat)
  | call (f : ROpd) (args : List ROpd)
  | lenS (x : ROpd) | lenStr (x : ROpd) | lenA (n : Nat)
  | append (e : TypeId) (sz bytes : Nat) (x y : ROpd)
  | copy (sz : Nat) (x y : ROpd)
  | minmax (max : Bool) (xs : List ROpd)
  | bytesToStr (x : ROpd)
  | strToBytes (e : TypeId) (x : ROpd)
  | uptr (t : TypeId) (s : Nat) (x : ROpd)
  | sliceData (sz : Nat) (x : ROpd)
  | unsafeStr (e : TypeId) (x n : ROpd)
  deriving Inhabited

structure ROper where
  dst : Option Nat
  op : ROp
  guard : Option (Nat × Bool)
  deriving Inhabited

/-- An operation of a region that draws its order: those that it must follow, its class (that of its kind; an allocation that hangs on a call is an effect), and whether it hangs on no effect. -/
structure DItem where
  o : ROper
  b : Nat
  cls : Nat
  pre : Bool
  deriving Inhabited

inductive RCode where
  | skip
  | region (ops : List ROper)
  | dregion (ops : List DItem)
  | seq (a b : RCode)
  | cond (c : ROpd) (t e : RCode)
  | block (id : Nat) (b : RCode)
  | loop (b : RCode)
  | scope (b : RCode)
  | label
  | exit (id : Nat)
  | ret
  | fail
  deriving Inhabited

inductive RRes where
  | tmp (t : Nat)
  | cell (t : Nat) (agg : Option Nat)
  deriving Inhabited

inductive RBody where
  | code (c : RCode)
  | ext (k : Nat)
  deriving Inhabited

structure RFunc where
  nt : Nat
  body : RBody
  results : List RRes
  deriving Inhabited

/- ===== the pure parts of operations ===== -/

def intBin (op : BinOp) (k k' : IntKind) (a b : Int) : Option AVal :=
  match op with
  | .shl => if b < 0 then none else some (.int k (k.wrap (a * 2 ^ (min b.toNat k.bits))))
  | .shr => if b < 0 then none else some (.int k (a.fdiv (2 ^ (min b.toNat k.bits))))
  | _ =>
    if k ≠ k' then none else
    match op with
    | .add => some (.int k (k.wrap (a + b)))
    | .sub => some (.int k (k.wrap (a - b)))
    | .mul => some (.int k (k.wrap (a * b)))
    | .quo => if b = 0 then none else some (.int k (k.wrap (a.tdiv b)))
    | .rem => if b = 0 then none else some (.int k (a.tmod b))
    | .and => some (.int k (Go.bits .and k a b))
    | .or => some (.int k (Go.bits .or k a b))
    | .xor => some (.int k (Go.bits .xor k a b))
    | .andNot => some (.int k (Go.bits .andNot k a b))
    | .eql => some (.bool (a == b))
    | .neq => some (.bool (a != b))
    | .lss => some (.bool (decide (a < b)))
    | .leq => some (.bool (decide (a ≤ b)))
    | .gtr => some (.bool (decide (a > b)))
    | .geq => some (.bool (decide (a ≥ b)))
    | _ => none

def strBin (op : BinOp) (x y : ByteArray) : Option AVal :=
  match op with
  | .add => if ((x.size + y.size : Nat) : Int) > IntKind.i64.max then none else some (.str (x ++ y))
  | .eql => some (.bool (x.toList == y.toList))
  | .neq => some (.bool (!(x.toList == y.toList)))
  | .lss => some (.bool (Op.bytesLess x.toList y.toList))
  | .leq => some (.bool (Op.bytesLess x.toList y.toList || x.toList == y.toList))
  | .gtr => some (.bool (!(Op.bytesLess x.toList y.toList || x.toList == y.toList)))
  | .geq => some (.bool (!(Op.bytesLess x.toList y.toList)))
  | _ => none

def aBin (op : BinOp) : AVal → AVal → Option AVal
  | .int k a, .int k' b => intBin op k k' a b
  | .str a, .str b => strBin op a b
  | _, _ => none

def aPart (agg : Nat) (cs : List AVal) (off : Nat) : Option AVal :=
  if agg = 0 then cs[off]? else some (.agg ((cs.drop off).take agg))

mutual
def aEq : EqDesc → AVal → AVal → Option Bool
  | .bool, .bool a, .bool b => some (a == b)
  | .int, .int k a, .int k' b => if k = k' then some (a == b) else none
  | .str, .str a, .str b => some (a == b)
  | .ptr, .nptr, .nptr => some true
  | .ptr, .ptr r o, .ptr r' o' => if r = r' ∧ o = o' then some true else none
  | .ptr, .nptr, .ptr _ _ => some false
  | .ptr, .ptr _ _, .nptr => some false
  | .slice, .nslice, .nslice => some true
  | .slice, .nslice, .slice .. => some false
  | .slice, .slice .., .nslice => some false
  | .func, .nfunc, .nfunc => some true
  | .func, .nfunc, .func .. => some false
  | .func, .func .., .nfunc => some false
  | .fields fs, .agg xs, .agg ys => aEqs fs xs ys
  | _, _, _ => none
def aEqs : List (Option (Nat × Nat × EqDesc)) → List AVal → List AVal → Option Bool
  | [], _, _ => some true
  | none :: fs, xs, ys => aEqs fs xs ys
  | some (off, agg, d) :: fs, xs, ys =>
    match aPart agg xs off, aPart agg ys off with
    | some a, some b => match aEq d a b with
      | some true => aEqs fs xs ys
      | some false => some false
      | none => none
    | _, _ => none
end

def aUn (op : UnOp) : AVal → Option AVal
  | .int k n => match op with
    | .neg => some (.int k (k.wrap (0 - n)))
    | .xor => some (.int k (Go.bits .xor k (if k.signed then -1 else k.max) n))
    | _ => none
  | .bool b => match op with | .not => some (.bool !b) | _ => none
  | _ => none

/-- Overwrite the cells from an offset on. -/
def setAt (cs : List AVal) : Nat → List AVal → List AVal
  | _, [] => cs
  | off, v :: vs => setAt (cs.set off v) (off + 1) vs

def aFill (fr : AFrame) (cells : List AVal) : List (Nat × Nat × ROpd) → Option (List AVal)
  | [] => some cells
  | (off, size, x) :: rest =>
    let vs := (x.ev fr).cells
    if vs.length ≠ size ∨ off + vs.length > cells.length then none else aFill fr (setAt cells off vs) rest

def aNew (o : AObj) : M Nat := fun H => some (H.n, H.push o)
def aRow (r : Nat) : M (List AVal × Bool) := fun H => if r < H.n then match H.get r with | .row cs rw _ => some ((cs, rw), H) | _ => none else none

/-- A row of a type moves: it dies, and a new one is there. -/
def aMove (r : Nat) (e : TypeId) (o : AObj) : M Nat := fun H => match H.get r with
  | .row _ _ e' => match Nat.beq (e' / 2) e with | true => some (H.n, (H.set r .dead).push o) | false => none
  | _ => none

def aLoad (agg : Option Nat) : AVal → M AVal
  | .ptr r off => M.bind (aRow r) fun (cs, _) =>
    match agg with
    | some n => if off + n ≤ cs.length then M.pure (.agg ((cs.drop off).take n)) else M.fail
    | none => match cs[off]? with | some v => M.pure v | none => M.fail
  | _ => M.fail

def AVal.one : AVal → Bool
  | .agg _ | .tuple _ => false
  | _ => true

/-- Write cells into a row. -/
def aWrite (r off : Nat) (vs : List AVal) : M Unit := fun H =>
  if r < H.n then
    match H.get r with
    | .row cs rw e => if rw && decide (off + vs.length ≤ cs.length) && vs.all AVal.one then some ((), H.set r (.row (setAt cs off vs) rw e)) else none
    | _ => none
  else none

def aStore (n : Nat) : AVal → AVal → M AVal
  | .ptr r off, v => if v.cells.length = n then M.bind (aWrite r off v.cells) fun _ => M.pure aundef else M.fail
  | _, _ => M.fail

def aNilCheck : AVal → Option AVal
  | .ptr r off => some (.ptr r off)
  | _ => none

def aBound (y : Nat) : AVal → Option Nat
  | .int _ i => if 0 ≤ i ∧ i ≤ y then some i.toNat else none
  | _ => none

/-- The bounds of a slice expression: low, high, and the new capacity's end. -/
def aLow (h : Nat) : Option AVal → Option Nat
  | none => some 0
  | some v => aBound h v
def aHigh (len y : Nat) : Option AVal → Option Nat
  | none => some len
  | some v => aBound y v
def capD (len : Nat) : Option Nat → Nat | some c => c | none => len
def aBounds (len : Nat) (cap : Option Nat) (lo hi mx : Option AVal) : Option (Nat × Nat × Option Nat) :=
  match mx with
  | some mv => match hi, aBound (capD len cap) mv with
    | some hv, some mm => match aBound mm hv with
      | some h => match aLow h lo with | some l => some (l, h, some mm) | none => none
      | none => none
    | _, _ => none
  | none => match aHigh len (capD len cap) hi with
    | some h => match aLow h lo with | some l => some (l, h, cap) | none => none
    | none => none

def aSliceS (sz : Nat) (x : AVal) (lo hi mx : Option AVal) : M AVal :=
  match x with
  | .nslice => match aBounds 0 (some 0) lo hi mx with
    | some (_, _, _) => M.pure .nslice
    | none => M.fail
  | .slice r off len cap s =>
    if s ≠ sz then M.fail else
    match aBounds len cap lo hi mx with
    | none => M.fail
    | some (l, h, mm) =>
      match cap with
      | some _ => match mm with
        | some m => M.pure (if m = l then .slice r off (h - l) (some 0) sz else .slice r (off + l * sz) (h - l) (some (m - l)) sz)
        | none => M.fail
      | none =>
        if sz = 0 then M.fail
        else M.bind (aRow r) fun (cs, _) => if cs.length < off + len * sz then M.fail
        else match mm with
        | some m => M.pure (if m = l then .slice r off (h - l) (some 0) sz else .slice r (off + l * sz) (h - l) (some (m - l)) sz)
        | none =>
          if l < h ∨ l = 0 then M.pure (.slice r (off + l * sz) (h - l) none sz)
          else M.bind (aNew (.row [] false 0)) fun r' => M.pure (.slice r' 0 0 none sz)
  | _ => M.fail

def aSliceArr (n sz : Nat) (x : AVal) (lo hi mx : Option AVal) : Option AVal :=
  match x with
  | .ptr r off =>
    match aBounds n (some n) lo hi mx with
    | some (l, h, some m) => if m = l then some (.slice r off (h - l) (some 0) sz) else some (.slice r (off + l * sz) (h - l) (some (m - l)) sz)
    | _ => none
  | _ => none

def aSliceStr (x : AVal) (lo hi : Option AVal) : Option AVal :=
  match x with
  | .str s => match aBounds s.size (some s.size) lo hi none with
    | some (l, h, _) => some (.str (s.extract l h))
    | none => none
  | _ => none

def aIdxS (sz : Nat) : AVal → AVal → Option AVal
  | .slice r off len _ s, .int _ i => if s = sz ∧ 0 ≤ i ∧ i < len then some (.ptr r (off + i.toNat * sz)) else none
  | _, _ => none
def aIdxA (n sz : Nat) : AVal → AVal → Option AVal
  | .ptr r off, .int _ i => if 0 ≤ i ∧ i < n then some (.ptr r (off + i.toNat * sz)) else none
  | _, _ => none
def aIndexA (n sz : Nat) (agg : Bool) : AVal → AVal → Option AVal
  | .agg cs, .int _ i => if 0 ≤ i ∧ i < n then (if agg then some (.agg ((cs.drop (i.toNat * sz)).take sz)) else cs[i.toNat * sz]?) else none
  | _, _ => none
def aIndexStr : AVal → AVal → Option AVal
  | .str s, .int _ i => if 0 ≤ i then (match s[i.toNat]? with | some b => some (.int .u8 b.toNat) | none => none) else none
  | _, _ => none
def aField (agg : Option Nat) (off : Nat) : AVal → Option AVal
  | .agg cs => match agg with | some n => some (.agg ((cs.drop off).take n)) | none => cs[off]?
  | _ => none
def aFieldAddr (off : Nat) : AVal → Option AVal
  | .ptr r o => some (.ptr r (o + off))
  | _ => none
def aExtract (i : Nat) : AVal → Option AVal
  | .tuple vs => vs[i]?
  | _ => none
def aLenS : AVal → Option AVal
  | .nslice => some (.int .i64 0)
  | .slice _ _ len _ _ => some (.int .i64 len)
  | _ => none
def aLenStr : AVal → Option AVal
  | .str s => some (.int .i64 s.size)
  | _ => none
def aMinMax (max : Bool) : AVal → List AVal → Option AVal
  | v, [] => some v
  | .int k x, .int _ y :: rest => aMinMax max (.int k (if max then (if y > x then y else x) else (if y < x then y else x))) rest
  | _, _ => none

def aMakeSlice (e : TypeId) (zero : List AVal) (bytes : Nat) : AVal → AVal → M AVal
  | .int _ len, .int _ cap =>
    if 0 ≤ len ∧ len ≤ cap ∧ bytes * cap ≤ 2 ^ 47 ∧ cap < 2 ^ 62 then
      M.bind (aNew (.row ((List.replicate cap.toNat zero).flatten) true (2 * e))) fun r => M.pure (.slice r 0 len.toNat (some cap.toNat) zero.length)
    else M.fail
  | _, _ => M.fail

/-- The first cells of what is appended or copied. -/
def aFirst (sz n : Nat) : AVal → M (List AVal)
  | .nslice => M.pure []
  | .slice r off _ _ s => if s ≠ sz then M.fail else M.bind (aRow r) fun (cs, _) => if off + n * sz ≤ cs.length then M.pure ((cs.drop off).take (n * sz)) else M.fail
  | .str s => M.pure ((s.extract 0 n).data.toList.map fun b => .int .u8 b.toNat)
  | _ => M.fail
def aLenOf : AVal → Option Nat
  | .nslice => some 0
  | .slice _ _ len _ _ => some len
  | .str s => some s.size
  | _ => none

def aAppend (e : TypeId) (sz bytes : Nat) (s x : AVal) : M AVal :=
  match aLenOf x with
  | none => M.fail
  | some n =>
    M.bind (aFirst sz n x) fun new =>
    if !(new.all AVal.one) || decide (new.length ≠ n * sz) || decide (sz = 0) || decide (bytes = 0) then M.fail else
    match s with
    | .nslice =>
      if n = 0 then M.pure .nslice
      else if 2 * n * bytes ≤ 2 ^ 48 then M.bind (aNew (.row new true (2 * e))) fun r => M.pure (.slice r 0 n none sz) else M.fail
    | .slice r off len cap s' =>
      if s' ≠ sz then M.fail else
      M.bind (aRow r) fun (cs, rw) =>
      if n = 0 then (match cap with
        | some c => if len ≤ c then M.pure s else M.fail
        | none => if off + len * sz ≤ cs.length then M.pure s else M.fail) else
      match cap with
      | some c =>
        if len + n ≤ c then M.bind (aWrite r (off + len * sz) new) fun _ => M.pure (.slice r off (len + n) (some c) sz)
        else if off + len * sz ≤ cs.length ∧ 2 * (len + n) * bytes ≤ 2 ^ 48 then
          M.bind (aNew (.row ((cs.drop off).take (len * sz) ++ new) true (2 * e))) fun r' => M.pure (.slice r' 0 (len + n) none sz)
        else M.fail
      | none =>
        if off + (len + n) * sz ≤ cs.length then M.bind (aWrite r (off + len * sz) new) fun _ => M.pure (.slice r off (len + n) none sz)
        else if rw && decide (off + len * sz ≤ cs.length) && decide (2 * (len + n) * bytes ≤ 2 ^ 48) then
          M.bind (aMove r e (.row ((cs.drop off).take (len * sz) ++ new) true (2 * e + 1))) fun r' => M.pure (.slice r' 0 (len + n) none sz)
        else M.fail
    | _ => M.fail

def aCopy (sz : Nat) (d x : AVal) : M AVal :=
  match aLenOf x, aLenOf d with
  | some a, some b =>
    let n := min a b
    M.bind (aFirst sz n x) fun new =>
    if decide (new.length ≠ n * sz) then M.fail else
    match d with
    | .nslice => M.pure (.int .i64 n)
    | .slice r off _ _ s => if s ≠ sz then M.fail else if new.isEmpty then M.pure (.int .i64 n) else M.bind (aWrite r off new) fun _ => M.pure (.int .i64 n)
    | _ => M.fail
  | _, _ => M.fail

def bytesOf : List AVal → Option (List UInt8)
  | [] => some []
  | .int .u8 n :: vs => match bytesOf vs with | some l => some (UInt8.ofNat n.toNat :: l) | none => none
  | _ => none
def aBytesToStr : AVal → M AVal
  | .nslice => M.pure (.str .empty)
  | .slice r off len _ s => if s ≠ 1 then M.fail else M.bind (aRow r) fun (cs, _) => if off + len ≤ cs.length then
      match bytesOf ((cs.drop off).take len) with | some l => M.pure (.str ⟨l.toArray⟩) | none => M.fail
    else M.fail
  | _ => M.fail
def aStrToBytes (e : TypeId) : AVal → M AVal
  | .str s => M.bind (aNew (.row (s.data.toList.map fun b => .int .u8 b.toNat) true (2 * e))) fun r => M.pure (.slice r 0 s.size none 1)
  | _ => M.fail

/-- A pointer to a whole variable, seen as no type, or as its own again. -/
def aUptr (t : TypeId) (s : Nat) : AVal → M AVal
  | .nptr => M.pure .nptr
  | .ptr r off => fun H => match Nat.blt r H.n && Nat.beq off 0 && Nat.blt 0 s with
    | true => match H.get r with
      | .row cs true e => match Nat.beq e (2 * t) && Nat.ble s cs.length with
        | true => some (.ptr r off, H)
        | false => none
      | _ => none
    | false => none
  | _ => M.fail
def aSliceData (sz : Nat) : AVal → M AVal
  | .nslice => M.pure .nptr
  | .slice r off _ cap s => match cap with
    | some c => if c = 0 then M.fail else M.pure (.ptr r off)
    | none => M.bind (aRow r) fun (cs, _) => if s = sz ∧ 0 < sz ∧ off + sz ≤ cs.length then M.pure (.ptr r off) else M.fail
  | _ => M.fail
/-- The string that shares its bytes with a row: the row is not written any more. -/
def aUnsafeRow (t : TypeId) (r off : Nat) (n : Int) : M AVal := fun H => match Nat.blt r H.n && decide (0 ≤ n) && decide (n < 2 ^ 62) with
  | true => match H.get r with
    | .row cs true e => match Nat.beq (e / 2) t && Nat.ble (off + n.toNat) cs.length with
      | true => match bytesOf ((cs.drop off).take n.toNat) with
        | some l => some (.str ⟨l.toArray⟩, H.set r (.row cs false e))
        | none => none
      | false => none
    | _ => none
  | false => none
def aUnsafeStr (t : TypeId) : AVal → AVal → M AVal
  | .nptr, .int .i64 n => if n = 0 then M.pure (.str .empty) else M.fail
  | .ptr r off, .int .i64 n => if n = 0 then M.pure (.str .empty) else aUnsafeRow t r off n
  | _, _ => M.fail

abbrev ACall := FuncId → List AVal → M AVal

def aCallV (call : ACall) : AVal → List AVal → M AVal
  | .func (.func f) first caps, args => call f (first ++ args ++ caps)
  | _, _ => M.fail

def ROp.exec (call : ACall) (fr : AFrame) : ROp → M AVal
  | .mov x => M.pure (x.ev fr)
  | .pick c a b => match c.ev fr with
    | .bool t => M.pure (match t with | true => a.ev fr | false => b.ev fr)
    | _ => M.fail
  | .new e cs => M.bind (aNew (.row cs true (2 * e))) fun r => M.pure (.ptr r 0)
  | .box e x => M.bind (aNew (.row (x.ev fr).cells true (2 * e))) fun r => M.pure (.ptr r 0)
  | .build zero parts => match aFill fr zero parts with | some cs => M.pure (.agg cs) | none => M.fail
  | .buildSlice e sz len zero parts => match aFill fr zero parts with
    | some cs => M.bind (aNew (.row cs true (2 * e))) fun r => M.pure (.slice r 0 len (some len) sz)
    | none => M.fail
  | .load agg a => aLoad agg (a.ev fr)
  | .store n a x => aStore n (a.ev fr) (x.ev fr)
  | .nilCheck x => M.ofOption (aNilCheck (x.ev fr))
  | .bin op x y => M.ofOption (aBin op (x.ev fr) (y.ev fr))
  | .eq neg d x y => match aEq d (x.ev fr) (y.ev fr) with
    | some b => M.pure (.bool (match neg with | true => !b | false => b))
    | none => M.fail
  | .un op x => M.ofOption (aUn op (x.ev fr))
  | .convInt k x => match x.ev fr with | .int _ n => M.pure (.int k (k.wrap n)) | _ => M.fail
  | .mkIface t x => M.pure (.iface t (x.ev fr))
  | .mkFunc fn first caps => M.pure (.func fn (first.map (·.ev fr)) (caps.map (·.ev fr)))
  | .makeSlice e zero bytes l c => aMakeSlice e zero bytes (l.ev fr) (c.ev fr)
  | .sliceS sz x lo hi mx => (aSliceS sz (x.ev fr) (lo.map (·.ev fr)) (hi.map (·.ev fr)) (mx.map (·.ev fr)))
  | .sliceStr x lo hi => M.ofOption (aSliceStr (x.ev fr) (lo.map (·.ev fr)) (hi.map (·.ev fr)))
  | .sliceArr n sz x lo hi mx => M.ofOption (aSliceArr n sz (x.ev fr) (lo.map (·.ev fr)) (hi.map (·.ev fr)) (mx.map (·.ev fr)))
  | .fieldAddr off x => M.ofOption (aFieldAddr off (x.ev fr))
  | .field agg off x => M.ofOption (aField agg off (x.ev fr))
  | .idxS sz x i => M.ofOption (aIdxS sz (x.ev fr) (i.ev fr))
  | .idxA n sz x i => M.ofOption (aIdxA n sz (x.ev fr) (i.ev fr))
  | .indexA n sz agg x i => M.ofOption (aIndexA n sz agg (x.ev fr) (i.ev fr))
  | .indexStr x i => M.ofOption (aIndexStr (x.ev fr) (i.ev fr))
  | .rangeStr _ => M.fail
  | .nextStr _ => M.fail
  | .extract x i => M.ofOption (aExtract i (x.ev fr))
  | .call f args => aCallV call (f.ev fr) (args.map (·.ev fr))
  | .lenS x => M.ofOption (aLenS (x.ev fr))
  | .lenStr x => M.ofOption (aLenStr (x.ev fr))
  | .lenA n => M.pure (.int .i64 n)
  | .append e sz bytes x y => aAppend e sz bytes (x.ev fr) (y.ev fr)
  | .copy sz x y => aCopy sz (x.ev fr) (y.ev fr)
  | .minmax max xs => match xs with | [] => M.fail | x :: rest => M.ofOption (aMinMax max (x.ev fr) (rest.map (·.ev fr)))
  | .bytesToStr x => aBytesToStr (x.ev fr)
  | .strToBytes e x => aStrToBytes e (x.ev fr)
  | .uptr t s x => aUptr t s (x.ev fr)
  | .sliceData sz x => aSliceData sz (x.ev fr)
  | .unsafeStr e x n => aUnsafeStr e (x.ev fr) (n.ev fr)

/-- 0: of the frame alone; 1: reads the heap; 2: writes it, or calls; 3: makes a row. -/
def ROp.kind : ROp → Nat
  | .mov _ | .pick .. | .build .. | .nilCheck _ | .bin .. | .eq .. | .un .. | .convInt .. | .mkIface .. | .mkFunc .. | .sliceStr .. | .sliceArr .. | .fieldAddr .. | .field .. | .idxS .. | .idxA .. | .indexA .. | .indexStr .. | .extract ..
  | .lenS _ | .lenStr _ | .lenA _ | .minmax .. => 0
  | .load .. | .sliceS .. | .bytesToStr _ | .uptr .. | .sliceData .. => 1
  | .new .. | .box .. | .buildSlice .. | .makeSlice .. => 3
  | _ => 2

def ROpd.tmps : ROpd → List Nat
  | .tmp t => [t]
  | .val _ => []
def optTmps : Option ROpd → List Nat
  | some x => x.tmps
  | none => []
def ROp.tmps : ROp → List Nat
  | .mov x | .box _ x | .load _ x | .nilCheck x | .un _ x | .convInt _ x | .mkIface _ x | .sliceStr x none none | .fieldAddr _ x | .field _ _ x | .rangeStr x | .nextStr x | .extract x _ | .lenS x | .lenStr x | .bytesToStr x | .strToBytes _ x | .uptr _ _ x | .sliceData _ x => x.tmps
  | .pick c a b => c.tmps ++ a.tmps ++ b.tmps
  | .new _ _ | .lenA _ => []
  | .build _ ps | .buildSlice _ _ _ _ ps => ps.flatMap fun p => p.2.2.tmps
  | .store _ a x | .bin _ a x | .eq _ _ a x | .makeSlice _ _ _ a x | .idxS _ a x | .idxA _ _ a x | .indexA _ _ _ a x | .indexStr a x | .append _ _ _ a x | .copy _ a x | .unsafeStr _ a x => a.tmps ++ x.tmps
  | .mkFunc _ a b => a.flatMap ROpd.tmps ++ b.flatMap ROpd.tmps
  | .sliceS _ x lo hi mx | .sliceArr _ _ x lo hi mx => x.tmps ++ optTmps lo ++ optTmps hi ++ optTmps mx
  | .sliceStr x lo hi => x.tmps ++ optTmps lo ++ optTmps hi
  | .call f l => f.tmps ++ l.flatMap ROpd.tmps
  | .minmax _ l => l.flatMap ROpd.tmps

mutual
def abeq : AVal → AVal → Bool
  | .bool a, .bool b => a == b
  | .int k a, .int k' b => decide (k = k') && decide (a = b)
  | .str a, .str b => decide (a = b)
  | .nptr, .nptr => true
  | .ptr r o, .ptr r' o' => Nat.beq r r' && Nat.beq o o'
  | .nslice, .nslice => true
  | .slice r o l c z, .slice r' o' l' c' z' => Nat.beq r r' && Nat.beq o o' && Nat.beq l l' && decide (c = c') && Nat.beq z z'
  | .nfunc, .nfunc => true
  | .func f a b, .func f' a' b' => decide (f = f') && abeqL a a' && abeqL b b'
  | .niface, .niface => true
  | .iface t v, .iface t' v' => Nat.beq t t' && abeq v v'
  | .agg a, .agg b => abeqL a b
  | .tuple a, .tuple b => abeqL a b
  | _, _ => false
def abeqL : List AVal → List AVal → Bool
  | [], [] => true
  | a :: as, b :: bs => abeq a b && abeqL as bs
  | _, _ => false
end

def ROper.wanted (fr : AFrame) (o : ROper) : Bool :=
  match o.guard with
  | none => true
  | some (t, want) => match fr t with | .bool b => (match want with | true => b | false => !b) | _ => false

def put (fr : AFrame) (d : Option Nat) (v : AVal) : AFrame := match d with | some d => upd fr d v | none => fr

def execOps (call : ACall) : List ROper → AFrame → M AFrame
  | [], fr => M.pure fr
  | o :: os, fr => match o.wanted fr with
    | true => M.bind (o.op.exec call fr) fun v => execOps call os (put fr o.dst v)
    | false => execOps call os (put fr o.dst aundef)

/-- The row that an operation makes: its cells, its type, and the value, given the row's number. -/
def ROp.made (fr : AFrame) : ROp → Option (List AVal × TypeId × (Nat → AVal))
  | .new e cs => some (cs, e, fun r => .ptr r 0)
  | .box e x => some ((x.ev fr).cells, e, fun r => .ptr r 0)
  | .buildSlice e sz len zero parts => match aFill fr zero parts with
    | some cs => some (cs, e, fun r => .slice r 0 len (some len) sz)
    | none => none
  | .makeSlice e zero bytes l c => match l.ev fr, c.ev fr with
    | .int _ len, .int _ cap =>
      if 0 ≤ len ∧ len ≤ cap ∧ bytes * cap ≤ 2 ^ 47 ∧ cap < 2 ^ 62 then some ((List.replicate cap.toNat zero).flatten, e, fun r => .slice r 0 len.toNat (some cap.toNat) zero.length) else none
    | _, _ => none
  | _ => none

/-- What one such operation did, in the text's order. -/
structure DRec where
  o : ROper
  b : Nat
  cls : Nat
  fr : AFrame
  v : AVal
  want : Bool
  eff : Bool
  hp : AHeap
  ref : Nat

def noCall : ACall := fun _ _ => M.fail

def ghostIs (H : AHeap) (ref : Nat) (cs : List AVal) (e : TypeId) : Bool :=
  Nat.blt ref H.n && match H.get ref with | .row cs' true e' => abeqL cs' cs && Nat.beq e' (2 * e) | _ => false

def dstep (call : ACall) (it : DItem) (ref : Nat) (fr : AFrame) (H : AHeap) : Option (AVal × Bool × AHeap) :=
  match Nat.beq it.cls 2 with
  | true => match it.o.op.exec call fr H with
    | some (v, H1) => some (v, true, H1)
    | none => none
  | false => match Nat.beq it.cls 3 with
    | true => match it.o.op.made fr with
      | some (cs, e, k) => match ghostIs H ref cs e with | true => some (k ref, false, H) | false => none
      | none => none
    | false => match it.o.op.exec noCall fr H with
      | some (v, H1) => match Nat.beq H1.n H.n with | true => some (v, false, H) | false => none
      | none => none

def nextRef (cls ref : Nat) : Nat := match Nat.beq cls 3 with | true => ref + 1 | false => ref

def dtext (call : ACall) : List DItem → Nat → AFrame → AHeap → Option (List DRec × AFrame × AHeap)
  | [], _, fr, H => some ([], fr, H)
  | it :: rest, ref, fr, H =>
    match it.o.wanted fr with
    | false => match dtext call rest (nextRef it.cls ref) (put fr it.o.dst aundef) H with
      | some (R, fr', H') => some (⟨it.o, it.b, it.cls, fr, aundef, false, false, H, ref⟩ :: R, fr', H')
      | none => none
    | true => match dstep call it ref fr H with
      | none => none
      | some (v, eff, H1) => match dtext call rest (nextRef it.cls ref) (put fr it.o.dst v) H1 with
        | some (R, fr', H') => some (⟨it.o, it.b, it.cls, fr, v, true, eff, H1, ref⟩ :: R, fr', H')
        | none => none

/-- The operation gives the same at another heap. -/
def DRec.okAt (r : DRec) (H : AHeap) : Bool :=
  match Nat.beq r.cls 3 with
  | true => match r.o.op.made r.fr with
    | some (cs, e, _) => ghostIs H r.ref cs e
    | none => false
  | false => match r.o.op.exec noCall r.fr H with
    | some (v, H') => abeq v r.v && Nat.beq H'.n H.n
    | none => false

/-- At every heap that it may meet: 'cur': behind the effect that was looked at last; 'may': the operation may come behind that one. -/
def DRec.chk (r : DRec) (k : Nat) : List DRec → Nat → AHeap → Bool → Bool
  | [], _, cur, may => !may || r.okAt cur
  | e :: es, i, cur, may => match e.eff with
    | false => r.chk k es (i + 1) cur may
    | true => (!may || r.b.testBit i || r.okAt cur) && r.chk k es (i + 1) e.hp (!(e.b.testBit k))

def dcheck (R : List DRec) (H0 : AHeap) : List DRec → Nat → Bool
  | [], _ => true
  | r :: rs, k => (match r.want && (Nat.beq r.cls 1 || Nat.beq r.cls 3) with | true => r.chk k R 0 H0 true | false => true) && dcheck R H0 rs (k + 1)

/-- The rows that will be made, as far as they hang on no effect (a guess: the check follows). -/
def oracle : List DItem → Nat → AFrame → AHeap → List AObj
  | [], _, _, _ => []
  | it :: rest, ref, fr, H =>
    match Nat.beq it.cls 3 with
    | true => match it.o.wanted fr with
      | true => match it.o.op.made fr with
        | some (cs, e, k) => .row cs true (2 * e) :: oracle rest (ref + 1) (put fr it.o.dst (k ref)) H
        | none => .dead :: oracle rest (ref + 1) fr H
      | false => .dead :: oracle rest (ref + 1) (put fr it.o.dst aundef) H
    | false => match it.pre with
      | true => match it.o.wanted fr with
        | true => match it.o.op.exec noCall fr H with
          | some (v, _) => oracle rest ref (put fr it.o.dst v) H
          | none => oracle rest ref fr H
        | false => oracle rest ref (put fr it.o.dst aundef) H
      | false => oracle rest ref fr H

def pushAll (H : AHeap) : List AObj → AHeap
  | [] => H
  | o :: os => pushAll (H.push o) os

def ROper.looks (o : ROper) : List Nat := o.op.tmps ++ (match o.guard with | some (t, _) => [t] | none => [])

/-- Two operations of which the order matters. -/
def clash (x y : DItem) : Bool :=
  (match x.o.dst with | some d => y.o.looks.contains d || (match y.o.dst with | some e => Nat.beq d e | none => false) | none => false) ||
  (match y.o.dst with | some d => x.o.looks.contains d | none => false) ||
  (Nat.beq x.cls 2 && Nat.beq y.cls 2)

def clashes (y : DItem) : List DItem → Nat → Bool
  | [], _ => true
  | x :: xs, i => (!(clash x y) || y.b.testBit i) && clashes y xs (i + 1)

def orderOk : List DItem → List DItem → Bool
  | [], _ => true
  | y :: rest, before => clashes y before 0 && (Nat.beq y.cls y.o.op.kind || (Nat.beq y.o.op.kind 3 && Nat.beq y.cls 2)) && orderOk rest (before ++ [y])

inductive RExit where
  | normal | exit (id : Nat) | ret
  deriving Inhabited

def loopN (body : AFrame → M (RExit × AFrame)) : Nat → AFrame → M (RExit × AFrame)
  | 0, _ => M.fail
  | n + 1, fr => M.bind (body fr) fun (x, fr') => match x with
    | .normal => loopN body n fr'
    | e => M.pure (e, fr')

def RCode.exec (call : ACall) (lf : Nat) : RCode → AFrame → M (RExit × AFrame)
  | .skip, fr => M.pure (.normal, fr)
  | .label, fr => M.pure (.normal, fr)
  | .region ops, fr => M.bind (execOps call ops fr) fun fr' => M.pure (.normal, fr')
  | .dregion ops, fr => fun H => match dtext call ops H.n fr (pushAll H (oracle ops H.n fr H)) with
    | some (R, fr', H') => match dcheck R (pushAll H (oracle ops H.n fr H)) R 0 with | true => some ((.normal, fr'), H') | false => none
    | none => none
  | .seq a b, fr => M.bind (a.exec call lf fr) fun (x, fr') => match x with
    | .normal => b.exec call lf fr'
    | e => M.pure (e, fr')
  | .cond c t e, fr => match c.ev fr with
    | .bool b => match b with | true => t.exec call lf fr | false => e.exec call lf fr
    | _ => M.fail
  | .block id b, fr => M.bind (b.exec call lf fr) fun (x, fr') => match x with
    | .exit id' => match Nat.beq id' id with | true => M.pure (.normal, fr') | false => M.pure (.exit id', fr')
    | e => M.pure (e, fr')
  | .loop b, fr => loopN (b.exec call lf) lf fr
  | .scope b, fr => b.exec call lf fr
  | .exit id, fr => M.pure (.exit id, fr)
  | .ret, fr => M.pure (.ret, fr)
  | .fail, _ => M.fail

def RRes.get (fr : AFrame) : RRes → M AVal
  | .tmp t => M.pure (fr t)
  | .cell t agg => aLoad agg (fr t)
def getAll (fr : AFrame) : List RRes → M (List AVal)
  | [] => M.pure []
  | r :: rs => M.bind (r.get fr) fun v => M.bind (getAll fr rs) fun vs => M.pure (v :: vs)
def aResult : List AVal → AVal
  | [v] => v
  | vs => .tuple vs

def argFrame : List AVal → AFrame
  | [] => fun _ => aundef
  | v :: vs => fun i => match i with | 0 => v | i + 1 => argFrame vs i

abbrev Exts := Nat → List AVal → M AVal

def RFunc.run (ext : Exts) (call : ACall) (lf : Nat) (fn : RFunc) (args : List AVal) : M AVal :=
  match fn.body with
  | .ext name => ext name args
  | .code c => if fn.nt < args.length then M.fail else M.bind (c.exec call lf (argFrame args)) fun (x, fr) => match x with
    | .exit _ => M.fail
    | _ => M.bind (getAll fr fn.results) fun vs => M.pure (aResult vs)

def callN (ext : Exts) (prog : FuncId → Option RFunc) : Nat → ACall
  | 0, _, _ => M.fail
  | n + 1, f, args => match prog f with
    | some fn => fn.run ext (callN ext prog n) n args
    | none => M.fail

end Go.Am
