/- From the model's code to the small machine's: types are looked up once; what is not served is none. -/
import Derived.Test.YtofdnhdoblpniaaDoorAmCore
set_option linter.unusedSimpArgs false
set_option linter.unusedVariables false
namespace Go.Am
open Go

mutual
def ofV : Value → Option AVal
  | .bool b => some (.bool b)
  | .int k n => some (.int k n)
  | .string s => some (.str s)
  | .pointer none => some .nptr
  | .slice none 0 0 => some .nslice
  | .nilFunc => some .nfunc
  | .nilIface => some .niface
  | .agg ⟨cs⟩ => match ofVL cs with | some l => some (.agg l) | none => none
  | .tuple ⟨vs⟩ => match ofVL vs with | some l => some (.tuple l) | none => none
  | .iface t v => match ofV v with | some x => some (.iface t x) | none => none
  | _ => none
def ofVL : List Value → Option (List AVal)
  | [] => some []
  | v :: vs => match ofV v, ofVL vs with | some x, some l => some (x :: l) | _, _ => none
end

/-- Operands: temporaries below the function's number of them. -/
def cOpd (G nt : Nat) : Operand → Option ROpd
  | .tmp t => if t < nt then some (.tmp t) else none
  | .const v => match ofV v with | some x => some (.val x) | none => none
  | .global g => if g < G then some (.val (.ptr g 0)) else none
  | .func f => some (.val (.func (.func f) [] []))

def cOpds (G nt : Nat) : List Operand → Option (List ROpd)
  | [] => some []
  | x :: xs => match cOpd G nt x, cOpds G nt xs with | some a, some l => some (a :: l) | _, _ => none

def cOpt (G nt : Nat) : Option Operand → Option (Option ROpd)
  | none => some none
  | some x => match cOpd G nt x with | some a => some (some a) | none => none

section
variable (P : Program)

/-- Whether a type is an aggregate (some cells), or one cell (none). -/
def cAgg (t : TypeId) : Option (Option Nat) :=
  match P.underlying t, P.info? t with
  | some (.struct _), some i | some (.array _ _), some i => some (some i.size)
  | some _, some i => if i.size = 1 then some none else none
  | _, _ => none

def cZero (t : TypeId) : Option (List AVal) :=
  match P.info? t with
  | some i => match i.zero with
    | some v => match ofV v with | some x => some x.cells | none => none
    | none => none
  | none => none

def cSize (t : TypeId) : Option Nat := (P.info? t).map (·.size)
def cBytes (t : TypeId) : Option Nat := (P.info? t).map (·.bytes)

def cParts (nt : Nat) (place : Nat → Option (Nat × Nat)) : List (Nat × Operand) → Option (List (Nat × Nat × ROpd))
  | [] => some []
  | (i, x) :: rest => match place i, cOpd P.globals.size nt x, cParts nt place rest with
    | some (off, size), some a, some l => some ((off, size, a) :: l)
    | _, _, _ => none

def cPlaces : List Field → Option (List (Nat × Nat))
  | [] => some []
  | f :: fs => match cSize P f.type, cPlaces fs with
    | some n, some l => some ((f.offset, n) :: l)
    | _, _ => none

def aggN (g : Option Nat) : Nat := match g with | some k => k | none => 0

mutual
def cEq : Nat → TypeId → Option EqDesc
  | 0, _ => none
  | d + 1, t =>
    match P.underlying t with
    | some .bool => some .bool
    | some (.int _) => some .int
    | some .string => some .str
    | some (.pointer e) => match cSize P e with | some _ => some .ptr | none => none
    | some (.slice _) => some .slice
    | some (.func _ _ _) => some .func
    | some (.struct fs) => if P.stoodInHeld t || P.eqGuardType P.depth t then none else
        match cEqs d fs.toList with | some l => some (.fields l) | none => none
    | _ => none
def cEqs : Nat → List Field → Option (List (Option (Nat × Nat × EqDesc)))
  | 0, _ => none
  | _, [] => some []
  | d + 1, f :: fs =>
    if f.name = "_" then (match cEqs d fs with | some l => some (none :: l) | none => none) else
    match cEq d f.type, cAgg P f.type, cEqs d fs with
    | some q, some agg, some l => if agg = some 0 then none else some (some (f.offset, aggN agg, q) :: l)
    | _, _, _ => none
end

def cEqOp (op : BinOp) (q : Option EqDesc) (x y : Option ROpd) : Option ROp :=
  match op, q, x, y with
  | .eql, some d, some x, some y => some (.eq false d x y)
  | .neq, some d, some x, some y => some (.eq true d x y)
  | _, _, _, _ => none

def cOp (nt : Nat) (o : Oper) : Option ROp :=
  let u := cOpd P.globals.size nt
  match o.op with
  | .move x | .assign x => match u x with | some a => some (.mov a) | none => none
  | .pick c x y => match u c, u x, u y with | some c, some x, some y => some (.pick c x y) | _, _, _ => none
  | .alloc e => match cZero P e with | some z => some (.new e z) | none => none
  | .box e x => match u x with | some a => some (.box e a) | none => none
  | .build t ps =>
    match cZero P t, P.underlying t with
    | some z, some (.struct fs) => match cPlaces P fs.toList with
      | some pl => match cParts P nt (pl[·]?) ps.toList with | some l => some (.build z l) | none => none
      | none => none
    | some z, some (.array _ e) => match cSize P e with
      | some s => match cParts P nt (fun i => some (i * s, s)) ps.toList with | some l => some (.build z l) | none => none
      | none => none
    | _, _ => none
  | .buildSlice t len ps =>
    match P.underlying t with
    | some (.slice e) => match cSize P e, cZero P e with
      | some s, some z => if z.length = s ∧ 0 < s ∧ len * s ≤ 2 ^ 24 then
          match cParts P nt (fun i => some (i * s, s)) ps.toList with | some l => some (.buildSlice e s len (List.replicate len z).flatten l) | none => none
        else none
      | _, _ => none
    | _ => none
  | .load t a => match cAgg P t, u a with | some g, some a => some (.load g a) | _, _ => none
  | .store t a x => match cSize P t, u a, u x with | some n, some a, some x => some (.store n a x) | _, _, _ => none
  | .nilCheck x => match u x with | some a => some (.nilCheck a) | none => none
  | .binOp op t x y _ =>
    match P.underlying t with
    | some (.int _) | some .string => match u x, u y with | some x, some y => some (.bin op x y) | _, _ => none
    | _ => cEqOp op (cEq P 60 t) (u x) (u y)
  | .unOp op _ x => match u x with | some a => some (.un op a) | none => none
  | .convert s d x =>
    match P.underlying s, P.underlying d, u x with
    | some (.int _), some (.int k), some a => some (.convInt k a)
    | some (.slice e), some .string, some a => match P.underlying e, cSize P e with | some (.int .u8), some 1 => some (.bytesToStr a) | _, _ => none
    | some .string, some (.slice e), some a => match P.underlying e, cSize P e with | some (.int .u8), some 1 => some (.strToBytes e a) | _, _ => none
    | some (.pointer t), some .unsafePointer, some a => (cSize P t).map fun s => .uptr t s a
    | some .unsafePointer, some (.pointer t), some a => (cSize P t).map fun s => .uptr t s a
    | _, _, _ => none
  | .makeInterface t x => match P.underlying t, u x with
    | some (.interface _), _ => none
    | some _, some a => some (.mkIface t a)
    | _, _ => none
  | .makeFunc fn a b => match cOpds P.globals.size nt a.toList, cOpds P.globals.size nt b.toList with | some a, some b => some (.mkFunc fn a b) | _, _ => none
  | .makeSlice t l c => match P.underlying t with
    | some (.slice e) => match cSize P e, cZero P e, cBytes P e, u l, u c with
      | some s, some z, some b, some l, some c => if z.length = s ∧ 0 < s then some (.makeSlice e z b l c) else none
      | _, _, _, _, _ => none
    | _ => none
  | .slice t x lo hi mx => match u x, cOpt P.globals.size nt lo, cOpt P.globals.size nt hi, cOpt P.globals.size nt mx with
    | some x, some lo, some hi, some mx => match P.underlying t with
      | some .string => match mx with | none => some (.sliceStr x lo hi) | some _ => none
      | some (.slice e) => (cSize P e).map fun s => .sliceS s x lo hi mx
      | some (.array n e) => (cSize P e).map fun s => .sliceArr n s x lo hi mx
      | _ => none
    | _, _, _, _ => none
  | .fieldAddr t x f => match P.underlying t, u x with
    | some (.struct fs), some a => match fs[f]? with
      | some f => match cSize P f.type with
        | some n => if n = 0 then none else some (.fieldAddr f.offset a)
        | none => none
      | none => none
    | _, _ => none
  | .field t x f => match P.underlying t, u x with
    | some (.struct fs), some a => match fs[f]? with
      | some f => match cAgg P f.type with | some g => some (.field g f.offset a) | none => none
      | none => none
    | _, _ => none
  | .indexAddr t x i => match P.underlying t, u x, u i with
    | some (.slice e), some x, some i => (cSize P e).map fun s => .idxS s x i
    | some (.array n e), some x, some i => (cSize P e).map fun s => .idxA n s x i
    | _, _, _ => none
  | .index t x i => match P.underlying t, u x, u i with
    | some .string, some x, some i => some (.indexStr x i)
    | some (.array n e), some x, some i => match cAgg P e, cSize P e with
      | some g, some s => some (.indexA n s g.isSome x i)
      | _, _ => none
    | _, _, _ => none
  | .extract x i => match u x with | some a => some (.extract a i) | none => none
  | .call { callee := .value f, args, .. } => match u f, cOpds P.globals.size nt args.toList with | some f, some l => some (.call f l) | _, _ => none
  | .call { callee := .builtin b, args, argTypes } =>
    match b with
    | .len => match argTypes[0]?, args[0]? with
      | some t, some x => match P.underlying t, u x with
        | some .string, some a => some (.lenStr a)
        | some (.slice _), some a => some (.lenS a)
        | some (.array n _), _ => some (.lenA n)
        | _, _ => none
      | _, _ => none
    | .append => match argTypes[0]?, argTypes[1]?, args[0]?, args[1]? with
      | some t, some t', some x, some y => match P.underlying t, P.underlying t', u x, u y with
        | some (.slice _), some (.int _), _, _ => none
        | some (.slice e), some _, some x, some y => match cSize P e, cBytes P e, cZero P e with
          | some s, some b, some z => if z.length = s then some (.append e s b x y) else none
          | _, _, _ => none
        | _, _, _, _ => none
      | _, _, _, _ => none
    | .copy => match argTypes[0]?, args[0]?, args[1]? with
      | some t, some x, some y => match P.underlying t, u x, u y with
        | some (.slice e), some x, some y => (cSize P e).map fun s => .copy s x y
        | _, _, _ => none
      | _, _, _ => none
    | .unsafeSliceData => match argTypes[0]?, args[0]?, args[1]? with
      | some t, some x, none => match P.underlying t, u x with
        | some (.slice e), some x => (cSize P e).map fun s => .sliceData s x
        | _, _ => none
      | _, _, _ => none
    | .unsafeString => match argTypes[0]?, args[0]?, args[1]?, args[2]? with
      | some t, some x, some y, none => match P.underlying t, u x, u y with
        | some (.pointer e), some x, some y => match P.underlying e, cSize P e with | some (.int .u8), some 1 => some (.unsafeStr e x y) | _, _ => none
        | _, _, _ => none
      | _, _, _, _ => none
    | .min => match cOpds P.globals.size nt args.toList with | some l => some (.minmax false l) | none => none
    | .max => match cOpds P.globals.size nt args.toList with | some l => some (.minmax true l) | none => none
    | _ => none
  | _ => none

def cGuard (nt : Nat) (ops : Array Oper) : Option (Nat × Bool) → Option (Option (Nat × Bool))
  | none => some none
  | some (j, b) => match (ops[j]?).bind (·.dst) with
    | some t => if t < nt then some (some (t, b)) else none
    | none => none

def cDst (nt : Nat) : Option Tmp → Option (Option Nat)
  | none => some none
  | some d => if d < nt then some (some d) else none

def cOpers (nt : Nat) (ops : Array Oper) : List Oper → Option (List ROper)
  | [] => some []
  | o :: os => match cOp P nt o, cDst nt o.dst, cGuard nt ops o.guard, cOpers nt ops os with
    | some op, some dst, some guard, some l => some ({ dst, op, guard } :: l)
    | _, _, _, _ => none

/-- Which bits of a mask are right: each is an edge's, or a bit of an edge's mask. -/
def maskOk (masks : List Nat) (after : List Edge) (j : Nat) : Bool :=
  after.all (fun e => !(Region.binds .any e) || decide (e.on < j)) &&
  (List.range masks.length).all fun i => !((masks.getD j 0).testBit i) || after.any fun e => Region.binds .any e && decide (e.on < j) && (Nat.beq e.on i || (masks.getD e.on 0).testBit i)

def masksOk (masks : List Nat) : List Oper → Nat → Bool
  | [], _ => true
  | o :: os, j => maskOk masks o.after.toList j && masksOk masks os (j + 1)

def items : List ROper → List Nat → List Nat → List DItem
  | o :: os, b :: bs, bad =>
    let pre := !(Nat.beq o.op.kind 2) && o.looks.all fun t => !(bad.contains t)
    { o, b, cls := if Nat.beq o.op.kind 3 && !pre then 2 else o.op.kind, pre } :: items os bs (if pre then bad else match o.dst with | some d => d :: bad | none => bad)
  | _, _, _ => []

def cDraw (ops : List Oper) (masks : List Nat) (l : List ROper) : Option RCode :=
  if Nat.beq masks.length ops.length && masksOk masks ops 0 && orderOk (items l masks []) [] then some (.dregion (items l masks [])) else none

def cCode (nt : Nat) : Code → Option RCode
  | .skip => some .skip
  | .label _ => some .label
  | .region _ ops false => match cOpers P nt ops ops.toList with | some l => some (.region l) | none => some .fail
  | .region _ ops true => match cOpers P nt ops ops.toList with
    | some l => match cDraw ops.toList (Region.before ops).toList l with | some c => some c | none => some .fail
    | none => some .fail
  | .seq a b => match cCode nt a, cCode nt b with | some a, some b => some (.seq a b) | _, _ => none
  | .cond c t e => match cOpd P.globals.size nt c, cCode nt t, cCode nt e with | some c, some t, some e => some (.cond c t e) | _, _, _ => none
  | .block id b => match cCode nt b with | some b => some (.block id b) | none => none
  | .loop b => match cCode nt b with | some b => some (.loop b) | none => none
  | .scope b => match cCode nt b with | some b => some (.scope b) | none => none
  | .exit id => some (.exit id)
  | .ret => some .ret
  | _ => some .fail

def cRes (nt : Nat) : List ResultVar → Option (List RRes)
  | [] => some []
  | .tmp t :: rs => match cRes nt rs with | some l => if t < nt then some (.tmp t :: l) else none | none => none
  | .cell a t :: rs => match cAgg P t, cRes nt rs with | some g, some l => if a < nt then some (.cell a g :: l) else none | _, _ => none

def cFunc (fn : Func) : Option RFunc :=
  if fn.name == "runtime.NumGoroutine" then none else
  match fn.body with
  | some c => match cCode P fn.ntmps c, cRes P fn.ntmps fn.results.toList with
    | some c, some r => some { nt := fn.ntmps, body := .code c, results := r }
    | _, _ => none
  | none => none
end
end Go.Am
