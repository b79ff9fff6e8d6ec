/- Functions without a body. -/
import Derived.Test.YtofdnhdoblpniaaDoorAmCore
import Derived.Lib.Bytealg
set_option linter.unusedSimpArgs false
set_option linter.unusedVariables false
namespace Go.Am
open Go

/-- What a function makes of the bytes of a slice or a string. -/
def aBytesFn (f : List UInt8 → AVal) : AVal → M AVal
  | .nslice => M.pure (f [])
  | .str s => M.pure (f s.data.toList)
  | .slice r off len _ s => if s ≠ 1 then M.fail else M.bind (aRow r) fun (cs, _) => if off + len ≤ cs.length then match bytesOf ((cs.drop off).take len) with
      | some l => M.pure (f l)
      | none => M.fail
    else M.fail
  | _ => M.fail
def aCount : List AVal → M AVal
  | [x, .int .u8 b] => aBytesFn (fun l => .int .i64 (Lib.countByte l (UInt8.ofNat b.toNat))) x
  | _ => M.fail
def aIndexByte : List AVal → M AVal
  | [x, .int .u8 b] => aBytesFn (fun l => .int .i64 (Lib.indexByte l (UInt8.ofNat b.toNat))) x
  | _ => M.fail
def aSelf : List AVal → M AVal
  | [x] => M.pure x
  | _ => M.fail
end Go.Am
